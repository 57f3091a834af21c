/-
  Own words for blocks in memory: a block known whole; what is not touched while some blocks turn.
-/
import Derived.Test.YtlecihbclkohjaaEq
import Derived.Test.YtlecihbclkohjaaRows
import Derived.Deep.MidRow

namespace Go.Proofs.Ytlecihbclkohjaa

open Go.RowKit

set_option linter.unusedVariables false

/-- A block known whole. -/
def Blk (w : World) (g : Nat) (t : TypeId) (cs : List Value) : Prop := w.heap[g]? = some (.cells cs.toArray t (0, 0))

theorem Blk.cell {w : World} {g : Nat} {t : TypeId} {cs : List Value} (h : Blk w g t cs) {i : Nat} {v : Value} (hv : cs[i]? = some v) : w.cell? ⟨g, i, none⟩ = some v := by
  rw [cell_of_row w g i cs.toArray t (0, 0) h]; simpa using hv

theorem Blk.free {w : World} {g : Nat} {t : TypeId} {cs : List Value} (h : Blk w g t cs) (i : Nat) : w.frozen? ⟨g, i, none⟩ = false := frozen_of_row w g i cs.toArray t h

theorem Blk.set_ {w : World} {g : Nat} {t : TypeId} {cs : List Value} (h : Blk w g t cs) (i : Nat) (v : Value) : Blk (w.setCell ⟨g, i, none⟩ v) g t (cs.set i v) := by
  unfold Blk at h ⊢
  simp [World.setCell, Array.getElem?_modify, h]

theorem Blk.far {w : World} {g : Nat} {t : TypeId} {cs : List Value} (h : Blk w g t cs) {p : Addr} (hp : g ≠ p.block) (v : Value) : Blk (w.setCell p v) g t cs := (Below.heap_setCell w p v g hp).trans h

theorem Blk.below {w w' : World} {g B : Nat} {t : TypeId} {cs : List Value} (h : Blk w g t cs) (hb : Below B w w') (hg : g < B) : Blk w' g t cs := (hb.block g hg).trans h

theorem Blk.lt {w : World} {g : Nat} {t : TypeId} {l : List Value} (h : Blk w g t l) : g < w.heap.size := by
  rcases Nat.lt_or_ge g w.heap.size with hlt | hge
  · exact hlt
  · unfold Blk at h; rw [Array.getElem?_eq_none hge] at h; cases h

theorem Blk.setMore {w : World} {g : Nat} {t : TypeId} (vs : List Value) : ∀ {w : World} {o : Nat} {cs : List Value}, Blk w g t cs → o + vs.length ≤ cs.length → Blk (w.setCells g o vs) g t (cs.take o ++ vs ++ cs.drop (o + vs.length)) := by
  induction vs with
  | nil => intro w o cs h hl; simpa [World.setCells] using h
  | cons v vs ih =>
    intro w o cs h hl
    have hl' : o + 1 + vs.length ≤ cs.length := by simp at hl; omega
    have := ih (w := w.setCell ⟨g, o, none⟩ v) (o := o + 1) (cs := cs.set o v) (h.set_ o v) (by rw [List.length_set]; exact hl')
    rw [World.setCells]
    have e1 : (cs.set o v).take (o + 1) = cs.take o ++ [v] := by
      rw [List.take_succ_eq_append_getElem (by rw [List.length_set]; omega), List.take_set_of_le (by omega), List.getElem_set_self]
    have e2 : (cs.set o v).drop (o + 1 + vs.length) = cs.drop (o + (v :: vs).length) := by
      rw [List.drop_set_of_lt (by omega), List.length_cons]; congr 1; omega
    rw [e1, e2] at this
    simpa using this

theorem Blk.setAll {w : World} {g : Nat} {t : TypeId} {cs vs : List Value} (h : Blk w g t cs) (hl : vs.length = cs.length) : Blk (w.setCells g 0 vs) g t vs := by
  have := Blk.setMore (w := w) vs h (o := 0) (by omega)
  rw [Nat.zero_add, List.drop_of_length_le (by omega)] at this
  simpa using this

theorem Below.setCells {B : Nat} {a : World} {g : Nat} (hg : B ≤ g) (vs : List Value) : ∀ {w : World} {o : Nat}, Below B a w → Below B a (w.setCells g o vs) := by
  induction vs with
  | nil => intro w o h; exact h
  | cons v vs ih => intro w o h; rw [World.setCells]; exact ih (h.setCell hg v)

theorem Blk.farAll {g g' : Nat} {t : TypeId} {cs : List Value} (hg : g ≠ g') (vs : List Value) : ∀ {w : World} {o : Nat}, Blk w g t cs → Blk (w.setCells g' o vs) g t cs := by
  induction vs with
  | nil => intro w o h; exact h
  | cons v vs ih => intro w o h; rw [World.setCells]; exact ih (h.far hg v)

theorem Blk.there {w : World} {g : Nat} {t : TypeId} {cs : List Value} (h : Blk w g t cs) : w.there g 0 cs.length := by
  intro j hj
  rw [Nat.zero_add]
  exact ⟨by rw [h.cell (List.getElem?_eq_getElem hj)]; rfl, h.free j⟩

theorem Blk.new {w : World} {g : Nat} {t : TypeId} {cs : Array Value} {l : List Value} (h : l.toArray = cs) (hg : w.heap.size = g) : Blk (w.alloc (.cells cs t)) g t l := by
  subst h hg; exact heap_alloc_new w _

theorem Blk.old {w : World} {g : Nat} {t : TypeId} {l : List Value} (h : Blk w g t l) (o : Obj) : Blk (w.alloc o) g t l := by
  have hl : g < w.heap.size := by
    rcases Nat.lt_or_ge g w.heap.size with hlt | hge
    · exact hlt
    · unfold Blk at h; rw [Array.getElem?_eq_none hge] at h; cases h
  exact (Below.heap_alloc w o g hl).trans h

theorem Blk.thereAt {w : World} {g : Nat} {t : TypeId} {cs : List Value} (h : Blk w g t cs) {o n : Nat} (hn : o + n ≤ cs.length) : w.there g o n := by
  intro j hj
  exact ⟨by rw [h.cell (List.getElem?_eq_getElem (show o + j < cs.length by omega))]; rfl, h.free _⟩

theorem Blk.range {w : World} {g : Nat} {t : TypeId} {cs : List Value} (h : Blk w g t cs) : w.rangeAt g 0 cs := fun j v hv => by
  rw [Nat.zero_add]; exact h.cell hv

/-- Of the old blocks only such of 'S' are not as they were. -/
structure Out (S : Nat → Prop) (w w' : World) : Prop where
  os : w'.os = w.os
  tape : w'.tape = w.tape
  output : w'.output = w.output
  size : w.heap.size ≤ w'.heap.size
  block : ∀ i, i < w.heap.size → ¬ S i → w'.heap[i]? = w.heap[i]?

section

variable {S S' : Nat → Prop} {a b c w w' : World}

theorem Out.refl (S : Nat → Prop) (w : World) : Out S w w := ⟨rfl, rfl, rfl, Nat.le_refl _, fun _ _ _ => rfl⟩

theorem Out.trans (h : Out S a b) (k : Out S' b c) (hs : ∀ i, i < a.heap.size → S' i → S i) : Out S a c :=
  ⟨k.os.trans h.os, k.tape.trans h.tape, k.output.trans h.output, Nat.le_trans h.size k.size, fun i hi hn => (k.block i (Nat.lt_of_lt_of_le hi h.size) fun e => hn (hs i hi e)).trans (h.block i hi hn)⟩

theorem Out.ofBelow (S : Nat → Prop) (h : Below w.heap.size w w') : Out S w w' := ⟨h.os, h.tape, h.output, h.size, fun i hi _ => h.block i hi⟩

theorem Out.then_below (h : Out S a b) (k : Below b.heap.size b c) : Out S a c := h.trans (Out.ofBelow S k) fun _ _ e => e

theorem Out.then_grown (h : Out S a b) {row : Option Nat} (k : b.grownBy c row) (hr : ∀ i, row = some i → i < a.heap.size → S i) : Out S a c :=
  ⟨k.os.trans h.os, k.tape.trans h.tape, k.output.trans h.output, Nat.le_trans h.size k.size, fun i hi hn => (k.block i (Nat.lt_of_lt_of_le hi h.size) fun e => hn (hr i e.symm hi)).trans (h.block i hi hn)⟩

theorem Out.setCell (h : Out S a w) {p : Addr} (hp : p.block < a.heap.size → S p.block) (u : Value) : Out S a (w.setCell p u) := by
  refine ⟨h.os, h.tape, h.output, by simpa [World.setCell] using h.size, fun i hi hn => ?_⟩
  refine (Below.heap_setCell w p u i ?_).trans (h.block i hi hn)
  rintro rfl
  exact hn (hp hi)

theorem Out.drewN (h : Out S a w) (n : Nat) : Out S a (w.drewN n) := ⟨h.os, h.tape, h.output, h.size, h.block⟩

theorem Out.above {B : Nat} (h : Out S w w') (hS : ∀ i, S i → B ≤ i) (hB : B ≤ w.heap.size) : Below B w w' :=
  ⟨h.os, h.tape, h.output, h.size, fun i hi => h.block i (by omega) fun e => by have := hS i e; omega⟩

theorem Out.blk {g : Nat} {t : TypeId} {l : List Value} (h : Out S w w') (hb : Blk w g t l) (hn : ¬ S g) : Blk w' g t l := (h.block g hb.lt hn).trans hb

end

theorem size_cells (vs : List Value) : ∀ (w : World) (b o : Nat), (w.setCells b o vs).heap.size = w.heap.size := by
  induction vs with
  | nil => intro w b o; rfl
  | cons v vs ih => intro w b o; rw [World.setCells, ih]; simp [World.setCell]

end Go.Proofs.Ytlecihbclkohjaa
