/-
  Laid together for a hand-in: Mem, Blk, Ints, OpenB, Sl14.
-/
import Derived.Test.YtenccpccpjjkmaaRows
import Derived.WalkKit
import Derived.WalkSpells
import Derived.WalkLawsBesides
import Derived.Lib.Hide
import Derived.Maps.AppendAt
import Derived.Deep.AppendLies
import Derived.RegionTactic
import Derived.OwnWalk
import Derived.Deep.Draws
import Derived.BigQuiet
import Derived.Deep.QuietTactic
import Derived.Deep.MidRow
import Derived.ProofKit
import Derived.OpenShut
import Derived.ShutString
import Derived.ChangeOld
import Derived.SizedLaws
import Derived.Deep.Slices
import Derived.Deep.RegionHeld3
import Derived.Lib.Bytealg
import Derived.Lib.Small
import Derived.Shelf.SlSortCmp.Insertion

namespace Go.Proofs.Ytenccpccpjjkmaa

open Go.RowKit

set_option linter.unusedVariables false

theorem add_mk (b off j : Nat) : (⟨b, off, none⟩ : Addr).add j = ⟨b, off + j, none⟩ := by
  unfold Addr.add; by_cases h : j = 0 <;> simp [h]

/-- The slice 'A, n' shows the cells 'xs', 'k' for each element, in a block below 'B'. -/
def Shows (w : World) (B k : Nat) (A : Option Addr) (n : Nat) (xs : List Value) : Prop :=
  xs.length = n * k ∧ (0 < n → ∃ b off, A = some ⟨b, off, none⟩ ∧ b < B ∧ ∀ j u, xs[j]? = some u → w.cell? ⟨b, off + j, none⟩ = some u)

section

variable {w w' : World} {B B' k n : Nat} {A : Option Addr} {xs : List Value}

theorem Shows.empty (A : Option Addr) : Shows w B k A 0 [] := ⟨by simp, fun h => absurd h (by omega)⟩

theorem Shows.nilxs (h : Shows w B k A 0 xs) : xs = [] := List.eq_nil_of_length_eq_zero (by simpa using h.1)

theorem Shows.keep (h : Shows w B k A n xs) (hk : ∀ b o, b < B → w'.cell? ⟨b, o, none⟩ = w.cell? ⟨b, o, none⟩) : Shows w' B k A n xs :=
  ⟨h.1, fun hn => let ⟨b, off, e, hb, hc⟩ := h.2 hn; ⟨b, off, e, hb, fun j u hu => (hk b _ hb).trans (hc j u hu)⟩⟩

theorem Shows.more (h : Shows w B k A n xs) (hB : B ≤ B') : Shows w B' k A n xs :=
  ⟨h.1, fun hn => let ⟨b, off, e, hb, hc⟩ := h.2 hn; ⟨b, off, e, by omega, hc⟩⟩

theorem Shows.below (h : Shows w B k A n xs) (hb : Below B w w') : Shows w' B k A n xs := h.keep fun _ _ hp => hb.cell hp

theorem Shows.on (h : Shows w w.heap.size k A n xs) (hb : Below w.heap.size w w') : Shows w' w'.heap.size k A n xs := (h.below hb).more hb.size

theorem Shows.at_ {i : Nat} (h : Shows w B 1 A n xs) (hi : i < n) : ∃ b off u, A = some ⟨b, off, none⟩ ∧ b < B ∧ xs[i]? = some u ∧ w.cell? ⟨b, off + i, none⟩ = some u := by
  obtain ⟨b, off, e, hb, hc⟩ := h.2 (by omega)
  have hl : i < xs.length := by have := h.1; omega
  exact ⟨b, off, xs[i], e, hb, List.getElem?_eq_getElem hl, hc i _ (List.getElem?_eq_getElem hl)⟩

theorem Shows.ofOwn {base : Nat} {e : TypeId} {c : Nat} (h : w.ownsRow base e k (.slice A n c) n xs) : Shows w w.heap.size k A n xs := by
  refine ⟨h.1, fun hn => ?_⟩
  obtain ⟨g, cap, hv, _, hlt⟩ := h.form hn
  have hA : A = some ⟨g, 0, none⟩ := by injection hv
  subst hA
  refine ⟨g, 0, rfl, hlt, fun j u hu => ?_⟩
  have := h.cells (g := g) rfl j u hu
  rwa [add_mk] at this

end

/-- Where a slice begins behind a cut of its first 'm' elements. -/
def cutAt (A : Option Addr) (k m c : Nat) : Option Addr := if c = m then A else A.map (·.add (m * k))

theorem Shows.cut {w : World} {B k n m c : Nat} {A : Option Addr} {xs : List Value} (h : Shows w B k A n xs) (hm : m ≤ n) (hc : n ≤ c) : Shows w B k (cutAt A k m c) (n - m) (xs.drop (m * k)) := by
  refine ⟨by rw [List.length_drop, h.1, Nat.sub_mul], fun hn => ?_⟩
  obtain ⟨b, off, rfl, hb, hcell⟩ := h.2 (by omega)
  unfold cutAt
  rw [if_neg (by omega)]
  refine ⟨b, off + m * k, by rw [Option.map_some, add_mk], hb, fun j u hu => ?_⟩
  rw [Nat.add_assoc]
  exact hcell _ u (by rw [← hu, List.getElem?_drop])

theorem Shows.front {w : World} {B k n m : Nat} {A : Option Addr} {xs : List Value} (h : Shows w B k A n xs) (hm : m ≤ n) : Shows w B k A m (xs.take (m * k)) := by
  have hle : m * k ≤ xs.length := by rw [h.1]; exact Nat.mul_le_mul_right k hm
  refine ⟨by rw [List.length_take]; omega, fun hn => ?_⟩
  obtain ⟨b, off, rfl, hb, hcell⟩ := h.2 (by omega)
  refine ⟨b, off, rfl, hb, fun j u hu => ?_⟩
  by_cases hj : j < m * k
  · rw [List.getElem?_take, if_pos hj] at hu; exact hcell j u hu
  · rw [List.getElem?_take, if_neg hj] at hu; cases hu

/-! ### Bytes -/

def cb (x : UInt8) : Value := .int .u8 (x.toNat : Int)

def cbs (l : List UInt8) : List Value := l.map cb

theorem cbs_length (l : List UInt8) : (cbs l).length = l.length := by simp [cbs]

theorem cbs_get (l : List UInt8) (i : Nat) : (cbs l)[i]? = (l[i]?).map cb := by simp [cbs]

theorem cbs_append (l m : List UInt8) : cbs (l ++ m) = cbs l ++ cbs m := by simp [cbs]

theorem cbs_drop (l : List UInt8) (m : Nat) : cbs (l.drop m) = (cbs l).drop m := by simp [cbs]

theorem cbs_take (l : List UInt8) (m : Nat) : cbs (l.take m) = (cbs l).take m := by simp [cbs]

theorem cbs_one (l : List UInt8) : ∀ u ∈ cbs l, u.oneCell' = true := by
  intro u hu; simp [cbs] at hu; obtain ⟨x, _, rfl⟩ := hu; rfl

/-- The slice 'A' of 'l.length' elements shows the bytes 'l'. -/
def Bs (w : World) (A : Option Addr) (l : List UInt8) : Prop := Shows w w.heap.size 1 A l.length (cbs l)

theorem Bs.on {w w' : World} {A : Option Addr} {l : List UInt8} (h : Bs w A l) (hb : Below w.heap.size w w') : Bs w' A l := Shows.on h hb

theorem Bs.after {w w' : World} {A : Option Addr} {l : List UInt8} (hb : Below w.heap.size w w') (h : Bs w A l) : Bs w' A l := Shows.on h hb

theorem Bs.at_ {w : World} {A : Option Addr} {l : List UInt8} (h : Bs w A l) {i : Nat} (hi : i < l.length) :
    ∃ b off, A = some ⟨b, off, none⟩ ∧ b < w.heap.size ∧ ∀ j (hj : j < l.length), w.cell? ⟨b, off + j, none⟩ = some (.int .u8 (l[j].toNat : Int)) := by
  obtain ⟨b, off, e, hb, hc⟩ := h.2 (by omega)
  refine ⟨b, off, e, hb, fun j hj => ?_⟩
  exact hc j _ (by rw [cbs_get, List.getElem?_eq_getElem hj]; rfl)

theorem Bs.cut {w : World} {A : Option Addr} {l : List UInt8} {m c : Nat} (h : Bs w A l) (hm : m ≤ l.length) (hc : l.length ≤ c) : Bs w (cutAt A 1 m c) (l.drop m) := by
  have := Shows.cut h hm hc
  unfold Bs
  rw [List.length_drop, cbs_drop]
  simpa using this

theorem Bs.front {w : World} {A : Option Addr} {l : List UInt8} {m : Nat} (h : Bs w A l) (hm : m ≤ l.length) : Bs w A (l.take m) := by
  have := Shows.front h hm
  unfold Bs
  rw [List.length_take, Nat.min_eq_left hm, cbs_take]
  simpa using this

theorem Bs.nil (w : World) (A : Option Addr) : Bs w A [] := Shows.empty A

/-- The slice value 'v' shows the bytes 'l' in a row of the call's own, from block 'base' on. -/
def Mine (w : World) (base : Nat) (e : TypeId) (v : Value) (l : List UInt8) : Prop := w.ownsRow base e 1 v l.length (cbs l)

theorem Mine.form {w : World} {base : Nat} {e : TypeId} {v : Value} {l : List UInt8} (h : Mine w base e v l) : ∃ A c, v = .slice A l.length c ∧ l.length ≤ c ∧ c ≤ maxLen ∧ Bs w A l := by
  obtain ⟨h1, h2⟩ := h
  have hh := h2
  rcases h2 with ⟨rfl, hx⟩ | ⟨g, cap, cur, rfl, _, _, hc, hm, _⟩
  · have : l = [] := List.eq_nil_of_length_eq_zero hx
    subst this
    exact ⟨none, 0, rfl, by simp, by simp [maxLen], Bs.nil _ _⟩
  · exact ⟨_, cap, rfl, hc, hm, Shows.ofOwn ⟨h1, hh⟩⟩

theorem Mine.after {w w' : World} {base : Nat} {e : TypeId} {v : Value} {l : List UInt8} (h : Mine w base e v l) (hb : Below w.heap.size w w') : Mine w' base e v l := by
  obtain ⟨h1, h2 | ⟨g, cap, cur, h3, h4, h5, h6⟩⟩ := h
  · exact ⟨h1, .inl h2⟩
  · have hg : g < w.heap.size := by
      rcases Nat.lt_or_ge g w.heap.size with hlt | hge
      · exact hlt
      · rw [Array.getElem?_eq_none hge] at h5; cases h5
    exact ⟨h1, .inr ⟨g, cap, cur, h3, h4, (hb.block g hg).trans h5, h6⟩⟩

section

variable {w : World} {base g n cap : Nat} {e : TypeId} {l : List UInt8}

theorem Mine.cell (h : w.ownsRow base e 1 (.slice (some ⟨g, 0, none⟩) n cap) n (cbs l)) {j : Nat} (hj : j < l.length) : w.cell? ⟨g, j, none⟩ = some (.int .u8 (l[j].toNat : Int)) := by
  have hl : (cbs l).length = n * 1 := h.1
  rw [cbs_length] at hl
  rw [World.ownsRow.cellAt h j (by omega), cbs_get, List.getElem?_eq_getElem hj]
  rfl

theorem Mine.set_ (h : w.ownsRow base e 1 (.slice (some ⟨g, 0, none⟩) n cap) n (cbs l)) (j : Nat) (x : UInt8) (u : Value) (hu : u = cb x) : (w.setCell ⟨g, j, none⟩ u).ownsRow base e 1 (.slice (some ⟨g, 0, none⟩) n cap) n (cbs (l.set j x)) := by
  have := (World.ownsRow.stored h j u).1
  subst hu
  unfold cbs at this ⊢
  rw [List.map_set]
  exact this

end

end Go.Proofs.Ytenccpccpjjkmaa

namespace Go.Proofs.Ytenccpccpjjkmaa

open Go.RowKit

set_option linter.unusedVariables false

theorem below_drewN {B : Nat} {a w : World} (h : Below B a w) (n : Nat) : Below B a (w.drewN n) := ⟨h.os, h.tape, h.output, h.size, h.block⟩

/-- A block known whole. -/
def Blk (w : World) (g : Nat) (t : TypeId) (cs : List Value) : Prop := w.heap[g]? = some (.cells cs.toArray t (0, 0))

theorem Blk.cell {w : World} {g : Nat} {t : TypeId} {cs : List Value} (h : Blk w g t cs) {i : Nat} {v : Value} (hv : cs[i]? = some v) : w.cell? ⟨g, i, none⟩ = some v := by
  rw [cell_of_row w g i cs.toArray t (0, 0) h]; simpa using hv

theorem Blk.free {w : World} {g : Nat} {t : TypeId} {cs : List Value} (h : Blk w g t cs) (i : Nat) : w.frozen? ⟨g, i, none⟩ = false := frozen_of_row w g i cs.toArray t h

theorem Blk.set_ {w : World} {g : Nat} {t : TypeId} {cs : List Value} (h : Blk w g t cs) (i : Nat) (v : Value) : Blk (w.setCell ⟨g, i, none⟩ v) g t (cs.set i v) := by
  unfold Blk at h ⊢
  simp [World.setCell, Array.getElem?_modify, h]

theorem Blk.far {w : World} {g : Nat} {t : TypeId} {cs : List Value} (h : Blk w g t cs) {p : Addr} (hp : g ≠ p.block) (v : Value) : Blk (w.setCell p v) g t cs := (Below.heap_setCell w p v g hp).trans h

theorem Blk.below {w w' : World} {g B : Nat} {t : TypeId} {cs : List Value} (h : Blk w g t cs) (hb : Below B w w') (hg : g < B) : Blk w' g t cs := (hb.block g hg).trans h

theorem Blk.lt {w : World} {g : Nat} {t : TypeId} {l : List Value} (h : Blk w g t l) : g < w.heap.size := by
  rcases Nat.lt_or_ge g w.heap.size with hlt | hge
  · exact hlt
  · unfold Blk at h; rw [Array.getElem?_eq_none hge] at h; cases h

theorem Blk.setMore {w : World} {g : Nat} {t : TypeId} (vs : List Value) : ∀ {w : World} {o : Nat} {cs : List Value}, Blk w g t cs → o + vs.length ≤ cs.length → Blk (w.setCells g o vs) g t (cs.take o ++ vs ++ cs.drop (o + vs.length)) := by
  induction vs with
  | nil => intro w o cs h hl; simpa [World.setCells] using h
  | cons v vs ih =>
    intro w o cs h hl
    have hl' : o + 1 + vs.length ≤ cs.length := by simp at hl; omega
    have := ih (w := w.setCell ⟨g, o, none⟩ v) (o := o + 1) (cs := cs.set o v) (h.set_ o v) (by rw [List.length_set]; exact hl')
    rw [World.setCells]
    have e1 : (cs.set o v).take (o + 1) = cs.take o ++ [v] := by
      rw [List.take_succ_eq_append_getElem (by rw [List.length_set]; omega), List.take_set_of_le (by omega), List.getElem_set_self]
    have e2 : (cs.set o v).drop (o + 1 + vs.length) = cs.drop (o + (v :: vs).length) := by
      rw [List.drop_set_of_lt (by omega), List.length_cons]; congr 1; omega
    rw [e1, e2] at this
    simpa using this

theorem Blk.setAll {w : World} {g : Nat} {t : TypeId} {cs vs : List Value} (h : Blk w g t cs) (hl : vs.length = cs.length) : Blk (w.setCells g 0 vs) g t vs := by
  have := Blk.setMore (w := w) vs h (o := 0) (by omega)
  rw [Nat.zero_add, List.drop_of_length_le (by omega)] at this
  simpa using this

theorem Below.setCells {B : Nat} {a : World} {g : Nat} (hg : B ≤ g) (vs : List Value) : ∀ {w : World} {o : Nat}, Below B a w → Below B a (w.setCells g o vs) := by
  induction vs with
  | nil => intro w o h; exact h
  | cons v vs ih => intro w o h; rw [World.setCells]; exact ih (h.setCell hg v)

theorem Blk.farAll {g g' : Nat} {t : TypeId} {cs : List Value} (hg : g ≠ g') (vs : List Value) : ∀ {w : World} {o : Nat}, Blk w g t cs → Blk (w.setCells g' o vs) g t cs := by
  induction vs with
  | nil => intro w o h; exact h
  | cons v vs ih => intro w o h; rw [World.setCells]; exact ih (h.far hg v)

theorem Blk.there {w : World} {g : Nat} {t : TypeId} {cs : List Value} (h : Blk w g t cs) : w.there g 0 cs.length := by
  intro j hj
  rw [Nat.zero_add]
  exact ⟨by rw [h.cell (List.getElem?_eq_getElem hj)]; rfl, h.free j⟩

theorem Blk.new {w : World} {g : Nat} {t : TypeId} {cs : Array Value} {l : List Value} (h : l.toArray = cs) (hg : w.heap.size = g) : Blk (w.alloc (.cells cs t)) g t l := by
  subst h hg; exact heap_alloc_new w _

theorem Blk.old {w : World} {g : Nat} {t : TypeId} {l : List Value} (h : Blk w g t l) (o : Obj) : Blk (w.alloc o) g t l := by
  have hl : g < w.heap.size := by
    rcases Nat.lt_or_ge g w.heap.size with hlt | hge
    · exact hlt
    · unfold Blk at h; rw [Array.getElem?_eq_none hge] at h; cases h
  exact (Below.heap_alloc w o g hl).trans h

theorem Blk.thereAt {w : World} {g : Nat} {t : TypeId} {cs : List Value} (h : Blk w g t cs) {o n : Nat} (hn : o + n ≤ cs.length) : w.there g o n := by
  intro j hj
  exact ⟨by rw [h.cell (List.getElem?_eq_getElem (show o + j < cs.length by omega))]; rfl, h.free _⟩

theorem Blk.range {w : World} {g : Nat} {t : TypeId} {cs : List Value} (h : Blk w g t cs) : w.rangeAt g 0 cs := fun j v hv => by
  rw [Nat.zero_add]; exact h.cell hv

/-- Of the old blocks only such of 'S' are not as they were. -/
structure Out (S : Nat → Prop) (w w' : World) : Prop where
  os : w'.os = w.os
  tape : w'.tape = w.tape
  output : w'.output = w.output
  size : w.heap.size ≤ w'.heap.size
  block : ∀ i, i < w.heap.size → ¬ S i → w'.heap[i]? = w.heap[i]?

section

variable {S S' : Nat → Prop} {a b c w w' : World}

theorem Out.refl (S : Nat → Prop) (w : World) : Out S w w := ⟨rfl, rfl, rfl, Nat.le_refl _, fun _ _ _ => rfl⟩

theorem Out.trans (h : Out S a b) (k : Out S' b c) (hs : ∀ i, i < a.heap.size → S' i → S i) : Out S a c :=
  ⟨k.os.trans h.os, k.tape.trans h.tape, k.output.trans h.output, Nat.le_trans h.size k.size, fun i hi hn => (k.block i (Nat.lt_of_lt_of_le hi h.size) fun e => hn (hs i hi e)).trans (h.block i hi hn)⟩

theorem Out.ofBelow (S : Nat → Prop) (h : Below w.heap.size w w') : Out S w w' := ⟨h.os, h.tape, h.output, h.size, fun i hi _ => h.block i hi⟩

theorem Out.then_below (h : Out S a b) (k : Below b.heap.size b c) : Out S a c := h.trans (Out.ofBelow S k) fun _ _ e => e

theorem Out.then_grown (h : Out S a b) {row : Option Nat} (k : b.grownBy c row) (hr : ∀ i, row = some i → i < a.heap.size → S i) : Out S a c :=
  ⟨k.os.trans h.os, k.tape.trans h.tape, k.output.trans h.output, Nat.le_trans h.size k.size, fun i hi hn => (k.block i (Nat.lt_of_lt_of_le hi h.size) fun e => hn (hr i e.symm hi)).trans (h.block i hi hn)⟩

theorem Out.setCell (h : Out S a w) {p : Addr} (hp : p.block < a.heap.size → S p.block) (u : Value) : Out S a (w.setCell p u) := by
  refine ⟨h.os, h.tape, h.output, by simpa [World.setCell] using h.size, fun i hi hn => ?_⟩
  refine (Below.heap_setCell w p u i ?_).trans (h.block i hi hn)
  rintro rfl
  exact hn (hp hi)

theorem Out.drewN (h : Out S a w) (n : Nat) : Out S a (w.drewN n) := ⟨h.os, h.tape, h.output, h.size, h.block⟩

theorem Out.above {B : Nat} (h : Out S w w') (hS : ∀ i, S i → B ≤ i) (hB : B ≤ w.heap.size) : Below B w w' :=
  ⟨h.os, h.tape, h.output, h.size, fun i hi => h.block i (by omega) fun e => by have := hS i e; omega⟩

theorem Out.blk {g : Nat} {t : TypeId} {l : List Value} (h : Out S w w') (hb : Blk w g t l) (hn : ¬ S g) : Blk w' g t l := (h.block g hb.lt hn).trans hb

end

theorem size_cells (vs : List Value) : ∀ (w : World) (b o : Nat), (w.setCells b o vs).heap.size = w.heap.size := by
  induction vs with
  | nil => intro w b o; rfl
  | cons v vs ih => intro w b o; rw [World.setCells, ih]; simp [World.setCell]

end Go.Proofs.Ytenccpccpjjkmaa

namespace Go.Proofs.Ytenccpccpjjkmaa

open Go.ChangeShapes Go.WideShapes Go.ChangeAt Go.RowKit

set_option linter.unusedVariables false

theorem own : ownKnob Try.prog.godebug = none := by kernel_rfl

theorem laidOut : laidOutB Try.prog = true := by kernel_rfl

def ci (x : Int) : Value := .int .i64 x

def cis (l : List Int) : List Value := l.map ci

theorem cis_length (l : List Int) : (cis l).length = l.length := by simp [cis]

theorem cis_get (l : List Int) (i : Nat) : (cis l)[i]? = (l[i]?).map ci := by simp [cis]

abbrev Wf (x : Int) : Prop := (Lit.int .i64 x).wf = true

theorem bounds_i64 {x : Int} (h : Wf x) : -9223372036854775808 ≤ x ∧ x ≤ 9223372036854775807 := by
  simp [Wf, Lit.wf, IntKind.min, IntKind.max, IntKind.signed, IntKind.bits] at h
  omega

/-- The slice 'A' of l.length elements shows the numbers 'l'. -/
def Is (w : World) (A : Option Addr) (l : List Int) : Prop := Shows w w.heap.size 1 A l.length (cis l)

theorem Is.after {w w' : World} {A : Option Addr} {l : List Int} (hb : Below w.heap.size w w') (h : Is w A l) : Is w' A l := Shows.on h hb

theorem Is.at_ {w : World} {A : Option Addr} {l : List Int} (h : Is w A l) {i : Nat} (hi : i < l.length) :
    ∃ b off, A = some ⟨b, off, none⟩ ∧ b < w.heap.size ∧ ∀ j (hj : j < l.length), w.cell? ⟨b, off + j, none⟩ = some (.int .i64 l[j]) := by
  obtain ⟨b, off, e, hb, hc⟩ := h.2 (by omega)
  refine ⟨b, off, e, hb, fun j hj => ?_⟩
  exact hc j _ (by rw [cis_get, List.getElem?_eq_getElem hj]; rfl)

def ArgI (w : World) (A : Option Addr) (n c : Nat) (l : List Int) : Prop := l.length = n ∧ n ≤ c ∧ c ≤ maxLen ∧ Is w A l ∧ ∀ x ∈ l, Wf x

theorem ArgI.after {w w' : World} {A : Option Addr} {n c : Nat} {l : List Int} (h : ArgI w A n c l) (hb : Below w.heap.size w w') : ArgI w' A n c l := ⟨h.1, h.2.1, h.2.2.1, h.2.2.2.1.after hb, h.2.2.2.2⟩

section

variable {H : Type} {enc : TypeId × Value → H} {w : World} {x : DataW H × List MemPlace} {cs : List Value} {fuel : Nat}

theorem spot_of {a : Addr} {v : Value} (h : w.cell? (a.add 0) = some v) : a.spot = none := by
  have := World.cell?_spot h
  unfold Addr.add at this
  simpa using this

theorem trodI (h : DataW.trod enc Try.prog w 0 (fun _ => true) true fuel 22 cs = some x) : ∃ A n c l, cs = [.slice A n c] ∧ ArgI w A n c l := by
  rcases open_ints Try.underlying22 Try.underlying3 (by kernel_rfl) h with ⟨rfl, _⟩ | ⟨a, n, c, zs, rfl, _, hl, hm, hz, _, hcell, hwz⟩
  · exact ⟨none, 0, 0, [], rfl, rfl, Nat.le_refl _, by simp [maxLen], Shows.empty _, fun _ h => by simp at h⟩
  · have hz' : zs.length = c := by simpa using hz
    refine ⟨some a, n, c, zs.take n, rfl, by simp; omega, hl, hm, ?_, fun z hz => hwz z (List.mem_of_mem_take hz)⟩
    refine ⟨by simp [cis], fun hn => ?_⟩
    simp at hn
    have hsp := spot_of (hcell 0 (by omega))
    obtain ⟨b, off, spot⟩ := a
    simp only at hsp
    subst hsp
    refine ⟨b, off, rfl, ?_, ?_⟩
    · have := World.block_lt_of_cell? w _ (hcell 0 (by omega))
      rw [add_mk] at this
      exact this
    · intro j u hu
      simp only [cis, List.getElem?_map, Option.map_eq_some_iff] at hu
      obtain ⟨z, hz1, rfl⟩ := hu
      have hj : j < n ∧ j < zs.length := by
        rcases Nat.lt_or_ge j (zs.take n).length with h | h
        · simp at h; omega
        · rw [List.getElem?_eq_none h] at hz1; cases hz1
      have hzz : zs[j]? = some z := by rw [List.getElem?_take, if_pos hj.1] at hz1; exact hz1
      have hcj := hcell j hj.2
      rw [add_mk] at hcj
      rw [hcj]
      have hg : zs.getD j 0 = z := by simp [List.getD, hzz]
      rw [hg]
      rfl

theorem openI {A : Option Addr} {n c : Nat} {d : DataW H} {p : List MemPlace} (h : DataW.Trod enc Try.prog w 0 (fun _ => true) true 22 (.slice A n c) d p) : ∃ l, ArgI w A n c l := by
  obtain ⟨fuel, hf⟩ := h
  obtain ⟨A', n', c', l, e, ha⟩ := trodI hf
  simp [Value.cells] at e
  obtain ⟨rfl, rfl, rfl⟩ := e
  exact ⟨l, ha⟩

end

theorem i64_info : (Try.prog.info? 3).map (fun i => (i.zero, i.size, i.bytes)) = some (some (.int .i64 0), 1, 8) := by kernel_rfl

theorem cis_one (l : List Int) : ∀ u ∈ cis l, u.oneCell' = true := by
  intro u hu; simp [cis] at hu; obtain ⟨x, _, rfl⟩ := hu; rfl

/-- A new slice that shows 'l', in a row made since the world 'w'. -/
def NewI (w : World) (l : List Int) (v : Value) (w' : World) : Prop := w'.ownsRow w.heap.size 3 1 v l.length (cis l) ∧ Below w.heap.size w w'

set_option maxRecDepth 100000 in
theorem run_copyI (w : World) (A : Option Addr) (n c : Nat) (l : List Int) (h : ArgI w A n c l) (hn : n ≤ 17592186043904) (ty : TypeId) :
    ∃ v' w', (Builtin.append_ #[22, 22] ty #[.slice none 0 0, .slice A n c]).run Try.prog w = .ok v' w' ∧ NewI w l v' w' := by
  obtain ⟨h1, h2, h3, h4, _⟩ := h
  subst h1
  obtain ⟨i0, hi, hz0, hz1, hz2⟩ := info_parts i64_info
  cases A with
  | none =>
    have hl : l = [] := by
      cases l with
      | nil => rfl
      | cons x t => obtain ⟨b, off, e, _⟩ := h4.at_ (i := 0) (by simp); cases e
    subst hl
    refine ⟨.slice none 0 0, w, ?_, World.ownsRow_nil _ _ _ _, Below.refl _ _⟩
    simp [Builtin.append_, run_underlying Try.underlying22, sizeOf, typeInfo, hi, Builtin.lenOf, Builtin.firstCells]
  | some ad =>
    have hcells : ∀ j u, (cis l)[j]? = some u → w.cell? (ad.add j) = some u := by
      intro j u hu
      have hj : j < l.length := by
        rcases Nat.lt_or_ge j l.length with h | h
        · exact h
        · rw [List.getElem?_eq_none (by rw [cis_length]; exact h)] at hu; cases hu
      obtain ⟨b, off, e, _, hc⟩ := h4.2 (by omega)
      injection e with e
      subst e
      rw [add_mk]
      exact hc j u hu
    obtain ⟨v', w', q1, q2, q3, _, q5⟩ := run_append_own_at (P := Try.prog) w w.heap.size 22 ty 3 i0 (.int .i64 0) 1 8 Try.underlying22 hi hz0 hz1 hz2 rfl (by decide) (.slice none 0 0) 0 [] (World.ownsRow_nil _ _ _ _) ad l.length c (cis l)
      (by rw [cis_length]; simp) hcells (cis_one l) (by simp only [maxLen]; omega) (by omega) (Nat.le_refl _)
    exact ⟨v', w', q1, by simpa using q2, (Below.refl _ _).grown q3 (Nat.le_refl _) (by simp [Value.ownBlock])⟩

theorem wp_copyI {w : World} {ops : Array Oper} {rest : List Oper} {o : Oper} {a : Act} {Q : Exit → Act → World → Prop} (hgd : o.guard = none) (s x : Operand)
    (ho : o.op = .call { callee := .builtin .append, args := #[s, x], argTypes := #[22, 22] }) (A : Option Addr) (n c : Nat) (l : List Int) (hs : a.eval s = .slice none 0 0) (hx : a.eval x = .slice A n c) (hA : ArgI w A n c l) (hn : n ≤ 17592186043904)
    (h : ∀ v' w', NewI w l v' w' → wpList Try.prog ops Q rest (a.put o.dst v') w') : wpList Try.prog ops Q (o :: rest) a w := by
  obtain ⟨v', w', hrun, h2⟩ := run_copyI w A n c l hA hn o.type
  refine wpList_plain hgd fun K hK => ?_
  unfold Oper.wp execOp
  simp only [ho, resolve, invoke, builtin, Sem.run_bind, Sem.run_pure, Result.andThen_ok, List.map_toArray, List.map_cons, List.map_nil, hs, hx, hrun]
  exact hK _ _ (h v' w' h2)

set_option maxHeartbeats 800000 in
/-- Bring to n: some number from 0 to n - 1, always the same. -/
theorem bring_ex (i n : Int) (h : 0 < n) (hn : n ≤ 4611686018427387904) (hi : Wf i) : ∃ r : Int, 0 ≤ r ∧ r < n ∧ ∀ w, Calls Try.prog 11 #[.int .i64 i, .int .i64 n] w fun e w' => e = .returned (.int .i64 r) ∧ w' = w := by
  have hb := bounds_i64 hi
  clear hi
  have hz : (n == 0) = false := by simp; omega
  by_cases h0 : 0 ≤ i
  · have hm0 := Int.emod_nonneg i (by omega : n ≠ 0)
    have hm1 := Int.emod_lt_of_pos i h
    have ht : i.tmod n = i % n := Int.tmod_eq_emod_of_nonneg h0
    obtain ⟨r, hr⟩ : ∃ r, i % n = r := ⟨_, rfl⟩
    rw [hr] at ht hm0 hm1
    refine ⟨r, hm0, hm1, fun w => ?_⟩
    have Hr := Lib.hid hr
    clear hr
    go_enter Try.func11, Try.ntmps11
    go_wp2
    go_ret
    exact ⟨by first | rfl | (simp [Hr.out]), rfl⟩
  · have e1 : (-i).tmod n = -(i.tmod n) := Int.neg_tmod i n
    have e2 : (-i).tmod n = (-i) % n := Int.tmod_eq_emod_of_nonneg (by omega)
    have hm0 := Int.emod_nonneg (-i) (by omega : n ≠ 0)
    have hm1 := Int.emod_lt_of_pos (-i) h
    have hl0 : i.tmod n ≤ 0 := by omega
    have hl1 : -n < i.tmod n := by omega
    clear hm0 hm1 e1 e2
    obtain ⟨m, hm⟩ : ∃ m, i.tmod n = m := ⟨_, rfl⟩
    rw [hm] at hl0 hl1
    by_cases hs : m < 0
    · refine ⟨m + n, by omega, by omega, fun w => ?_⟩
      have hw : IntKind.i64.wrap (m + n) = m + n := IntWalk.i64_in _ (by omega)
      go_enter Try.func11, Try.ntmps11
      go_wp2
      go_ret
      exact ⟨rfl, rfl⟩
    · refine ⟨m, by omega, by omega, fun w => ?_⟩
      go_enter Try.func11, Try.ntmps11
      go_wp2
      go_ret
      exact ⟨rfl, rfl⟩

/-- Bring to n: some number from 0 to n - 1. -/
theorem bringN_any (i n : Int) (w : World) (h : 0 < n) (hn : n ≤ 1000000) (hi : Wf i) : Calls Try.prog 11 #[.int .i64 i, .int .i64 n] w fun e w' => ∃ r : Int, 0 ≤ r ∧ r < n ∧ e = .returned (.int .i64 r) ∧ w' = w := by
  obtain ⟨r, h1, h2, h3⟩ := bring_ex i n h (by omega) hi
  exact (h3 w).mono fun e w' ⟨he, hw⟩ => ⟨r, h1, h2, he, hw⟩

end Go.Proofs.Ytenccpccpjjkmaa

namespace Go.Proofs.Ytenccpccpjjkmaa
open Go.ChangeShapes Go.WideShapes Go.ChangeAt Go.RowKit
set_option linter.unusedVariables false

theorem bytes_u8 : Try.prog.bytesOf 5 = 1 := by kernel_rfl

/-- A slice of bytes that came in. -/
def ArgB (w : World) (A : Option Addr) (n c : Nat) (l : List UInt8) : Prop := l.length = n ∧ n ≤ c ∧ c ≤ 140737488351232 ∧ Bs w A l

theorem wf_u8 {x : Int} (h : (Lit.int .u8 x).wf = true) : x = (((UInt8.ofNat x.toNat).toNat : Nat) : Int) := by
  have hb := bounds_u8 h
  rw [UInt8.toNat_ofNat', Nat.mod_eq_of_lt (by omega)]
  omega

theorem openB {H : Type} {enc : TypeId × Value → H} {w : World} {A : Option Addr} {n c : Nat} {d : DataW H} {p : List MemPlace}
    (h : DataW.Trod enc Try.prog w 0 (fun _ => true) true 102 (.slice A n c) d p) (hlt : ∀ x ∈ p, x.block < w.heap.size)
    (hs : ∀ elems spare, d = .slice elems spare → elems.length + spare.length ≤ 140737488351232) : ∃ l, ArgB w A n c l := by
  obtain ⟨fuel, hf⟩ := h
  rcases open_ints Try.underlying102 Try.underlying5 (by kernel_rfl) hf with ⟨hcs, _⟩ | ⟨x, l, c', zs, hcs, _, hl, hm, hz, hx, hcell, hwz⟩
  · simp [Value.cells] at hcs
    obtain ⟨rfl, rfl, rfl⟩ := hcs
    exact ⟨[], rfl, Nat.le_refl _, by omega, Bs.nil _ _⟩
  · simp [Value.cells] at hcs
    obtain ⟨rfl, rfl, rfl⟩ := hcs
    simp only [Prod.mk.injEq] at hx
    obtain ⟨hd, hp⟩ := hx
    have hz' : zs.length = c := by simpa using hz
    have hs' := hs _ _ hd
    simp only [lits, List.length_map, List.length_take, List.length_drop] at hs'
    refine ⟨(zs.take n).map fun z => UInt8.ofNat z.toNat, by simp; omega, hl, by omega, ?_⟩
    refine ⟨by simp [cbs], fun hn => ?_⟩
    have h0 := hcell 0 (by simp at hn; omega)
    have hsp : x.spot = none := by
      have := World.cell?_spot h0
      unfold Addr.add at this
      simpa using this
    obtain ⟨b, off, spot⟩ := x
    simp only at hsp
    subst hsp
    refine ⟨b, off, rfl, ?_, ?_⟩
    · have := World.block_lt_of_cell? w _ h0
      rw [add_mk] at this
      exact this
    · intro j u hu
      simp only [cbs, List.map_map, List.getElem?_map, Option.map_eq_some_iff] at hu
      obtain ⟨z, hz1, rfl⟩ := hu
      have hj : j < n ∧ j < zs.length := by
        rcases Nat.lt_or_ge j (zs.take n).length with h | h
        · simp at h; omega
        · rw [List.getElem?_eq_none h] at hz1; cases hz1
      have hzz : zs[j]? = some z := by rw [List.getElem?_take, if_pos hj.1] at hz1; exact hz1
      have hcj := hcell j hj.2
      rw [add_mk] at hcj
      rw [hcj]
      have hmem : z ∈ zs := List.mem_of_getElem? hzz
      have hg : zs.getD j 0 = z := by simp [List.getD, hzz]
      rw [hg]
      show _ = some (Value.int .u8 _)
      rw [← wf_u8 (hwz z hmem)]

/-- What 'x[:min(len(x), 1000)]' leaves of a slice of bytes that came in. -/
theorem cut1000 {w : World} {A : Option Addr} {n c : Nat} {l : List UInt8} (h : ArgB w A n c l) : ∃ m x, x.length = m ∧ m ≤ 1000 ∧ m ≤ c ∧ c ≤ maxLen ∧ Bs w A x ∧
    (∀ ts t w, (Builtin.min_ ts t #[.int .i64 (n : Int), .int .i64 1000]).run Try.prog w = .ok (.int .i64 (m : Int)) w) ∧
    (∀ w, (Instr.sliceAt 102 (.slice A n c) none (some (.int .i64 (m : Int))) none).run Try.prog w = .ok (.slice A m c) w) := by
  obtain ⟨h1, h2, h3, h4⟩ := h
  refine ⟨min n 1000, l.take (min n 1000), by rw [List.length_take]; omega, by omega, by omega, by unfold maxLen; omega, h4.front (by omega), fun ts t w => ?_, fun w => ?_⟩
  · rw [run_min_int2]
    congr 2
    split <;> omega
  · have h1 : ((min n 1000 : Nat) : Int) ≤ c := by omega
    generalize min n 1000 = m at *
    go_simp
end Go.Proofs.Ytenccpccpjjkmaa

namespace Go.Proofs.Ytenccpccpjjkmaa

open Go.Lib Go.Sort

set_option linter.unusedVariables false

set_option linter.unusedSimpArgs false

/-! ### Bytes in their order -/

theorem cmpB_self : ∀ a : List UInt8, compareBytes a a = 0
  | [] => rfl
  | x :: a => by unfold compareBytes; rw [if_neg (by simp [UInt8.lt_irrefl]), if_neg (by simp [UInt8.lt_irrefl]), cmpB_self a]

theorem cmpB_eq : ∀ {a b : List UInt8}, compareBytes a b = 0 → a = b
  | [], [], _ => rfl
  | [], _ :: _, h => by simp [compareBytes] at h
  | _ :: _, [], h => by simp [compareBytes] at h
  | x :: a, y :: b, h => by
    unfold compareBytes at h
    by_cases h1 : x < y
    · rw [if_pos h1] at h; cases h
    · by_cases h2 : y < x
      · rw [if_neg h1, if_pos h2] at h; cases h
      · rw [if_neg h1, if_neg h2] at h
        have : x = y := by rw [UInt8.lt_iff_toNat_lt] at h1 h2; exact UInt8.toNat_inj.1 (by omega)
        rw [this, cmpB_eq h]

theorem cmpB_neg : ∀ a b : List UInt8, compareBytes b a = - compareBytes a b
  | [], [] => rfl
  | [], _ :: _ => rfl
  | _ :: _, [] => rfl
  | x :: a, y :: b => by
    unfold compareBytes
    by_cases h1 : x < y
    · have h2 : ¬ y < x := by rw [UInt8.lt_iff_toNat_lt] at *; omega
      simp [h1, h2]
    · by_cases h2 : y < x
      · simp [h1, h2]
      · rw [if_neg h1, if_neg h2, if_neg h2, if_neg h1]; exact cmpB_neg a b

theorem cmpB_trans : ∀ {a b c : List UInt8}, compareBytes a b < 0 → compareBytes b c < 0 → compareBytes a c < 0
  | [], [], c, h, _ => by simp [compareBytes] at h
  | [], _ :: _, [], _, h => by simp [compareBytes] at h
  | [], _ :: _, _ :: _, _, _ => by simp [compareBytes]
  | _ :: _, [], _, h, _ => by simp [compareBytes] at h
  | _ :: _, _ :: _, [], _, h => by simp [compareBytes] at h
  | x :: a, y :: b, z :: c, h, k => by
    unfold compareBytes at h k ⊢
    simp only [UInt8.lt_iff_toNat_lt] at *
    split at h
    · split at k
      · rw [if_pos (by omega)]; omega
      · split at k
        · omega
        · rw [if_pos (by omega)]; omega
    · split at h
      · omega
      · split at k
        · rw [if_pos (by omega)]; omega
        · split at k
          · omega
          · rw [if_neg (by omega), if_neg (by omega)]; exact cmpB_trans h k

/-! ### What is said in a view -/

structure Vt where
  v : Int
  d : List UInt8
deriving DecidableEq

def Vt.ok (x : Vt) : Prop := 0 ≤ x.v ∧ x.v ≤ 1048576 ∧ x.d.length = 32

def viewB (v : Int) : Bool := decide (0 ≤ v) && decide (v ≤ 1048576)

/-- The error of what is said behind something else. -/
def fol (last : Option Vt) (now : Vt) : Int :=
  match last with
  | none => 0
  | some x => if now.v < x.v then 190 else if x.v = now.v ∧ x.d ≠ now.d then 151 else 0

def ltV (a b : Vt) : Prop := a.v < b.v ∨ (a.v = b.v ∧ compareBytes a.d b.d < 0)

instance (a b : Vt) : Decidable (ltV a b) := by unfold ltV; infer_instance

theorem ltV_irrefl (a : Vt) : ¬ ltV a a := by unfold ltV; rw [cmpB_self]; omega

theorem ltV_trans {a b c : Vt} (h : ltV a b) (k : ltV b c) : ltV a c := by
  unfold ltV at *
  rcases h with h | ⟨h, h'⟩ <;> rcases k with k | ⟨k, k'⟩
  · exact .inl (by omega)
  · exact .inl (by omega)
  · exact .inl (by omega)
  · exact .inr ⟨by omega, cmpB_trans h' k'⟩

theorem ltV_total {a b : Vt} (h : ¬ ltV a b) (k : ¬ ltV b a) : a = b := by
  obtain ⟨v, d⟩ := a
  obtain ⟨v', d'⟩ := b
  unfold ltV at *
  rw [cmpB_neg d d'] at k
  simp only at *
  have e : v = v' := by omega
  subst e
  have : compareBytes d d' = 0 := by omega
  rw [cmpB_eq this]

def ins (x : Vt) : List Vt → List Vt
  | [] => [x]
  | y :: l => if ltV x y then x :: y :: l else y :: ins x l

theorem ins_perm (x : Vt) : ∀ l : List Vt, (ins x l).Perm (x :: l)
  | [] => List.Perm.refl _
  | y :: l => by
    unfold ins
    split
    · exact List.Perm.refl _
    · exact ((ins_perm x l).cons y).trans (List.Perm.swap _ _ _)

theorem ins_sorted {x : Vt} : ∀ {l : List Vt}, l.Pairwise ltV → x ∉ l → (ins x l).Pairwise ltV
  | [], _, _ => by simp [ins]
  | y :: l, h, hx => by
    rw [List.pairwise_cons] at h
    unfold ins
    split
    · rename_i h1
      rw [List.pairwise_cons, List.pairwise_cons]
      exact ⟨fun z hz => by
        rcases List.mem_cons.1 hz with e | hz
        · rw [e]; exact h1
        · exact ltV_trans h1 (h.1 z hz), h.1, h.2⟩
    · rename_i h1
      have hyx : ltV y x := by
        by_cases h2 : ltV y x
        · exact h2
        · exact absurd (ltV_total h1 h2) (fun e => hx (by rw [e]; exact List.mem_cons_self))
      rw [List.pairwise_cons]
      exact ⟨fun z hz => by
        rcases List.mem_cons.1 ((ins_perm x l).mem_iff.1 hz) with e | hz
        · rw [e]; exact hyx
        · exact h.1 z hz, ins_sorted h.2 fun hm => hx (List.mem_cons_of_mem _ hm)⟩

/-- Q's proposals but for a digest. -/
def qLess (q : List Vt) (d : List UInt8) : List Vt := q.filter fun y => decide (y.d ≠ d)

def qCut (q : List Vt) : List Vt := if 4 ≤ q.length then q.drop 1 else q

def qPut (q : List Vt) (x : Vt) : List Vt := ins x (qCut (qLess q x.d))

structure QOk (q : List Vt) : Prop where
  sorted : q.Pairwise ltV
  nd : (q.map Vt.d).Nodup
  len : q.length ≤ 4
  ok : ∀ x ∈ q, x.ok

theorem QOk.nil : QOk [] := ⟨by simp, by simp, by simp, by simp⟩

theorem qCut_sub (q : List Vt) : (qCut q).Sublist q := by
  unfold qCut; split
  · exact List.drop_sublist _ _
  · exact List.Sublist.refl _

theorem qCut_len {q : List Vt} (h : q.length ≤ 4) : (qCut q).length ≤ 3 := by
  unfold qCut; split
  · rw [List.length_drop]; omega
  · omega

theorem QOk.put {q : List Vt} (h : QOk q) {x : Vt} (hx : x.ok) : QOk (qPut q x) := by
  have hs : (qCut (qLess q x.d)).Sublist q := (qCut_sub _).trans List.filter_sublist
  have hn : x.d ∉ (qCut (qLess q x.d)).map Vt.d := fun hm => by
    obtain ⟨y, hy, e⟩ := List.mem_map.1 hm
    have := (List.mem_filter.1 ((qCut_sub _).subset hy)).2
    simp [e] at this
  have hp := ins_perm x (qCut (qLess q x.d))
  refine ⟨ins_sorted (h.sorted.sublist hs) fun hm => hn (List.mem_map.2 ⟨x, hm, rfl⟩), ?_, ?_, ?_⟩
  · unfold qPut
    rw [(hp.map Vt.d).nodup_iff, List.map_cons, List.nodup_cons]
    exact ⟨hn, h.nd.sublist (hs.map _)⟩
  · unfold qPut
    rw [hp.length_eq, List.length_cons]
    have := qCut_len (q := qLess q x.d) (Nat.le_trans (List.length_filter_le ..) h.len)
    omega
  · intro y hy
    rcases List.mem_cons.1 (hp.mem_iff.1 hy) with e | hy
    · rw [e]; exact hx
    · exact h.ok y (hs.subset hy)

/-! ### A number, the window -/

structure Sq where
  last : Option Vt
  p : Option Vt
  q : List Vt
  pr : Int → Option Vt
  cm : Int → Option Vt

def sq0 : Sq := ⟨none, none, [], fun _ => none, fun _ => none⟩

def okO (o : Option Vt) : Prop := ∀ x, o = some x → x.ok

structure Sq.ok (x : Sq) : Prop where
  last : okO x.last
  p : okO x.p
  q : QOk x.q
  pr : ∀ n, okO (x.pr n)
  cm : ∀ n, okO (x.cm n)

theorem sq0_ok : sq0.ok := by
  refine ⟨?_, ?_, QOk.nil, ?_, ?_⟩ <;> simp [okO, sq0]

def setV (f : Int → Option Vt) (n : Int) (x : Vt) : Int → Option Vt := fun m => if m = n then some x else f m

def cntV (ns : List Int) (f : Int → Option Vt) (x : Vt) : Nat := ns.countP fun n => decide (f n = some x)

/-- What stands in the map of what nodes say. -/
def vts (ns : List Int) (f : Int → Option Vt) : List (Int × Vt) := ns.filterMap fun n => (f n).map fun x => (n, x)

theorem vts_keys (ns : List Int) (f : Int → Option Vt) : ((vts ns f).map Prod.fst).Sublist ns := by
  induction ns with
  | nil => exact List.Sublist.refl _
  | cons n l ih =>
    unfold vts
    rw [List.filterMap_cons]
    cases e : f n with
    | none => exact List.Sublist.cons _ ih
    | some x => exact List.Sublist.cons_cons _ ih

theorem vts_mem {ns : List Int} {f : Int → Option Vt} {n : Int} {x : Vt} : (n, x) ∈ vts ns f ↔ n ∈ ns ∧ f n = some x := by
  unfold vts
  rw [List.mem_filterMap]
  constructor
  · rintro ⟨m, hm, e⟩
    rw [Option.map_eq_some_iff] at e
    obtain ⟨y, hy, e⟩ := e
    injection e with e1 e2
    subst e1; subst e2
    exact ⟨hm, hy⟩
  · rintro ⟨hm, e⟩
    exact ⟨n, hm, by rw [e]; rfl⟩

theorem vts_count (ns : List Int) (f : Int → Option Vt) (x : Vt) : (vts ns f).countP (fun p => decide (p.2 = x)) = cntV ns f x := by
  unfold vts cntV
  rw [List.countP_filterMap]
  refine List.countP_congr fun n _ => ?_
  cases f n <;> simp

theorem vts_len (ns : List Int) (f : Int → Option Vt) : (vts ns f).length ≤ ns.length := List.length_filterMap_le ..

theorem fm_congr {α β : Type} {f g : α → Option β} : ∀ {l : List α}, (∀ a ∈ l, f a = g a) → l.filterMap f = l.filterMap g
  | [], _ => rfl
  | a :: l, h => by rw [List.filterMap_cons, List.filterMap_cons, h a List.mem_cons_self, fm_congr fun b hb => h b (List.mem_cons_of_mem _ hb)]

theorem vts_put {ns : List Int} (hn : ns.Nodup) (f : Int → Option Vt) {n : Int} (hm : n ∈ ns) (x : Vt) : ((n, x) :: (vts ns f).filter fun p => decide (p.1 ≠ n)).Perm (vts ns (setV f n x)) := by
  induction ns with
  | nil => cases hm
  | cons m l ih =>
    rw [List.nodup_cons] at hn
    by_cases e : m = n
    · subst e
      have h1 : vts (m :: l) (setV f m x) = (m, x) :: vts l (setV f m x) := by simp [vts, setV]
      have h2 : vts l (setV f m x) = vts l f := by
        unfold vts
        refine fm_congr fun k hk => ?_
        have : k ≠ m := fun e => hn.1 (e ▸ hk)
        simp [setV, this]
      have h3 : (vts l f).filter (fun p => decide (p.1 ≠ m)) = vts l f := by
        refine List.filter_eq_self.2 fun p hp => ?_
        have := (vts_mem.1 (show (p.1, p.2) ∈ _ from hp)).1
        have : p.1 ≠ m := fun e => hn.1 (e ▸ this)
        simp [this]
      rw [h1, h2]
      refine List.Perm.cons _ ?_
      cases e : f m with
      | none =>
        have : vts (m :: l) f = vts l f := by simp [vts, e]
        rw [this, h3]
      | some y =>
        have : vts (m :: l) f = (m, y) :: vts l f := by simp [vts, e]
        rw [this, List.filter_cons_of_neg (by simp), h3]
    · have hm' : n ∈ l := by
        rcases List.mem_cons.1 hm with e' | h
        · exact absurd e'.symm e
        · exact h
      have ih := ih hn.2 hm'
      have hs : setV f n x m = f m := by simp [setV, e]
      cases e' : f m with
      | none =>
        have h1 : vts (m :: l) f = vts l f := by simp [vts, e']
        have h2 : vts (m :: l) (setV f n x) = vts l (setV f n x) := by simp [vts, hs, e']
        rw [h1, h2]; exact ih
      | some y =>
        have h1 : vts (m :: l) f = (m, y) :: vts l f := by simp [vts, e']
        have h2 : vts (m :: l) (setV f n x) = (m, y) :: vts l (setV f n x) := by simp [vts, hs, e']
        rw [h1, h2, List.filter_cons_of_pos (by simp [e])]
        exact (List.Perm.swap _ _ _).trans (ih.cons _)

structure St where
  f : Int
  ns : List Int
  low : Int
  s : Nat → Sq

def preB (σ : St) (x : Sq) : Bool := match x.last with | none => false | some v => decide (2 * σ.f ≤ cntV σ.ns x.pr v)

def comB (σ : St) (x : Sq) : Bool := preB σ x && (match x.last with | none => false | some v => decide (2 * σ.f + 1 ≤ cntV σ.ns x.cm v))

def lookS (σ : St) (x : Sq) : Sq := if preB σ x then { x with p := x.last } else x

def idx (σ : St) (seq : Int) : Option Nat := if σ.low < seq ∧ seq ≤ σ.low + 8 then some (seq - σ.low - 1).toNat else none

def St.set (σ : St) (i : Nat) (x : Sq) : St := { σ with s := fun j => if j = i then x else σ.s j }

def propSq (x : Sq) (now : Vt) : Sq := { x with last := some now, q := qPut x.q now }

def propE (σ : St) (view seq : Int) (d : List UInt8) : Int :=
  if viewB view = false then 190 else match idx σ seq with | none => 150 | some i => fol (σ.s i).last ⟨view, d⟩

def propS (σ : St) (view seq : Int) (d : List UInt8) : St :=
  if propE σ view seq d ≠ 0 then σ else match idx σ seq with | none => σ | some i => σ.set i (lookS σ (propSq (σ.s i) ⟨view, d⟩))

def leadO (σ : St) (v : Int) : Int := σ.ns.getD (v % σ.ns.length).toNat 0

def prepE (σ : St) (node view seq : Int) (d : List UInt8) : Int :=
  if node ∉ σ.ns then 110 else if viewB view = false then 190 else if node = leadO σ view then 2 else match idx σ seq with | none => 150 | some i => fol ((σ.s i).pr node) ⟨view, d⟩

def prepS (σ : St) (node view seq : Int) (d : List UInt8) : St :=
  if prepE σ node view seq d ≠ 0 then σ else match idx σ seq with | none => σ | some i => σ.set i (lookS σ { σ.s i with pr := setV (σ.s i).pr node ⟨view, d⟩ })

def commE (σ : St) (node view seq : Int) (d : List UInt8) : Int :=
  if node ∉ σ.ns then 110 else if viewB view = false then 190 else match idx σ seq with | none => 150 | some i => fol ((σ.s i).cm node) ⟨view, d⟩

def commS (σ : St) (node view seq : Int) (d : List UInt8) : St :=
  if commE σ node view seq d ≠ 0 then σ else match idx σ seq with | none => σ | some i => σ.set i { σ.s i with cm := setV (σ.s i).cm node ⟨view, d⟩ }

def raiseE (σ : St) (low : Int) : Int := if low < σ.low ∨ 9007199254740983 < low then 9 else 0

def raiseS (σ : St) (low : Int) : St :=
  if raiseE σ low ≠ 0 then σ else { σ with low := low, s := fun i => if (low - σ.low).toNat + i < 8 then σ.s ((low - σ.low).toNat + i) else sq0 }

def fresh0 (f : Int) (ns : List Int) (low : Int) : St := ⟨f, ns, low, fun _ => sq0⟩

/-- A stand. -/
structure Sd where
  seq : Int
  d : List UInt8
  v : Int
deriving DecidableEq

def sdOf (σ : St) (i : Nat) (x : Vt) : Sd := ⟨σ.low + 1 + i, x.d, x.v⟩

def pAt (σ : St) (i : Nat) : List Sd := match (σ.s i).p with | none => [] | some x => [sdOf σ i x]

def qAt (σ : St) (i : Nat) : List Sd := (σ.s i).q.map (sdOf σ i)

def pAll (σ : St) : List Sd := (List.range 8).flatMap (pAt σ)

def qAll (σ : St) : List Sd := (List.range 8).flatMap (qAt σ)

def atS (σ : St) (seq : Int) : Option Sd := (idx σ seq).bind fun i => (σ.s i).last.map (sdOf σ i)

def preS (σ : St) (seq : Int) : Bool := match idx σ seq with | none => false | some i => preB σ (σ.s i)

def comS (σ : St) (seq : Int) : Bool := match idx σ seq with | none => false | some i => comB σ (σ.s i)

structure St.ok (σ : St) : Prop where
  f0 : 0 ≤ σ.f
  f1 : σ.f ≤ 2
  len : (σ.ns.length : Int) = 3 * σ.f + 1
  asc : σ.ns.Pairwise (· < ·)
  rng : ∀ x ∈ σ.ns, 1 ≤ x ∧ x ≤ 28
  low0 : 0 ≤ σ.low
  low1 : σ.low ≤ 9007199254740983
  s : ∀ i, i < 8 → (σ.s i).ok

theorem St.ok.nd {σ : St} (h : σ.ok) : σ.ns.Nodup := h.asc.imp fun h => by omega

theorem idx_lt {σ : St} {seq : Int} {i : Nat} (h : idx σ seq = some i) : i < 8 ∧ seq = σ.low + 1 + i := by
  unfold idx at h
  split at h
  · injection h with h; omega
  · cases h

theorem idx_of (σ : St) {i : Nat} (h : i < 8) : idx σ (σ.low + 1 + i) = some i := by
  unfold idx
  rw [if_pos (by omega)]
  congr 1
  omega

theorem fresh_ok {f : Int} {ns : List Int} {low : Int} (h0 : 0 ≤ f) (h1 : f ≤ 2) (h2 : (ns.length : Int) = 3 * f + 1) (h3 : ns.Pairwise (· < ·)) (h4 : ∀ x ∈ ns, 1 ≤ x ∧ x ≤ 28) (h5 : 0 ≤ low) (h6 : low ≤ 9007199254740983) : (fresh0 f ns low).ok :=
  ⟨h0, h1, h2, h3, h4, h5, h6, fun _ _ => sq0_ok⟩

theorem look_ok {σ : St} {x : Sq} (h : x.ok) : (lookS σ x).ok := by
  unfold lookS; split
  · exact ⟨h.last, h.last, h.q, h.pr, h.cm⟩
  · exact h

theorem set_ok {σ : St} (h : σ.ok) (i : Nat) {x : Sq} (hx : x.ok) : (σ.set i x).ok :=
  ⟨h.f0, h.f1, h.len, h.asc, h.rng, h.low0, h.low1, fun j hj => by
    show (if j = i then x else σ.s j).ok
    split
    · exact hx
    · exact h.s j hj⟩

theorem setV_ok {f : Int → Option Vt} (h : ∀ n, okO (f n)) (n : Int) {x : Vt} (hx : x.ok) : ∀ m, okO (setV f n x m) := fun m => by
  unfold setV; split
  · intro y hy; injection hy with hy; rw [← hy]; exact hx
  · exact h m

theorem propSq_ok {x : Sq} (h : x.ok) {now : Vt} (hn : now.ok) : (propSq x now).ok :=
  ⟨fun y hy => by injection hy with hy; rw [← hy]; exact hn, h.p, h.q.put hn, h.pr, h.cm⟩

theorem view_ok {v : Int} {d : List UInt8} (h : viewB v = true) (hd : d.length = 32) : (⟨v, d⟩ : Vt).ok := by
  simp [viewB] at h; exact ⟨h.1, h.2, hd⟩

theorem propS_ok {σ : St} (h : σ.ok) {view seq : Int} {d : List UInt8} (hd : d.length = 32) : (propS σ view seq d).ok := by
  unfold propS
  split
  · exact h
  · rename_i h1
    have hv : viewB view = true := by
      cases e : viewB view
      · simp [propE, e] at h1
      · rfl
    split
    · exact h
    · rename_i i hi
      exact set_ok h i (look_ok (propSq_ok (h.s i (idx_lt hi).1) (view_ok hv hd)))

theorem prepS_ok {σ : St} (h : σ.ok) {node view seq : Int} {d : List UInt8} (hd : d.length = 32) : (prepS σ node view seq d).ok := by
  unfold prepS
  split
  · exact h
  · rename_i h1
    have hv : viewB view = true := by
      cases e : viewB view
      · exfalso; apply h1; unfold prepE; simp only [e]; by_cases hn : node ∈ σ.ns <;> simp [hn] at h1 ⊢ <;> simp [prepE, e, hn] at h1
      · rfl
    split
    · exact h
    · rename_i i hi
      have hs := h.s i (idx_lt hi).1
      exact set_ok h i (look_ok ⟨hs.last, hs.p, hs.q, setV_ok hs.pr node (view_ok hv hd), hs.cm⟩)

theorem commS_ok {σ : St} (h : σ.ok) {node view seq : Int} {d : List UInt8} (hd : d.length = 32) : (commS σ node view seq d).ok := by
  unfold commS
  split
  · exact h
  · rename_i h1
    have hv : viewB view = true := by
      cases e : viewB view
      · exfalso; apply h1; unfold commE; simp only [e]; by_cases hn : node ∈ σ.ns <;> simp [hn] at h1 ⊢ <;> simp [commE, e, hn] at h1
      · rfl
    split
    · exact h
    · rename_i i hi
      have hs := h.s i (idx_lt hi).1
      exact set_ok h i ⟨hs.last, hs.p, hs.q, hs.pr, setV_ok hs.cm node (view_ok hv hd)⟩

theorem raiseS_ok {σ : St} (h : σ.ok) {low : Int} : (raiseS σ low).ok := by
  unfold raiseS
  split
  · exact h
  · rename_i h1
    have : ¬ (low < σ.low ∨ 9007199254740983 < low) := fun e => h1 (by simp [raiseE, e])
    have := h.low0
    refine ⟨h.f0, h.f1, h.len, h.asc, h.rng, by show 0 ≤ low; omega, by show low ≤ _; omega, fun i hi => ?_⟩
    show (if _ then _ else _ : Sq).ok
    split
    · exact h.s _ (by assumption)
    · exact sq0_ok

/-! ### The order of stands -/

def cfS (a b : Sd) : Int := if compareInt a.seq b.seq ≠ 0 then compareInt a.seq b.seq else if compareInt a.v b.v ≠ 0 then compareInt a.v b.v else compareBytes a.d b.d

theorem ltS_iff (a b : Sd) : cfS a b < 0 ↔ a.seq < b.seq ∨ (a.seq = b.seq ∧ ltV ⟨a.v, a.d⟩ ⟨b.v, b.d⟩) := by
  unfold cfS compareInt ltV
  simp only
  by_cases h1 : a.seq < b.seq
  · simp [h1]
  · by_cases h2 : b.seq < a.seq
    · rw [if_neg h1, if_pos (show a.seq > b.seq by omega)]; simp; omega
    · have e : a.seq = b.seq := by omega
      rw [if_neg h1, if_neg (show ¬ a.seq > b.seq by omega)]
      by_cases h3 : a.v < b.v
      · simp [h3, e]
      · by_cases h4 : b.v < a.v
        · rw [if_neg h3, if_pos (show a.v > b.v by omega)]; simp; omega
        · have e' : a.v = b.v := by omega
          rw [if_neg h3, if_neg (show ¬ a.v > b.v by omega)]
          simp [e, e']

def SdT := { x : Sd // x.d.length = 32 }

instance : Inhabited SdT := ⟨⟨⟨0, List.replicate 32 0, 0⟩, by simp⟩⟩

def cfT (a b : SdT) : Int := cfS a.1 b.1

theorem ltT_iff (a b : SdT) : ltOf cfT a b = true ↔ a.1.seq < b.1.seq ∨ (a.1.seq = b.1.seq ∧ ltV ⟨a.1.v, a.1.d⟩ ⟨b.1.v, b.1.d⟩) := by
  unfold ltOf; rw [decide_eq_true_eq]; exact ltS_iff _ _

theorem ltT_no (a b : SdT) : ltOf cfT a b = false ↔ ¬ (a.1.seq < b.1.seq ∨ (a.1.seq = b.1.seq ∧ ltV ⟨a.1.v, a.1.d⟩ ⟨b.1.v, b.1.d⟩)) := by
  rw [← ltT_iff]; simp

theorem totT (a b : SdT) (h : ltOf cfT a b = false) (k : ltOf cfT b a = false) : a = b := by
  rw [ltT_no] at h k
  have e : a.1.seq = b.1.seq := by
    rcases Int.lt_trichotomy a.1.seq b.1.seq with h1 | h1 | h1
    · exact absurd (.inl h1) h
    · exact h1
    · exact absurd (.inl h1) k
  have := ltV_total (fun h1 => h (.inr ⟨e, h1⟩)) (fun h1 => k (.inr ⟨e.symm, h1⟩))
  injection this with e1 e2
  obtain ⟨⟨s, d, v⟩, ha⟩ := a
  obtain ⟨⟨s', d', v'⟩, hb⟩ := b
  simp only at e e1 e2
  subst e; subst e1; subst e2
  rfl

theorem swoT : SWO (ltOf cfT) where
  irrefl x := by rw [ltT_no]; rintro (h | ⟨_, h⟩); · omega
                 · exact ltV_irrefl _ h
  trans x y z h k := by
    rw [ltT_iff] at *
    rcases h with h | ⟨h, h'⟩ <;> rcases k with k | ⟨k, k'⟩
    · exact .inl (by omega)
    · exact .inl (by omega)
    · exact .inl (by omega)
    · exact .inr ⟨by omega, ltV_trans h' k'⟩
  ntrans x y z h k := by
    cases e : ltOf cfT x z
    · rfl
    · exfalso
      by_cases h2 : ltOf cfT y x = true
      · by_cases h3 : ltOf cfT z y = true
        · rw [ltT_iff] at e h2 h3
          have h4 : ltOf cfT y z = true := by
            rw [ltT_iff]
            rcases h2 with h | ⟨h, h'⟩ <;> rcases e with k | ⟨k, k'⟩
            · exact .inl (by omega)
            · exact .inl (by omega)
            · exact .inl (by omega)
            · exact .inr ⟨by omega, ltV_trans h' k'⟩
          rw [k] at h4; cases h4
        · have := totT y z k (by simpa using h3)
          subst this
          rw [h] at e; cases e
      · have := totT x y h (by simpa using h2)
        subst this
        rw [k] at e; cases e

/-- Whatever is a permutation of a rising list, sorted, is that list. -/
theorem sort_is {l m : List SdT} (hp : m.Perm l) (hl : l.Pairwise fun a b => ltOf cfT a b = true) : (m.mergeSort fun x y => !(ltOf cfT) y x) = l := by
  refine List.Perm.eq_of_pairwise (le := fun a b => (!(ltOf cfT) b a) = true) (fun a b _ _ h k => totT a b (by simpa using k) (by simpa using h)) (List.pairwise_mergeSort (fun a b c h k => ?_) (fun a b => ?_) m) (hl.imp fun {a b} h => ?_) ((List.mergeSort_perm _ _).trans hp)
  · simp only [Bool.not_eq_true'] at *
    exact swoT.ntrans c b a k h
  · cases h1 : ltOf cfT b a
    · simp
    · cases h2 : ltOf cfT a b
      · simp
      · have := swoT.trans a b a h2 h1
        rw [swoT.irrefl] at this; cases this
  · cases h1 : ltOf cfT b a
    · rfl
    · have := swoT.trans a b a h h1
      rw [swoT.irrefl] at this; cases this

theorem SdT.ext {a b : SdT} (h : a.1 = b.1) : a = b := Subtype.ext h

end Go.Proofs.Ytenccpccpjjkmaa
