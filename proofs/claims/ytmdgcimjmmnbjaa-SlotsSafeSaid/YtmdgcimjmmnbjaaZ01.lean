/-
  Laid together for a hand-in: Mem, Blk, Ints, OpenB, Mt14.
-/
import Derived.Test.YtmdgcimjmmnbjaaRows
import Derived.WalkKit
import Derived.WalkSpells
import Derived.WalkLawsBesides
import Derived.Lib.Hide
import Derived.Maps.AppendAt
import Derived.Deep.AppendLies
import Derived.RegionTactic
import Derived.OwnWalk
import Derived.Deep.Draws
import Derived.BigQuiet
import Derived.Deep.QuietTactic
import Derived.Deep.MidRow
import Derived.ProofKit
import Derived.OpenShut
import Derived.ShutString
import Derived.ChangeOld
import Derived.SizedLaws
import Derived.Deep.Slices
import Derived.Deep.RegionHeld3
import Derived.Maps.RangeWalk
import Derived.Maps.OwnSet
import Derived.Laws.Tables

namespace Go.Proofs.Ytmdgcimjmmnbjaa

open Go.RowKit

set_option linter.unusedVariables false

theorem add_mk (b off j : Nat) : (⟨b, off, none⟩ : Addr).add j = ⟨b, off + j, none⟩ := by
  unfold Addr.add; by_cases h : j = 0 <;> simp [h]

/-- The slice 'A, n' shows the cells 'xs', 'k' for each element, in a block below 'B'. -/
def Shows (w : World) (B k : Nat) (A : Option Addr) (n : Nat) (xs : List Value) : Prop :=
  xs.length = n * k ∧ (0 < n → ∃ b off, A = some ⟨b, off, none⟩ ∧ b < B ∧ ∀ j u, xs[j]? = some u → w.cell? ⟨b, off + j, none⟩ = some u)

section

variable {w w' : World} {B B' k n : Nat} {A : Option Addr} {xs : List Value}

theorem Shows.empty (A : Option Addr) : Shows w B k A 0 [] := ⟨by simp, fun h => absurd h (by omega)⟩

theorem Shows.nilxs (h : Shows w B k A 0 xs) : xs = [] := List.eq_nil_of_length_eq_zero (by simpa using h.1)

theorem Shows.keep (h : Shows w B k A n xs) (hk : ∀ b o, b < B → w'.cell? ⟨b, o, none⟩ = w.cell? ⟨b, o, none⟩) : Shows w' B k A n xs :=
  ⟨h.1, fun hn => let ⟨b, off, e, hb, hc⟩ := h.2 hn; ⟨b, off, e, hb, fun j u hu => (hk b _ hb).trans (hc j u hu)⟩⟩

theorem Shows.more (h : Shows w B k A n xs) (hB : B ≤ B') : Shows w B' k A n xs :=
  ⟨h.1, fun hn => let ⟨b, off, e, hb, hc⟩ := h.2 hn; ⟨b, off, e, by omega, hc⟩⟩

theorem Shows.below (h : Shows w B k A n xs) (hb : Below B w w') : Shows w' B k A n xs := h.keep fun _ _ hp => hb.cell hp

theorem Shows.on (h : Shows w w.heap.size k A n xs) (hb : Below w.heap.size w w') : Shows w' w'.heap.size k A n xs := (h.below hb).more hb.size

theorem Shows.at_ {i : Nat} (h : Shows w B 1 A n xs) (hi : i < n) : ∃ b off u, A = some ⟨b, off, none⟩ ∧ b < B ∧ xs[i]? = some u ∧ w.cell? ⟨b, off + i, none⟩ = some u := by
  obtain ⟨b, off, e, hb, hc⟩ := h.2 (by omega)
  have hl : i < xs.length := by have := h.1; omega
  exact ⟨b, off, xs[i], e, hb, List.getElem?_eq_getElem hl, hc i _ (List.getElem?_eq_getElem hl)⟩

theorem Shows.ofOwn {base : Nat} {e : TypeId} {c : Nat} (h : w.ownsRow base e k (.slice A n c) n xs) : Shows w w.heap.size k A n xs := by
  refine ⟨h.1, fun hn => ?_⟩
  obtain ⟨g, cap, hv, _, hlt⟩ := h.form hn
  have hA : A = some ⟨g, 0, none⟩ := by injection hv
  subst hA
  refine ⟨g, 0, rfl, hlt, fun j u hu => ?_⟩
  have := h.cells (g := g) rfl j u hu
  rwa [add_mk] at this

end

/-- Where a slice begins behind a cut of its first 'm' elements. -/
def cutAt (A : Option Addr) (k m c : Nat) : Option Addr := if c = m then A else A.map (·.add (m * k))

theorem Shows.cut {w : World} {B k n m c : Nat} {A : Option Addr} {xs : List Value} (h : Shows w B k A n xs) (hm : m ≤ n) (hc : n ≤ c) : Shows w B k (cutAt A k m c) (n - m) (xs.drop (m * k)) := by
  refine ⟨by rw [List.length_drop, h.1, Nat.sub_mul], fun hn => ?_⟩
  obtain ⟨b, off, rfl, hb, hcell⟩ := h.2 (by omega)
  unfold cutAt
  rw [if_neg (by omega)]
  refine ⟨b, off + m * k, by rw [Option.map_some, add_mk], hb, fun j u hu => ?_⟩
  rw [Nat.add_assoc]
  exact hcell _ u (by rw [← hu, List.getElem?_drop])

theorem Shows.front {w : World} {B k n m : Nat} {A : Option Addr} {xs : List Value} (h : Shows w B k A n xs) (hm : m ≤ n) : Shows w B k A m (xs.take (m * k)) := by
  have hle : m * k ≤ xs.length := by rw [h.1]; exact Nat.mul_le_mul_right k hm
  refine ⟨by rw [List.length_take]; omega, fun hn => ?_⟩
  obtain ⟨b, off, rfl, hb, hcell⟩ := h.2 (by omega)
  refine ⟨b, off, rfl, hb, fun j u hu => ?_⟩
  by_cases hj : j < m * k
  · rw [List.getElem?_take, if_pos hj] at hu; exact hcell j u hu
  · rw [List.getElem?_take, if_neg hj] at hu; cases hu

/-! ### Bytes -/

def cb (x : UInt8) : Value := .int .u8 (x.toNat : Int)

def cbs (l : List UInt8) : List Value := l.map cb

theorem cbs_length (l : List UInt8) : (cbs l).length = l.length := by simp [cbs]

theorem cbs_get (l : List UInt8) (i : Nat) : (cbs l)[i]? = (l[i]?).map cb := by simp [cbs]

theorem cbs_append (l m : List UInt8) : cbs (l ++ m) = cbs l ++ cbs m := by simp [cbs]

theorem cbs_drop (l : List UInt8) (m : Nat) : cbs (l.drop m) = (cbs l).drop m := by simp [cbs]

theorem cbs_take (l : List UInt8) (m : Nat) : cbs (l.take m) = (cbs l).take m := by simp [cbs]

theorem cbs_one (l : List UInt8) : ∀ u ∈ cbs l, u.oneCell' = true := by
  intro u hu; simp [cbs] at hu; obtain ⟨x, _, rfl⟩ := hu; rfl

/-- The slice 'A' of 'l.length' elements shows the bytes 'l'. -/
def Bs (w : World) (A : Option Addr) (l : List UInt8) : Prop := Shows w w.heap.size 1 A l.length (cbs l)

theorem Bs.on {w w' : World} {A : Option Addr} {l : List UInt8} (h : Bs w A l) (hb : Below w.heap.size w w') : Bs w' A l := Shows.on h hb

theorem Bs.after {w w' : World} {A : Option Addr} {l : List UInt8} (hb : Below w.heap.size w w') (h : Bs w A l) : Bs w' A l := Shows.on h hb

theorem Bs.at_ {w : World} {A : Option Addr} {l : List UInt8} (h : Bs w A l) {i : Nat} (hi : i < l.length) :
    ∃ b off, A = some ⟨b, off, none⟩ ∧ b < w.heap.size ∧ ∀ j (hj : j < l.length), w.cell? ⟨b, off + j, none⟩ = some (.int .u8 (l[j].toNat : Int)) := by
  obtain ⟨b, off, e, hb, hc⟩ := h.2 (by omega)
  refine ⟨b, off, e, hb, fun j hj => ?_⟩
  exact hc j _ (by rw [cbs_get, List.getElem?_eq_getElem hj]; rfl)

theorem Bs.cut {w : World} {A : Option Addr} {l : List UInt8} {m c : Nat} (h : Bs w A l) (hm : m ≤ l.length) (hc : l.length ≤ c) : Bs w (cutAt A 1 m c) (l.drop m) := by
  have := Shows.cut h hm hc
  unfold Bs
  rw [List.length_drop, cbs_drop]
  simpa using this

theorem Bs.front {w : World} {A : Option Addr} {l : List UInt8} {m : Nat} (h : Bs w A l) (hm : m ≤ l.length) : Bs w A (l.take m) := by
  have := Shows.front h hm
  unfold Bs
  rw [List.length_take, Nat.min_eq_left hm, cbs_take]
  simpa using this

theorem Bs.nil (w : World) (A : Option Addr) : Bs w A [] := Shows.empty A

/-- The slice value 'v' shows the bytes 'l' in a row of the call's own, from block 'base' on. -/
def Mine (w : World) (base : Nat) (e : TypeId) (v : Value) (l : List UInt8) : Prop := w.ownsRow base e 1 v l.length (cbs l)

theorem Mine.form {w : World} {base : Nat} {e : TypeId} {v : Value} {l : List UInt8} (h : Mine w base e v l) : ∃ A c, v = .slice A l.length c ∧ l.length ≤ c ∧ c ≤ maxLen ∧ Bs w A l := by
  obtain ⟨h1, h2⟩ := h
  have hh := h2
  rcases h2 with ⟨rfl, hx⟩ | ⟨g, cap, cur, rfl, _, _, hc, hm, _⟩
  · have : l = [] := List.eq_nil_of_length_eq_zero hx
    subst this
    exact ⟨none, 0, rfl, by simp, by simp [maxLen], Bs.nil _ _⟩
  · exact ⟨_, cap, rfl, hc, hm, Shows.ofOwn ⟨h1, hh⟩⟩

theorem Mine.after {w w' : World} {base : Nat} {e : TypeId} {v : Value} {l : List UInt8} (h : Mine w base e v l) (hb : Below w.heap.size w w') : Mine w' base e v l := by
  obtain ⟨h1, h2 | ⟨g, cap, cur, h3, h4, h5, h6⟩⟩ := h
  · exact ⟨h1, .inl h2⟩
  · have hg : g < w.heap.size := by
      rcases Nat.lt_or_ge g w.heap.size with hlt | hge
      · exact hlt
      · rw [Array.getElem?_eq_none hge] at h5; cases h5
    exact ⟨h1, .inr ⟨g, cap, cur, h3, h4, (hb.block g hg).trans h5, h6⟩⟩

section

variable {w : World} {base g n cap : Nat} {e : TypeId} {l : List UInt8}

theorem Mine.cell (h : w.ownsRow base e 1 (.slice (some ⟨g, 0, none⟩) n cap) n (cbs l)) {j : Nat} (hj : j < l.length) : w.cell? ⟨g, j, none⟩ = some (.int .u8 (l[j].toNat : Int)) := by
  have hl : (cbs l).length = n * 1 := h.1
  rw [cbs_length] at hl
  rw [World.ownsRow.cellAt h j (by omega), cbs_get, List.getElem?_eq_getElem hj]
  rfl

theorem Mine.set_ (h : w.ownsRow base e 1 (.slice (some ⟨g, 0, none⟩) n cap) n (cbs l)) (j : Nat) (x : UInt8) (u : Value) (hu : u = cb x) : (w.setCell ⟨g, j, none⟩ u).ownsRow base e 1 (.slice (some ⟨g, 0, none⟩) n cap) n (cbs (l.set j x)) := by
  have := (World.ownsRow.stored h j u).1
  subst hu
  unfold cbs at this ⊢
  rw [List.map_set]
  exact this

end

end Go.Proofs.Ytmdgcimjmmnbjaa

namespace Go.Proofs.Ytmdgcimjmmnbjaa

open Go.RowKit

set_option linter.unusedVariables false

theorem below_drewN {B : Nat} {a w : World} (h : Below B a w) (n : Nat) : Below B a (w.drewN n) := ⟨h.os, h.tape, h.output, h.size, h.block⟩

/-- A block known whole. -/
def Blk (w : World) (g : Nat) (t : TypeId) (cs : List Value) : Prop := w.heap[g]? = some (.cells cs.toArray t (0, 0))

theorem Blk.cell {w : World} {g : Nat} {t : TypeId} {cs : List Value} (h : Blk w g t cs) {i : Nat} {v : Value} (hv : cs[i]? = some v) : w.cell? ⟨g, i, none⟩ = some v := by
  rw [cell_of_row w g i cs.toArray t (0, 0) h]; simpa using hv

theorem Blk.free {w : World} {g : Nat} {t : TypeId} {cs : List Value} (h : Blk w g t cs) (i : Nat) : w.frozen? ⟨g, i, none⟩ = false := frozen_of_row w g i cs.toArray t h

theorem Blk.set_ {w : World} {g : Nat} {t : TypeId} {cs : List Value} (h : Blk w g t cs) (i : Nat) (v : Value) : Blk (w.setCell ⟨g, i, none⟩ v) g t (cs.set i v) := by
  unfold Blk at h ⊢
  simp [World.setCell, Array.getElem?_modify, h]

theorem Blk.far {w : World} {g : Nat} {t : TypeId} {cs : List Value} (h : Blk w g t cs) {p : Addr} (hp : g ≠ p.block) (v : Value) : Blk (w.setCell p v) g t cs := (Below.heap_setCell w p v g hp).trans h

theorem Blk.below {w w' : World} {g B : Nat} {t : TypeId} {cs : List Value} (h : Blk w g t cs) (hb : Below B w w') (hg : g < B) : Blk w' g t cs := (hb.block g hg).trans h

theorem Blk.lt {w : World} {g : Nat} {t : TypeId} {l : List Value} (h : Blk w g t l) : g < w.heap.size := by
  rcases Nat.lt_or_ge g w.heap.size with hlt | hge
  · exact hlt
  · unfold Blk at h; rw [Array.getElem?_eq_none hge] at h; cases h

theorem Blk.setMore {w : World} {g : Nat} {t : TypeId} (vs : List Value) : ∀ {w : World} {o : Nat} {cs : List Value}, Blk w g t cs → o + vs.length ≤ cs.length → Blk (w.setCells g o vs) g t (cs.take o ++ vs ++ cs.drop (o + vs.length)) := by
  induction vs with
  | nil => intro w o cs h hl; simpa [World.setCells] using h
  | cons v vs ih =>
    intro w o cs h hl
    have hl' : o + 1 + vs.length ≤ cs.length := by simp at hl; omega
    have := ih (w := w.setCell ⟨g, o, none⟩ v) (o := o + 1) (cs := cs.set o v) (h.set_ o v) (by rw [List.length_set]; exact hl')
    rw [World.setCells]
    have e1 : (cs.set o v).take (o + 1) = cs.take o ++ [v] := by
      rw [List.take_succ_eq_append_getElem (by rw [List.length_set]; omega), List.take_set_of_le (by omega), List.getElem_set_self]
    have e2 : (cs.set o v).drop (o + 1 + vs.length) = cs.drop (o + (v :: vs).length) := by
      rw [List.drop_set_of_lt (by omega), List.length_cons]; congr 1; omega
    rw [e1, e2] at this
    simpa using this

theorem Blk.setAll {w : World} {g : Nat} {t : TypeId} {cs vs : List Value} (h : Blk w g t cs) (hl : vs.length = cs.length) : Blk (w.setCells g 0 vs) g t vs := by
  have := Blk.setMore (w := w) vs h (o := 0) (by omega)
  rw [Nat.zero_add, List.drop_of_length_le (by omega)] at this
  simpa using this

theorem Below.setCells {B : Nat} {a : World} {g : Nat} (hg : B ≤ g) (vs : List Value) : ∀ {w : World} {o : Nat}, Below B a w → Below B a (w.setCells g o vs) := by
  induction vs with
  | nil => intro w o h; exact h
  | cons v vs ih => intro w o h; rw [World.setCells]; exact ih (h.setCell hg v)

theorem Blk.farAll {g g' : Nat} {t : TypeId} {cs : List Value} (hg : g ≠ g') (vs : List Value) : ∀ {w : World} {o : Nat}, Blk w g t cs → Blk (w.setCells g' o vs) g t cs := by
  induction vs with
  | nil => intro w o h; exact h
  | cons v vs ih => intro w o h; rw [World.setCells]; exact ih (h.far hg v)

theorem Blk.there {w : World} {g : Nat} {t : TypeId} {cs : List Value} (h : Blk w g t cs) : w.there g 0 cs.length := by
  intro j hj
  rw [Nat.zero_add]
  exact ⟨by rw [h.cell (List.getElem?_eq_getElem hj)]; rfl, h.free j⟩

theorem Blk.new {w : World} {g : Nat} {t : TypeId} {cs : Array Value} {l : List Value} (h : l.toArray = cs) (hg : w.heap.size = g) : Blk (w.alloc (.cells cs t)) g t l := by
  subst h hg; exact heap_alloc_new w _

theorem Blk.old {w : World} {g : Nat} {t : TypeId} {l : List Value} (h : Blk w g t l) (o : Obj) : Blk (w.alloc o) g t l := by
  have hl : g < w.heap.size := by
    rcases Nat.lt_or_ge g w.heap.size with hlt | hge
    · exact hlt
    · unfold Blk at h; rw [Array.getElem?_eq_none hge] at h; cases h
  exact (Below.heap_alloc w o g hl).trans h

theorem Blk.thereAt {w : World} {g : Nat} {t : TypeId} {cs : List Value} (h : Blk w g t cs) {o n : Nat} (hn : o + n ≤ cs.length) : w.there g o n := by
  intro j hj
  exact ⟨by rw [h.cell (List.getElem?_eq_getElem (show o + j < cs.length by omega))]; rfl, h.free _⟩

theorem Blk.range {w : World} {g : Nat} {t : TypeId} {cs : List Value} (h : Blk w g t cs) : w.rangeAt g 0 cs := fun j v hv => by
  rw [Nat.zero_add]; exact h.cell hv

/-- Of the old blocks only such of 'S' are not as they were. -/
structure Out (S : Nat → Prop) (w w' : World) : Prop where
  os : w'.os = w.os
  tape : w'.tape = w.tape
  output : w'.output = w.output
  size : w.heap.size ≤ w'.heap.size
  block : ∀ i, i < w.heap.size → ¬ S i → w'.heap[i]? = w.heap[i]?

section

variable {S S' : Nat → Prop} {a b c w w' : World}

theorem Out.refl (S : Nat → Prop) (w : World) : Out S w w := ⟨rfl, rfl, rfl, Nat.le_refl _, fun _ _ _ => rfl⟩

theorem Out.trans (h : Out S a b) (k : Out S' b c) (hs : ∀ i, i < a.heap.size → S' i → S i) : Out S a c :=
  ⟨k.os.trans h.os, k.tape.trans h.tape, k.output.trans h.output, Nat.le_trans h.size k.size, fun i hi hn => (k.block i (Nat.lt_of_lt_of_le hi h.size) fun e => hn (hs i hi e)).trans (h.block i hi hn)⟩

theorem Out.ofBelow (S : Nat → Prop) (h : Below w.heap.size w w') : Out S w w' := ⟨h.os, h.tape, h.output, h.size, fun i hi _ => h.block i hi⟩

theorem Out.then_below (h : Out S a b) (k : Below b.heap.size b c) : Out S a c := h.trans (Out.ofBelow S k) fun _ _ e => e

theorem Out.then_grown (h : Out S a b) {row : Option Nat} (k : b.grownBy c row) (hr : ∀ i, row = some i → i < a.heap.size → S i) : Out S a c :=
  ⟨k.os.trans h.os, k.tape.trans h.tape, k.output.trans h.output, Nat.le_trans h.size k.size, fun i hi hn => (k.block i (Nat.lt_of_lt_of_le hi h.size) fun e => hn (hr i e.symm hi)).trans (h.block i hi hn)⟩

theorem Out.setCell (h : Out S a w) {p : Addr} (hp : p.block < a.heap.size → S p.block) (u : Value) : Out S a (w.setCell p u) := by
  refine ⟨h.os, h.tape, h.output, by simpa [World.setCell] using h.size, fun i hi hn => ?_⟩
  refine (Below.heap_setCell w p u i ?_).trans (h.block i hi hn)
  rintro rfl
  exact hn (hp hi)

theorem Out.drewN (h : Out S a w) (n : Nat) : Out S a (w.drewN n) := ⟨h.os, h.tape, h.output, h.size, h.block⟩

theorem Out.above {B : Nat} (h : Out S w w') (hS : ∀ i, S i → B ≤ i) (hB : B ≤ w.heap.size) : Below B w w' :=
  ⟨h.os, h.tape, h.output, h.size, fun i hi => h.block i (by omega) fun e => by have := hS i e; omega⟩

theorem Out.blk {g : Nat} {t : TypeId} {l : List Value} (h : Out S w w') (hb : Blk w g t l) (hn : ¬ S g) : Blk w' g t l := (h.block g hb.lt hn).trans hb

end

theorem size_cells (vs : List Value) : ∀ (w : World) (b o : Nat), (w.setCells b o vs).heap.size = w.heap.size := by
  induction vs with
  | nil => intro w b o; rfl
  | cons v vs ih => intro w b o; rw [World.setCells, ih]; simp [World.setCell]

end Go.Proofs.Ytmdgcimjmmnbjaa

namespace Go.Proofs.Ytmdgcimjmmnbjaa

open Go.ChangeShapes Go.WideShapes Go.ChangeAt Go.RowKit

set_option linter.unusedVariables false

theorem own : ownKnob Try.prog.godebug = none := by kernel_rfl

theorem laidOut : laidOutB Try.prog = true := by kernel_rfl

def ci (x : Int) : Value := .int .i64 x

def cis (l : List Int) : List Value := l.map ci

theorem cis_length (l : List Int) : (cis l).length = l.length := by simp [cis]

theorem cis_get (l : List Int) (i : Nat) : (cis l)[i]? = (l[i]?).map ci := by simp [cis]

abbrev Wf (x : Int) : Prop := (Lit.int .i64 x).wf = true

theorem bounds_i64 {x : Int} (h : Wf x) : -9223372036854775808 ≤ x ∧ x ≤ 9223372036854775807 := by
  simp [Wf, Lit.wf, IntKind.min, IntKind.max, IntKind.signed, IntKind.bits] at h
  omega

/-- The slice 'A' of l.length elements shows the numbers 'l'. -/
def Is (w : World) (A : Option Addr) (l : List Int) : Prop := Shows w w.heap.size 1 A l.length (cis l)

theorem Is.after {w w' : World} {A : Option Addr} {l : List Int} (hb : Below w.heap.size w w') (h : Is w A l) : Is w' A l := Shows.on h hb

theorem Is.at_ {w : World} {A : Option Addr} {l : List Int} (h : Is w A l) {i : Nat} (hi : i < l.length) :
    ∃ b off, A = some ⟨b, off, none⟩ ∧ b < w.heap.size ∧ ∀ j (hj : j < l.length), w.cell? ⟨b, off + j, none⟩ = some (.int .i64 l[j]) := by
  obtain ⟨b, off, e, hb, hc⟩ := h.2 (by omega)
  refine ⟨b, off, e, hb, fun j hj => ?_⟩
  exact hc j _ (by rw [cis_get, List.getElem?_eq_getElem hj]; rfl)

def ArgI (w : World) (A : Option Addr) (n c : Nat) (l : List Int) : Prop := l.length = n ∧ n ≤ c ∧ c ≤ maxLen ∧ Is w A l ∧ ∀ x ∈ l, Wf x

theorem ArgI.after {w w' : World} {A : Option Addr} {n c : Nat} {l : List Int} (h : ArgI w A n c l) (hb : Below w.heap.size w w') : ArgI w' A n c l := ⟨h.1, h.2.1, h.2.2.1, h.2.2.2.1.after hb, h.2.2.2.2⟩

section

variable {H : Type} {enc : TypeId × Value → H} {w : World} {x : DataW H × List MemPlace} {cs : List Value} {fuel : Nat}

theorem spot_of {a : Addr} {v : Value} (h : w.cell? (a.add 0) = some v) : a.spot = none := by
  have := World.cell?_spot h
  unfold Addr.add at this
  simpa using this

theorem trodI (h : DataW.trod enc Try.prog w 0 (fun _ => true) true fuel 51 cs = some x) : ∃ A n c l, cs = [.slice A n c] ∧ ArgI w A n c l := by
  rcases open_ints Try.underlying51 Try.underlying3 (by kernel_rfl) h with ⟨rfl, _⟩ | ⟨a, n, c, zs, rfl, _, hl, hm, hz, _, hcell, hwz⟩
  · exact ⟨none, 0, 0, [], rfl, rfl, Nat.le_refl _, by simp [maxLen], Shows.empty _, fun _ h => by simp at h⟩
  · have hz' : zs.length = c := by simpa using hz
    refine ⟨some a, n, c, zs.take n, rfl, by simp; omega, hl, hm, ?_, fun z hz => hwz z (List.mem_of_mem_take hz)⟩
    refine ⟨by simp [cis], fun hn => ?_⟩
    simp at hn
    have hsp := spot_of (hcell 0 (by omega))
    obtain ⟨b, off, spot⟩ := a
    simp only at hsp
    subst hsp
    refine ⟨b, off, rfl, ?_, ?_⟩
    · have := World.block_lt_of_cell? w _ (hcell 0 (by omega))
      rw [add_mk] at this
      exact this
    · intro j u hu
      simp only [cis, List.getElem?_map, Option.map_eq_some_iff] at hu
      obtain ⟨z, hz1, rfl⟩ := hu
      have hj : j < n ∧ j < zs.length := by
        rcases Nat.lt_or_ge j (zs.take n).length with h | h
        · simp at h; omega
        · rw [List.getElem?_eq_none h] at hz1; cases hz1
      have hzz : zs[j]? = some z := by rw [List.getElem?_take, if_pos hj.1] at hz1; exact hz1
      have hcj := hcell j hj.2
      rw [add_mk] at hcj
      rw [hcj]
      have hg : zs.getD j 0 = z := by simp [List.getD, hzz]
      rw [hg]
      rfl

theorem openI {A : Option Addr} {n c : Nat} {d : DataW H} {p : List MemPlace} (h : DataW.Trod enc Try.prog w 0 (fun _ => true) true 51 (.slice A n c) d p) : ∃ l, ArgI w A n c l := by
  obtain ⟨fuel, hf⟩ := h
  obtain ⟨A', n', c', l, e, ha⟩ := trodI hf
  simp [Value.cells] at e
  obtain ⟨rfl, rfl, rfl⟩ := e
  exact ⟨l, ha⟩

end

theorem i64_info : (Try.prog.info? 3).map (fun i => (i.zero, i.size, i.bytes)) = some (some (.int .i64 0), 1, 8) := by kernel_rfl

theorem cis_one (l : List Int) : ∀ u ∈ cis l, u.oneCell' = true := by
  intro u hu; simp [cis] at hu; obtain ⟨x, _, rfl⟩ := hu; rfl

/-- A new slice that shows 'l', in a row made since the world 'w'. -/
def NewI (w : World) (l : List Int) (v : Value) (w' : World) : Prop := w'.ownsRow w.heap.size 3 1 v l.length (cis l) ∧ Below w.heap.size w w'

set_option maxRecDepth 100000 in
theorem run_copyI (w : World) (A : Option Addr) (n c : Nat) (l : List Int) (h : ArgI w A n c l) (hn : n ≤ 17592186043904) (ty : TypeId) :
    ∃ v' w', (Builtin.append_ #[51, 51] ty #[.slice none 0 0, .slice A n c]).run Try.prog w = .ok v' w' ∧ NewI w l v' w' := by
  obtain ⟨h1, h2, h3, h4, _⟩ := h
  subst h1
  obtain ⟨i0, hi, hz0, hz1, hz2⟩ := info_parts i64_info
  cases A with
  | none =>
    have hl : l = [] := by
      cases l with
      | nil => rfl
      | cons x t => obtain ⟨b, off, e, _⟩ := h4.at_ (i := 0) (by simp); cases e
    subst hl
    refine ⟨.slice none 0 0, w, ?_, World.ownsRow_nil _ _ _ _, Below.refl _ _⟩
    simp [Builtin.append_, run_underlying Try.underlying51, sizeOf, typeInfo, hi, Builtin.lenOf, Builtin.firstCells]
  | some ad =>
    have hcells : ∀ j u, (cis l)[j]? = some u → w.cell? (ad.add j) = some u := by
      intro j u hu
      have hj : j < l.length := by
        rcases Nat.lt_or_ge j l.length with h | h
        · exact h
        · rw [List.getElem?_eq_none (by rw [cis_length]; exact h)] at hu; cases hu
      obtain ⟨b, off, e, _, hc⟩ := h4.2 (by omega)
      injection e with e
      subst e
      rw [add_mk]
      exact hc j u hu
    obtain ⟨v', w', q1, q2, q3, _, q5⟩ := run_append_own_at (P := Try.prog) w w.heap.size 51 ty 3 i0 (.int .i64 0) 1 8 Try.underlying51 hi hz0 hz1 hz2 rfl (by decide) (.slice none 0 0) 0 [] (World.ownsRow_nil _ _ _ _) ad l.length c (cis l)
      (by rw [cis_length]; simp) hcells (cis_one l) (by simp only [maxLen]; omega) (by omega) (Nat.le_refl _)
    exact ⟨v', w', q1, by simpa using q2, (Below.refl _ _).grown q3 (Nat.le_refl _) (by simp [Value.ownBlock])⟩

theorem wp_copyI {w : World} {ops : Array Oper} {rest : List Oper} {o : Oper} {a : Act} {Q : Exit → Act → World → Prop} (hgd : o.guard = none) (s x : Operand)
    (ho : o.op = .call { callee := .builtin .append, args := #[s, x], argTypes := #[51, 51] }) (A : Option Addr) (n c : Nat) (l : List Int) (hs : a.eval s = .slice none 0 0) (hx : a.eval x = .slice A n c) (hA : ArgI w A n c l) (hn : n ≤ 17592186043904)
    (h : ∀ v' w', NewI w l v' w' → wpList Try.prog ops Q rest (a.put o.dst v') w') : wpList Try.prog ops Q (o :: rest) a w := by
  obtain ⟨v', w', hrun, h2⟩ := run_copyI w A n c l hA hn o.type
  refine wpList_plain hgd fun K hK => ?_
  unfold Oper.wp execOp
  simp only [ho, resolve, invoke, builtin, Sem.run_bind, Sem.run_pure, Result.andThen_ok, List.map_toArray, List.map_cons, List.map_nil, hs, hx, hrun]
  exact hK _ _ (h v' w' h2)

set_option maxHeartbeats 800000 in
/-- Bring to n: some number from 0 to n - 1, always the same. -/
theorem bring_ex (i n : Int) (h : 0 < n) (hn : n ≤ 4611686018427387904) (hi : Wf i) : ∃ r : Int, 0 ≤ r ∧ r < n ∧ ∀ w, Calls Try.prog 17 #[.int .i64 i, .int .i64 n] w fun e w' => e = .returned (.int .i64 r) ∧ w' = w := by
  have hb := bounds_i64 hi
  clear hi
  have hz : (n == 0) = false := by simp; omega
  by_cases h0 : 0 ≤ i
  · have hm0 := Int.emod_nonneg i (by omega : n ≠ 0)
    have hm1 := Int.emod_lt_of_pos i h
    have ht : i.tmod n = i % n := Int.tmod_eq_emod_of_nonneg h0
    obtain ⟨r, hr⟩ : ∃ r, i % n = r := ⟨_, rfl⟩
    rw [hr] at ht hm0 hm1
    refine ⟨r, hm0, hm1, fun w => ?_⟩
    have Hr := Lib.hid hr
    clear hr
    go_enter Try.func17, Try.ntmps17
    go_wp2
    go_ret
    exact ⟨by first | rfl | (simp [Hr.out]), rfl⟩
  · have e1 : (-i).tmod n = -(i.tmod n) := Int.neg_tmod i n
    have e2 : (-i).tmod n = (-i) % n := Int.tmod_eq_emod_of_nonneg (by omega)
    have hm0 := Int.emod_nonneg (-i) (by omega : n ≠ 0)
    have hm1 := Int.emod_lt_of_pos (-i) h
    have hl0 : i.tmod n ≤ 0 := by omega
    have hl1 : -n < i.tmod n := by omega
    clear hm0 hm1 e1 e2
    obtain ⟨m, hm⟩ : ∃ m, i.tmod n = m := ⟨_, rfl⟩
    rw [hm] at hl0 hl1
    by_cases hs : m < 0
    · refine ⟨m + n, by omega, by omega, fun w => ?_⟩
      have hw : IntKind.i64.wrap (m + n) = m + n := IntWalk.i64_in _ (by omega)
      go_enter Try.func17, Try.ntmps17
      go_wp2
      go_ret
      exact ⟨rfl, rfl⟩
    · refine ⟨m, by omega, by omega, fun w => ?_⟩
      go_enter Try.func17, Try.ntmps17
      go_wp2
      go_ret
      exact ⟨rfl, rfl⟩

/-- Bring to n: some number from 0 to n - 1. -/
theorem bringN_any (i n : Int) (w : World) (h : 0 < n) (hn : n ≤ 1000000) (hi : Wf i) : Calls Try.prog 17 #[.int .i64 i, .int .i64 n] w fun e w' => ∃ r : Int, 0 ≤ r ∧ r < n ∧ e = .returned (.int .i64 r) ∧ w' = w := by
  obtain ⟨r, h1, h2, h3⟩ := bring_ex i n h (by omega) hi
  exact (h3 w).mono fun e w' ⟨he, hw⟩ => ⟨r, h1, h2, he, hw⟩

end Go.Proofs.Ytmdgcimjmmnbjaa

namespace Go.Proofs.Ytmdgcimjmmnbjaa
open Go.ChangeShapes Go.WideShapes Go.ChangeAt Go.RowKit
set_option linter.unusedVariables false

theorem bytes_u8 : Try.prog.bytesOf 5 = 1 := by kernel_rfl

/-- A slice of bytes that came in. -/
def ArgB (w : World) (A : Option Addr) (n c : Nat) (l : List UInt8) : Prop := l.length = n ∧ n ≤ c ∧ c ≤ 140737488351232 ∧ Bs w A l

theorem wf_u8 {x : Int} (h : (Lit.int .u8 x).wf = true) : x = (((UInt8.ofNat x.toNat).toNat : Nat) : Int) := by
  have hb := bounds_u8 h
  rw [UInt8.toNat_ofNat', Nat.mod_eq_of_lt (by omega)]
  omega

theorem openB {H : Type} {enc : TypeId × Value → H} {w : World} {A : Option Addr} {n c : Nat} {d : DataW H} {p : List MemPlace}
    (h : DataW.Trod enc Try.prog w 0 (fun _ => true) true 23 (.slice A n c) d p) (hlt : ∀ x ∈ p, x.block < w.heap.size)
    (hs : ∀ elems spare, d = .slice elems spare → elems.length + spare.length ≤ 140737488351232) : ∃ l, ArgB w A n c l := by
  obtain ⟨fuel, hf⟩ := h
  rcases open_ints Try.underlying23 Try.underlying5 (by kernel_rfl) hf with ⟨hcs, _⟩ | ⟨x, l, c', zs, hcs, _, hl, hm, hz, hx, hcell, hwz⟩
  · simp [Value.cells] at hcs
    obtain ⟨rfl, rfl, rfl⟩ := hcs
    exact ⟨[], rfl, Nat.le_refl _, by omega, Bs.nil _ _⟩
  · simp [Value.cells] at hcs
    obtain ⟨rfl, rfl, rfl⟩ := hcs
    simp only [Prod.mk.injEq] at hx
    obtain ⟨hd, hp⟩ := hx
    have hz' : zs.length = c := by simpa using hz
    have hs' := hs _ _ hd
    simp only [lits, List.length_map, List.length_take, List.length_drop] at hs'
    refine ⟨(zs.take n).map fun z => UInt8.ofNat z.toNat, by simp; omega, hl, by omega, ?_⟩
    refine ⟨by simp [cbs], fun hn => ?_⟩
    have h0 := hcell 0 (by simp at hn; omega)
    have hsp : x.spot = none := by
      have := World.cell?_spot h0
      unfold Addr.add at this
      simpa using this
    obtain ⟨b, off, spot⟩ := x
    simp only at hsp
    subst hsp
    refine ⟨b, off, rfl, ?_, ?_⟩
    · have := World.block_lt_of_cell? w _ h0
      rw [add_mk] at this
      exact this
    · intro j u hu
      simp only [cbs, List.map_map, List.getElem?_map, Option.map_eq_some_iff] at hu
      obtain ⟨z, hz1, rfl⟩ := hu
      have hj : j < n ∧ j < zs.length := by
        rcases Nat.lt_or_ge j (zs.take n).length with h | h
        · simp at h; omega
        · rw [List.getElem?_eq_none h] at hz1; cases hz1
      have hzz : zs[j]? = some z := by rw [List.getElem?_take, if_pos hj.1] at hz1; exact hz1
      have hcj := hcell j hj.2
      rw [add_mk] at hcj
      rw [hcj]
      have hmem : z ∈ zs := List.mem_of_getElem? hzz
      have hg : zs.getD j 0 = z := by simp [List.getD, hzz]
      rw [hg]
      show _ = some (Value.int .u8 _)
      rw [← wf_u8 (hwz z hmem)]

/-- What 'x[:min(len(x), 1000)]' leaves of a slice of bytes that came in. -/
theorem cut1000 {w : World} {A : Option Addr} {n c : Nat} {l : List UInt8} (h : ArgB w A n c l) : ∃ m x, x.length = m ∧ m ≤ 1000 ∧ m ≤ c ∧ c ≤ maxLen ∧ Bs w A x ∧
    (∀ ts t w, (Builtin.min_ ts t #[.int .i64 (n : Int), .int .i64 1000]).run Try.prog w = .ok (.int .i64 (m : Int)) w) ∧
    (∀ w, (Instr.sliceAt 23 (.slice A n c) none (some (.int .i64 (m : Int))) none).run Try.prog w = .ok (.slice A m c) w) := by
  obtain ⟨h1, h2, h3, h4⟩ := h
  refine ⟨min n 1000, l.take (min n 1000), by rw [List.length_take]; omega, by omega, by omega, by unfold maxLen; omega, h4.front (by omega), fun ts t w => ?_, fun w => ?_⟩
  · rw [run_min_int2]
    congr 2
    split <;> omega
  · have h1 : ((min n 1000 : Nat) : Int) ≤ c := by omega
    generalize min n 1000 = m at *
    go_simp
end Go.Proofs.Ytmdgcimjmmnbjaa

namespace Go.Proofs.Ytmdgcimjmmnbjaa
open Go.RowKit Go.Maps Go.ChangeMaps
set_option linter.unusedVariables false
set_option linter.unusedSimpArgs false
set_option linter.unusedSectionVars false

/-- How the keys of a type are written. -/
structure KeyT (P : Program) (K : TypeId) (α : Type) where
  kv : α → Value
  kl : α → Lit
  ok : α → Prop
  keyed : Keyed P K
  key : ∀ {a : α}, ok a → keyOf P K (kv a) = some (kl a)
  inj : ∀ {a b : α}, kv a = kv b → a = b

def Rv (v : Value) : Option (DataW Value × List MemPlace) := some (.held v, [])

section
variable {P : Program} {K : TypeId} {α β : Type} [DecidableEq α] (T : KeyT P K α) (vv : β → Value)

theorem KeyT.kinj {a b : α} (ha : T.ok a) (hb : T.ok b) (h : T.kl a = T.kl b) : a = b := T.inj (T.keyed.inj (T.key ha) ((T.key hb).trans (by rw [h])))

def lits (L : List (α × β)) : List (Lit × DataW Value) := L.map fun p => (T.kl p.1, .held (vv p.2))
/-- What stands at a key. -/
def lk (L : List (α × β)) (a : α) : Option β := (L.find? fun p => decide (p.1 = a)).map Prod.snd
def putL (L : List (α × β)) (a : α) (b : β) : List (α × β) := (a, b) :: L.filter fun p => decide (p.1 ≠ a)
def delL (L : List (α × β)) (a : α) : List (α × β) := L.filter fun p => decide (p.1 ≠ a)

structure Dom (L : List (α × β)) : Prop where
  nd : (L.map Prod.fst).Nodup
  ok : ∀ p ∈ L, T.ok p.1

/-- The block m is a map; what stands in it is L. -/
def MapT (w : World) (m : Nat) (L : List (α × β)) : Prop :=
  Dom T L ∧ ∃ es n, w.ownsMap P K Rv m n (.map es) ∧ es.Perm (lits T vv L)
/-- The block r is a loop over the map m, in which L stands; todo is still to come. -/
def RangeT (w : World) (m r : Nat) (L todo : List (α × β)) : Prop :=
  Dom T L ∧ ∃ es n left cnt, w.ranges P K Rv m r n (.map es) left cnt ∧ es.Perm (lits T vv L) ∧ todo = L.filter fun p => left (T.kl p.1)

variable {T vv} {w w' : World} {m r : Nat} {L L' todo : List (α × β)} {a : α} {b : β}

theorem lk_mem (hn : (L.map Prod.fst).Nodup) (h : (a, b) ∈ L) : lk L a = some b := by
  induction L with
  | nil => cases h
  | cons p L ih =>
    rw [List.map_cons, List.nodup_cons] at hn
    unfold lk
    rw [List.find?_cons]
    rcases List.mem_cons.1 h with e | h
    · subst e; simp
    · have : p.1 ≠ a := fun e => hn.1 (by rw [e]; exact List.mem_map.2 ⟨_, h, rfl⟩)
      simp only [this, decide_false]
      exact ih hn.2 h
theorem lk_some (h : lk L a = some b) : (a, b) ∈ L := by
  unfold lk at h
  rw [Option.map_eq_some_iff] at h
  obtain ⟨p, hp, rfl⟩ := h
  have h1 := List.mem_of_find?_eq_some hp
  have h2 := List.find?_some hp
  simp at h2
  rw [← h2]; exact h1
theorem lk_none (h : lk L a = none) : ∀ b, (a, b) ∉ L := by
  intro b hb
  unfold lk at h
  rw [Option.map_eq_none_iff, List.find?_eq_none] at h
  exact h _ hb (by simp)
theorem Dom.mem (h : Dom T L) (hp : (a, b) ∈ L) : lk L a = some b := lk_mem h.nd hp
theorem Dom.perm (h : Dom T L) (hp : L.Perm L') : Dom T L' := ⟨(hp.map Prod.fst).nodup_iff.1 h.nd, fun p q => h.ok p (hp.mem_iff.2 q)⟩
theorem Dom.lk_perm (h : Dom T L) (hp : L.Perm L') (a : α) : lk L a = lk L' a := by
  cases e : lk L a with
  | some b => exact ((h.perm hp).mem (hp.mem_iff.1 (lk_some e))).symm
  | none =>
    cases e' : lk L' a with
    | none => rfl
    | some b => exact absurd (hp.mem_iff.2 (lk_some e')) (lk_none e b)

theorem MapT.perm (h : MapT T vv w m L) (hp : L.Perm L') : MapT T vv w m L' := by
  obtain ⟨hd, es, n, h1, h2⟩ := h
  exact ⟨hd.perm hp, es, n, h1, h2.trans (hp.map _)⟩

theorem es_apart (K' : Keyed P K) {n : Nat} {es : List (Lit × DataW Value)} (h : w.ownsMap P K Rv m n (.map es)) : es.Pairwise fun p q => p.1 ≠ q.1 := by
  obtain ⟨es', e, hp, _⟩ := h.entries K'
  injection e with e
  subst e
  exact hp
theorem es_at {es : List (Lit × DataW Value)} (hd : Dom T L) (hp : es.Perm (lits T vv L)) (hap : es.Pairwise fun p q => p.1 ≠ q.1) (ha : T.ok a) (z : DataW Value) :
    has (.map es) (T.kl a) = (lk L a).isSome ∧ (DataW.map es).atKey (T.kl a) z = match lk L a with | some b => .held (vv b) | none => z := by
  have hk := T.keyed.key (T.key ha)
  cases e : lk L a with
  | some b =>
    have hm : (T.kl a, .held (vv b)) ∈ es := hp.mem_iff.2 (List.mem_map.2 ⟨(a, b), lk_some e, rfl⟩)
    have h1 := fun z => WideAt.atKey_mem z hk hap hm
    exact ⟨has_true_of_atKey h1, h1 z⟩
  | none =>
    have : has (.map es) (T.kl a) = false := by
      rw [has_eq, List.any_eq_false]
      intro p hp' hs
      obtain ⟨q, hq, rfl⟩ := List.mem_map.1 (hp.mem_iff.1 hp')
      have := (WideAt.sameKey_iff hk).1 hs
      have := T.kinj (hd.ok q hq) ha this
      exact lk_none e q.2 (by rw [← this]; exact hq)
    exact ⟨this, atKey_of_not_has this z⟩

theorem MapT.lt (h : MapT T vv w m L) : m < w.heap.size := by obtain ⟨_, _, _, h, _⟩ := h; exact h.lt
theorem MapT.stay (h : MapT T vv w m L) (hk : w'.heap[m]? = w.heap[m]?) : MapT T vv w' m L := by
  obtain ⟨hd, es, n, ⟨e, c, h1, h2⟩, hp⟩ := h
  exact ⟨hd, es, n, ⟨e, c, hk.trans h1, h2⟩, hp⟩
theorem MapT.isMap (h : MapT T vv w m L) : ∃ es clock, w.heap[m]? = some (.map es clock) := by
  obtain ⟨_, _, _, ⟨es, clock, h1, _⟩, _⟩ := h
  exact ⟨es, clock, h1⟩
theorem MapT.off (h : MapT T vv w m L) {g : Nat} {t : TypeId} {cs : List Value} (hb : Blk w g t cs) : g ≠ m := by
  obtain ⟨es, clock, hm⟩ := h.isMap
  rintro rfl
  unfold Blk at hb
  rw [hm] at hb
  cases hb
theorem MapT.out {S : Nat → Prop} (h : MapT T vv w m L) (ho : Out S w w') (hm : ¬ S m) : MapT T vv w' m L := h.stay (ho.block m h.lt hm)
theorem MapT.below {B : Nat} (h : MapT T vv w m L) (hb : Below B w w') (hm : m < B) : MapT T vv w' m L := h.stay (hb.block m hm)
theorem MapT.made (w : World) : MapT T vv (w.alloc (.map #[] 0)) w.heap.size ([] : List (α × β)) := ⟨⟨by simp, by simp⟩, [], 0, World.ownsMap_made w _ _ _, List.Perm.refl _⟩

theorem MapT.look {t e : TypeId} (h : MapT T vv w m L) (ht : P.underlying t = some (.map K e)) {z : Value} (hz : (zeroValue e).run P w = .ok z w) (ha : T.ok a) :
    (Instr.lookup t (.map (some m)) (T.kv a) false).run P w = .ok (((lk L a).map vv).getD z) w := by
  obtain ⟨hd, es, n, h1, hp⟩ := h
  obtain ⟨v, ps, hrun, hR⟩ := h1.lookup T.keyed ht hz (zd := .held z) (zp := []) rfl (T.key ha)
  rw [(es_at hd hp (es_apart T.keyed h1) ha _).2] at hR
  rw [hrun]
  cases e : lk L a <;> rw [e] at hR <;> simp [Rv] at hR ⊢ <;> exact hR.1
theorem MapT.look_ok {t e : TypeId} (h : MapT T vv w m L) (ht : P.underlying t = some (.map K e)) {z : Value} (hz : (zeroValue e).run P w = .ok z w) (ha : T.ok a) :
    (Instr.lookup t (.map (some m)) (T.kv a) true).run P w = .ok (.tuple #[((lk L a).map vv).getD z, .bool (lk L a).isSome]) w := by
  obtain ⟨hd, es, n, h1, hp⟩ := h
  obtain ⟨v, ps, hrun, hR⟩ := h1.look_ok T.keyed ht hz (zd := .held z) (zp := []) rfl (T.key ha)
  rw [(es_at hd hp (es_apart T.keyed h1) ha _).2] at hR
  rw [hrun, (es_at hd hp (es_apart T.keyed h1) ha (.held z)).1]
  cases e : lk L a <;> rw [e] at hR <;> simp [Rv] at hR ⊢ <;> exact hR.1
theorem MapT.len {t e : TypeId} (h : MapT T vv w m L) (ht : P.underlying t = some (.map K e)) (ty : TypeId) : (Builtin.len_ #[t] ty #[.map (some m)]).run P w = .ok (.int .i64 (L.length : Int)) w := by
  obtain ⟨hd, es, n, h1, hp⟩ := h
  rw [h1.len ht ty, size_eq, hp.length_eq]
  simp [lits]
theorem MapT.put {t e : TypeId} (h : MapT T vv w m L) (ht : P.underlying t = some (.map K e)) (hn : L.length < 1000000) (ha : T.ok a) (b : β) :
    ∃ w', (Instr.mapUpdate t (.map (some m)) (T.kv a) (vv b)).run P w = .ok () w' ∧ w.mapTurned w' m ∧ MapT T vv w' m (putL L a b) := by
  obtain ⟨hd, es, n, h1, hp⟩ := h
  have hap := es_apart T.keyed h1
  have h1' : w.ownsMap P K Rv m es.length (.map es) := by
    obtain ⟨es', clock, x, y, _, z⟩ := h1
    refine ⟨es', clock, x, y, ?_, z⟩
    injection z with z
    rw [z, length_sorted]; simp
  obtain ⟨w', hrun, hown, hturn⟩ := h1'.store T.keyed ht (by rw [hp.length_eq]; simp [lits, maxLen]; omega) (val := vv b) (d := .held (vv b)) (ps := []) (T.key ha) rfl
  have hk := T.keyed.key (T.key ha)
  refine ⟨w', hrun, hturn, ⟨?_, ?_⟩, DataW.insert (T.kl a, .held (vv b)) (es.filter fun p => !p.1.sameKey (T.kl a)), es.length + 1, ?_, ?_⟩
  · unfold putL
    rw [List.map_cons, List.nodup_cons]
    refine ⟨fun h => ?_, hd.nd.sublist (List.filter_sublist.map _)⟩
    obtain ⟨p, hp, e⟩ := List.mem_map.1 h
    simp [e] at hp
  · intro p hp
    rcases List.mem_cons.1 hp with e | hp
    · rw [e]; exact ha
    · exact hd.ok p (List.mem_filter.1 hp).1
  · exact hown
  · refine (Go.WideShapes.insert_perm _ _).trans ?_
    unfold putL lits
    rw [List.map_cons]
    refine List.Perm.cons _ ?_
    refine (hp.filter _).trans ?_
    unfold lits
    rw [List.filter_map]
    refine (List.Perm.of_eq ?_)
    congr 1
    refine List.filter_congr fun p hp => ?_
    simp only [Function.comp_apply]
    by_cases e : p.1 = a
    · simp [e, WideAt.sameKey_self hk]
    · simp only [e, not_false_eq_true, decide_true, ne_eq, Bool.not_eq_true']
      exact sameKey_ne fun e' => e (T.kinj (hd.ok p hp) ha e')
theorem MapT.drop {t e : TypeId} (h : MapT T vv w m L) (ht : P.underlying t = some (.map K e)) (ha : T.ok a) (ty : TypeId) :
    ∃ w', (Builtin.delete_ #[t, K] ty #[.map (some m), T.kv a]).run P w = .ok (.tuple #[]) w' ∧ w.mapTurned w' m ∧ MapT T vv w' m (delL L a) := by
  obtain ⟨hd, es, n, h1, hp⟩ := h
  obtain ⟨w', hrun, hown, hturn⟩ := h1.drop T.keyed ht (T.key ha) ty
  have hk := T.keyed.key (T.key ha)
  refine ⟨w', hrun, hturn, ⟨hd.nd.sublist (List.filter_sublist.map _), fun p hp => hd.ok p (List.mem_filter.1 hp).1⟩, _, n, hown, ?_⟩
  refine (hp.filter _).trans ?_
  unfold lits delL
  rw [List.filter_map]
  refine (List.Perm.of_eq ?_)
  congr 1
  refine List.filter_congr fun p hp => ?_
  simp only [Function.comp_apply]
  by_cases e : p.1 = a
  · simp [e, WideAt.sameKey_self hk]
  · simp only [e, not_false_eq_true, decide_true, ne_eq, Bool.not_eq_true']
    exact sameKey_ne fun e' => e (T.kinj (hd.ok p hp) ha e')
theorem MapT.clear {t e : TypeId} (h : MapT T vv w m L) (ht : P.underlying t = some (.map K e)) (ty : TypeId) :
    ∃ w', (Builtin.clear_ #[t] ty #[.map (some m)]).run P w = .ok (.tuple #[]) w' ∧ w.mapTurned w' m ∧ MapT T vv w' m ([] : List (α × β)) := by
  obtain ⟨es, clock, hm⟩ := h.isMap
  refine ⟨ChangeMaps.setBlock w m (.map #[] clock), ?_, ⟨es, clock, #[], clock, hm, rfl⟩, ⟨by simp, by simp⟩, [], 0, ⟨#[], clock, heap_setBlock_same hm _, ⟨by simp, MapKept.stamped_empty clock, by simp⟩, Nat.le_refl _, rfl⟩, List.Perm.refl _⟩
  simp [Builtin.clear_, run_underlying ht, MapKept.run_getObj_map hm, MapKept.run_setObj_map _ hm, Result.andThen, ChangeMaps.setBlock]

/-! ### A loop over a map -/
theorem RangeT.owns (h : RangeT T vv w m r L todo) : MapT T vv w m L := by
  obtain ⟨hd, es, n, left, cnt, h1, hp, _⟩ := h
  exact ⟨hd, es, n, h1.owns, hp⟩
theorem RangeT.ne (h : RangeT T vv w m r L todo) : r ≠ m := by obtain ⟨_, _, _, _, _, h1, _⟩ := h; exact h1.ne
theorem RangeT.lt (h : RangeT T vv w m r L todo) : r < w.heap.size := by obtain ⟨_, _, _, _, _, h1, _⟩ := h; exact h1.lt
theorem RangeT.sub (h : RangeT T vv w m r L todo) : ∀ p ∈ todo, p ∈ L := by
  obtain ⟨_, _, _, _, _, _, _, rfl⟩ := h
  exact fun p hp => (List.mem_filter.1 hp).1
theorem RangeT.stay (h : RangeT T vv w m r L todo) (hm : w'.heap[m]? = w.heap[m]?) (hr : w'.heap[r]? = w.heap[r]?) : RangeT T vv w' m r L todo := by
  obtain ⟨hd, es, n, left, cnt, ⟨es', clock, since, seen, c0, h1, h2, h3, h4, h5, h6⟩, hp, e⟩ := h
  exact ⟨hd, es, n, left, cnt, ⟨es', clock, since, seen, c0, hm.trans h1, h2, h3, h4, hr.trans h5, h6⟩, hp, e⟩
theorem RangeT.out {S : Nat → Prop} (h : RangeT T vv w m r L todo) (ho : Out S w w') (hm : ¬ S m) (hr : ¬ S r) : RangeT T vv w' m r L todo := h.stay (ho.block m h.owns.lt hm) (ho.block r h.lt hr)
theorem RangeT.left_out {S : Nat → Prop} (h : RangeT T vv w m r L todo) (ho : Out S w w') (hm : ¬ S m) (hr : ¬ S r) : w'.rangeLeft m r = w.rangeLeft m r := by
  unfold World.rangeLeft
  rw [ho.block m h.owns.lt hm, ho.block r h.lt hr]

theorem MapT.range {t e : TypeId} (h : MapT T vv w m L) (ht : P.underlying t = some (.map K e)) :
    ∃ w', (Instr.range t (.map (some m))).run P w = .ok (.pointer (some ⟨w.heap.size, 0, none⟩)) w' ∧ RangeT T vv w' m w.heap.size L L ∧ Below w.heap.size w w' ∧ w'.heap.size = w.heap.size + 1 := by
  obtain ⟨hd, es, n, h1, hp⟩ := h
  obtain ⟨w', hrun, r1, r2, r3⟩ := h1.range T.keyed ht
  refine ⟨w', hrun, ⟨hd, es, n, _, _, r1, hp, ?_⟩, ⟨r2.os, r2.tape, r2.output, r2.size, fun i hi => r2.block i hi (by simp)⟩, r3⟩
  refine (List.filter_eq_self.2 fun p hp' => ?_).symm
  rw [(es_at hd hp (es_apart T.keyed h1) (hd.ok p hp') (.held undef)).1, hd.mem (b := p.2) hp']
  rfl

theorem RangeT.step (h : RangeT T vv w m r L todo) (ty : TypeId) :
    (todo = [] ∧ (Instr.next (.pointer (some ⟨r, 0, none⟩)) false ty).run P w = .ok (.tuple #[.bool false]) w) ∨
    ∃ x y rest w', todo.Perm ((x, y) :: rest) ∧ (x, y) ∈ L ∧ T.ok x ∧ (Instr.next (.pointer (some ⟨r, 0, none⟩)) false ty).run P w = .ok (.tuple #[.bool true, T.kv x, vv y]) w' ∧ RangeT T vv w' m r L rest ∧ w'.rangeLeft m r < w.rangeLeft m r ∧
      Out (fun i => i = r) w w' ∧ w'.heap.size = w.heap.size ∧ (Instr.entry (.pointer (some ⟨r, 0, none⟩))).run P w' = .ok (.tuple #[T.kv x, vv y]) w' := by
  obtain ⟨hd, es, n, left, cnt, h1, hp, rfl⟩ := h
  rcases h1.next T.keyed ty with ⟨h0, hl, hrun⟩ | ⟨key, v, kl, y, w', cnt', hkey, hlk, hv, hat, hrun, hrg, hlt, hgr, hsz, hen⟩
  · exact .inl ⟨by simp [hl], hrun⟩
  · have hap := es_apart T.keyed h1.owns
    have hklit := T.keyed.key hkey
    have hh : has (.map es) kl = true := has_true_of_atKey hat
    rw [has_eq, List.any_eq_true] at hh
    obtain ⟨q, hq, hs⟩ := hh
    have hqk := (WideAt.sameKey_iff hklit).1 hs
    obtain ⟨p, hpL, rfl⟩ := List.mem_map.1 (hp.mem_iff.1 hq)
    obtain ⟨x, b⟩ := p
    simp only at hqk
    subst hqk
    have hok := hd.ok _ hpL
    have hkx : key = T.kv x := T.keyed.inj hkey (T.key hok)
    have hvb : v = vv b := by
      have h2 := (es_at hd hp hap hok (.held undef)).2
      rw [hd.mem hpL, hat] at h2
      unfold Rv at hv
      injection hv with hv
      rw [← hv] at h2
      injection h2
    subst hkx
    subst hvb
    refine .inr ⟨x, b, L.filter fun p => left (T.kl p.1) && !(T.kl p.1).sameKey (T.kl x), w', ?_, hpL, hok, hrun, ⟨hd, es, n, _, _, hrg, hp, rfl⟩, by rw [hrg.left_eq, h1.left_eq]; exact hlt, ⟨hgr.os, hgr.tape, hgr.output, hgr.size, fun i hi hn => hgr.block i hi (fun e => hn (Option.some.inj e))⟩, hsz, hen⟩
    clear hrun hen hrg hgr h1 hp hq hs
    have hnd := hd.nd
    have hok' := hd.ok
    clear hd
    induction L with
    | nil => cases hpL
    | cons c L ih =>
      rw [List.map_cons, List.nodup_cons] at hnd
      rcases List.mem_cons.1 hpL with e | hm
      · subst e
        rw [List.filter_cons_of_pos (by simpa using hlk), List.filter_cons_of_neg (by simp [WideAt.sameKey_self hklit])]
        refine List.Perm.cons _ (List.Perm.of_eq (List.filter_congr fun p hp => ?_))
        have : (T.kl p.1).sameKey (T.kl x) = false := sameKey_ne fun e' => hnd.1 (by
          have := T.kinj (hok' p (List.mem_cons_of_mem _ hp)) hok e'
          exact List.mem_map.2 ⟨p, hp, this⟩)
        simp [this]
      · have hne : (T.kl c.1).sameKey (T.kl x) = false := sameKey_ne fun e' => hnd.1 (by
          have := T.kinj (hok' c List.mem_cons_self) hok e'
          rw [this]; exact List.mem_map.2 ⟨_, hm, rfl⟩)
        have h3 := ih hm hnd.2 fun p hp => hok' p (List.mem_cons_of_mem _ hp)
        by_cases hc : left (T.kl c.1) = true
        · rw [List.filter_cons_of_pos (by simpa using hc), List.filter_cons_of_pos (by simp [hc, hne])]
          exact (List.Perm.cons c h3).trans (List.Perm.swap _ _ _)
        · rw [List.filter_cons_of_neg (by simpa using hc), List.filter_cons_of_neg (by simp [hc])]
          exact h3
end

/-- The step of a loop over a map, at the operation. -/
theorem wpList_next_T {P : Program} {K : TypeId} {α β : Type} [DecidableEq α] {T : KeyT P K α} {vv : β → Value} (w : World) {ops : Array Oper} {rest : List Oper} {o : Oper} {a : Act} {Q : Exit → Act → World → Prop}
    (hg : o.guard = none) (it : Operand) (hop : o.op = Op.next it false) (mkK : α → Value) (mkV : β → Value) (eK : ∀ x, T.kv x = mkK x) (eV : ∀ x, vv x = mkV x) {m r : Nat} {L todo : List (α × β)}
    (hit : a.eval it = .pointer (some ⟨r, 0, none⟩)) (h : RangeT T vv w m r L todo) (hDone : todo = [] → wpList P ops Q rest (a.put o.dst (.tuple #[.bool false])) w)
    (hMore : ∀ x y more w', todo.Perm ((x, y) :: more) → (x, y) ∈ L → T.ok x → RangeT T vv w' m r L more → w'.rangeLeft m r < w.rangeLeft m r → Out (fun i => i = r) w w' → w'.heap.size = w.heap.size →
      (Instr.entry (.pointer (some ⟨r, 0, none⟩))).run P w' = .ok (.tuple #[mkK x, mkV y]) w' → wpList P ops Q rest (a.put o.dst (.tuple #[.bool true, mkK x, mkV y])) w') :
    wpList P ops Q (o :: rest) a w := by
  refine wpList_plain hg fun K' hK' => ?_
  unfold Oper.wp
  rcases h.step o.type with ⟨h0, hrun⟩ | ⟨x, y, more, w', h1, h2, h3, hrun, h4, h5, h6, h7, h8⟩
  · simp [execOp, hop, hit, hrun, Result.andThen]
    exact hK' _ _ (hDone h0)
  · rw [eK, eV] at hrun h8
    simp [execOp, hop, hit, hrun, Result.andThen]
    exact hK' _ _ (hMore x y more w' h1 h2 h3 h4 h5 h6 h7 h8)
theorem wpList_range_T {P : Program} {K : TypeId} {α β : Type} [DecidableEq α] {T : KeyT P K α} {vv : β → Value} (w : World) {ops : Array Oper} {rest : List Oper} {o : Oper} {a : Act} {Q : Exit → Act → World → Prop}
    (hg : o.guard = none) (mo : Operand) (t e : TypeId) (hop : o.op = Op.range t mo) (ht : P.underlying t = some (.map K e)) {m : Nat} {L : List (α × β)} (hm : a.eval mo = .map (some m)) (h : MapT T vv w m L)
    (hK : ∀ w', RangeT T vv w' m w.heap.size L L → Below w.heap.size w w' → w'.heap.size = w.heap.size + 1 → wpList P ops Q rest (a.put o.dst (.pointer (some ⟨w.heap.size, 0, none⟩))) w') :
    wpList P ops Q (o :: rest) a w := by
  refine wpList_plain hg fun K' hK' => ?_
  obtain ⟨w', hrun, r1, r2, r3⟩ := h.range ht
  unfold Oper.wp
  simp [execOp, hop, hm, hrun, Result.andThen]
  exact hK' _ _ (hK w' r1 r2 r3)
end Go.Proofs.Ytmdgcimjmmnbjaa
