/-
  Laid together for a hand-in: Blk, Open, Ints, Bring, Wi11, RefBin, RefTake, RefTakeStr.
-/
import Derived.Test.YtihmddpafbackaaZ01
import Derived.Test.YtihmddpafbackaaRows
import Derived.Test.YtihmddpafbackaaZ02
import Derived.Deep.MidRow
import Derived.ProofKit
import Derived.OpenShut
import Derived.ShutString
import Derived.ChangeOld
import Derived.SizedLaws
import Derived.Deep.Slices
import Derived.Deep.RegionHeld3
import Derived.Deep.AppendLies

namespace Go.Proofs.Ytihmddpafbackaa

open Go.RowKit

set_option linter.unusedVariables false

/-- A block known whole. -/
def Blk (w : World) (g : Nat) (t : TypeId) (cs : List Value) : Prop := w.heap[g]? = some (.cells cs.toArray t (0, 0))

theorem Blk.cell {w : World} {g : Nat} {t : TypeId} {cs : List Value} (h : Blk w g t cs) {i : Nat} {v : Value} (hv : cs[i]? = some v) : w.cell? ⟨g, i, none⟩ = some v := by
  rw [cell_of_row w g i cs.toArray t (0, 0) h]; simpa using hv

theorem Blk.free {w : World} {g : Nat} {t : TypeId} {cs : List Value} (h : Blk w g t cs) (i : Nat) : w.frozen? ⟨g, i, none⟩ = false := frozen_of_row w g i cs.toArray t h

theorem Blk.set_ {w : World} {g : Nat} {t : TypeId} {cs : List Value} (h : Blk w g t cs) (i : Nat) (v : Value) : Blk (w.setCell ⟨g, i, none⟩ v) g t (cs.set i v) := by
  unfold Blk at h ⊢
  simp [World.setCell, Array.getElem?_modify, h]

theorem Blk.far {w : World} {g : Nat} {t : TypeId} {cs : List Value} (h : Blk w g t cs) {p : Addr} (hp : g ≠ p.block) (v : Value) : Blk (w.setCell p v) g t cs := (Below.heap_setCell w p v g hp).trans h

theorem Blk.below {w w' : World} {g B : Nat} {t : TypeId} {cs : List Value} (h : Blk w g t cs) (hb : Below B w w') (hg : g < B) : Blk w' g t cs := (hb.block g hg).trans h

theorem Blk.lt {w : World} {g : Nat} {t : TypeId} {l : List Value} (h : Blk w g t l) : g < w.heap.size := by
  rcases Nat.lt_or_ge g w.heap.size with hlt | hge
  · exact hlt
  · unfold Blk at h; rw [Array.getElem?_eq_none hge] at h; cases h

theorem Blk.setMore {w : World} {g : Nat} {t : TypeId} (vs : List Value) : ∀ {w : World} {o : Nat} {cs : List Value}, Blk w g t cs → o + vs.length ≤ cs.length → Blk (w.setCells g o vs) g t (cs.take o ++ vs ++ cs.drop (o + vs.length)) := by
  induction vs with
  | nil => intro w o cs h hl; simpa [World.setCells] using h
  | cons v vs ih =>
    intro w o cs h hl
    have hl' : o + 1 + vs.length ≤ cs.length := by simp at hl; omega
    have := ih (w := w.setCell ⟨g, o, none⟩ v) (o := o + 1) (cs := cs.set o v) (h.set_ o v) (by rw [List.length_set]; exact hl')
    rw [World.setCells]
    have e1 : (cs.set o v).take (o + 1) = cs.take o ++ [v] := by
      rw [List.take_succ_eq_append_getElem (by rw [List.length_set]; omega), List.take_set_of_le (by omega), List.getElem_set_self]
    have e2 : (cs.set o v).drop (o + 1 + vs.length) = cs.drop (o + (v :: vs).length) := by
      rw [List.drop_set_of_lt (by omega), List.length_cons]; congr 1; omega
    rw [e1, e2] at this
    simpa using this

theorem Blk.setAll {w : World} {g : Nat} {t : TypeId} {cs vs : List Value} (h : Blk w g t cs) (hl : vs.length = cs.length) : Blk (w.setCells g 0 vs) g t vs := by
  have := Blk.setMore (w := w) vs h (o := 0) (by omega)
  rw [Nat.zero_add, List.drop_of_length_le (by omega)] at this
  simpa using this

theorem Below.setCells {B : Nat} {a : World} {g : Nat} (hg : B ≤ g) (vs : List Value) : ∀ {w : World} {o : Nat}, Below B a w → Below B a (w.setCells g o vs) := by
  induction vs with
  | nil => intro w o h; exact h
  | cons v vs ih => intro w o h; rw [World.setCells]; exact ih (h.setCell hg v)

theorem Blk.farAll {g g' : Nat} {t : TypeId} {cs : List Value} (hg : g ≠ g') (vs : List Value) : ∀ {w : World} {o : Nat}, Blk w g t cs → Blk (w.setCells g' o vs) g t cs := by
  induction vs with
  | nil => intro w o h; exact h
  | cons v vs ih => intro w o h; rw [World.setCells]; exact ih (h.far hg v)

theorem Blk.there {w : World} {g : Nat} {t : TypeId} {cs : List Value} (h : Blk w g t cs) : w.there g 0 cs.length := by
  intro j hj
  rw [Nat.zero_add]
  exact ⟨by rw [h.cell (List.getElem?_eq_getElem hj)]; rfl, h.free j⟩

theorem Blk.new {w : World} {g : Nat} {t : TypeId} {cs : Array Value} {l : List Value} (h : l.toArray = cs) (hg : w.heap.size = g) : Blk (w.alloc (.cells cs t)) g t l := by
  subst h hg; exact heap_alloc_new w _

theorem Blk.old {w : World} {g : Nat} {t : TypeId} {l : List Value} (h : Blk w g t l) (o : Obj) : Blk (w.alloc o) g t l := by
  have hl : g < w.heap.size := by
    rcases Nat.lt_or_ge g w.heap.size with hlt | hge
    · exact hlt
    · unfold Blk at h; rw [Array.getElem?_eq_none hge] at h; cases h
  exact (Below.heap_alloc w o g hl).trans h

theorem Blk.thereAt {w : World} {g : Nat} {t : TypeId} {cs : List Value} (h : Blk w g t cs) {o n : Nat} (hn : o + n ≤ cs.length) : w.there g o n := by
  intro j hj
  exact ⟨by rw [h.cell (List.getElem?_eq_getElem (show o + j < cs.length by omega))]; rfl, h.free _⟩

theorem Blk.range {w : World} {g : Nat} {t : TypeId} {cs : List Value} (h : Blk w g t cs) : w.rangeAt g 0 cs := fun j v hv => by
  rw [Nat.zero_add]; exact h.cell hv

/-- Of the old blocks only such of 'S' are not as they were. -/
structure Out (S : Nat → Prop) (w w' : World) : Prop where
  os : w'.os = w.os
  tape : w'.tape = w.tape
  output : w'.output = w.output
  size : w.heap.size ≤ w'.heap.size
  block : ∀ i, i < w.heap.size → ¬ S i → w'.heap[i]? = w.heap[i]?

section

variable {S S' : Nat → Prop} {a b c w w' : World}

theorem Out.refl (S : Nat → Prop) (w : World) : Out S w w := ⟨rfl, rfl, rfl, Nat.le_refl _, fun _ _ _ => rfl⟩

theorem Out.trans (h : Out S a b) (k : Out S' b c) (hs : ∀ i, i < a.heap.size → S' i → S i) : Out S a c :=
  ⟨k.os.trans h.os, k.tape.trans h.tape, k.output.trans h.output, Nat.le_trans h.size k.size, fun i hi hn => (k.block i (Nat.lt_of_lt_of_le hi h.size) fun e => hn (hs i hi e)).trans (h.block i hi hn)⟩

theorem Out.ofBelow (S : Nat → Prop) (h : Below w.heap.size w w') : Out S w w' := ⟨h.os, h.tape, h.output, h.size, fun i hi _ => h.block i hi⟩

theorem Out.then_below (h : Out S a b) (k : Below b.heap.size b c) : Out S a c := h.trans (Out.ofBelow S k) fun _ _ e => e

theorem Out.then_grown (h : Out S a b) {row : Option Nat} (k : b.grownBy c row) (hr : ∀ i, row = some i → i < a.heap.size → S i) : Out S a c :=
  ⟨k.os.trans h.os, k.tape.trans h.tape, k.output.trans h.output, Nat.le_trans h.size k.size, fun i hi hn => (k.block i (Nat.lt_of_lt_of_le hi h.size) fun e => hn (hr i e.symm hi)).trans (h.block i hi hn)⟩

theorem Out.setCell (h : Out S a w) {p : Addr} (hp : p.block < a.heap.size → S p.block) (u : Value) : Out S a (w.setCell p u) := by
  refine ⟨h.os, h.tape, h.output, by simpa [World.setCell] using h.size, fun i hi hn => ?_⟩
  refine (Below.heap_setCell w p u i ?_).trans (h.block i hi hn)
  rintro rfl
  exact hn (hp hi)

theorem Out.drewN (h : Out S a w) (n : Nat) : Out S a (w.drewN n) := ⟨h.os, h.tape, h.output, h.size, h.block⟩

theorem Out.above {B : Nat} (h : Out S w w') (hS : ∀ i, S i → B ≤ i) (hB : B ≤ w.heap.size) : Below B w w' :=
  ⟨h.os, h.tape, h.output, h.size, fun i hi => h.block i (by omega) fun e => by have := hS i e; omega⟩

theorem Out.blk {g : Nat} {t : TypeId} {l : List Value} (h : Out S w w') (hb : Blk w g t l) (hn : ¬ S g) : Blk w' g t l := (h.block g hb.lt hn).trans hb

end

theorem size_cells (vs : List Value) : ∀ (w : World) (b o : Nat), (w.setCells b o vs).heap.size = w.heap.size := by
  induction vs with
  | nil => intro w b o; rfl
  | cons v vs ih => intro w b o; rw [World.setCells, ih]; simp [World.setCell]

end Go.Proofs.Ytihmddpafbackaa

namespace Go.Proofs.Ytihmddpafbackaa

open Go.ChangeShapes Go.WideShapes Go.ChangeAt Go.RowKit

set_option linter.unusedVariables false

theorem own : ownKnob Try.prog.godebug = none := by kernel_rfl

theorem laidOut : laidOutB Try.prog = true := by kernel_rfl

theorem bytes_u8 : Try.prog.bytesOf 5 = 1 := by kernel_rfl

/-- A slice of bytes that came in. -/
def ArgB (w : World) (A : Option Addr) (n c : Nat) (l : List UInt8) : Prop := l.length = n ∧ n ≤ c ∧ c ≤ 140737488351232 ∧ Bs w A l

theorem wf_u8 {x : Int} (h : (Lit.int .u8 x).wf = true) : x = (((UInt8.ofNat x.toNat).toNat : Nat) : Int) := by
  have hb := bounds_u8 h
  rw [UInt8.toNat_ofNat', Nat.mod_eq_of_lt (by omega)]
  omega

theorem openB {H : Type} {enc : TypeId × Value → H} {w : World} {A : Option Addr} {n c : Nat} {d : DataW H} {p : List MemPlace}
    (h : DataW.Trod enc Try.prog w 0 (fun _ => true) true 22 (.slice A n c) d p) (hlt : ∀ x ∈ p, x.block < w.heap.size)
    (hs : ∀ elems spare, d = .slice elems spare → elems.length + spare.length ≤ 140737488351232) : ∃ l, ArgB w A n c l := by
  obtain ⟨fuel, hf⟩ := h
  rcases open_ints Try.underlying22 Try.underlying5 (by kernel_rfl) hf with ⟨hcs, _⟩ | ⟨x, l, c', zs, hcs, _, hl, hm, hz, hx, hcell, hwz⟩
  · simp [Value.cells] at hcs
    obtain ⟨rfl, rfl, rfl⟩ := hcs
    exact ⟨[], rfl, Nat.le_refl _, by omega, Bs.nil _ _⟩
  · simp [Value.cells] at hcs
    obtain ⟨rfl, rfl, rfl⟩ := hcs
    simp only [Prod.mk.injEq] at hx
    obtain ⟨hd, hp⟩ := hx
    have hz' : zs.length = c := by simpa using hz
    have hs' := hs _ _ hd
    simp only [lits, List.length_map, List.length_take, List.length_drop] at hs'
    refine ⟨(zs.take n).map fun z => UInt8.ofNat z.toNat, by simp; omega, hl, by omega, ?_⟩
    refine ⟨by simp [cbs], fun hn => ?_⟩
    have h0 := hcell 0 (by simp at hn; omega)
    have hsp : x.spot = none := by
      have := World.cell?_spot h0
      unfold Addr.add at this
      simpa using this
    obtain ⟨b, off, spot⟩ := x
    simp only at hsp
    subst hsp
    refine ⟨b, off, rfl, ?_, ?_⟩
    · have := World.block_lt_of_cell? w _ h0
      rw [add_mk] at this
      exact this
    · intro j u hu
      simp only [cbs, List.map_map, List.getElem?_map, Option.map_eq_some_iff] at hu
      obtain ⟨z, hz1, rfl⟩ := hu
      have hj : j < n ∧ j < zs.length := by
        rcases Nat.lt_or_ge j (zs.take n).length with h | h
        · simp at h; omega
        · rw [List.getElem?_eq_none h] at hz1; cases hz1
      have hzz : zs[j]? = some z := by rw [List.getElem?_take, if_pos hj.1] at hz1; exact hz1
      have hcj := hcell j hj.2
      rw [add_mk] at hcj
      rw [hcj]
      have hmem : z ∈ zs := List.mem_of_getElem? hzz
      have hg : zs.getD j 0 = z := by simp [List.getD, hzz]
      rw [hg]
      show _ = some (Value.int .u8 _)
      rw [← wf_u8 (hwz z hmem)]

/-- What 'x[:min(len(x), 1000)]' leaves of a slice of bytes that came in. -/
theorem cut1000 {w : World} {A : Option Addr} {n c : Nat} {l : List UInt8} (h : ArgB w A n c l) : ∃ m x, x.length = m ∧ m ≤ 1000 ∧ m ≤ c ∧ c ≤ maxLen ∧ Bs w A x ∧
    (∀ ts t w, (Builtin.min_ ts t #[.int .i64 (n : Int), .int .i64 1000]).run Try.prog w = .ok (.int .i64 (m : Int)) w) ∧
    (∀ w, (Instr.sliceAt 22 (.slice A n c) none (some (.int .i64 (m : Int))) none).run Try.prog w = .ok (.slice A m c) w) := by
  obtain ⟨h1, h2, h3, h4⟩ := h
  refine ⟨min n 1000, l.take (min n 1000), by rw [List.length_take]; omega, by omega, by omega, by unfold maxLen; omega, h4.front (by omega), fun ts t w => ?_, fun w => ?_⟩
  · rw [run_min_int2]
    congr 2
    split <;> omega
  · have h1 : ((min n 1000 : Nat) : Int) ≤ c := by omega
    generalize min n 1000 = m at *
    go_simp

end Go.Proofs.Ytihmddpafbackaa

namespace Go.Proofs.Ytihmddpafbackaa

open Go.ChangeShapes Go.WideShapes Go.ChangeAt Go.RowKit

set_option linter.unusedVariables false


def ci (x : Int) : Value := .int .i64 x

def cis (l : List Int) : List Value := l.map ci

theorem cis_length (l : List Int) : (cis l).length = l.length := by simp [cis]

theorem cis_get (l : List Int) (i : Nat) : (cis l)[i]? = (l[i]?).map ci := by simp [cis]

abbrev Wf (x : Int) : Prop := (Lit.int .i64 x).wf = true

theorem bounds_i64 {x : Int} (h : Wf x) : -9223372036854775808 ≤ x ∧ x ≤ 9223372036854775807 := by
  simp [Wf, Lit.wf, IntKind.min, IntKind.max, IntKind.signed, IntKind.bits] at h
  omega

/-- The slice 'A' of l.length elements shows the numbers 'l'. -/
def Is (w : World) (A : Option Addr) (l : List Int) : Prop := Shows w w.heap.size 1 A l.length (cis l)

theorem Is.after {w w' : World} {A : Option Addr} {l : List Int} (hb : Below w.heap.size w w') (h : Is w A l) : Is w' A l := Shows.on h hb

theorem Is.at_ {w : World} {A : Option Addr} {l : List Int} (h : Is w A l) {i : Nat} (hi : i < l.length) :
    ∃ b off, A = some ⟨b, off, none⟩ ∧ b < w.heap.size ∧ ∀ j (hj : j < l.length), w.cell? ⟨b, off + j, none⟩ = some (.int .i64 l[j]) := by
  obtain ⟨b, off, e, hb, hc⟩ := h.2 (by omega)
  refine ⟨b, off, e, hb, fun j hj => ?_⟩
  exact hc j _ (by rw [cis_get, List.getElem?_eq_getElem hj]; rfl)

def ArgI (w : World) (A : Option Addr) (n c : Nat) (l : List Int) : Prop := l.length = n ∧ n ≤ c ∧ c ≤ maxLen ∧ Is w A l ∧ ∀ x ∈ l, Wf x

theorem ArgI.after {w w' : World} {A : Option Addr} {n c : Nat} {l : List Int} (h : ArgI w A n c l) (hb : Below w.heap.size w w') : ArgI w' A n c l := ⟨h.1, h.2.1, h.2.2.1, h.2.2.2.1.after hb, h.2.2.2.2⟩

section

variable {H : Type} {enc : TypeId × Value → H} {w : World} {x : DataW H × List MemPlace} {cs : List Value} {fuel : Nat}

theorem spot_of {a : Addr} {v : Value} (h : w.cell? (a.add 0) = some v) : a.spot = none := by
  have := World.cell?_spot h
  unfold Addr.add at this
  simpa using this

theorem trodI (h : DataW.trod enc Try.prog w 0 (fun _ => true) true fuel 23 cs = some x) : ∃ A n c l, cs = [.slice A n c] ∧ ArgI w A n c l := by
  rcases open_ints Try.underlying23 Try.underlying3 (by kernel_rfl) h with ⟨rfl, _⟩ | ⟨a, n, c, zs, rfl, _, hl, hm, hz, _, hcell, hwz⟩
  · exact ⟨none, 0, 0, [], rfl, rfl, Nat.le_refl _, by simp [maxLen], Shows.empty _, fun _ h => by simp at h⟩
  · have hz' : zs.length = c := by simpa using hz
    refine ⟨some a, n, c, zs.take n, rfl, by simp; omega, hl, hm, ?_, fun z hz => hwz z (List.mem_of_mem_take hz)⟩
    refine ⟨by simp [cis], fun hn => ?_⟩
    simp at hn
    have hsp := spot_of (hcell 0 (by omega))
    obtain ⟨b, off, spot⟩ := a
    simp only at hsp
    subst hsp
    refine ⟨b, off, rfl, ?_, ?_⟩
    · have := World.block_lt_of_cell? w _ (hcell 0 (by omega))
      rw [add_mk] at this
      exact this
    · intro j u hu
      simp only [cis, List.getElem?_map, Option.map_eq_some_iff] at hu
      obtain ⟨z, hz1, rfl⟩ := hu
      have hj : j < n ∧ j < zs.length := by
        rcases Nat.lt_or_ge j (zs.take n).length with h | h
        · simp at h; omega
        · rw [List.getElem?_eq_none h] at hz1; cases hz1
      have hzz : zs[j]? = some z := by rw [List.getElem?_take, if_pos hj.1] at hz1; exact hz1
      have hcj := hcell j hj.2
      rw [add_mk] at hcj
      rw [hcj]
      have hg : zs.getD j 0 = z := by simp [List.getD, hzz]
      rw [hg]
      rfl

theorem openI {A : Option Addr} {n c : Nat} {d : DataW H} {p : List MemPlace} (h : DataW.Trod enc Try.prog w 0 (fun _ => true) true 23 (.slice A n c) d p) : ∃ l, ArgI w A n c l := by
  obtain ⟨fuel, hf⟩ := h
  obtain ⟨A', n', c', l, e, ha⟩ := trodI hf
  simp [Value.cells] at e
  obtain ⟨rfl, rfl, rfl⟩ := e
  exact ⟨l, ha⟩

end

theorem i64_info : (Try.prog.info? 3).map (fun i => (i.zero, i.size, i.bytes)) = some (some (.int .i64 0), 1, 8) := by kernel_rfl

theorem cis_one (l : List Int) : ∀ u ∈ cis l, u.oneCell' = true := by
  intro u hu; simp [cis] at hu; obtain ⟨x, _, rfl⟩ := hu; rfl

/-- A new slice that shows 'l', in a row made since the world 'w'. -/
def NewI (w : World) (l : List Int) (v : Value) (w' : World) : Prop := w'.ownsRow w.heap.size 3 1 v l.length (cis l) ∧ Below w.heap.size w w'

set_option maxRecDepth 100000 in
theorem run_copyI (w : World) (A : Option Addr) (n c : Nat) (l : List Int) (h : ArgI w A n c l) (hn : n ≤ 17592186043904) (ty : TypeId) :
    ∃ v' w', (Builtin.append_ #[23, 23] ty #[.slice none 0 0, .slice A n c]).run Try.prog w = .ok v' w' ∧ NewI w l v' w' := by
  obtain ⟨h1, h2, h3, h4, _⟩ := h
  subst h1
  obtain ⟨i0, hi, hz0, hz1, hz2⟩ := info_parts i64_info
  cases A with
  | none =>
    have hl : l = [] := by
      cases l with
      | nil => rfl
      | cons x t => obtain ⟨b, off, e, _⟩ := h4.at_ (i := 0) (by simp); cases e
    subst hl
    refine ⟨.slice none 0 0, w, ?_, World.ownsRow_nil _ _ _ _, Below.refl _ _⟩
    simp [Builtin.append_, run_underlying Try.underlying23, sizeOf, typeInfo, hi, Builtin.lenOf, Builtin.firstCells]
  | some ad =>
    have hcells : ∀ j u, (cis l)[j]? = some u → w.cell? (ad.add j) = some u := by
      intro j u hu
      have hj : j < l.length := by
        rcases Nat.lt_or_ge j l.length with h | h
        · exact h
        · rw [List.getElem?_eq_none (by rw [cis_length]; exact h)] at hu; cases hu
      obtain ⟨b, off, e, _, hc⟩ := h4.2 (by omega)
      injection e with e
      subst e
      rw [add_mk]
      exact hc j u hu
    obtain ⟨v', w', q1, q2, q3, _, q5⟩ := run_append_own_at (P := Try.prog) w w.heap.size 23 ty 3 i0 (.int .i64 0) 1 8 Try.underlying23 hi hz0 hz1 hz2 rfl (by decide) (.slice none 0 0) 0 [] (World.ownsRow_nil _ _ _ _) ad l.length c (cis l)
      (by rw [cis_length]; simp) hcells (cis_one l) (by simp only [maxLen]; omega) (by omega) (Nat.le_refl _)
    exact ⟨v', w', q1, by simpa using q2, (Below.refl _ _).grown q3 (Nat.le_refl _) (by simp [Value.ownBlock])⟩

theorem wp_copyI {w : World} {ops : Array Oper} {rest : List Oper} {o : Oper} {a : Act} {Q : Exit → Act → World → Prop} (hgd : o.guard = none) (s x : Operand)
    (ho : o.op = .call { callee := .builtin .append, args := #[s, x], argTypes := #[23, 23] }) (A : Option Addr) (n c : Nat) (l : List Int) (hs : a.eval s = .slice none 0 0) (hx : a.eval x = .slice A n c) (hA : ArgI w A n c l) (hn : n ≤ 17592186043904)
    (h : ∀ v' w', NewI w l v' w' → wpList Try.prog ops Q rest (a.put o.dst v') w') : wpList Try.prog ops Q (o :: rest) a w := by
  obtain ⟨v', w', hrun, h2⟩ := run_copyI w A n c l hA hn o.type
  refine wpList_plain hgd fun K hK => ?_
  unfold Oper.wp execOp
  simp only [ho, resolve, invoke, builtin, Sem.run_bind, Sem.run_pure, Result.andThen_ok, List.map_toArray, List.map_cons, List.map_nil, hs, hx, hrun]
  exact hK _ _ (h v' w' h2)

theorem copyInts_any (A : Option Addr) (n c : Nat) (l : List Int) (w : World) (h : ArgI w A n c l) (hn : n ≤ 17592186043904) : Calls Try.prog 34 #[.slice A n c] w fun e w' => ∃ v, e = .returned v ∧ NewI w l v w' := by
  have H := Lib.hid h
  clear h
  go_enter Try.func34, Try.ntmps34
  go_wp2_with (at_builtin; refine wp_copyI rfl _ _ rfl A n c l rfl rfl H.out hn ?_; intro v1 w1 hN)
  go_ret
  exact ⟨v1, rfl, hN⟩

set_option maxRecDepth 100000 in
set_option maxHeartbeats 800000 in
/-- Alike: EqInts of two slices that show one list. -/
theorem eqInts_same (A A' : Option Addr) (n c c' : Nat) (l : List Int) (w : World) (h : ArgI w A n c l) (h' : ArgI w A' n c' l) : Calls Try.prog 43 #[.slice A n c, .slice A' n c'] w fun e w' => e = .returned (.bool true) ∧ Below w.heap.size w w' := by
  have hcm := h.2.2.1
  unfold maxLen at hcm
  have hnc := h.2.1
  have hcm' := h'.2.2.1
  unfold maxLen at hcm'
  have hnc' := h'.2.1
  have hn63 : n ≤ 9223372036854775807 := by omega
  have H := Lib.hid (And.intro h h')
  clear h h'
  go_enter Try.func43, Try.ntmps43
  go_wp2
  go_loopw [5] (fun v wr => ∃ j : Nat, j ≤ n ∧ v = .int .i64 j ∧ Below w.heap.size w wr) (fun v _ => n - (intOf v).toNat)
  case atStart => exact ⟨0, Nat.zero_le _, rfl, Below.refl _ _⟩
  case round =>
    obtain ⟨j, hj, rfl, hb⟩ := hrel
    have hi0 : (0 : Int) ≤ j := by omega
    by_cases hlt : j < n
    · have hi1 : (j : Int) < n := by omega
      have hjl : j < l.length := by rw [H.out.1.1]; exact hlt
      obtain ⟨b1, o1, rfl, l1, q1⟩ := H.out.1.2.2.2.1.at_ hjl
      obtain ⟨b2, o2, rfl, l2, q2⟩ := H.out.2.2.2.2.1.at_ hjl
      have c1 : wr.cell? ⟨b1, o1 + j, none⟩ = some (.int .i64 l[j]) := (hb.cell (p := ⟨b1, o1 + j, none⟩) l1).trans (q1 j hjl)
      have c2 : wr.cell? ⟨b2, o2 + j, none⟩ = some (.int .i64 l[j]) := (hb.cell (p := ⟨b2, o2 + j, none⟩) l2).trans (q2 j hjl)
      have c1d : wr.drew.cell? ⟨b1, o1 + j, none⟩ = some (.int .i64 l[j]) := c1
      have c2d : wr.drew.cell? ⟨b2, o2 + j, none⟩ = some (.int .i64 l[j]) := c2
      generalize l[j] = x at *
      have Hb := Lib.hid hb
      clear hb q1 q2 hjl
      go_wp2
      go_quiet (fail)
      go_wp2
      go_roundw
      case rel => exact ⟨j + 1, by omega, by go_num, below_drewN Hb.out _⟩
      case measure => simp [intOf]; omega
    · have hi1 : ¬ (j : Int) < n := by omega
      have Hb := Lib.hid hb
      clear hb
      go_wp2
      go_ret
      exact ⟨rfl, Hb.out⟩

set_option maxRecDepth 100000 in
set_option maxHeartbeats 800000 in
/-- EqInts of two slices: whether they show the same list. -/
theorem eqInts_any (A A' : Option Addr) (n n' c c' : Nat) (l l' : List Int) (w : World) (h : ArgI w A n c l) (h' : ArgI w A' n' c' l') : Calls Try.prog 43 #[.slice A n c, .slice A' n' c'] w fun e w' => e = .returned (.bool (decide (l = l'))) ∧ Below w.heap.size w w' := by
  by_cases hnn : n = n'
  · subst hnn
    have hcm := h.2.2.1
    unfold maxLen at hcm
    have hnc := h.2.1
    have hcm' := h'.2.2.1
    unfold maxLen at hcm'
    have hnc' := h'.2.1
    have hl1 := h.1
    have hl2 := h'.1
    have hn63 : n ≤ 9223372036854775807 := by omega
    have H := Lib.hid (And.intro h h')
    clear h h'
    obtain ⟨r, hr⟩ : ∃ r, decide (l = l') = r := ⟨_, rfl⟩
    rw [hr]
    have Hr := Lib.hid hr
    clear hr
    go_enter Try.func43, Try.ntmps43
    go_wp2
    go_loopw [5] (fun v wr => ∃ j : Nat, j ≤ n ∧ v = .int .i64 j ∧ l.take j = l'.take j ∧ Below w.heap.size w wr) (fun v _ => n - (intOf v).toNat)
    case atStart => exact ⟨0, Nat.zero_le _, rfl, rfl, Below.refl _ _⟩
    case round =>
      obtain ⟨j, hj, rfl, heq, hb⟩ := hrel
      have hi0 : (0 : Int) ≤ j := by omega
      by_cases hlt : j < n
      · have hi1 : (j : Int) < n := by omega
        have hjl : j < l.length := by omega
        have hjl' : j < l'.length := by omega
        obtain ⟨b1, o1, rfl, l1, q1⟩ := H.out.1.2.2.2.1.at_ hjl
        obtain ⟨b2, o2, rfl, l2, q2⟩ := H.out.2.2.2.2.1.at_ hjl'
        have c1 : wr.cell? ⟨b1, o1 + j, none⟩ = some (.int .i64 l[j]) := (hb.cell (p := ⟨b1, o1 + j, none⟩) l1).trans (q1 j hjl)
        have c2 : wr.cell? ⟨b2, o2 + j, none⟩ = some (.int .i64 l'[j]) := (hb.cell (p := ⟨b2, o2 + j, none⟩) l2).trans (q2 j hjl')
        have c1d : wr.drew.cell? ⟨b1, o1 + j, none⟩ = some (.int .i64 l[j]) := c1
        have c2d : wr.drew.cell? ⟨b2, o2 + j, none⟩ = some (.int .i64 l'[j]) := c2
        have hs1 := List.take_succ_eq_append_getElem hjl
        have hs2 := List.take_succ_eq_append_getElem hjl'
        have hno : l[j] ≠ l'[j] → r = false := fun hne => by
          rw [← Hr.out, decide_eq_false_iff_not]
          rintro rfl; exact hne rfl
        have Hs := Lib.hid (And.intro hs1 (And.intro hs2 (And.intro hno heq)))
        clear hs1 hs2 hno heq q1 q2
        generalize l[j] = x at *
        generalize l'[j] = y at *
        clear hjl hjl'
        have Hb := Lib.hid hb
        clear hb
        by_cases hxy : x = y
        · subst hxy
          have hne : (x != x) = false := by simp
          go_wp2
          go_quiet (fail)
          go_wp2
          go_roundw
          case rel => exact ⟨j + 1, by omega, by go_num, by rw [Hs.out.1, Hs.out.2.1, Hs.out.2.2.2], below_drewN Hb.out _⟩
          case measure => simp [intOf]; omega
        · have hne : (x != y) = true := by simp [hxy]
          have hrf := Hs.out.2.2.1 hxy
          subst hrf
          have Hxy := Lib.hid hxy
          clear hxy
          go_wp2
          go_quiet (fail)
          go_wp2
          go_ret
          exact ⟨rfl, below_drewN Hb.out _⟩
      · have hi1 : ¬ (j : Int) < n := by omega
        have hjn : j = n := by omega
        rw [List.take_of_length_le (by omega), List.take_of_length_le (by omega)] at heq
        have hrt : r = true := by rw [← Hr.out, heq]; simp
        subst hrt
        have Hb := Lib.hid hb
        clear hb heq
        go_wp2
        go_ret
        exact ⟨rfl, Hb.out⟩
  · have hl1 := h.1
    have hl2 := h'.1
    have hne : ((n : Int) != (n' : Int)) = true := by simp; omega
    have e : decide (l = l') = false := by
      rw [decide_eq_false_iff_not]
      rintro rfl; omega
    rw [e]
    clear e
    have H := Lib.hid (And.intro h h')
    clear h h'
    go_enter Try.func43, Try.ntmps43
    go_wp2
    go_ret
    exact ⟨rfl, Below.refl _ _⟩

set_option maxHeartbeats 800000 in
/-- Bring to n: some number from 0 to n - 1, always the same. -/
theorem bring_ex (i n : Int) (h : 0 < n) (hn : n ≤ 4611686018427387904) (hi : Wf i) : ∃ r : Int, 0 ≤ r ∧ r < n ∧ ∀ w, Calls Try.prog 31 #[.int .i64 i, .int .i64 n] w fun e w' => e = .returned (.int .i64 r) ∧ w' = w := by
  have hb := bounds_i64 hi
  clear hi
  have hz : (n == 0) = false := by simp; omega
  by_cases h0 : 0 ≤ i
  · have hm0 := Int.emod_nonneg i (by omega : n ≠ 0)
    have hm1 := Int.emod_lt_of_pos i h
    have ht : i.tmod n = i % n := Int.tmod_eq_emod_of_nonneg h0
    obtain ⟨r, hr⟩ : ∃ r, i % n = r := ⟨_, rfl⟩
    rw [hr] at ht hm0 hm1
    refine ⟨r, hm0, hm1, fun w => ?_⟩
    have Hr := Lib.hid hr
    clear hr
    go_enter Try.func31, Try.ntmps31
    go_wp2
    go_ret
    exact ⟨by first | rfl | (simp [Hr.out]), rfl⟩
  · have e1 : (-i).tmod n = -(i.tmod n) := Int.neg_tmod i n
    have e2 : (-i).tmod n = (-i) % n := Int.tmod_eq_emod_of_nonneg (by omega)
    have hm0 := Int.emod_nonneg (-i) (by omega : n ≠ 0)
    have hm1 := Int.emod_lt_of_pos (-i) h
    have hl0 : i.tmod n ≤ 0 := by omega
    have hl1 : -n < i.tmod n := by omega
    clear hm0 hm1 e1 e2
    obtain ⟨m, hm⟩ : ∃ m, i.tmod n = m := ⟨_, rfl⟩
    rw [hm] at hl0 hl1
    by_cases hs : m < 0
    · refine ⟨m + n, by omega, by omega, fun w => ?_⟩
      have hw : IntKind.i64.wrap (m + n) = m + n := IntWalk.i64_in _ (by omega)
      go_enter Try.func31, Try.ntmps31
      go_wp2
      go_ret
      exact ⟨rfl, rfl⟩
    · refine ⟨m, by omega, by omega, fun w => ?_⟩
      go_enter Try.func31, Try.ntmps31
      go_wp2
      go_ret
      exact ⟨rfl, rfl⟩

/-- Bring to n: some number from 0 to n - 1. -/
theorem bringN_any (i n : Int) (w : World) (h : 0 < n) (hn : n ≤ 1000000) (hi : Wf i) : Calls Try.prog 31 #[.int .i64 i, .int .i64 n] w fun e w' => ∃ r : Int, 0 ≤ r ∧ r < n ∧ e = .returned (.int .i64 r) ∧ w' = w := by
  obtain ⟨r, h1, h2, h3⟩ := bring_ex i n h (by omega) hi
  exact (h3 w).mono fun e w' ⟨he, hw⟩ => ⟨r, h1, h2, he, hw⟩

end Go.Proofs.Ytihmddpafbackaa

namespace Go.Proofs.Ytihmddpafbackaa

open Go.RowKit

set_option linter.unusedVariables false

def SomeNat (n : Int) (w : World) (e : Ending) (w' : World) : Prop := ∃ r : Nat, (r : Int) < n ∧ e = .returned (.int .i64 (r : Int)) ∧ w = w'

theorem SomeNat.mk {n : Int} {w w' : World} {x : Int} (h0 : 0 ≤ x) (h : x < n) (hw : w = w') : SomeNat n w (.returned (.int .i64 x)) w' :=
  ⟨x.toNat, by omega, by rw [Int.toNat_of_nonneg h0], hw⟩

set_option maxHeartbeats 400000 in
theorem bring_any (i n : Int) (w : World) (h : 0 < n) (hn : n ≤ 9223372036854775807) (hi0 : -9223372036854775808 ≤ i) (hi1 : i ≤ 9223372036854775807) :
    Calls Try.prog 31 #[.int .i64 i, .int .i64 n] w (SomeNat n w) := by
  have hz : (n == 0) = false := by simp; omega
  by_cases h0 : 0 ≤ i
  · have hm0 := Int.emod_nonneg i (by omega : n ≠ 0)
    have hm1 := Int.emod_lt_of_pos i h
    go_enter Try.func31, Try.ntmps31
    go_wp2
    go_ret
    exact SomeNat.mk hm0 hm1 rfl
  · have ht : i.tmod n = -((-i) % n) := by
      have e1 : (-i).tmod n = -(i.tmod n) := Int.neg_tmod i n
      have e2 : (-i).tmod n = (-i) % n := Int.tmod_eq_emod_of_nonneg (by omega)
      omega
    have hm0 := Int.emod_nonneg (-i) (by omega : n ≠ 0)
    have hm1 := Int.emod_lt_of_pos (-i) h
    have hl0 : i.tmod n ≤ 0 := by omega
    have hl1 : -n < i.tmod n := by omega
    clear hm0 hm1 ht
    by_cases hs : i.tmod n < 0
    · go_enter Try.func31, Try.ntmps31
      go_wp2
      go_ret
      exact SomeNat.mk (by omega) (by omega) rfl
    · go_enter Try.func31, Try.ntmps31
      go_wp2
      go_ret
      exact SomeNat.mk (by omega) (by omega) rfl

end Go.Proofs.Ytihmddpafbackaa

namespace Go.Proofs.Ytihmddpafbackaa

open Go.RowKit

set_option linter.unusedVariables false

/-- A wish whose lists are shown by two slices. -/
def ArgW (w : World) (x : Wl) (D : Option Addr) (nd cd : Nat) (N : Option Addr) (nn cn : Nat) : Prop :=
  (x.da.length = nd ∧ nd ≤ cd ∧ cd ≤ maxLen ∧ Bs w D x.da ∧ nd ≤ 140737488351232) ∧ (ArgI w N nn cn x.nx ∧ nn ≤ 17592186043904) ∧ Wf x.cl ∧ Wf x.sp ∧ Wf x.gr ∧ Wf x.ep ∧ Wf x.kd ∧ Wf x.bl ∧ Wf x.od ∧ Wf x.nw

theorem ArgW.after {w w' : World} {x : Wl} {D : Option Addr} {nd cd : Nat} {N : Option Addr} {nn cn : Nat} (h : ArgW w x D nd cd N nn cn) (hb : Below w.heap.size w w') : ArgW w' x D nd cd N nn cn :=
  ⟨⟨h.1.1, h.1.2.1, h.1.2.2.1, h.1.2.2.2.1.after hb, h.1.2.2.2.2⟩, ⟨h.2.1.1.after hb, h.2.1.2⟩, h.2.2⟩

/-- A wish in a box made since the world 'w'. -/
structure Wx (w W : World) (x : Wl) (D : Option Addr) (nd cd : Nat) (N : Option Addr) (nn cn : Nat) : Prop where
  blk : Blk W w.heap.size 25 [.int .i64 x.cl, .int .i64 x.sp, .int .i64 x.gr, .int .i64 x.ep, .int .i64 x.kd, .int .i64 x.bl, .slice D nd cd, .int .i64 x.od, .int .i64 x.nw, .slice N nn cn]
  bel : Below w.heap.size w W

section

variable {w W W' : World} {x : Wl} {D : Option Addr} {nd cd : Nat} {N : Option Addr} {nn cn : Nat}

theorem Wx.new : Wx w (w.alloc (.cells #[.int .i64 x.cl, .int .i64 x.sp, .int .i64 x.gr, .int .i64 x.ep, .int .i64 x.kd, .int .i64 x.bl, .slice D nd cd, .int .i64 x.od, .int .i64 x.nw, .slice N nn cn] 25)) x D nd cd N nn cn :=
  ⟨Blk.new rfl rfl, (Below.refl _ _).alloc (Nat.le_refl _) _⟩

theorem Wx.on (h : Wx w W x D nd cd N nn cn) (hb : Below W.heap.size W W') : Wx w W' x D nd cd N nn cn := ⟨h.blk.below hb h.blk.lt, h.bel.trans (hb.mono h.bel.size)⟩

theorem Wx.ks (h : Wx w W x D nd cd N nn cn) : (W.cell? ⟨w.heap.size, 0, none⟩ = some (.int .i64 x.cl) ∧ W.cell? ⟨w.heap.size, 1, none⟩ = some (.int .i64 x.sp) ∧ W.cell? ⟨w.heap.size, 2, none⟩ = some (.int .i64 x.gr) ∧ W.cell? ⟨w.heap.size, 3, none⟩ = some (.int .i64 x.ep) ∧ W.cell? ⟨w.heap.size, 4, none⟩ = some (.int .i64 x.kd)) ∧
    W.cell? ⟨w.heap.size, 5, none⟩ = some (.int .i64 x.bl) ∧ W.cell? ⟨w.heap.size, 6, none⟩ = some (.slice D nd cd) ∧ W.cell? ⟨w.heap.size, 7, none⟩ = some (.int .i64 x.od) ∧ W.cell? ⟨w.heap.size, 8, none⟩ = some (.int .i64 x.nw) ∧ W.cell? ⟨w.heap.size, 9, none⟩ = some (.slice N nn cn) :=
  ⟨⟨h.blk.cell rfl, h.blk.cell rfl, h.blk.cell rfl, h.blk.cell rfl, h.blk.cell rfl⟩, h.blk.cell rfl, h.blk.cell rfl, h.blk.cell rfl, h.blk.cell rfl, h.blk.cell rfl⟩

end

end Go.Proofs.Ytihmddpafbackaa

namespace Go.Proofs.Ytihmddpafbackaa

open Go.RowKit

set_option linter.unusedVariables false

theorem built1 (w : World) (e : TypeId) (x : UInt8) (u : Value) (hu : u = cb x) : Mine (w.alloc (.cells #[u] e)) w.heap.size e (.slice (some ⟨w.heap.size, 0, none⟩) 1 1) [x] := by
  subst hu
  refine ⟨rfl, .inr ⟨w.heap.size, 1, #[cb x], rfl, Nat.le_refl _, heap_alloc_new w _, Nat.le_refl _, by simp [maxLen], rfl, rfl⟩⟩

theorem Mine.base {w : World} {b b' : Nat} {e : TypeId} {v : Value} {l : List UInt8} (h : Mine w b e v l) (hb : b' ≤ b) : Mine w b' e v l := by
  obtain ⟨h1, h2 | ⟨g, cap, cur, h3, h4, h5⟩⟩ := h
  · exact ⟨h1, .inl h2⟩
  · exact ⟨h1, .inr ⟨g, cap, cur, h3, Nat.le_trans hb h4, h5⟩⟩

theorem byte_mod (m : Nat) : Value.int .u8 ((m : Int) % 256) = cb (UInt8.ofNat (m % 256)) := by
  unfold cb
  congr 1
  rw [UInt8.toNat_ofNat', Nat.mod_eq_of_lt (by omega)]
  simp

set_option maxHeartbeats 800000 in
theorem digits_any (n : Nat) (w : World) (h : n ≤ 9007199254740991) :
    Calls Try.prog 74 #[.int .i64 n] w (RetB w (dgs n)) := by
  go_enter Try.func74, Try.ntmps74
  go_wp2
  go_loopw [0, 3] (fun i v wr => ∃ m : Nat, m ≤ n ∧ i = .int .i64 m ∧ ∃ l, Mine wr w.heap.size 5 v l ∧ dgs n = dgs m ++ l ∧ Below w.heap.size w wr) (fun i _ _ => (intOf i).toNat)
  case atStart => exact ⟨n, Nat.le_refl _, rfl, [], World.ownsRow_nil _ _ _ _, by simp, Below.refl _ _⟩
  case round =>
    obtain ⟨m, hm, rfl, l, hown, hd, hnx⟩ := hrel
    have hl : l.length ≤ 7 := by
      have := dgs_len7 h; rw [hd] at this; simp at this; omega
    have Hd := Lib.hid hd
    clear hd
    by_cases h0 : m = 0
    · have Hd2 : Hid (dgs n = l) := by show _ = _; have := Hd.out; rw [h0, dgs_zero] at this; simpa using this
      have hm0 : m ≤ 0 := by omega
      clear h0
      go_wp2
      go_ret
      exact ⟨_, rfl, by rw [Hd2.out]; exact hown, hnx⟩
    · have hm0 : 0 < m := by omega
      have Hd2 : Hid (dgs n = dgs (m / 256) ++ (UInt8.ofNat (m % 256) :: l)) := by show _ = _; have := Hd.out; rw [dgs_pos hm0] at this; simpa using this
      obtain ⟨A1, c1, rfl, hl1, hc1, hB1⟩ := Mine.form hown
      clear h0 Hd
      have hb := byte_mod m
      have Hb := Lib.hid hb
      clear hb
      go_wp2_with (at_builtin; refine wp_appendB rfl _ _ rfl wr.heap.size (.slice (some ⟨wr.heap.size, 0, none⟩) 1 1) [UInt8.ofNat (m % 256)] rfl (by exact built1 _ _ _ _ Hb.out) A1 c1 _ l rfl (by exact hB1.on ((Below.refl _ _).alloc (Nat.le_refl _) _)) rfl (by simp; omega) (by simp) ?_; intro v2 w2 hm2 hg2 ho2)
      go_roundw
      case rel =>
        refine ⟨m / 256, by omega, by go_num, _, Mine.base hm2 hnx.size, Hd2.out, (hnx.alloc hnx.size _).grown hg2 (by simp; have := hnx.size; omega) ?_⟩
        intro j hj
        simp [Value.ownBlock] at hj
        have := hnx.size
        omega
      case measure => simp [intOf]; omega

theorem byte_len (k : Nat) (h : k ≤ 7) : Value.int .u8 (k : Int) = cb (UInt8.ofNat k) := by
  unfold cb
  congr 1
  rw [UInt8.toNat_ofNat', Nat.mod_eq_of_lt (by omega)]

set_option maxHeartbeats 400000 in
theorem refNum_any (n : Int) (w : World) : Calls Try.prog 58 #[.int .i64 n] w (RetBE w (nm n)) := by
  by_cases h0 : n < 0
  · have hr : Hid (nm n = ([], 9)) := by show _ = _; simp [nm, h0]
    generalize nm n = r at *
    go_enter Try.func58, Try.ntmps58
    go_wp2
    go_ret2
    exact ⟨_, by rw [hr.out]; rfl, by rw [hr.out]; exact NewB.nil _⟩
  · by_cases h1 : 9007199254740991 < n
    · have hr : Hid (nm n = ([], 9)) := by show _ = _; simp [nm, h1]
      generalize nm n = r at *
      go_enter Try.func58, Try.ntmps58
      go_wp2
      go_ret2
      exact ⟨_, by rw [hr.out]; rfl, by rw [hr.out]; exact NewB.nil _⟩
    · obtain ⟨k, rfl⟩ := Int.eq_ofNat_of_zero_le (a := n) (by omega)
      have hr : Hid (nm k = (numB k, 0)) := by show _ = _; simp [nm, h1]
      have hnb : Hid (numB k = UInt8.ofNat (dgs k).length :: dgs k) := rfl
      have h7 := dgs_len7 (n := k) (by omega)
      generalize nm k = r at *
      have hd := digits_any k w (by omega)
      generalize numB k = y at *
      generalize dgs k = d at *
      have Hdg := Lib.hid hd
      clear hd
      go_enter Try.func58, Try.ntmps58
      go_wp2_with fail
      refine Hdg.out.mono ?_
      rintro e w1 ⟨v, rfl, hnew⟩
      obtain ⟨A1, c1, rfl, hl1, hc1, hB1⟩ := hnew.form
      have hb := byte_len d.length h7
      have Hb := Lib.hid hb
      clear hb
      have h7i : (d.length : Int) ≤ 7 := by omega
      go_wp2_with (at_builtin; refine wp_appendB rfl _ _ rfl w1.heap.size (.slice (some ⟨w1.heap.size, 0, none⟩) 1 1) [UInt8.ofNat d.length] rfl (by exact built1 _ _ _ _ Hb.out) A1 c1 _ d rfl (by exact hB1.on ((Below.refl _ _).alloc (Nat.le_refl _) _)) rfl (by simp; omega) (by simp) ?_; intro v2 w2 hm2 hg2 ho2)
      go_ret2
      refine ⟨_, by rw [hr.out]; rfl, ?_⟩
      rw [hr.out]
      show NewB w y v2 w2
      rw [hnb.out]
      refine ⟨Mine.base hm2 hnew.2.size, (hnew.2.alloc hnew.2.size _).grown hg2 (by simp; have := hnew.2.size; omega) ?_⟩
      intro j hj
      simp [Value.ownBlock] at hj
      have := hnew.2.size
      omega

set_option maxHeartbeats 800000 in
theorem refStr_any (A : Option Addr) (c n : Nat) (xs : List UInt8) (w : World) (hA : Bs w A xs) (hn : xs.length = n) (hl : n ≤ maxLen) :
    Calls Try.prog 59 #[.slice A n c] w (RetBE w (st xs)) := by
  have Hn := Lib.hid hn
  unfold maxLen at hl
  by_cases h : 65536 < n
  · have hr : Hid (st xs = ([], 5)) := by show _ = _; simp [st, hn, h]
    have h' : (65536 : Int) < n := by omega
    clear hn
    generalize st xs = r at *
    go_enter Try.func59, Try.ntmps59
    go_wp2
    go_ret2
    exact ⟨_, by rw [hr.out]; rfl, by rw [hr.out]; exact NewB.nil _⟩
  · have hr : Hid (st xs = (numB n ++ xs, 0)) := by show _ = _; simp [st, hn, h]
    have h' : ¬ (65536 : Int) < n := by omega
    clear hn
    generalize st xs = r at *
    have hnm : nm n = (numB n, 0) := by simp [nm]; omega
    have hN := refNum_any n w
    rw [hnm] at hN
    have hk : (numB n).length ≤ 8 := by have := dgs_len7 (n := n) (by omega); simp [numB]; omega
    clear hnm
    generalize numB n = y at *
    have HN := Lib.hid hN
    clear hN
    go_enter Try.func59, Try.ntmps59
    go_wp2_with fail
    refine HN.out.mono ?_
    rintro e w1 ⟨v, rfl, hnew⟩
    have hm0 : Mine w1 w.heap.size 5 v y := hnew.1
    have hln : y.length + n ≤ 140737488355328 := by omega
    have hB2 := hA.on hnew.2
    go_wp2_with (at_builtin; go_loud (refine wp_appendB rfl _ _ rfl w.heap.size _ _ rfl hm0 A c n xs rfl hB2 Hn.out hln hnew.2.size ?_); intro v2 w2 hm2 hg2 ho2)
    go_ret2
    refine ⟨_, by rw [hr.out]; rfl, ?_⟩
    rw [hr.out]
    refine ⟨hm2, hnew.2.grown hg2 hnew.2.size ?_⟩
    intro j hj
    exact (World.ownsRow.lt hm0 j hj).1

end Go.Proofs.Ytihmddpafbackaa

namespace Go.Proofs.Ytihmddpafbackaa

open Go.RowKit

set_option linter.unusedVariables false

theorem tk_of {l : List UInt8} {x u : Nat} (h : nu l = (x, u, 0)) : tk l = (x, l.drop u, 0) := by simp [tk, h]

theorem tk_err {l : List UInt8} {x u e : Nat} (h : nu l = (x, u, e)) (he : e ≠ 0) : tk l = (0, [], e) := by simp [tk, h, he]

theorem retTN_nil {w w' : World} (h : w = w') {k : Nat} {i : Int} (hi : i = k) : RetTN w (0, [], k) (.returned (.tuple #[.int .i64 0, .slice none 0 0, .int .i64 i])) w' := by
  subst h hi; exact ⟨_, rfl, NewB.nil w⟩

set_option maxHeartbeats 1600000 in
theorem refTakeNum_any (A : Option Addr) (c n : Nat) (xs : List UInt8) (w : World) (hA : Bs w A xs) (hn : xs.length = n) (hcap : n ≤ c) (hl : n ≤ 140737488355328) (hcm : c ≤ maxLen) :
    Calls Try.prog 70 #[.slice A n c] w (RetTN w (tk xs)) := by
  unfold maxLen at hcm
  cases xs with
  | nil =>
    have hv : Hid (tk [] = (0, [], 3)) := rfl
    generalize tk [] = r at *
    subst hn
    go_enter Try.func70, Try.ntmps70
    go_wp2
    go_ret3
    rw [hv.out]
    exact retTN_nil rfl rfl
  | cons b t =>
    obtain ⟨bb, off, rfl, hb, hc⟩ := hA.at_ (i := 0) (by simp)
    have g0 : w.cell? ⟨bb, off, none⟩ = some (.int .u8 (b.toNat : Int)) := by have := hc 0 (by simp); exact this
    have hl1 : n ≤ t.length + 1 := by simp at hn; omega
    have hl2 : t.length + 1 ≤ n := by simp at hn; omega
    have Hn := Lib.hid hn
    clear hn
    have hp : (0 : Int) < n := by omega
    have hne : ((n : Int) == 0) = false := by simp; omega
    have hb8 := b.toNat_lt
    by_cases h7 : 7 < b.toNat
    · have hv : Hid (tk (b :: t) = (0, [], 4)) := tk_err (x := 0) (u := 0) (by simp [nu, h7]) (by decide)
      have h7' : (7 : Int) < b.toNat := by omega
      clear h7 hc Hn
      generalize tk (b :: t) = r at *
      go_enter Try.func70, Try.ntmps70
      go_wp2
      go_ret3
      rw [hv.out]
      exact retTN_nil rfl rfl
    · have h7' : ¬ (7 : Int) < b.toNat := by omega
      by_cases hs : t.length < b.toNat
      · have hv : Hid (tk (b :: t) = (0, [], 3)) := tk_err (x := 0) (u := 0) (by simp [nu, h7, hs]) (by decide)
        have hs' : (n : Int) - 1 < b.toNat := by omega
        clear hc Hn
        generalize tk (b :: t) = r at *
        go_enter Try.func70, Try.ntmps70
        go_wp2
        go_ret3
        rw [hv.out]
        exact retTN_nil rfl rfl
      · have hs' : ¬ (n : Int) - 1 < b.toNat := by omega
        have hcut : ∀ w, (Instr.sliceAt 22 (.slice (some ⟨bb, off, none⟩) n c) (some (.int .i64 (1 + (b.toNat : Int)))) none none).run Try.prog w = .ok (.slice (cutAt (some ⟨bb, off, none⟩) 1 (1 + b.toNat) c) (n - (1 + b.toNat)) (c - (1 + b.toNat))) w := by
          have := run_cut (some ⟨bb, off, none⟩) n c (1 + b.toNat) (by omega)
          simpa using this
        by_cases hz : 0 < b.toNat
        · obtain ⟨x, u, rfl⟩ : ∃ x u, t = x :: u := by
            cases t with
            | nil => simp at hs; omega
            | cons x u => exact ⟨x, u, rfl⟩
          have g1 : w.cell? ⟨bb, off + 1, none⟩ = some (.int .u8 (x.toNat : Int)) := by have := hc 1 (by simp); exact this
          have hp1 : (1 : Int) < n := by simp at hl2; omega
          have hz' : (0 : Int) < b.toNat := by omega
          by_cases hx : x = 0
          · have hv : Hid (tk (b :: x :: u) = (0, [], 4)) := tk_err (x := 0) (u := 0) (by simp [nu, h7, hz, hx]; simp at hs; omega) (by decide)
            have hx' : ((x.toNat : Int) == 0) = true := by rw [hx]; rfl
            clear hc hx h7 hs hz Hn
            generalize tk (b :: x :: u) = r at *
            go_enter Try.func70, Try.ntmps70
            go_wp2
            go_ret3
            rw [hv.out]
            exact retTN_nil rfl rfl
          · have hx' : ((x.toNat : Int) == 0) = false := by
              simp only [beq_eq_false_iff_ne, ne_eq]; intro e; exact hx (UInt8.toNat_inj.1 (by simpa using e))
            have hv0 : nu (b :: x :: u) = if 9007199254740991 < val ((x :: u).take b.toNat) then (0, 0, 9) else (val ((x :: u).take b.toNat), 1 + b.toNat, 0) := by
              simp [nu, h7, hx]; simp at hs; omega
            have Hv0 := Lib.hid hv0
            clear hv0
            have hle : b.toNat ≤ (x :: u).length := by omega
            clear hx hs
            have Hcut := Lib.hid hcut
            clear hcut
            go_enter Try.func70, Try.ntmps70
            go_wp2
            go_loop [6, 7] (fun s i => ∃ k : Nat, k ≤ b.toNat ∧ i = .int .i64 ((1 + k : Nat) : Int) ∧ s = .int .i64 (val ((x :: u).take k) : Nat)) (fun _ i => 1 + b.toNat - (intOf i).toNat)
            case atStart => exact ⟨0, Nat.zero_le _, rfl, rfl⟩
            case round =>
              obtain ⟨k, hk, rfl, rfl⟩ := hrel
              have hvl := val_lt ((x :: u).take k)
              by_cases hlt : k < b.toNat
              · have hkl : k < (x :: u).length := by omega
                have hs6 : 256 ^ ((x :: u).take k).length ≤ 256 ^ 6 := Nat.pow_le_pow_right (by omega) (by simp; omega)
                have hsn : Hid (val ((x :: u).take (k + 1)) = val ((x :: u).take k) * 256 + (x :: u)[k].toNat) := by
                  show _ = _
                  rw [List.take_succ_eq_append_getElem hkl, val_snoc]
                have g : w.cell? ⟨bb, off + (1 + k), none⟩ = some (.int .u8 ((x :: u)[k].toNat : Int)) := by
                  have := hc (k + 1) (by simp at hkl ⊢; omega)
                  rw [show off + (1 + k) = off + (k + 1) from by omega]; exact this
                have hb2 := (x :: u)[k].toNat_lt
                generalize (x :: u)[k] = y at *
                generalize val ((x :: u).take k) = s at *
                have hs7 : s < 281474976710656 := by omega
                clear hc hvl hs6
                go_wp2
                go_round
                case rel => exact ⟨k + 1, by omega, by go_num, by rw [hsn.out]; go_num⟩
                case measure => simp [intOf]; omega
              · have hkb : Hid (k = b.toNat) := by show _ = _; omega
                have hv1 : nu (b :: x :: u) = if 9007199254740991 < val ((x :: u).take k) then (0, 0, 9) else (val ((x :: u).take k), 1 + b.toNat, 0) := by
                  rw [Hv0.out, hkb.out]
                have hle6 : val ((x :: u).take k) < 72057594037927936 := by
                  have hs6 : 256 ^ ((x :: u).take k).length ≤ 256 ^ 7 := Nat.pow_le_pow_right (by omega) (by simp; omega)
                  omega
                generalize val ((x :: u).take k) = s at *
                clear hc hvl
                by_cases hbig : 9007199254740991 < s
                · have hbig' : (9007199254740991 : Int) < s := by omega
                  have hv : Hid (tk (b :: x :: u) = (0, [], 9)) := tk_err (by rw [hv1, if_pos hbig]) (by decide)
                  clear hv1
                  generalize tk (b :: x :: u) = r at *
                  go_wp2
                  go_ret3
                  rw [hv.out]
                  exact retTN_nil rfl rfl
                · have hbig' : ¬ (9007199254740991 : Int) < s := by omega
                  have hv : Hid (tk (b :: x :: u) = (s, (b :: x :: u).drop (1 + b.toNat), 0)) := tk_of (by rw [hv1, if_neg hbig])
                  clear hv1
                  have hbl : 1 + b.toNat ≤ n := by simp at hle hl2; omega
                  generalize tk (b :: x :: u) = r at *
                  have hcut := Hcut.out
                  go_wp2_with fail
                  refine (copyBytes _ _ _ ((b :: x :: u).drop (1 + b.toNat)) _ (hA.cut (by rw [Hn.out]; exact hbl) (by rw [Hn.out]; exact hcap)) (by rw [List.length_drop, Hn.out]) (by omega)).mono ?_
                  rintro e w1 ⟨v, rfl, hnew⟩
                  go_wp2
                  go_ret3
                  rw [hv.out]
                  exact ⟨v, rfl, hnew⟩
        · have hb0 : b.toNat ≤ 0 := by omega
          have hv : Hid (tk (b :: t) = (0, (b :: t).drop 1, 0)) := by
            refine tk_of ?_
            have hb0 : b.toNat = 0 := by omega
            simp [nu, hb0, val, valFrom]
          have hcut1 : ∀ w, (Instr.sliceAt 22 (.slice (some ⟨bb, off, none⟩) n c) (some (.int .i64 (1 + (b.toNat : Int)))) none none).run Try.prog w = .ok (.slice (cutAt (some ⟨bb, off, none⟩) 1 1 c) (n - 1) (c - 1)) w := by
            have e : b.toNat = 0 := by omega
            intro w
            rw [hcut w, e]
          clear hc hs hcut
          have Hcut := Lib.hid hcut1
          clear hcut1
          generalize tk (b :: t) = r at *
          go_enter Try.func70, Try.ntmps70
          go_wp2
          go_loop [6, 7] (fun s i => i = .int .i64 1 ∧ s = .int .i64 0) (fun _ _ => 0)
          case atStart => exact ⟨rfl, rfl⟩
          case round =>
            obtain ⟨rfl, rfl⟩ := hrel
            have hcut := Hcut.out
            go_wp2_with fail
            refine (copyBytes _ _ _ ((b :: t).drop 1) _ (hA.cut (by rw [Hn.out]; omega) (by rw [Hn.out]; exact hcap)) (by rw [List.length_drop, Hn.out]) (by omega)).mono ?_
            rintro e w1 ⟨v, rfl, hnew⟩
            go_wp2
            go_ret3
            rw [hv.out]
            exact ⟨v, rfl, hnew⟩

end Go.Proofs.Ytihmddpafbackaa

namespace Go.Proofs.Ytihmddpafbackaa

open Go.RowKit

set_option linter.unusedVariables false

set_option maxHeartbeats 400000 in
theorem refTakeFix_any (A : Option Addr) (c n : Nat) (k : Int) (xs : List UInt8) (w : World) (hA : Bs w A xs) (hn : xs.length = n) (hc : n ≤ c) (hl : n ≤ 140737488355328) (hcm : c ≤ maxLen) :
    Calls Try.prog 81 #[.slice A n c, .int .i64 k] w (RetTF w (tf xs k)) := by
  have Ht := Lib.hid (show tf xs k = if k < 0 then ([], [], 2) else if (n : Int) < k then ([], [], 3) else (xs.take k.toNat, xs.drop k.toNat, 0) from by rw [← hn]; rfl)
  generalize tf xs k = r at *
  have Hn := Lib.hid hn
  clear hn
  unfold maxLen at hcm
  by_cases h0 : k < 0
  · have hr : Hid (r = ([], [], 2)) := by show _ = _; have := Ht.out; simpa [h0] using this
    clear Ht
    go_enter Try.func81, Try.ntmps81
    go_wp2
    go_ret3
    rw [hr.out]
    exact retTF_nil rfl rfl
  · by_cases h1 : (n : Int) < k
    · have hr : Hid (r = ([], [], 3)) := by show _ = _; have := Ht.out; simpa [h0, h1] using this
      clear Ht
      go_enter Try.func81, Try.ntmps81
      go_wp2
      go_ret3
      rw [hr.out]
      exact retTF_nil rfl rfl
    · have hr : Hid (r = (xs.take k.toNat, xs.drop k.toNat, 0)) := by show _ = _; have := Ht.out; simpa [h0, h1] using this
      obtain ⟨u, rfl⟩ := Int.eq_ofNat_of_zero_le (a := k) (by omega)
      rw [Int.toNat_natCast] at hr
      clear Ht
      have hu : u ≤ n := by omega
      have hcut := run_cut A n c u hu
      have hfr := run_front A n c u (by omega)
      go_enter Try.func81, Try.ntmps81
      go_wp2
      go_region_with (first
        | (go_at_call_of 21 (cutAt A 1 u c); refine (copyBytes _ _ _ (xs.drop u) _ ?_ ?_ ?_).mono ?_; exact (Bs.after hnew.2 hA).cut (by rw [Hn.out]; exact hu) (by rw [Hn.out]; exact hc); rw [List.length_drop, Hn.out]; omega; rintro e w2 ⟨v2, rfl, hnew2⟩)
        | (go_at_call_of 21 A; refine (copyBytes _ _ _ (xs.take u) _ ?_ ?_ ?_).mono ?_; exact hA.front (by rw [Hn.out]; exact hu); rw [List.length_take, Hn.out]; omega; omega; rintro e w1 ⟨v, rfl, hnew⟩))
      go_wp2
      go_ret3
      exact ⟨v, v2, w1, by rw [hr.out]; rfl, by rw [hr.out]; exact hnew.ofDrew, by rw [hr.out]; exact hnew2⟩

set_option maxHeartbeats 400000 in
theorem refTakeStr_any (A : Option Addr) (c n : Nat) (k : Int) (xs : List UInt8) (w : World) (hA : Bs w A xs) (hn : xs.length = n) (hc : n ≤ c) (hl : n ≤ 140737488355328) (hcm : c ≤ maxLen) :
    Calls Try.prog 71 #[.slice A n c, .int .i64 k] w (RetTF w (ts xs k)) := by
  have Ht := Lib.hid (show ts xs k = if k < 0 then ([], [], 2) else if (nu xs).2.2 ≠ 0 then ([], [], (nu xs).2.2) else if k < (nu xs).1 ∨ 65536 < (nu xs).1 then ([], [], 5) else tf (xs.drop (nu xs).2.1) (nu xs).1 from rfl)
  have hu := nu_used xs
  rw [hn] at hu
  have hN := refTakeNum_any A c n xs w hA hn hc hl hcm
  have hT : tk xs = if (nu xs).2.2 = 0 then ((nu xs).1, xs.drop (nu xs).2.1, 0) else (0, [], (nu xs).2.2) := rfl
  rw [hT] at hN
  clear hT
  have Hn := Lib.hid hn
  clear hn
  generalize ts xs k = r at *
  generalize nu xs = q at *
  obtain ⟨x, u, e⟩ := q
  simp only at hu hN Ht
  unfold maxLen at hcm
  by_cases h0 : k < 0
  · have hr : Hid (r = ([], [], 2)) := by show _ = _; have := Ht.out; simpa [h0] using this
    clear Ht hN
    go_enter Try.func71, Try.ntmps71
    go_wp2
    go_ret3
    rw [hr.out]
    exact retTF_nil rfl rfl
  · by_cases he : e = 0
    · subst he
      rw [if_pos rfl] at hN
      have HN := Lib.hid hN
      clear hN
      have nlater : ∀ {w1 v}, NewB w (xs.drop u) v w1 → RetTF w1 ([], [], 5) (.returned (.tuple #[.slice none 0 0, .slice none 0 0, .int .i64 5])) w1 → RetTF w ([], [], 5) (.returned (.tuple #[.slice none 0 0, .slice none 0 0, .int .i64 5])) w1 :=
        fun hnew _ => ⟨_, _, _, rfl, NewB.later hnew.2 (NewB.nil _), NewB.nil _⟩
      by_cases hk : k < (x : Int)
      · have hr : Hid (r = ([], [], 5)) := by show _ = _; have := Ht.out; simpa [h0, hk] using this
        clear Ht
        go_enter Try.func71, Try.ntmps71
        go_wp2_with fail
        refine HN.out.mono ?_
        rintro e w1 ⟨v, rfl, hnew⟩
        go_wp2
        go_ret3
        rw [hr.out]
        exact nlater hnew (retTF_nil rfl rfl)
      · by_cases hx : 65536 < x
        · have hr : Hid (r = ([], [], 5)) := by show _ = _; have := Ht.out; simpa [h0, hk, hx] using this
          have hx' : (65536 : Int) < x := by omega
          clear Ht
          go_enter Try.func71, Try.ntmps71
          go_wp2_with fail
          refine HN.out.mono ?_
          rintro e w1 ⟨v, rfl, hnew⟩
          go_wp2
          go_ret3
          rw [hr.out]
          exact nlater hnew (retTF_nil rfl rfl)
        · have hr : Hid (r = tf (xs.drop u) x) := by show _ = _; have := Ht.out; simpa [h0, hk, hx] using this
          have hx' : ¬ (65536 : Int) < x := by omega
          have hle : (xs.drop u).length ≤ 140737488355328 := by rw [List.length_drop, Hn.out]; omega
          clear Ht nlater
          generalize xs.drop u = rest at *
          go_enter Try.func71, Try.ntmps71
          go_wp2_with fail
          refine HN.out.mono ?_
          rintro e w1 ⟨v, rfl, hnew⟩
          obtain ⟨A1, c1, rfl, hl1, hc1, hB1⟩ := hnew.form
          go_wp2_with fail
          refine (refTakeFix_any _ _ _ _ rest _ hB1 rfl hl1 hle hc1).mono ?_
          rintro e w2 ⟨v1, v2, w3, rfl, hnew1, hnew2⟩
          go_wp2
          go_ret3
          rw [hr.out]
          exact ⟨v1, v2, w3, rfl, NewB.later hnew.2 hnew1, hnew2⟩
    · have hr : Hid (r = ([], [], e)) := by show _ = _; have := Ht.out; simpa [h0, he] using this
      have hee : ((e : Int) != 0) = true := by simp [he]
      rw [if_neg he] at hN
      have HN := Lib.hid hN
      clear hN Ht
      go_enter Try.func71, Try.ntmps71
      go_wp2_with fail
      refine HN.out.mono ?_
      rintro e w1 ⟨v, rfl, hnew⟩
      go_wp2
      go_ret3
      rw [hr.out]
      exact ⟨_, _, _, rfl, NewB.later hnew.2 (NewB.nil _), NewB.nil _⟩

end Go.Proofs.Ytihmddpafbackaa
