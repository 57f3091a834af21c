/-
  Laid together for a hand-in: Mem, Open, Bring, Br13, Eq, App, Clone, Plain, Num, Take.
-/
import Derived.Test.YtfaeechidjpjbaaGreatRows
import Derived.WalkKit
import Derived.WalkSpells
import Derived.WalkLawsBesides
import Derived.Lib.Hide
import Derived.Maps.AppendAt
import Derived.Deep.AppendLies
import Derived.RegionTactic
import Derived.OwnWalk
import Derived.Deep.Draws
import Derived.BigQuiet
import Derived.Deep.QuietTactic
import Derived.ProofKit
import Derived.OpenShut
import Derived.ShutString
import Derived.ChangeOld
import Derived.SizedLaws
import Derived.Below
import Derived.Lib.BitFns
import Derived.Deep.RegionWith

namespace Go.Proofs.YtfaeechidjpjbaaGreat

open Go.RowKit

set_option linter.unusedVariables false

theorem add_mk (b off j : Nat) : (⟨b, off, none⟩ : Addr).add j = ⟨b, off + j, none⟩ := by
  unfold Addr.add; by_cases h : j = 0 <;> simp [h]

/-- The slice 'A, n' shows the cells 'xs', 'k' for each element, in a block below 'B'. -/
def Shows (w : World) (B k : Nat) (A : Option Addr) (n : Nat) (xs : List Value) : Prop :=
  xs.length = n * k ∧ (0 < n → ∃ b off, A = some ⟨b, off, none⟩ ∧ b < B ∧ ∀ j u, xs[j]? = some u → w.cell? ⟨b, off + j, none⟩ = some u)

section

variable {w w' : World} {B B' k n : Nat} {A : Option Addr} {xs : List Value}

theorem Shows.empty (A : Option Addr) : Shows w B k A 0 [] := ⟨by simp, fun h => absurd h (by omega)⟩

theorem Shows.nilxs (h : Shows w B k A 0 xs) : xs = [] := List.eq_nil_of_length_eq_zero (by simpa using h.1)

theorem Shows.keep (h : Shows w B k A n xs) (hk : ∀ b o, b < B → w'.cell? ⟨b, o, none⟩ = w.cell? ⟨b, o, none⟩) : Shows w' B k A n xs :=
  ⟨h.1, fun hn => let ⟨b, off, e, hb, hc⟩ := h.2 hn; ⟨b, off, e, hb, fun j u hu => (hk b _ hb).trans (hc j u hu)⟩⟩

theorem Shows.more (h : Shows w B k A n xs) (hB : B ≤ B') : Shows w B' k A n xs :=
  ⟨h.1, fun hn => let ⟨b, off, e, hb, hc⟩ := h.2 hn; ⟨b, off, e, by omega, hc⟩⟩

theorem Shows.below (h : Shows w B k A n xs) (hb : Below B w w') : Shows w' B k A n xs := h.keep fun _ _ hp => hb.cell hp

theorem Shows.on (h : Shows w w.heap.size k A n xs) (hb : Below w.heap.size w w') : Shows w' w'.heap.size k A n xs := (h.below hb).more hb.size

theorem Shows.at_ {i : Nat} (h : Shows w B 1 A n xs) (hi : i < n) : ∃ b off u, A = some ⟨b, off, none⟩ ∧ b < B ∧ xs[i]? = some u ∧ w.cell? ⟨b, off + i, none⟩ = some u := by
  obtain ⟨b, off, e, hb, hc⟩ := h.2 (by omega)
  have hl : i < xs.length := by have := h.1; omega
  exact ⟨b, off, xs[i], e, hb, List.getElem?_eq_getElem hl, hc i _ (List.getElem?_eq_getElem hl)⟩

theorem Shows.ofOwn {base : Nat} {e : TypeId} {c : Nat} (h : w.ownsRow base e k (.slice A n c) n xs) : Shows w w.heap.size k A n xs := by
  refine ⟨h.1, fun hn => ?_⟩
  obtain ⟨g, cap, hv, _, hlt⟩ := h.form hn
  have hA : A = some ⟨g, 0, none⟩ := by injection hv
  subst hA
  refine ⟨g, 0, rfl, hlt, fun j u hu => ?_⟩
  have := h.cells (g := g) rfl j u hu
  rwa [add_mk] at this

end

/-- Where a slice begins behind a cut of its first 'm' elements. -/
def cutAt (A : Option Addr) (k m c : Nat) : Option Addr := if c = m then A else A.map (·.add (m * k))

theorem Shows.cut {w : World} {B k n m c : Nat} {A : Option Addr} {xs : List Value} (h : Shows w B k A n xs) (hm : m ≤ n) (hc : n ≤ c) : Shows w B k (cutAt A k m c) (n - m) (xs.drop (m * k)) := by
  refine ⟨by rw [List.length_drop, h.1, Nat.sub_mul], fun hn => ?_⟩
  obtain ⟨b, off, rfl, hb, hcell⟩ := h.2 (by omega)
  unfold cutAt
  rw [if_neg (by omega)]
  refine ⟨b, off + m * k, by rw [Option.map_some, add_mk], hb, fun j u hu => ?_⟩
  rw [Nat.add_assoc]
  exact hcell _ u (by rw [← hu, List.getElem?_drop])

theorem Shows.front {w : World} {B k n m : Nat} {A : Option Addr} {xs : List Value} (h : Shows w B k A n xs) (hm : m ≤ n) : Shows w B k A m (xs.take (m * k)) := by
  have hle : m * k ≤ xs.length := by rw [h.1]; exact Nat.mul_le_mul_right k hm
  refine ⟨by rw [List.length_take]; omega, fun hn => ?_⟩
  obtain ⟨b, off, rfl, hb, hcell⟩ := h.2 (by omega)
  refine ⟨b, off, rfl, hb, fun j u hu => ?_⟩
  by_cases hj : j < m * k
  · rw [List.getElem?_take, if_pos hj] at hu; exact hcell j u hu
  · rw [List.getElem?_take, if_neg hj] at hu; cases hu

/-! ### Bytes -/

def cb (x : UInt8) : Value := .int .u8 (x.toNat : Int)

def cbs (l : List UInt8) : List Value := l.map cb

theorem cbs_length (l : List UInt8) : (cbs l).length = l.length := by simp [cbs]

theorem cbs_get (l : List UInt8) (i : Nat) : (cbs l)[i]? = (l[i]?).map cb := by simp [cbs]

theorem cbs_append (l m : List UInt8) : cbs (l ++ m) = cbs l ++ cbs m := by simp [cbs]

theorem cbs_drop (l : List UInt8) (m : Nat) : cbs (l.drop m) = (cbs l).drop m := by simp [cbs]

theorem cbs_take (l : List UInt8) (m : Nat) : cbs (l.take m) = (cbs l).take m := by simp [cbs]

theorem cbs_one (l : List UInt8) : ∀ u ∈ cbs l, u.oneCell' = true := by
  intro u hu; simp [cbs] at hu; obtain ⟨x, _, rfl⟩ := hu; rfl

/-- The slice 'A' of 'l.length' elements shows the bytes 'l'. -/
def Bs (w : World) (A : Option Addr) (l : List UInt8) : Prop := Shows w w.heap.size 1 A l.length (cbs l)

theorem Bs.on {w w' : World} {A : Option Addr} {l : List UInt8} (h : Bs w A l) (hb : Below w.heap.size w w') : Bs w' A l := Shows.on h hb

theorem Bs.after {w w' : World} {A : Option Addr} {l : List UInt8} (hb : Below w.heap.size w w') (h : Bs w A l) : Bs w' A l := Shows.on h hb

theorem Bs.at_ {w : World} {A : Option Addr} {l : List UInt8} (h : Bs w A l) {i : Nat} (hi : i < l.length) :
    ∃ b off, A = some ⟨b, off, none⟩ ∧ b < w.heap.size ∧ ∀ j (hj : j < l.length), w.cell? ⟨b, off + j, none⟩ = some (.int .u8 (l[j].toNat : Int)) := by
  obtain ⟨b, off, e, hb, hc⟩ := h.2 (by omega)
  refine ⟨b, off, e, hb, fun j hj => ?_⟩
  exact hc j _ (by rw [cbs_get, List.getElem?_eq_getElem hj]; rfl)

theorem Bs.cut {w : World} {A : Option Addr} {l : List UInt8} {m c : Nat} (h : Bs w A l) (hm : m ≤ l.length) (hc : l.length ≤ c) : Bs w (cutAt A 1 m c) (l.drop m) := by
  have := Shows.cut h hm hc
  unfold Bs
  rw [List.length_drop, cbs_drop]
  simpa using this

theorem Bs.front {w : World} {A : Option Addr} {l : List UInt8} {m : Nat} (h : Bs w A l) (hm : m ≤ l.length) : Bs w A (l.take m) := by
  have := Shows.front h hm
  unfold Bs
  rw [List.length_take, Nat.min_eq_left hm, cbs_take]
  simpa using this

theorem Bs.nil (w : World) (A : Option Addr) : Bs w A [] := Shows.empty A

/-- The slice value 'v' shows the bytes 'l' in a row of the call's own, from block 'base' on. -/
def Mine (w : World) (base : Nat) (e : TypeId) (v : Value) (l : List UInt8) : Prop := w.ownsRow base e 1 v l.length (cbs l)

theorem Mine.form {w : World} {base : Nat} {e : TypeId} {v : Value} {l : List UInt8} (h : Mine w base e v l) : ∃ A c, v = .slice A l.length c ∧ l.length ≤ c ∧ c ≤ maxLen ∧ Bs w A l := by
  obtain ⟨h1, h2⟩ := h
  have hh := h2
  rcases h2 with ⟨rfl, hx⟩ | ⟨g, cap, cur, rfl, _, _, hc, hm, _⟩
  · have : l = [] := List.eq_nil_of_length_eq_zero hx
    subst this
    exact ⟨none, 0, rfl, by simp, by simp [maxLen], Bs.nil _ _⟩
  · exact ⟨_, cap, rfl, hc, hm, Shows.ofOwn ⟨h1, hh⟩⟩

theorem Mine.after {w w' : World} {base : Nat} {e : TypeId} {v : Value} {l : List UInt8} (h : Mine w base e v l) (hb : Below w.heap.size w w') : Mine w' base e v l := by
  obtain ⟨h1, h2 | ⟨g, cap, cur, h3, h4, h5, h6⟩⟩ := h
  · exact ⟨h1, .inl h2⟩
  · have hg : g < w.heap.size := by
      rcases Nat.lt_or_ge g w.heap.size with hlt | hge
      · exact hlt
      · rw [Array.getElem?_eq_none hge] at h5; cases h5
    exact ⟨h1, .inr ⟨g, cap, cur, h3, h4, (hb.block g hg).trans h5, h6⟩⟩

section

variable {w : World} {base g n cap : Nat} {e : TypeId} {l : List UInt8}

theorem Mine.cell (h : w.ownsRow base e 1 (.slice (some ⟨g, 0, none⟩) n cap) n (cbs l)) {j : Nat} (hj : j < l.length) : w.cell? ⟨g, j, none⟩ = some (.int .u8 (l[j].toNat : Int)) := by
  have hl : (cbs l).length = n * 1 := h.1
  rw [cbs_length] at hl
  rw [World.ownsRow.cellAt h j (by omega), cbs_get, List.getElem?_eq_getElem hj]
  rfl

theorem Mine.set_ (h : w.ownsRow base e 1 (.slice (some ⟨g, 0, none⟩) n cap) n (cbs l)) (j : Nat) (x : UInt8) (u : Value) (hu : u = cb x) : (w.setCell ⟨g, j, none⟩ u).ownsRow base e 1 (.slice (some ⟨g, 0, none⟩) n cap) n (cbs (l.set j x)) := by
  have := (World.ownsRow.stored h j u).1
  subst hu
  unfold cbs at this ⊢
  rw [List.map_set]
  exact this

end

end Go.Proofs.YtfaeechidjpjbaaGreat

namespace Go.Proofs.YtfaeechidjpjbaaGreat

open Go.ChangeShapes Go.WideShapes Go.ChangeAt Go.RowKit

set_option linter.unusedVariables false

theorem own : ownKnob Tryz.prog.godebug = none := by kernel_rfl

theorem laidOut : laidOutB Tryz.prog = true := by kernel_rfl

theorem bytes_u8 : Tryz.prog.bytesOf 5 = 1 := by kernel_rfl

/-- A slice of bytes that came in. -/
def ArgB (w : World) (A : Option Addr) (n c : Nat) (l : List UInt8) : Prop := l.length = n ∧ n ≤ c ∧ c ≤ 140737488351232 ∧ Bs w A l

theorem wf_u8 {x : Int} (h : (Lit.int .u8 x).wf = true) : x = (((UInt8.ofNat x.toNat).toNat : Nat) : Int) := by
  have hb := bounds_u8 h
  rw [UInt8.toNat_ofNat', Nat.mod_eq_of_lt (by omega)]
  omega

theorem openB {H : Type} {enc : TypeId × Value → H} {w : World} {A : Option Addr} {n c : Nat} {d : DataW H} {p : List MemPlace}
    (h : DataW.Trod enc Tryz.prog w 0 (fun _ => true) true 22 (.slice A n c) d p) (hlt : ∀ x ∈ p, x.block < w.heap.size)
    (hs : ∀ elems spare, d = .slice elems spare → elems.length + spare.length ≤ 140737488351232) : ∃ l, ArgB w A n c l := by
  obtain ⟨fuel, hf⟩ := h
  rcases open_ints Tryz.underlying22 Tryz.underlying5 (by kernel_rfl) hf with ⟨hcs, _⟩ | ⟨x, l, c', zs, hcs, _, hl, hm, hz, hx, hcell, hwz⟩
  · simp [Value.cells] at hcs
    obtain ⟨rfl, rfl, rfl⟩ := hcs
    exact ⟨[], rfl, Nat.le_refl _, by omega, Bs.nil _ _⟩
  · simp [Value.cells] at hcs
    obtain ⟨rfl, rfl, rfl⟩ := hcs
    simp only [Prod.mk.injEq] at hx
    obtain ⟨hd, hp⟩ := hx
    have hz' : zs.length = c := by simpa using hz
    have hs' := hs _ _ hd
    simp only [lits, List.length_map, List.length_take, List.length_drop] at hs'
    refine ⟨(zs.take n).map fun z => UInt8.ofNat z.toNat, by simp; omega, hl, by omega, ?_⟩
    refine ⟨by simp [cbs], fun hn => ?_⟩
    have h0 := hcell 0 (by simp at hn; omega)
    have hsp : x.spot = none := by
      have := World.cell?_spot h0
      unfold Addr.add at this
      simpa using this
    obtain ⟨b, off, spot⟩ := x
    simp only at hsp
    subst hsp
    refine ⟨b, off, rfl, ?_, ?_⟩
    · have := World.block_lt_of_cell? w _ h0
      rw [add_mk] at this
      exact this
    · intro j u hu
      simp only [cbs, List.map_map, List.getElem?_map, Option.map_eq_some_iff] at hu
      obtain ⟨z, hz1, rfl⟩ := hu
      have hj : j < n ∧ j < zs.length := by
        rcases Nat.lt_or_ge j (zs.take n).length with h | h
        · simp at h; omega
        · rw [List.getElem?_eq_none h] at hz1; cases hz1
      have hzz : zs[j]? = some z := by rw [List.getElem?_take, if_pos hj.1] at hz1; exact hz1
      have hcj := hcell j hj.2
      rw [add_mk] at hcj
      rw [hcj]
      have hmem : z ∈ zs := List.mem_of_getElem? hzz
      have hg : zs.getD j 0 = z := by simp [List.getD, hzz]
      rw [hg]
      show _ = some (Value.int .u8 _)
      rw [← wf_u8 (hwz z hmem)]

/-- What 'x[:min(len(x), 1000)]' leaves of a slice of bytes that came in. -/
theorem cut1000 {w : World} {A : Option Addr} {n c : Nat} {l : List UInt8} (h : ArgB w A n c l) : ∃ m x, x.length = m ∧ m ≤ 1000 ∧ m ≤ c ∧ c ≤ maxLen ∧ Bs w A x ∧
    (∀ ts t w, (Builtin.min_ ts t #[.int .i64 (n : Int), .int .i64 1000]).run Tryz.prog w = .ok (.int .i64 (m : Int)) w) ∧
    (∀ w, (Instr.sliceAt 22 (.slice A n c) none (some (.int .i64 (m : Int))) none).run Tryz.prog w = .ok (.slice A m c) w) := by
  obtain ⟨h1, h2, h3, h4⟩ := h
  refine ⟨min n 1000, l.take (min n 1000), by rw [List.length_take]; omega, by omega, by omega, by unfold maxLen; omega, h4.front (by omega), fun ts t w => ?_, fun w => ?_⟩
  · rw [run_min_int2]
    congr 2
    split <;> omega
  · have h1 : ((min n 1000 : Nat) : Int) ≤ c := by omega
    generalize min n 1000 = m at *
    go_simp

end Go.Proofs.YtfaeechidjpjbaaGreat

namespace Go.Proofs.YtfaeechidjpjbaaGreat

open Go.RowKit

set_option linter.unusedVariables false

def SomeNat (n : Int) (w : World) (e : Ending) (w' : World) : Prop := ∃ r : Nat, (r : Int) < n ∧ e = .returned (.int .i64 (r : Int)) ∧ w = w'

theorem SomeNat.mk {n : Int} {w w' : World} {x : Int} (h0 : 0 ≤ x) (h : x < n) (hw : w = w') : SomeNat n w (.returned (.int .i64 x)) w' :=
  ⟨x.toNat, by omega, by rw [Int.toNat_of_nonneg h0], hw⟩

set_option maxHeartbeats 400000 in
theorem bring_any (i n : Int) (w : World) (h : 0 < n) (hn : n ≤ 9223372036854775807) (hi0 : -9223372036854775808 ≤ i) (hi1 : i ≤ 9223372036854775807) :
    Calls Tryz.prog 24 #[.int .i64 i, .int .i64 n] w (SomeNat n w) := by
  have hz : (n == 0) = false := by simp; omega
  by_cases h0 : 0 ≤ i
  · have hm0 := Int.emod_nonneg i (by omega : n ≠ 0)
    have hm1 := Int.emod_lt_of_pos i h
    go_enter Tryz.func24, Tryz.ntmps24
    go_wp2
    go_ret
    exact SomeNat.mk hm0 hm1 rfl
  · have ht : i.tmod n = -((-i) % n) := by
      have e1 : (-i).tmod n = -(i.tmod n) := Int.neg_tmod i n
      have e2 : (-i).tmod n = (-i) % n := Int.tmod_eq_emod_of_nonneg (by omega)
      omega
    have hm0 := Int.emod_nonneg (-i) (by omega : n ≠ 0)
    have hm1 := Int.emod_lt_of_pos (-i) h
    have hl0 : i.tmod n ≤ 0 := by omega
    have hl1 : -n < i.tmod n := by omega
    clear hm0 hm1 ht
    by_cases hs : i.tmod n < 0
    · go_enter Tryz.func24, Tryz.ntmps24
      go_wp2
      go_ret
      exact SomeNat.mk (by omega) (by omega) rfl
    · go_enter Tryz.func24, Tryz.ntmps24
      go_wp2
      go_ret
      exact SomeNat.mk (by omega) (by omega) rfl

end Go.Proofs.YtfaeechidjpjbaaGreat

namespace Go.Proofs.YtfaeechidjpjbaaGreat
open Go.RowKit
set_option linter.unusedVariables false

theorem emod_tmod {i n : Int} (h : 0 < n) (h0 : -n < i.tmod n) (h1 : i.tmod n ≤ 0) : i % n = if i.tmod n < 0 then i.tmod n + n else i.tmod n := by
  have e : i % n = (i.tmod n) % n := by
    have := Int.tmod_add_mul_tdiv i n
    conv => lhs; rw [← this]
    exact Int.add_mul_emod_self_left _ _ _
  rw [e]
  split
  · rw [← Int.add_emod_right, Int.emod_eq_of_lt (by omega) (by omega)]
  · rw [Int.emod_eq_of_lt (by omega) (by omega)]
set_option maxHeartbeats 400000 in
theorem bringF_any (i n : Int) (w : World) (h : 0 < n) (hn : n ≤ 9223372036854775807) (hi0 : -9223372036854775808 ≤ i) (hi1 : i ≤ 9223372036854775807) :
    Calls Tryz.prog 24 #[.int .i64 i, .int .i64 n] w fun e w' => e = .returned (.int .i64 (i % n)) ∧ w' = w := by
  have hz : (n == 0) = false := by simp; omega
  by_cases h0 : 0 ≤ i
  · have hm0 := Int.emod_nonneg i (by omega : n ≠ 0)
    have hm1 := Int.emod_lt_of_pos i h
    go_enter Tryz.func24, Tryz.ntmps24
    go_wp2
    go_ret
    exact ⟨rfl, rfl⟩
  · have ht : i.tmod n = -((-i) % n) := by
      have e1 : (-i).tmod n = -(i.tmod n) := Int.neg_tmod i n
      have e2 : (-i).tmod n = (-i) % n := Int.tmod_eq_emod_of_nonneg (by omega)
      omega
    have hm0 := Int.emod_nonneg (-i) (by omega : n ≠ 0)
    have hm1 := Int.emod_lt_of_pos (-i) h
    have hl0 : i.tmod n ≤ 0 := by omega
    have hl1 : -n < i.tmod n := by omega
    have hem := Lib.hid (emod_tmod h hl1 hl0)
    clear hm0 hm1 ht
    by_cases hs : i.tmod n < 0
    · go_enter Tryz.func24, Tryz.ntmps24
      go_wp2
      go_ret
      exact ⟨by rw [hem.out, if_pos hs]; rfl, rfl⟩
    · go_enter Tryz.func24, Tryz.ntmps24
      go_wp2
      go_ret
      exact ⟨by rw [hem.out, if_neg (by omega)]; rfl, rfl⟩
end Go.Proofs.YtfaeechidjpjbaaGreat

namespace Go.Proofs.YtfaeechidjpjbaaGreat

open Go.RowKit

set_option linter.unusedVariables false

theorem below_drewN {B : Nat} {a w : World} (h : Below B a w) (n : Nat) : Below B a (w.drewN n) := ⟨h.os, h.tape, h.output, h.size, h.block⟩

theorem eq_split {l m : List UInt8} (h : l ≠ m) (hl : l.length = m.length) : ∃ k, ∃ (h1 : k < l.length) (h2 : k < m.length), l[k] ≠ m[k] ∧ l.take k = m.take k := by
  induction l generalizing m with
  | nil => cases m with
    | nil => exact absurd rfl h
    | cons _ _ => simp at hl
  | cons a l ih =>
    cases m with
    | nil => simp at hl
    | cons b m =>
      by_cases hab : a = b
      · subst hab
        obtain ⟨k, h1, h2, h3, h4⟩ := ih (m := m) (by simpa using h) (by simpa using hl)
        exact ⟨k + 1, by simp; omega, by simp; omega, by simpa using h3, by simp [h4]⟩
      · exact ⟨0, by simp, by simp, by simpa using hab, by simp⟩

set_option maxHeartbeats 400000 in
theorem eqBytes_len (A A' : Option Addr) (c c' n m : Nat) (w : World) (h : n ≠ m) (hl : n ≤ maxLen) (hm : m ≤ maxLen) :
    Calls Tryz.prog 16 #[.slice A n c, .slice A' m c'] w fun e w' => e = .returned (.bool false) ∧ ∃ q, w' = w.drewN q := by
  unfold maxLen at hl hm
  have h1 : (!((n : Int) == (m : Int))) = true := by simp; omega
  go_enter Tryz.func16, Tryz.ntmps16
  go_wp2
  go_ret
  exact ⟨rfl, 0, rfl⟩

theorem ret_bool {a b : Bool} (h : a = b) : Ending.returned (.bool a) = .returned (.bool b) := by rw [h]

theorem ret_int {k : IntKind} {a b : Int} (h : a = b) : Ending.returned (.int k a) = .returned (.int k b) := by rw [h]

theorem ne_byte {x y : UInt8} (h : x ≠ y) : ¬ (x.toNat : Int) = (y.toNat : Int) := fun e => h (UInt8.toNat_inj.1 (by omega))

set_option maxHeartbeats 400000 in
theorem eqBytesQ (A A' : Option Addr) (c c' n m : Nat) (xs ys : List UInt8) (w : World) (hA : Bs w A xs) (hB : Bs w A' ys) (hn : xs.length = n) (hm : ys.length = m) (hl : n ≤ maxLen) (hl' : m ≤ maxLen) :
    Calls Tryz.prog 16 #[.slice A n c, .slice A' m c'] w fun e w' => e = .returned (.bool (xs == ys)) ∧ ∃ q, w' = w.drewN q := by
  by_cases hne : n = m
  rotate_left
  · have : (xs == ys) = false := by
      simp only [beq_eq_false_iff_ne, ne_eq]; rintro rfl; omega
    rw [this]
    exact eqBytes_len A A' c c' n m w hne hl hl'
  subst hne
  have key : ∀ k, k < n → ∃ b off b' off', A = some ⟨b, off, none⟩ ∧ A' = some ⟨b', off', none⟩ ∧ True := by
    intro k hk
    obtain ⟨b, off, e, _⟩ := hA.at_ (i := k) (by omega)
    obtain ⟨b', off', e', _⟩ := hB.at_ (i := k) (by omega)
    exact ⟨b, off, b', off', e, e', trivial⟩
  unfold maxLen at hl hl'
  go_enter Tryz.func16, Tryz.ntmps16
  go_wp2
  go_loopw [5] (fun i wr => ∃ k : Nat, k ≤ n ∧ i = .int .i64 k ∧ xs.take k = ys.take k ∧ ∃ q, wr = w.drewN q) (fun i _ => n - (intOf i).toNat)
  case atStart => exact ⟨0, Nat.zero_le _, rfl, by simp, 0, rfl⟩
  case round =>
    obtain ⟨k, hk, rfl, ht, q, rfl⟩ := hrel
    by_cases hlt : k < n
    · obtain ⟨b, off, rfl, hb, hc⟩ := hA.at_ (i := k) (by omega)
      obtain ⟨b', off', rfl, hb', hc'⟩ := hB.at_ (i := k) (by omega)
      have g := hc k (by omega)
      have g' := hc' k (by omega)
      clear hc hc'
      have hi0 : (0 : Int) ≤ k := by omega
      have hi1 : (k : Int) < n := by omega
      by_cases he : xs[k] = ys[k]
      · have hb1 : ((xs[k].toNat : Int) != (ys[k].toNat : Int)) = false := by rw [he]; simp
        have ht' : Hid (xs.take (k + 1) = ys.take (k + 1)) := by
          show _ = _
          rw [List.take_succ_eq_append_getElem (by omega), List.take_succ_eq_append_getElem (by omega), ht, he]
        clear he ht
        go_wp2
        go_quiet (fail)
        go_wp2
        go_roundw
        case rel => exact ⟨k + 1, by omega, by go_num, ht'.out, _, rfl⟩
        case measure => simp [intOf]; omega
      · have hb1 : ((xs[k].toNat : Int) != (ys[k].toNat : Int)) = true := by
          have := ne_byte he
          simpa using this
        have hfin : Hid ((xs == ys) = false) := by
          show _ = _
          simp only [beq_eq_false_iff_ne, ne_eq]
          rintro rfl; exact he rfl
        clear he ht
        go_wp2
        go_quiet (fail)
        go_wp2
        go_ret
        exact ⟨ret_bool hfin.out.symm, by first | exact ⟨_, rfl⟩ | exact ⟨_, World.drewN_drewN _ _ _⟩ | exact ⟨_, (World.drewN_drewN _ _ _).symm⟩⟩
    · have hfin : Hid ((xs == ys) = true) := by
        show _ = _
        have hk' : k = n := by omega
        rw [List.take_of_length_le (by omega), List.take_of_length_le (by omega)] at ht
        rw [ht]; simp
      clear ht
      go_wp2
      go_ret
      exact ⟨ret_bool hfin.out.symm, by first | exact ⟨_, rfl⟩ | exact ⟨_, World.drewN_drewN _ _ _⟩ | exact ⟨_, (World.drewN_drewN _ _ _).symm⟩⟩

theorem eqBytes (A A' : Option Addr) (c c' n m : Nat) (xs ys : List UInt8) (w : World) (hA : Bs w A xs) (hB : Bs w A' ys) (hn : xs.length = n) (hm : ys.length = m) (hl : n ≤ maxLen) (hl' : m ≤ maxLen) :
    Calls Tryz.prog 16 #[.slice A n c, .slice A' m c'] w fun e w' => e = .returned (.bool (xs == ys)) ∧ Below w.heap.size w w' := by
  refine (eqBytesQ A A' c c' n m xs ys w hA hB hn hm hl hl').mono ?_
  rintro e w' ⟨rfl, q, rfl⟩
  exact ⟨rfl, below_drewN (Below.refl _ _) _⟩

end Go.Proofs.YtfaeechidjpjbaaGreat

namespace Go.Proofs.YtfaeechidjpjbaaGreat

open Go.RowKit

set_option linter.unusedVariables false

theorem u8_info : (Tryz.prog.info? 5).map (fun i => (i.zero, i.size, i.bytes)) = some (some (.int .u8 0), 1, 1) := by kernel_rfl

theorem run_append_empty {P : Program} (w : World) (base : Nat) (t ty e : TypeId) (i : TypeInfo) (ht : P.underlying t = some (.slice e)) (hi : P.info? e = some i)
    (v : Value) (n : Nat) (xs : List Value) (size : Nat) (hown : w.ownsRow base e size v n xs) (c : Nat) : (Builtin.append_ #[t, t] ty #[v, .slice none 0 c]).run P w = .ok v w := by
  obtain ⟨_, h | ⟨g, cap, cur, h, _, _, hnc, _⟩⟩ := hown
  · obtain ⟨rfl, rfl⟩ := h
    simp [Builtin.append_, run_underlying ht, sizeOf, typeInfo, hi, Builtin.lenOf, Builtin.firstCells]
  · subst h
    simp [Builtin.append_, run_underlying ht, sizeOf, typeInfo, hi, Builtin.lenOf, Builtin.firstCells, hnc, storeCells]

set_option maxRecDepth 100000 in
/-- append(v, x...) for bytes: 'v' in a row of the call's own, 'x' whatever slice shows the bytes 'm'. -/
theorem run_appendB (w : World) (base : Nat) (v : Value) (l : List UInt8) (hown : Mine w base 5 v l) (A : Option Addr) (c k : Nat) (m : List UInt8) (hr : Bs w A m) (hk : m.length = k)
    (h47 : l.length + k ≤ 140737488355328) (hbase : base ≤ w.heap.size) (ty : TypeId) :
    ∃ v' w', (Builtin.append_ #[22, 22] ty #[v, .slice A k c]).run Tryz.prog w = .ok v' w' ∧ Mine w' base 5 v' (l ++ m) ∧ w.grownBy w' v.ownBlock ∧
      (v'.ownBlock = v.ownBlock ∨ v'.ownBlock = some w.heap.size) := by
  subst hk
  obtain ⟨i0, hi, hz0, hz1, hz2⟩ := info_parts u8_info
  cases A with
  | none =>
    have hm : m = [] := by
      cases m with
      | nil => rfl
      | cons x t => obtain ⟨b, off, e, _⟩ := hr.at_ (i := 0) (by simp); cases e
    subst hm
    exact ⟨v, w, run_append_empty w base _ ty _ i0 Tryz.underlying22 hi v _ _ 1 hown c, by simpa using hown, World.grownBy.refl w _, .inl rfl⟩
  | some ad =>
    have hcells : ∀ j u, (cbs m)[j]? = some u → w.cell? (ad.add j) = some u := by
      intro j u hu
      have hj : j < m.length := by
        rcases Nat.lt_or_ge j m.length with h | h
        · exact h
        · rw [List.getElem?_eq_none (by rw [cbs_length]; exact h)] at hu; cases hu
      obtain ⟨b, off, e, _, hc⟩ := hr.2 (by omega)
      injection e with e
      subst e
      rw [add_mk]
      exact hc j u hu
    obtain ⟨v', w', h1, h2, h3, _, h5⟩ := run_append_own_at (P := Tryz.prog) w base 22 ty 5 i0 (.int .u8 0) 1 1 Tryz.underlying22 hi hz0 hz1 hz2 rfl (by decide) v l.length (cbs l) hown ad m.length c (cbs m)
      (by rw [cbs_length]; simp) hcells (cbs_one m) (by simp only [maxLen]; omega) (by omega) hbase
    exact ⟨v', w', h1, by unfold Mine; rw [List.length_append, cbs_append]; exact h2, h3, h5⟩

theorem wp_appendB {w : World} {ops : Array Oper} {rest : List Oper} {o : Oper} {a : Act} {Q : Exit → Act → World → Prop} (hgd : o.guard = none) (s x : Operand)
    (ho : o.op = .call { callee := .builtin .append, args := #[s, x], argTypes := #[22, 22] })
    (base : Nat) (v : Value) (l : List UInt8) (hs : a.eval s = v) (hown : Mine w base 5 v l) (A : Option Addr) (c k : Nat) (m : List UInt8) (hx : a.eval x = .slice A k c) (hr : Bs w A m) (hk : m.length = k)
    (h47 : l.length + k ≤ 140737488355328) (hbase : base ≤ w.heap.size)
    (h : ∀ v' w', Mine w' base 5 v' (l ++ m) → w.grownBy w' v.ownBlock → (v'.ownBlock = v.ownBlock ∨ v'.ownBlock = some w.heap.size) → wpList Tryz.prog ops Q rest (a.put o.dst v') w') :
    wpList Tryz.prog ops Q (o :: rest) a w := by
  obtain ⟨v', w', hrun, h2, h3, h4⟩ := run_appendB w base v l hown A c k m hr hk h47 hbase o.type
  refine wpList_plain hgd fun K hK => ?_
  unfold Oper.wp execOp
  simp only [ho, resolve, invoke, builtin, Sem.run_bind, Sem.run_pure, Result.andThen_ok, List.map_toArray, List.map_cons, List.map_nil, hs, hx, hrun]
  exact hK _ _ (h v' w' h2 h3 h4)

/-- A new slice that shows 'l', in a row made since the world 'w'. -/
def NewB (w : World) (l : List UInt8) (v : Value) (w' : World) : Prop := Mine w' w.heap.size 5 v l ∧ Below w.heap.size w w'

def RetB (w : World) (l : List UInt8) (e : Ending) (w' : World) : Prop := ∃ v, e = .returned v ∧ NewB w l v w'

theorem NewB.ofDrew {w w' : World} {l : List UInt8} {v : Value} (h : NewB w.drew l v w') : NewB w l v w' := ⟨h.1, ((Below.refl _ _).drew).trans h.2⟩

theorem NewB.nil (w : World) : NewB w [] (.slice none 0 0) w := ⟨World.ownsRow_nil _ _ _ _, Below.refl _ _⟩

theorem NewB.form {w w' : World} {l : List UInt8} {v : Value} (h : NewB w l v w') : ∃ A c, v = .slice A l.length c ∧ l.length ≤ c ∧ c ≤ maxLen ∧ Bs w' A l := Mine.form h.1

theorem NewB.later {w w1 w' : World} {l : List UInt8} {v : Value} (hb : Below w.heap.size w w1) (h : NewB w1 l v w') : NewB w l v w' :=
  ⟨by
    obtain ⟨h1, h2 | ⟨g, cap, cur, h3, h4, h5⟩⟩ := h.1
    · exact ⟨h1, .inl h2⟩
    · exact ⟨h1, .inr ⟨g, cap, cur, h3, Nat.le_trans hb.size h4, h5⟩⟩, hb.trans (h.2.mono hb.size)⟩

set_option maxHeartbeats 400000 in
theorem copyBytes (A : Option Addr) (c n : Nat) (xs : List UInt8) (w : World) (hA : Bs w A xs) (hn : xs.length = n) (hl : n ≤ 140737488355328) :
    Calls Tryz.prog 10 #[.slice A n c] w (RetB w xs) := by
  have Hn := Lib.hid hn
  clear hn
  go_enter Tryz.func10, Tryz.ntmps10
  go_wp2_with (at_builtin; refine wp_appendB rfl _ _ rfl w.heap.size (.slice none 0 0) [] rfl (World.ownsRow_nil _ _ _ _) A c n xs rfl hA Hn.out (by simpa using hl) (Nat.le_refl _) ?_; intro v1 w1 hm1 hg1 ho1)
  go_ret
  exact ⟨v1, rfl, by simpa using hm1, (Below.refl _ _).grown hg1 (Nat.le_refl _) (by simp [Value.ownBlock])⟩

end Go.Proofs.YtfaeechidjpjbaaGreat

namespace Go.Proofs.YtfaeechidjpjbaaGreat

open Go.RowKit

set_option linter.unusedVariables false

set_option maxHeartbeats 400000 in
theorem clone_any (A : Option Addr) (c n : Nat) (xs : List UInt8) (w : World) (hA : Bs w A xs) (hn : xs.length = n) (hl : n ≤ 140737488355328) :
    Calls Tryz.prog 61 #[.slice A n c] w (RetB w xs) := by
  have Hn := Lib.hid hn
  clear hn
  cases A with
  | none =>
    have hm : xs = [] := by
      cases xs with
      | nil => rfl
      | cons x t => obtain ⟨b, off, e, _⟩ := hA.at_ (i := 0) (by simp); cases e
    subst hm
    have hq := fun (w : World) => Lib.run_eql_slice_nil (P := Tryz.prog) w 22 5 none n c 0 0 Tryz.underlying22
    go_enter Tryz.func61, Tryz.ntmps61
    go_wp2
    go_ret
    exact ⟨_, rfl, World.ownsRow_nil _ _ _ _, Below.refl _ _⟩
  | some ad =>
    have hq := fun (w : World) => Lib.run_eql_slice_nil (P := Tryz.prog) w 22 5 (some ad) n c 0 0 Tryz.underlying22
    go_enter Tryz.func61, Tryz.ntmps61
    go_wp2_with (at_builtin; refine wp_appendB rfl _ _ rfl w.heap.size (.slice (some ⟨w.heap.size, 0, none⟩) 0 0) [] rfl (by exact World.ownsRow_made w #[] 0 (Nat.le_refl _) (by simp [maxLen]) rfl) (some ad) c n xs rfl (by exact hA.on ((Below.refl _ _).alloc (Nat.le_refl _) _)) Hn.out (by simpa using hl) (by simp) ?_; intro v1 w1 hm1 hg1 ho1)
    go_ret
    refine ⟨v1, rfl, by simpa using hm1, ((Below.refl _ _).alloc (Nat.le_refl _) _).grown hg1 (by simp) ?_⟩
    intro k hk
    simp [Value.ownBlock] at hk
    omega

end Go.Proofs.YtfaeechidjpjbaaGreat

namespace Go.Proofs.YtfaeechidjpjbaaGreat

set_option linter.unusedVariables false

/-- A number's bytes, the highest first, none ahead. -/
def dgs (n : Nat) : List UInt8 := if h : n = 0 then [] else dgs (n / 256) ++ [UInt8.ofNat (n % 256)]
termination_by n
decreasing_by omega

def valFrom (a : Nat) (l : List UInt8) : Nat := l.foldl (fun a b => a * 256 + b.toNat) a

def val (l : List UInt8) : Nat := valFrom 0 l

theorem valFrom_append (a : Nat) (l m : List UInt8) : valFrom a (l ++ m) = valFrom (valFrom a l) m := by simp [valFrom]

theorem val_snoc (l : List UInt8) (x : UInt8) : val (l ++ [x]) = val l * 256 + x.toNat := by simp [val, valFrom]

theorem valFrom_eq (a : Nat) (l : List UInt8) : valFrom a l = a * 256 ^ l.length + val l := by
  induction l generalizing a with
  | nil => simp [valFrom, val]
  | cons x l ih =>
    have h1 : valFrom a (x :: l) = valFrom (a * 256 + x.toNat) l := rfl
    have h2 : val (x :: l) = valFrom (0 * 256 + x.toNat) l := rfl
    rw [h1, h2, ih, ih (0 * 256 + x.toNat), List.length_cons, Nat.pow_succ]
    have e1 : (a * 256 + x.toNat) * 256 ^ l.length = a * (256 ^ l.length * 256) + x.toNat * 256 ^ l.length := by rw [Nat.add_mul, Nat.mul_assoc, Nat.mul_comm 256]
    have e2 : (0 * 256 + x.toNat) * 256 ^ l.length = x.toNat * 256 ^ l.length := by simp
    omega

theorem val_cons (x : UInt8) (l : List UInt8) : val (x :: l) = x.toNat * 256 ^ l.length + val l := by
  have h2 : val (x :: l) = valFrom (0 * 256 + x.toNat) l := rfl
  rw [h2, valFrom_eq]; simp

theorem val_lt (l : List UInt8) : val l < 256 ^ l.length := by
  induction l with
  | nil => simp [val, valFrom]
  | cons x l ih =>
    rw [val_cons, List.length_cons, Nat.pow_succ]
    have := x.toNat_lt
    have h : x.toNat * 256 ^ l.length ≤ 255 * 256 ^ l.length := Nat.mul_le_mul_right _ (by omega)
    omega

theorem dgs_zero : dgs 0 = [] := by unfold dgs; simp

theorem dgs_pos {n : Nat} (h : 0 < n) : dgs n = dgs (n / 256) ++ [UInt8.ofNat (n % 256)] := by
  rw [dgs, dif_neg (by omega)]

theorem val_dgs (n : Nat) : val (dgs n) = n := by
  induction n using Nat.strongRecOn with
  | _ n ih =>
    rcases Nat.eq_zero_or_pos n with h | h
    · subst h; rw [dgs_zero]; rfl
    · rw [dgs_pos h, val_snoc, ih _ (by omega)]
      have : (UInt8.ofNat (n % 256)).toNat = n % 256 := by simp [UInt8.toNat_ofNat']
      omega

theorem dgs_len {n k : Nat} (h : n < 256 ^ k) : (dgs n).length ≤ k := by
  induction k generalizing n with
  | zero => have : n = 0 := by simpa using h
            subst this; simp [dgs_zero]
  | succ k ih =>
    rcases Nat.eq_zero_or_pos n with h0 | h0
    · subst h0; simp [dgs_zero]
    · rw [dgs_pos h0]
      have := ih (n := n / 256) (by rw [Nat.pow_succ] at h; omega)
      simp; omega

theorem dgs_len7 {n : Nat} (h : n ≤ 9007199254740991) : (dgs n).length ≤ 7 := dgs_len (by omega)

theorem dgs_head {n : Nat} {x : UInt8} {t : List UInt8} (h : dgs n = x :: t) : x ≠ 0 := by
  induction n using Nat.strongRecOn generalizing x t with
  | _ n ih =>
    rcases Nat.eq_zero_or_pos n with h0 | h0
    · subst h0; rw [dgs_zero] at h; cases h
    · rw [dgs_pos h0] at h
      cases hd : dgs (n / 256) with
      | nil =>
        rw [hd] at h
        have h1 : n / 256 = 0 := by rw [← val_dgs (n / 256), hd]; rfl
        simp at h
        obtain ⟨rfl, _⟩ := h
        intro e
        have := congrArg UInt8.toNat e
        simp [UInt8.toNat_ofNat'] at this
        omega
      | cons y u =>
        rw [hd] at h
        simp at h
        obtain ⟨rfl, _⟩ := h
        exact ih _ (by omega) hd

theorem dgs_val {l : List UInt8} (h : ∀ x t, l = x :: t → x ≠ 0) : dgs (val l) = l := by
  induction hn : l.length generalizing l with
  | zero => have := List.eq_nil_of_length_eq_zero hn; subst this; exact dgs_zero
  | succ k ih =>
    obtain ⟨m, x, rfl⟩ : ∃ m x, l = m ++ [x] := ⟨l.dropLast, l.getLast (by rintro rfl; simp at hn), (List.dropLast_concat_getLast _).symm⟩
    have hx := x.toNat_lt
    rw [val_snoc]
    have hpos : 0 < val m * 256 + x.toNat := by
      cases m with
      | nil =>
        have := h x [] rfl
        have : x.toNat ≠ 0 := fun e => this (UInt8.toNat_inj.1 (by simpa using e))
        omega
      | cons y u =>
        have := h y (u ++ [x]) rfl
        have : y.toNat ≠ 0 := fun e => this (UInt8.toNat_inj.1 (by simpa using e))
        rw [val_cons]
        have : 1 ≤ 256 ^ u.length := Nat.one_le_pow _ _ (by omega)
        have : 1 * 1 ≤ y.toNat * 256 ^ u.length := Nat.mul_le_mul (by omega) this
        omega
    rw [dgs_pos hpos]
    have h1 : (val m * 256 + x.toNat) / 256 = val m := by omega
    have h2 : (val m * 256 + x.toNat) % 256 = x.toNat := by omega
    rw [h1, h2, ih (l := m) (fun y t e => h y (t ++ [x]) (by rw [e]; rfl)) (by simpa using hn)]
    simp

theorem dgs_at {n i : Nat} (h : i < (dgs n).length) : (dgs n)[(dgs n).length - 1 - i]'(by omega) = UInt8.ofNat (n / 256 ^ i % 256) := by
  induction i generalizing n with
  | zero =>
    rcases Nat.eq_zero_or_pos n with h0 | h0
    · subst h0; simp [dgs_zero] at h
    · simp [dgs_pos h0]
  | succ i ih =>
    rcases Nat.eq_zero_or_pos n with h0 | h0
    · subst h0; simp [dgs_zero] at h
    · have hl : i < (dgs (n / 256)).length := by rw [dgs_pos h0] at h; simp at h; omega
      have := ih hl
      have e1 : (dgs n).length - 1 - (i + 1) = (dgs (n / 256)).length - 1 - i := by rw [dgs_pos h0]; simp; omega
      have e2 : n / 256 ^ (i + 1) = n / 256 / 256 ^ i := by rw [Nat.pow_succ, Nat.mul_comm, Nat.div_div_eq_div_mul]
      rw [e2, ← this]
      simp only [e1]
      have e3 : (dgs n)[(dgs (n / 256)).length - 1 - i]? = (dgs (n / 256))[(dgs (n / 256)).length - 1 - i]? := by
        rw [dgs_pos h0, List.getElem?_append_left (by omega)]
      rw [List.getElem?_eq_getElem (by omega), List.getElem?_eq_getElem (by omega)] at e3
      exact Option.some.inj e3

/-- The bytes of a number: how many follow, and these. -/
def numB (n : Nat) : List UInt8 := UInt8.ofNat (dgs n).length :: dgs n

/-- What stands at the beginning of bytes, as a number: it, how many bytes it takes up, the error. -/
def nu (l : List UInt8) : Nat × Nat × Nat :=
  match l with
  | [] => (0, 0, 3)
  | b :: t =>
    if 7 < b.toNat then (0, 0, 4)
    else if t.length < b.toNat then (0, 0, 3)
    else if 0 < b.toNat ∧ t.head? = some 0 then (0, 0, 4)
    else if 9007199254740991 < val (t.take b.toNat) then (0, 0, 9)
    else (val (t.take b.toNat), 1 + b.toNat, 0)

theorem dgs_bits (n : Nat) (h : n < 18446744073709551616) : (Lib.bitLen n + 7) / 8 = (dgs n).length := by
  induction n using Nat.strongRecOn with
  | _ n ih =>
    rcases Nat.eq_zero_or_pos n with h0 | h0
    · subst h0; rw [dgs_zero]; decide
    · rw [dgs_pos h0, List.length_append, ← ih (n / 256) (by omega) (by omega)]
      by_cases hb : 256 ≤ n
      · rw [Lib.bitLen_shift8 n hb h]; simp; omega
      · have h1 : n / 256 = 0 := by omega
        have h2 := Lib.bitLen_half n (by omega) (by omega)
        have h3 := Lib.bitLen_le n 8 (by omega) (by omega)
        have h4 : Lib.bitLen 0 = 0 := by decide
        rw [h1, h4]
        simp
        omega

/-- A number's bytes while they are written from behind: 'i' of them stand. -/
def part (n i : Nat) : List UInt8 := UInt8.ofNat (dgs n).length :: (List.replicate ((dgs n).length - i) 0 ++ (dgs n).drop ((dgs n).length - i))

theorem part_len (n i : Nat) (h : i ≤ (dgs n).length) : (part n i).length = 1 + (dgs n).length := by simp [part]; omega

theorem part_end (n : Nat) : part n (dgs n).length = numB n := by simp [part, numB]

theorem part_aux (D : List UInt8) (x : UInt8) (k : Nat) (hk : k < D.length) : (x :: (List.replicate (k + 1) 0 ++ D.drop (k + 1))).set (k + 1) D[k] = x :: (List.replicate k 0 ++ D.drop k) := by
  rw [List.set_cons_succ, List.replicate_succ', List.append_assoc, List.set_append_right _ _ (by simp)]
  simp

theorem part_step (n i : Nat) (h : i < (dgs n).length) : (part n i).set ((dgs n).length - i) (UInt8.ofNat (n / 256 ^ i % 256)) = part n (i + 1) := by
  rw [← dgs_at h]
  unfold part
  have e1 : (dgs n).length - (i + 1) = (dgs n).length - 1 - i := by omega
  have e2 : (dgs n).length - i = (dgs n).length - 1 - i + 1 := by omega
  rw [e1, e2]
  exact part_aux _ _ _ _

end Go.Proofs.YtfaeechidjpjbaaGreat

namespace Go.Proofs.YtfaeechidjpjbaaGreat

open Go.RowKit

set_option linter.unusedVariables false

theorem ret3 {a a' b b' c c' : Int} (h1 : a = a') (h2 : b = b') (h3 : c = c') : Ending.returned (.tuple #[.int .i64 a, .int .i64 b, .int .i64 c]) = .returned (.tuple #[.int .i64 a', .int .i64 b', .int .i64 c']) := by rw [h1, h2, h3]

theorem or8 (s y : Nat) (hs : s < 281474976710656) (hy : y < 256) : bits .or .i64 ((s : Int) * 256) (y : Int) = ((s * 256 + y : Nat) : Int) := by
  have h := bits_join .i64 62 (by decide) (fun n h0 h1 => by rw [IntKind.wrap_i64]; omega) 8 ((s : Int) * 256) (y : Int) (by omega) (by omega) (by omega) (by omega) (by omega) (by omega)
  rw [h]; simp

/-- What 'number' answers. -/
def nuV (l : List UInt8) : Value := .tuple #[.int .i64 ((nu l).1 : Int), .int .i64 ((nu l).2.1 : Int), .int .i64 ((nu l).2.2 : Int)]

set_option maxHeartbeats 800000 in
theorem number_any (A : Option Addr) (c n : Nat) (xs : List UInt8) (w : World) (hA : Bs w A xs) (hn : xs.length = n) (hl : n ≤ maxLen) :
    Calls Tryz.prog 96 #[.slice A n c] w fun e w' => e = .returned (nuV xs) ∧ w = w' := by
  unfold maxLen at hl
  cases xs with
  | nil =>
    subst hn
    go_enter Tryz.func96, Tryz.ntmps96
    go_wp2
    go_ret3
    exact ⟨rfl, rfl⟩
  | cons b t =>
    obtain ⟨bb, off, rfl, hb, hc⟩ := hA.at_ (i := 0) (by simp)
    have g0 : w.cell? ⟨bb, off, none⟩ = some (.int .u8 (b.toNat : Int)) := by have := hc 0 (by simp); exact this
    have hl1 : n ≤ t.length + 1 := by simp at hn; omega
    have hl2 : t.length + 1 ≤ n := by simp at hn; omega
    clear hn
    have hp : (0 : Int) < n := by omega
    have hne : ((n : Int) == 0) = false := by simp; omega
    have hb8 := b.toNat_lt
    by_cases h7 : 7 < b.toNat
    · have hv : Hid (nu (b :: t) = (0, 0, 4)) := by show _ = _; simp [nu, h7]
      have h7' : (7 : Int) < b.toNat := by omega
      clear h7 hc
      go_enter Tryz.func96, Tryz.ntmps96
      go_wp2
      go_ret3
      exact ⟨by unfold nuV; rw [hv.out]; rfl, rfl⟩
    · have h7' : ¬ (7 : Int) < b.toNat := by omega
      by_cases hs : t.length < b.toNat
      · have hv : Hid (nu (b :: t) = (0, 0, 3)) := by show _ = _; simp [nu, h7, hs]
        have hs' : (n : Int) - 1 < b.toNat := by omega
        clear hc
        go_enter Tryz.func96, Tryz.ntmps96
        go_wp2
        go_ret3
        exact ⟨by unfold nuV; rw [hv.out]; rfl, rfl⟩
      · have hs' : ¬ (n : Int) - 1 < b.toNat := by omega
        by_cases hz : 0 < b.toNat
        · obtain ⟨x, u, rfl⟩ : ∃ x u, t = x :: u := by
            cases t with
            | nil => simp at hs; omega
            | cons x u => exact ⟨x, u, rfl⟩
          have g1 : w.cell? ⟨bb, off + 1, none⟩ = some (.int .u8 (x.toNat : Int)) := by have := hc 1 (by simp); exact this
          have hp1 : (1 : Int) < n := by simp at hl2; omega
          have hz' : (0 : Int) < b.toNat := by omega
          by_cases hx : x = 0
          · have hv : Hid (nu (b :: x :: u) = (0, 0, 4)) := by show _ = _; simp [nu, h7, hz, hx]; simp at hs; omega
            have hx' : ((x.toNat : Int) == 0) = true := by rw [hx]; rfl
            clear hc hx h7 hs hz
            go_enter Tryz.func96, Tryz.ntmps96
            go_wp2
            go_ret3
            exact ⟨by unfold nuV; rw [hv.out]; rfl, rfl⟩
          · have hx' : ((x.toNat : Int) == 0) = false := by
              simp only [beq_eq_false_iff_ne, ne_eq]; intro e; exact hx (UInt8.toNat_inj.1 (by simpa using e))
            have hv0 : Hid (nu (b :: x :: u) = if 9007199254740991 < val ((x :: u).take b.toNat) then (0, 0, 9) else (val ((x :: u).take b.toNat), 1 + b.toNat, 0)) := by
              show _ = _; simp [nu, h7, hx]; simp at hs; omega
            have hle : b.toNat ≤ (x :: u).length := by omega
            clear hx hs
            go_enter Tryz.func96, Tryz.ntmps96
            go_wp2
            go_loop [2, 6, 33] (fun s _ i => ∃ k : Nat, k ≤ b.toNat ∧ i = .int .i64 k ∧ s = .int .i64 (val ((x :: u).take k) : Nat)) (fun _ _ i => b.toNat - (intOf i).toNat)
            case atStart => exact ⟨0, Nat.zero_le _, rfl, rfl⟩
            case round =>
              obtain ⟨k, hk, rfl, rfl⟩ := hrel
              have hvl := val_lt ((x :: u).take k)
              by_cases hlt : k < b.toNat
              · have hkl : k < (x :: u).length := by omega
                have hs6 : 256 ^ ((x :: u).take k).length ≤ 256 ^ 6 := Nat.pow_le_pow_right (by omega) (by simp; omega)
                have hsn : Hid (val ((x :: u).take (k + 1)) = val ((x :: u).take k) * 256 + (x :: u)[k].toNat) := by
                  show _ = _
                  rw [List.take_succ_eq_append_getElem hkl, val_snoc]
                have g : w.cell? ⟨bb, off + (1 + k), none⟩ = some (.int .u8 ((x :: u)[k].toNat : Int)) := by
                  have := hc (k + 1) (by simp at hkl ⊢; omega)
                  rw [show off + (1 + k) = off + (k + 1) from by omega]; exact this
                have hb2 := (x :: u)[k].toNat_lt
                generalize (x :: u)[k] = y at *
                generalize val ((x :: u).take k) = s at *
                have hs7 : s < 281474976710656 := by omega
                clear hc hvl hs6
                have ho := or8 s y.toNat (by omega) hb2
                have Ho := Lib.hid ho
                clear ho
                go_wp2
                go_round
                case rel => exact ⟨k + 1, by omega, by go_num, by rw [Ho.out, hsn.out]⟩
                case measure => simp [intOf]; omega
              · have hkb : Hid (k = b.toNat) := by show _ = _; omega
                have hv1 : Hid (nu (b :: x :: u) = if 9007199254740991 < val ((x :: u).take k) then (0, 0, 9) else (val ((x :: u).take k), 1 + b.toNat, 0)) := by
                  show _ = _; rw [hv0.out, hkb.out]
                have hle6 : val ((x :: u).take k) < 72057594037927936 := by
                  have hs6 : 256 ^ ((x :: u).take k).length ≤ 256 ^ 7 := Nat.pow_le_pow_right (by omega) (by simp; omega)
                  omega
                generalize val ((x :: u).take k) = s at *
                clear hc hvl
                by_cases hbig : 9007199254740991 < s
                · have hbig' : (9007199254740991 : Int) < s := by omega
                  go_wp2
                  go_ret3
                  exact ⟨by unfold nuV; rw [hv1.out, if_pos hbig]; rfl, rfl⟩
                · have hbig' : ¬ (9007199254740991 : Int) < s := by omega
                  go_wp2
                  go_ret3
                  exact ⟨by unfold nuV; rw [hv1.out, if_neg hbig]; rfl, rfl⟩
        · have hv : Hid (nu (b :: t) = (0, 1, 0)) := by
            show _ = _
            have hb0 : b.toNat = 0 := by omega
            simp [nu, hb0, val, valFrom]
          have hb0 : b.toNat ≤ 0 := by omega
          clear hc hs
          go_enter Tryz.func96, Tryz.ntmps96
          go_wp2
          go_loop [2, 6, 33] (fun s _ i => i = .int .i64 0 ∧ s = .int .i64 0) (fun _ _ _ => 0)
          case atStart => exact ⟨rfl, rfl⟩
          case round =>
            obtain ⟨rfl, rfl⟩ := hrel
            go_wp2
            go_ret3
            exact ⟨by unfold nuV; rw [hv.out]; exact ret3 rfl (by show _ = ((1 : Nat) : Int); omega) rfl, rfl⟩

end Go.Proofs.YtfaeechidjpjbaaGreat

namespace Go.Proofs.YtfaeechidjpjbaaGreat

open Go.RowKit

set_option linter.unusedVariables false

theorem nu_used (l : List UInt8) : (nu l).2.1 ≤ l.length := by
  unfold nu
  cases l with
  | nil => simp
  | cons b t => simp only; split; · simp
                split; · simp
                split; · simp
                split; · simp
                simp; omega

theorem run_cut (A : Option Addr) (n c u : Nat) (h : u ≤ n) (w : World) :
    (Instr.sliceAt 22 (.slice A n c) (some (.int .i64 (u : Int))) none none).run Tryz.prog w = .ok (.slice (cutAt A 1 u c) (n - u) (c - u)) w := by
  have h1 : (u : Int) ≤ n := by omega
  go_simp
  simp [cutAt]

theorem run_front (A : Option Addr) (n c u : Nat) (h : u ≤ c) (w : World) :
    (Instr.sliceAt 22 (.slice A n c) none (some (.int .i64 (u : Int))) none).run Tryz.prog w = .ok (.slice A u c) w := by
  have h1 : (u : Int) ≤ c := by omega
  go_simp

/-- What TakeNum answers: the number, what is left, the error. -/
def tk (l : List UInt8) : Nat × List UInt8 × Nat := if (nu l).2.2 = 0 then ((nu l).1, l.drop (nu l).2.1, 0) else (0, [], (nu l).2.2)

def RetTN (w : World) (r : Nat × List UInt8 × Nat) (e : Ending) (w' : World) : Prop :=
  ∃ v, e = .returned (.tuple #[.int .i64 (r.1 : Int), v, .int .i64 (r.2.2 : Int)]) ∧ NewB w r.2.1 v w'

set_option maxHeartbeats 400000 in
theorem takeNum_any (A : Option Addr) (c n : Nat) (xs : List UInt8) (w : World) (hA : Bs w A xs) (hn : xs.length = n) (hc : n ≤ c) (hl : n ≤ 140737488355328) (hcm : c ≤ maxLen) :
    Calls Tryz.prog 110 #[.slice A n c] w (RetTN w (tk xs)) := by
  have hu := nu_used xs
  rw [hn] at hu
  have hN := number_any A c n xs w hA hn (by unfold maxLen; omega)
  unfold nuV at hN
  have Hn := Lib.hid hn
  clear hn
  have Ht := Lib.hid (show tk xs = if (nu xs).2.2 = 0 then ((nu xs).1, xs.drop (nu xs).2.1, 0) else (0, [], (nu xs).2.2) from rfl)
  generalize tk xs = r at *
  generalize nu xs = q at *
  obtain ⟨x, u, e⟩ := q
  simp only at hu hN
  have HN := Lib.hid hN
  clear hN
  unfold maxLen at hcm
  by_cases he : e = 0
  · subst he
    have hr : Hid (r = (x, xs.drop u, 0)) := by show _ = _; have := Ht.out; simpa using this
    clear Ht
    have hcut := run_cut A n c u hu
    go_enter Tryz.func110, Tryz.ntmps110
    go_wp2_with fail
    refine HN.out.mono ?_
    rintro e w' ⟨rfl, rfl⟩
    go_wp2_with fail
    refine (clone_any _ _ _ (xs.drop u) _ (hA.cut (by rw [Hn.out]; exact hu) (by rw [Hn.out]; exact hc)) (by rw [List.length_drop, Hn.out]) (by omega)).mono ?_
    rintro e w1 ⟨v, rfl, hnew⟩
    go_wp2
    go_ret3
    exact ⟨v, by rw [hr.out]; rfl, by rw [hr.out]; exact hnew⟩
  · have hr : Hid (r = (0, [], e)) := by show _ = _; have := Ht.out; simpa [he] using this
    have hee : ((e : Int) != 0) = true := by simp [he]
    clear Ht
    go_enter Tryz.func110, Tryz.ntmps110
    go_wp2_with fail
    refine HN.out.mono ?_
    rintro e w' ⟨rfl, rfl⟩
    go_wp2
    go_ret3
    exact ⟨.slice none 0 0, by rw [hr.out]; rfl, by rw [hr.out]; exact ⟨World.ownsRow_nil _ _ _ _, Below.refl _ _⟩⟩

/-- What TakeFix answers: the first n, what is left, the error. -/
def tf (l : List UInt8) (n : Int) : List UInt8 × List UInt8 × Nat := if n < 0 then ([], [], 2) else if l.length < n then ([], [], 3) else (l.take n.toNat, l.drop n.toNat, 0)

def RetTF (w : World) (r : List UInt8 × List UInt8 × Nat) (e : Ending) (w' : World) : Prop :=
  ∃ v u w1, e = .returned (.tuple #[v, u, .int .i64 (r.2.2 : Int)]) ∧ NewB w r.1 v w1 ∧ NewB w1 r.2.1 u w' 

set_option maxHeartbeats 400000 in
theorem takeFix_any (A : Option Addr) (c n : Nat) (k : Int) (xs : List UInt8) (w : World) (hA : Bs w A xs) (hn : xs.length = n) (hc : n ≤ c) (hl : n ≤ 140737488355328) (hcm : c ≤ maxLen) :
    Calls Tryz.prog 97 #[.slice A n c, .int .i64 k] w (RetTF w (tf xs k)) := by
  have Ht := Lib.hid (show tf xs k = if k < 0 then ([], [], 2) else if (n : Int) < k then ([], [], 3) else (xs.take k.toNat, xs.drop k.toNat, 0) from by rw [← hn]; rfl)
  generalize tf xs k = r at *
  have Hn := Lib.hid hn
  clear hn
  unfold maxLen at hcm
  by_cases h0 : k < 0
  · have hr : Hid (r = ([], [], 2)) := by show _ = _; have := Ht.out; simpa [h0] using this
    clear Ht
    go_enter Tryz.func97, Tryz.ntmps97
    go_wp2
    go_ret3
    exact ⟨.slice none 0 0, .slice none 0 0, w, by rw [hr.out]; rfl, by rw [hr.out]; exact ⟨World.ownsRow_nil _ _ _ _, Below.refl _ _⟩, by rw [hr.out]; exact ⟨World.ownsRow_nil _ _ _ _, Below.refl _ _⟩⟩
  · by_cases h1 : (n : Int) < k
    · have hr : Hid (r = ([], [], 3)) := by show _ = _; have := Ht.out; simpa [h0, h1] using this
      clear Ht
      go_enter Tryz.func97, Tryz.ntmps97
      go_wp2
      go_ret3
      exact ⟨.slice none 0 0, .slice none 0 0, w, by rw [hr.out]; rfl, by rw [hr.out]; exact ⟨World.ownsRow_nil _ _ _ _, Below.refl _ _⟩, by rw [hr.out]; exact ⟨World.ownsRow_nil _ _ _ _, Below.refl _ _⟩⟩
    · have hr : Hid (r = (xs.take k.toNat, xs.drop k.toNat, 0)) := by show _ = _; have := Ht.out; simpa [h0, h1] using this
      obtain ⟨u, rfl⟩ := Int.eq_ofNat_of_zero_le (a := k) (by omega)
      rw [Int.toNat_natCast] at hr
      clear Ht
      have hu : u ≤ n := by omega
      have hcut := run_cut A n c u hu
      have hfr := run_front A n c u (by omega)
      go_enter Tryz.func97, Tryz.ntmps97
      go_wp2
      go_region_with (first
        | (go_at_call_of 61 (cutAt A 1 u c); refine (clone_any _ _ _ (xs.drop u) _ ?_ ?_ ?_).mono ?_; exact (Bs.after hnew.2 hA).cut (by rw [Hn.out]; exact hu) (by rw [Hn.out]; exact hc); rw [List.length_drop, Hn.out]; omega; rintro e w2 ⟨v2, rfl, hnew2⟩)
        | (go_at_call_of 61 A; refine (clone_any _ _ _ (xs.take u) _ ?_ ?_ ?_).mono ?_; exact hA.front (by rw [Hn.out]; exact hu); rw [List.length_take, Hn.out]; omega; omega; rintro e w1 ⟨v, rfl, hnew⟩))
      go_wp2
      go_ret3
      exact ⟨v, v2, w1, by rw [hr.out]; rfl, by rw [hr.out]; exact hnew.ofDrew, by rw [hr.out]; exact hnew2⟩

/-- What TakeStr answers. -/
def ts (l : List UInt8) (most : Int) : List UInt8 × List UInt8 × Nat :=
  if most < 0 then ([], [], 2) else if (nu l).2.2 ≠ 0 then ([], [], (nu l).2.2) else if most < (nu l).1 ∨ 65536 < (nu l).1 then ([], [], 5) else tf (l.drop (nu l).2.1) (nu l).1

theorem retTF_nil {w w' : World} (h : w = w') {k : Nat} {i : Int} (hi : i = k) : RetTF w ([], [], k) (.returned (.tuple #[.slice none 0 0, .slice none 0 0, .int .i64 i])) w' := by
  subst h hi; exact ⟨_, _, w, rfl, NewB.nil w, NewB.nil w⟩

set_option maxHeartbeats 400000 in
theorem takeStr_any (A : Option Addr) (c n : Nat) (k : Int) (xs : List UInt8) (w : World) (hA : Bs w A xs) (hn : xs.length = n) (hc : n ≤ c) (hl : n ≤ 140737488355328) (hcm : c ≤ maxLen) :
    Calls Tryz.prog 68 #[.slice A n c, .int .i64 k] w (RetTF w (ts xs k)) := by
  have Ht := Lib.hid (show ts xs k = if k < 0 then ([], [], 2) else if (nu xs).2.2 ≠ 0 then ([], [], (nu xs).2.2) else if k < (nu xs).1 ∨ 65536 < (nu xs).1 then ([], [], 5) else tf (xs.drop (nu xs).2.1) (nu xs).1 from rfl)
  have hu := nu_used xs
  rw [hn] at hu
  have hN := number_any A c n xs w hA hn (by unfold maxLen; omega)
  unfold nuV at hN
  have Hn := Lib.hid hn
  clear hn
  generalize ts xs k = r at *
  generalize nu xs = q at *
  obtain ⟨x, u, e⟩ := q
  simp only at hu hN Ht
  have HN := Lib.hid hN
  clear hN
  have hcm' : c ≤ maxLen := hcm
  unfold maxLen at hcm
  by_cases h0 : k < 0
  · have hr : Hid (r = ([], [], 2)) := by show _ = _; have := Ht.out; simpa [h0] using this
    clear Ht
    go_enter Tryz.func68, Tryz.ntmps68
    go_wp2
    go_ret3
    rw [hr.out]
    exact retTF_nil rfl rfl
  · by_cases he : e = 0
    · subst he
      by_cases hk : k < (x : Int)
      · have hr : Hid (r = ([], [], 5)) := by show _ = _; have := Ht.out; simpa [h0, hk] using this
        clear Ht
        go_enter Tryz.func68, Tryz.ntmps68
        go_wp2_with fail
        refine HN.out.mono ?_
        rintro e w' ⟨rfl, rfl⟩
        go_wp2
        go_ret3
        rw [hr.out]
        exact retTF_nil rfl rfl
      · by_cases hx : 65536 < x
        · have hr : Hid (r = ([], [], 5)) := by show _ = _; have := Ht.out; simpa [h0, hk, hx] using this
          have hx' : (65536 : Int) < x := by omega
          clear Ht
          go_enter Tryz.func68, Tryz.ntmps68
          go_wp2_with fail
          refine HN.out.mono ?_
          rintro e w' ⟨rfl, rfl⟩
          go_wp2
          go_ret3
          rw [hr.out]
          exact retTF_nil rfl rfl
        · have hr : Hid (r = tf (xs.drop u) x) := by show _ = _; have := Ht.out; simpa [h0, hk, hx] using this
          have hx' : ¬ (65536 : Int) < x := by omega
          have hcut := run_cut A n c u hu
          clear Ht
          go_enter Tryz.func68, Tryz.ntmps68
          go_wp2_with fail
          refine HN.out.mono ?_
          rintro e w' ⟨rfl, rfl⟩
          go_wp2_with fail
          refine (takeFix_any _ _ _ _ (xs.drop u) _ (hA.cut (by rw [Hn.out]; exact hu) (by rw [Hn.out]; exact hc)) (by rw [List.length_drop, Hn.out]) (by omega) (by omega) (by unfold maxLen; omega)).mono ?_
          rintro e w2 ⟨v, v2, w1, rfl, hnew, hnew2⟩
          go_wp2
          go_ret3
          rw [hr.out]
          exact ⟨v, v2, w1, rfl, hnew, hnew2⟩
    · have hr : Hid (r = ([], [], e)) := by show _ = _; have := Ht.out; simpa [h0, he] using this
      have hee : ((e : Int) != 0) = true := by simp [he]
      clear Ht
      go_enter Tryz.func68, Tryz.ntmps68
      go_wp2_with fail
      refine HN.out.mono ?_
      rintro e w' ⟨rfl, rfl⟩
      go_wp2
      go_ret3
      rw [hr.out]
      exact retTF_nil rfl rfl

end Go.Proofs.YtfaeechidjpjbaaGreat
