/-
  Laid together for a hand-in: Wq11, Blk, Open, Ints, Bring, Wi11, RefBin, RefTake, RefTakeStr.
-/
import Derived.Test.YtihmddpafbackaaGreatZ08
import Derived.Test.YtihmddpafbackaaGreatZ06
import Derived.Test.YtihmddpafbackaaGreatZ04
import Derived.Test.YtihmddpafbackaaGreatZ01
import Derived.Test.YtihmddpafbackaaGreatRows
import Derived.Test.YtihmddpafbackaaGreatZ07
import Derived.ProofKit
import Derived.OpenShut
import Derived.ShutString
import Derived.ChangeOld
import Derived.SizedLaws
import Derived.Deep.Slices
import Derived.Deep.RegionHeld3
import Derived.Deep.AppendLies

namespace Go.Proofs.YtihmddpafbackaaGreat

set_option linter.unusedVariables false

/-- A batch's bytes. -/
def sbs (l : List Wl) : List UInt8 := (l.map fun w => sb (wb w)).flatten

def btB (l : List Wl) : List UInt8 := ib (l.length : Int) ++ sbs l

def batchW (l : List Wl) : List UInt8 × Nat := if 4 < l.length then ([], 5) else if ∀ w ∈ l, May w then (btB l, 0) else ([], 2)

def rp (s : Rd) : Wl × Rd := if (rt 256 s).2.2 ≠ 0 then (W0, (rt 256 s).2) else ((parse (rt 256 s).1).1, ((rt 256 s).2.1, (parse (rt 256 s).1).2))

def rps : Nat → Rd → List Wl × Rd
  | 0, s => ([], s)
  | k + 1, s => ((rps k s).1 ++ [(rp (rps k s).2).1], (rp (rps k s).2).2)

def unb (l : List UInt8) : List Wl × Nat :=
  if ren (rps (rc 4 (l, 0)).1 (rc 4 (l, 0)).2).2 ≠ 0 then ([], ren (rps (rc 4 (l, 0)).1 (rc 4 (l, 0)).2).2) else ((rps (rc 4 (l, 0)).1 (rc 4 (l, 0)).2).1, 0)

theorem sbs_nil : sbs [] = [] := rfl

theorem sbs_cons (w : Wl) (l : List Wl) : sbs (w :: l) = sb (wb w) ++ sbs l := by simp [sbs]

theorem sbs_drop {l : List Wl} {k : Nat} (h : k < l.length) : sbs (l.drop k) = sb (wb l[k]) ++ sbs (l.drop (k + 1)) := by
  rw [List.drop_eq_getElem_cons h, sbs_cons]

theorem sbs_take {l : List Wl} {k : Nat} (h : k < l.length) : sbs (l.take (k + 1)) = sbs (l.take k) ++ sb (wb l[k]) := by
  rw [List.take_succ_eq_append_getElem h]; unfold sbs; rw [List.map_append, List.flatten_append]; simp

theorem rps_len (k : Nat) (s : Rd) : (rps k s).1.length = k := by
  induction k with
  | zero => rfl
  | succ k ih => simp [rps, ih]

theorem rp_err {s : Rd} (h : s.2 ≠ 0) : rp s = (W0, s) := by unfold rp; rw [rt_err h, if_pos h]

theorem rps_err {k : Nat} {s : Rd} (h : s.2 ≠ 0) : (rps k s).2 = s := by
  induction k with
  | zero => rfl
  | succ k ih => unfold rps; simp only [ih, rp_err h]

theorem rp_sb {w : Wl} (h : May w) (z : List UInt8) : rp (sb (wb w) ++ z, 0) = (w, (z, 0)) := by
  have hl := (wb_len h).2
  unfold rp
  simp only [rt_sb (d := wb w) (m := 256) (by omega) (by omega) z, parse_wb h]
  simp

theorem rps_sbs {l : List Wl} (h : ∀ w ∈ l, May w) (z : List UInt8) : rps l.length (sbs l ++ z, 0) = (l, (z, 0)) := by
  suffices H : ∀ k, k ≤ l.length → rps k (sbs l ++ z, 0) = (l.take k, (sbs (l.drop k) ++ z, 0)) by
    have := H l.length (Nat.le_refl _)
    rw [this]
    simp [sbs]
  intro k
  induction k with
  | zero => intro _; simp [rps]
  | succ k ih =>
    intro hk
    have hk' : k < l.length := by omega
    unfold rps
    rw [ih (by omega)]
    have e := sbs_drop hk'
    simp only
    rw [e, List.append_assoc, rp_sb (h _ (List.getElem_mem hk'))]
    simp only
    rw [List.take_succ_eq_append_getElem hk']

theorem unb_all {l : List Wl} (h4 : l.length ≤ 4) (h : ∀ w ∈ l, May w) (z : List UInt8) : unb (btB l ++ z) = if z.length ≠ 0 then ([], 4) else (l, 0) := by
  unfold unb btB
  rw [List.append_assoc, rc_ib h4 (by omega)]
  simp only [rps_sbs h z, ren]
  by_cases hz : z.length ≠ 0
  · rw [if_pos hz, if_pos (by simp [hz])]
    simp [hz]
  · rw [if_neg hz, if_neg (by simp; simpa using hz)]

theorem unb_btB {l : List Wl} (h4 : l.length ≤ 4) (h : ∀ w ∈ l, May w) : unb (btB l) = (l, 0) := by
  have := unb_all h4 h []
  rw [List.append_nil] at this
  simpa using this

theorem btB_inj {l m : List Wl} (hl : l.length ≤ 4) (hm : m.length ≤ 4) (h : ∀ w ∈ l, May w) (h' : ∀ w ∈ m, May w) (e : btB l = btB m) : l = m := by
  have h1 := unb_btB hl h
  rw [e, unb_btB hm h'] at h1
  simpa using h1.symm

theorem rp_ok {s : Rd} (h : (rp s).2.2 = 0) : s.2 = 0 ∧ May (rp s).1 ∧ s.1 = sb (wb (rp s).1) ++ (rp s).2.1 := by
  unfold rp at h ⊢
  by_cases h1 : (rt 256 s).2.2 ≠ 0
  · rw [if_pos h1] at h; exact absurd h h1
  · rw [if_neg h1] at h ⊢
    simp only at h ⊢
    have h1' : (rt 256 s).2.2 = 0 := by simpa using h1
    obtain ⟨a1, a2, a3⟩ := rt_ok h1'
    obtain ⟨b1, b2⟩ := parse_back (l := (rt 256 s).1) (w := (parse (rt 256 s).1).1) (by rw [← h])
    exact ⟨a1, b1, by rw [b2]; exact a3⟩

theorem rps_ok {k : Nat} {s : Rd} (h : (rps k s).2.2 = 0) : s.2 = 0 ∧ (∀ w ∈ (rps k s).1, May w) ∧ s.1 = sbs (rps k s).1 ++ (rps k s).2.1 := by
  induction k with
  | zero => exact ⟨h, by simp [rps], by simp [rps, sbs]⟩
  | succ k ih =>
    unfold rps at h ⊢
    simp only at h ⊢
    obtain ⟨h1, h2, h3⟩ := rp_ok h
    obtain ⟨h4, h5, h6⟩ := ih h1
    refine ⟨h4, ?_, ?_⟩
    · intro w hw
      rcases List.mem_append.1 hw with hw | hw
      · exact h5 w hw
      · rw [List.mem_singleton] at hw; rw [hw]; exact h2
    · conv => lhs; rw [h6, h3]
      simp [sbs]

theorem unb_back {b : List UInt8} {l : List Wl} (h : unb b = (l, 0)) : l.length ≤ 4 ∧ (∀ w ∈ l, May w) ∧ btB l = b := by
  unfold unb at h
  by_cases h1 : ren (rps (rc 4 (b, 0)).1 (rc 4 (b, 0)).2).2 ≠ 0
  · rw [if_pos h1] at h; simp only [Prod.mk.injEq] at h; exact absurd h.2 h1
  · rw [if_neg h1] at h
    have h1' : ren (rps (rc 4 (b, 0)).1 (rc 4 (b, 0)).2).2 = 0 := by simpa using h1
    have hl := rps_len (rc 4 (b, 0)).1 (rc 4 (b, 0)).2
    simp only [Prod.mk.injEq, and_true] at h
    unfold ren at h1'
    split at h1'
    · cases h1'
    · rename_i h3
      have h4 : (rps (rc 4 (b, 0)).1 (rc 4 (b, 0)).2).2.1.length = 0 := by
        rcases Nat.eq_zero_or_pos (rps (rc 4 (b, 0)).1 (rc 4 (b, 0)).2).2.1.length with h5 | h5
        · exact h5
        · exact absurd ⟨h1', by omega⟩ h3
      obtain ⟨a1, a2, a3⟩ := rps_ok h1'
      obtain ⟨b1, b2, b3⟩ := rc_ok a1
      rw [List.eq_nil_of_length_eq_zero h4, List.append_nil] at a3
      rw [h] at a2 a3 hl
      refine ⟨by omega, a2, ?_⟩
      unfold btB
      rw [hl, ← a3, ← b3]

theorem unb_bad {b : List UInt8} (h : (unb b).2 ≠ 0) : (unb b).1 = [] := by
  unfold unb at h ⊢
  split
  · rfl
  · rename_i h1; rw [if_neg h1] at h; exact absurd rfl h

theorem unb_len {b : List UInt8} : (unb b).1.length ≤ 4 := by
  by_cases h : (unb b).2 = 0
  · exact (unb_back (b := b) (l := (unb b).1) (by rw [← h])).1
  · rw [unb_bad h]; simp

theorem batch_bad {l : List Wl} (h : (batchW l).2 ≠ 0) : (batchW l).1 = [] ∧ ((batchW l).2 = 5 ↔ 4 < l.length) := by
  unfold batchW at h ⊢
  by_cases h4 : 4 < l.length
  · simp [h4]
  · rw [if_neg h4] at h ⊢
    split
    · rename_i h1; rw [if_pos h1] at h; exact absurd rfl h
    · simp; omega

theorem batch_ok {l : List Wl} (h : (batchW l).2 = 0) : l.length ≤ 4 ∧ (∀ w ∈ l, May w) ∧ (batchW l).1 = btB l := by
  unfold batchW at h ⊢
  by_cases h4 : 4 < l.length
  · rw [if_pos h4] at h; simp at h
  · rw [if_neg h4] at h ⊢
    by_cases h1 : ∀ w ∈ l, May w
    · rw [if_pos h1]; exact ⟨by omega, h1, rfl⟩
    · rw [if_neg h1] at h; simp at h

theorem sbs_len {l : List Wl} (h : ∀ w ∈ l, May w) : (sbs l).length ≤ 136 * l.length := by
  induction l with
  | nil => simp [sbs]
  | cons w l ih =>
    rw [sbs_cons, List.length_append, List.length_cons]
    have h1 := ih fun y hy => h y (List.mem_cons_of_mem _ hy)
    have h2 := (wb_len (h w List.mem_cons_self)).2
    have h3 := (sb_len (l := wb w) (by omega)).2
    omega

theorem btB_len {l : List Wl} (h4 : l.length ≤ 4) (h : ∀ w ∈ l, May w) : 1 ≤ (btB l).length ∧ (btB l).length ≤ 552 := by
  unfold btB
  have h1 := sbs_len h
  have h2 := ib_le (x := (l.length : Int)) ⟨by omega, by omega⟩
  rw [List.length_append]
  omega

/-- A batch of one, cut. -/
theorem unb_cut {w : Wl} (h : May w) {k : Nat} (hk : k < (btB [w]).length) : unb ((btB [w]).take k) = ([], 3) := by
  have hl := (wb_len h).2
  have hb : btB [w] = ib ((1 : Nat) : Int) ++ (sb (wb w) ++ []) := by simp [btB, sbs]
  have h1 : Cut ((btB [w]).take k, 0) (ib ((1 : Nat) : Int) ++ (sb (wb w) ++ [])) := .inr ⟨rfl, by rw [← hb]; exact Pfx.take hk⟩
  obtain ⟨h2, h3⟩ := h1.cc (n := 1) (m := 4) (by omega) (by omega)
  have key : (rps (rc 4 ((btB [w]).take k, 0)).1 (rc 4 ((btB [w]).take k, 0)).2).2.2 = 3 := by
    rcases h2 with h2 | h2
    · rw [h2]
      obtain ⟨h4, h5⟩ := h3.ct (d := wb w) (m := 256) (by omega) (by omega)
      have h6 : (rt 256 (rc 4 ((btB [w]).take k, 0)).2).2.2 = 3 := by
        rcases h5 with h5 | ⟨_, h5⟩
        · exact h5
        · exact h5.nil.elim
      show (rp (rc 4 ((btB [w]).take k, 0)).2).2.2 = 3
      unfold rp
      rw [if_pos (by omega)]
      exact h6
    · rw [rps_err (by omega)]; exact h2
  unfold unb
  have : ren (rps (rc 4 ((btB [w]).take k, 0)).1 (rc 4 ((btB [w]).take k, 0)).2).2 = 3 := by unfold ren; rw [if_neg (by omega), key]
  rw [this]
  rfl

/-! ### What a reader sees near -/

theorem nu_near {l : List UInt8} {m : Nat} (h : 8 ≤ m) : nu (l.take m) = nu l := by
  cases l with
  | nil => simp [nu]
  | cons b t =>
    obtain ⟨k, rfl⟩ : ∃ k, m = k + 1 := ⟨m - 1, by omega⟩
    rw [List.take_succ_cons]
    unfold nu
    simp only
    by_cases h7 : 7 < b.toNat
    · rw [if_pos h7, if_pos h7]
    · rw [if_neg h7, if_neg h7]
      have e1 : ((t.take k).length < b.toNat) = (t.length < b.toNat) := by rw [List.length_take]; apply propext; omega
      have e2 : (t.take k).take b.toNat = t.take b.toNat := by rw [List.take_take]; congr 1; omega
      have e3 : (t.take k).head? = t.head? := by
        cases t with
        | nil => simp
        | cons x u =>
          obtain ⟨j, rfl⟩ : ∃ j, k = j + 1 := ⟨k - 1, by omega⟩
          simp
      simp only [e1, e2, e3]

theorem tk_near {l : List UInt8} : (tk (l.take 8)).1 = (tk l).1 ∧ (tk (l.take 8)).2.2 = (tk l).2.2 ∧ ((tk l).2.2 = 0 → (tk l).2.1 = l.drop ((l.take 8).length - (tk (l.take 8)).2.1.length)) := by
  have hu := nu_used (l.take 8)
  unfold tk
  rw [nu_near (by omega)] at hu ⊢
  by_cases h : (nu l).2.2 = 0
  · rw [if_pos h, if_pos h]
    refine ⟨rfl, rfl, fun _ => ?_⟩
    simp only [List.length_drop]
    congr 1
    omega
  · rw [if_neg h, if_neg h]
    exact ⟨rfl, rfl, fun h2 => absurd h2 h⟩

theorem ts_near {l : List UInt8} {m : Nat} : (ts (l.take (8 + m)) m).1 = (ts l m).1 ∧ (ts (l.take (8 + m)) m).2.2 = (ts l m).2.2 ∧ ((ts l m).2.2 = 0 → (ts l m).2.1 = l.drop ((l.take (8 + m)).length - (ts (l.take (8 + m)) m).2.1.length)) := by
  have hu := nu_used (l.take (8 + m))
  have hu8 : (nu l).2.1 ≤ 8 := by
    have := nu_used (l.take 8)
    rw [nu_near (by omega), List.length_take] at this
    omega
  unfold ts
  rw [nu_near (by omega)] at hu ⊢
  have h0 : ¬ ((m : Int) < 0) := by omega
  simp only [h0, if_false]
  by_cases h : (nu l).2.2 ≠ 0
  · rw [if_pos h, if_pos h]
    exact ⟨rfl, rfl, fun h2 => absurd h2 h⟩
  · rw [if_neg h, if_neg h]
    by_cases h2 : (m : Int) < (nu l).1 ∨ 65536 < (nu l).1
    · rw [if_pos h2, if_pos h2]
      exact ⟨rfl, rfl, fun h2 => by simp at h2⟩
    · rw [if_neg h2, if_neg h2]
      have hm : (nu l).1 ≤ m := by omega
      unfold tf
      have h9 : ¬ (((nu l).1 : Int) < 0) := by omega
      simp only [h9, if_false]
      rw [List.length_take] at hu
      have e : (((l.take (8 + m)).drop (nu l).2.1).length : Int) < ((nu l).1 : Int) ↔ ((l.drop (nu l).2.1).length : Int) < ((nu l).1 : Int) := by
        rw [List.length_drop, List.length_drop, List.length_take]; omega
      by_cases h3 : ((l.drop (nu l).2.1).length : Int) < ((nu l).1 : Int)
      · rw [if_pos (e.2 h3), if_pos h3]
        exact ⟨rfl, rfl, fun h2 => by simp at h2⟩
      · rw [if_neg (fun h4 => h3 (e.1 h4)), if_neg h3]
        refine ⟨?_, rfl, fun _ => ?_⟩
        · simp only [Int.toNat_natCast]
          rw [List.drop_take, List.take_take]
          congr 1
          omega
        · simp only [Int.toNat_natCast, List.drop_drop, List.length_drop, List.length_take]
          congr 1
          rw [List.length_drop] at h3
          omega

end Go.Proofs.YtihmddpafbackaaGreat

namespace Go.Proofs.YtihmddpafbackaaGreat

open Go.RowKit

theorem size_cells (vs : List Value) : ∀ (w : World) (b o : Nat), (w.setCells b o vs).heap.size = w.heap.size := by
  induction vs with
  | nil => intro w b o; rfl
  | cons v vs ih => intro w b o; rw [World.setCells, ih]; simp [World.setCell]

end Go.Proofs.YtihmddpafbackaaGreat

namespace Go.Proofs.YtihmddpafbackaaGreat

open Go.ChangeShapes Go.WideShapes Go.ChangeAt Go.RowKit

set_option linter.unusedVariables false

theorem own : ownKnob Tryz.prog.godebug = none := by kernel_rfl

theorem laidOut : laidOutB Tryz.prog = true := by kernel_rfl

theorem bytes_u8 : Tryz.prog.bytesOf 5 = 1 := by kernel_rfl

/-- A slice of bytes that came in. -/
def ArgB (w : World) (A : Option Addr) (n c : Nat) (l : List UInt8) : Prop := l.length = n ∧ n ≤ c ∧ c ≤ 140737488351232 ∧ Bs w A l

theorem wf_u8 {x : Int} (h : (Lit.int .u8 x).wf = true) : x = (((UInt8.ofNat x.toNat).toNat : Nat) : Int) := by
  have hb := bounds_u8 h
  rw [UInt8.toNat_ofNat', Nat.mod_eq_of_lt (by omega)]
  omega

theorem openB {H : Type} {enc : TypeId × Value → H} {w : World} {A : Option Addr} {n c : Nat} {d : DataW H} {p : List MemPlace}
    (h : DataW.Trod enc Tryz.prog w 0 (fun _ => true) true 22 (.slice A n c) d p) (hlt : ∀ x ∈ p, x.block < w.heap.size)
    (hs : ∀ elems spare, d = .slice elems spare → elems.length + spare.length ≤ 140737488351232) : ∃ l, ArgB w A n c l := by
  obtain ⟨fuel, hf⟩ := h
  rcases open_ints Tryz.underlying22 Tryz.underlying5 (by kernel_rfl) hf with ⟨hcs, _⟩ | ⟨x, l, c', zs, hcs, _, hl, hm, hz, hx, hcell, hwz⟩
  · simp [Value.cells] at hcs
    obtain ⟨rfl, rfl, rfl⟩ := hcs
    exact ⟨[], rfl, Nat.le_refl _, by omega, Bs.nil _ _⟩
  · simp [Value.cells] at hcs
    obtain ⟨rfl, rfl, rfl⟩ := hcs
    simp only [Prod.mk.injEq] at hx
    obtain ⟨hd, hp⟩ := hx
    have hz' : zs.length = c := by simpa using hz
    have hs' := hs _ _ hd
    simp only [lits, List.length_map, List.length_take, List.length_drop] at hs'
    refine ⟨(zs.take n).map fun z => UInt8.ofNat z.toNat, by simp; omega, hl, by omega, ?_⟩
    refine ⟨by simp [cbs], fun hn => ?_⟩
    have h0 := hcell 0 (by simp at hn; omega)
    have hsp : x.spot = none := by
      have := World.cell?_spot h0
      unfold Addr.add at this
      simpa using this
    obtain ⟨b, off, spot⟩ := x
    simp only at hsp
    subst hsp
    refine ⟨b, off, rfl, ?_, ?_⟩
    · have := World.block_lt_of_cell? w _ h0
      rw [add_mk] at this
      exact this
    · intro j u hu
      simp only [cbs, List.map_map, List.getElem?_map, Option.map_eq_some_iff] at hu
      obtain ⟨z, hz1, rfl⟩ := hu
      have hj : j < n ∧ j < zs.length := by
        rcases Nat.lt_or_ge j (zs.take n).length with h | h
        · simp at h; omega
        · rw [List.getElem?_eq_none h] at hz1; cases hz1
      have hzz : zs[j]? = some z := by rw [List.getElem?_take, if_pos hj.1] at hz1; exact hz1
      have hcj := hcell j hj.2
      rw [add_mk] at hcj
      rw [hcj]
      have hmem : z ∈ zs := List.mem_of_getElem? hzz
      have hg : zs.getD j 0 = z := by simp [List.getD, hzz]
      rw [hg]
      show _ = some (Value.int .u8 _)
      rw [← wf_u8 (hwz z hmem)]

/-- What 'x[:min(len(x), 1000)]' leaves of a slice of bytes that came in. -/
theorem cut1000 {w : World} {A : Option Addr} {n c : Nat} {l : List UInt8} (h : ArgB w A n c l) : ∃ m x, x.length = m ∧ m ≤ 1000 ∧ m ≤ c ∧ c ≤ maxLen ∧ Bs w A x ∧
    (∀ ts t w, (Builtin.min_ ts t #[.int .i64 (n : Int), .int .i64 1000]).run Tryz.prog w = .ok (.int .i64 (m : Int)) w) ∧
    (∀ w, (Instr.sliceAt 22 (.slice A n c) none (some (.int .i64 (m : Int))) none).run Tryz.prog w = .ok (.slice A m c) w) := by
  obtain ⟨h1, h2, h3, h4⟩ := h
  refine ⟨min n 1000, l.take (min n 1000), by rw [List.length_take]; omega, by omega, by omega, by unfold maxLen; omega, h4.front (by omega), fun ts t w => ?_, fun w => ?_⟩
  · rw [run_min_int2]
    congr 2
    split <;> omega
  · have h1 : ((min n 1000 : Nat) : Int) ≤ c := by omega
    generalize min n 1000 = m at *
    go_simp

end Go.Proofs.YtihmddpafbackaaGreat

namespace Go.Proofs.YtihmddpafbackaaGreat

open Go.ChangeShapes Go.WideShapes Go.ChangeAt Go.RowKit

set_option linter.unusedVariables false


def ci (x : Int) : Value := .int .i64 x

def cis (l : List Int) : List Value := l.map ci

theorem cis_length (l : List Int) : (cis l).length = l.length := by simp [cis]

theorem cis_get (l : List Int) (i : Nat) : (cis l)[i]? = (l[i]?).map ci := by simp [cis]

abbrev Wf (x : Int) : Prop := (Lit.int .i64 x).wf = true

theorem bounds_i64 {x : Int} (h : Wf x) : -9223372036854775808 ≤ x ∧ x ≤ 9223372036854775807 := by
  simp [Wf, Lit.wf, IntKind.min, IntKind.max, IntKind.signed, IntKind.bits] at h
  omega

/-- The slice 'A' of l.length elements shows the numbers 'l'. -/
def Is (w : World) (A : Option Addr) (l : List Int) : Prop := Shows w w.heap.size 1 A l.length (cis l)

theorem Is.after {w w' : World} {A : Option Addr} {l : List Int} (hb : Below w.heap.size w w') (h : Is w A l) : Is w' A l := Shows.on h hb

theorem Is.at_ {w : World} {A : Option Addr} {l : List Int} (h : Is w A l) {i : Nat} (hi : i < l.length) :
    ∃ b off, A = some ⟨b, off, none⟩ ∧ b < w.heap.size ∧ ∀ j (hj : j < l.length), w.cell? ⟨b, off + j, none⟩ = some (.int .i64 l[j]) := by
  obtain ⟨b, off, e, hb, hc⟩ := h.2 (by omega)
  refine ⟨b, off, e, hb, fun j hj => ?_⟩
  exact hc j _ (by rw [cis_get, List.getElem?_eq_getElem hj]; rfl)

def ArgI (w : World) (A : Option Addr) (n c : Nat) (l : List Int) : Prop := l.length = n ∧ n ≤ c ∧ c ≤ maxLen ∧ Is w A l ∧ ∀ x ∈ l, Wf x

theorem ArgI.after {w w' : World} {A : Option Addr} {n c : Nat} {l : List Int} (h : ArgI w A n c l) (hb : Below w.heap.size w w') : ArgI w' A n c l := ⟨h.1, h.2.1, h.2.2.1, h.2.2.2.1.after hb, h.2.2.2.2⟩

section

variable {H : Type} {enc : TypeId × Value → H} {w : World} {x : DataW H × List MemPlace} {cs : List Value} {fuel : Nat}

theorem spot_of {a : Addr} {v : Value} (h : w.cell? (a.add 0) = some v) : a.spot = none := by
  have := World.cell?_spot h
  unfold Addr.add at this
  simpa using this

theorem trodI (h : DataW.trod enc Tryz.prog w 0 (fun _ => true) true fuel 23 cs = some x) : ∃ A n c l, cs = [.slice A n c] ∧ ArgI w A n c l := by
  rcases open_ints Tryz.underlying23 Tryz.underlying3 (by kernel_rfl) h with ⟨rfl, _⟩ | ⟨a, n, c, zs, rfl, _, hl, hm, hz, _, hcell, hwz⟩
  · exact ⟨none, 0, 0, [], rfl, rfl, Nat.le_refl _, by simp [maxLen], Shows.empty _, fun _ h => by simp at h⟩
  · have hz' : zs.length = c := by simpa using hz
    refine ⟨some a, n, c, zs.take n, rfl, by simp; omega, hl, hm, ?_, fun z hz => hwz z (List.mem_of_mem_take hz)⟩
    refine ⟨by simp [cis], fun hn => ?_⟩
    simp at hn
    have hsp := spot_of (hcell 0 (by omega))
    obtain ⟨b, off, spot⟩ := a
    simp only at hsp
    subst hsp
    refine ⟨b, off, rfl, ?_, ?_⟩
    · have := World.block_lt_of_cell? w _ (hcell 0 (by omega))
      rw [add_mk] at this
      exact this
    · intro j u hu
      simp only [cis, List.getElem?_map, Option.map_eq_some_iff] at hu
      obtain ⟨z, hz1, rfl⟩ := hu
      have hj : j < n ∧ j < zs.length := by
        rcases Nat.lt_or_ge j (zs.take n).length with h | h
        · simp at h; omega
        · rw [List.getElem?_eq_none h] at hz1; cases hz1
      have hzz : zs[j]? = some z := by rw [List.getElem?_take, if_pos hj.1] at hz1; exact hz1
      have hcj := hcell j hj.2
      rw [add_mk] at hcj
      rw [hcj]
      have hg : zs.getD j 0 = z := by simp [List.getD, hzz]
      rw [hg]
      rfl

theorem openI {A : Option Addr} {n c : Nat} {d : DataW H} {p : List MemPlace} (h : DataW.Trod enc Tryz.prog w 0 (fun _ => true) true 23 (.slice A n c) d p) : ∃ l, ArgI w A n c l := by
  obtain ⟨fuel, hf⟩ := h
  obtain ⟨A', n', c', l, e, ha⟩ := trodI hf
  simp [Value.cells] at e
  obtain ⟨rfl, rfl, rfl⟩ := e
  exact ⟨l, ha⟩

end

theorem i64_info : (Tryz.prog.info? 3).map (fun i => (i.zero, i.size, i.bytes)) = some (some (.int .i64 0), 1, 8) := by kernel_rfl

theorem cis_one (l : List Int) : ∀ u ∈ cis l, u.oneCell' = true := by
  intro u hu; simp [cis] at hu; obtain ⟨x, _, rfl⟩ := hu; rfl

/-- A new slice that shows 'l', in a row made since the world 'w'. -/
def NewI (w : World) (l : List Int) (v : Value) (w' : World) : Prop := w'.ownsRow w.heap.size 3 1 v l.length (cis l) ∧ Below w.heap.size w w'

set_option maxRecDepth 100000 in
theorem run_copyI (w : World) (A : Option Addr) (n c : Nat) (l : List Int) (h : ArgI w A n c l) (hn : n ≤ 17592186043904) (ty : TypeId) :
    ∃ v' w', (Builtin.append_ #[23, 23] ty #[.slice none 0 0, .slice A n c]).run Tryz.prog w = .ok v' w' ∧ NewI w l v' w' := by
  obtain ⟨h1, h2, h3, h4, _⟩ := h
  subst h1
  obtain ⟨i0, hi, hz0, hz1, hz2⟩ := info_parts i64_info
  cases A with
  | none =>
    have hl : l = [] := by
      cases l with
      | nil => rfl
      | cons x t => obtain ⟨b, off, e, _⟩ := h4.at_ (i := 0) (by simp); cases e
    subst hl
    refine ⟨.slice none 0 0, w, ?_, World.ownsRow_nil _ _ _ _, Below.refl _ _⟩
    simp [Builtin.append_, run_underlying Tryz.underlying23, sizeOf, typeInfo, hi, Builtin.lenOf, Builtin.firstCells]
  | some ad =>
    have hcells : ∀ j u, (cis l)[j]? = some u → w.cell? (ad.add j) = some u := by
      intro j u hu
      have hj : j < l.length := by
        rcases Nat.lt_or_ge j l.length with h | h
        · exact h
        · rw [List.getElem?_eq_none (by rw [cis_length]; exact h)] at hu; cases hu
      obtain ⟨b, off, e, _, hc⟩ := h4.2 (by omega)
      injection e with e
      subst e
      rw [add_mk]
      exact hc j u hu
    obtain ⟨v', w', q1, q2, q3, _, q5⟩ := run_append_own_at (P := Tryz.prog) w w.heap.size 23 ty 3 i0 (.int .i64 0) 1 8 Tryz.underlying23 hi hz0 hz1 hz2 rfl (by decide) (.slice none 0 0) 0 [] (World.ownsRow_nil _ _ _ _) ad l.length c (cis l)
      (by rw [cis_length]; simp) hcells (cis_one l) (by simp only [maxLen]; omega) (by omega) (Nat.le_refl _)
    exact ⟨v', w', q1, by simpa using q2, (Below.refl _ _).grown q3 (Nat.le_refl _) (by simp [Value.ownBlock])⟩

theorem wp_copyI {w : World} {ops : Array Oper} {rest : List Oper} {o : Oper} {a : Act} {Q : Exit → Act → World → Prop} (hgd : o.guard = none) (s x : Operand)
    (ho : o.op = .call { callee := .builtin .append, args := #[s, x], argTypes := #[23, 23] }) (A : Option Addr) (n c : Nat) (l : List Int) (hs : a.eval s = .slice none 0 0) (hx : a.eval x = .slice A n c) (hA : ArgI w A n c l) (hn : n ≤ 17592186043904)
    (h : ∀ v' w', NewI w l v' w' → wpList Tryz.prog ops Q rest (a.put o.dst v') w') : wpList Tryz.prog ops Q (o :: rest) a w := by
  obtain ⟨v', w', hrun, h2⟩ := run_copyI w A n c l hA hn o.type
  refine wpList_plain hgd fun K hK => ?_
  unfold Oper.wp execOp
  simp only [ho, resolve, invoke, builtin, Sem.run_bind, Sem.run_pure, Result.andThen_ok, List.map_toArray, List.map_cons, List.map_nil, hs, hx, hrun]
  exact hK _ _ (h v' w' h2)

theorem copyInts_any (A : Option Addr) (n c : Nat) (l : List Int) (w : World) (h : ArgI w A n c l) (hn : n ≤ 17592186043904) : Calls Tryz.prog 42 #[.slice A n c] w fun e w' => ∃ v, e = .returned v ∧ NewI w l v w' := by
  have H := Lib.hid h
  clear h
  go_enter Tryz.func42, Tryz.ntmps42
  go_wp2_with (at_builtin; refine wp_copyI rfl _ _ rfl A n c l rfl rfl H.out hn ?_; intro v1 w1 hN)
  go_ret
  exact ⟨v1, rfl, hN⟩

set_option maxRecDepth 100000 in
set_option maxHeartbeats 800000 in
/-- Alike: EqInts of two slices that show one list. -/
theorem eqInts_same (A A' : Option Addr) (n c c' : Nat) (l : List Int) (w : World) (h : ArgI w A n c l) (h' : ArgI w A' n c' l) : Calls Tryz.prog 60 #[.slice A n c, .slice A' n c'] w fun e w' => e = .returned (.bool true) ∧ Below w.heap.size w w' := by
  have hcm := h.2.2.1
  unfold maxLen at hcm
  have hnc := h.2.1
  have hcm' := h'.2.2.1
  unfold maxLen at hcm'
  have hnc' := h'.2.1
  have hn63 : n ≤ 9223372036854775807 := by omega
  have H := Lib.hid (And.intro h h')
  clear h h'
  go_enter Tryz.func60, Tryz.ntmps60
  go_wp2
  go_loopw [5] (fun v wr => ∃ j : Nat, j ≤ n ∧ v = .int .i64 j ∧ Below w.heap.size w wr) (fun v _ => n - (intOf v).toNat)
  case atStart => exact ⟨0, Nat.zero_le _, rfl, Below.refl _ _⟩
  case round =>
    obtain ⟨j, hj, rfl, hb⟩ := hrel
    have hi0 : (0 : Int) ≤ j := by omega
    by_cases hlt : j < n
    · have hi1 : (j : Int) < n := by omega
      have hjl : j < l.length := by rw [H.out.1.1]; exact hlt
      obtain ⟨b1, o1, rfl, l1, q1⟩ := H.out.1.2.2.2.1.at_ hjl
      obtain ⟨b2, o2, rfl, l2, q2⟩ := H.out.2.2.2.2.1.at_ hjl
      have c1 : wr.cell? ⟨b1, o1 + j, none⟩ = some (.int .i64 l[j]) := (hb.cell (p := ⟨b1, o1 + j, none⟩) l1).trans (q1 j hjl)
      have c2 : wr.cell? ⟨b2, o2 + j, none⟩ = some (.int .i64 l[j]) := (hb.cell (p := ⟨b2, o2 + j, none⟩) l2).trans (q2 j hjl)
      have c1d : wr.drew.cell? ⟨b1, o1 + j, none⟩ = some (.int .i64 l[j]) := c1
      have c2d : wr.drew.cell? ⟨b2, o2 + j, none⟩ = some (.int .i64 l[j]) := c2
      generalize l[j] = x at *
      have Hb := Lib.hid hb
      clear hb q1 q2 hjl
      go_wp2
      go_quiet (fail)
      go_wp2
      go_roundw
      case rel => exact ⟨j + 1, by omega, by go_num, below_drewN Hb.out _⟩
      case measure => simp [intOf]; omega
    · have hi1 : ¬ (j : Int) < n := by omega
      have Hb := Lib.hid hb
      clear hb
      go_wp2
      go_ret
      exact ⟨rfl, Hb.out⟩

set_option maxRecDepth 100000 in
set_option maxHeartbeats 800000 in
/-- EqInts of two slices: whether they show the same list. -/
theorem eqInts_any (A A' : Option Addr) (n n' c c' : Nat) (l l' : List Int) (w : World) (h : ArgI w A n c l) (h' : ArgI w A' n' c' l') : Calls Tryz.prog 60 #[.slice A n c, .slice A' n' c'] w fun e w' => e = .returned (.bool (decide (l = l'))) ∧ Below w.heap.size w w' := by
  by_cases hnn : n = n'
  · subst hnn
    have hcm := h.2.2.1
    unfold maxLen at hcm
    have hnc := h.2.1
    have hcm' := h'.2.2.1
    unfold maxLen at hcm'
    have hnc' := h'.2.1
    have hl1 := h.1
    have hl2 := h'.1
    have hn63 : n ≤ 9223372036854775807 := by omega
    have H := Lib.hid (And.intro h h')
    clear h h'
    obtain ⟨r, hr⟩ : ∃ r, decide (l = l') = r := ⟨_, rfl⟩
    rw [hr]
    have Hr := Lib.hid hr
    clear hr
    go_enter Tryz.func60, Tryz.ntmps60
    go_wp2
    go_loopw [5] (fun v wr => ∃ j : Nat, j ≤ n ∧ v = .int .i64 j ∧ l.take j = l'.take j ∧ Below w.heap.size w wr) (fun v _ => n - (intOf v).toNat)
    case atStart => exact ⟨0, Nat.zero_le _, rfl, rfl, Below.refl _ _⟩
    case round =>
      obtain ⟨j, hj, rfl, heq, hb⟩ := hrel
      have hi0 : (0 : Int) ≤ j := by omega
      by_cases hlt : j < n
      · have hi1 : (j : Int) < n := by omega
        have hjl : j < l.length := by omega
        have hjl' : j < l'.length := by omega
        obtain ⟨b1, o1, rfl, l1, q1⟩ := H.out.1.2.2.2.1.at_ hjl
        obtain ⟨b2, o2, rfl, l2, q2⟩ := H.out.2.2.2.2.1.at_ hjl'
        have c1 : wr.cell? ⟨b1, o1 + j, none⟩ = some (.int .i64 l[j]) := (hb.cell (p := ⟨b1, o1 + j, none⟩) l1).trans (q1 j hjl)
        have c2 : wr.cell? ⟨b2, o2 + j, none⟩ = some (.int .i64 l'[j]) := (hb.cell (p := ⟨b2, o2 + j, none⟩) l2).trans (q2 j hjl')
        have c1d : wr.drew.cell? ⟨b1, o1 + j, none⟩ = some (.int .i64 l[j]) := c1
        have c2d : wr.drew.cell? ⟨b2, o2 + j, none⟩ = some (.int .i64 l'[j]) := c2
        have hs1 := List.take_succ_eq_append_getElem hjl
        have hs2 := List.take_succ_eq_append_getElem hjl'
        have hno : l[j] ≠ l'[j] → r = false := fun hne => by
          rw [← Hr.out, decide_eq_false_iff_not]
          rintro rfl; exact hne rfl
        have Hs := Lib.hid (And.intro hs1 (And.intro hs2 (And.intro hno heq)))
        clear hs1 hs2 hno heq q1 q2
        generalize l[j] = x at *
        generalize l'[j] = y at *
        clear hjl hjl'
        have Hb := Lib.hid hb
        clear hb
        by_cases hxy : x = y
        · subst hxy
          have hne : (x != x) = false := by simp
          go_wp2
          go_quiet (fail)
          go_wp2
          go_roundw
          case rel => exact ⟨j + 1, by omega, by go_num, by rw [Hs.out.1, Hs.out.2.1, Hs.out.2.2.2], below_drewN Hb.out _⟩
          case measure => simp [intOf]; omega
        · have hne : (x != y) = true := by simp [hxy]
          have hrf := Hs.out.2.2.1 hxy
          subst hrf
          have Hxy := Lib.hid hxy
          clear hxy
          go_wp2
          go_quiet (fail)
          go_wp2
          go_ret
          exact ⟨rfl, below_drewN Hb.out _⟩
      · have hi1 : ¬ (j : Int) < n := by omega
        have hjn : j = n := by omega
        rw [List.take_of_length_le (by omega), List.take_of_length_le (by omega)] at heq
        have hrt : r = true := by rw [← Hr.out, heq]; simp
        subst hrt
        have Hb := Lib.hid hb
        clear hb heq
        go_wp2
        go_ret
        exact ⟨rfl, Hb.out⟩
  · have hl1 := h.1
    have hl2 := h'.1
    have hne : ((n : Int) != (n' : Int)) = true := by simp; omega
    have e : decide (l = l') = false := by
      rw [decide_eq_false_iff_not]
      rintro rfl; omega
    rw [e]
    clear e
    have H := Lib.hid (And.intro h h')
    clear h h'
    go_enter Tryz.func60, Tryz.ntmps60
    go_wp2
    go_ret
    exact ⟨rfl, Below.refl _ _⟩

end Go.Proofs.YtihmddpafbackaaGreat

namespace Go.Proofs.YtihmddpafbackaaGreat

open Go.RowKit

set_option linter.unusedVariables false

def SomeNat (n : Int) (w : World) (e : Ending) (w' : World) : Prop := ∃ r : Nat, (r : Int) < n ∧ e = .returned (.int .i64 (r : Int)) ∧ w = w'

theorem SomeNat.mk {n : Int} {w w' : World} {x : Int} (h0 : 0 ≤ x) (h : x < n) (hw : w = w') : SomeNat n w (.returned (.int .i64 x)) w' :=
  ⟨x.toNat, by omega, by rw [Int.toNat_of_nonneg h0], hw⟩

end Go.Proofs.YtihmddpafbackaaGreat

namespace Go.Proofs.YtihmddpafbackaaGreat

open Go.RowKit

set_option linter.unusedVariables false

/-- A wish whose lists are shown by two slices. -/
def ArgW (w : World) (x : Wl) (D : Option Addr) (nd cd : Nat) (N : Option Addr) (nn cn : Nat) : Prop :=
  (x.da.length = nd ∧ nd ≤ cd ∧ cd ≤ maxLen ∧ Bs w D x.da ∧ nd ≤ 140737488351232) ∧ (ArgI w N nn cn x.nx ∧ nn ≤ 17592186043904) ∧ Wf x.cl ∧ Wf x.sp ∧ Wf x.gr ∧ Wf x.ep ∧ Wf x.kd ∧ Wf x.bl ∧ Wf x.od ∧ Wf x.nw

theorem ArgW.after {w w' : World} {x : Wl} {D : Option Addr} {nd cd : Nat} {N : Option Addr} {nn cn : Nat} (h : ArgW w x D nd cd N nn cn) (hb : Below w.heap.size w w') : ArgW w' x D nd cd N nn cn :=
  ⟨⟨h.1.1, h.1.2.1, h.1.2.2.1, h.1.2.2.2.1.after hb, h.1.2.2.2.2⟩, ⟨h.2.1.1.after hb, h.2.1.2⟩, h.2.2⟩

/-- A wish in a box made since the world 'w'. -/
structure Wx (w W : World) (x : Wl) (D : Option Addr) (nd cd : Nat) (N : Option Addr) (nn cn : Nat) : Prop where
  blk : Blk W w.heap.size 25 [.int .i64 x.cl, .int .i64 x.sp, .int .i64 x.gr, .int .i64 x.ep, .int .i64 x.kd, .int .i64 x.bl, .slice D nd cd, .int .i64 x.od, .int .i64 x.nw, .slice N nn cn]
  bel : Below w.heap.size w W

section

variable {w W W' : World} {x : Wl} {D : Option Addr} {nd cd : Nat} {N : Option Addr} {nn cn : Nat}

theorem Wx.new : Wx w (w.alloc (.cells #[.int .i64 x.cl, .int .i64 x.sp, .int .i64 x.gr, .int .i64 x.ep, .int .i64 x.kd, .int .i64 x.bl, .slice D nd cd, .int .i64 x.od, .int .i64 x.nw, .slice N nn cn] 25)) x D nd cd N nn cn :=
  ⟨Blk.new rfl rfl, (Below.refl _ _).alloc (Nat.le_refl _) _⟩

theorem Wx.on (h : Wx w W x D nd cd N nn cn) (hb : Below W.heap.size W W') : Wx w W' x D nd cd N nn cn := ⟨h.blk.below hb h.blk.lt, h.bel.trans (hb.mono h.bel.size)⟩

theorem Wx.ks (h : Wx w W x D nd cd N nn cn) : (W.cell? ⟨w.heap.size, 0, none⟩ = some (.int .i64 x.cl) ∧ W.cell? ⟨w.heap.size, 1, none⟩ = some (.int .i64 x.sp) ∧ W.cell? ⟨w.heap.size, 2, none⟩ = some (.int .i64 x.gr) ∧ W.cell? ⟨w.heap.size, 3, none⟩ = some (.int .i64 x.ep) ∧ W.cell? ⟨w.heap.size, 4, none⟩ = some (.int .i64 x.kd)) ∧
    W.cell? ⟨w.heap.size, 5, none⟩ = some (.int .i64 x.bl) ∧ W.cell? ⟨w.heap.size, 6, none⟩ = some (.slice D nd cd) ∧ W.cell? ⟨w.heap.size, 7, none⟩ = some (.int .i64 x.od) ∧ W.cell? ⟨w.heap.size, 8, none⟩ = some (.int .i64 x.nw) ∧ W.cell? ⟨w.heap.size, 9, none⟩ = some (.slice N nn cn) :=
  ⟨⟨h.blk.cell rfl, h.blk.cell rfl, h.blk.cell rfl, h.blk.cell rfl, h.blk.cell rfl⟩, h.blk.cell rfl, h.blk.cell rfl, h.blk.cell rfl, h.blk.cell rfl, h.blk.cell rfl⟩

end

end Go.Proofs.YtihmddpafbackaaGreat

namespace Go.Proofs.YtihmddpafbackaaGreat

open Go.RowKit

set_option linter.unusedVariables false

theorem built1 (w : World) (e : TypeId) (x : UInt8) (u : Value) (hu : u = cb x) : Mine (w.alloc (.cells #[u] e)) w.heap.size e (.slice (some ⟨w.heap.size, 0, none⟩) 1 1) [x] := by
  subst hu
  refine ⟨rfl, .inr ⟨w.heap.size, 1, #[cb x], rfl, Nat.le_refl _, heap_alloc_new w _, Nat.le_refl _, by simp [maxLen], rfl, rfl⟩⟩

theorem Mine.base {w : World} {b b' : Nat} {e : TypeId} {v : Value} {l : List UInt8} (h : Mine w b e v l) (hb : b' ≤ b) : Mine w b' e v l := by
  obtain ⟨h1, h2 | ⟨g, cap, cur, h3, h4, h5⟩⟩ := h
  · exact ⟨h1, .inl h2⟩
  · exact ⟨h1, .inr ⟨g, cap, cur, h3, Nat.le_trans hb h4, h5⟩⟩

theorem byte_mod (m : Nat) : Value.int .u8 ((m : Int) % 256) = cb (UInt8.ofNat (m % 256)) := by
  unfold cb
  congr 1
  rw [UInt8.toNat_ofNat', Nat.mod_eq_of_lt (by omega)]
  simp

set_option maxHeartbeats 800000 in
theorem digits_any (n : Nat) (w : World) (h : n ≤ 9007199254740991) :
    Calls Tryz.prog 97 #[.int .i64 n] w (RetB w (dgs n)) := by
  go_enter Tryz.func97, Tryz.ntmps97
  go_wp2
  go_loopw [0, 3] (fun i v wr => ∃ m : Nat, m ≤ n ∧ i = .int .i64 m ∧ ∃ l, Mine wr w.heap.size 5 v l ∧ dgs n = dgs m ++ l ∧ Below w.heap.size w wr) (fun i _ _ => (intOf i).toNat)
  case atStart => exact ⟨n, Nat.le_refl _, rfl, [], World.ownsRow_nil _ _ _ _, by simp, Below.refl _ _⟩
  case round =>
    obtain ⟨m, hm, rfl, l, hown, hd, hnx⟩ := hrel
    have hl : l.length ≤ 7 := by
      have := dgs_len7 h; rw [hd] at this; simp at this; omega
    have Hd := Lib.hid hd
    clear hd
    by_cases h0 : m = 0
    · have Hd2 : Hid (dgs n = l) := by show _ = _; have := Hd.out; rw [h0, dgs_zero] at this; simpa using this
      have hm0 : m ≤ 0 := by omega
      clear h0
      go_wp2
      go_ret
      exact ⟨_, rfl, by rw [Hd2.out]; exact hown, hnx⟩
    · have hm0 : 0 < m := by omega
      have Hd2 : Hid (dgs n = dgs (m / 256) ++ (UInt8.ofNat (m % 256) :: l)) := by show _ = _; have := Hd.out; rw [dgs_pos hm0] at this; simpa using this
      obtain ⟨A1, c1, rfl, hl1, hc1, hB1⟩ := Mine.form hown
      clear h0 Hd
      have hb := byte_mod m
      have Hb := Lib.hid hb
      clear hb
      go_wp2_with (at_builtin; refine wp_appendB rfl _ _ rfl wr.heap.size (.slice (some ⟨wr.heap.size, 0, none⟩) 1 1) [UInt8.ofNat (m % 256)] rfl (by exact built1 _ _ _ _ Hb.out) A1 c1 _ l rfl (by exact hB1.on ((Below.refl _ _).alloc (Nat.le_refl _) _)) rfl (by simp; omega) (by simp) ?_; intro v2 w2 hm2 hg2 ho2)
      go_roundw
      case rel =>
        refine ⟨m / 256, by omega, by go_num, _, Mine.base hm2 hnx.size, Hd2.out, (hnx.alloc hnx.size _).grown hg2 (by simp; have := hnx.size; omega) ?_⟩
        intro j hj
        simp [Value.ownBlock] at hj
        have := hnx.size
        omega
      case measure => simp [intOf]; omega

theorem byte_len (k : Nat) (h : k ≤ 7) : Value.int .u8 (k : Int) = cb (UInt8.ofNat k) := by
  unfold cb
  congr 1
  rw [UInt8.toNat_ofNat', Nat.mod_eq_of_lt (by omega)]

set_option maxHeartbeats 400000 in
theorem refNum_any (n : Int) (w : World) : Calls Tryz.prog 81 #[.int .i64 n] w (RetBE w (nm n)) := by
  by_cases h0 : n < 0
  · have hr : Hid (nm n = ([], 9)) := by show _ = _; simp [nm, h0]
    generalize nm n = r at *
    go_enter Tryz.func81, Tryz.ntmps81
    go_wp2
    go_ret2
    exact ⟨_, by rw [hr.out]; rfl, by rw [hr.out]; exact NewB.nil _⟩
  · by_cases h1 : 9007199254740991 < n
    · have hr : Hid (nm n = ([], 9)) := by show _ = _; simp [nm, h1]
      generalize nm n = r at *
      go_enter Tryz.func81, Tryz.ntmps81
      go_wp2
      go_ret2
      exact ⟨_, by rw [hr.out]; rfl, by rw [hr.out]; exact NewB.nil _⟩
    · obtain ⟨k, rfl⟩ := Int.eq_ofNat_of_zero_le (a := n) (by omega)
      have hr : Hid (nm k = (numB k, 0)) := by show _ = _; simp [nm, h1]
      have hnb : Hid (numB k = UInt8.ofNat (dgs k).length :: dgs k) := rfl
      have h7 := dgs_len7 (n := k) (by omega)
      generalize nm k = r at *
      have hd := digits_any k w (by omega)
      generalize numB k = y at *
      generalize dgs k = d at *
      have Hdg := Lib.hid hd
      clear hd
      go_enter Tryz.func81, Tryz.ntmps81
      go_wp2_with fail
      refine Hdg.out.mono ?_
      rintro e w1 ⟨v, rfl, hnew⟩
      obtain ⟨A1, c1, rfl, hl1, hc1, hB1⟩ := hnew.form
      have hb := byte_len d.length h7
      have Hb := Lib.hid hb
      clear hb
      have h7i : (d.length : Int) ≤ 7 := by omega
      go_wp2_with (at_builtin; refine wp_appendB rfl _ _ rfl w1.heap.size (.slice (some ⟨w1.heap.size, 0, none⟩) 1 1) [UInt8.ofNat d.length] rfl (by exact built1 _ _ _ _ Hb.out) A1 c1 _ d rfl (by exact hB1.on ((Below.refl _ _).alloc (Nat.le_refl _) _)) rfl (by simp; omega) (by simp) ?_; intro v2 w2 hm2 hg2 ho2)
      go_ret2
      refine ⟨_, by rw [hr.out]; rfl, ?_⟩
      rw [hr.out]
      show NewB w y v2 w2
      rw [hnb.out]
      refine ⟨Mine.base hm2 hnew.2.size, (hnew.2.alloc hnew.2.size _).grown hg2 (by simp; have := hnew.2.size; omega) ?_⟩
      intro j hj
      simp [Value.ownBlock] at hj
      have := hnew.2.size
      omega

set_option maxHeartbeats 800000 in
theorem refStr_any (A : Option Addr) (c n : Nat) (xs : List UInt8) (w : World) (hA : Bs w A xs) (hn : xs.length = n) (hl : n ≤ maxLen) :
    Calls Tryz.prog 82 #[.slice A n c] w (RetBE w (st xs)) := by
  have Hn := Lib.hid hn
  unfold maxLen at hl
  by_cases h : 65536 < n
  · have hr : Hid (st xs = ([], 5)) := by show _ = _; simp [st, hn, h]
    have h' : (65536 : Int) < n := by omega
    clear hn
    generalize st xs = r at *
    go_enter Tryz.func82, Tryz.ntmps82
    go_wp2
    go_ret2
    exact ⟨_, by rw [hr.out]; rfl, by rw [hr.out]; exact NewB.nil _⟩
  · have hr : Hid (st xs = (numB n ++ xs, 0)) := by show _ = _; simp [st, hn, h]
    have h' : ¬ (65536 : Int) < n := by omega
    clear hn
    generalize st xs = r at *
    have hnm : nm n = (numB n, 0) := by simp [nm]; omega
    have hN := refNum_any n w
    rw [hnm] at hN
    have hk : (numB n).length ≤ 8 := by have := dgs_len7 (n := n) (by omega); simp [numB]; omega
    clear hnm
    generalize numB n = y at *
    have HN := Lib.hid hN
    clear hN
    go_enter Tryz.func82, Tryz.ntmps82
    go_wp2_with fail
    refine HN.out.mono ?_
    rintro e w1 ⟨v, rfl, hnew⟩
    have hm0 : Mine w1 w.heap.size 5 v y := hnew.1
    have hln : y.length + n ≤ 140737488355328 := by omega
    have hB2 := hA.on hnew.2
    go_wp2_with (at_builtin; go_loud (refine wp_appendB rfl _ _ rfl w.heap.size _ _ rfl hm0 A c n xs rfl hB2 Hn.out hln hnew.2.size ?_); intro v2 w2 hm2 hg2 ho2)
    go_ret2
    refine ⟨_, by rw [hr.out]; rfl, ?_⟩
    rw [hr.out]
    refine ⟨hm2, hnew.2.grown hg2 hnew.2.size ?_⟩
    intro j hj
    exact (World.ownsRow.lt hm0 j hj).1

end Go.Proofs.YtihmddpafbackaaGreat

namespace Go.Proofs.YtihmddpafbackaaGreat

open Go.RowKit

set_option linter.unusedVariables false

theorem tk_of {l : List UInt8} {x u : Nat} (h : nu l = (x, u, 0)) : tk l = (x, l.drop u, 0) := by simp [tk, h]

theorem tk_err {l : List UInt8} {x u e : Nat} (h : nu l = (x, u, e)) (he : e ≠ 0) : tk l = (0, [], e) := by simp [tk, h, he]

theorem retTN_nil {w w' : World} (h : w = w') {k : Nat} {i : Int} (hi : i = k) : RetTN w (0, [], k) (.returned (.tuple #[.int .i64 0, .slice none 0 0, .int .i64 i])) w' := by
  subst h hi; exact ⟨_, rfl, NewB.nil w⟩

end Go.Proofs.YtihmddpafbackaaGreat

namespace Go.Proofs.YtihmddpafbackaaGreat

open Go.RowKit

set_option linter.unusedVariables false

end Go.Proofs.YtihmddpafbackaaGreat
