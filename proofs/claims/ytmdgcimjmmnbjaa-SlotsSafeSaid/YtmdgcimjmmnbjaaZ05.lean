/-
  Laid together for a hand-in: Crew0, Shelf8, Find8, Shelf8c, Oth8, Crew1.
-/
import Derived.Test.YtmdgcimjmmnbjaaZ01
import Derived.Test.YtmdgcimjmmnbjaaZ04
import Derived.Test.YtmdgcimjmmnbjaaProg
import Derived.Test.YtmdgcimjmmnbjaaZ02
import Derived.Deep.QuietTactic
import Derived.Shelf.SlSorted.Search
import Derived.Ground.SlsoProg
import Derived.Shelf.Slices.Clone
import Derived.Lib.AppendZerosOnto
import Derived.Lib.AppendZeros
import Derived.Deep.RegionWith

namespace Go.Proofs.Ytmdgcimjmmnbjaa

open Go.RowKit CrewP

set_option linter.unusedVariables false

theorem isNode_any (n : Int) (w : World) : Calls Try.prog 68 #[.int .i64 n] w fun e w' => e = .returned (.bool (isN n)) ∧ w' = w := by
  by_cases h1 : (1 : Int) ≤ n
  · by_cases h2 : n ≤ 28
    · have e : isN n = true := by simp [isN, h1, h2]
      rw [e]; clear e
      go_enter Try.func68, Try.ntmps68
      go_wp2
      go_ret
      exact ⟨rfl, rfl⟩
    · have e : isN n = false := by simp [isN, h1, h2]
      rw [e]; clear e
      go_enter Try.func68, Try.ntmps68
      go_wp2
      go_ret
      exact ⟨rfl, rfl⟩
  · have e : isN n = false := by simp [isN, h1]
    rw [e]; clear e
    go_enter Try.func68, Try.ntmps68
    go_wp2
    go_ret
    exact ⟨rfl, rfl⟩

theorem isSize_any (f n : Int) (w : World) : Calls Try.prog 59 #[.int .i64 f, .int .i64 n] w fun e w' => e = .returned (.bool (sizeOk f n)) ∧ w' = w := by
  by_cases h1 : (0 : Int) ≤ f
  · by_cases h2 : f ≤ 2
    · have hm : IntKind.i64.wrap (3 * f) = 3 * f := IntWalk.i64_in _ (by omega)
      have ha : IntKind.i64.wrap (3 * f + 1) = 3 * f + 1 := IntWalk.i64_in _ (by omega)
      by_cases h3 : n = 3 * f + 1
      · have e : sizeOk f n = true := by simp [sizeOk, h1, h2, h3]
        have hq : (n == 3 * f + 1) = true := by simp [h3]
        rw [e]; clear e
        go_enter Try.func59, Try.ntmps59
        go_wp2
        go_ret
        exact ⟨rfl, rfl⟩
      · have e : sizeOk f n = false := by simp [sizeOk, h1, h2, h3]
        have hq : (n == 3 * f + 1) = false := by simp [h3]
        rw [e]; clear e
        go_enter Try.func59, Try.ntmps59
        go_wp2
        go_ret
        exact ⟨rfl, rfl⟩
    · have e : sizeOk f n = false := by simp [sizeOk, h1, h2]
      rw [e]; clear e
      go_enter Try.func59, Try.ntmps59
      go_wp2
      go_ret
      exact ⟨rfl, rfl⟩
  · have e : sizeOk f n = false := by simp [sizeOk, h1]
    rw [e]; clear e
    go_enter Try.func59, Try.ntmps59
    go_wp2
    go_ret
    exact ⟨rfl, rfl⟩

theorem last_snoc (l : List Int) (x a : Int) : (l ++ [x]).getLastD a = x := by rw [List.getLastD_eq_getLast?]; simp

theorem rise_cut (l : List Int) (a : Int) {j : Nat} (hj : j < l.length) (h : (isN l[j] && decide ((l.take j).getLastD a < l[j])) = false) : rise a l = false := by
  cases hr : rise a l with
  | false => rfl
  | true =>
    exfalso
    have e : l.take (j + 1) = l.take j ++ [l[j]] := by rw [List.take_succ_eq_append_getElem hj]
    rw [rise_iff] at hr
    have h2 : rise a (l.take (j + 1)) = true := (rise_iff _ _).2 ⟨fun x hx => hr.1 x (List.mem_of_mem_take hx), hr.2.sublist (List.take_sublist ..)⟩
    rw [e, rise_snoc, h, Bool.and_false] at h2
    cases h2

set_option maxRecDepth 100000 in
theorem areRising_any (A : Option Addr) (n c : Nat) (l : List Int) (w : World) (h : ArgI w A n c l) : Calls Try.prog 60 #[.slice A n c] w fun e w' => e = .returned (.bool (rise 0 l)) ∧ w' = w := by
  have hcm := h.2.2.1
  unfold maxLen at hcm
  have hnc := h.2.1
  have hln := h.1
  have H := Lib.hid h
  clear h
  obtain ⟨r, hr0⟩ : ∃ r, rise 0 l = r := ⟨_, rfl⟩
  rw [hr0]
  have Hr := Lib.hid hr0
  clear hr0
  go_enter Try.func60, Try.ntmps60
  go_wp2
  go_loopw [3, 8] (fun v3 v8 wr => ∃ j : Nat, j ≤ n ∧ v8 = .int .i64 j ∧ v3 = .int .i64 ((l.take j).getLastD 0) ∧ rise 0 (l.take j) = true ∧ wr = w) (fun _ v _ => n - (intOf v).toNat)
  case atStart => exact ⟨0, Nat.zero_le _, rfl, rfl, rfl, rfl⟩
  case round =>
    obtain ⟨j, hj, rfl, rfl, hr, rfl⟩ := hrel
    have hi0 : (0 : Int) ≤ j := by omega
    by_cases hlt : j < n
    · have hi1 : (j : Int) < n := by omega
      have hjl : j < l.length := by omega
      obtain ⟨b1, o1, rfl, l1, q1⟩ := H.out.2.2.2.1.at_ hjl
      have c1 := q1 j hjl
      have hcut := rise_cut l 0 hjl
      have hsn := rise_snoc 0 (l.take j) l[j]
      have hlast : (l.take (j + 1)).getLastD 0 = l[j] := by rw [List.take_succ_eq_append_getElem hjl, last_snoc]
      rw [← List.take_succ_eq_append_getElem hjl, hr, Bool.true_and] at hsn
      have Hl := Lib.hid (And.intro hcut (And.intro hsn hlast))
      clear hcut hsn hlast q1 hr
      generalize (l.take j).getLastD 0 = y at *
      generalize l[j] = x at *
      clear hjl
      have HN := Lib.hid (isNode_any x wr)
      obtain ⟨z, hz⟩ : ∃ z, isN x = z := ⟨_, rfl⟩
      rw [hz] at HN Hl
      clear hz
      cases z with
      | false =>
        have hrf : r = false := by rw [← Hr.out]; exact Hl.out.1 (by simp)
        subst hrf
        clear Hl
        go_wp2_with (go_at_call 68; refine HN.out.mono ?_; rintro e w' ⟨rfl, rfl⟩)
        go_ret
        exact ⟨rfl, rfl⟩
      | true =>
        by_cases hyx : y < x
        · have hyx' : ¬ x ≤ y := by omega
          go_wp2_with (go_at_call 68; refine HN.out.mono ?_; rintro e w' ⟨rfl, rfl⟩)
          exact ⟨⟨j + 1, by omega, by go_num, by rw [Hl.out.2.2], by rw [Hl.out.2.1]; simp [hyx], trivial⟩, by simp [intOf]; omega⟩
        · have hyx' : x ≤ y := by omega
          have hrf : r = false := by rw [← Hr.out]; exact Hl.out.1 (by simp [hyx])
          subst hrf
          clear Hl
          go_wp2_with (go_at_call 68; refine HN.out.mono ?_; rintro e w' ⟨rfl, rfl⟩)
          go_ret
          exact ⟨rfl, rfl⟩
    · have hi1 : ¬ (j : Int) < n := by omega
      rw [List.take_of_length_le (by omega)] at hr
      have hrf : r = true := by rw [← Hr.out, hr]
      subst hrf
      clear hr
      go_wp2
      go_ret
      exact ⟨rfl, rfl⟩

/-- A crew as a value. -/
def crewV (f : Int) (A : Option Addr) (n c : Nat) : Value := .agg #[.int .i64 f, .slice A n c]

/-- What Check answers. -/
def chkE (f : Int) (l : List Int) : Int := if okC f l then 0 else 110

theorem check_any (f : Int) (A : Option Addr) (n c : Nat) (l : List Int) (w : World) (h : ArgI w A n c l) : Calls Try.prog 53 #[.agg #[.int .i64 f, .slice A n c]] w fun e w' => e = .returned (.int .i64 (chkE f l)) ∧ Below w.heap.size w w' := by
  have hb : Below w.heap.size w (w.alloc (.cells #[.int .i64 f, .slice A n c] 53)) := (Below.refl _ _).alloc (Nat.le_refl _) _
  have hA := areRising_any A n c l _ (h.after hb)
  have hS := isSize_any f n (w.alloc (.cells #[.int .i64 f, .slice A n c] 53))
  have hln := h.1
  have H := Lib.hid (And.intro hA (And.intro hS hb))
  clear hA hS hb h
  obtain ⟨z, hz⟩ : ∃ z, sizeOk f n = z := ⟨_, rfl⟩
  obtain ⟨y, hy⟩ : ∃ y, rise 0 l = y := ⟨_, rfl⟩
  have e : chkE f l = if z && y then 0 else 110 := by unfold chkE okC; rw [hln, hz, hy]
  rw [e]
  rw [hz, hy] at H
  clear hz hy e
  cases z <;> cases y
  all_goals
    go_enter Try.func53, Try.ntmps53
    go_wp2_with (first | (go_at_call 59; refine H.out.2.1.mono ?_; rintro e w' ⟨rfl, rfl⟩) | (go_at_call 60; refine H.out.1.mono ?_; rintro e w' ⟨rfl, rfl⟩))
    go_ret
    exact ⟨rfl, H.out.2.2⟩

end Go.Proofs.Ytmdgcimjmmnbjaa

namespace Go.Proofs
open Go.Shelf
def Try.search_ren : Go.Shelf.Ren := ⟨fun | 16 => 66 | n => n, fun | 3 => 3 | 35 => 31 | 4 => 4 | 38 => 103 | n => n, fun | n => n⟩
theorem Try.search : Go.Proofs.SlLaysO.n16 Try.prog Try.search_ren := {
  mixed := by kernel_rfl
  f16 := Try.func66.trans (congrArg some (by kernel_rfl))
  t3 := Try.underlying3
  a3 := Try.isAgg3
  z3 := Try.sizeOf3
  v3 := Try.zeroValue3
  t4 := Try.underlying4
  a4 := Try.isAgg4
  z4 := Try.sizeOf4
  v4 := Try.zeroValue4
  t35 := Try.underlying31
  a35 := Try.isAgg31
  z35 := Try.sizeOf31
  v35 := Try.zeroValue31
  t38 := Try.underlying103
  a38 := Try.isAgg103
  z38 := Try.sizeOf103
  v38 := Try.zeroValue103 }
end Go.Proofs

namespace Go.Proofs.Ytmdgcimjmmnbjaa

open Go.RowKit Go.Shelf Go.Lib Go.Sort CrewP

set_option linter.unusedVariables false

set_option maxHeartbeats 800000 in
theorem findClo_any (ba bx : Nat) (A : Option Addr) (n c b off i : Nat) (x y : Int) (W : World) (hi : i < n) (hn : n ≤ 9223372036854775807)
    (ha : W.cell? ⟨ba, 0, none⟩ = some (.slice A n c)) (hA : A = some ⟨b, off, none⟩) (hx : W.cell? ⟨bx, 0, none⟩ = some (.int .i64 x)) (hc : W.cell? ⟨b, off + i, none⟩ = some (.int .i64 y)) :
    Calls Try.prog 67 (#[.int .i64 i] ++ #[.pointer (some ⟨ba, 0, none⟩), .pointer (some ⟨bx, 0, none⟩)]) W fun e w' => e = .returned (.bool (decide (x ≤ y))) ∧ ∃ q, w' = W.drewN q := by
  subst hA
  have hi0 : (0 : Int) ≤ i := by omega
  have hiz : (i : Int) < (n : Int) := by omega
  go_enter Try.func67, Try.ntmps67
  go_wp2
  go_region
  all_goals go_wp2
  all_goals go_ret
  all_goals exact ⟨by first | rfl | simp, 1, rfl⟩

theorem at_count (l : List Int) (x : Int) : (List.range l.toArray.size).countP (fun i => !decide (x ≤ l.toArray[i]!)) = at_ l x := by
  rw [Lib.countP_range l.toArray (fun y => !decide (x ≤ y))]
  unfold at_
  refine List.countP_congr fun y _ => ?_
  simp

set_option maxHeartbeats 1600000 in
theorem find_any (A : Option Addr) (n c : Nat) (l : List Int) (x : Int) (w : World) (h : ArgI w A n c l) (hn : n ≤ 1000000) (hs : Asc l) :
    Calls Try.prog 56 #[.slice A n c, .int .i64 x] w fun e w' => e = .returned (.tuple #[.int .i64 (at_ l x : Nat), .bool (decide (x ∈ l))]) ∧ Below w.heap.size w w' := by
  obtain ⟨W0, hW0⟩ : ∃ W0, W0 = (w.alloc (.cells #[.slice A n c] 51)).alloc (.cells #[.int .i64 x] 3) := ⟨_, rfl⟩
  have hsize : W0.heap.size = w.heap.size + 1 + 1 := by rw [hW0]; simp
  have ca : W0.cell? ⟨w.heap.size, 0, none⟩ = some (.slice A n c) := by rw [hW0]; exact cell_alloc_sl _ (cell_new_sl w _ _)
  have cx : W0.cell? ⟨w.heap.size + 1, 0, none⟩ = some (.int .i64 x) := by rw [hW0]; have := cell_new_sl (w.alloc (.cells #[.slice A n c] 51)) (.int .i64 x) 3; rwa [World.size_alloc] at this
  have hB0 : Below w.heap.size w W0 := by rw [hW0]; exact ((Below.refl _ w).alloc (Nat.le_refl _) _).alloc (by simp) _
  have h0 := h.after hB0
  have hln := h.1
  have hlc : ∀ i, (hi : i < l.length) → ∃ b off, A = some ⟨b, off, none⟩ ∧ b < W0.heap.size ∧ W0.cell? ⟨b, off + i, none⟩ = some (.int .i64 l.toArray[i]!) := fun i hi => by
    obtain ⟨b, off, e, hlt, hc⟩ := h0.2.2.2.1.at_ hi
    refine ⟨b, off, e, hlt, ?_⟩
    rw [hc i hi, getElem!_pos l.toArray i (by simpa using hi)]
    simp
  have eg : ∀ args w, (callFunc 67 args).run Try.prog w = .ok (.enter 67 args) w := enters_of Try.func67 (by kernel_rfl) rfl
  have hS := Any.sort_Search Try.search 67 #[.pointer (some ⟨w.heap.size, 0, none⟩), .pointer (some ⟨w.heap.size + 1, 0, none⟩)] l.toArray.size (fun i => decide (x ≤ l.toArray[i]!)) W0 eg (by simp; omega)
    (fun m os i hi => by
      obtain ⟨b, off, e, hlt, hc⟩ := hlc i (by simpa using hi)
      exact (findClo_any w.heap.size (w.heap.size + 1) A n c b off i x _ _ (by simp at hi; omega) (by omega) (cell_grown (by show w.heap.size < W0.heap.size; omega) ca m os) e (cell_grown (by show w.heap.size + 1 < W0.heap.size; omega) cx m os) (cell_grown hlt hc m os)).mono
        fun _ _ ⟨he, q, hq⟩ => ⟨he, q, #[], by rw [hq, grow_empty]⟩)
    (fun a b hab hb hp => by
      simp only [decide_eq_true_eq] at hp ⊢
      simp at hb
      rw [getElem!_pos l.toArray a (by simp; omega)] at hp
      rw [getElem!_pos l.toArray b (by simpa using hb)]
      simp only [List.getElem_toArray] at hp ⊢
      rcases Nat.lt_or_ge a b with hlt | hge
      · have := asc_lt hs (by omega) hb hlt; omega
      · have : a = b := by omega
        subst this; exact hp)
  rw [at_count] at hS
  have esz : ((l.toArray.size : Nat) : Int) = (n : Int) := by simp; omega
  rw [esz] at hS
  change Calls Try.prog 66 _ _ _ at hS
  have hle := at_le l x
  have hf := at_found hs x
  have hr : ∀ y, l.toArray[at_ l x]! = y → at_ l x < l.length → decide (x ∈ l) = (y == x) := fun y hy hi => by
    rw [getElem!_pos l.toArray _ (by simpa using hi)] at hy
    simp only [List.getElem_toArray] at hy
    rw [Bool.eq_iff_iff]
    simp only [decide_eq_true_eq, beq_iff_eq]
    exact ⟨fun hx => by obtain ⟨hi', e⟩ := hf.2 hx; rw [← hy, e], fun hx => hf.1 ⟨hi, by rw [hy, hx]⟩⟩
  have hr0 : ¬ at_ l x < l.length → decide (x ∈ l) = false := fun hi => by
    rw [decide_eq_false_iff_not]
    intro hx
    exact hi (hf.2 hx).1
  have hlk := hlc (at_ l x)
  have HS := Lib.hid hS
  have HB := Lib.hid hB0
  clear hS hB0 h0 hlc eg h hs hf
  obtain ⟨k, hk⟩ : ∃ k, at_ l x = k := ⟨_, rfl⟩
  rw [hk] at HS hle hr hr0 hlk ⊢
  clear hk
  by_cases hin : k < n
  · have hk0 : (0 : Int) ≤ k := by omega
    have hk1 : (k : Int) < n := by omega
    have hk2 : decide ((k : Int) < n) = true := by simp; omega
    obtain ⟨b, off, e, hlt, hc⟩ := hlk (by omega)
    obtain ⟨y, hy⟩ : ∃ y, l.toArray[k]! = y := ⟨_, rfl⟩
    rw [hr y hy (by omega)]
    rw [hy] at hc
    subst e
    have Hc := Lib.hid (And.intro ca (And.intro cx (And.intro hc hlt)))
    clear hr hr0 hlk hy ca cx hc hlt
    go_enter Try.func56, Try.ntmps56
    go_wp2_with (go_at_call 66; rw [← hW0]; refine HS.out.mono ?_; rintro e w3 ⟨rfl, q, os, hw3⟩; replace hw3 := Lib.hid hw3)
    have ca3 : w3.cell? ⟨w.heap.size, 0, none⟩ = some (.slice (some ⟨b, off, none⟩) n c) := by rw [hw3.out]; exact cell_grown (by show w.heap.size < W0.heap.size; omega) Hc.out.1 q os
    have cx3 : w3.cell? ⟨w.heap.size + 1, 0, none⟩ = some (.int .i64 x) := by rw [hw3.out]; exact cell_grown (by show w.heap.size + 1 < W0.heap.size; omega) Hc.out.2.1 q os
    have cc3 : w3.cell? ⟨b, off + k, none⟩ = some (.int .i64 y) := by rw [hw3.out]; exact cell_grown Hc.out.2.2.2 Hc.out.2.2.1 q os
    have hB3 : Below w.heap.size w w3 := by rw [hw3.out]; exact HB.out.trans (below_grown_sl w.heap.size W0 q os (by omega))
    have da3 : w3.drew.cell? ⟨w.heap.size, 0, none⟩ = some (.slice (some ⟨b, off, none⟩) n c) := ca3
    have dx3 : w3.drew.cell? ⟨w.heap.size + 1, 0, none⟩ = some (.int .i64 x) := cx3
    have dc3 : w3.drew.cell? ⟨b, off + k, none⟩ = some (.int .i64 y) := cc3
    have HB3 := Lib.hid hB3
    clear hB3 hw3 HS
    go_quiet (fail)
    go_wp2
    go_ret2
    exact ⟨rfl, below_drewN HB3.out _⟩
  · have hk1 : ¬ (k : Int) < n := by omega
    have hk2 : decide ((k : Int) < n) = false := by simp; omega
    rw [hr0 (by omega)]
    have Hc := Lib.hid (And.intro ca cx)
    clear hr hr0 hlk ca cx
    go_enter Try.func56, Try.ntmps56
    go_wp2_with (go_at_call 66; rw [← hW0]; refine HS.out.mono ?_; rintro e w3 ⟨rfl, q, os, hw3⟩; replace hw3 := Lib.hid hw3)
    have ca3 : w3.cell? ⟨w.heap.size, 0, none⟩ = some (.slice A n c) := by rw [hw3.out]; exact cell_grown (by show w.heap.size < W0.heap.size; omega) Hc.out.1 q os
    have hB3 : Below w.heap.size w w3 := by rw [hw3.out]; exact HB.out.trans (below_grown_sl w.heap.size W0 q os (by omega))
    have da3 : w3.drew.cell? ⟨w.heap.size, 0, none⟩ = some (.slice A n c) := ca3
    have HB3 := Lib.hid hB3
    clear hB3 hw3 HS
    go_quiet (fail)
    go_wp2
    go_ret2
    exact ⟨rfl, below_drewN HB3.out _⟩

end Go.Proofs.Ytmdgcimjmmnbjaa

namespace Go.Proofs
open Go.Shelf
def Try.cloneL_ren : Go.Shelf.Ren := ⟨fun | 15 => 48 | n => n, fun | 22 => 51 | 3 => 3 | 4 => 4 | n => n, fun | n => n⟩
theorem Try.cloneL : Go.Proofs.Lays2.n15 Try.prog Try.cloneL_ren := {
  mixed := by kernel_rfl
  f15 := Try.func48.trans (congrArg some (by kernel_rfl))
  t3 := Try.underlying3
  a3 := Try.isAgg3
  z3 := Try.sizeOf3
  v3 := Try.zeroValue3
  t4 := Try.underlying4
  a4 := Try.isAgg4
  z4 := Try.sizeOf4
  v4 := Try.zeroValue4
  t22 := Try.underlying51
  a22 := Try.isAgg51
  z22 := Try.sizeOf51
  v22 := Try.zeroValue51
  i3 := by kernel_rfl }
end Go.Proofs

namespace Go.Proofs.Ytmdgcimjmmnbjaa

open Go.RowKit Go.Shelf

set_option linter.unusedVariables false

theorem ArgI.nil {w : World} {n c : Nat} {l : List Int} (h : ArgI w none n c l) : l = [] ∧ n = 0 := by
  have hl : l = [] := by
    cases l with
    | nil => rfl
    | cons x t => obtain ⟨b, off, e, _⟩ := h.2.2.2.1.at_ (i := 0) (by simp); cases e
  subst hl
  exact ⟨rfl, by have := h.1; simpa using this.symm⟩

theorem clone_any (A : Option Addr) (n c : Nat) (l : List Int) (w : World) (h : ArgI w A n c l) (hn : n ≤ 1000000) : Calls Try.prog 48 #[.slice A n c] w fun e w' => ∃ v, e = .returned v ∧ NewI w l v w' := by
  cases A with
  | none =>
    obtain ⟨rfl, rfl⟩ := h.nil
    have := Any.slices_Clone_int_nil Try.cloneL 0 c w
    exact this.mono fun e w' ⟨he, hw⟩ => ⟨_, he, by rw [hw]; exact World.ownsRow_nil _ _ _ _, by rw [hw]; exact Below.refl _ _⟩
  | some a =>
    rcases Nat.eq_zero_or_pos n with rfl | hpos
    · have hl : l = [] := List.eq_nil_of_length_eq_zero h.1
      subst hl
      have := Any.slices_Clone_int_zero Try.cloneL a c w
      exact this.mono fun e w' ⟨v, he, hw, _, hb⟩ => ⟨v, he, hw, hb⟩
    · obtain ⟨h1, h2, h3, h4, _⟩ := h
      subst h1
      obtain ⟨b, off, e, hlt, hc⟩ := h4.at_ hpos
      injection e with e
      subst e
      have := Any.slices_Clone_int Try.cloneL b off l.length c l w (Nat.le_refl _) (by omega) (fun j hj => by rw [hc j hj]; simp [List.getD, List.getElem?_eq_getElem hj])
      refine this.mono fun e w' ⟨v, he, hw, _, hb⟩ => ⟨v, he, ?_, hb⟩
      rw [List.take_length] at hw
      exact hw

end Go.Proofs.Ytmdgcimjmmnbjaa

namespace Go.Proofs.Ytmdgcimjmmnbjaa

open Go.RowKit Go.Shelf CrewP

set_option linter.unusedVariables false

/-- A crew that was handed in lies boxed in the block at the end of the world 'w'. -/
structure Bx (w W : World) (f : Int) (A : Option Addr) (n c : Nat) (l : List Int) : Prop where
  blk : Blk W w.heap.size 53 [.int .i64 f, .slice A n c]
  bel : Below w.heap.size w W
  arg : ArgI W A n c l

section

variable {w W W' : World} {f : Int} {A : Option Addr} {n c : Nat} {l : List Int}

theorem Bx.on (h : Bx w W f A n c l) (hb : Below W.heap.size W W') : Bx w W' f A n c l := ⟨h.blk.below hb h.blk.lt, h.bel.trans (hb.mono h.bel.size), h.arg.after hb⟩

theorem Bx.drewN (h : Bx w W f A n c l) (q : Nat) : Bx w (W.drewN q) f A n c l := h.on (below_drewN (Below.refl _ _) q)

theorem Bx.k0 (h : Bx w W f A n c l) : W.cell? ⟨w.heap.size, 0, none⟩ = some (.int .i64 f) := h.blk.cell rfl

theorem Bx.k1 (h : Bx w W f A n c l) : W.cell? ⟨w.heap.size, 1, none⟩ = some (.slice A n c) := h.blk.cell rfl

theorem Bx.new (h : ArgI w A n c l) : Bx w (w.alloc (.cells #[.int .i64 f, .slice A n c] 53)) f A n c l :=
  have hb : Below w.heap.size w (w.alloc (.cells #[.int .i64 f, .slice A n c] 53)) := (Below.refl _ _).alloc (Nat.le_refl _) _
  ⟨Blk.new rfl rfl, hb, h.after hb⟩

end

theorem check2 (f : Int) (A : Option Addr) (n c : Nat) (l : List Int) (w : World) (h : ArgI w A n c l) (z : Int) (hz : chkE f l = z) :
    Calls Try.prog 53 #[.agg #[.int .i64 f, .slice A n c]] (w.alloc (.cells #[.int .i64 f, .slice A n c] 53)) fun e w' => e = .returned (.int .i64 z) ∧ Bx w w' f A n c l := by
  subst hz
  have hb := Bx.new (f := f) h
  exact (check_any f A n c l _ hb.arg).mono fun e w' ⟨he, hw⟩ => ⟨he, hb.on hw⟩

theorem chk0 {f : Int} {l : List Int} (h : okC f l = true) : chkE f l = 0 := by simp [chkE, h]

theorem chk1 {f : Int} {l : List Int} (h : okC f l = false) : chkE f l = 110 := by simp [chkE, h]

theorem ok_len {f : Int} {l : List Int} (h : okC f l = true) : (0 ≤ f ∧ f ≤ 2) ∧ (l.length : Int) = 3 * f + 1 ∧ Asc l := by
  rw [okC_iff] at h; exact ⟨⟨h.1.1, h.1.2.1⟩, h.1.2.2, h.2.2⟩

def mostR (f : Int) (l : List Int) : Int := if okC f l then 2 * f + 1 else 0

def someR (f : Int) (l : List Int) : Int := if okC f l then f + 1 else 0

def leaderR (f : Int) (l : List Int) (v : Int) : Int := if okC f l ∧ 0 ≤ v then l.getD (v % l.length).toNat 0 else 0

def hasR (f : Int) (l : List Int) (x : Int) : Bool := okC f l && decide (x ∈ l)

def othersR (f : Int) (l : List Int) (x : Int) : List Int := if okC f l then othersL l x else []

section

variable (f : Int) (A : Option Addr) (n c : Nat) (l : List Int) (w : World)

theorem most_any (h : ArgI w A n c l) : Calls Try.prog 31 #[.agg #[.int .i64 f, .slice A n c]] w fun e w' => e = .returned (.int .i64 (mostR f l)) ∧ Below w.heap.size w w' := by
  cases hok : okC f l with
  | false =>
    have H := Lib.hid (check2 f A n c l w h 110 (chk1 hok))
    have e : mostR f l = 0 := by simp [mostR, hok]
    rw [e]; clear e hok h
    go_enter Try.func31, Try.ntmps31
    go_wp2_with (go_at_call 53; refine H.out.mono ?_; rintro e w' ⟨rfl, hx⟩)
    go_ret
    exact ⟨rfl, hx.bel⟩
  | true =>
    have hf := (ok_len hok).1
    obtain ⟨hf0, hf1⟩ := hf
    have H := Lib.hid (check2 f A n c l w h 0 (chk0 hok))
    have e : mostR f l = 2 * f + 1 := by simp [mostR, hok]
    rw [e]; clear e hok h
    have hm : IntKind.i64.wrap (2 * f) = 2 * f := IntWalk.i64_in _ (by omega)
    have ha : IntKind.i64.wrap (2 * f + 1) = 2 * f + 1 := IntWalk.i64_in _ (by omega)
    go_enter Try.func31, Try.ntmps31
    go_wp2_with (go_at_call 53; refine H.out.mono ?_; rintro e w' ⟨rfl, hx⟩; have k0 := hx.k0; have k1 := hx.k1; replace hx := Lib.hid hx)
    go_ret
    exact ⟨rfl, hx.out.bel⟩

theorem has_any (h : ArgI w A n c l) (x : Int) : Calls Try.prog 47 #[.agg #[.int .i64 f, .slice A n c], .int .i64 x] w fun e w' => e = .returned (.bool (hasR f l x)) ∧ Below w.heap.size w w' := by
  have hln := h.1
  cases hok : okC f l with
  | false =>
    have H := Lib.hid (check2 f A n c l w h 110 (chk1 hok))
    have e : hasR f l x = false := by simp [hasR, hok]
    rw [e]; clear e hok h
    go_enter Try.func47, Try.ntmps47
    go_wp2_with (go_at_call 53; refine H.out.mono ?_; rintro e w' ⟨rfl, hx⟩)
    go_ret
    exact ⟨rfl, hx.bel⟩
  | true =>
    obtain ⟨hf, hl, hasc⟩ := ok_len hok
    have H := Lib.hid (check2 f A n c l w h 0 (chk0 hok))
    have e : hasR f l x = decide (x ∈ l) := by simp [hasR, hok]
    rw [e]; clear e hok h
    have HF := Lib.hid (fun W (hW : ArgI W A n c l) => find_any A n c l x W hW (by omega) hasc)
    clear hasc
    generalize decide (x ∈ l) = b at *
    generalize at_ l x = k at *
    go_enter Try.func47, Try.ntmps47
    go_wp2_with (first
      | (go_at_call 53; refine H.out.mono ?_; rintro e w' ⟨rfl, hx⟩; have k0 := hx.k0; have k1 := hx.k1; replace hx := Lib.hid hx)
      | (go_at_call 56; refine (HF.out _ hx.out.arg).mono ?_; rintro e w'' ⟨rfl, hb⟩; have hy := Lib.hid (hx.out.on hb); clear hb))
    go_ret
    exact ⟨rfl, hy.out.bel⟩

theorem leader_any (h : ArgI w A n c l) (v : Int) (hv : Wf v) : Calls Try.prog 44 #[.agg #[.int .i64 f, .slice A n c], .int .i64 v] w fun e w' => e = .returned (.int .i64 (leaderR f l v)) ∧ Below w.heap.size w w' := by
  have hln := h.1
  have hvb := bounds_i64 hv
  clear hv
  cases hok : okC f l with
  | false =>
    have H := Lib.hid (check2 f A n c l w h 110 (chk1 hok))
    have e : leaderR f l v = 0 := by simp [leaderR, hok]
    rw [e]; clear e hok h
    go_enter Try.func44, Try.ntmps44
    go_wp2_with (go_at_call 53; refine H.out.mono ?_; rintro e w' ⟨rfl, hx⟩; replace hx := Lib.hid hx)
    go_ret
    exact ⟨rfl, hx.out.bel⟩
  | true =>
    obtain ⟨hf, hl, hasc⟩ := ok_len hok
    have H := Lib.hid (check2 f A n c l w h 0 (chk0 hok))
    clear hasc
    by_cases hv0 : v < 0
    · have e : leaderR f l v = 0 := by unfold leaderR; rw [if_neg]; omega
      rw [e]; clear e hok h
      go_enter Try.func44, Try.ntmps44
      go_wp2_with (go_at_call 53; refine H.out.mono ?_; rintro e w' ⟨rfl, hx⟩; replace hx := Lib.hid hx)
      go_ret
      exact ⟨rfl, hx.out.bel⟩
    · have hn0 : (0 : Int) < n := by omega
      have hm0 := Int.emod_nonneg v (show (n : Int) ≠ 0 by omega)
      have hm1 := Int.emod_lt_of_pos v hn0
      obtain ⟨k, hk⟩ : ∃ k : Nat, v % (n : Int) = (k : Int) := ⟨(v % (n : Int)).toNat, by omega⟩
      have ht : v.tmod (n : Int) = (k : Int) := by rw [Int.tmod_eq_emod_of_nonneg (by omega), hk]
      have hkn : k < l.length := by omega
      have e : leaderR f l v = l[k] := by
        unfold leaderR
        rw [if_pos ⟨hok, by omega⟩, hln, hk]
        simp [List.getD, List.getElem?_eq_getElem hkn]
      rw [e]
      have hcell : ∀ W, ArgI W A n c l → ∃ b off, A = some ⟨b, off, none⟩ ∧ W.cell? ⟨b, off + k, none⟩ = some (.int .i64 l[k]) := fun W hW => by
        obtain ⟨b, off, e, _, hc⟩ := hW.2.2.2.1.at_ hkn
        exact ⟨b, off, e, hc k hkn⟩
      obtain ⟨b, off, rfl, _⟩ := hcell w h
      have HC := Lib.hid (fun W (hW : ArgI W (some ⟨b, off, none⟩) n c l) => show W.cell? ⟨b, off + k, none⟩ = some (.int .i64 l[k]) from by
        obtain ⟨b', off', e, hc⟩ := hcell W hW
        injection e with e
        injection e with e1 e2
        subst e1; subst e2
        exact hc)
      clear e hok h hcell
      generalize l[k] = y at *
      have hk0 : (0 : Int) ≤ k := by omega
      have hk1 : (k : Int) < n := by omega
      have hnz : (n == 0) = false := by simp; omega
      have hnz2 : ¬ (n : Int) = 0 := by omega
      clear hm0 hm1 hk hkn
      go_enter Try.func44, Try.ntmps44
      go_wp2_with (go_at_call 53; refine H.out.mono ?_; rintro e w' ⟨rfl, hx⟩; have k0 := hx.k0; have k1 := hx.k1; have k2 := HC.out _ hx.arg; replace hx := Lib.hid hx)
      go_quiet (fail)
      go_wp2
      go_ret
      exact ⟨rfl, below_drewN hx.out.bel _⟩

/-- Two slices of one. -/
theorem run_frontI (A : Option Addr) (n c u : Nat) (h : u ≤ c) (w : World) :
    (Instr.sliceAt 51 (.slice A n c) none (some (.int .i64 (u : Int))) none).run Try.prog w = .ok (.slice A u c) w := by
  have h1 : (u : Int) ≤ c := by omega
  go_simp

theorem run_cutI (A : Option Addr) (n c u : Nat) (h : u ≤ n) (w : World) :
    (Instr.sliceAt 51 (.slice A n c) (some (.int .i64 (u : Int))) none none).run Try.prog w = .ok (.slice (cutAt A 1 u c) (n - u) (c - u)) w := by
  have h1 : (u : Int) ≤ n := by omega
  go_simp
  simp [cutAt]

theorem ArgI.front {w : World} {A : Option Addr} {n c : Nat} {l : List Int} (h : ArgI w A n c l) {m : Nat} (hm : m ≤ n) : ArgI w A m c (l.take m) := by
  obtain ⟨h1, h2, h3, h4, h5⟩ := h
  subst h1
  refine ⟨by rw [List.length_take]; omega, by omega, h3, ?_, fun x hx => h5 x (List.mem_of_mem_take hx)⟩
  have := Shows.front h4 hm
  unfold Is
  rw [List.length_take, Nat.min_eq_left hm, cis_take]
  simpa using this

theorem ArgI.cut {w : World} {A : Option Addr} {n c : Nat} {l : List Int} (h : ArgI w A n c l) {m : Nat} (hm : m ≤ n) : ArgI w (cutAt A 1 m c) (n - m) (c - m) (l.drop m) := by
  obtain ⟨h1, h2, h3, h4, h5⟩ := h
  subst h1
  refine ⟨by rw [List.length_drop], by omega, by omega, ?_, fun x hx => h5 x (List.mem_of_mem_drop hx)⟩
  have := Shows.cut h4 hm h2
  unfold Is
  rw [List.length_drop, cis_drop]
  simpa using this

theorem NewI.later {w w1 w' : World} {l : List Int} {v : Value} (hb : Below w.heap.size w w1) (h : NewI w1 l v w') : NewI w l v w' := ⟨own_base h.1 hb.size, hb.trans (h.2.mono hb.size)⟩

end

end Go.Proofs.Ytmdgcimjmmnbjaa
