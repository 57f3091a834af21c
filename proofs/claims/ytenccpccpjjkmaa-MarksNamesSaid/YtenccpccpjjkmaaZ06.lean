/-
  Laid together for a hand-in: Crew0, Shelf8, Find8, Shelf8c, Oth8, Crew1, Ma15, Of15.
-/
import Derived.Test.YtenccpccpjjkmaaZ01
import Derived.Test.YtenccpccpjjkmaaZ02
import Derived.Test.YtenccpccpjjkmaaProg
import Derived.Test.YtenccpccpjjkmaaZ03
import Derived.Test.YtenccpccpjjkmaaZ05
import Derived.Deep.QuietTactic
import Derived.Shelf.SlSorted.Search
import Derived.Ground.SlsoProg
import Derived.Shelf.Slices.Clone
import Derived.Lib.AppendZerosOnto
import Derived.Lib.AppendZeros
import Derived.Deep.RegionWith
import Derived.Lib.SliceRun

namespace Go.Proofs.Ytenccpccpjjkmaa

open Go.RowKit CrewP

set_option linter.unusedVariables false

theorem isNode_any (n : Int) (w : World) : Calls Try.prog 61 #[.int .i64 n] w fun e w' => e = .returned (.bool (isN n)) ∧ w' = w := by
  by_cases h1 : (1 : Int) ≤ n
  · by_cases h2 : n ≤ 28
    · have e : isN n = true := by simp [isN, h1, h2]
      rw [e]; clear e
      go_enter Try.func61, Try.ntmps61
      go_wp2
      go_ret
      exact ⟨rfl, rfl⟩
    · have e : isN n = false := by simp [isN, h1, h2]
      rw [e]; clear e
      go_enter Try.func61, Try.ntmps61
      go_wp2
      go_ret
      exact ⟨rfl, rfl⟩
  · have e : isN n = false := by simp [isN, h1]
    rw [e]; clear e
    go_enter Try.func61, Try.ntmps61
    go_wp2
    go_ret
    exact ⟨rfl, rfl⟩

theorem isSize_any (f n : Int) (w : World) : Calls Try.prog 46 #[.int .i64 f, .int .i64 n] w fun e w' => e = .returned (.bool (sizeOk f n)) ∧ w' = w := by
  by_cases h1 : (0 : Int) ≤ f
  · by_cases h2 : f ≤ 2
    · have hm : IntKind.i64.wrap (3 * f) = 3 * f := IntWalk.i64_in _ (by omega)
      have ha : IntKind.i64.wrap (3 * f + 1) = 3 * f + 1 := IntWalk.i64_in _ (by omega)
      by_cases h3 : n = 3 * f + 1
      · have e : sizeOk f n = true := by simp [sizeOk, h1, h2, h3]
        have hq : (n == 3 * f + 1) = true := by simp [h3]
        rw [e]; clear e
        go_enter Try.func46, Try.ntmps46
        go_wp2
        go_ret
        exact ⟨rfl, rfl⟩
      · have e : sizeOk f n = false := by simp [sizeOk, h1, h2, h3]
        have hq : (n == 3 * f + 1) = false := by simp [h3]
        rw [e]; clear e
        go_enter Try.func46, Try.ntmps46
        go_wp2
        go_ret
        exact ⟨rfl, rfl⟩
    · have e : sizeOk f n = false := by simp [sizeOk, h1, h2]
      rw [e]; clear e
      go_enter Try.func46, Try.ntmps46
      go_wp2
      go_ret
      exact ⟨rfl, rfl⟩
  · have e : sizeOk f n = false := by simp [sizeOk, h1]
    rw [e]; clear e
    go_enter Try.func46, Try.ntmps46
    go_wp2
    go_ret
    exact ⟨rfl, rfl⟩

theorem last_snoc (l : List Int) (x a : Int) : (l ++ [x]).getLastD a = x := by rw [List.getLastD_eq_getLast?]; simp

theorem rise_cut (l : List Int) (a : Int) {j : Nat} (hj : j < l.length) (h : (isN l[j] && decide ((l.take j).getLastD a < l[j])) = false) : rise a l = false := by
  cases hr : rise a l with
  | false => rfl
  | true =>
    exfalso
    have e : l.take (j + 1) = l.take j ++ [l[j]] := by rw [List.take_succ_eq_append_getElem hj]
    rw [rise_iff] at hr
    have h2 : rise a (l.take (j + 1)) = true := (rise_iff _ _).2 ⟨fun x hx => hr.1 x (List.mem_of_mem_take hx), hr.2.sublist (List.take_sublist ..)⟩
    rw [e, rise_snoc, h, Bool.and_false] at h2
    cases h2

set_option maxRecDepth 100000 in
theorem areRising_any (A : Option Addr) (n c : Nat) (l : List Int) (w : World) (h : ArgI w A n c l) : Calls Try.prog 47 #[.slice A n c] w fun e w' => e = .returned (.bool (rise 0 l)) ∧ w' = w := by
  have hcm := h.2.2.1
  unfold maxLen at hcm
  have hnc := h.2.1
  have hln := h.1
  have H := Lib.hid h
  clear h
  obtain ⟨r, hr0⟩ : ∃ r, rise 0 l = r := ⟨_, rfl⟩
  rw [hr0]
  have Hr := Lib.hid hr0
  clear hr0
  go_enter Try.func47, Try.ntmps47
  go_wp2
  go_loopw [3, 8] (fun v3 v8 wr => ∃ j : Nat, j ≤ n ∧ v8 = .int .i64 j ∧ v3 = .int .i64 ((l.take j).getLastD 0) ∧ rise 0 (l.take j) = true ∧ wr = w) (fun _ v _ => n - (intOf v).toNat)
  case atStart => exact ⟨0, Nat.zero_le _, rfl, rfl, rfl, rfl⟩
  case round =>
    obtain ⟨j, hj, rfl, rfl, hr, rfl⟩ := hrel
    have hi0 : (0 : Int) ≤ j := by omega
    by_cases hlt : j < n
    · have hi1 : (j : Int) < n := by omega
      have hjl : j < l.length := by omega
      obtain ⟨b1, o1, rfl, l1, q1⟩ := H.out.2.2.2.1.at_ hjl
      have c1 := q1 j hjl
      have hcut := rise_cut l 0 hjl
      have hsn := rise_snoc 0 (l.take j) l[j]
      have hlast : (l.take (j + 1)).getLastD 0 = l[j] := by rw [List.take_succ_eq_append_getElem hjl, last_snoc]
      rw [← List.take_succ_eq_append_getElem hjl, hr, Bool.true_and] at hsn
      have Hl := Lib.hid (And.intro hcut (And.intro hsn hlast))
      clear hcut hsn hlast q1 hr
      generalize (l.take j).getLastD 0 = y at *
      generalize l[j] = x at *
      clear hjl
      have HN := Lib.hid (isNode_any x wr)
      obtain ⟨z, hz⟩ : ∃ z, isN x = z := ⟨_, rfl⟩
      rw [hz] at HN Hl
      clear hz
      cases z with
      | false =>
        have hrf : r = false := by rw [← Hr.out]; exact Hl.out.1 (by simp)
        subst hrf
        clear Hl
        go_wp2_with (go_at_call 61; refine HN.out.mono ?_; rintro e w' ⟨rfl, rfl⟩)
        go_ret
        exact ⟨rfl, rfl⟩
      | true =>
        by_cases hyx : y < x
        · have hyx' : ¬ x ≤ y := by omega
          go_wp2_with (go_at_call 61; refine HN.out.mono ?_; rintro e w' ⟨rfl, rfl⟩)
          exact ⟨⟨j + 1, by omega, by go_num, by rw [Hl.out.2.2], by rw [Hl.out.2.1]; simp [hyx], trivial⟩, by simp [intOf]; omega⟩
        · have hyx' : x ≤ y := by omega
          have hrf : r = false := by rw [← Hr.out]; exact Hl.out.1 (by simp [hyx])
          subst hrf
          clear Hl
          go_wp2_with (go_at_call 61; refine HN.out.mono ?_; rintro e w' ⟨rfl, rfl⟩)
          go_ret
          exact ⟨rfl, rfl⟩
    · have hi1 : ¬ (j : Int) < n := by omega
      rw [List.take_of_length_le (by omega)] at hr
      have hrf : r = true := by rw [← Hr.out, hr]
      subst hrf
      clear hr
      go_wp2
      go_ret
      exact ⟨rfl, rfl⟩

/-- A crew as a value. -/
def crewV (f : Int) (A : Option Addr) (n c : Nat) : Value := .agg #[.int .i64 f, .slice A n c]

/-- What Check answers. -/
def chkE (f : Int) (l : List Int) : Int := if okC f l then 0 else 110

theorem check_any (f : Int) (A : Option Addr) (n c : Nat) (l : List Int) (w : World) (h : ArgI w A n c l) : Calls Try.prog 27 #[.agg #[.int .i64 f, .slice A n c]] w fun e w' => e = .returned (.int .i64 (chkE f l)) ∧ Below w.heap.size w w' := by
  have hb : Below w.heap.size w (w.alloc (.cells #[.int .i64 f, .slice A n c] 24)) := (Below.refl _ _).alloc (Nat.le_refl _) _
  have hA := areRising_any A n c l _ (h.after hb)
  have hS := isSize_any f n (w.alloc (.cells #[.int .i64 f, .slice A n c] 24))
  have hln := h.1
  have H := Lib.hid (And.intro hA (And.intro hS hb))
  clear hA hS hb h
  obtain ⟨z, hz⟩ : ∃ z, sizeOk f n = z := ⟨_, rfl⟩
  obtain ⟨y, hy⟩ : ∃ y, rise 0 l = y := ⟨_, rfl⟩
  have e : chkE f l = if z && y then 0 else 110 := by unfold chkE okC; rw [hln, hz, hy]
  rw [e]
  rw [hz, hy] at H
  clear hz hy e
  cases z <;> cases y
  all_goals
    go_enter Try.func27, Try.ntmps27
    go_wp2_with (first | (go_at_call 46; refine H.out.2.1.mono ?_; rintro e w' ⟨rfl, rfl⟩) | (go_at_call 47; refine H.out.1.mono ?_; rintro e w' ⟨rfl, rfl⟩))
    go_ret
    exact ⟨rfl, H.out.2.2⟩

end Go.Proofs.Ytenccpccpjjkmaa

namespace Go.Proofs
open Go.Shelf
def Try.search_ren : Go.Shelf.Ren := ⟨fun | 16 => 62 | n => n, fun | 3 => 3 | 35 => 61 | 4 => 4 | 38 => 94 | n => n, fun | n => n⟩
theorem Try.search : Go.Proofs.SlLaysO.n16 Try.prog Try.search_ren := {
  mixed := by kernel_rfl
  f16 := Try.func62.trans (congrArg some (by kernel_rfl))
  t3 := Try.underlying3
  a3 := Try.isAgg3
  z3 := Try.sizeOf3
  v3 := Try.zeroValue3
  t4 := Try.underlying4
  a4 := Try.isAgg4
  z4 := Try.sizeOf4
  v4 := Try.zeroValue4
  t35 := Try.underlying61
  a35 := Try.isAgg61
  z35 := Try.sizeOf61
  v35 := Try.zeroValue61
  t38 := Try.underlying94
  a38 := Try.isAgg94
  z38 := Try.sizeOf94
  v38 := Try.zeroValue94 }
end Go.Proofs

namespace Go.Proofs.Ytenccpccpjjkmaa

open Go.RowKit Go.Shelf Go.Lib Go.Sort CrewP

set_option linter.unusedVariables false

set_option maxHeartbeats 800000 in
theorem findClo_any (ba bx : Nat) (A : Option Addr) (n c b off i : Nat) (x y : Int) (W : World) (hi : i < n) (hn : n ≤ 9223372036854775807)
    (ha : W.cell? ⟨ba, 0, none⟩ = some (.slice A n c)) (hA : A = some ⟨b, off, none⟩) (hx : W.cell? ⟨bx, 0, none⟩ = some (.int .i64 x)) (hc : W.cell? ⟨b, off + i, none⟩ = some (.int .i64 y)) :
    Calls Try.prog 63 (#[.int .i64 i] ++ #[.pointer (some ⟨ba, 0, none⟩), .pointer (some ⟨bx, 0, none⟩)]) W fun e w' => e = .returned (.bool (decide (x ≤ y))) ∧ ∃ q, w' = W.drewN q := by
  subst hA
  have hi0 : (0 : Int) ≤ i := by omega
  have hiz : (i : Int) < (n : Int) := by omega
  go_enter Try.func63, Try.ntmps63
  go_wp2
  go_region
  all_goals go_wp2
  all_goals go_ret
  all_goals exact ⟨by first | rfl | simp, 1, rfl⟩

theorem at_count (l : List Int) (x : Int) : (List.range l.toArray.size).countP (fun i => !decide (x ≤ l.toArray[i]!)) = at_ l x := by
  rw [Lib.countP_range l.toArray (fun y => !decide (x ≤ y))]
  unfold at_
  refine List.countP_congr fun y _ => ?_
  simp

set_option maxHeartbeats 1600000 in
theorem find_any (A : Option Addr) (n c : Nat) (l : List Int) (x : Int) (w : World) (h : ArgI w A n c l) (hn : n ≤ 1000000) (hs : Asc l) :
    Calls Try.prog 49 #[.slice A n c, .int .i64 x] w fun e w' => e = .returned (.tuple #[.int .i64 (at_ l x : Nat), .bool (decide (x ∈ l))]) ∧ Below w.heap.size w w' := by
  obtain ⟨W0, hW0⟩ : ∃ W0, W0 = (w.alloc (.cells #[.slice A n c] 22)).alloc (.cells #[.int .i64 x] 3) := ⟨_, rfl⟩
  have hsize : W0.heap.size = w.heap.size + 1 + 1 := by rw [hW0]; simp
  have ca : W0.cell? ⟨w.heap.size, 0, none⟩ = some (.slice A n c) := by rw [hW0]; exact cell_alloc_sl _ (cell_new_sl w _ _)
  have cx : W0.cell? ⟨w.heap.size + 1, 0, none⟩ = some (.int .i64 x) := by rw [hW0]; have := cell_new_sl (w.alloc (.cells #[.slice A n c] 22)) (.int .i64 x) 3; rwa [World.size_alloc] at this
  have hB0 : Below w.heap.size w W0 := by rw [hW0]; exact ((Below.refl _ w).alloc (Nat.le_refl _) _).alloc (by simp) _
  have h0 := h.after hB0
  have hln := h.1
  have hlc : ∀ i, (hi : i < l.length) → ∃ b off, A = some ⟨b, off, none⟩ ∧ b < W0.heap.size ∧ W0.cell? ⟨b, off + i, none⟩ = some (.int .i64 l.toArray[i]!) := fun i hi => by
    obtain ⟨b, off, e, hlt, hc⟩ := h0.2.2.2.1.at_ hi
    refine ⟨b, off, e, hlt, ?_⟩
    rw [hc i hi, getElem!_pos l.toArray i (by simpa using hi)]
    simp
  have eg : ∀ args w, (callFunc 63 args).run Try.prog w = .ok (.enter 63 args) w := enters_of Try.func63 (by kernel_rfl) rfl
  have hS := Any.sort_Search Try.search 63 #[.pointer (some ⟨w.heap.size, 0, none⟩), .pointer (some ⟨w.heap.size + 1, 0, none⟩)] l.toArray.size (fun i => decide (x ≤ l.toArray[i]!)) W0 eg (by simp; omega)
    (fun m os i hi => by
      obtain ⟨b, off, e, hlt, hc⟩ := hlc i (by simpa using hi)
      exact (findClo_any w.heap.size (w.heap.size + 1) A n c b off i x _ _ (by simp at hi; omega) (by omega) (cell_grown (by show w.heap.size < W0.heap.size; omega) ca m os) e (cell_grown (by show w.heap.size + 1 < W0.heap.size; omega) cx m os) (cell_grown hlt hc m os)).mono
        fun _ _ ⟨he, q, hq⟩ => ⟨he, q, #[], by rw [hq, grow_empty]⟩)
    (fun a b hab hb hp => by
      simp only [decide_eq_true_eq] at hp ⊢
      simp at hb
      rw [getElem!_pos l.toArray a (by simp; omega)] at hp
      rw [getElem!_pos l.toArray b (by simpa using hb)]
      simp only [List.getElem_toArray] at hp ⊢
      rcases Nat.lt_or_ge a b with hlt | hge
      · have := asc_lt hs (by omega) hb hlt; omega
      · have : a = b := by omega
        subst this; exact hp)
  rw [at_count] at hS
  have esz : ((l.toArray.size : Nat) : Int) = (n : Int) := by simp; omega
  rw [esz] at hS
  change Calls Try.prog 62 _ _ _ at hS
  have hle := at_le l x
  have hf := at_found hs x
  have hr : ∀ y, l.toArray[at_ l x]! = y → at_ l x < l.length → decide (x ∈ l) = (y == x) := fun y hy hi => by
    rw [getElem!_pos l.toArray _ (by simpa using hi)] at hy
    simp only [List.getElem_toArray] at hy
    rw [Bool.eq_iff_iff]
    simp only [decide_eq_true_eq, beq_iff_eq]
    exact ⟨fun hx => by obtain ⟨hi', e⟩ := hf.2 hx; rw [← hy, e], fun hx => hf.1 ⟨hi, by rw [hy, hx]⟩⟩
  have hr0 : ¬ at_ l x < l.length → decide (x ∈ l) = false := fun hi => by
    rw [decide_eq_false_iff_not]
    intro hx
    exact hi (hf.2 hx).1
  have hlk := hlc (at_ l x)
  have HS := Lib.hid hS
  have HB := Lib.hid hB0
  clear hS hB0 h0 hlc eg h hs hf
  obtain ⟨k, hk⟩ : ∃ k, at_ l x = k := ⟨_, rfl⟩
  rw [hk] at HS hle hr hr0 hlk ⊢
  clear hk
  by_cases hin : k < n
  · have hk0 : (0 : Int) ≤ k := by omega
    have hk1 : (k : Int) < n := by omega
    have hk2 : decide ((k : Int) < n) = true := by simp; omega
    obtain ⟨b, off, e, hlt, hc⟩ := hlk (by omega)
    obtain ⟨y, hy⟩ : ∃ y, l.toArray[k]! = y := ⟨_, rfl⟩
    rw [hr y hy (by omega)]
    rw [hy] at hc
    subst e
    have Hc := Lib.hid (And.intro ca (And.intro cx (And.intro hc hlt)))
    clear hr hr0 hlk hy ca cx hc hlt
    go_enter Try.func49, Try.ntmps49
    go_wp2_with (go_at_call 62; rw [← hW0]; refine HS.out.mono ?_; rintro e w3 ⟨rfl, q, os, hw3⟩; replace hw3 := Lib.hid hw3)
    have ca3 : w3.cell? ⟨w.heap.size, 0, none⟩ = some (.slice (some ⟨b, off, none⟩) n c) := by rw [hw3.out]; exact cell_grown (by show w.heap.size < W0.heap.size; omega) Hc.out.1 q os
    have cx3 : w3.cell? ⟨w.heap.size + 1, 0, none⟩ = some (.int .i64 x) := by rw [hw3.out]; exact cell_grown (by show w.heap.size + 1 < W0.heap.size; omega) Hc.out.2.1 q os
    have cc3 : w3.cell? ⟨b, off + k, none⟩ = some (.int .i64 y) := by rw [hw3.out]; exact cell_grown Hc.out.2.2.2 Hc.out.2.2.1 q os
    have hB3 : Below w.heap.size w w3 := by rw [hw3.out]; exact HB.out.trans (below_grown_sl w.heap.size W0 q os (by omega))
    have da3 : w3.drew.cell? ⟨w.heap.size, 0, none⟩ = some (.slice (some ⟨b, off, none⟩) n c) := ca3
    have dx3 : w3.drew.cell? ⟨w.heap.size + 1, 0, none⟩ = some (.int .i64 x) := cx3
    have dc3 : w3.drew.cell? ⟨b, off + k, none⟩ = some (.int .i64 y) := cc3
    have HB3 := Lib.hid hB3
    clear hB3 hw3 HS
    go_quiet (fail)
    go_wp2
    go_ret2
    exact ⟨rfl, below_drewN HB3.out _⟩
  · have hk1 : ¬ (k : Int) < n := by omega
    have hk2 : decide ((k : Int) < n) = false := by simp; omega
    rw [hr0 (by omega)]
    have Hc := Lib.hid (And.intro ca cx)
    clear hr hr0 hlk ca cx
    go_enter Try.func49, Try.ntmps49
    go_wp2_with (go_at_call 62; rw [← hW0]; refine HS.out.mono ?_; rintro e w3 ⟨rfl, q, os, hw3⟩; replace hw3 := Lib.hid hw3)
    have ca3 : w3.cell? ⟨w.heap.size, 0, none⟩ = some (.slice A n c) := by rw [hw3.out]; exact cell_grown (by show w.heap.size < W0.heap.size; omega) Hc.out.1 q os
    have hB3 : Below w.heap.size w w3 := by rw [hw3.out]; exact HB.out.trans (below_grown_sl w.heap.size W0 q os (by omega))
    have da3 : w3.drew.cell? ⟨w.heap.size, 0, none⟩ = some (.slice A n c) := ca3
    have HB3 := Lib.hid hB3
    clear hB3 hw3 HS
    go_quiet (fail)
    go_wp2
    go_ret2
    exact ⟨rfl, below_drewN HB3.out _⟩

end Go.Proofs.Ytenccpccpjjkmaa

namespace Go.Proofs
open Go.Shelf
def Try.cloneL_ren : Go.Shelf.Ren := ⟨fun | 15 => 28 | n => n, fun | 22 => 22 | 3 => 3 | 4 => 4 | n => n, fun | n => n⟩
theorem Try.cloneL : Go.Proofs.Lays2.n15 Try.prog Try.cloneL_ren := {
  mixed := by kernel_rfl
  f15 := Try.func28.trans (congrArg some (by kernel_rfl))
  t3 := Try.underlying3
  a3 := Try.isAgg3
  z3 := Try.sizeOf3
  v3 := Try.zeroValue3
  t4 := Try.underlying4
  a4 := Try.isAgg4
  z4 := Try.sizeOf4
  v4 := Try.zeroValue4
  t22 := Try.underlying22
  a22 := Try.isAgg22
  z22 := Try.sizeOf22
  v22 := Try.zeroValue22
  i3 := by kernel_rfl }
end Go.Proofs

namespace Go.Proofs.Ytenccpccpjjkmaa

open Go.RowKit Go.Shelf

set_option linter.unusedVariables false

theorem ArgI.nil {w : World} {n c : Nat} {l : List Int} (h : ArgI w none n c l) : l = [] ∧ n = 0 := by
  have hl : l = [] := by
    cases l with
    | nil => rfl
    | cons x t => obtain ⟨b, off, e, _⟩ := h.2.2.2.1.at_ (i := 0) (by simp); cases e
  subst hl
  exact ⟨rfl, by have := h.1; simpa using this.symm⟩

theorem clone_any (A : Option Addr) (n c : Nat) (l : List Int) (w : World) (h : ArgI w A n c l) (hn : n ≤ 1000000) : Calls Try.prog 28 #[.slice A n c] w fun e w' => ∃ v, e = .returned v ∧ NewI w l v w' := by
  cases A with
  | none =>
    obtain ⟨rfl, rfl⟩ := h.nil
    have := Any.slices_Clone_int_nil Try.cloneL 0 c w
    exact this.mono fun e w' ⟨he, hw⟩ => ⟨_, he, by rw [hw]; exact World.ownsRow_nil _ _ _ _, by rw [hw]; exact Below.refl _ _⟩
  | some a =>
    rcases Nat.eq_zero_or_pos n with rfl | hpos
    · have hl : l = [] := List.eq_nil_of_length_eq_zero h.1
      subst hl
      have := Any.slices_Clone_int_zero Try.cloneL a c w
      exact this.mono fun e w' ⟨v, he, hw, _, hb⟩ => ⟨v, he, hw, hb⟩
    · obtain ⟨h1, h2, h3, h4, _⟩ := h
      subst h1
      obtain ⟨b, off, e, hlt, hc⟩ := h4.at_ hpos
      injection e with e
      subst e
      have := Any.slices_Clone_int Try.cloneL b off l.length c l w (Nat.le_refl _) (by omega) (fun j hj => by rw [hc j hj]; simp [List.getD, List.getElem?_eq_getElem hj])
      refine this.mono fun e w' ⟨v, he, hw, _, hb⟩ => ⟨v, he, ?_, hb⟩
      rw [List.take_length] at hw
      exact hw

end Go.Proofs.Ytenccpccpjjkmaa

namespace Go.Proofs.Ytenccpccpjjkmaa

open Go.RowKit Go.Shelf CrewP

set_option linter.unusedVariables false

/-- A crew that was handed in lies boxed in the block at the end of the world 'w'. -/
structure Bx (w W : World) (f : Int) (A : Option Addr) (n c : Nat) (l : List Int) : Prop where
  blk : Blk W w.heap.size 24 [.int .i64 f, .slice A n c]
  bel : Below w.heap.size w W
  arg : ArgI W A n c l

section

variable {w W W' : World} {f : Int} {A : Option Addr} {n c : Nat} {l : List Int}

theorem Bx.on (h : Bx w W f A n c l) (hb : Below W.heap.size W W') : Bx w W' f A n c l := ⟨h.blk.below hb h.blk.lt, h.bel.trans (hb.mono h.bel.size), h.arg.after hb⟩

theorem Bx.drewN (h : Bx w W f A n c l) (q : Nat) : Bx w (W.drewN q) f A n c l := h.on (below_drewN (Below.refl _ _) q)

theorem Bx.k0 (h : Bx w W f A n c l) : W.cell? ⟨w.heap.size, 0, none⟩ = some (.int .i64 f) := h.blk.cell rfl

theorem Bx.k1 (h : Bx w W f A n c l) : W.cell? ⟨w.heap.size, 1, none⟩ = some (.slice A n c) := h.blk.cell rfl

theorem Bx.new (h : ArgI w A n c l) : Bx w (w.alloc (.cells #[.int .i64 f, .slice A n c] 24)) f A n c l :=
  have hb : Below w.heap.size w (w.alloc (.cells #[.int .i64 f, .slice A n c] 24)) := (Below.refl _ _).alloc (Nat.le_refl _) _
  ⟨Blk.new rfl rfl, hb, h.after hb⟩

end

theorem check2 (f : Int) (A : Option Addr) (n c : Nat) (l : List Int) (w : World) (h : ArgI w A n c l) (z : Int) (hz : chkE f l = z) :
    Calls Try.prog 27 #[.agg #[.int .i64 f, .slice A n c]] (w.alloc (.cells #[.int .i64 f, .slice A n c] 24)) fun e w' => e = .returned (.int .i64 z) ∧ Bx w w' f A n c l := by
  subst hz
  have hb := Bx.new (f := f) h
  exact (check_any f A n c l _ hb.arg).mono fun e w' ⟨he, hw⟩ => ⟨he, hb.on hw⟩

theorem chk0 {f : Int} {l : List Int} (h : okC f l = true) : chkE f l = 0 := by simp [chkE, h]

theorem chk1 {f : Int} {l : List Int} (h : okC f l = false) : chkE f l = 110 := by simp [chkE, h]

theorem ok_len {f : Int} {l : List Int} (h : okC f l = true) : (0 ≤ f ∧ f ≤ 2) ∧ (l.length : Int) = 3 * f + 1 ∧ Asc l := by
  rw [okC_iff] at h; exact ⟨⟨h.1.1, h.1.2.1⟩, h.1.2.2, h.2.2⟩

def mostR (f : Int) (l : List Int) : Int := if okC f l then 2 * f + 1 else 0

def someR (f : Int) (l : List Int) : Int := if okC f l then f + 1 else 0

def leaderR (f : Int) (l : List Int) (v : Int) : Int := if okC f l ∧ 0 ≤ v then l.getD (v % l.length).toNat 0 else 0

def hasR (f : Int) (l : List Int) (x : Int) : Bool := okC f l && decide (x ∈ l)

def othersR (f : Int) (l : List Int) (x : Int) : List Int := if okC f l then othersL l x else []

section

variable (f : Int) (A : Option Addr) (n c : Nat) (l : List Int) (w : World)

theorem most_any (h : ArgI w A n c l) : Calls Try.prog 43 #[.agg #[.int .i64 f, .slice A n c]] w fun e w' => e = .returned (.int .i64 (mostR f l)) ∧ Below w.heap.size w w' := by
  cases hok : okC f l with
  | false =>
    have H := Lib.hid (check2 f A n c l w h 110 (chk1 hok))
    have e : mostR f l = 0 := by simp [mostR, hok]
    rw [e]; clear e hok h
    go_enter Try.func43, Try.ntmps43
    go_wp2_with (go_at_call 27; refine H.out.mono ?_; rintro e w' ⟨rfl, hx⟩)
    go_ret
    exact ⟨rfl, hx.bel⟩
  | true =>
    have hf := (ok_len hok).1
    obtain ⟨hf0, hf1⟩ := hf
    have H := Lib.hid (check2 f A n c l w h 0 (chk0 hok))
    have e : mostR f l = 2 * f + 1 := by simp [mostR, hok]
    rw [e]; clear e hok h
    have hm : IntKind.i64.wrap (2 * f) = 2 * f := IntWalk.i64_in _ (by omega)
    have ha : IntKind.i64.wrap (2 * f + 1) = 2 * f + 1 := IntWalk.i64_in _ (by omega)
    go_enter Try.func43, Try.ntmps43
    go_wp2_with (go_at_call 27; refine H.out.mono ?_; rintro e w' ⟨rfl, hx⟩; have k0 := hx.k0; have k1 := hx.k1; replace hx := Lib.hid hx)
    go_ret
    exact ⟨rfl, hx.out.bel⟩

theorem some_any (h : ArgI w A n c l) : Calls Try.prog 44 #[.agg #[.int .i64 f, .slice A n c]] w fun e w' => e = .returned (.int .i64 (someR f l)) ∧ Below w.heap.size w w' := by
  cases hok : okC f l with
  | false =>
    have H := Lib.hid (check2 f A n c l w h 110 (chk1 hok))
    have e : someR f l = 0 := by simp [someR, hok]
    rw [e]; clear e hok h
    go_enter Try.func44, Try.ntmps44
    go_wp2_with (go_at_call 27; refine H.out.mono ?_; rintro e w' ⟨rfl, hx⟩)
    go_ret
    exact ⟨rfl, hx.bel⟩
  | true =>
    obtain ⟨hf0, hf1⟩ := (ok_len hok).1
    have H := Lib.hid (check2 f A n c l w h 0 (chk0 hok))
    have e : someR f l = f + 1 := by simp [someR, hok]
    rw [e]; clear e hok h
    have ha : IntKind.i64.wrap (f + 1) = f + 1 := IntWalk.i64_in _ (by omega)
    go_enter Try.func44, Try.ntmps44
    go_wp2_with (go_at_call 27; refine H.out.mono ?_; rintro e w' ⟨rfl, hx⟩; have k0 := hx.k0; have k1 := hx.k1; replace hx := Lib.hid hx)
    go_ret
    exact ⟨rfl, hx.out.bel⟩

theorem has_any (h : ArgI w A n c l) (x : Int) : Calls Try.prog 32 #[.agg #[.int .i64 f, .slice A n c], .int .i64 x] w fun e w' => e = .returned (.bool (hasR f l x)) ∧ Below w.heap.size w w' := by
  have hln := h.1
  cases hok : okC f l with
  | false =>
    have H := Lib.hid (check2 f A n c l w h 110 (chk1 hok))
    have e : hasR f l x = false := by simp [hasR, hok]
    rw [e]; clear e hok h
    go_enter Try.func32, Try.ntmps32
    go_wp2_with (go_at_call 27; refine H.out.mono ?_; rintro e w' ⟨rfl, hx⟩)
    go_ret
    exact ⟨rfl, hx.bel⟩
  | true =>
    obtain ⟨hf, hl, hasc⟩ := ok_len hok
    have H := Lib.hid (check2 f A n c l w h 0 (chk0 hok))
    have e : hasR f l x = decide (x ∈ l) := by simp [hasR, hok]
    rw [e]; clear e hok h
    have HF := Lib.hid (fun W (hW : ArgI W A n c l) => find_any A n c l x W hW (by omega) hasc)
    clear hasc
    generalize decide (x ∈ l) = b at *
    generalize at_ l x = k at *
    go_enter Try.func32, Try.ntmps32
    go_wp2_with (first
      | (go_at_call 27; refine H.out.mono ?_; rintro e w' ⟨rfl, hx⟩; have k0 := hx.k0; have k1 := hx.k1; replace hx := Lib.hid hx)
      | (go_at_call 49; refine (HF.out _ hx.out.arg).mono ?_; rintro e w'' ⟨rfl, hb⟩; have hy := Lib.hid (hx.out.on hb); clear hb))
    go_ret
    exact ⟨rfl, hy.out.bel⟩

/-- Two slices of one. -/
theorem run_frontI (A : Option Addr) (n c u : Nat) (h : u ≤ c) (w : World) :
    (Instr.sliceAt 22 (.slice A n c) none (some (.int .i64 (u : Int))) none).run Try.prog w = .ok (.slice A u c) w := by
  have h1 : (u : Int) ≤ c := by omega
  go_simp

theorem run_cutI (A : Option Addr) (n c u : Nat) (h : u ≤ n) (w : World) :
    (Instr.sliceAt 22 (.slice A n c) (some (.int .i64 (u : Int))) none none).run Try.prog w = .ok (.slice (cutAt A 1 u c) (n - u) (c - u)) w := by
  have h1 : (u : Int) ≤ n := by omega
  go_simp
  simp [cutAt]

theorem ArgI.front {w : World} {A : Option Addr} {n c : Nat} {l : List Int} (h : ArgI w A n c l) {m : Nat} (hm : m ≤ n) : ArgI w A m c (l.take m) := by
  obtain ⟨h1, h2, h3, h4, h5⟩ := h
  subst h1
  refine ⟨by rw [List.length_take]; omega, by omega, h3, ?_, fun x hx => h5 x (List.mem_of_mem_take hx)⟩
  have := Shows.front h4 hm
  unfold Is
  rw [List.length_take, Nat.min_eq_left hm, cis_take]
  simpa using this

theorem ArgI.cut {w : World} {A : Option Addr} {n c : Nat} {l : List Int} (h : ArgI w A n c l) {m : Nat} (hm : m ≤ n) : ArgI w (cutAt A 1 m c) (n - m) (c - m) (l.drop m) := by
  obtain ⟨h1, h2, h3, h4, h5⟩ := h
  subst h1
  refine ⟨by rw [List.length_drop], by omega, by omega, ?_, fun x hx => h5 x (List.mem_of_mem_drop hx)⟩
  have := Shows.cut h4 hm h2
  unfold Is
  rw [List.length_drop, cis_drop]
  simpa using this

theorem NewI.later {w w1 w' : World} {l : List Int} {v : Value} (hb : Below w.heap.size w w1) (h : NewI w1 l v w') : NewI w l v w' := ⟨own_base h.1 hb.size, hb.trans (h.2.mono hb.size)⟩

end

end Go.Proofs.Ytenccpccpjjkmaa

namespace Go.Proofs.Ytenccpccpjjkmaa
open Go.RowKit Go.Shelf Go.Sort Go.Maps CrewP
set_option linter.unusedVariables false
set_option linter.unusedSimpArgs false

def msC (f : Int) (ab n cap : Nat) (lo : Mk) (tm : Nat) : List Value := .int .i64 f :: .slice (some ⟨ab, 0, none⟩) n cap :: (mkC lo ++ [.map (some tm)])
theorem msC_35 (f : Int) (ab n cap : Nat) (lo : Mk) (tm : Nat) : (msC f ab n cap lo tm)[35]? = some (.map (some tm)) := by
  unfold msC
  rw [show (35 : Nat) = 33 + 1 + 1 from rfl, List.getElem?_cons_succ, List.getElem?_cons_succ, List.getElem?_append_right (by rw [mkC_len]; exact Nat.le_refl _), mkC_len]
  rfl
theorem msC_lo (f : Int) (ab n cap : Nat) (lo : Mk) (tm : Nat) : ((msC f ab n cap lo tm).drop 2).take 33 = mkC lo := by
  show (mkC lo ++ [Value.map (some tm)]).take 33 = _
  rw [List.take_append_of_le_length (by rw [mkC_len]; exact Nat.le_refl _), List.take_of_length_le (by rw [mkC_len]; exact Nat.le_refl _)]
theorem msC_len (f : Int) (ab n cap : Nat) (lo : Mk) (tm : Nat) : (msC f ab n cap lo tm).length = 36 := by simp [msC, mkC_len]
/-- Marks at the block g; L: which node's row is where; role parts the blocks. -/
structure MsIn (w : World) (U : Nat → Prop) (g : Nat) (m : Ms) (ab cap tm : Nat) (L : List (Int × Sl)) (role : Nat → Nat) : Prop where
  ok : m.ok
  blk : Blk w g 64 (msC m.f ab m.ns.length cap m.lo tm)
  nd : ∃ cs, Blk w ab 3 cs ∧ cs.take m.ns.length = cis m.ns ∧ m.ns.length ≤ cap ∧ cap ≤ maxLen
  num : MapT intK slV w tm L
  key : ∀ p ∈ L, p.1 ∈ m.ns
  row : ∀ p ∈ L, RowM w p.2 (m.told p.1)
  non : ∀ n, (∀ p ∈ L, p.1 ≠ n) → m.told n = []
  rg : role g = 1
  ra : role ab = 2
  rm : role tm = 3
  rr : ∀ p ∈ L, role p.2.b = p.1.toNat + 4
  u : ∀ i, role i ≠ 0 → U i
  lt : ∀ i, U i → i < w.heap.size
def MsAt (w : World) (U : Nat → Prop) (g : Nat) (m : Ms) : Prop := ∃ ab cap tm L role, MsIn w U g m ab cap tm L role
def Gr (U : Nat → Prop) (w w' : World) (i : Nat) : Prop := U i ∨ (w.heap.size ≤ i ∧ i < w'.heap.size)
theorem ns_rng {f : Int} {ns : List Int} (h : okC f ns = true) : ∀ x ∈ ns, 1 ≤ x ∧ x ≤ 28 := ((okC_iff f ns).1 h).2.1
section
variable {w w' : World} {U U' S : Nat → Prop} {g : Nat} {m : Ms} {ab cap tm : Nat} {L : List (Int × Sl)} {role : Nat → Nat}
theorem MsIn.ug (h : MsIn w U g m ab cap tm L role) : U g := h.u g (by rw [h.rg]; omega)
theorem MsIn.out (h : MsIn w U g m ab cap tm L role) (ho : Out S w w') (hS : ∀ i, U i → ¬ S i) : MsIn w' U g m ab cap tm L role := by
  obtain ⟨cs, n1, n2⟩ := h.nd
  exact ⟨h.ok, ho.blk h.blk (hS g h.ug), ⟨cs, ho.blk n1 (hS ab (h.u _ (by rw [h.ra]; omega))), n2⟩, h.num.out ho (hS tm (h.u _ (by rw [h.rm]; omega))), h.key, fun p hp => (h.row p hp).out ho (hS _ (h.u _ (by rw [h.rr p hp]; omega))), h.non, h.rg, h.ra, h.rm, h.rr, h.u, fun i hi => Nat.lt_of_lt_of_le (h.lt i hi) ho.size⟩
theorem MsIn.below (h : MsIn w U g m ab cap tm L role) (hb : Below w.heap.size w w') : MsIn w' U g m ab cap tm L role :=
  h.out (S := fun i => w.heap.size ≤ i) (Out.ofBelow _ hb) fun i hi => by have := h.lt i hi; omega
theorem MsIn.wide (h : MsIn w U g m ab cap tm L role) (hU : ∀ i, U i → U' i) (hlt : ∀ i, U' i → i < w.heap.size) : MsIn w U' g m ab cap tm L role :=
  ⟨h.ok, h.blk, h.nd, h.num, h.key, h.row, h.non, h.rg, h.ra, h.rm, h.rr, fun i hi => hU i (h.u i hi), hlt⟩
theorem MsAt.out (h : MsAt w U g m) (ho : Out S w w') (hS : ∀ i, U i → ¬ S i) : MsAt w' U g m := let ⟨a, b, c, d, e, h⟩ := h; ⟨a, b, c, d, e, h.out ho hS⟩
theorem MsAt.below (h : MsAt w U g m) (hb : Below w.heap.size w w') : MsAt w' U g m := let ⟨a, b, c, d, e, h⟩ := h; ⟨a, b, c, d, e, h.below hb⟩
theorem MsAt.wide (h : MsAt w U g m) (hU : ∀ i, U i → U' i) (hlt : ∀ i, U' i → i < w.heap.size) : MsAt w U' g m := let ⟨a, b, c, d, e, h⟩ := h; ⟨a, b, c, d, e, h.wide hU hlt⟩
theorem MsAt.ok (h : MsAt w U g m) : m.ok := let ⟨a, b, c, d, e, h⟩ := h; h.ok
theorem MsAt.lt (h : MsAt w U g m) : ∀ i, U i → i < w.heap.size := let ⟨a, b, c, d, e, h⟩ := h; h.lt
theorem MsAt.ug (h : MsAt w U g m) : U g := let ⟨a, b, c, d, e, h⟩ := h; h.ug
theorem MsIn.arg (h : MsIn w U g m ab cap tm L role) : ArgI w (some ⟨ab, 0, none⟩) m.ns.length cap m.ns := by
  obtain ⟨cs, n1, n2, n3, n4⟩ := h.nd
  refine ⟨rfl, n3, n4, ⟨by rw [cis_length, Nat.mul_one], fun hn => ⟨ab, 0, rfl, n1.lt, fun j u hu => ?_⟩⟩, fun x hx => ?_⟩
  · rw [Nat.zero_add]
    refine n1.cell ?_
    rw [← n2, List.getElem?_take] at hu
    split at hu
    · exact hu
    · cases hu
  · have := ns_rng h.ok.crew x hx
    exact wf_b (by omega) (by omega)
theorem MsIn.len (h : MsIn w U g m ab cap tm L role) : m.ns.length ≤ 7 := by
  have := ((okC_iff m.f m.ns).1 h.ok.crew).1
  omega
/-- A node's row, or none. -/
theorem MsIn.rowN (h : MsIn w U g m ab cap tm L role) (n : Int) : RowN w (((lk L n).map slV).getD (.slice none 0 0)) (m.told n) (fun j => role j = n.toNat + 4) := by
  cases e : lk L n with
  | none => exact .inl ⟨rfl, h.non n fun p hp e' => lk_none e p.2 (by rw [← e']; exact hp)⟩
  | some s => exact .inr ⟨s, rfl, h.row _ (lk_some e), h.rr _ (lk_some e)⟩
theorem MsIn.look (h : MsIn w U g m ab cap tm L role) {n : Int} (hn : Wf n) : (Instr.lookup 62 (.map (some tm)) (.int .i64 n) false).run Try.prog w = .ok (((lk L n).map slV).getD (.slice none 0 0)) w :=
  h.num.look Try.underlying62 (z := .slice none 0 0) (by kernel_rfl) (a := n) hn
theorem MsIn.keys (h : MsIn w U g m ab cap tm L role) : L.length ≤ 7 := by
  have hnd := h.num.1.nd
  have h1 := List.Nodup.length_le_of_subset hnd (l₂ := m.ns) fun x hx => by
    obtain ⟨p, hp, rfl⟩ := List.mem_map.1 hx
    exact h.key p hp
  rw [List.length_map] at h1
  have := h.len
  omega
/-- A node's row is another one now. -/
theorem MsIn.set (h : MsIn w U g m ab cap tm L role) {n : Int} (hn : n ∈ m.ns) {s : Sl} {l : List Mk} {w1 w2 : World} (h1 : Out (fun j => role j = n.toNat + 4) w w1) (hr : RowM w1 s l) (hs : role s.b = n.toNat + 4 ∨ w.heap.size ≤ s.b)
    (h2 : Out (fun j => j = tm) w1 w2) (hM : MapT intK slV w2 tm (putL L n s)) (hok : (m.set n l).ok) :
    MsIn w2 (Gr U w w2) g (m.set n l) ab cap tm (putL L n s) (fun i => if i = s.b then n.toNat + 4 else if role i = n.toNat + 4 then 0 else role i) := by
  have hz1 := h1.size
  have hz2 := h2.size
  have hlt := h.lt
  have hold : ∀ i, role i ≠ 0 → i < w.heap.size := fun i hi => hlt i (h.u i hi)
  have hsb : ∀ i, role i ≠ 0 → role i ≠ n.toNat + 4 → i ≠ s.b := fun i hi hi2 e => hs.elim (fun e2 => hi2 (by rw [e]; exact e2)) fun e2 => by have := hold i hi; omega
  have hrole : ∀ i, role i ≠ 0 → role i ≠ n.toNat + 4 → (if i = s.b then n.toNat + 4 else if role i = n.toNat + 4 then 0 else role i) = role i := fun i h3 h4 => by rw [if_neg (hsb i h3 h4), if_neg h4]
  have hgt : g ≠ tm := fun e => by have := h.rg; have := h.rm; rw [e] at *; omega
  have hat : ab ≠ tm := fun e => by have := h.ra; have := h.rm; rw [e] at *; omega
  have hnd : ∀ p ∈ L, p.1 ≠ n → role p.2.b ≠ n.toNat + 4 := fun p hp hpn e => by
    have h3 := h.rr p hp
    have h4 := ns_rng h.ok.crew _ (h.key p hp)
    have h5 := ns_rng h.ok.crew _ hn
    exact hpn (by omega)
  obtain ⟨cs, n1, n2⟩ := h.nd
  have hput : ∀ p, p ∈ putL L n s ↔ p = (n, s) ∨ (p ∈ L ∧ p.1 ≠ n) := fun p => by
    unfold putL
    rw [List.mem_cons, List.mem_filter]
    simp
  refine ⟨hok, h2.blk (h1.blk h.blk (by rw [h.rg]; omega)) hgt, ⟨cs, h2.blk (h1.blk n1 (by rw [h.ra]; omega)) hat, n2⟩, hM, fun p hp => ?_, fun p hp => ?_, fun k hk => ?_, ?_, ?_, ?_, fun p hp => ?_, fun i hi => ?_, fun i hi => ?_⟩
  · rcases (hput p).1 hp with rfl | ⟨h3, _⟩
    · exact hn
    · exact h.key p h3
  · rcases (hput p).1 hp with rfl | ⟨h3, h4⟩
    · show RowM w2 s (if n = n then l else _)
      rw [if_pos rfl]
      refine hr.out h2 ?_
      rcases hs with e | e
      · intro e2; rw [e2, h.rm] at e; omega
      · intro e2; have := h.num.lt; omega
    · show RowM w2 p.2 (if p.1 = n then l else m.told p.1)
      rw [if_neg h4]
      exact ((h.row p h3).out h1 (hnd p h3 h4)).out h2 fun e => by have := h.rr p h3; have e : p.2.b = tm := e; rw [e, h.rm] at this; omega
  · have hkn : k ≠ n := fun e => hk (n, s) ((hput _).2 (.inl rfl)) e.symm
    show (if k = n then l else m.told k) = []
    rw [if_neg hkn]
    exact h.non k fun p hp e => hk p ((hput p).2 (.inr ⟨hp, by rw [e]; exact hkn⟩)) e
  · have := hrole g (by rw [h.rg]; omega) (by rw [h.rg]; omega)
    rw [this]; exact h.rg
  · have := hrole ab (by rw [h.ra]; omega) (by rw [h.ra]; omega)
    rw [this]; exact h.ra
  · have := hrole tm (by rw [h.rm]; omega) (by rw [h.rm]; omega)
    rw [this]; exact h.rm
  · rcases (hput p).1 hp with rfl | ⟨h3, h4⟩
    · simp
    · have h5 := h.rr p h3
      have := hrole p.2.b (by omega) (hnd p h3 h4)
      rw [this]; exact h5
  · by_cases e : i = s.b
    · rcases hs with e2 | e2
      · exact .inl (h.u i (by rw [e, e2]; omega))
      · exact .inr ⟨by omega, by have := hr.lt; omega⟩
    · simp only [if_neg e] at hi
      split at hi
      · exact absurd rfl hi
      · exact .inl (h.u i hi)
  · rcases hi with h3 | h3
    · have := hlt i h3; omega
    · exact h3.2
end
theorem turned_out {w w' : World} {m : Nat} (h : w.mapTurned w' m) : Out (fun i => i = m) w w' :=
  let g := h.grown
  ⟨g.os, g.tape, g.output, g.size, fun i hi hn => g.block i hi fun e => hn (Option.some.inj e)⟩
theorem op_mapUpdate {P : Program} {ops : Array Oper} {Q : Exit → Act → World → Prop} {i : Nat} {oi : Oper} {a : Act} {w : World} {K : Act → World → Prop} (hi : ops[i]? = some oi) (hd : oi.dst = none) (hgd : oi.guard = none) (t : TypeId) (m x y : Operand) (ho : oi.op = .mapUpdate t m x y)
    (M X Y : Value) (w' : World) (hm : a.eval m = M) (hx : a.eval x = X) (hy : a.eval y = Y) (hrun : (Instr.mapUpdate t M X Y).run P w = .ok () w') (h : K a w') : wpOp P ops Q i K a w := by
  refine wpOp_step hi (fun K' hK => ?_)
  have hw : Region.wanted oi (yielded ops a.tmps) = true := by unfold Region.wanted; rw [hgd]
  rw [if_pos hw]
  unfold Oper.wp
  simp [execOp, ho, hm, hx, hy, hrun, Result.andThen]
  have h' : K (a.put oi.dst undef) w' := by rw [hd]; exact h
  exact hK _ _ h'

section
variable {w w' : World} {U U' S : Nat → Prop} {g : Nat} {m : Ms} {ab cap tm : Nat} {L : List (Int × Sl)} {role : Nat → Nat}
set_option maxRecDepth 100000 in
theorem none_in (h : MsIn w U g m ab cap tm L role) : Calls Try.prog 31 #[.pointer (some ⟨g, 0, none⟩)] w fun e w' => e = .returned (.bool false) ∧ w' = w := by
  have c35 := h.blk.cell (msC_35 _ _ _ _ _ _)
  have he := run_eql_map_nil (P := Try.prog) w 62 _ _ (some tm) Try.underlying62
  clear h
  go_enter Try.func31, Try.ntmps31
  go_wp2
  go_ret
  exact ⟨rfl, rfl⟩
end
end Go.Proofs.Ytenccpccpjjkmaa

namespace Go.Proofs.Ytenccpccpjjkmaa
open Go.RowKit Go.Shelf Go.Sort Go.Maps CrewP
set_option linter.unusedVariables false
set_option linter.unusedSimpArgs false

theorem results_row {P : Program} {fn : Func} {p : Tmp} {ty : TypeId} (h : fn.results = #[.cell p ty]) (tmps : Array Value) (w : World) (g : Nat) (t : TypeId) (cs : Array Value) (d : TypeDesc)
    (hp : tmps.getD p undef = .pointer (some ⟨g, 0, none⟩)) (hg : w.heap[g]? = some (.cells cs t (0, 0)))
    (hu : P.underlying ty = some d) (hd : (match d with | .struct _ | .array _ _ => true | _ => false) = true) (hi : (P.info? ty).map (·.size) = some cs.size) :
    (results fn tmps).run P w = .ok (.agg cs) w := by
  have hp' : tmps[p]?.getD undef = .pointer (some ⟨g, 0, none⟩) := by simpa using hp
  simp [results, h, hp', asAddr, run_loadVar_row w g t ty cs (0, 0) d hg hu hd hi]
theorem build_none (w : World) : (Instr.buildSlice 54 0 #[]).run Try.prog w = .ok (.slice (some ⟨w.heap.size, 0, none⟩) 0 0) (w.alloc (.cells #[] 28)) := by kernel_rfl
set_option maxRecDepth 100000 in
theorem cloneM_any {w : World} {v : Value} {l : List Mk} {b : Nat → Prop} (h : RowN w v l b) (hl : l.length ≤ 1000) :
    Calls Try.prog 45 #[v] w fun e w' => ∃ v', e = .returned v' ∧ RowN w' v' l (fun j => w.heap.size ≤ j) ∧ Below w.heap.size w w' := by
  rcases h with ⟨rfl, rfl⟩ | ⟨s, rfl, hr, hb⟩
  · have he := Lib.run_eql_slice_nil (P := Try.prog) w 54 _ none 0 0 0 0 Try.underlying54
    go_enter Try.func45, Try.ntmps45
    go_wp2
    go_ret
    exact ⟨_, rfl, .inl ⟨rfl, rfl⟩, Below.refl _ _⟩
  · obtain ⟨i0, hi, hz0, hz1, hz2⟩ := info_parts mark_info
    have b1 : Below w.heap.size w (w.alloc (.cells #[] 28)) := (Below.refl _ _).alloc (Nat.le_refl _) _
    have r1 := hr.below b1 hr.lt
    have hn := hr.len
    have hgrow : ∃ v' w', (Builtin.append_ #[54, 54] 54 #[.slice (some ⟨w.heap.size, 0, none⟩) 0 0, slV s]).run Try.prog (w.alloc (.cells #[] 28)) = .ok v' w' ∧ RowN w' v' l (fun j => w.heap.size ≤ j) ∧ Below w.heap.size w w' := by
      obtain ⟨W, hW⟩ : ∃ W, w.alloc (.cells #[] 28) = W := ⟨_, rfl⟩
      have B1 : Blk W w.heap.size 28 [] := by rw [← hW]; exact Blk.new rfl rfl
      have zW : W.heap.size = w.heap.size + 1 := by rw [← hW]; simp
      rw [hW] at r1 b1 ⊢
      by_cases h0 : s.n = 0
      · have hl0 : l = [] := List.eq_nil_of_length_eq_zero (by omega)
        subst hl0
        have hrun := run_append_room_cells (P := Try.prog) W 54 54 28 i0 Try.underlying54 hi w.heap.size 0 0 0 ⟨s.b, s.o, none⟩ s.n s.c [] (by rw [h0]; simp) (fun j u hu => by cases hu) (fun u hu => by cases hu) (by omega) (fun j hj => by simp at hj) (fun j hj => by simp at hj)
        refine ⟨_, _, hrun, .inr ⟨⟨w.heap.size, 0, 0, 0⟩, by rw [h0]; rfl, ⟨rfl, Nat.le_refl _, Nat.zero_le _, [], B1, by simp, rfl⟩, Nat.le_refl _⟩, b1⟩
      · have hge := grownCap_ge W (0 + s.n) 0 28
        have hcm := grownCap_le_maxLen W (0 + s.n) 0 28 (by unfold maxLen; omega)
        have hrun := run_append_grow (P := Try.prog) W 54 54 28 i0 _ Try.underlying54 hi hz0 ⟨w.heap.size, 0, none⟩ 0 0 [] (by simp) (fun j u hu => by cases hu) ⟨s.b, s.o, none⟩ s.n s.c (mks l) (by rw [mks_len, hn, hz1]) (fun j u hu => by rw [add_mk]; exact r1.cells j u hu) (by omega) (by omega) (growslice_fits (by omega) (by rw [hz2]; omega))
        refine ⟨_, _, hrun, .inr ⟨⟨W.heap.size, 0, 0 + s.n, grownCap W (0 + s.n) 0 28⟩, rfl, ⟨by show l.length = 0 + s.n; omega, hge, hcm, (([] : List Value).toArray ++ (mks l).toArray ++ Builtin.zeroCells (Value.agg (mkC mk0).toArray).cells (grownCap W (0 + s.n) 0 28 - (0 + s.n))).toList, heap_alloc_new W.drew _, ?_, ?_⟩, by show w.heap.size ≤ W.heap.size; omega⟩, (b1.drew).alloc (by simp; omega) _⟩
        · simp only [Array.length_toList, Array.size_append, List.size_toArray, zeros_len, mks_len, Array.size_empty]
          show 0 + _ * 33 ≤ _
          omega
        · simp only [Array.toList_append, List.drop_zero, List.nil_append]
          rw [List.take_append_of_le_length (by rw [mks_len]; show (0 + s.n) * 33 ≤ _; omega), List.take_of_length_le (by rw [mks_len]; show _ ≤ (0 + s.n) * 33; omega)]
    obtain ⟨v', w', hrun, h1, h2⟩ := hgrow
    have H := Lib.hid (And.intro h1 h2)
    have HR := Lib.hid (And.intro (build_none w) hrun)
    clear h1 h2 hrun r1 b1 hr hb hn
    obtain ⟨bb, oo, nn, cc⟩ := s
    simp only [slV] at *
    have he := Lib.run_eql_slice_nil (P := Try.prog) w 54 _ (some ⟨bb, oo, none⟩) nn cc 0 0 Try.underlying54
    go_enter Try.func45, Try.ntmps45
    go_wp2_with (first
      | (refine row_g rfl 54 0 _ rfl _ _ (by simp only [List.map_toArray, List.map_cons, List.map_nil]; exact HR.out.1) ?_; simp only [Act.put])
      | (at_builtin; refine app_g rfl _ _ _ _ rfl _ _ _ _ rfl rfl HR.out.2 ?_; simp only [Act.put]))
    go_ret
    exact ⟨_, rfl, H.out⟩

section
variable {w w' : World} {U U' S : Nat → Prop} {g : Nat} {m : Ms} {ab cap tm : Nat} {L : List (Int × Sl)} {role : Nat → Nat}
set_option maxRecDepth 100000 in
theorem of_in (h : MsIn w U g m ab cap tm L role) {n : Int} (hn : Wf n) :
    Calls Try.prog 22 #[.pointer (some ⟨g, 0, none⟩), .int .i64 n] w fun e w' => ∃ v', e = .returned v' ∧ RowN w' v' (m.told n) (fun j => w.heap.size ≤ j) ∧ Below w.heap.size w w' := by
  have Hn := Lib.hid (none_in h)
  have hl := h.look hn
  have HC := Lib.hid (cloneM_any (h.rowN n) (by have := h.ok.len n; omega))
  have c35 := h.blk.cell (msC_35 _ _ _ _ _ _)
  clear h
  generalize ((lk L n).map slV).getD (.slice none 0 0) = v at *
  generalize m.told n = l at *
  go_enter Try.func22, Try.ntmps22
  go_wp2_with (first
    | (go_at_call 31; refine Hn.out.mono ?_; rintro e w' ⟨rfl, hww⟩; obtain rfl := hww.symm)
    | (go_at_call 45; refine HC.out.mono ?_; rintro e w' ⟨v', rfl, hh⟩; replace hh := Lib.hid hh))
  go_ret
  exact ⟨v', rfl, hh.out⟩
set_option maxRecDepth 100000 in
theorem low_in (h : MsIn w U g m ab cap tm L role) :
    Calls Try.prog 23 #[.pointer (some ⟨g, 0, none⟩)] w fun e w' => e = .returned (.agg (mkC m.lo).toArray) ∧ Below w.heap.size w w' := by
  have hal : Below w.heap.size w (w.alloc (.cells (mkC mk0).toArray 28)) := (Below.refl _ _).alloc (Nat.le_refl _) _
  have h1 := h.below hal
  have Hn := Lib.hid (none_in h1)
  obtain ⟨w2, hw2, ⟨hth, hi⟩, hb2, hbe, hs2⟩ := row_local w 28 (mkC mk0) (mkC m.lo) (by rw [mkC_len, mkC_len]) (by rw [mkC_len]; exact mark_info1)
  have H := Lib.hid (And.intro hth (And.intro hi (And.intro (mkC_oneA m.lo) (And.intro hw2 (And.intro hb2 (And.intro hbe (And.intro (h1.blk.rangeFrom (msC_lo _ _ _ _ _ _)) (mark_infoL m.lo))))))))
  clear h h1 hth hi hw2 hb2 hbe hs2 hal
  generalize mkC m.lo = C at *
  generalize hZ : mkC mk0 = Z at *
  go_enter Try.func23, Try.ntmps23
  subst hZ
  go_wp2_with (first
    | (go_at_call 31; refine Hn.out.mono ?_; rintro e w' ⟨rfl, rfl⟩)
    | (refine load_mid_g rfl 28 _ rfl g 2 rfl C _ H.out.2.2.2.2.2.2.1 Try.underlying28 rfl H.out.2.2.2.2.2.2.2 ?_; simp only [Act.put])
    | (refine wpList_store_mid rfl 28 _ _ rfl w.heap.size 0 C.toArray rfl rfl H.out.1 H.out.2.1 H.out.2.2.1 ?_; simp only [Act.put]; refine cast (congrArg (fun z => wpList _ _ _ _ _ z) H.out.2.2.2.1.symm) ?_))
  refine bodyPost_ret (results_row rfl _ _ w.heap.size 28 C.toArray _ rfl H.out.2.2.2.2.1 Try.underlying28 rfl H.out.2.1) rfl ?_
  exact ⟨rfl, H.out.2.2.2.2.2.1⟩
end
end Go.Proofs.Ytenccpccpjjkmaa
