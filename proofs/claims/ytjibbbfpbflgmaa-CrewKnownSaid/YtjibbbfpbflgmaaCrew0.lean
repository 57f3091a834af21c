/-
  The crew's small calls over the code: isNode, isSize, areRising, Check.
-/
import Derived.Test.YtjibbbfpbflgmaaInts
import Derived.Test.YtjibbbfpbflgmaaCrewQ
import Derived.Deep.QuietTactic
namespace Go.Proofs.Ytjibbbfpbflgmaa
open Go.RowKit CrewP
set_option linter.unusedVariables false

theorem isNode_any (n : Int) (w : World) : Calls Try.prog 54 #[.int .i64 n] w fun e w' => e = .returned (.bool (isN n)) ∧ w' = w := by
  by_cases h1 : (1 : Int) ≤ n
  · by_cases h2 : n ≤ 28
    · have e : isN n = true := by simp [isN, h1, h2]
      rw [e]; clear e
      go_enter Try.func54, Try.ntmps54
      go_wp2
      go_ret
      exact ⟨rfl, rfl⟩
    · have e : isN n = false := by simp [isN, h1, h2]
      rw [e]; clear e
      go_enter Try.func54, Try.ntmps54
      go_wp2
      go_ret
      exact ⟨rfl, rfl⟩
  · have e : isN n = false := by simp [isN, h1]
    rw [e]; clear e
    go_enter Try.func54, Try.ntmps54
    go_wp2
    go_ret
    exact ⟨rfl, rfl⟩

theorem isSize_any (f n : Int) (w : World) : Calls Try.prog 45 #[.int .i64 f, .int .i64 n] w fun e w' => e = .returned (.bool (sizeOk f n)) ∧ w' = w := by
  by_cases h1 : (0 : Int) ≤ f
  · by_cases h2 : f ≤ 2
    · have hm : IntKind.i64.wrap (3 * f) = 3 * f := IntWalk.i64_in _ (by omega)
      have ha : IntKind.i64.wrap (3 * f + 1) = 3 * f + 1 := IntWalk.i64_in _ (by omega)
      by_cases h3 : n = 3 * f + 1
      · have e : sizeOk f n = true := by simp [sizeOk, h1, h2, h3]
        have hq : (n == 3 * f + 1) = true := by simp [h3]
        rw [e]; clear e
        go_enter Try.func45, Try.ntmps45
        go_wp2
        go_ret
        exact ⟨rfl, rfl⟩
      · have e : sizeOk f n = false := by simp [sizeOk, h1, h2, h3]
        have hq : (n == 3 * f + 1) = false := by simp [h3]
        rw [e]; clear e
        go_enter Try.func45, Try.ntmps45
        go_wp2
        go_ret
        exact ⟨rfl, rfl⟩
    · have e : sizeOk f n = false := by simp [sizeOk, h1, h2]
      rw [e]; clear e
      go_enter Try.func45, Try.ntmps45
      go_wp2
      go_ret
      exact ⟨rfl, rfl⟩
  · have e : sizeOk f n = false := by simp [sizeOk, h1]
    rw [e]; clear e
    go_enter Try.func45, Try.ntmps45
    go_wp2
    go_ret
    exact ⟨rfl, rfl⟩

theorem last_snoc (l : List Int) (x a : Int) : (l ++ [x]).getLastD a = x := by rw [List.getLastD_eq_getLast?]; simp
theorem rise_cut (l : List Int) (a : Int) {j : Nat} (hj : j < l.length) (h : (isN l[j] && decide ((l.take j).getLastD a < l[j])) = false) : rise a l = false := by
  cases hr : rise a l with
  | false => rfl
  | true =>
    exfalso
    have e : l.take (j + 1) = l.take j ++ [l[j]] := by rw [List.take_succ_eq_append_getElem hj]
    rw [rise_iff] at hr
    have h2 : rise a (l.take (j + 1)) = true := (rise_iff _ _).2 ⟨fun x hx => hr.1 x (List.mem_of_mem_take hx), hr.2.sublist (List.take_sublist ..)⟩
    rw [e, rise_snoc, h, Bool.and_false] at h2
    cases h2

set_option maxRecDepth 100000 in
theorem areRising_any (A : Option Addr) (n c : Nat) (l : List Int) (w : World) (h : ArgI w A n c l) : Calls Try.prog 49 #[.slice A n c] w fun e w' => e = .returned (.bool (rise 0 l)) ∧ w' = w := by
  have hcm := h.2.2.1
  unfold maxLen at hcm
  have hnc := h.2.1
  have hln := h.1
  have H := Lib.hid h
  clear h
  obtain ⟨r, hr0⟩ : ∃ r, rise 0 l = r := ⟨_, rfl⟩
  rw [hr0]
  have Hr := Lib.hid hr0
  clear hr0
  go_enter Try.func49, Try.ntmps49
  go_wp2
  go_loopw [3, 8] (fun v3 v8 wr => ∃ j : Nat, j ≤ n ∧ v8 = .int .i64 j ∧ v3 = .int .i64 ((l.take j).getLastD 0) ∧ rise 0 (l.take j) = true ∧ wr = w) (fun _ v _ => n - (intOf v).toNat)
  case atStart => exact ⟨0, Nat.zero_le _, rfl, rfl, rfl, rfl⟩
  case round =>
    obtain ⟨j, hj, rfl, rfl, hr, rfl⟩ := hrel
    have hi0 : (0 : Int) ≤ j := by omega
    by_cases hlt : j < n
    · have hi1 : (j : Int) < n := by omega
      have hjl : j < l.length := by omega
      obtain ⟨b1, o1, rfl, l1, q1⟩ := H.out.2.2.2.1.at_ hjl
      have c1 := q1 j hjl
      have hcut := rise_cut l 0 hjl
      have hsn := rise_snoc 0 (l.take j) l[j]
      have hlast : (l.take (j + 1)).getLastD 0 = l[j] := by rw [List.take_succ_eq_append_getElem hjl, last_snoc]
      rw [← List.take_succ_eq_append_getElem hjl, hr, Bool.true_and] at hsn
      have Hl := Lib.hid (And.intro hcut (And.intro hsn hlast))
      clear hcut hsn hlast q1 hr
      generalize (l.take j).getLastD 0 = y at *
      generalize l[j] = x at *
      clear hjl
      have HN := Lib.hid (isNode_any x wr)
      obtain ⟨z, hz⟩ : ∃ z, isN x = z := ⟨_, rfl⟩
      rw [hz] at HN Hl
      clear hz
      cases z with
      | false =>
        have hrf : r = false := by rw [← Hr.out]; exact Hl.out.1 (by simp)
        subst hrf
        clear Hl
        go_wp2_with (go_at_call 54; refine HN.out.mono ?_; rintro e w' ⟨rfl, rfl⟩)
        go_ret
        exact ⟨rfl, rfl⟩
      | true =>
        by_cases hyx : y < x
        · have hyx' : ¬ x ≤ y := by omega
          go_wp2_with (go_at_call 54; refine HN.out.mono ?_; rintro e w' ⟨rfl, rfl⟩)
          exact ⟨⟨j + 1, by omega, by go_num, by rw [Hl.out.2.2], by rw [Hl.out.2.1]; simp [hyx], trivial⟩, by simp [intOf]; omega⟩
        · have hyx' : x ≤ y := by omega
          have hrf : r = false := by rw [← Hr.out]; exact Hl.out.1 (by simp [hyx])
          subst hrf
          clear Hl
          go_wp2_with (go_at_call 54; refine HN.out.mono ?_; rintro e w' ⟨rfl, rfl⟩)
          go_ret
          exact ⟨rfl, rfl⟩
    · have hi1 : ¬ (j : Int) < n := by omega
      rw [List.take_of_length_le (by omega)] at hr
      have hrf : r = true := by rw [← Hr.out, hr]
      subst hrf
      clear hr
      go_wp2
      go_ret
      exact ⟨rfl, rfl⟩

/-- A crew as a value. -/
def crewV (f : Int) (A : Option Addr) (n c : Nat) : Value := .agg #[.int .i64 f, .slice A n c]
/-- What Check answers. -/
def chkE (f : Int) (l : List Int) : Int := if okC f l then 0 else 110

theorem check_any (f : Int) (A : Option Addr) (n c : Nat) (l : List Int) (w : World) (h : ArgI w A n c l) : Calls Try.prog 20 #[.agg #[.int .i64 f, .slice A n c]] w fun e w' => e = .returned (.int .i64 (chkE f l)) ∧ Below w.heap.size w w' := by
  have hb : Below w.heap.size w (w.alloc (.cells #[.int .i64 f, .slice A n c] 24)) := (Below.refl _ _).alloc (Nat.le_refl _) _
  have hA := areRising_any A n c l _ (h.after hb)
  have hS := isSize_any f n (w.alloc (.cells #[.int .i64 f, .slice A n c] 24))
  have hln := h.1
  have H := Lib.hid (And.intro hA (And.intro hS hb))
  clear hA hS hb h
  obtain ⟨z, hz⟩ : ∃ z, sizeOk f n = z := ⟨_, rfl⟩
  obtain ⟨y, hy⟩ : ∃ y, rise 0 l = y := ⟨_, rfl⟩
  have e : chkE f l = if z && y then 0 else 110 := by unfold chkE okC; rw [hln, hz, hy]
  rw [e]
  rw [hz, hy] at H
  clear hz hy e
  cases z <;> cases y
  all_goals
    go_enter Try.func20, Try.ntmps20
    go_wp2_with (first | (go_at_call 45; refine H.out.2.1.mono ?_; rintro e w' ⟨rfl, rfl⟩) | (go_at_call 49; refine H.out.1.mono ?_; rintro e w' ⟨rfl, rfl⟩))
    go_ret
    exact ⟨rfl, H.out.2.2⟩
end Go.Proofs.Ytjibbbfpbflgmaa
