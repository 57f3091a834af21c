/-
  The document's crew over the reference's code: node, in, Check.
-/
import Derived.Test.YtjibbbfpbflgmaaCrew1
import Derived.BigQuiet
namespace Go.Proofs.Ytjibbbfpbflgmaa
open Go.RowKit CrewP
set_option linter.unusedVariables false

theorem rnode_any (n : Int) (w : World) : Calls Try.prog 50 #[.int .i64 n] w fun e w' => e = .returned (.bool (isN n)) ∧ w' = w := by
  by_cases h1 : (1 : Int) ≤ n
  · by_cases h2 : n ≤ 28
    · have e : isN n = true := by simp [isN, h1, h2]
      rw [e]; clear e
      go_enter Try.func50, Try.ntmps50
      go_wp2
      go_ret
      exact ⟨rfl, rfl⟩
    · have e : isN n = false := by simp [isN, h1, h2]
      rw [e]; clear e
      go_enter Try.func50, Try.ntmps50
      go_wp2
      go_ret
      exact ⟨rfl, rfl⟩
  · have e : isN n = false := by simp [isN, h1]
    rw [e]; clear e
    go_enter Try.func50, Try.ntmps50
    go_wp2
    go_ret
    exact ⟨rfl, rfl⟩

theorem rin_any (A : Option Addr) (n c : Nat) (l : List Int) (x : Int) (w : World) (h : ArgI w A n c l) : Calls Try.prog 53 #[.slice A n c, .int .i64 x] w fun e w' => e = .returned (.bool (decide (x ∈ l))) ∧ w' = w := by
  have hcm := h.2.2.1
  unfold maxLen at hcm
  have hnc := h.2.1
  have hln := h.1
  have H := Lib.hid h
  clear h
  obtain ⟨r, hr0⟩ : ∃ r, decide (x ∈ l) = r := ⟨_, rfl⟩
  rw [hr0]
  have Hr := Lib.hid hr0
  clear hr0
  go_enter Try.func53, Try.ntmps53
  go_wp2
  go_loopw [5] (fun v5 wr => ∃ j : Nat, j ≤ n ∧ v5 = .int .i64 j ∧ x ∉ l.take j ∧ wr = w) (fun v _ => n - (intOf v).toNat)
  case atStart => exact ⟨0, Nat.zero_le _, rfl, by simp, rfl⟩
  case round =>
    obtain ⟨j, hj, rfl, hni, rfl⟩ := hrel
    have hi0 : (0 : Int) ≤ j := by omega
    by_cases hlt : j < n
    · have hi1 : (j : Int) < n := by omega
      have hjl : j < l.length := by omega
      obtain ⟨b1, o1, rfl, l1, q1⟩ := H.out.2.2.2.1.at_ hjl
      have c1 := q1 j hjl
      have hmem : l[j] ∈ l := List.getElem_mem hjl
      have hts : l.take (j + 1) = l.take j ++ [l[j]] := List.take_succ_eq_append_getElem hjl
      generalize l[j] = y at *
      have Hl := Lib.hid (And.intro hmem (And.intro hts hni))
      clear hmem hts hni q1 hjl
      by_cases hxy : y = x
      · have hrt : r = true := by rw [← Hr.out, ← hxy]; exact decide_eq_true Hl.out.1
        subst hrt
        subst hxy
        clear Hl
        go_wp2
        go_ret
        exact ⟨rfl, rfl⟩
      · have hyx : (y == x) = false := by simp [hxy]
        go_wp2
        refine ⟨⟨j + 1, by omega, by go_num, ?_, trivial⟩, by simp [intOf]; omega⟩
        rw [Hl.out.2.1, List.mem_append, List.mem_singleton]
        rintro (h | h)
        · exact Hl.out.2.2 h
        · exact hxy h.symm
    · have hi1 : ¬ (j : Int) < n := by omega
      rw [List.take_of_length_le (by omega)] at hni
      have hrf : r = false := by rw [← Hr.out]; exact decide_eq_false hni
      subst hrf
      clear hni
      go_wp2
      go_ret
      exact ⟨rfl, rfl⟩

theorem rise_at {l : List Int} {j : Nat} (hj : j < l.length) (hr : rise 0 (l.take j) = true) : rise 0 (l.take (j + 1)) = (isN l[j] && decide (∀ (h : 0 < j), l[j - 1] < l[j])) := by
  have hsn := rise_snoc 0 (l.take j) l[j]
  rw [← List.take_succ_eq_append_getElem hj, hr, Bool.true_and] at hsn
  rw [hsn]
  cases hN : isN l[j] with
  | false => rfl
  | true =>
    rw [Bool.true_and, Bool.true_and]
    apply decide_eq_decide.2
    have hN2 := (isN_iff _).1 hN
    cases j with
    | zero => simp; omega
    | succ j =>
      rw [List.take_succ_eq_append_getElem (by omega), last_snoc]
      simp

set_option maxRecDepth 100000 in
set_option maxHeartbeats 1600000 in
theorem rcheck_any (f : Int) (A : Option Addr) (n c : Nat) (l : List Int) (w : World) (h : ArgI w A n c l) : Calls Try.prog 21 #[.agg #[.int .i64 f, .slice A n c]] w fun e w' => e = .returned (.int .i64 (chkE f l)) ∧ Below w.heap.size w w' := by
  have hln := h.1
  have hcm := h.2.2.1
  unfold maxLen at hcm
  have hnc := h.2.1
  have hx := Lib.hid (Bx.new (f := f) h)
  have hb0 : Below w.heap.size w (w.alloc (.cells #[.int .i64 f, .slice A n c] 24)) := (Below.refl _ _).alloc (Nat.le_refl _) _
  by_cases hsz : 0 ≤ f ∧ f ≤ 2 ∧ (n : Int) = 3 * f + 1
  · obtain ⟨h0, h1, h2⟩ := hsz
    have hso : sizeOk f l.length = true := (sizeOk_iff _ _).2 ⟨h0, h1, by rw [hln]; exact h2⟩
    obtain ⟨r, hr0⟩ : ∃ r, rise 0 l = r := ⟨_, rfl⟩
    have e : chkE f l = if r then 0 else 110 := by unfold chkE okC; rw [hso, hr0, Bool.true_and]
    rw [e]
    have Hr := Lib.hid hr0
    clear hr0 e hso h
    have hm : IntKind.i64.wrap (3 * f) = 3 * f := IntWalk.i64_in _ (by omega)
    have ha : IntKind.i64.wrap (3 * f + 1) = 3 * f + 1 := IntWalk.i64_in _ (by omega)
    have hq : ((n : Int) == 3 * f + 1) = true := by simp [h2]
    go_enter Try.func21, Try.ntmps21
    go_wp2
    go_loopw [3] (fun v3 wr => ∃ j : Nat, j ≤ n ∧ v3 = .int .i64 j ∧ rise 0 (l.take j) = true ∧ Bx w wr f A n c l) (fun v _ => n - (intOf v).toNat)
    case atStart => exact ⟨0, Nat.zero_le _, rfl, rfl, hx.out⟩
    case round =>
      obtain ⟨j, hj, rfl, hr, hxr⟩ := hrel
      have hi0 : (0 : Int) ≤ j := by omega
      have k0 := hxr.k0
      have k1 := hxr.k1
      by_cases hlt : j < n
      · have hi1 : (j : Int) < n := by omega
        have hjl : j < l.length := by omega
        obtain ⟨b1, o1, rfl, l1, q1⟩ := hxr.arg.2.2.2.1.at_ hjl
        have c1 := q1 j hjl
        have hra := rise_at hjl hr
        have HN := Lib.hid (fun W => rnode_any l[j] W)
        have hcut : rise 0 (l.take (j + 1)) = false → r = false := fun h => by
          rw [← Hr.out]
          cases hrl : rise 0 l with
          | false => rfl
          | true =>
            have := (rise_iff 0 l).1 hrl
            have h2 : rise 0 (l.take (j + 1)) = true := (rise_iff _ _).2 ⟨fun x hx => this.1 x (List.mem_of_mem_take hx), this.2.sublist (List.take_sublist ..)⟩
            rw [h] at h2; cases h2
        have Hxr := Lib.hid hxr
        by_cases hj0 : 0 < j
        · have hj1 : (0 : Int) < j := by omega
          have hjs : IntKind.i64.wrap ((j : Int) - 1) = ((j - 1 : Nat) : Int) := by rw [IntWalk.i64_in _ (by omega)]; omega
          have hjm : ((j - 1 : Nat) : Int) < n := by omega
          have hjm0 : (0 : Int) ≤ ((j - 1 : Nat) : Int) := by omega
          have hjl1 : j - 1 < l.length := by omega
          have c2 := q1 (j - 1) hjl1
          have hra' : rise 0 (l.take (j + 1)) = (isN l[j] && decide (l[j - 1] < l[j])) := by rw [hra]; congr 1; exact decide_eq_decide.2 ⟨fun h => h hj0, fun h _ => h⟩
          have Hl := Lib.hid (And.intro hra' hcut)
          generalize l[j] = x at *
          generalize l[j - 1] = y at *
          clear hra hra' hcut q1 hr hxr
          cases hz : isN x with
          | false =>
            have hrf : r = false := Hl.out.2 (by rw [Hl.out.1, hz]; rfl)
            subst hrf
            have HN2 := Lib.hid (fun W => by have := HN.out W; rw [hz] at this; exact this)
            clear Hl HN hz
            go_wp2_with fail
            go_quiet ((go_at_call 50; exact Calls.quiet_of_same (HN2.out _)))
            go_wp2
            go_ret
            exact ⟨rfl, (Hxr.out.drewN _).bel⟩
          | true =>
            have HN2 := Lib.hid (fun W => by have := HN.out W; rw [hz] at this; exact this)
            by_cases hyx : x ≤ y
            · have hrf : r = false := Hl.out.2 (by rw [Hl.out.1, hz]; simp; omega)
              subst hrf
              clear Hl HN hz
              go_wp2_with fail
              go_quiet ((go_at_call 50; exact Calls.quiet_of_same (HN2.out _)))
              go_wp2
              go_ret
              exact ⟨rfl, (Hxr.out.drewN _).bel⟩
            · have hnext : rise 0 (l.take (j + 1)) = true := by rw [Hl.out.1, hz]; simp; omega
              have Hn := Lib.hid hnext
              clear Hl HN hz hnext
              go_wp2_with fail
              go_quiet ((go_at_call 50; exact Calls.quiet_of_same (HN2.out _)))
              go_wp2
              exact ⟨⟨j + 1, by omega, by go_num, Hn.out, Hxr.out.drewN _⟩, by simp [intOf]; omega⟩
        · have hj1 : ¬ (0 : Int) < j := by omega
          have hra' : rise 0 (l.take (j + 1)) = isN l[j] := by rw [hra]; simp [show j = 0 by omega]
          have Hl := Lib.hid (And.intro hra' hcut)
          generalize l[j] = x at *
          clear hra hra' hcut q1 hr hxr
          cases hz : isN x with
          | false =>
            have hrf : r = false := Hl.out.2 (by rw [Hl.out.1, hz])
            subst hrf
            have HN2 := Lib.hid (fun W => by have := HN.out W; rw [hz] at this; exact this)
            clear Hl HN hz
            go_wp2_with fail
            go_quiet ((go_at_call 50; exact Calls.quiet_of_same (HN2.out _)))
            go_wp2
            go_ret
            exact ⟨rfl, (Hxr.out.drewN _).bel⟩
          | true =>
            have HN2 := Lib.hid (fun W => by have := HN.out W; rw [hz] at this; exact this)
            have hnext : rise 0 (l.take (j + 1)) = true := by rw [Hl.out.1, hz]
            have Hn := Lib.hid hnext
            clear Hl HN hz hnext
            go_wp2_with fail
            go_quiet ((go_at_call 50; exact Calls.quiet_of_same (HN2.out _)))
            go_wp2
            exact ⟨⟨j + 1, by omega, by go_num, Hn.out, Hxr.out.drewN _⟩, by simp [intOf]; omega⟩
      · have hi1 : ¬ (j : Int) < n := by omega
        rw [List.take_of_length_le (by omega)] at hr
        have hrf : r = true := by rw [← Hr.out, hr]
        subst hrf
        clear hr
        have Hxr := Lib.hid hxr
        clear hxr
        go_wp2
        go_ret
        exact ⟨rfl, Hxr.out.bel⟩
  · have e : chkE f l = 110 := by
      unfold chkE okC
      rw [if_neg]
      rw [Bool.and_eq_true, sizeOk_iff, hln]
      exact fun h => hsz h.1
    rw [e]
    clear e h
    by_cases h0 : f < 0
    · go_enter Try.func21, Try.ntmps21
      go_wp2
      go_ret
      exact ⟨rfl, hb0⟩
    · by_cases h1 : 2 < f
      · go_enter Try.func21, Try.ntmps21
        go_wp2
        go_ret
        exact ⟨rfl, hb0⟩
      · have h2 : ¬ (n : Int) = 3 * f + 1 := fun e => hsz ⟨by omega, by omega, e⟩
        have hm : IntKind.i64.wrap (3 * f) = 3 * f := IntWalk.i64_in _ (by omega)
        have ha : IntKind.i64.wrap (3 * f + 1) = 3 * f + 1 := IntWalk.i64_in _ (by omega)
        have hq : ((n : Int) == 3 * f + 1) = false := by simp [h2]
        go_enter Try.func21, Try.ntmps21
        go_wp2
        go_ret
        exact ⟨rfl, hb0⟩
end Go.Proofs.Ytjibbbfpbflgmaa
