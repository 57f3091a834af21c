/-
  For all numbers f (brought to a name), who and t: what is tagged for everybody counts for t, and of its writer alone, and of no other digest; TagAll returns true; no condition.
-/
import Derived.Test.YtoidiacofgmigaaTwo
namespace Go.Proofs.Ytoidiacofgmigaa.tagAll
open Go.ChangeShapes Go.WideShapes Go.ChangeAt Go.RowKit
set_option linter.unusedVariables false

set_option maxRecDepth 100000 in
set_option maxHeartbeats 3200000 in
theorem walk (f : Int) (who : Int) (t : Int) (w : World) (hf : (Lit.int .i64 f).wf = true) (hwho : (Lit.int .i64 who).wf = true) (ht : (Lit.int .i64 t).wf = true) :
    Calls Try.prog 8 #[.int .i64 f, .int .i64 who, .int .i64 t] w fun e w' => e = .returned (.bool true) ∧ Below w.heap.size w w' := by
  obtain ⟨D, hD, hDl, hD1, hdig⟩ := ku_digest 9 w
  obtain ⟨E8, hE, hEl, hE1, hdig8⟩ := ku_digest 8 w
  have HD := Lib.hid hD
  have Hdig := Lib.hid hdig
  have HE := Lib.hid hE
  have Hdig8 := Lib.hid hdig8
  clear hD hdig hE hdig8
  have hnot : ∀ (x : Bool) (w : World), (Op.unary .not (.bool x)).run Try.prog w = .ok (.bool (!x)) w := fun _ _ => rfl
  go_enter Try.func8, Try.ntmps8
  go_wp2_with (go_at_call 27; refine (works4_any _).mono ?_; rintro e w0 ⟨rfl, hb0⟩)
  refine (bringN_any f 34 w0 (by decide) (by decide) hf).mono ?_
  rintro e w' ⟨r, hr0, hr1, rfl, rfl⟩
  have hr2 : -9223372036854775808 ≤ 1 + r ∧ 1 + r ≤ 9223372036854775807 := by omega
  have hadd : IntKind.i64.wrap (1 + r) = 1 + r := IntWalk.i64_in _ (by omega)
  go_wp2_with fail
  have hq0 : 1 ≤ 1 + r := by omega
  have hq1 : 1 + r ≤ 34 := by omega
  have hqw : Wf (1 + r) := by simp [Wf, Lit.wf, IntKind.min, IntKind.max, IntKind.signed, IntKind.bits]; omega
  clear hr0 hr1 hr2 hadd
  generalize 1 + r = q at *
  have hok : okTag q 0 = true := by simp [okTag, isN, hq0, hq1]
  have hT1 : tagL [] q 0 (dg 9) = [(q, 0, dg 9)] := by unfold tagL; rw [if_pos hok]; simp [putT]
  have hc1 : chk [(q, 0, dg 9)] q t (dg 9) = true := by simp [chk, inT]
  have hc2 : chk [(q, 0, dg 9)] who t (dg 9) = decide (who = q) := by
    unfold chk inT
    by_cases h1 : who = q <;> simp [h1]
  have hne : dg 8 ≠ dg 9 := fun e => by have := dg_inj e; revert this; decide
  have hc3 : chk [(q, 0, dg 9)] q t (dg 8) = false := by simp [chk, inT, hne]
  have hE0 : errOf (okTag q 0) = 0 := by rw [hok]; rfl
  clear hok hne
  refine (ku_new w _ hb0).mono ?_
  rintro e w1 ⟨g, m, rfl, hg, hm, hk, hb⟩
  have K1 := Lib.hid hk
  clear hg hm hk hb
  go_wp2_with fail
  refine (Hdig.out w1).mono ?_
  rintro e w2 ⟨rfl, hb2⟩
  have K2 := Lib.hid (K1.out.below hb2)
  clear hb2 K1
  go_wp2_with fail
  refine (ku_tagE q 0 (dg 9) D 0 [(q, 0, dg 9)] K2.out (by decide) hqw (by decide) (dg_len 9) HD.out hE0 hT1).mono ?_
  rintro e w3 ⟨rfl, hk3, ho3⟩
  have K3 := Lib.hid hk3
  clear hk3 ho3 K2
  go_wp2_with fail
  refine (Hdig.out w3).mono ?_
  rintro e w4 ⟨rfl, hb4⟩
  have K4 := Lib.hid (K3.out.below hb4)
  clear hb4 K3
  go_wp2_with fail
  refine (ku_checkE q t (dg 9) D true K4.out (by decide) hqw ht (dg_len 9) HD.out hc1).mono ?_
  rintro e w5 ⟨rfl, hk5, ho5⟩
  have K5 := Lib.hid hk5
  clear hk5 ho5 K4
  go_wp2_with fail
  refine (Hdig.out w5).mono ?_
  rintro e w6 ⟨rfl, hb6⟩
  have K6 := Lib.hid (K5.out.below hb6)
  clear hb6 K5
  go_wp2_with fail
  refine (ku_checkE who t (dg 9) D (decide (who = q)) K6.out (by decide) hwho ht (dg_len 9) HD.out hc2).mono ?_
  rintro e w7 ⟨rfl, hk7, ho7⟩
  have K7 := Lib.hid hk7
  clear hk7 ho7 K6
  by_cases hwq : who = q
  · have hwd : decide (who = q) = true := by simp [hwq]
    rw [hwd]
    subst hwq
    go_wp2_with fail
    refine (Hdig8.out w7).mono ?_
    rintro e w8 ⟨rfl, hb8⟩
    have K8 := Lib.hid (K7.out.below hb8)
    clear hb8 K7
    go_wp2_with fail
    refine (ku_checkE who t (dg 8) E8 false K8.out (by decide) hqw ht (dg_len 8) HE.out hc3).mono ?_
    rintro e w9 ⟨rfl, hk9, ho9⟩
    have K9 := Lib.hid hk9
    have Hlen := Lib.hid (len_any g m _ _ _ K9.out.1)
    clear hk9 ho9 K8
    go_wp2_with (go_at_call 23; refine Hlen.out.mono ?_; rintro e w' ⟨rfl, rfl⟩)
    go_ret
    exact ⟨rfl, K9.out.bel⟩
  · have hwd : decide (who = q) = false := by simp [hwq]
    have hwb : (who == q) = false := by simp [hwq]
    rw [hwd]
    go_wp2_with fail
    refine (Hdig8.out w7).mono ?_
    rintro e w8 ⟨rfl, hb8⟩
    have K8 := Lib.hid (K7.out.below hb8)
    clear hb8 K7
    go_wp2_with fail
    refine (ku_checkE q t (dg 8) E8 false K8.out (by decide) hqw ht (dg_len 8) HE.out hc3).mono ?_
    rintro e w9 ⟨rfl, hk9, ho9⟩
    have K9 := Lib.hid hk9
    have Hlen := Lib.hid (len_any g m _ _ _ K9.out.1)
    clear hk9 ho9 K8
    go_wp2_with (go_at_call 23; refine Hlen.out.mono ?_; rintro e w' ⟨rfl, rfl⟩)
    go_ret
    exact ⟨rfl, K9.out.bel⟩

end Go.Proofs.Ytoidiacofgmigaa.tagAll
