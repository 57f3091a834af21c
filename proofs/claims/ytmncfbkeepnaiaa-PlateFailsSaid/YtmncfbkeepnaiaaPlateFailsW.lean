/-
  For all numbers n (brought to one from 0 to 40): of a plate that is to fail behind that many doings, so many are done, and nothing behind them till it is booted; PlateFails returns true; no condition.
-/
import Derived.Test.YtmncfbkeepnaiaaOpen
import Derived.Test.YtmncfbkeepnaiaaFailsP
import Derived.Test.YtmncfbkeepnaiaaAwake
import Derived.Deep.RegionHeld3
import Derived.Deep.RegionWith
import Derived.Deep.DeepCutAuto
namespace Go.Proofs.Ytmncfbkeepnaiaa.plateFails
open Go.ChangeShapes Go.WideShapes Go.ChangeAt Go.RowKit
set_option linter.unusedVariables false

set_option maxRecDepth 100000 in
set_option maxHeartbeats 3200000 in
theorem walk (n : Int) (w : World) (hn : (Lit.int .i64 n).wf = true) :
    Calls Try.prog 6 #[.int .i64 n] w fun e w' => e = .returned (.bool true) ∧ Below w.heap.size w w' := by
  have hnot : ∀ (x : Bool) (w : World), (Op.unary .not (.bool x)).run Try.prog w = .ok (.bool (!x)) w := fun _ _ => rfl
  obtain ⟨k, hk, hk40⟩ : ∃ k : Nat, n % 41 = (k : Int) ∧ k ≤ 40 := ⟨(n % 41).toNat, by omega, by omega⟩
  have Hbr := Lib.hid (fun w => bringN_any n 41 w (by decide) (by decide) hn)
  have Hk := Lib.hid hk
  clear hk
  go_enter Try.func6, Try.ntmps6
  go_wp2_with fail
  refine (pk_new (w0 := w) 64 (by decide) (by decide) (Below.refl _ _)).mono ?_
  rintro e w1 ⟨g, r, m, rfl, q1, q2, q3, hkk, hb⟩
  have K1 := Lib.hid hkk
  clear hkk hb q1 q2 q3
  go_wp2_with fail
  refine (Hbr.out w1).mono ?_
  rintro e w' ⟨rfl, hw⟩
  obtain rfl : w1 = w' := hw.symm
  rw [Hk.out]
  have i0 : (0 : Int) ≤ k := by omega
  have i1 : (k : Int) ≤ 40 := by omega
  have hal : Below w1.heap.size w1 (w1.alloc (.cells #[.bool true] 4)) := (Below.refl _ _).alloc (Nat.le_refl _) _
  have HL := Lib.hid (And.intro (K1.out.below hal) (KOff.made w1 (GRM g r m) 4 #[.bool true] [true] 1 rfl rfl (by decide) K1.out.1.lt))
  clear hal K1
  go_wp2_with fail
  refine (pk_fail (k := [true]) HL.out.1 (k : Int) (wf_nat (by omega)) 1 1 rfl HL.out.2 0 (fst k 0) (fst_start k).1 (fst_start k).2).mono ?_
  rintro e w2 ⟨rfl, hkk, ho⟩
  have K2 := Lib.hid hkk
  clear hkk ho HL
  go_wp2_with fail
  go_loopw [6] (fun iv wr => ∃ j : Nat, j ≤ 50 ∧ iv = .int .i64 j ∧ Pk w wr (GRM g r m) g r m (fst k j)) (fun iv _ => 50 - (intOf iv).toNat)
  case atStart => exact ⟨0, by omega, rfl, K2.out⟩
  case round =>
    obtain ⟨j, hj, rfl, hP⟩ := hrel
    have j0 : (0 : Int) ≤ j := by omega
    have Kr := Lib.hid hP
    clear hP
    by_cases hlt : j < 50
    · have j1 : (j : Int) < 50 := by omega
      have hdead := fst_dead k (j + 1)
      by_cases hjk : j < k
      · have j2 : (j : Int) < k := by omega
        have hd2 : (fst k (j + 1)).dead = false := by rw [hdead]; simp; omega
        have hst := fst_step (i := j) hk40 hlt
        rw [if_pos hjk] at hst
        have Hst := Lib.hid (And.intro hst hd2)
        clear hdead hd2 hst hjk
        go_wp2_with fail
        refine (full_any 7 _).mono ?_
        rintro e w3 ⟨x, rfl, hx, hB, hb⟩
        have K3 := Lib.hid (Kr.out.below hb)
        have Hx := Lib.hid (And.intro hB (Kr.out.notM hx))
        clear hB hb hx
        go_wp2_with fail
        refine (pk_write (l := fb 7) K3.out (j : Int) (wf_nat (by omega)) 64 64 (by simp [fb]) (by simp [maxLen]) (BOff.ofBlk Hx.out.1 Hx.out.2) 0 (fst k (j + 1)) Hst.out.1.1 Hst.out.1.2).mono ?_
        rintro e w4 ⟨rfl, hkk, ho⟩
        have K4 := Lib.hid hkk
        clear hkk ho K3
        go_wp2_with fail
        refine (pk_dead K4.out false Hst.out.2).mono ?_
        rintro e w' ⟨rfl, hw⟩
        obtain rfl : w4 = w' := hw.symm
        go_wp2
        go_roundw
        case rel => exact ⟨j + 1, by omega, by go_num, K4.out⟩
        case measure => simp [intOf]; omega
      · have j2 : ¬ (j : Int) < k := by omega
        have j3 : (k : Int) ≤ j := by omega
        have hd2 : (fst k (j + 1)).dead = true := by rw [hdead]; simp; omega
        have hst := fst_step (i := j) hk40 hlt
        rw [if_neg hjk] at hst
        have Hst := Lib.hid (And.intro hst hd2)
        clear hdead hd2 hst hjk
        go_wp2_with fail
        refine (full_any 7 _).mono ?_
        rintro e w3 ⟨x, rfl, hx, hB, hb⟩
        have K3 := Lib.hid (Kr.out.below hb)
        have Hx := Lib.hid (And.intro hB (Kr.out.notM hx))
        clear hB hb hx
        go_wp2_with fail
        refine (pk_write (l := fb 7) K3.out (j : Int) (wf_nat (by omega)) 64 64 (by simp [fb]) (by simp [maxLen]) (BOff.ofBlk Hx.out.1 Hx.out.2) 50 (fst k (j + 1)) Hst.out.1.1 Hst.out.1.2).mono ?_
        rintro e w4 ⟨rfl, hkk, ho⟩
        have K4 := Lib.hid hkk
        clear hkk ho K3
        go_wp2_with fail
        refine (pk_dead K4.out true Hst.out.2).mono ?_
        rintro e w' ⟨rfl, hw⟩
        obtain rfl : w4 = w' := hw.symm
        go_wp2
        go_roundw
        case rel => exact ⟨j + 1, by omega, by go_num, K4.out⟩
        case measure => simp [intOf]; omega
    · have j1 : ¬ (j : Int) < 50 := by omega
      obtain rfl : j = 50 := by omega
      go_wp2_with fail
      refine (pk_flush Kr.out 50 (fst k 50) (fst_flush hk40).1 (fst_flush hk40).2).mono ?_
      rintro e w3 ⟨rfl, hkk, ho⟩
      have K3 := Lib.hid hkk
      clear hkk ho
      go_wp2_with fail
      refine (pk_waits K3.out [] (fst_waits hk40)).mono ?_
      rintro e w4 ⟨Aw, cw, rfl, hI, hb, _⟩
      have K4 := Lib.hid (K3.out.below hb)
      clear hI hb K3
      go_wp2_with fail
      refine (pk_boot K4.out (fend k) (fst_boot hk40)).mono ?_
      rintro e w5 ⟨rfl, hkk, ho⟩
      have K5 := Lib.hid hkk
      clear hkk ho K4
      have Hf := Lib.hid (fend_facts k (by omega))
      go_wp2_with fail
      refine (pk_has K5.out 0 (by decide) 7 (decide (0 < k)) Hf.out.1).mono ?_
      rintro e w6 ⟨rfl, hb⟩
      have K6 := Lib.hid (K5.out.below hb)
      clear hb K5
      by_cases hk0 : 0 < k
      · have i2 : (0 : Int) < k := by omega
        have e0 : decide (0 < k) = true := by simp [hk0]
        rw [e0]
        clear e0 hk0
        go_wp2_with fail
        refine (pk_has K6.out 1 (by decide) 0 true Hf.out.2.1).mono ?_
        rintro e w7 ⟨rfl, hb⟩
        have K7 := Lib.hid (K6.out.below hb)
        clear hb K6
        go_wp2_with fail
        refine (pk_flush K7.out 0 _ Hf.out.2.2 rfl).mono ?_
        rintro e w8 ⟨rfl, hkk, ho⟩
        have K8 := Lib.hid hkk
        clear hkk ho K7
        go_wp2_with (go_at_call 12; refine (awake_any _).mono ?_; rintro e w9 ⟨rfl, hb9⟩)
        go_ret
        exact ⟨rfl, K8.out.bel.trans (hb9.mono K8.out.bel.size)⟩
      · have i2 : ¬ (0 : Int) < k := by omega
        have e0 : decide (0 < k) = false := by simp [hk0]
        rw [e0]
        clear e0 hk0
        go_wp2_with fail
        refine (pk_has K6.out 1 (by decide) 0 true Hf.out.2.1).mono ?_
        rintro e w7 ⟨rfl, hb⟩
        have K7 := Lib.hid (K6.out.below hb)
        clear hb K6
        go_wp2_with fail
        refine (pk_flush K7.out 0 _ Hf.out.2.2 rfl).mono ?_
        rintro e w8 ⟨rfl, hkk, ho⟩
        have K8 := Lib.hid hkk
        clear hkk ho K7
        go_wp2_with (go_at_call 12; refine (awake_any _).mono ?_; rintro e w9 ⟨rfl, hb9⟩)
        go_ret
        exact ⟨rfl, K8.out.bel.trans (hb9.mono K8.out.bel.size)⟩

end Go.Proofs.Ytmncfbkeepnaiaa.plateFails
