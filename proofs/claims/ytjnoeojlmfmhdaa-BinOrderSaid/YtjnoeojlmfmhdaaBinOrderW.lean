/-
  For all numbers n and m the one with more bytes is greater, and of as many they are in the order of their bytes, and BinOrder returns true; no condition.
-/
import Derived.Test.YtjnoeojlmfmhdaaOpen
import Derived.Test.YtjnoeojlmfmhdaaWorks2
import Derived.Test.YtjnoeojlmfmhdaaPlain2
import Derived.Test.YtjnoeojlmfmhdaaBring
namespace Go.Proofs.Ytjnoeojlmfmhdaa.binOrder
open Go.ChangeShapes Go.WideShapes Go.ChangeAt Go.RowKit
set_option linter.unusedVariables false

set_option maxHeartbeats 1600000 in
theorem walk (n : Int) (m : Int) (w : World) (hn : (Lit.int .i64 n).wf = true) (hm : (Lit.int .i64 m).wf = true) :
    Calls Try.prog 12 #[.int .i64 n, .int .i64 m] w fun e w' => e = .returned (.bool true) ∧ Below w.heap.size w w' := by
  have hn1 := bounds_i64 hn
  have hm1 := bounds_i64 hm
  clear hn hm
  go_enter Try.func12, Try.ntmps12
  go_wp2_with fail
  refine (works_any _).mono ?_
  rintro e w0 ⟨rfl, b0⟩
  go_wp2_with fail
  refine (bring_any n 9007199254740992 _ (by omega) (by omega) hn1.1 hn1.2).mono ?_
  rintro e w' ⟨r1, hr1, rfl, rfl⟩
  go_wp2_with fail
  refine (bring_any m 9007199254740992 _ (by omega) (by omega) hm1.1 hm1.2).mono ?_
  rintro e w' ⟨r2, hr2, rfl, rfl⟩
  have hk1 : r1 ≤ 9007199254740991 := by omega
  have hk2 : r2 ≤ 9007199254740991 := by omega
  have h1 : ∀ w, Calls Try.prog 17 #[.int .i64 (r1 : Int)] w (RetBE w (numB r1, 0)) := fun w => by
    have hnm : nm (r1 : Int) = (numB r1, 0) := by unfold nm; rw [if_neg (by omega), Int.toNat_natCast]
    rw [← hnm]; exact num_any r1 w
  have h2 : ∀ w, Calls Try.prog 17 #[.int .i64 (r2 : Int)] w (RetBE w (numB r2, 0)) := fun w => by
    have hnm : nm (r2 : Int) = (numB r2, 0) := by unfold nm; rw [if_neg (by omega), Int.toNat_natCast]
    rw [← hnm]; exact num_any r2 w
  have hy1 : (numB r1).length ≤ 8 := by have := numB_length (n := r1); have := dgs_len7 hk1; omega
  have hy2 : (numB r2).length ≤ 8 := by have := numB_length (n := r2); have := dgs_len7 hk2; omega
  have hless1 : ∀ i (h1 : i < (numB r1).length) (h2 : i < (numB r2).length), (numB r1).take i = (numB r2).take i → (numB r1)[i] < (numB r2)[i] → r1 < r2 := fun i h1 h2 ht hx => numB_less hk1 hk2 h1 h2 ht hx
  have hless2 : ∀ i (h1 : i < (numB r2).length) (h2 : i < (numB r1).length), (numB r2).take i = (numB r1).take i → (numB r2)[i] < (numB r1)[i] → r2 < r1 := fun i h1 h2 ht hx => numB_less hk2 hk1 h1 h2 ht hx
  have hsame : ∀ k, ¬ (k < (numB r1).length ∧ k < (numB r2).length) → (numB r1).take k = (numB r2).take k → r1 = r2 := fun k hk ht => numB_same hk1 hk2 hk ht
  have hleq : r1 = r2 → (numB r1).length = (numB r2).length := fun h => by rw [h]
  generalize numB r1 = y1 at *
  generalize numB r2 = y2 at *
  obtain ⟨q1, hq1⟩ : ∃ q, y1.length = q := ⟨_, rfl⟩
  obtain ⟨q2, hq2⟩ : ∃ q, y2.length = q := ⟨_, rfl⟩
  rw [hq1] at hy1
  rw [hq2] at hy2
  have Hq1 := Lib.hid hq1
  have Hq2 := Lib.hid hq2
  have H1 := Lib.hid h1
  have H2 := Lib.hid h2
  have Hl1 := Lib.hid hless1
  have Hl2 := Lib.hid hless2
  have Hsm := Lib.hid hsame
  have Hle := Lib.hid hleq
  clear hq1 hq2 h1 h2 hless1 hless2 hsame hleq
  go_wp2_with fail
  refine (H1.out _).mono ?_
  rintro e w1 ⟨v1, rfl, hnew1⟩
  obtain ⟨A1, c1, rfl, hl1, hc1, hB1⟩ := hnew1.form
  have b1 := hnew1.2
  have t1 := b0.trans (b1.mono b0.size)
  clear hnew1
  simp only [Hq1.out] at hl1 hB1
  simp only [Hq1.out]
  go_wp2_with fail
  refine (H2.out _).mono ?_
  rintro e w2 ⟨v2, rfl, hnew2⟩
  obtain ⟨A2, c2, rfl, hl2, hc2, hB2⟩ := hnew2.form
  have b2 := hnew2.2
  have t2 := t1.trans (b2.mono t1.size)
  clear hnew2
  simp only [Hq2.out] at hl2 hB2
  simp only [Hq2.out]
  have k1 := hB1.on b2
  clear hB1
  go_wp2
  go_loopw [9] (fun i wr => ∃ k : Nat, k ≤ 8 ∧ i = .int .i64 k ∧ k ≤ q1 ∧ k ≤ q2 ∧ y1.take k = y2.take k ∧ ∃ q, wr = w2.drewN q) (fun i _ => 8 - (intOf i).toNat)
  case atStart => exact ⟨0, by omega, rfl, by omega, by omega, by simp, 0, rfl⟩
  case round =>
    obtain ⟨k, hk, rfl, hkq1, hkq2, ht, q, rfl⟩ := hrel
    by_cases hlt : k < q1 ∧ k < q2
    · obtain ⟨hlt1, hlt2⟩ := hlt
      obtain ⟨b, off, rfl, hb, hc⟩ := k1.at_ (i := k) (by rw [Hq1.out]; exact hlt1)
      obtain ⟨b', off', rfl, hb', hc'⟩ := hB2.at_ (i := k) (by rw [Hq2.out]; exact hlt2)
      have i1 : k < y1.length := by rw [Hq1.out]; exact hlt1
      have i2 : k < y2.length := by rw [Hq2.out]; exact hlt2
      have g := hc k i1
      have g' := hc' k i2
      clear hc hc'
      have hi0 : (0 : Int) ≤ k := by omega
      have hi1 : (k : Int) < q1 := by omega
      have hi2 : (k : Int) < q2 := by omega
      have x8 := y1[k].toNat_lt
      have x8' := y2[k].toNat_lt
      rcases Nat.lt_trichotomy y1[k].toNat y2[k].toNat with hx | hx | hx
      · have hres : r1 < r2 := Hl1.out k i1 i2 ht (by rwa [UInt8.lt_iff_toNat_lt])
        have e1 : ((y1[k].toNat : Int) != (y2[k].toNat : Int)) = true := by simp; omega
        have e2 : decide ((y1[k].toNat : Int) < (y2[k].toNat : Int)) = true := by simp; omega
        have e3 : decide ((r1 : Int) < (r2 : Int)) = true := by simp; omega
        generalize y1[k].toNat = u at *
        generalize y2[k].toNat = v at *
        clear ht i1 i2
        go_wp2
        go_quiet (fail)
        go_wp2
        go_quiet (fail)
        go_wp2
        go_ret
        exact ⟨by first | rfl | exact ret_bool (by simp; omega), below_drewN (below_drewN (below_drewN t2 _) _) _⟩
      · have he : y1[k] = y2[k] := UInt8.toNat_inj.1 hx
        have e1 : ((y1[k].toNat : Int) != (y2[k].toNat : Int)) = false := by simp; omega
        have ht' : Hid (y1.take (k + 1) = y2.take (k + 1)) := by
          show _ = _
          rw [List.take_succ_eq_append_getElem i1, List.take_succ_eq_append_getElem i2, ht, he]
        clear he
        generalize y1[k].toNat = u at *
        generalize y2[k].toNat = v at *
        clear ht i1 i2 hx
        go_wp2
        go_quiet (fail)
        go_wp2
        go_roundw
        case rel => exact ⟨k + 1, by omega, by go_num, by omega, by omega, ht'.out, _, rfl⟩
        case measure => simp [intOf]; omega
      · have hres : r2 < r1 := Hl2.out k i2 i1 ht.symm (by rwa [UInt8.lt_iff_toNat_lt])
        have e1 : ((y1[k].toNat : Int) != (y2[k].toNat : Int)) = true := by simp; omega
        have e2 : decide ((y1[k].toNat : Int) < (y2[k].toNat : Int)) = false := by simp; omega
        have e3 : decide ((r1 : Int) < (r2 : Int)) = false := by simp; omega
        generalize y1[k].toNat = u at *
        generalize y2[k].toNat = v at *
        clear ht i1 i2
        go_wp2
        go_quiet (fail)
        go_wp2
        go_quiet (fail)
        go_wp2
        go_ret
        exact ⟨by first | rfl | exact ret_bool (by simp; omega), below_drewN (below_drewN (below_drewN t2 _) _) _⟩
    · have heq : r1 = r2 := Hsm.out k (by rw [Hq1.out, Hq2.out]; exact hlt) ht
      have hqq : q1 = q2 := by rw [← Hq1.out, ← Hq2.out]; exact Hle.out heq
      have he1 : ((r1 : Int) == (r2 : Int)) = true := by simp [heq]
      have he2 : ((q1 : Int) == (q2 : Int)) = true := by simp [hqq]
      have hge : q1 ≤ k := by omega
      have hge' : ¬ (k : Int) < q1 := by omega
      clear heq hqq hlt ht
      go_wp2
      go_ret
      exact ⟨rfl, below_drewN t2 _⟩

end Go.Proofs.Ytjnoeojlmfmhdaa.binOrder
