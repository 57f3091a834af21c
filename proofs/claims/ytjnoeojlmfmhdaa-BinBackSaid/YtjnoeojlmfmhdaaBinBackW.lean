/-
  For every number n and all bytes that stand behind (1000 at most are looked at) what Num writes is taken off as it was, and BinBack returns true; no condition.
-/
import Derived.Test.YtjnoeojlmfmhdaaOpen
import Derived.Test.YtjnoeojlmfmhdaaWorks2
import Derived.Test.YtjnoeojlmfmhdaaPlain2
namespace Go.Proofs.Ytjnoeojlmfmhdaa.binBack
open Go.ChangeShapes Go.WideShapes Go.ChangeAt Go.RowKit
set_option linter.unusedVariables false

set_option maxHeartbeats 1600000 in
theorem walk (n : Int) (Ab : Option Addr) (nb cb : Nat) (b : List UInt8) (w : World) (hn : (Lit.int .i64 n).wf = true) (hb : ArgB w Ab nb cb b) :
    Calls Try.prog 7 #[.int .i64 n, .slice Ab nb cb] w fun e w' => e = .returned (.bool true) ∧ Below w.heap.size w w' := by
  obtain ⟨mb, z, hz, hb1, hb2, hb3, hB, hminb, hcutb⟩ := cut1000 hb
  clear hb
  have Hz := Lib.hid hz
  clear hz
  have h1 : ∀ w, Calls Try.prog 17 #[.int .i64 n] w (RetBE w (nm n)) := fun w => num_any n w
  by_cases hbad : n < 0 ∨ 9007199254740991 < n
  · have hnm : nm n = ([], 9) := by unfold nm; rw [if_pos hbad]
    rw [hnm] at h1
    have H1 := Lib.hid h1
    clear h1 hnm
    by_cases h0 : n < 0
    · have h0d : decide (n < 0) = true := by simpa using h0
      go_enter Try.func7, Try.ntmps7
      go_wp2_with fail
      refine (works_any _).mono ?_
      rintro e w0 ⟨rfl, b0⟩
      go_wp2_with fail
      refine (H1.out _).mono ?_
      rintro e w1 ⟨v1, rfl, hnew1⟩
      obtain ⟨A1, c1, rfl, hl1, hc1, hB1⟩ := hnew1.form
      have b1 := hnew1.2
      clear hnew1
      go_wp2
      go_ret
      exact ⟨rfl, b0.trans (b1.mono b0.size)⟩
    · have h1' : 9007199254740991 < n := by omega
      go_enter Try.func7, Try.ntmps7
      go_wp2_with fail
      refine (works_any _).mono ?_
      rintro e w0 ⟨rfl, b0⟩
      go_wp2_with fail
      refine (H1.out _).mono ?_
      rintro e w1 ⟨v1, rfl, hnew1⟩
      obtain ⟨A1, c1, rfl, hl1, hc1, hB1⟩ := hnew1.form
      have b1 := hnew1.2
      clear hnew1
      go_wp2
      go_ret
      exact ⟨rfl, b0.trans (b1.mono b0.size)⟩
  · obtain ⟨k, rfl⟩ := Int.eq_ofNat_of_zero_le (a := n) (by omega)
    have hk : k ≤ 9007199254740991 := by omega
    have hnm : nm (k : Int) = (numB k, 0) := by unfold nm; rw [if_neg hbad, Int.toNat_natCast]
    have htk := tk_num hk z
    have hlen := numB_length (n := k)
    have h7 := dgs_len7 hk
    have hy1 : 1 ≤ (numB k).length := by omega
    have hy8 : (numB k).length ≤ 8 := by omega
    rw [hnm] at h1
    clear hnm hlen h7
    generalize numB k = y at *
    generalize hq : y.length = q at *
    have Hq := Lib.hid hq
    have H1 := Lib.hid h1
    have Htk := Lib.hid htk
    clear h1 hq htk hbad
    have e1 : ((k : Int) == (k : Int)) = true := by simp
    have e2 : (1 : Int) ≤ (q : Int) := by omega
    have e3 : (q : Int) ≤ 8 := by omega
    go_enter Try.func7, Try.ntmps7
    go_wp2_with fail
    refine (works_any _).mono ?_
    rintro e w0 ⟨rfl, b0⟩
    go_wp2_with fail
    refine (H1.out _).mono ?_
    rintro e w1 ⟨v1, rfl, hnew1⟩
    obtain ⟨A1, c1, rfl, hl1, hc1, hB1⟩ := hnew1.form
    have b1 := hnew1.2
    have t1 := b0.trans (b1.mono b0.size)
    clear hnew1
    simp only at hl1 hB1
    simp only [Hq.out]
    go_wp2_with fail
    refine (join2 (l1 := y) (l2 := z) hB1 Hq.out (hB.on t1) Hz.out (by omega)).mono ?_
    rintro e w2 ⟨v2, rfl, hnew2⟩
    obtain ⟨A2, c2, rfl, hl2, hc2, hB2⟩ := hnew2.form
    have b2 := hnew2.2
    have t2 := t1.trans (b2.mono t1.size)
    have hl2e : (y ++ z).length = q + mb := by simp [Hq.out, Hz.out]
    have Hl2e := Lib.hid hl2e
    clear hl2e hnew2
    rw [Hl2e.out] at hl2
    rw [Hl2e.out]
    have h3 := takeNum_any A2 c2 (q + mb) (y ++ z) w2 hB2 Hl2e.out hl2 (by omega) hc2
    rw [Htk.out] at h3
    have H3 := Lib.hid h3
    clear h3
    go_wp2_with fail
    refine H3.out.mono ?_
    rintro e w3 ⟨v3, rfl, hnew3⟩
    obtain ⟨A3, c3, rfl, hl3, hc3, hB3⟩ := hnew3.form
    have b3 := hnew3.2
    have t3 := t2.trans (b3.mono t2.size)
    clear hnew3
    simp only at hl3 hB3
    simp only [Hz.out]
    go_wp2_with fail
    refine (eqSame _ _ _ _ _ _ z _ hB3 (hB.on t3) Hz.out Hz.out (by unfold maxLen; omega)).mono ?_
    rintro e w4 ⟨rfl, b4⟩
    have t4 := t3.trans (b4.mono t3.size)
    go_wp2
    go_ret
    exact ⟨rfl, t4⟩

end Go.Proofs.Ytjnoeojlmfmhdaa.binBack
