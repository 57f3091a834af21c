/-
  For all bytes b what TakeNum takes off is written so by Num, and BinAgain returns true; no condition.
-/
import Derived.Test.YtjnoeojlmfmhdaaOpen
import Derived.Test.YtjnoeojlmfmhdaaWorks2
import Derived.Test.YtjnoeojlmfmhdaaPlain2
namespace Go.Proofs.Ytjnoeojlmfmhdaa.binAgain
open Go.ChangeShapes Go.WideShapes Go.ChangeAt Go.RowKit
set_option linter.unusedVariables false

set_option maxHeartbeats 1600000 in
theorem walk (Ab : Option Addr) (nb cb : Nat) (b : List UInt8) (w : World) (hb : ArgB w Ab nb cb b) :
    Calls Try.prog 8 #[.slice Ab nb cb] w fun e w' => e = .returned (.bool true) ∧ Below w.heap.size w w' := by
  obtain ⟨hlb, hcb, hmb, hB⟩ := hb
  have Hl := Lib.hid hlb
  have hmx : cb ≤ maxLen := by unfold maxLen; omega
  have h3 : ∀ A c w, Bs w A b → nb ≤ c → c ≤ maxLen → Calls Try.prog 20 #[.slice A nb c] w (RetTN w (tk b)) := fun A c w hA hc hm => takeNum_any A c nb b w hA Hl.out hc (by omega) hm
  cases ht : tk b with
  | mk m r =>
  obtain ⟨rest, et⟩ := r
  rw [ht] at h3
  have H3 := Lib.hid h3
  clear h3
  by_cases he : et = 0
  · subst he
    obtain ⟨hm, hback⟩ := tk_back ht
    have hnm : nm (m : Int) = (numB m, 0) := by unfold nm; rw [if_neg (by omega), Int.toNat_natCast]
    have h1 : ∀ w, Calls Try.prog 17 #[.int .i64 (m : Int)] w (RetBE w (nm m)) := fun w => num_any m w
    rw [hnm] at h1
    have hlr : (numB m).length + rest.length ≤ nb := by rw [← hlb, ← hback]; simp
    have hly : (numB m).length ≤ nb := by rw [← hlb, ← hback]; simp
    have H1 := Lib.hid h1
    have Hback := Lib.hid hback
    clear h1 hnm hback ht hlb hm
    generalize numB m = y at *
    go_enter Try.func8, Try.ntmps8
    go_wp2_with fail
    refine (works_any _).mono ?_
    rintro e w0 ⟨rfl, b0⟩
    go_wp2_with fail
    refine (H3.out _ _ _ (hB.on b0) hcb hmx).mono ?_
    rintro e w1 ⟨v1, rfl, hnew1⟩
    obtain ⟨A1, c1, rfl, hl1, hc1, hB1⟩ := hnew1.form
    have b1 := hnew1.2
    have t1 := b0.trans (b1.mono b0.size)
    clear hnew1
    simp only at hl1 hB1
    go_wp2_with fail
    refine (H1.out _).mono ?_
    rintro e w2 ⟨v2, rfl, hnew2⟩
    obtain ⟨A2, c2, rfl, hl2, hc2, hB2⟩ := hnew2.form
    have b2 := hnew2.2
    have t2 := t1.trans (b2.mono t1.size)
    clear hnew2
    simp only at hl2 hB2
    go_wp2_with fail
    refine (join2 (l1 := y) (l2 := rest) hB2 rfl (hB1.on b2) rfl (by omega)).mono ?_
    rintro e w3 ⟨v3, rfl, hnew3⟩
    rw [Hback.out] at hnew3
    obtain ⟨A3, c3, rfl, hl3, hc3, hB3⟩ := hnew3.form
    have b3 := hnew3.2
    have t3 := t2.trans (b3.mono t2.size)
    clear hnew3
    rw [Hl.out]
    go_wp2_with fail
    refine (eqSame _ _ _ _ _ _ b _ hB3 (hB.on t3) Hl.out Hl.out (by omega)).mono ?_
    rintro e w4 ⟨rfl, b4⟩
    have t4 := t3.trans (b4.mono t3.size)
    go_wp2
    go_ret
    exact ⟨rfl, t4⟩
  · obtain ⟨rfl, rfl⟩ := tk_err0 ht he
    have hee : ((et : Int) != 0) = true := by simp [he]
    clear hlb ht he
    go_enter Try.func8, Try.ntmps8
    go_wp2_with fail
    refine (works_any _).mono ?_
    rintro e w0 ⟨rfl, b0⟩
    go_wp2_with fail
    refine (H3.out _ _ _ (hB.on b0) hcb hmx).mono ?_
    rintro e w1 ⟨v1, rfl, hnew1⟩
    obtain ⟨A1, c1, rfl, hl1, hc1, hB1⟩ := hnew1.form
    have b1 := hnew1.2
    have t1 := b0.trans (b1.mono b0.size)
    clear hnew1
    go_wp2
    go_ret
    exact ⟨rfl, t1⟩

end Go.Proofs.Ytjnoeojlmfmhdaa.binAgain
