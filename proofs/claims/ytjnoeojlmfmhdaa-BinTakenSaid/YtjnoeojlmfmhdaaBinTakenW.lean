/-
  For all bytes b and every number most what TakeStr takes off is written so by Str, and BinTaken returns true; no condition.
-/
import Derived.Test.YtjnoeojlmfmhdaaOpen
import Derived.Test.YtjnoeojlmfmhdaaWorks2
import Derived.Test.YtjnoeojlmfmhdaaPlain2
namespace Go.Proofs.Ytjnoeojlmfmhdaa.binTaken
open Go.ChangeShapes Go.WideShapes Go.ChangeAt Go.RowKit
set_option linter.unusedVariables false

set_option maxHeartbeats 1600000 in
theorem walk (Ab : Option Addr) (nb cb : Nat) (b : List UInt8) (most : Int) (w : World) (hb : ArgB w Ab nb cb b) (hmost : (Lit.int .i64 most).wf = true) :
    Calls Try.prog 10 #[.slice Ab nb cb, .int .i64 most] w fun e w' => e = .returned (.bool true) ∧ Below w.heap.size w w' := by
  obtain ⟨hlb, hcb, hmb, hB⟩ := hb
  have Hl := Lib.hid hlb
  have hmx : cb ≤ maxLen := by unfold maxLen; omega
  have h3 : ∀ A c w, Bs w A b → nb ≤ c → c ≤ maxLen → Calls Try.prog 27 #[.slice A nb c, .int .i64 most] w (RetTF w (ts b most)) := fun A c w hA hc hm => takeStr_any A c nb most b w hA Hl.out hc (by omega) hm
  cases ht : ts b most with
  | mk s r =>
  obtain ⟨rest, et⟩ := r
  rw [ht] at h3
  have H3 := Lib.hid h3
  clear h3
  by_cases he : et = 0
  · subst he
    obtain ⟨hs1, hs2, hback⟩ := ts_ok ht
    have hst : st s = (numB s.length ++ s, 0) := by unfold st; rw [if_neg (by omega)]
    have h1 : ∀ A c w, Bs w A s → Calls Try.prog 25 #[.slice A s.length c] w (RetBE w (st s)) := fun A c w hA => str_any A c s.length s w hA rfl (by unfold maxLen; omega)
    rw [hst] at h1
    rw [← List.append_assoc] at hback
    have hly : (numB s.length ++ s).length + rest.length ≤ nb := by rw [← hlb, ← hback]; simp; omega
    have H1 := Lib.hid h1
    have Hback := Lib.hid hback
    clear h1 hst hback ht hlb
    generalize numB s.length ++ s = y at *
    generalize hq : s.length = q at *
    have Hq := Lib.hid hq
    clear hq
    go_enter Try.func10, Try.ntmps10
    go_wp2_with fail
    refine (works_any _).mono ?_
    rintro e w0 ⟨rfl, b0⟩
    go_wp2_with fail
    refine (H3.out _ _ _ (hB.on b0) hcb hmx).mono ?_
    rintro e w2 ⟨v1, v2, w1, rfl, hnew1, hnew2⟩
    obtain ⟨A1, c1, rfl, hl1, hc1, hB1⟩ := hnew1.form
    obtain ⟨A2, c2, rfl, hl2, hc2, hB2⟩ := hnew2.form
    have b2 := hnew1.2.trans (hnew2.2.mono hnew1.2.size)
    have t2 := b0.trans (b2.mono b0.size)
    have k1 := hB1.on hnew2.2
    clear hnew1 hnew2
    simp only at hl1 hl2 hB2 k1
    simp only [Hq.out]
    go_wp2_with fail
    refine (H1.out _ _ _ k1).mono ?_
    rintro e w3 ⟨v3, rfl, hnew3⟩
    obtain ⟨A3, c3, rfl, hl3, hc3, hB3⟩ := hnew3.form
    have b3 := hnew3.2
    have t3 := t2.trans (b3.mono t2.size)
    clear hnew3
    simp only at hl3 hB3
    go_wp2_with fail
    refine (join2 (l1 := y) (l2 := rest) hB3 rfl (hB2.on b3) rfl (by omega)).mono ?_
    rintro e w4 ⟨v4, rfl, hnew4⟩
    rw [Hback.out] at hnew4
    obtain ⟨A4, c4, rfl, hl4, hc4, hB4⟩ := hnew4.form
    have b4 := hnew4.2
    have t4 := t3.trans (b4.mono t3.size)
    clear hnew4
    rw [Hl.out]
    go_wp2_with fail
    refine (eqSame _ _ _ _ _ _ b _ hB4 (hB.on t4) Hl.out Hl.out (by omega)).mono ?_
    rintro e w5 ⟨rfl, b5⟩
    have t5 := t4.trans (b5.mono t4.size)
    go_wp2
    go_ret
    exact ⟨rfl, t5⟩
  · obtain ⟨rfl, rfl⟩ := ts_err ht he
    have hee : ((et : Int) != 0) = true := by simp [he]
    clear hlb ht he
    go_enter Try.func10, Try.ntmps10
    go_wp2_with fail
    refine (works_any _).mono ?_
    rintro e w0 ⟨rfl, b0⟩
    go_wp2_with fail
    refine (H3.out _ _ _ (hB.on b0) hcb hmx).mono ?_
    rintro e w2 ⟨v1, v2, w1, rfl, hnew1, hnew2⟩
    obtain ⟨A1, c1, rfl, hl1, hc1, hB1⟩ := hnew1.form
    obtain ⟨A2, c2, rfl, hl2, hc2, hB2⟩ := hnew2.form
    have b2 := hnew1.2.trans (hnew2.2.mono hnew1.2.size)
    have t2 := b0.trans (b2.mono b0.size)
    clear hnew1 hnew2
    go_wp2
    go_ret
    exact ⟨rfl, t2⟩

end Go.Proofs.Ytjnoeojlmfmhdaa.binTaken
