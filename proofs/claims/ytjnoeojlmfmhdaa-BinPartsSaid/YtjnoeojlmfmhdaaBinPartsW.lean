/-
  For all bytes b and every number n what TakeFix cuts makes the whole again, and BinParts returns true; no condition.
-/
import Derived.Test.YtjnoeojlmfmhdaaOpen
import Derived.Test.YtjnoeojlmfmhdaaWorks2
import Derived.Test.YtjnoeojlmfmhdaaPlain2
namespace Go.Proofs.Ytjnoeojlmfmhdaa.binParts
open Go.ChangeShapes Go.WideShapes Go.ChangeAt Go.RowKit
set_option linter.unusedVariables false

set_option maxHeartbeats 1600000 in
theorem walk (Ab : Option Addr) (nb cb : Nat) (b : List UInt8) (n : Int) (w : World) (hb : ArgB w Ab nb cb b) (hn : (Lit.int .i64 n).wf = true) :
    Calls Try.prog 14 #[.slice Ab nb cb, .int .i64 n] w fun e w' => e = .returned (.bool true) ∧ Below w.heap.size w w' := by
  obtain ⟨hlb, hcb, hmb, hB⟩ := hb
  have Hl := Lib.hid hlb
  have hmx : cb ≤ maxLen := by unfold maxLen; omega
  have h3 : ∀ A c w, Bs w A b → nb ≤ c → c ≤ maxLen → Calls Try.prog 29 #[.slice A nb c, .int .i64 n] w (RetTF w (tf b n)) := fun A c w hA hc hm => takeFix_any A c nb n b w hA Hl.out hc (by omega) hm
  by_cases h0 : n < 0
  · have ht : tf b n = ([], [], 2) := by unfold tf; rw [if_pos h0]
    rw [ht] at h3
    have H3 := Lib.hid h3
    clear h3 ht hlb
    go_enter Try.func14, Try.ntmps14
    go_wp2_with fail
    refine (works_any _).mono ?_
    rintro e w0 ⟨rfl, b0⟩
    go_wp2_with fail
    refine (H3.out _ _ _ (hB.on b0) hcb hmx).mono ?_
    rintro e w2 ⟨v1, v2, w1, rfl, hnew1, hnew2⟩
    have b2 := hnew1.2.trans (hnew2.2.mono hnew1.2.size)
    have t2 := b0.trans (b2.mono b0.size)
    clear hnew1 hnew2
    go_wp2
    go_ret
    exact ⟨rfl, t2⟩
  · by_cases h1 : (nb : Int) < n
    · have ht : tf b n = ([], [], 3) := by unfold tf; rw [if_neg h0, if_pos (by omega)]
      rw [ht] at h3
      have H3 := Lib.hid h3
      clear h3 ht hlb
      go_enter Try.func14, Try.ntmps14
      go_wp2_with fail
      refine (works_any _).mono ?_
      rintro e w0 ⟨rfl, b0⟩
      go_wp2_with fail
      refine (H3.out _ _ _ (hB.on b0) hcb hmx).mono ?_
      rintro e w2 ⟨v1, v2, w1, rfl, hnew1, hnew2⟩
      obtain ⟨A1, c1, rfl, hl1, hc1, hB1⟩ := hnew1.form
      obtain ⟨A2, c2, rfl, hl2, hc2, hB2⟩ := hnew2.form
      have b2 := hnew1.2.trans (hnew2.2.mono hnew1.2.size)
      have t2 := b0.trans (b2.mono b0.size)
      clear hnew1 hnew2
      go_wp2
      go_ret
      exact ⟨rfl, t2⟩
    · have ht : tf b n = (b.take n.toNat, b.drop n.toNat, 0) := by unfold tf; rw [if_neg h0, if_neg (by omega)]
      obtain ⟨-, hs, hback⟩ := tf_ok ht
      rw [ht] at h3
      have H3 := Lib.hid h3
      clear h3 ht
      generalize b.take n.toNat = s at *
      generalize b.drop n.toNat = z at *
      have hsz : s.length + z.length = nb := by rw [← hlb, ← hback]; simp
      have hsz1 : s.length + z.length ≤ nb := by omega
      have Hback := Lib.hid hback
      have e1 : ((s.length : Int) == n) = true := by simp [hs]
      clear hback hs hsz hlb
      go_enter Try.func14, Try.ntmps14
      go_wp2_with fail
      refine (works_any _).mono ?_
      rintro e w0 ⟨rfl, b0⟩
      go_wp2_with fail
      refine (H3.out _ _ _ (hB.on b0) hcb hmx).mono ?_
      rintro e w2 ⟨v1, v2, w1, rfl, hnew1, hnew2⟩
      obtain ⟨A1, c1, rfl, hl1, hc1, hB1⟩ := hnew1.form
      obtain ⟨A2, c2, rfl, hl2, hc2, hB2⟩ := hnew2.form
      have b2 := hnew1.2.trans (hnew2.2.mono hnew1.2.size)
      have t2 := b0.trans (b2.mono b0.size)
      have k1 := hB1.on hnew2.2
      clear hnew1 hnew2
      simp only at hl1 hl2 hB2 k1
      go_wp2_with fail
      refine (join2 (l1 := s) (l2 := z) k1 rfl hB2 rfl (by omega)).mono ?_
      rintro e w4 ⟨v4, rfl, hnew4⟩
      rw [Hback.out] at hnew4
      obtain ⟨A4, c4, rfl, hl4, hc4, hB4⟩ := hnew4.form
      have b4 := hnew4.2
      have t4 := t2.trans (b4.mono t2.size)
      clear hnew4
      rw [Hl.out]
      go_wp2_with fail
      refine (eqSame _ _ _ _ _ _ b _ hB4 (hB.on t4) Hl.out Hl.out (by omega)).mono ?_
      rintro e w5 ⟨rfl, b5⟩
      have t5 := t4.trans (b5.mono t4.size)
      go_wp2
      go_ret
      exact ⟨rfl, t5⟩

end Go.Proofs.Ytjnoeojlmfmhdaa.binParts
