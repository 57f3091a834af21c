/-
  For all numbers n and m no number's bytes are the beginning of another one's, and BinPrefix returns true; no condition.
-/
import Derived.Test.YtjnoeojlmfmhdaaOpen
import Derived.Test.YtjnoeojlmfmhdaaWorks2
import Derived.Test.YtjnoeojlmfmhdaaPlain2
import Derived.Test.YtjnoeojlmfmhdaaBring
namespace Go.Proofs.Ytjnoeojlmfmhdaa.binPrefix
open Go.ChangeShapes Go.WideShapes Go.ChangeAt Go.RowKit
set_option linter.unusedVariables false

set_option maxHeartbeats 1600000 in
theorem walk (n : Int) (m : Int) (w : World) (hn : (Lit.int .i64 n).wf = true) (hm : (Lit.int .i64 m).wf = true) :
    Calls Try.prog 11 #[.int .i64 n, .int .i64 m] w fun e w' => e = .returned (.bool true) ∧ Below w.heap.size w w' := by
  have hn1 := bounds_i64 hn
  have hm1 := bounds_i64 hm
  clear hn hm
  go_enter Try.func11, Try.ntmps11
  go_wp2_with fail
  refine (works_any _).mono ?_
  rintro e w0 ⟨rfl, b0⟩
  go_wp2_with fail
  refine (bring_any n 9007199254740992 _ (by omega) (by omega) hn1.1 hn1.2).mono ?_
  rintro e w' ⟨r1, hr1, rfl, rfl⟩
  go_wp2_with fail
  refine (bring_any m 9007199254740992 _ (by omega) (by omega) hm1.1 hm1.2).mono ?_
  rintro e w' ⟨r2, hr2, rfl, rfl⟩
  have hk1 : r1 ≤ 9007199254740991 := by omega
  have hk2 : r2 ≤ 9007199254740991 := by omega
  have h1 : ∀ w, Calls Try.prog 17 #[.int .i64 (r1 : Int)] w (RetBE w (numB r1, 0)) := fun w => by
    have hnm : nm (r1 : Int) = (numB r1, 0) := by unfold nm; rw [if_neg (by omega), Int.toNat_natCast]
    rw [← hnm]; exact num_any r1 w
  have h2 : ∀ w, Calls Try.prog 17 #[.int .i64 (r2 : Int)] w (RetBE w (numB r2, 0)) := fun w => by
    have hnm : nm (r2 : Int) = (numB r2, 0) := by unfold nm; rw [if_neg (by omega), Int.toNat_natCast]
    rw [← hnm]; exact num_any r2 w
  have hy1 : (numB r1).length ≤ 8 := by have := numB_length (n := r1); have := dgs_len7 hk1; omega
  have hy2 : (numB r2).length ≤ 8 := by have := numB_length (n := r2); have := dgs_len7 hk2; omega
  have hinj := numB_inj hk1 hk2 (k := min (numB r1).length (numB r2).length) rfl
  have hmin : ∀ ts t w, (Builtin.min_ ts t #[.int .i64 ((numB r1).length : Int), .int .i64 ((numB r2).length : Int)]).run Try.prog w = .ok (.int .i64 ((min (numB r1).length (numB r2).length : Nat) : Int)) w := fun ts t w => by
    rw [run_min_int2]; congr 2; split <;> omega
  have hm1 : min (numB r1).length (numB r2).length ≤ (numB r1).length := by omega
  have hm2 : min (numB r1).length (numB r2).length ≤ (numB r2).length := by omega
  generalize min (numB r1).length (numB r2).length = k at *
  generalize numB r1 = y1 at *
  generalize numB r2 = y2 at *
  generalize hq1 : y1.length = q1 at *
  generalize hq2 : y2.length = q2 at *
  have Hq1 := Lib.hid hq1
  have Hq2 := Lib.hid hq2
  have H1 := Lib.hid h1
  have H2 := Lib.hid h2
  clear hq1 hq2 h1 h2
  go_wp2_with fail
  refine (H1.out _).mono ?_
  rintro e w1 ⟨v1, rfl, hnew1⟩
  obtain ⟨A1, c1, rfl, hl1, hc1, hB1⟩ := hnew1.form
  have b1 := hnew1.2
  have t1 := b0.trans (b1.mono b0.size)
  clear hnew1
  simp only [Hq1.out] at hl1 hB1
  simp only [Hq1.out]
  go_wp2_with fail
  refine (H2.out _).mono ?_
  rintro e w2 ⟨v2, rfl, hnew2⟩
  obtain ⟨A2, c2, rfl, hl2, hc2, hB2⟩ := hnew2.form
  have b2 := hnew2.2
  have t2 := t1.trans (b2.mono t1.size)
  clear hnew2
  simp only [Hq2.out] at hl2 hB2
  simp only [Hq2.out]
  have hf1 := run_front A1 q1 c1 k (by omega)
  have hf2 := run_front A2 q2 c2 k (by omega)
  have k1 := (hB1.on b2).front (m := k) (by rw [Hq1.out]; exact hm1)
  have k2 := hB2.front (m := k) (by rw [Hq2.out]; exact hm2)
  have hx1 : (y1.take k).length = k := by rw [List.length_take, Hq1.out]; omega
  have hx2 : (y2.take k).length = k := by rw [List.length_take, Hq2.out]; omega
  have Hx1 := Lib.hid hx1
  have Hx2 := Lib.hid hx2
  clear hx1 hx2
  by_cases heq : r1 = r2
  · have hb : Hid ((y1.take k == y2.take k) = true) := by show _ = _; rw [hinj]; simp [heq]
    have he : ((r1 : Int) == (r2 : Int)) = true := by simp [heq]
    clear hinj heq
    have hE : ∀ q, Calls Try.prog 22 #[.slice A1 k c1, .slice A2 k c2] (w2.drewN q) fun e w' => e = .returned (.bool true) ∧ ∃ m, w' = (w2.drewN q).drewN m := fun q => by
      have := eqBytesQ A1 A2 c1 c2 k k (y1.take k) (y2.take k) (w2.drewN q) k1 k2 Hx1.out Hx2.out (by unfold maxLen; omega) (by unfold maxLen; omega)
      rw [hb.out] at this
      exact this
    have HE := Lib.hid hE
    clear hE
    go_wp2_with fail
    go_quiet ((go_at_call 22; exact Calls.quiet_of (HE.out _)))
    go_wp2
    go_ret
    exact ⟨rfl, below_drewN t2 _⟩
  · have hb : Hid ((y1.take k == y2.take k) = false) := by show _ = _; rw [hinj]; simp [heq]
    have he : ((r1 : Int) == (r2 : Int)) = false := by simp; omega
    clear hinj heq
    have hE : ∀ q, Calls Try.prog 22 #[.slice A1 k c1, .slice A2 k c2] (w2.drewN q) fun e w' => e = .returned (.bool false) ∧ ∃ m, w' = (w2.drewN q).drewN m := fun q => by
      have := eqBytesQ A1 A2 c1 c2 k k (y1.take k) (y2.take k) (w2.drewN q) k1 k2 Hx1.out Hx2.out (by unfold maxLen; omega) (by unfold maxLen; omega)
      rw [hb.out] at this
      exact this
    have HE := Lib.hid hE
    clear hE
    go_wp2_with fail
    go_quiet ((go_at_call 22; exact Calls.quiet_of (HE.out _)))
    go_wp2
    go_ret
    exact ⟨rfl, below_drewN t2 _⟩

end Go.Proofs.Ytjnoeojlmfmhdaa.binPrefix
