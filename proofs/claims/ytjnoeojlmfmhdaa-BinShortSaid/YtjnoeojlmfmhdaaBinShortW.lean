/-
  For every number n and every place a number's bytes that are cut there are told to be short, and BinShort returns true; no condition.
-/
import Derived.Test.YtjnoeojlmfmhdaaOpen
import Derived.Test.YtjnoeojlmfmhdaaWorks2
import Derived.Test.YtjnoeojlmfmhdaaPlain2
import Derived.Test.YtjnoeojlmfmhdaaBring
namespace Go.Proofs.Ytjnoeojlmfmhdaa.binShort
open Go.ChangeShapes Go.WideShapes Go.ChangeAt Go.RowKit
set_option linter.unusedVariables false

set_option maxHeartbeats 1600000 in
theorem walk (n : Int) (m : Int) (w : World) (hn : (Lit.int .i64 n).wf = true) (hm : (Lit.int .i64 m).wf = true) :
    Calls Try.prog 13 #[.int .i64 n, .int .i64 m] w fun e w' => e = .returned (.bool true) ∧ Below w.heap.size w w' := by
  have hn1 := bounds_i64 hn
  have hm1 := bounds_i64 hm
  clear hn hm
  go_enter Try.func13, Try.ntmps13
  go_wp2_with fail
  refine (works_any _).mono ?_
  rintro e w0 ⟨rfl, b0⟩
  go_wp2_with fail
  refine (bring_any n 9007199254740992 _ (by omega) (by omega) hn1.1 hn1.2).mono ?_
  rintro e w' ⟨r1, hr1, rfl, rfl⟩
  have hk1 : r1 ≤ 9007199254740991 := by omega
  have h1 : ∀ w, Calls Try.prog 17 #[.int .i64 (r1 : Int)] w (RetBE w (numB r1, 0)) := fun w => by
    have hnm : nm (r1 : Int) = (numB r1, 0) := by unfold nm; rw [if_neg (by omega), Int.toNat_natCast]
    rw [← hnm]; exact num_any r1 w
  have hlen := numB_length (n := r1)
  have h7 := dgs_len7 hk1
  have hy8 : (numB r1).length ≤ 8 := by omega
  have hy1 : 1 ≤ (numB r1).length := by omega
  have hsh : ∀ j, j < (numB r1).length → tk ((numB r1).take j) = (0, [], 3) := fun j hj => tk_short hk1 hj
  clear hlen h7
  generalize numB r1 = y1 at *
  generalize hq1 : y1.length = q1 at *
  have Hq1 := Lib.hid hq1
  have H1 := Lib.hid h1
  have Hsh := Lib.hid hsh
  clear hq1 h1 hsh
  have hq0 : ((q1 : Int) == 0) = false := by simp; omega
  go_wp2_with fail
  refine (H1.out _).mono ?_
  rintro e w1 ⟨v1, rfl, hnew1⟩
  obtain ⟨A1, c1, rfl, hl1, hc1, hB1⟩ := hnew1.form
  have b1 := hnew1.2
  have t1 := b0.trans (b1.mono b0.size)
  clear hnew1
  simp only [Hq1.out] at hl1 hB1
  simp only [Hq1.out]
  go_wp2_with fail
  refine (bring_any m (q1 : Int) _ (by omega) (by omega) hm1.1 hm1.2).mono ?_
  rintro e w' ⟨r2, hr2, rfl, rfl⟩
  have hf1 := run_front A1 q1 c1 r2 (by omega)
  have k1 := hB1.front (m := r2) (by rw [Hq1.out]; omega)
  have h3 := takeNum_any A1 c1 r2 (y1.take r2) w1 k1 (by rw [List.length_take, Hq1.out]; omega) (by omega) (by omega) hc1
  rw [Hsh.out r2 (by omega)] at h3
  have H3 := Lib.hid h3
  clear h3
  go_wp2_with fail
  refine H3.out.mono ?_
  rintro e w3 ⟨v3, rfl, hnew3⟩
  obtain ⟨A3, c3, rfl, hl3, hc3, hB3⟩ := hnew3.form
  have b3 := hnew3.2
  have t3 := t1.trans (b3.mono t1.size)
  clear hnew3
  go_wp2
  go_ret
  exact ⟨rfl, t3⟩

end Go.Proofs.Ytjnoeojlmfmhdaa.binShort
