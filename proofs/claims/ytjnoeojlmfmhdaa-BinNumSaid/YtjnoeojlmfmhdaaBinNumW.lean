/-
  For every number n and all bytes b the program's Num and TakeNum answer as the document's, and BinNum returns true; no condition.
-/
import Derived.Test.YtjnoeojlmfmhdaaOpen
import Derived.Test.YtjnoeojlmfmhdaaRefTakeStr
import Derived.Test.YtjnoeojlmfmhdaaWorks2
namespace Go.Proofs.Ytjnoeojlmfmhdaa.binNum
open Go.ChangeShapes Go.WideShapes Go.ChangeAt Go.RowKit
set_option linter.unusedVariables false

set_option maxHeartbeats 1600000 in
theorem walk (n : Int) (Ab : Option Addr) (nb cb : Nat) (b : List UInt8) (w : World) (hn : (Lit.int .i64 n).wf = true) (hb : ArgB w Ab nb cb b) :
    Calls Try.prog 3 #[.int .i64 n, .slice Ab nb cb] w fun e w' => e = .returned (.bool true) ∧ Below w.heap.size w w' := by
  obtain ⟨hlb, hcb, hmb, hB⟩ := hb
  have Hl := Lib.hid hlb
  have hlx : (tk b).2.1.length ≤ nb := by
    unfold tk
    split
    · simp; omega
    · simp
  clear hlb
  have hmx : cb ≤ maxLen := by unfold maxLen; omega
  have hnx : nb ≤ maxLen := by unfold maxLen; omega
  have h1 : ∀ w, Calls Try.prog 17 #[.int .i64 n] w (RetBE w (nm n)) := fun w => num_any n w
  have h2 : ∀ w, Calls Try.prog 18 #[.int .i64 n] w (RetBE w (nm n)) := fun w => refNum_any n w
  have hy : (nm n).1.length ≤ maxLen := by
    unfold maxLen nm
    split
    · simp
    · have := dgs_len7 (n := n.toNat) (by omega)
      simp [numB]; omega
  have h3 : ∀ A c w, Bs w A b → nb ≤ c → c ≤ maxLen → Calls Try.prog 20 #[.slice A nb c] w (RetTN w (tk b)) := fun A c w hA hc hm => takeNum_any A c nb b w hA Hl.out hc (by omega) hm
  have h4 : ∀ A c w, Bs w A b → nb ≤ c → c ≤ maxLen → Calls Try.prog 21 #[.slice A nb c] w (RetTN w (tk b)) := fun A c w hA hc hm => refTakeNum_any A c nb b w hA Hl.out hc (by omega) hm
  generalize nm n = r at *
  generalize tk b = t at *
  obtain ⟨y, er⟩ := r
  obtain ⟨m, z, et⟩ := t
  simp only at hy hlx
  have H1 := Lib.hid h1
  have H2 := Lib.hid h2
  have H3 := Lib.hid h3
  have H4 := Lib.hid h4
  clear h1 h2 h3 h4
  go_enter Try.func3, Try.ntmps3
  have e1 : ((er : Int) != (er : Int)) = false := by simp
  have e2 : ((et : Int) != (et : Int)) = false := by simp
  have e3 : ((m : Int) != (m : Int)) = false := by simp
  go_wp2_with fail
  refine (H1.out _).mono ?_
  rintro e w1 ⟨v1, rfl, hnew1⟩
  obtain ⟨A1, c1, rfl, hl1, hc1, hB1⟩ := hnew1.form
  have b1 := hnew1.2
  clear hnew1
  simp only at hl1 hB1
  go_wp2_with fail
  refine (H2.out _).mono ?_
  rintro e w2 ⟨v2, rfl, hnew2⟩
  obtain ⟨A2, c2, rfl, hl2, hc2, hB2⟩ := hnew2.form
  have b2 := hnew2.2
  have t2 := b1.trans (b2.mono b1.size)
  clear hnew2
  simp only at hl2 hB2
  go_wp2_with fail
  refine (copyBytes _ _ _ b _ (hB.on t2) Hl.out (by omega)).mono ?_
  rintro e w3 ⟨v3, rfl, hnew3⟩
  obtain ⟨A3, c3, rfl, hl3, hc3, hB3⟩ := hnew3.form
  have b3 := hnew3.2
  have t3 := t2.trans (b3.mono t2.size)
  clear hnew3
  rw [Hl.out] at hl3
  rw [Hl.out]
  go_wp2_with fail
  refine (H3.out _ _ _ hB3 hl3 hc3).mono ?_
  rintro e w4 ⟨v4, rfl, hnew4⟩
  obtain ⟨A4, c4, rfl, hl4, hc4, hB4⟩ := hnew4.form
  have b4 := hnew4.2
  have t4 := t3.trans (b4.mono t3.size)
  have ho4 := hnew4.1
  clear hnew4
  simp only at hl4 hB4 ho4
  go_wp2_with fail
  refine (H4.out _ _ _ (hB.on t4) hcb hmx).mono ?_
  rintro e w5 ⟨v5, rfl, hnew5⟩
  obtain ⟨A5, c5, rfl, hl5, hc5, hB5⟩ := hnew5.form
  have b5 := hnew5.2
  have t5 := t4.trans (b5.mono t4.size)
  clear hnew5
  simp only at hl5 hB5
  go_wp2_with fail
  refine (eqSame _ _ _ _ _ _ y _ ((((hB1.on b2).on b3).on b4).on b5) (((hB2.on b3).on b4).on b5) rfl rfl hy).mono ?_
  rintro e w6 ⟨rfl, b6⟩
  have t6 := t5.trans (b6.mono t5.size)
  go_wp2_with fail
  refine (eqSame _ _ _ _ _ _ z _ ((hB4.on b5).on b6) (hB5.on b6) rfl rfl (by omega)).mono ?_
  rintro e w7 ⟨rfl, b7⟩
  have t7 := t6.trans (b7.mono t6.size)
  go_wp2_with fail
  have ho7 : Mine w7 w3.heap.size 5 (.slice A4 z.length c4) z := (((ho4.after b5).after b6).after b7)
  refine (spoil_any _ _ _ _ z _ ho7 rfl (by omega)).mono ?_
  rintro e w8 ⟨rfl, g8⟩
  have s37 : Below w3.heap.size w3 w7 := ((b4.trans (b5.mono b4.size)).trans (b6.mono (b4.trans (b5.mono b4.size)).size)).trans (b7.mono ((b4.trans (b5.mono b4.size)).trans (b6.mono (b4.trans (b5.mono b4.size)).size)).size)
  have b8 := Mine.only ho7 g8 s37.size
  have s38 := s37.trans b8
  have t8 := t3.trans (s38.mono t3.size)
  go_wp2_with fail
  refine (eqSame _ _ _ _ _ _ b _ (hB3.on s38) (hB.on t8) Hl.out Hl.out hnx).mono ?_
  rintro e w9 ⟨rfl, b9⟩
  have t9 := t8.trans (b9.mono t8.size)
  go_wp2_with fail
  refine (works_any _).mono ?_
  rintro e w10 ⟨rfl, b10⟩
  have t10 := t9.trans (b10.mono t9.size)
  go_wp2
  go_ret
  exact ⟨rfl, t10⟩

end Go.Proofs.Ytjnoeojlmfmhdaa.binNum
