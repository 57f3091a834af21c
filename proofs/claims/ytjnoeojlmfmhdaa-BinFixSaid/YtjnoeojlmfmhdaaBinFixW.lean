/-
  For all bytes b and every number n the program's TakeFix answers as the document's, and BinFix returns true; no condition.
-/
import Derived.Test.YtjnoeojlmfmhdaaOpen
import Derived.Test.YtjnoeojlmfmhdaaRefTakeStr
import Derived.Test.YtjnoeojlmfmhdaaWorks2
namespace Go.Proofs.Ytjnoeojlmfmhdaa.binFix
open Go.ChangeShapes Go.WideShapes Go.ChangeAt Go.RowKit
set_option linter.unusedVariables false

set_option maxHeartbeats 1600000 in
theorem walk (Ab : Option Addr) (nb cb : Nat) (b : List UInt8) (n : Int) (w : World) (hb : ArgB w Ab nb cb b) (hn : (Lit.int .i64 n).wf = true) :
    Calls Try.prog 5 #[.slice Ab nb cb, .int .i64 n] w fun e w' => e = .returned (.bool true) ∧ Below w.heap.size w w' := by
  obtain ⟨hlb, hcb, hmb, hB⟩ := hb
  have Hl := Lib.hid hlb
  have hlx : (tf b n).1.length ≤ nb ∧ (tf b n).2.1.length ≤ nb := by
    unfold tf
    split
    · simp
    · split
      · simp
      · simp; omega
  clear hlb
  have hmx : cb ≤ maxLen := by unfold maxLen; omega
  have hnx : nb ≤ maxLen := by unfold maxLen; omega
  have h3 : ∀ A c w, Bs w A b → nb ≤ c → c ≤ maxLen → Calls Try.prog 29 #[.slice A nb c, .int .i64 n] w (RetTF w (tf b n)) := fun A c w hA hc hm => takeFix_any A c nb n b w hA Hl.out hc (by omega) hm
  have h4 : ∀ A c w, Bs w A b → nb ≤ c → c ≤ maxLen → Calls Try.prog 30 #[.slice A nb c, .int .i64 n] w (RetTF w (tf b n)) := fun A c w hA hc hm => refTakeFix_any A c nb n b w hA Hl.out hc (by omega) hm
  generalize tf b n = t at *
  obtain ⟨y, z, et⟩ := t
  simp only at hlx
  obtain ⟨hly, hlz⟩ := hlx
  have H3 := Lib.hid h3
  have H4 := Lib.hid h4
  clear h3 h4
  have e2 : ((et : Int) != (et : Int)) = false := by simp
  go_enter Try.func5, Try.ntmps5
  go_wp2_with fail
  refine (copyBytes _ _ _ b _ hB Hl.out (by omega)).mono ?_
  rintro e w1 ⟨v1, rfl, hnew1⟩
  obtain ⟨A1, c1, rfl, hl1, hc1, hB1⟩ := hnew1.form
  have b1 := hnew1.2
  clear hnew1
  rw [Hl.out] at hl1
  rw [Hl.out]
  go_wp2_with fail
  refine (H3.out _ _ _ hB1 hl1 hc1).mono ?_
  rintro e w3 ⟨v2, v3, w2, rfl, hnew2, hnew3⟩
  obtain ⟨A2, c2, rfl, hl2, hc2, hB2⟩ := hnew2.form
  obtain ⟨A3, c3, rfl, hl3, hc3, hB3⟩ := hnew3.form
  have b2 := hnew2.2
  have b3 := hnew3.2
  have ho2 := hnew2.1
  have ho3 := hnew3.1
  have b13 := b2.trans (b3.mono b2.size)
  have t3 := b1.trans (b13.mono b1.size)
  have k2 := hB2.on b3
  clear hnew2 hnew3 hB2
  simp only at hl2 hl3 hB3 k2 ho2 ho3
  go_wp2_with fail
  refine (H4.out _ _ _ (hB.on t3) hcb hmx).mono ?_
  rintro e w5 ⟨v4, v5, w4, rfl, hnew4, hnew5⟩
  obtain ⟨A4, c4, rfl, hl4, hc4, hB4⟩ := hnew4.form
  obtain ⟨A5, c5, rfl, hl5, hc5, hB5⟩ := hnew5.form
  have b35 := hnew4.2.trans (hnew5.2.mono hnew4.2.size)
  have k4 := hB4.on hnew5.2
  clear hnew4 hnew5 hB4
  simp only at hl4 hl5 hB5 k4
  have t5 := t3.trans (b35.mono t3.size)
  go_wp2_with fail
  refine (eqSame _ _ _ _ _ _ y _ (k2.on b35) k4 rfl rfl (by omega)).mono ?_
  rintro e w6 ⟨rfl, b6⟩
  have t6 := t5.trans (b6.mono t5.size)
  have b36 := b35.trans (b6.mono b35.size)
  go_wp2_with fail
  refine (eqSame _ _ _ _ _ _ z _ (hB3.on b36) (hB5.on b6) rfl rfl (by omega)).mono ?_
  rintro e w7 ⟨rfl, b7⟩
  have t7 := t6.trans (b7.mono t6.size)
  have b37 := b36.trans (b7.mono b36.size)
  have o2 : Mine w7 w1.heap.size 5 (.slice A2 y.length c2) y := (ho2.after b3).after b37
  have o3 : Mine w7 w2.heap.size 5 (.slice A3 z.length c3) z := ho3.after b37
  go_wp2_with fail
  refine (spoil_any _ _ _ _ y _ o2 rfl (by omega)).mono ?_
  rintro e w8 ⟨rfl, g8⟩
  have b17 := b13.trans (b37.mono b13.size)
  have b8 := Mine.only o2 g8 b17.size
  have o3' : Mine w8 w2.heap.size 5 (.slice A3 z.length c3) z := Mine.other o3 g8 fun k hk => (World.ownsRow.lt ho2 k hk).2
  have b18 := b17.trans b8
  go_wp2_with fail
  refine (spoil_any _ _ _ _ z _ o3' rfl (by omega)).mono ?_
  rintro e w9 ⟨rfl, g9⟩
  have b9 := Mine.only o3' g9 (by have := b37.size; have := b3.size; have := b8.size; omega)
  have b19 := b18.trans (b9.mono b2.size)
  have t9 := b1.trans (b19.mono b1.size)
  go_wp2_with fail
  refine (eqSame _ _ _ _ _ _ b _ (hB1.on b19) (hB.on t9) Hl.out Hl.out hnx).mono ?_
  rintro e w10 ⟨rfl, b10⟩
  have t10 := t9.trans (b10.mono t9.size)
  go_wp2_with fail
  refine (works_any _).mono ?_
  rintro e w11 ⟨rfl, b11⟩
  have t11 := t10.trans (b11.mono t10.size)
  go_wp2
  go_ret
  exact ⟨rfl, t11⟩

end Go.Proofs.Ytjnoeojlmfmhdaa.binFix
