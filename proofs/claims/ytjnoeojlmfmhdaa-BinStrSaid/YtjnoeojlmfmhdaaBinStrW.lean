/-
  For all bytes b and every number most the program's Str and TakeStr answer as the document's, and BinStr returns true; no condition.
-/
import Derived.Test.YtjnoeojlmfmhdaaOpen
import Derived.Test.YtjnoeojlmfmhdaaRefTakeStr
import Derived.Test.YtjnoeojlmfmhdaaWorks2
namespace Go.Proofs.Ytjnoeojlmfmhdaa.binStr
open Go.ChangeShapes Go.WideShapes Go.ChangeAt Go.RowKit
set_option linter.unusedVariables false

set_option maxHeartbeats 1600000 in
theorem walk (Ab : Option Addr) (nb cb : Nat) (b : List UInt8) (most : Int) (w : World) (hb : ArgB w Ab nb cb b) (hmost : (Lit.int .i64 most).wf = true) :
    Calls Try.prog 4 #[.slice Ab nb cb, .int .i64 most] w fun e w' => e = .returned (.bool true) ∧ Below w.heap.size w w' := by
  obtain ⟨hlb, hcb, hmb, hB⟩ := hb
  have Hl := Lib.hid hlb
  have hlx : (ts b most).1.length ≤ nb ∧ (ts b most).2.1.length ≤ nb := by
    have := nu_used b
    unfold ts tf
    repeat' split
    all_goals simp
    all_goals omega
  have hls : (st b).1.length ≤ nb + 8 := by
    unfold st
    split
    · simp
    · have := dgs_len7 (n := b.length) (by omega)
      simp [numB]; omega
  clear hlb
  have hmx : cb ≤ maxLen := by unfold maxLen; omega
  have hnx : nb + 8 ≤ maxLen := by unfold maxLen; omega
  have h1 : ∀ A c w, Bs w A b → Calls Try.prog 25 #[.slice A nb c] w (RetBE w (st b)) := fun A c w hA => str_any A c nb b w hA Hl.out (by omega)
  have h2 : ∀ A c w, Bs w A b → Calls Try.prog 26 #[.slice A nb c] w (RetBE w (st b)) := fun A c w hA => refStr_any A c nb b w hA Hl.out (by omega)
  have h3 : ∀ A c w, Bs w A b → nb ≤ c → c ≤ maxLen → Calls Try.prog 27 #[.slice A nb c, .int .i64 most] w (RetTF w (ts b most)) := fun A c w hA hc hm => takeStr_any A c nb most b w hA Hl.out hc (by omega) hm
  have h4 : ∀ A c w, Bs w A b → nb ≤ c → c ≤ maxLen → Calls Try.prog 28 #[.slice A nb c, .int .i64 most] w (RetTF w (ts b most)) := fun A c w hA hc hm => refTakeStr_any A c nb most b w hA Hl.out hc (by omega) hm
  generalize ts b most = t at *
  generalize st b = r at *
  obtain ⟨y, z, et⟩ := t
  obtain ⟨x, er⟩ := r
  simp only at hlx hls
  obtain ⟨hly, hlz⟩ := hlx
  have H1 := Lib.hid h1
  have H2 := Lib.hid h2
  have H3 := Lib.hid h3
  have H4 := Lib.hid h4
  clear h1 h2 h3 h4
  have e1 : ((er : Int) != (er : Int)) = false := by simp
  have e2 : ((et : Int) != (et : Int)) = false := by simp
  go_enter Try.func4, Try.ntmps4
  go_wp2_with fail
  refine (copyBytes _ _ _ b _ hB Hl.out (by omega)).mono ?_
  rintro e w1 ⟨v1, rfl, hnew1⟩
  obtain ⟨A1, c1, rfl, hl1, hc1, hB1⟩ := hnew1.form
  have b1 := hnew1.2
  clear hnew1
  rw [Hl.out] at hl1
  rw [Hl.out]
  go_wp2_with fail
  refine (H1.out _ _ _ hB1).mono ?_
  rintro e wx ⟨vx, rfl, hnewx⟩
  obtain ⟨Ax, cx, rfl, hlx, hcx, hBx⟩ := hnewx.form
  have bx := hnewx.2
  have hox := hnewx.1
  clear hnewx
  simp only at hlx hBx hox
  have tx := b1.trans (bx.mono b1.size)
  go_wp2_with fail
  refine (H2.out _ _ _ (hB.on tx)).mono ?_
  rintro e wy ⟨vy, rfl, hnewy⟩
  obtain ⟨Ay, cy, rfl, hly', hcy, hBy⟩ := hnewy.form
  have bY := hnewy.2
  clear hnewy
  simp only at hly' hBy
  have ty := tx.trans (bY.mono tx.size)
  have b1y := bx.trans (bY.mono bx.size)
  go_wp2_with fail
  refine (H3.out _ _ _ (hB1.on b1y) hl1 hc1).mono ?_
  rintro e w3 ⟨v2, v3, w2, rfl, hnew2, hnew3⟩
  obtain ⟨A2, c2, rfl, hl2, hc2, hB2⟩ := hnew2.form
  obtain ⟨A3, c3, rfl, hl3, hc3, hB3⟩ := hnew3.form
  have b2 := hnew2.2
  have b3 := hnew3.2
  have ho2 := hnew2.1
  have ho3 := hnew3.1
  have by3 := b2.trans (b3.mono b2.size)
  have t3 := ty.trans (by3.mono ty.size)
  have k2 := hB2.on b3
  clear hnew2 hnew3 hB2
  simp only at hl2 hl3 hB3 k2 ho2 ho3
  go_wp2_with fail
  refine (H4.out _ _ _ (hB.on t3) hcb hmx).mono ?_
  rintro e w5 ⟨v4, v5, w4, rfl, hnew4, hnew5⟩
  obtain ⟨A4, c4, rfl, hl4, hc4, hB4⟩ := hnew4.form
  obtain ⟨A5, c5, rfl, hl5, hc5, hB5⟩ := hnew5.form
  have b35 := hnew4.2.trans (hnew5.2.mono hnew4.2.size)
  have k4 := hB4.on hnew5.2
  clear hnew4 hnew5 hB4
  simp only at hl4 hl5 hB5 k4
  have t5 := t3.trans (b35.mono t3.size)
  have bx5 : Below wx.heap.size wx w5 := (bY.trans (by3.mono bY.size)).trans (b35.mono (bY.trans (by3.mono bY.size)).size)
  have by5 := by3.trans (b35.mono by3.size)
  go_wp2_with fail
  refine (eqSame _ _ _ _ _ _ x _ (hBx.on bx5) (hBy.on by5) rfl rfl (by omega)).mono ?_
  rintro e wz ⟨rfl, bz⟩
  have tz := t5.trans (bz.mono t5.size)
  have b3z := b35.trans (bz.mono b35.size)
  go_wp2_with fail
  refine (eqSame _ _ _ _ _ _ y _ (k2.on b3z) (k4.on bz) rfl rfl (by omega)).mono ?_
  rintro e w6 ⟨rfl, b6⟩
  have t6 := tz.trans (b6.mono tz.size)
  have b36 := b3z.trans (b6.mono b3z.size)
  go_wp2_with fail
  refine (eqSame _ _ _ _ _ _ z _ (hB3.on b36) ((hB5.on bz).on b6) rfl rfl (by omega)).mono ?_
  rintro e w7 ⟨rfl, b7⟩
  have t7 := t6.trans (b7.mono t6.size)
  have b37 := b36.trans (b7.mono b36.size)
  have bx7 : Below wx.heap.size wx w7 := (bx5.trans (bz.mono bx5.size)).trans ((b6.trans (b7.mono b6.size)).mono (bx5.trans (bz.mono bx5.size)).size)
  have b17 : Below w1.heap.size w1 w7 := bx.trans (bx7.mono bx.size)
  have ox : Mine w7 w1.heap.size 5 (.slice Ax x.length cx) x := hox.after bx7
  have o2 : Mine w7 wy.heap.size 5 (.slice A2 y.length c2) y := (ho2.after b3).after b37
  have o3 : Mine w7 w2.heap.size 5 (.slice A3 z.length c3) z := ho3.after b37
  go_wp2_with fail
  refine (spoil_any _ _ _ _ x _ ox rfl (by omega)).mono ?_
  rintro e w8 ⟨rfl, g8⟩
  have b8 := Mine.only ox g8 b17.size
  have b18 := b17.trans b8
  have o2' : Mine w8 wy.heap.size 5 (.slice A2 y.length c2) y := Mine.other o2 g8 fun k hk => by have := (World.ownsRow.lt hox k hk).2; have := bY.size; omega
  have o3' : Mine w8 w2.heap.size 5 (.slice A3 z.length c3) z := Mine.other o3 g8 fun k hk => by have := (World.ownsRow.lt hox k hk).2; have := bY.size; have := b2.size; omega
  go_wp2_with fail
  refine (spoil_any _ _ _ _ y _ o2' rfl (by omega)).mono ?_
  rintro e w9 ⟨rfl, g9⟩
  have b9 := Mine.only o2' g9 (by have := by3.size; have := b37.size; have := b8.size; omega)
  have b19 := b18.trans (b9.mono b1y.size)
  have o3'' : Mine w9 w2.heap.size 5 (.slice A3 z.length c3) z := Mine.other o3' g9 fun k hk => (World.ownsRow.lt ho2 k hk).2
  go_wp2_with fail
  refine (spoil_any _ _ _ _ z _ o3'' rfl (by omega)).mono ?_
  rintro e w10 ⟨rfl, g10⟩
  have b10 := Mine.only o3'' g10 (by have := b3.size; have := b37.size; have := b8.size; have := b9.size; omega)
  have b110 := b19.trans (b10.mono (by have := b1y.size; have := b2.size; omega))
  have t10 := b1.trans (b110.mono b1.size)
  go_wp2_with fail
  refine (eqSame _ _ _ _ _ _ b _ (hB1.on b110) (hB.on t10) Hl.out Hl.out (by omega)).mono ?_
  rintro e w11 ⟨rfl, b11⟩
  have t11 := t10.trans (b11.mono t10.size)
  go_wp2_with fail
  refine (works_any _).mono ?_
  rintro e w12 ⟨rfl, b12⟩
  have t12 := t11.trans (b12.mono t11.size)
  go_wp2
  go_ret
  exact ⟨rfl, t12⟩

end Go.Proofs.Ytjnoeojlmfmhdaa.binStr
