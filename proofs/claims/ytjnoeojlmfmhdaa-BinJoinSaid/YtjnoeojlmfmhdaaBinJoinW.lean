/-
  For all bytes a, b and c (1000 of each at most are looked at) the program's Join answers as the document's, and BinJoin returns true; no condition.
-/
import Derived.Test.YtjnoeojlmfmhdaaOpen
import Derived.Test.YtjnoeojlmfmhdaaRefTakeStr
import Derived.Test.YtjnoeojlmfmhdaaWorks2
namespace Go.Proofs.Ytjnoeojlmfmhdaa.binJoin
open Go.ChangeShapes Go.WideShapes Go.ChangeAt Go.RowKit
set_option linter.unusedVariables false

set_option maxRecDepth 100000 in
set_option maxHeartbeats 4000000 in
theorem walk (Aa : Option Addr) (na ca : Nat) (a : List UInt8) (Ab : Option Addr) (nb cb : Nat) (b : List UInt8) (Ac : Option Addr) (nc cc : Nat) (c : List UInt8) (w : World) (ha : ArgB w Aa na ca a) (hb : ArgB w Ab nb cb b) (hc : ArgB w Ac nc cc c) :
    Calls Try.prog 6 #[.slice Aa na ca, .slice Ab nb cb, .slice Ac nc cc] w fun e w' => e = .returned (.bool true) ∧ Below w.heap.size w w' := by
  obtain ⟨ma, x, hx, ha1, ha2, ha3, hA, hmina, hcuta⟩ := cut1000 ha
  obtain ⟨mb, y, hy, hb1, hb2, hb3, hB, hminb, hcutb⟩ := cut1000 hb
  obtain ⟨mc, z, hz, hc1, hc2, hc3, hC, hminc, hcutc⟩ := cut1000 hc
  clear ha hb hc
  have Hx := Lib.hid hx
  have Hy := Lib.hid hy
  have Hz := Lib.hid hz
  have Hxyz := Lib.hid (show (x ++ (y ++ z)).length = ma + (mb + mc) from by simp [hx, hy, hz])
  have Hxz := Lib.hid (show (x ++ z).length = ma + mc from by simp [hx, hz])
  have hL : ma + (mb + mc) ≤ maxLen := by unfold maxLen; omega
  have hL2 : ma + mc ≤ maxLen := by omega
  have hLa : ma ≤ maxLen := by omega
  have hLb : mb ≤ maxLen := by omega
  have hLc : mc ≤ maxLen := by omega
  clear hx hy hz
  go_enter Try.func6, Try.ntmps6
  go_wp2_with fail
  go_quiet (fail)
  have t : Below w.heap.size w (w.drewN nq) := below_drewN (Below.refl _ _) nq
  obtain ⟨w0, hw0⟩ : ∃ w0, w0 = w.drewN nq := ⟨_, rfl⟩
  rw [← hw0]
  rw [← hw0] at t
  have hA0 : Bs w0 Aa x := by rw [hw0]; exact hA
  have hB0 : Bs w0 Ab y := by rw [hw0]; exact hB
  have hC0 : Bs w0 Ac z := by rw [hw0]; exact hC
  clear hw0 hA hB hC
  go_wp2_with fail
  refine (copyBytes _ _ _ x _ hA0 Hx.out (by omega)).mono ?_
  rintro e w1 ⟨v1, rfl, hnew1⟩
  obtain ⟨A1, c1, rfl, hl1, hc1', X⟩ := hnew1.form
  have b1 := hnew1.2
  clear hnew1 hl1 hc1'
  rw [Hx.out]
  go_wp2_with fail
  refine (copyBytes _ _ _ y _ (hB0.on b1) Hy.out (by omega)).mono ?_
  rintro e w2 ⟨v2, rfl, hnew2⟩
  obtain ⟨A2, c2, rfl, hl2, hc2', Y⟩ := hnew2.form
  have b2 := b1.trans (hnew2.2.mono b1.size)
  replace X := X.on hnew2.2
  clear hnew2 hl2 hc2'
  rw [Hy.out]
  go_wp2_with fail
  refine (copyBytes _ _ _ z _ (hC0.on b2) Hz.out (by omega)).mono ?_
  rintro e w3 ⟨v3, rfl, hnew3⟩
  obtain ⟨A3, c3, rfl, hl3, hc3', Z⟩ := hnew3.form
  have b3 := b2.trans (hnew3.2.mono b2.size)
  replace X := X.on hnew3.2
  replace Y := Y.on hnew3.2
  replace hA0 := hA0.on b3
  replace hB0 := hB0.on b3
  replace hC0 := hC0.on b3
  replace t := t.trans (b3.mono t.size)
  clear hnew3 hl3 hc3' b1 b2 b3
  rw [Hz.out]
  go_wp2_with fail
  refine (join3 (l1 := x) (l2 := y) (l3 := z) X Hx.out Y Hy.out Z Hz.out (by omega)).mono ?_
  rintro e w4 ⟨v4, rfl, hnew4⟩
  obtain ⟨A4, c4, rfl, hl4, hc4', P⟩ := hnew4.form
  have oP := hnew4.1
  have s4 := hnew4.2
  clear hnew4 hl4 hc4'
  rw [Hxyz.out]
  rw [Hxyz.out] at oP
  go_wp2_with fail
  refine (join2 (l1 := x) (l2 := z) (X.on s4) Hx.out (Z.on s4) Hz.out (by omega)).mono ?_
  rintro e w5 ⟨v5, rfl, hnew5⟩
  obtain ⟨A5, c5, rfl, hl5, hc5', Q⟩ := hnew5.form
  have oQ := hnew5.1
  have s45 := hnew5.2
  have s5 := s4.trans (s45.mono s4.size)
  clear hnew5 hl5 hc5'
  rw [Hxz.out]
  rw [Hxz.out] at oQ
  go_wp2_with fail
  refine (join1 (l1 := y) (Y.on s5) Hy.out (by omega)).mono ?_
  rintro e w6 ⟨v6, rfl, hnew6⟩
  obtain ⟨A6, c6, rfl, hl6, hc6', R⟩ := hnew6.form
  have oR := hnew6.1
  have s56 := hnew6.2
  have s6 := s5.trans (s56.mono s5.size)
  have s46 := s45.trans (s56.mono s45.size)
  clear hnew6 hl6 hc6'
  rw [Hy.out]
  rw [Hy.out] at oR
  go_wp2_with fail
  refine (join0 _).mono ?_
  rintro e w7 ⟨v7, rfl, hnew7⟩
  obtain ⟨A7, c7, rfl, hl7, hc7', -⟩ := hnew7.form
  have s67 := hnew7.2
  clear hnew7 hl7 hc7'
  have s7 := s6.trans (s67.mono s6.size)
  have s47 := s46.trans (s67.mono s46.size)
  have s57 := s56.trans (s67.mono s56.size)
  go_wp2_with fail
  refine (refJoin3 (l1 := x) (l2 := y) (l3 := z) (hA0.on s7) Hx.out (hB0.on s7) Hy.out (hC0.on s7) Hz.out (by omega)).mono ?_
  rintro e w8 ⟨v8, rfl, hnew8⟩
  obtain ⟨A8, c8, rfl, hl8, hc8', P'⟩ := hnew8.form
  have s78 := hnew8.2
  clear hnew8 hl8 hc8'
  rw [Hxyz.out]
  go_wp2_with fail
  refine (eqSame _ _ _ _ _ _ (x ++ (y ++ z)) _ ((P.on s47).on s78) P' Hxyz.out Hxyz.out hL).mono ?_
  rintro e w9 ⟨rfl, q9⟩
  have s79 := s78.trans (q9.mono s78.size)
  have s9 := s7.trans (s79.mono s7.size)
  clear P'
  go_wp2_with fail
  refine (refJoin2 (l1 := x) (l2 := z) (hA0.on s9) Hx.out (hC0.on s9) Hz.out (by omega)).mono ?_
  rintro e w10 ⟨v10, rfl, hnew10⟩
  obtain ⟨A10, c10, rfl, hl10, hc10', Q'⟩ := hnew10.form
  have s910 := hnew10.2
  clear hnew10 hl10 hc10'
  rw [Hxz.out]
  have s710 := s79.trans (s910.mono s79.size)
  go_wp2_with fail
  refine (eqSame _ _ _ _ _ _ (x ++ z) _ ((Q.on s57).on s710) Q' Hxz.out Hxz.out hL2).mono ?_
  rintro e w11 ⟨rfl, q11⟩
  have s711 := s710.trans (q11.mono s710.size)
  have s11 := s7.trans (s711.mono s7.size)
  clear Q'
  go_wp2_with fail
  refine (eqSame _ _ _ _ _ _ y _ ((R.on s67).on s711) (hB0.on s11) Hy.out Hy.out hLb).mono ?_
  rintro e w12 ⟨rfl, q12⟩
  have s712 := s711.trans (q12.mono s711.size)
  have s12 := s7.trans (s712.mono s7.size)
  have s412 := s47.trans (s712.mono s47.size)
  have s512 := s57.trans (s712.mono s57.size)
  have s612 := s67.trans (s712.mono s67.size)
  have p1 : Mine w12 w3.heap.size 5 (.slice A4 (ma + (mb + mc)) c4) (x ++ (y ++ z)) := Mine.after oP s412
  have p2 : Mine w12 w4.heap.size 5 (.slice A5 (ma + mc) c5) (x ++ z) := Mine.after oQ s512
  have p3 : Mine w12 w5.heap.size 5 (.slice A6 mb c6) y := Mine.after oR s612
  go_wp2_with fail
  refine (spoil_any _ _ _ _ _ _ p1 Hxyz.out hL).mono ?_
  rintro e w13 ⟨rfl, g13⟩
  have b13 := s12.trans (Mine.only p1 g13 s12.size)
  replace p2 := Mine.other p2 g13 fun k hk => (World.ownsRow.lt oP k hk).2
  replace p3 := Mine.other p3 g13 fun k hk => by have := (World.ownsRow.lt oP k hk).2; have := s45.size; omega
  go_wp2_with fail
  refine (spoil_any _ _ _ _ _ _ p2 Hxz.out hL2).mono ?_
  rintro e w14 ⟨rfl, g14⟩
  have b14 := b13.trans ((Mine.only p2 g14 (by have := s412.size; have := g13.size; omega)).mono s4.size)
  replace p3 := Mine.other p3 g14 fun k hk => (World.ownsRow.lt oQ k hk).2
  go_wp2_with fail
  refine (spoil_any _ _ _ _ _ _ p3 Hy.out hLb).mono ?_
  rintro e w15 ⟨rfl, g15⟩
  have b15 := b14.trans ((Mine.only p3 g15 (by have := s512.size; have := g13.size; have := g14.size; omega)).mono s5.size)
  replace t := t.trans (b15.mono t.size)
  replace X := X.on b15
  replace Y := Y.on b15
  replace Z := Z.on b15
  replace hA0 := hA0.on b15
  replace hB0 := hB0.on b15
  replace hC0 := hC0.on b15
  clear b15 b14 b13 p1 p2 p3 g13 g14 g15 oP oQ oR
  go_wp2_with fail
  refine (eqSame _ _ _ _ _ _ x _ X hA0 Hx.out Hx.out hLa).mono ?_
  rintro e w16 ⟨rfl, q16⟩
  replace t := t.trans (q16.mono t.size)
  go_wp2_with fail
  refine (eqSame _ _ _ _ _ _ y _ (Y.on q16) (hB0.on q16) Hy.out Hy.out hLb).mono ?_
  rintro e w17 ⟨rfl, q17⟩
  replace t := t.trans (q17.mono t.size)
  go_wp2_with fail
  refine (eqSame _ _ _ _ _ _ z _ ((Z.on q16).on q17) ((hC0.on q16).on q17) Hz.out Hz.out hLc).mono ?_
  rintro e w18 ⟨rfl, q18⟩
  replace t := t.trans (q18.mono t.size)
  go_wp2_with fail
  refine (works_any _).mono ?_
  rintro e w19 ⟨rfl, q19⟩
  replace t := t.trans (q19.mono t.size)
  go_wp2
  go_ret
  exact ⟨rfl, t⟩

end Go.Proofs.Ytjnoeojlmfmhdaa.binJoin
