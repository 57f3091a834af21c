/-
  For all bytes a, b and c (1000 of each at most are looked at) a join of two joins is the join of all, and BinJoins returns true; no condition.
-/
import Derived.Test.YtjnoeojlmfmhdaaOpen
import Derived.Test.YtjnoeojlmfmhdaaWorks2
namespace Go.Proofs.Ytjnoeojlmfmhdaa.binJoins
open Go.ChangeShapes Go.WideShapes Go.ChangeAt Go.RowKit
set_option linter.unusedVariables false

set_option maxHeartbeats 1600000 in
theorem walk (Aa : Option Addr) (na ca : Nat) (a : List UInt8) (Ab : Option Addr) (nb cb : Nat) (b : List UInt8) (Ac : Option Addr) (nc cc : Nat) (c : List UInt8) (w : World) (ha : ArgB w Aa na ca a) (hb : ArgB w Ab nb cb b) (hc : ArgB w Ac nc cc c) :
    Calls Try.prog 15 #[.slice Aa na ca, .slice Ab nb cb, .slice Ac nc cc] w fun e w' => e = .returned (.bool true) ∧ Below w.heap.size w w' := by
  obtain ⟨ma, x, hx, ha1, ha2, ha3, hA, hmina, hcuta⟩ := cut1000 ha
  obtain ⟨mb, y, hy, hb1, hb2, hb3, hB, hminb, hcutb⟩ := cut1000 hb
  obtain ⟨mc, z, hz, hc1, hc2, hc3, hC, hminc, hcutc⟩ := cut1000 hc
  clear ha hb hc
  have Hx := Lib.hid hx
  have Hy := Lib.hid hy
  have Hz := Lib.hid hz
  clear hx hy hz
  go_enter Try.func15, Try.ntmps15
  go_wp2_with fail
  refine (works_any _).mono ?_
  rintro e w0 ⟨rfl, b0⟩
  replace hA := hA.on b0
  replace hB := hB.on b0
  replace hC := hC.on b0
  go_wp2_with fail
  go_quiet (fail)
  go_wp2_with fail
  refine (join3 (w := w0.drewN nq) (l1 := x) (l2 := y) (l3 := z) hA Hx.out hB Hy.out hC Hz.out (by omega)).mono ?_
  rintro e w1 ⟨v1, rfl, hnew1⟩
  obtain ⟨A1, c1, rfl, hl1, hc1', hB1⟩ := hnew1.form
  have b1 : Below w0.heap.size w0 w1 := (below_drewN (Below.refl _ _) nq).trans hnew1.2
  have hlen : (x ++ (y ++ z)).length = ma + (mb + mc) := by simp [Hx.out, Hy.out, Hz.out]
  have Hlen := Lib.hid hlen
  clear hnew1 hlen
  rw [Hlen.out] at hl1
  rw [Hlen.out]
  have t1 := b0.trans (b1.mono b0.size)
  go_wp2_with fail
  refine (join2 (l1 := x) (l2 := y) (hA.on b1) Hx.out (hB.on b1) Hy.out (by omega)).mono ?_
  rintro e w2 ⟨v2, rfl, hnew2⟩
  obtain ⟨A2, c2, rfl, hl2, hc2', hB2⟩ := hnew2.form
  have b2 := hnew2.2
  have t2 := t1.trans (b2.mono t1.size)
  have b12 := b1.trans (b2.mono b1.size)
  clear hnew2
  have hl2e : (x ++ y).length = ma + mb := by simp [Hx.out, Hy.out]
  have Hl2e := Lib.hid hl2e
  clear hl2e
  rw [Hl2e.out] at hl2
  rw [Hl2e.out]
  go_wp2_with fail
  refine (join2 (l1 := x ++ y) (l2 := z) hB2 Hl2e.out (hC.on b12) Hz.out (by omega)).mono ?_
  rintro e w3 ⟨v3, rfl, hnew3⟩
  obtain ⟨A3, c3, rfl, hl3, hc3', hB3⟩ := hnew3.form
  have b3 := hnew3.2
  have t3 := t2.trans (b3.mono t2.size)
  have b23 := b2.trans (b3.mono b2.size)
  clear hnew3
  rw [List.append_assoc] at hB3 hl3
  rw [List.append_assoc]
  rw [Hlen.out] at hl3
  rw [Hlen.out]
  go_wp2_with fail
  refine (eqSame _ _ _ _ _ _ (x ++ (y ++ z)) _ (hB1.on b23) hB3 Hlen.out Hlen.out (by unfold maxLen; omega)).mono ?_
  rintro e w4 ⟨rfl, b4⟩
  have t4 := t3.trans (b4.mono t3.size)
  have b24 := b23.trans (b4.mono b23.size)
  have b14 := b1.trans (b24.mono b1.size)
  go_wp2_with fail
  refine (join2 (l1 := y) (l2 := z) (hB.on b14) Hy.out (hC.on b14) Hz.out (by omega)).mono ?_
  rintro e w5 ⟨v5, rfl, hnew5⟩
  obtain ⟨A5, c5, rfl, hl5, hc5', hB5⟩ := hnew5.form
  have b5 := hnew5.2
  have t5 := t4.trans (b5.mono t4.size)
  have b15 := b14.trans (b5.mono b14.size)
  have b25 := b24.trans (b5.mono b24.size)
  clear hnew5
  have hl5e : (y ++ z).length = mb + mc := by simp [Hy.out, Hz.out]
  have Hl5e := Lib.hid hl5e
  clear hl5e
  rw [Hl5e.out] at hl5
  rw [Hl5e.out]
  go_wp2_with fail
  refine (join2 (l1 := x) (l2 := y ++ z) (hA.on b15) Hx.out hB5 Hl5e.out (by omega)).mono ?_
  rintro e w6 ⟨v6, rfl, hnew6⟩
  obtain ⟨A6, c6, rfl, hl6, hc6', hB6⟩ := hnew6.form
  have b6 := hnew6.2
  have t6 := t5.trans (b6.mono t5.size)
  have b26 := b25.trans (b6.mono b25.size)
  clear hnew6
  rw [Hlen.out] at hl6
  rw [Hlen.out]
  go_wp2_with fail
  refine (eqSame _ _ _ _ _ _ (x ++ (y ++ z)) _ (hB1.on b26) hB6 Hlen.out Hlen.out (by unfold maxLen; omega)).mono ?_
  rintro e w7 ⟨rfl, b7⟩
  have t7 := t6.trans (b7.mono t6.size)
  have hsum : ((ma : Int) + ((mb : Int) + (mc : Int)) == (ma : Int) + (mb : Int) + (mc : Int)) = true := by simp; omega
  go_wp2
  go_ret
  exact ⟨rfl, t7⟩

end Go.Proofs.Ytjnoeojlmfmhdaa.binJoins
