/-
  Laid together for a hand-in: My3, My4, My5, Ck11, Ps11.
-/
import Derived.Test.YtihmddpafbackaaGreatZ11
import Derived.Test.YtihmddpafbackaaGreatZ08
import Derived.Test.YtihmddpafbackaaGreatZ07
import Derived.Deep.DeepCutAuto

namespace Go.Proofs.YtihmddpafbackaaGreat

open Go.RowKit

set_option linter.unusedVariables false

set_option linter.unusedSimpArgs false

set_option maxRecDepth 100000 in
set_option maxHeartbeats 1600000 in
theorem mayBe_3 (x : Wl) (Dx : Option Addr) (ndx cdx : Nat) (Nx : Option Addr) (nnx cnx : Nat) (w : World) (h : ArgW w x Dx ndx cdx Nx nnx cnx) (hk : x.kd = 3) : Calls Tryz.prog 40 #[.agg #[.int .i64 x.cl, .int .i64 x.sp, .int .i64 x.gr, .int .i64 x.ep, .int .i64 x.kd, .int .i64 x.bl, .slice Dx ndx cdx, .int .i64 x.od, .int .i64 x.nw, .slice Nx nnx cnx]] w fun e w' => e = .returned (.bool (decide (May x))) ∧ Below w.heap.size w w' := by
  have hd := h.1.1
  have H := Lib.hid h.2.1.1
  have hn := h.2.1.1.1
  clear h
  obtain ⟨r, hr⟩ : ∃ r, decide (May x) = r := ⟨_, rfl⟩
  rw [hr]
  have Hr : Hid (r = true ↔ May x) := by show _ ↔ _; rw [← hr, decide_eq_true_eq]
  have F0 := Lib.hid (And.intro hd hn)
  clear hr hd hn
  have hx := Lib.hid (Wx.new (w := w) (x := x) (D := Dx) (nd := ndx) (cd := cdx) (N := Nx) (nn := nnx) (cn := cnx))
  have e1 : (x.kd == 1) = false := by rw [hk]; rfl
  have e2 : (x.kd == 2) = false := by rw [hk]; rfl
  have e3 : (x.kd == 3) = true := by rw [hk]; rfl
  have Hk := Lib.hid hk
  clear hk
  go_enter Tryz.func40, Tryz.ntmps40
  go_wp2_with fail
  refine (within_any _ _ _ _).mono ?_
  rintro e w' ⟨rfl, rfl⟩
  obtain ⟨b1, hb1⟩ : ∃ b, decide (0 ≤ x.ep ∧ x.ep ≤ 1048576) = b := ⟨_, rfl⟩
  rw [hb1]
  cases b1 with
  | false =>
    have F1 := Lib.hid (of_decide_eq_false hb1)
    clear hb1
    go_wp2
    all_goals go_ret
    all_goals first | exact ⟨ret_b0 (by rw [Hr.out]; have := F0.out; have := Hk.out; have := F1.out; unfold May; omega), hx.out.bel⟩ | exact ⟨ret_b1 (by rw [Hr.out]; have := F0.out; have := Hk.out; have := F1.out; unfold May; omega), hx.out.bel⟩ | exact ⟨ret_b (by rw [Hr.out]; simp only [Bool.and_eq_true, decide_eq_true_eq, beq_iff_eq]; have := F0.out; have := Hk.out; have := F1.out; unfold May; omega), hx.out.bel⟩
  | true =>
  have F1 := Lib.hid (of_decide_eq_true hb1)
  clear hb1
  go_wp2_with fail
  refine (asked_any x Dx ndx cdx Nx nnx cnx _).mono ?_
  rintro e w' ⟨rfl, hb⟩; replace hx := Lib.hid (Wx.on hx.out hb); clear hb; obtain ⟨⟨k0, k1, k2, k3, k4⟩, k5, k6, k7, k8, k9⟩ := hx.out.ks
  obtain ⟨b2, hb2⟩ : ∃ b, decide (Askd x) = b := ⟨_, rfl⟩
  rw [hb2]
  cases b2 with
  | false =>
    have F2 := Lib.hid (of_decide_eq_false hb2)
    clear hb2
    go_wp2
    all_goals go_ret
    all_goals first | exact ⟨ret_b0 (by rw [Hr.out]; have := F0.out; have := Hk.out; have := F1.out; have := F2.out; unfold May; omega), hx.out.bel⟩ | exact ⟨ret_b1 (by rw [Hr.out]; have := F0.out; have := Hk.out; have := F1.out; have := F2.out; unfold May; omega), hx.out.bel⟩ | exact ⟨ret_b (by rw [Hr.out]; simp only [Bool.and_eq_true, decide_eq_true_eq, beq_iff_eq]; have := F0.out; have := Hk.out; have := F1.out; have := F2.out; unfold May; omega), hx.out.bel⟩
  | true =>
  have F2 := Lib.hid (of_decide_eq_true hb2)
  clear hb2
  go_wp2_with fail
  refine (ofDirectory_any x Dx ndx cdx Nx nnx cnx _).mono ?_
  rintro e w' ⟨rfl, hb⟩; replace hx := Lib.hid (Wx.on hx.out hb); clear hb; obtain ⟨⟨k0, k1, k2, k3, k4⟩, k5, k6, k7, k8, k9⟩ := hx.out.ks
  obtain ⟨b3, hb3⟩ : ∃ b, decide (OfDr x) = b := ⟨_, rfl⟩
  rw [hb3]
  cases b3 with
  | false =>
    have F3 := Lib.hid (of_decide_eq_false hb3)
    clear hb3
    go_wp2
    all_goals go_ret
    all_goals first | exact ⟨ret_b0 (by rw [Hr.out]; have := F0.out; have := Hk.out; have := F1.out; have := F2.out; have := F3.out; unfold May; omega), hx.out.bel⟩ | exact ⟨ret_b1 (by rw [Hr.out]; have := F0.out; have := Hk.out; have := F1.out; have := F2.out; have := F3.out; unfold May; omega), hx.out.bel⟩ | exact ⟨ret_b (by rw [Hr.out]; simp only [Bool.and_eq_true, decide_eq_true_eq, beq_iff_eq]; have := F0.out; have := Hk.out; have := F1.out; have := F2.out; have := F3.out; unfold May; omega), hx.out.bel⟩
  | true =>
  have F3 := Lib.hid (of_decide_eq_true hb3)
  clear hb3
  by_cases hz : ndx = 0
  rotate_left
  · have hz0 : ((ndx : Int) == 0) = false := by simp only [beq_eq_false_iff_ne]; omega
    have Hz := Lib.hid hz
    clear hz
    go_wp2
    all_goals go_ret
    all_goals first | exact ⟨ret_b0 (by rw [Hr.out]; have := F0.out; have := Hk.out; have := F1.out; have := F2.out; have := F3.out; have := Hz.out; unfold May; omega), hx.out.bel⟩ | exact ⟨ret_b1 (by rw [Hr.out]; have := F0.out; have := Hk.out; have := F1.out; have := F2.out; have := F3.out; have := Hz.out; unfold May; omega), hx.out.bel⟩ | exact ⟨ret_b (by rw [Hr.out]; simp only [Bool.and_eq_true, decide_eq_true_eq, beq_iff_eq]; have := F0.out; have := Hk.out; have := F1.out; have := F2.out; have := F3.out; have := Hz.out; unfold May; omega), hx.out.bel⟩
  have hz0 : ((ndx : Int) == 0) = true := by simp only [beq_iff_eq]; omega
  have Hz := Lib.hid hz
  clear hz
  go_wp2_with fail
  refine (noSwap_any x Dx ndx cdx Nx nnx cnx _).mono ?_
  rintro e w' ⟨rfl, hb⟩; replace hx := Lib.hid (Wx.on hx.out hb); clear hb; obtain ⟨⟨k0, k1, k2, k3, k4⟩, k5, k6, k7, k8, k9⟩ := hx.out.ks
  obtain ⟨b4, hb4⟩ : ∃ b, decide (NoS x) = b := ⟨_, rfl⟩
  rw [hb4]
  cases b4 with
  | false =>
    have F4 := Lib.hid (of_decide_eq_false hb4)
    clear hb4
    go_wp2
    all_goals go_ret
    all_goals first | exact ⟨ret_b0 (by rw [Hr.out]; have := F0.out; have := Hk.out; have := F1.out; have := F2.out; have := F3.out; have := Hz.out; have := F4.out; unfold May; omega), hx.out.bel⟩ | exact ⟨ret_b1 (by rw [Hr.out]; have := F0.out; have := Hk.out; have := F1.out; have := F2.out; have := F3.out; have := Hz.out; have := F4.out; unfold May; omega), hx.out.bel⟩ | exact ⟨ret_b (by rw [Hr.out]; simp only [Bool.and_eq_true, decide_eq_true_eq, beq_iff_eq]; have := F0.out; have := Hk.out; have := F1.out; have := F2.out; have := F3.out; have := Hz.out; have := F4.out; unfold May; omega), hx.out.bel⟩
  | true =>
  have F4 := Lib.hid (of_decide_eq_true hb4)
  clear hb4
  go_wp2
  all_goals go_ret
  all_goals first | exact ⟨ret_b0 (by rw [Hr.out]; have := F0.out; have := Hk.out; have := F1.out; have := F2.out; have := F3.out; have := Hz.out; have := F4.out; unfold May; omega), hx.out.bel⟩ | exact ⟨ret_b1 (by rw [Hr.out]; have := F0.out; have := Hk.out; have := F1.out; have := F2.out; have := F3.out; have := Hz.out; have := F4.out; unfold May; omega), hx.out.bel⟩ | exact ⟨ret_b (by rw [Hr.out]; simp only [Bool.and_eq_true, decide_eq_true_eq, beq_iff_eq]; have := F0.out; have := Hk.out; have := F1.out; have := F2.out; have := F3.out; have := Hz.out; have := F4.out; unfold May; omega), hx.out.bel⟩

end Go.Proofs.YtihmddpafbackaaGreat

namespace Go.Proofs.YtihmddpafbackaaGreat

open Go.RowKit

set_option linter.unusedVariables false

set_option linter.unusedSimpArgs false

set_option maxRecDepth 100000 in
set_option maxHeartbeats 1600000 in
theorem mayBe_4 (x : Wl) (Dx : Option Addr) (ndx cdx : Nat) (Nx : Option Addr) (nnx cnx : Nat) (w : World) (h : ArgW w x Dx ndx cdx Nx nnx cnx) (hk : x.kd = 4) : Calls Tryz.prog 40 #[.agg #[.int .i64 x.cl, .int .i64 x.sp, .int .i64 x.gr, .int .i64 x.ep, .int .i64 x.kd, .int .i64 x.bl, .slice Dx ndx cdx, .int .i64 x.od, .int .i64 x.nw, .slice Nx nnx cnx]] w fun e w' => e = .returned (.bool (decide (May x))) ∧ Below w.heap.size w w' := by
  have hd := h.1.1
  have H := Lib.hid h.2.1.1
  have hn := h.2.1.1.1
  clear h
  obtain ⟨r, hr⟩ : ∃ r, decide (May x) = r := ⟨_, rfl⟩
  rw [hr]
  have Hr : Hid (r = true ↔ May x) := by show _ ↔ _; rw [← hr, decide_eq_true_eq]
  have F0 := Lib.hid (And.intro hd hn)
  clear hr hd hn
  have hx := Lib.hid (Wx.new (w := w) (x := x) (D := Dx) (nd := ndx) (cd := cdx) (N := Nx) (nn := nnx) (cn := cnx))
  have e1 : (x.kd == 1) = false := by rw [hk]; rfl
  have e2 : (x.kd == 2) = false := by rw [hk]; rfl
  have e3 : (x.kd == 3) = false := by rw [hk]; rfl
  have e4 : (x.kd == 4) = true := by rw [hk]; rfl
  have Hk := Lib.hid hk
  clear hk
  go_enter Tryz.func40, Tryz.ntmps40
  go_wp2_with fail
  refine (within_any _ _ _ _).mono ?_
  rintro e w' ⟨rfl, rfl⟩
  obtain ⟨b1, hb1⟩ : ∃ b, decide (0 ≤ x.ep ∧ x.ep ≤ 1048576) = b := ⟨_, rfl⟩
  rw [hb1]
  cases b1 with
  | false =>
    have F1 := Lib.hid (of_decide_eq_false hb1)
    clear hb1
    go_wp2
    all_goals go_ret
    all_goals first | exact ⟨ret_b0 (by rw [Hr.out]; have := F0.out; have := Hk.out; have := F1.out; unfold May; omega), hx.out.bel⟩ | exact ⟨ret_b1 (by rw [Hr.out]; have := F0.out; have := Hk.out; have := F1.out; unfold May; omega), hx.out.bel⟩ | exact ⟨ret_b (by rw [Hr.out]; simp only [Bool.and_eq_true, decide_eq_true_eq, beq_iff_eq]; have := F0.out; have := Hk.out; have := F1.out; unfold May; omega), hx.out.bel⟩
  | true =>
  have F1 := Lib.hid (of_decide_eq_true hb1)
  clear hb1
  go_wp2_with fail
  refine (asked_any x Dx ndx cdx Nx nnx cnx _).mono ?_
  rintro e w' ⟨rfl, hb⟩; replace hx := Lib.hid (Wx.on hx.out hb); clear hb; obtain ⟨⟨k0, k1, k2, k3, k4⟩, k5, k6, k7, k8, k9⟩ := hx.out.ks
  obtain ⟨b2, hb2⟩ : ∃ b, decide (Askd x) = b := ⟨_, rfl⟩
  rw [hb2]
  cases b2 with
  | false =>
    have F2 := Lib.hid (of_decide_eq_false hb2)
    clear hb2
    go_wp2
    all_goals go_ret
    all_goals first | exact ⟨ret_b0 (by rw [Hr.out]; have := F0.out; have := Hk.out; have := F1.out; have := F2.out; unfold May; omega), hx.out.bel⟩ | exact ⟨ret_b1 (by rw [Hr.out]; have := F0.out; have := Hk.out; have := F1.out; have := F2.out; unfold May; omega), hx.out.bel⟩ | exact ⟨ret_b (by rw [Hr.out]; simp only [Bool.and_eq_true, decide_eq_true_eq, beq_iff_eq]; have := F0.out; have := Hk.out; have := F1.out; have := F2.out; unfold May; omega), hx.out.bel⟩
  | true =>
  have F2 := Lib.hid (of_decide_eq_true hb2)
  clear hb2
  go_wp2_with fail
  refine (ofDirectory_any x Dx ndx cdx Nx nnx cnx _).mono ?_
  rintro e w' ⟨rfl, hb⟩; replace hx := Lib.hid (Wx.on hx.out hb); clear hb; obtain ⟨⟨k0, k1, k2, k3, k4⟩, k5, k6, k7, k8, k9⟩ := hx.out.ks
  obtain ⟨b3, hb3⟩ : ∃ b, decide (OfDr x) = b := ⟨_, rfl⟩
  rw [hb3]
  cases b3 with
  | false =>
    have F3 := Lib.hid (of_decide_eq_false hb3)
    clear hb3
    go_wp2
    all_goals go_ret
    all_goals first | exact ⟨ret_b0 (by rw [Hr.out]; have := F0.out; have := Hk.out; have := F1.out; have := F2.out; have := F3.out; unfold May; omega), hx.out.bel⟩ | exact ⟨ret_b1 (by rw [Hr.out]; have := F0.out; have := Hk.out; have := F1.out; have := F2.out; have := F3.out; unfold May; omega), hx.out.bel⟩ | exact ⟨ret_b (by rw [Hr.out]; simp only [Bool.and_eq_true, decide_eq_true_eq, beq_iff_eq]; have := F0.out; have := Hk.out; have := F1.out; have := F2.out; have := F3.out; unfold May; omega), hx.out.bel⟩
  | true =>
  have F3 := Lib.hid (of_decide_eq_true hb3)
  clear hb3
  by_cases hz : ndx = 0
  rotate_left
  · have hz0 : ((ndx : Int) == 0) = false := by simp only [beq_eq_false_iff_ne]; omega
    have Hz := Lib.hid hz
    clear hz
    go_wp2
    all_goals go_ret
    all_goals first | exact ⟨ret_b0 (by rw [Hr.out]; have := F0.out; have := Hk.out; have := F1.out; have := F2.out; have := F3.out; have := Hz.out; unfold May; omega), hx.out.bel⟩ | exact ⟨ret_b1 (by rw [Hr.out]; have := F0.out; have := Hk.out; have := F1.out; have := F2.out; have := F3.out; have := Hz.out; unfold May; omega), hx.out.bel⟩ | exact ⟨ret_b (by rw [Hr.out]; simp only [Bool.and_eq_true, decide_eq_true_eq, beq_iff_eq]; have := F0.out; have := Hk.out; have := F1.out; have := F2.out; have := F3.out; have := Hz.out; unfold May; omega), hx.out.bel⟩
  have hz0 : ((ndx : Int) == 0) = true := by simp only [beq_iff_eq]; omega
  have Hz := Lib.hid hz
  clear hz
  go_wp2_with fail
  refine (swap_any x Dx ndx cdx Nx nnx cnx _).mono ?_
  rintro e w' ⟨rfl, hb⟩; replace hx := Lib.hid (Wx.on hx.out hb); clear hb; obtain ⟨⟨k0, k1, k2, k3, k4⟩, k5, k6, k7, k8, k9⟩ := hx.out.ks
  obtain ⟨b4, hb4⟩ : ∃ b, decide (Swp x) = b := ⟨_, rfl⟩
  rw [hb4]
  cases b4 with
  | false =>
    have F4 := Lib.hid (of_decide_eq_false hb4)
    clear hb4
    go_wp2
    all_goals go_ret
    all_goals first | exact ⟨ret_b0 (by rw [Hr.out]; have := F0.out; have := Hk.out; have := F1.out; have := F2.out; have := F3.out; have := Hz.out; have := F4.out; unfold May; omega), hx.out.bel⟩ | exact ⟨ret_b1 (by rw [Hr.out]; have := F0.out; have := Hk.out; have := F1.out; have := F2.out; have := F3.out; have := Hz.out; have := F4.out; unfold May; omega), hx.out.bel⟩ | exact ⟨ret_b (by rw [Hr.out]; simp only [Bool.and_eq_true, decide_eq_true_eq, beq_iff_eq]; have := F0.out; have := Hk.out; have := F1.out; have := F2.out; have := F3.out; have := Hz.out; have := F4.out; unfold May; omega), hx.out.bel⟩
  | true =>
  have F4 := Lib.hid (of_decide_eq_true hb4)
  clear hb4
  go_wp2
  all_goals go_ret
  all_goals first | exact ⟨ret_b0 (by rw [Hr.out]; have := F0.out; have := Hk.out; have := F1.out; have := F2.out; have := F3.out; have := Hz.out; have := F4.out; unfold May; omega), hx.out.bel⟩ | exact ⟨ret_b1 (by rw [Hr.out]; have := F0.out; have := Hk.out; have := F1.out; have := F2.out; have := F3.out; have := Hz.out; have := F4.out; unfold May; omega), hx.out.bel⟩ | exact ⟨ret_b (by rw [Hr.out]; simp only [Bool.and_eq_true, decide_eq_true_eq, beq_iff_eq]; have := F0.out; have := Hk.out; have := F1.out; have := F2.out; have := F3.out; have := Hz.out; have := F4.out; unfold May; omega), hx.out.bel⟩

end Go.Proofs.YtihmddpafbackaaGreat

namespace Go.Proofs.YtihmddpafbackaaGreat

open Go.RowKit

set_option linter.unusedVariables false

set_option linter.unusedSimpArgs false

set_option maxRecDepth 100000 in
set_option maxHeartbeats 1600000 in
theorem mayBe_5 (x : Wl) (Dx : Option Addr) (ndx cdx : Nat) (Nx : Option Addr) (nnx cnx : Nat) (w : World) (h : ArgW w x Dx ndx cdx Nx nnx cnx) (hk : x.kd = 5) : Calls Tryz.prog 40 #[.agg #[.int .i64 x.cl, .int .i64 x.sp, .int .i64 x.gr, .int .i64 x.ep, .int .i64 x.kd, .int .i64 x.bl, .slice Dx ndx cdx, .int .i64 x.od, .int .i64 x.nw, .slice Nx nnx cnx]] w fun e w' => e = .returned (.bool (decide (May x))) ∧ Below w.heap.size w w' := by
  have hd := h.1.1
  have H := Lib.hid h.2.1.1
  have hn := h.2.1.1.1
  clear h
  obtain ⟨r, hr⟩ : ∃ r, decide (May x) = r := ⟨_, rfl⟩
  rw [hr]
  have Hr : Hid (r = true ↔ May x) := by show _ ↔ _; rw [← hr, decide_eq_true_eq]
  have F0 := Lib.hid (And.intro hd hn)
  clear hr hd hn
  have hx := Lib.hid (Wx.new (w := w) (x := x) (D := Dx) (nd := ndx) (cd := cdx) (N := Nx) (nn := nnx) (cn := cnx))
  have e1 : (x.kd == 1) = false := by rw [hk]; rfl
  have e2 : (x.kd == 2) = false := by rw [hk]; rfl
  have e3 : (x.kd == 3) = false := by rw [hk]; rfl
  have e4 : (x.kd == 4) = false := by rw [hk]; rfl
  have e5 : (x.kd == 5) = true := by rw [hk]; rfl
  have Hk := Lib.hid hk
  clear hk
  go_enter Tryz.func40, Tryz.ntmps40
  go_wp2_with fail
  refine (within_any _ _ _ _).mono ?_
  rintro e w' ⟨rfl, rfl⟩
  obtain ⟨b1, hb1⟩ : ∃ b, decide (0 ≤ x.ep ∧ x.ep ≤ 1048576) = b := ⟨_, rfl⟩
  rw [hb1]
  cases b1 with
  | false =>
    have F1 := Lib.hid (of_decide_eq_false hb1)
    clear hb1
    go_wp2
    go_ret
    exact ⟨ret_b0 (fun h => by have h := (May5 Hk.out).1 (Hr.out.1 h); exact F1.out h.1), hx.out.bel⟩
  | true =>
  have F1 := Lib.hid (of_decide_eq_true hb1)
  clear hb1
  go_wp2_with fail
  refine (seal_any x Dx ndx cdx Nx nnx cnx _).mono ?_
  rintro e w' ⟨rfl, hb⟩; replace hx := Lib.hid (Wx.on hx.out hb); clear hb; obtain ⟨⟨k0, k1, k2, k3, k4⟩, k5, k6, k7, k8, k9⟩ := hx.out.ks
  obtain ⟨b2, hb2⟩ : ∃ b, decide (SealF x) = b := ⟨_, rfl⟩
  rw [hb2]
  cases b2 with
  | false =>
    have F2 := Lib.hid (of_decide_eq_false hb2)
    clear hb2
    go_wp2
    go_ret
    exact ⟨ret_b0 (fun h => by have h := (May5 Hk.out).1 (Hr.out.1 h); exact F2.out h.2.1), hx.out.bel⟩
  | true =>
  have F2 := Lib.hid (of_decide_eq_true hb2)
  clear hb2
  by_cases hz : ndx = 0
  rotate_left
  · have hz0 : ((ndx : Int) == 0) = false := by simp only [beq_eq_false_iff_ne]; omega
    have Hz := Lib.hid hz
    clear hz
    go_wp2
    go_ret
    exact ⟨ret_b0 (fun h => by have h := (May5 Hk.out).1 (Hr.out.1 h); have := F0.out; have := Hz.out; omega), hx.out.bel⟩
  have hz0 : ((ndx : Int) == 0) = true := by simp only [beq_iff_eq]; omega
  have Hz := Lib.hid hz
  clear hz
  go_wp2_with fail
  refine (noSwap_any x Dx ndx cdx Nx nnx cnx _).mono ?_
  rintro e w' ⟨rfl, hb⟩; replace hx := Lib.hid (Wx.on hx.out hb); clear hb; obtain ⟨⟨k0, k1, k2, k3, k4⟩, k5, k6, k7, k8, k9⟩ := hx.out.ks
  obtain ⟨b3, hb3⟩ : ∃ b, decide (NoS x) = b := ⟨_, rfl⟩
  rw [hb3]
  cases b3 with
  | false =>
    have F3 := Lib.hid (of_decide_eq_false hb3)
    clear hb3
    go_wp2
    go_ret
    exact ⟨ret_b0 (fun h => by have h := (May5 Hk.out).1 (Hr.out.1 h); exact F3.out h.2.2.2.1), hx.out.bel⟩
  | true =>
  have F3 := Lib.hid (of_decide_eq_true hb3)
  clear hb3
  go_wp2_with fail
  refine (next_any _ _ _ _ _ (H.out.after hx.out.bel)).mono ?_
  rintro e w' ⟨rfl, rfl⟩
  obtain ⟨b4, hb4⟩ : ∃ b, decide (Nxt x.nx) = b := ⟨_, rfl⟩
  rw [hb4]
  cases b4 with
  | false =>
    have F4 := Lib.hid (of_decide_eq_false hb4)
    clear hb4
    go_wp2
    go_ret
    exact ⟨ret_b0 (fun h => by have h := (May5 Hk.out).1 (Hr.out.1 h); exact F4.out h.2.2.2.2), hx.out.bel⟩
  | true =>
  have F4 := Lib.hid (of_decide_eq_true hb4)
  clear hb4
  go_wp2
  go_ret
  exact ⟨ret_b1 (Hr.out.2 ((May5 Hk.out).2 ⟨F1.out, F2.out, by have := F0.out; have := Hz.out; omega, F3.out, F4.out⟩)), hx.out.bel⟩

end Go.Proofs.YtihmddpafbackaaGreat

namespace Go.Proofs.YtihmddpafbackaaGreat

open Go.RowKit

set_option linter.unusedVariables false

set_option linter.unusedSimpArgs false

section

variable (x : Wl) (Dx : Option Addr) (ndx cdx : Nat) (Nx : Option Addr) (nnx cnx : Nat) (w : World)

theorem mayBe_any (h : ArgW w x Dx ndx cdx Nx nnx cnx) : Calls Tryz.prog 40 #[.agg #[.int .i64 x.cl, .int .i64 x.sp, .int .i64 x.gr, .int .i64 x.ep, .int .i64 x.kd, .int .i64 x.bl, .slice Dx ndx cdx, .int .i64 x.od, .int .i64 x.nw, .slice Nx nnx cnx]] w fun e w' => e = .returned (.bool (decide (May x))) ∧ Below w.heap.size w w' := by
  by_cases h1 : x.kd = 1
  · exact mayBe_1 x Dx ndx cdx Nx nnx cnx w h h1
  by_cases h2 : x.kd = 2
  · exact mayBe_2 x Dx ndx cdx Nx nnx cnx w h h2
  by_cases h3 : x.kd = 3
  · exact mayBe_3 x Dx ndx cdx Nx nnx cnx w h h3
  by_cases h4 : x.kd = 4
  · exact mayBe_4 x Dx ndx cdx Nx nnx cnx w h h4
  by_cases h5 : x.kd = 5
  · exact mayBe_5 x Dx ndx cdx Nx nnx cnx w h h5
  · exact mayBe_0 x Dx ndx cdx Nx nnx cnx w h ⟨h1, h2, h3, h4, h5⟩

/-- What Check answers. -/
def chk (x : Wl) : Int := if May x then 0 else 2

theorem check_any (h : ArgW w x Dx ndx cdx Nx nnx cnx) : Calls Tryz.prog 23 #[.agg #[.int .i64 x.cl, .int .i64 x.sp, .int .i64 x.gr, .int .i64 x.ep, .int .i64 x.kd, .int .i64 x.bl, .slice Dx ndx cdx, .int .i64 x.od, .int .i64 x.nw, .slice Nx nnx cnx]] w fun e w' => e = .returned (.int .i64 (chk x)) ∧ Below w.heap.size w w' := by
  have hbx : Below w.heap.size w (w.alloc (.cells #[.int .i64 x.cl, .int .i64 x.sp, .int .i64 x.gr, .int .i64 x.ep, .int .i64 x.kd, .int .i64 x.bl, .slice Dx ndx cdx, .int .i64 x.od, .int .i64 x.nw, .slice Nx nnx cnx] 25)) := (Below.refl _ _).alloc (Nat.le_refl _) _
  have H := Lib.hid (mayBe_any x Dx ndx cdx Nx nnx cnx _ (h.after hbx))
  have Hb := Lib.hid hbx
  clear h hbx
  by_cases hm : May x
  · have hc : Hid (chk x = 0) := by show _ = _; unfold chk; rw [if_pos hm]
    rw [decide_eq_true hm] at H
    clear hm
    generalize chk x = r at *
    go_enter Tryz.func23, Tryz.ntmps23
    go_wp2_with (go_at_call 40; refine H.out.mono ?_; rintro e w' ⟨rfl, hb⟩; have hb := Lib.hid hb)
    go_ret
    exact ⟨ret_int hc.out.symm, Hb.out.trans (hb.out.mono Hb.out.size)⟩
  · have hc : Hid (chk x = 2) := by show _ = _; unfold chk; rw [if_neg hm]
    rw [decide_eq_false hm] at H
    clear hm
    generalize chk x = r at *
    go_enter Tryz.func23, Tryz.ntmps23
    go_wp2_with (go_at_call 40; refine H.out.mono ?_; rintro e w' ⟨rfl, hb⟩; have hb := Lib.hid hb)
    go_ret
    exact ⟨ret_int hc.out.symm, Hb.out.trans (hb.out.mono Hb.out.size)⟩

end

theorem ibs_take {l : List Int} {k : Nat} (h : k < l.length) : ibs (l.take (k + 1)) = ibs (l.take k) ++ ib l[k] := by
  rw [List.take_succ_eq_append_getElem h]; unfold ibs; rw [List.map_append, List.flatten_append]; simp

theorem ib_max (x : Int) : (ib x).length ≤ 8 := by
  unfold ib nm
  split
  · simp
  · rename_i h
    have h1 := dgs_len7 (n := x.toNat) (by omega)
    simp only [numB_length]
    omega

theorem ibs_max (l : List Int) : (ibs l).length ≤ 8 * l.length := by
  induction l with
  | nil => simp [ibs]
  | cons x l ih => rw [ibs_cons, List.length_append, List.length_cons]; have := ib_max x; omega

set_option maxHeartbeats 800000 in
theorem numbers_any (A : Option Addr) (n c : Nat) (l : List Int) (w : World) (h : ArgI w A n c l) (hn : n ≤ 1000) : Calls Tryz.prog 47 #[.slice A n c] w (RetB w (ibs l)) := by
  have hm := h.2.2.1
  have hnc := h.2.1
  unfold maxLen at hm
  have Hl := Lib.hid h.1
  have H := Lib.hid h
  clear h
  go_enter Tryz.func47, Tryz.ntmps47
  go_wp2
  go_loopw [3, 10] (fun v i wr => ∃ k : Nat, k ≤ n ∧ i = .int .i64 k ∧ Mine wr w.heap.size 5 v (ibs (l.take k)) ∧ Below w.heap.size w wr) (fun _ i _ => n - (intOf i).toNat)
  case atStart => exact ⟨0, Nat.zero_le _, rfl, World.ownsRow_nil _ _ _ _, Below.refl _ _⟩
  case round =>
    obtain ⟨k, hk, rfl, hown, hnx⟩ := hrel
    by_cases hlt : k < n
    · have hlt' : (k : Int) < n := by omega
      have hkl : k < l.length := by rw [Hl.out]; exact hlt
      obtain ⟨b, o, rfl, hb, hc⟩ := H.out.2.2.2.1.at_ hkl
      have c0 : wr.cell? ⟨b, o + k, none⟩ = some (.int .i64 l[k]) := (hnx.cell (p := ⟨b, o + k, none⟩) hb).trans (hc k hkl)
      have Hst := Lib.hid (ibs_take hkl)
      have hmx := ibs_max (l.take k)
      have hmi := ib_max l[k]
      rw [List.length_take] at hmx
      clear hc
      generalize l[k] = x at *
      have Hbk := Lib.hid hkl
      clear hkl
      have Hmi : Hid ((nm x).1 = ib x) := rfl
      generalize hq : ib x = y at *
      have hmi' := hmi
      generalize hyq : y.length = q at *
      have Hyq := Lib.hid hyq
      clear hq hyq hmi
      go_wp2_with fail
      refine (num_any _ _).mono ?_
      rintro e w1 ⟨v1, rfl, hnew⟩
      rw [Hmi.out] at hnew
      obtain ⟨A1, c1, rfl, hl1, hc1, hB1⟩ := hnew.form
      have hb1 := Lib.hid hnew.2
      have hown1 := Lib.hid (hown.after hnew.2)
      rw [Hyq.out] at hl1
      rw [Hyq.out]
      clear hnew hown
      go_wp2_with (at_builtin; refine wp_appendB rfl _ _ rfl w.heap.size _ _ rfl hown1.out A1 c1 q y rfl hB1 Hyq.out (by omega) (Nat.le_trans hnx.size hb1.out.size) ?_; intro v2 w2 hm2 hg2 ho2)
      go_roundw
      case rel =>
        refine ⟨k + 1, by omega, by go_num, by rw [Hst.out]; exact hm2, (hnx.trans (hb1.out.mono hnx.size)).grown hg2 (Nat.le_trans hnx.size hb1.out.size) ?_⟩
        intro j hj
        exact (World.ownsRow.lt hown1.out j hj).1
      case measure => simp [intOf]; omega
    · have Hst : Hid (l.take k = l) := by show _ = _; rw [List.take_of_length_le (by rw [Hl.out]; omega)]
      have hlt' : ¬ (k : Int) < n := by omega
      rw [Hst.out] at hown
      go_wp2
      go_ret
      exact ⟨_, rfl, hown, hnx⟩

/-- Texts one behind the other. -/
def txs (ls : List (List UInt8)) : List UInt8 := (ls.map sb).flatten

theorem txs_one (l : List UInt8) : txs [l] = sb l := by unfold txs; rw [List.map_cons, List.map_nil, List.flatten_cons, List.flatten_nil, List.append_nil]

theorem txs_take {ls : List (List UInt8)} {k : Nat} (h : k < ls.length) : txs (ls.take (k + 1)) = txs (ls.take k) ++ sb ls[k] := by
  rw [List.take_succ_eq_append_getElem h]; unfold txs; rw [List.map_append, List.flatten_append]; simp

theorem sb_max (l : List UInt8) : (sb l).length ≤ 65544 := by
  show (st l).1.length ≤ _
  unfold st
  split
  · simp
  · rename_i h
    have h1 := dgs_len7 (n := l.length) (by omega)
    simp only [List.length_append, numB_length]
    omega

theorem txs_max (ls : List (List UInt8)) : (txs ls).length ≤ 65544 * ls.length := by
  induction ls with
  | nil => simp [txs]
  | cons x ls ih =>
    have h1 := sb_max x
    have h2 : txs (x :: ls) = sb x ++ txs ls := by unfold txs; rw [List.map_cons, List.flatten_cons]
    rw [h2, List.length_append, List.length_cons]; omega

set_option maxHeartbeats 800000 in
theorem texts_any (A : Option Addr) (n c : Nat) (ls : List (List UInt8)) (w : World) (h : Bss w A ls) (hl : ls.length = n) (hn : n ≤ 1000) (hs : ∀ x ∈ ls, x.length ≤ maxLen) : Calls Tryz.prog 48 #[.slice A n c] w (RetB w (txs ls)) := by
  have Hl := Lib.hid hl
  have H := Lib.hid h
  have Hs := Lib.hid hs
  clear h hl hs
  go_enter Tryz.func48, Tryz.ntmps48
  go_wp2
  go_loopw [3, 10] (fun v i wr => ∃ k : Nat, k ≤ n ∧ i = .int .i64 k ∧ Mine wr w.heap.size 5 v (txs (ls.take k)) ∧ Below w.heap.size w wr) (fun _ i _ => n - (intOf i).toNat)
  case atStart => exact ⟨0, Nat.zero_le _, rfl, World.ownsRow_nil _ _ _ _, Below.refl _ _⟩
  case round =>
    obtain ⟨k, hk, rfl, hown, hnx⟩ := hrel
    by_cases hlt : k < n
    · have hlt' : (k : Int) < n := by omega
      have hkl : k < ls.length := by rw [Hl.out]; exact hlt
      obtain ⟨b, o, Ai, ci, rfl, hb, hc, hB⟩ := H.out.at_ hkl
      have c0 : wr.cell? ⟨b, o + k, none⟩ = some (.slice Ai ls[k].length ci) := (hnx.cell (p := ⟨b, o + k, none⟩) hb).trans hc
      have Hst := Lib.hid (txs_take hkl)
      have hmx := txs_max (ls.take k)
      have hmi := sb_max ls[k]
      have hxl := Hs.out _ (List.getElem_mem hkl)
      rw [List.length_take] at hmx
      clear hc
      generalize ls[k] = x at *
      have Hbk := Lib.hid hkl
      have HB := Lib.hid (hB.after hnx)
      clear hkl hB
      have Hmi : Hid ((st x).1 = sb x) := rfl
      generalize hq : sb x = y at *
      have hmi' := hmi
      generalize hyq : y.length = q at *
      have Hyq := Lib.hid hyq
      obtain ⟨p, hp⟩ : ∃ p, x.length = p := ⟨_, rfl⟩
      rw [hp] at c0 hxl
      have Hp := Lib.hid hp
      clear hq hyq hmi hp
      go_wp2_with fail
      refine (str_any Ai ci p x _ HB.out Hp.out hxl).mono ?_
      rintro e w1 ⟨v1, rfl, hnew⟩
      rw [Hmi.out] at hnew
      obtain ⟨A1, c1, rfl, hl1, hc1, hB1⟩ := hnew.form
      have hb1 := Lib.hid hnew.2
      have hown1 := Lib.hid (hown.after hnew.2)
      rw [Hyq.out] at hl1
      rw [Hyq.out]
      clear hnew hown
      go_wp2_with (at_builtin; refine wp_appendB rfl _ _ rfl w.heap.size _ _ rfl hown1.out A1 c1 q y rfl hB1 Hyq.out (by omega) (Nat.le_trans hnx.size hb1.out.size) ?_; intro v2 w2 hm2 hg2 ho2)
      go_roundw
      case rel =>
        refine ⟨k + 1, by omega, by go_num, by rw [Hst.out]; exact hm2, (hnx.trans (hb1.out.mono hnx.size)).grown hg2 (Nat.le_trans hnx.size hb1.out.size) ?_⟩
        intro j hj
        exact (World.ownsRow.lt hown1.out j hj).1
      case measure => simp [intOf]; omega
    · have Hst : Hid (ls.take k = ls) := by show _ = _; rw [List.take_of_length_le (by rw [Hl.out]; omega)]
      have hlt' : ¬ (k : Int) < n := by omega
      rw [Hst.out] at hown
      go_wp2
      go_ret
      exact ⟨_, rfl, hown, hnx⟩

/-- One text, in a list that was made for it. -/
theorem text_any (A : Option Addr) (n c : Nat) (l : List UInt8) (w : World) (hA : Bs w A l) (hn : l.length = n) (hl : n ≤ maxLen) : Calls Tryz.prog 48 #[.slice (some ⟨w.heap.size, 0, none⟩) 1 1] (w.alloc (.cells #[.slice A n c] 22)) (RetB w (sb l)) := by
  have hb : Below w.heap.size w (w.alloc (.cells #[.slice A n c] 22)) := (Below.refl _ _).alloc (Nat.le_refl _) _
  refine (texts_any _ 1 1 [l] _ (Bss.made1 hA hn) rfl (by omega) (fun x hx => by rw [List.mem_singleton.1 hx, hn]; exact hl)).mono ?_
  rintro e w' ⟨v, rfl, h1, h2⟩
  rw [txs_one] at h1
  refine ⟨v, rfl, ?_, hb.trans (h2.mono hb.size)⟩
  obtain ⟨k1, k2 | ⟨g, cap, cur, e, k3, k4⟩⟩ := h1
  · exact ⟨k1, .inl k2⟩
  · exact ⟨k1, .inr ⟨g, cap, cur, e, Nat.le_trans hb.size k3, k4⟩⟩

end Go.Proofs.YtihmddpafbackaaGreat

namespace Go.Proofs.YtihmddpafbackaaGreat

open Go.RowKit Go.Maps

set_option linter.unusedVariables false

set_option linter.unusedSimpArgs false

/-- All numbers of a wish that was read are within. -/
theorem rns_nm (k : Nat) (s : Rd) : ∀ y ∈ (rns k s).1, Nm y := by
  induction k with
  | zero => intro y hy; simp [rns] at hy
  | succ k ih =>
    intro y hy
    unfold rns at hy
    rcases List.mem_append.1 hy with hy | hy
    · exact ih y hy
    · rw [List.mem_singleton] at hy; rw [hy]; exact rn_nm _

theorem nm_wf {x : Int} (h : Nm x) : Wf x := by
  obtain ⟨h1, h2⟩ := h
  simp only [Wf, Lit.wf, IntKind.min, IntKind.max, IntKind.signed, IntKind.bits]
  simp
  omega

def WNm (x : Wl) : Prop := Nm x.cl ∧ Nm x.sp ∧ Nm x.gr ∧ Nm x.ep ∧ Nm x.kd ∧ Nm x.bl ∧ Nm x.od ∧ Nm x.nw ∧ (∀ y ∈ x.nx, Nm y) ∧ x.da.length ≤ 65536 ∧ x.nx.length ≤ 7

theorem rt_len (m : Nat) (s : Rd) : (rt m s).1.length ≤ 65536 := by
  unfold rt
  split
  · simp
  · by_cases h0 : (ts s.1 m).2.2 = 0
    · exact (ts_ok (l := s.1) (s := (ts s.1 m).1) (z := (ts s.1 m).2.1) (most := (m : Int)) (by rw [← h0])).1
    · simp only [(ts_err (l := s.1) (s := (ts s.1 m).1) (z := (ts s.1 m).2.1) (most := (m : Int)) (e := (ts s.1 m).2.2) rfl h0).1]; simp

theorem rc_le (m : Nat) (s : Rd) : (rc m s).1 ≤ m := by
  unfold rc
  split
  · simp
  · simp only; omega

theorem rdw_nm (s : Rd) : WNm (rdw s).1 := by
  unfold WNm rdw
  dsimp only
  refine ⟨rn_nm _, rn_nm _, rn_nm _, rn_nm _, rn_nm _, rn_nm _, rn_nm _, rn_nm _, rns_nm _ _, rt_len _ _, ?_⟩
  rw [rns_len]
  exact rc_le _ _

theorem WV.arg {w : World} {base : Nat} {x : Wl} {v : Value} (h : WV w base x v) (hx : WNm x) : ∃ (Dx : Option Addr) (ndx cdx : Nat) (Nx : Option Addr) (nnx cnx : Nat), v = .agg #[.int .i64 x.cl, .int .i64 x.sp, .int .i64 x.gr, .int .i64 x.ep, .int .i64 x.kd, .int .i64 x.bl, .slice Dx ndx cdx, .int .i64 x.od, .int .i64 x.nw, .slice Nx nnx cnx] ∧ ArgW w x Dx ndx cdx Nx nnx cnx ∧ Mine w base 5 (.slice Dx ndx cdx) x.da ∧ OwnI w base (.slice Nx nnx cnx) x.nx := by
  obtain ⟨Dx, ndx, cdx, Nx, nnx, cnx, e, ⟨h1, h2⟩, h3, h4⟩ := h
  obtain ⟨k1, k2, k3, k4, k5, k6, k7, k8, k9, k10, k11⟩ := hx
  subst h2 h4
  obtain ⟨_, c, e1, g1, g2, g3⟩ := h1.form
  obtain ⟨_, c', e2, g4⟩ := h3.arg (fun y hy => nm_wf (k9 y hy))
  injection e1 with e1 _ e3
  injection e2 with e2 _ e4
  subst e1 e2 e3 e4
  exact ⟨Dx, _, cdx, Nx, _, cnx, e, ⟨⟨rfl, g1, g2, g3, by omega⟩, ⟨g4, by omega⟩, nm_wf k1, nm_wf k2, nm_wf k3, nm_wf k4, nm_wf k5, nm_wf k6, nm_wf k7, nm_wf k8⟩, h1, h3⟩

theorem WV.zero (w : World) (base : Nat) : WV w base W0 (.agg [.int .i64 0, .int .i64 0, .int .i64 0, .int .i64 0, .int .i64 0, .int .i64 0, .slice none 0 0, .int .i64 0, .int .i64 0, .slice none 0 0].toArray) := ⟨none, 0, 0, none, 0, 0, rfl, ⟨World.ownsRow_nil _ _ _ _, rfl⟩, OwnI.nil _ _, rfl⟩

theorem built0 : (Tryz.prog).built 25 [] = some ([.int .i64 0, .int .i64 0, .int .i64 0, .int .i64 0, .int .i64 0, .int .i64 0, .slice none 0 0, .int .i64 0, .int .i64 0, .slice none 0 0] : List Value).toArray := by kernel_rfl

/-- What Parse answers. -/
def RetP (w : World) (r : Wl × Nat) (e : Ending) (w' : World) : Prop := ∃ v, e = .returned (.tuple #[v, .int .i64 (r.2 : Int)]) ∧ WV w' w.heap.size r.1 v ∧ Below w.heap.size w w'

theorem store_facts {W : World} {rb : Nat} {cs vs : List Value} (h : Blk W rb 25 cs) (hc : cs.length = 10) (hv : vs.length = 10) : W.there rb 0 vs.toArray.size ∧ Blk (W.setCells rb 0 vs) rb 25 vs ∧ Out (fun i => i = rb) W (W.setCells rb 0 vs) :=
  ⟨by have := h.there; rw [hc] at this; simpa [hv] using this, h.setAll (by omega), cells_out _ _ _ _⟩

set_option maxRecDepth 100000 in
set_option maxHeartbeats 3200000 in
theorem parse_any (A : Option Addr) (n c : Nat) (l : List UInt8) (w : World) (hA : Bs w A l) (hn : l.length = n) (hnc : n ≤ c) (hc : c ≤ maxLen) (hl : n ≤ 140737488355328) : Calls Tryz.prog 25 #[.slice A n c] w (RetP w (parse l)) := by
  obtain ⟨x, s, hxs⟩ : ∃ a b, rdw (l, 0) = (a, b) := ⟨_, _, rfl⟩
  have hxn : WNm x := by have := rdw_nm (l, 0); rw [hxs] at this; exact this
  obtain ⟨z, hz⟩ : ∃ z, ren s = z := ⟨_, rfl⟩
  have hp : Hid (parse l = if z ≠ 0 then (W0, z) else if May x then (x, 0) else (W0, 2)) := by show _ = _; unfold parse; rw [hxs]; simp only [hz]
  have Hx := Lib.hid (And.intro hxs (And.intro hz (And.intro hxn hn)))
  have HA := Lib.hid hA
  clear hxs hz hxn hn hA
  generalize parse l = r at *
  have hA1 : Below w.heap.size w (w.alloc (.cells #[.int .i64 0, .int .i64 0, .int .i64 0, .int .i64 0, .int .i64 0, .int .i64 0, .slice none 0 0, .int .i64 0, .int .i64 0, .slice none 0 0] 25)) := (Below.refl _ _).alloc (Nat.le_refl _) _
  have hbr : Blk ((w.alloc (.cells #[.int .i64 0, .int .i64 0, .int .i64 0, .int .i64 0, .int .i64 0, .int .i64 0, .slice none 0 0, .int .i64 0, .int .i64 0, .slice none 0 0] 25)).alloc (.cells #[.slice A n c, .int .i64 0] 74)) (w.heap.size + 1) 74 [.slice A n c, .int .i64 ((0 : Nat) : Int)] := Blk.new rfl (by simp)
  have hrb0 : Blk (w.alloc (.cells #[.int .i64 0, .int .i64 0, .int .i64 0, .int .i64 0, .int .i64 0, .int .i64 0, .slice none 0 0, .int .i64 0, .int .i64 0, .slice none 0 0] 25)) w.heap.size 25 zWish := Blk.new rfl rfl
  have hA2 : Below w.heap.size w ((w.alloc (.cells #[.int .i64 0, .int .i64 0, .int .i64 0, .int .i64 0, .int .i64 0, .int .i64 0, .slice none 0 0, .int .i64 0, .int .i64 0, .slice none 0 0] 25)).alloc (.cells #[.slice A n c, .int .i64 0] 74)) := hA1.alloc hA1.size _
  have hrb := hrb0.old (.cells #[.slice A n c, .int .i64 0] 74)
  obtain ⟨W1, hW1⟩ : ∃ W, (w.alloc (.cells #[.int .i64 0, .int .i64 0, .int .i64 0, .int .i64 0, .int .i64 0, .int .i64 0, .slice none 0 0, .int .i64 0, .int .i64 0, .slice none 0 0] 25)).alloc (.cells #[.slice A n c, .int .i64 0] 74) = W := ⟨_, rfl⟩
  rw [hW1] at hbr hA2 hrb
  have hR1 : RdP w.heap.size W1 (w.heap.size + 1) (l, 0) := ⟨by omega, A, n, c, hbr, hnc, hc, hl, fun _ => ⟨Hx.out.2.2.2, (Bn.old HA.out (Nat.le_refl _)).bel hA2⟩⟩
  have hsz : w.heap.size + 1 < W1.heap.size := hbr.lt
  have H1 := Lib.hid (And.intro hR1 (And.intro hrb (And.intro hA2 hsz)))
  have HW := Lib.hid hW1
  clear hA1 hbr hrb0 hA2 hrb hW1 hR1 hsz HA
  go_enter Tryz.func25, Tryz.ntmps25
  go_wp2_with fail
  rw [HW.out]
  have hc := wish_rd w.heap.size (w.heap.size + 1) (l, 0) _ H1.out.1
  rw [Hx.out.1] at hc
  refine hc.mono ?_
  clear hc
  rintro e w2 ⟨v, rfl, hV, hR, hO⟩
  obtain ⟨Dx, ndx, cdx, Nx, nnx, cnx, rfl, hAW, hM, hN⟩ := hV.arg Hx.out.2.2.1
  have hb3 : Below w2.heap.size w2 (w2.alloc (.cells #[.int .i64 x.cl, .int .i64 x.sp, .int .i64 x.gr, .int .i64 x.ep, .int .i64 x.kd, .int .i64 x.bl, .slice Dx ndx cdx, .int .i64 x.od, .int .i64 x.nw, .slice Nx nnx cnx] 25)) := (Below.refl _ _).alloc (Nat.le_refl _) _
  have hk3 : Blk (w2.alloc (.cells #[.int .i64 x.cl, .int .i64 x.sp, .int .i64 x.gr, .int .i64 x.ep, .int .i64 x.kd, .int .i64 x.bl, .slice Dx ndx cdx, .int .i64 x.od, .int .i64 x.nw, .slice Nx nnx cnx] 25)) w2.heap.size 25 [.int .i64 x.cl, .int .i64 x.sp, .int .i64 x.gr, .int .i64 x.ep, .int .i64 x.kd, .int .i64 x.bl, .slice Dx ndx cdx, .int .i64 x.od, .int .i64 x.nw, .slice Nx nnx cnx] := Blk.new rfl rfl
  obtain ⟨W3, hW3⟩ : ∃ W, w2.alloc (.cells #[.int .i64 x.cl, .int .i64 x.sp, .int .i64 x.gr, .int .i64 x.ep, .int .i64 x.kd, .int .i64 x.bl, .slice Dx ndx cdx, .int .i64 x.od, .int .i64 x.nw, .slice Nx nnx cnx] 25) = W := ⟨_, rfl⟩
  rw [hW3] at hb3 hk3
  obtain ⟨bx, hbx⟩ : ∃ b, w2.heap.size = b := ⟨_, rfl⟩
  rw [hbx] at hk3
  have hgx : w.heap.size + 1 < bx := by have := hR.lt; omega
  have hrb2 := (hO.blk H1.out.2.1 (by omega)).below hb3 (by have := hO.size; have := H1.out.2.2.2; omega)
  have H3 := Lib.hid (And.intro (hR.bel hb3) (And.intro hrb2 (And.intro hk3 (And.intro (hAW.after hb3) (And.intro (Mine.after hM hb3) (And.intro (own_below hN hb3) (And.intro (hO.then_below hb3) hgx)))))))
  have HW := Lib.hid hW3
  have Hbx := Lib.hid hbx
  clear hV hR hO hAW hM hN hb3 hk3 hW3 hbx hrb2
  go_wp2_with fail
  rw [HW.out, Hbx.out]
  refine (end_rd w.heap.size (w.heap.size + 1) s _ H3.out.1).mono ?_
  rintro e w4 ⟨rfl, ⟨A4, n4, c4, hb4⟩, hO4⟩
  rw [Hx.out.2.1] at hb4
  have hk4 := hO4.blk H3.out.2.2.1 (by omega)
  have hr4 := hO4.blk H3.out.2.1 (by omega)
  have hne : ∀ (i : Nat), W1.heap.size ≤ i → ¬ i = w.heap.size + 1 := fun i h e => by have := H1.out.2.2.2; omega
  have hM4 : Mine w4 W1.heap.size 5 (.slice Dx ndx cdx) x.da := own_out H3.out.2.2.2.2.1 hO4 (fun i hi => hne i (World.ownsRow.lt H3.out.2.2.2.2.1 i hi).1)
  have hN4 : OwnI w4 W1.heap.size (.slice Nx nnx cnx) x.nx := own_out H3.out.2.2.2.2.2.1 hO4 (fun i hi => hne i (World.ownsRow.lt H3.out.2.2.2.2.2.1 i hi).1)
  have hb14 : Below w.heap.size w w4 := H1.out.2.2.1.trans (((H3.out.2.2.2.2.2.2.1.trans hO4 (fun _ _ e => e)).above (B := w.heap.size) (fun i e => by omega) (by have := H1.out.2.2.2; omega)))
  have k1 : w4.cell? ⟨w.heap.size + 1, 1, none⟩ = some (.int .i64 (z : Int)) := hb4.cell rfl
  have H4 := Lib.hid (And.intro hk4 (And.intro hr4 (And.intro hM4 (And.intro hN4 (And.intro hb14 hb4)))))
  clear hk4 hr4 hM4 hN4 hb14 hb4 hO4 hne
  by_cases hz0 : z ≠ 0
  · have hzz : ((z : Int) != 0) = true := by simp [hz0]
    have Hr : Hid (r = (W0, z)) := by show _ = _; rw [hp.out, if_pos hz0]
    clear hz0
    have hdr : Below w4.heap.size w4 w4.drew := (Below.refl _ _).drew
    have hrd := H4.out.2.1.below hdr H4.out.2.1.lt
    obtain ⟨s1, s2, s3⟩ := store_facts (vs := [.int .i64 0, .int .i64 0, .int .i64 0, .int .i64 0, .int .i64 0, .int .i64 0, .slice none 0 0, .int .i64 0, .int .i64 0, .slice none 0 0]) hrd rfl rfl
    obtain ⟨wF, hwF⟩ : ∃ W, w4.drew.setCells w.heap.size 0 [.int .i64 0, .int .i64 0, .int .i64 0, .int .i64 0, .int .i64 0, .int .i64 0, .slice none 0 0, .int .i64 0, .int .i64 0, .slice none 0 0] = W := ⟨_, rfl⟩
    rw [hwF] at s2 s3
    have Q0 : w4.drew.cell? ⟨w.heap.size + 1, 1, none⟩ = some (.int .i64 (z : Int)) := k1
    have Q1 : wF.cell? ⟨w.heap.size + 1, 1, none⟩ = some (.int .i64 (z : Int)) := (s3.blk (H4.out.2.2.2.2.2.below hdr H4.out.2.2.2.2.2.lt) (by omega)).cell rfl
    have hbF : Below w.heap.size w wF := H4.out.2.2.2.2.1.trans ((Out.trans (S := fun i => i = w.heap.size) (Out.ofBelow (fun i => i = w.heap.size) hdr) s3 (fun _ _ e => e)).above (fun i e => by omega) H4.out.2.2.2.2.1.size)
    have hone : ([.int .i64 0, .int .i64 0, .int .i64 0, .int .i64 0, .int .i64 0, .int .i64 0, .slice none 0 0, .int .i64 0, .int .i64 0, .slice none 0 0] : List Value).toArray.all (·.oneCell') = true := by simp [Value.oneCell']
    have HS := Lib.hid (And.intro s1 (And.intro s2 (And.intro hbF (And.intro hone hwF))))
    clear hdr hrd s1 s2 s3 hbF hone hwF
    go_wp2_with fail
    refine wp_region_held_drew (S := fun W' => W'.cell? ⟨w.heap.size + 1, 1, none⟩ = some (.int .i64 (z : Int))) (by kernel_rfl) Q0 (fun _ => ?_)
    refine anyH_take (i := 0) (d := 14) (v := .agg ([.int .i64 0, .int .i64 0, .int .i64 0, .int .i64 0, .int .i64 0, .int .i64 0, .slice none 0 0, .int .i64 0, .int .i64 0, .slice none 0 0] : List Value).toArray) rfl rfl (by kernel_rfl) (by kernel_rfl) (by kernel_rfl) (fun _ _ _ h => h) (Or.inl ⟨by rfl, fun w => exec_build 25 _ rfl ([.int .i64 0, .int .i64 0, .int .i64 0, .int .i64 0, .int .i64 0, .int .i64 0, .slice none 0 0, .int .i64 0, .int .i64 0, .slice none 0 0] : List Value).toArray built0 w⟩) Q0 ?_
    simp only [List.setIfInBounds_toArray, List.set_cons_zero, List.set_cons_succ]
    refine anyH_take (i := 1) (d := 15) (v := ?q1) rfl rfl (by kernel_rfl) (by kernel_rfl) (by kernel_rfl) (fun _ _ _ h => h) (Or.inl ⟨by rfl, ?qy1⟩) Q0 ?qr1
    case qy1 => (intro w; go_simp; try with_reducible rfl)
    simp only [List.setIfInBounds_toArray, List.set_cons_zero, List.set_cons_succ]
    refine wpAnyH_take' (i := 2) (d := 16) (v := ?q2) rfl rfl (by kernel_rfl) (by kernel_rfl) (by kernel_rfl) (fun _ _ _ h => h) (Or.inl ⟨by rfl, ?qy2⟩) Q0 ?qr2
    case qy2 => (intro w hSw; go_split_ands; go_simp; try with_reducible rfl)
    simp only [List.setIfInBounds_toArray, List.set_cons_zero, List.set_cons_succ]
    refine anyH_one (i := 3) (by kernel_rfl) ?_
    refine op_storeE rfl rfl rfl 25 _ _ rfl w.heap.size 0 [.int .i64 0, .int .i64 0, .int .i64 0, .int .i64 0, .int .i64 0, .int .i64 0, .slice none 0 0, .int .i64 0, .int .i64 0, .slice none 0 0] rfl rfl HS.out.1 wish_size HS.out.2.2.2.1 HS.out.2.2.2.2 ?_
    refine ⟨Q1, ?_⟩
    refine anyH_take (i := 4) (d := 3) (v := ?q4) rfl rfl (by kernel_rfl) (by kernel_rfl) (by kernel_rfl) (fun _ _ _ h => h) (Or.inl ⟨by rfl, ?qy4⟩) Q1 ?qr4
    case qy4 => (intro w; go_simp; try with_reducible rfl)
    simp only [List.setIfInBounds_toArray, List.set_cons_zero, List.set_cons_succ]
    refine wpAnyH_done (by kernel_rfl) ?_ _
    go_wp2
    refine bodyPost_ret (results_row_tmp rfl _ _ w.heap.size 25 _ _ _ rfl rfl HS.out.2.1 Tryz.underlying25 rfl wish_size) rfl ?_
    rw [Hr.out]
    exact ⟨_, rfl, WV.zero _ _, HS.out.2.2.1⟩
  · have hzz : ((z : Int) != 0) = false := by simpa using hz0
    have hz00 : z = 0 := by simpa using hz0
    have Hz := Lib.hid hz00
    have hb01 : w.heap.size ≤ W1.heap.size := by have := H1.out.2.2.2; omega
    have k0' : w4.cell? ⟨bx, 0, none⟩ = some (.int .i64 x.cl) := H4.out.1.cell rfl
    have k1' : w4.cell? ⟨bx, 1, none⟩ = some (.int .i64 x.sp) := H4.out.1.cell rfl
    have k2' : w4.cell? ⟨bx, 2, none⟩ = some (.int .i64 x.gr) := H4.out.1.cell rfl
    have k3' : w4.cell? ⟨bx, 3, none⟩ = some (.int .i64 x.ep) := H4.out.1.cell rfl
    have k4' : w4.cell? ⟨bx, 4, none⟩ = some (.int .i64 x.kd) := H4.out.1.cell rfl
    have k5' : w4.cell? ⟨bx, 5, none⟩ = some (.int .i64 x.bl) := H4.out.1.cell rfl
    have k6' : w4.cell? ⟨bx, 6, none⟩ = some (.slice Dx ndx cdx) := H4.out.1.cell rfl
    have k7' : w4.cell? ⟨bx, 7, none⟩ = some (.int .i64 x.od) := H4.out.1.cell rfl
    have k8' : w4.cell? ⟨bx, 8, none⟩ = some (.int .i64 x.nw) := H4.out.1.cell rfl
    have k9' : w4.cell? ⟨bx, 9, none⟩ = some (.slice Nx nnx cnx) := H4.out.1.cell rfl
    have hAW : ArgW w4 x Dx ndx cdx Nx nnx cnx := by
      have hv : WV w4 W1.heap.size x (.agg #[.int .i64 x.cl, .int .i64 x.sp, .int .i64 x.gr, .int .i64 x.ep, .int .i64 x.kd, .int .i64 x.bl, .slice Dx ndx cdx, .int .i64 x.od, .int .i64 x.nw, .slice Nx nnx cnx]) := ⟨Dx, ndx, cdx, Nx, nnx, cnx, rfl, ⟨H4.out.2.2.1, H3.out.2.2.2.1.1.1⟩, by unfold OwnI; have := H4.out.2.2.2.1; exact this, H3.out.2.2.2.1.2.1.1.1⟩
      obtain ⟨D', nd', cd', N', nn', cn', e, ha, _⟩ := hv.arg Hx.out.2.2.1
      have e := congrArg (fun v => match v with | Value.agg a => (a[6]?, a[9]?) | _ => (none, none)) e
      simp only [List.getElem?_toArray, List.getElem?_cons_succ, List.getElem?_cons_zero, Prod.mk.injEq, Option.some.injEq, Value.slice.injEq] at e
      obtain ⟨⟨rfl, rfl, rfl⟩, rfl, rfl, rfl⟩ := e
      exact ha
    have Hc := Lib.hid (check_any x Dx ndx cdx Nx nnx cnx w4 hAW)
    clear hz0 hz00 hAW
    by_cases hm : May x
    · have Hr : Hid (r = (x, 0)) := by show _ = _; rw [hp.out, if_neg (by rw [Hz.out]; simp), if_pos hm]
      have hck : chk x = 0 := by unfold chk; rw [if_pos hm]
      rw [hck] at Hc
      clear hm hck
      go_wp2_with fail
      refine Hc.out.mono ?_
      rintro e w5 ⟨rfl, hb5⟩
      go_upto_region 9 with fail
      have h0 := H4.out.1.below hb5 H4.out.1.lt
      have k0' : w5.cell? ⟨bx, 0, none⟩ = some (.int .i64 x.cl) := h0.cell rfl
      have k1' : w5.cell? ⟨bx, 1, none⟩ = some (.int .i64 x.sp) := h0.cell rfl
      have k2' : w5.cell? ⟨bx, 2, none⟩ = some (.int .i64 x.gr) := h0.cell rfl
      have k3' : w5.cell? ⟨bx, 3, none⟩ = some (.int .i64 x.ep) := h0.cell rfl
      have k4' : w5.cell? ⟨bx, 4, none⟩ = some (.int .i64 x.kd) := h0.cell rfl
      have k5' : w5.cell? ⟨bx, 5, none⟩ = some (.int .i64 x.bl) := h0.cell rfl
      have k6' : w5.cell? ⟨bx, 6, none⟩ = some (.slice Dx ndx cdx) := h0.cell rfl
      have k7' : w5.cell? ⟨bx, 7, none⟩ = some (.int .i64 x.od) := h0.cell rfl
      have k8' : w5.cell? ⟨bx, 8, none⟩ = some (.int .i64 x.nw) := h0.cell rfl
      have k9' : w5.cell? ⟨bx, 9, none⟩ = some (.slice Nx nnx cnx) := h0.cell rfl
      have hrd := H4.out.2.1.below hb5 H4.out.2.1.lt
      obtain ⟨s1, s2, s3⟩ := store_facts (vs := [.int .i64 x.cl, .int .i64 x.sp, .int .i64 x.gr, .int .i64 x.ep, .int .i64 x.kd, .int .i64 x.bl, .slice Dx ndx cdx, .int .i64 x.od, .int .i64 x.nw, .slice Nx nnx cnx]) hrd rfl rfl
      have hM := own_out (own_below H4.out.2.2.1 hb5) s3 (fun i hi e => by have := (World.ownsRow.lt H4.out.2.2.1 i hi).1; have := H1.out.2.2.2; omega)
      have hN := own_out (own_below H4.out.2.2.2.1 hb5) s3 (fun i hi e => by have := (World.ownsRow.lt H4.out.2.2.2.1 i hi).1; have := H1.out.2.2.2; omega)
      have hbF : Below w.heap.size w (w5.setCells w.heap.size 0 [.int .i64 x.cl, .int .i64 x.sp, .int .i64 x.gr, .int .i64 x.ep, .int .i64 x.kd, .int .i64 x.bl, .slice Dx ndx cdx, .int .i64 x.od, .int .i64 x.nw, .slice Nx nnx cnx]) := H4.out.2.2.2.2.1.trans ((Out.trans (S := fun i => i = w.heap.size) (Out.ofBelow (fun i => i = w.heap.size) hb5) s3 (fun _ _ e => e)).above (fun i e => by omega) H4.out.2.2.2.2.1.size)
      have hone : ([.int .i64 x.cl, .int .i64 x.sp, .int .i64 x.gr, .int .i64 x.ep, .int .i64 x.kd, .int .i64 x.bl, .slice Dx ndx cdx, .int .i64 x.od, .int .i64 x.nw, .slice Nx nnx cnx] : List Value).toArray.all (·.oneCell') = true := by simp [Value.oneCell']
      obtain ⟨wF, hwF0⟩ : ∃ W, w5.setCells w.heap.size 0 [.int .i64 x.cl, .int .i64 x.sp, .int .i64 x.gr, .int .i64 x.ep, .int .i64 x.kd, .int .i64 x.bl, .slice Dx ndx cdx, .int .i64 x.od, .int .i64 x.nw, .slice Nx nnx cnx] = W := ⟨_, rfl⟩
      have hwF : w5.setCells w.heap.size 0 ([.int .i64 x.cl, .int .i64 x.sp, .int .i64 x.gr, .int .i64 x.ep, .int .i64 x.kd, .int .i64 x.bl, .slice Dx ndx cdx, .int .i64 x.od, .int .i64 x.nw, .slice Nx nnx cnx] : List Value).toArray.toList = wF := hwF0
      rw [hwF0] at s2 hM hN hbF
      have HS := Lib.hid (And.intro s1 (And.intro s2 (And.intro hM (And.intro hN (And.intro hbF (And.intro hone hwF))))))
      clear hb5 h0 hrd s1 s2 s3 hM hN hbF hone hwF hwF0
      go_wp2_with (refine wpList_store_mid rfl 25 _ _ rfl w.heap.size 0 ([.int .i64 x.cl, .int .i64 x.sp, .int .i64 x.gr, .int .i64 x.ep, .int .i64 x.kd, .int .i64 x.bl, .slice Dx ndx cdx, .int .i64 x.od, .int .i64 x.nw, .slice Nx nnx cnx] : List Value).toArray rfl rfl HS.out.1 wish_size HS.out.2.2.2.2.2.1 ?_; simp only [Act.put]; refine cast (congrArg (fun z => wpList _ _ _ _ _ z) HS.out.2.2.2.2.2.2.symm) ?_)
      refine bodyPost_ret (results_row_tmp rfl _ _ w.heap.size 25 _ _ _ rfl rfl HS.out.2.1 Tryz.underlying25 rfl wish_size) rfl ?_
      rw [Hr.out]
      exact ⟨_, rfl, ⟨Dx, ndx, cdx, Nx, nnx, cnx, rfl, ⟨Mine.base HS.out.2.2.1 hb01, H3.out.2.2.2.1.1.1⟩, own_base HS.out.2.2.2.1 hb01, H3.out.2.2.2.1.2.1.1.1⟩, HS.out.2.2.2.2.1⟩
    · have Hr : Hid (r = (W0, 2)) := by show _ = _; rw [hp.out, if_neg (by rw [Hz.out]; simp), if_neg hm]
      have hck : chk x = 2 := by unfold chk; rw [if_neg hm]
      rw [hck] at Hc
      clear hm hck
      go_wp2_with fail
      refine Hc.out.mono ?_
      rintro e w5 ⟨rfl, hb5⟩
      go_upto_region 8 with fail
      have hrd := H4.out.2.1.below hb5 H4.out.2.1.lt
      obtain ⟨s1, s2, s3⟩ := store_facts (vs := [.int .i64 0, .int .i64 0, .int .i64 0, .int .i64 0, .int .i64 0, .int .i64 0, .slice none 0 0, .int .i64 0, .int .i64 0, .slice none 0 0]) hrd rfl rfl
      have hbF : Below w.heap.size w (w5.setCells w.heap.size 0 [.int .i64 0, .int .i64 0, .int .i64 0, .int .i64 0, .int .i64 0, .int .i64 0, .slice none 0 0, .int .i64 0, .int .i64 0, .slice none 0 0]) := H4.out.2.2.2.2.1.trans ((Out.trans (S := fun i => i = w.heap.size) (Out.ofBelow (fun i => i = w.heap.size) hb5) s3 (fun _ _ e => e)).above (fun i e => by omega) H4.out.2.2.2.2.1.size)
      have hone : ([.int .i64 0, .int .i64 0, .int .i64 0, .int .i64 0, .int .i64 0, .int .i64 0, .slice none 0 0, .int .i64 0, .int .i64 0, .slice none 0 0] : List Value).toArray.all (·.oneCell') = true := by simp [Value.oneCell']
      obtain ⟨wF, hwF0⟩ : ∃ W, w5.setCells w.heap.size 0 [.int .i64 0, .int .i64 0, .int .i64 0, .int .i64 0, .int .i64 0, .int .i64 0, .slice none 0 0, .int .i64 0, .int .i64 0, .slice none 0 0] = W := ⟨_, rfl⟩
      have hwF : w5.setCells w.heap.size 0 ([.int .i64 0, .int .i64 0, .int .i64 0, .int .i64 0, .int .i64 0, .int .i64 0, .slice none 0 0, .int .i64 0, .int .i64 0, .slice none 0 0] : List Value).toArray.toList = wF := hwF0
      rw [hwF0] at s2 hbF
      have HS := Lib.hid (And.intro s1 (And.intro s2 (And.intro hbF (And.intro hone hwF))))
      clear hb5 hrd s1 s2 s3 hbF hone hwF hwF0
      go_wp2_with (refine wpList_store_mid rfl 25 _ _ rfl w.heap.size 0 ([.int .i64 0, .int .i64 0, .int .i64 0, .int .i64 0, .int .i64 0, .int .i64 0, .slice none 0 0, .int .i64 0, .int .i64 0, .slice none 0 0] : List Value).toArray rfl rfl HS.out.1 wish_size HS.out.2.2.2.1 ?_; simp only [Act.put]; refine cast (congrArg (fun z => wpList _ _ _ _ _ z) HS.out.2.2.2.2.symm) ?_)
      refine bodyPost_ret (results_row_tmp rfl _ _ w.heap.size 25 _ _ _ rfl rfl HS.out.2.1 Tryz.underlying25 rfl wish_size) rfl ?_
      rw [Hr.out]
      exact ⟨_, rfl, WV.zero _ _, HS.out.2.2.1⟩

end Go.Proofs.YtihmddpafbackaaGreat
