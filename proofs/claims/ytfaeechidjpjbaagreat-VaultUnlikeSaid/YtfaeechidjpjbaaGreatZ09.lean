/-
  Laid together for a hand-in: Wn11, My0, My1, My2, My3, My4, My5, Ck11.
-/
import Derived.Test.YtfaeechidjpjbaaGreatZ08
import Derived.Test.YtfaeechidjpjbaaGreatZ02

namespace Go.Proofs.YtfaeechidjpjbaaGreat

open Go.RowKit

set_option linter.unusedVariables false

set_option linter.unusedSimpArgs false

theorem ris_drop {a : Int} {l : List Int} {k : Nat} (h : k < l.length) : ris a (l.drop k) ↔ (1 ≤ l[k] ∧ l[k] ≤ 28) ∧ a < l[k] ∧ ris l[k] (l.drop (k + 1)) := by
  rw [List.drop_eq_getElem_cons h]
  exact Iff.rfl

theorem May5 {x : Wl} (hk : x.kd = 5) : May x ↔ (0 ≤ x.ep ∧ x.ep ≤ 1048576) ∧ SealF x ∧ x.da.length = 0 ∧ NoS x ∧ Nxt x.nx := by
  unfold May
  constructor
  · rintro ⟨h, h1 | h1 | h1 | h1 | h1⟩
    · exact absurd h1.1 (by omega)
    · exact absurd h1.1 (by omega)
    · exact absurd h1.1 (by omega)
    · exact absurd h1.1 (by omega)
    · exact ⟨h, h1.2⟩
  · rintro ⟨h, h1⟩
    exact ⟨h, .inr (.inr (.inr (.inr ⟨hk, h1⟩)))⟩

theorem tmod3 (n : Nat) : ((n : Int).tmod 3) = ((n % 3 : Nat) : Int) := by
  rw [Int.tmod_eq_emod_of_nonneg (by omega)]; rfl

set_option maxHeartbeats 800000 in
theorem next_any (A : Option Addr) (n c : Nat) (l : List Int) (w : World) (h : ArgI w A n c l) : Calls Tryz.prog 122 #[.slice A n c] w fun e w' => e = .returned (.bool (decide (Nxt l))) ∧ w = w' := by
  have hl := h.1
  have hm := h.2.2.1
  have hnc := h.2.1
  unfold maxLen at hm
  have Hl := Lib.hid hl
  obtain ⟨r, hr⟩ : ∃ r, decide (Nxt l) = r := ⟨_, rfl⟩
  have Hr := Lib.hid hr
  rw [hr]
  clear hr hl
  by_cases h7 : 7 < n
  · have hr : Hid (r = false) := by
      show _ = _; rw [← Hr.out, decide_eq_false_iff_not]; have := Hl.out; rintro ⟨h1, _⟩; omega
    have h7' : (7 : Int) < n := by omega
    go_enter Tryz.func122, Tryz.ntmps122
    go_wp2
    go_ret
    exact ⟨ret_bool hr.out.symm, rfl⟩
  · have h7' : ¬ (7 : Int) < n := by omega
    have ht := tmod3 n
    by_cases h3 : n % 3 = 1
    · rw [h3] at ht
      have ht1 : ((n : Int).tmod 3) = 1 := ht
      clear ht
      have hlen : l.length = 1 ∨ l.length = 4 ∨ l.length = 7 := by have := Hl.out; omega
      have Hn : Hid (r = true ↔ ris 0 (l.drop 0)) := by
        show _ ↔ _; rw [← Hr.out, decide_eq_true_eq]; exact ⟨fun h => h.2, fun h => ⟨hlen, h⟩⟩
      clear hlen h3
      have H := Lib.hid h
      clear h
      go_enter Tryz.func122, Tryz.ntmps122
      go_wp2
      go_loop [3, 5, 17] (fun s _ i => ∃ (k : Nat) (a : Int), k ≤ n ∧ i = .int .i64 k ∧ s = .int .i64 a ∧ Hid (r = true ↔ ris a (l.drop k))) (fun _ _ i => n - (intOf i).toNat)
      case atStart => exact ⟨0, 0, Nat.zero_le _, rfl, rfl, Hn⟩
      case round =>
        obtain ⟨k, a, hk, rfl, rfl, hq⟩ := hrel
        by_cases hlt : k < n
        · have hkl : k < l.length := by have := Hl.out; omega
          obtain ⟨b, o, rfl, hb, hc⟩ := H.out.2.2.2.1.at_ hkl
          have c0 := hc k hkl
          have Hq : Hid (r = true ↔ (1 ≤ l[k] ∧ l[k] ≤ 28) ∧ a < l[k] ∧ ris l[k] (l.drop (k + 1))) := hq.out.trans (ris_drop hkl)
          clear hc hq
          have hlt' : (k : Int) < n := by omega
          generalize l[k] = x at *
          clear hkl
          by_cases hx : (1 ≤ x ∧ x ≤ 28) ∧ a < x
          · have hx1 : decide (1 ≤ x ∧ x ≤ 28) = true := decide_eq_true hx.1
            have hx2 : ¬ x ≤ a := by omega
            have Hx := Lib.hid hx
            clear hx
            go_wp2_with (go_at_call 132; refine (node_any _ _).mono ?_; rintro e w' ⟨rfl, rfl⟩; rw [hx1])
            go_round
            case rel => exact ⟨k + 1, x, by omega, by go_num, rfl, ⟨fun h => (Hq.out.1 h).2.2, fun h => Hq.out.2 ⟨Hx.out.1, Hx.out.2, h⟩⟩⟩
            case measure => simp [intOf]; omega
          · have hr : Hid (r = false) := by
              show _ = _; rw [Bool.eq_false_iff]; intro h1; have := Hq.out.1 h1; exact hx ⟨this.1, this.2.1⟩
            by_cases hy : 1 ≤ x ∧ x ≤ 28
            · have hx1 : decide (1 ≤ x ∧ x ≤ 28) = true := decide_eq_true hy
              have hx2 : x ≤ a := by omega
              clear hx hy
              go_wp2_with (go_at_call 132; refine (node_any _ _).mono ?_; rintro e w' ⟨rfl, rfl⟩; rw [hx1])
              go_ret
              exact ⟨ret_bool hr.out.symm, rfl⟩
            · have hx1 : decide (1 ≤ x ∧ x ≤ 28) = false := decide_eq_false hy
              clear hx hy
              go_wp2_with (go_at_call 132; refine (node_any _ _).mono ?_; rintro e w' ⟨rfl, rfl⟩; rw [hx1])
              go_ret
              exact ⟨ret_bool hr.out.symm, rfl⟩
        · have hr : Hid (r = true) := by
            show _ = _; have h1 := hq.out; rw [List.drop_of_length_le (by have := Hl.out; omega)] at h1; exact h1.2 trivial
          have hlt' : ¬ (k : Int) < n := by omega
          go_wp2
          go_ret
          exact ⟨ret_bool hr.out.symm, rfl⟩
    · have hr : Hid (r = false) := by
        show _ = _; rw [← Hr.out, decide_eq_false_iff_not]; have := Hl.out; rintro ⟨h1, _⟩; omega
      have ht1 : ¬ ((n : Int).tmod 3) = 1 := by omega
      clear ht
      go_enter Tryz.func122, Tryz.ntmps122
      go_wp2
      go_ret
      exact ⟨ret_bool hr.out.symm, rfl⟩

end Go.Proofs.YtfaeechidjpjbaaGreat

namespace Go.Proofs.YtfaeechidjpjbaaGreat

open Go.RowKit

set_option linter.unusedVariables false

set_option linter.unusedSimpArgs false

set_option maxRecDepth 100000 in
set_option maxHeartbeats 1600000 in
theorem mayBe_0 (x : Wl) (Dx : Option Addr) (ndx cdx : Nat) (Nx : Option Addr) (nnx cnx : Nat) (w : World) (h : ArgW w x Dx ndx cdx Nx nnx cnx) (hk : x.kd ≠ 1 ∧ x.kd ≠ 2 ∧ x.kd ≠ 3 ∧ x.kd ≠ 4 ∧ x.kd ≠ 5) : Calls Tryz.prog 104 #[.agg #[.int .i64 x.cl, .int .i64 x.sp, .int .i64 x.gr, .int .i64 x.ep, .int .i64 x.kd, .int .i64 x.bl, .slice Dx ndx cdx, .int .i64 x.od, .int .i64 x.nw, .slice Nx nnx cnx]] w fun e w' => e = .returned (.bool (decide (May x))) ∧ Below w.heap.size w w' := by
  have hd := h.1.1
  have H := Lib.hid h.2.1.1
  have hn := h.2.1.1.1
  clear h
  obtain ⟨r, hr⟩ : ∃ r, decide (May x) = r := ⟨_, rfl⟩
  rw [hr]
  have Hr : Hid (r = true ↔ May x) := by show _ ↔ _; rw [← hr, decide_eq_true_eq]
  have F0 := Lib.hid (And.intro hd hn)
  clear hr hd hn
  have hx := Lib.hid (Wx.new (w := w) (x := x) (D := Dx) (nd := ndx) (cd := cdx) (N := Nx) (nn := nnx) (cn := cnx))
  have e1 : (x.kd == 1) = false := by simp only [beq_eq_false_iff_ne]; omega
  have e2 : (x.kd == 2) = false := by simp only [beq_eq_false_iff_ne]; omega
  have e3 : (x.kd == 3) = false := by simp only [beq_eq_false_iff_ne]; omega
  have e4 : (x.kd == 4) = false := by simp only [beq_eq_false_iff_ne]; omega
  have e5 : (x.kd == 5) = false := by simp only [beq_eq_false_iff_ne]; omega
  have Hk := Lib.hid hk
  clear hk
  go_enter Tryz.func104, Tryz.ntmps104
  go_wp2_with fail
  refine (within_any _ _ _ _).mono ?_
  rintro e w' ⟨rfl, rfl⟩
  obtain ⟨b1, hb1⟩ : ∃ b, decide (0 ≤ x.ep ∧ x.ep ≤ 1048576) = b := ⟨_, rfl⟩
  rw [hb1]
  cases b1 with
  | false =>
    have F1 := Lib.hid (of_decide_eq_false hb1)
    clear hb1
    go_wp2
    all_goals go_ret
    all_goals first | exact ⟨ret_b0 (by rw [Hr.out]; have := F0.out; have := Hk.out; have := F1.out; unfold May; omega), hx.out.bel⟩ | exact ⟨ret_b1 (by rw [Hr.out]; have := F0.out; have := Hk.out; have := F1.out; unfold May; omega), hx.out.bel⟩ | exact ⟨ret_b (by rw [Hr.out]; simp only [Bool.and_eq_true, decide_eq_true_eq, beq_iff_eq]; have := F0.out; have := Hk.out; have := F1.out; unfold May; omega), hx.out.bel⟩
  | true =>
  have F1 := Lib.hid (of_decide_eq_true hb1)
  clear hb1
  go_wp2
  all_goals go_ret
  all_goals first | exact ⟨ret_b0 (by rw [Hr.out]; have := F0.out; have := Hk.out; have := F1.out; unfold May; omega), hx.out.bel⟩ | exact ⟨ret_b1 (by rw [Hr.out]; have := F0.out; have := Hk.out; have := F1.out; unfold May; omega), hx.out.bel⟩ | exact ⟨ret_b (by rw [Hr.out]; simp only [Bool.and_eq_true, decide_eq_true_eq, beq_iff_eq]; have := F0.out; have := Hk.out; have := F1.out; unfold May; omega), hx.out.bel⟩

end Go.Proofs.YtfaeechidjpjbaaGreat

namespace Go.Proofs.YtfaeechidjpjbaaGreat

open Go.RowKit

set_option linter.unusedVariables false

set_option linter.unusedSimpArgs false

set_option maxRecDepth 100000 in
set_option maxHeartbeats 1600000 in
theorem mayBe_1 (x : Wl) (Dx : Option Addr) (ndx cdx : Nat) (Nx : Option Addr) (nnx cnx : Nat) (w : World) (h : ArgW w x Dx ndx cdx Nx nnx cnx) (hk : x.kd = 1) : Calls Tryz.prog 104 #[.agg #[.int .i64 x.cl, .int .i64 x.sp, .int .i64 x.gr, .int .i64 x.ep, .int .i64 x.kd, .int .i64 x.bl, .slice Dx ndx cdx, .int .i64 x.od, .int .i64 x.nw, .slice Nx nnx cnx]] w fun e w' => e = .returned (.bool (decide (May x))) ∧ Below w.heap.size w w' := by
  have hd := h.1.1
  have H := Lib.hid h.2.1.1
  have hn := h.2.1.1.1
  clear h
  obtain ⟨r, hr⟩ : ∃ r, decide (May x) = r := ⟨_, rfl⟩
  rw [hr]
  have Hr : Hid (r = true ↔ May x) := by show _ ↔ _; rw [← hr, decide_eq_true_eq]
  have F0 := Lib.hid (And.intro hd hn)
  clear hr hd hn
  have hx := Lib.hid (Wx.new (w := w) (x := x) (D := Dx) (nd := ndx) (cd := cdx) (N := Nx) (nn := nnx) (cn := cnx))
  have e1 : (x.kd == 1) = true := by rw [hk]; rfl
  have Hk := Lib.hid hk
  clear hk
  go_enter Tryz.func104, Tryz.ntmps104
  go_wp2_with fail
  refine (within_any _ _ _ _).mono ?_
  rintro e w' ⟨rfl, rfl⟩
  obtain ⟨b1, hb1⟩ : ∃ b, decide (0 ≤ x.ep ∧ x.ep ≤ 1048576) = b := ⟨_, rfl⟩
  rw [hb1]
  cases b1 with
  | false =>
    have F1 := Lib.hid (of_decide_eq_false hb1)
    clear hb1
    go_wp2
    all_goals go_ret
    all_goals first | exact ⟨ret_b0 (by rw [Hr.out]; have := F0.out; have := Hk.out; have := F1.out; unfold May; omega), hx.out.bel⟩ | exact ⟨ret_b1 (by rw [Hr.out]; have := F0.out; have := Hk.out; have := F1.out; unfold May; omega), hx.out.bel⟩ | exact ⟨ret_b (by rw [Hr.out]; simp only [Bool.and_eq_true, decide_eq_true_eq, beq_iff_eq]; have := F0.out; have := Hk.out; have := F1.out; unfold May; omega), hx.out.bel⟩
  | true =>
  have F1 := Lib.hid (of_decide_eq_true hb1)
  clear hb1
  go_wp2_with fail
  refine (asked_any x Dx ndx cdx Nx nnx cnx _).mono ?_
  rintro e w' ⟨rfl, hb⟩; replace hx := Lib.hid (Wx.on hx.out hb); clear hb; obtain ⟨⟨k0, k1, k2, k3, k4⟩, k5, k6, k7, k8, k9⟩ := hx.out.ks
  obtain ⟨b2, hb2⟩ : ∃ b, decide (Askd x) = b := ⟨_, rfl⟩
  rw [hb2]
  cases b2 with
  | false =>
    have F2 := Lib.hid (of_decide_eq_false hb2)
    clear hb2
    go_wp2
    all_goals go_ret
    all_goals first | exact ⟨ret_b0 (by rw [Hr.out]; have := F0.out; have := Hk.out; have := F1.out; have := F2.out; unfold May; omega), hx.out.bel⟩ | exact ⟨ret_b1 (by rw [Hr.out]; have := F0.out; have := Hk.out; have := F1.out; have := F2.out; unfold May; omega), hx.out.bel⟩ | exact ⟨ret_b (by rw [Hr.out]; simp only [Bool.and_eq_true, decide_eq_true_eq, beq_iff_eq]; have := F0.out; have := Hk.out; have := F1.out; have := F2.out; unfold May; omega), hx.out.bel⟩
  | true =>
  have F2 := Lib.hid (of_decide_eq_true hb2)
  clear hb2
  go_wp2_with fail
  refine (ofBlock_any x Dx ndx cdx Nx nnx cnx _).mono ?_
  rintro e w' ⟨rfl, hb⟩; replace hx := Lib.hid (Wx.on hx.out hb); clear hb; obtain ⟨⟨k0, k1, k2, k3, k4⟩, k5, k6, k7, k8, k9⟩ := hx.out.ks
  obtain ⟨b3, hb3⟩ : ∃ b, decide (OfBl x) = b := ⟨_, rfl⟩
  rw [hb3]
  cases b3 with
  | false =>
    have F3 := Lib.hid (of_decide_eq_false hb3)
    clear hb3
    go_wp2
    all_goals go_ret
    all_goals first | exact ⟨ret_b0 (by rw [Hr.out]; have := F0.out; have := Hk.out; have := F1.out; have := F2.out; have := F3.out; unfold May; omega), hx.out.bel⟩ | exact ⟨ret_b1 (by rw [Hr.out]; have := F0.out; have := Hk.out; have := F1.out; have := F2.out; have := F3.out; unfold May; omega), hx.out.bel⟩ | exact ⟨ret_b (by rw [Hr.out]; simp only [Bool.and_eq_true, decide_eq_true_eq, beq_iff_eq]; have := F0.out; have := Hk.out; have := F1.out; have := F2.out; have := F3.out; unfold May; omega), hx.out.bel⟩
  | true =>
  have F3 := Lib.hid (of_decide_eq_true hb3)
  clear hb3
  by_cases hz : ndx = 0
  rotate_left
  · have hz0 : ((ndx : Int) == 0) = false := by simp only [beq_eq_false_iff_ne]; omega
    have Hz := Lib.hid hz
    clear hz
    go_wp2
    all_goals go_ret
    all_goals first | exact ⟨ret_b0 (by rw [Hr.out]; have := F0.out; have := Hk.out; have := F1.out; have := F2.out; have := F3.out; have := Hz.out; unfold May; omega), hx.out.bel⟩ | exact ⟨ret_b1 (by rw [Hr.out]; have := F0.out; have := Hk.out; have := F1.out; have := F2.out; have := F3.out; have := Hz.out; unfold May; omega), hx.out.bel⟩ | exact ⟨ret_b (by rw [Hr.out]; simp only [Bool.and_eq_true, decide_eq_true_eq, beq_iff_eq]; have := F0.out; have := Hk.out; have := F1.out; have := F2.out; have := F3.out; have := Hz.out; unfold May; omega), hx.out.bel⟩
  have hz0 : ((ndx : Int) == 0) = true := by simp only [beq_iff_eq]; omega
  have Hz := Lib.hid hz
  clear hz
  go_wp2_with fail
  refine (noSwap_any x Dx ndx cdx Nx nnx cnx _).mono ?_
  rintro e w' ⟨rfl, hb⟩; replace hx := Lib.hid (Wx.on hx.out hb); clear hb; obtain ⟨⟨k0, k1, k2, k3, k4⟩, k5, k6, k7, k8, k9⟩ := hx.out.ks
  obtain ⟨b4, hb4⟩ : ∃ b, decide (NoS x) = b := ⟨_, rfl⟩
  rw [hb4]
  cases b4 with
  | false =>
    have F4 := Lib.hid (of_decide_eq_false hb4)
    clear hb4
    go_wp2
    all_goals go_ret
    all_goals first | exact ⟨ret_b0 (by rw [Hr.out]; have := F0.out; have := Hk.out; have := F1.out; have := F2.out; have := F3.out; have := Hz.out; have := F4.out; unfold May; omega), hx.out.bel⟩ | exact ⟨ret_b1 (by rw [Hr.out]; have := F0.out; have := Hk.out; have := F1.out; have := F2.out; have := F3.out; have := Hz.out; have := F4.out; unfold May; omega), hx.out.bel⟩ | exact ⟨ret_b (by rw [Hr.out]; simp only [Bool.and_eq_true, decide_eq_true_eq, beq_iff_eq]; have := F0.out; have := Hk.out; have := F1.out; have := F2.out; have := F3.out; have := Hz.out; have := F4.out; unfold May; omega), hx.out.bel⟩
  | true =>
  have F4 := Lib.hid (of_decide_eq_true hb4)
  clear hb4
  go_wp2
  all_goals go_ret
  all_goals first | exact ⟨ret_b0 (by rw [Hr.out]; have := F0.out; have := Hk.out; have := F1.out; have := F2.out; have := F3.out; have := Hz.out; have := F4.out; unfold May; omega), hx.out.bel⟩ | exact ⟨ret_b1 (by rw [Hr.out]; have := F0.out; have := Hk.out; have := F1.out; have := F2.out; have := F3.out; have := Hz.out; have := F4.out; unfold May; omega), hx.out.bel⟩ | exact ⟨ret_b (by rw [Hr.out]; simp only [Bool.and_eq_true, decide_eq_true_eq, beq_iff_eq]; have := F0.out; have := Hk.out; have := F1.out; have := F2.out; have := F3.out; have := Hz.out; have := F4.out; unfold May; omega), hx.out.bel⟩

end Go.Proofs.YtfaeechidjpjbaaGreat

namespace Go.Proofs.YtfaeechidjpjbaaGreat

open Go.RowKit

set_option linter.unusedVariables false

set_option linter.unusedSimpArgs false

set_option maxRecDepth 100000 in
set_option maxHeartbeats 1600000 in
theorem mayBe_2 (x : Wl) (Dx : Option Addr) (ndx cdx : Nat) (Nx : Option Addr) (nnx cnx : Nat) (w : World) (h : ArgW w x Dx ndx cdx Nx nnx cnx) (hk : x.kd = 2) : Calls Tryz.prog 104 #[.agg #[.int .i64 x.cl, .int .i64 x.sp, .int .i64 x.gr, .int .i64 x.ep, .int .i64 x.kd, .int .i64 x.bl, .slice Dx ndx cdx, .int .i64 x.od, .int .i64 x.nw, .slice Nx nnx cnx]] w fun e w' => e = .returned (.bool (decide (May x))) ∧ Below w.heap.size w w' := by
  have hd := h.1.1
  have H := Lib.hid h.2.1.1
  have hn := h.2.1.1.1
  clear h
  obtain ⟨r, hr⟩ : ∃ r, decide (May x) = r := ⟨_, rfl⟩
  rw [hr]
  have Hr : Hid (r = true ↔ May x) := by show _ ↔ _; rw [← hr, decide_eq_true_eq]
  have F0 := Lib.hid (And.intro hd hn)
  clear hr hd hn
  have hx := Lib.hid (Wx.new (w := w) (x := x) (D := Dx) (nd := ndx) (cd := cdx) (N := Nx) (nn := nnx) (cn := cnx))
  have e1 : (x.kd == 1) = false := by rw [hk]; rfl
  have e2 : (x.kd == 2) = true := by rw [hk]; rfl
  have Hk := Lib.hid hk
  clear hk
  go_enter Tryz.func104, Tryz.ntmps104
  go_wp2_with fail
  refine (within_any _ _ _ _).mono ?_
  rintro e w' ⟨rfl, rfl⟩
  obtain ⟨b1, hb1⟩ : ∃ b, decide (0 ≤ x.ep ∧ x.ep ≤ 1048576) = b := ⟨_, rfl⟩
  rw [hb1]
  cases b1 with
  | false =>
    have F1 := Lib.hid (of_decide_eq_false hb1)
    clear hb1
    go_wp2
    all_goals go_ret
    all_goals first | exact ⟨ret_b0 (by rw [Hr.out]; have := F0.out; have := Hk.out; have := F1.out; unfold May; omega), hx.out.bel⟩ | exact ⟨ret_b1 (by rw [Hr.out]; have := F0.out; have := Hk.out; have := F1.out; unfold May; omega), hx.out.bel⟩ | exact ⟨ret_b (by rw [Hr.out]; simp only [Bool.and_eq_true, decide_eq_true_eq, beq_iff_eq]; have := F0.out; have := Hk.out; have := F1.out; unfold May; omega), hx.out.bel⟩
  | true =>
  have F1 := Lib.hid (of_decide_eq_true hb1)
  clear hb1
  go_wp2_with fail
  refine (asked_any x Dx ndx cdx Nx nnx cnx _).mono ?_
  rintro e w' ⟨rfl, hb⟩; replace hx := Lib.hid (Wx.on hx.out hb); clear hb; obtain ⟨⟨k0, k1, k2, k3, k4⟩, k5, k6, k7, k8, k9⟩ := hx.out.ks
  obtain ⟨b2, hb2⟩ : ∃ b, decide (Askd x) = b := ⟨_, rfl⟩
  rw [hb2]
  cases b2 with
  | false =>
    have F2 := Lib.hid (of_decide_eq_false hb2)
    clear hb2
    go_wp2
    all_goals go_ret
    all_goals first | exact ⟨ret_b0 (by rw [Hr.out]; have := F0.out; have := Hk.out; have := F1.out; have := F2.out; unfold May; omega), hx.out.bel⟩ | exact ⟨ret_b1 (by rw [Hr.out]; have := F0.out; have := Hk.out; have := F1.out; have := F2.out; unfold May; omega), hx.out.bel⟩ | exact ⟨ret_b (by rw [Hr.out]; simp only [Bool.and_eq_true, decide_eq_true_eq, beq_iff_eq]; have := F0.out; have := Hk.out; have := F1.out; have := F2.out; unfold May; omega), hx.out.bel⟩
  | true =>
  have F2 := Lib.hid (of_decide_eq_true hb2)
  clear hb2
  go_wp2_with fail
  refine (ofBlock_any x Dx ndx cdx Nx nnx cnx _).mono ?_
  rintro e w' ⟨rfl, hb⟩; replace hx := Lib.hid (Wx.on hx.out hb); clear hb; obtain ⟨⟨k0, k1, k2, k3, k4⟩, k5, k6, k7, k8, k9⟩ := hx.out.ks
  obtain ⟨b3, hb3⟩ : ∃ b, decide (OfBl x) = b := ⟨_, rfl⟩
  rw [hb3]
  cases b3 with
  | false =>
    have F3 := Lib.hid (of_decide_eq_false hb3)
    clear hb3
    go_wp2
    all_goals go_ret
    all_goals first | exact ⟨ret_b0 (by rw [Hr.out]; have := F0.out; have := Hk.out; have := F1.out; have := F2.out; have := F3.out; unfold May; omega), hx.out.bel⟩ | exact ⟨ret_b1 (by rw [Hr.out]; have := F0.out; have := Hk.out; have := F1.out; have := F2.out; have := F3.out; unfold May; omega), hx.out.bel⟩ | exact ⟨ret_b (by rw [Hr.out]; simp only [Bool.and_eq_true, decide_eq_true_eq, beq_iff_eq]; have := F0.out; have := Hk.out; have := F1.out; have := F2.out; have := F3.out; unfold May; omega), hx.out.bel⟩
  | true =>
  have F3 := Lib.hid (of_decide_eq_true hb3)
  clear hb3
  by_cases hz : ndx = 16
  rotate_left
  · have hz0 : ((ndx : Int) == 16) = false := by simp only [beq_eq_false_iff_ne]; omega
    have Hz := Lib.hid hz
    clear hz
    go_wp2
    all_goals go_ret
    all_goals first | exact ⟨ret_b0 (by rw [Hr.out]; have := F0.out; have := Hk.out; have := F1.out; have := F2.out; have := F3.out; have := Hz.out; unfold May; omega), hx.out.bel⟩ | exact ⟨ret_b1 (by rw [Hr.out]; have := F0.out; have := Hk.out; have := F1.out; have := F2.out; have := F3.out; have := Hz.out; unfold May; omega), hx.out.bel⟩ | exact ⟨ret_b (by rw [Hr.out]; simp only [Bool.and_eq_true, decide_eq_true_eq, beq_iff_eq]; have := F0.out; have := Hk.out; have := F1.out; have := F2.out; have := F3.out; have := Hz.out; unfold May; omega), hx.out.bel⟩
  have hz0 : ((ndx : Int) == 16) = true := by simp only [beq_iff_eq]; omega
  have Hz := Lib.hid hz
  clear hz
  go_wp2_with fail
  refine (noSwap_any x Dx ndx cdx Nx nnx cnx _).mono ?_
  rintro e w' ⟨rfl, hb⟩; replace hx := Lib.hid (Wx.on hx.out hb); clear hb; obtain ⟨⟨k0, k1, k2, k3, k4⟩, k5, k6, k7, k8, k9⟩ := hx.out.ks
  obtain ⟨b4, hb4⟩ : ∃ b, decide (NoS x) = b := ⟨_, rfl⟩
  rw [hb4]
  cases b4 with
  | false =>
    have F4 := Lib.hid (of_decide_eq_false hb4)
    clear hb4
    go_wp2
    all_goals go_ret
    all_goals first | exact ⟨ret_b0 (by rw [Hr.out]; have := F0.out; have := Hk.out; have := F1.out; have := F2.out; have := F3.out; have := Hz.out; have := F4.out; unfold May; omega), hx.out.bel⟩ | exact ⟨ret_b1 (by rw [Hr.out]; have := F0.out; have := Hk.out; have := F1.out; have := F2.out; have := F3.out; have := Hz.out; have := F4.out; unfold May; omega), hx.out.bel⟩ | exact ⟨ret_b (by rw [Hr.out]; simp only [Bool.and_eq_true, decide_eq_true_eq, beq_iff_eq]; have := F0.out; have := Hk.out; have := F1.out; have := F2.out; have := F3.out; have := Hz.out; have := F4.out; unfold May; omega), hx.out.bel⟩
  | true =>
  have F4 := Lib.hid (of_decide_eq_true hb4)
  clear hb4
  go_wp2
  all_goals go_ret
  all_goals first | exact ⟨ret_b0 (by rw [Hr.out]; have := F0.out; have := Hk.out; have := F1.out; have := F2.out; have := F3.out; have := Hz.out; have := F4.out; unfold May; omega), hx.out.bel⟩ | exact ⟨ret_b1 (by rw [Hr.out]; have := F0.out; have := Hk.out; have := F1.out; have := F2.out; have := F3.out; have := Hz.out; have := F4.out; unfold May; omega), hx.out.bel⟩ | exact ⟨ret_b (by rw [Hr.out]; simp only [Bool.and_eq_true, decide_eq_true_eq, beq_iff_eq]; have := F0.out; have := Hk.out; have := F1.out; have := F2.out; have := F3.out; have := Hz.out; have := F4.out; unfold May; omega), hx.out.bel⟩

end Go.Proofs.YtfaeechidjpjbaaGreat

namespace Go.Proofs.YtfaeechidjpjbaaGreat

open Go.RowKit

set_option linter.unusedVariables false

set_option linter.unusedSimpArgs false

set_option maxRecDepth 100000 in
set_option maxHeartbeats 1600000 in
theorem mayBe_3 (x : Wl) (Dx : Option Addr) (ndx cdx : Nat) (Nx : Option Addr) (nnx cnx : Nat) (w : World) (h : ArgW w x Dx ndx cdx Nx nnx cnx) (hk : x.kd = 3) : Calls Tryz.prog 104 #[.agg #[.int .i64 x.cl, .int .i64 x.sp, .int .i64 x.gr, .int .i64 x.ep, .int .i64 x.kd, .int .i64 x.bl, .slice Dx ndx cdx, .int .i64 x.od, .int .i64 x.nw, .slice Nx nnx cnx]] w fun e w' => e = .returned (.bool (decide (May x))) ∧ Below w.heap.size w w' := by
  have hd := h.1.1
  have H := Lib.hid h.2.1.1
  have hn := h.2.1.1.1
  clear h
  obtain ⟨r, hr⟩ : ∃ r, decide (May x) = r := ⟨_, rfl⟩
  rw [hr]
  have Hr : Hid (r = true ↔ May x) := by show _ ↔ _; rw [← hr, decide_eq_true_eq]
  have F0 := Lib.hid (And.intro hd hn)
  clear hr hd hn
  have hx := Lib.hid (Wx.new (w := w) (x := x) (D := Dx) (nd := ndx) (cd := cdx) (N := Nx) (nn := nnx) (cn := cnx))
  have e1 : (x.kd == 1) = false := by rw [hk]; rfl
  have e2 : (x.kd == 2) = false := by rw [hk]; rfl
  have e3 : (x.kd == 3) = true := by rw [hk]; rfl
  have Hk := Lib.hid hk
  clear hk
  go_enter Tryz.func104, Tryz.ntmps104
  go_wp2_with fail
  refine (within_any _ _ _ _).mono ?_
  rintro e w' ⟨rfl, rfl⟩
  obtain ⟨b1, hb1⟩ : ∃ b, decide (0 ≤ x.ep ∧ x.ep ≤ 1048576) = b := ⟨_, rfl⟩
  rw [hb1]
  cases b1 with
  | false =>
    have F1 := Lib.hid (of_decide_eq_false hb1)
    clear hb1
    go_wp2
    all_goals go_ret
    all_goals first | exact ⟨ret_b0 (by rw [Hr.out]; have := F0.out; have := Hk.out; have := F1.out; unfold May; omega), hx.out.bel⟩ | exact ⟨ret_b1 (by rw [Hr.out]; have := F0.out; have := Hk.out; have := F1.out; unfold May; omega), hx.out.bel⟩ | exact ⟨ret_b (by rw [Hr.out]; simp only [Bool.and_eq_true, decide_eq_true_eq, beq_iff_eq]; have := F0.out; have := Hk.out; have := F1.out; unfold May; omega), hx.out.bel⟩
  | true =>
  have F1 := Lib.hid (of_decide_eq_true hb1)
  clear hb1
  go_wp2_with fail
  refine (asked_any x Dx ndx cdx Nx nnx cnx _).mono ?_
  rintro e w' ⟨rfl, hb⟩; replace hx := Lib.hid (Wx.on hx.out hb); clear hb; obtain ⟨⟨k0, k1, k2, k3, k4⟩, k5, k6, k7, k8, k9⟩ := hx.out.ks
  obtain ⟨b2, hb2⟩ : ∃ b, decide (Askd x) = b := ⟨_, rfl⟩
  rw [hb2]
  cases b2 with
  | false =>
    have F2 := Lib.hid (of_decide_eq_false hb2)
    clear hb2
    go_wp2
    all_goals go_ret
    all_goals first | exact ⟨ret_b0 (by rw [Hr.out]; have := F0.out; have := Hk.out; have := F1.out; have := F2.out; unfold May; omega), hx.out.bel⟩ | exact ⟨ret_b1 (by rw [Hr.out]; have := F0.out; have := Hk.out; have := F1.out; have := F2.out; unfold May; omega), hx.out.bel⟩ | exact ⟨ret_b (by rw [Hr.out]; simp only [Bool.and_eq_true, decide_eq_true_eq, beq_iff_eq]; have := F0.out; have := Hk.out; have := F1.out; have := F2.out; unfold May; omega), hx.out.bel⟩
  | true =>
  have F2 := Lib.hid (of_decide_eq_true hb2)
  clear hb2
  go_wp2_with fail
  refine (ofDirectory_any x Dx ndx cdx Nx nnx cnx _).mono ?_
  rintro e w' ⟨rfl, hb⟩; replace hx := Lib.hid (Wx.on hx.out hb); clear hb; obtain ⟨⟨k0, k1, k2, k3, k4⟩, k5, k6, k7, k8, k9⟩ := hx.out.ks
  obtain ⟨b3, hb3⟩ : ∃ b, decide (OfDr x) = b := ⟨_, rfl⟩
  rw [hb3]
  cases b3 with
  | false =>
    have F3 := Lib.hid (of_decide_eq_false hb3)
    clear hb3
    go_wp2
    all_goals go_ret
    all_goals first | exact ⟨ret_b0 (by rw [Hr.out]; have := F0.out; have := Hk.out; have := F1.out; have := F2.out; have := F3.out; unfold May; omega), hx.out.bel⟩ | exact ⟨ret_b1 (by rw [Hr.out]; have := F0.out; have := Hk.out; have := F1.out; have := F2.out; have := F3.out; unfold May; omega), hx.out.bel⟩ | exact ⟨ret_b (by rw [Hr.out]; simp only [Bool.and_eq_true, decide_eq_true_eq, beq_iff_eq]; have := F0.out; have := Hk.out; have := F1.out; have := F2.out; have := F3.out; unfold May; omega), hx.out.bel⟩
  | true =>
  have F3 := Lib.hid (of_decide_eq_true hb3)
  clear hb3
  by_cases hz : ndx = 0
  rotate_left
  · have hz0 : ((ndx : Int) == 0) = false := by simp only [beq_eq_false_iff_ne]; omega
    have Hz := Lib.hid hz
    clear hz
    go_wp2
    all_goals go_ret
    all_goals first | exact ⟨ret_b0 (by rw [Hr.out]; have := F0.out; have := Hk.out; have := F1.out; have := F2.out; have := F3.out; have := Hz.out; unfold May; omega), hx.out.bel⟩ | exact ⟨ret_b1 (by rw [Hr.out]; have := F0.out; have := Hk.out; have := F1.out; have := F2.out; have := F3.out; have := Hz.out; unfold May; omega), hx.out.bel⟩ | exact ⟨ret_b (by rw [Hr.out]; simp only [Bool.and_eq_true, decide_eq_true_eq, beq_iff_eq]; have := F0.out; have := Hk.out; have := F1.out; have := F2.out; have := F3.out; have := Hz.out; unfold May; omega), hx.out.bel⟩
  have hz0 : ((ndx : Int) == 0) = true := by simp only [beq_iff_eq]; omega
  have Hz := Lib.hid hz
  clear hz
  go_wp2_with fail
  refine (noSwap_any x Dx ndx cdx Nx nnx cnx _).mono ?_
  rintro e w' ⟨rfl, hb⟩; replace hx := Lib.hid (Wx.on hx.out hb); clear hb; obtain ⟨⟨k0, k1, k2, k3, k4⟩, k5, k6, k7, k8, k9⟩ := hx.out.ks
  obtain ⟨b4, hb4⟩ : ∃ b, decide (NoS x) = b := ⟨_, rfl⟩
  rw [hb4]
  cases b4 with
  | false =>
    have F4 := Lib.hid (of_decide_eq_false hb4)
    clear hb4
    go_wp2
    all_goals go_ret
    all_goals first | exact ⟨ret_b0 (by rw [Hr.out]; have := F0.out; have := Hk.out; have := F1.out; have := F2.out; have := F3.out; have := Hz.out; have := F4.out; unfold May; omega), hx.out.bel⟩ | exact ⟨ret_b1 (by rw [Hr.out]; have := F0.out; have := Hk.out; have := F1.out; have := F2.out; have := F3.out; have := Hz.out; have := F4.out; unfold May; omega), hx.out.bel⟩ | exact ⟨ret_b (by rw [Hr.out]; simp only [Bool.and_eq_true, decide_eq_true_eq, beq_iff_eq]; have := F0.out; have := Hk.out; have := F1.out; have := F2.out; have := F3.out; have := Hz.out; have := F4.out; unfold May; omega), hx.out.bel⟩
  | true =>
  have F4 := Lib.hid (of_decide_eq_true hb4)
  clear hb4
  go_wp2
  all_goals go_ret
  all_goals first | exact ⟨ret_b0 (by rw [Hr.out]; have := F0.out; have := Hk.out; have := F1.out; have := F2.out; have := F3.out; have := Hz.out; have := F4.out; unfold May; omega), hx.out.bel⟩ | exact ⟨ret_b1 (by rw [Hr.out]; have := F0.out; have := Hk.out; have := F1.out; have := F2.out; have := F3.out; have := Hz.out; have := F4.out; unfold May; omega), hx.out.bel⟩ | exact ⟨ret_b (by rw [Hr.out]; simp only [Bool.and_eq_true, decide_eq_true_eq, beq_iff_eq]; have := F0.out; have := Hk.out; have := F1.out; have := F2.out; have := F3.out; have := Hz.out; have := F4.out; unfold May; omega), hx.out.bel⟩

end Go.Proofs.YtfaeechidjpjbaaGreat

namespace Go.Proofs.YtfaeechidjpjbaaGreat

open Go.RowKit

set_option linter.unusedVariables false

set_option linter.unusedSimpArgs false

set_option maxRecDepth 100000 in
set_option maxHeartbeats 1600000 in
theorem mayBe_4 (x : Wl) (Dx : Option Addr) (ndx cdx : Nat) (Nx : Option Addr) (nnx cnx : Nat) (w : World) (h : ArgW w x Dx ndx cdx Nx nnx cnx) (hk : x.kd = 4) : Calls Tryz.prog 104 #[.agg #[.int .i64 x.cl, .int .i64 x.sp, .int .i64 x.gr, .int .i64 x.ep, .int .i64 x.kd, .int .i64 x.bl, .slice Dx ndx cdx, .int .i64 x.od, .int .i64 x.nw, .slice Nx nnx cnx]] w fun e w' => e = .returned (.bool (decide (May x))) ∧ Below w.heap.size w w' := by
  have hd := h.1.1
  have H := Lib.hid h.2.1.1
  have hn := h.2.1.1.1
  clear h
  obtain ⟨r, hr⟩ : ∃ r, decide (May x) = r := ⟨_, rfl⟩
  rw [hr]
  have Hr : Hid (r = true ↔ May x) := by show _ ↔ _; rw [← hr, decide_eq_true_eq]
  have F0 := Lib.hid (And.intro hd hn)
  clear hr hd hn
  have hx := Lib.hid (Wx.new (w := w) (x := x) (D := Dx) (nd := ndx) (cd := cdx) (N := Nx) (nn := nnx) (cn := cnx))
  have e1 : (x.kd == 1) = false := by rw [hk]; rfl
  have e2 : (x.kd == 2) = false := by rw [hk]; rfl
  have e3 : (x.kd == 3) = false := by rw [hk]; rfl
  have e4 : (x.kd == 4) = true := by rw [hk]; rfl
  have Hk := Lib.hid hk
  clear hk
  go_enter Tryz.func104, Tryz.ntmps104
  go_wp2_with fail
  refine (within_any _ _ _ _).mono ?_
  rintro e w' ⟨rfl, rfl⟩
  obtain ⟨b1, hb1⟩ : ∃ b, decide (0 ≤ x.ep ∧ x.ep ≤ 1048576) = b := ⟨_, rfl⟩
  rw [hb1]
  cases b1 with
  | false =>
    have F1 := Lib.hid (of_decide_eq_false hb1)
    clear hb1
    go_wp2
    all_goals go_ret
    all_goals first | exact ⟨ret_b0 (by rw [Hr.out]; have := F0.out; have := Hk.out; have := F1.out; unfold May; omega), hx.out.bel⟩ | exact ⟨ret_b1 (by rw [Hr.out]; have := F0.out; have := Hk.out; have := F1.out; unfold May; omega), hx.out.bel⟩ | exact ⟨ret_b (by rw [Hr.out]; simp only [Bool.and_eq_true, decide_eq_true_eq, beq_iff_eq]; have := F0.out; have := Hk.out; have := F1.out; unfold May; omega), hx.out.bel⟩
  | true =>
  have F1 := Lib.hid (of_decide_eq_true hb1)
  clear hb1
  go_wp2_with fail
  refine (asked_any x Dx ndx cdx Nx nnx cnx _).mono ?_
  rintro e w' ⟨rfl, hb⟩; replace hx := Lib.hid (Wx.on hx.out hb); clear hb; obtain ⟨⟨k0, k1, k2, k3, k4⟩, k5, k6, k7, k8, k9⟩ := hx.out.ks
  obtain ⟨b2, hb2⟩ : ∃ b, decide (Askd x) = b := ⟨_, rfl⟩
  rw [hb2]
  cases b2 with
  | false =>
    have F2 := Lib.hid (of_decide_eq_false hb2)
    clear hb2
    go_wp2
    all_goals go_ret
    all_goals first | exact ⟨ret_b0 (by rw [Hr.out]; have := F0.out; have := Hk.out; have := F1.out; have := F2.out; unfold May; omega), hx.out.bel⟩ | exact ⟨ret_b1 (by rw [Hr.out]; have := F0.out; have := Hk.out; have := F1.out; have := F2.out; unfold May; omega), hx.out.bel⟩ | exact ⟨ret_b (by rw [Hr.out]; simp only [Bool.and_eq_true, decide_eq_true_eq, beq_iff_eq]; have := F0.out; have := Hk.out; have := F1.out; have := F2.out; unfold May; omega), hx.out.bel⟩
  | true =>
  have F2 := Lib.hid (of_decide_eq_true hb2)
  clear hb2
  go_wp2_with fail
  refine (ofDirectory_any x Dx ndx cdx Nx nnx cnx _).mono ?_
  rintro e w' ⟨rfl, hb⟩; replace hx := Lib.hid (Wx.on hx.out hb); clear hb; obtain ⟨⟨k0, k1, k2, k3, k4⟩, k5, k6, k7, k8, k9⟩ := hx.out.ks
  obtain ⟨b3, hb3⟩ : ∃ b, decide (OfDr x) = b := ⟨_, rfl⟩
  rw [hb3]
  cases b3 with
  | false =>
    have F3 := Lib.hid (of_decide_eq_false hb3)
    clear hb3
    go_wp2
    all_goals go_ret
    all_goals first | exact ⟨ret_b0 (by rw [Hr.out]; have := F0.out; have := Hk.out; have := F1.out; have := F2.out; have := F3.out; unfold May; omega), hx.out.bel⟩ | exact ⟨ret_b1 (by rw [Hr.out]; have := F0.out; have := Hk.out; have := F1.out; have := F2.out; have := F3.out; unfold May; omega), hx.out.bel⟩ | exact ⟨ret_b (by rw [Hr.out]; simp only [Bool.and_eq_true, decide_eq_true_eq, beq_iff_eq]; have := F0.out; have := Hk.out; have := F1.out; have := F2.out; have := F3.out; unfold May; omega), hx.out.bel⟩
  | true =>
  have F3 := Lib.hid (of_decide_eq_true hb3)
  clear hb3
  by_cases hz : ndx = 0
  rotate_left
  · have hz0 : ((ndx : Int) == 0) = false := by simp only [beq_eq_false_iff_ne]; omega
    have Hz := Lib.hid hz
    clear hz
    go_wp2
    all_goals go_ret
    all_goals first | exact ⟨ret_b0 (by rw [Hr.out]; have := F0.out; have := Hk.out; have := F1.out; have := F2.out; have := F3.out; have := Hz.out; unfold May; omega), hx.out.bel⟩ | exact ⟨ret_b1 (by rw [Hr.out]; have := F0.out; have := Hk.out; have := F1.out; have := F2.out; have := F3.out; have := Hz.out; unfold May; omega), hx.out.bel⟩ | exact ⟨ret_b (by rw [Hr.out]; simp only [Bool.and_eq_true, decide_eq_true_eq, beq_iff_eq]; have := F0.out; have := Hk.out; have := F1.out; have := F2.out; have := F3.out; have := Hz.out; unfold May; omega), hx.out.bel⟩
  have hz0 : ((ndx : Int) == 0) = true := by simp only [beq_iff_eq]; omega
  have Hz := Lib.hid hz
  clear hz
  go_wp2_with fail
  refine (swap_any x Dx ndx cdx Nx nnx cnx _).mono ?_
  rintro e w' ⟨rfl, hb⟩; replace hx := Lib.hid (Wx.on hx.out hb); clear hb; obtain ⟨⟨k0, k1, k2, k3, k4⟩, k5, k6, k7, k8, k9⟩ := hx.out.ks
  obtain ⟨b4, hb4⟩ : ∃ b, decide (Swp x) = b := ⟨_, rfl⟩
  rw [hb4]
  cases b4 with
  | false =>
    have F4 := Lib.hid (of_decide_eq_false hb4)
    clear hb4
    go_wp2
    all_goals go_ret
    all_goals first | exact ⟨ret_b0 (by rw [Hr.out]; have := F0.out; have := Hk.out; have := F1.out; have := F2.out; have := F3.out; have := Hz.out; have := F4.out; unfold May; omega), hx.out.bel⟩ | exact ⟨ret_b1 (by rw [Hr.out]; have := F0.out; have := Hk.out; have := F1.out; have := F2.out; have := F3.out; have := Hz.out; have := F4.out; unfold May; omega), hx.out.bel⟩ | exact ⟨ret_b (by rw [Hr.out]; simp only [Bool.and_eq_true, decide_eq_true_eq, beq_iff_eq]; have := F0.out; have := Hk.out; have := F1.out; have := F2.out; have := F3.out; have := Hz.out; have := F4.out; unfold May; omega), hx.out.bel⟩
  | true =>
  have F4 := Lib.hid (of_decide_eq_true hb4)
  clear hb4
  go_wp2
  all_goals go_ret
  all_goals first | exact ⟨ret_b0 (by rw [Hr.out]; have := F0.out; have := Hk.out; have := F1.out; have := F2.out; have := F3.out; have := Hz.out; have := F4.out; unfold May; omega), hx.out.bel⟩ | exact ⟨ret_b1 (by rw [Hr.out]; have := F0.out; have := Hk.out; have := F1.out; have := F2.out; have := F3.out; have := Hz.out; have := F4.out; unfold May; omega), hx.out.bel⟩ | exact ⟨ret_b (by rw [Hr.out]; simp only [Bool.and_eq_true, decide_eq_true_eq, beq_iff_eq]; have := F0.out; have := Hk.out; have := F1.out; have := F2.out; have := F3.out; have := Hz.out; have := F4.out; unfold May; omega), hx.out.bel⟩

end Go.Proofs.YtfaeechidjpjbaaGreat

namespace Go.Proofs.YtfaeechidjpjbaaGreat

open Go.RowKit

set_option linter.unusedVariables false

set_option linter.unusedSimpArgs false

set_option maxRecDepth 100000 in
set_option maxHeartbeats 1600000 in
theorem mayBe_5 (x : Wl) (Dx : Option Addr) (ndx cdx : Nat) (Nx : Option Addr) (nnx cnx : Nat) (w : World) (h : ArgW w x Dx ndx cdx Nx nnx cnx) (hk : x.kd = 5) : Calls Tryz.prog 104 #[.agg #[.int .i64 x.cl, .int .i64 x.sp, .int .i64 x.gr, .int .i64 x.ep, .int .i64 x.kd, .int .i64 x.bl, .slice Dx ndx cdx, .int .i64 x.od, .int .i64 x.nw, .slice Nx nnx cnx]] w fun e w' => e = .returned (.bool (decide (May x))) ∧ Below w.heap.size w w' := by
  have hd := h.1.1
  have H := Lib.hid h.2.1.1
  have hn := h.2.1.1.1
  clear h
  obtain ⟨r, hr⟩ : ∃ r, decide (May x) = r := ⟨_, rfl⟩
  rw [hr]
  have Hr : Hid (r = true ↔ May x) := by show _ ↔ _; rw [← hr, decide_eq_true_eq]
  have F0 := Lib.hid (And.intro hd hn)
  clear hr hd hn
  have hx := Lib.hid (Wx.new (w := w) (x := x) (D := Dx) (nd := ndx) (cd := cdx) (N := Nx) (nn := nnx) (cn := cnx))
  have e1 : (x.kd == 1) = false := by rw [hk]; rfl
  have e2 : (x.kd == 2) = false := by rw [hk]; rfl
  have e3 : (x.kd == 3) = false := by rw [hk]; rfl
  have e4 : (x.kd == 4) = false := by rw [hk]; rfl
  have e5 : (x.kd == 5) = true := by rw [hk]; rfl
  have Hk := Lib.hid hk
  clear hk
  go_enter Tryz.func104, Tryz.ntmps104
  go_wp2_with fail
  refine (within_any _ _ _ _).mono ?_
  rintro e w' ⟨rfl, rfl⟩
  obtain ⟨b1, hb1⟩ : ∃ b, decide (0 ≤ x.ep ∧ x.ep ≤ 1048576) = b := ⟨_, rfl⟩
  rw [hb1]
  cases b1 with
  | false =>
    have F1 := Lib.hid (of_decide_eq_false hb1)
    clear hb1
    go_wp2
    go_ret
    exact ⟨ret_b0 (fun h => by have h := (May5 Hk.out).1 (Hr.out.1 h); exact F1.out h.1), hx.out.bel⟩
  | true =>
  have F1 := Lib.hid (of_decide_eq_true hb1)
  clear hb1
  go_wp2_with fail
  refine (seal_any x Dx ndx cdx Nx nnx cnx _).mono ?_
  rintro e w' ⟨rfl, hb⟩; replace hx := Lib.hid (Wx.on hx.out hb); clear hb; obtain ⟨⟨k0, k1, k2, k3, k4⟩, k5, k6, k7, k8, k9⟩ := hx.out.ks
  obtain ⟨b2, hb2⟩ : ∃ b, decide (SealF x) = b := ⟨_, rfl⟩
  rw [hb2]
  cases b2 with
  | false =>
    have F2 := Lib.hid (of_decide_eq_false hb2)
    clear hb2
    go_wp2
    go_ret
    exact ⟨ret_b0 (fun h => by have h := (May5 Hk.out).1 (Hr.out.1 h); exact F2.out h.2.1), hx.out.bel⟩
  | true =>
  have F2 := Lib.hid (of_decide_eq_true hb2)
  clear hb2
  by_cases hz : ndx = 0
  rotate_left
  · have hz0 : ((ndx : Int) == 0) = false := by simp only [beq_eq_false_iff_ne]; omega
    have Hz := Lib.hid hz
    clear hz
    go_wp2
    go_ret
    exact ⟨ret_b0 (fun h => by have h := (May5 Hk.out).1 (Hr.out.1 h); have := F0.out; have := Hz.out; omega), hx.out.bel⟩
  have hz0 : ((ndx : Int) == 0) = true := by simp only [beq_iff_eq]; omega
  have Hz := Lib.hid hz
  clear hz
  go_wp2_with fail
  refine (noSwap_any x Dx ndx cdx Nx nnx cnx _).mono ?_
  rintro e w' ⟨rfl, hb⟩; replace hx := Lib.hid (Wx.on hx.out hb); clear hb; obtain ⟨⟨k0, k1, k2, k3, k4⟩, k5, k6, k7, k8, k9⟩ := hx.out.ks
  obtain ⟨b3, hb3⟩ : ∃ b, decide (NoS x) = b := ⟨_, rfl⟩
  rw [hb3]
  cases b3 with
  | false =>
    have F3 := Lib.hid (of_decide_eq_false hb3)
    clear hb3
    go_wp2
    go_ret
    exact ⟨ret_b0 (fun h => by have h := (May5 Hk.out).1 (Hr.out.1 h); exact F3.out h.2.2.2.1), hx.out.bel⟩
  | true =>
  have F3 := Lib.hid (of_decide_eq_true hb3)
  clear hb3
  go_wp2_with fail
  refine (next_any _ _ _ _ _ (H.out.after hx.out.bel)).mono ?_
  rintro e w' ⟨rfl, rfl⟩
  obtain ⟨b4, hb4⟩ : ∃ b, decide (Nxt x.nx) = b := ⟨_, rfl⟩
  rw [hb4]
  cases b4 with
  | false =>
    have F4 := Lib.hid (of_decide_eq_false hb4)
    clear hb4
    go_wp2
    go_ret
    exact ⟨ret_b0 (fun h => by have h := (May5 Hk.out).1 (Hr.out.1 h); exact F4.out h.2.2.2.2), hx.out.bel⟩
  | true =>
  have F4 := Lib.hid (of_decide_eq_true hb4)
  clear hb4
  go_wp2
  go_ret
  exact ⟨ret_b1 (Hr.out.2 ((May5 Hk.out).2 ⟨F1.out, F2.out, by have := F0.out; have := Hz.out; omega, F3.out, F4.out⟩)), hx.out.bel⟩

end Go.Proofs.YtfaeechidjpjbaaGreat

namespace Go.Proofs.YtfaeechidjpjbaaGreat

open Go.RowKit

set_option linter.unusedVariables false

set_option linter.unusedSimpArgs false

section

variable (x : Wl) (Dx : Option Addr) (ndx cdx : Nat) (Nx : Option Addr) (nnx cnx : Nat) (w : World)

theorem mayBe_any (h : ArgW w x Dx ndx cdx Nx nnx cnx) : Calls Tryz.prog 104 #[.agg #[.int .i64 x.cl, .int .i64 x.sp, .int .i64 x.gr, .int .i64 x.ep, .int .i64 x.kd, .int .i64 x.bl, .slice Dx ndx cdx, .int .i64 x.od, .int .i64 x.nw, .slice Nx nnx cnx]] w fun e w' => e = .returned (.bool (decide (May x))) ∧ Below w.heap.size w w' := by
  by_cases h1 : x.kd = 1
  · exact mayBe_1 x Dx ndx cdx Nx nnx cnx w h h1
  by_cases h2 : x.kd = 2
  · exact mayBe_2 x Dx ndx cdx Nx nnx cnx w h h2
  by_cases h3 : x.kd = 3
  · exact mayBe_3 x Dx ndx cdx Nx nnx cnx w h h3
  by_cases h4 : x.kd = 4
  · exact mayBe_4 x Dx ndx cdx Nx nnx cnx w h h4
  by_cases h5 : x.kd = 5
  · exact mayBe_5 x Dx ndx cdx Nx nnx cnx w h h5
  · exact mayBe_0 x Dx ndx cdx Nx nnx cnx w h ⟨h1, h2, h3, h4, h5⟩

/-- What Check answers. -/
def chk (x : Wl) : Int := if May x then 0 else 2

theorem check_any (h : ArgW w x Dx ndx cdx Nx nnx cnx) : Calls Tryz.prog 83 #[.agg #[.int .i64 x.cl, .int .i64 x.sp, .int .i64 x.gr, .int .i64 x.ep, .int .i64 x.kd, .int .i64 x.bl, .slice Dx ndx cdx, .int .i64 x.od, .int .i64 x.nw, .slice Nx nnx cnx]] w fun e w' => e = .returned (.int .i64 (chk x)) ∧ Below w.heap.size w w' := by
  have hbx : Below w.heap.size w (w.alloc (.cells #[.int .i64 x.cl, .int .i64 x.sp, .int .i64 x.gr, .int .i64 x.ep, .int .i64 x.kd, .int .i64 x.bl, .slice Dx ndx cdx, .int .i64 x.od, .int .i64 x.nw, .slice Nx nnx cnx] 45)) := (Below.refl _ _).alloc (Nat.le_refl _) _
  have H := Lib.hid (mayBe_any x Dx ndx cdx Nx nnx cnx _ (h.after hbx))
  have Hb := Lib.hid hbx
  clear h hbx
  by_cases hm : May x
  · have hc : Hid (chk x = 0) := by show _ = _; unfold chk; rw [if_pos hm]
    rw [decide_eq_true hm] at H
    clear hm
    generalize chk x = r at *
    go_enter Tryz.func83, Tryz.ntmps83
    go_wp2_with (go_at_call 104; refine H.out.mono ?_; rintro e w' ⟨rfl, hb⟩; have hb := Lib.hid hb)
    go_ret
    exact ⟨ret_int hc.out.symm, Hb.out.trans (hb.out.mono Hb.out.size)⟩
  · have hc : Hid (chk x = 2) := by show _ = _; unfold chk; rw [if_neg hm]
    rw [decide_eq_false hm] at H
    clear hm
    generalize chk x = r at *
    go_enter Tryz.func83, Tryz.ntmps83
    go_wp2_with (go_at_call 104; refine H.out.mono ?_; rintro e w' ⟨rfl, hb⟩; have hb := Lib.hid hb)
    go_ret
    exact ⟨ret_int hc.out.symm, Hb.out.trans (hb.out.mono Hb.out.size)⟩

end

theorem ibs_take {l : List Int} {k : Nat} (h : k < l.length) : ibs (l.take (k + 1)) = ibs (l.take k) ++ ib l[k] := by
  rw [List.take_succ_eq_append_getElem h]; unfold ibs; rw [List.map_append, List.flatten_append]; simp

theorem ib_max (x : Int) : (ib x).length ≤ 8 := by
  unfold ib nm
  split
  · simp
  · rename_i h
    have h1 := dgs_len7 (n := x.toNat) (by omega)
    simp only [numB_length]
    omega

theorem ibs_max (l : List Int) : (ibs l).length ≤ 8 * l.length := by
  induction l with
  | nil => simp [ibs]
  | cons x l ih => rw [ibs_cons, List.length_append, List.length_cons]; have := ib_max x; omega

set_option maxHeartbeats 800000 in
theorem numbers_any (A : Option Addr) (n c : Nat) (l : List Int) (w : World) (h : ArgI w A n c l) (hn : n ≤ 1000) : Calls Tryz.prog 89 #[.slice A n c] w (RetB w (ibs l)) := by
  have hm := h.2.2.1
  have hnc := h.2.1
  unfold maxLen at hm
  have Hl := Lib.hid h.1
  have H := Lib.hid h
  clear h
  go_enter Tryz.func89, Tryz.ntmps89
  go_wp2
  go_loopw [3, 10] (fun v i wr => ∃ k : Nat, k ≤ n ∧ i = .int .i64 k ∧ Mine wr w.heap.size 5 v (ibs (l.take k)) ∧ Below w.heap.size w wr) (fun _ i _ => n - (intOf i).toNat)
  case atStart => exact ⟨0, Nat.zero_le _, rfl, World.ownsRow_nil _ _ _ _, Below.refl _ _⟩
  case round =>
    obtain ⟨k, hk, rfl, hown, hnx⟩ := hrel
    by_cases hlt : k < n
    · have hlt' : (k : Int) < n := by omega
      have hkl : k < l.length := by rw [Hl.out]; exact hlt
      obtain ⟨b, o, rfl, hb, hc⟩ := H.out.2.2.2.1.at_ hkl
      have c0 : wr.cell? ⟨b, o + k, none⟩ = some (.int .i64 l[k]) := (hnx.cell (p := ⟨b, o + k, none⟩) hb).trans (hc k hkl)
      have Hst := Lib.hid (ibs_take hkl)
      have hmx := ibs_max (l.take k)
      have hmi := ib_max l[k]
      rw [List.length_take] at hmx
      clear hc
      generalize l[k] = x at *
      have Hbk := Lib.hid hkl
      clear hkl
      have Hmi : Hid ((nm x).1 = ib x) := rfl
      generalize hq : ib x = y at *
      have hmi' := hmi
      generalize hyq : y.length = q at *
      have Hyq := Lib.hid hyq
      clear hq hyq hmi
      go_wp2_with fail
      refine (num_any _ _).mono ?_
      rintro e w1 ⟨v1, rfl, hnew⟩
      rw [Hmi.out] at hnew
      obtain ⟨A1, c1, rfl, hl1, hc1, hB1⟩ := hnew.form
      have hb1 := Lib.hid hnew.2
      have hown1 := Lib.hid (hown.after hnew.2)
      rw [Hyq.out] at hl1
      rw [Hyq.out]
      clear hnew hown
      go_wp2_with (at_builtin; refine wp_appendB rfl _ _ rfl w.heap.size _ _ rfl hown1.out A1 c1 q y rfl hB1 Hyq.out (by omega) (Nat.le_trans hnx.size hb1.out.size) ?_; intro v2 w2 hm2 hg2 ho2)
      go_roundw
      case rel =>
        refine ⟨k + 1, by omega, by go_num, by rw [Hst.out]; exact hm2, (hnx.trans (hb1.out.mono hnx.size)).grown hg2 (Nat.le_trans hnx.size hb1.out.size) ?_⟩
        intro j hj
        exact (World.ownsRow.lt hown1.out j hj).1
      case measure => simp [intOf]; omega
    · have Hst : Hid (l.take k = l) := by show _ = _; rw [List.take_of_length_le (by rw [Hl.out]; omega)]
      have hlt' : ¬ (k : Int) < n := by omega
      rw [Hst.out] at hown
      go_wp2
      go_ret
      exact ⟨_, rfl, hown, hnx⟩

/-- Texts one behind the other. -/
def txs (ls : List (List UInt8)) : List UInt8 := (ls.map sb).flatten

theorem txs_one (l : List UInt8) : txs [l] = sb l := by unfold txs; rw [List.map_cons, List.map_nil, List.flatten_cons, List.flatten_nil, List.append_nil]

theorem txs_take {ls : List (List UInt8)} {k : Nat} (h : k < ls.length) : txs (ls.take (k + 1)) = txs (ls.take k) ++ sb ls[k] := by
  rw [List.take_succ_eq_append_getElem h]; unfold txs; rw [List.map_append, List.flatten_append]; simp

theorem sb_max (l : List UInt8) : (sb l).length ≤ 65544 := by
  show (st l).1.length ≤ _
  unfold st
  split
  · simp
  · rename_i h
    have h1 := dgs_len7 (n := l.length) (by omega)
    simp only [List.length_append, numB_length]
    omega

theorem txs_max (ls : List (List UInt8)) : (txs ls).length ≤ 65544 * ls.length := by
  induction ls with
  | nil => simp [txs]
  | cons x ls ih =>
    have h1 := sb_max x
    have h2 : txs (x :: ls) = sb x ++ txs ls := by unfold txs; rw [List.map_cons, List.flatten_cons]
    rw [h2, List.length_append, List.length_cons]; omega

set_option maxHeartbeats 800000 in
theorem texts_any (A : Option Addr) (n c : Nat) (ls : List (List UInt8)) (w : World) (h : Bss w A ls) (hl : ls.length = n) (hn : n ≤ 1000) (hs : ∀ x ∈ ls, x.length ≤ maxLen) : Calls Tryz.prog 63 #[.slice A n c] w (RetB w (txs ls)) := by
  have Hl := Lib.hid hl
  have H := Lib.hid h
  have Hs := Lib.hid hs
  clear h hl hs
  go_enter Tryz.func63, Tryz.ntmps63
  go_wp2
  go_loopw [3, 10] (fun v i wr => ∃ k : Nat, k ≤ n ∧ i = .int .i64 k ∧ Mine wr w.heap.size 5 v (txs (ls.take k)) ∧ Below w.heap.size w wr) (fun _ i _ => n - (intOf i).toNat)
  case atStart => exact ⟨0, Nat.zero_le _, rfl, World.ownsRow_nil _ _ _ _, Below.refl _ _⟩
  case round =>
    obtain ⟨k, hk, rfl, hown, hnx⟩ := hrel
    by_cases hlt : k < n
    · have hlt' : (k : Int) < n := by omega
      have hkl : k < ls.length := by rw [Hl.out]; exact hlt
      obtain ⟨b, o, Ai, ci, rfl, hb, hc, hB⟩ := H.out.at_ hkl
      have c0 : wr.cell? ⟨b, o + k, none⟩ = some (.slice Ai ls[k].length ci) := (hnx.cell (p := ⟨b, o + k, none⟩) hb).trans hc
      have Hst := Lib.hid (txs_take hkl)
      have hmx := txs_max (ls.take k)
      have hmi := sb_max ls[k]
      have hxl := Hs.out _ (List.getElem_mem hkl)
      rw [List.length_take] at hmx
      clear hc
      generalize ls[k] = x at *
      have Hbk := Lib.hid hkl
      have HB := Lib.hid (hB.after hnx)
      clear hkl hB
      have Hmi : Hid ((st x).1 = sb x) := rfl
      generalize hq : sb x = y at *
      have hmi' := hmi
      generalize hyq : y.length = q at *
      have Hyq := Lib.hid hyq
      obtain ⟨p, hp⟩ : ∃ p, x.length = p := ⟨_, rfl⟩
      rw [hp] at c0 hxl
      have Hp := Lib.hid hp
      clear hq hyq hmi hp
      go_wp2_with fail
      refine (str_any Ai ci p x _ HB.out Hp.out hxl).mono ?_
      rintro e w1 ⟨v1, rfl, hnew⟩
      rw [Hmi.out] at hnew
      obtain ⟨A1, c1, rfl, hl1, hc1, hB1⟩ := hnew.form
      have hb1 := Lib.hid hnew.2
      have hown1 := Lib.hid (hown.after hnew.2)
      rw [Hyq.out] at hl1
      rw [Hyq.out]
      clear hnew hown
      go_wp2_with (at_builtin; refine wp_appendB rfl _ _ rfl w.heap.size _ _ rfl hown1.out A1 c1 q y rfl hB1 Hyq.out (by omega) (Nat.le_trans hnx.size hb1.out.size) ?_; intro v2 w2 hm2 hg2 ho2)
      go_roundw
      case rel =>
        refine ⟨k + 1, by omega, by go_num, by rw [Hst.out]; exact hm2, (hnx.trans (hb1.out.mono hnx.size)).grown hg2 (Nat.le_trans hnx.size hb1.out.size) ?_⟩
        intro j hj
        exact (World.ownsRow.lt hown1.out j hj).1
      case measure => simp [intOf]; omega
    · have Hst : Hid (ls.take k = ls) := by show _ = _; rw [List.take_of_length_le (by rw [Hl.out]; omega)]
      have hlt' : ¬ (k : Int) < n := by omega
      rw [Hst.out] at hown
      go_wp2
      go_ret
      exact ⟨_, rfl, hown, hnx⟩

/-- One text, in a list that was made for it. -/
theorem text_any (A : Option Addr) (n c : Nat) (l : List UInt8) (w : World) (hA : Bs w A l) (hn : l.length = n) (hl : n ≤ maxLen) : Calls Tryz.prog 63 #[.slice (some ⟨w.heap.size, 0, none⟩) 1 1] (w.alloc (.cells #[.slice A n c] 22)) (RetB w (sb l)) := by
  have hb : Below w.heap.size w (w.alloc (.cells #[.slice A n c] 22)) := (Below.refl _ _).alloc (Nat.le_refl _) _
  refine (texts_any _ 1 1 [l] _ (Bss.made1 hA hn) rfl (by omega) (fun x hx => by rw [List.mem_singleton.1 hx, hn]; exact hl)).mono ?_
  rintro e w' ⟨v, rfl, h1, h2⟩
  rw [txs_one] at h1
  refine ⟨v, rfl, ?_, hb.trans (h2.mono hb.size)⟩
  obtain ⟨k1, k2 | ⟨g, cap, cur, e, k3, k4⟩⟩ := h1
  · exact ⟨k1, .inl k2⟩
  · exact ⟨k1, .inr ⟨g, cap, cur, e, Nat.le_trans hb.size k3, k4⟩⟩

end Go.Proofs.YtfaeechidjpjbaaGreat
