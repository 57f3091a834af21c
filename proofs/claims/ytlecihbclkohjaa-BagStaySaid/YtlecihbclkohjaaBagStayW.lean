/-
  For all lists l (60 deeds at most are done), all numbers and both ways: those that stay in a bag do so in their order, whichever one goes; BagStay returns true; no condition.
-/
import Derived.Test.YtlecihbclkohjaaOpen
import Derived.Test.YtlecihbclkohjaaPl13
namespace Go.Proofs.Ytlecihbclkohjaa.bagStay
open Go.ChangeShapes Go.WideShapes Go.ChangeAt Go.RowKit
set_option linter.unusedVariables false

def wantL (l : List En) (a q : Nat) : List En := (l.take q).eraseIdx a
theorem want_skip {l : List En} {a : Nat} (h : a < l.length) : wantL l a (a + 1) = wantL l a a := by
  unfold wantL
  rw [List.take_succ_eq_append_getElem h, List.eraseIdx_append_of_length_le (by rw [List.length_take]; omega), List.length_take, Nat.min_eq_left (by omega), Nat.sub_self]
  rw [List.eraseIdx_of_length_le (l := l.take a) (by rw [List.length_take]; omega)]
  simp
theorem want_more {l : List En} {a q : Nat} (h : q < l.length) (hne : q ≠ a) : wantL l a (q + 1) = wantL l a q ++ [l[q]] := by
  unfold wantL
  rw [List.take_succ_eq_append_getElem h]
  by_cases hlt : a < q
  · rw [List.eraseIdx_append_of_lt_length (by rw [List.length_take]; omega)]
  · rw [List.eraseIdx_of_length_le (l := l.take q ++ [l[q]]) (by rw [List.length_append, List.length_take]; simp; omega), List.eraseIdx_of_length_le (l := l.take q) (by rw [List.length_take]; omega)]
theorem want_all (l : List En) (a : Nat) : wantL l a l.length = l.eraseIdx a := by
  unfold wantL
  rw [List.take_length]
theorem want_len {l : List En} {a q : Nat} (h : q ≤ l.length) : (wantL l a q).length ≤ q := by
  unfold wantL
  exact Nat.le_trans (List.length_eraseIdx_le _ _) (by rw [List.length_take]; omega)
set_option maxRecDepth 100000 in
set_option maxHeartbeats 6400000 in
theorem walk (Al : Option Addr) (nl cl : Nat) (l : List Int) (x : Int) (d : Bool) (w : World) (hl : ArgI w Al nl cl l) (hx : (Lit.int .i64 x).wf = true) :
    Calls Try.prog 6 #[.slice Al nl cl, .int .i64 x, .bool d] w fun e w' => e = .returned (.bool true) ∧ Below w.heap.size w w' := by
  have hnot : ∀ (x : Bool) (w : World), (Op.unary .not (.bool x)).run Try.prog w = .ok (.bool (!x)) w := fun _ _ => rfl
  have Hl := Lib.hid hl
  clear hl
  go_enter Try.func6, Try.ntmps6
  go_wp2_with fail
  refine (works_any _).mono ?_
  rintro e w1 ⟨rfl, hb1⟩
  go_wp2_with fail
  refine (played_any Al nl cl l w1 (Hl.out.after hb1)).mono ?_
  rintro e w2 ⟨g, b, A1, n1, c1, put, A2, n2, c2, taken, rfl, hP, hI⟩
  have hlenP : put.length = n1 := let ⟨_, _, _, q⟩ := hP; let ⟨_, _, q⟩ := q.p; q.len
  have hlenT : taken.length = n2 := let ⟨_, _, _, q⟩ := hP; let ⟨_, _, q⟩ := q.t; q.len
  have hn1 : n1 ≤ 60 := by have := hI.pk; omega
  have hn2 : n2 ≤ 60 := by have := hI.sum; have := hI.sk; omega
  obtain ⟨m, hm⟩ : ∃ m, b.l.length = m := ⟨_, rfl⟩
  have hm60 : m ≤ 60 := by have := hI.sum; have := hI.sk; omega
  have hse : b.sent ≤ 60 := by have := hI.sk; omega
  have hlo : b.lost ≤ 60 := by have := hI.sum; have := hI.sk; omega
  obtain ⟨N, V, W, kp⟩ := hP
  have bw := hb1.trans (kp.bk.bel.mono hb1.size)
  have HP := Lib.hid (And.intro kp (And.intro hI (And.intro hlenP (And.intro hlenT (And.intro hm (And.intro hb1 bw))))))
  clear kp hI hlenP hlenT hm hb1 bw
  have hwx := bounds_i64 (x := x) hx
  clear hx
  by_cases hm0 : m = 0
  · subst hm0
    go_wp2_with fail
    refine (k_len HP.out.1.bk 0 HP.out.2.2.2.2.1).mono ?_; rintro e w2 ⟨rfl, rfl⟩
    go_wp2
    go_ret
    exact ⟨rfl, HP.out.2.2.2.2.2.2⟩
  · have hm1 : (0 : Int) < m := by omega
    have hmz : ((m : Int) == 0) = false := by simp; omega
    go_wp2_with fail
    refine (k_len HP.out.1.bk m HP.out.2.2.2.2.1).mono ?_; rintro e w2 ⟨rfl, rfl⟩
    go_wp2_with fail
    refine (bringF_any x m w2 hm1 (by omega) hwx.1 hwx.2).mono ?_
    rintro e w2 ⟨rfl, rfl⟩
    have h0 := Int.emod_nonneg x (by omega : (m : Int) ≠ 0)
    have h1 := Int.emod_lt_of_pos x hm1
    obtain ⟨a, ha⟩ : ∃ a : Nat, x % m = a := ⟨(x % m).toNat, by omega⟩
    rw [ha] at h0 h1 ⊢
    clear ha hwx
    have ham : a < m := by omega
    go_wp2
    go_loopw [12, 11] (fun i p wr => ∃ (q : Nat) (A : Option Addr) (n c : Nat), q ≤ m ∧ i = .int .i64 q ∧ p = .slice A n c ∧ ∃ N V W, PlyIn w1 wr g b A n c (wantL b.l a q) none 0 0 [] N V W) (fun i _ _ => m - (intOf i).toNat)
    case atStart => exact ⟨0, none, 0, 0, by omega, rfl, rfl, N, fun _ => False, fun _ => False, HP.out.1.bk, (by rw [show wantL b.l a 0 = [] by simp [wantL]]; exact EnL.nil _), EnL.nil _, fun i h => h.elim, fun i h => h.elim, fun i h => h.elim⟩
    case round =>
      obtain ⟨q, Aw, nw, cw, hq, rfl, rfl, N', V', W', kq⟩ := hrel
      have q0 : (0 : Int) ≤ q := by omega
      have hnw : nw ≤ 60 := by
        obtain ⟨_, _, kk⟩ := kq.p
        have h1 := kk.len
        have h2 := want_len (l := b.l) (a := a) (q := q) (by rw [HP.out.2.2.2.2.1]; exact hq)
        omega
      have HQ := Lib.hid kq
      clear kq
      by_cases hlq : q < m
      · have q1 : (q : Int) < m := by omega
        have hql : q < b.l.length := by rw [HP.out.2.2.2.2.1]; exact hlq
        have hlk : lackE b q = 0 := by unfold lackE; rw [if_neg (by omega), if_neg (by omega)]
        have hlo : lookB b q = b.l[q] := by unfold lookB atB; rw [if_pos hlk, show ((q : Int)).toNat = q by omega, List.getElem?_eq_getElem hql]; rfl
        obtain ⟨y, hy⟩ : ∃ y, b.l[q] = y := ⟨_, rfl⟩
        rw [hy] at hlo
        have HM := Lib.hid (And.intro hlk (And.intro hlo (And.intro hql hy)))
        clear hlk hlo hy
        go_wp2_with fail
        refine (k_look HQ.out.bk q y HM.out.1 HM.out.2.1).mono ?_
        rintro e w4 ⟨xa, xn, xc, M, rfl, hk, hby, ho, hM⟩
        obtain ⟨w5, hw5⟩ : ∃ w5, w4.alloc (.cells #[.int .i64 y.fr, .int .i64 y.to, .slice xa xn xc] 29) = w5 := ⟨_, rfl⟩
        have hbx := box_new hk hby w5 hw5
        have k5 := (HQ.out.call hk (fun i hi => .inl hi) ho).box hbx.2.2.2.1
        have e0 := hbx.2.2.1.cell (i := 0) rfl
        have e1 := hbx.2.2.1.cell (i := 1) rfl
        have e2 := hbx.2.2.1.cell (i := 2) rfl
        by_cases hqa : q = a
        · subst hqa
          have H5 := Lib.hid k5
          clear hk hby ho hbx k5
          go_wp2
          go_roundw
          case rel => exact ⟨q + 1, Aw, nw, cw, by omega, by go_num, rfl, _, _, _, (by rw [want_skip HM.out.2.2.1]; exact H5.out)⟩
          case measure => simp [intOf]; omega
        · have hqa1 : ((q : Int) == (a : Int)) = false := by simp; omega
          have hqa2 : ((q : Int) != (a : Int)) = true := by simp; omega
          have hwm := want_more (a := a) HM.out.2.2.1 hqa
          rw [HM.out.2.2.2] at hwm
          obtain ⟨w6, hw6⟩ : ∃ w6, w5.alloc (.cells #[.int .i64 y.fr, .int .i64 y.to, .slice xa xn xc] 29) = w6 := ⟨_, rfl⟩
          have hzo := ho.size
          have hMM : ∀ i, (M i ∨ i = w4.heap.size) → ((N' i ∨ M i) ∨ (w4.heap.size ≤ i ∧ i < w5.heap.size)) ∧ ¬ V' i ∧ ¬ W' i ∧ w1.heap.size ≤ i := fun i hi => by
            have hge : wr.heap.size ≤ i := hi.elim (fun h => hM i h) fun h => by omega
            have h8 := HQ.out.bk.bel.size
            refine ⟨?_, fun e => by have h7 := HQ.out.p.lt i e; omega, fun e => by have h7 := HQ.out.t.lt i e; omega, by omega⟩
            rcases hi with h | h
            · exact .inl (.inr h)
            · exact .inr ⟨by omega, by have := hbx.2.2.2.2; omega⟩
          obtain ⟨A', c', w7, hap, hP7⟩ := k5.pushP ⟨y, xa, xn, xc⟩ hbx.2.1 hMM (by omega) w6 hw6
          have H7 := Lib.hid (And.intro hap (And.intro hP7 hwm))
          clear hap hP7 hwm k5 hk hby ho hbx hMM
          go_wp2_with (refine wpList_app rfl _ _ _ _ rfl _ _ _ _ rfl rfl H7.out.1 ?_)
          go_roundw
          case rel => exact ⟨q + 1, A', nw + 1, c', by omega, by go_num, rfl, by rw [H7.out.2.2]; exact H7.out.2.1⟩
          case measure => simp [intOf]; omega
      · have hqe : q = m := by omega
        have q1 : ¬ (q : Int) < m := by omega
        have hlk : lackE b a = 0 := by unfold lackE; rw [if_neg (by omega), if_neg (by rw [HP.out.2.2.2.2.1]; omega)]
        have hwl : wantL b.l a q = b.l.eraseIdx a := by rw [hqe, ← HP.out.2.2.2.2.1]; exact want_all _ _
        have HW := Lib.hid (And.intro hlk hwl)
        clear hlk hwl hqe
        go_wp2_with fail
        refine (k_lost HQ.out.bk _ rfl).mono ?_; rintro e wr ⟨rfl, rfl⟩
        cases d with
        | true =>
          obtain ⟨b2, hb2⟩ : ∃ b2, dropB b a = b2 := ⟨_, rfl⟩
          have e2 : b2.l = b.l.eraseIdx a ∧ b2.lost = b.lost + 1 := by
            rw [← hb2]; unfold dropB; rw [if_pos HW.out.1, show ((a : Int)).toNat = a by omega]; exact ⟨rfl, rfl⟩
          have H2 := Lib.hid (And.intro hb2 e2)
          clear hb2 e2
          go_wp2_with fail
          refine (k_drop HQ.out.bk a (by omega) HW.out.1 H2.out.1).mono ?_
          rintro e w4 ⟨rfl, hk, ho⟩
          have k4 := HQ.out.call hk (fun i hi => hi) ho
          rw [HW.out.2, ← H2.out.2.1] at k4
          have H4 := Lib.hid k4
          clear hk ho k4
          go_wp2_with fail
          refine (k_lost H4.out.bk _ H2.out.2.2).mono ?_; rintro e w4 ⟨rfl, rfl⟩
          have hnw2 : b2.l.length = nw := let ⟨_, _, kk⟩ := H4.out.p; kk.len
          have hnw3 : nw + 1 = m := by
            have h1 := H2.out.2.1
            have h2 : (b.l.eraseIdx a).length = nw := by rw [← h1]; exact hnw2
            rw [List.length_eraseIdx, if_pos (by rw [HP.out.2.2.2.2.1]; exact ham), HP.out.2.2.2.2.1] at h2
            omega
          have HB := Lib.hid (And.intro (show ∃ N V W, PlyIn w1 w4 g b2 Aw nw cw b2.l none 0 0 [] N V W from ⟨_, _, _, H4.out⟩) (And.intro hnw2 (And.intro hnw3 trivial)))
          clear hnw2 hnw3
          go_wp2
          go_loopw [18] (fun i ws => ∃ q : Nat, q ≤ nw ∧ i = .int .i64 q ∧ ∃ N V W, PlyIn w1 ws g b2 Aw nw cw b2.l none 0 0 [] N V W) (fun i _ => nw - (intOf i).toNat)
          case atStart => exact ⟨0, by omega, rfl, HB.out.1⟩
          case round =>
            obtain ⟨q, hq, rfl, N', V', W', kq⟩ := hrel
            have q0 : (0 : Int) ≤ q := by omega
            have HQ := Lib.hid kq
            clear kq
            by_cases hlq : q < nw
            · have q1 : (q : Int) < nw := by omega
              have hq2 : q < b2.l.length := by rw [HB.out.2.1]; exact hlq
              have hlk : lackE b2 q = 0 := by unfold lackE; rw [if_neg (by omega), if_neg (by omega)]
              have hlo : lookB b2 q = b2.l[q] := by unfold lookB atB; rw [if_pos hlk, show ((q : Int)).toNat = q by omega, List.getElem?_eq_getElem hq2]; rfl
              obtain ⟨y, hy⟩ : ∃ y, b2.l[q] = y := ⟨_, rfl⟩
              rw [hy] at hlo
              have HM := Lib.hid (And.intro hlk (And.intro hlo hy))
              clear hlk hlo hy
              go_wp2_with fail
              refine (k_look HQ.out.bk q y HM.out.1 HM.out.2.1).mono ?_
              rintro e w4 ⟨xa, xn, xc, M, rfl, hk, hby, ho, hM⟩
              obtain ⟨w5, hw5⟩ : ∃ w5, w4.alloc (.cells #[.int .i64 y.fr, .int .i64 y.to, .slice xa xn xc] 29) = w5 := ⟨_, rfl⟩
              have hbx := box_new hk hby w5 hw5
              have k5 := (HQ.out.call hk (fun i hi => .inl hi) ho).box hbx.2.2.2.1
              obtain ⟨hs, K, kt⟩ := k5.p
              have hql : q < hs.length := by have := kt.len; rw [← kt.xs, List.length_map] at this; omega
              obtain ⟨r, rfl, hrr, c0, c1, c2⟩ := kt.at_ hql
              have hzx : hs[q].x = y := by have h1 := HM.out.2.2; simp only [← kt.xs, List.getElem_map] at h1; exact h1
              have hsm := same_any ⟨y, xa, xn, xc⟩ hs[q] (hbx.2.1.out (w' := w5.drew) (S := fun _ => False) (Out.ofBelow _ ((Below.refl _ _).drew)) fun _ _ h => h) ((kt.bys _ (List.getElem_mem hql)).out (w' := w5.drew) (S := fun _ => False) (Out.ofBelow _ ((Below.refl _ _).drew)) fun _ _ h => h) true (decide_eq_true hzx.symm)
              dsimp only at hsm
              obtain ⟨z, hz⟩ : ∃ z, hs[q] = z := ⟨_, rfl⟩
              rw [hz] at hsm c0 c1 c2
              have Hz := Lib.hid hz
              have s1 : w5.drew.cell? ⟨w4.heap.size, 0, none⟩ = some (.int .i64 y.fr) ∧ w5.drew.cell? ⟨w4.heap.size, 1, none⟩ = some (.int .i64 y.to) ∧ w5.drew.cell? ⟨w4.heap.size, 2, none⟩ = some (.slice xa xn xc) ∧ w5.drew.cell? ⟨r, q * 3, none⟩ = some (.int .i64 z.x.fr) ∧ w5.drew.cell? ⟨r, q * 3 + 1, none⟩ = some (.int .i64 z.x.to) ∧ w5.drew.cell? ⟨r, q * 3 + 2, none⟩ = some (.slice z.a z.n z.c) := ⟨hbx.2.2.1.cell rfl, hbx.2.2.1.cell rfl, hbx.2.2.1.cell rfl, c0, c1, c2⟩
              have HR := Lib.hid (And.intro k5 (And.intro hbx.2.2.1 (And.intro hsm kt)))
              have Hw5 := Lib.hid hw5
              clear hk hby ho hbx k5 hsm c0 c1 c2 hz hzx hw5 kt
              go_wp2
              refine wp_region_held_drew (S := fun W => W.cell? ⟨w4.heap.size, 0, none⟩ = some (.int .i64 y.fr) ∧ W.cell? ⟨w4.heap.size, 1, none⟩ = some (.int .i64 y.to) ∧ W.cell? ⟨w4.heap.size, 2, none⟩ = some (.slice xa xn xc) ∧ W.cell? ⟨r, q * 3, none⟩ = some (.int .i64 z.x.fr) ∧ W.cell? ⟨r, q * 3 + 1, none⟩ = some (.int .i64 z.x.to) ∧ W.cell? ⟨r, q * 3 + 2, none⟩ = some (.slice z.a z.n z.c)) (by kernel_rfl) (by rw [Hw5.out]; exact s1) (fun _ => ?_)
              rw [Hw5.out]
              refine anyH_take (i := 0) (d := 94) (v := ?p0) rfl rfl (by kernel_rfl) (by kernel_rfl) (by kernel_rfl) (fun _ _ _ h => h) (Or.inl ⟨by rfl, ?py0⟩) s1 ?pr0
              case py0 => (intro w; go_simp; try with_reducible rfl)
              simp only [List.setIfInBounds_toArray, List.set_cons_zero, List.set_cons_succ]
              refine anyH_take (i := 1) (d := 95) (v := ?p1) rfl rfl (by kernel_rfl) (by kernel_rfl) (by kernel_rfl) (fun _ _ _ h => h) (Or.inl ⟨by rfl, ?py1⟩) s1 ?pr1
              case py1 => (intro w; go_simp; try with_reducible rfl)
              simp only [List.setIfInBounds_toArray, List.set_cons_zero, List.set_cons_succ]
              refine anyH_take (i := 2) (d := 96) (v := ?p2) rfl rfl (by kernel_rfl) (by kernel_rfl) (by kernel_rfl) (fun _ _ _ h => h) (Or.inl ⟨by rfl, ?py2⟩) s1 ?pr2
              case py2 => (intro w; go_simp; try with_reducible rfl)
              simp only [List.setIfInBounds_toArray, List.set_cons_zero, List.set_cons_succ]
              refine wpAnyH_take' (i := 3) (d := 97) (v := ?p3) rfl rfl (by kernel_rfl) (by kernel_rfl) (by kernel_rfl) (fun _ _ _ h => h) (Or.inl ⟨by rfl, ?py3⟩) s1 ?pr3
              case py3 => (intro w hSw; go_split_ands; go_simp; try with_reducible rfl)
              simp only [List.setIfInBounds_toArray, List.set_cons_zero, List.set_cons_succ]
              refine anyH_take (i := 4) (d := 98) (v := ?p4) rfl rfl (by kernel_rfl) (by kernel_rfl) (by kernel_rfl) (fun _ _ _ h => h) (Or.inl ⟨by rfl, ?py4⟩) s1 ?pr4
              case py4 => (intro w; go_simp; try with_reducible rfl)
              simp only [List.setIfInBounds_toArray, List.set_cons_zero, List.set_cons_succ]
              refine anyH_take (i := 5) (d := 99) (v := ?p5) rfl rfl (by kernel_rfl) (by kernel_rfl) (by kernel_rfl) (fun _ _ _ h => h) (Or.inl ⟨by rfl, ?py5⟩) s1 ?pr5
              case py5 => (intro w; go_simp; try with_reducible rfl)
              simp only [List.setIfInBounds_toArray, List.set_cons_zero, List.set_cons_succ]
              refine anyH_take (i := 6) (d := 100) (v := ?p6) rfl rfl (by kernel_rfl) (by kernel_rfl) (by kernel_rfl) (fun _ _ _ h => h) (Or.inl ⟨by rfl, ?py6⟩) s1 ?pr6
              case py6 => (intro w; go_simp; try with_reducible rfl)
              simp only [List.setIfInBounds_toArray, List.set_cons_zero, List.set_cons_succ]
              refine wpAnyH_take' (i := 7) (d := 101) (v := ?p7) rfl rfl (by kernel_rfl) (by kernel_rfl) (by kernel_rfl) (fun _ _ _ h => h) (Or.inl ⟨by rfl, ?py7⟩) s1 ?pr7
              case py7 => (intro w hSw; go_split_ands; go_simp; try with_reducible rfl)
              simp only [List.setIfInBounds_toArray, List.set_cons_zero, List.set_cons_succ]
              refine anyH_one (i := 8) (by kernel_rfl) ?_
              refine wpOp_step rfl (fun K hK => ?_)
              go_simp
              refine HR.out.2.2.1.mono ?_
              rintro e w6 ⟨rfl, hb6⟩
              have b56 : Below w5.heap.size w5 w6 := (Below.refl _ _).drew.trans hb6
              have B6 := HR.out.2.1.below b56 HR.out.2.1.lt
              have k6 := HR.out.1.box b56
              have kt6 := HR.out.2.2.2.out (S := fun i => w5.heap.size ≤ i) (Out.ofBelow _ b56) fun i hi e => by have := HR.out.2.2.2.lt i hi; omega
              obtain ⟨r', er, _, c0, c1, c2⟩ := kt6.at_ hql
              obtain rfl : r = r' := by injection er with er; injection er
              rw [Hz.out] at c0 c1 c2
              have s6 : w6.cell? ⟨w4.heap.size, 0, none⟩ = some (.int .i64 y.fr) ∧ w6.cell? ⟨w4.heap.size, 1, none⟩ = some (.int .i64 y.to) ∧ w6.cell? ⟨w4.heap.size, 2, none⟩ = some (.slice xa xn xc) ∧ w6.cell? ⟨r, q * 3, none⟩ = some (.int .i64 z.x.fr) ∧ w6.cell? ⟨r, q * 3 + 1, none⟩ = some (.int .i64 z.x.to) ∧ w6.cell? ⟨r, q * 3 + 2, none⟩ = some (.slice z.a z.n z.c) := ⟨B6.cell rfl, B6.cell rfl, B6.cell rfl, c0, c1, c2⟩
              have H6 := Lib.hid k6
              clear b56 B6 hb6 kt6 er c0 c1 c2 k6
              refine hK _ _ ⟨s6, ?_⟩
              clear hK K
              refine anyH_take (i := 9) (d := 103) (v := ?px9) rfl rfl (by kernel_rfl) (by kernel_rfl) (by kernel_rfl) (fun _ _ _ h => h) (Or.inl ⟨by rfl, ?pxy9⟩) s6 ?pxr9
              case pxy9 => (intro w; go_simp; try with_reducible rfl)
              simp only [List.setIfInBounds_toArray, List.set_cons_zero, List.set_cons_succ]
              refine anyH_take (i := 10) (d := 104) (v := ?px10) rfl rfl (by kernel_rfl) (by kernel_rfl) (by kernel_rfl) (fun _ _ _ h => h) (Or.inl ⟨by rfl, ?pxy10⟩) s6 ?pxr10
              case pxy10 => (intro w; go_simp; try with_reducible rfl)
              simp only [List.setIfInBounds_toArray, List.set_cons_zero, List.set_cons_succ]
              refine wpAnyH_done (by kernel_rfl) ?_ _
              go_wp2
              go_roundw
              case rel => exact ⟨q + 1, by omega, by go_num, _, _, _, H6.out⟩
              case measure => simp [intOf]; omega
            · have hqe : q = nw := by omega
              have q1 : ¬ (q : Int) < nw := by omega
              have hnm : ((nw : Int) == (m : Int) - 1) = true := by have := HB.out.2.2.1; simp; omega
              go_wp2_with fail
              refine (k_len HQ.out.bk nw HB.out.2.1).mono ?_; rintro e ws ⟨rfl, rfl⟩
              go_wp2
              go_ret
              exact ⟨rfl, HP.out.2.2.2.2.2.1.trans (HQ.out.bk.bel.mono HP.out.2.2.2.2.2.1.size)⟩
        | false =>
          obtain ⟨b2, hb2⟩ : ∃ b2, takeB b a = b2 := ⟨_, rfl⟩
          have e2 : b2.l = b.l.eraseIdx a ∧ b2.lost = b.lost := by
            rw [← hb2]; unfold takeB; rw [if_pos HW.out.1, show ((a : Int)).toNat = a by omega]; exact ⟨rfl, rfl⟩
          have H2 := Lib.hid (And.intro hb2 e2)
          clear hb2 e2
          obtain ⟨yy, hyy⟩ : ∃ yy, lookB b a = yy := ⟨_, rfl⟩
          go_wp2_with fail
          refine (k_take HQ.out.bk a yy HW.out.1 hyy H2.out.1).mono ?_
          rintro e w3 ⟨ya, yn, yc, M0, rfl, hk, hby, ho, hM⟩
          have k3 := HQ.out.call hk (fun i hi => .inl hi) ho
          rw [HW.out.2, ← H2.out.2.1] at k3
          obtain ⟨w4, hw4⟩ : ∃ w4, w3.alloc (.cells #[.int .i64 yy.fr, .int .i64 yy.to, .slice ya yn yc] 29) = w4 := ⟨_, rfl⟩
          have hbx := box_new hk hby w4 hw4
          have k4 := k3.box hbx.2.2.2.1
          have H4 := Lib.hid k4
          clear hk hby ho hbx k3 k4 hyy
          go_wp2_with fail
          refine (k_lost H4.out.bk _ H2.out.2.2).mono ?_; rintro e w4 ⟨rfl, rfl⟩
          have hnw2 : b2.l.length = nw := let ⟨_, _, kk⟩ := H4.out.p; kk.len
          have hnw3 : nw + 1 = m := by
            have h1 := H2.out.2.1
            have h2 : (b.l.eraseIdx a).length = nw := by rw [← h1]; exact hnw2
            rw [List.length_eraseIdx, if_pos (by rw [HP.out.2.2.2.2.1]; exact ham), HP.out.2.2.2.2.1] at h2
            omega
          have HB := Lib.hid (And.intro (show ∃ N V W, PlyIn w1 w4 g b2 Aw nw cw b2.l none 0 0 [] N V W from ⟨_, _, _, H4.out⟩) (And.intro hnw2 (And.intro hnw3 trivial)))
          clear hnw2 hnw3
          go_wp2
          go_loopw [18] (fun i ws => ∃ q : Nat, q ≤ nw ∧ i = .int .i64 q ∧ ∃ N V W, PlyIn w1 ws g b2 Aw nw cw b2.l none 0 0 [] N V W) (fun i _ => nw - (intOf i).toNat)
          case atStart => exact ⟨0, by omega, rfl, HB.out.1⟩
          case round =>
            obtain ⟨q, hq, rfl, N', V', W', kq⟩ := hrel
            have q0 : (0 : Int) ≤ q := by omega
            have HQ := Lib.hid kq
            clear kq
            by_cases hlq : q < nw
            · have q1 : (q : Int) < nw := by omega
              have hq2 : q < b2.l.length := by rw [HB.out.2.1]; exact hlq
              have hlk : lackE b2 q = 0 := by unfold lackE; rw [if_neg (by omega), if_neg (by omega)]
              have hlo : lookB b2 q = b2.l[q] := by unfold lookB atB; rw [if_pos hlk, show ((q : Int)).toNat = q by omega, List.getElem?_eq_getElem hq2]; rfl
              obtain ⟨y, hy⟩ : ∃ y, b2.l[q] = y := ⟨_, rfl⟩
              rw [hy] at hlo
              have HM := Lib.hid (And.intro hlk (And.intro hlo hy))
              clear hlk hlo hy
              go_wp2_with fail
              refine (k_look HQ.out.bk q y HM.out.1 HM.out.2.1).mono ?_
              rintro e w4 ⟨xa, xn, xc, M, rfl, hk, hby, ho, hM⟩
              obtain ⟨w5, hw5⟩ : ∃ w5, w4.alloc (.cells #[.int .i64 y.fr, .int .i64 y.to, .slice xa xn xc] 29) = w5 := ⟨_, rfl⟩
              have hbx := box_new hk hby w5 hw5
              have k5 := (HQ.out.call hk (fun i hi => .inl hi) ho).box hbx.2.2.2.1
              obtain ⟨hs, K, kt⟩ := k5.p
              have hql : q < hs.length := by have := kt.len; rw [← kt.xs, List.length_map] at this; omega
              obtain ⟨r, rfl, hrr, c0, c1, c2⟩ := kt.at_ hql
              have hzx : hs[q].x = y := by have h1 := HM.out.2.2; simp only [← kt.xs, List.getElem_map] at h1; exact h1
              have hsm := same_any ⟨y, xa, xn, xc⟩ hs[q] (hbx.2.1.out (w' := w5.drew) (S := fun _ => False) (Out.ofBelow _ ((Below.refl _ _).drew)) fun _ _ h => h) ((kt.bys _ (List.getElem_mem hql)).out (w' := w5.drew) (S := fun _ => False) (Out.ofBelow _ ((Below.refl _ _).drew)) fun _ _ h => h) true (decide_eq_true hzx.symm)
              dsimp only at hsm
              obtain ⟨z, hz⟩ : ∃ z, hs[q] = z := ⟨_, rfl⟩
              rw [hz] at hsm c0 c1 c2
              have Hz := Lib.hid hz
              have s1 : w5.drew.cell? ⟨w4.heap.size, 0, none⟩ = some (.int .i64 y.fr) ∧ w5.drew.cell? ⟨w4.heap.size, 1, none⟩ = some (.int .i64 y.to) ∧ w5.drew.cell? ⟨w4.heap.size, 2, none⟩ = some (.slice xa xn xc) ∧ w5.drew.cell? ⟨r, q * 3, none⟩ = some (.int .i64 z.x.fr) ∧ w5.drew.cell? ⟨r, q * 3 + 1, none⟩ = some (.int .i64 z.x.to) ∧ w5.drew.cell? ⟨r, q * 3 + 2, none⟩ = some (.slice z.a z.n z.c) := ⟨hbx.2.2.1.cell rfl, hbx.2.2.1.cell rfl, hbx.2.2.1.cell rfl, c0, c1, c2⟩
              have HR := Lib.hid (And.intro k5 (And.intro hbx.2.2.1 (And.intro hsm kt)))
              have Hw5 := Lib.hid hw5
              clear hk hby ho hbx k5 hsm c0 c1 c2 hz hzx hw5 kt
              go_wp2
              refine wp_region_held_drew (S := fun W => W.cell? ⟨w4.heap.size, 0, none⟩ = some (.int .i64 y.fr) ∧ W.cell? ⟨w4.heap.size, 1, none⟩ = some (.int .i64 y.to) ∧ W.cell? ⟨w4.heap.size, 2, none⟩ = some (.slice xa xn xc) ∧ W.cell? ⟨r, q * 3, none⟩ = some (.int .i64 z.x.fr) ∧ W.cell? ⟨r, q * 3 + 1, none⟩ = some (.int .i64 z.x.to) ∧ W.cell? ⟨r, q * 3 + 2, none⟩ = some (.slice z.a z.n z.c)) (by kernel_rfl) (by rw [Hw5.out]; exact s1) (fun _ => ?_)
              rw [Hw5.out]
              refine anyH_take (i := 0) (d := 94) (v := ?t0) rfl rfl (by kernel_rfl) (by kernel_rfl) (by kernel_rfl) (fun _ _ _ h => h) (Or.inl ⟨by rfl, ?ty0⟩) s1 ?tr0
              case ty0 => (intro w; go_simp; try with_reducible rfl)
              simp only [List.setIfInBounds_toArray, List.set_cons_zero, List.set_cons_succ]
              refine anyH_take (i := 1) (d := 95) (v := ?t1) rfl rfl (by kernel_rfl) (by kernel_rfl) (by kernel_rfl) (fun _ _ _ h => h) (Or.inl ⟨by rfl, ?ty1⟩) s1 ?tr1
              case ty1 => (intro w; go_simp; try with_reducible rfl)
              simp only [List.setIfInBounds_toArray, List.set_cons_zero, List.set_cons_succ]
              refine anyH_take (i := 2) (d := 96) (v := ?t2) rfl rfl (by kernel_rfl) (by kernel_rfl) (by kernel_rfl) (fun _ _ _ h => h) (Or.inl ⟨by rfl, ?ty2⟩) s1 ?tr2
              case ty2 => (intro w; go_simp; try with_reducible rfl)
              simp only [List.setIfInBounds_toArray, List.set_cons_zero, List.set_cons_succ]
              refine wpAnyH_take' (i := 3) (d := 97) (v := ?t3) rfl rfl (by kernel_rfl) (by kernel_rfl) (by kernel_rfl) (fun _ _ _ h => h) (Or.inl ⟨by rfl, ?ty3⟩) s1 ?tr3
              case ty3 => (intro w hSw; go_split_ands; go_simp; try with_reducible rfl)
              simp only [List.setIfInBounds_toArray, List.set_cons_zero, List.set_cons_succ]
              refine anyH_take (i := 4) (d := 98) (v := ?t4) rfl rfl (by kernel_rfl) (by kernel_rfl) (by kernel_rfl) (fun _ _ _ h => h) (Or.inl ⟨by rfl, ?ty4⟩) s1 ?tr4
              case ty4 => (intro w; go_simp; try with_reducible rfl)
              simp only [List.setIfInBounds_toArray, List.set_cons_zero, List.set_cons_succ]
              refine anyH_take (i := 5) (d := 99) (v := ?t5) rfl rfl (by kernel_rfl) (by kernel_rfl) (by kernel_rfl) (fun _ _ _ h => h) (Or.inl ⟨by rfl, ?ty5⟩) s1 ?tr5
              case ty5 => (intro w; go_simp; try with_reducible rfl)
              simp only [List.setIfInBounds_toArray, List.set_cons_zero, List.set_cons_succ]
              refine anyH_take (i := 6) (d := 100) (v := ?t6) rfl rfl (by kernel_rfl) (by kernel_rfl) (by kernel_rfl) (fun _ _ _ h => h) (Or.inl ⟨by rfl, ?ty6⟩) s1 ?tr6
              case ty6 => (intro w; go_simp; try with_reducible rfl)
              simp only [List.setIfInBounds_toArray, List.set_cons_zero, List.set_cons_succ]
              refine wpAnyH_take' (i := 7) (d := 101) (v := ?t7) rfl rfl (by kernel_rfl) (by kernel_rfl) (by kernel_rfl) (fun _ _ _ h => h) (Or.inl ⟨by rfl, ?ty7⟩) s1 ?tr7
              case ty7 => (intro w hSw; go_split_ands; go_simp; try with_reducible rfl)
              simp only [List.setIfInBounds_toArray, List.set_cons_zero, List.set_cons_succ]
              refine anyH_one (i := 8) (by kernel_rfl) ?_
              refine wpOp_step rfl (fun K hK => ?_)
              go_simp
              refine HR.out.2.2.1.mono ?_
              rintro e w6 ⟨rfl, hb6⟩
              have b56 : Below w5.heap.size w5 w6 := (Below.refl _ _).drew.trans hb6
              have B6 := HR.out.2.1.below b56 HR.out.2.1.lt
              have k6 := HR.out.1.box b56
              have kt6 := HR.out.2.2.2.out (S := fun i => w5.heap.size ≤ i) (Out.ofBelow _ b56) fun i hi e => by have := HR.out.2.2.2.lt i hi; omega
              obtain ⟨r', er, _, c0, c1, c2⟩ := kt6.at_ hql
              obtain rfl : r = r' := by injection er with er; injection er
              rw [Hz.out] at c0 c1 c2
              have s6 : w6.cell? ⟨w4.heap.size, 0, none⟩ = some (.int .i64 y.fr) ∧ w6.cell? ⟨w4.heap.size, 1, none⟩ = some (.int .i64 y.to) ∧ w6.cell? ⟨w4.heap.size, 2, none⟩ = some (.slice xa xn xc) ∧ w6.cell? ⟨r, q * 3, none⟩ = some (.int .i64 z.x.fr) ∧ w6.cell? ⟨r, q * 3 + 1, none⟩ = some (.int .i64 z.x.to) ∧ w6.cell? ⟨r, q * 3 + 2, none⟩ = some (.slice z.a z.n z.c) := ⟨B6.cell rfl, B6.cell rfl, B6.cell rfl, c0, c1, c2⟩
              have H6 := Lib.hid k6
              clear b56 B6 hb6 kt6 er c0 c1 c2 k6
              refine hK _ _ ⟨s6, ?_⟩
              clear hK K
              refine anyH_take (i := 9) (d := 103) (v := ?tx9) rfl rfl (by kernel_rfl) (by kernel_rfl) (by kernel_rfl) (fun _ _ _ h => h) (Or.inl ⟨by rfl, ?txy9⟩) s6 ?txr9
              case txy9 => (intro w; go_simp; try with_reducible rfl)
              simp only [List.setIfInBounds_toArray, List.set_cons_zero, List.set_cons_succ]
              refine anyH_take (i := 10) (d := 104) (v := ?tx10) rfl rfl (by kernel_rfl) (by kernel_rfl) (by kernel_rfl) (fun _ _ _ h => h) (Or.inl ⟨by rfl, ?txy10⟩) s6 ?txr10
              case txy10 => (intro w; go_simp; try with_reducible rfl)
              simp only [List.setIfInBounds_toArray, List.set_cons_zero, List.set_cons_succ]
              refine wpAnyH_done (by kernel_rfl) ?_ _
              go_wp2
              go_roundw
              case rel => exact ⟨q + 1, by omega, by go_num, _, _, _, H6.out⟩
              case measure => simp [intOf]; omega
            · have hqe : q = nw := by omega
              have q1 : ¬ (q : Int) < nw := by omega
              have hnm : ((nw : Int) == (m : Int) - 1) = true := by have := HB.out.2.2.1; simp; omega
              go_wp2_with fail
              refine (k_len HQ.out.bk nw HB.out.2.1).mono ?_; rintro e ws ⟨rfl, rfl⟩
              go_wp2
              go_ret
              exact ⟨rfl, HP.out.2.2.2.2.2.1.trans (HQ.out.bk.bel.mono HP.out.2.2.2.2.2.1.size)⟩

end Go.Proofs.Ytlecihbclkohjaa.bagStay
