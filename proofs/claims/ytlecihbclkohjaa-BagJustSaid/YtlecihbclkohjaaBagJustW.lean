/-
  For all lists l (60 deeds at most are done): what is taken from a bag, or there, was put, as it was, and Sent less Lost is how many were taken and how many there are; BagJust returns true; no condition.
-/
import Derived.Test.YtlecihbclkohjaaOpen
import Derived.Test.YtlecihbclkohjaaPl13
namespace Go.Proofs.Ytlecihbclkohjaa.bagJust
open Go.ChangeShapes Go.WideShapes Go.ChangeAt Go.RowKit
set_option linter.unusedVariables false

set_option maxRecDepth 100000 in
set_option maxHeartbeats 3200000 in
theorem walk (Al : Option Addr) (nl cl : Nat) (l : List Int) (w : World) (hl : ArgI w Al nl cl l) :
    Calls Try.prog 4 #[.slice Al nl cl] w fun e w' => e = .returned (.bool true) ∧ Below w.heap.size w w' := by
  have hnot : ∀ (x : Bool) (w : World), (Op.unary .not (.bool x)).run Try.prog w = .ok (.bool (!x)) w := fun _ _ => rfl
  have Hl := Lib.hid hl
  clear hl
  go_enter Try.func4, Try.ntmps4
  go_wp2_with fail
  refine (works_any _).mono ?_
  rintro e w1 ⟨rfl, hb1⟩
  go_wp2_with fail
  refine (played_any Al nl cl l w1 (Hl.out.after hb1)).mono ?_
  rintro e w2 ⟨g, b, A1, n1, c1, put, A2, n2, c2, taken, rfl, hP, hI⟩
  have hlenP : put.length = n1 := let ⟨_, _, _, q⟩ := hP; let ⟨_, _, q⟩ := q.p; q.len
  have hlenT : taken.length = n2 := let ⟨_, _, _, q⟩ := hP; let ⟨_, _, q⟩ := q.t; q.len
  have hn1 : n1 ≤ 60 := by have := hI.pk; omega
  have hn2 : n2 ≤ 60 := by have := hI.sum; have := hI.sk; omega
  obtain ⟨m, hm⟩ : ∃ m, b.l.length = m := ⟨_, rfl⟩
  have hm60 : m ≤ 60 := by have := hI.sum; have := hI.sk; omega
  have hse : b.sent ≤ 60 := by have := hI.sk; omega
  have hlo : b.lost ≤ 60 := by have := hI.sum; have := hI.sk; omega
  obtain ⟨N, V, W, kp⟩ := hP
  have bw := hb1.trans (kp.bk.bel.mono hb1.size)
  have HP := Lib.hid (And.intro kp (And.intro hI (And.intro hlenP (And.intro hlenT (And.intro hm (And.intro hb1 bw))))))
  clear kp hI hlenP hlenT hm hb1 bw
  go_wp2
  go_loopw [6] (fun i wr => ∃ j : Nat, j ≤ n2 ∧ i = .int .i64 j ∧ Below w2.heap.size w2 wr) (fun i _ => n2 - (intOf i).toNat)
  case atStart => exact ⟨0, by omega, rfl, Below.refl _ _⟩
  case round =>
    obtain ⟨j, hj, rfl, hb⟩ := hrel
    have j0 : (0 : Int) ≤ j := by omega
    have Hb := Lib.hid hb
    have kr := (HP.out.1.box hb)
    clear hb
    by_cases hlt : j < n2
    · have j1 : (j : Int) < n2 := by omega
      obtain ⟨hs, K, kt⟩ := kr.t
      have hjl : j < hs.length := by have := kt.len; rw [← kt.xs, List.length_map] at this; omega
      obtain ⟨r, rfl, hrr, c0, c1, c2⟩ := kt.at_ hjl
      have hmem : hs[j].x ∈ put := HP.out.2.1.tk _ (by rw [← kt.xs]; exact List.mem_map_of_mem (List.getElem_mem hjl))
      have hhas := has_any kr.p hs[j] (kt.bys _ (List.getElem_mem hjl)) (by omega) true (decide_eq_true hmem)
      obtain ⟨y, hy⟩ : ∃ y, hs[j] = y := ⟨_, rfl⟩
      rw [hy] at c0 c1 c2 hhas
      have HH := Lib.hid hhas
      clear hhas kt kr hy hmem
      go_wp2_with fail
      refine HH.out.mono ?_
      rintro e w3 ⟨rfl, hb3⟩
      have Hb3 := Lib.hid (Hb.out.trans (hb3.mono Hb.out.size))
      clear hb3
      go_wp2
      go_roundw
      case rel => exact ⟨j + 1, by omega, by go_num, Hb3.out⟩
      case measure => simp [intOf]; omega
    · have hje : j = n2 := by omega
      subst hje
      have j1 : ¬ (j : Int) < j := by omega
      clear kr
      go_wp2
      go_loopw [7] (fun i ws => ∃ q : Nat, q ≤ m ∧ i = .int .i64 q ∧ ∃ N V W, PlyIn w1 ws g b A1 n1 c1 put A2 j c2 taken N V W) (fun i _ => m - (intOf i).toNat)
      case atStart => exact ⟨0, by omega, rfl, _, _, _, HP.out.1.box Hb.out⟩
      case round =>
        obtain ⟨q, hq, rfl, N', V', W', kq⟩ := hrel
        have q0 : (0 : Int) ≤ q := by omega
        have HQ := Lib.hid kq
        clear kq
        by_cases hlq : q < m
        · have q1 : (q : Int) < m := by omega
          have hlk : lackE b q = 0 := by unfold lackE; rw [if_neg (by omega), if_neg (by rw [HP.out.2.2.2.2.1]; omega)]
          have hmem : lookB b q ∈ put := by unfold lookB; rw [if_pos hlk]; exact HP.out.2.1.th _ (at_mem hlk)
          obtain ⟨y, hy⟩ : ∃ y, lookB b q = y := ⟨_, rfl⟩
          rw [hy] at hmem
          have HM := Lib.hid (And.intro hlk (And.intro hy hmem))
          clear hlk hy hmem
          go_wp2_with fail
          refine (k_len HQ.out.bk m HP.out.2.2.2.2.1).mono ?_; rintro e ws ⟨rfl, rfl⟩
          go_wp2_with fail
          refine (k_look HQ.out.bk q y HM.out.1 HM.out.2.1).mono ?_
          rintro e w4 ⟨xa, xn, xc, M, rfl, hk, hby, ho, hM⟩
          obtain ⟨w5, hw5⟩ : ∃ w5, w4.alloc (.cells #[.int .i64 y.fr, .int .i64 y.to, .slice xa xn xc] 29) = w5 := ⟨_, rfl⟩
          have hbx := box_new hk hby w5 hw5
          have k5 := (HQ.out.call hk (fun i hi => .inl hi) ho).box hbx.2.2.2.1
          have e0 := hbx.2.2.1.cell (i := 0) rfl
          have e1 := hbx.2.2.1.cell (i := 1) rfl
          have e2 := hbx.2.2.1.cell (i := 2) rfl
          have hhas := has_any k5.p ⟨y, xa, xn, xc⟩ hbx.2.1 (by omega) true (decide_eq_true HM.out.2.2)
          have H5 := Lib.hid (And.intro k5 hhas)
          clear hk hby ho hbx k5 hhas
          go_wp2_with fail
          refine H5.out.2.mono ?_
          rintro e w6 ⟨rfl, hb6⟩
          have H6 := Lib.hid (H5.out.1.box hb6)
          clear hb6
          go_wp2
          go_roundw
          case rel => exact ⟨q + 1, by omega, by go_num, _, _, _, H6.out⟩
          case measure => simp [intOf]; omega
        · have hqe : q = m := by omega
          subst hqe
          have q1 : ¬ (q : Int) < q := by omega
          have hsum : ((b.sent : Int) - (b.lost : Int) == (j : Int) + (q : Int)) = true := by
            have := HP.out.2.1.sum; have := HP.out.2.2.2.1; have := HP.out.2.2.2.2.1; simp; omega
          go_wp2_with fail
          refine (k_len HQ.out.bk q HP.out.2.2.2.2.1).mono ?_; rintro e ws ⟨rfl, rfl⟩
          go_wp2_with fail
          refine (k_sent HQ.out.bk _ rfl).mono ?_; rintro e ws ⟨rfl, rfl⟩
          go_wp2_with fail
          refine (k_lost HQ.out.bk _ rfl).mono ?_; rintro e ws ⟨rfl, rfl⟩
          go_wp2_with fail
          refine (k_len HQ.out.bk q HP.out.2.2.2.2.1).mono ?_; rintro e ws ⟨rfl, rfl⟩
          go_wp2
          go_ret
          exact ⟨rfl, HP.out.2.2.2.2.2.1.trans (HQ.out.bk.bel.mono HP.out.2.2.2.2.2.1.size)⟩

end Go.Proofs.Ytlecihbclkohjaa.bagJust
