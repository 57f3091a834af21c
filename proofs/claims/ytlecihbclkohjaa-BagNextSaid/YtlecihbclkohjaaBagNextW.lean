/-
  For all lists l (60 deeds at most are done) and all sets s: Next tells the oldest note whose writer and reader are in the set, or -1 if there is none; BagNext returns true; no condition.
-/
import Derived.Test.YtlecihbclkohjaaOpen
import Derived.Test.YtlecihbclkohjaaPl13
namespace Go.Proofs.Ytlecihbclkohjaa.bagNext
open Go.ChangeShapes Go.WideShapes Go.ChangeAt Go.RowKit
set_option linter.unusedVariables false

set_option maxRecDepth 100000 in
set_option maxHeartbeats 3200000 in
theorem walk (Al : Option Addr) (nl cl : Nat) (l : List Int) (s : Int) (w : World) (hl : ArgI w Al nl cl l) (hs : (Lit.int .i64 s).wf = true) :
    Calls Try.prog 8 #[.slice Al nl cl, .int .i64 s] w fun e w' => e = .returned (.bool true) ∧ Below w.heap.size w w' := by
  have hnot : ∀ (x : Bool) (w : World), (Op.unary .not (.bool x)).run Try.prog w = .ok (.bool (!x)) w := fun _ _ => rfl
  have Hl := Lib.hid hl
  clear hl
  go_enter Try.func8, Try.ntmps8
  go_wp2_with fail
  refine (works_any _).mono ?_
  rintro e w1 ⟨rfl, hb1⟩
  go_wp2_with fail
  refine (played_any Al nl cl l w1 (Hl.out.after hb1)).mono ?_
  rintro e w2 ⟨g, b, A1, n1, c1, put, A2, n2, c2, taken, rfl, hP, hI⟩
  have hlenP : put.length = n1 := let ⟨_, _, _, q⟩ := hP; let ⟨_, _, q⟩ := q.p; q.len
  have hlenT : taken.length = n2 := let ⟨_, _, _, q⟩ := hP; let ⟨_, _, q⟩ := q.t; q.len
  have hn1 : n1 ≤ 60 := by have := hI.pk; omega
  have hn2 : n2 ≤ 60 := by have := hI.sum; have := hI.sk; omega
  obtain ⟨m, hm⟩ : ∃ m, b.l.length = m := ⟨_, rfl⟩
  have hm60 : m ≤ 60 := by have := hI.sum; have := hI.sk; omega
  have hse : b.sent ≤ 60 := by have := hI.sk; omega
  have hlo : b.lost ≤ 60 := by have := hI.sum; have := hI.sk; omega
  obtain ⟨N, V, W, kp⟩ := hP
  have bw := hb1.trans (kp.bk.bel.mono hb1.size)
  have HP := Lib.hid (And.intro kp (And.intro hI (And.intro hlenP (And.intro hlenT (And.intro hm (And.intro hb1 bw))))))
  clear kp hI hlenP hlenT hm hb1 bw
  obtain ⟨E, hE⟩ : ∃ E, nextB b s = E := ⟨_, rfl⟩
  have HE := Lib.hid hE
  clear hE
  go_wp2_with fail
  refine (k_next HP.out.1.bk s HE.out).mono ?_
  rintro e w3 ⟨rfl, hb3⟩
  have k3 := HP.out.1.box hb3
  have K3 := Lib.hid k3
  clear k3 hb3
  go_wp2
  go_loopw [9] (fun i wr => ∃ q : Nat, q ≤ m ∧ i = .int .i64 q ∧ (∀ z (hz : z < b.l.length), z < q → inB s b.l[z] = false) ∧ ∃ N V W, PlyIn w1 wr g b A1 n1 c1 put A2 n2 c2 taken N V W) (fun i _ => m - (intOf i).toNat)
  case atStart => exact ⟨0, by omega, rfl, fun z _ h => by omega, _, _, _, K3.out⟩
  case round =>
    obtain ⟨q, hq, rfl, hall, N', V', W', kq⟩ := hrel
    have q0 : (0 : Int) ≤ q := by omega
    have HQ := Lib.hid (And.intro kq hall)
    clear kq hall
    by_cases hlq : q < m
    · have q1 : (q : Int) < m := by omega
      have hql : q < b.l.length := by rw [HP.out.2.2.2.2.1]; exact hlq
      have hlk : lackE b q = 0 := by unfold lackE; rw [if_neg (by omega), if_neg (by omega)]
      have hlo : lookB b q = b.l[q] := by unfold lookB atB; rw [if_pos hlk, show ((q : Int)).toNat = q by omega, List.getElem?_eq_getElem hql]; rfl
      have hok := HQ.out.1.bk.ok.2.2.2 _ (List.getElem_mem hql)
      obtain ⟨y, hy⟩ : ∃ y, b.l[q] = y := ⟨_, rfl⟩
      rw [hy] at hlo hok
      have f0 : 0 ≤ y.fr := by have := nm_le hok.1; omega
      have t0 : 0 ≤ y.to := by have := nm_le hok.2.1; omega
      have HM := Lib.hid (And.intro hlk (And.intro hlo (And.intro hql hy)))
      clear hlk hlo hy hok
      cases h1 : inS s y.fr with
      | false =>
        have i1 : (bits BinOp.and IntKind.i64 (s / 2 ^ min y.fr.toNat 64) 1 == 1) = false := h1
        have Hi := Lib.hid h1
        clear h1
        go_wp2_with fail
        refine (k_len HQ.out.1.bk m HP.out.2.2.2.2.1).mono ?_; rintro e wr ⟨rfl, rfl⟩
        go_wp2_with fail
        refine (k_look HQ.out.1.bk q y HM.out.1 HM.out.2.1).mono ?_
        rintro e w4 ⟨xa, xn, xc, M, rfl, hk, hby, ho, hM⟩
        obtain ⟨w5, hw5⟩ : ∃ w5, w4.alloc (.cells #[.int .i64 y.fr, .int .i64 y.to, .slice xa xn xc] 29) = w5 := ⟨_, rfl⟩
        have hbx := box_new hk hby w5 hw5
        have k5 := (HQ.out.1.call hk (fun i hi => .inl hi) ho).box hbx.2.2.2.1
        have e0 := hbx.2.2.1.cell (i := 0) rfl
        have e1 := hbx.2.2.1.cell (i := 1) rfl
        have e2 := hbx.2.2.1.cell (i := 2) rfl
        have H5 := Lib.hid k5
        clear hk hby ho hbx k5
        go_wp2
        go_roundw
        case rel =>
          refine ⟨q + 1, by omega, by go_num, fun z hz hzq => ?_, _, _, _, H5.out⟩
          by_cases e : z = q
          · subst e; rw [HM.out.2.2.2]; unfold inB; rw [Hi.out]; rfl
          · exact HQ.out.2 z hz (by omega)
        case measure => simp [intOf]; omega
      | true =>
        have i1 : (bits BinOp.and IntKind.i64 (s / 2 ^ min y.fr.toNat 64) 1 == 1) = true := h1
        have Hi := Lib.hid h1
        clear h1
        cases h2 : inS s y.to with
        | false =>
          have i2 : (bits BinOp.and IntKind.i64 (s / 2 ^ min y.to.toNat 64) 1 == 1) = false := h2
          have Hj := Lib.hid h2
          clear h2
          go_wp2_with fail
          refine (k_len HQ.out.1.bk m HP.out.2.2.2.2.1).mono ?_; rintro e wr ⟨rfl, rfl⟩
          go_wp2_with fail
          refine (k_look HQ.out.1.bk q y HM.out.1 HM.out.2.1).mono ?_
          rintro e w4 ⟨xa, xn, xc, M, rfl, hk, hby, ho, hM⟩
          obtain ⟨w5, hw5⟩ : ∃ w5, w4.alloc (.cells #[.int .i64 y.fr, .int .i64 y.to, .slice xa xn xc] 29) = w5 := ⟨_, rfl⟩
          have hbx := box_new hk hby w5 hw5
          have k5 := (HQ.out.1.call hk (fun i hi => .inl hi) ho).box hbx.2.2.2.1
          have e0 := hbx.2.2.1.cell (i := 0) rfl
          have e1 := hbx.2.2.1.cell (i := 1) rfl
          have e2 := hbx.2.2.1.cell (i := 2) rfl
          have H5 := Lib.hid k5
          clear hk hby ho hbx k5
          go_wp2
          go_roundw
          case rel =>
            refine ⟨q + 1, by omega, by go_num, fun z hz hzq => ?_, _, _, _, H5.out⟩
            by_cases e : z = q
            · subst e; rw [HM.out.2.2.2]; unfold inB; rw [Hi.out, Hj.out]; rfl
            · exact HQ.out.2 z hz (by omega)
          case measure => simp [intOf]; omega
        | true =>
          have i2 : (bits BinOp.and IntKind.i64 (s / 2 ^ min y.to.toNat 64) 1 == 1) = true := h2
          have Hj := Lib.hid h2
          clear h2
          have hEq : (E == (q : Int)) = true := by
            rw [← HE.out]; unfold nextB
            rw [next_some HQ.out.2 HM.out.2.2.1 (by rw [HM.out.2.2.2]; unfold inB; rw [Hi.out, Hj.out]; rfl)]
            simp
          go_wp2_with fail
          refine (k_len HQ.out.1.bk m HP.out.2.2.2.2.1).mono ?_; rintro e wr ⟨rfl, rfl⟩
          go_wp2_with fail
          refine (k_look HQ.out.1.bk q y HM.out.1 HM.out.2.1).mono ?_
          rintro e w4 ⟨xa, xn, xc, M, rfl, hk, hby, ho, hM⟩
          obtain ⟨w5, hw5⟩ : ∃ w5, w4.alloc (.cells #[.int .i64 y.fr, .int .i64 y.to, .slice xa xn xc] 29) = w5 := ⟨_, rfl⟩
          have hbx := box_new hk hby w5 hw5
          have k5 := (HQ.out.1.call hk (fun i hi => .inl hi) ho).box hbx.2.2.2.1
          have e0 := hbx.2.2.1.cell (i := 0) rfl
          have e1 := hbx.2.2.1.cell (i := 1) rfl
          have e2 := hbx.2.2.1.cell (i := 2) rfl
          have H5 := Lib.hid k5
          clear hk hby ho hbx k5
          go_wp2
          go_ret
          exact ⟨rfl, HP.out.2.2.2.2.2.1.trans (H5.out.bk.bel.mono HP.out.2.2.2.2.2.1.size)⟩
    · have hqe : q = m := by omega
      subst hqe
      have q1 : ¬ (q : Int) < q := by omega
      have hEq : (E == (-1 : Int)) = true := by
        rw [← HE.out]; unfold nextB
        rw [next_none HQ.out.2 (by rw [HP.out.2.2.2.2.1]; exact Nat.le_refl _)]
        rfl
      go_wp2_with fail
      refine (k_len HQ.out.1.bk q HP.out.2.2.2.2.1).mono ?_; rintro e wr ⟨rfl, rfl⟩
      go_wp2
      go_ret
      exact ⟨rfl, HP.out.2.2.2.2.2.1.trans (HQ.out.1.bk.bel.mono HP.out.2.2.2.2.2.1.size)⟩

end Go.Proofs.Ytlecihbclkohjaa.bagNext
