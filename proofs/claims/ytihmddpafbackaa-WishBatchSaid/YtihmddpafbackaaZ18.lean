/-
  Laid together for a hand-in: Re11, Rp11.
-/
import Derived.Test.YtihmddpafbackaaZ04
import Derived.Test.YtihmddpafbackaaZ17
import Derived.Test.YtihmddpafbackaaZ06
import Derived.Deep.DeepCutAuto

namespace Go.Proofs.Ytihmddpafbackaa

open Go.RowKit

set_option linter.unusedVariables false

set_option linter.unusedSimpArgs false

theorem Bn.mine {B0 base n c : Nat} {w : World} {A : Option Addr} {l : List UInt8} (h : Mine w base 5 (.slice A n c) l) : Bn B0 w A l := by
  obtain ⟨A', c', e, _, _, h3⟩ := Mine.form h
  injection e with e1 _ _
  subst e1
  refine ⟨h3, fun a ha hne => ?_⟩
  obtain ⟨_, ⟨h1, h2⟩ | ⟨g, cap, cur, h1, _, h2, _⟩⟩ := h
  · injection h1 with h1 _ _
    rw [h1] at ha
    cases ha
  · injection h1 with h1 _ _
    rw [h1] at ha
    injection ha with ha
    subst ha
    exact .inr ⟨cur, _, h2⟩

theorem tk_rest (l : List UInt8) : (tk l).2.1.length ≤ l.length ∧ ((tk l).2.2 ≠ 0 → (tk l).1 = 0) := by
  unfold tk
  split
  · refine ⟨by simp only [List.length_drop]; omega, fun h => absurd rfl h⟩
  · exact ⟨by simp, fun _ => rfl⟩

theorem ts_rest (l : List UInt8) (m : Nat) : (ts l m).2.1.length ≤ l.length ∧ ((ts l m).2.2 ≠ 0 → (ts l m).1 = []) := by
  by_cases h0 : (ts l m).2.2 = 0
  · have h1 := (ts_ok (l := l) (s := (ts l m).1) (z := (ts l m).2.1) (most := (m : Int)) (by rw [← h0])).2.2
    have h2 := congrArg List.length h1
    simp only [List.length_append] at h2
    exact ⟨by omega, fun h => absurd h0 h⟩
  · have h1 := ts_err (l := l) (s := (ts l m).1) (z := (ts l m).2.1) (most := (m : Int)) (e := (ts l m).2.2) rfl h0
    exact ⟨by rw [h1.2]; simp, fun _ => h1.1⟩

theorem rr_u8 : 63 ≠ 5 := by decide

set_option maxHeartbeats 1600000 in
theorem num2_rd (B0 g : Nat) (s : Rd) (w : World) (h : RdA 63 B0 w g s) : Calls Try.prog 47 #[.pointer (some ⟨g, 0, none⟩)] w (RetN 63 B0 g w (rn s)) := by
  obtain ⟨hB0, A, n, c, hb, hnc, hc, hn47, hs⟩ := id h
  have k1 : w.cell? ⟨g, 1, none⟩ = some (.int .i64 (s.2 : Int)) := hb.cell rfl
  have hglt := hb.lt
  by_cases he : s.2 ≠ 0
  · have hr : Hid (rn s = (0, s)) := rn_err he
    have hee : (((s.2 : Nat) : Int) != 0) = true := by simp [he]
    have H := Lib.hid h
    clear h hb hs he
    generalize rn s = r at *
    go_enter Try.func47, Try.ntmps47
    go_wp2
    go_ret
    rw [hr.out]
    exact ⟨rfl, H.out, Out.refl _ _⟩
  · have he0 : s.2 = 0 := by simpa using he
    obtain ⟨hl, hB⟩ := hs he0
    obtain ⟨l, e⟩ := s
    simp only at he0 hl hB k1 hb
    subst he0
    have hr : Hid (rn (l, 0) = ((((tk l).1 : Nat) : Int), ((tk l).2.1, (tk l).2.2))) := by show _ = _; unfold rn; rw [if_neg (by simp)]
    obtain ⟨t1, t2⟩ := tk_rest l
    have HT := Lib.hid (refTakeNum_any A c n l w hB.1 hl hnc hn47 hc)
    generalize tk l = p at *
    generalize rn (l, 0) = r at *
    have hk1 : (((0 : Nat) : Int) != 0) = false := rfl
    have k0 : w.cell? ⟨g, 0, none⟩ = some (.slice A n c) := hb.cell rfl
    have H := Lib.hid (And.intro hb hB)
    clear h hs he hB hb
    go_enter Try.func47, Try.ntmps47
    go_wp2_with fail
    refine HT.out.mono ?_
    rintro e' w1 ⟨v, rfl, hnew⟩
    obtain ⟨A2, c2, rfl, hl2, hc2, _⟩ := hnew.form
    have hb1 := H.out.1.below hnew.2 hglt
    have k1 : w1.cell? ⟨g, 1, none⟩ = some (.int .i64 ((0 : Nat) : Int)) := hb1.cell rfl
    have k0 : w1.cell? ⟨g, 0, none⟩ = some (.slice A n c) := hb1.cell rfl
    have f0 := hb1.free 0
    have f1 := hb1.free 1
    have hO1 : Og g w w1 := Out.ofBelow _ hnew.2
    have H1 := Lib.hid (And.intro hb1 (And.intro hnew.1 hO1))
    clear hnew hb1 hO1
    by_cases hp : p.2.2 = 0
    · have hpp : (((p.2.2 : Nat) : Int) != 0) = false := by simp [hp]
      have hn2 : p.2.1.length ≤ 140737488355328 := by omega
      have Hn2 := Lib.hid (And.intro hl2 (And.intro hc2 hn2))
      clear t2
      go_wp2
      go_ret
      rw [hr.out]
      refine ⟨rfl, ⟨hB0, A2, _, c2, by rw [hp]; exact H1.out.1.set_ 0 _, Hn2.out.1, Hn2.out.2.1, Hn2.out.2.2, fun _ => ⟨rfl, ?_⟩⟩, H1.out.2.2.setCell (p := ⟨g, 0, none⟩) (fun _ => rfl) _⟩
      exact (Bn.mine H1.out.2.1).out ((Out.refl (fun i => i = g) w1).setCell (p := ⟨g, 0, none⟩) (fun _ => rfl) _) (fun i _ e => by subst e; exact Nu.blk H1.out.1 hB0 rr_u8)
    · have hpp : (((p.2.2 : Nat) : Int) != 0) = true := by simp [hp]
      have hp0 := Lib.hid (t2 hp)
      clear t2
      go_wp2
      go_ret
      rw [hr.out]
      exact ⟨ret_int (by rw [hp0.out]; rfl), ⟨hB0, A, n, c, H1.out.1.set_ 1 _, hnc, hc, hn47, fun h0 => absurd h0 hp⟩, H1.out.2.2.setCell (p := ⟨g, 1, none⟩) (fun _ => rfl) _⟩

set_option maxHeartbeats 1600000 in
theorem str2_rd (B0 g most : Nat) (s : Rd) (w : World) (h : RdA 63 B0 w g s) (hm : most ≤ 256) : Calls Try.prog 48 #[.pointer (some ⟨g, 0, none⟩), .int .i64 (most : Int)] w (RetT 63 B0 g w (rt most s)) := by
  obtain ⟨hB0, A, n, c, hb, hnc, hc, hn47, hs⟩ := id h
  have k1 : w.cell? ⟨g, 1, none⟩ = some (.int .i64 (s.2 : Int)) := hb.cell rfl
  have hglt := hb.lt
  by_cases he : s.2 ≠ 0
  · have hr : Hid (rt most s = ([], s)) := rt_err he
    have hee : (((s.2 : Nat) : Int) != 0) = true := by simp [he]
    have H := Lib.hid h
    clear h hb hs he
    generalize rt most s = r at *
    go_enter Try.func48, Try.ntmps48
    go_wp2
    go_ret
    rw [hr.out]
    exact ⟨_, rfl, World.ownsRow_nil _ _ _ _, H.out, Out.refl _ _⟩
  · have he0 : s.2 = 0 := by simpa using he
    obtain ⟨hl, hB⟩ := hs he0
    obtain ⟨l, e⟩ := s
    simp only at he0 hl hB k1 hb
    subst he0
    have hr : Hid (rt most (l, 0) = ((ts l most).1, ((ts l most).2.1, (ts l most).2.2))) := by show _ = _; unfold rt; rw [if_neg (by simp)]
    obtain ⟨t1, t2⟩ := ts_rest l most
    have HT := Lib.hid (refTakeStr_any A c n (most : Int) l w hB.1 hl hnc hn47 hc)
    generalize ts l (most : Int) = p at *
    generalize rt most (l, 0) = r at *
    have hk1 : (((0 : Nat) : Int) != 0) = false := rfl
    have k0 : w.cell? ⟨g, 0, none⟩ = some (.slice A n c) := hb.cell rfl
    have H := Lib.hid (And.intro hb hB)
    clear h hs he hB hb
    go_enter Try.func48, Try.ntmps48
    go_wp2_with fail
    refine HT.out.mono ?_
    rintro e' w1 ⟨v, v2, wm, rfl, hnew, hnew2⟩
    obtain ⟨A1, c1, rfl, _, _, _⟩ := hnew.form
    obtain ⟨A2, c2, rfl, hl2, hc2, _⟩ := hnew2.form
    have hbw := hnew.2.trans (hnew2.2.mono hnew.2.size)
    have hb1 := H.out.1.below hbw hglt
    have k1 : w1.cell? ⟨g, 1, none⟩ = some (.int .i64 ((0 : Nat) : Int)) := hb1.cell rfl
    have k0 : w1.cell? ⟨g, 0, none⟩ = some (.slice A n c) := hb1.cell rfl
    have f0 := hb1.free 0
    have f1 := hb1.free 1
    have hO1 : Og g w w1 := Out.ofBelow _ hbw
    have H1 := Lib.hid (And.intro hb1 (And.intro hnew2.1 (And.intro hO1 (Mine.after hnew.1 hnew2.2))))
    clear hnew hnew2 hb1 hO1 hbw
    by_cases hp : p.2.2 = 0
    · have hpp : (((p.2.2 : Nat) : Int) != 0) = false := by simp [hp]
      have hn2 : p.2.1.length ≤ 140737488355328 := by omega
      have Hn2 := Lib.hid (And.intro hl2 (And.intro hc2 hn2))
      clear t2
      have hst : ∀ u, Og g w1 (w1.setCell ⟨g, 0, none⟩ u) := fun u => (Out.refl (fun i => i = g) w1).setCell (p := ⟨g, 0, none⟩) (fun _ => rfl) _
      have Hst := Lib.hid hst
      clear hst
      go_wp2
      go_ret
      rw [hr.out]
      refine ⟨_, rfl, Mine.og H1.out.2.2.2 (Hst.out _) hglt, ⟨hB0, A2, _, c2, by rw [hp]; exact H1.out.1.set_ 0 _, Hn2.out.1, Hn2.out.2.1, Hn2.out.2.2, fun _ => ⟨rfl, ?_⟩⟩, H1.out.2.2.1.trans (Hst.out _) (fun _ _ e => e)⟩
      exact (Bn.mine H1.out.2.1).out (Hst.out _) (fun i _ e => by subst e; exact Nu.blk H1.out.1 hB0 rr_u8)
    · have hpp : (((p.2.2 : Nat) : Int) != 0) = true := by simp [hp]
      have hp0 := Lib.hid (t2 hp)
      clear t2
      go_wp2
      go_ret
      rw [hr.out]
      exact ⟨_, rfl, by simp only [hp0.out]; exact World.ownsRow_nil _ _ _ _, ⟨hB0, A, n, c, H1.out.1.set_ 1 _, hnc, hc, hn47, fun h0 => absurd h0 hp⟩, H1.out.2.2.1.setCell (p := ⟨g, 1, none⟩) (fun _ => rfl) _⟩

theorem rn_zero {s : Rd} (h : (rn s).2.2 ≠ 0) : (rn s).1 = 0 := by
  unfold rn at h ⊢
  split
  · rfl
  · rename_i h2
    rw [if_neg h2] at h
    simp only at h ⊢
    rw [(tk_rest s.1).2 h]
    rfl

set_option maxHeartbeats 1600000 in
theorem many2_rd (B0 g most : Nat) (s : Rd) (w : World) (h : RdA 63 B0 w g s) (hm : most ≤ 256) : Calls Try.prog 49 #[.pointer (some ⟨g, 0, none⟩), .int .i64 (most : Int)] w (RetN 63 B0 g w (((rc most s).1 : Int), (rc most s).2)) := by
  have hp := rn_pos s
  have hz := @rn_zero s
  have HN := Lib.hid (num2_rd B0 g s w h)
  clear h
  have hr : Hid (rc most s = if (most : Int) < (rn s).1 then (0, ((rn s).2.1, 5)) else ((rn s).1.toNat, (rn s).2)) := rfl
  generalize rc most s = r at *
  generalize rn s = q at *
  by_cases hq : q.2.2 = 0
  rotate_left
  · have q0 := hz hq
    have hqq : (((q.2.2 : Nat) : Int) == 0) = false := by simp; omega
    have hqn : (((q.2.2 : Nat) : Int) != 0) = true := by simp; omega
    have Hr : Hid (r = (0, q.2)) := by show _ = _; rw [hr.out, if_neg (by omega), q0]; rfl
    clear hz hp hq q0 hr
    go_enter Try.func49, Try.ntmps49
    go_wp2_with fail
    refine HN.out.mono ?_
    rintro e' w1 ⟨rfl, hR, hO⟩
    have hR' := id hR
    obtain ⟨hB0, A, n, c, hb, h1, h2, h3, _⟩ := hR'
    have k1 : w1.cell? ⟨g, 1, none⟩ = some (.int .i64 (q.2.2 : Int)) := hb.cell rfl
    have HB := Lib.hid (And.intro hR hO)
    clear hb hO hR
    go_wp2
    go_ret
    rw [Hr.out]
    exact ⟨rfl, HB.out.1, HB.out.2⟩
  have hqq : (((q.2.2 : Nat) : Int) == 0) = true := by simp [hq]
  by_cases hlt : (most : Int) < q.1
  · have Hr : Hid (r = (0, (q.2.1, 5))) := by show _ = _; rw [hr.out, if_pos hlt]
    clear hz hr
    go_enter Try.func49, Try.ntmps49
    go_wp2_with fail
    refine HN.out.mono ?_
    rintro e' w1 ⟨rfl, hR, hO⟩
    obtain ⟨hB0, A, n, c, hb, h1, h2, h3, _⟩ := hR
    have k1 : w1.cell? ⟨g, 1, none⟩ = some (.int .i64 (q.2.2 : Int)) := hb.cell rfl
    have f1 := hb.free 1
    have HB := Lib.hid (And.intro hb hO)
    clear hb hO
    go_wp2
    go_ret
    rw [Hr.out]
    exact ⟨rfl, ⟨hB0, A, n, c, HB.out.1.set_ 1 _, h1, h2, h3, fun e => by simp at e⟩, HB.out.2.setCell (p := ⟨g, 1, none⟩) (fun _ => rfl) _⟩
  · have Hr : Hid (r = (q.1.toNat, q.2)) := by show _ = _; rw [hr.out, if_neg hlt]
    have Ht : Hid (((q.1.toNat : Nat) : Int) = q.1) := by show _ = _; omega
    have hqn : (((q.2.2 : Nat) : Int) != 0) = false := by simp [hq]
    clear hz hr
    go_enter Try.func49, Try.ntmps49
    go_wp2_with fail
    refine HN.out.mono ?_
    rintro e' w1 ⟨rfl, hR, hO⟩
    have hR' := id hR
    obtain ⟨hB0, A, n, c, hb, h1, h2, h3, _⟩ := hR'
    have k1 : w1.cell? ⟨g, 1, none⟩ = some (.int .i64 (q.2.2 : Int)) := hb.cell rfl
    have HB := Lib.hid (And.intro hR hO)
    clear hb hO hR
    go_wp2
    go_ret
    rw [Hr.out]
    exact ⟨ret_int Ht.out.symm, HB.out.1, HB.out.2⟩

theorem end2_rd (B0 g : Nat) (s : Rd) (w : World) (h : RdA 63 B0 w g s) : Calls Try.prog 50 #[.pointer (some ⟨g, 0, none⟩)] w fun e w' => e = .returned (.int .i64 (ren s : Int)) ∧ w' = w := by
  obtain ⟨hB0, A, n, c, hb, hnc, hc, hn47, hs⟩ := h
  have k0 : w.cell? ⟨g, 0, none⟩ = some (.slice A n c) := hb.cell rfl
  have k1 : w.cell? ⟨g, 1, none⟩ = some (.int .i64 (s.2 : Int)) := hb.cell rfl
  obtain ⟨l, e⟩ := s
  simp only at *
  by_cases he : e = 0
  · subst he
    have hl := (hs rfl).1
    have ee : (((0 : Nat) : Int) == 0) = true := rfl
    by_cases hn : 0 < n
    · have hr : Hid (ren (l, 0) = 4) := by show _ = _; unfold ren; rw [if_pos ⟨rfl, by simp only; omega⟩]
      clear hs hl hb
      generalize ren (l, 0) = r at *
      go_enter Try.func50, Try.ntmps50
      go_wp2
      go_ret
      exact ⟨ret_int (by rw [hr.out]; rfl), rfl⟩
    · have hr : Hid (ren (l, 0) = 0) := by show _ = _; unfold ren; rw [if_neg (by rintro ⟨_, h⟩; simp only at h; omega)]
      clear hs hl hb
      generalize ren (l, 0) = r at *
      go_enter Try.func50, Try.ntmps50
      go_wp2
      go_ret
      exact ⟨ret_int (by rw [hr.out]; rfl), rfl⟩
  · have hr : Hid (ren (l, e) = e) := by show _ = _; unfold ren; rw [if_neg (by rintro ⟨h, _⟩; exact he h)]
    have ee : ((e : Int) == 0) = false := by simp; omega
    clear hs he hb
    generalize ren (l, e) = r at *
    go_enter Try.func50, Try.ntmps50
    go_wp2
    go_ret
    exact ⟨ret_int (by rw [hr.out]), rfl⟩

end Go.Proofs.Ytihmddpafbackaa

namespace Go.Proofs.Ytihmddpafbackaa

open Go.RowKit Go.Maps

set_option linter.unusedVariables false

set_option linter.unusedSimpArgs false

theorem step_in {t : TypeId} {B0 g bx i : Nat} {v u : Value} {WB wa w1 : World} {cs : List Value} {q : Rd} (hR : RdA t B0 w1 g q) (hB : Blk wa bx 25 cs) (hO : Og g wa w1) (hP : Out (fun i => i = g ∨ i = bx) WB wa) (hgx : bx ≠ g) (hB0 : B0 ≤ bx) (hi : cs[i]? = some u) :
    w1.cell? ⟨bx, i, none⟩ = some u ∧ w1.frozen? ⟨bx, i, none⟩ = false ∧ (RdA t B0 (w1.setCell ⟨bx, i, none⟩ v) g q ∧ Blk (w1.setCell ⟨bx, i, none⟩ v) bx 25 (cs.set i v) ∧ Out (fun i => i = g ∨ i = bx) WB (w1.setCell ⟨bx, i, none⟩ v) ∧ wa.heap.size ≤ (w1.setCell ⟨bx, i, none⟩ v).heap.size) := by
  have hb1 := hO.blk hB hgx
  have hst : Out (fun i => i = bx) w1 (w1.setCell ⟨bx, i, none⟩ v) := (Out.refl (fun i => i = bx) w1).setCell (p := ⟨bx, i, none⟩) (fun _ => rfl) _
  refine ⟨hb1.cell hi, hb1.free i, hR.out hst (fun e => hgx e.symm) (fun j _ e => by subst e; exact Nu.blk hb1 hB0 wish_u8), hb1.set_ i v, (hP.trans hO (fun _ _ e => .inl e)).trans hst (fun _ _ e => .inr e), ?_⟩
  have := hO.size
  simpa [World.setCell] using this

set_option maxRecDepth 100000 in
set_option maxHeartbeats 6400000 in
theorem rparse_any (A : Option Addr) (n c : Nat) (l : List UInt8) (w : World) (hA : Bs w A l) (hn : l.length = n) (hnc : n ≤ c) (hc : c ≤ maxLen) (hl : n ≤ 140737488355328) : Calls Try.prog 23 #[.slice A n c] w (RetP w (parse l)) := by
  obtain ⟨s0, hs0⟩ : ∃ s, s = ((l, 0) : Rd) := ⟨_, rfl⟩
  obtain ⟨kd, s1, e1⟩ : ∃ a b, rn s0 = (a, b) := ⟨_, _, (Prod.eta _).symm⟩
  obtain ⟨cl, s2, e2⟩ : ∃ a b, rn s1 = (a, b) := ⟨_, _, (Prod.eta _).symm⟩
  obtain ⟨sp, s3, e3⟩ : ∃ a b, rn s2 = (a, b) := ⟨_, _, (Prod.eta _).symm⟩
  obtain ⟨gr, s4, e4⟩ : ∃ a b, rn s3 = (a, b) := ⟨_, _, (Prod.eta _).symm⟩
  obtain ⟨ep, s5, e5⟩ : ∃ a b, rn s4 = (a, b) := ⟨_, _, (Prod.eta _).symm⟩
  obtain ⟨bl, s6, e6⟩ : ∃ a b, rn s5 = (a, b) := ⟨_, _, (Prod.eta _).symm⟩
  obtain ⟨da, s7, e7⟩ : ∃ a b, rt 16 s6 = (a, b) := ⟨_, _, (Prod.eta _).symm⟩
  obtain ⟨od, s8, e8⟩ : ∃ a b, rn s7 = (a, b) := ⟨_, _, (Prod.eta _).symm⟩
  obtain ⟨nw, s9, e9⟩ : ∃ a b, rn s8 = (a, b) := ⟨_, _, (Prod.eta _).symm⟩
  obtain ⟨m, s10, e10⟩ : ∃ a b, rc 7 s9 = (a, b) := ⟨_, _, (Prod.eta _).symm⟩
  have hx : rdw (l, 0) = (⟨cl, sp, gr, ep, kd, bl, da, od, nw, (rns m s10).1⟩, (rns m s10).2) := by rw [← hs0]; unfold rdw; simp only [e1, e2, e3, e4, e5, e6, e7, e8, e9, e10]
  have hxn : WNm ⟨cl, sp, gr, ep, kd, bl, da, od, nw, (rns m s10).1⟩ := by have := rdw_nm (l, 0); rw [hx] at this; exact this
  obtain ⟨z, hz⟩ : ∃ z, ren (rns m s10).2 = z := ⟨_, rfl⟩
  have hp : Hid (parse l = if z ≠ 0 then (W0, z) else if May ⟨cl, sp, gr, ep, kd, bl, da, od, nw, (rns m s10).1⟩ then (⟨cl, sp, gr, ep, kd, bl, da, od, nw, (rns m s10).1⟩, 0) else (W0, 2)) := by show _ = _; unfold parse; rw [hx]; simp only [hz]
  have hm7 : m ≤ 7 := by have := rc_le 7 s9; rw [e10] at this; exact this
  have E := Lib.hid (And.intro e1 (And.intro e2 (And.intro e3 (And.intro e4 (And.intro e5 (And.intro e6 (And.intro e7 (And.intro e8 (And.intro e9 e10)))))))))
  have Hx := Lib.hid (And.intro hxn hz)
  clear e1 e2 e3 e4 e5 e6 e7 e8 e9 e10 hx hxn hz
  generalize parse l = r at *
  have hb0 : Below w.heap.size w (((w.alloc (.cells #[.int .i64 0, .int .i64 0, .int .i64 0, .int .i64 0, .int .i64 0, .int .i64 0, .slice none 0 0, .int .i64 0, .int .i64 0, .slice none 0 0] 25)).alloc (.cells #[.slice A n c, .int .i64 0] 63)).alloc (.cells #[.int .i64 0, .int .i64 0, .int .i64 0, .int .i64 0, .int .i64 0, .int .i64 0, .slice none 0 0, .int .i64 0, .int .i64 0, .slice none 0 0] 25)) := (((Below.refl _ _).alloc (Nat.le_refl _) _).alloc (by simp) _).alloc (by simp; omega) _
  have hr0 : Blk (((w.alloc (.cells #[.int .i64 0, .int .i64 0, .int .i64 0, .int .i64 0, .int .i64 0, .int .i64 0, .slice none 0 0, .int .i64 0, .int .i64 0, .slice none 0 0] 25)).alloc (.cells #[.slice A n c, .int .i64 0] 63)).alloc (.cells #[.int .i64 0, .int .i64 0, .int .i64 0, .int .i64 0, .int .i64 0, .int .i64 0, .slice none 0 0, .int .i64 0, .int .i64 0, .slice none 0 0] 25)) w.heap.size 25 zWish := ((Blk.new (l := zWish) rfl rfl).old _).old _
  have hg0 : Blk (((w.alloc (.cells #[.int .i64 0, .int .i64 0, .int .i64 0, .int .i64 0, .int .i64 0, .int .i64 0, .slice none 0 0, .int .i64 0, .int .i64 0, .slice none 0 0] 25)).alloc (.cells #[.slice A n c, .int .i64 0] 63)).alloc (.cells #[.int .i64 0, .int .i64 0, .int .i64 0, .int .i64 0, .int .i64 0, .int .i64 0, .slice none 0 0, .int .i64 0, .int .i64 0, .slice none 0 0] 25)) (w.heap.size + 1) 63 [.slice A n c, .int .i64 ((0 : Nat) : Int)] := (Blk.new (w := w.alloc (.cells #[.int .i64 0, .int .i64 0, .int .i64 0, .int .i64 0, .int .i64 0, .int .i64 0, .slice none 0 0, .int .i64 0, .int .i64 0, .slice none 0 0] 25)) (l := [.slice A n c, .int .i64 ((0 : Nat) : Int)]) rfl (by simp)).old _
  have hx0 : Blk (((w.alloc (.cells #[.int .i64 0, .int .i64 0, .int .i64 0, .int .i64 0, .int .i64 0, .int .i64 0, .slice none 0 0, .int .i64 0, .int .i64 0, .slice none 0 0] 25)).alloc (.cells #[.slice A n c, .int .i64 0] 63)).alloc (.cells #[.int .i64 0, .int .i64 0, .int .i64 0, .int .i64 0, .int .i64 0, .int .i64 0, .slice none 0 0, .int .i64 0, .int .i64 0, .slice none 0 0] 25)) (w.heap.size + 1 + 1) 25 [.int .i64 0, .int .i64 0, .int .i64 0, .int .i64 0, .int .i64 0, .int .i64 0, .slice none 0 0, .int .i64 0, .int .i64 0, .slice none 0 0] := Blk.new rfl (by simp)
  obtain ⟨V0, hV0⟩ : ∃ W, (((w.alloc (.cells #[.int .i64 0, .int .i64 0, .int .i64 0, .int .i64 0, .int .i64 0, .int .i64 0, .slice none 0 0, .int .i64 0, .int .i64 0, .slice none 0 0] 25)).alloc (.cells #[.slice A n c, .int .i64 0] 63)).alloc (.cells #[.int .i64 0, .int .i64 0, .int .i64 0, .int .i64 0, .int .i64 0, .int .i64 0, .slice none 0 0, .int .i64 0, .int .i64 0, .slice none 0 0] 25)) = W := ⟨_, rfl⟩
  rw [hV0] at hb0 hr0 hg0 hx0
  have hR0 : RdA 63 w.heap.size V0 (w.heap.size + 1) s0 := ⟨by omega, A, n, c, by rw [hs0]; exact hg0, hnc, hc, hl, fun _ => ⟨by rw [hs0]; exact hn, by rw [hs0]; exact (Bn.old hA (Nat.le_refl _)).bel hb0⟩⟩
  have hne : (w.heap.size + 1 + 1) ≠ (w.heap.size + 1) := by omega
  have hB0x : w.heap.size ≤ (w.heap.size + 1 + 1) := by omega
  have H0 := Lib.hid (show RdA 63 w.heap.size V0 (w.heap.size + 1) s0 ∧ Blk V0 (w.heap.size + 1 + 1) 25 [.int .i64 0, .int .i64 0, .int .i64 0, .int .i64 0, .int .i64 0, .int .i64 0, .slice none 0 0, .int .i64 0, .int .i64 0, .slice none 0 0] ∧ Out (fun i => i = (w.heap.size + 1) ∨ i = (w.heap.size + 1 + 1)) V0 V0 ∧ (w.heap.size + 1 + 1) < V0.heap.size from ⟨hR0, hx0, Out.refl _ _, hx0.lt⟩)
  have HI := Lib.hid (And.intro hb0 hr0)
  have HV0 := Lib.hid hV0
  clear hb0 hr0 hg0 hx0 hV0 hR0 hA hs0
  go_enter Try.func23, Try.ntmps23
  go_wp2_with fail
  rw [HV0.out]
  have hc := num2_rd w.heap.size (w.heap.size + 1) s0 V0 H0.out.1
  rw [E.out.1] at hc
  refine hc.mono ?_
  clear hc
  rintro e w1 ⟨rfl, hR, hO⟩
  obtain ⟨kk, ff, q1, q2, q3, q4⟩ := step_in (i := 4) (v := Value.int .i64 kd) hR H0.out.2.1 hO H0.out.2.2.1 hne hB0x rfl
  have kk : w1.cell? ⟨w.heap.size + 1 + 1, 4, none⟩ = some (.int .i64 0) := kk
  have q4 : V0.heap.size ≤ (w1.setCell ⟨w.heap.size + 1 + 1, 4, none⟩ (.int .i64 kd)).heap.size := q4
  obtain ⟨V1, hV1⟩ : ∃ W, w1.setCell ⟨w.heap.size + 1 + 1, 4, none⟩ (.int .i64 kd) = W := ⟨_, rfl⟩
  rw [hV1] at q1 q2 q3 q4
  have H1 := Lib.hid (show RdA 63 w.heap.size V1 (w.heap.size + 1) s1 ∧ Blk V1 (w.heap.size + 1 + 1) 25 [.int .i64 0, .int .i64 0, .int .i64 0, .int .i64 0, .int .i64 kd, .int .i64 0, .slice none 0 0, .int .i64 0, .int .i64 0, .slice none 0 0] ∧ Out (fun i => i = (w.heap.size + 1) ∨ i = (w.heap.size + 1 + 1)) V0 V1 ∧ (w.heap.size + 1 + 1) < V1.heap.size from ⟨q1, q2, q3, Nat.lt_of_lt_of_le H0.out.2.2.2 q4⟩)
  have HV1 := Lib.hid hV1
  clear hR hO q1 q2 q3 q4 hV1
  go_upto_region 4 with fail
  rw [HV1.out]
  clear kk ff
  go_upto_region 5 with fail
  have hc := num2_rd w.heap.size (w.heap.size + 1) s1 V1 H1.out.1
  rw [E.out.2.1] at hc
  refine hc.mono ?_
  clear hc
  rintro e w2 ⟨rfl, hR, hO⟩
  obtain ⟨kk, ff, q1, q2, q3, q4⟩ := step_in (i := 0) (v := Value.int .i64 cl) hR H1.out.2.1 hO H1.out.2.2.1 hne hB0x rfl
  have kk : w2.cell? ⟨w.heap.size + 1 + 1, 0, none⟩ = some (.int .i64 0) := kk
  have q4 : V1.heap.size ≤ (w2.setCell ⟨w.heap.size + 1 + 1, 0, none⟩ (.int .i64 cl)).heap.size := q4
  obtain ⟨V2, hV2⟩ : ∃ W, w2.setCell ⟨w.heap.size + 1 + 1, 0, none⟩ (.int .i64 cl) = W := ⟨_, rfl⟩
  rw [hV2] at q1 q2 q3 q4
  have H2 := Lib.hid (show RdA 63 w.heap.size V2 (w.heap.size + 1) s2 ∧ Blk V2 (w.heap.size + 1 + 1) 25 [.int .i64 cl, .int .i64 0, .int .i64 0, .int .i64 0, .int .i64 kd, .int .i64 0, .slice none 0 0, .int .i64 0, .int .i64 0, .slice none 0 0] ∧ Out (fun i => i = (w.heap.size + 1) ∨ i = (w.heap.size + 1 + 1)) V0 V2 ∧ (w.heap.size + 1 + 1) < V2.heap.size from ⟨q1, q2, q3, Nat.lt_of_lt_of_le H1.out.2.2.2 q4⟩)
  have HV2 := Lib.hid hV2
  clear hR hO q1 q2 q3 q4 hV2
  go_upto_region 5 with fail
  rw [HV2.out]
  clear kk ff
  go_upto_region 6 with fail
  have hc := num2_rd w.heap.size (w.heap.size + 1) s2 V2 H2.out.1
  rw [E.out.2.2.1] at hc
  refine hc.mono ?_
  clear hc
  rintro e w3 ⟨rfl, hR, hO⟩
  obtain ⟨kk, ff, q1, q2, q3, q4⟩ := step_in (i := 1) (v := Value.int .i64 sp) hR H2.out.2.1 hO H2.out.2.2.1 hne hB0x rfl
  have kk : w3.cell? ⟨w.heap.size + 1 + 1, 1, none⟩ = some (.int .i64 0) := kk
  have q4 : V2.heap.size ≤ (w3.setCell ⟨w.heap.size + 1 + 1, 1, none⟩ (.int .i64 sp)).heap.size := q4
  obtain ⟨V3, hV3⟩ : ∃ W, w3.setCell ⟨w.heap.size + 1 + 1, 1, none⟩ (.int .i64 sp) = W := ⟨_, rfl⟩
  rw [hV3] at q1 q2 q3 q4
  have H3 := Lib.hid (show RdA 63 w.heap.size V3 (w.heap.size + 1) s3 ∧ Blk V3 (w.heap.size + 1 + 1) 25 [.int .i64 cl, .int .i64 sp, .int .i64 0, .int .i64 0, .int .i64 kd, .int .i64 0, .slice none 0 0, .int .i64 0, .int .i64 0, .slice none 0 0] ∧ Out (fun i => i = (w.heap.size + 1) ∨ i = (w.heap.size + 1 + 1)) V0 V3 ∧ (w.heap.size + 1 + 1) < V3.heap.size from ⟨q1, q2, q3, Nat.lt_of_lt_of_le H2.out.2.2.2 q4⟩)
  have HV3 := Lib.hid hV3
  clear hR hO q1 q2 q3 q4 hV3
  go_upto_region 6 with fail
  rw [HV3.out]
  clear kk ff
  go_upto_region 7 with fail
  have hc := num2_rd w.heap.size (w.heap.size + 1) s3 V3 H3.out.1
  rw [E.out.2.2.2.1] at hc
  refine hc.mono ?_
  clear hc
  rintro e w4 ⟨rfl, hR, hO⟩
  obtain ⟨kk, ff, q1, q2, q3, q4⟩ := step_in (i := 2) (v := Value.int .i64 gr) hR H3.out.2.1 hO H3.out.2.2.1 hne hB0x rfl
  have kk : w4.cell? ⟨w.heap.size + 1 + 1, 2, none⟩ = some (.int .i64 0) := kk
  have q4 : V3.heap.size ≤ (w4.setCell ⟨w.heap.size + 1 + 1, 2, none⟩ (.int .i64 gr)).heap.size := q4
  obtain ⟨V4, hV4⟩ : ∃ W, w4.setCell ⟨w.heap.size + 1 + 1, 2, none⟩ (.int .i64 gr) = W := ⟨_, rfl⟩
  rw [hV4] at q1 q2 q3 q4
  have H4 := Lib.hid (show RdA 63 w.heap.size V4 (w.heap.size + 1) s4 ∧ Blk V4 (w.heap.size + 1 + 1) 25 [.int .i64 cl, .int .i64 sp, .int .i64 gr, .int .i64 0, .int .i64 kd, .int .i64 0, .slice none 0 0, .int .i64 0, .int .i64 0, .slice none 0 0] ∧ Out (fun i => i = (w.heap.size + 1) ∨ i = (w.heap.size + 1 + 1)) V0 V4 ∧ (w.heap.size + 1 + 1) < V4.heap.size from ⟨q1, q2, q3, Nat.lt_of_lt_of_le H3.out.2.2.2 q4⟩)
  have HV4 := Lib.hid hV4
  clear hR hO q1 q2 q3 q4 hV4
  go_upto_region 7 with fail
  rw [HV4.out]
  clear kk ff
  go_upto_region 8 with fail
  have hc := num2_rd w.heap.size (w.heap.size + 1) s4 V4 H4.out.1
  rw [E.out.2.2.2.2.1] at hc
  refine hc.mono ?_
  clear hc
  rintro e w5 ⟨rfl, hR, hO⟩
  obtain ⟨kk, ff, q1, q2, q3, q4⟩ := step_in (i := 3) (v := Value.int .i64 ep) hR H4.out.2.1 hO H4.out.2.2.1 hne hB0x rfl
  have kk : w5.cell? ⟨w.heap.size + 1 + 1, 3, none⟩ = some (.int .i64 0) := kk
  have q4 : V4.heap.size ≤ (w5.setCell ⟨w.heap.size + 1 + 1, 3, none⟩ (.int .i64 ep)).heap.size := q4
  obtain ⟨V5, hV5⟩ : ∃ W, w5.setCell ⟨w.heap.size + 1 + 1, 3, none⟩ (.int .i64 ep) = W := ⟨_, rfl⟩
  rw [hV5] at q1 q2 q3 q4
  have H5 := Lib.hid (show RdA 63 w.heap.size V5 (w.heap.size + 1) s5 ∧ Blk V5 (w.heap.size + 1 + 1) 25 [.int .i64 cl, .int .i64 sp, .int .i64 gr, .int .i64 ep, .int .i64 kd, .int .i64 0, .slice none 0 0, .int .i64 0, .int .i64 0, .slice none 0 0] ∧ Out (fun i => i = (w.heap.size + 1) ∨ i = (w.heap.size + 1 + 1)) V0 V5 ∧ (w.heap.size + 1 + 1) < V5.heap.size from ⟨q1, q2, q3, Nat.lt_of_lt_of_le H4.out.2.2.2 q4⟩)
  have HV5 := Lib.hid hV5
  clear hR hO q1 q2 q3 q4 hV5
  go_upto_region 8 with fail
  rw [HV5.out]
  clear kk ff
  go_upto_region 9 with fail
  have hc := num2_rd w.heap.size (w.heap.size + 1) s5 V5 H5.out.1
  rw [E.out.2.2.2.2.2.1] at hc
  refine hc.mono ?_
  clear hc
  rintro e w6 ⟨rfl, hR, hO⟩
  obtain ⟨kk, ff, q1, q2, q3, q4⟩ := step_in (i := 5) (v := Value.int .i64 bl) hR H5.out.2.1 hO H5.out.2.2.1 hne hB0x rfl
  have kk : w6.cell? ⟨w.heap.size + 1 + 1, 5, none⟩ = some (.int .i64 0) := kk
  have q4 : V5.heap.size ≤ (w6.setCell ⟨w.heap.size + 1 + 1, 5, none⟩ (.int .i64 bl)).heap.size := q4
  obtain ⟨V6, hV6⟩ : ∃ W, w6.setCell ⟨w.heap.size + 1 + 1, 5, none⟩ (.int .i64 bl) = W := ⟨_, rfl⟩
  rw [hV6] at q1 q2 q3 q4
  have H6 := Lib.hid (show RdA 63 w.heap.size V6 (w.heap.size + 1) s6 ∧ Blk V6 (w.heap.size + 1 + 1) 25 [.int .i64 cl, .int .i64 sp, .int .i64 gr, .int .i64 ep, .int .i64 kd, .int .i64 bl, .slice none 0 0, .int .i64 0, .int .i64 0, .slice none 0 0] ∧ Out (fun i => i = (w.heap.size + 1) ∨ i = (w.heap.size + 1 + 1)) V0 V6 ∧ (w.heap.size + 1 + 1) < V6.heap.size from ⟨q1, q2, q3, Nat.lt_of_lt_of_le H5.out.2.2.2 q4⟩)
  have HV6 := Lib.hid hV6
  clear hR hO q1 q2 q3 q4 hV6
  go_upto_region 9 with fail
  rw [HV6.out]
  clear kk ff
  go_upto_region 10 with fail
  have hc := str2_rd w.heap.size (w.heap.size + 1) 16 s6 V6 H6.out.1 (by omega)
  rw [E.out.2.2.2.2.2.2.1] at hc
  refine hc.mono ?_
  clear hc
  rintro e w7 ⟨v7, rfl, hM, hR, hO⟩
  obtain ⟨Dx, cdx, rfl, _, _, _⟩ := Mine.form hM
  simp only at hM ⊢
  obtain ⟨ndx, hnd⟩ : ∃ n, da.length = n := ⟨_, rfl⟩
  rw [hnd] at ⊢
  have Hnd := Lib.hid hnd
  have hM : Mine w7 V6.heap.size 5 (.slice Dx ndx cdx) da := hnd ▸ hM
  obtain ⟨kk, ff, q1, q2, q3, q4⟩ := step_in (i := 6) (v := Value.slice Dx ndx cdx) hR H6.out.2.1 hO H6.out.2.2.1 hne hB0x rfl
  have kk : w7.cell? ⟨w.heap.size + 1 + 1, 6, none⟩ = some (.slice none 0 0) := kk
  have q4 : V6.heap.size ≤ (w7.setCell ⟨w.heap.size + 1 + 1, 6, none⟩ (.slice Dx ndx cdx)).heap.size := q4
  have hM7 : Mine (w7.setCell ⟨w.heap.size + 1 + 1, 6, none⟩ (.slice Dx ndx cdx)) V6.heap.size 5 (.slice Dx ndx cdx) da := own_out hM ((Out.refl (fun i => i = (w.heap.size + 1 + 1)) w7).setCell (p := ⟨w.heap.size + 1 + 1, 6, none⟩) (fun _ => rfl) _) (fun i hi e => by have := (World.ownsRow.lt hM i hi).1; have := H6.out.2.2.2; omega)
  obtain ⟨V7, hV7⟩ : ∃ W, w7.setCell ⟨w.heap.size + 1 + 1, 6, none⟩ (.slice Dx ndx cdx) = W := ⟨_, rfl⟩
  rw [hV7] at q1 q2 q3 q4 hM7
  have H7 := Lib.hid (show RdA 63 w.heap.size V7 (w.heap.size + 1) s7 ∧ Blk V7 (w.heap.size + 1 + 1) 25 [.int .i64 cl, .int .i64 sp, .int .i64 gr, .int .i64 ep, .int .i64 kd, .int .i64 bl, .slice Dx ndx cdx, .int .i64 0, .int .i64 0, .slice none 0 0] ∧ Out (fun i => i = (w.heap.size + 1) ∨ i = (w.heap.size + 1 + 1)) V7 V7 ∧ (w.heap.size + 1 + 1) < V7.heap.size from ⟨q1, q2, Out.refl _ _, Nat.lt_of_lt_of_le H6.out.2.2.2 q4⟩)
  have hO07 := Lib.hid q3
  have HM7 := Lib.hid (And.intro hM7 (Nat.le_trans H6.out.2.2.1.size q4))
  have HV7 := Lib.hid hV7
  clear hR hO q1 q2 q3 q4 hV7 hM hM7 hnd
  go_upto_region 10 with fail
  rw [HV7.out]
  clear kk ff
  go_upto_region 11 with fail
  have hc := num2_rd w.heap.size (w.heap.size + 1) s7 V7 H7.out.1
  rw [E.out.2.2.2.2.2.2.2.1] at hc
  refine hc.mono ?_
  clear hc
  rintro e w8 ⟨rfl, hR, hO⟩
  obtain ⟨kk, ff, q1, q2, q3, q4⟩ := step_in (i := 7) (v := Value.int .i64 od) hR H7.out.2.1 hO H7.out.2.2.1 hne hB0x rfl
  have kk : w8.cell? ⟨w.heap.size + 1 + 1, 7, none⟩ = some (.int .i64 0) := kk
  have q4 : V7.heap.size ≤ (w8.setCell ⟨w.heap.size + 1 + 1, 7, none⟩ (.int .i64 od)).heap.size := q4
  obtain ⟨V8, hV8⟩ : ∃ W, w8.setCell ⟨w.heap.size + 1 + 1, 7, none⟩ (.int .i64 od) = W := ⟨_, rfl⟩
  rw [hV8] at q1 q2 q3 q4
  have H8 := Lib.hid (show RdA 63 w.heap.size V8 (w.heap.size + 1) s8 ∧ Blk V8 (w.heap.size + 1 + 1) 25 [.int .i64 cl, .int .i64 sp, .int .i64 gr, .int .i64 ep, .int .i64 kd, .int .i64 bl, .slice Dx ndx cdx, .int .i64 od, .int .i64 0, .slice none 0 0] ∧ Out (fun i => i = (w.heap.size + 1) ∨ i = (w.heap.size + 1 + 1)) V7 V8 ∧ (w.heap.size + 1 + 1) < V8.heap.size from ⟨q1, q2, q3, Nat.lt_of_lt_of_le H7.out.2.2.2 q4⟩)
  have HV8 := Lib.hid hV8
  clear hR hO q1 q2 q3 q4 hV8
  go_upto_region 11 with fail
  rw [HV8.out]
  clear kk ff
  go_upto_region 12 with fail
  have hc := num2_rd w.heap.size (w.heap.size + 1) s8 V8 H8.out.1
  rw [E.out.2.2.2.2.2.2.2.2.1] at hc
  refine hc.mono ?_
  clear hc
  rintro e w9 ⟨rfl, hR, hO⟩
  obtain ⟨kk, ff, q1, q2, q3, q4⟩ := step_in (i := 8) (v := Value.int .i64 nw) hR H8.out.2.1 hO H8.out.2.2.1 hne hB0x rfl
  have kk : w9.cell? ⟨w.heap.size + 1 + 1, 8, none⟩ = some (.int .i64 0) := kk
  have q4 : V8.heap.size ≤ (w9.setCell ⟨w.heap.size + 1 + 1, 8, none⟩ (.int .i64 nw)).heap.size := q4
  obtain ⟨V9, hV9⟩ : ∃ W, w9.setCell ⟨w.heap.size + 1 + 1, 8, none⟩ (.int .i64 nw) = W := ⟨_, rfl⟩
  rw [hV9] at q1 q2 q3 q4
  have H9 := Lib.hid (show RdA 63 w.heap.size V9 (w.heap.size + 1) s9 ∧ Blk V9 (w.heap.size + 1 + 1) 25 [.int .i64 cl, .int .i64 sp, .int .i64 gr, .int .i64 ep, .int .i64 kd, .int .i64 bl, .slice Dx ndx cdx, .int .i64 od, .int .i64 nw, .slice none 0 0] ∧ Out (fun i => i = (w.heap.size + 1) ∨ i = (w.heap.size + 1 + 1)) V7 V9 ∧ (w.heap.size + 1 + 1) < V9.heap.size from ⟨q1, q2, q3, Nat.lt_of_lt_of_le H8.out.2.2.2 q4⟩)
  have HV9 := Lib.hid hV9
  clear hR hO q1 q2 q3 q4 hV9
  go_upto_region 12 with fail
  rw [HV9.out]
  clear kk ff
  go_wp2_with fail
  have hc := many2_rd w.heap.size (w.heap.size + 1) 7 s9 V9 H9.out.1 (by omega)
  rw [E.out.2.2.2.2.2.2.2.2.2] at hc
  refine hc.mono ?_
  clear hc
  rintro e w10 ⟨rfl, hR, hO⟩
  have H10 := Lib.hid (show RdA 63 w.heap.size w10 (w.heap.size + 1) s10 ∧ Blk w10 (w.heap.size + 1 + 1) 25 [.int .i64 cl, .int .i64 sp, .int .i64 gr, .int .i64 ep, .int .i64 kd, .int .i64 bl, .slice Dx ndx cdx, .int .i64 od, .int .i64 nw, .slice none 0 0] ∧ Out (fun i => i = (w.heap.size + 1) ∨ i = (w.heap.size + 1 + 1)) V7 w10 ∧ (w.heap.size + 1 + 1) < w10.heap.size from ⟨hR, hO.blk H9.out.2.1 hne, H9.out.2.2.1.trans hO (fun _ _ e => .inl e), Nat.lt_of_lt_of_le H9.out.2.2.2 hO.size⟩)
  clear hR hO
  go_wp2
  go_loopw [7] (fun i wr => ∃ (k : Nat) (A1 : Option Addr) (c1 : Nat), k ≤ m ∧ i = .int .i64 k ∧ Hid (RdA 63 w.heap.size wr (w.heap.size + 1) (rns k s10).2 ∧ Blk wr (w.heap.size + 1 + 1) 25 [.int .i64 cl, .int .i64 sp, .int .i64 gr, .int .i64 ep, .int .i64 kd, .int .i64 bl, .slice Dx ndx cdx, .int .i64 od, .int .i64 nw, .slice A1 k c1] ∧ OwnI wr w10.heap.size (.slice A1 k c1) (rns k s10).1 ∧ Out (fun i => i = (w.heap.size + 1) ∨ i = (w.heap.size + 1 + 1)) w10 wr ∧ w10.heap.size ≤ wr.heap.size)) (fun i _ => m - (intOf i).toNat)
  case atStart => exact ⟨0, none, 0, Nat.zero_le _, rfl, ⟨H10.out.1, H10.out.2.1, OwnI.nil _ _, Out.refl _ _, Nat.le_refl _⟩⟩
  case round =>
    obtain ⟨k, A1, c1, hk, rfl, hI⟩ := hrel
    by_cases hlt : k < m
    · have hlt' : (k : Int) < m := by omega
      obtain ⟨lx, q, hlq⟩ : ∃ a b, rns k s10 = (a, b) := ⟨_, _, (Prod.eta _).symm⟩
      obtain ⟨y, q', hxq⟩ : ∃ a b, rn q = (a, b) := ⟨_, _, (Prod.eta _).symm⟩
      have hst : rns (k + 1) s10 = (lx ++ [y], q') := by unfold rns; simp only [hlq, hxq]
      have hll : lx.length = k := by have := rns_len k s10; rw [hlq] at this; exact this
      have hI2 := hI.out
      rw [hlq] at hI2
      simp only at hI2
      obtain ⟨hR0, hB0, hN0, hO0, hs0⟩ := hI2
      have hdr : Below wr.heap.size wr wr.drew := (Below.refl _ _).drew
      have k9 : wr.cell? ⟨w.heap.size + 1 + 1, 9, none⟩ = some (.slice A1 k c1) := hB0.cell rfl
      have HJ := Lib.hid (And.intro (hR0.bel hdr) (And.intro (hB0.below hdr hB0.lt) (And.intro (own_below hN0 hdr) (And.intro (hO0.then_below hdr) (And.intro hs0 (And.intro hxq (And.intro hst hll)))))))
      clear hI hR0 hB0 hN0 hO0 hs0 hxq hst hll hlq hdr
      go_wp2_with fail
      refine wp_region_held_drew (S := fun _ => True) (by kernel_rfl) trivial (fun _ => ?_)
      refine anyH_take (i := 0) (d := 47) (v := ?p0) rfl rfl (by kernel_rfl) (by kernel_rfl) (by kernel_rfl) (fun _ _ _ h => h) (Or.inl ⟨by rfl, ?py0⟩) trivial ?pr0
      case py0 => (intro w; go_simp; try with_reducible rfl)
      simp only [List.setIfInBounds_toArray, List.set_cons_zero, List.set_cons_succ]
      refine anyH_take (i := 2) (d := 49) (v := ?p2) rfl rfl (by kernel_rfl) (by kernel_rfl) (by kernel_rfl) (fun _ _ _ h => h) (Or.inl ⟨by rfl, ?py2⟩) trivial ?pr2
      case py2 => (intro w; go_simp; try with_reducible rfl)
      simp only [List.setIfInBounds_toArray, List.set_cons_zero, List.set_cons_succ]
      refine anyH_two (i := 1) (j := 3) (by kernel_rfl) ?_ ?_
      · skip
        refine wpOp_step rfl (fun K hK => ?_)
        go_simp
        refine hK _ _ ⟨trivial, ?_⟩
        clear hK K
        refine anyH_one (i := 3) (by kernel_rfl) ?_
        refine wpOp_step rfl (fun K hK => ?_)
        go_simp
        have hc := num2_rd w.heap.size (w.heap.size + 1) q _ HJ.out.1
        rw [HJ.out.2.2.2.2.2.1] at hc
        refine hc.mono ?_
        clear hc
        rintro e w1 ⟨rfl, hR1, hO1⟩
        obtain ⟨A', c', w3, hap, k9a, k9b, f9, hF⟩ := app_step (x := y) rr_u8 hR1 (hO1.blk HJ.out.2.1 hne) rfl (own_out HJ.out.2.2.1 hO1 (fun i hi e => by have := (World.ownsRow.lt HJ.out.2.2.1 i hi).1; have := H10.out.2.2.2; omega)) HJ.out.2.2.2.2.2.2.2 (by omega) (HJ.out.2.2.2.1.trans hO1 (fun _ _ e => .inl e)) (Nat.le_refl _) H10.out.2.2.2 (by have := H10.out.2.2.2; omega) (fun e => hne e.symm) hB0x (Nat.le_trans HJ.out.2.2.2.2.1 hO1.size)
        have k9c : w1.cell? ⟨w.heap.size + 1 + 1, 9, none⟩ = some (.slice A1 k c1) := (hO1.blk HJ.out.2.1 hne).cell rfl
        have k9a : (w1.alloc (.cells #[.int .i64 y] 3)).cell? ⟨w.heap.size + 1 + 1, 9, none⟩ = some (.slice A1 k c1) := k9a
        have k9b : w3.cell? ⟨w.heap.size + 1 + 1, 9, none⟩ = some (.slice A1 k c1) := k9b
        have HF := Lib.hid hF
        clear hF hR1 hO1
        refine hK _ _ ⟨trivial, ?_⟩
        clear hK K
        refine anyH_one (i := 4) (by kernel_rfl) ?_
        refine op_row rfl rfl rfl _ _ _ rfl _ _ (by simp only [List.map_toArray, List.map_cons, List.map_nil]; exact row1 _ _) ?_
        refine ⟨trivial, ?_⟩
        simp only [List.setIfInBounds_toArray, List.set_cons_zero, List.set_cons_succ]
        refine anyH_one (i := 5) (by kernel_rfl) ?_
        refine op_append rfl rfl rfl _ _ _ _ rfl _ _ _ _ rfl rfl hap ?_
        refine ⟨trivial, ?_⟩
        simp only [List.setIfInBounds_toArray, List.set_cons_zero, List.set_cons_succ]
        refine anyH_take (i := 6) (d := 53) (v := ?p6a) rfl rfl (by kernel_rfl) (by kernel_rfl) (by kernel_rfl) (fun _ _ _ h => h) (Or.inl ⟨by rfl, ?py6a⟩) trivial ?pr6a
        case py6a => (intro w; go_simp; try with_reducible rfl)
        simp only [List.setIfInBounds_toArray, List.set_cons_zero, List.set_cons_succ]
        refine anyH_one (i := 7) (by kernel_rfl) ?_
        refine wpOp_step rfl (fun K hK => ?_)
        go_simp
        refine hK _ _ ⟨trivial, ?_⟩
        clear hK K
        refine wpAnyH_done (by kernel_rfl) ?_ _
        go_wp2
        go_roundw
        case rel => exact ⟨k + 1, A', c', by omega, by go_num, ⟨by rw [HJ.out.2.2.2.2.2.2.1]; exact HF.out.1, HF.out.2.1, by rw [HJ.out.2.2.2.2.2.2.1]; exact HF.out.2.2.1, HF.out.2.2.2.1, HF.out.2.2.2.2⟩⟩
        case measure => simp [intOf]; omega
      · skip
        refine wpOp_step rfl (fun K hK => ?_)
        go_simp
        have hc := num2_rd w.heap.size (w.heap.size + 1) q _ HJ.out.1
        rw [HJ.out.2.2.2.2.2.1] at hc
        refine hc.mono ?_
        clear hc
        rintro e w1 ⟨rfl, hR1, hO1⟩
        obtain ⟨A', c', w3, hap, k9a, k9b, f9, hF⟩ := app_step (x := y) rr_u8 hR1 (hO1.blk HJ.out.2.1 hne) rfl (own_out HJ.out.2.2.1 hO1 (fun i hi e => by have := (World.ownsRow.lt HJ.out.2.2.1 i hi).1; have := H10.out.2.2.2; omega)) HJ.out.2.2.2.2.2.2.2 (by omega) (HJ.out.2.2.2.1.trans hO1 (fun _ _ e => .inl e)) (Nat.le_refl _) H10.out.2.2.2 (by have := H10.out.2.2.2; omega) (fun e => hne e.symm) hB0x (Nat.le_trans HJ.out.2.2.2.2.1 hO1.size)
        have k9c : w1.cell? ⟨w.heap.size + 1 + 1, 9, none⟩ = some (.slice A1 k c1) := (hO1.blk HJ.out.2.1 hne).cell rfl
        have k9a : (w1.alloc (.cells #[.int .i64 y] 3)).cell? ⟨w.heap.size + 1 + 1, 9, none⟩ = some (.slice A1 k c1) := k9a
        have k9b : w3.cell? ⟨w.heap.size + 1 + 1, 9, none⟩ = some (.slice A1 k c1) := k9b
        have HF := Lib.hid hF
        clear hF hR1 hO1
        refine hK _ _ ⟨trivial, ?_⟩
        clear hK K
        refine anyH_two (i := 1) (j := 4) (by kernel_rfl) ?_ ?_
        · skip
          refine wpOp_step rfl (fun K hK => ?_)
          go_simp
          refine hK _ _ ⟨trivial, ?_⟩
          clear hK K
          refine anyH_one (i := 4) (by kernel_rfl) ?_
          refine op_row rfl rfl rfl _ _ _ rfl _ _ (by simp only [List.map_toArray, List.map_cons, List.map_nil]; exact row1 _ _) ?_
          refine ⟨trivial, ?_⟩
          simp only [List.setIfInBounds_toArray, List.set_cons_zero, List.set_cons_succ]
          refine anyH_one (i := 5) (by kernel_rfl) ?_
          refine op_append rfl rfl rfl _ _ _ _ rfl _ _ _ _ rfl rfl hap ?_
          refine ⟨trivial, ?_⟩
          simp only [List.setIfInBounds_toArray, List.set_cons_zero, List.set_cons_succ]
          refine anyH_take (i := 6) (d := 53) (v := ?p6b) rfl rfl (by kernel_rfl) (by kernel_rfl) (by kernel_rfl) (fun _ _ _ h => h) (Or.inl ⟨by rfl, ?py6b⟩) trivial ?pr6b
          case py6b => (intro w; go_simp; try with_reducible rfl)
          simp only [List.setIfInBounds_toArray, List.set_cons_zero, List.set_cons_succ]
          refine anyH_one (i := 7) (by kernel_rfl) ?_
          refine wpOp_step rfl (fun K hK => ?_)
          go_simp
          refine hK _ _ ⟨trivial, ?_⟩
          clear hK K
          refine wpAnyH_done (by kernel_rfl) ?_ _
          go_wp2
          go_roundw
          case rel => exact ⟨k + 1, A', c', by omega, by go_num, ⟨by rw [HJ.out.2.2.2.2.2.2.1]; exact HF.out.1, HF.out.2.1, by rw [HJ.out.2.2.2.2.2.2.1]; exact HF.out.2.2.1, HF.out.2.2.2.1, HF.out.2.2.2.2⟩⟩
          case measure => simp [intOf]; omega
        · skip
          refine op_row rfl rfl rfl _ _ _ rfl _ _ (by simp only [List.map_toArray, List.map_cons, List.map_nil]; exact row1 _ _) ?_
          refine ⟨trivial, ?_⟩
          simp only [List.setIfInBounds_toArray, List.set_cons_zero, List.set_cons_succ]
          refine anyH_one (i := 1) (by kernel_rfl) ?_
          refine wpOp_step rfl (fun K hK => ?_)
          go_simp
          refine hK _ _ ⟨trivial, ?_⟩
          clear hK K
          refine anyH_one (i := 5) (by kernel_rfl) ?_
          refine op_append rfl rfl rfl _ _ _ _ rfl _ _ _ _ rfl rfl hap ?_
          refine ⟨trivial, ?_⟩
          simp only [List.setIfInBounds_toArray, List.set_cons_zero, List.set_cons_succ]
          refine anyH_take (i := 6) (d := 53) (v := ?p6c) rfl rfl (by kernel_rfl) (by kernel_rfl) (by kernel_rfl) (fun _ _ _ h => h) (Or.inl ⟨by rfl, ?py6c⟩) trivial ?pr6c
          case py6c => (intro w; go_simp; try with_reducible rfl)
          simp only [List.setIfInBounds_toArray, List.set_cons_zero, List.set_cons_succ]
          refine anyH_one (i := 7) (by kernel_rfl) ?_
          refine wpOp_step rfl (fun K hK => ?_)
          go_simp
          refine hK _ _ ⟨trivial, ?_⟩
          clear hK K
          refine wpAnyH_done (by kernel_rfl) ?_ _
          go_wp2
          go_roundw
          case rel => exact ⟨k + 1, A', c', by omega, by go_num, ⟨by rw [HJ.out.2.2.2.2.2.2.1]; exact HF.out.1, HF.out.2.1, by rw [HJ.out.2.2.2.2.2.2.1]; exact HF.out.2.2.1, HF.out.2.2.2.1, HF.out.2.2.2.2⟩⟩
          case measure => simp [intOf]; omega
    · have hlt' : ¬ (k : Int) < m := by omega
      have hkm : k = m := by omega
      subst hkm
      obtain ⟨hR0, hB0, hN0, hO0, hs0⟩ := hI.out
      have hO7r : Out (fun i => i = (w.heap.size + 1) ∨ i = (w.heap.size + 1 + 1)) V7 wr := H10.out.2.2.1.trans hO0 (fun _ _ e => e)
      have hAll : Out (fun i => i = (w.heap.size + 1) ∨ i = (w.heap.size + 1 + 1)) V0 wr := hO07.out.trans hO7r (fun _ _ e => e)
      have hbw : Below w.heap.size w wr := HI.out.1.trans (hAll.above (B := w.heap.size) (fun i e => by omega) HI.out.1.size)
      have hrb : Blk wr w.heap.size 25 zWish := hAll.blk HI.out.2 (by omega)
      have hMr : Mine wr V6.heap.size 5 (.slice Dx ndx cdx) da := own_out HM7.out.1 hO7r (fun i hi e => by have := (World.ownsRow.lt HM7.out.1 i hi).1; have := H6.out.2.2.2; omega)
      have hll := rns_len k s10
      have hAW : ArgW wr (⟨cl, sp, gr, ep, kd, bl, da, od, nw, (rns k s10).1⟩ : Wl) Dx ndx cdx A1 k c1 := by
        have hv : WV wr w.heap.size (⟨cl, sp, gr, ep, kd, bl, da, od, nw, (rns k s10).1⟩ : Wl) (.agg #[.int .i64 cl, .int .i64 sp, .int .i64 gr, .int .i64 ep, .int .i64 kd, .int .i64 bl, .slice Dx ndx cdx, .int .i64 od, .int .i64 nw, .slice A1 k c1]) := ⟨Dx, ndx, cdx, A1, k, c1, rfl, ⟨Mine.base hMr (by have := H6.out.2.2.2; omega), Hnd.out⟩, own_base hN0 (by have := H10.out.2.2.2; omega), hll⟩
        obtain ⟨D', nd', cd', N', nn', cn', e, ha, _⟩ := hv.arg Hx.out.1
        have e := congrArg (fun v => match v with | Value.agg a => (a[6]?, a[9]?) | _ => (none, none)) e
        simp only [List.getElem?_toArray, List.getElem?_cons_succ, List.getElem?_cons_zero, Prod.mk.injEq, Option.some.injEq, Value.slice.injEq] at e
        obtain ⟨⟨rfl, rfl, rfl⟩, rfl, rfl, rfl⟩ := e
        exact ha
      have HE := Lib.hid (And.intro hrb (And.intro hbw (And.intro hMr (And.intro hN0 (And.intro hll (And.intro hAW (And.intro hB0 (And.intro H6.out.2.2.2 H10.out.2.2.2))))))))
      have Hend := Lib.hid (end2_rd w.heap.size (w.heap.size + 1) _ wr hR0)
      have j0 : wr.cell? ⟨w.heap.size + 1 + 1, 0, none⟩ = some (.int .i64 cl) := hB0.cell rfl
      have j1 : wr.cell? ⟨w.heap.size + 1 + 1, 1, none⟩ = some (.int .i64 sp) := hB0.cell rfl
      have j2 : wr.cell? ⟨w.heap.size + 1 + 1, 2, none⟩ = some (.int .i64 gr) := hB0.cell rfl
      have j3 : wr.cell? ⟨w.heap.size + 1 + 1, 3, none⟩ = some (.int .i64 ep) := hB0.cell rfl
      have j4 : wr.cell? ⟨w.heap.size + 1 + 1, 4, none⟩ = some (.int .i64 kd) := hB0.cell rfl
      have j5 : wr.cell? ⟨w.heap.size + 1 + 1, 5, none⟩ = some (.int .i64 bl) := hB0.cell rfl
      have j6 : wr.cell? ⟨w.heap.size + 1 + 1, 6, none⟩ = some (.slice Dx ndx cdx) := hB0.cell rfl
      have j7 : wr.cell? ⟨w.heap.size + 1 + 1, 7, none⟩ = some (.int .i64 od) := hB0.cell rfl
      have j8 : wr.cell? ⟨w.heap.size + 1 + 1, 8, none⟩ = some (.int .i64 nw) := hB0.cell rfl
      have j9 : wr.cell? ⟨w.heap.size + 1 + 1, 9, none⟩ = some (.slice A1 k c1) := hB0.cell rfl
      clear hI hR0 hB0 hN0 hO0 hs0 hO7r hAll hbw hrb hMr hll hAW
      go_wp2_with fail
      have hc := Hend.out
      rw [Hx.out.2] at hc
      refine hc.mono ?_
      clear hc Hend
      rintro e w11 ⟨rfl, rfl⟩
      dsimp only
      by_cases hz0 : z ≠ 0
      · have hz1 : ((z : Int) == 0) = false := by simp; omega
        have hz2 : ((z : Int) != 0) = true := by simp; omega
        have Hr : Hid (r = (W0, z)) := by show _ = _; rw [hp.out, if_pos hz0]
        clear hz0
        obtain ⟨t1, t2, t3⟩ := store_facts (vs := [.int .i64 0, .int .i64 0, .int .i64 0, .int .i64 0, .int .i64 0, .int .i64 0, .slice none 0 0, .int .i64 0, .int .i64 0, .slice none 0 0]) HE.out.1 rfl rfl
        obtain ⟨wF, hwF0⟩ : ∃ W, w11.setCells w.heap.size 0 [.int .i64 0, .int .i64 0, .int .i64 0, .int .i64 0, .int .i64 0, .int .i64 0, .slice none 0 0, .int .i64 0, .int .i64 0, .slice none 0 0] = W := ⟨_, rfl⟩
        have hwF : w11.setCells w.heap.size 0 ([.int .i64 0, .int .i64 0, .int .i64 0, .int .i64 0, .int .i64 0, .int .i64 0, .slice none 0 0, .int .i64 0, .int .i64 0, .slice none 0 0] : List Value).toArray.toList = wF := hwF0
        have hone : ([.int .i64 0, .int .i64 0, .int .i64 0, .int .i64 0, .int .i64 0, .int .i64 0, .slice none 0 0, .int .i64 0, .int .i64 0, .slice none 0 0] : List Value).toArray.all (·.oneCell') = true := by simp [Value.oneCell']
        rw [hwF0] at t2 t3
        have hbF : Below w.heap.size w wF := HE.out.2.1.trans (t3.above (B := w.heap.size) (fun i e => by omega) HE.out.2.1.size)
        have HS := Lib.hid (And.intro t1 (And.intro t2 (And.intro hbF (And.intro hone hwF))))
        clear t1 t2 t3 hbF hone hwF hwF0
        go_wp2_with (first
          | (refine wpList_build_g (by rfl) 25 _ rfl ([.int .i64 0, .int .i64 0, .int .i64 0, .int .i64 0, .int .i64 0, .int .i64 0, .slice none 0 0, .int .i64 0, .int .i64 0, .slice none 0 0] : List Value).toArray built0 ?_; simp only [Act.put])
          | (refine wpList_store_mid rfl 25 _ _ rfl w.heap.size 0 ([.int .i64 0, .int .i64 0, .int .i64 0, .int .i64 0, .int .i64 0, .int .i64 0, .slice none 0 0, .int .i64 0, .int .i64 0, .slice none 0 0] : List Value).toArray rfl rfl HS.out.1 wish_size HS.out.2.2.2.1 ?_; simp only [Act.put]; refine cast (congrArg (fun z => wpList _ _ _ _ _ z) HS.out.2.2.2.2.symm) ?_))
        refine bodyPost_ret (results_row_tmp rfl _ _ w.heap.size 25 _ _ _ rfl rfl HS.out.2.1 Try.underlying25 rfl wish_size) rfl ?_
        rw [Hr.out]
        exact ⟨_, rfl, WV.zero _ _, HS.out.2.2.1⟩
      · have hz00 : z = 0 := by simpa using hz0
        subst hz00
        have hz1 : (((0 : Nat) : Int) == 0) = true := rfl
        have Hc := Lib.hid (rcheck_any (⟨cl, sp, gr, ep, kd, bl, da, od, nw, (rns k s10).1⟩ : Wl) Dx ndx cdx A1 k c1 _ HE.out.2.2.2.2.2.1)
        by_cases hm : May (⟨cl, sp, gr, ep, kd, bl, da, od, nw, (rns k s10).1⟩ : Wl)
        · have Hr : Hid (r = ((⟨cl, sp, gr, ep, kd, bl, da, od, nw, (rns k s10).1⟩ : Wl), 0)) := by show _ = _; rw [hp.out, if_neg (by simp), if_pos hm]
          have hck : chk (⟨cl, sp, gr, ep, kd, bl, da, od, nw, (rns k s10).1⟩ : Wl) = 0 := by unfold chk; rw [if_pos hm]
          clear hm
          go_wp2_with fail
          have hc := Hc.out
          rw [hck] at hc
          refine hc.mono ?_
          clear hc Hc hck
          rintro e w12 ⟨rfl, hb12⟩
          have h0 := HE.out.2.2.2.2.2.2.1.below hb12 HE.out.2.2.2.2.2.2.1.lt
          have j0x : w12.cell? ⟨w.heap.size + 1 + 1, 0, none⟩ = some (.int .i64 cl) := h0.cell rfl
          have j1x : w12.cell? ⟨w.heap.size + 1 + 1, 1, none⟩ = some (.int .i64 sp) := h0.cell rfl
          have j2x : w12.cell? ⟨w.heap.size + 1 + 1, 2, none⟩ = some (.int .i64 gr) := h0.cell rfl
          have j3x : w12.cell? ⟨w.heap.size + 1 + 1, 3, none⟩ = some (.int .i64 ep) := h0.cell rfl
          have j4x : w12.cell? ⟨w.heap.size + 1 + 1, 4, none⟩ = some (.int .i64 kd) := h0.cell rfl
          have j5x : w12.cell? ⟨w.heap.size + 1 + 1, 5, none⟩ = some (.int .i64 bl) := h0.cell rfl
          have j6x : w12.cell? ⟨w.heap.size + 1 + 1, 6, none⟩ = some (.slice Dx ndx cdx) := h0.cell rfl
          have j7x : w12.cell? ⟨w.heap.size + 1 + 1, 7, none⟩ = some (.int .i64 od) := h0.cell rfl
          have j8x : w12.cell? ⟨w.heap.size + 1 + 1, 8, none⟩ = some (.int .i64 nw) := h0.cell rfl
          have j9x : w12.cell? ⟨w.heap.size + 1 + 1, 9, none⟩ = some (.slice A1 k c1) := h0.cell rfl
          obtain ⟨t1, t2, t3⟩ := store_facts (vs := [.int .i64 cl, .int .i64 sp, .int .i64 gr, .int .i64 ep, .int .i64 kd, .int .i64 bl, .slice Dx ndx cdx, .int .i64 od, .int .i64 nw, .slice A1 k c1]) (HE.out.1.below hb12 HE.out.1.lt) rfl rfl
          have hM := own_out (own_below HE.out.2.2.1 hb12) t3 (fun i hi e => by have := (World.ownsRow.lt HE.out.2.2.1 i hi).1; have := HE.out.2.2.2.2.2.2.2.1; omega)
          have hN := own_out (own_below HE.out.2.2.2.1 hb12) t3 (fun i hi e => by have := (World.ownsRow.lt HE.out.2.2.2.1 i hi).1; have := HE.out.2.2.2.2.2.2.2.2; omega)
          have hbF : Below w.heap.size w (w12.setCells w.heap.size 0 [.int .i64 cl, .int .i64 sp, .int .i64 gr, .int .i64 ep, .int .i64 kd, .int .i64 bl, .slice Dx ndx cdx, .int .i64 od, .int .i64 nw, .slice A1 k c1]) := HE.out.2.1.trans ((Out.trans (S := fun i => i = w.heap.size) (Out.ofBelow (fun i => i = w.heap.size) hb12) t3 (fun _ _ e => e)).above (fun i e => by omega) HE.out.2.1.size)
          have hone : ([.int .i64 cl, .int .i64 sp, .int .i64 gr, .int .i64 ep, .int .i64 kd, .int .i64 bl, .slice Dx ndx cdx, .int .i64 od, .int .i64 nw, .slice A1 k c1] : List Value).toArray.all (·.oneCell') = true := by simp [Value.oneCell']
          obtain ⟨wF, hwF0⟩ : ∃ W, w12.setCells w.heap.size 0 [.int .i64 cl, .int .i64 sp, .int .i64 gr, .int .i64 ep, .int .i64 kd, .int .i64 bl, .slice Dx ndx cdx, .int .i64 od, .int .i64 nw, .slice A1 k c1] = W := ⟨_, rfl⟩
          have hwF : w12.setCells w.heap.size 0 ([.int .i64 cl, .int .i64 sp, .int .i64 gr, .int .i64 ep, .int .i64 kd, .int .i64 bl, .slice Dx ndx cdx, .int .i64 od, .int .i64 nw, .slice A1 k c1] : List Value).toArray.toList = wF := hwF0
          rw [hwF0] at t2 hM hN hbF
          have HS := Lib.hid (And.intro t1 (And.intro t2 (And.intro hM (And.intro hN (And.intro hbF (And.intro hone hwF))))))
          clear hb12 h0 t1 t2 t3 hM hN hbF hone hwF hwF0
          go_upto_region 22 with fail
          go_wp2_with (refine wpList_store_mid rfl 25 _ _ rfl w.heap.size 0 ([.int .i64 cl, .int .i64 sp, .int .i64 gr, .int .i64 ep, .int .i64 kd, .int .i64 bl, .slice Dx ndx cdx, .int .i64 od, .int .i64 nw, .slice A1 k c1] : List Value).toArray rfl rfl HS.out.1 wish_size HS.out.2.2.2.2.2.1 ?_; simp only [Act.put]; refine cast (congrArg (fun z => wpList _ _ _ _ _ z) HS.out.2.2.2.2.2.2.symm) ?_)
          refine bodyPost_ret (results_row_tmp rfl _ _ w.heap.size 25 _ _ _ rfl rfl HS.out.2.1 Try.underlying25 rfl wish_size) rfl ?_
          rw [Hr.out]
          exact ⟨_, rfl, ⟨Dx, ndx, cdx, A1, k, c1, rfl, ⟨Mine.base HS.out.2.2.1 (by have := HE.out.2.2.2.2.2.2.2.1; omega), Hnd.out⟩, own_base HS.out.2.2.2.1 (by have := HE.out.2.2.2.2.2.2.2.2; omega), HE.out.2.2.2.2.1⟩, HS.out.2.2.2.2.1⟩
        · have Hr : Hid (r = (W0, 2)) := by show _ = _; rw [hp.out, if_neg (by simp), if_neg hm]
          have hck : chk (⟨cl, sp, gr, ep, kd, bl, da, od, nw, (rns k s10).1⟩ : Wl) = 2 := by unfold chk; rw [if_neg hm]
          clear hm
          go_wp2_with fail
          have hc := Hc.out
          rw [hck] at hc
          refine hc.mono ?_
          clear hc Hc hck
          rintro e w12 ⟨rfl, hb12⟩
          have hrb2 := HE.out.1.below hb12 HE.out.1.lt
          have hbw2 := HE.out.2.1.trans (hb12.mono HE.out.2.1.size)
          clear hb12
          obtain ⟨t1, t2, t3⟩ := store_facts (vs := [.int .i64 0, .int .i64 0, .int .i64 0, .int .i64 0, .int .i64 0, .int .i64 0, .slice none 0 0, .int .i64 0, .int .i64 0, .slice none 0 0]) hrb2 rfl rfl
          obtain ⟨wF, hwF0⟩ : ∃ W, w12.setCells w.heap.size 0 [.int .i64 0, .int .i64 0, .int .i64 0, .int .i64 0, .int .i64 0, .int .i64 0, .slice none 0 0, .int .i64 0, .int .i64 0, .slice none 0 0] = W := ⟨_, rfl⟩
          have hwF : w12.setCells w.heap.size 0 ([.int .i64 0, .int .i64 0, .int .i64 0, .int .i64 0, .int .i64 0, .int .i64 0, .slice none 0 0, .int .i64 0, .int .i64 0, .slice none 0 0] : List Value).toArray.toList = wF := hwF0
          have hone : ([.int .i64 0, .int .i64 0, .int .i64 0, .int .i64 0, .int .i64 0, .int .i64 0, .slice none 0 0, .int .i64 0, .int .i64 0, .slice none 0 0] : List Value).toArray.all (·.oneCell') = true := by simp [Value.oneCell']
          rw [hwF0] at t2 t3
          have hbF : Below w.heap.size w wF := hbw2.trans (t3.above (B := w.heap.size) (fun i e => by omega) hbw2.size)
          have HS := Lib.hid (And.intro t1 (And.intro t2 (And.intro hbF (And.intro hone hwF))))
          clear t1 t2 t3 hbF hone hwF hwF0
          go_wp2_with (first
            | (refine wpList_build_g (by rfl) 25 _ rfl ([.int .i64 0, .int .i64 0, .int .i64 0, .int .i64 0, .int .i64 0, .int .i64 0, .slice none 0 0, .int .i64 0, .int .i64 0, .slice none 0 0] : List Value).toArray built0 ?_; simp only [Act.put])
            | (refine wpList_store_mid rfl 25 _ _ rfl w.heap.size 0 ([.int .i64 0, .int .i64 0, .int .i64 0, .int .i64 0, .int .i64 0, .int .i64 0, .slice none 0 0, .int .i64 0, .int .i64 0, .slice none 0 0] : List Value).toArray rfl rfl HS.out.1 wish_size HS.out.2.2.2.1 ?_; simp only [Act.put]; refine cast (congrArg (fun z => wpList _ _ _ _ _ z) HS.out.2.2.2.2.symm) ?_))
          refine bodyPost_ret (results_row_tmp rfl _ _ w.heap.size 25 _ _ _ rfl rfl HS.out.2.1 Try.underlying25 rfl wish_size) rfl ?_
          rw [Hr.out]
          exact ⟨_, rfl, WV.zero _ _, HS.out.2.2.1⟩

end Go.Proofs.Ytihmddpafbackaa
