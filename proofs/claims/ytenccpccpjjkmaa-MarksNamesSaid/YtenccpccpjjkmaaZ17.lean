/-
  Laid together for a hand-in: Tl15, Du15.
-/
import Derived.Test.YtenccpccpjjkmaaZ16
import Derived.Test.YtenccpccpjjkmaaZ12
import Derived.Test.YtenccpccpjjkmaaZ13

namespace Go.Proofs.Ytenccpccpjjkmaa
open Go.RowKit Go.Shelf Go.Sort Go.Maps CrewP Go.Lib
set_option linter.unusedVariables false
set_option linter.unusedSimpArgs false

/-- A row made behind wr, whose numbers are written over. -/
structure SqI (wr wx : World) (A : Option Addr) (k : Nat) : Prop where
  bel : Below wr.heap.size wr wx
  row : k = 0 ∨ ∃ b o cs, A = some ⟨b, o, none⟩ ∧ wr.heap.size ≤ b ∧ Blk wx b 28 cs ∧ ∀ i, i < k → ∃ v, cs[o + i * 33]? = some (.int .i64 v)
section
variable {wr wx w' : World} {A : Option Addr} {k : Nat}
theorem SqI.below (h : SqI wr wx A k) (hb : Below wx.heap.size wx w') : SqI wr w' A k := by
  refine ⟨h.bel.trans (hb.mono h.bel.size), h.row.imp_right ?_⟩
  rintro ⟨b, o, cs, h1, h2, h3, h4⟩
  exact ⟨b, o, cs, h1, h2, h3.below hb h3.lt, h4⟩
theorem SqI.put (h : SqI wr wx A k) {i : Nat} (hi : i < k) : ∃ b o v, A = some ⟨b, o, none⟩ ∧ wx.cell? ⟨b, o + i * 33, none⟩ = some (.int .i64 v) ∧ wx.frozen? ⟨b, o + i * 33, none⟩ = false ∧ SqI wr (wx.setCell ⟨b, o + i * 33, none⟩ (.int .i64 (-1))) A k := by
  rcases h.row with e | ⟨b, o, cs, h1, h2, h3, h4⟩
  · omega
  obtain ⟨v, hv⟩ := h4 i hi
  refine ⟨b, o, v, h1, h3.cell hv, h3.free _, h.bel.setCell h2 _, .inr ⟨b, o, _, h1, h2, h3.set_ _ _, fun j hj => ?_⟩⟩
  obtain ⟨u, hu⟩ := h4 j hj
  rw [List.getElem?_set]
  split
  · rename_i e
    have hl : o + j * 33 < cs.length := (List.getElem?_eq_some_iff.1 hu).1
    rw [if_pos (by omega)]
    exact ⟨_, rfl⟩
  · exact ⟨u, hu⟩
theorem SqI.of {v : Value} {l : List Mk} {w0 : World} (h : RowN w' v l (fun j => w0.heap.size ≤ j)) (hb : Below w0.heap.size w0 w') : ∃ A k c, v = .slice A k c ∧ ShM w' A l ∧ l.length = k ∧ SqI w0 w' A k := by
  rcases h with ⟨rfl, rfl⟩ | ⟨s, rfl, hr, hs⟩
  · exact ⟨_, _, _, rfl, ShM.nil _ _, rfl, hb, .inl rfl⟩
  · refine ⟨_, _, _, rfl, hr.sh, hr.len, hb, .inr ?_⟩
    obtain ⟨cur, hc, hl, ht⟩ := hr.cur
    refine ⟨s.b, s.o, cur, rfl, hs, hc, fun i hi => ?_⟩
    have hil : i < l.length := by rw [hr.len]; exact hi
    have h1 : (mks l)[i * 33]? = some (.int .i64 l[i].s) := by
      have h2 := mks_at hil (r := 0) (by omega)
      rw [Nat.add_zero] at h2
      rw [h2]; rfl
    rw [← ht, List.getElem?_take] at h1
    split at h1
    · rw [List.getElem?_drop] at h1; exact ⟨_, h1⟩
    · cases h1
end
/-- Marks that are variables, made behind w. -/
structure TlI (w wk : World) (V : List (Nat × Mk)) : Prop where
  bel : Below w.heap.size w wk
  var : ∀ p ∈ V, Blk wk p.1 28 (mkC p.2)
section
variable {w wk w' : World} {V : List (Nat × Mk)}
theorem TlI.below (h : TlI w wk V) (hb : Below wk.heap.size wk w') : TlI w w' V := ⟨h.bel.trans (hb.mono h.bel.size), fun p hp => (h.var p hp).below hb (h.var p hp).lt⟩
theorem TlI.new (h : TlI w wk V) (x : Mk) {X : List Value} (hX : mkC x = X) : ∃ wS, (wk.alloc (.cells (mkC mk0).toArray 28)).setCells wk.heap.size 0 X = wS ∧
    ((wk.alloc (.cells (mkC mk0).toArray 28)).there wk.heap.size 0 X.toArray.size ∧ (Try.prog.info? 28).map (·.size) = some X.toArray.size ∧ X.toArray.all (·.oneCell') = true) ∧ TlI w wS ((wk.heap.size, x) :: V) := by
  subst hX
  obtain ⟨wS, hwS, ⟨hth, hin⟩, hbS, hbe, hsS⟩ := row_local wk 28 (mkC mk0) (mkC x) (by rw [mkC_len, mkC_len]) (by rw [mkC_len]; exact mark_info1)
  refine ⟨wS, hwS, ⟨hth, hin, mkC_oneA x⟩, h.bel.trans (hbe.mono h.bel.size), fun p hp => ?_⟩
  rcases List.mem_cons.1 hp with rfl | hp
  · exact hbS
  · exact (h.var p hp).below hbe (h.var p hp).lt
end
section
variable {w : World} {U V : Nat → Prop} {g r : Nat} {m : Ms}
set_option maxRecDepth 100000 in
set_option maxHeartbeats 12800000 in
theorem tells_any (h : MsAt w U g m) (h' : RfAt w V r m) :
    Calls Try.prog 16 #[.pointer (some ⟨g, 0, none⟩), .pointer (some ⟨r, 0, none⟩)] w fun e w' => e = .returned (.bool true) ∧ Below w.heap.size w w' := by
  have hok := h.ok
  obtain ⟨ab, cap, tm, L, role, h⟩ := h
  obtain ⟨lb, ab', cap', cs, h'⟩ := h'
  obtain ⟨x, hx⟩ : ∃ x, (greatS m (2 * m.f + 1)).getD mk0 = x := ⟨_, rfl⟩
  obtain ⟨p, hp⟩ : ∃ p, (greatS m (2 * m.f + 1)).isSome = p := ⟨_, rfl⟩
  obtain ⟨y, hy⟩ : ∃ x, (greatS m (m.f + 1)).getD mk0 = x := ⟨_, rfl⟩
  obtain ⟨q, hq⟩ : ∃ p, (greatS m (m.f + 1)).isSome = p := ⟨_, rfl⟩
  have a1 : ∀ W, Below w.heap.size w W → Calls Try.prog 20 #[.pointer (some ⟨g, 0, none⟩)] W fun e w' => e = .returned (.tuple #[.agg (mkC x).toArray, .bool p]) ∧ Below W.heap.size W w' := fun W hb => by have := stable_in (h.below hb); rw [hx, hp] at this; exact this
  have a2 : ∀ W, Below w.heap.size w W → Calls Try.prog 38 #[.pointer (some ⟨r, 0, none⟩)] W fun e w' => e = .returned (.tuple #[.agg (mkC x).toArray, .bool p]) ∧ Below W.heap.size W w' := fun W hb => by have := rstable_in (h'.below hb); rw [hx, hp] at this; exact this
  have a3 : ∀ W, Below w.heap.size w W → Calls Try.prog 21 #[.pointer (some ⟨g, 0, none⟩)] W fun e w' => e = .returned (.tuple #[.agg (mkC y).toArray, .bool q]) ∧ Below W.heap.size W w' := fun W hb => by have := known_in (h.below hb); rw [hy, hq] at this; exact this
  have a4 : ∀ W, Below w.heap.size w W → Calls Try.prog 39 #[.pointer (some ⟨r, 0, none⟩)] W fun e w' => e = .returned (.tuple #[.agg (mkC y).toArray, .bool q]) ∧ Below W.heap.size W w' := fun W hb => by have := rknown_in (h'.below hb); rw [hy, hq] at this; exact this
  have a5 : ∀ W, Below w.heap.size w W → Calls Try.prog 23 #[.pointer (some ⟨g, 0, none⟩)] W fun e w' => e = .returned (.agg (mkC m.lo).toArray) ∧ Below W.heap.size W w' := fun W hb => low_in (h.below hb)
  have a6 : ∀ W, Below w.heap.size w W → Calls Try.prog 40 #[.pointer (some ⟨r, 0, none⟩)] W fun e w' => e = .returned (.agg (mkC m.lo).toArray) ∧ Below W.heap.size W w' := fun W hb => rlow_in (h'.below hb)
  have a7 : ∀ W, Below w.heap.size w W → ∀ n : Nat, n < 30 → Calls Try.prog 22 #[.pointer (some ⟨g, 0, none⟩), .int .i64 (n : Int)] W fun e w' => ∃ A k c, e = .returned (.slice A k c) ∧ ShM w' A (m.told n) ∧ (m.told n).length = k ∧ SqI W w' A k := fun W hb n hn => (of_in (h.below hb) (wf_b (by omega) (by omega))).mono (by
    rintro e w' ⟨v, rfl, h1, h2⟩
    obtain ⟨A, k, c, rfl, h3⟩ := SqI.of h1 h2
    exact ⟨A, k, c, rfl, h3⟩)
  have a8 : ∀ W, Below w.heap.size w W → ∀ n : Nat, Calls Try.prog 41 #[.pointer (some ⟨r, 0, none⟩), .int .i64 (n : Int)] W fun e w' => ∃ A k c, e = .returned (.slice A k c) ∧ ShM w' A (m.told n) ∧ (m.told n).length = k ∧ Below W.heap.size W w' := fun W hb n => rof_in (h'.below hb) n
  have hl4 := hok.len
  have H4 := Lib.hid hl4
  have A1 := Lib.hid a1
  have A2 := Lib.hid a2
  have A3 := Lib.hid a3
  have A4 := Lib.hid a4
  have A5 := Lib.hid a5
  have A6 := Lib.hid a6
  have A7 := Lib.hid a7
  have A8 := Lib.hid a8
  clear a1 a2 a3 a4 a5 a6 a7 a8 hx hp hy hq h h' hok hl4
  obtain ⟨z, hz⟩ : ∃ z, m.lo = z := ⟨_, rfl⟩
  rw [hz] at A5 A6
  clear hz
  have e1 : ∀ W, (Op.equalIn 10000 28 (.agg (mkC x).toArray) (.agg (mkC x).toArray)).run Try.prog W = .ok true W := fun W => by have := eq_mark x x W; simpa using this
  have e2 : ∀ W, (Op.equalIn 10000 28 (.agg (mkC y).toArray) (.agg (mkC y).toArray)).run Try.prog W = .ok true W := fun W => by have := eq_mark y y W; simpa using this
  have e3 : ∀ W, (Op.equalIn 10000 28 (.agg (mkC z).toArray) (.agg (mkC z).toArray)).run Try.prog W = .ok true W := fun W => by have := eq_mark z z W; simpa using this
  have i1 := Lib.hid (mark_infoL x)
  have i2 := Lib.hid (mark_infoL y)
  generalize hX : mkC x = X at *
  generalize hY : mkC y = Y at *
  generalize hZ : mkC z = Z at *
  have HX := Lib.hid hX
  have HY := Lib.hid hY
  have E1 := Lib.hid e1
  have E2 := Lib.hid e2
  have E3 := Lib.hid e3
  clear hX hY hZ e1 e2 e3
  have T0 := Lib.hid (show TlI w w [] from ⟨Below.refl _ _, fun p hp => by cases hp⟩)
  go_enter Try.func16, Try.ntmps16
  go_wp2_with fail
  refine (A1.out _ T0.out.bel).mono ?_
  rintro e w1 ⟨rfl, hb1⟩
  obtain ⟨u1, s1, s2, s3⟩ := (T0.out.below hb1).new x HX.out
  have S1 := Lib.hid (And.intro s1 s2)
  have T1 := Lib.hid s3
  clear s1 s2 s3 hb1
  go_wp2_with (refine wpList_store_mid rfl 28 _ _ rfl w1.heap.size 0 X.toArray rfl rfl S1.out.2.1 S1.out.2.2.1 S1.out.2.2.2 ?_; simp only [Act.put]; refine cast (congrArg (fun z => wpList _ _ _ _ _ z) S1.out.1.symm) ?_)
  refine (A2.out _ T1.out.bel).mono ?_
  rintro e w2 ⟨rfl, hb2⟩
  obtain ⟨u2, s1, s2, s3⟩ := (T1.out.below hb2).new x HX.out
  have S2 := Lib.hid (And.intro s1 s2)
  have T2 := Lib.hid s3
  clear s1 s2 s3 hb2
  go_wp2_with (refine wpList_store_mid rfl 28 _ _ rfl w2.heap.size 0 X.toArray rfl rfl S2.out.2.1 S2.out.2.2.1 S2.out.2.2.2 ?_; simp only [Act.put]; refine cast (congrArg (fun z => wpList _ _ _ _ _ z) S2.out.1.symm) ?_)
  refine (A3.out _ T2.out.bel).mono ?_
  rintro e w3 ⟨rfl, hb3⟩
  obtain ⟨u3, s1, s2, s3⟩ := (T2.out.below hb3).new y HY.out
  have S3 := Lib.hid (And.intro s1 s2)
  have T3 := Lib.hid s3
  clear s1 s2 s3 hb3
  go_wp2_with (refine wpList_store_mid rfl 28 _ _ rfl w3.heap.size 0 Y.toArray rfl rfl S3.out.2.1 S3.out.2.2.1 S3.out.2.2.2 ?_; simp only [Act.put]; refine cast (congrArg (fun z => wpList _ _ _ _ _ z) S3.out.1.symm) ?_)
  refine (A4.out _ T3.out.bel).mono ?_
  rintro e w4 ⟨rfl, hb4⟩
  obtain ⟨u4, s1, s2, s3⟩ := (T3.out.below hb4).new y HY.out
  have S4 := Lib.hid (And.intro s1 s2)
  have T4 := Lib.hid s3
  clear s1 s2 s3 hb4
  go_upto_region 5 with (refine wpList_store_mid rfl 28 _ _ rfl w4.heap.size 0 Y.toArray rfl rfl S4.out.2.1 S4.out.2.2.1 S4.out.2.2.2 ?_; simp only [Act.put]; refine cast (congrArg (fun z => wpList _ _ _ _ _ z) S4.out.1.symm) ?_)
  have r4 := (T4.out.var (w4.heap.size, y) (by simp)).range
  have r3 := (T4.out.var (w3.heap.size, y) (by simp)).range
  have r2 := (T4.out.var (w2.heap.size, x) (by simp)).range
  have r1 := (T4.out.var (w1.heap.size, x) (by simp)).range
  simp only [] at r1 r2 r3 r4
  rw [HX.out] at r1 r2
  rw [HY.out] at r3 r4
  have R1 := Lib.hid r1
  have R2 := Lib.hid r2
  have R3 := Lib.hid r3
  have R4 := Lib.hid r4
  clear r1 r2 r3 r4
  have e1 := E1.out
  have e2 := E2.out
  have e3 := E3.out
  go_upto_region 8 with (first
    | (show wpList _ _ _ ({ dst := some 36, op := _, type := _, pos := _, after := _, guard := none } :: _) _ _; refine load_mid_g rfl 28 _ rfl w1.heap.size 0 rfl X _ R1.out Try.underlying28 rfl i1.out ?_; simp only [Act.put])
    | (show wpList _ _ _ ({ dst := some 37, op := _, type := _, pos := _, after := _, guard := none } :: _) _ _; refine load_mid_g rfl 28 _ rfl w2.heap.size 0 rfl X _ R2.out Try.underlying28 rfl i1.out ?_; simp only [Act.put])
    | (show wpList _ _ _ ({ dst := some 45, op := _, type := _, pos := _, after := _, guard := _ } :: _) _ _; refine load_mid_g rfl 28 _ rfl w3.heap.size 0 rfl Y _ R3.out Try.underlying28 rfl i2.out ?_; simp only [Act.put])
    | (show wpList _ _ _ ({ dst := some 46, op := _, type := _, pos := _, after := _, guard := _ } :: _) _ _; refine load_mid_g rfl 28 _ rfl w4.heap.size 0 rfl Y _ R4.out Try.underlying28 rfl i2.out ?_; simp only [Act.put])
    | (go_at_call 23; refine (A5.out _ T4.out.bel).mono ?_; rintro e w5 ⟨rfl, hb5⟩; have T5 := Lib.hid (T4.out.below hb5); clear hb5)
    | (go_at_call 40; refine (A6.out _ T5.out.bel).mono ?_; rintro e w6 ⟨rfl, hb6⟩; have T6 := Lib.hid (T5.out.below hb6); clear hb6))
  clear e1 e2 e3 R1 R2 R3 R4
  go_loopw [13] (fun v13 wr => ∃ i : Nat, i ≤ 30 ∧ v13 = .int .i64 (i : Int) ∧ Below w.heap.size w wr) (fun v _ => 100 - (intOf v).toNat)
  case atStart => exact ⟨0, by omega, rfl, T6.out.bel⟩
  case round =>
    rename World => wk
    obtain ⟨i, hi, rfl, hbel⟩ := hrel
    have HB := Lib.hid hbel
    clear hbel
    by_cases hi2 : i < 30
    · have hi3 : (i : Int) < 30 := by omega
      have hwi : IntKind.i64.wrap ((i : Int) + 1) = (i : Int) + 1 := IntWalk.i64_in _ (by omega)
      go_wp2_with fail
      refine (A7.out _ HB.out i hi2).mono ?_
      rintro e w7 ⟨A, k, c, rfl, h1, h2, h3⟩
      have hk4 := H4.out (i : Int)
      rw [h2] at hk4
      have H7 := Lib.hid (And.intro h1 (And.intro h2 h3))
      clear h1 h2 h3
      go_wp2_with fail
      refine (A8.out _ (HB.out.trans (H7.out.2.2.bel.mono HB.out.size)) i).mono ?_
      rintro e w8 ⟨A', k', c', rfl, h4, h5, h6⟩
      have hs := same_any (c := c) (c' := c') (H7.out.1.below h6) h4 H7.out.2.1 h5 (by omega) (by have := H7.out.2.1; omega)
      rw [decide_eq_true rfl] at hs
      have H8 := Lib.hid (And.intro hs (H7.out.2.2.below h6))
      clear hs h4 h5 h6
      go_wp2_with fail
      refine H8.out.1.mono ?_
      rintro e w9 ⟨rfl, h9⟩
      have H9 := Lib.hid (H8.out.2.below h9)
      clear h9
      go_wp2
      go_loopw [15] (fun v15 wx => ∃ j : Nat, j ≤ k ∧ v15 = .int .i64 (j : Int) ∧ SqI wk wx A k) (fun v _ => 100 - (intOf v).toNat)
      case atStart => exact ⟨0, by omega, rfl, H9.out⟩
      case round =>
        obtain ⟨j, hj, rfl, hS⟩ := hrel
        have HS := Lib.hid hS
        clear hS
        by_cases hj2 : j < k
        · have hj3 : (j : Int) < (k : Int) := by omega
          have hwj : IntKind.i64.wrap ((j : Int) + 1) = (j : Int) + 1 := IntWalk.i64_in _ (by omega)
          obtain ⟨b, o, v, hA, hc, hf, hn⟩ := HS.out.put hj2
          subst hA
          have ix := fun w => marks_at w b o k c j hj2
          have HN := Lib.hid hn
          clear hn
          go_wp2
          go_roundw
          case rel => exact ⟨j + 1, by omega, by first | rfl | (push_cast; rfl), HN.out⟩
          case measure => simp [intOf]; omega
        · have hj3 : ¬ (j : Int) < (k : Int) := by omega
          go_wp2
          go_roundw
          case rel => exact ⟨i + 1, by omega, by first | rfl | (push_cast; rfl), HB.out.trans (HS.out.bel.mono HB.out.size)⟩
          case measure => simp [intOf]; omega
    · have hi3 : ¬ (i : Int) < 30 := by omega
      go_wp2
      go_ret
      exact ⟨rfl, HB.out⟩
end
end Go.Proofs.Ytenccpccpjjkmaa

namespace Go.Proofs.Ytenccpccpjjkmaa
open Go.RowKit Go.Shelf Go.Sort Go.Maps CrewP
set_option linter.unusedVariables false
set_option linter.unusedSimpArgs false

/-- Two marks in blocks apart, behind w0. -/
def D15 (w0 w : World) (g r : Nat) (m n : Ms) : Prop := ∃ U V : Nat → Prop, MsAt w U g m ∧ RfAt w V r n ∧ (∀ i, U i → w0.heap.size ≤ i) ∧ (∀ i, V i → w0.heap.size ≤ i ∧ ¬ U i) ∧ Below w0.heap.size w0 w
section
variable {w0 w w' : World} {g r : Nat} {m n : Ms}
theorem RfAt.lt {U : Nat → Prop} (h : RfAt w U r m) : ∀ i, U i → i < w.heap.size := let ⟨_, _, _, _, h⟩ := h; h.lt
theorem D15.bel (h : D15 w0 w g r m n) : Below w0.heap.size w0 w := let ⟨_, _, _, _, _, _, h⟩ := h; h
theorem D15.below (h : D15 w0 w g r m n) (hb : Below w.heap.size w w') : D15 w0 w' g r m n := by
  obtain ⟨U, V, h1, h2, h3, h4, h5⟩ := h
  exact ⟨U, V, h1.below hb, h2.below hb, h3, h4, h5.trans (hb.mono h5.size)⟩
theorem D15.vote (h : D15 w0 w g r m n) {k : Int} (hk : Wf k) (x : Mk) {E : Int} (hE : voteE m k x = E) :
    Calls Try.prog 12 #[.pointer (some ⟨g, 0, none⟩), .int .i64 k, .agg (mkC x).toArray] w fun e w' => e = .returned (.int .i64 E) ∧ D15 w0 w' g r (voteS m k x) n := by
  obtain ⟨U, V, ⟨_, _, _, _, _, h1⟩, h2, h3, h4, h5⟩ := h
  refine (vote_in h1 hk x E hE).mono ?_
  rintro e w' ⟨he, k1, k2⟩
  exact ⟨he, _, V, k1, h2.out k2 (fun i hi => (h4 i hi).2), fun i hi => hi.elim (h3 i) fun hi => by have := h5.size; omega, fun i hi => ⟨(h4 i hi).1, fun e => e.elim (h4 i hi).2 fun e => by have := h2.lt i hi; omega⟩, h5.trans (k2.above h3 h5.size)⟩
theorem D15.raise (h : D15 w0 w g r m n) (x : Mk) {E : Int} (hE : riseE m x = E) :
    Calls Try.prog 14 #[.pointer (some ⟨g, 0, none⟩), .agg (mkC x).toArray] w fun e w' => e = .returned (.int .i64 E) ∧ D15 w0 w' g r (riseS m x) n := by
  obtain ⟨U, V, ⟨_, _, _, _, _, h1⟩, h2, h3, h4, h5⟩ := h
  refine (raise_in h1 x E hE).mono ?_
  rintro e w' ⟨he, k1, k2⟩
  exact ⟨he, _, V, k1, h2.out k2 (fun i hi => (h4 i hi).2), fun i hi => hi.elim (h3 i) fun hi => by have := h5.size; omega, fun i hi => ⟨(h4 i hi).1, fun e => e.elim (h4 i hi).2 fun e => by have := h2.lt i hi; omega⟩, h5.trans (k2.above h3 h5.size)⟩
theorem D15.rvote (h : D15 w0 w g r m n) (k : Int) (x : Mk) {E : Int} (hE : voteE n k x = E) :
    Calls Try.prog 13 #[.pointer (some ⟨r, 0, none⟩), .int .i64 k, .agg (mkC x).toArray] w fun e w' => e = .returned (.int .i64 E) ∧ D15 w0 w' g r m (voteS n k x) := by
  obtain ⟨U, V, h1, ⟨_, _, _, _, h2⟩, h3, h4, h5⟩ := h
  refine (rvote_in h2 k x E hE).mono ?_
  rintro e w' ⟨he, k1, k2⟩
  exact ⟨he, U, _, h1.out k2 (fun i hi e => (h4 i e).2 hi), k1, h3, fun i hi => hi.elim (h4 i) fun hi => ⟨by have := h5.size; omega, fun e => by have := h1.lt i e; omega⟩, h5.trans (k2.above (fun i hi => (h4 i hi).1) h5.size)⟩
theorem D15.rraise (h : D15 w0 w g r m n) (x : Mk) {E : Int} (hE : riseE n x = E) :
    Calls Try.prog 15 #[.pointer (some ⟨r, 0, none⟩), .agg (mkC x).toArray] w fun e w' => e = .returned (.int .i64 E) ∧ D15 w0 w' g r m (riseS n x) := by
  obtain ⟨U, V, h1, ⟨_, _, _, _, h2⟩, h3, h4, h5⟩ := h
  refine (rraise_in h2 x E hE).mono ?_
  rintro e w' ⟨he, k1, k2⟩
  exact ⟨he, U, _, h1.out k2 (fun i hi e => (h4 i e).2 hi), k1, h3, fun i hi => hi.elim (h4 i) fun hi => ⟨by have := h5.size; omega, fun e => by have := h1.lt i e; omega⟩, h5.trans (k2.above (fun i hi => (h4 i hi).1) h5.size)⟩
theorem D15.tells (h : D15 w0 w g r m m) :
    Calls Try.prog 16 #[.pointer (some ⟨g, 0, none⟩), .pointer (some ⟨r, 0, none⟩)] w fun e w' => e = .returned (.bool true) ∧ D15 w0 w' g r m m := by
  have h0 := h
  obtain ⟨U, V, h1, h2, _⟩ := h
  exact (tells_any h1 h2).mono fun e w' ⟨he, hb⟩ => ⟨he, h0.below hb⟩
theorem D15.new {w1 w2 w3 : World} (hb : Below w0.heap.size w0 w1) (h1 : MsAt w2 (fun b => w1.heap.size ≤ b ∧ b < w2.heap.size) g m) (h2 : Below w1.heap.size w1 w2) (h3 : RfAt w3 (fun b => w2.heap.size ≤ b ∧ b < w3.heap.size) r n) (h4 : Below w2.heap.size w2 w3) : D15 w0 w3 g r m n := by
  have := hb.size
  have := h2.size
  exact ⟨_, _, h1.below h4, h3, fun i hi => by omega, fun i hi => ⟨by omega, fun e => by omega⟩, (hb.trans (h2.mono hb.size)).trans (h4.mono (by omega))⟩
end
theorem do_at (w : World) (b o : Nat) (n c : Nat) (i : Nat) (hi : i < n) : (Instr.indexAt 29 (.slice (some ⟨b, o, none⟩) n c) (.int .i64 (i : Int))).run Try.prog w = .ok (.pointer (some ⟨b, o + i * 35, none⟩)) w := by
  have hr := run_indexAt_slice (P := Try.prog) (w := w) 29 ⟨b, o, none⟩ n c .i64 (i : Int) (by kernel_rfl)
  rw [if_pos (by omega)] at hr
  refine hr.trans ?_
  have h33 : (sizeOf (Try.prog.elem 29)).run Try.prog w = .ok 35 w := by kernel_rfl
  rw [h33, Int.toNat_natCast]
  simp only [Result.andThen_ok, add_mk]
end Go.Proofs.Ytenccpccpjjkmaa
