/-
  Laid together for a hand-in: Rf8, Rk15, Rs15, Ow15, Rv15.
-/
import Derived.Test.YtenccpccpjjkmaaZ06
import Derived.Test.YtenccpccpjjkmaaZ14
import Derived.Test.YtenccpccpjjkmaaZ05
import Derived.Test.YtenccpccpjjkmaaZ13
import Derived.BigQuiet

namespace Go.Proofs.Ytenccpccpjjkmaa

open Go.RowKit CrewP

set_option linter.unusedVariables false

theorem rnode_any (n : Int) (w : World) : Calls Try.prog 48 #[.int .i64 n] w fun e w' => e = .returned (.bool (isN n)) ∧ w' = w := by
  by_cases h1 : (1 : Int) ≤ n
  · by_cases h2 : n ≤ 28
    · have e : isN n = true := by simp [isN, h1, h2]
      rw [e]; clear e
      go_enter Try.func48, Try.ntmps48
      go_wp2
      go_ret
      exact ⟨rfl, rfl⟩
    · have e : isN n = false := by simp [isN, h1, h2]
      rw [e]; clear e
      go_enter Try.func48, Try.ntmps48
      go_wp2
      go_ret
      exact ⟨rfl, rfl⟩
  · have e : isN n = false := by simp [isN, h1]
    rw [e]; clear e
    go_enter Try.func48, Try.ntmps48
    go_wp2
    go_ret
    exact ⟨rfl, rfl⟩

theorem rise_at {l : List Int} {j : Nat} (hj : j < l.length) (hr : rise 0 (l.take j) = true) : rise 0 (l.take (j + 1)) = (isN l[j] && decide (∀ (h : 0 < j), l[j - 1] < l[j])) := by
  have hsn := rise_snoc 0 (l.take j) l[j]
  rw [← List.take_succ_eq_append_getElem hj, hr, Bool.true_and] at hsn
  rw [hsn]
  cases hN : isN l[j] with
  | false => rfl
  | true =>
    rw [Bool.true_and, Bool.true_and]
    apply decide_eq_decide.2
    have hN2 := (isN_iff _).1 hN
    cases j with
    | zero => simp; omega
    | succ j =>
      rw [List.take_succ_eq_append_getElem (by omega), last_snoc]
      simp

set_option maxRecDepth 100000 in
set_option maxHeartbeats 1600000 in
theorem rcheck_any (f : Int) (A : Option Addr) (n c : Nat) (l : List Int) (w : World) (h : ArgI w A n c l) : Calls Try.prog 29 #[.agg #[.int .i64 f, .slice A n c]] w fun e w' => e = .returned (.int .i64 (chkE f l)) ∧ Below w.heap.size w w' := by
  have hln := h.1
  have hcm := h.2.2.1
  unfold maxLen at hcm
  have hnc := h.2.1
  have hx := Lib.hid (Bx.new (f := f) h)
  have hb0 : Below w.heap.size w (w.alloc (.cells #[.int .i64 f, .slice A n c] 24)) := (Below.refl _ _).alloc (Nat.le_refl _) _
  by_cases hsz : 0 ≤ f ∧ f ≤ 2 ∧ (n : Int) = 3 * f + 1
  · obtain ⟨h0, h1, h2⟩ := hsz
    have hso : sizeOk f l.length = true := (sizeOk_iff _ _).2 ⟨h0, h1, by rw [hln]; exact h2⟩
    obtain ⟨r, hr0⟩ : ∃ r, rise 0 l = r := ⟨_, rfl⟩
    have e : chkE f l = if r then 0 else 110 := by unfold chkE okC; rw [hso, hr0, Bool.true_and]
    rw [e]
    have Hr := Lib.hid hr0
    clear hr0 e hso h
    have hm : IntKind.i64.wrap (3 * f) = 3 * f := IntWalk.i64_in _ (by omega)
    have ha : IntKind.i64.wrap (3 * f + 1) = 3 * f + 1 := IntWalk.i64_in _ (by omega)
    have hq : ((n : Int) == 3 * f + 1) = true := by simp [h2]
    go_enter Try.func29, Try.ntmps29
    go_wp2
    go_loopw [3] (fun v3 wr => ∃ j : Nat, j ≤ n ∧ v3 = .int .i64 j ∧ rise 0 (l.take j) = true ∧ Bx w wr f A n c l) (fun v _ => n - (intOf v).toNat)
    case atStart => exact ⟨0, Nat.zero_le _, rfl, rfl, hx.out⟩
    case round =>
      obtain ⟨j, hj, rfl, hr, hxr⟩ := hrel
      have hi0 : (0 : Int) ≤ j := by omega
      have k0 := hxr.k0
      have k1 := hxr.k1
      by_cases hlt : j < n
      · have hi1 : (j : Int) < n := by omega
        have hjl : j < l.length := by omega
        obtain ⟨b1, o1, rfl, l1, q1⟩ := hxr.arg.2.2.2.1.at_ hjl
        have c1 := q1 j hjl
        have hra := rise_at hjl hr
        have HN := Lib.hid (fun W => rnode_any l[j] W)
        have hcut : rise 0 (l.take (j + 1)) = false → r = false := fun h => by
          rw [← Hr.out]
          cases hrl : rise 0 l with
          | false => rfl
          | true =>
            have := (rise_iff 0 l).1 hrl
            have h2 : rise 0 (l.take (j + 1)) = true := (rise_iff _ _).2 ⟨fun x hx => this.1 x (List.mem_of_mem_take hx), this.2.sublist (List.take_sublist ..)⟩
            rw [h] at h2; cases h2
        have Hxr := Lib.hid hxr
        by_cases hj0 : 0 < j
        · have hj1 : (0 : Int) < j := by omega
          have hjs : IntKind.i64.wrap ((j : Int) - 1) = ((j - 1 : Nat) : Int) := by rw [IntWalk.i64_in _ (by omega)]; omega
          have hjm : ((j - 1 : Nat) : Int) < n := by omega
          have hjm0 : (0 : Int) ≤ ((j - 1 : Nat) : Int) := by omega
          have hjl1 : j - 1 < l.length := by omega
          have c2 := q1 (j - 1) hjl1
          have hra' : rise 0 (l.take (j + 1)) = (isN l[j] && decide (l[j - 1] < l[j])) := by rw [hra]; congr 1; exact decide_eq_decide.2 ⟨fun h => h hj0, fun h _ => h⟩
          have Hl := Lib.hid (And.intro hra' hcut)
          generalize l[j] = x at *
          generalize l[j - 1] = y at *
          clear hra hra' hcut q1 hr hxr
          cases hz : isN x with
          | false =>
            have hrf : r = false := Hl.out.2 (by rw [Hl.out.1, hz]; rfl)
            subst hrf
            have HN2 := Lib.hid (fun W => by have := HN.out W; rw [hz] at this; exact this)
            clear Hl HN hz
            go_wp2_with fail
            go_quiet ((go_at_call 48; exact Calls.quiet_of_same (HN2.out _)))
            go_wp2
            go_ret
            exact ⟨rfl, (Hxr.out.drewN _).bel⟩
          | true =>
            have HN2 := Lib.hid (fun W => by have := HN.out W; rw [hz] at this; exact this)
            by_cases hyx : x ≤ y
            · have hrf : r = false := Hl.out.2 (by rw [Hl.out.1, hz]; simp; omega)
              subst hrf
              clear Hl HN hz
              go_wp2_with fail
              go_quiet ((go_at_call 48; exact Calls.quiet_of_same (HN2.out _)))
              go_wp2
              go_ret
              exact ⟨rfl, (Hxr.out.drewN _).bel⟩
            · have hnext : rise 0 (l.take (j + 1)) = true := by rw [Hl.out.1, hz]; simp; omega
              have Hn := Lib.hid hnext
              clear Hl HN hz hnext
              go_wp2_with fail
              go_quiet ((go_at_call 48; exact Calls.quiet_of_same (HN2.out _)))
              go_wp2
              exact ⟨⟨j + 1, by omega, by go_num, Hn.out, Hxr.out.drewN _⟩, by simp [intOf]; omega⟩
        · have hj1 : ¬ (0 : Int) < j := by omega
          have hra' : rise 0 (l.take (j + 1)) = isN l[j] := by rw [hra]; simp [show j = 0 by omega]
          have Hl := Lib.hid (And.intro hra' hcut)
          generalize l[j] = x at *
          clear hra hra' hcut q1 hr hxr
          cases hz : isN x with
          | false =>
            have hrf : r = false := Hl.out.2 (by rw [Hl.out.1, hz])
            subst hrf
            have HN2 := Lib.hid (fun W => by have := HN.out W; rw [hz] at this; exact this)
            clear Hl HN hz
            go_wp2_with fail
            go_quiet ((go_at_call 48; exact Calls.quiet_of_same (HN2.out _)))
            go_wp2
            go_ret
            exact ⟨rfl, (Hxr.out.drewN _).bel⟩
          | true =>
            have HN2 := Lib.hid (fun W => by have := HN.out W; rw [hz] at this; exact this)
            have hnext : rise 0 (l.take (j + 1)) = true := by rw [Hl.out.1, hz]
            have Hn := Lib.hid hnext
            clear Hl HN hz hnext
            go_wp2_with fail
            go_quiet ((go_at_call 48; exact Calls.quiet_of_same (HN2.out _)))
            go_wp2
            exact ⟨⟨j + 1, by omega, by go_num, Hn.out, Hxr.out.drewN _⟩, by simp [intOf]; omega⟩
      · have hi1 : ¬ (j : Int) < n := by omega
        rw [List.take_of_length_le (by omega)] at hr
        have hrf : r = true := by rw [← Hr.out, hr]
        subst hrf
        clear hr
        have Hxr := Lib.hid hxr
        clear hxr
        go_wp2
        go_ret
        exact ⟨rfl, Hxr.out.bel⟩
  · have e : chkE f l = 110 := by
      unfold chkE okC
      rw [if_neg]
      rw [Bool.and_eq_true, sizeOk_iff, hln]
      exact fun h => hsz h.1
    rw [e]
    clear e h
    by_cases h0 : f < 0
    · go_enter Try.func29, Try.ntmps29
      go_wp2
      go_ret
      exact ⟨rfl, hb0⟩
    · by_cases h1 : 2 < f
      · go_enter Try.func29, Try.ntmps29
        go_wp2
        go_ret
        exact ⟨rfl, hb0⟩
      · have h2 : ¬ (n : Int) = 3 * f + 1 := fun e => hsz ⟨by omega, by omega, e⟩
        have hm : IntKind.i64.wrap (3 * f) = 3 * f := IntWalk.i64_in _ (by omega)
        have ha : IntKind.i64.wrap (3 * f + 1) = 3 * f + 1 := IntWalk.i64_in _ (by omega)
        have hq : ((n : Int) == 3 * f + 1) = false := by simp [h2]
        go_enter Try.func29, Try.ntmps29
        go_wp2
        go_ret
        exact ⟨rfl, hb0⟩

end Go.Proofs.Ytenccpccpjjkmaa

namespace Go.Proofs.Ytenccpccpjjkmaa
open Go.RowKit Go.Shelf Go.Sort Go.Maps CrewP
set_option linter.unusedVariables false
set_option linter.unusedSimpArgs false

theorem rcheck2 (f : Int) (A : Option Addr) (n c : Nat) (l : List Int) (w : World) (h : ArgI w A n c l) (z : Int) (hz : chkE f l = z) :
    Calls Try.prog 29 #[.agg #[.int .i64 f, .slice A n c]] (w.alloc (.cells #[.int .i64 f, .slice A n c] 24)) fun e w' => e = .returned (.int .i64 z) ∧ Bx w w' f A n c l := by
  subst hz
  have hb := Bx.new (f := f) h
  exact (rcheck_any f A n c l _ hb.arg).mono fun e w' ⟨he, hw⟩ => ⟨he, hb.on hw⟩
theorem rcheck_bx (f : Int) (A : Option Addr) (n c : Nat) (l : List Int) (w W : World) (h : Bx w W f A n c l) (z : Int) (hz : chkE f l = z) :
    Calls Try.prog 29 #[.agg #[.int .i64 f, .slice A n c]] W fun e w' => e = .returned (.int .i64 z) ∧ Bx w w' f A n c l ∧ Below W.heap.size W w' := by
  subst hz
  exact (rcheck_any f A n c l _ h.arg).mono fun e w' ⟨he, hw⟩ => ⟨he, h.on hw, hw⟩
section
variable (f : Int) (A : Option Addr) (n c : Nat) (l : List Int) (w : World)
theorem rmost_any (h : ArgI w A n c l) : Calls Try.prog 56 #[.agg #[.int .i64 f, .slice A n c]] w fun e w' => e = .returned (.int .i64 (mostR f l)) ∧ Below w.heap.size w w' := by
  cases hok : okC f l with
  | false =>
    have H := Lib.hid (rcheck2 f A n c l w h 110 (chk1 hok))
    have e : mostR f l = 0 := by simp [mostR, hok]
    rw [e]; clear e hok h
    go_enter Try.func56, Try.ntmps56
    go_wp2_with (go_at_call 29; refine H.out.mono ?_; rintro e w' ⟨rfl, hx⟩)
    go_ret
    exact ⟨rfl, hx.bel⟩
  | true =>
    have hf := (ok_len hok).1
    obtain ⟨hf0, hf1⟩ := hf
    have H := Lib.hid (rcheck2 f A n c l w h 0 (chk0 hok))
    have e : mostR f l = 2 * f + 1 := by simp [mostR, hok]
    rw [e]; clear e hok h
    have hm : IntKind.i64.wrap (2 * f) = 2 * f := IntWalk.i64_in _ (by omega)
    have ha : IntKind.i64.wrap (2 * f + 1) = 2 * f + 1 := IntWalk.i64_in _ (by omega)
    go_enter Try.func56, Try.ntmps56
    go_wp2_with (go_at_call 29; refine H.out.mono ?_; rintro e w' ⟨rfl, hx⟩; have k0 := hx.k0; have k1 := hx.k1; replace hx := Lib.hid hx)
    go_ret
    exact ⟨rfl, hx.out.bel⟩

theorem rsome_any (h : ArgI w A n c l) : Calls Try.prog 57 #[.agg #[.int .i64 f, .slice A n c]] w fun e w' => e = .returned (.int .i64 (someR f l)) ∧ Below w.heap.size w w' := by
  cases hok : okC f l with
  | false =>
    have H := Lib.hid (rcheck2 f A n c l w h 110 (chk1 hok))
    have e : someR f l = 0 := by simp [someR, hok]
    rw [e]; clear e hok h
    go_enter Try.func57, Try.ntmps57
    go_wp2_with (go_at_call 29; refine H.out.mono ?_; rintro e w' ⟨rfl, hx⟩)
    go_ret
    exact ⟨rfl, hx.bel⟩
  | true =>
    obtain ⟨hf0, hf1⟩ := (ok_len hok).1
    have H := Lib.hid (rcheck2 f A n c l w h 0 (chk0 hok))
    have e : someR f l = f + 1 := by simp [someR, hok]
    rw [e]; clear e hok h
    have ha : IntKind.i64.wrap (f + 1) = f + 1 := IntWalk.i64_in _ (by omega)
    go_enter Try.func57, Try.ntmps57
    go_wp2_with (go_at_call 29; refine H.out.mono ?_; rintro e w' ⟨rfl, hx⟩; have k0 := hx.k0; have k1 := hx.k1; replace hx := Lib.hid hx)
    go_ret
    exact ⟨rfl, hx.out.bel⟩

end
section
variable {w w' : World} {U : Nat → Prop} {r : Nat} {m : Ms} {lb ab cap : Nat} {cs : List Value}
set_option maxRecDepth 100000 in
set_option maxHeartbeats 1600000 in
theorem rstable_in (h : RfIn w U r m lb ab cap cs) :
    Calls Try.prog 38 #[.pointer (some ⟨r, 0, none⟩)] w fun e w' => e = .returned (.tuple #[.agg (mkC ((greatS m (2 * m.f + 1)).getD mk0)).toArray, .bool (greatS m (2 * m.f + 1)).isSome]) ∧ Below w.heap.size w w' := by
  have hal : Below w.heap.size w (w.alloc (.cells (mkC mk0).toArray 28)) := (Below.refl _ _).alloc (Nat.le_refl _) _
  have h1 := h.below hal
  have HR := Lib.hid (h1.blk.rangeFrom (o := 0) (n := 2) (C := [.int .i64 m.f, .slice (some ⟨ab, 0, none⟩) m.ns.length cap]) rfl)
  have hm := rmost_any m.f _ _ _ _ _ h1.arg
  have e : mostR m.f m.ns = 2 * m.f + 1 := by simp [mostR, h.ok.crew]
  rw [e] at hm
  have Hm := Lib.hid hm
  obtain ⟨G, hGe⟩ : ∃ G, greatS m (2 * m.f + 1) = G := ⟨_, rfl⟩
  have hG : ∀ W, Below (w.alloc (.cells (mkC mk0).toArray 28)).heap.size (w.alloc (.cells (mkC mk0).toArray 28)) W → Calls Try.prog 55 #[.pointer (some ⟨r, 0, none⟩), .int .i64 (2 * m.f + 1)] W fun e w' => e = .returned (.tuple #[.agg (mkC (G.getD mk0)).toArray, .bool G.isSome]) ∧ Below W.heap.size W w' := fun W hb => by
    have := rgreat_in (h1.below hb) (2 * m.f + 1)
    rw [hGe] at this
    exact this
  have HG := Lib.hid hG
  rw [hGe]
  clear hm e hG hGe h
  obtain ⟨x, hx⟩ : ∃ x, G.getD mk0 = x := ⟨_, rfl⟩
  rw [hx] at HG ⊢
  have hst : ∀ w2, Below (w.alloc (.cells (mkC mk0).toArray 28)).heap.size (w.alloc (.cells (mkC mk0).toArray 28)) w2 → ∃ w3, w2.setCells w.heap.size 0 (mkC x) = w3 ∧ w2.there w.heap.size 0 (mkC x).toArray.size ∧ Blk w3 w.heap.size 28 (mkC x) ∧ Below w.heap.size w w3 := fun w2 hb => by
    have R1 : Blk (w.alloc (.cells (mkC mk0).toArray 28)) w.heap.size 28 (mkC mk0) := Blk.new rfl rfl
    have R2 := R1.below hb R1.lt
    exact ⟨_, rfl, R2.thereAt (by rw [List.size_toArray, mkC_len, mkC_len]; omega), R2.setAll (by rw [mkC_len, mkC_len]), Below.setCells (Nat.le_refl _) _ (hal.trans (hb.mono hal.size))⟩
  have HST := Lib.hid hst
  have HX := Lib.hid (And.intro (mark_infoA x) (mkC_oneA x))
  clear hal hst hx h1
  generalize G.isSome = B at *
  generalize hC : mkC x = C at *
  generalize hf : 2 * m.f + 1 = F at *
  clear hC hf
  go_enter Try.func38, Try.ntmps38
  go_wp2_with (refine load_mid_g rfl 24 _ rfl r 0 rfl [.int .i64 m.f, .slice (some ⟨ab, 0, none⟩) m.ns.length cap] _ HR.out Try.underlying24 rfl crew_info ?_; simp only [Act.put])
  refine Hm.out.mono ?_
  rintro e w1 ⟨rfl, hb1⟩
  have Hb1 := Lib.hid hb1
  clear hb1
  go_wp2_with fail
  refine (HG.out _ Hb1.out).mono ?_
  rintro e w2 ⟨rfl, hb2⟩
  obtain ⟨w3, f1, f2, f3, f4⟩ := HST.out w2 (Hb1.out.trans (hb2.mono Hb1.out.size))
  have HF := Lib.hid (And.intro f1 (And.intro f2 (And.intro f3 f4)))
  clear f1 f2 f3 f4 hb2
  go_wp2_with (refine wpList_store_mid rfl 28 _ _ rfl w.heap.size 0 C.toArray rfl rfl HF.out.2.1 HX.out.1 HX.out.2 ?_; simp only [Act.put]; refine cast (congrArg (fun z => wpList _ _ _ _ _ z) HF.out.1.symm) ?_)
  refine bodyPost_ret (results_row_tmp rfl _ _ w.heap.size 28 C.toArray (.bool B) _ rfl rfl HF.out.2.2.1 Try.underlying28 rfl HX.out.1) rfl ?_
  exact ⟨rfl, HF.out.2.2.2⟩
set_option maxRecDepth 100000 in
set_option maxHeartbeats 1600000 in
theorem rknown_in (h : RfIn w U r m lb ab cap cs) :
    Calls Try.prog 39 #[.pointer (some ⟨r, 0, none⟩)] w fun e w' => e = .returned (.tuple #[.agg (mkC ((greatS m (m.f + 1)).getD mk0)).toArray, .bool (greatS m (m.f + 1)).isSome]) ∧ Below w.heap.size w w' := by
  have hal : Below w.heap.size w (w.alloc (.cells (mkC mk0).toArray 28)) := (Below.refl _ _).alloc (Nat.le_refl _) _
  have h1 := h.below hal
  have HR := Lib.hid (h1.blk.rangeFrom (o := 0) (n := 2) (C := [.int .i64 m.f, .slice (some ⟨ab, 0, none⟩) m.ns.length cap]) rfl)
  have hm := rsome_any m.f _ _ _ _ _ h1.arg
  have e : someR m.f m.ns = m.f + 1 := by simp [someR, h.ok.crew]
  rw [e] at hm
  have Hm := Lib.hid hm
  obtain ⟨G, hGe⟩ : ∃ G, greatS m (m.f + 1) = G := ⟨_, rfl⟩
  have hG : ∀ W, Below (w.alloc (.cells (mkC mk0).toArray 28)).heap.size (w.alloc (.cells (mkC mk0).toArray 28)) W → Calls Try.prog 55 #[.pointer (some ⟨r, 0, none⟩), .int .i64 (m.f + 1)] W fun e w' => e = .returned (.tuple #[.agg (mkC (G.getD mk0)).toArray, .bool G.isSome]) ∧ Below W.heap.size W w' := fun W hb => by
    have := rgreat_in (h1.below hb) (m.f + 1)
    rw [hGe] at this
    exact this
  have HG := Lib.hid hG
  rw [hGe]
  clear hm e hG hGe h
  obtain ⟨x, hx⟩ : ∃ x, G.getD mk0 = x := ⟨_, rfl⟩
  rw [hx] at HG ⊢
  have hst : ∀ w2, Below (w.alloc (.cells (mkC mk0).toArray 28)).heap.size (w.alloc (.cells (mkC mk0).toArray 28)) w2 → ∃ w3, w2.setCells w.heap.size 0 (mkC x) = w3 ∧ w2.there w.heap.size 0 (mkC x).toArray.size ∧ Blk w3 w.heap.size 28 (mkC x) ∧ Below w.heap.size w w3 := fun w2 hb => by
    have R1 : Blk (w.alloc (.cells (mkC mk0).toArray 28)) w.heap.size 28 (mkC mk0) := Blk.new rfl rfl
    have R2 := R1.below hb R1.lt
    exact ⟨_, rfl, R2.thereAt (by rw [List.size_toArray, mkC_len, mkC_len]; omega), R2.setAll (by rw [mkC_len, mkC_len]), Below.setCells (Nat.le_refl _) _ (hal.trans (hb.mono hal.size))⟩
  have HST := Lib.hid hst
  have HX := Lib.hid (And.intro (mark_infoA x) (mkC_oneA x))
  clear hal hst hx h1
  generalize G.isSome = B at *
  generalize hC : mkC x = C at *
  generalize hf : m.f + 1 = F at *
  clear hC hf
  go_enter Try.func39, Try.ntmps39
  go_wp2_with (refine load_mid_g rfl 24 _ rfl r 0 rfl [.int .i64 m.f, .slice (some ⟨ab, 0, none⟩) m.ns.length cap] _ HR.out Try.underlying24 rfl crew_info ?_; simp only [Act.put])
  refine Hm.out.mono ?_
  rintro e w1 ⟨rfl, hb1⟩
  have Hb1 := Lib.hid hb1
  clear hb1
  go_wp2_with fail
  refine (HG.out _ Hb1.out).mono ?_
  rintro e w2 ⟨rfl, hb2⟩
  obtain ⟨w3, f1, f2, f3, f4⟩ := HST.out w2 (Hb1.out.trans (hb2.mono Hb1.out.size))
  have HF := Lib.hid (And.intro f1 (And.intro f2 (And.intro f3 f4)))
  clear f1 f2 f3 f4 hb2
  go_wp2_with (refine wpList_store_mid rfl 28 _ _ rfl w.heap.size 0 C.toArray rfl rfl HF.out.2.1 HX.out.1 HX.out.2 ?_; simp only [Act.put]; refine cast (congrArg (fun z => wpList _ _ _ _ _ z) HF.out.1.symm) ?_)
  refine bodyPost_ret (results_row_tmp rfl _ _ w.heap.size 28 C.toArray (.bool B) _ rfl rfl HF.out.2.2.1 Try.underlying28 rfl HX.out.1) rfl ?_
  exact ⟨rfl, HF.out.2.2.2⟩
end
end Go.Proofs.Ytenccpccpjjkmaa

namespace Go.Proofs.Ytenccpccpjjkmaa
open Go.RowKit Go.Shelf Go.Sort Go.Maps CrewP
set_option linter.unusedVariables false
set_option linter.unusedSimpArgs false

section
variable {w w' : World} {U U' : Nat → Prop} {r : Nat} {m : Ms} {lb ab cap : Nat} {cs : List Value}
theorem RfIn.wide (h : RfIn w U r m lb ab cap cs) (hU : ∀ i, U i → U' i) (hlt : ∀ i, U' i → i < w.heap.size) : RfIn w U' r m lb ab cap cs :=
  ⟨h.ok, h.non, h.blk, h.nd, h.rows, h.len, fun k hk => let ⟨A, q, c, e1, e2, e3, e4, e5⟩ := h.row k hk; ⟨A, q, c, e1, e2, e3, e4, fun b hb => ⟨hU b (e5 b hb).1, (e5 b hb).2⟩⟩, h.ne, ⟨hU _ h.u.1, hU _ h.u.2.1, hU _ h.u.2.2⟩, hlt⟩
/-- The row at k is another one. -/
theorem RfIn.set_row (h : RfIn w U r m lb ab cap cs) {k : Nat} (hk : k < m.ns.length) {A : Option Addr} {q c : Nat} {l : List Mk} (hsh : ShM w A l) (hl : l.length = q) (h0 : q = 0 → A = none ∧ c = 0) (hb : ∀ b, blkOf A b → U b ∧ b ≠ r ∧ b ≠ lb) (hok : (m.set m.ns[k] l).ok) :
    RfIn (w.setCell ⟨lb, k, none⟩ (.slice A q c)) U r (m.set m.ns[k] l) lb ab cap (cs.set k (.slice A q c)) ∧ Out (fun b => b = lb) w (w.setCell ⟨lb, k, none⟩ (.slice A q c)) := by
  have ho : Out (fun b => b = lb) w (w.setCell ⟨lb, k, none⟩ (.slice A q c)) := (Out.refl (fun b => b = lb) w).setCell (p := ⟨lb, k, none⟩) (fun _ => rfl) _
  have hnd : m.ns.Nodup := CrewP.asc_nodup ((okC_iff m.f m.ns).1 h.ok.crew).2.2
  obtain ⟨ns, n1, n2⟩ := h.nd
  refine ⟨⟨hok, fun n hn => ?_, ho.blk h.blk (fun e => h.ne.2.2 e.symm), ⟨ns, ho.blk n1 h.ne.2.1, n2⟩, h.rows.set_ k _, by rw [List.length_set]; exact h.len, fun j hj => ?_, h.ne, h.u, fun i hi => Nat.lt_of_lt_of_le (h.lt i hi) ho.size⟩, ho⟩
  · show (if n = m.ns[k] then l else m.told n) = []
    rw [if_neg (fun e => hn (by rw [e]; exact List.getElem_mem hk))]
    exact h.non n hn
  · by_cases e : j = k
    · subst e
      refine ⟨A, q, c, by rw [List.getElem?_set_self (by rw [h.len]; exact hk)], ?_, ?_, h0, hb⟩
      · show ShM _ A (if m.ns[j] = m.ns[j] then l else _)
        rw [if_pos rfl]
        exact hsh.out' ho fun b hb' e => (hb b hb').2.2 e
      · show (if m.ns[j] = m.ns[j] then l else _).length = q
        rw [if_pos rfl]; exact hl
    · obtain ⟨A', q', c', e1, e2, e3, e4, e5⟩ := h.row j hj
      have hne : m.ns[j] ≠ m.ns[k] := fun e' => e ((List.getElem_inj hnd).1 e')
      refine ⟨A', q', c', by rw [List.getElem?_set_ne (fun e' => e e'.symm)]; exact e1, ?_, ?_, e4, e5⟩
      · show ShM _ A' (if m.ns[j] = m.ns[k] then l else m.told m.ns[j])
        rw [if_neg hne]
        exact e2.out' ho fun b hb' e => (e5 b hb').2.2 e
      · show (if m.ns[j] = m.ns[k] then l else m.told m.ns[j]).length = q'
        rw [if_neg hne]; exact e3
end
end Go.Proofs.Ytenccpccpjjkmaa

namespace Go.Proofs.Ytenccpccpjjkmaa
open Go.RowKit Go.Shelf Go.Sort Go.Maps CrewP
set_option linter.unusedVariables false
set_option linter.unusedSimpArgs false

/-- A row that was begun behind the world w. -/
structure OwM (w wr : World) (A : Option Addr) (cap : Nat) (L : List Mk) : Prop where
  row : RowK wr 28 33 A L.length cap (mks L)
  bel : Below w.heap.size w wr
  own : ∀ b, blkOf A b → w.heap.size ≤ b
section
variable {w wr w' : World} {A : Option Addr} {cap : Nat} {L : List Mk}
theorem OwM.nil (w : World) : OwM w w none 0 [] := ⟨RowK.nil _ _ _, Below.refl _ _, fun b ⟨a, ha, _⟩ => by cases ha⟩
theorem OwM.empty (h : Below w.heap.size w wr) : OwM w wr none 0 [] := ⟨RowK.nil _ _ _, h, fun b ⟨a, ha, _⟩ => by cases ha⟩
theorem OwM.below (h : OwM w wr A cap L) (hb : Below wr.heap.size wr w') : OwM w w' A cap L := ⟨h.row.below hb h.row.lt, h.bel.trans (hb.mono h.bel.size), h.own⟩
theorem OwM.push (h : OwM w wr A cap L) (y : Mk) {Y : List Value} (hY : mkC y = Y) {n : Nat} (hn : L.length = n) (hn2 : n ≤ 1000) : ∃ w7 A2 c2 w8,
    (Instr.buildSlice 54 1 #[(0, .agg Y.toArray)]).run Try.prog wr = .ok (.slice (some ⟨wr.heap.size, 0, none⟩) 1 1) w7 ∧
    (Builtin.append_ #[54, 54] 54 #[.slice A n cap, .slice (some ⟨wr.heap.size, 0, none⟩) 1 1]).run Try.prog w7 = .ok (.slice A2 (n + 1) c2) w8 ∧ OwM w w8 A2 c2 (L ++ [y]) ∧ Out (blkOf A) wr w8 := by
  subst hY hn
  obtain ⟨w7, hw7⟩ : ∃ W, wr.alloc (.cells (mkC y).toArray 28) = W := ⟨_, rfl⟩
  have hb7 : Below wr.heap.size wr w7 := by rw [← hw7]; exact (Below.refl _ _).alloc (Nat.le_refl _) _
  have hB7 : Blk w7 wr.heap.size 28 (mkC y) := by rw [← hw7]; exact Blk.new rfl rfl
  have hr7 := row_mark y wr
  rw [hw7] at hr7
  obtain ⟨A2, c2, w8, hr8, hrow8, hO8, hA8⟩ := app_mk (c := 1) (h.row.below hb7 (h.row.lt)) rfl ⟨wr.heap.size, 0, none⟩ rfl (fun j u hu => by rw [add_mk, Nat.zero_add]; exact hB7.cell hu) (by omega) 54
  have hbl7 := h.bel.trans (hb7.mono h.bel.size)
  refine ⟨w7, A2, c2, w8, hr7, hr8, ⟨by rw [List.length_append]; exact hrow8, hbl7.trans (hO8.above (B := w.heap.size) (fun i hi => h.own i hi) (Nat.le_trans h.bel.size hb7.size)), fun b hb => ?_⟩, (Out.ofBelow _ hb7).trans hO8 fun i _ e => e⟩
  rcases hA8 b hb with e | e
  · exact h.own b e
  · have := h.bel.size; have := hb7.size; omega
end
end Go.Proofs.Ytenccpccpjjkmaa

namespace Go.Proofs.Ytenccpccpjjkmaa
open Go.RowKit Go.Shelf Go.Sort Go.Maps CrewP Go.Lib
set_option linter.unusedVariables false
set_option linter.unusedSimpArgs false

theorem atM_snoc (l : List Mk) (y : Mk) (s : Int) : atM (l ++ [y]) s = atM l s + if y.s < s then 1 else 0 := by
  unfold atM
  rw [List.countP_append, List.countP_cons, List.countP_nil]
  simp
theorem atM_all {l : List Mk} {s : Int} (h : ∀ z ∈ l, z.s < s) : atM l s = l.length := by
  unfold atM
  rw [List.countP_eq_length]
  intro z hz
  simpa using h z hz
/-- What the loop has written when it has seen l. -/
def vPut (x : Mk) (l : List Mk) : Bool := l.any fun y => decide (x.s < y.s)
def vOut (x : Mk) (l : List Mk) : List Mk := if vPut x l = true then insM l x else l
theorem vPut_snoc (x : Mk) (l : List Mk) (y : Mk) : vPut x (l ++ [y]) = (vPut x l || decide (x.s < y.s)) := by
  unfold vPut
  rw [List.any_append]
  simp
theorem vPut_false {x : Mk} {l : List Mk} (h : vPut x l = false) (hn : ∀ z ∈ l, z.s ≠ x.s) : ∀ z ∈ l, z.s < x.s := fun z hz => by
  unfold vPut at h
  rw [List.any_eq_false] at h
  have h1 := h z hz
  have h2 := hn z hz
  simp at h1
  omega
theorem vOut_in {x : Mk} {l : List Mk} {y : Mk} (h : vPut x l = false) (hn : ∀ z ∈ l, z.s ≠ x.s) (hy : x.s < y.s) : vOut x (l ++ [y]) = l ++ [x] ++ [y] := by
  unfold vOut
  rw [vPut_snoc, h, Bool.false_or, decide_eq_true hy, if_pos rfl]
  unfold insM
  rw [atM_snoc, atM_all (vPut_false h hn), if_neg (by omega), Nat.add_zero, List.take_left', List.drop_left'] <;> rfl
theorem vOut_lo {x : Mk} {l : List Mk} {y : Mk} (h : vPut x l = false) (hy : ¬ x.s < y.s) : vOut x (l ++ [y]) = vOut x l ++ [y] := by
  unfold vOut
  rw [vPut_snoc, h, Bool.false_or, decide_eq_false hy]
  rfl
theorem vOut_hi {x : Mk} {l : List Mk} {y : Mk} (h : vPut x l = true) (hs : Srt (l ++ [y])) : vOut x (l ++ [y]) = vOut x l ++ [y] := by
  have hy : ¬ y.s < x.s := by
    unfold vPut at h
    obtain ⟨z, hz, h1⟩ := List.any_eq_true.1 h
    have h1 : x.s < z.s := by simpa using h1
    unfold Srt at hs
    rw [List.pairwise_append] at hs
    have := hs.2.2 z hz y (by simp)
    omega
  unfold vOut
  rw [vPut_snoc, h, Bool.true_or, if_pos rfl, if_pos rfl]
  unfold insM
  rw [atM_snoc, if_neg hy, Nat.add_zero, List.take_append_of_le_length (atM_le _ _), List.drop_append_of_le_length (atM_le _ _), List.append_assoc, List.append_assoc, List.append_assoc]
theorem vOut_end {x : Mk} {l : List Mk} (hn : ∀ z ∈ l, z.s ≠ x.s) : insM l x = if vPut x l = true then vOut x l else vOut x l ++ [x] := by
  unfold vOut
  cases h : vPut x l with
  | true => rfl
  | false =>
    unfold insM
    rw [atM_all (vPut_false h hn), List.take_length, List.drop_length]
    simp
theorem vOut_len (x : Mk) (l : List Mk) : (vOut x l).length ≤ l.length + 1 := by
  unfold vOut
  split
  · rw [insM_len]; exact Nat.le_refl _
  · omega
theorem cutM_five {l : List Mk} (h : l.length ≤ 5) : cutM l = if 4 < l.length then l.drop 1 else l := by
  unfold cutM
  by_cases h4 : 4 < l.length
  · rw [if_pos h4, show l.length - 4 = 1 by omega]
  · rw [if_neg h4, show l.length - 4 = 0 by omega, List.drop_zero]

theorem sl_one (b n c : Nat) (h : 1 < n) (hc : n ≤ c) (w : World) : (Instr.sliceAt 54 (.slice (some ⟨b, 0, none⟩) n c) (some (.int .i64 1)) none none).run Try.prog w = .ok (.slice (some ⟨b, 33, none⟩) (n - 1) (c - 1)) w := by
  have h1 : (1 : Int) ≤ (n : Int) := by omega
  have h2 : ¬ (c = 1) := by omega
  have h3 : ¬ (n = 1) := by omega
  go_simp
theorem ShM.rest {w : World} {b : Nat} {l : List Mk} (h : ShM w (some ⟨b, 0, none⟩) l) (hl : 1 < l.length) : ShM w (some ⟨b, 33, none⟩) (l.drop 1) := fun _ => by
  obtain ⟨b', o, e, h1, h2⟩ := h (by omega)
  injection e with e
  injection e with e1 e2
  subst e1 e2
  refine ⟨b, 33, rfl, h1, fun j u hu => ?_⟩
  have := h2 (33 + j) u (by rw [← hu]; cases l with
    | nil => simp at hl
    | cons x l => show (mks (x :: l))[33 + j]? = _; rw [show mks (x :: l) = mkC x ++ mks l from rfl, List.getElem?_append_right (by rw [mkC_len]; omega), mkC_len]; simp)
  rw [← this]
  congr 2
  omega
section
variable {w w' : World} {U : Nat → Prop} {r : Nat} {m : Ms} {lb ab cap : Nat} {cs : List Value}
set_option maxRecDepth 100000 in
set_option maxHeartbeats 12800000 in
theorem rvote_in (h : RfIn w U r m lb ab cap cs) (n : Int) (x : Mk) (E : Int) (hE : voteE m n x = E) :
    Calls Try.prog 13 #[.pointer (some ⟨r, 0, none⟩), .int .i64 n, .agg (mkC x).toArray] w fun e w' => e = .returned (.int .i64 E) ∧ RfAt w' (Gr U w w') r (voteS m n x) ∧ Out U w w' := by
  have b1 : Below w.heap.size w (w.alloc (.cells (mkC x).toArray 28)) := (Below.refl _ _).alloc (Nat.le_refl _) _
  have X1 : Blk (w.alloc (.cells (mkC x).toArray 28)) w.heap.size 28 (mkC x) := Blk.new rfl rfl
  have h1 := h.below b1
  have Hp := Lib.hid (place_in h1 n)
  have c0 := X1.cell (i := 0) (v := .int .i64 x.s) rfl
  have c2 := h1.blk.cell (i := 2) (v := .int .i64 m.lo.s) rfl
  have hfew := h.few
  have keep : ∀ w', Below w.heap.size w w' → voteS m n x = m → RfAt w' (Gr U w w') r (voteS m n x) ∧ Out U w w' := fun w' hb e => by
    rw [e]
    exact ⟨⟨_, _, _, _, (h.below hb).wide (fun i hi => .inl hi) fun i hi => hi.elim (fun hi => Nat.lt_of_lt_of_le (h.lt i hi) hb.size) fun hi => hi.2⟩, Out.ofBelow U hb⟩
  have fin : ∀ (wr : World) (j : Nat) (hj : j < m.ns.length) (A : Option Addr) (q c : Nat), m.ns[j] = n → Below w.heap.size w wr → ShM wr A (cutM (insM (m.told n) x)) → (cutM (insM (m.told n) x)).length = q → 0 < q → (∀ b, blkOf A b → w.heap.size ≤ b ∧ b < wr.heap.size) → voteS m n x = m.set n (cutM (insM (m.told n) x)) →
      RfAt (wr.setCell ⟨lb, j, none⟩ (.slice A q c)) (Gr U w (wr.setCell ⟨lb, j, none⟩ (.slice A q c))) r (voteS m n x) ∧ Out U w (wr.setCell ⟨lb, j, none⟩ (.slice A q c)) := fun wr j hj A q c hn hb hsh hl hq hbk hs => by
    have hok := voteS_ok h.ok n x
    rw [hs] at hok ⊢
    have hR := (h.below hb).wide (U' := Gr U w wr) (fun i hi => .inl hi) fun i hi => hi.elim (fun hi => Nat.lt_of_lt_of_le (h.lt i hi) hb.size) fun hi => hi.2
    subst hn
    obtain ⟨k1, k2⟩ := hR.set_row hj (c := c) hsh hl (by omega) (fun b hb' => ⟨.inr (hbk b hb'), fun e => by have := h.lt _ h.u.1; have := (hbk b hb').1; omega, fun e => by have := h.lt _ h.u.2.1; have := (hbk b hb').1; omega⟩) hok
    exact ⟨⟨_, _, _, _, k1.wide (fun i hi => hi.imp_right fun hi => ⟨hi.1, Nat.lt_of_lt_of_le hi.2 k2.size⟩) fun i hi => hi.elim (fun hi => Nat.lt_of_lt_of_le (h.lt i hi) (Nat.le_trans hb.size k2.size)) fun hi => hi.2⟩, (Out.ofBelow U hb).trans k2 fun i _ e => by rw [show i = lb from e]; exact h.u.2.1⟩
  have HK := Lib.hid keep
  have HF := Lib.hid fin
  have HE := Lib.hid hE
  have H1 := Lib.hid (And.intro h (And.intro b1 X1))
  have mixed : Try.prog.follows Departure.mixedOrders = true := by kernel_rfl
  clear keep fin hE h h1 b1 X1
  generalize hX : mkC x = X at *
  have HX := Lib.hid hX
  clear hX
  go_enter Try.func13, Try.ntmps13
  go_wp2_with fail
  refine Hp.out.mono ?_
  rintro e w' ⟨k, rfl, hk, hww⟩
  subst hww
  clear Hp
  rcases hk with ⟨rfl, hn⟩ | ⟨j, hj, rfl, hx⟩
  · have hE1 : E = 110 := by rw [← HE.out]; unfold voteE; rw [if_pos hn]
    have hs : voteS m n x = m := by unfold voteS; rw [HE.out, hE1, if_neg (by omega)]
    have HS := Lib.hid hs
    subst hE1
    clear hs hn
    go_wp2
    go_ret
    exact ⟨rfl, HK.out _ H1.out.2.1 HS.out⟩
  have hin : ¬ n ∉ m.ns := fun e => e (by rw [← hx]; exact List.getElem_mem hj)
  have Hin := Lib.hid hin
  have Hx := Lib.hid hx
  clear hin hx
  have hj0 : ¬ (j : Int) < 0 := by omega
  by_cases h5 : x.s ≤ m.lo.s
  · have hE1 : E = 9 := by rw [← HE.out]; unfold voteE; rw [if_neg Hin.out, if_pos (.inl h5)]
    have hs : voteS m n x = m := by unfold voteS; rw [HE.out, hE1, if_neg (by omega)]
    have HS := Lib.hid hs
    subst hE1
    clear hs
    go_upto_region 4 with fail
    go_quiet (fail)
    go_wp2
    go_ret
    exact ⟨rfl, HK.out _ (below_drewN H1.out.2.1 nq) HS.out⟩
  by_cases h6 : 9007199254740991 < x.s
  · have hE1 : E = 9 := by rw [← HE.out]; unfold voteE; rw [if_neg Hin.out, if_pos (.inr h6)]
    have hs : voteS m n x = m := by unfold voteS; rw [HE.out, hE1, if_neg (by omega)]
    have HS := Lib.hid hs
    have hmy : ∀ W, Calls Try.prog 30 #[.int .i64 x.s] W fun e w' => e = .returned (.bool false) ∧ w' = W := fun W => by
      have := may_any x.s W
      rw [decide_eq_false (by omega)] at this
      exact this
    have Hmy := Lib.hid hmy
    subst hE1
    clear hs hmy
    go_upto_region 4 with fail
    go_quiet ((go_at_call 30; exact Calls.quiet_of_same (Hmy.out _)))
    go_wp2
    go_ret
    exact ⟨rfl, HK.out _ (below_drewN H1.out.2.1 nq) HS.out⟩
  have hmy : ∀ W, Calls Try.prog 30 #[.int .i64 x.s] W fun e w' => e = .returned (.bool true) ∧ w' = W := fun W => by
    have := may_any x.s W
    rw [decide_eq_true (by have := H1.out.1.ok.lo0; omega)] at this
    exact this
  have Hmy := Lib.hid hmy
  have hrg : ¬ (x.s ≤ m.lo.s ∨ 9007199254740991 < x.s) := by omega
  have Hrg := Lib.hid hrg
  clear hmy hrg
  go_upto_region 4 with fail
  go_quiet ((go_at_call 30; exact Calls.quiet_of_same (Hmy.out _)))
  have b2 := below_drewN H1.out.2.1 nq
  have X2 := H1.out.2.2.below (below_drewN (Below.refl _ _) nq) H1.out.2.2.lt
  generalize (w.alloc (.cells X.toArray 28)).drewN nq = w2 at *
  have h2 := H1.out.1.below b2
  obtain ⟨A, q, c, e1, e2, e3, e4, e5⟩ := h2.row j hj
  rw [Hx.out] at e2 e3
  have hl4 := H1.out.1.ok.len n
  have hsrt := H1.out.1.ok.srt n
  obtain ⟨l, hl⟩ : ∃ l, m.told n = l := ⟨_, rfl⟩
  rw [hl] at e2 e3 hl4 hsrt
  have hjn : (j : Int) < (m.ns.length : Int) := by omega
  have hj0' : (j : Int) ≥ 0 := by omega
  have HL := Lib.hid (And.intro h2 (And.intro e1 (And.intro e3 (And.intro hl (And.intro hsrt (And.intro X2 b2))))))
  have hq4 : q ≤ 4 := by omega
  clear h2 e1 e2 e3 e4 e5 hl hsrt X2 b2 hl4 Hmy Hin c0 c2
  go_upto_region 9 with fail
  go_loopw [8, 9, 10] (fun v8 v9 v10 wr => ∃ (i : Nat) (A' : Option Addr) (cap' : Nat), i ≤ q ∧ v10 = .int .i64 (i : Int) ∧ v9 = .bool (vPut x (l.take i)) ∧ v8 = .slice A' (vOut x (l.take i)).length cap' ∧ OwM w2 wr A' cap' (vOut x (l.take i)) ∧ ∀ z ∈ l.take i, z.s ≠ x.s) (fun _ _ v _ => 10 - (intOf v).toNat)
  case atStart => exact ⟨0, none, 0, Nat.zero_le _, rfl, rfl, rfl, OwM.nil _, by simp⟩
  case round =>
    obtain ⟨i, A', cap', hi, rfl, rfl, rfl, hI, hne⟩ := hrel
    have hR := HL.out.1.below hI.bel
    have c35 := hR.blk.cell (msU_35 _ _ _ _)
    have cj := hR.rows.cell HL.out.2.1
    obtain ⟨p, hp⟩ : ∃ p, vPut x (l.take i) = p := ⟨_, rfl⟩
    rw [hp]
    obtain ⟨N, hN⟩ : ∃ N, (vOut x (l.take i)).length = N := ⟨_, rfl⟩
    rw [hN]
    have hN6 : N ≤ 5 := by have := vOut_len x (l.take i); rw [List.length_take] at this; omega
    have HI := Lib.hid (And.intro hI (And.intro hne (And.intro hp hN)))
    clear hI hne hp hN
    by_cases hiq : i < q
    · have hiq' : (i : Int) < (q : Int) := by omega
      have hi0 : (i : Int) ≥ 0 := by omega
      have hil : i < l.length := by have := HL.out.2.2.1; omega
      have hwi : IntKind.i64.wrap ((i : Int) + 1) = (i : Int) + 1 := IntWalk.i64_in _ (by omega)
      have hrow : ShM wr A l := by rw [← HL.out.2.2.2.1, ← Hx.out]; exact hR.row_of hj HL.out.2.1
      obtain ⟨b, o, hA, hrg⟩ := hrow.at_ hil
      have hts0 : l.take (i + 1) = l.take i ++ [l[i]] := List.take_succ_eq_append_getElem hil
      have hmem : l[i] ∈ l := List.getElem_mem hil
      have hss : Srt (l.take i ++ [l[i]]) := by rw [← hts0]; exact List.Pairwise.sublist (List.take_sublist _ _) HL.out.2.2.2.2.1
      have hts := Lib.hid (And.intro hts0 (And.intro hmem hss))
      clear hts0 hrow hmem hss hR
      generalize l[i] = y at *
      subst hA
      have ix := fun w => hidx_at w b o q c i hiq
      obtain ⟨W1, hW1, ⟨hth, hin⟩, hB11, hbe, hsz⟩ := row_local wr 28 (mkC mk0) (mkC y) (by rw [mkC_len, mkC_len]) (by rw [mkC_len]; exact mark_info1)
      have hI1 := HI.out.1.below hbe
      have hX1 := HL.out.2.2.2.2.2.1.below hI1.bel HL.out.2.2.2.2.2.1.lt
      have cx : W1.cell? ⟨w.heap.size, 0, none⟩ = some (.int .i64 x.s) := hX1.cell (by rw [← HX.out]; rfl)
      have cy : W1.cell? ⟨wr.heap.size, 0, none⟩ = some (.int .i64 y.s) := hB11.cell rfl
      obtain ⟨Y, hY⟩ : ∃ Y, mkC y = Y := ⟨_, rfl⟩
      have HY := Lib.hid hY
      have hyi := mark_infoL y
      have hyo := mkC_oneA y
      rw [hY] at hrg hW1 hth hin hB11 hyi hyo
      have HV := Lib.hid (And.intro hW1 (And.intro hth (And.intro hin (And.intro hyo (And.intro hyi hrg)))))
      have HB := Lib.hid (And.intro hI1 (And.intro hX1 hB11))
      clear hW1 hth hin hbe hsz hI1 hX1 hY hrg hyi hyo hB11
      by_cases hyx : y.s = x.s
      · have hyx' : (y.s == x.s) = true := by simp [hyx]
        have hdy := mark_row_d (x := y) (by rw [HY.out]; exact HB.out.2.2)
        have hdx := mark_row_d (x := x) (by rw [HX.out]; exact HB.out.2.1)
        have hlx : (Try.prog.info? 26).map (·.size) = some (cbs x.d).length := by rw [cbs_length, x.hd]; exact dig_info
        have hly : (Try.prog.info? 26).map (·.size) = some (cbs y.d).length := by rw [cbs_length, y.hd]; exact dig_info
        have heq := dg_eq y.d x.d y.hd x.hd
        have hf := findM_mem HL.out.2.2.2.2.1 hts.out.2.1
        rw [hyx] at hf
        have hE2 : E = if y = x then 0 else 151 := by rw [← HE.out]; unfold voteE; rw [if_neg (by intro e; exact e (by rw [← Hx.out]; exact List.getElem_mem hj)), if_neg Hrg.out, HL.out.2.2.2.1, hf]
        have hs : voteS m n x = m := by unfold voteS; rw [HL.out.2.2.2.1, hf, if_neg (by simp)]
        have hE3 : E = if (y.d == x.d) = true then 0 else 151 := by
          rw [hE2]
          by_cases e : y.d = x.d
          · rw [if_pos (Mk.eq hyx e), if_pos (by simpa using e)]
          · rw [if_neg (fun e' => e (by rw [e'])), if_neg (by simpa using e)]
        obtain ⟨B, hB⟩ : ∃ B, (y.d == x.d) = B := ⟨_, rfl⟩
        rw [hB] at hE3
        unfold dgA at heq
        simp only [hB] at heq
        have HQ := Lib.hid (And.intro hdy (And.intro hly (And.intro hdx (And.intro hlx (And.intro hE3 hs)))))
        clear hdy hdx hlx hly hf hE2 hE3 hs hB
        generalize cbs x.d = DX at *
        generalize cbs y.d = DY at *
        go_upto_region 11 with fail
        go_upto_region 12 with (first
          | (refine load_mid_g rfl 28 _ rfl b (o + i * 33) rfl Y _ HV.out.2.2.2.2.2 Try.underlying28 rfl HV.out.2.2.2.2.1 ?_; simp only [Act.put])
          | (refine wpList_store_mid rfl 28 _ _ rfl wr.heap.size 0 Y.toArray rfl rfl HV.out.2.1 HV.out.2.2.1 HV.out.2.2.2.1 ?_; simp only [Act.put]; refine cast (congrArg (fun z => wpList _ _ _ _ _ z) HV.out.1.symm) ?_))
        clear ix c35 cj
        cases B with
        | true =>
          obtain rfl : E = 0 := HQ.out.2.2.2.2.1
          go_upto_region 13 with fail
          go_wp2_with (first
            | (refine load_mid_g rfl 26 _ rfl wr.heap.size 1 rfl DY _ HQ.out.1 Try.underlying26 rfl HQ.out.2.1 ?_; simp only [Act.put])
            | (refine load_mid_g rfl 26 _ rfl w.heap.size 1 rfl DX _ HQ.out.2.2.1 Try.underlying26 rfl HQ.out.2.2.2.1 ?_; simp only [Act.put]))
          go_ret
          exact ⟨rfl, HK.out _ (HL.out.2.2.2.2.2.2.trans (HB.out.1.bel.mono HL.out.2.2.2.2.2.2.size)) HQ.out.2.2.2.2.2⟩
        | false =>
          obtain rfl : E = 151 := HQ.out.2.2.2.2.1
          go_upto_region 13 with fail
          go_wp2_with (first
            | (refine load_mid_g rfl 26 _ rfl wr.heap.size 1 rfl DY _ HQ.out.1 Try.underlying26 rfl HQ.out.2.1 ?_; simp only [Act.put])
            | (refine load_mid_g rfl 26 _ rfl w.heap.size 1 rfl DX _ HQ.out.2.2.1 Try.underlying26 rfl HQ.out.2.2.2.1 ?_; simp only [Act.put]))
          go_ret
          exact ⟨rfl, HK.out _ (HL.out.2.2.2.2.2.2.trans (HB.out.1.bel.mono HL.out.2.2.2.2.2.2.size)) HQ.out.2.2.2.2.2⟩
      · have hyx' : (y.s == x.s) = false := by simp [hyx]
        have hne' : ∀ z ∈ l.take (i + 1), z.s ≠ x.s := fun z hz => by
          rw [hts.out.1, List.mem_append, List.mem_singleton] at hz
          rcases hz with hz | rfl
          · exact HI.out.2.1 z hz
          · exact hyx
        have HNE := Lib.hid hne'
        clear hne'
        have hxi := mark_infoL x
        rw [HX.out] at hxi
        have HXi := Lib.hid hxi
        clear hxi
        go_upto_region 11 with fail
        go_upto_region 12 with (first
          | (refine load_mid_g rfl 28 _ rfl b (o + i * 33) rfl Y _ HV.out.2.2.2.2.2 Try.underlying28 rfl HV.out.2.2.2.2.1 ?_; simp only [Act.put])
          | (refine wpList_store_mid rfl 28 _ _ rfl wr.heap.size 0 Y.toArray rfl rfl HV.out.2.1 HV.out.2.2.1 HV.out.2.2.2.1 ?_; simp only [Act.put]; refine cast (congrArg (fun z => wpList _ _ _ _ _ z) HV.out.1.symm) ?_))
        clear ix c35 cj
        go_upto_region 16 with fail
        cases p with
        | false =>
          by_cases hlt : x.s < y.s
          · skip
            have hsp := vOut_in (x := x) (l := l.take i) (y := y) HI.out.2.2.1 HI.out.2.1 hlt
            have hv0 : vOut x (l.take i) = l.take i := by unfold vOut; rw [HI.out.2.2.1]; rfl
            have hvp : vPut x (l.take (i + 1)) = true := by rw [hts.out.1, vPut_snoc, decide_eq_true hlt, Bool.or_true]
            obtain ⟨w7, A2, c2, w8, hr7, hr8, ho8, hO8⟩ := HB.out.1.push x HX.out (n := N) HI.out.2.2.2 (by omega)
            obtain ⟨w9, A3, c3, w10, hr9, hr10, ho10, hO10⟩ := ho8.push y HY.out (n := N + 1) (by rw [List.length_append, HI.out.2.2.2]; rfl) (by omega)
            have hY8 := (hO8.blk HB.out.2.2 (fun hb => by have := HI.out.1.row.lt _ hb; omega)).range
            rw [hv0, ← hsp, ← hts.out.1] at ho10
            have hl10 : (vOut x (l.take (i + 1))).length = N + 1 + 1 := by rw [hts.out.1, hsp, ← hv0, List.length_append, List.length_append, HI.out.2.2.2]; rfl
            have HP := Lib.hid (And.intro hr7 (And.intro hr8 (And.intro hr9 (And.intro hr10 (And.intro ho10 (And.intro HB.out.2.1.range (And.intro hY8 (And.intro hvp hl10))))))))
            clear hr7 hr8 ho8 hO8 hr9 hr10 ho10 hO10 hY8 hv0 hsp hvp hl10
            go_upto_region 17 with fail
            go_upto_region 18 with (first
              | (show wpList _ _ _ ({ dst := some 73, op := _, type := _, pos := _, after := _, guard := none } :: _) _ _; refine load_mid_g rfl 28 _ rfl w.heap.size 0 rfl X _ HP.out.2.2.2.2.2.1 Try.underlying28 rfl HXi.out ?_; simp only [Act.put])
              | (show wpList _ _ _ ({ dst := some 74, op := _, type := _, pos := _, after := _, guard := none } :: _) _ _; refine row_g rfl 54 1 _ rfl (.slice (some ⟨W1.heap.size, 0, none⟩) 1 1) w7 (by simp only [List.map_toArray, List.map_cons, List.map_nil]; exact HP.out.1) ?_; simp only [Act.put])
              | (show wpList _ _ _ ({ dst := some 75, op := _, type := _, pos := _, after := _, guard := none } :: _) _ _; refine app_g rfl _ _ _ _ rfl _ _ _ w8 rfl rfl HP.out.2.1 ?_; simp only [Act.put]))
            go_upto_region 19 with fail
            go_wp2_with (first
              | (show wpList _ _ _ ({ dst := some 77, op := _, type := _, pos := _, after := _, guard := none } :: _) _ _; refine load_mid_g rfl 28 _ rfl wr.heap.size 0 rfl Y _ HP.out.2.2.2.2.2.2.1 Try.underlying28 rfl HV.out.2.2.2.2.1 ?_; simp only [Act.put])
              | (show wpList _ _ _ ({ dst := some 78, op := _, type := _, pos := _, after := _, guard := none } :: _) _ _; refine row_g rfl 54 1 _ rfl (.slice (some ⟨w8.heap.size, 0, none⟩) 1 1) w9 (by simp only [List.map_toArray, List.map_cons, List.map_nil]; exact HP.out.2.2.1) ?_; simp only [Act.put])
              | (show wpList _ _ _ ({ dst := some 79, op := _, type := _, pos := _, after := _, guard := none } :: _) _ _; refine app_g rfl _ _ _ _ rfl _ _ _ w10 rfl rfl HP.out.2.2.2.1 ?_; simp only [Act.put]))
            go_roundw
            case rel => exact ⟨i + 1, A3, c3, by omega, by first | rfl | (push_cast; rfl), by rw [HP.out.2.2.2.2.2.2.2.1], by rw [HP.out.2.2.2.2.2.2.2.2], HP.out.2.2.2.2.1, HNE.out⟩
            case measure => simp [intOf]; omega
          · skip
            have hsp := vOut_lo (x := x) (l := l.take i) (y := y) HI.out.2.2.1 hlt
            have hvp : vPut x (l.take (i + 1)) = false := by rw [hts.out.1, vPut_snoc, HI.out.2.2.1, decide_eq_false hlt]; rfl
            obtain ⟨w7, A2, c2, w8, hr7, hr8, ho8, hO8⟩ := HB.out.1.push y HY.out (n := N) HI.out.2.2.2 (by omega)
            have hl10 : (vOut x (l.take (i + 1))).length = N + 1 := by rw [hts.out.1, hsp, List.length_append, HI.out.2.2.2]; rfl
            rw [← hsp, ← hts.out.1] at ho8
            have HP := Lib.hid (And.intro hr7 (And.intro hr8 (And.intro ho8 (And.intro HB.out.2.2.range (And.intro hvp hl10)))))
            clear hr7 hr8 ho8 hO8 hsp hvp hl10
            go_upto_region 19 with fail
            go_wp2_with (first
              | (show wpList _ _ _ ({ dst := some 77, op := _, type := _, pos := _, after := _, guard := none } :: _) _ _; refine load_mid_g rfl 28 _ rfl wr.heap.size 0 rfl Y _ HP.out.2.2.2.1 Try.underlying28 rfl HV.out.2.2.2.2.1 ?_; simp only [Act.put])
              | (show wpList _ _ _ ({ dst := some 78, op := _, type := _, pos := _, after := _, guard := none } :: _) _ _; refine row_g rfl 54 1 _ rfl (.slice (some ⟨W1.heap.size, 0, none⟩) 1 1) w7 (by simp only [List.map_toArray, List.map_cons, List.map_nil]; exact HP.out.1) ?_; simp only [Act.put])
              | (show wpList _ _ _ ({ dst := some 79, op := _, type := _, pos := _, after := _, guard := none } :: _) _ _; refine app_g rfl _ _ _ _ rfl _ _ _ w8 rfl rfl HP.out.2.1 ?_; simp only [Act.put]))
            go_roundw
            case rel => exact ⟨i + 1, A2, c2, by omega, by first | rfl | (push_cast; rfl), by rw [HP.out.2.2.2.2.1], by rw [HP.out.2.2.2.2.2], HP.out.2.2.1, HNE.out⟩
            case measure => simp [intOf]; omega
        | true =>
          have hsp := vOut_hi (x := x) (l := l.take i) (y := y) HI.out.2.2.1 hts.out.2.2
          have hvp : vPut x (l.take (i + 1)) = true := by rw [hts.out.1, vPut_snoc, HI.out.2.2.1, Bool.true_or]
          obtain ⟨w7, A2, c2, w8, hr7, hr8, ho8, hO8⟩ := HB.out.1.push y HY.out (n := N) HI.out.2.2.2 (by omega)
          have hl10 : (vOut x (l.take (i + 1))).length = N + 1 := by rw [hts.out.1, hsp, List.length_append, HI.out.2.2.2]; rfl
          rw [← hsp, ← hts.out.1] at ho8
          have HP := Lib.hid (And.intro hr7 (And.intro hr8 (And.intro ho8 (And.intro HB.out.2.2.range (And.intro hvp hl10)))))
          clear hr7 hr8 ho8 hO8 hsp hvp hl10
          go_upto_region 19 with fail
          go_wp2_with (first
            | (show wpList _ _ _ ({ dst := some 77, op := _, type := _, pos := _, after := _, guard := none } :: _) _ _; refine load_mid_g rfl 28 _ rfl wr.heap.size 0 rfl Y _ HP.out.2.2.2.1 Try.underlying28 rfl HV.out.2.2.2.2.1 ?_; simp only [Act.put])
            | (show wpList _ _ _ ({ dst := some 78, op := _, type := _, pos := _, after := _, guard := none } :: _) _ _; refine row_g rfl 54 1 _ rfl (.slice (some ⟨W1.heap.size, 0, none⟩) 1 1) w7 (by simp only [List.map_toArray, List.map_cons, List.map_nil]; exact HP.out.1) ?_; simp only [Act.put])
            | (show wpList _ _ _ ({ dst := some 79, op := _, type := _, pos := _, after := _, guard := none } :: _) _ _; refine app_g rfl _ _ _ _ rfl _ _ _ w8 rfl rfl HP.out.2.1 ?_; simp only [Act.put]))
          go_roundw
          case rel => exact ⟨i + 1, A2, c2, by omega, by first | rfl | (push_cast; rfl), by rw [HP.out.2.2.2.2.1], by rw [HP.out.2.2.2.2.2], HP.out.2.2.1, HNE.out⟩
          case measure => simp [intOf]; omega
    · have hiq' : ¬ (i : Int) < (q : Int) := by omega
      obtain rfl : i = q := by omega
      have hall : l.take i = l := List.take_of_length_le (by have := HL.out.2.2.1; omega)
      rw [hall] at HI
      have hf : findM l x.s = none := findM_none.2 HI.out.2.1
      have hE1 : E = 0 := by rw [← HE.out]; unfold voteE; rw [if_neg (by intro e; exact e (by rw [← Hx.out]; exact List.getElem_mem hj)), if_neg Hrg.out, HL.out.2.2.2.1, hf]
      have hs : voteS m n x = m.set n (cutM (insM (m.told n) x)) := by unfold voteS; rw [HL.out.2.2.2.1, hf, if_pos ⟨HE.out.trans hE1, rfl⟩]
      have hin : insM l x = if vPut x l = true then vOut x l else vOut x l ++ [x] := vOut_end HI.out.2.1
      have hlen : (insM l x).length = i + 1 := by rw [insM_len, HL.out.2.2.1]
      have hcut := cutM_five (l := insM l x) (by rw [hlen]; omega)
      have HT := Lib.hid (And.intro hs (And.intro hin (And.intro hlen hcut)))
      subst hE1
      clear hs hin hlen hcut hf hall hR
      cases p with
      | false =>
        have hin2 := HT.out.2.1
        rw [if_neg (by rw [HI.out.2.2.1]; simp)] at hin2
        obtain ⟨w7, A2, c2, w8, hr7, hr8, ho8, hO8⟩ := HI.out.1.push x HX.out (n := N) HI.out.2.2.2 (by omega)
        rw [← hin2] at ho8
        obtain ⟨M, hM⟩ : ∃ M, N + 1 = M := ⟨_, rfl⟩
        have hMi : M = i + 1 := by rw [← hM, ← HT.out.2.2.1, hin2, List.length_append, HI.out.2.2.2]; rfl
        rw [hM] at hr8
        have hXr := (HL.out.2.2.2.2.2.1.below HI.out.1.bel HL.out.2.2.2.2.2.1.lt).range
        have hxi := mark_infoL x
        rw [HX.out] at hxi
        have HP := Lib.hid (And.intro hr7 (And.intro hr8 (And.intro hXr hxi)))
        clear hr7 hr8 hXr hxi hin2 hM
        have hRT := HL.out.1.below ho8.bel
        have d35 := hRT.blk.cell (msU_35 _ _ _ _)
        have dj := hRT.rows.cell HL.out.2.1
        have fj := hRT.rows.free j
        have hbel := HL.out.2.2.2.2.2.2.trans (ho8.bel.mono HL.out.2.2.2.2.2.2.size)
        obtain ⟨bb, rfl, hbb, _⟩ := ho8.row.cells (by rw [HT.out.2.2.1]; omega)
        have hbk : ∀ b, blkOf (some (⟨bb, 0, none⟩ : Addr)) b → w.heap.size ≤ b ∧ b < w8.heap.size := fun b hb => ⟨Nat.le_trans HL.out.2.2.2.2.2.2.size (ho8.own b hb), by obtain ⟨a, ha, hb⟩ := hb; injection ha with ha; subst ha; subst hb; exact hbb⟩
        have hsh := RowK.toSh ho8.row rfl
        by_cases h4 : 4 < M
        · have h4' : (M : Int) > 4 := by omega
          have hcc : M ≤ c2 := by have := ho8.row.2.1; have := HT.out.2.2.1; omega
          have hsl := sl_one bb M c2 (by omega) hcc
          have hci : cutM (insM l x) = (insM l x).drop 1 := by rw [HT.out.2.2.2, if_pos (by rw [HT.out.2.2.1]; omega)]
          have hend := HF.out w8 j hj (some ⟨bb, 33, none⟩) (M - 1) (c2 - 1) Hx.out hbel (by rw [HL.out.2.2.2.1, hci]; exact hsh.rest (by rw [HT.out.2.2.1]; omega)) (by rw [HL.out.2.2.2.1, hci, List.length_drop, HT.out.2.2.1]; omega) (by omega) (fun b hb => hbk b (by obtain ⟨a, ha, hb⟩ := hb; injection ha with ha; subst ha; exact ⟨_, rfl, hb⟩)) HT.out.1
          have HEND := Lib.hid hend
          clear hend hbk hsh hbel hRT hMi
          clear ho8 hO8
          go_upto_region 21 with fail
          go_upto_region 22 with (first
            | (show wpList _ _ _ ({ dst := some 83, op := _, type := _, pos := _, after := _, guard := none } :: _) _ _; refine load_mid_g rfl 28 _ rfl w.heap.size 0 rfl X _ HP.out.2.2.1 Try.underlying28 rfl HP.out.2.2.2 ?_; simp only [Act.put])
            | (show wpList _ _ _ ({ dst := some 84, op := _, type := _, pos := _, after := _, guard := none } :: _) _ _; refine row_g rfl 54 1 _ rfl (.slice (some ⟨wr.heap.size, 0, none⟩) 1 1) w7 (by simp only [List.map_toArray, List.map_cons, List.map_nil]; exact HP.out.1) ?_; simp only [Act.put])
            | (show wpList _ _ _ ({ dst := some 85, op := _, type := _, pos := _, after := _, guard := none } :: _) _ _; refine app_g rfl _ _ _ _ rfl _ _ _ w8 rfl rfl HP.out.2.1 ?_; simp only [Act.put]))
          go_wp2
          go_ret
          exact ⟨rfl, HEND.out⟩
        · have h4' : ¬ (M : Int) > 4 := by omega
          have hci : cutM (insM l x) = insM l x := by rw [HT.out.2.2.2, if_neg (by rw [HT.out.2.2.1]; omega)]
          have hend := HF.out w8 j hj (some ⟨bb, 0, none⟩) M c2 Hx.out hbel (by rw [HL.out.2.2.2.1, hci]; exact hsh) (by rw [HL.out.2.2.2.1, hci, HT.out.2.2.1]; omega) (by omega) hbk HT.out.1
          have HEND := Lib.hid hend
          clear hend hbk hsh hbel hRT hMi
          clear ho8 hO8
          go_upto_region 21 with fail
          go_upto_region 22 with (first
            | (show wpList _ _ _ ({ dst := some 83, op := _, type := _, pos := _, after := _, guard := none } :: _) _ _; refine load_mid_g rfl 28 _ rfl w.heap.size 0 rfl X _ HP.out.2.2.1 Try.underlying28 rfl HP.out.2.2.2 ?_; simp only [Act.put])
            | (show wpList _ _ _ ({ dst := some 84, op := _, type := _, pos := _, after := _, guard := none } :: _) _ _; refine row_g rfl 54 1 _ rfl (.slice (some ⟨wr.heap.size, 0, none⟩) 1 1) w7 (by simp only [List.map_toArray, List.map_cons, List.map_nil]; exact HP.out.1) ?_; simp only [Act.put])
            | (show wpList _ _ _ ({ dst := some 85, op := _, type := _, pos := _, after := _, guard := none } :: _) _ _; refine app_g rfl _ _ _ _ rfl _ _ _ w8 rfl rfl HP.out.2.1 ?_; simp only [Act.put]))
          go_wp2
          go_ret
          exact ⟨rfl, HEND.out⟩
      | true =>
        have hin2 := HT.out.2.1
        rw [if_pos HI.out.2.2.1] at hin2
        have ho8 := HI.out.1
        rw [← hin2] at ho8
        have hMi : N = i + 1 := by rw [← HT.out.2.2.1, hin2, HI.out.2.2.2]
        clear hin2
        have hRT := HL.out.1.below ho8.bel
        have d35 := hRT.blk.cell (msU_35 _ _ _ _)
        have dj := hRT.rows.cell HL.out.2.1
        have fj := hRT.rows.free j
        have hbel := HL.out.2.2.2.2.2.2.trans (ho8.bel.mono HL.out.2.2.2.2.2.2.size)
        obtain ⟨bb, rfl, hbb, _⟩ := ho8.row.cells (by rw [HT.out.2.2.1]; omega)
        have hbk : ∀ b, blkOf (some (⟨bb, 0, none⟩ : Addr)) b → w.heap.size ≤ b ∧ b < wr.heap.size := fun b hb => ⟨Nat.le_trans HL.out.2.2.2.2.2.2.size (ho8.own b hb), by obtain ⟨a, ha, hb⟩ := hb; injection ha with ha; subst ha; subst hb; exact hbb⟩
        have hsh := RowK.toSh ho8.row rfl
        by_cases h4 : 4 < N
        · have h4' : (N : Int) > 4 := by omega
          have hcc : N ≤ cap' := by have := ho8.row.2.1; have := HT.out.2.2.1; omega
          have hsl := sl_one bb N cap' (by omega) hcc
          have hci : cutM (insM l x) = (insM l x).drop 1 := by rw [HT.out.2.2.2, if_pos (by rw [HT.out.2.2.1]; omega)]
          have hend := HF.out wr j hj (some ⟨bb, 33, none⟩) (N - 1) (cap' - 1) Hx.out hbel (by rw [HL.out.2.2.2.1, hci]; exact hsh.rest (by rw [HT.out.2.2.1]; omega)) (by rw [HL.out.2.2.2.1, hci, List.length_drop, HT.out.2.2.1]; omega) (by omega) (fun b hb => hbk b (by obtain ⟨a, ha, hb⟩ := hb; injection ha with ha; subst ha; exact ⟨_, rfl, hb⟩)) HT.out.1
          have HEND := Lib.hid hend
          clear hend hbk hsh hbel hRT hMi
          clear ho8
          go_wp2
          go_ret
          exact ⟨rfl, HEND.out⟩
        · have h4' : ¬ (N : Int) > 4 := by omega
          have hci : cutM (insM l x) = insM l x := by rw [HT.out.2.2.2, if_neg (by rw [HT.out.2.2.1]; omega)]
          have hend := HF.out wr j hj (some ⟨bb, 0, none⟩) N cap' Hx.out hbel (by rw [HL.out.2.2.2.1, hci]; exact hsh) (by rw [HL.out.2.2.2.1, hci, HT.out.2.2.1]; omega) (by omega) hbk HT.out.1
          have HEND := Lib.hid hend
          clear hend hbk hsh hbel hRT hMi
          clear ho8
          go_wp2
          go_ret
          exact ⟨rfl, HEND.out⟩
end
end Go.Proofs.Ytenccpccpjjkmaa
