/-
  Tag of a ledger, over the code.
-/
import Derived.Test.YtkmijmlcijbbcaaTagC
namespace Go.Proofs.Ytkmijmlcijbbcaa
open Go.RowKit Go.Maps
set_option linter.unusedVariables false

set_option maxRecDepth 100000 in
set_option maxHeartbeats 1600000 in
theorem tag_any (g m k : Nat) (T : List Tg) (f t : Int) (d : List UInt8) (D : List Value) (w : World) (h : LedAt w g m T k) (hT : T.length < 1000000) (hf : Wf f) (ht : Wf t) (hd : d.length = 32) (hD : cbs d = D) :
    Calls Try.prog 7 #[.pointer (some ⟨g, 0, none⟩), .int .i64 f, .int .i64 t, .agg D.toArray] w fun e w' =>
      e = .returned (.int .i64 (errOf (okTag f t))) ∧ LedAt w' g m (tagL T f t d) k ∧ Out (fun i => i = m) w w' := by
  have ba : Below w.heap.size w (w.alloc (.cells D.toArray 28)) := (Below.refl _ _).alloc (Nat.le_refl _) _
  have b0 : Below w.heap.size w ((w.alloc (.cells D.toArray 28)).drew) := ba.drew
  have hDl : D.length = 32 := by rw [← hD, cbs_length, hd]
  have Hno := Lib.hid (none_any g m k _ (h.below ba).1)
  have hF := isn_any f (w.alloc (.cells D.toArray 28))
  have hT2 := isn_any t (w.alloc (.cells D.toArray 28))
  have hnot : ∀ (x : Bool) (w : World), (Op.unary .not (.bool x)).run Try.prog w = .ok (.bool (!x)) w := fun _ _ => rfl
  cases hok : okTag f t with
  | true =>
    have h0 := h.below b0
    obtain ⟨w3, hrun, hgr, hsz, hled⟩ := h0.2.put hT f t d hf ht hd
    have e0 : tcells f t d = tv f t D := by unfold tcells tv ci; rw [hD]
    rw [e0] at hrun
    have c0 : ((w.alloc (.cells D.toArray 28)).drew).cell? ⟨g, 0, none⟩ = some (.map (some m)) := h0.1.cell rfl
    have hdB : Blk ((w.alloc (.cells D.toArray 28)).drew) w.heap.size 28 D := Blk.new rfl rfl
    have hrd : ((w.alloc (.cells D.toArray 28)).drew).rangeAt w.heap.size 0 D := hdB.range
    have hid : (Try.prog.info? 28).map (·.size) = some D.length := by rw [hDl]; exact info32b
    have hud := Try.underlying28
    have hbt := built_triple f t d hd D hD
    have Hbu := Lib.hid built_unit
    have hne : g ≠ m := h.ne
    have hmlt := h.2.lt
    have c3 : w3.cell? ⟨g, 0, none⟩ = some (.map (some m)) := by
      rw [World.cell?_of_block (a := ⟨g, 0, none⟩) (hgr.block g (h0.1.lt) (fun e => hne (Option.some.inj e)))]; exact c0
    have r3 : w3.rangeAt w.heap.size 0 D := by
      have hb3 : Blk w3 w.heap.size 28 D := (hgr.block _ hdB.lt (fun e => by injection e with e; omega)).trans hdB
      exact hb3.range
    have hL : LedAt w3 g m (putT T (f, t, d)) k := ⟨(hgr.block g h0.1.lt (fun e => hne (Option.some.inj e))).trans h0.1, hled⟩
    have hO : Out (fun i => i = m) w w3 := ((Out.refl _ _).then_below b0).then_grown hgr fun i hi _ => by injection hi with hi; exact hi.symm
    have etag : tagL T f t d = putT T (f, t, d) := by unfold tagL; rw [if_pos hok]
    rw [etag]
    have H := Lib.hid (And.intro hL hO)
    have hok1 : isN f = true := by unfold okTag at hok; simp at hok; exact hok.1
    rw [hok1] at hF
    have Hf := Lib.hid hF
    clear hF
    have hok2 : t = 0 ∨ isN t = true := by unfold okTag at hok; simp at hok; exact hok.2
    generalize hV : tv f t D = V at *
    clear hV
    have Hbt := Lib.hid hbt
    clear hbt
    clear h h0 hled hgr hsz hdB hL hO etag e0 hok hD hDl hud hT hd
    by_cases ht0 : t = 0
    · subst ht0
      go_enter Try.func7, Try.ntmps7
      go_wp2_with (first
        | (go_at_call 21; refine Hno.out.mono ?_; rintro e w' ⟨rfl, rfl⟩)
        | (go_at_call 22; refine Hf.out.mono ?_; rintro e w' ⟨rfl, rfl⟩))
      clear Hno Hf hT2 hnot hok1 hok2 hne hmlt ba b0
      have Q0 : ((w.alloc (.cells D.toArray 28)).drew).cell? ⟨g, 0, none⟩ = some (.map (some m)) ∧ ((w.alloc (.cells D.toArray 28)).drew).rangeAt w.heap.size 0 D := ⟨c0, hrd⟩
      have Q1 : w3.cell? ⟨g, 0, none⟩ = some (.map (some m)) ∧ w3.rangeAt w.heap.size 0 D := ⟨c3, r3⟩
      refine wp_region_held_drew (S := fun W' => W'.cell? ⟨g, 0, none⟩ = some (.map (some m)) ∧ W'.rangeAt w.heap.size 0 D) (by kernel_rfl) Q0 (fun _ => ?_)
      refine anyH_take (i := 0) (d := 23) (v := ?v0) rfl rfl (by kernel_rfl) (by kernel_rfl) (by kernel_rfl) (fun _ _ _ h => h) (Or.inl ⟨by rfl, ?y0⟩) Q0 ?r0
      case y0 => (intro w; go_simp; try with_reducible rfl)
      simp only [List.setIfInBounds_toArray, List.set_cons_zero, List.set_cons_succ]
      refine anyH_take (i := 1) (d := 24) (v := ?v1) rfl rfl (by kernel_rfl) (by kernel_rfl) (by kernel_rfl) (fun _ _ _ h => h) (Or.inl ⟨by rfl, ?y1⟩) Q0 ?r1
      case y1 => (intro w; go_simp; try with_reducible rfl)
      simp only [List.setIfInBounds_toArray, List.set_cons_zero, List.set_cons_succ]
      refine anyH_take (i := 2) (d := 25) (v := ?v2) rfl rfl (by kernel_rfl) (by kernel_rfl) (by kernel_rfl) (fun _ _ _ h => h) (Or.inl ⟨by rfl, ?y2⟩) Q0 ?r2
      case y2 => (intro w; go_simp; try with_reducible rfl)
      simp only [List.setIfInBounds_toArray, List.set_cons_zero, List.set_cons_succ]
      refine wpAnyH_take' (i := 3) (d := 26) (v := ?v3) rfl rfl (by kernel_rfl) (by kernel_rfl) (by kernel_rfl) (fun _ _ _ h => h) (Or.inl ⟨by rfl, ?y3⟩) Q0 ?r3
      case y3 => (intro w hSw; go_split_ands; go_simp; try with_reducible rfl)
      simp only [List.setIfInBounds_toArray, List.set_cons_zero, List.set_cons_succ]
      refine anyH_take (i := 4) (d := 27) (v := ?v4) rfl rfl (by kernel_rfl) (by kernel_rfl) (by kernel_rfl) (fun _ _ _ h => h) (Or.inl ⟨by rfl, ?y4⟩) Q0 ?r4
      case y4 => (intro w; go_simp; try with_reducible rfl)
      simp only [List.setIfInBounds_toArray, List.set_cons_zero, List.set_cons_succ]
      refine anyH_take (i := 5) (d := 28) (v := ?v5) rfl rfl (by kernel_rfl) (by kernel_rfl) (by kernel_rfl) (fun _ _ _ h => h) (Or.inl ⟨by rfl, ?y5⟩) Q0 ?r5
      case y5 => (intro w; go_simp; try with_reducible rfl)
      simp only [List.setIfInBounds_toArray, List.set_cons_zero, List.set_cons_succ]
      refine anyH_load (i := 6) (d := 29) rfl rfl (by kernel_rfl) (by kernel_rfl) (by kernel_rfl) (by rfl) 28 _ rfl w.heap.size 0 rfl D _ (fun _ h => h.2) Try.underlying28 rfl hid (fun _ _ _ h => h) Q0 ?_
      simp only [List.setIfInBounds_toArray, List.set_cons_zero, List.set_cons_succ]
      refine anyH_take (i := 7) (d := 30) (v := .agg V.toArray) rfl rfl (by kernel_rfl) (by kernel_rfl) (by kernel_rfl) (fun _ _ _ h => h) (Or.inl ⟨by rfl, fun w => exec_build 56 _ rfl V.toArray Hbt.out w⟩) Q0 ?_
      simp only [List.setIfInBounds_toArray, List.set_cons_zero, List.set_cons_succ]
      refine anyH_take (i := 8) (d := 31) (v := .agg #[]) rfl rfl (by kernel_rfl) (by kernel_rfl) (by kernel_rfl) (fun _ _ _ h => h) (Or.inl ⟨by rfl, fun w => exec_build 44 _ rfl #[] Hbu.out w⟩) Q0 ?_
      simp only [List.setIfInBounds_toArray, List.set_cons_zero, List.set_cons_succ]
      refine anyH_one (i := 9) (by kernel_rfl) ?_
      refine wpOp_step rfl (fun K hK => ?_)
      go_simp
      refine hK _ _ ⟨Q1, ?_⟩
      clear hK K
      refine wpAnyH_done (by kernel_rfl) ?_ _
      go_wp2
      go_ret
      exact ⟨rfl, H.out⟩
    · have hok3 : isN t = true := hok2.resolve_left ht0
      rw [hok3] at hT2
      have Ht := Lib.hid hT2
      clear hT2
      go_enter Try.func7, Try.ntmps7
      go_wp2_with (first
        | (go_at_call 21; refine Hno.out.mono ?_; rintro e w' ⟨rfl, rfl⟩)
        | (have _ := hdone; go_at_call 22; refine Ht.out.mono ?_; rintro e w' ⟨rfl, rfl⟩)
        | (go_at_call 22; refine Hf.out.mono ?_; rintro e w' ⟨rfl, rfl⟩; have hdone := True.intro))
      clear Hno Hf Ht hnot hok1 hok2 hok3 ht0 hne hmlt ba b0
      have Q0 : ((w.alloc (.cells D.toArray 28)).drew).cell? ⟨g, 0, none⟩ = some (.map (some m)) ∧ ((w.alloc (.cells D.toArray 28)).drew).rangeAt w.heap.size 0 D := ⟨c0, hrd⟩
      have Q1 : w3.cell? ⟨g, 0, none⟩ = some (.map (some m)) ∧ w3.rangeAt w.heap.size 0 D := ⟨c3, r3⟩
      refine wp_region_held_drew (S := fun W' => W'.cell? ⟨g, 0, none⟩ = some (.map (some m)) ∧ W'.rangeAt w.heap.size 0 D) (by kernel_rfl) Q0 (fun _ => ?_)
      refine anyH_take (i := 0) (d := 23) (v := ?vb0) rfl rfl (by kernel_rfl) (by kernel_rfl) (by kernel_rfl) (fun _ _ _ h => h) (Or.inl ⟨by rfl, ?yb0⟩) Q0 ?rb0
      case yb0 => (intro w; go_simp; try with_reducible rfl)
      simp only [List.setIfInBounds_toArray, List.set_cons_zero, List.set_cons_succ]
      refine anyH_take (i := 1) (d := 24) (v := ?vb1) rfl rfl (by kernel_rfl) (by kernel_rfl) (by kernel_rfl) (fun _ _ _ h => h) (Or.inl ⟨by rfl, ?yb1⟩) Q0 ?rb1
      case yb1 => (intro w; go_simp; try with_reducible rfl)
      simp only [List.setIfInBounds_toArray, List.set_cons_zero, List.set_cons_succ]
      refine anyH_take (i := 2) (d := 25) (v := ?vb2) rfl rfl (by kernel_rfl) (by kernel_rfl) (by kernel_rfl) (fun _ _ _ h => h) (Or.inl ⟨by rfl, ?yb2⟩) Q0 ?rb2
      case yb2 => (intro w; go_simp; try with_reducible rfl)
      simp only [List.setIfInBounds_toArray, List.set_cons_zero, List.set_cons_succ]
      refine wpAnyH_take' (i := 3) (d := 26) (v := ?vb3) rfl rfl (by kernel_rfl) (by kernel_rfl) (by kernel_rfl) (fun _ _ _ h => h) (Or.inl ⟨by rfl, ?yb3⟩) Q0 ?rb3
      case yb3 => (intro w hSw; go_split_ands; go_simp; try with_reducible rfl)
      simp only [List.setIfInBounds_toArray, List.set_cons_zero, List.set_cons_succ]
      refine anyH_take (i := 4) (d := 27) (v := ?vb4) rfl rfl (by kernel_rfl) (by kernel_rfl) (by kernel_rfl) (fun _ _ _ h => h) (Or.inl ⟨by rfl, ?yb4⟩) Q0 ?rb4
      case yb4 => (intro w; go_simp; try with_reducible rfl)
      simp only [List.setIfInBounds_toArray, List.set_cons_zero, List.set_cons_succ]
      refine anyH_take (i := 5) (d := 28) (v := ?vb5) rfl rfl (by kernel_rfl) (by kernel_rfl) (by kernel_rfl) (fun _ _ _ h => h) (Or.inl ⟨by rfl, ?yb5⟩) Q0 ?rb5
      case yb5 => (intro w; go_simp; try with_reducible rfl)
      simp only [List.setIfInBounds_toArray, List.set_cons_zero, List.set_cons_succ]
      refine anyH_load (i := 6) (d := 29) rfl rfl (by kernel_rfl) (by kernel_rfl) (by kernel_rfl) (by rfl) 28 _ rfl w.heap.size 0 rfl D _ (fun _ h => h.2) Try.underlying28 rfl hid (fun _ _ _ h => h) Q0 ?_
      simp only [List.setIfInBounds_toArray, List.set_cons_zero, List.set_cons_succ]
      refine anyH_take (i := 7) (d := 30) (v := .agg V.toArray) rfl rfl (by kernel_rfl) (by kernel_rfl) (by kernel_rfl) (fun _ _ _ h => h) (Or.inl ⟨by rfl, fun w => exec_build 56 _ rfl V.toArray Hbt.out w⟩) Q0 ?_
      simp only [List.setIfInBounds_toArray, List.set_cons_zero, List.set_cons_succ]
      refine anyH_take (i := 8) (d := 31) (v := .agg #[]) rfl rfl (by kernel_rfl) (by kernel_rfl) (by kernel_rfl) (fun _ _ _ h => h) (Or.inl ⟨by rfl, fun w => exec_build 44 _ rfl #[] Hbu.out w⟩) Q0 ?_
      simp only [List.setIfInBounds_toArray, List.set_cons_zero, List.set_cons_succ]
      refine anyH_one (i := 9) (by kernel_rfl) ?_
      refine wpOp_step rfl (fun K hK => ?_)
      go_simp
      refine hK _ _ ⟨Q1, ?_⟩
      clear hK K
      refine wpAnyH_done (by kernel_rfl) ?_ _
      go_wp2
      go_ret
      exact ⟨rfl, H.out⟩
  | false =>
    have etag : tagL T f t d = T := by unfold tagL; rw [hok]; rfl
    rw [etag]
    have H := Lib.hid (And.intro (h.below ba) ((Out.ofBelow (fun i => i = m) ba)))
    clear h etag hD hDl b0
    cases hf1 : isN f with
    | false =>
      rw [hf1] at hF
      have Hf := Lib.hid hF
      clear hF hT2 hok
      go_enter Try.func7, Try.ntmps7
      go_wp2_with (first
        | (go_at_call 21; refine Hno.out.mono ?_; rintro e w' ⟨rfl, rfl⟩)
        | (go_at_call 22; refine Hf.out.mono ?_; rintro e w' ⟨rfl, rfl⟩))
      go_ret
      exact ⟨rfl, H.out⟩
    | true =>
      have ht0 : ¬ t = 0 := fun e => by subst e; simp [okTag, hf1] at hok
      have ht1 : isN t = false := by
        cases e : isN t with
        | false => rfl
        | true => simp [okTag, hf1, e] at hok
      rw [hf1] at hF
      rw [ht1] at hT2
      have Hf := Lib.hid hF
      have Ht := Lib.hid hT2
      clear hok hF hT2
      go_enter Try.func7, Try.ntmps7
      go_wp2_with (first
        | (go_at_call 21; refine Hno.out.mono ?_; rintro e w' ⟨rfl, rfl⟩)
        | (have _ := hdone; go_at_call 22; refine Ht.out.mono ?_; rintro e w' ⟨rfl, rfl⟩)
        | (go_at_call 22; refine Hf.out.mono ?_; rintro e w' ⟨rfl, rfl⟩; have hdone := True.intro))
      go_ret
      exact ⟨rfl, H.out⟩
end Go.Proofs.Ytkmijmlcijbbcaa
