/-
  Write and Fail of a plate, over the code: what is handed in need only lie outside the plate's own blocks.
-/
import Derived.Test.YtmcbjcopipafdaaCarry
namespace Go.Proofs.Ytmcbjcopipafdaa
open Go.RowKit Go.Maps
set_option linter.unusedVariables false
section
variable {w w' : World} {M : Nat → Prop} {g r m : Nat} {P : Pl} {l : List UInt8} {A : Option Addr}
set_option maxRecDepth 100000 in
set_option maxHeartbeats 1600000 in
theorem write_free (h : PlAt w M g r m P) (x : Int) (hx : Wf x) (n c : Nat) (hn : l.length = n) (hnm : n ≤ maxLen) (hb : BOff w (GRM g r m) A l) :
    Calls Try.prog 6 #[.pointer (some ⟨g, 0, none⟩), .int .i64 x, .slice A n c] w fun e w' => e = .returned (.int .i64 (writeP P x l).1) ∧ PlAt w' M g r m (writeP P x l).2 ∧ Out (GRM g r m) w w' := by
  unfold maxLen at hnm
  have hla := lacks_any h x
  have hfa := fails_any h
  have hn2 := h.wl.n2
  have hwl := h.wl.wt
  have Hh := Lib.hid (And.intro h (And.intro hb hn))
  clear h hb
  unfold writeP
  by_cases h0 : lackE P x = 0
  rotate_left
  · rw [if_pos h0]
    obtain ⟨E, hE⟩ : ∃ E, lackE P x = E := ⟨_, rfl⟩
    rw [hE] at hla h0 ⊢
    have hE0 : (E != 0) = true := by simpa using h0
    have Hla := Lib.hid hla
    clear hla hE hfa hn h0
    go_enter Try.func6, Try.ntmps6
    go_wp2_with (go_at_call 17; refine Hla.out.mono ?_; rintro e w' ⟨rfl, rfl⟩)
    go_ret
    exact ⟨rfl, Hh.out.1, Out.refl _ _⟩
  · have hin : 0 ≤ x ∧ x < P.st.length := by
      unfold lackE Pl.n at h0
      split at h0
      · cases h0
      · split at h0
        · assumption
        · cases h0
    obtain ⟨i, rfl⟩ : ∃ i : Nat, x = (i : Int) := ⟨x.toNat, by omega⟩
    have hi : i < P.st.length := by omega
    rw [if_neg (by rw [h0]; decide)]
    rw [h0] at hla
    have Hla := Lib.hid hla
    clear hla h0 hin
    by_cases h64 : n = 64
    rotate_left
    · rw [if_pos (by rw [hn]; exact h64)]
      have b64 : ((n : Int) != 64) = true := by simp; omega
      clear hfa hn
      go_enter Try.func6, Try.ntmps6
      go_wp2_with (go_at_call 17; refine Hla.out.mono ?_; rintro e w' ⟨rfl, rfl⟩)
      go_ret
      exact ⟨rfl, Hh.out.1, Out.refl _ _⟩
    · subst h64
      rw [if_neg (by rw [hn]; decide)]
      by_cases ha : P.ah = 0
      · rw [if_pos ha] at hfa ⊢
        have e2 : decide (P.ah = 0) = true := by simp [ha]
        rw [e2] at hfa
        have Hfa := Lib.hid hfa
        clear hfa e2 ha hn
        go_enter Try.func6, Try.ntmps6
        go_wp2_with (first
          | (go_at_call 17; refine Hla.out.mono ?_; rintro e w' ⟨rfl, rfl⟩)
          | (go_at_call 20; refine Hfa.out.mono ?_; rintro e w1 ⟨rfl, h1, h2⟩))
        go_ret
        exact ⟨rfl, h1, h2⟩
      · rw [if_neg ha] at hfa ⊢
        have e2 : decide (P.ah = 0) = false := by simp [ha]
        rw [e2] at hfa
        obtain ⟨R, hR, est, ewt⟩ : ∃ R, count P = R ∧ R.st = P.st ∧ R.wt = P.wt := ⟨_, rfl, count_st P, count_wt P⟩
        have efin : (⟨(count P).st, P.wt.set i (some l), (count P).dead, (count P).ah, (count P).kp⟩ : Pl) = { R with wt := R.wt.set i (some l) } := by rw [hR, ewt]
        change Calls _ _ _ _ (fun e w' => e = .returned (.int .i64 0) ∧ PlAt w' M g r m ⟨(count P).st, P.wt.set (i : Int).toNat (some l), (count P).dead, (count P).ah, (count P).kp⟩ ∧ Out (GRM g r m) w w')
        rw [Int.toNat_natCast, efin]
        rw [hR] at hfa
        have hiR : i < R.wt.length := by rw [ewt, hwl]; exact hi
        have Hfa := Lib.hid hfa
        clear hfa e2 ha hR est ewt efin hwl
        go_enter Try.func6, Try.ntmps6
        go_wp2_with (first
          | (go_at_call 17; refine Hla.out.mono ?_; rintro e w' ⟨rfl, rfl⟩)
          | (go_at_call 20; refine Hfa.out.mono ?_; rintro e w1 ⟨rfl, h1, h2⟩))
        have hM : ∀ i, GRM g r m i → M i := fun i e => by
          rcases e with rfl | rfl | rfl
          · exact h1.mg
          · exact h1.mr
          · exact h1.mm
        obtain ⟨b, off, rfl, hblt, hMb, hc⟩ := (((Hh.out.2.1).out h2 fun _ e => e).below ((Below.refl _ _).drew)) (by rw [hn]; decide)
        obtain ⟨D, hD, hDl, hDa⟩ : ∃ D, cbs l = D ∧ D.length = 64 ∧ D.toArray.all (·.oneCell') = true := ⟨_, rfl, by rw [cbs_length]; exact hn, cbs_all _⟩
        have hinf : (Try.prog.info? 48).map (·.size) = some D.length := by rw [hDl]; exact info64
        have hR : w1.drew.rangeAt b off D := fun j v hv => hc j v (by rw [hD]; exact hv)
        obtain ⟨w3, hrun, hturn, hm3⟩ := h1.drew.map.put h1.drew.size hiR l
        obtain ⟨hP3, hO3⟩ := h1.drew.mapped hturn hm3 (h1.wl.put i l hn)
        have hrun' : (Instr.mapUpdate 37 (.map (some m)) (.int .i64 (i : Int)) (.agg D.toArray)).run Try.prog w1.drew = .ok () w3 := by rw [← hD]; exact hrun
        obtain ⟨kv1, hb1, _⟩ := h1.drew.blk
        obtain ⟨kv3, hb3, _⟩ := hP3.blk
        have c1 : w1.drew.cell? ⟨g, 1, none⟩ = some (.map (some m)) := hb1.cell rfl
        have c3 : w3.cell? ⟨g, 1, none⟩ = some (.map (some m)) := hb3.cell rfl
        have hR3 : w3.rangeAt b off D := fun j v hv => by
          rw [World.cell?_of_block (hO3.block b hblt fun e => hMb (.inr (.inr e)))]
          exact hR j v hv
        have harr := run_arrayAt (some ⟨b, off, none⟩) 64 c (Nat.le_refl _)
        have H := Lib.hid (And.intro hP3 ((h2.then_below ((Below.refl _ _).drew)).trans hO3 fun i _ e => .inr (.inr e)))
        clear h1 h2 hM hblt hMb hc hD hDl hDa hturn hm3 hP3 hO3 hrun hb1 hb3 hn hiR hi
        go_wp2
        have Q0 : w1.drew.cell? ⟨g, 1, none⟩ = some (.map (some m)) ∧ w1.drew.rangeAt b off D := ⟨c1, hR⟩
        have Q1 : w3.cell? ⟨g, 1, none⟩ = some (.map (some m)) ∧ w3.rangeAt b off D := ⟨c3, hR3⟩
        refine wp_region_held_drew (S := fun W' => W'.cell? ⟨g, 1, none⟩ = some (.map (some m)) ∧ W'.rangeAt b off D) (by kernel_rfl) Q0 (fun _ => ?_)
        refine anyH_take (i := 0) (d := 19) (v := ?v0) rfl rfl (by kernel_rfl) (by kernel_rfl) (by kernel_rfl) (fun _ _ _ h => h) (Or.inl ⟨by rfl, ?y0⟩) Q0 ?r0
        case y0 => (intro w; go_simp; try with_reducible rfl)
        simp only [List.setIfInBounds_toArray, List.set_cons_zero, List.set_cons_succ]
        refine anyH_take (i := 1) (d := 20) (v := ?v1) rfl rfl (by kernel_rfl) (by kernel_rfl) (by kernel_rfl) (fun _ _ _ h => h) (Or.inl ⟨by rfl, ?y1⟩) Q0 ?r1
        case y1 => (intro w; go_simp; try with_reducible rfl)
        simp only [List.setIfInBounds_toArray, List.set_cons_zero, List.set_cons_succ]
        refine anyH_take (i := 2) (d := 21) (v := ?v2) rfl rfl (by kernel_rfl) (by kernel_rfl) (by kernel_rfl) (fun _ _ _ h => h) (Or.inl ⟨by rfl, ?y2⟩) Q0 ?r2
        case y2 => (intro w; go_simp; try with_reducible rfl)
        simp only [List.setIfInBounds_toArray, List.set_cons_zero, List.set_cons_succ]
        refine wpAnyH_take' (i := 3) (d := 22) (v := ?v3) rfl rfl (by kernel_rfl) (by kernel_rfl) (by kernel_rfl) (fun _ _ _ h => h) (Or.inl ⟨by rfl, ?y3⟩) Q0 ?r3
        case y3 => (intro w hSw; go_split_ands; go_simp; try with_reducible rfl)
        simp only [List.setIfInBounds_toArray, List.set_cons_zero, List.set_cons_succ]
        refine anyH_take (i := 4) (d := 23) (v := ?v4) rfl rfl (by kernel_rfl) (by kernel_rfl) (by kernel_rfl) (fun _ _ _ h => h) (Or.inl ⟨by rfl, ?y4⟩) Q0 ?r4
        case y4 => (intro w; go_simp; try with_reducible rfl)
        simp only [List.setIfInBounds_toArray, List.set_cons_zero, List.set_cons_succ]
        refine anyH_take (i := 5) (d := 24) (v := ?v5) rfl rfl (by kernel_rfl) (by kernel_rfl) (by kernel_rfl) (fun _ _ _ h => h) (Or.inl ⟨by rfl, ?y5⟩) Q0 ?r5
        case y5 => (intro w; go_simp; try with_reducible rfl)
        simp only [List.setIfInBounds_toArray, List.set_cons_zero, List.set_cons_succ]
        refine anyH_take (i := 6) (d := 25) (v := ?v6) rfl rfl (by kernel_rfl) (by kernel_rfl) (by kernel_rfl) (fun _ _ _ h => h) (Or.inl ⟨by rfl, ?y6⟩) Q0 ?r6
        case y6 => (intro w; go_simp; try with_reducible rfl)
        simp only [List.setIfInBounds_toArray, List.set_cons_zero, List.set_cons_succ]
        refine anyH_load (i := 7) (d := 26) rfl rfl (by kernel_rfl) (by kernel_rfl) (by kernel_rfl) (by rfl) 48 _ rfl b off rfl D _ (fun _ h => h.2) Try.underlying48 rfl hinf (fun _ _ _ h => h) Q0 ?_
        simp only [List.setIfInBounds_toArray, List.set_cons_zero, List.set_cons_succ]
        refine anyH_one (i := 8) (by kernel_rfl) ?_
        refine wpOp_step rfl (fun K hK => ?_)
        go_simp
        refine hK _ _ ⟨Q1, ?_⟩
        clear hK K
        refine wpAnyH_done (by kernel_rfl) ?_ _
        go_wp2
        go_ret
        exact ⟨rfl, H.out⟩
end
section
variable {w w' : World} {M : Nat → Prop} {g r m : Nat} {P : Pl} {l : List Bool}
set_option maxRecDepth 100000 in
set_option maxHeartbeats 800000 in
theorem fail_free (h : PlAt w M g r m P) (x : Int) (hx : Wf x) (A : Option Addr) (n c : Nat) (hn : l.length = n) (hk : KOff w (GRM g r m) (.slice A n c) l) :
    Calls Try.prog 9 #[.pointer (some ⟨g, 0, none⟩), .int .i64 x, .slice A n c] w fun e w' => e = .returned (.int .i64 (failP P x l).1) ∧ PlAt w' M g r m (failP P x l).2 ∧ Out (GRM g r m) w w' := by
  have hre := refuses_any h
  have Hh := Lib.hid (And.intro h (And.intro hk hn))
  have hn2 := h.wl.n2
  have hcm : n ≤ c ∧ c ≤ 9223372036854775807 := by
    obtain ⟨A', c', e, h1, h2, _⟩ := hk
    unfold maxLen at h2
    injection e with _ e1 e2
    omega
  have hxb := wf_bounds hx
  clear h hk
  unfold failP
  cases hd : P.dead with
  | true =>
    have e1 : refE P = 50 := by unfold refE; rw [if_pos hd]
    rw [e1] at hre
    have Hre := Lib.hid hre
    clear e1 hd hre hn
    simp only [if_true]
    go_enter Try.func9, Try.ntmps9
    go_wp2_with (go_at_call 21; refine Hre.out.mono ?_; rintro e w' ⟨rfl, rfl⟩)
    go_ret
    exact ⟨rfl, Hh.out.1, Out.refl _ _⟩
  | false =>
    have e1 : refE P = 0 := by unfold refE; rw [hd]; rfl
    rw [e1] at hre
    have Hre := Lib.hid hre
    have Hca := Lib.hid (calm_any Hh.out.1)
    clear e1 hd hre
    simp only [Bool.false_eq_true, if_false]
    by_cases h0 : x < 0
    · have e2 : setFail P x l = calmP P := by unfold setFail; rw [if_pos h0]
      rw [e2]
      clear e2 hn
      go_enter Try.func9, Try.ntmps9
      go_wp2_with (go_at_call 21; refine Hre.out.mono ?_; rintro e w' ⟨rfl, rfl⟩)
      refine Hca.out.mono ?_
      rintro e w1 ⟨rfl, h1, h2⟩
      have H := Lib.hid (And.intro h1 (h2.mono_ fun i e => (.inl e : GRM g r m i)))
      clear h1 h2
      go_wp2
      go_ret
      exact ⟨rfl, H.out⟩
    · have e2 : setFail P x l = { P with ah := x, kp := l.take P.st.length } := by unfold setFail; rw [if_neg h0]; rfl
      rw [e2]
      have h0' : 0 ≤ x := by omega
      go_enter Try.func9, Try.ntmps9
      go_wp2_with (go_at_call 21; refine Hre.out.mono ?_; rintro e w' ⟨rfl, rfl⟩)
      refine Hca.out.mono ?_
      rintro e w1 ⟨rfl, h1, h2⟩
      obtain ⟨u, hu⟩ : ∃ u, min n P.st.length = u := ⟨_, rfl⟩
      have hun : u ≤ n := by omega
      have hu4 : u ≤ 4096 := by omega
      have hmin : min (n : Int) (P.st.length : Int) = (u : Int) := by omega
      have hfr := run_frontK A n c u (by omega)
      obtain ⟨kv1, hb1, _⟩ := h1.blk
      have c0 : w1.cell? ⟨g, 0, none⟩ = some (.slice (some ⟨r, 0, none⟩) P.st.length P.st.length) := hb1.cell rfl
      have hk1 := (Hh.out.2.1.out h2 fun i e => .inl e).front hn hun
      have hlu : (l.take u).length = u := by rw [List.length_take]; omega
      have htake : l.take u = l.take P.st.length := by
        rcases Nat.le_total n P.st.length with hh | hh
        · rw [List.take_of_length_le (by omega), List.take_of_length_le (by omega)]
        · have : u = P.st.length := by omega
          rw [this]
      have hglt := hb1.lt
      have H := Lib.hid (And.intro h1 (And.intro h2 (And.intro hk1 (And.intro hlu htake))))
      have hMlt := h1.lt
      have HM := Lib.hid hMlt
      clear h1 h2 hk1 hlu htake hb1 hu e2 hMlt hn
      go_wp2_with fail
      refine (cloneK_any A u c H.out.2.2.1 H.out.2.2.2.1 (by omega)).mono ?_
      rintro e w2 ⟨v2, rfl, hnew⟩
      have hP2 := H.out.1.below hnew.2
      have hk2 : KOff w2 M v2 (l.take u) := hnew.off HM.out
      obtain ⟨kv2, hb2, _⟩ := hP2.blk
      have c3 : w2.cell? ⟨g, 3, none⟩ = some (.int .i64 (-1)) := hb2.cell rfl
      have c4 : w2.cell? ⟨g, 4, none⟩ = some kv2 := hb2.cell rfl
      have f3 : w2.frozen? ⟨g, 3, none⟩ = false := hb2.free 3
      have f4 : w2.frozen? ⟨g, 4, none⟩ = false := hb2.free 4
      have ho3 : Out (fun i => i = g) w2 ((w2.setCell ⟨g, 3, none⟩ (.int .i64 x)).setCell ⟨g, 4, none⟩ v2) := ((Out.refl (fun i => i = g) w2).setCell (fun _ => rfl) _).setCell (fun _ => rfl) _
      have hfin : PlAt ((w2.setCell ⟨g, 3, none⟩ (.int .i64 x)).setCell ⟨g, 4, none⟩ v2) M g r m { P with ah := x, kp := l.take P.st.length } := by
        rw [← H.out.2.2.2.2]
        refine hP2.celled ho3 rfl rfl ⟨hP2.wl.wt, hP2.wl.st64, hP2.wl.wt64, by show -1 ≤ x; omega, by show x ≤ _; omega, hP2.wl.n1, hP2.wl.n2, ?_⟩ ((hb2.set_ 3 _).set_ 4 _) (hk2.out ho3 fun i e => by rw [e]; exact hP2.mg)
        show (l.take u).length ≤ P.st.length
        have := H.out.2.2.2.1
        omega
      have hO : Out (GRM g r m) w' ((w2.setCell ⟨g, 3, none⟩ (.int .i64 x)).setCell ⟨g, 4, none⟩ v2) := (((H.out.2.1.mono_ fun i e => (.inl e : GRM g r m i)).then_below hnew.2).trans ho3 fun i _ e => .inl e)
      obtain ⟨A2, c2, hv2⟩ : ∃ A2 c2, v2 = .slice A2 u c2 := by obtain ⟨A2, c2, e, _⟩ := hk2; rw [H.out.2.2.2.1] at e; exact ⟨A2, c2, e⟩
      subst hv2
      have H2 := Lib.hid (And.intro hfin hO)
      clear hP2 hk2 hb2 ho3 hfin hO hnew
      go_wp2
      go_ret
      exact ⟨rfl, H2.out⟩

end
end Go.Proofs.Ytmcbjcopipafdaa
