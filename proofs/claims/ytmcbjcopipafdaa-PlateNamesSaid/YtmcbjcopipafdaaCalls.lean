/-
  Waits, Crash, Boot, Fail, Flush of a plate, over the code.
-/
import Derived.Test.YtmcbjcopipafdaaKeep
namespace Go.Proofs.Ytmcbjcopipafdaa
open Go.RowKit Go.Maps
set_option linter.unusedVariables false

section
variable {w w' : World} {M : Nat → Prop} {g r m : Nat} {P : Pl} {l : List Bool}
theorem waits_any (h : PlAt w M g r m P) : Calls Try.prog 8 #[.pointer (some ⟨g, 0, none⟩)] w fun e w' => ∃ v, e = .returned v ∧
    w'.ownsRow w.heap.size 3 1 v (wk P.wt).length ((zs P.wt).map encZ) ∧ Below w.heap.size w w' := by
  have Hno := Lib.hid (none_any h)
  have Hw := Lib.hid (waiting_any h)
  clear h
  go_enter Try.func8, Try.ntmps8
  go_wp2_with (first
    | (go_at_call 19; refine Hno.out.mono ?_; rintro e w' ⟨rfl, rfl⟩)
    | (go_at_call 22; refine Hw.out.mono ?_; rintro e w' ⟨v, rfl, h1, h2⟩))
  go_ret
  exact ⟨v, rfl, h1, h2⟩

theorem crash_any (h : PlAt w M g r m P) (A : Option Addr) (n c : Nat) (hn : l.length = n) (hk : KOff w M (.slice A n c) l) :
    Calls Try.prog 10 #[.pointer (some ⟨g, 0, none⟩), .slice A n c] w fun e w' => e = .returned (.int .i64 (crashP P l).1) ∧ PlAt w' M g r m (crashP P l).2 ∧ Out (GRM g r m) w w' := by
  have hre := refuses_any h
  have Hp := Lib.hid (powerGoes_any h A n c hn hk)
  have Hh := Lib.hid h
  clear h hk hn
  unfold crashP
  cases hd : P.dead with
  | true =>
    have e1 : refE P = 50 := by unfold refE; rw [if_pos hd]
    rw [e1] at hre
    have Hre := Lib.hid hre
    clear e1 hd hre
    simp only [if_true]
    go_enter Try.func10, Try.ntmps10
    go_wp2_with (go_at_call 21; refine Hre.out.mono ?_; rintro e w' ⟨rfl, rfl⟩)
    go_ret
    exact ⟨rfl, Hh.out, Out.refl _ _⟩
  | false =>
    have e1 : refE P = 0 := by unfold refE; rw [hd]; rfl
    rw [e1] at hre
    have Hre := Lib.hid hre
    clear e1 hd hre
    simp only [Bool.false_eq_true, if_false]
    go_enter Try.func10, Try.ntmps10
    go_wp2_with (go_at_call 21; refine Hre.out.mono ?_; rintro e w' ⟨rfl, rfl⟩)
    refine Hp.out.mono ?_
    rintro e w1 ⟨rfl, h1, h2⟩
    have H := Lib.hid (And.intro h1 h2)
    clear h1 h2
    go_wp2
    go_ret
    exact ⟨rfl, H.out⟩

theorem boot_any (h : PlAt w M g r m P) : Calls Try.prog 11 #[.pointer (some ⟨g, 0, none⟩)] w fun e w' => e = .returned (.int .i64 0) ∧ PlAt w' M g r m (bootP P) ∧ Out (GRM g r m) w w' := by
  have Hno := Lib.hid (none_any h)
  obtain ⟨kv, hb, hk⟩ := h.blk
  have c2 : w.cell? ⟨g, 2, none⟩ = some (.bool P.dead) := hb.cell rfl
  have f2 : w.frozen? ⟨g, 2, none⟩ = false := hb.free 2
  have ho : Out (fun i => i = g) w (w.setCell ⟨g, 2, none⟩ (.bool false)) := (Out.refl (fun i => i = g) w).setCell (fun _ => rfl) _
  have H := Lib.hid (And.intro (h.celled ho (P' := { P with dead := false }) rfl rfl (h.wl.withDead false) (hb.set_ 2 _) (hk.out ho fun i e => by rw [e]; exact h.mg)) ho)
  clear h hb hk ho
  go_enter Try.func11, Try.ntmps11
  go_wp2_with (go_at_call 19; refine Hno.out.mono ?_; rintro e w' ⟨rfl, rfl⟩)
  refine (calm_any H.out.1).mono ?_
  rintro e w1 ⟨rfl, h1, h2⟩
  have H1 := Lib.hid (And.intro h1 ((H.out.2.mono_ fun i e => (.inl e : GRM g r m i)).trans h2 fun i _ e => .inl e))
  clear h1 h2
  go_wp2
  go_ret
  exact ⟨rfl, H1.out⟩

set_option maxRecDepth 100000 in
set_option maxHeartbeats 800000 in
theorem fail_any (h : PlAt w M g r m P) (x : Int) (hx : Wf x) (A : Option Addr) (n c : Nat) (hn : l.length = n) (hk : KOff w M (.slice A n c) l) :
    Calls Try.prog 9 #[.pointer (some ⟨g, 0, none⟩), .int .i64 x, .slice A n c] w fun e w' => e = .returned (.int .i64 (failP P x l).1) ∧ PlAt w' M g r m (failP P x l).2 ∧ Out (GRM g r m) w w' := by
  have hre := refuses_any h
  have Hh := Lib.hid (And.intro h (And.intro hk hn))
  have hn2 := h.wl.n2
  have hcm : n ≤ c ∧ c ≤ 9223372036854775807 := by
    obtain ⟨A', c', e, h1, h2, _⟩ := hk
    unfold maxLen at h2
    injection e with _ e1 e2
    omega
  have hxb := wf_bounds hx
  clear h hk
  unfold failP
  cases hd : P.dead with
  | true =>
    have e1 : refE P = 50 := by unfold refE; rw [if_pos hd]
    rw [e1] at hre
    have Hre := Lib.hid hre
    clear e1 hd hre hn
    simp only [if_true]
    go_enter Try.func9, Try.ntmps9
    go_wp2_with (go_at_call 21; refine Hre.out.mono ?_; rintro e w' ⟨rfl, rfl⟩)
    go_ret
    exact ⟨rfl, Hh.out.1, Out.refl _ _⟩
  | false =>
    have e1 : refE P = 0 := by unfold refE; rw [hd]; rfl
    rw [e1] at hre
    have Hre := Lib.hid hre
    have Hca := Lib.hid (calm_any Hh.out.1)
    clear e1 hd hre
    simp only [Bool.false_eq_true, if_false]
    by_cases h0 : x < 0
    · have e2 : setFail P x l = calmP P := by unfold setFail; rw [if_pos h0]
      rw [e2]
      clear e2 hn
      go_enter Try.func9, Try.ntmps9
      go_wp2_with (go_at_call 21; refine Hre.out.mono ?_; rintro e w' ⟨rfl, rfl⟩)
      refine Hca.out.mono ?_
      rintro e w1 ⟨rfl, h1, h2⟩
      have H := Lib.hid (And.intro h1 (h2.mono_ fun i e => (.inl e : GRM g r m i)))
      clear h1 h2
      go_wp2
      go_ret
      exact ⟨rfl, H.out⟩
    · have e2 : setFail P x l = { P with ah := x, kp := l.take P.st.length } := by unfold setFail; rw [if_neg h0]; rfl
      rw [e2]
      have h0' : 0 ≤ x := by omega
      go_enter Try.func9, Try.ntmps9
      go_wp2_with (go_at_call 21; refine Hre.out.mono ?_; rintro e w' ⟨rfl, rfl⟩)
      refine Hca.out.mono ?_
      rintro e w1 ⟨rfl, h1, h2⟩
      obtain ⟨u, hu⟩ : ∃ u, min n P.st.length = u := ⟨_, rfl⟩
      have hun : u ≤ n := by omega
      have hu4 : u ≤ 4096 := by omega
      have hmin : min (n : Int) (P.st.length : Int) = (u : Int) := by omega
      have hfr := run_frontK A n c u (by omega)
      obtain ⟨kv1, hb1, _⟩ := h1.blk
      have c0 : w1.cell? ⟨g, 0, none⟩ = some (.slice (some ⟨r, 0, none⟩) P.st.length P.st.length) := hb1.cell rfl
      have hk1 := (Hh.out.2.1.out h2 fun i e => by rw [e]; exact Hh.out.1.mg).front hn hun
      have hlu : (l.take u).length = u := by rw [List.length_take]; omega
      have htake : l.take u = l.take P.st.length := by
        rcases Nat.le_total n P.st.length with hh | hh
        · rw [List.take_of_length_le (by omega), List.take_of_length_le (by omega)]
        · have : u = P.st.length := by omega
          rw [this]
      have hglt := hb1.lt
      have H := Lib.hid (And.intro h1 (And.intro h2 (And.intro hk1 (And.intro hlu htake))))
      have hMlt := h1.lt
      have HM := Lib.hid hMlt
      clear h1 h2 hk1 hlu htake hb1 hu e2 hMlt hn
      go_wp2_with fail
      refine (cloneK_any A u c H.out.2.2.1 H.out.2.2.2.1 (by omega)).mono ?_
      rintro e w2 ⟨v2, rfl, hnew⟩
      have hP2 := H.out.1.below hnew.2
      have hk2 : KOff w2 M v2 (l.take u) := hnew.off HM.out
      obtain ⟨kv2, hb2, _⟩ := hP2.blk
      have c3 : w2.cell? ⟨g, 3, none⟩ = some (.int .i64 (-1)) := hb2.cell rfl
      have c4 : w2.cell? ⟨g, 4, none⟩ = some kv2 := hb2.cell rfl
      have f3 : w2.frozen? ⟨g, 3, none⟩ = false := hb2.free 3
      have f4 : w2.frozen? ⟨g, 4, none⟩ = false := hb2.free 4
      have ho3 : Out (fun i => i = g) w2 ((w2.setCell ⟨g, 3, none⟩ (.int .i64 x)).setCell ⟨g, 4, none⟩ v2) := ((Out.refl (fun i => i = g) w2).setCell (fun _ => rfl) _).setCell (fun _ => rfl) _
      have hfin : PlAt ((w2.setCell ⟨g, 3, none⟩ (.int .i64 x)).setCell ⟨g, 4, none⟩ v2) M g r m { P with ah := x, kp := l.take P.st.length } := by
        rw [← H.out.2.2.2.2]
        refine hP2.celled ho3 rfl rfl ⟨hP2.wl.wt, hP2.wl.st64, hP2.wl.wt64, by show -1 ≤ x; omega, by show x ≤ _; omega, hP2.wl.n1, hP2.wl.n2, ?_⟩ ((hb2.set_ 3 _).set_ 4 _) (hk2.out ho3 fun i e => by rw [e]; exact hP2.mg)
        show (l.take u).length ≤ P.st.length
        have := H.out.2.2.2.1
        omega
      have hO : Out (GRM g r m) w' ((w2.setCell ⟨g, 3, none⟩ (.int .i64 x)).setCell ⟨g, 4, none⟩ v2) := (((H.out.2.1.mono_ fun i e => (.inl e : GRM g r m i)).then_below hnew.2).trans ho3 fun i _ e => .inl e)
      obtain ⟨A2, c2, hv2⟩ : ∃ A2 c2, v2 = .slice A2 u c2 := by obtain ⟨A2, c2, e, _⟩ := hk2; rw [H.out.2.2.2.1] at e; exact ⟨A2, c2, e⟩
      subst hv2
      have H2 := Lib.hid (And.intro hfin hO)
      clear hP2 hk2 hb2 ho3 hfin hO hnew
      go_wp2
      go_ret
      exact ⟨rfl, H2.out⟩

set_option maxRecDepth 100000 in
set_option maxHeartbeats 3200000 in
theorem flush_any (h : PlAt w M g r m P) : Calls Try.prog 7 #[.pointer (some ⟨g, 0, none⟩)] w fun e w' => e = .returned (.int .i64 (flushP P).1) ∧ PlAt w' M g r m (flushP P).2 ∧ Out (GRM g r m) w w' := by
  have hre := refuses_any h
  have hfa := fails_any h
  have Hh := Lib.hid h
  have hn2 := h.wl.n2
  have hlen := wk_len P.wt
  have hwl := h.wl.wt
  clear h
  unfold flushP
  cases hd : P.dead with
  | true =>
    have e1 : refE P = 50 := by unfold refE; rw [if_pos hd]
    rw [e1] at hre
    have Hre := Lib.hid hre
    clear e1 hd hre hfa
    simp only [if_true]
    go_enter Try.func7, Try.ntmps7
    go_wp2_with (go_at_call 21; refine Hre.out.mono ?_; rintro e w' ⟨rfl, rfl⟩)
    go_ret
    exact ⟨rfl, Hh.out, Out.refl _ _⟩
  | false =>
    have e1 : refE P = 0 := by unfold refE; rw [hd]; rfl
    rw [e1] at hre
    have Hre := Lib.hid hre
    clear e1 hd hre
    simp only [Bool.false_eq_true, if_false]
    by_cases h0 : P.ah = 0
    · rw [if_pos h0] at hfa ⊢
      have e2 : decide (P.ah = 0) = true := by simp [h0]
      rw [e2] at hfa
      have Hfa := Lib.hid hfa
      clear hfa e2 h0
      go_enter Try.func7, Try.ntmps7
      go_wp2_with (go_at_call 21; refine Hre.out.mono ?_; rintro e w' ⟨rfl, rfl⟩)
      refine Hfa.out.mono ?_
      rintro e w1 ⟨rfl, h1, h2⟩
      have H := Lib.hid (And.intro h1 h2)
      clear h1 h2
      go_wp2
      go_ret
      exact ⟨rfl, H.out⟩
    · rw [if_neg h0] at hfa ⊢
      have e2 : decide (P.ah = 0) = false := by simp [h0]
      rw [e2] at hfa
      obtain ⟨P', hP', est, ewt⟩ : ∃ P', count P = P' ∧ P'.st = P.st ∧ P'.wt = P.wt := ⟨_, rfl, count_st P, count_wt P⟩
      have efin : (⟨mixA (fun _ => true) P.st P.wt, List.replicate P.n none, (count P).dead, (count P).ah, (count P).kp⟩ : Pl) = { P' with st := mixA (fun _ => true) P'.st P'.wt, wt := List.replicate P'.st.length none } := by
        rw [hP', est, ewt]; rfl
      change Calls _ _ _ _ (fun e w' => e = .returned (.int .i64 0) ∧ PlAt w' M g r m ⟨mixA (fun _ => true) P.st P.wt, List.replicate P.n none, (count P).dead, (count P).ah, (count P).kp⟩ ∧ Out (GRM g r m) w w')
      rw [efin]
      rw [hP'] at hfa
      rw [← est] at hn2 hwl
      rw [← ewt] at hlen hwl
      have Hfa := Lib.hid hfa
      clear hfa e2 h0 hP' est ewt efin
      generalize P' = R at *
      go_enter Try.func7, Try.ntmps7
      go_wp2_with (go_at_call 21; refine Hre.out.mono ?_; rintro e w' ⟨rfl, rfl⟩)
      refine Hfa.out.mono ?_
      rintro e w0 ⟨rfl, hP0, hO0⟩
      have H0 := Lib.hid (And.intro hP0 hO0)
      have Hwait := Lib.hid (waiting_any hP0)
      clear hP0 hO0
      go_wp2_with fail
      refine Hwait.out.mono ?_
      rintro e w1 ⟨v, rfl, hrow, hb1⟩
      have hf : ∃ A' c', v = .slice A' (wk R.wt).length c' := by
        rcases hrow.2 with ⟨rfl, hz⟩ | ⟨gb, cap, cur, rfl, _⟩
        · exact ⟨none, 0, by rw [hz]⟩
        · exact ⟨_, cap, rfl⟩
      obtain ⟨Av, cv, rfl⟩ := hf
      obtain ⟨J, hJ⟩ : ∃ J, (wk R.wt).length = J := ⟨_, rfl⟩
      have hJn : J ≤ 4096 := by omega
      rw [hJ]
      have H1 := Lib.hid (And.intro ((H0.out.1).below hb1) (And.intro hrow (And.intro hb1 hJ)))
      clear hrow hb1 hlen Hwait hJ
      go_wp2
      go_loopw [16] (fun iv wr => ∃ j : Nat, j ≤ J ∧ iv = .int .i64 j ∧ PlAt wr M g r m { R with st := mix (fun _ => true) j R.st R.wt } ∧ Out (fun i => i = r) w1 wr) (fun iv _ => J - (intOf iv).toNat)
      case atStart => exact ⟨0, Nat.zero_le _, rfl, by rw [mix_zero]; exact H1.out.1, Out.refl _ _⟩
      case round =>
        obtain ⟨j, hj, rfl, hP, hO⟩ := hrel
        have hi0 : (0 : Int) ≤ j := by omega
        have hrM : M r := hP.mr
        have hrlt : r < w0.heap.size := H0.out.1.row.lt
        by_cases hlt : j < J
        · have hi1 : (j : Int) < J := by omega
          have hrow2 := row_kept (w' := wr) H1.out.2.1 fun b hb hbl => hO.block b hbl (by omega)
          have hrow3 : wr.ownsRow w0.heap.size 3 1 (.slice Av J cv) J ((zs R.wt).map encZ) := by have := H1.out.2.2.2; rw [this] at hrow2; exact hrow2
          obtain ⟨bv, ov, u, rfl, hbv, hu, hcu⟩ := (Shows.ofOwn hrow3).at_ hlt
          obtain ⟨i, hwi⟩ : ∃ i, (wk R.wt)[j]? = some i := ⟨_, List.getElem?_eq_getElem (by have := H1.out.2.2.2; omega)⟩
          obtain ⟨x, hx⟩ := (wk_at hwi).2
          have hu2 : u = .int .i64 (i : Int) := by
            unfold zs at hu
            rw [List.getElem?_map, List.getElem?_map, hwi] at hu
            simpa using hu.symm
          subst hu2
          have hin : i < R.wt.length := by
            rcases Nat.lt_or_ge i R.wt.length with h' | h'
            · exact h'
            · rw [List.getElem?_eq_none h'] at hx; cases hx
          have hi2 : i < R.st.length := by omega
          have hm1 : mix (fun _ => true) (j + 1) R.st R.wt = (mix (fun _ => true) j R.st R.wt).set i x := mix_succ (fun _ => true) hwi hx hi2
          have hst : ({ R with st := mix (fun _ => true) j R.st R.wt } : Pl).st.length = R.st.length := mix_length (fun _ => true) j R.st R.wt
          obtain ⟨D, hD, hDl, hDa⟩ : ∃ D, cbs x = D ∧ D.length = 64 ∧ D.toArray.all (·.oneCell') = true := ⟨_, rfl, by rw [cbs_length]; exact hP.wl.wt64 x (List.mem_of_getElem? hx), cbs_all _⟩
          obtain ⟨hPn, hOn⟩ := hP.drew.store (i := i) (by rw [hst]; exact hi2) x (by rw [← cbs_length, hD]; exact hDl) D hD
          have Hn := Lib.hid (And.intro hPn (And.intro hOn (And.intro hm1 hO)))
          have hi3 : (0 : Int) ≤ i := by omega
          obtain ⟨nn, hnn⟩ : ∃ nn, R.st.length = nn := ⟨_, rfl⟩
          obtain ⟨kv0, hb0, _⟩ := hP.drew.blk
          obtain ⟨kv1, hb1', _⟩ := hPn.blk
          have hst1 : ((mix (fun _ => true) j R.st R.wt).set i x).length = nn := by rw [List.length_set, mix_length]; exact hnn
          have c0 : wr.drew.cell? ⟨g, 0, none⟩ = some (.slice (some ⟨r, 0, none⟩) nn nn) := by have := hb0.cell (i := 0) rfl; rw [hst, hnn] at this; exact this
          have c1 : wr.drew.cell? ⟨g, 1, none⟩ = some (.map (some m)) := hb0.cell rfl
          have c0' : (wr.drew.setCells r (i * 64) D).cell? ⟨g, 0, none⟩ = some (.slice (some ⟨r, 0, none⟩) nn nn) := by have := hb1'.cell (i := 0) rfl; rw [hst1] at this; exact this
          have c1' : (wr.drew.setCells r (i * 64) D).cell? ⟨g, 1, none⟩ = some (.map (some m)) := hb1'.cell rfl
          have hv : vOf (wtAt R.wt (i : Int)) = .agg D.toArray := by rw [wtAt_nat, hx, ← hD]; rfl
          have hwf : Wf (i : Int) := wf_nat (by omega)
          have hlk := hP.drew.map.get hwf
          have hlk' := hPn.map.get hwf
          rw [show ({ R with st := mix (fun _ => true) j R.st R.wt } : Pl).wt = R.wt from rfl, hv] at hlk
          rw [show ({ R with st := (mix (fun _ => true) j R.st R.wt).set i x } : Pl).wt = R.wt from rfl, hv] at hlk'
          have hth : wr.drew.there r (i * 64) D.toArray.size := by
            refine hP.drew.row.thereAt ?_
            rw [List.size_toArray, hDl, flat_length hP.wl.st64, hst]
            omega
          have hinf : (Try.prog.info? 48).map (·.size) = some D.toArray.size := by rw [List.size_toArray, hDl]; exact info64
          have hi5 : (i : Int) < nn := by omega
          have hnn2 : nn ≤ 4096 := by omega
          clear hD hDl hm1 hPn hOn hb0 hb1' hst hst1 hv hwf hnn hi2 hin hP hO hrow2 hrow3 hu hx hwi hbv
          go_wp2
          have Q0 : wr.drew.cell? ⟨g, 0, none⟩ = some (.slice (some ⟨r, 0, none⟩) nn nn) ∧ wr.drew.cell? ⟨g, 1, none⟩ = some (.map (some m)) ∧ (Instr.lookup 37 (.map (some m)) (.int .i64 (i : Int)) false).run Try.prog wr.drew = .ok (.agg D.toArray) wr.drew := ⟨c0, c1, hlk⟩
          refine wp_region_held_drew (S := fun W' => W'.cell? ⟨g, 0, none⟩ = some (.slice (some ⟨r, 0, none⟩) nn nn) ∧ W'.cell? ⟨g, 1, none⟩ = some (.map (some m)) ∧ (Instr.lookup 37 (.map (some m)) (.int .i64 (i : Int)) false).run Try.prog W' = .ok (.agg D.toArray) W') (by kernel_rfl) Q0 (fun _ => ?_)
          refine anyH_take (i := 0) (d := 20) (v := ?v0) rfl rfl (by kernel_rfl) (by kernel_rfl) (by kernel_rfl) (fun _ _ _ h => h) (Or.inl ⟨by rfl, ?y0⟩) Q0 ?r0
          case y0 => (intro w; go_simp; try with_reducible rfl)
          simp only [List.setIfInBounds_toArray, List.set_cons_zero, List.set_cons_succ]
          refine anyH_take (i := 1) (d := 21) (v := ?v1) rfl rfl (by kernel_rfl) (by kernel_rfl) (by kernel_rfl) (fun _ _ _ h => h) (Or.inl ⟨by rfl, ?y1⟩) Q0 ?r1
          case y1 => (intro w; go_simp; try with_reducible rfl)
          simp only [List.setIfInBounds_toArray, List.set_cons_zero, List.set_cons_succ]
          refine anyH_take (i := 2) (d := 22) (v := ?v2) rfl rfl (by kernel_rfl) (by kernel_rfl) (by kernel_rfl) (fun _ _ _ h => h) (Or.inl ⟨by rfl, ?y2⟩) Q0 ?r2
          case y2 => (intro w; go_simp; try with_reducible rfl)
          simp only [List.setIfInBounds_toArray, List.set_cons_zero, List.set_cons_succ]
          refine wpAnyH_take' (i := 3) (d := 23) (v := ?v3) rfl rfl (by kernel_rfl) (by kernel_rfl) (by kernel_rfl) (fun _ _ _ h => h) (Or.inl ⟨by rfl, ?y3⟩) Q0 ?r3
          case y3 => (intro w hSw; go_split_ands; go_simp; try with_reducible rfl)
          simp only [List.setIfInBounds_toArray, List.set_cons_zero, List.set_cons_succ]
          refine anyH_take (i := 4) (d := 24) (v := ?v4) rfl rfl (by kernel_rfl) (by kernel_rfl) (by kernel_rfl) (fun _ _ _ h => h) (Or.inl ⟨by rfl, ?y4⟩) Q0 ?r4
          case y4 => (intro w; go_simp; try with_reducible rfl)
          simp only [List.setIfInBounds_toArray, List.set_cons_zero, List.set_cons_succ]
          refine anyH_take (i := 5) (d := 25) (v := ?v5) rfl rfl (by kernel_rfl) (by kernel_rfl) (by kernel_rfl) (fun _ _ _ h => h) (Or.inl ⟨by rfl, ?y5⟩) Q0 ?r5
          case y5 => (intro w; go_simp; try with_reducible rfl)
          simp only [List.setIfInBounds_toArray, List.set_cons_zero, List.set_cons_succ]
          refine anyH_take (i := 6) (d := 26) (v := ?v6) rfl rfl (by kernel_rfl) (by kernel_rfl) (by kernel_rfl) (fun _ _ _ h => h) (Or.inl ⟨by rfl, ?y6⟩) Q0 ?r6
          case y6 => (intro w; go_simp; try with_reducible rfl)
          simp only [List.setIfInBounds_toArray, List.set_cons_zero, List.set_cons_succ]
          refine anyH_take (i := 7) (d := 27) (v := ?v7) rfl rfl (by kernel_rfl) (by kernel_rfl) (by kernel_rfl) (fun _ _ _ h => h) (Or.inl ⟨by rfl, ?y7⟩) Q0 ?r7
          case y7 => (intro w; go_simp; try with_reducible rfl)
          simp only [List.setIfInBounds_toArray, List.set_cons_zero, List.set_cons_succ]
          refine wpAnyH_take' (i := 8) (d := 28) (v := ?v8) rfl rfl (by kernel_rfl) (by kernel_rfl) (by kernel_rfl) (fun _ _ _ h => h) (Or.inl ⟨by rfl, ?y8⟩) Q0 ?r8
          case y8 => (intro w hSw; go_split_ands; go_simp; try with_reducible rfl)
          simp only [List.setIfInBounds_toArray, List.set_cons_zero, List.set_cons_succ]
          refine anyH_take (i := 9) (d := 29) (v := ?v9) rfl rfl (by kernel_rfl) (by kernel_rfl) (by kernel_rfl) (fun _ _ _ h => h) (Or.inl ⟨by rfl, ?y9⟩) Q0 ?r9
          case y9 => (intro w; go_simp; try with_reducible rfl)
          simp only [List.setIfInBounds_toArray, List.set_cons_zero, List.set_cons_succ]
          refine wpAnyH_take' (i := 10) (d := 30) (v := ?v10) rfl rfl (by kernel_rfl) (by kernel_rfl) (by kernel_rfl) (fun _ _ _ h => h) (Or.inl ⟨by rfl, ?y10⟩) Q0 ?r10
          case y10 => (intro w hSw; go_split_ands; go_simp; try with_reducible rfl)
          simp only [List.setIfInBounds_toArray, List.set_cons_zero, List.set_cons_succ]
          refine anyH_take (i := 11) (d := 31) (v := ?v11) rfl rfl (by kernel_rfl) (by kernel_rfl) (by kernel_rfl) (fun _ _ _ h => h) (Or.inl ⟨by rfl, ?y11⟩) Q0 ?r11
          case y11 => (intro w; go_simp; try with_reducible rfl)
          simp only [List.setIfInBounds_toArray, List.set_cons_zero, List.set_cons_succ]
          refine anyH_one (i := 12) (by kernel_rfl) ?_
          refine op_store rfl rfl rfl 48 _ _ rfl r (i * 64) D.toArray rfl rfl hth hinf hDa ?_
          refine ⟨⟨c0', c1', hlk'⟩, ?_⟩
          refine wpAnyH_done (by kernel_rfl) ?_ _
          clear c0 c1 hlk c0' c1' hlk' hth hinf hDa Q0
          go_wp2
          go_roundw
          case rel => exact ⟨j + 1, by omega, by go_num, by rw [Hn.out.2.2.1]; exact Hn.out.1, (Hn.out.2.2.2.then_below ((Below.refl _ _).drew)).trans Hn.out.2.1 fun _ _ e => e⟩
          case measure => simp [intOf]; omega
        · have hi1 : ¬ (j : Int) < J := by omega
          have hjJ : j = (wk R.wt).length := by have := H1.out.2.2.2; omega
          have Hs := Lib.hid (And.intro hP (And.intro hO hjJ))
          obtain ⟨kv0, hb0, _⟩ := hP.blk
          have c1 : wr.cell? ⟨g, 1, none⟩ = some (.map (some m)) := hb0.cell rfl
          have hw2 : Wl { R with st := mix (fun _ => true) j R.st R.wt, wt := List.replicate R.st.length none } := hP.wl.withWt _ (by rw [List.length_replicate]; exact (mix_length (fun _ => true) j R.st R.wt).symm) fun s hs => by have := List.eq_of_mem_replicate hs; cases this
          have Hw2 := Lib.hid hw2
          clear hP hO hjJ hb0 hw2
          go_wp2_with (refine wp_clearW rfl _ rfl m R.wt R.st.length rfl Hs.out.1.map ?_; intro w2 ht2 hm2
                       have H2 := Lib.hid (Hs.out.1.mapped ht2 hm2 Hw2.out)
                       clear ht2 hm2)
          have hfin : PlAt w2 M g r m { R with st := mixA (fun _ => true) R.st R.wt, wt := List.replicate R.st.length none } := by
            have hj := Hs.out.2.2
            have := H2.out.1
            rw [hj] at this
            exact this
          have hO : Out (GRM g r m) w' w2 := (((H0.out.2.then_below (H1.out.2.2.1)).trans Hs.out.2.1 fun i _ e => .inr (.inl e)).trans H2.out.2 fun i _ e => .inr (.inr e))
          go_ret
          exact ⟨rfl, hfin, hO⟩
end
end Go.Proofs.Ytmcbjcopipafdaa
