/-
  For all rows of bytes l (20 at most are looked at): what was prepared stays P, whatever is proposed in later views, till something else is prepared there; Q has what was proposed, the last four digests; SlotsKeeps returns true; no condition.
-/
import Derived.Test.YtmdgcimjmmnbjaaZ01
import Derived.Test.YtmdgcimjmmnbjaaZ15
namespace Go.Proofs.Ytmdgcimjmmnbjaa.slotsKeeps
open Go.ChangeShapes Go.WideShapes Go.ChangeAt Go.RowKit Go.Maps Go.Shelf Go.Sort CrewP
set_option linter.unusedVariables false

set_option linter.unusedSimpArgs false
theorem pT_len (p : Option Vt) : (pT 1 p).length ≤ 1000 := by cases p <;> simp [pT]

set_option maxRecDepth 100000 in
set_option maxHeartbeats 64000000 in
theorem walk (Al : Option Addr) (nl cl : Nat) (l : List UInt8) (w : World) (hl : ArgB w Al nl cl l) :
    Calls Try.prog 5 #[.slice Al nl cl] w fun e w' => e = .returned (.bool true) ∧ Below w.heap.size w w' := by
  obtain ⟨hln, hlc, hlm, hlL⟩ := hl
  have Hl := Lib.hid (And.intro hln hlL)
  have hn63 : nl ≤ 9223372036854775807 := by omega
  clear hln hlL
  have hfr : Hid (∀ w, Calls Try.prog 8 #[.int .i64 1, .int .i64 2] w fun e w' => ∃ g, e = .returned (.pointer (some ⟨g, 0, none⟩)) ∧ StAt w' (fun b => w.heap.size ≤ b ∧ b < w'.heap.size) g (fr 1) ∧ Below w.heap.size w w') := Lib.hid fun w => fresh_any 1 (by omega) (by omega) 2 (by omega) (by omega) w
  go_enter Try.func5, Try.ntmps5
  go_wp2_with fail
  refine (hfr.out _).mono ?_
  rintro e w1 ⟨g, rfl, hst, hb1⟩
  obtain ⟨U, hU⟩ : ∃ U : Nat → Prop, (fun b => w.heap.size ≤ b ∧ b < w1.heap.size) = U := ⟨_, rfl⟩
  have hK1 : KeS w w1 U g (fr 1) := ⟨by rw [← hU]; exact hst, hb1, fun i hi => by rw [← hU] at hi; exact hi.1⟩
  have hP1 := PRo.new w1 [] 0 rfl (fun i hi => hK1.lt hi)
  have hK1' := hK1.below ((Below.refl _ _).alloc (Nat.le_refl _) (.cells (sdCs []).toArray 41))
  obtain ⟨w2, hw2⟩ : ∃ W, w1.alloc (.cells (sdCs []).toArray 41) = W := ⟨_, rfl⟩
  have hrow := row_none w1
  rw [hw2] at hP1 hK1' hrow
  have H2 := Lib.hid (And.intro hK1' hP1)
  have HR := Lib.hid hrow
  clear hst hb1 hK1 hP1 hK1' hfr hU hw2 hrow
  go_wp2_with (refine row_g rfl 33 0 _ rfl (.slice (some ⟨w1.heap.size, 0, none⟩) 0 0) w2 (by simp only [List.map_toArray, List.map_cons, List.map_nil]; exact HR.out) ?_; simp only [Act.put])
  go_loopw [4, 5] (fun v4 v5 wr => ∃ (j : Nat) (σ : St) (p : Option Vt), j ≤ nl ∧ j ≤ 20 ∧ v5 = .int .i64 (j : Int) ∧ KeI j σ p ∧ KeS w wr U g σ ∧ PRo U (pT 1 p) wr v4) (fun _ v5 _ => 20 - (intOf v5).toNat)
  case atStart => exact ⟨0, _, none, Nat.zero_le _, by omega, rfl, kei_fresh, H2.out.1, H2.out.2⟩
  case round =>
    obtain ⟨j, σ, p, hj, hj20, rfl, hI, hK, hP⟩ := hrel
    have hi0 : (0 : Int) ≤ j := by omega
    have H3 := Lib.hid (And.intro hI (And.intro hK hP))
    clear hI hK hP H2 HR
    by_cases hlt : j < nl
    rotate_left
    · have hi1 : ¬ (j : Int) < nl := by omega
      clear hlt
      go_wp2_with (go_at_call 16; refine (awake_any _).mono ?_; rintro e wW ⟨rfl, hbW⟩; have HW := Lib.hid (H3.out.2.1.bel.trans (hbW.mono H3.out.2.1.bel.size)); clear hbW)
      go_ret
      exact ⟨rfl, HW.out⟩
    by_cases h20 : j < 20
    rotate_left
    · have hi1 : (j : Int) < nl := by omega
      have hi2 : ¬ (j : Int) < 20 := by omega
      clear hlt h20
      go_wp2_with (go_at_call 16; refine (awake_any _).mono ?_; rintro e wW ⟨rfl, hbW⟩; have HW := Lib.hid (H3.out.2.1.bel.trans (hbW.mono H3.out.2.1.bel.size)); clear hbW)
      go_ret
      exact ⟨rfl, HW.out⟩
    have hi1 : (j : Int) < nl := by omega
    have hi2 : (j : Int) < 20 := by omega
    have hjl : j < l.length := by rw [Hl.out.1]; exact hlt
    obtain ⟨b, off, rfl, hbw, hcs⟩ := Hl.out.2.at_ hjl
    have hc0 := hcs j hjl
    have hc := (H3.out.2.1.bel.cell (p := ⟨b, off + j, none⟩) hbw).trans hc0
    obtain ⟨B, hB⟩ : ∃ B, l[j] = B := ⟨_, rfl⟩
    rw [hB] at hc0 hc
    have h7 := bits7 B
    have h8 := bits8 B
    obtain ⟨C, hC⟩ : ∃ C : UInt8, B &&& 7 = C := ⟨_, rfl⟩
    rw [hC] at h7
    have Hc := Lib.hid (And.intro hbw hc0)
    clear hbw hcs hc0 hjl hB hC
    go_wp2_with fail
    refine (digest_any C _).mono ?_
    rintro e w3 ⟨rfl, hb3⟩
    obtain ⟨d, hd⟩ : ∃ d, dg C = d := ⟨_, rfl⟩
    have hdl : d.length = 32 := by rw [← hd]; rfl
    rw [hd]
    obtain ⟨D, hD⟩ : ∃ D, cbs d = D := ⟨_, rfl⟩
    obtain ⟨w4, hw4, ⟨hth, hi⟩, hB4, hbe4, hs4⟩ := row_local w3 39 (cbs zero32) (cbs d) (by rw [cbs_length, hdl]; rfl) dig_info
    have h3' := (H3.out.2.1.below hb3).below hbe4
    have hud : ¬ U w3.heap.size := fun hu => by have := (H3.out.2.1.below hb3).lt hu; omega
    have hone := cbs_one1 d
    have hnD : Hid ((Try.prog.info? 39).map (·.size) = some D.length) := Lib.hid (by rw [← hD, cbs_length, hdl]; exact dig_info)
    have hbt := built_at j d hdl
    have hcp := ks_prop h3' H3.out.1 (by omega) hdl
    rw [hD] at hw4 hth hi hB4 hone hbt hcp
    rw [hD]
    have HST := Lib.hid (And.intro hth (And.intro hi (And.intro hone hw4)))
    have HBt := Lib.hid hbt
    have H4 := Lib.hid (And.intro hcp (And.intro h3' (And.intro hB4 (And.intro ((H3.out.2.2.below hb3).below hbe4) hud))))
    have hDd := Lib.hid (And.intro hD hdl)
    clear hth hi hone hw4 hbt hcp h3' hB4 hud hD hdl hd hb3 hbe4 hs4
    obtain ⟨bd, hbd⟩ : ∃ b, w3.heap.size = b := ⟨_, rfl⟩
    rw [hbd] at HST H4
    have hcw4 : w4.cell? ⟨b, off + j, none⟩ = some (.int .u8 (B.toNat : Int)) := (H4.out.2.1.bel.cell (p := ⟨b, off + j, none⟩) Hc.out.1).trans Hc.out.2
    have Hcw4 := Lib.hid hcw4
    clear hcw4 hc
    have hdr4 : Hid (w4.rangeAt bd 0 D) := Lib.hid fun i v hv => H4.out.2.2.1.cell (by simpa using hv)
    go_wp2_with (first
      | (refine wpList_store_mid rfl 39 _ _ rfl bd 0 D.toArray (by rw [← hbd]; rfl) rfl HST.out.1 HST.out.2.1 HST.out.2.2.1 ?_; simp only [Act.put]; refine cast (congrArg (fun z => wpList _ _ _ _ _ z) HST.out.2.2.2.symm) ?_)
      | (refine wpList_load_mid rfl 39 _ rfl bd 0 (by rw [← hbd]; rfl) D _ hdr4.out Try.underlying39 rfl hnD.out ?_; simp only [Act.put]))
    refine H4.out.1.mono ?_
    rintro e w5a ⟨rfl, hK5, hO5⟩
    obtain ⟨k1, k2, k3, k4, k5, k6⟩ := kei_prop (d := d) H3.out.1 (show j < 20 by omega)
    have H5a := Lib.hid (And.intro hK5 (And.intro k2 (And.intro k4 (And.intro (hO5.blk H4.out.2.2.1 H4.out.2.2.2.2) (H4.out.2.2.2.1.out hO5)))))
    have hall := kei_all (d := d) H3.out.1 (show j < 20 by omega)
    have HALL := Lib.hid hall
    have hc5 : w5a.cell? ⟨b, off + j, none⟩ = some (.int .u8 (B.toNat : Int)) := (hK5.bel.cell (p := ⟨b, off + j, none⟩) Hc.out.1).trans Hc.out.2
    have hud := Lib.hid H4.out.2.2.2.2
    clear hK5 hO5 k1 k2 k3 k4 k5 k6 hall Hcw4 hdr4 HST H4
    subst hbd
    generalize w3.heap.size = bd at *
    rcases h8 with h8 | h8
    · go_wp2_with fail
      have H6a := Lib.hid (And.intro H5a.out.1 H5a.out.2.2.2.1)
      clear H5a hc5 h7 h8
      have hj20' := hj20
      go_loopw [7] (fun v7 wr => ∃ i : Nat, i ≤ 4 ∧ v7 = .int .i64 ((i : Int) + 1) ∧ KeS w wr U g (stJ (propS σ j 1 d) j d i) ∧ Blk wr bd 39 D) (fun v _ => 5 - (intOf v).toNat)
      case atStart => exact ⟨0, by omega, rfl, H6a.out.1, H6a.out.2⟩
      case round =>
        obtain ⟨i, hi4, rfl, hki, hbi⟩ := hrel
        by_cases hil : i < 4
        · have hil1 : (i : Int) + 1 < 5 := by omega
          have hdri : Hid (wr.rangeAt bd 0 D) := Lib.hid fun i v hv => hbi.cell (by simpa using hv)
          have hcp := ks_prep (k := j) hki i hDd.out.2
          rw [hDd.out.1] at hcp
          have HP := Lib.hid (And.intro hcp hbi)
          clear hki hbi hcp
          go_wp2_with (refine wpList_load_mid rfl 39 _ rfl bd 0 rfl D _ hdri.out Try.underlying39 rfl hnD.out ?_; simp only [Act.put])
          refine HP.out.1.mono ?_
          rintro e wi ⟨E, rfl, hki, hOi⟩
          have HN := Lib.hid (And.intro hki (hOi.blk HP.out.2 hud.out))
          clear hki hOi
          go_wp2
          go_roundw
          case rel => exact ⟨i + 1, by omega, by first | rfl | go_num | (congr 1; omega), HN.out.1, HN.out.2⟩
          case measure => simp [intOf]; omega
        · have hie : i = 4 := by omega
          subst hie
          have hil1 : ¬ ((4 : Nat) : Int) + 1 < 5 := by omega
          have hdri : Hid (wr.rangeAt bd 0 D) := Lib.hid fun i v hv => hbi.cell (by simpa using hv)
          obtain ⟨wz, hwz⟩ : ∃ W, wr.alloc (.cells (sdT (mkT 1 (d, (j : Int)))).toArray 41) = W := ⟨_, rfl⟩
          have hbz : Below wr.heap.size wr wz := by rw [← hwz]; exact (Below.refl _ _).alloc (Nat.le_refl _) _
          have hpz := PRo.new wr [mkT 1 (d, (j : Int))] 1 rfl (fun i hi => hki.lt hi)
          rw [sdCs_single, hwz] at hpz
          have hrz := row_stand (mkT 1 (d, (j : Int))) wr
          rw [hwz] at hrz
          have HRZ := Lib.hid hrz
          have KZ := Lib.hid (hki.below hbz)
          have HI := Lib.hid HALL.out.1
          have HQ := Lib.hid HALL.out.2
          have DZ := Lib.hid (hbi.below hbz hbi.lt)
          have PZ : Hid (PRo U (pT 1 (some ⟨j, d⟩)) wz (.slice (some ⟨wr.heap.size, 0, none⟩) 1 1)) := Lib.hid hpz
          clear hki hbi hwz hbz hpz hrz HALL H6a
          go_wp2_with (first
            | (refine wpList_load_mid rfl 39 _ rfl bd 0 rfl D _ hdri.out Try.underlying39 rfl hnD.out ?_; simp only [Act.put])
            | (refine wpList_build_g rfl 41 _ rfl (sdT (mkT 1 (d, (j : Int)))).toArray HBt.out ?_; simp only [Act.put])
            | (refine row_g rfl 33 1 _ rfl (.slice (some ⟨wr.heap.size, 0, none⟩) 1 1) wz (by simp only [List.map_toArray, List.map_cons, List.map_nil]; exact HRZ.out) ?_; simp only [Act.put]))
          clear HRZ hdri
          go_wp2_with fail
          try clear hc5 h8 h7
          refine (ks_p KZ.out HI.out).mono ?_
          rintro e w5 ⟨v52, rfl, hp5, hb5⟩
          have H5 := Lib.hid (And.intro (prow_stands hp5 (PZ.out.below hb5).prow (pT_len _) (pT_len _)) (And.intro (KZ.out.below hb5) (And.intro (PZ.out.below hb5) (DZ.out.below hb5 DZ.out.lt))))
          clear hp5 hb5
          go_wp2_with fail
          refine H5.out.1.mono ?_
          rintro e w6 ⟨he, hb6⟩
          have he2 : e = .returned (.bool true) := by rw [he]; simp
          clear he
          subst he2
          have H6 := Lib.hid (And.intro (H5.out.2.1.below hb6) (And.intro (H5.out.2.2.1.below hb6) (H5.out.2.2.2.below hb6 H5.out.2.2.2.lt)))
          clear hb6
          go_wp2_with fail
          refine (ks_q H6.out.1 HI.out HQ.out).mono ?_
          rintro e w7 ⟨b8, o8, n8, c8, rfl, hn8, hr8, hb7⟩
          obtain ⟨wq, hwq⟩ : ∃ W, w7.drew = W := ⟨_, rfl⟩
          have hb7' : Below w6.heap.size w6 wq := by rw [← hwq]; exact hb7.drew
          have hrq : wq.rangeAt b8 (o8 + (n8 - 1) * 34) (sdT (mkT 1 (d, (j : Int)))) := by rw [← hwq]; exact hr8
          have hd7 := H6.out.2.2.below hb7' H6.out.2.2.lt
          have hdr : wq.rangeAt bd 0 D := fun i v hv => hd7.cell (by simpa using hv)
          have HW := Lib.hid hwq
          have HF := Lib.hid (And.intro (H6.out.1.below hb7') (H6.out.2.1.below hb7'))
          have HB := Lib.hid (HBt.out)
          have HnX : Hid ((Try.prog.info? 41).map (·.size) = some (sdT (mkT 1 (d, (j : Int)))).length) := Lib.hid (by rw [sdT_len]; exact stand_info1)
          have heq := fun w => eq_stand (mkT 1 (d, (j : Int))) (mkT 1 (d, (j : Int))) w
          simp only [decide_true] at heq
          have HS := Lib.hid (And.intro hrq hdr)
          clear hr8 hb7 hb7' hrq hd7 hdr hwq
          generalize sdT (mkT 1 (d, (j : Int))) = XC at *
          rcases hn8 with rfl | rfl | rfl | rfl
          · have HG : Hid (wq.rangeAt b8 (o8 + (1 - 1) * 34) XC ∧ wq.rangeAt bd 0 D) := HS
            go_wp2
            refine wp_region_held_drew (S := fun W => W.rangeAt b8 (o8 + (1 - 1) * 34) XC ∧ W.rangeAt bd 0 D) (by kernel_rfl) (by rw [HW.out]; exact HG.out) (fun _ => ?_)
            rw [HW.out]
            refine anyH_take (i := 0) (d := 58) (v := ?ra0) rfl rfl (by kernel_rfl) (by kernel_rfl) (by kernel_rfl) (fun _ _ _ h => h) (Or.inl ⟨by rfl, ?ray0⟩) HG.out ?rar0
            case ray0 => (intro w; go_simp; try with_reducible rfl)
            simp only [List.setIfInBounds_toArray, List.set_cons_zero, List.set_cons_succ]
            refine anyH_take (i := 1) (d := 59) (v := ?ra1) rfl rfl (by kernel_rfl) (by kernel_rfl) (by kernel_rfl) (fun _ _ _ h => h) (Or.inl ⟨by rfl, ?ray1⟩) HG.out ?rar1
            case ray1 => (intro w; go_simp; try with_reducible rfl)
            simp only [List.setIfInBounds_toArray, List.set_cons_zero, List.set_cons_succ]
            refine anyH_take (i := 2) (d := 60) (v := ?ra2) rfl rfl (by kernel_rfl) (by kernel_rfl) (by kernel_rfl) (fun _ _ _ h => h) (Or.inl ⟨by rfl, ?ray2⟩) HG.out ?rar2
            case ray2 => (intro w; go_simp; try with_reducible rfl)
            simp only [List.setIfInBounds_toArray, List.set_cons_zero, List.set_cons_succ]
            refine anyH_take (i := 3) (d := 61) (v := ?ra3) rfl rfl (by kernel_rfl) (by kernel_rfl) (by kernel_rfl) (fun _ _ _ h => h) (Or.inl ⟨by rfl, ?ray3⟩) HG.out ?rar3
            case ray3 => (intro w; go_simp; try with_reducible rfl)
            simp only [List.setIfInBounds_toArray, List.set_cons_zero, List.set_cons_succ]
            refine anyH_take (i := 4) (d := 62) (v := ?ra4) rfl rfl (by kernel_rfl) (by kernel_rfl) (by kernel_rfl) (fun _ _ _ h => h) (Or.inl ⟨by rfl, ?ray4⟩) HG.out ?rar4
            case ray4 => (intro w; go_simp; try with_reducible rfl)
            simp only [List.setIfInBounds_toArray, List.set_cons_zero, List.set_cons_succ]
            refine anyH_take (i := 5) (d := 63) (v := ?ra5) rfl rfl (by kernel_rfl) (by kernel_rfl) (by kernel_rfl) (fun _ _ _ h => h) (Or.inl ⟨by rfl, ?ray5⟩) HG.out ?rar5
            case ray5 => (intro w; go_simp; try with_reducible rfl)
            simp only [List.setIfInBounds_toArray, List.set_cons_zero, List.set_cons_succ]
            refine anyH_take (i := 6) (d := 64) (v := ?ra6) rfl rfl (by kernel_rfl) (by kernel_rfl) (by kernel_rfl) (fun _ _ _ h => h) (Or.inl ⟨by rfl, ?ray6⟩) HG.out ?rar6
            case ray6 => (intro w; go_simp; try with_reducible rfl)
            simp only [List.setIfInBounds_toArray, List.set_cons_zero, List.set_cons_succ]
            refine anyH_take (i := 7) (d := 65) (v := ?ra7) rfl rfl (by kernel_rfl) (by kernel_rfl) (by kernel_rfl) (fun _ _ _ h => h) (Or.inl ⟨by rfl, ?ray7⟩) HG.out ?rar7
            case ray7 => (intro w; go_simp; try with_reducible rfl)
            simp only [List.setIfInBounds_toArray, List.set_cons_zero, List.set_cons_succ]
            refine anyH_take (i := 8) (d := 66) (v := ?ra8) rfl rfl (by kernel_rfl) (by kernel_rfl) (by kernel_rfl) (fun _ _ _ h => h) (Or.inl ⟨by rfl, ?ray8⟩) HG.out ?rar8
            case ray8 => (intro w; go_simp; try with_reducible rfl)
            simp only [List.setIfInBounds_toArray, List.set_cons_zero, List.set_cons_succ]
            refine anyH_take (i := 9) (d := 67) (v := ?ra9) rfl rfl (by kernel_rfl) (by kernel_rfl) (by kernel_rfl) (fun _ _ _ h => h) (Or.inl ⟨by rfl, ?ray9⟩) HG.out ?rar9
            case ray9 => (intro w; go_simp; try with_reducible rfl)
            simp only [List.setIfInBounds_toArray, List.set_cons_zero, List.set_cons_succ]
            refine anyH_take (i := 10) (d := 68) (v := ?ra10) rfl rfl (by kernel_rfl) (by kernel_rfl) (by kernel_rfl) (fun _ _ _ h => h) (Or.inl ⟨by rfl, ?ray10⟩) HG.out ?rar10
            case ray10 => (intro w; go_simp; try with_reducible rfl)
            simp only [List.setIfInBounds_toArray, List.set_cons_zero, List.set_cons_succ]
            refine anyH_take (i := 11) (d := 69) (v := ?ra11) rfl rfl (by kernel_rfl) (by kernel_rfl) (by kernel_rfl) (fun _ _ _ h => h) (Or.inl ⟨by rfl, ?ray11⟩) HG.out ?rar11
            case ray11 => (intro w; go_simp; try with_reducible rfl)
            simp only [List.setIfInBounds_toArray, List.set_cons_zero, List.set_cons_succ]
            refine anyH_take (i := 12) (d := 70) (v := ?ra12) rfl rfl (by kernel_rfl) (by kernel_rfl) (by kernel_rfl) (fun _ _ _ h => h) (Or.inl ⟨by rfl, ?ray12⟩) HG.out ?rar12
            case ray12 => (intro w; have hq0 := (show IntKind.i64.wrap 0 = 0 from IntWalk.i64_in _ (by omega)); go_simp; try with_reducible rfl)
            simp only [List.setIfInBounds_toArray, List.set_cons_zero, List.set_cons_succ]
            refine anyH_take (i := 13) (d := 71) (v := ?ra13) rfl rfl (by kernel_rfl) (by kernel_rfl) (by kernel_rfl) (fun _ _ _ h => h) (Or.inl ⟨by rfl, ?ray13⟩) HG.out ?rar13
            case ray13 => (intro w; have hq0 := (show IntKind.i64.wrap 0 = 0 from IntWalk.i64_in _ (by omega)); go_simp; try with_reducible rfl)
            simp only [List.setIfInBounds_toArray, List.set_cons_zero, List.set_cons_succ]
            refine anyH_load (i := 14) (d := 72) rfl rfl (by kernel_rfl) (by kernel_rfl) (by kernel_rfl) (by rfl) 41 _ rfl b8 (o8 + (1 - 1) * 34) rfl XC _ (fun W hSW => hSW.1) Try.underlying41 rfl HnX.out (fun _ _ _ h => h) HG.out ?_
            simp only [List.setIfInBounds_toArray, List.set_cons_zero, List.set_cons_succ]
            refine anyH_load (i := 15) (d := 73) rfl rfl (by kernel_rfl) (by kernel_rfl) (by kernel_rfl) (by rfl) 39 _ rfl bd 0 rfl D _ (fun W hSW => hSW.2) Try.underlying39 rfl hnD.out (fun _ _ _ h => h) HG.out ?_
            simp only [List.setIfInBounds_toArray, List.set_cons_zero, List.set_cons_succ]
            refine anyH_take (i := 16) (d := 74) (v := ?ra16) rfl rfl (by kernel_rfl) (by kernel_rfl) (by kernel_rfl) (fun _ _ _ h => h) (Or.inl ⟨by rfl, ?ray16⟩) HG.out ?rar16
            case ray16 => (intro w; go_simp; try with_reducible rfl)
            simp only [List.setIfInBounds_toArray, List.set_cons_zero, List.set_cons_succ]
            refine wpAnyH_take' (i := 17) (d := 75) (v := .agg XC.toArray) rfl rfl (by kernel_rfl) (by kernel_rfl) (by kernel_rfl) (fun _ _ _ h => h) (Or.inl ⟨by rfl, ?ray17⟩) HG.out ?rar17
            case ray17 => (intro W hSW; exact exec_build 41 _ rfl _ HB.out W)
            simp only [List.setIfInBounds_toArray, List.set_cons_zero, List.set_cons_succ]
            refine anyH_take (i := 18) (d := 76) (v := ?ra18) rfl rfl (by kernel_rfl) (by kernel_rfl) (by kernel_rfl) (fun _ _ _ h => h) (Or.inl ⟨by rfl, ?ray18⟩) HG.out ?rar18
            case ray18 => (intro w; have hq0 := heq w; go_simp; try with_reducible rfl)
            simp only [List.setIfInBounds_toArray, List.set_cons_zero, List.set_cons_succ]
            refine anyH_take (i := 19) (d := 77) (v := ?ra19) rfl rfl (by kernel_rfl) (by kernel_rfl) (by kernel_rfl) (fun _ _ _ h => h) (Or.inl ⟨by rfl, ?ray19⟩) HG.out ?rar19
            case ray19 => (intro w; go_simp; try with_reducible rfl)
            simp only [List.setIfInBounds_toArray, List.set_cons_zero, List.set_cons_succ]
            refine wpAnyH_done (by kernel_rfl) ?_ _
            go_wp2
            go_roundw
            case rel => exact ⟨j + 1, _, _, by omega, by omega, by go_num, HI.out, HF.out.1, HF.out.2⟩
            case measure => simp [intOf]; omega
          · have HG : Hid (wq.rangeAt b8 (o8 + (2 - 1) * 34) XC ∧ wq.rangeAt bd 0 D) := HS
            go_wp2
            refine wp_region_held_drew (S := fun W => W.rangeAt b8 (o8 + (2 - 1) * 34) XC ∧ W.rangeAt bd 0 D) (by kernel_rfl) (by rw [HW.out]; exact HG.out) (fun _ => ?_)
            rw [HW.out]
            refine anyH_take (i := 0) (d := 58) (v := ?rb0) rfl rfl (by kernel_rfl) (by kernel_rfl) (by kernel_rfl) (fun _ _ _ h => h) (Or.inl ⟨by rfl, ?rby0⟩) HG.out ?rbr0
            case rby0 => (intro w; go_simp; try with_reducible rfl)
            simp only [List.setIfInBounds_toArray, List.set_cons_zero, List.set_cons_succ]
            refine anyH_take (i := 1) (d := 59) (v := ?rb1) rfl rfl (by kernel_rfl) (by kernel_rfl) (by kernel_rfl) (fun _ _ _ h => h) (Or.inl ⟨by rfl, ?rby1⟩) HG.out ?rbr1
            case rby1 => (intro w; go_simp; try with_reducible rfl)
            simp only [List.setIfInBounds_toArray, List.set_cons_zero, List.set_cons_succ]
            refine anyH_take (i := 2) (d := 60) (v := ?rb2) rfl rfl (by kernel_rfl) (by kernel_rfl) (by kernel_rfl) (fun _ _ _ h => h) (Or.inl ⟨by rfl, ?rby2⟩) HG.out ?rbr2
            case rby2 => (intro w; go_simp; try with_reducible rfl)
            simp only [List.setIfInBounds_toArray, List.set_cons_zero, List.set_cons_succ]
            refine anyH_take (i := 3) (d := 61) (v := ?rb3) rfl rfl (by kernel_rfl) (by kernel_rfl) (by kernel_rfl) (fun _ _ _ h => h) (Or.inl ⟨by rfl, ?rby3⟩) HG.out ?rbr3
            case rby3 => (intro w; go_simp; try with_reducible rfl)
            simp only [List.setIfInBounds_toArray, List.set_cons_zero, List.set_cons_succ]
            refine anyH_take (i := 4) (d := 62) (v := ?rb4) rfl rfl (by kernel_rfl) (by kernel_rfl) (by kernel_rfl) (fun _ _ _ h => h) (Or.inl ⟨by rfl, ?rby4⟩) HG.out ?rbr4
            case rby4 => (intro w; go_simp; try with_reducible rfl)
            simp only [List.setIfInBounds_toArray, List.set_cons_zero, List.set_cons_succ]
            refine anyH_take (i := 5) (d := 63) (v := ?rb5) rfl rfl (by kernel_rfl) (by kernel_rfl) (by kernel_rfl) (fun _ _ _ h => h) (Or.inl ⟨by rfl, ?rby5⟩) HG.out ?rbr5
            case rby5 => (intro w; go_simp; try with_reducible rfl)
            simp only [List.setIfInBounds_toArray, List.set_cons_zero, List.set_cons_succ]
            refine anyH_take (i := 6) (d := 64) (v := ?rb6) rfl rfl (by kernel_rfl) (by kernel_rfl) (by kernel_rfl) (fun _ _ _ h => h) (Or.inl ⟨by rfl, ?rby6⟩) HG.out ?rbr6
            case rby6 => (intro w; go_simp; try with_reducible rfl)
            simp only [List.setIfInBounds_toArray, List.set_cons_zero, List.set_cons_succ]
            refine anyH_take (i := 7) (d := 65) (v := ?rb7) rfl rfl (by kernel_rfl) (by kernel_rfl) (by kernel_rfl) (fun _ _ _ h => h) (Or.inl ⟨by rfl, ?rby7⟩) HG.out ?rbr7
            case rby7 => (intro w; go_simp; try with_reducible rfl)
            simp only [List.setIfInBounds_toArray, List.set_cons_zero, List.set_cons_succ]
            refine anyH_take (i := 8) (d := 66) (v := ?rb8) rfl rfl (by kernel_rfl) (by kernel_rfl) (by kernel_rfl) (fun _ _ _ h => h) (Or.inl ⟨by rfl, ?rby8⟩) HG.out ?rbr8
            case rby8 => (intro w; go_simp; try with_reducible rfl)
            simp only [List.setIfInBounds_toArray, List.set_cons_zero, List.set_cons_succ]
            refine anyH_take (i := 9) (d := 67) (v := ?rb9) rfl rfl (by kernel_rfl) (by kernel_rfl) (by kernel_rfl) (fun _ _ _ h => h) (Or.inl ⟨by rfl, ?rby9⟩) HG.out ?rbr9
            case rby9 => (intro w; go_simp; try with_reducible rfl)
            simp only [List.setIfInBounds_toArray, List.set_cons_zero, List.set_cons_succ]
            refine anyH_take (i := 10) (d := 68) (v := ?rb10) rfl rfl (by kernel_rfl) (by kernel_rfl) (by kernel_rfl) (fun _ _ _ h => h) (Or.inl ⟨by rfl, ?rby10⟩) HG.out ?rbr10
            case rby10 => (intro w; go_simp; try with_reducible rfl)
            simp only [List.setIfInBounds_toArray, List.set_cons_zero, List.set_cons_succ]
            refine anyH_take (i := 11) (d := 69) (v := ?rb11) rfl rfl (by kernel_rfl) (by kernel_rfl) (by kernel_rfl) (fun _ _ _ h => h) (Or.inl ⟨by rfl, ?rby11⟩) HG.out ?rbr11
            case rby11 => (intro w; go_simp; try with_reducible rfl)
            simp only [List.setIfInBounds_toArray, List.set_cons_zero, List.set_cons_succ]
            refine anyH_take (i := 12) (d := 70) (v := ?rb12) rfl rfl (by kernel_rfl) (by kernel_rfl) (by kernel_rfl) (fun _ _ _ h => h) (Or.inl ⟨by rfl, ?rby12⟩) HG.out ?rbr12
            case rby12 => (intro w; have hq0 := (show IntKind.i64.wrap 1 = 1 from IntWalk.i64_in _ (by omega)); go_simp; try with_reducible rfl)
            simp only [List.setIfInBounds_toArray, List.set_cons_zero, List.set_cons_succ]
            refine anyH_take (i := 13) (d := 71) (v := ?rb13) rfl rfl (by kernel_rfl) (by kernel_rfl) (by kernel_rfl) (fun _ _ _ h => h) (Or.inl ⟨by rfl, ?rby13⟩) HG.out ?rbr13
            case rby13 => (intro w; have hq0 := (show IntKind.i64.wrap 1 = 1 from IntWalk.i64_in _ (by omega)); go_simp; try with_reducible rfl)
            simp only [List.setIfInBounds_toArray, List.set_cons_zero, List.set_cons_succ]
            refine anyH_load (i := 14) (d := 72) rfl rfl (by kernel_rfl) (by kernel_rfl) (by kernel_rfl) (by rfl) 41 _ rfl b8 (o8 + (2 - 1) * 34) rfl XC _ (fun W hSW => hSW.1) Try.underlying41 rfl HnX.out (fun _ _ _ h => h) HG.out ?_
            simp only [List.setIfInBounds_toArray, List.set_cons_zero, List.set_cons_succ]
            refine anyH_load (i := 15) (d := 73) rfl rfl (by kernel_rfl) (by kernel_rfl) (by kernel_rfl) (by rfl) 39 _ rfl bd 0 rfl D _ (fun W hSW => hSW.2) Try.underlying39 rfl hnD.out (fun _ _ _ h => h) HG.out ?_
            simp only [List.setIfInBounds_toArray, List.set_cons_zero, List.set_cons_succ]
            refine anyH_take (i := 16) (d := 74) (v := ?rb16) rfl rfl (by kernel_rfl) (by kernel_rfl) (by kernel_rfl) (fun _ _ _ h => h) (Or.inl ⟨by rfl, ?rby16⟩) HG.out ?rbr16
            case rby16 => (intro w; go_simp; try with_reducible rfl)
            simp only [List.setIfInBounds_toArray, List.set_cons_zero, List.set_cons_succ]
            refine wpAnyH_take' (i := 17) (d := 75) (v := .agg XC.toArray) rfl rfl (by kernel_rfl) (by kernel_rfl) (by kernel_rfl) (fun _ _ _ h => h) (Or.inl ⟨by rfl, ?rby17⟩) HG.out ?rbr17
            case rby17 => (intro W hSW; exact exec_build 41 _ rfl _ HB.out W)
            simp only [List.setIfInBounds_toArray, List.set_cons_zero, List.set_cons_succ]
            refine anyH_take (i := 18) (d := 76) (v := ?rb18) rfl rfl (by kernel_rfl) (by kernel_rfl) (by kernel_rfl) (fun _ _ _ h => h) (Or.inl ⟨by rfl, ?rby18⟩) HG.out ?rbr18
            case rby18 => (intro w; have hq0 := heq w; go_simp; try with_reducible rfl)
            simp only [List.setIfInBounds_toArray, List.set_cons_zero, List.set_cons_succ]
            refine anyH_take (i := 19) (d := 77) (v := ?rb19) rfl rfl (by kernel_rfl) (by kernel_rfl) (by kernel_rfl) (fun _ _ _ h => h) (Or.inl ⟨by rfl, ?rby19⟩) HG.out ?rbr19
            case rby19 => (intro w; go_simp; try with_reducible rfl)
            simp only [List.setIfInBounds_toArray, List.set_cons_zero, List.set_cons_succ]
            refine wpAnyH_done (by kernel_rfl) ?_ _
            go_wp2
            go_roundw
            case rel => exact ⟨j + 1, _, _, by omega, by omega, by go_num, HI.out, HF.out.1, HF.out.2⟩
            case measure => simp [intOf]; omega
          · have HG : Hid (wq.rangeAt b8 (o8 + (3 - 1) * 34) XC ∧ wq.rangeAt bd 0 D) := HS
            go_wp2
            refine wp_region_held_drew (S := fun W => W.rangeAt b8 (o8 + (3 - 1) * 34) XC ∧ W.rangeAt bd 0 D) (by kernel_rfl) (by rw [HW.out]; exact HG.out) (fun _ => ?_)
            rw [HW.out]
            refine anyH_take (i := 0) (d := 58) (v := ?rc0) rfl rfl (by kernel_rfl) (by kernel_rfl) (by kernel_rfl) (fun _ _ _ h => h) (Or.inl ⟨by rfl, ?rcy0⟩) HG.out ?rcr0
            case rcy0 => (intro w; go_simp; try with_reducible rfl)
            simp only [List.setIfInBounds_toArray, List.set_cons_zero, List.set_cons_succ]
            refine anyH_take (i := 1) (d := 59) (v := ?rc1) rfl rfl (by kernel_rfl) (by kernel_rfl) (by kernel_rfl) (fun _ _ _ h => h) (Or.inl ⟨by rfl, ?rcy1⟩) HG.out ?rcr1
            case rcy1 => (intro w; go_simp; try with_reducible rfl)
            simp only [List.setIfInBounds_toArray, List.set_cons_zero, List.set_cons_succ]
            refine anyH_take (i := 2) (d := 60) (v := ?rc2) rfl rfl (by kernel_rfl) (by kernel_rfl) (by kernel_rfl) (fun _ _ _ h => h) (Or.inl ⟨by rfl, ?rcy2⟩) HG.out ?rcr2
            case rcy2 => (intro w; go_simp; try with_reducible rfl)
            simp only [List.setIfInBounds_toArray, List.set_cons_zero, List.set_cons_succ]
            refine anyH_take (i := 3) (d := 61) (v := ?rc3) rfl rfl (by kernel_rfl) (by kernel_rfl) (by kernel_rfl) (fun _ _ _ h => h) (Or.inl ⟨by rfl, ?rcy3⟩) HG.out ?rcr3
            case rcy3 => (intro w; go_simp; try with_reducible rfl)
            simp only [List.setIfInBounds_toArray, List.set_cons_zero, List.set_cons_succ]
            refine anyH_take (i := 4) (d := 62) (v := ?rc4) rfl rfl (by kernel_rfl) (by kernel_rfl) (by kernel_rfl) (fun _ _ _ h => h) (Or.inl ⟨by rfl, ?rcy4⟩) HG.out ?rcr4
            case rcy4 => (intro w; go_simp; try with_reducible rfl)
            simp only [List.setIfInBounds_toArray, List.set_cons_zero, List.set_cons_succ]
            refine anyH_take (i := 5) (d := 63) (v := ?rc5) rfl rfl (by kernel_rfl) (by kernel_rfl) (by kernel_rfl) (fun _ _ _ h => h) (Or.inl ⟨by rfl, ?rcy5⟩) HG.out ?rcr5
            case rcy5 => (intro w; go_simp; try with_reducible rfl)
            simp only [List.setIfInBounds_toArray, List.set_cons_zero, List.set_cons_succ]
            refine anyH_take (i := 6) (d := 64) (v := ?rc6) rfl rfl (by kernel_rfl) (by kernel_rfl) (by kernel_rfl) (fun _ _ _ h => h) (Or.inl ⟨by rfl, ?rcy6⟩) HG.out ?rcr6
            case rcy6 => (intro w; go_simp; try with_reducible rfl)
            simp only [List.setIfInBounds_toArray, List.set_cons_zero, List.set_cons_succ]
            refine anyH_take (i := 7) (d := 65) (v := ?rc7) rfl rfl (by kernel_rfl) (by kernel_rfl) (by kernel_rfl) (fun _ _ _ h => h) (Or.inl ⟨by rfl, ?rcy7⟩) HG.out ?rcr7
            case rcy7 => (intro w; go_simp; try with_reducible rfl)
            simp only [List.setIfInBounds_toArray, List.set_cons_zero, List.set_cons_succ]
            refine anyH_take (i := 8) (d := 66) (v := ?rc8) rfl rfl (by kernel_rfl) (by kernel_rfl) (by kernel_rfl) (fun _ _ _ h => h) (Or.inl ⟨by rfl, ?rcy8⟩) HG.out ?rcr8
            case rcy8 => (intro w; go_simp; try with_reducible rfl)
            simp only [List.setIfInBounds_toArray, List.set_cons_zero, List.set_cons_succ]
            refine anyH_take (i := 9) (d := 67) (v := ?rc9) rfl rfl (by kernel_rfl) (by kernel_rfl) (by kernel_rfl) (fun _ _ _ h => h) (Or.inl ⟨by rfl, ?rcy9⟩) HG.out ?rcr9
            case rcy9 => (intro w; go_simp; try with_reducible rfl)
            simp only [List.setIfInBounds_toArray, List.set_cons_zero, List.set_cons_succ]
            refine anyH_take (i := 10) (d := 68) (v := ?rc10) rfl rfl (by kernel_rfl) (by kernel_rfl) (by kernel_rfl) (fun _ _ _ h => h) (Or.inl ⟨by rfl, ?rcy10⟩) HG.out ?rcr10
            case rcy10 => (intro w; go_simp; try with_reducible rfl)
            simp only [List.setIfInBounds_toArray, List.set_cons_zero, List.set_cons_succ]
            refine anyH_take (i := 11) (d := 69) (v := ?rc11) rfl rfl (by kernel_rfl) (by kernel_rfl) (by kernel_rfl) (fun _ _ _ h => h) (Or.inl ⟨by rfl, ?rcy11⟩) HG.out ?rcr11
            case rcy11 => (intro w; go_simp; try with_reducible rfl)
            simp only [List.setIfInBounds_toArray, List.set_cons_zero, List.set_cons_succ]
            refine anyH_take (i := 12) (d := 70) (v := ?rc12) rfl rfl (by kernel_rfl) (by kernel_rfl) (by kernel_rfl) (fun _ _ _ h => h) (Or.inl ⟨by rfl, ?rcy12⟩) HG.out ?rcr12
            case rcy12 => (intro w; have hq0 := (show IntKind.i64.wrap 2 = 2 from IntWalk.i64_in _ (by omega)); go_simp; try with_reducible rfl)
            simp only [List.setIfInBounds_toArray, List.set_cons_zero, List.set_cons_succ]
            refine anyH_take (i := 13) (d := 71) (v := ?rc13) rfl rfl (by kernel_rfl) (by kernel_rfl) (by kernel_rfl) (fun _ _ _ h => h) (Or.inl ⟨by rfl, ?rcy13⟩) HG.out ?rcr13
            case rcy13 => (intro w; have hq0 := (show IntKind.i64.wrap 2 = 2 from IntWalk.i64_in _ (by omega)); go_simp; try with_reducible rfl)
            simp only [List.setIfInBounds_toArray, List.set_cons_zero, List.set_cons_succ]
            refine anyH_load (i := 14) (d := 72) rfl rfl (by kernel_rfl) (by kernel_rfl) (by kernel_rfl) (by rfl) 41 _ rfl b8 (o8 + (3 - 1) * 34) rfl XC _ (fun W hSW => hSW.1) Try.underlying41 rfl HnX.out (fun _ _ _ h => h) HG.out ?_
            simp only [List.setIfInBounds_toArray, List.set_cons_zero, List.set_cons_succ]
            refine anyH_load (i := 15) (d := 73) rfl rfl (by kernel_rfl) (by kernel_rfl) (by kernel_rfl) (by rfl) 39 _ rfl bd 0 rfl D _ (fun W hSW => hSW.2) Try.underlying39 rfl hnD.out (fun _ _ _ h => h) HG.out ?_
            simp only [List.setIfInBounds_toArray, List.set_cons_zero, List.set_cons_succ]
            refine anyH_take (i := 16) (d := 74) (v := ?rc16) rfl rfl (by kernel_rfl) (by kernel_rfl) (by kernel_rfl) (fun _ _ _ h => h) (Or.inl ⟨by rfl, ?rcy16⟩) HG.out ?rcr16
            case rcy16 => (intro w; go_simp; try with_reducible rfl)
            simp only [List.setIfInBounds_toArray, List.set_cons_zero, List.set_cons_succ]
            refine wpAnyH_take' (i := 17) (d := 75) (v := .agg XC.toArray) rfl rfl (by kernel_rfl) (by kernel_rfl) (by kernel_rfl) (fun _ _ _ h => h) (Or.inl ⟨by rfl, ?rcy17⟩) HG.out ?rcr17
            case rcy17 => (intro W hSW; exact exec_build 41 _ rfl _ HB.out W)
            simp only [List.setIfInBounds_toArray, List.set_cons_zero, List.set_cons_succ]
            refine anyH_take (i := 18) (d := 76) (v := ?rc18) rfl rfl (by kernel_rfl) (by kernel_rfl) (by kernel_rfl) (fun _ _ _ h => h) (Or.inl ⟨by rfl, ?rcy18⟩) HG.out ?rcr18
            case rcy18 => (intro w; have hq0 := heq w; go_simp; try with_reducible rfl)
            simp only [List.setIfInBounds_toArray, List.set_cons_zero, List.set_cons_succ]
            refine anyH_take (i := 19) (d := 77) (v := ?rc19) rfl rfl (by kernel_rfl) (by kernel_rfl) (by kernel_rfl) (fun _ _ _ h => h) (Or.inl ⟨by rfl, ?rcy19⟩) HG.out ?rcr19
            case rcy19 => (intro w; go_simp; try with_reducible rfl)
            simp only [List.setIfInBounds_toArray, List.set_cons_zero, List.set_cons_succ]
            refine wpAnyH_done (by kernel_rfl) ?_ _
            go_wp2
            go_roundw
            case rel => exact ⟨j + 1, _, _, by omega, by omega, by go_num, HI.out, HF.out.1, HF.out.2⟩
            case measure => simp [intOf]; omega
          · have HG : Hid (wq.rangeAt b8 (o8 + (4 - 1) * 34) XC ∧ wq.rangeAt bd 0 D) := HS
            go_wp2
            refine wp_region_held_drew (S := fun W => W.rangeAt b8 (o8 + (4 - 1) * 34) XC ∧ W.rangeAt bd 0 D) (by kernel_rfl) (by rw [HW.out]; exact HG.out) (fun _ => ?_)
            rw [HW.out]
            refine anyH_take (i := 0) (d := 58) (v := ?rd0) rfl rfl (by kernel_rfl) (by kernel_rfl) (by kernel_rfl) (fun _ _ _ h => h) (Or.inl ⟨by rfl, ?rdy0⟩) HG.out ?rdr0
            case rdy0 => (intro w; go_simp; try with_reducible rfl)
            simp only [List.setIfInBounds_toArray, List.set_cons_zero, List.set_cons_succ]
            refine anyH_take (i := 1) (d := 59) (v := ?rd1) rfl rfl (by kernel_rfl) (by kernel_rfl) (by kernel_rfl) (fun _ _ _ h => h) (Or.inl ⟨by rfl, ?rdy1⟩) HG.out ?rdr1
            case rdy1 => (intro w; go_simp; try with_reducible rfl)
            simp only [List.setIfInBounds_toArray, List.set_cons_zero, List.set_cons_succ]
            refine anyH_take (i := 2) (d := 60) (v := ?rd2) rfl rfl (by kernel_rfl) (by kernel_rfl) (by kernel_rfl) (fun _ _ _ h => h) (Or.inl ⟨by rfl, ?rdy2⟩) HG.out ?rdr2
            case rdy2 => (intro w; go_simp; try with_reducible rfl)
            simp only [List.setIfInBounds_toArray, List.set_cons_zero, List.set_cons_succ]
            refine anyH_take (i := 3) (d := 61) (v := ?rd3) rfl rfl (by kernel_rfl) (by kernel_rfl) (by kernel_rfl) (fun _ _ _ h => h) (Or.inl ⟨by rfl, ?rdy3⟩) HG.out ?rdr3
            case rdy3 => (intro w; go_simp; try with_reducible rfl)
            simp only [List.setIfInBounds_toArray, List.set_cons_zero, List.set_cons_succ]
            refine anyH_take (i := 4) (d := 62) (v := ?rd4) rfl rfl (by kernel_rfl) (by kernel_rfl) (by kernel_rfl) (fun _ _ _ h => h) (Or.inl ⟨by rfl, ?rdy4⟩) HG.out ?rdr4
            case rdy4 => (intro w; go_simp; try with_reducible rfl)
            simp only [List.setIfInBounds_toArray, List.set_cons_zero, List.set_cons_succ]
            refine anyH_take (i := 5) (d := 63) (v := ?rd5) rfl rfl (by kernel_rfl) (by kernel_rfl) (by kernel_rfl) (fun _ _ _ h => h) (Or.inl ⟨by rfl, ?rdy5⟩) HG.out ?rdr5
            case rdy5 => (intro w; go_simp; try with_reducible rfl)
            simp only [List.setIfInBounds_toArray, List.set_cons_zero, List.set_cons_succ]
            refine anyH_take (i := 6) (d := 64) (v := ?rd6) rfl rfl (by kernel_rfl) (by kernel_rfl) (by kernel_rfl) (fun _ _ _ h => h) (Or.inl ⟨by rfl, ?rdy6⟩) HG.out ?rdr6
            case rdy6 => (intro w; go_simp; try with_reducible rfl)
            simp only [List.setIfInBounds_toArray, List.set_cons_zero, List.set_cons_succ]
            refine anyH_take (i := 7) (d := 65) (v := ?rd7) rfl rfl (by kernel_rfl) (by kernel_rfl) (by kernel_rfl) (fun _ _ _ h => h) (Or.inl ⟨by rfl, ?rdy7⟩) HG.out ?rdr7
            case rdy7 => (intro w; go_simp; try with_reducible rfl)
            simp only [List.setIfInBounds_toArray, List.set_cons_zero, List.set_cons_succ]
            refine anyH_take (i := 8) (d := 66) (v := ?rd8) rfl rfl (by kernel_rfl) (by kernel_rfl) (by kernel_rfl) (fun _ _ _ h => h) (Or.inl ⟨by rfl, ?rdy8⟩) HG.out ?rdr8
            case rdy8 => (intro w; go_simp; try with_reducible rfl)
            simp only [List.setIfInBounds_toArray, List.set_cons_zero, List.set_cons_succ]
            refine anyH_take (i := 9) (d := 67) (v := ?rd9) rfl rfl (by kernel_rfl) (by kernel_rfl) (by kernel_rfl) (fun _ _ _ h => h) (Or.inl ⟨by rfl, ?rdy9⟩) HG.out ?rdr9
            case rdy9 => (intro w; go_simp; try with_reducible rfl)
            simp only [List.setIfInBounds_toArray, List.set_cons_zero, List.set_cons_succ]
            refine anyH_take (i := 10) (d := 68) (v := ?rd10) rfl rfl (by kernel_rfl) (by kernel_rfl) (by kernel_rfl) (fun _ _ _ h => h) (Or.inl ⟨by rfl, ?rdy10⟩) HG.out ?rdr10
            case rdy10 => (intro w; go_simp; try with_reducible rfl)
            simp only [List.setIfInBounds_toArray, List.set_cons_zero, List.set_cons_succ]
            refine anyH_take (i := 11) (d := 69) (v := ?rd11) rfl rfl (by kernel_rfl) (by kernel_rfl) (by kernel_rfl) (fun _ _ _ h => h) (Or.inl ⟨by rfl, ?rdy11⟩) HG.out ?rdr11
            case rdy11 => (intro w; go_simp; try with_reducible rfl)
            simp only [List.setIfInBounds_toArray, List.set_cons_zero, List.set_cons_succ]
            refine anyH_take (i := 12) (d := 70) (v := ?rd12) rfl rfl (by kernel_rfl) (by kernel_rfl) (by kernel_rfl) (fun _ _ _ h => h) (Or.inl ⟨by rfl, ?rdy12⟩) HG.out ?rdr12
            case rdy12 => (intro w; have hq0 := (show IntKind.i64.wrap 3 = 3 from IntWalk.i64_in _ (by omega)); go_simp; try with_reducible rfl)
            simp only [List.setIfInBounds_toArray, List.set_cons_zero, List.set_cons_succ]
            refine anyH_take (i := 13) (d := 71) (v := ?rd13) rfl rfl (by kernel_rfl) (by kernel_rfl) (by kernel_rfl) (fun _ _ _ h => h) (Or.inl ⟨by rfl, ?rdy13⟩) HG.out ?rdr13
            case rdy13 => (intro w; have hq0 := (show IntKind.i64.wrap 3 = 3 from IntWalk.i64_in _ (by omega)); go_simp; try with_reducible rfl)
            simp only [List.setIfInBounds_toArray, List.set_cons_zero, List.set_cons_succ]
            refine anyH_load (i := 14) (d := 72) rfl rfl (by kernel_rfl) (by kernel_rfl) (by kernel_rfl) (by rfl) 41 _ rfl b8 (o8 + (4 - 1) * 34) rfl XC _ (fun W hSW => hSW.1) Try.underlying41 rfl HnX.out (fun _ _ _ h => h) HG.out ?_
            simp only [List.setIfInBounds_toArray, List.set_cons_zero, List.set_cons_succ]
            refine anyH_load (i := 15) (d := 73) rfl rfl (by kernel_rfl) (by kernel_rfl) (by kernel_rfl) (by rfl) 39 _ rfl bd 0 rfl D _ (fun W hSW => hSW.2) Try.underlying39 rfl hnD.out (fun _ _ _ h => h) HG.out ?_
            simp only [List.setIfInBounds_toArray, List.set_cons_zero, List.set_cons_succ]
            refine anyH_take (i := 16) (d := 74) (v := ?rd16) rfl rfl (by kernel_rfl) (by kernel_rfl) (by kernel_rfl) (fun _ _ _ h => h) (Or.inl ⟨by rfl, ?rdy16⟩) HG.out ?rdr16
            case rdy16 => (intro w; go_simp; try with_reducible rfl)
            simp only [List.setIfInBounds_toArray, List.set_cons_zero, List.set_cons_succ]
            refine wpAnyH_take' (i := 17) (d := 75) (v := .agg XC.toArray) rfl rfl (by kernel_rfl) (by kernel_rfl) (by kernel_rfl) (fun _ _ _ h => h) (Or.inl ⟨by rfl, ?rdy17⟩) HG.out ?rdr17
            case rdy17 => (intro W hSW; exact exec_build 41 _ rfl _ HB.out W)
            simp only [List.setIfInBounds_toArray, List.set_cons_zero, List.set_cons_succ]
            refine anyH_take (i := 18) (d := 76) (v := ?rd18) rfl rfl (by kernel_rfl) (by kernel_rfl) (by kernel_rfl) (fun _ _ _ h => h) (Or.inl ⟨by rfl, ?rdy18⟩) HG.out ?rdr18
            case rdy18 => (intro w; have hq0 := heq w; go_simp; try with_reducible rfl)
            simp only [List.setIfInBounds_toArray, List.set_cons_zero, List.set_cons_succ]
            refine anyH_take (i := 19) (d := 77) (v := ?rd19) rfl rfl (by kernel_rfl) (by kernel_rfl) (by kernel_rfl) (fun _ _ _ h => h) (Or.inl ⟨by rfl, ?rdy19⟩) HG.out ?rdr19
            case rdy19 => (intro w; go_simp; try with_reducible rfl)
            simp only [List.setIfInBounds_toArray, List.set_cons_zero, List.set_cons_succ]
            refine wpAnyH_done (by kernel_rfl) ?_ _
            go_wp2
            go_roundw
            case rel => exact ⟨j + 1, _, _, by omega, by omega, by go_num, HI.out, HF.out.1, HF.out.2⟩
            case measure => simp [intOf]; omega
    · skip
      have KZ := Lib.hid H5a.out.1
      have HI := Lib.hid H5a.out.2.1
      have HQ := Lib.hid H5a.out.2.2.1
      have DZ := Lib.hid H5a.out.2.2.2.1
      have PZ := Lib.hid H5a.out.2.2.2.2
      clear H5a HALL
      go_wp2_with fail
      try clear hc5 h8 h7
      refine (ks_p KZ.out HI.out).mono ?_
      rintro e w5 ⟨v52, rfl, hp5, hb5⟩
      have H5 := Lib.hid (And.intro (prow_stands hp5 (PZ.out.below hb5).prow (pT_len _) (pT_len _)) (And.intro (KZ.out.below hb5) (And.intro (PZ.out.below hb5) (DZ.out.below hb5 DZ.out.lt))))
      clear hp5 hb5
      go_wp2_with fail
      refine H5.out.1.mono ?_
      rintro e w6 ⟨he, hb6⟩
      have he2 : e = .returned (.bool true) := by rw [he]; simp
      clear he
      subst he2
      have H6 := Lib.hid (And.intro (H5.out.2.1.below hb6) (And.intro (H5.out.2.2.1.below hb6) (H5.out.2.2.2.below hb6 H5.out.2.2.2.lt)))
      clear hb6
      go_wp2_with fail
      refine (ks_q H6.out.1 HI.out HQ.out).mono ?_
      rintro e w7 ⟨b8, o8, n8, c8, rfl, hn8, hr8, hb7⟩
      obtain ⟨wq, hwq⟩ : ∃ W, w7.drew = W := ⟨_, rfl⟩
      have hb7' : Below w6.heap.size w6 wq := by rw [← hwq]; exact hb7.drew
      have hrq : wq.rangeAt b8 (o8 + (n8 - 1) * 34) (sdT (mkT 1 (d, (j : Int)))) := by rw [← hwq]; exact hr8
      have hd7 := H6.out.2.2.below hb7' H6.out.2.2.lt
      have hdr : wq.rangeAt bd 0 D := fun i v hv => hd7.cell (by simpa using hv)
      have HW := Lib.hid hwq
      have HF := Lib.hid (And.intro (H6.out.1.below hb7') (H6.out.2.1.below hb7'))
      have HB := Lib.hid (HBt.out)
      have HnX : Hid ((Try.prog.info? 41).map (·.size) = some (sdT (mkT 1 (d, (j : Int)))).length) := Lib.hid (by rw [sdT_len]; exact stand_info1)
      have heq := fun w => eq_stand (mkT 1 (d, (j : Int))) (mkT 1 (d, (j : Int))) w
      simp only [decide_true] at heq
      have HS := Lib.hid (And.intro hrq hdr)
      clear hr8 hb7 hb7' hrq hd7 hdr hwq
      generalize sdT (mkT 1 (d, (j : Int))) = XC at *
      rcases hn8 with rfl | rfl | rfl | rfl
      · have HG : Hid (wq.rangeAt b8 (o8 + (1 - 1) * 34) XC ∧ wq.rangeAt bd 0 D) := HS
        go_wp2
        refine wp_region_held_drew (S := fun W => W.rangeAt b8 (o8 + (1 - 1) * 34) XC ∧ W.rangeAt bd 0 D) (by kernel_rfl) (by rw [HW.out]; exact HG.out) (fun _ => ?_)
        rw [HW.out]
        refine anyH_take (i := 0) (d := 58) (v := ?re0) rfl rfl (by kernel_rfl) (by kernel_rfl) (by kernel_rfl) (fun _ _ _ h => h) (Or.inl ⟨by rfl, ?rey0⟩) HG.out ?rer0
        case rey0 => (intro w; go_simp; try with_reducible rfl)
        simp only [List.setIfInBounds_toArray, List.set_cons_zero, List.set_cons_succ]
        refine anyH_take (i := 1) (d := 59) (v := ?re1) rfl rfl (by kernel_rfl) (by kernel_rfl) (by kernel_rfl) (fun _ _ _ h => h) (Or.inl ⟨by rfl, ?rey1⟩) HG.out ?rer1
        case rey1 => (intro w; go_simp; try with_reducible rfl)
        simp only [List.setIfInBounds_toArray, List.set_cons_zero, List.set_cons_succ]
        refine anyH_take (i := 2) (d := 60) (v := ?re2) rfl rfl (by kernel_rfl) (by kernel_rfl) (by kernel_rfl) (fun _ _ _ h => h) (Or.inl ⟨by rfl, ?rey2⟩) HG.out ?rer2
        case rey2 => (intro w; go_simp; try with_reducible rfl)
        simp only [List.setIfInBounds_toArray, List.set_cons_zero, List.set_cons_succ]
        refine anyH_take (i := 3) (d := 61) (v := ?re3) rfl rfl (by kernel_rfl) (by kernel_rfl) (by kernel_rfl) (fun _ _ _ h => h) (Or.inl ⟨by rfl, ?rey3⟩) HG.out ?rer3
        case rey3 => (intro w; go_simp; try with_reducible rfl)
        simp only [List.setIfInBounds_toArray, List.set_cons_zero, List.set_cons_succ]
        refine anyH_take (i := 4) (d := 62) (v := ?re4) rfl rfl (by kernel_rfl) (by kernel_rfl) (by kernel_rfl) (fun _ _ _ h => h) (Or.inl ⟨by rfl, ?rey4⟩) HG.out ?rer4
        case rey4 => (intro w; go_simp; try with_reducible rfl)
        simp only [List.setIfInBounds_toArray, List.set_cons_zero, List.set_cons_succ]
        refine anyH_take (i := 5) (d := 63) (v := ?re5) rfl rfl (by kernel_rfl) (by kernel_rfl) (by kernel_rfl) (fun _ _ _ h => h) (Or.inl ⟨by rfl, ?rey5⟩) HG.out ?rer5
        case rey5 => (intro w; go_simp; try with_reducible rfl)
        simp only [List.setIfInBounds_toArray, List.set_cons_zero, List.set_cons_succ]
        refine anyH_take (i := 6) (d := 64) (v := ?re6) rfl rfl (by kernel_rfl) (by kernel_rfl) (by kernel_rfl) (fun _ _ _ h => h) (Or.inl ⟨by rfl, ?rey6⟩) HG.out ?rer6
        case rey6 => (intro w; go_simp; try with_reducible rfl)
        simp only [List.setIfInBounds_toArray, List.set_cons_zero, List.set_cons_succ]
        refine anyH_take (i := 7) (d := 65) (v := ?re7) rfl rfl (by kernel_rfl) (by kernel_rfl) (by kernel_rfl) (fun _ _ _ h => h) (Or.inl ⟨by rfl, ?rey7⟩) HG.out ?rer7
        case rey7 => (intro w; go_simp; try with_reducible rfl)
        simp only [List.setIfInBounds_toArray, List.set_cons_zero, List.set_cons_succ]
        refine anyH_take (i := 8) (d := 66) (v := ?re8) rfl rfl (by kernel_rfl) (by kernel_rfl) (by kernel_rfl) (fun _ _ _ h => h) (Or.inl ⟨by rfl, ?rey8⟩) HG.out ?rer8
        case rey8 => (intro w; go_simp; try with_reducible rfl)
        simp only [List.setIfInBounds_toArray, List.set_cons_zero, List.set_cons_succ]
        refine anyH_take (i := 9) (d := 67) (v := ?re9) rfl rfl (by kernel_rfl) (by kernel_rfl) (by kernel_rfl) (fun _ _ _ h => h) (Or.inl ⟨by rfl, ?rey9⟩) HG.out ?rer9
        case rey9 => (intro w; go_simp; try with_reducible rfl)
        simp only [List.setIfInBounds_toArray, List.set_cons_zero, List.set_cons_succ]
        refine anyH_take (i := 10) (d := 68) (v := ?re10) rfl rfl (by kernel_rfl) (by kernel_rfl) (by kernel_rfl) (fun _ _ _ h => h) (Or.inl ⟨by rfl, ?rey10⟩) HG.out ?rer10
        case rey10 => (intro w; go_simp; try with_reducible rfl)
        simp only [List.setIfInBounds_toArray, List.set_cons_zero, List.set_cons_succ]
        refine anyH_take (i := 11) (d := 69) (v := ?re11) rfl rfl (by kernel_rfl) (by kernel_rfl) (by kernel_rfl) (fun _ _ _ h => h) (Or.inl ⟨by rfl, ?rey11⟩) HG.out ?rer11
        case rey11 => (intro w; go_simp; try with_reducible rfl)
        simp only [List.setIfInBounds_toArray, List.set_cons_zero, List.set_cons_succ]
        refine anyH_take (i := 12) (d := 70) (v := ?re12) rfl rfl (by kernel_rfl) (by kernel_rfl) (by kernel_rfl) (fun _ _ _ h => h) (Or.inl ⟨by rfl, ?rey12⟩) HG.out ?rer12
        case rey12 => (intro w; have hq0 := (show IntKind.i64.wrap 0 = 0 from IntWalk.i64_in _ (by omega)); go_simp; try with_reducible rfl)
        simp only [List.setIfInBounds_toArray, List.set_cons_zero, List.set_cons_succ]
        refine anyH_take (i := 13) (d := 71) (v := ?re13) rfl rfl (by kernel_rfl) (by kernel_rfl) (by kernel_rfl) (fun _ _ _ h => h) (Or.inl ⟨by rfl, ?rey13⟩) HG.out ?rer13
        case rey13 => (intro w; have hq0 := (show IntKind.i64.wrap 0 = 0 from IntWalk.i64_in _ (by omega)); go_simp; try with_reducible rfl)
        simp only [List.setIfInBounds_toArray, List.set_cons_zero, List.set_cons_succ]
        refine anyH_load (i := 14) (d := 72) rfl rfl (by kernel_rfl) (by kernel_rfl) (by kernel_rfl) (by rfl) 41 _ rfl b8 (o8 + (1 - 1) * 34) rfl XC _ (fun W hSW => hSW.1) Try.underlying41 rfl HnX.out (fun _ _ _ h => h) HG.out ?_
        simp only [List.setIfInBounds_toArray, List.set_cons_zero, List.set_cons_succ]
        refine anyH_load (i := 15) (d := 73) rfl rfl (by kernel_rfl) (by kernel_rfl) (by kernel_rfl) (by rfl) 39 _ rfl bd 0 rfl D _ (fun W hSW => hSW.2) Try.underlying39 rfl hnD.out (fun _ _ _ h => h) HG.out ?_
        simp only [List.setIfInBounds_toArray, List.set_cons_zero, List.set_cons_succ]
        refine anyH_take (i := 16) (d := 74) (v := ?re16) rfl rfl (by kernel_rfl) (by kernel_rfl) (by kernel_rfl) (fun _ _ _ h => h) (Or.inl ⟨by rfl, ?rey16⟩) HG.out ?rer16
        case rey16 => (intro w; go_simp; try with_reducible rfl)
        simp only [List.setIfInBounds_toArray, List.set_cons_zero, List.set_cons_succ]
        refine wpAnyH_take' (i := 17) (d := 75) (v := .agg XC.toArray) rfl rfl (by kernel_rfl) (by kernel_rfl) (by kernel_rfl) (fun _ _ _ h => h) (Or.inl ⟨by rfl, ?rey17⟩) HG.out ?rer17
        case rey17 => (intro W hSW; exact exec_build 41 _ rfl _ HB.out W)
        simp only [List.setIfInBounds_toArray, List.set_cons_zero, List.set_cons_succ]
        refine anyH_take (i := 18) (d := 76) (v := ?re18) rfl rfl (by kernel_rfl) (by kernel_rfl) (by kernel_rfl) (fun _ _ _ h => h) (Or.inl ⟨by rfl, ?rey18⟩) HG.out ?rer18
        case rey18 => (intro w; have hq0 := heq w; go_simp; try with_reducible rfl)
        simp only [List.setIfInBounds_toArray, List.set_cons_zero, List.set_cons_succ]
        refine anyH_take (i := 19) (d := 77) (v := ?re19) rfl rfl (by kernel_rfl) (by kernel_rfl) (by kernel_rfl) (fun _ _ _ h => h) (Or.inl ⟨by rfl, ?rey19⟩) HG.out ?rer19
        case rey19 => (intro w; go_simp; try with_reducible rfl)
        simp only [List.setIfInBounds_toArray, List.set_cons_zero, List.set_cons_succ]
        refine wpAnyH_done (by kernel_rfl) ?_ _
        go_wp2
        go_roundw
        case rel => exact ⟨j + 1, _, _, by omega, by omega, by go_num, HI.out, HF.out.1, HF.out.2⟩
        case measure => simp [intOf]; omega
      · have HG : Hid (wq.rangeAt b8 (o8 + (2 - 1) * 34) XC ∧ wq.rangeAt bd 0 D) := HS
        go_wp2
        refine wp_region_held_drew (S := fun W => W.rangeAt b8 (o8 + (2 - 1) * 34) XC ∧ W.rangeAt bd 0 D) (by kernel_rfl) (by rw [HW.out]; exact HG.out) (fun _ => ?_)
        rw [HW.out]
        refine anyH_take (i := 0) (d := 58) (v := ?rf0) rfl rfl (by kernel_rfl) (by kernel_rfl) (by kernel_rfl) (fun _ _ _ h => h) (Or.inl ⟨by rfl, ?rfy0⟩) HG.out ?rfr0
        case rfy0 => (intro w; go_simp; try with_reducible rfl)
        simp only [List.setIfInBounds_toArray, List.set_cons_zero, List.set_cons_succ]
        refine anyH_take (i := 1) (d := 59) (v := ?rf1) rfl rfl (by kernel_rfl) (by kernel_rfl) (by kernel_rfl) (fun _ _ _ h => h) (Or.inl ⟨by rfl, ?rfy1⟩) HG.out ?rfr1
        case rfy1 => (intro w; go_simp; try with_reducible rfl)
        simp only [List.setIfInBounds_toArray, List.set_cons_zero, List.set_cons_succ]
        refine anyH_take (i := 2) (d := 60) (v := ?rf2) rfl rfl (by kernel_rfl) (by kernel_rfl) (by kernel_rfl) (fun _ _ _ h => h) (Or.inl ⟨by rfl, ?rfy2⟩) HG.out ?rfr2
        case rfy2 => (intro w; go_simp; try with_reducible rfl)
        simp only [List.setIfInBounds_toArray, List.set_cons_zero, List.set_cons_succ]
        refine anyH_take (i := 3) (d := 61) (v := ?rf3) rfl rfl (by kernel_rfl) (by kernel_rfl) (by kernel_rfl) (fun _ _ _ h => h) (Or.inl ⟨by rfl, ?rfy3⟩) HG.out ?rfr3
        case rfy3 => (intro w; go_simp; try with_reducible rfl)
        simp only [List.setIfInBounds_toArray, List.set_cons_zero, List.set_cons_succ]
        refine anyH_take (i := 4) (d := 62) (v := ?rf4) rfl rfl (by kernel_rfl) (by kernel_rfl) (by kernel_rfl) (fun _ _ _ h => h) (Or.inl ⟨by rfl, ?rfy4⟩) HG.out ?rfr4
        case rfy4 => (intro w; go_simp; try with_reducible rfl)
        simp only [List.setIfInBounds_toArray, List.set_cons_zero, List.set_cons_succ]
        refine anyH_take (i := 5) (d := 63) (v := ?rf5) rfl rfl (by kernel_rfl) (by kernel_rfl) (by kernel_rfl) (fun _ _ _ h => h) (Or.inl ⟨by rfl, ?rfy5⟩) HG.out ?rfr5
        case rfy5 => (intro w; go_simp; try with_reducible rfl)
        simp only [List.setIfInBounds_toArray, List.set_cons_zero, List.set_cons_succ]
        refine anyH_take (i := 6) (d := 64) (v := ?rf6) rfl rfl (by kernel_rfl) (by kernel_rfl) (by kernel_rfl) (fun _ _ _ h => h) (Or.inl ⟨by rfl, ?rfy6⟩) HG.out ?rfr6
        case rfy6 => (intro w; go_simp; try with_reducible rfl)
        simp only [List.setIfInBounds_toArray, List.set_cons_zero, List.set_cons_succ]
        refine anyH_take (i := 7) (d := 65) (v := ?rf7) rfl rfl (by kernel_rfl) (by kernel_rfl) (by kernel_rfl) (fun _ _ _ h => h) (Or.inl ⟨by rfl, ?rfy7⟩) HG.out ?rfr7
        case rfy7 => (intro w; go_simp; try with_reducible rfl)
        simp only [List.setIfInBounds_toArray, List.set_cons_zero, List.set_cons_succ]
        refine anyH_take (i := 8) (d := 66) (v := ?rf8) rfl rfl (by kernel_rfl) (by kernel_rfl) (by kernel_rfl) (fun _ _ _ h => h) (Or.inl ⟨by rfl, ?rfy8⟩) HG.out ?rfr8
        case rfy8 => (intro w; go_simp; try with_reducible rfl)
        simp only [List.setIfInBounds_toArray, List.set_cons_zero, List.set_cons_succ]
        refine anyH_take (i := 9) (d := 67) (v := ?rf9) rfl rfl (by kernel_rfl) (by kernel_rfl) (by kernel_rfl) (fun _ _ _ h => h) (Or.inl ⟨by rfl, ?rfy9⟩) HG.out ?rfr9
        case rfy9 => (intro w; go_simp; try with_reducible rfl)
        simp only [List.setIfInBounds_toArray, List.set_cons_zero, List.set_cons_succ]
        refine anyH_take (i := 10) (d := 68) (v := ?rf10) rfl rfl (by kernel_rfl) (by kernel_rfl) (by kernel_rfl) (fun _ _ _ h => h) (Or.inl ⟨by rfl, ?rfy10⟩) HG.out ?rfr10
        case rfy10 => (intro w; go_simp; try with_reducible rfl)
        simp only [List.setIfInBounds_toArray, List.set_cons_zero, List.set_cons_succ]
        refine anyH_take (i := 11) (d := 69) (v := ?rf11) rfl rfl (by kernel_rfl) (by kernel_rfl) (by kernel_rfl) (fun _ _ _ h => h) (Or.inl ⟨by rfl, ?rfy11⟩) HG.out ?rfr11
        case rfy11 => (intro w; go_simp; try with_reducible rfl)
        simp only [List.setIfInBounds_toArray, List.set_cons_zero, List.set_cons_succ]
        refine anyH_take (i := 12) (d := 70) (v := ?rf12) rfl rfl (by kernel_rfl) (by kernel_rfl) (by kernel_rfl) (fun _ _ _ h => h) (Or.inl ⟨by rfl, ?rfy12⟩) HG.out ?rfr12
        case rfy12 => (intro w; have hq0 := (show IntKind.i64.wrap 1 = 1 from IntWalk.i64_in _ (by omega)); go_simp; try with_reducible rfl)
        simp only [List.setIfInBounds_toArray, List.set_cons_zero, List.set_cons_succ]
        refine anyH_take (i := 13) (d := 71) (v := ?rf13) rfl rfl (by kernel_rfl) (by kernel_rfl) (by kernel_rfl) (fun _ _ _ h => h) (Or.inl ⟨by rfl, ?rfy13⟩) HG.out ?rfr13
        case rfy13 => (intro w; have hq0 := (show IntKind.i64.wrap 1 = 1 from IntWalk.i64_in _ (by omega)); go_simp; try with_reducible rfl)
        simp only [List.setIfInBounds_toArray, List.set_cons_zero, List.set_cons_succ]
        refine anyH_load (i := 14) (d := 72) rfl rfl (by kernel_rfl) (by kernel_rfl) (by kernel_rfl) (by rfl) 41 _ rfl b8 (o8 + (2 - 1) * 34) rfl XC _ (fun W hSW => hSW.1) Try.underlying41 rfl HnX.out (fun _ _ _ h => h) HG.out ?_
        simp only [List.setIfInBounds_toArray, List.set_cons_zero, List.set_cons_succ]
        refine anyH_load (i := 15) (d := 73) rfl rfl (by kernel_rfl) (by kernel_rfl) (by kernel_rfl) (by rfl) 39 _ rfl bd 0 rfl D _ (fun W hSW => hSW.2) Try.underlying39 rfl hnD.out (fun _ _ _ h => h) HG.out ?_
        simp only [List.setIfInBounds_toArray, List.set_cons_zero, List.set_cons_succ]
        refine anyH_take (i := 16) (d := 74) (v := ?rf16) rfl rfl (by kernel_rfl) (by kernel_rfl) (by kernel_rfl) (fun _ _ _ h => h) (Or.inl ⟨by rfl, ?rfy16⟩) HG.out ?rfr16
        case rfy16 => (intro w; go_simp; try with_reducible rfl)
        simp only [List.setIfInBounds_toArray, List.set_cons_zero, List.set_cons_succ]
        refine wpAnyH_take' (i := 17) (d := 75) (v := .agg XC.toArray) rfl rfl (by kernel_rfl) (by kernel_rfl) (by kernel_rfl) (fun _ _ _ h => h) (Or.inl ⟨by rfl, ?rfy17⟩) HG.out ?rfr17
        case rfy17 => (intro W hSW; exact exec_build 41 _ rfl _ HB.out W)
        simp only [List.setIfInBounds_toArray, List.set_cons_zero, List.set_cons_succ]
        refine anyH_take (i := 18) (d := 76) (v := ?rf18) rfl rfl (by kernel_rfl) (by kernel_rfl) (by kernel_rfl) (fun _ _ _ h => h) (Or.inl ⟨by rfl, ?rfy18⟩) HG.out ?rfr18
        case rfy18 => (intro w; have hq0 := heq w; go_simp; try with_reducible rfl)
        simp only [List.setIfInBounds_toArray, List.set_cons_zero, List.set_cons_succ]
        refine anyH_take (i := 19) (d := 77) (v := ?rf19) rfl rfl (by kernel_rfl) (by kernel_rfl) (by kernel_rfl) (fun _ _ _ h => h) (Or.inl ⟨by rfl, ?rfy19⟩) HG.out ?rfr19
        case rfy19 => (intro w; go_simp; try with_reducible rfl)
        simp only [List.setIfInBounds_toArray, List.set_cons_zero, List.set_cons_succ]
        refine wpAnyH_done (by kernel_rfl) ?_ _
        go_wp2
        go_roundw
        case rel => exact ⟨j + 1, _, _, by omega, by omega, by go_num, HI.out, HF.out.1, HF.out.2⟩
        case measure => simp [intOf]; omega
      · have HG : Hid (wq.rangeAt b8 (o8 + (3 - 1) * 34) XC ∧ wq.rangeAt bd 0 D) := HS
        go_wp2
        refine wp_region_held_drew (S := fun W => W.rangeAt b8 (o8 + (3 - 1) * 34) XC ∧ W.rangeAt bd 0 D) (by kernel_rfl) (by rw [HW.out]; exact HG.out) (fun _ => ?_)
        rw [HW.out]
        refine anyH_take (i := 0) (d := 58) (v := ?rg0) rfl rfl (by kernel_rfl) (by kernel_rfl) (by kernel_rfl) (fun _ _ _ h => h) (Or.inl ⟨by rfl, ?rgy0⟩) HG.out ?rgr0
        case rgy0 => (intro w; go_simp; try with_reducible rfl)
        simp only [List.setIfInBounds_toArray, List.set_cons_zero, List.set_cons_succ]
        refine anyH_take (i := 1) (d := 59) (v := ?rg1) rfl rfl (by kernel_rfl) (by kernel_rfl) (by kernel_rfl) (fun _ _ _ h => h) (Or.inl ⟨by rfl, ?rgy1⟩) HG.out ?rgr1
        case rgy1 => (intro w; go_simp; try with_reducible rfl)
        simp only [List.setIfInBounds_toArray, List.set_cons_zero, List.set_cons_succ]
        refine anyH_take (i := 2) (d := 60) (v := ?rg2) rfl rfl (by kernel_rfl) (by kernel_rfl) (by kernel_rfl) (fun _ _ _ h => h) (Or.inl ⟨by rfl, ?rgy2⟩) HG.out ?rgr2
        case rgy2 => (intro w; go_simp; try with_reducible rfl)
        simp only [List.setIfInBounds_toArray, List.set_cons_zero, List.set_cons_succ]
        refine anyH_take (i := 3) (d := 61) (v := ?rg3) rfl rfl (by kernel_rfl) (by kernel_rfl) (by kernel_rfl) (fun _ _ _ h => h) (Or.inl ⟨by rfl, ?rgy3⟩) HG.out ?rgr3
        case rgy3 => (intro w; go_simp; try with_reducible rfl)
        simp only [List.setIfInBounds_toArray, List.set_cons_zero, List.set_cons_succ]
        refine anyH_take (i := 4) (d := 62) (v := ?rg4) rfl rfl (by kernel_rfl) (by kernel_rfl) (by kernel_rfl) (fun _ _ _ h => h) (Or.inl ⟨by rfl, ?rgy4⟩) HG.out ?rgr4
        case rgy4 => (intro w; go_simp; try with_reducible rfl)
        simp only [List.setIfInBounds_toArray, List.set_cons_zero, List.set_cons_succ]
        refine anyH_take (i := 5) (d := 63) (v := ?rg5) rfl rfl (by kernel_rfl) (by kernel_rfl) (by kernel_rfl) (fun _ _ _ h => h) (Or.inl ⟨by rfl, ?rgy5⟩) HG.out ?rgr5
        case rgy5 => (intro w; go_simp; try with_reducible rfl)
        simp only [List.setIfInBounds_toArray, List.set_cons_zero, List.set_cons_succ]
        refine anyH_take (i := 6) (d := 64) (v := ?rg6) rfl rfl (by kernel_rfl) (by kernel_rfl) (by kernel_rfl) (fun _ _ _ h => h) (Or.inl ⟨by rfl, ?rgy6⟩) HG.out ?rgr6
        case rgy6 => (intro w; go_simp; try with_reducible rfl)
        simp only [List.setIfInBounds_toArray, List.set_cons_zero, List.set_cons_succ]
        refine anyH_take (i := 7) (d := 65) (v := ?rg7) rfl rfl (by kernel_rfl) (by kernel_rfl) (by kernel_rfl) (fun _ _ _ h => h) (Or.inl ⟨by rfl, ?rgy7⟩) HG.out ?rgr7
        case rgy7 => (intro w; go_simp; try with_reducible rfl)
        simp only [List.setIfInBounds_toArray, List.set_cons_zero, List.set_cons_succ]
        refine anyH_take (i := 8) (d := 66) (v := ?rg8) rfl rfl (by kernel_rfl) (by kernel_rfl) (by kernel_rfl) (fun _ _ _ h => h) (Or.inl ⟨by rfl, ?rgy8⟩) HG.out ?rgr8
        case rgy8 => (intro w; go_simp; try with_reducible rfl)
        simp only [List.setIfInBounds_toArray, List.set_cons_zero, List.set_cons_succ]
        refine anyH_take (i := 9) (d := 67) (v := ?rg9) rfl rfl (by kernel_rfl) (by kernel_rfl) (by kernel_rfl) (fun _ _ _ h => h) (Or.inl ⟨by rfl, ?rgy9⟩) HG.out ?rgr9
        case rgy9 => (intro w; go_simp; try with_reducible rfl)
        simp only [List.setIfInBounds_toArray, List.set_cons_zero, List.set_cons_succ]
        refine anyH_take (i := 10) (d := 68) (v := ?rg10) rfl rfl (by kernel_rfl) (by kernel_rfl) (by kernel_rfl) (fun _ _ _ h => h) (Or.inl ⟨by rfl, ?rgy10⟩) HG.out ?rgr10
        case rgy10 => (intro w; go_simp; try with_reducible rfl)
        simp only [List.setIfInBounds_toArray, List.set_cons_zero, List.set_cons_succ]
        refine anyH_take (i := 11) (d := 69) (v := ?rg11) rfl rfl (by kernel_rfl) (by kernel_rfl) (by kernel_rfl) (fun _ _ _ h => h) (Or.inl ⟨by rfl, ?rgy11⟩) HG.out ?rgr11
        case rgy11 => (intro w; go_simp; try with_reducible rfl)
        simp only [List.setIfInBounds_toArray, List.set_cons_zero, List.set_cons_succ]
        refine anyH_take (i := 12) (d := 70) (v := ?rg12) rfl rfl (by kernel_rfl) (by kernel_rfl) (by kernel_rfl) (fun _ _ _ h => h) (Or.inl ⟨by rfl, ?rgy12⟩) HG.out ?rgr12
        case rgy12 => (intro w; have hq0 := (show IntKind.i64.wrap 2 = 2 from IntWalk.i64_in _ (by omega)); go_simp; try with_reducible rfl)
        simp only [List.setIfInBounds_toArray, List.set_cons_zero, List.set_cons_succ]
        refine anyH_take (i := 13) (d := 71) (v := ?rg13) rfl rfl (by kernel_rfl) (by kernel_rfl) (by kernel_rfl) (fun _ _ _ h => h) (Or.inl ⟨by rfl, ?rgy13⟩) HG.out ?rgr13
        case rgy13 => (intro w; have hq0 := (show IntKind.i64.wrap 2 = 2 from IntWalk.i64_in _ (by omega)); go_simp; try with_reducible rfl)
        simp only [List.setIfInBounds_toArray, List.set_cons_zero, List.set_cons_succ]
        refine anyH_load (i := 14) (d := 72) rfl rfl (by kernel_rfl) (by kernel_rfl) (by kernel_rfl) (by rfl) 41 _ rfl b8 (o8 + (3 - 1) * 34) rfl XC _ (fun W hSW => hSW.1) Try.underlying41 rfl HnX.out (fun _ _ _ h => h) HG.out ?_
        simp only [List.setIfInBounds_toArray, List.set_cons_zero, List.set_cons_succ]
        refine anyH_load (i := 15) (d := 73) rfl rfl (by kernel_rfl) (by kernel_rfl) (by kernel_rfl) (by rfl) 39 _ rfl bd 0 rfl D _ (fun W hSW => hSW.2) Try.underlying39 rfl hnD.out (fun _ _ _ h => h) HG.out ?_
        simp only [List.setIfInBounds_toArray, List.set_cons_zero, List.set_cons_succ]
        refine anyH_take (i := 16) (d := 74) (v := ?rg16) rfl rfl (by kernel_rfl) (by kernel_rfl) (by kernel_rfl) (fun _ _ _ h => h) (Or.inl ⟨by rfl, ?rgy16⟩) HG.out ?rgr16
        case rgy16 => (intro w; go_simp; try with_reducible rfl)
        simp only [List.setIfInBounds_toArray, List.set_cons_zero, List.set_cons_succ]
        refine wpAnyH_take' (i := 17) (d := 75) (v := .agg XC.toArray) rfl rfl (by kernel_rfl) (by kernel_rfl) (by kernel_rfl) (fun _ _ _ h => h) (Or.inl ⟨by rfl, ?rgy17⟩) HG.out ?rgr17
        case rgy17 => (intro W hSW; exact exec_build 41 _ rfl _ HB.out W)
        simp only [List.setIfInBounds_toArray, List.set_cons_zero, List.set_cons_succ]
        refine anyH_take (i := 18) (d := 76) (v := ?rg18) rfl rfl (by kernel_rfl) (by kernel_rfl) (by kernel_rfl) (fun _ _ _ h => h) (Or.inl ⟨by rfl, ?rgy18⟩) HG.out ?rgr18
        case rgy18 => (intro w; have hq0 := heq w; go_simp; try with_reducible rfl)
        simp only [List.setIfInBounds_toArray, List.set_cons_zero, List.set_cons_succ]
        refine anyH_take (i := 19) (d := 77) (v := ?rg19) rfl rfl (by kernel_rfl) (by kernel_rfl) (by kernel_rfl) (fun _ _ _ h => h) (Or.inl ⟨by rfl, ?rgy19⟩) HG.out ?rgr19
        case rgy19 => (intro w; go_simp; try with_reducible rfl)
        simp only [List.setIfInBounds_toArray, List.set_cons_zero, List.set_cons_succ]
        refine wpAnyH_done (by kernel_rfl) ?_ _
        go_wp2
        go_roundw
        case rel => exact ⟨j + 1, _, _, by omega, by omega, by go_num, HI.out, HF.out.1, HF.out.2⟩
        case measure => simp [intOf]; omega
      · have HG : Hid (wq.rangeAt b8 (o8 + (4 - 1) * 34) XC ∧ wq.rangeAt bd 0 D) := HS
        go_wp2
        refine wp_region_held_drew (S := fun W => W.rangeAt b8 (o8 + (4 - 1) * 34) XC ∧ W.rangeAt bd 0 D) (by kernel_rfl) (by rw [HW.out]; exact HG.out) (fun _ => ?_)
        rw [HW.out]
        refine anyH_take (i := 0) (d := 58) (v := ?rh0) rfl rfl (by kernel_rfl) (by kernel_rfl) (by kernel_rfl) (fun _ _ _ h => h) (Or.inl ⟨by rfl, ?rhy0⟩) HG.out ?rhr0
        case rhy0 => (intro w; go_simp; try with_reducible rfl)
        simp only [List.setIfInBounds_toArray, List.set_cons_zero, List.set_cons_succ]
        refine anyH_take (i := 1) (d := 59) (v := ?rh1) rfl rfl (by kernel_rfl) (by kernel_rfl) (by kernel_rfl) (fun _ _ _ h => h) (Or.inl ⟨by rfl, ?rhy1⟩) HG.out ?rhr1
        case rhy1 => (intro w; go_simp; try with_reducible rfl)
        simp only [List.setIfInBounds_toArray, List.set_cons_zero, List.set_cons_succ]
        refine anyH_take (i := 2) (d := 60) (v := ?rh2) rfl rfl (by kernel_rfl) (by kernel_rfl) (by kernel_rfl) (fun _ _ _ h => h) (Or.inl ⟨by rfl, ?rhy2⟩) HG.out ?rhr2
        case rhy2 => (intro w; go_simp; try with_reducible rfl)
        simp only [List.setIfInBounds_toArray, List.set_cons_zero, List.set_cons_succ]
        refine anyH_take (i := 3) (d := 61) (v := ?rh3) rfl rfl (by kernel_rfl) (by kernel_rfl) (by kernel_rfl) (fun _ _ _ h => h) (Or.inl ⟨by rfl, ?rhy3⟩) HG.out ?rhr3
        case rhy3 => (intro w; go_simp; try with_reducible rfl)
        simp only [List.setIfInBounds_toArray, List.set_cons_zero, List.set_cons_succ]
        refine anyH_take (i := 4) (d := 62) (v := ?rh4) rfl rfl (by kernel_rfl) (by kernel_rfl) (by kernel_rfl) (fun _ _ _ h => h) (Or.inl ⟨by rfl, ?rhy4⟩) HG.out ?rhr4
        case rhy4 => (intro w; go_simp; try with_reducible rfl)
        simp only [List.setIfInBounds_toArray, List.set_cons_zero, List.set_cons_succ]
        refine anyH_take (i := 5) (d := 63) (v := ?rh5) rfl rfl (by kernel_rfl) (by kernel_rfl) (by kernel_rfl) (fun _ _ _ h => h) (Or.inl ⟨by rfl, ?rhy5⟩) HG.out ?rhr5
        case rhy5 => (intro w; go_simp; try with_reducible rfl)
        simp only [List.setIfInBounds_toArray, List.set_cons_zero, List.set_cons_succ]
        refine anyH_take (i := 6) (d := 64) (v := ?rh6) rfl rfl (by kernel_rfl) (by kernel_rfl) (by kernel_rfl) (fun _ _ _ h => h) (Or.inl ⟨by rfl, ?rhy6⟩) HG.out ?rhr6
        case rhy6 => (intro w; go_simp; try with_reducible rfl)
        simp only [List.setIfInBounds_toArray, List.set_cons_zero, List.set_cons_succ]
        refine anyH_take (i := 7) (d := 65) (v := ?rh7) rfl rfl (by kernel_rfl) (by kernel_rfl) (by kernel_rfl) (fun _ _ _ h => h) (Or.inl ⟨by rfl, ?rhy7⟩) HG.out ?rhr7
        case rhy7 => (intro w; go_simp; try with_reducible rfl)
        simp only [List.setIfInBounds_toArray, List.set_cons_zero, List.set_cons_succ]
        refine anyH_take (i := 8) (d := 66) (v := ?rh8) rfl rfl (by kernel_rfl) (by kernel_rfl) (by kernel_rfl) (fun _ _ _ h => h) (Or.inl ⟨by rfl, ?rhy8⟩) HG.out ?rhr8
        case rhy8 => (intro w; go_simp; try with_reducible rfl)
        simp only [List.setIfInBounds_toArray, List.set_cons_zero, List.set_cons_succ]
        refine anyH_take (i := 9) (d := 67) (v := ?rh9) rfl rfl (by kernel_rfl) (by kernel_rfl) (by kernel_rfl) (fun _ _ _ h => h) (Or.inl ⟨by rfl, ?rhy9⟩) HG.out ?rhr9
        case rhy9 => (intro w; go_simp; try with_reducible rfl)
        simp only [List.setIfInBounds_toArray, List.set_cons_zero, List.set_cons_succ]
        refine anyH_take (i := 10) (d := 68) (v := ?rh10) rfl rfl (by kernel_rfl) (by kernel_rfl) (by kernel_rfl) (fun _ _ _ h => h) (Or.inl ⟨by rfl, ?rhy10⟩) HG.out ?rhr10
        case rhy10 => (intro w; go_simp; try with_reducible rfl)
        simp only [List.setIfInBounds_toArray, List.set_cons_zero, List.set_cons_succ]
        refine anyH_take (i := 11) (d := 69) (v := ?rh11) rfl rfl (by kernel_rfl) (by kernel_rfl) (by kernel_rfl) (fun _ _ _ h => h) (Or.inl ⟨by rfl, ?rhy11⟩) HG.out ?rhr11
        case rhy11 => (intro w; go_simp; try with_reducible rfl)
        simp only [List.setIfInBounds_toArray, List.set_cons_zero, List.set_cons_succ]
        refine anyH_take (i := 12) (d := 70) (v := ?rh12) rfl rfl (by kernel_rfl) (by kernel_rfl) (by kernel_rfl) (fun _ _ _ h => h) (Or.inl ⟨by rfl, ?rhy12⟩) HG.out ?rhr12
        case rhy12 => (intro w; have hq0 := (show IntKind.i64.wrap 3 = 3 from IntWalk.i64_in _ (by omega)); go_simp; try with_reducible rfl)
        simp only [List.setIfInBounds_toArray, List.set_cons_zero, List.set_cons_succ]
        refine anyH_take (i := 13) (d := 71) (v := ?rh13) rfl rfl (by kernel_rfl) (by kernel_rfl) (by kernel_rfl) (fun _ _ _ h => h) (Or.inl ⟨by rfl, ?rhy13⟩) HG.out ?rhr13
        case rhy13 => (intro w; have hq0 := (show IntKind.i64.wrap 3 = 3 from IntWalk.i64_in _ (by omega)); go_simp; try with_reducible rfl)
        simp only [List.setIfInBounds_toArray, List.set_cons_zero, List.set_cons_succ]
        refine anyH_load (i := 14) (d := 72) rfl rfl (by kernel_rfl) (by kernel_rfl) (by kernel_rfl) (by rfl) 41 _ rfl b8 (o8 + (4 - 1) * 34) rfl XC _ (fun W hSW => hSW.1) Try.underlying41 rfl HnX.out (fun _ _ _ h => h) HG.out ?_
        simp only [List.setIfInBounds_toArray, List.set_cons_zero, List.set_cons_succ]
        refine anyH_load (i := 15) (d := 73) rfl rfl (by kernel_rfl) (by kernel_rfl) (by kernel_rfl) (by rfl) 39 _ rfl bd 0 rfl D _ (fun W hSW => hSW.2) Try.underlying39 rfl hnD.out (fun _ _ _ h => h) HG.out ?_
        simp only [List.setIfInBounds_toArray, List.set_cons_zero, List.set_cons_succ]
        refine anyH_take (i := 16) (d := 74) (v := ?rh16) rfl rfl (by kernel_rfl) (by kernel_rfl) (by kernel_rfl) (fun _ _ _ h => h) (Or.inl ⟨by rfl, ?rhy16⟩) HG.out ?rhr16
        case rhy16 => (intro w; go_simp; try with_reducible rfl)
        simp only [List.setIfInBounds_toArray, List.set_cons_zero, List.set_cons_succ]
        refine wpAnyH_take' (i := 17) (d := 75) (v := .agg XC.toArray) rfl rfl (by kernel_rfl) (by kernel_rfl) (by kernel_rfl) (fun _ _ _ h => h) (Or.inl ⟨by rfl, ?rhy17⟩) HG.out ?rhr17
        case rhy17 => (intro W hSW; exact exec_build 41 _ rfl _ HB.out W)
        simp only [List.setIfInBounds_toArray, List.set_cons_zero, List.set_cons_succ]
        refine anyH_take (i := 18) (d := 76) (v := ?rh18) rfl rfl (by kernel_rfl) (by kernel_rfl) (by kernel_rfl) (fun _ _ _ h => h) (Or.inl ⟨by rfl, ?rhy18⟩) HG.out ?rhr18
        case rhy18 => (intro w; have hq0 := heq w; go_simp; try with_reducible rfl)
        simp only [List.setIfInBounds_toArray, List.set_cons_zero, List.set_cons_succ]
        refine anyH_take (i := 19) (d := 77) (v := ?rh19) rfl rfl (by kernel_rfl) (by kernel_rfl) (by kernel_rfl) (fun _ _ _ h => h) (Or.inl ⟨by rfl, ?rhy19⟩) HG.out ?rhr19
        case rhy19 => (intro w; go_simp; try with_reducible rfl)
        simp only [List.setIfInBounds_toArray, List.set_cons_zero, List.set_cons_succ]
        refine wpAnyH_done (by kernel_rfl) ?_ _
        go_wp2
        go_roundw
        case rel => exact ⟨j + 1, _, _, by omega, by omega, by go_num, HI.out, HF.out.1, HF.out.2⟩
        case measure => simp [intOf]; omega

end Go.Proofs.Ytmdgcimjmmnbjaa.slotsKeeps
