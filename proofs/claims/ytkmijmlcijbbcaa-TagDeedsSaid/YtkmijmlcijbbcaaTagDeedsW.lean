/-
  For all lists of deeds l (100 at most are done): ledgers are as the chapter says, what is handed in stays, and is not kept; TagDeeds returns true; no condition.
-/
import Derived.Test.YtkmijmlcijbbcaaTagY
import Derived.Test.YtkmijmlcijbbcaaTagY
import Derived.Test.YtkmijmlcijbbcaaTagW
import Derived.Deep.RegionHeld3
import Derived.Deep.RegionWith
import Derived.Deep.DeepCutAuto
namespace Go.Proofs.Ytkmijmlcijbbcaa.tagDeeds
open Go.ChangeShapes Go.WideShapes Go.ChangeAt Go.RowKit
set_option linter.unusedVariables false

set_option maxRecDepth 100000 in
set_option maxHeartbeats 6400000 in
theorem walk (Al : Option Addr) (nl cl : Nat) (l : List DeedL) (w : World) (hl : ArgD w Al nl cl l ∧ ∀ x ∈ l, x.rs.length ≤ 17592186043904) :
    Calls Try.prog 3 #[.slice Al nl cl] w fun e w' => e = .returned (.bool true) ∧ Below w.heap.size w w' := by
  obtain ⟨hl, hbig⟩ := hl
  have HA := Lib.hid (And.intro hl hbig)
  have hcm := hl.2.2.1
  unfold maxLen at hcm
  have hnc := hl.2.1
  clear hl hbig
  have hnot : ∀ (x : Bool) (w : World), (Op.unary .not (.bool x)).run Try.prog w = .ok (.bool (!x)) w := fun _ _ => rfl
  go_enter Try.func3, Try.ntmps3
  go_wp2_with fail
  refine (ku_new w w (Below.refl _ _)).mono ?_
  rintro e w1 ⟨ga, ma, rfl, hga, hma, hka, hb1⟩
  have K1 := Lib.hid hka
  clear hga hma hka hb1
  go_wp2_with fail
  refine (rnew_any w w1 K1.out.bel).mono ?_
  rintro e w2 ⟨gr, rfl, hgr, hR, hb2⟩
  have K2 := Lib.hid (And.intro (K1.out.below hb2) hR)
  clear hgr hR hb2 K1
  go_wp2_with fail
  refine (ku_new w w2 K2.out.1.bel).mono ?_
  rintro e w3 ⟨go, mo, rfl, hgo, hmo, hko, hb3⟩
  have hne : ga ≠ go ∧ ma ≠ mo := by
    have h1 := K2.out.1.1.1.lt
    have h2 := K2.out.1.1.2.lt
    omega
  have Hne := Lib.hid hne
  have K3 := Lib.hid (And.intro (K2.out.1.below hb3) (And.intro (K2.out.2.below hb3) hko))
  clear hgo hmo hko hb3 hne K2
  go_wp2_with fail
  go_loopw [6] (fun iv wr => ∃ (j : Nat) (T T2 : List Tg) (v : Value), j ≤ nl ∧ j ≤ 100 ∧ iv = .int .i64 j ∧ T.length ≤ 34 * j ∧ T2.length ≤ j ∧ Ku w wr ga ma T j ∧ RefAt w wr gr v T j ∧ Ku w wr go mo T2 0) (fun iv _ => 100 - (intOf iv).toNat)
  case atStart => exact ⟨0, [], [], _, Nat.zero_le _, by omega, rfl, by simp, by simp, K3.out.1, K3.out.2.1, K3.out.2.2⟩
  case round =>
    obtain ⟨j, T, T2, v, hj, hj100, rfl, hTl, hT2l, hKa, hRr, hKo⟩ := hrel
    have hi0 : (0 : Int) ≤ j := by omega
    by_cases hlt : j < nl
    · have hi1 : (j : Int) < nl := by omega
      by_cases hlt6 : j < 100
      · have hi6 : (j : Int) < 100 := by omega
        have hjl : j < l.length := by rw [HA.out.1.1]; exact hlt
        obtain ⟨b, off, rfl, hlow, hdeed⟩ := HA.out.1.at_ hjl
        have hbx := HA.out.2 _ (List.getElem_mem hjl)
        obtain ⟨x, hx⟩ : ∃ x, l[j] = x := ⟨_, rfl⟩
        rw [hx] at hdeed hbx
        obtain ⟨⟨hxk, hxf, hxt, hxa, hxb⟩, ck, c1, c2, ⟨Ar, nr, cr, c3, hAr⟩, c4, c5, c6⟩ := hdeed
        obtain ⟨D, hD, hDl, hD1, hdig⟩ := ku_digest x.d w
        have HD := Lib.hid (And.intro hD hD1)
        have e4 : wr.cell? ⟨b, off + j * 7 + 4, none⟩ = some (.int .u8 (x.d.toNat : Int)) := (hKa.bel.cell (p := ⟨b, off + j * 7 + 4, none⟩) hlow).trans c4
        have Hdig := Lib.hid (hdig wr)
        have Hx := Lib.hid (And.intro hxk (And.intro hxf (And.intro hxt (And.intro hxa (And.intro hxb (And.intro hAr hbx))))))
        have Hc := Lib.hid (And.intro ck (And.intro c1 (And.intro c2 (And.intro c3 (And.intro c5 (And.intro c6 hlow))))))
        have Kr := Lib.hid (And.intro hKa (And.intro hRr (And.intro hKo (And.intro hTl hT2l))))
        clear hxk hxf hxt hxa hxb hAr hbx ck c1 c2 c3 c4 c5 c6 hD hD1 hdig hKa hRr hKo hx hlow hTl hT2l
        go_wp2_with fail
        refine Hdig.out.mono ?_
        rintro e w4 ⟨rfl, hb4⟩
        obtain ⟨wS, hwS, th1, hi1', hBd, hbS, _⟩ := one_local w4 D hDl
        have K4 := Lib.hid (And.intro ((Kr.out.1.below hb4).below hbS) (And.intro ((Kr.out.2.1.below hb4).below hbS) (And.intro ((Kr.out.2.2.1.below hb4).below hbS) hBd)))
        have Hst := Lib.hid (And.intro th1 (And.intro hi1' hwS))
        clear hwS th1 hi1' hBd hbS hb4 e4 Hdig
        go_wp2_with (first
          | (refine wpList_store_mid rfl 28 _ _ rfl w4.heap.size 0 D.toArray rfl rfl Hst.out.1 Hst.out.2.1 HD.out.2 ?_; simp only [Act.put]; refine cast (congrArg (fun z => wpList _ _ _ _ _ z) Hst.out.2.2.symm) ?_)
          | (refine load_row_g (by rfl) 28 _ rfl w4.heap.size rfl 28 D.toArray (0, 0) _ K4.out.2.2.2 Try.underlying28 rfl Hst.out.2.1 ?_; simp only [Act.put]))
        refine (ku_tag 1 0 (dg x.d) D K4.out.2.2.1 (by have := Kr.out.2.2.2.2; omega) (by decide) (by decide) (dg_len _) HD.out.1).mono ?_
        rintro e w5 ⟨rfl, hk5, ho5⟩
        have K5 := Lib.hid (And.intro (K4.out.1.other K4.out.2.2.1 ho5 Hne.out) (And.intro (K4.out.2.1.ku K4.out.2.2.1 ho5) (And.intro hk5 (ho5.blk K4.out.2.2.2 (ku_off K4.out.2.2.1 K4.out.2.2.2 (by decide))))))
        have e0 : w5.cell? ⟨b, off + j * 7, none⟩ = some (.int .i64 x.kind) := (K5.out.1.bel.cell (p := ⟨b, off + j * 7, none⟩) Hc.out.2.2.2.2.2.2).trans Hc.out.1
        have Hbr := Lib.hid (bring3_any x.kind w5 Hx.out.1)
        clear hk5 ho5 K4
        go_wp2_with fail
        refine Hbr.out.mono ?_
        rintro e wq ⟨rfl, rfl⟩
        obtain ⟨r, hr⟩ : ∃ r, x.kind % 3 = r := ⟨_, rfl⟩
        rw [hr]
        by_cases h0 : r = 0
        · subst h0
          go_wp2_with fail
          have K6 := Lib.hid (And.intro (K5.out.1.below (Below.refl _ _).drew) (And.intro (K5.out.2.1.below (Below.refl _ _).drew) (And.intro (K5.out.2.2.1.below (Below.refl _ _).drew) K5.out.2.2.2)))
          have Q0 : wq.drew.cell? ⟨b, off + j * 7 + 1, none⟩ = some (.int .i64 x.frm) ∧ wq.drew.cell? ⟨b, off + j * 7 + 2, none⟩ = some (.int .i64 x.to_) ∧ wq.drew.rangeAt w4.heap.size 0 D := ⟨(K6.out.1.bel.cell (p := ⟨b, off + j * 7 + 1, none⟩) Hc.out.2.2.2.2.2.2).trans Hc.out.2.1, (K6.out.1.bel.cell (p := ⟨b, off + j * 7 + 2, none⟩) Hc.out.2.2.2.2.2.2).trans Hc.out.2.2.1, K6.out.2.2.2.range⟩
          have hid : (Try.prog.info? 28).map (·.size) = some D.length := by rw [hDl]; exact info32b
          refine wp_region_held_drew (S := fun W' => W'.cell? ⟨b, off + j * 7 + 1, none⟩ = some (.int .i64 x.frm) ∧ W'.cell? ⟨b, off + j * 7 + 2, none⟩ = some (.int .i64 x.to_) ∧ W'.rangeAt w4.heap.size 0 D) (by kernel_rfl) Q0 (fun _ => ?_)
          refine anyH_take (i := 0) (d := 40) (v := ?va0) rfl rfl (by kernel_rfl) (by kernel_rfl) (by kernel_rfl) (fun _ _ _ h => h) (Or.inl ⟨by rfl, ?ya0⟩) Q0 ?ra0
          case ya0 => (intro w; go_simp; try with_reducible rfl)
          simp only [List.setIfInBounds_toArray, List.set_cons_zero, List.set_cons_succ]
          refine anyH_take (i := 1) (d := 41) (v := ?va1) rfl rfl (by kernel_rfl) (by kernel_rfl) (by kernel_rfl) (fun _ _ _ h => h) (Or.inl ⟨by rfl, ?ya1⟩) Q0 ?ra1
          case ya1 => (intro w; go_simp; try with_reducible rfl)
          simp only [List.setIfInBounds_toArray, List.set_cons_zero, List.set_cons_succ]
          refine anyH_take (i := 2) (d := 42) (v := ?va2) rfl rfl (by kernel_rfl) (by kernel_rfl) (by kernel_rfl) (fun _ _ _ h => h) (Or.inl ⟨by rfl, ?ya2⟩) Q0 ?ra2
          case ya2 => (intro w; go_simp; try with_reducible rfl)
          simp only [List.setIfInBounds_toArray, List.set_cons_zero, List.set_cons_succ]
          refine anyH_take (i := 3) (d := 43) (v := ?va3) rfl rfl (by kernel_rfl) (by kernel_rfl) (by kernel_rfl) (fun _ _ _ h => h) (Or.inl ⟨by rfl, ?ya3⟩) Q0 ?ra3
          case ya3 => (intro w; go_simp; try with_reducible rfl)
          simp only [List.setIfInBounds_toArray, List.set_cons_zero, List.set_cons_succ]
          refine anyH_take (i := 4) (d := 44) (v := ?va4) rfl rfl (by kernel_rfl) (by kernel_rfl) (by kernel_rfl) (fun _ _ _ h => h) (Or.inl ⟨by rfl, ?ya4⟩) Q0 ?ra4
          case ya4 => (intro w; go_simp; try with_reducible rfl)
          simp only [List.setIfInBounds_toArray, List.set_cons_zero, List.set_cons_succ]
          refine wpAnyH_take' (i := 5) (d := 45) (v := ?va5) rfl rfl (by kernel_rfl) (by kernel_rfl) (by kernel_rfl) (fun _ _ _ h => h) (Or.inl ⟨by rfl, ?ya5⟩) Q0 ?ra5
          case ya5 => (intro w hSw; go_split_ands; go_simp; try with_reducible rfl)
          simp only [List.setIfInBounds_toArray, List.set_cons_zero, List.set_cons_succ]
          refine anyH_take (i := 6) (d := 46) (v := ?va6) rfl rfl (by kernel_rfl) (by kernel_rfl) (by kernel_rfl) (fun _ _ _ h => h) (Or.inl ⟨by rfl, ?ya6⟩) Q0 ?ra6
          case ya6 => (intro w; go_simp; try with_reducible rfl)
          simp only [List.setIfInBounds_toArray, List.set_cons_zero, List.set_cons_succ]
          refine anyH_take (i := 7) (d := 47) (v := ?va7) rfl rfl (by kernel_rfl) (by kernel_rfl) (by kernel_rfl) (fun _ _ _ h => h) (Or.inl ⟨by rfl, ?ya7⟩) Q0 ?ra7
          case ya7 => (intro w; go_simp; try with_reducible rfl)
          simp only [List.setIfInBounds_toArray, List.set_cons_zero, List.set_cons_succ]
          refine anyH_take (i := 8) (d := 48) (v := ?va8) rfl rfl (by kernel_rfl) (by kernel_rfl) (by kernel_rfl) (fun _ _ _ h => h) (Or.inl ⟨by rfl, ?ya8⟩) Q0 ?ra8
          case ya8 => (intro w; go_simp; try with_reducible rfl)
          simp only [List.setIfInBounds_toArray, List.set_cons_zero, List.set_cons_succ]
          refine anyH_take (i := 9) (d := 49) (v := ?va9) rfl rfl (by kernel_rfl) (by kernel_rfl) (by kernel_rfl) (fun _ _ _ h => h) (Or.inl ⟨by rfl, ?ya9⟩) Q0 ?ra9
          case ya9 => (intro w; go_simp; try with_reducible rfl)
          simp only [List.setIfInBounds_toArray, List.set_cons_zero, List.set_cons_succ]
          refine wpAnyH_take' (i := 10) (d := 50) (v := ?va10) rfl rfl (by kernel_rfl) (by kernel_rfl) (by kernel_rfl) (fun _ _ _ h => h) (Or.inl ⟨by rfl, ?ya10⟩) Q0 ?ra10
          case ya10 => (intro w hSw; go_split_ands; go_simp; try with_reducible rfl)
          simp only [List.setIfInBounds_toArray, List.set_cons_zero, List.set_cons_succ]
          refine anyH_load (i := 11) (d := 51) rfl rfl (by kernel_rfl) (by kernel_rfl) (by kernel_rfl) (by rfl) 28 _ rfl w4.heap.size 0 rfl D _ (fun _ h => h.2.2) Try.underlying28 rfl hid (fun _ _ _ h => h) Q0 ?_
          simp only [List.setIfInBounds_toArray, List.set_cons_zero, List.set_cons_succ]
          refine anyH_take (i := 13) (d := 53) (v := ?va13) rfl rfl (by kernel_rfl) (by kernel_rfl) (by kernel_rfl) (fun _ _ _ h => h) (Or.inl ⟨by rfl, ?ya13⟩) Q0 ?ra13
          case ya13 => (intro w; go_simp; try with_reducible rfl)
          simp only [List.setIfInBounds_toArray, List.set_cons_zero, List.set_cons_succ]
          refine anyH_take (i := 14) (d := 54) (v := ?va14) rfl rfl (by kernel_rfl) (by kernel_rfl) (by kernel_rfl) (fun _ _ _ h => h) (Or.inl ⟨by rfl, ?ya14⟩) Q0 ?ra14
          case ya14 => (intro w; go_simp; try with_reducible rfl)
          simp only [List.setIfInBounds_toArray, List.set_cons_zero, List.set_cons_succ]
          refine anyH_take (i := 15) (d := 55) (v := ?va15) rfl rfl (by kernel_rfl) (by kernel_rfl) (by kernel_rfl) (fun _ _ _ h => h) (Or.inl ⟨by rfl, ?ya15⟩) Q0 ?ra15
          case ya15 => (intro w; go_simp; try with_reducible rfl)
          simp only [List.setIfInBounds_toArray, List.set_cons_zero, List.set_cons_succ]
          refine anyH_take (i := 16) (d := 56) (v := ?va16) rfl rfl (by kernel_rfl) (by kernel_rfl) (by kernel_rfl) (fun _ _ _ h => h) (Or.inl ⟨by rfl, ?ya16⟩) Q0 ?ra16
          case ya16 => (intro w; go_simp; try with_reducible rfl)
          simp only [List.setIfInBounds_toArray, List.set_cons_zero, List.set_cons_succ]
          refine anyH_take (i := 17) (d := 57) (v := ?va17) rfl rfl (by kernel_rfl) (by kernel_rfl) (by kernel_rfl) (fun _ _ _ h => h) (Or.inl ⟨by rfl, ?ya17⟩) Q0 ?ra17
          case ya17 => (intro w; go_simp; try with_reducible rfl)
          simp only [List.setIfInBounds_toArray, List.set_cons_zero, List.set_cons_succ]
          refine wpAnyH_take' (i := 18) (d := 58) (v := ?va18) rfl rfl (by kernel_rfl) (by kernel_rfl) (by kernel_rfl) (fun _ _ _ h => h) (Or.inl ⟨by rfl, ?ya18⟩) Q0 ?ra18
          case ya18 => (intro w hSw; go_split_ands; go_simp; try with_reducible rfl)
          simp only [List.setIfInBounds_toArray, List.set_cons_zero, List.set_cons_succ]
          refine anyH_take (i := 19) (d := 59) (v := ?va19) rfl rfl (by kernel_rfl) (by kernel_rfl) (by kernel_rfl) (fun _ _ _ h => h) (Or.inl ⟨by rfl, ?ya19⟩) Q0 ?ra19
          case ya19 => (intro w; go_simp; try with_reducible rfl)
          simp only [List.setIfInBounds_toArray, List.set_cons_zero, List.set_cons_succ]
          refine anyH_take (i := 20) (d := 60) (v := ?va20) rfl rfl (by kernel_rfl) (by kernel_rfl) (by kernel_rfl) (fun _ _ _ h => h) (Or.inl ⟨by rfl, ?ya20⟩) Q0 ?ra20
          case ya20 => (intro w; go_simp; try with_reducible rfl)
          simp only [List.setIfInBounds_toArray, List.set_cons_zero, List.set_cons_succ]
          refine anyH_take (i := 21) (d := 61) (v := ?va21) rfl rfl (by kernel_rfl) (by kernel_rfl) (by kernel_rfl) (fun _ _ _ h => h) (Or.inl ⟨by rfl, ?ya21⟩) Q0 ?ra21
          case ya21 => (intro w; go_simp; try with_reducible rfl)
          simp only [List.setIfInBounds_toArray, List.set_cons_zero, List.set_cons_succ]
          refine anyH_take (i := 22) (d := 62) (v := ?va22) rfl rfl (by kernel_rfl) (by kernel_rfl) (by kernel_rfl) (fun _ _ _ h => h) (Or.inl ⟨by rfl, ?ya22⟩) Q0 ?ra22
          case ya22 => (intro w; go_simp; try with_reducible rfl)
          simp only [List.setIfInBounds_toArray, List.set_cons_zero, List.set_cons_succ]
          refine wpAnyH_take' (i := 23) (d := 63) (v := ?va23) rfl rfl (by kernel_rfl) (by kernel_rfl) (by kernel_rfl) (fun _ _ _ h => h) (Or.inl ⟨by rfl, ?ya23⟩) Q0 ?ra23
          case ya23 => (intro w hSw; go_split_ands; go_simp; try with_reducible rfl)
          simp only [List.setIfInBounds_toArray, List.set_cons_zero, List.set_cons_succ]
          refine anyH_load (i := 24) (d := 64) rfl rfl (by kernel_rfl) (by kernel_rfl) (by kernel_rfl) (by rfl) 28 _ rfl w4.heap.size 0 rfl D _ (fun _ h => h.2.2) Try.underlying28 rfl hid (fun _ _ _ h => h) Q0 ?_
          simp only [List.setIfInBounds_toArray, List.set_cons_zero, List.set_cons_succ]
          refine anyH_one (i := 12) (by kernel_rfl) ?_
          refine wpOp_step rfl (fun K hK => ?_)
          go_simp
          refine (ku_tag x.frm x.to_ (dg x.d) D K6.out.1 (by have := Kr.out.2.2.2.1; omega) Hx.out.2.1 Hx.out.2.2.1 (dg_len _) HD.out.1).mono ?_
          rintro e w6 ⟨rfl, hk, ho⟩
          have K7 := Lib.hid (And.intro hk (And.intro (K6.out.2.1.ku K6.out.1 ho) (And.intro (K6.out.2.2.1.other K6.out.1 ho ⟨fun e => Hne.out.1 e.symm, fun e => Hne.out.2 e.symm⟩) (ho.blk K6.out.2.2.2 (ku_off K6.out.1 K6.out.2.2.2 (by decide))))))
          have Q1 : w6.cell? ⟨b, off + j * 7 + 1, none⟩ = some (.int .i64 x.frm) ∧ w6.cell? ⟨b, off + j * 7 + 2, none⟩ = some (.int .i64 x.to_) ∧ w6.rangeAt w4.heap.size 0 D := ⟨(K7.out.1.bel.cell (p := ⟨b, off + j * 7 + 1, none⟩) Hc.out.2.2.2.2.2.2).trans Hc.out.2.1, (K7.out.1.bel.cell (p := ⟨b, off + j * 7 + 2, none⟩) Hc.out.2.2.2.2.2.2).trans Hc.out.2.2.1, K7.out.2.2.2.range⟩
          clear hk ho
          refine hK _ _ ⟨Q1, ?_⟩
          clear hK K
          refine anyH_one (i := 25) (by kernel_rfl) ?_
          refine wpOp_step rfl (fun K hK => ?_)
          go_simp
          refine (rtag_any w w6 gr j v T x.frm x.to_ (dg x.d) D K7.out.2.1 (by have := Kr.out.2.2.2.1; omega) (dg_len _) HD.out.1).mono ?_
          rintro e w7 ⟨rfl, ⟨v7, hr7, _⟩, ho⟩
          have K8 := Lib.hid (And.intro (K7.out.1.ref K7.out.2.1 ho) (And.intro hr7 (And.intro (K7.out.2.2.1.ref K7.out.2.1 ho) (ho.blk K7.out.2.2.2 (K7.out.2.1.off K7.out.2.2.2 (by decide) (by decide))))))
          have Q2 : w7.cell? ⟨b, off + j * 7 + 1, none⟩ = some (.int .i64 x.frm) ∧ w7.cell? ⟨b, off + j * 7 + 2, none⟩ = some (.int .i64 x.to_) ∧ w7.rangeAt w4.heap.size 0 D := ⟨(K8.out.1.bel.cell (p := ⟨b, off + j * 7 + 1, none⟩) Hc.out.2.2.2.2.2.2).trans Hc.out.2.1, (K8.out.1.bel.cell (p := ⟨b, off + j * 7 + 2, none⟩) Hc.out.2.2.2.2.2.2).trans Hc.out.2.2.1, K8.out.2.2.2.range⟩
          clear hr7 ho
          refine hK _ _ ⟨Q2, ?_⟩
          clear hK K
          refine anyH_take (i := 26) (d := 66) (v := ?va26) rfl rfl (by kernel_rfl) (by kernel_rfl) (by kernel_rfl) (fun _ _ _ h => h) (Or.inl ⟨by rfl, ?ya26⟩) Q2 ?ra26
          case ya26 => (intro w; go_simp; try with_reducible rfl)
          simp only [List.setIfInBounds_toArray, List.set_cons_zero, List.set_cons_succ]
          refine wpAnyH_done (by kernel_rfl) ?_ _
          go_wp2
          have hTl7 : (tagL T x.frm x.to_ (dg x.d)).length < 900000 := by have := tagL_len T x.frm x.to_ (dg x.d); have := Kr.out.2.2.2.1; omega
          have HTl := Lib.hid hTl7
          clear hTl7 Q0 Q1 Q2
          have K9 := Lib.hid (And.intro (K8.out.1.below (Below.refl _ _).drew) (And.intro (K8.out.2.1.below (Below.refl _ _).drew) (And.intro (K8.out.2.2.1.below (Below.refl _ _).drew) K8.out.2.2.2)))
          have Q3 : w7.drew.cell? ⟨b, off + j * 7 + 5, none⟩ = some (.int .i64 x.askF) ∧ w7.drew.cell? ⟨b, off + j * 7 + 6, none⟩ = some (.int .i64 x.askT) ∧ w7.drew.rangeAt w4.heap.size 0 D := ⟨(K9.out.1.bel.cell (p := ⟨b, off + j * 7 + 5, none⟩) Hc.out.2.2.2.2.2.2).trans Hc.out.2.2.2.2.1, (K9.out.1.bel.cell (p := ⟨b, off + j * 7 + 6, none⟩) Hc.out.2.2.2.2.2.2).trans Hc.out.2.2.2.2.2.1, K9.out.2.2.2.range⟩
          refine wp_region_held_drew (S := fun W' => W'.cell? ⟨b, off + j * 7 + 5, none⟩ = some (.int .i64 x.askF) ∧ W'.cell? ⟨b, off + j * 7 + 6, none⟩ = some (.int .i64 x.askT) ∧ W'.rangeAt w4.heap.size 0 D) (by kernel_rfl) Q3 (fun _ => ?_)
          refine anyH_take (i := 0) (d := 117) (v := ?vb0) rfl rfl (by kernel_rfl) (by kernel_rfl) (by kernel_rfl) (fun _ _ _ h => h) (Or.inl ⟨by rfl, ?yb0⟩) Q3 ?rb0
          case yb0 => (intro w; go_simp; try with_reducible rfl)
          simp only [List.setIfInBounds_toArray, List.set_cons_zero, List.set_cons_succ]
          refine anyH_take (i := 1) (d := 118) (v := ?vb1) rfl rfl (by kernel_rfl) (by kernel_rfl) (by kernel_rfl) (fun _ _ _ h => h) (Or.inl ⟨by rfl, ?yb1⟩) Q3 ?rb1
          case yb1 => (intro w; go_simp; try with_reducible rfl)
          simp only [List.setIfInBounds_toArray, List.set_cons_zero, List.set_cons_succ]
          refine anyH_take (i := 2) (d := 119) (v := ?vb2) rfl rfl (by kernel_rfl) (by kernel_rfl) (by kernel_rfl) (fun _ _ _ h => h) (Or.inl ⟨by rfl, ?yb2⟩) Q3 ?rb2
          case yb2 => (intro w; go_simp; try with_reducible rfl)
          simp only [List.setIfInBounds_toArray, List.set_cons_zero, List.set_cons_succ]
          refine anyH_take (i := 3) (d := 120) (v := ?vb3) rfl rfl (by kernel_rfl) (by kernel_rfl) (by kernel_rfl) (fun _ _ _ h => h) (Or.inl ⟨by rfl, ?yb3⟩) Q3 ?rb3
          case yb3 => (intro w; go_simp; try with_reducible rfl)
          simp only [List.setIfInBounds_toArray, List.set_cons_zero, List.set_cons_succ]
          refine anyH_take (i := 4) (d := 121) (v := ?vb4) rfl rfl (by kernel_rfl) (by kernel_rfl) (by kernel_rfl) (fun _ _ _ h => h) (Or.inl ⟨by rfl, ?yb4⟩) Q3 ?rb4
          case yb4 => (intro w; go_simp; try with_reducible rfl)
          simp only [List.setIfInBounds_toArray, List.set_cons_zero, List.set_cons_succ]
          refine wpAnyH_take' (i := 5) (d := 122) (v := ?vb5) rfl rfl (by kernel_rfl) (by kernel_rfl) (by kernel_rfl) (fun _ _ _ h => h) (Or.inl ⟨by rfl, ?yb5⟩) Q3 ?rb5
          case yb5 => (intro w hSw; go_split_ands; go_simp; try with_reducible rfl)
          simp only [List.setIfInBounds_toArray, List.set_cons_zero, List.set_cons_succ]
          refine anyH_take (i := 6) (d := 123) (v := ?vb6) rfl rfl (by kernel_rfl) (by kernel_rfl) (by kernel_rfl) (fun _ _ _ h => h) (Or.inl ⟨by rfl, ?yb6⟩) Q3 ?rb6
          case yb6 => (intro w; go_simp; try with_reducible rfl)
          simp only [List.setIfInBounds_toArray, List.set_cons_zero, List.set_cons_succ]
          refine anyH_take (i := 7) (d := 124) (v := ?vb7) rfl rfl (by kernel_rfl) (by kernel_rfl) (by kernel_rfl) (fun _ _ _ h => h) (Or.inl ⟨by rfl, ?yb7⟩) Q3 ?rb7
          case yb7 => (intro w; go_simp; try with_reducible rfl)
          simp only [List.setIfInBounds_toArray, List.set_cons_zero, List.set_cons_succ]
          refine anyH_take (i := 8) (d := 125) (v := ?vb8) rfl rfl (by kernel_rfl) (by kernel_rfl) (by kernel_rfl) (fun _ _ _ h => h) (Or.inl ⟨by rfl, ?yb8⟩) Q3 ?rb8
          case yb8 => (intro w; go_simp; try with_reducible rfl)
          simp only [List.setIfInBounds_toArray, List.set_cons_zero, List.set_cons_succ]
          refine anyH_take (i := 9) (d := 126) (v := ?vb9) rfl rfl (by kernel_rfl) (by kernel_rfl) (by kernel_rfl) (fun _ _ _ h => h) (Or.inl ⟨by rfl, ?yb9⟩) Q3 ?rb9
          case yb9 => (intro w; go_simp; try with_reducible rfl)
          simp only [List.setIfInBounds_toArray, List.set_cons_zero, List.set_cons_succ]
          refine wpAnyH_take' (i := 10) (d := 127) (v := ?vb10) rfl rfl (by kernel_rfl) (by kernel_rfl) (by kernel_rfl) (fun _ _ _ h => h) (Or.inl ⟨by rfl, ?yb10⟩) Q3 ?rb10
          case yb10 => (intro w hSw; go_split_ands; go_simp; try with_reducible rfl)
          simp only [List.setIfInBounds_toArray, List.set_cons_zero, List.set_cons_succ]
          refine anyH_load (i := 11) (d := 128) rfl rfl (by kernel_rfl) (by kernel_rfl) (by kernel_rfl) (by rfl) 28 _ rfl w4.heap.size 0 rfl D _ (fun _ h => h.2.2) Try.underlying28 rfl hid (fun _ _ _ h => h) Q3 ?_
          simp only [List.setIfInBounds_toArray, List.set_cons_zero, List.set_cons_succ]
          refine anyH_take (i := 13) (d := 130) (v := ?vb13) rfl rfl (by kernel_rfl) (by kernel_rfl) (by kernel_rfl) (fun _ _ _ h => h) (Or.inl ⟨by rfl, ?yb13⟩) Q3 ?rb13
          case yb13 => (intro w; go_simp; try with_reducible rfl)
          simp only [List.setIfInBounds_toArray, List.set_cons_zero, List.set_cons_succ]
          refine anyH_take (i := 14) (d := 131) (v := ?vb14) rfl rfl (by kernel_rfl) (by kernel_rfl) (by kernel_rfl) (fun _ _ _ h => h) (Or.inl ⟨by rfl, ?yb14⟩) Q3 ?rb14
          case yb14 => (intro w; go_simp; try with_reducible rfl)
          simp only [List.setIfInBounds_toArray, List.set_cons_zero, List.set_cons_succ]
          refine anyH_take (i := 15) (d := 132) (v := ?vb15) rfl rfl (by kernel_rfl) (by kernel_rfl) (by kernel_rfl) (fun _ _ _ h => h) (Or.inl ⟨by rfl, ?yb15⟩) Q3 ?rb15
          case yb15 => (intro w; go_simp; try with_reducible rfl)
          simp only [List.setIfInBounds_toArray, List.set_cons_zero, List.set_cons_succ]
          refine anyH_take (i := 16) (d := 133) (v := ?vb16) rfl rfl (by kernel_rfl) (by kernel_rfl) (by kernel_rfl) (fun _ _ _ h => h) (Or.inl ⟨by rfl, ?yb16⟩) Q3 ?rb16
          case yb16 => (intro w; go_simp; try with_reducible rfl)
          simp only [List.setIfInBounds_toArray, List.set_cons_zero, List.set_cons_succ]
          refine anyH_take (i := 17) (d := 134) (v := ?vb17) rfl rfl (by kernel_rfl) (by kernel_rfl) (by kernel_rfl) (fun _ _ _ h => h) (Or.inl ⟨by rfl, ?yb17⟩) Q3 ?rb17
          case yb17 => (intro w; go_simp; try with_reducible rfl)
          simp only [List.setIfInBounds_toArray, List.set_cons_zero, List.set_cons_succ]
          refine wpAnyH_take' (i := 18) (d := 135) (v := ?vb18) rfl rfl (by kernel_rfl) (by kernel_rfl) (by kernel_rfl) (fun _ _ _ h => h) (Or.inl ⟨by rfl, ?yb18⟩) Q3 ?rb18
          case yb18 => (intro w hSw; go_split_ands; go_simp; try with_reducible rfl)
          simp only [List.setIfInBounds_toArray, List.set_cons_zero, List.set_cons_succ]
          refine anyH_take (i := 19) (d := 136) (v := ?vb19) rfl rfl (by kernel_rfl) (by kernel_rfl) (by kernel_rfl) (fun _ _ _ h => h) (Or.inl ⟨by rfl, ?yb19⟩) Q3 ?rb19
          case yb19 => (intro w; go_simp; try with_reducible rfl)
          simp only [List.setIfInBounds_toArray, List.set_cons_zero, List.set_cons_succ]
          refine anyH_take (i := 20) (d := 137) (v := ?vb20) rfl rfl (by kernel_rfl) (by kernel_rfl) (by kernel_rfl) (fun _ _ _ h => h) (Or.inl ⟨by rfl, ?yb20⟩) Q3 ?rb20
          case yb20 => (intro w; go_simp; try with_reducible rfl)
          simp only [List.setIfInBounds_toArray, List.set_cons_zero, List.set_cons_succ]
          refine anyH_take (i := 21) (d := 138) (v := ?vb21) rfl rfl (by kernel_rfl) (by kernel_rfl) (by kernel_rfl) (fun _ _ _ h => h) (Or.inl ⟨by rfl, ?yb21⟩) Q3 ?rb21
          case yb21 => (intro w; go_simp; try with_reducible rfl)
          simp only [List.setIfInBounds_toArray, List.set_cons_zero, List.set_cons_succ]
          refine anyH_take (i := 22) (d := 139) (v := ?vb22) rfl rfl (by kernel_rfl) (by kernel_rfl) (by kernel_rfl) (fun _ _ _ h => h) (Or.inl ⟨by rfl, ?yb22⟩) Q3 ?rb22
          case yb22 => (intro w; go_simp; try with_reducible rfl)
          simp only [List.setIfInBounds_toArray, List.set_cons_zero, List.set_cons_succ]
          refine wpAnyH_take' (i := 23) (d := 140) (v := ?vb23) rfl rfl (by kernel_rfl) (by kernel_rfl) (by kernel_rfl) (fun _ _ _ h => h) (Or.inl ⟨by rfl, ?yb23⟩) Q3 ?rb23
          case yb23 => (intro w hSw; go_split_ands; go_simp; try with_reducible rfl)
          simp only [List.setIfInBounds_toArray, List.set_cons_zero, List.set_cons_succ]
          refine anyH_load (i := 24) (d := 141) rfl rfl (by kernel_rfl) (by kernel_rfl) (by kernel_rfl) (by rfl) 28 _ rfl w4.heap.size 0 rfl D _ (fun _ h => h.2.2) Try.underlying28 rfl hid (fun _ _ _ h => h) Q3 ?_
          simp only [List.setIfInBounds_toArray, List.set_cons_zero, List.set_cons_succ]
          refine anyH_one (i := 12) (by kernel_rfl) ?_
          refine wpOp_step rfl (fun K hK => ?_)
          go_simp
          refine (ku_check x.askF x.askT (dg x.d) D K9.out.1 (by omega) Hx.out.2.2.2.1 Hx.out.2.2.2.2.1 (dg_len _) HD.out.1).mono ?_
          rintro e w8 ⟨rfl, hk, ho⟩
          have Ka := Lib.hid (And.intro hk (And.intro (K9.out.2.1.ku K9.out.1 ho) (And.intro (K9.out.2.2.1.other K9.out.1 ho ⟨fun e => Hne.out.1 e.symm, fun e => Hne.out.2 e.symm⟩) (ho.blk K9.out.2.2.2 (ku_off K9.out.1 K9.out.2.2.2 (by decide))))))
          have Q4 : w8.cell? ⟨b, off + j * 7 + 5, none⟩ = some (.int .i64 x.askF) ∧ w8.cell? ⟨b, off + j * 7 + 6, none⟩ = some (.int .i64 x.askT) ∧ w8.rangeAt w4.heap.size 0 D := ⟨(Ka.out.1.bel.cell (p := ⟨b, off + j * 7 + 5, none⟩) Hc.out.2.2.2.2.2.2).trans Hc.out.2.2.2.2.1, (Ka.out.1.bel.cell (p := ⟨b, off + j * 7 + 6, none⟩) Hc.out.2.2.2.2.2.2).trans Hc.out.2.2.2.2.2.1, Ka.out.2.2.2.range⟩
          clear hk ho
          refine hK _ _ ⟨Q4, ?_⟩
          clear hK K
          refine anyH_one (i := 25) (by kernel_rfl) ?_
          refine wpOp_step rfl (fun K hK => ?_)
          go_simp
          refine (rcheck_any w w8 gr j _ _ x.askF x.askT (dg x.d) D Ka.out.2.1 HTl.out (by omega) (dg_len _) HD.out.1).mono ?_
          rintro e w9 ⟨rfl, hr9, ho'⟩
          have ho : Out (RefS gr v7) w8 w9 := ho'.mono_ fun i hi => .inl hi
          have Kb := Lib.hid (And.intro (Ka.out.1.ref Ka.out.2.1 ho) (And.intro hr9 (And.intro (Ka.out.2.2.1.ref Ka.out.2.1 ho) (ho.blk Ka.out.2.2.2 (Ka.out.2.1.off Ka.out.2.2.2 (by decide) (by decide))))))
          have Q5 : w9.cell? ⟨b, off + j * 7 + 5, none⟩ = some (.int .i64 x.askF) ∧ w9.cell? ⟨b, off + j * 7 + 6, none⟩ = some (.int .i64 x.askT) ∧ w9.rangeAt w4.heap.size 0 D := ⟨(Kb.out.1.bel.cell (p := ⟨b, off + j * 7 + 5, none⟩) Hc.out.2.2.2.2.2.2).trans Hc.out.2.2.2.2.1, (Kb.out.1.bel.cell (p := ⟨b, off + j * 7 + 6, none⟩) Hc.out.2.2.2.2.2.2).trans Hc.out.2.2.2.2.2.1, Kb.out.2.2.2.range⟩
          clear hr9 ho ho'
          refine hK _ _ ⟨Q5, ?_⟩
          clear hK K
          refine anyH_take (i := 26) (d := 143) (v := ?vb26) rfl rfl (by kernel_rfl) (by kernel_rfl) (by kernel_rfl) (fun _ _ _ h => h) (Or.inl ⟨by rfl, ?yb26⟩) Q5 ?rb26
          case yb26 => (intro w; go_simp; try with_reducible rfl)
          simp only [List.setIfInBounds_toArray, List.set_cons_zero, List.set_cons_succ]
          refine anyH_take (i := 27) (d := 144) (v := ?vb27) rfl rfl (by kernel_rfl) (by kernel_rfl) (by kernel_rfl) (fun _ _ _ h => h) (Or.inl ⟨by rfl, ?yb27⟩) Q5 ?rb27
          case yb27 => (intro w; go_simp; try with_reducible rfl)
          simp only [List.setIfInBounds_toArray, List.set_cons_zero, List.set_cons_succ]
          refine anyH_take (i := 28) (d := 145) (v := ?vb28) rfl rfl (by kernel_rfl) (by kernel_rfl) (by kernel_rfl) (fun _ _ _ h => h) (Or.inl ⟨by rfl, ?yb28⟩) Q5 ?rb28
          case yb28 => (intro w; go_simp; try with_reducible rfl)
          simp only [List.setIfInBounds_toArray, List.set_cons_zero, List.set_cons_succ]
          refine anyH_take (i := 30) (d := 147) (v := ?vb30) rfl rfl (by kernel_rfl) (by kernel_rfl) (by kernel_rfl) (fun _ _ _ h => h) (Or.inl ⟨by rfl, ?yb30⟩) Q5 ?rb30
          case yb30 => (intro w; go_simp; try with_reducible rfl)
          simp only [List.setIfInBounds_toArray, List.set_cons_zero, List.set_cons_succ]
          refine anyH_one (i := 29) (by kernel_rfl) ?_
          refine wpOp_step rfl (fun K hK => ?_)
          go_simp
          refine (len_any ga ma _ _ _ Kb.out.1.1).mono ?_
          rintro e w' ⟨rfl, rfl⟩
          refine hK _ _ ⟨Q5, ?_⟩
          clear hK K
          refine anyH_one (i := 31) (by kernel_rfl) ?_
          refine wpOp_step rfl (fun K hK => ?_)
          go_simp
          refine (rlen_any w _ gr _ _ _ Kb.out.2.1 (by have := HTl.out; omega)).mono ?_
          rintro e w' ⟨rfl, rfl⟩
          refine hK _ _ ⟨Q5, ?_⟩
          clear hK K
          refine anyH_take (i := 32) (d := 149) (v := ?vb32) rfl rfl (by kernel_rfl) (by kernel_rfl) (by kernel_rfl) (fun _ _ _ h => h) (Or.inl ⟨by rfl, ?yb32⟩) Q5 ?rb32
          case yb32 => (intro w; go_simp; try with_reducible rfl)
          simp only [List.setIfInBounds_toArray, List.set_cons_zero, List.set_cons_succ]
          refine anyH_take (i := 33) (d := 150) (v := ?vb33) rfl rfl (by kernel_rfl) (by kernel_rfl) (by kernel_rfl) (fun _ _ _ h => h) (Or.inl ⟨by rfl, ?yb33⟩) Q5 ?rb33
          case yb33 => (intro w; go_simp; try with_reducible rfl)
          simp only [List.setIfInBounds_toArray, List.set_cons_zero, List.set_cons_succ]
          refine anyH_take (i := 34) (d := 151) (v := ?vb34) rfl rfl (by kernel_rfl) (by kernel_rfl) (by kernel_rfl) (fun _ _ _ h => h) (Or.inl ⟨by rfl, ?yb34⟩) Q5 ?rb34
          case yb34 => (intro w; go_simp; try with_reducible rfl)
          simp only [List.setIfInBounds_toArray, List.set_cons_zero, List.set_cons_succ]
          refine anyH_take (i := 35) (d := 152) (v := ?vb35) rfl rfl (by kernel_rfl) (by kernel_rfl) (by kernel_rfl) (fun _ _ _ h => h) (Or.inl ⟨by rfl, ?yb35⟩) Q5 ?rb35
          case yb35 => (intro w; go_simp; try with_reducible rfl)
          simp only [List.setIfInBounds_toArray, List.set_cons_zero, List.set_cons_succ]
          refine anyH_take (i := 37) (d := 154) (v := ?vb37) rfl rfl (by kernel_rfl) (by kernel_rfl) (by kernel_rfl) (fun _ _ _ h => h) (Or.inl ⟨by rfl, ?yb37⟩) Q5 ?rb37
          case yb37 => (intro w; go_simp; try with_reducible rfl)
          simp only [List.setIfInBounds_toArray, List.set_cons_zero, List.set_cons_succ]
          refine anyH_one (i := 36) (by kernel_rfl) ?_
          refine wpOp_step rfl (fun K hK => ?_)
          go_simp
          refine (asked_any ga ma _ _ _ Kb.out.1.1).mono ?_
          rintro e w' ⟨rfl, rfl⟩
          refine hK _ _ ⟨Q5, ?_⟩
          clear hK K
          refine anyH_one (i := 38) (by kernel_rfl) ?_
          refine wpOp_step rfl (fun K hK => ?_)
          go_simp
          refine (rasked_any w _ gr _ _ _ Kb.out.2.1).mono ?_
          rintro e w' ⟨rfl, rfl⟩
          refine hK _ _ ⟨Q5, ?_⟩
          clear hK K
          refine anyH_take (i := 39) (d := 156) (v := ?vb39) rfl rfl (by kernel_rfl) (by kernel_rfl) (by kernel_rfl) (fun _ _ _ h => h) (Or.inl ⟨by rfl, ?yb39⟩) Q5 ?rb39
          case yb39 => (intro w; go_simp; try with_reducible rfl)
          simp only [List.setIfInBounds_toArray, List.set_cons_zero, List.set_cons_succ]
          refine anyH_take (i := 40) (d := 157) (v := ?vb40) rfl rfl (by kernel_rfl) (by kernel_rfl) (by kernel_rfl) (fun _ _ _ h => h) (Or.inl ⟨by rfl, ?yb40⟩) Q5 ?rb40
          case yb40 => (intro w; go_simp; try with_reducible rfl)
          simp only [List.setIfInBounds_toArray, List.set_cons_zero, List.set_cons_succ]
          refine wpAnyH_done (by kernel_rfl) ?_ _
          have hl1 : (tagL T x.frm x.to_ (dg x.d)).length ≤ 34 * (j + 1) := by have := tagL_len T x.frm x.to_ (dg x.d); have := Kr.out.2.2.2.1; omega
          have hl2 : (tagL T2 1 0 (dg x.d)).length ≤ j + 1 := by have := tagL_len T2 1 0 (dg x.d); have := Kr.out.2.2.2.2; omega
          have Hl := Lib.hid (And.intro hl1 hl2)
          clear hl1 hl2 Q3 Q4 Q5 hid
          go_wp2
          go_roundw
          case rel => exact ⟨j + 1, _, _, _, by omega, by omega, by go_num, Hl.out.1, Hl.out.2, Kb.out.1, Kb.out.2.1, Kb.out.2.2.1⟩
          case measure => simp [intOf]; omega
        by_cases h1 : r = 1
        · subst h1
          have e3 : wq.cell? ⟨b, off + j * 7 + 3, none⟩ = some (.slice Ar nr cr) := (K5.out.1.bel.cell (p := ⟨b, off + j * 7 + 3, none⟩) Hc.out.2.2.2.2.2.2).trans Hc.out.2.2.2.1
          go_wp2_with fail
          refine (copyInts_any Ar nr cr x.rs wq (Hx.out.2.2.2.2.2.1.after K5.out.1.bel) (by have := Hx.out.2.2.2.2.2.1.1; have := Hx.out.2.2.2.2.2.2; omega)).mono ?_
          rintro e w6 ⟨v6, rfl, hrow, hb6⟩
          rw [Hx.out.2.2.2.2.2.1.1] at hrow
          have hf6 : ∃ Av cv, v6 = .slice Av nr cv := by
            rcases hrow.2 with ⟨rfl, hz⟩ | ⟨gb, cap, cur, rfl, _⟩
            · exact ⟨none, 0, by rw [hz]⟩
            · exact ⟨_, cap, rfl⟩
          obtain ⟨Av, cv, rfl⟩ := hf6
          have hqz := K5.out.1.bel.size
          have Hqz := Lib.hid hqz
          have Kd := Lib.hid (And.intro ((K5.out.1.below hb6).below (Below.refl _ _).drew) (And.intro ((K5.out.2.1.below hb6).below (Below.refl _ _).drew) (And.intro ((K5.out.2.2.1.below hb6).below (Below.refl _ _).drew) ((K5.out.2.2.2.below hb6 K5.out.2.2.2.lt : Blk w6 _ _ _) : Blk w6.drew w4.heap.size 28 D))))
          have Rd := Lib.hid (row_below hrow (Below.refl w6.heap.size w6).drew)
          have hnr := Hx.out.2.2.2.2.2.1.2.2.1
          unfold maxLen at hnr
          have hnr2 := Hx.out.2.2.2.2.2.1.2.1
          have hcv : nr ≤ 9223372036854775807 := by omega
          clear hrow hb6 e3 hqz hnr hnr2
          have hid : (Try.prog.info? 28).map (·.size) = some D.length := by rw [hDl]; exact info32b
          go_wp2_with fail
          have Q0 : w6.drew.cell? ⟨b, off + j * 7 + 1, none⟩ = some (.int .i64 x.frm) ∧ w6.drew.cell? ⟨b, off + j * 7 + 3, none⟩ = some (.slice Ar nr cr) ∧ w6.drew.rangeAt w4.heap.size 0 D := ⟨(Kd.out.1.bel.cell (p := ⟨b, off + j * 7 + 1, none⟩) Hc.out.2.2.2.2.2.2).trans Hc.out.2.1, (Kd.out.1.bel.cell (p := ⟨b, off + j * 7 + 3, none⟩) Hc.out.2.2.2.2.2.2).trans Hc.out.2.2.2.1, Kd.out.2.2.2.range⟩
          refine wp_region_held_drew (S := fun W' => W'.cell? ⟨b, off + j * 7 + 1, none⟩ = some (.int .i64 x.frm) ∧ W'.cell? ⟨b, off + j * 7 + 3, none⟩ = some (.slice Ar nr cr) ∧ W'.rangeAt w4.heap.size 0 D) (by kernel_rfl) Q0 (fun _ => ?_)
          refine anyH_take (i := 0) (d := 75) (v := ?vd0) rfl rfl (by kernel_rfl) (by kernel_rfl) (by kernel_rfl) (fun _ _ _ h => h) (Or.inl ⟨by rfl, ?yd0⟩) Q0 ?rd0
          case yd0 => (intro w; go_simp; try with_reducible rfl)
          simp only [List.setIfInBounds_toArray, List.set_cons_zero, List.set_cons_succ]
          refine anyH_take (i := 1) (d := 76) (v := ?vd1) rfl rfl (by kernel_rfl) (by kernel_rfl) (by kernel_rfl) (fun _ _ _ h => h) (Or.inl ⟨by rfl, ?yd1⟩) Q0 ?rd1
          case yd1 => (intro w; go_simp; try with_reducible rfl)
          simp only [List.setIfInBounds_toArray, List.set_cons_zero, List.set_cons_succ]
          refine anyH_take (i := 2) (d := 77) (v := ?vd2) rfl rfl (by kernel_rfl) (by kernel_rfl) (by kernel_rfl) (fun _ _ _ h => h) (Or.inl ⟨by rfl, ?yd2⟩) Q0 ?rd2
          case yd2 => (intro w; go_simp; try with_reducible rfl)
          simp only [List.setIfInBounds_toArray, List.set_cons_zero, List.set_cons_succ]
          refine anyH_take (i := 3) (d := 78) (v := ?vd3) rfl rfl (by kernel_rfl) (by kernel_rfl) (by kernel_rfl) (fun _ _ _ h => h) (Or.inl ⟨by rfl, ?yd3⟩) Q0 ?rd3
          case yd3 => (intro w; go_simp; try with_reducible rfl)
          simp only [List.setIfInBounds_toArray, List.set_cons_zero, List.set_cons_succ]
          refine anyH_take (i := 4) (d := 79) (v := ?vd4) rfl rfl (by kernel_rfl) (by kernel_rfl) (by kernel_rfl) (fun _ _ _ h => h) (Or.inl ⟨by rfl, ?yd4⟩) Q0 ?rd4
          case yd4 => (intro w; go_simp; try with_reducible rfl)
          simp only [List.setIfInBounds_toArray, List.set_cons_zero, List.set_cons_succ]
          refine wpAnyH_take' (i := 5) (d := 80) (v := ?vd5) rfl rfl (by kernel_rfl) (by kernel_rfl) (by kernel_rfl) (fun _ _ _ h => h) (Or.inl ⟨by rfl, ?yd5⟩) Q0 ?rd5
          case yd5 => (intro w hSw; go_split_ands; go_simp; try with_reducible rfl)
          simp only [List.setIfInBounds_toArray, List.set_cons_zero, List.set_cons_succ]
          refine anyH_take (i := 6) (d := 81) (v := ?vd6) rfl rfl (by kernel_rfl) (by kernel_rfl) (by kernel_rfl) (fun _ _ _ h => h) (Or.inl ⟨by rfl, ?yd6⟩) Q0 ?rd6
          case yd6 => (intro w; go_simp; try with_reducible rfl)
          simp only [List.setIfInBounds_toArray, List.set_cons_zero, List.set_cons_succ]
          refine anyH_load (i := 7) (d := 82) rfl rfl (by kernel_rfl) (by kernel_rfl) (by kernel_rfl) (by rfl) 28 _ rfl w4.heap.size 0 rfl D _ (fun _ h => h.2.2) Try.underlying28 rfl hid (fun _ _ _ h => h) Q0 ?_
          simp only [List.setIfInBounds_toArray, List.set_cons_zero, List.set_cons_succ]
          refine anyH_take (i := 9) (d := 84) (v := ?vd9) rfl rfl (by kernel_rfl) (by kernel_rfl) (by kernel_rfl) (fun _ _ _ h => h) (Or.inl ⟨by rfl, ?yd9⟩) Q0 ?rd9
          case yd9 => (intro w; go_simp; try with_reducible rfl)
          simp only [List.setIfInBounds_toArray, List.set_cons_zero, List.set_cons_succ]
          refine anyH_take (i := 10) (d := 85) (v := ?vd10) rfl rfl (by kernel_rfl) (by kernel_rfl) (by kernel_rfl) (fun _ _ _ h => h) (Or.inl ⟨by rfl, ?yd10⟩) Q0 ?rd10
          case yd10 => (intro w; go_simp; try with_reducible rfl)
          simp only [List.setIfInBounds_toArray, List.set_cons_zero, List.set_cons_succ]
          refine anyH_take (i := 11) (d := 86) (v := ?vd11) rfl rfl (by kernel_rfl) (by kernel_rfl) (by kernel_rfl) (fun _ _ _ h => h) (Or.inl ⟨by rfl, ?yd11⟩) Q0 ?rd11
          case yd11 => (intro w; go_simp; try with_reducible rfl)
          simp only [List.setIfInBounds_toArray, List.set_cons_zero, List.set_cons_succ]
          refine anyH_take (i := 12) (d := 87) (v := ?vd12) rfl rfl (by kernel_rfl) (by kernel_rfl) (by kernel_rfl) (fun _ _ _ h => h) (Or.inl ⟨by rfl, ?yd12⟩) Q0 ?rd12
          case yd12 => (intro w; go_simp; try with_reducible rfl)
          simp only [List.setIfInBounds_toArray, List.set_cons_zero, List.set_cons_succ]
          refine anyH_take (i := 13) (d := 88) (v := ?vd13) rfl rfl (by kernel_rfl) (by kernel_rfl) (by kernel_rfl) (fun _ _ _ h => h) (Or.inl ⟨by rfl, ?yd13⟩) Q0 ?rd13
          case yd13 => (intro w; go_simp; try with_reducible rfl)
          simp only [List.setIfInBounds_toArray, List.set_cons_zero, List.set_cons_succ]
          refine wpAnyH_take' (i := 14) (d := 89) (v := ?vd14) rfl rfl (by kernel_rfl) (by kernel_rfl) (by kernel_rfl) (fun _ _ _ h => h) (Or.inl ⟨by rfl, ?yd14⟩) Q0 ?rd14
          case yd14 => (intro w hSw; go_split_ands; go_simp; try with_reducible rfl)
          simp only [List.setIfInBounds_toArray, List.set_cons_zero, List.set_cons_succ]
          refine anyH_take (i := 15) (d := 90) (v := ?vd15) rfl rfl (by kernel_rfl) (by kernel_rfl) (by kernel_rfl) (fun _ _ _ h => h) (Or.inl ⟨by rfl, ?yd15⟩) Q0 ?rd15
          case yd15 => (intro w; go_simp; try with_reducible rfl)
          simp only [List.setIfInBounds_toArray, List.set_cons_zero, List.set_cons_succ]
          refine anyH_take (i := 16) (d := 91) (v := ?vd16) rfl rfl (by kernel_rfl) (by kernel_rfl) (by kernel_rfl) (fun _ _ _ h => h) (Or.inl ⟨by rfl, ?yd16⟩) Q0 ?rd16
          case yd16 => (intro w; go_simp; try with_reducible rfl)
          simp only [List.setIfInBounds_toArray, List.set_cons_zero, List.set_cons_succ]
          refine anyH_take (i := 17) (d := 92) (v := ?vd17) rfl rfl (by kernel_rfl) (by kernel_rfl) (by kernel_rfl) (fun _ _ _ h => h) (Or.inl ⟨by rfl, ?yd17⟩) Q0 ?rd17
          case yd17 => (intro w; go_simp; try with_reducible rfl)
          simp only [List.setIfInBounds_toArray, List.set_cons_zero, List.set_cons_succ]
          refine anyH_take (i := 18) (d := 93) (v := ?vd18) rfl rfl (by kernel_rfl) (by kernel_rfl) (by kernel_rfl) (fun _ _ _ h => h) (Or.inl ⟨by rfl, ?yd18⟩) Q0 ?rd18
          case yd18 => (intro w; go_simp; try with_reducible rfl)
          simp only [List.setIfInBounds_toArray, List.set_cons_zero, List.set_cons_succ]
          refine wpAnyH_take' (i := 19) (d := 94) (v := ?vd19) rfl rfl (by kernel_rfl) (by kernel_rfl) (by kernel_rfl) (fun _ _ _ h => h) (Or.inl ⟨by rfl, ?yd19⟩) Q0 ?rd19
          case yd19 => (intro w hSw; go_split_ands; go_simp; try with_reducible rfl)
          simp only [List.setIfInBounds_toArray, List.set_cons_zero, List.set_cons_succ]
          refine anyH_load (i := 20) (d := 95) rfl rfl (by kernel_rfl) (by kernel_rfl) (by kernel_rfl) (by rfl) 28 _ rfl w4.heap.size 0 rfl D _ (fun _ h => h.2.2) Try.underlying28 rfl hid (fun _ _ _ h => h) Q0 ?_
          simp only [List.setIfInBounds_toArray, List.set_cons_zero, List.set_cons_succ]
          refine anyH_one (i := 8) (by kernel_rfl) ?_
          refine wpOp_step rfl (fun K hK => ?_)
          go_simp
          refine (ku_vec x.frm Av nr cv x.rs (dg x.d) D Kd.out.1 (by have := Kr.out.2.2.2.1; omega) Hx.out.2.1 (ArgI.ofRow Rd.out Hx.out.2.2.2.2.2.1.1 Hx.out.2.2.2.2.2.1.2.2.2.2) (dg_len _) HD.out.1).mono ?_
          rintro e w7 ⟨rfl, hk, ho⟩
          have K7 := Lib.hid (And.intro hk (And.intro (Kd.out.2.1.ku Kd.out.1 ho) (And.intro (Kd.out.2.2.1.other Kd.out.1 ho ⟨fun e => Hne.out.1 e.symm, fun e => Hne.out.2 e.symm⟩) (ho.blk Kd.out.2.2.2 (ku_off Kd.out.1 Kd.out.2.2.2 (by decide))))))
          have R7 := Lib.hid (row_ku Rd.out Kd.out.1 ho)
          have Q1 : w7.cell? ⟨b, off + j * 7 + 1, none⟩ = some (.int .i64 x.frm) ∧ w7.cell? ⟨b, off + j * 7 + 3, none⟩ = some (.slice Ar nr cr) ∧ w7.rangeAt w4.heap.size 0 D := ⟨(K7.out.1.bel.cell (p := ⟨b, off + j * 7 + 1, none⟩) Hc.out.2.2.2.2.2.2).trans Hc.out.2.1, (K7.out.1.bel.cell (p := ⟨b, off + j * 7 + 3, none⟩) Hc.out.2.2.2.2.2.2).trans Hc.out.2.2.2.1, K7.out.2.2.2.range⟩
          clear hk ho
          refine hK _ _ ⟨Q1, ?_⟩
          clear hK K
          refine anyH_one (i := 21) (by kernel_rfl) ?_
          refine wpOp_step rfl (fun K hK => ?_)
          go_simp
          refine (rvec_any w w7 gr j v T x.frm Ar nr cr x.rs (dg x.d) D K7.out.2.1 (by have := Kr.out.2.2.2.1; omega) Hx.out.2.2.2.2.2.1 (dg_len _) HD.out.1).mono ?_
          rintro e w8 ⟨rfl, ⟨v7, hr7, _⟩, ho⟩
          have K8 := Lib.hid (And.intro (K7.out.1.ref K7.out.2.1 ho) (And.intro hr7 (And.intro (K7.out.2.2.1.ref K7.out.2.1 ho) (ho.blk K7.out.2.2.2 (K7.out.2.1.off K7.out.2.2.2 (by decide) (by decide))))))
          have R8 := Lib.hid (row_ref R7.out K7.out.2.1 ho)
          have Q2 : w8.cell? ⟨b, off + j * 7 + 1, none⟩ = some (.int .i64 x.frm) ∧ w8.cell? ⟨b, off + j * 7 + 3, none⟩ = some (.slice Ar nr cr) ∧ w8.rangeAt w4.heap.size 0 D := ⟨(K8.out.1.bel.cell (p := ⟨b, off + j * 7 + 1, none⟩) Hc.out.2.2.2.2.2.2).trans Hc.out.2.1, (K8.out.1.bel.cell (p := ⟨b, off + j * 7 + 3, none⟩) Hc.out.2.2.2.2.2.2).trans Hc.out.2.2.2.1, K8.out.2.2.2.range⟩
          clear hr7 ho
          refine hK _ _ ⟨Q2, ?_⟩
          clear hK K
          refine anyH_take (i := 22) (d := 97) (v := ?vd22) rfl rfl (by kernel_rfl) (by kernel_rfl) (by kernel_rfl) (fun _ _ _ h => h) (Or.inl ⟨by rfl, ?yd22⟩) Q2 ?rd22
          case yd22 => (intro w; go_simp; try with_reducible rfl)
          simp only [List.setIfInBounds_toArray, List.set_cons_zero, List.set_cons_succ]
          refine anyH_take (i := 23) (d := 98) (v := ?vd23) rfl rfl (by kernel_rfl) (by kernel_rfl) (by kernel_rfl) (fun _ _ _ h => h) (Or.inl ⟨by rfl, ?yd23⟩) Q2 ?rd23
          case yd23 => (intro w; go_simp; try with_reducible rfl)
          simp only [List.setIfInBounds_toArray, List.set_cons_zero, List.set_cons_succ]
          refine anyH_take (i := 24) (d := 99) (v := ?vd24) rfl rfl (by kernel_rfl) (by kernel_rfl) (by kernel_rfl) (fun _ _ _ h => h) (Or.inl ⟨by rfl, ?yd24⟩) Q2 ?rd24
          case yd24 => (intro w; go_simp; try with_reducible rfl)
          simp only [List.setIfInBounds_toArray, List.set_cons_zero, List.set_cons_succ]
          refine anyH_take (i := 25) (d := 100) (v := ?vd25) rfl rfl (by kernel_rfl) (by kernel_rfl) (by kernel_rfl) (fun _ _ _ h => h) (Or.inl ⟨by rfl, ?yd25⟩) Q2 ?rd25
          case yd25 => (intro w; go_simp; try with_reducible rfl)
          simp only [List.setIfInBounds_toArray, List.set_cons_zero, List.set_cons_succ]
          refine anyH_take (i := 26) (d := 101) (v := ?vd26) rfl rfl (by kernel_rfl) (by kernel_rfl) (by kernel_rfl) (fun _ _ _ h => h) (Or.inl ⟨by rfl, ?yd26⟩) Q2 ?rd26
          case yd26 => (intro w; go_simp; try with_reducible rfl)
          simp only [List.setIfInBounds_toArray, List.set_cons_zero, List.set_cons_succ]
          refine anyH_take (i := 27) (d := 102) (v := ?vd27) rfl rfl (by kernel_rfl) (by kernel_rfl) (by kernel_rfl) (fun _ _ _ h => h) (Or.inl ⟨by rfl, ?yd27⟩) Q2 ?rd27
          case yd27 => (intro w; go_simp; try with_reducible rfl)
          simp only [List.setIfInBounds_toArray, List.set_cons_zero, List.set_cons_succ]
          refine anyH_take (i := 28) (d := 103) (v := ?vd28) rfl rfl (by kernel_rfl) (by kernel_rfl) (by kernel_rfl) (fun _ _ _ h => h) (Or.inl ⟨by rfl, ?yd28⟩) Q2 ?rd28
          case yd28 => (intro w; go_simp; try with_reducible rfl)
          simp only [List.setIfInBounds_toArray, List.set_cons_zero, List.set_cons_succ]
          refine wpAnyH_take' (i := 29) (d := 104) (v := ?vd29) rfl rfl (by kernel_rfl) (by kernel_rfl) (by kernel_rfl) (fun _ _ _ h => h) (Or.inl ⟨by rfl, ?yd29⟩) Q2 ?rd29
          case yd29 => (intro w hSw; go_split_ands; go_simp; try with_reducible rfl)
          simp only [List.setIfInBounds_toArray, List.set_cons_zero, List.set_cons_succ]
          refine anyH_one (i := 30) (by kernel_rfl) ?_
          refine wpOp_step rfl (fun K hK => ?_)
          go_simp
          refine (eqInts_same Av Ar nr cv cr x.rs w8 (ArgI.ofRow R8.out Hx.out.2.2.2.2.2.1.1 Hx.out.2.2.2.2.2.1.2.2.2.2) (Hx.out.2.2.2.2.2.1.after K8.out.1.bel)).mono ?_
          rintro e w9 ⟨rfl, hb9⟩
          have Ke := Lib.hid (And.intro (K8.out.1.below hb9) (And.intro (K8.out.2.1.below hb9) (And.intro (K8.out.2.2.1.below hb9) (K8.out.2.2.2.below hb9 K8.out.2.2.2.lt))))
          have R9 := Lib.hid (row_below R8.out hb9)
          have Q3 : w9.cell? ⟨b, off + j * 7 + 1, none⟩ = some (.int .i64 x.frm) ∧ w9.cell? ⟨b, off + j * 7 + 3, none⟩ = some (.slice Ar nr cr) ∧ w9.rangeAt w4.heap.size 0 D := ⟨(Ke.out.1.bel.cell (p := ⟨b, off + j * 7 + 1, none⟩) Hc.out.2.2.2.2.2.2).trans Hc.out.2.1, (Ke.out.1.bel.cell (p := ⟨b, off + j * 7 + 3, none⟩) Hc.out.2.2.2.2.2.2).trans Hc.out.2.2.2.1, Ke.out.2.2.2.range⟩
          clear hb9
          refine hK _ _ ⟨Q3, ?_⟩
          clear hK K
          refine anyH_take (i := 31) (d := 106) (v := ?vd31) rfl rfl (by kernel_rfl) (by kernel_rfl) (by kernel_rfl) (fun _ _ _ h => h) (Or.inl ⟨by rfl, ?yd31⟩) Q3 ?rd31
          case yd31 => (intro w; go_simp; try with_reducible rfl)
          simp only [List.setIfInBounds_toArray, List.set_cons_zero, List.set_cons_succ]
          refine anyH_take (i := 32) (d := 107) (v := ?vd32) rfl rfl (by kernel_rfl) (by kernel_rfl) (by kernel_rfl) (fun _ _ _ h => h) (Or.inl ⟨by rfl, ?yd32⟩) Q3 ?rd32
          case yd32 => (intro w; go_simp; try with_reducible rfl)
          simp only [List.setIfInBounds_toArray, List.set_cons_zero, List.set_cons_succ]
          refine wpAnyH_done (by kernel_rfl) ?_ _
          clear Q0 Q1 Q2 Q3
          go_wp2
          go_loopw [9] (fun qv wl => ∃ (q : Nat) (ys : List Int), q ≤ nr ∧ qv = .int .i64 q ∧ wl.ownsRow wq.heap.size 3 1 (.slice Av nr cv) nr (cis ys) ∧ Ku w wl ga ma (vecL T x.frm x.rs (dg x.d)) j ∧ RefAt w wl gr v7 (vecL T x.frm x.rs (dg x.d)) j ∧ Ku w wl go mo (tagL T2 1 0 (dg x.d)) 0 ∧ Blk wl w4.heap.size 28 D) (fun qv _ => nr - (intOf qv).toNat)
          case atStart => exact ⟨0, _, Nat.zero_le _, rfl, R9.out, Ke.out.1, Ke.out.2.1, Ke.out.2.2.1, Ke.out.2.2.2⟩
          case round =>
            obtain ⟨q, ys, hq, rfl, hrw, hk1, hr1, hk2, hBl⟩ := hrel
            have q0 : (0 : Int) ≤ q := by omega
            by_cases hqn : q < nr
            · have q1 : (q : Int) < nr := by omega
              obtain ⟨bv, cs, rfl, hBv, hcs, ⟨y, hy⟩, hfz, hnew, hO⟩ := row_put hrw hqn 9
              have hbw : w.heap.size ≤ bv := Nat.le_trans Hqz.out hBv
              have hdg : w4.heap.size ≠ bv := fun e => by
                have h1 : wr.heap[w4.heap.size]? = some (.cells D.toArray 28 (0, 0)) := hBl
                rw [e, hcs] at h1
                injection h1 with h1
                injection h1 with _ h1
                revert h1
                decide
              have Hn := Lib.hid (And.intro hnew (And.intro (hk1.far hcs hbw hO) (And.intro (hr1.far hcs hbw hO) (And.intro (hk2.far hcs hbw hO) (hO.blk hBl hdg)))))
              clear hrw hk1 hr1 hk2 hBl hBv hcs hnew hO hbw hdg
              go_wp2
              go_roundw
              case rel => exact ⟨q + 1, _, by omega, by go_num, Hn.out.1, Hn.out.2.1, Hn.out.2.2.1, Hn.out.2.2.2.1, Hn.out.2.2.2.2⟩
              case measure => simp [intOf]; omega
            · have q1 : ¬ (q : Int) < nr := by omega
              have Kl := Lib.hid (And.intro hk1 (And.intro hr1 (And.intro hk2 hBl)))
              clear hrw hk1 hr1 hk2 hBl
              have hTl7 : (vecL T x.frm x.rs (dg x.d)).length < 900000 := by have := vecL_len T x.frm x.rs (dg x.d); have := Kr.out.2.2.2.1; omega
              have HTl := Lib.hid hTl7
              clear hTl7
              go_wp2_with fail
              have K9 := Lib.hid (And.intro (Kl.out.1.below (Below.refl _ _).drew) (And.intro (Kl.out.2.1.below (Below.refl _ _).drew) (And.intro (Kl.out.2.2.1.below (Below.refl _ _).drew) Kl.out.2.2.2)))
              have Q3 : wr.drew.cell? ⟨b, off + j * 7 + 5, none⟩ = some (.int .i64 x.askF) ∧ wr.drew.cell? ⟨b, off + j * 7 + 6, none⟩ = some (.int .i64 x.askT) ∧ wr.drew.rangeAt w4.heap.size 0 D := ⟨(K9.out.1.bel.cell (p := ⟨b, off + j * 7 + 5, none⟩) Hc.out.2.2.2.2.2.2).trans Hc.out.2.2.2.2.1, (K9.out.1.bel.cell (p := ⟨b, off + j * 7 + 6, none⟩) Hc.out.2.2.2.2.2.2).trans Hc.out.2.2.2.2.2.1, K9.out.2.2.2.range⟩
              refine wp_region_held_drew (S := fun W' => W'.cell? ⟨b, off + j * 7 + 5, none⟩ = some (.int .i64 x.askF) ∧ W'.cell? ⟨b, off + j * 7 + 6, none⟩ = some (.int .i64 x.askT) ∧ W'.rangeAt w4.heap.size 0 D) (by kernel_rfl) Q3 (fun _ => ?_)
              refine anyH_take (i := 0) (d := 117) (v := ?ve0) rfl rfl (by kernel_rfl) (by kernel_rfl) (by kernel_rfl) (fun _ _ _ h => h) (Or.inl ⟨by rfl, ?ye0⟩) Q3 ?re0
              case ye0 => (intro w; go_simp; try with_reducible rfl)
              simp only [List.setIfInBounds_toArray, List.set_cons_zero, List.set_cons_succ]
              refine anyH_take (i := 1) (d := 118) (v := ?ve1) rfl rfl (by kernel_rfl) (by kernel_rfl) (by kernel_rfl) (fun _ _ _ h => h) (Or.inl ⟨by rfl, ?ye1⟩) Q3 ?re1
              case ye1 => (intro w; go_simp; try with_reducible rfl)
              simp only [List.setIfInBounds_toArray, List.set_cons_zero, List.set_cons_succ]
              refine anyH_take (i := 2) (d := 119) (v := ?ve2) rfl rfl (by kernel_rfl) (by kernel_rfl) (by kernel_rfl) (fun _ _ _ h => h) (Or.inl ⟨by rfl, ?ye2⟩) Q3 ?re2
              case ye2 => (intro w; go_simp; try with_reducible rfl)
              simp only [List.setIfInBounds_toArray, List.set_cons_zero, List.set_cons_succ]
              refine anyH_take (i := 3) (d := 120) (v := ?ve3) rfl rfl (by kernel_rfl) (by kernel_rfl) (by kernel_rfl) (fun _ _ _ h => h) (Or.inl ⟨by rfl, ?ye3⟩) Q3 ?re3
              case ye3 => (intro w; go_simp; try with_reducible rfl)
              simp only [List.setIfInBounds_toArray, List.set_cons_zero, List.set_cons_succ]
              refine anyH_take (i := 4) (d := 121) (v := ?ve4) rfl rfl (by kernel_rfl) (by kernel_rfl) (by kernel_rfl) (fun _ _ _ h => h) (Or.inl ⟨by rfl, ?ye4⟩) Q3 ?re4
              case ye4 => (intro w; go_simp; try with_reducible rfl)
              simp only [List.setIfInBounds_toArray, List.set_cons_zero, List.set_cons_succ]
              refine wpAnyH_take' (i := 5) (d := 122) (v := ?ve5) rfl rfl (by kernel_rfl) (by kernel_rfl) (by kernel_rfl) (fun _ _ _ h => h) (Or.inl ⟨by rfl, ?ye5⟩) Q3 ?re5
              case ye5 => (intro w hSw; go_split_ands; go_simp; try with_reducible rfl)
              simp only [List.setIfInBounds_toArray, List.set_cons_zero, List.set_cons_succ]
              refine anyH_take (i := 6) (d := 123) (v := ?ve6) rfl rfl (by kernel_rfl) (by kernel_rfl) (by kernel_rfl) (fun _ _ _ h => h) (Or.inl ⟨by rfl, ?ye6⟩) Q3 ?re6
              case ye6 => (intro w; go_simp; try with_reducible rfl)
              simp only [List.setIfInBounds_toArray, List.set_cons_zero, List.set_cons_succ]
              refine anyH_take (i := 7) (d := 124) (v := ?ve7) rfl rfl (by kernel_rfl) (by kernel_rfl) (by kernel_rfl) (fun _ _ _ h => h) (Or.inl ⟨by rfl, ?ye7⟩) Q3 ?re7
              case ye7 => (intro w; go_simp; try with_reducible rfl)
              simp only [List.setIfInBounds_toArray, List.set_cons_zero, List.set_cons_succ]
              refine anyH_take (i := 8) (d := 125) (v := ?ve8) rfl rfl (by kernel_rfl) (by kernel_rfl) (by kernel_rfl) (fun _ _ _ h => h) (Or.inl ⟨by rfl, ?ye8⟩) Q3 ?re8
              case ye8 => (intro w; go_simp; try with_reducible rfl)
              simp only [List.setIfInBounds_toArray, List.set_cons_zero, List.set_cons_succ]
              refine anyH_take (i := 9) (d := 126) (v := ?ve9) rfl rfl (by kernel_rfl) (by kernel_rfl) (by kernel_rfl) (fun _ _ _ h => h) (Or.inl ⟨by rfl, ?ye9⟩) Q3 ?re9
              case ye9 => (intro w; go_simp; try with_reducible rfl)
              simp only [List.setIfInBounds_toArray, List.set_cons_zero, List.set_cons_succ]
              refine wpAnyH_take' (i := 10) (d := 127) (v := ?ve10) rfl rfl (by kernel_rfl) (by kernel_rfl) (by kernel_rfl) (fun _ _ _ h => h) (Or.inl ⟨by rfl, ?ye10⟩) Q3 ?re10
              case ye10 => (intro w hSw; go_split_ands; go_simp; try with_reducible rfl)
              simp only [List.setIfInBounds_toArray, List.set_cons_zero, List.set_cons_succ]
              refine anyH_load (i := 11) (d := 128) rfl rfl (by kernel_rfl) (by kernel_rfl) (by kernel_rfl) (by rfl) 28 _ rfl w4.heap.size 0 rfl D _ (fun _ h => h.2.2) Try.underlying28 rfl hid (fun _ _ _ h => h) Q3 ?_
              simp only [List.setIfInBounds_toArray, List.set_cons_zero, List.set_cons_succ]
              refine anyH_take (i := 13) (d := 130) (v := ?ve13) rfl rfl (by kernel_rfl) (by kernel_rfl) (by kernel_rfl) (fun _ _ _ h => h) (Or.inl ⟨by rfl, ?ye13⟩) Q3 ?re13
              case ye13 => (intro w; go_simp; try with_reducible rfl)
              simp only [List.setIfInBounds_toArray, List.set_cons_zero, List.set_cons_succ]
              refine anyH_take (i := 14) (d := 131) (v := ?ve14) rfl rfl (by kernel_rfl) (by kernel_rfl) (by kernel_rfl) (fun _ _ _ h => h) (Or.inl ⟨by rfl, ?ye14⟩) Q3 ?re14
              case ye14 => (intro w; go_simp; try with_reducible rfl)
              simp only [List.setIfInBounds_toArray, List.set_cons_zero, List.set_cons_succ]
              refine anyH_take (i := 15) (d := 132) (v := ?ve15) rfl rfl (by kernel_rfl) (by kernel_rfl) (by kernel_rfl) (fun _ _ _ h => h) (Or.inl ⟨by rfl, ?ye15⟩) Q3 ?re15
              case ye15 => (intro w; go_simp; try with_reducible rfl)
              simp only [List.setIfInBounds_toArray, List.set_cons_zero, List.set_cons_succ]
              refine anyH_take (i := 16) (d := 133) (v := ?ve16) rfl rfl (by kernel_rfl) (by kernel_rfl) (by kernel_rfl) (fun _ _ _ h => h) (Or.inl ⟨by rfl, ?ye16⟩) Q3 ?re16
              case ye16 => (intro w; go_simp; try with_reducible rfl)
              simp only [List.setIfInBounds_toArray, List.set_cons_zero, List.set_cons_succ]
              refine anyH_take (i := 17) (d := 134) (v := ?ve17) rfl rfl (by kernel_rfl) (by kernel_rfl) (by kernel_rfl) (fun _ _ _ h => h) (Or.inl ⟨by rfl, ?ye17⟩) Q3 ?re17
              case ye17 => (intro w; go_simp; try with_reducible rfl)
              simp only [List.setIfInBounds_toArray, List.set_cons_zero, List.set_cons_succ]
              refine wpAnyH_take' (i := 18) (d := 135) (v := ?ve18) rfl rfl (by kernel_rfl) (by kernel_rfl) (by kernel_rfl) (fun _ _ _ h => h) (Or.inl ⟨by rfl, ?ye18⟩) Q3 ?re18
              case ye18 => (intro w hSw; go_split_ands; go_simp; try with_reducible rfl)
              simp only [List.setIfInBounds_toArray, List.set_cons_zero, List.set_cons_succ]
              refine anyH_take (i := 19) (d := 136) (v := ?ve19) rfl rfl (by kernel_rfl) (by kernel_rfl) (by kernel_rfl) (fun _ _ _ h => h) (Or.inl ⟨by rfl, ?ye19⟩) Q3 ?re19
              case ye19 => (intro w; go_simp; try with_reducible rfl)
              simp only [List.setIfInBounds_toArray, List.set_cons_zero, List.set_cons_succ]
              refine anyH_take (i := 20) (d := 137) (v := ?ve20) rfl rfl (by kernel_rfl) (by kernel_rfl) (by kernel_rfl) (fun _ _ _ h => h) (Or.inl ⟨by rfl, ?ye20⟩) Q3 ?re20
              case ye20 => (intro w; go_simp; try with_reducible rfl)
              simp only [List.setIfInBounds_toArray, List.set_cons_zero, List.set_cons_succ]
              refine anyH_take (i := 21) (d := 138) (v := ?ve21) rfl rfl (by kernel_rfl) (by kernel_rfl) (by kernel_rfl) (fun _ _ _ h => h) (Or.inl ⟨by rfl, ?ye21⟩) Q3 ?re21
              case ye21 => (intro w; go_simp; try with_reducible rfl)
              simp only [List.setIfInBounds_toArray, List.set_cons_zero, List.set_cons_succ]
              refine anyH_take (i := 22) (d := 139) (v := ?ve22) rfl rfl (by kernel_rfl) (by kernel_rfl) (by kernel_rfl) (fun _ _ _ h => h) (Or.inl ⟨by rfl, ?ye22⟩) Q3 ?re22
              case ye22 => (intro w; go_simp; try with_reducible rfl)
              simp only [List.setIfInBounds_toArray, List.set_cons_zero, List.set_cons_succ]
              refine wpAnyH_take' (i := 23) (d := 140) (v := ?ve23) rfl rfl (by kernel_rfl) (by kernel_rfl) (by kernel_rfl) (fun _ _ _ h => h) (Or.inl ⟨by rfl, ?ye23⟩) Q3 ?re23
              case ye23 => (intro w hSw; go_split_ands; go_simp; try with_reducible rfl)
              simp only [List.setIfInBounds_toArray, List.set_cons_zero, List.set_cons_succ]
              refine anyH_load (i := 24) (d := 141) rfl rfl (by kernel_rfl) (by kernel_rfl) (by kernel_rfl) (by rfl) 28 _ rfl w4.heap.size 0 rfl D _ (fun _ h => h.2.2) Try.underlying28 rfl hid (fun _ _ _ h => h) Q3 ?_
              simp only [List.setIfInBounds_toArray, List.set_cons_zero, List.set_cons_succ]
              refine anyH_one (i := 12) (by kernel_rfl) ?_
              refine wpOp_step rfl (fun K hK => ?_)
              go_simp
              refine (ku_check x.askF x.askT (dg x.d) D K9.out.1 (by omega) Hx.out.2.2.2.1 Hx.out.2.2.2.2.1 (dg_len _) HD.out.1).mono ?_
              rintro e w8 ⟨rfl, hk, ho⟩
              have Ka := Lib.hid (And.intro hk (And.intro (K9.out.2.1.ku K9.out.1 ho) (And.intro (K9.out.2.2.1.other K9.out.1 ho ⟨fun e => Hne.out.1 e.symm, fun e => Hne.out.2 e.symm⟩) (ho.blk K9.out.2.2.2 (ku_off K9.out.1 K9.out.2.2.2 (by decide))))))
              have Q4 : w8.cell? ⟨b, off + j * 7 + 5, none⟩ = some (.int .i64 x.askF) ∧ w8.cell? ⟨b, off + j * 7 + 6, none⟩ = some (.int .i64 x.askT) ∧ w8.rangeAt w4.heap.size 0 D := ⟨(Ka.out.1.bel.cell (p := ⟨b, off + j * 7 + 5, none⟩) Hc.out.2.2.2.2.2.2).trans Hc.out.2.2.2.2.1, (Ka.out.1.bel.cell (p := ⟨b, off + j * 7 + 6, none⟩) Hc.out.2.2.2.2.2.2).trans Hc.out.2.2.2.2.2.1, Ka.out.2.2.2.range⟩
              clear hk ho
              refine hK _ _ ⟨Q4, ?_⟩
              clear hK K
              refine anyH_one (i := 25) (by kernel_rfl) ?_
              refine wpOp_step rfl (fun K hK => ?_)
              go_simp
              refine (rcheck_any w w8 gr j _ _ x.askF x.askT (dg x.d) D Ka.out.2.1 HTl.out (by omega) (dg_len _) HD.out.1).mono ?_
              rintro e w9 ⟨rfl, hr9, ho'⟩
              have ho : Out (RefS gr v7) w8 w9 := ho'.mono_ fun i hi => .inl hi
              have Kb := Lib.hid (And.intro (Ka.out.1.ref Ka.out.2.1 ho) (And.intro hr9 (And.intro (Ka.out.2.2.1.ref Ka.out.2.1 ho) (ho.blk Ka.out.2.2.2 (Ka.out.2.1.off Ka.out.2.2.2 (by decide) (by decide))))))
              have Q5 : w9.cell? ⟨b, off + j * 7 + 5, none⟩ = some (.int .i64 x.askF) ∧ w9.cell? ⟨b, off + j * 7 + 6, none⟩ = some (.int .i64 x.askT) ∧ w9.rangeAt w4.heap.size 0 D := ⟨(Kb.out.1.bel.cell (p := ⟨b, off + j * 7 + 5, none⟩) Hc.out.2.2.2.2.2.2).trans Hc.out.2.2.2.2.1, (Kb.out.1.bel.cell (p := ⟨b, off + j * 7 + 6, none⟩) Hc.out.2.2.2.2.2.2).trans Hc.out.2.2.2.2.2.1, Kb.out.2.2.2.range⟩
              clear hr9 ho ho'
              refine hK _ _ ⟨Q5, ?_⟩
              clear hK K
              refine anyH_take (i := 26) (d := 143) (v := ?ve26) rfl rfl (by kernel_rfl) (by kernel_rfl) (by kernel_rfl) (fun _ _ _ h => h) (Or.inl ⟨by rfl, ?ye26⟩) Q5 ?re26
              case ye26 => (intro w; go_simp; try with_reducible rfl)
              simp only [List.setIfInBounds_toArray, List.set_cons_zero, List.set_cons_succ]
              refine anyH_take (i := 27) (d := 144) (v := ?ve27) rfl rfl (by kernel_rfl) (by kernel_rfl) (by kernel_rfl) (fun _ _ _ h => h) (Or.inl ⟨by rfl, ?ye27⟩) Q5 ?re27
              case ye27 => (intro w; go_simp; try with_reducible rfl)
              simp only [List.setIfInBounds_toArray, List.set_cons_zero, List.set_cons_succ]
              refine anyH_take (i := 28) (d := 145) (v := ?ve28) rfl rfl (by kernel_rfl) (by kernel_rfl) (by kernel_rfl) (fun _ _ _ h => h) (Or.inl ⟨by rfl, ?ye28⟩) Q5 ?re28
              case ye28 => (intro w; go_simp; try with_reducible rfl)
              simp only [List.setIfInBounds_toArray, List.set_cons_zero, List.set_cons_succ]
              refine anyH_take (i := 30) (d := 147) (v := ?ve30) rfl rfl (by kernel_rfl) (by kernel_rfl) (by kernel_rfl) (fun _ _ _ h => h) (Or.inl ⟨by rfl, ?ye30⟩) Q5 ?re30
              case ye30 => (intro w; go_simp; try with_reducible rfl)
              simp only [List.setIfInBounds_toArray, List.set_cons_zero, List.set_cons_succ]
              refine anyH_one (i := 29) (by kernel_rfl) ?_
              refine wpOp_step rfl (fun K hK => ?_)
              go_simp
              refine (len_any ga ma _ _ _ Kb.out.1.1).mono ?_
              rintro e w' ⟨rfl, rfl⟩
              refine hK _ _ ⟨Q5, ?_⟩
              clear hK K
              refine anyH_one (i := 31) (by kernel_rfl) ?_
              refine wpOp_step rfl (fun K hK => ?_)
              go_simp
              refine (rlen_any w _ gr _ _ _ Kb.out.2.1 (by have := HTl.out; omega)).mono ?_
              rintro e w' ⟨rfl, rfl⟩
              refine hK _ _ ⟨Q5, ?_⟩
              clear hK K
              refine anyH_take (i := 32) (d := 149) (v := ?ve32) rfl rfl (by kernel_rfl) (by kernel_rfl) (by kernel_rfl) (fun _ _ _ h => h) (Or.inl ⟨by rfl, ?ye32⟩) Q5 ?re32
              case ye32 => (intro w; go_simp; try with_reducible rfl)
              simp only [List.setIfInBounds_toArray, List.set_cons_zero, List.set_cons_succ]
              refine anyH_take (i := 33) (d := 150) (v := ?ve33) rfl rfl (by kernel_rfl) (by kernel_rfl) (by kernel_rfl) (fun _ _ _ h => h) (Or.inl ⟨by rfl, ?ye33⟩) Q5 ?re33
              case ye33 => (intro w; go_simp; try with_reducible rfl)
              simp only [List.setIfInBounds_toArray, List.set_cons_zero, List.set_cons_succ]
              refine anyH_take (i := 34) (d := 151) (v := ?ve34) rfl rfl (by kernel_rfl) (by kernel_rfl) (by kernel_rfl) (fun _ _ _ h => h) (Or.inl ⟨by rfl, ?ye34⟩) Q5 ?re34
              case ye34 => (intro w; go_simp; try with_reducible rfl)
              simp only [List.setIfInBounds_toArray, List.set_cons_zero, List.set_cons_succ]
              refine anyH_take (i := 35) (d := 152) (v := ?ve35) rfl rfl (by kernel_rfl) (by kernel_rfl) (by kernel_rfl) (fun _ _ _ h => h) (Or.inl ⟨by rfl, ?ye35⟩) Q5 ?re35
              case ye35 => (intro w; go_simp; try with_reducible rfl)
              simp only [List.setIfInBounds_toArray, List.set_cons_zero, List.set_cons_succ]
              refine anyH_take (i := 37) (d := 154) (v := ?ve37) rfl rfl (by kernel_rfl) (by kernel_rfl) (by kernel_rfl) (fun _ _ _ h => h) (Or.inl ⟨by rfl, ?ye37⟩) Q5 ?re37
              case ye37 => (intro w; go_simp; try with_reducible rfl)
              simp only [List.setIfInBounds_toArray, List.set_cons_zero, List.set_cons_succ]
              refine anyH_one (i := 36) (by kernel_rfl) ?_
              refine wpOp_step rfl (fun K hK => ?_)
              go_simp
              refine (asked_any ga ma _ _ _ Kb.out.1.1).mono ?_
              rintro e w' ⟨rfl, rfl⟩
              refine hK _ _ ⟨Q5, ?_⟩
              clear hK K
              refine anyH_one (i := 38) (by kernel_rfl) ?_
              refine wpOp_step rfl (fun K hK => ?_)
              go_simp
              refine (rasked_any w _ gr _ _ _ Kb.out.2.1).mono ?_
              rintro e w' ⟨rfl, rfl⟩
              refine hK _ _ ⟨Q5, ?_⟩
              clear hK K
              refine anyH_take (i := 39) (d := 156) (v := ?ve39) rfl rfl (by kernel_rfl) (by kernel_rfl) (by kernel_rfl) (fun _ _ _ h => h) (Or.inl ⟨by rfl, ?ye39⟩) Q5 ?re39
              case ye39 => (intro w; go_simp; try with_reducible rfl)
              simp only [List.setIfInBounds_toArray, List.set_cons_zero, List.set_cons_succ]
              refine anyH_take (i := 40) (d := 157) (v := ?ve40) rfl rfl (by kernel_rfl) (by kernel_rfl) (by kernel_rfl) (fun _ _ _ h => h) (Or.inl ⟨by rfl, ?ye40⟩) Q5 ?re40
              case ye40 => (intro w; go_simp; try with_reducible rfl)
              simp only [List.setIfInBounds_toArray, List.set_cons_zero, List.set_cons_succ]
              refine wpAnyH_done (by kernel_rfl) ?_ _
              have hl1 : (vecL T x.frm x.rs (dg x.d)).length ≤ 34 * (j + 1) := by have := vecL_len T x.frm x.rs (dg x.d); have := Kr.out.2.2.2.1; omega
              have hl2 : (tagL T2 1 0 (dg x.d)).length ≤ j + 1 := by have := tagL_len T2 1 0 (dg x.d); have := Kr.out.2.2.2.2; omega
              have Hl := Lib.hid (And.intro hl1 hl2)
              clear hl1 hl2 Q3 Q4 Q5 hid
              go_wp2
              go_roundw
              case rel => exact ⟨j + 1, _, _, _, by omega, by omega, by go_num, Hl.out.1, Hl.out.2, Kb.out.1, Kb.out.2.1, Kb.out.2.2.1⟩
              case measure => simp [intOf]; omega
        · have hb0 : (r == 0) = false := by simp [h0]
          have hb1 : (r == 1) = false := by simp [h1]
          go_wp2_with fail
          have hid : (Try.prog.info? 28).map (·.size) = some D.length := by rw [hDl]; exact info32b
          have hTl7 : T.length < 900000 := by have := Kr.out.2.2.2.1; omega
          have HTl := Lib.hid hTl7
          clear hTl7
          have K9 := Lib.hid (And.intro (K5.out.1.below (Below.refl _ _).drew) (And.intro (K5.out.2.1.below (Below.refl _ _).drew) (And.intro (K5.out.2.2.1.below (Below.refl _ _).drew) K5.out.2.2.2)))
          have Q3 : wq.drew.cell? ⟨b, off + j * 7 + 5, none⟩ = some (.int .i64 x.askF) ∧ wq.drew.cell? ⟨b, off + j * 7 + 6, none⟩ = some (.int .i64 x.askT) ∧ wq.drew.rangeAt w4.heap.size 0 D := ⟨(K9.out.1.bel.cell (p := ⟨b, off + j * 7 + 5, none⟩) Hc.out.2.2.2.2.2.2).trans Hc.out.2.2.2.2.1, (K9.out.1.bel.cell (p := ⟨b, off + j * 7 + 6, none⟩) Hc.out.2.2.2.2.2.2).trans Hc.out.2.2.2.2.2.1, K9.out.2.2.2.range⟩
          refine wp_region_held_drew (S := fun W' => W'.cell? ⟨b, off + j * 7 + 5, none⟩ = some (.int .i64 x.askF) ∧ W'.cell? ⟨b, off + j * 7 + 6, none⟩ = some (.int .i64 x.askT) ∧ W'.rangeAt w4.heap.size 0 D) (by kernel_rfl) Q3 (fun _ => ?_)
          refine anyH_take (i := 0) (d := 117) (v := ?vc0) rfl rfl (by kernel_rfl) (by kernel_rfl) (by kernel_rfl) (fun _ _ _ h => h) (Or.inl ⟨by rfl, ?yc0⟩) Q3 ?rc0
          case yc0 => (intro w; go_simp; try with_reducible rfl)
          simp only [List.setIfInBounds_toArray, List.set_cons_zero, List.set_cons_succ]
          refine anyH_take (i := 1) (d := 118) (v := ?vc1) rfl rfl (by kernel_rfl) (by kernel_rfl) (by kernel_rfl) (fun _ _ _ h => h) (Or.inl ⟨by rfl, ?yc1⟩) Q3 ?rc1
          case yc1 => (intro w; go_simp; try with_reducible rfl)
          simp only [List.setIfInBounds_toArray, List.set_cons_zero, List.set_cons_succ]
          refine anyH_take (i := 2) (d := 119) (v := ?vc2) rfl rfl (by kernel_rfl) (by kernel_rfl) (by kernel_rfl) (fun _ _ _ h => h) (Or.inl ⟨by rfl, ?yc2⟩) Q3 ?rc2
          case yc2 => (intro w; go_simp; try with_reducible rfl)
          simp only [List.setIfInBounds_toArray, List.set_cons_zero, List.set_cons_succ]
          refine anyH_take (i := 3) (d := 120) (v := ?vc3) rfl rfl (by kernel_rfl) (by kernel_rfl) (by kernel_rfl) (fun _ _ _ h => h) (Or.inl ⟨by rfl, ?yc3⟩) Q3 ?rc3
          case yc3 => (intro w; go_simp; try with_reducible rfl)
          simp only [List.setIfInBounds_toArray, List.set_cons_zero, List.set_cons_succ]
          refine anyH_take (i := 4) (d := 121) (v := ?vc4) rfl rfl (by kernel_rfl) (by kernel_rfl) (by kernel_rfl) (fun _ _ _ h => h) (Or.inl ⟨by rfl, ?yc4⟩) Q3 ?rc4
          case yc4 => (intro w; go_simp; try with_reducible rfl)
          simp only [List.setIfInBounds_toArray, List.set_cons_zero, List.set_cons_succ]
          refine wpAnyH_take' (i := 5) (d := 122) (v := ?vc5) rfl rfl (by kernel_rfl) (by kernel_rfl) (by kernel_rfl) (fun _ _ _ h => h) (Or.inl ⟨by rfl, ?yc5⟩) Q3 ?rc5
          case yc5 => (intro w hSw; go_split_ands; go_simp; try with_reducible rfl)
          simp only [List.setIfInBounds_toArray, List.set_cons_zero, List.set_cons_succ]
          refine anyH_take (i := 6) (d := 123) (v := ?vc6) rfl rfl (by kernel_rfl) (by kernel_rfl) (by kernel_rfl) (fun _ _ _ h => h) (Or.inl ⟨by rfl, ?yc6⟩) Q3 ?rc6
          case yc6 => (intro w; go_simp; try with_reducible rfl)
          simp only [List.setIfInBounds_toArray, List.set_cons_zero, List.set_cons_succ]
          refine anyH_take (i := 7) (d := 124) (v := ?vc7) rfl rfl (by kernel_rfl) (by kernel_rfl) (by kernel_rfl) (fun _ _ _ h => h) (Or.inl ⟨by rfl, ?yc7⟩) Q3 ?rc7
          case yc7 => (intro w; go_simp; try with_reducible rfl)
          simp only [List.setIfInBounds_toArray, List.set_cons_zero, List.set_cons_succ]
          refine anyH_take (i := 8) (d := 125) (v := ?vc8) rfl rfl (by kernel_rfl) (by kernel_rfl) (by kernel_rfl) (fun _ _ _ h => h) (Or.inl ⟨by rfl, ?yc8⟩) Q3 ?rc8
          case yc8 => (intro w; go_simp; try with_reducible rfl)
          simp only [List.setIfInBounds_toArray, List.set_cons_zero, List.set_cons_succ]
          refine anyH_take (i := 9) (d := 126) (v := ?vc9) rfl rfl (by kernel_rfl) (by kernel_rfl) (by kernel_rfl) (fun _ _ _ h => h) (Or.inl ⟨by rfl, ?yc9⟩) Q3 ?rc9
          case yc9 => (intro w; go_simp; try with_reducible rfl)
          simp only [List.setIfInBounds_toArray, List.set_cons_zero, List.set_cons_succ]
          refine wpAnyH_take' (i := 10) (d := 127) (v := ?vc10) rfl rfl (by kernel_rfl) (by kernel_rfl) (by kernel_rfl) (fun _ _ _ h => h) (Or.inl ⟨by rfl, ?yc10⟩) Q3 ?rc10
          case yc10 => (intro w hSw; go_split_ands; go_simp; try with_reducible rfl)
          simp only [List.setIfInBounds_toArray, List.set_cons_zero, List.set_cons_succ]
          refine anyH_load (i := 11) (d := 128) rfl rfl (by kernel_rfl) (by kernel_rfl) (by kernel_rfl) (by rfl) 28 _ rfl w4.heap.size 0 rfl D _ (fun _ h => h.2.2) Try.underlying28 rfl hid (fun _ _ _ h => h) Q3 ?_
          simp only [List.setIfInBounds_toArray, List.set_cons_zero, List.set_cons_succ]
          refine anyH_take (i := 13) (d := 130) (v := ?vc13) rfl rfl (by kernel_rfl) (by kernel_rfl) (by kernel_rfl) (fun _ _ _ h => h) (Or.inl ⟨by rfl, ?yc13⟩) Q3 ?rc13
          case yc13 => (intro w; go_simp; try with_reducible rfl)
          simp only [List.setIfInBounds_toArray, List.set_cons_zero, List.set_cons_succ]
          refine anyH_take (i := 14) (d := 131) (v := ?vc14) rfl rfl (by kernel_rfl) (by kernel_rfl) (by kernel_rfl) (fun _ _ _ h => h) (Or.inl ⟨by rfl, ?yc14⟩) Q3 ?rc14
          case yc14 => (intro w; go_simp; try with_reducible rfl)
          simp only [List.setIfInBounds_toArray, List.set_cons_zero, List.set_cons_succ]
          refine anyH_take (i := 15) (d := 132) (v := ?vc15) rfl rfl (by kernel_rfl) (by kernel_rfl) (by kernel_rfl) (fun _ _ _ h => h) (Or.inl ⟨by rfl, ?yc15⟩) Q3 ?rc15
          case yc15 => (intro w; go_simp; try with_reducible rfl)
          simp only [List.setIfInBounds_toArray, List.set_cons_zero, List.set_cons_succ]
          refine anyH_take (i := 16) (d := 133) (v := ?vc16) rfl rfl (by kernel_rfl) (by kernel_rfl) (by kernel_rfl) (fun _ _ _ h => h) (Or.inl ⟨by rfl, ?yc16⟩) Q3 ?rc16
          case yc16 => (intro w; go_simp; try with_reducible rfl)
          simp only [List.setIfInBounds_toArray, List.set_cons_zero, List.set_cons_succ]
          refine anyH_take (i := 17) (d := 134) (v := ?vc17) rfl rfl (by kernel_rfl) (by kernel_rfl) (by kernel_rfl) (fun _ _ _ h => h) (Or.inl ⟨by rfl, ?yc17⟩) Q3 ?rc17
          case yc17 => (intro w; go_simp; try with_reducible rfl)
          simp only [List.setIfInBounds_toArray, List.set_cons_zero, List.set_cons_succ]
          refine wpAnyH_take' (i := 18) (d := 135) (v := ?vc18) rfl rfl (by kernel_rfl) (by kernel_rfl) (by kernel_rfl) (fun _ _ _ h => h) (Or.inl ⟨by rfl, ?yc18⟩) Q3 ?rc18
          case yc18 => (intro w hSw; go_split_ands; go_simp; try with_reducible rfl)
          simp only [List.setIfInBounds_toArray, List.set_cons_zero, List.set_cons_succ]
          refine anyH_take (i := 19) (d := 136) (v := ?vc19) rfl rfl (by kernel_rfl) (by kernel_rfl) (by kernel_rfl) (fun _ _ _ h => h) (Or.inl ⟨by rfl, ?yc19⟩) Q3 ?rc19
          case yc19 => (intro w; go_simp; try with_reducible rfl)
          simp only [List.setIfInBounds_toArray, List.set_cons_zero, List.set_cons_succ]
          refine anyH_take (i := 20) (d := 137) (v := ?vc20) rfl rfl (by kernel_rfl) (by kernel_rfl) (by kernel_rfl) (fun _ _ _ h => h) (Or.inl ⟨by rfl, ?yc20⟩) Q3 ?rc20
          case yc20 => (intro w; go_simp; try with_reducible rfl)
          simp only [List.setIfInBounds_toArray, List.set_cons_zero, List.set_cons_succ]
          refine anyH_take (i := 21) (d := 138) (v := ?vc21) rfl rfl (by kernel_rfl) (by kernel_rfl) (by kernel_rfl) (fun _ _ _ h => h) (Or.inl ⟨by rfl, ?yc21⟩) Q3 ?rc21
          case yc21 => (intro w; go_simp; try with_reducible rfl)
          simp only [List.setIfInBounds_toArray, List.set_cons_zero, List.set_cons_succ]
          refine anyH_take (i := 22) (d := 139) (v := ?vc22) rfl rfl (by kernel_rfl) (by kernel_rfl) (by kernel_rfl) (fun _ _ _ h => h) (Or.inl ⟨by rfl, ?yc22⟩) Q3 ?rc22
          case yc22 => (intro w; go_simp; try with_reducible rfl)
          simp only [List.setIfInBounds_toArray, List.set_cons_zero, List.set_cons_succ]
          refine wpAnyH_take' (i := 23) (d := 140) (v := ?vc23) rfl rfl (by kernel_rfl) (by kernel_rfl) (by kernel_rfl) (fun _ _ _ h => h) (Or.inl ⟨by rfl, ?yc23⟩) Q3 ?rc23
          case yc23 => (intro w hSw; go_split_ands; go_simp; try with_reducible rfl)
          simp only [List.setIfInBounds_toArray, List.set_cons_zero, List.set_cons_succ]
          refine anyH_load (i := 24) (d := 141) rfl rfl (by kernel_rfl) (by kernel_rfl) (by kernel_rfl) (by rfl) 28 _ rfl w4.heap.size 0 rfl D _ (fun _ h => h.2.2) Try.underlying28 rfl hid (fun _ _ _ h => h) Q3 ?_
          simp only [List.setIfInBounds_toArray, List.set_cons_zero, List.set_cons_succ]
          refine anyH_one (i := 12) (by kernel_rfl) ?_
          refine wpOp_step rfl (fun K hK => ?_)
          go_simp
          refine (ku_check x.askF x.askT (dg x.d) D K9.out.1 (by omega) Hx.out.2.2.2.1 Hx.out.2.2.2.2.1 (dg_len _) HD.out.1).mono ?_
          rintro e w8 ⟨rfl, hk, ho⟩
          have Ka := Lib.hid (And.intro hk (And.intro (K9.out.2.1.ku K9.out.1 ho) (And.intro (K9.out.2.2.1.other K9.out.1 ho ⟨fun e => Hne.out.1 e.symm, fun e => Hne.out.2 e.symm⟩) (ho.blk K9.out.2.2.2 (ku_off K9.out.1 K9.out.2.2.2 (by decide))))))
          have Q4 : w8.cell? ⟨b, off + j * 7 + 5, none⟩ = some (.int .i64 x.askF) ∧ w8.cell? ⟨b, off + j * 7 + 6, none⟩ = some (.int .i64 x.askT) ∧ w8.rangeAt w4.heap.size 0 D := ⟨(Ka.out.1.bel.cell (p := ⟨b, off + j * 7 + 5, none⟩) Hc.out.2.2.2.2.2.2).trans Hc.out.2.2.2.2.1, (Ka.out.1.bel.cell (p := ⟨b, off + j * 7 + 6, none⟩) Hc.out.2.2.2.2.2.2).trans Hc.out.2.2.2.2.2.1, Ka.out.2.2.2.range⟩
          clear hk ho
          refine hK _ _ ⟨Q4, ?_⟩
          clear hK K
          refine anyH_one (i := 25) (by kernel_rfl) ?_
          refine wpOp_step rfl (fun K hK => ?_)
          go_simp
          refine (rcheck_any w w8 gr j _ _ x.askF x.askT (dg x.d) D Ka.out.2.1 HTl.out (by omega) (dg_len _) HD.out.1).mono ?_
          rintro e w9 ⟨rfl, hr9, ho'⟩
          have ho : Out (RefS gr v) w8 w9 := ho'.mono_ fun i hi => .inl hi
          have Kb := Lib.hid (And.intro (Ka.out.1.ref Ka.out.2.1 ho) (And.intro hr9 (And.intro (Ka.out.2.2.1.ref Ka.out.2.1 ho) (ho.blk Ka.out.2.2.2 (Ka.out.2.1.off Ka.out.2.2.2 (by decide) (by decide))))))
          have Q5 : w9.cell? ⟨b, off + j * 7 + 5, none⟩ = some (.int .i64 x.askF) ∧ w9.cell? ⟨b, off + j * 7 + 6, none⟩ = some (.int .i64 x.askT) ∧ w9.rangeAt w4.heap.size 0 D := ⟨(Kb.out.1.bel.cell (p := ⟨b, off + j * 7 + 5, none⟩) Hc.out.2.2.2.2.2.2).trans Hc.out.2.2.2.2.1, (Kb.out.1.bel.cell (p := ⟨b, off + j * 7 + 6, none⟩) Hc.out.2.2.2.2.2.2).trans Hc.out.2.2.2.2.2.1, Kb.out.2.2.2.range⟩
          clear hr9 ho ho'
          refine hK _ _ ⟨Q5, ?_⟩
          clear hK K
          refine anyH_take (i := 26) (d := 143) (v := ?vc26) rfl rfl (by kernel_rfl) (by kernel_rfl) (by kernel_rfl) (fun _ _ _ h => h) (Or.inl ⟨by rfl, ?yc26⟩) Q5 ?rc26
          case yc26 => (intro w; go_simp; try with_reducible rfl)
          simp only [List.setIfInBounds_toArray, List.set_cons_zero, List.set_cons_succ]
          refine anyH_take (i := 27) (d := 144) (v := ?vc27) rfl rfl (by kernel_rfl) (by kernel_rfl) (by kernel_rfl) (fun _ _ _ h => h) (Or.inl ⟨by rfl, ?yc27⟩) Q5 ?rc27
          case yc27 => (intro w; go_simp; try with_reducible rfl)
          simp only [List.setIfInBounds_toArray, List.set_cons_zero, List.set_cons_succ]
          refine anyH_take (i := 28) (d := 145) (v := ?vc28) rfl rfl (by kernel_rfl) (by kernel_rfl) (by kernel_rfl) (fun _ _ _ h => h) (Or.inl ⟨by rfl, ?yc28⟩) Q5 ?rc28
          case yc28 => (intro w; go_simp; try with_reducible rfl)
          simp only [List.setIfInBounds_toArray, List.set_cons_zero, List.set_cons_succ]
          refine anyH_take (i := 30) (d := 147) (v := ?vc30) rfl rfl (by kernel_rfl) (by kernel_rfl) (by kernel_rfl) (fun _ _ _ h => h) (Or.inl ⟨by rfl, ?yc30⟩) Q5 ?rc30
          case yc30 => (intro w; go_simp; try with_reducible rfl)
          simp only [List.setIfInBounds_toArray, List.set_cons_zero, List.set_cons_succ]
          refine anyH_one (i := 29) (by kernel_rfl) ?_
          refine wpOp_step rfl (fun K hK => ?_)
          go_simp
          refine (len_any ga ma _ _ _ Kb.out.1.1).mono ?_
          rintro e w' ⟨rfl, rfl⟩
          refine hK _ _ ⟨Q5, ?_⟩
          clear hK K
          refine anyH_one (i := 31) (by kernel_rfl) ?_
          refine wpOp_step rfl (fun K hK => ?_)
          go_simp
          refine (rlen_any w _ gr _ _ _ Kb.out.2.1 (by have := HTl.out; omega)).mono ?_
          rintro e w' ⟨rfl, rfl⟩
          refine hK _ _ ⟨Q5, ?_⟩
          clear hK K
          refine anyH_take (i := 32) (d := 149) (v := ?vc32) rfl rfl (by kernel_rfl) (by kernel_rfl) (by kernel_rfl) (fun _ _ _ h => h) (Or.inl ⟨by rfl, ?yc32⟩) Q5 ?rc32
          case yc32 => (intro w; go_simp; try with_reducible rfl)
          simp only [List.setIfInBounds_toArray, List.set_cons_zero, List.set_cons_succ]
          refine anyH_take (i := 33) (d := 150) (v := ?vc33) rfl rfl (by kernel_rfl) (by kernel_rfl) (by kernel_rfl) (fun _ _ _ h => h) (Or.inl ⟨by rfl, ?yc33⟩) Q5 ?rc33
          case yc33 => (intro w; go_simp; try with_reducible rfl)
          simp only [List.setIfInBounds_toArray, List.set_cons_zero, List.set_cons_succ]
          refine anyH_take (i := 34) (d := 151) (v := ?vc34) rfl rfl (by kernel_rfl) (by kernel_rfl) (by kernel_rfl) (fun _ _ _ h => h) (Or.inl ⟨by rfl, ?yc34⟩) Q5 ?rc34
          case yc34 => (intro w; go_simp; try with_reducible rfl)
          simp only [List.setIfInBounds_toArray, List.set_cons_zero, List.set_cons_succ]
          refine anyH_take (i := 35) (d := 152) (v := ?vc35) rfl rfl (by kernel_rfl) (by kernel_rfl) (by kernel_rfl) (fun _ _ _ h => h) (Or.inl ⟨by rfl, ?yc35⟩) Q5 ?rc35
          case yc35 => (intro w; go_simp; try with_reducible rfl)
          simp only [List.setIfInBounds_toArray, List.set_cons_zero, List.set_cons_succ]
          refine anyH_take (i := 37) (d := 154) (v := ?vc37) rfl rfl (by kernel_rfl) (by kernel_rfl) (by kernel_rfl) (fun _ _ _ h => h) (Or.inl ⟨by rfl, ?yc37⟩) Q5 ?rc37
          case yc37 => (intro w; go_simp; try with_reducible rfl)
          simp only [List.setIfInBounds_toArray, List.set_cons_zero, List.set_cons_succ]
          refine anyH_one (i := 36) (by kernel_rfl) ?_
          refine wpOp_step rfl (fun K hK => ?_)
          go_simp
          refine (asked_any ga ma _ _ _ Kb.out.1.1).mono ?_
          rintro e w' ⟨rfl, rfl⟩
          refine hK _ _ ⟨Q5, ?_⟩
          clear hK K
          refine anyH_one (i := 38) (by kernel_rfl) ?_
          refine wpOp_step rfl (fun K hK => ?_)
          go_simp
          refine (rasked_any w _ gr _ _ _ Kb.out.2.1).mono ?_
          rintro e w' ⟨rfl, rfl⟩
          refine hK _ _ ⟨Q5, ?_⟩
          clear hK K
          refine anyH_take (i := 39) (d := 156) (v := ?vc39) rfl rfl (by kernel_rfl) (by kernel_rfl) (by kernel_rfl) (fun _ _ _ h => h) (Or.inl ⟨by rfl, ?yc39⟩) Q5 ?rc39
          case yc39 => (intro w; go_simp; try with_reducible rfl)
          simp only [List.setIfInBounds_toArray, List.set_cons_zero, List.set_cons_succ]
          refine anyH_take (i := 40) (d := 157) (v := ?vc40) rfl rfl (by kernel_rfl) (by kernel_rfl) (by kernel_rfl) (fun _ _ _ h => h) (Or.inl ⟨by rfl, ?yc40⟩) Q5 ?rc40
          case yc40 => (intro w; go_simp; try with_reducible rfl)
          simp only [List.setIfInBounds_toArray, List.set_cons_zero, List.set_cons_succ]
          refine wpAnyH_done (by kernel_rfl) ?_ _
          have hl1 : T.length ≤ 34 * (j + 1) := by have := Kr.out.2.2.2.1; omega
          have hl2 : (tagL T2 1 0 (dg x.d)).length ≤ j + 1 := by have := tagL_len T2 1 0 (dg x.d); have := Kr.out.2.2.2.2; omega
          have Hl := Lib.hid (And.intro hl1 hl2)
          clear hl1 hl2 Q3 Q4 Q5 hid
          go_wp2
          go_roundw
          case rel => exact ⟨j + 1, _, _, _, by omega, by omega, by go_num, Hl.out.1, Hl.out.2, Kb.out.1, Kb.out.2.1, Kb.out.2.2.1⟩
          case measure => simp [intOf]; omega
      · have hi6 : ¬ (j : Int) < 100 := by omega
        have H3 := Lib.hid hKa.bel
        clear hKa hRr hKo
        go_wp2_with (go_at_call 20; refine (works4_any _).mono ?_; rintro e wz ⟨rfl, hbz⟩)
        go_ret
        exact ⟨rfl, H3.out.trans (hbz.mono H3.out.size)⟩
    · have hi1 : ¬ (j : Int) < nl := by omega
      have H3 := Lib.hid hKa.bel
      clear hKa hRr hKo
      go_wp2_with (go_at_call 20; refine (works4_any _).mono ?_; rintro e wz ⟨rfl, hbz⟩)
      go_ret
      exact ⟨rfl, H3.out.trans (hbz.mono H3.out.size)⟩

end Go.Proofs.Ytkmijmlcijbbcaa.tagDeeds
