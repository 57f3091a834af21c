/-
  For all puts l (60 at most are done) and all lists k of what stays: each sector is, behind a fall, as it was at the last flush, or as it was written last, as k tells; PlateStays returns true; no condition.
-/
import Derived.Test.YtmncfbkeepnaiaaOpen
import Derived.Test.YtmncfbkeepnaiaaStaysP
import Derived.Test.YtmncfbkeepnaiaaAwake
import Derived.Deep.RegionHeld3
import Derived.Deep.RegionWith
import Derived.Deep.DeepCutAuto
namespace Go.Proofs.Ytmncfbkeepnaiaa.plateStays
open Go.ChangeShapes Go.WideShapes Go.ChangeAt Go.RowKit
set_option linter.unusedVariables false

set_option maxRecDepth 100000 in
set_option maxHeartbeats 6400000 in
theorem walk (Al : Option Addr) (nl cl : Nat) (l : List PutL) (Ak : Option Addr) (nk ck : Nat) (k : List Bool) (w : World) (hl : ArgP w Al nl cl l) (hk : ArgK w Ak nk ck k) :
    Calls Try.prog 4 #[.slice Al nl cl, .slice Ak nk ck] w fun e w' => e = .returned (.bool true) ∧ Below w.heap.size w w' := by
  have hnot : ∀ (x : Bool) (w : World), (Op.unary .not (.bool x)).run Try.prog w = .ok (.bool (!x)) w := fun _ _ => rfl
  have hkc := hk.2.2.1
  unfold maxLen at hkc
  have hkn := hk.2.1
  have Hl := Lib.hid (And.intro hl hk)
  clear hl hk
  obtain ⟨s, hs⟩ : ∃ s, playL (l.take 60) (newP 8) = s := ⟨_, rfl⟩
  have hg := good_play (l.take 60)
  rw [hs] at hg
  have Hg := Lib.hid (And.intro hg hs)
  clear hg hs
  go_enter Try.func4, Try.ntmps4
  go_wp2_with fail
  refine (pk_new (w0 := w) 8 (by decide) (by decide) (Below.refl _ _)).mono ?_
  rintro e w1 ⟨g, r, m, rfl, q1, q2, q3, hkk, hb⟩
  have K1 := Lib.hid hkk
  clear hkk hb q1 q2 q3
  go_wp2_with fail
  refine (play_any K1.out Al nl cl l Hl.out.1).mono ?_
  rintro e w2 ⟨rfl, hkk, ho⟩
  rw [Hg.out.2] at hkk ⊢
  have K2 := Lib.hid hkk
  clear hkk ho K1
  obtain ⟨D, hD, hDl, hDa⟩ : ∃ D, cbs s.2.1 = D ∧ D.length = 8 ∧ D.toArray.all (·.oneCell') = true := ⟨_, rfl, by rw [cbs_length]; exact Hg.out.1.l1, cbs_all _⟩
  obtain ⟨E, hE, hEl, hEa⟩ : ∃ E, cbs s.2.2 = E ∧ E.length = 8 ∧ E.toArray.all (·.oneCell') = true := ⟨_, rfl, by rw [cbs_length]; exact Hg.out.1.l2, cbs_all _⟩
  rw [hD, hE]
  obtain ⟨wS, eS, t1, t2, i1, i2, B1, B2, bS⟩ := two8 w2 D E hDl hEl
  rw [← hD] at B1
  rw [← hE] at B2
  have hKM : ∀ i, GRM g r m i → i < w2.heap.size := fun i hi => K2.out.1.lt i hi
  have HS := Lib.hid (And.intro eS (And.intro t1 (And.intro t2 (And.intro i1 (And.intro i2 (And.intro (K2.out.below bS) (And.intro B1 (And.intro B2 hKM))))))))
  clear eS t1 t2 i1 i2 B1 B2 bS hD hE hDl hEl hKM K2
  go_wp2_with (first
    | (refine wpList_store_mid rfl 38 _ _ rfl w2.heap.size 0 D.toArray rfl rfl HS.out.2.1 HS.out.2.2.2.1 hDa ?_; simp only [Act.put])
    | (refine wpList_store_mid rfl 38 _ _ rfl (w2.heap.size + 1) 0 E.toArray rfl rfl HS.out.2.2.1 HS.out.2.2.2.2.1 hEa ?_; simp only [Act.put]; refine cast (congrArg (fun z => wpList _ _ _ _ _ z) HS.out.1.symm) ?_))
  refine (pk_waits HS.out.2.2.2.2.2.1 _ rfl).mono ?_
  rintro e w3 ⟨Aw, cw, rfl, hI, hb, hlow⟩
  have e1 : (zs s.1.wt).length = (wk s.1.wt).length := by simp [zs]
  obtain ⟨J, hJ⟩ : ∃ J, (zs s.1.wt).length = J := ⟨_, rfl⟩
  have hJ8 : J ≤ 8 := by have := wk_len s.1.wt; have := Hg.out.1.wt; omega
  rw [hJ] at hI ⊢
  have K3 := Lib.hid (And.intro (HS.out.2.2.2.2.2.1.below hb) (And.intro (HS.out.2.2.2.2.2.2.1.below hb HS.out.2.2.2.2.2.2.1.lt) (And.intro (HS.out.2.2.2.2.2.2.2.1.below hb HS.out.2.2.2.2.2.2.2.1.lt) (And.intro hI (And.intro hJ (And.intro hb (And.intro e1 hlow)))))))
  clear hI hb hlow hJ e1
  go_wp2_with fail
  refine (pk_crash K3.out.1 nk ck Hl.out.2.1 (Hl.out.2.koff K3.out.1.bel K3.out.1.2.1) 0 _ (fall_crash Hg.out.1 k).1 rfl).mono ?_
  rintro e w4 ⟨rfl, hkk, ho⟩
  have hsz := HS.out.2.2.2.2.2.1.bel.size
  have hM2 := HS.out.2.2.2.2.2.2.2.2
  have K4 := Lib.hid (And.intro hkk (And.intro (ho.blk K3.out.2.1 fun e => by have := hM2 _ e; omega) (And.intro (ho.blk K3.out.2.2.1 fun e => by have := hM2 _ e; omega) ho)))
  clear hkk ho hsz hM2
  go_wp2_with fail
  refine (pk_boot K4.out.1 (fall s k) (fall_crash Hg.out.1 k).2).mono ?_
  rintro e w5 ⟨rfl, hkk, ho⟩
  have hsz := HS.out.2.2.2.2.2.1.bel.size
  have hM2 := HS.out.2.2.2.2.2.2.2.2
  have K5 := Lib.hid (And.intro hkk (And.intro (ho.blk K4.out.2.1 fun e => by have := hM2 _ e; omega) (And.intro (ho.blk K4.out.2.2.1 fun e => by have := hM2 _ e; omega) (K4.out.2.2.2.trans ho fun i _ e => e))))
  have hM3 : ∀ i, GRM g r m i → i < w2.heap.size := hM2
  have HM3 := Lib.hid hM3
  have hz2 : w2.heap.size + 1 < w3.heap.size := K3.out.2.2.1.lt
  clear hkk ho hsz hM2 hM3 K4
  go_wp2
  go_loopw [10] (fun iv wr => ∃ j : Nat, j ≤ 8 ∧ iv = .int .i64 j ∧ Below w5.heap.size w5 wr) (fun iv _ => 8 - (intOf iv).toNat)
  case atStart => exact ⟨0, by omega, rfl, Below.refl _ _⟩
  case round =>
    obtain ⟨j, hj, rfl, hB⟩ := hrel
    have j0 : (0 : Int) ≤ j := by omega
    have Kr := Lib.hid (And.intro (K5.out.1.below hB) (And.intro (K5.out.2.1.below hB K5.out.2.1.lt) (And.intro (K5.out.2.2.1.below hB K5.out.2.2.1.lt) hB)))
    clear hB
    by_cases hlt : j < 8
    · have j1 : (j : Int) < 8 := by omega
      have c1 := Kr.out.2.1.byte (i := j) (by rw [Hg.out.1.l1]; exact hlt)
      have hei := fall_either Hg.out.1 k hlt
      obtain ⟨x, hx⟩ : ∃ x, s.2.1[j]?.getD 0 = x := ⟨_, rfl⟩
      obtain ⟨y, hy⟩ : ∃ y, s.2.2[j]?.getD 0 = y := ⟨_, rfl⟩
      rw [hx] at c1 hei
      rw [hy] at hei
      have Hy := Lib.hid hy
      clear hx hy
      cases hB1 : hasB (fall s k) (j : Int) x with
      | true =>
        have HB1 := Lib.hid hB1
        clear hB1 hei
        go_wp2_with fail
        refine (pk_has Kr.out.1 (j : Int) (wf_nat (by omega)) x true HB1.out).mono ?_
        rintro e w6 ⟨rfl, hb⟩
        have H6 := Lib.hid (Kr.out.2.2.2.trans (hb.mono Kr.out.2.2.2.size))
        clear hb
        go_wp2
        go_roundw
        case rel => exact ⟨j + 1, by omega, by go_num, H6.out⟩
        case measure => simp [intOf]; omega
      | false =>
        rw [hB1] at hei
        have hB2 : hasB (fall s k) (j : Int) y = true := by rcases hei with h | h; cases h; exact h
        have HB1 := Lib.hid (And.intro hB1 hB2)
        clear hB1 hei hB2
        go_wp2_with fail
        refine (pk_has Kr.out.1 (j : Int) (wf_nat (by omega)) x false HB1.out.1).mono ?_
        rintro e w6 ⟨rfl, hb⟩
        have c2 := (Kr.out.2.2.1.below hb Kr.out.2.2.1.lt).byte (i := j) (by rw [Hg.out.1.l2]; exact hlt)
        rw [Hy.out] at c2
        have H6 := Lib.hid (And.intro (Kr.out.2.2.2.trans (hb.mono Kr.out.2.2.2.size)) (Kr.out.1.below hb))
        clear hb
        go_wp2_with fail
        refine (pk_has H6.out.2 (j : Int) (wf_nat (by omega)) y true HB1.out.2).mono ?_
        rintro e w7 ⟨rfl, hb⟩
        have H7 := Lib.hid (H6.out.1.trans (hb.mono H6.out.1.size))
        clear hb
        go_wp2
        go_roundw
        case rel => exact ⟨j + 1, by omega, by go_num, H7.out⟩
        case measure => simp [intOf]; omega
    · have j1 : ¬ (j : Int) < 8 := by omega
      obtain ⟨wo, hwo⟩ : ∃ wo : World, wo = wr := ⟨_, rfl⟩
      have hwo2 := hwo
      subst hwo2
      have Ko := Lib.hid (And.intro Kr.out hwo)
      clear hwo Kr
      go_wp2
      go_loopw [11] (fun iv wx => ∃ q : Nat, q ≤ J ∧ iv = .int .i64 q ∧ Below wo.heap.size wo wx) (fun iv _ => J - (intOf iv).toNat)
      case atStart => exact ⟨0, Nat.zero_le _, rfl, Below.refl _ _⟩
      case round =>
        obtain ⟨q, hq, rfl, hB⟩ := hrel
        have q0 : (0 : Int) ≤ q := by omega
        have bo := Ko.out.1.2.2.2
        have b5 : Below w5.heap.size w5 wr := bo.trans (hB.mono bo.size)
        have hOw : Out (GRM g r m) w3 wr := (K5.out.2.2.2).then_below b5
        have hz := K5.out.2.2.2.size
        by_cases hlt : q < J
        · have q1 : (q : Int) < J := by omega
          obtain ⟨i, hwi⟩ : ∃ i, (wk s.1.wt)[q]? = some i := ⟨_, List.getElem?_eq_getElem (by have := K3.out.2.2.2.2.1; have := K3.out.2.2.2.2.2.2.1; omega)⟩
          obtain ⟨hi8, hhas⟩ := fall_wait Hg.out.1 k hwi
          obtain ⟨bw, ow, u, rfl, hbw, hu, hcu⟩ := K3.out.2.2.2.1.2.2.2.at_ hlt
          have hu2 : u = .int .i64 (i : Int) := by
            unfold zs at hu
            rw [List.getElem?_map, List.getElem?_map, hwi] at hu
            simpa using hu.symm
          subst hu2
          have hcu' : wr.cell? ⟨bw, ow + q, none⟩ = some (.int .i64 (i : Int)) := by
            have hge := K3.out.2.2.2.2.2.2.2 bw ow (by have := K3.out.2.2.2.2.1; omega) rfl
            have hzS := HS.out.2.2.2.2.2.2.2.1.lt
            rw [World.cell?_of_block (hOw.block bw hbw fun e => by have := HM3.out _ e; omega)]
            exact hcu
          have hP := K5.out.1.below b5
          have hbr := bringN_any (i : Int) 8 wr (by decide) (by decide) (wf_nat (by omega))
          rw [show (i : Int) % 8 = (i : Int) by omega] at hbr
          have Hbr := Lib.hid hbr
          have c1 := (K5.out.2.1.below b5 K5.out.2.1.lt).byte (i := i) (by rw [Hg.out.1.l1]; exact hi8)
          have c2 := (K5.out.2.2.1.below b5 K5.out.2.2.1.lt).byte (i := i) (by rw [Hg.out.1.l2]; exact hi8)
          have i0 : (0 : Int) ≤ i := by omega
          have i8 : (i : Int) < 8 := by omega
          obtain ⟨x, hx⟩ : ∃ x, s.2.1[i]?.getD 0 = x := ⟨_, rfl⟩
          obtain ⟨y, hy⟩ : ∃ y, s.2.2[i]?.getD 0 = y := ⟨_, rfl⟩
          rw [hx] at c1 hhas
          rw [hy] at c2 hhas
          have Hr := Lib.hid (And.intro hP hB)
          have hend : ∀ wz, Below wr.heap.size wr wz → ∃ q' : Nat, q' ≤ J ∧ Value.int .i64 ((q : Int) + 1) = .int .i64 q' ∧ Below wo.heap.size wo wz := fun wz h => ⟨q + 1, by omega, by go_num, Hr.out.2.trans (h.mono Hr.out.2.size)⟩
          have Hend := Lib.hid hend
          clear hx hy hbr hP hB hOw hz hu hcu hend bo hwi
          by_cases hqn : q < nk
          · have q2 : (q : Int) < nk := by omega
            have hql : q < k.length := by rw [Hl.out.2.1]; exact hqn
            obtain ⟨bk', ok', uk, rfl, hbk, huk, hck⟩ := Hl.out.2.2.2.2.at_ hqn
            have hck' : wr.cell? ⟨bk', ok' + q, none⟩ = some (.bool k[q]) := by
              have e1 : uk = .bool k[q] := by
                rw [cbls_get, List.getElem?_eq_getElem hql] at huk
                simpa using huk.symm
              rw [← e1]
              exact (Hr.out.1.bel.cell (p := ⟨bk', ok' + q, none⟩) hbk).trans hck
            have hkf : keepF k q = k[q] := by unfold keepF; rw [List.getElem?_eq_getElem hql]; rfl
            rw [hkf] at hhas
            clear huk hck hbk hkf
            cases hkq : k[q] with
            | true =>
              rw [hkq, if_pos rfl] at hhas
              rw [hkq] at hck'
              have Hhas := Lib.hid hhas
              clear hhas hkq hql
              go_wp2_with fail
              refine Hbr.out.mono ?_
              rintro e w' ⟨rfl, hw⟩
              obtain rfl : wr = w' := hw.symm
              go_wp2_with fail
              refine Hbr.out.mono ?_
              rintro e w' ⟨rfl, hw⟩
              obtain rfl : wr = w' := hw.symm
              go_wp2_with fail
              refine (pk_has Hr.out.1 (i : Int) (wf_nat (by omega)) y true Hhas.out).mono ?_
              rintro e w6 ⟨rfl, hb⟩
              have H6 := Lib.hid hb
              clear hb
              go_wp2
              go_roundw
              case rel => exact Hend.out _ H6.out
              case measure => simp [intOf]; omega
            | false =>
              rw [hkq, if_neg (by decide)] at hhas
              rw [hkq] at hck'
              have Hhas := Lib.hid hhas
              clear hhas hkq hql
              go_wp2_with fail
              refine Hbr.out.mono ?_
              rintro e w' ⟨rfl, hw⟩
              obtain rfl : wr = w' := hw.symm
              go_wp2_with fail
              refine (pk_has Hr.out.1 (i : Int) (wf_nat (by omega)) x true Hhas.out).mono ?_
              rintro e w6 ⟨rfl, hb⟩
              have H6 := Lib.hid hb
              clear hb
              go_wp2
              go_roundw
              case rel => exact Hend.out _ H6.out
              case measure => simp [intOf]; omega
          · have q2 : ¬ (q : Int) < nk := by omega
            have hkf : keepF k q = false := by unfold keepF; rw [List.getElem?_eq_none (by have := Hl.out.2.1; omega)]; rfl
            rw [hkf, if_neg (by decide)] at hhas
            have Hhas := Lib.hid hhas
            clear hhas hkf
            go_wp2_with fail
            refine Hbr.out.mono ?_
            rintro e w' ⟨rfl, hw⟩
            obtain rfl : wr = w' := hw.symm
            go_wp2_with fail
            refine (pk_has Hr.out.1 (i : Int) (wf_nat (by omega)) x true Hhas.out).mono ?_
            rintro e w6 ⟨rfl, hb⟩
            have H6 := Lib.hid hb
            clear hb
            go_wp2
            go_roundw
            case rel => exact Hend.out _ H6.out
            case measure => simp [intOf]; omega
        · have q1 : ¬ (q : Int) < J := by omega
          have Hb := Lib.hid ((K5.out.1.below b5).bel)
          clear hB hOw hz bo b5
          go_wp2_with (go_at_call 12; refine (awake_any _).mono ?_; rintro e w9 ⟨rfl, hb9⟩)
          go_ret
          exact ⟨rfl, Hb.out.trans (hb9.mono Hb.out.size)⟩

end Go.Proofs.Ytmncfbkeepnaiaa.plateStays
