/-
  For all puts l (60 at most are done): if all that waits stays, all is as it was seen; if nothing does, all is as at the last flush; PlateAll returns true; no condition.
-/
import Derived.Test.YtmncfbkeepnaiaaOpen
import Derived.Test.YtmncfbkeepnaiaaStaysP
import Derived.Test.YtmncfbkeepnaiaaAwake
import Derived.Deep.RegionHeld3
import Derived.Deep.RegionWith
import Derived.Deep.DeepCutAuto
namespace Go.Proofs.Ytmncfbkeepnaiaa.plateAll
open Go.ChangeShapes Go.WideShapes Go.ChangeAt Go.RowKit
set_option linter.unusedVariables false

set_option maxRecDepth 100000 in
set_option maxHeartbeats 6400000 in
theorem walk (Al : Option Addr) (nl cl : Nat) (l : List PutL) (w : World) (hl : ArgP w Al nl cl l) :
    Calls Try.prog 5 #[.slice Al nl cl] w fun e w' => e = .returned (.bool true) ∧ Below w.heap.size w w' := by
  have hnot : ∀ (x : Bool) (w : World), (Op.unary .not (.bool x)).run Try.prog w = .ok (.bool (!x)) w := fun _ _ => rfl
  have Hl := Lib.hid hl
  clear hl
  obtain ⟨s, hs⟩ : ∃ s, playL (l.take 60) (newP 8) = s := ⟨_, rfl⟩
  have hg := good_play (l.take 60)
  rw [hs] at hg
  have Hg := Lib.hid (And.intro hg hs)
  clear hg hs
  go_enter Try.func5, Try.ntmps5
  go_wp2_with fail
  refine (pk_new (w0 := w) 8 (by decide) (by decide) (Below.refl _ _)).mono ?_
  rintro e w1 ⟨g, r, m, rfl, q1, q2, q3, hka, hb⟩
  have K1 := Lib.hid hka
  clear hka hb q1 q2 q3
  go_wp2_with fail
  refine (pk_new (w0 := w) 8 (by decide) (by decide) K1.out.bel).mono ?_
  rintro e w2 ⟨g', r', m', rfl, q1, q2, q3, hkb, hb⟩
  obtain ⟨M, hM⟩ : ∃ M : Nat → Prop, M = fun i => GRM g r m i ∨ GRM g' r' m' i := ⟨_, rfl⟩
  have hMa : ∀ i, GRM g r m i → M i := fun i e => by rw [hM]; exact .inl e
  have hMb : ∀ i, GRM g' r' m' i → M i := fun i e => by rw [hM]; exact .inr e
  have hd : ∀ i, GRM g r m i → ¬ GRM g' r' m' i := fun i e e' => by
    have h1 := K1.out.1.lt i e
    rcases e' with rfl | rfl | rfl <;> omega
  have hd' : ∀ i, GRM g' r' m' i → ¬ GRM g r m i := fun i e e' => hd i e' e
  have hka : Pk w w2 M g r m (newP 8) := K1.out.grow hb hMa fun i hi => by
    rw [hM] at hi
    rcases hi with hi | hi
    · exact .inl hi
    · refine .inr ⟨?_, hkb.1.lt i hi⟩
      rcases hi with rfl | rfl | rfl <;> omega
  have hkb' : Pk w w2 M g' r' m' (newP 8) := by
    refine ⟨hkb.1.widen rfl hMb fun i hi => hka.1.lt i hi, hka.2.1, hkb.2.2⟩
  have HM := Lib.hid (And.intro hMa (And.intro hMb (And.intro hd hd')))
  have K2 := Lib.hid (And.intro hka hkb')
  clear hka hkb hkb' hb q1 q2 q3 hM hMa hMb hd hd' K1
  go_wp2_with fail
  refine (play_any K2.out.1 Al nl cl l Hl.out).mono ?_
  rintro e w3 ⟨rfl, hkk, ho⟩
  rw [Hg.out.2] at hkk ⊢
  have K3 := Lib.hid (And.intro hkk (K2.out.2.other ho HM.out.1 HM.out.2.2.2))
  clear hkk ho K2
  obtain ⟨D, hD, hDl, hDa⟩ : ∃ D, cbs s.2.1 = D ∧ D.length = 8 ∧ D.toArray.all (·.oneCell') = true := ⟨_, rfl, by rw [cbs_length]; exact Hg.out.1.l1, cbs_all _⟩
  obtain ⟨E, hE, hEl, hEa⟩ : ∃ E, cbs s.2.2 = E ∧ E.length = 8 ∧ E.toArray.all (·.oneCell') = true := ⟨_, rfl, by rw [cbs_length]; exact Hg.out.1.l2, cbs_all _⟩
  rw [hD, hE]
  obtain ⟨wS, eS, t1, t2, i1, i2, B1, B2, bS⟩ := two8 w3 D E hDl hEl
  rw [← hD] at B1
  rw [← hE] at B2
  have hKM : ∀ i, M i → i < w3.heap.size := fun i hi => K3.out.1.1.lt i hi
  have HS := Lib.hid (And.intro eS (And.intro t1 (And.intro t2 (And.intro i1 (And.intro i2 (And.intro (And.intro (K3.out.1.below bS) (K3.out.2.below bS)) (And.intro B1 (And.intro B2 hKM))))))))
  clear eS t1 t2 i1 i2 B1 B2 bS hD hE hDl hEl hKM K3
  go_wp2_with (first
    | (refine wpList_store_mid rfl 38 _ _ rfl w3.heap.size 0 D.toArray rfl rfl HS.out.2.1 HS.out.2.2.2.1 hDa ?_; simp only [Act.put])
    | (refine wpList_store_mid rfl 38 _ _ rfl (w3.heap.size + 1) 0 E.toArray rfl rfl HS.out.2.2.1 HS.out.2.2.2.2.1 hEa ?_; simp only [Act.put]; refine cast (congrArg (fun z => wpList _ _ _ _ _ z) HS.out.1.symm) ?_))
  refine (play_any HS.out.2.2.2.2.2.1.2 Al nl cl l Hl.out).mono ?_
  rintro e w4 ⟨rfl, hkk, ho⟩
  rw [Hg.out.2] at hkk ⊢
  have K4 := Lib.hid (And.intro (HS.out.2.2.2.2.2.1.1.other ho HM.out.2.1 HM.out.2.2.1) (And.intro hkk (ho.mono_ HM.out.2.1)))
  clear hkk ho
  have hal : Below w4.heap.size w4 (w4.alloc (.cells (cbls (List.replicate 8 true)).toArray 4)) := (Below.refl _ _).alloc (Nat.le_refl _) _
  have HL := Lib.hid (And.intro (And.intro (K4.out.1.below hal) (K4.out.2.1.below hal)) (And.intro (KOff.made w4 M 4 (cbls (List.replicate 8 true)).toArray (List.replicate 8 true) 8 rfl rfl (by decide) K4.out.1.1.lt) (K4.out.2.2.then_below hal)))
  clear hal K4
  go_wp2_with fail
  refine (pk_crash (k := List.replicate 8 true) HL.out.1.1 8 8 rfl HL.out.2.1 0 _ (fall_crash Hg.out.1 _).1 rfl).mono ?_
  rintro e w5 ⟨rfl, hkk, ho⟩
  have K5 := Lib.hid (And.intro hkk (And.intro (HL.out.1.2.other ho HM.out.1 HM.out.2.2.2) (HL.out.2.2.trans ho fun i _ e => HM.out.1 i e)))
  clear hkk ho HL
  go_wp2_with fail
  refine (pk_crash (k := []) K5.out.2.1 0 0 rfl (KOff.nil _ _) 0 _ (fall_crash Hg.out.1 _).1 rfl).mono ?_
  rintro e w6 ⟨rfl, hkk, ho⟩
  have K6 := Lib.hid (And.intro (K5.out.1.other ho HM.out.2.1 HM.out.2.2.1) (And.intro hkk (K5.out.2.2.trans ho fun i _ e => HM.out.2.1 i e)))
  clear hkk ho K5
  go_wp2_with fail
  refine (pk_boot K6.out.1 (fall s (List.replicate 8 true)) (fall_crash Hg.out.1 _).2).mono ?_
  rintro e w7 ⟨rfl, hkk, ho⟩
  have K7 := Lib.hid (And.intro hkk (And.intro (K6.out.2.1.other ho HM.out.1 HM.out.2.2.2) (K6.out.2.2.trans ho fun i _ e => HM.out.1 i e)))
  clear hkk ho K6
  go_wp2_with fail
  refine (pk_boot K7.out.2.1 (fall s []) (fall_crash Hg.out.1 _).2).mono ?_
  rintro e w8 ⟨rfl, hkk, ho⟩
  have hO8 : Out M wS w8 := K7.out.2.2.trans ho fun i _ e => HM.out.2.1 i e
  have b1 := hO8.blk HS.out.2.2.2.2.2.2.1 (fun e => by have := HS.out.2.2.2.2.2.2.2.2 _ e; omega)
  have b2 := hO8.blk HS.out.2.2.2.2.2.2.2.1 (fun e => by have := HS.out.2.2.2.2.2.2.2.2 _ e; omega)
  have K8 := Lib.hid (And.intro (K7.out.1.other ho HM.out.2.1 HM.out.2.2.1) (And.intro hkk (And.intro b1 b2)))
  clear hkk ho K7 hO8 b1 b2
  go_wp2
  go_loopw [9] (fun iv wr => ∃ j : Nat, j ≤ 8 ∧ iv = .int .i64 j ∧ Below w8.heap.size w8 wr) (fun iv _ => 8 - (intOf iv).toNat)
  case atStart => exact ⟨0, by omega, rfl, Below.refl _ _⟩
  case round =>
    obtain ⟨j, hj, rfl, hB⟩ := hrel
    have j0 : (0 : Int) ≤ j := by omega
    have Kr := Lib.hid (And.intro (K8.out.1.below hB) (And.intro (K8.out.2.1.below hB) (And.intro (K8.out.2.2.1.below hB K8.out.2.2.1.lt) (And.intro (K8.out.2.2.2.below hB K8.out.2.2.2.lt) hB))))
    clear hB
    by_cases hlt : j < 8
    · have j1 : (j : Int) < 8 := by omega
      have c2 := Kr.out.2.2.2.1.byte (i := j) (by rw [Hg.out.1.l2]; exact hlt)
      have hh1 := fall_all Hg.out.1 hlt
      have hh2 := fall_nothing Hg.out.1 hlt
      obtain ⟨x, hx⟩ : ∃ x, s.2.1[j]?.getD 0 = x := ⟨_, rfl⟩
      obtain ⟨y, hy⟩ : ∃ y, s.2.2[j]?.getD 0 = y := ⟨_, rfl⟩
      rw [hy] at c2 hh1
      rw [hx] at hh2
      have Hh := Lib.hid (And.intro hh1 (And.intro hh2 hx))
      clear hh1 hh2 hx hy
      go_wp2_with fail
      refine (pk_has Kr.out.1 (j : Int) (wf_nat (by omega)) y true Hh.out.1).mono ?_
      rintro e w9 ⟨rfl, hb⟩
      have c1 := (Kr.out.2.2.1.below hb Kr.out.2.2.1.lt).byte (i := j) (by rw [Hg.out.1.l1]; exact hlt)
      rw [Hh.out.2.2] at c1
      have K9 := Lib.hid (And.intro (Kr.out.2.1.below hb) (Kr.out.2.2.2.2.trans (hb.mono Kr.out.2.2.2.2.size)))
      clear hb
      go_wp2_with fail
      refine (pk_has K9.out.1 (j : Int) (wf_nat (by omega)) x true Hh.out.2.1).mono ?_
      rintro e w10 ⟨rfl, hb⟩
      have H10 := Lib.hid (K9.out.2.trans (hb.mono K9.out.2.size))
      clear hb
      go_wp2
      go_roundw
      case rel => exact ⟨j + 1, by omega, by go_num, H10.out⟩
      case measure => simp [intOf]; omega
    · have j1 : ¬ (j : Int) < 8 := by omega
      go_wp2_with fail
      refine (pk_waits Kr.out.1 [] (fall_waits s _)).mono ?_
      rintro e w9 ⟨Aw, cw, rfl, hI, hb, _⟩
      have K9 := Lib.hid (Kr.out.2.1.below hb)
      clear hI hb Kr
      go_wp2_with fail
      refine (pk_waits K9.out [] (fall_waits s _)).mono ?_
      rintro e w10 ⟨Ax, cx, rfl, hI, hb, _⟩
      have H10 := Lib.hid (K9.out.below hb).bel
      clear hI hb K9
      go_wp2_with (go_at_call 12; refine (awake_any _).mono ?_; rintro e w11 ⟨rfl, hb11⟩)
      go_ret
      exact ⟨rfl, H10.out.trans (hb11.mono H10.out.size)⟩

end Go.Proofs.Ytmncfbkeepnaiaa.plateAll
