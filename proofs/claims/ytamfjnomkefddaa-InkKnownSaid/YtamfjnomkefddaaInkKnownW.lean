/-
  The chapter's limits: InkKnown, which has no arguments, returns true; no condition.
-/
import Derived.Test.YtamfjnomkefddaaOpen
import Derived.Test.YtamfjnomkefddaaNone3
import Derived.Test.YtamfjnomkefddaaAnyOrderH
import Derived.Deep.RegionHeld3
import Derived.Deep.RegionWith
import Derived.Deep.DeepCutAuto
namespace Go.Proofs.Ytamfjnomkefddaa.inkKnown
open Go.ChangeShapes Go.WideShapes Go.ChangeAt Go.RowKit
set_option linter.unusedVariables false

set_option maxRecDepth 100000 in
set_option maxHeartbeats 3200000 in
theorem walk  (w : World)  :
    Calls Try.prog 9 #[] w fun e w' => e = .returned (.bool true) ∧ Below w.heap.size w w' := by
  obtain ⟨x1, Z1, hl1, hmk1', hBz1⟩ := made_bytes 65537 (by decide)
  obtain ⟨x2, Z2, hl2, hmk2', hBz2⟩ := made_bytes 65536 (by decide)
  have hmk1 : ∀ w, (Instr.makeSlice 32 (.int .i64 65537) (.int .i64 65537)).run Try.prog w = .ok (.slice (some ⟨w.heap.size, 0, none⟩) 65537 65537) (w.alloc (.cells Z1 5)) := hmk1'
  have hmk2 : ∀ w, (Instr.makeSlice 32 (.int .i64 65536) (.int .i64 65536)).run Try.prog w = .ok (.slice (some ⟨w.heap.size, 0, none⟩) 65536 65536) (w.alloc (.cells Z2 5)) := hmk2'
  have e1 : ofE x1 = 5 := if_neg (by rw [hl1]; decide)
  have e2 : ofE x2 = 0 := if_pos (by rw [hl2]; decide)
  have st1 : stepL (runL []) x1 = runL [] := ofL_long (by rw [hl1]; decide)
  have st2 : stepL (runL []) x2 = ([x2], digest x2 == List.replicate 32 0, 1) := one_noted x2 (by rw [hl2]; decide)
  have hZe := fun w => eq_digests w (List.replicate 32 0) (List.replicate 32 0) rfl rfl
  obtain ⟨D1, hDa, hDb, hDc⟩ := dig_cells x1
  obtain ⟨D2, hDd, hDe, hDf⟩ := dig_cells x2
  have HD1 := Lib.hid (And.intro hDa (And.intro hDb hDc))
  have HD2 := Lib.hid (And.intro hDd (And.intro hDe hDf))
  have Hl := Lib.hid (And.intro hl1 (And.intro hl2 (And.intro hBz1 (And.intro hBz2 (And.intro e1 (And.intro e2 (And.intro st1 st2)))))))
  clear hmk1' hmk2' hDa hDb hDc hDd hDe hDf hl1 hl2 hBz1 hBz2 e1 e2 st1 st2
  go_enter Try.func9, Try.ntmps9
  go_wp2_with fail
  refine (bnew_any _).mono ?_
  rintro e w1 ⟨S1, g, rfl, hS1, hk1, hb1⟩
  have hk0 : BkS w w1 g (runL []) [] := bks_new (Below.refl _ _) hS1 hk1 hb1
  have H1 := Lib.hid hk0
  clear hS1 hk1 hb1 hk0
  go_wp2_with fail
  have ha1 : Below w1.heap.size w1 (w1.alloc (.cells Z1 5)) := (Below.refl _ _).alloc (Nat.le_refl _) _
  have hof := bks_of' (H1.out.below ha1) (by decide) (by decide) (some ⟨w1.heap.size, 0, none⟩) 65537 65537 x1 (Hl.out.2.2.1 w1) Hl.out.1 (by decide) (by decide)
  rw [HD1.out.2.1, Hl.out.2.2.2.2.1, Hl.out.2.2.2.2.2.2.1] at hof
  have Hof := Lib.hid hof
  clear hof ha1
  refine Hof.out.mono ?_
  rintro e w2 ⟨rfl, hk2⟩
  clear Hof
  obtain ⟨wS, hwS, hthi, hdS, hbS, hzS⟩ := dig_local w2 D1 HD1.out.1
  have HwS := Lib.hid hwS
  have Hthi := Lib.hid hthi
  have Hk2 := Lib.hid (hk2.below hbS)
  clear hk2 hwS hthi hdS hbS hzS
  go_wp2_with (refine wpList_store_mid rfl 28 _ _ rfl w2.heap.size 0 D1.toArray rfl rfl Hthi.out.1 Hthi.out.2 HD1.out.2.2 ?_; simp only [Act.put]; refine cast (congrArg (fun z => wpList _ _ _ _ _ z) HwS.out.symm) ?_)
  have ha2 : Below wS.heap.size wS (wS.alloc (.cells Z2 5)) := (Below.refl _ _).alloc (Nat.le_refl _) _
  have hof := bks_of' (Hk2.out.below ha2) (by decide) (by decide) (some ⟨wS.heap.size, 0, none⟩) 65536 65536 x2 (Hl.out.2.2.2.1 wS) Hl.out.2.1 (by decide) (by decide)
  rw [HD2.out.2.1, Hl.out.2.2.2.2.2.1, Hl.out.2.2.2.2.2.2.2] at hof
  have Hof := Lib.hid hof
  clear hof ha2
  refine Hof.out.mono ?_
  rintro e w3 ⟨rfl, hk3⟩
  clear Hof
  obtain ⟨wT, hwT, hthi, hdS, hbS, hzS⟩ := dig_local w3 D2 HD2.out.1
  have HwT := Lib.hid hwT
  have HthiT := Lib.hid hthi
  have Hk3 := Lib.hid (hk3.below hbS)
  clear hk3 hwT hthi hdS hbS hzS
  go_wp2_with (refine wpList_store_mid rfl 28 _ _ rfl w3.heap.size 0 D2.toArray rfl rfl HthiT.out.1 HthiT.out.2 HD2.out.2.2 ?_; simp only [Act.put]; refine cast (congrArg (fun z => wpList _ _ _ _ _ z) HwT.out.symm) ?_)
  obtain ⟨DZ, hZ32, hZv, hZ1⟩ : ∃ D : List Value, D.length = 32 ∧ cbs (List.replicate 32 0) = D ∧ D.toArray.all (·.oneCell') = true := ⟨cbs (List.replicate 32 0), rfl, rfl, cbs_one' _⟩
  have hzz := eq_zz DZ hZv
  have HZ := Lib.hid (And.intro hZ32 (And.intro hZv hZ1))
  clear hZ32 hZv hZ1 hZe hmk1 hmk2
  obtain ⟨s2, hs2⟩ : ∃ s, (([x2], digest x2 == List.replicate 32 0, 1) : List (List UInt8) × Bool × Nat) = s := ⟨_, rfl⟩
  have hs21 : s2.1.length = 1 := by rw [← hs2]; rfl
  have hs22 : s2.2.2 = 1 := by rw [← hs2]
  have hk3 := Hk3.out
  rw [hs2] at hk3
  have Hk := Lib.hid hk3
  clear hs2 hk3 Hk3
  go_loopw [6, 7] (fun v i wr => ∃ j : Nat, j ≤ 2 ∧ i = .int .i64 j ∧ NoBook wr v ∧ BkS w wr g s2 []) (fun _ i _ => 2 - (intOf i).toNat)
  case atStart => exact ⟨0, by decide, rfl, .inl rfl, Hk.out⟩
  case round =>
    obtain ⟨j, hj, rfl, hno, hbk⟩ := hrel
    have hj0 : (0 : Int) ≤ j := by omega
    have hj2 : (j : Int) ≤ 2 := by omega
    by_cases hlt : j < 2
    · have hi2 : (j : Int) < 2 := by omega
      have ha : Below wr.heap.size wr (wr.alloc (.cells #[.int .u8 1] 5)) := (Below.refl _ _).alloc (Nat.le_refl _) _
      have hof := bof_none u6 (some ⟨wr.heap.size, 0, none⟩) 1 1 _ (hno.below ha)
      rw [HZ.out.2.1] at hof
      have Hof := Lib.hid hof
      have Hno := Lib.hid (hno.below ha)
      have Hbk := Lib.hid (hbk.below ha)
      clear hof hno hbk ha
      go_wp2_with fail
      refine Hof.out.mono ?_
      rintro e w4 ⟨rfl, hb4⟩
      obtain ⟨wU, hwU, hthi, hdS, hbS, hzS⟩ := dig_local w4 DZ HZ.out.1
      have HwU := Lib.hid hwU
      have HthiU := Lib.hid hthi
      have hnoU := (Hno.out.below hb4).below hbS
      have HdU := Lib.hid hdS
      have Hbk' := Lib.hid ((Hbk.out.below hb4).below hbS)
      have Hcl := Lib.hid (bclash_none u6 wU hnoU)
      have Hle := Lib.hid (blen_none u6 wU hnoU)
      have Has := Lib.hid (basked_none u6 wU hnoU)
      clear Hof Hno Hbk hb4 hwU hthi hdS hbS hzS hnoU
      go_wp2_with (first
        | (refine wpList_store_mid rfl 28 _ _ rfl w4.heap.size 0 DZ.toArray rfl rfl HthiU.out.1 HthiU.out.2 HZ.out.2.2 ?_; simp only [Act.put]; refine cast (congrArg (fun z => wpList _ _ _ _ _ z) HwU.out.symm) ?_)
        | (refine wpList_load_row rfl 28 _ rfl w4.heap.size rfl 28 DZ.toArray (0, 0) _ HdU.out Try.underlying28 rfl HthiU.out.2 ?_)
        | (go_at_call 20; refine Hle.out.mono ?_; rintro e w' ⟨rfl, rfl⟩)
        | (go_at_call 22; refine Has.out.mono ?_; rintro e w' ⟨rfl, rfl⟩)
        | (go_at_call 24; refine Hcl.out.mono ?_; rintro e w' ⟨rfl, rfl⟩))
      go_roundw
      case rel => exact ⟨j + 1, by omega, by go_num, NoBook.made rfl rfl, Hbk'.out.below ((Below.refl _ _).alloc (Nat.le_refl _) _)⟩
      case measure => simp [intOf]; omega
    · have hi2 : ¬ (j : Int) < 2 := by omega
      have Hbk := Lib.hid hbk
      clear hbk hno
      go_wp2_with (go_at_call 26; refine (works3_any _).mono ?_; rintro e w5 ⟨rfl, hb5⟩)
      have hbk5 := Hbk.out.below hb5
      have hle := bks_len hbk5
      have has := bks_asked hbk5 (by omega)
      rw [hs21] at hle
      rw [hs22] at has
      have Hle := Lib.hid hle
      have Has := Lib.hid has
      have Hb5 := Lib.hid hbk5.bel
      clear hle has hbk5 hb5
      go_wp2_with (first
        | (go_at_call 20; refine Hle.out.mono ?_; rintro e w' ⟨rfl, rfl⟩)
        | (go_at_call 22; refine Has.out.mono ?_; rintro e w' ⟨rfl, rfl⟩))
      go_ret
      exact ⟨rfl, Hb5.out⟩

end Go.Proofs.Ytamfjnomkefddaa.inkKnown
