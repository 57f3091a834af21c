/-
  For all digests, children and bytes: Fits and LeafFits answer as the document's do; ProofFits returns true; no condition.
-/
import Derived.Test.YtcamgldilknanaaGreatZ01
import Derived.Test.YtcamgldilknanaaGreatZ19
import Derived.Test.YtcamgldilknanaaGreatZ15
import Derived.Test.YtcamgldilknanaaGreatZ13
import Derived.Deep.RegionHeld3
import Derived.Deep.RegionWith
import Derived.Deep.DeepCutAuto
namespace Go.Proofs.YtcamgldilknanaaGreat.proofFits
open Go.ChangeShapes Go.WideShapes Go.ChangeAt Go.RowKit
set_option linter.unusedVariables false

set_option maxRecDepth 100000 in
set_option maxHeartbeats 6400000 in
theorem walk (d : Dg) (Ach : Option Addr) (nch cch : Nat) (ch : List Dg) (Ax : Option Addr) (nx cx : Nat) (x : List UInt8) (w : World) (hd : d.length = 32) (hch : ArgG w Ach nch cch ch) (hx : ArgB w Ax nx cx x) :
    Calls Tryz.prog 5 #[.agg (cbs d).toArray, .slice Ach nch cch, .slice Ax nx cx] w fun e w' => e = .returned (.bool true) ∧ Below w.heap.size w w' := by
  obtain ⟨c1, s1, hs1, hs1', hF1, hR1⟩ := duo_fits d hd ch nch hch.1 hch.2.2.2.1 ([], false, 0) (by decide) (by decide)
  obtain ⟨c2, s2, hs2, hs2', hF2, hR2⟩ := duo_leaffits d hd x nx hx.1 s1 (by simp at hs1; omega) (by simp at hs1'; omega)
  obtain ⟨D, hD⟩ : ∃ D, cbs d = D := ⟨_, rfl⟩
  have hD32 : D.length = 32 := by rw [← hD, cbs_length, hd]
  have hDi : (Tryz.prog.info? 42).map (·.size) = some D.length := by rw [hD32]; exact info32b
  simp only [hD] at hF1 hR1 hF2 hR2
  rw [hD]
  have hbA : Below w.heap.size w (w.alloc (.cells D.toArray 42)) := (Below.refl _ _).alloc (Nat.le_refl _) _
  have hrA : Blk (w.alloc (.cells D.toArray 42)) w.heap.size 42 D := Blk.new rfl rfl
  have hst : ∀ (w1 w2 : World) (s : Bk) (r : Lk) (g bm gr : Nat), Duo9 (w.alloc (.cells D.toArray 42)).heap.size w2 g bm s gr r (fun _ => False) → Below (w.alloc (.cells D.toArray 42)).heap.size (w.alloc (.cells D.toArray 42)) w1 → Out (Ab (w.alloc (.cells D.toArray 42)).heap.size (fun _ => False)) w1 w2 → Below (w.alloc (.cells D.toArray 42)).heap.size (w.alloc (.cells D.toArray 42)) w2 ∧ Duo9 (w.alloc (.cells D.toArray 42)).heap.size w2 g bm s gr r (fun _ => False) ∧ (w.alloc (.cells D.toArray 42)).heap.size ≤ w2.heap.size ∧ Below w.heap.size w w2 ∧ w2.rangeAt w.heap.size 0 D := fun w1 w2 s r g bm gr hDu hb hO => by
    have hb2 : Below (w.alloc (.cells D.toArray 42)).heap.size (w.alloc (.cells D.toArray 42)) w2 := hb.trans (hO.above (fun i hi => hi.1) hb.size)
    exact ⟨hb2, hDu, hb2.size, hbA.trans (hb2.mono hbA.size), (hrA.below hb2 hrA.lt).range⟩
  have HF := Lib.hid (And.intro hF1 (And.intro hR1 (And.intro hF2 hR2)))
  have HD := Lib.hid (And.intro hDi hD32)
  have HA := Lib.hid (And.intro hbA (And.intro hrA hst))
  have Hch := Lib.hid hch
  have Hx := Lib.hid hx
  clear hF1 hR1 hF2 hR2 hDi hD32 hbA hrA hst hch hx hd hs1 hs1' hs2 hs2' hD
  go_enter Tryz.func5, Tryz.ntmps5
  go_wp2_with fail
  refine (bnew_any _).mono ?_
  rintro e w1 ⟨S, g, bm, rfl, hS, hb, hb1⟩
  have H0 := Lib.hid (And.intro hS (And.intro hb hb1))
  clear hS hb hb1
  go_wp2_with fail
  refine (rbnew_any _).mono ?_
  rintro e w2 ⟨gr, rfl, hgr, hr, hb2⟩
  have hD2 := duo_new H0.out.1 H0.out.2.1 H0.out.2.2 hr hgr hb2
  have hB2 := H0.out.2.2.trans (hb2.mono H0.out.2.2.size)
  have hd2 : Below w2.heap.size w2 w2.drew := (Below.refl _ _).drew
  have H0 := Lib.hid (HA.out.2.2 w2 w2.drew _ _ _ _ _ (hD2.below hd2) hB2 (Out.ofBelow _ hd2))
  clear hgr hr hb2 hD2 hB2 hd2
  go_wp2
  have hst := HA.out.2.2
  have hst : ∀ {s : Bk} {r : Lk} {g bm gr : Nat} (w1 w2 : World), Duo9 (w.alloc (.cells D.toArray 42)).heap.size w2 g bm s gr r (fun _ => False) → Below (w.alloc (.cells D.toArray 42)).heap.size (w.alloc (.cells D.toArray 42)) w1 → Out (Ab (w.alloc (.cells D.toArray 42)).heap.size (fun _ => False)) w1 w2 → Below (w.alloc (.cells D.toArray 42)).heap.size (w.alloc (.cells D.toArray 42)) w2 ∧ Duo9 (w.alloc (.cells D.toArray 42)).heap.size w2 g bm s gr r (fun _ => False) ∧ (w.alloc (.cells D.toArray 42)).heap.size ≤ w2.heap.size ∧ Below w.heap.size w w2 ∧ w2.rangeAt w.heap.size 0 D := fun w1 w2 a b c => hst w1 w2 _ _ _ _ _ a b c
  have Q0 : w2.drew.rangeAt w.heap.size 0 D := H0.out.2.2.2.2
  refine wp_region_held_drew (S := fun W' => W'.rangeAt w.heap.size 0 D) (by kernel_rfl) Q0 (fun _ => ?_)
  refine anyH_take (i := 0) (d := 11) (v := ?v0) rfl rfl (by kernel_rfl) (by kernel_rfl) (by kernel_rfl) (fun _ _ _ h => h) (Or.inl ⟨by rfl, ?vy0⟩) Q0 ?vr0
  case vy0 => (intro w; go_simp; try with_reducible rfl)
  simp only [List.setIfInBounds_toArray, List.set_cons_zero, List.set_cons_succ]
  refine anyH_load (i := 1) (d := 12) rfl rfl (by kernel_rfl) (by kernel_rfl) (by kernel_rfl) (by rfl) 42 _ rfl w.heap.size 0 rfl D _ (fun _ h => h) Tryz.underlying42 rfl HD.out.1 (fun _ _ _ h => h) Q0 ?_
  simp only [List.setIfInBounds_toArray, List.set_cons_zero, List.set_cons_succ]
  refine anyH_take (i := 2) (d := 13) (v := ?v2) rfl rfl (by kernel_rfl) (by kernel_rfl) (by kernel_rfl) (fun _ _ _ h => h) (Or.inl ⟨by rfl, ?vy2⟩) Q0 ?vr2
  case vy2 => (intro w; go_simp; try with_reducible rfl)
  simp only [List.setIfInBounds_toArray, List.set_cons_zero, List.set_cons_succ]
  refine anyH_take (i := 4) (d := 15) (v := ?v4) rfl rfl (by kernel_rfl) (by kernel_rfl) (by kernel_rfl) (fun _ _ _ h => h) (Or.inl ⟨by rfl, ?vy4⟩) Q0 ?vr4
  case vy4 => (intro w; go_simp; try with_reducible rfl)
  simp only [List.setIfInBounds_toArray, List.set_cons_zero, List.set_cons_succ]
  refine anyH_load (i := 5) (d := 16) rfl rfl (by kernel_rfl) (by kernel_rfl) (by kernel_rfl) (by rfl) 42 _ rfl w.heap.size 0 rfl D _ (fun _ h => h) Tryz.underlying42 rfl HD.out.1 (fun _ _ _ h => h) Q0 ?_
  simp only [List.setIfInBounds_toArray, List.set_cons_zero, List.set_cons_succ]
  refine anyH_take (i := 6) (d := 17) (v := ?v6) rfl rfl (by kernel_rfl) (by kernel_rfl) (by kernel_rfl) (fun _ _ _ h => h) (Or.inl ⟨by rfl, ?vy6⟩) Q0 ?vr6
  case vy6 => (intro w; go_simp; try with_reducible rfl)
  simp only [List.setIfInBounds_toArray, List.set_cons_zero, List.set_cons_succ]
  refine anyH_one (i := 3) (by kernel_rfl) ?_
  refine wpOp_step rfl (fun K hK => ?_)
  go_simp
  refine (HF.out.1 _ _ _ _ _ _ _ _ cch (H0.out.2.1) H0.out.2.2.1 (Hch.out.2.2.2.2.after H0.out.2.2.2.1) Hch.out.2.1 Hch.out.2.2.1).mono ?_
  rintro e wa ⟨rfl, hDa, hOa⟩
  have Ha := Lib.hid (hst _ wa hDa H0.out.1 hOa)
  clear hDa hOa
  refine hK _ _ ⟨Ha.out.2.2.2.2, ?_⟩
  clear hK K
  refine anyH_one (i := 7) (by kernel_rfl) ?_
  refine wpOp_step rfl (fun K hK => ?_)
  go_simp
  refine (HF.out.2.1 _ _ _ _ _ _ _ _ cch (Ha.out.2.1) Ha.out.2.2.1 (Hch.out.2.2.2.2.after Ha.out.2.2.2.1) Hch.out.2.1 Hch.out.2.2.1).mono ?_
  rintro e wb ⟨rfl, hDb, hOb⟩
  have Hb := Lib.hid (hst _ wb hDb Ha.out.1 hOb)
  clear hDb hOb
  refine hK _ _ ⟨Hb.out.2.2.2.2, ?_⟩
  clear hK K
  refine anyH_take (i := 8) (d := 19) (v := (.bool true)) rfl rfl (by kernel_rfl) (by kernel_rfl) (by kernel_rfl) (fun _ _ _ h => h) (Or.inl ⟨by rfl, ?vy8⟩) Hb.out.2.2.2.2 ?vr8
  case vy8 => (intro w; go_simp; try with_reducible rfl)
  simp only [List.setIfInBounds_toArray, List.set_cons_zero, List.set_cons_succ]
  refine anyH_take (i := 9) (d := 20) (v := ?v9) rfl rfl (by kernel_rfl) (by kernel_rfl) (by kernel_rfl) (fun _ _ _ h => h) (Or.inl ⟨by rfl, ?vy9⟩) Hb.out.2.2.2.2 ?vr9
  case vy9 => (intro w; go_simp; try with_reducible rfl)
  simp only [List.setIfInBounds_toArray, List.set_cons_zero, List.set_cons_succ]
  refine anyH_take (i := 10) (d := 21) (v := ?v10) rfl rfl (by kernel_rfl) (by kernel_rfl) (by kernel_rfl) (fun _ _ _ h => h) (Or.inl ⟨by rfl, ?vy10⟩) Hb.out.2.2.2.2 ?vr10
  case vy10 => (intro w; go_simp; try with_reducible rfl)
  simp only [List.setIfInBounds_toArray, List.set_cons_zero, List.set_cons_succ]
  refine anyH_load (i := 11) (d := 22) rfl rfl (by kernel_rfl) (by kernel_rfl) (by kernel_rfl) (by rfl) 42 _ rfl w.heap.size 0 rfl D _ (fun _ h => h) Tryz.underlying42 rfl HD.out.1 (fun _ _ _ h => h) Hb.out.2.2.2.2 ?_
  simp only [List.setIfInBounds_toArray, List.set_cons_zero, List.set_cons_succ]
  refine anyH_take (i := 12) (d := 23) (v := ?v12) rfl rfl (by kernel_rfl) (by kernel_rfl) (by kernel_rfl) (fun _ _ _ h => h) (Or.inl ⟨by rfl, ?vy12⟩) Hb.out.2.2.2.2 ?vr12
  case vy12 => (intro w; go_simp; try with_reducible rfl)
  simp only [List.setIfInBounds_toArray, List.set_cons_zero, List.set_cons_succ]
  refine anyH_take (i := 14) (d := 25) (v := ?v14) rfl rfl (by kernel_rfl) (by kernel_rfl) (by kernel_rfl) (fun _ _ _ h => h) (Or.inl ⟨by rfl, ?vy14⟩) Hb.out.2.2.2.2 ?vr14
  case vy14 => (intro w; go_simp; try with_reducible rfl)
  simp only [List.setIfInBounds_toArray, List.set_cons_zero, List.set_cons_succ]
  refine anyH_load (i := 15) (d := 26) rfl rfl (by kernel_rfl) (by kernel_rfl) (by kernel_rfl) (by rfl) 42 _ rfl w.heap.size 0 rfl D _ (fun _ h => h) Tryz.underlying42 rfl HD.out.1 (fun _ _ _ h => h) Hb.out.2.2.2.2 ?_
  simp only [List.setIfInBounds_toArray, List.set_cons_zero, List.set_cons_succ]
  refine anyH_take (i := 16) (d := 27) (v := ?v16) rfl rfl (by kernel_rfl) (by kernel_rfl) (by kernel_rfl) (fun _ _ _ h => h) (Or.inl ⟨by rfl, ?vy16⟩) Hb.out.2.2.2.2 ?vr16
  case vy16 => (intro w; go_simp; try with_reducible rfl)
  simp only [List.setIfInBounds_toArray, List.set_cons_zero, List.set_cons_succ]
  refine anyH_one (i := 13) (by kernel_rfl) ?_
  refine wpOp_step rfl (fun K hK => ?_)
  go_simp
  refine (HF.out.2.2.1 _ _ _ _ _ _ _ _ cx (Hb.out.2.1) Hb.out.2.2.1 (Hx.out.2.2.2.after Hb.out.2.2.2.1) Hx.out.2.1 (by have := Hx.out.2.2.1; unfold maxLen; omega)).mono ?_
  rintro e wc ⟨rfl, hDc, hOc⟩
  have Hc := Lib.hid (hst _ wc hDc Hb.out.1 hOc)
  clear hDc hOc
  refine hK _ _ ⟨Hc.out.2.2.2.2, ?_⟩
  clear hK K
  refine anyH_one (i := 17) (by kernel_rfl) ?_
  refine wpOp_step rfl (fun K hK => ?_)
  go_simp
  refine (HF.out.2.2.2 _ _ _ _ _ _ _ _ cx (Hc.out.2.1) Hc.out.2.2.1 (Hx.out.2.2.2.after Hc.out.2.2.2.1) Hx.out.2.1 (by have := Hx.out.2.2.1; unfold maxLen; omega)).mono ?_
  rintro e wd ⟨rfl, hDd, hOd⟩
  have Hd := Lib.hid (hst _ wd hDd Hc.out.1 hOd)
  clear hDd hOd
  refine hK _ _ ⟨Hd.out.2.2.2.2, ?_⟩
  clear hK K
  refine anyH_take (i := 18) (d := 29) (v := (.bool true)) rfl rfl (by kernel_rfl) (by kernel_rfl) (by kernel_rfl) (fun _ _ _ h => h) (Or.inl ⟨by rfl, ?vy18⟩) Hd.out.2.2.2.2 ?vr18
  case vy18 => (intro w; go_simp; try with_reducible rfl)
  simp only [List.setIfInBounds_toArray, List.set_cons_zero, List.set_cons_succ]
  refine anyH_take (i := 19) (d := 30) (v := ?v19) rfl rfl (by kernel_rfl) (by kernel_rfl) (by kernel_rfl) (fun _ _ _ h => h) (Or.inl ⟨by rfl, ?vy19⟩) Hd.out.2.2.2.2 ?vr19
  case vy19 => (intro w; go_simp; try with_reducible rfl)
  simp only [List.setIfInBounds_toArray, List.set_cons_zero, List.set_cons_succ]
  refine anyH_take (i := 20) (d := 31) (v := ?v20) rfl rfl (by kernel_rfl) (by kernel_rfl) (by kernel_rfl) (fun _ _ _ h => h) (Or.inl ⟨by rfl, ?vy20⟩) Hd.out.2.2.2.2 ?vr20
  case vy20 => (intro w; go_simp; try with_reducible rfl)
  simp only [List.setIfInBounds_toArray, List.set_cons_zero, List.set_cons_succ]
  refine anyH_one (i := 21) (by kernel_rfl) ?_
  refine wpOp_step rfl (fun K hK => ?_)
  go_simp
  refine (works10_any _).mono ?_
  rintro e we ⟨rfl, hbe⟩
  have He := Lib.hid (show Below w.heap.size w we ∧ we.rangeAt w.heap.size 0 D from ⟨Hd.out.2.2.2.1.trans (hbe.mono Hd.out.2.2.2.1.size), (HA.out.2.1.below (Hd.out.1.trans (hbe.mono Hd.out.2.2.1)) HA.out.2.1.lt).range⟩)
  clear hbe
  refine hK _ _ ⟨He.out.2, ?_⟩
  clear hK K
  refine anyH_take (i := 22) (d := 33) (v := ?v22) rfl rfl (by kernel_rfl) (by kernel_rfl) (by kernel_rfl) (fun _ _ _ h => h) (Or.inl ⟨by rfl, ?vy22⟩) He.out.2 ?vr22
  case vy22 => (intro w; go_simp; try with_reducible rfl)
  simp only [List.setIfInBounds_toArray, List.set_cons_zero, List.set_cons_succ]
  refine anyH_take (i := 23) (d := 6) (v := ?v23) rfl rfl (by kernel_rfl) (by kernel_rfl) (by kernel_rfl) (fun _ _ _ h => h) (Or.inl ⟨by rfl, ?vy23⟩) He.out.2 ?vr23
  case vy23 => (intro w; go_simp; try with_reducible rfl)
  simp only [List.setIfInBounds_toArray, List.set_cons_zero, List.set_cons_succ]
  refine wpAnyH_done (by kernel_rfl) ?_ _
  go_wp2
  go_ret
  exact ⟨rfl, He.out.1⟩

end Go.Proofs.YtcamgldilknanaaGreat.proofFits
