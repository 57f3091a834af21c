/-
  The chapter's examples, both ends, and books and trees that are none: TreeKnown, which has no arguments, returns true; no condition.
-/
import Derived.Test.YtbdocaohnigekaaZ01
import Derived.Test.YtbdocaohnigekaaZ13
import Derived.Test.YtbdocaohnigekaaZ07
import Derived.Test.YtbdocaohnigekaaZ16
import Derived.Deep.RegionHeld3
import Derived.Deep.RegionWith
import Derived.Deep.DeepCutAuto
import Derived.BigQuiet
namespace Go.Proofs.Ytbdocaohnigekaa.treeKnown
open Go.ChangeShapes Go.WideShapes Go.ChangeAt Go.RowKit
set_option linter.unusedVariables false

set_option maxRecDepth 100000 in
set_option maxHeartbeats 6400000 in
theorem walk  (w : World)  :
    Calls Try.prog 9 #[] w fun e w' => e = .returned (.bool true) ∧ Below w.heap.size w w' := by
  obtain ⟨D, hD32, hDv, hD1⟩ : ∃ D : List Value, D.length = 32 ∧ cbs (List.replicate 32 0) = D ∧ D.toArray.all (·.oneCell') = true := ⟨cbs (List.replicate 32 0), rfl, rfl, cbs_one' _⟩
  have HD := Lib.hid (And.intro hD32 (And.intro hDv hD1))
  clear hD32 hDv hD1
  obtain ⟨ZL, hmkL'⟩ := made_lists 1025 (by decide)
  obtain ⟨ZD, hmkD⟩ := made_digs5
  have hmkL : ∀ w : World, (Instr.makeSlice 22 (.int .i64 1025) (.int .i64 1025)).run Try.prog w = .ok (.slice (some ⟨w.heap.size, 0, none⟩) 1025 1025) (w.alloc (.cells ZL 34)) := hmkL'
  obtain ⟨x6, Z6, hl6, hmk6', hB6⟩ := made_bytes 65536 (by decide)
  have hmk6 : ∀ w : World, (Instr.makeSlice 34 (.int .i64 65536) (.int .i64 65536)).run Try.prog w = .ok (.slice (some ⟨w.heap.size, 0, none⟩) 65536 65536) (w.alloc (.cells Z6 5)) := hmk6'
  obtain ⟨x5, Z5, hl5, hmk5', hB5⟩ := made_bytes 65535 (by decide)
  have hmk5 : ∀ w : World, (Instr.makeSlice 34 (.int .i64 65535) (.int .i64 65535)).run Try.prog w = .ok (.slice (some ⟨w.heap.size, 0, none⟩) 65535 65535) (w.alloc (.cells Z5 5)) := hmk5'
  obtain ⟨W1, hW1⟩ : ∃ Z, (cbs (List.replicate 32 0)).toArray = Z := ⟨_, rfl⟩
  have hmkU := made_digs1
  rw [hW1] at hmkU
  have HZ := Lib.hid (And.intro hl6 (And.intro hB6 (And.intro hl5 (And.intro hB5 hW1))))
  clear hmkL' hmk6' hmk5' hl6 hB6 hl5 hB5 hW1
  go_enter Try.func9, Try.ntmps9
  go_wp2_with fail
  refine (bnew_any _).mono ?_
  rintro e w1 ⟨S, g, bm, rfl, hS, hb, hb1⟩
  have hk1 := kb_new hS hb
  obtain ⟨WB, hWB⟩ : ∃ W, w1.alloc (.cells #[.int .i64 1, .int .i64 1, .int .i64 2, .int .i64 2, .int .i64 4, .int .i64 2, .int .i64 5, .int .i64 3, .int .i64 16, .int .i64 3, .int .i64 17, .int .i64 4, .int .i64 64, .int .i64 4, .int .i64 65, .int .i64 5, .int .i64 1024, .int .i64 6] 57) = W := ⟨_, rfl⟩
  have hBB : Blk WB w1.heap.size 57 [.int .i64 1, .int .i64 1, .int .i64 2, .int .i64 2, .int .i64 4, .int .i64 2, .int .i64 5, .int .i64 3, .int .i64 16, .int .i64 3, .int .i64 17, .int .i64 4, .int .i64 64, .int .i64 4, .int .i64 65, .int .i64 5, .int .i64 1024, .int .i64 6] := by rw [← hWB]; exact Blk.new rfl rfl
  have hbb : Below w1.heap.size w1 WB := by rw [← hWB]; exact (Below.refl _ _).alloc (Nat.le_refl _) _
  obtain ⟨gb, hgb⟩ : ∃ gb, w1.heap.size = gb := ⟨_, rfl⟩
  have hzB : WB.heap.size = gb + 1 := by rw [← hWB, ← hgb]; simp
  have hKS := (show KS w g bm (fun _ => False) 0 w1 from ⟨_, hk1, Nat.le_refl _, Nat.le_refl _, hb1⟩).keep (N' := fun i => i = gb) hbb (fun i hi => .inr ⟨by omega, by omega⟩)
  rw [hgb] at hBB
  have H1 := Lib.hid (And.intro hKS hBB)
  have HWB := Lib.hid hWB
  have Hgb := Lib.hid hgb
  clear hS hb hb1 hk1 hBB hbb hzB hKS hWB hgb
  go_wp2
  rw [HWB.out, Hgb.out]
  go_loopw [62] (fun v62 wr => ∃ j : Nat, j ≤ 9 ∧ v62 = .int .i64 j ∧ KS w g bm (fun i => i = gb) (6144 * j) wr ∧ Blk wr gb 57 [.int .i64 1, .int .i64 1, .int .i64 2, .int .i64 2, .int .i64 4, .int .i64 2, .int .i64 5, .int .i64 3, .int .i64 16, .int .i64 3, .int .i64 17, .int .i64 4, .int .i64 64, .int .i64 4, .int .i64 65, .int .i64 5, .int .i64 1024, .int .i64 6]) (fun v _ => 9 - (intOf v).toNat)
  case atStart => exact ⟨0, Nat.zero_le _, rfl, H1.out⟩
  case round =>
    obtain ⟨j, hj, rfl, hKr, hBr⟩ := hrel
    have hi0 : (0 : Int) ≤ j := by omega
    by_cases hlt : j < 9
    · have hi1 : (j : Int) < 9 := by omega
      obtain ⟨a, b, ha1, ha2, hab, hc0, hc1⟩ : ∃ a b : Nat, 1 ≤ a ∧ a ≤ 1024 ∧ dep a = b ∧ wr.cell? ⟨gb, j * 2, none⟩ = some (.int .i64 (a : Int)) ∧ wr.cell? ⟨gb, j * 2 + 1, none⟩ = some (.int .i64 (b : Int)) := by
        rcases (by omega : j = 0 ∨ j = 1 ∨ j = 2 ∨ j = 3 ∨ j = 4 ∨ j = 5 ∨ j = 6 ∨ j = 7 ∨ j = 8) with rfl | rfl | rfl | rfl | rfl | rfl | rfl | rfl | rfl
        · exact ⟨1, 1, by decide, by decide, by rw [dep_one (by decide)], hBr.cell rfl, hBr.cell rfl⟩
        · exact ⟨2, 2, by decide, by decide, by rw [dep_more (by decide), dep_one (by decide)], hBr.cell rfl, hBr.cell rfl⟩
        · exact ⟨4, 2, by decide, by decide, by rw [dep_more (by decide), dep_one (by decide)], hBr.cell rfl, hBr.cell rfl⟩
        · exact ⟨5, 3, by decide, by decide, by rw [dep_more (by decide), dep_more (by decide), dep_one (by decide)], hBr.cell rfl, hBr.cell rfl⟩
        · exact ⟨16, 3, by decide, by decide, by rw [dep_more (by decide), dep_more (by decide), dep_one (by decide)], hBr.cell rfl, hBr.cell rfl⟩
        · exact ⟨17, 4, by decide, by decide, by rw [dep_more (by decide), dep_more (by decide), dep_more (by decide), dep_one (by decide)], hBr.cell rfl, hBr.cell rfl⟩
        · exact ⟨64, 4, by decide, by decide, by rw [dep_more (by decide), dep_more (by decide), dep_more (by decide), dep_one (by decide)], hBr.cell rfl, hBr.cell rfl⟩
        · exact ⟨65, 5, by decide, by decide, by rw [dep_more (by decide), dep_more (by decide), dep_more (by decide), dep_more (by decide), dep_one (by decide)], hBr.cell rfl, hBr.cell rfl⟩
        · exact ⟨1024, 6, by decide, by decide, by rw [dep_more (by decide), dep_more (by decide), dep_more (by decide), dep_more (by decide), dep_more (by decide), dep_one (by decide)], hBr.cell rfl, hBr.cell rfl⟩
      obtain ⟨wS, hwS⟩ : ∃ W, wr.alloc (.cells #[.int .i64 (a : Int), .int .i64 (b : Int)] 57) = W := ⟨_, rfl⟩
      have hbS : Below wr.heap.size wr wS := by rw [← hwS]; exact (Below.refl _ _).alloc (Nat.le_refl _) _
      have hzS : wS.heap.size = wr.heap.size + 1 := by rw [← hwS]; simp
      have hS2 : Blk wS wr.heap.size 57 [.int .i64 (a : Int), .int .i64 (b : Int)] := by rw [← hwS]; exact Blk.new rfl rfl
      have hK2 := hKr.keep (N' := fun i => i = gb ∨ i = wr.heap.size) hbS (fun i hi => hi.imp (fun h => h) (fun h => ⟨by omega, by omega⟩))
      have hB2 := hBr.below hbS hBr.lt
      have hr2 := range_two hc0 hc1
      have hnew := hK2.new (by omega) a ha1 ha2
      have Hnew := Lib.hid hnew
      have HwS := Lib.hid hwS
      have Hs := Lib.hid hr2
      have H2 := Lib.hid (And.intro hB2 (And.intro hS2 hab))
      clear hnew hwS hr2 hB2 hS2 hab hc0 hc1 hbS hzS hK2 hBr hKr
      go_wp2_with (refine load_mid_g (by rfl) 57 _ rfl gb (j * 2) rfl [.int .i64 (a : Int), .int .i64 (b : Int)] _ Hs.out Try.underlying57 rfl info_two ?_; simp only [Act.put])
      rw [HwS.out]
      refine Hnew.out.mono ?_
      rintro e w5 ⟨t, M, rfl, hT, hK5, hs5⟩
      obtain ⟨hB2, hS2, hab⟩ := H2.out
      have hB5' : Blk w5 gb 57 [.int .i64 1, .int .i64 1, .int .i64 2, .int .i64 2, .int .i64 4, .int .i64 2, .int .i64 5, .int .i64 3, .int .i64 16, .int .i64 3, .int .i64 17, .int .i64 4, .int .i64 64, .int .i64 4, .int .i64 65, .int .i64 5, .int .i64 1024, .int .i64 6] := (hs5 gb (.inl rfl)).trans hB2
      have hS5 : Blk w5 wr.heap.size 57 [.int .i64 (a : Int), .int .i64 (b : Int)] := (hs5 wr.heap.size (.inr rfl)).trans hS2
      have y0' : w5.cell? ⟨wr.heap.size, 0, none⟩ = some (.int .i64 (a : Int)) := hS5.cell rfl
      have y1' : w5.cell? ⟨wr.heap.size, 1, none⟩ = some (.int .i64 (b : Int)) := hS5.cell rfl
      have hdl := tdl hT
      rw [lows_len, empties_len, hab] at hdl
      have HT := Lib.hid (show ∀ n, Calls Try.prog 21 #[.pointer (some ⟨t, 0, none⟩)] (w5.drewN n) (fun e w'' => e = .returned (.int .i64 (b : Int)) ∧ w'' = w5.drewN n) ∧ Calls Try.prog 26 #[.pointer (some ⟨t, 0, none⟩)] (w5.drewN n) (fun e w'' => e = .returned (.int .i64 (a : Int)) ∧ w'' = w5.drewN n) from fun n => hdl _ (below_drewN (Below.refl _ _) n))
      have H5 := Lib.hid (And.intro (hK5.less (N' := fun i => i = gb) fun i hi => .inl hi) hB5')
      have hne : ((b : Int) != (b : Int)) = false := by simp
      have hne2 : ((a : Int) != (a : Int)) = false := by simp
      clear hB2 hS2 hab ha1 ha2 hT hK5 hs5 hB5' hS5 hdl HwS Hs Hnew
      go_wp2_with fail
      go_quiet (first | (go_at_call 21; exact Calls.quiet_of_same (HT.out _).1) | (go_at_call 26; exact Calls.quiet_of_same (HT.out _).2))
      go_wp2
      go_roundw
      case rel => exact ⟨j + 1, by omega, by go_num, (H5.out.1.below (below_drewN (Below.refl _ _) _)).more (by omega), H5.out.2.below (below_drewN (Below.refl _ _) _) H5.out.2.lt⟩
      case measure => simp [intOf]; omega
    · have hi1 : ¬ (j : Int) < 9 := by omega
      obtain rfl : j = 9 := by omega
      have K0 := Lib.hid hKr
      clear hKr hBr
      go_wp2_with (first | (go_at_call 13; refine (tnew_bad9 _ _ _ (by decide)).mono ?_; rintro e wx ⟨rfl, rfl⟩))
      refine (tnew_none none _ (.inl rfl)).mono ?_
      rintro e u1 ⟨rfl, hb⟩
      have K1 := Lib.hid (K0.out.below hb)
      clear hb K0
      go_wp2_with fail
      refine (tnew_none (some ⟨u1.heap.size, 0, none⟩) _ (NoBook.made rfl rfl)).mono ?_
      rintro e u2 ⟨rfl, hb⟩
      replace hb := ((Below.refl _ _).alloc (Nat.le_refl _) _).trans (hb.mono (by simp only [World.size_alloc]; omega))
      have K2 := Lib.hid (K1.out.below hb)
      clear hb K1
      go_wp2_with (first | (go_at_call 13; refine (tnew_bad9 _ _ _ (by decide)).mono ?_; rintro e wx ⟨rfl, rfl⟩))
      refine (k_of0 HD.out.2.1 _ _ 0 _ _ (by decide)).mono ?_
      rintro e u3 ⟨rfl, hb⟩
      obtain ⟨v3, hv, hthi, hbS, hbel, hsz⟩ := dig_local u3 D HD.out.1
      have K3 := Lib.hid (K2.out.below (hb.trans (hbel.mono hb.size)))
      clear hb
      have Hv := Lib.hid hv
      have Hs := Lib.hid hthi
      clear hv hthi hbS hbel hsz K2
      go_wp2_with (refine wpList_store_mid rfl 38 _ _ rfl u3.heap.size 0 D.toArray rfl rfl Hs.out.1 Hs.out.2 HD.out.2.2 ?_; simp only [Act.put]; refine cast (congrArg (fun z => wpList _ _ _ _ _ z) Hv.out.symm) ?_)
      clear Hv Hs
      refine (k_of0 HD.out.2.1 _ _ 1025 _ _ (by decide)).mono ?_
      rintro e u4 ⟨rfl, hb⟩
      replace hb := ((Below.refl _ _).alloc (Nat.le_refl _) _).trans (hb.mono (by simp only [World.size_alloc]; omega))
      obtain ⟨v4, hv, hthi, hbS, hbel, hsz⟩ := dig_local u4 D HD.out.1
      have K4 := Lib.hid (K3.out.below (hb.trans (hbel.mono hb.size)))
      clear hb
      have Hv := Lib.hid hv
      have Hs := Lib.hid hthi
      clear hv hthi hbS hbel hsz K3
      go_wp2_with (refine wpList_store_mid rfl 38 _ _ rfl u4.heap.size 0 D.toArray rfl rfl Hs.out.1 Hs.out.2 HD.out.2.2 ?_; simp only [Act.put]; refine cast (congrArg (fun z => wpList _ _ _ _ _ z) Hv.out.symm) ?_)
      clear Hv Hs
      have hrl : ((v4.alloc (.cells Z6 5)).alloc (.cells #[.slice (some ⟨v4.heap.size, 0, none⟩) 65536 65536] 34)).cell? ⟨v4.heap.size + 1, 0, none⟩ = some (.slice (some ⟨v4.heap.size, 0, none⟩) 65536 65536) := (show Blk _ (v4.heap.size + 1) 34 [.slice (some ⟨v4.heap.size, 0, none⟩) 65536 65536] from Blk.new rfl (by simp)).cell rfl
      have hbl : Bs ((v4.alloc (.cells Z6 5)).alloc (.cells #[.slice (some ⟨v4.heap.size, 0, none⟩) 65536 65536] 34)) (some ⟨v4.heap.size, 0, none⟩) x6 := (HZ.out.2.1 v4).on ((Below.refl _ _).alloc (Nat.le_refl _) _)
      refine (k_ofl HD.out.2.1 _ _ x6 HZ.out.1 _ v4.heap.size hrl hbl (by simp only [World.size_alloc]; omega)).mono ?_
      rintro e u5 ⟨rfl, hb⟩
      replace hb := (((Below.refl _ _).alloc (Nat.le_refl _) _).alloc (by simp) _).trans (hb.mono (by simp only [World.size_alloc]; omega))
      obtain ⟨v5, hv, hthi, hbS, hbel, hsz⟩ := dig_local u5 D HD.out.1
      have K5 := Lib.hid (K4.out.below (hb.trans (hbel.mono hb.size)))
      clear hb
      have Hv := Lib.hid hv
      have Hs := Lib.hid hthi
      clear hv hthi hbS hbel hsz K4
      go_wp2_with (refine wpList_store_mid rfl 38 _ _ rfl u5.heap.size 0 D.toArray rfl rfl Hs.out.1 Hs.out.2 HD.out.2.2 ?_; simp only [Act.put]; refine cast (congrArg (fun z => wpList _ _ _ _ _ z) Hv.out.symm) ?_)
      clear Hv Hs
      have hrn : (v5.alloc (.cells #[.slice none 0 0] 34)).cell? ⟨v5.heap.size, 0, none⟩ = some (.slice none 0 0) := (show Blk _ v5.heap.size 34 [.slice none 0 0] from Blk.new rfl rfl).cell rfl
      refine (k_ofn HD.out.2.1 _ _ hrn).mono ?_
      rintro e u6 ⟨rfl, hb⟩
      replace hb := ((Below.refl _ _).alloc (Nat.le_refl _) _).trans (hb.mono (by simp only [World.size_alloc]; omega))
      obtain ⟨v6, hv, hthi, hbS, hbel, hsz⟩ := dig_local u6 D HD.out.1
      have K6 := Lib.hid (K5.out.below (hb.trans (hbel.mono hb.size)))
      clear hb
      have Hv := Lib.hid hv
      have Hs := Lib.hid hthi
      clear hv hthi hbS hbel hsz K5
      go_wp2_with (refine wpList_store_mid rfl 38 _ _ rfl u6.heap.size 0 D.toArray rfl rfl Hs.out.1 Hs.out.2 HD.out.2.2 ?_; simp only [Act.put]; refine cast (congrArg (fun z => wpList _ _ _ _ _ z) Hv.out.symm) ?_)
      clear Hv Hs
      refine (k_leafl HD.out.2.1 _ _ 65536 _ _ (by decide)).mono ?_
      rintro e u7 ⟨rfl, hb⟩
      replace hb := ((Below.refl _ _).alloc (Nat.le_refl _) _).trans (hb.mono (by simp only [World.size_alloc]; omega))
      obtain ⟨v7, hv, hthi, hbS, hbel, hsz⟩ := dig_local u7 D HD.out.1
      have K7 := Lib.hid (K6.out.below (hb.trans (hbel.mono hb.size)))
      clear hb
      have Hv := Lib.hid hv
      have Hs := Lib.hid hthi
      clear hv hthi hbS hbel hsz K6
      go_wp2_with (refine wpList_store_mid rfl 38 _ _ rfl u7.heap.size 0 D.toArray rfl rfl Hs.out.1 Hs.out.2 HD.out.2.2 ?_; simp only [Act.put]; refine cast (congrArg (fun z => wpList _ _ _ _ _ z) Hv.out.symm) ?_)
      clear Hv Hs
      refine (k_leafn HD.out.2.1 _).mono ?_
      rintro e u8 ⟨rfl, hb⟩
      obtain ⟨v8, hv, hthi, hbS, hbel, hsz⟩ := dig_local u8 D HD.out.1
      have K8 := Lib.hid (K7.out.below (hb.trans (hbel.mono hb.size)))
      clear hb
      have Hv := Lib.hid hv
      have Hs := Lib.hid hthi
      clear hv hthi hbS hbel hsz K7
      go_wp2_with (refine wpList_store_mid rfl 38 _ _ rfl u8.heap.size 0 D.toArray rfl rfl Hs.out.1 Hs.out.2 HD.out.2.2 ?_; simp only [Act.put]; refine cast (congrArg (fun z => wpList _ _ _ _ _ z) Hv.out.symm) ?_)
      clear Hv Hs
      obtain ⟨DL, hdl⟩ : ∃ DL, cbs (digest (leafIn x5)) = DL := ⟨_, rfl⟩
      have HL := Lib.hid (show DL.length = 32 ∧ True ∧ DL.toArray.all (·.oneCell') = true from ⟨by rw [← hdl, cbs_length, dlen9], trivial, by rw [← hdl]; exact cbs_one' _⟩)
      have hlf := (K8.out.below (w' := v8.alloc (.cells Z5 5)) ((Below.refl _ _).alloc (Nat.le_refl _) _)).leaf (by omega) (some ⟨v8.heap.size, 0, none⟩) 65535 65535 x5 (HZ.out.2.2.2.1 v8) HZ.out.2.2.1 (Nat.le_refl _) (by unfold maxLen; omega) (by decide)
      rw [hdl] at hlf
      clear hdl
      refine (hlf).mono ?_
      rintro e u9 ⟨rfl, hk⟩
      obtain ⟨v9, hv, hthi, hbS, hbel, hsz⟩ := dig_local u9 DL HL.out.1
      have K9 := Lib.hid (hk.below hbel)
      clear hk
      have Hv := Lib.hid hv
      have Hs := Lib.hid hthi
      clear hv hthi hbS hbel hsz K8
      go_wp2_with (refine wpList_store_mid rfl 38 _ _ rfl u9.heap.size 0 DL.toArray rfl rfl Hs.out.1 Hs.out.2 HL.out.2.2 ?_; simp only [Act.put]; refine cast (congrArg (fun z => wpList _ _ _ _ _ z) Hv.out.symm) ?_)
      clear Hv Hs
      refine (k_upo HD.out.2.1 _ _ 0 _ _ (by decide)).mono ?_
      rintro e u10 ⟨rfl, hb⟩
      obtain ⟨v10, hv, hthi, hbS, hbel, hsz⟩ := dig_local u10 D HD.out.1
      have K10 := Lib.hid (K9.out.below (hb.trans (hbel.mono hb.size)))
      clear hb
      have Hv := Lib.hid hv
      have Hs := Lib.hid hthi
      clear hv hthi hbS hbel hsz K9
      go_wp2_with (refine wpList_store_mid rfl 38 _ _ rfl u10.heap.size 0 D.toArray rfl rfl Hs.out.1 Hs.out.2 HD.out.2.2 ?_; simp only [Act.put]; refine cast (congrArg (fun z => wpList _ _ _ _ _ z) Hv.out.symm) ?_)
      clear Hv Hs
      have hru : Blk (v10.alloc (.cells W1 38)) v10.heap.size 38 (cbs (List.replicate 32 0)) := by rw [← HZ.out.2.2.2.2]; exact Blk.new rfl rfl
      refine (k_upn HD.out.2.1 _ _ hru).mono ?_
      rintro e u11 ⟨rfl, hb⟩
      replace hb := ((Below.refl _ _).alloc (Nat.le_refl _) _).trans (hb.mono (by simp only [World.size_alloc]; omega))
      obtain ⟨v11, hv, hthi, hbS, hbel, hsz⟩ := dig_local u11 D HD.out.1
      have K11 := Lib.hid (K10.out.below (hb.trans (hbel.mono hb.size)))
      clear hb
      have Hv := Lib.hid hv
      have Hs := Lib.hid hthi
      clear hv hthi hbS hbel hsz K10
      go_wp2_with (refine wpList_store_mid rfl 38 _ _ rfl u11.heap.size 0 D.toArray rfl rfl Hs.out.1 Hs.out.2 HD.out.2.2 ?_; simp only [Act.put]; refine cast (congrArg (fun z => wpList _ _ _ _ _ z) Hv.out.symm) ?_)
      clear Hv Hs
      refine (k_upo HD.out.2.1 _ _ 5 _ _ (by decide)).mono ?_
      rintro e u12 ⟨rfl, hb⟩
      replace hb := ((Below.refl _ _).alloc (Nat.le_refl _) _).trans (hb.mono (by simp only [World.size_alloc]; omega))
      obtain ⟨v12, hv, hthi, hbS, hbel, hsz⟩ := dig_local u12 D HD.out.1
      have K12 := Lib.hid (K11.out.below (hb.trans (hbel.mono hb.size)))
      clear hb
      have Hv := Lib.hid hv
      have Hs := Lib.hid hthi
      clear hv hthi hbS hbel hsz K11
      go_wp2_with (refine wpList_store_mid rfl 38 _ _ rfl u12.heap.size 0 D.toArray rfl rfl Hs.out.1 Hs.out.2 HD.out.2.2 ?_; simp only [Act.put]; refine cast (congrArg (fun z => wpList _ _ _ _ _ z) Hv.out.symm) ?_)
      clear Hv Hs
      refine (K12.out.new (by omega) 5 (by decide) (by decide)).mono ?_
      rintro e u13 ⟨t, M, rfl, hT, hk, _⟩
      have hll : (lows (empties 5)).length = 5 := by rw [lows_len, empties_len]
      obtain ⟨low, hlow⟩ : ∃ low, lows (empties 5) = low := ⟨_, rfl⟩
      rw [hlow] at hT hll
      have hdd : dep low.length = 3 := by rw [hll]; exact dep_five
      have HT := Lib.hid hT
      have HK := Lib.hid hk
      have Hl := Lib.hid (And.intro hll hdd)
      clear hT hk hll hdd hlow K12
      go_wp2_with (first | (go_at_call 20; refine (tlevel_off HT.out _ (by rw [Hl.out.2]; decide)).mono ?_; rintro e wx ⟨rfl, rfl⟩) | (go_at_call 14; refine (tset_off HT.out _ (by rw [Hl.out.1]; decide) _ _ _).mono ?_; rintro e wx ⟨rfl, rfl⟩))
      refine (tset_long (HT.out.below ((Below.refl _ _).alloc (Nat.le_refl _) _)) 0 (by rw [Hl.out.1]; decide) _ 65536 _ (by decide)).mono ?_
      rintro e u14 ⟨rfl, hb⟩
      replace hb := ((Below.refl _ _).alloc (Nat.le_refl _) _).trans (hb.mono (by simp only [World.size_alloc]; omega))
      have HT2 := Lib.hid ((HT.out.below hb).below ((Below.refl _ _).alloc (Nat.le_refl _) _ : Below _ _ (u14.alloc (.cells Z6 5))))
      have HK2 := Lib.hid ((HK.out.below hb).below ((Below.refl _ _).alloc (Nat.le_refl _) _ : Below _ _ (u14.alloc (.cells Z6 5))))
      clear hb HT HK
      go_wp2_with (go_at_call 14; refine (tset_off HT2.out _ (by rw [Hl.out.1]; decide) _ _ _).mono ?_; rintro e wx ⟨rfl, rfl⟩)
      have HB := Lib.hid HK2.out.bel
      clear HK2 HT2 Hl
      go_loopw [44, 45] (fun v i wr => ∃ j : Nat, j ≤ 2 ∧ i = .int .i64 j ∧ NoTree wr v ∧ Below w.heap.size w wr ∧ ∃ pv, v = .pointer pv) (fun _ i _ => 2 - (intOf i).toNat)
      case atStart => exact ⟨0, by decide, rfl, .inl rfl, HB.out, none, rfl⟩
      case round =>
        obtain ⟨j, hj, rfl, hno, hbw, pv, rfl⟩ := hrel
        have hj0 : (0 : Int) ≤ j := by omega
        by_cases hlt : j < 2
        · have hi2 : (j : Int) < 2 := by omega
          have Hno := Lib.hid hno
          have Hbw := Lib.hid hbw
          clear hno hbw
          go_wp2_with fail
          refine (k_root HD.out.2.1 _ _ Hno.out).mono ?_
          rintro e u30 ⟨rfl, hb⟩
          obtain ⟨v30, hv, hthi, hbS, hbel, hsz⟩ := dig_local u30 D HD.out.1
          have hb2 := hb.trans (hbel.mono hb.size)
          have Hno2 := Lib.hid (Hno.out.below hb2)
          have Hbw2 := Lib.hid (Hbw.out.trans (hb2.mono Hbw.out.size))
          have Hv := Lib.hid hv
          have Hs := Lib.hid hthi
          clear hv hthi hbS hbel hsz hb hb2 Hno Hbw
          go_wp2_with (first
            | (refine wpList_store_mid rfl 38 _ _ rfl u30.heap.size 0 D.toArray rfl rfl Hs.out.1 Hs.out.2 HD.out.2.2 ?_; simp only [Act.put]; refine cast (congrArg (fun z => wpList _ _ _ _ _ z) Hv.out.symm) ?_)
            | (go_at_call 20; refine (tlevel_none _ _ _ Hno2.out).mono ?_; rintro e wx ⟨rfl, rfl⟩)
            | (go_at_call 14; refine (tset_none _ _ _ Hno2.out).mono ?_; rintro e wx ⟨rfl, rfl⟩)
            | (go_at_call 21; refine (tdepth_none _ _ Hno2.out).mono ?_; rintro e wx ⟨rfl, rfl⟩)
            | (go_at_call 26; refine (tleaves_none _ _ Hno2.out).mono ?_; rintro e wx ⟨rfl, rfl⟩))
          go_roundw
          case rel => exact ⟨j + 1, by omega, by go_num, .inr ⟨_, rfl, by simp, (show Blk _ _ 70 [.pointer none, .int .i64 0, .slice none 0 0] from Blk.new rfl rfl).cell rfl⟩, Hbw2.out.alloc Hbw2.out.size _, _, rfl⟩
          case measure => simp [intOf]; omega
        · have hi2 : ¬ (j : Int) < 2 := by omega
          have Hbw := Lib.hid hbw
          clear hno hbw
          go_wp2_with (go_at_call 10; refine (works9_any _).mono ?_; rintro e w40 ⟨rfl, hb40⟩)
          go_ret
          exact ⟨rfl, Hbw.out.trans (hb40.mono Hbw.out.size)⟩

end Go.Proofs.Ytbdocaohnigekaa.treeKnown
