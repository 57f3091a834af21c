/-
  For all bytes x and y: two books made beside each other note one of them each, and tell of nothing else; InkApart returns true; no condition.
-/
import Derived.Test.YtamfjnomkefddaaOpen
import Derived.Test.YtamfjnomkefddaaLocal
import Derived.Test.YtamfjnomkefddaaAnyOrderH
import Derived.Deep.RegionHeld3
import Derived.Deep.RegionWith
import Derived.Deep.DeepCutAuto
namespace Go.Proofs.Ytamfjnomkefddaa.inkApart
open Go.ChangeShapes Go.WideShapes Go.ChangeAt Go.RowKit
set_option linter.unusedVariables false

set_option maxRecDepth 100000 in
set_option maxHeartbeats 6400000 in
theorem walk (Ax : Option Addr) (nx cx : Nat) (x : List UInt8) (Ay : Option Addr) (ny cy : Nat) (y : List UInt8) (w : World) (hx : ArgB w Ax nx cx x) (hy : ArgB w Ay ny cy y) :
    Calls Try.prog 8 #[.slice Ax nx cx, .slice Ay ny cy] w fun e w' => e = .returned (.bool true) ∧ Below w.heap.size w w' := by
  obtain ⟨hxl, hxc, hxm, hxB⟩ := hx
  obtain ⟨hyl, hyc, hym, hyB⟩ := hy
  obtain ⟨Dx, hDx, hDxv, hDx1⟩ := dig_cells x
  obtain ⟨Dy, hDy, hDyv, hDy1⟩ := dig_cells y
  have HD := Lib.hid (And.intro hDx (And.intro hDxv (And.intro hDx1 (And.intro hDy (And.intro hDyv hDy1)))))
  have Hx := Lib.hid (And.intro hxl (And.intro hxc (And.intro (show cx ≤ maxLen by unfold maxLen; omega) hxB)))
  have Hy := Lib.hid (And.intro hyl (And.intro hyc (And.intro (show cy ≤ maxLen by unfold maxLen; omega) hyB)))
  clear hDx hDxv hDx1 hDy hDyv hDy1 hxl hxc hxm hxB hyl hyc hym hyB
  go_enter Try.func8, Try.ntmps8
  go_wp2_with (go_at_call 26; refine (works3_any _).mono ?_; rintro e w0 ⟨rfl, hb0⟩)
  have Hb0 := Lib.hid hb0
  clear hb0
  refine (bnew_any _).mono ?_
  rintro e w1 ⟨S1, g1, rfl, hS1, hk1, hb1⟩
  have H1 := Lib.hid (And.intro hS1 (And.intro hk1 hb1))
  clear hS1 hk1 hb1
  go_wp2_with fail
  refine (bnew_any _).mono ?_
  rintro e w2 ⟨S2, g2, rfl, hS2, hk2, hb2⟩
  have H2 := Lib.hid (And.intro hS2 (And.intro hk2 (And.intro hb2 (H1.out.2.1.below hb2))))
  have z0 := Hb0.out.size
  have z1 := H1.out.2.2.size
  have z2 := hb2.size
  have b2 := Lib.hid ((Hb0.out.trans (H1.out.2.2.mono z0)).trans (hb2.mono (by omega)))
  clear hS2 hk2 hb2
  have hofx := bof_any S1 g1 [] false 0 Ax nx cx x w2 H2.out.2.2.2 (by decide) (by decide) (Hx.out.2.2.2.after b2.out) Hx.out.1 Hx.out.2.1 Hx.out.2.2.1
  rw [HD.out.2.1] at hofx
  have Hofx := Lib.hid hofx
  clear hofx
  go_wp2_with fail
  refine Hofx.out.mono ?_
  rintro e w3 ⟨rfl, hk3, hO3⟩
  obtain ⟨wS, hwS, hthi, hdS, hbS, hzS⟩ := dig_local w3 Dx HD.out.1
  have HwS := Lib.hid hwS
  have Hthi := Lib.hid hthi
  have z3 := hO3.size
  have b3 : Below w.heap.size w w3 := b2.out.trans (hO3.above (fun i hi => Nat.le_trans z0 (H1.out.1 i hi)) (by omega))
  have k3b : BookAt w3 S2 g2 [] false 0 := H2.out.2.1.stay z3 fun i hi => hO3.block i (H2.out.2.1.lt hi) fun e => by
    have h1 := H1.out.2.1.lt e
    have h2 := H2.out.1 i hi
    omega
  have H3 := Lib.hid (And.intro (hk3.below hbS) (And.intro (k3b.below hbS) (And.intro hdS (And.intro (b3.trans (hbS.mono (by omega))) hzS))))
  clear hk3 hO3 hwS hthi hdS hbS hzS b3 k3b
  have hofy := bof_any S2 g2 [] false 0 Ay ny cy y wS H3.out.2.1 (by decide) (by decide) (Hy.out.2.2.2.after H3.out.2.2.2.1) Hy.out.1 Hy.out.2.1 Hy.out.2.2.1
  rw [HD.out.2.2.2.2.1] at hofy
  have Hofy := Lib.hid hofy
  clear hofy
  go_wp2_with (refine wpList_store_mid rfl 28 _ _ rfl w3.heap.size 0 Dx.toArray rfl rfl Hthi.out.1 Hthi.out.2 HD.out.2.2.1 ?_; simp only [Act.put]; refine cast (congrArg (fun z => wpList _ _ _ _ _ z) HwS.out.symm) ?_)
  refine Hofy.out.mono ?_
  rintro e w4 ⟨rfl, hk4, hO4⟩
  obtain ⟨wT, hwT, hthiT, hdT, hbT, hzT⟩ := dig_local w4 Dy HD.out.2.2.2.1
  have HwT := Lib.hid hwT
  have HthiT := Lib.hid hthiT
  have z4 := hO4.size
  have zS := H3.out.2.2.2.2
  have b4 : Below w.heap.size w w4 := H3.out.2.2.2.1.trans (hO4.above (fun i hi => by have := H2.out.1 i hi; omega) (by omega))
  have k4a := H3.out.1.stay z4 fun i hi => hO4.block i (H3.out.1.lt hi) fun e => by
    have h2 := H2.out.1 i e
    have h3 := H2.out.2.1.lt e
    rcases hi with hi | hi
    · have := H1.out.2.1.lt hi; omega
    · omega
  have d4 : Blk w4 w3.heap.size 28 Dx := hO4.blk H3.out.2.2.1 fun e => by have := H2.out.2.1.lt e; omega
  have H4 := Lib.hid (And.intro (k4a.below hbT) (And.intro (hk4.below hbT) (And.intro (d4.below hbT d4.lt) (And.intro hdT (And.intro (b4.trans (hbT.mono (by omega))) hzT)))))
  clear hk4 hO4 hwT hthiT hdT hbT hzT b4 k4a d4
  have nX : x.length = nx := Hx.out.1
  have nY : y.length = ny := Hy.out.1
  by_cases hx6 : x.length ≤ 65536
  rotate_left
  · have e5 : ofE x = 5 := if_neg hx6
    rw [e5]
    have hgt : (65536 : Int) < nx := by omega
    clear e5
    go_wp2_with (refine wpList_store_mid rfl 28 _ _ rfl w4.heap.size 0 Dy.toArray rfl rfl HthiT.out.1 HthiT.out.2 HD.out.2.2.2.2.2 ?_; simp only [Act.put]; refine cast (congrArg (fun z => wpList _ _ _ _ _ z) HwT.out.symm) ?_)
    go_ret
    exact ⟨rfl, H4.out.2.2.2.2.1⟩
  have e0 : ofE x = 0 := if_pos hx6
  by_cases hy6 : y.length ≤ 65536
  rotate_left
  · have e5 : ofE y = 5 := if_neg hy6
    rw [e5, e0]
    have hgt : (65536 : Int) < ny := by omega
    have hle : (nx : Int) ≤ 65536 := by omega
    clear e5 e0
    go_wp2_with (refine wpList_store_mid rfl 28 _ _ rfl w4.heap.size 0 Dy.toArray rfl rfl HthiT.out.1 HthiT.out.2 HD.out.2.2.2.2.2 ?_; simp only [Act.put]; refine cast (congrArg (fun z => wpList _ _ _ _ _ z) HwT.out.symm) ?_)
    go_ret
    exact ⟨rfl, H4.out.2.2.2.2.1⟩
  have f0 : ofE y = 0 := if_pos hy6
  rw [e0, f0]
  clear e0 f0
  have dx : ofD x = digest x := if_pos hx6
  have dy : ofD y = digest y := if_pos hy6
  have ka := H4.out.1
  have kb := H4.out.2.1
  rw [one_noted x hx6] at ka
  rw [one_noted y hy6] at kb
  obtain ⟨zx, hzx⟩ : ∃ zx, (digest x == List.replicate 32 0) = zx := ⟨_, rfl⟩
  obtain ⟨zy, hzy⟩ : ∃ zy, (digest y == List.replicate 32 0) = zy := ⟨_, rfl⟩
  have hqx := eq_same Dx x (by rw [← HD.out.2.1, dx])
  have hqy := eq_same Dy y (by rw [← HD.out.2.2.2.2.1, dy])
  have hzqx := eq_zero32 Dx x (by rw [← HD.out.2.1, dx])
  have hzqy := eq_zero32 Dy y (by rw [← HD.out.2.2.2.2.1, dy])
  rw [hzx] at ka hzqx
  rw [hzy] at kb hzqy
  obtain ⟨m1, hm1⟩ := ka.blk
  obtain ⟨m2, hm2⟩ := kb.blk
  have bT := H4.out.2.2.2.2.1
  have hshx := of_any Ax nx cx x wT.drew (Hx.out.2.2.2.after bT.drew) Hx.out.1 Hx.out.2.1 Hx.out.2.2.1 (by omega)
  rw [← dx, HD.out.2.1] at hshx
  have hshy := fun w' (h : Below w.heap.size w w') => of_any Ay ny cy y w' (Hy.out.2.2.2.after h) Hy.out.1 Hy.out.2.1 Hy.out.2.2.1 (by omega)
  rw [← dy, HD.out.2.2.2.2.1] at hshy
  have Hshx := Lib.hid hshx
  have Hshy := Lib.hid hshy
  have H5 := Lib.hid (And.intro hm1 hm2)
  clear ka kb hshx hshy hm1 hm2 dx dy hzx hzy
  go_wp2_with (refine wpList_store_mid rfl 28 _ _ rfl w4.heap.size 0 Dy.toArray rfl rfl HthiT.out.1 HthiT.out.2 HD.out.2.2.2.2.2 ?_; simp only [Act.put]; refine cast (congrArg (fun z => wpList _ _ _ _ _ z) HwT.out.symm) ?_)
  have rx0 : wT.drew.rangeAt w3.heap.size 0 Dx := H4.out.2.2.1.range
  have ry0 : wT.drew.rangeAt w4.heap.size 0 Dy := H4.out.2.2.2.1.range
  have p0 : Blk wT.drew g1 50 (bcells m1 1 zx 1) := H5.out.1
  have q0 : Blk wT.drew g2 50 (bcells m2 1 zy 1) := H5.out.2
  have hud := Try.underlying28
  have hidx : (Try.prog.info? 28).map (·.size) = some Dx.length := by rw [HD.out.1]; exact info32b
  have hidy : (Try.prog.info? 28).map (·.size) = some Dy.length := by rw [HD.out.2.2.2.1]; exact info32b
  have Q0 : wT.drew.rangeAt w3.heap.size 0 Dx ∧ wT.drew.rangeAt w4.heap.size 0 Dy ∧ Blk wT.drew g1 50 (bcells m1 1 zx 1) ∧ Blk wT.drew g2 50 (bcells m2 1 zy 1) := ⟨rx0, ry0, p0, q0⟩
  refine wp_region_held_drew (S := fun W' => W'.rangeAt w3.heap.size 0 Dx ∧ W'.rangeAt w4.heap.size 0 Dy ∧ Blk W' g1 50 (bcells m1 1 zx 1) ∧ Blk W' g2 50 (bcells m2 1 zy 1)) (by kernel_rfl) Q0 (fun _ => ?_)
  refine anyH_load (i := 0) (d := 41) rfl rfl (by kernel_rfl) (by kernel_rfl) (by kernel_rfl) (by rfl) 28 _ rfl w3.heap.size 0 rfl Dx _ (fun _ h => h.1) Try.underlying28 rfl hidx (fun _ _ _ h => h) Q0 ?_
  simp only [List.setIfInBounds_toArray, List.set_cons_zero, List.set_cons_succ]
  refine anyH_take (i := 1) (d := 42) (v := ?v1) rfl rfl (by kernel_rfl) (by kernel_rfl) (by kernel_rfl) (fun _ _ _ h => h) (Or.inl ⟨by rfl, ?y1⟩) Q0 ?r1
  case y1 => (intro w; go_simp; try with_reducible rfl)
  simp only [List.setIfInBounds_toArray, List.set_cons_zero, List.set_cons_succ]
  refine anyH_one (i := 2) (by kernel_rfl) ?_
  refine wpOp_step rfl (fun K hK => ?_)
  go_simp
  refine Hshx.out.mono ?_
  rintro e w5 ⟨rfl, hb5⟩
  have Q1 : w5.rangeAt w3.heap.size 0 Dx ∧ w5.rangeAt w4.heap.size 0 Dy ∧ Blk w5 g1 50 (bcells m1 1 zx 1) ∧ Blk w5 g2 50 (bcells m2 1 zy 1) := ⟨range_below hb5 Q0.1, range_below hb5 Q0.2.1, Q0.2.2.1.below hb5 Q0.2.2.1.lt, Q0.2.2.2.below hb5 Q0.2.2.2.lt⟩
  refine hK _ _ ⟨Q1, ?_⟩
  clear hK K
  refine anyH_take (i := 3) (d := 44) (v := ?v3) rfl rfl (by kernel_rfl) (by kernel_rfl) (by kernel_rfl) (fun _ _ _ h => h) (Or.inl ⟨by rfl, ?y3⟩) Q1 ?r3
  case y3 => (intro w; go_simp; try with_reducible rfl)
  simp only [List.setIfInBounds_toArray, List.set_cons_zero, List.set_cons_succ]
  refine anyH_take (i := 4) (d := 45) (v := ?v4) rfl rfl (by kernel_rfl) (by kernel_rfl) (by kernel_rfl) (fun _ _ _ h => h) (Or.inl ⟨by rfl, ?y4⟩) Q1 ?r4
  case y4 => (intro w; go_simp; try with_reducible rfl)
  simp only [List.setIfInBounds_toArray, List.set_cons_zero, List.set_cons_succ]
  refine anyH_load (i := 5) (d := 46) rfl rfl (by kernel_rfl) (by kernel_rfl) (by kernel_rfl) (by rfl) 28 _ rfl w4.heap.size 0 rfl Dy _ (fun _ h => h.2.1) Try.underlying28 rfl hidy (fun _ _ _ h => h) Q1 ?_
  simp only [List.setIfInBounds_toArray, List.set_cons_zero, List.set_cons_succ]
  refine anyH_take (i := 6) (d := 47) (v := ?v6) rfl rfl (by kernel_rfl) (by kernel_rfl) (by kernel_rfl) (fun _ _ _ h => h) (Or.inl ⟨by rfl, ?y6⟩) Q1 ?r6
  case y6 => (intro w; go_simp; try with_reducible rfl)
  simp only [List.setIfInBounds_toArray, List.set_cons_zero, List.set_cons_succ]
  refine anyH_one (i := 7) (by kernel_rfl) ?_
  refine wpOp_step rfl (fun K hK => ?_)
  go_simp
  refine (Hshy.out w5 (bT.drew.trans (hb5.mono (by have := bT.size; exact this)))).mono ?_
  rintro e w6 ⟨rfl, hb6⟩
  have Q2 : w6.rangeAt w3.heap.size 0 Dx ∧ w6.rangeAt w4.heap.size 0 Dy ∧ Blk w6 g1 50 (bcells m1 1 zx 1) ∧ Blk w6 g2 50 (bcells m2 1 zy 1) := ⟨range_below hb6 Q1.1, range_below hb6 Q1.2.1, Q1.2.2.1.below hb6 Q1.2.2.1.lt, Q1.2.2.2.below hb6 Q1.2.2.2.lt⟩
  refine hK _ _ ⟨Q2, ?_⟩
  clear hK K
  refine anyH_take (i := 8) (d := 49) (v := ?v8) rfl rfl (by kernel_rfl) (by kernel_rfl) (by kernel_rfl) (fun _ _ _ h => h) (Or.inl ⟨by rfl, ?y8⟩) Q2 ?r8
  case y8 => (intro w; go_simp; try with_reducible rfl)
  simp only [List.setIfInBounds_toArray, List.set_cons_zero, List.set_cons_succ]
  refine anyH_take (i := 9) (d := 50) (v := ?v9) rfl rfl (by kernel_rfl) (by kernel_rfl) (by kernel_rfl) (fun _ _ _ h => h) (Or.inl ⟨by rfl, ?y9⟩) Q2 ?r9
  case y9 => (intro w; go_simp; try with_reducible rfl)
  simp only [List.setIfInBounds_toArray, List.set_cons_zero, List.set_cons_succ]
  refine anyH_take (i := 10) (d := 51) (v := ?v10) rfl rfl (by kernel_rfl) (by kernel_rfl) (by kernel_rfl) (fun _ _ _ h => h) (Or.inl ⟨by rfl, ?y10⟩) Q2 ?r10
  case y10 => (intro w; go_simp; try with_reducible rfl)
  simp only [List.setIfInBounds_toArray, List.set_cons_zero, List.set_cons_succ]
  refine anyH_take (i := 11) (d := 52) (v := ?v11) rfl rfl (by kernel_rfl) (by kernel_rfl) (by kernel_rfl) (fun _ _ _ h => h) (Or.inl ⟨by rfl, ?y11⟩) Q2 ?r11
  case y11 => (intro w; go_simp; try with_reducible rfl)
  simp only [List.setIfInBounds_toArray, List.set_cons_zero, List.set_cons_succ]
  refine anyH_one (i := 12) (by kernel_rfl) ?_
  refine wpOp_step rfl (fun K hK => ?_)
  go_simp
  refine (blen_any g1 m1 1 1 zx _ Q2.2.2.1).mono ?_
  rintro e w' ⟨rfl, rfl⟩
  refine hK _ _ ⟨Q2, ?_⟩
  clear hK K
  refine anyH_take (i := 13) (d := 54) (v := ?v13) rfl rfl (by kernel_rfl) (by kernel_rfl) (by kernel_rfl) (fun _ _ _ h => h) (Or.inl ⟨by rfl, ?y13⟩) Q2 ?r13
  case y13 => (intro w; go_simp; try with_reducible rfl)
  simp only [List.setIfInBounds_toArray, List.set_cons_zero, List.set_cons_succ]
  refine anyH_take (i := 14) (d := 55) (v := ?v14) rfl rfl (by kernel_rfl) (by kernel_rfl) (by kernel_rfl) (fun _ _ _ h => h) (Or.inl ⟨by rfl, ?y14⟩) Q2 ?r14
  case y14 => (intro w; go_simp; try with_reducible rfl)
  simp only [List.setIfInBounds_toArray, List.set_cons_zero, List.set_cons_succ]
  refine anyH_take (i := 15) (d := 56) (v := ?v15) rfl rfl (by kernel_rfl) (by kernel_rfl) (by kernel_rfl) (fun _ _ _ h => h) (Or.inl ⟨by rfl, ?y15⟩) Q2 ?r15
  case y15 => (intro w; go_simp; try with_reducible rfl)
  simp only [List.setIfInBounds_toArray, List.set_cons_zero, List.set_cons_succ]
  refine anyH_take (i := 16) (d := 57) (v := ?v16) rfl rfl (by kernel_rfl) (by kernel_rfl) (by kernel_rfl) (fun _ _ _ h => h) (Or.inl ⟨by rfl, ?y16⟩) Q2 ?r16
  case y16 => (intro w; go_simp; try with_reducible rfl)
  simp only [List.setIfInBounds_toArray, List.set_cons_zero, List.set_cons_succ]
  refine anyH_one (i := 17) (by kernel_rfl) ?_
  refine wpOp_step rfl (fun K hK => ?_)
  go_simp
  refine (blen_any g2 m2 1 1 zy _ Q2.2.2.2).mono ?_
  rintro e w' ⟨rfl, rfl⟩
  refine hK _ _ ⟨Q2, ?_⟩
  clear hK K
  refine anyH_take (i := 18) (d := 59) (v := ?v18) rfl rfl (by kernel_rfl) (by kernel_rfl) (by kernel_rfl) (fun _ _ _ h => h) (Or.inl ⟨by rfl, ?y18⟩) Q2 ?r18
  case y18 => (intro w; go_simp; try with_reducible rfl)
  simp only [List.setIfInBounds_toArray, List.set_cons_zero, List.set_cons_succ]
  refine anyH_take (i := 19) (d := 60) (v := ?v19) rfl rfl (by kernel_rfl) (by kernel_rfl) (by kernel_rfl) (fun _ _ _ h => h) (Or.inl ⟨by rfl, ?y19⟩) Q2 ?r19
  case y19 => (intro w; go_simp; try with_reducible rfl)
  simp only [List.setIfInBounds_toArray, List.set_cons_zero, List.set_cons_succ]
  refine anyH_take (i := 20) (d := 61) (v := ?v20) rfl rfl (by kernel_rfl) (by kernel_rfl) (by kernel_rfl) (fun _ _ _ h => h) (Or.inl ⟨by rfl, ?y20⟩) Q2 ?r20
  case y20 => (intro w; go_simp; try with_reducible rfl)
  simp only [List.setIfInBounds_toArray, List.set_cons_zero, List.set_cons_succ]
  refine anyH_take (i := 21) (d := 62) (v := ?v21) rfl rfl (by kernel_rfl) (by kernel_rfl) (by kernel_rfl) (fun _ _ _ h => h) (Or.inl ⟨by rfl, ?y21⟩) Q2 ?r21
  case y21 => (intro w; go_simp; try with_reducible rfl)
  simp only [List.setIfInBounds_toArray, List.set_cons_zero, List.set_cons_succ]
  refine anyH_load (i := 23) (d := 64) rfl rfl (by kernel_rfl) (by kernel_rfl) (by kernel_rfl) (by rfl) 28 _ rfl w3.heap.size 0 rfl Dx _ (fun _ h => h.1) Try.underlying28 rfl hidx (fun _ _ _ h => h) Q2 ?_
  simp only [List.setIfInBounds_toArray, List.set_cons_zero, List.set_cons_succ]
  refine anyH_take (i := 24) (d := 65) (v := ?v24) rfl rfl (by kernel_rfl) (by kernel_rfl) (by kernel_rfl) (fun _ _ _ h => h) (Or.inl ⟨by rfl, ?y24⟩) Q2 ?r24
  case y24 => (intro w; go_simp; try with_reducible rfl)
  simp only [List.setIfInBounds_toArray, List.set_cons_zero, List.set_cons_succ]
  refine anyH_take (i := 25) (d := 66) (v := ?v25) rfl rfl (by kernel_rfl) (by kernel_rfl) (by kernel_rfl) (fun _ _ _ h => h) (Or.inl ⟨by rfl, ?y25⟩) Q2 ?r25
  case y25 => (intro w; go_simp; try with_reducible rfl)
  simp only [List.setIfInBounds_toArray, List.set_cons_zero, List.set_cons_succ]
  refine anyH_one (i := 22) (by kernel_rfl) ?_
  refine wpOp_step rfl (fun K hK => ?_)
  go_simp
  refine (bclash_any g1 m1 1 1 zx _ Q2.2.2.1).mono ?_
  rintro e w' ⟨rfl, rfl⟩
  refine hK _ _ ⟨Q2, ?_⟩
  clear hK K
  refine anyH_take (i := 26) (d := 67) (v := ?v26) rfl rfl (by kernel_rfl) (by kernel_rfl) (by kernel_rfl) (fun _ _ _ h => h) (Or.inl ⟨by rfl, ?y26⟩) Q2 ?r26
  case y26 => (intro w; go_simp; try with_reducible rfl)
  simp only [List.setIfInBounds_toArray, List.set_cons_zero, List.set_cons_succ]
  refine anyH_take (i := 27) (d := 68) (v := ?v27) rfl rfl (by kernel_rfl) (by kernel_rfl) (by kernel_rfl) (fun _ _ _ h => h) (Or.inl ⟨by rfl, ?y27⟩) Q2 ?r27
  case y27 => (intro w; go_simp; try with_reducible rfl)
  simp only [List.setIfInBounds_toArray, List.set_cons_zero, List.set_cons_succ]
  refine anyH_take (i := 28) (d := 69) (v := ?v28) rfl rfl (by kernel_rfl) (by kernel_rfl) (by kernel_rfl) (fun _ _ _ h => h) (Or.inl ⟨by rfl, ?y28⟩) Q2 ?r28
  case y28 => (intro w; go_simp; try with_reducible rfl)
  simp only [List.setIfInBounds_toArray, List.set_cons_zero, List.set_cons_succ]
  refine anyH_take (i := 29) (d := 70) (v := ?v29) rfl rfl (by kernel_rfl) (by kernel_rfl) (by kernel_rfl) (fun _ _ _ h => h) (Or.inl ⟨by rfl, ?y29⟩) Q2 ?r29
  case y29 => (intro w; go_simp; try with_reducible rfl)
  simp only [List.setIfInBounds_toArray, List.set_cons_zero, List.set_cons_succ]
  refine anyH_load (i := 31) (d := 72) rfl rfl (by kernel_rfl) (by kernel_rfl) (by kernel_rfl) (by rfl) 28 _ rfl w4.heap.size 0 rfl Dy _ (fun _ h => h.2.1) Try.underlying28 rfl hidy (fun _ _ _ h => h) Q2 ?_
  simp only [List.setIfInBounds_toArray, List.set_cons_zero, List.set_cons_succ]
  refine anyH_take (i := 32) (d := 73) (v := ?v32) rfl rfl (by kernel_rfl) (by kernel_rfl) (by kernel_rfl) (fun _ _ _ h => h) (Or.inl ⟨by rfl, ?y32⟩) Q2 ?r32
  case y32 => (intro w; go_simp; try with_reducible rfl)
  simp only [List.setIfInBounds_toArray, List.set_cons_zero, List.set_cons_succ]
  refine anyH_take (i := 33) (d := 74) (v := ?v33) rfl rfl (by kernel_rfl) (by kernel_rfl) (by kernel_rfl) (fun _ _ _ h => h) (Or.inl ⟨by rfl, ?y33⟩) Q2 ?r33
  case y33 => (intro w; go_simp; try with_reducible rfl)
  simp only [List.setIfInBounds_toArray, List.set_cons_zero, List.set_cons_succ]
  refine anyH_one (i := 30) (by kernel_rfl) ?_
  refine wpOp_step rfl (fun K hK => ?_)
  go_simp
  refine (bclash_any g2 m2 1 1 zy _ Q2.2.2.2).mono ?_
  rintro e w' ⟨rfl, rfl⟩
  refine hK _ _ ⟨Q2, ?_⟩
  clear hK K
  refine anyH_take (i := 34) (d := 75) (v := ?v34) rfl rfl (by kernel_rfl) (by kernel_rfl) (by kernel_rfl) (fun _ _ _ h => h) (Or.inl ⟨by rfl, ?y34⟩) Q2 ?r34
  case y34 => (intro w; go_simp; try with_reducible rfl)
  simp only [List.setIfInBounds_toArray, List.set_cons_zero, List.set_cons_succ]
  refine anyH_take (i := 35) (d := 76) (v := ?v35) rfl rfl (by kernel_rfl) (by kernel_rfl) (by kernel_rfl) (fun _ _ _ h => h) (Or.inl ⟨by rfl, ?y35⟩) Q2 ?r35
  case y35 => (intro w; go_simp; try with_reducible rfl)
  simp only [List.setIfInBounds_toArray, List.set_cons_zero, List.set_cons_succ]
  refine anyH_take (i := 36) (d := 4) (v := ?v36) rfl rfl (by kernel_rfl) (by kernel_rfl) (by kernel_rfl) (fun _ _ _ h => h) (Or.inl ⟨by rfl, ?y36⟩) Q2 ?r36
  case y36 => (intro w; go_simp; try with_reducible rfl)
  simp only [List.setIfInBounds_toArray, List.set_cons_zero, List.set_cons_succ]
  refine wpAnyH_done (by kernel_rfl) ?_ _
  go_wp2
  go_ret
  have h5 := bT.drew.trans (hb5.mono (by have := bT.size; exact this))
  exact ⟨rfl, h5.trans (hb6.mono h5.size)⟩

end Go.Proofs.Ytamfjnomkefddaa.inkApart
