/-
  Laid together for a hand-in: Wo16.
-/
import Derived.Test.YtfaeechidjpjbaaGreatZ21
import Derived.Deep.RegionHeld3

namespace Go.Proofs.YtfaeechidjpjbaaGreat
open Go.RowKit Go.Maps
set_option linter.unusedVariables false
set_option linter.unusedSimpArgs false
theorem lfs_form {w : World} {base : Nat} {v : Va} {u : Value} {vs : List Value} (h : LfS w base v 13 u vs) : ∃ A c, u = .slice A 13 c := by
  obtain ⟨h1, ⟨h2, h3⟩ | ⟨g, cap, cur, h3, h4, h5, h6⟩⟩ := h.own
  · have := h.len; omega
  · rw [h.len] at h3
    exact ⟨_, _, h3⟩
set_option maxRecDepth 100000 in
set_option maxHeartbeats 6400000 in
theorem works_any (w : World) : Calls Tryz.prog 19 #[] w fun e w' => e = .returned (.bool true) ∧ Below w.heap.size w w' := by
  have Hs := Lib.hid (fun W : World => sixteen_any 7 W)
  go_enter Tryz.func19, Tryz.ntmps19
  go_wp2_with fail
  refine (bnew_any _).mono ?_
  rintro e w1 ⟨S, gk, bm, rfl, hS, hb, hb1⟩
  have hk1 := kb_new hS hb
  have Hn := Lib.hid (vnew_any hk1 hb1.size (by decide) (gr := 1) (by decide))
  have H1 := Lib.hid hb1
  clear hS hb hk1 hb1
  go_wp2_with fail
  refine Hn.out.mono ?_
  rintro e w2 ⟨rfl, hV, _, hO⟩
  have hb2 : Below w.heap.size w w2 := H1.out.trans (hO.above (fun i hi => hi.1) H1.out.size)
  have H2 := Lib.hid (And.intro hV (And.intro hb2 H1.out.size))
  clear hV hb2 hO Hn H1
  go_wp2_with fail
  refine (Hs.out _).mono ?_
  rintro e w3 ⟨d, rfl, hN⟩
  obtain ⟨A, c, rfl, hl1, hc1, hB1⟩ := hN.form
  rw [show (List.replicate 16 (7 : UInt8)).length = 16 by simp] at hN ⊢
  obtain ⟨SV, hSV⟩ : ∃ SV : List Value, [.int .i64 0, .slice A 16 c, .int .i64 0, .slice none 0 0] = SV := ⟨_, rfl⟩
  obtain ⟨w4, hw4⟩ : ∃ w4, w3.alloc (.cells #[.int .i64 0, .slice A 16 c, .int .i64 0, .slice none 0 0] 48) = w4 := ⟨_, rfl⟩
  have K0 : Hid (Wk w w1.heap.size w3.heap.size (.pointer (some ⟨gk, 0, none⟩)) A c SV vw0 w4) := by
    obtain ⟨⟨cs, hV⟩, hb2, hz1⟩ := H2.out
    have hb4 : Below w3.heap.size w3 w4 := by rw [← hw4]; exact (Below.refl _ _).alloc (Nat.le_refl _) _
    have hbb := hN.2.trans (hb4.mono hN.2.size)
    have hlt := hV.lt _ rfl
    have hz3 := hN.2.size
    refine ⟨⟨_, cs, hV.below hbb, fun i hi => by subst hi; exact hz1⟩, hb2.trans (hbb.mono hb2.size), ?_, hSV.symm, hB1.on hb4, by omega, fun b hb => ?_⟩
    · rw [← hw4, ← hSV]; exact Blk.new rfl rfl
    · have := own_new (w' := w3) hN.1 b hb; omega
  clear hN hl1 hc1 hB1 hSV
  have Hw4 := Lib.hid hw4
  clear hw4 H2 Hs
  have Hs4 : Hid ((Tryz.prog.info? 48).map (·.size) = some SV.length) := by
    refine Lib.hid ?_
    rw [K0.out.sv]; exact ans_size
  go_upto_region 5 with fail
  rw [Hw4.out]
  generalize w1.heap.size = gv at *
  generalize w3.heap.size = zb at *
  obtain ⟨w5, hw5⟩ : ∃ W, w4.drew = W := ⟨_, rfl⟩
  have K0' := Lib.hid (K0.out.below (w' := w5) (by rw [← hw5]; exact (Below.refl _ _).drew))
  have s0 := K0'.out.held
  refine wp_region_held_drew (S := (fun W : World => W.rangeAt zb 0 SV)) (by kernel_rfl) (by rw [hw5]; exact s0) (fun _ => ?_)
  rw [hw5]
  clear hw5
  clear K0
  have K0 := K0'
  clear K0'
  refine anyH_take (i := 0) (d := 15) (v := ?a0) rfl rfl (by kernel_rfl) (by kernel_rfl) (by kernel_rfl) (fun _ _ _ h => h) (Or.inl ⟨by rfl, ?ay0⟩) s0 ?ar0
  case ay0 => (intro w; go_simp; try with_reducible rfl)
  simp only [List.setIfInBounds_toArray, List.set_cons_zero, List.set_cons_succ]
  refine anyH_take (i := 2) (d := 17) (v := ?a2) rfl rfl (by kernel_rfl) (by kernel_rfl) (by kernel_rfl) (fun _ _ _ h => h) (Or.inl ⟨by rfl, ?ay2⟩) s0 ?ar2
  case ay2 => (intro w; go_simp; try with_reducible rfl)
  simp only [List.setIfInBounds_toArray, List.set_cons_zero, List.set_cons_succ]
  refine anyH_one (i := 1) (by kernel_rfl) ?_
  refine st3_call rfl (by rfl) (f := 39) (vals := #[.int .i64 31, .int .i64 1, .int .i64 0, .int .i64 3, .int .u8 7]) (Z := fun v w' => Zl wx1 w5 v w') ?_ ?_ ?_
  · unfold execOp
    simp only [List.getElem_toArray, List.getElem_cons_succ, List.getElem_cons_zero, resolve, invoke, Sem.run_bind, Sem.run_pure, Result.andThen_ok, List.map_toArray, List.map_cons, List.map_nil]
    first | rfl | exact enters_of Tryz.func39 (by kernel_rfl) rfl _ _
  · exact cx1 w5
  rintro v w6 ⟨D, nd, cd, N, nn, cn, rfl, hA, hbx⟩
  have K1 := Lib.hid (K0.out.below hbx)
  have s1 := K1.out.held
  refine ⟨s1, ?_⟩
  simp only [List.getElem_toArray, List.getElem_cons_succ, List.getElem_cons_zero, Act.put, List.setIfInBounds_toArray, List.set_cons_zero, List.set_cons_succ]
  have HA := Lib.hid hA
  clear hA hbx
  refine anyH_one (i := 3) (by kernel_rfl) ?_
  refine st3_call rfl (by rfl) (f := 34) (vals := #[.pointer (some ⟨gv, 0, none⟩), .agg #[.int .i64 wx1.cl, .int .i64 wx1.sp, .int .i64 wx1.gr, .int .i64 wx1.ep, .int .i64 wx1.kd, .int .i64 wx1.bl, .slice D nd cd, .int .i64 wx1.od, .int .i64 wx1.nw, .slice N nn cn], .agg #[.int .i64 0, .slice none 0 0, .int .i64 0, .slice none 0 0]]) (Z := fun v w' => v = .bool true ∧ Wk w gv zb (.pointer (some ⟨gk, 0, none⟩)) A c SV vw1 w') ?_ ?_ ?_
  · unfold execOp
    simp only [List.getElem_toArray, List.getElem_cons_succ, List.getElem_cons_zero, resolve, invoke, Sem.run_bind, Sem.run_pure, Result.andThen_ok, List.map_toArray, List.map_cons, List.map_nil]
    first | rfl | exact enters_of Tryz.func34 (by kernel_rfl) rfl _ _
  · exact (K1.out.does0 HA.out mx1 (gx.1) ax1).mono fun e w' ⟨he, h2⟩ => ⟨_, he, rfl, h2⟩
  rintro v w7 ⟨rfl, hk⟩
  have K2 := Lib.hid (hk)
  have s2 := K2.out.held
  refine ⟨s2, ?_⟩
  simp only [List.getElem_toArray, List.getElem_cons_succ, List.getElem_cons_zero, Act.put, List.setIfInBounds_toArray, List.set_cons_zero, List.set_cons_succ]
  clear hk HA
  refine anyH_take (i := 4) (d := 19) (v := ?a4) rfl rfl (by kernel_rfl) (by kernel_rfl) (by kernel_rfl) (fun _ _ _ h => h) (Or.inl ⟨by rfl, ?ay4⟩) s2 ?ar4
  case ay4 => (intro w; go_simp; try with_reducible rfl)
  simp only [List.setIfInBounds_toArray, List.set_cons_zero, List.set_cons_succ]
  refine anyH_take (i := 5) (d := 20) (v := ?b5) rfl rfl (by kernel_rfl) (by kernel_rfl) (by kernel_rfl) (fun _ _ _ h => h) (Or.inl ⟨by rfl, ?by5⟩) s2 ?br5
  case by5 => (intro w; go_simp; try with_reducible rfl)
  simp only [List.setIfInBounds_toArray, List.set_cons_zero, List.set_cons_succ]
  refine anyH_load (i := 7) (d := 22) rfl rfl (by kernel_rfl) (by kernel_rfl) (by kernel_rfl) (by rfl) 48 _ rfl zb 0 rfl SV _ (fun W hSW => hSW) Tryz.underlying48 rfl Hs4.out (fun _ _ _ h => h) s2 ?_
  simp only [List.setIfInBounds_toArray, List.set_cons_zero, List.set_cons_succ]
  refine anyH_one (i := 6) (by kernel_rfl) ?_
  refine st3_call rfl (by rfl) (f := 28) (vals := #[.int .i64 32, .int .i64 5, .int .i64 0, .int .i64 3]) (Z := fun v w' => Zl wx2 w7 v w') ?_ ?_ ?_
  · unfold execOp
    simp only [List.getElem_toArray, List.getElem_cons_succ, List.getElem_cons_zero, resolve, invoke, Sem.run_bind, Sem.run_pure, Result.andThen_ok, List.map_toArray, List.map_cons, List.map_nil]
    first | rfl | exact enters_of Tryz.func28 (by kernel_rfl) rfl _ _
  · exact cxr 32 5 0 3 (by decide) (by decide) (by decide) (by decide) w7
  rintro v w8 ⟨D, nd, cd, N, nn, cn, rfl, hA, hbx⟩
  have K3 := Lib.hid (K2.out.below hbx)
  have s3 := K3.out.held
  refine ⟨s3, ?_⟩
  simp only [List.getElem_toArray, List.getElem_cons_succ, List.getElem_cons_zero, Act.put, List.setIfInBounds_toArray, List.set_cons_zero, List.set_cons_succ]
  have HA := Lib.hid hA
  clear hA hbx
  refine anyH_one (i := 8) (by kernel_rfl) ?_
  refine st3_call rfl (by rfl) (f := 34) (vals := #[.pointer (some ⟨gv, 0, none⟩), .agg #[.int .i64 wx2.cl, .int .i64 wx2.sp, .int .i64 wx2.gr, .int .i64 wx2.ep, .int .i64 wx2.kd, .int .i64 wx2.bl, .slice D nd cd, .int .i64 wx2.od, .int .i64 wx2.nw, .slice N nn cn], .agg SV.toArray]) (Z := fun v w' => v = .bool true ∧ Wk w gv zb (.pointer (some ⟨gk, 0, none⟩)) A c SV vw2 w') ?_ ?_ ?_
  · unfold execOp
    simp only [List.getElem_toArray, List.getElem_cons_succ, List.getElem_cons_zero, resolve, invoke, Sem.run_bind, Sem.run_pure, Result.andThen_ok, List.map_toArray, List.map_cons, List.map_nil]
    first | rfl | exact enters_of Tryz.func34 (by kernel_rfl) rfl _ _
  · exact (K3.out.does7 HA.out mx2 (gx.2.1) ax2).mono fun e w' ⟨he, h2⟩ => ⟨_, he, rfl, h2⟩
  rintro v w9 ⟨rfl, hk⟩
  have K4 := Lib.hid (hk)
  have s4 := K4.out.held
  refine ⟨s4, ?_⟩
  simp only [List.getElem_toArray, List.getElem_cons_succ, List.getElem_cons_zero, Act.put, List.setIfInBounds_toArray, List.set_cons_zero, List.set_cons_succ]
  clear hk HA
  refine anyH_take (i := 9) (d := 24) (v := ?b9) rfl rfl (by kernel_rfl) (by kernel_rfl) (by kernel_rfl) (fun _ _ _ h => h) (Or.inl ⟨by rfl, ?by9⟩) s4 ?br9
  case by9 => (intro w; go_simp; try with_reducible rfl)
  simp only [List.setIfInBounds_toArray, List.set_cons_zero, List.set_cons_succ]
  refine anyH_take (i := 10) (d := 25) (v := ?b10) rfl rfl (by kernel_rfl) (by kernel_rfl) (by kernel_rfl) (fun _ _ _ h => h) (Or.inl ⟨by rfl, ?by10⟩) s4 ?br10
  case by10 => (intro w; go_simp; try with_reducible rfl)
  simp only [List.setIfInBounds_toArray, List.set_cons_zero, List.set_cons_succ]
  refine anyH_take (i := 11) (d := 26) (v := ?c11) rfl rfl (by kernel_rfl) (by kernel_rfl) (by kernel_rfl) (fun _ _ _ h => h) (Or.inl ⟨by rfl, ?cy11⟩) s4 ?cr11
  case cy11 => (intro w; go_simp; try with_reducible rfl)
  simp only [List.setIfInBounds_toArray, List.set_cons_zero, List.set_cons_succ]
  refine anyH_load (i := 13) (d := 28) rfl rfl (by kernel_rfl) (by kernel_rfl) (by kernel_rfl) (by rfl) 48 _ rfl zb 0 rfl SV _ (fun W hSW => hSW) Tryz.underlying48 rfl Hs4.out (fun _ _ _ h => h) s4 ?_
  simp only [List.setIfInBounds_toArray, List.set_cons_zero, List.set_cons_succ]
  refine anyH_one (i := 12) (by kernel_rfl) ?_
  refine st3_call rfl (by rfl) (f := 28) (vals := #[.int .i64 32, .int .i64 5, .int .i64 0, .int .i64 0]) (Z := fun v w' => Zl wx3 w9 v w') ?_ ?_ ?_
  · unfold execOp
    simp only [List.getElem_toArray, List.getElem_cons_succ, List.getElem_cons_zero, resolve, invoke, Sem.run_bind, Sem.run_pure, Result.andThen_ok, List.map_toArray, List.map_cons, List.map_nil]
    first | rfl | exact enters_of Tryz.func28 (by kernel_rfl) rfl _ _
  · exact cxr 32 5 0 0 (by decide) (by decide) (by decide) (by decide) w9
  rintro v w10 ⟨D, nd, cd, N, nn, cn, rfl, hA, hbx⟩
  have K5 := Lib.hid (K4.out.below hbx)
  have s5 := K5.out.held
  refine ⟨s5, ?_⟩
  simp only [List.getElem_toArray, List.getElem_cons_succ, List.getElem_cons_zero, Act.put, List.setIfInBounds_toArray, List.set_cons_zero, List.set_cons_succ]
  have HA := Lib.hid hA
  clear hA hbx
  refine anyH_one (i := 14) (by kernel_rfl) ?_
  refine st3_call rfl (by rfl) (f := 34) (vals := #[.pointer (some ⟨gv, 0, none⟩), .agg #[.int .i64 wx3.cl, .int .i64 wx3.sp, .int .i64 wx3.gr, .int .i64 wx3.ep, .int .i64 wx3.kd, .int .i64 wx3.bl, .slice D nd cd, .int .i64 wx3.od, .int .i64 wx3.nw, .slice N nn cn], .agg SV.toArray]) (Z := fun v w' => v = .bool true ∧ Wk w gv zb (.pointer (some ⟨gk, 0, none⟩)) A c SV vw3 w') ?_ ?_ ?_
  · unfold execOp
    simp only [List.getElem_toArray, List.getElem_cons_succ, List.getElem_cons_zero, resolve, invoke, Sem.run_bind, Sem.run_pure, Result.andThen_ok, List.map_toArray, List.map_cons, List.map_nil]
    first | rfl | exact enters_of Tryz.func34 (by kernel_rfl) rfl _ _
  · exact (K5.out.does7 HA.out mx3 (gx.2.2.1) ax3).mono fun e w' ⟨he, h2⟩ => ⟨_, he, rfl, h2⟩
  rintro v w11 ⟨rfl, hk⟩
  have K6 := Lib.hid (hk)
  have s6 := K6.out.held
  refine ⟨s6, ?_⟩
  simp only [List.getElem_toArray, List.getElem_cons_succ, List.getElem_cons_zero, Act.put, List.setIfInBounds_toArray, List.set_cons_zero, List.set_cons_succ]
  clear hk HA
  refine anyH_take (i := 15) (d := 30) (v := ?c15) rfl rfl (by kernel_rfl) (by kernel_rfl) (by kernel_rfl) (fun _ _ _ h => h) (Or.inl ⟨by rfl, ?cy15⟩) s6 ?cr15
  case cy15 => (intro w; go_simp; try with_reducible rfl)
  simp only [List.setIfInBounds_toArray, List.set_cons_zero, List.set_cons_succ]
  refine anyH_take (i := 16) (d := 31) (v := ?c16) rfl rfl (by kernel_rfl) (by kernel_rfl) (by kernel_rfl) (fun _ _ _ h => h) (Or.inl ⟨by rfl, ?cy16⟩) s6 ?cr16
  case cy16 => (intro w; go_simp; try with_reducible rfl)
  simp only [List.setIfInBounds_toArray, List.set_cons_zero, List.set_cons_succ]
  refine anyH_take (i := 17) (d := 32) (v := ?d17) rfl rfl (by kernel_rfl) (by kernel_rfl) (by kernel_rfl) (fun _ _ _ h => h) (Or.inl ⟨by rfl, ?dy17⟩) s6 ?dr17
  case dy17 => (intro w; go_simp; try with_reducible rfl)
  simp only [List.setIfInBounds_toArray, List.set_cons_zero, List.set_cons_succ]
  refine anyH_take (i := 19) (d := 34) (v := ?d19) rfl rfl (by kernel_rfl) (by kernel_rfl) (by kernel_rfl) (fun _ _ _ h => h) (Or.inl ⟨by rfl, ?dy19⟩) s6 ?dr19
  case dy19 => (intro w; go_simp; try with_reducible rfl)
  simp only [List.setIfInBounds_toArray, List.set_cons_zero, List.set_cons_succ]
  refine anyH_one (i := 18) (by kernel_rfl) ?_
  refine st3_call rfl (by rfl) (f := 28) (vals := #[.int .i64 32, .int .i64 4, .int .i64 0, .int .i64 3]) (Z := fun v w' => Zl wx4 w11 v w') ?_ ?_ ?_
  · unfold execOp
    simp only [List.getElem_toArray, List.getElem_cons_succ, List.getElem_cons_zero, resolve, invoke, Sem.run_bind, Sem.run_pure, Result.andThen_ok, List.map_toArray, List.map_cons, List.map_nil]
    first | rfl | exact enters_of Tryz.func28 (by kernel_rfl) rfl _ _
  · exact cxr 32 4 0 3 (by decide) (by decide) (by decide) (by decide) w11
  rintro v w12 ⟨D, nd, cd, N, nn, cn, rfl, hA, hbx⟩
  have K7 := Lib.hid (K6.out.below hbx)
  have s7 := K7.out.held
  refine ⟨s7, ?_⟩
  simp only [List.getElem_toArray, List.getElem_cons_succ, List.getElem_cons_zero, Act.put, List.setIfInBounds_toArray, List.set_cons_zero, List.set_cons_succ]
  have HA := Lib.hid hA
  clear hA hbx
  refine anyH_one (i := 20) (by kernel_rfl) ?_
  refine st3_call rfl (by rfl) (f := 34) (vals := #[.pointer (some ⟨gv, 0, none⟩), .agg #[.int .i64 wx4.cl, .int .i64 wx4.sp, .int .i64 wx4.gr, .int .i64 wx4.ep, .int .i64 wx4.kd, .int .i64 wx4.bl, .slice D nd cd, .int .i64 wx4.od, .int .i64 wx4.nw, .slice N nn cn], .agg #[.int .i64 172, .slice none 0 0, .int .i64 0, .slice none 0 0]]) (Z := fun v w' => v = .bool true ∧ Wk w gv zb (.pointer (some ⟨gk, 0, none⟩)) A c SV vw4 w') ?_ ?_ ?_
  · unfold execOp
    simp only [List.getElem_toArray, List.getElem_cons_succ, List.getElem_cons_zero, resolve, invoke, Sem.run_bind, Sem.run_pure, Result.andThen_ok, List.map_toArray, List.map_cons, List.map_nil]
    first | rfl | exact enters_of Tryz.func34 (by kernel_rfl) rfl _ _
  · exact (K7.out.does0 HA.out mx4 (gx.2.2.2.1) ax4).mono fun e w' ⟨he, h2⟩ => ⟨_, he, rfl, h2⟩
  rintro v w13 ⟨rfl, hk⟩
  have K8 := Lib.hid (hk)
  have s8 := K8.out.held
  refine ⟨s8, ?_⟩
  simp only [List.getElem_toArray, List.getElem_cons_succ, List.getElem_cons_zero, Act.put, List.setIfInBounds_toArray, List.set_cons_zero, List.set_cons_succ]
  clear hk HA
  refine anyH_take (i := 21) (d := 36) (v := ?d21) rfl rfl (by kernel_rfl) (by kernel_rfl) (by kernel_rfl) (fun _ _ _ h => h) (Or.inl ⟨by rfl, ?dy21⟩) s8 ?dr21
  case dy21 => (intro w; go_simp; try with_reducible rfl)
  simp only [List.setIfInBounds_toArray, List.set_cons_zero, List.set_cons_succ]
  refine anyH_take (i := 22) (d := 37) (v := ?d22) rfl rfl (by kernel_rfl) (by kernel_rfl) (by kernel_rfl) (fun _ _ _ h => h) (Or.inl ⟨by rfl, ?dy22⟩) s8 ?dr22
  case dy22 => (intro w; go_simp; try with_reducible rfl)
  simp only [List.setIfInBounds_toArray, List.set_cons_zero, List.set_cons_succ]
  refine anyH_take (i := 23) (d := 38) (v := ?e23) rfl rfl (by kernel_rfl) (by kernel_rfl) (by kernel_rfl) (fun _ _ _ h => h) (Or.inl ⟨by rfl, ?ey23⟩) s8 ?er23
  case ey23 => (intro w; go_simp; try with_reducible rfl)
  simp only [List.setIfInBounds_toArray, List.set_cons_zero, List.set_cons_succ]
  refine anyH_take (i := 25) (d := 40) (v := ?e25) rfl rfl (by kernel_rfl) (by kernel_rfl) (by kernel_rfl) (fun _ _ _ h => h) (Or.inl ⟨by rfl, ?ey25⟩) s8 ?er25
  case ey25 => (intro w; go_simp; try with_reducible rfl)
  simp only [List.setIfInBounds_toArray, List.set_cons_zero, List.set_cons_succ]
  refine anyH_one (i := 24) (by kernel_rfl) ?_
  refine st3_call rfl (by rfl) (f := 28) (vals := #[.int .i64 31, .int .i64 2, .int .i64 1, .int .i64 3]) (Z := fun v w' => Zl wx5 w13 v w') ?_ ?_ ?_
  · unfold execOp
    simp only [List.getElem_toArray, List.getElem_cons_succ, List.getElem_cons_zero, resolve, invoke, Sem.run_bind, Sem.run_pure, Result.andThen_ok, List.map_toArray, List.map_cons, List.map_nil]
    first | rfl | exact enters_of Tryz.func28 (by kernel_rfl) rfl _ _
  · exact cxr 31 2 1 3 (by decide) (by decide) (by decide) (by decide) w13
  rintro v w14 ⟨D, nd, cd, N, nn, cn, rfl, hA, hbx⟩
  have K9 := Lib.hid (K8.out.below hbx)
  have s9 := K9.out.held
  refine ⟨s9, ?_⟩
  simp only [List.getElem_toArray, List.getElem_cons_succ, List.getElem_cons_zero, Act.put, List.setIfInBounds_toArray, List.set_cons_zero, List.set_cons_succ]
  have HA := Lib.hid hA
  clear hA hbx
  refine anyH_one (i := 26) (by kernel_rfl) ?_
  refine st3_call rfl (by rfl) (f := 34) (vals := #[.pointer (some ⟨gv, 0, none⟩), .agg #[.int .i64 wx5.cl, .int .i64 wx5.sp, .int .i64 wx5.gr, .int .i64 wx5.ep, .int .i64 wx5.kd, .int .i64 wx5.bl, .slice D nd cd, .int .i64 wx5.od, .int .i64 wx5.nw, .slice N nn cn], .agg #[.int .i64 171, .slice none 0 0, .int .i64 0, .slice none 0 0]]) (Z := fun v w' => v = .bool true ∧ Wk w gv zb (.pointer (some ⟨gk, 0, none⟩)) A c SV vw5 w') ?_ ?_ ?_
  · unfold execOp
    simp only [List.getElem_toArray, List.getElem_cons_succ, List.getElem_cons_zero, resolve, invoke, Sem.run_bind, Sem.run_pure, Result.andThen_ok, List.map_toArray, List.map_cons, List.map_nil]
    first | rfl | exact enters_of Tryz.func34 (by kernel_rfl) rfl _ _
  · exact (K9.out.does0 HA.out mx5 (gx.2.2.2.2.1) ax5).mono fun e w' ⟨he, h2⟩ => ⟨_, he, rfl, h2⟩
  rintro v w15 ⟨rfl, hk⟩
  have K10 := Lib.hid (hk)
  have s10 := K10.out.held
  refine ⟨s10, ?_⟩
  simp only [List.getElem_toArray, List.getElem_cons_succ, List.getElem_cons_zero, Act.put, List.setIfInBounds_toArray, List.set_cons_zero, List.set_cons_succ]
  clear hk HA
  refine anyH_take (i := 27) (d := 42) (v := ?e27) rfl rfl (by kernel_rfl) (by kernel_rfl) (by kernel_rfl) (fun _ _ _ h => h) (Or.inl ⟨by rfl, ?ey27⟩) s10 ?er27
  case ey27 => (intro w; go_simp; try with_reducible rfl)
  simp only [List.setIfInBounds_toArray, List.set_cons_zero, List.set_cons_succ]
  refine anyH_take (i := 28) (d := 4) (v := ?e28) rfl rfl (by kernel_rfl) (by kernel_rfl) (by kernel_rfl) (fun _ _ _ h => h) (Or.inl ⟨by rfl, ?ey28⟩) s10 ?er28
  case ey28 => (intro w; go_simp; try with_reducible rfl)
  simp only [List.setIfInBounds_toArray, List.set_cons_zero, List.set_cons_succ]
  refine wpAnyH_done (by kernel_rfl) ?_ _
  go_wp2
  obtain ⟨w16, hw16⟩ : ∃ W, w15.drew = W := ⟨_, rfl⟩
  have K10' := Lib.hid (K10.out.below (w' := w16) (by rw [← hw16]; exact (Below.refl _ _).drew))
  have s10 := K10'.out.held
  refine wp_region_held_drew (S := (fun W : World => W.rangeAt zb 0 SV)) (by kernel_rfl) (by rw [hw16]; exact s10) (fun _ => ?_)
  rw [hw16]
  clear hw16
  clear K10
  have K10 := K10'
  clear K10'
  refine anyH_take (i := 0) (d := 43) (v := ?f0) rfl rfl (by kernel_rfl) (by kernel_rfl) (by kernel_rfl) (fun _ _ _ h => h) (Or.inl ⟨by rfl, ?fy0⟩) s10 ?fr0
  case fy0 => (intro w; go_simp; try with_reducible rfl)
  simp only [List.setIfInBounds_toArray, List.set_cons_zero, List.set_cons_succ]
  refine anyH_take (i := 2) (d := 45) (v := ?f2) rfl rfl (by kernel_rfl) (by kernel_rfl) (by kernel_rfl) (fun _ _ _ h => h) (Or.inl ⟨by rfl, ?fy2⟩) s10 ?fr2
  case fy2 => (intro w; go_simp; try with_reducible rfl)
  simp only [List.setIfInBounds_toArray, List.set_cons_zero, List.set_cons_succ]
  refine anyH_one (i := 1) (by kernel_rfl) ?_
  refine st3_call rfl (by rfl) (f := 35) (vals := #[.int .i64 0]) (Z := fun v w' => Zl wx6 w16 v w') ?_ ?_ ?_
  · unfold execOp
    simp only [List.getElem_toArray, List.getElem_cons_succ, List.getElem_cons_zero, resolve, invoke, Sem.run_bind, Sem.run_pure, Result.andThen_ok, List.map_toArray, List.map_cons, List.map_nil]
    first | rfl | exact enters_of Tryz.func35 (by kernel_rfl) rfl _ _
  · exact cx6 w16
  rintro v w17 ⟨D, nd, cd, N, nn, cn, rfl, hA, hbx⟩
  have K11 := Lib.hid (K10.out.below hbx)
  have s11 := K11.out.held
  refine ⟨s11, ?_⟩
  simp only [List.getElem_toArray, List.getElem_cons_succ, List.getElem_cons_zero, Act.put, List.setIfInBounds_toArray, List.set_cons_zero, List.set_cons_succ]
  have HA := Lib.hid hA
  clear hA hbx
  refine anyH_one (i := 3) (by kernel_rfl) ?_
  refine st3_call rfl (by rfl) (f := 34) (vals := #[.pointer (some ⟨gv, 0, none⟩), .agg #[.int .i64 wx6.cl, .int .i64 wx6.sp, .int .i64 wx6.gr, .int .i64 wx6.ep, .int .i64 wx6.kd, .int .i64 wx6.bl, .slice D nd cd, .int .i64 wx6.od, .int .i64 wx6.nw, .slice N nn cn], .agg #[.int .i64 0, .slice none 0 0, .int .i64 0, .slice none 0 0]]) (Z := fun v w' => v = .bool true ∧ Wk w gv zb (.pointer (some ⟨gk, 0, none⟩)) A c SV vw6 w') ?_ ?_ ?_
  · unfold execOp
    simp only [List.getElem_toArray, List.getElem_cons_succ, List.getElem_cons_zero, resolve, invoke, Sem.run_bind, Sem.run_pure, Result.andThen_ok, List.map_toArray, List.map_cons, List.map_nil]
    first | rfl | exact enters_of Tryz.func34 (by kernel_rfl) rfl _ _
  · exact (K11.out.does0 HA.out mx6 (gx.2.2.2.2.2.1) ax6).mono fun e w' ⟨he, h2⟩ => ⟨_, he, rfl, h2⟩
  rintro v w18 ⟨rfl, hk⟩
  have K12 := Lib.hid (hk)
  have s12 := K12.out.held
  refine ⟨s12, ?_⟩
  simp only [List.getElem_toArray, List.getElem_cons_succ, List.getElem_cons_zero, Act.put, List.setIfInBounds_toArray, List.set_cons_zero, List.set_cons_succ]
  clear hk HA
  refine anyH_take (i := 4) (d := 47) (v := ?f4) rfl rfl (by kernel_rfl) (by kernel_rfl) (by kernel_rfl) (fun _ _ _ h => h) (Or.inl ⟨by rfl, ?fy4⟩) s12 ?fr4
  case fy4 => (intro w; go_simp; try with_reducible rfl)
  simp only [List.setIfInBounds_toArray, List.set_cons_zero, List.set_cons_succ]
  refine anyH_take (i := 5) (d := 48) (v := ?g5) rfl rfl (by kernel_rfl) (by kernel_rfl) (by kernel_rfl) (fun _ _ _ h => h) (Or.inl ⟨by rfl, ?gy5⟩) s12 ?gr5
  case gy5 => (intro w; go_simp; try with_reducible rfl)
  simp only [List.setIfInBounds_toArray, List.set_cons_zero, List.set_cons_succ]
  refine anyH_take (i := 7) (d := 50) (v := ?g7) rfl rfl (by kernel_rfl) (by kernel_rfl) (by kernel_rfl) (fun _ _ _ h => h) (Or.inl ⟨by rfl, ?gy7⟩) s12 ?gr7
  case gy7 => (intro w; go_simp; try with_reducible rfl)
  simp only [List.setIfInBounds_toArray, List.set_cons_zero, List.set_cons_succ]
  refine anyH_one (i := 6) (by kernel_rfl) ?_
  refine st3_call rfl (by rfl) (f := 28) (vals := #[.int .i64 31, .int .i64 2, .int .i64 0, .int .i64 3]) (Z := fun v w' => Zl wx7 w18 v w') ?_ ?_ ?_
  · unfold execOp
    simp only [List.getElem_toArray, List.getElem_cons_succ, List.getElem_cons_zero, resolve, invoke, Sem.run_bind, Sem.run_pure, Result.andThen_ok, List.map_toArray, List.map_cons, List.map_nil]
    first | rfl | exact enters_of Tryz.func28 (by kernel_rfl) rfl _ _
  · exact cxr 31 2 0 3 (by decide) (by decide) (by decide) (by decide) w18
  rintro v w19 ⟨D, nd, cd, N, nn, cn, rfl, hA, hbx⟩
  have K13 := Lib.hid (K12.out.below hbx)
  have s13 := K13.out.held
  refine ⟨s13, ?_⟩
  simp only [List.getElem_toArray, List.getElem_cons_succ, List.getElem_cons_zero, Act.put, List.setIfInBounds_toArray, List.set_cons_zero, List.set_cons_succ]
  have HA := Lib.hid hA
  clear hA hbx
  refine anyH_one (i := 8) (by kernel_rfl) ?_
  refine st3_call rfl (by rfl) (f := 34) (vals := #[.pointer (some ⟨gv, 0, none⟩), .agg #[.int .i64 wx7.cl, .int .i64 wx7.sp, .int .i64 wx7.gr, .int .i64 wx7.ep, .int .i64 wx7.kd, .int .i64 wx7.bl, .slice D nd cd, .int .i64 wx7.od, .int .i64 wx7.nw, .slice N nn cn], .agg #[.int .i64 171, .slice none 0 0, .int .i64 1, .slice none 0 0]]) (Z := fun v w' => v = .bool true ∧ Wk w gv zb (.pointer (some ⟨gk, 0, none⟩)) A c SV vw7 w') ?_ ?_ ?_
  · unfold execOp
    simp only [List.getElem_toArray, List.getElem_cons_succ, List.getElem_cons_zero, resolve, invoke, Sem.run_bind, Sem.run_pure, Result.andThen_ok, List.map_toArray, List.map_cons, List.map_nil]
    first | rfl | exact enters_of Tryz.func34 (by kernel_rfl) rfl _ _
  · exact (K13.out.does0 HA.out mx7 (gx.2.2.2.2.2.2.1) ax7).mono fun e w' ⟨he, h2⟩ => ⟨_, he, rfl, h2⟩
  rintro v w20 ⟨rfl, hk⟩
  have K14 := Lib.hid (hk)
  have s14 := K14.out.held
  refine ⟨s14, ?_⟩
  simp only [List.getElem_toArray, List.getElem_cons_succ, List.getElem_cons_zero, Act.put, List.setIfInBounds_toArray, List.set_cons_zero, List.set_cons_succ]
  clear hk HA
  refine anyH_take (i := 9) (d := 52) (v := ?g9) rfl rfl (by kernel_rfl) (by kernel_rfl) (by kernel_rfl) (fun _ _ _ h => h) (Or.inl ⟨by rfl, ?gy9⟩) s14 ?gr9
  case gy9 => (intro w; go_simp; try with_reducible rfl)
  simp only [List.setIfInBounds_toArray, List.set_cons_zero, List.set_cons_succ]
  refine anyH_take (i := 10) (d := 53) (v := ?g10) rfl rfl (by kernel_rfl) (by kernel_rfl) (by kernel_rfl) (fun _ _ _ h => h) (Or.inl ⟨by rfl, ?gy10⟩) s14 ?gr10
  case gy10 => (intro w; go_simp; try with_reducible rfl)
  simp only [List.setIfInBounds_toArray, List.set_cons_zero, List.set_cons_succ]
  refine anyH_take (i := 11) (d := 54) (v := ?h11) rfl rfl (by kernel_rfl) (by kernel_rfl) (by kernel_rfl) (fun _ _ _ h => h) (Or.inl ⟨by rfl, ?hy11⟩) s14 ?hr11
  case hy11 => (intro w; go_simp; try with_reducible rfl)
  simp only [List.setIfInBounds_toArray, List.set_cons_zero, List.set_cons_succ]
  refine anyH_one (i := 12) (by kernel_rfl) ?_
  refine st3_call rfl (by rfl) (f := 25) (vals := #[.pointer (some ⟨gv, 0, none⟩)]) (Z := fun v w' => v = .int .i64 0 ∧ Wk w gv zb (.pointer (some ⟨gk, 0, none⟩)) A c SV vw8 w') ?_ ?_ ?_
  · unfold execOp
    simp only [List.getElem_toArray, List.getElem_cons_succ, List.getElem_cons_zero, resolve, invoke, Sem.run_bind, Sem.run_pure, Result.andThen_ok, List.map_toArray, List.map_cons, List.map_nil]
    first | rfl | exact enters_of Tryz.func25 (by kernel_rfl) rfl _ _
  · exact (K14.out.turn).mono fun e w' ⟨he, h2⟩ => ⟨_, he.trans (by rw [ax8]), rfl, h2⟩
  rintro v w21 ⟨rfl, hk⟩
  have K15 := Lib.hid (hk)
  have s15 := K15.out.held
  refine ⟨s15, ?_⟩
  simp only [List.getElem_toArray, List.getElem_cons_succ, List.getElem_cons_zero, Act.put, List.setIfInBounds_toArray, List.set_cons_zero, List.set_cons_succ]
  clear hk
  refine anyH_take (i := 13) (d := 56) (v := ?h13) rfl rfl (by kernel_rfl) (by kernel_rfl) (by kernel_rfl) (fun _ _ _ h => h) (Or.inl ⟨by rfl, ?hy13⟩) s15 ?hr13
  case hy13 => (intro w; go_simp; try with_reducible rfl)
  simp only [List.setIfInBounds_toArray, List.set_cons_zero, List.set_cons_succ]
  refine anyH_take (i := 14) (d := 57) (v := ?h14) rfl rfl (by kernel_rfl) (by kernel_rfl) (by kernel_rfl) (fun _ _ _ h => h) (Or.inl ⟨by rfl, ?hy14⟩) s15 ?hr14
  case hy14 => (intro w; go_simp; try with_reducible rfl)
  simp only [List.setIfInBounds_toArray, List.set_cons_zero, List.set_cons_succ]
  refine anyH_take (i := 15) (d := 58) (v := ?h15) rfl rfl (by kernel_rfl) (by kernel_rfl) (by kernel_rfl) (fun _ _ _ h => h) (Or.inl ⟨by rfl, ?hy15⟩) s15 ?hr15
  case hy15 => (intro w; go_simp; try with_reducible rfl)
  simp only [List.setIfInBounds_toArray, List.set_cons_zero, List.set_cons_succ]
  refine anyH_take (i := 16) (d := 59) (v := ?i16) rfl rfl (by kernel_rfl) (by kernel_rfl) (by kernel_rfl) (fun _ _ _ h => h) (Or.inl ⟨by rfl, ?iy16⟩) s15 ?ir16
  case iy16 => (intro w; go_simp; try with_reducible rfl)
  simp only [List.setIfInBounds_toArray, List.set_cons_zero, List.set_cons_succ]
  refine anyH_load (i := 18) (d := 61) rfl rfl (by kernel_rfl) (by kernel_rfl) (by kernel_rfl) (by rfl) 48 _ rfl zb 0 rfl SV _ (fun W hSW => hSW) Tryz.underlying48 rfl Hs4.out (fun _ _ _ h => h) s15 ?_
  simp only [List.setIfInBounds_toArray, List.set_cons_zero, List.set_cons_succ]
  refine anyH_one (i := 17) (by kernel_rfl) ?_
  refine st3_call rfl (by rfl) (f := 28) (vals := #[.int .i64 31, .int .i64 2, .int .i64 1, .int .i64 3]) (Z := fun v w' => Zl wx5 w21 v w') ?_ ?_ ?_
  · unfold execOp
    simp only [List.getElem_toArray, List.getElem_cons_succ, List.getElem_cons_zero, resolve, invoke, Sem.run_bind, Sem.run_pure, Result.andThen_ok, List.map_toArray, List.map_cons, List.map_nil]
    first | rfl | exact enters_of Tryz.func28 (by kernel_rfl) rfl _ _
  · exact cxr 31 2 1 3 (by decide) (by decide) (by decide) (by decide) w21
  rintro v w22 ⟨D, nd, cd, N, nn, cn, rfl, hA, hbx⟩
  have K16 := Lib.hid (K15.out.below hbx)
  have s16 := K16.out.held
  refine ⟨s16, ?_⟩
  simp only [List.getElem_toArray, List.getElem_cons_succ, List.getElem_cons_zero, Act.put, List.setIfInBounds_toArray, List.set_cons_zero, List.set_cons_succ]
  have HA := Lib.hid hA
  clear hA hbx
  refine anyH_one (i := 19) (by kernel_rfl) ?_
  refine st3_call rfl (by rfl) (f := 34) (vals := #[.pointer (some ⟨gv, 0, none⟩), .agg #[.int .i64 wx5.cl, .int .i64 wx5.sp, .int .i64 wx5.gr, .int .i64 wx5.ep, .int .i64 wx5.kd, .int .i64 wx5.bl, .slice D nd cd, .int .i64 wx5.od, .int .i64 wx5.nw, .slice N nn cn], .agg SV.toArray]) (Z := fun v w' => v = .bool true ∧ Wk w gv zb (.pointer (some ⟨gk, 0, none⟩)) A c SV vw9 w') ?_ ?_ ?_
  · unfold execOp
    simp only [List.getElem_toArray, List.getElem_cons_succ, List.getElem_cons_zero, resolve, invoke, Sem.run_bind, Sem.run_pure, Result.andThen_ok, List.map_toArray, List.map_cons, List.map_nil]
    first | rfl | exact enters_of Tryz.func34 (by kernel_rfl) rfl _ _
  · exact (K16.out.does7 HA.out mx5 (gx.2.2.2.2.2.2.2.2.1) ax9).mono fun e w' ⟨he, h2⟩ => ⟨_, he, rfl, h2⟩
  rintro v w23 ⟨rfl, hk⟩
  have K17 := Lib.hid (hk)
  have s17 := K17.out.held
  refine ⟨s17, ?_⟩
  simp only [List.getElem_toArray, List.getElem_cons_succ, List.getElem_cons_zero, Act.put, List.setIfInBounds_toArray, List.set_cons_zero, List.set_cons_succ]
  clear hk HA
  refine anyH_take (i := 20) (d := 63) (v := ?i20) rfl rfl (by kernel_rfl) (by kernel_rfl) (by kernel_rfl) (fun _ _ _ h => h) (Or.inl ⟨by rfl, ?iy20⟩) s17 ?ir20
  case iy20 => (intro w; go_simp; try with_reducible rfl)
  simp only [List.setIfInBounds_toArray, List.set_cons_zero, List.set_cons_succ]
  refine anyH_take (i := 21) (d := 5) (v := ?i21) rfl rfl (by kernel_rfl) (by kernel_rfl) (by kernel_rfl) (fun _ _ _ h => h) (Or.inl ⟨by rfl, ?iy21⟩) s17 ?ir21
  case iy21 => (intro w; go_simp; try with_reducible rfl)
  simp only [List.setIfInBounds_toArray, List.set_cons_zero, List.set_cons_succ]
  refine wpAnyH_done (by kernel_rfl) ?_ _
  obtain ⟨U, cs, hV, hU⟩ := K17.out.va
  have HE := Lib.hid (epoch_in hV)
  have HG := Lib.hid (group_in hV)
  have HL := Lib.hid (leaves_in hV)
  rw [gx.2.2.2.2.2.2.2.2.2.1] at HG
  rw [gx.2.2.2.2.2.2.2.2.2.2] at HE
  have Hb := Lib.hid K17.out.bel
  clear hV hU
  go_upto_region 7 with fail
  go_wp2_with (first | (go_at_call 33; refine HE.out.mono ?_; rintro e w' ⟨rfl, hww⟩; have hww2 := hww.symm; subst hww2; clear hww) | (go_at_call 41; refine HG.out.mono ?_; rintro e w' ⟨rfl, hww⟩; have hww2 := hww.symm; subst hww2; clear hww))
  refine HL.out.mono ?_
  rintro e wl ⟨u, vs, rfl, hL, hbl⟩
  obtain ⟨AL, cL, rfl⟩ := lfs_form hL
  have Hf := Lib.hid (Hb.out.trans (hbl.mono Hb.out.size))
  clear hL hbl
  go_wp2
  go_ret
  exact ⟨rfl, Hf.out⟩
end Go.Proofs.YtfaeechidjpjbaaGreat
