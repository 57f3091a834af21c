/-
  Laid together for a hand-in: Ay14, Ra14.
-/
import Derived.Test.YtmdgcimjmmnbjaaZ13
import Derived.Test.YtmdgcimjmmnbjaaZ09
import Derived.Test.YtmdgcimjmmnbjaaZ11

namespace Go.Proofs.Ytmdgcimjmmnbjaa
open Go.RowKit Go.Shelf Go.Sort Go.Maps CrewP
set_option linter.unusedVariables false
set_option linter.unusedSimpArgs false
section
variable {P : Program} {ops : Array Oper} {rest : List Oper} {o : Oper} {a : Act} {w : World} {Q : Exit → Act → World → Prop}
theorem wpList_valW (d : Nat) (hd : o.dst = some d) (hw : Region.wanted o (yielded ops a.tmps) = true) {v : Value} (hy : Sem.run P (execOp a.eval o) w = .ok (Next.value v) w) (h : wpList P ops Q rest (a.put o.dst v) w) : wpList P ops Q (o :: rest) a w :=
  wpList_step fun K hK => by rw [if_pos hw]; unfold Oper.wp; rw [hy]; exact hK _ _ h
theorem wpList_callW {f : Nat} {vals : Array Value} {Z : Value → World → Prop} (d : Nat) (hd : o.dst = some d) (hw : Region.wanted o (yielded ops a.tmps) = true) (hrun : Sem.run P (execOp a.eval o) w = .ok (Next.enter f vals) w) (hc : Calls P f vals w fun e w' => ∃ v, e = .returned v ∧ Z v w')
    (h : ∀ v w', Z v w' → wpList P ops Q rest (a.put o.dst v) w') : wpList P ops Q (o :: rest) a w :=
  wpList_step fun K hK => by
    rw [if_pos hw]
    unfold Oper.wp
    rw [hrun]
    refine hc.mono ?_
    rintro e w' ⟨v, rfl, hz⟩
    exact hK _ _ (h v w' hz)
end

set_option maxRecDepth 100000 in
set_option maxHeartbeats 6400000 in
theorem awake_any (w : World) : Calls Try.prog 16 #[] w fun e w' => e = .returned (.bool true) ∧ Below w.heap.size w w' := by
  have hd1 : Hid (∀ w, Calls Try.prog 19 #[.int .u8 1] w fun e w' => e = .returned (.agg (cbs (dg 1)).toArray) ∧ Below w.heap.size w w') := Lib.hid fun w => digest_any 1 w
  have hd2 : Hid (∀ w, Calls Try.prog 19 #[.int .u8 2] w fun e w' => e = .returned (.agg (cbs (dg 2)).toArray) ∧ Below w.heap.size w w') := Lib.hid fun w => digest_any 2 w
  have hfr : Hid (∀ w, Calls Try.prog 8 #[.int .i64 1, .int .i64 2] w fun e w' => ∃ g, e = .returned (.pointer (some ⟨g, 0, none⟩)) ∧ StAt w' (fun b => w.heap.size ≤ b ∧ b < w'.heap.size) g (fr 1) ∧ Below w.heap.size w w') := Lib.hid fun w => fresh_any 1 (by omega) (by omega) 2 (by omega) (by omega) w
  go_enter Try.func16, Try.ntmps16
  go_wp2_with fail
  refine (hd1.out _).mono ?_
  rintro e w1 ⟨rfl, hb1⟩
  have H1 := Lib.hid hb1
  clear hb1
  generalize hDA : cbs (dg 1) = DA at *
  go_wp2_with fail
  refine (hd2.out _).mono ?_
  rintro e w2 ⟨rfl, hb2⟩
  have H2 := Lib.hid (H1.out.trans (hb2.mono H1.out.size))
  clear hb2 H1 hd1 hd2
  generalize hDB : cbs (dg 2) = DB at *
  have hlA : DA.length = 32 := by rw [← hDA]; rfl
  have hlB : DB.length = 32 := by rw [← hDB]; rfl
  obtain ⟨wA, wB, q1, q2, q3, q4, q5, q6, q7, q8, q9⟩ := two_rows w2 DA DB hlA hlB
  have oneA : DA.toArray.all (·.oneCell') = true := by rw [← hDA]; exact cbs_one1 _
  have oneB : DB.toArray.all (·.oneCell') = true := by rw [← hDB]; exact cbs_one1 _
  have HQ := Lib.hid (And.intro q3 (And.intro q4 (And.intro oneA q1)))
  have HR := Lib.hid (And.intro q5 (And.intro q6 (And.intro oneB q2)))
  have HS := Lib.hid (And.intro q7 (And.intro q8 q9))
  have hnA : Hid ((Try.prog.info? 39).map (·.size) = some DA.length) := Lib.hid (by rw [hlA]; exact dig_info)
  have hnB : Hid ((Try.prog.info? 39).map (·.size) = some DB.length) := Lib.hid (by rw [hlB]; exact dig_info)
  have hne : Hid (DA = cbs (dg 1) ∧ DB = cbs (dg 2)) := Lib.hid ⟨hDA.symm, hDB.symm⟩
  clear q1 q2 q3 q4 q5 q6 q7 q8 q9 oneA oneB hlA hlB hDA hDB
  go_wp2_with (first
    | (refine wpList_store_mid rfl 39 _ _ rfl w2.heap.size 0 DA.toArray rfl rfl HQ.out.1 HQ.out.2.1 HQ.out.2.2.1 ?_; simp only [Act.put]; refine cast (congrArg (fun z => wpList _ _ _ _ _ z) HQ.out.2.2.2.symm) ?_)
    | (refine wpList_store_mid rfl 39 _ _ rfl (w2.heap.size + 1) 0 DB.toArray rfl rfl HR.out.1 HR.out.2.1 HR.out.2.2.1 ?_; simp only [Act.put]; refine cast (congrArg (fun z => wpList _ _ _ _ _ z) HR.out.2.2.2.symm) ?_))
  refine (hfr.out _).mono ?_
  rintro e w3 ⟨g, rfl, hst, hb3⟩
  obtain ⟨U, hU⟩ : ∃ U : Nat → Prop, (fun b => wB.heap.size ≤ b ∧ b < w3.heap.size) = U := ⟨_, rfl⟩
  have hK0 : KA w w3 U g w2.heap.size (w2.heap.size + 1) (fr 1) := by
    obtain ⟨h7, h8, h9⟩ := HS.out
    obtain ⟨e1, e2⟩ := hne.out
    rw [e1] at h7
    rw [e2] at h8
    have l1 := h7.lt
    have l2 := h8.lt
    have z2 := H2.out.size
    have z3 := h9.size
    refine ⟨by rw [← hU]; exact hst, h7.below hb3 l1, h8.below hb3 l2, fun h => ?_, fun h => ?_, (H2.out.trans (h9.mono z2)).trans (hb3.mono (by omega)), fun i hi => ?_⟩
    · rw [← hU] at h; omega
    · rw [← hU] at h; omega
    · rw [← hU] at hi; omega
  have HX : Hid (Try.prog.built 41 [(0, .int .i64 3), (1, .agg DA.toArray)] = some (sdT X0).toArray) := Lib.hid (by rw [hne.out.1, X0_cells]; exact built_stand2 3 (dg 1) (dg_len 1))
  have HY : Hid (Try.prog.built 41 [(0, .int .i64 3), (1, .agg DB.toArray), (2, .int .i64 1)] = some (sdT Y0).toArray) := Lib.hid (by rw [hne.out.2, Y0_cells]; exact built_stand 3 1 (dg 2) (dg_len 2))
  have HRA := Lib.hid (fun (w' : World) (σ : St) (h : KA w w' U g w2.heap.size (w2.heap.size + 1) σ) => h.ra)
  have HRB := Lib.hid (fun (w' : World) (σ : St) (h : KA w w' U g w2.heap.size (w2.heap.size + 1) σ) => h.rb)
  have HBA := Lib.hid (fun (w' : World) (σ : St) (h : KA w w' U g w2.heap.size (w2.heap.size + 1) σ) => h.a)
  have C1 := Lib.hid (fun (w' : World) => ka1 (w0 := w) (w := w') (U := U) (g := g) (ba := w2.heap.size) (bb := w2.heap.size + 1))
  have C2 := Lib.hid (fun (w' : World) => ka2 (w0 := w) (w := w') (U := U) (g := g) (ba := w2.heap.size) (bb := w2.heap.size + 1))
  have C3 := Lib.hid (fun (w' : World) => ka3 (w0 := w) (w := w') (U := U) (g := g) (ba := w2.heap.size) (bb := w2.heap.size + 1))
  have C4 := Lib.hid (fun (w' : World) => ka4 (w0 := w) (w := w') (U := U) (g := g) (ba := w2.heap.size) (bb := w2.heap.size + 1))
  have C5 := Lib.hid (fun (w' : World) => ka5 (w0 := w) (w := w') (U := U) (g := g) (ba := w2.heap.size) (bb := w2.heap.size + 1))
  have C6 := Lib.hid (fun (w' : World) => ka6 (w0 := w) (w := w') (U := U) (g := g) (ba := w2.heap.size) (bb := w2.heap.size + 1))
  have C6b := Lib.hid (fun (w' : World) => ka6' (w0 := w) (w := w') (U := U) (g := g) (ba := w2.heap.size) (bb := w2.heap.size + 1))
  have C9 := Lib.hid (fun (w' : World) => ka9 (w0 := w) (w := w') (U := U) (g := g) (ba := w2.heap.size) (bb := w2.heap.size + 1))
  have Ca := Lib.hid (fun (w' : World) => kaa (w0 := w) (w := w') (U := U) (g := g) (ba := w2.heap.size) (bb := w2.heap.size + 1))
  have Cb := Lib.hid (fun (w' : World) => kab (w0 := w) (w := w') (U := U) (g := g) (ba := w2.heap.size) (bb := w2.heap.size + 1))
  have Cc := Lib.hid (fun (w' : World) => kac (w0 := w) (w := w') (U := U) (g := g) (ba := w2.heap.size) (bb := w2.heap.size + 1))
  have Cd := Lib.hid (fun (w' : World) => kad (w0 := w) (w := w') (U := U) (g := g) (ba := w2.heap.size) (bb := w2.heap.size + 1))
  have Ce := Lib.hid (fun (w' : World) => kae (w0 := w) (w := w') (U := U) (g := g) (ba := w2.heap.size) (bb := w2.heap.size + 1))
  have Cf := Lib.hid (fun (w' : World) => kaf (w0 := w) (w := w') (U := U) (g := g) (ba := w2.heap.size) (bb := w2.heap.size + 1))
  have C7 := Lib.hid (fun (w' : World) (j : Nat) (hj : j < 3) => ka7 (w0 := w) (w := w') (U := U) (g := g) (ba := w2.heap.size) (bb := w2.heap.size + 1) hj)
  have C8 := Lib.hid (fun (w' : World) (j : Nat) (hj : j < 3) => ka8 (w0 := w) (w := w') (U := U) (g := g) (ba := w2.heap.size) (bb := w2.heap.size + 1) hj)
  rw [← hne.out.1] at HRA HBA C1 C2 C4 C6b C8 Cb
  rw [← hne.out.2] at HRB Ca Cc
  have K0 := Lib.hid hK0
  clear hK0 hst hb3 HQ HR HS H2 hU hfr hne
  generalize X0 = X at *
  generalize Y0 = Y at *
  go_wp2_with (refine wpList_load_mid rfl 39 _ rfl w2.heap.size 0 rfl DA _ (HRA.out _ _ K0.out) Try.underlying39 rfl hnA.out ?_; simp only [Act.put])
  refine (C1.out _ K0.out).mono ?_
  rintro e w4 ⟨rfl, hk⟩
  have K1 := Lib.hid hk
  clear hk
  go_wp2_with (refine wpList_load_mid rfl 39 _ rfl w2.heap.size 0 rfl DA _ (HRA.out _ _ K1.out) Try.underlying39 rfl hnA.out ?_; simp only [Act.put])
  refine (C2.out _ K1.out).mono ?_
  rintro e w5 ⟨rfl, hk⟩
  have K2 := Lib.hid hk
  clear hk
  go_wp2_with fail
  refine (C3.out _ K2.out).mono ?_
  rintro e w6a ⟨rfl, hk⟩
  have K3 := Lib.hid hk
  clear hk
  go_wp2_with (refine wpList_load_mid rfl 39 _ rfl w2.heap.size 0 rfl DA _ (HRA.out _ _ K3.out) Try.underlying39 rfl hnA.out ?_; simp only [Act.put])
  refine (C4.out _ K3.out).mono ?_
  rintro e w7 ⟨rfl, hk⟩
  have K4 := Lib.hid hk
  clear hk
  go_wp2_with fail
  refine (C5.out _ K4.out).mono ?_
  rintro e w8 ⟨rfl, hk⟩
  have K5 := Lib.hid hk
  clear hk
  go_wp2_with fail
  refine region_rule4 (P := Try.prog) 32 116 awD awG awS (awR g w2.heap.size DA X) _ _ (by kernel_rfl) rfl rfl (by kernel_rfl) (by decide +kernel) (aw_gb g w2.heap.size DA X) (aw_sk g w2.heap.size DA X) (aw_on g w2.heap.size DA X) (aw_step g w2.heap.size DA X (by rfl) (by kernel_rfl) rfl rfl rfl rfl rfl rfl rfl (HBA.out _ _ K5.out) hnA.out HX.out (fun w' hb => C6.out w' (K5.out.below hb)) (fun w' hb => C6b.out w' (K5.out.below hb))) ?fin
  case fin =>
    intro a w6 hbase hbl hall
    obtain ⟨v58, hv58, hR58⟩ := hall 31 (by decide)
    have hR58' : v58 = .bool false := hR58
    subst hR58'
    obtain ⟨gf, hgfe, hgf⟩ := base_lit hbase [27, 28, 29, 30, 31, 32, 33, 34, 35, 36, 37, 38, 39, 40, 41, 42, 43, 44, 45, 46, 47, 48, 49, 50, 51, 52, 53, 54, 55, 56, 57, 58] (by rfl)
    have q58 : gf 58 = .bool false := hgfe 58 _ hv58
    simp only [List.foldl_cons, List.foldl_nil, List.setIfInBounds_toArray, List.set_cons_zero, List.set_cons_succ, q58] at hgf
    rw [hgf]
    have K8 := Lib.hid (K5.out.below hbl)
    clear hall hbase hbl hv58 hR58 hgfe q58 hgf
    go_wp2
    go_loopw [9] (fun v9 wr => ∃ j : Nat, j ≤ 3 ∧ v9 = .int .i64 ((j : Int) + 1) ∧ KA w wr U g w2.heap.size (w2.heap.size + 1) (aC j)) (fun v _ => 4 - (intOf v).toNat)
    case atStart => exact ⟨0, by omega, rfl, K8.out⟩
    case round =>
      obtain ⟨j, hj, rfl, hk⟩ := hrel
      have Kr := Lib.hid hk
      clear hk
      by_cases hlt : j < 3
      · have h1 : (j : Int) + 1 < 4 := by omega
        go_wp2_with fail
        refine (C7.out _ j hlt Kr.out).mono ?_
        rintro e wx ⟨rfl, hk⟩
        have Kx := Lib.hid hk
        clear hk
        go_wp2_with (first
          | (refine wpList_valW 70 rfl rfl (v := .bool false) rfl ?_; simp only [Act.put, List.setIfInBounds_toArray, List.set_cons_zero, List.set_cons_succ])
          | (refine wpList_valW 71 rfl rfl (v := .bool false) rfl ?_; simp only [Act.put, List.setIfInBounds_toArray, List.set_cons_zero, List.set_cons_succ])
          | (refine wpList_valW 65 rfl rfl (v := .bool false) rfl ?_; simp only [Act.put, List.setIfInBounds_toArray, List.set_cons_zero, List.set_cons_succ])
          | (refine wpList_valW 66 rfl rfl (v := .pointer (some ⟨g, 0, none⟩)) rfl ?_; simp only [Act.put, List.setIfInBounds_toArray, List.set_cons_zero, List.set_cons_succ])
          | (refine wpList_valW 67 rfl rfl (v := .int .i64 ((j : Int) + 1)) rfl ?_; simp only [Act.put, List.setIfInBounds_toArray, List.set_cons_zero, List.set_cons_succ])
          | (refine load_mid_g rfl 39 _ rfl w2.heap.size 0 rfl DA _ (HRA.out _ _ Kx.out) Try.underlying39 rfl hnA.out ?_; simp only [Act.put, List.setIfInBounds_toArray, List.set_cons_zero, List.set_cons_succ])
          | (refine wpList_callW 69 rfl rfl (f := 27) (vals := #[.pointer (some ⟨g, 0, none⟩), .int .i64 ((j : Int) + 1), .int .i64 0, .int .i64 3, .agg DA.toArray]) (Z := fun v w' => v = .int .i64 0 ∧ KA w w' U g w2.heap.size (w2.heap.size + 1) (aC (j + 1))) (by
              unfold execOp
              simp only [List.getElem_toArray, List.getElem_cons_succ, List.getElem_cons_zero, resolve, invoke, Sem.run_bind, Sem.run_pure, Result.andThen_ok, List.map_toArray, List.map_cons, List.map_nil]
              first | rfl | exact enters_of Try.func27 (by kernel_rfl) rfl _ _) ((C8.out _ j hlt Kx.out).mono fun e w' ⟨he, h2⟩ => ⟨_, he, rfl, h2⟩) ?_; rintro v wy ⟨rfl, hk⟩; simp only [Act.put, List.setIfInBounds_toArray, List.set_cons_zero, List.set_cons_succ]))
        have Ky := Lib.hid hk
        clear hk
        go_wp2
        go_roundw
        case rel => exact ⟨j + 1, by omega, by first | rfl | go_num | (congr 1; omega), Ky.out⟩
        case measure => simp [intOf]; omega
      · have hj3 : j = 3 := by omega
        subst hj3
        have h1 : ¬ ((3 : Nat) : Int) + 1 < 4 := by omega
        go_wp2_with fail
        refine (C9.out _ Kr.out).mono ?_
        rintro e w15 ⟨rfl, hk⟩
        have K15 := Lib.hid hk
        clear hk
        go_wp2
        obtain ⟨wS, hwS⟩ : ∃ W, w15.drew = W := ⟨_, rfl⟩
        have hk0 := K15.out.below (w' := wS) (by rw [← hwS]; exact (Below.refl _ _).drew)
        replace K15 := Lib.hid hk0
        clear hk0
        have s0 := And.intro (HRA.out _ _ K15.out) (HRB.out _ _ K15.out)
        refine wp_region_held_drew (S := fun W => W.rangeAt w2.heap.size 0 DA ∧ W.rangeAt (w2.heap.size + 1) 0 DB) (by kernel_rfl) (by rw [hwS]; exact s0) (fun _ => ?_)
        rw [hwS]
        clear hwS
        refine anyH_take (i := 0) (d := 74) (v := ?a0) rfl rfl (by kernel_rfl) (by kernel_rfl) (by kernel_rfl) (fun _ _ _ h => h) (Or.inl ⟨by rfl, ?ay0⟩) s0 ?ar0
        case ay0 => (intro w; go_simp; try with_reducible rfl)
        simp only [List.setIfInBounds_toArray, List.set_cons_zero, List.set_cons_succ]
        refine anyH_take (i := 1) (d := 75) (v := ?a1) rfl rfl (by kernel_rfl) (by kernel_rfl) (by kernel_rfl) (fun _ _ _ h => h) (Or.inl ⟨by rfl, ?ay1⟩) s0 ?ar1
        case ay1 => (intro w; go_simp; try with_reducible rfl)
        simp only [List.setIfInBounds_toArray, List.set_cons_zero, List.set_cons_succ]
        refine anyH_take (i := 2) (d := 76) (v := ?a2) rfl rfl (by kernel_rfl) (by kernel_rfl) (by kernel_rfl) (fun _ _ _ h => h) (Or.inl ⟨by rfl, ?ay2⟩) s0 ?ar2
        case ay2 => (intro w; go_simp; try with_reducible rfl)
        simp only [List.setIfInBounds_toArray, List.set_cons_zero, List.set_cons_succ]
        refine anyH_load (i := 3) (d := 77) rfl rfl (by kernel_rfl) (by kernel_rfl) (by kernel_rfl) (by rfl) 39 _ rfl (w2.heap.size + 1) 0 rfl DB _ (fun W hSW => hSW.2) Try.underlying39 rfl hnB.out (fun _ _ _ h => h) s0 ?_
        simp only [List.setIfInBounds_toArray, List.set_cons_zero, List.set_cons_succ]
        refine anyH_one (i := 4) (by kernel_rfl) ?_
        refine st3_call rfl (by rfl) (f := 20) (vals := #[.pointer (some ⟨g, 0, none⟩), .int .i64 0, .int .i64 3, .agg DB.toArray]) (Z := fun v w' => v = .int .i64 151 ∧ KA w w' U g w2.heap.size (w2.heap.size + 1) (aC 3)) ?_ ?_ ?_
        · unfold execOp
          simp only [List.getElem_toArray, List.getElem_cons_succ, List.getElem_cons_zero, resolve, invoke, Sem.run_bind, Sem.run_pure, Result.andThen_ok, List.map_toArray, List.map_cons, List.map_nil]
          first | rfl | exact enters_of Try.func20 (by kernel_rfl) rfl _ _
        · exact (Ca.out _ K15.out).mono fun e w' ⟨he, h2⟩ => ⟨_, he, rfl, h2⟩
        rintro v wa ⟨rfl, hk⟩
        have Ka := Lib.hid hk
        clear hk
        have s1 := And.intro (HRA.out _ _ Ka.out) (HRB.out _ _ Ka.out)
        refine ⟨s1, ?_⟩
        simp only [List.getElem_toArray, List.getElem_cons_succ, List.getElem_cons_zero, Act.put, List.setIfInBounds_toArray, List.set_cons_zero, List.set_cons_succ]
        refine anyH_take (i := 5) (d := 79) (v := ?a5) rfl rfl (by kernel_rfl) (by kernel_rfl) (by kernel_rfl) (fun _ _ _ h => h) (Or.inl ⟨by rfl, ?ay5⟩) s1 ?ar5
        case ay5 => (intro w; go_simp; try with_reducible rfl)
        simp only [List.setIfInBounds_toArray, List.set_cons_zero, List.set_cons_succ]
        refine anyH_take (i := 6) (d := 80) (v := ?a6) rfl rfl (by kernel_rfl) (by kernel_rfl) (by kernel_rfl) (fun _ _ _ h => h) (Or.inl ⟨by rfl, ?ay6⟩) s1 ?ar6
        case ay6 => (intro w; go_simp; try with_reducible rfl)
        simp only [List.setIfInBounds_toArray, List.set_cons_zero, List.set_cons_succ]
        refine anyH_take (i := 7) (d := 81) (v := ?a7) rfl rfl (by kernel_rfl) (by kernel_rfl) (by kernel_rfl) (fun _ _ _ h => h) (Or.inl ⟨by rfl, ?ay7⟩) s1 ?ar7
        case ay7 => (intro w; go_simp; try with_reducible rfl)
        simp only [List.setIfInBounds_toArray, List.set_cons_zero, List.set_cons_succ]
        refine anyH_take (i := 8) (d := 82) (v := ?a8) rfl rfl (by kernel_rfl) (by kernel_rfl) (by kernel_rfl) (fun _ _ _ h => h) (Or.inl ⟨by rfl, ?ay8⟩) s1 ?ar8
        case ay8 => (intro w; go_simp; try with_reducible rfl)
        simp only [List.setIfInBounds_toArray, List.set_cons_zero, List.set_cons_succ]
        refine anyH_load (i := 9) (d := 83) rfl rfl (by kernel_rfl) (by kernel_rfl) (by kernel_rfl) (by rfl) 39 _ rfl w2.heap.size 0 rfl DA _ (fun W hSW => hSW.1) Try.underlying39 rfl hnA.out (fun _ _ _ h => h) s1 ?_
        simp only [List.setIfInBounds_toArray, List.set_cons_zero, List.set_cons_succ]
        refine anyH_one (i := 10) (by kernel_rfl) ?_
        refine st3_call rfl (by rfl) (f := 20) (vals := #[.pointer (some ⟨g, 0, none⟩), .int .i64 0, .int .i64 9, .agg DA.toArray]) (Z := fun v w' => v = .int .i64 150 ∧ KA w w' U g w2.heap.size (w2.heap.size + 1) (aC 3)) ?_ ?_ ?_
        · unfold execOp
          simp only [List.getElem_toArray, List.getElem_cons_succ, List.getElem_cons_zero, resolve, invoke, Sem.run_bind, Sem.run_pure, Result.andThen_ok, List.map_toArray, List.map_cons, List.map_nil]
          first | rfl | exact enters_of Try.func20 (by kernel_rfl) rfl _ _
        · exact (Cb.out _ Ka.out).mono fun e w' ⟨he, h2⟩ => ⟨_, he, rfl, h2⟩
        rintro v wb ⟨rfl, hk⟩
        have Kb := Lib.hid hk
        clear hk
        have s2 := And.intro (HRA.out _ _ Kb.out) (HRB.out _ _ Kb.out)
        refine ⟨s2, ?_⟩
        simp only [List.getElem_toArray, List.getElem_cons_succ, List.getElem_cons_zero, Act.put, List.setIfInBounds_toArray, List.set_cons_zero, List.set_cons_succ]
        refine anyH_take (i := 11) (d := 85) (v := ?a11) rfl rfl (by kernel_rfl) (by kernel_rfl) (by kernel_rfl) (fun _ _ _ h => h) (Or.inl ⟨by rfl, ?ay11⟩) s2 ?ar11
        case ay11 => (intro w; go_simp; try with_reducible rfl)
        simp only [List.setIfInBounds_toArray, List.set_cons_zero, List.set_cons_succ]
        refine anyH_take (i := 12) (d := 86) (v := ?a12) rfl rfl (by kernel_rfl) (by kernel_rfl) (by kernel_rfl) (fun _ _ _ h => h) (Or.inl ⟨by rfl, ?ay12⟩) s2 ?ar12
        case ay12 => (intro w; go_simp; try with_reducible rfl)
        simp only [List.setIfInBounds_toArray, List.set_cons_zero, List.set_cons_succ]
        refine anyH_take (i := 13) (d := 87) (v := ?a13) rfl rfl (by kernel_rfl) (by kernel_rfl) (by kernel_rfl) (fun _ _ _ h => h) (Or.inl ⟨by rfl, ?ay13⟩) s2 ?ar13
        case ay13 => (intro w; go_simp; try with_reducible rfl)
        simp only [List.setIfInBounds_toArray, List.set_cons_zero, List.set_cons_succ]
        refine anyH_take (i := 14) (d := 88) (v := ?a14) rfl rfl (by kernel_rfl) (by kernel_rfl) (by kernel_rfl) (fun _ _ _ h => h) (Or.inl ⟨by rfl, ?ay14⟩) s2 ?ar14
        case ay14 => (intro w; go_simp; try with_reducible rfl)
        simp only [List.setIfInBounds_toArray, List.set_cons_zero, List.set_cons_succ]
        refine anyH_load (i := 15) (d := 89) rfl rfl (by kernel_rfl) (by kernel_rfl) (by kernel_rfl) (by rfl) 39 _ rfl (w2.heap.size + 1) 0 rfl DB _ (fun W hSW => hSW.2) Try.underlying39 rfl hnB.out (fun _ _ _ h => h) s2 ?_
        simp only [List.setIfInBounds_toArray, List.set_cons_zero, List.set_cons_succ]
        refine anyH_one (i := 16) (by kernel_rfl) ?_
        refine st3_call rfl (by rfl) (f := 20) (vals := #[.pointer (some ⟨g, 0, none⟩), .int .i64 1, .int .i64 3, .agg DB.toArray]) (Z := fun v w' => v = .int .i64 0 ∧ KA w w' U g w2.heap.size (w2.heap.size + 1) a9) ?_ ?_ ?_
        · unfold execOp
          simp only [List.getElem_toArray, List.getElem_cons_succ, List.getElem_cons_zero, resolve, invoke, Sem.run_bind, Sem.run_pure, Result.andThen_ok, List.map_toArray, List.map_cons, List.map_nil]
          first | rfl | exact enters_of Try.func20 (by kernel_rfl) rfl _ _
        · exact (Cc.out _ Kb.out).mono fun e w' ⟨he, h2⟩ => ⟨_, he, rfl, h2⟩
        rintro v wc ⟨rfl, hk⟩
        have Kc := Lib.hid hk
        clear hk
        have s3 := And.intro (HRA.out _ _ Kc.out) (HRB.out _ _ Kc.out)
        refine ⟨s3, ?_⟩
        simp only [List.getElem_toArray, List.getElem_cons_succ, List.getElem_cons_zero, Act.put, List.setIfInBounds_toArray, List.set_cons_zero, List.set_cons_succ]
        refine anyH_take (i := 17) (d := 91) (v := ?a17) rfl rfl (by kernel_rfl) (by kernel_rfl) (by kernel_rfl) (fun _ _ _ h => h) (Or.inl ⟨by rfl, ?ay17⟩) s3 ?ar17
        case ay17 => (intro w; go_simp; try with_reducible rfl)
        simp only [List.setIfInBounds_toArray, List.set_cons_zero, List.set_cons_succ]
        refine anyH_take (i := 18) (d := 92) (v := ?a18) rfl rfl (by kernel_rfl) (by kernel_rfl) (by kernel_rfl) (fun _ _ _ h => h) (Or.inl ⟨by rfl, ?ay18⟩) s3 ?ar18
        case ay18 => (intro w; go_simp; try with_reducible rfl)
        simp only [List.setIfInBounds_toArray, List.set_cons_zero, List.set_cons_succ]
        refine anyH_take (i := 19) (d := 93) (v := ?a19) rfl rfl (by kernel_rfl) (by kernel_rfl) (by kernel_rfl) (fun _ _ _ h => h) (Or.inl ⟨by rfl, ?ay19⟩) s3 ?ar19
        case ay19 => (intro w; go_simp; try with_reducible rfl)
        simp only [List.setIfInBounds_toArray, List.set_cons_zero, List.set_cons_succ]
        refine anyH_take (i := 20) (d := 94) (v := ?a20) rfl rfl (by kernel_rfl) (by kernel_rfl) (by kernel_rfl) (fun _ _ _ h => h) (Or.inl ⟨by rfl, ?ay20⟩) s3 ?ar20
        case ay20 => (intro w; go_simp; try with_reducible rfl)
        simp only [List.setIfInBounds_toArray, List.set_cons_zero, List.set_cons_succ]
        refine anyH_one (i := 21) (by kernel_rfl) ?_
        refine st3_call rfl (by rfl) (f := 11) (vals := #[.pointer (some ⟨g, 0, none⟩), .int .i64 3]) (Z := fun v w' => v = .bool false ∧ KA w w' U g w2.heap.size (w2.heap.size + 1) a9) ?_ ?_ ?_
        · unfold execOp
          simp only [List.getElem_toArray, List.getElem_cons_succ, List.getElem_cons_zero, resolve, invoke, Sem.run_bind, Sem.run_pure, Result.andThen_ok, List.map_toArray, List.map_cons, List.map_nil]
          first | rfl | exact enters_of Try.func11 (by kernel_rfl) rfl _ _
        · exact (Cd.out _ Kc.out).mono fun e w' ⟨he, h2⟩ => ⟨_, he, rfl, h2⟩
        rintro v wd ⟨rfl, hk⟩
        have Kd := Lib.hid hk
        clear hk
        have s4 := And.intro (HRA.out _ _ Kd.out) (HRB.out _ _ Kd.out)
        refine ⟨s4, ?_⟩
        simp only [List.getElem_toArray, List.getElem_cons_succ, List.getElem_cons_zero, Act.put, List.setIfInBounds_toArray, List.set_cons_zero, List.set_cons_succ]
        refine anyH_take (i := 22) (d := 96) (v := ?a22) rfl rfl (by kernel_rfl) (by kernel_rfl) (by kernel_rfl) (fun _ _ _ h => h) (Or.inl ⟨by rfl, ?ay22⟩) s4 ?ar22
        case ay22 => (intro w; go_simp; try with_reducible rfl)
        simp only [List.setIfInBounds_toArray, List.set_cons_zero, List.set_cons_succ]
        refine anyH_take (i := 23) (d := 97) (v := ?a23) rfl rfl (by kernel_rfl) (by kernel_rfl) (by kernel_rfl) (fun _ _ _ h => h) (Or.inl ⟨by rfl, ?ay23⟩) s4 ?ar23
        case ay23 => (intro w; go_simp; try with_reducible rfl)
        simp only [List.setIfInBounds_toArray, List.set_cons_zero, List.set_cons_succ]
        refine anyH_take (i := 24) (d := 98) (v := ?a24) rfl rfl (by kernel_rfl) (by kernel_rfl) (by kernel_rfl) (fun _ _ _ h => h) (Or.inl ⟨by rfl, ?ay24⟩) s4 ?ar24
        case ay24 => (intro w; go_simp; try with_reducible rfl)
        simp only [List.setIfInBounds_toArray, List.set_cons_zero, List.set_cons_succ]
        refine anyH_take (i := 25) (d := 99) (v := ?a25) rfl rfl (by kernel_rfl) (by kernel_rfl) (by kernel_rfl) (fun _ _ _ h => h) (Or.inl ⟨by rfl, ?ay25⟩) s4 ?ar25
        case ay25 => (intro w; go_simp; try with_reducible rfl)
        simp only [List.setIfInBounds_toArray, List.set_cons_zero, List.set_cons_succ]
        refine anyH_load (i := 27) (d := 101) rfl rfl (by kernel_rfl) (by kernel_rfl) (by kernel_rfl) (by rfl) 39 _ rfl w2.heap.size 0 rfl DA _ (fun W hSW => hSW.1) Try.underlying39 rfl hnA.out (fun _ _ _ h => h) s4 ?_
        simp only [List.setIfInBounds_toArray, List.set_cons_zero, List.set_cons_succ]
        refine wpAnyH_take' (i := 28) (d := 102) (v := .agg (sdT X).toArray) rfl rfl (by kernel_rfl) (by kernel_rfl) (by kernel_rfl) (fun _ _ _ h => h) (Or.inl ⟨by rfl, ?ay28⟩) s4 ?ar28
        case ay28 => (intro W hSW; exact exec_build 41 _ rfl _ HX.out W)
        simp only [List.setIfInBounds_toArray, List.set_cons_zero, List.set_cons_succ]
        refine anyH_two (i := 26) (j := 29) (by kernel_rfl) ?_ ?_
        · skip
          refine st3_call rfl (by rfl) (f := 14) (vals := #[.pointer (some ⟨g, 0, none⟩)]) (Z := fun v w' => PRow [X] w' v ∧ Below (wd).heap.size wd w') ?_ ?_ ?_
          · unfold execOp
            simp only [List.getElem_toArray, List.getElem_cons_succ, List.getElem_cons_zero, resolve, invoke, Sem.run_bind, Sem.run_pure, Result.andThen_ok, List.map_toArray, List.map_cons, List.map_nil]
            first | rfl | exact enters_of Try.func14 (by kernel_rfl) rfl _ _
          · exact Ce.out _ Kd.out
          rintro vp we ⟨hpr, hbe⟩
          have hk := Kd.out.below hbe
          have HP := Lib.hid hpr
          clear hpr hbe
          have Ke := Lib.hid hk
          clear hk
          have s5 := And.intro (HRA.out _ _ Ke.out) (HRB.out _ _ Ke.out)
          refine ⟨s5, ?_⟩
          simp only [List.getElem_toArray, List.getElem_cons_succ, List.getElem_cons_zero, Act.put, List.setIfInBounds_toArray, List.set_cons_zero, List.set_cons_succ]
          refine anyH_one (i := 29) (by kernel_rfl) ?_
          obtain ⟨wf, hwf⟩ : ∃ W, we.alloc (.cells (sdT X).toArray 41) = W := ⟨_, rfl⟩
          have hbe : Below we.heap.size we wf := by rw [← hwf]; exact (Below.refl _ _).alloc (Nat.le_refl _) _
          have hrow := row_stand X we
          have hpr := PRow.new we [X] 1 rfl
          rw [sdCs_single, hwf] at hpr
          rw [hwf] at hrow
          have HRW := Lib.hid hpr
          refine op_rowW rfl rfl (by rfl) _ _ _ rfl _ wf (by simp only [List.map_toArray, List.map_cons, List.map_nil]; exact hrow) ?_
          have hk := Ke.out.below hbe
          replace HP := Lib.hid (HP.out.on hbe)
          clear hpr hbe hrow
          have Kf := Lib.hid hk
          clear hk
          have s6 := And.intro (HRA.out _ _ Kf.out) (HRB.out _ _ Kf.out)
          refine ⟨s6, ?_⟩
          simp only [List.getElem_toArray, List.getElem_cons_succ, List.getElem_cons_zero, Act.put, List.setIfInBounds_toArray, List.set_cons_zero, List.set_cons_succ]
          refine anyH_one (i := 30) (by kernel_rfl) ?_
          refine st3_call rfl (by rfl) (f := 13) (vals := #[vp, (.slice (some ⟨we.heap.size, 0, none⟩) 1 1)]) (Z := fun v w' => v = .bool true ∧ Below wf.heap.size wf w') ?_ ?_ ?_
          · unfold execOp
            simp only [List.getElem_toArray, List.getElem_cons_succ, List.getElem_cons_zero, resolve, invoke, Sem.run_bind, Sem.run_pure, Result.andThen_ok, List.map_toArray, List.map_cons, List.map_nil]
            first | rfl | exact enters_of Try.func13 (by kernel_rfl) rfl _ _
          · exact (prow_stands HP.out HRW.out (by simp) (by simp)).mono fun e w' ⟨he, hb⟩ => ⟨_, he, by rw [decide_eq_true rfl], hb⟩
          rintro v wg ⟨rfl, hbe⟩
          have hk := Kf.out.below hbe
          clear hbe HP HRW
          have Kg := Lib.hid hk
          clear hk
          have s7 := And.intro (HRA.out _ _ Kg.out) (HRB.out _ _ Kg.out)
          refine ⟨s7, ?_⟩
          simp only [List.getElem_toArray, List.getElem_cons_succ, List.getElem_cons_zero, Act.put, List.setIfInBounds_toArray, List.set_cons_zero, List.set_cons_succ]
          refine anyH_take (i := 31) (d := 105) (v := ?b31) rfl rfl (by kernel_rfl) (by kernel_rfl) (by kernel_rfl) (fun _ _ _ h => h) (Or.inl ⟨by rfl, ?by31⟩) s7 ?br31
          case by31 => (intro w; go_simp; try with_reducible rfl)
          simp only [List.setIfInBounds_toArray, List.set_cons_zero, List.set_cons_succ]
          refine anyH_take (i := 32) (d := 106) (v := ?b32) rfl rfl (by kernel_rfl) (by kernel_rfl) (by kernel_rfl) (fun _ _ _ h => h) (Or.inl ⟨by rfl, ?by32⟩) s7 ?br32
          case by32 => (intro w; go_simp; try with_reducible rfl)
          simp only [List.setIfInBounds_toArray, List.set_cons_zero, List.set_cons_succ]
          refine anyH_take (i := 33) (d := 107) (v := ?b33) rfl rfl (by kernel_rfl) (by kernel_rfl) (by kernel_rfl) (fun _ _ _ h => h) (Or.inl ⟨by rfl, ?by33⟩) s7 ?br33
          case by33 => (intro w; go_simp; try with_reducible rfl)
          simp only [List.setIfInBounds_toArray, List.set_cons_zero, List.set_cons_succ]
          refine anyH_load (i := 35) (d := 109) rfl rfl (by kernel_rfl) (by kernel_rfl) (by kernel_rfl) (by rfl) 39 _ rfl w2.heap.size 0 rfl DA _ (fun W hSW => hSW.1) Try.underlying39 rfl hnA.out (fun _ _ _ h => h) s7 ?_
          simp only [List.setIfInBounds_toArray, List.set_cons_zero, List.set_cons_succ]
          refine wpAnyH_take' (i := 36) (d := 110) (v := .agg (sdT X).toArray) rfl rfl (by kernel_rfl) (by kernel_rfl) (by kernel_rfl) (fun _ _ _ h => h) (Or.inl ⟨by rfl, ?by36⟩) s7 ?br36
          case by36 => (intro W hSW; exact exec_build 41 _ rfl _ HX.out W)
          simp only [List.setIfInBounds_toArray, List.set_cons_zero, List.set_cons_succ]
          refine anyH_load (i := 37) (d := 111) rfl rfl (by kernel_rfl) (by kernel_rfl) (by kernel_rfl) (by rfl) 39 _ rfl (w2.heap.size + 1) 0 rfl DB _ (fun W hSW => hSW.2) Try.underlying39 rfl hnB.out (fun _ _ _ h => h) s7 ?_
          simp only [List.setIfInBounds_toArray, List.set_cons_zero, List.set_cons_succ]
          refine wpAnyH_take' (i := 38) (d := 112) (v := .agg (sdT Y).toArray) rfl rfl (by kernel_rfl) (by kernel_rfl) (by kernel_rfl) (fun _ _ _ h => h) (Or.inl ⟨by rfl, ?by38⟩) s7 ?br38
          case by38 => (intro W hSW; exact exec_build 41 _ rfl _ HY.out W)
          simp only [List.setIfInBounds_toArray, List.set_cons_zero, List.set_cons_succ]
          refine anyH_two (i := 34) (j := 39) (by kernel_rfl) ?_ ?_
          · skip
            refine st3_call rfl (by rfl) (f := 15) (vals := #[.pointer (some ⟨g, 0, none⟩)]) (Z := fun v w' => PRow [X, Y] w' v ∧ Below wg.heap.size wg w') ?_ ?_ ?_
            · unfold execOp
              simp only [List.getElem_toArray, List.getElem_cons_succ, List.getElem_cons_zero, resolve, invoke, Sem.run_bind, Sem.run_pure, Result.andThen_ok, List.map_toArray, List.map_cons, List.map_nil]
              first | rfl | exact enters_of Try.func15 (by kernel_rfl) rfl _ _
            · exact Cf.out _ Kg.out
            rintro vq wh ⟨hpr, hbe⟩
            have hk := Kg.out.below hbe
            have HP := Lib.hid hpr
            clear hpr hbe
            have Kh := Lib.hid hk
            clear hk
            have s8 := And.intro (HRA.out _ _ Kh.out) (HRB.out _ _ Kh.out)
            refine ⟨s8, ?_⟩
            simp only [List.getElem_toArray, List.getElem_cons_succ, List.getElem_cons_zero, Act.put, List.setIfInBounds_toArray, List.set_cons_zero, List.set_cons_succ]
            refine anyH_one (i := 39) (by kernel_rfl) ?_
            obtain ⟨wi, hwi⟩ : ∃ W, wh.alloc (.cells (sdCs [X, Y]).toArray 41) = W := ⟨_, rfl⟩
            have hbe : Below wh.heap.size wh wi := by rw [← hwi]; exact (Below.refl _ _).alloc (Nat.le_refl _) _
            have hrow := row_stand2 X Y wh
            have hpr := PRow.new wh [X, Y] 2 rfl
            rw [hwi] at hpr
            rw [hwi] at hrow
            have HRW := Lib.hid hpr
            refine op_rowW rfl rfl (by rfl) _ _ _ rfl _ wi (by simp only [List.map_toArray, List.map_cons, List.map_nil]; exact hrow) ?_
            have hk := Kh.out.below hbe
            replace HP := Lib.hid (HP.out.on hbe)
            clear hpr hbe hrow
            have Ki := Lib.hid hk
            clear hk
            have s9 := And.intro (HRA.out _ _ Ki.out) (HRB.out _ _ Ki.out)
            refine ⟨s9, ?_⟩
            simp only [List.getElem_toArray, List.getElem_cons_succ, List.getElem_cons_zero, Act.put, List.setIfInBounds_toArray, List.set_cons_zero, List.set_cons_succ]
            refine anyH_one (i := 40) (by kernel_rfl) ?_
            refine st3_call rfl (by rfl) (f := 13) (vals := #[vq, (.slice (some ⟨wh.heap.size, 0, none⟩) 2 2)]) (Z := fun v w' => v = .bool true ∧ Below wi.heap.size wi w') ?_ ?_ ?_
            · unfold execOp
              simp only [List.getElem_toArray, List.getElem_cons_succ, List.getElem_cons_zero, resolve, invoke, Sem.run_bind, Sem.run_pure, Result.andThen_ok, List.map_toArray, List.map_cons, List.map_nil]
              first | rfl | exact enters_of Try.func13 (by kernel_rfl) rfl _ _
            · exact (prow_stands HP.out HRW.out (by simp) (by simp)).mono fun e w' ⟨he, hb⟩ => ⟨_, he, by rw [decide_eq_true rfl], hb⟩
            rintro v wj ⟨rfl, hbe⟩
            have hk := Ki.out.below hbe
            clear hbe HP HRW
            have Kj := Lib.hid hk
            clear hk
            have sa := And.intro (HRA.out _ _ Kj.out) (HRB.out _ _ Kj.out)
            refine ⟨sa, ?_⟩
            simp only [List.getElem_toArray, List.getElem_cons_succ, List.getElem_cons_zero, Act.put, List.setIfInBounds_toArray, List.set_cons_zero, List.set_cons_succ]
            refine anyH_take (i := 41) (d := 115) (v := ?bc41) rfl rfl (by kernel_rfl) (by kernel_rfl) (by kernel_rfl) (fun _ _ _ h => h) (Or.inl ⟨by rfl, ?bcy41⟩) sa ?bcr41
            case bcy41 => (intro w; go_simp; try with_reducible rfl)
            simp only [List.setIfInBounds_toArray, List.set_cons_zero, List.set_cons_succ]
            refine anyH_take (i := 42) (d := 0) (v := ?bc42) rfl rfl (by kernel_rfl) (by kernel_rfl) (by kernel_rfl) (fun _ _ _ h => h) (Or.inl ⟨by rfl, ?bcy42⟩) sa ?bcr42
            case bcy42 => (intro w; go_simp; try with_reducible rfl)
            simp only [List.setIfInBounds_toArray, List.set_cons_zero, List.set_cons_succ]
            refine wpAnyH_done (by kernel_rfl) ?_ _
            go_wp2
            go_ret
            exact ⟨rfl, Kj.out.bel⟩
          · skip
            obtain ⟨wh, hwh⟩ : ∃ W, wg.alloc (.cells (sdCs [X, Y]).toArray 41) = W := ⟨_, rfl⟩
            have hbe : Below wg.heap.size wg wh := by rw [← hwh]; exact (Below.refl _ _).alloc (Nat.le_refl _) _
            have hrow := row_stand2 X Y wg
            have hpr := PRow.new wg [X, Y] 2 rfl
            rw [hwh] at hpr
            rw [hwh] at hrow
            have HRW := Lib.hid hpr
            refine op_rowW rfl rfl (by rfl) _ _ _ rfl _ wh (by simp only [List.map_toArray, List.map_cons, List.map_nil]; exact hrow) ?_
            have hk := Kg.out.below hbe
            clear hpr hbe hrow
            have Kh := Lib.hid hk
            clear hk
            have s8 := And.intro (HRA.out _ _ Kh.out) (HRB.out _ _ Kh.out)
            refine ⟨s8, ?_⟩
            simp only [List.getElem_toArray, List.getElem_cons_succ, List.getElem_cons_zero, Act.put, List.setIfInBounds_toArray, List.set_cons_zero, List.set_cons_succ]
            refine anyH_one (i := 34) (by kernel_rfl) ?_
            refine st3_call rfl (by rfl) (f := 15) (vals := #[.pointer (some ⟨g, 0, none⟩)]) (Z := fun v w' => PRow [X, Y] w' v ∧ Below wh.heap.size wh w') ?_ ?_ ?_
            · unfold execOp
              simp only [List.getElem_toArray, List.getElem_cons_succ, List.getElem_cons_zero, resolve, invoke, Sem.run_bind, Sem.run_pure, Result.andThen_ok, List.map_toArray, List.map_cons, List.map_nil]
              first | rfl | exact enters_of Try.func15 (by kernel_rfl) rfl _ _
            · exact Cf.out _ Kh.out
            rintro vq wi ⟨hpr, hbe⟩
            have hk := Kh.out.below hbe
            replace HRW := Lib.hid (HRW.out.on hbe)
            have HP := Lib.hid hpr
            clear hpr hbe
            have Ki := Lib.hid hk
            clear hk
            have s9 := And.intro (HRA.out _ _ Ki.out) (HRB.out _ _ Ki.out)
            refine ⟨s9, ?_⟩
            simp only [List.getElem_toArray, List.getElem_cons_succ, List.getElem_cons_zero, Act.put, List.setIfInBounds_toArray, List.set_cons_zero, List.set_cons_succ]
            refine anyH_one (i := 40) (by kernel_rfl) ?_
            refine st3_call rfl (by rfl) (f := 13) (vals := #[vq, (.slice (some ⟨wg.heap.size, 0, none⟩) 2 2)]) (Z := fun v w' => v = .bool true ∧ Below wi.heap.size wi w') ?_ ?_ ?_
            · unfold execOp
              simp only [List.getElem_toArray, List.getElem_cons_succ, List.getElem_cons_zero, resolve, invoke, Sem.run_bind, Sem.run_pure, Result.andThen_ok, List.map_toArray, List.map_cons, List.map_nil]
              first | rfl | exact enters_of Try.func13 (by kernel_rfl) rfl _ _
            · exact (prow_stands HP.out HRW.out (by simp) (by simp)).mono fun e w' ⟨he, hb⟩ => ⟨_, he, by rw [decide_eq_true rfl], hb⟩
            rintro v wj ⟨rfl, hbe⟩
            have hk := Ki.out.below hbe
            clear hbe HP HRW
            have Kj := Lib.hid hk
            clear hk
            have sa := And.intro (HRA.out _ _ Kj.out) (HRB.out _ _ Kj.out)
            refine ⟨sa, ?_⟩
            simp only [List.getElem_toArray, List.getElem_cons_succ, List.getElem_cons_zero, Act.put, List.setIfInBounds_toArray, List.set_cons_zero, List.set_cons_succ]
            refine anyH_take (i := 41) (d := 115) (v := ?br41) rfl rfl (by kernel_rfl) (by kernel_rfl) (by kernel_rfl) (fun _ _ _ h => h) (Or.inl ⟨by rfl, ?bry41⟩) sa ?brr41
            case bry41 => (intro w; go_simp; try with_reducible rfl)
            simp only [List.setIfInBounds_toArray, List.set_cons_zero, List.set_cons_succ]
            refine anyH_take (i := 42) (d := 0) (v := ?br42) rfl rfl (by kernel_rfl) (by kernel_rfl) (by kernel_rfl) (fun _ _ _ h => h) (Or.inl ⟨by rfl, ?bry42⟩) sa ?brr42
            case bry42 => (intro w; go_simp; try with_reducible rfl)
            simp only [List.setIfInBounds_toArray, List.set_cons_zero, List.set_cons_succ]
            refine wpAnyH_done (by kernel_rfl) ?_ _
            go_wp2
            go_ret
            exact ⟨rfl, Kj.out.bel⟩
        · skip
          obtain ⟨we, hwe⟩ : ∃ W, wd.alloc (.cells (sdT X).toArray 41) = W := ⟨_, rfl⟩
          have hbe : Below wd.heap.size wd we := by rw [← hwe]; exact (Below.refl _ _).alloc (Nat.le_refl _) _
          have hrow := row_stand X wd
          have hpr := PRow.new wd [X] 1 rfl
          rw [sdCs_single, hwe] at hpr
          rw [hwe] at hrow
          have HRW := Lib.hid hpr
          refine op_rowW rfl rfl (by rfl) _ _ _ rfl _ we (by simp only [List.map_toArray, List.map_cons, List.map_nil]; exact hrow) ?_
          have hk := Kd.out.below hbe
          clear hpr hbe hrow
          have Ke := Lib.hid hk
          clear hk
          have s5 := And.intro (HRA.out _ _ Ke.out) (HRB.out _ _ Ke.out)
          refine ⟨s5, ?_⟩
          simp only [List.getElem_toArray, List.getElem_cons_succ, List.getElem_cons_zero, Act.put, List.setIfInBounds_toArray, List.set_cons_zero, List.set_cons_succ]
          refine anyH_one (i := 26) (by kernel_rfl) ?_
          refine st3_call rfl (by rfl) (f := 14) (vals := #[.pointer (some ⟨g, 0, none⟩)]) (Z := fun v w' => PRow [X] w' v ∧ Below (we).heap.size we w') ?_ ?_ ?_
          · unfold execOp
            simp only [List.getElem_toArray, List.getElem_cons_succ, List.getElem_cons_zero, resolve, invoke, Sem.run_bind, Sem.run_pure, Result.andThen_ok, List.map_toArray, List.map_cons, List.map_nil]
            first | rfl | exact enters_of Try.func14 (by kernel_rfl) rfl _ _
          · exact Ce.out _ Ke.out
          rintro vp wf ⟨hpr, hbe⟩
          have hk := Ke.out.below hbe
          replace HRW := Lib.hid (HRW.out.on hbe)
          have HP := Lib.hid hpr
          clear hpr hbe
          have Kf := Lib.hid hk
          clear hk
          have s6 := And.intro (HRA.out _ _ Kf.out) (HRB.out _ _ Kf.out)
          refine ⟨s6, ?_⟩
          simp only [List.getElem_toArray, List.getElem_cons_succ, List.getElem_cons_zero, Act.put, List.setIfInBounds_toArray, List.set_cons_zero, List.set_cons_succ]
          refine anyH_one (i := 30) (by kernel_rfl) ?_
          refine st3_call rfl (by rfl) (f := 13) (vals := #[vp, (.slice (some ⟨wd.heap.size, 0, none⟩) 1 1)]) (Z := fun v w' => v = .bool true ∧ Below wf.heap.size wf w') ?_ ?_ ?_
          · unfold execOp
            simp only [List.getElem_toArray, List.getElem_cons_succ, List.getElem_cons_zero, resolve, invoke, Sem.run_bind, Sem.run_pure, Result.andThen_ok, List.map_toArray, List.map_cons, List.map_nil]
            first | rfl | exact enters_of Try.func13 (by kernel_rfl) rfl _ _
          · exact (prow_stands HP.out HRW.out (by simp) (by simp)).mono fun e w' ⟨he, hb⟩ => ⟨_, he, by rw [decide_eq_true rfl], hb⟩
          rintro v wg ⟨rfl, hbe⟩
          have hk := Kf.out.below hbe
          clear hbe HP HRW
          have Kg := Lib.hid hk
          clear hk
          have s7 := And.intro (HRA.out _ _ Kg.out) (HRB.out _ _ Kg.out)
          refine ⟨s7, ?_⟩
          simp only [List.getElem_toArray, List.getElem_cons_succ, List.getElem_cons_zero, Act.put, List.setIfInBounds_toArray, List.set_cons_zero, List.set_cons_succ]
          refine anyH_take (i := 31) (d := 105) (v := ?d31) rfl rfl (by kernel_rfl) (by kernel_rfl) (by kernel_rfl) (fun _ _ _ h => h) (Or.inl ⟨by rfl, ?dy31⟩) s7 ?dr31
          case dy31 => (intro w; go_simp; try with_reducible rfl)
          simp only [List.setIfInBounds_toArray, List.set_cons_zero, List.set_cons_succ]
          refine anyH_take (i := 32) (d := 106) (v := ?d32) rfl rfl (by kernel_rfl) (by kernel_rfl) (by kernel_rfl) (fun _ _ _ h => h) (Or.inl ⟨by rfl, ?dy32⟩) s7 ?dr32
          case dy32 => (intro w; go_simp; try with_reducible rfl)
          simp only [List.setIfInBounds_toArray, List.set_cons_zero, List.set_cons_succ]
          refine anyH_take (i := 33) (d := 107) (v := ?d33) rfl rfl (by kernel_rfl) (by kernel_rfl) (by kernel_rfl) (fun _ _ _ h => h) (Or.inl ⟨by rfl, ?dy33⟩) s7 ?dr33
          case dy33 => (intro w; go_simp; try with_reducible rfl)
          simp only [List.setIfInBounds_toArray, List.set_cons_zero, List.set_cons_succ]
          refine anyH_load (i := 35) (d := 109) rfl rfl (by kernel_rfl) (by kernel_rfl) (by kernel_rfl) (by rfl) 39 _ rfl w2.heap.size 0 rfl DA _ (fun W hSW => hSW.1) Try.underlying39 rfl hnA.out (fun _ _ _ h => h) s7 ?_
          simp only [List.setIfInBounds_toArray, List.set_cons_zero, List.set_cons_succ]
          refine wpAnyH_take' (i := 36) (d := 110) (v := .agg (sdT X).toArray) rfl rfl (by kernel_rfl) (by kernel_rfl) (by kernel_rfl) (fun _ _ _ h => h) (Or.inl ⟨by rfl, ?dy36⟩) s7 ?dr36
          case dy36 => (intro W hSW; exact exec_build 41 _ rfl _ HX.out W)
          simp only [List.setIfInBounds_toArray, List.set_cons_zero, List.set_cons_succ]
          refine anyH_load (i := 37) (d := 111) rfl rfl (by kernel_rfl) (by kernel_rfl) (by kernel_rfl) (by rfl) 39 _ rfl (w2.heap.size + 1) 0 rfl DB _ (fun W hSW => hSW.2) Try.underlying39 rfl hnB.out (fun _ _ _ h => h) s7 ?_
          simp only [List.setIfInBounds_toArray, List.set_cons_zero, List.set_cons_succ]
          refine wpAnyH_take' (i := 38) (d := 112) (v := .agg (sdT Y).toArray) rfl rfl (by kernel_rfl) (by kernel_rfl) (by kernel_rfl) (fun _ _ _ h => h) (Or.inl ⟨by rfl, ?dy38⟩) s7 ?dr38
          case dy38 => (intro W hSW; exact exec_build 41 _ rfl _ HY.out W)
          simp only [List.setIfInBounds_toArray, List.set_cons_zero, List.set_cons_succ]
          refine anyH_two (i := 34) (j := 39) (by kernel_rfl) ?_ ?_
          · skip
            refine st3_call rfl (by rfl) (f := 15) (vals := #[.pointer (some ⟨g, 0, none⟩)]) (Z := fun v w' => PRow [X, Y] w' v ∧ Below wg.heap.size wg w') ?_ ?_ ?_
            · unfold execOp
              simp only [List.getElem_toArray, List.getElem_cons_succ, List.getElem_cons_zero, resolve, invoke, Sem.run_bind, Sem.run_pure, Result.andThen_ok, List.map_toArray, List.map_cons, List.map_nil]
              first | rfl | exact enters_of Try.func15 (by kernel_rfl) rfl _ _
            · exact Cf.out _ Kg.out
            rintro vq wh ⟨hpr, hbe⟩
            have hk := Kg.out.below hbe
            have HP := Lib.hid hpr
            clear hpr hbe
            have Kh := Lib.hid hk
            clear hk
            have s8 := And.intro (HRA.out _ _ Kh.out) (HRB.out _ _ Kh.out)
            refine ⟨s8, ?_⟩
            simp only [List.getElem_toArray, List.getElem_cons_succ, List.getElem_cons_zero, Act.put, List.setIfInBounds_toArray, List.set_cons_zero, List.set_cons_succ]
            refine anyH_one (i := 39) (by kernel_rfl) ?_
            obtain ⟨wi, hwi⟩ : ∃ W, wh.alloc (.cells (sdCs [X, Y]).toArray 41) = W := ⟨_, rfl⟩
            have hbe : Below wh.heap.size wh wi := by rw [← hwi]; exact (Below.refl _ _).alloc (Nat.le_refl _) _
            have hrow := row_stand2 X Y wh
            have hpr := PRow.new wh [X, Y] 2 rfl
            rw [hwi] at hpr
            rw [hwi] at hrow
            have HRW := Lib.hid hpr
            refine op_rowW rfl rfl (by rfl) _ _ _ rfl _ wi (by simp only [List.map_toArray, List.map_cons, List.map_nil]; exact hrow) ?_
            have hk := Kh.out.below hbe
            replace HP := Lib.hid (HP.out.on hbe)
            clear hpr hbe hrow
            have Ki := Lib.hid hk
            clear hk
            have s9 := And.intro (HRA.out _ _ Ki.out) (HRB.out _ _ Ki.out)
            refine ⟨s9, ?_⟩
            simp only [List.getElem_toArray, List.getElem_cons_succ, List.getElem_cons_zero, Act.put, List.setIfInBounds_toArray, List.set_cons_zero, List.set_cons_succ]
            refine anyH_one (i := 40) (by kernel_rfl) ?_
            refine st3_call rfl (by rfl) (f := 13) (vals := #[vq, (.slice (some ⟨wh.heap.size, 0, none⟩) 2 2)]) (Z := fun v w' => v = .bool true ∧ Below wi.heap.size wi w') ?_ ?_ ?_
            · unfold execOp
              simp only [List.getElem_toArray, List.getElem_cons_succ, List.getElem_cons_zero, resolve, invoke, Sem.run_bind, Sem.run_pure, Result.andThen_ok, List.map_toArray, List.map_cons, List.map_nil]
              first | rfl | exact enters_of Try.func13 (by kernel_rfl) rfl _ _
            · exact (prow_stands HP.out HRW.out (by simp) (by simp)).mono fun e w' ⟨he, hb⟩ => ⟨_, he, by rw [decide_eq_true rfl], hb⟩
            rintro v wj ⟨rfl, hbe⟩
            have hk := Ki.out.below hbe
            clear hbe HP HRW
            have Kj := Lib.hid hk
            clear hk
            have sa := And.intro (HRA.out _ _ Kj.out) (HRB.out _ _ Kj.out)
            refine ⟨sa, ?_⟩
            simp only [List.getElem_toArray, List.getElem_cons_succ, List.getElem_cons_zero, Act.put, List.setIfInBounds_toArray, List.set_cons_zero, List.set_cons_succ]
            refine anyH_take (i := 41) (d := 115) (v := ?dc41) rfl rfl (by kernel_rfl) (by kernel_rfl) (by kernel_rfl) (fun _ _ _ h => h) (Or.inl ⟨by rfl, ?dcy41⟩) sa ?dcr41
            case dcy41 => (intro w; go_simp; try with_reducible rfl)
            simp only [List.setIfInBounds_toArray, List.set_cons_zero, List.set_cons_succ]
            refine anyH_take (i := 42) (d := 0) (v := ?dc42) rfl rfl (by kernel_rfl) (by kernel_rfl) (by kernel_rfl) (fun _ _ _ h => h) (Or.inl ⟨by rfl, ?dcy42⟩) sa ?dcr42
            case dcy42 => (intro w; go_simp; try with_reducible rfl)
            simp only [List.setIfInBounds_toArray, List.set_cons_zero, List.set_cons_succ]
            refine wpAnyH_done (by kernel_rfl) ?_ _
            go_wp2
            go_ret
            exact ⟨rfl, Kj.out.bel⟩
          · skip
            obtain ⟨wh, hwh⟩ : ∃ W, wg.alloc (.cells (sdCs [X, Y]).toArray 41) = W := ⟨_, rfl⟩
            have hbe : Below wg.heap.size wg wh := by rw [← hwh]; exact (Below.refl _ _).alloc (Nat.le_refl _) _
            have hrow := row_stand2 X Y wg
            have hpr := PRow.new wg [X, Y] 2 rfl
            rw [hwh] at hpr
            rw [hwh] at hrow
            have HRW := Lib.hid hpr
            refine op_rowW rfl rfl (by rfl) _ _ _ rfl _ wh (by simp only [List.map_toArray, List.map_cons, List.map_nil]; exact hrow) ?_
            have hk := Kg.out.below hbe
            clear hpr hbe hrow
            have Kh := Lib.hid hk
            clear hk
            have s8 := And.intro (HRA.out _ _ Kh.out) (HRB.out _ _ Kh.out)
            refine ⟨s8, ?_⟩
            simp only [List.getElem_toArray, List.getElem_cons_succ, List.getElem_cons_zero, Act.put, List.setIfInBounds_toArray, List.set_cons_zero, List.set_cons_succ]
            refine anyH_one (i := 34) (by kernel_rfl) ?_
            refine st3_call rfl (by rfl) (f := 15) (vals := #[.pointer (some ⟨g, 0, none⟩)]) (Z := fun v w' => PRow [X, Y] w' v ∧ Below wh.heap.size wh w') ?_ ?_ ?_
            · unfold execOp
              simp only [List.getElem_toArray, List.getElem_cons_succ, List.getElem_cons_zero, resolve, invoke, Sem.run_bind, Sem.run_pure, Result.andThen_ok, List.map_toArray, List.map_cons, List.map_nil]
              first | rfl | exact enters_of Try.func15 (by kernel_rfl) rfl _ _
            · exact Cf.out _ Kh.out
            rintro vq wi ⟨hpr, hbe⟩
            have hk := Kh.out.below hbe
            replace HRW := Lib.hid (HRW.out.on hbe)
            have HP := Lib.hid hpr
            clear hpr hbe
            have Ki := Lib.hid hk
            clear hk
            have s9 := And.intro (HRA.out _ _ Ki.out) (HRB.out _ _ Ki.out)
            refine ⟨s9, ?_⟩
            simp only [List.getElem_toArray, List.getElem_cons_succ, List.getElem_cons_zero, Act.put, List.setIfInBounds_toArray, List.set_cons_zero, List.set_cons_succ]
            refine anyH_one (i := 40) (by kernel_rfl) ?_
            refine st3_call rfl (by rfl) (f := 13) (vals := #[vq, (.slice (some ⟨wg.heap.size, 0, none⟩) 2 2)]) (Z := fun v w' => v = .bool true ∧ Below wi.heap.size wi w') ?_ ?_ ?_
            · unfold execOp
              simp only [List.getElem_toArray, List.getElem_cons_succ, List.getElem_cons_zero, resolve, invoke, Sem.run_bind, Sem.run_pure, Result.andThen_ok, List.map_toArray, List.map_cons, List.map_nil]
              first | rfl | exact enters_of Try.func13 (by kernel_rfl) rfl _ _
            · exact (prow_stands HP.out HRW.out (by simp) (by simp)).mono fun e w' ⟨he, hb⟩ => ⟨_, he, by rw [decide_eq_true rfl], hb⟩
            rintro v wj ⟨rfl, hbe⟩
            have hk := Ki.out.below hbe
            clear hbe HP HRW
            have Kj := Lib.hid hk
            clear hk
            have sa := And.intro (HRA.out _ _ Kj.out) (HRB.out _ _ Kj.out)
            refine ⟨sa, ?_⟩
            simp only [List.getElem_toArray, List.getElem_cons_succ, List.getElem_cons_zero, Act.put, List.setIfInBounds_toArray, List.set_cons_zero, List.set_cons_succ]
            refine anyH_take (i := 41) (d := 115) (v := ?dr41) rfl rfl (by kernel_rfl) (by kernel_rfl) (by kernel_rfl) (fun _ _ _ h => h) (Or.inl ⟨by rfl, ?dry41⟩) sa ?drr41
            case dry41 => (intro w; go_simp; try with_reducible rfl)
            simp only [List.setIfInBounds_toArray, List.set_cons_zero, List.set_cons_succ]
            refine anyH_take (i := 42) (d := 0) (v := ?dr42) rfl rfl (by kernel_rfl) (by kernel_rfl) (by kernel_rfl) (fun _ _ _ h => h) (Or.inl ⟨by rfl, ?dry42⟩) sa ?drr42
            case dry42 => (intro w; go_simp; try with_reducible rfl)
            simp only [List.setIfInBounds_toArray, List.set_cons_zero, List.set_cons_succ]
            refine wpAnyH_done (by kernel_rfl) ?_ _
            go_wp2
            go_ret
            exact ⟨rfl, Kj.out.bel⟩
end Go.Proofs.Ytmdgcimjmmnbjaa

namespace Go.Proofs.Ytmdgcimjmmnbjaa
open Go.RowKit Go.Shelf Go.Sort Go.Maps CrewP
set_option linter.unusedVariables false
set_option linter.unusedSimpArgs false

section
variable {P : Program} {K : TypeId} {α β : Type} [DecidableEq α] {T : KeyT P K α} {vv : β → Value} {w w' : World} {m r : Nat} {L todo : List (α × β)} {a : α}
theorem RangeT.drop {t e : TypeId} (h : RangeT T vv w m r L todo) (ht : P.underlying t = some (.map K e)) (ha : T.ok a) (ty : TypeId) (hno : ∀ b, (a, b) ∉ todo) :
    ∃ w', (Builtin.delete_ #[t, K] ty #[.map (some m), T.kv a]).run P w = .ok (.tuple #[]) w' ∧ w.mapTurned w' m ∧ RangeT T vv w' m r (delL L a) todo ∧ w'.rangeLeft m r ≤ w.rangeLeft m r := by
  obtain ⟨hd, es, n, left, cnt, h1, hp, rfl⟩ := h
  obtain ⟨w', cnt', hrun, h2, hle, hturn⟩ := h1.drop T.keyed ht (T.key ha) ty
  have hk := T.keyed.key (T.key ha)
  refine ⟨w', hrun, hturn, ⟨⟨hd.nd.sublist (List.filter_sublist.map _), fun p hp => hd.ok p (List.mem_filter.1 hp).1⟩, _, n, _, cnt', h2, ?_, ?_⟩, by rw [h2.left_eq, h1.left_eq]; exact hle⟩
  · refine (hp.filter _).trans ?_
    unfold lits delL
    rw [List.filter_map]
    refine (List.Perm.of_eq ?_)
    congr 1
    refine List.filter_congr fun p hp => ?_
    simp only [Function.comp_apply]
    by_cases e : p.1 = a
    · simp [e, WideAt.sameKey_self hk]
    · simp only [e, not_false_eq_true, decide_true, ne_eq, Bool.not_eq_true']
      exact sameKey_ne fun e' => e (T.kinj (hd.ok p hp) ha e')
  · unfold delL
    rw [List.filter_filter]
    refine List.filter_congr fun p hp => ?_
    by_cases e : p.1 = a
    · have hl : left (T.kl p.1) = false := by
        cases h3 : left (T.kl p.1)
        · rfl
        · exact absurd (List.mem_filter.2 ⟨hp, h3⟩) (fun hm => hno p.2 (by rw [← e]; exact hm))
      simp [e, hl]
      rw [e] at hl
      exact hl
    · have hs : (T.kl p.1).sameKey (T.kl a) = false := sameKey_ne fun e' => e (T.kinj (hd.ok p hp) ha e')
      simp [e, hs]
end
theorem del_g {P : Program} {ops : Array Oper} {rest : List Oper} {o : Oper} {a : Act} {w : World} {Q : Exit → Act → World → Prop} (hgd : o.guard = none) (hd : o.dst = none) (s x : Operand) (t1 t2 : TypeId) (ho : o.op = .call { callee := .builtin .delete, args := #[s, x], argTypes := #[t1, t2] })
    (v u : Value) (w' : World) (hs : a.eval s = v) (hx : a.eval x = u) (hrun : (Builtin.delete_ #[t1, t2] o.type #[v, u]).run P w = .ok (.tuple #[]) w') (h : wpList P ops Q rest a w') : wpList P ops Q (o :: rest) a w := by
  refine wpList_plain hgd fun K hK => ?_
  unfold Oper.wp execOp
  simp only [ho, resolve, invoke, builtin, Sem.run_bind, Sem.run_pure, Result.andThen_ok, List.map_toArray, List.map_cons, List.map_nil, hs, hx, hrun]
  have h' : wpList P ops Q rest (a.put o.dst (.tuple #[])) w' := by rw [hd]; exact h
  exact hK _ _ h'

/-- The low mark moved; what was known moved with it. -/
def lowS (σ : St) (lo : Int) : St := { σ with low := lo, s := fun i => if (lo - σ.low).toNat + i < 8 then σ.s ((lo - σ.low).toNat + i) else sq0 }
def thL (k : Nat) : Nat → Bool := fun i => decide (k + i < 8)
section
variable {w w' : World} {U : Nat → Prop} {g : Nat} {σ : St} {ab cap m : Nat} {sb qb rb cb : Nat → Nat} {role : Nat → Nat}
theorem raise_0 {lo : Int} (hE : raiseE σ lo = 0) : raiseS σ lo = lowS σ lo := by unfold raiseS lowS; rw [if_neg (by rw [hE]; omega)]
theorem raise_9 {lo : Int} (hE : raiseE σ lo ≠ 0) : raiseS σ lo = σ := by unfold raiseS; rw [if_pos hE]
theorem fill_low (σ : St) (lo : Int) : fillS (lowS σ lo) (thL (lo - σ.low).toNat) = lowS σ lo := by
  unfold fillS lowS thL
  congr 1
  funext i
  by_cases h : (lo - σ.low).toNat + i < 8 <;> simp [h]
/-- The slots behind the loop, ahead of open. -/
theorem StIn.lift (h : StIn w U g σ all8 ab cap m sb qb rb cb role) {lo : Int} (hE : raiseE σ lo = 0) {w1 : World} (ho : Out (fun b => b = g ∨ b = m) w w1) (hb : Blk w1 g 72 [.int .i64 σ.f, .slice (some ⟨ab, 0, none⟩) σ.ns.length cap, .int .i64 lo, .map (some m)])
    {L : List (Int × Nat)} (hm : MapT intK ptr w1 m L) (hL : ∀ p, p ∈ L ↔ p ∈ nums σ.low sb all8 ∧ lo < p.1) :
    StIn w1 U g (lowS σ lo) (thL (lo - σ.low).toNat) ab cap m (fun i => sb ((lo - σ.low).toNat + i)) (fun i => qb ((lo - σ.low).toNat + i)) (fun i => rb ((lo - σ.low).toNat + i)) (fun i => cb ((lo - σ.low).toNat + i))
      (fun b => if role b < 4 then role b else if role b < 4 * (lo - σ.low).toNat + 4 then 0 else role b - 4 * (lo - σ.low).toNat) := by
  have hok := raiseS_ok h.ok (low := lo)
  rw [raise_0 hE] at hok
  have hle : σ.low ≤ lo := by
    unfold raiseE at hE
    split at hE
    · omega
    · omega
  obtain ⟨k, hk⟩ : ∃ k, (lo - σ.low).toNat = k := ⟨_, rfl⟩
  have hkl : lo = σ.low + k := by omega
  have hgm : ∀ b, (b = g ∨ b = m) → role b = 1 ∨ role b = 3 := fun b hb => hb.elim (fun e => .inl (by rw [e]; exact h.rg)) fun e => .inr (by rw [e]; exact h.rm)
  obtain ⟨cs, n1, n2⟩ := h.nd
  have hs1 : ∀ i, k + i < 8 → (lowS σ lo).s i = σ.s (k + i) := fun i hi => by unfold lowS; simp only [hk]; rw [if_pos hi]
  rw [hk]
  refine ⟨hok, hb, ⟨cs, ho.blk n1 fun e => by have := hgm _ e; rw [h.ra] at this; omega, n2⟩, hm.perm ?_, fun i hi ht => ?_, ?_, ?_, ?_, fun i hi ht => ?_, fun b hb => ?_, fun b hb => Nat.lt_of_lt_of_le (h.lt b hb) ho.size⟩
  · obtain ⟨hd, _⟩ := hm
    refine perm_of_mem hd.nd (nums_nd _ _ _) fun p => ?_
    obtain ⟨x, b⟩ := p
    rw [hL, nums_iff, nums_iff]
    constructor
    · rintro ⟨⟨i, hi, _, e1, e2⟩, hlt⟩
      simp only at hlt
      refine ⟨i - k, by omega, by simp [thL]; omega, ?_, ?_⟩
      · show x = lo + 1 + ((i - k : Nat) : Int)
        omega
      · rw [e2]; congr 1; omega
    · rintro ⟨i, hi, ht, e1, e2⟩
      have ht' : k + i < 8 := by simpa [thL] using ht
      have e1' : x = lo + 1 + (i : Int) := e1
      exact ⟨⟨k + i, ht', rfl, by omega, e2⟩, by show lo < x; omega⟩
  · have ht' : k + i < 8 := by simpa [thL] using ht
    rw [hs1 i ht']
    obtain ⟨r1, r2, r3, r4⟩ := h.rs (k + i) ht' rfl
    exact (h.s (k + i) ht' rfl).out ho (fun e => by have := hgm _ e; omega) (fun e => by have := hgm _ e; omega) (fun e => by have := hgm _ e; omega) (fun e => by have := hgm _ e; omega)
  · simp only [h.rg]; rw [if_pos (by omega)]
  · simp only [h.ra]; rw [if_pos (by omega)]
  · simp only [h.rm]; rw [if_pos (by omega)]
  · have ht' : k + i < 8 := by simpa [thL] using ht
    obtain ⟨r1, r2, r3, r4⟩ := h.rs (k + i) ht' rfl
    simp only [r1, r2, r3, r4]
    refine ⟨?_, ?_, ?_, ?_⟩
    · rw [if_neg (by omega), if_neg (by omega)]; omega
    · rw [if_neg (by omega), if_neg (by omega)]; omega
    · rw [if_neg (by omega), if_neg (by omega)]; omega
    · rw [if_neg (by omega), if_neg (by omega)]; omega
  · refine h.u b fun e => hb ?_
    simp [e]
end
end Go.Proofs.Ytmdgcimjmmnbjaa
