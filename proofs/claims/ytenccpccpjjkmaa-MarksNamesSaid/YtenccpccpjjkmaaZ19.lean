/-
  Laid together for a hand-in: Nm15, Ln15.
-/
import Derived.Test.YtenccpccpjjkmaaZ18
import Derived.Great.BuildSlice

namespace Go.Proofs.Ytenccpccpjjkmaa
open Go.RowKit Go.Shelf Go.Sort Go.Maps CrewP
set_option linter.unusedVariables false
set_option linter.unusedSimpArgs false

/-- Marks that are none. -/
def NoM (w : World) (pv : Option Addr) : Prop := pv = none ∨ ∃ g, pv = some ⟨g, 0, none⟩ ∧ Blk w g 64 (msU 0 (.slice none 0 0) mk0 (.map none))
section
variable {w w' : World} {pv : Option Addr}
theorem NoM.below (h : NoM w pv) (hb : Below w.heap.size w w') : NoM w' pv := h.imp_right fun ⟨g, e, k⟩ => ⟨g, e, k.below hb k.lt⟩
theorem mnone (h : NoM w pv) : Calls Try.prog 31 #[.pointer pv] w fun e w' => e = .returned (.bool true) ∧ w' = w := by
  rcases h with rfl | ⟨g, rfl, h⟩
  · go_enter Try.func31, Try.ntmps31
    go_wp2
    go_ret
    exact ⟨rfl, rfl⟩
  · have c35 := h.cell (msU_35 _ _ _ _)
    have he := run_eql_map_nil (P := Try.prog) w 62 _ _ none Try.underlying62
    clear h
    go_enter Try.func31, Try.ntmps31
    go_wp2
    go_ret
    exact ⟨rfl, rfl⟩
set_option maxRecDepth 100000 in
theorem mof (h : NoM w pv) (n : Int) : Calls Try.prog 22 #[.pointer pv, .int .i64 n] w fun e w' => e = .returned (.slice none 0 0) ∧ w' = w := by
  have H := Lib.hid (mnone h)
  clear h
  go_enter Try.func22, Try.ntmps22
  go_wp2_with fail
  refine H.out.mono ?_; rintro e w ⟨rfl, rfl⟩
  go_wp2
  go_ret
  exact ⟨rfl, rfl⟩
set_option maxRecDepth 100000 in
theorem mvote (h : NoM w pv) (n : Int) (x : Mk) : Calls Try.prog 12 #[.pointer pv, .int .i64 n, .agg (mkC x).toArray] w fun e w' => e = .returned (.int .i64 1) ∧ Below w.heap.size w w' := by
  have hal : Below w.heap.size w (w.alloc (.cells (mkC x).toArray 28)) := (Below.refl _ _).alloc (Nat.le_refl _) _
  have H := Lib.hid (mnone (h.below hal))
  have HA := Lib.hid hal
  clear h hal
  generalize mkC x = C at *
  go_enter Try.func12, Try.ntmps12
  go_wp2_with fail
  refine H.out.mono ?_; rintro e w ⟨rfl, rfl⟩
  go_wp2
  go_ret
  exact ⟨rfl, HA.out⟩
set_option maxRecDepth 100000 in
theorem mraise (h : NoM w pv) (x : Mk) : Calls Try.prog 14 #[.pointer pv, .agg (mkC x).toArray] w fun e w' => e = .returned (.int .i64 1) ∧ Below w.heap.size w w' := by
  have hal : Below w.heap.size w (w.alloc (.cells (mkC x).toArray 28)) := (Below.refl _ _).alloc (Nat.le_refl _) _
  have H := Lib.hid (mnone (h.below hal))
  have HA := Lib.hid hal
  clear h hal
  generalize mkC x = C at *
  go_enter Try.func14, Try.ntmps14
  go_wp2_with fail
  refine H.out.mono ?_; rintro e w ⟨rfl, rfl⟩
  go_wp2
  go_ret
  exact ⟨rfl, HA.out⟩
set_option maxRecDepth 100000 in
set_option maxHeartbeats 1600000 in
theorem mlow (h : NoM w pv) : Calls Try.prog 23 #[.pointer pv] w fun e w' => e = .returned (.agg (mkC mk0).toArray) ∧ Below w.heap.size w w' := by
  have hal : Below w.heap.size w (w.alloc (.cells (mkC mk0).toArray 28)) := (Below.refl _ _).alloc (Nat.le_refl _) _
  have Hn := Lib.hid (mnone (h.below hal))
  obtain ⟨w2, hw2, ⟨hth, hi⟩, hb2, hbe, hs2⟩ := row_local w 28 (mkC mk0) (mkC mk0) (by rw [mkC_len]) (by rw [mkC_len]; exact mark_info1)
  have H := Lib.hid (And.intro hth (And.intro hi (And.intro (mkC_oneA mk0) (And.intro hw2 (And.intro hb2 hbe)))))
  have hb0 := Lib.hid built_mark0
  clear h hth hi hw2 hb2 hbe hs2 hal
  generalize hZ : mkC mk0 = Z at *
  go_enter Try.func23, Try.ntmps23
  subst hZ
  go_wp2_with (first
    | (go_at_call 31; refine Hn.out.mono ?_; rintro e w' ⟨rfl, rfl⟩)
    | (refine wpList_build_g (by rfl) 28 _ rfl (mkC mk0).toArray hb0.out ?_; simp only [Act.put])
    | (refine wpList_store_mid rfl 28 _ _ rfl w.heap.size 0 (mkC mk0).toArray rfl rfl H.out.1 H.out.2.1 H.out.2.2.1 ?_; simp only [Act.put]; refine cast (congrArg (fun z => wpList _ _ _ _ _ z) H.out.2.2.2.1.symm) ?_))
  refine bodyPost_ret (results_row rfl _ _ w.heap.size 28 (mkC mk0).toArray _ rfl H.out.2.2.2.2.1 Try.underlying28 rfl H.out.2.1) rfl ?_
  exact ⟨rfl, H.out.2.2.2.2.2⟩
set_option maxRecDepth 100000 in
set_option maxHeartbeats 1600000 in
theorem mgreat (h : NoM w pv) (fv : Value) : Calls Try.prog 42 #[.pointer pv, fv] w fun e w' => e = .returned (.tuple #[.agg (mkC mk0).toArray, .bool false]) ∧ Below w.heap.size w w' := by
  have hal : Below w.heap.size w (w.alloc (.cells (mkC mk0).toArray 28)) := (Below.refl _ _).alloc (Nat.le_refl _) _
  have Hn := Lib.hid (mnone (h.below hal))
  obtain ⟨w2, hw2, ⟨hth, hi⟩, hb2, hbe, hs2⟩ := row_local w 28 (mkC mk0) (mkC mk0) (by rw [mkC_len]) (by rw [mkC_len]; exact mark_info1)
  have H := Lib.hid (And.intro hth (And.intro hi (And.intro (mkC_oneA mk0) (And.intro hw2 (And.intro hb2 hbe)))))
  have hb0 := Lib.hid built_mark0
  clear h hth hi hw2 hb2 hbe hs2 hal
  generalize hZ : mkC mk0 = Z at *
  go_enter Try.func42, Try.ntmps42
  subst hZ
  go_wp2_with (first
    | (go_at_call 31; refine Hn.out.mono ?_; rintro e w' ⟨rfl, rfl⟩)
    | (refine wpList_build_g (by rfl) 28 _ rfl (mkC mk0).toArray hb0.out ?_; simp only [Act.put])
    | (refine wpList_store_mid rfl 28 _ _ rfl w.heap.size 0 (mkC mk0).toArray rfl rfl H.out.1 H.out.2.1 H.out.2.2.1 ?_; simp only [Act.put]; refine cast (congrArg (fun z => wpList _ _ _ _ _ z) H.out.2.2.2.1.symm) ?_))
  refine bodyPost_ret (results_row_tmp rfl _ _ w.heap.size 28 (mkC mk0).toArray (.bool false) _ rfl rfl H.out.2.2.2.2.1 Try.underlying28 rfl H.out.2.1) rfl ?_
  exact ⟨rfl, H.out.2.2.2.2.2⟩
set_option maxRecDepth 100000 in
set_option maxHeartbeats 1600000 in
theorem mstable (h : NoM w pv) : Calls Try.prog 20 #[.pointer pv] w fun e w' => e = .returned (.tuple #[.agg (mkC mk0).toArray, .bool false]) ∧ Below w.heap.size w w' := by
  have hal : Below w.heap.size w (w.alloc (.cells (mkC mk0).toArray 28)) := (Below.refl _ _).alloc (Nat.le_refl _) _
  have hG := Lib.hid (mgreat (h.below hal))
  have hst : ∀ w2, Below (w.alloc (.cells (mkC mk0).toArray 28)).heap.size (w.alloc (.cells (mkC mk0).toArray 28)) w2 → ∃ w3, w2.setCells w.heap.size 0 (mkC mk0) = w3 ∧ w2.there w.heap.size 0 (mkC mk0).toArray.size ∧ Blk w3 w.heap.size 28 (mkC mk0) ∧ Below w.heap.size w w3 := fun w2 hb => by
    have R1 : Blk (w.alloc (.cells (mkC mk0).toArray 28)) w.heap.size 28 (mkC mk0) := Blk.new rfl rfl
    have R2 := R1.below hb R1.lt
    exact ⟨_, rfl, R2.thereAt (by rw [List.size_toArray, mkC_len]; omega), R2.setAll (by rw [mkC_len]), Below.setCells (Nat.le_refl _) _ (hal.trans (hb.mono hal.size))⟩
  have HST := Lib.hid hst
  have HX := Lib.hid (And.intro (mark_infoA mk0) (mkC_oneA mk0))
  clear h hal hst
  generalize hC : mkC mk0 = C at *
  go_enter Try.func20, Try.ntmps20
  subst hC
  go_wp2_with (first
    | (go_at_call 42; refine (hG.out _).mono ?_; rintro e w2 ⟨rfl, hb⟩; obtain ⟨w3, f1, f2, f3, f4⟩ := HST.out w2 hb; replace f1 := Lib.hid (And.intro f1 (And.intro f2 (And.intro f3 f4))); clear hb f2 f3 f4)
    | (refine wpList_store_mid rfl 28 _ _ rfl w.heap.size 0 (mkC mk0).toArray rfl rfl f1.out.2.1 HX.out.1 HX.out.2 ?_; simp only [Act.put]; refine cast (congrArg (fun z => wpList _ _ _ _ _ z) f1.out.1.symm) ?_))
  refine bodyPost_ret (results_row_tmp rfl _ _ w.heap.size 28 (mkC mk0).toArray (.bool false) _ rfl rfl f1.out.2.2.1 Try.underlying28 rfl HX.out.1) rfl ?_
  exact ⟨rfl, f1.out.2.2.2⟩
set_option maxRecDepth 100000 in
set_option maxHeartbeats 1600000 in
theorem mknown (h : NoM w pv) : Calls Try.prog 21 #[.pointer pv] w fun e w' => e = .returned (.tuple #[.agg (mkC mk0).toArray, .bool false]) ∧ Below w.heap.size w w' := by
  have hal : Below w.heap.size w (w.alloc (.cells (mkC mk0).toArray 28)) := (Below.refl _ _).alloc (Nat.le_refl _) _
  have hG := Lib.hid (mgreat (h.below hal))
  have hst : ∀ w2, Below (w.alloc (.cells (mkC mk0).toArray 28)).heap.size (w.alloc (.cells (mkC mk0).toArray 28)) w2 → ∃ w3, w2.setCells w.heap.size 0 (mkC mk0) = w3 ∧ w2.there w.heap.size 0 (mkC mk0).toArray.size ∧ Blk w3 w.heap.size 28 (mkC mk0) ∧ Below w.heap.size w w3 := fun w2 hb => by
    have R1 : Blk (w.alloc (.cells (mkC mk0).toArray 28)) w.heap.size 28 (mkC mk0) := Blk.new rfl rfl
    have R2 := R1.below hb R1.lt
    exact ⟨_, rfl, R2.thereAt (by rw [List.size_toArray, mkC_len]; omega), R2.setAll (by rw [mkC_len]), Below.setCells (Nat.le_refl _) _ (hal.trans (hb.mono hal.size))⟩
  have HST := Lib.hid hst
  have HX := Lib.hid (And.intro (mark_infoA mk0) (mkC_oneA mk0))
  clear h hal hst
  generalize hC : mkC mk0 = C at *
  go_enter Try.func21, Try.ntmps21
  subst hC
  go_wp2_with (first
    | (go_at_call 42; refine (hG.out _).mono ?_; rintro e w2 ⟨rfl, hb⟩; obtain ⟨w3, f1, f2, f3, f4⟩ := HST.out w2 hb; replace f1 := Lib.hid (And.intro f1 (And.intro f2 (And.intro f3 f4))); clear hb f2 f3 f4)
    | (refine wpList_store_mid rfl 28 _ _ rfl w.heap.size 0 (mkC mk0).toArray rfl rfl f1.out.2.1 HX.out.1 HX.out.2 ?_; simp only [Act.put]; refine cast (congrArg (fun z => wpList _ _ _ _ _ z) f1.out.1.symm) ?_))
  refine bodyPost_ret (results_row_tmp rfl _ _ w.heap.size 28 (mkC mk0).toArray (.bool false) _ rfl rfl f1.out.2.2.1 Try.underlying28 rfl HX.out.1) rfl ?_
  exact ⟨rfl, f1.out.2.2.2⟩
end
end Go.Proofs.Ytenccpccpjjkmaa

namespace Go.Proofs.Ytenccpccpjjkmaa
open Go.RowKit Go.Shelf Go.Sort Go.Maps CrewP
set_option linter.unusedVariables false
set_option linter.unusedSimpArgs false

def doC (x : DoM) : List Value := .int .i64 x.kd :: .int .i64 x.nd :: mkC x.x
theorem doC_len (x : DoM) : (doC x).length = 35 := by simp [doC, mkC_len]
def nx0 : Mk := (mkOf 4 1 (by decide))
def nx1 : Mk := (mkOf 0 1 (by decide))
def nx2 : Mk := (mkOf (-1) 1 (by decide))
def nx3 : Mk := (mkOf 9007199254740991 1 (by decide))
def nx4 : Mk := (mkOf 9007199254740992 1 (by decide))
def nx5 : Mk := (mkOf 9007199254740991 2 (by decide))
def nx6 : Mk := (mkOf 5 1 (by decide))
def nx7 : Mk := (mkOf 3 1 (by decide))
def nx8 : Mk := (mkOf 1 1 (by decide))
def nx9 : Mk := (mkOf 2 1 (by decide))
def nx10 : Mk := (mkOf (-1) 0 (by decide))
def nx11 : Mk := (mkOf 3 4 (by decide))
def nx12 : Mk := (mkOf 2 4 (by decide))
def nx13 : Mk := (mkOf 3 5 (by decide))
def nx14 : Mk := (mkOf 9007199254740992 5 (by decide))
def nx15 : Mk := (mkOf 9007199254740991 5 (by decide))
def nx16 : Mk := (mkOf 0 5 (by decide))
def nx17 : Mk := (mkOf 9007199254740991 0 (by decide))
def nmL : List DoM := [⟨0, 9, nx0⟩, ⟨0, 0, nx0⟩, ⟨0, 1, nx1⟩, ⟨0, 1, nx2⟩, ⟨0, 1, nx3⟩, ⟨0, 1, nx4⟩, ⟨0, 2, nx3⟩, ⟨0, 3, nx5⟩, ⟨0, 4, nx5⟩, ⟨0, 1, nx6⟩, ⟨0, 1, nx7⟩, ⟨0, 1, nx0⟩, ⟨0, 1, nx8⟩, ⟨0, 1, nx9⟩, ⟨1, 0, nx10⟩, ⟨1, 0, nx11⟩, ⟨1, 0, nx12⟩, ⟨1, 0, nx13⟩, ⟨1, 0, nx14⟩, ⟨1, 0, nx15⟩, ⟨0, 1, nx15⟩]
theorem built_do (k n : Int) (x : Mk) : Try.prog.built 39 [(0, .int .i64 k), (1, .int .i64 n), (2, .agg (mkC x).toArray)] = some (doC ⟨k, n, x⟩).toArray := by
  obtain ⟨s, d, hs, h⟩ := x
  obtain ⟨a0, a1, a2, a3, a4, a5, a6, a7, a8, a9, a10, a11, a12, a13, a14, a15, a16, a17, a18, a19, a20, a21, a22, a23, a24, a25, a26, a27, a28, a29, a30, a31, rfl⟩ := thirty2 d h
  kernel_rfl
theorem do_info : (Try.prog.info? 39).map (fun i => (i.zero.isSome, i.size)) = some (true, 35) := by kernel_rfl
theorem do_run (l : List DoM) (n : Nat) (hl : l.length = n) (h0 : 0 < n) (hn : n ≤ 1000) (parts : Array (Nat × Value)) (hp : parts.toList = ((l.map fun x => Value.agg (doC x).toArray).zipIdx 0).map fun x => (x.2, x.1)) (w : World) :
    (Instr.buildSlice 29 n parts).run Try.prog w = .ok (.slice (some ⟨w.heap.size, 0, none⟩) n n) (w.alloc (.cells (l.flatMap doC).toArray 39)) := by
  obtain ⟨ie, hie, hz⟩ := Option.map_eq_some_iff.1 do_info
  simp only [Prod.mk.injEq] at hz
  obtain ⟨z, hzz⟩ := Option.isSome_iff_exists.1 hz.1
  refine run_buildSlice w 29 39 n parts _ ie z Try.underlying29 hie hzz (by rw [hz.2]; omega) (by rw [hz.2]; omega) ?_
  rw [hp, hz.2]
  have h := Great.fill_whole (s := 35) (by omega) (l.map fun x => Value.agg (doC x).toArray) ((Array.range (n * 35)).map (z.cells[· % z.cells.size]!)) (fun v hv => by
    obtain ⟨x, _, rfl⟩ := List.mem_map.1 hv
    show (doC x).toArray.size = 35
    rw [List.size_toArray, doC_len]) (by simp [hl])
  rw [h]
  have e : (l.map fun x => Value.agg (doC x).toArray).flatMap (fun v => v.cells.toList) = l.flatMap doC := by
    rw [List.flatMap_map]
    congr 1
  rw [e]
theorem row_nmL (w : World) : (Instr.buildSlice 29 21 #[(0, .agg (doC ⟨0, 9, nx0⟩).toArray), (1, .agg (doC ⟨0, 0, nx0⟩).toArray), (2, .agg (doC ⟨0, 1, nx1⟩).toArray), (3, .agg (doC ⟨0, 1, nx2⟩).toArray), (4, .agg (doC ⟨0, 1, nx3⟩).toArray), (5, .agg (doC ⟨0, 1, nx4⟩).toArray), (6, .agg (doC ⟨0, 2, nx3⟩).toArray), (7, .agg (doC ⟨0, 3, nx5⟩).toArray), (8, .agg (doC ⟨0, 4, nx5⟩).toArray), (9, .agg (doC ⟨0, 1, nx6⟩).toArray), (10, .agg (doC ⟨0, 1, nx7⟩).toArray), (11, .agg (doC ⟨0, 1, nx0⟩).toArray), (12, .agg (doC ⟨0, 1, nx8⟩).toArray), (13, .agg (doC ⟨0, 1, nx9⟩).toArray), (14, .agg (doC ⟨1, 0, nx10⟩).toArray), (15, .agg (doC ⟨1, 0, nx11⟩).toArray), (16, .agg (doC ⟨1, 0, nx12⟩).toArray), (17, .agg (doC ⟨1, 0, nx13⟩).toArray), (18, .agg (doC ⟨1, 0, nx14⟩).toArray), (19, .agg (doC ⟨1, 0, nx15⟩).toArray), (20, .agg (doC ⟨0, 1, nx15⟩).toArray)]).run Try.prog w = .ok (.slice (some ⟨w.heap.size, 0, none⟩) 21 21) (w.alloc (.cells (nmL.flatMap doC).toArray 39)) := do_run nmL 21 rfl (by omega) (by omega) _ rfl w
theorem arg_nmL (w : World) : ArgDm (w.alloc (.cells (nmL.flatMap doC).toArray 39)) (some ⟨w.heap.size, 0, none⟩) 21 21 nmL := by
  have hB : Blk (w.alloc (.cells (nmL.flatMap doC).toArray 39)) w.heap.size 39 (nmL.flatMap doC) := Blk.new rfl rfl
  refine ⟨rfl, Nat.le_refl _, by decide, fun _ => ⟨_, _, rfl, hB.lt, fun j hj => ?_⟩⟩
  have hw : Wf nmL[j].kd ∧ Wf nmL[j].nd := by
    have : ∀ x ∈ nmL, Wf x.kd ∧ Wf x.nd := by
      intro x hx
      have : nmL.all (fun x => decide (-100 ≤ x.kd ∧ x.kd ≤ 100 ∧ -100 ≤ x.nd ∧ x.nd ≤ 100)) = true := by decide +kernel
      have := List.all_eq_true.1 this x hx
      simp only [decide_eq_true_eq] at this
      exact ⟨wf_b (by omega) (by omega), wf_b (by omega) (by omega)⟩
    exact this _ (List.getElem_mem hj)
  have hg : ∀ r, r < 35 → (nmL.flatMap doC)[j * 35 + r]? = (doC nmL[j])[r]? := fun r hr => flatMap_at doC_len hj hr
  refine ⟨hw.1, hw.2, ?_, ?_, fun i u hu => ?_⟩
  · rw [Nat.zero_add]; have := hg 0 (by omega); exact hB.cell this
  · rw [Nat.zero_add]; have := hg 1 (by omega); exact hB.cell this
  · have hi : i < 33 := by
      rcases Nat.lt_or_ge i (mkC nmL[j].x).length with h | h
      · rw [mkC_len] at h; exact h
      · rw [List.getElem?_eq_none h] at hu; cases hu
    have := hg (2 + i) (by omega)
    rw [Nat.zero_add, show j * 35 + 2 + i = j * 35 + (2 + i) by omega]
    refine hB.cell (this.trans ?_)
    rw [← hu, Nat.add_comm]; rfl
theorem argI_none (w : World) : ArgI w none 0 0 [] := ⟨rfl, Nat.le_refl _, by simp [maxLen], ⟨by simp [cis], fun h => absurd h (by simp)⟩, fun x hx => by cases hx⟩
theorem argDm_none (w : World) : ArgDm w none 0 0 [] := ⟨rfl, Nat.le_refl _, by simp [maxLen], fun h => absurd rfl h⟩
theorem built_crew0 : Try.prog.built 24 [] = some #[.int .i64 0, .slice none 0 0] := by kernel_rfl
theorem built_marks0 : Try.prog.built 64 [] = some (msU 0 (.slice none 0 0) mk0 (.map none)).toArray := by kernel_rfl
/-- A crew, for MarksPlays. -/
theorem crew_arg (F : Nat) (hF : F ≤ 2) (w : World) : Calls Try.prog 26 #[.int .i64 (F : Int)] w fun e w' => ∃ A cap, e = .returned (.agg #[.int .i64 (F : Int), .slice A (3 * F + 1) cap]) ∧ ArgC w' (F : Int) A (3 * F + 1) cap (ndL (3 * F + 1)) ∧ Below w.heap.size w w' := by
  refine (crewOf_any F hF w).mono ?_
  rintro e w' ⟨A, cap, rfl, h1, h2⟩
  exact ⟨A, cap, rfl, ⟨wf_b (by omega) (by omega), row_arg h1 (ndL_len _) (ndL_wf _ (by omega)), by rw [ndL_len]; omega⟩, h2⟩
end Go.Proofs.Ytenccpccpjjkmaa
