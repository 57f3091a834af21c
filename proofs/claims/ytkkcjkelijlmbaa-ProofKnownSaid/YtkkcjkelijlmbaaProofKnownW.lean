/-
  Both ends, trees and books that are none; ProofKnown returns true (a closed statement).
-/
import Derived.Test.YtkkcjkelijlmbaaZ01
import Derived.Test.YtkkcjkelijlmbaaZ15
import Derived.Deep.RegionHeld3
import Derived.Deep.RegionWith
import Derived.Deep.DeepCutAuto
namespace Go.Proofs.Ytkkcjkelijlmbaa.proofKnown
open Go.ChangeShapes Go.WideShapes Go.ChangeAt Go.RowKit
set_option linter.unusedVariables false

open Go Go.RowKit
theorem make_g {P : Program} {ops : Array Oper} {rest : List Oper} {o : Oper} {a : Act} {w : World} {Q : Exit → Act → World → Prop} (hw : Region.wanted o (yielded ops a.tmps) = true) (ty : TypeId) (x y : Operand) (ho : o.op = .makeSlice ty x y)
    (X Y : Value) (hx : a.eval x = X) (hy : a.eval y = Y) (v : Value) (w' : World) (hr : (Instr.makeSlice ty X Y).run P w = .ok v w') (h : wpList P ops Q rest (a.put o.dst v) w') : wpList P ops Q (o :: rest) a w :=
  wpList_step fun K hK => by
    rw [if_pos hw]
    unfold Oper.wp execOp
    simp only [ho, hx, hy, Sem.run_bind, hr, Result.andThen_ok]
    exact hK _ _ h
theorem app_g {P : Program} {ops : Array Oper} {l m : List Oper} {a : Act} {w : World} {Q : Exit → Act → World → Prop} (r : List Oper) (hr : List.append l m = r) (h : wpList P ops Q r a w) : wpList P ops Q (List.append l m) a w := by
  subst hr
  exact h
theorem asg_g {P : Program} {ops : Array Oper} {rest : List Oper} {o : Oper} {a : Act} {w : World} {Q : Exit → Act → World → Prop} (hw : Region.wanted o (yielded ops a.tmps) = true) (x : Operand) (ho : o.op = .assign x)
    (v : Value) (hx : a.eval x = v) (h : wpList P ops Q rest (a.put o.dst v) w) : wpList P ops Q (o :: rest) a w :=
  wpList_step fun K hK => by
    rw [if_pos hw]
    subst hx
    unfold Oper.wp execOp
    rw [ho]
    exact hK _ _ h
theorem row8 (w : World) (x : Int) : (Instr.buildSlice 28 1 #[(0, Value.int .u8 x)]).run Try.prog w = .ok (.slice (some ⟨w.heap.size, 0, none⟩) 1 1) (w.alloc (.cells #[.int .u8 x] 5)) := by
  kernel_rfl
theorem row_g {P : Program} {ops : Array Oper} {rest : List Oper} {o : Oper} {a : Act} {w : World} {Q : Exit → Act → World → Prop} (hw : Region.wanted o (yielded ops a.tmps) = true) (t : TypeId) (n : Nat) (parts : Array (Nat × Operand)) (ho : o.op = .buildSlice t n parts)
    (v : Value) (w' : World) (hrun : (Instr.buildSlice t n (parts.map fun p => (p.1, a.eval p.2))).run P w = .ok v w') (h : wpList P ops Q rest (a.put o.dst v) w') : wpList P ops Q (o :: rest) a w :=
  wpList_step fun K hK => by
    rw [if_pos hw]
    have he' : (Instr.buildSlice t n (parts.map fun (i, x) => (i, a.eval x))).run P w = .ok v w' := hrun
    unfold Oper.wp execOp
    simp only [ho, Sem.run_bind, he', Result.andThen_ok]
    exact hK _ _ h

set_option maxRecDepth 100000 in
set_option maxHeartbeats 25600000 in
theorem walk  (w : World)  :
    Calls Try.prog 3 #[] w fun e w' => e = .returned (.bool true) ∧ Below w.heap.size w w' := by
  obtain ⟨xl, Zl, hll, hmkl', _⟩ := made_bytes 65536 (by decide)
  have hmkl : ∀ w : World, (Instr.makeSlice 28 (.int .i64 65536) (.int .i64 65536)).run Try.prog w = .ok (.slice (some ⟨w.heap.size, 0, none⟩) 65536 65536) (w.alloc (.cells Zl 5)) := hmkl'
  clear hmkl' hll
  go_enter Try.func3, Try.ntmps3
  go_wp2_with fail
  refine (bnew_any _).mono ?_
  rintro e w1 ⟨S, g, bm, rfl, hS, hb, hb1⟩
  have hk1 := kb_new hS hb
  have Hk1 := Lib.hid (And.intro hk1 hb1)
  clear hS hb hk1 hb1
  go_wp2_with fail
  refine (six_any _).mono ?_
  rintro e w2 ⟨b, rfl, hL, hb2⟩
  have hk2 : Kb w.heap.size w2 g bm ([], false, 0) (fun j => w1.heap.size ≤ j ∧ j < w2.heap.size) := Hk1.out.1.belowN hb2 fun i hi => .inr hi
  have hmd := made_any w.heap.size g bm ([], false, 0) _ 0 w2 hk2 (Nat.le_trans Hk1.out.2.size hb2.size) (by decide) (Nat.zero_le _) (Nat.zero_le _) _ (some ⟨b, 0, none⟩) 6 6 sixL hL rfl (by decide) (by decide) (fun j hj => ⟨hj.2, .inr hj⟩)
  rw [six_cut] at hmd
  have Hmd := Lib.hid hmd
  have H2 := Lib.hid (Hk1.out.2.trans (hb2.mono Hk1.out.2.size))
  clear hL hk2 hmd hb2
  go_wp2_with fail
  refine Hmd.out.mono ?_
  rintro e w3 ⟨t, M, s3, rfl, hT3⟩
  obtain ⟨wA, hwA⟩ : ∃ wA, (w3.alloc (.cells #[.int .u8 9] 5)).alloc (.cells #[.slice (some ⟨w3.heap.size, 0, none⟩) 1 1] 28) = wA := ⟨_, rfl⟩
  have hL1 := one_lvs w3
  have hbA : Below w3.heap.size w3 wA := by rw [← hwA]; exact ((Below.refl _ _).alloc (Nat.le_refl _) _).alloc (by simp) _
  rw [hwA] at hL1
  obtain ⟨N1, hN1⟩ : ∃ N : Nat → Prop, (fun j => ((w1.heap.size ≤ j ∧ j < w2.heap.size) ∨ M j) ∨ (w3.heap.size ≤ j ∧ j < wA.heap.size)) = N := ⟨_, rfl⟩
  have hkA : Kb w.heap.size wA g bm s3 N1 := by rw [← hN1]; exact hT3.kb.belowN hbA fun i hi => hi
  have hz2 := H2.out.size
  have hz23 := hT3.out.size
  have hmd1 := made_any w.heap.size g bm s3 N1 6500 wA hkA (by have := hbA.size; omega) (by decide) hT3.b1 hT3.b2 _ (some ⟨w3.heap.size + 1, 0, none⟩) 1 1 oneL hL1 rfl (by decide) (by decide) (fun j hj => ⟨hj.2, .inr (by rw [← hN1]; exact .inr hj)⟩)
  rw [one_cut, ← hwA] at hmd1
  have Hmd1 := Lib.hid hmd1
  have H3 := Lib.hid (And.intro hT3 (And.intro hwA (And.intro hbA hN1)))
  clear hT3 hwA hL1 hbA hkA hz2 hz23 hmd1 hN1 Hmd
  go_wp2_with fail
  refine Hmd1.out.mono ?_
  rintro e w4 ⟨t1, M1, s4, rfl, hT4⟩
  rw [H3.out.2.1] at hT4
  have hTs : TreeAt w4 M t g (lows sixL) := (H3.out.1.tree.below H3.out.2.2.1).out hT4.out (fun i hi => Tn.keep (by rw [← H3.out.2.2.2]; exact .inl (.inr hi)))
  have Hb4 := Lib.hid (show Below w.heap.size w w4 from hT4.bel ((H3.out.1.bel H2.out).trans (H3.out.2.2.1.mono (H3.out.1.bel H2.out).size)))
  have Hk4 := Lib.hid (And.intro hT4.kb (And.intro hT4.b1 hT4.b2))
  obtain ⟨D6, hD6⟩ : ∃ D, cbs (rootD (lows sixL)) = D := ⟨_, rfl⟩
  obtain ⟨D1, hD1⟩ : ∃ D, cbs (rootD (lows oneL)) = D := ⟨_, rfl⟩
  have hl6 : (rootD (lows sixL)).length = 32 := root_len hTs.l1 hTs.all
  have hl1 : (rootD (lows oneL)).length = 32 := root_len hT4.tree.l1 hT4.tree.all
  have h632 : D6.length = 32 := by rw [← hD6, cbs_length, hl6]
  have h132 : D1.length = 32 := by rw [← hD1, cbs_length, hl1]
  have HD6 := Lib.hid (And.intro h632 (And.intro (show D6.toArray.all (·.oneCell') = true from by rw [← hD6]; exact cbs_one' _) (And.intro hD6 (And.intro hl6 (show (Try.prog.info? 30).map (·.size) = some D6.length from by rw [h632]; exact info32b)))))
  have HD1 := Lib.hid (And.intro h132 (And.intro (show D1.toArray.all (·.oneCell') = true from by rw [← hD1]; exact cbs_one' _) (And.intro hD1 (And.intro hl1 (show (Try.prog.info? 30).map (·.size) = some D1.length from by rw [h132]; exact info32b)))))
  have hr := troot_at hTs
  rw [hD6] at hr
  have Hr := Lib.hid hr
  have HT := Lib.hid (And.intro hTs hT4.tree)
  clear hD6 hD1 hl6 hl1 h632 h132 hr hTs hT4 H3 Hmd1
  go_wp2_with fail
  refine Hr.out.mono ?_
  rintro e w5 ⟨rfl, hb5⟩
  obtain ⟨w6, hw6, ⟨hth6, hi6⟩, hbS6, hbel6, hsz6⟩ := dig_local w5 D6 HD6.out.1
  have hb46 : Below w4.heap.size w4 w6 := hb5.trans (hbel6.mono hb5.size)
  have hr2 := troot_at (HT.out.2.below hb46)
  rw [HD1.out.2.2.1] at hr2
  have Hr2 := Lib.hid hr2
  have Hw6 := Lib.hid hw6
  have Hs6 := Lib.hid (And.intro hth6 (And.intro hi6 HD6.out.2.1))
  have H6 := Lib.hid (And.intro hb46 (And.intro hbS6 (And.intro hb5.size hsz6)))
  clear hb5 hw6 hth6 hi6 hbS6 hbel6 hsz6 hb46 hr2 Hr
  go_wp2_with (refine wpList_store_mid rfl 30 _ _ rfl w5.heap.size 0 D6.toArray rfl rfl Hs6.out.1 Hs6.out.2.1 Hs6.out.2.2 ?_; simp only [Act.put]; refine cast (congrArg (fun z => wpList _ _ _ _ _ z) Hw6.out.symm) ?_)
  refine Hr2.out.mono ?_
  rintro e w7 ⟨rfl, hb7⟩
  obtain ⟨w8, hw8, ⟨hth8, hi8⟩, hbS8, hbel8, hsz8⟩ := dig_local w7 D1 HD1.out.1
  have hb68 : Below w6.heap.size w6 w8 := hb7.trans (hbel8.mono hb7.size)
  have hb48 : Below w4.heap.size w4 w8 := H6.out.1.trans (hb68.mono H6.out.1.size)
  have hbd := build_in (HT.out.1.below hb48) 0 (by rw [lows_len]; decide)
  have Hbd := Lib.hid hbd
  have Hw8 := Lib.hid hw8
  have Hs8 := Lib.hid (And.intro hth8 (And.intro hi8 HD1.out.2.1))
  have H8 := Lib.hid (And.intro hb48 (And.intro (H6.out.2.1.below hb68 H6.out.2.1.lt) (And.intro hbS8 (And.intro hb7.size (And.intro hsz8 hb68.size)))))
  clear hb7 hw8 hth8 hi8 hbS8 hbel8 hsz8 hb68 hb48 hbd Hr2
  go_wp2_with (refine wpList_store_mid rfl 30 _ _ rfl w7.heap.size 0 D1.toArray rfl rfl Hs8.out.1 Hs8.out.2.1 Hs8.out.2.2 ?_; simp only [Act.put]; refine cast (congrArg (fun z => wpList _ _ _ _ _ z) Hw8.out.symm) ?_)
  refine Hbd.out.mono ?_
  rintro e w9 ⟨v, rfl, hP9, hb9⟩
  obtain ⟨pb, pc, rfl, hpc1, hpc2, hpb1, hpb2, hcell, hPf⟩ := hP9.cells (pf_all (all32_lows _) 0) (pf_four _ 0) (by rw [pf_six0]; simp)
  have hpl : (pf (lows sixL) 0).length = 2 := by rw [pf_six0]; rfl
  have c0 : ∃ A0, w9.cell? ⟨pb, 0, none⟩ = some (.slice A0 4 4) := by
    obtain ⟨A0, h⟩ := hcell 0 (by omega)
    have e : ((pf (lows sixL) 0)[0]'(by omega)).length = 4 := by simp only [pf_six0]; exact pf_six0_len.1
    rw [e] at h
    exact ⟨A0, h⟩
  obtain ⟨A0, c0⟩ := c0
  have hb49 : Below w4.heap.size w4 w9 := H8.out.1.trans (hb9.mono H8.out.1.size)
  have hbd2 := build_in (HT.out.2.below hb49) 0 (by rw [lows_len]; decide)
  rw [pf_one] at hbd2
  have Hbd2 := Lib.hid hbd2
  have H9 := Lib.hid (And.intro hb49 (And.intro (H8.out.2.1.below hb9 H8.out.2.1.lt) (And.intro (H8.out.2.2.1.below hb9 H8.out.2.2.1.lt) (And.intro hPf (And.intro c0 (And.intro hpb1 (And.intro hpl hb9.size)))))))
  rw [hpl]
  clear hP9 hb9 hpc1 hpc2 hpb1 hpb2 hcell hPf hpl c0 hb49 hbd2 Hbd
  go_wp2_with fail
  refine Hbd2.out.mono ?_
  rintro e w10 ⟨v, rfl, ⟨vs, hrow, _⟩, hb10⟩
  obtain ⟨Av, cv, rfl⟩ := own_form hrow
  have hb410 : Below w4.heap.size w4 w10 := H9.out.1.trans (hb10.mono H9.out.1.size)
  have hT10 := HT.out.1.below hb410
  have e6 : (lows sixL).length = 6 := six_lows
  have Hrg6 := Lib.hid (build_range hT10 6 (by rw [e6]; exact .inr (by decide)))
  have Hrgm := Lib.hid (build_range hT10 (-1) (.inl (by decide)))
  have Hpl0 := Lib.hid (parts_level hT10 0 (.int .i64 0) (.inl (by decide)))
  have Hpl3 := Lib.hid (parts_level hT10 3 (.int .i64 0) (by rw [e6, dep_six]; exact .inr (by decide)))
  have Hpp := Lib.hid (parts_place hT10 1 (by rw [e6, dep_six]; decide) 1 (by rw [e6]; exact .inr (by decide)))
  have H10 := Lib.hid (And.intro hb410 hb10)
  clear hrow hb410 hT10 e6 hb10 Hbd2
  go_wp2_with fail
  refine Hrg6.out.mono ?_
  rintro e w10 ⟨rfl, rfl⟩
  go_wp2_with fail
  refine Hrgm.out.mono ?_
  rintro e w10 ⟨rfl, rfl⟩
  go_wp2_with fail
  refine Hpl0.out.mono ?_
  rintro e w10 ⟨rfl, rfl⟩
  go_wp2_with fail
  refine Hpl3.out.mono ?_
  rintro e w10 ⟨rfl, rfl⟩
  go_wp2_with fail
  refine Hpp.out.mono ?_
  rintro e w11 ⟨rfl, hb11⟩
  have hb411 : Below w4.heap.size w4 w11 := H10.out.1.trans (hb11.mono H10.out.1.size)
  have Hpp2 := Lib.hid (parts_place (HT.out.1.below hb411) 0 (by rw [six_lows, dep_six]; decide) (-1) (.inl (by decide)))
  have H11 := Lib.hid (And.intro hb411 hb11)
  clear hb411 hb11 Hpp Hrg6 Hrgm Hpl0 Hpl3
  go_wp2_with fail
  refine Hpp2.out.mono ?_
  rintro e w12 ⟨rfl, hb12⟩
  have hb412 : Below w4.heap.size w4 w12 := H11.out.1.trans (hb12.mono H11.out.1.size)
  have Hpt := Lib.hid (parts_in (HT.out.1.below hb412) 1 (by rw [six_lows, dep_six]; decide) 0 (by rw [six_lows]; decide))
  have H12 := Lib.hid (And.intro hb412 hb12)
  clear hb412 hb12 Hpp2
  go_wp2_with fail
  refine Hpt.out.mono ?_
  rintro e w13 ⟨tr, to_, rfl, htr1, htr2, hDt, _, _, hb13⟩
  have htl : (four (lvl (lows sixL) 1) 0).length = 2 := pf_six0_len.2
  have hb913 : Below w9.heap.size w9 w13 := ((H10.out.2.trans (H11.out.2.mono H10.out.2.size)).trans (H12.out.2.mono (by have := H10.out.2.size; have := H11.out.2.size; omega))).trans (hb13.mono (by have := H10.out.2.size; have := H11.out.2.size; have := H12.out.2.size; omega))
  have hb413 : Below w4.heap.size w4 w13 := H9.out.1.trans (hb913.mono H9.out.1.size)
  have c0' : w13.cell? ⟨pb, 0, none⟩ = some (.slice A0 4 4) := (hb913.cell H9.out.2.2.2.2.2.1).trans H9.out.2.2.2.2.1
  obtain ⟨w14, hw14⟩ : ∃ w', w13.alloc (.cells Zl 5) = w' := ⟨_, rfl⟩
  have hb14 : Below w13.heap.size w13 w14 := by rw [← hw14]; exact (Below.refl _ _).alloc (Nat.le_refl _) _
  have hmk14 := hmkl w13
  rw [hw14] at hmk14
  have Hmk := Lib.hid hmk14
  have hz9 := hb913.size
  have hPK : PK w g bm (fun j => ((N1 j ∨ M1 j) ∨ (w4.heap.size ≤ j ∧ j < w13.heap.size))) 13000 w5.heap.size w7.heap.size pb (pf (lows sixL) 0) tr to_ (four (lvl (lows sixL) 1) 0) D6 D1 w13 := by
    refine ⟨⟨s4, Hk4.out.1.belowN hb413 fun i hi => hi, Hk4.out.2.1, Hk4.out.2.2⟩, Hb4.out.trans (hb413.mono Hb4.out.size), H9.out.2.1.below hb913 H9.out.2.1.lt, H9.out.2.2.1.below hb913 H9.out.2.2.1.lt, ?_, hDt, ?_, ?_, ?_⟩
    · exact (H9.out.2.2.2.1.stays ⟨hb913.size, fun j hj => hb913.block j hj.2⟩).more fun j hj => .inr ⟨by have := hj.1; have := H8.out.1.size; omega, by have := hj.2; have := hb913.size; omega⟩
    · exact .inr ⟨H6.out.2.2.1, by have := H6.out.2.2.2; have := H8.out.2.2.2.2.2; have := H9.out.2.2.2.2.2.2.2; omega⟩
    · exact .inr ⟨by have := H6.out.1.size; have := H8.out.2.2.2.1; omega, by have := H8.out.2.2.2.2.1; have := H9.out.2.2.2.2.2.2.2; omega⟩
    · exact .inr ⟨by have := H12.out.1.size; omega, by omega⟩
  have HP0 := Lib.hid (hPK.below hb14)
  have Hw14 := Lib.hid (And.intro trivial (And.intro H9.out.2.2.2.2.2.2.1 htl))
  have Hc0 := Lib.hid c0'
  rw [htl]
  clear htr1 htr2 hDt hb913 hb413 hb14 hz9 hPK htl hb13 H12 H11 H10 H9 Hpt hw14 hmk14 hmkl
  have hW := HP0.out
  have hA : Below w14.heap.size w14 (w14.alloc (.cells #[.int .u8 9] 5)) := (Below.refl _ _).alloc (Nat.le_refl _) _
  have hc := hW.check (by decide) hA (rootD (lows oneL)) HD1.out.2.2.2.1 1 0 (by decide) (by decide) (by decide) (some ⟨w14.heap.size, 0, none⟩) 1 1 [9] (bs_at w14 _ _ (by first | rfl | simp) 9 _ rfl 5 (Below.refl _ _)) rfl (Nat.le_refl _) (by decide) (by decide) none 0 0 [] (fun hne => absurd rfl hne) rfl (by decide)
  clear hA
  rw [show fits (rootD (lows oneL)) 1 0 [9] [] = true from one_fits9, HD1.out.2.2.1] at hc
  have Hc := Lib.hid hc
  have Hg := Lib.hid (And.intro hW.r.range hW.s.range)
  clear hc hW
  go_wp2_with (refine make_g (by rfl) 28 _ _ (by rfl) (.int .i64 65536) (.int .i64 65536) (by rfl) (by rfl) (.slice (some ⟨w13.heap.size, 0, none⟩) 65536 65536) w14 Hmk.out ?_; simp only [Act.put, List.setIfInBounds_toArray, List.set_cons_zero, List.set_cons_succ]; generalize hG : wpList _ _ _ _ _ _ = G)
  subst hG
  refine asg_g (by rfl) (.tmp 161) (by rfl) (.slice (some ⟨w13.heap.size, 0, none⟩) 65536 65536) (by rfl) ?_
  simp only [Act.put, List.setIfInBounds_toArray, List.set_cons_zero, List.set_cons_succ]
  go_step
  go_step
  go_step
  go_step
  go_step
  refine app_g _ (by simp only [List.append_eq, List.cons_append, List.nil_append] <;> rfl) ?_
  go_wp2_with (first | (refine load_mid_g (by rfl) 30 _ (by rfl) w7.heap.size 0 (by rfl) D1 _ Hg.out.2 Try.underlying30 (by rfl) HD1.out.2.2.2.2 ?_; simp only [Act.put, List.setIfInBounds_toArray, List.set_cons_zero, List.set_cons_succ]))
  refine Hc.out.mono ?_
  rintro e x1 ⟨rfl, hN⟩
  have HP1 := Lib.hid (hN.more (b' := 13006) (by decide))
  clear hN Hc Hg HP0
  have hW := HP1.out
  have hA : Below x1.heap.size x1 (x1.alloc (.cells #[.int .u8 8] 5)) := (Below.refl _ _).alloc (Nat.le_refl _) _
  have hc := hW.check (by decide) hA (rootD (lows oneL)) HD1.out.2.2.2.1 1 0 (by decide) (by decide) (by decide) (some ⟨x1.heap.size, 0, none⟩) 1 1 [8] (bs_at x1 _ _ (by first | rfl | simp) 8 _ rfl 5 (Below.refl _ _)) rfl (Nat.le_refl _) (by decide) (by decide) none 0 0 [] (fun hne => absurd rfl hne) rfl (by decide)
  clear hA
  rw [show fits (rootD (lows oneL)) 1 0 [8] [] = false from one_fits8, HD1.out.2.2.1] at hc
  have Hc := Lib.hid hc
  have Hg := Lib.hid (And.intro hW.r.range hW.s.range)
  clear hc hW
  go_wp2_with (first | (refine load_mid_g (by rfl) 30 _ (by rfl) w7.heap.size 0 (by rfl) D1 _ Hg.out.2 Try.underlying30 (by rfl) HD1.out.2.2.2.2 ?_; simp only [Act.put, List.setIfInBounds_toArray, List.set_cons_zero, List.set_cons_succ]))
  refine Hc.out.mono ?_
  rintro e x2 ⟨rfl, hN⟩
  have HP2 := Lib.hid (hN.more (b' := 13012) (by decide))
  clear hN Hc Hg HP1
  have hW := HP2.out
  obtain ⟨wa, hwa⟩ : ∃ wa, (x2.alloc (.cells #[.int .u8 9] 5)) = wa := ⟨_, rfl⟩
  obtain ⟨wb, hwb⟩ : ∃ wb, wa.alloc (.cells D1.toArray 30) = wb := ⟨_, rfl⟩
  have hsa : wa.heap.size = x2.heap.size + 1 := by rw [← hwa]; simp
  have hsb : wb.heap.size = x2.heap.size + 1 + 1 := by rw [← hwb]; simp [hsa]
  have hAa : Below x2.heap.size x2 wa := by rw [← hwa]; exact (Below.refl _ _).alloc (Nat.le_refl _) _
  have hAb : Below wa.heap.size wa wb := by rw [← hwb]; exact (Below.refl _ _).alloc (Nat.le_refl _) _
  have hAc : Below wb.heap.size wb (wb.alloc (.cells #[.slice (some ⟨wa.heap.size, 0, none⟩) 1 1] 37)) := (Below.refl _ _).alloc (Nat.le_refl _) _
  have hA := (hAa.trans (hAb.mono (by omega))).trans (hAc.mono (by omega))
  have hBx : Bs wa (some ⟨x2.heap.size, 0, none⟩) [9] := by rw [← hwa]; exact Bs.made x2 5 _ (0, 0) [9] rfl
  have hrb := row_ds wa D1 (rootD (lows oneL)) HD1.out.2.2.2.1 HD1.out.2.2.1
  rw [hwb] at hrb
  have hgc : Blk (wb.alloc (.cells #[.slice (some ⟨wa.heap.size, 0, none⟩) 1 1] 37)) wb.heap.size 37 [.slice (some ⟨wa.heap.size, 0, none⟩) 1 1] := Blk.new rfl rfl
  have hPn : PfAt (wb.alloc (.cells #[.slice (some ⟨wa.heap.size, 0, none⟩) 1 1] 37)) (fun j => (fun j => ((N1 j ∨ M1 j) ∨ (w4.heap.size ≤ j ∧ j < w13.heap.size))) j ∨ (x2.heap.size ≤ j ∧ j < (wb.alloc (.cells #[.slice (some ⟨wa.heap.size, 0, none⟩) 1 1] 37)).heap.size)) (some ⟨wb.heap.size, 0, none⟩) [[(rootD (lows oneL))]] := fun _ => ⟨wb.heap.size, 0, rfl, .inr ⟨by omega, by simp⟩, fun j hj => by
    obtain rfl : j = 0 := by simpa using hj
    exact ⟨some ⟨wa.heap.size, 0, none⟩, 1, by rw [Nat.zero_add]; exact hgc.cell rfl, Nat.le_refl _, by decide, fun d hd => by rw [List.mem_singleton.1 hd]; exact HD1.out.2.2.2.1, hrb.after hAc, fun a e _ => by injection e with e; subst e; exact .inr ⟨by simp only; omega, by simp only [World.size_alloc]; omega⟩⟩⟩
  have hc := hW.check (by decide) hA (rootD (lows oneL)) HD1.out.2.2.2.1 1 0 (by decide) (by decide) (by decide) (some ⟨x2.heap.size, 0, none⟩) 1 1 [9] (hBx.after (hAb.trans (hAc.mono (by omega)))) rfl (Nat.le_refl _) (by decide) (by decide) (some ⟨wb.heap.size, 0, none⟩) 1 1 [[(rootD (lows oneL))]] hPn rfl (by decide)
  have Hga := Lib.hid (And.intro ((hW.below hAa).r.range) ((hW.below hAa).s.range))
  have Hwa := Lib.hid (And.intro hwa hwb)
  have Hbu := Lib.hid (run_buildDg D1 HD1.out.1 wa)
  clear hsa hsb hAa hAb hAc hA hBx hrb hgc hPn hwa hwb
  rw [show fits (rootD (lows oneL)) 1 0 [9] [[(rootD (lows oneL))]] = false from one_fitsr _, HD1.out.2.2.1] at hc
  have Hc := Lib.hid hc
  have Hg := Lib.hid (And.intro hW.r.range hW.s.range)
  clear hc hW
  go_wp2_with (first | (refine load_mid_g (by rfl) 30 _ (by rfl) w7.heap.size 0 (by rfl) D1 _ Hga.out.2 Try.underlying30 (by rfl) HD1.out.2.2.2.2 ?_; simp only [Act.put, List.setIfInBounds_toArray, List.set_cons_zero, List.set_cons_succ]) | (refine load_mid_g (by rfl) 30 _ (by rfl) w7.heap.size 0 (by rfl) D1 _ Hg.out.2 Try.underlying30 (by rfl) HD1.out.2.2.2.2 ?_; simp only [Act.put, List.setIfInBounds_toArray, List.set_cons_zero, List.set_cons_succ]) | (refine row_g (by rfl) 37 1 _ (by rfl) (.slice (some ⟨wa.heap.size, 0, none⟩) 1 1) (wa.alloc (.cells D1.toArray 30)) (by simp only [List.map_toArray, List.map_cons, List.map_nil]; exact Hbu.out) ?_; simp only [Act.put, List.setIfInBounds_toArray, List.set_cons_zero, List.set_cons_succ]; refine cast (congrArg (fun z => wpList _ _ _ _ _ z) Hwa.out.2.symm) ?_) | (refine row_g (by rfl) 28 1 _ (by rfl) (.slice (some ⟨x2.heap.size, 0, none⟩) 1 1) (x2.alloc (.cells #[.int .u8 9] 5)) (by simp only [List.map_toArray, List.map_cons, List.map_nil]; exact row8 _ 9) ?_; simp only [Act.put, List.setIfInBounds_toArray, List.set_cons_zero, List.set_cons_succ]; refine cast (congrArg (fun z => wpList _ _ _ _ _ z) Hwa.out.1.symm) ?_))
  refine Hc.out.mono ?_
  rintro e x3 ⟨rfl, hN⟩
  have HP3 := Lib.hid (hN.more (b' := 13018) (by decide))
  clear hN Hc Hg HP2
  have hW := HP3.out
  have hc := check_range (.pointer (some ⟨g, 0, none⟩)) (.slice none 0 0) (.slice none 0 0) (rootD (lows sixL)) 6 6 x3 (by decide) (by decide) (by decide)
  rw [HD6.out.2.2.1] at hc
  have Hc := Lib.hid hc
  have Hg := Lib.hid (And.intro hW.r.range hW.s.range)
  clear hc hW
  go_wp2_with (first | (refine load_mid_g (by rfl) 30 _ (by rfl) w5.heap.size 0 (by rfl) D6 _ Hg.out.1 Try.underlying30 (by rfl) HD6.out.2.2.2.2 ?_; simp only [Act.put, List.setIfInBounds_toArray, List.set_cons_zero, List.set_cons_succ]))
  refine Hc.out.mono ?_
  rintro e x4 ⟨rfl, hb⟩
  have HP4 := Lib.hid ((HP3.out.below (hb)).more (b' := 13024) (by decide))
  clear hb Hc Hg HP3
  have hW := HP4.out
  have hc := check_range (.pointer (some ⟨g, 0, none⟩)) (.slice none 0 0) (.slice none 0 0) (rootD (lows sixL)) 6 (-1) x4 (by decide) (by decide) (by decide)
  rw [HD6.out.2.2.1] at hc
  have Hc := Lib.hid hc
  have Hg := Lib.hid (And.intro hW.r.range hW.s.range)
  clear hc hW
  go_wp2_with (first | (refine load_mid_g (by rfl) 30 _ (by rfl) w5.heap.size 0 (by rfl) D6 _ Hg.out.1 Try.underlying30 (by rfl) HD6.out.2.2.2.2 ?_; simp only [Act.put, List.setIfInBounds_toArray, List.set_cons_zero, List.set_cons_succ]))
  refine Hc.out.mono ?_
  rintro e x5 ⟨rfl, hb⟩
  have HP5 := Lib.hid ((HP4.out.below (hb)).more (b' := 13030) (by decide))
  clear hb Hc Hg HP4
  have hW := HP5.out
  have hc := check_args (.pointer (some ⟨g, 0, none⟩)) (.slice none 0 0) (.slice none 0 0) (rootD (lows sixL)) 0 0 x5 (by decide)
  rw [HD6.out.2.2.1] at hc
  have Hc := Lib.hid hc
  have Hg := Lib.hid (And.intro hW.r.range hW.s.range)
  clear hc hW
  go_wp2_with (first | (refine load_mid_g (by rfl) 30 _ (by rfl) w5.heap.size 0 (by rfl) D6 _ Hg.out.1 Try.underlying30 (by rfl) HD6.out.2.2.2.2 ?_; simp only [Act.put, List.setIfInBounds_toArray, List.set_cons_zero, List.set_cons_succ]))
  refine Hc.out.mono ?_
  rintro e x6 ⟨rfl, hb⟩
  have HP6 := Lib.hid ((HP5.out.below (hb)).more (b' := 13036) (by decide))
  clear hb Hc Hg HP5
  have hW := HP6.out
  have hc := check_args (.pointer (some ⟨g, 0, none⟩)) (.slice none 0 0) (.slice none 0 0) (rootD (lows sixL)) 1025 0 x6 (by decide)
  rw [HD6.out.2.2.1] at hc
  have Hc := Lib.hid hc
  have Hg := Lib.hid (And.intro hW.r.range hW.s.range)
  clear hc hW
  go_wp2_with (first | (refine load_mid_g (by rfl) 30 _ (by rfl) w5.heap.size 0 (by rfl) D6 _ Hg.out.1 Try.underlying30 (by rfl) HD6.out.2.2.2.2 ?_; simp only [Act.put, List.setIfInBounds_toArray, List.set_cons_zero, List.set_cons_succ]))
  refine Hc.out.mono ?_
  rintro e x7 ⟨rfl, hb⟩
  have HP7 := Lib.hid ((HP6.out.below (hb)).more (b' := 13042) (by decide))
  clear hb Hc Hg HP6
  have hW := HP7.out
  have hc := check_long (.pointer (some ⟨g, 0, none⟩)) (.slice (some ⟨pb, 0, none⟩) 2 pc) (rootD (lows sixL)) 6 0 x7 (some ⟨w13.heap.size, 0, none⟩) 65536 65536 (by decide) (by decide) (by decide) (by decide) (by decide)
  rw [HD6.out.2.2.1] at hc
  have Hc := Lib.hid hc
  have Hg := Lib.hid (And.intro hW.r.range hW.s.range)
  clear hc hW
  go_wp2_with (first | (refine load_mid_g (by rfl) 30 _ (by rfl) w5.heap.size 0 (by rfl) D6 _ Hg.out.1 Try.underlying30 (by rfl) HD6.out.2.2.2.2 ?_; simp only [Act.put, List.setIfInBounds_toArray, List.set_cons_zero, List.set_cons_succ]))
  refine Hc.out.mono ?_
  rintro e x8 ⟨rfl, hb⟩
  have HP8 := Lib.hid ((HP7.out.below (hb)).more (b' := 13048) (by decide))
  clear hb Hc Hg HP7
  have hW := HP8.out
  have hc := check_none (.pointer none) (.slice (some ⟨pb, 0, none⟩) 2 pc) (rootD (lows sixL)) 6 0 (x8.alloc (.cells #[.int .u8 1] 5)) (some ⟨x8.heap.size, 0, none⟩) 1 1 [1] (.inl rfl) (Bs.made x8 5 _ (0, 0) [1] rfl) rfl (Nat.le_refl _) (by decide) (by decide) (by decide) (by decide) (by decide) (by decide)
  rw [HD6.out.2.2.1] at hc
  have Hc := Lib.hid hc
  have Hg := Lib.hid (And.intro hW.r.range hW.s.range)
  clear hc hW
  go_wp2_with (first | (refine load_mid_g (by rfl) 30 _ (by rfl) w5.heap.size 0 (by rfl) D6 _ Hg.out.1 Try.underlying30 (by rfl) HD6.out.2.2.2.2 ?_; simp only [Act.put, List.setIfInBounds_toArray, List.set_cons_zero, List.set_cons_succ]))
  refine Hc.out.mono ?_
  rintro e x9 ⟨rfl, hb⟩
  have HP9 := Lib.hid ((HP8.out.below (((show Below x8.heap.size x8 (x8.alloc (.cells #[.int .u8 1] 5)) from (Below.refl _ _).alloc (Nat.le_refl _) _)).trans (hb.mono (by simp only [World.size_alloc]; omega)))).more (b' := 13054) (by decide))
  clear hb Hc Hg HP8
  have hW := HP9.out
  have hc := check_range (.pointer none) (.slice none 0 0) (.slice (some ⟨pb, 0, none⟩) 2 pc) (rootD (lows sixL)) 6 9 x9 (by decide) (by decide) (by decide)
  rw [HD6.out.2.2.1] at hc
  have Hc := Lib.hid hc
  have Hg := Lib.hid (And.intro hW.r.range hW.s.range)
  clear hc hW
  go_wp2_with (first | (refine load_mid_g (by rfl) 30 _ (by rfl) w5.heap.size 0 (by rfl) D6 _ Hg.out.1 Try.underlying30 (by rfl) HD6.out.2.2.2.2 ?_; simp only [Act.put, List.setIfInBounds_toArray, List.set_cons_zero, List.set_cons_succ]))
  refine Hc.out.mono ?_
  rintro e x10 ⟨rfl, hb⟩
  have HP10 := Lib.hid ((HP9.out.below (hb)).more (b' := 13060) (by decide))
  clear hb Hc Hg HP9
  have hW := HP10.out
  have hA : Below x10.heap.size x10 (x10.alloc (.cells #[.int .u8 1] 5)) := (Below.refl _ _).alloc (Nat.le_refl _) _
  have hc := hW.check (by decide) hA (rootD (lows sixL)) HD6.out.2.2.2.1 6 0 (by decide) (by decide) (by decide) (some ⟨x10.heap.size, 0, none⟩) 1 1 [1] (bs_at x10 _ _ (by first | rfl | simp) 1 _ rfl 5 (Below.refl _ _)) rfl (Nat.le_refl _) (by decide) (by decide) (some ⟨pb, 0, none⟩) 2 pc (pf (lows sixL) 0) ((hW.below hA).p.more fun j hj => .inl hj) Hw14.out.2.1 (by decide)
  clear hA
  rw [show fits (rootD (lows sixL)) 6 0 [1] (pf (lows sixL) 0) = true from six_fits0, HD6.out.2.2.1] at hc
  have Hc := Lib.hid hc
  have Hg := Lib.hid (And.intro hW.r.range hW.s.range)
  clear hc hW
  go_wp2_with (first | (refine load_mid_g (by rfl) 30 _ (by rfl) w5.heap.size 0 (by rfl) D6 _ Hg.out.1 Try.underlying30 (by rfl) HD6.out.2.2.2.2 ?_; simp only [Act.put, List.setIfInBounds_toArray, List.set_cons_zero, List.set_cons_succ]))
  refine Hc.out.mono ?_
  rintro e x11 ⟨rfl, hN⟩
  have HP11 := Lib.hid (hN.more (b' := 13066) (by decide))
  clear hN Hc Hg HP10
  have hW := HP11.out
  have hA : Below x11.heap.size x11 (x11.alloc (.cells #[.int .u8 1] 5)) := (Below.refl _ _).alloc (Nat.le_refl _) _
  have hc := hW.check (by decide) hA (rootD (lows sixL)) HD6.out.2.2.2.1 5 0 (by decide) (by decide) (by decide) (some ⟨x11.heap.size, 0, none⟩) 1 1 [1] (bs_at x11 _ _ (by first | rfl | simp) 1 _ rfl 5 (Below.refl _ _)) rfl (Nat.le_refl _) (by decide) (by decide) (some ⟨pb, 0, none⟩) 2 pc (pf (lows sixL) 0) ((hW.below hA).p.more fun j hj => .inl hj) Hw14.out.2.1 (by decide)
  clear hA
  rw [show fits (rootD (lows sixL)) 5 0 [1] (pf (lows sixL) 0) = true from six_fits05, HD6.out.2.2.1] at hc
  have Hc := Lib.hid hc
  have Hg := Lib.hid (And.intro hW.r.range hW.s.range)
  clear hc hW
  go_wp2_with (first | (refine load_mid_g (by rfl) 30 _ (by rfl) w5.heap.size 0 (by rfl) D6 _ Hg.out.1 Try.underlying30 (by rfl) HD6.out.2.2.2.2 ?_; simp only [Act.put, List.setIfInBounds_toArray, List.set_cons_zero, List.set_cons_succ]))
  refine Hc.out.mono ?_
  rintro e x12 ⟨rfl, hN⟩
  have HP12 := Lib.hid (hN.more (b' := 13072) (by decide))
  clear hN Hc Hg HP11
  have hW := HP12.out
  have hA : Below x12.heap.size x12 (x12.alloc (.cells #[.int .u8 1] 5)) := (Below.refl _ _).alloc (Nat.le_refl _) _
  have hc := hW.check (by decide) hA (rootD (lows sixL)) HD6.out.2.2.2.1 4 0 (by decide) (by decide) (by decide) (some ⟨x12.heap.size, 0, none⟩) 1 1 [1] (bs_at x12 _ _ (by first | rfl | simp) 1 _ rfl 5 (Below.refl _ _)) rfl (Nat.le_refl _) (by decide) (by decide) (some ⟨pb, 0, none⟩) 2 pc (pf (lows sixL) 0) ((hW.below hA).p.more fun j hj => .inl hj) Hw14.out.2.1 (by decide)
  clear hA
  rw [show fits (rootD (lows sixL)) 4 0 [1] (pf (lows sixL) 0) = false from six_fits04, HD6.out.2.2.1] at hc
  have Hc := Lib.hid hc
  have Hg := Lib.hid (And.intro hW.r.range hW.s.range)
  clear hc hW
  go_wp2_with (first | (refine load_mid_g (by rfl) 30 _ (by rfl) w5.heap.size 0 (by rfl) D6 _ Hg.out.1 Try.underlying30 (by rfl) HD6.out.2.2.2.2 ?_; simp only [Act.put, List.setIfInBounds_toArray, List.set_cons_zero, List.set_cons_succ]))
  refine Hc.out.mono ?_
  rintro e x13 ⟨rfl, hN⟩
  have HP13 := Lib.hid (hN.more (b' := 13078) (by decide))
  clear hN Hc Hg HP12
  have hW := HP13.out
  have hc := hW.fits (by decide) (rootD (lows sixL)) HD6.out.2.2.2.1 (some ⟨tr, to_, none⟩) 2 2 (four (lvl (lows sixL) 1) 0) hW.top ((all32_lvl (all32_lows _) 1).four 0) Hw14.out.2.2 (by decide) (by decide)
  rw [if_pos six_top, HD6.out.2.2.1] at hc
  have Hc := Lib.hid hc
  have Hg := Lib.hid (And.intro hW.r.range hW.s.range)
  clear hc hW
  go_wp2_with (first | (refine load_mid_g (by rfl) 30 _ (by rfl) w5.heap.size 0 (by rfl) D6 _ Hg.out.1 Try.underlying30 (by rfl) HD6.out.2.2.2.2 ?_; simp only [Act.put, List.setIfInBounds_toArray, List.set_cons_zero, List.set_cons_succ]))
  refine Hc.out.mono ?_
  rintro e x14 ⟨rfl, hN⟩
  have HP14 := Lib.hid (hN.more (b' := 13084) (by decide))
  clear hN Hc Hg HP13
  have hW := HP14.out
  have hc := hW.fits (by decide) (rootD (lows oneL)) HD1.out.2.2.2.1 (some ⟨tr, to_, none⟩) 2 2 (four (lvl (lows sixL) 1) 0) hW.top ((all32_lvl (all32_lows _) 1).four 0) Hw14.out.2.2 (by decide) (by decide)
  rw [if_neg (by rw [six_top, one_root]; exact roots_ne), HD1.out.2.2.1] at hc
  have Hc := Lib.hid hc
  have Hg := Lib.hid (And.intro hW.r.range hW.s.range)
  clear hc hW
  go_wp2_with (first | (refine load_mid_g (by rfl) 30 _ (by rfl) w7.heap.size 0 (by rfl) D1 _ Hg.out.2 Try.underlying30 (by rfl) HD1.out.2.2.2.2 ?_; simp only [Act.put, List.setIfInBounds_toArray, List.set_cons_zero, List.set_cons_succ]))
  refine Hc.out.mono ?_
  rintro e x15 ⟨rfl, hN⟩
  have HP15 := Lib.hid (hN.more (b' := 13090) (by decide))
  clear hN Hc Hg HP14
  have hW := HP15.out
  have hc := fits_off (.pointer (some ⟨g, 0, none⟩)) none 0 0 (rootD (lows sixL)) x15 (by decide)
  rw [HD6.out.2.2.1] at hc
  have Hc := Lib.hid hc
  have Hg := Lib.hid (And.intro hW.r.range hW.s.range)
  clear hc hW
  go_wp2_with (first | (refine load_mid_g (by rfl) 30 _ (by rfl) w5.heap.size 0 (by rfl) D6 _ Hg.out.1 Try.underlying30 (by rfl) HD6.out.2.2.2.2 ?_; simp only [Act.put, List.setIfInBounds_toArray, List.set_cons_zero, List.set_cons_succ]))
  refine Hc.out.mono ?_
  rintro e x16 ⟨rfl, hb⟩
  have HP16 := Lib.hid ((HP15.out.below (hb)).more (b' := 13096) (by decide))
  clear hb Hc Hg HP15
  have hW := HP16.out
  have hc := fits_none (.pointer none) (some ⟨tr, to_, none⟩) 2 2 (rootD (lows sixL)) (four (lvl (lows sixL) 1) 0) x16 (.inl rfl) hW.top ((all32_lvl (all32_lows _) 1).four 0) Hw14.out.2.2 (by decide) (by decide)
  rw [HD6.out.2.2.1] at hc
  have Hc := Lib.hid hc
  have Hg := Lib.hid (And.intro hW.r.range hW.s.range)
  clear hc hW
  go_wp2_with (first | (refine load_mid_g (by rfl) 30 _ (by rfl) w5.heap.size 0 (by rfl) D6 _ Hg.out.1 Try.underlying30 (by rfl) HD6.out.2.2.2.2 ?_; simp only [Act.put, List.setIfInBounds_toArray, List.set_cons_zero, List.set_cons_succ]))
  refine Hc.out.mono ?_
  rintro e x17 ⟨rfl, hb⟩
  have HP17 := Lib.hid ((HP16.out.below (hb)).more (b' := 13102) (by decide))
  clear hb Hc Hg HP16
  have hW := HP17.out
  have hA : Below x17.heap.size x17 (x17.alloc (.cells #[.int .u8 9] 5)) := (Below.refl _ _).alloc (Nat.le_refl _) _
  have hc := (hW.below hA).leaffits (by decide) (rootD (lows oneL)) HD1.out.2.2.2.1 (some ⟨x17.heap.size, 0, none⟩) 1 1 [9] (Bs.made x17 5 _ (0, 0) [9] rfl) rfl (Nat.le_refl _) (by decide) (by decide)
  clear hA
  rw [if_pos (show digest (leafIn [9]) = (rootD (lows oneL)) from one_root.symm), HD1.out.2.2.1] at hc
  have Hc := Lib.hid hc
  have Hg := Lib.hid (And.intro hW.r.range hW.s.range)
  clear hc hW
  go_wp2_with (first | (refine load_mid_g (by rfl) 30 _ (by rfl) w7.heap.size 0 (by rfl) D1 _ Hg.out.2 Try.underlying30 (by rfl) HD1.out.2.2.2.2 ?_; simp only [Act.put, List.setIfInBounds_toArray, List.set_cons_zero, List.set_cons_succ]))
  refine Hc.out.mono ?_
  rintro e x18 ⟨rfl, hN⟩
  have HP18 := Lib.hid (hN.more (b' := 13108) (by decide))
  clear hN Hc Hg HP17
  have hW := HP18.out
  have hA : Below x18.heap.size x18 (x18.alloc (.cells #[.int .u8 9] 5)) := (Below.refl _ _).alloc (Nat.le_refl _) _
  have hc := (hW.below hA).leaffits (by decide) (rootD (lows sixL)) HD6.out.2.2.2.1 (some ⟨x18.heap.size, 0, none⟩) 1 1 [9] (Bs.made x18 5 _ (0, 0) [9] rfl) rfl (Nat.le_refl _) (by decide) (by decide)
  clear hA
  rw [if_neg (show ¬ (digest (leafIn [9]) = (rootD (lows sixL))) from fun e => roots_ne e.symm), HD6.out.2.2.1] at hc
  have Hc := Lib.hid hc
  have Hg := Lib.hid (And.intro hW.r.range hW.s.range)
  clear hc hW
  go_wp2_with (first | (refine load_mid_g (by rfl) 30 _ (by rfl) w5.heap.size 0 (by rfl) D6 _ Hg.out.1 Try.underlying30 (by rfl) HD6.out.2.2.2.2 ?_; simp only [Act.put, List.setIfInBounds_toArray, List.set_cons_zero, List.set_cons_succ]))
  refine Hc.out.mono ?_
  rintro e x19 ⟨rfl, hN⟩
  have HP19 := Lib.hid (hN.more (b' := 13114) (by decide))
  clear hN Hc Hg HP18
  have hW := HP19.out
  have hc := leaffits_long (.pointer (some ⟨g, 0, none⟩)) (some ⟨w13.heap.size, 0, none⟩) 65536 65536 (rootD (lows oneL)) x19 (by decide)
  rw [HD1.out.2.2.1] at hc
  have Hc := Lib.hid hc
  have Hg := Lib.hid (And.intro hW.r.range hW.s.range)
  clear hc hW
  go_wp2_with (first | (refine load_mid_g (by rfl) 30 _ (by rfl) w7.heap.size 0 (by rfl) D1 _ Hg.out.2 Try.underlying30 (by rfl) HD1.out.2.2.2.2 ?_; simp only [Act.put, List.setIfInBounds_toArray, List.set_cons_zero, List.set_cons_succ]))
  refine Hc.out.mono ?_
  rintro e x20 ⟨rfl, hb⟩
  have HP20 := Lib.hid ((HP19.out.below (hb)).more (b' := 13120) (by decide))
  clear hb Hc Hg HP19
  have hW := HP20.out
  have hc := leaffits_none (.pointer none) (rootD (lows oneL)) x20 (.inl rfl)
  rw [HD1.out.2.2.1] at hc
  have Hc := Lib.hid hc
  have Hg := Lib.hid (And.intro hW.r.range hW.s.range)
  clear hc hW
  go_wp2_with (first | (refine load_mid_g (by rfl) 30 _ (by rfl) w7.heap.size 0 (by rfl) D1 _ Hg.out.2 Try.underlying30 (by rfl) HD1.out.2.2.2.2 ?_; simp only [Act.put, List.setIfInBounds_toArray, List.set_cons_zero, List.set_cons_succ]))
  refine Hc.out.mono ?_
  rintro e x21 ⟨rfl, hb⟩
  have HP21 := Lib.hid ((HP20.out.below (hb)).more (b' := 13126) (by decide))
  clear hb Hc Hg HP20
  have Hb := Lib.hid HP21.out.bel
  clear HP21
  go_wp2
  go_loopw [30, 31] (fun v i wr => ∃ j : Nat, j ≤ 2 ∧ i = .int .i64 j ∧ NoTree wr v ∧ Below w.heap.size w wr ∧ ∃ pv, v = .pointer pv) (fun _ i _ => 2 - (intOf i).toNat)
  case atStart => exact ⟨0, by decide, rfl, .inl rfl, Hb.out, none, rfl⟩
  case round =>
    obtain ⟨j, hj, rfl, hno, hbw, pv, rfl⟩ := hrel
    have hj0 : (0 : Int) ≤ j := by omega
    by_cases hlt : j < 2
    · have hi2 : (j : Int) < 2 := by omega
      have Hno := Lib.hid hno
      have Hbw := Lib.hid hbw
      clear hno hbw
      go_wp2_with (first
        | (go_at_call 8; refine (build_none _ _ _ Hno.out).mono ?_; rintro e wr ⟨rfl, rfl⟩)
        | (go_at_call 9; refine (parts_none _ _ _ _ Hno.out).mono ?_; rintro e wr ⟨rfl, rfl⟩))
      go_roundw
      case rel => exact ⟨j + 1, by omega, by go_num, .inr ⟨_, rfl, by simp, (show Blk _ _ 45 [.pointer none, .int .i64 0, .slice none 0 0] from Blk.new rfl rfl).cell rfl⟩, Hbw.out.alloc Hbw.out.size _, _, rfl⟩
      case measure => simp [intOf]; omega
    · have hi2 : ¬ (j : Int) < 2 := by omega
      have Hbw := Lib.hid hbw
      clear hno hbw
      go_wp2_with (go_at_call 13; refine (works10_any _).mono ?_; rintro e w40 ⟨rfl, hb40⟩)
      go_ret
      exact ⟨rfl, Hbw.out.trans (hb40.mono Hbw.out.size)⟩

end Go.Proofs.Ytkkcjkelijlmbaa.proofKnown
