/-
  For all bytes leaf (1000 at most are looked at) and lists of digests: a leaf's digest is that of its bytes behind 0, a node's that of its children's digests behind 1, where there are 1 to 4; else ErrArg; TreeDigests returns true; no condition.
-/
import Derived.Test.YtbdocaohnigekaaZ01
import Derived.Test.YtbdocaohnigekaaZ13
import Derived.Test.YtbdocaohnigekaaZ07
import Derived.Deep.RegionHeld3
import Derived.Deep.RegionWith
import Derived.Deep.DeepCutAuto
namespace Go.Proofs.Ytbdocaohnigekaa.treeDigests
open Go.ChangeShapes Go.WideShapes Go.ChangeAt Go.RowKit
set_option linter.unusedVariables false

theorem op_appG {P : Program} {ops : Array Oper} {Q : Exit → Act → World → Prop} {i : Nat} {oi : Oper} {a : Act} {w : World} {K : Act → World → Prop} {d : Nat} (hi : ops[i]? = some oi) (hd : oi.dst = some d) (hw : Region.wanted oi (yielded ops a.tmps) = true) (s x : Operand) (t1 t2 : TypeId)
    (ho : oi.op = .call { callee := .builtin .append, args := #[s, x], argTypes := #[t1, t2] }) (v xs v' : Value) (w' : World) (hs : a.eval s = v) (hx : a.eval x = xs)
    (hrun : (Builtin.append_ #[t1, t2] oi.type #[v, xs]).run P w = .ok v' w') (h : K { a with tmps := a.tmps.setIfInBounds d v' } w') : wpOp P ops Q i K a w := by
  refine wpOp_step hi (fun K' hK => ?_)
  rw [if_pos hw]
  unfold Oper.wp execOp
  simp only [ho, resolve, invoke, builtin, Sem.run_bind, Sem.run_pure, Result.andThen_ok, List.map_toArray, List.map_cons, List.map_nil, hs, hx, hrun]
  exact hK _ _ (by unfold Act.put; rw [hd]; exact h)
theorem two_len (x : List UInt8) (ds : List Dg) (hx : x.length ≤ 1000) (h32 : All32 ds) (hd : ds.length ≤ 4) : (stepL (stepL ([], false, 0) (leafIn x)) (upIn ds)).1.length = 2 := by
  have h1 : (leafIn x).length ≤ 65536 := by unfold leafIn; rw [List.length_cons]; omega
  have h2 : (upIn ds).length ≤ 65536 := by unfold upIn; rw [List.length_cons, flat_len h32]; omega
  have h3 : upIn ds ≠ leafIn x := fun e => by
    unfold upIn leafIn at e
    injection e with e _
    exact absurd e (by decide)
  simp [stepL, ofL, h1, h2, noteL, h3]

set_option maxRecDepth 100000 in
set_option maxHeartbeats 6400000 in
theorem walk (Aleaf : Option Addr) (nleaf cleaf : Nat) (leaf : List UInt8) (Ach : Option Addr) (nch cch : Nat) (ch : List Dg) (w : World) (hleaf : ArgB w Aleaf nleaf cleaf leaf) (hch : ArgG w Ach nch cch ch) :
    Calls Try.prog 7 #[.slice Aleaf nleaf cleaf, .slice Ach nch cch] w fun e w' => e = .returned (.bool true) ∧ Below w.heap.size w w' := by
  obtain ⟨mx, x, hxl, hxm, hxc, hcm, hBx, hmin, hsl⟩ := cutUp 1000 1000 rfl hleaf
  have hnl : nleaf ≤ 9223372036854775807 := by have := hleaf.2.1; have := hleaf.2.2.1; omega
  have Hc := Lib.hid hch
  have hcl : ch.length = nch := hch.1
  have hnot : ∀ (x : Bool) (w : World), (Op.unary .not (.bool x)).run Try.prog w = .ok (.bool (!x)) w := fun _ _ => rfl
  have Hx := Lib.hid (And.intro hBx (And.intro hxl (And.intro hxm (And.intro hxc hcm))))
  clear hleaf hch hxl hxm hxc hcm hBx
  go_enter Try.func7, Try.ntmps7
  go_wp2_with (go_at_call 10; refine (works9_any _).mono ?_; rintro e w0 ⟨rfl, hb0⟩)
  have Hb0 := Lib.hid hb0
  clear hb0
  refine (bnew_any _).mono ?_
  rintro e w1 ⟨S, g, bm, rfl, hS, hb, hb1⟩
  have hk1 := kb_new hS hb
  obtain ⟨D1, hD1⟩ : ∃ D, cbs (digest (leafIn x)) = D := ⟨_, rfl⟩
  have hlf := leaf_kb w0.heap.size g bm _ (fun _ => False) Aleaf mx cleaf x w1 hk1 hb1.size (by decide) (by decide) (Hx.out.1.after (Hb0.out.trans (hb1.mono Hb0.out.size))) Hx.out.2.1 Hx.out.2.2.2.1 Hx.out.2.2.2.2 (by have := Hx.out.2.2.1; omega)
  rw [hD1] at hlf
  have D132 : D1.length = 32 := by rw [← hD1, cbs_length, dlen]
  have D11 : D1.toArray.all (·.oneCell') = true := by rw [← hD1]; exact cbs_one' _
  have heq1 := fun w' => eq_self D1 _ hD1 (dlen _) w'
  have Hlf := Lib.hid hlf
  have H1 := Lib.hid hb1
  have HD1 := Lib.hid (And.intro hD1 (And.intro D132 D11))
  clear hS hb hk1 hb1 hlf hD1 D132 D11
  go_wp2_with fail
  refine Hlf.out.mono ?_
  rintro e w2 ⟨rfl, hK2, hO2⟩
  obtain ⟨w3, hw3, ⟨hth, hi3⟩, hbS3, hbel3, hsz3⟩ := dig_local w2 D1 HD1.out.2.1
  have hb2 : Below w0.heap.size w0 w2 := H1.out.trans (hO2.above (fun i hi => hi.1) H1.out.size)
  have hb3 : Below w.heap.size w w3 := Hb0.out.trans ((hb2.trans (hbel3.mono hb2.size)).mono Hb0.out.size)
  obtain ⟨wd, hwd⟩ : ∃ wd, w3.drew = wd := ⟨_, rfl⟩
  have Hwd := Lib.hid (show Below w.heap.size w wd ∧ w.heap.size ≤ wd.heap.size from by rw [← hwd]; exact ⟨hb3.drew, hb3.drew.size⟩)
  have HKd := Lib.hid (show Kb w0.heap.size wd g bm (stepL ([], false, 0) (leafIn x)) (fun _ => False) ∧ w0.heap.size ≤ wd.heap.size from by rw [← hwd]; exact ⟨(hK2.below hbel3).drew9, by have := (hb2.trans (hbel3.mono hb2.size)).drew.size; exact this⟩)
  have Q0 : wd.rangeAt w2.heap.size 0 D1 := by rw [← hwd]; exact hbS3.range
  have Hw3 := Lib.hid hw3
  have Hwd2 := Lib.hid hwd
  have Hs3 := Lib.hid (And.intro hth hi3)
  obtain ⟨D2, hD2⟩ : ∃ D, cbs (digest (upIn ch)) = D := ⟨_, rfl⟩
  have D232 : D2.length = 32 := by rw [← hD2, cbs_length, dlen]
  have D21 : D2.toArray.all (·.oneCell') = true := by rw [← hD2]; exact cbs_one' _
  have heq2 := fun w' => eq_self D2 _ hD2 (dlen _) w'
  have Hdi := Lib.hid (show (Try.prog.info? 38).map (·.size) = some D1.length ∧ (Try.prog.info? 38).map (·.size) = some D2.length from by rw [HD1.out.2.1, D232]; exact ⟨info32b, info32b⟩)
  have HD2 := Lib.hid (And.intro hD2 (And.intro D232 D21))
  clear hK2 hO2 hw3 hth hi3 hbS3 hbel3 hsz3 hb2 hb3 hwd hD2 D232 D21
  go_wp2_with (refine wpList_store_mid rfl 38 _ _ rfl w2.heap.size 0 D1.toArray rfl rfl Hs3.out.1 Hs3.out.2 HD1.out.2.2 ?_; simp only [Act.put]; refine cast (congrArg (fun z => wpList _ _ _ _ _ z) Hw3.out.symm) ?_)
  refine wp_region_held_drew (S := fun W' => W'.rangeAt w2.heap.size 0 D1) (by kernel_rfl) (show w3.drew.rangeAt w2.heap.size 0 D1 from by rw [Hwd2.out]; exact Q0) (fun _ => ?_)
  rw [Hwd2.out]
  refine anyH_take (i := 0) (d := 27) (v := ?v0) rfl rfl (by kernel_rfl) (by kernel_rfl) (by kernel_rfl) (fun _ _ _ h => h) (Or.inl ⟨by rfl, ?vy0⟩) Q0 ?vr0
  case vy0 => (intro w; go_simp; try with_reducible rfl)
  simp only [List.setIfInBounds_toArray, List.set_cons_zero, List.set_cons_succ]
  refine anyH_take (i := 1) (d := 28) (v := ?v1) rfl rfl (by kernel_rfl) (by kernel_rfl) (by kernel_rfl) (fun _ _ _ h => h) (Or.inl ⟨by rfl, ?vy1⟩) Q0 ?vr1
  case vy1 => (intro w; go_simp; try with_reducible rfl)
  simp only [List.setIfInBounds_toArray, List.set_cons_zero, List.set_cons_succ]
  refine anyH_take (i := 2) (d := 29) (v := ?v2) rfl rfl (by kernel_rfl) (by kernel_rfl) (by kernel_rfl) (fun _ _ _ h => h) (Or.inl ⟨by rfl, ?vy2⟩) Q0 ?vr2
  case vy2 => (intro w; go_simp; try with_reducible rfl)
  simp only [List.setIfInBounds_toArray, List.set_cons_zero, List.set_cons_succ]
  refine anyH_load (i := 3) (d := 30) rfl rfl (by kernel_rfl) (by kernel_rfl) (by kernel_rfl) (by rfl) 38 _ rfl w2.heap.size 0 rfl D1 _ (fun _ h => h) Try.underlying38 rfl Hdi.out.1 (fun _ _ _ h => h) Q0 ?_
  simp only [List.setIfInBounds_toArray, List.set_cons_zero, List.set_cons_succ]
  refine anyH_take (i := 5) (d := 32) (v := ?v5) rfl rfl (by kernel_rfl) (by kernel_rfl) (by kernel_rfl) (fun _ _ _ h => h) (Or.inl ⟨by rfl, ?vy5⟩) Q0 ?vr5
  case vy5 => (intro w; go_simp; try with_reducible rfl)
  simp only [List.setIfInBounds_toArray, List.set_cons_zero, List.set_cons_succ]
  refine anyH_one (i := 4) (by kernel_rfl) ?_
  refine wpOp_step rfl (fun K hK => ?_)
  go_simp
  refine hK _ _ ⟨(range_below ((Below.refl _ _).alloc (Nat.le_refl _) _) Q0), ?_⟩
  clear hK K
  refine anyH_one (i := 6) (by kernel_rfl) ?_
  have hM1 : Mine (wd.alloc (.cells #[.int .u8 0] 5)) wd.heap.size 5 (.slice (some ⟨wd.heap.size, 0, none⟩) 1 1) [0] := Mine.one (x := 0) rfl (Nat.le_refl _) rfl
  obtain ⟨v2, w5, hap, hM2, hg2, _⟩ := run_appendB _ wd.heap.size _ [0] hM1 Aleaf cleaf mx x (Hx.out.1.after (Hwd.out.1.alloc Hwd.out.2 (.cells #[.int .u8 0] 5))) Hx.out.2.1 (by have := Hx.out.2.2.1; simp only [List.length_singleton]; omega) (by simp) 34
  obtain ⟨Av, cv, rfl, hcv, hcvm, hBv⟩ := Mine.form hM2
  have hb5 : Below w.heap.size w w5 := (Hwd.out.1.alloc Hwd.out.2 (.cells #[.int .u8 0] 5)).grown hg2 (by have := Hwd.out.2; simp; omega) fun j hj => by have := (World.ownsRow.lt hM1 j hj).1; have := Hwd.out.2; omega
  have hb5d : Below wd.heap.size wd w5 := ((Below.refl wd.heap.size wd).alloc (Nat.le_refl _) (.cells #[.int .u8 0] 5)).grown hg2 (by simp) fun j hj => (World.ownsRow.lt hM1 j hj).1
  have Hof := Lib.hid (of_any Av _ cv ([0] ++ x) w5 hBv rfl hcv hcvm (by have := Hx.out.2.2.1; have := Hx.out.2.1; simp only [List.length_append, List.length_singleton]; omega))
  have H5 := Lib.hid (And.intro hb5 hb5d)
  clear hM1 hM2 hg2 hcv hcvm hBv hb5 hb5d
  refine op_appG rfl rfl (by rfl) _ _ _ _ rfl _ _ _ _ rfl rfl hap ?_
  refine ⟨(range_below H5.out.2 Q0), ?_⟩
  simp only [List.setIfInBounds_toArray, List.set_cons_zero, List.set_cons_succ]
  refine anyH_one (i := 7) (by kernel_rfl) ?_
  refine wpOp_step rfl (fun K hK => ?_)
  go_simp
  have hof := Hof.out
  rw [show ([0] ++ x) = leafIn x from rfl, HD1.out.1] at hof
  refine hof.mono ?_
  clear hof
  rintro e w6 ⟨rfl, hb6⟩
  have H6 := Lib.hid (And.intro (H5.out.1.trans (hb6.mono H5.out.1.size)) (H5.out.2.trans (hb6.mono H5.out.2.size)))
  clear hb6
  refine hK _ _ ⟨(range_below H6.out.2 Q0), ?_⟩
  clear hK K
  refine anyH_take (i := 8) (d := 35) (v := ?v8) rfl rfl (by kernel_rfl) (by kernel_rfl) (by kernel_rfl) (fun _ _ _ h => h) (Or.inl ⟨by rfl, ?vy8⟩) (range_below H6.out.2 Q0) ?vr8
  case vy8 => (intro w; go_simp; try with_reducible rfl)
  simp only [List.setIfInBounds_toArray, List.set_cons_zero, List.set_cons_succ]
  refine anyH_take (i := 9) (d := 36) (v := ?v9) rfl rfl (by kernel_rfl) (by kernel_rfl) (by kernel_rfl) (fun _ _ _ h => h) (Or.inl ⟨by rfl, ?vy9⟩) (range_below H6.out.2 Q0) ?vr9
  case vy9 => (intro w; go_simp; try with_reducible rfl)
  simp only [List.setIfInBounds_toArray, List.set_cons_zero, List.set_cons_succ]
  refine wpAnyH_done (by kernel_rfl) ?_ _

  clear Q0
  have H7 := Lib.hid (show Below w.heap.size w w6 ∧ Kb w0.heap.size w6 g bm (stepL ([], false, 0) (leafIn x)) (fun _ => False) ∧ w0.heap.size ≤ w6.heap.size from ⟨H6.out.1, HKd.out.1.below H6.out.2, Nat.le_trans HKd.out.2 H6.out.2.size⟩)
  by_cases hg : 1 ≤ nch ∧ nch ≤ 4
  · obtain ⟨hg1, hg4⟩ := hg
    have hl1 := noteAll_len ([], false, 0) [leafIn x]
    have hup := up_kb w0.heap.size g bm _ (fun _ => False) Ach nch cch ch w6 H7.out.2.1 H7.out.2.2 (by have : (stepL ([], false, 0) (leafIn x)).1.length ≤ 0 + 1 := hl1.1; omega) (by have : (stepL ([], false, 0) (leafIn x)).2.2 ≤ 0 + 1 := hl1.2; omega) (Hc.out.2.2.2.2.after H7.out.1) Hc.out.2.2.2.1 hcl hg1 hg4
    rw [HD2.out.1] at hup
    have HL2 := Lib.hid (two_len x ch (by have := Hx.out.2.1; have := Hx.out.2.2.1; omega) Hc.out.2.2.2.1 (by omega))
    have Hup := Lib.hid hup
    have g1 : decide ((nch : Int) < 1) = false := by simp; omega
    have g2 : decide ((4 : Int) < (nch : Int)) = false := by simp; omega
    clear hl1 hup
    go_wp2_with fail
    refine Hup.out.mono ?_
    rintro e w7 ⟨rfl, hK7, hO7⟩
    obtain ⟨w8, hw8, ⟨hth, hi8⟩, hbS8, hbel8, hsz8⟩ := dig_local w7 D2 HD2.out.2.1
    have hb7 : Below w0.heap.size w6 w7 := hO7.above (fun i hi => hi.1) H7.out.2.2
    have hb8 : Below w.heap.size w w8 := H7.out.1.trans ((hb7.mono Hb0.out.size).trans (hbel8.mono (Nat.le_trans H7.out.1.size hb7.size)))
    have HK8 := Lib.hid (hK7.below hbel8)
    have Hw8 := Lib.hid hw8
    have Hs8 := Lib.hid (And.intro hth hi8)
    have H8 := Lib.hid (And.intro hb8 hbS8)
    clear hK7 hO7 hw8 hth hi8 hbS8 hbel8 hsz8 hb7 hb8 Hup
    go_wp2_with (refine wpList_store_mid rfl 38 _ _ rfl w7.heap.size 0 D2.toArray rfl rfl Hs8.out.1 Hs8.out.2 HD2.out.2.2 ?_; simp only [Act.put]; refine cast (congrArg (fun z => wpList _ _ _ _ _ z) Hw8.out.symm) ?_)
    go_loopw [10, 11, 12] (fun v iv _ wr => ∃ k : Nat, k ≤ nch ∧ iv = .int .i64 (k : Int) ∧ Mine wr w8.heap.size 5 v (1 :: (ch.take k).flatten) ∧ Below w8.heap.size w8 wr) (fun _ iv _ _ => nch - (intOf iv).toNat)
    case atStart => exact ⟨0, Nat.zero_le _, rfl, Mine.one (x := 1) rfl (Nat.le_refl _) rfl, (Below.refl _ _).alloc (Nat.le_refl _) _⟩
    case round =>
      obtain ⟨k, hk, rfl, hM, hB⟩ := hrel
      by_cases hlt : k < nch
      · have hkl : k < ch.length := by omega
        have hxx : (ch[k]).length = 32 := Hc.out.2.2.2.1 _ (List.getElem_mem _)
        obtain ⟨cb_, coff, eA, hcb, hra⟩ := Hc.out.2.2.2.2.at_ Hc.out.2.2.2.1 hkl
        have hst0 : 1 :: (ch.take (k + 1)).flatten = (1 :: (ch.take k).flatten) ++ ch[k] := by
          rw [List.take_succ_eq_append_getElem hkl, flat_snoc, List.cons_append]
        have hlen0 : (1 :: (ch.take k).flatten).length ≤ 200 := by
          have := flat_len (l := ch.take k) (fun x hx => Hc.out.2.2.2.1 x (List.mem_of_mem_take hx))
          rw [List.length_cons, this, List.length_take]; omega
        obtain ⟨P, hP⟩ : ∃ P, 1 :: (ch.take k).flatten = P := ⟨_, rfl⟩
        rw [hP] at hst0 hlen0 hM
        obtain ⟨y, hy⟩ : ∃ y, ch[k] = y := ⟨_, rfl⟩
        rw [hy] at hst0 hxx hra
        subst eA
        have p1 : (k : Int) < (nch : Int) := by omega
        have p2 : (0 : Int) ≤ (k : Int) := by omega
        have HP := Lib.hid (And.intro hst0 (And.intro hlen0 (And.intro hxx (And.intro hcb (And.intro hra (And.intro hM hB))))))
        clear hst0 hlen0 hxx hcb hra hM hB hkl hP hy
        go_wp2
        go_loopw [10, 12] (fun v iv wi => ∃ q : Nat, q ≤ 32 ∧ iv = .int .i64 (q : Int) ∧ Mine wi w8.heap.size 5 v (P ++ y.take q) ∧ Below w8.heap.size w8 wi) (fun _ iv _ => 32 - (intOf iv).toNat)
        case atStart => exact ⟨0, by decide, rfl, by rw [List.take_zero, List.append_nil]; exact HP.out.2.2.2.2.2.1, HP.out.2.2.2.2.2.2⟩
        case round =>
          obtain ⟨q, hq, rfl, hM, hB⟩ := hrel
          by_cases hqt : q < 32
          · have hql : q < y.length := by rw [HP.out.2.2.1]; exact hqt
            have hbw : Below w.heap.size w wr := H8.out.1.trans (hB.mono H8.out.1.size)
            have hc10 : wr.cell? ⟨cb_, coff + k * 32 + q, none⟩ = some (cb (y[q])) := (hbw.cell HP.out.2.2.2.1).trans (HP.out.2.2.2.2.1 q _ (by rw [cbs_get, List.getElem?_eq_getElem hql]; rfl))
            have hst : y.take (q + 1) = y.take q ++ [y[q]] := List.take_succ_eq_append_getElem hql
            have hlen : (P ++ y.take q).length + 1 ≤ 140737488355328 := by have := HP.out.2.1; rw [List.length_append, List.length_take]; omega
            generalize y[q] = z at *
            obtain ⟨u, hu⟩ : ∃ u, cb z = u := ⟨_, rfl⟩
            have hu1 : ∃ m : Int, u = .int .u8 m := ⟨_, hu.symm⟩
            obtain ⟨m, rfl⟩ := hu1
            rw [hu] at hc10
            have hBy := Bs.made wr 5 #[.int .u8 m] (0, 0) [z] (by rw [← hu]; rfl)
            have hbA : Below wr.heap.size wr (wr.alloc (.cells #[.int .u8 m] 5)) := (Below.refl _ _).alloc (Nat.le_refl _) _
            have hMA : Mine (wr.alloc (.cells #[.int .u8 m] 5)) w8.heap.size 5 _ (P ++ y.take q) := hM.after hbA
            have H9 := Lib.hid (And.intro hst (And.intro hlen (And.intro hBy (And.intro hMA (And.intro (hB.trans (hbA.mono hB.size)) (Nat.le_trans hB.size hbA.size))))))
            have q0 : (q : Int) < 32 := by omega
            have q1 : (0 : Int) ≤ (q : Int) := by omega
            clear hst hlen hBy hbA hMA hM hB hu hql hbw
            go_wp2_with (at_builtin; refine wp_appendB rfl _ _ rfl w8.heap.size _ _ rfl H9.out.2.2.2.1 (some ⟨wr.heap.size, 0, none⟩) 1 1 [z] rfl H9.out.2.2.1 rfl H9.out.2.1 H9.out.2.2.2.2.2 ?_; intro v2 w2 hm2 hg2 ho2)
            go_roundw
            case rel =>
              refine ⟨q + 1, by omega, by go_num, by rw [H9.out.1, ← List.append_assoc]; exact hm2, H9.out.2.2.2.2.1.grown hg2 H9.out.2.2.2.2.2 fun j hj => (World.ownsRow.lt H9.out.2.2.2.1 j hj).1⟩
            case measure => simp [intOf]; omega
          · obtain rfl : q = 32 := by omega
            rw [List.take_of_length_le (by rw [HP.out.2.2.1]; exact Nat.le_refl _), ← HP.out.1] at hM
            have HM := Lib.hid (And.intro hM hB)
            clear hM hB
            go_wp2
            go_roundw
            case rel => exact ⟨k + 1, by omega, by go_num, HM.out.1, HM.out.2⟩
            case measure => simp [intOf]; omega
      · obtain rfl : k = nch := by omega
        rw [List.take_of_length_le (by omega)] at hM
        obtain ⟨Y, hY⟩ : ∃ Y, upIn ch = Y := ⟨_, rfl⟩
        have hul : Y.length ≤ 200 := by rw [← hY]; unfold upIn; rw [List.length_cons, flat_len Hc.out.2.2.2.1]; omega
        have hY2 : 1 :: ch.flatten = Y := hY
        rw [hY2] at hM
        obtain ⟨Av, cv, rfl, hcv, hcvm, hBv⟩ := Mine.form hM
        obtain ⟨ny, hny⟩ : ∃ n, Y.length = n := ⟨_, rfl⟩
        rw [hny] at hcv hul ⊢
        have hof := of_any Av ny cv Y wr.drew hBv hny hcv hcvm (by omega)
        rw [show cbs (digest Y) = D2 from by rw [← hY]; exact HD2.out.1] at hof
        have Hof2 := Lib.hid hof
        have HB8 := Lib.hid hB.drew
        have Q0 : wr.drew.rangeAt w7.heap.size 0 D2 := range_below hB.drew H8.out.2.range
        have p1 : ¬ (k : Int) < (k : Int) := by omega
        clear hM hB hcv hcvm hBv hul hof hY hY2 hny
        go_wp2
        refine wp_region_held_drew (S := fun W' => W'.rangeAt w7.heap.size 0 D2) (by kernel_rfl) Q0 (fun _ => ?_)
        refine anyH_take (i := 0) (d := 78) (v := ?xb0) rfl rfl (by kernel_rfl) (by kernel_rfl) (by kernel_rfl) (fun _ _ _ h => h) (Or.inl ⟨by rfl, ?xby0⟩) Q0 ?xbr0
        case xby0 => (intro w; go_simp; try with_reducible rfl)
        simp only [List.setIfInBounds_toArray, List.set_cons_zero, List.set_cons_succ]
        refine anyH_take (i := 1) (d := 79) (v := ?xb1) rfl rfl (by kernel_rfl) (by kernel_rfl) (by kernel_rfl) (fun _ _ _ h => h) (Or.inl ⟨by rfl, ?xby1⟩) Q0 ?xbr1
        case xby1 => (intro w; go_simp; try with_reducible rfl)
        simp only [List.setIfInBounds_toArray, List.set_cons_zero, List.set_cons_succ]
        refine anyH_take (i := 2) (d := 80) (v := ?xb2) rfl rfl (by kernel_rfl) (by kernel_rfl) (by kernel_rfl) (fun _ _ _ h => h) (Or.inl ⟨by rfl, ?xby2⟩) Q0 ?xbr2
        case xby2 => (intro w; go_simp; try with_reducible rfl)
        simp only [List.setIfInBounds_toArray, List.set_cons_zero, List.set_cons_succ]
        refine anyH_load (i := 3) (d := 81) rfl rfl (by kernel_rfl) (by kernel_rfl) (by kernel_rfl) (by rfl) 38 _ rfl w7.heap.size 0 rfl D2 _ (fun _ h => h) Try.underlying38 rfl Hdi.out.2 (fun _ _ _ h => h) Q0 ?_
        simp only [List.setIfInBounds_toArray, List.set_cons_zero, List.set_cons_succ]
        refine anyH_take (i := 4) (d := 82) (v := ?xb4) rfl rfl (by kernel_rfl) (by kernel_rfl) (by kernel_rfl) (fun _ _ _ h => h) (Or.inl ⟨by rfl, ?xby4⟩) Q0 ?xbr4
        case xby4 => (intro w; go_simp; try with_reducible rfl)
        simp only [List.setIfInBounds_toArray, List.set_cons_zero, List.set_cons_succ]
        refine anyH_one (i := 5) (by kernel_rfl) ?_
        refine wpOp_step rfl (fun K hK => ?_)
        go_simp
        refine Hof2.out.mono ?_
        rintro e wa ⟨rfl, hba⟩
        have Hba := Lib.hid hba
        clear hba
        refine hK _ _ ⟨(range_below Hba.out Q0), ?_⟩
        clear hK K
        refine anyH_take (i := 6) (d := 84) (v := ?xb6) rfl rfl (by kernel_rfl) (by kernel_rfl) (by kernel_rfl) (fun _ _ _ h => h) (Or.inl ⟨by rfl, ?xby6⟩) (range_below Hba.out Q0) ?xbr6
        case xby6 => (intro w; go_simp; try with_reducible rfl)
        simp only [List.setIfInBounds_toArray, List.set_cons_zero, List.set_cons_succ]
        refine anyH_take (i := 7) (d := 85) (v := ?xb7) rfl rfl (by kernel_rfl) (by kernel_rfl) (by kernel_rfl) (fun _ _ _ h => h) (Or.inl ⟨by rfl, ?xby7⟩) (range_below Hba.out Q0) ?xbr7
        case xby7 => (intro w; go_simp; try with_reducible rfl)
        simp only [List.setIfInBounds_toArray, List.set_cons_zero, List.set_cons_succ]
        refine anyH_take (i := 8) (d := 86) (v := ?xb8) rfl rfl (by kernel_rfl) (by kernel_rfl) (by kernel_rfl) (fun _ _ _ h => h) (Or.inl ⟨by rfl, ?xby8⟩) (range_below Hba.out Q0) ?xbr8
        case xby8 => (intro w; go_simp; try with_reducible rfl)
        simp only [List.setIfInBounds_toArray, List.set_cons_zero, List.set_cons_succ]
        refine anyH_take (i := 9) (d := 87) (v := ?xb9) rfl rfl (by kernel_rfl) (by kernel_rfl) (by kernel_rfl) (fun _ _ _ h => h) (Or.inl ⟨by rfl, ?xby9⟩) (range_below Hba.out Q0) ?xbr9
        case xby9 => (intro w; go_simp; try with_reducible rfl)
        simp only [List.setIfInBounds_toArray, List.set_cons_zero, List.set_cons_succ]
        refine anyH_one (i := 10) (by kernel_rfl) ?_
        refine wpOp_step rfl (fun K hK => ?_)
        go_simp
        have hlen := kb_len (HK8.out.below (HB8.out.trans (Hba.out.mono HB8.out.size)))
        rw [HL2.out] at hlen
        refine hlen.mono ?_
        clear hlen
        rintro e wb ⟨rfl, rfl⟩
        refine hK _ _ ⟨(range_below Hba.out Q0), ?_⟩
        clear hK K
        refine anyH_take (i := 11) (d := 89) (v := ?xb11) rfl rfl (by kernel_rfl) (by kernel_rfl) (by kernel_rfl) (fun _ _ _ h => h) (Or.inl ⟨by rfl, ?xby11⟩) (range_below Hba.out Q0) ?xbr11
        case xby11 => (intro w; go_simp; try with_reducible rfl)
        simp only [List.setIfInBounds_toArray, List.set_cons_zero, List.set_cons_succ]
        refine anyH_take (i := 12) (d := 90) (v := ?xb12) rfl rfl (by kernel_rfl) (by kernel_rfl) (by kernel_rfl) (fun _ _ _ h => h) (Or.inl ⟨by rfl, ?xby12⟩) (range_below Hba.out Q0) ?xbr12
        case xby12 => (intro w; go_simp; try with_reducible rfl)
        simp only [List.setIfInBounds_toArray, List.set_cons_zero, List.set_cons_succ]
        refine anyH_take (i := 13) (d := 4) (v := ?xb13) rfl rfl (by kernel_rfl) (by kernel_rfl) (by kernel_rfl) (fun _ _ _ h => h) (Or.inl ⟨by rfl, ?xby13⟩) (range_below Hba.out Q0) ?xbr13
        case xby13 => (intro w; go_simp; try with_reducible rfl)
        simp only [List.setIfInBounds_toArray, List.set_cons_zero, List.set_cons_succ]
        refine wpAnyH_done (by kernel_rfl) ?_ _

        go_wp2
        go_ret
        exact ⟨rfl, (H8.out.1.trans ((HB8.out.trans (Hba.out.mono HB8.out.size)).mono H8.out.1.size))⟩
  · have hup := up_off (.pointer (some ⟨g, 0, none⟩)) Ach nch cch w6 (by omega)
    obtain ⟨DZ, hDZ⟩ : ∃ D, cbs (List.replicate 32 0) = D := ⟨_, rfl⟩
    rw [hDZ] at hup
    have DZ32 : DZ.length = 32 := by rw [← hDZ]; rfl
    have DZ1 : DZ.toArray.all (·.oneCell') = true := by rw [← hDZ]; exact cbs_one' _
    have heqz := eq_zz DZ hDZ
    have HDZ := Lib.hid (show DZ.length = 32 ∧ DZ.toArray.all (·.oneCell') = true ∧ (Try.prog.info? 38).map (·.size) = some DZ.length from ⟨DZ32, DZ1, by rw [DZ32]; exact info32b⟩)
    have Hup := Lib.hid hup
    obtain ⟨hc, _⟩ : ((decide ((nch : Int) < 1) = true) ∨ (decide ((nch : Int) < 1) = false ∧ decide ((4 : Int) < (nch : Int)) = true)) ∧ True := ⟨by
      by_cases h0 : nch < 1
      · exact .inl (by simp; omega)
      · exact .inr ⟨by simp; omega, by simp; omega⟩, trivial⟩
    clear hup DZ32 DZ1 hg hDZ
    rcases hc with g1 | ⟨g1, g2⟩
    all_goals
      go_wp2_with fail
      refine Hup.out.mono ?_
      rintro e w7 ⟨rfl, hb7⟩
      obtain ⟨w8, hw8, ⟨hth, hi8⟩, hbS8, hbel8, hsz8⟩ := dig_local w7 DZ HDZ.out.1
      have hb8 : Below w.heap.size w w8 := H7.out.1.trans ((hb7.trans (hbel8.mono hb7.size)).mono H7.out.1.size)
      have Hw8 := Lib.hid hw8
      have Hs8 := Lib.hid (And.intro hth hi8)
      have H8 := Lib.hid (And.intro hb8 hbS8.range)
      clear hw8 hth hi8 hbS8 hbel8 hsz8 hb7 hb8
      go_wp2_with (first
        | (refine wpList_store_mid rfl 38 _ _ rfl w7.heap.size 0 DZ.toArray rfl rfl Hs8.out.1 Hs8.out.2 HDZ.out.2.1 ?_; simp only [Act.put]; refine cast (congrArg (fun z => wpList _ _ _ _ _ z) Hw8.out.symm) ?_)
        | (refine load_mid_g (by rfl) 38 _ rfl w7.heap.size 0 rfl DZ _ H8.out.2 Try.underlying38 rfl HDZ.out.2.2 ?_; simp only [Act.put]))
      go_ret
      exact ⟨rfl, H8.out.1⟩

end Go.Proofs.Ytbdocaohnigekaa.treeDigests
