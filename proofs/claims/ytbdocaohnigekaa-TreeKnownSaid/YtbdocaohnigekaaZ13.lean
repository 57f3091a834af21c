/-
  Laid together for a hand-in: Works9, Bring, Aid9, Sets9, Digs9, Of9.
-/
import Derived.Test.YtbdocaohnigekaaZ12
import Derived.Test.YtbdocaohnigekaaZ01
import Derived.Test.YtbdocaohnigekaaRows
import Derived.Test.YtbdocaohnigekaaZ08
import Derived.Test.YtbdocaohnigekaaZ07
import Derived.Deep.Slices
import Derived.Deep.Grids

namespace Go.Proofs.Ytbdocaohnigekaa
open Go.RowKit Go.Maps
set_option linter.unusedVariables false
set_option linter.unusedSimpArgs false

theorem kb_new {w w1 : World} {S : Nat → Prop} {g m : Nat} (hS : ∀ i, S i → w.heap.size ≤ i) (h : BookM w1 S g m [] false 0) : Kb w.heap.size w1 g m ([], false, 0) (fun _ => False) :=
  ⟨_, BookS.cells (s := ([], false, 0)) h, fun i hi => ⟨hS i hi.1, hi.2⟩, fun i hi => hi.elim⟩
theorem NewDs.form {w w' : World} {ds : List Dg} {v : Value} (h : NewDs w ds v w') (hne : ds ≠ []) : ∃ r c, v = .slice (some ⟨r, 0, none⟩) ds.length c ∧ ds.length ≤ c ∧ c ≤ maxLen ∧ w.heap.size ≤ r ∧ r < w'.heap.size ∧ Ds w' (some ⟨r, 0, none⟩) ds ∧ w'.ownsRow w.heap.size 38 32 (.slice (some ⟨r, 0, none⟩) ds.length c) ds.length (cbs ds.flatten) := by
  obtain ⟨h1, h2⟩ := h
  have hh := h1
  rcases h1.2 with ⟨_, e⟩ | ⟨r, c, cur, rfl, hb, hg, hnc, hcm, _⟩
  · exact absurd (List.eq_nil_of_length_eq_zero e) hne
  · exact ⟨r, c, rfl, hnc, hcm, hb, row_lt hh, Shows.ofOwn hh, hh⟩
theorem range_out {S : Nat → Prop} {w w' : World} {b o : Nat} {cs : List Value} (ho : Out S w w') (hn : ¬ S b) (h : w.rangeAt b o cs) : w'.rangeAt b o cs := fun j v hv =>
  (World.cell?_of_block (ho.block b (World.block_lt_of_cell? w _ (h j v hv)) hn)).trans (h j v hv)
theorem dep_five : dep 5 = 3 := by rw [dep_more (by decide), dep_more (by decide), dep_one (by decide)]
theorem root_of_one (a : Dg) : rootD [a] = a := by
  unfold rootD
  rw [show dep [a].length - 1 = 0 by rw [dep_one (by simp)]]
  rfl
theorem lows_empties (n : Nat) : lows (empties n) = List.replicate n (digest [0]) := by unfold lows empties; rw [List.map_replicate]; rfl
theorem root_single : rootD (lows (empties 1)) = digest [0] := by
  rw [lows_empties]
  generalize digest [0] = a
  exact root_of_one a
theorem next_five (a : Dg) : next [a, a, a, a, a] = [digest (upIn [a, a, a, a]), digest (upIn [a])] := by
  simp [next, ups, four, List.range_succ]
theorem level_five : ∃ d, d.length = 32 ∧ lvl (lows (empties 5)) 1 = [d, digest (1 :: digest [0])] := by
  rw [lows_empties]
  refine ⟨digest (upIn [digest [0], digest [0], digest [0], digest [0]]), dlen _, ?_⟩
  generalize digest [0] = a
  rw [lvl, lvl, show List.replicate 5 a = [a, a, a, a, a] from rfl, next_five]
  simp [upIn]

set_option maxRecDepth 100000 in
set_option maxHeartbeats 3200000 in
theorem works9_any (w : World) : Calls Try.prog 10 #[] w fun e w' => e = .returned (.bool true) ∧ Below w.heap.size w w' := by
  go_enter Try.func10, Try.ntmps10
  go_wp2_with fail
  refine (bnew_any _).mono ?_
  rintro e w1 ⟨S, g, bm, rfl, hS, hb, hb1⟩
  have hk1 := kb_new hS hb
  have Hn1 := Lib.hid (tnew_any w.heap.size g bm _ 1 (fun _ => False) w1 hk1 hb1.size (by decide) (by decide) (by decide) (by decide))
  have H1 := Lib.hid hb1
  clear hS hb hk1 hb1
  go_wp2_with fail
  refine Hn1.out.mono ?_
  rintro e w2 ⟨t1, M1, rfl, hT1, hM1, hk2, hO2⟩
  have hln := noteAll_len ([], false, 0) (insTo (empties 1) (dep 1 - 1))
  have hil := insTo_len (empties 1) (by decide) (dep 1 - 1)
  rw [dep_one (by decide)] at hln hil
  have hb2 : Below w.heap.size w w2 := H1.out.trans (hO2.above (fun i hi => hi.1) H1.out.size)
  have Hn5 := Lib.hid (tnew_any w.heap.size g bm _ 5 (fun i => False ∨ M1 i) w2 hk2 hb2.size (by rw [dep_one (by decide)]; have := empties_len 1; simp only [List.length_nil] at hln; omega) (by rw [dep_one (by decide)]; have := empties_len 1; simp only [] at hln; omega) (by decide) (by decide))
  have H2 := Lib.hid (And.intro hT1 (And.intro hM1 hb2))
  clear hT1 hM1 hk2 hO2 hb2 hln hil
  go_wp2_with fail
  refine Hn5.out.mono ?_
  rintro e w3 ⟨t5, M5, rfl, hT5, hM5, hk3, hO3⟩
  obtain ⟨hT1, hM1, hb2⟩ := H2.out
  have hb3 : Below w.heap.size w w3 := hb2.trans (hO3.above (fun i hi => hi.1) hb2.size)
  have hT13 := hT1.out hO3 fun i hi => Tn.keep (.inr hi)
  have hdis : ∀ i, M1 i → ¬ M5 i := fun i h1 h5 => by
    have := hM5 i h5
    obtain ⟨_, _, _, _, h⟩ := hT1
    have := h.ltM i h1; omega
  obtain ⟨L1, R1, lv1, c1, h1⟩ := hT13
  obtain ⟨L5, R5, lv5, c5, h5⟩ := hT5
  have hbl1 := h1.blk
  have hbl5 := h5.blk
  have e1 : (lows (empties 1)).length = 1 := by rw [lows_len, empties_len]
  have e5 : (lows (empties 5)).length = 5 := by rw [lows_len, empties_len]
  rw [e1, dep_one (by decide)] at hbl1
  rw [e5, dep_five] at hbl5
  have Hd1 := Lib.hid (tdepth_any t1 g 1 lv1 1 c1 w3 hbl1 (by decide))
  have Hd5 := Lib.hid (tdepth_any t5 g 5 lv5 3 c5 w3 hbl5 (by decide))
  have Hl5 := Lib.hid (tleaves_any t5 g 5 lv5 3 c5 w3 hbl5 (by decide))
  have hroot := troot_at (M := M1) ⟨L1, R1, lv1, c1, h1⟩
  rw [root_single] at hroot
  obtain ⟨D0, hD0⟩ : ∃ D0, cbs (digest [0]) = D0 := ⟨_, rfl⟩
  have hD32 : D0.length = 32 := by rw [← hD0, cbs_length, dlen]
  have hD1 : D0.toArray.all (·.oneCell') = true := by rw [← hD0]; exact cbs_one' _
  rw [hD0] at hroot
  have Hr := Lib.hid hroot
  have HD := Lib.hid (And.intro hD0 (And.intro hD32 hD1))
  have H3 := Lib.hid (And.intro hb3 (And.intro hdis (And.intro hM5 (And.intro hM1 (And.intro hk3 (And.intro (show TreeAt w3 M5 t5 g (lows (empties 5)) from ⟨L5, R5, lv5, c5, h5⟩) (show TreeAt w3 M1 t1 g (lows (empties 1)) from ⟨L1, R1, lv1, c1, h1⟩)))))))
  clear hT1 hM1 hb2 hb3 hdis h1 h5 hbl1 hbl5 e1 e5 hroot hD0 hD32 hD1 hM5 hk3 hO3
  go_wp2_with (first
    | (have _ := Hd1; go_at_call 21; refine Hd1.out.mono ?_; rintro e w3 ⟨rfl, rfl⟩; clear Hd1)
    | (go_at_call 21; refine Hd5.out.mono ?_; rintro e w3 ⟨rfl, rfl⟩)
    | (go_at_call 26; refine Hl5.out.mono ?_; rintro e w3 ⟨rfl, rfl⟩))
  refine Hr.out.mono ?_
  rintro e w4 ⟨rfl, hb4⟩
  obtain ⟨w5, hw5, ⟨hth6, hi6⟩, hbS6, hbel6, hsz6⟩ := dig_local w4 D0 HD.out.2.1
  have hb5 : Below w3.heap.size w3 w5 := hb4.trans (hbel6.mono hb4.size)
  have hlev := tlevel_in (H3.out.2.2.2.2.2.1.below hb5) 1 (by rw [lows_len, empties_len, dep_five]; decide)
  have Hlev := Lib.hid hlev
  have Hw5 := Lib.hid hw5
  have Hs6 := Lib.hid (And.intro hth6 (And.intro hi6 HD.out.2.2))
  have H5 := Lib.hid (And.intro hb5 (And.intro hbS6 hb4.size))
  clear hb4 hth6 hi6 hbS6 hbel6 hsz6 hb5 hlev hw5 Hr
  go_wp2_with (refine wpList_store_mid rfl 38 _ _ rfl w4.heap.size 0 D0.toArray rfl rfl Hs6.out.1 Hs6.out.2.1 Hs6.out.2.2 ?_; simp only [Act.put]; refine cast (congrArg (fun z => wpList _ _ _ _ _ z) Hw5.out.symm) ?_)
  refine Hlev.out.mono ?_
  rintro e w6 ⟨v, rfl, hN⟩
  obtain ⟨d4, hd4, hl5⟩ := level_five
  rw [hl5] at hN
  obtain ⟨lr, cl, rfl, hlc, hlm, hlr1, hlr2, hDsl, hrow⟩ := hN.form (by simp)
  have hb6 : Below w3.heap.size w3 w6 := H5.out.1.trans (hN.2.mono H5.out.1.size)
  obtain ⟨_, _, ea, _, hr1⟩ := hDsl.at_ (fun x hx => by
    rcases List.mem_cons.1 hx with rfl | hx
    · exact hd4
    · rw [List.mem_singleton.1 hx]; exact dlen _) (i := 1) (by simp)
  cases ea
  have hr1' : w6.rangeAt lr 32 (cbs (digest (1 :: digest [0]))) := by
    have := hr1
    rw [Nat.zero_add, Nat.one_mul] at this
    exact this
  obtain ⟨DL, hDL⟩ : ∃ DL, cbs (digest (1 :: digest [0])) = DL := ⟨_, rfl⟩
  rw [hDL] at hr1'
  have hsha := of_any (some ⟨w6.heap.size, 0, none⟩) 1 1 [0] (w6.alloc (.cells #[.int .u8 0] 5)) (Bs.made w6 _ _ _ [0] rfl) rfl (Nat.le_refl _) (by decide) (by decide)
  rw [HD.out.1] at hsha
  have Hsha := Lib.hid hsha
  have hz6 : w4.heap.size < w6.heap.size := by have := H5.out.2.1.lt; have := hN.2.size; omega
  have H6 := Lib.hid (And.intro hb6 (And.intro (H5.out.2.1.below hN.2 H5.out.2.1.lt) (And.intro hr1' (And.intro hlr2 (And.intro hDL (And.intro hlc hlm))))))
  have Hlr := Lib.hid (Nat.le_trans H5.out.1.size hlr1)
  clear hN hlc hlm hlr1 hlr2 hDsl hrow hb6 hr1 hr1' hDL hsha hd4 hl5 hz6 Hlev
  go_wp2_with fail
  refine Hsha.out.mono ?_
  rintro e w7 ⟨rfl, hb7⟩
  have hb67 : Below w6.heap.size w6 w7 := ((Below.refl _ _).alloc (Nat.le_refl _) _).trans (hb7.mono (by simp))
  obtain ⟨w8, hw8, ⟨hth10, hi10⟩, hbS10, hbel10, hsz10⟩ := dig_local w7 D0 HD.out.2.1
  have hb68 : Below w6.heap.size w6 w8 := hb67.trans (hbel10.mono hb67.size)
  have Hw8 := Lib.hid hw8
  have Hge := Lib.hid (And.intro hb67.size Hlr.out)
  have Hs10 := Lib.hid (And.intro hth10 (And.intro hi10 HD.out.2.2))
  have H8 := Lib.hid (And.intro hb68 hbS10)
  clear hb7 hb67 hw8 hth10 hi10 hbS10 hbel10 hsz10 hb68 Hsha
  go_wp2_with (refine wpList_store_mid rfl 38 _ _ rfl w7.heap.size 0 D0.toArray rfl rfl Hs10.out.1 Hs10.out.2.1 Hs10.out.2.2 ?_; simp only [Act.put]; refine cast (congrArg (fun z => wpList _ _ _ _ _ z) Hw8.out.symm) ?_)
  have HG : Hid (∀ {n : Nat}, w8.heap.size ≤ n → w3.heap.size ≤ w4.heap.size ∧ w4.heap.size < w6.heap.size ∧ w3.heap.size ≤ lr ∧ w6.heap.size ≤ n ∧ w6.heap.size ≤ w7.heap.size ∧ w7.heap.size < n) := by
    have a1 := H5.out.2.2; have a2 := H6.out.2.1.lt; have a4 := H8.out.1.size; have a5 := H8.out.2.lt; have a6 := Hge.out
    intro n hn; exact ⟨a1, a2, by omega, by omega, by omega, by omega⟩
  go_loopw [11, 12] (fun v i wr => ∃ k : Nat, k ≤ 32 ∧ i = .int .i64 (k : Int) ∧ Mine wr w8.heap.size 5 v (1 :: (digest [0]).take k) ∧ Below w8.heap.size w8 wr) (fun _ i _ => 32 - (intOf i).toNat)
  case atStart => exact ⟨0, by decide, rfl, Mine.one (x := 1) rfl (Nat.le_refl _) rfl, (Below.refl _ _).alloc (Nat.le_refl _) _⟩
  case round =>
    obtain ⟨k, hk, rfl, hM, hB⟩ := hrel
    by_cases hlt : k < 32
    · have hkl : k < (digest [0]).length := by rw [dlen]; exact hlt
      have hc10 : wr.cell? ⟨w7.heap.size, k, none⟩ = some (cb ((digest [0])[k])) := (H8.out.2.below hB H8.out.2.lt).cell (by rw [← HD.out.1, cbs_get, List.getElem?_eq_getElem hkl]; rfl)
      have hst : (digest [0]).take (k + 1) = (digest [0]).take k ++ [(digest [0])[k]] := List.take_succ_eq_append_getElem hkl
      have hlen : (1 :: (digest [0]).take k).length + 1 ≤ 140737488355328 := by rw [List.length_cons, List.length_take]; omega
      generalize (digest [0])[k] = y at *
      obtain ⟨u, hu⟩ : ∃ u, cb y = u := ⟨_, rfl⟩
      have hu1 : ∃ m : Int, u = .int .u8 m := ⟨_, hu.symm⟩
      obtain ⟨m, rfl⟩ := hu1
      rw [hu] at hc10
      have hBy := Bs.made wr 5 #[.int .u8 m] (0, 0) [y] (by rw [← hu]; rfl)
      have hbA : Below wr.heap.size wr (wr.alloc (.cells #[.int .u8 m] 5)) := (Below.refl _ _).alloc (Nat.le_refl _) _
      have hMA : Mine (wr.alloc (.cells #[.int .u8 m] 5)) w8.heap.size 5 _ (1 :: (digest [0]).take k) := hM.after hbA
      have H9 := Lib.hid (And.intro hst (And.intro hlen (And.intro hBy (And.intro hMA (And.intro (hB.trans (hbA.mono hB.size)) (Nat.le_trans hB.size hbA.size))))))
      have hk0 : (k : Int) < 32 := by omega
      clear hst hlen hBy hbA hMA hM hB hu hkl
      go_wp2_with (at_builtin; refine wp_appendB rfl _ _ rfl w8.heap.size _ _ rfl H9.out.2.2.2.1 (some ⟨wr.heap.size, 0, none⟩) 1 1 [y] rfl H9.out.2.2.1 rfl H9.out.2.1 H9.out.2.2.2.2.2 ?_; intro v2 w2 hm2 hg2 ho2)
      go_roundw
      case rel =>
        refine ⟨k + 1, by omega, by go_num, by rw [H9.out.1]; exact hm2, H9.out.2.2.2.2.1.grown hg2 H9.out.2.2.2.2.2 fun j hj => (World.ownsRow.lt H9.out.2.2.2.1 j hj).1⟩
      case measure => simp [intOf]; omega
    · obtain rfl : k = 32 := by omega
      rw [List.take_of_length_le (by rw [dlen]; exact Nat.le_refl _)] at hM
      obtain ⟨Av, cv, rfl, hcv, hcvm, hBv⟩ := Mine.form hM
      have hof := of_any Av _ cv (1 :: digest [0]) wr.drew hBv rfl hcv hcvm (by rw [List.length_cons, dlen]; decide)
      have hb38 : Below w3.heap.size w3 wr := (H6.out.1.trans (H8.out.1.mono H6.out.1.size)).trans (hB.mono (Nat.le_trans H6.out.1.size H8.out.1.size))
      obtain ⟨N2, hN2⟩ : ∃ N2 : Nat → Prop, N2 = fun i => ((False ∨ M1 i) ∨ M5 i) ∨ (w3.heap.size ≤ i ∧ i < wr.heap.size) := ⟨_, rfl⟩
      have hk2 := (H3.out.2.2.2.2.1.belowN (N' := N2) hb38 (fun i hi => by rw [hN2] at hi; exact hi)).drew9
      have hT5 := (H3.out.2.2.2.2.2.1.below hb38).below ((Below.refl _ _).drew (B := wr.heap.size))
      have hln := noteAll_len (noteAll ([], false, 0) (insTo (empties 1) (dep 1 - 1))) (insTo (empties 5) (dep 5 - 1))
      have hln1 := noteAll_len ([], false, 0) (insTo (empties 1) (dep 1 - 1))
      have hil := insTo_len (empties 1) (by decide) (dep 1 - 1)
      have hil5 := insTo_len (empties 5) (by decide) (dep 5 - 1)
      rw [empties_len, dep_one (by decide)] at hil
      rw [empties_len, dep_five] at hil5
      rw [dep_one (by decide), dep_five] at hln
      rw [dep_one (by decide)] at hln1
      rw [dep_one (by decide), dep_five] at hk2
      simp only [List.length_nil] at hln1
      have hlr := H6.out.2.2.2.1
      have hm5 : ∀ i, M5 i → i < w3.heap.size := fun i hi => by obtain ⟨_, _, _, _, h⟩ := H3.out.2.2.2.2.2.1; exact h.ltM i hi
      have hge : w3.heap.size ≤ w4.heap.size ∧ w4.heap.size < w6.heap.size ∧ w3.heap.size ≤ lr ∧ w6.heap.size ≤ wr.heap.size ∧ w6.heap.size ≤ w7.heap.size ∧ w7.heap.size < wr.heap.size := HG.out hB.size
      have hkeep : ∀ {b : Nat} {wx : World}, (b = w4.heap.size ∨ b = w7.heap.size ∨ b = lr) → ¬ (Tn w.heap.size bm wx N2 b ∨ M5 b) := fun {b wx} hb e => by
        have h3 : w3.heap.size ≤ b ∧ b < wr.heap.size := by rcases hb with rfl | rfl | rfl <;> omega
        rcases e with e | e
        · exact e.2.1 (by rw [hN2]; exact .inr h3)
        · have := hm5 b e; omega
      have hDi0 : (Try.prog.info? 38).map (·.size) = some D0.length := by rw [HD.out.2.1]; exact info32b
      have hDiL : (Try.prog.info? 38).map (·.size) = some DL.length := by rw [← H6.out.2.2.2.2.1, cbs_length, dlen]; exact info32b
      have Q0 : wr.drew.rangeAt w4.heap.size 0 D0 ∧ wr.drew.rangeAt w7.heap.size 0 D0 ∧ wr.drew.rangeAt lr 32 DL := ⟨(H6.out.2.1.below (H8.out.1.trans (hB.mono H8.out.1.size)) H6.out.2.1.lt).range, (H8.out.2.below hB H8.out.2.lt).range, show wr.rangeAt lr 32 DL from range_below (H8.out.1.trans (hB.mono H8.out.1.size)) H6.out.2.2.1⟩
      have heq0 := fun w' => eq_same D0 [0] HD.out.1.symm w'
      have heqL := fun w' => eq_same DL (1 :: digest [0]) H6.out.2.2.2.2.1.symm w'
      rw [H6.out.2.2.2.2.1] at hof
      have Hof := Lib.hid hof
      have HF := Lib.hid (And.intro hT5 (And.intro hk2 (And.intro (show w.heap.size ≤ wr.drew.heap.size from Nat.le_trans H3.out.1.size hb38.size) (And.intro (show ∀ j, M5 j → N2 j from fun j hj => by rw [hN2]; exact .inl (.inr hj)) (And.intro (show (noteAll (noteAll ([], false, 0) (insTo (empties 1) (1 - 1))) (insTo (empties 5) (3 - 1))).1.length + 20000 < 1000000 by omega) (And.intro (show (noteAll (noteAll ([], false, 0) (insTo (empties 1) (1 - 1))) (insTo (empties 5) (3 - 1))).2.2 + 20000 < 1000000 by omega) (And.intro (@hkeep) hb38)))))))
      clear hM hB hcv hcvm hBv hof hb38 hN2 hk2 hT5 hln hln1 hil hil5 hlr hm5 hge hkeep
      go_wp2
      refine wp_region_held_drew (S := fun W' => W'.rangeAt w4.heap.size 0 D0 ∧ W'.rangeAt w7.heap.size 0 D0 ∧ W'.rangeAt lr 32 DL) (by kernel_rfl) Q0 (fun _ => ?_)
      refine anyH_take (i := 0) (d := 68) (v := ?v0) rfl rfl (by kernel_rfl) (by kernel_rfl) (by kernel_rfl) (fun _ _ _ h => h) (Or.inl ⟨by rfl, ?vy0⟩) Q0 ?vr0
      case vy0 => (intro w; go_simp; try with_reducible rfl)
      simp only [List.setIfInBounds_toArray, List.set_cons_zero, List.set_cons_succ]
      refine anyH_take (i := 1) (d := 69) (v := ?v1) rfl rfl (by kernel_rfl) (by kernel_rfl) (by kernel_rfl) (fun _ _ _ h => h) (Or.inl ⟨by rfl, ?vy1⟩) Q0 ?vr1
      case vy1 => (intro w; go_simp; try with_reducible rfl)
      simp only [List.setIfInBounds_toArray, List.set_cons_zero, List.set_cons_succ]
      refine anyH_take (i := 2) (d := 70) (v := ?v2) rfl rfl (by kernel_rfl) (by kernel_rfl) (by kernel_rfl) (fun _ _ _ h => h) (Or.inl ⟨by rfl, ?vy2⟩) Q0 ?vr2
      case vy2 => (intro w; go_simp; try with_reducible rfl)
      simp only [List.setIfInBounds_toArray, List.set_cons_zero, List.set_cons_succ]
      refine anyH_load (i := 3) (d := 71) rfl rfl (by kernel_rfl) (by kernel_rfl) (by kernel_rfl) (by rfl) 38 _ rfl w4.heap.size 0 rfl D0 _ (fun _ h => h.1) Try.underlying38 rfl hDi0 (fun _ _ _ h => h) Q0 ?_
      simp only [List.setIfInBounds_toArray, List.set_cons_zero, List.set_cons_succ]
      refine anyH_load (i := 4) (d := 72) rfl rfl (by kernel_rfl) (by kernel_rfl) (by kernel_rfl) (by rfl) 38 _ rfl w7.heap.size 0 rfl D0 _ (fun _ h => h.2.1) Try.underlying38 rfl hDi0 (fun _ _ _ h => h) Q0 ?_
      simp only [List.setIfInBounds_toArray, List.set_cons_zero, List.set_cons_succ]
      refine anyH_take (i := 5) (d := 73) (v := ?v5) rfl rfl (by kernel_rfl) (by kernel_rfl) (by kernel_rfl) (fun _ _ _ h => h) (Or.inl ⟨by rfl, ?vy5⟩) Q0 ?vr5
      case vy5 => (intro w; go_simp; try with_reducible rfl)
      simp only [List.setIfInBounds_toArray, List.set_cons_zero, List.set_cons_succ]
      refine anyH_take (i := 6) (d := 74) (v := ?v6) rfl rfl (by kernel_rfl) (by kernel_rfl) (by kernel_rfl) (fun _ _ _ h => h) (Or.inl ⟨by rfl, ?vy6⟩) Q0 ?vr6
      case vy6 => (intro w; go_simp; try with_reducible rfl)
      simp only [List.setIfInBounds_toArray, List.set_cons_zero, List.set_cons_succ]
      refine anyH_take (i := 7) (d := 75) (v := ?v7) rfl rfl (by kernel_rfl) (by kernel_rfl) (by kernel_rfl) (fun _ _ _ h => h) (Or.inl ⟨by rfl, ?vy7⟩) Q0 ?vr7
      case vy7 => (intro w; go_simp; try with_reducible rfl)
      simp only [List.setIfInBounds_toArray, List.set_cons_zero, List.set_cons_succ]
      refine anyH_take (i := 8) (d := 76) (v := ?v8) rfl rfl (by kernel_rfl) (by kernel_rfl) (by kernel_rfl) (fun _ _ _ h => h) (Or.inl ⟨by rfl, ?vy8⟩) Q0 ?vr8
      case vy8 => (intro w; go_simp; try with_reducible rfl)
      simp only [List.setIfInBounds_toArray, List.set_cons_zero, List.set_cons_succ]
      refine anyH_take (i := 9) (d := 77) (v := ?v9) rfl rfl (by kernel_rfl) (by kernel_rfl) (by kernel_rfl) (fun _ _ _ h => h) (Or.inl ⟨by rfl, ?vy9⟩) Q0 ?vr9
      case vy9 => (intro w; go_simp; try with_reducible rfl)
      simp only [List.setIfInBounds_toArray, List.set_cons_zero, List.set_cons_succ]
      refine anyH_take (i := 10) (d := 78) (v := ?v10) rfl rfl (by kernel_rfl) (by kernel_rfl) (by kernel_rfl) (fun _ _ _ h => h) (Or.inl ⟨by rfl, ?vy10⟩) Q0 ?vr10
      case vy10 => (intro w; go_simp; try with_reducible rfl)
      simp only [List.setIfInBounds_toArray, List.set_cons_zero, List.set_cons_succ]
      refine anyH_take (i := 11) (d := 79) (v := ?v11) rfl rfl (by kernel_rfl) (by kernel_rfl) (by kernel_rfl) (fun _ _ _ h => h) (Or.inl ⟨by rfl, ?vy11⟩) Q0 ?vr11
      case vy11 => (intro w; go_simp; try with_reducible rfl)
      simp only [List.setIfInBounds_toArray, List.set_cons_zero, List.set_cons_succ]
      refine anyH_take (i := 12) (d := 80) (v := ?v12) rfl rfl (by kernel_rfl) (by kernel_rfl) (by kernel_rfl) (fun _ _ _ h => h) (Or.inl ⟨by rfl, ?vy12⟩) Q0 ?vr12
      case vy12 => (intro w; go_simp; try with_reducible rfl)
      simp only [List.setIfInBounds_toArray, List.set_cons_zero, List.set_cons_succ]
      refine anyH_take (i := 13) (d := 81) (v := ?v13) rfl rfl (by kernel_rfl) (by kernel_rfl) (by kernel_rfl) (fun _ _ _ h => h) (Or.inl ⟨by rfl, ?vy13⟩) Q0 ?vr13
      case vy13 => (intro w; go_simp; try with_reducible rfl)
      simp only [List.setIfInBounds_toArray, List.set_cons_zero, List.set_cons_succ]
      refine anyH_take (i := 14) (d := 82) (v := ?v14) rfl rfl (by kernel_rfl) (by kernel_rfl) (by kernel_rfl) (fun _ _ _ h => h) (Or.inl ⟨by rfl, ?vy14⟩) Q0 ?vr14
      case vy14 => (intro w; go_simp; try with_reducible rfl)
      simp only [List.setIfInBounds_toArray, List.set_cons_zero, List.set_cons_succ]
      refine anyH_take (i := 15) (d := 83) (v := ?v15) rfl rfl (by kernel_rfl) (by kernel_rfl) (by kernel_rfl) (fun _ _ _ h => h) (Or.inl ⟨by rfl, ?vy15⟩) Q0 ?vr15
      case vy15 => (intro w; go_simp; try with_reducible rfl)
      simp only [List.setIfInBounds_toArray, List.set_cons_zero, List.set_cons_succ]
      refine anyH_take (i := 16) (d := 84) (v := ?v16) rfl rfl (by kernel_rfl) (by kernel_rfl) (by kernel_rfl) (fun _ _ _ h => h) (Or.inl ⟨by rfl, ?vy16⟩) Q0 ?vr16
      case vy16 => (intro w; go_simp; try with_reducible rfl)
      simp only [List.setIfInBounds_toArray, List.set_cons_zero, List.set_cons_succ]
      refine anyH_take (i := 17) (d := 85) (v := ?v17) rfl rfl (by kernel_rfl) (by kernel_rfl) (by kernel_rfl) (fun _ _ _ h => h) (Or.inl ⟨by rfl, ?vy17⟩) Q0 ?vr17
      case vy17 => (intro w; go_simp; try with_reducible rfl)
      simp only [List.setIfInBounds_toArray, List.set_cons_zero, List.set_cons_succ]
      refine anyH_take (i := 18) (d := 86) (v := ?v18) rfl rfl (by kernel_rfl) (by kernel_rfl) (by kernel_rfl) (fun _ _ _ h => h) (Or.inl ⟨by rfl, ?vy18⟩) Q0 ?vr18
      case vy18 => (intro w; go_simp; try with_reducible rfl)
      simp only [List.setIfInBounds_toArray, List.set_cons_zero, List.set_cons_succ]
      refine anyH_load (i := 19) (d := 87) rfl rfl (by kernel_rfl) (by kernel_rfl) (by kernel_rfl) (by rfl) 38 _ rfl lr 32 rfl DL _ (fun _ h => h.2.2) Try.underlying38 rfl hDiL (fun _ _ _ h => h) Q0 ?_
      simp only [List.setIfInBounds_toArray, List.set_cons_zero, List.set_cons_succ]
      refine anyH_take (i := 20) (d := 88) (v := ?v20) rfl rfl (by kernel_rfl) (by kernel_rfl) (by kernel_rfl) (fun _ _ _ h => h) (Or.inl ⟨by rfl, ?vy20⟩) Q0 ?vr20
      case vy20 => (intro w; go_simp; try with_reducible rfl)
      simp only [List.setIfInBounds_toArray, List.set_cons_zero, List.set_cons_succ]
      refine anyH_one (i := 21) (by kernel_rfl) ?_
      refine wpOp_step rfl (fun K hK => ?_)
      go_simp
      refine Hof.out.mono ?_
      rintro e wa ⟨rfl, hba⟩
      have c1 : wa.rangeAt w4.heap.size 0 D0 ∧ wa.rangeAt w7.heap.size 0 D0 ∧ wa.rangeAt lr 32 DL := ⟨range_below hba Q0.1, range_below hba Q0.2.1, range_below hba Q0.2.2⟩
      have hbb : Below wa.heap.size wa (wa.alloc (Obj.cells #[Value.int .u8 7] 5)) := (Below.refl _ _).alloc (Nat.le_refl _) _
      have c2 : (wa.alloc (Obj.cells #[Value.int .u8 7] 5)).rangeAt w4.heap.size 0 D0 ∧ (wa.alloc (Obj.cells #[Value.int .u8 7] 5)).rangeAt w7.heap.size 0 D0 ∧ (wa.alloc (Obj.cells #[Value.int .u8 7] 5)).rangeAt lr 32 DL := ⟨range_below hbb c1.1, range_below hbb c1.2.1, range_below hbb c1.2.2⟩
      have hbc := hba.trans (hbb.mono hba.size)
      have hset := tset_any w.heap.size bm _ N2 (HF.out.1.below hbc) (HF.out.2.1.below hbc) (Nat.le_trans HF.out.2.2.1 hbc.size) HF.out.2.2.2.1 HF.out.2.2.2.2.1 HF.out.2.2.2.2.2.1 4 (by rw [lows_len, empties_len]; decide) (some ⟨wa.heap.size, 0, none⟩) 1 1 [7] (Bs.made wa _ _ _ [7] rfl) rfl (Nat.le_refl _) (by decide) (by decide)
      have Hset := Lib.hid hset
      have Hbc := Lib.hid hbc
      clear hset hba hbb hbc
      refine hK _ _ ⟨c1, ?_⟩
      clear hK K
      refine anyH_take (i := 22) (d := 90) (v := ?v22) rfl rfl (by kernel_rfl) (by kernel_rfl) (by kernel_rfl) (fun _ _ _ h => h) (Or.inl ⟨by rfl, ?vy22⟩) c1 ?vr22
      case vy22 => (intro w; go_simp; try with_reducible rfl)
      simp only [List.setIfInBounds_toArray, List.set_cons_zero, List.set_cons_succ]
      refine anyH_take (i := 23) (d := 91) (v := ?v23) rfl rfl (by kernel_rfl) (by kernel_rfl) (by kernel_rfl) (fun _ _ _ h => h) (Or.inl ⟨by rfl, ?vy23⟩) c1 ?vr23
      case vy23 => (intro w; go_simp; try with_reducible rfl)
      simp only [List.setIfInBounds_toArray, List.set_cons_zero, List.set_cons_succ]
      refine anyH_take (i := 24) (d := 92) (v := ?v24) rfl rfl (by kernel_rfl) (by kernel_rfl) (by kernel_rfl) (fun _ _ _ h => h) (Or.inl ⟨by rfl, ?vy24⟩) c1 ?vr24
      case vy24 => (intro w; go_simp; try with_reducible rfl)
      simp only [List.setIfInBounds_toArray, List.set_cons_zero, List.set_cons_succ]
      refine anyH_take (i := 25) (d := 93) (v := ?v25) rfl rfl (by kernel_rfl) (by kernel_rfl) (by kernel_rfl) (fun _ _ _ h => h) (Or.inl ⟨by rfl, ?vy25⟩) c1 ?vr25
      case vy25 => (intro w; go_simp; try with_reducible rfl)
      simp only [List.setIfInBounds_toArray, List.set_cons_zero, List.set_cons_succ]
      refine anyH_one (i := 26) (by kernel_rfl) ?_
      refine wpOp_step rfl (fun K hK => ?_)
      go_simp
      refine hK _ _ ⟨c2, ?_⟩
      clear hK K
      refine anyH_one (i := 27) (by kernel_rfl) ?_
      refine wpOp_step rfl (fun K hK => ?_)
      go_simp
      refine Hset.out.mono ?_
      rintro e wb ⟨rfl, hT10, hK10, hO10⟩
      have c3 : wb.rangeAt w4.heap.size 0 D0 ∧ wb.rangeAt w7.heap.size 0 D0 ∧ wb.rangeAt lr 32 DL := ⟨range_out hO10 (HF.out.2.2.2.2.2.2.1 (.inl rfl)) c2.1, range_out hO10 (HF.out.2.2.2.2.2.2.1 (.inr (.inl rfl))) c2.2.1, range_out hO10 (HF.out.2.2.2.2.2.2.1 (.inr (.inr rfl))) c2.2.2⟩
      have H10 := Lib.hid hO10
      clear hT10 hK10 hO10
      refine hK _ _ ⟨c3, ?_⟩
      clear hK K
      refine anyH_take (i := 28) (d := 96) (v := ?v28) rfl rfl (by kernel_rfl) (by kernel_rfl) (by kernel_rfl) (fun _ _ _ h => h) (Or.inl ⟨by rfl, ?vy28⟩) c3 ?vr28
      case vy28 => (intro w; go_simp; try with_reducible rfl)
      simp only [List.setIfInBounds_toArray, List.set_cons_zero, List.set_cons_succ]
      refine anyH_take (i := 29) (d := 97) (v := ?v29) rfl rfl (by kernel_rfl) (by kernel_rfl) (by kernel_rfl) (fun _ _ _ h => h) (Or.inl ⟨by rfl, ?vy29⟩) c3 ?vr29
      case vy29 => (intro w; go_simp; try with_reducible rfl)
      simp only [List.setIfInBounds_toArray, List.set_cons_zero, List.set_cons_succ]
      refine anyH_take (i := 30) (d := 0) (v := ?v30) rfl rfl (by kernel_rfl) (by kernel_rfl) (by kernel_rfl) (fun _ _ _ h => h) (Or.inl ⟨by rfl, ?vy30⟩) c3 ?vr30
      case vy30 => (intro w; go_simp; try with_reducible rfl)
      simp only [List.setIfInBounds_toArray, List.set_cons_zero, List.set_cons_succ]
      refine wpAnyH_done (by kernel_rfl) ?_ _

      go_wp2
      go_ret
      have q1 : Below w.heap.size w wr := H3.out.1.trans (HF.out.2.2.2.2.2.2.2.mono H3.out.1.size)
      have q2 : Below w.heap.size w (wa.alloc (Obj.cells #[Value.int .u8 7] 5)) := q1.drew.trans (Hbc.out.mono q1.size)
      exact ⟨rfl, q2.trans (H10.out.above (fun i hi => by
        rcases hi with hi | hi
        · exact hi.1
        · exact Nat.le_trans H2.out.2.2.size (H3.out.2.2.1 i hi)) q2.size)⟩
end Go.Proofs.Ytbdocaohnigekaa

namespace Go.Proofs.Ytbdocaohnigekaa
open Go.RowKit
set_option linter.unusedVariables false

def SomeNat (n : Int) (w : World) (e : Ending) (w' : World) : Prop := ∃ r : Nat, (r : Int) < n ∧ e = .returned (.int .i64 (r : Int)) ∧ w = w'
theorem SomeNat.mk {n : Int} {w w' : World} {x : Int} (h0 : 0 ≤ x) (h : x < n) (hw : w = w') : SomeNat n w (.returned (.int .i64 x)) w' :=
  ⟨x.toNat, by omega, by rw [Int.toNat_of_nonneg h0], hw⟩

set_option maxHeartbeats 400000 in
theorem bring_any (i n : Int) (w : World) (h : 0 < n) (hn : n ≤ 9223372036854775807) (hi0 : -9223372036854775808 ≤ i) (hi1 : i ≤ 9223372036854775807) :
    Calls Try.prog 15 #[.int .i64 i, .int .i64 n] w (SomeNat n w) := by
  have hz : (n == 0) = false := by simp; omega
  by_cases h0 : 0 ≤ i
  · have hm0 := Int.emod_nonneg i (by omega : n ≠ 0)
    have hm1 := Int.emod_lt_of_pos i h
    go_enter Try.func15, Try.ntmps15
    go_wp2
    go_ret
    exact SomeNat.mk hm0 hm1 rfl
  · have ht : i.tmod n = -((-i) % n) := by
      have e1 : (-i).tmod n = -(i.tmod n) := Int.neg_tmod i n
      have e2 : (-i).tmod n = (-i) % n := Int.tmod_eq_emod_of_nonneg (by omega)
      omega
    have hm0 := Int.emod_nonneg (-i) (by omega : n ≠ 0)
    have hm1 := Int.emod_lt_of_pos (-i) h
    have hl0 : i.tmod n ≤ 0 := by omega
    have hl1 : -n < i.tmod n := by omega
    clear hm0 hm1 ht
    by_cases hs : i.tmod n < 0
    · go_enter Try.func15, Try.ntmps15
      go_wp2
      go_ret
      exact SomeNat.mk (by omega) (by omega) rfl
    · go_enter Try.func15, Try.ntmps15
      go_wp2
      go_ret
      exact SomeNat.mk (by omega) (by omega) rfl
end Go.Proofs.Ytbdocaohnigekaa

namespace Go.Proofs.Ytbdocaohnigekaa
open Go.RowKit Go.Maps
set_option linter.unusedVariables false

theorem load_mid_g {P : Program} {ops : Array Oper} {rest : List Oper} {o : Oper} {a : Act} {w : World} {Q : Exit → Act → World → Prop} (hw : Region.wanted o (yielded ops a.tmps) = true) (ty : TypeId) (x : Operand) (ho : o.op = .load ty x)
    (b k : Nat) (hx : a.eval x = .pointer (some ⟨b, k, none⟩)) (cs : List Value) (d : TypeDesc) (hc : w.rangeAt b k cs)
    (hu : P.underlying ty = some d) (hd : d.isRow = true) (hi : (P.info? ty).map (·.size) = some cs.length)
    (h : wpList P ops Q rest (a.put o.dst (.agg cs.toArray)) w) : wpList P ops Q (o :: rest) a w :=
  wpList_step fun K hK => by rw [if_pos hw]; exact wp_load_mid ty x ho b k hx cs d hc hu hd hi (hK _ _ h)
theorem eq_self (D : List Value) (l : List UInt8) (h : cbs l = D) (hl : l.length = 32) (w : World) : (Op.equalIn 10000 38 (.agg D.toArray) (.agg D.toArray)).run Try.prog w = .ok true w := by
  subst h
  have := eq_digests w l l hl hl
  rw [this]; simp
theorem kb_len {B g m : Nat} {w : World} {s : Bk} {N : Nat → Prop} (h : Kb B w g m s N) : Calls Try.prog 25 #[.pointer (some ⟨g, 0, none⟩)] w fun e w' => e = .returned (.int .i64 (s.1.length : Int)) ∧ w' = w := by
  obtain ⟨S, h, _⟩ := h
  exact blen_any g m _ _ _ w h.1
theorem kb_clash {B g m : Nat} {w : World} {s : Bk} {N : Nat → Prop} (h : Kb B w g m s N) : Calls Try.prog 19 #[.pointer (some ⟨g, 0, none⟩)] w fun e w' => e = .returned (.bool s.2.1) ∧ w' = w := by
  obtain ⟨S, h, _⟩ := h
  exact bclash_any g m _ _ _ w h.1

set_option maxRecDepth 100000 in
set_option maxHeartbeats 800000 in
theorem hroot_any {w : World} {M : Nat → Prop} {t g : Nat} {low : List Dg} (h : TreeAt w M t g low) : Calls Try.prog 16 #[.pointer (some ⟨t, 0, none⟩)] w fun e w' => e = .returned (.tuple #[.agg (cbs (rootD low)).toArray, .bool true]) ∧ Below w.heap.size w w' := by
  have hrl : (rootD low).length = 32 := by obtain ⟨_, _, _, _, hs⟩ := h; exact root_len hs.l1 hs.all
  obtain ⟨D, hD⟩ : ∃ D, cbs (rootD low) = D := ⟨_, rfl⟩
  have hD32 : D.length = 32 := by rw [← hD, cbs_length, hrl]
  have hD1 : D.toArray.all (·.oneCell') = true := by rw [← hD]; exact cbs_one' _
  have hb0 : Below w.heap.size w (w.alloc (.cells (cbs (List.replicate 32 0)).toArray 38)) := (Below.refl _ _).alloc (Nat.le_refl _) _
  have hZ : Blk (w.alloc (.cells (cbs (List.replicate 32 0)).toArray 38)) w.heap.size 38 (cbs (List.replicate 32 0)) := Blk.new rfl rfl
  have hr := troot_at (h.below hb0)
  rw [hD] at hr ⊢
  have Hr := Lib.hid hr
  have H := Lib.hid (And.intro hD32 (And.intro hD1 (And.intro hb0 hZ)))
  clear hr hD32 hD1 hb0 hZ hD hrl h
  go_enter Try.func16, Try.ntmps16
  go_wp2_with fail
  refine Hr.out.mono ?_
  rintro e w1 ⟨rfl, hb1⟩
  obtain ⟨hD32, hD1, hb0, hZ⟩ := H.out
  obtain ⟨wS, hwS, ⟨hth, hi⟩, hbS, hbel, hsz⟩ := dig_local w1 D hD32
  have hbS0 : Below w.heap.size w wS := (hb0.trans (hb1.mono (by simp))).trans (hbel.mono (Nat.le_trans hb0.size hb1.size))
  have hZS : Blk wS w.heap.size 38 (cbs (List.replicate 32 0)) := (hZ.below hb1 (by simp)).below hbel (by have := hb1.size; simp at this; omega)
  have hsD : D.toArray.size = 32 := by rw [List.size_toArray]; exact hD32
  have hth2 : wS.there w.heap.size 0 D.toArray.size := by
    have e := hZS.there
    rw [cbs_length, List.length_replicate] at e
    rw [hsD]; exact e
  have hi' : (Try.prog.info? 38).map (·.size) = some D.length := by rw [hD32]; exact info32b
  have hR := hZS.setAll (vs := D) (by rw [hD32, cbs_length, List.length_replicate])
  have HwS := Lib.hid hwS
  have Hs := Lib.hid (And.intro hth (And.intro hi (And.intro hD1 (And.intro hbS.range (And.intro hi' hth2)))))
  have H2 := Lib.hid (And.intro hR (Below.setCells (Nat.le_refl _) D hbS0 (o := 0)))
  clear hD32 hD1 hb0 hZ hb1 hwS hth hi hbS hbel hsz hbS0 hZS hsD hth2 hi' hR
  go_wp2_with (first
    | (refine wpList_store_mid rfl 38 _ _ rfl w1.heap.size 0 D.toArray rfl rfl Hs.out.1 Hs.out.2.1 Hs.out.2.2.1 ?_; simp only [Act.put]; refine cast (congrArg (fun z => wpList _ _ _ _ _ z) HwS.out.symm) ?_)
    | (refine wpList_load_mid rfl 38 _ rfl w1.heap.size 0 rfl D _ Hs.out.2.2.2.1 Try.underlying38 rfl Hs.out.2.2.2.2.1 ?_; simp only [Act.put])
    | (refine wpList_store_mid rfl 38 _ _ rfl w.heap.size 0 D.toArray rfl rfl Hs.out.2.2.2.2.2 Hs.out.2.1 Hs.out.2.2.1 ?_; simp only [Act.put]))
  refine bodyPost_ret (results_row_tmp rfl _ _ w.heap.size 38 D.toArray (0, 0) _ rfl H2.out.1 Try.underlying38 rfl Hs.out.2.1) rfl ?_
  exact ⟨rfl, H2.out.2⟩

set_option maxRecDepth 100000 in
set_option maxHeartbeats 800000 in
theorem tset_off {w : World} {M : Nat → Prop} {t g : Nat} {low : List Dg} (h : TreeAt w M t g low) (i : Int) (hi : i < 0 ∨ (low.length : Int) ≤ i) (A : Option Addr) (n c : Nat) :
    Calls Try.prog 14 #[.pointer (some ⟨t, 0, none⟩), .int .i64 i, .slice A n c] w fun e w' => e = .returned (.int .i64 9) ∧ w' = w := by
  obtain ⟨L, R, lv, cc, hT⟩ := h
  have hd1 := dep_pos low.length
  have hb := hT.blk
  have c1 : w.cell? ⟨t, 1, none⟩ = some (.int .i64 (low.length : Int)) := hb.cell rfl
  have Hno := Lib.hid (tnone_no t g low.length lv _ cc w hb hd1)
  clear hb hT hd1
  by_cases h0 : i < 0
  · go_enter Try.func14, Try.ntmps14
    go_wp2_with (go_at_call 31; refine Hno.out.mono ?_; rintro e w ⟨rfl, rfl⟩)
    go_ret
    exact ⟨rfl, rfl⟩
  · have h1 : i ≥ (low.length : Int) := by omega
    have h2 : (low.length : Int) ≤ i := by omega
    go_enter Try.func14, Try.ntmps14
    go_wp2_with (go_at_call 31; refine Hno.out.mono ?_; rintro e w ⟨rfl, rfl⟩)
    go_ret
    exact ⟨rfl, rfl⟩

theorem new_bound (many : Nat) (h1 : 1 ≤ many) (h2 : many ≤ 1024) (s : Bk) : (noteAll s (insTo (empties many) (dep many - 1))).1.length ≤ s.1.length + 6144 ∧ (noteAll s (insTo (empties many) (dep many - 1))).2.2 ≤ s.2.2 + 6144 := by
  have h3 := noteAll_len s (insTo (empties many) (dep many - 1))
  have h4 := insTo_len (empties many) (by rw [empties_len]; exact h1) (dep many - 1)
  have h5 := dep_le h2
  have h6 := dep_pos many
  rw [empties_len] at h4
  have : many * (dep many - 1 + 1) ≤ 1024 * 6 := Nat.mul_le_mul h2 (by omega)
  omega
end Go.Proofs.Ytbdocaohnigekaa

namespace Go.Proofs.Ytbdocaohnigekaa
open Go.ChangeShapes Go.WideShapes Go.ChangeAt Go.RowKit
set_option linter.unusedVariables false

abbrev Wf9 (x : Int) : Prop := (Lit.int .i64 x).wf = true
structure SetL where
  at_ : Int
  leaf : List UInt8
/-- The setting 'x' stands at 'p, o'. -/
def SetAt (w : World) (p o : Nat) (x : SetL) : Prop := Wf9 x.at_ ∧ w.cell? ⟨p, o, none⟩ = some (.int .i64 x.at_) ∧
  ∃ AB cB, w.cell? ⟨p, o + 1, none⟩ = some (.slice AB x.leaf.length cB) ∧ x.leaf.length ≤ cB ∧ cB ≤ maxLen ∧ Bs w AB x.leaf
def Setss (w : World) (A : Option Addr) (l : List SetL) : Prop := l ≠ [] → ∃ b off, A = some ⟨b, off, none⟩ ∧ b < w.heap.size ∧ ∀ j (hj : j < l.length), SetAt w b (off + j * 2) l[j]
theorem SetAt.after {w w' : World} {p o : Nat} {x : SetL} (h : SetAt w p o x) (hb : Below w.heap.size w w') (hlt : p < w.heap.size) : SetAt w' p o x := by
  obtain ⟨h0, h1, AB, cB, h2, h3, h4, h5⟩ := h
  exact ⟨h0, (hb.cell hlt).trans h1, AB, cB, (hb.cell hlt).trans h2, h3, h4, h5.after hb⟩
def ArgT (w : World) (A : Option Addr) (n c : Nat) (l : List SetL) : Prop := l.length = n ∧ n ≤ c ∧ c ≤ maxLen ∧ Setss w A l
theorem ArgT.after {w w' : World} {A : Option Addr} {n c : Nat} {l : List SetL} (h : ArgT w A n c l) (hb : Below w.heap.size w w') : ArgT w' A n c l :=
  ⟨h.1, h.2.1, h.2.2.1, fun hn => let ⟨b, off, e, hlt, hd⟩ := h.2.2.2 hn; ⟨b, off, e, Nat.lt_of_lt_of_le hlt hb.size, fun j hj => (hd j hj).after hb hlt⟩⟩
theorem ArgT.at_ {w : World} {A : Option Addr} {n c : Nat} {l : List SetL} (h : ArgT w A n c l) {j : Nat} (hj : j < l.length) : ∃ b off, A = some ⟨b, off, none⟩ ∧ b < w.heap.size ∧ SetAt w b (off + j * 2) l[j] := by
  obtain ⟨b, off, e, hlt, hd⟩ := h.2.2.2 (fun e => by rw [e] at hj; simp at hj)
  exact ⟨b, off, e, hlt, hd j hj⟩

/-- What 'x[:min(len(x), K)]' leaves of a slice that shows bytes. -/
theorem cutF {w : World} {A : Option Addr} {c : Nat} {l : List UInt8} (N : Nat) (K : Int) (hK : K = (N : Int)) (h2 : l.length ≤ c) (h3 : c ≤ maxLen) (h4 : Bs w A l) : ∃ m x, x.length = m ∧ m ≤ N ∧ m ≤ c ∧ Bs w A x ∧
    (∀ ts t w, (Builtin.min_ ts t #[.int .i64 (l.length : Int), .int .i64 K]).run Try.prog w = .ok (.int .i64 (m : Int)) w) ∧
    (∀ w, (Instr.sliceAt 34 (.slice A l.length c) none (some (.int .i64 (m : Int))) none).run Try.prog w = .ok (.slice A m c) w) := by
  subst hK
  refine ⟨min l.length N, l.take (min l.length N), by rw [List.length_take]; omega, by omega, by omega, h4.front (by omega), fun ts t w => ?_, fun w => ?_⟩
  · rw [run_min_int2]
    congr 2
    split <;> omega
  · have h1 : ((min l.length N : Nat) : Int) ≤ c := by omega
    generalize min l.length N = m at *
    go_simp

theorem choose_any {α : Type} {P : Nat → α → Prop} : ∀ n, (∀ r, r < n → ∃ l, P r l) → ∃ ls : List α, ls.length = n ∧ ∀ j (hj : j < ls.length), P j ls[j]
  | 0, _ => ⟨[], rfl, fun j hj => by simp at hj⟩
  | n + 1, h => by
    obtain ⟨ls, hl, hls⟩ := choose_any n (fun r hr => h r (by omega))
    obtain ⟨l, hl'⟩ := h n (by omega)
    refine ⟨ls ++ [l], by simp [hl], fun j hj => ?_⟩
    by_cases hjn : j < ls.length
    · rw [List.getElem_append_left hjn]; exact hls j hjn
    · have : j = n := by simp at hj; omega
      subst this
      rw [List.getElem_append_right (by omega)]
      simpa [hl] using hl'
theorem one_of {cs : List Value} {i : Nat} {v : Value} (h : (cs.drop i).take 1 = [v]) : cs[i]? = some v := by
  have : ((cs.drop i).take 1)[0]? = some v := by rw [h]; rfl
  rw [List.getElem?_take, if_pos (by omega), List.getElem?_drop] at this
  simpa using this

section
variable {H : Type} {enc : TypeId × Value → H} {w : World}
theorem spot_of {a : Addr} {v : Value} (h : w.cell? (a.add 0) = some v) : a.spot = none := by
  have := World.cell?_spot h
  unfold Addr.add at this
  simpa using this
theorem trodB {fuel : Nat} {cs : List Value} {x : DataW H × List MemPlace} (h : DataW.trod enc Try.prog w 0 (fun _ => true) true fuel 34 cs = some x) : ∃ (A : Option Addr) (c : Nat) (l : List UInt8), cs = [.slice A l.length c] ∧ l.length ≤ c ∧ c ≤ maxLen ∧ Bs w A l := by
  rcases open_ints Try.underlying34 Try.underlying5 (by kernel_rfl) h with ⟨rfl, _⟩ | ⟨a, n, c, zs, rfl, _, hl, hm, hz, hx, hcell, hw⟩
  · exact ⟨none, 0, [], rfl, Nat.le_refl _, by simp [maxLen], Bs.nil _ _⟩
  · simp only [if_true] at hz
    obtain ⟨l, hl1, hl2⟩ := row_bytes (w := w) (Ar := some a) (Lr := n) (Cr := c) (Zr := zs) hl hz hw (fun a' e k hk => by cases e; exact hcell k (by rw [hz]; exact hk)) (fun e => by cases e)
    exact ⟨some a, c, l, by rw [hl1], by omega, hm, hl2⟩
theorem trod_set {fuel : Nat} {cs : List Value} {x : DataW H × List MemPlace} (h : DataW.trod enc Try.prog w 0 (fun _ => true) true fuel 36 cs = some x) :
    ∃ d : SetL, Wf9 d.at_ ∧ cs[0]? = some (.int .i64 d.at_) ∧ ∃ AB cB, cs[1]? = some (.slice AB d.leaf.length cB) ∧ d.leaf.length ≤ cB ∧ cB ≤ maxLen ∧ Bs w AB d.leaf := by
  obtain ⟨xs, n, _, _, _, hlen, hg⟩ := DataW.trod_struct Try.underlying36 h
  have c1 : Try.prog.cellsOf 3 = 1 := by kernel_rfl
  have c2 : Try.prog.cellsOf 34 = 1 := by kernel_rfl
  have g0 : DataW.trod enc Try.prog w 0 (fun _ => true) true n 3 ((cs.drop 0).take (Try.prog.cellsOf 3)) = xs[0]? := hg 0 _ rfl
  have g1 : DataW.trod enc Try.prog w 0 (fun _ => true) true n 34 ((cs.drop 1).take (Try.prog.cellsOf 34)) = xs[1]? := hg 1 _ rfl
  rw [c1] at g0
  rw [c2] at g1
  have hl2 : xs.length = 2 := hlen
  have e : ∀ i, i < 2 → ∃ y, xs[i]? = some y := fun i hi => ⟨_, List.getElem?_eq_getElem (by omega)⟩
  obtain ⟨y0, e0⟩ := e 0 (by omega)
  obtain ⟨y1, e1⟩ := e 1 (by omega)
  rw [e0] at g0; rw [e1] at g1
  obtain ⟨a0, q0, _, w0⟩ := DataW.trod_int Try.underlying3 g0
  obtain ⟨AB, cB, b, q1, hb1, hb2, hb3⟩ := trodB g1
  exact ⟨⟨a0, b⟩, w0, one_of q0, AB, cB, one_of q1, hb1, hb2, hb3⟩
theorem openT {A : Option Addr} {n c : Nat} {d : DataW H} {p : List MemPlace} (h : DataW.Trod enc Try.prog w 0 (fun _ => true) true 23 (.slice A n c) d p) : ∃ l, ArgT w A n c l := by
  obtain ⟨fuel, hf⟩ := h
  have hC : Try.prog.cellsOf 36 = 2 := by kernel_rfl
  rcases Go.Deep.open_slice Try.underlying23 hf with ⟨hcs, _⟩ | ⟨a, len, cap, m, k, D, Pl, hcs, _, hl, hm, hmm, _, hi⟩
  · simp [Value.cells] at hcs
    obtain ⟨rfl, rfl, rfl⟩ := hcs
    exact ⟨[], rfl, Nat.le_refl _, by simp [maxLen], fun hn => absurd rfl hn⟩
  · simp [Value.cells] at hcs
    obtain ⟨rfl, rfl, rfl⟩ := hcs
    rw [hC] at hi
    have hm' : n ≤ m := by rw [hmm]; simp; omega
    rcases Nat.eq_zero_or_pos n with h0 | hpos
    · subst h0
      exact ⟨[], rfl, hl, hm, fun hn => absurd rfl hn⟩
    have hs : a.spot = none := by
      obtain ⟨cs', hc, ht⟩ := hi 0 (by omega)
      obtain ⟨x, _, k0, _⟩ := trod_set ht
      obtain ⟨_, _, hat⟩ := World.cells?_some hc
      have h1 := hat 0 (by omega)
      rw [k0] at h1
      have e : a.add (0 * 2) = a := by unfold Addr.add; simp
      rw [e] at h1
      exact spot_of h1
    obtain ⟨b, off, spot⟩ := a
    simp only at hs
    subst hs
    have key : ∀ r, r < n → ∃ x : SetL, SetAt w b (off + r * 2) x := fun r hr => by
      obtain ⟨cs', hc, ht⟩ := hi r (by omega)
      obtain ⟨x, h0, k0, AB, cB, k1, r1, r2, r3⟩ := trod_set ht
      obtain ⟨_, _, hat⟩ := World.cells?_some hc
      have hat' : ∀ j, j < 2 → w.cell? ⟨b, off + r * 2 + j, none⟩ = cs'[j]? := fun j hj => by
        have := hat j hj
        rw [add_mk, add_mk] at this
        exact this
      exact ⟨x, h0, (hat' 0 (by omega)).trans k0, AB, cB, (hat' 1 (by omega)).trans k1, r1, r2, r3⟩
    obtain ⟨ls, hlen, hls⟩ := choose_any n key
    refine ⟨ls, hlen, hl, hm, fun hne => ⟨b, off, rfl, ?_, fun j hj => hls j hj⟩⟩
    have h0 := hls 0 (by omega)
    exact World.block_lt_of_cell? w _ h0.2.1
end
end Go.Proofs.Ytbdocaohnigekaa

namespace Go.Proofs.Ytbdocaohnigekaa
open Go.ChangeShapes Go.WideShapes Go.ChangeAt Go.RowKit
set_option linter.unusedVariables false

def ArgG (w : World) (A : Option Addr) (n c : Nat) (ds : List Dg) : Prop := ds.length = n ∧ n ≤ c ∧ c ≤ maxLen ∧ All32 ds ∧ Ds w A ds

section
variable {H : Type} {enc : TypeId × Value → H} {w : World}
theorem trod_dg {fuel : Nat} {cs : List Value} {x : DataW H × List MemPlace} (h : DataW.trod enc Try.prog w 0 (fun _ => true) true fuel 38 cs = some x) : ∃ d : Dg, d.length = 32 ∧ ∀ i, i < 32 → cs[i]? = (cbs d)[i]? := by
  obtain ⟨ys, m, _, _, _, hlen, hel⟩ := DataW.trod_array Try.underlying38 h
  have hc : Try.prog.cellsOf 5 = 1 := by kernel_rfl
  have key : ∀ i, i < 32 → ∃ b : UInt8, cs[i]? = some (cb b) := fun i hi => by
    have h1 := hel i hi
    have hy : ∃ y, ys[i]? = some y := ⟨_, List.getElem?_eq_getElem (by omega)⟩
    obtain ⟨y, hy⟩ := hy
    rw [hc, hy, Nat.mul_one] at h1
    obtain ⟨a, ea, _, wa⟩ := DataW.trod_int Try.underlying5 h1
    refine ⟨UInt8.ofNat a.toNat, (one_of ea).trans ?_⟩
    show some (Value.int .u8 a) = some (Value.int .u8 (((UInt8.ofNat a.toNat).toNat : Nat) : Int))
    rw [← wf_u8 wa]
  obtain ⟨d, hd, hds⟩ := choose_any 32 key
  refine ⟨d, hd, fun i hi => ?_⟩
  rw [hds i (by omega), cbs_get, List.getElem?_eq_getElem (by omega)]
  rfl
theorem ds_of {A : Option Addr} {ds : List Dg} {b off : Nat} (h32 : All32 ds) (hA : A = some ⟨b, off, none⟩) (hb : b < w.heap.size) (h : ∀ r (hr : r < ds.length), ∀ i, i < 32 → w.cell? ⟨b, off + r * 32 + i, none⟩ = (cbs ds[r])[i]?) : Ds w A ds := by
  refine ⟨by rw [cbs_length, flat_len h32]; omega, fun _ => ⟨b, off, hA, hb, fun j u hu => ?_⟩⟩
  have hj : j < 32 * ds.length := by
    rcases Nat.lt_or_ge j (cbs ds.flatten).length with h' | h'
    · rw [cbs_length, flat_len h32] at h'; exact h'
    · rw [List.getElem?_eq_none h'] at hu; cases hu
  have hr : j / 32 < ds.length := by omega
  have h1 := h (j / 32) hr (j % 32) (by omega)
  rw [show off + j / 32 * 32 + j % 32 = off + j by omega] at h1
  rw [h1, ← flat_get h32 hr, cbs_take, cbs_drop, List.getElem?_take_of_lt (by omega), List.getElem?_drop, show 32 * (j / 32) + j % 32 = j by omega]
  exact hu
theorem openG {A : Option Addr} {n c : Nat} {d : DataW H} {p : List MemPlace} (h : DataW.Trod enc Try.prog w 0 (fun _ => true) true 46 (.slice A n c) d p) : ∃ l, ArgG w A n c l := by
  obtain ⟨fuel, hf⟩ := h
  have hC : Try.prog.cellsOf 38 = 32 := by kernel_rfl
  rcases Go.Deep.open_slice Try.underlying46 hf with ⟨hcs, _⟩ | ⟨a, len, cap, m, k, D, Pl, hcs, _, hl, hm, hmm, _, hi⟩
  · simp [Value.cells] at hcs
    obtain ⟨rfl, rfl, rfl⟩ := hcs
    exact ⟨[], rfl, Nat.le_refl _, by simp [maxLen], fun d hd => by simp at hd, Ds.nil _ _⟩
  · simp [Value.cells] at hcs
    obtain ⟨rfl, rfl, rfl⟩ := hcs
    rw [hC] at hi
    have hm' : n ≤ m := by rw [hmm]; simp; omega
    rcases Nat.eq_zero_or_pos n with h0 | hpos
    · subst h0
      exact ⟨[], rfl, hl, hm, fun d hd => by simp at hd, Ds.nil _ _⟩
    have hs : a.spot = none := by
      obtain ⟨cs', hc, ht⟩ := hi 0 (by omega)
      obtain ⟨x, hx, k0⟩ := trod_dg ht
      obtain ⟨_, _, hat⟩ := World.cells?_some hc
      have h1 := hat 0 (by omega)
      rw [k0 0 (by omega), cbs_get, List.getElem?_eq_getElem (by omega)] at h1
      have e : a.add (0 * 32) = a := by unfold Addr.add; simp
      rw [e] at h1
      exact spot_of h1
    obtain ⟨b, off, spot⟩ := a
    simp only at hs
    subst hs
    have key : ∀ r, r < n → ∃ x : Dg, x.length = 32 ∧ ∀ i, i < 32 → w.cell? ⟨b, off + r * 32 + i, none⟩ = (cbs x)[i]? := fun r hr => by
      obtain ⟨cs', hc, ht⟩ := hi r (by omega)
      obtain ⟨x, hx, k0⟩ := trod_dg ht
      obtain ⟨_, _, hat⟩ := World.cells?_some hc
      refine ⟨x, hx, fun i hi => ?_⟩
      have := hat i (by omega)
      rw [add_mk, add_mk] at this
      exact this.trans (k0 i hi)
    obtain ⟨ls, hlen, hls⟩ := choose_any n key
    have h32 : All32 ls := fun d hd => by
      obtain ⟨j, hj, rfl⟩ := List.mem_iff_getElem.1 hd
      exact (hls j hj).1
    have hlt : b < w.heap.size := by
      obtain ⟨hx, h0⟩ := hls 0 (by omega)
      have h1 := h0 0 (by omega)
      rw [cbs_get, List.getElem?_eq_getElem (by omega)] at h1
      exact World.block_lt_of_cell? w _ h1
    exact ⟨ls, hlen, hl, hm, h32, ds_of h32 rfl hlt fun r hr i hi => (hls r hr).2 i hi⟩
end

theorem up_off (v : Value) (A : Option Addr) (n c : Nat) (w : World) (h : n < 1 ∨ 4 < n) :
    Calls Try.prog 22 #[v, .slice A n c] w fun e w' => e = .returned (.tuple #[.agg (cbs (List.replicate 32 0)).toArray, .int .i64 2]) ∧ Below w.heap.size w w' := by
  have b0 : Below w.heap.size w (w.alloc (.cells (cbs (List.replicate 32 0)).toArray 38)) := (Below.refl _ _).alloc (Nat.le_refl _) _
  have hZ : Blk (w.alloc (.cells (cbs (List.replicate 32 0)).toArray 38)) w.heap.size 38 (cbs (List.replicate 32 0)) := Blk.new rfl rfl
  have hth : (w.alloc (.cells (cbs (List.replicate 32 0)).toArray 38)).there w.heap.size 0 (cbs (List.replicate 32 0)).toArray.size := hZ.there
  have hR := hZ.setAll (vs := cbs (List.replicate 32 0)) rfl
  have hb1 : Below w.heap.size w ((w.alloc (.cells (cbs (List.replicate 32 0)).toArray 38)).setCells w.heap.size 0 (cbs (List.replicate 32 0))) := Below.setCells (Nat.le_refl _) _ b0
  have Hb := Lib.hid (And.intro hth (And.intro hR hb1))
  clear b0 hZ hth hR hb1
  obtain ⟨hc, _⟩ : ((decide ((n : Int) < 1) = true) ∨ (decide ((n : Int) < 1) = false ∧ decide ((4 : Int) < (n : Int)) = true)) ∧ True := ⟨by
    by_cases h0 : n < 1
    · exact .inl (by simp; omega)
    · exact .inr ⟨by simp; omega, by simp; omega⟩, trivial⟩
  clear h
  rcases hc with h1 | ⟨h1, h2⟩
  all_goals
    go_enter Try.func22, Try.ntmps22
    go_wp2_with (refine wpList_store_mid rfl 38 _ _ rfl w.heap.size 0 (cbs (List.replicate 32 0)).toArray rfl rfl Hb.out.1 info32b (cbs_one' _) ?_)
    refine bodyPost_ret (results_row_tmp rfl _ _ w.heap.size 38 (cbs (List.replicate 32 0)).toArray (0, 0) _ rfl Hb.out.2.1 Try.underlying38 rfl info32b) rfl ?_
    exact ⟨rfl, Hb.out.2.2⟩
end Go.Proofs.Ytbdocaohnigekaa

namespace Go.Proofs.Ytbdocaohnigekaa
open Go.RowKit Go.Maps
set_option linter.unusedVariables false

/-- Leaves as a list of slices that lies in blocks of K. -/
def LvsAt (w : World) (K : Nat → Prop) (A : Option Addr) (ls : List (List UInt8)) : Prop :=
  ∃ b off, A = some ⟨b, off, none⟩ ∧ K b ∧ ∀ j (hj : j < ls.length), ∃ Aj cj, w.cell? ⟨b, off + j, none⟩ = some (.slice Aj ls[j].length cj) ∧ ls[j].length ≤ cj ∧ cj ≤ maxLen ∧ Bs w Aj ls[j] ∧ ∀ a, Aj = some a → ls[j] ≠ [] → K a.block
theorem Bs.stays {w w' : World} {K : Nat → Prop} {A : Option Addr} {x : List UInt8} (h : Bs w A x) (hs : Stays K w w') (hK : ∀ a, A = some a → x ≠ [] → K a.block) : Bs w' A x := by
  refine ⟨h.1, fun hp => ?_⟩
  obtain ⟨b, off, e, hb, hc⟩ := h.2 hp
  have hk := hK _ e (fun e => by rw [e] at hp; simp at hp)
  exact ⟨b, off, e, Nat.lt_of_lt_of_le hb hs.1, fun j u hu => (World.cell?_of_block (hs.2 b hk)).trans (hc j u hu)⟩
theorem LvsAt.stays {w w' : World} {K : Nat → Prop} {A : Option Addr} {ls : List (List UInt8)} (h : LvsAt w K A ls) (hs : Stays K w w') : LvsAt w' K A ls := by
  obtain ⟨b, off, e, hb, hc⟩ := h
  refine ⟨b, off, e, hb, fun j hj => ?_⟩
  obtain ⟨Aj, cj, h1, h2, h3, h4, h5⟩ := hc j hj
  exact ⟨Aj, cj, (World.cell?_of_block (hs.2 b hb)).trans h1, h2, h3, h4.stays hs h5, h5⟩
theorem LvsAt.more {w : World} {K K' : Nat → Prop} {A : Option Addr} {ls : List (List UInt8)} (h : LvsAt w K A ls) (hK : ∀ j, K j → K' j) : LvsAt w K' A ls := by
  obtain ⟨b, off, e, hb, hc⟩ := h
  refine ⟨b, off, e, hK _ hb, fun j hj => ?_⟩
  obtain ⟨Aj, cj, h1, h2, h3, h4, h5⟩ := hc j hj
  exact ⟨Aj, cj, h1, h2, h3, h4, fun a e hn => hK _ (h5 a e hn)⟩

set_option maxRecDepth 100000 in
theorem ofLeaf_any {w : World} {lb i : Nat} {n c : Nat} {A : Option Addr} {b off : Nat} {Aj : Option Addr} {m cj : Nat} (hb : Blk w lb 22 [.slice A n c]) (hA : A = some ⟨b, off, none⟩) (hi : i < n) (hn : n ≤ 1024) (hc : w.cell? ⟨b, off + i, none⟩ = some (.slice Aj m cj)) :
    Calls Try.prog 36 #[.int .i64 (i : Int), .pointer (some ⟨lb, 0, none⟩)] w fun e w' => e = .returned (.slice Aj m cj) ∧ w' = w := by
  subst hA
  have h0 : w.cell? ⟨lb, 0, none⟩ = some (.slice (some ⟨b, off, none⟩) n c) := hb.cell rfl
  have i0 : (0 : Int) ≤ (i : Int) := by omega
  have i1 : (i : Int) < (n : Int) := by omega
  clear hb
  go_enter Try.func36, Try.ntmps36
  go_wp2
  go_ret
  exact ⟨rfl, rfl⟩
theorem ofLeaf_at {w : World} {lb n c : Nat} {A : Option Addr} {K : Nat → Prop} {ls : List (List UInt8)} (hb : Blk w lb 22 [.slice A n c]) (hl : LvsAt w K A ls) (hn : ls.length = n) (hn2 : n ≤ 1024) (hK : K lb) : LeafAt 36 [.pointer (some ⟨lb, 0, none⟩)] w K ls := fun w' hs i hi => by
  obtain ⟨b, off, e, hkb, hc⟩ := hl.stays hs
  obtain ⟨Aj, cj, h1, h2, h3, h4, h5⟩ := hc i hi
  exact ⟨Aj, cj, ofLeaf_any ((hs.2 lb hK).trans hb) e (by omega) hn2 h1, h4, h2, h3⟩

set_option maxRecDepth 100000 in
theorem idx_none {w : World} {n c : Nat} {A : Option Addr} {K : Nat → Prop} {ls : List (List UInt8)} (hl : LvsAt w K A ls) (hn : ls.length = n) (hn2 : n ≤ 1024) (hls : ∀ x ∈ ls, x.length ≤ 65535) :
    Calls Try.prog 46 #[.slice A n c, .func (.func 34) #[] #[]] w fun e w' => e = .returned (.int .i64 (-1)) ∧ w' = w := by
  obtain ⟨b, off, rfl, hkb, hc⟩ := hl
  have H := Lib.hid hc
  have Hls := Lib.hid hls
  clear hc hls hkb
  go_enter Try.func46, Try.ntmps46
  go_wp2
  go_loopw [5, 8] (fun _ iv wr => ∃ k : Nat, k ≤ n ∧ iv = .int .i64 (k : Int) ∧ wr = w) (fun _ iv _ => n - (intOf iv).toNat)
  case atStart => exact ⟨0, Nat.zero_le _, rfl, rfl⟩
  case round =>
    obtain ⟨k, hk, rfl, rfl⟩ := hrel
    by_cases hlt : k < n
    · obtain ⟨Aj, cj, h1, h2, h3, h4, h5⟩ := H.out k (by omega)
      have hx : (ls[k]'(by omega)).length ≤ 65535 := Hls.out _ (List.getElem_mem _)
      obtain ⟨m, hm⟩ : ∃ m, (ls[k]'(by omega)).length = m := ⟨_, rfl⟩
      rw [hm] at h1 hx
      have Hno := Lib.hid (isLong_no Aj m cj wr hx)
      have i0 : (0 : Int) ≤ (k : Int) := by omega
      have i1 : (k : Int) < (n : Int) := by omega
      clear h2 h3 h4 h5 hx hm
      go_wp2_with (go_at_call 34; refine Hno.out.mono ?_; rintro e w' ⟨rfl, rfl⟩)
      go_roundw
      case rel => exact ⟨k + 1, by omega, by go_num, trivial⟩
      case measure => simp [intOf]; omega
    · have i1 : ¬ (k : Int) < (n : Int) := by omega
      go_wp2
      go_ret
      exact ⟨rfl, rfl⟩
theorem contains_none {w : World} {n c : Nat} {A : Option Addr} {K : Nat → Prop} {ls : List (List UInt8)} (hl : LvsAt w K A ls) (hn : ls.length = n) (hn2 : n ≤ 1024) (hls : ∀ x ∈ ls, x.length ≤ 65535) :
    Calls Try.prog 33 #[.slice A n c, .func (.func 34) #[] #[]] w fun e w' => e = .returned (.bool false) ∧ w' = w := by
  have Hi := Lib.hid (idx_none (c := c) hl hn hn2 hls)
  clear hl hls
  go_enter Try.func33, Try.ntmps33
  go_wp2_with (go_at_call 46; refine Hi.out.mono ?_; rintro e w' ⟨rfl, rfl⟩)
  go_ret
  exact ⟨rfl, rfl⟩
end Go.Proofs.Ytbdocaohnigekaa
