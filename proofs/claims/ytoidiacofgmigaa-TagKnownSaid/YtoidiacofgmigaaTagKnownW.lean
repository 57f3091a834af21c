/-
  The chapter's both ends, and ledgers that are none: TagKnown, which has no arguments, returns true; no condition.
-/
import Derived.Test.YtoidiacofgmigaaTwo
import Derived.Test.YtoidiacofgmigaaTagN
import Derived.Test.YtoidiacofgmigaaAnyOrderH
import Derived.Deep.RegionHeld3
import Derived.Deep.RegionWith
import Derived.Deep.DeepCutAuto
namespace Go.Proofs.Ytoidiacofgmigaa.tagKnown
open Go.ChangeShapes Go.WideShapes Go.ChangeAt Go.RowKit
set_option linter.unusedVariables false

theorem ku_setCell {w0 w : World} {g m : Nat} {T : List Tg} {k : Nat} (h : Ku w0 w g m T k) {p : Addr} (hp : w0.heap.size ≤ p.block) (hg : g ≠ p.block) (hm : m ≠ p.block) (v : Value) : Ku w0 (w.setCell p v) g m T k :=
  ⟨h.1.stay (Below.heap_setCell w p v g hg) (Below.heap_setCell w p v m hm), h.2.1, h.2.2.1, h.2.2.2.setCell hp v⟩
theorem argI_ofBlk {w : World} {b n c : Nat} {t : TypeId} {l : List Int} (h : Blk w b t (cis l)) (hn : n ≤ l.length) (hc : n ≤ c) (hc2 : c ≤ 1000) (hw : ∀ x ∈ l, Wf x) : ArgI w (some ⟨b, 0, none⟩) n c (l.take n) := by
  have hl : (l.take n).length = n := by rw [List.length_take]; omega
  refine ⟨hl, hc, by unfold maxLen; omega, ⟨by rw [cis_length]; simp, fun _ => ⟨b, 0, rfl, h.lt, fun j u hu => ?_⟩⟩, fun x hx => hw x (List.mem_of_mem_take hx)⟩
  rw [Nat.zero_add]
  refine h.cell ?_
  rw [cis_get] at hu ⊢
  have hj : j < n := by
    rcases Nat.lt_or_ge j (l.take n).length with h | h
    · omega
    · rw [List.getElem?_eq_none h] at hu; cases hu
  rw [List.getElem?_take, if_pos hj] at hu
  exact hu

set_option maxRecDepth 100000 in
set_option maxHeartbeats 6400000 in
theorem walk  (w : World)  :
    Calls Try.prog 10 #[] w fun e w' => e = .returned (.bool true) ∧ Below w.heap.size w w' := by
  obtain ⟨D, hD, hDl, hD1, hdig⟩ := ku_digest 1 w
  have HD := Lib.hid hD
  have Hdig := Lib.hid hdig
  have Ho := Lib.hid hD1
  have hmk0 := fun w => run_make_row' (P := Try.prog) 30 3 (.int .i64 0) 8 Try.underlying30 int_info rfl .i64 .i64 35 (by omega) (by omega) w
  obtain ⟨Z, hZ, hmk⟩ : ∃ Z : Array Value, Z = (cis (fill35 0)).toArray ∧ ∀ w, (Instr.makeSlice 30 (.int .i64 35) (.int .i64 35)).run Try.prog w = .ok (.slice (some ⟨w.heap.size, 0, none⟩) 35 35) (w.alloc (.cells Z 3)) := ⟨_, by kernel_rfl, hmk0⟩
  have HZ := Lib.hid hZ
  have hwf : ∀ x ∈ fill35 35, Wf x := by decide +kernel
  obtain ⟨T1, hT1⟩ : ∃ T1, vecL [] 34 ((fill35 35).take 34) (dg 1) = T1 := ⟨_, rfl⟩
  have t1 : T1.length = 34 := by rw [← hT1]; decide +kernel
  have t2 : chk T1 34 34 (dg 1) = true := by rw [← hT1]; decide +kernel
  have t3 : chk T1 34 0 (dg 1) = false := by rw [← hT1]; decide +kernel
  obtain ⟨T2, hT2⟩ : ∃ T2, tagL T1 34 0 (dg 1) = T2 := ⟨_, rfl⟩
  have t4 : T2.length = 35 := by rw [← hT2, ← hT1]; decide +kernel
  have t5 : chk T2 34 0 (dg 1) = true := by rw [← hT2, ← hT1]; decide +kernel
  have t6 : chk T2 34 99 (dg 1) = true := by rw [← hT2, ← hT1]; decide +kernel
  have t7 : vecL T2 1 [] (dg 1) = T2 := rfl
  have t8 : errOf (okVec 34 ((fill35 35).take 34)) = 0 := by decide +kernel
  have t9 : errOf (okVec 1 (fill35 35)) = 2 := by decide +kernel
  have Ht := Lib.hid (And.intro hwf (And.intro hT1 (And.intro t1 (And.intro t2 (And.intro t3 (And.intro hT2 (And.intro t4 (And.intro t5 (And.intro t6 (And.intro t7 (And.intro t8 t9)))))))))))
  clear hD hdig hD1 hmk0 hZ hwf hT1 t1 t2 t3 hT2 t4 t5 t6 t7 t8 t9
  have hnot : ∀ (x : Bool) (w : World), (Op.unary .not (.bool x)).run Try.prog w = .ok (.bool (!x)) w := fun _ _ => rfl
  go_enter Try.func10, Try.ntmps10
  go_wp2_with fail
  refine (ku_new w w (Below.refl _ _)).mono ?_
  rintro e w1 ⟨g, m, rfl, hg, hm, hk, hb⟩
  have K1 := Lib.hid (And.intro hk (And.intro hk.1.1.lt hk.1.2.lt))
  clear hg hm hk hb
  go_wp2_with fail
  refine (Hdig.out w1).mono ?_
  rintro e w2 ⟨rfl, hb2⟩
  obtain ⟨wS, hwS, th1, hi1, hA, hbS, hsS⟩ := one_local w2 D hDl
  have hs2 := hb2.size
  have hgl : g < w2.heap.size := by have := K1.out.2.1; omega
  have hml : m < w2.heap.size := by have := K1.out.2.2; omega
  have hsw := K1.out.1.bel.size
  have hk2 := Ku.below (Ku.below K1.out.1 hb2) hbS
  have hn1 : ¬ GM g m w2.heap.size := fun e => by rcases e with e | e <;> omega
  have hn2 : ¬ GM g m (w2.heap.size + 1) := fun e => by rcases e with e | e <;> omega
  have Hn := Lib.hid (And.intro hn1 (And.intro hn2 (And.intro (by omega : w.heap.size ≤ w2.heap.size + 1) (And.intro (by omega : g ≠ w2.heap.size + 1) (by omega : m ≠ w2.heap.size + 1)))))
  have hwm : Blk (wS.alloc (.cells Z 3)) (w2.heap.size + 1) 3 (cis (fill35 0)) := Blk.new (by rw [HZ.out]) hsS
  have K := Lib.hid (And.intro (hk2.below ((Below.refl _ _).alloc (Nat.le_refl _) (.cells Z 3))) (And.intro (hA.old (.cells Z 3)) hwm))
  have Hst := Lib.hid (And.intro th1 (And.intro hi1 hwS))
  have HsS := Lib.hid hsS
  clear hwS th1 hi1 hA hbS hb2 hn1 hn2 hk2 hwm hs2 hgl hml hsw K1 hDl
  go_wp2_with (refine wpList_store_mid rfl 28 _ _ rfl w2.heap.size 0 D.toArray rfl rfl Hst.out.1 Hst.out.2.1 Ho.out ?_; simp only [Act.put]; refine cast (congrArg (fun z => wpList _ _ _ _ _ z) Hst.out.2.2.symm) ?_)
  go_loopw [4] (fun v wr => ∃ j : Nat, j ≤ 35 ∧ v = .int .i64 j ∧ Ku w wr g m [] 0 ∧ Blk wr w2.heap.size 28 D ∧ Blk wr (w2.heap.size + 1) 3 (cis (fill35 j))) (fun v _ => 35 - (intOf v).toNat)
  case atStart => exact ⟨0, by omega, rfl, K.out.1, K.out.2.1, K.out.2.2⟩
  case round =>
    obtain ⟨j, hj, rfl, hKu, hBd, hBm⟩ := hrel
    have hi0 : (0 : Int) ≤ j := by omega
    by_cases hlt : j < 35
    · have hi1 : (j : Int) < 35 := by omega
      have c0 : wr.cell? ⟨w2.heap.size + 1, j, none⟩ = some (.int .i64 0) := hBm.cell (by rw [cis_get, fill35_get hlt, if_neg (by omega)]; rfl)
      have f0 := hBm.free j
      have m0 : (0 : Int) ≤ (j : Int) % 34 := Int.emod_nonneg _ (by decide)
      have m1 : (j : Int) % 34 < 34 := Int.emod_lt_of_pos _ (by decide)
      have hset := hBm.set_ j (.int .i64 (1 + (j : Int) % 34))
      have hcs : (cis (fill35 j)).set j (.int .i64 (1 + (j : Int) % 34)) = cis (fill35 (j + 1)) := by rw [← fill35_set hlt]; unfold cis; rw [List.map_set]; rfl
      rw [hcs] at hset
      have Kj := Lib.hid (And.intro (ku_setCell hKu (p := ⟨w2.heap.size + 1, j, none⟩) Hn.out.2.2.1 Hn.out.2.2.2.1 Hn.out.2.2.2.2 (.int .i64 (1 + (j : Int) % 34))) (And.intro (hBd.far (p := ⟨w2.heap.size + 1, j, none⟩) (by show _ ≠ _ + 1; omega) (.int .i64 (1 + (j : Int) % 34))) hset))
      clear hKu hBd hBm hset hcs
      go_wp2
      refine ⟨⟨j + 1, by omega, by go_num, Kj.out.1, Kj.out.2.1, Kj.out.2.2⟩, by simp [intOf]; omega⟩
    · have hj5 : j = 35 := by omega
      rw [hj5] at hBm
      have K' := Lib.hid (And.intro hKu (And.intro hBd hBm))
      clear K hKu hBd hBm
      have K := K'
      clear K'
      have hi1 : ¬ (j : Int) < 35 := by omega
      subst hj5
      go_wp2_with (first
        | (refine load_row_g (by rfl) 28 _ rfl w2.heap.size rfl 28 D.toArray (0, 0) _ K.out.2.1 Try.underlying28 rfl Hst.out.2.1 ?_; simp only [Act.put])
        | (refine load_row_g (by rfl) 28 _ rfl w2.heap.size rfl 28 D.toArray (0, 0) _ (K.out.2.1.old _) Try.underlying28 rfl Hst.out.2.1 ?_; simp only [Act.put]))
      refine (ku_tagE 0 1 (dg 1) D 2 [] K.out.1 (by decide) (by decide) (by decide) (dg_len 1) HD.out (by decide) (by decide +kernel)).mono ?_
      rintro e w4 ⟨rfl, hk, ho⟩
      have K' := Lib.hid (And.intro hk (And.intro (ho.blk K.out.2.1 Hn.out.1) (ho.blk K.out.2.2 Hn.out.2.1)))
      clear hk ho K
      have K := K'
      clear K'
      go_wp2_with (first
        | (refine load_row_g (by rfl) 28 _ rfl w2.heap.size rfl 28 D.toArray (0, 0) _ K.out.2.1 Try.underlying28 rfl Hst.out.2.1 ?_; simp only [Act.put])
        | (refine load_row_g (by rfl) 28 _ rfl w2.heap.size rfl 28 D.toArray (0, 0) _ (K.out.2.1.old _) Try.underlying28 rfl Hst.out.2.1 ?_; simp only [Act.put]))
      refine (ku_tagE 35 1 (dg 1) D 2 [] K.out.1 (by decide) (by decide) (by decide) (dg_len 1) HD.out (by decide) (by decide +kernel)).mono ?_
      rintro e w5 ⟨rfl, hk, ho⟩
      have K' := Lib.hid (And.intro hk (And.intro (ho.blk K.out.2.1 Hn.out.1) (ho.blk K.out.2.2 Hn.out.2.1)))
      clear hk ho K
      have K := K'
      clear K'
      go_wp2_with (first
        | (refine load_row_g (by rfl) 28 _ rfl w2.heap.size rfl 28 D.toArray (0, 0) _ K.out.2.1 Try.underlying28 rfl Hst.out.2.1 ?_; simp only [Act.put])
        | (refine load_row_g (by rfl) 28 _ rfl w2.heap.size rfl 28 D.toArray (0, 0) _ (K.out.2.1.old _) Try.underlying28 rfl Hst.out.2.1 ?_; simp only [Act.put]))
      refine (ku_tagE 1 35 (dg 1) D 2 [] K.out.1 (by decide) (by decide) (by decide) (dg_len 1) HD.out (by decide) (by decide +kernel)).mono ?_
      rintro e w6 ⟨rfl, hk, ho⟩
      have K' := Lib.hid (And.intro hk (And.intro (ho.blk K.out.2.1 Hn.out.1) (ho.blk K.out.2.2 Hn.out.2.1)))
      clear hk ho K
      have K := K'
      clear K'
      go_wp2_with (first
        | (refine load_row_g (by rfl) 28 _ rfl w2.heap.size rfl 28 D.toArray (0, 0) _ K.out.2.1 Try.underlying28 rfl Hst.out.2.1 ?_; simp only [Act.put])
        | (refine load_row_g (by rfl) 28 _ rfl w2.heap.size rfl 28 D.toArray (0, 0) _ (K.out.2.1.old _) Try.underlying28 rfl Hst.out.2.1 ?_; simp only [Act.put]))
      refine (ku_tagE 1 (-1) (dg 1) D 2 [] K.out.1 (by decide) (by decide) (by decide) (dg_len 1) HD.out (by decide) (by decide +kernel)).mono ?_
      rintro e w7 ⟨rfl, hk, ho⟩
      have K' := Lib.hid (And.intro hk (And.intro (ho.blk K.out.2.1 Hn.out.1) (ho.blk K.out.2.2 Hn.out.2.1)))
      clear hk ho K
      have K := K'
      clear K'
      go_wp2_with (first
        | (refine load_row_g (by rfl) 28 _ rfl w2.heap.size rfl 28 D.toArray (0, 0) _ K.out.2.1 Try.underlying28 rfl Hst.out.2.1 ?_; simp only [Act.put])
        | (refine load_row_g (by rfl) 28 _ rfl w2.heap.size rfl 28 D.toArray (0, 0) _ (K.out.2.1.old _) Try.underlying28 rfl Hst.out.2.1 ?_; simp only [Act.put]))
      refine (ku_vecE 1 _ 2 2 [2, 0] (dg 1) D 2 [] (K.out.1.below ((Below.refl _ _).alloc (Nat.le_refl _) _)) (by decide) (by decide) (ArgI.made _ _ _ _ [2, 0] 2 rfl rfl (by decide) (by decide)) (dg_len 1) HD.out (by decide) (by decide +kernel)).mono ?_
      rintro e w8 ⟨rfl, hk, ho⟩
      have K' := Lib.hid (And.intro hk (And.intro (ho.blk (K.out.2.1.old _) Hn.out.1) (ho.blk (K.out.2.2.old _) Hn.out.2.1)))
      clear hk ho K
      have K := K'
      clear K'
      go_wp2_with (first
        | (refine load_row_g (by rfl) 28 _ rfl w2.heap.size rfl 28 D.toArray (0, 0) _ K.out.2.1 Try.underlying28 rfl Hst.out.2.1 ?_; simp only [Act.put])
        | (refine load_row_g (by rfl) 28 _ rfl w2.heap.size rfl 28 D.toArray (0, 0) _ (K.out.2.1.old _) Try.underlying28 rfl Hst.out.2.1 ?_; simp only [Act.put]))
      refine (ku_vecE 0 _ 1 1 [2] (dg 1) D 2 [] (K.out.1.below ((Below.refl _ _).alloc (Nat.le_refl _) _)) (by decide) (by decide) (ArgI.made _ _ _ _ [2] 1 rfl rfl (by decide) (by decide)) (dg_len 1) HD.out (by decide) (by decide +kernel)).mono ?_
      rintro e w9 ⟨rfl, hk, ho⟩
      have K' := Lib.hid (And.intro hk (And.intro (ho.blk (K.out.2.1.old _) Hn.out.1) (ho.blk (K.out.2.2.old _) Hn.out.2.1)))
      clear hk ho K
      have K := K'
      clear K'
      go_wp2_with (first
        | (refine load_row_g (by rfl) 28 _ rfl w2.heap.size rfl 28 D.toArray (0, 0) _ K.out.2.1 Try.underlying28 rfl Hst.out.2.1 ?_; simp only [Act.put])
        | (refine load_row_g (by rfl) 28 _ rfl w2.heap.size rfl 28 D.toArray (0, 0) _ (K.out.2.1.old _) Try.underlying28 rfl Hst.out.2.1 ?_; simp only [Act.put]))
      have hA35 := argI_ofBlk (n := 35) (c := 35) K.out.2.2 (by rw [fill35_len]; omega) (by omega) (by omega) Ht.out.1
      rw [List.take_of_length_le (by rw [fill35_len]; omega)] at hA35
      refine (ku_vecE 1 _ 35 35 (fill35 35) (dg 1) D 2 [] K.out.1 (by decide) (by decide) hA35 (dg_len 1) HD.out Ht.out.2.2.2.2.2.2.2.2.2.2.2 (by decide +kernel)).mono ?_
      clear hA35
      rintro e w10 ⟨rfl, hk, ho⟩
      have K' := Lib.hid (And.intro hk (And.intro (ho.blk K.out.2.1 Hn.out.1) (ho.blk K.out.2.2 Hn.out.2.1)))
      clear hk ho K
      have K := K'
      clear K'
      have Hlen := Lib.hid (len_any g m _ _ _ K.out.1.1)
      go_wp2_with (go_at_call 23; refine Hlen.out.mono ?_; rintro e w' ⟨rfl, rfl⟩)
      clear Hlen
      have hid : (Try.prog.info? 28).map (·.size) = some D.length := by have := Hst.out.2.1; rw [List.size_toArray] at this; exact this
      have J0 := Lib.hid (And.intro (K.out.1.below (Below.refl _ _).drew) (And.intro K.out.2.1 K.out.2.2))
      have hA34 := Lib.hid (argI_ofBlk (n := 34) (c := 35) J0.out.2.2 (by rw [fill35_len]; omega) (by omega) (by omega) Ht.out.1)
      have Q0 : World.rangeAt _ w2.heap.size 0 D := J0.out.2.1.range
      refine wp_region_held_drew (S := fun W' => W'.rangeAt w2.heap.size 0 D) (by kernel_rfl) Q0 (fun _ => ?_)
      refine anyH_take (i := 0) (d := 70) (v := ?v0) rfl rfl (by kernel_rfl) (by kernel_rfl) (by kernel_rfl) (fun _ _ _ h => h) (Or.inl ⟨by rfl, ?y0⟩) Q0 ?r0
      case y0 => (intro w; go_simp; try with_reducible rfl)
      simp only [List.setIfInBounds_toArray, List.set_cons_zero, List.set_cons_succ]
      refine anyH_take (i := 1) (d := 71) (v := ?v1) rfl rfl (by kernel_rfl) (by kernel_rfl) (by kernel_rfl) (fun _ _ _ h => h) (Or.inl ⟨by rfl, ?y1⟩) Q0 ?r1
      case y1 => (intro w; go_simp; try with_reducible rfl)
      simp only [List.setIfInBounds_toArray, List.set_cons_zero, List.set_cons_succ]
      refine anyH_take (i := 2) (d := 72) (v := ?v2) rfl rfl (by kernel_rfl) (by kernel_rfl) (by kernel_rfl) (fun _ _ _ h => h) (Or.inl ⟨by rfl, ?y2⟩) Q0 ?r2
      case y2 => (intro w; go_simp; try with_reducible rfl)
      simp only [List.setIfInBounds_toArray, List.set_cons_zero, List.set_cons_succ]
      refine anyH_load (i := 3) (d := 73) rfl rfl (by kernel_rfl) (by kernel_rfl) (by kernel_rfl) (by rfl) 28 _ rfl w2.heap.size 0 rfl D _ (fun _ h => h) Try.underlying28 rfl hid (fun _ _ _ h => h) Q0 ?_
      simp only [List.setIfInBounds_toArray, List.set_cons_zero, List.set_cons_succ]
      refine anyH_one (i := 4) (by kernel_rfl) ?_
      refine wpOp_step rfl (fun K hK => ?_)
      go_simp
      refine (ku_vecE 34 _ 34 35 _ (dg 1) D 0 T1 J0.out.1 (by decide) (by decide) hA34.out (dg_len 1) HD.out Ht.out.2.2.2.2.2.2.2.2.2.2.1 Ht.out.2.1).mono ?_
      rintro e v1 ⟨rfl, hk, ho⟩
      have J1 := Lib.hid (And.intro hk (And.intro (ho.blk J0.out.2.1 Hn.out.1) (ho.blk J0.out.2.2 Hn.out.2.1)))
      have Q1 : World.rangeAt v1 w2.heap.size 0 D := J1.out.2.1.range
      clear hk ho
      refine hK _ _ ⟨Q1, ?_⟩
      clear hK K
      refine anyH_take (i := 5) (d := 75) (v := ?v5) rfl rfl (by kernel_rfl) (by kernel_rfl) (by kernel_rfl) (fun _ _ _ h => h) (Or.inl ⟨by rfl, ?y5⟩) Q1 ?r5
      case y5 => (intro w; go_simp; try with_reducible rfl)
      simp only [List.setIfInBounds_toArray, List.set_cons_zero, List.set_cons_succ]
      refine anyH_take (i := 6) (d := 76) (v := ?v6) rfl rfl (by kernel_rfl) (by kernel_rfl) (by kernel_rfl) (fun _ _ _ h => h) (Or.inl ⟨by rfl, ?y6⟩) Q1 ?r6
      case y6 => (intro w; go_simp; try with_reducible rfl)
      simp only [List.setIfInBounds_toArray, List.set_cons_zero, List.set_cons_succ]
      refine anyH_take (i := 7) (d := 77) (v := ?v7) rfl rfl (by kernel_rfl) (by kernel_rfl) (by kernel_rfl) (fun _ _ _ h => h) (Or.inl ⟨by rfl, ?y7⟩) Q1 ?r7
      case y7 => (intro w; go_simp; try with_reducible rfl)
      simp only [List.setIfInBounds_toArray, List.set_cons_zero, List.set_cons_succ]
      refine anyH_one (i := 8) (by kernel_rfl) ?_
      refine wpOp_step rfl (fun K hK => ?_)
      go_simp
      have hl1 := len_any g m _ _ _ J1.out.1.1
      rw [Ht.out.2.2.1] at hl1
      refine hl1.mono ?_
      clear hl1
      rintro e w' ⟨rfl, rfl⟩
      refine hK _ _ ⟨Q1, ?_⟩
      clear hK K
      refine anyH_take (i := 9) (d := 79) (v := ?v9) rfl rfl (by kernel_rfl) (by kernel_rfl) (by kernel_rfl) (fun _ _ _ h => h) (Or.inl ⟨by rfl, ?y9⟩) Q1 ?r9
      case y9 => (intro w; go_simp; try with_reducible rfl)
      simp only [List.setIfInBounds_toArray, List.set_cons_zero, List.set_cons_succ]
      refine anyH_take (i := 10) (d := 80) (v := ?v10) rfl rfl (by kernel_rfl) (by kernel_rfl) (by kernel_rfl) (fun _ _ _ h => h) (Or.inl ⟨by rfl, ?y10⟩) Q1 ?r10
      case y10 => (intro w; go_simp; try with_reducible rfl)
      simp only [List.setIfInBounds_toArray, List.set_cons_zero, List.set_cons_succ]
      refine anyH_take (i := 11) (d := 81) (v := ?v11) rfl rfl (by kernel_rfl) (by kernel_rfl) (by kernel_rfl) (fun _ _ _ h => h) (Or.inl ⟨by rfl, ?y11⟩) Q1 ?r11
      case y11 => (intro w; go_simp; try with_reducible rfl)
      simp only [List.setIfInBounds_toArray, List.set_cons_zero, List.set_cons_succ]
      refine anyH_take (i := 12) (d := 82) (v := ?v12) rfl rfl (by kernel_rfl) (by kernel_rfl) (by kernel_rfl) (fun _ _ _ h => h) (Or.inl ⟨by rfl, ?y12⟩) Q1 ?r12
      case y12 => (intro w; go_simp; try with_reducible rfl)
      simp only [List.setIfInBounds_toArray, List.set_cons_zero, List.set_cons_succ]
      refine anyH_load (i := 13) (d := 83) rfl rfl (by kernel_rfl) (by kernel_rfl) (by kernel_rfl) (by rfl) 28 _ rfl w2.heap.size 0 rfl D _ (fun _ h => h) Try.underlying28 rfl hid (fun _ _ _ h => h) Q1 ?_
      simp only [List.setIfInBounds_toArray, List.set_cons_zero, List.set_cons_succ]
      refine anyH_one (i := 14) (by kernel_rfl) ?_
      refine wpOp_step rfl (fun K hK => ?_)
      go_simp
      refine (ku_checkE 34 34 (dg 1) D true J1.out.1 (by decide) (by decide) (by decide) (dg_len 1) HD.out Ht.out.2.2.2.1).mono ?_
      rintro e v2 ⟨rfl, hk, ho⟩
      have J2 := Lib.hid (And.intro hk (And.intro (ho.blk J1.out.2.1 Hn.out.1) (ho.blk J1.out.2.2 Hn.out.2.1)))
      have Q2 : World.rangeAt v2 w2.heap.size 0 D := J2.out.2.1.range
      clear hk ho
      refine hK _ _ ⟨Q2, ?_⟩
      clear hK K
      refine anyH_take (i := 15) (d := 85) (v := ?v15) rfl rfl (by kernel_rfl) (by kernel_rfl) (by kernel_rfl) (fun _ _ _ h => h) (Or.inl ⟨by rfl, ?y15⟩) Q2 ?r15
      case y15 => (intro w; go_simp; try with_reducible rfl)
      simp only [List.setIfInBounds_toArray, List.set_cons_zero, List.set_cons_succ]
      refine anyH_take (i := 16) (d := 86) (v := ?v16) rfl rfl (by kernel_rfl) (by kernel_rfl) (by kernel_rfl) (fun _ _ _ h => h) (Or.inl ⟨by rfl, ?y16⟩) Q2 ?r16
      case y16 => (intro w; go_simp; try with_reducible rfl)
      simp only [List.setIfInBounds_toArray, List.set_cons_zero, List.set_cons_succ]
      refine anyH_take (i := 17) (d := 87) (v := ?v17) rfl rfl (by kernel_rfl) (by kernel_rfl) (by kernel_rfl) (fun _ _ _ h => h) (Or.inl ⟨by rfl, ?y17⟩) Q2 ?r17
      case y17 => (intro w; go_simp; try with_reducible rfl)
      simp only [List.setIfInBounds_toArray, List.set_cons_zero, List.set_cons_succ]
      refine anyH_load (i := 18) (d := 88) rfl rfl (by kernel_rfl) (by kernel_rfl) (by kernel_rfl) (by rfl) 28 _ rfl w2.heap.size 0 rfl D _ (fun _ h => h) Try.underlying28 rfl hid (fun _ _ _ h => h) Q2 ?_
      simp only [List.setIfInBounds_toArray, List.set_cons_zero, List.set_cons_succ]
      refine anyH_one (i := 19) (by kernel_rfl) ?_
      refine wpOp_step rfl (fun K hK => ?_)
      go_simp
      refine (ku_checkE 34 0 (dg 1) D false J2.out.1 (by decide) (by decide) (by decide) (dg_len 1) HD.out Ht.out.2.2.2.2.1).mono ?_
      rintro e v3 ⟨rfl, hk, ho⟩
      have J3 := Lib.hid (And.intro hk (And.intro (ho.blk J2.out.2.1 Hn.out.1) (ho.blk J2.out.2.2 Hn.out.2.1)))
      have Q3 : World.rangeAt v3 w2.heap.size 0 D := J3.out.2.1.range
      clear hk ho
      refine hK _ _ ⟨Q3, ?_⟩
      clear hK K
      refine anyH_take (i := 20) (d := 90) (v := ?v20) rfl rfl (by kernel_rfl) (by kernel_rfl) (by kernel_rfl) (fun _ _ _ h => h) (Or.inl ⟨by rfl, ?y20⟩) Q3 ?r20
      case y20 => (intro w; go_simp; try with_reducible rfl)
      simp only [List.setIfInBounds_toArray, List.set_cons_zero, List.set_cons_succ]
      refine anyH_take (i := 21) (d := 91) (v := ?v21) rfl rfl (by kernel_rfl) (by kernel_rfl) (by kernel_rfl) (fun _ _ _ h => h) (Or.inl ⟨by rfl, ?y21⟩) Q3 ?r21
      case y21 => (intro w; go_simp; try with_reducible rfl)
      simp only [List.setIfInBounds_toArray, List.set_cons_zero, List.set_cons_succ]
      refine anyH_take (i := 22) (d := 92) (v := ?v22) rfl rfl (by kernel_rfl) (by kernel_rfl) (by kernel_rfl) (fun _ _ _ h => h) (Or.inl ⟨by rfl, ?y22⟩) Q3 ?r22
      case y22 => (intro w; go_simp; try with_reducible rfl)
      simp only [List.setIfInBounds_toArray, List.set_cons_zero, List.set_cons_succ]
      refine anyH_take (i := 23) (d := 93) (v := ?v23) rfl rfl (by kernel_rfl) (by kernel_rfl) (by kernel_rfl) (fun _ _ _ h => h) (Or.inl ⟨by rfl, ?y23⟩) Q3 ?r23
      case y23 => (intro w; go_simp; try with_reducible rfl)
      simp only [List.setIfInBounds_toArray, List.set_cons_zero, List.set_cons_succ]
      refine anyH_load (i := 24) (d := 94) rfl rfl (by kernel_rfl) (by kernel_rfl) (by kernel_rfl) (by rfl) 28 _ rfl w2.heap.size 0 rfl D _ (fun _ h => h) Try.underlying28 rfl hid (fun _ _ _ h => h) Q3 ?_
      simp only [List.setIfInBounds_toArray, List.set_cons_zero, List.set_cons_succ]
      refine anyH_one (i := 25) (by kernel_rfl) ?_
      refine wpOp_step rfl (fun K hK => ?_)
      go_simp
      refine (ku_tagE 34 0 (dg 1) D 0 T2 J3.out.1 (by rw [Ht.out.2.2.1]; decide) (by decide) (by decide) (dg_len 1) HD.out (by decide) Ht.out.2.2.2.2.2.1).mono ?_
      rintro e v4 ⟨rfl, hk, ho⟩
      have J4 := Lib.hid (And.intro hk (And.intro (ho.blk J3.out.2.1 Hn.out.1) (ho.blk J3.out.2.2 Hn.out.2.1)))
      have Q4 : World.rangeAt v4 w2.heap.size 0 D := J4.out.2.1.range
      clear hk ho
      refine hK _ _ ⟨Q4, ?_⟩
      clear hK K
      refine anyH_take (i := 26) (d := 96) (v := ?v26) rfl rfl (by kernel_rfl) (by kernel_rfl) (by kernel_rfl) (fun _ _ _ h => h) (Or.inl ⟨by rfl, ?y26⟩) Q4 ?r26
      case y26 => (intro w; go_simp; try with_reducible rfl)
      simp only [List.setIfInBounds_toArray, List.set_cons_zero, List.set_cons_succ]
      refine anyH_take (i := 27) (d := 97) (v := ?v27) rfl rfl (by kernel_rfl) (by kernel_rfl) (by kernel_rfl) (fun _ _ _ h => h) (Or.inl ⟨by rfl, ?y27⟩) Q4 ?r27
      case y27 => (intro w; go_simp; try with_reducible rfl)
      simp only [List.setIfInBounds_toArray, List.set_cons_zero, List.set_cons_succ]
      refine anyH_take (i := 28) (d := 98) (v := ?v28) rfl rfl (by kernel_rfl) (by kernel_rfl) (by kernel_rfl) (fun _ _ _ h => h) (Or.inl ⟨by rfl, ?y28⟩) Q4 ?r28
      case y28 => (intro w; go_simp; try with_reducible rfl)
      simp only [List.setIfInBounds_toArray, List.set_cons_zero, List.set_cons_succ]
      refine anyH_take (i := 29) (d := 99) (v := ?v29) rfl rfl (by kernel_rfl) (by kernel_rfl) (by kernel_rfl) (fun _ _ _ h => h) (Or.inl ⟨by rfl, ?y29⟩) Q4 ?r29
      case y29 => (intro w; go_simp; try with_reducible rfl)
      simp only [List.setIfInBounds_toArray, List.set_cons_zero, List.set_cons_succ]
      refine anyH_load (i := 30) (d := 100) rfl rfl (by kernel_rfl) (by kernel_rfl) (by kernel_rfl) (by rfl) 28 _ rfl w2.heap.size 0 rfl D _ (fun _ h => h) Try.underlying28 rfl hid (fun _ _ _ h => h) Q4 ?_
      simp only [List.setIfInBounds_toArray, List.set_cons_zero, List.set_cons_succ]
      refine anyH_one (i := 31) (by kernel_rfl) ?_
      refine wpOp_step rfl (fun K hK => ?_)
      go_simp
      refine (ku_checkE 34 0 (dg 1) D true J4.out.1 (by decide) (by decide) (by decide) (dg_len 1) HD.out Ht.out.2.2.2.2.2.2.2.1).mono ?_
      rintro e v5 ⟨rfl, hk, ho⟩
      have J5 := Lib.hid (And.intro hk (And.intro (ho.blk J4.out.2.1 Hn.out.1) (ho.blk J4.out.2.2 Hn.out.2.1)))
      have Q5 : World.rangeAt v5 w2.heap.size 0 D := J5.out.2.1.range
      clear hk ho
      refine hK _ _ ⟨Q5, ?_⟩
      clear hK K
      refine anyH_take (i := 32) (d := 102) (v := ?v32) rfl rfl (by kernel_rfl) (by kernel_rfl) (by kernel_rfl) (fun _ _ _ h => h) (Or.inl ⟨by rfl, ?y32⟩) Q5 ?r32
      case y32 => (intro w; go_simp; try with_reducible rfl)
      simp only [List.setIfInBounds_toArray, List.set_cons_zero, List.set_cons_succ]
      refine anyH_take (i := 33) (d := 103) (v := ?v33) rfl rfl (by kernel_rfl) (by kernel_rfl) (by kernel_rfl) (fun _ _ _ h => h) (Or.inl ⟨by rfl, ?y33⟩) Q5 ?r33
      case y33 => (intro w; go_simp; try with_reducible rfl)
      simp only [List.setIfInBounds_toArray, List.set_cons_zero, List.set_cons_succ]
      refine anyH_take (i := 34) (d := 104) (v := ?v34) rfl rfl (by kernel_rfl) (by kernel_rfl) (by kernel_rfl) (fun _ _ _ h => h) (Or.inl ⟨by rfl, ?y34⟩) Q5 ?r34
      case y34 => (intro w; go_simp; try with_reducible rfl)
      simp only [List.setIfInBounds_toArray, List.set_cons_zero, List.set_cons_succ]
      refine anyH_load (i := 35) (d := 105) rfl rfl (by kernel_rfl) (by kernel_rfl) (by kernel_rfl) (by rfl) 28 _ rfl w2.heap.size 0 rfl D _ (fun _ h => h) Try.underlying28 rfl hid (fun _ _ _ h => h) Q5 ?_
      simp only [List.setIfInBounds_toArray, List.set_cons_zero, List.set_cons_succ]
      refine anyH_one (i := 36) (by kernel_rfl) ?_
      refine wpOp_step rfl (fun K hK => ?_)
      go_simp
      refine (ku_checkE 34 99 (dg 1) D true J5.out.1 (by decide) (by decide) (by decide) (dg_len 1) HD.out Ht.out.2.2.2.2.2.2.2.2.1).mono ?_
      rintro e v6 ⟨rfl, hk, ho⟩
      have J6 := Lib.hid (And.intro hk (And.intro (ho.blk J5.out.2.1 Hn.out.1) (ho.blk J5.out.2.2 Hn.out.2.1)))
      have Q6 : World.rangeAt v6 w2.heap.size 0 D := J6.out.2.1.range
      clear hk ho
      refine hK _ _ ⟨Q6, ?_⟩
      clear hK K
      refine anyH_take (i := 37) (d := 107) (v := ?v37) rfl rfl (by kernel_rfl) (by kernel_rfl) (by kernel_rfl) (fun _ _ _ h => h) (Or.inl ⟨by rfl, ?y37⟩) Q6 ?r37
      case y37 => (intro w; go_simp; try with_reducible rfl)
      simp only [List.setIfInBounds_toArray, List.set_cons_zero, List.set_cons_succ]
      refine anyH_take (i := 38) (d := 108) (v := ?v38) rfl rfl (by kernel_rfl) (by kernel_rfl) (by kernel_rfl) (fun _ _ _ h => h) (Or.inl ⟨by rfl, ?y38⟩) Q6 ?r38
      case y38 => (intro w; go_simp; try with_reducible rfl)
      simp only [List.setIfInBounds_toArray, List.set_cons_zero, List.set_cons_succ]
      refine anyH_take (i := 39) (d := 109) (v := ?v39) rfl rfl (by kernel_rfl) (by kernel_rfl) (by kernel_rfl) (fun _ _ _ h => h) (Or.inl ⟨by rfl, ?y39⟩) Q6 ?r39
      case y39 => (intro w; go_simp; try with_reducible rfl)
      simp only [List.setIfInBounds_toArray, List.set_cons_zero, List.set_cons_succ]
      refine anyH_load (i := 40) (d := 110) rfl rfl (by kernel_rfl) (by kernel_rfl) (by kernel_rfl) (by rfl) 28 _ rfl w2.heap.size 0 rfl D _ (fun _ h => h) Try.underlying28 rfl hid (fun _ _ _ h => h) Q6 ?_
      simp only [List.setIfInBounds_toArray, List.set_cons_zero, List.set_cons_succ]
      refine anyH_one (i := 41) (by kernel_rfl) ?_
      refine wpOp_step rfl (fun K hK => ?_)
      go_simp
      refine (ku_vecE 1 none 0 0 [] (dg 1) D 0 T2 J6.out.1 (by rw [Ht.out.2.2.2.2.2.2.1]; decide) (by decide) (ArgI.none _) (dg_len 1) HD.out (by decide) Ht.out.2.2.2.2.2.2.2.2.2.1).mono ?_
      rintro e v7 ⟨rfl, hk, ho⟩
      have J7 := Lib.hid (And.intro hk (And.intro (ho.blk J6.out.2.1 Hn.out.1) (ho.blk J6.out.2.2 Hn.out.2.1)))
      have Q7 : World.rangeAt v7 w2.heap.size 0 D := J7.out.2.1.range
      clear hk ho
      refine hK _ _ ⟨Q7, ?_⟩
      clear hK K
      refine anyH_take (i := 42) (d := 112) (v := ?v42) rfl rfl (by kernel_rfl) (by kernel_rfl) (by kernel_rfl) (fun _ _ _ h => h) (Or.inl ⟨by rfl, ?y42⟩) Q7 ?r42
      case y42 => (intro w; go_simp; try with_reducible rfl)
      simp only [List.setIfInBounds_toArray, List.set_cons_zero, List.set_cons_succ]
      refine anyH_take (i := 43) (d := 113) (v := ?v43) rfl rfl (by kernel_rfl) (by kernel_rfl) (by kernel_rfl) (fun _ _ _ h => h) (Or.inl ⟨by rfl, ?y43⟩) Q7 ?r43
      case y43 => (intro w; go_simp; try with_reducible rfl)
      simp only [List.setIfInBounds_toArray, List.set_cons_zero, List.set_cons_succ]
      refine anyH_take (i := 44) (d := 114) (v := ?v44) rfl rfl (by kernel_rfl) (by kernel_rfl) (by kernel_rfl) (fun _ _ _ h => h) (Or.inl ⟨by rfl, ?y44⟩) Q7 ?r44
      case y44 => (intro w; go_simp; try with_reducible rfl)
      simp only [List.setIfInBounds_toArray, List.set_cons_zero, List.set_cons_succ]
      refine anyH_take (i := 45) (d := 115) (v := ?v45) rfl rfl (by kernel_rfl) (by kernel_rfl) (by kernel_rfl) (fun _ _ _ h => h) (Or.inl ⟨by rfl, ?y45⟩) Q7 ?r45
      case y45 => (intro w; go_simp; try with_reducible rfl)
      simp only [List.setIfInBounds_toArray, List.set_cons_zero, List.set_cons_succ]
      refine anyH_one (i := 46) (by kernel_rfl) ?_
      refine wpOp_step rfl (fun K hK => ?_)
      go_simp
      have hl2 := len_any g m _ _ _ J7.out.1.1
      rw [Ht.out.2.2.2.2.2.2.1] at hl2
      refine hl2.mono ?_
      clear hl2
      rintro e w' ⟨rfl, rfl⟩
      refine hK _ _ ⟨Q7, ?_⟩
      clear hK K
      refine anyH_take (i := 47) (d := 117) (v := ?v47) rfl rfl (by kernel_rfl) (by kernel_rfl) (by kernel_rfl) (fun _ _ _ h => h) (Or.inl ⟨by rfl, ?y47⟩) Q7 ?r47
      case y47 => (intro w; go_simp; try with_reducible rfl)
      simp only [List.setIfInBounds_toArray, List.set_cons_zero, List.set_cons_succ]
      refine anyH_take (i := 48) (d := 118) (v := ?v48) rfl rfl (by kernel_rfl) (by kernel_rfl) (by kernel_rfl) (fun _ _ _ h => h) (Or.inl ⟨by rfl, ?y48⟩) Q7 ?r48
      case y48 => (intro w; go_simp; try with_reducible rfl)
      simp only [List.setIfInBounds_toArray, List.set_cons_zero, List.set_cons_succ]
      refine anyH_take (i := 49) (d := 6) (v := ?v49) rfl rfl (by kernel_rfl) (by kernel_rfl) (by kernel_rfl) (fun _ _ _ h => h) (Or.inl ⟨by rfl, ?y49⟩) Q7 ?r49
      case y49 => (intro w; go_simp; try with_reducible rfl)
      simp only [List.setIfInBounds_toArray, List.set_cons_zero, List.set_cons_succ]
      refine wpAnyH_done (by kernel_rfl) ?_ _
      have H9 := Lib.hid (And.intro J7.out.1.bel J7.out.2.1)
      clear J0 J1 J2 J3 J4 J5 J6 J7 Q0 Q1 Q2 Q3 Q4 Q5 Q6 Q7 K hA34 hid Ht HZ hmk
      go_wp2
      go_loopw [7, 8] (fun pv v wr => ∃ j : Nat, j ≤ 2 ∧ v = .int .i64 j ∧ NoLed wr pv ∧ Below w.heap.size w wr ∧ Blk wr w2.heap.size 28 D) (fun _ v _ => 2 - (intOf v).toNat)
      case atStart => exact ⟨0, by omega, rfl, .inl rfl, H9.out.1, H9.out.2⟩
      case round =>
        obtain ⟨j, hj, rfl, hNo, hbe, hBd⟩ := hrel
        have hi0 : (0 : Int) ≤ j := by omega
        by_cases hlt : j < 2
        · have hi1 : (j : Int) < 2 := by omega
          have K := Lib.hid (And.intro hNo (And.intro hBd hbe))
          clear hNo hBd hbe
          go_wp2_with (first
            | (refine load_row_g (by rfl) 28 _ rfl w2.heap.size rfl 28 D.toArray (0, 0) _ K.out.2.1 Try.underlying28 rfl Hst.out.2.1 ?_; simp only [Act.put])
            | (refine load_row_g (by rfl) 28 _ rfl w2.heap.size rfl 28 D.toArray (0, 0) _ (K.out.2.1.old _) Try.underlying28 rfl Hst.out.2.1 ?_; simp only [Act.put]))
          refine (tag_none _ 1 2 D _ K.out.1).mono ?_
          rintro e x1 ⟨rfl, hb⟩
          have K' := Lib.hid (And.intro (K.out.1.below hb) (And.intro (Blk.below K.out.2.1 hb (Blk.lt K.out.2.1)) (K.out.2.2.trans (hb.mono K.out.2.2.size))))
          clear hb K
          have K := K'
          clear K'
          go_wp2_with (first
            | (refine load_row_g (by rfl) 28 _ rfl w2.heap.size rfl 28 D.toArray (0, 0) _ K.out.2.1 Try.underlying28 rfl Hst.out.2.1 ?_; simp only [Act.put])
            | (refine load_row_g (by rfl) 28 _ rfl w2.heap.size rfl 28 D.toArray (0, 0) _ (K.out.2.1.old _) Try.underlying28 rfl Hst.out.2.1 ?_; simp only [Act.put]))
          refine (vec_none _ 1 _ 1 1 D _ (K.out.1.below ((Below.refl _ _).alloc (Nat.le_refl _) _))).mono ?_
          rintro e x2 ⟨rfl, hb⟩
          have K' := Lib.hid (And.intro ((K.out.1.below ((Below.refl _ _).alloc (Nat.le_refl _) _)).below hb) (And.intro (Blk.below (K.out.2.1.old _) hb (Blk.lt (K.out.2.1.old _))) ((K.out.2.2).trans ((((Below.refl _ _).alloc (Nat.le_refl _) _).trans (hb.mono (by simp))).mono K.out.2.2.size))))
          clear hb K
          have K := K'
          clear K'
          go_wp2_with (first
            | (refine load_row_g (by rfl) 28 _ rfl w2.heap.size rfl 28 D.toArray (0, 0) _ K.out.2.1 Try.underlying28 rfl Hst.out.2.1 ?_; simp only [Act.put])
            | (refine load_row_g (by rfl) 28 _ rfl w2.heap.size rfl 28 D.toArray (0, 0) _ (K.out.2.1.old _) Try.underlying28 rfl Hst.out.2.1 ?_; simp only [Act.put]))
          refine (check_none _ 1 2 D _ K.out.1).mono ?_
          rintro e x3 ⟨rfl, hb⟩
          have K' := Lib.hid (And.intro (K.out.1.below hb) (And.intro (Blk.below K.out.2.1 hb (Blk.lt K.out.2.1)) (K.out.2.2.trans (hb.mono K.out.2.2.size))))
          clear hb K
          have K := K'
          clear K'
          have Hl := Lib.hid (len_none _ _ K.out.1)
          have Ha := Lib.hid (asked_none _ _ K.out.1)
          go_wp2_with (first
            | (go_at_call 23; refine Hl.out.mono ?_; rintro e w' ⟨rfl, rfl⟩)
            | (go_at_call 25; refine Ha.out.mono ?_; rintro e w' ⟨rfl, rfl⟩))
          go_roundw
          case rel =>
            refine ⟨_, _, _, _, _, _, _, _, _, _, _, _, _, _, _, _, _, _, _, _, _, _, _, _, _, _, _, _, _, _, _, _, _, _, _, ?rr, rfl⟩
            exact ⟨j + 1, by omega, by go_num, NoLed.made rfl rfl, K.out.2.2.alloc K.out.2.2.size _, K.out.2.1.old _⟩
          case measure => simp [intOf]; omega
        · have hi1 : ¬ (j : Int) < 2 := by omega
          have H3 := Lib.hid hbe
          clear hNo hBd hbe
          go_wp2_with (go_at_call 27; refine (works4_any _).mono ?_; rintro e wz ⟨rfl, hbz⟩)
          go_ret
          exact ⟨rfl, H3.out.trans (hbz.mono H3.out.size)⟩

end Go.Proofs.Ytoidiacofgmigaa.tagKnown
