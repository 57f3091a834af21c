/-
  Laid together for a hand-in: Nt9, Ne9, Nf9, Ng9.
-/
import Derived.Test.YtbdocaohnigekaaZ14
import Derived.Deep.DeepCutAuto

namespace Go.Proofs.Ytbdocaohnigekaa
open Go.RowKit Go.Maps
set_option linter.unusedVariables false

set_option maxRecDepth 100000 in
set_option maxHeartbeats 800000 in
theorem leaf_none (bv : Value) (A : Option Addr) (n cp : Nat) (x : List UInt8) (w : World) (h : NoBook w bv)
    (hB : Bs w A x) (hn : x.length = n) (hc : n ≤ cp) (hcm : cp ≤ maxLen) (hs : n ≤ 65535) :
    Calls Try.prog 23 #[bv, .slice A n cp] w fun e w' => e = .returned (.tuple #[.agg (cbs (List.replicate 32 0)).toArray, .int .i64 1]) ∧ Below w.heap.size w w' := by
  obtain ⟨D, hD32, hDv, hD1⟩ : ∃ D : List Value, D.length = 32 ∧ cbs (List.replicate 32 0) = D ∧ D.toArray.all (·.oneCell') = true := ⟨cbs (List.replicate 32 0), rfl, rfl, cbs_one' _⟩
  have hb1 : Below w.heap.size w (w.alloc (.cells (cbs (List.replicate 32 0)).toArray 38)) := (Below.refl _ _).alloc (Nat.le_refl _) _
  have hZ1 : Blk (w.alloc (.cells (cbs (List.replicate 32 0)).toArray 38)) w.heap.size 38 (cbs (List.replicate 32 0)) := Blk.new rfl rfl
  have hls := two_lss (w.alloc (.cells (cbs (List.replicate 32 0)).toArray 38)) A n cp x (hB.after hb1) hn hc hcm 5 34
  rw [World.size_alloc] at hls
  have hfl : ([[0], x] : List (List UInt8)).flatten = leafIn x := by simp [leafIn]
  have hcat := concat_any (some ⟨w.heap.size + 1 + 1, 0, none⟩) 2 2 [[0], x] _ hls rfl (by omega) (by rw [hfl, leafIn_len]; omega)
  rw [hfl] at hcat
  have Hcat := Lib.hid hcat
  have H1 := Lib.hid (And.intro hb1 hZ1)
  have Ho := Lib.hid (And.intro hD32 (And.intro hDv hD1))
  have Hh := Lib.hid h
  clear hcat hls hb1 hZ1 hD32 hDv hD1 h hB hn hc hcm hfl
  have hgoal := Ho.out.2.1
  rw [hgoal]
  clear hgoal
  go_enter Try.func23, Try.ntmps23
  go_wp2_with (go_at_call 34; refine (isLong_no A n cp _ hs).mono ?_; rintro e w' ⟨rfl, rfl⟩)
  refine Hcat.out.mono ?_
  rintro e w2 ⟨v, rfl, hm2, hb2⟩
  have hbA : Below w.heap.size w w2 := ((H1.out.1.alloc (by simp) _).alloc (by simp; omega) _).trans (hb2.mono (by simp; omega))
  have hbB : Below (w.heap.size + 1) (w.alloc (.cells (cbs (List.replicate 32 0)).toArray 38)) w2 := (((Below.refl _ _).alloc (by simp) _).alloc (by simp) _).trans (hb2.mono (by simp))
  have hZ2 : Blk w2 w.heap.size 38 (cbs (List.replicate 32 0)) := H1.out.2.below hbB (by omega)
  obtain ⟨Av, cv, rfl, hcv, hcvm, hBv⟩ := Mine.form hm2
  have hof := bof_none bv Av (leafIn x).length cv w2 (Hh.out.below hbA)
  rw [Ho.out.2.1] at hof
  have Hof := Lib.hid hof
  have H2 := Lib.hid (And.intro hbA hZ2)
  have hlt2 := hZ2.lt
  clear hof hm2 hb2 hbA hbB hZ2 hcv hcvm hBv
  go_wp2_with fail
  refine Hof.out.mono ?_
  rintro e w3 ⟨rfl, hG3⟩
  have hZ3 := H2.out.2.below hG3 hlt2
  have hsD : D.toArray.size = 32 := by rw [List.size_toArray]; exact Ho.out.1
  have hth : w3.there w.heap.size 0 D.toArray.size := by
    have e := hZ3.there
    rw [cbs_length, List.length_replicate] at e
    rw [hsD]; exact e
  have hi : (Try.prog.info? 38).map (·.size) = some D.toArray.size := by rw [hsD]; exact info32b
  have hR := hZ3.setAll (vs := D) (by rw [Ho.out.1, cbs_length, List.length_replicate])
  have hGf : Below w.heap.size w (w3.setCells w.heap.size 0 D) := Below.setCells (Nat.le_refl _) D (H2.out.1.trans (hG3.mono H2.out.1.size))
  have Hth := Lib.hid hth
  have Hi := Lib.hid hi
  have H3 := Lib.hid (And.intro hR hGf)
  clear hZ3 hsD hth hi hR hGf hG3 hlt2
  go_wp2_with (refine wpList_store_mid rfl 38 _ _ rfl w.heap.size 0 D.toArray rfl rfl Hth.out Hi.out Ho.out.2.2 ?_)
  refine bodyPost_ret (results_row_tmp rfl _ _ w.heap.size 38 D.toArray (0, 0) _ rfl H3.out.1 Try.underlying38 rfl Hi.out) rfl ?_
  exact ⟨rfl, H3.out.2⟩


set_option maxRecDepth 100000 in
set_option maxHeartbeats 1600000 in
theorem up_none (bv : Value) (A : Option Addr) (m cp : Nat) (ds : List Dg) (w : World) (h : NoBook w bv)
    (hD : Ds w A ds) (h32 : All32 ds) (hm : ds.length = m) (h1 : 1 ≤ m) (h4 : m ≤ 4) :
    Calls Try.prog 22 #[bv, .slice A m cp] w fun e w' => e = .returned (.tuple #[.agg (cbs (List.replicate 32 0)).toArray, .int .i64 1]) ∧ Below w.heap.size w w' := by
  obtain ⟨D, hD32, hDv, hD1⟩ : ∃ D : List Value, D.length = 32 ∧ cbs (List.replicate 32 0) = D ∧ D.toArray.all (·.oneCell') = true := ⟨cbs (List.replicate 32 0), rfl, rfl, cbs_one' _⟩
  have hb1 : Below w.heap.size w (w.alloc (.cells (cbs (List.replicate 32 0)).toArray 38)) := (Below.refl _ _).alloc (Nat.le_refl _) _
  have hZ1 : Blk (w.alloc (.cells (cbs (List.replicate 32 0)).toArray 38)) w.heap.size 38 (cbs (List.replicate 32 0)) := Blk.new rfl rfl
  have hM1 : Mine ((w.alloc (.cells (cbs (List.replicate 32 0)).toArray 38)).alloc (.cells #[.int .u8 1] 5)) (w.heap.size + 1) 5 (.slice (some ⟨w.heap.size + 1, 0, none⟩) 1 1) (1 :: (ds.take 0).flatten) := Mine.one (x := 1) (by simp) (Nat.le_refl _) rfl
  have hb2 := hb1.alloc (by simp) (.cells #[.int .u8 1] 5)
  have hb3 : Below (w.heap.size + 1) (w.alloc (.cells (cbs (List.replicate 32 0)).toArray 38)) ((w.alloc (.cells (cbs (List.replicate 32 0)).toArray 38)).alloc (.cells #[.int .u8 1] 5)) := (Below.refl _ _).alloc (by simp) _
  have H1 := Lib.hid (And.intro hb1 (And.intro hZ1 (And.intro hM1 (And.intro hb2 hb3))))
  have Ho := Lib.hid (And.intro hD32 (And.intro hDv hD1))
  have Hh := Lib.hid (And.intro h (And.intro trivial (And.intro trivial (And.intro hm (And.intro hD h32)))))
  have hm1 : ¬ ((m : Int) < 1) := by omega
  have hm4 : ¬ ((4 : Int) < m) := by omega
  clear hb1 hZ1 hM1 hb2 hb3 hD32 hDv hD1 h hm hD h32
  rw [Ho.out.2.1]
  go_enter Try.func22, Try.ntmps22
  go_wp2
  go_loopw [6, 8, 21] (fun v _ i wr => ∃ k : Nat, k ≤ m ∧ i = .int .i64 k ∧ Mine wr (w.heap.size + 1) 5 v (1 :: (ds.take k).flatten) ∧ Below w.heap.size w wr ∧ Blk wr w.heap.size 38 (cbs (List.replicate 32 0))) (fun _ _ i _ => m - (intOf i).toNat)
  case atStart => exact ⟨0, Nat.zero_le _, rfl, H1.out.2.2.1, H1.out.2.2.2.1, H1.out.2.1.below H1.out.2.2.2.2 (by omega)⟩
  case round =>
    obtain ⟨k, hk, rfl, hM, hB, hZ⟩ := hrel
    by_cases hlt : k < m
    · obtain ⟨b, off, rfl, hb, hr⟩ := (Hh.out.2.2.2.2.1.after hB).at_ Hh.out.2.2.2.2.2 (i := k) (by rw [Hh.out.2.2.2.1]; exact hlt)
      have hx32 : (ds[k]'(by rw [Hh.out.2.2.2.1]; exact hlt)).length = 32 := Hh.out.2.2.2.2.2 _ (List.getElem_mem _)
      have hst := flat_step9 ds k (by rw [Hh.out.2.2.2.1]; exact hlt)
      have hlen : (1 :: (ds.take k).flatten).length + 32 ≤ 140737488355328 := by
        have := flat_len (l := ds.take k) (fun x hx => Hh.out.2.2.2.2.2 x (List.mem_of_mem_take hx))
        rw [List.length_cons, this, List.length_take]; omega
      generalize (ds[k]'(by rw [Hh.out.2.2.2.1]; exact hlt)) = x at *
      obtain ⟨X, hX⟩ : ∃ X, cbs x = X := ⟨_, rfl⟩
      have hX32 : X.length = 32 := by rw [← hX, cbs_length, hx32]
      have hX1 : X.toArray.all (·.oneCell') = true := by rw [← hX]; exact cbs_one' _
      rw [hX] at hr
      have hXi : (Try.prog.info? 38).map (·.size) = some X.length := by rw [hX32]; exact info32b
      obtain ⟨wS, hwS, ⟨hth, hi⟩, hbS, hbel, hszS⟩ := dig_local wr X hX32
      have hBx : Bs wS (some ⟨wr.heap.size, 0, none⟩) x := Bs.ofBlk (by rw [hX]; exact hbS)
      have hMS : Mine wS (w.heap.size + 1) 5 _ (1 :: (ds.take k).flatten) := hM.after hbel
      have hBS : Below w.heap.size w wS := hB.trans (hbel.mono hB.size)
      have hZS : Blk wS w.heap.size 38 (cbs (List.replicate 32 0)) := hZ.below hbel hZ.lt
      have hgeS : w.heap.size + 1 ≤ wS.heap.size := by have := hZS.lt; omega
      have HwS := Lib.hid hwS
      have Hst := Lib.hid hst
      have Hl := Lib.hid (And.intro hx32 hlen)
      have Hr := Lib.hid (And.intro hr hXi)
      have Hs := Lib.hid (And.intro hth (And.intro hi hX1))
      have Hm := Lib.hid (And.intro hMS (And.intro hBx (And.intro hBS (And.intro hZS hgeS))))
      clear hwS hst hx32 hlen hr hXi hth hi hX1 hMS hBx hBS hZS hbS hbel hM hZ hX32 hX hszS hgeS
      go_wp2_with (first
        | (refine wpList_load_mid rfl 38 _ rfl b (off + k * 32) rfl X _ Hr.out.1 Try.underlying38 rfl Hr.out.2 ?_; simp only [Act.put])
        | (refine wpList_store_mid rfl 38 _ _ rfl wr.heap.size 0 X.toArray rfl rfl Hs.out.1 Hs.out.2.1 Hs.out.2.2 ?_; simp only [Act.put]; refine cast (congrArg (fun z => wpList _ _ _ _ _ z) HwS.out.symm) ?_)
        | (at_builtin; refine wp_appendB rfl _ _ rfl (w.heap.size + 1) _ _ rfl Hm.out.1 (some ⟨wr.heap.size, 0, none⟩) 32 32 x rfl Hm.out.2.1 Hl.out.1 Hl.out.2 Hm.out.2.2.2.2 ?_; intro v2 w2 hm2 hg2 ho2))
      go_roundw
      case rel =>
        have hw2 : Below w.heap.size w w2 := Hm.out.2.2.1.grown hg2 Hm.out.2.2.1.size fun j hj => by have := (World.ownsRow.lt Hm.out.1 j hj).1; omega
        have hz2 : Blk w2 w.heap.size 38 (cbs (List.replicate 32 0)) := (hg2.block _ Hm.out.2.2.2.1.lt fun e => by have := (World.ownsRow.lt Hm.out.1 _ e.symm).1; omega).trans Hm.out.2.2.2.1
        exact ⟨k + 1, by omega, by go_num, by rw [Hst.out]; exact hm2, hw2, hz2⟩
      case measure => simp [intOf]; omega
    · obtain rfl : k = m := by omega
      have Hst : Hid (1 :: (ds.take k).flatten = upIn ds) := by
        show _ = _; rw [List.take_of_length_le (by rw [Hh.out.2.2.2.1]; omega)]; rfl
      rw [Hst.out] at hM
      obtain ⟨Av, cv, rfl, hcv, hcvm, hBv⟩ := Mine.form hM
      have hof := bof_none bv Av (upIn ds).length cv wr (Hh.out.1.below hB)
      rw [Ho.out.2.1] at hof
      have Hof := Lib.hid hof
      have H2 := Lib.hid (And.intro hB hZ)
      have hlt2 := hZ.lt
      clear hof hM hB hZ hcv hcvm hBv
      go_wp2_with fail
      refine Hof.out.mono ?_
      rintro e w3 ⟨rfl, hG3⟩
      have hZ3 := H2.out.2.below hG3 hlt2
      have hsD : D.toArray.size = 32 := by rw [List.size_toArray]; exact Ho.out.1
      have hth : w3.there w.heap.size 0 D.toArray.size := by
        have e := hZ3.there
        rw [cbs_length, List.length_replicate] at e
        rw [hsD]; exact e
      have hi : (Try.prog.info? 38).map (·.size) = some D.toArray.size := by rw [hsD]; exact info32b
      have hR := hZ3.setAll (vs := D) (by rw [Ho.out.1, cbs_length, List.length_replicate])
      have hGf : Below w.heap.size w (w3.setCells w.heap.size 0 D) := Below.setCells (Nat.le_refl _) D (H2.out.1.trans (hG3.mono H2.out.1.size))
      have Hth := Lib.hid hth
      have Hi := Lib.hid hi
      have H3 := Lib.hid (And.intro hR hGf)
      clear hZ3 hsD hth hi hR hGf hG3 hlt2
      go_wp2_with (refine wpList_store_mid rfl 38 _ _ rfl w.heap.size 0 D.toArray rfl rfl Hth.out Hi.out Ho.out.2.2 ?_)
      refine bodyPost_ret (results_row_tmp rfl _ _ w.heap.size 38 D.toArray (0, 0) _ rfl H3.out.1 Try.underlying38 rfl Hi.out) rfl ?_
      exact ⟨rfl, H3.out.2⟩


def NoTree (w : World) (v : Value) : Prop := v = .pointer none ∨ ∃ t, v = .pointer (some ⟨t, 0, none⟩) ∧ t < w.heap.size ∧ w.cell? ⟨t, 2, none⟩ = some (.slice none 0 0)
theorem NoTree.below {w w' : World} {v : Value} (h : NoTree w v) (hb : Below w.heap.size w w') : NoTree w' v := by
  rcases h with rfl | ⟨g, rfl, hlt, h⟩
  · exact .inl rfl
  · exact .inr ⟨g, rfl, Nat.lt_of_lt_of_le hlt hb.size, (hb.cell hlt).trans h⟩
set_option maxRecDepth 100000 in
theorem tnone_yes (v : Value) (w : World) (h : NoTree w v) : Calls Try.prog 31 #[v] w fun e w' => e = .returned (.bool true) ∧ w' = w := by
  rcases h with rfl | ⟨g, rfl, _hlt, h⟩
  · go_enter Try.func31, Try.ntmps31
    go_wp2
    go_ret
    exact ⟨rfl, rfl⟩
  · go_enter Try.func31, Try.ntmps31
    go_wp2
    go_ret
    exact ⟨rfl, rfl⟩
theorem tdepth_none (v : Value) (w : World) (h : NoTree w v) : Calls Try.prog 21 #[v] w fun e w' => e = .returned (.int .i64 0) ∧ w' = w := by
  have Hno := Lib.hid (tnone_yes v w h)
  clear h
  go_enter Try.func21, Try.ntmps21
  go_wp2_with (go_at_call 31; refine Hno.out.mono ?_; rintro e w' ⟨rfl, rfl⟩)
  go_ret
  exact ⟨rfl, rfl⟩
theorem tleaves_none (v : Value) (w : World) (h : NoTree w v) : Calls Try.prog 26 #[v] w fun e w' => e = .returned (.int .i64 0) ∧ w' = w := by
  have Hno := Lib.hid (tnone_yes v w h)
  clear h
  go_enter Try.func26, Try.ntmps26
  go_wp2_with (go_at_call 31; refine Hno.out.mono ?_; rintro e w' ⟨rfl, rfl⟩)
  go_ret
  exact ⟨rfl, rfl⟩
theorem tlevel_none (v : Value) (i : Int) (w : World) (h : NoTree w v) : Calls Try.prog 20 #[v, .int .i64 i] w fun e w' => e = .returned (.tuple #[.slice none 0 0, .int .i64 1]) ∧ w' = w := by
  have Hno := Lib.hid (tnone_yes v w h)
  clear h
  go_enter Try.func20, Try.ntmps20
  go_wp2_with (go_at_call 31; refine Hno.out.mono ?_; rintro e w' ⟨rfl, rfl⟩)
  go_ret2
  exact ⟨rfl, rfl⟩
theorem tset_none (v : Value) (i : Int) (w : World) (h : NoTree w v) : Calls Try.prog 14 #[v, .int .i64 i, .slice none 0 0] w fun e w' => e = .returned (.int .i64 1) ∧ w' = w := by
  have Hno := Lib.hid (tnone_yes v w h)
  clear h
  go_enter Try.func14, Try.ntmps14
  go_wp2_with (go_at_call 31; refine Hno.out.mono ?_; rintro e w' ⟨rfl, rfl⟩)
  go_ret
  exact ⟨rfl, rfl⟩

set_option maxRecDepth 100000 in
theorem troot_none (v : Value) (w : World) (h : NoTree w v) : Calls Try.prog 27 #[v] w fun e w' => e = .returned (.tuple #[.agg (cbs (List.replicate 32 0)).toArray, .int .i64 1]) ∧ Below w.heap.size w w' := by
  have b0 : Below w.heap.size w (w.alloc (.cells (cbs (List.replicate 32 0)).toArray 38)) := (Below.refl _ _).alloc (Nat.le_refl _) _
  have Hno := Lib.hid (tnone_yes v _ (h.below b0))
  have hZ : Blk (w.alloc (.cells (cbs (List.replicate 32 0)).toArray 38)) w.heap.size 38 (cbs (List.replicate 32 0)) := Blk.new rfl rfl
  have hth : (w.alloc (.cells (cbs (List.replicate 32 0)).toArray 38)).there w.heap.size 0 (cbs (List.replicate 32 0)).toArray.size := hZ.there
  have hR := hZ.setAll (vs := cbs (List.replicate 32 0)) rfl
  have hb1 : Below w.heap.size w ((w.alloc (.cells (cbs (List.replicate 32 0)).toArray 38)).setCells w.heap.size 0 (cbs (List.replicate 32 0))) := Below.setCells (Nat.le_refl _) _ b0
  have Hb := Lib.hid (And.intro hth (And.intro hR hb1))
  clear h b0 hZ hth hR hb1
  go_enter Try.func27, Try.ntmps27
  go_wp2_with (first | (go_at_call 31; refine Hno.out.mono ?_; rintro e w' ⟨rfl, rfl⟩) | (refine wpList_store_mid rfl 38 _ _ rfl w.heap.size 0 (cbs (List.replicate 32 0)).toArray rfl rfl Hb.out.1 info32b (cbs_one' _) ?_))
  refine bodyPost_ret (results_row_tmp rfl _ _ w.heap.size 38 (cbs (List.replicate 32 0)).toArray (0, 0) _ rfl Hb.out.2.1 Try.underlying38 rfl info32b) rfl ?_
  exact ⟨rfl, Hb.out.2.2⟩
theorem tnew_bad9 (v : Value) (n : Int) (w : World) (h : n < 1 ∨ 1024 < n) : Calls Try.prog 13 #[v, .int .i64 n] w fun e w' => e = .returned (.tuple #[.pointer none, .int .i64 2]) ∧ w' = w := by
  have hnot : ∀ (x : Bool) (w : World), (Op.unary .not (.bool x)).run Try.prog w = .ok (.bool (!x)) w := fun _ _ => rfl
  go_enter Try.func13, Try.ntmps13
  go_wp2_with (go_at_call 28; refine (isCount_no _ _ h).mono ?_; rintro e w ⟨rfl, rfl⟩)
  go_ret2
  exact ⟨rfl, rfl⟩
end Go.Proofs.Ytbdocaohnigekaa

namespace Go.Proofs.Ytbdocaohnigekaa
open Go.RowKit Go.Maps
set_option linter.unusedVariables false

theorem row_ltv9 {w : World} {base n size : Nat} {e : TypeId} {v : Value} {xs : List Value} (h : w.ownsRow base e size v n xs) {b : Nat} (hb : v.ownBlock = some b) : b < w.heap.size := (World.ownsRow.lt h b hb).2
set_option maxRecDepth 100000 in
set_option maxHeartbeats 1600000 in
theorem botEN (bv : Value) (l : Lv) (w : World) (hx : w.cell? ⟨l.x, 0, none⟩ = some (.int .i64 ((1 : Nat) : Int))) (hy : w.cell? ⟨l.y, 0, none⟩ = some bv) (hz : w.cell? ⟨l.z, 0, none⟩ = some (.func (.func 29) #[] #[])) (hNB : NoBook w bv)
    (hlf : ∀ w', Below w.heap.size w w' → Calls Try.prog 29 #[.int .i64 0] w' fun e w'' => e = .returned (.slice none 0 0) ∧ w'' = w') :
    Calls Try.prog 55 #[.pointer (some ⟨l.x, 0, none⟩), .pointer (some ⟨l.y, 0, none⟩), .pointer (some ⟨l.z, 0, none⟩)] w fun e w' => e = .returned (.tuple #[.slice none 0 0, .int .i64 1]) ∧ Below w.heap.size w w' := by
  obtain ⟨i0, z0, hi, hz0, hz1, hz2⟩ := dg_zero
  obtain ⟨many, hm⟩ : ∃ many : Nat, 1 = many := ⟨1, rfl⟩
  rw [hm] at hx
  have Hm := Lib.hid hm.symm
  have hx2 : ∀ w2 : World, w.grownBy w2 none → w2.cell? ⟨l.x, 0, none⟩ = some (.int .i64 (many : Int)) := fun w2 hg => hg.cell hx (by simp)
  have HQ := Lib.hid (show ∀ w', Below w.heap.size w w' → w'.cell? ⟨l.y, 0, none⟩ = some bv ∧ w'.cell? ⟨l.z, 0, none⟩ = some (.func (.func 29) #[] #[]) from fun w' hb => ⟨(hb.cell (World.block_lt_of_cell? w _ hy)).trans hy, (hb.cell (World.block_lt_of_cell? w _ hz)).trans hz⟩)
  have Hc2 := Lib.hid hx2
  have HN := Lib.hid hNB
  have Hlf := Lib.hid hlf
  obtain ⟨D, hD⟩ : ∃ D, cbs (List.replicate 32 0) = D := ⟨_, rfl⟩
  have HD := Lib.hid (show D.length = 32 ∧ D.toArray.all (·.oneCell') = true from by rw [← hD]; exact ⟨rfl, cbs_one' _⟩)
  have HDe := Lib.hid hD
  have m1 : (0 : Int) < (many : Int) := by omega
  have m2 : many ≤ 1 := by omega
  clear hy hz hNB hlf hx2 hD hm
  go_enter Try.func55, Try.ntmps55
  go_wp2_with (refine wpList_make_full _ rfl _ _ 46 rfl w.heap.size 38 i0 z0 32 Try.underlying46 hi hz0 hz1 .i64 .i64 _ _ many rfl rfl rfl rfl (by rw [hz2]; omega) (by unfold maxLen; omega) (Nat.le_refl _) ?_; intro w1 ho1 hg1; have hx1 := Hc2.out w1 hg1)
  have hb1 : Below w.heap.size w w1 := (Below.refl _ _).grown hg1 (Nat.le_refl _) (by simp)
  have HI0 := Lib.hid (And.intro ho1 hb1)
  clear hg1 ho1 hi hz0 hz1 hz2 hx hx1 hb1
  go_loopw [6, 7, 11] (fun _ _ v wr => v = .int .i64 0 ∧ Below w.heap.size w wr ∧ ∃ X, wr.ownsRow w.heap.size 38 32 (.slice (some ⟨w.heap.size, 0, none⟩) many many) many X) (fun _ _ v _ => 0)
  case atStart => exact ⟨rfl, HI0.out.2, _, HI0.out.1⟩
  case round =>
    obtain ⟨rfl, hB, X, hX⟩ := hrel
    have HB := Lib.hid hB
    have HX := Lib.hid hX
    have hlfn := leaf_none bv none 0 0 [] wr.drew (HN.out.below HB.out.drew) (Bs.nil _ _) rfl (Nat.le_refl _) (by simp [maxLen]) (by omega)
    rw [HDe.out] at hlfn
    have Hlfn := Lib.hid hlfn
    have Q0 : wr.drew.cell? ⟨l.y, 0, none⟩ = some bv ∧ wr.drew.cell? ⟨l.z, 0, none⟩ = some (.func (.func 29) #[] #[]) := HQ.out _ HB.out.drew
    clear hB hX hlfn
    go_wp2
    refine wp_region_held_drew (S := fun W' => W'.cell? ⟨l.y, 0, none⟩ = some bv ∧ W'.cell? ⟨l.z, 0, none⟩ = some (.func (.func 29) #[] #[])) (by kernel_rfl) Q0 (fun _ => ?_)
    refine anyH_take (i := 0) (d := 15) (v := ?v0) rfl rfl (by kernel_rfl) (by kernel_rfl) (by kernel_rfl) (fun _ _ _ h => h) (Or.inl ⟨by rfl, ?vy0⟩) Q0 ?vr0
    case vy0 => (intro w; go_simp; try with_reducible rfl)
    simp only [List.setIfInBounds_toArray, List.set_cons_zero, List.set_cons_succ]
    refine anyH_take (i := 1) (d := 16) (v := ?v1) rfl rfl (by kernel_rfl) (by kernel_rfl) (by kernel_rfl) (fun _ _ _ h => h) (Or.inl ⟨by rfl, ?vy1⟩) Q0 ?vr1
    case vy1 => (intro w; go_simp; try with_reducible rfl)
    simp only [List.setIfInBounds_toArray, List.set_cons_zero, List.set_cons_succ]
    refine wpAnyH_take' (i := 2) (d := 17) (v := ?v2) rfl rfl (by kernel_rfl) (by kernel_rfl) (by kernel_rfl) (fun _ _ _ h => h) (Or.inl ⟨by rfl, ?vy2⟩) Q0 ?vr2
    case vy2 => (intro w hSw; go_split_ands; go_simp; try with_reducible rfl)
    simp only [List.setIfInBounds_toArray, List.set_cons_zero, List.set_cons_succ]
    refine wpAnyH_take' (i := 3) (d := 18) (v := ?v3) rfl rfl (by kernel_rfl) (by kernel_rfl) (by kernel_rfl) (fun _ _ _ h => h) (Or.inl ⟨by rfl, ?vy3⟩) Q0 ?vr3
    case vy3 => (intro w hSw; go_split_ands; go_simp; try with_reducible rfl)
    simp only [List.setIfInBounds_toArray, List.set_cons_zero, List.set_cons_succ]
    refine anyH_take (i := 4) (d := 19) (v := ?v4) rfl rfl (by kernel_rfl) (by kernel_rfl) (by kernel_rfl) (fun _ _ _ h => h) (Or.inl ⟨by rfl, ?vy4⟩) Q0 ?vr4
    case vy4 => (intro w; go_simp; try with_reducible rfl)
    simp only [List.setIfInBounds_toArray, List.set_cons_zero, List.set_cons_succ]
    refine anyH_one (i := 5) (by kernel_rfl) ?_
    refine wpOp_step rfl (fun K hK => ?_)
    go_simp
    refine (Hlf.out _ HB.out.drew).mono ?_
    rintro e w' ⟨rfl, rfl⟩
    refine hK _ _ ⟨Q0, ?_⟩
    clear hK K
    refine anyH_one (i := 6) (by kernel_rfl) ?_
    refine wpOp_step rfl (fun K hK => ?_)
    go_simp
    refine Hlfn.out.mono ?_
    rintro e w2 ⟨rfl, hb2⟩
    have hbw2 : Below w.heap.size w w2 := HB.out.drew.trans (hb2.mono (show w.heap.size ≤ wr.drew.heap.size from HB.out.size))
    have c1 : w2.cell? ⟨l.y, 0, none⟩ = some bv ∧ w2.cell? ⟨l.z, 0, none⟩ = some (.func (.func 29) #[] #[]) := HQ.out _ hbw2
    have hR2 := row_stay (w' := w2) HX.out fun b cs hb _ => (show w2.heap[b]? = wr.heap[b]? from hb2.block b (row_ltv9 HX.out hb))
    have hth := row_there hR2 (o := 0) (k := 32) (by have h := HX.out.1; rw [Hm.out] at h; omega)
    obtain ⟨wS, hwS⟩ : ∃ wS, w2.setCells w.heap.size 0 D = wS := ⟨_, rfl⟩
    have hbS : Below w.heap.size w wS := by rw [← hwS]; exact Below.setCells (Nat.le_refl _) D hbw2
    have hsz : D.toArray.size = 32 := by rw [List.size_toArray]; exact HD.out.1
    have hth' : w2.there w.heap.size 0 D.toArray.size := by rw [hsz]; exact hth
    have hDi : (Try.prog.info? 38).map (·.size) = some D.toArray.size := by rw [hsz]; exact info32b
    have H3 := Lib.hid (And.intro hth' (And.intro hDi (And.intro hwS hbS)))
    clear hb2 hbw2 hR2 hth hbS hsz hth' hDi hwS
    refine hK _ _ ⟨c1, ?_⟩
    clear hK K
    refine anyH_take (i := 7) (d := 14) (v := ?v7) rfl rfl (by kernel_rfl) (by kernel_rfl) (by kernel_rfl) (fun _ _ _ h => h) (Or.inl ⟨by rfl, ?vy7⟩) c1 ?vr7
    case vy7 => (intro w; go_simp; try with_reducible rfl)
    simp only [List.setIfInBounds_toArray, List.set_cons_zero, List.set_cons_succ]
    refine anyH_take (i := 8) (d := 22) (v := ?v8) rfl rfl (by kernel_rfl) (by kernel_rfl) (by kernel_rfl) (fun _ _ _ h => h) (Or.inl ⟨by rfl, ?vy8⟩) c1 ?vr8
    case vy8 => (intro w; go_simp; try with_reducible rfl)
    simp only [List.setIfInBounds_toArray, List.set_cons_zero, List.set_cons_succ]
    refine anyH_take (i := 9) (d := 23) (v := ?v9) rfl rfl (by kernel_rfl) (by kernel_rfl) (by kernel_rfl) (fun _ _ _ h => h) (Or.inl ⟨by rfl, ?vy9⟩) c1 ?vr9
    case vy9 => (intro w; go_simp; try with_reducible rfl)
    simp only [List.setIfInBounds_toArray, List.set_cons_zero, List.set_cons_succ]
    refine anyH_take (i := 10) (d := 24) (v := ?v10) rfl rfl (by kernel_rfl) (by kernel_rfl) (by kernel_rfl) (fun _ _ _ h => h) (Or.inl ⟨by rfl, ?vy10⟩) c1 ?vr10
    case vy10 => (intro w; go_simp; try with_reducible rfl)
    simp only [List.setIfInBounds_toArray, List.set_cons_zero, List.set_cons_succ]
    refine anyH_one (i := 11) (by kernel_rfl) ?_
    refine op_storeE rfl rfl rfl 38 _ _ rfl w.heap.size 0 D rfl rfl H3.out.1 H3.out.2.1 HD.out.2 H3.out.2.2.1 ?_
    refine ⟨(HQ.out _ H3.out.2.2.2), ?_⟩
    refine anyH_take (i := 12) (d := 7) (v := ?v12) rfl rfl (by kernel_rfl) (by kernel_rfl) (by kernel_rfl) (fun _ _ _ h => h) (Or.inl ⟨by rfl, ?vy12⟩) (HQ.out _ H3.out.2.2.2) ?vr12
    case vy12 => (intro w; go_simp; try with_reducible rfl)
    simp only [List.setIfInBounds_toArray, List.set_cons_zero, List.set_cons_succ]
    refine wpAnyH_done (by kernel_rfl) ?_ _

    go_wp2
    go_ret2
    exact ⟨rfl, H3.out.2.2.2⟩
set_option maxRecDepth 100000 in
set_option maxHeartbeats 1600000 in
theorem botEO (bv : Value) (l : Lv) (lb : Nat) (w : World) (hx : w.cell? ⟨l.x, 0, none⟩ = some (.int .i64 ((1 : Nat) : Int))) (hy : w.cell? ⟨l.y, 0, none⟩ = some bv) (hz : w.cell? ⟨l.z, 0, none⟩ = some (.func (.func 36) #[] #[.pointer (some ⟨lb, 0, none⟩)])) (hNB : NoBook w bv)
    (hlf : ∀ w', Below w.heap.size w w' → Calls Try.prog 36 #[.int .i64 0, .pointer (some ⟨lb, 0, none⟩)] w' fun e w'' => e = .returned (.slice none 0 0) ∧ w'' = w') :
    Calls Try.prog 55 #[.pointer (some ⟨l.x, 0, none⟩), .pointer (some ⟨l.y, 0, none⟩), .pointer (some ⟨l.z, 0, none⟩)] w fun e w' => e = .returned (.tuple #[.slice none 0 0, .int .i64 1]) ∧ Below w.heap.size w w' := by
  obtain ⟨i0, z0, hi, hz0, hz1, hz2⟩ := dg_zero
  obtain ⟨many, hm⟩ : ∃ many : Nat, 1 = many := ⟨1, rfl⟩
  rw [hm] at hx
  have Hm := Lib.hid hm.symm
  have hx2 : ∀ w2 : World, w.grownBy w2 none → w2.cell? ⟨l.x, 0, none⟩ = some (.int .i64 (many : Int)) := fun w2 hg => hg.cell hx (by simp)
  have HQ := Lib.hid (show ∀ w', Below w.heap.size w w' → w'.cell? ⟨l.y, 0, none⟩ = some bv ∧ w'.cell? ⟨l.z, 0, none⟩ = some (.func (.func 36) #[] #[.pointer (some ⟨lb, 0, none⟩)]) from fun w' hb => ⟨(hb.cell (World.block_lt_of_cell? w _ hy)).trans hy, (hb.cell (World.block_lt_of_cell? w _ hz)).trans hz⟩)
  have Hc2 := Lib.hid hx2
  have HN := Lib.hid hNB
  have Hlf := Lib.hid hlf
  obtain ⟨D, hD⟩ : ∃ D, cbs (List.replicate 32 0) = D := ⟨_, rfl⟩
  have HD := Lib.hid (show D.length = 32 ∧ D.toArray.all (·.oneCell') = true from by rw [← hD]; exact ⟨rfl, cbs_one' _⟩)
  have HDe := Lib.hid hD
  have m1 : (0 : Int) < (many : Int) := by omega
  have m2 : many ≤ 1 := by omega
  clear hy hz hNB hlf hx2 hD hm
  go_enter Try.func55, Try.ntmps55
  go_wp2_with (refine wpList_make_full _ rfl _ _ 46 rfl w.heap.size 38 i0 z0 32 Try.underlying46 hi hz0 hz1 .i64 .i64 _ _ many rfl rfl rfl rfl (by rw [hz2]; omega) (by unfold maxLen; omega) (Nat.le_refl _) ?_; intro w1 ho1 hg1; have hx1 := Hc2.out w1 hg1)
  have hb1 : Below w.heap.size w w1 := (Below.refl _ _).grown hg1 (Nat.le_refl _) (by simp)
  have HI0 := Lib.hid (And.intro ho1 hb1)
  clear hg1 ho1 hi hz0 hz1 hz2 hx hx1 hb1
  go_loopw [6, 7, 11] (fun _ _ v wr => v = .int .i64 0 ∧ Below w.heap.size w wr ∧ ∃ X, wr.ownsRow w.heap.size 38 32 (.slice (some ⟨w.heap.size, 0, none⟩) many many) many X) (fun _ _ v _ => 0)
  case atStart => exact ⟨rfl, HI0.out.2, _, HI0.out.1⟩
  case round =>
    obtain ⟨rfl, hB, X, hX⟩ := hrel
    have HB := Lib.hid hB
    have HX := Lib.hid hX
    have hlfn := leaf_none bv none 0 0 [] wr.drew (HN.out.below HB.out.drew) (Bs.nil _ _) rfl (Nat.le_refl _) (by simp [maxLen]) (by omega)
    rw [HDe.out] at hlfn
    have Hlfn := Lib.hid hlfn
    have Q0 : wr.drew.cell? ⟨l.y, 0, none⟩ = some bv ∧ wr.drew.cell? ⟨l.z, 0, none⟩ = some (.func (.func 36) #[] #[.pointer (some ⟨lb, 0, none⟩)]) := HQ.out _ HB.out.drew
    clear hB hX hlfn
    go_wp2
    refine wp_region_held_drew (S := fun W' => W'.cell? ⟨l.y, 0, none⟩ = some bv ∧ W'.cell? ⟨l.z, 0, none⟩ = some (.func (.func 36) #[] #[.pointer (some ⟨lb, 0, none⟩)])) (by kernel_rfl) Q0 (fun _ => ?_)
    refine anyH_take (i := 0) (d := 15) (v := ?v0) rfl rfl (by kernel_rfl) (by kernel_rfl) (by kernel_rfl) (fun _ _ _ h => h) (Or.inl ⟨by rfl, ?vy0⟩) Q0 ?vr0
    case vy0 => (intro w; go_simp; try with_reducible rfl)
    simp only [List.setIfInBounds_toArray, List.set_cons_zero, List.set_cons_succ]
    refine anyH_take (i := 1) (d := 16) (v := ?v1) rfl rfl (by kernel_rfl) (by kernel_rfl) (by kernel_rfl) (fun _ _ _ h => h) (Or.inl ⟨by rfl, ?vy1⟩) Q0 ?vr1
    case vy1 => (intro w; go_simp; try with_reducible rfl)
    simp only [List.setIfInBounds_toArray, List.set_cons_zero, List.set_cons_succ]
    refine wpAnyH_take' (i := 2) (d := 17) (v := ?v2) rfl rfl (by kernel_rfl) (by kernel_rfl) (by kernel_rfl) (fun _ _ _ h => h) (Or.inl ⟨by rfl, ?vy2⟩) Q0 ?vr2
    case vy2 => (intro w hSw; go_split_ands; go_simp; try with_reducible rfl)
    simp only [List.setIfInBounds_toArray, List.set_cons_zero, List.set_cons_succ]
    refine wpAnyH_take' (i := 3) (d := 18) (v := ?v3) rfl rfl (by kernel_rfl) (by kernel_rfl) (by kernel_rfl) (fun _ _ _ h => h) (Or.inl ⟨by rfl, ?vy3⟩) Q0 ?vr3
    case vy3 => (intro w hSw; go_split_ands; go_simp; try with_reducible rfl)
    simp only [List.setIfInBounds_toArray, List.set_cons_zero, List.set_cons_succ]
    refine anyH_take (i := 4) (d := 19) (v := ?v4) rfl rfl (by kernel_rfl) (by kernel_rfl) (by kernel_rfl) (fun _ _ _ h => h) (Or.inl ⟨by rfl, ?vy4⟩) Q0 ?vr4
    case vy4 => (intro w; go_simp; try with_reducible rfl)
    simp only [List.setIfInBounds_toArray, List.set_cons_zero, List.set_cons_succ]
    refine anyH_one (i := 5) (by kernel_rfl) ?_
    refine wpOp_step rfl (fun K hK => ?_)
    go_simp
    refine (Hlf.out _ HB.out.drew).mono ?_
    rintro e w' ⟨rfl, rfl⟩
    refine hK _ _ ⟨Q0, ?_⟩
    clear hK K
    refine anyH_one (i := 6) (by kernel_rfl) ?_
    refine wpOp_step rfl (fun K hK => ?_)
    go_simp
    refine Hlfn.out.mono ?_
    rintro e w2 ⟨rfl, hb2⟩
    have hbw2 : Below w.heap.size w w2 := HB.out.drew.trans (hb2.mono (show w.heap.size ≤ wr.drew.heap.size from HB.out.size))
    have c1 : w2.cell? ⟨l.y, 0, none⟩ = some bv ∧ w2.cell? ⟨l.z, 0, none⟩ = some (.func (.func 36) #[] #[.pointer (some ⟨lb, 0, none⟩)]) := HQ.out _ hbw2
    have hR2 := row_stay (w' := w2) HX.out fun b cs hb _ => (show w2.heap[b]? = wr.heap[b]? from hb2.block b (row_ltv9 HX.out hb))
    have hth := row_there hR2 (o := 0) (k := 32) (by have h := HX.out.1; rw [Hm.out] at h; omega)
    obtain ⟨wS, hwS⟩ : ∃ wS, w2.setCells w.heap.size 0 D = wS := ⟨_, rfl⟩
    have hbS : Below w.heap.size w wS := by rw [← hwS]; exact Below.setCells (Nat.le_refl _) D hbw2
    have hsz : D.toArray.size = 32 := by rw [List.size_toArray]; exact HD.out.1
    have hth' : w2.there w.heap.size 0 D.toArray.size := by rw [hsz]; exact hth
    have hDi : (Try.prog.info? 38).map (·.size) = some D.toArray.size := by rw [hsz]; exact info32b
    have H3 := Lib.hid (And.intro hth' (And.intro hDi (And.intro hwS hbS)))
    clear hb2 hbw2 hR2 hth hbS hsz hth' hDi hwS
    refine hK _ _ ⟨c1, ?_⟩
    clear hK K
    refine anyH_take (i := 7) (d := 14) (v := ?v7) rfl rfl (by kernel_rfl) (by kernel_rfl) (by kernel_rfl) (fun _ _ _ h => h) (Or.inl ⟨by rfl, ?vy7⟩) c1 ?vr7
    case vy7 => (intro w; go_simp; try with_reducible rfl)
    simp only [List.setIfInBounds_toArray, List.set_cons_zero, List.set_cons_succ]
    refine anyH_take (i := 8) (d := 22) (v := ?v8) rfl rfl (by kernel_rfl) (by kernel_rfl) (by kernel_rfl) (fun _ _ _ h => h) (Or.inl ⟨by rfl, ?vy8⟩) c1 ?vr8
    case vy8 => (intro w; go_simp; try with_reducible rfl)
    simp only [List.setIfInBounds_toArray, List.set_cons_zero, List.set_cons_succ]
    refine anyH_take (i := 9) (d := 23) (v := ?v9) rfl rfl (by kernel_rfl) (by kernel_rfl) (by kernel_rfl) (fun _ _ _ h => h) (Or.inl ⟨by rfl, ?vy9⟩) c1 ?vr9
    case vy9 => (intro w; go_simp; try with_reducible rfl)
    simp only [List.setIfInBounds_toArray, List.set_cons_zero, List.set_cons_succ]
    refine anyH_take (i := 10) (d := 24) (v := ?v10) rfl rfl (by kernel_rfl) (by kernel_rfl) (by kernel_rfl) (fun _ _ _ h => h) (Or.inl ⟨by rfl, ?vy10⟩) c1 ?vr10
    case vy10 => (intro w; go_simp; try with_reducible rfl)
    simp only [List.setIfInBounds_toArray, List.set_cons_zero, List.set_cons_succ]
    refine anyH_one (i := 11) (by kernel_rfl) ?_
    refine op_storeE rfl rfl rfl 38 _ _ rfl w.heap.size 0 D rfl rfl H3.out.1 H3.out.2.1 HD.out.2 H3.out.2.2.1 ?_
    refine ⟨(HQ.out _ H3.out.2.2.2), ?_⟩
    refine anyH_take (i := 12) (d := 7) (v := ?v12) rfl rfl (by kernel_rfl) (by kernel_rfl) (by kernel_rfl) (fun _ _ _ h => h) (Or.inl ⟨by rfl, ?vy12⟩) (HQ.out _ H3.out.2.2.2) ?vr12
    case vy12 => (intro w; go_simp; try with_reducible rfl)
    simp only [List.setIfInBounds_toArray, List.set_cons_zero, List.set_cons_succ]
    refine wpAnyH_done (by kernel_rfl) ?_ _

    go_wp2
    go_ret2
    exact ⟨rfl, H3.out.2.2.2⟩
def MadeE (l : Lv) (Q : World → Prop) (e : Ending) (w1 : World) : Prop := e = .returned (.tuple #[.slice none 0 0, .int .i64 1]) ∧ Mid l w1 ∧ Q w1
def KeptE (l : Lv) (Q : World → Prop) (e : Ending) (w' : World) : Prop :=
  e = .returned (.tuple #[]) ∧ ∃ w1, Mid l w1 ∧ Q w1 ∧ w' = (w1.setCell ⟨l.d, 0, none⟩ (.slice none 0 0)).setCell ⟨l.e, 0, none⟩ (.int .i64 1)
def AskedE (l : Lv) (Q : World → Prop) (e : Ending) (w' : World) : Prop := ∃ w1, e = .returned (.tuple #[.slice none 0 0, .int .i64 1]) ∧ Q w1 ∧ Out l.turn w1 w' ∧ w'.heap.size = w1.heap.size
set_option maxRecDepth 100000 in
set_option maxHeartbeats 800000 in
theorem keepE (l : Lv) (Q : World → Prop) (w : World) (hm : w.cell? ⟨l.m, 0, none⟩ = some (mkB l)) (hcall : Calls Try.prog 55 #[.pointer (some ⟨l.x, 0, none⟩), .pointer (some ⟨l.y, 0, none⟩), .pointer (some ⟨l.z, 0, none⟩)] w (MadeE l Q)) :
    Calls Try.prog 66 #[.pointer (some ⟨l.m, 0, none⟩), .pointer (some ⟨l.d, 0, none⟩), .pointer (some ⟨l.e, 0, none⟩)] w (KeptE l Q) := by
  unfold mkB ptr at hm
  have Hc := Lib.hid hcall
  clear hcall
  go_enter Try.func66, Try.ntmps66
  go_wp2_with fail
  refine Hc.out.mono ?_
  rintro e w1 ⟨rfl, hM, hQ⟩
  have cd := hM.d.cell (i := 0) rfl
  have fd := hM.d.free 0
  have ce := hM.e.cell (i := 0) rfl
  have fe := hM.e.free 0
  have hne : l.d ≠ l.e := hM.d.ne hM.e (by decide)
  have H := Lib.hid (And.intro hM hQ)
  clear hM hQ
  go_wp2
  go_end0
  exact ⟨rfl, w1, H.out.1, H.out.2, rfl⟩

set_option maxRecDepth 100000 in
set_option maxHeartbeats 800000 in
theorem askE (l : Lv) (Q : World → Prop) (w : World) (h : Un w l (mkB l)) (hcall : Calls Try.prog 55 #[.pointer (some ⟨l.x, 0, none⟩), .pointer (some ⟨l.y, 0, none⟩), .pointer (some ⟨l.z, 0, none⟩)] (w.setCell ⟨l.p, 1, none⟩ (.int .i32 1)) (MadeE l Q)) :
    Calls Try.prog 65 #[ptr l.p, ptr l.m, ptr l.d, ptr l.e] w (AskedE l Q) := by
  have hpm : l.m ≠ l.p := h.m.ne h.p (by decide)
  have hk := keepE l Q _ ((h.m.far (p := ⟨l.p, 1, none⟩) hpm (.int .i32 1)).cell rfl) hcall
  have hdo := do9 l.p 0 ⟨l.m, 0, none⟩ ⟨l.d, 0, none⟩ ⟨l.e, 0, none⟩ (fun w2 => KeptE l Q (.returned (.tuple #[])) w2) w (h.p.cell rfl) (h.p.cell rfl) (h.p.free 0) (h.p.free 1)
    (hk.mono fun e w2 hk => ⟨hk.1, by obtain ⟨rfl, hk⟩ := hk; exact ⟨rfl, hk⟩⟩)
    (fun w2 hk => by
      obtain ⟨_, w1, hM, _, rfl⟩ := hk
      have hp := (hM.p.far (p := ⟨l.d, 0, none⟩) (hM.p.ne hM.d (by decide)) (.slice none 0 0)).far (p := ⟨l.e, 0, none⟩) (hM.p.ne hM.e (by decide)) (.int .i64 1)
      exact ⟨hp.cell rfl, hp.cell rfl, hp.free 0, hp.free 1⟩)
  have Hdo := Lib.hid hdo
  clear hdo hk hcall h hpm
  unfold ptr
  go_enter Try.func65, Try.ntmps65
  go_wp2_with (go_at_call 61; refine Hdo.out.mono ?_; rintro e w' ⟨rfl, w2, ⟨_, w1, hM, hQ, rfl⟩, rfl⟩)
  have hpd : l.p ≠ l.d := hM.p.ne hM.d (by decide)
  have hpe : l.p ≠ l.e := hM.p.ne hM.e (by decide)
  have hde : l.d ≠ l.e := hM.d.ne hM.e (by decide)
  obtain ⟨wf, hwf⟩ : ∃ wf, (((((w1.setCell ⟨l.d, 0, none⟩ (.slice none 0 0)).setCell ⟨l.e, 0, none⟩ (.int .i64 1)).setCell ⟨l.p, 0, none⟩ (.int .u32 1)).setCell ⟨l.p, 1, none⟩ (.int .i32 0)).drew) = wf := ⟨_, rfl⟩
  have hd : Blk wf l.d 46 [.slice none 0 0] := by
    rw [← hwf]
    have h1 := ((hM.d.set_ 0 (.slice none 0 0)).far (p := ⟨l.e, 0, none⟩) hde (.int .i64 1))
    exact (Blk.far (Blk.far h1 (p := ⟨l.p, 0, none⟩) (fun e => hpd e.symm) _) (p := ⟨l.p, 1, none⟩) (fun e => hpd e.symm) _)
  have he : Blk wf l.e 29 [.int .i64 1] := by
    rw [← hwf]
    have h1 := ((hM.e.far (p := ⟨l.d, 0, none⟩) (fun e => hde e.symm) (.slice none 0 0)).set_ 0 (.int .i64 1))
    exact (Blk.far (Blk.far h1 (p := ⟨l.p, 0, none⟩) (fun e => hpe e.symm) _) (p := ⟨l.p, 1, none⟩) (fun e => hpe e.symm) _)
  have hp : Blk wf l.p 105 once1 := by
    rw [← hwf]
    have h1 := ((hM.p.far (p := ⟨l.d, 0, none⟩) hpd (.slice none 0 0)).far (p := ⟨l.e, 0, none⟩) hpe (.int .i64 1))
    exact (Blk.set_ (Blk.set_ h1 0 (.int .u32 1)) (1) (.int .i32 0))
  have ho : Out l.turn w1 wf := by
    rw [← hwf]
    exact Out.drewN (Out.setCell (p := ⟨l.p, 1, none⟩) (Out.setCell (p := ⟨l.p, 0, none⟩) (Out.setCell (p := ⟨l.e, 0, none⟩) (Out.setCell (p := ⟨l.d, 0, none⟩) (Out.refl _ _) (fun _ => .inr (.inl rfl)) _) (fun _ => .inr (.inr rfl)) _) (fun _ => .inl rfl) _) (fun _ => .inl rfl) _) 1
  have hz : wf.heap.size = w1.heap.size := by rw [← hwf]; simp [World.setCell, World.drew]
  have cd : wf.cell? ⟨l.d, 0, none⟩ = some (.slice none 0 0) := hd.cell rfl
  have ce : wf.cell? ⟨l.e, 0, none⟩ = some (.int .i64 1) := he.cell rfl
  rw [hwf]
  have H := Lib.hid (And.intro hQ (And.intro hM (And.intro hp (And.intro hd (And.intro he (And.intro ho hz))))))
  clear hQ hM hp hd he ho hz hwf hpd hpe hde
  go_quiet (fail)
  go_wp2
  go_ret2
  obtain ⟨hQ, hM, hp, hd, he, ho, hz⟩ := H.out
  exact ⟨w1, rfl, hQ, ho.drewN _, hz⟩

end Go.Proofs.Ytbdocaohnigekaa

namespace Go.Proofs.Ytbdocaohnigekaa
open Go.RowKit Go.Maps
set_option linter.unusedVariables false

def CapsV (w : World) (bv : Value) (many : Nat) (lf : Value) (l : Lv) : Prop := Blk w l.x 3 [.int .i64 (many : Int)] ∧ Blk w l.y 26 [bv] ∧ Blk w l.z 72 [lf]
set_option maxRecDepth 100000 in
set_option maxHeartbeats 800000 in
theorem bottom_v (pv : Option Addr) (many F : Nat) (cs : Array Value) (w : World) : Calls Try.prog 44 #[.pointer pv, .int .i64 (many : Int), .func (.func F) #[] cs] w fun e w' =>
    e = .returned (fnOf (lvB w.heap.size)) ∧ Un w' (lvB w.heap.size) (mkB (lvB w.heap.size)) ∧ CapsV w' (.pointer pv) many (.func (.func F) #[] cs) (lvB w.heap.size) ∧ Below w.heap.size w w' ∧ w'.heap.size = w.heap.size + 7 := by
  obtain ⟨w3, hw3⟩ : ∃ w3, (((w.alloc (.cells #[.pointer pv] 26)).alloc (.cells #[.int .i64 (many : Int)] 3)).alloc (.cells #[.func (.func F) #[] cs] 72)) = w3 := ⟨_, rfl⟩
  have h1 : Blk w3 w.heap.size 26 [.pointer pv] := by rw [← hw3]; exact ((Blk.new rfl rfl : Blk (w.alloc (.cells #[.pointer pv] 26)) _ _ _).old _).old _
  have h2 : Blk w3 (w.heap.size + 1) 3 [.int .i64 (many : Int)] := by rw [← hw3]; exact (Blk.new rfl (by simp) : Blk ((w.alloc (.cells #[.pointer pv] 26)).alloc (.cells #[.int .i64 (many : Int)] 3)) (w.heap.size + 1) _ _).old _
  have h3 : Blk w3 (w.heap.size + 2) 72 [.func (.func F) #[] cs] := by rw [← hw3]; exact Blk.new rfl (by simp)
  have hbw : Below w.heap.size w w3 := by rw [← hw3]; exact (((Below.refl _ w).alloc (Nat.le_refl _) _).alloc (by simp) _).alloc (by simp; omega) _
  have hz3 : w3.heap.size = w.heap.size + 3 := by rw [← hw3]; simp
  have hon := once_any 55 #[.pointer (some ⟨w.heap.size + 1, 0, none⟩), .pointer (some ⟨w.heap.size, 0, none⟩), .pointer (some ⟨w.heap.size + 2, 0, none⟩)] (w.heap.size + 1) w.heap.size (w.heap.size + 2) w3
  rw [hz3] at hon
  have Hon := Lib.hid hon
  have H := Lib.hid (And.intro h1 (And.intro h2 (And.intro h3 (And.intro hbw hz3))))
  clear hon h1 h2 h3 hbw hz3
  go_enter Try.func44, Try.ntmps44
  go_wp2_with fail
  refine Hon.out.mono ?_
  rintro e w1 ⟨rfl, hU, hb, hz⟩
  have H2 := Lib.hid (And.intro hU (And.intro hb hz))
  clear hU hb hz hw3
  go_wp2
  go_ret
  obtain ⟨h1, h2, h3, hbw, hz3⟩ := H.out
  obtain ⟨hU, hb, hz⟩ := H2.out
  exact ⟨rfl, hU, ⟨h2.below hb (by omega), h1.below hb (by omega), h3.below hb (by omega)⟩, hbw.trans (hb.mono (by omega)), by omega⟩


/-- A pile of one level. -/
structure Pl1 (w : World) (bv lf : Value) (lv : Nat) (w1 : World) : Prop where
  cell : w1.cell? ⟨lv, 0, none⟩ = some (fnOf (lvB w.heap.size))
  un : Un w1 (lvB w.heap.size) (mkB (lvB w.heap.size))
  caps : CapsV w1 bv 1 lf (lvB w.heap.size)
  bel : Below w.heap.size w w1
  size : w1.heap.size = w.heap.size + 8
  lv7 : lv = w.heap.size + 7
set_option maxRecDepth 100000 in
set_option maxHeartbeats 800000 in
theorem pile1_v (pv : Option Addr) (F : Nat) (cs : Array Value) (w : World) : Calls Try.prog 30 #[.pointer pv, .int .i64 1, .func (.func F) #[] cs] w fun e w' => ∃ lv, e = .returned (.slice (some ⟨lv, 0, none⟩) 1 1) ∧ Pl1 w (.pointer pv) (.func (.func F) #[] cs) lv w' := by
  have Hb := Lib.hid (bottom_v pv 1 F cs w)
  go_enter Try.func30, Try.ntmps30
  go_wp2_with fail
  refine Hb.out.mono ?_
  rintro e w1 ⟨rfl, hU, hC, hb, hz⟩
  have hb1 : Below w1.heap.size w1 (w1.alloc (.cells #[fnOf (lvB w.heap.size)] 75)) := (Below.refl _ _).alloc (Nat.le_refl _) _
  have hB : Blk (w1.alloc (.cells #[fnOf (lvB w.heap.size)] 75)) w1.heap.size 75 [fnOf (lvB w.heap.size)] := Blk.new rfl rfl
  have hP : Pl1 w (.pointer pv) (.func (.func F) #[] cs) w1.heap.size (w1.alloc (.cells #[fnOf (lvB w.heap.size)] 75)) :=
    ⟨hB.cell rfl, hU.stay (hb1.block _ hU.p.lt) (hb1.block _ hU.m.lt) (hb1.block _ hU.d.lt) (hb1.block _ hU.e.lt), ⟨hC.1.below hb1 hC.1.lt, hC.2.1.below hb1 hC.2.1.lt, hC.2.2.below hb1 hC.2.2.lt⟩, hb.trans (hb1.mono hb.size), by simp; omega, hz⟩
  have H := Lib.hid hP
  clear hU hC hb hz hb1 hB hP
  unfold fnOf ptr at *
  go_wp2
  go_loopw [1, 7] (fun m v wr => m = .int .i64 1 ∧ v = .slice (some ⟨w1.heap.size, 0, none⟩) 1 1 ∧ Pl1 w (.pointer pv) (.func (.func F) #[] cs) w1.heap.size wr) (fun _ _ _ => 0)
  case atStart => exact ⟨rfl, rfl, H.out⟩
  case round =>
    obtain ⟨rfl, rfl, hP⟩ := hrel
    go_wp2
    go_ret
    exact ⟨_, rfl, hP⟩

set_option maxRecDepth 100000 in
set_option maxHeartbeats 800000 in
theorem rootE (lv : Nat) (l : Lv) (Q : World → Prop) (w : World) (hc : w.cell? ⟨lv, 0, none⟩ = some (fnOf l))
    (hcall : Calls Try.prog 65 #[ptr l.p, ptr l.m, ptr l.d, ptr l.e] (w.alloc (.cells (cbs (List.replicate 32 0)).toArray 38)) fun e w1 => e = .returned (.tuple #[.slice none 0 0, .int .i64 1]) ∧ Q w1 ∧ Blk w1 w.heap.size 38 (cbs (List.replicate 32 0))) :
    Calls Try.prog 35 #[.slice (some ⟨lv, 0, none⟩) 1 1] w fun e w' => e = .returned (.tuple #[.agg (cbs (List.replicate 32 0)).toArray, .int .i64 1]) ∧ ∃ w1, Q w1 ∧ w' = w1.setCells w.heap.size 0 (cbs (List.replicate 32 0)) := by
  have hlt : lv < w.heap.size := World.block_lt_of_cell? w _ hc
  unfold fnOf ptr at hc
  unfold ptr at hcall
  have Hc := Lib.hid hcall
  clear hcall
  go_enter Try.func35, Try.ntmps35
  go_wp2_with fail
  refine Hc.out.mono ?_
  rintro e w1 ⟨rfl, hQ, hZ⟩
  have hR := hZ.setAll (vs := cbs (List.replicate 32 0)) rfl
  have hth : w1.there w.heap.size 0 (cbs (List.replicate 32 0)).toArray.size := hZ.there
  have H := Lib.hid (And.intro hth (And.intro hR hQ))
  clear hQ hZ hR hth hc
  go_wp2_with (refine wpList_store_mid rfl 38 _ _ rfl w.heap.size 0 (cbs (List.replicate 32 0)).toArray rfl rfl H.out.1 info32b (cbs_one' _) ?_)
  refine bodyPost_ret (results_row_tmp rfl _ _ w.heap.size 38 (cbs (List.replicate 32 0)).toArray (0, 0) _ rfl H.out.2.1 Try.underlying38 rfl info32b) rfl ?_
  exact ⟨rfl, w1, H.out.2.2, rfl⟩

/-- A pile of one level over a book that is none, asked for its root. -/
theorem pileE {w : World} {bv lf : Value} {lv : Nat} {w1 : World} (h : Pl1 w bv lf lv w1) (w2 : World) (hb : Below w1.heap.size w1 w2)
    (hbot : ∀ w', Below w2.heap.size w2 w' → ∀ wp, wp = w'.setCell ⟨(lvB w.heap.size).p, 1, none⟩ (.int .i32 1) → Calls Try.prog 55 #[.pointer (some ⟨(lvB w.heap.size).x, 0, none⟩), .pointer (some ⟨(lvB w.heap.size).y, 0, none⟩), .pointer (some ⟨(lvB w.heap.size).z, 0, none⟩)] wp fun e w' => e = .returned (.tuple #[.slice none 0 0, .int .i64 1]) ∧ Below wp.heap.size wp w') :
    Calls Try.prog 35 #[.slice (some ⟨lv, 0, none⟩) 1 1] w2 fun e w' => e = .returned (.tuple #[.agg (cbs (List.replicate 32 0)).toArray, .int .i64 1]) ∧ Out (fun j => w.heap.size ≤ j ∧ j < w1.heap.size) w2 w' := by
  have hlv := World.block_lt_of_cell? w1 _ h.cell
  have hA : Below w2.heap.size w2 (w2.alloc (.cells (cbs (List.replicate 32 0)).toArray 38)) := (Below.refl _ _).alloc (Nat.le_refl _) _
  have hb1A : Below w1.heap.size w1 (w2.alloc (.cells (cbs (List.replicate 32 0)).toArray 38)) := hb.trans (hA.mono hb.size)
  have hU : Un (w2.alloc (.cells (cbs (List.replicate 32 0)).toArray 38)) (lvB w.heap.size) (mkB (lvB w.heap.size)) := h.un.stay (hb1A.block _ h.un.p.lt) (hb1A.block _ h.un.m.lt) (hb1A.block _ h.un.d.lt) (hb1A.block _ h.un.e.lt)
  have hZ : Blk (w2.alloc (.cells (cbs (List.replicate 32 0)).toArray 38)) w2.heap.size 38 (cbs (List.replicate 32 0)) := Blk.new rfl rfl
  have hs2 := hb.size
  have hs := h.size
  have hin : ∀ j, (lvB w.heap.size).turn j → w.heap.size ≤ j ∧ j < w1.heap.size := fun j hj => by
    unfold Lv.turn lvB lvAt at hj
    simp only at hj
    omega
  obtain ⟨wA, hwA⟩ : ∃ wA, w2.alloc (.cells (cbs (List.replicate 32 0)).toArray 38) = wA := ⟨_, rfl⟩
  have hzA : wA.heap.size = w2.heap.size + 1 := by rw [← hwA]; simp
  rw [hwA] at hA hb1A hU hZ
  have hz1 : (wA.setCell ⟨(lvB w.heap.size).p, 1, none⟩ (.int .i32 1)).heap.size = wA.heap.size := by simp [World.setCell]
  have hpm := hU.m.ne hU.p (by decide)
  have hpd := hU.d.ne hU.p (by decide)
  have hpe := hU.e.ne hU.p (by decide)
  have hoP : Out (lvB w.heap.size).turn wA (wA.setCell ⟨(lvB w.heap.size).p, 1, none⟩ (.int .i32 1)) := Out.setCell (p := ⟨(lvB w.heap.size).p, 1, none⟩) (Out.refl _ _) (fun _ => .inl rfl) _
  have hask := askE (lvB w.heap.size) (fun w3 => Out (lvB w.heap.size).turn wA w3) wA hU ((hbot wA hA _ rfl).mono (by
    rintro e w3 ⟨rfl, hb3⟩
    refine ⟨rfl, ⟨?_, ?_, ?_⟩, hoP.then_below hb3⟩
    · exact ((hU.p.set_ 1 (.int .i32 1)).below hb3 (by rw [hz1]; exact hU.p.lt))
    · exact ((hU.d.far (p := ⟨(lvB w.heap.size).p, 1, none⟩) hpd (.int .i32 1)).below hb3 (by rw [hz1]; exact hU.d.lt))
    · exact ((hU.e.far (p := ⟨(lvB w.heap.size).p, 1, none⟩) hpe (.int .i32 1)).below hb3 (by rw [hz1]; exact hU.e.lt))))
  have hcell : w2.cell? ⟨lv, 0, none⟩ = some (fnOf (lvB w.heap.size)) := (World.cell?_of_block (hb.block lv hlv)).trans h.cell
  refine (rootE lv (lvB w.heap.size) (fun w3 => Out (lvB w.heap.size).turn wA w3) w2 hcell (by
    rw [hwA]
    refine hask.mono ?_
    rintro e w4 ⟨w3, rfl, hQ, hO, hz⟩
    have hO2 : Out (lvB w.heap.size).turn wA w4 := hQ.trans hO fun i _ hi => hi
    exact ⟨rfl, hO2, hO2.blk hZ fun e => by have := hin _ e; omega⟩)).mono ?_
  rintro e w' ⟨rfl, w4, hQ, rfl⟩
  refine ⟨rfl, Out.setCells (a := w2) (Nat.le_refl _) _ ?_⟩
  exact ((Out.ofBelow (fun j => w.heap.size ≤ j ∧ j < w1.heap.size) hA).trans hQ fun i _ hi => hin i hi)

theorem botN_at {w : World} {bv : Value} {lv : Nat} {w1 w2 : World} (h : Pl1 w bv (.func (.func 29) #[] #[]) lv w1) (hNB : NoBook w bv) (hb : Below w1.heap.size w1 w2) :
    ∀ w', Below w2.heap.size w2 w' → ∀ wp, wp = w'.setCell ⟨(lvB w.heap.size).p, 1, none⟩ (.int .i32 1) → Calls Try.prog 55 #[.pointer (some ⟨(lvB w.heap.size).x, 0, none⟩), .pointer (some ⟨(lvB w.heap.size).y, 0, none⟩), .pointer (some ⟨(lvB w.heap.size).z, 0, none⟩)] wp fun e w' => e = .returned (.tuple #[.slice none 0 0, .int .i64 1]) ∧ Below wp.heap.size wp w' := fun w' hb' wp hwp => by
  have hb1 : Below w1.heap.size w1 w' := hb.trans (hb'.mono hb.size)
  have hbw : Below w.heap.size w w' := h.bel.trans (hb1.mono h.bel.size)
  have hP : Blk w' (lvB w.heap.size).p 105 once0 := h.un.p.below hb1 h.un.p.lt
  have hX : Blk w' (lvB w.heap.size).x 3 [.int .i64 ((1 : Nat) : Int)] := h.caps.1.below hb1 h.caps.1.lt
  have hY : Blk w' (lvB w.heap.size).y 26 [bv] := h.caps.2.1.below hb1 h.caps.2.1.lt
  have hZ : Blk w' (lvB w.heap.size).z 72 [.func (.func 29) #[] #[]] := h.caps.2.2.below hb1 h.caps.2.2.lt
  have hwP : Below w.heap.size w wp := by
    rw [hwp]
    exact hbw.setCell (p := ⟨(lvB w.heap.size).p, 1, none⟩) (by show w.heap.size ≤ _; unfold lvB lvAt; simp only; omega) _
  refine botEN bv (lvB w.heap.size) wp ?_ ?_ ?_ (hNB.below hwP) fun w3 _ => newLeaf_any 0 w3
  · rw [hwp]; exact (hX.far (p := ⟨(lvB w.heap.size).p, 1, none⟩) (hX.ne hP (by decide)) (.int .i32 1)).cell rfl
  · rw [hwp]; exact (hY.far (p := ⟨(lvB w.heap.size).p, 1, none⟩) (hY.ne hP (by decide)) (.int .i32 1)).cell rfl
  · rw [hwp]; exact (hZ.far (p := ⟨(lvB w.heap.size).p, 1, none⟩) (hZ.ne hP (by decide)) (.int .i32 1)).cell rfl
end Go.Proofs.Ytbdocaohnigekaa

namespace Go.Proofs.Ytbdocaohnigekaa
open Go.RowKit Go.Maps
set_option linter.unusedVariables false

set_option maxRecDepth 100000 in
theorem tnone_no' (t lv d c : Nat) (w : World) (c2 : w.cell? ⟨t, 2, none⟩ = some (.slice (some ⟨lv, 0, none⟩) d c)) (hd : 1 ≤ d) : Calls Try.prog 31 #[.pointer (some ⟨t, 0, none⟩)] w fun e w' => e = .returned (.bool false) ∧ w' = w := by
  have hd0 : ((d : Int) == 0) = false := by simp; omega
  go_enter Try.func31, Try.ntmps31
  go_wp2
  go_ret
  exact ⟨rfl, rfl⟩
set_option maxRecDepth 100000 in
set_option maxHeartbeats 800000 in
theorem trootE (t lv : Nat) (Q : World → Prop) (w : World) (ht : t < w.heap.size) (c2 : w.cell? ⟨t, 2, none⟩ = some (.slice (some ⟨lv, 0, none⟩) 1 1))
    (hcall : Calls Try.prog 35 #[.slice (some ⟨lv, 0, none⟩) 1 1] (w.alloc (.cells (cbs (List.replicate 32 0)).toArray 38)) fun e w1 => e = .returned (.tuple #[.agg (cbs (List.replicate 32 0)).toArray, .int .i64 1]) ∧ Q w1 ∧ Blk w1 w.heap.size 38 (cbs (List.replicate 32 0))) :
    Calls Try.prog 27 #[.pointer (some ⟨t, 0, none⟩)] w fun e w' => e = .returned (.tuple #[.agg (cbs (List.replicate 32 0)).toArray, .int .i64 1]) ∧ ∃ w1, Q w1 ∧ w' = w1.setCells w.heap.size 0 (cbs (List.replicate 32 0)) := by
  obtain ⟨D, hD⟩ : ∃ D, cbs (List.replicate 32 0) = D := ⟨_, rfl⟩
  have hA : (w.alloc (.cells (cbs (List.replicate 32 0)).toArray 38)).cell? ⟨t, 2, none⟩ = some (.slice (some ⟨lv, 0, none⟩) 1 1) := (World.cell?_of_block (heap_alloc_old _ _ ht)).trans c2
  have Hno := Lib.hid (tnone_no' t lv 1 1 _ hA (Nat.le_refl _))
  have HD := Lib.hid (show D.length = 32 ∧ D.toArray.all (·.oneCell') = true ∧ cbs (List.replicate 32 0) = D from by rw [← hD]; exact ⟨rfl, cbs_one' _, rfl⟩)
  have hcall2 : Calls Try.prog 35 #[.slice (some ⟨lv, 0, none⟩) 1 1] (w.alloc (.cells (cbs (List.replicate 32 0)).toArray 38)) fun e w1 => e = .returned (.tuple #[.agg D.toArray, .int .i64 1]) ∧ Q w1 ∧ Blk w1 w.heap.size 38 D := hcall.mono (by
    rintro e w1 ⟨rfl, h1, h2⟩
    rw [hD] at h2
    exact ⟨by rw [hD], h1, h2⟩)
  have Hc := Lib.hid hcall2
  have hgoal : Calls Try.prog 27 #[.pointer (some ⟨t, 0, none⟩)] w fun e w' => e = .returned (.tuple #[.agg D.toArray, .int .i64 1]) ∧ ∃ w1, Q w1 ∧ w' = w1.setCells w.heap.size 0 D := by
    clear hcall hcall2 hA hD
    go_enter Try.func27, Try.ntmps27
    go_wp2_with (go_at_call 31; refine Hno.out.mono ?_; rintro e w' ⟨rfl, rfl⟩)
    refine Hc.out.mono ?_
    rintro e w1 ⟨rfl, hQ, hZ⟩
    have hsD : D.toArray.size = 32 := by rw [List.size_toArray]; exact HD.out.1
    have hth : w1.there w.heap.size 0 D.toArray.size := by have h := hZ.there; rw [HD.out.1] at h; rw [hsD]; exact h
    have hi : (Try.prog.info? 38).map (·.size) = some D.toArray.size := by rw [hsD]; exact info32b
    have hR := hZ.setAll (vs := D) rfl
    have H := Lib.hid (And.intro hth (And.intro hi (And.intro hR hQ)))
    clear hQ hZ hsD hth hi hR
    go_wp2_with (refine wpList_store_mid rfl 38 _ _ rfl w.heap.size 0 D.toArray rfl rfl H.out.1 H.out.2.1 HD.out.2.1 ?_)
    refine bodyPost_ret (results_row_tmp rfl _ _ w.heap.size 38 D.toArray (0, 0) _ rfl H.out.2.2.1 Try.underlying38 rfl H.out.2.1) rfl ?_
    exact ⟨rfl, w1, H.out.2.2.2, rfl⟩
  rw [hD]
  exact hgoal

set_option maxRecDepth 100000 in
set_option maxHeartbeats 1600000 in
theorem tnew_none (pv : Option Addr) (w : World) (h : NoBook w (.pointer pv)) : Calls Try.prog 13 #[.pointer pv, .int .i64 1] w fun e w' => e = .returned (.tuple #[.pointer none, .int .i64 1]) ∧ Below w.heap.size w w' := by
  have Hp := Lib.hid (pile1_v pv 29 #[] w)
  have hnot : ∀ (x : Bool) (w : World), (Op.unary .not (.bool x)).run Try.prog w = .ok (.bool (!x)) w := fun _ _ => rfl
  have Hh := Lib.hid h
  clear h
  go_enter Try.func13, Try.ntmps13
  go_wp2_with (go_at_call 28; refine (isCount_yes _ _ (by decide) (by decide)).mono ?_; rintro e w ⟨rfl, rfl⟩)
  refine Hp.out.mono ?_
  rintro e w1 ⟨lv, rfl, hP⟩
  obtain ⟨w2, hw2⟩ : ∃ w2, w1.alloc (.cells #[.pointer pv, .int .i64 1, .slice (some ⟨lv, 0, none⟩) 1 1] 70) = w2 := ⟨_, rfl⟩
  have hb2 : Below w1.heap.size w1 w2 := by rw [← hw2]; exact (Below.refl _ _).alloc (Nat.le_refl _) _
  have hz2 : w2.heap.size = w1.heap.size + 1 := by rw [← hw2]; simp
  have hT : Blk w2 w1.heap.size 70 [.pointer pv, .int .i64 1, .slice (some ⟨lv, 0, none⟩) 1 1] := by rw [← hw2]; exact Blk.new rfl rfl
  have hA : Below w2.heap.size w2 (w2.alloc (.cells (cbs (List.replicate 32 0)).toArray 38)) := (Below.refl _ _).alloc (Nat.le_refl _) _
  have hZ : Blk (w2.alloc (.cells (cbs (List.replicate 32 0)).toArray 38)) w2.heap.size 38 (cbs (List.replicate 32 0)) := Blk.new rfl rfl
  have hb1A := hb2.trans (hA.mono hb2.size)
  have hro := trootE w1.heap.size lv (fun w3 => Out (fun j => w.heap.size ≤ j) w2 w3) w2 hT.lt (hT.cell rfl) ((pileE hP _ hb1A (botN_at hP Hh.out hb1A)).mono (by
    rintro e w3 ⟨rfl, hO⟩
    refine ⟨rfl, (Out.ofBelow _ hA).trans hO fun i _ hi => hi.1, hO.blk hZ fun e => by omega⟩))
  obtain ⟨D, hD⟩ : ∃ D, cbs (List.replicate 32 0) = D := ⟨_, rfl⟩
  rw [hD] at hro
  have HD := Lib.hid (show D.length = 32 ∧ D.toArray.all (·.oneCell') = true from by rw [← hD]; exact ⟨rfl, cbs_one' _⟩)
  have Hro : Hid (Calls Try.prog 27 #[.pointer (some ⟨w1.heap.size, 0, none⟩)] (w1.alloc (.cells #[.pointer pv, .int .i64 1, .slice (some ⟨lv, 0, none⟩) 1 1] 70)) fun e w' => e = .returned (.tuple #[.agg D.toArray, .int .i64 1]) ∧ ∃ w3, Out (fun j => w.heap.size ≤ j) w2 w3 ∧ w' = w3.setCells w2.heap.size 0 D) := by
    rw [hw2]; exact Lib.hid hro
  have H1 := Lib.hid (And.intro (hP.bel.trans (hb2.mono hP.bel.size)) hP.bel.size)
  have Hz2 := Lib.hid hz2
  clear hP hw2 hb2 hz2 hT hA hZ hb1A hro hD
  go_wp2_with fail
  refine Hro.out.mono ?_
  rintro e w4 ⟨rfl, w3, hO, rfl⟩
  have hz1 := H1.out.2
  have hz2 := Hz2.out
  have hb4 : Below w.heap.size w (w3.setCells w2.heap.size 0 D) := Below.setCells (by omega) D (H1.out.1.trans (hO.above (fun _ h => h) H1.out.1.size))
  obtain ⟨w4, hw4⟩ : ∃ w4, w3.setCells w2.heap.size 0 D = w4 := ⟨_, rfl⟩
  rw [hw4] at hb4 ⊢
  clear hw4
  obtain ⟨w5, hw5, ⟨hth, hi⟩, hbS, hbel, hsz⟩ := dig_local w4 D HD.out.1
  have Hw5 := Lib.hid hw5
  have Hs := Lib.hid (And.intro hth hi)
  have H5 := Lib.hid (hb4.trans (hbel.mono hb4.size))
  clear hth hi hbS hbel hsz hw5 hb4 hO hz1 hz2 Hro
  go_wp2_with (refine wpList_store_mid rfl 38 _ _ rfl w4.heap.size 0 D.toArray rfl rfl Hs.out.1 Hs.out.2 HD.out.2 ?_; simp only [Act.put]; refine cast (congrArg (fun z => wpList _ _ _ _ _ z) Hw5.out.symm) ?_)
  go_ret2
  exact ⟨rfl, H5.out⟩
end Go.Proofs.Ytbdocaohnigekaa
