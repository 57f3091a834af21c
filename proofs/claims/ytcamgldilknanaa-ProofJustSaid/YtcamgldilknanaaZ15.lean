/-
  Laid together for a hand-in: Nt9, Md10, Fi10.
-/
import Derived.Test.YtcamgldilknanaaZ14
import Derived.Test.YtcamgldilknanaaZ13
import Derived.Deep.RegionHeld3
import Derived.Deep.RegionWith
import Derived.Deep.DeepCutAuto

namespace Go.Proofs.Ytcamgldilknanaa

open Go.RowKit Go.Maps

set_option linter.unusedVariables false

set_option maxRecDepth 100000 in
set_option maxHeartbeats 800000 in
theorem leaf_none (bv : Value) (A : Option Addr) (n cp : Nat) (x : List UInt8) (w : World) (h : NoBook w bv)
    (hB : Bs w A x) (hn : x.length = n) (hc : n ≤ cp) (hcm : cp ≤ maxLen) (hs : n ≤ 65535) :
    Calls Try.prog 29 #[bv, .slice A n cp] w fun e w' => e = .returned (.tuple #[.agg (cbs (List.replicate 32 0)).toArray, .int .i64 1]) ∧ Below w.heap.size w w' := by
  obtain ⟨D, hD32, hDv, hD1⟩ : ∃ D : List Value, D.length = 32 ∧ cbs (List.replicate 32 0) = D ∧ D.toArray.all (·.oneCell') = true := ⟨cbs (List.replicate 32 0), rfl, rfl, cbs_one' _⟩
  have hb1 : Below w.heap.size w (w.alloc (.cells (cbs (List.replicate 32 0)).toArray 31)) := (Below.refl _ _).alloc (Nat.le_refl _) _
  have hZ1 : Blk (w.alloc (.cells (cbs (List.replicate 32 0)).toArray 31)) w.heap.size 31 (cbs (List.replicate 32 0)) := Blk.new rfl rfl
  have hls := two_lss (w.alloc (.cells (cbs (List.replicate 32 0)).toArray 31)) A n cp x (hB.after hb1) hn hc hcm 5 39
  rw [World.size_alloc] at hls
  have hfl : ([[0], x] : List (List UInt8)).flatten = leafIn x := by simp [leafIn]
  have hcat := concat_any (some ⟨w.heap.size + 1 + 1, 0, none⟩) 2 2 [[0], x] _ hls rfl (by omega) (by rw [hfl, leafIn_len]; omega)
  rw [hfl] at hcat
  have Hcat := Lib.hid hcat
  have H1 := Lib.hid (And.intro hb1 hZ1)
  have Ho := Lib.hid (And.intro hD32 (And.intro hDv hD1))
  have Hh := Lib.hid h
  clear hcat hls hb1 hZ1 hD32 hDv hD1 h hB hn hc hcm hfl
  have hgoal := Ho.out.2.1
  rw [hgoal]
  clear hgoal
  go_enter Try.func29, Try.ntmps29
  go_wp2_with (go_at_call 41; refine (isLong_no A n cp _ hs).mono ?_; rintro e w' ⟨rfl, rfl⟩)
  refine Hcat.out.mono ?_
  rintro e w2 ⟨v, rfl, hm2, hb2⟩
  have hbA : Below w.heap.size w w2 := ((H1.out.1.alloc (by simp) _).alloc (by simp; omega) _).trans (hb2.mono (by simp; omega))
  have hbB : Below (w.heap.size + 1) (w.alloc (.cells (cbs (List.replicate 32 0)).toArray 31)) w2 := (((Below.refl _ _).alloc (by simp) _).alloc (by simp) _).trans (hb2.mono (by simp))
  have hZ2 : Blk w2 w.heap.size 31 (cbs (List.replicate 32 0)) := H1.out.2.below hbB (by omega)
  obtain ⟨Av, cv, rfl, hcv, hcvm, hBv⟩ := Mine.form hm2
  have hof := bof_none bv Av (leafIn x).length cv w2 (Hh.out.below hbA)
  rw [Ho.out.2.1] at hof
  have Hof := Lib.hid hof
  have H2 := Lib.hid (And.intro hbA hZ2)
  have hlt2 := hZ2.lt
  clear hof hm2 hb2 hbA hbB hZ2 hcv hcvm hBv
  go_wp2_with fail
  refine Hof.out.mono ?_
  rintro e w3 ⟨rfl, hG3⟩
  have hZ3 := H2.out.2.below hG3 hlt2
  have hsD : D.toArray.size = 32 := by rw [List.size_toArray]; exact Ho.out.1
  have hth : w3.there w.heap.size 0 D.toArray.size := by
    have e := hZ3.there
    rw [cbs_length, List.length_replicate] at e
    rw [hsD]; exact e
  have hi : (Try.prog.info? 31).map (·.size) = some D.toArray.size := by rw [hsD]; exact info32b
  have hR := hZ3.setAll (vs := D) (by rw [Ho.out.1, cbs_length, List.length_replicate])
  have hGf : Below w.heap.size w (w3.setCells w.heap.size 0 D) := Below.setCells (Nat.le_refl _) D (H2.out.1.trans (hG3.mono H2.out.1.size))
  have Hth := Lib.hid hth
  have Hi := Lib.hid hi
  have H3 := Lib.hid (And.intro hR hGf)
  clear hZ3 hsD hth hi hR hGf hG3 hlt2
  go_wp2_with (refine wpList_store_mid rfl 31 _ _ rfl w.heap.size 0 D.toArray rfl rfl Hth.out Hi.out Ho.out.2.2 ?_)
  refine bodyPost_ret (results_row_tmp rfl _ _ w.heap.size 31 D.toArray (0, 0) _ rfl H3.out.1 Try.underlying31 rfl Hi.out) rfl ?_
  exact ⟨rfl, H3.out.2⟩


set_option maxRecDepth 100000 in
set_option maxHeartbeats 1600000 in
theorem up_none (bv : Value) (A : Option Addr) (m cp : Nat) (ds : List Dg) (w : World) (h : NoBook w bv)
    (hD : Ds w A ds) (h32 : All32 ds) (hm : ds.length = m) (h1 : 1 ≤ m) (h4 : m ≤ 4) :
    Calls Try.prog 31 #[bv, .slice A m cp] w fun e w' => e = .returned (.tuple #[.agg (cbs (List.replicate 32 0)).toArray, .int .i64 1]) ∧ Below w.heap.size w w' := by
  obtain ⟨D, hD32, hDv, hD1⟩ : ∃ D : List Value, D.length = 32 ∧ cbs (List.replicate 32 0) = D ∧ D.toArray.all (·.oneCell') = true := ⟨cbs (List.replicate 32 0), rfl, rfl, cbs_one' _⟩
  have hb1 : Below w.heap.size w (w.alloc (.cells (cbs (List.replicate 32 0)).toArray 31)) := (Below.refl _ _).alloc (Nat.le_refl _) _
  have hZ1 : Blk (w.alloc (.cells (cbs (List.replicate 32 0)).toArray 31)) w.heap.size 31 (cbs (List.replicate 32 0)) := Blk.new rfl rfl
  have hM1 : Mine ((w.alloc (.cells (cbs (List.replicate 32 0)).toArray 31)).alloc (.cells #[.int .u8 1] 5)) (w.heap.size + 1) 5 (.slice (some ⟨w.heap.size + 1, 0, none⟩) 1 1) (1 :: (ds.take 0).flatten) := Mine.one (x := 1) (by simp) (Nat.le_refl _) rfl
  have hb2 := hb1.alloc (by simp) (.cells #[.int .u8 1] 5)
  have hb3 : Below (w.heap.size + 1) (w.alloc (.cells (cbs (List.replicate 32 0)).toArray 31)) ((w.alloc (.cells (cbs (List.replicate 32 0)).toArray 31)).alloc (.cells #[.int .u8 1] 5)) := (Below.refl _ _).alloc (by simp) _
  have H1 := Lib.hid (And.intro hb1 (And.intro hZ1 (And.intro hM1 (And.intro hb2 hb3))))
  have Ho := Lib.hid (And.intro hD32 (And.intro hDv hD1))
  have Hh := Lib.hid (And.intro h (And.intro trivial (And.intro trivial (And.intro hm (And.intro hD h32)))))
  have hm1 : ¬ ((m : Int) < 1) := by omega
  have hm4 : ¬ ((4 : Int) < m) := by omega
  clear hb1 hZ1 hM1 hb2 hb3 hD32 hDv hD1 h hm hD h32
  rw [Ho.out.2.1]
  go_enter Try.func31, Try.ntmps31
  go_wp2
  go_loopw [6, 8, 21] (fun v _ i wr => ∃ k : Nat, k ≤ m ∧ i = .int .i64 k ∧ Mine wr (w.heap.size + 1) 5 v (1 :: (ds.take k).flatten) ∧ Below w.heap.size w wr ∧ Blk wr w.heap.size 31 (cbs (List.replicate 32 0))) (fun _ _ i _ => m - (intOf i).toNat)
  case atStart => exact ⟨0, Nat.zero_le _, rfl, H1.out.2.2.1, H1.out.2.2.2.1, H1.out.2.1.below H1.out.2.2.2.2 (by omega)⟩
  case round =>
    obtain ⟨k, hk, rfl, hM, hB, hZ⟩ := hrel
    by_cases hlt : k < m
    · obtain ⟨b, off, rfl, hb, hr⟩ := (Hh.out.2.2.2.2.1.after hB).at_ Hh.out.2.2.2.2.2 (i := k) (by rw [Hh.out.2.2.2.1]; exact hlt)
      have hx32 : (ds[k]'(by rw [Hh.out.2.2.2.1]; exact hlt)).length = 32 := Hh.out.2.2.2.2.2 _ (List.getElem_mem _)
      have hst := flat_step9 ds k (by rw [Hh.out.2.2.2.1]; exact hlt)
      have hlen : (1 :: (ds.take k).flatten).length + 32 ≤ 140737488355328 := by
        have := flat_len (l := ds.take k) (fun x hx => Hh.out.2.2.2.2.2 x (List.mem_of_mem_take hx))
        rw [List.length_cons, this, List.length_take]; omega
      generalize (ds[k]'(by rw [Hh.out.2.2.2.1]; exact hlt)) = x at *
      obtain ⟨X, hX⟩ : ∃ X, cbs x = X := ⟨_, rfl⟩
      have hX32 : X.length = 32 := by rw [← hX, cbs_length, hx32]
      have hX1 : X.toArray.all (·.oneCell') = true := by rw [← hX]; exact cbs_one' _
      rw [hX] at hr
      have hXi : (Try.prog.info? 31).map (·.size) = some X.length := by rw [hX32]; exact info32b
      obtain ⟨wS, hwS, ⟨hth, hi⟩, hbS, hbel, hszS⟩ := dig_local wr X hX32
      have hBx : Bs wS (some ⟨wr.heap.size, 0, none⟩) x := Bs.ofBlk (by rw [hX]; exact hbS)
      have hMS : Mine wS (w.heap.size + 1) 5 _ (1 :: (ds.take k).flatten) := hM.after hbel
      have hBS : Below w.heap.size w wS := hB.trans (hbel.mono hB.size)
      have hZS : Blk wS w.heap.size 31 (cbs (List.replicate 32 0)) := hZ.below hbel hZ.lt
      have hgeS : w.heap.size + 1 ≤ wS.heap.size := by have := hZS.lt; omega
      have HwS := Lib.hid hwS
      have Hst := Lib.hid hst
      have Hl := Lib.hid (And.intro hx32 hlen)
      have Hr := Lib.hid (And.intro hr hXi)
      have Hs := Lib.hid (And.intro hth (And.intro hi hX1))
      have Hm := Lib.hid (And.intro hMS (And.intro hBx (And.intro hBS (And.intro hZS hgeS))))
      clear hwS hst hx32 hlen hr hXi hth hi hX1 hMS hBx hBS hZS hbS hbel hM hZ hX32 hX hszS hgeS
      go_wp2_with (first
        | (refine wpList_load_mid rfl 31 _ rfl b (off + k * 32) rfl X _ Hr.out.1 Try.underlying31 rfl Hr.out.2 ?_; simp only [Act.put])
        | (refine wpList_store_mid rfl 31 _ _ rfl wr.heap.size 0 X.toArray rfl rfl Hs.out.1 Hs.out.2.1 Hs.out.2.2 ?_; simp only [Act.put]; refine cast (congrArg (fun z => wpList _ _ _ _ _ z) HwS.out.symm) ?_)
        | (at_builtin; refine wp_appendB rfl _ _ rfl (w.heap.size + 1) _ _ rfl Hm.out.1 (some ⟨wr.heap.size, 0, none⟩) 32 32 x rfl Hm.out.2.1 Hl.out.1 Hl.out.2 Hm.out.2.2.2.2 ?_; intro v2 w2 hm2 hg2 ho2))
      go_roundw
      case rel =>
        have hw2 : Below w.heap.size w w2 := Hm.out.2.2.1.grown hg2 Hm.out.2.2.1.size fun j hj => by have := (World.ownsRow.lt Hm.out.1 j hj).1; omega
        have hz2 : Blk w2 w.heap.size 31 (cbs (List.replicate 32 0)) := (hg2.block _ Hm.out.2.2.2.1.lt fun e => by have := (World.ownsRow.lt Hm.out.1 _ e.symm).1; omega).trans Hm.out.2.2.2.1
        exact ⟨k + 1, by omega, by go_num, by rw [Hst.out]; exact hm2, hw2, hz2⟩
      case measure => simp [intOf]; omega
    · obtain rfl : k = m := by omega
      have Hst : Hid (1 :: (ds.take k).flatten = upIn ds) := by
        show _ = _; rw [List.take_of_length_le (by rw [Hh.out.2.2.2.1]; omega)]; rfl
      rw [Hst.out] at hM
      obtain ⟨Av, cv, rfl, hcv, hcvm, hBv⟩ := Mine.form hM
      have hof := bof_none bv Av (upIn ds).length cv wr (Hh.out.1.below hB)
      rw [Ho.out.2.1] at hof
      have Hof := Lib.hid hof
      have H2 := Lib.hid (And.intro hB hZ)
      have hlt2 := hZ.lt
      clear hof hM hB hZ hcv hcvm hBv
      go_wp2_with fail
      refine Hof.out.mono ?_
      rintro e w3 ⟨rfl, hG3⟩
      have hZ3 := H2.out.2.below hG3 hlt2
      have hsD : D.toArray.size = 32 := by rw [List.size_toArray]; exact Ho.out.1
      have hth : w3.there w.heap.size 0 D.toArray.size := by
        have e := hZ3.there
        rw [cbs_length, List.length_replicate] at e
        rw [hsD]; exact e
      have hi : (Try.prog.info? 31).map (·.size) = some D.toArray.size := by rw [hsD]; exact info32b
      have hR := hZ3.setAll (vs := D) (by rw [Ho.out.1, cbs_length, List.length_replicate])
      have hGf : Below w.heap.size w (w3.setCells w.heap.size 0 D) := Below.setCells (Nat.le_refl _) D (H2.out.1.trans (hG3.mono H2.out.1.size))
      have Hth := Lib.hid hth
      have Hi := Lib.hid hi
      have H3 := Lib.hid (And.intro hR hGf)
      clear hZ3 hsD hth hi hR hGf hG3 hlt2
      go_wp2_with (refine wpList_store_mid rfl 31 _ _ rfl w.heap.size 0 D.toArray rfl rfl Hth.out Hi.out Ho.out.2.2 ?_)
      refine bodyPost_ret (results_row_tmp rfl _ _ w.heap.size 31 D.toArray (0, 0) _ rfl H3.out.1 Try.underlying31 rfl Hi.out) rfl ?_
      exact ⟨rfl, H3.out.2⟩


def NoTree (w : World) (v : Value) : Prop := v = .pointer none ∨ ∃ t, v = .pointer (some ⟨t, 0, none⟩) ∧ t < w.heap.size ∧ w.cell? ⟨t, 2, none⟩ = some (.slice none 0 0)

theorem NoTree.below {w w' : World} {v : Value} (h : NoTree w v) (hb : Below w.heap.size w w') : NoTree w' v := by
  rcases h with rfl | ⟨g, rfl, hlt, h⟩
  · exact .inl rfl
  · exact .inr ⟨g, rfl, Nat.lt_of_lt_of_le hlt hb.size, (hb.cell hlt).trans h⟩

set_option maxRecDepth 100000 in
theorem tnone_yes (v : Value) (w : World) (h : NoTree w v) : Calls Try.prog 27 #[v] w fun e w' => e = .returned (.bool true) ∧ w' = w := by
  rcases h with rfl | ⟨g, rfl, _hlt, h⟩
  · go_enter Try.func27, Try.ntmps27
    go_wp2
    go_ret
    exact ⟨rfl, rfl⟩
  · go_enter Try.func27, Try.ntmps27
    go_wp2
    go_ret
    exact ⟨rfl, rfl⟩

theorem tdepth_none (v : Value) (w : World) (h : NoTree w v) : Calls Try.prog 18 #[v] w fun e w' => e = .returned (.int .i64 0) ∧ w' = w := by
  have Hno := Lib.hid (tnone_yes v w h)
  clear h
  go_enter Try.func18, Try.ntmps18
  go_wp2_with (go_at_call 27; refine Hno.out.mono ?_; rintro e w' ⟨rfl, rfl⟩)
  go_ret
  exact ⟨rfl, rfl⟩

theorem tleaves_none (v : Value) (w : World) (h : NoTree w v) : Calls Try.prog 12 #[v] w fun e w' => e = .returned (.int .i64 0) ∧ w' = w := by
  have Hno := Lib.hid (tnone_yes v w h)
  clear h
  go_enter Try.func12, Try.ntmps12
  go_wp2_with (go_at_call 27; refine Hno.out.mono ?_; rintro e w' ⟨rfl, rfl⟩)
  go_ret
  exact ⟨rfl, rfl⟩

theorem tlevel_none (v : Value) (i : Int) (w : World) (h : NoTree w v) : Calls Try.prog 19 #[v, .int .i64 i] w fun e w' => e = .returned (.tuple #[.slice none 0 0, .int .i64 1]) ∧ w' = w := by
  have Hno := Lib.hid (tnone_yes v w h)
  clear h
  go_enter Try.func19, Try.ntmps19
  go_wp2_with (go_at_call 27; refine Hno.out.mono ?_; rintro e w' ⟨rfl, rfl⟩)
  go_ret2
  exact ⟨rfl, rfl⟩

theorem tset_none (v : Value) (i : Int) (w : World) (h : NoTree w v) : Calls Try.prog 26 #[v, .int .i64 i, .slice none 0 0] w fun e w' => e = .returned (.int .i64 1) ∧ w' = w := by
  have Hno := Lib.hid (tnone_yes v w h)
  clear h
  go_enter Try.func26, Try.ntmps26
  go_wp2_with (go_at_call 27; refine Hno.out.mono ?_; rintro e w' ⟨rfl, rfl⟩)
  go_ret
  exact ⟨rfl, rfl⟩

set_option maxRecDepth 100000 in
theorem troot_none (v : Value) (w : World) (h : NoTree w v) : Calls Try.prog 13 #[v] w fun e w' => e = .returned (.tuple #[.agg (cbs (List.replicate 32 0)).toArray, .int .i64 1]) ∧ Below w.heap.size w w' := by
  have b0 : Below w.heap.size w (w.alloc (.cells (cbs (List.replicate 32 0)).toArray 31)) := (Below.refl _ _).alloc (Nat.le_refl _) _
  have Hno := Lib.hid (tnone_yes v _ (h.below b0))
  have hZ : Blk (w.alloc (.cells (cbs (List.replicate 32 0)).toArray 31)) w.heap.size 31 (cbs (List.replicate 32 0)) := Blk.new rfl rfl
  have hth : (w.alloc (.cells (cbs (List.replicate 32 0)).toArray 31)).there w.heap.size 0 (cbs (List.replicate 32 0)).toArray.size := hZ.there
  have hR := hZ.setAll (vs := cbs (List.replicate 32 0)) rfl
  have hb1 : Below w.heap.size w ((w.alloc (.cells (cbs (List.replicate 32 0)).toArray 31)).setCells w.heap.size 0 (cbs (List.replicate 32 0))) := Below.setCells (Nat.le_refl _) _ b0
  have Hb := Lib.hid (And.intro hth (And.intro hR hb1))
  clear h b0 hZ hth hR hb1
  go_enter Try.func13, Try.ntmps13
  go_wp2_with (first | (go_at_call 27; refine Hno.out.mono ?_; rintro e w' ⟨rfl, rfl⟩) | (refine wpList_store_mid rfl 31 _ _ rfl w.heap.size 0 (cbs (List.replicate 32 0)).toArray rfl rfl Hb.out.1 info32b (cbs_one' _) ?_))
  refine bodyPost_ret (results_row_tmp rfl _ _ w.heap.size 31 (cbs (List.replicate 32 0)).toArray (0, 0) _ rfl Hb.out.2.1 Try.underlying31 rfl info32b) rfl ?_
  exact ⟨rfl, Hb.out.2.2⟩

theorem tnew_bad9 (v : Value) (n : Int) (w : World) (h : n < 1 ∨ 1024 < n) : Calls Try.prog 25 #[v, .int .i64 n] w fun e w' => e = .returned (.tuple #[.pointer none, .int .i64 2]) ∧ w' = w := by
  have hnot : ∀ (x : Bool) (w : World), (Op.unary .not (.bool x)).run Try.prog w = .ok (.bool (!x)) w := fun _ _ => rfl
  go_enter Try.func25, Try.ntmps25
  go_wp2_with (go_at_call 37; refine (isCount_no _ _ h).mono ?_; rintro e w ⟨rfl, rfl⟩)
  go_ret2
  exact ⟨rfl, rfl⟩

end Go.Proofs.Ytcamgldilknanaa

namespace Go.Proofs.Ytcamgldilknanaa
open Go.RowKit Go.Maps
set_option linter.unusedVariables false

/-- What 'x[:min(len(x), K)]' leaves of a slice that shows bytes. -/
theorem cutT {w : World} {A : Option Addr} {c : Nat} {l : List UInt8} (N : Nat) (K : Int) (hK : K = (N : Int)) (h2 : l.length ≤ c) (h3 : c ≤ maxLen) (h4 : Bs w A l) : ∃ m, (l.take N).length = m ∧ m ≤ N ∧ m ≤ c ∧ Bs w A (l.take N) ∧
    (∀ ts t w, (Builtin.min_ ts t #[.int .i64 (l.length : Int), .int .i64 K]).run Try.prog w = .ok (.int .i64 (m : Int)) w) ∧
    (∀ w, (Instr.sliceAt 39 (.slice A l.length c) none (some (.int .i64 (m : Int))) none).run Try.prog w = .ok (.slice A m c) w) := by
  subst hK
  have e : l.take N = l.take (min l.length N) := by
    by_cases h : l.length ≤ N
    · rw [List.take_of_length_le h, List.take_of_length_le (by omega)]
    · rw [show min l.length N = N by omega]
  rw [e]
  refine ⟨min l.length N, by rw [List.length_take]; omega, by omega, by omega, h4.front (by omega), fun ts t w => ?_, fun w => ?_⟩
  · rw [run_min_int2]
    congr 2
    split <;> omega
  · have h1 : ((min l.length N : Nat) : Int) ≤ c := by omega
    generalize min l.length N = m at *
    go_simp

/-- The leaves as they are made. -/
def cut40 (ls : List (List UInt8)) : List (List UInt8) := (ls.take 40).map fun x => x.take 100
theorem cut40_len (ls : List (List UInt8)) : (cut40 ls).length = min 40 ls.length := by simp [cut40]
theorem cut40_sm (ls : List (List UInt8)) : ∀ x ∈ cut40 ls, x.length ≤ 100 := fun x hx => by
  unfold cut40 at hx
  obtain ⟨y, _, rfl⟩ := List.mem_map.1 hx
  rw [List.length_take]; omega
theorem cut40_get (ls : List (List UInt8)) (i : Nat) (hi : i < 40) (hl : i < ls.length) : (cut40 ls)[i]? = some (ls[i].take 100) := by
  unfold cut40
  rw [List.getElem?_map, List.getElem?_take_of_lt hi, List.getElem?_eq_getElem hl]; rfl

/-- A tree of the leaves cur and its book, while a statement goes on from w0. -/
structure Tb (w0 : World) (B g bm t m : Nat) (M N : Nat → Prop) (bnd : Nat) (cur : List (List UInt8)) (s0 s : Bk) (w : World) : Prop where
  tree : TreeAt w M t g (lows cur)
  kb : Kb B w g bm s (fun i => N i ∨ M i)
  out : Out (Tn B bm w0 N) w0 w
  ge : ∀ i, M i → w0.heap.size ≤ i
  len : cur.length = m
  has : Has cur s
  good : Unmixed s0 → Unmixed s
  b1 : s.1.length ≤ bnd
  b2 : s.2.2 ≤ bnd
  hB : B ≤ w0.heap.size
section
variable {w0 w w' : World} {B g bm t m bnd : Nat} {M N : Nat → Prop} {cur : List (List UInt8)} {s0 s : Bk}
theorem Tb.below (h : Tb w0 B g bm t m M N bnd cur s0 s w) (hb : Below w.heap.size w w') : Tb w0 B g bm t m M N bnd cur s0 s w' :=
  ⟨h.tree.below hb, h.kb.below hb, h.out.then_below hb, h.ge, h.len, h.has, h.good, h.b1, h.b2, h.hB⟩
theorem Tb.more {b' : Nat} (h : Tb w0 B g bm t m M N bnd cur s0 s w) (hb : bnd ≤ b') : Tb w0 B g bm t m M N b' cur s0 s w :=
  ⟨h.tree, h.kb, h.out, h.ge, h.len, h.has, h.good, Nat.le_trans h.b1 hb, Nat.le_trans h.b2 hb, h.hB⟩
theorem Tb.m1 (h : Tb w0 B g bm t m M N bnd cur s0 s w) : 1 ≤ m ∧ m ≤ 1024 := by
  have h1 := h.tree.l1
  have h2 := h.tree.l2
  rw [lows_len, h.len] at h1 h2
  exact ⟨h1, h2⟩
/-- The book goes on: from a call that leaves all of N and M. -/
theorem Tb.ask {s' : Bk} {ins : List (List UInt8)} {b' : Nat} (h : Tb w0 B g bm t m M N bnd cur s0 s w) (hk : Kb B w' g bm s' (fun i => N i ∨ M i)) (hO : Out (Tn B bm w (fun i => N i ∨ M i)) w w') (hs : s' = noteAll s ins) (hl : bnd + ins.length ≤ b') : Tb w0 B g bm t m M N b' cur s0 s' w' := by
  subst hs
  have h3 := noteAll_len s ins
  have h1 := h.b1
  have h2 := h.b2
  exact ⟨h.tree.out hO fun i hi => Tn.keep (.inr hi), hk, h.out.tn hO fun i _ hn => .inl hn, h.ge, h.len, h.has.more ins, fun h' => noteAll_good _ _ (h.good h'), by omega, by omega, h.hB⟩
theorem Tb.set (h : Tb w0 B g bm t m M N bnd cur s0 s w) (hb : bnd ≤ 900000) (i : Nat) (hi : i < m) (A : Option Addr) (nx cp : Nat) (x : List UInt8) (hBx : Bs w A x) (hnx : x.length = nx) (hcx : nx ≤ cp) (hcm : cp ≤ maxLen) (hx : nx ≤ 65535) :
    Calls Try.prog 26 #[.pointer (some ⟨t, 0, none⟩), .int .i64 (i : Int), .slice A nx cp] w fun e w' =>
      e = .returned (.int .i64 0) ∧ Tb w0 B g bm t m M N (bnd + 8) (cur.set i x) s0 (noteAll s (setIns (lows cur) i x (dep cur.length - 1))) w' := by
  have hb1 := h.b1
  have hb2 := h.b2
  have hl := h.len
  have hll : (lows cur).length = cur.length := lows_len cur
  have hm := h.m1
  refine (tset_any B bm s _ h.tree h.kb (Nat.le_trans h.hB h.out.size) (fun j hj => .inr hj) (by omega) (by omega) i (by omega) A nx cp x hBx hnx hcx hcm hx).mono ?_
  rintro e w' ⟨rfl, hT, hK, hO⟩
  rw [hll] at hK
  rw [lowSet_lows] at hT
  have h3 := noteAll_len s (setIns (lows cur) i x (dep cur.length - 1))
  have h4 := setIns_len (lows cur) i x (dep cur.length - 1)
  have h5 : dep cur.length ≤ 6 := dep_le (by omega)
  have h6 := dep_pos cur.length
  refine ⟨rfl, hT, hK, h.out.trans hO fun j hj hs => ?_, h.ge, by rw [List.length_set]; exact hl, h.has.set i (by omega) x, fun h' => noteAll_good _ _ (h.good h'), by omega, by omega, h.hB⟩
  rcases hs with hs | hs
  · by_cases ht : Tn B bm w0 N j
    · exact ht
    · refine ⟨hs.1, fun e => hs.2.1 (.inl e), ?_⟩
      rcases hs.2.2 with e | ⟨cs, ty, fr, hc⟩
      · exact .inl e
      · exact .inr ⟨cs, ty, fr, (h.out.block j hj ht).symm.trans hc⟩
  · have := h.ge j hs; omega
end
/-- What made answers of some leaves. -/
def MadeP (B g bm : Nat) (s : Bk) (N : Nat → Prop) (b : Nat) (xs : List (List UInt8)) (w : World) (e : Ending) (w' : World) : Prop :=
  ∃ t M s', e = .returned (.pointer (some ⟨t, 0, none⟩)) ∧ Tb w B g bm t xs.length M N (b + 6500) xs s s' w'
theorem cur_done (xs cur : List (List UInt8)) (h : cur.length = xs.length) (he : ∀ j, j < xs.length → cur[j]? = xs[j]?) : cur = xs := by
  apply List.ext_getElem?
  intro j
  by_cases hj : j < xs.length
  · exact he j hj
  · rw [List.getElem?_eq_none (by omega), List.getElem?_eq_none (by omega)]
set_option maxRecDepth 100000 in
set_option maxHeartbeats 3200000 in
theorem made_none (v : Value) (A : Option Addr) (c : Nat) (w : World) : Calls Try.prog 10 #[v, .slice A 0 c] w fun e w' => e = .returned (.pointer none) ∧ w' = w := by
  have hmin0 : ∀ ts t w, (Builtin.min_ ts t #[.int .i64 ((0 : Nat) : Int), .int .i64 40]).run Try.prog w = .ok (.int .i64 0) w := fun ts t w => by
    rw [run_min_int2]; rfl
  have hmin : ∀ ts t w, (Builtin.min_ ts t #[.int .i64 0, .int .i64 40]).run Try.prog w = .ok (.int .i64 0) w := fun ts t w => by
    rw [run_min_int2]; rfl
  go_enter Try.func10, Try.ntmps10
  go_wp2_with (go_at_call 25; refine (tnew_bad9 _ _ _ (by decide)).mono ?_; rintro e wx ⟨rfl, rfl⟩)
  go_ret
  exact ⟨rfl, rfl⟩
set_option maxRecDepth 100000 in
set_option maxHeartbeats 3200000 in
theorem made_any (B g bm : Nat) (s : Bk) (N : Nat → Prop) (b : Nat) (w : World) (hk : Kb B w g bm s N) (hB : B ≤ w.heap.size) (hb : b ≤ 800000) (hb1 : s.1.length ≤ b) (hb2 : s.2.2 ≤ b) (K : Nat → Prop) (A : Option Addr) (n c : Nat) (ls : List (List UInt8)) (hl : LvsAt w K A ls) (hn : ls.length = n) (h1 : 1 ≤ n) (hnm : n ≤ maxLen) (hK : ∀ j, K j → j < w.heap.size ∧ (j < B ∨ N j)) :
    Calls Try.prog 10 #[.pointer (some ⟨g, 0, none⟩), .slice A n c] w (MadeP B g bm s N b (cut40 ls) w) := by
  obtain ⟨m, hm⟩ : ∃ m, min n 40 = m := ⟨_, rfl⟩
  have hmin : ∀ ts t w, (Builtin.min_ ts t #[.int .i64 (n : Int), .int .i64 40]).run Try.prog w = .ok (.int .i64 (m : Int)) w := fun ts t w => by
    rw [run_min_int2]; congr 2; split <;> omega
  have hm1 : 1 ≤ m := by omega
  have hm2 : m ≤ 40 := by omega
  have hmn : m ≤ n := by omega
  have Hn := Lib.hid (tnew_any B g bm s m N w hk hB (by omega) (by omega) hm1 (by omega))
  have hlen : (cut40 ls).length = m := by rw [cut40_len]; omega
  have Hx := Lib.hid (And.intro hlen (And.intro hl (And.intro hn hK)))
  have H0 := Lib.hid (And.intro hk (And.intro hB (And.intro hb (And.intro hb1 hb2))))
  clear hk hB hb hb1 hb2 hl hn h1 hnm hK hm hlen
  go_enter Try.func10, Try.ntmps10
  go_wp2_with fail
  refine Hn.out.mono ?_
  rintro e w2 ⟨t, M, rfl, hT, hM, hk2, hO2⟩
  obtain ⟨hk, hB, hb, hb1, hb2⟩ := H0.out
  have hbnd := new_bound m hm1 (by omega) s
  have hS0 : Tb w B g bm t m M N (b + 6144) (empties m) s (noteAll s (insTo (empties m) (dep m - 1))) w2 :=
    ⟨hT, hk2, hO2, hM, empties_len m, by have := has_new (empties m) s; rw [empties_len] at this; exact this, fun h' => noteAll_good _ _ h', by omega, by omega, hB⟩
  have HS0 := Lib.hid hS0
  have Hb := Lib.hid hb
  clear hT hM hk2 hO2 hk hB hb hb1 hb2 hbnd hS0 Hn
  go_wp2
  go_loopw [8] (fun iv wr => ∃ (i : Nat) (cur : List (List UInt8)) (sk : Bk), i ≤ m ∧ iv = .int .i64 (i : Int) ∧ Tb w B g bm t m M N (b + 6144 + 8 * i) cur s sk wr ∧ ∀ j, j < i → cur[j]? = (cut40 ls)[j]?) (fun iv _ => m - (intOf iv).toNat)
  case atStart => exact ⟨0, _, _, Nat.zero_le _, rfl, HS0.out, fun j hj => by omega⟩
  case round =>
    obtain ⟨i, cur, sk, hi, rfl, hS, hC⟩ := hrel
    obtain ⟨hlen, hl, hn, hK⟩ := Hx.out
    have hb := Hb.out
    by_cases hin : i < m
    · have hst : ∀ w', Out (Tn B bm w N) w w' → Stays K w w' := fun w' hO => (Stays.refl K w).out (fun j hj => ⟨(hK j hj).1, fun e => by
        rcases (hK j hj).2 with h | h
        · exact Tn.low h e
        · exact Tn.keep h e⟩) hO
      have hil : i < ls.length := by omega
      obtain ⟨lb, off, rfl, hkb, hcc⟩ := hl
      obtain ⟨AB, cB, g1, g2, g3, g4, g5⟩ := hcc i hil
      have hgx := cut40_get ls i (by omega) hil
      obtain ⟨nj, hnj⟩ : ∃ n, (ls[i]).length = n := ⟨_, rfl⟩
      obtain ⟨m1, q1, q2, q3, q4, hmin2, hsl⟩ := cutT 100 100 rfl g2 g3 g4
      rw [hnj] at g1 hmin2 hsl
      obtain ⟨x, hx⟩ : ∃ x, (ls[i]).take 100 = x := ⟨_, rfl⟩
      rw [hx] at q1 q4 hgx
      have Hset := Lib.hid ((hS.below (Below.refl _ _).drew).set (by omega) i hin AB m1 cB x (q4.stays (hst _ ((hS.below (Below.refl _ _).drew).out)) (fun a e hne => g5 a e fun e2 => hne (by rw [← hx, e2]; rfl))) q1 q3 g3 (by omega))
      have Hcc := Lib.hid (show ∀ w', Out (Tn B bm w N) w w' → w'.cell? ⟨lb, off + i, none⟩ = some (.slice AB nj cB) from fun w' hO => (World.cell?_of_block ((hst w' hO).2 lb hkb)).trans g1)
      have HC := Lib.hid (And.intro hC (And.intro hgx (And.intro hS.len hlen)))
      have HS := Lib.hid hS
      have i0 : (0 : Int) ≤ (i : Int) := by omega
      have i1 : (i : Int) < (n : Int) := by omega
      have i2 : (i : Int) < (m : Int) := by omega
      clear hlen hn hK hcc g1 g2 g3 g4 g5 q1 q2 q3 q4 hgx hnj hx hst hS hC hkb hil
      go_wp2
      have Q0 : wr.drew.cell? ⟨lb, off + i, none⟩ = some (.slice AB nj cB) := Hcc.out _ ((HS.out.below (Below.refl _ _).drew).out)
      refine wp_region_held_drew (S := fun W' => W'.cell? ⟨lb, off + i, none⟩ = some (.slice AB nj cB)) (by kernel_rfl) Q0 (fun _ => ?_)
      refine anyH_take (i := 0) (d := 25) (v := ?v0) rfl rfl (by kernel_rfl) (by kernel_rfl) (by kernel_rfl) (fun _ _ _ h => h) (Or.inl ⟨by rfl, ?vy0⟩) Q0 ?vr0
      case vy0 => (intro w; go_simp; try with_reducible rfl)
      simp only [List.setIfInBounds_toArray, List.set_cons_zero, List.set_cons_succ]
      refine anyH_take (i := 1) (d := 26) (v := ?v1) rfl rfl (by kernel_rfl) (by kernel_rfl) (by kernel_rfl) (fun _ _ _ h => h) (Or.inl ⟨by rfl, ?vy1⟩) Q0 ?vr1
      case vy1 => (intro w; go_simp; try with_reducible rfl)
      simp only [List.setIfInBounds_toArray, List.set_cons_zero, List.set_cons_succ]
      refine anyH_take (i := 2) (d := 27) (v := ?v2) rfl rfl (by kernel_rfl) (by kernel_rfl) (by kernel_rfl) (fun _ _ _ h => h) (Or.inl ⟨by rfl, ?vy2⟩) Q0 ?vr2
      case vy2 => (intro w; go_simp; try with_reducible rfl)
      simp only [List.setIfInBounds_toArray, List.set_cons_zero, List.set_cons_succ]
      refine anyH_take (i := 3) (d := 28) (v := ?v3) rfl rfl (by kernel_rfl) (by kernel_rfl) (by kernel_rfl) (fun _ _ _ h => h) (Or.inl ⟨by rfl, ?vy3⟩) Q0 ?vr3
      case vy3 => (intro w; go_simp; try with_reducible rfl)
      simp only [List.setIfInBounds_toArray, List.set_cons_zero, List.set_cons_succ]
      refine anyH_take (i := 4) (d := 29) (v := ?v4) rfl rfl (by kernel_rfl) (by kernel_rfl) (by kernel_rfl) (fun _ _ _ h => h) (Or.inl ⟨by rfl, ?vy4⟩) Q0 ?vr4
      case vy4 => (intro w; go_simp; try with_reducible rfl)
      simp only [List.setIfInBounds_toArray, List.set_cons_zero, List.set_cons_succ]
      refine wpAnyH_take' (i := 5) (d := 30) (v := ?v5) rfl rfl (by kernel_rfl) (by kernel_rfl) (by kernel_rfl) (fun _ _ _ h => h) (Or.inl ⟨by rfl, ?vy5⟩) Q0 ?vr5
      case vy5 => (intro w hSw; go_split_ands; go_simp; try with_reducible rfl)
      simp only [List.setIfInBounds_toArray, List.set_cons_zero, List.set_cons_succ]
      refine anyH_take (i := 6) (d := 31) (v := ?v6) rfl rfl (by kernel_rfl) (by kernel_rfl) (by kernel_rfl) (fun _ _ _ h => h) (Or.inl ⟨by rfl, ?vy6⟩) Q0 ?vr6
      case vy6 => (intro w; go_simp; try with_reducible rfl)
      simp only [List.setIfInBounds_toArray, List.set_cons_zero, List.set_cons_succ]
      refine anyH_take (i := 7) (d := 32) (v := ?v7) rfl rfl (by kernel_rfl) (by kernel_rfl) (by kernel_rfl) (fun _ _ _ h => h) (Or.inl ⟨by rfl, ?vy7⟩) Q0 ?vr7
      case vy7 => (intro w; go_simp; try with_reducible rfl)
      simp only [List.setIfInBounds_toArray, List.set_cons_zero, List.set_cons_succ]
      refine anyH_take (i := 8) (d := 33) (v := ?v8) rfl rfl (by kernel_rfl) (by kernel_rfl) (by kernel_rfl) (fun _ _ _ h => h) (Or.inl ⟨by rfl, ?vy8⟩) Q0 ?vr8
      case vy8 => (intro w; go_simp; try with_reducible rfl)
      simp only [List.setIfInBounds_toArray, List.set_cons_zero, List.set_cons_succ]
      refine wpAnyH_take' (i := 9) (d := 34) (v := ?v9) rfl rfl (by kernel_rfl) (by kernel_rfl) (by kernel_rfl) (fun _ _ _ h => h) (Or.inl ⟨by rfl, ?vy9⟩) Q0 ?vr9
      case vy9 => (intro w hSw; go_split_ands; go_simp; try with_reducible rfl)
      simp only [List.setIfInBounds_toArray, List.set_cons_zero, List.set_cons_succ]
      refine anyH_take (i := 10) (d := 35) (v := ?v10) rfl rfl (by kernel_rfl) (by kernel_rfl) (by kernel_rfl) (fun _ _ _ h => h) (Or.inl ⟨by rfl, ?vy10⟩) Q0 ?vr10
      case vy10 => (intro w; go_simp; try with_reducible rfl)
      simp only [List.setIfInBounds_toArray, List.set_cons_zero, List.set_cons_succ]
      refine anyH_take (i := 11) (d := 36) (v := ?v11) rfl rfl (by kernel_rfl) (by kernel_rfl) (by kernel_rfl) (fun _ _ _ h => h) (Or.inl ⟨by rfl, ?vy11⟩) Q0 ?vr11
      case vy11 => (intro w; go_simp; try with_reducible rfl)
      simp only [List.setIfInBounds_toArray, List.set_cons_zero, List.set_cons_succ]
      refine anyH_take (i := 12) (d := 37) (v := ?v12) rfl rfl (by kernel_rfl) (by kernel_rfl) (by kernel_rfl) (fun _ _ _ h => h) (Or.inl ⟨by rfl, ?vy12⟩) Q0 ?vr12
      case vy12 => (intro w; go_simp; try with_reducible rfl)
      simp only [List.setIfInBounds_toArray, List.set_cons_zero, List.set_cons_succ]
      refine anyH_one (i := 13) (by kernel_rfl) ?_
      refine wpOp_step rfl (fun K hK => ?_)
      go_simp
      refine Hset.out.mono ?_
      rintro e wb ⟨rfl, hS2⟩
      have HS2 := Lib.hid hS2
      clear hS2 Hset
      refine hK _ _ ⟨(Hcc.out _ HS2.out.out), ?_⟩
      clear hK K
      refine anyH_take (i := 14) (d := 39) (v := ?v14) rfl rfl (by kernel_rfl) (by kernel_rfl) (by kernel_rfl) (fun _ _ _ h => h) (Or.inl ⟨by rfl, ?vy14⟩) (Hcc.out _ HS2.out.out) ?vr14
      case vy14 => (intro w; go_simp; try with_reducible rfl)
      simp only [List.setIfInBounds_toArray, List.set_cons_zero, List.set_cons_succ]
      refine wpAnyH_done (by kernel_rfl) ?_ _
      go_wp2
      go_roundw
      case rel =>
        obtain ⟨hC, hgx, hcl, hlen⟩ := HC.out
        refine ⟨i + 1, _, _, by omega, by go_num, HS2.out.more (by omega), fun j hj => ?_⟩
        by_cases e : i = j
        · subst e
          rw [List.getElem?_set_self (by omega), hgx]
        · rw [List.getElem?_set_ne e]
          exact hC j (by omega)
      case measure => simp [intOf]; omega
    · obtain rfl : i = m := by omega
      have e1 : cur = cut40 ls := cur_done _ _ (by rw [hS.len, hlen]) (fun j hj => hC j (by omega))
      subst e1
      have i2 : ¬ ((i : Int) < (i : Int)) := by omega
      have HS := Lib.hid (hS.more (b' := b + 6500) (by omega))
      have Hl := Lib.hid hlen
      clear hlen hl hn hK hS hC
      go_wp2
      go_ret
      exact ⟨t, M, sk, rfl, by rw [Hl.out]; exact HS.out⟩
end Go.Proofs.Ytcamgldilknanaa

namespace Go.Proofs.Ytcamgldilknanaa
open Go.RowKit Go.Maps
set_option linter.unusedVariables false

/-- The call ends with c, and w' is behind a world of Q. -/
def FitsP (Q : World → Prop) (c : Int) (e : Ending) (w' : World) : Prop := e = .returned (.int .i64 c) ∧ ∃ w1, Q w1 ∧ Below w1.heap.size w1 w'

set_option maxRecDepth 100000 in
set_option maxHeartbeats 1600000 in
theorem fits_go (v : Value) (A : Option Addr) (m cp : Nat) (d dd : Dg) (hd : d.length = 32) (hdd : dd.length = 32) (Q : World → Prop) (w : World) (hQ : ∀ w1, Q w1 → Blk w1 w.heap.size 31 (cbs d))
    (hin : Calls Try.prog 31 #[v, .slice A m cp] (w.alloc (.cells (cbs d).toArray 31)) fun e w1 => e = .returned (.tuple #[.agg (cbs dd).toArray, .int .i64 0]) ∧ Q w1) :
    Calls Try.prog 22 #[v, .agg (cbs d).toArray, .slice A m cp] w (FitsP Q (if dd = d then 0 else 100)) := by
  obtain ⟨R, hR⟩ : ∃ R, cbs d = R := ⟨_, rfl⟩
  have hR32 : R.length = 32 := by rw [← hR, cbs_length, hd]
  obtain ⟨D, hD⟩ : ∃ D, cbs dd = D := ⟨_, rfl⟩
  have hD32 : D.length = 32 := by rw [← hD, cbs_length, hdd]
  have hD1 : D.toArray.all (·.oneCell') = true := by rw [← hD]; exact cbs_one' _
  obtain ⟨E, hE⟩ : ∃ E : Int, (if dd = d then (0 : Int) else 100) = E := ⟨_, rfl⟩
  have hsm := fun w => psame_any dd d hdd hd w
  rw [hE, hR, hD] at hsm
  rw [hD, hR] at hin
  rw [hR] at hQ ⊢
  rw [hE]
  have Hin := Lib.hid hin
  have Hsm := Lib.hid hsm
  have HD := Lib.hid (And.intro hD32 (And.intro hD1 (And.intro hR32 hQ)))
  clear hin hsm hD32 hD1 hR32 hR hD hE hQ hd hdd
  go_enter Try.func22, Try.ntmps22
  go_wp2_with fail
  refine Hin.out.mono ?_
  rintro e w1 ⟨rfl, hq1⟩
  obtain ⟨wS, hwS, ⟨hth, hiS⟩, hbS, hbel, hszS⟩ := dig_local w1 D HD.out.1
  have hr := HD.out.2.2.2 w1 hq1
  have hDi : (Try.prog.info? 31).map (·.size) = some D.length := by rw [HD.out.1]; exact info32b
  have hRi : (Try.prog.info? 31).map (·.size) = some R.length := by rw [HD.out.2.2.1]; exact info32b
  have hrS := (hr.below hbel hr.lt).range
  have Hs := Lib.hid (And.intro hth (And.intro hiS (And.intro HD.out.2.1 (And.intro hbS.range (And.intro hrS (And.intro hDi hRi))))))
  have HwS := Lib.hid hwS
  have H1 := Lib.hid (And.intro hq1 hbel)
  clear hwS hth hiS hbS hbel hszS hr hrS hDi hRi hq1 Hin
  go_wp2_with (first
    | (refine wpList_store_mid rfl 31 _ _ rfl w1.heap.size 0 D.toArray rfl rfl Hs.out.1 Hs.out.2.1 Hs.out.2.2.1 ?_; simp only [Act.put]; refine cast (congrArg (fun z => wpList _ _ _ _ _ z) HwS.out.symm) ?_)
    | (refine load_mid_g (by rfl) 31 _ rfl w1.heap.size 0 rfl D _ Hs.out.2.2.2.1 Try.underlying31 rfl Hs.out.2.2.2.2.2.1 ?_; simp only [Act.put])
    | (refine load_mid_g (by rfl) 31 _ rfl w.heap.size 0 rfl R _ Hs.out.2.2.2.2.1 Try.underlying31 rfl Hs.out.2.2.2.2.2.2 ?_; simp only [Act.put]))
  refine (Hsm.out _).mono ?_
  rintro e w5 ⟨rfl, hb5⟩
  have H5 := Lib.hid (H1.out.2.trans (hb5.mono H1.out.2.size))
  clear hb5
  go_wp2
  go_ret
  exact ⟨rfl, w1, H1.out.1, H5.out⟩

set_option maxRecDepth 100000 in
set_option maxHeartbeats 1600000 in
theorem fits_no (v : Value) (A : Option Addr) (m cp : Nat) (d : Dg) (c : Int) (hc : c ≠ 0) (Q : World → Prop) (w : World)
    (hin : Calls Try.prog 31 #[v, .slice A m cp] (w.alloc (.cells (cbs d).toArray 31)) fun e w1 => e = .returned (.tuple #[.agg (cbs (List.replicate 32 0)).toArray, .int .i64 c]) ∧ Q w1) :
    Calls Try.prog 22 #[v, .agg (cbs d).toArray, .slice A m cp] w (FitsP Q c) := by
  obtain ⟨R, hR⟩ : ∃ R, cbs d = R := ⟨_, rfl⟩
  obtain ⟨D, hD⟩ : ∃ D, cbs (List.replicate 32 0) = D := ⟨_, rfl⟩
  have hD32 : D.length = 32 := by rw [← hD, cbs_length]; rfl
  have hD1 : D.toArray.all (·.oneCell') = true := by rw [← hD]; exact cbs_one' _
  rw [hD, hR] at hin
  rw [hR]
  have Hin := Lib.hid hin
  have HD := Lib.hid (And.intro hD32 hD1)
  have hc2 : (c != 0) = true := by simp [hc]
  clear hin hD32 hD1 hR hD hc
  go_enter Try.func22, Try.ntmps22
  go_wp2_with fail
  refine Hin.out.mono ?_
  rintro e w1 ⟨rfl, hq1⟩
  obtain ⟨wS, hwS, ⟨hth, hiS⟩, hbS, hbel, hszS⟩ := dig_local w1 D HD.out.1
  have Hs := Lib.hid (And.intro hth (And.intro hiS HD.out.2))
  have HwS := Lib.hid hwS
  have H1 := Lib.hid (And.intro hq1 hbel)
  clear hwS hth hiS hbS hbel hszS hq1 Hin
  go_wp2_with (refine wpList_store_mid rfl 31 _ _ rfl w1.heap.size 0 D.toArray rfl rfl Hs.out.1 Hs.out.2.1 Hs.out.2.2 ?_; simp only [Act.put]; refine cast (congrArg (fun z => wpList _ _ _ _ _ z) HwS.out.symm) ?_)
  go_ret
  exact ⟨rfl, w1, H1.out.1, H1.out.2⟩

set_option maxRecDepth 100000 in
set_option maxHeartbeats 1600000 in
theorem leaffits_go (v : Value) (A : Option Addr) (m cp : Nat) (d dd : Dg) (hd : d.length = 32) (hdd : dd.length = 32) (Q : World → Prop) (w : World) (hQ : ∀ w1, Q w1 → Blk w1 w.heap.size 31 (cbs d))
    (hin : Calls Try.prog 29 #[v, .slice A m cp] (w.alloc (.cells (cbs d).toArray 31)) fun e w1 => e = .returned (.tuple #[.agg (cbs dd).toArray, .int .i64 0]) ∧ Q w1) :
    Calls Try.prog 20 #[v, .agg (cbs d).toArray, .slice A m cp] w (FitsP Q (if dd = d then 0 else 100)) := by
  obtain ⟨R, hR⟩ : ∃ R, cbs d = R := ⟨_, rfl⟩
  have hR32 : R.length = 32 := by rw [← hR, cbs_length, hd]
  obtain ⟨D, hD⟩ : ∃ D, cbs dd = D := ⟨_, rfl⟩
  have hD32 : D.length = 32 := by rw [← hD, cbs_length, hdd]
  have hD1 : D.toArray.all (·.oneCell') = true := by rw [← hD]; exact cbs_one' _
  obtain ⟨E, hE⟩ : ∃ E : Int, (if dd = d then (0 : Int) else 100) = E := ⟨_, rfl⟩
  have hsm := fun w => psame_any dd d hdd hd w
  rw [hE, hR, hD] at hsm
  rw [hD, hR] at hin
  rw [hR] at hQ ⊢
  rw [hE]
  have Hin := Lib.hid hin
  have Hsm := Lib.hid hsm
  have HD := Lib.hid (And.intro hD32 (And.intro hD1 (And.intro hR32 hQ)))
  clear hin hsm hD32 hD1 hR32 hR hD hE hQ hd hdd
  go_enter Try.func20, Try.ntmps20
  go_wp2_with fail
  refine Hin.out.mono ?_
  rintro e w1 ⟨rfl, hq1⟩
  obtain ⟨wS, hwS, ⟨hth, hiS⟩, hbS, hbel, hszS⟩ := dig_local w1 D HD.out.1
  have hr := HD.out.2.2.2 w1 hq1
  have hDi : (Try.prog.info? 31).map (·.size) = some D.length := by rw [HD.out.1]; exact info32b
  have hRi : (Try.prog.info? 31).map (·.size) = some R.length := by rw [HD.out.2.2.1]; exact info32b
  have hrS := (hr.below hbel hr.lt).range
  have Hs := Lib.hid (And.intro hth (And.intro hiS (And.intro HD.out.2.1 (And.intro hbS.range (And.intro hrS (And.intro hDi hRi))))))
  have HwS := Lib.hid hwS
  have H1 := Lib.hid (And.intro hq1 hbel)
  clear hwS hth hiS hbS hbel hszS hr hrS hDi hRi hq1 Hin
  go_wp2_with (first
    | (refine wpList_store_mid rfl 31 _ _ rfl w1.heap.size 0 D.toArray rfl rfl Hs.out.1 Hs.out.2.1 Hs.out.2.2.1 ?_; simp only [Act.put]; refine cast (congrArg (fun z => wpList _ _ _ _ _ z) HwS.out.symm) ?_)
    | (refine load_mid_g (by rfl) 31 _ rfl w1.heap.size 0 rfl D _ Hs.out.2.2.2.1 Try.underlying31 rfl Hs.out.2.2.2.2.2.1 ?_; simp only [Act.put])
    | (refine load_mid_g (by rfl) 31 _ rfl w.heap.size 0 rfl R _ Hs.out.2.2.2.2.1 Try.underlying31 rfl Hs.out.2.2.2.2.2.2 ?_; simp only [Act.put]))
  refine (Hsm.out _).mono ?_
  rintro e w5 ⟨rfl, hb5⟩
  have H5 := Lib.hid (H1.out.2.trans (hb5.mono H1.out.2.size))
  clear hb5
  go_wp2
  go_ret
  exact ⟨rfl, w1, H1.out.1, H5.out⟩

set_option maxRecDepth 100000 in
set_option maxHeartbeats 1600000 in
theorem leaffits_no (v : Value) (A : Option Addr) (m cp : Nat) (d : Dg) (c : Int) (hc : c ≠ 0) (Q : World → Prop) (w : World)
    (hin : Calls Try.prog 29 #[v, .slice A m cp] (w.alloc (.cells (cbs d).toArray 31)) fun e w1 => e = .returned (.tuple #[.agg (cbs (List.replicate 32 0)).toArray, .int .i64 c]) ∧ Q w1) :
    Calls Try.prog 20 #[v, .agg (cbs d).toArray, .slice A m cp] w (FitsP Q c) := by
  obtain ⟨R, hR⟩ : ∃ R, cbs d = R := ⟨_, rfl⟩
  obtain ⟨D, hD⟩ : ∃ D, cbs (List.replicate 32 0) = D := ⟨_, rfl⟩
  have hD32 : D.length = 32 := by rw [← hD, cbs_length]; rfl
  have hD1 : D.toArray.all (·.oneCell') = true := by rw [← hD]; exact cbs_one' _
  rw [hD, hR] at hin
  rw [hR]
  have Hin := Lib.hid hin
  have HD := Lib.hid (And.intro hD32 hD1)
  have hc2 : (c != 0) = true := by simp [hc]
  clear hin hD32 hD1 hR hD hc
  go_enter Try.func20, Try.ntmps20
  go_wp2_with fail
  refine Hin.out.mono ?_
  rintro e w1 ⟨rfl, hq1⟩
  obtain ⟨wS, hwS, ⟨hth, hiS⟩, hbS, hbel, hszS⟩ := dig_local w1 D HD.out.1
  have Hs := Lib.hid (And.intro hth (And.intro hiS HD.out.2))
  have HwS := Lib.hid hwS
  have H1 := Lib.hid (And.intro hq1 hbel)
  clear hwS hth hiS hbS hbel hszS hq1 Hin
  go_wp2_with (refine wpList_store_mid rfl 31 _ _ rfl w1.heap.size 0 D.toArray rfl rfl Hs.out.1 Hs.out.2.1 Hs.out.2.2 ?_; simp only [Act.put]; refine cast (congrArg (fun z => wpList _ _ _ _ _ z) HwS.out.symm) ?_)
  go_ret
  exact ⟨rfl, w1, H1.out.1, H1.out.2⟩

/-- Behind a world whose book has gone on. -/
theorem fits_kb (B g bm : Nat) (s : Bk) (N : Nat → Prop) (A : Option Addr) (m cp : Nat) (d : Dg) (hd : d.length = 32) (ds : List Dg) (w : World) (h : Kb B w g bm s N) (hB0 : B ≤ w.heap.size) (hL : s.1.length < 1000000) (hk : s.2.2 < 1000000)
    (hD : Ds w A ds) (h32 : All32 ds) (hm : ds.length = m) (h1 : 1 ≤ m) (h4 : m ≤ 4) :
    Calls Try.prog 22 #[.pointer (some ⟨g, 0, none⟩), .agg (cbs d).toArray, .slice A m cp] w fun e w' => e = .returned (.int .i64 (if digest (upIn ds) = d then 0 else 100)) ∧ Kb B w' g bm (stepL s (upIn ds)) N ∧ Out (Tn B bm w N) w w' := by
  have hbA : Below w.heap.size w (w.alloc (.cells (cbs d).toArray 31)) := (Below.refl _ _).alloc (Nat.le_refl _) _
  have hrA : Blk (w.alloc (.cells (cbs d).toArray 31)) w.heap.size 31 (cbs d) := Blk.new rfl rfl
  have hkA : Kb B (w.alloc (.cells (cbs d).toArray 31)) g bm s (fun j => N j ∨ j = w.heap.size) := h.belowN hbA fun j hj => by
    rcases hj with hj | rfl
    · exact .inl hj
    · exact .inr ⟨Nat.le_refl _, by simp⟩
  refine (fits_go _ A m cp d (digest (upIn ds)) hd (dlen _) (fun w1 => Kb B w1 g bm (stepL s (upIn ds)) (fun j => N j ∨ j = w.heap.size) ∧ Out (Tn B bm w N) w w1 ∧ Blk w1 w.heap.size 31 (cbs d)) w (fun w1 h => h.2.2)
    ((up_kb B g bm s _ A m cp ds _ hkA (Nat.le_trans hB0 hbA.size) hL hk (hD.after hbA) h32 hm h1 h4).mono ?_)).mono ?_
  · rintro e w1 ⟨rfl, hK, hO⟩
    exact ⟨rfl, hK, (Out.ofBelow _ hbA).tn hO fun i _ hn => .inl hn, hO.blk hrA (Tn.keep (.inr rfl))⟩
  · rintro e w' ⟨rfl, w1, ⟨hK, hO, _⟩, hb⟩
    exact ⟨rfl, (hK.below hb).less fun j hj => .inl hj, hO.then_below hb⟩
theorem leaffits_kb (B g bm : Nat) (s : Bk) (N : Nat → Prop) (A : Option Addr) (n cp : Nat) (d : Dg) (hd : d.length = 32) (x : List UInt8) (w : World) (h : Kb B w g bm s N) (hB0 : B ≤ w.heap.size) (hL : s.1.length < 1000000) (hk : s.2.2 < 1000000)
    (hB : Bs w A x) (hn : x.length = n) (hc : n ≤ cp) (hcm : cp ≤ maxLen) (hs : n ≤ 65535) :
    Calls Try.prog 20 #[.pointer (some ⟨g, 0, none⟩), .agg (cbs d).toArray, .slice A n cp] w fun e w' => e = .returned (.int .i64 (if digest (leafIn x) = d then 0 else 100)) ∧ Kb B w' g bm (stepL s (leafIn x)) N ∧ Out (Tn B bm w N) w w' := by
  have hbA : Below w.heap.size w (w.alloc (.cells (cbs d).toArray 31)) := (Below.refl _ _).alloc (Nat.le_refl _) _
  have hrA : Blk (w.alloc (.cells (cbs d).toArray 31)) w.heap.size 31 (cbs d) := Blk.new rfl rfl
  have hkA : Kb B (w.alloc (.cells (cbs d).toArray 31)) g bm s (fun j => N j ∨ j = w.heap.size) := h.belowN hbA fun j hj => by
    rcases hj with hj | rfl
    · exact .inl hj
    · exact .inr ⟨Nat.le_refl _, by simp⟩
  refine (leaffits_go _ A n cp d (digest (leafIn x)) hd (dlen _) (fun w1 => Kb B w1 g bm (stepL s (leafIn x)) (fun j => N j ∨ j = w.heap.size) ∧ Out (Tn B bm w N) w w1 ∧ Blk w1 w.heap.size 31 (cbs d)) w (fun w1 h => h.2.2)
    ((leaf_kb B g bm s _ A n cp x _ hkA (Nat.le_trans hB0 hbA.size) hL hk (hB.after hbA) hn hc hcm hs).mono ?_)).mono ?_
  · rintro e w1 ⟨rfl, hK, hO⟩
    exact ⟨rfl, hK, (Out.ofBelow _ hbA).tn hO fun i _ hn => .inl hn, hO.blk hrA (Tn.keep (.inr rfl))⟩
  · rintro e w' ⟨rfl, w1, ⟨hK, hO, _⟩, hb⟩
    exact ⟨rfl, (hK.below hb).less fun j hj => .inl hj, hO.then_below hb⟩
theorem fits_off (v : Value) (A : Option Addr) (m cp : Nat) (d : Dg) (w : World) (h : m < 1 ∨ 4 < m) : Calls Try.prog 22 #[v, .agg (cbs d).toArray, .slice A m cp] w fun e w' => e = .returned (.int .i64 2) ∧ Below w.heap.size w w' := by
  have hbA : Below w.heap.size w (w.alloc (.cells (cbs d).toArray 31)) := (Below.refl _ _).alloc (Nat.le_refl _) _
  refine (fits_no v A m cp d 2 (by decide) (fun w1 => Below w.heap.size w w1) w ((up_off v A m cp _ h).mono ?_)).mono ?_
  · rintro e w1 ⟨rfl, hb⟩
    exact ⟨rfl, hbA.trans (hb.mono hbA.size)⟩
  · rintro e w' ⟨rfl, w1, hb1, hb⟩
    exact ⟨rfl, hb1.trans (hb.mono hb1.size)⟩
theorem leaffits_long (v : Value) (A : Option Addr) (n cp : Nat) (d : Dg) (w : World) (h : 65535 < n) : Calls Try.prog 20 #[v, .agg (cbs d).toArray, .slice A n cp] w fun e w' => e = .returned (.int .i64 5) ∧ Below w.heap.size w w' := by
  have hbA : Below w.heap.size w (w.alloc (.cells (cbs d).toArray 31)) := (Below.refl _ _).alloc (Nat.le_refl _) _
  refine (leaffits_no v A n cp d 5 (by decide) (fun w1 => Below w.heap.size w w1) w ((leaf_long v A n cp _ h).mono ?_)).mono ?_
  · rintro e w1 ⟨rfl, hb⟩
    exact ⟨rfl, hbA.trans (hb.mono hbA.size)⟩
  · rintro e w' ⟨rfl, w1, hb1, hb⟩
    exact ⟨rfl, hb1.trans (hb.mono hb1.size)⟩
end Go.Proofs.Ytcamgldilknanaa
