/-
  For all bytes b (300 at most are looked at): a hash that takes them byte by byte has the same digest, and ShaOnes returns true; no condition.
-/
import Derived.Test.YtdhpkaffijbedaaOpen
import Derived.Test.YtdhpkaffijbedaaCutN
import Derived.Test.YtdhpkaffijbedaaHex
import Derived.Deep.RegionHeld3
import Derived.Deep.RegionWith
import Derived.Deep.DeepCutAuto
namespace Go.Proofs.Ytdhpkaffijbedaa.shaOnes
open Go.ChangeShapes Go.WideShapes Go.ChangeAt Go.RowKit
set_option linter.unusedVariables false

set_option maxRecDepth 100000 in
set_option maxHeartbeats 3200000 in
theorem walk (Ab : Option Addr) (nb cb : Nat) (b : List UInt8) (w : World) (hb : ArgB w Ab nb cb b) :
    Calls Try.prog 7 #[.slice Ab nb cb] w fun e w' => e = .returned (.bool true) ∧ Below w.heap.size w w' := by
  obtain ⟨m, x, hx, hm, hmc, hcm, hB, hmin, hcut⟩ := cutUp 300 300 rfl hb
  clear hb
  obtain ⟨D, hD32, hDv', hD1⟩ : ∃ D : List Value, D.length = 32 ∧ cbs (digest x) = D ∧ D.toArray.all (·.oneCell') = true := ⟨cbs (digest x), by rw [cbs_length, dlen], rfl, cbs_one' _⟩
  have heq := eq_same D x hDv'.symm
  have hDv := Lib.hid hDv'
  have HD := Lib.hid (And.intro hD32 hD1)
  clear hD32 hD1 hDv'
  have Hnc := Lib.hid (show x.length = m ∧ m ≤ cb ∧ cb ≤ maxLen ∧ m ≤ 281474976710656 from ⟨hx, hmc, hcm, by omega⟩)
  have Hl := Lib.hid (show x.length ≤ 281474976710656 by omega)
  have Hm := Lib.hid hm
  clear hx hmc hcm hm
  go_enter Try.func7, Try.ntmps7
  go_wp2_with fail
  refine (works_any _).mono ?_
  rintro e w0 ⟨rfl, b0⟩
  go_wp2_with fail
  refine (new_any _).mono ?_
  rintro e w1 ⟨g, rfl, hgg, hH1, b1⟩
  have hgw : w.heap.size ≤ g := Nat.le_trans b0.size hgg
  have t1 := b0.trans (b1.mono b0.size)
  go_wp2_with fail
  go_loopw [4] (fun i wr => ∃ k : Nat, k ≤ m ∧ i = .int .i64 k ∧ Hold wr g (x.take k) ∧ Below w.heap.size w wr) (fun i _ => m - (intOf i).toNat)
  case atStart => exact ⟨0, Nat.zero_le _, rfl, hH1, t1⟩
  case round =>
    clear hH1 t1 b1 b0
    obtain ⟨k, hk, rfl, hH, hbw⟩ := hrel
    by_cases hlt : k < m
    · have i0 : (0 : Int) ≤ (k : Int) := by omega
      have i1 : (k : Int) < (m : Int) := by omega
      have i2 : (m : Int) ≤ 300 := by have := Hm.out; omega
      have hone := run_oneB Ab m cb k hlt Hnc.out.2.1 Hnc.out.2.2.1
      have hBk : Bs wr (cutAt Ab 1 k cb) ((x.drop k).take 1) := Bs.front ((hB.on hbw).cut (by rw [Hnc.out.1]; omega) (by rw [Hnc.out.1]; exact Hnc.out.2.1)) (by rw [List.length_drop, Hnc.out.1]; omega)
      have hwr := write_any g (x.take k) ((x.drop k).take 1) (cutAt Ab 1 k cb) 1 (cb - k) wr (by rw [List.length_take, List.length_drop, Hnc.out.1]; omega) (by have := Hnc.out.2.1; omega) (by have := Hnc.out.2.2.1; omega)
        (by rw [List.length_take, Hnc.out.1]; have := Hm.out; omega) hH hBk ((hB.away hgw).cut.front_)
      rw [take_step] at hwr
      have Hwr := Lib.hid hwr
      have Hk := Lib.hid hlt
      clear hwr hBk hlt hk
      go_wp2_with (go_at_call 21; refine Hwr.out.mono ?_; rintro e w2 ⟨rfl, hH2, bu2⟩)
      go_roundw
      case rel => exact ⟨k + 1, by have := Hk.out; omega, by go_num, hH2, hbw.trans (bu2.above hgw hbw.size)⟩
      case measure => simp [intOf]; have := Hk.out; omega
    · have e : k = m := by omega
      subst e
      rw [List.take_of_length_le (by rw [Hnc.out.1]; exact Nat.le_refl _)] at hH
      have i2 : ¬ (k : Int) < (k : Int) := by omega
      have Hcur := Lib.hid (And.intro hH (And.intro hgw hbw))
      clear hH hbw hk hlt
      go_upto_region 10 with fail
      go_cut [5, 6] (fun p q wx => ∃ gd : Nat, p = .pointer (some ⟨gd, 0, none⟩) ∧ q = .bool true ∧ Blk wx gd 25 D ∧ Hold wx g x ∧ Below w.heap.size w wx)
      case first =>
        go_wp2_with fail
        have hsm := summed_any g x _ Hl.out Hcur.out.1
        rw [hDv.out] at hsm
        refine hsm.mono ?_
        clear hsm
        rintro e ws ⟨rfl, hHs, hbs⟩
        have hZ : Blk (ws.alloc (.cells (cbs (List.replicate 32 0)).toArray 25)) ws.heap.size 25 (cbs (List.replicate 32 0)) := Blk.new rfl rfl
        have hsz : D.toArray.size = 32 := by rw [List.size_toArray]; exact HD.out.1
        have hth : (ws.alloc (.cells (cbs (List.replicate 32 0)).toArray 25)).there ws.heap.size 0 D.toArray.size := by
          have e := hZ.there
          rw [cbs_length, List.length_replicate] at e
          rw [hsz]; exact e
        have hi : (Try.prog.info? 25).map (·.size) = some D.toArray.size := by rw [hsz]; exact info32b
        have hR := hZ.setAll (vs := D) (by rw [HD.out.1, cbs_length, List.length_replicate])
        have hg := Hcur.out.2.1
        have hws := hbs.size
        have hwc := Hcur.out.2.2.size
        have hH' : Hold ((ws.alloc (.cells (cbs (List.replicate 32 0)).toArray 25)).setCells ws.heap.size 0 D) g x := by
          obtain ⟨rest, h1, h2⟩ := hHs
          exact ⟨rest, (h1.alloc _).farAll (by have := h1.lt; omega) 0 D, h2⟩
        have hnx : Below w.heap.size w ((ws.alloc (.cells (cbs (List.replicate 32 0)).toArray 25)).setCells ws.heap.size 0 D) :=
          Below.setCells (by omega) _ ((Hcur.out.2.2.trans (hbs.above (by omega) (by omega))).alloc (by omega) _)
        have Hth := Lib.hid hth
        have Hi := Lib.hid hi
        have Hq := Lib.hid (And.intro hR (And.intro hH' hnx))
        clear hZ hsz hth hi hR hH' hnx hHs hbs hws hwc
        go_wp2_with (refine wpList_store_mid rfl 25 _ _ rfl ws.heap.size 0 D.toArray rfl rfl Hth.out Hi.out HD.out.2 ?_; simp only [Act.put])
        go_meet
        exact ⟨ws.heap.size, rfl, rfl, Hq.out.1, Hq.out.2.1, Hq.out.2.2⟩
      case rest =>
        obtain ⟨gd, rfl, rfl, hdB, hHd, hbd⟩ := hcut
        have r0 : wc.drew.rangeAt gd 0 D := hdB.range
        have H0 : Hold wc.drew g x := hHd
        have B0 : Bs wc.drew Ab x := hB.on hbd.drew
        have hud := Try.underlying25
        have hid : (Try.prog.info? 25).map (·.size) = some D.length := by rw [HD.out.1]; exact info32b
        clear hdB hHd
        go_wp2_with fail
        go_region_held3 (fun W' => W'.rangeAt gd 0 D ∧ Hold W' g x ∧ Bs W' Ab x) (first | with_reducible exact ⟨r0, H0, B0⟩ | with_reducible exact ⟨r9, H9, B9⟩)
          (first
          | (go_at_call 14; refine (of_any Ab k cb x _ ?_ Hnc.out.1 Hnc.out.2.1 Hnc.out.2.2.1 Hnc.out.2.2.2).mono ?_; exact B0; rw [hDv.out]; rintro e w9 ⟨rfl, hb9⟩; have r9 := range_below hb9 r0; have H9 := H0.below hb9; have B9 := B0.after hb9))
        go_wp2
        go_ret
        exact ⟨rfl, (hbd.drew).trans (hb9.mono (by first | exact hbd.size | omega))⟩

end Go.Proofs.Ytdhpkaffijbedaa.shaOnes
