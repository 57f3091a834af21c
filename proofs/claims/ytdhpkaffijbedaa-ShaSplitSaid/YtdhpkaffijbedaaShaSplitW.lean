/-
  For all bytes b (4000 at most are looked at) and every place: a hash that takes them in two pieces has the digest of all of them, and ShaSplit returns true; no condition.
-/
import Derived.Test.YtdhpkaffijbedaaOpen
import Derived.Test.YtdhpkaffijbedaaCutN
import Derived.Test.YtdhpkaffijbedaaHex
import Derived.Test.YtdhpkaffijbedaaBring
import Derived.Deep.RegionHeld3
import Derived.Deep.RegionWith
import Derived.Deep.DeepCutAuto
namespace Go.Proofs.Ytdhpkaffijbedaa.shaSplit
open Go.ChangeShapes Go.WideShapes Go.ChangeAt Go.RowKit
set_option linter.unusedVariables false

set_option maxRecDepth 100000 in
set_option maxHeartbeats 3200000 in
theorem walk (Ab : Option Addr) (nb cb : Nat) (b : List UInt8) (i : Int) (w : World) (hb : ArgB w Ab nb cb b) (hi : (Lit.int .i64 i).wf = true) :
    Calls Try.prog 6 #[.slice Ab nb cb, .int .i64 i] w fun e w' => e = .returned (.bool true) ∧ Below w.heap.size w w' := by
  obtain ⟨m, x, hx, hm, hmc, hcm, hB, hmin, hfront⟩ := cutUp 4000 4000 rfl hb
  clear hb
  have hib := bounds_i64 hi
  obtain ⟨D, hD32, hDv', hD1⟩ : ∃ D : List Value, D.length = 32 ∧ cbs (digest x) = D ∧ D.toArray.all (·.oneCell') = true := ⟨cbs (digest x), by rw [cbs_length, dlen], rfl, cbs_one' _⟩
  have heq := eq_same D x hDv'.symm
  have hDv := Lib.hid hDv'
  have HD := Lib.hid (And.intro hD32 hD1)
  clear hD32 hD1 hDv'
  have Hnc := Lib.hid (show x.length = m ∧ m ≤ cb ∧ cb ≤ maxLen ∧ m ≤ 281474976710656 from ⟨hx, hmc, hcm, by omega⟩)
  have Hl := Lib.hid (show x.length ≤ 281474976710656 by omega)
  have e1 : ((x.length : Int) == (m : Int)) = true := by rw [hx]; simp
  have m4 : (m : Int) ≤ 4000 := by omega
  have m0 : (0 : Int) ≤ (m : Int) := by omega
  have Hm := Lib.hid hm
  have Hi := Lib.hid hib
  clear hx hmc hcm hm hi hib
  go_enter Try.func6, Try.ntmps6
  go_wp2_with fail
  refine (works_any _).mono ?_
  rintro e w0 ⟨rfl, b0⟩
  go_wp2_with fail
  refine (bring_any i _ _ (by omega) (by omega) (by have := Hi.out; omega) (by have := Hi.out; omega)).mono ?_
  rintro e w0' ⟨r, hr, rfl, rfl⟩
  have hrm : r ≤ m := by omega
  have r0 : (0 : Int) ≤ (r : Int) := by omega
  have r1 : (r : Int) ≤ (m : Int) := by omega
  have Hr := Lib.hid hrm
  clear hr
  go_wp2_with fail
  refine (new_any _).mono ?_
  rintro e w1 ⟨g, rfl, hgg, hH1, b1⟩
  have hgw : w.heap.size ≤ g := Nat.le_trans b0.size hgg
  have t1 := b0.trans (b1.mono b0.size)
  have hfr := run_frontB Ab m cb r (Nat.le_trans hrm Hnc.out.2.1)
  have hto := run_cutB Ab m cb r hrm Hnc.out.2.1
  have hBd : Bs w1.drew Ab x := hB.on t1.drew
  have hHd : Hold w1.drew g [] := hH1
  have hw1 := write_any g [] (x.take r) Ab r cb w1.drew (by rw [List.length_take, Hnc.out.1]; omega) (Nat.le_trans hrm Hnc.out.2.1) Hnc.out.2.2.1 (by have := Hnc.out.2.2.2; simp; omega) hHd (hBd.front (by rw [Hnc.out.1]; exact hrm)) ((hB.away hgw).front_)
  rw [List.nil_append] at hw1
  have Hw1 := Lib.hid hw1
  clear hw1 hH1 hHd hBd hrm
  go_upto_region 6 with fail
  go_cut [6, 7] (fun p q wx => p = .int .i64 0 ∧ q = .int .i64 0 ∧ Hold wx g x ∧ Below w.heap.size w wx)
  case first =>
    go_region_with (first
      | (go_at_call 21; with_reducible refine Hw1.out.mono ?_; rintro e w2 ⟨rfl, hH2, bu2⟩)
      | (go_at_call 21; refine (write_any g (x.take r) (x.drop r) (cutAt Ab 1 r cb) (m - r) (cb - r) _ (by rw [List.length_drop, Hnc.out.1]) (by have := Hnc.out.2.1; omega) (by have := Hnc.out.2.2.1; omega)
          (by have := Hnc.out.2.2.2; have := Hr.out; rw [List.length_take, Hnc.out.1]; omega) hH2 (((hB.on t1.drew).touched bu2 (hB.away hgw)).cut (by rw [Hnc.out.1]; exact Hr.out) (by rw [Hnc.out.1]; exact Hnc.out.2.1)) ((hB.away hgw).cut)).mono ?_; rintro e w3 ⟨rfl, hH3, bu3⟩))
    all_goals
      go_wp2_with fail
      go_meet
      rw [List.take_append_drop] at hH3
      have t2 := t1.drew.trans (bu2.above hgw t1.size)
      exact ⟨rfl, rfl, hH3, t2.trans (bu3.above hgw t2.size)⟩
  case rest =>
    obtain ⟨rfl, rfl, hHx, hbx⟩ := hcut
    have Hcur := Lib.hid (And.intro hHx (And.intro hgw hbx))
    clear hHx hbx b0 b1 t1 Hw1
    go_upto_region 7 with fail
    go_cut [8, 9] (fun p q wx => ∃ gd : Nat, p = .pointer (some ⟨gd, 0, none⟩) ∧ q = .bool true ∧ Blk wx gd 25 D ∧ Hold wx g x ∧ Below w.heap.size w wx)
    case first =>
      go_wp2_with fail
      have hsm := summed_any g x _ Hl.out Hcur.out.1
      rw [hDv.out] at hsm
      refine hsm.mono ?_
      clear hsm
      rintro e ws ⟨rfl, hHs, hbs⟩
      have hZ : Blk (ws.alloc (.cells (cbs (List.replicate 32 0)).toArray 25)) ws.heap.size 25 (cbs (List.replicate 32 0)) := Blk.new rfl rfl
      have hsz : D.toArray.size = 32 := by rw [List.size_toArray]; exact HD.out.1
      have hth : (ws.alloc (.cells (cbs (List.replicate 32 0)).toArray 25)).there ws.heap.size 0 D.toArray.size := by
        have e := hZ.there
        rw [cbs_length, List.length_replicate] at e
        rw [hsz]; exact e
      have hi : (Try.prog.info? 25).map (·.size) = some D.toArray.size := by rw [hsz]; exact info32b
      have hR := hZ.setAll (vs := D) (by rw [HD.out.1, cbs_length, List.length_replicate])
      have hg := Hcur.out.2.1
      have hws := hbs.size
      have hwc := Hcur.out.2.2.size
      have hH' : Hold ((ws.alloc (.cells (cbs (List.replicate 32 0)).toArray 25)).setCells ws.heap.size 0 D) g x := by
        obtain ⟨rest, h1, h2⟩ := hHs
        exact ⟨rest, (h1.alloc _).farAll (by have := h1.lt; omega) 0 D, h2⟩
      have hnx : Below w.heap.size w ((ws.alloc (.cells (cbs (List.replicate 32 0)).toArray 25)).setCells ws.heap.size 0 D) :=
        Below.setCells (by omega) _ ((Hcur.out.2.2.trans (hbs.above (by omega) (by omega))).alloc (by omega) _)
      have Hth := Lib.hid hth
      have Hi := Lib.hid hi
      have Hq := Lib.hid (And.intro hR (And.intro hH' hnx))
      clear hZ hsz hth hi hR hH' hnx hHs hbs hws hwc
      go_wp2_with (refine wpList_store_mid rfl 25 _ _ rfl ws.heap.size 0 D.toArray rfl rfl Hth.out Hi.out HD.out.2 ?_; simp only [Act.put])
      go_meet
      exact ⟨ws.heap.size, rfl, rfl, Hq.out.1, Hq.out.2.1, Hq.out.2.2⟩
    case rest =>
      obtain ⟨gd, rfl, rfl, hdB, hHd, hbd⟩ := hcut
      have r0 : wc.drew.rangeAt gd 0 D := hdB.range
      have H0 : Hold wc.drew g x := hHd
      have B0 : Bs wc.drew Ab x := hB.on hbd.drew
      have hud := Try.underlying25
      have hid : (Try.prog.info? 25).map (·.size) = some D.length := by rw [HD.out.1]; exact info32b
      clear hdB hHd
      go_wp2_with fail
      go_region_held3 (fun W' => W'.rangeAt gd 0 D ∧ Hold W' g x ∧ Bs W' Ab x) (first | with_reducible exact ⟨r0, H0, B0⟩ | with_reducible exact ⟨r9, H9, B9⟩)
        (first
        | (go_at_call 14; refine (of_any Ab m cb x _ ?_ Hnc.out.1 Hnc.out.2.1 Hnc.out.2.2.1 Hnc.out.2.2.2).mono ?_; exact B0; rw [hDv.out]; rintro e w9 ⟨rfl, hb9⟩; have r9 := range_below hb9 r0; have H9 := H0.below hb9; have B9 := B0.after hb9)
        | (go_at_call 23; refine (len_any g x _ H9).mono ?_; rintro e wl ⟨rfl, rfl⟩))
      go_wp2
      go_ret
      exact ⟨rfl, (hbd.drew).trans (hb9.mono (by first | exact hbd.size | omega))⟩

end Go.Proofs.Ytdhpkaffijbedaa.shaSplit
