/-
  For all bytes a: no bytes ahead and behind change nothing of a hash's digest, and ShaNothing returns true; no condition.
-/
import Derived.Test.YtdhpkaffijbedaaOpen
import Derived.Test.YtdhpkaffijbedaaHex
import Derived.Deep.RegionHeld3
import Derived.Deep.RegionWith
import Derived.Deep.DeepCutAuto
namespace Go.Proofs.Ytdhpkaffijbedaa.shaNothing
open Go.ChangeShapes Go.WideShapes Go.ChangeAt Go.RowKit
set_option linter.unusedVariables false

set_option maxRecDepth 100000 in
set_option maxHeartbeats 3200000 in
theorem walk (Aa : Option Addr) (na ca : Nat) (a : List UInt8) (w : World) (ha : ArgB w Aa na ca a) :
    Calls Try.prog 9 #[.slice Aa na ca] w fun e w' => e = .returned (.bool true) ∧ Below w.heap.size w w' := by
  obtain ⟨D, hD32, hDv', hD1⟩ : ∃ D : List Value, D.length = 32 ∧ cbs (digest a) = D ∧ D.toArray.all (·.oneCell') = true := ⟨cbs (digest a), by rw [cbs_length, dlen], rfl, cbs_one' _⟩
  have heq := eq_same D a hDv'.symm
  have hDv := Lib.hid hDv'
  have HD := Lib.hid (And.intro hD32 hD1)
  clear hD32 hD1 hDv'
  obtain ⟨hn, hc, hcm, hB⟩ := ha
  have hl : a.length ≤ 281474976710656 := by omega
  have Hnc := Lib.hid (show a.length = na ∧ na ≤ ca ∧ ca ≤ maxLen ∧ na ≤ 281474976710656 from ⟨hn, hc, by unfold maxLen; omega, by omega⟩)
  have Hl := Lib.hid hl
  have e1 : ((a.length : Int) == (na : Int)) = true := by rw [hn]; simp
  clear hn hc hcm hl
  go_enter Try.func9, Try.ntmps9
  go_wp2_with fail
  refine (works_any _).mono ?_
  rintro e w0 ⟨rfl, b0⟩
  go_wp2_with fail
  refine (new_any _).mono ?_
  rintro e w1 ⟨g, rfl, hgg, hH1, b1⟩
  have hgw : w.heap.size ≤ g := Nat.le_trans b0.size hgg
  have t1 := b0.trans (b1.mono b0.size)
  go_wp2_with fail
  refine (write_any g [] [] none 0 0 w1 rfl (by decide) (by decide) (by decide) hH1 (Bs.nil _ _) (fun h => absurd rfl h)).mono ?_
  rintro e w2 ⟨rfl, hH2, bu2⟩
  have t2 := t1.trans (bu2.above hgw t1.size)
  clear hH1
  go_wp2_with fail
  refine (write_any g ([] ++ []) a Aa na ca w2 Hnc.out.1 Hnc.out.2.1 Hnc.out.2.2.1 (by simpa using Hnc.out.2.2.2) hH2 (hB.on t2) (hB.away hgw)).mono ?_
  rintro e w3 ⟨rfl, hH3, bu3⟩
  have t3 := t2.trans (bu3.above hgw t2.size)
  clear hH2
  go_wp2_with fail
  refine (write_any g ([] ++ [] ++ a) [] none 0 0 w3 rfl (by decide) (by decide) (by simpa using Hl.out) hH3 (Bs.nil _ _) (fun h => absurd rfl h)).mono ?_
  rintro e w4 ⟨rfl, hH4, bu4⟩
  have t4 := t3.trans (bu4.above hgw t3.size)
  rw [List.append_nil, List.nil_append, List.nil_append] at hH4
  have Hcur := Lib.hid (And.intro hH4 (And.intro hgw t4))
  clear hH3 hH4 t1 t2 t3 t4 b0 b1 bu2 bu3 bu4
  go_upto_region 5 with fail
  go_cut [7, 8] (fun p q wx => ∃ gd : Nat, p = .pointer (some ⟨gd, 0, none⟩) ∧ q = .bool true ∧ Blk wx gd 25 D ∧ Hold wx g a ∧ Below w.heap.size w wx)
  case first =>
    go_wp2_with fail
    have hsm := summed_any g a _ Hl.out Hcur.out.1
    rw [hDv.out] at hsm
    refine hsm.mono ?_
    clear hsm
    rintro e ws ⟨rfl, hHs, hbs⟩
    have hZ : Blk (ws.alloc (.cells (cbs (List.replicate 32 0)).toArray 25)) ws.heap.size 25 (cbs (List.replicate 32 0)) := Blk.new rfl rfl
    have hsz : D.toArray.size = 32 := by rw [List.size_toArray]; exact HD.out.1
    have hth : (ws.alloc (.cells (cbs (List.replicate 32 0)).toArray 25)).there ws.heap.size 0 D.toArray.size := by
      have e := hZ.there
      rw [cbs_length, List.length_replicate] at e
      rw [hsz]; exact e
    have hi : (Try.prog.info? 25).map (·.size) = some D.toArray.size := by rw [hsz]; exact info32b
    have hR := hZ.setAll (vs := D) (by rw [HD.out.1, cbs_length, List.length_replicate])
    have hg := Hcur.out.2.1
    have hws := hbs.size
    have hwc := Hcur.out.2.2.size
    have hH' : Hold ((ws.alloc (.cells (cbs (List.replicate 32 0)).toArray 25)).setCells ws.heap.size 0 D) g a := by
      obtain ⟨rest, h1, h2⟩ := hHs
      exact ⟨rest, (h1.alloc _).farAll (by have := h1.lt; omega) 0 D, h2⟩
    have hnx : Below w.heap.size w ((ws.alloc (.cells (cbs (List.replicate 32 0)).toArray 25)).setCells ws.heap.size 0 D) :=
      Below.setCells (by omega) _ ((Hcur.out.2.2.trans (hbs.above (by omega) (by omega))).alloc (by omega) _)
    have Hth := Lib.hid hth
    have Hi := Lib.hid hi
    have Hq := Lib.hid (And.intro hR (And.intro hH' hnx))
    clear hZ hsz hth hi hR hH' hnx hHs hbs hws hwc
    go_wp2_with (refine wpList_store_mid rfl 25 _ _ rfl ws.heap.size 0 D.toArray rfl rfl Hth.out Hi.out HD.out.2 ?_; simp only [Act.put])
    go_meet
    exact ⟨ws.heap.size, rfl, rfl, Hq.out.1, Hq.out.2.1, Hq.out.2.2⟩
  case rest =>
    obtain ⟨gd, rfl, rfl, hdB, hHd, hbd⟩ := hcut
    have r0 : wc.drew.rangeAt gd 0 D := hdB.range
    have H0 : Hold wc.drew g a := hHd
    have B0 : Bs wc.drew Aa a := hB.on hbd.drew
    have hud := Try.underlying25
    have hid : (Try.prog.info? 25).map (·.size) = some D.length := by rw [HD.out.1]; exact info32b
    clear hdB hHd
    go_wp2_with fail
    go_region_held3 (fun W' => W'.rangeAt gd 0 D ∧ Hold W' g a ∧ Bs W' Aa a) (first | with_reducible exact ⟨r0, H0, B0⟩ | with_reducible exact ⟨r9, H9, B9⟩)
      (first
      | (go_at_call 14; refine (of_any Aa na ca a _ ?_ Hnc.out.1 Hnc.out.2.1 Hnc.out.2.2.1 Hnc.out.2.2.2).mono ?_; exact B0; rw [hDv.out]; rintro e w9 ⟨rfl, hb9⟩; have r9 := range_below hb9 r0; have H9 := H0.below hb9; have B9 := B0.after hb9)
      | (go_at_call 23; refine (len_any g a _ H9).mono ?_; rintro e wl ⟨rfl, rfl⟩))
    go_wp2
    go_ret
    exact ⟨rfl, (hbd.drew).trans (hb9.mono (by first | exact hbd.size | omega))⟩

end Go.Proofs.Ytdhpkaffijbedaa.shaNothing
