/-
  The chapter's examples: ShaKnown, which has no arguments, returns true; no condition.
-/
import Derived.Test.YtdhpkaffijbedaaOpen
import Derived.Test.YtdhpkaffijbedaaKnown2
import Derived.Test.YtdhpkaffijbedaaApp
import Derived.Deep.RegionHeld3
import Derived.Deep.RegionWith
import Derived.Deep.DeepCutAuto
import Derived.Outline
namespace Go.Proofs.Ytdhpkaffijbedaa.shaKnown
open Go.ChangeShapes Go.WideShapes Go.ChangeAt Go.RowKit
set_option linter.unusedVariables false

set_option maxRecDepth 100000 in
set_option maxHeartbeats 3200000 in
theorem walk  (w : World)  :
    Calls Try.prog 12 #[] w fun e w' => e = .returned (.bool true) ∧ Below w.heap.size w w' := by
  obtain ⟨D, hD32, hDv', hD1'⟩ : ∃ D : List Value, D.length = 32 ∧ cbs (digest []) = D ∧ D.toArray.all (·.oneCell') = true := ⟨cbs (digest []), by rw [cbs_length, dlen], rfl, cbs_one' _⟩
  have hD0 := hDv'.symm
  have hDv := Lib.hid hDv'
  have HD := Lib.hid (And.intro hD32 hD1')
  clear hD32 hD1' hDv'
  obtain ⟨D1, hD1⟩ : ∃ D, D = cbs (digest longL) := ⟨_, rfl⟩
  obtain ⟨D2, hD2⟩ : ∃ D, D = cbs (digest (List.replicate 1000 97)) := ⟨_, rfl⟩
  have of0 := of_none
  have hx0 := hex_none
  have of1 := of_long
  have hx1 := hex_long
  have of2 := of_thou
  have hx2 := hex_thou
  rw [← hD0] at of0 hx0
  rw [← hD1] at of1 hx1
  rw [← hD2] at of2 hx2
  obtain ⟨DZ, hZ32, hZv, hZ1⟩ : ∃ D : List Value, D.length = 32 ∧ cbs (List.replicate 32 0) = D ∧ D.toArray.all (·.oneCell') = true := ⟨cbs (List.replicate 32 0), rfl, rfl, cbs_one' _⟩
  have smn := sum_none
  rw [hZv] at smn
  have Smn := Lib.hid smn
  have HZ := Lib.hid (And.intro hZ32 hZ1)
  clear hZ32 hZv hZ1 smn
  have eq0 := eq_same D _ hD0
  have eq1 := eq_same D1 _ hD1
  have eq2 := eq_same D2 _ hD2
  have Of0 := Lib.hid of0
  have Of1 := Lib.hid of1
  have Of2 := Lib.hid of2
  have Hx0 := Lib.hid hx0
  have Hx1 := Lib.hid hx1
  have Hx2 := Lib.hid hx2
  clear of0 of1 of2 hx0 hx1 hx2 hD0 hD1 hD2
  have kc := fun (w : World) (C : Array Value) (n c : Nat) => Lib.run_convert_bytes_const (P := Try.prog) w 22 5 C n c Try.underlying22 Try.underlying5
  go_enter Try.func12, Try.ntmps12
  have t0 : Below w.heap.size w w := Below.refl _ _
  go_wp2_with fail
  refine (Of0.out _).mono ?_
  rintro e w1 ⟨rfl, b1⟩
  have Hb1 := Lib.hid b1
  clear b1 t0
  go_wp2_with fail
  refine (Hx0.out _).mono ?_
  rintro e w2 ⟨rfl, b2⟩
  have Hb2 := Lib.hid b2
  clear b2
  go_wp2_with fail
  refine (Of1.out _ 56 _ ?_ (by decide) (by decide)).mono ?_
  · refine Bs.on (Bs.on (Bs.made _ _ _ _ longL ?_) Hb1.out) Hb2.out
    rfl
  rintro e w3 ⟨rfl, b3⟩
  have Hb3 := Lib.hid b3
  clear b3
  go_wp2_with fail
  refine (Hx1.out _).mono ?_
  rintro e w4 ⟨rfl, b4⟩
  have Hb4 := Lib.hid b4
  clear b4
  have z1 := Hb1.out.size
  simp only [World.size_alloc] at z1
  have Ht := Lib.hid (((((Below.refl w.heap.size w).alloc (Nat.le_refl _) _).trans (Hb1.out.mono (by simp))).trans (Hb2.out.mono (by omega))).trans ((Hb3.out.mono (by have := Hb2.out.size; omega)).trans (Hb4.out.mono (by have := Hb2.out.size; have := Hb3.out.size; omega))))
  clear z1 Hb1 Hb2 Hb3 Hb4
  go_wp2_with fail
  go_loopw [3, 4] (fun v i wr => ∃ k : Nat, k ≤ 1000 ∧ i = .int .i64 k ∧ Mine wr w.heap.size 5 v (List.replicate k 97) ∧ Below w.heap.size w wr) (fun _ i _ => 1000 - (intOf i).toNat)
  case atStart => exact ⟨0, Nat.zero_le _, rfl, World.ownsRow_nil _ _ _ _, Ht.out⟩
  case round =>
    obtain ⟨k, hk, rfl, hown, hnx⟩ := hrel
    by_cases hlt : k < 1000
    · have hst : List.replicate (k + 1) (97 : UInt8) = List.replicate k 97 ++ [97] := List.replicate_succ'
      have hlen : (List.replicate k (97 : UInt8)).length + 1 ≤ 140737488355328 := by rw [List.length_replicate]; omega
      have Hst := Lib.hid hst
      have Hk := Lib.hid (And.intro hk (And.intro hlen hown))
      have i1 : (k : Int) < 1000 := by omega
      clear hst hk hlen hown hlt
      generalize List.replicate k (97 : UInt8) = x at *
      go_wp2_with (at_builtin; go_loud (refine wp_appendB rfl _ _ rfl w.heap.size _ x rfl (by exact Mine.after Hk.out.2.2 ((Below.refl _ _).alloc (Nat.le_refl _) _)) (some ⟨wr.heap.size, 0, none⟩) 1 1 [97] rfl (by exact Bs.made _ _ _ _ [97] rfl) rfl Hk.out.2.1 (by have := hnx.size; simp; omega) ?_); intro v2 w2 hm2 hg2 ho2)
      go_roundw
      case rel =>
        refine ⟨k + 1, by omega, by go_num, by rw [Hst.out]; exact hm2, (hnx.alloc hnx.size _).grown hg2 (by have := hnx.size; simp; omega) ?_⟩
        intro j hj
        exact (World.ownsRow.lt Hk.out.2.2 j hj).1
      case measure => simp [intOf]; omega
    · have e : k = 1000 := by omega
      subst e
      obtain ⟨Aa, ca, hv, hc1, hc2, hBa⟩ := hown.form
      rw [List.length_replicate] at hv hc1
      subst hv
      have i2 : ¬ ((1000 : Nat) : Int) < 1000 := by omega
      have Ha := Lib.hid (And.intro hc1 (And.intro hc2 hBa))
      have Hnx := Lib.hid hnx
      clear hk hlt hown hc1 hc2 hBa hnx
      go_wp2_with fail
      refine (Of2.out _ _ _ Ha.out.2.2 Ha.out.1 Ha.out.2.1).mono ?_
      rintro e w5 ⟨rfl, b5⟩
      have Hb5 := Lib.hid (Hnx.out.trans (b5.mono Hnx.out.size))
      clear b5
      go_wp2_with fail
      refine (Hx2.out _).mono ?_
      rintro e w6 ⟨rfl, b6⟩
      have Hb6 := Lib.hid (Hb5.out.trans (b6.mono Hb5.out.size))
      clear b6 Hb5 Hnx Ha Ht
      go_wp2_with fail
      go_loopw [6, 7] (fun p i wr => ∃ k : Nat, k ≤ 2 ∧ i = .int .i64 k ∧ NoHash wr p ∧ Below w.heap.size w wr) (fun _ i _ => 2 - (intOf i).toNat)
      case atStart => exact ⟨0, Nat.zero_le _, rfl, .inl rfl, Hb6.out⟩
      case round =>
        obtain ⟨k, hk, rfl, hno, hnx⟩ := hrel
        by_cases hlt : k < 2
        · have i1 : (k : Int) < 2 := by omega
          have Hno := Lib.hid hno
          have Hnx := Lib.hid hnx
          clear hno hnx
          go_wp2_with fail
          refine (Smn.out u6 wr Hno.out).mono ?_
          rintro e ws ⟨rfl, hbs⟩
          have hZ : Blk (ws.alloc (.cells (cbs (List.replicate 32 0)).toArray 25)) ws.heap.size 25 (cbs (List.replicate 32 0)) := Blk.new rfl rfl
          have hsz : DZ.toArray.size = 32 := by rw [List.size_toArray]; exact HZ.out.1
          have hth : (ws.alloc (.cells (cbs (List.replicate 32 0)).toArray 25)).there ws.heap.size 0 DZ.toArray.size := by
            have e := hZ.there
            rw [cbs_length, List.length_replicate] at e
            rw [hsz]; exact e
          have hi : (Try.prog.info? 25).map (·.size) = some DZ.toArray.size := by rw [hsz]; exact info32b
          have hnW : Below wr.heap.size wr ((ws.alloc (.cells (cbs (List.replicate 32 0)).toArray 25)).setCells ws.heap.size 0 DZ) :=
            Below.setCells hbs.size _ (hbs.alloc hbs.size _)
          have hnoW := Hno.out.below hnW
          have hnxW := Hnx.out.trans (hnW.mono Hnx.out.size)
          have Hth := Lib.hid hth
          have Hi := Lib.hid hi
          have HW := Lib.hid (And.intro hnoW hnxW)
          clear hZ hsz hth hi hnW hnoW hnxW hbs Hno Hnx
          go_upto_region 14 with (refine wpList_store_mid rfl 25 _ _ rfl ws.heap.size 0 DZ.toArray rfl rfl Hth.out Hi.out HZ.out.2 ?_)
          go_wp2_with fail
          refine (write_none u6 _ 1 1 _ ?_).mono ?_
          · exact HW.out.1.below ((Below.refl _ _).alloc (Nat.le_refl _) _)
          rintro e w9 ⟨rfl, rfl⟩
          go_wp2_with fail
          refine (len_none u6 _ ?_).mono ?_
          · exact HW.out.1.below ((Below.refl _ _).alloc (Nat.le_refl _) _)
          rintro e w9 ⟨rfl, rfl⟩
          go_wp2
          go_roundw
          case rel =>
            refine ⟨k + 1, by omega, by go_num, NoHash.made (by simp) (by kernel_rfl), ?_⟩
            refine (HW.out.2.alloc HW.out.2.size _).alloc ?_ _
            rw [World.size_alloc]
            exact Nat.le_succ_of_le HW.out.2.size
          case measure => simp [intOf]; omega
        · have e : k = 2 := by omega
          subst e
          have i2 : ¬ ((2 : Nat) : Int) < 2 := by omega
          have Hnx := Lib.hid hnx
          clear hk hlt hno hnx
          go_wp2_with fail
          refine (new_any _).mono ?_
          rintro e w8 ⟨h, rfl, hgh, hH8, b8⟩
          have hgw : w.heap.size ≤ h := Nat.le_trans Hnx.out.size hgh
          have t8 := Hnx.out.trans (b8.mono Hnx.out.size)
          have Hcur := Lib.hid (And.intro hH8 (And.intro hgw t8))
          clear hH8 hgh hgw b8 t8 Hnx
          go_upto_region 18 with fail
          go_cut [11, 12] (fun p q wx => ∃ gd : Nat, p = .pointer (some ⟨gd, 0, none⟩) ∧ q = .bool true ∧ Blk wx gd 25 D ∧ Hold wx h [] ∧ Below w.heap.size w wx)
          case first =>
            go_wp2_with fail
            have hsm := summed_any h [] _ (by decide) Hcur.out.1
            rw [hDv.out] at hsm
            refine hsm.mono ?_
            clear hsm
            rintro e ws ⟨rfl, hHs, hbs⟩
            have hZ : Blk (ws.alloc (.cells (cbs (List.replicate 32 0)).toArray 25)) ws.heap.size 25 (cbs (List.replicate 32 0)) := Blk.new rfl rfl
            have hsz : D.toArray.size = 32 := by rw [List.size_toArray]; exact HD.out.1
            have hth : (ws.alloc (.cells (cbs (List.replicate 32 0)).toArray 25)).there ws.heap.size 0 D.toArray.size := by
              have e := hZ.there
              rw [cbs_length, List.length_replicate] at e
              rw [hsz]; exact e
            have hi : (Try.prog.info? 25).map (·.size) = some D.toArray.size := by rw [hsz]; exact info32b
            have hR := hZ.setAll (vs := D) (by rw [HD.out.1, cbs_length, List.length_replicate])
            have hg := Hcur.out.2.1
            have hws := hbs.size
            have hwc := Hcur.out.2.2.size
            have hH' : Hold ((ws.alloc (.cells (cbs (List.replicate 32 0)).toArray 25)).setCells ws.heap.size 0 D) h [] := by
              obtain ⟨rest, h1, h2⟩ := hHs
              exact ⟨rest, (h1.alloc _).farAll (by have := h1.lt; omega) 0 D, h2⟩
            have hnx : Below w.heap.size w ((ws.alloc (.cells (cbs (List.replicate 32 0)).toArray 25)).setCells ws.heap.size 0 D) :=
              Below.setCells (by omega) _ ((Hcur.out.2.2.trans (hbs.above (by omega) (by omega))).alloc (by omega) _)
            have Hth := Lib.hid hth
            have Hi := Lib.hid hi
            have Hq := Lib.hid (And.intro hR (And.intro hH' hnx))
            clear hZ hsz hth hi hR hH' hnx hHs hbs hws hwc
            go_wp2_with (refine wpList_store_mid rfl 25 _ _ rfl ws.heap.size 0 D.toArray rfl rfl Hth.out Hi.out HD.out.2 ?_; simp only [Act.put])
            go_meet
            exact ⟨ws.heap.size, rfl, rfl, Hq.out.1, Hq.out.2.1, Hq.out.2.2⟩
          case rest =>
            obtain ⟨gd, rfl, rfl, hdB, hHd, hbd⟩ := hcut
            have r0 : wc.drew.rangeAt gd 0 D := hdB.range
            have H0 : Hold wc.drew h [] := hHd
            have hud := Try.underlying25
            have hid : (Try.prog.info? 25).map (·.size) = some D.length := by rw [HD.out.1]; exact info32b
            clear hdB hHd
            go_wp2_with fail
            go_region_held3 (fun W' => W'.rangeAt gd 0 D ∧ Hold W' h []) (first | with_reducible exact ⟨r0, H0⟩ | with_reducible exact ⟨r7, H7⟩ | with_reducible exact ⟨r9, H9⟩)
              (first
              | (go_at_call 17; refine (works_any _).mono ?_; rintro e w7 ⟨rfl, hb7⟩; have r7 := range_below hb7 r0; have H7 := H0.below hb7)
              | (go_at_call 14; refine (Of0.out _).mono ?_; rintro e w9 ⟨rfl, hb9⟩; have r9 := range_below hb9 r7; have H9 := H7.below hb9)
              | (go_at_call 23; refine (len_any h [] _ H9).mono ?_; rintro e wl ⟨rfl, rfl⟩))
            go_wp2
            go_ret
            have t1 := (hbd.drew).trans (hb7.mono (hbd.drew).size)
            exact ⟨rfl, t1.trans (hb9.mono t1.size)⟩

end Go.Proofs.Ytdhpkaffijbedaa.shaKnown
