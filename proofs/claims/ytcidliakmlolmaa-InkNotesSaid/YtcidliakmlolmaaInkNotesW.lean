/-
  For all lists of byte slices l (30 at most are looked at): a book answers as the document's book does, digest by digest, and has as many inputs, calls and clashes; what is handed in stays as it is and is not kept; InkNotes returns true; no condition.
-/
import Derived.Test.YtcidliakmlolmaaOpen
import Derived.Test.YtcidliakmlolmaaListsZ
import Derived.Test.YtcidliakmlolmaaTri
import Derived.Test.YtcidliakmlolmaaEq
import Derived.Test.YtcidliakmlolmaaApp
import Derived.Deep.RegionHeld3
import Derived.Deep.RegionWith
import Derived.Deep.DeepCutAuto
namespace Go.Proofs.Ytcidliakmlolmaa.inkNotes
open Go.ChangeShapes Go.WideShapes Go.ChangeAt Go.RowKit
set_option linter.unusedVariables false

theorem mine_out {S : Nat → Prop} {w w' : World} {base n : Nat} {v : Value} {xs : List Value} (h : w.ownsRow base 5 1 v n xs) (ho : Out S w w') (hS : ∀ b, v.ownBlock = some b → ¬ S b) : w'.ownsRow base 5 1 v n xs :=
  row_stay h fun b c hb _ => ho.block b (World.ownsRow.lt h b hb).2 (hS b hb)
theorem eq_self (x : List UInt8) (D : List Value) (h : cbs (ofD x) = D) (w : World) : (Op.equalIn 10000 28 (.agg D.toArray) (.agg D.toArray)).run Try.prog w = .ok true w := by
  have hl : (ofD x).length = 32 := by unfold ofD; split; exact dlen x; rfl
  subst h
  rw [eq_digests w _ _ hl hl]
  simp
theorem byte_of (j : Nat) (h : j < 256) : (#[Value.int .u8 (j : Int)] : Array Value).toList = cbs [UInt8.ofNat j] := by
  simp only [cbs, List.map_cons, List.map_nil, cb, UInt8.toNat_ofNat']
  rw [Nat.mod_eq_of_lt (by omega)]

set_option maxRecDepth 100000 in
set_option maxHeartbeats 6400000 in
theorem walk (Al : Option Addr) (nl cl : Nat) (l : List (List UInt8)) (w : World) (hl : ArgL w Al nl cl l ∧ ∀ x ∈ l, x.length ≤ 140737488351232) :
    Calls Try.prog 3 #[.slice Al nl cl] w fun e w' => e = .returned (.bool true) ∧ Below w.heap.size w w' := by
  obtain ⟨⟨hln, hlc, hlm, hlL⟩, hlz⟩ := hl
  unfold maxLen at hlm
  have Hl := Lib.hid (And.intro hln (And.intro hlc (And.intro hlL hlz)))
  have hn63 : nl ≤ 9223372036854775807 := by omega
  clear hln hlL hlz
  go_enter Try.func3, Try.ntmps3
  go_wp2_with fail
  refine (bnew_any _).mono ?_
  rintro e w1 ⟨S1, ga, rfl, hS1, hk1, hb1⟩
  have H1 := Lib.hid (And.intro hS1 (And.intro hk1 hb1))
  clear hS1 hk1 hb1
  go_wp2_with fail
  refine (rbnew_any _).mono ?_
  rintro e w2 ⟨gr, rfl, hgr, hk2, hb2⟩
  have H2 := Lib.hid (And.intro hgr (And.intro hk2 hb2))
  clear hgr hk2 hb2
  go_wp2_with fail
  refine (bnew_any _).mono ?_
  rintro e w3 ⟨S3, go, rfl, hS3, hk3, hb3⟩
  have HT := Lib.hid (tri_new H1.out.1 H1.out.2.1 H1.out.2.2 H2.out.2.1 H2.out.1 H2.out.2.2 hS3 hk3 hb3)
  clear hS3 hk3 hb3
  go_wp2_with fail
  go_loopw [6] (fun v wr => ∃ j : Nat, j ≤ nl ∧ j ≤ 30 ∧ v = .int .i64 j ∧ ∃ so : Bk3, so.1.length ≤ j ∧ so.2.2 ≤ j ∧ Tri w wr ga go gr (runL (l.take j)) so (runL (l.take j)).1 (runL (l.take j)).2.2 (fun _ => False)) (fun v _ => 30 - (intOf v).toNat)
  case atStart => exact ⟨0, Nat.zero_le _, by omega, rfl, ([], false, 0), Nat.le_refl _, Nat.le_refl _, HT.out⟩
  case round =>
    obtain ⟨j, hj, hj30, rfl, so, hs1, hs2, hT⟩ := hrel
    have hi0 : (0 : Int) ≤ j := by omega
    have hi30 : (j : Int) ≤ 30 := by omega
    have hrl := runL_len (l.take j)
    rw [List.length_take] at hrl
    by_cases hin : j < nl ∧ j < 30
    · obtain ⟨hlt, hl3⟩ := hin
      have hi1 : (j : Int) < nl := by omega
      have hi2 : (j : Int) < 30 := by omega
      have hjl : j < l.length := by rw [Hl.out.1]; exact hlt
      obtain ⟨b, off, Aj, cj, rfl, hb, hcell, hlx, hcx, hBx⟩ := Hl.out.2.2.1.at_ hjl
      have hlz := Hl.out.2.2.2 _ (List.getElem_mem hjl)
      have hsucc := runL_succ l j hjl
      obtain ⟨x, hx⟩ : ∃ x, l[j] = x := ⟨_, rfl⟩
      rw [hx] at hcell hlx hBx hlz hsucc
      obtain ⟨nx, hnx⟩ : ∃ nx, x.length = nx := ⟨_, rfl⟩
      rw [hnx] at hcell hlx hlz
      have hcs := clash_said (l.take j)
      obtain ⟨s, hs⟩ : ∃ s, runL (l.take j) = s := ⟨_, rfl⟩
      rw [hs] at hT hsucc hrl
      have hsl := stepL_len s x
      obtain ⟨D, hDa, hDb, hDc⟩ := dig_cells x
      have heqD := eq_self x D hDb
      have hb6 : Below wr.heap.size wr (wr.alloc (.cells #[.int .u8 (j : Int)] 5)) := (Below.refl _ _).alloc (Nat.le_refl _) _
      have hB6 := Bs.made wr 5 #[.int .u8 (j : Int)] (0, 0) [UInt8.ofNat j] (byte_of j (by omega))
      have ho := tri_o (hT.below hb6) (by omega) (by omega) hB6 (n := 1) (cp := 1) rfl (by decide) (by decide)
      have hso := stepL_len so [UInt8.ofNat j]
      have Ho := Lib.hid ho
      have Hx := Lib.hid (And.intro hb (And.intro hcell (And.intro hlx (And.intro hcx (And.intro hBx (And.intro hlz (And.intro hsucc (And.intro hnx (And.intro hDa (And.intro hDb hDc))))))))))
      have Hz := Lib.hid (And.intro hrl (And.intro hsl (And.intro hso (And.intro hs1 hs2))))
      clear hb hcell hlx hcx hBx hlz hsucc hx hs hT hrl hsl hDa hDb hDc hb6 hB6 ho hso hs1 hs2 hcs
      go_wp2_with fail
      refine Ho.out.mono ?_
      rintro e w4 ⟨rfl, hT4, _⟩
      have hcw := (hT4.bel.cell Hx.out.1).trans Hx.out.2.1
      have hcp := copyBytes Aj cj nx x w4 (Hx.out.2.2.2.2.1.after hT4.bel) Hx.out.2.2.2.2.2.2.2.1 (by have := Hx.out.2.2.2.2.2.1; omega)
      have Hcp := Lib.hid hcp
      have H4 := Lib.hid hT4
      clear hcp hT4 Ho
      go_wp2_with fail
      refine Hcp.out.mono ?_
      rintro e w5 ⟨v5, rfl, hN5⟩
      obtain ⟨A5, c5, rfl, h5a, h5b, h5c⟩ := hN5.form
      rw [Hx.out.2.2.2.2.2.2.2.1] at h5a ⊢
      have hM5 : w5.ownsRow w4.heap.size 5 1 (.slice A5 nx c5) nx (cbs x) := by have := hN5.1; unfold Mine at this; rw [Hx.out.2.2.2.2.2.2.2.1] at this; exact this
      have hT5 := H4.out.grow hN5.2
      have ha := tri_a hT5 (by have := Hz.out.1; omega) (by have := Hz.out.1; omega) h5c Hx.out.2.2.2.2.2.2.2.1 h5a h5b
      rw [Hx.out.2.2.2.2.2.2.2.2.2.1] at ha
      have Ha := Lib.hid ha
      have H5 := Lib.hid (And.intro hM5 (And.intro hT5 (And.intro h5a (And.intro h5b hN5.2))))
      clear ha hM5 hT5 h5a h5b h5c hN5 hcw Hcp
      go_wp2_with fail
      refine Ha.out.mono ?_
      rintro e w6 ⟨rfl, hT6, hO6⟩
      obtain ⟨wS, hwS, hti, hdS, hbS, hszS⟩ := dig_local w6 D Hx.out.2.2.2.2.2.2.2.2.1
      have hM6 := mine_out H5.out.1 hO6 (fun i h e => e.2 (.inr (World.ownsRow.lt H5.out.1 i h)))
      have hM7 := mine_out hM6 (Out.ofBelow (fun _ => False) hbS) (fun _ _ e => e)
      have hT7 := hT6.grow hbS
      have hr := tri_r hT7 (by have := Hz.out.1; omega) (by have := Hz.out.1; omega) Hx.out.2.2.2.2.1 Hx.out.2.2.2.2.2.2.2.1 Hx.out.2.2.1 Hx.out.2.2.2.1
      rw [Hx.out.2.2.2.2.2.2.2.2.2.1, rof_step] at hr
      have Hr := Lib.hid hr
      have Hti := Lib.hid hti
      have HwS := Lib.hid hwS
      have hcw7 := (hT7.bel.cell Hx.out.1).trans Hx.out.2.1
      have H7 := Lib.hid (And.intro hM7 (And.intro hdS (And.intro hszS hT7)))
      have z6 := H5.out.2.2.2.2.size
      have Hs6 := Lib.hid hO6.size
      clear hr hti hwS hM6 hM7 hdS hbS hszS hT6 hT7 hO6 Ha
      go_wp2_with (refine wpList_store_mid rfl 28 _ _ rfl w6.heap.size 0 D.toArray rfl rfl Hti.out.1 Hti.out.2 Hx.out.2.2.2.2.2.2.2.2.2.2 ?_; simp only [Act.put]; refine cast (congrArg (fun z => wpList _ _ _ _ _ z) HwS.out.symm) ?_)
      refine Hr.out.mono ?_
      rintro e w8 ⟨rfl, hT8, hO8⟩
      obtain ⟨wT, hwT, hti2, hdT, hbT, hszT⟩ := dig_local w8 D Hx.out.2.2.2.2.2.2.2.2.1
      have hM8 := mine_out H7.out.1 hO8 (fun i h e => e.2 (.inl (.inr (World.ownsRow.lt H5.out.1 i h))))
      have hM9 := mine_out hM8 (Out.ofBelow (fun _ => False) hbT) (fun _ _ e => e)
      have hd8 := hO8.blk H7.out.2.1 (fun e => e.2 (.inr ⟨Nat.le_refl _, by rw [H7.out.2.2.1]; exact Nat.lt_succ_self _⟩))
      have hd9 := hd8.below hbT hd8.lt
      have hT9 := hT8.below hbT
      have hcw9 := (hT9.bel.cell Hx.out.1).trans Hx.out.2.1
      have hBin : Bs wT A5 x := by
        have hm : Mine wT w4.heap.size 5 (.slice A5 nx c5) x := by unfold Mine; rw [Hx.out.2.2.2.2.2.2.2.1]; exact hM9
        obtain ⟨A', c', e', _, _, hb'⟩ := Mine.form hm
        injection e' with e1 e2 e3
        rw [e1]; exact hb'
      have heqB := eqBytes A5 Aj c5 cj nx nx x x wT hBin (Hx.out.2.2.2.2.1.after hT9.bel) Hx.out.2.2.2.2.2.2.2.1 Hx.out.2.2.2.2.2.2.2.1 (Nat.le_trans H5.out.2.2.1 H5.out.2.2.2.1) (Nat.le_trans Hx.out.2.2.1 Hx.out.2.2.2.1)
      rw [show (x == x) = true from by simp] at heqB
      have HeqB := Lib.hid heqB
      have Hti2 := Lib.hid hti2
      have HwT := Lib.hid hwT
      have H9 := Lib.hid (And.intro hM9 (And.intro hd9 (And.intro hdT hT9)))
      obtain ⟨ee, hee⟩ : ∃ ee, ofE x = ee := ⟨_, rfl⟩
      rw [hee]
      have hi32 : (Try.prog.info? 28).map (·.size) = some D.toArray.size := by rw [List.size_toArray, Hx.out.2.2.2.2.2.2.2.2.1]; exact info32b
      have Hi := Lib.hid hi32
      clear hM8 hM9 hd8 hd9 hT8 hT9 hO8 hti2 hwT hdT hbT hszT heqB hBin hee hi32 Hr
      go_wp2_with (first
        | (refine wpList_store_mid rfl 28 _ _ rfl w8.heap.size 0 D.toArray rfl rfl Hti2.out.1 Hti2.out.2 Hx.out.2.2.2.2.2.2.2.2.2.2 ?_; simp only [Act.put]; refine cast (congrArg (fun z => wpList _ _ _ _ _ z) HwT.out.symm) ?_)
        | (refine wpList_load_row rfl 28 _ rfl w6.heap.size rfl 28 D.toArray (0, 0) _ H9.out.2.1 Try.underlying28 rfl Hi.out ?_)
        | (refine wpList_load_row rfl 28 _ rfl w8.heap.size rfl 28 D.toArray (0, 0) _ H9.out.2.2.1 Try.underlying28 rfl Hi.out ?_))
      refine HeqB.out.mono ?_
      rintro e wU ⟨rfl, hbU⟩
      have HU := Lib.hid (And.intro (mine_out H9.out.1 (Out.ofBelow (fun _ => False) hbU) (fun _ _ e => e)) (H9.out.2.2.2.below hbU))
      have hnx63 : nx ≤ 140737488351232 := Hx.out.2.2.2.2.2.1
      obtain ⟨N7, hN7⟩ : ∃ N7 : Nat → Prop, (fun i => (False ∨ w4.heap.size ≤ i ∧ i < w5.heap.size) ∨ w6.heap.size ≤ i ∧ i < wS.heap.size) = N7 := ⟨_, rfl⟩
      have hNin : ∀ i, (Value.slice A5 nx c5).ownBlock = some i → N7 i := fun i h => by rw [← hN7]; exact .inl (.inr (World.ownsRow.lt H5.out.1 i h))
      rw [hN7] at HU
      have HN := Lib.hid hNin
      clear hbU HeqB hN7 hNin hcw7 hcw9
      go_wp2_with fail
      go_loopw [12] (fun v wr => ∃ q : Nat, q ≤ nx ∧ v = .int .i64 q ∧ (∃ ys : List UInt8, ys.length = nx ∧ wr.ownsRow w4.heap.size 5 1 (.slice A5 nx c5) nx (cbs ys)) ∧ Tri w wr ga go gr (stepL s x) (stepL so [UInt8.ofNat j]) (stepL s x).1 (stepL s x).2.2 N7) (fun v _ => nx - (intOf v).toNat)
      case atStart => exact ⟨0, Nat.zero_le _, rfl, ⟨x, Hx.out.2.2.2.2.2.2.2.1, HU.out.1⟩, HU.out.2⟩
      case round =>
        obtain ⟨q, hq, rfl, ⟨ys, hy, hown⟩, hT⟩ := hrel
        have hq0 : (0 : Int) ≤ q := by omega
        by_cases hqn : q < nx
        · have hq1 : (q : Int) < nx := by omega
          obtain ⟨gi, cap, hv, hg, hgl⟩ := hown.form (by omega)
          simp only [Value.slice.injEq] at hv
          obtain ⟨rfl, _, rfl⟩ := hv
          have hc := Mine.cell hown (j := q) (by omega)
          have hf := hown.frozenAt q
          have hy8 := ys[q].toNat_lt
          have hgN : N7 gi := HN.out gi rfl
          generalize hold : ys[q] = old at *
          have Hr := Lib.hid (And.intro hy (And.intro hown (And.intro hT hgN)))
          clear hy hold hown hT hgN hg hgl
          go_wp2
          go_roundw
          case rel =>
            refine ⟨q + 1, by omega, by go_num, ⟨ys.set q (old + 1), by rw [List.length_set]; exact Hr.out.1, Mine.set_ Hr.out.2.1 q (old + 1) _ ?_⟩, Hr.out.2.2.1.set (p := ⟨gi, q, none⟩) Hr.out.2.2.2 _⟩
            unfold cb
            rw [UInt8.toNat_add]
            simp
          case measure => simp [intOf]; omega
        · have hqe : q = nx := by omega
          subst hqe
          have hq1 : ¬ (q : Int) < q := by omega
          have hl1 := tri_len hT
          have hl2 := tri_rlen hT
          have hk1 := tri_asked hT (by have := Hz.out; omega)
          have hk2 := tri_rasked hT
          obtain ⟨m1, hm1⟩ : ∃ m1, (stepL s x).1.length = m1 := ⟨_, rfl⟩
          obtain ⟨m2, hm2⟩ : ∃ m2, (stepL s x).2.2 = m2 := ⟨_, rfl⟩
          rw [hm1] at hl1 hl2
          rw [hm2] at hk1 hk2
          have Hl1 := Lib.hid hl1
          have Hl2 := Lib.hid hl2
          have Hk1 := Lib.hid hk1
          have Hk2 := Lib.hid hk2
          have Hr := Lib.hid hT
          clear hl1 hl2 hk1 hk2 hT hown hy hm1 hm2
          go_wp2_with (first
            | (go_at_call 10; refine Hl1.out.mono ?_; rintro e w' ⟨rfl, rfl⟩)
            | (go_at_call 11; refine Hl2.out.mono ?_; rintro e w' ⟨rfl, rfl⟩)
            | (go_at_call 12; refine Hk1.out.mono ?_; rintro e w' ⟨rfl, rfl⟩)
            | (go_at_call 13; refine Hk2.out.mono ?_; rintro e w' ⟨rfl, rfl⟩))
          go_roundw
          case rel => exact ⟨j + 1, by omega, by omega, by go_num, stepL so [UInt8.ofNat j], by have := Hz.out; omega, by have := Hz.out; omega, by rw [Hx.out.2.2.2.2.2.2.1]; exact Hr.out.less⟩
          case measure => simp [intOf]; omega
    · have hcl := tri_clash hT
      obtain ⟨c, hc⟩ : ∃ c, (runL (l.take j)).2.1 = c := ⟨_, rfl⟩
      have hrc := tri_rclash hT (by omega) (run_short _) _ (clash_said (l.take j))
      rw [hc] at hcl hrc
      have Hcl := Lib.hid hcl
      have Hrc := Lib.hid hrc
      have Hr := Lib.hid hT
      have Hin := Lib.hid (show (j < nl ∧ j = 30) ∨ j = nl by omega)
      clear hcl hrc hT hc hin hrl hs1 hs2
      have hcc : ∀ w : World, (Op.equalIn 10000 4 (.bool c) (.bool c)).run Try.prog w = .ok true w := fun w => by cases c <;> kernel_rfl
      rcases Hin.out with ⟨h1, h2⟩ | h1
      · have hi1 : (j : Int) < nl := by omega
        have hi2 : ¬ (j : Int) < 30 := by omega
        clear h1 h2
        go_wp2_with (first
          | (go_at_call 14; refine Hcl.out.mono ?_; rintro e w' ⟨rfl, rfl⟩)
          | (go_at_call 15; refine Hrc.out.mono ?_; rintro e wV ⟨rfl, hbV⟩; have HV := Lib.hid (Hr.out.bel.trans (hbV.mono Hr.out.bel.size)); clear hbV)
          | (go_at_call 16; refine (works3_any _).mono ?_; rintro e wW ⟨rfl, hbW⟩; have HW := Lib.hid (HV.out.trans (hbW.mono HV.out.size)); clear hbW))
        go_ret
        exact ⟨by first | rfl | simp, HW.out⟩
      · have hi1 : ¬ (j : Int) < nl := by omega
        clear h1
        go_wp2_with (first
          | (go_at_call 14; refine Hcl.out.mono ?_; rintro e w' ⟨rfl, rfl⟩)
          | (go_at_call 15; refine Hrc.out.mono ?_; rintro e wV ⟨rfl, hbV⟩; have HV := Lib.hid (Hr.out.bel.trans (hbV.mono Hr.out.bel.size)); clear hbV)
          | (go_at_call 16; refine (works3_any _).mono ?_; rintro e wW ⟨rfl, hbW⟩; have HW := Lib.hid (HV.out.trans (hbW.mono HV.out.size)); clear hbW))
        go_ret
        exact ⟨by first | rfl | simp, HW.out⟩

end Go.Proofs.Ytcidliakmlolmaa.inkNotes
