/-
  For all bytes p and z (as many of each as the shorter one has): the sums' xor is that of their bytes' xor and of as many noughts; SumXor returns true; no condition.
-/
import Derived.Test.YtdfphefhabgjhaaTwo6
import Derived.Test.YtdfphefhabgjhaaAnyOrderH
import Derived.Deep.RegionHeld3
import Derived.Deep.RegionWith
import Derived.Deep.DeepCutAuto
namespace Go.Proofs.Ytdfphefhabgjhaa.sumXor
open Go.ChangeShapes Go.WideShapes Go.ChangeAt Go.RowKit
set_option linter.unusedVariables false

set_option maxRecDepth 100000 in
set_option maxHeartbeats 6400000 in
theorem walk (Ap : Option Addr) (np cp : Nat) (p : List UInt8) (Az : Option Addr) (nz cz : Nat) (z : List UInt8) (w : World) (hp : ArgB w Ap np cp p) (hz : ArgB w Az nz cz z) :
    Calls Try.prog 9 #[.slice Ap np cp, .slice Az nz cz] w fun e w' => e = .returned (.bool true) ∧ Below w.heap.size w w' := by
  obtain ⟨n, hn, hnp, hnz, hmin⟩ : ∃ n : Nat, n = min np nz ∧ n ≤ np ∧ n ≤ nz ∧ (∀ ts t w, (Builtin.min_ ts t #[.int .i64 (np : Int), .int .i64 (nz : Int)]).run Try.prog w = .ok (.int .i64 (n : Int)) w) := by
    refine ⟨min np nz, rfl, by omega, by omega, fun ts t w => ?_⟩
    rw [run_min_int2]
    congr 2
    split <;> omega
  obtain ⟨hpl, hpc, hpm, hpB⟩ := hp
  obtain ⟨hzl, hzc, hzm, hzB⟩ := hz
  have hnm : n ≤ 140737488351232 := by omega
  obtain ⟨Z, hZ, hmk⟩ := made_bytes n hnm
  have hfp := run_frontB Ap np cp n (by omega)
  have hfz := run_frontB Az nz cz n (by omega)
  have hp2 : n ≤ p.length := by omega
  have hz2 : n ≤ z.length := by omega
  have hof1 := fun W (h : Bs W Ap p) => of_any Ap cp n (p.take n) W (h.front hp2) (by rw [List.length_take]; omega) (by unfold maxLen; omega)
  have hof2 := fun W (h : Bs W Az z) => of_any Az cz n (z.take n) W (h.front hz2) (by rw [List.length_take]; omega) (by unfold maxLen; omega)
  have hof3 := fun W g (h : Blk W g 5 (cbs (xr p z n n))) => of_any (some ⟨g, 0, none⟩) n n (xr p z n n) W (Bs.ofBlk h) (xr_len (Nat.le_refl _) hp2 hz2) (by unfold maxLen; omega)
  have hof4 := fun W g (h : Blk W g 5 (cbs (List.replicate n 0))) => of_any (some ⟨g, 0, none⟩) n n (List.replicate n 0) W (Bs.ofBlk h) (by simp) (by unfold maxLen; omega)
  have hx := ofC_xor (p.take n) (z.take n) (by rw [List.length_take, List.length_take]; omega)
  rw [← xr_all, List.length_take, Nat.min_eq_left hp2] at hx
  have h12 := q_xor (ofC (p.take n)) (ofC (z.take n))
  have h34 := q_xor (ofC (xr p z n n)) (ofC (List.replicate n 0))
  rw [← hx] at h34
  generalize (((ofC (p.take n) ^^^ ofC (z.take n)).toNat : Nat) : Int) = v at *
  generalize ((ofC (p.take n)).toNat : Int) = r1 at *
  generalize ((ofC (z.take n)).toNat : Int) = r2 at *
  generalize ((ofC (xr p z n n)).toNat : Int) = r3 at *
  generalize ((ofC (List.replicate n 0)).toNat : Int) = r4 at *
  have Hf1 := Lib.hid hof1
  have Hf2 := Lib.hid hof2
  have Hf3 := Lib.hid hof3
  have Hf4 := Lib.hid hof4
  have HZ := Lib.hid hZ
  have HB := Lib.hid (And.intro hpB (And.intro hzB (And.intro hp2 hz2)))
  have Hx := Lib.hid (And.intro h12 h34)
  clear hof1 hof2 hof3 hof4 hZ hpB hzB hp2 hz2 hx h12 h34 hpl hzl hn hpm hzm
  go_enter Try.func9, Try.ntmps9
  go_wp2_with (go_at_call 16; refine (works6_any _).mono ?_; rintro e w0 ⟨rfl, b0⟩)
  have hZB : Blk (w0.alloc (.cells Z 5)) w0.heap.size 5 (cbs (List.replicate n 0)) := Blk.new HZ.out rfl
  have T0 := Lib.hid (And.intro hZB (b0.alloc b0.size (.cells Z 5)))
  have hg0 : w.heap.size ≤ w0.heap.size := b0.size
  clear hZB b0
  generalize w0.alloc (.cells Z 5) = w1 at *
  generalize w0.heap.size = g at *
  go_loopw [7] (fun i wr => ∃ k : Nat, k ≤ n ∧ i = .int .i64 k ∧ Blk wr g 5 (cbs (xr p z n k)) ∧ Below w.heap.size w wr) (fun i _ => n - (intOf i).toNat)
  case atStart => exact ⟨0, Nat.zero_le _, rfl, by simpa [xr] using T0.out.1, T0.out.2⟩
  case round =>
    obtain ⟨k, hk, rfl, hB, hb⟩ := hrel
    clear T0
    by_cases hlt : k < n
    · have i0 : (0 : Int) ≤ (k : Int) := by omega
      have i1 : (k : Int) < (n : Int) := by omega
      have i2 : (k : Int) < (np : Int) := by omega
      have i3 : (k : Int) < (nz : Int) := by omega
      have hkp : k < p.length := by have := HB.out.2.2.1; omega
      have hkz : k < z.length := by have := HB.out.2.2.2; omega
      obtain ⟨bp, op, rfl, hbp, hcp⟩ := (HB.out.1.on hb).at_ (i := k) hkp
      obtain ⟨bz, oz, rfl, hbz, hcz⟩ := (HB.out.2.1.on hb).at_ (i := k) hkz
      have ep : wr.drew.cell? ⟨bp, op + k, none⟩ = some (.int .u8 (p[k].toNat : Int)) := hcp k hkp
      have ez : wr.drew.cell? ⟨bz, oz + k, none⟩ = some (.int .u8 (z[k].toNat : Int)) := hcz k hkz
      have hset := xr_set hlt HB.out.2.2.1 HB.out.2.2.2 hkp hkz
      have hxl := xr_len (p := p) (q := z) (n := n) (k := k) hk HB.out.2.2.1 HB.out.2.2.2
      have d0 : wr.drew.cell? ⟨g, k, none⟩ = some (cb ((xr p z n k).getD k 0)) := hB.cell (i := k) (v := cb ((xr p z n k).getD k 0)) (by rw [cbs_get, List.getElem?_eq_getElem (by omega), List.getD_eq_getElem?_getD, List.getElem?_eq_getElem (by omega)]; rfl)
      have f0 : wr.drew.frozen? ⟨g, k, none⟩ = false := hB.free k
      generalize cb ((xr p z n k).getD k 0) = old at *
      have hbx := b_xor p[k] z[k]
      have hB2 := hB.set_ k (cb (p[k] ^^^ z[k]))
      unfold cbs at hB2
      rw [← List.map_set, hset] at hB2
      have Hs := Lib.hid (And.intro hB2 (And.intro (hb.setCell (p := ⟨g, k, none⟩) hg0 (cb (p[k] ^^^ z[k]))) hk))
      unfold cb at Hs
      generalize p[k] ^^^ z[k] = xk at *
      generalize (p[k].toNat : Int) = pk at *
      generalize (z[k].toNat : Int) = zk at *
      clear hcp hcz hset hxl hB2 hB hb hbp hbz hk hlt
      go_wp2
      go_region
      all_goals (
        go_wp2
        go_roundw
        case rel => exact ⟨k + 1, by omega, by go_num, Hs.out.1, Hs.out.2.1.drew⟩
        case measure => simp [intOf]; omega)
    · have e : k = n := by omega
      subst e
      have i2 : ¬ (k : Int) < (k : Int) := by omega
      have G0 := Lib.hid (show XG w wr.drew Ap Az p z g (xr p z k k) from XG.drew ⟨HB.out.1.on hb, HB.out.2.1.on hb, hB, hb⟩)
      clear hB hb hk hlt HB
      have h12 := Hx.out.1
      have h34 := Hx.out.2
      clear Hx
      go_wp2
      refine wp_region_any (by kernel_rfl) ?_
      change wpAny _ _ _ _ _ _ _ (World.drew _)
      refine any_take (i := 0) (d := 34) (v := ?v1) rfl rfl (by kernel_rfl) (by kernel_rfl) (by kernel_rfl) (fun _ _ _ h => h) (Or.inl ⟨by rfl, ?y1⟩) ?r1
      case y1 => (intro w; go_simp; try with_reducible rfl)
      simp only [List.setIfInBounds_toArray, List.set_cons_zero, List.set_cons_succ]
      refine any_take (i := 1) (d := 35) (v := ?v2) rfl rfl (by kernel_rfl) (by kernel_rfl) (by kernel_rfl) (fun _ _ _ h => h) (Or.inl ⟨by rfl, ?y2⟩) ?r2
      case y2 => (intro w; go_simp; try with_reducible rfl)
      simp only [List.setIfInBounds_toArray, List.set_cons_zero, List.set_cons_succ]
      refine any_take (i := 2) (d := 36) (v := ?v3) rfl rfl (by kernel_rfl) (by kernel_rfl) (by kernel_rfl) (fun _ _ _ h => h) (Or.inl ⟨by rfl, ?y3⟩) ?r3
      case y3 => (intro w; go_simp; try with_reducible rfl)
      simp only [List.setIfInBounds_toArray, List.set_cons_zero, List.set_cons_succ]
      refine any_take (i := 4) (d := 38) (v := ?v4) rfl rfl (by kernel_rfl) (by kernel_rfl) (by kernel_rfl) (fun _ _ _ h => h) (Or.inl ⟨by rfl, ?y4⟩) ?r4
      case y4 => (intro w; go_simp; try with_reducible rfl)
      simp only [List.setIfInBounds_toArray, List.set_cons_zero, List.set_cons_succ]
      refine any_take (i := 5) (d := 39) (v := ?v5) rfl rfl (by kernel_rfl) (by kernel_rfl) (by kernel_rfl) (fun _ _ _ h => h) (Or.inl ⟨by rfl, ?y5⟩) ?r5
      case y5 => (intro w; go_simp; try with_reducible rfl)
      simp only [List.setIfInBounds_toArray, List.set_cons_zero, List.set_cons_succ]
      refine any_take (i := 6) (d := 40) (v := ?v6) rfl rfl (by kernel_rfl) (by kernel_rfl) (by kernel_rfl) (fun _ _ _ h => h) (Or.inl ⟨by rfl, ?y6⟩) ?r6
      case y6 => (intro w; go_simp; try with_reducible rfl)
      simp only [List.setIfInBounds_toArray, List.set_cons_zero, List.set_cons_succ]
      refine any_take (i := 9) (d := 43) (v := ?v7) rfl rfl (by kernel_rfl) (by kernel_rfl) (by kernel_rfl) (fun _ _ _ h => h) (Or.inl ⟨by rfl, ?y7⟩) ?r7
      case y7 => (intro w; go_simp; try with_reducible rfl)
      simp only [List.setIfInBounds_toArray, List.set_cons_zero, List.set_cons_succ]
      refine any_take (i := 11) (d := 45) (v := ?v8) rfl rfl (by kernel_rfl) (by kernel_rfl) (by kernel_rfl) (fun _ _ _ h => h) (Or.inl ⟨by rfl, ?y8⟩) ?r8
      case y8 => (intro w; go_simp; try with_reducible rfl)
      simp only [List.setIfInBounds_toArray, List.set_cons_zero, List.set_cons_succ]
      refine any_two (i := 3) (j := 12) (by kernel_rfl) ?_ ?_
      ·
        refine wpOp_step rfl (fun K hK => ?_)
        go_simp
        refine (Hf1.out _ G0.out.1).mono ?_
        rintro e w11 ⟨rfl, b11⟩
        have G1 := Lib.hid (G0.out.below b11)
        clear b11
        refine hK _ _ ?_
        clear hK K
        refine any_two (i := 7) (j := 12) (by kernel_rfl) ?_ ?_
        ·
          refine wpOp_step rfl (fun K hK => ?_)
          go_simp
          refine (Hf2.out _ G1.out.2.1).mono ?_
          rintro e w12 ⟨rfl, b12⟩
          have G2 := Lib.hid (G1.out.below b12)
          clear b12
          refine hK _ _ ?_
          clear hK K
          refine any_take (i := 8) (d := 42) (v := ?v9) rfl rfl (by kernel_rfl) (by kernel_rfl) (by kernel_rfl) (fun _ _ _ h => h) (Or.inl ⟨by rfl, ?y9⟩) ?r9
          case y9 => (intro w; go_simp; try with_reducible rfl)
          simp only [List.setIfInBounds_toArray, List.set_cons_zero, List.set_cons_succ]
          refine any_two (i := 10) (j := 12) (by kernel_rfl) ?_ ?_
          ·
            refine wpOp_step rfl (fun K hK => ?_)
            go_simp
            refine (Hf3.out _ _ G2.out.2.2.1).mono ?_
            rintro e w13 ⟨rfl, b13⟩
            have G3 := Lib.hid (G2.out.below b13)
            clear b13
            refine hK _ _ ?_
            clear hK K
            refine any_one (i := 12) (by kernel_rfl) ?_
            refine wpOp_step rfl (fun K hK => ?_)
            go_simp
            have G4 := Lib.hid (G3.out.alloc (.cells Z 5))
            have M4 := Lib.hid (Blk.new (w := w13) (t := 5) HZ.out rfl)
            refine hK _ _ ?_
            clear hK K
            refine any_one (i := 13) (by kernel_rfl) ?_
            refine wpOp_step rfl (fun K hK => ?_)
            go_simp
            refine (Hf4.out _ _ M4.out).mono ?_
            rintro e w15 ⟨rfl, b15⟩
            have G5 := Lib.hid (G4.out.below b15)
            have M5 := Lib.hid (M4.out.below b15 M4.out.lt)
            clear b15
            refine hK _ _ ?_
            clear hK K
            refine any_take (i := 14) (d := 48) (v := ?v10) rfl rfl (by kernel_rfl) (by kernel_rfl) (by kernel_rfl) (fun _ _ _ h => h) (Or.inl ⟨by rfl, ?y10⟩) ?r10
            case y10 => (intro w; go_simp; try with_reducible rfl)
            simp only [List.setIfInBounds_toArray, List.set_cons_zero, List.set_cons_succ]
            refine any_take (i := 15) (d := 49) (v := ?v11) rfl rfl (by kernel_rfl) (by kernel_rfl) (by kernel_rfl) (fun _ _ _ h => h) (Or.inl ⟨by rfl, ?y11⟩) ?r11
            case y11 => (intro w; go_simp; try with_reducible rfl)
            simp only [List.setIfInBounds_toArray, List.set_cons_zero, List.set_cons_succ]
            refine any_take (i := 16) (d := 4) (v := ?v12) rfl rfl (by kernel_rfl) (by kernel_rfl) (by kernel_rfl) (fun _ _ _ h => h) (Or.inl ⟨by rfl, ?y12⟩) ?r12
            case y12 => (intro w; go_simp; try with_reducible rfl)
            simp only [List.setIfInBounds_toArray, List.set_cons_zero, List.set_cons_succ]
            refine wpAny_done (by kernel_rfl) ?_ _
            go_wp2_with fail
            go_ret
            exact ⟨rfl, G5.out.2.2.2⟩
          ·
            refine wpOp_step rfl (fun K hK => ?_)
            go_simp
            have G3 := Lib.hid (G2.out.alloc (.cells Z 5))
            have M3 := Lib.hid (Blk.new (w := w12) (t := 5) HZ.out rfl)
            refine hK _ _ ?_
            clear hK K
            refine any_one (i := 10) (by kernel_rfl) ?_
            refine wpOp_step rfl (fun K hK => ?_)
            go_simp
            refine (Hf3.out _ _ G3.out.2.2.1).mono ?_
            rintro e w14 ⟨rfl, b14⟩
            have G4 := Lib.hid (G3.out.below b14)
            have M4 := Lib.hid (M3.out.below b14 M3.out.lt)
            clear b14
            refine hK _ _ ?_
            clear hK K
            refine any_one (i := 13) (by kernel_rfl) ?_
            refine wpOp_step rfl (fun K hK => ?_)
            go_simp
            refine (Hf4.out _ _ M4.out).mono ?_
            rintro e w15 ⟨rfl, b15⟩
            have G5 := Lib.hid (G4.out.below b15)
            have M5 := Lib.hid (M4.out.below b15 M4.out.lt)
            clear b15
            refine hK _ _ ?_
            clear hK K
            refine any_take (i := 14) (d := 48) (v := ?v13) rfl rfl (by kernel_rfl) (by kernel_rfl) (by kernel_rfl) (fun _ _ _ h => h) (Or.inl ⟨by rfl, ?y13⟩) ?r13
            case y13 => (intro w; go_simp; try with_reducible rfl)
            simp only [List.setIfInBounds_toArray, List.set_cons_zero, List.set_cons_succ]
            refine any_take (i := 15) (d := 49) (v := ?v14) rfl rfl (by kernel_rfl) (by kernel_rfl) (by kernel_rfl) (fun _ _ _ h => h) (Or.inl ⟨by rfl, ?y14⟩) ?r14
            case y14 => (intro w; go_simp; try with_reducible rfl)
            simp only [List.setIfInBounds_toArray, List.set_cons_zero, List.set_cons_succ]
            refine any_take (i := 16) (d := 4) (v := ?v15) rfl rfl (by kernel_rfl) (by kernel_rfl) (by kernel_rfl) (fun _ _ _ h => h) (Or.inl ⟨by rfl, ?y15⟩) ?r15
            case y15 => (intro w; go_simp; try with_reducible rfl)
            simp only [List.setIfInBounds_toArray, List.set_cons_zero, List.set_cons_succ]
            refine wpAny_done (by kernel_rfl) ?_ _
            go_wp2_with fail
            go_ret
            exact ⟨rfl, G5.out.2.2.2⟩
        ·
          refine wpOp_step rfl (fun K hK => ?_)
          go_simp
          have G2 := Lib.hid (G1.out.alloc (.cells Z 5))
          have M2 := Lib.hid (Blk.new (w := w11) (t := 5) HZ.out rfl)
          refine hK _ _ ?_
          clear hK K
          refine any_one (i := 7) (by kernel_rfl) ?_
          refine wpOp_step rfl (fun K hK => ?_)
          go_simp
          refine (Hf2.out _ G2.out.2.1).mono ?_
          rintro e w13 ⟨rfl, b13⟩
          have G3 := Lib.hid (G2.out.below b13)
          have M3 := Lib.hid (M2.out.below b13 M2.out.lt)
          clear b13
          refine hK _ _ ?_
          clear hK K
          refine any_take (i := 8) (d := 42) (v := ?v16) rfl rfl (by kernel_rfl) (by kernel_rfl) (by kernel_rfl) (fun _ _ _ h => h) (Or.inl ⟨by rfl, ?y16⟩) ?r16
          case y16 => (intro w; go_simp; try with_reducible rfl)
          simp only [List.setIfInBounds_toArray, List.set_cons_zero, List.set_cons_succ]
          refine any_one (i := 10) (by kernel_rfl) ?_
          refine wpOp_step rfl (fun K hK => ?_)
          go_simp
          refine (Hf3.out _ _ G3.out.2.2.1).mono ?_
          rintro e w14 ⟨rfl, b14⟩
          have G4 := Lib.hid (G3.out.below b14)
          have M4 := Lib.hid (M3.out.below b14 M3.out.lt)
          clear b14
          refine hK _ _ ?_
          clear hK K
          refine any_one (i := 13) (by kernel_rfl) ?_
          refine wpOp_step rfl (fun K hK => ?_)
          go_simp
          refine (Hf4.out _ _ M4.out).mono ?_
          rintro e w15 ⟨rfl, b15⟩
          have G5 := Lib.hid (G4.out.below b15)
          have M5 := Lib.hid (M4.out.below b15 M4.out.lt)
          clear b15
          refine hK _ _ ?_
          clear hK K
          refine any_take (i := 14) (d := 48) (v := ?v17) rfl rfl (by kernel_rfl) (by kernel_rfl) (by kernel_rfl) (fun _ _ _ h => h) (Or.inl ⟨by rfl, ?y17⟩) ?r17
          case y17 => (intro w; go_simp; try with_reducible rfl)
          simp only [List.setIfInBounds_toArray, List.set_cons_zero, List.set_cons_succ]
          refine any_take (i := 15) (d := 49) (v := ?v18) rfl rfl (by kernel_rfl) (by kernel_rfl) (by kernel_rfl) (fun _ _ _ h => h) (Or.inl ⟨by rfl, ?y18⟩) ?r18
          case y18 => (intro w; go_simp; try with_reducible rfl)
          simp only [List.setIfInBounds_toArray, List.set_cons_zero, List.set_cons_succ]
          refine any_take (i := 16) (d := 4) (v := ?v19) rfl rfl (by kernel_rfl) (by kernel_rfl) (by kernel_rfl) (fun _ _ _ h => h) (Or.inl ⟨by rfl, ?y19⟩) ?r19
          case y19 => (intro w; go_simp; try with_reducible rfl)
          simp only [List.setIfInBounds_toArray, List.set_cons_zero, List.set_cons_succ]
          refine wpAny_done (by kernel_rfl) ?_ _
          go_wp2_with fail
          go_ret
          exact ⟨rfl, G5.out.2.2.2⟩
      ·
        refine wpOp_step rfl (fun K hK => ?_)
        go_simp
        have G1 := Lib.hid (G0.out.alloc (.cells Z 5))
        have M1 := Lib.hid (Blk.new (w := wr.drew) (t := 5) HZ.out rfl)
        refine hK _ _ ?_
        clear hK K
        refine any_one (i := 3) (by kernel_rfl) ?_
        refine wpOp_step rfl (fun K hK => ?_)
        go_simp
        refine (Hf1.out _ G1.out.1).mono ?_
        rintro e w12 ⟨rfl, b12⟩
        have G2 := Lib.hid (G1.out.below b12)
        have M2 := Lib.hid (M1.out.below b12 M1.out.lt)
        clear b12
        refine hK _ _ ?_
        clear hK K
        refine any_one (i := 7) (by kernel_rfl) ?_
        refine wpOp_step rfl (fun K hK => ?_)
        go_simp
        refine (Hf2.out _ G2.out.2.1).mono ?_
        rintro e w13 ⟨rfl, b13⟩
        have G3 := Lib.hid (G2.out.below b13)
        have M3 := Lib.hid (M2.out.below b13 M2.out.lt)
        clear b13
        refine hK _ _ ?_
        clear hK K
        refine any_take (i := 8) (d := 42) (v := ?v20) rfl rfl (by kernel_rfl) (by kernel_rfl) (by kernel_rfl) (fun _ _ _ h => h) (Or.inl ⟨by rfl, ?y20⟩) ?r20
        case y20 => (intro w; go_simp; try with_reducible rfl)
        simp only [List.setIfInBounds_toArray, List.set_cons_zero, List.set_cons_succ]
        refine any_one (i := 10) (by kernel_rfl) ?_
        refine wpOp_step rfl (fun K hK => ?_)
        go_simp
        refine (Hf3.out _ _ G3.out.2.2.1).mono ?_
        rintro e w14 ⟨rfl, b14⟩
        have G4 := Lib.hid (G3.out.below b14)
        have M4 := Lib.hid (M3.out.below b14 M3.out.lt)
        clear b14
        refine hK _ _ ?_
        clear hK K
        refine any_one (i := 13) (by kernel_rfl) ?_
        refine wpOp_step rfl (fun K hK => ?_)
        go_simp
        refine (Hf4.out _ _ M4.out).mono ?_
        rintro e w15 ⟨rfl, b15⟩
        have G5 := Lib.hid (G4.out.below b15)
        have M5 := Lib.hid (M4.out.below b15 M4.out.lt)
        clear b15
        refine hK _ _ ?_
        clear hK K
        refine any_take (i := 14) (d := 48) (v := ?v21) rfl rfl (by kernel_rfl) (by kernel_rfl) (by kernel_rfl) (fun _ _ _ h => h) (Or.inl ⟨by rfl, ?y21⟩) ?r21
        case y21 => (intro w; go_simp; try with_reducible rfl)
        simp only [List.setIfInBounds_toArray, List.set_cons_zero, List.set_cons_succ]
        refine any_take (i := 15) (d := 49) (v := ?v22) rfl rfl (by kernel_rfl) (by kernel_rfl) (by kernel_rfl) (fun _ _ _ h => h) (Or.inl ⟨by rfl, ?y22⟩) ?r22
        case y22 => (intro w; go_simp; try with_reducible rfl)
        simp only [List.setIfInBounds_toArray, List.set_cons_zero, List.set_cons_succ]
        refine any_take (i := 16) (d := 4) (v := ?v23) rfl rfl (by kernel_rfl) (by kernel_rfl) (by kernel_rfl) (fun _ _ _ h => h) (Or.inl ⟨by rfl, ?y23⟩) ?r23
        case y23 => (intro w; go_simp; try with_reducible rfl)
        simp only [List.setIfInBounds_toArray, List.set_cons_zero, List.set_cons_succ]
        refine wpAny_done (by kernel_rfl) ?_ _
        go_wp2_with fail
        go_ret
        exact ⟨rfl, G5.out.2.2.2⟩

end Go.Proofs.Ytdfphefhabgjhaa.sumXor
