/-
  For all lists of byte slices l (40 at most are looked at) and two places in it: as long as the book that noted them tells of no clash, two of them have the same digest just if they are the same; InkUnlike returns true; no condition.
-/
import Derived.Test.YtamfjnomkefddaaOpen
import Derived.Test.YtamfjnomkefddaaLists
import Derived.Test.YtamfjnomkefddaaBks
import Derived.Test.YtamfjnomkefddaaBring
import Derived.Test.YtamfjnomkefddaaAnyOrderH
import Derived.Test.YtamfjnomkefddaaEq
import Derived.Deep.RegionHeld3
import Derived.Deep.RegionWith
import Derived.Deep.DeepCutAuto
namespace Go.Proofs.Ytamfjnomkefddaa.inkUnlike
open Go.ChangeShapes Go.WideShapes Go.ChangeAt Go.RowKit
set_option linter.unusedVariables false

set_option maxRecDepth 100000 in
set_option maxHeartbeats 6400000 in
theorem walk (Al : Option Addr) (nl cl : Nat) (l : List (List UInt8)) (i : Int) (k : Int) (w : World) (hl : ArgL w Al nl cl l) (hi : (Lit.int .i64 i).wf = true) (hk : (Lit.int .i64 k).wf = true) :
    Calls Try.prog 4 #[.slice Al nl cl, .int .i64 i, .int .i64 k] w fun e w' => e = .returned (.bool true) ∧ Below w.heap.size w w' := by
  have hib := bounds_i64 hi
  have hkb := bounds_i64 hk
  have Hi := Lib.hid (And.intro hib hkb)
  clear hib hkb hi hk
  obtain ⟨hln, hlc, hlm, hlL⟩ := hl
  unfold maxLen at hlm
  have Hl := Lib.hid (And.intro hln (And.intro hlc hlL))
  have hn63 : nl ≤ 9223372036854775807 := by omega
  clear hln hlL
  go_enter Try.func4, Try.ntmps4
  go_wp2_with (go_at_call 26; refine (works3_any _).mono ?_; rintro e w0 ⟨rfl, hb0⟩)
  have Hb0 := Lib.hid hb0
  clear hb0
  refine (bnew_any _).mono ?_
  rintro e w1 ⟨S1, g, rfl, hS1, hk1, hb1⟩
  have hk0 : BkS w w1 g (runL (l.take 0)) [] := bks_new Hb0.out hS1 hk1 hb1
  have H1 := Lib.hid hk0
  clear hS1 hk1 hb1 hk0
  go_wp2_with fail
  go_loopw [8] (fun v wr => ∃ j : Nat, j ≤ nl ∧ j ≤ 40 ∧ v = .int .i64 j ∧ BkS w wr g (runL (l.take j)) []) (fun v _ => 40 - (intOf v).toNat)
  case atStart => exact ⟨0, Nat.zero_le _, by omega, rfl, H1.out⟩
  case round =>
    obtain ⟨j, hj, hj40, rfl, hbk⟩ := hrel
    have hi0 : (0 : Int) ≤ j := by omega
    have hi40 : (j : Int) ≤ 40 := by omega
    have hrl := runL_len (l.take j)
    rw [List.length_take] at hrl
    by_cases hin : j < nl ∧ j < 40
    · obtain ⟨hlt, hl4⟩ := hin
      have hi1 : (j : Int) < nl := by omega
      have hi2 : (j : Int) < 40 := by omega
      have hjl : j < l.length := by rw [Hl.out.1]; exact hlt
      obtain ⟨b, off, Aj, cj, rfl, hb, hcell, hlx, hcx, hBx⟩ := Hl.out.2.2.at_ hjl
      have hcw := (hbk.bel.cell hb).trans hcell
      have hsucc := runL_succ l j hjl
      obtain ⟨x, hx⟩ : ∃ x, l[j] = x := ⟨_, rfl⟩
      rw [hx] at hcw hlx hBx hsucc
      obtain ⟨nx, hnx⟩ : ∃ nx, x.length = nx := ⟨_, rfl⟩
      rw [hnx] at hcw hlx
      have hof := bks_of hbk (by omega) (by omega) Aj nx cj x hBx hnx hlx hcx
      rw [← hsucc] at hof
      have Hof := Lib.hid hof
      clear hof hsucc hx hbk hBx hcell hnx hlx hrl
      go_wp2_with (go_at_call 16; refine Hof.out.mono ?_; rintro e w' ⟨rfl, hk'⟩)
      go_roundw
      case rel => exact ⟨j + 1, by omega, by omega, by go_num, hk'⟩
      case measure => simp [intOf]; omega
    · have hM3 : (j = nl ∧ j ≤ 40) ∨ (j = 40 ∧ j < nl) := by omega
      have hmin : ∀ ts t w, (Builtin.min_ ts t #[.int .i64 (nl : Int), .int .i64 40]).run Try.prog w = .ok (.int .i64 (j : Int)) w := fun ts t w => by
        rw [run_min_int2]
        congr 2
        split <;> omega
      have hlen : (l.take j).length = j := by rw [List.length_take, Hl.out.1]; omega
      have Hm := Lib.hid (And.intro (runL_good (l.take j)) (And.intro (runL_mem (l.take j)) (And.intro hrl (And.intro hM3 hlen))))
      obtain ⟨s, hs⟩ : ∃ s, runL (l.take j) = s := ⟨_, rfl⟩
      rw [hs] at hbk Hm
      have Hs := Lib.hid hs
      have Hbk := Lib.hid hbk
      clear hs hrl hlen hbk hin
      by_cases hlt : j < nl
      · have hi1 : (j : Int) < nl := by omega
        have hi2 : ¬ (j : Int) < 40 := by omega
        rcases Nat.eq_zero_or_pos nl with h0 | h0
        · first
          | (exfalso; omega)
          | (have hz : ((nl : Int) == 0) = true := by simp [h0]
             go_wp2
             go_ret
             exact ⟨rfl, Hbk.out.bel⟩)
        have hz : ((nl : Int) == 0) = false := by simp; omega
        have hcl := bks_clash Hbk.out
        cases hc : s.2.1 with
        | true =>
          rw [hc] at hcl
          have Hcl := Lib.hid hcl
          clear hcl hc
          go_wp2_with (go_at_call 24; refine Hcl.out.mono ?_; rintro e w' ⟨rfl, rfl⟩)
          go_ret
          exact ⟨rfl, Hbk.out.bel⟩
        | false =>
          rw [hc] at hcl
          have Hcl := Lib.hid hcl
          have Hc := Lib.hid hc
          clear hcl hc
          have hjp : (0 : Int) < j := by have := Hm.out.2.2.2.1; omega
          have hbri := fun w => bring_any i j w hjp (by omega) Hi.out.1.1 Hi.out.1.2
          have hbrk := fun w => bring_any k j w hjp (by omega) Hi.out.2.1 Hi.out.2.2
          have Hbri := Lib.hid hbri
          have Hbrk := Lib.hid hbrk
          clear hbri hbrk
          go_wp2_with (first | (go_at_call 24; refine Hcl.out.mono ?_; rintro e w' ⟨rfl, rfl⟩))
          refine (Hbri.out _).mono ?_
          rintro e wA ⟨r1, hr1, rfl, rfl⟩
          go_wp2_with fail
          refine (Hbrk.out _).mono ?_
          rintro e wB ⟨r2, hr2, rfl, rfl⟩
          clear Hbri Hbrk Hcl
          have hq1 : r1 < l.length := by have := Hl.out.1; omega
          have hq2 : r2 < l.length := by have := Hl.out.1; omega
          obtain ⟨b, off, A1, c1, rfl, hb, hcell1, hl1, hc1, hB1⟩ := Hl.out.2.2.at_ hq1
          obtain ⟨b', off', A2, c2, eb, hb', hcell2, hl2, hc2, hB2⟩ := Hl.out.2.2.at_ hq2
          cases eb
          obtain ⟨x1, hx1⟩ : ∃ x, l[r1] = x := ⟨_, rfl⟩
          obtain ⟨x2, hx2⟩ : ∃ x, l[r2] = x := ⟨_, rfl⟩
          have hin1 : x1 ∈ l.take j := by rw [← hx1]; exact List.mem_take_iff_getElem.2 ⟨r1, by omega, rfl⟩
          have hin2 : x2 ∈ l.take j := by rw [← hx2]; exact List.mem_take_iff_getElem.2 ⟨r2, by omega, rfl⟩
          rw [hx1] at hcell1 hl1 hB1
          rw [hx2] at hcell2 hl2 hB2
          obtain ⟨n1, hn1⟩ : ∃ n, x1.length = n := ⟨_, rfl⟩
          obtain ⟨n2, hn2⟩ : ∃ n, x2.length = n := ⟨_, rfl⟩
          rw [hn1] at hcell1 hl1
          rw [hn2] at hcell2 hl2
          obtain ⟨D1, hDa, hDb, hDc⟩ := dig_cells x1
          obtain ⟨D2, hDd, hDe, hDf⟩ := dig_cells x2
          have HD1 := Lib.hid (And.intro hDa (And.intro hDb hDc))
          have HD2 := Lib.hid (And.intro hDd (And.intro hDe hDf))
          have g10 : (0 : Int) ≤ r1 := by omega
          have g20 : (0 : Int) ≤ r2 := by omega
          have g11 : (r1 : Int) < nl := by omega
          have g21 : (r2 : Int) < nl := by omega
          have cw1 := (Hbk.out.bel.cell hb).trans hcell1
          have hof := bks_of Hbk.out (by have := Hm.out.2.2.1; omega) (by have := Hm.out.2.2.1; omega) A1 n1 c1 x1 hB1 hn1 hl1 hc1
          rw [hDb] at hof
          have Hof := Lib.hid hof
          have Hin := Lib.hid (And.intro hin1 hin2)
          have HB := Lib.hid (And.intro hB1 (And.intro hB2 (And.intro hn1 (And.intro hn2 (And.intro hl1 (And.intro hl2 (And.intro hc1 hc2)))))))
          have Hb := Lib.hid (And.intro hb (And.intro hcell1 hcell2))
          clear hof hx1 hx2 hq1 hq2 hDa hDb hDc hDd hDe hDf hin1 hin2 hB1 hB2 hn1 hn2 hl1 hl2 hc1 hc2 hb hb' hcell1 hcell2
          go_wp2_with fail
          refine Hof.out.mono ?_
          rintro e w3 ⟨rfl, hk3⟩
          clear Hof cw1
          obtain ⟨wS, hwS, hthi, hdS, hbS, hzS⟩ := dig_local w3 D1 HD1.out.1
          have HwS := Lib.hid hwS
          have Hthi := Lib.hid hthi
          have Hk3 := Lib.hid (hk3.newD hbS hdS)
          clear hk3 hwS hthi hdS hbS hzS
          have hs1 := stepL_len s x1
          have cw2 := (Hk3.out.bel.cell Hb.out.1).trans Hb.out.2.2
          have hof := bks_of Hk3.out (by have := Hm.out.2.2.1; omega) (by have := Hm.out.2.2.1; omega) A2 n2 c2 x2 HB.out.2.1 HB.out.2.2.2.1 HB.out.2.2.2.2.2.1 HB.out.2.2.2.2.2.2.2
          rw [HD2.out.2.1] at hof
          have Hof := Lib.hid hof
          clear hof hs1
          go_wp2_with (refine wpList_store_mid rfl 28 _ _ rfl w3.heap.size 0 D1.toArray rfl rfl Hthi.out.1 Hthi.out.2 HD1.out.2.2 ?_; simp only [Act.put]; refine cast (congrArg (fun z => wpList _ _ _ _ _ z) HwS.out.symm) ?_)
          refine Hof.out.mono ?_
          rintro e w4 ⟨rfl, hk4⟩
          clear Hof cw2
          obtain ⟨wT, hwT, hthi, hdS, hbS, hzS⟩ := dig_local w4 D2 HD2.out.1
          have HwT := Lib.hid hwT
          have HthiT := Lib.hid hthi
          have Hk4 := Lib.hid (hk4.newD hbS hdS)
          clear hk4 hwT hthi hdS hbS hzS
          by_cases hx6 : x1.length ≤ 65536
          rotate_left
          · have e5 : ofE x1 = 5 := if_neg hx6
            rw [e5]
            go_wp2_with (refine wpList_store_mid rfl 28 _ _ rfl w4.heap.size 0 D2.toArray rfl rfl HthiT.out.1 HthiT.out.2 HD2.out.2.2 ?_; simp only [Act.put]; refine cast (congrArg (fun z => wpList _ _ _ _ _ z) HwT.out.symm) ?_)
            go_quiet (fail)
            go_wp2
            go_ret
            exact ⟨rfl, below_drewN Hk4.out.bel _⟩
          have e0 : ofE x1 = 0 := if_pos hx6
          by_cases hy6 : x2.length ≤ 65536
          rotate_left
          · have e5 : ofE x2 = 5 := if_neg hy6
            rw [e5, e0]
            go_wp2_with (refine wpList_store_mid rfl 28 _ _ rfl w4.heap.size 0 D2.toArray rfl rfl HthiT.out.1 HthiT.out.2 HD2.out.2.2 ?_; simp only [Act.put]; refine cast (congrArg (fun z => wpList _ _ _ _ _ z) HwT.out.symm) ?_)
            go_quiet (fail)
            go_wp2
            go_ret
            exact ⟨rfl, below_drewN Hk4.out.bel _⟩
          have f0 : ofE x2 = 0 := if_pos hy6
          have heq12 : (digest x1 == digest x2) = (x1 == x2) := by
            by_cases h12 : x1 = x2
            · rw [h12]; simp
            · have : digest x1 ≠ digest x2 := fun e => h12 (Hm.out.1 Hc.out x1 ((Hm.out.2.1 x1).2 ⟨Hin.out.1, hx6⟩) x2 ((Hm.out.2.1 x2).2 ⟨Hin.out.2, hy6⟩) e)
              rw [beq_eq_false_iff_ne.2 this, beq_eq_false_iff_ne.2 h12]
          have dx : ofD x1 = digest x1 := if_pos hx6
          have dy : ofD x2 = digest x2 := if_pos hy6
          have hqd := fun w => eq_digests w (digest x1) (digest x2) (dlen x1) (dlen x2)
          rw [← dx, HD1.out.2.1, ← dy, HD2.out.2.1, dx, dy, heq12] at hqd
          have q1 := (Hk4.out.dig (d := (w3.heap.size, D1)) (by simp)).range
          have q2 := (Hk4.out.dig (d := (w4.heap.size, D2)) (by simp)).range
          have bT := Hk4.out.bel
          have ce1 := (bT.cell Hb.out.1).trans Hb.out.2.1
          have ce2 := (bT.cell Hb.out.1).trans Hb.out.2.2
          have hqb := eqBytes A1 A2 c1 c2 n1 n2 x1 x2 wT.drew (HB.out.1.after bT.drew) (HB.out.2.1.after bT.drew) HB.out.2.2.1 HB.out.2.2.2.1 (by have := HB.out; omega) (by have := HB.out; omega)
          obtain ⟨z, hz12⟩ : ∃ z, (x1 == x2) = z := ⟨_, rfl⟩
          rw [hz12] at hqd hqb
          have Hqb := Lib.hid hqb
          have hid1 : (Try.prog.info? 28).map (·.size) = some D1.length := by rw [HD1.out.1]; exact info32b
          have hid2 : (Try.prog.info? 28).map (·.size) = some D2.length := by rw [HD2.out.1]; exact info32b
          rw [e0, f0]
          clear e0 f0 dx dy heq12 hz12 hqb
          go_wp2_with (refine wpList_store_mid rfl 28 _ _ rfl w4.heap.size 0 D2.toArray rfl rfl HthiT.out.1 HthiT.out.2 HD2.out.2.2 ?_; simp only [Act.put]; refine cast (congrArg (fun z => wpList _ _ _ _ _ z) HwT.out.symm) ?_)
          have Q0 : wT.drew.rangeAt w3.heap.size 0 D1 ∧ wT.drew.rangeAt w4.heap.size 0 D2 ∧ wT.drew.cell? ⟨b, off + r1, none⟩ = some (.slice A1 n1 c1) ∧ wT.drew.cell? ⟨b, off + r2, none⟩ = some (.slice A2 n2 c2) := ⟨q1, q2, ce1, ce2⟩
          refine wp_region_held_drew (S := fun W' => W'.rangeAt w3.heap.size 0 D1 ∧ W'.rangeAt w4.heap.size 0 D2 ∧ W'.cell? ⟨b, off + r1, none⟩ = some (.slice A1 n1 c1) ∧ W'.cell? ⟨b, off + r2, none⟩ = some (.slice A2 n2 c2)) (by kernel_rfl) Q0 (fun _ => ?_)
          refine anyH_take (i := 0) (d := 67) (v := ?v0) rfl rfl (by kernel_rfl) (by kernel_rfl) (by kernel_rfl) (fun _ _ _ h => h) (Or.inl ⟨by rfl, ?y0⟩) Q0 ?r0
          case y0 => (intro w; go_simp; try with_reducible rfl)
          simp only [List.setIfInBounds_toArray, List.set_cons_zero, List.set_cons_succ]
          refine anyH_take (i := 1) (d := 68) (v := ?v1) rfl rfl (by kernel_rfl) (by kernel_rfl) (by kernel_rfl) (fun _ _ _ h => h) (Or.inl ⟨by rfl, ?y1⟩) Q0 ?r1
          case y1 => (intro w; go_simp; try with_reducible rfl)
          simp only [List.setIfInBounds_toArray, List.set_cons_zero, List.set_cons_succ]
          refine anyH_take (i := 2) (d := 69) (v := ?v2) rfl rfl (by kernel_rfl) (by kernel_rfl) (by kernel_rfl) (fun _ _ _ h => h) (Or.inl ⟨by rfl, ?y2⟩) Q0 ?r2
          case y2 => (intro w; go_simp; try with_reducible rfl)
          simp only [List.setIfInBounds_toArray, List.set_cons_zero, List.set_cons_succ]
          refine anyH_take (i := 3) (d := 70) (v := ?v3) rfl rfl (by kernel_rfl) (by kernel_rfl) (by kernel_rfl) (fun _ _ _ h => h) (Or.inl ⟨by rfl, ?y3⟩) Q0 ?r3
          case y3 => (intro w; go_simp; try with_reducible rfl)
          simp only [List.setIfInBounds_toArray, List.set_cons_zero, List.set_cons_succ]
          refine anyH_take (i := 4) (d := 71) (v := ?v4) rfl rfl (by kernel_rfl) (by kernel_rfl) (by kernel_rfl) (fun _ _ _ h => h) (Or.inl ⟨by rfl, ?y4⟩) Q0 ?r4
          case y4 => (intro w; go_simp; try with_reducible rfl)
          simp only [List.setIfInBounds_toArray, List.set_cons_zero, List.set_cons_succ]
          refine anyH_take (i := 5) (d := 72) (v := ?v5) rfl rfl (by kernel_rfl) (by kernel_rfl) (by kernel_rfl) (fun _ _ _ h => h) (Or.inl ⟨by rfl, ?y5⟩) Q0 ?r5
          case y5 => (intro w; go_simp; try with_reducible rfl)
          simp only [List.setIfInBounds_toArray, List.set_cons_zero, List.set_cons_succ]
          refine anyH_take (i := 6) (d := 73) (v := ?v6) rfl rfl (by kernel_rfl) (by kernel_rfl) (by kernel_rfl) (fun _ _ _ h => h) (Or.inl ⟨by rfl, ?y6⟩) Q0 ?r6
          case y6 => (intro w; go_simp; try with_reducible rfl)
          simp only [List.setIfInBounds_toArray, List.set_cons_zero, List.set_cons_succ]
          refine anyH_load (i := 7) (d := 74) rfl rfl (by kernel_rfl) (by kernel_rfl) (by kernel_rfl) (by rfl) 28 _ rfl w3.heap.size 0 rfl D1 _ (fun _ h => h.1) Try.underlying28 rfl hid1 (fun _ _ _ h => h) Q0 ?_
          simp only [List.setIfInBounds_toArray, List.set_cons_zero, List.set_cons_succ]
          refine anyH_load (i := 8) (d := 75) rfl rfl (by kernel_rfl) (by kernel_rfl) (by kernel_rfl) (by rfl) 28 _ rfl w4.heap.size 0 rfl D2 _ (fun _ h => h.2.1) Try.underlying28 rfl hid2 (fun _ _ _ h => h) Q0 ?_
          simp only [List.setIfInBounds_toArray, List.set_cons_zero, List.set_cons_succ]
          refine anyH_take (i := 9) (d := 76) (v := ?v9) rfl rfl (by kernel_rfl) (by kernel_rfl) (by kernel_rfl) (fun _ _ _ h => h) (Or.inl ⟨by rfl, ?y9⟩) Q0 ?r9
          case y9 => (intro w; go_simp; try with_reducible rfl)
          simp only [List.setIfInBounds_toArray, List.set_cons_zero, List.set_cons_succ]
          refine anyH_take (i := 10) (d := 77) (v := ?v10) rfl rfl (by kernel_rfl) (by kernel_rfl) (by kernel_rfl) (fun _ _ _ h => h) (Or.inl ⟨by rfl, ?y10⟩) Q0 ?r10
          case y10 => (intro w; go_simp; try with_reducible rfl)
          simp only [List.setIfInBounds_toArray, List.set_cons_zero, List.set_cons_succ]
          refine anyH_take (i := 11) (d := 78) (v := ?v11) rfl rfl (by kernel_rfl) (by kernel_rfl) (by kernel_rfl) (fun _ _ _ h => h) (Or.inl ⟨by rfl, ?y11⟩) Q0 ?r11
          case y11 => (intro w; go_simp; try with_reducible rfl)
          simp only [List.setIfInBounds_toArray, List.set_cons_zero, List.set_cons_succ]
          refine anyH_take (i := 12) (d := 79) (v := ?v12) rfl rfl (by kernel_rfl) (by kernel_rfl) (by kernel_rfl) (fun _ _ _ h => h) (Or.inl ⟨by rfl, ?y12⟩) Q0 ?r12
          case y12 => (intro w; go_simp; try with_reducible rfl)
          simp only [List.setIfInBounds_toArray, List.set_cons_zero, List.set_cons_succ]
          refine wpAnyH_take' (i := 13) (d := 80) (v := ?v13) rfl rfl (by kernel_rfl) (by kernel_rfl) (by kernel_rfl) (fun _ _ _ h => h) (Or.inl ⟨by rfl, ?y13⟩) Q0 ?r13
          case y13 => (intro w hSw; go_split_ands; go_simp; try with_reducible rfl)
          simp only [List.setIfInBounds_toArray, List.set_cons_zero, List.set_cons_succ]
          refine anyH_take (i := 14) (d := 81) (v := ?v14) rfl rfl (by kernel_rfl) (by kernel_rfl) (by kernel_rfl) (fun _ _ _ h => h) (Or.inl ⟨by rfl, ?y14⟩) Q0 ?r14
          case y14 => (intro w; go_simp; try with_reducible rfl)
          simp only [List.setIfInBounds_toArray, List.set_cons_zero, List.set_cons_succ]
          refine anyH_take (i := 15) (d := 82) (v := ?v15) rfl rfl (by kernel_rfl) (by kernel_rfl) (by kernel_rfl) (fun _ _ _ h => h) (Or.inl ⟨by rfl, ?y15⟩) Q0 ?r15
          case y15 => (intro w; go_simp; try with_reducible rfl)
          simp only [List.setIfInBounds_toArray, List.set_cons_zero, List.set_cons_succ]
          refine anyH_take (i := 16) (d := 83) (v := ?v16) rfl rfl (by kernel_rfl) (by kernel_rfl) (by kernel_rfl) (fun _ _ _ h => h) (Or.inl ⟨by rfl, ?y16⟩) Q0 ?r16
          case y16 => (intro w; go_simp; try with_reducible rfl)
          simp only [List.setIfInBounds_toArray, List.set_cons_zero, List.set_cons_succ]
          refine wpAnyH_take' (i := 17) (d := 84) (v := ?v17) rfl rfl (by kernel_rfl) (by kernel_rfl) (by kernel_rfl) (fun _ _ _ h => h) (Or.inl ⟨by rfl, ?y17⟩) Q0 ?r17
          case y17 => (intro w hSw; go_split_ands; go_simp; try with_reducible rfl)
          simp only [List.setIfInBounds_toArray, List.set_cons_zero, List.set_cons_succ]
          refine anyH_one (i := 18) (by kernel_rfl) ?_
          refine wpOp_step rfl (fun K hK => ?_)
          go_simp
          refine Hqb.out.mono ?_
          rintro e w9 ⟨rfl, hb9⟩
          have Q1 : w9.rangeAt w3.heap.size 0 D1 ∧ w9.rangeAt w4.heap.size 0 D2 ∧ w9.cell? ⟨b, off + r1, none⟩ = some (.slice A1 n1 c1) ∧ w9.cell? ⟨b, off + r2, none⟩ = some (.slice A2 n2 c2) := ⟨range_below hb9 Q0.1, range_below hb9 Q0.2.1, (hb9.cell (World.block_lt_of_cell? _ _ Q0.2.2.1)).trans Q0.2.2.1, (hb9.cell (World.block_lt_of_cell? _ _ Q0.2.2.2)).trans Q0.2.2.2⟩
          refine hK _ _ ⟨Q1, ?_⟩
          clear hK K
          refine anyH_take (i := 19) (d := 86) (v := ?v19) rfl rfl (by kernel_rfl) (by kernel_rfl) (by kernel_rfl) (fun _ _ _ h => h) (Or.inl ⟨by rfl, ?y19⟩) Q1 ?r19
          case y19 => (intro w; go_simp; try with_reducible rfl)
          simp only [List.setIfInBounds_toArray, List.set_cons_zero, List.set_cons_succ]
          refine anyH_take (i := 20) (d := 87) (v := ?v20) rfl rfl (by kernel_rfl) (by kernel_rfl) (by kernel_rfl) (fun _ _ _ h => h) (Or.inl ⟨by rfl, ?y20⟩) Q1 ?r20
          case y20 => (intro w; go_simp; try with_reducible rfl)
          simp only [List.setIfInBounds_toArray, List.set_cons_zero, List.set_cons_succ]
          refine anyH_take (i := 21) (d := 6) (v := ?v21) rfl rfl (by kernel_rfl) (by kernel_rfl) (by kernel_rfl) (fun _ _ _ h => h) (Or.inl ⟨by rfl, ?y21⟩) Q1 ?r21
          case y21 => (intro w; go_simp; try with_reducible rfl)
          simp only [List.setIfInBounds_toArray, List.set_cons_zero, List.set_cons_succ]
          refine wpAnyH_done (by kernel_rfl) ?_ _
          go_wp2
          go_ret
          exact ⟨rfl, bT.drew.trans (hb9.mono bT.size)⟩
      · have hi1 : ¬ (j : Int) < nl := by omega
        rcases Nat.eq_zero_or_pos nl with h0 | h0
        · first
          | (exfalso; omega)
          | (have hz : ((nl : Int) == 0) = true := by simp [h0]
             go_wp2
             go_ret
             exact ⟨rfl, Hbk.out.bel⟩)
        have hz : ((nl : Int) == 0) = false := by simp; omega
        have hcl := bks_clash Hbk.out
        cases hc : s.2.1 with
        | true =>
          rw [hc] at hcl
          have Hcl := Lib.hid hcl
          clear hcl hc
          go_wp2_with (go_at_call 24; refine Hcl.out.mono ?_; rintro e w' ⟨rfl, rfl⟩)
          go_ret
          exact ⟨rfl, Hbk.out.bel⟩
        | false =>
          rw [hc] at hcl
          have Hcl := Lib.hid hcl
          have Hc := Lib.hid hc
          clear hcl hc
          have hjp : (0 : Int) < j := by have := Hm.out.2.2.2.1; omega
          have hbri := fun w => bring_any i j w hjp (by omega) Hi.out.1.1 Hi.out.1.2
          have hbrk := fun w => bring_any k j w hjp (by omega) Hi.out.2.1 Hi.out.2.2
          have Hbri := Lib.hid hbri
          have Hbrk := Lib.hid hbrk
          clear hbri hbrk
          go_wp2_with (first | (go_at_call 24; refine Hcl.out.mono ?_; rintro e w' ⟨rfl, rfl⟩))
          refine (Hbri.out _).mono ?_
          rintro e wA ⟨r1, hr1, rfl, rfl⟩
          go_wp2_with fail
          refine (Hbrk.out _).mono ?_
          rintro e wB ⟨r2, hr2, rfl, rfl⟩
          clear Hbri Hbrk Hcl
          have hq1 : r1 < l.length := by have := Hl.out.1; omega
          have hq2 : r2 < l.length := by have := Hl.out.1; omega
          obtain ⟨b, off, A1, c1, rfl, hb, hcell1, hl1, hc1, hB1⟩ := Hl.out.2.2.at_ hq1
          obtain ⟨b', off', A2, c2, eb, hb', hcell2, hl2, hc2, hB2⟩ := Hl.out.2.2.at_ hq2
          cases eb
          obtain ⟨x1, hx1⟩ : ∃ x, l[r1] = x := ⟨_, rfl⟩
          obtain ⟨x2, hx2⟩ : ∃ x, l[r2] = x := ⟨_, rfl⟩
          have hin1 : x1 ∈ l.take j := by rw [← hx1]; exact List.mem_take_iff_getElem.2 ⟨r1, by omega, rfl⟩
          have hin2 : x2 ∈ l.take j := by rw [← hx2]; exact List.mem_take_iff_getElem.2 ⟨r2, by omega, rfl⟩
          rw [hx1] at hcell1 hl1 hB1
          rw [hx2] at hcell2 hl2 hB2
          obtain ⟨n1, hn1⟩ : ∃ n, x1.length = n := ⟨_, rfl⟩
          obtain ⟨n2, hn2⟩ : ∃ n, x2.length = n := ⟨_, rfl⟩
          rw [hn1] at hcell1 hl1
          rw [hn2] at hcell2 hl2
          obtain ⟨D1, hDa, hDb, hDc⟩ := dig_cells x1
          obtain ⟨D2, hDd, hDe, hDf⟩ := dig_cells x2
          have HD1 := Lib.hid (And.intro hDa (And.intro hDb hDc))
          have HD2 := Lib.hid (And.intro hDd (And.intro hDe hDf))
          have g10 : (0 : Int) ≤ r1 := by omega
          have g20 : (0 : Int) ≤ r2 := by omega
          have g11 : (r1 : Int) < nl := by omega
          have g21 : (r2 : Int) < nl := by omega
          have cw1 := (Hbk.out.bel.cell hb).trans hcell1
          have hof := bks_of Hbk.out (by have := Hm.out.2.2.1; omega) (by have := Hm.out.2.2.1; omega) A1 n1 c1 x1 hB1 hn1 hl1 hc1
          rw [hDb] at hof
          have Hof := Lib.hid hof
          have Hin := Lib.hid (And.intro hin1 hin2)
          have HB := Lib.hid (And.intro hB1 (And.intro hB2 (And.intro hn1 (And.intro hn2 (And.intro hl1 (And.intro hl2 (And.intro hc1 hc2)))))))
          have Hb := Lib.hid (And.intro hb (And.intro hcell1 hcell2))
          clear hof hx1 hx2 hq1 hq2 hDa hDb hDc hDd hDe hDf hin1 hin2 hB1 hB2 hn1 hn2 hl1 hl2 hc1 hc2 hb hb' hcell1 hcell2
          go_wp2_with fail
          refine Hof.out.mono ?_
          rintro e w3 ⟨rfl, hk3⟩
          clear Hof cw1
          obtain ⟨wS, hwS, hthi, hdS, hbS, hzS⟩ := dig_local w3 D1 HD1.out.1
          have HwS := Lib.hid hwS
          have Hthi := Lib.hid hthi
          have Hk3 := Lib.hid (hk3.newD hbS hdS)
          clear hk3 hwS hthi hdS hbS hzS
          have hs1 := stepL_len s x1
          have cw2 := (Hk3.out.bel.cell Hb.out.1).trans Hb.out.2.2
          have hof := bks_of Hk3.out (by have := Hm.out.2.2.1; omega) (by have := Hm.out.2.2.1; omega) A2 n2 c2 x2 HB.out.2.1 HB.out.2.2.2.1 HB.out.2.2.2.2.2.1 HB.out.2.2.2.2.2.2.2
          rw [HD2.out.2.1] at hof
          have Hof := Lib.hid hof
          clear hof hs1
          go_wp2_with (refine wpList_store_mid rfl 28 _ _ rfl w3.heap.size 0 D1.toArray rfl rfl Hthi.out.1 Hthi.out.2 HD1.out.2.2 ?_; simp only [Act.put]; refine cast (congrArg (fun z => wpList _ _ _ _ _ z) HwS.out.symm) ?_)
          refine Hof.out.mono ?_
          rintro e w4 ⟨rfl, hk4⟩
          clear Hof cw2
          obtain ⟨wT, hwT, hthi, hdS, hbS, hzS⟩ := dig_local w4 D2 HD2.out.1
          have HwT := Lib.hid hwT
          have HthiT := Lib.hid hthi
          have Hk4 := Lib.hid (hk4.newD hbS hdS)
          clear hk4 hwT hthi hdS hbS hzS
          by_cases hx6 : x1.length ≤ 65536
          rotate_left
          · have e5 : ofE x1 = 5 := if_neg hx6
            rw [e5]
            go_wp2_with (refine wpList_store_mid rfl 28 _ _ rfl w4.heap.size 0 D2.toArray rfl rfl HthiT.out.1 HthiT.out.2 HD2.out.2.2 ?_; simp only [Act.put]; refine cast (congrArg (fun z => wpList _ _ _ _ _ z) HwT.out.symm) ?_)
            go_quiet (fail)
            go_wp2
            go_ret
            exact ⟨rfl, below_drewN Hk4.out.bel _⟩
          have e0 : ofE x1 = 0 := if_pos hx6
          by_cases hy6 : x2.length ≤ 65536
          rotate_left
          · have e5 : ofE x2 = 5 := if_neg hy6
            rw [e5, e0]
            go_wp2_with (refine wpList_store_mid rfl 28 _ _ rfl w4.heap.size 0 D2.toArray rfl rfl HthiT.out.1 HthiT.out.2 HD2.out.2.2 ?_; simp only [Act.put]; refine cast (congrArg (fun z => wpList _ _ _ _ _ z) HwT.out.symm) ?_)
            go_quiet (fail)
            go_wp2
            go_ret
            exact ⟨rfl, below_drewN Hk4.out.bel _⟩
          have f0 : ofE x2 = 0 := if_pos hy6
          have heq12 : (digest x1 == digest x2) = (x1 == x2) := by
            by_cases h12 : x1 = x2
            · rw [h12]; simp
            · have : digest x1 ≠ digest x2 := fun e => h12 (Hm.out.1 Hc.out x1 ((Hm.out.2.1 x1).2 ⟨Hin.out.1, hx6⟩) x2 ((Hm.out.2.1 x2).2 ⟨Hin.out.2, hy6⟩) e)
              rw [beq_eq_false_iff_ne.2 this, beq_eq_false_iff_ne.2 h12]
          have dx : ofD x1 = digest x1 := if_pos hx6
          have dy : ofD x2 = digest x2 := if_pos hy6
          have hqd := fun w => eq_digests w (digest x1) (digest x2) (dlen x1) (dlen x2)
          rw [← dx, HD1.out.2.1, ← dy, HD2.out.2.1, dx, dy, heq12] at hqd
          have q1 := (Hk4.out.dig (d := (w3.heap.size, D1)) (by simp)).range
          have q2 := (Hk4.out.dig (d := (w4.heap.size, D2)) (by simp)).range
          have bT := Hk4.out.bel
          have ce1 := (bT.cell Hb.out.1).trans Hb.out.2.1
          have ce2 := (bT.cell Hb.out.1).trans Hb.out.2.2
          have hqb := eqBytes A1 A2 c1 c2 n1 n2 x1 x2 wT.drew (HB.out.1.after bT.drew) (HB.out.2.1.after bT.drew) HB.out.2.2.1 HB.out.2.2.2.1 (by have := HB.out; omega) (by have := HB.out; omega)
          obtain ⟨z, hz12⟩ : ∃ z, (x1 == x2) = z := ⟨_, rfl⟩
          rw [hz12] at hqd hqb
          have Hqb := Lib.hid hqb
          have hid1 : (Try.prog.info? 28).map (·.size) = some D1.length := by rw [HD1.out.1]; exact info32b
          have hid2 : (Try.prog.info? 28).map (·.size) = some D2.length := by rw [HD2.out.1]; exact info32b
          rw [e0, f0]
          clear e0 f0 dx dy heq12 hz12 hqb
          go_wp2_with (refine wpList_store_mid rfl 28 _ _ rfl w4.heap.size 0 D2.toArray rfl rfl HthiT.out.1 HthiT.out.2 HD2.out.2.2 ?_; simp only [Act.put]; refine cast (congrArg (fun z => wpList _ _ _ _ _ z) HwT.out.symm) ?_)
          have Q0 : wT.drew.rangeAt w3.heap.size 0 D1 ∧ wT.drew.rangeAt w4.heap.size 0 D2 ∧ wT.drew.cell? ⟨b, off + r1, none⟩ = some (.slice A1 n1 c1) ∧ wT.drew.cell? ⟨b, off + r2, none⟩ = some (.slice A2 n2 c2) := ⟨q1, q2, ce1, ce2⟩
          refine wp_region_held_drew (S := fun W' => W'.rangeAt w3.heap.size 0 D1 ∧ W'.rangeAt w4.heap.size 0 D2 ∧ W'.cell? ⟨b, off + r1, none⟩ = some (.slice A1 n1 c1) ∧ W'.cell? ⟨b, off + r2, none⟩ = some (.slice A2 n2 c2)) (by kernel_rfl) Q0 (fun _ => ?_)
          refine anyH_take (i := 0) (d := 67) (v := ?vv0) rfl rfl (by kernel_rfl) (by kernel_rfl) (by kernel_rfl) (fun _ _ _ h => h) (Or.inl ⟨by rfl, ?yy0⟩) Q0 ?rr0
          case yy0 => (intro w; go_simp; try with_reducible rfl)
          simp only [List.setIfInBounds_toArray, List.set_cons_zero, List.set_cons_succ]
          refine anyH_take (i := 1) (d := 68) (v := ?vv1) rfl rfl (by kernel_rfl) (by kernel_rfl) (by kernel_rfl) (fun _ _ _ h => h) (Or.inl ⟨by rfl, ?yy1⟩) Q0 ?rr1
          case yy1 => (intro w; go_simp; try with_reducible rfl)
          simp only [List.setIfInBounds_toArray, List.set_cons_zero, List.set_cons_succ]
          refine anyH_take (i := 2) (d := 69) (v := ?vv2) rfl rfl (by kernel_rfl) (by kernel_rfl) (by kernel_rfl) (fun _ _ _ h => h) (Or.inl ⟨by rfl, ?yy2⟩) Q0 ?rr2
          case yy2 => (intro w; go_simp; try with_reducible rfl)
          simp only [List.setIfInBounds_toArray, List.set_cons_zero, List.set_cons_succ]
          refine anyH_take (i := 3) (d := 70) (v := ?vv3) rfl rfl (by kernel_rfl) (by kernel_rfl) (by kernel_rfl) (fun _ _ _ h => h) (Or.inl ⟨by rfl, ?yy3⟩) Q0 ?rr3
          case yy3 => (intro w; go_simp; try with_reducible rfl)
          simp only [List.setIfInBounds_toArray, List.set_cons_zero, List.set_cons_succ]
          refine anyH_take (i := 4) (d := 71) (v := ?vv4) rfl rfl (by kernel_rfl) (by kernel_rfl) (by kernel_rfl) (fun _ _ _ h => h) (Or.inl ⟨by rfl, ?yy4⟩) Q0 ?rr4
          case yy4 => (intro w; go_simp; try with_reducible rfl)
          simp only [List.setIfInBounds_toArray, List.set_cons_zero, List.set_cons_succ]
          refine anyH_take (i := 5) (d := 72) (v := ?vv5) rfl rfl (by kernel_rfl) (by kernel_rfl) (by kernel_rfl) (fun _ _ _ h => h) (Or.inl ⟨by rfl, ?yy5⟩) Q0 ?rr5
          case yy5 => (intro w; go_simp; try with_reducible rfl)
          simp only [List.setIfInBounds_toArray, List.set_cons_zero, List.set_cons_succ]
          refine anyH_take (i := 6) (d := 73) (v := ?vv6) rfl rfl (by kernel_rfl) (by kernel_rfl) (by kernel_rfl) (fun _ _ _ h => h) (Or.inl ⟨by rfl, ?yy6⟩) Q0 ?rr6
          case yy6 => (intro w; go_simp; try with_reducible rfl)
          simp only [List.setIfInBounds_toArray, List.set_cons_zero, List.set_cons_succ]
          refine anyH_load (i := 7) (d := 74) rfl rfl (by kernel_rfl) (by kernel_rfl) (by kernel_rfl) (by rfl) 28 _ rfl w3.heap.size 0 rfl D1 _ (fun _ h => h.1) Try.underlying28 rfl hid1 (fun _ _ _ h => h) Q0 ?_
          simp only [List.setIfInBounds_toArray, List.set_cons_zero, List.set_cons_succ]
          refine anyH_load (i := 8) (d := 75) rfl rfl (by kernel_rfl) (by kernel_rfl) (by kernel_rfl) (by rfl) 28 _ rfl w4.heap.size 0 rfl D2 _ (fun _ h => h.2.1) Try.underlying28 rfl hid2 (fun _ _ _ h => h) Q0 ?_
          simp only [List.setIfInBounds_toArray, List.set_cons_zero, List.set_cons_succ]
          refine anyH_take (i := 9) (d := 76) (v := ?vv9) rfl rfl (by kernel_rfl) (by kernel_rfl) (by kernel_rfl) (fun _ _ _ h => h) (Or.inl ⟨by rfl, ?yy9⟩) Q0 ?rr9
          case yy9 => (intro w; go_simp; try with_reducible rfl)
          simp only [List.setIfInBounds_toArray, List.set_cons_zero, List.set_cons_succ]
          refine anyH_take (i := 10) (d := 77) (v := ?vv10) rfl rfl (by kernel_rfl) (by kernel_rfl) (by kernel_rfl) (fun _ _ _ h => h) (Or.inl ⟨by rfl, ?yy10⟩) Q0 ?rr10
          case yy10 => (intro w; go_simp; try with_reducible rfl)
          simp only [List.setIfInBounds_toArray, List.set_cons_zero, List.set_cons_succ]
          refine anyH_take (i := 11) (d := 78) (v := ?vv11) rfl rfl (by kernel_rfl) (by kernel_rfl) (by kernel_rfl) (fun _ _ _ h => h) (Or.inl ⟨by rfl, ?yy11⟩) Q0 ?rr11
          case yy11 => (intro w; go_simp; try with_reducible rfl)
          simp only [List.setIfInBounds_toArray, List.set_cons_zero, List.set_cons_succ]
          refine anyH_take (i := 12) (d := 79) (v := ?vv12) rfl rfl (by kernel_rfl) (by kernel_rfl) (by kernel_rfl) (fun _ _ _ h => h) (Or.inl ⟨by rfl, ?yy12⟩) Q0 ?rr12
          case yy12 => (intro w; go_simp; try with_reducible rfl)
          simp only [List.setIfInBounds_toArray, List.set_cons_zero, List.set_cons_succ]
          refine wpAnyH_take' (i := 13) (d := 80) (v := ?vv13) rfl rfl (by kernel_rfl) (by kernel_rfl) (by kernel_rfl) (fun _ _ _ h => h) (Or.inl ⟨by rfl, ?yy13⟩) Q0 ?rr13
          case yy13 => (intro w hSw; go_split_ands; go_simp; try with_reducible rfl)
          simp only [List.setIfInBounds_toArray, List.set_cons_zero, List.set_cons_succ]
          refine anyH_take (i := 14) (d := 81) (v := ?vv14) rfl rfl (by kernel_rfl) (by kernel_rfl) (by kernel_rfl) (fun _ _ _ h => h) (Or.inl ⟨by rfl, ?yy14⟩) Q0 ?rr14
          case yy14 => (intro w; go_simp; try with_reducible rfl)
          simp only [List.setIfInBounds_toArray, List.set_cons_zero, List.set_cons_succ]
          refine anyH_take (i := 15) (d := 82) (v := ?vv15) rfl rfl (by kernel_rfl) (by kernel_rfl) (by kernel_rfl) (fun _ _ _ h => h) (Or.inl ⟨by rfl, ?yy15⟩) Q0 ?rr15
          case yy15 => (intro w; go_simp; try with_reducible rfl)
          simp only [List.setIfInBounds_toArray, List.set_cons_zero, List.set_cons_succ]
          refine anyH_take (i := 16) (d := 83) (v := ?vv16) rfl rfl (by kernel_rfl) (by kernel_rfl) (by kernel_rfl) (fun _ _ _ h => h) (Or.inl ⟨by rfl, ?yy16⟩) Q0 ?rr16
          case yy16 => (intro w; go_simp; try with_reducible rfl)
          simp only [List.setIfInBounds_toArray, List.set_cons_zero, List.set_cons_succ]
          refine wpAnyH_take' (i := 17) (d := 84) (v := ?vv17) rfl rfl (by kernel_rfl) (by kernel_rfl) (by kernel_rfl) (fun _ _ _ h => h) (Or.inl ⟨by rfl, ?yy17⟩) Q0 ?rr17
          case yy17 => (intro w hSw; go_split_ands; go_simp; try with_reducible rfl)
          simp only [List.setIfInBounds_toArray, List.set_cons_zero, List.set_cons_succ]
          refine anyH_one (i := 18) (by kernel_rfl) ?_
          refine wpOp_step rfl (fun K hK => ?_)
          go_simp
          refine Hqb.out.mono ?_
          rintro e w9 ⟨rfl, hb9⟩
          have Q1 : w9.rangeAt w3.heap.size 0 D1 ∧ w9.rangeAt w4.heap.size 0 D2 ∧ w9.cell? ⟨b, off + r1, none⟩ = some (.slice A1 n1 c1) ∧ w9.cell? ⟨b, off + r2, none⟩ = some (.slice A2 n2 c2) := ⟨range_below hb9 Q0.1, range_below hb9 Q0.2.1, (hb9.cell (World.block_lt_of_cell? _ _ Q0.2.2.1)).trans Q0.2.2.1, (hb9.cell (World.block_lt_of_cell? _ _ Q0.2.2.2)).trans Q0.2.2.2⟩
          refine hK _ _ ⟨Q1, ?_⟩
          clear hK K
          refine anyH_take (i := 19) (d := 86) (v := ?vv19) rfl rfl (by kernel_rfl) (by kernel_rfl) (by kernel_rfl) (fun _ _ _ h => h) (Or.inl ⟨by rfl, ?yy19⟩) Q1 ?rr19
          case yy19 => (intro w; go_simp; try with_reducible rfl)
          simp only [List.setIfInBounds_toArray, List.set_cons_zero, List.set_cons_succ]
          refine anyH_take (i := 20) (d := 87) (v := ?vv20) rfl rfl (by kernel_rfl) (by kernel_rfl) (by kernel_rfl) (fun _ _ _ h => h) (Or.inl ⟨by rfl, ?yy20⟩) Q1 ?rr20
          case yy20 => (intro w; go_simp; try with_reducible rfl)
          simp only [List.setIfInBounds_toArray, List.set_cons_zero, List.set_cons_succ]
          refine anyH_take (i := 21) (d := 6) (v := ?vv21) rfl rfl (by kernel_rfl) (by kernel_rfl) (by kernel_rfl) (fun _ _ _ h => h) (Or.inl ⟨by rfl, ?yy21⟩) Q1 ?rr21
          case yy21 => (intro w; go_simp; try with_reducible rfl)
          simp only [List.setIfInBounds_toArray, List.set_cons_zero, List.set_cons_succ]
          refine wpAnyH_done (by kernel_rfl) ?_ _
          go_wp2
          go_ret
          exact ⟨rfl, bT.drew.trans (hb9.mono bT.size)⟩

end Go.Proofs.Ytamfjnomkefddaa.inkUnlike
