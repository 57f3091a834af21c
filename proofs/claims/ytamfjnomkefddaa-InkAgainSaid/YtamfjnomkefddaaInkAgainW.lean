/-
  For all lists of byte slices l (20 at most are looked at) and a place in it: the same input again changes nothing of the book but how often it was asked; InkAgain returns true; no condition.
-/
import Derived.Test.YtamfjnomkefddaaOpen
import Derived.Test.YtamfjnomkefddaaLists
import Derived.Test.YtamfjnomkefddaaBks
import Derived.Test.YtamfjnomkefddaaBring
import Derived.Test.YtamfjnomkefddaaAnyOrderH
import Derived.Test.YtamfjnomkefddaaEq
import Derived.Deep.RegionHeld3
import Derived.Deep.RegionWith
import Derived.Deep.DeepCutAuto
namespace Go.Proofs.Ytamfjnomkefddaa.inkAgain
open Go.ChangeShapes Go.WideShapes Go.ChangeAt Go.RowKit
set_option linter.unusedVariables false

set_option maxRecDepth 100000 in
set_option maxHeartbeats 6400000 in
theorem walk (Al : Option Addr) (nl cl : Nat) (l : List (List UInt8)) (i : Int) (w : World) (hl : ArgL w Al nl cl l) (hi : (Lit.int .i64 i).wf = true) :
    Calls Try.prog 6 #[.slice Al nl cl, .int .i64 i] w fun e w' => e = .returned (.bool true) ∧ Below w.heap.size w w' := by
  have hib := bounds_i64 hi
  have Hi := Lib.hid hib
  clear hib hi
  obtain ⟨hln, hlc, hlm, hlL⟩ := hl
  unfold maxLen at hlm
  have Hl := Lib.hid (And.intro hln (And.intro hlc hlL))
  have hn63 : nl ≤ 9223372036854775807 := by omega
  clear hln hlL
  go_enter Try.func6, Try.ntmps6
  go_wp2_with (go_at_call 26; refine (works3_any _).mono ?_; rintro e w0 ⟨rfl, hb0⟩)
  have Hb0 := Lib.hid hb0
  clear hb0
  refine (bnew_any _).mono ?_
  rintro e w1 ⟨S1, g, rfl, hS1, hk1, hb1⟩
  have hk0 : BkS w w1 g (runL (l.take 0)) [] := bks_new Hb0.out hS1 hk1 hb1
  have H1 := Lib.hid hk0
  clear hS1 hk1 hb1 hk0
  go_wp2_with fail
  go_loopw [6] (fun v wr => ∃ j : Nat, j ≤ nl ∧ j ≤ 20 ∧ v = .int .i64 j ∧ BkS w wr g (runL (l.take j)) []) (fun v _ => 20 - (intOf v).toNat)
  case atStart => exact ⟨0, Nat.zero_le _, by omega, rfl, H1.out⟩
  case round =>
    obtain ⟨j, hj, hj40, rfl, hbk⟩ := hrel
    have hi0 : (0 : Int) ≤ j := by omega
    have hi40 : (j : Int) ≤ 20 := by omega
    have hrl := runL_len (l.take j)
    rw [List.length_take] at hrl
    by_cases hin : j < nl ∧ j < 20
    · obtain ⟨hlt, hl4⟩ := hin
      have hi1 : (j : Int) < nl := by omega
      have hi2 : (j : Int) < 20 := by omega
      have hjl : j < l.length := by rw [Hl.out.1]; exact hlt
      obtain ⟨b, off, Aj, cj, rfl, hb, hcell, hlx, hcx, hBx⟩ := Hl.out.2.2.at_ hjl
      have hcw := (hbk.bel.cell hb).trans hcell
      have hsucc := runL_succ l j hjl
      obtain ⟨x, hx⟩ : ∃ x, l[j] = x := ⟨_, rfl⟩
      rw [hx] at hcw hlx hBx hsucc
      obtain ⟨nx, hnx⟩ : ∃ nx, x.length = nx := ⟨_, rfl⟩
      rw [hnx] at hcw hlx
      have hof := bks_of hbk (by omega) (by omega) Aj nx cj x hBx hnx hlx hcx
      rw [← hsucc] at hof
      have Hof := Lib.hid hof
      clear hof hsucc hx hbk hBx hcell hnx hlx hrl
      go_wp2_with (go_at_call 16; refine Hof.out.mono ?_; rintro e w' ⟨rfl, hk'⟩)
      go_roundw
      case rel => exact ⟨j + 1, by omega, by omega, by go_num, hk'⟩
      case measure => simp [intOf]; omega
    · have hM3 : (j = nl ∧ j ≤ 20) ∨ (j = 20 ∧ j < nl) := by omega
      have hmin : ∀ ts t w, (Builtin.min_ ts t #[.int .i64 (nl : Int), .int .i64 20]).run Try.prog w = .ok (.int .i64 (j : Int)) w := fun ts t w => by
        rw [run_min_int2]
        congr 2
        split <;> omega
      have hlen : (l.take j).length = j := by rw [List.length_take, Hl.out.1]; omega
      have Hm := Lib.hid (And.intro (runL_good (l.take j)) (And.intro (runL_mem (l.take j)) (And.intro hrl (And.intro hM3 hlen))))
      obtain ⟨s, hs⟩ : ∃ s, runL (l.take j) = s := ⟨_, rfl⟩
      rw [hs] at hbk Hm
      have Hs := Lib.hid hs
      have Hbk := Lib.hid hbk
      clear hs hrl hlen hbk hin
      by_cases hlt : j < nl
      · have hi1 : (j : Int) < nl := by omega
        have hi2 : ¬ (j : Int) < 20 := by omega
        rcases Nat.eq_zero_or_pos nl with h0 | h0
        · first
          | (exfalso; omega)
          | (have hz : ((nl : Int) == 0) = true := by simp [h0]
             have s1 : s.1.length = 0 := by have := Hm.out.2.2.1; omega
             have s2 : s.2.2 = 0 := by have := Hm.out.2.2.1; omega
             have hle := bks_len Hbk.out
             have has := bks_asked Hbk.out (by omega)
             rw [s1] at hle
             rw [s2] at has
             have Hle := Lib.hid hle
             have Has := Lib.hid has
             clear hle has s1 s2
             go_wp2_with (first
               | (go_at_call 20; refine Hle.out.mono ?_; rintro e w' ⟨rfl, rfl⟩)
               | (go_at_call 22; refine Has.out.mono ?_; rintro e w' ⟨rfl, rfl⟩))
             go_ret
             exact ⟨rfl, Hbk.out.bel⟩)
        have hz : ((nl : Int) == 0) = false := by simp; omega
        have hjp : (0 : Int) < j := by have := Hm.out.2.2.2.1; omega
        have hbri := fun w => bring_any i j w hjp (by omega) Hi.out.1 Hi.out.2
        have Hbri := Lib.hid hbri
        clear hbri
        go_wp2_with fail
        refine (Hbri.out _).mono ?_
        rintro e wA ⟨r1, hr1, rfl, rfl⟩
        clear Hbri
        have Hle := Lib.hid (bks_len Hbk.out)
        have Has := Lib.hid (bks_asked Hbk.out (by have := Hm.out.2.2.1; omega))
        have Hcl := Lib.hid (bks_clash Hbk.out)
        have hq1 : r1 < l.length := by have := Hl.out.1; omega
        obtain ⟨b, off, A1, c1, rfl, hb, hcell1, hl1, hc1, hB1⟩ := Hl.out.2.2.at_ hq1
        obtain ⟨x1, hx1⟩ : ∃ x, l[r1] = x := ⟨_, rfl⟩
        have hin1 : x1 ∈ l.take j := by rw [← hx1]; exact List.mem_take_iff_getElem.2 ⟨r1, by omega, rfl⟩
        rw [hx1] at hcell1 hl1 hB1
        obtain ⟨n1, hn1⟩ : ∃ n, x1.length = n := ⟨_, rfl⟩
        rw [hn1] at hcell1 hl1
        obtain ⟨D1, hDa, hDb, hDc⟩ := dig_cells x1
        have HD1 := Lib.hid (And.intro hDa (And.intro hDb hDc))
        have g10 : (0 : Int) ≤ r1 := by omega
        have g11 : (r1 : Int) < nl := by omega
        have cw1 := (Hbk.out.bel.cell hb).trans hcell1
        have hof := bks_of Hbk.out (by have := Hm.out.2.2.1; omega) (by have := Hm.out.2.2.1; omega) A1 n1 c1 x1 hB1 hn1 hl1 hc1
        rw [hDb] at hof
        have Hof := Lib.hid hof
        have HB := Lib.hid (And.intro hB1 (And.intro hn1 (And.intro hl1 hc1)))
        have Hb := Lib.hid (And.intro hb hcell1)
        have hsL := Lib.hid Hm.out.2.2.1
        clear hof hx1 hq1 hDa hDb hDc hB1 hl1 hc1 hb hcell1
        go_wp2_with (first
          | (go_at_call 20; refine Hle.out.mono ?_; rintro e w' ⟨rfl, rfl⟩)
          | (go_at_call 22; refine Has.out.mono ?_; rintro e w' ⟨rfl, rfl⟩)
          | (go_at_call 24; refine Hcl.out.mono ?_; rintro e w' ⟨rfl, rfl⟩))
        refine Hof.out.mono ?_
        rintro e w3 ⟨rfl, hk3'⟩
        clear Hof cw1 Hle Has Hcl
        obtain ⟨wS, hwS, hthi, hdS, hbS, hzS⟩ := dig_local w3 D1 HD1.out.1
        have HwS := Lib.hid hwS
        have Hthi := Lib.hid hthi
        have hk3 := hk3'.newD hbS hdS
        clear hk3' hwS hthi hdS hbS hzS
        by_cases hx6 : x1.length ≤ 65536
        · have e0 : ofE x1 = 0 := if_pos hx6
          have hst : stepL s x1 = (s.1, s.2.1, s.2.2 + 1) := ofL_old ((Hm.out.2.1 x1).2 ⟨hin1, hx6⟩) hx6
          rw [hst] at hk3
          rw [e0]
          have has : Calls Try.prog 22 #[.pointer (some ⟨g, 0, none⟩)] wS fun e w' => e = .returned (.int .i64 ((s.2.2 : Int) + 1)) ∧ w' = wS := bks_asked (s := (s.1, s.2.1, s.2.2 + 1)) hk3 (by have := hsL.out; show s.2.2 + 1 < _; omega)
          have hle : Calls Try.prog 20 #[.pointer (some ⟨g, 0, none⟩)] wS fun e w' => e = .returned (.int .i64 (s.1.length : Int)) ∧ w' = wS := bks_len (s := (s.1, s.2.1, s.2.2 + 1)) hk3
          have hcl : Calls Try.prog 24 #[.pointer (some ⟨g, 0, none⟩)] wS fun e w' => e = .returned (.bool s.2.1) ∧ w' = wS := bks_clash (s := (s.1, s.2.1, s.2.2 + 1)) hk3
          have H3 := Lib.hid hk3.bel
          have hk20 : s.2.2 ≤ 20 := by have := hsL.out; omega
          generalize s.2.2 = ka at *
          generalize s.1.length = ma at *
          generalize s.2.1 = ca at *
          have Hle := Lib.hid hle
          have Has := Lib.hid has
          have Hcl := Lib.hid hcl
          have hk0 : (0 : Int) ≤ ka := by omega
          have hk21 : (ka : Int) ≤ 20 := by omega
          clear hle has hcl
          clear hk3 hst e0 hin1
          go_wp2_with (first
            | (refine wpList_store_mid rfl 28 _ _ rfl w3.heap.size 0 D1.toArray rfl rfl Hthi.out.1 Hthi.out.2 HD1.out.2.2 ?_; simp only [Act.put]; refine cast (congrArg (fun z => wpList _ _ _ _ _ z) HwS.out.symm) ?_)
            | (go_at_call 20; refine Hle.out.mono ?_; rintro e w' ⟨rfl, rfl⟩)
            | (go_at_call 22; refine Has.out.mono ?_; rintro e w' ⟨rfl, rfl⟩)
            | (go_at_call 24; refine Hcl.out.mono ?_; rintro e w' ⟨rfl, rfl⟩))
          go_ret
          exact ⟨rfl, H3.out⟩
        · have e5 : ofE x1 = 5 := if_neg hx6
          have hst : stepL s x1 = (s.1, s.2.1, s.2.2) := ofL_long hx6
          rw [hst] at hk3
          rw [e5]
          have hgt : (65536 : Int) < n1 := by omega
          have Hle := Lib.hid (bks_len hk3)
          have Has := Lib.hid (bks_asked hk3 (by have := hsL.out; show s.2.2 < _; omega))
          have H3 := Lib.hid hk3.bel
          have cw3 := (hk3.bel.cell Hb.out.1).trans Hb.out.2
          clear hk3 hst e5 hin1
          go_wp2_with (first
            | (refine wpList_store_mid rfl 28 _ _ rfl w3.heap.size 0 D1.toArray rfl rfl Hthi.out.1 Hthi.out.2 HD1.out.2.2 ?_; simp only [Act.put]; refine cast (congrArg (fun z => wpList _ _ _ _ _ z) HwS.out.symm) ?_)
            | (go_at_call 20; refine Hle.out.mono ?_; rintro e w' ⟨rfl, rfl⟩)
            | (go_at_call 22; refine Has.out.mono ?_; rintro e w' ⟨rfl, rfl⟩)
            | (go_at_call 24; refine Hcl.out.mono ?_; rintro e w' ⟨rfl, rfl⟩))
          go_ret
          exact ⟨rfl, H3.out⟩
      · have hi1 : ¬ (j : Int) < nl := by omega
        rcases Nat.eq_zero_or_pos nl with h0 | h0
        · first
          | (exfalso; omega)
          | (have hz : ((nl : Int) == 0) = true := by simp [h0]
             have s1 : s.1.length = 0 := by have := Hm.out.2.2.1; omega
             have s2 : s.2.2 = 0 := by have := Hm.out.2.2.1; omega
             have hle := bks_len Hbk.out
             have has := bks_asked Hbk.out (by omega)
             rw [s1] at hle
             rw [s2] at has
             have Hle := Lib.hid hle
             have Has := Lib.hid has
             clear hle has s1 s2
             go_wp2_with (first
               | (go_at_call 20; refine Hle.out.mono ?_; rintro e w' ⟨rfl, rfl⟩)
               | (go_at_call 22; refine Has.out.mono ?_; rintro e w' ⟨rfl, rfl⟩))
             go_ret
             exact ⟨rfl, Hbk.out.bel⟩)
        have hz : ((nl : Int) == 0) = false := by simp; omega
        have hjp : (0 : Int) < j := by have := Hm.out.2.2.2.1; omega
        have hbri := fun w => bring_any i j w hjp (by omega) Hi.out.1 Hi.out.2
        have Hbri := Lib.hid hbri
        clear hbri
        go_wp2_with fail
        refine (Hbri.out _).mono ?_
        rintro e wA ⟨r1, hr1, rfl, rfl⟩
        clear Hbri
        have Hle := Lib.hid (bks_len Hbk.out)
        have Has := Lib.hid (bks_asked Hbk.out (by have := Hm.out.2.2.1; omega))
        have Hcl := Lib.hid (bks_clash Hbk.out)
        have hq1 : r1 < l.length := by have := Hl.out.1; omega
        obtain ⟨b, off, A1, c1, rfl, hb, hcell1, hl1, hc1, hB1⟩ := Hl.out.2.2.at_ hq1
        obtain ⟨x1, hx1⟩ : ∃ x, l[r1] = x := ⟨_, rfl⟩
        have hin1 : x1 ∈ l.take j := by rw [← hx1]; exact List.mem_take_iff_getElem.2 ⟨r1, by omega, rfl⟩
        rw [hx1] at hcell1 hl1 hB1
        obtain ⟨n1, hn1⟩ : ∃ n, x1.length = n := ⟨_, rfl⟩
        rw [hn1] at hcell1 hl1
        obtain ⟨D1, hDa, hDb, hDc⟩ := dig_cells x1
        have HD1 := Lib.hid (And.intro hDa (And.intro hDb hDc))
        have g10 : (0 : Int) ≤ r1 := by omega
        have g11 : (r1 : Int) < nl := by omega
        have cw1 := (Hbk.out.bel.cell hb).trans hcell1
        have hof := bks_of Hbk.out (by have := Hm.out.2.2.1; omega) (by have := Hm.out.2.2.1; omega) A1 n1 c1 x1 hB1 hn1 hl1 hc1
        rw [hDb] at hof
        have Hof := Lib.hid hof
        have HB := Lib.hid (And.intro hB1 (And.intro hn1 (And.intro hl1 hc1)))
        have Hb := Lib.hid (And.intro hb hcell1)
        have hsL := Lib.hid Hm.out.2.2.1
        clear hof hx1 hq1 hDa hDb hDc hB1 hl1 hc1 hb hcell1
        go_wp2_with (first
          | (go_at_call 20; refine Hle.out.mono ?_; rintro e w' ⟨rfl, rfl⟩)
          | (go_at_call 22; refine Has.out.mono ?_; rintro e w' ⟨rfl, rfl⟩)
          | (go_at_call 24; refine Hcl.out.mono ?_; rintro e w' ⟨rfl, rfl⟩))
        refine Hof.out.mono ?_
        rintro e w3 ⟨rfl, hk3'⟩
        clear Hof cw1 Hle Has Hcl
        obtain ⟨wS, hwS, hthi, hdS, hbS, hzS⟩ := dig_local w3 D1 HD1.out.1
        have HwS := Lib.hid hwS
        have Hthi := Lib.hid hthi
        have hk3 := hk3'.newD hbS hdS
        clear hk3' hwS hthi hdS hbS hzS
        by_cases hx6 : x1.length ≤ 65536
        · have e0 : ofE x1 = 0 := if_pos hx6
          have hst : stepL s x1 = (s.1, s.2.1, s.2.2 + 1) := ofL_old ((Hm.out.2.1 x1).2 ⟨hin1, hx6⟩) hx6
          rw [hst] at hk3
          rw [e0]
          have has : Calls Try.prog 22 #[.pointer (some ⟨g, 0, none⟩)] wS fun e w' => e = .returned (.int .i64 ((s.2.2 : Int) + 1)) ∧ w' = wS := bks_asked (s := (s.1, s.2.1, s.2.2 + 1)) hk3 (by have := hsL.out; show s.2.2 + 1 < _; omega)
          have hle : Calls Try.prog 20 #[.pointer (some ⟨g, 0, none⟩)] wS fun e w' => e = .returned (.int .i64 (s.1.length : Int)) ∧ w' = wS := bks_len (s := (s.1, s.2.1, s.2.2 + 1)) hk3
          have hcl : Calls Try.prog 24 #[.pointer (some ⟨g, 0, none⟩)] wS fun e w' => e = .returned (.bool s.2.1) ∧ w' = wS := bks_clash (s := (s.1, s.2.1, s.2.2 + 1)) hk3
          have H3 := Lib.hid hk3.bel
          have hk20 : s.2.2 ≤ 20 := by have := hsL.out; omega
          generalize s.2.2 = ka at *
          generalize s.1.length = ma at *
          generalize s.2.1 = ca at *
          have Hle := Lib.hid hle
          have Has := Lib.hid has
          have Hcl := Lib.hid hcl
          have hk0 : (0 : Int) ≤ ka := by omega
          have hk21 : (ka : Int) ≤ 20 := by omega
          clear hle has hcl
          clear hk3 hst e0 hin1
          go_wp2_with (first
            | (refine wpList_store_mid rfl 28 _ _ rfl w3.heap.size 0 D1.toArray rfl rfl Hthi.out.1 Hthi.out.2 HD1.out.2.2 ?_; simp only [Act.put]; refine cast (congrArg (fun z => wpList _ _ _ _ _ z) HwS.out.symm) ?_)
            | (go_at_call 20; refine Hle.out.mono ?_; rintro e w' ⟨rfl, rfl⟩)
            | (go_at_call 22; refine Has.out.mono ?_; rintro e w' ⟨rfl, rfl⟩)
            | (go_at_call 24; refine Hcl.out.mono ?_; rintro e w' ⟨rfl, rfl⟩))
          go_ret
          exact ⟨rfl, H3.out⟩
        · have e5 : ofE x1 = 5 := if_neg hx6
          have hst : stepL s x1 = (s.1, s.2.1, s.2.2) := ofL_long hx6
          rw [hst] at hk3
          rw [e5]
          have hgt : (65536 : Int) < n1 := by omega
          have Hle := Lib.hid (bks_len hk3)
          have Has := Lib.hid (bks_asked hk3 (by have := hsL.out; show s.2.2 < _; omega))
          have H3 := Lib.hid hk3.bel
          have cw3 := (hk3.bel.cell Hb.out.1).trans Hb.out.2
          clear hk3 hst e5 hin1
          go_wp2_with (first
            | (refine wpList_store_mid rfl 28 _ _ rfl w3.heap.size 0 D1.toArray rfl rfl Hthi.out.1 Hthi.out.2 HD1.out.2.2 ?_; simp only [Act.put]; refine cast (congrArg (fun z => wpList _ _ _ _ _ z) HwS.out.symm) ?_)
            | (go_at_call 20; refine Hle.out.mono ?_; rintro e w' ⟨rfl, rfl⟩)
            | (go_at_call 22; refine Has.out.mono ?_; rintro e w' ⟨rfl, rfl⟩)
            | (go_at_call 24; refine Hcl.out.mono ?_; rintro e w' ⟨rfl, rfl⟩))
          go_ret
          exact ⟨rfl, H3.out⟩

end Go.Proofs.Ytamfjnomkefddaa.inkAgain
