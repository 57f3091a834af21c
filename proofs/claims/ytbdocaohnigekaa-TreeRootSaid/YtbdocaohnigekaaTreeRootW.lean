/-
  For all lists of leaves (40 at most, cut to 100 bytes) and settings ahead (20 at most are made, whatever their leaves): a tree's root is Of of its leaves, whatever they had ahead, in whichever order they were set; TreeRoot returns true; no condition.
-/
import Derived.Test.YtbdocaohnigekaaZ01
import Derived.Test.YtbdocaohnigekaaZ13
import Derived.Test.YtbdocaohnigekaaZ07
import Derived.Test.YtbdocaohnigekaaZ14
import Derived.Deep.RegionHeld3
import Derived.Deep.RegionWith
import Derived.Deep.DeepCutAuto
namespace Go.Proofs.Ytbdocaohnigekaa.treeRoot
open Go.ChangeShapes Go.WideShapes Go.ChangeAt Go.RowKit
set_option linter.unusedVariables false

set_option maxRecDepth 100000 in
set_option maxHeartbeats 6400000 in
theorem walk (Al : Option Addr) (nl cl : Nat) (l : List (List UInt8)) (Aahead : Option Addr) (nahead cahead : Nat) (ahead : List SetL) (w : World) (hl : ArgL w Al nl cl l) (hahead : ArgT w Aahead nahead cahead ahead) :
    Calls Try.prog 3 #[.slice Al nl cl, .slice Aahead nahead cahead] w fun e w' => e = .returned (.bool true) ∧ Below w.heap.size w w' := by
  have Hl := Lib.hid hl
  have Ha := Lib.hid hahead
  have hln : ahead.length = nahead := hahead.1
  have hnot : ∀ (x : Bool) (w : World), (Op.unary .not (.bool x)).run Try.prog w = .ok (.bool (!x)) w := fun _ _ => rfl
  clear hl hahead
  go_enter Try.func3, Try.ntmps3
  go_wp2_with (go_at_call 10; refine (works9_any _).mono ?_; rintro e w0 ⟨rfl, hb0⟩)
  have Hb0 := Lib.hid hb0
  have Hcut := Lib.hid (cut_any Al nl cl l w0 ⟨Hl.out.1, Hl.out.2.1, Hl.out.2.2.1, Hl.out.2.2.2.after hb0⟩)
  clear hb0
  refine Hcut.out.mono ?_
  rintro e w1 ⟨xs, v, rfl, hx40, hx100, hb1, hH⟩
  have Hb1 := Lib.hid hb1
  have Hb01 := Lib.hid (Hb0.out.trans (Hb1.out.mono Hb0.out.size))
  by_cases hne : xs = []
  · subst hne
    obtain ⟨vs, hrow, _⟩ := hH
    rcases hrow.2 with ⟨rfl, _⟩ | ⟨b, c, cur, rfl, _⟩
    all_goals
      go_wp2
      go_ret
      exact ⟨rfl, Hb01.out⟩
  · obtain ⟨b, c, rfl, hb0, hbl, hLv, hfr, hlow⟩ := hH.lvs hb1 hne
    have hpos : 1 ≤ xs.length := List.length_pos_iff.2 hne
    obtain ⟨m, hm⟩ : ∃ m, xs.length = m := ⟨_, rfl⟩
    rw [hm] at hpos hx40 ⊢
    have hz : ((m : Int) == 0) = false := by simp; omega
    have H1 := Lib.hid (And.intro hx100 (And.intro hLv (And.intro hb0 (And.intro hbl hm))))
    clear hH hx100 hLv hfr hlow hb0 hbl hm hb1 hne Hcut
    go_wp2_with fail
    refine (bnew_any _).mono ?_
    rintro e w2 ⟨S, g, bm, rfl, hS, hb, hb2⟩
    have hk2 := kb_new hS hb
    have Hn := Lib.hid (tnew_any w1.heap.size g bm _ m (fun _ => False) w2 hk2 hb2.size (by decide) (by decide) hpos (by omega))
    have H2 := Lib.hid hb2
    clear hS hb hk2 hb2
    go_wp2_with fail
    refine Hn.out.mono ?_
    rintro e w3 ⟨t, M1, rfl, hT1, hM1, hk3, hO3⟩
    have hb3 : Below w1.heap.size w1 w3 := H2.out.trans (hO3.above (fun i hi => hi.1) H2.out.size)
    obtain ⟨low0, hlow⟩ : ∃ low, lows (empties m) = low := ⟨_, rfl⟩
    have hll : low0.length = m := by rw [← hlow, lows_len, empties_len]
    have hbd0 := new_bound m hpos (by omega) ([], false, 0)
    obtain ⟨s0, hs0⟩ : ∃ sk : Bk, noteAll ([], false, 0) (insTo (empties m) (dep m - 1)) = sk := ⟨_, rfl⟩
    rw [hs0] at hk3 hbd0
    rw [hlow] at hT1
    simp only [List.length_nil] at hbd0
    have Hn2 := Lib.hid (tnew_any w1.heap.size g bm s0 m (fun i => False ∨ M1 i) w3 hk3 hb3.size (by omega) (by omega) hpos (by omega))
    have H3 := Lib.hid (And.intro hT1 (And.intro hM1 (And.intro hb3 (And.intro hlow (And.intro hll hbd0)))))
    clear hT1 hM1 hk3 hO3 hb3 hlow hll hbd0 hs0 Hn
    go_wp2_with fail
    refine Hn2.out.mono ?_
    rintro e w4 ⟨u, M2, rfl, hT2, hM2, hk4, hO4⟩
    obtain ⟨hT1, hM1, hb3, hlow, hll, hbd0⟩ := H3.out
    have hbd1 := new_bound m hpos (by omega) s0
    obtain ⟨s1, hs1⟩ : ∃ sk : Bk, noteAll s0 (insTo (empties m) (dep m - 1)) = sk := ⟨_, rfl⟩
    rw [hs1] at hk4 hbd1
    rw [hlow] at hT2
    have hlt1 : ∀ i, M1 i → i < w3.heap.size := by obtain ⟨_, _, _, _, h⟩ := hT1; exact h.ltM
    have HS0 := Lib.hid (show St2 w1 g bm t u m M1 M2 (fun i => (False ∨ M1 i) ∨ M2 i) 12400 low0 low0 s1 w4 from
      ⟨hT1.out hO4 (fun i hi => Tn.keep (.inr hi)), hT2, hk4, fun i hi => .inl (.inr hi), fun i hi => .inr hi, fun i h1 h2 => by have := hlt1 i h1; have := hM2 i h2; omega,
        fun i hi => Nat.le_trans H2.out.size (hM1 i hi), fun i hi => Nat.le_trans hb3.size (hM2 i hi), hll, hll, by omega, by omega, hb3.trans (hO4.above (fun i hi => hi.1) hb3.size)⟩)
    clear hT2 hM2 hk4 hO4 hT1 hM1 hb3 hlow hll hbd0 hbd1 hs1 hlt1 Hn2 H3
    go_upto_region 11 with fail
    rename_i Kf af
    have Af := Lib.hid af
    clear af
    go_wp2
    refine Af.out _ _ ?_
    clear Af
    go_cut [11] (fun _ wx => ∃ (lt lu : List Dg) (s : Bk), St2 w1 g bm t u m M1 M2 (fun i => (False ∨ M1 i) ∨ M2 i) 12600 lt lu s wx)
    case first =>
      go_wp2
      go_loopw [11] (fun kv wr => ∃ (k : Nat) (lt lu : List Dg) (s : Bk), k ≤ 20 ∧ k ≤ nahead ∧ kv = .int .i64 (k : Int) ∧ St2 w1 g bm t u m M1 M2 (fun i => (False ∨ M1 i) ∨ M2 i) (12400 + 8 * k) lt lu s wr) (fun kv _ => 20 - (intOf kv).toNat)
      case atStart => exact ⟨0, low0, low0, s1, Nat.zero_le _, Nat.zero_le _, rfl, HS0.out⟩
      case round =>
        obtain ⟨k, lt, lu, s, hk, hkn, rfl, hS⟩ := hrel
        have HS := Lib.hid hS
        by_cases hin : k < nahead
        · by_cases h20 : k < 20
          · have hbw : Below w.heap.size w wr := Hb01.out.trans (hS.bel.mono Hb01.out.size)
            obtain ⟨sb, so, rfl, hlt, hwf, hc0, AB, cB, hc1, hle, hcm, hBx⟩ := Ha.out.at_ (j := k) (by omega)
            obtain ⟨at_, hat⟩ : ∃ a, (ahead[k]).at_ = a := ⟨_, rfl⟩
            obtain ⟨x, hx⟩ : ∃ x, (ahead[k]).leaf = x := ⟨_, rfl⟩
            rw [hx] at hc1 hle hBx
            obtain ⟨nl1, hnl1⟩ : ∃ a, x.length = a := ⟨_, rfl⟩
            rw [hat] at hc0 hwf
            rw [hnl1] at hc1 hle
            have Hat := Lib.hid (bounds_i64 hwf)
            have Hx := Lib.hid (And.intro hBx (And.intro hnl1 (And.intro hle hcm)))
            have p1 : (k : Int) < (nahead : Int) := by omega
            have p2 : (k : Int) < 20 := by omega
            have p0 : (0 : Int) ≤ (k : Int) := by omega
            have Hcc := Lib.hid (show ∀ w', Below w.heap.size w w' → w'.cell? ⟨sb, so + k * 2, none⟩ = some (.int .i64 at_) ∧ w'.cell? ⟨sb, so + k * 2 + 1, none⟩ = some (.slice AB nl1 cB) from fun w' hb => ⟨(hb.cell hlt).trans hc0, (hb.cell hlt).trans hc1⟩)
            have Hbw := Lib.hid hbw
            clear hbw hlt hwf hc0 hc1 hle hcm hBx hat hnl1 hS hx
            go_wp2
            have Q0 : wr.drew.cell? ⟨sb, so + k * 2, none⟩ = some (.int .i64 at_) ∧ wr.drew.cell? ⟨sb, so + k * 2 + 1, none⟩ = some (.slice AB nl1 cB) := Hcc.out _ Hbw.out.drew
            refine wp_region_held_drew (S := fun W' => W'.cell? ⟨sb, so + k * 2, none⟩ = some (.int .i64 at_) ∧ W'.cell? ⟨sb, so + k * 2 + 1, none⟩ = some (.slice AB nl1 cB)) (by kernel_rfl) Q0 (fun _ => ?_)
            refine anyH_take (i := 0) (d := 58) (v := ?v0) rfl rfl (by kernel_rfl) (by kernel_rfl) (by kernel_rfl) (fun _ _ _ h => h) (Or.inl ⟨by rfl, ?vy0⟩) Q0 ?vr0
            case vy0 => (intro w; go_simp; try with_reducible rfl)
            simp only [List.setIfInBounds_toArray, List.set_cons_zero, List.set_cons_succ]
            refine anyH_take (i := 1) (d := 59) (v := ?v1) rfl rfl (by kernel_rfl) (by kernel_rfl) (by kernel_rfl) (fun _ _ _ h => h) (Or.inl ⟨by rfl, ?vy1⟩) Q0 ?vr1
            case vy1 => (intro w; go_simp; try with_reducible rfl)
            simp only [List.setIfInBounds_toArray, List.set_cons_zero, List.set_cons_succ]
            refine anyH_take (i := 2) (d := 60) (v := ?v2) rfl rfl (by kernel_rfl) (by kernel_rfl) (by kernel_rfl) (fun _ _ _ h => h) (Or.inl ⟨by rfl, ?vy2⟩) Q0 ?vr2
            case vy2 => (intro w; go_simp; try with_reducible rfl)
            simp only [List.setIfInBounds_toArray, List.set_cons_zero, List.set_cons_succ]
            refine anyH_take (i := 3) (d := 61) (v := ?v3) rfl rfl (by kernel_rfl) (by kernel_rfl) (by kernel_rfl) (fun _ _ _ h => h) (Or.inl ⟨by rfl, ?vy3⟩) Q0 ?vr3
            case vy3 => (intro w; go_simp; try with_reducible rfl)
            simp only [List.setIfInBounds_toArray, List.set_cons_zero, List.set_cons_succ]
            refine anyH_take (i := 4) (d := 62) (v := ?v4) rfl rfl (by kernel_rfl) (by kernel_rfl) (by kernel_rfl) (fun _ _ _ h => h) (Or.inl ⟨by rfl, ?vy4⟩) Q0 ?vr4
            case vy4 => (intro w; go_simp; try with_reducible rfl)
            simp only [List.setIfInBounds_toArray, List.set_cons_zero, List.set_cons_succ]
            refine wpAnyH_take' (i := 5) (d := 63) (v := ?v5) rfl rfl (by kernel_rfl) (by kernel_rfl) (by kernel_rfl) (fun _ _ _ h => h) (Or.inl ⟨by rfl, ?vy5⟩) Q0 ?vr5
            case vy5 => (intro w hSw; go_split_ands; go_simp; try with_reducible rfl)
            simp only [List.setIfInBounds_toArray, List.set_cons_zero, List.set_cons_succ]
            refine anyH_take (i := 6) (d := 64) (v := ?v6) rfl rfl (by kernel_rfl) (by kernel_rfl) (by kernel_rfl) (fun _ _ _ h => h) (Or.inl ⟨by rfl, ?vy6⟩) Q0 ?vr6
            case vy6 => (intro w; go_simp; try with_reducible rfl)
            simp only [List.setIfInBounds_toArray, List.set_cons_zero, List.set_cons_succ]
            refine anyH_take (i := 7) (d := 65) (v := ?v7) rfl rfl (by kernel_rfl) (by kernel_rfl) (by kernel_rfl) (fun _ _ _ h => h) (Or.inl ⟨by rfl, ?vy7⟩) Q0 ?vr7
            case vy7 => (intro w; go_simp; try with_reducible rfl)
            simp only [List.setIfInBounds_toArray, List.set_cons_zero, List.set_cons_succ]
            refine anyH_take (i := 9) (d := 67) (v := ?v9) rfl rfl (by kernel_rfl) (by kernel_rfl) (by kernel_rfl) (fun _ _ _ h => h) (Or.inl ⟨by rfl, ?vy9⟩) Q0 ?vr9
            case vy9 => (intro w; go_simp; try with_reducible rfl)
            simp only [List.setIfInBounds_toArray, List.set_cons_zero, List.set_cons_succ]
            refine anyH_take (i := 10) (d := 68) (v := ?v10) rfl rfl (by kernel_rfl) (by kernel_rfl) (by kernel_rfl) (fun _ _ _ h => h) (Or.inl ⟨by rfl, ?vy10⟩) Q0 ?vr10
            case vy10 => (intro w; go_simp; try with_reducible rfl)
            simp only [List.setIfInBounds_toArray, List.set_cons_zero, List.set_cons_succ]
            refine anyH_take (i := 11) (d := 69) (v := ?v11) rfl rfl (by kernel_rfl) (by kernel_rfl) (by kernel_rfl) (fun _ _ _ h => h) (Or.inl ⟨by rfl, ?vy11⟩) Q0 ?vr11
            case vy11 => (intro w; go_simp; try with_reducible rfl)
            simp only [List.setIfInBounds_toArray, List.set_cons_zero, List.set_cons_succ]
            refine anyH_take (i := 12) (d := 70) (v := ?v12) rfl rfl (by kernel_rfl) (by kernel_rfl) (by kernel_rfl) (fun _ _ _ h => h) (Or.inl ⟨by rfl, ?vy12⟩) Q0 ?vr12
            case vy12 => (intro w; go_simp; try with_reducible rfl)
            simp only [List.setIfInBounds_toArray, List.set_cons_zero, List.set_cons_succ]
            refine wpAnyH_take' (i := 13) (d := 71) (v := ?v13) rfl rfl (by kernel_rfl) (by kernel_rfl) (by kernel_rfl) (fun _ _ _ h => h) (Or.inl ⟨by rfl, ?vy13⟩) Q0 ?vr13
            case vy13 => (intro w hSw; go_split_ands; go_simp; try with_reducible rfl)
            simp only [List.setIfInBounds_toArray, List.set_cons_zero, List.set_cons_succ]
            refine anyH_one (i := 8) (by kernel_rfl) ?_
            refine wpOp_step rfl (fun K hK => ?_)
            go_simp
            refine (bring_any at_ m _ (by omega) (by omega) Hat.out.1 Hat.out.2).mono ?_
            rintro e wa ⟨p, hp, rfl, rfl⟩
            have Hset := Lib.hid (HS.out.drew.sets (by omega) (by omega) p (by omega) AB nl1 cB x (Hx.out.1.after Hbw.out.drew) Hx.out.2.1 Hx.out.2.2.1 Hx.out.2.2.2)
            refine hK _ _ ⟨Q0, ?_⟩
            clear hK K
            refine anyH_one (i := 14) (by kernel_rfl) ?_
            refine wpOp_step rfl (fun K hK => ?_)
            go_simp
            refine Hset.out.mono ?_
            rintro e wb ⟨cc, lt', s', rfl, hS2⟩
            have HS2 := Lib.hid hS2
            clear hS2 Hset
            refine hK _ _ ⟨(Hcc.out _ (Hb01.out.trans (HS2.out.bel.mono Hb01.out.size))), ?_⟩
            clear hK K
            refine wpAnyH_done (by kernel_rfl) ?_ _

            go_wp2
            go_roundw
            case rel => exact ⟨k + 1, _, _, _, by omega, by omega, by go_num, HS2.out.more (by omega)⟩
            case measure => simp [intOf]; omega
          · have p1 : decide ((k : Int) < (nahead : Int)) = true := by simp; omega
            have p2 : decide ((k : Int) < 20) = false := by simp; omega
            clear hS
            go_wp2
            go_meet
            exact ⟨lt, lu, s, HS.out.more (by omega)⟩
        · have p1 : decide ((k : Int) < (nahead : Int)) = false := by simp; omega
          clear hS
          go_wp2
          go_meet
          exact ⟨lt, lu, s, HS.out.more (by omega)⟩
    case rest =>
      obtain ⟨lt1, lu1, s2, hS⟩ := hcut
      have HS1 := Lib.hid hS
      clear hS HS0
      go_wp2
      go_loopw [12, 13] (fun iv _ wr => ∃ (i : Nat) (lt lu : List Dg) (s : Bk), i ≤ m ∧ iv = .int .i64 (i : Int) ∧ St2 w1 g bm t u m M1 M2 (fun i => (False ∨ M1 i) ∨ M2 i) (12600 + 16 * i) lt lu s wr ∧ (∀ j (hj : j < xs.length), j < i → lt[j]? = some (digest (leafIn xs[j]))) ∧ (∀ j (hj : j < xs.length), m ≤ j + i → lu[j]? = some (digest (leafIn xs[j])))) (fun iv _ _ => m - (intOf iv).toNat)
      case atStart => exact ⟨0, lt1, lu1, s2, Nat.zero_le _, rfl, HS1.out, fun j hj h => by omega, fun j hj h => by have := H1.out.2.2.2.2; omega⟩
      case round =>
        obtain ⟨i, lt, lu, s, hi, rfl, hS, hA, hB⟩ := hrel
        obtain ⟨hx100, hLv, hb0, hbl, hm⟩ := H1.out
        have hst : Stays (fun j => j = b ∨ j < w0.heap.size) w1 wr := ⟨hS.bel.size, fun j hj => hS.bel.block j (by have := Hb1.out.size; rcases hj with rfl | hj; exact hbl; omega)⟩
        have hLr := hLv.stays hst
        have HA := Lib.hid (And.intro hA hB)
        by_cases hin : i < m
        · obtain ⟨b', off, e1, _, hcc⟩ := id hLr
          cases e1
          obtain ⟨q, hq⟩ : ∃ q, m - 1 - i = q := ⟨_, rfl⟩
          have hqm : q < m := by omega
          have hqi : (m : Int) - 1 - (i : Int) = (q : Int) := by omega
          have hiX : i < xs.length := by omega
          have hqX : q < xs.length := by omega
          obtain ⟨Ai, ci, hi1, hi2, hi3, hi4, hi5⟩ := hcc i hiX
          obtain ⟨Aq, cq, hq1, hq2, hq3, hq4, hq5⟩ := hcc q hqX
          clear hi5 hq5
          rw [Nat.zero_add] at hi1 hq1
          have hxi : (xs[i]'hiX).length ≤ 100 := hx100 _ (List.getElem_mem _)
          have hxq : (xs[q]'hqX).length ≤ 100 := hx100 _ (List.getElem_mem _)
          obtain ⟨x, hx⟩ : ∃ x, xs[i]'hiX = x := ⟨_, rfl⟩
          obtain ⟨y, hy⟩ : ∃ y, xs[q]'hqX = y := ⟨_, rfl⟩
          rw [hx] at hi1 hi2 hi4 hxi
          rw [hy] at hq1 hq2 hq4 hxq
          obtain ⟨ni, hni⟩ : ∃ n, x.length = n := ⟨_, rfl⟩
          obtain ⟨nq, hnq⟩ : ∃ n, y.length = n := ⟨_, rfl⟩
          rw [hni] at hi1 hi2 hxi
          rw [hnq] at hq1 hq2 hxq
          have Hs1 := Lib.hid (hS.set (by omega) (by omega) i hin Ai ni ci x hi4 hni hi2 hi3 (by omega))
          have Hq := Lib.hid (show ∀ w', St2 w1 g bm t u m M1 M2 (fun i => (False ∨ M1 i) ∨ M2 i) (12600 + 16 * i + 8) (lowSet lt i x) lu (noteAll s (setIns lt i x (dep lt.length - 1))) w' → w'.cell? ⟨b, q, none⟩ = some (.slice Aq nq cq) ∧ Bs w' Aq y from fun w' hS' => by
            have hst' : Stays (fun j => j = b ∨ j < w0.heap.size) w1 w' := ⟨hS'.bel.size, fun j hj => hS'.bel.block j (by have := Hb1.out.size; rcases hj with rfl | hj; exact hbl; omega)⟩
            have h1 : wr.heap[b]? = w1.heap[b]? := hst.2 b (.inl rfl)
            have h2 : w'.heap[b]? = w1.heap[b]? := hst'.2 b (.inl rfl)
            have hc' : w'.cell? ⟨b, q, none⟩ = some (.slice Aq nq cq) := (World.cell?_of_block (h2.trans h1.symm)).trans hq1
            obtain ⟨b', off, e1, _, hcc'⟩ := hLv.stays hst'
            cases e1
            obtain ⟨A', c', e1, _, _, e4, _⟩ := hcc' q (by omega)
            rw [Nat.zero_add, hc'] at e1
            injection e1 with e1
            injection e1 with e1 _ _
            subst e1
            rw [hy] at e4
            exact ⟨hc', e4⟩)
          have Hf := Lib.hid (And.intro hx (And.intro hy (And.intro hni (And.intro hnq (And.intro hq2 (And.intro hq3 (And.intro hq (And.intro hS.len1 (And.intro hS.len2 hm)))))))))
          have i0 : (0 : Int) ≤ (i : Int) := by omega
          have i1 : (i : Int) < (m : Int) := by omega
          have j0 : (0 : Int) ≤ (q : Int) := by omega
          have j1 : (q : Int) < (m : Int) := by omega
          clear hx100 hLv hb0 hbl hm hst hLr hA hB hcc hi2 hi3 hi4 hq1 hq2 hq3 hq4 hx hy hni hnq hS hq
          go_wp2_with fail
          refine Hs1.out.mono ?_
          rintro e w5 ⟨rfl, hS5⟩
          obtain ⟨hcq, hBq⟩ := Hq.out w5 hS5
          have Hs2 := Lib.hid (hS5.swap.set (by omega) (by omega) q hqm Aq nq cq y hBq Hf.out.2.2.2.1 Hf.out.2.2.2.2.1 Hf.out.2.2.2.2.2.1 (by omega))
          clear hS5 hBq hi1 Hs1 Hq
          go_wp2_with fail
          refine Hs2.out.mono ?_
          rintro e w6 ⟨rfl, hS6⟩
          have HS6 := Lib.hid hS6.swap
          clear hS6 hcq Hs2
          go_wp2
          go_roundw
          case rel =>
            obtain ⟨hx, hy, hni, hnq, hq2, hq3, hq, hl1, hl2, hm⟩ := Hf.out
            refine ⟨i + 1, _, _, _, by omega, by go_num, HS6.out.more (by omega), fun j hj h => ?_, fun j hj h => ?_⟩
            · by_cases e : i = j
              · subst e
                rw [lowSet_at _ _ _ (by omega), hx]
              · rw [lowSet_ne _ _ _ _ e]
                exact HA.out.1 j hj (by omega)
            · by_cases e : q = j
              · subst e
                rw [lowSet_at _ _ _ (by omega), hy]
              · rw [lowSet_ne _ _ _ _ e]
                exact HA.out.2 j hj (by omega)
          case measure => simp [intOf]; omega
        · obtain rfl : i = m := by omega
          have e1 : lt = lows xs := low_done xs lt (by rw [hS.len1, hm]) (fun j hj => hA j hj (by omega))
          have e2 : lu = lows xs := low_done xs lu (by rw [hS.len2, hm]) (fun j hj => hB j hj (by omega))
          subst e1
          subst e2
          obtain ⟨D, hD⟩ : ∃ D, cbs (rootD (lows xs)) = D := ⟨_, rfl⟩
          have hrl : (rootD (lows xs)).length = 32 := root_len (by rw [lows_len]; omega) (all32_lows _)
          have hD32 : D.length = 32 := by rw [← hD, cbs_length, hrl]
          have hD1 : D.toArray.all (·.oneCell') = true := by rw [← hD]; exact cbs_one' _
          have hDi : (Try.prog.info? 38).map (·.size) = some D.length := by rw [hD32]; exact info32b
          have heq := fun w' => eq_self D (rootD (lows xs)) hD hrl w'
          have hr1 := hroot_any hS.one
          rw [hD] at hr1
          have Hr1 := Lib.hid hr1
          have HD := Lib.hid (And.intro hD (And.intro hD32 (And.intro hD1 hDi)))
          have HS := Lib.hid hS
          have p1 : ¬ (i : Int) < (i : Int) := by omega
          clear hx100 hLv hb0 hbl hm hst hLr hA hB hS hD hrl hD32 hD1 hDi hr1
          go_wp2_with fail
          refine Hr1.out.mono ?_
          rintro e w6 ⟨rfl, hb6⟩
          obtain ⟨w7, hw7, ⟨hth7, hi7⟩, hbS7, hbel7, hsz7⟩ := dig_local w6 D HD.out.2.1
          have hr7 : Below wr.heap.size wr w7 := hb6.trans (hbel7.mono hb6.size)
          have hr2 := hroot_any (HS.out.below hr7).two
          rw [HD.out.1] at hr2
          have Hr2 := Lib.hid hr2
          have Hw7 := Lib.hid hw7
          have Hs7 := Lib.hid (And.intro hth7 hi7)
          have H7 := Lib.hid (And.intro hr7 (And.intro hbS7 (And.intro hsz7 hb6.size)))
          clear hw7 hth7 hi7 hbS7 hbel7 hsz7 hr7 hr2 hb6 Hr1
          go_wp2_with (refine wpList_store_mid rfl 38 _ _ rfl w6.heap.size 0 D.toArray rfl rfl Hs7.out.1 Hs7.out.2 HD.out.2.2.1 ?_; simp only [Act.put]; refine cast (congrArg (fun z => wpList _ _ _ _ _ z) Hw7.out.symm) ?_)
          refine Hr2.out.mono ?_
          rintro e w8 ⟨rfl, hb8⟩
          obtain ⟨hr7, hbS7, hsz7, hsz6⟩ := H7.out
          obtain ⟨w9, hw9, ⟨hth9, hi9⟩, hbS9, hbel9, hsz9⟩ := dig_local w8 D HD.out.2.1
          have hb79 : Below w7.heap.size w7 w9 := hb8.trans (hbel9.mono hb8.size)
          have hr9 : Below wr.heap.size wr w9 := hr7.trans (hb79.mono hr7.size)
          have hS9 := HS.out.below hr9
          have hz8 := hb8.size
          have hK9 : Kb w1.heap.size w9 g bm s (fun j => ((False ∨ M1 j) ∨ M2 j) ∨ j = w6.heap.size ∨ j = w8.heap.size) := HS.out.kb.belowN hr9 fun j hj => by
            rcases hj with hj | rfl | rfl
            · exact .inl hj
            · exact .inr ⟨hsz6, by omega⟩
            · exact .inr ⟨by omega, by omega⟩
          obtain ⟨hx100, hLv, hb0, hbl, hm⟩ := H1.out
          have hst9 : Stays (fun j => j = b ∨ j < w0.heap.size) w1 w9 := ⟨hS9.bel.size, fun j hj => hS9.bel.block j (by have := Hb1.out.size; rcases hj with rfl | hj; exact hbl; omega)⟩
          have hsb1 := HS.out.b1
          have hsb2 := HS.out.b2
          have hzw9 := hS9.bel.size
          have hz01 := Hb1.out.size
          have hof := tof_any w1.heap.size g bm s _ w9 hK9 hS9.bel.size (by omega) (by omega) (fun j => j = b ∨ j < w0.heap.size) (some ⟨b, 0, none⟩) i c xs hm (by omega) (by omega) (fun x hx => by have := hx100 x hx; omega) (hLv.stays hst9) (fun j hj => by
            rcases hj with rfl | hj
            · exact ⟨by omega, .inl hbl⟩
            · exact ⟨by omega, .inl (by omega)⟩)
          rw [HD.out.1] at hof
          have Hof := Lib.hid hof
          have Hw9 := Lib.hid hw9
          have Hs9 := Lib.hid (And.intro hth9 hi9)
          have hB7 : Blk w9 w6.heap.size 38 D := hbS7.below hb79 (by omega)
          have H9 := Lib.hid (And.intro hB7 (And.intro hbS9 (And.intro hS9.bel (And.intro hsz7 (And.intro hz8 hsz9)))))
          clear hr7 hbS7 hsz7 hsz6 hw9 hth9 hi9 hbS9 hbel9 hsz9 hb79 hr9 hS9 hK9 hx100 hLv hb0 hbl hm hst9 hsb1 hsb2 hof hB7 hb8 hz8 Hr2 hzw9 hz01
          go_wp2_with (refine wpList_store_mid rfl 38 _ _ rfl w8.heap.size 0 D.toArray rfl rfl Hs9.out.1 Hs9.out.2 HD.out.2.2.1 ?_; simp only [Act.put]; refine cast (congrArg (fun z => wpList _ _ _ _ _ z) Hw9.out.symm) ?_)
          refine Hof.out.mono ?_
          rintro e wA ⟨rfl, hKA, hOA⟩
          obtain ⟨hB7, hB9, hbw9, hsz7, hz8, hsz9⟩ := H9.out
          obtain ⟨wC, hwC, ⟨hthC, hiC⟩, hbSC, hbelC, hszC⟩ := dig_local wA D HD.out.2.1
          have hzA := hOA.size
          have hBx : Blk wC w6.heap.size 38 D := (hOA.blk hB7 (Tn.keep (.inr (.inl rfl)))).below hbelC (by omega)
          have hBy : Blk wC w8.heap.size 38 D := (hOA.blk hB9 (Tn.keep (.inr (.inr rfl)))).below hbelC (by omega)
          have hbwC : Below w1.heap.size w1 wC := (hbw9.trans (hOA.above (fun j hj => hj.1) hbw9.size)).trans (hbelC.mono (by have := hbw9.size; omega))
          have HwC := Lib.hid hwC
          have HsC := Lib.hid (And.intro hthC hiC)
          have HC := Lib.hid (And.intro hBx.range (And.intro hBy.range (And.intro hbSC.range (Hb01.out.trans (hbwC.mono Hb01.out.size)))))
          clear hB7 hB9 hbw9 hsz7 hz8 hsz9 hwC hthC hiC hbSC hbelC hszC hzA hBx hBy hbwC hKA hOA Hof
          go_wp2_with (first
            | (refine wpList_store_mid rfl 38 _ _ rfl wA.heap.size 0 D.toArray rfl rfl HsC.out.1 HsC.out.2 HD.out.2.2.1 ?_; simp only [Act.put]; refine cast (congrArg (fun z => wpList _ _ _ _ _ z) HwC.out.symm) ?_)
            | (refine load_mid_g (by rfl) 38 _ rfl w6.heap.size 0 rfl D _ HC.out.1 Try.underlying38 rfl HD.out.2.2.2 ?_; simp only [Act.put])
            | (refine load_mid_g (by rfl) 38 _ rfl w8.heap.size 0 rfl D _ HC.out.2.1 Try.underlying38 rfl HD.out.2.2.2 ?_; simp only [Act.put])
            | (refine load_mid_g (by rfl) 38 _ rfl wA.heap.size 0 rfl D _ HC.out.2.2.1 Try.underlying38 rfl HD.out.2.2.2 ?_; simp only [Act.put]))
          go_ret
          exact ⟨rfl, HC.out.2.2.2⟩

end Go.Proofs.Ytbdocaohnigekaa.treeRoot
