/-
  For all numbers of sectors and all lists of calls l (60 at most are played, their bytes cut to 100): a plate answers as the document's plate does, call by call, and shows the same sectors; PlatePlays returns true; no condition.
-/
import Derived.Test.YtmcbjcopipafdaaOpen
import Derived.Test.YtmcbjcopipafdaaBad5
import Derived.Test.YtmcbjcopipafdaaAwake
import Derived.Deep.RegionHeld3
import Derived.Deep.RegionWith
import Derived.Deep.DeepCutAuto
namespace Go.Proofs.Ytmcbjcopipafdaa.platePlays
open Go.ChangeShapes Go.WideShapes Go.ChangeAt Go.RowKit
set_option linter.unusedVariables false

theorem run_frontU (A : Option Addr) (n c u : Nat) (h : u ≤ c) (w : World) :
    (Instr.sliceAt 23 (.slice A n c) none (some (.int .i64 (u : Int))) none).run Try.prog w = .ok (.slice A u c) w := by
  have h1 : (u : Int) ≤ c := by omega
  go_simp
def docs (kind a bit : Int) (AB : Option Addr) (nB cB : Nat) (AK : Option Addr) (nK cK : Nat) : List Value := [.int .i64 kind, .int .i64 a, .int .i64 bit, .slice AB nB cB, .slice AK nK cK]
theorem info_do : (Try.prog.info? 43).map (·.size) = some 5 := by kernel_rfl

set_option maxRecDepth 100000 in
set_option maxHeartbeats 6400000 in
theorem walk (sectors : Int) (Al : Option Addr) (nl cl : Nat) (l : List DoL) (w : World) (hsectors : (Lit.int .i64 sectors).wf = true) (hl : ArgDo w Al nl cl l) :
    Calls Try.prog 15 #[.int .i64 sectors, .slice Al nl cl] w fun e w' => e = .returned (.bool true) ∧ Below w.heap.size w w' := by
  have hnot : ∀ (x : Bool) (w : World), (Op.unary .not (.bool x)).run Try.prog w = .ok (.bool (!x)) w := fun _ _ => rfl
  have hlc := hl.2.2.1
  unfold maxLen at hlc
  have hln := hl.2.1
  have Hl := Lib.hid hl
  have Hs := Lib.hid hsectors
  clear hl hsectors
  by_cases hbad : sectors < 1 ∨ 4096 < sectors
  · have c1 := Lib.hid (new_none sectors hbad)
    have c2 := Lib.hid (rnew_none sectors hbad)
    clear hbad
    go_enter Try.func15, Try.ntmps15
    go_wp2_with fail
    refine (c1.out _).mono ?_
    rintro e w' ⟨rfl, hw⟩
    obtain rfl : w = w' := hw.symm
    go_wp2_with fail
    refine (c2.out _).mono ?_
    rintro e w' ⟨rfl, hw⟩
    obtain rfl : w = w' := hw.symm
    go_wp2_with fail
    go_loopw [9] (fun v wr => v = .int .i64 0 ∧ wr = w) (fun _ _ => 0)
    case atStart => exact ⟨rfl, rfl⟩
    case round =>
      obtain ⟨rfl, hw⟩ := hrel
      subst hw
      by_cases h0 : nl = 0
      · subst h0
        go_wp2_with (go_at_call 16; refine (awake_any _).mono ?_; rintro e w2 ⟨rfl, hb2⟩)
        go_ret
        exact ⟨rfl, hb2⟩
      · have i1 : (0 : Int) < nl := by omega
        go_wp2_with (go_at_call 16; refine (awake_any _).mono ?_; rintro e w2 ⟨rfl, hb2⟩)
        go_ret
        exact ⟨rfl, hb2⟩
  · obtain ⟨n, rfl⟩ : ∃ n : Nat, sectors = (n : Int) := ⟨sectors.toNat, by omega⟩
    have h1 : 1 ≤ n := by omega
    have h2 : n ≤ 4096 := by omega
    clear hbad
    go_enter Try.func15, Try.ntmps15
    go_wp2_with fail
    refine (pk_new (w0 := w) n h1 h2 (Below.refl _ _)).mono ?_
    rintro e w1 ⟨g, r, m, rfl, q1, q2, q3, hkk, hbb⟩
    have H1 := Lib.hid (And.intro hkk hbb)
    clear hkk hbb q1 q2 q3
    go_wp2_with fail
    refine (rnew_any n h1 h2 w1 (GRM g r m) (fun i hi => H1.out.1.1.lt i hi)).mono ?_
    rintro e w2 ⟨gr, rs, rn, rw, rfl, q1, q2, q3, q4, hf, hb⟩
    have HD := Lib.hid (duo_new H1.out.1 q1 q2 q3 q4 hf hb)
    clear q1 q2 q3 q4 hf hb H1
    go_wp2_with fail
    go_loopw [9] (fun v wr => ∃ j : Nat, j ≤ nl ∧ j ≤ 60 ∧ v = .int .i64 j ∧ Duos w (fun i => GRM g r m i ∨ G4 gr rs rn rw i) g r m gr rs rn rw wr) (fun v _ => 60 - (intOf v).toNat)
    case atStart => exact ⟨0, Nat.zero_le _, by omega, rfl, HD.out⟩
    case round =>
      obtain ⟨j, hj, hj60, rfl, P, R, hD⟩ := hrel
      have hi0 : (0 : Int) ≤ j := by omega
      by_cases hgo : j < nl ∧ j < 60
      · obtain ⟨hlt, hl6⟩ := hgo
        have hjl : j < l.length := by rw [Hl.out.1]; exact hlt
        have hi1 : (j : Int) < nl := by omega
        have hi6 : (j : Int) < 60 := by omega
        obtain ⟨b, off, rfl, hblt, f1, f2, f3, k0, k1, k2, ⟨AB, cB, k3, r1, r2, r3⟩, ⟨AK, nK, cK, k4, r4, r5⟩⟩ := Hl.out.at_ hjl
        obtain ⟨x, hx⟩ : ∃ x, l[j] = x := ⟨_, rfl⟩
        rw [hx] at f1 f2 f3 k0 k1 k2 k3 r1 r3 r4
        obtain ⟨nB, hnB⟩ : ∃ nB, x.b.length = nB := ⟨_, rfl⟩
        rw [hnB] at k3 r1
        obtain ⟨u, hu⟩ : ∃ u, min nB 100 = u := ⟨_, rfl⟩
        have hu1 : u ≤ nB := by omega
        have hu2 : u ≤ 100 := by omega
        have hmin : ∀ ts t w, (Builtin.min_ ts t #[.int .i64 (nB : Int), .int .i64 100]).run Try.prog w = .ok (.int .i64 (u : Int)) w := fun ts t w => by
          rw [run_min_int2]
          congr 2
          split <;> omega
        have hfr := run_frontU AB nB cB u (by omega)
        have hbel := hD.k.bel
        have hrange : wr.rangeAt b (off + j * 5) (docs x.kind x.a x.bit AB nB cB AK nK cK) := fun i v hv => by
          unfold docs at hv
          match i with
          | 0 => simp at hv; subst hv; exact (hbel.cell (p := ⟨b, off + j * 5 + 0, none⟩) hblt).trans k0
          | 1 => simp at hv; subst hv; exact (hbel.cell (p := ⟨b, off + j * 5 + 1, none⟩) hblt).trans k1
          | 2 => simp at hv; subst hv; exact (hbel.cell (p := ⟨b, off + j * 5 + 2, none⟩) hblt).trans k2
          | 3 => simp at hv; subst hv; exact (hbel.cell (p := ⟨b, off + j * 5 + 3, none⟩) hblt).trans k3
          | 4 => simp at hv; subst hv; exact (hbel.cell (p := ⟨b, off + j * 5 + 4, none⟩) hblt).trans k4
          | i + 5 => simp at hv
        have hz0 : Blk (wr.alloc (.cells (docs 0 0 0 none 0 0 none 0 0).toArray 43)) wr.heap.size 43 (docs 0 0 0 none 0 0 none 0 0) := Blk.new rfl rfl
        have hth := hz0.there
        have hz1 := hz0.setAll (vs := docs x.kind x.a x.bit AB nB cB AK nK cK) rfl
        have hbS : Below wr.heap.size wr ((wr.alloc (.cells (docs 0 0 0 none 0 0 none 0 0).toArray 43)).setCells wr.heap.size 0 (docs x.kind x.a x.bit AB nB cB AK nK cK)) := Below.setCells (Nat.le_refl _) _ ((Below.refl _ _).alloc (Nat.le_refl _) _)
        obtain ⟨wS, hwS⟩ : ∃ wS, (wr.alloc (.cells (docs 0 0 0 none 0 0 none 0 0).toArray 43)).setCells wr.heap.size 0 (docs x.kind x.a x.bit AB nB cB AK nK cK) = wS := ⟨_, rfl⟩
        rw [hwS] at hz1 hbS
        have d3 : wS.cell? ⟨wr.heap.size, 3, none⟩ = some (.slice AB nB cB) := hz1.cell rfl
        have e3 : wS.frozen? ⟨wr.heap.size, 3, none⟩ = false := hz1.free 3
        have hz2 : Blk (wS.setCell ⟨wr.heap.size, 3, none⟩ (.slice AB u cB)) wr.heap.size 43 (docs x.kind x.a x.bit AB u cB AK nK cK) := hz1.set_ 3 _
        have hb2 : Below wr.heap.size wr (wS.setCell ⟨wr.heap.size, 3, none⟩ (.slice AB u cB)) := hbS.setCell (Nat.le_refl _) _
        have hst := step_any (hD.below hb2) x.kind x.a x.bit f1 f2 f3 AB u cB (x.b.take u) (r3.front (by omega)) (by rw [List.length_take]; omega) (by omega) (by omega) r2 AK nK cK x.k r4 r5
        have Hst := Lib.hid hst
        have hone : (docs x.kind x.a x.bit AB nB cB AK nK cK).toArray.all (·.oneCell') = true := all_oneCell_toArray (by unfold docs; intro v hv; simp at hv; rcases hv with rfl | rfl | rfl | rfl | rfl <;> rfl)
        have Hone := Lib.hid hone
        have Hth := Lib.hid (show (wr.alloc (.cells (docs 0 0 0 none 0 0 none 0 0).toArray 43)).there wr.heap.size 0 (docs x.kind x.a x.bit AB nB cB AK nK cK).toArray.size from hth)
        clear hone
        have HwS := Lib.hid hwS
        have Hz2 := Lib.hid hz2
        have Hrg := Lib.hid hrange
        clear hst hth hwS hz0 hz1 hz2 hbS hb2 hrange k0 k1 k2 k3 k4 r1 r2 r3 r4 r5 f1 f2 f3 hx hD hbel hu hnB hjl hblt
        go_wp2_with (first
          | (refine wpList_load_mid rfl 43 _ rfl b (off + j * 5) rfl (docs x.kind x.a x.bit AB nB cB AK nK cK) _ Hrg.out Try.underlying43 rfl info_do ?_; simp only [Act.put])
          | (refine wpList_store_mid rfl 43 _ _ rfl wr.heap.size 0 (docs x.kind x.a x.bit AB nB cB AK nK cK).toArray rfl rfl Hth.out info_do Hone.out ?_; simp only [Act.put]; refine cast (congrArg (fun z => wpList _ _ _ _ _ z) HwS.out.symm) ?_)
          | (refine wpList_load_row rfl 43 _ rfl wr.heap.size rfl 43 (docs x.kind x.a x.bit AB u cB AK nK cK).toArray (0, 0) _ Hz2.out Try.underlying43 rfl info_do ?_))
        refine Hst.out.mono ?_
        rintro e w3 ⟨rfl, hD3⟩
        have HD3 := Lib.hid hD3
        clear hD3 Hst Hth HwS Hz2 Hrg Hone d3 e3 hmin hfr
        obtain ⟨u2, hu2'⟩ : ∃ u2, min n 12 = u2 := ⟨_, rfl⟩
        have hu3 : u2 ≤ 12 := by omega
        have hmin2 : ∀ ts t w, (Builtin.min_ ts t #[.int .i64 (n : Int), .int .i64 12]).run Try.prog w = .ok (.int .i64 (u2 : Int)) w := fun ts t w => by
          rw [run_min_int2]
          congr 2
          split <;> omega
        clear hu2'
        go_wp2_with fail
        go_loopw [11] (fun v wr => ∃ q : Nat, q ≤ u2 ∧ v = .int .i64 q ∧ Duos w (fun i => GRM g r m i ∨ G4 gr rs rn rw i) g r m gr rs rn rw wr) (fun v _ => u2 - (intOf v).toNat)
        case atStart => exact ⟨0, Nat.zero_le _, rfl, HD3.out⟩
        case round =>
          obtain ⟨q, hq, rfl, P4, R4, hD4⟩ := hrel
          have hq0 : (0 : Int) ≤ q := by omega
          have hq12 : (q : Int) ≤ 12 := by omega
          by_cases hqu : q < u2
          · have hq1 : (q : Int) < u2 := by omega
            have hst := step_any hD4 2 (q : Int) 0 (by decide) (wf_nat (by omega)) (by decide) none 0 0 [] (Bs.nil _ _) rfl (Nat.le_refl _) (by omega) (by simp [maxLen]) none 0 0 [] ⟨rfl, Nat.le_refl _, by simp [maxLen], Shows.empty _⟩ (by omega)
            have Hst := Lib.hid hst
            clear hst hD4
            go_wp2_with fail
            refine Hst.out.mono ?_
            rintro e w5 ⟨rfl, hD5⟩
            have HD5 := Lib.hid hD5
            clear hD5 Hst
            go_wp2_with fail
            go_roundw
            case rel => exact ⟨q + 1, by omega, by go_num, HD5.out⟩
            case measure => simp [intOf]; omega
          · have hq1 : ¬ (q : Int) < u2 := by omega
            have HD5 := Lib.hid (show Duos w (fun i => GRM g r m i ∨ G4 gr rs rn rw i) g r m gr rs rn rw _ from ⟨_, _, hD4⟩)
            clear hD4
            go_wp2_with fail
            go_roundw
            case rel => exact ⟨j + 1, by omega, by omega, by go_num, HD5.out⟩
            case measure => simp [intOf]; omega
      · have Hb := Lib.hid hD.k.bel
        clear hD
        by_cases hjn : j < nl
        · have i1 : (j : Int) < nl := by omega
          have i2 : ¬ (j : Int) < 60 := by omega
          go_wp2_with (go_at_call 16; refine (awake_any _).mono ?_; rintro e w3 ⟨rfl, hb3⟩)
          go_ret
          exact ⟨rfl, Hb.out.trans (hb3.mono Hb.out.size)⟩
        · have i1 : ¬ (j : Int) < nl := by omega
          go_wp2_with (go_at_call 16; refine (awake_any _).mono ?_; rintro e w3 ⟨rfl, hb3⟩)
          go_ret
          exact ⟨rfl, Hb.out.trans (hb3.mono Hb.out.size)⟩

end Go.Proofs.Ytmcbjcopipafdaa.platePlays
