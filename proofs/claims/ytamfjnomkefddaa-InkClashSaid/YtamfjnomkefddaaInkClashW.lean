/-
  For all lists of byte slices l (20 at most are looked at): a book tells of a clash just if two unlike inputs have the same digest, or one has that of noughts alone; InkClash returns true; no condition.
-/
import Derived.Test.YtamfjnomkefddaaOpen
import Derived.Test.YtamfjnomkefddaaLists
import Derived.Test.YtamfjnomkefddaaClash3
import Derived.Test.YtamfjnomkefddaaAnyOrderH
import Derived.Test.YtamfjnomkefddaaEq
import Derived.Deep.RegionHeld3
import Derived.Deep.RegionWith
import Derived.Deep.DeepCutAuto
namespace Go.Proofs.Ytamfjnomkefddaa.inkClash
open Go.ChangeShapes Go.WideShapes Go.ChangeAt Go.RowKit
set_option linter.unusedVariables false

set_option maxRecDepth 100000 in
set_option maxHeartbeats 6400000 in
theorem walk (Al : Option Addr) (nl cl : Nat) (l : List (List UInt8)) (w : World) (hl : ArgL w Al nl cl l) :
    Calls Try.prog 5 #[.slice Al nl cl] w fun e w' => e = .returned (.bool true) ∧ Below w.heap.size w w' := by
  obtain ⟨hln, hlc, hlm, hlL⟩ := hl
  unfold maxLen at hlm
  have Hl := Lib.hid (And.intro hln (And.intro hlc hlL))
  have hn63 : nl ≤ 9223372036854775807 := by omega
  clear hln hlL
  go_enter Try.func5, Try.ntmps5
  go_wp2_with (go_at_call 26; refine (works3_any _).mono ?_; rintro e w0 ⟨rfl, hb0⟩)
  have Hb0 := Lib.hid hb0
  clear hb0
  refine (bnew_any _).mono ?_
  rintro e w1 ⟨S1, g, rfl, hS1, hk1, hb1⟩
  have hk0 : BkS w w1 g (runL (l.take 0)) [] := bks_new Hb0.out hS1 hk1 hb1
  have H1 := Lib.hid hk0
  clear hS1 hk1 hb1 hk0
  go_wp2_with fail
  go_loopw [4, 5] (fun cl v wr => ∃ j : Nat, j ≤ nl ∧ j ≤ 20 ∧ v = .int .i64 j ∧ cl = .bool (runL (l.take j)).2.1 ∧ BkS w wr g (runL (l.take j)) []) (fun _ v _ => 20 - (intOf v).toNat)
  case atStart => exact ⟨0, Nat.zero_le _, by omega, rfl, rfl, H1.out⟩
  case round =>
    obtain ⟨j, hj, hj40, rfl, rfl, hbk⟩ := hrel
    have hi0 : (0 : Int) ≤ j := by omega
    have hi40 : (j : Int) ≤ 20 := by omega
    have hrl := runL_len (l.take j)
    rw [List.length_take] at hrl
    by_cases hin : j < nl ∧ j < 20
    · obtain ⟨hlt, hl4⟩ := hin
      have hi1 : (j : Int) < nl := by omega
      have hi2 : (j : Int) < 20 := by omega
      have hjl : j < l.length := by rw [Hl.out.1]; exact hlt
      obtain ⟨b, off, Aj, cj, rfl, hb, hcell, hlx, hcx, hBx⟩ := Hl.out.2.2.at_ hjl
      have hcw := (hbk.bel.cell hb).trans hcell
      have hsucc := runL_succ l j hjl
      obtain ⟨x, hx⟩ : ∃ x, l[j] = x := ⟨_, rfl⟩
      rw [hx] at hcell hcw hlx hBx hsucc
      obtain ⟨nx, hnx⟩ : ∃ nx, x.length = nx := ⟨_, rfl⟩
      rw [hnx] at hcell hcw hlx
      have hstep := clash_step (l.take j) x
      obtain ⟨s, hs⟩ : ∃ s, runL (l.take j) = s := ⟨_, rfl⟩
      rw [hs] at hbk hsucc hrl hstep ⊢
      obtain ⟨D1, hDa, hDb, hDc⟩ := dig_cells x
      have HD1 := Lib.hid (And.intro hDa (And.intro hDb hDc))
      have hof := bks_of hbk (by omega) (by omega) Aj nx cj x hBx hnx hlx hcx
      rw [hDb] at hof
      have Hof := Lib.hid hof
      have Hx := Lib.hid (And.intro hb (And.intro hcell (And.intro hlx (And.intro hcx (And.intro hBx (And.intro hsucc (And.intro hstep (And.intro hnx hjl))))))))
      clear hof hsucc hx hbk hBx hcell hlx hrl hs hstep hDa hDb hDc
      obtain ⟨cc, hcc⟩ : ∃ cc, s.2.1 = cc := ⟨_, rfl⟩
      rw [hcc]
      go_wp2_with fail
      refine Hof.out.mono ?_
      rintro e w3 ⟨rfl, hk3'⟩
      clear Hof hcw
      obtain ⟨wS, hwS, hthi, hdS, hbS, hzS⟩ := dig_local w3 D1 HD1.out.1
      have HwS := Lib.hid hwS
      have Hthi := Lib.hid hthi
      have Hk3 := Lib.hid (hk3'.newD hbS hdS)
      clear hk3' hwS hthi hdS hbS hzS
      by_cases hx6 : x.length ≤ 65536
      rotate_left
      · have e5 : ofE x = 5 := if_neg hx6
        have hst : stepL s x = (s.1, s.2.1, s.2.2) := ofL_long hx6
        rw [e5]
        have hk4 := Hk3.out.less
        have hcl := bks_clash hk4
        rw [hst] at hcl
        have Hcl := Lib.hid hcl
        have Hst := Lib.hid hst
        have Hk4 := Lib.hid hk4
        clear e5 hst hk4 hcl
        rcases (by cases cc <;> simp : cc = true ∨ cc = false) with rfl | rfl
        all_goals
          go_wp2_with (refine wpList_store_mid rfl 28 _ _ rfl w3.heap.size 0 D1.toArray rfl rfl Hthi.out.1 Hthi.out.2 HD1.out.2.2 ?_; simp only [Act.put]; refine cast (congrArg (fun z => wpList _ _ _ _ _ z) HwS.out.symm) ?_)
          go_loopw [4, 8] (fun f v wr => f = .bool s.2.1 ∧ v = .int .i64 0 ∧ BkS w wr g (stepL s x) []) (fun _ _ _ => 0)
          case atStart => exact ⟨by rw [hcc], rfl, Hk4.out⟩
          case round =>
            obtain ⟨rfl, rfl, hbk⟩ := hrel
            have hcl := bks_clash hbk
            rw [Hst.out] at hcl
            have hcl : Calls Try.prog 24 #[.pointer (some ⟨g, 0, none⟩)] wr fun e w' => e = .returned (.bool s.2.1) ∧ w' = wr := hcl
            rw [hcc] at hcl ⊢
            have Hcl' := Lib.hid hcl
            have Hbk := Lib.hid hbk
            clear hbk hcl
            go_wp2_with (go_at_call 24; refine Hcl'.out.mono ?_; rintro e w' ⟨rfl, rfl⟩)
            all_goals exact ⟨⟨j + 1, by omega, by omega, by go_num, by rw [Hx.out.2.2.2.2.2.1, Hst.out, hcc], by rw [Hx.out.2.2.2.2.2.1]; exact Hbk.out⟩, by simp [intOf]; omega⟩
      · have e0 : ofE x = 0 := if_pos hx6
        rw [e0]
        clear e0
        have hzq := eq_zero32 D1 x (by rw [← HD1.out.2.1]; unfold ofD; rw [if_pos hx6])
        obtain ⟨cz, hcz⟩ : ∃ cz, (digest x == List.replicate 32 0) = cz := ⟨_, rfl⟩
        have hst3 := Hx.out.2.2.2.2.2.2.1
        unfold zero32 at hst3
        rw [hcc, hcz] at hst3
        rw [hcz] at hzq
        have Hk4 := Lib.hid Hk3.out.less
        have hdB := Hk3.out.dig (d := (w3.heap.size, D1)) (by simp)
        have HdB := Lib.hid hdB
        clear hdB
        cases cc with
        | true =>
          obtain ⟨B0, hB0⟩ : ∃ B0, (true || cz) = B0 := ⟨_, rfl⟩
          rw [hB0] at hst3
          have Hstep := Lib.hid hst3
          have Hb0' := Lib.hid (show B0 = true by rw [← hB0]; rfl)
          clear hst3 hB0
          go_wp2_with (refine wpList_store_mid rfl 28 _ _ rfl w3.heap.size 0 D1.toArray rfl rfl Hthi.out.1 Hthi.out.2 HD1.out.2.2 ?_; simp only [Act.put]; refine cast (congrArg (fun z => wpList _ _ _ _ _ z) HwS.out.symm) ?_)
          go_loopw [4, 8] (fun f v wr => ∃ k : Nat, k ≤ j ∧ v = .int .i64 k ∧ f = .bool true ∧ BkS w wr g (stepL s x) []) (fun _ v _ => j - (intOf v).toNat)
          case atStart => exact ⟨0, Nat.zero_le _, rfl, rfl, Hk4.out⟩
          case round =>
            obtain ⟨k, hk, rfl, rfl, hbk⟩ := hrel
            have hk0 : (0 : Int) ≤ k := by omega
            have hk20' : (k : Int) ≤ 20 := by omega
            by_cases hkj : k < j
            · have hk1 : (k : Int) < j := by omega
              have hk2 : (k : Int) < nl := by omega
              have Hbk := Lib.hid hbk
              clear hbk
              go_wp2
              go_quiet (fail)
              go_wp2
              go_roundw
              case rel => exact ⟨k + 1, by omega, by go_num, rfl, Hbk.out.below (below_drewN (Below.refl _ _) _)⟩
              case measure => simp [intOf]; omega
            · have hkj' : k = j := by omega
              subst hkj'
              have hB := Hstep.out hx6
              rw [Hb0'.out, Bool.true_or] at hB
              have hcl := bks_clash hbk
              rw [← hB] at hcl
              have Hcl := Lib.hid hcl
              have Hbk := Lib.hid hbk
              have HB := Lib.hid hB
              clear hbk hcl hB
              go_wp2_with (go_at_call 24; refine Hcl.out.mono ?_; rintro e w' ⟨rfl, rfl⟩)
              refine ⟨⟨k + 1, by omega, by omega, by go_num, ?_, ?_⟩, by simp [intOf]; omega⟩
              · rw [Hx.out.2.2.2.2.2.1, ← HB.out]
              · rw [Hx.out.2.2.2.2.2.1]; exact Hbk.out
        | false =>
          obtain ⟨B0, hB0⟩ : ∃ B0, (false || cz) = B0 := ⟨_, rfl⟩
          rw [hB0] at hst3
          have Hstep := Lib.hid hst3
          have Hb0' := Lib.hid (show B0 = cz by rw [← hB0]; rfl)
          clear hst3 hB0
          go_wp2_with (first
            | (refine wpList_store_mid rfl 28 _ _ rfl w3.heap.size 0 D1.toArray rfl rfl Hthi.out.1 Hthi.out.2 HD1.out.2.2 ?_; simp only [Act.put]; refine cast (congrArg (fun z => wpList _ _ _ _ _ z) HwS.out.symm) ?_)
            | (refine load_row_g (by rfl) 28 _ rfl w3.heap.size rfl 28 D1.toArray (0, 0) _ HdB.out Try.underlying28 rfl Hthi.out.2 ?_; simp only [Act.put]))
          go_loopw [4, 8] (fun f v wr => ∃ k : Nat, k ≤ j ∧ v = .int .i64 k ∧ f = .bool (B0 || hit (l.take k) x) ∧ BkS w wr g (stepL s x) []) (fun _ v _ => j - (intOf v).toNat)
          case atStart => exact ⟨0, Nat.zero_le _, rfl, by rw [Hb0'.out]; simp [hit], Hk4.out⟩
          case round =>
            obtain ⟨k, hk, rfl, rfl, hbk⟩ := hrel
            have hk0 : (0 : Int) ≤ k := by omega
            have hk20' : (k : Int) ≤ 20 := by omega
            by_cases hkj : k < j
            · have hk1 : (k : Int) < j := by omega
              have hk2 : (k : Int) < nl := by omega
              have hkl : k < l.length := by have := Hx.out.2.2.2.2.2.2.2.2; omega
              obtain ⟨b', off', Ak, ck, eb, hb', hcellk, hlk, hck, hBk⟩ := Hl.out.2.2.at_ hkl
              cases eb
              have htk : l.take (k + 1) = l.take k ++ [l[k]] := List.take_succ_eq_append_getElem hkl
              obtain ⟨y, hy⟩ : ∃ y, l[k] = y := ⟨_, rfl⟩
              rw [hy] at hcellk hlk hBk htk
              obtain ⟨ny, hny⟩ : ∃ n, y.length = n := ⟨_, rfl⟩
              rw [hny] at hcellk hlk
              have hnext : (B0 || hit (l.take (k + 1)) x) = ((B0 || hit (l.take k) x) || same x y) := by rw [htk, hit_snoc, Bool.or_assoc]
              obtain ⟨h, hh⟩ : ∃ h, (B0 || hit (l.take k) x) = h := ⟨_, rfl⟩
              rw [hh] at hnext ⊢
              have Hbk := Lib.hid hbk
              have cq := (hbk.bel.cell hb').trans hcellk
              have cp := (hbk.bel.cell hb').trans Hx.out.2.1
              have ca : wr.drew.cell? ⟨b, off + k, none⟩ = some (.slice Ak ny ck) := cq
              have cb' : wr.drew.cell? ⟨b, off + j, none⟩ = some (.slice Aj nx cj) := cp
              clear hbk htk hh hcellk
              cases h with
              | true =>
                rw [Bool.true_or] at hnext
                have Hn := Lib.hid hnext
                clear hnext
                go_wp2
                go_quiet (fail)
                go_wp2
                go_roundw
                case rel => exact ⟨k + 1, by omega, by go_num, by rw [Hn.out], Hbk.out.below (below_drewN (Below.refl _ _) _)⟩
                case measure => simp [intOf]; omega
              | false =>
                rw [Bool.false_or] at hnext
                by_cases hy6 : y.length ≤ 65536
                rotate_left
                · have hsm : same x y = false := by unfold same; simp [hy6]
                  rw [hsm] at hnext
                  have Hn := Lib.hid hnext
                  have hgt : (65536 : Int) < ny := by omega
                  have hde : decide ((ny : Int) ≤ 65536) = false := decide_eq_false (by omega)
                  clear hnext hsm
                  go_wp2
                  go_quiet (fail)
                  go_wp2
                  go_roundw
                  case rel => exact ⟨k + 1, by omega, by go_num, by rw [Hn.out], Hbk.out.below (below_drewN (Below.refl _ _) _)⟩
                  case measure => simp [intOf]; omega
                have hle : (ny : Int) ≤ 65536 := by omega
                have hnot : ∀ (x : Bool) (w : World), (Op.unary .not (.bool x)).run Try.prog w = .ok (.bool (!x)) w := fun _ _ => rfl
                by_cases hyx : y = x
                · have hsm : same x y = false := by unfold same; rw [hyx]; simp
                  have hz : (y == x) = true := by rw [hyx]; simp
                  rw [hsm] at hnext
                  have hqb := fun q => eqBytesQ Ak Aj ck cj ny nx y x (wr.drewN q) (hBk.after (below_drewN Hbk.out.bel q)) (Hx.out.2.2.2.2.1.after (below_drewN Hbk.out.bel q)) hny Hx.out.2.2.2.2.2.2.2.1 (by omega) (by have := Hx.out; omega)
                  rw [hz] at hqb
                  have Hqb := Lib.hid hqb
                  have Hn := Lib.hid hnext
                  clear hnext hsm hz hqb
                  go_wp2
                  go_quiet ((go_at_call 19; exact Calls.quiet_of (Hqb.out _)))
                  go_wp2
                  go_roundw
                  case rel => exact ⟨k + 1, by omega, by go_num, by rw [Hn.out], Hbk.out.below (below_drewN (Below.refl _ _) _)⟩
                  case measure => simp [intOf]; omega
                · have hsm : same x y = (digest y == digest x) := by unfold same; simp [hy6, hyx]
                  have hz : (y == x) = false := by simpa using hyx
                  rw [hsm] at hnext
                  have hqb := eqBytes Ak Aj ck cj ny nx y x wr.drew (hBk.after Hbk.out.bel.drew) (Hx.out.2.2.2.2.1.after Hbk.out.bel.drew) hny Hx.out.2.2.2.2.2.2.2.1 (by omega) (by have := Hx.out; omega)
                  rw [hz] at hqb
                  obtain ⟨Dy, hDy32, hDyv⟩ : ∃ D : List Value, D.length = 32 ∧ cbs (digest y) = D := ⟨_, by rw [cbs_length, dlen], rfl⟩
                  obtain ⟨Dx, hDx32, hDxv⟩ : ∃ D : List Value, D.length = 32 ∧ cbs (digest x) = D := ⟨_, by rw [cbs_length, dlen], rfl⟩
                  have hsy := fun w' (h : Below w.heap.size w w') => of_any Ak ny ck y w' (hBk.after h) hny hlk hck (by omega)
                  have hsx := fun w' (h : Below w.heap.size w w') => of_any Aj nx cj x w' (Hx.out.2.2.2.2.1.after h) Hx.out.2.2.2.2.2.2.2.1 Hx.out.2.2.1 Hx.out.2.2.2.1 (by have := Hx.out; omega)
                  have hqd := fun w => eq_digests w (digest y) (digest x) (dlen y) (dlen x)
                  rw [hDyv] at hsy
                  rw [hDxv] at hsx
                  rw [hDyv, hDxv] at hqd
                  obtain ⟨z, hzz⟩ : ∃ z, (digest y == digest x) = z := ⟨_, rfl⟩
                  rw [hzz] at hqd hnext
                  have Hqb := Lib.hid hqb
                  have Hn := Lib.hid hnext
                  have Hsy := Lib.hid hsy
                  have Hsx := Lib.hid hsx
                  clear hnext hsm hz hqb hsy hsx hDyv hDxv hzz
                  go_wp2
                  go_region_held3 (fun W' => W'.cell? ⟨b, off + k, none⟩ = some (.slice Ak ny ck) ∧ W'.cell? ⟨b, off + j, none⟩ = some (.slice Aj nx cj)) (first | with_reducible exact ⟨ca, cb'⟩ | with_reducible exact ⟨ca9, cb9⟩ | with_reducible exact ⟨ca10, cb10⟩ | with_reducible exact ⟨ca11, cb11⟩)
                    (first
                    | (go_at_call 19; refine Hqb.out.mono ?_; rintro e w9 ⟨rfl, hb9⟩; have ca9 := (hb9.cell (World.block_lt_of_cell? _ _ ca)).trans ca; have cb9 := (hb9.cell (World.block_lt_of_cell? _ _ cb')).trans cb'; have hbb9 := Hbk.out.bel.drew.trans (hb9.mono (by have := Hbk.out.bel.size; exact this)))
                    | (go_at_call 28; refine (Hsy.out w9 hbb9).mono ?_; rintro e w10 ⟨rfl, hb10⟩; have ca10 := (hb10.cell (World.block_lt_of_cell? _ _ ca9)).trans ca9; have cb10 := (hb10.cell (World.block_lt_of_cell? _ _ cb9)).trans cb9; have hbb10 := hbb9.trans (hb10.mono hbb9.size))
                    | (go_at_call 28; refine (Hsx.out w10 hbb10).mono ?_; rintro e w11 ⟨rfl, hb11⟩; have ca11 := (hb11.cell (World.block_lt_of_cell? _ _ ca10)).trans ca10; have cb11 := (hb11.cell (World.block_lt_of_cell? _ _ cb10)).trans cb10))
                  go_wp2
                  go_roundw
                  case rel => exact ⟨k + 1, by omega, by go_num, by rw [Hn.out], ((Hbk.out.below ((Below.refl _ _).drew.trans hb9)).below hb10).below hb11⟩
                  case measure => simp [intOf]; omega
            · have hkj' : k = j := by omega
              subst hkj'
              have hB := Hstep.out hx6
              rw [hB]
              have hcl := bks_clash hbk
              have Hcl := Lib.hid hcl
              have Hbk := Lib.hid hbk
              clear hbk hcl hB
              obtain ⟨c2, hc2⟩ : ∃ c2, (stepL s x).2.1 = c2 := ⟨_, rfl⟩
              rw [hc2] at Hcl ⊢
              go_wp2_with (go_at_call 24; refine Hcl.out.mono ?_; rintro e w' ⟨rfl, rfl⟩)
              refine ⟨⟨k + 1, by omega, by omega, by go_num, ?_, ?_⟩, by simp [intOf]; omega⟩
              · rw [Hx.out.2.2.2.2.2.1, hc2]
              · rw [Hx.out.2.2.2.2.2.1]; exact Hbk.out
    · have Hbk := Lib.hid hbk
      clear hbk
      by_cases hlt : j < nl
      · have hi1 : (j : Int) < nl := by omega
        have hi2 : ¬ (j : Int) < 20 := by omega
        go_wp2
        go_ret
        exact ⟨rfl, Hbk.out.bel⟩
      · have hi1 : ¬ (j : Int) < nl := by omega
        go_wp2
        go_ret
        exact ⟨rfl, Hbk.out.bel⟩

end Go.Proofs.Ytamfjnomkefddaa.inkClash
