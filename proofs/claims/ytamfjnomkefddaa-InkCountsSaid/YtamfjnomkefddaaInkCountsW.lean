/-
  For all lists of byte slices l (20 at most are looked at): a book has as many inputs as were unlike, and was asked as often as it answered; InkCounts returns true; no condition.
-/
import Derived.Test.YtamfjnomkefddaaOpen
import Derived.Test.YtamfjnomkefddaaLists
import Derived.Test.YtamfjnomkefddaaBks
import Derived.Test.YtamfjnomkefddaaAnyOrderH
import Derived.Test.YtamfjnomkefddaaEq
import Derived.Deep.RegionHeld3
import Derived.Deep.RegionWith
import Derived.Deep.DeepCutAuto
namespace Go.Proofs.Ytamfjnomkefddaa.inkCounts
open Go.ChangeShapes Go.WideShapes Go.ChangeAt Go.RowKit
set_option linter.unusedVariables false

set_option maxRecDepth 100000 in
set_option maxHeartbeats 6400000 in
theorem walk (Al : Option Addr) (nl cl : Nat) (l : List (List UInt8)) (w : World) (hl : ArgL w Al nl cl l) :
    Calls Try.prog 7 #[.slice Al nl cl] w fun e w' => e = .returned (.bool true) ∧ Below w.heap.size w w' := by
  obtain ⟨hln, hlc, hlm, hlL⟩ := hl
  unfold maxLen at hlm
  have Hl := Lib.hid (And.intro hln (And.intro hlc hlL))
  have hn63 : nl ≤ 9223372036854775807 := by omega
  clear hln hlL
  go_enter Try.func7, Try.ntmps7
  go_wp2_with (go_at_call 26; refine (works3_any _).mono ?_; rintro e w0 ⟨rfl, hb0⟩)
  have Hb0 := Lib.hid hb0
  clear hb0
  refine (bnew_any _).mono ?_
  rintro e w1 ⟨S1, g, rfl, hS1, hk1, hb1⟩
  have hk0 : BkS w w1 g (runL (l.take 0)) [] := bks_new Hb0.out hS1 hk1 hb1
  have H1 := Lib.hid hk0
  clear hS1 hk1 hb1 hk0
  go_wp2_with fail
  go_loopw [4, 5, 6] (fun ma sk v wr => ∃ j : Nat, j ≤ nl ∧ j ≤ 20 ∧ v = .int .i64 j ∧ ma = .int .i64 ((runL (l.take j)).1.length : Int) ∧ sk = .int .i64 ((runL (l.take j)).2.2 : Int) ∧ BkS w wr g (runL (l.take j)) []) (fun _ _ v _ => 20 - (intOf v).toNat)
  case atStart => exact ⟨0, Nat.zero_le _, by omega, rfl, rfl, rfl, H1.out⟩
  case round =>
    obtain ⟨j, hj, hj40, rfl, rfl, rfl, hbk⟩ := hrel
    have hi0 : (0 : Int) ≤ j := by omega
    have hi40 : (j : Int) ≤ 20 := by omega
    have hrl := runL_len (l.take j)
    rw [List.length_take] at hrl
    by_cases hin : j < nl ∧ j < 20
    · obtain ⟨hlt, hl4⟩ := hin
      have hi1 : (j : Int) < nl := by omega
      have hi2 : (j : Int) < 20 := by omega
      have hjl : j < l.length := by rw [Hl.out.1]; exact hlt
      obtain ⟨b, off, Aj, cj, rfl, hb, hcell, hlx, hcx, hBx⟩ := Hl.out.2.2.at_ hjl
      have hcw := (hbk.bel.cell hb).trans hcell
      have hsucc := runL_succ l j hjl
      have hmem := runL_mem (l.take j)
      obtain ⟨x, hx⟩ : ∃ x, l[j] = x := ⟨_, rfl⟩
      rw [hx] at hcell hcw hlx hBx hsucc
      obtain ⟨nx, hnx⟩ : ∃ nx, x.length = nx := ⟨_, rfl⟩
      rw [hnx] at hcell hcw hlx
      obtain ⟨s, hs⟩ : ∃ s, runL (l.take j) = s := ⟨_, rfl⟩
      rw [hs] at hbk hsucc hrl hmem ⊢
      have hno := bks_noted hbk (by omega) (by omega) Aj nx cj x hBx hnx hlx hcx
      have Hno := Lib.hid hno
      have Hx := Lib.hid (And.intro hb (And.intro hcell (And.intro hlx (And.intro hcx (And.intro hBx (And.intro hsucc (And.intro hmem (And.intro hnx hjl))))))))
      have hk20 : s.2.2 ≤ 20 := by omega
      have hm20 : s.1.length ≤ 20 := by omega
      clear hno hsucc hx hbk hBx hcell hlx hrl hs hmem
      go_wp2_with fail
      refine Hno.out.mono ?_
      rintro e w2 ⟨rfl, hk2⟩
      have hcw2 := (hk2.bel.cell Hx.out.1).trans Hx.out.2.1
      by_cases hx6 : x.length ≤ 65536
      · have hd : decide (x.length ≤ 65536) = true := by simp [hx6]
        rw [hd]
        have Hk2 := Lib.hid hk2
        clear hk2 hd Hno
        go_wp2
        go_loopw [7, 8] (fun f v wr => ∃ k : Nat, k ≤ j ∧ v = .int .i64 k ∧ f = .bool (decide (x ∉ l.take k)) ∧ BkS w wr g (stepL s x) []) (fun _ v _ => j - (intOf v).toNat)
        case atStart => exact ⟨0, Nat.zero_le _, rfl, by simp, Hk2.out⟩
        case round =>
          obtain ⟨k, hk, rfl, rfl, hbk⟩ := hrel
          have hk0 : (0 : Int) ≤ k := by omega
          have hk20' : (k : Int) ≤ 20 := by omega
          by_cases hkj : k < j
          · have hk1 : (k : Int) < j := by omega
            have hk2 : (k : Int) < nl := by omega
            have hkl : k < l.length := by have := Hx.out.2.2.2.2.2.2.2.2; omega
            obtain ⟨b', off', Ak, ck, eb, hb', hcellk, hlk, hck, hBk⟩ := Hl.out.2.2.at_ hkl
            cases eb
            have htk : l.take (k + 1) = l.take k ++ [l[k]] := List.take_succ_eq_append_getElem hkl
            obtain ⟨y, hy⟩ : ∃ y, l[k] = y := ⟨_, rfl⟩
            rw [hy] at hcellk hlk hBk htk
            obtain ⟨ny, hny⟩ : ∃ n, y.length = n := ⟨_, rfl⟩
            rw [hny] at hcellk hlk
            have ca : wr.drew.cell? ⟨b, off + k, none⟩ = some (.slice Ak ny ck) := (hbk.bel.cell hb').trans hcellk
            have cb' : wr.drew.cell? ⟨b, off + j, none⟩ = some (.slice Aj nx cj) := (hbk.bel.cell hb').trans Hx.out.2.1
            have hnext : decide (x ∉ l.take (k + 1)) = (decide (x ∉ l.take k) && !(y == x)) := by
              rw [htk]
              by_cases h1 : x ∈ l.take k
              · simp [h1]
              · by_cases h2 : y = x
                · simp [h2]
                · have h3 : ¬ x = y := fun e => h2 e.symm
                  simp [h1, h2, h3]
            have Hnext := Lib.hid hnext
            cases hfr : decide (x ∉ l.take k) with
            | false =>
              rw [hfr] at hnext
              have Hn := Lib.hid hnext
              have Hbk := Lib.hid hbk
              clear hfr hnext Hnext htk hbk
              go_wp2
              go_quiet (fail)
              go_wp2
              go_roundw
              case rel => exact ⟨k + 1, by omega, by go_num, by rw [Hn.out]; rfl, Hbk.out.below (below_drewN (Below.refl _ _) _)⟩
              case measure => simp [intOf]; omega
            | true =>
              rw [hfr] at hnext
              have hqb := eqBytes Ak Aj ck cj ny nx y x wr.drew (hBk.after hbk.bel.drew) (Hx.out.2.2.2.2.1.after hbk.bel.drew) hny Hx.out.2.2.2.2.2.2.2.1 (by omega) (by have := Hx.out; omega)
              obtain ⟨z, hz⟩ : ∃ z, (y == x) = z := ⟨_, rfl⟩
              rw [hz] at hqb hnext
              have Hqb := Lib.hid hqb
              have Hn := Lib.hid hnext
              have Hbk := Lib.hid hbk
              have hnot : ∀ (x : Bool) (w : World), (Op.unary .not (.bool x)).run Try.prog w = .ok (.bool (!x)) w := fun _ _ => rfl
              clear hfr hnext Hnext htk hbk hqb hz
              go_wp2
              go_region_held3 (fun W' => W'.cell? ⟨b, off + k, none⟩ = some (.slice Ak ny ck) ∧ W'.cell? ⟨b, off + j, none⟩ = some (.slice Aj nx cj)) (first | with_reducible exact ⟨ca, cb'⟩ | with_reducible exact ⟨ca9, cb9⟩)
                (first
                | (go_at_call 19; refine Hqb.out.mono ?_; rintro e w9 ⟨rfl, hb9⟩; have ca9 := (hb9.cell (World.block_lt_of_cell? _ _ ca)).trans ca; have cb9 := (hb9.cell (World.block_lt_of_cell? _ _ cb')).trans cb'))
              go_wp2
              go_roundw
              case rel => exact ⟨k + 1, by omega, by go_num, by rw [Hn.out]; rfl, Hbk.out.below ((Below.refl _ _).drew.trans hb9)⟩
              case measure => simp [intOf]; omega
          · have hkj' : k = j := by omega
            subst hkj'
            have hnL : decide (x ∉ l.take k) = decide (x ∉ s.1) := by
              have hiff := Hx.out.2.2.2.2.2.2.1 x
              by_cases h : x ∈ l.take k
              · simp [h, hiff.2 ⟨h, hx6⟩]
              · have : x ∉ s.1 := fun hh => h (hiff.1 hh).1
                simp [h, this]
            rw [hnL]
            have Hbk := Lib.hid hbk
            clear hbk hnL
            have hrun : runL (l.take (k + 1)) = stepL s x := Hx.out.2.2.2.2.2.1
            by_cases hxs : x ∈ s.1
            · have hd : decide (x ∉ s.1) = false := by simp [hxs]
              have hst : stepL s x = (s.1, s.2.1, s.2.2 + 1) := ofL_old hxs hx6
              rw [hd]
              have Hst := Lib.hid (hrun.trans hst)
              have Hr := Lib.hid hrun
              clear hd hst hrun
              go_wp2
              refine ⟨⟨k + 1, by omega, by omega, by go_num, ?_, ?_, ?_⟩, by simp [intOf]; omega⟩
              · rw [Hst.out]
              · rw [Hst.out]; go_num
              · rw [Hr.out]; exact Hbk.out
            · have hd : decide (x ∉ s.1) = true := by simp [hxs]
              have hst : stepL s x = ((s.1 ++ [x]), (noteL s.1 s.2.1 x).2, s.2.2 + 1) := by
                unfold stepL ofL noteL
                rw [if_pos hx6, if_neg hxs]
              rw [hd]
              have Hst := Lib.hid (hrun.trans hst)
              have Hr := Lib.hid hrun
              clear hd hst hrun
              go_wp2
              refine ⟨⟨k + 1, by omega, by omega, by go_num, ?_, ?_, ?_⟩, by simp [intOf]; omega⟩
              · rw [Hst.out, List.length_append]; go_num
              · rw [Hst.out]; go_num
              · rw [Hr.out]; exact Hbk.out
      · have hd : decide (x.length ≤ 65536) = false := by simp [hx6]
        have hst : stepL s x = (s.1, s.2.1, s.2.2) := ofL_long hx6
        rw [hd]
        rw [hst] at hk2
        have hgt : (65536 : Int) < nx := by omega
        have Hk2 := Lib.hid hk2
        have Hst := Lib.hid hst
        clear hk2 hd Hno hst
        go_wp2
        refine ⟨⟨j + 1, by omega, by omega, by go_num, ?_, ?_, ?_⟩, by simp [intOf]; omega⟩
        · rw [Hx.out.2.2.2.2.2.1, Hst.out]
        · rw [Hx.out.2.2.2.2.2.1, Hst.out]
        · rw [Hx.out.2.2.2.2.2.1, Hst.out]; exact Hk2.out
    · obtain ⟨s, hs⟩ : ∃ s, runL (l.take j) = s := ⟨_, rfl⟩
      rw [hs] at hbk hrl ⊢
      have hle := bks_len hbk
      have has := bks_asked hbk (by omega)
      have H3 := Lib.hid hbk.bel
      have hk20 : s.2.2 ≤ 20 := by omega
      have hm20 : s.1.length ≤ 20 := by omega
      clear hs hbk hrl
      have Hle := Lib.hid hle
      have Has := Lib.hid has
      clear hle has
      by_cases hlt : j < nl
      · have hi1 : (j : Int) < nl := by omega
        have hi2 : ¬ (j : Int) < 20 := by omega
        go_wp2_with (first
          | (go_at_call 20; refine Hle.out.mono ?_; rintro e w' ⟨rfl, rfl⟩)
          | (go_at_call 22; refine Has.out.mono ?_; rintro e w' ⟨rfl, rfl⟩))
        go_ret
        exact ⟨rfl, H3.out⟩
      · have hi1 : ¬ (j : Int) < nl := by omega
        go_wp2_with (first
          | (go_at_call 20; refine Hle.out.mono ?_; rintro e w' ⟨rfl, rfl⟩)
          | (go_at_call 22; refine Has.out.mono ?_; rintro e w' ⟨rfl, rfl⟩))
        go_ret
        exact ⟨rfl, H3.out⟩

end Go.Proofs.Ytamfjnomkefddaa.inkCounts
