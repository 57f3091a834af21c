/-
  The statements' own helper: made, a ledger of deeds.
-/
import Derived.Test.YtoidiacofgmigaaTwo
import Derived.Deep.RegionHeld3
import Derived.Deep.RegionWith
import Derived.Deep.DeepCutAuto
namespace Go.Proofs.Ytoidiacofgmigaa
open Go.RowKit Go.Maps
set_option linter.unusedVariables false

set_option maxRecDepth 100000 in
set_option maxHeartbeats 3200000 in
theorem made_any (A : Option Addr) (n c : Nat) (l : List DeedL) (w : World) (hA : ArgD w A n c l) : Calls Try.prog 28 #[.slice A n c] w fun e w' =>
    ∃ g m, e = .returned (.pointer (some ⟨g, 0, none⟩)) ∧ w.heap.size ≤ g ∧ w.heap.size ≤ m ∧ LedAt w' g m (madeL (l.take 60)) 0 ∧ Below w.heap.size w w' := by
  have HA := Lib.hid hA
  have hcm := hA.2.2.1
  unfold maxLen at hcm
  have hnc := hA.2.1
  clear hA
  go_enter Try.func28, Try.ntmps28
  go_wp2_with fail
  refine (ku_new w w (Below.refl _ _)).mono ?_
  rintro e w1 ⟨g, m, rfl, hg, hm, hk, hb⟩
  have K1 := Lib.hid hk
  have Hgm := Lib.hid (And.intro hg hm)
  clear hg hm hk hb
  go_wp2_with fail
  go_loopw [4] (fun v wr => ∃ j : Nat, j ≤ n ∧ j ≤ 60 ∧ v = .int .i64 j ∧ Ku w wr g m (madeL (l.take j)) 0) (fun v _ => 60 - (intOf v).toNat)
  case atStart => exact ⟨0, Nat.zero_le _, by omega, rfl, K1.out⟩
  case round =>
    obtain ⟨j, hj, hj60, rfl, hK⟩ := hrel
    have hi0 : (0 : Int) ≤ j := by omega
    by_cases hlt : j < n
    · have hi1 : (j : Int) < n := by omega
      by_cases hlt6 : j < 60
      · have hi6 : (j : Int) < 60 := by omega
        have hjl : j < l.length := by rw [HA.out.1]; exact hlt
        obtain ⟨b, off, rfl, hlow, hdeed⟩ := HA.out.at_ hjl
        have hsucc := madeL_succ l j hjl
        have hTl := madeL_len l j (by omega)
        obtain ⟨x, hx⟩ : ∃ x, l[j] = x := ⟨_, rfl⟩
        rw [hx] at hdeed hsucc
        obtain ⟨⟨hxk, hxf, hxt, _, _⟩, ck, c1, c2, ⟨Ar, nr, cr, c3, hAr⟩, c4, _, _⟩ := hdeed
        have ckd : wr.cell? ⟨b, off + j * 7, none⟩ = some (.int .i64 x.kind) := (hK.bel.cell (p := ⟨b, off + j * 7, none⟩) hlow).trans ck
        obtain ⟨D2, hD2, _, _, hdig2⟩ := ku_digest x.d w
        have HD2 := Lib.hid hD2
        have Hdig2 := Lib.hid hdig2
        have Hc := Lib.hid (And.intro c1 (And.intro c2 (And.intro c3 c4)))
        have Kr := Lib.hid hK
        have Hlow := Lib.hid hlow
        have Hx := Lib.hid (And.intro hxf (And.intro hxt (And.intro hAr hTl)))
        have Hbr := Lib.hid (bring3_any x.kind wr hxk)
        clear hxk hxf hxt hAr c1 c2 c3 c4 ck hK hTl hlow hD2 hdig2 hx
        obtain ⟨T, hT⟩ : ∃ T, madeL (l.take j) = T := ⟨_, rfl⟩
        rw [hT] at hsucc Hx Kr
        obtain ⟨r, hr⟩ : ∃ r, x.kind % 3 = r := ⟨_, rfl⟩
        rw [hr] at Hbr
        by_cases h0 : r = 0
        · have hs : madeL (l.take (j + 1)) = tagL T x.frm x.to_ (dg x.d) := by rw [hsucc]; unfold stepD; rw [if_pos (by omega)]
          have Hs := Lib.hid hs
          clear hs hsucc hr hT
          subst h0
          go_wp2_with (go_at_call 15; refine Hbr.out.mono ?_; rintro e wq ⟨rfl, rfl⟩)
          have Kd := Lib.hid (Kr.out.below (Below.refl _ _).drew)
          have Q0 : wq.drew.cell? ⟨b, off + j * 7 + 1, none⟩ = some (.int .i64 x.frm) ∧ wq.drew.cell? ⟨b, off + j * 7 + 2, none⟩ = some (.int .i64 x.to_) ∧ wq.drew.cell? ⟨b, off + j * 7 + 3, none⟩ = some (.slice Ar nr cr) ∧ wq.drew.cell? ⟨b, off + j * 7 + 4, none⟩ = some (.int .u8 (x.d.toNat : Int)) := keep4 Kd.out.bel Hlow.out Hc.out
          have Q0' := Q0
          obtain ⟨c1d, c2d, c3d, c4d⟩ := Q0'
          clear ckd Hbr
          go_wp2
          go_region_held3 (fun W' => W'.cell? ⟨b, off + j * 7 + 1, none⟩ = some (.int .i64 x.frm) ∧ W'.cell? ⟨b, off + j * 7 + 2, none⟩ = some (.int .i64 x.to_) ∧ W'.cell? ⟨b, off + j * 7 + 3, none⟩ = some (.slice Ar nr cr) ∧ W'.cell? ⟨b, off + j * 7 + 4, none⟩ = some (.int .u8 (x.d.toNat : Int)))
            (first | with_reducible exact Q0 | with_reducible exact Q1 | with_reducible exact Q2)
            (first
            | (go_at_call 13; refine (Hdig2.out _).mono ?_; rintro e w4 ⟨rfl, hb4⟩
               have Ke := Lib.hid (Kd.out.below hb4)
               have Q1 : w4.cell? ⟨b, off + j * 7 + 1, none⟩ = some (.int .i64 x.frm) ∧ w4.cell? ⟨b, off + j * 7 + 2, none⟩ = some (.int .i64 x.to_) ∧ w4.cell? ⟨b, off + j * 7 + 3, none⟩ = some (.slice Ar nr cr) ∧ w4.cell? ⟨b, off + j * 7 + 4, none⟩ = some (.int .u8 (x.d.toNat : Int)) := keep4 Ke.out.bel Hlow.out Hc.out)
            | (go_at_call 14; refine (ku_tag x.frm x.to_ (dg x.d) D2 Ke.out (by have := Hx.out.2.2.2; omega) Hx.out.1 Hx.out.2.1 (dg_len _) HD2.out).mono ?_; rintro e w5 ⟨rfl, hk5, ho5⟩
               have Kf := Lib.hid hk5
               have Q2 : w5.cell? ⟨b, off + j * 7 + 1, none⟩ = some (.int .i64 x.frm) ∧ w5.cell? ⟨b, off + j * 7 + 2, none⟩ = some (.int .i64 x.to_) ∧ w5.cell? ⟨b, off + j * 7 + 3, none⟩ = some (.slice Ar nr cr) ∧ w5.cell? ⟨b, off + j * 7 + 4, none⟩ = some (.int .u8 (x.d.toNat : Int)) := keep4 Kf.out.bel Hlow.out Hc.out))
          go_wp2
          refine ⟨⟨j + 1, by omega, by omega, by go_num, by rw [Hs.out]; exact Kf.out⟩, by simp [intOf]; omega⟩
        · by_cases h1 : r = 1
          · have hs : madeL (l.take (j + 1)) = vecL T x.frm x.rs (dg x.d) := by rw [hsucc]; unfold stepD; rw [if_neg (by omega), if_pos (by omega)]
            have Hs := Lib.hid hs
            clear hs hsucc hr hT h0
            subst h1
            go_wp2_with (go_at_call 15; refine Hbr.out.mono ?_; rintro e wq ⟨rfl, rfl⟩)
            have Kd := Lib.hid (Kr.out.below (Below.refl _ _).drew)
            have Q0 : wq.drew.cell? ⟨b, off + j * 7 + 1, none⟩ = some (.int .i64 x.frm) ∧ wq.drew.cell? ⟨b, off + j * 7 + 2, none⟩ = some (.int .i64 x.to_) ∧ wq.drew.cell? ⟨b, off + j * 7 + 3, none⟩ = some (.slice Ar nr cr) ∧ wq.drew.cell? ⟨b, off + j * 7 + 4, none⟩ = some (.int .u8 (x.d.toNat : Int)) := keep4 Kd.out.bel Hlow.out Hc.out
            have Q0' := Q0
            obtain ⟨c1d, c2d, c3d, c4d⟩ := Q0'
            clear ckd Hbr
            go_wp2
            go_region_held3 (fun W' => W'.cell? ⟨b, off + j * 7 + 1, none⟩ = some (.int .i64 x.frm) ∧ W'.cell? ⟨b, off + j * 7 + 2, none⟩ = some (.int .i64 x.to_) ∧ W'.cell? ⟨b, off + j * 7 + 3, none⟩ = some (.slice Ar nr cr) ∧ W'.cell? ⟨b, off + j * 7 + 4, none⟩ = some (.int .u8 (x.d.toNat : Int)))
              (first | with_reducible exact Q0 | with_reducible exact Q1 | with_reducible exact Q2)
              (first
              | (go_at_call 13; refine (Hdig2.out _).mono ?_; rintro e w4 ⟨rfl, hb4⟩
                 have Ke := Lib.hid (Kd.out.below hb4)
                 have Q1 : w4.cell? ⟨b, off + j * 7 + 1, none⟩ = some (.int .i64 x.frm) ∧ w4.cell? ⟨b, off + j * 7 + 2, none⟩ = some (.int .i64 x.to_) ∧ w4.cell? ⟨b, off + j * 7 + 3, none⟩ = some (.slice Ar nr cr) ∧ w4.cell? ⟨b, off + j * 7 + 4, none⟩ = some (.int .u8 (x.d.toNat : Int)) := keep4 Ke.out.bel Hlow.out Hc.out)
              | (go_at_call 18; refine (ku_vec x.frm Ar nr cr x.rs (dg x.d) D2 Ke.out (by have := Hx.out.2.2.2; omega) Hx.out.1 (Hx.out.2.2.1.after Ke.out.bel) (dg_len _) HD2.out).mono ?_; rintro e w5 ⟨rfl, hk5, ho5⟩
                 have Kf := Lib.hid hk5
                 have Q2 : w5.cell? ⟨b, off + j * 7 + 1, none⟩ = some (.int .i64 x.frm) ∧ w5.cell? ⟨b, off + j * 7 + 2, none⟩ = some (.int .i64 x.to_) ∧ w5.cell? ⟨b, off + j * 7 + 3, none⟩ = some (.slice Ar nr cr) ∧ w5.cell? ⟨b, off + j * 7 + 4, none⟩ = some (.int .u8 (x.d.toNat : Int)) := keep4 Kf.out.bel Hlow.out Hc.out))
            go_wp2
            refine ⟨⟨j + 1, by omega, by omega, by go_num, by rw [Hs.out]; exact Kf.out⟩, by simp [intOf]; omega⟩
          · have hs : madeL (l.take (j + 1)) = T := by rw [hsucc]; unfold stepD; rw [if_neg (by omega), if_neg (by omega)]
            have Hs := Lib.hid hs
            have hb0 : (r == 0) = false := by simp [h0]
            have hb1 : (r == 1) = false := by simp [h1]
            clear hs hsucc hr hT
            go_wp2_with (go_at_call 15; refine Hbr.out.mono ?_; rintro e wq ⟨rfl, rfl⟩)
            refine ⟨⟨j + 1, by omega, by omega, by go_num, by rw [Hs.out]; exact Kr.out⟩, by simp [intOf]; omega⟩
      · have hi6 : ¬ (j : Int) < 60 := by omega
        have hj6 : j = 60 := by omega
        rw [hj6] at hK
        have H3 := Lib.hid hK
        clear hK
        go_wp2
        go_ret
        first | exact ⟨g, m, rfl, H3.out.2.1, H3.out.2.2.1, H3.out.1, H3.out.bel⟩ | exact ⟨g, rfl, H3.out.2.1, m, H3.out.2.2.1, H3.out.1, H3.out.bel⟩
    · have hi1 : ¬ (j : Int) < n := by omega
      have hall : l.take j = l.take 60 := by
        have := HA.out.1
        rw [List.take_of_length_le (by omega), List.take_of_length_le (by omega)]
      rw [hall] at hK
      have H3 := Lib.hid hK
      clear hK
      go_wp2
      go_ret
      first | exact ⟨g, m, rfl, H3.out.2.1, H3.out.2.2.1, H3.out.1, H3.out.bel⟩ | exact ⟨g, rfl, H3.out.2.1, m, H3.out.2.2.1, H3.out.1, H3.out.bel⟩
end Go.Proofs.Ytoidiacofgmigaa
