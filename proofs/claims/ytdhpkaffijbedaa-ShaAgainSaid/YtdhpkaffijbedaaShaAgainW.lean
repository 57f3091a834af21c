/-
  For all bytes a and b (2000 of each at most are looked at): to ask for the digest ends nothing, and ShaAgain returns true; no condition.
-/
import Derived.Test.YtdhpkaffijbedaaOpen
import Derived.Test.YtdhpkaffijbedaaSt
import Derived.Test.YtdhpkaffijbedaaCutN
import Derived.Test.YtdhpkaffijbedaaHex
import Derived.Test.YtdhpkaffijbedaaAnyOrderH
import Derived.Deep.RegionHeld3
import Derived.Deep.RegionWith
import Derived.Deep.DeepCutAuto
namespace Go.Proofs.Ytdhpkaffijbedaa.shaAgain
open Go.ChangeShapes Go.WideShapes Go.ChangeAt Go.RowKit
set_option linter.unusedVariables false

set_option maxRecDepth 100000 in
set_option maxHeartbeats 6400000 in
theorem walk (Aa : Option Addr) (na ca : Nat) (a : List UInt8) (Ab : Option Addr) (nb cb : Nat) (b : List UInt8) (w : World) (ha : ArgB w Aa na ca a) (hb : ArgB w Ab nb cb b) :
    Calls Try.prog 8 #[.slice Aa na ca, .slice Ab nb cb] w fun e w' => e = .returned (.bool true) ∧ Below w.heap.size w w' := by
  obtain ⟨ma, x, hx, hma, hmac, hcam, hBa, hminA, hfrA⟩ := cutUp 2000 2000 rfl ha
  obtain ⟨mb, y, hy, hmb, hmbc, hcbm, hBb, hminB, hfrB⟩ := cutUp 2000 2000 rfl hb
  clear ha hb
  obtain ⟨D1, hD32, hDv', hD1⟩ : ∃ D : List Value, D.length = 32 ∧ cbs (digest (x)) = D ∧ D.toArray.all (·.oneCell') = true := ⟨cbs (digest (x)), by rw [cbs_length, dlen], rfl, cbs_one' _⟩
  have heq1 := eq_same D1 (x) hDv'.symm
  have hDv1 := Lib.hid hDv'
  have HD1 := Lib.hid (And.intro hD32 hD1)
  clear hD32 hD1 hDv'
  obtain ⟨D2, hD32, hDv', hD1⟩ : ∃ D : List Value, D.length = 32 ∧ cbs (digest (x ++ y)) = D ∧ D.toArray.all (·.oneCell') = true := ⟨cbs (digest (x ++ y)), by rw [cbs_length, dlen], rfl, cbs_one' _⟩
  have heq2 := eq_same D2 (x ++ y) hDv'.symm
  have hDv2 := Lib.hid hDv'
  have HD2 := Lib.hid (And.intro hD32 hD1)
  clear hD32 hD1 hDv'
  have Hx := Lib.hid (show x.length = ma ∧ ma ≤ ca ∧ ca ≤ maxLen ∧ ma ≤ 281474976710656 from ⟨hx, hmac, hcam, by omega⟩)
  have Hy := Lib.hid (show y.length = mb ∧ mb ≤ cb ∧ cb ≤ maxLen ∧ mb ≤ 281474976710656 from ⟨hy, hmbc, hcbm, by omega⟩)
  have Hxl := Lib.hid (show x.length ≤ 281474976710656 by omega)
  have Hxy := Lib.hid (show (x ++ y).length ≤ 281474976710656 by rw [List.length_append]; omega)
  have Hxs := Lib.hid (And.intro hma hmb)
  clear hx hmac hcam hy hmbc hcbm hma hmb
  go_enter Try.func8, Try.ntmps8
  go_wp2_with fail
  refine (works_any _).mono ?_
  rintro e w0 ⟨rfl, b0⟩
  go_upto_region 3 with fail
  go_cut [0, 1] (fun p q wx => p = .slice Aa ma ca ∧ q = .slice Ab mb cb ∧ Below w.heap.size w wx)
  case first =>
    go_region_with fail
    all_goals
      go_wp2_with fail
      go_meet
      exact ⟨rfl, rfl, b0.drew⟩
  case rest =>
    obtain ⟨rfl, rfl, t0⟩ := hcut
    clear hminA hfrA hminB hfrB b0
    go_wp2_with fail
    refine (new_any _).mono ?_
    rintro e w1 ⟨g, rfl, hgg, hG1, b1⟩
    go_wp2_with fail
    refine (new_any _).mono ?_
    rintro e w2 ⟨h, rfl, hgh, hG2, b2⟩
    have z0 := t0.size
    have zg := hG1.lt
    have z1 := b1.size
    have hst0 : St w w2 g h [] [] [] := ⟨hG1.below b2, hG2, by omega, by omega, by omega, (t0.trans (b1.mono z0)).trans (b2.mono (by omega)), fun p hp => by cases hp⟩
    clear b1 b2 hG1 hG2 hgg hgh z0 zg z1 t0
    go_wp2_with fail
    refine (write_any g [] x Aa ma ca w2 Hx.out.1 Hx.out.2.1 Hx.out.2.2.1 (by have := Hx.out.2.2.2; simpa using this) hst0.1 (hBa.on hst0.2.2.2.2.2.1) (hBa.away hst0.2.2.1)).mono ?_
    rintro e w3 ⟨rfl, hH3, bu3⟩
    rw [List.nil_append] at hH3
    have H1 := Lib.hid (hst0.touched1 bu3 hH3)
    clear hst0 hH3 bu3
    go_upto_region 6 with fail
    go_cut [7, 8] (fun p q wx => ∃ g1 : Nat, p = .pointer (some ⟨g1, 0, none⟩) ∧ q = .bool true ∧ St w wx g h (x) ([]) ((g1, D1) :: []))
    case first =>
      go_wp2_with fail
      have hsm := summed_any g (x) _ Hxl.out H1.out.1
      rw [hDv1.out] at hsm
      refine hsm.mono ?_
      clear hsm
      rintro e ws ⟨rfl, hHs, hbs⟩
      have hst := H1.out.touched1 hbs hHs
      have hnew := hst.newBlk D1 HD1.out.1
      have hth := new_there ws D1 HD1.out.1
      have hi : (Try.prog.info? 25).map (·.size) = some D1.toArray.size := by rw [List.size_toArray, HD1.out.1]; exact info32b
      have Hth := Lib.hid hth
      have Hi := Lib.hid hi
      have Hq := Lib.hid hnew
      clear hth hi hnew hst hHs hbs
      go_wp2_with (refine wpList_store_mid rfl 25 _ _ rfl ws.heap.size 0 D1.toArray rfl rfl Hth.out Hi.out HD1.out.2 ?_; simp only [Act.put])
      go_meet
      exact ⟨ws.heap.size, rfl, rfl, Hq.out⟩
    case rest =>
      obtain ⟨g1, rfl, rfl, hst_g1⟩ := hcut
      have Hg1 := Lib.hid hst_g1
      clear hst_g1
      go_upto_region 7 with fail
      go_cut [9, 10] (fun p q wx => ∃ g2 : Nat, p = .pointer (some ⟨g2, 0, none⟩) ∧ q = .bool true ∧ St w wx g h (x) ([]) ((g2, D1) :: [(g1, D1)]))
      case first =>
        go_wp2_with fail
        have hsm := summed_any g (x) _ Hxl.out Hg1.out.1
        rw [hDv1.out] at hsm
        refine hsm.mono ?_
        clear hsm
        rintro e ws ⟨rfl, hHs, hbs⟩
        have hst := Hg1.out.touched1 hbs hHs
        have hnew := hst.newBlk D1 HD1.out.1
        have hth := new_there ws D1 HD1.out.1
        have hi : (Try.prog.info? 25).map (·.size) = some D1.toArray.size := by rw [List.size_toArray, HD1.out.1]; exact info32b
        have Hth := Lib.hid hth
        have Hi := Lib.hid hi
        have Hq := Lib.hid hnew
        clear hth hi hnew hst hHs hbs
        go_wp2_with (refine wpList_store_mid rfl 25 _ _ rfl ws.heap.size 0 D1.toArray rfl rfl Hth.out Hi.out HD1.out.2 ?_; simp only [Act.put])
        go_meet
        exact ⟨ws.heap.size, rfl, rfl, Hq.out⟩
      case rest =>
        obtain ⟨g2, rfl, rfl, hst_g2⟩ := hcut
        have Hg2 := Lib.hid hst_g2
        clear hst_g2
        go_wp2_with fail
        have hst2 := Hg2.out
        refine (write_any g x y Ab mb cb _ Hy.out.1 Hy.out.2.1 Hy.out.2.2.1 (by rw [Hx.out.1]; have := Hxs.out.1; have := Hxs.out.2; omega) hst2.1 (hBb.on hst2.2.2.2.2.2.1) (hBb.away hst2.2.2.1)).mono ?_
        rintro e w4 ⟨rfl, hH4, bu4⟩
        have H5 := Lib.hid (hst2.touched1 bu4 hH4)
        clear hst2 hH4 bu4
        go_upto_region 9 with fail
        go_cut [11, 12] (fun p q wx => ∃ g3 : Nat, p = .pointer (some ⟨g3, 0, none⟩) ∧ q = .bool true ∧ St w wx g h (x ++ y) ([]) ((g3, D2) :: [(g2, D1), (g1, D1)]))
        case first =>
          go_wp2_with fail
          have hsm := summed_any g (x ++ y) _ Hxy.out H5.out.1
          rw [hDv2.out] at hsm
          refine hsm.mono ?_
          clear hsm
          rintro e ws ⟨rfl, hHs, hbs⟩
          have hst := H5.out.touched1 hbs hHs
          have hnew := hst.newBlk D2 HD2.out.1
          have hth := new_there ws D2 HD2.out.1
          have hi : (Try.prog.info? 25).map (·.size) = some D2.toArray.size := by rw [List.size_toArray, HD2.out.1]; exact info32b
          have Hth := Lib.hid hth
          have Hi := Lib.hid hi
          have Hq := Lib.hid hnew
          clear hth hi hnew hst hHs hbs
          go_wp2_with (refine wpList_store_mid rfl 25 _ _ rfl ws.heap.size 0 D2.toArray rfl rfl Hth.out Hi.out HD2.out.2 ?_; simp only [Act.put])
          go_meet
          exact ⟨ws.heap.size, rfl, rfl, Hq.out⟩
        case rest =>
          obtain ⟨g3, rfl, rfl, hst_g3⟩ := hcut
          have Hg3 := Lib.hid hst_g3
          clear hst_g3
          go_wp2_with fail
          refine (copyBytes Aa ca ma x _ (hBa.on Hg3.out.2.2.2.2.2.1) Hx.out.1 (by have := Hxs.out.1; omega)).mono ?_
          rintro e w5 ⟨v5, rfl, hm5, hb5⟩
          have hst5 := Hg3.out.below hb5
          have hy5 := hBb.on hst5.2.2.2.2.2.1
          have Hst5 := Lib.hid hst5
          have Hy5 := Lib.hid hy5
          have Hb5 := Lib.hid hb5.size
          clear hst5 hy5 hb5
          go_wp2_with (at_builtin; refine wp_appendB rfl _ _ rfl _ v5 x rfl hm5 Ab cb mb y rfl Hy5.out Hy.out.1 (by rw [Hx.out.1]; have := Hxs.out.1; have := Hxs.out.2; omega) Hb5.out ?_; intro v6 w6 hm6 hg6 ho6)
          obtain ⟨A6, c6, rfl, hl6, hc6, hB6⟩ := Mine.form hm6
          have hst6 := Hst5.out.grown hg6 (fun b hb => (World.ownsRow.lt hm5 b hb).1) Hg3.out
          have hA6 : Away A6 h (x ++ y) := hm6.away_ (by have := Hg3.out.2.1.lt; omega)
          clear hm6 hg6 ho6 hm5
          have hwr := write_any h [] (x ++ y) A6 (x ++ y).length c6 w6 rfl hl6 hc6 (by have := Hxy.out; simpa using this) hst6.2.1 hB6 hA6
          have Hwr := Lib.hid hwr
          have Hst6 := Lib.hid hst6
          clear hwr hst6 hA6 hB6
          go_wp2_with fail
          refine Hwr.out.mono ?_
          rintro e w7 ⟨rfl, hH7, bu7⟩
          rw [List.nil_append] at hH7
          have H6 := Lib.hid (Hst6.out.touched2 bu7 hH7)
          clear hH7 bu7
          go_upto_region 11 with fail
          go_cut [13, 14] (fun p q wx => ∃ g4 : Nat, p = .pointer (some ⟨g4, 0, none⟩) ∧ q = .bool true ∧ St w wx g h (x ++ y) (x ++ y) ((g4, D2) :: [(g3, D2), (g2, D1), (g1, D1)]))
          case first =>
            go_wp2_with fail
            have hsm := summed_any h (x ++ y) _ Hxy.out H6.out.2.1
            rw [hDv2.out] at hsm
            refine hsm.mono ?_
            clear hsm
            rintro e ws ⟨rfl, hHs, hbs⟩
            have hst := H6.out.touched2 hbs hHs
            have hnew := hst.newBlk D2 HD2.out.1
            have hth := new_there ws D2 HD2.out.1
            have hi : (Try.prog.info? 25).map (·.size) = some D2.toArray.size := by rw [List.size_toArray, HD2.out.1]; exact info32b
            have Hth := Lib.hid hth
            have Hi := Lib.hid hi
            have Hq := Lib.hid hnew
            clear hth hi hnew hst hHs hbs
            go_wp2_with (refine wpList_store_mid rfl 25 _ _ rfl ws.heap.size 0 D2.toArray rfl rfl Hth.out Hi.out HD2.out.2 ?_; simp only [Act.put])
            go_meet
            exact ⟨ws.heap.size, rfl, rfl, Hq.out⟩
          case rest =>
            obtain ⟨g4, rfl, rfl, hst_g4⟩ := hcut
            have Hg4 := Lib.hid hst_g4
            clear hst_g4
            go_wp2_with fail
            have hst := Hg4.out
            have a1 := (hst.2.2.2.2.2.2 (g4, D2) (by simp)).1
            have a2 := (hst.2.2.2.2.2.2 (g3, D2) (by simp)).1
            have a3 := (hst.2.2.2.2.2.2 (g2, D1) (by simp)).1
            have a4 := (hst.2.2.2.2.2.2 (g1, D1) (by simp)).1
            have q1 : wc.drew.rangeAt g1 0 D1 := a4.range
            have q2 : wc.drew.rangeAt g2 0 D1 := a3.range
            have q3 : wc.drew.rangeAt g3 0 D2 := a2.range
            have q4 : wc.drew.rangeAt g4 0 D2 := a1.range
            have hbd := hst.2.2.2.2.2.1
            have B0 : Bs wc.drew Aa x := hBa.on hbd.drew
            have hud := Try.underlying25
            have hid1 : (Try.prog.info? 25).map (·.size) = some D1.length := by rw [HD1.out.1]; exact info32b
            have hid2 : (Try.prog.info? 25).map (·.size) = some D2.length := by rw [HD2.out.1]; exact info32b
            clear hst a1 a2 a3 a4
            have Q0 : wc.drew.rangeAt g1 0 D1 ∧ wc.drew.rangeAt g2 0 D1 ∧ wc.drew.rangeAt g3 0 D2 ∧ wc.drew.rangeAt g4 0 D2 := ⟨q1, q2, q3, q4⟩
            refine wp_region_held_drew (S := fun W' => W'.rangeAt g1 0 D1 ∧ W'.rangeAt g2 0 D1 ∧ W'.rangeAt g3 0 D2 ∧ W'.rangeAt g4 0 D2) (by kernel_rfl) Q0 (fun _ => ?_)
            refine anyH_take (i := 0) (d := 61) (v := (.bool true)) rfl rfl (by kernel_rfl) (by kernel_rfl) (by kernel_rfl) (fun _ _ _ h => h) (Or.inl ⟨by rfl, (by intro w; go_simp)⟩) Q0 ?_
            simp only [List.setIfInBounds_toArray, List.set_cons_zero, List.set_cons_succ]
            refine anyH_take (i := 1) (d := 62) (v := (.bool true)) rfl rfl (by kernel_rfl) (by kernel_rfl) (by kernel_rfl) (fun _ _ _ h => h) (Or.inl ⟨by rfl, (by intro w; go_simp)⟩) Q0 ?_
            simp only [List.setIfInBounds_toArray, List.set_cons_zero, List.set_cons_succ]
            refine anyH_take (i := 2) (d := 63) (v := (.bool true)) rfl rfl (by kernel_rfl) (by kernel_rfl) (by kernel_rfl) (fun _ _ _ h => h) (Or.inl ⟨by rfl, (by intro w; go_simp)⟩) Q0 ?_
            simp only [List.setIfInBounds_toArray, List.set_cons_zero, List.set_cons_succ]
            refine anyH_take (i := 3) (d := 64) (v := (.bool true)) rfl rfl (by kernel_rfl) (by kernel_rfl) (by kernel_rfl) (fun _ _ _ h => h) (Or.inl ⟨by rfl, (by intro w; go_simp)⟩) Q0 ?_
            simp only [List.setIfInBounds_toArray, List.set_cons_zero, List.set_cons_succ]
            refine anyH_take (i := 4) (d := 65) (v := (.bool true)) rfl rfl (by kernel_rfl) (by kernel_rfl) (by kernel_rfl) (fun _ _ _ h => h) (Or.inl ⟨by rfl, (by intro w; go_simp)⟩) Q0 ?_
            simp only [List.setIfInBounds_toArray, List.set_cons_zero, List.set_cons_succ]
            refine anyH_take (i := 5) (d := 66) (v := (.bool true)) rfl rfl (by kernel_rfl) (by kernel_rfl) (by kernel_rfl) (fun _ _ _ h => h) (Or.inl ⟨by rfl, (by intro w; go_simp)⟩) Q0 ?_
            simp only [List.setIfInBounds_toArray, List.set_cons_zero, List.set_cons_succ]
            refine anyH_take (i := 6) (d := 67) (v := (.bool true)) rfl rfl (by kernel_rfl) (by kernel_rfl) (by kernel_rfl) (fun _ _ _ h => h) (Or.inl ⟨by rfl, (by intro w; go_simp)⟩) Q0 ?_
            simp only [List.setIfInBounds_toArray, List.set_cons_zero, List.set_cons_succ]
            refine anyH_take (i := 7) (d := 68) (v := (.bool true)) rfl rfl (by kernel_rfl) (by kernel_rfl) (by kernel_rfl) (fun _ _ _ h => h) (Or.inl ⟨by rfl, (by intro w; go_simp)⟩) Q0 ?_
            simp only [List.setIfInBounds_toArray, List.set_cons_zero, List.set_cons_succ]
            refine anyH_take (i := 8) (d := 69) (v := (.bool true)) rfl rfl (by kernel_rfl) (by kernel_rfl) (by kernel_rfl) (fun _ _ _ h => h) (Or.inl ⟨by rfl, (by intro w; go_simp)⟩) Q0 ?_
            simp only [List.setIfInBounds_toArray, List.set_cons_zero, List.set_cons_succ]
            refine anyH_take (i := 9) (d := 70) (v := (.bool true)) rfl rfl (by kernel_rfl) (by kernel_rfl) (by kernel_rfl) (fun _ _ _ h => h) (Or.inl ⟨by rfl, (by intro w; go_simp)⟩) Q0 ?_
            simp only [List.setIfInBounds_toArray, List.set_cons_zero, List.set_cons_succ]
            refine anyH_take (i := 10) (d := 71) (v := (.bool true)) rfl rfl (by kernel_rfl) (by kernel_rfl) (by kernel_rfl) (fun _ _ _ h => h) (Or.inl ⟨by rfl, (by intro w; go_simp)⟩) Q0 ?_
            simp only [List.setIfInBounds_toArray, List.set_cons_zero, List.set_cons_succ]
            refine anyH_load (i := 11) (d := 72) rfl rfl (by kernel_rfl) (by kernel_rfl) (by kernel_rfl) (by rfl) 25 _ rfl g1 0 rfl D1 _ (fun _ h => h.1) Try.underlying25 rfl hid1 (fun _ _ _ h => h) Q0 ?_
            simp only [List.setIfInBounds_toArray, List.set_cons_zero, List.set_cons_succ]
            refine anyH_take (i := 12) (d := 73) (v := (.slice Aa ma ca)) rfl rfl (by kernel_rfl) (by kernel_rfl) (by kernel_rfl) (fun _ _ _ h => h) (Or.inl ⟨by rfl, (by intro w; go_simp)⟩) Q0 ?_
            simp only [List.setIfInBounds_toArray, List.set_cons_zero, List.set_cons_succ]
            refine anyH_one (i := 13) (by kernel_rfl) ?_
            refine wpOp_step rfl (fun K hK => ?_)
            go_simp
            refine (of_any Aa ma ca x _ B0 Hx.out.1 Hx.out.2.1 Hx.out.2.2.1 Hx.out.2.2.2).mono ?_
            rw [hDv1.out]
            rintro e w9 ⟨rfl, hb9⟩
            have Q1 : w9.rangeAt g1 0 D1 ∧ w9.rangeAt g2 0 D1 ∧ w9.rangeAt g3 0 D2 ∧ w9.rangeAt g4 0 D2 := ⟨range_below hb9 q1, range_below hb9 q2, range_below hb9 q3, range_below hb9 q4⟩
            refine hK _ _ ⟨Q1, ?_⟩
            clear hK K
            refine anyH_take (i := 14) (d := 75) (v := (.bool true)) rfl rfl (by kernel_rfl) (by kernel_rfl) (by kernel_rfl) (fun _ _ _ h => h) (Or.inl ⟨by rfl, (by intro w; go_simp)⟩) Q1 ?_
            simp only [List.setIfInBounds_toArray, List.set_cons_zero, List.set_cons_succ]
            refine anyH_take (i := 15) (d := 76) (v := (.bool true)) rfl rfl (by kernel_rfl) (by kernel_rfl) (by kernel_rfl) (fun _ _ _ h => h) (Or.inl ⟨by rfl, (by intro w; go_simp)⟩) Q1 ?_
            simp only [List.setIfInBounds_toArray, List.set_cons_zero, List.set_cons_succ]
            refine anyH_take (i := 16) (d := 77) (v := (.bool true)) rfl rfl (by kernel_rfl) (by kernel_rfl) (by kernel_rfl) (fun _ _ _ h => h) (Or.inl ⟨by rfl, (by intro w; go_simp)⟩) Q1 ?_
            simp only [List.setIfInBounds_toArray, List.set_cons_zero, List.set_cons_succ]
            refine anyH_load (i := 17) (d := 78) rfl rfl (by kernel_rfl) (by kernel_rfl) (by kernel_rfl) (by rfl) 25 _ rfl g2 0 rfl D1 _ (fun _ h => h.2.1) Try.underlying25 rfl hid1 (fun _ _ _ h => h) Q1 ?_
            simp only [List.setIfInBounds_toArray, List.set_cons_zero, List.set_cons_succ]
            refine anyH_load (i := 18) (d := 79) rfl rfl (by kernel_rfl) (by kernel_rfl) (by kernel_rfl) (by rfl) 25 _ rfl g1 0 rfl D1 _ (fun _ h => h.1) Try.underlying25 rfl hid1 (fun _ _ _ h => h) Q1 ?_
            simp only [List.setIfInBounds_toArray, List.set_cons_zero, List.set_cons_succ]
            refine anyH_take (i := 19) (d := 80) (v := (.bool true)) rfl rfl (by kernel_rfl) (by kernel_rfl) (by kernel_rfl) (fun _ _ _ h => h) (Or.inl ⟨by rfl, (by intro w; go_simp)⟩) Q1 ?_
            simp only [List.setIfInBounds_toArray, List.set_cons_zero, List.set_cons_succ]
            refine anyH_take (i := 20) (d := 81) (v := (.bool true)) rfl rfl (by kernel_rfl) (by kernel_rfl) (by kernel_rfl) (fun _ _ _ h => h) (Or.inl ⟨by rfl, (by intro w; go_simp)⟩) Q1 ?_
            simp only [List.setIfInBounds_toArray, List.set_cons_zero, List.set_cons_succ]
            refine anyH_take (i := 21) (d := 82) (v := (.bool true)) rfl rfl (by kernel_rfl) (by kernel_rfl) (by kernel_rfl) (fun _ _ _ h => h) (Or.inl ⟨by rfl, (by intro w; go_simp)⟩) Q1 ?_
            simp only [List.setIfInBounds_toArray, List.set_cons_zero, List.set_cons_succ]
            refine anyH_load (i := 22) (d := 83) rfl rfl (by kernel_rfl) (by kernel_rfl) (by kernel_rfl) (by rfl) 25 _ rfl g3 0 rfl D2 _ (fun _ h => h.2.2.1) Try.underlying25 rfl hid2 (fun _ _ _ h => h) Q1 ?_
            simp only [List.setIfInBounds_toArray, List.set_cons_zero, List.set_cons_succ]
            refine anyH_load (i := 23) (d := 84) rfl rfl (by kernel_rfl) (by kernel_rfl) (by kernel_rfl) (by rfl) 25 _ rfl g4 0 rfl D2 _ (fun _ h => h.2.2.2) Try.underlying25 rfl hid2 (fun _ _ _ h => h) Q1 ?_
            simp only [List.setIfInBounds_toArray, List.set_cons_zero, List.set_cons_succ]
            refine anyH_take (i := 24) (d := 85) (v := (.bool true)) rfl rfl (by kernel_rfl) (by kernel_rfl) (by kernel_rfl) (fun _ _ _ h => h) (Or.inl ⟨by rfl, (by intro w; go_simp)⟩) Q1 ?_
            simp only [List.setIfInBounds_toArray, List.set_cons_zero, List.set_cons_succ]
            refine anyH_take (i := 25) (d := 86) (v := (.bool true)) rfl rfl (by kernel_rfl) (by kernel_rfl) (by kernel_rfl) (fun _ _ _ h => h) (Or.inl ⟨by rfl, (by intro w; go_simp)⟩) Q1 ?_
            simp only [List.setIfInBounds_toArray, List.set_cons_zero, List.set_cons_succ]
            refine anyH_take (i := 26) (d := 4) (v := (.bool true)) rfl rfl (by kernel_rfl) (by kernel_rfl) (by kernel_rfl) (fun _ _ _ h => h) (Or.inl ⟨by rfl, (by intro w; go_simp)⟩) Q1 ?_
            simp only [List.setIfInBounds_toArray, List.set_cons_zero, List.set_cons_succ]
            refine wpAnyH_done (by kernel_rfl) ?_ _
            go_wp2
            go_ret
            exact ⟨rfl, (hbd.drew).trans (hb9.mono (by first | exact hbd.size | omega))⟩

end Go.Proofs.Ytdhpkaffijbedaa.shaAgain
