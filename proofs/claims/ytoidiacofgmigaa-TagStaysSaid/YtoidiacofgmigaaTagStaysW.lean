/-
  For all numbers f, t (brought to a name, and to one or 0) and all lists of deeds l (60 at most are done): a tag stays, whatever comes behind it; TagStays returns true; no condition.
-/
import Derived.Test.YtoidiacofgmigaaTwo
import Derived.Test.YtoidiacofgmigaaTwo
import Derived.Deep.RegionHeld3
import Derived.Deep.RegionWith
import Derived.Deep.DeepCutAuto
namespace Go.Proofs.Ytoidiacofgmigaa.tagStays
open Go.ChangeShapes Go.WideShapes Go.ChangeAt Go.RowKit
set_option linter.unusedVariables false

set_option maxRecDepth 100000 in
set_option maxHeartbeats 3200000 in
theorem walk (f : Int) (t : Int) (Al : Option Addr) (nl cl : Nat) (l : List DeedL) (w : World) (hf : (Lit.int .i64 f).wf = true) (ht : (Lit.int .i64 t).wf = true) (hl : ArgD w Al nl cl l) :
    Calls Try.prog 5 #[.int .i64 f, .int .i64 t, .slice Al nl cl] w fun e w' => e = .returned (.bool true) ∧ Below w.heap.size w w' := by
  obtain ⟨D, hD, hDl, hD1, hdig⟩ := ku_digest 200 w
  have HD := Lib.hid hD
  have Hdig := Lib.hid hdig
  have HA := Lib.hid hl
  have hcm := hl.2.2.1
  unfold maxLen at hcm
  have hnc := hl.2.1
  clear hD hdig hl
  have hnot : ∀ (x : Bool) (w : World), (Op.unary .not (.bool x)).run Try.prog w = .ok (.bool (!x)) w := fun _ _ => rfl
  go_enter Try.func5, Try.ntmps5
  go_wp2_with (go_at_call 27; refine (works4_any _).mono ?_; rintro e w0 ⟨rfl, hb0⟩)
  refine (bringN_any f 34 w0 (by decide) (by decide) hf).mono ?_
  rintro e w' ⟨r, hr0, hr1, rfl, rfl⟩
  have hr2 : -9223372036854775808 ≤ 1 + r ∧ 1 + r ≤ 9223372036854775807 := by omega
  have hadd : IntKind.i64.wrap (1 + r) = 1 + r := IntWalk.i64_in _ (by omega)
  go_wp2_with fail
  refine (bringN_any t 35 _ (by decide) (by decide) ht).mono ?_
  rintro e w' ⟨q, hq0, hq1, rfl, rfl⟩
  have hp0 : 1 ≤ 1 + r := by omega
  have hp1 : 1 + r ≤ 34 := by omega
  have hpw : Wf (1 + r) := by simp [Wf, Lit.wf, IntKind.min, IntKind.max, IntKind.signed, IntKind.bits]; omega
  have hqw : Wf q := by simp [Wf, Lit.wf, IntKind.min, IntKind.max, IntKind.signed, IntKind.bits]; omega
  clear hr0 hr1 hr2 hadd
  generalize 1 + r = p at *
  have hok : okTag p q = true := by
    unfold okTag isN
    by_cases h : q = 0
    · simp [h, hp0, hp1]
    · have h1 : 1 ≤ q := by omega
      have h2 : q ≤ 34 := by omega
      simp [hp0, hp1, h1, h2]
  have hT1 : tagL [] p q (dg 200) = [(p, q, dg 200)] := by unfold tagL; rw [if_pos hok]; simp [putT]
  have hE : errOf (okTag p q) = 0 := by rw [hok]; rfl
  clear hok hq0 hq1 hp0 hp1
  go_wp2_with fail
  refine (ku_new w _ hb0).mono ?_
  rintro e w1 ⟨g, m, rfl, hg, hm, hk, hb⟩
  have K1 := Lib.hid hk
  clear hg hm hk hb
  go_wp2_with fail
  refine (Hdig.out w1).mono ?_
  rintro e w2 ⟨rfl, hb2⟩
  have K2 := Lib.hid (K1.out.below hb2)
  clear hb2 K1
  go_wp2_with fail
  refine (ku_tagE p q (dg 200) D 0 [(p, q, dg 200)] K2.out (by decide) hpw hqw (dg_len 200) HD.out hE hT1).mono ?_
  rintro e w3 ⟨rfl, hk3, ho3⟩
  have K3 := Lib.hid hk3
  clear hk3 ho3 K2 hE hT1
  go_wp2_with fail
  go_loopw [8] (fun v wr => ∃ (j : Nat) (T : List Tg), j ≤ nl ∧ j ≤ 60 ∧ v = .int .i64 j ∧ T.length ≤ 1 + 35 * j ∧ (p, q, dg 200) ∈ T ∧ Ku w wr g m T j) (fun v _ => 60 - (intOf v).toNat)
  case atStart => exact ⟨0, _, Nat.zero_le _, by omega, rfl, by simp, by simp, K3.out⟩
  case round =>
    obtain ⟨j, T, hj, hj60, rfl, hTl, hmem, hK⟩ := hrel
    have hi0 : (0 : Int) ≤ j := by omega
    by_cases hlt : j < nl
    · have hi1 : (j : Int) < nl := by omega
      by_cases hlt6 : j < 60
      · have hi6 : (j : Int) < 60 := by omega
        have hjl : j < l.length := by rw [HA.out.1]; exact hlt
        obtain ⟨b, off, rfl, hlow, hdeed⟩ := HA.out.at_ hjl
        obtain ⟨x, hx⟩ : ∃ x, l[j] = x := ⟨_, rfl⟩
        rw [hx] at hdeed
        obtain ⟨⟨hxk, hxf, hxt, _, _⟩, _, c1, c2, ⟨Ar, nr, cr, c3, hAr⟩, c4, _, _⟩ := hdeed
        obtain ⟨D2, hD2, _, _, hdig2⟩ := ku_digest x.d w
        have HD2 := Lib.hid hD2
        have Hdig2 := Lib.hid hdig2
        have Hc := Lib.hid (And.intro c1 (And.intro c2 (And.intro c3 c4)))
        have Kd := Lib.hid (hK.below (Below.refl _ _).drew)
        have Hlow := Lib.hid hlow
        have Hx := Lib.hid (And.intro hxf (And.intro hxt (And.intro hAr (And.intro hmem hTl))))
        have Q0 : wr.drew.cell? ⟨b, off + j * 7 + 1, none⟩ = some (.int .i64 x.frm) ∧ wr.drew.cell? ⟨b, off + j * 7 + 2, none⟩ = some (.int .i64 x.to_) ∧ wr.drew.cell? ⟨b, off + j * 7 + 3, none⟩ = some (.slice Ar nr cr) ∧ wr.drew.cell? ⟨b, off + j * 7 + 4, none⟩ = some (.int .u8 (x.d.toNat : Int)) := keep4 Kd.out.bel hlow Hc.out
        have Q0' := Q0
        obtain ⟨c1d, c2d, c3d, c4d⟩ := Q0'
        clear hxk hxf hxt hAr c1 c2 c3 c4 hK hmem hTl hlow hD2 hdig2 hx
        go_wp2
        go_region_held3 (fun W' => W'.cell? ⟨b, off + j * 7 + 1, none⟩ = some (.int .i64 x.frm) ∧ W'.cell? ⟨b, off + j * 7 + 2, none⟩ = some (.int .i64 x.to_) ∧ W'.cell? ⟨b, off + j * 7 + 3, none⟩ = some (.slice Ar nr cr) ∧ W'.cell? ⟨b, off + j * 7 + 4, none⟩ = some (.int .u8 (x.d.toNat : Int)))
          (first | with_reducible exact Q0 | with_reducible exact Q1 | with_reducible exact Q2)
          (first
          | (go_at_call 13; refine (Hdig2.out _).mono ?_; rintro e w4 ⟨rfl, hb4⟩
             have Ke := Lib.hid (Kd.out.below hb4)
             have Q1 : w4.cell? ⟨b, off + j * 7 + 1, none⟩ = some (.int .i64 x.frm) ∧ w4.cell? ⟨b, off + j * 7 + 2, none⟩ = some (.int .i64 x.to_) ∧ w4.cell? ⟨b, off + j * 7 + 3, none⟩ = some (.slice Ar nr cr) ∧ w4.cell? ⟨b, off + j * 7 + 4, none⟩ = some (.int .u8 (x.d.toNat : Int)) := keep4 Ke.out.bel Hlow.out Hc.out)
          | (go_at_call 14; refine (ku_tag x.frm x.to_ (dg x.d) D2 Ke.out (by have := Hx.out; omega) Hx.out.1 Hx.out.2.1 (dg_len _) HD2.out).mono ?_; rintro e w5 ⟨rfl, hk5, ho5⟩
             have Kf := Lib.hid hk5
             have Q2 : w5.cell? ⟨b, off + j * 7 + 1, none⟩ = some (.int .i64 x.frm) ∧ w5.cell? ⟨b, off + j * 7 + 2, none⟩ = some (.int .i64 x.to_) ∧ w5.cell? ⟨b, off + j * 7 + 3, none⟩ = some (.slice Ar nr cr) ∧ w5.cell? ⟨b, off + j * 7 + 4, none⟩ = some (.int .u8 (x.d.toNat : Int)) := keep4 Kf.out.bel Hlow.out Hc.out))
        have Kg := Lib.hid (Kf.out.below (Below.refl _ _).drew)
        have Hmem2 := Lib.hid (And.intro ((tagL_mem (f := x.frm) (t := x.to_) (d := dg x.d)).2 (.inl Hx.out.2.2.2.1)) (tagL_len T x.frm x.to_ (dg x.d)))
        clear hk5 ho5 Q0 Q1 Q2 hb4 c1d c2d c3d c4d Kd Ke Kf
        have P0 : w5.drew.cell? ⟨b, off + j * 7 + 1, none⟩ = some (.int .i64 x.frm) ∧ w5.drew.cell? ⟨b, off + j * 7 + 2, none⟩ = some (.int .i64 x.to_) ∧ w5.drew.cell? ⟨b, off + j * 7 + 3, none⟩ = some (.slice Ar nr cr) ∧ w5.drew.cell? ⟨b, off + j * 7 + 4, none⟩ = some (.int .u8 (x.d.toNat : Int)) := keep4 Kg.out.bel Hlow.out Hc.out
        have P0' := P0
        obtain ⟨c1d, c2d, c3d, c4d⟩ := P0'
        generalize hT2 : tagL T x.frm x.to_ (dg x.d) = T2 at *
        go_wp2
        go_region_held3 (fun W' => W'.cell? ⟨b, off + j * 7 + 1, none⟩ = some (.int .i64 x.frm) ∧ W'.cell? ⟨b, off + j * 7 + 2, none⟩ = some (.int .i64 x.to_) ∧ W'.cell? ⟨b, off + j * 7 + 3, none⟩ = some (.slice Ar nr cr) ∧ W'.cell? ⟨b, off + j * 7 + 4, none⟩ = some (.int .u8 (x.d.toNat : Int)))
          (first | with_reducible exact P0 | with_reducible exact P1 | with_reducible exact P2)
          (first
          | (go_at_call 13; refine (Hdig2.out _).mono ?_; rintro e w6 ⟨rfl, hb6⟩
             have Kh := Lib.hid (Kg.out.below hb6)
             have P1 : w6.cell? ⟨b, off + j * 7 + 1, none⟩ = some (.int .i64 x.frm) ∧ w6.cell? ⟨b, off + j * 7 + 2, none⟩ = some (.int .i64 x.to_) ∧ w6.cell? ⟨b, off + j * 7 + 3, none⟩ = some (.slice Ar nr cr) ∧ w6.cell? ⟨b, off + j * 7 + 4, none⟩ = some (.int .u8 (x.d.toNat : Int)) := keep4 Kh.out.bel Hlow.out Hc.out)
          | (go_at_call 18; refine (ku_vec x.frm Ar nr cr x.rs (dg x.d) D2 Kh.out (by have := Hx.out; have := Hmem2.out; omega) Hx.out.1 (Hx.out.2.2.1.after Kh.out.bel) (dg_len _) HD2.out).mono ?_; rintro e w7 ⟨rfl, hk7, ho7⟩
             have Ki := Lib.hid hk7
             have P2 : w7.cell? ⟨b, off + j * 7 + 1, none⟩ = some (.int .i64 x.frm) ∧ w7.cell? ⟨b, off + j * 7 + 2, none⟩ = some (.int .i64 x.to_) ∧ w7.cell? ⟨b, off + j * 7 + 3, none⟩ = some (.slice Ar nr cr) ∧ w7.cell? ⟨b, off + j * 7 + 4, none⟩ = some (.int .u8 (x.d.toNat : Int)) := keep4 Ki.out.bel Hlow.out Hc.out))
        have Hmem3 := Lib.hid (And.intro ((vecL_mem (f := x.frm) (rs := x.rs) (d := dg x.d)).2 (.inl Hmem2.out.1)) (vecL_len T2 x.frm x.rs (dg x.d)))
        clear hk7 ho7 P0 P1 P2 hb6 c1d c2d c3d c4d Kg Kh
        generalize hT3 : vecL T2 x.frm x.rs (dg x.d) = T3 at *
        go_wp2_with fail
        refine (Hdig.out _).mono ?_
        rintro e w8 ⟨rfl, hb8⟩
        have Kj := Lib.hid (Ki.out.below hb8)
        clear hb8 Ki
        go_wp2_with fail
        refine (ku_checkE p q (dg 200) D true Kj.out (by omega) hpw hqw (dg_len 200) HD.out (by unfold chk inT; simp [Hmem3.out.1])).mono ?_
        rintro e w9 ⟨rfl, hk9, ho9⟩
        have Kk := Lib.hid hk9
        clear hk9 ho9 Kj
        go_wp2
        refine ⟨⟨j + 1, T3, by omega, by omega, by go_num, by have := Hx.out; have := Hmem2.out; have := Hmem3.out; omega, Hmem3.out.1, Kk.out⟩, by simp [intOf]; omega⟩
      · have hi6 : ¬ (j : Int) < 60 := by omega
        have H3 := Lib.hid hK.bel
        clear hK
        go_wp2
        go_ret
        exact ⟨rfl, H3.out⟩
    · have hi1 : ¬ (j : Int) < nl := by omega
      have H3 := Lib.hid hK.bel
      clear hK
      go_wp2
      go_ret
      exact ⟨rfl, H3.out⟩

end Go.Proofs.Ytoidiacofgmigaa.tagStays
