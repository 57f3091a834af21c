/-
  The chapter's examples, over the code: awake.
-/
import Derived.Test.YtmcbjcopipafdaaAw
namespace Go.Proofs.Ytmcbjcopipafdaa
open Go.RowKit Go.Maps
set_option linter.unusedVariables false

set_option maxRecDepth 100000 in
set_option maxHeartbeats 3200000 in
theorem awake_any (w : World) : Calls Try.prog 16 #[] w fun e w' => e = .returned (.bool true) ∧ Below w.heap.size w w' := by
  have hnot : ∀ (x : Bool) (w : World), (Op.unary .not (.bool x)).run Try.prog w = .ok (.bool (!x)) w := fun _ _ => rfl
  go_enter Try.func16, Try.ntmps16
  go_wp2_with fail
  refine (pk_new (w0 := w) 2 (by decide) (by decide) (Below.refl _ _)).mono ?_
  rintro e w1 ⟨g, r, m, rfl, q1, q2, q3, hk, hb⟩
  have K1 := Lib.hid hk
  clear hk hb q1 q2 q3
  go_wp2_with fail
  refine (full_any 1 _).mono ?_
  rintro e w2 ⟨a, rfl, ha, hB, hb⟩
  have K2 := Lib.hid (K1.out.below hb)
  have Ha := Lib.hid (And.intro hB (K1.out.notM ha))
  clear hB hb ha K1
  go_wp2_with fail
  refine (pk_write (l := fb 1) K2.out 0 (by decide) 64 64 (by simp [fb]) (by simp [maxLen]) (BOff.ofBlk Ha.out.1 Ha.out.2) 0 aw1 aw_e1 rfl).mono ?_
  rintro e w3 ⟨rfl, hk, ho⟩
  have K3 := Lib.hid hk
  clear hk ho K2
  clear Ha
  go_wp2_with fail
  refine (full_any 2 _).mono ?_
  rintro e w4 ⟨z, rfl, hz, hB, hb⟩
  have K4 := Lib.hid (K3.out.below hb)
  have Hz := Lib.hid (And.intro hB (K3.out.notM hz))
  clear hB hb hz K3
  go_wp2_with fail
  refine (pk_write (l := fb 2) K4.out 1 (by decide) 64 64 (by simp [fb]) (by simp [maxLen]) (BOff.ofBlk Hz.out.1 Hz.out.2) 0 aw2 aw_e2 rfl).mono ?_
  rintro e w5 ⟨rfl, hk, ho⟩
  have K5 := Lib.hid hk
  clear hk ho K4
  clear Hz
  go_wp2_with fail
  refine (full_any 3 _).mono ?_
  rintro e w6 ⟨c, rfl, hc, hB, hb⟩
  have K6 := Lib.hid (K5.out.below hb)
  have Hc := Lib.hid (And.intro hB (K5.out.notM hc))
  clear hB hb hc K5
  go_wp2_with fail
  refine (pk_write (l := fb 3) K6.out 0 (by decide) 64 64 (by simp [fb]) (by simp [maxLen]) (BOff.ofBlk Hc.out.1 Hc.out.2) 0 aw3 aw_e3 rfl).mono ?_
  rintro e w7 ⟨rfl, hk, ho⟩
  have K7 := Lib.hid hk
  clear hk ho K6
  clear Hc
  go_wp2_with fail
  refine (pk_waits K7.out [0, 1] aw_w3).mono ?_
  rintro e w8 ⟨Aw, cw, rfl, hI, hb, _⟩
  have K8 := Lib.hid (K7.out.below hb)
  have HI := Lib.hid hI
  clear hb hI K7
  have hal : Below w8.heap.size w8 (w8.alloc (.cells #[.int .i64 0, .int .i64 1] 3)) := (Below.refl _ _).alloc (Nat.le_refl _) _
  have HL := Lib.hid (And.intro hal (IsL.made w8 3 #[.int .i64 0, .int .i64 1] [0, 1] 2 rfl rfl (by decide)))
  clear hal
  go_wp2_with fail
  refine (eqInts_same _ _ 2 _ 2 [0, 1] (w8.alloc (.cells #[.int .i64 0, .int .i64 1] 3)) (HI.out.after HL.out.1) HL.out.2).mono ?_
  rintro e w9 ⟨rfl, hb⟩
  have K9 := Lib.hid ((K8.out.below HL.out.1).below hb)
  clear hb K8 HI HL
  have hal : Below w9.heap.size w9 (w9.alloc (.cells #[.bool false, .bool true] 4)) := (Below.refl _ _).alloc (Nat.le_refl _) _
  have HL := Lib.hid (And.intro (K9.out.below hal) (KOff.made w9 (GRM g r m) 4 #[.bool false, .bool true] [false, true] 2 rfl rfl (by decide) K9.out.1.lt))
  clear hal K9
  go_wp2_with fail
  refine (pk_crash (k := [false, true]) HL.out.1 2 2 rfl HL.out.2 0 aw4 aw_e4 rfl).mono ?_
  rintro e w10 ⟨rfl, hk, ho⟩
  have K10 := Lib.hid hk
  clear hk ho HL
  go_wp2_with fail
  refine (pk_dead K10.out true aw_d4).mono ?_
  rintro e w' ⟨rfl, hw⟩
  obtain rfl : w10 = w' := hw.symm
  go_wp2_with fail
  refine (pk_boot K10.out aw5 rfl).mono ?_
  rintro e w11 ⟨rfl, hk, ho⟩
  have K11 := Lib.hid hk
  clear hk ho K10
  go_wp2_with fail
  refine (pk_has K11.out 0 (by decide) 0 true aw_h5).mono ?_
  rintro e w12 ⟨rfl, hb⟩
  have K12 := Lib.hid (K11.out.below hb)
  clear hb K11
  go_wp2_with fail
  refine (pk_has K12.out 1 (by decide) 2 true aw_i5).mono ?_
  rintro e w13 ⟨rfl, hb⟩
  have K13 := Lib.hid (K12.out.below hb)
  clear hb K12
  go_wp2_with fail
  refine (full_any 1 _).mono ?_
  rintro e w14 ⟨d, rfl, hd, hB, hb⟩
  have K14 := Lib.hid (K13.out.below hb)
  have Hd := Lib.hid (And.intro hB (K13.out.notM hd))
  clear hB hb hd K13
  go_wp2_with fail
  refine (pk_write (l := fb 1) K14.out 0 (by decide) 64 64 (by simp [fb]) (by simp [maxLen]) (BOff.ofBlk Hd.out.1 Hd.out.2) 0 aw6 aw_e6 rfl).mono ?_
  rintro e w15 ⟨rfl, hk, ho⟩
  have K15 := Lib.hid hk
  clear hk ho K14
  clear Hd
  go_wp2_with fail
  refine (pk_flush K15.out 0 aw7 aw_e7 rfl).mono ?_
  rintro e w16 ⟨rfl, hk, ho⟩
  have K16 := Lib.hid hk
  clear hk ho K15
  go_wp2_with fail
  refine (full_any 2 _).mono ?_
  rintro e w17 ⟨f, rfl, hf, hB, hb⟩
  have K17 := Lib.hid (K16.out.below hb)
  have Hf := Lib.hid (And.intro hB (K16.out.notM hf))
  clear hB hb hf K16
  go_wp2_with fail
  refine (pk_write (l := fb 2) K17.out 0 (by decide) 64 64 (by simp [fb]) (by simp [maxLen]) (BOff.ofBlk Hf.out.1 Hf.out.2) 0 aw8 aw_e8 rfl).mono ?_
  rintro e w18 ⟨rfl, hk, ho⟩
  have K18 := Lib.hid hk
  clear hk ho K17
  clear Hf
  go_wp2_with fail
  refine (pk_crash (k := []) K18.out 0 0 rfl (KOff.nil _ _) 0 aw9 aw_e9 rfl).mono ?_
  rintro e w19 ⟨rfl, hk, ho⟩
  have K19 := Lib.hid hk
  clear hk ho K18
  go_wp2_with fail
  refine (pk_boot K19.out aw10 rfl).mono ?_
  rintro e w20 ⟨rfl, hk, ho⟩
  have K20 := Lib.hid hk
  clear hk ho K19
  go_wp2_with fail
  refine (pk_has K20.out 0 (by decide) 1 true aw_h10).mono ?_
  rintro e w21 ⟨rfl, hb⟩
  have K21 := Lib.hid (K20.out.below hb)
  clear hb K20
  go_wp2_with fail
  refine (pk_fail (k := []) K21.out 1 (by decide) 0 0 rfl (KOff.nil _ _) 0 aw11 aw_e11 rfl).mono ?_
  rintro e w22 ⟨rfl, hk, ho⟩
  have K22 := Lib.hid hk
  clear hk ho K21
  go_wp2_with fail
  refine (full_any 3 _).mono ?_
  rintro e w23 ⟨h, rfl, hh, hB, hb⟩
  have K23 := Lib.hid (K22.out.below hb)
  have Hh := Lib.hid (And.intro hB (K22.out.notM hh))
  clear hB hb hh K22
  go_wp2_with fail
  refine (pk_write (l := fb 3) K23.out 0 (by decide) 64 64 (by simp [fb]) (by simp [maxLen]) (BOff.ofBlk Hh.out.1 Hh.out.2) 0 aw12 aw_e12 rfl).mono ?_
  rintro e w24 ⟨rfl, hk, ho⟩
  have K24 := Lib.hid hk
  clear hk ho K23
  clear Hh
  go_wp2_with fail
  refine (pk_flush K24.out 50 aw13 aw_e13 rfl).mono ?_
  rintro e w25 ⟨rfl, hk, ho⟩
  have K25 := Lib.hid hk
  clear hk ho K24
  go_wp2_with fail
  refine (pk_dead K25.out true aw_d13).mono ?_
  rintro e w' ⟨rfl, hw⟩
  obtain rfl : w25 = w' := hw.symm
  go_wp2
  go_ret
  exact ⟨rfl, K25.out.bel⟩
end Go.Proofs.Ytmcbjcopipafdaa
