/-
  The chapter's examples: BinKnown, which has no arguments, returns true; no condition.
-/
import Derived.Test.YtjnoeojlmfmhdaaOpen
import Derived.Test.YtjnoeojlmfmhdaaKnown
namespace Go.Proofs.Ytjnoeojlmfmhdaa.binKnown
open Go.ChangeShapes Go.WideShapes Go.ChangeAt Go.RowKit
set_option linter.unusedVariables false

set_option maxRecDepth 100000 in
set_option maxHeartbeats 8000000 in
theorem walk  (w : World)  :
    Calls Try.prog 16 #[] w fun e w' => e = .returned (.bool true) ∧ Below w.heap.size w w' := by
  have hM : maxLen = 9223372036854775807 := rfl
  have HM := Lib.hid hM
  clear hM
  go_enter Try.func16, Try.ntmps16
  have t : Below w.heap.size w w := Below.refl _ _
  obtain ⟨w0, hw0⟩ : ∃ w0, w0 = w := ⟨_, rfl⟩
  subst hw0
  go_wp2_with fail
  have h := num_any (0) w0
  rw [nm_0] at h
  refine h.mono ?_
  clear h
  rintro e w1 ⟨v, rfl, hnew⟩
  obtain ⟨A1, c1, rfl, hl, hc, hB⟩ := hnew.form
  have b := hnew.2
  clear hnew hl hc
  replace t := t.trans (b.mono t.size)
  clear b
  have Z := hB
  simp only at Z
  clear hB
  go_wp2_with fail
  have h := num_any (255) w1
  rw [nm_255] at h
  refine h.mono ?_
  clear h
  rintro e w2 ⟨v, rfl, hnew⟩
  obtain ⟨A2, c2, rfl, hl, hc, hB⟩ := hnew.form
  have b := hnew.2
  clear hnew hl hc
  replace Z := Z.on b
  replace t := t.trans (b.mono t.size)
  clear b
  have O := hB
  simp only at O
  clear hB
  go_wp2_with fail
  have h := num_any (9007199254740991) w2
  rw [nm_max] at h
  refine h.mono ?_
  clear h
  rintro e w3 ⟨v, rfl, hnew⟩
  obtain ⟨A3, c3, rfl, hl, hc, hB⟩ := hnew.form
  have b := hnew.2
  clear hnew hl hc
  replace Z := Z.on b
  replace O := O.on b
  replace t := t.trans (b.mono t.size)
  clear b
  have M := hB
  simp only at M
  clear hB
  go_wp2_with fail
  have h := num_any (-1) w3
  rw [nm_neg] at h
  refine h.mono ?_
  clear h
  rintro e w4 ⟨v, rfl, hnew⟩
  obtain ⟨A4, c4, rfl, hl, hc, hB⟩ := hnew.form
  have b := hnew.2
  clear hnew hl hc
  replace Z := Z.on b
  replace O := O.on b
  replace M := M.on b
  replace t := t.trans (b.mono t.size)
  clear b
  clear hB
  go_wp2_with fail
  have h := num_any (9007199254740992) w4
  rw [nm_big] at h
  refine h.mono ?_
  clear h
  rintro e w5 ⟨v, rfl, hnew⟩
  obtain ⟨A5, c5, rfl, hl, hc, hB⟩ := hnew.form
  have b := hnew.2
  clear hnew hl hc
  replace Z := Z.on b
  replace O := O.on b
  replace M := M.on b
  replace t := t.trans (b.mono t.size)
  clear b
  clear hB
  go_wp2_with fail
  refine (eqL w5 #[.int .u8 0] [0] rfl Z _ (by decide)).mono ?_
  rintro e w6 ⟨rfl, b⟩
  clear Z
  replace O := O.on b
  replace M := M.on b
  replace t := t.trans (b.mono t.size)
  clear b
  go_wp2_with fail
  refine (eqL w6 #[.int .u8 1, .int .u8 255] [1, 255] rfl O _ (by decide)).mono ?_
  rintro e w7 ⟨rfl, b⟩
  clear O
  replace M := M.on b
  replace t := t.trans (b.mono t.size)
  clear b
  go_wp2_with fail
  refine (eqL w7 #[.int .u8 7, .int .u8 31, .int .u8 255, .int .u8 255, .int .u8 255, .int .u8 255, .int .u8 255, .int .u8 255] [7, 31, 255, 255, 255, 255, 255, 255] rfl M _ (by decide)).mono ?_
  rintro e w8 ⟨rfl, b⟩
  clear M
  replace t := t.trans (b.mono t.size)
  clear b
  go_wp2_with fail
  have h := takeNumL w8 #[.int .u8 2, .int .u8 0, .int .u8 1] [2, 0, 1] rfl (by decide)
  rw [tk_1] at h
  refine h.mono ?_
  clear h
  rintro e w9 ⟨v, rfl, hnew⟩
  obtain ⟨A9, c9, rfl, hl, hc, hB⟩ := hnew.form
  have b := hnew.2
  clear hnew hl hc
  replace t := t.trans (b.mono t.size)
  clear b
  clear hB
  go_wp2_with fail
  have h := takeNumL w9 #[.int .u8 8, .int .u8 1, .int .u8 1, .int .u8 1, .int .u8 1, .int .u8 1, .int .u8 1, .int .u8 1, .int .u8 1] [8, 1, 1, 1, 1, 1, 1, 1, 1] rfl (by decide)
  rw [tk_2] at h
  refine h.mono ?_
  clear h
  rintro e w10 ⟨v, rfl, hnew⟩
  obtain ⟨A10, c10, rfl, hl, hc, hB⟩ := hnew.form
  have b := hnew.2
  clear hnew hl hc
  replace t := t.trans (b.mono t.size)
  clear b
  clear hB
  go_wp2_with fail
  have h := takeNumL w10 #[.int .u8 1] [1] rfl (by decide)
  rw [tk_3] at h
  refine h.mono ?_
  clear h
  rintro e w11 ⟨v, rfl, hnew⟩
  obtain ⟨A11, c11, rfl, hl, hc, hB⟩ := hnew.form
  have b := hnew.2
  clear hnew hl hc
  replace t := t.trans (b.mono t.size)
  clear b
  clear hB
  go_wp2_with fail
  have h := takeNumL w11 #[.int .u8 7, .int .u8 32, .int .u8 0, .int .u8 0, .int .u8 0, .int .u8 0, .int .u8 0, .int .u8 0] [7, 32, 0, 0, 0, 0, 0, 0] rfl (by decide)
  rw [tk_4] at h
  refine h.mono ?_
  clear h
  rintro e w12 ⟨v, rfl, hnew⟩
  obtain ⟨A12, c12, rfl, hl, hc, hB⟩ := hnew.form
  have b := hnew.2
  clear hnew hl hc
  replace t := t.trans (b.mono t.size)
  clear b
  clear hB
  go_wp2_with fail
  have h := takeNum_any none 0 0 [] w12 (Bs.nil _ _) rfl (by decide) (by decide) (by decide)
  rw [tk_5] at h
  refine h.mono ?_
  clear h
  rintro e w13 ⟨v, rfl, hnew⟩
  obtain ⟨A13, c13, rfl, hl, hc, hB⟩ := hnew.form
  have b := hnew.2
  clear hnew hl hc hB
  replace t := t.trans (b.mono t.size)
  clear b
  go_wp2_with fail
  have h := takeNumL w13 #[.int .u8 2, .int .u8 0] [2, 0] rfl (by decide)
  rw [tk_6] at h
  refine h.mono ?_
  clear h
  rintro e w14 ⟨v, rfl, hnew⟩
  obtain ⟨A14, c14, rfl, hl, hc, hB⟩ := hnew.form
  have b := hnew.2
  clear hnew hl hc
  replace t := t.trans (b.mono t.size)
  clear b
  clear hB
  go_wp2_with fail
  have h := takeNumL w14 #[.int .u8 0, .int .u8 7] [0, 7] rfl (by decide)
  rw [tk_7] at h
  refine h.mono ?_
  clear h
  rintro e w15 ⟨v, rfl, hnew⟩
  obtain ⟨A15, c15, rfl, hl, hc, hB⟩ := hnew.form
  have b := hnew.2
  clear hnew hl hc
  replace t := t.trans (b.mono t.size)
  clear b
  have R := hB
  simp only at R
  clear hB
  go_wp2_with fail
  refine (eqL w15 #[.int .u8 7] [7] rfl R _ (by decide)).mono ?_
  rintro e w16 ⟨rfl, b⟩
  clear R
  replace t := t.trans (b.mono t.size)
  clear b
  have X : Bs (w16.alloc (.cells #[.int .u8 1, .int .u8 2, .int .u8 170, .int .u8 187, .int .u8 204] 5)) (some ⟨w16.heap.size, 0, none⟩) [1, 2, 170, 187, 204] := Bs.made _ _ _ _ rfl
  go_wp2_with fail
  have h := takeStr_any (some ⟨w16.heap.size, 0, none⟩) 5 5 1 [1, 2, 170, 187, 204] _ X rfl (by decide) (by decide) (by decide)
  rw [ts_1] at h
  refine h.mono ?_
  clear h
  rintro e w17 ⟨v, u, w17m, rfl, hnew, hnew'⟩
  obtain ⟨A17, c17, rfl, hl, hc, hB⟩ := hnew.form
  obtain ⟨B17, d17, rfl, hl', hc', hB'⟩ := hnew'.form
  have b0 := hnew.2.trans (hnew'.2.mono hnew.2.size)
  have b : Below w16.heap.size w16 w17 := ((Below.refl _ _).alloc (Nat.le_refl _) _).trans (b0.mono (by simp))
  replace X := X.on b0
  clear hnew hnew' hl hc hl' hc' hB hB' b0
  replace t := t.trans (b.mono t.size)
  clear b
  replace X := X.front (m := 3) (by decide)
  go_wp2_with fail
  have h := takeStr_any (some ⟨w16.heap.size, 0, none⟩) 5 3 9 [1, 2, 170] w17 X rfl (by decide) (by decide) (by decide)
  rw [ts_2] at h
  refine h.mono ?_
  clear h X
  rintro e w18 ⟨v, u, w18m, rfl, hnew, hnew'⟩
  obtain ⟨A18, c18, rfl, hl, hc, hB⟩ := hnew.form
  obtain ⟨B18, d18, rfl, hl', hc', hB'⟩ := hnew'.form
  have b := hnew.2.trans (hnew'.2.mono hnew.2.size)
  clear hnew hnew' hl hc hl' hc' hB hB'
  replace t := t.trans (b.mono t.size)
  clear b
  go_wp2_with fail
  have h := takeStr_any none 0 0 (-1) [] w18 (Bs.nil _ _) rfl (by decide) (by decide) (by decide)
  rw [ts_3] at h
  refine h.mono ?_
  clear h
  rintro e w19 ⟨v, u, w19m, rfl, hnew, hnew'⟩
  obtain ⟨A19, c19, rfl, hl, hc, hB⟩ := hnew.form
  obtain ⟨B19, d19, rfl, hl', hc', hB'⟩ := hnew'.form
  have b := hnew.2.trans (hnew'.2.mono hnew.2.size)
  clear hnew hnew' hl hc hl' hc' hB
  replace t := t.trans (b.mono t.size)
  clear b
  clear hB'
  go_wp2_with fail
  have h := takeStrL w19 #[.int .u8 3, .int .u8 1, .int .u8 0, .int .u8 1] [3, 1, 0, 1] 4611686018427387904 rfl (by decide)
  rw [ts_4] at h
  refine h.mono ?_
  clear h
  rintro e w20 ⟨v, u, w20m, rfl, hnew, hnew'⟩
  obtain ⟨A20, c20, rfl, hl, hc, hB⟩ := hnew.form
  obtain ⟨B20, d20, rfl, hl', hc', hB'⟩ := hnew'.form
  have b := hnew.2.trans (hnew'.2.mono hnew.2.size)
  clear hnew hnew' hl hc hl' hc' hB
  replace t := t.trans (b.mono t.size)
  clear b
  clear hB'
  go_wp2_with fail
  have h := takeStrL w20 #[.int .u8 0, .int .u8 5] [0, 5] 0 rfl (by decide)
  rw [ts_5] at h
  refine h.mono ?_
  clear h
  rintro e w21 ⟨v, u, w21m, rfl, hnew, hnew'⟩
  obtain ⟨A21, c21, rfl, hl, hc, hB⟩ := hnew.form
  obtain ⟨B21, d21, rfl, hl', hc', hB'⟩ := hnew'.form
  have b := hnew.2.trans (hnew'.2.mono hnew.2.size)
  clear hnew hnew' hl hc hl' hc' hB
  replace t := t.trans (b.mono t.size)
  clear b
  have L := hB'
  simp only at L
  clear hB'
  go_wp2_with fail
  have h := takeFixL w21 #[.int .u8 1] [1] 2 rfl (by decide)
  rw [tf_1] at h
  refine h.mono ?_
  clear h
  rintro e w22 ⟨v, u, w22m, rfl, hnew, hnew'⟩
  obtain ⟨A22, c22, rfl, hl, hc, hB⟩ := hnew.form
  obtain ⟨B22, d22, rfl, hl', hc', hB'⟩ := hnew'.form
  have b := hnew.2.trans (hnew'.2.mono hnew.2.size)
  clear hnew hnew' hl hc hl' hc' hB
  replace L := L.on b
  replace t := t.trans (b.mono t.size)
  clear b
  clear hB'
  go_wp2_with fail
  have h := takeFixL w22 #[.int .u8 1] [1] (-1) rfl (by decide)
  rw [tf_2] at h
  refine h.mono ?_
  clear h
  rintro e w23 ⟨v, u, w23m, rfl, hnew, hnew'⟩
  obtain ⟨A23, c23, rfl, hl, hc, hB⟩ := hnew.form
  obtain ⟨B23, d23, rfl, hl', hc', hB'⟩ := hnew'.form
  have b := hnew.2.trans (hnew'.2.mono hnew.2.size)
  clear hnew hnew' hl hc hl' hc' hB
  replace L := L.on b
  replace t := t.trans (b.mono t.size)
  clear b
  clear hB'
  go_wp2_with fail
  have h := takeFixL w23 #[.int .u8 1] [1] 9223372036854775807 rfl (by decide)
  rw [tf_3] at h
  refine h.mono ?_
  clear h
  rintro e w24 ⟨v, u, w24m, rfl, hnew, hnew'⟩
  obtain ⟨A24, c24, rfl, hl, hc, hB⟩ := hnew.form
  obtain ⟨B24, d24, rfl, hl', hc', hB'⟩ := hnew'.form
  have b := hnew.2.trans (hnew'.2.mono hnew.2.size)
  clear hnew hnew' hl hc hl' hc' hB
  replace L := L.on b
  replace t := t.trans (b.mono t.size)
  clear b
  clear hB'
  obtain ⟨i0, hi, hz0, hz1, hz2⟩ := info_parts u8_info
  go_wp2_with (at_make; refine wpList_make_full _ rfl _ _ 22 rfl w24.heap.size 5 i0 (.int .u8 0) 1 Try.underlying22 hi hz0 hz1 .i64 .i64 _ _ 65536 rfl rfl (by omega) (by omega) (by rw [hz2]; omega) (by rw [HM.out]; omega) (Nat.le_refl _) ?_; intro w25 ho hg; rw [make_zero] at ho; obtain ⟨big, hbl, hbb⟩ := bigB ho; have Hbl := Lib.hid hbl; clear ho hbl)
  have b : Below w24.heap.size w24 w25 := (Below.refl _ _).grown hg (Nat.le_refl _) (by simp)
  clear hg
  replace L := L.on b
  replace t := t.trans (b.mono t.size)
  clear b
  have h := str_any (some ⟨w24.heap.size, 0, none⟩) 65536 65536 big w25 hbb Hbl.out (by rw [HM.out]; omega)
  obtain ⟨y, hyl, hst⟩ := st_full Hbl.out
  rw [hst] at h
  have Hyl := Lib.hid hyl
  clear hyl hst
  refine h.mono ?_
  clear h hbb Hbl
  rintro e w26 ⟨v, rfl, hnew⟩
  obtain ⟨A26, c26, rfl, hl, hc, hB⟩ := hnew.form
  have b := hnew.2
  clear hnew hl hc hB
  replace L := L.on b
  replace t := t.trans (b.mono t.size)
  clear b
  simp only [Hyl.out]
  go_wp2_with (at_make; refine wpList_make_full _ rfl _ _ 22 rfl w26.heap.size 5 i0 (.int .u8 0) 1 Try.underlying22 hi hz0 hz1 .i64 .i64 _ _ 65537 rfl rfl (by omega) (by omega) (by rw [hz2]; omega) (by rw [HM.out]; omega) (Nat.le_refl _) ?_; intro w27 ho hg; rw [make_zero] at ho; obtain ⟨big, hbl, hbb⟩ := bigB ho; have Hbl := Lib.hid hbl; clear ho hbl)
  have b : Below w26.heap.size w26 w27 := (Below.refl _ _).grown hg (Nat.le_refl _) (by simp)
  clear hg
  replace L := L.on b
  replace t := t.trans (b.mono t.size)
  clear b
  have h := str_any (some ⟨w26.heap.size, 0, none⟩) 65537 65537 big w27 hbb Hbl.out (by rw [HM.out]; omega)
  rw [st_over Hbl.out] at h
  refine h.mono ?_
  clear h hbb Hbl
  rintro e w28 ⟨v, rfl, hnew⟩
  obtain ⟨A28, c28, rfl, hl, hc, hB⟩ := hnew.form
  have b := hnew.2
  clear hnew hl hc hB
  replace L := L.on b
  replace t := t.trans (b.mono t.size)
  clear b
  go_wp2_with fail
  refine (eqL w28 #[.int .u8 5] [5] rfl L _ (by decide)).mono ?_
  rintro e w29 ⟨rfl, b⟩
  clear L
  replace t := t.trans (b.mono t.size)
  clear b
  go_wp2_with fail
  refine (works_any _).mono ?_
  rintro e w30 ⟨rfl, b⟩
  replace t := t.trans (b.mono t.size)
  clear b
  go_wp2_with fail
  refine (join0 _).mono ?_
  rintro e w31 ⟨v, rfl, hnew⟩
  obtain ⟨A31, c31, rfl, hl, hc, hB⟩ := hnew.form
  have b := hnew.2
  clear hnew hl hc hB
  replace t := t.trans (b.mono t.size)
  clear b
  go_wp2
  go_ret
  exact ⟨rfl, t⟩

end Go.Proofs.Ytjnoeojlmfmhdaa.binKnown
