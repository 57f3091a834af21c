/-
  The chapter's examples, both ends: CrewKnown, which has no arguments, returns true; no condition.
-/
import Derived.Test.YtjibbbfpbflgmaaKn8
namespace Go.Proofs.Ytjibbbfpbflgmaa.crewKnown
open Go.ChangeShapes Go.WideShapes Go.ChangeAt Go.RowKit Go.Shelf CrewP
set_option linter.unusedVariables false


set_option maxRecDepth 100000 in
set_option maxHeartbeats 6400000 in
theorem walk  (w : World)  :
    Calls Try.prog 15 #[] w fun e w' => e = .returned (.bool true) ∧ Below w.heap.size w w' := by
  have hb0 : Below w.heap.size w w := Below.refl _ _
  have L1 := Lib.hid hb0
  clear hb0
  go_enter Try.func15, Try.ntmps15
  have hM := make_any 1 (some ⟨w.heap.size, 0, none⟩) 3 3 [1, 2, 3] _ (list_new w [1, 2, 3] (by decide) (by decide)) (by decide)
  have hbr : Below w.heap.size w (w.alloc (.cells (cis [1, 2, 3]).toArray 3)) := (Below.refl _ _).alloc (Nat.le_refl _) _
  have HM := Lib.hid (And.intro hM hbr)
  clear hM hbr
  go_wp2_with fail
  refine HM.out.1.mono ?_
  rintro e w1 hr
  obtain ⟨A1, c1, rfl, hA, hb⟩ := hr.open_ (F := 0) (L := []) (E := 2) ((make_same _ _).symm.trans (by decide +kernel)) (by decide)
  replace hb := HM.out.2.trans (hb.mono HM.out.2.size)
  clear hr HM
  obtain ⟨W1, hW1⟩ : ∃ W, w1.alloc (.cells #[.int .i64 0, .slice A1 0 c1] 24) = W := ⟨_, rfl⟩
  have hs1 : W1.heap.size = w1.heap.size + 1 := by rw [← hW1]; simp
  have hbn : Below w1.heap.size w1 W1 := by rw [← hW1]; exact (Below.refl _ _).alloc (Nat.le_refl _) _
  have hBn : Blk W1 w1.heap.size 24 [.int .i64 0, .slice A1 0 c1] := by rw [← hW1]; exact Blk.new rfl rfl
  have hbx := hb.trans (hbn.mono hb.size)
  have L2 := Lib.hid (L1.out.trans (hbx.mono L1.out.size))
  have HW1 := Lib.hid hW1
  clear hbn hBn hbx hW1 hA hb L1
  have hM := make_any 1 (some ⟨W1.heap.size, 0, none⟩) 4 4 [1, 1, 2, 3] _ (list_new W1 [1, 1, 2, 3] (by decide) (by decide)) (by decide)
  rw [hs1] at hM
  have hbr : Below W1.heap.size W1 (W1.alloc (.cells (cis [1, 1, 2, 3]).toArray 3)) := (Below.refl _ _).alloc (Nat.le_refl _) _
  have HM := Lib.hid (And.intro hM hbr)
  clear hM hbr
  go_wp2_with fail
  rw [HW1.out]
  refine HM.out.1.mono ?_
  rintro e w2 hr
  obtain ⟨A2, c2, rfl, hA, hb⟩ := hr.open_ (F := 0) (L := []) (E := 2) ((make_same _ _).symm.trans (by decide +kernel)) (by decide)
  replace hb := HM.out.2.trans (hb.mono HM.out.2.size)
  clear hr HM
  obtain ⟨W2, hW2⟩ : ∃ W, w2.alloc (.cells #[.int .i64 0, .slice A2 0 c2] 24) = W := ⟨_, rfl⟩
  have hs2 : W2.heap.size = w2.heap.size + 1 := by rw [← hW2]; simp
  have hbn : Below w2.heap.size w2 W2 := by rw [← hW2]; exact (Below.refl _ _).alloc (Nat.le_refl _) _
  have hBn : Blk W2 w2.heap.size 24 [.int .i64 0, .slice A2 0 c2] := by rw [← hW2]; exact Blk.new rfl rfl
  have hbx := hb.trans (hbn.mono hb.size)
  have L3 := Lib.hid (L2.out.trans (hbx.mono L2.out.size))
  have HW2 := Lib.hid hW2
  clear hbn hBn hbx hW2 hA hb L2
  have hM := make_any 0 (some ⟨W2.heap.size, 0, none⟩) 1 1 [9] _ (list_new W2 [9] (by decide) (by decide)) (by decide)
  rw [hs2] at hM
  have hbr : Below W2.heap.size W2 (W2.alloc (.cells (cis [9]).toArray 3)) := (Below.refl _ _).alloc (Nat.le_refl _) _
  have HM := Lib.hid (And.intro hM hbr)
  clear hM hbr
  go_wp2_with fail
  rw [HW2.out]
  refine HM.out.1.mono ?_
  rintro e w3 hr
  obtain ⟨A3, c3, rfl, hA, hb⟩ := hr.open_ (F := 0) (L := [9]) (E := 0) ((make_same _ _).symm.trans (by decide +kernel)) (by decide)
  replace hb := HM.out.2.trans (hb.mono HM.out.2.size)
  clear hr HM
  obtain ⟨W3, hW3⟩ : ∃ W, w3.alloc (.cells #[.int .i64 0, .slice A3 1 c3] 24) = W := ⟨_, rfl⟩
  have hs3 : W3.heap.size = w3.heap.size + 1 := by rw [← hW3]; simp
  have hbn : Below w3.heap.size w3 W3 := by rw [← hW3]; exact (Below.refl _ _).alloc (Nat.le_refl _) _
  have hBn : Blk W3 w3.heap.size 24 [.int .i64 0, .slice A3 1 c3] := by rw [← hW3]; exact Blk.new rfl rfl
  have hbx := hb.trans (hbn.mono hb.size)
  have L4 := Lib.hid (And.intro (L3.out.trans (hbx.mono L3.out.size)) (And.intro hBn (hA.after hbn)))
  have HW3 := Lib.hid hW3
  clear hbn hBn hbx hW3 hA hb L3
  have hM := make_any 0 (some ⟨W3.heap.size, 0, none⟩) 1 1 [29] _ (list_new W3 [29] (by decide) (by decide)) (by decide)
  rw [hs3] at hM
  have hbr : Below W3.heap.size W3 (W3.alloc (.cells (cis [29]).toArray 3)) := (Below.refl _ _).alloc (Nat.le_refl _) _
  have HM := Lib.hid (And.intro hM hbr)
  clear hM hbr
  go_wp2_with fail
  rw [HW3.out]
  refine HM.out.1.mono ?_
  rintro e w4 hr
  obtain ⟨A4, c4, rfl, hA, hb⟩ := hr.open_ (F := 0) (L := []) (E := 2) ((make_same _ _).symm.trans (by decide +kernel)) (by decide)
  replace hb := HM.out.2.trans (hb.mono HM.out.2.size)
  clear hr HM
  obtain ⟨W4, hW4⟩ : ∃ W, w4.alloc (.cells #[.int .i64 0, .slice A4 0 c4] 24) = W := ⟨_, rfl⟩
  have hs4 : W4.heap.size = w4.heap.size + 1 := by rw [← hW4]; simp
  have hbn : Below w4.heap.size w4 W4 := by rw [← hW4]; exact (Below.refl _ _).alloc (Nat.le_refl _) _
  have hBn : Blk W4 w4.heap.size 24 [.int .i64 0, .slice A4 0 c4] := by rw [← hW4]; exact Blk.new rfl rfl
  have hbx := hb.trans (hbn.mono hb.size)
  have L5 := Lib.hid (And.intro (L4.out.1.trans (hbx.mono L4.out.1.size)) (And.intro (L4.out.2.1.below hbx L4.out.2.1.lt) (L4.out.2.2.after hbx)))
  have HW4 := Lib.hid hW4
  clear hbn hBn hbx hW4 hA hb L4
  have hM := make_any 3 (some ⟨W4.heap.size, 0, none⟩) 10 10 [1, 2, 3, 4, 5, 6, 7, 8, 9, 10] _ (list_new W4 [1, 2, 3, 4, 5, 6, 7, 8, 9, 10] (by decide) (by decide)) (by decide)
  rw [hs4] at hM
  have hbr : Below W4.heap.size W4 (W4.alloc (.cells (cis [1, 2, 3, 4, 5, 6, 7, 8, 9, 10]).toArray 3)) := (Below.refl _ _).alloc (Nat.le_refl _) _
  have HM := Lib.hid (And.intro hM hbr)
  clear hM hbr
  go_wp2_with fail
  rw [HW4.out]
  refine HM.out.1.mono ?_
  rintro e w5 hr
  obtain ⟨A5, c5, rfl, hA, hb⟩ := hr.open_ (F := 0) (L := []) (E := 2) ((make_same _ _).symm.trans (by decide +kernel)) (by decide)
  replace hb := HM.out.2.trans (hb.mono HM.out.2.size)
  clear hr HM
  obtain ⟨W5, hW5⟩ : ∃ W, w5.alloc (.cells #[.int .i64 0, .slice A5 0 c5] 24) = W := ⟨_, rfl⟩
  have hs5 : W5.heap.size = w5.heap.size + 1 := by rw [← hW5]; simp
  have hbn : Below w5.heap.size w5 W5 := by rw [← hW5]; exact (Below.refl _ _).alloc (Nat.le_refl _) _
  have hBn : Blk W5 w5.heap.size 24 [.int .i64 0, .slice A5 0 c5] := by rw [← hW5]; exact Blk.new rfl rfl
  have hbx := hb.trans (hbn.mono hb.size)
  have L6 := Lib.hid (And.intro (L5.out.1.trans (hbx.mono L5.out.1.size)) (And.intro (L5.out.2.1.below hbx L5.out.2.1.lt) (L5.out.2.2.after hbx)))
  have HW5 := Lib.hid hW5
  clear hbn hBn hbx hW5 hA hb L5
  have hM := make_any (-1) none 0 0 [] W5 ⟨rfl, Nat.le_refl _, by unfold maxLen; omega, Shows.empty _, by simp⟩ (by decide)
  have hbr : Below W5.heap.size W5 W5 := Below.refl _ _
  have HM := Lib.hid (And.intro hM hbr)
  clear hM hbr
  go_wp2_with fail
  rw [HW5.out]
  refine HM.out.1.mono ?_
  rintro e w6 hr
  obtain ⟨A6, c6, rfl, hA, hb⟩ := hr.open_ (F := 0) (L := []) (E := 2) ((make_same _ _).symm.trans (by decide +kernel)) (by decide)
  replace hb := HM.out.2.trans (hb.mono HM.out.2.size)
  clear hr HM
  obtain ⟨W6, hW6⟩ : ∃ W, w6.alloc (.cells #[.int .i64 0, .slice A6 0 c6] 24) = W := ⟨_, rfl⟩
  have hs6 : W6.heap.size = w6.heap.size + 1 := by rw [← hW6]; simp
  have hbn : Below w6.heap.size w6 W6 := by rw [← hW6]; exact (Below.refl _ _).alloc (Nat.le_refl _) _
  have hBn : Blk W6 w6.heap.size 24 [.int .i64 0, .slice A6 0 c6] := by rw [← hW6]; exact Blk.new rfl rfl
  have hbx := hb.trans (hbn.mono hb.size)
  have L7 := Lib.hid (And.intro (L6.out.1.trans (hbx.mono L6.out.1.size)) (And.intro (L6.out.2.1.below hbx L6.out.2.1.lt) (L6.out.2.2.after hbx)))
  have HW6 := Lib.hid hW6
  clear hbn hBn hbx hW6 hA hb L6
  have hM := make_any 2 (some ⟨W6.heap.size, 0, none⟩) 7 7 [28, 27, 26, 25, 24, 23, 22] _ (list_new W6 [28, 27, 26, 25, 24, 23, 22] (by decide) (by decide)) (by decide)
  rw [hs6] at hM
  have hbr : Below W6.heap.size W6 (W6.alloc (.cells (cis [28, 27, 26, 25, 24, 23, 22]).toArray 3)) := (Below.refl _ _).alloc (Nat.le_refl _) _
  have HM := Lib.hid (And.intro hM hbr)
  clear hM hbr
  go_wp2_with fail
  rw [HW6.out]
  refine HM.out.1.mono ?_
  rintro e w7 hr
  obtain ⟨A7, c7, rfl, hA, hb⟩ := hr.open_ (F := 2) (L := [22, 23, 24, 25, 26, 27, 28]) (E := 0) ((make_same _ _).symm.trans (by decide +kernel)) (by decide)
  replace hb := HM.out.2.trans (hb.mono HM.out.2.size)
  clear hr HM
  have hE1 := L7.out.2.1.below hb L7.out.2.1.lt
  have l1_0 : w7.cell? ⟨w3.heap.size, 0, none⟩ = some (.int .i64 0) := hE1.cell rfl
  have l1_1 : w7.cell? ⟨w3.heap.size, 1, none⟩ = some (.slice A3 1 c3) := hE1.cell rfl
  have lt1 : w3.heap.size < w7.heap.size := hE1.lt
  clear hE1
  obtain ⟨W7, hW7⟩ : ∃ W, w7.alloc (.cells #[.int .i64 2, .slice A7 7 c7] 24) = W := ⟨_, rfl⟩
  have hs7 : W7.heap.size = w7.heap.size + 1 := by rw [← hW7]; simp
  have hbn : Below w7.heap.size w7 W7 := by rw [← hW7]; exact (Below.refl _ _).alloc (Nat.le_refl _) _
  have hBn : Blk W7 w7.heap.size 24 [.int .i64 2, .slice A7 7 c7] := by rw [← hW7]; exact Blk.new rfl rfl
  have hbx := hb.trans (hbn.mono hb.size)
  have L8 := Lib.hid (And.intro (L7.out.1.trans (hbx.mono L7.out.1.size)) (And.intro (L7.out.2.1.below hbx L7.out.2.1.lt) (And.intro (L7.out.2.2.after hbx) (And.intro hBn (hA.after hbn)))))
  have HW7 := Lib.hid hW7
  clear hbn hBn hbx hW7 hA hb L7
  have k1_0 : W7.cell? ⟨w3.heap.size, 0, none⟩ = some (.int .i64 0) := L8.out.2.1.cell rfl
  have k1_1 : W7.cell? ⟨w3.heap.size, 1, none⟩ = some (.slice A3 1 c3) := L8.out.2.1.cell rfl
  have hq := most_any 0 A3 1 c3 [9] W7 L8.out.2.2.1
  rw [show mostR 0 [9] = 1 by decide +kernel] at hq
  have HQ := Lib.hid hq
  clear hq
  go_wp2_with fail
  rw [HW7.out]
  refine HQ.out.mono ?_
  rintro e v1 ⟨rfl, hb⟩
  have L9 := Lib.hid (And.intro (L8.out.1.trans (hb.mono L8.out.1.size)) (And.intro (L8.out.2.1.below hb L8.out.2.1.lt) (And.intro (L8.out.2.2.1.after hb) (And.intro (L8.out.2.2.2.1.below hb L8.out.2.2.2.1.lt) (L8.out.2.2.2.2.after hb)))))
  clear hb HQ k1_0 k1_1 l1_0 l1_1 lt1 L8
  have k1_0 : v1.cell? ⟨w3.heap.size, 0, none⟩ = some (.int .i64 0) := L9.out.2.1.cell rfl
  have k1_1 : v1.cell? ⟨w3.heap.size, 1, none⟩ = some (.slice A3 1 c3) := L9.out.2.1.cell rfl
  have hq := some_any 0 A3 1 c3 [9] v1 L9.out.2.2.1
  rw [show someR 0 [9] = 1 by decide +kernel] at hq
  have HQ := Lib.hid hq
  clear hq
  go_wp2_with fail
  refine HQ.out.mono ?_
  rintro e v2 ⟨rfl, hb⟩
  have L10 := Lib.hid (And.intro (L9.out.1.trans (hb.mono L9.out.1.size)) (And.intro (L9.out.2.1.below hb L9.out.2.1.lt) (And.intro (L9.out.2.2.1.after hb) (And.intro (L9.out.2.2.2.1.below hb L9.out.2.2.2.1.lt) (L9.out.2.2.2.2.after hb)))))
  clear hb HQ k1_0 k1_1  L9
  have k1_0 : v2.cell? ⟨w3.heap.size, 0, none⟩ = some (.int .i64 0) := L10.out.2.1.cell rfl
  have k1_1 : v2.cell? ⟨w3.heap.size, 1, none⟩ = some (.slice A3 1 c3) := L10.out.2.1.cell rfl
  have hq := leader_any 0 A3 1 c3 [9] v2 L10.out.2.2.1 4611686018427387904 (by decide)
  rw [show leaderR 0 [9] 4611686018427387904 = 9 by decide +kernel] at hq
  have HQ := Lib.hid hq
  clear hq
  go_wp2_with fail
  refine HQ.out.mono ?_
  rintro e v3 ⟨rfl, hb⟩
  have L11 := Lib.hid (And.intro (L10.out.1.trans (hb.mono L10.out.1.size)) (And.intro (L10.out.2.1.below hb L10.out.2.1.lt) (And.intro (L10.out.2.2.1.after hb) (And.intro (L10.out.2.2.2.1.below hb L10.out.2.2.2.1.lt) (L10.out.2.2.2.2.after hb)))))
  clear hb HQ k1_0 k1_1  L10
  obtain ⟨b7, o7, eA7, hb7, hc7⟩ := Is.at_ L11.out.2.2.2.2.2.2.2.1 (i := 0) (by decide)
  have hn0 := hc7 0 (by decide)
  subst eA7
  rw [Nat.add_zero] at hn0
  have hn0' : v3.cell? ⟨b7, o7, none⟩ = some (.int .i64 22) := hn0
  clear hc7 hn0
  have k3_0 : v3.cell? ⟨w7.heap.size, 0, none⟩ = some (.int .i64 2) := L11.out.2.2.2.1.cell rfl
  have k3_1 : v3.cell? ⟨w7.heap.size, 1, none⟩ = some (.slice (some ⟨b7, o7, none⟩) 7 c7) := L11.out.2.2.2.1.cell rfl
  have hq := most_any 2 (some ⟨b7, o7, none⟩) 7 c7 [22, 23, 24, 25, 26, 27, 28] v3 L11.out.2.2.2.2
  rw [show mostR 2 [22, 23, 24, 25, 26, 27, 28] = 5 by decide +kernel] at hq
  have HQ := Lib.hid hq
  clear hq
  go_wp2_with fail
  refine HQ.out.mono ?_
  rintro e v4 ⟨rfl, hb⟩
  have L12 := Lib.hid (And.intro (L11.out.1.trans (hb.mono L11.out.1.size)) (And.intro (L11.out.2.1.below hb L11.out.2.1.lt) (And.intro (L11.out.2.2.1.after hb) (And.intro (L11.out.2.2.2.1.below hb L11.out.2.2.2.1.lt) (L11.out.2.2.2.2.after hb)))))
  clear hb HQ k3_0 k3_1 hn0' hb7 L11
  obtain ⟨WB, hWB⟩ : ∃ W, (((((((v4.alloc (.cells #[.int .i64 1, .int .i64 2, .int .i64 3] 3)).alloc (.cells #[.int .i64 1, .int .i64 2, .int .i64 4, .int .i64 3] 3)).alloc (.cells #[.int .i64 1, .int .i64 2, .int .i64 2, .int .i64 3] 3)).alloc (.cells #[.int .i64 0] 3)).alloc (.cells #[.int .i64 29] 3)).alloc (.cells #[.int .i64 1, .int .i64 2, .int .i64 3, .int .i64 4, .int .i64 5, .int .i64 6, .int .i64 7, .int .i64 8, .int .i64 9, .int .i64 10] 3)).alloc (.cells #[.int .i64 0, .slice none 0 0, .int .i64 1, .slice (some ⟨v4.heap.size, 0, none⟩) 3 3, .int .i64 1, .slice (some ⟨(v4.heap.size + 1), 0, none⟩) 4 4, .int .i64 1, .slice (some ⟨(v4.heap.size + 1 + 1), 0, none⟩) 4 4, .int .i64 0, .slice (some ⟨(v4.heap.size + 1 + 1 + 1), 0, none⟩) 1 1, .int .i64 0, .slice (some ⟨(v4.heap.size + 1 + 1 + 1 + 1), 0, none⟩) 1 1, .int .i64 (-1), .slice none 0 0, .int .i64 3, .slice (some ⟨(v4.heap.size + 1 + 1 + 1 + 1 + 1), 0, none⟩) 10 10, .int .i64 4611686018427387904, .slice none 0 0] 24)) = W := ⟨_, rfl⟩
  have hbb : Below v4.heap.size v4 WB := by rw [← hWB]; exact (((((((Below.refl _ _).alloc (Nat.le_refl _) _).alloc (by simp <;> omega) _).alloc (by simp <;> omega) _).alloc (by simp <;> omega) _).alloc (by simp <;> omega) _).alloc (by simp <;> omega) _).alloc (by simp <;> omega) _
  have hBB : Blk WB (v4.heap.size + 1 + 1 + 1 + 1 + 1 + 1) 24 [.int .i64 0, .slice none 0 0, .int .i64 1, .slice (some ⟨v4.heap.size, 0, none⟩) 3 3, .int .i64 1, .slice (some ⟨(v4.heap.size + 1), 0, none⟩) 4 4, .int .i64 1, .slice (some ⟨(v4.heap.size + 1 + 1), 0, none⟩) 4 4, .int .i64 0, .slice (some ⟨(v4.heap.size + 1 + 1 + 1), 0, none⟩) 1 1, .int .i64 0, .slice (some ⟨(v4.heap.size + 1 + 1 + 1 + 1), 0, none⟩) 1 1, .int .i64 (-1), .slice none 0 0, .int .i64 3, .slice (some ⟨(v4.heap.size + 1 + 1 + 1 + 1 + 1), 0, none⟩) 10 10, .int .i64 4611686018427387904, .slice none 0 0] := by rw [← hWB]; exact Blk.new rfl (by simp)
  have hr0 : Blk WB v4.heap.size 3 (cis [1, 2, 3]) := by rw [← hWB]; exact ((((((Blk.new rfl rfl).old _).old _).old _).old _).old _).old _
  have hr1 : Blk WB (v4.heap.size + 1) 3 (cis [1, 2, 4, 3]) := by rw [← hWB]; exact (((((Blk.new rfl (by simp)).old _).old _).old _).old _).old _
  have hr2 : Blk WB (v4.heap.size + 1 + 1) 3 (cis [1, 2, 2, 3]) := by rw [← hWB]; exact ((((Blk.new rfl (by simp)).old _).old _).old _).old _
  have hr3 : Blk WB (v4.heap.size + 1 + 1 + 1) 3 (cis [0]) := by rw [← hWB]; exact (((Blk.new rfl (by simp)).old _).old _).old _
  have hr4 : Blk WB (v4.heap.size + 1 + 1 + 1 + 1) 3 (cis [29]) := by rw [← hWB]; exact ((Blk.new rfl (by simp)).old _).old _
  have hr5 : Blk WB (v4.heap.size + 1 + 1 + 1 + 1 + 1) 3 (cis [1, 2, 3, 4, 5, 6, 7, 8, 9, 10]) := by rw [← hWB]; exact (Blk.new rfl (by simp)).old _
  have L13 := Lib.hid (And.intro (L12.out.1.trans (hbb.mono L12.out.1.size)) (And.intro (L12.out.2.1.below hbb L12.out.2.1.lt) (And.intro (L12.out.2.2.1.after hbb) (And.intro (L12.out.2.2.2.1.below hbb L12.out.2.2.2.1.lt) (And.intro (L12.out.2.2.2.2.after hbb) (And.intro hBB (And.intro hr0 (And.intro hr1 (And.intro hr2 (And.intro hr3 (And.intro hr4 hr5)))))))))))
  have HWB := Lib.hid hWB
  clear hbb hBB hWB hr0 hr1 hr2 hr3 hr4 hr5 L12
  go_wp2
  rw [HWB.out]
  go_loopw [17] (fun v17 wr => ∃ j : Nat, j ≤ 9 ∧ v17 = .int .i64 j ∧ Below WB.heap.size WB wr) (fun v _ => 9 - (intOf v).toNat)
  case atStart => exact ⟨0, Nat.zero_le _, rfl, Below.refl _ _⟩
  case round =>
    obtain ⟨j, hj, rfl, hbw⟩ := hrel
    have hi0 : (0 : Int) ≤ j := by omega
    by_cases hlt : j < 9
    · have hi1 : (j : Int) < 9 := by omega
      obtain ⟨F, A, n, c, l, hF, hcF, hcS, hArg, hbad⟩ : ∃ F A n c l, Wf F ∧ WB.cell? ⟨(v4.heap.size + 1 + 1 + 1 + 1 + 1 + 1), j * 2, none⟩ = some (.int .i64 F) ∧ WB.cell? ⟨(v4.heap.size + 1 + 1 + 1 + 1 + 1 + 1), j * 2 + 1, none⟩ = some (.slice A n c) ∧ ArgI WB A n c l ∧ okC F l = false := by
        rcases (by omega : j = 0 ∨ j = 1 ∨ j = 2 ∨ j = 3 ∨ j = 4 ∨ j = 5 ∨ j = 6 ∨ j = 7 ∨ j = 8) with rfl | rfl | rfl | rfl | rfl | rfl | rfl | rfl | rfl
        · exact ⟨_, _, _, _, [], by decide, L13.out.2.2.2.2.2.1.cell rfl, L13.out.2.2.2.2.2.1.cell rfl, nil_arg WB, by decide +kernel⟩
        · exact ⟨_, _, _, _, [1, 2, 3], by decide, L13.out.2.2.2.2.2.1.cell rfl, L13.out.2.2.2.2.2.1.cell rfl, blk_arg L13.out.2.2.2.2.2.2.1 (by decide) (by decide), by decide +kernel⟩
        · exact ⟨_, _, _, _, [1, 2, 4, 3], by decide, L13.out.2.2.2.2.2.1.cell rfl, L13.out.2.2.2.2.2.1.cell rfl, blk_arg L13.out.2.2.2.2.2.2.2.1 (by decide) (by decide), by decide +kernel⟩
        · exact ⟨_, _, _, _, [1, 2, 2, 3], by decide, L13.out.2.2.2.2.2.1.cell rfl, L13.out.2.2.2.2.2.1.cell rfl, blk_arg L13.out.2.2.2.2.2.2.2.2.1 (by decide) (by decide), by decide +kernel⟩
        · exact ⟨_, _, _, _, [0], by decide, L13.out.2.2.2.2.2.1.cell rfl, L13.out.2.2.2.2.2.1.cell rfl, blk_arg L13.out.2.2.2.2.2.2.2.2.2.1 (by decide) (by decide), by decide +kernel⟩
        · exact ⟨_, _, _, _, [29], by decide, L13.out.2.2.2.2.2.1.cell rfl, L13.out.2.2.2.2.2.1.cell rfl, blk_arg L13.out.2.2.2.2.2.2.2.2.2.2.1 (by decide) (by decide), by decide +kernel⟩
        · exact ⟨_, _, _, _, [], by decide, L13.out.2.2.2.2.2.1.cell rfl, L13.out.2.2.2.2.2.1.cell rfl, nil_arg WB, by decide +kernel⟩
        · exact ⟨_, _, _, _, [1, 2, 3, 4, 5, 6, 7, 8, 9, 10], by decide, L13.out.2.2.2.2.2.1.cell rfl, L13.out.2.2.2.2.2.1.cell rfl, blk_arg L13.out.2.2.2.2.2.2.2.2.2.2.2 (by decide) (by decide), by decide +kernel⟩
        · exact ⟨_, _, _, _, [], by decide, L13.out.2.2.2.2.2.1.cell rfl, L13.out.2.2.2.2.2.1.cell rfl, nil_arg WB, by decide +kernel⟩
      have hltB := L13.out.2.2.2.2.2.1.lt
      have hwl := hArg.2.2.2.2
      have hln := hArg.1
      have hcm := hArg.2.2.1
      unfold maxLen at hcm
      have hnc := hArg.2.1
      have hr1 : replaceR F l 1 29 = (0, [], 110) := by simp [replaceR, hbad]
      have hr2 : rankR F l l 0 = (0, 110) := by simp [rankR, hbad]
      have hr3 : mostR F l = 0 := by simp [mostR, hbad]
      have hr4 : someR F l = 0 := by simp [someR, hbad]
      have hr5 : leaderR F l 0 = 0 := by simp [leaderR, hbad]
      have hr6 : hasR F l 1 = false := by simp [hasR, hbad]
      have hr7 : othersR F l 0 = [] := by simp [othersR, hbad]
      have hr8 : votesR F l [1, 2] = 0 := by simp [votesR, hbad]
      have hr9 := chk1 hbad
      have HR := Lib.hid (And.intro hr1 (And.intro hr2 (And.intro hr3 (And.intro hr4 (And.intro hr5 (And.intro hr6 (And.intro hr7 (And.intro hr8 hr9))))))))
      have HB := Lib.hid (And.intro hcF (And.intro hcS (And.intro hArg hwl)))
      clear hr1 hr2 hr3 hr4 hr5 hr6 hr7 hr8 hr9 hcF hcS hArg hwl hbad
      have L14 := Lib.hid hbw
      clear hbw
      have b0 : wr.cell? ⟨(v4.heap.size + 1 + 1 + 1 + 1 + 1 + 1), j * 2, none⟩ = some (.int .i64 F) := (L14.out.cell (p := ⟨(v4.heap.size + 1 + 1 + 1 + 1 + 1 + 1), j * 2, none⟩) hltB).trans HB.out.1
      have b1 : wr.cell? ⟨(v4.heap.size + 1 + 1 + 1 + 1 + 1 + 1), j * 2 + 1, none⟩ = some (.slice A n c) := (L14.out.cell (p := ⟨(v4.heap.size + 1 + 1 + 1 + 1 + 1 + 1), j * 2 + 1, none⟩) hltB).trans HB.out.2.1
      have hM := replace_any F A n c l wr (HB.out.2.2.1.after L14.out) HB.out.2.2.2 1 29 (by decide)
      have HM := Lib.hid hM
      clear hM
      go_wp2_with fail
      refine HM.out.mono ?_
      rintro e w8 hr
      obtain ⟨A8, c8, rfl, hA, hb⟩ := hr.open_ HR.out.1 (by decide)
      clear hr HM b0 b1
      obtain ⟨W8, hW8⟩ : ∃ W, w8.alloc (.cells #[.int .i64 0, .slice A8 0 c8] 24) = W := ⟨_, rfl⟩
      have hs8 : W8.heap.size = w8.heap.size + 1 := by rw [← hW8]; simp
      have hbn : Below w8.heap.size w8 W8 := by rw [← hW8]; exact (Below.refl _ _).alloc (Nat.le_refl _) _
      have hBn : Blk W8 w8.heap.size 24 [.int .i64 0, .slice A8 0 c8] := by rw [← hW8]; exact Blk.new rfl rfl
      have hbx := hb.trans (hbn.mono hb.size)
      have L15 := Lib.hid (L14.out.trans (hbx.mono L14.out.size))
      have HW8 := Lib.hid hW8
      clear hbn hBn hbx hW8 hA hb L14
      go_wp2_with fail
      rw [HW8.out]
      have hBk := (show ∀ W, Below WB.heap.size WB W → W.cell? ⟨(v4.heap.size + 1 + 1 + 1 + 1 + 1 + 1), j * 2, none⟩ = some (.int .i64 F) ∧ W.cell? ⟨(v4.heap.size + 1 + 1 + 1 + 1 + 1 + 1), j * 2 + 1, none⟩ = some (.slice A n c) from fun W h => ⟨(h.cell (p := ⟨(v4.heap.size + 1 + 1 + 1 + 1 + 1 + 1), j * 2, none⟩) hltB).trans HB.out.1, (h.cell (p := ⟨(v4.heap.size + 1 + 1 + 1 + 1 + 1 + 1), j * 2 + 1, none⟩) hltB).trans HB.out.2.1⟩)
      refine region_rule4 (P := Try.prog) 15 360 kbD kbG kbS (kbR WB (v4.heap.size + 1 + 1 + 1 + 1 + 1 + 1) j F A n c l) _ _ (by kernel_rfl) rfl rfl (by kernel_rfl) (by decide +kernel) (kb_gb WB (v4.heap.size + 1 + 1 + 1 + 1 + 1 + 1) j F A n c l) (kb_sk WB (v4.heap.size + 1 + 1 + 1 + 1 + 1 + 1) j F A n c l) (kb_on WB (v4.heap.size + 1 + 1 + 1 + 1 + 1 + 1) j F A n c l) (kb_step WB (v4.heap.size + 1 + 1 + 1 + 1 + 1 + 1) j F A n c l (by rfl) (by kernel_rfl) rfl rfl hi1 hBk HB.out.2.2.1 L15.out HR.out.2.1) ?fin
      case fin =>
        intro a w9 hbase hbl hall
        obtain ⟨v20, hv20, hR20⟩ := hall 13 (by decide)
        have hR20' : v20 = .int .i64 0 := hR20
        subst hR20'
        obtain ⟨v21, hv21, hR21⟩ := hall 14 (by decide)
        have hR21' : v21 = .int .i64 110 := hR21
        subst hR21'
        obtain ⟨g, hge, hg⟩ := base_lit hbase [161, 162, 163, 164, 165, 166, 167, 168, 169, 170, 160, 171, 172, 20, 21] (by rfl)
        have q20 : g 20 = .int .i64 0 := hge 20 _ hv20
        have q21 : g 21 = .int .i64 110 := hge 21 _ hv21
        simp only [List.foldl_cons, List.foldl_nil, List.setIfInBounds_toArray, List.set_cons_zero, List.set_cons_succ, q20, q21] at hg
        rw [hg]
        have L16 := Lib.hid (L15.out.trans (hbl.mono L15.out.size))
        clear hall hbl hv20 hR20 hv21 hR21 hge q20 q21 hg hBk HW8 hs8 L15
        have b0 : w9.cell? ⟨(v4.heap.size + 1 + 1 + 1 + 1 + 1 + 1), j * 2, none⟩ = some (.int .i64 F) := (L16.out.cell (p := ⟨(v4.heap.size + 1 + 1 + 1 + 1 + 1 + 1), j * 2, none⟩) hltB).trans HB.out.1
        have b1 : w9.cell? ⟨(v4.heap.size + 1 + 1 + 1 + 1 + 1 + 1), j * 2 + 1, none⟩ = some (.slice A n c) := (L16.out.cell (p := ⟨(v4.heap.size + 1 + 1 + 1 + 1 + 1 + 1), j * 2 + 1, none⟩) hltB).trans HB.out.2.1
        have hq := check_any F A n c l w9 (HB.out.2.2.1.after L16.out)
        rw [HR.out.2.2.2.2.2.2.2.2] at hq
        have hbr := Below.refl w9.heap.size w9
        have HQ := Lib.hid (And.intro hq hbr)
        clear hq hbr
        go_wp2_with fail
        refine HQ.out.1.mono ?_
        rintro e v5 ⟨rfl, hb⟩
        replace hb := HQ.out.2.trans (hb.mono HQ.out.2.size)
        have L17 := Lib.hid (L16.out.trans (hb.mono L16.out.size))
        clear hb HQ b0 b1 L16
        have b0 : v5.cell? ⟨(v4.heap.size + 1 + 1 + 1 + 1 + 1 + 1), j * 2, none⟩ = some (.int .i64 F) := (L17.out.cell (p := ⟨(v4.heap.size + 1 + 1 + 1 + 1 + 1 + 1), j * 2, none⟩) hltB).trans HB.out.1
        have b1 : v5.cell? ⟨(v4.heap.size + 1 + 1 + 1 + 1 + 1 + 1), j * 2 + 1, none⟩ = some (.slice A n c) := (L17.out.cell (p := ⟨(v4.heap.size + 1 + 1 + 1 + 1 + 1 + 1), j * 2 + 1, none⟩) hltB).trans HB.out.2.1
        have hq := most_any F A n c l v5 (HB.out.2.2.1.after L17.out)
        rw [HR.out.2.2.1] at hq
        have hbr := Below.refl v5.heap.size v5
        have HQ := Lib.hid (And.intro hq hbr)
        clear hq hbr
        go_wp2_with fail
        refine HQ.out.1.mono ?_
        rintro e v6 ⟨rfl, hb⟩
        replace hb := HQ.out.2.trans (hb.mono HQ.out.2.size)
        have L18 := Lib.hid (L17.out.trans (hb.mono L17.out.size))
        clear hb HQ b0 b1 L17
        have b0 : v6.cell? ⟨(v4.heap.size + 1 + 1 + 1 + 1 + 1 + 1), j * 2, none⟩ = some (.int .i64 F) := (L18.out.cell (p := ⟨(v4.heap.size + 1 + 1 + 1 + 1 + 1 + 1), j * 2, none⟩) hltB).trans HB.out.1
        have b1 : v6.cell? ⟨(v4.heap.size + 1 + 1 + 1 + 1 + 1 + 1), j * 2 + 1, none⟩ = some (.slice A n c) := (L18.out.cell (p := ⟨(v4.heap.size + 1 + 1 + 1 + 1 + 1 + 1), j * 2 + 1, none⟩) hltB).trans HB.out.2.1
        have hq := some_any F A n c l v6 (HB.out.2.2.1.after L18.out)
        rw [HR.out.2.2.2.1] at hq
        have hbr := Below.refl v6.heap.size v6
        have HQ := Lib.hid (And.intro hq hbr)
        clear hq hbr
        go_wp2_with fail
        refine HQ.out.1.mono ?_
        rintro e v7 ⟨rfl, hb⟩
        replace hb := HQ.out.2.trans (hb.mono HQ.out.2.size)
        have L19 := Lib.hid (L18.out.trans (hb.mono L18.out.size))
        clear hb HQ b0 b1 L18
        have b0 : v7.cell? ⟨(v4.heap.size + 1 + 1 + 1 + 1 + 1 + 1), j * 2, none⟩ = some (.int .i64 F) := (L19.out.cell (p := ⟨(v4.heap.size + 1 + 1 + 1 + 1 + 1 + 1), j * 2, none⟩) hltB).trans HB.out.1
        have b1 : v7.cell? ⟨(v4.heap.size + 1 + 1 + 1 + 1 + 1 + 1), j * 2 + 1, none⟩ = some (.slice A n c) := (L19.out.cell (p := ⟨(v4.heap.size + 1 + 1 + 1 + 1 + 1 + 1), j * 2 + 1, none⟩) hltB).trans HB.out.2.1
        have hq := leader_any F A n c l v7 (HB.out.2.2.1.after L19.out) 0 (by decide)
        rw [HR.out.2.2.2.2.1] at hq
        have hbr := Below.refl v7.heap.size v7
        have HQ := Lib.hid (And.intro hq hbr)
        clear hq hbr
        go_wp2_with fail
        refine HQ.out.1.mono ?_
        rintro e v8 ⟨rfl, hb⟩
        replace hb := HQ.out.2.trans (hb.mono HQ.out.2.size)
        have L20 := Lib.hid (L19.out.trans (hb.mono L19.out.size))
        clear hb HQ b0 b1 L19
        have b0 : v8.cell? ⟨(v4.heap.size + 1 + 1 + 1 + 1 + 1 + 1), j * 2, none⟩ = some (.int .i64 F) := (L20.out.cell (p := ⟨(v4.heap.size + 1 + 1 + 1 + 1 + 1 + 1), j * 2, none⟩) hltB).trans HB.out.1
        have b1 : v8.cell? ⟨(v4.heap.size + 1 + 1 + 1 + 1 + 1 + 1), j * 2 + 1, none⟩ = some (.slice A n c) := (L20.out.cell (p := ⟨(v4.heap.size + 1 + 1 + 1 + 1 + 1 + 1), j * 2 + 1, none⟩) hltB).trans HB.out.2.1
        have hq := has_any F A n c l v8 (HB.out.2.2.1.after L20.out) 1
        rw [HR.out.2.2.2.2.2.1] at hq
        have hbr := Below.refl v8.heap.size v8
        have HQ := Lib.hid (And.intro hq hbr)
        clear hq hbr
        go_wp2_with fail
        refine HQ.out.1.mono ?_
        rintro e v9 ⟨rfl, hb⟩
        replace hb := HQ.out.2.trans (hb.mono HQ.out.2.size)
        have L21 := Lib.hid (L20.out.trans (hb.mono L20.out.size))
        clear hb HQ b0 b1 L20
        have b0 : v9.cell? ⟨(v4.heap.size + 1 + 1 + 1 + 1 + 1 + 1), j * 2, none⟩ = some (.int .i64 F) := (L21.out.cell (p := ⟨(v4.heap.size + 1 + 1 + 1 + 1 + 1 + 1), j * 2, none⟩) hltB).trans HB.out.1
        have b1 : v9.cell? ⟨(v4.heap.size + 1 + 1 + 1 + 1 + 1 + 1), j * 2 + 1, none⟩ = some (.slice A n c) := (L21.out.cell (p := ⟨(v4.heap.size + 1 + 1 + 1 + 1 + 1 + 1), j * 2 + 1, none⟩) hltB).trans HB.out.2.1
        have hq := others_any F A n c l v9 (HB.out.2.2.1.after L21.out) 0
        rw [HR.out.2.2.2.2.2.2.1] at hq
        have hbr := Below.refl v9.heap.size v9
        have HQ := Lib.hid (And.intro hq hbr)
        clear hq hbr
        go_wp2_with fail
        refine HQ.out.1.mono ?_
        rintro e v10 ⟨vo, rfl, hN⟩
        obtain ⟨Ao, co, rfl, _⟩ := hN.own.form
        have hb := hN.2
        clear hN
        replace hb := HQ.out.2.trans (hb.mono HQ.out.2.size)
        have L22 := Lib.hid (L21.out.trans (hb.mono L21.out.size))
        clear hb HQ b0 b1 L21
        have hbv : Below v10.heap.size v10 (v10.alloc (.cells (cis [1, 2]).toArray 3)) := (Below.refl _ _).alloc (Nat.le_refl _) _
        have hav := (HB.out.2.2.1.after L22.out).after hbv
        have b0 : v10.cell? ⟨(v4.heap.size + 1 + 1 + 1 + 1 + 1 + 1), j * 2, none⟩ = some (.int .i64 F) := (L22.out.cell (p := ⟨(v4.heap.size + 1 + 1 + 1 + 1 + 1 + 1), j * 2, none⟩) hltB).trans HB.out.1
        have b1 : v10.cell? ⟨(v4.heap.size + 1 + 1 + 1 + 1 + 1 + 1), j * 2 + 1, none⟩ = some (.slice A n c) := (L22.out.cell (p := ⟨(v4.heap.size + 1 + 1 + 1 + 1 + 1 + 1), j * 2 + 1, none⟩) hltB).trans HB.out.2.1
        have hq := votes_any F A n c l _ hav (some ⟨v10.heap.size, 0, none⟩) 2 2 [1, 2] (list_new v10 [1, 2] (by decide) (by decide))
        rw [HR.out.2.2.2.2.2.2.2.1] at hq
        have hbr : Below v10.heap.size v10 (v10.alloc (.cells (cis [1, 2]).toArray 3)) := (Below.refl _ _).alloc (Nat.le_refl _) _
        have HQ := Lib.hid (And.intro hq hbr)
        clear hq hbr
        go_wp2_with fail
        refine HQ.out.1.mono ?_
        rintro e v11 ⟨rfl, hb⟩
        replace hb := HQ.out.2.trans (hb.mono HQ.out.2.size)
        have L23 := Lib.hid (L22.out.trans (hb.mono L22.out.size))
        clear hb HQ b0 b1 L22
        clear hbv hav
        go_wp2
        exact ⟨⟨j + 1, by omega, by go_num, L23.out⟩, by simp [intOf]; omega⟩
    · have hi1 : ¬ (j : Int) < 9 := by omega
      have hb2 := (L13.out.1.trans (hbw.mono L13.out.1.size))
      have L24 := Lib.hid hb2
      clear hb2 hbw
      go_wp2_with fail
      refine (chapter_any _).mono ?_
      rintro e w20 ⟨v, rfl, ⟨Ax, cx, rfl, hA⟩, hb⟩
      obtain ⟨W20, hW20⟩ : ∃ W, w20.alloc (.cells #[.int .i64 1, .slice Ax 4 cx] 24) = W := ⟨_, rfl⟩
      have hs20 : W20.heap.size = w20.heap.size + 1 := by rw [← hW20]; simp
      have hbn : Below w20.heap.size w20 W20 := by rw [← hW20]; exact (Below.refl _ _).alloc (Nat.le_refl _) _
      have hBn : Blk W20 w20.heap.size 24 [.int .i64 1, .slice Ax 4 cx] := by rw [← hW20]; exact Blk.new rfl rfl
      have hbx := hb.trans (hbn.mono hb.size)
      have L25 := Lib.hid (And.intro (L24.out.trans (hbx.mono L24.out.size)) (And.intro hBn (hA.after hbn)))
      have HW20 := Lib.hid hW20
      clear hbn hBn hbx hW20 hA hb L24
      have k1_0 : W20.cell? ⟨w20.heap.size, 0, none⟩ = some (.int .i64 1) := L25.out.2.1.cell rfl
      have k1_1 : W20.cell? ⟨w20.heap.size, 1, none⟩ = some (.slice Ax 4 cx) := L25.out.2.1.cell rfl
      have hM := replace_any 1 Ax 4 cx [2, 3, 5, 7] W20 L25.out.2.2 (by decide) 4 6 (by decide)
      have HM := Lib.hid hM
      clear hM
      go_wp2_with fail
      rw [HW20.out]
      refine HM.out.mono ?_
      rintro e w21 hr
      obtain ⟨A21, c21, rfl, hA, hb⟩ := hr.open_ (F := 0) (L := []) (E := 110) (by decide +kernel) (by decide)
      clear hr HM k1_0 k1_1
      have hE1 := L25.out.2.1.below hb L25.out.2.1.lt
      have l1_0 : w21.cell? ⟨w20.heap.size, 0, none⟩ = some (.int .i64 1) := hE1.cell rfl
      have l1_1 : w21.cell? ⟨w20.heap.size, 1, none⟩ = some (.slice Ax 4 cx) := hE1.cell rfl
      have lt1 : w20.heap.size < w21.heap.size := hE1.lt
      clear hE1
      obtain ⟨W21, hW21⟩ : ∃ W, w21.alloc (.cells #[.int .i64 0, .slice A21 0 c21] 24) = W := ⟨_, rfl⟩
      have hs21 : W21.heap.size = w21.heap.size + 1 := by rw [← hW21]; simp
      have hbn : Below w21.heap.size w21 W21 := by rw [← hW21]; exact (Below.refl _ _).alloc (Nat.le_refl _) _
      have hBn : Blk W21 w21.heap.size 24 [.int .i64 0, .slice A21 0 c21] := by rw [← hW21]; exact Blk.new rfl rfl
      have hbx := hb.trans (hbn.mono hb.size)
      have L26 := Lib.hid (And.intro (L25.out.1.trans (hbx.mono L25.out.1.size)) (And.intro (L25.out.2.1.below hbx L25.out.2.1.lt) (L25.out.2.2.after hbx)))
      have HW21 := Lib.hid hW21
      clear hbn hBn hbx hW21 hA hb L25
      have k1_0 : W21.cell? ⟨w20.heap.size, 0, none⟩ = some (.int .i64 1) := L26.out.2.1.cell rfl
      have k1_1 : W21.cell? ⟨w20.heap.size, 1, none⟩ = some (.slice Ax 4 cx) := L26.out.2.1.cell rfl
      have hM := replace_any 1 Ax 4 cx [2, 3, 5, 7] W21 L26.out.2.2 (by decide) 3 5 (by decide)
      have HM := Lib.hid hM
      clear hM
      go_wp2_with fail
      rw [HW21.out]
      refine HM.out.mono ?_
      rintro e w22 hr
      obtain ⟨A22, c22, rfl, hA, hb⟩ := hr.open_ (F := 0) (L := []) (E := 110) (by decide +kernel) (by decide)
      clear hr HM k1_0 k1_1 l1_0 l1_1 lt1
      have hE1 := L26.out.2.1.below hb L26.out.2.1.lt
      have l1_0 : w22.cell? ⟨w20.heap.size, 0, none⟩ = some (.int .i64 1) := hE1.cell rfl
      have l1_1 : w22.cell? ⟨w20.heap.size, 1, none⟩ = some (.slice Ax 4 cx) := hE1.cell rfl
      have lt1 : w20.heap.size < w22.heap.size := hE1.lt
      clear hE1
      obtain ⟨W22, hW22⟩ : ∃ W, w22.alloc (.cells #[.int .i64 0, .slice A22 0 c22] 24) = W := ⟨_, rfl⟩
      have hs22 : W22.heap.size = w22.heap.size + 1 := by rw [← hW22]; simp
      have hbn : Below w22.heap.size w22 W22 := by rw [← hW22]; exact (Below.refl _ _).alloc (Nat.le_refl _) _
      have hBn : Blk W22 w22.heap.size 24 [.int .i64 0, .slice A22 0 c22] := by rw [← hW22]; exact Blk.new rfl rfl
      have hbx := hb.trans (hbn.mono hb.size)
      have L27 := Lib.hid (And.intro (L26.out.1.trans (hbx.mono L26.out.1.size)) (And.intro (L26.out.2.1.below hbx L26.out.2.1.lt) (L26.out.2.2.after hbx)))
      have HW22 := Lib.hid hW22
      clear hbn hBn hbx hW22 hA hb L26
      have k1_0 : W22.cell? ⟨w20.heap.size, 0, none⟩ = some (.int .i64 1) := L27.out.2.1.cell rfl
      have k1_1 : W22.cell? ⟨w20.heap.size, 1, none⟩ = some (.slice Ax 4 cx) := L27.out.2.1.cell rfl
      have hM := replace_any 1 Ax 4 cx [2, 3, 5, 7] W22 L27.out.2.2 (by decide) 9 0 (by decide)
      have HM := Lib.hid hM
      clear hM
      go_wp2_with fail
      rw [HW22.out]
      refine HM.out.mono ?_
      rintro e w23 hr
      obtain ⟨A23, c23, rfl, hA, hb⟩ := hr.open_ (F := 0) (L := []) (E := 2) (by decide +kernel) (by decide)
      clear hr HM k1_0 k1_1 l1_0 l1_1 lt1
      have hE1 := L27.out.2.1.below hb L27.out.2.1.lt
      have l1_0 : w23.cell? ⟨w20.heap.size, 0, none⟩ = some (.int .i64 1) := hE1.cell rfl
      have l1_1 : w23.cell? ⟨w20.heap.size, 1, none⟩ = some (.slice Ax 4 cx) := hE1.cell rfl
      have lt1 : w20.heap.size < w23.heap.size := hE1.lt
      clear hE1
      obtain ⟨W23, hW23⟩ : ∃ W, w23.alloc (.cells #[.int .i64 0, .slice A23 0 c23] 24) = W := ⟨_, rfl⟩
      have hs23 : W23.heap.size = w23.heap.size + 1 := by rw [← hW23]; simp
      have hbn : Below w23.heap.size w23 W23 := by rw [← hW23]; exact (Below.refl _ _).alloc (Nat.le_refl _) _
      have hBn : Blk W23 w23.heap.size 24 [.int .i64 0, .slice A23 0 c23] := by rw [← hW23]; exact Blk.new rfl rfl
      have hbx := hb.trans (hbn.mono hb.size)
      have L28 := Lib.hid (And.intro (L27.out.1.trans (hbx.mono L27.out.1.size)) (And.intro (L27.out.2.1.below hbx L27.out.2.1.lt) (L27.out.2.2.after hbx)))
      have HW23 := Lib.hid hW23
      clear hbn hBn hbx hW23 hA hb L27
      have k1_0 : W23.cell? ⟨w20.heap.size, 0, none⟩ = some (.int .i64 1) := L28.out.2.1.cell rfl
      have k1_1 : W23.cell? ⟨w20.heap.size, 1, none⟩ = some (.slice Ax 4 cx) := L28.out.2.1.cell rfl
      have hM := replace_any 1 Ax 4 cx [2, 3, 5, 7] W23 L28.out.2.2 (by decide) 3 29 (by decide)
      have HM := Lib.hid hM
      clear hM
      go_wp2_with fail
      rw [HW23.out]
      refine HM.out.mono ?_
      rintro e w24 hr
      obtain ⟨A24, c24, rfl, hA, hb⟩ := hr.open_ (F := 0) (L := []) (E := 2) (by decide +kernel) (by decide)
      clear hr HM k1_0 k1_1 l1_0 l1_1 lt1
      have hE1 := L28.out.2.1.below hb L28.out.2.1.lt
      have l1_0 : w24.cell? ⟨w20.heap.size, 0, none⟩ = some (.int .i64 1) := hE1.cell rfl
      have l1_1 : w24.cell? ⟨w20.heap.size, 1, none⟩ = some (.slice Ax 4 cx) := hE1.cell rfl
      have lt1 : w20.heap.size < w24.heap.size := hE1.lt
      clear hE1
      obtain ⟨W24, hW24⟩ : ∃ W, w24.alloc (.cells #[.int .i64 0, .slice A24 0 c24] 24) = W := ⟨_, rfl⟩
      have hs24 : W24.heap.size = w24.heap.size + 1 := by rw [← hW24]; simp
      have hbn : Below w24.heap.size w24 W24 := by rw [← hW24]; exact (Below.refl _ _).alloc (Nat.le_refl _) _
      have hBn : Blk W24 w24.heap.size 24 [.int .i64 0, .slice A24 0 c24] := by rw [← hW24]; exact Blk.new rfl rfl
      have hbx := hb.trans (hbn.mono hb.size)
      have L29 := Lib.hid (And.intro (L28.out.1.trans (hbx.mono L28.out.1.size)) (And.intro (L28.out.2.1.below hbx L28.out.2.1.lt) (L28.out.2.2.after hbx)))
      have HW24 := Lib.hid hW24
      clear hbn hBn hbx hW24 hA hb L28
      have k1_0 : W24.cell? ⟨w20.heap.size, 0, none⟩ = some (.int .i64 1) := L29.out.2.1.cell rfl
      have k1_1 : W24.cell? ⟨w20.heap.size, 1, none⟩ = some (.slice Ax 4 cx) := L29.out.2.1.cell rfl
      have hM := replace_any 1 Ax 4 cx [2, 3, 5, 7] W24 L29.out.2.2 (by decide) 3 3 (by decide)
      have HM := Lib.hid hM
      clear hM
      go_wp2_with fail
      rw [HW24.out]
      refine HM.out.mono ?_
      rintro e w25 hr
      obtain ⟨A25, c25, rfl, hA, hb⟩ := hr.open_ (F := 0) (L := []) (E := 110) (by decide +kernel) (by decide)
      clear hr HM k1_0 k1_1 l1_0 l1_1 lt1
      have hE1 := L29.out.2.1.below hb L29.out.2.1.lt
      have l1_0 : w25.cell? ⟨w20.heap.size, 0, none⟩ = some (.int .i64 1) := hE1.cell rfl
      have l1_1 : w25.cell? ⟨w20.heap.size, 1, none⟩ = some (.slice Ax 4 cx) := hE1.cell rfl
      have lt1 : w20.heap.size < w25.heap.size := hE1.lt
      clear hE1
      obtain ⟨W25, hW25⟩ : ∃ W, w25.alloc (.cells #[.int .i64 0, .slice A25 0 c25] 24) = W := ⟨_, rfl⟩
      have hs25 : W25.heap.size = w25.heap.size + 1 := by rw [← hW25]; simp
      have hbn : Below w25.heap.size w25 W25 := by rw [← hW25]; exact (Below.refl _ _).alloc (Nat.le_refl _) _
      have hBn : Blk W25 w25.heap.size 24 [.int .i64 0, .slice A25 0 c25] := by rw [← hW25]; exact Blk.new rfl rfl
      have hbx := hb.trans (hbn.mono hb.size)
      have L30 := Lib.hid (And.intro (L29.out.1.trans (hbx.mono L29.out.1.size)) (And.intro (L29.out.2.1.below hbx L29.out.2.1.lt) (L29.out.2.2.after hbx)))
      have HW25 := Lib.hid hW25
      clear hbn hBn hbx hW25 hA hb L29
      have k1_0 : W25.cell? ⟨w20.heap.size, 0, none⟩ = some (.int .i64 1) := L30.out.2.1.cell rfl
      have k1_1 : W25.cell? ⟨w20.heap.size, 1, none⟩ = some (.slice Ax 4 cx) := L30.out.2.1.cell rfl
      have hbv : Below W25.heap.size W25 (W25.alloc (.cells (cis [1, 2, 3]).toArray 3)) := (Below.refl _ _).alloc (Nat.le_refl _) _
      have hav := L30.out.2.2.after hbv
      have hq := rank_any 1 Ax 4 cx [2, 3, 5, 7] _ hav (some ⟨W25.heap.size, 0, none⟩) 3 3 [1, 2, 3] (list_new W25 [1, 2, 3] (by decide) (by decide)) 1 (by decide)
      rw [show rankR 1 [2, 3, 5, 7] [1, 2, 3] 1 = (0, 2) from by decide +kernel] at hq
      rw [hs25] at hq
      have HQ := Lib.hid (And.intro hq hbv)
      clear hq hbv hav
      go_wp2_with fail
      rw [HW25.out]
      refine HQ.out.1.mono ?_
      rintro e v13 ⟨rfl, hb⟩
      replace hb := HQ.out.2.trans (hb.mono HQ.out.2.size)
      have L31 := Lib.hid (And.intro (L30.out.1.trans (hb.mono L30.out.1.size)) (And.intro (L30.out.2.1.below hb L30.out.2.1.lt) (L30.out.2.2.after hb)))
      clear hb HQ k1_0 k1_1 L30 l1_0 l1_1 lt1
      have k1_0 : v13.cell? ⟨w20.heap.size, 0, none⟩ = some (.int .i64 1) := L31.out.2.1.cell rfl
      have k1_1 : v13.cell? ⟨w20.heap.size, 1, none⟩ = some (.slice Ax 4 cx) := L31.out.2.1.cell rfl
      have hbv : Below v13.heap.size v13 (v13.alloc (.cells (cis [1, 2, 3, 4]).toArray 3)) := (Below.refl _ _).alloc (Nat.le_refl _) _
      have hav := L31.out.2.2.after hbv
      have hq := rank_any 1 Ax 4 cx [2, 3, 5, 7] _ hav (some ⟨v13.heap.size, 0, none⟩) 4 4 [1, 2, 3, 4] (list_new v13 [1, 2, 3, 4] (by decide) (by decide)) 0 (by decide)
      rw [show rankR 1 [2, 3, 5, 7] [1, 2, 3, 4] 0 = (0, 2) from by decide +kernel] at hq
      have HQ := Lib.hid (And.intro hq hbv)
      clear hq hbv hav
      go_wp2_with fail
      refine HQ.out.1.mono ?_
      rintro e v14 ⟨rfl, hb⟩
      replace hb := HQ.out.2.trans (hb.mono HQ.out.2.size)
      have L32 := Lib.hid (And.intro (L31.out.1.trans (hb.mono L31.out.1.size)) (And.intro (L31.out.2.1.below hb L31.out.2.1.lt) (L31.out.2.2.after hb)))
      clear hb HQ k1_0 k1_1 L31
      have k1_0 : v14.cell? ⟨w20.heap.size, 0, none⟩ = some (.int .i64 1) := L32.out.2.1.cell rfl
      have k1_1 : v14.cell? ⟨w20.heap.size, 1, none⟩ = some (.slice Ax 4 cx) := L32.out.2.1.cell rfl
      have hbv : Below v14.heap.size v14 (v14.alloc (.cells (cis [1, 2, 3, 4]).toArray 3)) := (Below.refl _ _).alloc (Nat.le_refl _) _
      have hav := L32.out.2.2.after hbv
      have hq := rank_any 1 Ax 4 cx [2, 3, 5, 7] _ hav (some ⟨v14.heap.size, 0, none⟩) 4 4 [1, 2, 3, 4] (list_new v14 [1, 2, 3, 4] (by decide) (by decide)) 5 (by decide)
      rw [show rankR 1 [2, 3, 5, 7] [1, 2, 3, 4] 5 = (0, 2) from by decide +kernel] at hq
      have HQ := Lib.hid (And.intro hq hbv)
      clear hq hbv hav
      go_wp2_with fail
      refine HQ.out.1.mono ?_
      rintro e v15 ⟨rfl, hb⟩
      replace hb := HQ.out.2.trans (hb.mono HQ.out.2.size)
      have L33 := Lib.hid (And.intro (L32.out.1.trans (hb.mono L32.out.1.size)) (And.intro (L32.out.2.1.below hb L32.out.2.1.lt) (L32.out.2.2.after hb)))
      clear hb HQ k1_0 k1_1 L32
      have k1_0 : v15.cell? ⟨w20.heap.size, 0, none⟩ = some (.int .i64 1) := L33.out.2.1.cell rfl
      have k1_1 : v15.cell? ⟨w20.heap.size, 1, none⟩ = some (.slice Ax 4 cx) := L33.out.2.1.cell rfl
      have hbv : Below v15.heap.size v15 (v15.alloc (.cells (cis [(-5), (-5), (-7), (-6)]).toArray 3)) := (Below.refl _ _).alloc (Nat.le_refl _) _
      have hav := L33.out.2.2.after hbv
      have hq := rank_any 1 Ax 4 cx [2, 3, 5, 7] _ hav (some ⟨v15.heap.size, 0, none⟩) 4 4 [(-5), (-5), (-7), (-6)] (list_new v15 [(-5), (-5), (-7), (-6)] (by decide) (by decide)) 4 (by decide)
      rw [show rankR 1 [2, 3, 5, 7] [(-5), (-5), (-7), (-6)] 4 = (-7, 0) from rank_ex (m := 4) (by decide +kernel) rfl (by decide) (by decide) (by decide) (by decide)] at hq
      have HQ := Lib.hid (And.intro hq hbv)
      clear hq hbv hav
      go_wp2_with fail
      refine HQ.out.1.mono ?_
      rintro e v16 ⟨rfl, hb⟩
      replace hb := HQ.out.2.trans (hb.mono HQ.out.2.size)
      have L34 := Lib.hid (And.intro (L33.out.1.trans (hb.mono L33.out.1.size)) (And.intro (L33.out.2.1.below hb L33.out.2.1.lt) (L33.out.2.2.after hb)))
      clear hb HQ k1_0 k1_1 L33
      have hq := works_any v16
      have HQ := Lib.hid hq
      clear hq
      go_wp2_with fail
      refine HQ.out.mono ?_
      rintro e v17 ⟨rfl, hb⟩
      have L35 := Lib.hid (And.intro (L34.out.1.trans (hb.mono L34.out.1.size)) (And.intro (L34.out.2.1.below hb L34.out.2.1.lt) (L34.out.2.2.after hb)))
      clear hb HQ  L34
      have k1_0 : v17.cell? ⟨w20.heap.size, 0, none⟩ = some (.int .i64 1) := L35.out.2.1.cell rfl
      have k1_1 : v17.cell? ⟨w20.heap.size, 1, none⟩ = some (.slice Ax 4 cx) := L35.out.2.1.cell rfl
      have hq := leader_any 1 Ax 4 cx [2, 3, 5, 7] v17 L35.out.2.2 (-1) (by decide)
      rw [show leaderR 1 [2, 3, 5, 7] (-1) = 0 by decide +kernel] at hq
      have HQ := Lib.hid hq
      clear hq
      go_wp2_with fail
      refine HQ.out.mono ?_
      rintro e v18 ⟨rfl, hb⟩
      have L36 := Lib.hid (And.intro (L35.out.1.trans (hb.mono L35.out.1.size)) (And.intro (L35.out.2.1.below hb L35.out.2.1.lt) (L35.out.2.2.after hb)))
      clear hb HQ k1_0 k1_1 L35
      have k1_0 : v18.cell? ⟨w20.heap.size, 0, none⟩ = some (.int .i64 1) := L36.out.2.1.cell rfl
      have k1_1 : v18.cell? ⟨w20.heap.size, 1, none⟩ = some (.slice Ax 4 cx) := L36.out.2.1.cell rfl
      have hq := leader_any 1 Ax 4 cx [2, 3, 5, 7] v18 L36.out.2.2 0 (by decide)
      rw [show leaderR 1 [2, 3, 5, 7] 0 = 2 by decide +kernel] at hq
      have HQ := Lib.hid hq
      clear hq
      go_wp2_with fail
      refine HQ.out.mono ?_
      rintro e v19 ⟨rfl, hb⟩
      have L37 := Lib.hid (And.intro (L36.out.1.trans (hb.mono L36.out.1.size)) (And.intro (L36.out.2.1.below hb L36.out.2.1.lt) (L36.out.2.2.after hb)))
      clear hb HQ k1_0 k1_1 L36
      have k1_0 : v19.cell? ⟨w20.heap.size, 0, none⟩ = some (.int .i64 1) := L37.out.2.1.cell rfl
      have k1_1 : v19.cell? ⟨w20.heap.size, 1, none⟩ = some (.slice Ax 4 cx) := L37.out.2.1.cell rfl
      have hq := others_any 1 Ax 4 cx [2, 3, 5, 7] v19 L37.out.2.2 4
      rw [show othersR 1 [2, 3, 5, 7] 4 = [2, 3, 5, 7] by decide +kernel] at hq
      have HQ := Lib.hid hq
      clear hq
      go_wp2_with fail
      refine HQ.out.mono ?_
      rintro e v20 ⟨vo, rfl, hN⟩
      obtain ⟨Ao, co, rfl, _⟩ := hN.own.form
      have hb := hN.2
      clear hN
      have L38 := Lib.hid (And.intro (L37.out.1.trans (hb.mono L37.out.1.size)) (And.intro (L37.out.2.1.below hb L37.out.2.1.lt) (L37.out.2.2.after hb)))
      clear hb HQ k1_0 k1_1 L37
      have k1_0 : v20.cell? ⟨w20.heap.size, 0, none⟩ = some (.int .i64 1) := L38.out.2.1.cell rfl
      have k1_1 : v20.cell? ⟨w20.heap.size, 1, none⟩ = some (.slice Ax 4 cx) := L38.out.2.1.cell rfl
      have hq := votes_any 1 Ax 4 cx [2, 3, 5, 7] v20 L38.out.2.2 none 0 0 [] (nil_arg _)
      rw [show votesR 1 [2, 3, 5, 7] [] = 0 by decide +kernel] at hq
      have HQ := Lib.hid hq
      clear hq
      go_wp2_with fail
      refine HQ.out.mono ?_
      rintro e v21 ⟨rfl, hb⟩
      have L39 := Lib.hid (And.intro (L38.out.1.trans (hb.mono L38.out.1.size)) (And.intro (L38.out.2.1.below hb L38.out.2.1.lt) (L38.out.2.2.after hb)))
      clear hb HQ k1_0 k1_1 L38
      have k1_0 : v21.cell? ⟨w20.heap.size, 0, none⟩ = some (.int .i64 1) := L39.out.2.1.cell rfl
      have k1_1 : v21.cell? ⟨w20.heap.size, 1, none⟩ = some (.slice Ax 4 cx) := L39.out.2.1.cell rfl
      have hq := has_any 1 Ax 4 cx [2, 3, 5, 7] v21 L39.out.2.2 4
      rw [show hasR 1 [2, 3, 5, 7] 4 = false by decide +kernel] at hq
      have HQ := Lib.hid hq
      clear hq
      go_wp2_with fail
      refine HQ.out.mono ?_
      rintro e v22 ⟨rfl, hb⟩
      have L40 := Lib.hid (And.intro (L39.out.1.trans (hb.mono L39.out.1.size)) (And.intro (L39.out.2.1.below hb L39.out.2.1.lt) (L39.out.2.2.after hb)))
      clear hb HQ k1_0 k1_1 L39
      go_wp2
      go_ret
      exact ⟨rfl, L40.out.1⟩

end Go.Proofs.Ytjibbbfpbflgmaa.crewKnown
