/-
  The statements' is over the code. (Written by tools/gen_is13.py.)
-/
import Derived.Test.YtlecihbclkohjaaHe13
namespace Go.Proofs.Ytlecihbclkohjaa
open Go.RowKit Go.Maps
set_option linter.unusedVariables false
set_option linter.unusedSimpArgs false

section
variable {w w' : World} {K : Nat → Prop}
set_option maxRecDepth 100000 in
set_option maxHeartbeats 1600000 in
theorem is_any (y : EnH) (hy : ByP w K y) (E f t : Int) (hf : Wf f) (ht : Wf t) (x : UInt8) (B : Bool) (hB : (decide (E = 0) && decide (y.x = ⟨f, t, [x]⟩)) = B) :
    Calls Try.prog 38 #[.agg #[.int .i64 y.x.fr, .int .i64 y.x.to, .slice y.a y.n y.c], .int .i64 E, .int .i64 f, .int .i64 t, .int .u8 (x.toNat : Int)] w fun e w' => e = .returned (.bool B) ∧ Below w.heap.size w w' := by
  obtain ⟨⟨f0, t0, bs⟩, a, n, c⟩ := y
  dsimp only at *
  obtain ⟨w1, hw1⟩ : ∃ w1, (w.alloc (.cells #[.int .i64 f0, .int .i64 t0, .slice a n c] 29)).drew = w1 := ⟨_, rfl⟩
  have b1 : Below w.heap.size w w1 := by rw [← hw1]; exact ((Below.refl _ _).alloc (Nat.le_refl _) _).drew
  have B1 : Blk w1 w.heap.size 29 [.int .i64 f0, .int .i64 t0, .slice a n c] := by rw [← hw1]; exact Blk.new rfl rfl
  have b1d := b1
  have B1d := B1
  have s1 : w1.cell? ⟨w.heap.size, 0, none⟩ = some (.int .i64 f0) ∧ w1.cell? ⟨w.heap.size, 1, none⟩ = some (.int .i64 t0) ∧ w1.cell? ⟨w.heap.size, 2, none⟩ = some (.slice a n c) := ⟨B1d.cell rfl, B1d.cell rfl, B1d.cell rfl⟩
  have hy1 : ByP w1 (fun i => i < w.heap.size) ⟨⟨f0, t0, bs⟩, a, n, c⟩ := (show ByP w (fun i => i < w.heap.size) ⟨⟨f0, t0, bs⟩, a, n, c⟩ from ⟨hy.1, hy.2.1, hy.2.2.1, hy.2.2.2.1, hy.2.2.2.2.1, fun hn => let ⟨b', off, e, _, h2, h3⟩ := hy.2.2.2.2.2 hn; ⟨b', off, e, h2, h2, h3⟩⟩).below b1d (fun i hi => hi) (Nat.le_refl _)
  have HS := Lib.hid (And.intro hy1 (And.intro b1d B1d))
  have z1 : w.heap.size < w1.heap.size := B1.lt
  have Hw1 := Lib.hid hw1
  clear hy hy1 b1 b1d B1 B1d hw1
  by_cases hE : E = 0
  · subst hE
    simp only [decide_true, Bool.true_and] at hB
    go_enter Try.func38, Try.ntmps38
    go_wp2
    refine wp_region_held_drew (S := fun W => W.cell? ⟨w.heap.size, 0, none⟩ = some (.int .i64 f0) ∧ W.cell? ⟨w.heap.size, 1, none⟩ = some (.int .i64 t0) ∧ W.cell? ⟨w.heap.size, 2, none⟩ = some (.slice a n c)) (by kernel_rfl) (by rw [Hw1.out]; exact s1) (fun _ => ?_)
    rw [Hw1.out]
    refine anyH_take (i := 0) (d := 11) (v := ?a0) rfl rfl (by kernel_rfl) (by kernel_rfl) (by kernel_rfl) (fun _ _ _ h => h) (Or.inl ⟨by rfl, ?ay0⟩) s1 ?ar0
    case ay0 => (intro w; go_simp; try with_reducible rfl)
    simp only [List.setIfInBounds_toArray, List.set_cons_zero, List.set_cons_succ]
    refine anyH_take (i := 1) (d := 12) (v := ?a1) rfl rfl (by kernel_rfl) (by kernel_rfl) (by kernel_rfl) (fun _ _ _ h => h) (Or.inl ⟨by rfl, ?ay1⟩) s1 ?ar1
    case ay1 => (intro w; go_simp; try with_reducible rfl)
    simp only [List.setIfInBounds_toArray, List.set_cons_zero, List.set_cons_succ]
    refine anyH_take (i := 2) (d := 13) (v := ?a2) rfl rfl (by kernel_rfl) (by kernel_rfl) (by kernel_rfl) (fun _ _ _ h => h) (Or.inl ⟨by rfl, ?ay2⟩) s1 ?ar2
    case ay2 => (intro w; go_simp; try with_reducible rfl)
    simp only [List.setIfInBounds_toArray, List.set_cons_zero, List.set_cons_succ]
    refine wpAnyH_take' (i := 3) (d := 14) (v := ?a3) rfl rfl (by kernel_rfl) (by kernel_rfl) (by kernel_rfl) (fun _ _ _ h => h) (Or.inl ⟨by rfl, ?ay3⟩) s1 ?ar3
    case ay3 => (intro w hSw; go_split_ands; go_simp; try with_reducible rfl)
    simp only [List.setIfInBounds_toArray, List.set_cons_zero, List.set_cons_succ]
    refine anyH_take (i := 4) (d := 15) (v := ?a4) rfl rfl (by kernel_rfl) (by kernel_rfl) (by kernel_rfl) (fun _ _ _ h => h) (Or.inl ⟨by rfl, ?ay4⟩) s1 ?ar4
    case ay4 => (intro w; go_simp; try with_reducible rfl)
    simp only [List.setIfInBounds_toArray, List.set_cons_zero, List.set_cons_succ]
    refine anyH_take (i := 5) (d := 16) (v := ?a5) rfl rfl (by kernel_rfl) (by kernel_rfl) (by kernel_rfl) (fun _ _ _ h => h) (Or.inl ⟨by rfl, ?ay5⟩) s1 ?ar5
    case ay5 => (intro w; go_simp; try with_reducible rfl)
    simp only [List.setIfInBounds_toArray, List.set_cons_zero, List.set_cons_succ]
    refine anyH_take (i := 6) (d := 17) (v := ?a6) rfl rfl (by kernel_rfl) (by kernel_rfl) (by kernel_rfl) (fun _ _ _ h => h) (Or.inl ⟨by rfl, ?ay6⟩) s1 ?ar6
    case ay6 => (intro w; go_simp; try with_reducible rfl)
    simp only [List.setIfInBounds_toArray, List.set_cons_zero, List.set_cons_succ]
    refine anyH_one (i := 7) (by kernel_rfl) ?_
    refine wpOp_step rfl (fun K hK => ?_)
    go_simp
    refine (note_any f t hf ht x w1).mono ?_
    rintro e w2 ⟨⟨zx, za, zn, zc⟩, hz, rfl, hby, hb2⟩
    obtain rfl : zx = _ := hz
    have B2 := HS.out.2.2.below hb2 HS.out.2.2.lt
    have s2 : w2.cell? ⟨w.heap.size, 0, none⟩ = some (.int .i64 f0) ∧ w2.cell? ⟨w.heap.size, 1, none⟩ = some (.int .i64 t0) ∧ w2.cell? ⟨w.heap.size, 2, none⟩ = some (.slice a n c) := ⟨B2.cell rfl, B2.cell rfl, B2.cell rfl⟩
    have hy2 := HS.out.1.below hb2 (fun i hi => by show i < w1.heap.size; omega) (Nat.le_refl _)
    have b2 := HS.out.2.1.trans (hb2.mono (by show w.heap.size ≤ w1.heap.size; omega))
    have hsm := same_any _ _ hy2 hby B hB
    dsimp only at hsm
    have z2 := b2.size
    have H2 := Lib.hid (And.intro b2 (And.intro B2 hsm))
    clear b2 B2 hy2 hby hb2 hsm
    refine hK _ _ ⟨s2, ?_⟩
    clear hK K
    refine anyH_one (i := 8) (by kernel_rfl) ?_
    refine wpOp_step rfl (fun K hK => ?_)
    go_simp
    refine H2.out.2.2.mono ?_
    rintro e w3 ⟨rfl, hb3⟩
    have B3 := H2.out.2.1.below hb3 H2.out.2.1.lt
    have s3 : w3.cell? ⟨w.heap.size, 0, none⟩ = some (.int .i64 f0) ∧ w3.cell? ⟨w.heap.size, 1, none⟩ = some (.int .i64 t0) ∧ w3.cell? ⟨w.heap.size, 2, none⟩ = some (.slice a n c) := ⟨B3.cell rfl, B3.cell rfl, B3.cell rfl⟩
    have H3 := Lib.hid (H2.out.1.trans (hb3.mono z2))
    clear hb3 B3
    refine hK _ _ ⟨s3, ?_⟩
    clear hK K
    refine anyH_take (i := 9) (d := 20) (v := ?c9) rfl rfl (by kernel_rfl) (by kernel_rfl) (by kernel_rfl) (fun _ _ _ h => h) (Or.inl ⟨by rfl, ?cy9⟩) s3 ?cr9
    case cy9 => (intro w; go_simp; try with_reducible rfl)
    simp only [List.setIfInBounds_toArray, List.set_cons_zero, List.set_cons_succ]
    refine anyH_take (i := 10) (d := 10) (v := ?c10) rfl rfl (by kernel_rfl) (by kernel_rfl) (by kernel_rfl) (fun _ _ _ h => h) (Or.inl ⟨by rfl, ?cy10⟩) s3 ?cr10
    case cy10 => (intro w; go_simp; try with_reducible rfl)
    simp only [List.setIfInBounds_toArray, List.set_cons_zero, List.set_cons_succ]
    refine wpAnyH_done (by kernel_rfl) ?_ _
    go_wp2
    go_ret
    exact ⟨rfl, H3.out⟩
  · have hb : B = false := by rw [← hB]; simp [hE]
    subst hb
    have he0 : (E == 0) = false := by simp [hE]
    clear hB
    go_enter Try.func38, Try.ntmps38
    go_wp2
    refine wp_region_held_drew (S := fun W => True) (by kernel_rfl) trivial (fun _ => ?_)
    rw [Hw1.out]
    refine anyH_take (i := 0) (d := 11) (v := ?e0) rfl rfl (by kernel_rfl) (by kernel_rfl) (by kernel_rfl) (fun _ _ _ h => h) (Or.inl ⟨by rfl, ?ey0⟩) trivial ?er0
    case ey0 => (intro w; go_simp; try with_reducible rfl)
    simp only [List.setIfInBounds_toArray, List.set_cons_zero, List.set_cons_succ]
    refine anyH_take (i := 1) (d := 12) (v := ?e1) rfl rfl (by kernel_rfl) (by kernel_rfl) (by kernel_rfl) (fun _ _ _ h => h) (Or.inl ⟨by rfl, ?ey1⟩) trivial ?er1
    case ey1 => (intro w; go_simp; try with_reducible rfl)
    simp only [List.setIfInBounds_toArray, List.set_cons_zero, List.set_cons_succ]
    refine anyH_take (i := 2) (d := 13) (v := ?e2) rfl rfl (by kernel_rfl) (by kernel_rfl) (by kernel_rfl) (fun _ _ _ h => h) (Or.inl ⟨by rfl, ?ey2⟩) trivial ?er2
    case ey2 => (intro w; go_simp; try with_reducible rfl)
    simp only [List.setIfInBounds_toArray, List.set_cons_zero, List.set_cons_succ]
    refine anyH_take (i := 3) (d := 14) (v := undef) rfl rfl (by kernel_rfl) (by kernel_rfl) (by kernel_rfl) (fun _ _ _ h => h) (Or.inr ⟨by rfl, rfl⟩) trivial ?_
    simp only [List.setIfInBounds_toArray, List.set_cons_zero, List.set_cons_succ]
    refine anyH_take (i := 4) (d := 15) (v := undef) rfl rfl (by kernel_rfl) (by kernel_rfl) (by kernel_rfl) (fun _ _ _ h => h) (Or.inr ⟨by rfl, rfl⟩) trivial ?_
    simp only [List.setIfInBounds_toArray, List.set_cons_zero, List.set_cons_succ]
    refine anyH_take (i := 5) (d := 16) (v := undef) rfl rfl (by kernel_rfl) (by kernel_rfl) (by kernel_rfl) (fun _ _ _ h => h) (Or.inr ⟨by rfl, rfl⟩) trivial ?_
    simp only [List.setIfInBounds_toArray, List.set_cons_zero, List.set_cons_succ]
    refine anyH_take (i := 6) (d := 17) (v := undef) rfl rfl (by kernel_rfl) (by kernel_rfl) (by kernel_rfl) (fun _ _ _ h => h) (Or.inr ⟨by rfl, rfl⟩) trivial ?_
    simp only [List.setIfInBounds_toArray, List.set_cons_zero, List.set_cons_succ]
    refine anyH_take (i := 7) (d := 18) (v := undef) rfl rfl (by kernel_rfl) (by kernel_rfl) (by kernel_rfl) (fun _ _ _ h => h) (Or.inr ⟨by rfl, rfl⟩) trivial ?_
    simp only [List.setIfInBounds_toArray, List.set_cons_zero, List.set_cons_succ]
    refine anyH_take (i := 8) (d := 19) (v := undef) rfl rfl (by kernel_rfl) (by kernel_rfl) (by kernel_rfl) (fun _ _ _ h => h) (Or.inr ⟨by rfl, rfl⟩) trivial ?_
    simp only [List.setIfInBounds_toArray, List.set_cons_zero, List.set_cons_succ]
    refine anyH_take (i := 9) (d := 20) (v := ?e9) rfl rfl (by kernel_rfl) (by kernel_rfl) (by kernel_rfl) (fun _ _ _ h => h) (Or.inl ⟨by rfl, ?ey9⟩) trivial ?er9
    case ey9 => (intro w; go_simp; try with_reducible rfl)
    simp only [List.setIfInBounds_toArray, List.set_cons_zero, List.set_cons_succ]
    refine anyH_take (i := 10) (d := 10) (v := ?e10) rfl rfl (by kernel_rfl) (by kernel_rfl) (by kernel_rfl) (fun _ _ _ h => h) (Or.inl ⟨by rfl, ?ey10⟩) trivial ?er10
    case ey10 => (intro w; go_simp; try with_reducible rfl)
    simp only [List.setIfInBounds_toArray, List.set_cons_zero, List.set_cons_succ]
    refine wpAnyH_done (by kernel_rfl) ?_ _
    go_wp2
    go_ret
    exact ⟨rfl, HS.out.2.1⟩
end
end Go.Proofs.Ytlecihbclkohjaa
