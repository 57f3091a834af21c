/-
  For every two states and every block: what a round of the block adds to the states is the same just if the states are; ShaSteps returns true; no condition.
-/
import Derived.Test.YtamfjnomkefddaaOpen
import Derived.Test.YtamfjnomkefddaaSteps
import Derived.Test.YtamfjnomkefddaaArrays
import Derived.Test.YtamfjnomkefddaaAnyOrderH
import Derived.Deep.RegionHeld3
import Derived.Deep.RegionWith
import Derived.Deep.DeepCutAuto
namespace Go.Proofs.Ytamfjnomkefddaa.shaSteps
open Go.ChangeShapes Go.WideShapes Go.ChangeAt Go.RowKit
set_option linter.unusedVariables false

set_option maxRecDepth 100000 in
set_option maxHeartbeats 3200000 in
theorem walk (x : S8) (y : S8) (q : List UInt8) (w : World) (hq : q.length = 64) :
    Calls Try.prog 13 #[v8 x, v8 y, .agg (cbs q).toArray] w fun e w' => e = .returned (.bool true) ∧ Below w.heap.size w w' := by
  have Hw := Lib.hid works_any
  have hsame : ((steps8 q x 64).list == (steps8 q y 64).list) = (x.list == y.list) := by
    by_cases h : x = y
    · rw [h]; simp
    · have h1 : x.list ≠ y.list := fun e => h (S8_ext e)
      have h2 : (steps8 q x 64).list ≠ (steps8 q y 64).list := fun e => h (steps8_inj (S8_ext e))
      rw [beq_eq_false_iff_ne.2 h1, beq_eq_false_iff_ne.2 h2]
  have he1 := fun w => eq_words w (steps8 q x 64).list (steps8 q y 64).list rfl rfl
  have he2 : ∀ w, (Op.equalIn 10000 53 (.agg (l8 x).toArray) (.agg (l8 y).toArray)).run Try.prog w = .ok (x.list == y.list) w := fun w => eq_words w x.list y.list rfl rfl
  rw [hsame] at he1
  obtain ⟨z, hz⟩ : ∃ z, (x.list == y.list) = z := ⟨_, rfl⟩
  rw [hz] at he1 he2
  have hs1 := fun w => steps_any x q w hq
  have hs2 := fun w => steps_any y q w hq
  obtain ⟨vx, hvx⟩ : ∃ v : Array Value, v8 (steps8 q x 64) = .agg v := ⟨_, rfl⟩
  obtain ⟨vy, hvy⟩ : ∃ v : Array Value, v8 (steps8 q y 64) = .agg v := ⟨_, rfl⟩
  have he3 : ∀ w, (Op.equalIn 10000 53 (.agg vx) (.agg vy)).run Try.prog w = .ok z w := by rw [← hvx, ← hvy]; exact he1
  rw [hvx] at hs1
  rw [hvy] at hs2
  have Hs1 := Lib.hid hs1
  have Hs2 := Lib.hid hs2
  have p1 : Blk (((w.alloc (.cells (l8 x).toArray 53)).alloc (.cells (l8 y).toArray 53)).alloc (.cells (cbs q).toArray 54)) w.heap.size 53 (l8 x) := ((Blk.new rfl rfl).old _).old _
  have p2 : Blk (((w.alloc (.cells (l8 x).toArray 53)).alloc (.cells (l8 y).toArray 53)).alloc (.cells (cbs q).toArray 54)) (w.heap.size + 1) 53 (l8 y) := (Blk.new rfl (by simp)).old _
  have p3 : Blk (((w.alloc (.cells (l8 x).toArray 53)).alloc (.cells (l8 y).toArray 53)).alloc (.cells (cbs q).toArray 54)) (w.heap.size + 1 + 1) 54 (cbs q) := Blk.new rfl (by simp)
  have t0 : Below w.heap.size w (((w.alloc (.cells (l8 x).toArray 53)).alloc (.cells (l8 y).toArray 53)).alloc (.cells (cbs q).toArray 54)) := (((Below.refl _ _).alloc (Nat.le_refl _) _).alloc (by simp) _).alloc (by simp; omega) _
  have hi8x : (Try.prog.info? 53).map (·.size) = some (l8 x).length := info8w
  have hi8y : (Try.prog.info? 53).map (·.size) = some (l8 y).length := info8w
  have hi64 : (Try.prog.info? 54).map (·.size) = some (cbs q).length := by rw [cbs_length, hq]; exact info64b
  have Q0 : (((w.alloc (.cells (l8 x).toArray 53)).alloc (.cells (l8 y).toArray 53)).alloc (.cells (cbs q).toArray 54)).drew.rangeAt w.heap.size 0 (l8 x) ∧ (((w.alloc (.cells (l8 x).toArray 53)).alloc (.cells (l8 y).toArray 53)).alloc (.cells (cbs q).toArray 54)).drew.rangeAt (w.heap.size + 1) 0 (l8 y) ∧ (((w.alloc (.cells (l8 x).toArray 53)).alloc (.cells (l8 y).toArray 53)).alloc (.cells (cbs q).toArray 54)).drew.rangeAt (w.heap.size + 1 + 1) 0 (cbs q) := ⟨p1.range, p2.range, p3.range⟩
  have hq0 := Lib.hid (And.intro Q0 t0)
  clear p1 p2 p3 t0 he1 hsame hz hs1 hs2 hvx hvy Q0
  rw [v8_lit x, v8_lit y]
  go_enter Try.func13, Try.ntmps13
  go_wp2_with fail
  have Q0 := hq0.out.1
  refine wp_region_held_drew (S := fun W' => W'.rangeAt w.heap.size 0 (l8 x) ∧ W'.rangeAt (w.heap.size + 1) 0 (l8 y) ∧ W'.rangeAt (w.heap.size + 1 + 1) 0 (cbs q)) (by kernel_rfl) Q0 (fun _ => ?_)
  refine anyH_one (i := 0) (by kernel_rfl) ?_
  refine wpOp_step rfl (fun K hK => ?_)
  go_simp
  refine (Hw.out _).mono ?_
  rintro e w1 ⟨rfl, hb1⟩
  have Q1 : w1.rangeAt w.heap.size 0 (l8 x) ∧ w1.rangeAt (w.heap.size + 1) 0 (l8 y) ∧ w1.rangeAt (w.heap.size + 1 + 1) 0 (cbs q) := ⟨range_below hb1 Q0.1, range_below hb1 Q0.2.1, range_below hb1 Q0.2.2⟩
  refine hK _ _ ⟨Q1, ?_⟩
  clear hK K
  refine anyH_take (i := 1) (d := 8) (v := ?v1) rfl rfl (by kernel_rfl) (by kernel_rfl) (by kernel_rfl) (fun _ _ _ h => h) (Or.inl ⟨by rfl, ?y1⟩) Q1 ?r1
  case y1 => (intro w; go_simp; try with_reducible rfl)
  simp only [List.setIfInBounds_toArray, List.set_cons_zero, List.set_cons_succ]
  refine anyH_load (i := 2) (d := 9) rfl rfl (by kernel_rfl) (by kernel_rfl) (by kernel_rfl) (by rfl) 53 _ rfl w.heap.size 0 rfl (l8 x) _ (fun _ h => h.1) Try.underlying53 rfl hi8x (fun _ _ _ h => h) Q1 ?_
  simp only [List.setIfInBounds_toArray, List.set_cons_zero, List.set_cons_succ]
  refine anyH_load (i := 3) (d := 10) rfl rfl (by kernel_rfl) (by kernel_rfl) (by kernel_rfl) (by rfl) 54 _ rfl (w.heap.size + 1 + 1) 0 rfl (cbs q) _ (fun _ h => h.2.2) Try.underlying54 rfl hi64 (fun _ _ _ h => h) Q1 ?_
  simp only [List.setIfInBounds_toArray, List.set_cons_zero, List.set_cons_succ]
  refine anyH_load (i := 5) (d := 12) rfl rfl (by kernel_rfl) (by kernel_rfl) (by kernel_rfl) (by rfl) 53 _ rfl (w.heap.size + 1) 0 rfl (l8 y) _ (fun _ h => h.2.1) Try.underlying53 rfl hi8y (fun _ _ _ h => h) Q1 ?_
  simp only [List.setIfInBounds_toArray, List.set_cons_zero, List.set_cons_succ]
  refine anyH_load (i := 6) (d := 13) rfl rfl (by kernel_rfl) (by kernel_rfl) (by kernel_rfl) (by rfl) 54 _ rfl (w.heap.size + 1 + 1) 0 rfl (cbs q) _ (fun _ h => h.2.2) Try.underlying54 rfl hi64 (fun _ _ _ h => h) Q1 ?_
  simp only [List.setIfInBounds_toArray, List.set_cons_zero, List.set_cons_succ]
  refine anyH_load (i := 9) (d := 16) rfl rfl (by kernel_rfl) (by kernel_rfl) (by kernel_rfl) (by rfl) 53 _ rfl w.heap.size 0 rfl (l8 x) _ (fun _ h => h.1) Try.underlying53 rfl hi8x (fun _ _ _ h => h) Q1 ?_
  simp only [List.setIfInBounds_toArray, List.set_cons_zero, List.set_cons_succ]
  refine anyH_load (i := 10) (d := 17) rfl rfl (by kernel_rfl) (by kernel_rfl) (by kernel_rfl) (by rfl) 53 _ rfl (w.heap.size + 1) 0 rfl (l8 y) _ (fun _ h => h.2.1) Try.underlying53 rfl hi8y (fun _ _ _ h => h) Q1 ?_
  simp only [List.setIfInBounds_toArray, List.set_cons_zero, List.set_cons_succ]
  refine anyH_take (i := 11) (d := 18) (v := ?v11) rfl rfl (by kernel_rfl) (by kernel_rfl) (by kernel_rfl) (fun _ _ _ h => h) (Or.inl ⟨by rfl, ?y11⟩) Q1 ?r11
  case y11 => (intro w; go_simp; try with_reducible rfl)
  simp only [List.setIfInBounds_toArray, List.set_cons_zero, List.set_cons_succ]
  refine anyH_one (i := 4) (by kernel_rfl) ?_
  refine wpOp_step rfl (fun K hK => ?_)
  go_simp
  refine (Hs1.out _).mono ?_
  rintro e w2 ⟨rfl, hb2⟩
  have Q2 : w2.rangeAt w.heap.size 0 (l8 x) ∧ w2.rangeAt (w.heap.size + 1) 0 (l8 y) ∧ w2.rangeAt (w.heap.size + 1 + 1) 0 (cbs q) := ⟨range_below hb2 Q1.1, range_below hb2 Q1.2.1, range_below hb2 Q1.2.2⟩
  refine hK _ _ ⟨Q2, ?_⟩
  clear hK K
  refine anyH_one (i := 7) (by kernel_rfl) ?_
  refine wpOp_step rfl (fun K hK => ?_)
  go_simp
  refine (Hs2.out _).mono ?_
  rintro e w3 ⟨rfl, hb3⟩
  have Q3 : w3.rangeAt w.heap.size 0 (l8 x) ∧ w3.rangeAt (w.heap.size + 1) 0 (l8 y) ∧ w3.rangeAt (w.heap.size + 1 + 1) 0 (cbs q) := ⟨range_below hb3 Q2.1, range_below hb3 Q2.2.1, range_below hb3 Q2.2.2⟩
  refine hK _ _ ⟨Q3, ?_⟩
  clear hK K
  refine anyH_take (i := 8) (d := 15) (v := ?v8) rfl rfl (by kernel_rfl) (by kernel_rfl) (by kernel_rfl) (fun _ _ _ h => h) (Or.inl ⟨by rfl, ?y8⟩) Q3 ?r8
  case y8 => (intro w; go_simp; try with_reducible rfl)
  simp only [List.setIfInBounds_toArray, List.set_cons_zero, List.set_cons_succ]
  refine anyH_take (i := 12) (d := 19) (v := ?v12) rfl rfl (by kernel_rfl) (by kernel_rfl) (by kernel_rfl) (fun _ _ _ h => h) (Or.inl ⟨by rfl, ?y12⟩) Q3 ?r12
  case y12 => (intro w; go_simp; try with_reducible rfl)
  simp only [List.setIfInBounds_toArray, List.set_cons_zero, List.set_cons_succ]
  refine anyH_take (i := 13) (d := 20) (v := ?v13) rfl rfl (by kernel_rfl) (by kernel_rfl) (by kernel_rfl) (fun _ _ _ h => h) (Or.inl ⟨by rfl, ?y13⟩) Q3 ?r13
  case y13 => (intro w; go_simp; try with_reducible rfl)
  simp only [List.setIfInBounds_toArray, List.set_cons_zero, List.set_cons_succ]
  refine anyH_take (i := 14) (d := 6) (v := ?v14) rfl rfl (by kernel_rfl) (by kernel_rfl) (by kernel_rfl) (fun _ _ _ h => h) (Or.inl ⟨by rfl, ?y14⟩) Q3 ?r14
  case y14 => (intro w; go_simp; try with_reducible rfl)
  simp only [List.setIfInBounds_toArray, List.set_cons_zero, List.set_cons_succ]
  refine wpAnyH_done (by kernel_rfl) ?_ _
  go_wp2
  go_ret
  have h1 := hq0.out.2.drew.trans (hb1.mono (hq0.out.2.drew).size)
  have h2 := h1.trans (hb2.mono h1.size)
  exact ⟨rfl, h2.trans (hb3.mono h2.size)⟩

end Go.Proofs.Ytamfjnomkefddaa.shaSteps
