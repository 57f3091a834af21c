/-
  For every state and every block: Round answers as the document's own answer does; ShaRound returns true; no condition.
-/
import Derived.Test.YtamfjnomkefddaaOpen
import Derived.Test.YtamfjnomkefddaaRefRound
import Derived.Test.YtamfjnomkefddaaRound2
import Derived.Test.YtamfjnomkefddaaHex
import Derived.Test.YtamfjnomkefddaaEqW
import Derived.Test.YtamfjnomkefddaaArrays
import Derived.Test.YtamfjnomkefddaaAnyOrderH
import Derived.Deep.RegionHeld3
import Derived.Deep.RegionWith
import Derived.Deep.DeepCutAuto
namespace Go.Proofs.Ytamfjnomkefddaa.shaRound
open Go.ChangeShapes Go.WideShapes Go.ChangeAt Go.RowKit
set_option linter.unusedVariables false

set_option maxRecDepth 100000 in
set_option maxHeartbeats 3200000 in
theorem walk (x : S8) (q : List UInt8) (w : World) (hq : q.length = 64) :
    Calls Try.prog 11 #[v8 x, .agg (cbs q).toArray] w fun e w' => e = .returned (.bool true) ∧ Below w.heap.size w w' := by
  have Hw := Lib.hid works_any
  have he1 := fun w => eq_words w (rnd x q).list (rnd x q).list rfl rfl
  have hs1 := fun w => bigRound_any x q w hq
  have hs2 := fun w => refRound_any x q w hq
  obtain ⟨vx, hvx⟩ : ∃ v : Array Value, v8 (rnd x q) = .agg v := ⟨_, rfl⟩
  have he3 : ∀ w, (Op.equalIn 10000 53 (.agg vx) (.agg vx)).run Try.prog w = .ok true w := by rw [← hvx]; intro w; have := he1 w; rw [beq_self_eq_true] at this; exact this
  rw [hvx] at hs1 hs2
  have Hs1 := Lib.hid hs1
  have Hs2 := Lib.hid hs2
  have p1 : Blk ((w.alloc (.cells (l8 x).toArray 53)).alloc (.cells (cbs q).toArray 54)) w.heap.size 53 (l8 x) := (Blk.new rfl rfl).old _
  have p2 : Blk ((w.alloc (.cells (l8 x).toArray 53)).alloc (.cells (cbs q).toArray 54)) (w.heap.size + 1) 54 (cbs q) := Blk.new rfl (by simp)
  have t0 : Below w.heap.size w ((w.alloc (.cells (l8 x).toArray 53)).alloc (.cells (cbs q).toArray 54)) := ((Below.refl _ _).alloc (Nat.le_refl _) _).alloc (by simp) _
  have hi8x : (Try.prog.info? 53).map (·.size) = some (l8 x).length := info8w
  have hi64 : (Try.prog.info? 54).map (·.size) = some (cbs q).length := by rw [cbs_length, hq]; exact info64b
  have Q0 : ((w.alloc (.cells (l8 x).toArray 53)).alloc (.cells (cbs q).toArray 54)).drew.rangeAt w.heap.size 0 (l8 x) ∧ ((w.alloc (.cells (l8 x).toArray 53)).alloc (.cells (cbs q).toArray 54)).drew.rangeAt (w.heap.size + 1) 0 (cbs q) := ⟨p1.range, p2.range⟩
  have hq0 := Lib.hid (And.intro Q0 t0)
  clear p1 p2 t0 he1 hs1 hs2 hvx Q0
  rw [v8_lit x]
  go_enter Try.func11, Try.ntmps11
  go_wp2_with fail
  have Q0 := hq0.out.1
  refine wp_region_held_drew (S := fun W' => W'.rangeAt w.heap.size 0 (l8 x) ∧ W'.rangeAt (w.heap.size + 1) 0 (cbs q)) (by kernel_rfl) Q0 (fun _ => ?_)
  refine anyH_load (i := 0) (d := 5) rfl rfl (by kernel_rfl) (by kernel_rfl) (by kernel_rfl) (by rfl) 53 _ rfl w.heap.size 0 rfl (l8 x) _ (fun _ h => h.1) Try.underlying53 rfl hi8x (fun _ _ _ h => h) Q0 ?_
  simp only [List.setIfInBounds_toArray, List.set_cons_zero, List.set_cons_succ]
  refine anyH_load (i := 1) (d := 6) rfl rfl (by kernel_rfl) (by kernel_rfl) (by kernel_rfl) (by rfl) 54 _ rfl (w.heap.size + 1) 0 rfl (cbs q) _ (fun _ h => h.2) Try.underlying54 rfl hi64 (fun _ _ _ h => h) Q0 ?_
  simp only [List.setIfInBounds_toArray, List.set_cons_zero, List.set_cons_succ]
  refine anyH_load (i := 3) (d := 8) rfl rfl (by kernel_rfl) (by kernel_rfl) (by kernel_rfl) (by rfl) 53 _ rfl w.heap.size 0 rfl (l8 x) _ (fun _ h => h.1) Try.underlying53 rfl hi8x (fun _ _ _ h => h) Q0 ?_
  simp only [List.setIfInBounds_toArray, List.set_cons_zero, List.set_cons_succ]
  refine anyH_load (i := 4) (d := 9) rfl rfl (by kernel_rfl) (by kernel_rfl) (by kernel_rfl) (by rfl) 54 _ rfl (w.heap.size + 1) 0 rfl (cbs q) _ (fun _ h => h.2) Try.underlying54 rfl hi64 (fun _ _ _ h => h) Q0 ?_
  simp only [List.setIfInBounds_toArray, List.set_cons_zero, List.set_cons_succ]
  refine anyH_one (i := 2) (by kernel_rfl) ?_
  refine wpOp_step rfl (fun K hK => ?_)
  go_simp
  refine (Hs1.out _).mono ?_
  rintro e w1 ⟨rfl, hb1⟩
  have Q1 : w1.rangeAt w.heap.size 0 (l8 x) ∧ w1.rangeAt (w.heap.size + 1) 0 (cbs q) := ⟨range_below hb1 Q0.1, range_below hb1 Q0.2⟩
  refine hK _ _ ⟨Q1, ?_⟩
  clear hK K
  refine anyH_one (i := 5) (by kernel_rfl) ?_
  refine wpOp_step rfl (fun K hK => ?_)
  go_simp
  refine (Hs2.out _).mono ?_
  rintro e w2 ⟨rfl, hb2⟩
  have Q2 : w2.rangeAt w.heap.size 0 (l8 x) ∧ w2.rangeAt (w.heap.size + 1) 0 (cbs q) := ⟨range_below hb2 Q1.1, range_below hb2 Q1.2⟩
  refine hK _ _ ⟨Q2, ?_⟩
  clear hK K
  refine anyH_take (i := 6) (d := 11) (v := ?v6) rfl rfl (by kernel_rfl) (by kernel_rfl) (by kernel_rfl) (fun _ _ _ h => h) (Or.inl ⟨by rfl, ?y6⟩) Q2 ?r6
  case y6 => (intro w; go_simp; try with_reducible rfl)
  simp only [List.setIfInBounds_toArray, List.set_cons_zero, List.set_cons_succ]
  refine anyH_take (i := 7) (d := 12) (v := ?v7) rfl rfl (by kernel_rfl) (by kernel_rfl) (by kernel_rfl) (fun _ _ _ h => h) (Or.inl ⟨by rfl, ?y7⟩) Q2 ?r7
  case y7 => (intro w; go_simp; try with_reducible rfl)
  simp only [List.setIfInBounds_toArray, List.set_cons_zero, List.set_cons_succ]
  refine anyH_one (i := 8) (by kernel_rfl) ?_
  refine wpOp_step rfl (fun K hK => ?_)
  go_simp
  refine (Hw.out _).mono ?_
  rintro e w3 ⟨rfl, hb3⟩
  have Q3 : w3.rangeAt w.heap.size 0 (l8 x) ∧ w3.rangeAt (w.heap.size + 1) 0 (cbs q) := ⟨range_below hb3 Q2.1, range_below hb3 Q2.2⟩
  refine hK _ _ ⟨Q3, ?_⟩
  clear hK K
  refine anyH_take (i := 9) (d := 14) (v := ?v9) rfl rfl (by kernel_rfl) (by kernel_rfl) (by kernel_rfl) (fun _ _ _ h => h) (Or.inl ⟨by rfl, ?y9⟩) Q3 ?r9
  case y9 => (intro w; go_simp; try with_reducible rfl)
  simp only [List.setIfInBounds_toArray, List.set_cons_zero, List.set_cons_succ]
  refine anyH_take (i := 10) (d := 4) (v := ?v10) rfl rfl (by kernel_rfl) (by kernel_rfl) (by kernel_rfl) (fun _ _ _ h => h) (Or.inl ⟨by rfl, ?y10⟩) Q3 ?r10
  case y10 => (intro w; go_simp; try with_reducible rfl)
  simp only [List.setIfInBounds_toArray, List.set_cons_zero, List.set_cons_succ]
  refine wpAnyH_done (by kernel_rfl) ?_ _
  go_wp2
  go_ret
  have h1 := hq0.out.2.drew.trans (hb1.mono (hq0.out.2.drew).size)
  have h2 := h1.trans (hb2.mono h1.size)
  exact ⟨rfl, h2.trans (hb3.mono h2.size)⟩

end Go.Proofs.Ytamfjnomkefddaa.shaRound
