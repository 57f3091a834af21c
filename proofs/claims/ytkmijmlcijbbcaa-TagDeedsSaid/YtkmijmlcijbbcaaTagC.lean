/-
  Tag and Check of a ledger, over the code; the statements' helper digest.
-/
import Derived.Test.YtkmijmlcijbbcaaTagB
import Derived.Test.YtkmijmlcijbbcaaBuild
namespace Go.Proofs.Ytkmijmlcijbbcaa
open Go.RowKit Go.Maps
set_option linter.unusedVariables false

theorem cbs_one' (l : List UInt8) : (cbs l).toArray.all (·.oneCell') = true := by
  rw [Array.all_eq_true_iff_forall_mem]
  intro u hu
  exact cbs_one l u (by simpa using hu)
theorem zero32 : (cbs (List.replicate 32 0)).length = 32 := by simp [cbs]
theorem built_digest (b : UInt8) : Try.prog.built 28 [(0, .int .u8 (b.toNat : Int)), (1, .int .u8 1)] = some (cbs (dg b)).toArray := by kernel_rfl

set_option maxRecDepth 100000 in
set_option maxHeartbeats 800000 in
theorem digest_any (b : UInt8) (w : World) : Calls Try.prog 6 #[.int .u8 (b.toNat : Int)] w fun e w' => e = .returned (.agg (cbs (dg b)).toArray) ∧ Below w.heap.size w w' := by
  have hbd := built_digest b
  obtain ⟨D, hD, hl, h1⟩ : ∃ D : List Value, cbs (dg b) = D ∧ D.length = 32 ∧ D.toArray.all (·.oneCell') = true := ⟨_, rfl, by rw [cbs_length, dg_len], cbs_one' _⟩
  rw [hD] at hbd ⊢
  have hsD : D.toArray.size = 32 := by rw [List.size_toArray]; exact hl
  have hZ : Blk (w.alloc (.cells (cbs (List.replicate 32 0)).toArray 28)) w.heap.size 28 (cbs (List.replicate 32 0)) := Blk.new rfl rfl
  have hth : (w.alloc (.cells (cbs (List.replicate 32 0)).toArray 28)).there w.heap.size 0 D.toArray.size := by
    have e := hZ.there
    rw [cbs_length, List.length_replicate] at e
    rw [hsD]; exact e
  have hi : (Try.prog.info? 28).map (·.size) = some D.toArray.size := by rw [hsD]; exact info32b
  have hR := hZ.setAll (vs := D) (by rw [hl, cbs_length, List.length_replicate])
  have hbw : Below w.heap.size w ((w.alloc (.cells (cbs (List.replicate 32 0)).toArray 28)).setCells w.heap.size 0 D) := Below.setCells (Nat.le_refl _) _ ((Below.refl _ _).alloc (Nat.le_refl _) _)
  have H := Lib.hid (And.intro hth (And.intro hi (And.intro h1 (And.intro hR (And.intro hbw hbd)))))
  clear hD hl h1 hsD hZ hth hi hR hbw hbd
  go_enter Try.func6, Try.ntmps6
  go_wp2_with (first
    | (refine wpList_build_g (by rfl) 28 _ rfl D.toArray H.out.2.2.2.2.2 ?_; simp only [Act.put])
    | refine wpList_store_mid rfl 28 _ _ rfl w.heap.size 0 D.toArray rfl rfl H.out.1 H.out.2.1 H.out.2.2.1 ?_)
  refine bodyPost_ret (results_cell_row rfl _ _ w.heap.size 28 D.toArray (0, 0) _ rfl H.out.2.2.2.1 Try.underlying28 rfl H.out.2.1) rfl ?_
  exact ⟨rfl, H.out.2.2.2.2.1⟩
end Go.Proofs.Ytkmijmlcijbbcaa
