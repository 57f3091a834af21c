/-
  The state at first and the roots over this seat's translation.
-/
import Derived.Test.YtcidliakmlolmaaSched
import Derived.Test.YtcidliakmlolmaaDig
namespace Go.Proofs.Ytcidliakmlolmaa
open Go.RowKit
set_option linter.unusedVariables false

theorem H0_lit : (cws H0).toArray = #[.int .u32 1779033703, .int .u32 3144134277, .int .u32 1013904242, .int .u32 2773480762, .int .u32 1359893119, .int .u32 2600822924, .int .u32 528734635, .int .u32 1541459225] := by
  simp [cws, H0, cw]
theorem info8w : (Try.prog.info? 61).map (·.size) = some 8 := by kernel_rfl

set_option maxRecDepth 100000 in
set_option maxHeartbeats 800000 in
theorem first_any (w : World) : Calls Try.prog 31 #[] w fun e w' => e = .returned (.agg (cws H0).toArray) ∧ Below w.heap.size w w' := by
  go_enter Try.func31, Try.ntmps31
  go_wp2
  refine bodyPost_ret (results_cell_row rfl _ _ w.heap.size 61 _ (0, 0) _ rfl (heap_alloc_new w _) Try.underlying61 rfl info8w) rfl ⟨?_, (Below.refl _ _).alloc (Nat.le_refl _) _⟩
  rw [H0_lit]

theorem zeros_there (w : World) (t : TypeId) : (w.alloc (.cells (List.replicate 64 (Value.int .u32 0)).toArray t)).there w.heap.size 0 64 := by
  have h : Blk (w.alloc (.cells (List.replicate 64 (Value.int .u32 0)).toArray t)) w.heap.size t (List.replicate 64 (Value.int .u32 0)) := Blk.new rfl rfl
  have := h.there
  rwa [List.length_replicate] at this
theorem KK_len : KK.length = 64 := rfl
theorem KK_size : (cws KK).toArray.size = 64 := by rw [List.size_toArray, cws_length, KK_len]

set_option maxRecDepth 100000 in
set_option maxHeartbeats 800000 in
theorem roots_any (w : World) : Calls Try.prog 38 #[] w fun e w' => e = .returned (.agg (cws KK).toArray) ∧ Below w.heap.size w w' := by
  have hi : (Try.prog.info? 75).map (·.size) = some (cws KK).toArray.size := by rw [info64w, KK_size]
  have Hi := Lib.hid hi
  clear hi
  have Hth := Lib.hid (zeros_there w 75)
  have HB := Lib.hid (show Blk (w.alloc (.cells (List.replicate 64 (Value.int .u32 0)).toArray 75)) w.heap.size 75 (List.replicate 64 (Value.int .u32 0)) from Blk.new rfl rfl)
  go_enter Try.func38, Try.ntmps38
  go_wp2_with (refine wpList_store_mid rfl 75 _ _ rfl w.heap.size 0 (cws KK).toArray rfl (by kernel_rfl) (by rw [KK_size]; exact Hth.out) Hi.out (cws_one KK) ?_)
  have hR : Blk ((w.alloc (.cells (List.replicate 64 (Value.int .u32 0)).toArray 75)).setCells w.heap.size 0 (cws KK)) w.heap.size 75 (cws KK) := HB.out.setAll (by rw [cws_length, List.length_replicate]; rfl)
  refine bodyPost_ret (results_cell_row rfl _ _ w.heap.size 75 (cws KK).toArray (0, 0) _ rfl hR Try.underlying75 rfl Hi.out) rfl ⟨rfl, ?_⟩
  exact Below.setCells (Nat.le_refl _) _ ((Below.refl _ _).alloc (Nat.le_refl _) _)
end Go.Proofs.Ytcidliakmlolmaa
