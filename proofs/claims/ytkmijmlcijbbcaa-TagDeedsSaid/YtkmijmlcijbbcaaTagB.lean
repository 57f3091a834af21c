/-
  Tag, Check of a ledger, over the code.
-/
import Derived.Test.YtkmijmlcijbbcaaTagA
import Derived.Test.YtkmijmlcijbbcaaAnyOrderH
namespace Go.Proofs.Ytkmijmlcijbbcaa
open Go.RowKit Go.Maps
set_option linter.unusedVariables false

/-- A tag's cells, where the digest's are D. -/
def tv (f t : Int) (D : List Value) : List Value := .int .i64 f :: .int .i64 t :: D
theorem thirty2 : ∀ d : List UInt8, d.length = 32 → ∃ a0 a1 a2 a3 a4 a5 a6 a7 a8 a9 a10 a11 a12 a13 a14 a15 a16 a17 a18 a19 a20 a21 a22 a23 a24 a25 a26 a27 a28 a29 a30 a31, d = [a0, a1, a2, a3, a4, a5, a6, a7, a8, a9, a10, a11, a12, a13, a14, a15, a16, a17, a18, a19, a20, a21, a22, a23, a24, a25, a26, a27, a28, a29, a30, a31]
  | [a0, a1, a2, a3, a4, a5, a6, a7, a8, a9, a10, a11, a12, a13, a14, a15, a16, a17, a18, a19, a20, a21, a22, a23, a24, a25, a26, a27, a28, a29, a30, a31], _ => ⟨_, _, _, _, _, _, _, _, _, _, _, _, _, _, _, _, _, _, _, _, _, _, _, _, _, _, _, _, _, _, _, _, rfl⟩
theorem built_triple (f t : Int) (d : List UInt8) (h : d.length = 32) (D : List Value) (hD : cbs d = D) : Try.prog.built 56 [(0, .int .i64 f), (1, .int .i64 t), (2, .agg D.toArray)] = some (tv f t D).toArray := by
  subst hD
  obtain ⟨a0, a1, a2, a3, a4, a5, a6, a7, a8, a9, a10, a11, a12, a13, a14, a15, a16, a17, a18, a19, a20, a21, a22, a23, a24, a25, a26, a27, a28, a29, a30, a31, rfl⟩ := thirty2 d h
  kernel_rfl
theorem built_unit : Try.prog.built 44 [] = some #[] := by kernel_rfl
theorem info32b : (Try.prog.info? 28).map (·.size) = some 32 := by kernel_rfl
theorem info34b : (Try.prog.info? 56).map (·.size) = some 34 := by kernel_rfl

set_option maxRecDepth 100000 in
set_option maxHeartbeats 800000 in
theorem has_any (g m k : Nat) (T : List Tg) (f t : Int) (d : List UInt8) (D : List Value) (w : World) (h : LedAt w g m T k) (hf : Wf f) (ht : Wf t) (hd : d.length = 32) (hD : cbs d = D) :
    Calls Try.prog 27 #[.pointer (some ⟨g, 0, none⟩), .agg (tv f t D).toArray] w fun e w' => e = .returned (.bool (inT T f t d)) ∧ Below w.heap.size w w' := by
  have b0 : Below w.heap.size w ((w.alloc (.cells (tv f t D).toArray 56)).drew) := ((Below.refl _ _).alloc (Nat.le_refl _) _).drew
  have h0 := h.below b0
  have c0 : ((w.alloc (.cells (tv f t D).toArray 56)).drew).cell? ⟨g, 0, none⟩ = some (.map (some m)) := h0.1.cell rfl
  have hlook := h0.2.look f t d hf ht hd
  have e0 : (tcells f t d) = tv f t D := by unfold tcells tv ci; rw [hD]
  rw [e0] at hlook
  have hdB : Blk ((w.alloc (.cells (tv f t D).toArray 56)).drew) w.heap.size 56 (tv f t D) := Blk.new rfl rfl
  have hrd : ((w.alloc (.cells (tv f t D).toArray 56)).drew).rangeAt w.heap.size 0 (tv f t D) := hdB.range
  have b1 : Below w.heap.size w (((w.alloc (.cells (tv f t D).toArray 56)).alloc (.cells #[] 44)).drew) := (((Below.refl _ _).alloc (Nat.le_refl _) _).alloc (by simp) _).drew
  have h1 := h.below b1
  have c1 : (((w.alloc (.cells (tv f t D).toArray 56)).alloc (.cells #[] 44)).drew).cell? ⟨g, 0, none⟩ = some (.map (some m)) := h1.1.cell rfl
  have hlook1 := h1.2.look f t d hf ht hd
  rw [e0] at hlook1
  have hdB1 : Blk (((w.alloc (.cells (tv f t D).toArray 56)).alloc (.cells #[] 44)).drew) w.heap.size 56 (tv f t D) := (Blk.new rfl rfl).old _
  have hrd1 : (((w.alloc (.cells (tv f t D).toArray 56)).alloc (.cells #[] 44)).drew).rangeAt w.heap.size 0 (tv f t D) := hdB1.range
  have hl : (tv f t D).length = 34 := by rw [← e0]; exact tcells_len f t d hd
  have hid : (Try.prog.info? 56).map (·.size) = some (tv f t D).length := by rw [hl]; exact info34b
  have hud := Try.underlying56
  generalize tv f t D = V at *
  clear h h0 h1 hdB hdB1 e0 hl
  go_enter Try.func27, Try.ntmps27
  go_wp2
  have Q0 : ((w.alloc (.cells V.toArray 56)).drew).cell? ⟨g, 0, none⟩ = some (.map (some m)) ∧ ((w.alloc (.cells V.toArray 56)).drew).rangeAt w.heap.size 0 V ∧ (Instr.lookup 43 (.map (some m)) (.agg V.toArray) true).run Try.prog ((w.alloc (.cells V.toArray 56)).drew) = .ok (.tuple #[.agg #[], .bool (inT T f t d)]) ((w.alloc (.cells V.toArray 56)).drew) := ⟨c0, hrd, hlook⟩
  have Q1 : (((w.alloc (.cells V.toArray 56)).alloc (.cells #[] 44)).drew).cell? ⟨g, 0, none⟩ = some (.map (some m)) ∧ (((w.alloc (.cells V.toArray 56)).alloc (.cells #[] 44)).drew).rangeAt w.heap.size 0 V ∧ (Instr.lookup 43 (.map (some m)) (.agg V.toArray) true).run Try.prog (((w.alloc (.cells V.toArray 56)).alloc (.cells #[] 44)).drew) = .ok (.tuple #[.agg #[], .bool (inT T f t d)]) (((w.alloc (.cells V.toArray 56)).alloc (.cells #[] 44)).drew) := ⟨c1, hrd1, hlook1⟩
  refine wp_region_held_drew (S := fun W' => W'.cell? ⟨g, 0, none⟩ = some (.map (some m)) ∧ W'.rangeAt w.heap.size 0 V ∧ (Instr.lookup 43 (.map (some m)) (.agg V.toArray) true).run Try.prog W' = .ok (.tuple #[.agg #[], .bool (inT T f t d)]) W') (by kernel_rfl) Q0 (fun _ => ?_)
  refine anyH_take (i := 0) (d := 8) (v := ?v0) rfl rfl (by kernel_rfl) (by kernel_rfl) (by kernel_rfl) (fun _ _ _ h => h) (Or.inl ⟨by rfl, ?y0⟩) Q0 ?r0
  case y0 => (intro w; go_simp; try with_reducible rfl)
  simp only [List.setIfInBounds_toArray, List.set_cons_zero, List.set_cons_succ]
  refine anyH_take (i := 1) (d := 9) (v := ?v1) rfl rfl (by kernel_rfl) (by kernel_rfl) (by kernel_rfl) (fun _ _ _ h => h) (Or.inl ⟨by rfl, ?y1⟩) Q0 ?r1
  case y1 => (intro w; go_simp; try with_reducible rfl)
  simp only [List.setIfInBounds_toArray, List.set_cons_zero, List.set_cons_succ]
  refine anyH_take (i := 2) (d := 10) (v := ?v2) rfl rfl (by kernel_rfl) (by kernel_rfl) (by kernel_rfl) (fun _ _ _ h => h) (Or.inl ⟨by rfl, ?y2⟩) Q0 ?r2
  case y2 => (intro w; go_simp; try with_reducible rfl)
  simp only [List.setIfInBounds_toArray, List.set_cons_zero, List.set_cons_succ]
  refine wpAnyH_take' (i := 3) (d := 11) (v := ?v3) rfl rfl (by kernel_rfl) (by kernel_rfl) (by kernel_rfl) (fun _ _ _ h => h) (Or.inl ⟨by rfl, ?y3⟩) Q0 ?r3
  case y3 => (intro w hSw; go_split_ands; go_simp; try with_reducible rfl)
  simp only [List.setIfInBounds_toArray, List.set_cons_zero, List.set_cons_succ]
  refine anyH_load (i := 4) (d := 12) rfl rfl (by kernel_rfl) (by kernel_rfl) (by kernel_rfl) (by rfl) 56 _ rfl w.heap.size 0 rfl V _ (fun _ h => h.2.1) Try.underlying56 rfl hid (fun _ _ _ h => h) Q0 ?_
  simp only [List.setIfInBounds_toArray, List.set_cons_zero, List.set_cons_succ]
  refine wpAnyH_take' (i := 5) (d := 13) (v := ?v5) rfl rfl (by kernel_rfl) (by kernel_rfl) (by kernel_rfl) (fun _ _ _ h => h) (Or.inl ⟨by rfl, ?y5⟩) Q0 ?r5
  case y5 => (intro w hSw; go_split_ands; go_simp; try with_reducible rfl)
  simp only [List.setIfInBounds_toArray, List.set_cons_zero, List.set_cons_succ]
  refine anyH_take (i := 6) (d := 7) (v := ?v6) rfl rfl (by kernel_rfl) (by kernel_rfl) (by kernel_rfl) (fun _ _ _ h => h) (Or.inl ⟨by rfl, ?y6⟩) Q0 ?r6
  case y6 => (intro w; go_simp; try with_reducible rfl)
  simp only [List.setIfInBounds_toArray, List.set_cons_zero, List.set_cons_succ]
  refine anyH_take (i := 7) (d := 14) (v := ?v7) rfl rfl (by kernel_rfl) (by kernel_rfl) (by kernel_rfl) (fun _ _ _ h => h) (Or.inl ⟨by rfl, ?y7⟩) Q0 ?r7
  case y7 => (intro w; go_simp; try with_reducible rfl)
  simp only [List.setIfInBounds_toArray, List.set_cons_zero, List.set_cons_succ]
  refine anyH_take (i := 8) (d := 15) (v := ?v8) rfl rfl (by kernel_rfl) (by kernel_rfl) (by kernel_rfl) (fun _ _ _ h => h) (Or.inl ⟨by rfl, ?y8⟩) Q0 ?r8
  case y8 => (intro w; go_simp; try with_reducible rfl)
  simp only [List.setIfInBounds_toArray, List.set_cons_zero, List.set_cons_succ]
  refine anyH_one (i := 9) (by kernel_rfl) ?_
  refine wpOp_step rfl (fun K hK => ?_)
  go_simp
  refine hK _ _ ⟨Q1, ?_⟩
  clear hK K
  refine anyH_one (i := 10) (by kernel_rfl) ?_
  refine wpOp_step rfl (fun K hK => ?_)
  go_simp
  refine hK _ _ ⟨Q1, ?_⟩
  clear hK K
  refine anyH_take (i := 11) (d := 6) (v := ?v11) rfl rfl (by kernel_rfl) (by kernel_rfl) (by kernel_rfl) (fun _ _ _ h => h) (Or.inl ⟨by rfl, ?y11⟩) Q1 ?r11
  case y11 => (intro w; go_simp; try with_reducible rfl)
  simp only [List.setIfInBounds_toArray, List.set_cons_zero, List.set_cons_succ]
  refine wpAnyH_done (by kernel_rfl) ?_ _
  go_wp2
  go_ret
  exact ⟨rfl, b1⟩
end Go.Proofs.Ytkmijmlcijbbcaa
