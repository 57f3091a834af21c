/-
  For all states x, z and pairs of bytes c: states and bytes are taken in as their xor is; SumLinear returns true; no condition.
-/
import Derived.Test.YtdfphefhabgjhaaTwo6
import Derived.Test.YtdfphefhabgjhaaAnyOrderH
import Derived.Deep.RegionHeld3
import Derived.Deep.RegionWith
import Derived.Deep.DeepCutAuto
import Derived.BigQuiet
namespace Go.Proofs.Ytdfphefhabgjhaa.sumLinear
open Go.ChangeShapes Go.WideShapes Go.ChangeAt Go.RowKit
set_option linter.unusedVariables false

set_option maxRecDepth 100000 in
set_option maxHeartbeats 3200000 in
theorem walk (x : Int) (z : Int) (c0 c1 : UInt8) (w : World) (hx : (Lit.int .u64 x).wf = true) (hz : (Lit.int .u64 z).wf = true) :
    Calls Try.prog 12 #[.int .u64 x, .int .u64 z, .agg #[.int .u8 (c0.toNat : Int), .int .u8 (c1.toNat : Int)]] w fun e w' => e = .returned (.bool true) ∧ Below w.heap.size w w' := by
  obtain ⟨x, rfl⟩ : ∃ q : UInt64, x = (q.toNat : Int) := ⟨_, wf_u64 hx⟩
  obtain ⟨z, rfl⟩ : ∃ q : UInt64, z = (q.toNat : Int) := ⟨_, wf_u64 hz⟩
  have h1 := fun w => step_any x c0 w
  have h2 := fun w => step_any z c1 w
  have h3 := fun w => step_any (x ^^^ z) (c0 ^^^ c1) w
  have hb : bits .xor .u64 ((stepC x c0).toNat : Int) ((stepC z c1).toNat : Int) = ((stepC (x ^^^ z) (c0 ^^^ c1)).toNat : Int) := by
    rw [q_xor, stepC_xor]
  have hx1 := q_xor x z
  have hx2 := b_xor c0 c1
  generalize stepC (x ^^^ z) (c0 ^^^ c1) = r3 at *
  generalize stepC x c0 = r at *
  generalize stepC z c1 = r2 at *
  generalize ((x ^^^ z).toNat : Int) = xz at *
  generalize ((c0 ^^^ c1).toNat : Int) = cz at *
  generalize (x.toNat : Int) = xi at *
  generalize (z.toNat : Int) = zi at *
  generalize (r.toNat : Int) = ri at *
  generalize (r2.toNat : Int) = r2i at *
  generalize (r3.toNat : Int) = r3i at *
  generalize (c0.toNat : Int) = c0i at *
  generalize (c1.toNat : Int) = c1i at *
  have hB0 : Blk (w.alloc (.cells #[.int .u8 c0i, .int .u8 c1i] 37)).drew w.heap.size 37 [.int .u8 c0i, .int .u8 c1i] := Blk.new rfl rfl
  have hb0 : Below w.heap.size w (w.alloc (.cells #[.int .u8 c0i, .int .u8 c1i] 37)).drew := ((Below.refl _ _).alloc (Nat.le_refl _) _).drew
  have HB := Lib.hid (And.intro hB0 hb0)
  have H1 := Lib.hid h1
  have H2 := Lib.hid h2
  have H3 := Lib.hid h3
  clear h1 h2 h3 hx hz hB0 hb0
  go_enter Try.func12, Try.ntmps12
  go_wp2_with fail
  have Q0 : ((w.alloc (.cells #[.int .u8 c0i, .int .u8 c1i] 37)).drew).cell? ⟨w.heap.size, 0, none⟩ = some (.int .u8 c0i) ∧ ((w.alloc (.cells #[.int .u8 c0i, .int .u8 c1i] 37)).drew).cell? ⟨w.heap.size, 1, none⟩ = some (.int .u8 c1i) := ⟨HB.out.1.cell (i := 0) rfl, HB.out.1.cell (i := 1) rfl⟩
  refine wp_region_held (S := fun W' => W'.cell? ⟨w.heap.size, 0, none⟩ = some (.int .u8 c0i) ∧ W'.cell? ⟨w.heap.size, 1, none⟩ = some (.int .u8 c1i)) (by kernel_rfl) ?_
  change wpAnyH _ _ _ _ _ _ _ _ (World.drew _)
  refine anyH_one (i := 0) (by kernel_rfl) ?_
  refine wpOp_step rfl (fun K hK => ?_)
  go_simp
  refine (works6_any _).mono ?_
  rintro e w3 ⟨rfl, b3⟩
  have hB3 := HB.out.1.below b3 HB.out.1.lt
  have Q1 : w3.cell? ⟨w.heap.size, 0, none⟩ = some (.int .u8 c0i) ∧ w3.cell? ⟨w.heap.size, 1, none⟩ = some (.int .u8 c1i) := ⟨hB3.cell (i := 0) rfl, hB3.cell (i := 1) rfl⟩
  refine hK _ _ ⟨Q1, ?_⟩
  clear hK K
  refine anyH_take (i := 1) (d := 8) (v := ?v1) rfl rfl (by kernel_rfl) (by kernel_rfl) (by kernel_rfl) (fun _ _ _ h => h) (Or.inl ⟨by rfl, ?y1⟩) Q1 ?r1
  case y1 => (intro w; go_simp; try with_reducible rfl)
  simp only [List.setIfInBounds_toArray, List.set_cons_zero, List.set_cons_succ]
  refine anyH_take (i := 2) (d := 9) (v := ?v2) rfl rfl (by kernel_rfl) (by kernel_rfl) (by kernel_rfl) (fun _ _ _ h => h) (Or.inl ⟨by rfl, ?y2⟩) Q1 ?r2
  case y2 => (intro w; go_simp; try with_reducible rfl)
  simp only [List.setIfInBounds_toArray, List.set_cons_zero, List.set_cons_succ]
  refine anyH_take (i := 3) (d := 10) (v := ?v3) rfl rfl (by kernel_rfl) (by kernel_rfl) (by kernel_rfl) (fun _ _ _ h => h) (Or.inl ⟨by rfl, ?y3⟩) Q1 ?r3
  case y3 => (intro w; go_simp; try with_reducible rfl)
  simp only [List.setIfInBounds_toArray, List.set_cons_zero, List.set_cons_succ]
  refine wpAnyH_take' (i := 4) (d := 11) (v := ?v4) rfl rfl (by kernel_rfl) (by kernel_rfl) (by kernel_rfl) (fun _ _ _ h => h) (Or.inl ⟨by rfl, ?y4⟩) Q1 ?r4
  case y4 => (intro w hSw; go_split_ands; go_simp; try with_reducible rfl)
  simp only [List.setIfInBounds_toArray, List.set_cons_zero, List.set_cons_succ]
  refine anyH_take (i := 6) (d := 13) (v := ?v6) rfl rfl (by kernel_rfl) (by kernel_rfl) (by kernel_rfl) (fun _ _ _ h => h) (Or.inl ⟨by rfl, ?y6⟩) Q1 ?r6
  case y6 => (intro w; go_simp; try with_reducible rfl)
  simp only [List.setIfInBounds_toArray, List.set_cons_zero, List.set_cons_succ]
  refine anyH_take (i := 7) (d := 14) (v := ?v7) rfl rfl (by kernel_rfl) (by kernel_rfl) (by kernel_rfl) (fun _ _ _ h => h) (Or.inl ⟨by rfl, ?y7⟩) Q1 ?r7
  case y7 => (intro w; go_simp; try with_reducible rfl)
  simp only [List.setIfInBounds_toArray, List.set_cons_zero, List.set_cons_succ]
  refine wpAnyH_take' (i := 8) (d := 15) (v := ?v8) rfl rfl (by kernel_rfl) (by kernel_rfl) (by kernel_rfl) (fun _ _ _ h => h) (Or.inl ⟨by rfl, ?y8⟩) Q1 ?r8
  case y8 => (intro w hSw; go_split_ands; go_simp; try with_reducible rfl)
  simp only [List.setIfInBounds_toArray, List.set_cons_zero, List.set_cons_succ]
  refine anyH_take (i := 11) (d := 18) (v := ?v11) rfl rfl (by kernel_rfl) (by kernel_rfl) (by kernel_rfl) (fun _ _ _ h => h) (Or.inl ⟨by rfl, ?y11⟩) Q1 ?r11
  case y11 => (intro w; go_simp; try with_reducible rfl)
  simp only [List.setIfInBounds_toArray, List.set_cons_zero, List.set_cons_succ]
  refine anyH_take (i := 12) (d := 19) (v := ?v12) rfl rfl (by kernel_rfl) (by kernel_rfl) (by kernel_rfl) (fun _ _ _ h => h) (Or.inl ⟨by rfl, ?y12⟩) Q1 ?r12
  case y12 => (intro w; go_simp; try with_reducible rfl)
  simp only [List.setIfInBounds_toArray, List.set_cons_zero, List.set_cons_succ]
  refine anyH_take (i := 13) (d := 20) (v := ?v13) rfl rfl (by kernel_rfl) (by kernel_rfl) (by kernel_rfl) (fun _ _ _ h => h) (Or.inl ⟨by rfl, ?y13⟩) Q1 ?r13
  case y13 => (intro w; go_simp; try with_reducible rfl)
  simp only [List.setIfInBounds_toArray, List.set_cons_zero, List.set_cons_succ]
  refine anyH_take (i := 14) (d := 21) (v := ?v14) rfl rfl (by kernel_rfl) (by kernel_rfl) (by kernel_rfl) (fun _ _ _ h => h) (Or.inl ⟨by rfl, ?y14⟩) Q1 ?r14
  case y14 => (intro w; go_simp; try with_reducible rfl)
  simp only [List.setIfInBounds_toArray, List.set_cons_zero, List.set_cons_succ]
  refine wpAnyH_take' (i := 15) (d := 22) (v := ?v15) rfl rfl (by kernel_rfl) (by kernel_rfl) (by kernel_rfl) (fun _ _ _ h => h) (Or.inl ⟨by rfl, ?y15⟩) Q1 ?r15
  case y15 => (intro w hSw; go_split_ands; go_simp; try with_reducible rfl)
  simp only [List.setIfInBounds_toArray, List.set_cons_zero, List.set_cons_succ]
  refine anyH_take (i := 16) (d := 23) (v := ?v16) rfl rfl (by kernel_rfl) (by kernel_rfl) (by kernel_rfl) (fun _ _ _ h => h) (Or.inl ⟨by rfl, ?y16⟩) Q1 ?r16
  case y16 => (intro w; go_simp; try with_reducible rfl)
  simp only [List.setIfInBounds_toArray, List.set_cons_zero, List.set_cons_succ]
  refine wpAnyH_take' (i := 17) (d := 24) (v := ?v17) rfl rfl (by kernel_rfl) (by kernel_rfl) (by kernel_rfl) (fun _ _ _ h => h) (Or.inl ⟨by rfl, ?y17⟩) Q1 ?r17
  case y17 => (intro w hSw; go_split_ands; go_simp; try with_reducible rfl)
  simp only [List.setIfInBounds_toArray, List.set_cons_zero, List.set_cons_succ]
  refine anyH_take (i := 18) (d := 25) (v := ?v18) rfl rfl (by kernel_rfl) (by kernel_rfl) (by kernel_rfl) (fun _ _ _ h => h) (Or.inl ⟨by rfl, ?y18⟩) Q1 ?r18
  case y18 => (intro w; go_simp; try with_reducible rfl)
  simp only [List.setIfInBounds_toArray, List.set_cons_zero, List.set_cons_succ]
  refine anyH_one (i := 5) (by kernel_rfl) ?_
  refine wpOp_step rfl (fun K hK => ?_)
  go_simp
  refine (H1.out _).mono ?_
  rintro e w' ⟨rfl, rfl⟩
  refine hK _ _ ⟨Q1, ?_⟩
  clear hK K
  refine anyH_one (i := 9) (by kernel_rfl) ?_
  refine wpOp_step rfl (fun K hK => ?_)
  go_simp
  refine (H2.out _).mono ?_
  rintro e w' ⟨rfl, rfl⟩
  refine hK _ _ ⟨Q1, ?_⟩
  clear hK K
  refine anyH_take (i := 10) (d := 17) (v := ?v10) rfl rfl (by kernel_rfl) (by kernel_rfl) (by kernel_rfl) (fun _ _ _ h => h) (Or.inl ⟨by rfl, ?y10⟩) Q1 ?r10
  case y10 => (intro w; go_simp; try with_reducible rfl)
  simp only [List.setIfInBounds_toArray, List.set_cons_zero, List.set_cons_succ]
  refine anyH_one (i := 19) (by kernel_rfl) ?_
  refine wpOp_step rfl (fun K hK => ?_)
  go_simp
  refine (H3.out _).mono ?_
  rintro e w' ⟨rfl, rfl⟩
  refine hK _ _ ⟨Q1, ?_⟩
  clear hK K
  refine anyH_take (i := 20) (d := 27) (v := ?v20) rfl rfl (by kernel_rfl) (by kernel_rfl) (by kernel_rfl) (fun _ _ _ h => h) (Or.inl ⟨by rfl, ?y20⟩) Q1 ?r20
  case y20 => (intro w; go_simp; try with_reducible rfl)
  simp only [List.setIfInBounds_toArray, List.set_cons_zero, List.set_cons_succ]
  refine anyH_take (i := 21) (d := 28) (v := ?v21) rfl rfl (by kernel_rfl) (by kernel_rfl) (by kernel_rfl) (fun _ _ _ h => h) (Or.inl ⟨by rfl, ?y21⟩) Q1 ?r21
  case y21 => (intro w; go_simp; try with_reducible rfl)
  simp only [List.setIfInBounds_toArray, List.set_cons_zero, List.set_cons_succ]
  refine anyH_take (i := 22) (d := 6) (v := ?v22) rfl rfl (by kernel_rfl) (by kernel_rfl) (by kernel_rfl) (fun _ _ _ h => h) (Or.inl ⟨by rfl, ?y22⟩) Q1 ?r22
  case y22 => (intro w; go_simp; try with_reducible rfl)
  simp only [List.setIfInBounds_toArray, List.set_cons_zero, List.set_cons_succ]
  refine wpAnyH_done (by kernel_rfl) ?_ _
  go_wp2_with fail
  go_ret
  exact ⟨rfl, HB.out.2.trans (b3.mono HB.out.2.size)⟩

end Go.Proofs.Ytdfphefhabgjhaa.sumLinear
