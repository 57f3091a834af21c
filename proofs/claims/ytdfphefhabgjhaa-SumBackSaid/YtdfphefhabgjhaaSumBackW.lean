/-
  For all states x, z and bytes d: two states that take the same byte in are the same behind it just if they were; SumBack returns true; no condition.
-/
import Derived.Test.YtdfphefhabgjhaaOpen
import Derived.Test.YtdfphefhabgjhaaAid6
namespace Go.Proofs.Ytdfphefhabgjhaa.sumBack
open Go.ChangeShapes Go.WideShapes Go.ChangeAt Go.RowKit
set_option linter.unusedVariables false

set_option maxRecDepth 100000 in
set_option maxHeartbeats 1600000 in
theorem walk (x : Int) (z : Int) (d : Int) (w : World) (hx : (Lit.int .u64 x).wf = true) (hz : (Lit.int .u64 z).wf = true) (hd : (Lit.int .u8 d).wf = true) :
    Calls Try.prog 10 #[.int .u64 x, .int .u64 z, .int .u8 d] w fun e w' => e = .returned (.bool true) ∧ Below w.heap.size w w' := by
  obtain ⟨x, rfl⟩ : ∃ q : UInt64, x = (q.toNat : Int) := ⟨_, wf_u64 hx⟩
  obtain ⟨z, rfl⟩ : ∃ q : UInt64, z = (q.toNat : Int) := ⟨_, wf_u64 hz⟩
  obtain ⟨d, rfl⟩ : ∃ q : UInt8, d = (q.toNat : Int) := ⟨_, wf_u8 hd⟩
  have h1 := fun w => step_any x d w
  have h2 := fun w => step_any z d w
  have hb : (((stepC x d).toNat : Int) == ((stepC z d).toNat : Int)) = ((x.toNat : Int) == (z.toNat : Int)) := by
    rw [q_eq, q_eq, Bool.eq_iff_iff]; simp [stepC_back]
  generalize stepC x d = r at *
  generalize stepC z d = r2 at *
  generalize (x.toNat : Int) = xi at *
  generalize (z.toNat : Int) = zi at *
  generalize (r.toNat : Int) = ri at *
  generalize (r2.toNat : Int) = r2i at *
  have H1 := Lib.hid h1
  have H2 := Lib.hid h2
  have Hb := Lib.hid hb
  clear h1 h2 hx hz hd hb
  go_enter Try.func10, Try.ntmps10
  go_wp2_with fail
  refine (works6_any _).mono ?_
  rintro e w3 ⟨rfl, b3⟩
  go_wp2_with fail
  refine (H1.out _).mono ?_
  rintro e w1 ⟨rfl, rfl⟩
  go_wp2_with fail
  refine (H2.out _).mono ?_
  rintro e w2 ⟨rfl, rfl⟩
  go_wp2_with fail
  go_ret
  refine ⟨?_, b3⟩
  show Ending.returned (.bool ((ri == r2i) == (xi == zi))) = _
  rw [Hb.out, beq_self_eq_true]

end Go.Proofs.Ytdfphefhabgjhaa.sumBack
