/-
  For all states s and bytes d: Step answers as the document's own answer does, and SumStep returns true; no condition.
-/
import Derived.Test.YtdfphefhabgjhaaOpen
import Derived.Test.YtdfphefhabgjhaaAid6
namespace Go.Proofs.Ytdfphefhabgjhaa.sumStep
open Go.ChangeShapes Go.WideShapes Go.ChangeAt Go.RowKit
set_option linter.unusedVariables false

set_option maxRecDepth 100000 in
set_option maxHeartbeats 1600000 in
theorem walk (s : Int) (d : Int) (w : World) (hs : (Lit.int .u64 s).wf = true) (hd : (Lit.int .u8 d).wf = true) :
    Calls Try.prog 3 #[.int .u64 s, .int .u8 d] w fun e w' => e = .returned (.bool true) ∧ Below w.heap.size w w' := by
  obtain ⟨s, rfl⟩ : ∃ q : UInt64, s = (q.toNat : Int) := ⟨_, wf_u64 hs⟩
  obtain ⟨d, rfl⟩ : ∃ q : UInt8, d = (q.toNat : Int) := ⟨_, wf_u8 hd⟩
  have h1 := fun w => step_any s d w
  have h2 := fun w => rstep_any s d w
  generalize stepC s d = r at *
  have H1 := Lib.hid h1
  have H2 := Lib.hid h2
  clear h1 h2 hs hd
  go_enter Try.func3, Try.ntmps3
  go_wp2_with fail
  refine (H1.out _).mono ?_
  rintro e w1 ⟨rfl, rfl⟩
  go_wp2_with fail
  refine (H2.out _).mono ?_
  rintro e w2 ⟨rfl, rfl⟩
  go_wp2_with fail
  refine (works6_any _).mono ?_
  rintro e w3 ⟨rfl, b3⟩
  go_wp2_with fail
  go_ret
  exact ⟨rfl, b3⟩

end Go.Proofs.Ytdfphefhabgjhaa.sumStep
