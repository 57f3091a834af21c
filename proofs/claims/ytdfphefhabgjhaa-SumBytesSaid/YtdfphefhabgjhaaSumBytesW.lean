/-
  For all states x and bytes c, d: two bytes that the same state takes in make unlike states; SumBytes returns true; no condition.
-/
import Derived.Test.YtdfphefhabgjhaaOpen
import Derived.Test.YtdfphefhabgjhaaAid6
namespace Go.Proofs.Ytdfphefhabgjhaa.sumBytes
open Go.ChangeShapes Go.WideShapes Go.ChangeAt Go.RowKit
set_option linter.unusedVariables false

set_option maxRecDepth 100000 in
set_option maxHeartbeats 1600000 in
theorem walk (x : Int) (c : Int) (d : Int) (w : World) (hx : (Lit.int .u64 x).wf = true) (hc : (Lit.int .u8 c).wf = true) (hd : (Lit.int .u8 d).wf = true) :
    Calls Try.prog 11 #[.int .u64 x, .int .u8 c, .int .u8 d] w fun e w' => e = .returned (.bool true) ∧ Below w.heap.size w w' := by
  obtain ⟨x, rfl⟩ : ∃ q : UInt64, x = (q.toNat : Int) := ⟨_, wf_u64 hx⟩
  obtain ⟨c, rfl⟩ : ∃ q : UInt8, c = (q.toNat : Int) := ⟨_, wf_u8 hc⟩
  obtain ⟨d, rfl⟩ : ∃ q : UInt8, d = (q.toNat : Int) := ⟨_, wf_u8 hd⟩
  have h1 := fun w => step_any x c w
  have h2 := fun w => step_any x d w
  have hb : (((stepC x c).toNat : Int) == ((stepC x d).toNat : Int)) = ((c.toNat : Int) == (d.toNat : Int)) := by
    have : ((c.toNat : Int) == (d.toNat : Int)) = (c == d) := by
      have h : ((c.toNat : Int) = (d.toNat : Int)) ↔ c = d := ⟨fun h => UInt8.toNat_inj.1 (by omega), fun h => by rw [h]⟩
      rw [Bool.eq_iff_iff]; simp [h]
    rw [q_eq, this, Bool.eq_iff_iff]; simp [stepC_bytes]
  generalize stepC x c = r at *
  generalize stepC x d = r2 at *
  generalize (x.toNat : Int) = xi at *
  generalize (c.toNat : Int) = ci at *
  generalize (d.toNat : Int) = di at *
  generalize (r.toNat : Int) = ri at *
  generalize (r2.toNat : Int) = r2i at *
  have H1 := Lib.hid h1
  have H2 := Lib.hid h2
  have Hb := Lib.hid hb
  clear h1 h2 hx hc hd hb
  go_enter Try.func11, Try.ntmps11
  go_wp2_with fail
  refine (works6_any _).mono ?_
  rintro e w3 ⟨rfl, b3⟩
  go_wp2_with fail
  refine (H1.out _).mono ?_
  rintro e w1 ⟨rfl, rfl⟩
  go_wp2_with fail
  refine (H2.out _).mono ?_
  rintro e w2 ⟨rfl, rfl⟩
  go_wp2_with fail
  go_ret
  refine ⟨?_, b3⟩
  show Ending.returned (.bool ((ri == r2i) == (ci == di))) = _
  rw [Hb.out, beq_self_eq_true]

end Go.Proofs.Ytdfphefhabgjhaa.sumBytes
