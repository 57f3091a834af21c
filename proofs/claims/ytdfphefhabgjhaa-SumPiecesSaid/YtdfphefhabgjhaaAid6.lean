/-
  Arguments of sum's laws, over this seat's translation.
-/
import Derived.Test.YtdfphefhabgjhaaWorks6
import Derived.Test.YtdfphefhabgjhaaOpen
import Derived.Test.YtdfphefhabgjhaaBring
namespace Go.Proofs.Ytdfphefhabgjhaa
open Go.ChangeShapes Go.WideShapes Go.ChangeAt Go.RowKit
set_option linter.unusedVariables false

theorem wf_u64 {x : Int} (h : (Lit.int .u64 x).wf = true) : x = (((UInt64.ofNat x.toNat).toNat : Nat) : Int) := by
  have hb := bounds_u64 h
  rw [UInt64.toNat_ofNat', Nat.mod_eq_of_lt (by omega)]
  omega
/-- What 'x[:min(len(x), K)]' leaves of a slice of bytes that came in. -/
theorem cutUp {w : World} {A : Option Addr} {n c : Nat} {l : List UInt8} (N : Nat) (K : Int) (hK : K = (N : Int)) (h : ArgB w A n c l) : ∃ m x, x.length = m ∧ m ≤ N ∧ m ≤ c ∧ c ≤ maxLen ∧ Bs w A x ∧
    (∀ ts t w, (Builtin.min_ ts t #[.int .i64 (n : Int), .int .i64 K]).run Try.prog w = .ok (.int .i64 (m : Int)) w) ∧
    (∀ w, (Instr.sliceAt 26 (.slice A n c) none (some (.int .i64 (m : Int))) none).run Try.prog w = .ok (.slice A m c) w) := by
  obtain ⟨h1, h2, h3, h4⟩ := h
  subst hK
  refine ⟨min n N, l.take (min n N), by rw [List.length_take]; omega, by omega, by omega, by unfold maxLen; omega, h4.front (by omega), fun ts t w => ?_, fun w => ?_⟩
  · rw [run_min_int2]
    congr 2
    split <;> omega
  · have h1 : ((min n N : Nat) : Int) ≤ c := by omega
    generalize min n N = m at *
    go_simp
theorem run_frontB (A : Option Addr) (n c k : Nat) (h : k ≤ c) (w : World) : (Instr.sliceAt 26 (.slice A n c) none (some (.int .i64 (k : Int))) none).run Try.prog w = .ok (.slice A k c) w := by
  have h1 : (k : Int) ≤ c := by omega
  go_simp
theorem bel_step {a w w' : World} {o : Obj} (h : Below a.heap.size a w) (hB : a.heap.size ≤ w.heap.size) (h2 : Below (w.alloc o).heap.size (w.alloc o) w') : Below a.heap.size a w' :=
  (h.alloc hB o).trans (h2.mono (h.alloc hB o).size)
theorem q_eq {x y : UInt64} : ((x.toNat : Int) == (y.toNat : Int)) = (x == y) := by
  have : ((x.toNat : Int) = (y.toNat : Int)) ↔ x = y := ⟨fun h => UInt64.toNat_inj.1 (by omega), fun h => by rw [h]⟩
  rw [Bool.eq_iff_iff]; simp [this]
theorem b_xor (x y : UInt8) : bits .xor .u8 (x.toNat : Int) (y.toNat : Int) = ((x ^^^ y).toNat : Int) := by
  rw [u8_xor_nat x.toNat y.toNat x.toNat_lt y.toNat_lt, UInt8.toNat_xor]
end Go.Proofs.Ytdfphefhabgjhaa
