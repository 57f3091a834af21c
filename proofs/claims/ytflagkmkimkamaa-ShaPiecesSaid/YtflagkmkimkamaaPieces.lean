/-
  Pieces of a list, cut to 1000 bytes each.
-/
import Derived.Test.YtflagkmkimkamaaOpen
import Derived.Test.YtflagkmkimkamaaLists
namespace Go.Proofs.Ytflagkmkimkamaa
open Go.RowKit
set_option linter.unusedVariables false

theorem cutL {w : World} {A : Option Addr} {n c : Nat} {l : List UInt8} (h1 : l.length = n) (h2 : n ≤ c) (h3 : c ≤ maxLen) (h4 : Bs w A l) : ∃ m, m = min n 1000 ∧ (l.take 1000).length = m ∧ m ≤ 1000 ∧ m ≤ c ∧ Bs w A (l.take 1000) ∧
    (∀ ts t w, (Builtin.min_ ts t #[.int .i64 (n : Int), .int .i64 1000]).run Try.prog w = .ok (.int .i64 (m : Int)) w) ∧
    (∀ w, (Instr.sliceAt 25 (.slice A n c) none (some (.int .i64 (m : Int))) none).run Try.prog w = .ok (.slice A m c) w) := by
  refine ⟨min n 1000, rfl, by rw [List.length_take]; omega, by omega, by omega, ?_, fun ts t w => ?_, fun w => ?_⟩
  · by_cases hh : l.length ≤ 1000
    · rw [List.take_of_length_le hh]; exact h4
    · exact h4.front (by omega)
  · rw [run_min_int2]
    congr 2
    split <;> omega
  · have h1 : ((min n 1000 : Nat) : Int) ≤ c := by omega
    generalize min n 1000 = m at *
    go_simp
/-- What of the first j pieces is taken in. -/
def allB (q : List (List UInt8)) (j : Nat) : List UInt8 := (q.take j).flatMap (·.take 1000)
theorem allB_succ (q : List (List UInt8)) (j : Nat) (h : j < q.length) : allB q (j + 1) = allB q j ++ (q[j]).take 1000 := by
  unfold allB
  rw [List.take_succ_eq_append_getElem h, List.flatMap_append, List.flatMap_cons, List.flatMap_nil, List.append_nil]
end Go.Proofs.Ytflagkmkimkamaa
