/-
  Cuts of an argument of bytes, over this seat's translation.
-/
import Derived.Test.YtflagkmkimkamaaHex
import Derived.Test.YtflagkmkimkamaaOpen
namespace Go.Proofs.Ytflagkmkimkamaa
open Go.ChangeShapes Go.WideShapes Go.ChangeAt Go.RowKit
set_option linter.unusedVariables false

/-- What 'x[:min(len(x), K)]' leaves of a slice of bytes that came in. -/
theorem cutUp {w : World} {A : Option Addr} {n c : Nat} {l : List UInt8} (N : Nat) (K : Int) (hK : K = (N : Int)) (h : ArgB w A n c l) : ∃ m x, x.length = m ∧ m ≤ N ∧ m ≤ c ∧ c ≤ maxLen ∧ Bs w A x ∧
    (∀ ts t w, (Builtin.min_ ts t #[.int .i64 (n : Int), .int .i64 K]).run Try.prog w = .ok (.int .i64 (m : Int)) w) ∧
    (∀ w, (Instr.sliceAt 25 (.slice A n c) none (some (.int .i64 (m : Int))) none).run Try.prog w = .ok (.slice A m c) w) := by
  obtain ⟨h1, h2, h3, h4⟩ := h
  subst hK
  refine ⟨min n N, l.take (min n N), by rw [List.length_take]; omega, by omega, by omega, by unfold maxLen; omega, h4.front (by omega), fun ts t w => ?_, fun w => ?_⟩
  · rw [run_min_int2]
    congr 2
    split <;> omega
  · have h1 : ((min n N : Nat) : Int) ≤ c := by omega
    generalize min n N = m at *
    go_simp
theorem run_frontB (A : Option Addr) (n c k : Nat) (h : k ≤ c) (w : World) : (Instr.sliceAt 25 (.slice A n c) none (some (.int .i64 (k : Int))) none).run Try.prog w = .ok (.slice A k c) w := by
  have h1 : (k : Int) ≤ c := by omega
  go_simp
theorem run_oneB (A : Option Addr) (m c k : Nat) (hk : k < m) (hmc : m ≤ c) (hc : c ≤ maxLen) (w : World) : (Instr.sliceAt 25 (.slice A m c) (some (.int .i64 (k : Int))) (some (.int .i64 ((k : Int) + 1))) none).run Try.prog w = .ok (.slice (cutAt A 1 k c) 1 (c - k)) w := by
  have h1 : (0 : Int) ≤ (k : Int) := by omega
  have h2 : (k : Int) + 1 ≤ (c : Int) := by omega
  have h3 : ((k : Int) + 1).toNat = k + 1 := by omega
  have h4 : k + 1 - k = 1 := by omega
  have h5 : (0 : Int) ≤ (k : Int) + 1 := by omega
  have h6 : ¬ ((k : Int) + 1 < 0) := by omega
  go_simp
  simp [cutAt]
theorem Away.front_ {A : Option Addr} {g k : Nat} {l : List UInt8} (h : Away A g l) : Away A g (l.take k) := fun hl => h (fun e => hl (by rw [e]; simp))
theorem take_step (x : List UInt8) (k : Nat) : x.take k ++ (x.drop k).take 1 = x.take (k + 1) := by
  rw [List.take_add]
end Go.Proofs.Ytflagkmkimkamaa
