/-
  ror over this seat's translation.
-/
import Derived.Test.YtcidliakmlolmaaRows
import Derived.Test.YtcidliakmlolmaaWord
namespace Go.Proofs.Ytcidliakmlolmaa
open Go.RowKit
set_option linter.unusedVariables false

set_option maxHeartbeats 400000 in
theorem ror_any (x : UInt32) (n : Nat) (w : World) (h1 : 1 ≤ n) (h2 : n ≤ 31) :
    Calls Try.prog 40 #[.int .u32 (x.toNat : Int), .int .i64 (n : Int)] w fun e w' => e = .returned (cw (rotr x n)) ∧ ∃ q, w' = w.drewN q := by
  have hx := x.toNat_lt
  have a1 : (0 : Int) ≤ (n : Int) := by omega
  have a2 : (n : Int) ≤ 31 := by omega
  have a3 : (0 : Int) ≤ 32 - (n : Int) := by omega
  have a4 : 32 - (n : Int) ≤ 31 := by omega
  have a5 : IntKind.i64.wrap (32 - (n : Int)) = 32 - (n : Int) := IntWalk.i64_in _ (by omega)
  go_enter Try.func40, Try.ntmps40
  go_wp2
  go_quiet (fail)
  go_wp2
  go_ret
  refine ⟨?_, nq, rfl⟩
  have hf : cw (rotr x n) = .int .u32 (bits .or .u32 ((x.toNat : Int) / 2 ^ n) ((x.toNat : Int) * 2 ^ (32 - n) % 4294967296)) := by
    rw [w_shr x n h2, w_shl x (32 - n) (by omega), w_or]
    rfl
  rw [hf]
  rfl

theorem ror_int (x : UInt32) (n : Int) (w : World) (h1 : 1 ≤ n) (h2 : n ≤ 31) :
    Calls Try.prog 40 #[.int .u32 (x.toNat : Int), .int .i64 n] w fun e w' => e = .returned (.int .u32 ((rotr x n.toNat).toNat : Int)) ∧ ∃ q, w' = w.drewN q := by
  obtain ⟨k, rfl⟩ := Int.eq_ofNat_of_zero_le (a := n) (by omega)
  rw [Int.toNat_natCast]
  exact ror_any x k w (by omega) (by omega)
end Go.Proofs.Ytcidliakmlolmaa
