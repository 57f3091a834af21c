/-
  Bring over the code, told exactly.
-/
import Derived.Test.YtlecihbclkohjaaBring
namespace Go.Proofs.Ytlecihbclkohjaa
open Go.RowKit
set_option linter.unusedVariables false

theorem emod_tmod {i n : Int} (h : 0 < n) (h0 : -n < i.tmod n) (h1 : i.tmod n ≤ 0) : i % n = if i.tmod n < 0 then i.tmod n + n else i.tmod n := by
  have e : i % n = (i.tmod n) % n := by
    have := Int.tmod_add_mul_tdiv i n
    conv => lhs; rw [← this]
    exact Int.add_mul_emod_self_left _ _ _
  rw [e]
  split
  · rw [← Int.add_emod_right, Int.emod_eq_of_lt (by omega) (by omega)]
  · rw [Int.emod_eq_of_lt (by omega) (by omega)]
set_option maxHeartbeats 400000 in
theorem bringF_any (i n : Int) (w : World) (h : 0 < n) (hn : n ≤ 9223372036854775807) (hi0 : -9223372036854775808 ≤ i) (hi1 : i ≤ 9223372036854775807) :
    Calls Try.prog 14 #[.int .i64 i, .int .i64 n] w fun e w' => e = .returned (.int .i64 (i % n)) ∧ w' = w := by
  have hz : (n == 0) = false := by simp; omega
  by_cases h0 : 0 ≤ i
  · have hm0 := Int.emod_nonneg i (by omega : n ≠ 0)
    have hm1 := Int.emod_lt_of_pos i h
    go_enter Try.func14, Try.ntmps14
    go_wp2
    go_ret
    exact ⟨rfl, rfl⟩
  · have ht : i.tmod n = -((-i) % n) := by
      have e1 : (-i).tmod n = -(i.tmod n) := Int.neg_tmod i n
      have e2 : (-i).tmod n = (-i) % n := Int.tmod_eq_emod_of_nonneg (by omega)
      omega
    have hm0 := Int.emod_nonneg (-i) (by omega : n ≠ 0)
    have hm1 := Int.emod_lt_of_pos (-i) h
    have hl0 : i.tmod n ≤ 0 := by omega
    have hl1 : -n < i.tmod n := by omega
    have hem := Lib.hid (emod_tmod h hl1 hl0)
    clear hm0 hm1 ht
    by_cases hs : i.tmod n < 0
    · go_enter Try.func14, Try.ntmps14
      go_wp2
      go_ret
      exact ⟨by rw [hem.out, if_pos hs]; rfl, rfl⟩
    · go_enter Try.func14, Try.ntmps14
      go_wp2
      go_ret
      exact ⟨by rw [hem.out, if_neg (by omega)]; rfl, rfl⟩
end Go.Proofs.Ytlecihbclkohjaa
