/-
  Bring over this seat's translation: some number from 0 to n - 1.
-/
import Derived.Test.YtlecihbclkohjaaMem
import Derived.Test.YtlecihbclkohjaaRows

namespace Go.Proofs.Ytlecihbclkohjaa

open Go.RowKit

set_option linter.unusedVariables false

def SomeNat (n : Int) (w : World) (e : Ending) (w' : World) : Prop := ∃ r : Nat, (r : Int) < n ∧ e = .returned (.int .i64 (r : Int)) ∧ w = w'

theorem SomeNat.mk {n : Int} {w w' : World} {x : Int} (h0 : 0 ≤ x) (h : x < n) (hw : w = w') : SomeNat n w (.returned (.int .i64 x)) w' :=
  ⟨x.toNat, by omega, by rw [Int.toNat_of_nonneg h0], hw⟩

set_option maxHeartbeats 400000 in
theorem bring_any (i n : Int) (w : World) (h : 0 < n) (hn : n ≤ 9223372036854775807) (hi0 : -9223372036854775808 ≤ i) (hi1 : i ≤ 9223372036854775807) :
    Calls Try.prog 14 #[.int .i64 i, .int .i64 n] w (SomeNat n w) := by
  have hz : (n == 0) = false := by simp; omega
  by_cases h0 : 0 ≤ i
  · have hm0 := Int.emod_nonneg i (by omega : n ≠ 0)
    have hm1 := Int.emod_lt_of_pos i h
    go_enter Try.func14, Try.ntmps14
    go_wp2
    go_ret
    exact SomeNat.mk hm0 hm1 rfl
  · have ht : i.tmod n = -((-i) % n) := by
      have e1 : (-i).tmod n = -(i.tmod n) := Int.neg_tmod i n
      have e2 : (-i).tmod n = (-i) % n := Int.tmod_eq_emod_of_nonneg (by omega)
      omega
    have hm0 := Int.emod_nonneg (-i) (by omega : n ≠ 0)
    have hm1 := Int.emod_lt_of_pos (-i) h
    have hl0 : i.tmod n ≤ 0 := by omega
    have hl1 : -n < i.tmod n := by omega
    clear hm0 hm1 ht
    by_cases hs : i.tmod n < 0
    · go_enter Try.func14, Try.ntmps14
      go_wp2
      go_ret
      exact SomeNat.mk (by omega) (by omega) rfl
    · go_enter Try.func14, Try.ntmps14
      go_wp2
      go_ret
      exact SomeNat.mk (by omega) (by omega) rfl

end Go.Proofs.Ytlecihbclkohjaa
