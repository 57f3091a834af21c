/-
  Contracts over this seat's translation: shifted, Step.
-/
import Derived.Test.YtdfphefhabgjhaaW64
import Derived.Test.YtdfphefhabgjhaaBlk
namespace Go.Proofs.Ytdfphefhabgjhaa
open Go.RowKit
set_option linter.unusedVariables false

set_option maxRecDepth 100000 in
set_option maxHeartbeats 400000 in
theorem shifted_any (x : UInt64) (n : Nat) (w : World) (hn : n ≤ 8) :
    Calls Try.prog 24 #[.int .u64 (x.toNat : Int), .int .i64 (n : Int)] w fun e w' => e = .returned (.int .u64 ((shn n x).toNat : Int)) ∧ w' = w := by
  go_enter Try.func24, Try.ntmps24
  go_wp2
  go_loopw [7, 0] (fun i s wr => ∃ k : Nat, k ≤ n ∧ i = .int .i64 k ∧ s = .int .u64 ((shn k x).toNat : Int) ∧ wr = w) (fun i _ _ => n - (intOf i).toNat)
  case atStart => exact ⟨0, Nat.zero_le _, rfl, rfl, rfl⟩
  case round =>
    obtain ⟨k, hk, rfl, rfl, rfl⟩ := hrel
    by_cases hlt : k < n
    · have hi1 : (k : Int) < n := by omega
      have hs := shn_succ k x
      obtain ⟨y, hy⟩ : ∃ y, shn k x = y := ⟨_, rfl⟩
      rw [hy] at hs ⊢
      have hand := q_and1 y
      have hyl := q_lt y
      have Hs := Lib.hid (And.intro hs hk)
      clear hs hy hk
      by_cases ho : (y.toNat : Int) % 2 = 1
      · have e := q_odd y ho
        have He := Lib.hid e
        have hbx : bits .xor .u64 ((y.toNat : Int) / 2) 14514072000185962306 = ((sh1 y).toNat : Int) := e.symm
        have hsl := q_lt (sh1 y)
        clear e
        go_wp2_with fail
        clear hbx hsl hyl hand
        refine ⟨⟨k + 1, by omega, by go_num, by rw [Hs.out.1], trivial⟩, by simp [intOf]; omega⟩
      · have e := q_even y ho
        have ho0 : (y.toNat : Int) % 2 = 0 := by omega
        clear ho
        have He := Lib.hid e
        clear e
        go_wp2
        clear hyl hand
        go_roundw
        case rel => exact ⟨k + 1, by omega, by go_num, by rw [Hs.out.1, He.out], trivial⟩
        case measure => simp [intOf]; omega
    · have e : k = n := by omega
      subst e
      go_wp2
      go_ret
      exact ⟨rfl, rfl⟩

theorem step_any (x : UInt64) (c : UInt8) (w : World) :
    Calls Try.prog 14 #[.int .u64 (x.toNat : Int), .int .u8 (c.toNat : Int)] w fun e w' => e = .returned (.int .u64 ((stepC x c).toNat : Int)) ∧ w' = w := by
  have hb := q_byte x c
  have hc : (c.toNat : Int) % 18446744073709551616 = (c.toNat : Int) := by have := c.toNat_lt; omega
  have Hsh := Lib.hid (fun w => shifted_any (x ^^^ c.toUInt64) 8 w (by decide))
  go_enter Try.func14, Try.ntmps14
  go_wp2_with fail
  refine (Hsh.out _).mono ?_
  rintro e w' ⟨rfl, rfl⟩
  clear hb hc
  go_wp2_with fail
  go_ret
  exact ⟨rfl, rfl⟩
end Go.Proofs.Ytdfphefhabgjhaa

