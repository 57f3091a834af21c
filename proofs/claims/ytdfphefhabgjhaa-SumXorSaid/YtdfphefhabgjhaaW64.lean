/-
  Words of 64 bits: what the walk's integers come to, as UInt64.
-/
import Derived.Test.YtdfphefhabgjhaaCrc
import Derived.Laws.BitsLemmas
import Derived.Laws.BitsAllLaws
namespace Go.Proofs.Ytdfphefhabgjhaa
open Go.RowKit
set_option linter.unusedVariables false

def cq (x : UInt64) : Value := .int .u64 (x.toNat : Int)
theorem q_lt (x : UInt64) : (x.toNat : Int) < 18446744073709551616 := by have := x.toNat_lt; omega
theorem q_xor (x y : UInt64) : bits .xor .u64 (x.toNat : Int) (y.toNat : Int) = ((x ^^^ y).toNat : Int) := by
  rw [u64_xor_nat x.toNat y.toNat x.toNat_lt y.toNat_lt, UInt64.toNat_xor]
theorem q_poly (x : UInt64) : bits .xor .u64 (x.toNat : Int) 14514072000185962306 = ((x ^^^ poly).toNat : Int) := q_xor x poly
theorem q_byte (x : UInt64) (c : UInt8) : bits .xor .u64 (x.toNat : Int) (c.toNat : Int) = ((x ^^^ c.toUInt64).toNat : Int) := by
  have := q_xor x c.toUInt64
  rwa [UInt8.toNat_toUInt64] at this
theorem q_and1 (x : UInt64) : bits .and .u64 (x.toNat : Int) 1 = (x.toNat : Int) % 2 :=
  bits_mask .u64 64 (by decide) (fun n h0 h1 => by simp [IntKind.wrap, IntKind.bits, IntKind.signed]; omega) 1 (by decide) (x.toNat : Int) (by omega) (by have := x.toNat_lt; omega)
theorem q_not (x : UInt64) : bits .xor .u64 18446744073709551615 (x.toNat : Int) = ((~~~x).toNat : Int) := by
  have h := u64_xor_nat 18446744073709551615 x.toNat (by omega) x.toNat_lt
  have e : (18446744073709551615 : UInt64) ^^^ x = ~~~x := by
    apply UInt64.toBitVec_inj.1
    rw [UInt64.toBitVec_xor, UInt64.toBitVec_not]
    exact BitVec.allOnes_xor
  have h2 : ((18446744073709551615 : UInt64) ^^^ x).toNat = 18446744073709551615 ^^^ x.toNat := by rw [UInt64.toNat_xor]; rfl
  rw [← e, h2]
  exact h
theorem q_shr (x : UInt64) (n : Nat) (h : n ≤ 63) : (x.toNat : Int) / 2 ^ n = ((x >>> UInt64.ofNat n).toNat : Int) := by
  rw [UInt64.toNat_shiftRight, UInt64.toNat_ofNat', Nat.shiftRight_eq_div_pow, Nat.mod_eq_of_lt (a := n) (by omega), Nat.mod_eq_of_lt (a := n) (by omega)]
  simp
/-- One bit shifted out, as the walk says it. -/
theorem q_even (x : UInt64) (h : ¬ (x.toNat : Int) % 2 = 1) : ((sh1 x).toNat : Int) = (x.toNat : Int) / 2 := by
  have := q_shr x 1 (by omega)
  unfold sh1
  rw [if_neg (by omega)]
  simpa using this.symm
theorem q_odd (x : UInt64) (h : (x.toNat : Int) % 2 = 1) : ((sh1 x).toNat : Int) = bits .xor .u64 ((x.toNat : Int) / 2) 14514072000185962306 := by
  have h1 := q_shr x 1 (by omega)
  have h2 := q_poly (x >>> UInt64.ofNat 1)
  unfold sh1
  rw [if_pos (by omega)]
  have h3 : (x.toNat : Int) / 2 = ((x >>> UInt64.ofNat 1).toNat : Int) := by simpa using h1
  rw [h3, h2]; rfl
end Go.Proofs.Ytdfphefhabgjhaa
