/-
  The chapter's three digests: what Of and hex answer of them.
-/
import Derived.Test.YtdhpkaffijbedaaNone
namespace Go.Proofs.Ytdhpkaffijbedaa
open Go.RowKit
set_option linter.unusedVariables false

def longL : List UInt8 := [97, 98, 99, 100, 98, 99, 100, 101, 99, 100, 101, 102, 100, 101, 102, 103, 101, 102, 103, 104, 102, 103, 104, 105, 103, 104, 105, 106, 104, 105, 106, 107, 105, 106, 107, 108, 106, 107, 108, 109, 107, 108, 109, 110, 108, 109, 110, 111, 109, 110, 111, 112, 110, 111, 112, 113]
def noneS : ByteArray := { data := #[69, 51, 66, 48, 67, 52, 52, 50, 57, 56, 70, 67, 49, 67, 49, 52, 57, 65, 70, 66, 70, 52, 67, 56, 57, 57, 54, 70, 66, 57, 50, 52, 50, 55, 65, 69, 52, 49, 69, 52, 54, 52, 57, 66, 57, 51, 52, 67, 65, 52, 57, 53, 57, 57, 49, 66, 55, 56, 53, 50, 66, 56, 53, 53] }
theorem none_hex : hx noneS.data.toList 64 = digest [] := by
  rw [dig_none]; decide +kernel
def longS : ByteArray := { data := #[50, 52, 56, 68, 54, 65, 54, 49, 68, 50, 48, 54, 51, 56, 66, 56, 69, 53, 67, 48, 50, 54, 57, 51, 48, 67, 51, 69, 54, 48, 51, 57, 65, 51, 51, 67, 69, 52, 53, 57, 54, 52, 70, 70, 50, 49, 54, 55, 70, 54, 69, 67, 69, 68, 68, 52, 49, 57, 68, 66, 48, 54, 67, 49] }
theorem long_hex : hx longS.data.toList 64 = digest longL := by
  rw [show digest longL = _ from dig_long]; decide +kernel
def thouS : ByteArray := { data := #[52, 49, 69, 68, 69, 67, 69, 52, 50, 68, 54, 51, 69, 56, 68, 57, 66, 70, 53, 49, 53, 65, 57, 66, 65, 54, 57, 51, 50, 69, 49, 67, 50, 48, 67, 66, 67, 57, 70, 53, 65, 53, 68, 49, 51, 52, 54, 52, 53, 65, 68, 66, 53, 68, 66, 49, 66, 57, 55, 51, 55, 69, 65, 51] }
theorem thou_hex : hx thouS.data.toList 64 = digest (List.replicate 1000 97) := by
  rw [dig_thousand]; decide +kernel

theorem of_none (w : World) : Calls Try.prog 14 #[.slice none 0 0] w fun e w' => e = .returned (.agg (cbs (digest [])).toArray) ∧ Below w.heap.size w w' :=
  of_any none 0 0 [] w (Bs.nil _ _) rfl (by decide) (by decide) (by decide)
theorem of_long (A : Option Addr) (c : Nat) (w : World) (h : Bs w A longL) (h2 : 56 ≤ c) (h3 : c ≤ maxLen) : Calls Try.prog 14 #[.slice A (56 : Nat) c] w fun e w' => e = .returned (.agg (cbs (digest longL)).toArray) ∧ Below w.heap.size w w' :=
  of_any A 56 c longL w h rfl h2 h3 (by decide)
theorem of_thou (A : Option Addr) (c : Nat) (w : World) (h : Bs w A (List.replicate 1000 97)) (h2 : 1000 ≤ c) (h3 : c ≤ maxLen) : Calls Try.prog 14 #[.slice A (1000 : Nat) c] w fun e w' => e = .returned (.agg (cbs (digest (List.replicate 1000 97))).toArray) ∧ Below w.heap.size w w' :=
  of_any A 1000 c _ w h (by rw [List.length_replicate]) h2 h3 (by decide)
theorem hex_none (w : World) : Calls Try.prog 27 #[.string noneS] w fun e w' => e = .returned (.agg (cbs (digest [])).toArray) ∧ Below w.heap.size w w' := by
  have h := hex_any noneS w rfl
  rw [none_hex] at h; exact h
theorem hex_long (w : World) : Calls Try.prog 27 #[.string longS] w fun e w' => e = .returned (.agg (cbs (digest longL)).toArray) ∧ Below w.heap.size w w' := by
  have h := hex_any longS w rfl
  rw [long_hex] at h; exact h
theorem hex_thou (w : World) : Calls Try.prog 27 #[.string thouS] w fun e w' => e = .returned (.agg (cbs (digest (List.replicate 1000 97))).toArray) ∧ Below w.heap.size w w' := by
  have h := hex_any thouS w rfl
  rw [thou_hex] at h; exact h
end Go.Proofs.Ytdhpkaffijbedaa
