/-
  The statements' own helpers: hex, works; digests compared.
-/
import Derived.Test.YtcidliakmlolmaaApi
import Derived.Stop.BytesEq
import Derived.Lib.SlBytesConst
import Derived.Outline
namespace Go.Proofs.Ytcidliakmlolmaa
open Go.RowKit
set_option linter.unusedVariables false

theorem eq_digests (w : World) (l m : List UInt8) (hl : l.length = 32) (hm : m.length = 32) :
    (Op.equalIn 10000 28 (.agg (cbs l).toArray) (.agg (cbs m).toArray)).run Try.prog w = .ok (l == m) w :=
  run_equalIn_bytes w 9998 28 5 32 Try.underlying28 Try.underlying5 (fun w => by kernel_rfl) l m hl hm
theorem dlen (l : List UInt8) : (digest l).length = 32 := by rw [digest_last]; rfl
theorem eq_same (D : List Value) (l : List UInt8) (h : D = cbs (digest l)) (w : World) : (Op.equalIn 10000 28 (.agg D.toArray) (.agg D.toArray)).run Try.prog w = .ok true w := by
  subst h
  rw [eq_digests w _ _ (dlen l) (dlen l)]
  simp

def nib (c : UInt8) : UInt8 := if 65 ≤ c.toNat then c - 65 + 10 else c - 48
def hx (l : List UInt8) : Nat → List UInt8
  | 0 => List.replicate 32 0
  | k + 1 => (hx l k).set (k / 2) ((hx l k).getD (k / 2) 0 * 16 + nib (l.getD k 0))
theorem hx_len (l : List UInt8) (k : Nat) : (hx l k).length = 32 := by
  induction k with
  | zero => exact List.length_replicate
  | succ k ih => rw [hx, List.length_set]; exact ih

theorem cb_nib1 (o c : UInt8) (h : 65 ≤ c.toNat) : Value.int .u8 (((o.toNat : Int) * 16 + ((c.toNat : Int) - 65 + 10)) % 256) = cb (o * 16 + nib c) := by
  have h1 := o.toNat_lt
  have h2 := c.toNat_lt
  have e16 : (16 : UInt8).toNat = 16 := rfl
  have e65 : (65 : UInt8).toNat = 65 := rfl
  have e10 : (10 : UInt8).toNat = 10 := rfl
  unfold cb nib
  rw [if_pos h, UInt8.toNat_add, UInt8.toNat_mul, UInt8.toNat_add, UInt8.toNat_sub, e16, e65, e10]
  congr 1
  omega
theorem cb_nib2 (o c : UInt8) (h : ¬ 65 ≤ c.toNat) : Value.int .u8 (((o.toNat : Int) * 16 + ((c.toNat : Int) - 48)) % 256) = cb (o * 16 + nib c) := by
  have h1 := o.toNat_lt
  have h2 := c.toNat_lt
  have e16 : (16 : UInt8).toNat = 16 := rfl
  have e48 : (48 : UInt8).toNat = 48 := rfl
  unfold cb nib
  rw [if_neg h, UInt8.toNat_add, UInt8.toNat_mul, UInt8.toNat_sub, e16, e48]
  congr 1
  omega

def abcS : ByteArray := { data := #[66, 65, 55, 56, 49, 54, 66, 70, 56, 70, 48, 49, 67, 70, 69, 65, 52, 49, 52, 49, 52, 48, 68, 69, 53, 68, 65, 69, 50, 50, 50, 51, 66, 48, 48, 51, 54, 49, 65, 51, 57, 54, 49, 55, 55, 65, 57, 67, 66, 52, 49, 48, 70, 70, 54, 49, 70, 50, 48, 48, 49, 53, 65, 68] }
theorem abc_hex : hx abcS.data.toList 64 = digest [97, 98, 99] := by
  rw [dig_abc]; decide +kernel
theorem Bs.made (w : World) (t : TypeId) (vs : Array Value) (fr : Nat × Nat) (l : List UInt8) (h : vs.toList = cbs l) : Bs (w.alloc (.cells vs t fr)) (some ⟨w.heap.size, 0, none⟩) l := by
  refine ⟨by rw [cbs_length]; simp, fun _ => ⟨w.heap.size, 0, rfl, by simp, fun j u hu => ?_⟩⟩
  rw [Nat.zero_add, cell_of_row _ _ j vs t fr (heap_alloc_new w _)]
  rw [← h] at hu
  simpa using hu

end Go.Proofs.Ytcidliakmlolmaa
