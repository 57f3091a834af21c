/-
  A number's bytes, as they are written: 'written' and Num over this seat's translation.
-/
import Derived.Test.YtjnoeojlmfmhdaaShelf
import Derived.Test.YtjnoeojlmfmhdaaApp
import Derived.Test.YtjnoeojlmfmhdaaNum
namespace Go.Proofs.Ytjnoeojlmfmhdaa
open Go.RowKit
set_option linter.unusedVariables false

theorem make_zero (n : Nat) : (madeCells (Value.cells (.int .u8 0)) (n * 1)).toList = cbs (List.replicate n 0) := by
  apply List.ext_getElem
  · simp [cbs, size_madeCells]
  · intro i h1 h2
    simp [madeCells, cbs, Value.cells, cb, Nat.mod_one]

theorem byte_at (n k : Nat) : Value.int .u8 ((n : Int) / 2 ^ (8 * k) % 256) = cb (UInt8.ofNat (n / 256 ^ k % 256)) := by
  unfold cb
  congr 1
  rw [UInt8.toNat_ofNat', Nat.mod_eq_of_lt (by omega)]
  have e : (2 : Nat) ^ (8 * k) = 256 ^ k := by rw [Nat.pow_mul]
  have e' : (2 : Int) ^ (8 * k) = ((256 ^ k : Nat) : Int) := by rw [← e]; simp
  rw [e']
  simp

set_option maxHeartbeats 800000 in
theorem written_any (n : Nat) (w : World) (h : n ≤ 9007199254740991) :
    Calls Try.prog 34 #[.int .i64 n] w (RetB w (numB n)) := by
  obtain ⟨i0, hi, hz0, hz1, hz2⟩ := info_parts u8_info
  have hb := dgs_bits n (by omega)
  have h7 := dgs_len7 h
  have hb1 : (Lib.bitLen n + 7) / 8 ≤ (dgs n).length := by omega
  have hb2 : (dgs n).length ≤ (Lib.bitLen n + 7) / 8 := by omega
  clear hb
  generalize hs : (dgs n).length = s at *
  have Hs := Lib.hid hs
  clear hs
  go_enter Try.func34, Try.ntmps34
  go_wp2_with fail
  refine (Try.bits_Len _ _ (by omega) (by omega)).mono ?_
  rintro e w' ⟨rfl, rfl⟩
  rw [Int.toNat_natCast]
  generalize Lib.bitLen n = bl at *
  have hs1 : ((bl : Int) + 7) / 8 ≤ 7 := by omega
  have hs0 : 0 ≤ ((bl : Int) + 7) / 8 := by omega
  go_wp2_with (at_make; refine wpList_make_full _ rfl _ _ 22 rfl w'.heap.size 5 i0 (.int .u8 0) 1 Try.underlying22 hi hz0 hz1 .i64 .i64 _ _ (1 + s) rfl rfl (by omega) (by omega) (by rw [hz2]; omega) (by unfold maxLen; omega) (Nat.le_refl _) ?_; intro w1 ho1 hg1; rw [make_zero] at ho1; have hc1 := Mine.cell ho1 (j := 0) (by simp; omega); have hf1 := ho1.frozenAt 0; simp only [List.getElem_replicate] at hc1)
  go_loopw [5, 19] (fun _ i wr => ∃ k : Nat, k ≤ s ∧ i = .int .i64 k ∧ wr.ownsRow w'.heap.size 5 1 (.slice (some ⟨w'.heap.size, 0, none⟩) (1 + s) (1 + s)) (1 + s) (cbs (part n k)) ∧ Below w'.heap.size w' wr) (fun _ i _ => s - (intOf i).toNat)
  case atStart =>
    refine ⟨0, Nat.zero_le _, rfl, ?_, ((Below.refl _ _).grown hg1 (Nat.le_refl _) (by simp)).setCell (by simp) _⟩
    have h1 := Mine.set_ ho1 0 (UInt8.ofNat s) (.int .u8 (((bl : Int) + 7) / 8)) (by
      show _ = Value.int .u8 _
      congr 1
      rw [UInt8.toNat_ofNat']
      omega)
    have h2 : (List.replicate (1 + s) (0 : UInt8)).set 0 (UInt8.ofNat s) = part n 0 := by
      unfold part
      rw [Hs.out, Nat.add_comm, List.replicate_succ]
      simp [← Hs.out]
    rw [← h2]
    exact h1
  case round =>
    obtain ⟨k, hk, rfl, hown, hnx⟩ := hrel
    by_cases hlt : k < s
    · have hlt' : (k : Int) < ((bl : Int) + 7) / 8 := by omega
      have hix : (bl + 7) / 8 - k < (part n k).length := by rw [part_len _ _ (by rw [Hs.out]; omega), Hs.out]; omega
      have hc := Mine.cell hown hix
      have hf := hown.frozenAt ((bl + 7) / 8 - k)
      generalize (part n k)[(bl + 7) / 8 - k] = old at hc
      clear hix
      go_wp2
      go_roundw
      case rel =>
        refine ⟨k + 1, by omega, by go_num, ?_, hnx.setCell (by simp) _⟩
        have hst := part_step n k (by rw [Hs.out]; omega)
        have e1 : (dgs n).length - k = (bl + 7) / 8 - k := by rw [Hs.out]; omega
        rw [e1] at hst
        rw [← hst]
        exact Mine.set_ hown _ _ _ (byte_at n k)
      case measure => simp [intOf]; omega
    · have hk2 : ¬ (k : Int) < ((bl : Int) + 7) / 8 := by omega
      go_wp2
      go_ret
      refine ⟨_, rfl, ?_, hnx⟩
      have hks : k = (dgs n).length := by rw [Hs.out]; omega
      rw [hks, part_end] at hown
      unfold Mine
      have hl : (numB n).length = 1 + s := by rw [← part_end, part_len _ _ (Nat.le_refl _), Hs.out]
      rw [hl]
      exact hown

/-- What Num answers. -/
def nm (n : Int) : List UInt8 × Nat := if n < 0 ∨ 9007199254740991 < n then ([], 9) else (numB n.toNat, 0)
def RetBE (w : World) (r : List UInt8 × Nat) (e : Ending) (w' : World) : Prop := ∃ v, e = .returned (.tuple #[v, .int .i64 (r.2 : Int)]) ∧ NewB w r.1 v w'

set_option maxHeartbeats 400000 in
theorem num_any (n : Int) (w : World) : Calls Try.prog 17 #[.int .i64 n] w (RetBE w (nm n)) := by
  by_cases h0 : n < 0
  · have hr : Hid (nm n = ([], 9)) := by show _ = _; simp [nm, h0]
    generalize nm n = r at *
    go_enter Try.func17, Try.ntmps17
    go_wp2
    go_ret2
    exact ⟨_, by rw [hr.out]; rfl, by rw [hr.out]; exact NewB.nil _⟩
  · by_cases h1 : 9007199254740991 < n
    · have hr : Hid (nm n = ([], 9)) := by show _ = _; simp [nm, h1]
      generalize nm n = r at *
      go_enter Try.func17, Try.ntmps17
      go_wp2
      go_ret2
      exact ⟨_, by rw [hr.out]; rfl, by rw [hr.out]; exact NewB.nil _⟩
    · obtain ⟨k, rfl⟩ := Int.eq_ofNat_of_zero_le (a := n) (by omega)
      have hr : Hid (nm k = (numB k, 0)) := by show _ = _; simp [nm, h1]
      generalize nm k = r at *
      go_enter Try.func17, Try.ntmps17
      go_wp2_with fail
      refine (written_any k _ (by omega)).mono ?_
      rintro e w' ⟨v, rfl, hnew⟩
      go_wp2
      go_ret2
      exact ⟨_, by rw [hr.out]; rfl, by rw [hr.out]; exact hnew⟩
end Go.Proofs.Ytjnoeojlmfmhdaa
