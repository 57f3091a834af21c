/-
  One block of fewer than 56 bytes: functions on lists.
-/
import Derived.Test.YtdhpkaffijbedaaRound2
import Derived.Test.YtdhpkaffijbedaaCutN
namespace Go.Proofs.Ytdhpkaffijbedaa
open Go.RowKit
set_option linter.unusedVariables false

def part64 (x : List UInt8) (k : Nat) : List UInt8 := x.take k ++ List.replicate (64 - k) 0
theorem part64_len (x : List UInt8) {k : Nat} (h : k ≤ x.length) (h2 : x.length ≤ 55) : (part64 x k).length = 64 := by
  unfold part64; rw [List.length_append, List.length_take, List.length_replicate]; omega
theorem part64_set (x : List UInt8) {k : Nat} (h : k < x.length) (h2 : x.length ≤ 55) : (part64 x k).set k (x.getD k 0) = part64 x (k + 1) := by
  have hl : (x.take k).length = k := by rw [List.length_take]; omega
  unfold part64
  rw [List.set_append_right _ _ (by omega), hl, Nat.sub_self, show 64 - k = (64 - (k + 1)) + 1 from by omega, List.replicate_succ, List.set_cons_zero, List.take_succ_eq_append_getElem h, List.getD_eq_getElem?_getD, List.getElem?_eq_getElem h, Option.getD_some, List.append_assoc]
  rfl
theorem one_last (x : List UInt8) (h : x.length ≤ 55) :
    (((part64 x x.length).set x.length 128).set 62 (UInt8.ofNat (8 * x.length / 256))).set 63 (UInt8.ofNat (8 * x.length % 256)) = last x := by
  have hlast : last x = x ++ (128 :: (List.replicate (gap x.length) 0 ++ be8 (8 * x.length))) := by
    unfold last left
    rw [show 64 * (x.length / 64) = 0 from by omega, List.drop_zero]
  have hgap : gap x.length + x.length + 9 = 64 := by unfold gap; omega
  rw [hlast]
  have hlen : (part64 x x.length).length = 64 := part64_len x (Nat.le_refl _) h
  apply List.ext_getElem?
  intro j
  rcases Nat.lt_or_ge j 64 with hj | hj
  · rw [List.getElem?_set, List.length_set, List.length_set, hlen]
    by_cases e63 : 63 = j
    · subst e63
      rw [if_pos rfl, if_pos (by decide), List.getElem?_append_right (by omega), show 63 - x.length = (62 - x.length) + 1 from by omega, List.getElem?_cons_succ, List.getElem?_append_right (by rw [List.length_replicate]; omega), List.length_replicate]
      unfold be8
      rw [List.getElem?_map, List.getElem?_range (by omega), show 62 - x.length - gap x.length = 7 from by omega]
      simp
    · rw [if_neg e63, List.getElem?_set, List.length_set, hlen]
      by_cases e62 : 62 = j
      · subst e62
        rw [if_pos rfl, if_pos (by decide), List.getElem?_append_right (by omega), show 62 - x.length = (61 - x.length) + 1 from by omega, List.getElem?_cons_succ, List.getElem?_append_right (by rw [List.length_replicate]; omega), List.length_replicate]
        unfold be8
        rw [List.getElem?_map, List.getElem?_range (by omega), show 61 - x.length - gap x.length = 6 from by omega]
        simp
        apply UInt8.toNat_inj.1
        rw [UInt8.toNat_ofNat', UInt8.toNat_ofNat']
        omega
      · rw [if_neg e62, List.getElem?_set, hlen]
        by_cases em : x.length = j
        · rw [if_pos em, if_pos (by omega), List.getElem?_append_right (by omega), show j - x.length = 0 from by omega]
          rfl
        · rw [if_neg em]
          unfold part64
          rw [List.take_length]
          by_cases hlt : j < x.length
          · rw [List.getElem?_append_left hlt, List.getElem?_append_left hlt]
          · rw [List.getElem?_append_right (by omega), List.getElem?_append_right (by omega), List.getElem?_replicate, if_pos (by omega), show j - x.length = (j - x.length - 1) + 1 from by omega, List.getElem?_cons_succ]
            by_cases hg : j - x.length - 1 < gap x.length
            · rw [List.getElem?_append_left (by rw [List.length_replicate]; omega), List.getElem?_replicate, if_pos hg]
            · rw [List.getElem?_append_right (by rw [List.length_replicate]; omega), List.length_replicate]
              unfold be8
              obtain ⟨i, hi⟩ : ∃ i, j - x.length - 1 - gap x.length = i := ⟨_, rfl⟩
              rw [hi, List.getElem?_map, List.getElem?_range (by omega)]
              show some _ = some _
              congr 1
              have h6 : i < 6 := by omega
              have hp : 8 * x.length < 256 ^ (7 - i) := by
                have : 256 ^ 2 ≤ 256 ^ (7 - i) := Nat.pow_le_pow_right (by decide) (by omega)
                omega
              show (0 : UInt8) = UInt8.ofNat (8 * x.length / 256 ^ (7 - i) % 256)
              rw [Nat.div_eq_of_lt hp]
              rfl
  · rw [List.getElem?_eq_none (by rw [List.length_set, List.length_set, List.length_set, hlen]; exact hj), List.getElem?_eq_none (by simp [be8_len]; omega)]
theorem one_digest (x : List UInt8) (h : x.length ≤ 55) : digest x = (rnd S8.first (last x)).bytes := by
  have hl : (last x).length = 64 := by rw [last_len, if_pos (by omega)]
  rw [digest_at x 1 (by unfold Eend; rw [if_pos (by omega)]), eat_one, List.take_of_length_le (by omega)]
  have hw : whole x = S8.first := by
    unfold whole
    rw [show x.length / 64 = 0 from by omega]
    rfl
  rw [hw]
end Go.Proofs.Ytdhpkaffijbedaa
