/-
  The last blocks while they are made: functions on lists; nothing of the program.
-/
import Derived.Test.YtcidliakmlolmaaDig2
namespace Go.Proofs.Ytcidliakmlolmaa
set_option linter.unusedVariables false

/-- The 128 bytes, k of the length's bytes laid. -/
def tl (f : List UInt8) (r E bits k : Nat) : List UInt8 :=
  (List.range 128).map fun j => if j < r then f.getD j 0 else if j = r then 128 else if E - k ≤ j ∧ j < E then UInt8.ofNat (bits / 2 ^ (8 * (E - 1 - j))) else 0
theorem tl_len (f : List UInt8) (r E bits k : Nat) : (tl f r E bits k).length = 128 := by simp [tl]
theorem tl_at {f : List UInt8} {r E bits k j : Nat} (h : j < 128) : (tl f r E bits k)[j]? = some (if j < r then f.getD j 0 else if j = r then 128 else if E - k ≤ j ∧ j < E then UInt8.ofNat (bits / 2 ^ (8 * (E - 1 - j))) else 0) := by
  simp [tl, h]
theorem tl_set {f : List UInt8} {r E bits k : Nat} (hE : E ≤ 128) (hr : r + 9 ≤ E) (hk : k < 8) : (tl f r E bits k).set (E - 1 - k) (UInt8.ofNat (bits / 2 ^ (8 * k))) = tl f r E bits (k + 1) := by
  apply List.ext_getElem?
  intro j
  rcases Nat.lt_or_ge j 128 with hj | hj
  · rw [List.getElem?_set, tl_len, tl_at hj, tl_at hj]
    by_cases e : E - 1 - k = j
    · rw [if_pos e, if_pos (by omega), if_neg (by omega), if_neg (by omega), if_pos (by omega)]
      congr 4
      omega
    · rw [if_neg e]
      congr 1
      by_cases h1 : j < r
      · rw [if_pos h1, if_pos h1]
      · rw [if_neg h1, if_neg h1]
        by_cases h2 : j = r
        · rw [if_pos h2, if_pos h2]
        · rw [if_neg h2, if_neg h2]
          by_cases h3 : E - k ≤ j ∧ j < E
          · rw [if_pos h3, if_pos (by omega)]
          · rw [if_neg h3, if_neg (by omega)]
  · rw [List.getElem?_eq_none (by rw [List.length_set, tl_len]; exact hj), List.getElem?_eq_none (by rw [tl_len]; exact hj)]
theorem tl_first {f : List UInt8} {r E bits : Nat} (hf : f.length = r) (hr : r + 9 ≤ E) (hE : E ≤ 128) : (f ++ List.replicate (128 - r) 0).set r 128 = tl f r E bits 0 := by
  apply List.ext_getElem?
  intro j
  rcases Nat.lt_or_ge j 128 with hj | hj
  · rw [List.getElem?_set, tl_at hj]
    by_cases e : r = j
    · subst e
      rw [if_pos rfl, if_pos (by rw [List.length_append, List.length_replicate]; omega), if_neg (by omega), if_pos rfl]
    · rw [if_neg e]
      by_cases h1 : j < r
      · rw [if_pos h1, List.getElem?_append_left (by omega), List.getD_eq_getElem?_getD, List.getElem?_eq_getElem (by omega)]; rfl
      · rw [if_neg h1, if_neg (by omega), if_neg (by omega), List.getElem?_append_right (by omega), List.getElem?_replicate, if_pos (by omega)]
  · rw [List.getElem?_eq_none (by rw [List.length_set, List.length_append, List.length_replicate]; omega), List.getElem?_eq_none (by rw [tl_len]; exact hj)]
/-- Where the length ends. -/
def Eend (r : Nat) : Nat := if r < 56 then 64 else 128
theorem Eend_le (r : Nat) : Eend r = 64 ∨ Eend r = 128 := by unfold Eend; split <;> simp
theorem tl_last (l : List UInt8) : (tl (left l) (l.length % 64) (Eend (l.length % 64)) (l.length * 8) 8).take (Eend (l.length % 64)) = last l := by
  have hl := left_len l
  have hll := last_len l
  have hEl : (last l).length = Eend (l.length % 64) := by rw [hll]; rfl
  have hE := Eend_le (l.length % 64)
  have hgap : gap l.length + (l.length % 64) + 9 = Eend (l.length % 64) := by unfold gap Eend; split <;> omega
  apply List.ext_getElem?
  intro j
  rcases Nat.lt_or_ge j (Eend (l.length % 64)) with hj | hj
  · rw [List.getElem?_take, if_pos hj, tl_at (by omega)]
    unfold last
    by_cases h1 : j < l.length % 64
    · rw [if_pos h1, List.getElem?_append_left (by omega), List.getD_eq_getElem?_getD, List.getElem?_eq_getElem (by omega)]; rfl
    · rw [if_neg h1, List.getElem?_append_right (by omega), hl]
      by_cases h2 : j = l.length % 64
      · rw [if_pos h2, h2, Nat.sub_self]; rfl
      · rw [if_neg h2]
        obtain ⟨q, hq⟩ : ∃ q, j - l.length % 64 = q + 1 := ⟨j - l.length % 64 - 1, by omega⟩
        rw [hq, List.getElem?_cons_succ]
        by_cases h3 : Eend (l.length % 64) - 8 ≤ j ∧ j < Eend (l.length % 64)
        · rw [if_pos h3, List.getElem?_append_right (by rw [List.length_replicate]; omega), List.length_replicate]
          obtain ⟨i, hi⟩ : ∃ i, q - gap l.length = i := ⟨_, rfl⟩
          have hi8 : i < 8 := by omega
          rw [hi]
          unfold be8
          rw [List.getElem?_map, List.getElem?_range hi8]
          show some _ = some _
          congr 1
          have e1 : Eend (l.length % 64) - 1 - j = 7 - i := by omega
          rw [e1, Nat.mul_comm 8 l.length, Nat.pow_mul, show 2 ^ 8 = 256 from rfl]
          apply UInt8.toNat_inj.1
          rw [UInt8.toNat_ofNat', UInt8.toNat_ofNat']
          omega
        · rw [if_neg h3, List.getElem?_append_left (by rw [List.length_replicate]; omega), List.getElem?_replicate, if_pos (by omega)]
  · rw [List.getElem?_eq_none (by rw [List.length_take]; omega), List.getElem?_eq_none (by omega)]
theorem eat_more (s : S8) (m : Nat) (l : List UInt8) : eat s (m + 1) l = rnd (eat s m l) ((l.drop (64 * m)).take 64) := by
  rw [eat_add]; rfl
theorem last_part {T L : List UInt8} {E m : Nat} (h : T.take E = L) (hm : 64 * (m + 1) ≤ E) : (T.drop (64 * m)).take 64 = (L.drop (64 * m)).take 64 := by
  rw [← h, List.drop_take, List.take_take]
  congr 1
  omega
theorem digest_at (l : List UInt8) (m : Nat) (h : 64 * m = Eend (l.length % 64)) : digest l = (eat (whole l) m (last l)).bytes := by
  have hl : (last l).length = Eend (l.length % 64) := by rw [last_len]; rfl
  rw [digest_last, hl]
  congr 2
  omega
end Go.Proofs.Ytcidliakmlolmaa
