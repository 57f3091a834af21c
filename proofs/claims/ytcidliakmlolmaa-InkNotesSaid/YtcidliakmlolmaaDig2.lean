/-
  What a hash that takes bytes piece by piece holds, as functions on lists; nothing of the program.
-/
import Derived.Test.YtcidliakmlolmaaDig
namespace Go.Proofs.Ytcidliakmlolmaa
set_option linter.unusedVariables false

theorem eat_append (n : Nat) : ∀ (s : S8) (l m : List UInt8), 64 * n ≤ l.length → eat s n (l ++ m) = eat s n l := by
  induction n with
  | zero => intro s l m _; rfl
  | succ n ih =>
    intro s l m h
    rw [eat, eat, List.take_append_of_le_length (by omega), List.drop_append_of_le_length (by omega)]
    exact ih _ _ _ (by rw [List.length_drop]; omega)
theorem eat_add (n k : Nat) : ∀ (s : S8) (l : List UInt8), eat s (n + k) l = eat (eat s n l) k (l.drop (64 * n)) := by
  induction n with
  | zero => intro s l; simp [eat]
  | succ n ih =>
    intro s l
    rw [show n + 1 + k = (n + k) + 1 from by omega, eat, eat, ih, List.drop_drop]
    congr 2; omega
/-- The state behind all whole blocks. -/
def whole (l : List UInt8) : S8 := eat S8.first (l.length / 64) l
/-- The bytes that are no whole block yet. -/
def left (l : List UInt8) : List UInt8 := l.drop (64 * (l.length / 64))
theorem left_len (l : List UInt8) : (left l).length = l.length % 64 := by unfold left; rw [List.length_drop]; omega
theorem whole_nil : whole [] = S8.first := rfl
theorem left_nil : left [] = [] := rfl
theorem split_left (l : List UInt8) : l.take (64 * (l.length / 64)) ++ left l = l := List.take_append_drop _ _
theorem whole_in (l c : List UInt8) (h : l.length % 64 + c.length < 64) : whole (l ++ c) = whole l ∧ left (l ++ c) = left l ++ c := by
  have e : (l ++ c).length / 64 = l.length / 64 := by rw [List.length_append]; omega
  unfold whole left
  rw [e, eat_append _ _ _ _ (by omega), List.drop_append_of_le_length (by omega)]
  exact ⟨rfl, rfl⟩
theorem whole_full (l c : List UInt8) (h : l.length % 64 + c.length = 64) : whole (l ++ c) = rnd (whole l) (left l ++ c) ∧ left (l ++ c) = [] := by
  have e : (l ++ c).length / 64 = l.length / 64 + 1 := by rw [List.length_append]; omega
  unfold whole left
  rw [e, eat_add, eat_append _ _ _ _ (by omega), List.drop_append_of_le_length (by omega)]
  refine ⟨?_, ?_⟩
  · rw [eat, eat, List.take_of_length_le (by simp; omega)]
  · rw [List.drop_eq_nil_iff]; rw [List.length_append]; omega
theorem be8_len (n : Nat) : (be8 n).length = 8 := by simp [be8]
/-- The last one or two blocks. -/
def last (l : List UInt8) : List UInt8 := left l ++ (128 :: (List.replicate (gap l.length) 0 ++ be8 (8 * l.length)))
theorem last_len (l : List UInt8) : (last l).length = if l.length % 64 < 56 then 64 else 128 := by
  unfold last gap
  simp only [List.length_append, List.length_cons, List.length_replicate, be8_len, left_len]
  split <;> omega
theorem pad_len (l : List UInt8) : (pad l).length / 64 = l.length / 64 + (last l).length / 64 := by
  have : (pad l).length = 64 * (l.length / 64) + (last l).length := by
    unfold pad last
    simp only [List.length_append, List.length_cons, List.length_replicate, be8_len, left_len]
    omega
  rw [this]
  rw [last_len]
  split <;> omega
theorem digest_last (l : List UInt8) : digest l = (eat (whole l) ((last l).length / 64) (last l)).bytes := by
  unfold digest
  rw [pad_len, eat_add]
  congr 2
  · unfold whole pad
    exact eat_append _ _ _ _ (by omega)
  · unfold pad last left
    rw [List.drop_append_of_le_length (by omega)]
theorem eat_one (s : S8) (l : List UInt8) : eat s 1 l = rnd s (l.take 64) := rfl
theorem eat_two (s : S8) (l : List UInt8) : eat s 2 l = rnd (rnd s (l.take 64)) ((l.drop 64).take 64) := rfl
end Go.Proofs.Ytcidliakmlolmaa
