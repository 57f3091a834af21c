/-
  What a book has behind a list of inputs; nothing of the program.
-/
import Derived.Test.YtcidliakmlolmaaLocal
namespace Go.Proofs.Ytcidliakmlolmaa
set_option linter.unusedVariables false

def stepL (s : List (List UInt8) × Bool × Nat) (x : List UInt8) : List (List UInt8) × Bool × Nat := ofL s.1 s.2.1 s.2.2 x
def runL (ls : List (List UInt8)) : List (List UInt8) × Bool × Nat := ls.foldl stepL ([], false, 0)
theorem runL_snoc (ls : List (List UInt8)) (x : List UInt8) : runL (ls ++ [x]) = stepL (runL ls) x := by unfold runL; rw [List.foldl_append]; rfl
theorem runL_succ (ls : List (List UInt8)) (j : Nat) (hj : j < ls.length) : runL (ls.take (j + 1)) = stepL (runL (ls.take j)) ls[j] := by
  rw [List.take_succ_eq_append_getElem hj, runL_snoc]
theorem stepL_len (s : List (List UInt8) × Bool × Nat) (x : List UInt8) : (stepL s x).1.length ≤ s.1.length + 1 ∧ (stepL s x).2.2 ≤ s.2.2 + 1 := by
  unfold stepL ofL noteL
  split
  · split <;> simp
  · simp
theorem snoc_ind {P : List (List UInt8) → Prop} (h0 : P []) (hs : ∀ ls x, P ls → P (ls ++ [x])) (ls : List (List UInt8)) : P ls := by
  have : ∀ r : List (List UInt8), P r.reverse := fun r => by
    induction r with
    | nil => exact h0
    | cons x r ih => rw [List.reverse_cons]; exact hs _ _ ih
  have h := this ls.reverse
  rwa [List.reverse_reverse] at h
theorem runL_len (ls : List (List UInt8)) : (runL ls).1.length ≤ ls.length ∧ (runL ls).2.2 ≤ ls.length := by
  refine snoc_ind (P := fun ls => (runL ls).1.length ≤ ls.length ∧ (runL ls).2.2 ≤ ls.length) ?_ (fun ls x ih => ?_) ls
  · simp [runL]
  · rw [runL_snoc, List.length_append]
    have := stepL_len (runL ls) x
    simp only [List.length_singleton]
    omega

/-- As long as there is no clash, unlike inputs have unlike digests. -/
def Unmixed (s : List (List UInt8) × Bool × Nat) : Prop := s.2.1 = false → ∀ x ∈ s.1, ∀ y ∈ s.1, digest x = digest y → x = y
theorem stepL_good (s : List (List UInt8) × Bool × Nat) (x : List UInt8) (h : Unmixed s) : Unmixed (stepL s x) := by
  unfold stepL ofL noteL
  by_cases hl : x.length ≤ 65536
  rotate_left
  · rw [if_neg hl]; exact h
  rw [if_pos hl]
  by_cases hx : x ∈ s.1
  · rw [if_pos hx]; exact h
  rw [if_neg hx]
  intro hc
  simp only [Bool.or_eq_false_iff, decide_eq_false_iff_not, ne_eq, Decidable.not_not] at hc
  obtain ⟨⟨h1, h2⟩, _⟩ := hc
  have hno : ∀ y ∈ s.1, digest y ≠ digest x := fun y hy e => by
    have : y ∈ grp (digest x) s.1 := by unfold grp; rw [List.mem_filter]; exact ⟨hy, beq_iff_eq.2 e⟩
    rw [h2] at this; cases this
  intro y hy z hz e
  simp only [List.mem_append, List.mem_singleton] at hy hz
  rcases hy with hy | rfl
  · rcases hz with hz | rfl
    · exact h h1 y hy z hz e
    · exact absurd e (hno y hy)
  · rcases hz with hz | rfl
    · exact absurd e.symm (hno z hz)
    · rfl
theorem runL_good (ls : List (List UInt8)) : Unmixed (runL ls) := by
  refine snoc_ind (P := fun ls => Unmixed (runL ls)) ?_ (fun ls x ih => ?_) ls
  · intro _ x hx; simp [runL] at hx
  · rw [runL_snoc]; exact stepL_good _ _ ih
theorem stepL_mem (s : List (List UInt8) × Bool × Nat) (x y : List UInt8) : y ∈ (stepL s x).1 ↔ y ∈ s.1 ∨ (y = x ∧ x.length ≤ 65536) := by
  unfold stepL ofL noteL
  by_cases hl : x.length ≤ 65536
  · rw [if_pos hl]
    by_cases hx : x ∈ s.1
    · rw [if_pos hx]
      exact ⟨.inl, fun h => by rcases h with h | ⟨rfl, _⟩; exact h; exact hx⟩
    · rw [if_neg hx]; simp [hl]
  · rw [if_neg hl]; simp [hl]
theorem runL_mem (ls : List (List UInt8)) (y : List UInt8) : y ∈ (runL ls).1 ↔ y ∈ ls ∧ y.length ≤ 65536 := by
  refine snoc_ind (P := fun ls => y ∈ (runL ls).1 ↔ y ∈ ls ∧ y.length ≤ 65536) ?_ (fun ls x ih => ?_) ls
  · simp [runL]
  · rw [runL_snoc, stepL_mem, ih, List.mem_append, List.mem_singleton]
    constructor
    · rintro (h | ⟨rfl, h⟩)
      · exact ⟨.inl h.1, h.2⟩
      · exact ⟨.inr rfl, h⟩
    · rintro ⟨h | rfl, h2⟩
      · exact .inl ⟨h, h2⟩
      · exact .inr ⟨rfl, h2⟩
/-- An input that is there changes nothing but how often it was asked. -/
theorem ofL_old {L : List (List UInt8)} {c : Bool} {k : Nat} {x : List UInt8} (hx : x ∈ L) (hl : x.length ≤ 65536) : ofL L c k x = (L, c, k + 1) := by
  unfold ofL noteL
  rw [if_pos hl, if_pos hx]
theorem ofL_long {L : List (List UInt8)} {c : Bool} {k : Nat} {x : List UInt8} (hl : ¬ x.length ≤ 65536) : ofL L c k x = (L, c, k) := if_neg hl
end Go.Proofs.Ytcidliakmlolmaa
