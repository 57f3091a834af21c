/-
  When a book tells of a clash; nothing of the program.
-/
import Derived.Test.YtcidliakmlolmaaBks
namespace Go.Proofs.Ytcidliakmlolmaa
set_option linter.unusedVariables false

def zero32 : List UInt8 := List.replicate 32 0
def NoZero (s : List (List UInt8) × Bool × Nat) : Prop := s.2.1 = false → ∀ x ∈ s.1, digest x ≠ zero32
theorem stepL_noZero (s : List (List UInt8) × Bool × Nat) (x : List UInt8) (h : NoZero s) : NoZero (stepL s x) := by
  unfold stepL ofL noteL
  by_cases hl : x.length ≤ 65536
  rotate_left
  · rw [if_neg hl]; exact h
  rw [if_pos hl]
  by_cases hx : x ∈ s.1
  · rw [if_pos hx]; exact h
  rw [if_neg hx]
  intro hc
  simp only [Bool.or_eq_false_iff] at hc
  obtain ⟨⟨h1, _⟩, h2⟩ := hc
  intro y hy
  simp only [List.mem_append, List.mem_singleton] at hy
  rcases hy with hy | rfl
  · exact h h1 y hy
  · exact fun e => by rw [e] at h2; exact absurd h2 (by decide)
theorem runL_noZero (ls : List (List UInt8)) : NoZero (runL ls) := by
  refine snoc_ind (P := fun ls => NoZero (runL ls)) ?_ (fun ls x ih => ?_) ls
  · intro _ x hx; simp [runL] at hx
  · rw [runL_snoc]; exact stepL_noZero _ _ ih

/-- Does y, which is not x, have its digest? -/
def same (x y : List UInt8) : Bool := decide (y.length ≤ 65536) && !(y == x) && (digest y == digest x)
def hit (ls : List (List UInt8)) (x : List UInt8) : Bool := ls.any (same x)
theorem hit_snoc (ls : List (List UInt8)) (x y : List UInt8) : hit (ls ++ [y]) x = (hit ls x || same x y) := by unfold hit; simp
theorem clash_step (ls : List (List UInt8)) (x : List UInt8) (hx : x.length ≤ 65536) :
    ((runL ls).2.1 || (digest x == zero32) || hit ls x) = (stepL (runL ls) x).2.1 := by
  have hg := runL_good ls
  have hz := runL_noZero ls
  have hm := runL_mem ls
  generalize runL ls = s at *
  have hhit : hit ls x = true ↔ ∃ y ∈ s.1, y ≠ x ∧ digest y = digest x := by
    unfold hit same
    rw [List.any_eq_true]
    constructor
    · rintro ⟨y, hy, h⟩
      simp only [Bool.and_eq_true, decide_eq_true_eq, Bool.not_eq_true', beq_eq_false_iff_ne, ne_eq, beq_iff_eq] at h
      exact ⟨y, (hm y).2 ⟨hy, h.1.1⟩, h.1.2, h.2⟩
    · rintro ⟨y, hy, h1, h2⟩
      have := (hm y).1 hy
      exact ⟨y, this.1, by simp only [Bool.and_eq_true, decide_eq_true_eq, Bool.not_eq_true', beq_eq_false_iff_ne, ne_eq, beq_iff_eq]; exact ⟨⟨this.2, h1⟩, h2⟩⟩
  unfold stepL ofL noteL
  rw [if_pos hx]
  cases hc : s.2.1 with
  | true => by_cases hxs : x ∈ s.1 <;> simp [hxs]
  | false =>
    by_cases hxs : x ∈ s.1
    · rw [if_pos hxs]
      have h1 : (digest x == zero32) = false := beq_eq_false_iff_ne.2 (hz hc x hxs)
      have h2 : hit ls x = false := by
        cases hh : hit ls x with
        | false => rfl
        | true =>
          obtain ⟨y, hy, hne, he⟩ := hhit.1 hh
          exact absurd (hg hc y hy x hxs he) hne
      rw [h1, h2]; rfl
    · rw [if_neg hxs]
      have h2 : hit ls x = decide (grp (digest x) s.1 ≠ []) := by
        have : hit ls x = true ↔ grp (digest x) s.1 ≠ [] := by
          rw [hhit]
          unfold grp
          constructor
          · rintro ⟨y, hy, _, he⟩ e
            have : y ∈ s.1.filter fun z => digest z == digest x := by rw [List.mem_filter]; exact ⟨hy, beq_iff_eq.2 he⟩
            rw [e] at this; cases this
          · intro h
            obtain ⟨y, hy⟩ := List.exists_mem_of_ne_nil _ h
            rw [List.mem_filter] at hy
            exact ⟨y, hy.1, fun e => hxs (e ▸ hy.1), beq_iff_eq.1 hy.2⟩
        cases hh : hit ls x with
        | true => rw [decide_eq_true (this.1 hh)]
        | false => rw [decide_eq_false (fun h => by rw [this.2 h] at hh; cases hh)]
      rw [h2]
      show _ = (false || decide (grp (digest x) s.1 ≠ []) || digest x == List.replicate 32 0)
      unfold zero32
      rw [Bool.or_assoc, Bool.or_comm (digest x == List.replicate 32 0), ← Bool.or_assoc]
theorem BkS.less {w wr : Go.World} {g : Nat} {s : List (List UInt8) × Bool × Nat} {ds : List (Nat × List Go.Value)} (h : BkS w wr g s ds) : BkS w wr g s [] := by
  obtain ⟨S, h1, h2, h3, _⟩ := h
  exact ⟨S, h1, h2, h3, fun d hd => by cases hd⟩
end Go.Proofs.Ytcidliakmlolmaa
