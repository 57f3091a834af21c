/-
  What of a list of deeds counts for a writer, a reader and a digest.
-/
import Derived.Test.YtoidiacofgmigaaTagP
namespace Go.Proofs.Ytoidiacofgmigaa
set_option linter.unusedVariables false

def givesB (x : DeedL) (f t : Int) (d : UInt8) : Bool :=
  (decide (x.frm = f) && decide (x.d = d) && isN x.frm) &&
    (if x.kind % 3 = 0 then (decide (x.to_ = t) || decide (x.to_ = 0)) && (decide (0 ≤ x.to_) && decide (x.to_ ≤ 34))
     else if x.kind % 3 = 1 then allN x.rs && x.rs.any (fun r => decide (r = t)) else false)
def wantL (l : List DeedL) (f t : Int) (d : UInt8) : Bool := l.any fun x => givesB x f t d
theorem wantL_succ (l : List DeedL) (j : Nat) (h : j < l.length) (f t : Int) (d : UInt8) : wantL (l.take (j + 1)) f t d = (wantL (l.take j) f t d || givesB l[j] f t d) := by
  unfold wantL; rw [List.take_succ_eq_append_getElem h, List.any_append]; simp
theorem givesB_iff {x : DeedL} {f t : Int} {d : UInt8} : givesB x f t d = true ↔ (x.frm = f ∧ x.d = d ∧ isN x.frm = true) ∧
    ((x.kind % 3 = 0 ∧ (x.to_ = t ∨ x.to_ = 0) ∧ 0 ≤ x.to_ ∧ x.to_ ≤ 34) ∨ (x.kind % 3 = 1 ∧ allN x.rs = true ∧ t ∈ x.rs)) := by
  unfold givesB
  by_cases h0 : x.kind % 3 = 0
  · rw [if_pos h0]
    have h1 : ¬ x.kind % 3 = 1 := by omega
    simp [h0, and_assoc]
  · rw [if_neg h0]
    by_cases h1 : x.kind % 3 = 1
    · rw [if_pos h1]; simp [h1, and_assoc]
    · rw [if_neg h1]; simp [h0, h1]
theorem okTag_iff {f t : Int} : okTag f t = true ↔ isN f = true ∧ 0 ≤ t ∧ t ≤ 34 := by
  unfold okTag isN
  simp only [Bool.and_eq_true, Bool.or_eq_true, decide_eq_true_eq, beq_iff_eq]
  constructor
  · rintro ⟨h1, h2⟩; exact ⟨h1, by omega, by omega⟩
  · rintro ⟨h1, h2, h3⟩; exact ⟨h1, by omega⟩
theorem okVec_iff {f : Int} {rs : List Int} : okVec f rs = true ↔ isN f = true ∧ allN rs = true := by unfold okVec; simp
theorem tg_eq {f t f' t' : Int} {d d' : UInt8} : ((f, t, dg d) : Tg) = (f', t', dg d') ↔ f = f' ∧ t = t' ∧ d = d' := by
  constructor
  · intro h
    injection h with h1 h
    injection h with h2 h3
    exact ⟨h1, h2, dg_inj h3⟩
  · rintro ⟨rfl, rfl, rfl⟩; rfl
theorem gives_iff {x : DeedL} {f t : Int} {d : UInt8} : givesB x f t d = true ↔ gives x (f, t, dg d) ∨ gives x (f, 0, dg d) := by
  rw [givesB_iff]
  unfold gives
  constructor
  · rintro ⟨⟨h2, h3, h4⟩, ⟨h0, h5, h6, h7⟩ | ⟨h1, h5, h6⟩⟩
    · rcases h5 with h5 | h5
      · exact .inl (.inl ⟨h0, okTag_iff.2 ⟨h4, h6, h7⟩, tg_eq.2 ⟨h2.symm, h5.symm, h3.symm⟩⟩)
      · exact .inr (.inl ⟨h0, okTag_iff.2 ⟨h4, h6, h7⟩, tg_eq.2 ⟨h2.symm, h5.symm, h3.symm⟩⟩)
    · exact .inl (.inr ⟨h1, okVec_iff.2 ⟨h4, h5⟩, t, h6, tg_eq.2 ⟨h2.symm, rfl, h3.symm⟩⟩)
  · rintro ((⟨h0, h5, h6⟩ | ⟨h1, h5, r, h6, h7⟩) | (⟨h0, h5, h6⟩ | ⟨h1, h5, r, h6, h7⟩))
    · obtain ⟨e1, e2, e3⟩ := tg_eq.1 h6
      obtain ⟨o1, o2, o3⟩ := okTag_iff.1 h5
      exact ⟨⟨e1.symm, e3.symm, o1⟩, .inl ⟨h0, .inl e2.symm, o2, o3⟩⟩
    · obtain ⟨e1, e2, e3⟩ := tg_eq.1 h7
      obtain ⟨o1, o2⟩ := okVec_iff.1 h5
      exact ⟨⟨e1.symm, e3.symm, o1⟩, .inr ⟨h1, o2, by rw [e2]; exact h6⟩⟩
    · obtain ⟨e1, e2, e3⟩ := tg_eq.1 h6
      obtain ⟨o1, o2, o3⟩ := okTag_iff.1 h5
      exact ⟨⟨e1.symm, e3.symm, o1⟩, .inl ⟨h0, .inr e2.symm, o2, o3⟩⟩
    · obtain ⟨e1, e2, e3⟩ := tg_eq.1 h7
      obtain ⟨o1, o2⟩ := okVec_iff.1 h5
      have : isN r = true := by unfold allN at o2; simp at o2; exact o2.2 r h6
      rw [← e2] at this
      exact absurd this (by decide)
theorem want_iff (l : List DeedL) (f t : Int) (d : UInt8) : chk (madeL l) f t (dg d) = wantL l f t d := by
  have h : chk (madeL l) f t (dg d) = true ↔ wantL l f t d = true := by
    unfold chk inT wantL madeL
    simp only [Bool.or_eq_true, decide_eq_true_eq, fold_mem, List.any_eq_true, gives_iff]
    constructor
    · rintro ((h | ⟨x, h1, h2⟩) | (h | ⟨x, h1, h2⟩))
      · simp at h
      · exact ⟨x, h1, .inl h2⟩
      · simp at h
      · exact ⟨x, h1, .inr h2⟩
    · rintro ⟨x, h1, h2 | h2⟩
      · exact .inl (.inr ⟨x, h1, h2⟩)
      · exact .inr (.inr ⟨x, h1, h2⟩)
  cases h1 : chk (madeL l) f t (dg d) <;> cases h2 : wantL l f t d <;> simp_all
end Go.Proofs.Ytoidiacofgmigaa
