/-
  The code's ledgers and the reference's one beside each other: none touches another's blocks.
-/
import Derived.Test.YtkmijmlcijbbcaaTagV
import Derived.Test.YtkmijmlcijbbcaaTagU
import Derived.Test.YtkmijmlcijbbcaaDeedsZ
namespace Go.Proofs.Ytkmijmlcijbbcaa
open Go.RowKit Go.Maps
set_option linter.unusedVariables false

section
variable {w0 w w' : World} {ga ma g k k' : Nat} {v : Value} {T T' : List Tg}
theorem RefAt.cells (h : RefAt w0 w g v T k) {i : Nat} (hi : RefS g v i) : ∃ cs t, w.heap[i]? = some (.cells cs t (0, 0)) ∧ (t = 53 ∨ t = 59) := by
  rcases hi with rfl | e
  · exact ⟨_, _, h.1, .inl rfl⟩
  · obtain ⟨_, ⟨_, ⟨e0, _⟩ | ⟨b, cap, cur, e0, _, hh, _⟩⟩, _⟩ := h
    · rw [e0] at e; simp [Value.ownBlock] at e
    · rw [e0] at e
      simp [Value.ownBlock] at e
      subst e
      exact ⟨_, _, hh, .inr rfl⟩
theorem RefAt.off (h : RefAt w0 w g v T k) {b : Nat} {t : TypeId} {cs : List Value} (hb : Blk w b t cs) (h1 : t ≠ 53) (h2 : t ≠ 59) : ¬ RefS g v b := fun e => by
  obtain ⟨cs', t', hc, ht⟩ := h.cells e
  unfold Blk at hb
  rw [hc] at hb
  injection hb with hb
  injection hb with _ hb
  subst hb
  rcases ht with rfl | rfl
  · exact h1 rfl
  · exact h2 rfl
theorem RefAt.offMap (h : RefAt w0 w g v T k) {m : Nat} (hm : Led w m T') : ¬ RefS g v m := fun e => by
  obtain ⟨cs', t', hc, _⟩ := h.cells e
  obtain ⟨D, ⟨es, clock, h1, _⟩, _⟩ := hm
  rw [h1] at hc
  cases hc
/-- A deed of the reference's ledger leaves the code's. -/
theorem Ku.ref (h : Ku w0 w ga ma T' k') (hr : RefAt w0 w g v T k) (ho : Out (RefS g v) w w') : Ku w0 w' ga ma T' k' :=
  ⟨h.1.out ho (hr.off h.1.1 (by decide) (by decide)) (hr.offMap h.1.2), h.2.1, h.2.2.1, h.2.2.2.trans (ho.above (fun i hi => by
    rcases hi with rfl | e
    · exact hr.2.2.2.1
    · exact (hr.2.1.lt i e).1) h.2.2.2.size)⟩
theorem ku_off (h : Ku w0 w ga ma T' k') {b : Nat} {t : TypeId} {fr : Nat × Nat} {cs : Array Value} (hb : w.heap[b]? = some (.cells cs t fr)) (ht : t ≠ 50) : ¬ GM ga ma b := fun e => by
  rcases e with rfl | rfl
  · have h1 := h.1.1
    unfold Blk at h1
    rw [h1] at hb
    injection hb with hb
    injection hb with _ hb
    exact ht hb.symm
  · obtain ⟨D, ⟨es, clock, h1, _⟩, _⟩ := h.1.2
    rw [h1] at hb
    cases hb
/-- A deed of the code's ledger leaves the reference's. -/
theorem RefAt.ku (h : RefAt w0 w g v T k) (hk : Ku w0 w ga ma T' k') (ho : Out (GM ga ma) w w') : RefAt w0 w' g v T k := by
  have hrow : ∀ b, v.ownBlock = some b → ¬ GM ga ma b := fun b e => by
    obtain ⟨cs, t, hc, ht⟩ := h.cells (.inr e)
    exact ku_off hk hc (by rcases ht with rfl | rfl <;> decide)
  refine ⟨ho.blk h.1 (ku_off hk h.1 (by decide)), row_kept h.2.1 (fun b e hl => ho.block b hl (hrow b e)), h.2.2.1, h.2.2.2.1, ?_⟩
  exact h.2.2.2.2.trans (ho.above (fun i hi => by
    rcases hi with rfl | rfl
    · exact hk.2.1
    · exact hk.2.2.1) h.2.2.2.2.size)
end
end Go.Proofs.Ytkmijmlcijbbcaa
