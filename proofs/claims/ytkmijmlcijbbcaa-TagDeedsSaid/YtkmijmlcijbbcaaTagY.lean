/-
  A copy of numbers beside the ledgers: neither touches the other's blocks.
-/
import Derived.Test.YtkmijmlcijbbcaaTagX
namespace Go.Proofs.Ytkmijmlcijbbcaa
open Go.RowKit Go.Maps
set_option linter.unusedVariables false

section
variable {w0 w w' : World} {ga ma g k k' B n : Nat} {v u : Value} {T T' : List Tg} {xs : List Value}
theorem row_typed (h : w.ownsRow B 3 1 u n xs) {b : Nat} (e : u.ownBlock = some b) : ∃ cs, w.heap[b]? = some (.cells cs 3 (0, 0)) := by
  obtain ⟨_, ⟨rfl, _⟩ | ⟨b', cap, cur, rfl, _, hh, _⟩⟩ := h
  · simp [Value.ownBlock] at e
  · simp [Value.ownBlock] at e
    subst e
    exact ⟨_, hh⟩
theorem row_ku (h : w.ownsRow B 3 1 u n xs) (hk : Ku w0 w ga ma T k) (ho : Out (GM ga ma) w w') : w'.ownsRow B 3 1 u n xs :=
  row_kept h fun b e hl => by
    obtain ⟨cs, hc⟩ := row_typed h e
    exact ho.block b hl (ku_off hk hc (by decide))
theorem row_ref (h : w.ownsRow B 3 1 u n xs) (hk : RefAt w0 w g v T k) (ho : Out (RefS g v) w w') : w'.ownsRow B 3 1 u n xs :=
  row_kept h fun b e hl => by
    obtain ⟨cs, hc⟩ := row_typed h e
    refine ho.block b hl fun e' => ?_
    obtain ⟨cs', t', hc', ht⟩ := hk.cells e'
    rw [hc] at hc'
    injection hc' with hc'
    injection hc' with _ hc'
    rcases ht with rfl | rfl <;> revert hc' <;> decide
theorem row_below (h : w.ownsRow B 3 1 u n xs) (hb : Below w.heap.size w w') : w'.ownsRow B 3 1 u n xs := row_kept h fun b _ hl => hb.block b hl
theorem Ku.far (h : Ku w0 w ga ma T k) {bv : Nat} {cs : Array Value} (hc : w.heap[bv]? = some (.cells cs 3 (0, 0))) (hb : w0.heap.size ≤ bv) (ho : Out (fun i => i = bv) w w') : Ku w0 w' ga ma T k := by
  have hno := ku_off h hc (by decide)
  refine ⟨h.1.out ho (fun e => hno (e ▸ .inl rfl)) (fun e => hno (e ▸ .inr rfl)), h.2.1, h.2.2.1, h.2.2.2.trans (ho.above (fun i e => by omega) h.2.2.2.size)⟩
theorem RefAt.far (h : RefAt w0 w g v T k) {bv : Nat} {cs : Array Value} (hc : w.heap[bv]? = some (.cells cs 3 (0, 0))) (hb : w0.heap.size ≤ bv) (ho : Out (fun i => i = bv) w w') : RefAt w0 w' g v T k := by
  have hno : ∀ b, RefS g v b → b ≠ bv := fun b e e2 => by
    subst e2
    obtain ⟨cs', t', hc', ht⟩ := h.cells e
    rw [hc] at hc'
    injection hc' with hc'
    injection hc' with _ hc'
    rcases ht with rfl | rfl <;> revert hc' <;> decide
  refine ⟨ho.blk h.1 (hno g (.inl rfl)), row_kept h.2.1 (fun b e hl => ho.block b hl (hno b (.inr e))), h.2.2.1, h.2.2.2.1, h.2.2.2.2.trans (ho.above (fun i e => by omega) h.2.2.2.2.size)⟩
theorem ArgI.ofRow {A : Option Addr} {c : Nat} {l : List Int} (h : w.ownsRow B 3 1 (.slice A n c) n (cis l)) (hn : l.length = n) (hw : ∀ x ∈ l, Wf x) : ArgI w A n c l := by
  subst hn
  obtain ⟨h1, h2⟩ := h
  have hh := h2
  rcases h2 with ⟨e, hx⟩ | ⟨b, cap, cur, e, _, _, hc, hm, _⟩
  · injection e with e1 e2 e3
    exact ⟨rfl, by omega, by rw [e3]; simp [maxLen], Shows.ofOwn ⟨h1, hh⟩, hw⟩
  · injection e with e1 e2 e3
    subst e3
    exact ⟨rfl, hc, hm, Shows.ofOwn ⟨h1, hh⟩, hw⟩
/-- One number stored into the copy. -/
theorem row_put {A : Option Addr} {c q : Nat} {ys : List Int} (h : w.ownsRow B 3 1 (.slice A n c) n (cis ys)) (hq : q < n) (x : Int) : ∃ bv cs, A = some ⟨bv, 0, none⟩ ∧ B ≤ bv ∧ w.heap[bv]? = some (.cells cs 3 (0, 0)) ∧
    (∃ y, w.cell? ⟨bv, q, none⟩ = some y) ∧ w.frozen? ⟨bv, q, none⟩ = false ∧ (w.setCell ⟨bv, q, none⟩ (ci x)).ownsRow B 3 1 (.slice A n c) n (cis (ys.set q x)) ∧ Out (fun i => i = bv) w (w.setCell ⟨bv, q, none⟩ (ci x)) := by
  have hl : (cis ys).length = n * 1 := h.1
  obtain ⟨h1, ⟨e, hx⟩ | ⟨bv, cap, cur, e, hB, hh, hcc, hmm, hcur, htk⟩⟩ := h
  · omega
  · injection e with e1 e2 e3
    subst e1; subst e3
    have hrow : w.ownsRow B 3 1 (.slice (some ⟨bv, 0, none⟩) n c) n (cis ys) := ⟨h1, .inr ⟨bv, c, cur, rfl, hB, hh, hcc, hmm, hcur, htk⟩⟩
    refine ⟨bv, cur, rfl, hB, hh, ⟨_, by rw [World.ownsRow.cellAt hrow q (by omega)]; exact List.getElem?_eq_getElem (by omega)⟩, frozen_of_row w bv q cur 3 hh, ?_, (Out.refl (fun i => i = bv) w).setCell (fun _ => rfl) _⟩
    have := (World.ownsRow.stored hrow q (ci x)).1
    unfold cis at this ⊢
    rw [List.map_set]
    exact this
end
end Go.Proofs.Ytkmijmlcijbbcaa
