/-
  The code's plate and the document's plate, carried side by side over one set of blocks that may turn.
-/
import Derived.Test.YtmcbjcopipafdaaRelP
import Derived.Test.YtmcbjcopipafdaaFree
import Derived.Test.YtmcbjcopipafdaaArgs
import Derived.Test.YtmcbjcopipafdaaHelp
namespace Go.Proofs.Ytmcbjcopipafdaa
open Go.RowKit Go.Maps
set_option linter.unusedVariables false

section
variable {w0 w w' : World} {M M' : Nat → Prop} {g r m gr rs rn rw : Nat} {P P' : Pl} {R R' : Rm}
theorem BOff.grow {A : Option Addr} {l : List UInt8} (h : BOff w M A l) (hb : Below w.heap.size w w') (hN : ∀ i, M' i → M i ∨ (w.heap.size ≤ i ∧ i < w'.heap.size)) : BOff w' M' A l := fun hl => by
  obtain ⟨b, off, e, hlt, hM, hc⟩ := h hl
  refine ⟨b, off, e, Nat.lt_of_lt_of_le hlt hb.size, fun hm => ?_, fun j u hu => (hb.cell (p := ⟨b, off + j, none⟩) hlt).trans (hc j u hu)⟩
  rcases hN b hm with hm | hm
  · exact hM hm
  · omega
theorem BOff.less {A : Option Addr} {l : List UInt8} (h : BOff w M' A l) (hM : ∀ i, M i → M' i) : BOff w M A l := fun hl => by
  obtain ⟨b, off, e, hlt, hm, hc⟩ := h hl
  exact ⟨b, off, e, hlt, fun hx => hm (hM b hx), hc⟩
theorem KOff.less {v : Value} {l : List Bool} (h : KOff w M' v l) (hM : ∀ i, M i → M' i) : KOff w M v l := by
  obtain ⟨A, c, e, a1, a2, a3⟩ := h
  refine ⟨A, c, e, a1, a2, fun hl => ?_⟩
  obtain ⟨b, off, eA, hlt, hm, hc⟩ := a3 hl
  exact ⟨b, off, eA, hlt, fun hx => hm (hM b hx), hc⟩
theorem KOff.grow {v : Value} {l : List Bool} (h : KOff w M v l) (hb : Below w.heap.size w w') (hN : ∀ i, M' i → M i ∨ (w.heap.size ≤ i ∧ i < w'.heap.size)) : KOff w' M' v l := by
  obtain ⟨A, c, e, a1, a2, a3⟩ := h
  refine ⟨A, c, e, a1, a2, fun hl => ?_⟩
  obtain ⟨b, off, eA, hlt, hm, hc⟩ := a3 hl
  refine ⟨b, off, eA, Nat.lt_of_lt_of_le hlt hb.size, fun hx => ?_, fun j u hu => (hb.cell (p := ⟨b, off + j, none⟩) hlt).trans (hc j u hu)⟩
  rcases hN b hx with hx | hx
  · exact hm hx
  · omega
theorem RowB.over {b : Nat} {L : List (List UInt8)} (h : RowB w M b L) (hw : w'.heap[b]? = w.heap[b]?) (hf : ∀ A l, BOff w M A l → BOff w' M' A l) : RowB w' M' b L := by
  obtain ⟨cur, h1, h2⟩ := h
  exact ⟨cur, hw.trans h1, fun i hi => let ⟨A, c, q1, q2, q3, q4, q5⟩ := h2 i hi; ⟨A, c, q1, q2, q3, hf _ _ q4, q5⟩⟩
theorem RefM.grow (h : RefM w M gr rs rn rw R) (hb : Below w.heap.size w w') (hM : ∀ i, M i → M' i) (hN : ∀ i, M' i → M i ∨ (w.heap.size ≤ i ∧ i < w'.heap.size)) : RefM w' M' gr rs rn rw R := by
  have h' := h.below hb
  obtain ⟨cs, cn, cw, kv, a1, a2, a3, a4, a5, a6, hk, hko⟩ := h.blk
  exact ⟨h.lv, h.lb, h.n1, h.n2, h.lw, ⟨cs, cn, cw, kv, a1, a2, a3, a4, a5, a6, hk.below hb hk.lt, hko.grow hb hN⟩, h.rowS.over (hb.block rs h.rowS.lt) fun _ _ q => q.grow hb hN, h.rowV.over (hb.block rn h.rowV.lt) fun _ _ q => q.grow hb hN, h'.rowW, h.ne, hM _ h.mg, hM _ h.ms, hM _ h.mn, hM _ h.mw, fun i hi => by
    rcases hN i hi with hi | hi
    · exact Nat.lt_of_lt_of_le (h.lt i hi) hb.size
    · exact hi.2⟩
theorem RefM.shrink (h : RefM w M' gr rs rn rw R) (hM : ∀ i, M i → M' i) (hg : ∀ i, G4 gr rs rn rw i → M i) : RefM w M gr rs rn rw R := by
  obtain ⟨cs, cn, cw, kv, a1, a2, a3, a4, a5, a6, hk, hko⟩ := h.blk
  exact ⟨h.lv, h.lb, h.n1, h.n2, h.lw, ⟨cs, cn, cw, kv, a1, a2, a3, a4, a5, a6, hk, hko.less hM⟩, h.rowS.over rfl fun _ _ q => q.less hM, h.rowV.over rfl fun _ _ q => q.less hM, h.rowW, h.ne, hg _ (.inl rfl), hg _ (.inr (.inl rfl)), hg _ (.inr (.inr (.inl rfl))), hg _ (.inr (.inr (.inr rfl))), fun i hi => h.lt i (hM i hi)⟩

structure Duo (w0 w : World) (M : Nat → Prop) (g r m gr rs rn rw : Nat) (P : Pl) (R : Rm) : Prop where
  k : Pk w0 w M g r m P
  f : RefM w M gr rs rn rw R
  s : Same P R
  ap : ∀ i, GRM g r m i → ¬ G4 gr rs rn rw i
theorem Duo.below (h : Duo w0 w M g r m gr rs rn rw P R) (hb : Below w.heap.size w w') : Duo w0 w' M g r m gr rs rn rw P R := ⟨h.k.below hb, h.f.below hb, h.s, h.ap⟩
theorem Duo.grow (h : Duo w0 w M g r m gr rs rn rw P R) (hb : Below w.heap.size w w') (hM : ∀ i, M i → M' i) (hN : ∀ i, M' i → M i ∨ (w.heap.size ≤ i ∧ i < w'.heap.size)) : Duo w0 w' M' g r m gr rs rn rw P R :=
  ⟨h.k.grow hb hM hN, h.f.grow hb hM hN, h.s, h.ap⟩
theorem Duo.shrink (h : Duo w0 w M' g r m gr rs rn rw P R) (hM : ∀ i, M i → M' i) (hg : ∀ i, GRM g r m i → M i) (hr : ∀ i, G4 gr rs rn rw i → M i) : Duo w0 w M g r m gr rs rn rw P R := ⟨h.k.shrink hM hg, h.f.shrink hM hr, h.s, h.ap⟩
/-- A local turns. -/
theorem Duo.set (h : Duo w0 w M g r m gr rs rn rw P R) {p : Addr} (hp : M p.block) (hg : ¬ GRM g r m p.block) (hr : ¬ G4 gr rs rn rw p.block) (u : Value) : Duo w0 (w.setCell p u) M g r m gr rs rn rw P R := by
  have ho : Out (fun i => i = p.block) w (w.setCell p u) := (Out.refl (fun i => i = p.block) w).setCell (fun _ => rfl) u
  have hS : ∀ i, i = p.block → M i := fun i e => by rw [e]; exact hp
  exact ⟨h.k.out ho hS (fun e => hg (e ▸ .inl rfl)) (fun e => hg (e ▸ .inr (.inl rfl))) (fun e => hg (e ▸ .inr (.inr rfl))),
    h.f.out ho hS (fun e => hr (e ▸ .inl rfl)) (fun e => hr (e ▸ .inr (.inl rfl))) (fun e => hr (e ▸ .inr (.inr (.inl rfl)))) (fun e => hr (e ▸ .inr (.inr (.inr rfl)))), h.s, h.ap⟩
/-- The code's plate turned: the document's is as it was. -/
theorem RefM.aside (h : RefM w M gr rs rn rw R) (ho : Out (GRM g r m) w w') (hM : ∀ i, GRM g r m i → M i) (hap : ∀ i, GRM g r m i → ¬ G4 gr rs rn rw i) : RefM w' M gr rs rn rw R :=
  h.out ho hM (fun e => hap _ e (.inl rfl)) (fun e => hap _ e (.inr (.inl rfl))) (fun e => hap _ e (.inr (.inr (.inl rfl)))) (fun e => hap _ e (.inr (.inr (.inr rfl))))
/-- The document's plate turned: the code's is as it was. -/
theorem Pk.aside (h : Pk w0 w M g r m P) (ho : Out (G4 gr rs rn rw) w w') (hM : ∀ i, G4 gr rs rn rw i → M i) (hap : ∀ i, GRM g r m i → ¬ G4 gr rs rn rw i) : Pk w0 w' M g r m P :=
  h.out ho hM (fun e => hap _ (.inl rfl) e) (fun e => hap _ (.inr (.inl rfl)) e) (fun e => hap _ (.inr (.inr rfl)) e)
end
end Go.Proofs.Ytmcbjcopipafdaa
