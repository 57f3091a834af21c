/-
  Two books of the code and the document's book, carried side by side; 'N': blocks that none of them touches.
-/
import Derived.Test.YtcidliakmlolmaaRefBC
namespace Go.Proofs.Ytcidliakmlolmaa
open Go.RowKit Go.Maps
set_option linter.unusedVariables false

theorem Out.wider {S S' : Nat → Prop} {a b : World} (h : Out S a b) (hs : ∀ i, i < a.heap.size → S i → S' i) : Out S' a b := ⟨h.os, h.tape, h.output, h.size, fun i hi hn => h.block i hi fun e => hn (hs i hi e)⟩

abbrev Bk3 := List (List UInt8) × Bool × Nat
def Apart3 (Sa So Sr N : Nat → Prop) : Prop := ∀ i, (Sa i → ¬ So i ∧ ¬ Sr i ∧ ¬ N i) ∧ (So i → ¬ Sr i ∧ ¬ N i) ∧ (Sr i → ¬ N i)
structure TriAt (w wr : World) (ga go gr : Nat) (sa so : Bk3) (L : List (List UInt8)) (k : Nat) (N Sa So Sr : Nat → Prop) (v : Value) : Prop where
  above : ∀ i, Sa i ∨ So i ∨ Sr i ∨ N i → w.heap.size ≤ i
  apart : Apart3 Sa So Sr N
  lt : ∀ i, N i → i < wr.heap.size
  a : BookAt wr Sa ga sa.1 sa.2.1 sa.2.2
  o : BookAt wr So go so.1 so.2.1 so.2.2
  r : RefBk wr Sr gr v L k
  bel : Below w.heap.size w wr
def Tri (w wr : World) (ga go gr : Nat) (sa so : Bk3) (L : List (List UInt8)) (k : Nat) (N : Nat → Prop) : Prop := ∃ Sa So Sr v, TriAt w wr ga go gr sa so L k N Sa So Sr v
/-- What is neither below nor among N may have turned. -/
def Rest (w : World) (N : Nat → Prop) (i : Nat) : Prop := w.heap.size ≤ i ∧ ¬ N i

section
variable {w wr w' : World} {ga go gr k : Nat} {sa so : Bk3} {L : List (List UInt8)} {N : Nat → Prop}
theorem Tri.bel (h : Tri w wr ga go gr sa so L k N) : Below w.heap.size w wr := by obtain ⟨_, _, _, _, h⟩ := h; exact h.bel
theorem Tri.lt (h : Tri w wr ga go gr sa so L k N) {i : Nat} (hi : N i) : i < wr.heap.size := by obtain ⟨_, _, _, _, h⟩ := h; exact h.lt i hi
theorem Tri.below (h : Tri w wr ga go gr sa so L k N) (hb : Below wr.heap.size wr w') : Tri w w' ga go gr sa so L k N := by
  obtain ⟨Sa, So, Sr, v, h⟩ := h
  exact ⟨Sa, So, Sr, v, h.above, h.apart, fun i hi => Nat.lt_of_lt_of_le (h.lt i hi) hb.size, h.a.below hb, h.o.below hb, h.r.below hb, h.bel.trans (hb.mono h.bel.size)⟩
theorem Tri.grow (h : Tri w wr ga go gr sa so L k N) (hb : Below wr.heap.size wr w') : Tri w w' ga go gr sa so L k (fun i => N i ∨ wr.heap.size ≤ i ∧ i < w'.heap.size) := by
  obtain ⟨Sa, So, Sr, v, h⟩ := h
  refine ⟨Sa, So, Sr, v, fun i hi => ?_, fun i => ⟨fun e => ⟨((h.apart i).1 e).1, ((h.apart i).1 e).2.1, fun q => ?_⟩, fun e => ⟨((h.apart i).2.1 e).1, fun q => ?_⟩, fun e q => ?_⟩, fun i hi => ?_, h.a.below hb, h.o.below hb, h.r.below hb, h.bel.trans (hb.mono h.bel.size)⟩
  · rcases hi with hi | hi | hi | hi | hi
    · exact h.above i (.inl hi)
    · exact h.above i (.inr (.inl hi))
    · exact h.above i (.inr (.inr (.inl hi)))
    · exact h.above i (.inr (.inr (.inr hi)))
    · exact Nat.le_trans h.bel.size hi.1
  · rcases q with q | q
    · exact ((h.apart i).1 e).2.2 q
    · have := h.a.lt e; omega
  · rcases q with q | q
    · exact ((h.apart i).2.1 e).2 q
    · have := h.o.lt e; omega
  · rcases q with q | q
    · exact (h.apart i).2.2 e q
    · have := h.r.lt i e; omega
  · rcases hi with hi | hi
    · exact Nat.lt_of_lt_of_le (h.lt i hi) hb.size
    · exact hi.2
theorem Tri.less (h : Tri w wr ga go gr sa so L k N) : Tri w wr ga go gr sa so L k (fun _ => False) := by
  obtain ⟨Sa, So, Sr, v, h⟩ := h
  exact ⟨Sa, So, Sr, v, fun i hi => by
    rcases hi with hi | hi | hi | hi
    · exact h.above i (.inl hi)
    · exact h.above i (.inr (.inl hi))
    · exact h.above i (.inr (.inr (.inl hi)))
    · exact hi.elim, fun i => ⟨fun e => ⟨((h.apart i).1 e).1, ((h.apart i).1 e).2.1, id⟩, fun e => ⟨((h.apart i).2.1 e).1, id⟩, fun _ => id⟩, fun i hi => hi.elim, h.a, h.o, h.r, h.bel⟩
theorem Tri.set (h : Tri w wr ga go gr sa so L k N) {p : Addr} (hp : N p.block) (u : Value) : Tri w (wr.setCell p u) ga go gr sa so L k N := by
  obtain ⟨Sa, So, Sr, v, h⟩ := h
  have hs : (wr.setCell p u).heap.size = wr.heap.size := by simp [World.setCell]
  have hk : ∀ i, i ≠ p.block → (wr.setCell p u).heap[i]? = wr.heap[i]? := fun i hi => Below.heap_setCell wr p u i hi
  exact ⟨Sa, So, Sr, v, h.above, h.apart, fun i hi => by rw [hs]; exact h.lt i hi, h.a.stay (by omega) fun i hi => hk i fun e => ((h.apart i).1 hi).2.2 (e ▸ hp), h.o.stay (by omega) fun i hi => hk i fun e => ((h.apart i).2.1 hi).2 (e ▸ hp),
    h.r.stay (by omega) fun i hi => hk i fun e => (h.apart i).2.2 hi (e ▸ hp), h.bel.setCell (h.above _ (.inr (.inr (.inr hp)))) u⟩

theorem tri_a (h : Tri w wr ga go gr sa so L k N) (hL : sa.1.length < 1000000) (hk : sa.2.2 < 1000000) {A : Option Addr} {n cp : Nat} {x : List UInt8} (hB : Bs wr A x) (hn : x.length = n) (hc : n ≤ cp) (hcm : cp ≤ maxLen) :
    Calls Try.prog 6 #[.pointer (some ⟨ga, 0, none⟩), .slice A n cp] wr fun e w' => e = .returned (.tuple #[.agg (cbs (ofD x)).toArray, .int .i64 (ofE x)]) ∧ Tri w w' ga go gr (stepL sa x) so L k N ∧ Out (Rest w N) wr w' := by
  obtain ⟨Sa, So, Sr, v, h⟩ := h
  refine (bof_any Sa ga sa.1 sa.2.1 sa.2.2 A n cp x wr h.a hL hk hB hn hc hcm).mono ?_
  rintro e w' ⟨rfl, k1, k2⟩
  refine ⟨rfl, ⟨Grown Sa wr w', So, Sr, v, fun i hi => ?_, fun i => ⟨fun e => ?_, (h.apart i).2.1, (h.apart i).2.2⟩, fun i hi => Nat.lt_of_lt_of_le (h.lt i hi) k2.size, k1, h.o.stay k2.size fun i hi => k2.block i (h.o.lt hi) fun e => ((h.apart i).1 e).1 hi,
    h.r.stay k2.size fun i hi => k2.block i (h.r.lt i hi) fun e => ((h.apart i).1 e).2.1 hi, h.bel.trans (k2.above (fun i hi => h.above i (.inl hi)) h.bel.size)⟩, k2.wider fun i _ hi => ⟨h.above i (.inl hi), ((h.apart i).1 hi).2.2⟩⟩
  · rcases hi with (hi | hi) | hi
    · exact h.above i (.inl hi)
    · exact Nat.le_trans h.bel.size hi.1
    · exact h.above i (.inr hi)
  · rcases e with e | e
    · exact (h.apart i).1 e
    · exact ⟨fun q => by have := h.o.lt q; omega, fun q => by have := h.r.lt i q; omega, fun q => by have := h.lt i q; omega⟩
theorem tri_o (h : Tri w wr ga go gr sa so L k N) (hL : so.1.length < 1000000) (hk : so.2.2 < 1000000) {A : Option Addr} {n cp : Nat} {x : List UInt8} (hB : Bs wr A x) (hn : x.length = n) (hc : n ≤ cp) (hcm : cp ≤ maxLen) :
    Calls Try.prog 6 #[.pointer (some ⟨go, 0, none⟩), .slice A n cp] wr fun e w' => e = .returned (.tuple #[.agg (cbs (ofD x)).toArray, .int .i64 (ofE x)]) ∧ Tri w w' ga go gr sa (stepL so x) L k N ∧ Out (Rest w N) wr w' := by
  obtain ⟨Sa, So, Sr, v, h⟩ := h
  refine (bof_any So go so.1 so.2.1 so.2.2 A n cp x wr h.o hL hk hB hn hc hcm).mono ?_
  rintro e w' ⟨rfl, k1, k2⟩
  refine ⟨rfl, ⟨Sa, Grown So wr w', Sr, v, fun i hi => ?_, fun i => ⟨fun e => ⟨fun q => ?_, ((h.apart i).1 e).2.1, ((h.apart i).1 e).2.2⟩, fun e => ?_, (h.apart i).2.2⟩, fun i hi => Nat.lt_of_lt_of_le (h.lt i hi) k2.size, h.a.stay k2.size fun i hi => k2.block i (h.a.lt hi) fun e => ((h.apart i).1 hi).1 e, k1,
    h.r.stay k2.size fun i hi => k2.block i (h.r.lt i hi) fun e => ((h.apart i).2.1 e).1 hi, h.bel.trans (k2.above (fun i hi => h.above i (.inr (.inl hi))) h.bel.size)⟩, k2.wider fun i _ hi => ⟨h.above i (.inr (.inl hi)), ((h.apart i).2.1 hi).2⟩⟩
  · rcases hi with hi | (hi | hi) | hi
    · exact h.above i (.inl hi)
    · exact h.above i (.inr (.inl hi))
    · exact Nat.le_trans h.bel.size hi.1
    · exact h.above i (.inr (.inr hi))
  · rcases q with q | q
    · exact ((h.apart i).1 e).1 q
    · have := h.a.lt e; omega
  · rcases e with e | e
    · exact (h.apart i).2.1 e
    · exact ⟨fun q => by have := h.r.lt i q; omega, fun q => by have := h.lt i q; omega⟩
theorem tri_r (h : Tri w wr ga go gr sa so L k N) (hL : L.length < 1000000) (hk : k < 1000000) {A : Option Addr} {n cp : Nat} {x : List UInt8} (hB : Bs w A x) (hn : x.length = n) (hc : n ≤ cp) (hcm : cp ≤ maxLen) :
    Calls Try.prog 8 #[.pointer (some ⟨gr, 0, none⟩), .slice A n cp] wr fun e w' => e = .returned (.tuple #[.agg (cbs (ofD x)).toArray, .int .i64 (ofE x)]) ∧ Tri w w' ga go gr sa so (rofL L k x).1 (rofL L k x).2 N ∧ Out (Rest w N) wr w' := by
  obtain ⟨Sa, So, Sr, v, h⟩ := h
  refine (rof_any Sr gr v L k A n cp x wr h.r hL hk (hB.after h.bel) (Bs.off hB fun i hi => h.above i (.inr (.inr (.inl hi)))) hn hc hcm).mono ?_
  rintro e w' ⟨rfl, v', k1, k2⟩
  refine ⟨rfl, ⟨Sa, So, Grown Sr wr w', v', fun i hi => ?_, fun i => ⟨fun e => ⟨((h.apart i).1 e).1, fun q => ?_, ((h.apart i).1 e).2.2⟩, fun e => ⟨fun q => ?_, ((h.apart i).2.1 e).2⟩, fun e q => ?_⟩, fun i hi => Nat.lt_of_lt_of_le (h.lt i hi) k2.size, h.a.stay k2.size fun i hi => k2.block i (h.a.lt hi) fun e => ((h.apart i).1 hi).2.1 e,
    h.o.stay k2.size fun i hi => k2.block i (h.o.lt hi) fun e => ((h.apart i).2.1 hi).1 e, k1, h.bel.trans (k2.above (fun i hi => h.above i (.inr (.inr (.inl hi)))) h.bel.size)⟩, k2.wider fun i _ hi => ⟨h.above i (.inr (.inr (.inl hi))), (h.apart i).2.2 hi⟩⟩
  · rcases hi with hi | hi | (hi | hi) | hi
    · exact h.above i (.inl hi)
    · exact h.above i (.inr (.inl hi))
    · exact h.above i (.inr (.inr (.inl hi)))
    · exact Nat.le_trans h.bel.size hi.1
    · exact h.above i (.inr (.inr (.inr hi)))
  · rcases q with q | q
    · exact ((h.apart i).1 e).2.1 q
    · have := h.a.lt e; omega
  · rcases q with q | q
    · exact ((h.apart i).2.1 e).1 q
    · have := h.o.lt e; omega
  · rcases e with e | e
    · exact (h.apart i).2.2 e q
    · have := h.lt i q; omega
theorem tri_len (h : Tri w wr ga go gr sa so L k N) : Calls Try.prog 10 #[.pointer (some ⟨ga, 0, none⟩)] wr fun e w' => e = .returned (.int .i64 (sa.1.length : Int)) ∧ w' = wr := by
  obtain ⟨_, _, _, _, h⟩ := h
  obtain ⟨m, hb⟩ := h.a.blk
  exact blen_any ga m _ _ _ wr hb
theorem tri_asked (h : Tri w wr ga go gr sa so L k N) (hk : sa.2.2 < 1000000000) : Calls Try.prog 12 #[.pointer (some ⟨ga, 0, none⟩)] wr fun e w' => e = .returned (.int .i64 (sa.2.2 : Int)) ∧ w' = wr := by
  obtain ⟨_, _, _, _, h⟩ := h
  exact basked_any _ ga _ _ _ wr h.a hk
theorem tri_clash (h : Tri w wr ga go gr sa so L k N) : Calls Try.prog 14 #[.pointer (some ⟨ga, 0, none⟩)] wr fun e w' => e = .returned (.bool sa.2.1) ∧ w' = wr := by
  obtain ⟨_, _, _, _, h⟩ := h
  obtain ⟨m, hb⟩ := h.a.blk
  exact bclash_any ga m _ _ _ wr hb
theorem tri_rlen (h : Tri w wr ga go gr sa so L k N) : Calls Try.prog 11 #[.pointer (some ⟨gr, 0, none⟩)] wr fun e w' => e = .returned (.int .i64 (L.length : Int)) ∧ w' = wr := by
  obtain ⟨_, _, _, _, h⟩ := h
  exact rblen_any h.r
theorem tri_rasked (h : Tri w wr ga go gr sa so L k N) : Calls Try.prog 13 #[.pointer (some ⟨gr, 0, none⟩)] wr fun e w' => e = .returned (.int .i64 (k : Int)) ∧ w' = wr := by
  obtain ⟨_, _, _, _, h⟩ := h
  exact rbasked_any h.r
theorem tri_rclash (h : Tri w wr ga go gr sa so L k N) (hL : L.length < 1000000) (h6 : ∀ x ∈ L, x.length ≤ 65536) (c : Bool) (hc : c = true ↔ Clashed L) : Calls Try.prog 15 #[.pointer (some ⟨gr, 0, none⟩)] wr fun e w' => e = .returned (.bool c) ∧ Below wr.heap.size wr w' := by
  obtain ⟨_, _, _, _, h⟩ := h
  exact rclash_any h.r hL h6 c hc
end

theorem tri_new {w w1 w2 w3 : World} {Sa So : Nat → Prop} {ga go gr : Nat} (ha : ∀ i, Sa i → w.heap.size ≤ i) (ka : BookAt w1 Sa ga [] false 0) (b1 : Below w.heap.size w w1) (kr : RefBk w2 (fun i => i = gr) gr nilS [] 0) (hr : gr = w1.heap.size) (b2 : Below w1.heap.size w1 w2)
    (ho : ∀ i, So i → w2.heap.size ≤ i) (ko : BookAt w3 So go [] false 0) (b3 : Below w2.heap.size w2 w3) : Tri w w3 ga go gr (runL []) ([], false, 0) [] 0 (fun _ => False) := by
  have s1 := b1.size
  have s2 := b2.size
  have l2 : gr < w2.heap.size := kr.lt gr rfl
  refine ⟨Sa, So, fun i => i = gr, nilS, fun i hi => ?_, fun i => ⟨fun e => ⟨fun q => ?_, fun q => ?_, id⟩, fun e => ⟨fun q => ?_, id⟩, fun _ => id⟩, fun i hi => hi.elim, (ka.below b2).below b3, ko, kr.below b3, (b1.trans (b2.mono s1)).trans (b3.mono (by omega))⟩
  · rcases hi with hi | hi | hi | hi
    · exact ha i hi
    · have := ho i hi; omega
    · have hi' : i = gr := hi; omega
    · exact hi.elim
  · have := ka.lt e; have := ho i q; omega
  · have := ka.lt e; have hq : i = gr := q; omega
  · have := ho i e; have hq : i = gr := q; omega

/-! ### What the document's book has is what the code's has -/
theorem rof_step (s : Bk3) (x : List UInt8) : rofL s.1 s.2.2 x = ((stepL s x).1, (stepL s x).2.2) := by
  unfold rofL stepL ofL noteL
  by_cases hl : x.length ≤ 65536
  · rw [if_pos hl, if_pos hl]
    by_cases hx : x ∈ s.1
    · rw [if_pos hx, if_pos hx]
    · rw [if_neg hx, if_neg hx]
  · rw [if_neg hl, if_neg hl]
theorem clashed_snoc (L : List (List UInt8)) (x : List UInt8) : Clashed (L ++ [x]) ↔ Clashed L ∨ digest x = List.replicate 32 0 ∨ ∃ y ∈ L, digest x = digest y := by
  constructor
  · rintro ⟨i, hi, h⟩
    by_cases hlt : i < L.length
    · rw [List.getElem_append_left hlt] at h
      rcases h with h | ⟨k, hk, h⟩
      · exact .inl ⟨i, hlt, .inl h⟩
      · rw [List.getElem_append_left (by omega)] at h
        exact .inl ⟨i, hlt, .inr ⟨k, hk, h⟩⟩
    · have hie : i = L.length := by simp at hi; omega
      subst hie
      rw [List.getElem_append_right (Nat.le_refl _)] at h
      simp only [Nat.sub_self, List.getElem_cons_zero] at h
      rcases h with h | ⟨k, hk, h⟩
      · exact .inr (.inl h)
      · rw [List.getElem_append_left hk] at h
        exact .inr (.inr ⟨_, List.getElem_mem hk, h⟩)
  · rintro (⟨i, hi, h⟩ | h | ⟨y, hy, h⟩)
    · refine ⟨i, by simp; omega, ?_⟩
      rw [List.getElem_append_left hi]
      rcases h with h | ⟨k, hk, h⟩
      · exact .inl h
      · exact .inr ⟨k, hk, by rw [List.getElem_append_left (by omega)]; exact h⟩
    · exact ⟨L.length, by simp, .inl (by rw [List.getElem_append_right (Nat.le_refl _)]; simpa using h)⟩
    · obtain ⟨k, hk, rfl⟩ := List.getElem_of_mem hy
      exact ⟨L.length, by simp, .inr ⟨k, hk, by rw [List.getElem_append_right (Nat.le_refl _), List.getElem_append_left hk]; simpa using h⟩⟩
theorem clash_said (ls : List (List UInt8)) : (runL ls).2.1 = true ↔ Clashed (runL ls).1 := by
  refine snoc_ind (P := fun ls => (runL ls).2.1 = true ↔ Clashed (runL ls).1) ?_ (fun ls x ih => ?_) ls
  · constructor
    · intro h; cases h
    · rintro ⟨i, hi, _⟩; exact absurd hi (Nat.not_lt_zero _)
  · rw [runL_snoc]
    generalize runL ls = s at ih ⊢
    unfold stepL ofL noteL
    by_cases hl : x.length ≤ 65536
    · rw [if_pos hl]
      by_cases hx : x ∈ s.1
      · rw [if_pos hx]; exact ih
      · rw [if_neg hx]
        simp only [Bool.or_eq_true, decide_eq_true_eq, beq_iff_eq]
        rw [clashed_snoc, ih]
        have : grp (digest x) s.1 ≠ [] ↔ ∃ y ∈ s.1, digest x = digest y := by
          unfold grp
          constructor
          · intro h
            obtain ⟨y, hy⟩ := List.exists_mem_of_ne_nil _ h
            rw [List.mem_filter] at hy
            exact ⟨y, hy.1, (beq_iff_eq.1 hy.2).symm⟩
          · rintro ⟨y, hy, he⟩ e
            have : y ∈ s.1.filter fun z => digest z == digest x := by rw [List.mem_filter]; exact ⟨hy, beq_iff_eq.2 he.symm⟩
            rw [e] at this; cases this
        rw [this]
        constructor
        · rintro ((h | h) | h)
          · exact .inl h
          · exact .inr (.inr h)
          · exact .inr (.inl h)
        · rintro (h | h | h)
          · exact .inl (.inl h)
          · exact .inr h
          · exact .inl (.inr h)
    · rw [if_neg hl]; exact ih
theorem run_short (ls : List (List UInt8)) : ∀ x ∈ (runL ls).1, x.length ≤ 65536 := fun x hx => ((runL_mem ls x).1 hx).2
end Go.Proofs.Ytcidliakmlolmaa
