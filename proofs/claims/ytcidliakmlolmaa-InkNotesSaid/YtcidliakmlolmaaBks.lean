/-
  A book that a statement has made, and its own digests beside it.
-/
import Derived.Test.YtcidliakmlolmaaPure3
namespace Go.Proofs.Ytcidliakmlolmaa
open Go.RowKit Go.Maps
set_option linter.unusedVariables false

def BkS (w wr : World) (g : Nat) (s : List (List UInt8) × Bool × Nat) (ds : List (Nat × List Value)) : Prop :=
  ∃ S : Nat → Prop, (∀ i, S i → w.heap.size ≤ i) ∧ BookAt wr S g s.1 s.2.1 s.2.2 ∧ Below w.heap.size w wr ∧ ∀ d ∈ ds, Blk wr d.1 28 d.2 ∧ ¬ S d.1

section
variable {w wr w' : World} {g : Nat} {s : List (List UInt8) × Bool × Nat} {ds : List (Nat × List Value)}
theorem BkS.bel (h : BkS w wr g s ds) : Below w.heap.size w wr := by obtain ⟨_, _, _, h, _⟩ := h; exact h
theorem BkS.dig (h : BkS w wr g s ds) {d : Nat × List Value} (hd : d ∈ ds) : Blk wr d.1 28 d.2 := by obtain ⟨_, _, _, _, h⟩ := h; exact (h d hd).1
theorem BkS.blk (h : BkS w wr g s ds) : ∃ m, Blk wr g 45 (bcells m s.1.length s.2.1 s.2.2) := by obtain ⟨_, _, h, _⟩ := h; exact h.blk
theorem BkS.below (h : BkS w wr g s ds) (hb : Below wr.heap.size wr w') : BkS w w' g s ds := by
  obtain ⟨S, h1, h2, h3, h4⟩ := h
  exact ⟨S, h1, h2.below hb, h3.trans (hb.mono h3.size), fun d hd => ⟨(h4 d hd).1.below hb (h4 d hd).1.lt, (h4 d hd).2⟩⟩
theorem BkS.newD (h : BkS w wr g s ds) (hb : Below wr.heap.size wr w') {D : List Value} (hD : Blk w' wr.heap.size 28 D) : BkS w w' g s ((wr.heap.size, D) :: ds) := by
  obtain ⟨S, h1, h2, h3, h4⟩ := h
  refine ⟨S, h1, h2.below hb, h3.trans (hb.mono h3.size), fun d hd => ?_⟩
  rcases List.mem_cons.1 hd with rfl | hd
  · exact ⟨hD, fun e => by have := h2.lt e; simp at this⟩
  · exact ⟨(h4 d hd).1.below hb (h4 d hd).1.lt, (h4 d hd).2⟩
theorem bks_of (h : BkS w wr g s ds) (hL : s.1.length < 1000000) (hk : s.2.2 < 1000000) (A : Option Addr) (n cp : Nat) (x : List UInt8) (hB : Bs w A x) (hn : x.length = n) (hc : n ≤ cp) (hcm : cp ≤ maxLen) :
    Calls Try.prog 6 #[.pointer (some ⟨g, 0, none⟩), .slice A n cp] wr fun e w' => e = .returned (.tuple #[.agg (cbs (ofD x)).toArray, .int .i64 (ofE x)]) ∧ BkS w w' g (stepL s x) ds := by
  obtain ⟨S, h1, h2, h3, h4⟩ := h
  refine (bof_any S g s.1 s.2.1 s.2.2 A n cp x wr h2 hL hk (hB.after h3) hn hc hcm).mono ?_
  rintro e w' ⟨rfl, k1, k2⟩
  refine ⟨rfl, _, fun i hi => ?_, k1, h3.trans (k2.above h1 h3.size), fun d hd => ⟨k2.blk (h4 d hd).1 (h4 d hd).2, fun e => ?_⟩⟩
  · rcases hi with hi | hi
    · exact h1 i hi
    · exact Nat.le_trans h3.size hi.1
  · rcases e with e | e
    · exact (h4 d hd).2 e
    · have := (h4 d hd).1.lt; omega
theorem bks_noted (h : BkS w wr g s ds) (hL : s.1.length < 1000000) (hk : s.2.2 < 1000000) (A : Option Addr) (n cp : Nat) (x : List UInt8) (hB : Bs w A x) (hn : x.length = n) (hc : n ≤ cp) (hcm : cp ≤ maxLen) :
    Calls Try.prog 23 #[.pointer (some ⟨g, 0, none⟩), .slice A n cp] wr fun e w' => e = .returned (.bool (decide (x.length ≤ 65536))) ∧ BkS w w' g (stepL s x) ds := by
  obtain ⟨S, h1, h2, h3, h4⟩ := h
  refine (noted_any S g s.1 s.2.1 s.2.2 A n cp x wr h2 (OffS.mono (Bs.off hB h1) fun i a _ _ _ hi => hi) hL hk (hB.after h3) hn hc hcm).mono ?_
  rintro e w' ⟨rfl, k1, k2⟩
  refine ⟨rfl, _, fun i hi => ?_, k1, h3.trans (k2.above h1 h3.size), fun d hd => ⟨k2.blk (h4 d hd).1 (h4 d hd).2, fun e => ?_⟩⟩
  · rcases hi with hi | hi
    · exact h1 i hi
    · exact Nat.le_trans h3.size hi.1
  · rcases e with e | e
    · exact (h4 d hd).2 e
    · have := (h4 d hd).1.lt; omega
theorem bks_len (h : BkS w wr g s ds) : Calls Try.prog 10 #[.pointer (some ⟨g, 0, none⟩)] wr fun e w' => e = .returned (.int .i64 (s.1.length : Int)) ∧ w' = wr := by
  obtain ⟨m, hb⟩ := h.blk
  exact blen_any g m _ _ _ wr hb
theorem bks_clash (h : BkS w wr g s ds) : Calls Try.prog 14 #[.pointer (some ⟨g, 0, none⟩)] wr fun e w' => e = .returned (.bool s.2.1) ∧ w' = wr := by
  obtain ⟨m, hb⟩ := h.blk
  exact bclash_any g m _ _ _ wr hb
theorem bks_asked (h : BkS w wr g s ds) (hk : s.2.2 < 1000000000) : Calls Try.prog 12 #[.pointer (some ⟨g, 0, none⟩)] wr fun e w' => e = .returned (.int .i64 (s.2.2 : Int)) ∧ w' = wr := by
  obtain ⟨S, _, h2, _⟩ := h
  exact basked_any S g _ _ _ wr h2 hk
theorem bks_new {w0 w1 : World} {S : Nat → Prop} (hb0 : Below w.heap.size w w0) (hS : ∀ i, S i → w0.heap.size ≤ i) (hk : BookAt w1 S g [] false 0) (hb : Below w0.heap.size w0 w1) : BkS w w1 g (runL []) [] :=
  ⟨S, fun i hi => Nat.le_trans hb0.size (hS i hi), hk, hb0.trans (hb.mono hb0.size), fun d hd => by cases hd⟩
end
end Go.Proofs.Ytcidliakmlolmaa
