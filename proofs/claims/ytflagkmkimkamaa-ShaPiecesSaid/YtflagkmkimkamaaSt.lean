/-
  Two hashes and digests that were laid beside them: what stands of all of these, carried along.
-/
import Derived.Test.YtflagkmkimkamaaCutN
import Derived.Test.YtflagkmkimkamaaApp
namespace Go.Proofs.Ytflagkmkimkamaa
open Go.RowKit
set_option linter.unusedVariables false

def St (w W : World) (g h : Nat) (lg lh : List UInt8) (L : List (Nat × List Value)) : Prop :=
  Hold W g lg ∧ Hold W h lh ∧ w.heap.size ≤ g ∧ w.heap.size ≤ h ∧ g ≠ h ∧ Below w.heap.size w W ∧ ∀ p ∈ L, Blk W p.1 31 p.2 ∧ p.1 ≠ g ∧ p.1 ≠ h
section
variable {w W W' : World} {g h : Nat} {lg lh l' : List UInt8} {L : List (Nat × List Value)}
theorem St.touched1 (s : St w W g h lg lh L) (hb : But g W W') (hH : Hold W' g l') : St w W' g h l' lh L := by
  obtain ⟨h1, h2, h3, h4, h5, h6, h7⟩ := s
  exact ⟨hH, h2.touched hb (fun e => h5 e.symm), h3, h4, h5, h6.trans (hb.above h3 h6.size), fun p hp => ⟨hb.blk (h7 p hp).1 (h7 p hp).2.1, (h7 p hp).2⟩⟩
theorem St.touched2 (s : St w W g h lg lh L) (hb : But h W W') (hH : Hold W' h l') : St w W' g h lg l' L := by
  obtain ⟨h1, h2, h3, h4, h5, h6, h7⟩ := s
  exact ⟨h1.touched hb h5, hH, h3, h4, h5, h6.trans (hb.above h4 h6.size), fun p hp => ⟨hb.blk (h7 p hp).1 (h7 p hp).2.2, (h7 p hp).2⟩⟩
theorem St.below (s : St w W g h lg lh L) (hb : Below W.heap.size W W') : St w W' g h lg lh L := by
  obtain ⟨h1, h2, h3, h4, h5, h6, h7⟩ := s
  exact ⟨h1.below hb, h2.below hb, h3, h4, h5, h6.trans (hb.mono h6.size), fun p hp => ⟨(h7 p hp).1.below hb (h7 p hp).1.lt, (h7 p hp).2⟩⟩
/-- Only a row made since 'A' is written. -/
theorem St.grown {A : World} {row : Option Nat} (s : St w W g h lg lh L) (hg : W.grownBy W' row) (hr : ∀ b, row = some b → A.heap.size ≤ b) (sA : St w A g h lg lh L) : St w W' g h lg lh L := by
  obtain ⟨h1, h2, h3, h4, h5, h6, h7⟩ := s
  have hA1 := sA.1.lt
  have hA2 := sA.2.1.lt
  have hA3 : ∀ p ∈ L, p.1 < A.heap.size := fun p hp => (sA.2.2.2.2.2.2 p hp).1.lt
  have hAw := sA.2.2.2.2.2.1.size
  have hblk : ∀ {k : Nat} {t : TypeId} {cs : List Value}, k < A.heap.size → Blk W k t cs → Blk W' k t cs := fun hk hb => (hg.block _ hb.lt (fun e => by have := hr _ e.symm; omega)).trans hb
  refine ⟨?_, ?_, h3, h4, h5, h6.grown hg h6.size (fun b e => by have := hr b e; omega), fun p hp => ⟨hblk (hA3 p hp) (h7 p hp).1, (h7 p hp).2⟩⟩
  · obtain ⟨rest, ⟨d, ks, hB, h8⟩, h9⟩ := h1
    exact ⟨rest, ⟨d, ks, hblk hA1 hB, h8⟩, h9⟩
  · obtain ⟨rest, ⟨d, ks, hB, h8⟩, h9⟩ := h2
    exact ⟨rest, ⟨d, ks, hblk hA2 hB, h8⟩, h9⟩
theorem Hold.news (hH : Hold W g lg) (D : List Value) : Hold ((W.alloc (.cells (cbs (List.replicate 32 0)).toArray 31)).setCells W.heap.size 0 D) g lg := by
  obtain ⟨rest, h1, h2⟩ := hH
  exact ⟨rest, (h1.alloc _).farAll (by have := h1.lt; omega) 0 D, h2⟩
theorem St.newBlk (s : St w W g h lg lh L) (D : List Value) (hD : D.length = 32) : St w ((W.alloc (.cells (cbs (List.replicate 32 0)).toArray 31)).setCells W.heap.size 0 D) g h lg lh ((W.heap.size, D) :: L) := by
  obtain ⟨h1, h2, h3, h4, h5, h6, h7⟩ := s
  have hg := h1.lt
  have hh := h2.lt
  have hZ : Blk (W.alloc (.cells (cbs (List.replicate 32 0)).toArray 31)) W.heap.size 31 (cbs (List.replicate 32 0)) := Blk.new rfl rfl
  refine ⟨h1.news D, h2.news D, h3, h4, h5, Below.setCells h6.size _ (h6.alloc h6.size _), fun p hp => ?_⟩
  rcases List.mem_cons.1 hp with rfl | hp
  · exact ⟨hZ.setAll (vs := D) (by rw [hD, cbs_length, List.length_replicate]), by show W.heap.size ≠ g; omega, by show W.heap.size ≠ h; omega⟩
  · exact ⟨Blk.farAll (by have := (h7 p hp).1.lt; omega) D ((h7 p hp).1.old _), (h7 p hp).2⟩
end
theorem new_there (W : World) (D : List Value) (hD : D.length = 32) : (W.alloc (.cells (cbs (List.replicate 32 0)).toArray 31)).there W.heap.size 0 D.toArray.size := by
  have hZ : Blk (W.alloc (.cells (cbs (List.replicate 32 0)).toArray 31)) W.heap.size 31 (cbs (List.replicate 32 0)) := Blk.new rfl rfl
  have e := hZ.there
  rw [cbs_length, List.length_replicate] at e
  have hsz : D.toArray.size = 32 := by rw [List.size_toArray]; exact hD
  rw [hsz]; exact e
theorem Mine.away_ {W : World} {base : Nat} {e : TypeId} {A : Option Addr} {n c h : Nat} {l : List UInt8} (hm : Mine W base e (.slice A n c) l) (hb : h < base) : Away A h l := by
  intro _ a ha
  subst ha
  obtain ⟨_, h2 | ⟨k, cap, cur, h3, h4, _⟩⟩ := hm
  · cases h2.1
  · cases h3
    show k ≠ h
    omega
end Go.Proofs.Ytflagkmkimkamaa
