/-
  What stays of two hashes and of own rows while other rows turn; a digest laid into a variable.
-/
import Derived.Test.YtflagkmkimkamaaSt
import Derived.Test.YtflagkmkimkamaaPieces
import Derived.Test.YtflagkmkimkamaaApi
namespace Go.Proofs.Ytflagkmkimkamaa
open Go.RowKit
set_option linter.unusedVariables false

section
variable {w W W' : World} {g h : Nat} {lg lh l : List UInt8} {base : Nat} {e : TypeId} {v : Value} {row : Option Nat}
theorem Mine.kept (hm : Mine W base e v l) (hk : ∀ b, v.ownBlock = some b → W'.heap[b]? = W.heap[b]?) : Mine W' base e v l := by
  obtain ⟨h1, h2 | ⟨g, cap, cur, h3, h4, h5, h6⟩⟩ := hm
  · exact ⟨h1, .inl h2⟩
  · exact ⟨h1, .inr ⟨g, cap, cur, h3, h4, (hk g (by rw [h3]; rfl)).trans h5, h6⟩⟩
theorem Mine.lt_ (hm : Mine W base e v l) {b : Nat} (hb : v.ownBlock = some b) : base ≤ b ∧ b < W.heap.size := World.ownsRow.lt hm b hb
theorem Mine.far (hm : Mine W base e v l) (hg : W.grownBy W' row) (hr : ∀ b, v.ownBlock = some b → row ≠ some b) : Mine W' base e v l :=
  hm.kept fun b hb => hg.block b (hm.lt_ hb).2 (fun e => hr b hb e.symm)
theorem St.row_ (s : St w W g h lg lh []) (hg : W.grownBy W' row) (hr : ∀ b, row = some b → b ≠ g ∧ b ≠ h ∧ w.heap.size ≤ b) : St w W' g h lg lh [] := by
  obtain ⟨h1, h2, h3, h4, h5, h6, h7⟩ := s
  have hblk : ∀ {k : Nat} {t : TypeId} {cs : List Value}, row ≠ some k → Blk W k t cs → Blk W' k t cs := fun hk hb => (hg.block _ hb.lt (fun e => hk e.symm)).trans hb
  refine ⟨?_, ?_, h3, h4, h5, h6.grown hg h6.size (fun b e => (hr b e).2.2), fun p hp => absurd hp (by simp)⟩
  · obtain ⟨rest, ⟨d, ks, hB, h8⟩, h9⟩ := h1
    exact ⟨rest, ⟨d, ks, hblk (fun e => (hr _ e).1 rfl) hB, h8⟩, h9⟩
  · obtain ⟨rest, ⟨d, ks, hB, h8⟩, h9⟩ := h2
    exact ⟨rest, ⟨d, ks, hblk (fun e => (hr _ e).2.1 rfl) hB, h8⟩, h9⟩
theorem St.bel (s : St w W g h lg lh []) : Below w.heap.size w W := s.2.2.2.2.2.1
end

theorem mine_some {W : World} {base n c : Nat} {e : TypeId} {A : Option Addr} {l : List UInt8} (h : Mine W base e (.slice A n c) l) (hn : 0 < l.length) : ∃ gb, A = some ⟨gb, 0, none⟩ := by
  obtain ⟨h1, ⟨_, e0⟩ | ⟨g, cap, cur, h3, _⟩⟩ := h
  · rw [e0] at hn; cases hn
  · injection h3 with h3
    exact ⟨g, h3⟩
theorem mine_free {W : World} {base n c gb : Nat} {e : TypeId} {l : List UInt8} (h : Mine W base e (.slice (some ⟨gb, 0, none⟩) n c) l) (k : Nat) : W.frozen? ⟨gb, k, none⟩ = false := by
  obtain ⟨h1, ⟨e0, _⟩ | ⟨g, cap, cur, h3, _, hg, _⟩⟩ := h
  · cases e0
  · injection h3 with h3
    injection h3 with h3
    injection h3 with h3
    subst h3
    exact frozen_of_row W gb k cur e hg
theorem cb_add1 (x : UInt8) : Value.int .u8 (((x.toNat : Int) + 1) % 256) = cb (x + 1) := by
  unfold cb
  congr 1

theorem lay_digest (w3 : World) (D : List Value) (h : D.length = 32) : ∃ wS, (w3.alloc (.cells (cbs (List.replicate 32 0)).toArray 31)).setCells w3.heap.size 0 D = wS ∧
    (w3.alloc (.cells (cbs (List.replicate 32 0)).toArray 31)).there w3.heap.size 0 D.toArray.size ∧ (Try.prog.info? 31).map (·.size) = some D.toArray.size ∧
    Blk wS w3.heap.size 31 D ∧ Below w3.heap.size w3 wS := by
  have hs : D.toArray.size = 32 := by rw [List.size_toArray]; exact h
  have hB : Blk (w3.alloc (.cells (cbs (List.replicate 32 0)).toArray 31)) w3.heap.size 31 (cbs (List.replicate 32 0)) := Blk.new rfl rfl
  refine ⟨_, rfl, new_there w3 D h, by rw [hs]; exact info32b, hB.setAll (vs := D) (by rw [h, cbs_length, List.length_replicate]), Below.setCells (Nat.le_refl _) _ ((Below.refl _ _).alloc (Nat.le_refl _) _)⟩
end Go.Proofs.Ytflagkmkimkamaa
