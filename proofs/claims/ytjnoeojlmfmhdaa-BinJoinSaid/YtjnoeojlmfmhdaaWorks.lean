/-
  Spoil, Bring and the chapter's own bytes over this seat's translation.
-/
import Derived.Test.YtjnoeojlmfmhdaaStr
import Derived.Test.YtjnoeojlmfmhdaaTake
namespace Go.Proofs.Ytjnoeojlmfmhdaa
open Go.RowKit
set_option linter.unusedVariables false

theorem only_set {a w : World} {g : Nat} (h : a.grownBy w (some g)) {p : Addr} (hp : p.block = g ∨ a.heap.size ≤ p.block) (u : Value) : a.grownBy (w.setCell p u) (some g) := by
  refine ⟨h.os, h.tape, h.output, by simpa [World.setCell] using h.size, fun i hi hne => ?_⟩
  refine (Below.heap_setCell w p u i ?_).trans (h.block i hi hne)
  rintro rfl
  rcases hp with hp | hp
  · exact hne (by rw [hp])
  · omega
theorem Mine.other {w w' : World} {base : Nat} {e : TypeId} {v : Value} {l : List UInt8} {row : Option Nat} (h : Mine w base e v l) (hg : w.grownBy w' row) (hr : ∀ k, row = some k → k < base) : Mine w' base e v l := by
  refine World.ownsRow.kept h hg ?_
  cases hv : v.ownBlock with
  | none => exact .inl rfl
  | some k =>
    refine .inr fun e => ?_
    have h1 := hr k e.symm
    have h2 := (World.ownsRow.lt h k hv).1
    omega
theorem Mine.only {w w' : World} {base : Nat} {e : TypeId} {v : Value} {l : List UInt8} (h : Mine w base e v l) (hg : w.grownBy w' v.ownBlock) (hB : base ≤ w.heap.size) : Below base w w' :=
  (Below.refl base w).grown hg hB fun k hk => (World.ownsRow.lt h k hk).1

set_option maxHeartbeats 400000 in
theorem spoil_any (A : Option Addr) (c n : Nat) (base : Nat) (xs : List UInt8) (w : World) (h : Mine w base 5 (.slice A n c) xs) (hn : xs.length = n) (hl : n ≤ maxLen) :
    Calls Try.prog 23 #[.slice A n c] w fun e w' => e = .returned (.tuple #[]) ∧ w.grownBy w' (Value.slice A n c).ownBlock := by
  unfold maxLen at hl
  have Hn := Lib.hid hn
  have h' : w.ownsRow base 5 1 (.slice A n c) n (cbs xs) := by unfold Mine at h; rw [hn] at h; exact h
  clear h hn
  go_enter Try.func23, Try.ntmps23
  go_wp2
  go_loopw [2] (fun i wr => ∃ k : Nat, k ≤ n ∧ i = .int .i64 k ∧ (∃ ys : List UInt8, ys.length = n ∧ wr.ownsRow base 5 1 (.slice A n c) n (cbs ys)) ∧ w.grownBy wr (Value.slice A n c).ownBlock) (fun i _ => n - (intOf i).toNat)
  case atStart => exact ⟨0, Nat.zero_le _, rfl, ⟨xs, Hn.out, h'⟩, World.grownBy.refl _ _⟩
  case round =>
    obtain ⟨k, hk, rfl, ⟨ys, hy, hown⟩, hnx⟩ := hrel
    by_cases hlt : k < n
    · obtain ⟨g, cap, hv, hg, hgl⟩ := hown.form (by omega)
      simp only [Value.slice.injEq] at hv
      obtain ⟨rfl, _, rfl⟩ := hv
      have hc := Mine.cell hown (j := k) (by omega)
      have hf := hown.frozenAt k
      have Hy := Lib.hid hy
      have hy8 := ys[k].toNat_lt
      generalize hold : ys[k] = old at *
      clear hy hold
      go_wp2
      go_roundw
      case rel =>
        refine ⟨k + 1, by omega, by go_num, ⟨ys.set k (old + 1), by rw [List.length_set]; exact Hy.out, Mine.set_ hown k (old + 1) _ ?_⟩, only_set (g := g) (p := ⟨g, k, none⟩) hnx (.inl rfl) _⟩
        unfold cb
        rw [UInt8.toNat_add]
        simp
      case measure => simp [intOf]; omega
    · go_wp2
      go_end0
      exact ⟨rfl, hnx⟩

theorem eqSame (A A' : Option Addr) (c c' n m : Nat) (xs : List UInt8) (w : World) (hA : Bs w A xs) (hB : Bs w A' xs) (hn : xs.length = n) (hm : xs.length = m) (hl : n ≤ maxLen) :
    Calls Try.prog 22 #[.slice A n c, .slice A' m c'] w fun e w' => e = .returned (.bool true) ∧ Below w.heap.size w w' := by
  refine (eqBytes A A' c c' n m xs xs w hA hB hn hm hl (by omega)).mono ?_
  rintro e w' ⟨rfl, hb⟩
  exact ⟨by simp, hb⟩

theorem Bs.made (w : World) (t : TypeId) (vs : Array Value) (l : List UInt8) (h : vs.toList = cbs l) : Bs (w.alloc (.cells vs t)) (some ⟨w.heap.size, 0, none⟩) l := by
  refine ⟨by rw [cbs_length]; simp, fun _ => ⟨w.heap.size, 0, rfl, by simp, fun j u hu => ?_⟩⟩
  rw [Nat.zero_add, cell_of_row _ _ j vs t (0, 0) (heap_alloc_new w _)]
  rw [← h] at hu
  simpa using hu

theorem nm_256 : nm 256 = ([2, 1, 0], 0) := by
  have h : dgs 256 = [1, 0] := by simp [dgs]
  simp [nm, numB, h]
theorem st_ex : st [170, 187] = ([1, 2, 170, 187], 0) := by
  have h : dgs 2 = [2] := by simp [dgs]
  simp [st, numB, h]
theorem tk_ex : tk [2, 1, 0, 9] = (256, [9], 0) := by decide
theorem ts_ex : ts [1, 2, 170, 187, 204] 2 = ([170, 187], [204], 0) := by decide
end Go.Proofs.Ytjnoeojlmfmhdaa
