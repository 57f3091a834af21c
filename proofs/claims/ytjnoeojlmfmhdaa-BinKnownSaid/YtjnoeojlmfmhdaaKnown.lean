/-
  The chapter's examples as facts on lists, and contracts at literal bytes.
-/
import Derived.Test.YtjnoeojlmfmhdaaWorks2
import Derived.Test.YtjnoeojlmfmhdaaPlain2
namespace Go.Proofs.Ytjnoeojlmfmhdaa
open Go.RowKit
set_option linter.unusedVariables false

theorem nm_0 : nm 0 = ([0], 0) := by simp [nm, numB, dgs_zero]
theorem nm_255 : nm 255 = ([1, 255], 0) := by
  have h : dgs 255 = [255] := by simp [dgs]
  simp [nm, numB, h]
theorem nm_max : nm 9007199254740991 = ([7, 31, 255, 255, 255, 255, 255, 255], 0) := by
  have h : dgs 9007199254740991 = [31, 255, 255, 255, 255, 255, 255] := by simp [dgs]
  simp [nm, numB, h]
theorem nm_neg : nm (-1) = ([], 9) := by simp [nm]
theorem nm_big : nm 9007199254740992 = ([], 9) := by simp [nm]
theorem tk_1 : tk [2, 0, 1] = (0, [], 4) := by decide
theorem tk_2 : tk [8, 1, 1, 1, 1, 1, 1, 1, 1] = (0, [], 4) := by decide
theorem tk_3 : tk [1] = (0, [], 3) := by decide
theorem tk_4 : tk [7, 32, 0, 0, 0, 0, 0, 0] = (0, [], 9) := by decide +kernel
theorem tk_5 : tk [] = (0, [], 3) := by decide
theorem tk_6 : tk [2, 0] = (0, [], 3) := by decide
theorem tk_7 : tk [0, 7] = (0, [7], 0) := by decide
theorem ts_1 : ts [1, 2, 170, 187, 204] 1 = ([], [], 5) := by decide
theorem ts_2 : ts [1, 2, 170] 9 = ([], [], 3) := by decide
theorem ts_3 : ts [] (-1) = ([], [], 2) := by decide
theorem ts_4 : ts [3, 1, 0, 1] 4611686018427387904 = ([], [], 5) := by decide +kernel
theorem ts_5 : ts [0, 5] 0 = ([], [5], 0) := by decide
theorem tf_1 : tf [1] 2 = ([], [], 3) := by decide
theorem tf_2 : tf [1] (-1) = ([], [], 2) := by decide
theorem tf_3 : tf [1] 9223372036854775807 = ([], [], 3) := by decide +kernel

theorem numB_65536 : numB 65536 = [3, 1, 0, 0] := by
  have h : dgs 65536 = [1, 0, 0] := by simp [dgs]
  simp [numB, h]
theorem bigB {w : World} {base : Nat} {e : TypeId} {A : Option Addr} {n c : Nat} (h : w.ownsRow base e 1 (.slice A n c) n (cbs (List.replicate n 0))) : ∃ big : List UInt8, big.length = n ∧ Bs w A big :=
  ⟨List.replicate n 0, by simp, by unfold Bs; rw [List.length_replicate]; exact Shows.ofOwn h⟩
theorem st_full {l : List UInt8} (h : l.length = 65536) : ∃ y, y.length = 65540 ∧ st l = (y, 0) := by
  refine ⟨numB 65536 ++ l, ?_, ?_⟩
  · rw [List.length_append, numB_65536, h]; rfl
  · unfold st
    rw [h, if_neg (by omega)]
theorem st_over {l : List UInt8} (h : l.length = 65537) : st l = ([], 5) := by
  unfold st
  rw [h, if_pos (by omega)]

section
variable (w : World) (vs : Array Value) (l : List UInt8)
theorem takeNumL (h : vs.toList = cbs l) (hl : l.length ≤ 1000) :
    Calls Try.prog 20 #[.slice (some ⟨w.heap.size, 0, none⟩) l.length l.length] (w.alloc (.cells vs 5)) (RetTN w (tk l)) := by
  refine (takeNum_any _ _ _ l _ (Bs.made w 5 vs l h) rfl (Nat.le_refl _) (by omega) (by unfold maxLen; omega)).mono ?_
  rintro e w' ⟨v, rfl, hnew⟩
  exact ⟨v, rfl, NewB.later ((Below.refl _ _).alloc (Nat.le_refl _) _) hnew⟩
theorem takeStrL (k : Int) (h : vs.toList = cbs l) (hl : l.length ≤ 1000) :
    Calls Try.prog 27 #[.slice (some ⟨w.heap.size, 0, none⟩) l.length l.length, .int .i64 k] (w.alloc (.cells vs 5)) (RetTF w (ts l k)) := by
  refine (takeStr_any _ _ _ k l _ (Bs.made w 5 vs l h) rfl (Nat.le_refl _) (by omega) (by unfold maxLen; omega)).mono ?_
  rintro e w' ⟨v, u, w1, rfl, hnew, hnew'⟩
  exact ⟨v, u, w1, rfl, NewB.later ((Below.refl _ _).alloc (Nat.le_refl _) _) hnew, hnew'⟩
theorem takeFixL (k : Int) (h : vs.toList = cbs l) (hl : l.length ≤ 1000) :
    Calls Try.prog 29 #[.slice (some ⟨w.heap.size, 0, none⟩) l.length l.length, .int .i64 k] (w.alloc (.cells vs 5)) (RetTF w (tf l k)) := by
  refine (takeFix_any _ _ _ k l _ (Bs.made w 5 vs l h) rfl (Nat.le_refl _) (by omega) (by unfold maxLen; omega)).mono ?_
  rintro e w' ⟨v, u, w1, rfl, hnew, hnew'⟩
  exact ⟨v, u, w1, rfl, NewB.later ((Below.refl _ _).alloc (Nat.le_refl _) _) hnew, hnew'⟩
theorem eqL (h : vs.toList = cbs l) {A : Option Addr} (hA : Bs w A l) (c : Nat) (hl : l.length ≤ 1000) :
    Calls Try.prog 22 #[.slice A l.length c, .slice (some ⟨w.heap.size, 0, none⟩) l.length l.length] (w.alloc (.cells vs 5)) fun e w' => e = .returned (.bool true) ∧ Below w.heap.size w w' := by
  refine (eqSame _ _ _ _ _ _ l _ (hA.on ((Below.refl _ _).alloc (Nat.le_refl _) _)) (Bs.made w 5 vs l h) rfl rfl (by unfold maxLen; omega)).mono ?_
  rintro e w' ⟨rfl, hb⟩
  exact ⟨rfl, ((Below.refl _ _).alloc (Nat.le_refl _) _).trans (hb.mono (by simp))⟩
end
end Go.Proofs.Ytjnoeojlmfmhdaa
