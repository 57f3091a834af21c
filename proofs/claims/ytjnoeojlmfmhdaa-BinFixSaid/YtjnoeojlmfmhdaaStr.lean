/-
  Str over this seat's translation.
-/
import Derived.Test.YtjnoeojlmfmhdaaJoin
import Derived.Test.YtjnoeojlmfmhdaaWritten
namespace Go.Proofs.Ytjnoeojlmfmhdaa
open Go.RowKit
set_option linter.unusedVariables false

theorem Bss.made (w : World) (t : TypeId) (vs : Array Value) (ls : List (List UInt8)) (hs : vs.size = ls.length)
    (h : ∀ i (hi : i < ls.length), ∃ Ai ci, vs[i]? = some (.slice Ai ls[i].length ci) ∧ Bs w Ai ls[i]) : Bss (w.alloc (.cells vs t)) (some ⟨w.heap.size, 0, none⟩) ls := by
  refine ⟨vs.toList, ⟨by simp [hs], fun _ => ⟨w.heap.size, 0, rfl, by simp, fun j u hu => ?_⟩⟩, fun i hi => ?_⟩
  · rw [Nat.zero_add, cell_of_row _ _ j vs t (0, 0) (heap_alloc_new w _)]
    simpa using hu
  · obtain ⟨Ai, ci, hv, hB⟩ := h i hi
    exact ⟨Ai, ci, by simpa using hv, hB.on ((Below.refl _ _).alloc (Nat.le_refl _) _)⟩
theorem Bss.made2 {w : World} {t : TypeId} {A1 A2 : Option Addr} {n1 n2 c1 c2 : Nat} {l1 l2 : List UInt8} (h1 : Bs w A1 l1) (e1 : l1.length = n1) (h2 : Bs w A2 l2) (e2 : l2.length = n2) :
    Bss (w.alloc (.cells #[.slice A1 n1 c1, .slice A2 n2 c2] t)) (some ⟨w.heap.size, 0, none⟩) [l1, l2] := by
  subst e1 e2
  refine Bss.made w t _ _ rfl fun i hi => ?_
  match i, hi with
  | 0, _ => exact ⟨A1, c1, rfl, h1⟩
  | 1, _ => exact ⟨A2, c2, rfl, h2⟩

/-- What Str answers. -/
def st (l : List UInt8) : List UInt8 × Nat := if 65536 < l.length then ([], 5) else (numB l.length ++ l, 0)

set_option maxHeartbeats 800000 in
theorem str_any (A : Option Addr) (c n : Nat) (xs : List UInt8) (w : World) (hA : Bs w A xs) (hn : xs.length = n) (hl : n ≤ maxLen) :
    Calls Try.prog 25 #[.slice A n c] w (RetBE w (st xs)) := by
  have Hn := Lib.hid hn
  unfold maxLen at hl
  by_cases h : 65536 < n
  · have hr : Hid (st xs = ([], 5)) := by show _ = _; simp [st, hn, h]
    have h' : (65536 : Int) < n := by omega
    clear hn
    generalize st xs = r at *
    go_enter Try.func25, Try.ntmps25
    go_wp2
    go_ret2
    exact ⟨_, by rw [hr.out]; rfl, by rw [hr.out]; exact NewB.nil _⟩
  · have hr : Hid (st xs = (numB n ++ xs, 0)) := by show _ = _; simp [st, hn, h]
    have h' : ¬ (65536 : Int) < n := by omega
    clear hn
    generalize st xs = r at *
    go_enter Try.func25, Try.ntmps25
    go_wp2_with fail
    refine (written_any n _ (by omega)).mono ?_
    rintro e w1 ⟨v, rfl, hnew⟩
    obtain ⟨A1, c1, rfl, hl1, hc1, hB1⟩ := hnew.form
    have hk : (numB n).length ≤ 8 := by have := dgs_len7 (n := n) (by omega); simp [numB]; omega
    generalize numB n = y at *
    go_wp2_with fail
    refine (join_any _ _ 2 [y, xs] _ (Bss.made2 hB1 rfl (hA.on hnew.2) Hn.out) rfl (by omega) ?_).mono ?_
    · have := Hn.out
      simp
      omega
    rintro e w2 ⟨v2, rfl, hnew2⟩
    go_wp2
    go_ret2
    exact ⟨_, by rw [hr.out]; rfl, by rw [hr.out]; exact NewB.later (hnew.2.alloc hnew.2.size _) (by simpa using hnew2)⟩
end Go.Proofs.Ytjnoeojlmfmhdaa
