/-
  Str over this seat's translation.
-/
import Derived.Test.YtjnoeojlmfmhdaaJoin
import Derived.Test.YtjnoeojlmfmhdaaWritten
namespace Go.Proofs.Ytjnoeojlmfmhdaa
open Go.RowKit
set_option linter.unusedVariables false

theorem Bss.made (w : World) (t : TypeId) (vs : Array Value) (ls : List (List UInt8)) (hs : vs.size = ls.length)
    (h : ∀ i (hi : i < ls.length), ∃ Ai ci, vs[i]? = some (.slice Ai ls[i].length ci) ∧ Bs w Ai ls[i]) : Bss (w.alloc (.cells vs t)) (some ⟨w.heap.size, 0, none⟩) ls := by
  refine ⟨vs.toList, ⟨by simp [hs], fun _ => ⟨w.heap.size, 0, rfl, by simp, fun j u hu => ?_⟩⟩, fun i hi => ?_⟩
  · rw [Nat.zero_add, cell_of_row _ _ j vs t (0, 0) (heap_alloc_new w _)]
    simpa using hu
  · obtain ⟨Ai, ci, hv, hB⟩ := h i hi
    exact ⟨Ai, ci, by simpa using hv, hB.on ((Below.refl _ _).alloc (Nat.le_refl _) _)⟩
theorem Bss.made2 {w : World} {t : TypeId} {A1 A2 : Option Addr} {n1 n2 c1 c2 : Nat} {l1 l2 : List UInt8} (h1 : Bs w A1 l1) (e1 : l1.length = n1) (h2 : Bs w A2 l2) (e2 : l2.length = n2) :
    Bss (w.alloc (.cells #[.slice A1 n1 c1, .slice A2 n2 c2] t)) (some ⟨w.heap.size, 0, none⟩) [l1, l2] := by
  subst e1 e2
  refine Bss.made w t _ _ rfl fun i hi => ?_
  match i, hi with
  | 0, _ => exact ⟨A1, c1, rfl, h1⟩
  | 1, _ => exact ⟨A2, c2, rfl, h2⟩

theorem Bss.made1 {w : World} {t : TypeId} {A1 : Option Addr} {n1 c1 : Nat} {l1 : List UInt8} (h1 : Bs w A1 l1) (e1 : l1.length = n1) :
    Bss (w.alloc (.cells #[.slice A1 n1 c1] t)) (some ⟨w.heap.size, 0, none⟩) [l1] := by
  subst e1
  refine Bss.made w t _ _ rfl fun i hi => ?_
  match i, hi with
  | 0, _ => exact ⟨A1, c1, rfl, h1⟩
theorem Bss.made3 {w : World} {t : TypeId} {A1 A2 A3 : Option Addr} {n1 n2 n3 c1 c2 c3 : Nat} {l1 l2 l3 : List UInt8} (h1 : Bs w A1 l1) (e1 : l1.length = n1) (h2 : Bs w A2 l2) (e2 : l2.length = n2) (h3 : Bs w A3 l3) (e3 : l3.length = n3) :
    Bss (w.alloc (.cells #[.slice A1 n1 c1, .slice A2 n2 c2, .slice A3 n3 c3] t)) (some ⟨w.heap.size, 0, none⟩) [l1, l2, l3] := by
  subst e1 e2 e3
  refine Bss.made w t _ _ rfl fun i hi => ?_
  match i, hi with
  | 0, _ => exact ⟨A1, c1, rfl, h1⟩
  | 1, _ => exact ⟨A2, c2, rfl, h2⟩
  | 2, _ => exact ⟨A3, c3, rfl, h3⟩
theorem Bss.none (w : World) : Bss w none [] := ⟨[], Shows.empty _, fun i hi => absurd hi (by simp)⟩
theorem Bs.alloc {w : World} {A : Option Addr} {l : List UInt8} (h : Bs w A l) (o : Obj) : Bs (w.alloc o) A l := h.on ((Below.refl _ _).alloc (Nat.le_refl _) o)

/-- Join of a slice of one, two or three texts that the caller builds. -/
theorem join1 {w : World} {t : TypeId} {A1 : Option Addr} {n1 c1 : Nat} {l1 : List UInt8} (h1 : Bs w A1 l1) (e1 : l1.length = n1) (hl : n1 ≤ 140737488355328) :
    Calls Try.prog 31 #[.slice (some ⟨w.heap.size, 0, none⟩) 1 1] (w.alloc (.cells #[.slice A1 n1 c1] t)) fun e w' => ∃ v, e = .returned v ∧ NewB w l1 v w' := by
  refine (join_any _ _ 1 [l1] _ (Bss.made1 h1 e1) rfl (by omega) (by simp; omega)).mono ?_
  rintro e w' ⟨v, rfl, hnew⟩
  exact ⟨v, rfl, NewB.later ((Below.refl _ _).alloc (Nat.le_refl _) _) (by simpa using hnew)⟩
theorem join2 {w : World} {t : TypeId} {A1 A2 : Option Addr} {n1 n2 c1 c2 : Nat} {l1 l2 : List UInt8} (h1 : Bs w A1 l1) (e1 : l1.length = n1) (h2 : Bs w A2 l2) (e2 : l2.length = n2) (hl : n1 + n2 ≤ 140737488355328) :
    Calls Try.prog 31 #[.slice (some ⟨w.heap.size, 0, none⟩) 2 2] (w.alloc (.cells #[.slice A1 n1 c1, .slice A2 n2 c2] t)) fun e w' => ∃ v, e = .returned v ∧ NewB w (l1 ++ l2) v w' := by
  refine (join_any _ _ 2 [l1, l2] _ (Bss.made2 h1 e1 h2 e2) rfl (by omega) (by simp; omega)).mono ?_
  rintro e w' ⟨v, rfl, hnew⟩
  exact ⟨v, rfl, NewB.later ((Below.refl _ _).alloc (Nat.le_refl _) _) (by simpa using hnew)⟩
theorem join3 {w : World} {t : TypeId} {A1 A2 A3 : Option Addr} {n1 n2 n3 c1 c2 c3 : Nat} {l1 l2 l3 : List UInt8} (h1 : Bs w A1 l1) (e1 : l1.length = n1) (h2 : Bs w A2 l2) (e2 : l2.length = n2) (h3 : Bs w A3 l3) (e3 : l3.length = n3)
    (hl : n1 + n2 + n3 ≤ 140737488355328) :
    Calls Try.prog 31 #[.slice (some ⟨w.heap.size, 0, none⟩) 3 3] (w.alloc (.cells #[.slice A1 n1 c1, .slice A2 n2 c2, .slice A3 n3 c3] t)) fun e w' => ∃ v, e = .returned v ∧ NewB w (l1 ++ (l2 ++ l3)) v w' := by
  refine (join_any _ _ 3 [l1, l2, l3] _ (Bss.made3 h1 e1 h2 e2 h3 e3) rfl (by omega) (by simp; omega)).mono ?_
  rintro e w' ⟨v, rfl, hnew⟩
  exact ⟨v, rfl, NewB.later ((Below.refl _ _).alloc (Nat.le_refl _) _) (by simpa using hnew)⟩
theorem join0 (w : World) : Calls Try.prog 31 #[.slice none 0 0] w fun e w' => ∃ v, e = .returned v ∧ NewB w [] v w' := by
  refine (join_any _ _ 0 [] _ (Bss.none w) rfl (by omega) (by simp)).mono ?_
  rintro e w' ⟨v, rfl, hnew⟩
  exact ⟨v, rfl, by simpa using hnew⟩
theorem refJoin2 {w : World} {t : TypeId} {A1 A2 : Option Addr} {n1 n2 c1 c2 : Nat} {l1 l2 : List UInt8} (h1 : Bs w A1 l1) (e1 : l1.length = n1) (h2 : Bs w A2 l2) (e2 : l2.length = n2) (hl : n1 + n2 ≤ 140737488355328) :
    Calls Try.prog 32 #[.slice (some ⟨w.heap.size, 0, none⟩) 2 2] (w.alloc (.cells #[.slice A1 n1 c1, .slice A2 n2 c2] t)) fun e w' => ∃ v, e = .returned v ∧ NewB w (l1 ++ l2) v w' := by
  refine (refJoin_any _ _ 2 [l1, l2] _ (Bss.made2 h1 e1 h2 e2) rfl (by omega) (by simp; omega)).mono ?_
  rintro e w' ⟨v, rfl, hnew⟩
  exact ⟨v, rfl, NewB.later ((Below.refl _ _).alloc (Nat.le_refl _) _) (by simpa using hnew)⟩
theorem refJoin3 {w : World} {t : TypeId} {A1 A2 A3 : Option Addr} {n1 n2 n3 c1 c2 c3 : Nat} {l1 l2 l3 : List UInt8} (h1 : Bs w A1 l1) (e1 : l1.length = n1) (h2 : Bs w A2 l2) (e2 : l2.length = n2) (h3 : Bs w A3 l3) (e3 : l3.length = n3)
    (hl : n1 + n2 + n3 ≤ 140737488355328) :
    Calls Try.prog 32 #[.slice (some ⟨w.heap.size, 0, none⟩) 3 3] (w.alloc (.cells #[.slice A1 n1 c1, .slice A2 n2 c2, .slice A3 n3 c3] t)) fun e w' => ∃ v, e = .returned v ∧ NewB w (l1 ++ (l2 ++ l3)) v w' := by
  refine (refJoin_any _ _ 3 [l1, l2, l3] _ (Bss.made3 h1 e1 h2 e2 h3 e3) rfl (by omega) (by simp; omega)).mono ?_
  rintro e w' ⟨v, rfl, hnew⟩
  exact ⟨v, rfl, NewB.later ((Below.refl _ _).alloc (Nat.le_refl _) _) (by simpa using hnew)⟩

/-- What Str answers. -/
def st (l : List UInt8) : List UInt8 × Nat := if 65536 < l.length then ([], 5) else (numB l.length ++ l, 0)

set_option maxHeartbeats 800000 in
theorem str_any (A : Option Addr) (c n : Nat) (xs : List UInt8) (w : World) (hA : Bs w A xs) (hn : xs.length = n) (hl : n ≤ maxLen) :
    Calls Try.prog 25 #[.slice A n c] w (RetBE w (st xs)) := by
  have Hn := Lib.hid hn
  unfold maxLen at hl
  by_cases h : 65536 < n
  · have hr : Hid (st xs = ([], 5)) := by show _ = _; simp [st, hn, h]
    have h' : (65536 : Int) < n := by omega
    clear hn
    generalize st xs = r at *
    go_enter Try.func25, Try.ntmps25
    go_wp2
    go_ret2
    exact ⟨_, by rw [hr.out]; rfl, by rw [hr.out]; exact NewB.nil _⟩
  · have hr : Hid (st xs = (numB n ++ xs, 0)) := by show _ = _; simp [st, hn, h]
    have h' : ¬ (65536 : Int) < n := by omega
    clear hn
    generalize st xs = r at *
    go_enter Try.func25, Try.ntmps25
    go_wp2_with fail
    refine (written_any n _ (by omega)).mono ?_
    rintro e w1 ⟨v, rfl, hnew⟩
    obtain ⟨A1, c1, rfl, hl1, hc1, hB1⟩ := hnew.form
    have hk : (numB n).length ≤ 8 := by have := dgs_len7 (n := n) (by omega); simp [numB]; omega
    generalize numB n = y at *
    go_wp2_with fail
    refine (join_any _ _ 2 [y, xs] _ (Bss.made2 hB1 rfl (hA.on hnew.2) Hn.out) rfl (by omega) ?_).mono ?_
    · have := Hn.out
      simp
      omega
    rintro e w2 ⟨v2, rfl, hnew2⟩
    go_wp2
    go_ret2
    exact ⟨_, by rw [hr.out]; rfl, by rw [hr.out]; exact NewB.later (hnew.2.alloc hnew.2.size _) (by simpa using hnew2)⟩
end Go.Proofs.Ytjnoeojlmfmhdaa
