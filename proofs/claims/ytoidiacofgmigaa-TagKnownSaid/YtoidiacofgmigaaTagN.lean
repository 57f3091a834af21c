/-
  Ledgers that are none: nil, or one that New did not make; make of a list of numbers.
-/
import Derived.Test.YtoidiacofgmigaaTwo
import Derived.Deep.OwnRows
import Derived.Deep.RegionHeld3
import Derived.Deep.RegionWith
import Derived.Deep.DeepCutAuto
namespace Go.Proofs.Ytoidiacofgmigaa
open Go.RowKit Go.Maps
set_option linter.unusedVariables false

/-- A pointer to a ledger that is none. -/
def NoLed (w : World) (v : Value) : Prop := v = .pointer none ∨ ∃ g, v = .pointer (some ⟨g, 0, none⟩) ∧ g < w.heap.size ∧ w.cell? ⟨g, 0, none⟩ = some (.map none)
theorem NoLed.below {w w' : World} {v : Value} (h : NoLed w v) (hb : Below w.heap.size w w') : NoLed w' v := by
  rcases h with rfl | ⟨g, rfl, hlt, h⟩
  · exact .inl rfl
  · exact .inr ⟨g, rfl, Nat.lt_of_lt_of_le hlt hb.size, (hb.cell hlt).trans h⟩
theorem NoLed.made {w : World} {g : Nat} {vs : Array Value} {t : TypeId} {fr : Nat × Nat} (hg : g = w.heap.size) (h : vs[0]? = some (.map none)) : NoLed (w.alloc (.cells vs t fr)) (.pointer (some ⟨g, 0, none⟩)) := by
  subst hg
  exact .inr ⟨_, rfl, by simp, by rw [cell_of_row _ _ 0 vs t fr (heap_alloc_new w _)]; exact h⟩
theorem eqlNoMap (w : World) : (binOp .eql 50 (.map none) (.map none)).run Try.prog w = .ok (.bool true) w := by kernel_rfl

set_option maxRecDepth 100000 in
theorem none_yes (v : Value) (w : World) (h : NoLed w v) : Calls Try.prog 29 #[v] w fun e w' => e = .returned (.bool true) ∧ w' = w := by
  have heq := eqlNoMap
  rcases h with rfl | ⟨g, rfl, _hlt, h⟩
  · go_enter Try.func29, Try.ntmps29
    go_wp2
    go_ret
    exact ⟨rfl, rfl⟩
  · go_enter Try.func29, Try.ntmps29
    go_wp2
    go_ret
    exact ⟨rfl, rfl⟩
theorem len_none (v : Value) (w : World) (h : NoLed w v) : Calls Try.prog 23 #[v] w fun e w' => e = .returned (.int .i64 0) ∧ w' = w := by
  have Hno := Lib.hid (none_yes v w h)
  clear h
  go_enter Try.func23, Try.ntmps23
  go_wp2_with (go_at_call 29; refine Hno.out.mono ?_; rintro e w' ⟨rfl, rfl⟩)
  go_ret
  exact ⟨rfl, rfl⟩
theorem asked_none (v : Value) (w : World) (h : NoLed w v) : Calls Try.prog 25 #[v] w fun e w' => e = .returned (.int .i64 0) ∧ w' = w := by
  have Hno := Lib.hid (none_yes v w h)
  clear h
  go_enter Try.func25, Try.ntmps25
  go_wp2_with (go_at_call 29; refine Hno.out.mono ?_; rintro e w' ⟨rfl, rfl⟩)
  go_ret
  exact ⟨rfl, rfl⟩
theorem tag_none (v : Value) (f t : Int) (D : List Value) (w : World) (h : NoLed w v) : Calls Try.prog 14 #[v, .int .i64 f, .int .i64 t, .agg D.toArray] w fun e w' => e = .returned (.int .i64 1) ∧ Below w.heap.size w w' := by
  have ba : Below w.heap.size w (w.alloc (.cells D.toArray 28)) := (Below.refl _ _).alloc (Nat.le_refl _) _
  have Hno := Lib.hid (none_yes v _ (h.below ba))
  have H := Lib.hid ba
  clear h ba
  go_enter Try.func14, Try.ntmps14
  go_wp2_with (go_at_call 29; refine Hno.out.mono ?_; rintro e w' ⟨rfl, rfl⟩)
  go_ret
  exact ⟨rfl, H.out⟩
theorem vec_none (v : Value) (f : Int) (A : Option Addr) (n c : Nat) (D : List Value) (w : World) (h : NoLed w v) : Calls Try.prog 18 #[v, .int .i64 f, .slice A n c, .agg D.toArray] w fun e w' => e = .returned (.int .i64 1) ∧ Below w.heap.size w w' := by
  have ba : Below w.heap.size w (w.alloc (.cells D.toArray 28)) := (Below.refl _ _).alloc (Nat.le_refl _) _
  have Hno := Lib.hid (none_yes v _ (h.below ba))
  have H := Lib.hid ba
  clear h ba
  go_enter Try.func18, Try.ntmps18
  go_wp2_with (go_at_call 29; refine Hno.out.mono ?_; rintro e w' ⟨rfl, rfl⟩)
  go_ret
  exact ⟨rfl, H.out⟩
theorem check_none (v : Value) (f t : Int) (D : List Value) (w : World) (h : NoLed w v) : Calls Try.prog 21 #[v, .int .i64 f, .int .i64 t, .agg D.toArray] w fun e w' => e = .returned (.bool false) ∧ Below w.heap.size w w' := by
  have ba : Below w.heap.size w (w.alloc (.cells D.toArray 28)) := (Below.refl _ _).alloc (Nat.le_refl _) _
  have Hno := Lib.hid (none_yes v _ (h.below ba))
  have H := Lib.hid ba
  clear h ba
  go_enter Try.func21, Try.ntmps21
  go_wp2_with (go_at_call 29; refine Hno.out.mono ?_; rintro e w' ⟨rfl, rfl⟩)
  go_ret
  exact ⟨rfl, H.out⟩

theorem int_info : (Try.prog.info? 3).map (fun i => (i.zero, i.size, i.bytes)) = some (some (.int .i64 0), 1, 8) := by kernel_rfl

/-- The thirty-five numbers, of which j are laid. -/
def fill35 (j : Nat) : List Int := (List.range 35).map fun i => if i < j then 1 + (i : Int) % 34 else 0
theorem fill35_len (j : Nat) : (fill35 j).length = 35 := by simp [fill35]
theorem fill35_get {j i : Nat} (h : i < 35) : (fill35 j)[i]? = some (if i < j then 1 + (i : Int) % 34 else 0) := by
  unfold fill35
  rw [List.getElem?_map, List.getElem?_range h]
  rfl
theorem fill35_set {j : Nat} (h : j < 35) : (fill35 j).set j (1 + (j : Int) % 34) = fill35 (j + 1) := by
  apply List.ext_getElem?
  intro i
  by_cases hi : i < 35
  · rw [fill35_get hi, List.getElem?_set]
    by_cases he : j = i
    · subst he
      rw [if_pos rfl, if_pos (by rw [fill35_len]; exact h), if_pos (by omega)]
    · rw [if_neg he, fill35_get hi]
      congr 1
      by_cases h1 : i < j
      · rw [if_pos h1, if_pos (by omega)]
      · rw [if_neg h1, if_neg (by omega)]
  · rw [List.getElem?_eq_none (by simp [fill35_len]; omega), List.getElem?_eq_none (by rw [fill35_len]; omega)]
end Go.Proofs.Ytoidiacofgmigaa
