/-
  slices.Sort and slices.SortFunc of a row of numbers that the caller owns, over this seat's translation.
-/
import Derived.Test.YtjibbbfpbflgmaaRep8
import Derived.Test.YtjibbbfpbflgmaaShelf8e
import Derived.Test.YtjibbbfpbflgmaaShelf8f
namespace Go.Proofs.Ytjibbbfpbflgmaa
open Go.RowKit Go.Shelf Go.Sort CrewP
set_option linter.unusedVariables false

theorem put_row {w : World} {g : Nat} {t : TypeId} {cs : List Value} {l d : List Int} (hB : Blk w g t cs) (hl : l.length ≤ cs.length) (hd : d.length = l.length) (q : Nat) (os : Array Obj) :
    Blk (grow (putRow (Value.int .i64) (Sort.ahead w q) g 0 d.toArray) os) g t (cis d ++ cs.drop l.length) ∧ Out (fun i => i = g) w (grow (putRow (Value.int .i64) (Sort.ahead w q) g 0 d.toArray) os) := by
  have hlt := hB.lt
  have hsz : (putRow (Value.int .i64) (Sort.ahead w q) g 0 d.toArray).heap.size = w.heap.size := by simp [putRow, mapBlock, Sort.ahead]
  constructor
  · unfold Blk at hB ⊢
    rw [heap_grow_old _ _ (by rw [hsz]; exact hlt)]
    have : (putRow (Value.int .i64) (Sort.ahead w q) g 0 d.toArray).heap[g]? = some (.cells (putCells (Value.int .i64) 0 d.toArray cs.toArray) t (0, 0)) := by
      show (w.heap.modify g (onCells (putCells (Value.int .i64) 0 d.toArray)))[g]? = _
      rw [Array.getElem?_modify, if_pos rfl, hB]
      rfl
    rw [this]
    congr 2
    apply Array.ext_getElem?
    intro k
    unfold putCells
    rw [Array.getElem?_mapIdx]
    simp only [List.getElem?_toArray, List.size_toArray, Nat.zero_add, Nat.sub_zero, Nat.zero_le, true_and]
    by_cases hk : k < d.length
    · have hkc : k < cs.length := by omega
      rw [List.getElem?_eq_getElem hkc, Option.map_some, if_pos hk, List.getElem?_append_left (by rw [cis_length]; exact hk), cis_get, List.getElem?_eq_getElem hk, Option.map_some]
      rw [getElem!_pos d.toArray k (by simpa using hk)]
      rfl
    · rw [List.getElem?_append_right (by rw [cis_length]; omega), cis_length, List.getElem?_drop]
      rw [show l.length + (k - d.length) = k by omega]
      cases hc : cs[k]? with
      | none => rfl
      | some y => rw [Option.map_some, if_neg hk]
  · refine ⟨rfl, rfl, rfl, by rw [size_grow, hsz]; omega, fun i hi hn => ?_⟩
    rw [heap_grow_old _ _ (by rw [hsz]; exact hi)]
    show (w.heap.modify g (onCells (putCells (Value.int .i64) 0 d.toArray)))[i]? = _
    rw [Array.getElem?_modify, if_neg (fun e => hn e.symm)]

theorem holds_row {w : World} {g : Nat} {t : TypeId} {cs : List Value} {l : List Int} (hB : Blk w g t cs) (ht : cs.take l.length = cis l) : Holds (Value.int .i64) w g 0 l.toArray := fun j hj => by
  have hjl : j < l.length := by simpa using hj
  refine ⟨?_, hB.free _⟩
  rw [Nat.zero_add]
  have : cs[j]? = some (.int .i64 l[j]) := by
    have e : (cs.take l.length)[j]? = cs[j]? := by rw [List.getElem?_take, if_pos hjl]
    rw [← e, ht, cis_get, List.getElem?_eq_getElem hjl]
    rfl
  rw [hB.cell this, getElem!_pos l.toArray j hj]
  simp

/-- slices.Sort of a row. -/
theorem sort_any (w : World) (base g n c : Nat) (l : List Int) (hO : OwnI w base (.slice (some ⟨g, 0, none⟩) n c) l) (hn : l.length = n) (hl : n ≤ 1000) :
    Calls Try.prog 47 #[.slice (some ⟨g, 0, none⟩) n c] w fun e w' => e = .returned (.tuple #[]) ∧ OwnI w' base (.slice (some ⟨g, 0, none⟩) n c) (sortL l) ∧ Out (fun i => i = g) w w' := by
  subst hn
  rcases own_blk hO with ⟨e, _⟩ | ⟨g', cap, cs, e, hg, hB, hn, hm, hcl, ht⟩
  · cases e
  injection e with e1 e2 e3
  injection e1 with e1
  injection e1 with e1
  subst e1; subst e3
  refine (Any.slices_Sort_int Try.sortL g 0 c l w (holds_row hB ht) hB.lt (by omega)).mono ?_
  rintro e w' ⟨he, q, os, hw⟩
  have hp := put_row (l := l) (d := sortL l) hB (by omega) (sort_len l) q os
  change w' = grow (putRow (Value.int .i64) (Sort.ahead w q) g 0 (sortL l).toArray) os at hw
  rw [← hw] at hp
  refine ⟨he, ?_, hp.2⟩
  unfold OwnI
  rw [sort_len]
  refine blk_own hg hp.1 hn hm ?_ ?_
  · rw [List.length_append, cis_length, sort_len, List.length_drop]; omega
  · rw [List.take_append_of_le_length (by rw [cis_length, sort_len]; omega)]
    exact List.take_of_length_le (by rw [cis_length, sort_len]; omega)

/-- The closure of Rank. -/
theorem rankClo_any (a b : Int) (w : World) : Calls Try.prog 57 #[.int .i64 a, .int .i64 b] w fun e w' => e = .returned (.int .i64 (Lib.compareInt b a)) ∧ w' = w := by
  have HC := Lib.hid (Any.cmp_Compare_int Try.cmpL b a w)
  generalize Lib.compareInt b a = z at *
  go_enter Try.func57, Try.ntmps57
  go_wp2_with (go_at_call 58; refine HC.out.mono ?_; rintro e w' ⟨rfl, rfl⟩)
  go_ret
  exact ⟨rfl, rfl⟩
theorem cmp_lt (a b : Int) : ltOf (fun x y => Lib.compareInt y x) a b = decide (b < a) := by
  unfold ltOf Lib.compareInt
  by_cases h1 : b < a
  · simp [h1]
  · by_cases h2 : a < b
    · simp [h1, h2]
    · simp [h1, h2]
theorem cmp_swo : SWO (ltOf (fun x y : Int => Lib.compareInt y x)) where
  irrefl := fun x => by rw [cmp_lt]; simp
  trans := fun x y z h1 h2 => by rw [cmp_lt] at *; simp at *; omega
  ntrans := fun x y z h1 h2 => by rw [cmp_lt] at *; simp at *; omega
/-- slices.SortFunc of a row, downwards. -/
theorem sortFunc_any (w : World) (base g n c : Nat) (l : List Int) (hO : OwnI w base (.slice (some ⟨g, 0, none⟩) n c) l) (hn : l.length = n) (hl : n ≤ 1000) :
    Calls Try.prog 56 #[.slice (some ⟨g, 0, none⟩) n c, .func (.func 57) #[] #[]] w fun e w' => e = .returned (.tuple #[]) ∧ OwnI w' base (.slice (some ⟨g, 0, none⟩) n c) (downL l) ∧ Out (fun i => i = g) w w' := by
  subst hn
  rcases own_blk hO with ⟨e, _⟩ | ⟨g', cap, cs, e, hg, hB, hn, hm, hcl, ht⟩
  · cases e
  injection e with e1 e2 e3
  injection e1 with e1
  injection e1 with e1
  subst e1; subst e3
  have eg : ∀ args w, (callFunc 57 args).run Try.prog w = .ok (.enter 57 args) w := enters_of Try.func57 (by kernel_rfl) rfl
  refine (Any.slices_SortFunc_total Try.sortFL (Value.int .i64) (fun _ => rfl) (fun x y => Lib.compareInt y x) cmp_swo 57 #[] g 0 c l.toArray w eg ?_ (holds_row hB ht) hB.lt (by simp; omega) ?_).mono ?_
  · intro m os dk _ x y
    exact (rankClo_any x y _).mono fun e w' ⟨he, hw⟩ => ⟨he, 0, #[], by rw [hw, grow_empty]; rfl⟩
  · intro x y h1 h2
    rw [cmp_lt] at h1 h2
    simp at h1 h2
    omega
  · rintro e w' ⟨he, q, os, hw⟩
    have ed : (l.toArray.toList.mergeSort fun x y => !(ltOf (fun x y => Lib.compareInt y x)) y x) = downL l := by
      unfold downL
      congr 1
      funext x y
      rw [cmp_lt, Bool.eq_iff_iff]
      simp
    rw [ed] at hw
    have hp := put_row (l := l) (d := downL l) hB (by omega) (down_len l) q os
    change w' = grow (putRow (Value.int .i64) (Sort.ahead w q) g 0 (downL l).toArray) os at hw
    rw [← hw] at hp
    refine ⟨he, ?_, hp.2⟩
    unfold OwnI
    rw [down_len]
    refine blk_own hg hp.1 hn hm ?_ ?_
    · rw [List.length_append, cis_length, down_len, List.length_drop]; omega
    · rw [List.take_append_of_le_length (by rw [cis_length, down_len]; omega)]
      exact List.take_of_length_le (by rw [cis_length, down_len]; omega)
end Go.Proofs.Ytjibbbfpbflgmaa
