/-
  The crew's find over the code: a binary search with a closure.
-/
import Derived.Test.YtjibbbfpbflgmaaCrew0
import Derived.Test.YtjibbbfpbflgmaaShelf8
namespace Go.Proofs.Ytjibbbfpbflgmaa
open Go.RowKit Go.Shelf Go.Lib Go.Sort CrewP
set_option linter.unusedVariables false

set_option maxHeartbeats 800000 in
theorem findClo_any (ba bx : Nat) (A : Option Addr) (n c b off i : Nat) (x y : Int) (W : World) (hi : i < n) (hn : n ≤ 9223372036854775807)
    (ha : W.cell? ⟨ba, 0, none⟩ = some (.slice A n c)) (hA : A = some ⟨b, off, none⟩) (hx : W.cell? ⟨bx, 0, none⟩ = some (.int .i64 x)) (hc : W.cell? ⟨b, off + i, none⟩ = some (.int .i64 y)) :
    Calls Try.prog 62 (#[.int .i64 i] ++ #[.pointer (some ⟨ba, 0, none⟩), .pointer (some ⟨bx, 0, none⟩)]) W fun e w' => e = .returned (.bool (decide (x ≤ y))) ∧ ∃ q, w' = W.drewN q := by
  subst hA
  have hi0 : (0 : Int) ≤ i := by omega
  have hiz : (i : Int) < (n : Int) := by omega
  go_enter Try.func62, Try.ntmps62
  go_wp2
  go_region
  all_goals go_wp2
  all_goals go_ret
  all_goals exact ⟨by first | rfl | simp, 1, rfl⟩

theorem at_count (l : List Int) (x : Int) : (List.range l.toArray.size).countP (fun i => !decide (x ≤ l.toArray[i]!)) = at_ l x := by
  rw [Lib.countP_range l.toArray (fun y => !decide (x ≤ y))]
  unfold at_
  refine List.countP_congr fun y _ => ?_
  simp

set_option maxHeartbeats 1600000 in
theorem find_any (A : Option Addr) (n c : Nat) (l : List Int) (x : Int) (w : World) (h : ArgI w A n c l) (hn : n ≤ 1000000) (hs : Asc l) :
    Calls Try.prog 51 #[.slice A n c, .int .i64 x] w fun e w' => e = .returned (.tuple #[.int .i64 (at_ l x : Nat), .bool (decide (x ∈ l))]) ∧ Below w.heap.size w w' := by
  obtain ⟨W0, hW0⟩ : ∃ W0, W0 = (w.alloc (.cells #[.slice A n c] 22)).alloc (.cells #[.int .i64 x] 3) := ⟨_, rfl⟩
  have hsize : W0.heap.size = w.heap.size + 1 + 1 := by rw [hW0]; simp
  have ca : W0.cell? ⟨w.heap.size, 0, none⟩ = some (.slice A n c) := by rw [hW0]; exact cell_alloc_sl _ (cell_new_sl w _ _)
  have cx : W0.cell? ⟨w.heap.size + 1, 0, none⟩ = some (.int .i64 x) := by rw [hW0]; have := cell_new_sl (w.alloc (.cells #[.slice A n c] 22)) (.int .i64 x) 3; rwa [World.size_alloc] at this
  have hB0 : Below w.heap.size w W0 := by rw [hW0]; exact ((Below.refl _ w).alloc (Nat.le_refl _) _).alloc (by simp) _
  have h0 := h.after hB0
  have hln := h.1
  have hlc : ∀ i, (hi : i < l.length) → ∃ b off, A = some ⟨b, off, none⟩ ∧ b < W0.heap.size ∧ W0.cell? ⟨b, off + i, none⟩ = some (.int .i64 l.toArray[i]!) := fun i hi => by
    obtain ⟨b, off, e, hlt, hc⟩ := h0.2.2.2.1.at_ hi
    refine ⟨b, off, e, hlt, ?_⟩
    rw [hc i hi, getElem!_pos l.toArray i (by simpa using hi)]
    simp
  have eg : ∀ args w, (callFunc 62 args).run Try.prog w = .ok (.enter 62 args) w := enters_of Try.func62 (by kernel_rfl) rfl
  have hS := Any.sort_Search Try.search 62 #[.pointer (some ⟨w.heap.size, 0, none⟩), .pointer (some ⟨w.heap.size + 1, 0, none⟩)] l.toArray.size (fun i => decide (x ≤ l.toArray[i]!)) W0 eg (by simp; omega)
    (fun m os i hi => by
      obtain ⟨b, off, e, hlt, hc⟩ := hlc i (by simpa using hi)
      exact (findClo_any w.heap.size (w.heap.size + 1) A n c b off i x _ _ (by simp at hi; omega) (by omega) (cell_grown (by show w.heap.size < W0.heap.size; omega) ca m os) e (cell_grown (by show w.heap.size + 1 < W0.heap.size; omega) cx m os) (cell_grown hlt hc m os)).mono
        fun _ _ ⟨he, q, hq⟩ => ⟨he, q, #[], by rw [hq, grow_empty]⟩)
    (fun a b hab hb hp => by
      simp only [decide_eq_true_eq] at hp ⊢
      simp at hb
      rw [getElem!_pos l.toArray a (by simp; omega)] at hp
      rw [getElem!_pos l.toArray b (by simpa using hb)]
      simp only [List.getElem_toArray] at hp ⊢
      rcases Nat.lt_or_ge a b with hlt | hge
      · have := asc_lt hs (by omega) hb hlt; omega
      · have : a = b := by omega
        subst this; exact hp)
  rw [at_count] at hS
  have esz : ((l.toArray.size : Nat) : Int) = (n : Int) := by simp; omega
  rw [esz] at hS
  change Calls Try.prog 61 _ _ _ at hS
  have hle := at_le l x
  have hf := at_found hs x
  have hr : ∀ y, l.toArray[at_ l x]! = y → at_ l x < l.length → decide (x ∈ l) = (y == x) := fun y hy hi => by
    rw [getElem!_pos l.toArray _ (by simpa using hi)] at hy
    simp only [List.getElem_toArray] at hy
    rw [Bool.eq_iff_iff]
    simp only [decide_eq_true_eq, beq_iff_eq]
    exact ⟨fun hx => by obtain ⟨hi', e⟩ := hf.2 hx; rw [← hy, e], fun hx => hf.1 ⟨hi, by rw [hy, hx]⟩⟩
  have hr0 : ¬ at_ l x < l.length → decide (x ∈ l) = false := fun hi => by
    rw [decide_eq_false_iff_not]
    intro hx
    exact hi (hf.2 hx).1
  have hlk := hlc (at_ l x)
  have HS := Lib.hid hS
  have HB := Lib.hid hB0
  clear hS hB0 h0 hlc eg h hs hf
  obtain ⟨k, hk⟩ : ∃ k, at_ l x = k := ⟨_, rfl⟩
  rw [hk] at HS hle hr hr0 hlk ⊢
  clear hk
  by_cases hin : k < n
  · have hk0 : (0 : Int) ≤ k := by omega
    have hk1 : (k : Int) < n := by omega
    have hk2 : decide ((k : Int) < n) = true := by simp; omega
    obtain ⟨b, off, e, hlt, hc⟩ := hlk (by omega)
    obtain ⟨y, hy⟩ : ∃ y, l.toArray[k]! = y := ⟨_, rfl⟩
    rw [hr y hy (by omega)]
    rw [hy] at hc
    subst e
    have Hc := Lib.hid (And.intro ca (And.intro cx (And.intro hc hlt)))
    clear hr hr0 hlk hy ca cx hc hlt
    go_enter Try.func51, Try.ntmps51
    go_wp2_with (go_at_call 61; rw [← hW0]; refine HS.out.mono ?_; rintro e w3 ⟨rfl, q, os, hw3⟩; replace hw3 := Lib.hid hw3)
    have ca3 : w3.cell? ⟨w.heap.size, 0, none⟩ = some (.slice (some ⟨b, off, none⟩) n c) := by rw [hw3.out]; exact cell_grown (by show w.heap.size < W0.heap.size; omega) Hc.out.1 q os
    have cx3 : w3.cell? ⟨w.heap.size + 1, 0, none⟩ = some (.int .i64 x) := by rw [hw3.out]; exact cell_grown (by show w.heap.size + 1 < W0.heap.size; omega) Hc.out.2.1 q os
    have cc3 : w3.cell? ⟨b, off + k, none⟩ = some (.int .i64 y) := by rw [hw3.out]; exact cell_grown Hc.out.2.2.2 Hc.out.2.2.1 q os
    have hB3 : Below w.heap.size w w3 := by rw [hw3.out]; exact HB.out.trans (below_grown_sl w.heap.size W0 q os (by omega))
    have da3 : w3.drew.cell? ⟨w.heap.size, 0, none⟩ = some (.slice (some ⟨b, off, none⟩) n c) := ca3
    have dx3 : w3.drew.cell? ⟨w.heap.size + 1, 0, none⟩ = some (.int .i64 x) := cx3
    have dc3 : w3.drew.cell? ⟨b, off + k, none⟩ = some (.int .i64 y) := cc3
    have HB3 := Lib.hid hB3
    clear hB3 hw3 HS
    go_quiet (fail)
    go_wp2
    go_ret2
    exact ⟨rfl, below_drewN HB3.out _⟩
  · have hk1 : ¬ (k : Int) < n := by omega
    have hk2 : decide ((k : Int) < n) = false := by simp; omega
    rw [hr0 (by omega)]
    have Hc := Lib.hid (And.intro ca cx)
    clear hr hr0 hlk ca cx
    go_enter Try.func51, Try.ntmps51
    go_wp2_with (go_at_call 61; rw [← hW0]; refine HS.out.mono ?_; rintro e w3 ⟨rfl, q, os, hw3⟩; replace hw3 := Lib.hid hw3)
    have ca3 : w3.cell? ⟨w.heap.size, 0, none⟩ = some (.slice A n c) := by rw [hw3.out]; exact cell_grown (by show w.heap.size < W0.heap.size; omega) Hc.out.1 q os
    have hB3 : Below w.heap.size w w3 := by rw [hw3.out]; exact HB.out.trans (below_grown_sl w.heap.size W0 q os (by omega))
    have da3 : w3.drew.cell? ⟨w.heap.size, 0, none⟩ = some (.slice A n c) := ca3
    have HB3 := Lib.hid hB3
    clear hB3 hw3 HS
    go_quiet (fail)
    go_wp2
    go_ret2
    exact ⟨rfl, below_drewN HB3.out _⟩
end Go.Proofs.Ytjibbbfpbflgmaa
