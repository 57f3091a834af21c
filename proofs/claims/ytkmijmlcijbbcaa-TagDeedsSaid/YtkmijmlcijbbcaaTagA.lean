/-
  The ledger's small calls, over the code; the statements' helpers digest and Bring.
-/
import Derived.Test.YtkmijmlcijbbcaaLed
import Derived.Outline
import Derived.Laws.LoneSync
import Derived.Carry
import Derived.Deep.RegionHeld3
import Derived.Deep.RegionWith
import Derived.Deep.DeepCutAuto
namespace Go.Proofs.Ytkmijmlcijbbcaa
open Go.RowKit Go.Maps
set_option linter.unusedVariables false

theorem eqlSomeMap (bm : Nat) (w : World) : (binOp .eql 43 (.map (some bm)) (.map none)).run Try.prog w = .ok (.bool false) w := by kernel_rfl

set_option maxRecDepth 100000 in
theorem none_any (g m k : Nat) (w : World) (h : Blk w g 50 (lcells m k)) : Calls Try.prog 21 #[.pointer (some ⟨g, 0, none⟩)] w fun e w' => e = .returned (.bool false) ∧ w' = w := by
  have c0 : w.cell? ⟨g, 0, none⟩ = some (.map (some m)) := h.cell rfl
  clear h
  have heq := eqlSomeMap
  go_enter Try.func21, Try.ntmps21
  go_wp2
  go_ret
  exact ⟨rfl, rfl⟩

theorem isn_any (x : Int) (w : World) : Calls Try.prog 22 #[.int .i64 x] w fun e w' => e = .returned (.bool (isN x)) ∧ w' = w := by
  by_cases h1 : 1 ≤ x
  · by_cases h2 : x ≤ 34
    · have e : isN x = true := by simp [isN, h1, h2]
      rw [e]
      clear e
      go_enter Try.func22, Try.ntmps22
      go_wp2
      go_ret
      exact ⟨rfl, rfl⟩
    · have e : isN x = false := by simp [isN, h2]
      rw [e]
      clear e
      go_enter Try.func22, Try.ntmps22
      go_wp2
      go_ret
      exact ⟨rfl, rfl⟩
  · have e : isN x = false := by simp [isN, h1]
    rw [e]
    clear e
    go_enter Try.func22, Try.ntmps22
    go_wp2
    go_ret
    exact ⟨rfl, rfl⟩

theorem len_any (g m k : Nat) (T : List Tg) (w : World) (h : LedAt w g m T k) : Calls Try.prog 16 #[.pointer (some ⟨g, 0, none⟩)] w fun e w' => e = .returned (.int .i64 (T.length : Int)) ∧ w' = w := by
  have c0 : w.cell? ⟨g, 0, none⟩ = some (.map (some m)) := h.1.cell rfl
  have hlen := h.2.len
  have Hno := Lib.hid (none_any g m k w h.1)
  clear h
  go_enter Try.func16, Try.ntmps16
  go_wp2_with (go_at_call 21; refine Hno.out.mono ?_; rintro e w' ⟨rfl, rfl⟩)
  go_ret
  exact ⟨rfl, rfl⟩

set_option maxRecDepth 100000 in
theorem load_any (g : Nat) (n : Int) (w : World) (h : w.cell? ⟨g, 1, none⟩ = some (.int .i64 n)) : Calls Try.prog 29 #[.pointer (some ⟨g, 1, none⟩)] w fun e w' => e = .returned (.int .i64 n) ∧ w' = w := by
  have hl := run_call_load (P := Try.prog) Try.func31 (by kernel_rfl) (by kernel_rfl) (by kernel_rfl) .i64 (by kernel_rfl) h
  go_enter Try.func29, Try.ntmps29
  go_wp2
  go_ret
  exact ⟨rfl, rfl⟩

set_option maxRecDepth 100000 in
theorem add_any (g : Nat) (n : Nat) (hn : n < 1000000000) (w : World) (h : w.cell? ⟨g, 1, none⟩ = some (.int .i64 (n : Int))) (hz : w.frozen? ⟨g, 1, none⟩ = false) : Calls Try.prog 26 #[.pointer (some ⟨g, 1, none⟩), .int .i64 1] w fun e w' => e = .returned (.int .i64 ((n + 1 : Nat) : Int)) ∧ w' = w.setCell ⟨g, 1, none⟩ (.int .i64 ((n + 1 : Nat) : Int)) := by
  have hadd := run_call_add (P := Try.prog) Try.func30 (by kernel_rfl) (by kernel_rfl) (by kernel_rfl) .i64 (by kernel_rfl) (y := 1) (s := ((n + 1 : Nat) : Int)) h hz (by have := IntWalk.i64_in ((n : Int) + 1) (by omega); unfold Op.intArith; simp [this])
  go_enter Try.func26, Try.ntmps26
  go_wp2
  go_ret
  exact ⟨rfl, rfl⟩

theorem asked_any (g m k : Nat) (T : List Tg) (w : World) (h : LedAt w g m T k) : Calls Try.prog 18 #[.pointer (some ⟨g, 0, none⟩)] w fun e w' => e = .returned (.int .i64 (k : Int)) ∧ w' = w := by
  have Hno := Lib.hid (none_any g m k w h.1)
  have Hl := Lib.hid (load_any g (k : Int) w (h.1.cell rfl))
  clear h
  go_enter Try.func18, Try.ntmps18
  go_wp2_with (first | (go_at_call 21; refine Hno.out.mono ?_; rintro e w' ⟨rfl, rfl⟩) | (go_at_call 29; refine Hl.out.mono ?_; rintro e w' ⟨rfl, rfl⟩))
  go_ret
  exact ⟨rfl, rfl⟩

theorem new_any (w : World) : Calls Try.prog 4 #[] w fun e w' => ∃ g m, e = .returned (.pointer (some ⟨g, 0, none⟩)) ∧ w.heap.size ≤ g ∧ w.heap.size ≤ m ∧ LedAt w' g m [] 0 ∧ Below w.heap.size w w' := by
  have hmm := @run_makeMap Try.prog
  go_enter Try.func4, Try.ntmps4
  go_wp2
  go_ret
  have hst := new_led w
  have hblk : Blk ((w.alloc (.map #[] 0)).alloc (.cells (lcells w.heap.size 0).toArray 50)) (w.heap.size + 1) 50 (lcells w.heap.size 0) := Blk.new rfl (by simp)
  exact ⟨w.heap.size + 1, w.heap.size, rfl, by omega, Nat.le_refl _, ⟨hblk, hst.stay (heap_alloc_old _ _ (by simp))⟩,
    ((Below.refl _ _).alloc (Nat.le_refl _) _).alloc (by simp) _⟩

/-! ### The statements' helpers -/
theorem bring3_any (i : Int) (w : World) (hi : Wf i) : Calls Try.prog 8 #[.int .i64 i, .int .i64 3] w fun e w' => e = .returned (.int .i64 (i % 3)) ∧ w' = w := by
  have hb := bounds_i64 hi
  by_cases h0 : 0 ≤ i
  · have hm0 := Int.emod_nonneg i (by omega : (3 : Int) ≠ 0)
    have hm1 : ¬ i % 3 < 0 := by omega
    go_enter Try.func8, Try.ntmps8
    go_wp2
    go_ret
    exact ⟨rfl, rfl⟩
  · have e1 : (-i).tmod 3 = -(i.tmod 3) := Int.neg_tmod i 3
    have e2 : (-i).tmod 3 = (-i) % 3 := Int.tmod_eq_emod_of_nonneg (by omega)
    by_cases hs : i.tmod 3 < 0
    · have e : i % 3 = i.tmod 3 + 3 := by omega
      have hl1 : -3 < i.tmod 3 := by omega
      rw [e]
      clear e e1 e2
      go_enter Try.func8, Try.ntmps8
      go_wp2
      go_ret
      exact ⟨rfl, rfl⟩
    · have e : i % 3 = i.tmod 3 := by omega
      rw [e]
      clear e e1 e2
      go_enter Try.func8, Try.ntmps8
      go_wp2
      go_ret
      exact ⟨rfl, rfl⟩
end Go.Proofs.Ytkmijmlcijbbcaa
