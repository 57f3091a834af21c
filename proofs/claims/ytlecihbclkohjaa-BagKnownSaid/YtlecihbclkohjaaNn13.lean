/-
  Bags that are none, over the code.
-/
import Derived.Test.YtlecihbclkohjaaCa13
namespace Go.Proofs.Ytlecihbclkohjaa
open Go.RowKit Go.Maps
set_option linter.unusedVariables false
set_option linter.unusedSimpArgs false

/-- A bag that is none: nil, or one that New did not make. -/
def NoB (w : World) (pv : Option Addr) : Prop := pv = none ∨ ∃ g, pv = some ⟨g, 0, none⟩ ∧ Blk w g 61 [.bool false, .slice none 0 0, .int .i64 0, .int .i64 0]
theorem NoB.below {w w' : World} {pv : Option Addr} (h : NoB w pv) (hb : Below w.heap.size w w') : NoB w' pv := h.imp_right fun ⟨g, e, k⟩ => ⟨g, e, k.below hb k.lt⟩
section
variable {w : World} {pv : Option Addr}
theorem nnone (h : NoB w pv) : Calls Try.prog 39 #[.pointer pv] w fun e w' => e = .returned (.bool true) ∧ w' = w := by
  rcases h with rfl | ⟨g, rfl, h⟩
  · go_enter Try.func39, Try.ntmps39
    go_wp2
    go_ret
    exact ⟨rfl, rfl⟩
  · have c0 := h.cell (i := 0) rfl
    go_enter Try.func39, Try.ntmps39
    go_wp2
    go_ret
    exact ⟨rfl, rfl⟩
theorem nlen (h : NoB w pv) : Calls Try.prog 28 #[.pointer pv] w fun e w' => e = .returned (.int .i64 0) ∧ w' = w := by
  have H := Lib.hid (nnone h)
  clear h
  go_enter Try.func28, Try.ntmps28
  go_wp2_with fail
  refine H.out.mono ?_; rintro e w ⟨rfl, rfl⟩
  go_wp2
  go_ret
  exact ⟨rfl, rfl⟩
theorem nsent (h : NoB w pv) : Calls Try.prog 30 #[.pointer pv] w fun e w' => e = .returned (.int .i64 0) ∧ w' = w := by
  have H := Lib.hid (nnone h)
  clear h
  go_enter Try.func30, Try.ntmps30
  go_wp2_with fail
  refine H.out.mono ?_; rintro e w ⟨rfl, rfl⟩
  go_wp2
  go_ret
  exact ⟨rfl, rfl⟩
theorem nlost (h : NoB w pv) : Calls Try.prog 32 #[.pointer pv] w fun e w' => e = .returned (.int .i64 0) ∧ w' = w := by
  have H := Lib.hid (nnone h)
  clear h
  go_enter Try.func32, Try.ntmps32
  go_wp2_with fail
  refine H.out.mono ?_; rintro e w ⟨rfl, rfl⟩
  go_wp2
  go_ret
  exact ⟨rfl, rfl⟩
theorem nlacks (h : NoB w pv) (i : Int) : Calls Try.prog 47 #[.pointer pv, .int .i64 i] w fun e w' => e = .returned (.int .i64 1) ∧ w' = w := by
  have H := Lib.hid (nnone h)
  clear h
  go_enter Try.func47, Try.ntmps47
  go_wp2_with fail
  refine H.out.mono ?_; rintro e w ⟨rfl, rfl⟩
  go_wp2
  go_ret
  exact ⟨rfl, rfl⟩
theorem ndrop (h : NoB w pv) (i : Int) : Calls Try.prog 22 #[.pointer pv, .int .i64 i] w fun e w' => e = .returned (.int .i64 1) ∧ w' = w := by
  have H := Lib.hid (nlacks h i)
  clear h
  go_enter Try.func22, Try.ntmps22
  go_wp2_with fail
  refine H.out.mono ?_; rintro e w ⟨rfl, rfl⟩
  go_wp2
  go_ret
  exact ⟨rfl, rfl⟩
theorem ndbl (h : NoB w pv) (i : Int) : Calls Try.prog 24 #[.pointer pv, .int .i64 i] w fun e w' => e = .returned (.int .i64 1) ∧ w' = w := by
  have H := Lib.hid (nlacks h i)
  clear h
  go_enter Try.func24, Try.ntmps24
  go_wp2_with fail
  refine H.out.mono ?_; rintro e w ⟨rfl, rfl⟩
  go_wp2
  go_ret
  exact ⟨rfl, rfl⟩
theorem nnext (h : NoB w pv) (s : Int) : Calls Try.prog 26 #[.pointer pv, .int .i64 s] w fun e w' => e = .returned (.int .i64 (-1)) ∧ Below w.heap.size w w' := by
  obtain ⟨w1, hw1⟩ : ∃ w1, w.alloc (.cells #[.int .i64 s] 3) = w1 := ⟨_, rfl⟩
  have b1 : Below w.heap.size w w1 := by rw [← hw1]; exact (Below.refl _ _).alloc (Nat.le_refl _) _
  have H := Lib.hid (And.intro (nnone (h.below b1)) b1)
  clear h b1
  go_enter Try.func26, Try.ntmps26
  go_wp2_with fail
  refine H.out.1.mono ?_; rintro e w1 ⟨rfl, rfl⟩
  go_wp2
  go_ret
  exact ⟨rfl, H.out.2⟩
theorem nput (h : NoB w pv) (f t : Int) (a : Option Addr) (n c : Nat) : Calls Try.prog 13 #[.pointer pv, .agg #[.int .i64 f, .int .i64 t, .slice a n c]] w fun e w' => e = .returned (.int .i64 1) ∧ Below w.heap.size w w' := by
  obtain ⟨w1, hw1⟩ : ∃ w1, w.alloc (.cells #[.int .i64 f, .int .i64 t, .slice a n c] 29) = w1 := ⟨_, rfl⟩
  have b1 : Below w.heap.size w w1 := by rw [← hw1]; exact (Below.refl _ _).alloc (Nat.le_refl _) _
  have H := Lib.hid (And.intro (nnone (h.below b1)) b1)
  clear h b1
  go_enter Try.func13, Try.ntmps13
  go_wp2_with fail
  refine H.out.1.mono ?_; rintro e w1 ⟨rfl, rfl⟩
  go_wp2
  go_ret
  exact ⟨rfl, H.out.2⟩
def NoT (w : World) (e : Ending) (w' : World) : Prop := e = .returned (.tuple #[.agg #[.int .i64 0, .int .i64 0, .slice none 0 0], .int .i64 1]) ∧ Below w.heap.size w w'
theorem nlook (h : NoB w pv) (i : Int) : Calls Try.prog 18 #[.pointer pv, .int .i64 i] w (NoT w) := by
  obtain ⟨w1, hw1⟩ : ∃ w1, w.alloc (.cells #[.int .i64 0, .int .i64 0, .slice none 0 0] 29) = w1 := ⟨_, rfl⟩
  have b1 : Below w.heap.size w w1 := by rw [← hw1]; exact (Below.refl _ _).alloc (Nat.le_refl _) _
  have B1 : Blk w1 w.heap.size 29 [.int .i64 0, .int .i64 0, .slice none 0 0] := by rw [← hw1]; exact Blk.new rfl rfl
  have z1 := b1.size
  have H := Lib.hid (And.intro (nlacks (h.below b1) i) (And.intro b1 B1))
  have e0 := B1.cell (i := 0) rfl
  have e1 := B1.cell (i := 1) rfl
  have e2 := B1.cell (i := 2) rfl
  have f0 := B1.free 0
  have f1 := B1.free 1
  have f2 := B1.free 2
  clear h b1 B1
  go_enter Try.func18, Try.ntmps18
  go_wp2_with fail
  refine H.out.1.mono ?_; rintro e w1 ⟨rfl, rfl⟩
  go_wp2
  obtain ⟨q1, q2⟩ := three (K := fun _ => True) (.int .i64 0) (.int .i64 0) (.slice none 0 0) H.out.2.2
  refine bodyPost_ret (results_row_tmp rfl _ _ w.heap.size 29 _ _ _ rfl rfl q1 Try.underlying29 rfl env_size) rfl ?_
  exact ⟨rfl, H.out.2.1.trans (q2.above (fun i e => by omega) z1)⟩
theorem ntake (h : NoB w pv) (i : Int) : Calls Try.prog 20 #[.pointer pv, .int .i64 i] w (NoT w) := by
  obtain ⟨w1, hw1⟩ : ∃ w1, w.alloc (.cells #[.int .i64 0, .int .i64 0, .slice none 0 0] 29) = w1 := ⟨_, rfl⟩
  have b1 : Below w.heap.size w w1 := by rw [← hw1]; exact (Below.refl _ _).alloc (Nat.le_refl _) _
  have B1 : Blk w1 w.heap.size 29 [.int .i64 0, .int .i64 0, .slice none 0 0] := by rw [← hw1]; exact Blk.new rfl rfl
  have z1 := b1.size
  have H := Lib.hid (And.intro (nlacks (h.below b1) i) (And.intro b1 B1))
  have e0 := B1.cell (i := 0) rfl
  have e1 := B1.cell (i := 1) rfl
  have e2 := B1.cell (i := 2) rfl
  have f0 := B1.free 0
  have f1 := B1.free 1
  have f2 := B1.free 2
  clear h b1 B1
  go_enter Try.func20, Try.ntmps20
  go_wp2_with fail
  refine H.out.1.mono ?_; rintro e w1 ⟨rfl, rfl⟩
  go_wp2
  obtain ⟨q1, q2⟩ := three (K := fun _ => True) (.int .i64 0) (.int .i64 0) (.slice none 0 0) H.out.2.2
  refine bodyPost_ret (results_row_tmp rfl _ _ w.heap.size 29 _ _ _ rfl rfl q1 Try.underlying29 rfl env_size) rfl ?_
  exact ⟨rfl, H.out.2.1.trans (q2.above (fun i e => by omega) z1)⟩
end
end Go.Proofs.Ytlecihbclkohjaa
