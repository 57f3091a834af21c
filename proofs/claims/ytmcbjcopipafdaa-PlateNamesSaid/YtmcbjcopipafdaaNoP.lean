/-
  Plates that are none: no plate at all, or one that New did not make: what each call answers.
-/
import Derived.Test.YtmcbjcopipafdaaPlate
namespace Go.Proofs.Ytmcbjcopipafdaa
open Go.RowKit
set_option linter.unusedVariables false

/-- No plate, or one of nothing. -/
def NoP (w : World) (v : Value) : Prop := v = .pointer none ∨ ∃ g, v = .pointer (some ⟨g, 0, none⟩) ∧ w.cell? ⟨g, 0, none⟩ = some (.slice none 0 0)
theorem eqlNoSectors (w : World) : (binOp .eql 36 (.slice none 0 0) (.slice none 0 0)).run Try.prog w = .ok (.bool true) w := by kernel_rfl
section
variable {w : World} {v : Value}
set_option maxRecDepth 100000 in
theorem no_none (h : NoP w v) : Calls Try.prog 19 #[v] w fun e w' => e = .returned (.bool true) ∧ w' = w := by
  have heq := eqlNoSectors
  rcases h with rfl | ⟨g, rfl, c0⟩
  · go_enter Try.func19, Try.ntmps19
    go_wp2
    go_ret
    exact ⟨rfl, rfl⟩
  · go_enter Try.func19, Try.ntmps19
    go_wp2
    go_ret
    exact ⟨rfl, rfl⟩
set_option maxRecDepth 100000 in
theorem no_refuses (h : NoP w v) : Calls Try.prog 21 #[v] w fun e w' => e = .returned (.int .i64 1) ∧ w' = w := by
  have Hc := Lib.hid (no_none h)
  clear h
  have hnot : ∀ (x : Bool) (w : World), (Op.unary .not (.bool x)).run Try.prog w = .ok (.bool (!x)) w := fun _ _ => rfl
  go_enter Try.func21, Try.ntmps21
  go_wp2_with (go_at_call 19; refine Hc.out.mono ?_; rintro e w' ⟨rfl, rfl⟩)
  go_ret
  exact ⟨rfl, rfl⟩
set_option maxRecDepth 100000 in
theorem no_lacks (h : NoP w v) (x : Int) : Calls Try.prog 17 #[v, .int .i64 x] w fun e w' => e = .returned (.int .i64 1) ∧ w' = w := by
  have Hc := Lib.hid (no_refuses h)
  clear h
  have hnot : ∀ (x : Bool) (w : World), (Op.unary .not (.bool x)).run Try.prog w = .ok (.bool (!x)) w := fun _ _ => rfl
  go_enter Try.func17, Try.ntmps17
  go_wp2_with (go_at_call 21; refine Hc.out.mono ?_; rintro e w' ⟨rfl, rfl⟩)
  go_ret
  exact ⟨rfl, rfl⟩
set_option maxRecDepth 100000 in
theorem no_size (h : NoP w v) : Calls Try.prog 5 #[v] w fun e w' => e = .returned (.int .i64 0) ∧ w' = w := by
  have Hc := Lib.hid (no_none h)
  clear h
  have hnot : ∀ (x : Bool) (w : World), (Op.unary .not (.bool x)).run Try.prog w = .ok (.bool (!x)) w := fun _ _ => rfl
  go_enter Try.func5, Try.ntmps5
  go_wp2_with (go_at_call 19; refine Hc.out.mono ?_; rintro e w' ⟨rfl, rfl⟩)
  go_ret
  exact ⟨rfl, rfl⟩
set_option maxRecDepth 100000 in
theorem no_waits (h : NoP w v) : Calls Try.prog 8 #[v] w fun e w' => e = .returned (.slice none 0 0) ∧ w' = w := by
  have Hc := Lib.hid (no_none h)
  clear h
  have hnot : ∀ (x : Bool) (w : World), (Op.unary .not (.bool x)).run Try.prog w = .ok (.bool (!x)) w := fun _ _ => rfl
  go_enter Try.func8, Try.ntmps8
  go_wp2_with (go_at_call 19; refine Hc.out.mono ?_; rintro e w' ⟨rfl, rfl⟩)
  go_ret
  exact ⟨rfl, rfl⟩
set_option maxRecDepth 100000 in
theorem no_dead (h : NoP w v) : Calls Try.prog 12 #[v] w fun e w' => e = .returned (.bool false) ∧ w' = w := by
  have Hc := Lib.hid (no_none h)
  clear h
  have hnot : ∀ (x : Bool) (w : World), (Op.unary .not (.bool x)).run Try.prog w = .ok (.bool (!x)) w := fun _ _ => rfl
  go_enter Try.func12, Try.ntmps12
  go_wp2_with (go_at_call 19; refine Hc.out.mono ?_; rintro e w' ⟨rfl, rfl⟩)
  go_ret
  exact ⟨rfl, rfl⟩
set_option maxRecDepth 100000 in
theorem no_boot (h : NoP w v) : Calls Try.prog 11 #[v] w fun e w' => e = .returned (.int .i64 1) ∧ w' = w := by
  have Hc := Lib.hid (no_none h)
  clear h
  have hnot : ∀ (x : Bool) (w : World), (Op.unary .not (.bool x)).run Try.prog w = .ok (.bool (!x)) w := fun _ _ => rfl
  go_enter Try.func11, Try.ntmps11
  go_wp2_with (go_at_call 19; refine Hc.out.mono ?_; rintro e w' ⟨rfl, rfl⟩)
  go_ret
  exact ⟨rfl, rfl⟩
set_option maxRecDepth 100000 in
theorem no_flush (h : NoP w v) : Calls Try.prog 7 #[v] w fun e w' => e = .returned (.int .i64 1) ∧ w' = w := by
  have Hc := Lib.hid (no_refuses h)
  clear h
  have hnot : ∀ (x : Bool) (w : World), (Op.unary .not (.bool x)).run Try.prog w = .ok (.bool (!x)) w := fun _ _ => rfl
  go_enter Try.func7, Try.ntmps7
  go_wp2_with (go_at_call 21; refine Hc.out.mono ?_; rintro e w' ⟨rfl, rfl⟩)
  go_ret
  exact ⟨rfl, rfl⟩
set_option maxRecDepth 100000 in
theorem no_crash (h : NoP w v) (kv : Value) : Calls Try.prog 10 #[v, kv] w fun e w' => e = .returned (.int .i64 1) ∧ w' = w := by
  have Hc := Lib.hid (no_refuses h)
  clear h
  have hnot : ∀ (x : Bool) (w : World), (Op.unary .not (.bool x)).run Try.prog w = .ok (.bool (!x)) w := fun _ _ => rfl
  go_enter Try.func10, Try.ntmps10
  go_wp2_with (go_at_call 21; refine Hc.out.mono ?_; rintro e w' ⟨rfl, rfl⟩)
  go_ret
  exact ⟨rfl, rfl⟩
set_option maxRecDepth 100000 in
theorem no_fail (h : NoP w v) (x : Int) (kv : Value) : Calls Try.prog 9 #[v, .int .i64 x, kv] w fun e w' => e = .returned (.int .i64 1) ∧ w' = w := by
  have Hc := Lib.hid (no_refuses h)
  clear h
  have hnot : ∀ (x : Bool) (w : World), (Op.unary .not (.bool x)).run Try.prog w = .ok (.bool (!x)) w := fun _ _ => rfl
  go_enter Try.func9, Try.ntmps9
  go_wp2_with (go_at_call 21; refine Hc.out.mono ?_; rintro e w' ⟨rfl, rfl⟩)
  go_ret
  exact ⟨rfl, rfl⟩
set_option maxRecDepth 100000 in
theorem no_write (h : NoP w v) (x : Int) (bv : Value) : Calls Try.prog 6 #[v, .int .i64 x, bv] w fun e w' => e = .returned (.int .i64 1) ∧ w' = w := by
  have Hc := Lib.hid (no_lacks h x)
  clear h
  have hnot : ∀ (x : Bool) (w : World), (Op.unary .not (.bool x)).run Try.prog w = .ok (.bool (!x)) w := fun _ _ => rfl
  go_enter Try.func6, Try.ntmps6
  go_wp2_with (go_at_call 17; refine Hc.out.mono ?_; rintro e w' ⟨rfl, rfl⟩)
  go_ret
  exact ⟨rfl, rfl⟩
set_option maxRecDepth 100000 in
theorem no_turn (h : NoP w v) (x y : Int) : Calls Try.prog 13 #[v, .int .i64 x, .int .i64 y] w fun e w' => e = .returned (.int .i64 1) ∧ w' = w := by
  have Hc := Lib.hid (no_lacks h x)
  clear h
  have hnot : ∀ (x : Bool) (w : World), (Op.unary .not (.bool x)).run Try.prog w = .ok (.bool (!x)) w := fun _ _ => rfl
  go_enter Try.func13, Try.ntmps13
  go_wp2_with (go_at_call 17; refine Hc.out.mono ?_; rintro e w' ⟨rfl, rfl⟩)
  go_ret
  exact ⟨rfl, rfl⟩
set_option maxRecDepth 100000 in
theorem no_read (h : NoP w v) (x : Int) : Calls Try.prog 4 #[v, .int .i64 x] w fun e w' => e = .returned (.tuple #[.slice none 0 0, .int .i64 1]) ∧ w' = w := by
  have Hc := Lib.hid (no_lacks h x)
  clear h
  have hnot : ∀ (x : Bool) (w : World), (Op.unary .not (.bool x)).run Try.prog w = .ok (.bool (!x)) w := fun _ _ => rfl
  go_enter Try.func4, Try.ntmps4
  go_wp2_with (go_at_call 17; refine Hc.out.mono ?_; rintro e w' ⟨rfl, rfl⟩)
  go_ret2
  exact ⟨rfl, rfl⟩
end
end Go.Proofs.Ytmcbjcopipafdaa
