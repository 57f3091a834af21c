/-
  Closed: the chapter's examples; SumKnown returns true; no condition.
-/
import Derived.Test.YtdfphefhabgjhaaOpen
import Derived.Test.YtdfphefhabgjhaaAid6
namespace Go.Proofs.Ytdfphefhabgjhaa.sumKnown
open Go.ChangeShapes Go.WideShapes Go.ChangeAt Go.RowKit
set_option linter.unusedVariables false

set_option maxRecDepth 100000 in
set_option maxHeartbeats 1600000 in
theorem walk  (w : World)  :
    Calls Try.prog 13 #[] w fun e w' => e = .returned (.bool true) ∧ Below w.heap.size w w' := by
  have s00 := fun w => step_any 0 0 w
  have s10 := fun w => step_any 1 0 w
  have s11 := fun w => step_any 1 1 w
  rw [step_00] at s00
  rw [step_10] at s10
  rw [step_11] at s11
  have s00' : ∀ w, Calls Try.prog 14 #[.int .u64 0, .int .u8 0] w fun e w' => e = .returned (.int .u64 0) ∧ w' = w := s00
  have s10' : ∀ w, Calls Try.prog 14 #[.int .u64 1, .int .u8 0] w fun e w' => e = .returned (.int .u64 12911341560706588527) ∧ w' = w := s10
  have s11' : ∀ w, Calls Try.prog 14 #[.int .u64 1, .int .u8 1] w fun e w' => e = .returned (.int .u64 0) ∧ w' = w := s11
  have hnil := fun w => of_any none 0 0 [] w (Bs.nil w none) rfl (by decide)
  have hofn : ofC [] = 0 := addC_nil 0
  rw [hofn] at hnil
  have hnil' : ∀ w, Calls Try.prog 18 #[.slice none 0 0] w fun e w' => e = .returned (.int .u64 0) ∧ Below w.heap.size w w' := hnil
  obtain ⟨v4, hv4⟩ : ∃ v, ofC [49, 50, 51, 52] = v := ⟨_, rfl⟩
  have hof4 := fun w A c (h : Bs w A [49, 50, 51, 52]) => of_any A c 4 [49, 50, 51, 52] w h rfl (by decide)
  rw [hv4] at hof4
  have had5 := fun w A c (h : Bs w A [53, 54, 55, 56, 57]) => add_any v4 A c 5 [53, 54, 55, 56, 57] w h rfl (by decide)
  have h9 : addC v4 [53, 54, 55, 56, 57] = 11051210869376104954 := by rw [← hv4, ofC_app]; exact crc_known
  rw [h9] at had5
  have had5' : ∀ w A c (h : Bs w A [53, 54, 55, 56, 57]), Calls Try.prog 21 #[.int .u64 (v4.toNat : Int), .slice A 5 c] w fun e w' => e = .returned (.int .u64 11051210869376104954) ∧ Below w.heap.size w w' := had5
  have h77 := fun w => add_any 77 none 0 0 [] w (Bs.nil w none) rfl (by decide)
  rw [addC_nil] at h77
  have h77' : ∀ w, Calls Try.prog 21 #[.int .u64 77, .slice none 0 0] w fun e w' => e = .returned (.int .u64 77) ∧ Below w.heap.size w w' := h77
  obtain ⟨v0, hv0⟩ : ∃ v, ofC [0] = v := ⟨_, rfl⟩
  have hof1 := fun w A c (h : Bs w A [0]) => of_any A c 1 [0] w h rfl (by decide)
  rw [hv0] at hof1
  have had1 := fun w A c (h : Bs w A [0]) => add_any 0 A c 1 [0] w h rfl (by decide)
  have had0 : addC 0 [0] = v0 := hv0
  rw [had0] at had1
  have had1' : ∀ w A c (h : Bs w A [0]), Calls Try.prog 21 #[.int .u64 0, .slice A 1 c] w fun e w' => e = .returned (.int .u64 (v0.toNat : Int)) ∧ Below w.heap.size w w' := had1
  have hne : ((v0.toNat : Int) != 0) = true := by
    have h := crc_nought
    rw [hv0] at h
    have h2 : v0.toNat ≠ 0 := fun e => h (UInt64.toNat_inj.1 e)
    simp
    exact fun e => h2 (by rw [e]; try rfl)
  generalize (v0.toNat : Int) = v0i at *
  generalize (v4.toNat : Int) = v4i at *
  have H00 := Lib.hid s00'
  have H10 := Lib.hid s10'
  have H11 := Lib.hid s11'
  have Hnil := Lib.hid hnil'
  have Hof4 := Lib.hid hof4
  have Had5 := Lib.hid had5'
  have H77 := Lib.hid h77'
  have Hof1 := Lib.hid hof1
  have Had1 := Lib.hid had1'
  clear s00 s10 s11 s00' s10' s11' hnil hnil' hofn hv4 hof4 had5 had5' h9 h77 h77' hv0 hof1 had1 had1' had0
  have kc := fun (w : World) (C : Array Value) (n c : Nat) => Lib.run_convert_bytes_const (P := Try.prog) w 26 5 C n c Try.underlying26 Try.underlying5
  go_enter Try.func13, Try.ntmps13
  go_wp2_with fail
  refine (works6_any _).mono ?_
  rintro e w1 ⟨rfl, b1⟩
  have T1 := Lib.hid b1
  clear b1
  go_wp2_with fail
  refine (Hnil.out _).mono ?_
  rintro e w2 ⟨rfl, b2⟩
  have T2 := Lib.hid (T1.out.trans (b2.mono T1.out.size))
  clear b2 T1
  go_wp2_with fail
  refine (H00.out _).mono ?_
  rintro e w' ⟨rfl, rfl⟩
  go_wp2_with fail
  refine (H10.out _).mono ?_
  rintro e w' ⟨rfl, rfl⟩
  go_wp2_with fail
  refine (H11.out _).mono ?_
  rintro e w2 ⟨rfl, rfl⟩
  go_wp2_with fail
  refine (Hof4.out _ _ _ (Bs.made _ _ #[.int .u8 49, .int .u8 50, .int .u8 51, .int .u8 52] _ [49, 50, 51, 52] rfl)).mono ?_
  rintro e w3 ⟨rfl, b3⟩
  have T3 := Lib.hid (bel_step T2.out T2.out.size b3)
  clear b3 T2
  go_wp2_with fail
  refine (Had5.out _ _ _ (Bs.made _ _ #[.int .u8 53, .int .u8 54, .int .u8 55, .int .u8 56, .int .u8 57] _ [53, 54, 55, 56, 57] rfl)).mono ?_
  rintro e w4 ⟨rfl, b4⟩
  have T4 := Lib.hid (bel_step T3.out T3.out.size b4)
  clear b4 T3
  go_wp2_with fail
  refine (H77.out _).mono ?_
  rintro e w5 ⟨rfl, b5⟩
  have T5 := Lib.hid (T4.out.trans (b5.mono T4.out.size))
  clear b5 T4
  go_wp2_with fail
  refine (Hof1.out _ _ _ (Bs.made _ _ #[.int .u8 0] _ [0] rfl)).mono ?_
  rintro e w6 ⟨rfl, b6⟩
  have T6 := Lib.hid (bel_step T5.out T5.out.size b6)
  clear b6 T5
  go_wp2_with fail
  refine (Had1.out _ _ _ (Bs.made _ _ #[.int .u8 0] _ [0] rfl)).mono ?_
  rintro e w7 ⟨rfl, b7⟩
  have T7 := Lib.hid (bel_step T6.out T6.out.size b7)
  clear b7 T6
  go_wp2_with fail
  refine (Hof1.out _ _ _ (Bs.made _ _ #[.int .u8 0] _ [0] rfl)).mono ?_
  rintro e w8 ⟨rfl, b8⟩
  have T8 := Lib.hid (bel_step T7.out T7.out.size b8)
  clear b8 T7
  go_wp2_with fail
  go_ret
  exact ⟨rfl, T8.out⟩

end Go.Proofs.Ytdfphefhabgjhaa.sumKnown
