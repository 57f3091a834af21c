/-
  Closed: the numbers and examples, both ends, plates that are none; PlateNames returns true; no condition.
-/
import Derived.Test.YtmcbjcopipafdaaOpen
import Derived.Test.YtmcbjcopipafdaaLit5
import Derived.Test.YtmcbjcopipafdaaNoP
import Derived.Test.YtmcbjcopipafdaaPlatePlaysW
import Derived.Test.YtmcbjcopipafdaaAwake
import Derived.Deep.RegionHeld3
import Derived.Deep.RegionWith
import Derived.Deep.DeepCutAuto
namespace Go.Proofs.Ytmcbjcopipafdaa.plateNames
open Go.ChangeShapes Go.WideShapes Go.ChangeAt Go.RowKit
set_option linter.unusedVariables false

theorem lit133 (a : Act) (h : a.tmps.size = 133) : ∃ f : Nat → Value, a = { tmps := #[f 0, f 1, f 2, f 3, f 4, f 5, f 6, f 7, f 8, f 9, f 10, f 11, f 12, f 13, f 14, f 15, f 16, f 17, f 18, f 19, f 20, f 21, f 22, f 23, f 24, f 25, f 26, f 27, f 28, f 29, f 30, f 31, f 32, f 33, f 34, f 35, f 36, f 37, f 38, f 39, f 40, f 41, f 42, f 43, f 44, f 45, f 46, f 47, f 48, f 49, f 50, f 51, f 52, f 53, f 54, f 55, f 56, f 57, f 58, f 59, f 60, f 61, f 62, f 63, f 64, f 65, f 66, f 67, f 68, f 69, f 70, f 71, f 72, f 73, f 74, f 75, f 76, f 77, f 78, f 79, f 80, f 81, f 82, f 83, f 84, f 85, f 86, f 87, f 88, f 89, f 90, f 91, f 92, f 93, f 94, f 95, f 96, f 97, f 98, f 99, f 100, f 101, f 102, f 103, f 104, f 105, f 106, f 107, f 108, f 109, f 110, f 111, f 112, f 113, f 114, f 115, f 116, f 117, f 118, f 119, f 120, f 121, f 122, f 123, f 124, f 125, f 126, f 127, f 128, f 129, f 130, f 131, f 132], defers := a.defers } ∧ ∀ i v, a.tmps[i]? = some v → f i = v := by
  refine ⟨fun i => a.tmps.getD i undef, ?_, fun i v hv => by simp only [Array.getD_eq_getD_getElem?, hv]; rfl⟩
  have e : a.tmps = ((List.range 133).map fun i => a.tmps.getD i undef).toArray := by
    apply Array.ext
    · simp [h]
    · intro i h1 h2
      simp [Array.getD_eq_getD_getElem?, h1]
  cases a with
  | mk t d =>
    simp only [Act.mk.injEq, and_true]
    exact e
theorem noP_new (w : World) (t : TypeId) : NoP (w.alloc (.cells #[.slice none 0 0, .map none, .bool false, .int .i64 0, .slice none 0 0] t)) (.pointer (some ⟨w.heap.size, 0, none⟩)) :=
  .inr ⟨_, rfl, by rw [cell_of_row _ _ 0 _ t (0, 0) (heap_alloc_new w _)]; rfl⟩

set_option maxRecDepth 100000 in
set_option maxHeartbeats 12800000 in
theorem walk  (w : World)  :
    Calls Try.prog 3 #[] w fun e w' => e = .returned (.bool true) ∧ Below w.heap.size w w' := by
  have hnot : ∀ (x : Bool) (w : World), (Op.unary .not (.bool x)).run Try.prog w = .ok (.bool (!x)) w := fun _ _ => rfl
  go_enter Try.func3, Try.ntmps3
  go_wp2
  go_loopw [1, 2] (fun v i wr => ∃ k : Nat, k ≤ 2 ∧ i = .int .i64 k ∧ NoP wr v ∧ Below w.heap.size w wr) (fun _ i _ => 2 - (intOf i).toNat)
  case atStart => exact ⟨0, by omega, rfl, .inl rfl, Below.refl _ _⟩
  case round =>
    obtain ⟨k, hk, rfl, hno, hbel⟩ := hrel
    by_cases hlt : k < 2
    · have i1 : (k : Int) < 2 := by omega
      have Hno := Lib.hid (And.intro hno hbel)
      clear hno hbel hk
      go_wp2_with (first
        | (go_at_call 4; refine (no_read Hno.out.1 _).mono ?_; rintro e w' ⟨rfl, rfl⟩)
        | (go_at_call 5; refine (no_size Hno.out.1).mono ?_; rintro e w' ⟨rfl, rfl⟩)
        | (go_at_call 6; refine (no_write Hno.out.1 _ _).mono ?_; rintro e w' ⟨rfl, rfl⟩)
        | (go_at_call 7; refine (no_flush Hno.out.1).mono ?_; rintro e w' ⟨rfl, rfl⟩)
        | (go_at_call 8; refine (no_waits Hno.out.1).mono ?_; rintro e w' ⟨rfl, rfl⟩)
        | (go_at_call 9; refine (no_fail Hno.out.1 _ _).mono ?_; rintro e w' ⟨rfl, rfl⟩)
        | (go_at_call 10; refine (no_crash Hno.out.1 _).mono ?_; rintro e w' ⟨rfl, rfl⟩)
        | (go_at_call 11; refine (no_boot Hno.out.1).mono ?_; rintro e w' ⟨rfl, rfl⟩)
        | (go_at_call 12; refine (no_dead Hno.out.1).mono ?_; rintro e w' ⟨rfl, rfl⟩)
        | (go_at_call 13; refine (no_turn Hno.out.1 _ _).mono ?_; rintro e w' ⟨rfl, rfl⟩))
      go_roundw
      case rel => exact ⟨k + 1, by omega, by go_num, noP_new _ _, Hno.out.2.alloc Hno.out.2.size _⟩
      case measure => simp [intOf]; omega
    · have e : k = 2 := by omega
      subst e
      have i1 : ¬ ((2 : Nat) : Int) < 2 := by omega
      have HW := Lib.hid hbel
      clear hk hlt hbel hno
      go_wp2_with fail
      refine (full_any 1 _).mono ?_
      rintro e w1 ⟨g1, rfl, hgg, hB1, hb1⟩
      have T1 := Lib.hid (HW.out.trans (hb1.mono HW.out.size))
      clear hgg hb1 HW
      go_wp2_with fail
      refine region_rule2 (P := Try.prog) 44 133 dN (RN g1) _ _ (by kernel_rfl) rfl rfl (by kernel_rfl) (by decide +kernel) (RN_on g1) ?step ?fin
      case step =>
        exact step_lit (by rfl) (by kernel_rfl) rfl hB1
      case fin =>
        intro a w2 hbase hbl hall
        obtain ⟨v6, hv6, hl6⟩ := hall 43 (by decide)
        have hl6' : ListV w2 v6 := hl6
        obtain ⟨b6, rfl, hd6⟩ := hl6'
        obtain ⟨f, hf, hfe⟩ := lit133 a hbase.1
        have e6 : f 6 = .slice (some ⟨b6, 0, none⟩) 28 28 := hfe 6 _ hv6
        have hdf : a.defers = [] := hbase.2.1
        rw [hdf, e6] at hf
        have T2 := Lib.hid (And.intro hd6 (T1.out.trans (hbl.mono T1.out.size)))
        rw [hf]
        clear hall hbase hbl hv6 hfe e6 hdf hd6 T1 hB1 hf hl6 a
        have hsz : ∀ k, k < 6 → ∃ x : Int, ([.int .i64 0, .int .i64 1, .int .i64 2, .int .i64 4096, .int .i64 4097, .int .i64 (-1)] : List Value)[k]? = some (.int .i64 x) ∧ (Lit.int .i64 x).wf = true := by
          intro k hk
          match k, hk with
          | 0, _ => exact ⟨_, rfl, by decide⟩
          | 1, _ => exact ⟨_, rfl, by decide⟩
          | 2, _ => exact ⟨_, rfl, by decide⟩
          | 3, _ => exact ⟨_, rfl, by decide⟩
          | 4, _ => exact ⟨_, rfl, by decide⟩
          | 5, _ => exact ⟨_, rfl, by decide⟩
          | k + 6, h => exact absurd h (by omega)
        have Hsz := Lib.hid hsz
        clear hsz
        have hBs : Blk (w2.alloc (.cells #[.int .i64 0, .int .i64 1, .int .i64 2, .int .i64 4096, .int .i64 4097, .int .i64 (-1)] 3)) w2.heap.size 3 [.int .i64 0, .int .i64 1, .int .i64 2, .int .i64 4096, .int .i64 4097, .int .i64 (-1)] := Blk.new rfl rfl
        have hb2 : Below w2.heap.size w2 (w2.alloc (.cells #[.int .i64 0, .int .i64 1, .int .i64 2, .int .i64 4096, .int .i64 4097, .int .i64 (-1)] 3)) := (Below.refl _ _).alloc (Nat.le_refl _) _
        have T3 := Lib.hid (And.intro hBs (And.intro (T2.out.1.on hb2) (T2.out.2.trans (hb2.mono T2.out.2.size))))
        clear hBs hb2 T2
        go_wp2_with fail
        generalize w2.alloc (.cells #[.int .i64 0, .int .i64 1, .int .i64 2, .int .i64 4096, .int .i64 4097, .int .i64 (-1)] 3) = w3 at *
        generalize w2.heap.size = gs at *
        generalize hLS : ([.int .i64 0, .int .i64 1, .int .i64 2, .int .i64 4096, .int .i64 4097, .int .i64 (-1)] : List Value) = LS at *
        go_loopw [8] (fun iv wr => ∃ k : Nat, k ≤ 6 ∧ iv = .int .i64 k ∧ Blk wr gs 3 LS ∧ ArgDo wr (some ⟨b6, 0, none⟩) 28 28 lst5 ∧ Below w.heap.size w wr) (fun iv _ => 6 - (intOf iv).toNat)
        case atStart => exact ⟨0, by omega, rfl, T3.out⟩
        case round =>
          obtain ⟨k, hk, rfl, hBs, hD, hbel⟩ := hrel
          clear T3
          by_cases hlt : k < 6
          · have i0 : (0 : Int) ≤ (k : Int) := by omega
            have i1 : (k : Int) < 6 := by omega
            obtain ⟨x, hx, hwf⟩ := Hsz.out k hlt
            have c0 := hBs.cell hx
            have Hp := Lib.hid (platePlays.walk x (some ⟨b6, 0, none⟩) 28 28 lst5 wr hwf hD)
            have Hk := Lib.hid (And.intro hk (And.intro hBs (And.intro hD hbel)))
            clear hk hBs hD hbel hx hwf
            go_wp2_with (go_at_call 15; refine Hp.out.mono ?_; rintro e w5 ⟨rfl, hb5⟩)
            go_roundw
            case rel => exact ⟨k + 1, by omega, by go_num, Hk.out.2.1.below hb5 Hk.out.2.1.lt, Hk.out.2.2.1.on hb5, Hk.out.2.2.2.trans (hb5.mono Hk.out.2.2.2.size)⟩
            case measure => simp [intOf]; omega
          · have e : k = 6 := by omega
            subst e
            have i1 : ¬ ((6 : Nat) : Int) < 6 := by omega
            have Hb := Lib.hid hbel
            clear hk hBs hD hbel hlt
            go_wp2_with (go_at_call 16; refine (awake_any _).mono ?_; rintro e w5 ⟨rfl, hb5⟩)
            go_ret
            exact ⟨rfl, Hb.out.trans (hb5.mono Hb.out.size)⟩

end Go.Proofs.Ytmcbjcopipafdaa.plateNames
