/-
  For all crews of f 1 or 2 and all words that two replicas hear (80 at most): two digests are not both prepared at a number, if f at most of the nodes say different things to different ones; SlotsSafe returns true; no condition.
-/
import Derived.Test.YtmdgcimjmmnbjaaZ01
import Derived.Test.YtmdgcimjmmnbjaaZ17
import Derived.Test.YtmdgcimjmmnbjaaZ14
namespace Go.Proofs.Ytmdgcimjmmnbjaa.slotsSafe
open Go.ChangeShapes Go.WideShapes Go.ChangeAt Go.RowKit Go.Maps Go.Shelf Go.Sort CrewP
set_option linter.unusedVariables false

set_option linter.unusedSimpArgs false
def lA : List UInt8 := [0, 1, 2, 3, 0, 1, 2, 3]
def lB : List UInt8 := [3, 2, 1, 0, 0, 2, 3, 1]
theorem row_lA (w : World) : (Instr.buildSlice 23 8 #[(0, .int .u8 0), (1, .int .u8 1), (2, .int .u8 2), (3, .int .u8 3), (4, .int .u8 0), (5, .int .u8 1), (6, .int .u8 2), (7, .int .u8 3)]).run Try.prog w = .ok (.slice (some ⟨w.heap.size, 0, none⟩) 8 8) (w.alloc (.cells (cbs lA).toArray 5)) := by kernel_rfl
theorem row_lB (w : World) : (Instr.buildSlice 23 8 #[(0, .int .u8 3), (1, .int .u8 2), (2, .int .u8 1), (3, .int .u8 0), (4, .int .u8 0), (5, .int .u8 2), (6, .int .u8 3), (7, .int .u8 1)]).run Try.prog w = .ok (.slice (some ⟨w.heap.size, 0, none⟩) 8 8) (w.alloc (.cells (cbs lB).toArray 5)) := by kernel_rfl
theorem ByO.of_blk {U : Nat → Prop} {w : World} {r : Nat} {l : List UInt8} (h : Blk w r 5 (cbs l)) (hU : ¬ U r) : ByO U w (some ⟨r, 0, none⟩) l := fun hl =>
  ⟨r, 0, rfl, h.lt, hU, fun j hj => by rw [Nat.zero_add]; exact h.cell (by rw [cbs_get, List.getElem?_eq_getElem hj]; rfl)⟩
set_option maxRecDepth 100000 in
set_option maxHeartbeats 64000000 in
theorem walk (faults : Int) (AtoOne : Option Addr) (ntoOne ctoOne : Nat) (toOne : List WdS) (AtoOther : Option Addr) (ntoOther ctoOther : Nat) (toOther : List WdS) (w : World) (hfaults : (Lit.int .i64 faults).wf = true) (htoOne : ArgWs w AtoOne ntoOne ctoOne toOne) (htoOther : ArgWs w AtoOther ntoOther ctoOther toOther) :
    Calls Try.prog 4 #[.int .i64 faults, .slice AtoOne ntoOne ctoOne, .slice AtoOther ntoOther ctoOther] w fun e w' => e = .returned (.bool true) ∧ Below w.heap.size w w' := by
  have HLa := Lib.hid htoOne
  have hlenA := htoOne.1
  have hnA : (ntoOne : Int) ≤ 9223372036854775807 := by have := htoOne.2.1; have := htoOne.2.2.1; unfold maxLen at this; omega
  clear htoOne
  have HLb := Lib.hid htoOther
  have hlenB := htoOther.1
  have hnB : (ntoOther : Int) ≤ 9223372036854775807 := by have := htoOther.2.1; have := htoOther.2.2.1; unfold maxLen at this; omega
  clear htoOther
  have HB : Hid (∀ z, Wf z → ∀ n : Int, 0 < n → n ≤ 100 → ∀ W, Calls Try.prog 17 #[.int .i64 z, .int .i64 n] W fun e w' => e = .returned (.int .i64 (z % n)) ∧ w' = W) := Lib.hid fun z hz n h0 h1 W => bring_w z n W h0 (by omega) hz
  have HAw : Hid (∀ W, Calls Try.prog 16 #[] W fun e w' => e = .returned (.bool true) ∧ Below W.heap.size W w') := Lib.hid fun W => awake_any W
  obtain ⟨q0, hq0⟩ : ∃ q, faults % 2 = q := ⟨_, rfl⟩
  have hFb : Hid (∀ W, Calls Try.prog 17 #[.int .i64 faults, .int .i64 2] W fun e w' => e = .returned (.int .i64 q0) ∧ w' = W) := Lib.hid fun W => by rw [← hq0]; exact HB.out faults hfaults 2 (by omega) (by omega) W
  have hq1 : 0 ≤ q0 := by omega
  have hq2 : q0 < 2 := by omega
  clear hq0
  obtain ⟨F, hF⟩ : ∃ F : Nat, 1 + q0 = (F : Int) := ⟨(1 + q0).toNat, by omega⟩
  have hF1 : 1 ≤ F := by omega
  have hF2 : F ≤ 2 := by omega
  have hw0 : IntKind.i64.wrap (1 + q0) = (F : Int) := by rw [← hF]; exact IntWalk.i64_in _ (by omega)
  have hw1 : IntKind.i64.wrap (3 * (F : Int)) = 3 * (F : Int) := IntWalk.i64_in _ (by omega)
  have hw2 : IntKind.i64.wrap (3 * (F : Int) + 1) = 3 * (F : Int) + 1 := IntWalk.i64_in _ (by omega)
  have HF1 : Hid (∀ W, Calls Try.prog 8 #[.int .i64 (F : Int), .int .i64 (3 * (F : Int) + 1)] W fun e w' => ∃ g, e = .returned (.pointer (some ⟨g, 0, none⟩)) ∧ StAt w' (fun b => W.heap.size ≤ b ∧ b < w'.heap.size) g (fr F) ∧ Below W.heap.size W w') := Lib.hid fun W => by
    have h := fresh_any F hF1 hF2 (3 * F + 1) (by omega) (by omega) W
    rw [show ((3 * F + 1 : Nat) : Int) = 3 * (F : Int) + 1 by push_cast; rfl] at h
    exact h
  have HF2 : Hid (∀ W, Calls Try.prog 8 #[.int .i64 (F : Int), .int .i64 (3 * (F : Int))] W fun e w' => ∃ g, e = .returned (.pointer (some ⟨g, 0, none⟩)) ∧ StAt w' (fun b => W.heap.size ≤ b ∧ b < w'.heap.size) g (fr F) ∧ Below W.heap.size W w') := Lib.hid fun W => by
    have h := fresh_any F hF1 hF2 (3 * F) (by omega) (by omega) W
    rw [show ((3 * F : Nat) : Int) = 3 * (F : Int) by push_cast; rfl] at h
    exact h
  clear hF
  go_enter Try.func4, Try.ntmps4
  go_wp2_with fail
  refine (hFb.out _).mono ?_
  rintro e wz ⟨rfl, hww⟩
  have hww2 := hww.symm
  subst hww2
  clear hww hFb
  go_wp2_with fail
  refine (HF1.out _).mono ?_
  rintro e w1 ⟨g, rfl, hst, hb1⟩
  have H1 := Lib.hid (And.intro hst hb1)
  clear hst hb1
  go_wp2_with fail
  refine (HF2.out _).mono ?_
  rintro e w2 ⟨h, rfl, hst, hb1⟩
  have H2 := Lib.hid (As2.new H1.out.1 H1.out.2 hst hb1)
  clear hst hb1 H1
  have hra := row_lA w2
  obtain ⟨w3, hw3⟩ : ∃ W, w2.alloc (.cells (cbs lA).toArray 5) = W := ⟨_, rfl⟩
  rw [hw3] at hra
  have hB3 : Blk w3 w2.heap.size 5 (cbs lA) := by rw [← hw3]; exact Blk.new rfl rfl
  have hb3 : Below w2.heap.size w2 w3 := by rw [← hw3]; exact (Below.refl _ _).alloc (Nat.le_refl _) _
  have h3 := H2.out.add hb3 (Nat.le_refl _) hB3
  have hp3 := h3.proposes (A := some ⟨w2.heap.size, 0, none⟩) (n := 8) (c := 8) (l := lA) rfl (by omega) (fun U hU hlow hV => ByO.of_blk hB3 (hV (w2.heap.size, 5, cbs lA) (by simp)))
  have H3 := Lib.hid (And.intro hra hp3)
  clear hra hw3 hB3 hb3 h3 hp3
  go_wp2_with (refine row_g rfl 23 8 _ rfl (.slice (some ⟨w2.heap.size, 0, none⟩) 8 8) w3 (by simp only [List.map_toArray, List.map_cons, List.map_nil]; exact H3.out.1) ?_; simp only [Act.put])
  refine H3.out.2.mono ?_
  rintro e w4 ⟨rfl, hA4⟩
  have H4 := Lib.hid (hA4.less (V' := []) (fun p hp => by cases hp))
  clear hA4
  have hra := row_lB w4
  obtain ⟨w5, hw5⟩ : ∃ W, w4.alloc (.cells (cbs lB).toArray 5) = W := ⟨_, rfl⟩
  rw [hw5] at hra
  have hB5 : Blk w5 w4.heap.size 5 (cbs lB) := by rw [← hw5]; exact Blk.new rfl rfl
  have hb5 : Below w4.heap.size w4 w5 := by rw [← hw5]; exact (Below.refl _ _).alloc (Nat.le_refl _) _
  have h5 := (H4.out.add hb5 (Nat.le_refl _) hB5).swap
  have hp5 := h5.proposes (A := some ⟨w4.heap.size, 0, none⟩) (n := 8) (c := 8) (l := lB) rfl (by omega) (fun U hU hlow hV => ByO.of_blk hB5 (hV (w4.heap.size, 5, cbs lB) (by simp)))
  have H5 := Lib.hid (And.intro hra hp5)
  clear hra hw5 hB5 hb5 h5 hp5
  go_wp2_with (refine row_g rfl 23 8 _ rfl (.slice (some ⟨w4.heap.size, 0, none⟩) 8 8) w5 (by simp only [List.map_toArray, List.map_cons, List.map_nil]; exact H5.out.1) ?_; simp only [Act.put])
  refine H5.out.2.mono ?_
  rintro e w6 ⟨rfl, hA6⟩
  have hsf := ((((SfS.fresh F).left lA 8).swap).left lB 8).swap
  obtain ⟨s0, hs0⟩ : ∃ z, prS (fr F) 0 lA 8 = z := ⟨_, rfl⟩
  obtain ⟨t0, ht0⟩ : ∃ z, prS (fr F) 0 lB 8 = z := ⟨_, rfl⟩
  rw [hs0, ht0] at hsf
  have h6 := (hA6.less (V' := []) (fun p hp => by cases hp)).swap
  rw [hs0, ht0] at h6
  have H6 := Lib.hid (And.intro hsf h6)
  clear hsf h6 hA6 hs0 ht0
  go_upto_region 6 with fail
  go_loopw [10] (fun v10 wr => ∃ (i : Nat) (s t : St), i ≤ 80 ∧ v10 = .int .i64 (i : Int) ∧ SfS F s t ∧ As2 w wr g h s t []) (fun v _ => 100 - (intOf v).toNat)
  case atStart => exact ⟨0, s0, t0, by omega, rfl, H6.out.1, H6.out.2⟩
  case round =>
    rename World => wo
    obtain ⟨i, s, t, hi, rfl, hS, hA⟩ := hrel
    have H7 := Lib.hid (And.intro hS hA)
    clear hS hA H6
    by_cases hi80 : i < 80
    · have hi80' : (i : Int) < 80 := by omega
      have hwi : IntKind.i64.wrap ((i : Int) + 1) = (i : Int) + 1 := IntWalk.i64_in _ (by omega)
      by_cases hn11 : i < ntoOne
      · have hd11 : (i : Int) < (ntoOne : Int) := by omega
        obtain ⟨b11, o11, hAl, hbl0, hW⟩ := (HLa.out.after H7.out.2.bel).at_ (j := i) (by omega)
        obtain ⟨k1, k2, c0⟩ := hW
        generalize toOne[i] = x11 at *
        subst hAl
        have ix := fun W => word_at W b11 o11 ntoOne ctoOne i hn11
        obtain ⟨W11, e4, e5, e6, e7⟩ := H7.out.2.word x11
        have cn := e5.cell (i := 0) (v := .int .i64 x11.nd) rfl
        have HW11 := Lib.hid (And.intro e4 (And.intro e5 (And.intro e6 e7)))
        have HC11 := Lib.hid (And.intro k1 (And.intro k2 c0))
        clear e4 e5 e6 e7 k1 k2 c0 hbl0
        have hi5 : Hid ((Try.prog.info? 27).map (·.size) = some ([.int .i64 x11.nd, .int .i64 0, .int .i64 x11.sq, .bool x11.c, .int .u8 (x11.b.toNat : Int)] : List Value).length) := Lib.hid word_info1
        obtain ⟨q11, hq11⟩ : ∃ q, x11.nd % (3 * (F : Int) + 1) = q := ⟨_, rfl⟩
        have B11 : Hid (∀ W, Calls Try.prog 17 #[.int .i64 x11.nd, .int .i64 (3 * (F : Int) + 1)] W fun e w' => e = .returned (.int .i64 q11) ∧ w' = W) := Lib.hid fun W => by rw [← hq11]; exact HB.out x11.nd HC11.out.1 _ (by omega) (by omega) W
        have hN11 : nN F x11 = 1 + q11 := by unfold nN; rw [hq11]
        have HN11 := Lib.hid hN11
        clear hq11 hN11
        go_upto_region 9 with fail
        go_upto_region 11 with (refine load_mid_g rfl 27 _ rfl b11 (o11 + i * 5) rfl [.int .i64 x11.nd, .int .i64 x11.vw, .int .i64 x11.sq, .bool x11.c, .int .u8 (x11.b.toNat : Int)] _ HC11.out.2.2 Try.underlying27 rfl hi5.out ?_; simp only [Act.put])
        clear ix
        rw [HW11.out.1]
        have LD11 := Lib.hid HW11.out.2.1.range
        by_cases hl11 : q11 < (F : Int)
        · have HSy := Lib.hid (HW11.out.2.2.2.says F hF2 (zv x11) HC11.out.1 HC11.out.2.1 rfl)
          go_upto_region 12 with (go_at_call 17; refine (B11.out _).mono ?_; rintro e wq ⟨rfl, hww⟩; have hww2 := hww.symm; subst hww2; clear hww)
          clear cn
          go_wp2_with (refine load_mid_g rfl 27 _ rfl wo.heap.size 0 rfl [.int .i64 x11.nd, .int .i64 0, .int .i64 x11.sq, .bool x11.c, .int .u8 (x11.b.toNat : Int)] _ LD11.out Try.underlying27 rfl hi5.out ?_; simp only [Act.put])
          refine HSy.out.mono ?_
          rintro e w12 ⟨rfl, hA⟩
          have G12 : Hid (SfS F (wS F s x11) t ∧ As2 w w12 g h (wS F s x11) t []) := Lib.hid (And.intro (H7.out.1.lie (x := x11) (by rw [HN11.out]; omega)) (hA.less (fun p hp => by cases hp)))
          clear hA HSy LD11 HW11 HC11
          obtain ⟨s12, hz⟩ : ∃ z, (wS F s x11) = z := ⟨_, rfl⟩
          rw [hz] at G12
          clear hz
          by_cases hn13 : i < ntoOther
          · have hd13 : (i : Int) < (ntoOther : Int) := by omega
            obtain ⟨b13, o13, hAl, hbl0, hW⟩ := (HLb.out.after G12.out.2.bel).at_ (j := i) (by omega)
            obtain ⟨k1, k2, c0⟩ := hW
            generalize toOther[i] = x13 at *
            subst hAl
            have ix := fun W => word_at W b13 o13 ntoOther ctoOther i hn13
            obtain ⟨W13, e4, e5, e6, e7⟩ := G12.out.2.swap.word x13
            have cn := e5.cell (i := 0) (v := .int .i64 x13.nd) rfl
            have HW13 := Lib.hid (And.intro e4 (And.intro e5 (And.intro e6 e7)))
            have HC13 := Lib.hid (And.intro k1 (And.intro k2 c0))
            clear e4 e5 e6 e7 k1 k2 c0 hbl0
            have hi5 : Hid ((Try.prog.info? 27).map (·.size) = some ([.int .i64 x13.nd, .int .i64 0, .int .i64 x13.sq, .bool x13.c, .int .u8 (x13.b.toNat : Int)] : List Value).length) := Lib.hid word_info1
            obtain ⟨q13, hq13⟩ : ∃ q, x13.nd % (3 * (F : Int) + 1) = q := ⟨_, rfl⟩
            have B13 : Hid (∀ W, Calls Try.prog 17 #[.int .i64 x13.nd, .int .i64 (3 * (F : Int) + 1)] W fun e w' => e = .returned (.int .i64 q13) ∧ w' = W) := Lib.hid fun W => by rw [← hq13]; exact HB.out x13.nd HC13.out.1 _ (by omega) (by omega) W
            have hN13 : nN F x13 = 1 + q13 := by unfold nN; rw [hq13]
            have HN13 := Lib.hid hN13
            clear hq13 hN13
            go_upto_region 16 with fail
            go_upto_region 18 with (refine load_mid_g rfl 27 _ rfl b13 (o13 + i * 5) rfl [.int .i64 x13.nd, .int .i64 x13.vw, .int .i64 x13.sq, .bool x13.c, .int .u8 (x13.b.toNat : Int)] _ HC13.out.2.2 Try.underlying27 rfl hi5.out ?_; simp only [Act.put])
            clear ix
            rw [HW13.out.1]
            have LD13 := Lib.hid HW13.out.2.1.range
            by_cases hl13 : q13 < (F : Int)
            · have HSy := Lib.hid (HW13.out.2.2.2.says F hF2 (zv x13) HC13.out.1 HC13.out.2.1 rfl)
              go_upto_region 19 with (go_at_call 17; refine (B13.out _).mono ?_; rintro e wq ⟨rfl, hww⟩; have hww2 := hww.symm; subst hww2; clear hww)
              clear cn
              go_wp2_with (refine load_mid_g rfl 27 _ rfl w12.heap.size 0 rfl [.int .i64 x13.nd, .int .i64 0, .int .i64 x13.sq, .bool x13.c, .int .u8 (x13.b.toNat : Int)] _ LD13.out Try.underlying27 rfl hi5.out ?_; simp only [Act.put])
              refine HSy.out.mono ?_
              rintro e w14 ⟨rfl, hA⟩
              have G14 : Hid (SfS F s12 (wS F t x13) ∧ As2 w w14 g h s12 (wS F t x13) []) := Lib.hid (And.intro ((G12.out.1.swap.lie (x := x13) (by rw [HN13.out]; omega)).swap) (hA.swap.less (fun p hp => by cases hp)))
              clear hA HSy LD13 HW13 HC13
              obtain ⟨t14, hz⟩ : ∃ z, (wS F t x13) = z := ⟨_, rfl⟩
              rw [hz] at G14
              clear hz
              go_wp2
              go_roundw
              case rel => exact ⟨i + 1, s12, t14, by omega, by first | rfl | (push_cast; rfl), G14.out.1, G14.out.2⟩
              case measure => simp [intOf]; omega
            · obtain ⟨E13, hE13⟩ : ∃ E, wE F t x13 = E := ⟨_, rfl⟩
              have HSy := Lib.hid (HW13.out.2.2.2.says F hF2 (zv x13) HC13.out.1 HC13.out.2.1 (E := E13) hE13)
              go_upto_region 20 with (go_at_call 17; refine (B13.out _).mono ?_; rintro e wq ⟨rfl, hww⟩; have hww2 := hww.symm; subst hww2; clear hww)
              clear cn
              go_wp2_with (refine load_mid_g rfl 27 _ rfl w12.heap.size 0 rfl [.int .i64 x13.nd, .int .i64 0, .int .i64 x13.sq, .bool x13.c, .int .u8 (x13.b.toNat : Int)] _ LD13.out Try.underlying27 rfl hi5.out ?_; simp only [Act.put])
              refine HSy.out.mono ?_
              rintro e w15 ⟨rfl, hA⟩
              have HA := Lib.hid hA
              clear hA HSy LD13
              by_cases hE0 : E13 = 0
              · subst hE0
                have hBv := Lib.hid (HA.out.blk (show (w12.heap.size, 27, wcW (zv x13)) ∈ _ from List.mem_cons_self)).range
                have HSz := Lib.hid (HA.out.swap.says F hF2 (zv x13) HC13.out.1 HC13.out.2.1 rfl)
                go_wp2_with (refine load_mid_g rfl 27 _ rfl w12.heap.size 0 rfl [.int .i64 x13.nd, .int .i64 0, .int .i64 x13.sq, .bool x13.c, .int .u8 (x13.b.toNat : Int)] _ hBv.out Try.underlying27 rfl hi5.out ?_; simp only [Act.put])
                refine HSz.out.mono ?_
                rintro e w16 ⟨rfl, hA⟩
                have G16 : Hid (SfS F (wS F s12 x13) (wS F t x13) ∧ As2 w w16 g h (wS F s12 x13) (wS F t x13) []) := Lib.hid (And.intro ((G12.out.1.swap.both (x := x13) (by rw [HN13.out]; omega) hE13).swap) (hA.less (fun p hp => by cases hp)))
                clear hA HSz hBv HA HW13 HC13
                obtain ⟨s16, hz⟩ : ∃ z, (wS F s12 x13) = z := ⟨_, rfl⟩
                obtain ⟨t16, hz2⟩ : ∃ z, (wS F t x13) = z := ⟨_, rfl⟩
                rw [hz, hz2] at G16
                clear hz hz2 hE13
                go_wp2
                go_roundw
                case rel => exact ⟨i + 1, s16, t16, by omega, by first | rfl | (push_cast; rfl), G16.out.1, G16.out.2⟩
                case measure => simp [intOf]; omega
              · have hE1 : (E13 == 0) = false := by simp [hE0]
                have hof : wS F t (zv x13) = t := off_wS (F := F) (x := x13) (by rw [hE13]; exact hE0)
                have hA := HA.out
                rw [hof] at hA
                have G17 : Hid (SfS F s12 t ∧ As2 w w15 g h s12 t []) := Lib.hid (And.intro G12.out.1 (hA.swap.less (fun p hp => by cases hp)))
                clear hA HA HW13 HC13 hof
                go_wp2
                go_roundw
                case rel => exact ⟨i + 1, s12, t, by omega, by first | rfl | (push_cast; rfl), G17.out.1, G17.out.2⟩
                case measure => simp [intOf]; omega
          · have hd13 : ¬ (i : Int) < (ntoOther : Int) := by omega
            go_wp2
            go_roundw
            case rel => exact ⟨i + 1, s12, t, by omega, by first | rfl | (push_cast; rfl), G12.out.1, G12.out.2⟩
            case measure => simp [intOf]; omega
        · obtain ⟨E11, hE11⟩ : ∃ E, wE F s x11 = E := ⟨_, rfl⟩
          have HSy := Lib.hid (HW11.out.2.2.2.says F hF2 (zv x11) HC11.out.1 HC11.out.2.1 (E := E11) hE11)
          go_upto_region 13 with (go_at_call 17; refine (B11.out _).mono ?_; rintro e wq ⟨rfl, hww⟩; have hww2 := hww.symm; subst hww2; clear hww)
          clear cn
          go_wp2_with (refine load_mid_g rfl 27 _ rfl wo.heap.size 0 rfl [.int .i64 x11.nd, .int .i64 0, .int .i64 x11.sq, .bool x11.c, .int .u8 (x11.b.toNat : Int)] _ LD11.out Try.underlying27 rfl hi5.out ?_; simp only [Act.put])
          refine HSy.out.mono ?_
          rintro e w18 ⟨rfl, hA⟩
          have HA := Lib.hid hA
          clear hA HSy LD11
          by_cases hE0 : E11 = 0
          · subst hE0
            have hBv := Lib.hid (HA.out.blk (show (wo.heap.size, 27, wcW (zv x11)) ∈ _ from List.mem_cons_self)).range
            have HSz := Lib.hid (HA.out.swap.says F hF2 (zv x11) HC11.out.1 HC11.out.2.1 rfl)
            go_wp2_with (refine load_mid_g rfl 27 _ rfl wo.heap.size 0 rfl [.int .i64 x11.nd, .int .i64 0, .int .i64 x11.sq, .bool x11.c, .int .u8 (x11.b.toNat : Int)] _ hBv.out Try.underlying27 rfl hi5.out ?_; simp only [Act.put])
            refine HSz.out.mono ?_
            rintro e w19 ⟨rfl, hA⟩
            have G19 : Hid (SfS F (wS F s x11) (wS F t x11) ∧ As2 w w19 g h (wS F s x11) (wS F t x11) []) := Lib.hid (And.intro (H7.out.1.both (x := x11) (by rw [HN11.out]; omega) hE11) (hA.swap.less (fun p hp => by cases hp)))
            clear hA HSz hBv HA HW11 HC11
            obtain ⟨s19, hz⟩ : ∃ z, (wS F s x11) = z := ⟨_, rfl⟩
            obtain ⟨t19, hz2⟩ : ∃ z, (wS F t x11) = z := ⟨_, rfl⟩
            rw [hz, hz2] at G19
            clear hz hz2 hE11
            by_cases hn20 : i < ntoOther
            · have hd20 : (i : Int) < (ntoOther : Int) := by omega
              obtain ⟨b20, o20, hAl, hbl0, hW⟩ := (HLb.out.after G19.out.2.bel).at_ (j := i) (by omega)
              obtain ⟨k1, k2, c0⟩ := hW
              generalize toOther[i] = x20 at *
              subst hAl
              have ix := fun W => word_at W b20 o20 ntoOther ctoOther i hn20
              obtain ⟨W20, e4, e5, e6, e7⟩ := G19.out.2.swap.word x20
              have cn := e5.cell (i := 0) (v := .int .i64 x20.nd) rfl
              have HW20 := Lib.hid (And.intro e4 (And.intro e5 (And.intro e6 e7)))
              have HC20 := Lib.hid (And.intro k1 (And.intro k2 c0))
              clear e4 e5 e6 e7 k1 k2 c0 hbl0
              have hi5 : Hid ((Try.prog.info? 27).map (·.size) = some ([.int .i64 x20.nd, .int .i64 0, .int .i64 x20.sq, .bool x20.c, .int .u8 (x20.b.toNat : Int)] : List Value).length) := Lib.hid word_info1
              obtain ⟨q20, hq20⟩ : ∃ q, x20.nd % (3 * (F : Int) + 1) = q := ⟨_, rfl⟩
              have B20 : Hid (∀ W, Calls Try.prog 17 #[.int .i64 x20.nd, .int .i64 (3 * (F : Int) + 1)] W fun e w' => e = .returned (.int .i64 q20) ∧ w' = W) := Lib.hid fun W => by rw [← hq20]; exact HB.out x20.nd HC20.out.1 _ (by omega) (by omega) W
              have hN20 : nN F x20 = 1 + q20 := by unfold nN; rw [hq20]
              have HN20 := Lib.hid hN20
              clear hq20 hN20
              go_upto_region 16 with fail
              go_upto_region 18 with (refine load_mid_g rfl 27 _ rfl b20 (o20 + i * 5) rfl [.int .i64 x20.nd, .int .i64 x20.vw, .int .i64 x20.sq, .bool x20.c, .int .u8 (x20.b.toNat : Int)] _ HC20.out.2.2 Try.underlying27 rfl hi5.out ?_; simp only [Act.put])
              clear ix
              rw [HW20.out.1]
              have LD20 := Lib.hid HW20.out.2.1.range
              by_cases hl20 : q20 < (F : Int)
              · have HSy := Lib.hid (HW20.out.2.2.2.says F hF2 (zv x20) HC20.out.1 HC20.out.2.1 rfl)
                go_upto_region 19 with (go_at_call 17; refine (B20.out _).mono ?_; rintro e wq ⟨rfl, hww⟩; have hww2 := hww.symm; subst hww2; clear hww)
                clear cn
                go_wp2_with (refine load_mid_g rfl 27 _ rfl w19.heap.size 0 rfl [.int .i64 x20.nd, .int .i64 0, .int .i64 x20.sq, .bool x20.c, .int .u8 (x20.b.toNat : Int)] _ LD20.out Try.underlying27 rfl hi5.out ?_; simp only [Act.put])
                refine HSy.out.mono ?_
                rintro e w21 ⟨rfl, hA⟩
                have G21 : Hid (SfS F s19 (wS F t19 x20) ∧ As2 w w21 g h s19 (wS F t19 x20) []) := Lib.hid (And.intro ((G19.out.1.swap.lie (x := x20) (by rw [HN20.out]; omega)).swap) (hA.swap.less (fun p hp => by cases hp)))
                clear hA HSy LD20 HW20 HC20
                obtain ⟨t21, hz⟩ : ∃ z, (wS F t19 x20) = z := ⟨_, rfl⟩
                rw [hz] at G21
                clear hz
                go_wp2
                go_roundw
                case rel => exact ⟨i + 1, s19, t21, by omega, by first | rfl | (push_cast; rfl), G21.out.1, G21.out.2⟩
                case measure => simp [intOf]; omega
              · obtain ⟨E20, hE20⟩ : ∃ E, wE F t19 x20 = E := ⟨_, rfl⟩
                have HSy := Lib.hid (HW20.out.2.2.2.says F hF2 (zv x20) HC20.out.1 HC20.out.2.1 (E := E20) hE20)
                go_upto_region 20 with (go_at_call 17; refine (B20.out _).mono ?_; rintro e wq ⟨rfl, hww⟩; have hww2 := hww.symm; subst hww2; clear hww)
                clear cn
                go_wp2_with (refine load_mid_g rfl 27 _ rfl w19.heap.size 0 rfl [.int .i64 x20.nd, .int .i64 0, .int .i64 x20.sq, .bool x20.c, .int .u8 (x20.b.toNat : Int)] _ LD20.out Try.underlying27 rfl hi5.out ?_; simp only [Act.put])
                refine HSy.out.mono ?_
                rintro e w22 ⟨rfl, hA⟩
                have HA := Lib.hid hA
                clear hA HSy LD20
                by_cases hE0 : E20 = 0
                · subst hE0
                  have hBv := Lib.hid (HA.out.blk (show (w19.heap.size, 27, wcW (zv x20)) ∈ _ from List.mem_cons_self)).range
                  have HSz := Lib.hid (HA.out.swap.says F hF2 (zv x20) HC20.out.1 HC20.out.2.1 rfl)
                  go_wp2_with (refine load_mid_g rfl 27 _ rfl w19.heap.size 0 rfl [.int .i64 x20.nd, .int .i64 0, .int .i64 x20.sq, .bool x20.c, .int .u8 (x20.b.toNat : Int)] _ hBv.out Try.underlying27 rfl hi5.out ?_; simp only [Act.put])
                  refine HSz.out.mono ?_
                  rintro e w23 ⟨rfl, hA⟩
                  have G23 : Hid (SfS F (wS F s19 x20) (wS F t19 x20) ∧ As2 w w23 g h (wS F s19 x20) (wS F t19 x20) []) := Lib.hid (And.intro ((G19.out.1.swap.both (x := x20) (by rw [HN20.out]; omega) hE20).swap) (hA.less (fun p hp => by cases hp)))
                  clear hA HSz hBv HA HW20 HC20
                  obtain ⟨s23, hz⟩ : ∃ z, (wS F s19 x20) = z := ⟨_, rfl⟩
                  obtain ⟨t23, hz2⟩ : ∃ z, (wS F t19 x20) = z := ⟨_, rfl⟩
                  rw [hz, hz2] at G23
                  clear hz hz2 hE20
                  go_wp2
                  go_roundw
                  case rel => exact ⟨i + 1, s23, t23, by omega, by first | rfl | (push_cast; rfl), G23.out.1, G23.out.2⟩
                  case measure => simp [intOf]; omega
                · have hE1 : (E20 == 0) = false := by simp [hE0]
                  have hof : wS F t19 (zv x20) = t19 := off_wS (F := F) (x := x20) (by rw [hE20]; exact hE0)
                  have hA := HA.out
                  rw [hof] at hA
                  have G24 : Hid (SfS F s19 t19 ∧ As2 w w22 g h s19 t19 []) := Lib.hid (And.intro G19.out.1 (hA.swap.less (fun p hp => by cases hp)))
                  clear hA HA HW20 HC20 hof
                  go_wp2
                  go_roundw
                  case rel => exact ⟨i + 1, s19, t19, by omega, by first | rfl | (push_cast; rfl), G24.out.1, G24.out.2⟩
                  case measure => simp [intOf]; omega
            · have hd20 : ¬ (i : Int) < (ntoOther : Int) := by omega
              go_wp2
              go_roundw
              case rel => exact ⟨i + 1, s19, t19, by omega, by first | rfl | (push_cast; rfl), G19.out.1, G19.out.2⟩
              case measure => simp [intOf]; omega
          · have hE1 : (E11 == 0) = false := by simp [hE0]
            have hof : wS F s (zv x11) = s := off_wS (F := F) (x := x11) (by rw [hE11]; exact hE0)
            have hA := HA.out
            rw [hof] at hA
            have G25 : Hid (SfS F s t ∧ As2 w w18 g h s t []) := Lib.hid (And.intro H7.out.1 (hA.less (fun p hp => by cases hp)))
            clear hA HA HW11 HC11 hof
            by_cases hn26 : i < ntoOther
            · have hd26 : (i : Int) < (ntoOther : Int) := by omega
              obtain ⟨b26, o26, hAl, hbl0, hW⟩ := (HLb.out.after G25.out.2.bel).at_ (j := i) (by omega)
              obtain ⟨k1, k2, c0⟩ := hW
              generalize toOther[i] = x26 at *
              subst hAl
              have ix := fun W => word_at W b26 o26 ntoOther ctoOther i hn26
              obtain ⟨W26, e4, e5, e6, e7⟩ := G25.out.2.swap.word x26
              have cn := e5.cell (i := 0) (v := .int .i64 x26.nd) rfl
              have HW26 := Lib.hid (And.intro e4 (And.intro e5 (And.intro e6 e7)))
              have HC26 := Lib.hid (And.intro k1 (And.intro k2 c0))
              clear e4 e5 e6 e7 k1 k2 c0 hbl0
              have hi5 : Hid ((Try.prog.info? 27).map (·.size) = some ([.int .i64 x26.nd, .int .i64 0, .int .i64 x26.sq, .bool x26.c, .int .u8 (x26.b.toNat : Int)] : List Value).length) := Lib.hid word_info1
              obtain ⟨q26, hq26⟩ : ∃ q, x26.nd % (3 * (F : Int) + 1) = q := ⟨_, rfl⟩
              have B26 : Hid (∀ W, Calls Try.prog 17 #[.int .i64 x26.nd, .int .i64 (3 * (F : Int) + 1)] W fun e w' => e = .returned (.int .i64 q26) ∧ w' = W) := Lib.hid fun W => by rw [← hq26]; exact HB.out x26.nd HC26.out.1 _ (by omega) (by omega) W
              have hN26 : nN F x26 = 1 + q26 := by unfold nN; rw [hq26]
              have HN26 := Lib.hid hN26
              clear hq26 hN26
              go_upto_region 16 with fail
              go_upto_region 18 with (refine load_mid_g rfl 27 _ rfl b26 (o26 + i * 5) rfl [.int .i64 x26.nd, .int .i64 x26.vw, .int .i64 x26.sq, .bool x26.c, .int .u8 (x26.b.toNat : Int)] _ HC26.out.2.2 Try.underlying27 rfl hi5.out ?_; simp only [Act.put])
              clear ix
              rw [HW26.out.1]
              have LD26 := Lib.hid HW26.out.2.1.range
              by_cases hl26 : q26 < (F : Int)
              · have HSy := Lib.hid (HW26.out.2.2.2.says F hF2 (zv x26) HC26.out.1 HC26.out.2.1 rfl)
                go_upto_region 19 with (go_at_call 17; refine (B26.out _).mono ?_; rintro e wq ⟨rfl, hww⟩; have hww2 := hww.symm; subst hww2; clear hww)
                clear cn
                go_wp2_with (refine load_mid_g rfl 27 _ rfl w18.heap.size 0 rfl [.int .i64 x26.nd, .int .i64 0, .int .i64 x26.sq, .bool x26.c, .int .u8 (x26.b.toNat : Int)] _ LD26.out Try.underlying27 rfl hi5.out ?_; simp only [Act.put])
                refine HSy.out.mono ?_
                rintro e w27 ⟨rfl, hA⟩
                have G27 : Hid (SfS F s (wS F t x26) ∧ As2 w w27 g h s (wS F t x26) []) := Lib.hid (And.intro ((G25.out.1.swap.lie (x := x26) (by rw [HN26.out]; omega)).swap) (hA.swap.less (fun p hp => by cases hp)))
                clear hA HSy LD26 HW26 HC26
                obtain ⟨t27, hz⟩ : ∃ z, (wS F t x26) = z := ⟨_, rfl⟩
                rw [hz] at G27
                clear hz
                go_wp2
                go_roundw
                case rel => exact ⟨i + 1, s, t27, by omega, by first | rfl | (push_cast; rfl), G27.out.1, G27.out.2⟩
                case measure => simp [intOf]; omega
              · obtain ⟨E26, hE26⟩ : ∃ E, wE F t x26 = E := ⟨_, rfl⟩
                have HSy := Lib.hid (HW26.out.2.2.2.says F hF2 (zv x26) HC26.out.1 HC26.out.2.1 (E := E26) hE26)
                go_upto_region 20 with (go_at_call 17; refine (B26.out _).mono ?_; rintro e wq ⟨rfl, hww⟩; have hww2 := hww.symm; subst hww2; clear hww)
                clear cn
                go_wp2_with (refine load_mid_g rfl 27 _ rfl w18.heap.size 0 rfl [.int .i64 x26.nd, .int .i64 0, .int .i64 x26.sq, .bool x26.c, .int .u8 (x26.b.toNat : Int)] _ LD26.out Try.underlying27 rfl hi5.out ?_; simp only [Act.put])
                refine HSy.out.mono ?_
                rintro e w28 ⟨rfl, hA⟩
                have HA := Lib.hid hA
                clear hA HSy LD26
                by_cases hE0 : E26 = 0
                · subst hE0
                  have hBv := Lib.hid (HA.out.blk (show (w18.heap.size, 27, wcW (zv x26)) ∈ _ from List.mem_cons_self)).range
                  have HSz := Lib.hid (HA.out.swap.says F hF2 (zv x26) HC26.out.1 HC26.out.2.1 rfl)
                  go_wp2_with (refine load_mid_g rfl 27 _ rfl w18.heap.size 0 rfl [.int .i64 x26.nd, .int .i64 0, .int .i64 x26.sq, .bool x26.c, .int .u8 (x26.b.toNat : Int)] _ hBv.out Try.underlying27 rfl hi5.out ?_; simp only [Act.put])
                  refine HSz.out.mono ?_
                  rintro e w29 ⟨rfl, hA⟩
                  have G29 : Hid (SfS F (wS F s x26) (wS F t x26) ∧ As2 w w29 g h (wS F s x26) (wS F t x26) []) := Lib.hid (And.intro ((G25.out.1.swap.both (x := x26) (by rw [HN26.out]; omega) hE26).swap) (hA.less (fun p hp => by cases hp)))
                  clear hA HSz hBv HA HW26 HC26
                  obtain ⟨s29, hz⟩ : ∃ z, (wS F s x26) = z := ⟨_, rfl⟩
                  obtain ⟨t29, hz2⟩ : ∃ z, (wS F t x26) = z := ⟨_, rfl⟩
                  rw [hz, hz2] at G29
                  clear hz hz2 hE26
                  go_wp2
                  go_roundw
                  case rel => exact ⟨i + 1, s29, t29, by omega, by first | rfl | (push_cast; rfl), G29.out.1, G29.out.2⟩
                  case measure => simp [intOf]; omega
                · have hE1 : (E26 == 0) = false := by simp [hE0]
                  have hof : wS F t (zv x26) = t := off_wS (F := F) (x := x26) (by rw [hE26]; exact hE0)
                  have hA := HA.out
                  rw [hof] at hA
                  have G30 : Hid (SfS F s t ∧ As2 w w28 g h s t []) := Lib.hid (And.intro G25.out.1 (hA.swap.less (fun p hp => by cases hp)))
                  clear hA HA HW26 HC26 hof
                  go_wp2
                  go_roundw
                  case rel => exact ⟨i + 1, s, t, by omega, by first | rfl | (push_cast; rfl), G30.out.1, G30.out.2⟩
                  case measure => simp [intOf]; omega
            · have hd26 : ¬ (i : Int) < (ntoOther : Int) := by omega
              go_wp2
              go_roundw
              case rel => exact ⟨i + 1, s, t, by omega, by first | rfl | (push_cast; rfl), G25.out.1, G25.out.2⟩
              case measure => simp [intOf]; omega
      · have hd11 : ¬ (i : Int) < (ntoOne : Int) := by omega
        by_cases hn31 : i < ntoOther
        · have hd31 : (i : Int) < (ntoOther : Int) := by omega
          obtain ⟨b31, o31, hAl, hbl0, hW⟩ := (HLb.out.after H7.out.2.bel).at_ (j := i) (by omega)
          obtain ⟨k1, k2, c0⟩ := hW
          generalize toOther[i] = x31 at *
          subst hAl
          have ix := fun W => word_at W b31 o31 ntoOther ctoOther i hn31
          obtain ⟨W31, e4, e5, e6, e7⟩ := H7.out.2.swap.word x31
          have cn := e5.cell (i := 0) (v := .int .i64 x31.nd) rfl
          have HW31 := Lib.hid (And.intro e4 (And.intro e5 (And.intro e6 e7)))
          have HC31 := Lib.hid (And.intro k1 (And.intro k2 c0))
          clear e4 e5 e6 e7 k1 k2 c0 hbl0
          have hi5 : Hid ((Try.prog.info? 27).map (·.size) = some ([.int .i64 x31.nd, .int .i64 0, .int .i64 x31.sq, .bool x31.c, .int .u8 (x31.b.toNat : Int)] : List Value).length) := Lib.hid word_info1
          obtain ⟨q31, hq31⟩ : ∃ q, x31.nd % (3 * (F : Int) + 1) = q := ⟨_, rfl⟩
          have B31 : Hid (∀ W, Calls Try.prog 17 #[.int .i64 x31.nd, .int .i64 (3 * (F : Int) + 1)] W fun e w' => e = .returned (.int .i64 q31) ∧ w' = W) := Lib.hid fun W => by rw [← hq31]; exact HB.out x31.nd HC31.out.1 _ (by omega) (by omega) W
          have hN31 : nN F x31 = 1 + q31 := by unfold nN; rw [hq31]
          have HN31 := Lib.hid hN31
          clear hq31 hN31
          go_upto_region 16 with fail
          go_upto_region 18 with (refine load_mid_g rfl 27 _ rfl b31 (o31 + i * 5) rfl [.int .i64 x31.nd, .int .i64 x31.vw, .int .i64 x31.sq, .bool x31.c, .int .u8 (x31.b.toNat : Int)] _ HC31.out.2.2 Try.underlying27 rfl hi5.out ?_; simp only [Act.put])
          clear ix
          rw [HW31.out.1]
          have LD31 := Lib.hid HW31.out.2.1.range
          by_cases hl31 : q31 < (F : Int)
          · have HSy := Lib.hid (HW31.out.2.2.2.says F hF2 (zv x31) HC31.out.1 HC31.out.2.1 rfl)
            go_upto_region 19 with (go_at_call 17; refine (B31.out _).mono ?_; rintro e wq ⟨rfl, hww⟩; have hww2 := hww.symm; subst hww2; clear hww)
            clear cn
            go_wp2_with (refine load_mid_g rfl 27 _ rfl wo.heap.size 0 rfl [.int .i64 x31.nd, .int .i64 0, .int .i64 x31.sq, .bool x31.c, .int .u8 (x31.b.toNat : Int)] _ LD31.out Try.underlying27 rfl hi5.out ?_; simp only [Act.put])
            refine HSy.out.mono ?_
            rintro e w32 ⟨rfl, hA⟩
            have G32 : Hid (SfS F s (wS F t x31) ∧ As2 w w32 g h s (wS F t x31) []) := Lib.hid (And.intro ((H7.out.1.swap.lie (x := x31) (by rw [HN31.out]; omega)).swap) (hA.swap.less (fun p hp => by cases hp)))
            clear hA HSy LD31 HW31 HC31
            obtain ⟨t32, hz⟩ : ∃ z, (wS F t x31) = z := ⟨_, rfl⟩
            rw [hz] at G32
            clear hz
            go_wp2
            go_roundw
            case rel => exact ⟨i + 1, s, t32, by omega, by first | rfl | (push_cast; rfl), G32.out.1, G32.out.2⟩
            case measure => simp [intOf]; omega
          · obtain ⟨E31, hE31⟩ : ∃ E, wE F t x31 = E := ⟨_, rfl⟩
            have HSy := Lib.hid (HW31.out.2.2.2.says F hF2 (zv x31) HC31.out.1 HC31.out.2.1 (E := E31) hE31)
            go_upto_region 20 with (go_at_call 17; refine (B31.out _).mono ?_; rintro e wq ⟨rfl, hww⟩; have hww2 := hww.symm; subst hww2; clear hww)
            clear cn
            go_wp2_with (refine load_mid_g rfl 27 _ rfl wo.heap.size 0 rfl [.int .i64 x31.nd, .int .i64 0, .int .i64 x31.sq, .bool x31.c, .int .u8 (x31.b.toNat : Int)] _ LD31.out Try.underlying27 rfl hi5.out ?_; simp only [Act.put])
            refine HSy.out.mono ?_
            rintro e w33 ⟨rfl, hA⟩
            have HA := Lib.hid hA
            clear hA HSy LD31
            by_cases hE0 : E31 = 0
            · subst hE0
              have hBv := Lib.hid (HA.out.blk (show (wo.heap.size, 27, wcW (zv x31)) ∈ _ from List.mem_cons_self)).range
              have HSz := Lib.hid (HA.out.swap.says F hF2 (zv x31) HC31.out.1 HC31.out.2.1 rfl)
              go_wp2_with (refine load_mid_g rfl 27 _ rfl wo.heap.size 0 rfl [.int .i64 x31.nd, .int .i64 0, .int .i64 x31.sq, .bool x31.c, .int .u8 (x31.b.toNat : Int)] _ hBv.out Try.underlying27 rfl hi5.out ?_; simp only [Act.put])
              refine HSz.out.mono ?_
              rintro e w34 ⟨rfl, hA⟩
              have G34 : Hid (SfS F (wS F s x31) (wS F t x31) ∧ As2 w w34 g h (wS F s x31) (wS F t x31) []) := Lib.hid (And.intro ((H7.out.1.swap.both (x := x31) (by rw [HN31.out]; omega) hE31).swap) (hA.less (fun p hp => by cases hp)))
              clear hA HSz hBv HA HW31 HC31
              obtain ⟨s34, hz⟩ : ∃ z, (wS F s x31) = z := ⟨_, rfl⟩
              obtain ⟨t34, hz2⟩ : ∃ z, (wS F t x31) = z := ⟨_, rfl⟩
              rw [hz, hz2] at G34
              clear hz hz2 hE31
              go_wp2
              go_roundw
              case rel => exact ⟨i + 1, s34, t34, by omega, by first | rfl | (push_cast; rfl), G34.out.1, G34.out.2⟩
              case measure => simp [intOf]; omega
            · have hE1 : (E31 == 0) = false := by simp [hE0]
              have hof : wS F t (zv x31) = t := off_wS (F := F) (x := x31) (by rw [hE31]; exact hE0)
              have hA := HA.out
              rw [hof] at hA
              have G35 : Hid (SfS F s t ∧ As2 w w33 g h s t []) := Lib.hid (And.intro H7.out.1 (hA.swap.less (fun p hp => by cases hp)))
              clear hA HA HW31 HC31 hof
              go_wp2
              go_roundw
              case rel => exact ⟨i + 1, s, t, by omega, by first | rfl | (push_cast; rfl), G35.out.1, G35.out.2⟩
              case measure => simp [intOf]; omega
        · have hd31 : ¬ (i : Int) < (ntoOther : Int) := by omega
          go_wp2
          go_roundw
          case rel => exact ⟨i + 1, s, t, by omega, by first | rfl | (push_cast; rfl), H7.out.1, H7.out.2⟩
          case measure => simp [intOf]; omega
    · have hi80' : ¬ (i : Int) < 80 := by omega
      go_upto_region 23 with fail
      go_loopw [13] (fun v13 wr => ∃ q : Nat, 1 ≤ q ∧ q ≤ 9 ∧ v13 = .int .i64 (q : Int) ∧ As2 w wr g h s t []) (fun v _ => 20 - (intOf v).toNat)
      case atStart => exact ⟨1, by omega, by omega, rfl, H7.out.2⟩
      case round =>
        rename World => wx
        obtain ⟨q, hq1, hq9, rfl, hA⟩ := hrel
        have HA := Lib.hid hA
        clear hA
        by_cases hq : q < 9
        · have hq' : (q : Int) < 9 := by omega
          have hwsq : IntKind.i64.wrap ((q : Int) + 1) = (q : Int) + 1 := IntWalk.i64_in _ (by omega)
          have hwf : Wf (q : Int) := wf_b (by omega) (by omega)
          obtain ⟨X, BX, hatA, hXd⟩ := HA.out.at_ hwf
          obtain ⟨CX, hCX⟩ : ∃ C, sdT X = C := ⟨_, rfl⟩
          rw [hCX] at hatA
          have HT1 := Lib.hid hatA
          clear hatA
          go_wp2_with fail
          refine HT1.out.mono ?_
          rintro e x1 ⟨rfl, hb⟩
          obtain ⟨x2, e1, e2, e3, e4⟩ := stand_var x1 X hCX
          have HV1 := Lib.hid (And.intro e1 e2)
          have hA2 := (HA.out.below hb).add e4 (Nat.le_refl _) e3
          have HA2 := Lib.hid hA2
          clear e1 e2 e3 e4 hb hA2
          obtain ⟨Y, BY, hatB, hYd⟩ := HA2.out.swap.at_ hwf
          obtain ⟨CY, hCY⟩ : ∃ C, sdT Y = C := ⟨_, rfl⟩
          rw [hCY] at hatB
          have HT2 := Lib.hid hatB
          clear hatB
          go_wp2_with (refine wpList_store_mid rfl 41 _ _ rfl x1.heap.size 0 CX.toArray rfl rfl HV1.out.2.1 HV1.out.2.2.1 HV1.out.2.2.2 ?_; simp only [Act.put]; refine cast (congrArg (fun z => wpList _ _ _ _ _ z) HV1.out.1.symm) ?_)
          refine HT2.out.mono ?_
          rintro e x3 ⟨rfl, hb⟩
          obtain ⟨x4, e1, e2, e3, e4⟩ := stand_var x3 Y hCY
          have HV2 := Lib.hid (And.intro e1 e2)
          have hA4 := (HA2.out.below hb).add e4 (Nat.le_refl _) e3
          have HA4 := Lib.hid hA4
          clear e1 e2 e3 e4 hb hA4
          obtain ⟨P, hP⟩ : ∃ P, preS s (q : Int) = P := ⟨_, rfl⟩
          obtain ⟨Q, hQ⟩ : ∃ Q, preS t (q : Int) = Q := ⟨_, rfl⟩
          have P1 := Lib.hid (HA4.out.pre hwf hP)
          go_upto_region 27 with (refine wpList_store_mid rfl 41 _ _ rfl x3.heap.size 0 CY.toArray rfl rfl HV2.out.2.1 HV2.out.2.2.1 HV2.out.2.2.2 ?_; simp only [Act.put]; refine cast (congrArg (fun z => wpList _ _ _ _ _ z) HV2.out.1.symm) ?_)
          go_wp2_with fail
          refine P1.out.mono ?_
          rintro e x5 ⟨rfl, hb⟩
          have HA5 := Lib.hid (HA4.out.below hb)
          clear hb
          cases P with
          | false =>
            go_wp2
            go_roundw
            case rel => exact ⟨q + 1, by omega, by omega, by first | rfl | (push_cast; rfl), HA5.out.less (fun p hp => by cases hp)⟩
            case measure => simp [intOf]; omega
          | true =>
            have P2 := Lib.hid (HA5.out.swap.pre hwf hQ)
            go_wp2_with fail
            refine P2.out.mono ?_
            rintro e x6 ⟨rfl, hb⟩
            have HA6 := Lib.hid (HA5.out.below hb)
            clear hb
            cases Q with
            | false =>
              go_wp2
              go_roundw
              case rel => exact ⟨q + 1, by omega, by omega, by first | rfl | (push_cast; rfl), HA6.out.less (fun p hp => by cases hp)⟩
              case measure => simp [intOf]; omega
            | true =>
              obtain ⟨vx, vy, ⟨ia, ja, la⟩, ⟨ib, jb, lb⟩, hxy⟩ := H7.out.1.safe (by omega) hP hQ
              have hdx : X.1.d = vx.d := hXd ia vx ja la
              have hdy : Y.1.d = vx.d := (hYd ib vy jb lb).trans hxy.symm
              have hBx : Blk x6 x1.heap.size 41 (sdT X) := by rw [hCX]; exact HA6.out.blk (show (x1.heap.size, 41, CX) ∈ _ by simp)
              have hBy : Blk x6 x3.heap.size 41 (sdT Y) := by rw [hCY]; exact HA6.out.blk (show (x3.heap.size, 41, CY) ∈ _ by simp)
              have rx := stand_row_d hBx
              have ry := stand_row_d hBy
              rw [hdx] at rx
              rw [hdy] at ry
              have hd32 : vx.d.length = 32 := by rw [← hdx]; exact X.2
              have heq : ∀ W, (Op.equalIn 10000 39 (.agg (cbs vx.d).toArray) (.agg (cbs vx.d).toArray)).run Try.prog W = .ok true W := fun W => by have := dg_eq vx.d vx.d hd32 hd32 W; simpa using this
              have hin : (Try.prog.info? 39).map (·.size) = some (cbs vx.d).length := by rw [cbs_length, hd32]; exact dig_info
              obtain ⟨D, hD⟩ : ∃ D, cbs vx.d = D := ⟨_, rfl⟩
              rw [hD] at rx ry heq hin
              have HR := Lib.hid (And.intro rx (And.intro ry hin))
              clear rx ry hin hD hBx hBy hdx hdy hd32
              go_wp2_with (first
                | (refine load_mid_g rfl 39 _ rfl x1.heap.size 1 rfl D _ HR.out.1 Try.underlying39 rfl HR.out.2.2 ?_; simp only [Act.put])
                | (refine load_mid_g rfl 39 _ rfl x3.heap.size 1 rfl D _ HR.out.2.1 Try.underlying39 rfl HR.out.2.2 ?_; simp only [Act.put]))
              go_roundw
              case rel => exact ⟨q + 1, by omega, by omega, by first | rfl | (push_cast; rfl), HA6.out.less (fun p hp => by cases hp)⟩
              case measure => simp [intOf]; omega
        · have hq' : ¬ (q : Int) < 9 := by omega
          go_wp2_with (go_at_call 16; refine (HAw.out _).mono ?_; rintro e x7 ⟨rfl, hb⟩; replace hb := Lib.hid hb)
          go_ret
          exact ⟨rfl, HA.out.bel.trans (hb.out.mono HA.out.bel.size)⟩

end Go.Proofs.Ytmdgcimjmmnbjaa.slotsSafe
