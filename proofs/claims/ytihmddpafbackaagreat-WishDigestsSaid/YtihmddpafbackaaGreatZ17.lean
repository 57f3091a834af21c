/-
  Laid together for a hand-in: RefRound, Padded.
-/
import Derived.Test.YtihmddpafbackaaGreatZ03
import Derived.Test.YtihmddpafbackaaGreatZ07
import Derived.Test.YtihmddpafbackaaGreatZ05
import Derived.Test.YtihmddpafbackaaGreatZ06
import Derived.Outline

namespace Go.Proofs.YtihmddpafbackaaGreat

open Go.RowKit

set_option linter.unusedVariables false

/-- A new array of 64 words, behind the frame's own blocks. -/
def NewZ (w W : World) (g : Nat) : Prop := ZB W g ∧ w.heap.size + 2 < g

theorem NewZ.next {w W W' : World} {g : Nat} (h : NewZ w W g) (hb : Below W.heap.size W W') : NewZ w W' g := ⟨ZB.below hb h.1, h.2⟩

theorem ZB.lt' {W : World} {g : Nat} (h : ZB W g) : g < W.heap.size := Blk.lt h

section

variable {P : Program} {ops : Array Oper} {Q : Exit → Act → World → Prop} {md : Region.Mode} {S : World → Prop}

theorem anyH_only {i : Nat} {fuel : Nat} {listed : Array Bool} {a : Act} {w : World} (hr : Region.ready md ops listed = [i])
    (h : wpOp P ops Q i (fun a' w' => S w' ∧ wpAnyH P md ops Q S fuel (listed.setIfInBounds i true) a' w') a w) : wpAnyH P md ops Q S (fuel + 1) listed a w := anyH_one hr h

theorem anyH_two3 {i j : Nat} {fuel : Nat} {listed : Array Bool} {a : Act} {w : World} (hr : Region.ready md ops listed = [i, j])
    (h1 : wpOp P ops Q i (fun a' w' => S w' ∧ wpAnyH P md ops Q S fuel (listed.setIfInBounds i true) a' w') a w)
    (h2 : wpOp P ops Q j (fun a' w' => S w' ∧ wpAnyH P md ops Q S fuel (listed.setIfInBounds j true) a' w') a w) : wpAnyH P md ops Q S (fuel + 1) listed a w :=
  wpAnyH_all hr (by simp) (fun k hk => by
    simp at hk
    rcases hk with rfl | rfl
    · exact h1
    · exact h2)

theorem anyH_three {i j l : Nat} {fuel : Nat} {listed : Array Bool} {a : Act} {w : World} (hr : Region.ready md ops listed = [i, j, l])
    (h1 : wpOp P ops Q i (fun a' w' => S w' ∧ wpAnyH P md ops Q S fuel (listed.setIfInBounds i true) a' w') a w)
    (h2 : wpOp P ops Q j (fun a' w' => S w' ∧ wpAnyH P md ops Q S fuel (listed.setIfInBounds j true) a' w') a w)
    (h3 : wpOp P ops Q l (fun a' w' => S w' ∧ wpAnyH P md ops Q S fuel (listed.setIfInBounds l true) a' w') a w) : wpAnyH P md ops Q S (fuel + 1) listed a w :=
  wpAnyH_all hr (by simp) (fun k hk => by
    simp at hk
    rcases hk with rfl | rfl | rfl
    · exact h1
    · exact h2
    · exact h3)

end

theorem op_new64 {ops : Array Oper} {Q : Exit → Act → World → Prop} {K : Act → World → Prop} {i d : Nat} {oi : Oper} {a : Act} {W : World} (hi : ops[i]? = some oi) (hd : oi.dst = some d) (hgd : oi.guard = none) (ho : oi.op = .alloc 116)
    (h : ∀ W' g, W.heap.size ≤ g → ZB W' g → Below W.heap.size W W' → K { a with tmps := a.tmps.setIfInBounds d (.pointer (some ⟨g, 0, none⟩)) } W') : wpOp Tryz.prog ops Q i K a W := by
  refine wpOp_step hi (fun K' hK => ?_)
  have hw : Region.wanted oi (yielded ops a.tmps) = true := by simp [Region.wanted, hgd]
  rw [if_pos hw]
  have h0 := hK _ _ (h (W.alloc (.cells zero64.toArray 116)) _ (Nat.le_refl _) (ZB.new_ W) ((Below.refl _ _).alloc (Nat.le_refl _) _))
  unfold Oper.wp execOp
  rw [ho]
  go_simp
  exact h0

set_option maxRecDepth 100000 in
set_option maxHeartbeats 12800000 in
theorem refRound_any (s : S8) (bs : List UInt8) (w : World) (hl : bs.length = 64) :
    Calls Tryz.prog 85 #[v8 s, .agg (cbs bs).toArray] w fun e w' => e = .returned (v8 (rnd s bs)) ∧ Below w.heap.size w w' := by
  have Hl := Lib.hid hl
  clear hl
  have hv : v8 s = .agg #[.int .u32 (s.a.toNat : Int), .int .u32 (s.b.toNat : Int), .int .u32 (s.c.toNat : Int), .int .u32 (s.d.toNat : Int), .int .u32 (s.e.toNat : Int), .int .u32 (s.f.toNat : Int), .int .u32 (s.g.toNat : Int), .int .u32 (s.h.toNat : Int)] := rfl
  rw [hv]
  clear hv
  go_enter Tryz.func85, Tryz.ntmps85
  go_upto_region 1 with fail
  go_cut [5, 6] (fun p5 p6 wx => ∃ g5 g6 : Nat, p5 = .pointer (some ⟨g5, 0, none⟩) ∧ p6 = .pointer (some ⟨g6, 0, none⟩) ∧ Blk wx g5 116 (cws KK) ∧ Blk wx g6 116 (cws (sch bs 64)) ∧
      w.heap.size + 2 < g5 ∧ w.heap.size + 2 < g6 ∧ Blk wx w.heap.size 97 (l8 s) ∧ (∃ z, Blk wx (w.heap.size + 1 + 1) 97 z ∧ z.length = 8) ∧ Below w.heap.size w wx)
  case first =>
    go_wp2_with fail
    have hi64 : (Tryz.prog.info? 99).map (·.size) = some (cbs bs).length := by rw [cbs_length, Hl.out]; kernel_rfl
    have Hro := Lib.hid roots_any
    have Hsc := Lib.hid (fun w => schedule_any bs w Hl.out)
    have G0 : Good w s bs ((((w.alloc (.cells (l8 s).toArray 97)).alloc (.cells (cbs bs).toArray 99)).alloc (.cells (l8 ⟨0, 0, 0, 0, 0, 0, 0, 0⟩).toArray 97)).drew) :=
      ⟨((Blk.new rfl rfl).old _).old _, (Blk.new rfl (by simp)).old _, ⟨_, Blk.new rfl (by simp), rfl⟩, ((((Below.refl _ _).alloc (Nat.le_refl _) _).alloc (by simp) _).alloc (by simp; omega) _).drew⟩
    refine wp_region_held_drew (S := Good w s bs) (by kernel_rfl) G0 (fun _ => ?_)
    refine anyH_load (i := 1) (d := 19) rfl rfl (by kernel_rfl) (by kernel_rfl) (by kernel_rfl) (by rfl) 99 _ rfl (w.heap.size + 1) 0 rfl (cbs bs) _ (fun _ h => Good.range h) Tryz.underlying99 rfl hi64 (fun _ _ _ h => h) G0 ?_
    simp only [List.setIfInBounds_toArray, List.set_cons_zero, List.set_cons_succ]
    refine anyH_three (i := 0) (j := 3) (l := 4) (by kernel_rfl) ?_ ?_ ?_
    · skip
      refine wpOp_step rfl (fun K hK => ?_)
      go_simp
      refine (Hro.out _).mono ?_
      rintro e W1 ⟨rfl, hb1⟩
      have G1 := Good.below G0 hb1
      refine hK _ _ ⟨G1, ?_⟩
      clear hK K
      refine anyH_three (i := 2) (j := 3) (l := 4) (by kernel_rfl) ?_ ?_ ?_
      · skip
        refine wpOp_step rfl (fun K hK => ?_)
        go_simp
        refine (Hsc.out _).mono ?_
        rintro e W2 ⟨rfl, hb2⟩
        have G2 := Good.below G1 hb2
        refine hK _ _ ⟨G2, ?_⟩
        clear hK K
        refine anyH_two3 (i := 3) (j := 4) (by kernel_rfl) ?_ ?_
        · skip
          refine op_new64 rfl rfl rfl rfl (fun W3 g3 hg3 y3 hb3 => ?_)
          have m3 := Nat.lt_of_lt_of_le (Good.lt G2) hg3
          have G3 := Good.below G2 hb3
          have x3_3 : NewZ w W3 _ := ⟨y3, m3⟩
          clear hg3 y3
          refine ⟨G3, ?_⟩
          simp only [List.setIfInBounds_toArray, List.set_cons_zero, List.set_cons_succ]
          refine anyH_only (i := 4) (by kernel_rfl) ?_
          refine op_new64 rfl rfl rfl rfl (fun W4 g4 hg4 y4 hb4 => ?_)
          have m4 := Nat.lt_of_lt_of_le (Good.lt G3) hg4
          have G4 := Good.below G3 hb4
          have x3_4 := (x3_3).next hb4
          have x4_4 : NewZ w W4 _ := ⟨y4, m4⟩
          have ne := Nat.lt_of_lt_of_le (x3_3).1.lt' hg4
          clear hg4 y4
          refine ⟨G4, ?_⟩
          simp only [List.setIfInBounds_toArray, List.set_cons_zero, List.set_cons_succ]
          refine anyH_only (i := 5) (by kernel_rfl) ?_
          refine op_store rfl rfl rfl 116 _ _ rfl _ 0 (cws KK).toArray rfl rfl (by rw [KK_size]; exact ZB.there_ x3_4.1 rfl) (by rw [KK_size]; exact info64w) (cws_one KK) ?_
          have GA := Good.set_ G4 x3_4.2 (cws KK).toArray.toList
          refine ⟨GA, ?_⟩
          refine anyH_only (i := 6) (by kernel_rfl) ?_
          have hsz : (cws (sch bs 64)).toArray.size = 64 := by rw [List.size_toArray, cws_length, sch_len]
          have zb' := Blk.farAll (g' := _) (by first | exact Nat.ne_of_lt ne | exact Nat.ne_of_gt ne) (cws KK).toArray.toList (o := 0) x4_4.1
          refine op_store rfl rfl rfl 116 _ _ rfl _ 0 (cws (sch bs 64)).toArray rfl rfl (by rw [hsz]; exact ZB.there_ zb' rfl) (by rw [hsz]; exact info64w) (cws_one _) ?_
          have GF := Good.set_ GA x4_4.2 (cws (sch bs 64)).toArray.toList
          refine ⟨GF, ?_⟩
          refine wpAnyH_done (by kernel_rfl) ?_ _
          have kA := Blk.farAll (g' := _) (by first | exact Nat.ne_of_lt ne | exact Nat.ne_of_gt ne) (cws (sch bs 64)).toArray.toList (o := 0) (Blk.setAll x3_4.1 (vs := cws KK) (by rw [cws_length, KK_len]; rfl))
          have kB := Blk.setAll zb' (vs := cws (sch bs 64)) (by rw [cws_length, sch_len]; rfl)
          clear Hro Hsc hi64
          go_wp2
          go_meet
          exact ⟨_, _, rfl, rfl, kA, kB, x3_4.2, x4_4.2, GF.1, GF.2.2.1, GF.2.2.2⟩
        · skip
          refine op_new64 rfl rfl rfl rfl (fun W5 g5 hg5 y5 hb5 => ?_)
          have m5 := Nat.lt_of_lt_of_le (Good.lt G2) hg5
          have G5 := Good.below G2 hb5
          have x4_5 : NewZ w W5 _ := ⟨y5, m5⟩
          clear hg5 y5
          refine ⟨G5, ?_⟩
          simp only [List.setIfInBounds_toArray, List.set_cons_zero, List.set_cons_succ]
          refine anyH_only (i := 3) (by kernel_rfl) ?_
          refine op_new64 rfl rfl rfl rfl (fun W6 g6 hg6 y6 hb6 => ?_)
          have m6 := Nat.lt_of_lt_of_le (Good.lt G5) hg6
          have G6 := Good.below G5 hb6
          have x4_6 := (x4_5).next hb6
          have x3_6 : NewZ w W6 _ := ⟨y6, m6⟩
          have ne := Nat.lt_of_lt_of_le (x4_5).1.lt' hg6
          clear hg6 y6
          refine ⟨G6, ?_⟩
          simp only [List.setIfInBounds_toArray, List.set_cons_zero, List.set_cons_succ]
          refine anyH_only (i := 5) (by kernel_rfl) ?_
          refine op_store rfl rfl rfl 116 _ _ rfl _ 0 (cws KK).toArray rfl rfl (by rw [KK_size]; exact ZB.there_ x3_6.1 rfl) (by rw [KK_size]; exact info64w) (cws_one KK) ?_
          have GA := Good.set_ G6 x3_6.2 (cws KK).toArray.toList
          refine ⟨GA, ?_⟩
          refine anyH_only (i := 6) (by kernel_rfl) ?_
          have hsz : (cws (sch bs 64)).toArray.size = 64 := by rw [List.size_toArray, cws_length, sch_len]
          have zb' := Blk.farAll (g' := _) (by first | exact Nat.ne_of_lt ne | exact Nat.ne_of_gt ne) (cws KK).toArray.toList (o := 0) x4_6.1
          refine op_store rfl rfl rfl 116 _ _ rfl _ 0 (cws (sch bs 64)).toArray rfl rfl (by rw [hsz]; exact ZB.there_ zb' rfl) (by rw [hsz]; exact info64w) (cws_one _) ?_
          have GF := Good.set_ GA x4_6.2 (cws (sch bs 64)).toArray.toList
          refine ⟨GF, ?_⟩
          refine wpAnyH_done (by kernel_rfl) ?_ _
          have kA := Blk.farAll (g' := _) (by first | exact Nat.ne_of_lt ne | exact Nat.ne_of_gt ne) (cws (sch bs 64)).toArray.toList (o := 0) (Blk.setAll x3_6.1 (vs := cws KK) (by rw [cws_length, KK_len]; rfl))
          have kB := Blk.setAll zb' (vs := cws (sch bs 64)) (by rw [cws_length, sch_len]; rfl)
          clear Hro Hsc hi64
          go_wp2
          go_meet
          exact ⟨_, _, rfl, rfl, kA, kB, x3_6.2, x4_6.2, GF.1, GF.2.2.1, GF.2.2.2⟩
      · skip
        refine op_new64 rfl rfl rfl rfl (fun W7 g7 hg7 y7 hb7 => ?_)
        have m7 := Nat.lt_of_lt_of_le (Good.lt G1) hg7
        have G7 := Good.below G1 hb7
        have x3_7 : NewZ w W7 _ := ⟨y7, m7⟩
        clear hg7 y7
        refine ⟨G7, ?_⟩
        simp only [List.setIfInBounds_toArray, List.set_cons_zero, List.set_cons_succ]
        refine anyH_two3 (i := 2) (j := 4) (by kernel_rfl) ?_ ?_
        · skip
          refine wpOp_step rfl (fun K hK => ?_)
          go_simp
          refine (Hsc.out _).mono ?_
          rintro e W8 ⟨rfl, hb8⟩
          have G8 := Good.below G7 hb8
          have x3_8 := (x3_7).next hb8
          refine hK _ _ ⟨G8, ?_⟩
          clear hK K
          refine anyH_only (i := 4) (by kernel_rfl) ?_
          refine op_new64 rfl rfl rfl rfl (fun W9 g9 hg9 y9 hb9 => ?_)
          have m9 := Nat.lt_of_lt_of_le (Good.lt G8) hg9
          have G9 := Good.below G8 hb9
          have x3_9 := (x3_8).next hb9
          have x4_9 : NewZ w W9 _ := ⟨y9, m9⟩
          have ne := Nat.lt_of_lt_of_le (x3_8).1.lt' hg9
          clear hg9 y9
          refine ⟨G9, ?_⟩
          simp only [List.setIfInBounds_toArray, List.set_cons_zero, List.set_cons_succ]
          refine anyH_only (i := 5) (by kernel_rfl) ?_
          refine op_store rfl rfl rfl 116 _ _ rfl _ 0 (cws KK).toArray rfl rfl (by rw [KK_size]; exact ZB.there_ x3_9.1 rfl) (by rw [KK_size]; exact info64w) (cws_one KK) ?_
          have GA := Good.set_ G9 x3_9.2 (cws KK).toArray.toList
          refine ⟨GA, ?_⟩
          refine anyH_only (i := 6) (by kernel_rfl) ?_
          have hsz : (cws (sch bs 64)).toArray.size = 64 := by rw [List.size_toArray, cws_length, sch_len]
          have zb' := Blk.farAll (g' := _) (by first | exact Nat.ne_of_lt ne | exact Nat.ne_of_gt ne) (cws KK).toArray.toList (o := 0) x4_9.1
          refine op_store rfl rfl rfl 116 _ _ rfl _ 0 (cws (sch bs 64)).toArray rfl rfl (by rw [hsz]; exact ZB.there_ zb' rfl) (by rw [hsz]; exact info64w) (cws_one _) ?_
          have GF := Good.set_ GA x4_9.2 (cws (sch bs 64)).toArray.toList
          refine ⟨GF, ?_⟩
          refine wpAnyH_done (by kernel_rfl) ?_ _
          have kA := Blk.farAll (g' := _) (by first | exact Nat.ne_of_lt ne | exact Nat.ne_of_gt ne) (cws (sch bs 64)).toArray.toList (o := 0) (Blk.setAll x3_9.1 (vs := cws KK) (by rw [cws_length, KK_len]; rfl))
          have kB := Blk.setAll zb' (vs := cws (sch bs 64)) (by rw [cws_length, sch_len]; rfl)
          clear Hro Hsc hi64
          go_wp2
          go_meet
          exact ⟨_, _, rfl, rfl, kA, kB, x3_9.2, x4_9.2, GF.1, GF.2.2.1, GF.2.2.2⟩
        · skip
          refine op_new64 rfl rfl rfl rfl (fun W10 g10 hg10 y10 hb10 => ?_)
          have m10 := Nat.lt_of_lt_of_le (Good.lt G7) hg10
          have G10 := Good.below G7 hb10
          have x3_10 := (x3_7).next hb10
          have x4_10 : NewZ w W10 _ := ⟨y10, m10⟩
          have ne := Nat.lt_of_lt_of_le (x3_7).1.lt' hg10
          clear hg10 y10
          refine ⟨G10, ?_⟩
          simp only [List.setIfInBounds_toArray, List.set_cons_zero, List.set_cons_succ]
          refine anyH_only (i := 2) (by kernel_rfl) ?_
          refine wpOp_step rfl (fun K hK => ?_)
          go_simp
          refine (Hsc.out _).mono ?_
          rintro e W11 ⟨rfl, hb11⟩
          have G11 := Good.below G10 hb11
          have x3_11 := (x3_10).next hb11
          have x4_11 := (x4_10).next hb11
          refine hK _ _ ⟨G11, ?_⟩
          clear hK K
          refine anyH_only (i := 5) (by kernel_rfl) ?_
          refine op_store rfl rfl rfl 116 _ _ rfl _ 0 (cws KK).toArray rfl rfl (by rw [KK_size]; exact ZB.there_ x3_11.1 rfl) (by rw [KK_size]; exact info64w) (cws_one KK) ?_
          have GA := Good.set_ G11 x3_11.2 (cws KK).toArray.toList
          refine ⟨GA, ?_⟩
          refine anyH_only (i := 6) (by kernel_rfl) ?_
          have hsz : (cws (sch bs 64)).toArray.size = 64 := by rw [List.size_toArray, cws_length, sch_len]
          have zb' := Blk.farAll (g' := _) (by first | exact Nat.ne_of_lt ne | exact Nat.ne_of_gt ne) (cws KK).toArray.toList (o := 0) x4_11.1
          refine op_store rfl rfl rfl 116 _ _ rfl _ 0 (cws (sch bs 64)).toArray rfl rfl (by rw [hsz]; exact ZB.there_ zb' rfl) (by rw [hsz]; exact info64w) (cws_one _) ?_
          have GF := Good.set_ GA x4_11.2 (cws (sch bs 64)).toArray.toList
          refine ⟨GF, ?_⟩
          refine wpAnyH_done (by kernel_rfl) ?_ _
          have kA := Blk.farAll (g' := _) (by first | exact Nat.ne_of_lt ne | exact Nat.ne_of_gt ne) (cws (sch bs 64)).toArray.toList (o := 0) (Blk.setAll x3_11.1 (vs := cws KK) (by rw [cws_length, KK_len]; rfl))
          have kB := Blk.setAll zb' (vs := cws (sch bs 64)) (by rw [cws_length, sch_len]; rfl)
          clear Hro Hsc hi64
          go_wp2
          go_meet
          exact ⟨_, _, rfl, rfl, kA, kB, x3_11.2, x4_11.2, GF.1, GF.2.2.1, GF.2.2.2⟩
      · skip
        refine op_new64 rfl rfl rfl rfl (fun W12 g12 hg12 y12 hb12 => ?_)
        have m12 := Nat.lt_of_lt_of_le (Good.lt G1) hg12
        have G12 := Good.below G1 hb12
        have x4_12 : NewZ w W12 _ := ⟨y12, m12⟩
        clear hg12 y12
        refine ⟨G12, ?_⟩
        simp only [List.setIfInBounds_toArray, List.set_cons_zero, List.set_cons_succ]
        refine anyH_two3 (i := 2) (j := 3) (by kernel_rfl) ?_ ?_
        · skip
          refine wpOp_step rfl (fun K hK => ?_)
          go_simp
          refine (Hsc.out _).mono ?_
          rintro e W13 ⟨rfl, hb13⟩
          have G13 := Good.below G12 hb13
          have x4_13 := (x4_12).next hb13
          refine hK _ _ ⟨G13, ?_⟩
          clear hK K
          refine anyH_only (i := 3) (by kernel_rfl) ?_
          refine op_new64 rfl rfl rfl rfl (fun W14 g14 hg14 y14 hb14 => ?_)
          have m14 := Nat.lt_of_lt_of_le (Good.lt G13) hg14
          have G14 := Good.below G13 hb14
          have x4_14 := (x4_13).next hb14
          have x3_14 : NewZ w W14 _ := ⟨y14, m14⟩
          have ne := Nat.lt_of_lt_of_le (x4_13).1.lt' hg14
          clear hg14 y14
          refine ⟨G14, ?_⟩
          simp only [List.setIfInBounds_toArray, List.set_cons_zero, List.set_cons_succ]
          refine anyH_only (i := 5) (by kernel_rfl) ?_
          refine op_store rfl rfl rfl 116 _ _ rfl _ 0 (cws KK).toArray rfl rfl (by rw [KK_size]; exact ZB.there_ x3_14.1 rfl) (by rw [KK_size]; exact info64w) (cws_one KK) ?_
          have GA := Good.set_ G14 x3_14.2 (cws KK).toArray.toList
          refine ⟨GA, ?_⟩
          refine anyH_only (i := 6) (by kernel_rfl) ?_
          have hsz : (cws (sch bs 64)).toArray.size = 64 := by rw [List.size_toArray, cws_length, sch_len]
          have zb' := Blk.farAll (g' := _) (by first | exact Nat.ne_of_lt ne | exact Nat.ne_of_gt ne) (cws KK).toArray.toList (o := 0) x4_14.1
          refine op_store rfl rfl rfl 116 _ _ rfl _ 0 (cws (sch bs 64)).toArray rfl rfl (by rw [hsz]; exact ZB.there_ zb' rfl) (by rw [hsz]; exact info64w) (cws_one _) ?_
          have GF := Good.set_ GA x4_14.2 (cws (sch bs 64)).toArray.toList
          refine ⟨GF, ?_⟩
          refine wpAnyH_done (by kernel_rfl) ?_ _
          have kA := Blk.farAll (g' := _) (by first | exact Nat.ne_of_lt ne | exact Nat.ne_of_gt ne) (cws (sch bs 64)).toArray.toList (o := 0) (Blk.setAll x3_14.1 (vs := cws KK) (by rw [cws_length, KK_len]; rfl))
          have kB := Blk.setAll zb' (vs := cws (sch bs 64)) (by rw [cws_length, sch_len]; rfl)
          clear Hro Hsc hi64
          go_wp2
          go_meet
          exact ⟨_, _, rfl, rfl, kA, kB, x3_14.2, x4_14.2, GF.1, GF.2.2.1, GF.2.2.2⟩
        · skip
          refine op_new64 rfl rfl rfl rfl (fun W15 g15 hg15 y15 hb15 => ?_)
          have m15 := Nat.lt_of_lt_of_le (Good.lt G12) hg15
          have G15 := Good.below G12 hb15
          have x4_15 := (x4_12).next hb15
          have x3_15 : NewZ w W15 _ := ⟨y15, m15⟩
          have ne := Nat.lt_of_lt_of_le (x4_12).1.lt' hg15
          clear hg15 y15
          refine ⟨G15, ?_⟩
          simp only [List.setIfInBounds_toArray, List.set_cons_zero, List.set_cons_succ]
          refine anyH_only (i := 2) (by kernel_rfl) ?_
          refine wpOp_step rfl (fun K hK => ?_)
          go_simp
          refine (Hsc.out _).mono ?_
          rintro e W16 ⟨rfl, hb16⟩
          have G16 := Good.below G15 hb16
          have x4_16 := (x4_15).next hb16
          have x3_16 := (x3_15).next hb16
          refine hK _ _ ⟨G16, ?_⟩
          clear hK K
          refine anyH_only (i := 5) (by kernel_rfl) ?_
          refine op_store rfl rfl rfl 116 _ _ rfl _ 0 (cws KK).toArray rfl rfl (by rw [KK_size]; exact ZB.there_ x3_16.1 rfl) (by rw [KK_size]; exact info64w) (cws_one KK) ?_
          have GA := Good.set_ G16 x3_16.2 (cws KK).toArray.toList
          refine ⟨GA, ?_⟩
          refine anyH_only (i := 6) (by kernel_rfl) ?_
          have hsz : (cws (sch bs 64)).toArray.size = 64 := by rw [List.size_toArray, cws_length, sch_len]
          have zb' := Blk.farAll (g' := _) (by first | exact Nat.ne_of_lt ne | exact Nat.ne_of_gt ne) (cws KK).toArray.toList (o := 0) x4_16.1
          refine op_store rfl rfl rfl 116 _ _ rfl _ 0 (cws (sch bs 64)).toArray rfl rfl (by rw [hsz]; exact ZB.there_ zb' rfl) (by rw [hsz]; exact info64w) (cws_one _) ?_
          have GF := Good.set_ GA x4_16.2 (cws (sch bs 64)).toArray.toList
          refine ⟨GF, ?_⟩
          refine wpAnyH_done (by kernel_rfl) ?_ _
          have kA := Blk.farAll (g' := _) (by first | exact Nat.ne_of_lt ne | exact Nat.ne_of_gt ne) (cws (sch bs 64)).toArray.toList (o := 0) (Blk.setAll x3_16.1 (vs := cws KK) (by rw [cws_length, KK_len]; rfl))
          have kB := Blk.setAll zb' (vs := cws (sch bs 64)) (by rw [cws_length, sch_len]; rfl)
          clear Hro Hsc hi64
          go_wp2
          go_meet
          exact ⟨_, _, rfl, rfl, kA, kB, x3_16.2, x4_16.2, GF.1, GF.2.2.1, GF.2.2.2⟩
    · skip
      refine op_new64 rfl rfl rfl rfl (fun W17 g17 hg17 y17 hb17 => ?_)
      have m17 := Nat.lt_of_lt_of_le (Good.lt G0) hg17
      have G17 := Good.below G0 hb17
      have x3_17 : NewZ w W17 _ := ⟨y17, m17⟩
      clear hg17 y17
      refine ⟨G17, ?_⟩
      simp only [List.setIfInBounds_toArray, List.set_cons_zero, List.set_cons_succ]
      refine anyH_two3 (i := 0) (j := 4) (by kernel_rfl) ?_ ?_
      · skip
        refine wpOp_step rfl (fun K hK => ?_)
        go_simp
        refine (Hro.out _).mono ?_
        rintro e W18 ⟨rfl, hb18⟩
        have G18 := Good.below G17 hb18
        have x3_18 := (x3_17).next hb18
        refine hK _ _ ⟨G18, ?_⟩
        clear hK K
        refine anyH_two3 (i := 2) (j := 4) (by kernel_rfl) ?_ ?_
        · skip
          refine wpOp_step rfl (fun K hK => ?_)
          go_simp
          refine (Hsc.out _).mono ?_
          rintro e W19 ⟨rfl, hb19⟩
          have G19 := Good.below G18 hb19
          have x3_19 := (x3_18).next hb19
          refine hK _ _ ⟨G19, ?_⟩
          clear hK K
          refine anyH_only (i := 4) (by kernel_rfl) ?_
          refine op_new64 rfl rfl rfl rfl (fun W20 g20 hg20 y20 hb20 => ?_)
          have m20 := Nat.lt_of_lt_of_le (Good.lt G19) hg20
          have G20 := Good.below G19 hb20
          have x3_20 := (x3_19).next hb20
          have x4_20 : NewZ w W20 _ := ⟨y20, m20⟩
          have ne := Nat.lt_of_lt_of_le (x3_19).1.lt' hg20
          clear hg20 y20
          refine ⟨G20, ?_⟩
          simp only [List.setIfInBounds_toArray, List.set_cons_zero, List.set_cons_succ]
          refine anyH_only (i := 5) (by kernel_rfl) ?_
          refine op_store rfl rfl rfl 116 _ _ rfl _ 0 (cws KK).toArray rfl rfl (by rw [KK_size]; exact ZB.there_ x3_20.1 rfl) (by rw [KK_size]; exact info64w) (cws_one KK) ?_
          have GA := Good.set_ G20 x3_20.2 (cws KK).toArray.toList
          refine ⟨GA, ?_⟩
          refine anyH_only (i := 6) (by kernel_rfl) ?_
          have hsz : (cws (sch bs 64)).toArray.size = 64 := by rw [List.size_toArray, cws_length, sch_len]
          have zb' := Blk.farAll (g' := _) (by first | exact Nat.ne_of_lt ne | exact Nat.ne_of_gt ne) (cws KK).toArray.toList (o := 0) x4_20.1
          refine op_store rfl rfl rfl 116 _ _ rfl _ 0 (cws (sch bs 64)).toArray rfl rfl (by rw [hsz]; exact ZB.there_ zb' rfl) (by rw [hsz]; exact info64w) (cws_one _) ?_
          have GF := Good.set_ GA x4_20.2 (cws (sch bs 64)).toArray.toList
          refine ⟨GF, ?_⟩
          refine wpAnyH_done (by kernel_rfl) ?_ _
          have kA := Blk.farAll (g' := _) (by first | exact Nat.ne_of_lt ne | exact Nat.ne_of_gt ne) (cws (sch bs 64)).toArray.toList (o := 0) (Blk.setAll x3_20.1 (vs := cws KK) (by rw [cws_length, KK_len]; rfl))
          have kB := Blk.setAll zb' (vs := cws (sch bs 64)) (by rw [cws_length, sch_len]; rfl)
          clear Hro Hsc hi64
          go_wp2
          go_meet
          exact ⟨_, _, rfl, rfl, kA, kB, x3_20.2, x4_20.2, GF.1, GF.2.2.1, GF.2.2.2⟩
        · skip
          refine op_new64 rfl rfl rfl rfl (fun W21 g21 hg21 y21 hb21 => ?_)
          have m21 := Nat.lt_of_lt_of_le (Good.lt G18) hg21
          have G21 := Good.below G18 hb21
          have x3_21 := (x3_18).next hb21
          have x4_21 : NewZ w W21 _ := ⟨y21, m21⟩
          have ne := Nat.lt_of_lt_of_le (x3_18).1.lt' hg21
          clear hg21 y21
          refine ⟨G21, ?_⟩
          simp only [List.setIfInBounds_toArray, List.set_cons_zero, List.set_cons_succ]
          refine anyH_only (i := 2) (by kernel_rfl) ?_
          refine wpOp_step rfl (fun K hK => ?_)
          go_simp
          refine (Hsc.out _).mono ?_
          rintro e W22 ⟨rfl, hb22⟩
          have G22 := Good.below G21 hb22
          have x3_22 := (x3_21).next hb22
          have x4_22 := (x4_21).next hb22
          refine hK _ _ ⟨G22, ?_⟩
          clear hK K
          refine anyH_only (i := 5) (by kernel_rfl) ?_
          refine op_store rfl rfl rfl 116 _ _ rfl _ 0 (cws KK).toArray rfl rfl (by rw [KK_size]; exact ZB.there_ x3_22.1 rfl) (by rw [KK_size]; exact info64w) (cws_one KK) ?_
          have GA := Good.set_ G22 x3_22.2 (cws KK).toArray.toList
          refine ⟨GA, ?_⟩
          refine anyH_only (i := 6) (by kernel_rfl) ?_
          have hsz : (cws (sch bs 64)).toArray.size = 64 := by rw [List.size_toArray, cws_length, sch_len]
          have zb' := Blk.farAll (g' := _) (by first | exact Nat.ne_of_lt ne | exact Nat.ne_of_gt ne) (cws KK).toArray.toList (o := 0) x4_22.1
          refine op_store rfl rfl rfl 116 _ _ rfl _ 0 (cws (sch bs 64)).toArray rfl rfl (by rw [hsz]; exact ZB.there_ zb' rfl) (by rw [hsz]; exact info64w) (cws_one _) ?_
          have GF := Good.set_ GA x4_22.2 (cws (sch bs 64)).toArray.toList
          refine ⟨GF, ?_⟩
          refine wpAnyH_done (by kernel_rfl) ?_ _
          have kA := Blk.farAll (g' := _) (by first | exact Nat.ne_of_lt ne | exact Nat.ne_of_gt ne) (cws (sch bs 64)).toArray.toList (o := 0) (Blk.setAll x3_22.1 (vs := cws KK) (by rw [cws_length, KK_len]; rfl))
          have kB := Blk.setAll zb' (vs := cws (sch bs 64)) (by rw [cws_length, sch_len]; rfl)
          clear Hro Hsc hi64
          go_wp2
          go_meet
          exact ⟨_, _, rfl, rfl, kA, kB, x3_22.2, x4_22.2, GF.1, GF.2.2.1, GF.2.2.2⟩
      · skip
        refine op_new64 rfl rfl rfl rfl (fun W23 g23 hg23 y23 hb23 => ?_)
        have m23 := Nat.lt_of_lt_of_le (Good.lt G17) hg23
        have G23 := Good.below G17 hb23
        have x3_23 := (x3_17).next hb23
        have x4_23 : NewZ w W23 _ := ⟨y23, m23⟩
        have ne := Nat.lt_of_lt_of_le (x3_17).1.lt' hg23
        clear hg23 y23
        refine ⟨G23, ?_⟩
        simp only [List.setIfInBounds_toArray, List.set_cons_zero, List.set_cons_succ]
        refine anyH_only (i := 0) (by kernel_rfl) ?_
        refine wpOp_step rfl (fun K hK => ?_)
        go_simp
        refine (Hro.out _).mono ?_
        rintro e W24 ⟨rfl, hb24⟩
        have G24 := Good.below G23 hb24
        have x3_24 := (x3_23).next hb24
        have x4_24 := (x4_23).next hb24
        refine hK _ _ ⟨G24, ?_⟩
        clear hK K
        refine anyH_only (i := 2) (by kernel_rfl) ?_
        refine wpOp_step rfl (fun K hK => ?_)
        go_simp
        refine (Hsc.out _).mono ?_
        rintro e W25 ⟨rfl, hb25⟩
        have G25 := Good.below G24 hb25
        have x3_25 := (x3_24).next hb25
        have x4_25 := (x4_24).next hb25
        refine hK _ _ ⟨G25, ?_⟩
        clear hK K
        refine anyH_only (i := 5) (by kernel_rfl) ?_
        refine op_store rfl rfl rfl 116 _ _ rfl _ 0 (cws KK).toArray rfl rfl (by rw [KK_size]; exact ZB.there_ x3_25.1 rfl) (by rw [KK_size]; exact info64w) (cws_one KK) ?_
        have GA := Good.set_ G25 x3_25.2 (cws KK).toArray.toList
        refine ⟨GA, ?_⟩
        refine anyH_only (i := 6) (by kernel_rfl) ?_
        have hsz : (cws (sch bs 64)).toArray.size = 64 := by rw [List.size_toArray, cws_length, sch_len]
        have zb' := Blk.farAll (g' := _) (by first | exact Nat.ne_of_lt ne | exact Nat.ne_of_gt ne) (cws KK).toArray.toList (o := 0) x4_25.1
        refine op_store rfl rfl rfl 116 _ _ rfl _ 0 (cws (sch bs 64)).toArray rfl rfl (by rw [hsz]; exact ZB.there_ zb' rfl) (by rw [hsz]; exact info64w) (cws_one _) ?_
        have GF := Good.set_ GA x4_25.2 (cws (sch bs 64)).toArray.toList
        refine ⟨GF, ?_⟩
        refine wpAnyH_done (by kernel_rfl) ?_ _
        have kA := Blk.farAll (g' := _) (by first | exact Nat.ne_of_lt ne | exact Nat.ne_of_gt ne) (cws (sch bs 64)).toArray.toList (o := 0) (Blk.setAll x3_25.1 (vs := cws KK) (by rw [cws_length, KK_len]; rfl))
        have kB := Blk.setAll zb' (vs := cws (sch bs 64)) (by rw [cws_length, sch_len]; rfl)
        clear Hro Hsc hi64
        go_wp2
        go_meet
        exact ⟨_, _, rfl, rfl, kA, kB, x3_25.2, x4_25.2, GF.1, GF.2.2.1, GF.2.2.2⟩
    · skip
      refine op_new64 rfl rfl rfl rfl (fun W26 g26 hg26 y26 hb26 => ?_)
      have m26 := Nat.lt_of_lt_of_le (Good.lt G0) hg26
      have G26 := Good.below G0 hb26
      have x4_26 : NewZ w W26 _ := ⟨y26, m26⟩
      clear hg26 y26
      refine ⟨G26, ?_⟩
      simp only [List.setIfInBounds_toArray, List.set_cons_zero, List.set_cons_succ]
      refine anyH_two3 (i := 0) (j := 3) (by kernel_rfl) ?_ ?_
      · skip
        refine wpOp_step rfl (fun K hK => ?_)
        go_simp
        refine (Hro.out _).mono ?_
        rintro e W27 ⟨rfl, hb27⟩
        have G27 := Good.below G26 hb27
        have x4_27 := (x4_26).next hb27
        refine hK _ _ ⟨G27, ?_⟩
        clear hK K
        refine anyH_two3 (i := 2) (j := 3) (by kernel_rfl) ?_ ?_
        · skip
          refine wpOp_step rfl (fun K hK => ?_)
          go_simp
          refine (Hsc.out _).mono ?_
          rintro e W28 ⟨rfl, hb28⟩
          have G28 := Good.below G27 hb28
          have x4_28 := (x4_27).next hb28
          refine hK _ _ ⟨G28, ?_⟩
          clear hK K
          refine anyH_only (i := 3) (by kernel_rfl) ?_
          refine op_new64 rfl rfl rfl rfl (fun W29 g29 hg29 y29 hb29 => ?_)
          have m29 := Nat.lt_of_lt_of_le (Good.lt G28) hg29
          have G29 := Good.below G28 hb29
          have x4_29 := (x4_28).next hb29
          have x3_29 : NewZ w W29 _ := ⟨y29, m29⟩
          have ne := Nat.lt_of_lt_of_le (x4_28).1.lt' hg29
          clear hg29 y29
          refine ⟨G29, ?_⟩
          simp only [List.setIfInBounds_toArray, List.set_cons_zero, List.set_cons_succ]
          refine anyH_only (i := 5) (by kernel_rfl) ?_
          refine op_store rfl rfl rfl 116 _ _ rfl _ 0 (cws KK).toArray rfl rfl (by rw [KK_size]; exact ZB.there_ x3_29.1 rfl) (by rw [KK_size]; exact info64w) (cws_one KK) ?_
          have GA := Good.set_ G29 x3_29.2 (cws KK).toArray.toList
          refine ⟨GA, ?_⟩
          refine anyH_only (i := 6) (by kernel_rfl) ?_
          have hsz : (cws (sch bs 64)).toArray.size = 64 := by rw [List.size_toArray, cws_length, sch_len]
          have zb' := Blk.farAll (g' := _) (by first | exact Nat.ne_of_lt ne | exact Nat.ne_of_gt ne) (cws KK).toArray.toList (o := 0) x4_29.1
          refine op_store rfl rfl rfl 116 _ _ rfl _ 0 (cws (sch bs 64)).toArray rfl rfl (by rw [hsz]; exact ZB.there_ zb' rfl) (by rw [hsz]; exact info64w) (cws_one _) ?_
          have GF := Good.set_ GA x4_29.2 (cws (sch bs 64)).toArray.toList
          refine ⟨GF, ?_⟩
          refine wpAnyH_done (by kernel_rfl) ?_ _
          have kA := Blk.farAll (g' := _) (by first | exact Nat.ne_of_lt ne | exact Nat.ne_of_gt ne) (cws (sch bs 64)).toArray.toList (o := 0) (Blk.setAll x3_29.1 (vs := cws KK) (by rw [cws_length, KK_len]; rfl))
          have kB := Blk.setAll zb' (vs := cws (sch bs 64)) (by rw [cws_length, sch_len]; rfl)
          clear Hro Hsc hi64
          go_wp2
          go_meet
          exact ⟨_, _, rfl, rfl, kA, kB, x3_29.2, x4_29.2, GF.1, GF.2.2.1, GF.2.2.2⟩
        · skip
          refine op_new64 rfl rfl rfl rfl (fun W30 g30 hg30 y30 hb30 => ?_)
          have m30 := Nat.lt_of_lt_of_le (Good.lt G27) hg30
          have G30 := Good.below G27 hb30
          have x4_30 := (x4_27).next hb30
          have x3_30 : NewZ w W30 _ := ⟨y30, m30⟩
          have ne := Nat.lt_of_lt_of_le (x4_27).1.lt' hg30
          clear hg30 y30
          refine ⟨G30, ?_⟩
          simp only [List.setIfInBounds_toArray, List.set_cons_zero, List.set_cons_succ]
          refine anyH_only (i := 2) (by kernel_rfl) ?_
          refine wpOp_step rfl (fun K hK => ?_)
          go_simp
          refine (Hsc.out _).mono ?_
          rintro e W31 ⟨rfl, hb31⟩
          have G31 := Good.below G30 hb31
          have x4_31 := (x4_30).next hb31
          have x3_31 := (x3_30).next hb31
          refine hK _ _ ⟨G31, ?_⟩
          clear hK K
          refine anyH_only (i := 5) (by kernel_rfl) ?_
          refine op_store rfl rfl rfl 116 _ _ rfl _ 0 (cws KK).toArray rfl rfl (by rw [KK_size]; exact ZB.there_ x3_31.1 rfl) (by rw [KK_size]; exact info64w) (cws_one KK) ?_
          have GA := Good.set_ G31 x3_31.2 (cws KK).toArray.toList
          refine ⟨GA, ?_⟩
          refine anyH_only (i := 6) (by kernel_rfl) ?_
          have hsz : (cws (sch bs 64)).toArray.size = 64 := by rw [List.size_toArray, cws_length, sch_len]
          have zb' := Blk.farAll (g' := _) (by first | exact Nat.ne_of_lt ne | exact Nat.ne_of_gt ne) (cws KK).toArray.toList (o := 0) x4_31.1
          refine op_store rfl rfl rfl 116 _ _ rfl _ 0 (cws (sch bs 64)).toArray rfl rfl (by rw [hsz]; exact ZB.there_ zb' rfl) (by rw [hsz]; exact info64w) (cws_one _) ?_
          have GF := Good.set_ GA x4_31.2 (cws (sch bs 64)).toArray.toList
          refine ⟨GF, ?_⟩
          refine wpAnyH_done (by kernel_rfl) ?_ _
          have kA := Blk.farAll (g' := _) (by first | exact Nat.ne_of_lt ne | exact Nat.ne_of_gt ne) (cws (sch bs 64)).toArray.toList (o := 0) (Blk.setAll x3_31.1 (vs := cws KK) (by rw [cws_length, KK_len]; rfl))
          have kB := Blk.setAll zb' (vs := cws (sch bs 64)) (by rw [cws_length, sch_len]; rfl)
          clear Hro Hsc hi64
          go_wp2
          go_meet
          exact ⟨_, _, rfl, rfl, kA, kB, x3_31.2, x4_31.2, GF.1, GF.2.2.1, GF.2.2.2⟩
      · skip
        refine op_new64 rfl rfl rfl rfl (fun W32 g32 hg32 y32 hb32 => ?_)
        have m32 := Nat.lt_of_lt_of_le (Good.lt G26) hg32
        have G32 := Good.below G26 hb32
        have x4_32 := (x4_26).next hb32
        have x3_32 : NewZ w W32 _ := ⟨y32, m32⟩
        have ne := Nat.lt_of_lt_of_le (x4_26).1.lt' hg32
        clear hg32 y32
        refine ⟨G32, ?_⟩
        simp only [List.setIfInBounds_toArray, List.set_cons_zero, List.set_cons_succ]
        refine anyH_only (i := 0) (by kernel_rfl) ?_
        refine wpOp_step rfl (fun K hK => ?_)
        go_simp
        refine (Hro.out _).mono ?_
        rintro e W33 ⟨rfl, hb33⟩
        have G33 := Good.below G32 hb33
        have x4_33 := (x4_32).next hb33
        have x3_33 := (x3_32).next hb33
        refine hK _ _ ⟨G33, ?_⟩
        clear hK K
        refine anyH_only (i := 2) (by kernel_rfl) ?_
        refine wpOp_step rfl (fun K hK => ?_)
        go_simp
        refine (Hsc.out _).mono ?_
        rintro e W34 ⟨rfl, hb34⟩
        have G34 := Good.below G33 hb34
        have x4_34 := (x4_33).next hb34
        have x3_34 := (x3_33).next hb34
        refine hK _ _ ⟨G34, ?_⟩
        clear hK K
        refine anyH_only (i := 5) (by kernel_rfl) ?_
        refine op_store rfl rfl rfl 116 _ _ rfl _ 0 (cws KK).toArray rfl rfl (by rw [KK_size]; exact ZB.there_ x3_34.1 rfl) (by rw [KK_size]; exact info64w) (cws_one KK) ?_
        have GA := Good.set_ G34 x3_34.2 (cws KK).toArray.toList
        refine ⟨GA, ?_⟩
        refine anyH_only (i := 6) (by kernel_rfl) ?_
        have hsz : (cws (sch bs 64)).toArray.size = 64 := by rw [List.size_toArray, cws_length, sch_len]
        have zb' := Blk.farAll (g' := _) (by first | exact Nat.ne_of_lt ne | exact Nat.ne_of_gt ne) (cws KK).toArray.toList (o := 0) x4_34.1
        refine op_store rfl rfl rfl 116 _ _ rfl _ 0 (cws (sch bs 64)).toArray rfl rfl (by rw [hsz]; exact ZB.there_ zb' rfl) (by rw [hsz]; exact info64w) (cws_one _) ?_
        have GF := Good.set_ GA x4_34.2 (cws (sch bs 64)).toArray.toList
        refine ⟨GF, ?_⟩
        refine wpAnyH_done (by kernel_rfl) ?_ _
        have kA := Blk.farAll (g' := _) (by first | exact Nat.ne_of_lt ne | exact Nat.ne_of_gt ne) (cws (sch bs 64)).toArray.toList (o := 0) (Blk.setAll x3_34.1 (vs := cws KK) (by rw [cws_length, KK_len]; rfl))
        have kB := Blk.setAll zb' (vs := cws (sch bs 64)) (by rw [cws_length, sch_len]; rfl)
        clear Hro Hsc hi64
        go_wp2
        go_meet
        exact ⟨_, _, rfl, rfl, kA, kB, x3_34.2, x4_34.2, GF.1, GF.2.2.1, GF.2.2.2⟩
  case rest =>
    obtain ⟨g5, g6, rfl, rfl, hK, hW, hg5, hg6, hS, ⟨z, hZ, hz⟩, hnx⟩ := hcut
    have c0 := hS.cell (i := 0) (v := .int .u32 (s.a.toNat : Int)) rfl
    have c1 := hS.cell (i := 1) (v := .int .u32 (s.b.toNat : Int)) rfl
    have c2 := hS.cell (i := 2) (v := .int .u32 (s.c.toNat : Int)) rfl
    have c3 := hS.cell (i := 3) (v := .int .u32 (s.d.toNat : Int)) rfl
    have c4 := hS.cell (i := 4) (v := .int .u32 (s.e.toNat : Int)) rfl
    have c5 := hS.cell (i := 5) (v := .int .u32 (s.f.toNat : Int)) rfl
    have c6 := hS.cell (i := 6) (v := .int .u32 (s.g.toNat : Int)) rfl
    have c7 := hS.cell (i := 7) (v := .int .u32 (s.h.toNat : Int)) rfl
    go_wp2
    go_loopw [8, 9, 10, 11, 12, 13, 14, 15, 16] (fun i _ _ _ _ _ _ _ _ wr => ∃ k : Nat, k ≤ 64 ∧ i = .int .i64 k ∧ Blk wr wc.heap.size 97 (l8 (steps8 bs s k)) ∧ Blk wr g5 116 (cws KK) ∧ Blk wr g6 116 (cws (sch bs 64)) ∧
        Blk wr w.heap.size 97 (l8 s) ∧ (∃ z, Blk wr (w.heap.size + 1 + 1) 97 z ∧ z.length = 8) ∧ Below w.heap.size w wr) (fun i _ _ _ _ _ _ _ _ _ => 64 - (intOf i).toNat)
    case atStart =>
      refine ⟨0, by omega, rfl, Blk.new rfl rfl, hK.old _, hW.old _, hS.old _, ⟨z, hZ.old _, hz⟩, hnx.alloc hnx.size _⟩
    case round =>
      have hg5' := hK.lt
      have hg6' := hW.lt
      have hg7' := hS.lt
      have hg8' := hZ.lt
      clear c0 c1 c2 c3 c4 c5 c6 c7 hK hW hS hZ hz hnx
      obtain ⟨k, hk, rfl, hT, hK, hW, hS, ⟨z, hZ, hz⟩, hnx⟩ := hrel
      by_cases hlt : k < 64
      · have hst : steps8 bs s (k + 1) = step8 (steps8 bs s k) (KK.getD k 0) (wt bs k) := rfl
        have cK := hK.cell (KK_cell (j := k) hlt)
        have cW := hW.cell (sch_cell bs (k := 64) (j := k) hlt hlt)
        have Hst := Lib.hid hst
        clear hst
        generalize steps8 bs s k = t at *
        generalize KK.getD k 0 = kk at *
        generalize wt bs k = ww at *
        have d0 := hT.cell (i := 0) (v := .int .u32 (t.a.toNat : Int)) rfl
        have f0 := hT.free 0
        have d1 := hT.cell (i := 1) (v := .int .u32 (t.b.toNat : Int)) rfl
        have f1 := hT.free 1
        have d2 := hT.cell (i := 2) (v := .int .u32 (t.c.toNat : Int)) rfl
        have f2 := hT.free 2
        have d3 := hT.cell (i := 3) (v := .int .u32 (t.d.toNat : Int)) rfl
        have f3 := hT.free 3
        have d4 := hT.cell (i := 4) (v := .int .u32 (t.e.toNat : Int)) rfl
        have f4 := hT.free 4
        have d5 := hT.cell (i := 5) (v := .int .u32 (t.f.toNat : Int)) rfl
        have f5 := hT.free 5
        have d6 := hT.cell (i := 6) (v := .int .u32 (t.g.toNat : Int)) rfl
        have f6 := hT.free 6
        have d7 := hT.cell (i := 7) (v := .int .u32 (t.h.toNat : Int)) rfl
        have f7 := hT.free 7
        have i0 : (0 : Int) ≤ (k : Int) := by omega
        have i1 : (k : Int) < 64 := by omega
        go_wp2
        go_quiet (fail)
        go_wp2
        go_quiet ((go_at_call 100; first | exact quiet_more (ror_int _ _ _ (by omega) (by omega)) | exact Calls.quiet_of (ror_int _ _ _ (by omega) (by omega))))
        go_wp2_with (go_at_call 100; refine (ror_int _ _ _ (by omega) (by omega)).mono ?_; rintro e wy ⟨rfl, q, rfl⟩)
        go_roundw
        case rel =>
          rw [cw_new, cw_mid]
          refine ⟨k + 1, by omega, by go_num, ?_, ?_, ?_, ?_, ⟨z, ?_, hz⟩, ?_⟩
          · rw [Hst.out]
            exact (((((((hT.set_ 0 (cw (tee t kk ww + uuu t))).set_ 1 (cw t.a)).set_ 2 (cw t.b)).set_ 3 (cw t.c)).set_ 4 (cw (t.d + tee t kk ww))).set_ 5 (cw t.e)).set_ 6 (cw t.f)).set_ 7 (cw t.g)
          · (repeat (refine Blk.far ?_ (by dsimp only; omega) _)); exact hK
          · (repeat (refine Blk.far ?_ (by dsimp only; omega) _)); exact hW
          · (repeat (refine Blk.far ?_ (by dsimp only; omega) _)); exact hS
          · (repeat (refine Blk.far ?_ (by dsimp only; omega) _)); exact hZ
          · (repeat (refine Below.setCell ?_ (by dsimp only; omega) _)); exact below_drewN hnx _
        case measure => simp [intOf]; omega
      · have hT64 : Blk wr wc.heap.size 97 (cws (mix (steps8 bs s 64) s 0)) := by
          have e : k = 64 := by omega
          rw [e] at hT
          rw [mix_0]; exact hT
        have hk2 : ¬ (k : Int) < 64 := by omega
        clear hk hT hK hW
        go_wp2
        go_loopw [17] (fun i wr => ∃ k : Nat, k ≤ 8 ∧ i = .int .i64 k ∧ Blk wr wc.heap.size 97 (cws (mix (steps8 bs s 64) s k)) ∧ Blk wr w.heap.size 97 (l8 s) ∧ (∃ z, Blk wr (w.heap.size + 1 + 1) 97 z ∧ z.length = 8) ∧ Below w.heap.size w wr) (fun i _ => 8 - (intOf i).toNat)
        case atStart => exact ⟨0, by omega, rfl, hT64, hS, ⟨z, hZ, hz⟩, hnx⟩
        case round =>
          clear hT64 hS hZ hz hnx
          obtain ⟨j, hj, rfl, hT, hS, ⟨z, hZ, hz⟩, hnx⟩ := hrel
          by_cases hlj : j < 8
          · have c1 := hT.cell (mix_at (t := steps8 bs s 64) (s := s) hlj)
            have c2 := hS.cell (l8_at s hlj)
            have f1 := hT.free j
            have hms := mix_set (steps8 bs s 64) s j hlj
            have Hms := Lib.hid hms
            clear hms
            have i0 : (0 : Int) ≤ (j : Int) := by omega
            have i1 : (j : Int) < 8 := by omega
            generalize (steps8 bs s 64).list.getD j 0 = x at *
            generalize s.list.getD j 0 = y at *
            have lx := w_lt x
            have ly := w_lt y
            go_wp2
            go_region
            go_wp2
            go_roundw
            case rel =>
              rw [w_add]
              refine ⟨j + 1, by omega, by go_num, ?_, hS.far (by dsimp only; omega) _, ⟨z, hZ.far (by dsimp only; omega) _, hz⟩, (hnx.setCell (by dsimp only; omega) _).drew⟩
              have := hT.set_ j (cw (x + y))
              rw [Hms.out] at this
              exact this
            case measure => simp [intOf]; omega
          · have hT8 : Blk wr wc.heap.size 97 (l8 (rnd s bs)) := by
              have e : j = 8 := by omega
              rw [e, mix_8] at hT
              exact hT
            have hj2 : ¬ (j : Int) < 8 := by omega
            have hi : (Tryz.prog.info? 97).map (·.size) = some (l8 (rnd s bs)).toArray.size := info8w
            have hth : wr.there (w.heap.size + 1 + 1) 0 (l8 (rnd s bs)).toArray.size := by
              have e := hZ.there
              rw [hz] at e
              exact e
            have hR' := hZ.setAll (vs := l8 (rnd s bs)) (by rw [hz]; rfl)
            have hnx' : Below w.heap.size w (wr.setCells (w.heap.size + 1 + 1) 0 (l8 (rnd s bs))) := Below.setCells (by omega) _ hnx
            have Hi := Lib.hid hi
            have Hth := Lib.hid hth
            have hone : (l8 (rnd s bs)).toArray.all (·.oneCell') = true := cws_one (rnd s bs).list
            have Hone := Lib.hid hone
            clear hj hlj hT hi hth hone
            generalize hr8 : l8 (rnd s bs) = r8 at *
            have Hr := Lib.hid hr8
            clear hr8
            go_wp2_with (first
              | refine wpList_load_row rfl 97 _ rfl wc.heap.size rfl 97 r8.toArray (0, 0) _ hT8 Tryz.underlying97 rfl Hi.out ?_
              | refine wpList_store_mid rfl 97 _ _ rfl (w.heap.size + 1 + 1) 0 r8.toArray rfl rfl Hth.out Hi.out Hone.out ?_)
            exact bodyPost_ret (results_cell_row rfl _ _ (w.heap.size + 1 + 1) 97 r8.toArray (0, 0) _ rfl hR' Tryz.underlying97 rfl Hi.out) rfl ⟨by show _ = Ending.returned (.agg (l8 (rnd s bs)).toArray); rw [Hr.out], hnx'⟩

end Go.Proofs.YtihmddpafbackaaGreat

namespace Go.Proofs.YtihmddpafbackaaGreat

open Go.RowKit

set_option linter.unusedVariables false

set_option maxRecDepth 100000 in
set_option maxHeartbeats 1600000 in
theorem padded_any (A : Option Addr) (c n : Nat) (l : List UInt8) (w : World) (hB : Bs w A l) (hn : l.length = n) (hl : n ≤ 140737488351232) :
    Calls Tryz.prog 83 #[.slice A n c] w (RetB w (pad l)) := by
  subst hn
  have Hc := Lib.hid (copyBytes A c l.length l w hB rfl (by omega))
  clear hB
  go_enter Tryz.func83, Tryz.ntmps83
  go_wp2_with fail
  refine Hc.out.mono ?_
  rintro e w1 ⟨v1, rfl, hN1⟩
  obtain ⟨A1, c1, rfl, hc1, hcm1, hB1⟩ := hN1.form
  have ha1 : Mine (w1.alloc (.cells #[.int .u8 128] 5)) w.heap.size 5 (.slice A1 l.length c1) l := World.ownsRow.alloc hN1.1 _
  have hz1 := hN1.2.size
  have Hb1 := Lib.hid hN1.2
  clear hN1 hB1
  go_wp2_with (at_builtin; go_loud (refine wp_appendB rfl _ _ rfl w.heap.size (.slice A1 l.length c1) l rfl ha1 (some ⟨w1.heap.size, 0, none⟩) 1 1 [128] rfl (Bs.made w1 _ _ _ _ rfl) rfl (by omega) (by simp; omega) ?_; intro v2 w2 hm2 hg2 ho2))
  have hb2 : Below w.heap.size w w2 := (Hb1.out.alloc hz1 _).grown hg2 (by simp; omega) (fun b hb => (World.ownsRow.lt ha1 b hb).1)
  have hN2 : NewB w (l ++ 128 :: List.replicate 0 0) v2 w2 := ⟨hm2, hb2⟩
  have HN2 := Lib.hid hN2
  clear ha1 hm2 hg2 ho2 hb2 hN2
  go_loopw [3] (fun v wr => ∃ j : Nat, j ≤ gap l.length ∧ NewB w (l ++ 128 :: List.replicate j 0) v wr) (fun v _ => 200000000000000 - (match v with | .slice _ k _ => k | _ => 0))
  case atStart => exact ⟨0, Nat.zero_le _, HN2.out⟩
  case round =>
    obtain ⟨j, hj, hN⟩ := hrel
    obtain ⟨L1, hL1⟩ : ∃ L1, l ++ 128 :: List.replicate j (0 : UInt8) = L1 := ⟨_, rfl⟩
    have hlen : L1.length = l.length + 1 + j := by rw [← hL1]; simp; omega
    have hnext : l ++ 128 :: List.replicate (j + 1) (0 : UInt8) = L1 ++ [0] := by rw [← hL1, List.replicate_succ']; simp
    rw [hL1] at hN
    obtain ⟨A3, c3, rfl, hc3, hcm3, hB3⟩ := hN.form
    have hgl : gap l.length ≤ 63 := by unfold gap; omega
    have hma : Mine (wr.alloc (.cells #[.int .u8 0] 5)) w.heap.size 5 (.slice A3 L1.length c3) L1 := World.ownsRow.alloc hN.1 _
    have hzr := hN.2.size
    have Hnext := Lib.hid hnext
    have Hgap := Lib.hid hL1
    clear hnext hL1 hB3
    obtain ⟨q, hq⟩ : ∃ q, L1.length = q := ⟨_, rfl⟩
    by_cases hlt : j < gap l.length
    · have hne : ((q : Int) % 64 != 56) = true := by unfold gap at hlt; simp; omega
      have Hb := Lib.hid hN.2
      have Hlen := Lib.hid hlen
      clear hN hlen
      rw [hq] at hma hc3 ⊢
      have hq6 : q ≤ 140737488351296 := by have := Hlen.out; omega
      go_wp2_with (at_builtin; refine wp_appendB rfl _ _ rfl w.heap.size (.slice A3 q c3) L1 rfl hma (some ⟨wr.heap.size, 0, none⟩) 1 1 [0] rfl (Bs.made wr _ _ _ _ rfl) rfl (by omega) (by simp; omega) ?_; intro v4 w4 hm4 hg4 ho4)
      have hb4 : Below w.heap.size w w4 := (Hb.out.alloc hzr _).grown hg4 (by simp; omega) (fun b hb => (World.ownsRow.lt hma b hb).1)
      obtain ⟨A4, c4, rfl, hl4, hc4, hB4⟩ := Mine.form hm4
      have hlen4 : (L1 ++ [0]).length = q + 1 := by rw [List.length_append, hq]; rfl
      have Hm4 := Lib.hid (And.intro hm4 hb4)
      clear hm4 hb4 hg4 ho4 hB4 hma
      go_roundw
      case rel => exact ⟨j + 1, by omega, by rw [Hnext.out]; exact Hm4.out⟩
      case measure => simp [hq]; omega
    · have hje : j = gap l.length := by omega
      have hne : ((q : Int) % 64 != 56) = false := by subst hje; unfold gap at hlen; simp; omega
      have hl6 : (l.length : Int) ≤ 140737488351232 := by omega
      have HN := Lib.hid hN
      clear hN hma
      rw [hq] at hc3 ⊢
      have hq6 : q ≤ 140737488351296 := by omega
      have Hlen := Lib.hid hlen
      clear hlen
      go_wp2
      go_loopw [3, 5] (fun v i ws => ∃ k : Nat, k ≤ 8 ∧ i = .int .i64 (7 - (k : Int)) ∧ NewB w (L1 ++ (be8 (8 * l.length)).take k) v ws) (fun _ i _ => (intOf i + 1).toNat)
      case atStart => exact ⟨0, by omega, rfl, by rw [List.take_zero, List.append_nil]; rw [← hq]; exact HN.out⟩
      case round =>
        obtain ⟨k, hk, rfl, hN⟩ := hrel
        obtain ⟨L2, hL2⟩ : ∃ L2, L1 ++ (be8 (8 * l.length)).take k = L2 := ⟨_, rfl⟩
        have hlen2 : L2.length = q + k := by rw [← hL2, List.length_append, List.length_take, be8_len, hq]; omega
        by_cases hk8 : k < 8
        · have hb8 : ∃ x : UInt8, (be8 (8 * l.length)).take (k + 1) = (be8 (8 * l.length)).take k ++ [x] ∧ x = UInt8.ofNat (8 * l.length / 256 ^ (7 - k) % 256) := by
            have hkl : k < (be8 (8 * l.length)).length := by rw [be8_len]; exact hk8
            refine ⟨_, List.take_succ_eq_append_getElem hkl, ?_⟩
            simp [be8]
          obtain ⟨x, hx1, hx2⟩ := hb8
          have hnext : L1 ++ (be8 (8 * l.length)).take (k + 1) = L2 ++ [x] := by rw [hx1, ← hL2, List.append_assoc]
          rw [hL2] at hN
          have hxv : 8 * (l.length : Int) / 2 ^ (8 * (7 - k)) % 256 = (x.toNat : Int) := by
            have e1 : x.toNat = 8 * l.length / 2 ^ (8 * (7 - k)) % 256 := by
              rw [hx2, UInt8.toNat_ofNat', Nat.pow_mul, show 2 ^ 8 = 256 from rfl]; omega
            rw [e1]
            simp
          obtain ⟨A4, c4, rfl, hc4, hcm4, hB4⟩ := hN.form
          have hma : ∀ o, Mine (wr.alloc o) w.heap.size 5 (.slice A4 L2.length c4) L2 := fun o => World.ownsRow.alloc hN.1 o
          have hzs := hN.2.size
          have Hnext := Lib.hid hnext
          have Hb := Lib.hid hN.2
          have Hx2 := Lib.hid hxv
          clear hnext hN hB4 hL2 hx1 hx2 hxv
          rw [hlen2] at hma hc4 ⊢
          have hk0 : (0 : Int) ≤ 7 - (k : Int) := by omega
          have hk7 : (7 : Int) - (k : Int) ≤ 7 := by omega
          have hk8' : (k : Int) ≤ 7 := by omega
          go_wp2_with (at_builtin; refine wp_appendB rfl _ _ rfl w.heap.size (.slice A4 (q + k) c4) L2 rfl (hma _) (some ⟨wr.heap.size, 0, none⟩) 1 1 [x] rfl (Bs.made wr _ _ _ _ (by rw [Hx2.out]; rfl)) rfl (by omega) (by simp; omega) ?_; intro v5 w5 hm5 hg5 ho5)
          have hb5 : Below w.heap.size w w5 := (Hb.out.alloc hzs _).grown hg5 (by simp; omega) (fun b hb => (World.ownsRow.lt (hma (.cells #[.int .u8 0] 5)) b hb).1)
          have Hm5 := Lib.hid (And.intro hm5 hb5)
          clear hm5 hb5 hg5 ho5 hma
          go_roundw
          case rel => exact ⟨k + 1, by omega, by go_num, by rw [Hnext.out]; exact Hm5.out⟩
          case measure => simp [intOf]; omega
        · have hke : k = 8 := by omega
          have hk7 : ¬ (0 : Int) ≤ 7 - (k : Int) := by omega
          have hk8' : ¬ (k : Int) ≤ 7 := by omega
          have hfin : L1 ++ (be8 (8 * l.length)).take k = pad l := by
            rw [hke, List.take_of_length_le (by rw [be8_len]; exact Nat.le_refl _), ← Hgap.out, hje]
            unfold pad; simp
          rw [hfin] at hN
          have HN2' := Lib.hid hN
          clear hN hfin hL2
          go_wp2
          go_ret
          exact ⟨_, rfl, HN2'.out⟩

end Go.Proofs.YtihmddpafbackaaGreat
