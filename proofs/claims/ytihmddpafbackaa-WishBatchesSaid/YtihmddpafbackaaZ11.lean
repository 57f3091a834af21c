/-
  Laid together for a hand-in: Al11, Cp11.
-/
import Derived.Test.YtihmddpafbackaaZ09
import Derived.Test.YtihmddpafbackaaZ10
import Derived.Deep.RegionWith
import Derived.Deep.DeepCutAuto

namespace Go.Proofs.Ytihmddpafbackaa

open Go.RowKit Go.Maps

set_option linter.unusedVariables false

set_option linter.unusedSimpArgs false

theorem arg_zero (w : World) : ArgW w W0 none 0 0 none 0 0 := ⟨⟨rfl, Nat.le_refl _, by simp [maxLen], Bs.nil _ _, by omega⟩, ⟨argI_nil w, by omega⟩, by decide, by decide, by decide, by decide, by decide, by decide, by decide, by decide⟩

def alikeB : List Wl → List Wl → Bool
  | [], [] => true
  | x :: l, y :: m => sameB x y && alikeB l m
  | _, _ => false

theorem alikeB_iff : ∀ (l m : List Wl), alikeB l m = true ↔ l = m
  | [], [] => by simp [alikeB]
  | [], y :: m => by simp [alikeB]
  | x :: l, [] => by simp [alikeB]
  | x :: l, y :: m => by
    rw [alikeB, Bool.and_eq_true, sameB_iff, eqW_iff, alikeB_iff l m, List.cons.injEq]

theorem alikeB_self (l : List Wl) : alikeB l l = true := (alikeB_iff l l).2 rfl

theorem alikeB_len {l m : List Wl} (h : l.length ≠ m.length) : alikeB l m = false := by
  rw [Bool.eq_false_iff]; intro e; rw [(alikeB_iff l m).1 e] at h; exact h rfl

theorem alikeB_drop : ∀ {l m : List Wl} {j : Nat} (hl : j < l.length) (hm : j < m.length), alikeB (l.drop j) (m.drop j) = (sameB l[j] m[j] && alikeB (l.drop (j + 1)) (m.drop (j + 1))) := by
  intro l m j hl hm
  rw [List.drop_eq_getElem_cons hl, List.drop_eq_getElem_cons hm, alikeB]

set_option maxRecDepth 100000 in
set_option maxHeartbeats 3200000 in
theorem alike_any (A A' : Option Addr) (n n' c c' : Nat) (l m : List Wl) (w : World) (h : ArgL w A n c l) (h' : ArgL w A' n' c' m) : Calls Try.prog 29 #[.slice A n c, .slice A' n' c'] w fun e w' => e = .returned (.bool (alikeB l m)) ∧ Below w.heap.size w w' := by
  obtain ⟨r, hr⟩ : ∃ r, alikeB l m = r := ⟨_, rfl⟩
  rw [hr]
  have Hr := Lib.hid hr
  clear hr
  have hn := h.1
  have hn' := h'.1
  have hcm := h.2.2.1
  have hcm' := h'.2.2.1
  have hnc := h.2.1
  have hnc' := h'.2.1
  unfold maxLen at hcm hcm'
  by_cases hnn : n = n'
  · subst hnn
    have H := Lib.hid (And.intro h (And.intro h' (And.intro hn hn')))
    clear h h' hn hn'
    go_enter Try.func29, Try.ntmps29
    go_wp2
    go_loopw [5] (fun v wr => ∃ j : Nat, j ≤ n ∧ v = .int .i64 j ∧ Hid (r = alikeB (l.drop j) (m.drop j) ∧ Below w.heap.size w wr)) (fun v _ => n - (intOf v).toNat)
    case atStart => exact ⟨0, Nat.zero_le _, rfl, Hr.out.symm, Below.refl _ _⟩
    case round =>
      obtain ⟨j, hj, rfl, hI⟩ := hrel
      by_cases hlt : j < n
      · have hlt' : (j : Int) < n := by omega
        have h0 : (0 : Int) ≤ j := by omega
        have hjl : j < l.length := by rw [H.out.2.2.1]; exact hlt
        have hjm : j < m.length := by rw [H.out.2.2.2]; exact hlt
        obtain ⟨b, off, D, nd, cd, N, nn, cn, hA, hb, hrg, hAW⟩ := (H.out.1.after hI.out.2).at_ hjl
        obtain ⟨b', off', D', nd', cd', N', nn', cn', hA', hb', hrg', hAW'⟩ := (H.out.2.1.after hI.out.2).at_ hjm
        have Hst : Hid (r = (sameB l[j] m[j] && alikeB (l.drop (j + 1)) (m.drop (j + 1)))) := by show _ = _; rw [hI.out.1]; exact alikeB_drop hjl hjm
        generalize l[j] = x at *
        generalize m[j] = y at *
        subst hA hA'
        have Hx := Lib.hid (And.intro hAW (And.intro hAW' (And.intro hI.out.2 (And.intro hrg hrg'))))
        clear hAW hAW' hI hjl hjm
        obtain ⟨s, hs⟩ : ∃ s, sameB x y = s := ⟨_, rfl⟩
        have Hs := Lib.hid hs
        rw [hs] at Hst
        clear hs
        have hdr : Below wr.heap.size wr wr.drew := (Below.refl _ _).drew
        have Q0 : wr.drew.rangeAt b (off + j * 10) (whc ⟨x, D, nd, cd, N, nn, cn⟩) ∧ wr.drew.rangeAt b' (off' + j * 10) (whc ⟨y, D', nd', cd', N', nn', cn'⟩) := ⟨range_on hrg hdr hb, range_on hrg' hdr hb'⟩
        clear hrg hrg'
        go_wp2_with fail
        refine wp_region_held_drew (S := fun W' => W'.rangeAt b (off + j * 10) (whc ⟨x, D, nd, cd, N, nn, cn⟩) ∧ W'.rangeAt b' (off' + j * 10) (whc ⟨y, D', nd', cd', N', nn', cn'⟩)) (by kernel_rfl) Q0 (fun _ => ?_)
        refine anyH_take (i := 0) (d := 17) (v := ?v0) rfl rfl (by kernel_rfl) (by kernel_rfl) (by kernel_rfl) (fun _ _ _ h => h) (Or.inl ⟨by rfl, ?vy0⟩) Q0 ?vr0
        case vy0 => (intro w; go_simp; try with_reducible rfl)
        simp only [List.setIfInBounds_toArray, List.set_cons_zero, List.set_cons_succ]
        refine anyH_take (i := 1) (d := 18) (v := ?v1) rfl rfl (by kernel_rfl) (by kernel_rfl) (by kernel_rfl) (fun _ _ _ h => h) (Or.inl ⟨by rfl, ?vy1⟩) Q0 ?vr1
        case vy1 => (intro w; go_simp; try with_reducible rfl)
        simp only [List.setIfInBounds_toArray, List.set_cons_zero, List.set_cons_succ]
        refine anyH_take (i := 2) (d := 19) (v := ?v2) rfl rfl (by kernel_rfl) (by kernel_rfl) (by kernel_rfl) (fun _ _ _ h => h) (Or.inl ⟨by rfl, ?vy2⟩) Q0 ?vr2
        case vy2 => (intro w; go_simp; try with_reducible rfl)
        simp only [List.setIfInBounds_toArray, List.set_cons_zero, List.set_cons_succ]
        refine anyH_load (i := 3) (d := 20) rfl rfl (by kernel_rfl) (by kernel_rfl) (by kernel_rfl) (by rfl) 25 _ rfl b (off + j * 10) rfl (whc ⟨x, D, nd, cd, N, nn, cn⟩) _ (fun _ h => h.1) Try.underlying25 rfl wish_size (fun _ _ _ h => h) Q0 ?_
        simp only [List.setIfInBounds_toArray, List.set_cons_zero, List.set_cons_succ]
        refine anyH_take (i := 4) (d := 21) (v := ?v4) rfl rfl (by kernel_rfl) (by kernel_rfl) (by kernel_rfl) (fun _ _ _ h => h) (Or.inl ⟨by rfl, ?vy4⟩) Q0 ?vr4
        case vy4 => (intro w; go_simp; try with_reducible rfl)
        simp only [List.setIfInBounds_toArray, List.set_cons_zero, List.set_cons_succ]
        refine anyH_take (i := 5) (d := 22) (v := ?v5) rfl rfl (by kernel_rfl) (by kernel_rfl) (by kernel_rfl) (fun _ _ _ h => h) (Or.inl ⟨by rfl, ?vy5⟩) Q0 ?vr5
        case vy5 => (intro w; go_simp; try with_reducible rfl)
        simp only [List.setIfInBounds_toArray, List.set_cons_zero, List.set_cons_succ]
        refine anyH_take (i := 6) (d := 23) (v := ?v6) rfl rfl (by kernel_rfl) (by kernel_rfl) (by kernel_rfl) (fun _ _ _ h => h) (Or.inl ⟨by rfl, ?vy6⟩) Q0 ?vr6
        case vy6 => (intro w; go_simp; try with_reducible rfl)
        simp only [List.setIfInBounds_toArray, List.set_cons_zero, List.set_cons_succ]
        refine anyH_load (i := 7) (d := 24) rfl rfl (by kernel_rfl) (by kernel_rfl) (by kernel_rfl) (by rfl) 25 _ rfl b' (off' + j * 10) rfl (whc ⟨y, D', nd', cd', N', nn', cn'⟩) _ (fun _ h => h.2) Try.underlying25 rfl wish_size (fun _ _ _ h => h) Q0 ?_
        simp only [List.setIfInBounds_toArray, List.set_cons_zero, List.set_cons_succ]
        refine anyH_one (i := 8) (by kernel_rfl) ?_
        refine wpOp_step rfl (fun K hK => ?_)
        go_simp
        refine (rsame_any x D nd cd N nn cn y D' nd' cd' N' nn' cn' _ (Hx.out.1.after hdr) (Hx.out.2.1.after hdr)).mono ?_
        rintro e w3 ⟨rfl, hb3⟩
        rw [Hs.out]
        have Hb3 := Lib.hid hb3
        have Q1 : w3.rangeAt b (off + j * 10) (whc ⟨x, D, nd, cd, N, nn, cn⟩) ∧ w3.rangeAt b' (off' + j * 10) (whc ⟨y, D', nd', cd', N', nn', cn'⟩) := ⟨range_on Q0.1 hb3 hb, range_on Q0.2 hb3 hb'⟩
        clear hb3
        refine hK _ _ ⟨Q1, ?_⟩
        clear hK K
        refine anyH_take (i := 9) (d := 26) (v := ?v9) rfl rfl (by kernel_rfl) (by kernel_rfl) (by kernel_rfl) (fun _ _ _ h => h) (Or.inl ⟨by rfl, ?vy9⟩) Q1 ?vr9
        case vy9 => (intro w; go_simp; try with_reducible rfl)
        simp only [List.setIfInBounds_toArray, List.set_cons_zero, List.set_cons_succ]
        refine wpAnyH_done (by kernel_rfl) ?_ _
        cases s with
        | true =>
          go_wp2
          go_roundw
          case rel => exact ⟨j + 1, by omega, by go_num, by rw [Hst.out, Bool.true_and], (Hx.out.2.2.1.trans (hdr.mono Hx.out.2.2.1.size)).trans (Hb3.out.mono (Nat.le_trans Hx.out.2.2.1.size hdr.size))⟩
          case measure => simp [intOf]; omega
        | false =>
          go_wp2
          go_ret
          exact ⟨ret_bool (by rw [Hst.out, Bool.false_and]), (Hx.out.2.2.1.trans (hdr.mono Hx.out.2.2.1.size)).trans (Hb3.out.mono (Nat.le_trans Hx.out.2.2.1.size hdr.size))⟩
      · have hlt' : ¬ (j : Int) < n := by omega
        have Hz : Hid (r = true) := by show _ = _; rw [hI.out.1, List.drop_of_length_le (by rw [H.out.2.2.1]; omega), List.drop_of_length_le (by rw [H.out.2.2.2]; omega)]; rfl
        go_wp2
        go_ret
        exact ⟨ret_bool Hz.out.symm, hI.out.2⟩
  · have hne : ((n : Int) != (n' : Int)) = true := by simp; omega
    have Hz : Hid (r = false) := by show _ = _; rw [← Hr.out]; exact alikeB_len (by omega)
    clear h h' hn hn'
    go_enter Try.func29, Try.ntmps29
    go_wp2
    go_ret
    exact ⟨ret_bool Hz.out.symm, Below.refl _ _⟩

end Go.Proofs.Ytihmddpafbackaa

namespace Go.Proofs.Ytihmddpafbackaa

open Go.RowKit Go.Maps

set_option linter.unusedVariables false

set_option linter.unusedSimpArgs false

def zCells : List Value := [.int .i64 0, .int .i64 0, .int .i64 0, .int .i64 0, .int .i64 0, .int .i64 0, .slice none 0 0, .int .i64 0, .int .i64 0, .slice none 0 0]

set_option maxRecDepth 100000 in
set_option maxHeartbeats 1600000 in
theorem rcopy_any (x : Wl) (Dx : Option Addr) (ndx cdx : Nat) (Nx : Option Addr) (nnx cnx : Nat) (w : World) (h : ArgW w x Dx ndx cdx Nx nnx cnx) : Calls Try.prog 13 #[.agg #[.int .i64 x.cl, .int .i64 x.sp, .int .i64 x.gr, .int .i64 x.ep, .int .i64 x.kd, .int .i64 x.bl, .slice Dx ndx cdx, .int .i64 x.od, .int .i64 x.nw, .slice Nx nnx cnx]] w fun e w' => ∃ v, e = .returned v ∧ WV w' w.heap.size x v ∧ Below w.heap.size w w' := by
  have hb0 : Below w.heap.size w (((w.alloc (.cells #[.int .i64 x.cl, .int .i64 x.sp, .int .i64 x.gr, .int .i64 x.ep, .int .i64 x.kd, .int .i64 x.bl, .slice Dx ndx cdx, .int .i64 x.od, .int .i64 x.nw, .slice Nx nnx cnx] 25)).alloc (.cells #[.int .i64 0, .int .i64 0, .int .i64 0, .int .i64 0, .int .i64 0, .int .i64 0, .slice none 0 0, .int .i64 0, .int .i64 0, .slice none 0 0] 25)).alloc (.cells #[.int .i64 x.cl, .int .i64 x.sp, .int .i64 x.gr, .int .i64 x.ep, .int .i64 x.kd, .int .i64 x.bl, .slice Dx ndx cdx, .int .i64 x.od, .int .i64 x.nw, .slice Nx nnx cnx] 25)) := (((Below.refl _ _).alloc (Nat.le_refl _) _).alloc (by simp) _).alloc (by simp; omega) _
  have hB1 : Blk (((w.alloc (.cells #[.int .i64 x.cl, .int .i64 x.sp, .int .i64 x.gr, .int .i64 x.ep, .int .i64 x.kd, .int .i64 x.bl, .slice Dx ndx cdx, .int .i64 x.od, .int .i64 x.nw, .slice Nx nnx cnx] 25)).alloc (.cells #[.int .i64 0, .int .i64 0, .int .i64 0, .int .i64 0, .int .i64 0, .int .i64 0, .slice none 0 0, .int .i64 0, .int .i64 0, .slice none 0 0] 25)).alloc (.cells #[.int .i64 x.cl, .int .i64 x.sp, .int .i64 x.gr, .int .i64 x.ep, .int .i64 x.kd, .int .i64 x.bl, .slice Dx ndx cdx, .int .i64 x.od, .int .i64 x.nw, .slice Nx nnx cnx] 25)) w.heap.size 25 [.int .i64 x.cl, .int .i64 x.sp, .int .i64 x.gr, .int .i64 x.ep, .int .i64 x.kd, .int .i64 x.bl, .slice Dx ndx cdx, .int .i64 x.od, .int .i64 x.nw, .slice Nx nnx cnx] := ((Blk.new (l := [.int .i64 x.cl, .int .i64 x.sp, .int .i64 x.gr, .int .i64 x.ep, .int .i64 x.kd, .int .i64 x.bl, .slice Dx ndx cdx, .int .i64 x.od, .int .i64 x.nw, .slice Nx nnx cnx]) rfl rfl).old _).old _
  have hB2 : Blk (((w.alloc (.cells #[.int .i64 x.cl, .int .i64 x.sp, .int .i64 x.gr, .int .i64 x.ep, .int .i64 x.kd, .int .i64 x.bl, .slice Dx ndx cdx, .int .i64 x.od, .int .i64 x.nw, .slice Nx nnx cnx] 25)).alloc (.cells #[.int .i64 0, .int .i64 0, .int .i64 0, .int .i64 0, .int .i64 0, .int .i64 0, .slice none 0 0, .int .i64 0, .int .i64 0, .slice none 0 0] 25)).alloc (.cells #[.int .i64 x.cl, .int .i64 x.sp, .int .i64 x.gr, .int .i64 x.ep, .int .i64 x.kd, .int .i64 x.bl, .slice Dx ndx cdx, .int .i64 x.od, .int .i64 x.nw, .slice Nx nnx cnx] 25)) (w.heap.size + 1) 25 zCells := (Blk.new (l := zCells) rfl (by simp)).old _
  have hB3 : Blk (((w.alloc (.cells #[.int .i64 x.cl, .int .i64 x.sp, .int .i64 x.gr, .int .i64 x.ep, .int .i64 x.kd, .int .i64 x.bl, .slice Dx ndx cdx, .int .i64 x.od, .int .i64 x.nw, .slice Nx nnx cnx] 25)).alloc (.cells #[.int .i64 0, .int .i64 0, .int .i64 0, .int .i64 0, .int .i64 0, .int .i64 0, .slice none 0 0, .int .i64 0, .int .i64 0, .slice none 0 0] 25)).alloc (.cells #[.int .i64 x.cl, .int .i64 x.sp, .int .i64 x.gr, .int .i64 x.ep, .int .i64 x.kd, .int .i64 x.bl, .slice Dx ndx cdx, .int .i64 x.od, .int .i64 x.nw, .slice Nx nnx cnx] 25)) (w.heap.size + 1 + 1) 25 [.int .i64 x.cl, .int .i64 x.sp, .int .i64 x.gr, .int .i64 x.ep, .int .i64 x.kd, .int .i64 x.bl, .slice Dx ndx cdx, .int .i64 x.od, .int .i64 x.nw, .slice Nx nnx cnx] := Blk.new rfl (by simp)
  obtain ⟨W1, hW1⟩ : ∃ W, (((w.alloc (.cells #[.int .i64 x.cl, .int .i64 x.sp, .int .i64 x.gr, .int .i64 x.ep, .int .i64 x.kd, .int .i64 x.bl, .slice Dx ndx cdx, .int .i64 x.od, .int .i64 x.nw, .slice Nx nnx cnx] 25)).alloc (.cells #[.int .i64 0, .int .i64 0, .int .i64 0, .int .i64 0, .int .i64 0, .int .i64 0, .slice none 0 0, .int .i64 0, .int .i64 0, .slice none 0 0] 25)).alloc (.cells #[.int .i64 x.cl, .int .i64 x.sp, .int .i64 x.gr, .int .i64 x.ep, .int .i64 x.kd, .int .i64 x.bl, .slice Dx ndx cdx, .int .i64 x.od, .int .i64 x.nw, .slice Nx nnx cnx] 25)) = W := ⟨_, rfl⟩
  rw [hW1] at hb0 hB1 hB2 hB3
  have H := Lib.hid (And.intro h (And.intro (h.after hb0) (And.intro hb0 (And.intro hB1 (And.intro hB2 hB3)))))
  have HW := Lib.hid hW1
  clear h hb0 hB1 hB2 hB3 hW1
  go_enter Try.func13, Try.ntmps13
  go_wp2_with fail
  rw [HW.out]
  refine (copyBytes Dx cdx ndx x.da W1 H.out.2.1.1.2.2.2.1 H.out.2.1.1.1 (by have := H.out.2.1.1.2.2.2.2; omega)).mono ?_
  rintro e w2 ⟨v, rfl, hM, hb2⟩
  obtain ⟨A2, c2, rfl, _, _, _⟩ := Mine.form hM
  rw [H.out.2.1.1.1] at hM ⊢
  have z1 := H.out.2.2.2.2.2.lt
  have B1 := H.out.2.2.2.1.below hb2 (by omega)
  have B2 := H.out.2.2.2.2.1.below hb2 (by omega)
  have B3 := H.out.2.2.2.2.2.below hb2 (by omega)
  have hst : Out (fun i => i = w.heap.size + 1 + 1) w2 (w2.setCell ⟨w.heap.size + 1 + 1, 6, none⟩ (.slice A2 ndx c2)) := (Out.refl (fun i => i = w.heap.size + 1 + 1) w2).setCell (p := ⟨w.heap.size + 1 + 1, 6, none⟩) (fun _ => rfl) _
  have k6 : w2.cell? ⟨w.heap.size + 1 + 1, 6, none⟩ = some (.slice Dx ndx cdx) := B3.cell rfl
  have f6 := B3.free 6
  have C1 := hst.blk B1 (by omega)
  have C2 := hst.blk B2 (by omega)
  have C3 := B3.set_ 6 (.slice A2 ndx c2)
  have CM : Mine (w2.setCell ⟨w.heap.size + 1 + 1, 6, none⟩ (.slice A2 ndx c2)) W1.heap.size 5 (.slice A2 ndx c2) x.da := own_out hM hst (fun i hi e => by have := (World.ownsRow.lt hM i hi).1; omega)
  have CO : Below w.heap.size w (w2.setCell ⟨w.heap.size + 1 + 1, 6, none⟩ (.slice A2 ndx c2)) := (H.out.2.2.1.trans (hb2.mono H.out.2.2.1.size)).trans (hst.above (B := w.heap.size) (fun i e => by omega) (by have := hb2.size; omega))
  have szc : W1.heap.size ≤ (w2.setCell ⟨w.heap.size + 1 + 1, 6, none⟩ (.slice A2 ndx c2)).heap.size := by have := hb2.size; simpa [World.setCell] using this
  obtain ⟨W3, hW3⟩ : ∃ W, w2.setCell ⟨w.heap.size + 1 + 1, 6, none⟩ (.slice A2 ndx c2) = W := ⟨_, rfl⟩
  rw [hW3] at C1 C2 C3 CM CO szc
  have n9 : W3.cell? ⟨w.heap.size, 9, none⟩ = some (.slice Nx nnx cnx) := C1.cell rfl
  have H3 := Lib.hid (And.intro C1 (And.intro C2 (And.intro C3 (And.intro CM (And.intro CO (And.intro (H.out.1.after CO) (And.intro z1 szc)))))))
  have HW3 := Lib.hid hW3
  clear hM hb2 B1 B2 B3 hst C1 C2 C3 CM CO z1 szc hW3
  go_upto_region 3 with fail
  rw [HW3.out]
  clear k6 f6
  go_upto_region 4 with fail
  refine (copyInts_any Nx nnx cnx x.nx W3 H3.out.2.2.2.2.2.1.2.1.1 H3.out.2.2.2.2.2.1.2.1.2).mono ?_
  rintro e w4 ⟨v, rfl, hN, hb4⟩
  obtain ⟨A4, c4, rfl, _⟩ := OwnI.form hN
  have hnn : x.nx.length = nnx := H3.out.2.2.2.2.2.1.2.1.1.1
  rw [hnn] at hN ⊢
  have B1 := H3.out.1.below hb4 H3.out.1.lt
  have B2 := H3.out.2.1.below hb4 H3.out.2.1.lt
  have B3 := H3.out.2.2.1.below hb4 H3.out.2.2.1.lt
  have z1 := H3.out.2.2.2.2.2.2.1
  have z3 := H3.out.2.2.2.2.2.2.2
  have z4 := hb4.size
  have hst : Out (fun i => i = w.heap.size + 1 + 1) w4 (w4.setCell ⟨w.heap.size + 1 + 1, 9, none⟩ (.slice A4 nnx c4)) := (Out.refl (fun i => i = w.heap.size + 1 + 1) w4).setCell (p := ⟨w.heap.size + 1 + 1, 9, none⟩) (fun _ => rfl) _
  have k9 : w4.cell? ⟨w.heap.size + 1 + 1, 9, none⟩ = some (.slice Nx nnx cnx) := B3.cell rfl
  have f9 := B3.free 9
  have C2 := hst.blk B2 (by omega)
  have C3 := B3.set_ 9 (.slice A4 nnx c4)
  have CM : Mine (w4.setCell ⟨w.heap.size + 1 + 1, 9, none⟩ (.slice A4 nnx c4)) W1.heap.size 5 (.slice A2 ndx c2) x.da := own_out (own_below H3.out.2.2.2.1 hb4) hst (fun i hi e => by have := (World.ownsRow.lt H3.out.2.2.2.1 i hi).1; omega)
  have CN : OwnI (w4.setCell ⟨w.heap.size + 1 + 1, 9, none⟩ (.slice A4 nnx c4)) W3.heap.size (.slice A4 nnx c4) x.nx := own_out (show OwnI w4 W3.heap.size (.slice A4 nnx c4) x.nx by unfold OwnI; rw [hnn]; exact hN) hst (fun i hi e => by have := (World.ownsRow.lt hN i hi).1; omega)
  have CO : Below w.heap.size w (w4.setCell ⟨w.heap.size + 1 + 1, 9, none⟩ (.slice A4 nnx c4)) := (H3.out.2.2.2.2.1.trans (hb4.mono H3.out.2.2.2.2.1.size)).trans (hst.above (B := w.heap.size) (fun i e => by omega) (by omega))
  obtain ⟨W5, hW5⟩ : ∃ W, w4.setCell ⟨w.heap.size + 1 + 1, 9, none⟩ (.slice A4 nnx c4) = W := ⟨_, rfl⟩
  rw [hW5] at C2 C3 CM CN CO
  have C3' : Blk W5 (w.heap.size + 1 + 1) 25 [.int .i64 x.cl, .int .i64 x.sp, .int .i64 x.gr, .int .i64 x.ep, .int .i64 x.kd, .int .i64 x.bl, .slice A2 ndx c2, .int .i64 x.od, .int .i64 x.nw, .slice A4 nnx c4] := C3
  obtain ⟨t1, t2, t3⟩ := store_facts (vs := [.int .i64 x.cl, .int .i64 x.sp, .int .i64 x.gr, .int .i64 x.ep, .int .i64 x.kd, .int .i64 x.bl, .slice A2 ndx c2, .int .i64 x.od, .int .i64 x.nw, .slice A4 nnx c4]) C2 rfl rfl
  obtain ⟨wF, hwF0⟩ : ∃ W, W5.setCells (w.heap.size + 1) 0 [.int .i64 x.cl, .int .i64 x.sp, .int .i64 x.gr, .int .i64 x.ep, .int .i64 x.kd, .int .i64 x.bl, .slice A2 ndx c2, .int .i64 x.od, .int .i64 x.nw, .slice A4 nnx c4] = W := ⟨_, rfl⟩
  have hwF : W5.setCells (w.heap.size + 1) 0 ([.int .i64 x.cl, .int .i64 x.sp, .int .i64 x.gr, .int .i64 x.ep, .int .i64 x.kd, .int .i64 x.bl, .slice A2 ndx c2, .int .i64 x.od, .int .i64 x.nw, .slice A4 nnx c4] : List Value).toArray.toList = wF := hwF0
  have hone : ([.int .i64 x.cl, .int .i64 x.sp, .int .i64 x.gr, .int .i64 x.ep, .int .i64 x.kd, .int .i64 x.bl, .slice A2 ndx c2, .int .i64 x.od, .int .i64 x.nw, .slice A4 nnx c4] : List Value).toArray.all (·.oneCell') = true := by simp [Value.oneCell']
  rw [hwF0] at t2 t3
  have hMF : Mine wF w.heap.size 5 (.slice A2 ndx c2) x.da := Mine.base (own_out CM t3 (fun i hi e => by have := (World.ownsRow.lt CM i hi).1; omega)) (by omega)
  have hNF : OwnI wF w.heap.size (.slice A4 nnx c4) x.nx := own_base (own_out CN t3 (fun i hi e => by have := (World.ownsRow.lt CN i hi).1; omega)) (by omega)
  have hOF : Below w.heap.size w wF := CO.trans (t3.above (B := w.heap.size) (fun i e => by omega) CO.size)
  have k0' : W5.cell? ⟨w.heap.size + 1 + 1, 0, none⟩ = some (.int .i64 x.cl) := C3'.cell rfl
  have k1' : W5.cell? ⟨w.heap.size + 1 + 1, 1, none⟩ = some (.int .i64 x.sp) := C3'.cell rfl
  have k2' : W5.cell? ⟨w.heap.size + 1 + 1, 2, none⟩ = some (.int .i64 x.gr) := C3'.cell rfl
  have k3' : W5.cell? ⟨w.heap.size + 1 + 1, 3, none⟩ = some (.int .i64 x.ep) := C3'.cell rfl
  have k4' : W5.cell? ⟨w.heap.size + 1 + 1, 4, none⟩ = some (.int .i64 x.kd) := C3'.cell rfl
  have k5' : W5.cell? ⟨w.heap.size + 1 + 1, 5, none⟩ = some (.int .i64 x.bl) := C3'.cell rfl
  have k6' : W5.cell? ⟨w.heap.size + 1 + 1, 6, none⟩ = some (.slice A2 ndx c2) := C3'.cell rfl
  have k7' : W5.cell? ⟨w.heap.size + 1 + 1, 7, none⟩ = some (.int .i64 x.od) := C3'.cell rfl
  have k8' : W5.cell? ⟨w.heap.size + 1 + 1, 8, none⟩ = some (.int .i64 x.nw) := C3'.cell rfl
  have k9' : W5.cell? ⟨w.heap.size + 1 + 1, 9, none⟩ = some (.slice A4 nnx c4) := C3'.cell rfl
  have HS := Lib.hid (And.intro t1 (And.intro t2 (And.intro hone (And.intro hwF (And.intro hMF (And.intro hNF (And.intro hOF (And.intro H.out.2.1.1.1 hnn))))))))
  have HW5 := Lib.hid hW5
  clear hN hb4 B1 B2 B3 z1 z3 z4 hst C2 C3 CM CN CO hW5 C3' t1 t2 t3 hwF hwF0 hone hMF hNF hOF hnn
  go_upto_region 4 with fail
  rw [HW5.out]
  go_wp2_with (refine wpList_store_mid rfl 25 _ _ rfl (w.heap.size + 1) 0 ([.int .i64 x.cl, .int .i64 x.sp, .int .i64 x.gr, .int .i64 x.ep, .int .i64 x.kd, .int .i64 x.bl, .slice A2 ndx c2, .int .i64 x.od, .int .i64 x.nw, .slice A4 nnx c4] : List Value).toArray rfl rfl HS.out.1 wish_size HS.out.2.2.1 ?_; simp only [Act.put]; refine cast (congrArg (fun z => wpList _ _ _ _ _ z) HS.out.2.2.2.1.symm) ?_)
  refine bodyPost_ret (results_row rfl _ _ (w.heap.size + 1) 25 _ _ rfl HS.out.2.1 Try.underlying25 rfl wish_size) rfl ?_
  exact ⟨_, rfl, ⟨A2, ndx, c2, A4, nnx, c4, rfl, ⟨HS.out.2.2.2.2.1, HS.out.2.2.2.2.2.2.2.1⟩, HS.out.2.2.2.2.2.1, HS.out.2.2.2.2.2.2.2.2⟩, HS.out.2.2.2.2.2.2.1⟩

end Go.Proofs.Ytihmddpafbackaa
