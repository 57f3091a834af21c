/-
  Laid together for a hand-in: Cp11, Rc11, Rx11.
-/
import Derived.Test.YtihmddpafbackaaGreatZ16
import Derived.Deep.DeepCutAuto
import Derived.Deep.QuietTactic
import Derived.BigQuiet

namespace Go.Proofs.YtihmddpafbackaaGreat

open Go.RowKit Go.Maps

set_option linter.unusedVariables false

set_option linter.unusedSimpArgs false

def zCells : List Value := [.int .i64 0, .int .i64 0, .int .i64 0, .int .i64 0, .int .i64 0, .int .i64 0, .slice none 0 0, .int .i64 0, .int .i64 0, .slice none 0 0]

set_option maxRecDepth 100000 in
set_option maxHeartbeats 1600000 in
theorem rcopy_any (x : Wl) (Dx : Option Addr) (ndx cdx : Nat) (Nx : Option Addr) (nnx cnx : Nat) (w : World) (h : ArgW w x Dx ndx cdx Nx nnx cnx) : Calls Tryz.prog 24 #[.agg #[.int .i64 x.cl, .int .i64 x.sp, .int .i64 x.gr, .int .i64 x.ep, .int .i64 x.kd, .int .i64 x.bl, .slice Dx ndx cdx, .int .i64 x.od, .int .i64 x.nw, .slice Nx nnx cnx]] w fun e w' => ∃ v, e = .returned v ∧ WV w' w.heap.size x v ∧ Below w.heap.size w w' := by
  have hb0 : Below w.heap.size w (((w.alloc (.cells #[.int .i64 x.cl, .int .i64 x.sp, .int .i64 x.gr, .int .i64 x.ep, .int .i64 x.kd, .int .i64 x.bl, .slice Dx ndx cdx, .int .i64 x.od, .int .i64 x.nw, .slice Nx nnx cnx] 25)).alloc (.cells #[.int .i64 0, .int .i64 0, .int .i64 0, .int .i64 0, .int .i64 0, .int .i64 0, .slice none 0 0, .int .i64 0, .int .i64 0, .slice none 0 0] 25)).alloc (.cells #[.int .i64 x.cl, .int .i64 x.sp, .int .i64 x.gr, .int .i64 x.ep, .int .i64 x.kd, .int .i64 x.bl, .slice Dx ndx cdx, .int .i64 x.od, .int .i64 x.nw, .slice Nx nnx cnx] 25)) := (((Below.refl _ _).alloc (Nat.le_refl _) _).alloc (by simp) _).alloc (by simp; omega) _
  have hB1 : Blk (((w.alloc (.cells #[.int .i64 x.cl, .int .i64 x.sp, .int .i64 x.gr, .int .i64 x.ep, .int .i64 x.kd, .int .i64 x.bl, .slice Dx ndx cdx, .int .i64 x.od, .int .i64 x.nw, .slice Nx nnx cnx] 25)).alloc (.cells #[.int .i64 0, .int .i64 0, .int .i64 0, .int .i64 0, .int .i64 0, .int .i64 0, .slice none 0 0, .int .i64 0, .int .i64 0, .slice none 0 0] 25)).alloc (.cells #[.int .i64 x.cl, .int .i64 x.sp, .int .i64 x.gr, .int .i64 x.ep, .int .i64 x.kd, .int .i64 x.bl, .slice Dx ndx cdx, .int .i64 x.od, .int .i64 x.nw, .slice Nx nnx cnx] 25)) w.heap.size 25 [.int .i64 x.cl, .int .i64 x.sp, .int .i64 x.gr, .int .i64 x.ep, .int .i64 x.kd, .int .i64 x.bl, .slice Dx ndx cdx, .int .i64 x.od, .int .i64 x.nw, .slice Nx nnx cnx] := ((Blk.new (l := [.int .i64 x.cl, .int .i64 x.sp, .int .i64 x.gr, .int .i64 x.ep, .int .i64 x.kd, .int .i64 x.bl, .slice Dx ndx cdx, .int .i64 x.od, .int .i64 x.nw, .slice Nx nnx cnx]) rfl rfl).old _).old _
  have hB2 : Blk (((w.alloc (.cells #[.int .i64 x.cl, .int .i64 x.sp, .int .i64 x.gr, .int .i64 x.ep, .int .i64 x.kd, .int .i64 x.bl, .slice Dx ndx cdx, .int .i64 x.od, .int .i64 x.nw, .slice Nx nnx cnx] 25)).alloc (.cells #[.int .i64 0, .int .i64 0, .int .i64 0, .int .i64 0, .int .i64 0, .int .i64 0, .slice none 0 0, .int .i64 0, .int .i64 0, .slice none 0 0] 25)).alloc (.cells #[.int .i64 x.cl, .int .i64 x.sp, .int .i64 x.gr, .int .i64 x.ep, .int .i64 x.kd, .int .i64 x.bl, .slice Dx ndx cdx, .int .i64 x.od, .int .i64 x.nw, .slice Nx nnx cnx] 25)) (w.heap.size + 1) 25 zCells := (Blk.new (l := zCells) rfl (by simp)).old _
  have hB3 : Blk (((w.alloc (.cells #[.int .i64 x.cl, .int .i64 x.sp, .int .i64 x.gr, .int .i64 x.ep, .int .i64 x.kd, .int .i64 x.bl, .slice Dx ndx cdx, .int .i64 x.od, .int .i64 x.nw, .slice Nx nnx cnx] 25)).alloc (.cells #[.int .i64 0, .int .i64 0, .int .i64 0, .int .i64 0, .int .i64 0, .int .i64 0, .slice none 0 0, .int .i64 0, .int .i64 0, .slice none 0 0] 25)).alloc (.cells #[.int .i64 x.cl, .int .i64 x.sp, .int .i64 x.gr, .int .i64 x.ep, .int .i64 x.kd, .int .i64 x.bl, .slice Dx ndx cdx, .int .i64 x.od, .int .i64 x.nw, .slice Nx nnx cnx] 25)) (w.heap.size + 1 + 1) 25 [.int .i64 x.cl, .int .i64 x.sp, .int .i64 x.gr, .int .i64 x.ep, .int .i64 x.kd, .int .i64 x.bl, .slice Dx ndx cdx, .int .i64 x.od, .int .i64 x.nw, .slice Nx nnx cnx] := Blk.new rfl (by simp)
  obtain ⟨W1, hW1⟩ : ∃ W, (((w.alloc (.cells #[.int .i64 x.cl, .int .i64 x.sp, .int .i64 x.gr, .int .i64 x.ep, .int .i64 x.kd, .int .i64 x.bl, .slice Dx ndx cdx, .int .i64 x.od, .int .i64 x.nw, .slice Nx nnx cnx] 25)).alloc (.cells #[.int .i64 0, .int .i64 0, .int .i64 0, .int .i64 0, .int .i64 0, .int .i64 0, .slice none 0 0, .int .i64 0, .int .i64 0, .slice none 0 0] 25)).alloc (.cells #[.int .i64 x.cl, .int .i64 x.sp, .int .i64 x.gr, .int .i64 x.ep, .int .i64 x.kd, .int .i64 x.bl, .slice Dx ndx cdx, .int .i64 x.od, .int .i64 x.nw, .slice Nx nnx cnx] 25)) = W := ⟨_, rfl⟩
  rw [hW1] at hb0 hB1 hB2 hB3
  have H := Lib.hid (And.intro h (And.intro (h.after hb0) (And.intro hb0 (And.intro hB1 (And.intro hB2 hB3)))))
  have HW := Lib.hid hW1
  clear h hb0 hB1 hB2 hB3 hW1
  go_enter Tryz.func24, Tryz.ntmps24
  go_wp2_with fail
  rw [HW.out]
  refine (copyBytes Dx cdx ndx x.da W1 H.out.2.1.1.2.2.2.1 H.out.2.1.1.1 (by have := H.out.2.1.1.2.2.2.2; omega)).mono ?_
  rintro e w2 ⟨v, rfl, hM, hb2⟩
  obtain ⟨A2, c2, rfl, _, _, _⟩ := Mine.form hM
  rw [H.out.2.1.1.1] at hM ⊢
  have z1 := H.out.2.2.2.2.2.lt
  have B1 := H.out.2.2.2.1.below hb2 (by omega)
  have B2 := H.out.2.2.2.2.1.below hb2 (by omega)
  have B3 := H.out.2.2.2.2.2.below hb2 (by omega)
  have hst : Out (fun i => i = w.heap.size + 1 + 1) w2 (w2.setCell ⟨w.heap.size + 1 + 1, 6, none⟩ (.slice A2 ndx c2)) := (Out.refl (fun i => i = w.heap.size + 1 + 1) w2).setCell (p := ⟨w.heap.size + 1 + 1, 6, none⟩) (fun _ => rfl) _
  have k6 : w2.cell? ⟨w.heap.size + 1 + 1, 6, none⟩ = some (.slice Dx ndx cdx) := B3.cell rfl
  have f6 := B3.free 6
  have C1 := hst.blk B1 (by omega)
  have C2 := hst.blk B2 (by omega)
  have C3 := B3.set_ 6 (.slice A2 ndx c2)
  have CM : Mine (w2.setCell ⟨w.heap.size + 1 + 1, 6, none⟩ (.slice A2 ndx c2)) W1.heap.size 5 (.slice A2 ndx c2) x.da := own_out hM hst (fun i hi e => by have := (World.ownsRow.lt hM i hi).1; omega)
  have CO : Below w.heap.size w (w2.setCell ⟨w.heap.size + 1 + 1, 6, none⟩ (.slice A2 ndx c2)) := (H.out.2.2.1.trans (hb2.mono H.out.2.2.1.size)).trans (hst.above (B := w.heap.size) (fun i e => by omega) (by have := hb2.size; omega))
  have szc : W1.heap.size ≤ (w2.setCell ⟨w.heap.size + 1 + 1, 6, none⟩ (.slice A2 ndx c2)).heap.size := by have := hb2.size; simpa [World.setCell] using this
  obtain ⟨W3, hW3⟩ : ∃ W, w2.setCell ⟨w.heap.size + 1 + 1, 6, none⟩ (.slice A2 ndx c2) = W := ⟨_, rfl⟩
  rw [hW3] at C1 C2 C3 CM CO szc
  have n9 : W3.cell? ⟨w.heap.size, 9, none⟩ = some (.slice Nx nnx cnx) := C1.cell rfl
  have H3 := Lib.hid (And.intro C1 (And.intro C2 (And.intro C3 (And.intro CM (And.intro CO (And.intro (H.out.1.after CO) (And.intro z1 szc)))))))
  have HW3 := Lib.hid hW3
  clear hM hb2 B1 B2 B3 hst C1 C2 C3 CM CO z1 szc hW3
  go_upto_region 3 with fail
  rw [HW3.out]
  clear k6 f6
  go_upto_region 4 with fail
  refine (copyInts_any Nx nnx cnx x.nx W3 H3.out.2.2.2.2.2.1.2.1.1 H3.out.2.2.2.2.2.1.2.1.2).mono ?_
  rintro e w4 ⟨v, rfl, hN, hb4⟩
  obtain ⟨A4, c4, rfl, _⟩ := OwnI.form hN
  have hnn : x.nx.length = nnx := H3.out.2.2.2.2.2.1.2.1.1.1
  rw [hnn] at hN ⊢
  have B1 := H3.out.1.below hb4 H3.out.1.lt
  have B2 := H3.out.2.1.below hb4 H3.out.2.1.lt
  have B3 := H3.out.2.2.1.below hb4 H3.out.2.2.1.lt
  have z1 := H3.out.2.2.2.2.2.2.1
  have z3 := H3.out.2.2.2.2.2.2.2
  have z4 := hb4.size
  have hst : Out (fun i => i = w.heap.size + 1 + 1) w4 (w4.setCell ⟨w.heap.size + 1 + 1, 9, none⟩ (.slice A4 nnx c4)) := (Out.refl (fun i => i = w.heap.size + 1 + 1) w4).setCell (p := ⟨w.heap.size + 1 + 1, 9, none⟩) (fun _ => rfl) _
  have k9 : w4.cell? ⟨w.heap.size + 1 + 1, 9, none⟩ = some (.slice Nx nnx cnx) := B3.cell rfl
  have f9 := B3.free 9
  have C2 := hst.blk B2 (by omega)
  have C3 := B3.set_ 9 (.slice A4 nnx c4)
  have CM : Mine (w4.setCell ⟨w.heap.size + 1 + 1, 9, none⟩ (.slice A4 nnx c4)) W1.heap.size 5 (.slice A2 ndx c2) x.da := own_out (own_below H3.out.2.2.2.1 hb4) hst (fun i hi e => by have := (World.ownsRow.lt H3.out.2.2.2.1 i hi).1; omega)
  have CN : OwnI (w4.setCell ⟨w.heap.size + 1 + 1, 9, none⟩ (.slice A4 nnx c4)) W3.heap.size (.slice A4 nnx c4) x.nx := own_out (show OwnI w4 W3.heap.size (.slice A4 nnx c4) x.nx by unfold OwnI; rw [hnn]; exact hN) hst (fun i hi e => by have := (World.ownsRow.lt hN i hi).1; omega)
  have CO : Below w.heap.size w (w4.setCell ⟨w.heap.size + 1 + 1, 9, none⟩ (.slice A4 nnx c4)) := (H3.out.2.2.2.2.1.trans (hb4.mono H3.out.2.2.2.2.1.size)).trans (hst.above (B := w.heap.size) (fun i e => by omega) (by omega))
  obtain ⟨W5, hW5⟩ : ∃ W, w4.setCell ⟨w.heap.size + 1 + 1, 9, none⟩ (.slice A4 nnx c4) = W := ⟨_, rfl⟩
  rw [hW5] at C2 C3 CM CN CO
  have C3' : Blk W5 (w.heap.size + 1 + 1) 25 [.int .i64 x.cl, .int .i64 x.sp, .int .i64 x.gr, .int .i64 x.ep, .int .i64 x.kd, .int .i64 x.bl, .slice A2 ndx c2, .int .i64 x.od, .int .i64 x.nw, .slice A4 nnx c4] := C3
  obtain ⟨t1, t2, t3⟩ := store_facts (vs := [.int .i64 x.cl, .int .i64 x.sp, .int .i64 x.gr, .int .i64 x.ep, .int .i64 x.kd, .int .i64 x.bl, .slice A2 ndx c2, .int .i64 x.od, .int .i64 x.nw, .slice A4 nnx c4]) C2 rfl rfl
  obtain ⟨wF, hwF0⟩ : ∃ W, W5.setCells (w.heap.size + 1) 0 [.int .i64 x.cl, .int .i64 x.sp, .int .i64 x.gr, .int .i64 x.ep, .int .i64 x.kd, .int .i64 x.bl, .slice A2 ndx c2, .int .i64 x.od, .int .i64 x.nw, .slice A4 nnx c4] = W := ⟨_, rfl⟩
  have hwF : W5.setCells (w.heap.size + 1) 0 ([.int .i64 x.cl, .int .i64 x.sp, .int .i64 x.gr, .int .i64 x.ep, .int .i64 x.kd, .int .i64 x.bl, .slice A2 ndx c2, .int .i64 x.od, .int .i64 x.nw, .slice A4 nnx c4] : List Value).toArray.toList = wF := hwF0
  have hone : ([.int .i64 x.cl, .int .i64 x.sp, .int .i64 x.gr, .int .i64 x.ep, .int .i64 x.kd, .int .i64 x.bl, .slice A2 ndx c2, .int .i64 x.od, .int .i64 x.nw, .slice A4 nnx c4] : List Value).toArray.all (·.oneCell') = true := by simp [Value.oneCell']
  rw [hwF0] at t2 t3
  have hMF : Mine wF w.heap.size 5 (.slice A2 ndx c2) x.da := Mine.base (own_out CM t3 (fun i hi e => by have := (World.ownsRow.lt CM i hi).1; omega)) (by omega)
  have hNF : OwnI wF w.heap.size (.slice A4 nnx c4) x.nx := own_base (own_out CN t3 (fun i hi e => by have := (World.ownsRow.lt CN i hi).1; omega)) (by omega)
  have hOF : Below w.heap.size w wF := CO.trans (t3.above (B := w.heap.size) (fun i e => by omega) CO.size)
  have k0' : W5.cell? ⟨w.heap.size + 1 + 1, 0, none⟩ = some (.int .i64 x.cl) := C3'.cell rfl
  have k1' : W5.cell? ⟨w.heap.size + 1 + 1, 1, none⟩ = some (.int .i64 x.sp) := C3'.cell rfl
  have k2' : W5.cell? ⟨w.heap.size + 1 + 1, 2, none⟩ = some (.int .i64 x.gr) := C3'.cell rfl
  have k3' : W5.cell? ⟨w.heap.size + 1 + 1, 3, none⟩ = some (.int .i64 x.ep) := C3'.cell rfl
  have k4' : W5.cell? ⟨w.heap.size + 1 + 1, 4, none⟩ = some (.int .i64 x.kd) := C3'.cell rfl
  have k5' : W5.cell? ⟨w.heap.size + 1 + 1, 5, none⟩ = some (.int .i64 x.bl) := C3'.cell rfl
  have k6' : W5.cell? ⟨w.heap.size + 1 + 1, 6, none⟩ = some (.slice A2 ndx c2) := C3'.cell rfl
  have k7' : W5.cell? ⟨w.heap.size + 1 + 1, 7, none⟩ = some (.int .i64 x.od) := C3'.cell rfl
  have k8' : W5.cell? ⟨w.heap.size + 1 + 1, 8, none⟩ = some (.int .i64 x.nw) := C3'.cell rfl
  have k9' : W5.cell? ⟨w.heap.size + 1 + 1, 9, none⟩ = some (.slice A4 nnx c4) := C3'.cell rfl
  have HS := Lib.hid (And.intro t1 (And.intro t2 (And.intro hone (And.intro hwF (And.intro hMF (And.intro hNF (And.intro hOF (And.intro H.out.2.1.1.1 hnn))))))))
  have HW5 := Lib.hid hW5
  clear hN hb4 B1 B2 B3 z1 z3 z4 hst C2 C3 CM CN CO hW5 C3' t1 t2 t3 hwF hwF0 hone hMF hNF hOF hnn
  go_upto_region 4 with fail
  rw [HW5.out]
  go_wp2_with (refine wpList_store_mid rfl 25 _ _ rfl (w.heap.size + 1) 0 ([.int .i64 x.cl, .int .i64 x.sp, .int .i64 x.gr, .int .i64 x.ep, .int .i64 x.kd, .int .i64 x.bl, .slice A2 ndx c2, .int .i64 x.od, .int .i64 x.nw, .slice A4 nnx c4] : List Value).toArray rfl rfl HS.out.1 wish_size HS.out.2.2.1 ?_; simp only [Act.put]; refine cast (congrArg (fun z => wpList _ _ _ _ _ z) HS.out.2.2.2.1.symm) ?_)
  refine bodyPost_ret (results_row rfl _ _ (w.heap.size + 1) 25 _ _ rfl HS.out.2.1 Tryz.underlying25 rfl wish_size) rfl ?_
  exact ⟨_, rfl, ⟨A2, ndx, c2, A4, nnx, c4, rfl, ⟨HS.out.2.2.2.2.1, HS.out.2.2.2.2.2.2.2.1⟩, HS.out.2.2.2.2.2.1, HS.out.2.2.2.2.2.2.2.2⟩, HS.out.2.2.2.2.2.2.1⟩

end Go.Proofs.YtihmddpafbackaaGreat

namespace Go.Proofs.YtihmddpafbackaaGreat

open Go.RowKit Go.Maps

set_option linter.unusedVariables false

set_option linter.unusedSimpArgs false

theorem rwithin_any (n a b : Int) (w : World) : Calls Tryz.prog 78 #[.int .i64 n, .int .i64 a, .int .i64 b] w fun e w' => e = .returned (.bool (decide (a ≤ n ∧ n ≤ b))) ∧ w = w' := by
  go_enter Tryz.func78, Tryz.ntmps78
  go_wp2
  all_goals go_ret
  all_goals first | exact ⟨ret_b (by simp only [Bool.and_eq_true, decide_eq_true_eq]; omega), rfl⟩ | exact ⟨ret_b0 (by simp only [Bool.and_eq_true, decide_eq_true_eq]; omega), rfl⟩

theorem wf0 : Wf 0 := by decide

def ownW (x : Wl) : Wl := if x.kd = 5 then ⟨0, 0, x.gr, x.ep, x.kd, 0, [], 0, 0, x.nx⟩ else ⟨x.cl, x.sp, x.gr, x.ep, x.kd, x.bl, if x.kd = 2 then x.da else [], if x.kd = 4 then x.od else 0, if x.kd = 4 then x.nw else 0, []⟩

set_option maxRecDepth 100000 in
set_option maxHeartbeats 1600000 in
theorem rown_any (x : Wl) (Dx : Option Addr) (ndx cdx : Nat) (Nx : Option Addr) (nnx cnx : Nat) (w : World) (h : ArgW w x Dx ndx cdx Nx nnx cnx) : Calls Tryz.prog 79 #[.agg #[.int .i64 x.cl, .int .i64 x.sp, .int .i64 x.gr, .int .i64 x.ep, .int .i64 x.kd, .int .i64 x.bl, .slice Dx ndx cdx, .int .i64 x.od, .int .i64 x.nw, .slice Nx nnx cnx]] w fun e w' => ∃ (Dy : Option Addr) (ndy cdy : Nat) (Ny : Option Addr) (nny cny : Nat), e = .returned (.agg #[.int .i64 (ownW x).cl, .int .i64 (ownW x).sp, .int .i64 (ownW x).gr, .int .i64 (ownW x).ep, .int .i64 (ownW x).kd, .int .i64 (ownW x).bl, .slice Dy ndy cdy, .int .i64 (ownW x).od, .int .i64 (ownW x).nw, .slice Ny nny cny]) ∧ ArgW w (ownW x) Dy ndy cdy Ny nny cny ∧ Below w.heap.size w w' := by
  by_cases h5 : x.kd = 5
  · have Ho : Hid (ownW x = ⟨0, 0, x.gr, x.ep, x.kd, 0, [], 0, 0, x.nx⟩) := by show _ = _; unfold ownW; rw [if_pos h5]
    have hB : Blk (((w.alloc (.cells #[.int .i64 x.cl, .int .i64 x.sp, .int .i64 x.gr, .int .i64 x.ep, .int .i64 x.kd, .int .i64 x.bl, .slice Dx ndx cdx, .int .i64 x.od, .int .i64 x.nw, .slice Nx nnx cnx] 25)).alloc (.cells #[.int .i64 0, .int .i64 0, .int .i64 x.gr, .int .i64 x.ep, .int .i64 x.kd, .int .i64 0, .slice none 0 0, .int .i64 0, .int .i64 0, .slice Nx nnx cnx] 25)).alloc (.cells #[.int .i64 0, .int .i64 0, .int .i64 x.gr, .int .i64 x.ep, .int .i64 x.kd, .int .i64 0, .slice none 0 0, .int .i64 0, .int .i64 0, .slice Nx nnx cnx] 25)) (w.heap.size + 1) 25 [.int .i64 0, .int .i64 0, .int .i64 x.gr, .int .i64 x.ep, .int .i64 x.kd, .int .i64 0, .slice none 0 0, .int .i64 0, .int .i64 0, .slice Nx nnx cnx] := (Blk.new (w := w.alloc (.cells #[.int .i64 x.cl, .int .i64 x.sp, .int .i64 x.gr, .int .i64 x.ep, .int .i64 x.kd, .int .i64 x.bl, .slice Dx ndx cdx, .int .i64 x.od, .int .i64 x.nw, .slice Nx nnx cnx] 25)) (l := [.int .i64 0, .int .i64 0, .int .i64 x.gr, .int .i64 x.ep, .int .i64 x.kd, .int .i64 0, .slice none 0 0, .int .i64 0, .int .i64 0, .slice Nx nnx cnx]) rfl (by simp)).old _
    have hbb : Below w.heap.size w (((w.alloc (.cells #[.int .i64 x.cl, .int .i64 x.sp, .int .i64 x.gr, .int .i64 x.ep, .int .i64 x.kd, .int .i64 x.bl, .slice Dx ndx cdx, .int .i64 x.od, .int .i64 x.nw, .slice Nx nnx cnx] 25)).alloc (.cells #[.int .i64 0, .int .i64 0, .int .i64 x.gr, .int .i64 x.ep, .int .i64 x.kd, .int .i64 0, .slice none 0 0, .int .i64 0, .int .i64 0, .slice Nx nnx cnx] 25)).alloc (.cells #[.int .i64 0, .int .i64 0, .int .i64 x.gr, .int .i64 x.ep, .int .i64 x.kd, .int .i64 0, .slice none 0 0, .int .i64 0, .int .i64 0, .slice Nx nnx cnx] 25)) := (((Below.refl _ _).alloc (Nat.le_refl _) _).alloc (by simp) _).alloc (by simp; omega) _
    have hAy : ArgW w (⟨0, 0, x.gr, x.ep, x.kd, 0, [], 0, 0, x.nx⟩ : Wl) none 0 0 Nx nnx cnx := ⟨⟨rfl, Nat.le_refl _, by simp [maxLen], Bs.nil _ _, by omega⟩, h.2.1, wf0, wf0, h.2.2.2.2.1, h.2.2.2.2.2.1, h.2.2.2.2.2.2.1, wf0, wf0, wf0⟩
    have H := Lib.hid (And.intro hB (And.intro hbb hAy))
    clear hB hbb hAy h
    have e5 : (x.kd == 5) = true := by simp [h5]
    clear h5
    go_enter Tryz.func79, Tryz.ntmps79
    go_wp2
    refine bodyPost_ret (results_row rfl _ _ (w.heap.size + 1) 25 _ _ rfl H.out.1 Tryz.underlying25 rfl wish_size) rfl ?_
    rw [Ho.out]
    exact ⟨none, 0, 0, Nx, nnx, cnx, rfl, H.out.2.2, H.out.2.1⟩
  have e5 : (x.kd == 5) = false := by simp [h5]
  by_cases h2 : x.kd = 2
  · have Ho : Hid (ownW x = ⟨x.cl, x.sp, x.gr, x.ep, x.kd, x.bl, x.da, 0, 0, []⟩) := by show _ = _; unfold ownW; rw [if_neg h5, if_pos h2, if_neg (by omega), if_neg (by omega)]
    have hB : Blk (((w.alloc (.cells #[.int .i64 x.cl, .int .i64 x.sp, .int .i64 x.gr, .int .i64 x.ep, .int .i64 x.kd, .int .i64 x.bl, .slice Dx ndx cdx, .int .i64 x.od, .int .i64 x.nw, .slice Nx nnx cnx] 25)).alloc (.cells #[.int .i64 x.cl, .int .i64 x.sp, .int .i64 x.gr, .int .i64 x.ep, .int .i64 x.kd, .int .i64 x.bl, .slice Dx ndx cdx, .int .i64 0, .int .i64 0, .slice none 0 0] 25)).alloc (.cells #[.int .i64 x.cl, .int .i64 x.sp, .int .i64 x.gr, .int .i64 x.ep, .int .i64 x.kd, .int .i64 x.bl, .slice Dx ndx cdx, .int .i64 0, .int .i64 0, .slice none 0 0] 25)) (w.heap.size + 1) 25 [.int .i64 x.cl, .int .i64 x.sp, .int .i64 x.gr, .int .i64 x.ep, .int .i64 x.kd, .int .i64 x.bl, .slice Dx ndx cdx, .int .i64 0, .int .i64 0, .slice none 0 0] := (Blk.new (w := w.alloc (.cells #[.int .i64 x.cl, .int .i64 x.sp, .int .i64 x.gr, .int .i64 x.ep, .int .i64 x.kd, .int .i64 x.bl, .slice Dx ndx cdx, .int .i64 x.od, .int .i64 x.nw, .slice Nx nnx cnx] 25)) (l := [.int .i64 x.cl, .int .i64 x.sp, .int .i64 x.gr, .int .i64 x.ep, .int .i64 x.kd, .int .i64 x.bl, .slice Dx ndx cdx, .int .i64 0, .int .i64 0, .slice none 0 0]) rfl (by simp)).old _
    have hbb : Below w.heap.size w (((w.alloc (.cells #[.int .i64 x.cl, .int .i64 x.sp, .int .i64 x.gr, .int .i64 x.ep, .int .i64 x.kd, .int .i64 x.bl, .slice Dx ndx cdx, .int .i64 x.od, .int .i64 x.nw, .slice Nx nnx cnx] 25)).alloc (.cells #[.int .i64 x.cl, .int .i64 x.sp, .int .i64 x.gr, .int .i64 x.ep, .int .i64 x.kd, .int .i64 x.bl, .slice Dx ndx cdx, .int .i64 0, .int .i64 0, .slice none 0 0] 25)).alloc (.cells #[.int .i64 x.cl, .int .i64 x.sp, .int .i64 x.gr, .int .i64 x.ep, .int .i64 x.kd, .int .i64 x.bl, .slice Dx ndx cdx, .int .i64 0, .int .i64 0, .slice none 0 0] 25)) := (((Below.refl _ _).alloc (Nat.le_refl _) _).alloc (by simp) _).alloc (by simp; omega) _
    have hAy : ArgW w (⟨x.cl, x.sp, x.gr, x.ep, x.kd, x.bl, x.da, 0, 0, []⟩ : Wl) Dx ndx cdx none 0 0 := ⟨h.1, ⟨⟨rfl, Nat.le_refl _, by simp [maxLen], Shows.empty _, fun x hx => by simp at hx⟩, by omega⟩, h.2.2.1, h.2.2.2.1, h.2.2.2.2.1, h.2.2.2.2.2.1, h.2.2.2.2.2.2.1, h.2.2.2.2.2.2.2.1, wf0, wf0⟩
    have H := Lib.hid (And.intro hB (And.intro hbb hAy))
    clear hB hbb hAy h
    have e2 : (x.kd == 2) = true := by simp [h2]
    have e4 : (x.kd == 4) = false := by simp [h2]
    clear h5 h2
    go_enter Tryz.func79, Tryz.ntmps79
    go_wp2
    refine bodyPost_ret (results_row rfl _ _ (w.heap.size + 1) 25 _ _ rfl H.out.1 Tryz.underlying25 rfl wish_size) rfl ?_
    rw [Ho.out]
    exact ⟨Dx, ndx, cdx, none, 0, 0, rfl, H.out.2.2, H.out.2.1⟩
  have e2 : (x.kd == 2) = false := by simp [h2]
  by_cases h4 : x.kd = 4
  · have Ho : Hid (ownW x = ⟨x.cl, x.sp, x.gr, x.ep, x.kd, x.bl, [], x.od, x.nw, []⟩) := by show _ = _; unfold ownW; rw [if_neg h5, if_neg h2, if_pos h4, if_pos h4]
    have hB : Blk (((w.alloc (.cells #[.int .i64 x.cl, .int .i64 x.sp, .int .i64 x.gr, .int .i64 x.ep, .int .i64 x.kd, .int .i64 x.bl, .slice Dx ndx cdx, .int .i64 x.od, .int .i64 x.nw, .slice Nx nnx cnx] 25)).alloc (.cells #[.int .i64 x.cl, .int .i64 x.sp, .int .i64 x.gr, .int .i64 x.ep, .int .i64 x.kd, .int .i64 x.bl, .slice none 0 0, .int .i64 x.od, .int .i64 x.nw, .slice none 0 0] 25)).alloc (.cells #[.int .i64 x.cl, .int .i64 x.sp, .int .i64 x.gr, .int .i64 x.ep, .int .i64 x.kd, .int .i64 x.bl, .slice none 0 0, .int .i64 x.od, .int .i64 x.nw, .slice none 0 0] 25)) (w.heap.size + 1) 25 [.int .i64 x.cl, .int .i64 x.sp, .int .i64 x.gr, .int .i64 x.ep, .int .i64 x.kd, .int .i64 x.bl, .slice none 0 0, .int .i64 x.od, .int .i64 x.nw, .slice none 0 0] := (Blk.new (w := w.alloc (.cells #[.int .i64 x.cl, .int .i64 x.sp, .int .i64 x.gr, .int .i64 x.ep, .int .i64 x.kd, .int .i64 x.bl, .slice Dx ndx cdx, .int .i64 x.od, .int .i64 x.nw, .slice Nx nnx cnx] 25)) (l := [.int .i64 x.cl, .int .i64 x.sp, .int .i64 x.gr, .int .i64 x.ep, .int .i64 x.kd, .int .i64 x.bl, .slice none 0 0, .int .i64 x.od, .int .i64 x.nw, .slice none 0 0]) rfl (by simp)).old _
    have hbb : Below w.heap.size w (((w.alloc (.cells #[.int .i64 x.cl, .int .i64 x.sp, .int .i64 x.gr, .int .i64 x.ep, .int .i64 x.kd, .int .i64 x.bl, .slice Dx ndx cdx, .int .i64 x.od, .int .i64 x.nw, .slice Nx nnx cnx] 25)).alloc (.cells #[.int .i64 x.cl, .int .i64 x.sp, .int .i64 x.gr, .int .i64 x.ep, .int .i64 x.kd, .int .i64 x.bl, .slice none 0 0, .int .i64 x.od, .int .i64 x.nw, .slice none 0 0] 25)).alloc (.cells #[.int .i64 x.cl, .int .i64 x.sp, .int .i64 x.gr, .int .i64 x.ep, .int .i64 x.kd, .int .i64 x.bl, .slice none 0 0, .int .i64 x.od, .int .i64 x.nw, .slice none 0 0] 25)) := (((Below.refl _ _).alloc (Nat.le_refl _) _).alloc (by simp) _).alloc (by simp; omega) _
    have hAy : ArgW w (⟨x.cl, x.sp, x.gr, x.ep, x.kd, x.bl, [], x.od, x.nw, []⟩ : Wl) none 0 0 none 0 0 := ⟨⟨rfl, Nat.le_refl _, by simp [maxLen], Bs.nil _ _, by omega⟩, ⟨⟨rfl, Nat.le_refl _, by simp [maxLen], Shows.empty _, fun x hx => by simp at hx⟩, by omega⟩, h.2.2.1, h.2.2.2.1, h.2.2.2.2.1, h.2.2.2.2.2.1, h.2.2.2.2.2.2.1, h.2.2.2.2.2.2.2.1, h.2.2.2.2.2.2.2.2.1, h.2.2.2.2.2.2.2.2.2⟩
    have H := Lib.hid (And.intro hB (And.intro hbb hAy))
    clear hB hbb hAy h
    have e4 : (x.kd == 4) = true := by simp [h4]
    clear h5 h2 h4
    go_enter Tryz.func79, Tryz.ntmps79
    go_wp2
    refine bodyPost_ret (results_row rfl _ _ (w.heap.size + 1) 25 _ _ rfl H.out.1 Tryz.underlying25 rfl wish_size) rfl ?_
    rw [Ho.out]
    exact ⟨none, 0, 0, none, 0, 0, rfl, H.out.2.2, H.out.2.1⟩
  · have Ho : Hid (ownW x = ⟨x.cl, x.sp, x.gr, x.ep, x.kd, x.bl, [], 0, 0, []⟩) := by show _ = _; unfold ownW; rw [if_neg h5, if_neg h2, if_neg h4, if_neg h4]
    have hB : Blk (((w.alloc (.cells #[.int .i64 x.cl, .int .i64 x.sp, .int .i64 x.gr, .int .i64 x.ep, .int .i64 x.kd, .int .i64 x.bl, .slice Dx ndx cdx, .int .i64 x.od, .int .i64 x.nw, .slice Nx nnx cnx] 25)).alloc (.cells #[.int .i64 x.cl, .int .i64 x.sp, .int .i64 x.gr, .int .i64 x.ep, .int .i64 x.kd, .int .i64 x.bl, .slice none 0 0, .int .i64 0, .int .i64 0, .slice none 0 0] 25)).alloc (.cells #[.int .i64 x.cl, .int .i64 x.sp, .int .i64 x.gr, .int .i64 x.ep, .int .i64 x.kd, .int .i64 x.bl, .slice none 0 0, .int .i64 0, .int .i64 0, .slice none 0 0] 25)) (w.heap.size + 1) 25 [.int .i64 x.cl, .int .i64 x.sp, .int .i64 x.gr, .int .i64 x.ep, .int .i64 x.kd, .int .i64 x.bl, .slice none 0 0, .int .i64 0, .int .i64 0, .slice none 0 0] := (Blk.new (w := w.alloc (.cells #[.int .i64 x.cl, .int .i64 x.sp, .int .i64 x.gr, .int .i64 x.ep, .int .i64 x.kd, .int .i64 x.bl, .slice Dx ndx cdx, .int .i64 x.od, .int .i64 x.nw, .slice Nx nnx cnx] 25)) (l := [.int .i64 x.cl, .int .i64 x.sp, .int .i64 x.gr, .int .i64 x.ep, .int .i64 x.kd, .int .i64 x.bl, .slice none 0 0, .int .i64 0, .int .i64 0, .slice none 0 0]) rfl (by simp)).old _
    have hbb : Below w.heap.size w (((w.alloc (.cells #[.int .i64 x.cl, .int .i64 x.sp, .int .i64 x.gr, .int .i64 x.ep, .int .i64 x.kd, .int .i64 x.bl, .slice Dx ndx cdx, .int .i64 x.od, .int .i64 x.nw, .slice Nx nnx cnx] 25)).alloc (.cells #[.int .i64 x.cl, .int .i64 x.sp, .int .i64 x.gr, .int .i64 x.ep, .int .i64 x.kd, .int .i64 x.bl, .slice none 0 0, .int .i64 0, .int .i64 0, .slice none 0 0] 25)).alloc (.cells #[.int .i64 x.cl, .int .i64 x.sp, .int .i64 x.gr, .int .i64 x.ep, .int .i64 x.kd, .int .i64 x.bl, .slice none 0 0, .int .i64 0, .int .i64 0, .slice none 0 0] 25)) := (((Below.refl _ _).alloc (Nat.le_refl _) _).alloc (by simp) _).alloc (by simp; omega) _
    have hAy : ArgW w (⟨x.cl, x.sp, x.gr, x.ep, x.kd, x.bl, [], 0, 0, []⟩ : Wl) none 0 0 none 0 0 := ⟨⟨rfl, Nat.le_refl _, by simp [maxLen], Bs.nil _ _, by omega⟩, ⟨⟨rfl, Nat.le_refl _, by simp [maxLen], Shows.empty _, fun x hx => by simp at hx⟩, by omega⟩, h.2.2.1, h.2.2.2.1, h.2.2.2.2.1, h.2.2.2.2.2.1, h.2.2.2.2.2.2.1, h.2.2.2.2.2.2.2.1, wf0, wf0⟩
    have H := Lib.hid (And.intro hB (And.intro hbb hAy))
    clear hB hbb hAy h
    have e4 : (x.kd == 4) = false := by simp [h4]
    clear h5 h2 h4
    go_enter Tryz.func79, Tryz.ntmps79
    go_wp2
    refine bodyPost_ret (results_row rfl _ _ (w.heap.size + 1) 25 _ _ rfl H.out.1 Tryz.underlying25 rfl wish_size) rfl ?_
    rw [Ho.out]
    exact ⟨none, 0, 0, none, 0, 0, rfl, H.out.2.2, H.out.2.1⟩

end Go.Proofs.YtihmddpafbackaaGreat

namespace Go.Proofs.YtihmddpafbackaaGreat

open Go.RowKit Go.Maps

set_option linter.unusedVariables false

set_option linter.unusedSimpArgs false

theorem rwithin_val {n a b : Int} {r : Bool} (h : decide (a ≤ n ∧ n ≤ b) = r) (w : World) : Calls Tryz.prog 78 #[.int .i64 n, .int .i64 a, .int .i64 b] w fun e w' => e = .returned (.bool r) ∧ w' = w :=
  (rwithin_any n a b w).mono fun e w' ⟨h1, h2⟩ => ⟨by rw [← h]; exact h1, h2.symm⟩

set_option maxRecDepth 100000 in
set_option maxHeartbeats 1600000 in
theorem rnext_any (A : Option Addr) (n c : Nat) (l : List Int) (w : World) (h : ArgI w A n c l) : Calls Tryz.prog 80 #[.slice A n c] w fun e w' => e = .returned (.bool (decide (Nxt l))) ∧ Below w.heap.size w w' := by
  have hl := h.1
  have hm := h.2.2.1
  have hnc := h.2.1
  unfold maxLen at hm
  obtain ⟨r, hr⟩ : ∃ r, decide (Nxt l) = r := ⟨_, rfl⟩
  rw [hr]
  by_cases h147 : n = 1 ∨ n = 4 ∨ n = 7
  rotate_left
  · have n1 : ((n : Int) != 1) = true := by simp; omega
    have n4 : ((n : Int) != 4) = true := by simp; omega
    have n7 : ((n : Int) != 7) = true := by simp; omega
    have Hr : Hid (r = false) := by
      show _ = _; rw [← hr, decide_eq_false_iff_not]; rintro ⟨h1, _⟩; omega
    clear hr h147
    go_enter Tryz.func80, Tryz.ntmps80
    go_wp2
    go_ret
    exact ⟨ret_bool Hr.out.symm, Below.refl _ _⟩
  have hlen : l.length = 1 ∨ l.length = 4 ∨ l.length = 7 := by omega
  have Hn : Hid (r = true ↔ ris 0 (l.drop 0)) := by
    show _ ↔ _; rw [← hr, decide_eq_true_eq]; exact ⟨fun h => h.2, fun h => ⟨hlen, h⟩⟩
  have Hl := Lib.hid hl
  have H := Lib.hid h
  clear h hr hlen hl
  have main : ∀ (q1 : ((n : Int) != 1) = false ∨ (((n : Int) != 1) = true ∧ ((n : Int) != 4) = false) ∨ (((n : Int) != 1) = true ∧ ((n : Int) != 4) = true ∧ ((n : Int) != 7) = false)), Calls Tryz.prog 80 #[.slice A n c] w fun e w' => e = .returned (.bool r) ∧ Below w.heap.size w w' := by
    clear h147
    intro q1
    rcases q1 with n1 | ⟨n1, n4⟩ | ⟨n1, n4, n7⟩
    · go_enter Tryz.func80, Tryz.ntmps80
      go_wp2
      go_loopw [3] (fun v wr => ∃ (k : Nat) (a : Int), k ≤ n ∧ v = .int .i64 k ∧ Hid (r = true ↔ ris a (l.drop k)) ∧ (k = 0 → a = 0) ∧ (0 < k → l[k - 1]? = some a) ∧ Below w.heap.size w wr) (fun v _ => n - (intOf v).toNat)
      case atStart => exact ⟨0, 0, Nat.zero_le _, rfl, Hn, fun _ => rfl, fun h => absurd h (by omega), Below.refl _ _⟩
      case round =>
        obtain ⟨k, a, hk, rfl, hq, ha0, hak, hb⟩ := hrel
        have Hb := Lib.hid hb
        by_cases hlt : k < n
        · have hkl : k < l.length := by have := Hl.out; omega
          obtain ⟨b, o, rfl, hbl, hc⟩ := H.out.2.2.2.1.at_ hkl
          have c0 : wr.cell? ⟨b, o + k, none⟩ = some (.int .i64 l[k]) := (hb.cell (p := ⟨b, o + k, none⟩) hbl).trans (hc k hkl)
          have Hq : Hid (r = true ↔ (1 ≤ l[k] ∧ l[k] ≤ 28) ∧ a < l[k] ∧ ris l[k] (l.drop (k + 1))) := hq.out.trans (ris_drop hkl)
          have hlt' : (k : Int) < n := by omega
          have hk0 : (0 : Int) ≤ k := by omega
          have hlk : l[k]? = some l[k] := List.getElem?_eq_getElem hkl
          by_cases hz : k = 0
          · have a0 := ha0 hz
            subst hz
            subst a0
            have Hz := Lib.hid hlk
            have c0 : wr.cell? ⟨b, o, none⟩ = some (.int .i64 l[0]) := c0
            have c0d : wr.drew.cell? ⟨b, o, none⟩ = some (.int .i64 l[0]) := c0
            clear hc hq ha0 hak hb hlk hlt
            generalize l[0] = x at *
            clear hkl
            by_cases hx : 1 ≤ x ∧ x ≤ 28
            · have hx1 : decide (1 ≤ x ∧ x ≤ 28) = true := decide_eq_true hx
              have Hx := Lib.hid hx
              clear hx
              go_wp2_with fail
              go_quiet ((go_at_call 78; exact Calls.quiet_of_same (rwithin_val hx1 _)))
              go_wp2
              go_roundw
              case rel => exact ⟨1, x, by omega, rfl, ⟨fun h => (Hq.out.1 h).2.2, fun h => Hq.out.2 ⟨Hx.out, by have := Hx.out.1; omega, h⟩⟩, fun h => absurd h (by omega), fun _ => Hz.out, below_drewN Hb.out _⟩
              case measure => simp [intOf]; omega
            · have hx1 : decide (1 ≤ x ∧ x ≤ 28) = false := decide_eq_false hx
              have hr : Hid (r = false) := by show _ = _; rw [Bool.eq_false_iff]; intro h; exact hx (Hq.out.1 h).1
              clear hx
              go_wp2_with fail
              go_quiet ((go_at_call 78; exact Calls.quiet_of_same (rwithin_val hx1 _)))
              go_wp2
              go_ret
              exact ⟨ret_bool hr.out.symm, below_drewN Hb.out _⟩
          · have hpk := hak (by omega)
            obtain ⟨j, rfl⟩ : ∃ j, k = j + 1 := ⟨k - 1, by omega⟩
            have hjl : j < l.length := by omega
            have c1 : wr.cell? ⟨b, o + j, none⟩ = some (.int .i64 a) := by
              have h1 := (hb.cell (p := ⟨b, o + j, none⟩) hbl).trans (hc j hjl)
              have h2 : l[j]? = some a := hpk
              rw [List.getElem?_eq_getElem hjl] at h2
              rw [h1, Option.some.inj h2]
            have c1d : wr.drew.cell? ⟨b, o + j, none⟩ = some (.int .i64 a) := c1
            have c0d : wr.drew.cell? ⟨b, o + (j + 1), none⟩ = some (.int .i64 l[j + 1]) := c0
            have z1 : decide (((j + 1 : Nat) : Int) > 0) = true := by simp
            have j1 : ((j + 1 : Nat) : Int) - 1 = (j : Int) := by omega
            have j2 : (j : Int) < n := by omega
            have Hz := Lib.hid hlk
            clear hc hq ha0 hak hb hlk hpk hz hjl
            generalize l[j + 1] = x at *
            clear hkl
            by_cases hx : 1 ≤ x ∧ x ≤ 28
            rotate_left
            · have hx1 : decide (1 ≤ x ∧ x ≤ 28) = false := decide_eq_false hx
              have hr : Hid (r = false) := by show _ = _; rw [Bool.eq_false_iff]; intro h; exact hx (Hq.out.1 h).1
              clear hx
              go_wp2_with fail
              go_quiet ((go_at_call 78; exact Calls.quiet_of_same (rwithin_val hx1 _)))
              go_wp2
              go_ret
              exact ⟨ret_bool hr.out.symm, below_drewN Hb.out _⟩
            have hx1 : decide (1 ≤ x ∧ x ≤ 28) = true := decide_eq_true hx
            have Hx := Lib.hid hx
            clear hx
            by_cases hxa : x ≤ a
            · have hr : Hid (r = false) := by show _ = _; rw [Bool.eq_false_iff]; intro h; have := (Hq.out.1 h).2.1; omega
              go_wp2_with fail
              go_quiet ((go_at_call 78; exact Calls.quiet_of_same (rwithin_val hx1 _)))
              go_wp2
              go_ret
              exact ⟨ret_bool hr.out.symm, below_drewN Hb.out _⟩
            · go_wp2_with fail
              go_quiet ((go_at_call 78; exact Calls.quiet_of_same (rwithin_val hx1 _)))
              go_wp2
              go_roundw
              case rel => exact ⟨j + 2, x, by omega, by go_num, ⟨fun h => (Hq.out.1 h).2.2, fun h => Hq.out.2 ⟨Hx.out, by omega, h⟩⟩, fun h => absurd h (by omega), fun _ => Hz.out, below_drewN Hb.out _⟩
              case measure => simp [intOf]; omega
        · have hlt' : ¬ (k : Int) < n := by omega
          have hr : Hid (r = true) := by show _ = _; rw [hq.out, List.drop_of_length_le (by rw [Hl.out]; omega)]; trivial
          clear hq ha0 hak hb
          go_wp2
          go_ret
          exact ⟨ret_bool hr.out.symm, Hb.out⟩
    · go_enter Tryz.func80, Tryz.ntmps80
      go_wp2
      go_loopw [3] (fun v wr => ∃ (k : Nat) (a : Int), k ≤ n ∧ v = .int .i64 k ∧ Hid (r = true ↔ ris a (l.drop k)) ∧ (k = 0 → a = 0) ∧ (0 < k → l[k - 1]? = some a) ∧ Below w.heap.size w wr) (fun v _ => n - (intOf v).toNat)
      case atStart => exact ⟨0, 0, Nat.zero_le _, rfl, Hn, fun _ => rfl, fun h => absurd h (by omega), Below.refl _ _⟩
      case round =>
        obtain ⟨k, a, hk, rfl, hq, ha0, hak, hb⟩ := hrel
        have Hb := Lib.hid hb
        by_cases hlt : k < n
        · have hkl : k < l.length := by have := Hl.out; omega
          obtain ⟨b, o, rfl, hbl, hc⟩ := H.out.2.2.2.1.at_ hkl
          have c0 : wr.cell? ⟨b, o + k, none⟩ = some (.int .i64 l[k]) := (hb.cell (p := ⟨b, o + k, none⟩) hbl).trans (hc k hkl)
          have Hq : Hid (r = true ↔ (1 ≤ l[k] ∧ l[k] ≤ 28) ∧ a < l[k] ∧ ris l[k] (l.drop (k + 1))) := hq.out.trans (ris_drop hkl)
          have hlt' : (k : Int) < n := by omega
          have hk0 : (0 : Int) ≤ k := by omega
          have hlk : l[k]? = some l[k] := List.getElem?_eq_getElem hkl
          by_cases hz : k = 0
          · have a0 := ha0 hz
            subst hz
            subst a0
            have Hz := Lib.hid hlk
            have c0 : wr.cell? ⟨b, o, none⟩ = some (.int .i64 l[0]) := c0
            have c0d : wr.drew.cell? ⟨b, o, none⟩ = some (.int .i64 l[0]) := c0
            clear hc hq ha0 hak hb hlk hlt
            generalize l[0] = x at *
            clear hkl
            by_cases hx : 1 ≤ x ∧ x ≤ 28
            · have hx1 : decide (1 ≤ x ∧ x ≤ 28) = true := decide_eq_true hx
              have Hx := Lib.hid hx
              clear hx
              go_wp2_with fail
              go_quiet ((go_at_call 78; exact Calls.quiet_of_same (rwithin_val hx1 _)))
              go_wp2
              go_roundw
              case rel => exact ⟨1, x, by omega, rfl, ⟨fun h => (Hq.out.1 h).2.2, fun h => Hq.out.2 ⟨Hx.out, by have := Hx.out.1; omega, h⟩⟩, fun h => absurd h (by omega), fun _ => Hz.out, below_drewN Hb.out _⟩
              case measure => simp [intOf]; omega
            · have hx1 : decide (1 ≤ x ∧ x ≤ 28) = false := decide_eq_false hx
              have hr : Hid (r = false) := by show _ = _; rw [Bool.eq_false_iff]; intro h; exact hx (Hq.out.1 h).1
              clear hx
              go_wp2_with fail
              go_quiet ((go_at_call 78; exact Calls.quiet_of_same (rwithin_val hx1 _)))
              go_wp2
              go_ret
              exact ⟨ret_bool hr.out.symm, below_drewN Hb.out _⟩
          · have hpk := hak (by omega)
            obtain ⟨j, rfl⟩ : ∃ j, k = j + 1 := ⟨k - 1, by omega⟩
            have hjl : j < l.length := by omega
            have c1 : wr.cell? ⟨b, o + j, none⟩ = some (.int .i64 a) := by
              have h1 := (hb.cell (p := ⟨b, o + j, none⟩) hbl).trans (hc j hjl)
              have h2 : l[j]? = some a := hpk
              rw [List.getElem?_eq_getElem hjl] at h2
              rw [h1, Option.some.inj h2]
            have c1d : wr.drew.cell? ⟨b, o + j, none⟩ = some (.int .i64 a) := c1
            have c0d : wr.drew.cell? ⟨b, o + (j + 1), none⟩ = some (.int .i64 l[j + 1]) := c0
            have z1 : decide (((j + 1 : Nat) : Int) > 0) = true := by simp
            have j1 : ((j + 1 : Nat) : Int) - 1 = (j : Int) := by omega
            have j2 : (j : Int) < n := by omega
            have Hz := Lib.hid hlk
            clear hc hq ha0 hak hb hlk hpk hz hjl
            generalize l[j + 1] = x at *
            clear hkl
            by_cases hx : 1 ≤ x ∧ x ≤ 28
            rotate_left
            · have hx1 : decide (1 ≤ x ∧ x ≤ 28) = false := decide_eq_false hx
              have hr : Hid (r = false) := by show _ = _; rw [Bool.eq_false_iff]; intro h; exact hx (Hq.out.1 h).1
              clear hx
              go_wp2_with fail
              go_quiet ((go_at_call 78; exact Calls.quiet_of_same (rwithin_val hx1 _)))
              go_wp2
              go_ret
              exact ⟨ret_bool hr.out.symm, below_drewN Hb.out _⟩
            have hx1 : decide (1 ≤ x ∧ x ≤ 28) = true := decide_eq_true hx
            have Hx := Lib.hid hx
            clear hx
            by_cases hxa : x ≤ a
            · have hr : Hid (r = false) := by show _ = _; rw [Bool.eq_false_iff]; intro h; have := (Hq.out.1 h).2.1; omega
              go_wp2_with fail
              go_quiet ((go_at_call 78; exact Calls.quiet_of_same (rwithin_val hx1 _)))
              go_wp2
              go_ret
              exact ⟨ret_bool hr.out.symm, below_drewN Hb.out _⟩
            · go_wp2_with fail
              go_quiet ((go_at_call 78; exact Calls.quiet_of_same (rwithin_val hx1 _)))
              go_wp2
              go_roundw
              case rel => exact ⟨j + 2, x, by omega, by go_num, ⟨fun h => (Hq.out.1 h).2.2, fun h => Hq.out.2 ⟨Hx.out, by omega, h⟩⟩, fun h => absurd h (by omega), fun _ => Hz.out, below_drewN Hb.out _⟩
              case measure => simp [intOf]; omega
        · have hlt' : ¬ (k : Int) < n := by omega
          have hr : Hid (r = true) := by show _ = _; rw [hq.out, List.drop_of_length_le (by rw [Hl.out]; omega)]; trivial
          clear hq ha0 hak hb
          go_wp2
          go_ret
          exact ⟨ret_bool hr.out.symm, Hb.out⟩
    · go_enter Tryz.func80, Tryz.ntmps80
      go_wp2
      go_loopw [3] (fun v wr => ∃ (k : Nat) (a : Int), k ≤ n ∧ v = .int .i64 k ∧ Hid (r = true ↔ ris a (l.drop k)) ∧ (k = 0 → a = 0) ∧ (0 < k → l[k - 1]? = some a) ∧ Below w.heap.size w wr) (fun v _ => n - (intOf v).toNat)
      case atStart => exact ⟨0, 0, Nat.zero_le _, rfl, Hn, fun _ => rfl, fun h => absurd h (by omega), Below.refl _ _⟩
      case round =>
        obtain ⟨k, a, hk, rfl, hq, ha0, hak, hb⟩ := hrel
        have Hb := Lib.hid hb
        by_cases hlt : k < n
        · have hkl : k < l.length := by have := Hl.out; omega
          obtain ⟨b, o, rfl, hbl, hc⟩ := H.out.2.2.2.1.at_ hkl
          have c0 : wr.cell? ⟨b, o + k, none⟩ = some (.int .i64 l[k]) := (hb.cell (p := ⟨b, o + k, none⟩) hbl).trans (hc k hkl)
          have Hq : Hid (r = true ↔ (1 ≤ l[k] ∧ l[k] ≤ 28) ∧ a < l[k] ∧ ris l[k] (l.drop (k + 1))) := hq.out.trans (ris_drop hkl)
          have hlt' : (k : Int) < n := by omega
          have hk0 : (0 : Int) ≤ k := by omega
          have hlk : l[k]? = some l[k] := List.getElem?_eq_getElem hkl
          by_cases hz : k = 0
          · have a0 := ha0 hz
            subst hz
            subst a0
            have Hz := Lib.hid hlk
            have c0 : wr.cell? ⟨b, o, none⟩ = some (.int .i64 l[0]) := c0
            have c0d : wr.drew.cell? ⟨b, o, none⟩ = some (.int .i64 l[0]) := c0
            clear hc hq ha0 hak hb hlk hlt
            generalize l[0] = x at *
            clear hkl
            by_cases hx : 1 ≤ x ∧ x ≤ 28
            · have hx1 : decide (1 ≤ x ∧ x ≤ 28) = true := decide_eq_true hx
              have Hx := Lib.hid hx
              clear hx
              go_wp2_with fail
              go_quiet ((go_at_call 78; exact Calls.quiet_of_same (rwithin_val hx1 _)))
              go_wp2
              go_roundw
              case rel => exact ⟨1, x, by omega, rfl, ⟨fun h => (Hq.out.1 h).2.2, fun h => Hq.out.2 ⟨Hx.out, by have := Hx.out.1; omega, h⟩⟩, fun h => absurd h (by omega), fun _ => Hz.out, below_drewN Hb.out _⟩
              case measure => simp [intOf]; omega
            · have hx1 : decide (1 ≤ x ∧ x ≤ 28) = false := decide_eq_false hx
              have hr : Hid (r = false) := by show _ = _; rw [Bool.eq_false_iff]; intro h; exact hx (Hq.out.1 h).1
              clear hx
              go_wp2_with fail
              go_quiet ((go_at_call 78; exact Calls.quiet_of_same (rwithin_val hx1 _)))
              go_wp2
              go_ret
              exact ⟨ret_bool hr.out.symm, below_drewN Hb.out _⟩
          · have hpk := hak (by omega)
            obtain ⟨j, rfl⟩ : ∃ j, k = j + 1 := ⟨k - 1, by omega⟩
            have hjl : j < l.length := by omega
            have c1 : wr.cell? ⟨b, o + j, none⟩ = some (.int .i64 a) := by
              have h1 := (hb.cell (p := ⟨b, o + j, none⟩) hbl).trans (hc j hjl)
              have h2 : l[j]? = some a := hpk
              rw [List.getElem?_eq_getElem hjl] at h2
              rw [h1, Option.some.inj h2]
            have c1d : wr.drew.cell? ⟨b, o + j, none⟩ = some (.int .i64 a) := c1
            have c0d : wr.drew.cell? ⟨b, o + (j + 1), none⟩ = some (.int .i64 l[j + 1]) := c0
            have z1 : decide (((j + 1 : Nat) : Int) > 0) = true := by simp
            have j1 : ((j + 1 : Nat) : Int) - 1 = (j : Int) := by omega
            have j2 : (j : Int) < n := by omega
            have Hz := Lib.hid hlk
            clear hc hq ha0 hak hb hlk hpk hz hjl
            generalize l[j + 1] = x at *
            clear hkl
            by_cases hx : 1 ≤ x ∧ x ≤ 28
            rotate_left
            · have hx1 : decide (1 ≤ x ∧ x ≤ 28) = false := decide_eq_false hx
              have hr : Hid (r = false) := by show _ = _; rw [Bool.eq_false_iff]; intro h; exact hx (Hq.out.1 h).1
              clear hx
              go_wp2_with fail
              go_quiet ((go_at_call 78; exact Calls.quiet_of_same (rwithin_val hx1 _)))
              go_wp2
              go_ret
              exact ⟨ret_bool hr.out.symm, below_drewN Hb.out _⟩
            have hx1 : decide (1 ≤ x ∧ x ≤ 28) = true := decide_eq_true hx
            have Hx := Lib.hid hx
            clear hx
            by_cases hxa : x ≤ a
            · have hr : Hid (r = false) := by show _ = _; rw [Bool.eq_false_iff]; intro h; have := (Hq.out.1 h).2.1; omega
              go_wp2_with fail
              go_quiet ((go_at_call 78; exact Calls.quiet_of_same (rwithin_val hx1 _)))
              go_wp2
              go_ret
              exact ⟨ret_bool hr.out.symm, below_drewN Hb.out _⟩
            · go_wp2_with fail
              go_quiet ((go_at_call 78; exact Calls.quiet_of_same (rwithin_val hx1 _)))
              go_wp2
              go_roundw
              case rel => exact ⟨j + 2, x, by omega, by go_num, ⟨fun h => (Hq.out.1 h).2.2, fun h => Hq.out.2 ⟨Hx.out, by omega, h⟩⟩, fun h => absurd h (by omega), fun _ => Hz.out, below_drewN Hb.out _⟩
              case measure => simp [intOf]; omega
        · have hlt' : ¬ (k : Int) < n := by omega
          have hr : Hid (r = true) := by show _ = _; rw [hq.out, List.drop_of_length_le (by rw [Hl.out]; omega)]; trivial
          clear hq ha0 hak hb
          go_wp2
          go_ret
          exact ⟨ret_bool hr.out.symm, Hb.out⟩
  refine main ?_
  rcases h147 with e | e | e
  · exact .inl (by simp; omega)
  · exact .inr (.inl ⟨by simp; omega, by simp; omega⟩)
  · exact .inr (.inr ⟨by simp; omega, by simp; omega, by simp; omega⟩)

end Go.Proofs.YtihmddpafbackaaGreat
