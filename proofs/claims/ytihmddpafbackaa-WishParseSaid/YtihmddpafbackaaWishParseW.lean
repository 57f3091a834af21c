/-
  For all bytes: Parse answers as the document's does, what was handed in stays, and is not kept; WishParse returns true; no condition.
-/
import Derived.Test.YtihmddpafbackaaZ09
import Derived.Test.YtihmddpafbackaaZ10
import Derived.Test.YtihmddpafbackaaZ11
import Derived.Test.YtihmddpafbackaaZ18
import Derived.Deep.DeepCutAuto
namespace Go.Proofs.Ytihmddpafbackaa.wishParse
open Go.ChangeShapes Go.WideShapes Go.ChangeAt Go.RowKit Go.Maps
set_option linter.unusedVariables false

set_option linter.unusedSimpArgs false
theorem put_only {a w : World} {g : Nat} (h : a.grownBy w (some g)) {p : Addr} (hp : p.block = g ∨ a.heap.size ≤ p.block) (u : Value) : a.grownBy (w.setCell p u) (some g) := by
  refine ⟨h.os, h.tape, h.output, by simpa [World.setCell] using h.size, fun i hi hne => ?_⟩
  refine (Below.heap_setCell w p u i ?_).trans (h.block i hi hne)
  rintro rfl
  rcases hp with hp | hp
  · exact hne (by rw [hp])
  · omega
theorem argW_out {w w' : World} {base : Nat} {S : Nat → Prop} {x : Wl} {D : Option Addr} {nd cd : Nat} {N : Option Addr} {nn cn : Nat} (hM : Mine w base 5 (.slice D nd cd) x.da) (hN : OwnI w base (.slice N nn cn) x.nx) (hA : ArgW w x D nd cd N nn cn)
    (ho : Out S w w') (hS : ∀ i, S i → i < base) : ArgW w' x D nd cd N nn cn := by
  have hM' := own_out hM ho (fun i hi e => by have := (World.ownsRow.lt hM i hi).1; have := hS i e; omega)
  have hN' : OwnI w' base (.slice N nn cn) x.nx := own_out hN ho (fun i hi e => by have := (World.ownsRow.lt hN i hi).1; have := hS i e; omega)
  obtain ⟨_, c, e1, g1, g2, g3⟩ := Mine.form hM'
  obtain ⟨_, c', e2, g4⟩ := hN'.arg hA.2.1.1.2.2.2.2
  injection e1 with e1 _ e3
  injection e2 with e2 _ e4
  subst e1 e3 e2 e4
  exact ⟨⟨hA.1.1, hA.1.2.1, hA.1.2.2.1, g3, hA.1.2.2.2.2⟩, ⟨by have h := hA.2.1.1.1; rw [h] at g4; exact g4, hA.2.1.2⟩, hA.2.2⟩
theorem mine_bs {w : World} {base n c : Nat} {A : Option Addr} {l : List UInt8} (h : Mine w base 5 (.slice A n c) l) : Bs w A l := by
  obtain ⟨A', c', e, _, _, h⟩ := Mine.form h
  injection e with e _ _
  subst e
  exact h
set_option maxRecDepth 100000 in
set_option maxHeartbeats 6400000 in
theorem walk (Az : Option Addr) (nz cz : Nat) (z : List UInt8) (w : World) (hz : ArgB w Az nz cz z) :
    Calls Try.prog 4 #[.slice Az nz cz] w fun e w' => e = .returned (.bool true) ∧ Below w.heap.size w w' := by
  obtain ⟨hn, hnc, hcm, hB⟩ := hz
  have hc := hcm
  have hmx : cz ≤ maxLen := by unfold maxLen; omega
  obtain ⟨x, e0, hp⟩ : ∃ a b, parse z = (a, b) := ⟨_, _, (Prod.eta (parse z)).symm⟩
  have hxn : WNm x := by have := parse_nm z; rw [hp] at this; exact this
  have hne : (((e0 : Nat) : Int) != e0) = false := by simp
  have hs := sameB_self x
  have HM := Lib.hid (And.intro hp (And.intro hxn (And.intro hn hs)))
  have HB := Lib.hid hB
  clear hp hxn hn hB hcm hs
  go_enter Try.func4, Try.ntmps4
  go_wp2_with fail
  refine (copyBytes Az cz nz z w HB.out HM.out.2.2.1 (by omega)).mono ?_
  rintro e w1 ⟨v1, rfl, hN1⟩
  obtain ⟨A1, c1, rfl, hl1, hc1, hB1⟩ := hN1.form
  rw [HM.out.2.2.1] at hl1 ⊢
  have hM1 : Mine w1 w.heap.size 5 (.slice A1 nz c1) z := HM.out.2.2.1 ▸ hN1.1
  have H1 := Lib.hid (And.intro (HB.out.after hN1.2) (And.intro hM1 (And.intro hN1.2 hB1)))
  clear hN1 hM1 hB1
  go_wp2_with fail
  have hcp := parse_any A1 nz c1 z w1 H1.out.2.2.2 HM.out.2.2.1 hl1 hc1 (by omega)
  rw [HM.out.1] at hcp
  refine hcp.mono ?_
  clear hcp
  rintro e w2 ⟨v, rfl, hV, hb2⟩
  obtain ⟨Dx, ndx, cdx, Nx, nnx, cnx, rfl, hAW, hMx, hNx⟩ := hV.arg HM.out.2.1
  have hal : Below w2.heap.size w2 (w2.alloc (.cells #[.int .i64 x.cl, .int .i64 x.sp, .int .i64 x.gr, .int .i64 x.ep, .int .i64 x.kd, .int .i64 x.bl, .slice Dx ndx cdx, .int .i64 x.od, .int .i64 x.nw, .slice Nx nnx cnx] 25)) := (Below.refl _ _).alloc (Nat.le_refl _) _
  have hk3 : Blk (w2.alloc (.cells #[.int .i64 x.cl, .int .i64 x.sp, .int .i64 x.gr, .int .i64 x.ep, .int .i64 x.kd, .int .i64 x.bl, .slice Dx ndx cdx, .int .i64 x.od, .int .i64 x.nw, .slice Nx nnx cnx] 25)) w2.heap.size 25 [.int .i64 x.cl, .int .i64 x.sp, .int .i64 x.gr, .int .i64 x.ep, .int .i64 x.kd, .int .i64 x.bl, .slice Dx ndx cdx, .int .i64 x.od, .int .i64 x.nw, .slice Nx nnx cnx] := Blk.new rfl rfl
  obtain ⟨W3, hW3⟩ : ∃ W, (w2.alloc (.cells #[.int .i64 x.cl, .int .i64 x.sp, .int .i64 x.gr, .int .i64 x.ep, .int .i64 x.kd, .int .i64 x.bl, .slice Dx ndx cdx, .int .i64 x.od, .int .i64 x.nw, .slice Nx nnx cnx] 25)) = W := ⟨_, rfl⟩
  obtain ⟨bx, hbx⟩ : ∃ b, w2.heap.size = b := ⟨_, rfl⟩
  have hz1 : w1.heap.size ≤ bx := by rw [← hbx]; exact hb2.size
  rw [hW3] at hal hk3
  rw [hbx] at hk3
  have hb3 := hb2.trans (hal.mono hb2.size)
  have H3 := Lib.hid (And.intro (H1.out.1.after hb3) (And.intro (own_below H1.out.2.1 hb3) (And.intro (H1.out.2.2.1.trans (hb3.mono H1.out.2.2.1.size)) (And.intro hk3 (And.intro (hAW.after hal) (And.intro (Mine.after hMx hal) (own_below hNx hal)))))))
  have HW3 := Lib.hid hW3
  have Hbx := Lib.hid hbx
  clear hV hb2 hAW hMx hNx hal hk3 hW3 hbx hb3
  go_upto_region 3 with fail
  rw [HW3.out, Hbx.out]
  go_wp2_with fail
  have hcp := rparse_any Az nz cz z W3 H3.out.1 HM.out.2.2.1 hnc hmx (by omega)
  rw [HM.out.1] at hcp
  refine hcp.mono ?_
  clear hcp
  rintro e w4 ⟨v, rfl, hV, hb4⟩
  obtain ⟨Dy, ndy, cdy, Ny, nny, cny, rfl, hAW, hMy, hNy⟩ := hV.arg HM.out.2.1
  have hal : Below w4.heap.size w4 (w4.alloc (.cells #[.int .i64 x.cl, .int .i64 x.sp, .int .i64 x.gr, .int .i64 x.ep, .int .i64 x.kd, .int .i64 x.bl, .slice Dy ndy cdy, .int .i64 x.od, .int .i64 x.nw, .slice Ny nny cny] 25)) := (Below.refl _ _).alloc (Nat.le_refl _) _
  have hk5 : Blk (w4.alloc (.cells #[.int .i64 x.cl, .int .i64 x.sp, .int .i64 x.gr, .int .i64 x.ep, .int .i64 x.kd, .int .i64 x.bl, .slice Dy ndy cdy, .int .i64 x.od, .int .i64 x.nw, .slice Ny nny cny] 25)) w4.heap.size 25 [.int .i64 x.cl, .int .i64 x.sp, .int .i64 x.gr, .int .i64 x.ep, .int .i64 x.kd, .int .i64 x.bl, .slice Dy ndy cdy, .int .i64 x.od, .int .i64 x.nw, .slice Ny nny cny] := Blk.new rfl rfl
  obtain ⟨W5, hW5⟩ : ∃ W, (w4.alloc (.cells #[.int .i64 x.cl, .int .i64 x.sp, .int .i64 x.gr, .int .i64 x.ep, .int .i64 x.kd, .int .i64 x.bl, .slice Dy ndy cdy, .int .i64 x.od, .int .i64 x.nw, .slice Ny nny cny] 25)) = W := ⟨_, rfl⟩
  obtain ⟨by_, hby⟩ : ∃ b, w4.heap.size = b := ⟨_, rfl⟩
  have hz2 : W3.heap.size ≤ by_ := by rw [← hby]; exact hb4.size
  rw [hW5] at hal hk5
  rw [hby] at hk5
  have hb5 := hb4.trans (hal.mono hb4.size)
  have hkx := H3.out.2.2.2.1.below hb5 H3.out.2.2.2.1.lt
  have hxW3 : bx < W3.heap.size := H3.out.2.2.2.1.lt
  have k0 : W5.cell? ⟨bx, 0, none⟩ = some (.int .i64 x.cl) := (hkx).cell rfl
  have k1 : W5.cell? ⟨bx, 1, none⟩ = some (.int .i64 x.sp) := (hkx).cell rfl
  have k2 : W5.cell? ⟨bx, 2, none⟩ = some (.int .i64 x.gr) := (hkx).cell rfl
  have k3 : W5.cell? ⟨bx, 3, none⟩ = some (.int .i64 x.ep) := (hkx).cell rfl
  have k4 : W5.cell? ⟨bx, 4, none⟩ = some (.int .i64 x.kd) := (hkx).cell rfl
  have k5 : W5.cell? ⟨bx, 5, none⟩ = some (.int .i64 x.bl) := (hkx).cell rfl
  have k6 : W5.cell? ⟨bx, 6, none⟩ = some (.slice Dx ndx cdx) := (hkx).cell rfl
  have k7 : W5.cell? ⟨bx, 7, none⟩ = some (.int .i64 x.od) := (hkx).cell rfl
  have k8 : W5.cell? ⟨bx, 8, none⟩ = some (.int .i64 x.nw) := (hkx).cell rfl
  have k9 : W5.cell? ⟨bx, 9, none⟩ = some (.slice Nx nnx cnx) := (hkx).cell rfl
  have j0 : W5.cell? ⟨by_, 0, none⟩ = some (.int .i64 x.cl) := (hk5).cell rfl
  have j1 : W5.cell? ⟨by_, 1, none⟩ = some (.int .i64 x.sp) := (hk5).cell rfl
  have j2 : W5.cell? ⟨by_, 2, none⟩ = some (.int .i64 x.gr) := (hk5).cell rfl
  have j3 : W5.cell? ⟨by_, 3, none⟩ = some (.int .i64 x.ep) := (hk5).cell rfl
  have j4 : W5.cell? ⟨by_, 4, none⟩ = some (.int .i64 x.kd) := (hk5).cell rfl
  have j5 : W5.cell? ⟨by_, 5, none⟩ = some (.int .i64 x.bl) := (hk5).cell rfl
  have j6 : W5.cell? ⟨by_, 6, none⟩ = some (.slice Dy ndy cdy) := (hk5).cell rfl
  have j7 : W5.cell? ⟨by_, 7, none⟩ = some (.int .i64 x.od) := (hk5).cell rfl
  have j8 : W5.cell? ⟨by_, 8, none⟩ = some (.int .i64 x.nw) := (hk5).cell rfl
  have j9 : W5.cell? ⟨by_, 9, none⟩ = some (.slice Ny nny cny) := (hk5).cell rfl
  have H5 := Lib.hid (And.intro (H3.out.1.after hb5) (And.intro (own_below H3.out.2.1 hb5) (And.intro (H3.out.2.2.1.trans (hb5.mono H3.out.2.2.1.size)) (And.intro hkx (And.intro (H3.out.2.2.2.2.1.after hb5) (And.intro (Mine.after H3.out.2.2.2.2.2.1 hb5) (And.intro (own_below H3.out.2.2.2.2.2.2 hb5) (And.intro hk5 (And.intro (hAW.after hal) (And.intro (Mine.after hMy hal) (own_below hNy hal)))))))))))
  have HW5 := Lib.hid hW5
  have Hby := Lib.hid hby
  clear hV hb4 hAW hMy hNy hal hk5 hW5 hby hb5 hkx
  go_upto_region 4 with fail
  rw [HW5.out, Hby.out]
  go_wp2_with fail
  have hcs := rsame_any x Dx ndx cdx Nx nnx cnx x Dy ndy cdy Ny nny cny W5 H5.out.2.2.2.2.1 H5.out.2.2.2.2.2.2.2.2.1
  rw [HM.out.2.2.2] at hcs
  refine hcs.mono ?_
  clear hcs
  rintro e w6 ⟨rfl, hb6⟩
  have H6 := Lib.hid (And.intro (H5.out.1.after hb6) (And.intro (own_below H5.out.2.1 hb6) (And.intro (H5.out.2.2.1.trans (hb6.mono H5.out.2.2.1.size)) (And.intro (H5.out.2.2.2.1.below hb6 H5.out.2.2.2.1.lt) (And.intro (H5.out.2.2.2.2.1.after hb6) (And.intro (Mine.after H5.out.2.2.2.2.2.1 hb6) (And.intro (own_below H5.out.2.2.2.2.2.2.1 hb6) (And.intro (H5.out.2.2.2.2.2.2.2.1.below hb6 H5.out.2.2.2.2.2.2.2.1.lt) (And.intro (H5.out.2.2.2.2.2.2.2.2.1.after hb6) (And.intro (Mine.after H5.out.2.2.2.2.2.2.2.2.2.1 hb6) (own_below H5.out.2.2.2.2.2.2.2.2.2.2 hb6)))))))))))
  clear hb6
  go_wp2_with fail
  have hBin := mine_bs H6.out.2.1
  have hcs := eqBytes A1 Az c1 cz nz nz z z w6 hBin H6.out.1 HM.out.2.2.1 HM.out.2.2.1 (by unfold maxLen; omega) (by unfold maxLen; omega)
  rw [show (z == z) = true by simp] at hcs
  refine hcs.mono ?_
  clear hcs hBin
  rintro e w7 ⟨rfl, hb7⟩
  have hown0 : w7.ownsRow w.heap.size 5 1 (.slice A1 nz c1) nz (cbs z) := by have h := own_below H6.out.2.1 hb7; rw [HM.out.2.2.1] at h; exact h
  have H7 := Lib.hid (And.intro hown0 (And.intro (H6.out.2.2.1.trans (hb7.mono H6.out.2.2.1.size)) (And.intro (H6.out.2.2.2.1.below hb7 H6.out.2.2.2.1.lt) (And.intro (H6.out.2.2.2.2.1.after hb7) (And.intro (Mine.after H6.out.2.2.2.2.2.1 hb7) (And.intro (own_below H6.out.2.2.2.2.2.2.1 hb7) (And.intro (H6.out.2.2.2.2.2.2.2.1.below hb7 H6.out.2.2.2.2.2.2.2.1.lt) (And.intro (H6.out.2.2.2.2.2.2.2.2.1.after hb7) (And.intro (Mine.after H6.out.2.2.2.2.2.2.2.2.2.1 hb7) (own_below H6.out.2.2.2.2.2.2.2.2.2.2 hb7))))))))))
  have hin : ∀ i, (Value.slice A1 nz c1).ownBlock = some i → i < w1.heap.size := fun i hi => (World.ownsRow.lt H1.out.2.1 i hi).2
  have Hin := Lib.hid hin
  clear hb7 hown0 hin
  unfold maxLen at hmx
  go_wp2
  go_loopw [8] (fun i wr => ∃ k : Nat, k ≤ nz ∧ i = .int .i64 k ∧ (∃ ys : List UInt8, ys.length = nz ∧ wr.ownsRow w.heap.size 5 1 (.slice A1 nz c1) nz (cbs ys)) ∧ w7.grownBy wr (Value.slice A1 nz c1).ownBlock) (fun i _ => nz - (intOf i).toNat)
  case atStart => exact ⟨0, Nat.zero_le _, rfl, ⟨z, HM.out.2.2.1, H7.out.1⟩, World.grownBy.refl _ _⟩
  case round =>
    obtain ⟨k, hk, rfl, ⟨ys, hy, hown⟩, hnx⟩ := hrel
    by_cases hlt : k < nz
    · obtain ⟨g, cap, hv, hg, hgl⟩ := hown.form (by omega)
      simp only [Value.slice.injEq] at hv
      obtain ⟨rfl, _, rfl⟩ := hv
      have hc := Mine.cell hown (j := k) (by omega)
      have hf := hown.frozenAt k
      have Hy := Lib.hid hy
      have hy8 := ys[k].toNat_lt
      generalize hold : ys[k] = old at *
      clear hy hold
      go_wp2
      go_roundw
      case rel =>
        refine ⟨k + 1, by omega, by go_num, ⟨ys.set k (old + 1), by rw [List.length_set]; exact Hy.out, Mine.set_ hown k (old + 1) _ ?_⟩, put_only (g := g) (p := ⟨g, k, none⟩) hnx (.inl rfl) _⟩
        unfold cb
        rw [UInt8.toNat_add]
        simp
      case measure => simp [intOf]; omega
    · have hlt' : ¬ (k : Int) < nz := by omega
      have hO := grown_out hnx
      have hAx := argW_out H7.out.2.2.2.2.1 H7.out.2.2.2.2.2.1 H7.out.2.2.2.1 hO (fun i e => Hin.out i e)
      have hAy := argW_out H7.out.2.2.2.2.2.2.2.2.1 H7.out.2.2.2.2.2.2.2.2.2 H7.out.2.2.2.2.2.2.2.1 hO (fun i e => by have := Hin.out i e; omega)
      have hBx := hO.blk H7.out.2.2.1 (fun e => by have := Hin.out _ e; omega)
      have hBy := hO.blk H7.out.2.2.2.2.2.2.1 (fun e => by have := Hin.out _ e; omega)
      have hbw : Below w.heap.size w wr := H7.out.2.1.trans (hO.above (B := w.heap.size) (fun i e => (World.ownsRow.lt H7.out.1 i e).1) H7.out.2.1.size)
      have p0 : wr.cell? ⟨bx, 0, none⟩ = some (.int .i64 x.cl) := (hBx).cell rfl
      have p1 : wr.cell? ⟨bx, 1, none⟩ = some (.int .i64 x.sp) := (hBx).cell rfl
      have p2 : wr.cell? ⟨bx, 2, none⟩ = some (.int .i64 x.gr) := (hBx).cell rfl
      have p3 : wr.cell? ⟨bx, 3, none⟩ = some (.int .i64 x.ep) := (hBx).cell rfl
      have p4 : wr.cell? ⟨bx, 4, none⟩ = some (.int .i64 x.kd) := (hBx).cell rfl
      have p5 : wr.cell? ⟨bx, 5, none⟩ = some (.int .i64 x.bl) := (hBx).cell rfl
      have p6 : wr.cell? ⟨bx, 6, none⟩ = some (.slice Dx ndx cdx) := (hBx).cell rfl
      have p7 : wr.cell? ⟨bx, 7, none⟩ = some (.int .i64 x.od) := (hBx).cell rfl
      have p8 : wr.cell? ⟨bx, 8, none⟩ = some (.int .i64 x.nw) := (hBx).cell rfl
      have p9 : wr.cell? ⟨bx, 9, none⟩ = some (.slice Nx nnx cnx) := (hBx).cell rfl
      have q0 : wr.cell? ⟨by_, 0, none⟩ = some (.int .i64 x.cl) := (hBy).cell rfl
      have q1 : wr.cell? ⟨by_, 1, none⟩ = some (.int .i64 x.sp) := (hBy).cell rfl
      have q2 : wr.cell? ⟨by_, 2, none⟩ = some (.int .i64 x.gr) := (hBy).cell rfl
      have q3 : wr.cell? ⟨by_, 3, none⟩ = some (.int .i64 x.ep) := (hBy).cell rfl
      have q4 : wr.cell? ⟨by_, 4, none⟩ = some (.int .i64 x.kd) := (hBy).cell rfl
      have q5 : wr.cell? ⟨by_, 5, none⟩ = some (.int .i64 x.bl) := (hBy).cell rfl
      have q6 : wr.cell? ⟨by_, 6, none⟩ = some (.slice Dy ndy cdy) := (hBy).cell rfl
      have q7 : wr.cell? ⟨by_, 7, none⟩ = some (.int .i64 x.od) := (hBy).cell rfl
      have q8 : wr.cell? ⟨by_, 8, none⟩ = some (.int .i64 x.nw) := (hBy).cell rfl
      have q9 : wr.cell? ⟨by_, 9, none⟩ = some (.slice Ny nny cny) := (hBy).cell rfl
      have H8 := Lib.hid (And.intro hAx (And.intro hAy hbw))
      clear hO hAx hAy hBx hBy hbw hnx hown hy
      go_wp2_with fail
      have hcs := rsame_any x Dx ndx cdx Nx nnx cnx x Dy ndy cdy Ny nny cny wr H8.out.1 H8.out.2.1
      rw [HM.out.2.2.2] at hcs
      refine hcs.mono ?_
      clear hcs
      rintro e w9 ⟨rfl, hb9⟩
      have H9 := Lib.hid (H8.out.2.2.trans (hb9.mono H8.out.2.2.size))
      clear hb9
      go_wp2_with fail
      refine (works11_any _).mono ?_
      rintro e w10 ⟨rfl, hb10⟩
      have H10 := Lib.hid (H9.out.trans (hb10.mono H9.out.size))
      clear hb10
      go_wp2
      go_ret
      exact ⟨rfl, H10.out⟩

end Go.Proofs.Ytihmddpafbackaa.wishParse
