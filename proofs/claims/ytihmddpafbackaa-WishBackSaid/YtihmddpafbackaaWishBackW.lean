/-
  For every wish: what Bytes writes is read as it was, in fewer than 128 bytes, and one that may not be is told by ErrArg; WishBack returns true; no condition.
-/
import Derived.Test.YtihmddpafbackaaZ09
import Derived.Test.YtihmddpafbackaaZ10
import Derived.Deep.DeepCutAuto
namespace Go.Proofs.Ytihmddpafbackaa.wishBack
open Go.ChangeShapes Go.WideShapes Go.ChangeAt Go.RowKit
set_option linter.unusedVariables false

set_option maxRecDepth 100000 in
set_option maxHeartbeats 6400000 in
theorem walk (x : Wl) (Dx : Option Addr) (ndx cdx : Nat) (Nx : Option Addr) (nnx cnx : Nat) (w : World) (hx : ArgW w x Dx ndx cdx Nx nnx cnx) :
    Calls Try.prog 7 #[.agg #[.int .i64 x.cl, .int .i64 x.sp, .int .i64 x.gr, .int .i64 x.ep, .int .i64 x.kd, .int .i64 x.bl, .slice Dx ndx cdx, .int .i64 x.od, .int .i64 x.nw, .slice Nx nnx cnx]] w fun e w' => e = .returned (.bool true) ∧ Below w.heap.size w w' := by
  have hx0 := Wx.new (w := w) (x := x) (D := Dx) (nd := ndx) (cd := cdx) (N := Nx) (nn := nnx) (cn := cnx)
  have H := Lib.hid (And.intro hx0 (hx.after hx0.bel))
  clear hx hx0
  by_cases hm : May x
  · have hwb : wbytes x = (wb x, 0) := by unfold wbytes; rw [if_pos hm]
    have hpp := parse_wb hm
    have hlen := (wb_len hm).2
    have hxn : WNm x := by have := parse_nm (wb x); rw [hpp] at this; exact this
    obtain ⟨l, hl⟩ : ∃ l, wb x = l := ⟨_, rfl⟩
    obtain ⟨n, hn⟩ : ∃ n, l.length = n := ⟨_, rfl⟩
    rw [hl] at hwb hpp hlen
    rw [hn] at hlen
    have HM := Lib.hid (And.intro hwb (And.intro hpp (And.intro hxn (And.intro hn (sameB_self x)))))
    clear hwb hpp hxn hl hn hm
    go_enter Try.func7, Try.ntmps7
    go_wp2_with fail
    refine (works11_any _).mono ?_
    rintro e w1 ⟨rfl, hb1⟩
    have hx1 := H.out.1.on hb1
    obtain ⟨⟨k0, k1, k2, k3, k4⟩, k5, k6, k7, k8, k9⟩ := hx1.ks
    have H1 := Lib.hid (And.intro hx1 (H.out.2.after hb1))
    clear hx1 hb1
    go_wp2_with fail
    have hc := bytes_wish x Dx ndx cdx Nx nnx cnx w1 H1.out.2
    rw [HM.out.1] at hc
    refine hc.mono ?_
    clear hc
    rintro e w2 ⟨v2, rfl, hN2⟩
    obtain ⟨A2, c2, rfl, hl2, hc2, hB2⟩ := hN2.form
    simp only at hl2 hB2 ⊢
    rw [HM.out.2.2.2.1] at hl2
    rw [HM.out.2.2.2.1]
    have H2 := Lib.hid (And.intro (H1.out.1.on hN2.2) (And.intro (H1.out.2.after hN2.2) hB2))
    clear hN2 hB2
    go_wp2_with fail
    have hc := parse_any A2 n c2 l w2 H2.out.2.2 HM.out.2.2.2.1 hl2 hc2 (by omega)
    rw [HM.out.2.1] at hc
    refine hc.mono ?_
    clear hc
    rintro e w3 ⟨v, rfl, hV, hb3⟩
    obtain ⟨Dy, ndy, cdy, Ny, nny, cny, rfl, hAW, _, _⟩ := hV.arg HM.out.2.2.1
    have hal : Below w3.heap.size w3 (w3.alloc (.cells #[.int .i64 x.cl, .int .i64 x.sp, .int .i64 x.gr, .int .i64 x.ep, .int .i64 x.kd, .int .i64 x.bl, .slice Dy ndy cdy, .int .i64 x.od, .int .i64 x.nw, .slice Ny nny cny] 25)) := (Below.refl _ _).alloc (Nat.le_refl _) _
    have hk3 : Blk (w3.alloc (.cells #[.int .i64 x.cl, .int .i64 x.sp, .int .i64 x.gr, .int .i64 x.ep, .int .i64 x.kd, .int .i64 x.bl, .slice Dy ndy cdy, .int .i64 x.od, .int .i64 x.nw, .slice Ny nny cny] 25)) w3.heap.size 25 [.int .i64 x.cl, .int .i64 x.sp, .int .i64 x.gr, .int .i64 x.ep, .int .i64 x.kd, .int .i64 x.bl, .slice Dy ndy cdy, .int .i64 x.od, .int .i64 x.nw, .slice Ny nny cny] := Blk.new rfl rfl
    obtain ⟨W3, hW3⟩ : ∃ W, (w3.alloc (.cells #[.int .i64 x.cl, .int .i64 x.sp, .int .i64 x.gr, .int .i64 x.ep, .int .i64 x.kd, .int .i64 x.bl, .slice Dy ndy cdy, .int .i64 x.od, .int .i64 x.nw, .slice Ny nny cny] 25)) = W := ⟨_, rfl⟩
    obtain ⟨bx, hbx⟩ : ∃ b, w3.heap.size = b := ⟨_, rfl⟩
    rw [hW3] at hal hk3
    rw [hbx] at hk3
    have hb3' := hb3.trans (hal.mono hb3.size)
    have hx3 := H2.out.1.on hb3'
    obtain ⟨⟨k0, k1, k2, k3, k4⟩, k5, k6, k7, k8, k9⟩ := hx3.ks
    have j0 : W3.cell? ⟨bx, 0, none⟩ = some (.int .i64 x.cl) := hk3.cell rfl
    have j1 : W3.cell? ⟨bx, 1, none⟩ = some (.int .i64 x.sp) := hk3.cell rfl
    have j2 : W3.cell? ⟨bx, 2, none⟩ = some (.int .i64 x.gr) := hk3.cell rfl
    have j3 : W3.cell? ⟨bx, 3, none⟩ = some (.int .i64 x.ep) := hk3.cell rfl
    have j4 : W3.cell? ⟨bx, 4, none⟩ = some (.int .i64 x.kd) := hk3.cell rfl
    have j5 : W3.cell? ⟨bx, 5, none⟩ = some (.int .i64 x.bl) := hk3.cell rfl
    have j6 : W3.cell? ⟨bx, 6, none⟩ = some (.slice Dy ndy cdy) := hk3.cell rfl
    have j7 : W3.cell? ⟨bx, 7, none⟩ = some (.int .i64 x.od) := hk3.cell rfl
    have j8 : W3.cell? ⟨bx, 8, none⟩ = some (.int .i64 x.nw) := hk3.cell rfl
    have j9 : W3.cell? ⟨bx, 9, none⟩ = some (.slice Ny nny cny) := hk3.cell rfl
    have H3 := Lib.hid (And.intro hx3 (And.intro (H2.out.2.1.after hb3') (And.intro (hAW.after hal) hk3)))
    have HW := Lib.hid hW3
    have Hbx := Lib.hid hbx
    clear hV hAW hal hk3 hW3 hbx hb3 hb3' hx3
    go_upto_region 7 with fail
    rw [HW.out, Hbx.out]
    go_wp2_with fail
    have hc := rsame_any x Dy ndy cdy Ny nny cny x Dx ndx cdx Nx nnx cnx W3 H3.out.2.2.1 H3.out.2.1
    rw [HM.out.2.2.2.2] at hc
    refine hc.mono ?_
    clear hc
    rintro e w4 ⟨rfl, hb4⟩
    have hx4 := H3.out.1.on hb4
    have hk4 := H3.out.2.2.2.below hb4 H3.out.2.2.2.lt
    obtain ⟨⟨k0, k1, k2, k3, k4⟩, k5, k6, k7, k8, k9⟩ := hx4.ks
    have j0 : w4.cell? ⟨bx, 0, none⟩ = some (.int .i64 x.cl) := hk4.cell rfl
    have j1 : w4.cell? ⟨bx, 1, none⟩ = some (.int .i64 x.sp) := hk4.cell rfl
    have j2 : w4.cell? ⟨bx, 2, none⟩ = some (.int .i64 x.gr) := hk4.cell rfl
    have j3 : w4.cell? ⟨bx, 3, none⟩ = some (.int .i64 x.ep) := hk4.cell rfl
    have j4 : w4.cell? ⟨bx, 4, none⟩ = some (.int .i64 x.kd) := hk4.cell rfl
    have j5 : w4.cell? ⟨bx, 5, none⟩ = some (.int .i64 x.bl) := hk4.cell rfl
    have j6 : w4.cell? ⟨bx, 6, none⟩ = some (.slice Dy ndy cdy) := hk4.cell rfl
    have j7 : w4.cell? ⟨bx, 7, none⟩ = some (.int .i64 x.od) := hk4.cell rfl
    have j8 : w4.cell? ⟨bx, 8, none⟩ = some (.int .i64 x.nw) := hk4.cell rfl
    have j9 : w4.cell? ⟨bx, 9, none⟩ = some (.slice Ny nny cny) := hk4.cell rfl
    have H4 := Lib.hid (And.intro (H3.out.2.2.1.after hb4) (And.intro (H3.out.2.1.after hb4) hx4.bel))
    clear hb4 hx4 hk4
    go_wp2_with fail
    have hc := same_any x Dy ndy cdy Ny nny cny x Dx ndx cdx Nx nnx cnx w4 H4.out.1 H4.out.2.1
    rw [HM.out.2.2.2.2] at hc
    refine hc.mono ?_
    clear hc
    rintro e w5 ⟨rfl, hb5⟩
    have Hb5 := Lib.hid hb5
    clear hb5
    have hlt : decide (n < 128) = true := by simpa using hlen
    go_wp2
    go_ret
    exact ⟨ret_bool (decide_eq_true (by omega)), H4.out.2.2.trans (Hb5.out.mono H4.out.2.2.size)⟩
  · have hwb : wbytes x = ([], 2) := by unfold wbytes; rw [if_neg hm]
    have hck : chk x = 2 := by unfold chk; rw [if_neg hm]
    have HM := Lib.hid (And.intro hwb hck)
    clear hwb hck hm
    go_enter Try.func7, Try.ntmps7
    go_wp2_with fail
    refine (works11_any _).mono ?_
    rintro e w1 ⟨rfl, hb1⟩
    have hx1 := H.out.1.on hb1
    obtain ⟨⟨k0, k1, k2, k3, k4⟩, k5, k6, k7, k8, k9⟩ := hx1.ks
    have H1 := Lib.hid (And.intro hx1 (H.out.2.after hb1))
    clear hx1 hb1
    go_wp2_with fail
    have hc := bytes_wish x Dx ndx cdx Nx nnx cnx w1 H1.out.2
    rw [HM.out.1] at hc
    refine hc.mono ?_
    clear hc
    rintro e w2 ⟨v2, rfl, hN2⟩
    obtain ⟨A2, c2, rfl, hl2, hc2, hB2⟩ := hN2.form
    simp only [List.length_nil] at hl2 ⊢
    have hx2 := H1.out.1.on hN2.2
    obtain ⟨⟨k0, k1, k2, k3, k4⟩, k5, k6, k7, k8, k9⟩ := hx2.ks
    have H2 := Lib.hid (And.intro hx2 (H1.out.2.after hN2.2))
    clear hN2 hB2 hx2
    go_wp2_with fail
    have hc := check_any x Dx ndx cdx Nx nnx cnx w2 H2.out.2
    rw [HM.out.2] at hc
    refine hc.mono ?_
    clear hc
    rintro e w3 ⟨rfl, hb3⟩
    have Hb3 := Lib.hid (H2.out.1.on hb3).bel
    clear hb3
    go_wp2
    go_ret
    exact ⟨rfl, Hb3.out⟩

end Go.Proofs.Ytihmddpafbackaa.wishBack
