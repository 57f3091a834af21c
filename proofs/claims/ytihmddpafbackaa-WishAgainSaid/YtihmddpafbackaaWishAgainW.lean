/-
  For all bytes: a wish that is read of them is written so; where nothing is read the answer is no wish; WishAgain returns true; no condition.
-/
import Derived.Test.YtihmddpafbackaaZ09
import Derived.Test.YtihmddpafbackaaZ10
import Derived.Test.YtihmddpafbackaaZ11
import Derived.Deep.DeepCutAuto
namespace Go.Proofs.Ytihmddpafbackaa.wishAgain
open Go.ChangeShapes Go.WideShapes Go.ChangeAt Go.RowKit
set_option linter.unusedVariables false

set_option maxRecDepth 100000 in
set_option maxHeartbeats 6400000 in
theorem walk (Az : Option Addr) (nz cz : Nat) (z : List UInt8) (w : World) (hz : ArgB w Az nz cz z) :
    Calls Try.prog 8 #[.slice Az nz cz] w fun e w' => e = .returned (.bool true) ∧ Below w.heap.size w w' := by
  obtain ⟨hn, hnc, hcm, hB⟩ := hz
  have hc := hcm
  have hmx : cz ≤ maxLen := by unfold maxLen; omega
  obtain ⟨x, e0, hp⟩ : ∃ a b, parse z = (a, b) := ⟨_, _, (Prod.eta (parse z)).symm⟩
  have hxn : WNm x := by have := parse_nm z; rw [hp] at this; exact this
  by_cases he : e0 = 0
  · subst he
    obtain ⟨hm, hwb⟩ := parse_back hp
    have hby : wbytes x = (z, 0) := by unfold wbytes; rw [if_pos hm, hwb]
    have hck : chk x = 0 := by unfold chk; rw [if_pos hm]
    have HM := Lib.hid (And.intro hp (And.intro hxn (And.intro hby (And.intro hck hn))))
    have HB := Lib.hid hB
    clear hp hxn hm hwb hby hck hn hB hcm
    go_enter Try.func8, Try.ntmps8
    go_wp2_with fail
    refine (works11_any _).mono ?_
    rintro e w1 ⟨rfl, hb1⟩
    have H1 := Lib.hid (And.intro (HB.out.after hb1) hb1)
    clear hb1
    go_wp2_with fail
    have hc := parse_any Az nz cz z w1 H1.out.1 HM.out.2.2.2.2 hnc hmx (by omega)
    rw [HM.out.1] at hc
    refine hc.mono ?_
    clear hc
    rintro e w2 ⟨v, rfl, hV, hb2⟩
    obtain ⟨Dy, ndy, cdy, Ny, nny, cny, rfl, hAW, _, _⟩ := hV.arg HM.out.2.1
    have hal : Below w2.heap.size w2 (w2.alloc (.cells #[.int .i64 x.cl, .int .i64 x.sp, .int .i64 x.gr, .int .i64 x.ep, .int .i64 x.kd, .int .i64 x.bl, .slice Dy ndy cdy, .int .i64 x.od, .int .i64 x.nw, .slice Ny nny cny] 25)) := (Below.refl _ _).alloc (Nat.le_refl _) _
    have hk3 : Blk (w2.alloc (.cells #[.int .i64 x.cl, .int .i64 x.sp, .int .i64 x.gr, .int .i64 x.ep, .int .i64 x.kd, .int .i64 x.bl, .slice Dy ndy cdy, .int .i64 x.od, .int .i64 x.nw, .slice Ny nny cny] 25)) w2.heap.size 25 [.int .i64 x.cl, .int .i64 x.sp, .int .i64 x.gr, .int .i64 x.ep, .int .i64 x.kd, .int .i64 x.bl, .slice Dy ndy cdy, .int .i64 x.od, .int .i64 x.nw, .slice Ny nny cny] := Blk.new rfl rfl
    obtain ⟨W3, hW3⟩ : ∃ W, (w2.alloc (.cells #[.int .i64 x.cl, .int .i64 x.sp, .int .i64 x.gr, .int .i64 x.ep, .int .i64 x.kd, .int .i64 x.bl, .slice Dy ndy cdy, .int .i64 x.od, .int .i64 x.nw, .slice Ny nny cny] 25)) = W := ⟨_, rfl⟩
    obtain ⟨bx, hbx⟩ : ∃ b, w2.heap.size = b := ⟨_, rfl⟩
    rw [hW3] at hal hk3
    rw [hbx] at hk3
    have hb3' := hb2.trans (hal.mono hb2.size)
    have j0 : W3.cell? ⟨bx, 0, none⟩ = some (.int .i64 x.cl) := (hk3).cell rfl
    have j1 : W3.cell? ⟨bx, 1, none⟩ = some (.int .i64 x.sp) := (hk3).cell rfl
    have j2 : W3.cell? ⟨bx, 2, none⟩ = some (.int .i64 x.gr) := (hk3).cell rfl
    have j3 : W3.cell? ⟨bx, 3, none⟩ = some (.int .i64 x.ep) := (hk3).cell rfl
    have j4 : W3.cell? ⟨bx, 4, none⟩ = some (.int .i64 x.kd) := (hk3).cell rfl
    have j5 : W3.cell? ⟨bx, 5, none⟩ = some (.int .i64 x.bl) := (hk3).cell rfl
    have j6 : W3.cell? ⟨bx, 6, none⟩ = some (.slice Dy ndy cdy) := (hk3).cell rfl
    have j7 : W3.cell? ⟨bx, 7, none⟩ = some (.int .i64 x.od) := (hk3).cell rfl
    have j8 : W3.cell? ⟨bx, 8, none⟩ = some (.int .i64 x.nw) := (hk3).cell rfl
    have j9 : W3.cell? ⟨bx, 9, none⟩ = some (.slice Ny nny cny) := (hk3).cell rfl
    have H3 := Lib.hid (And.intro (H1.out.1.after hb3') (And.intro (hAW.after hal) (And.intro hk3 (H1.out.2.trans (hb3'.mono H1.out.2.size)))))
    have HW := Lib.hid hW3
    have Hbx := Lib.hid hbx
    clear hV hAW hal hk3 hW3 hbx hb2 hb3'
    go_upto_region 4 with fail
    rw [HW.out, Hbx.out]
    go_wp2_with fail
    have hc := bytes_wish x Dy ndy cdy Ny nny cny W3 H3.out.2.1
    rw [HM.out.2.2.1] at hc
    refine hc.mono ?_
    clear hc
    rintro e w4 ⟨v4, rfl, hN4⟩
    obtain ⟨A4, c4, rfl, hl4, hc4, hB4⟩ := hN4.form
    simp only at hl4 hB4 ⊢
    rw [HM.out.2.2.2.2] at hl4
    rw [HM.out.2.2.2.2]
    have hb4 := hN4.2
    have H4 := Lib.hid (And.intro hB4 (And.intro (H3.out.1.after hb4) (And.intro (H3.out.2.1.after hb4) (And.intro (H3.out.2.2.1.below hb4 H3.out.2.2.1.lt) (H3.out.2.2.2.trans (hb4.mono H3.out.2.2.2.size))))))
    clear hN4 hB4 hb4
    go_wp2_with fail
    refine (eqBytes A4 Az c4 cz nz nz z z w4 H4.out.1 H4.out.2.1 HM.out.2.2.2.2 HM.out.2.2.2.2 (by unfold maxLen; omega) (by unfold maxLen; omega)).mono ?_
    rintro e w5 ⟨rfl, hb5⟩
    have hself : (z == z) = true := by simp
    have hk5 := H4.out.2.2.2.1.below hb5 H4.out.2.2.2.1.lt
    have j0 : w5.cell? ⟨bx, 0, none⟩ = some (.int .i64 x.cl) := (hk5).cell rfl
    have j1 : w5.cell? ⟨bx, 1, none⟩ = some (.int .i64 x.sp) := (hk5).cell rfl
    have j2 : w5.cell? ⟨bx, 2, none⟩ = some (.int .i64 x.gr) := (hk5).cell rfl
    have j3 : w5.cell? ⟨bx, 3, none⟩ = some (.int .i64 x.ep) := (hk5).cell rfl
    have j4 : w5.cell? ⟨bx, 4, none⟩ = some (.int .i64 x.kd) := (hk5).cell rfl
    have j5 : w5.cell? ⟨bx, 5, none⟩ = some (.int .i64 x.bl) := (hk5).cell rfl
    have j6 : w5.cell? ⟨bx, 6, none⟩ = some (.slice Dy ndy cdy) := (hk5).cell rfl
    have j7 : w5.cell? ⟨bx, 7, none⟩ = some (.int .i64 x.od) := (hk5).cell rfl
    have j8 : w5.cell? ⟨bx, 8, none⟩ = some (.int .i64 x.nw) := (hk5).cell rfl
    have j9 : w5.cell? ⟨bx, 9, none⟩ = some (.slice Ny nny cny) := (hk5).cell rfl
    have H5 := Lib.hid (And.intro (H4.out.2.2.1.after hb5) (H4.out.2.2.2.2.trans (hb5.mono H4.out.2.2.2.2.size)))
    clear hb5 hk5
    go_wp2_with fail
    have hc := check_any x Dy ndy cdy Ny nny cny w5 H5.out.1
    rw [HM.out.2.2.2.1] at hc
    refine hc.mono ?_
    clear hc
    rintro e w6 ⟨rfl, hb6⟩
    have Hb6 := Lib.hid hb6
    clear hb6
    go_wp2
    go_ret
    exact ⟨rfl, H5.out.2.trans (Hb6.out.mono H5.out.2.size)⟩
  · have hx0 : x = W0 := by have := parse_bad (l := z) (by rw [hp]; exact he); rw [hp] at this; exact this
    subst hx0
    have hee : ((e0 : Int) != 0) = true := by simp [he]
    have HM := Lib.hid (And.intro hp (And.intro hxn hn))
    have HB := Lib.hid hB
    clear hp hxn hn hB hcm he
    go_enter Try.func8, Try.ntmps8
    go_wp2_with fail
    refine (works11_any _).mono ?_
    rintro e w1 ⟨rfl, hb1⟩
    have H1 := Lib.hid (And.intro (HB.out.after hb1) hb1)
    clear hb1
    go_wp2_with fail
    have hc := parse_any Az nz cz z w1 H1.out.1 HM.out.2.2 hnc hmx (by omega)
    rw [HM.out.1] at hc
    refine hc.mono ?_
    clear hc
    rintro e w2 ⟨v, rfl, hV, hb2⟩
    obtain ⟨Dy, ndy, cdy, Ny, nny, cny, rfl, hAW, _, _⟩ := hV.arg HM.out.2.1
    have hal : Below w2.heap.size w2 (w2.alloc (.cells #[.int .i64 W0.cl, .int .i64 W0.sp, .int .i64 W0.gr, .int .i64 W0.ep, .int .i64 W0.kd, .int .i64 W0.bl, .slice Dy ndy cdy, .int .i64 W0.od, .int .i64 W0.nw, .slice Ny nny cny] 25)) := (Below.refl _ _).alloc (Nat.le_refl _) _
    have hb3' := hb2.trans (hal.mono hb2.size)
    have H3 := Lib.hid (And.intro (hAW.after hal) (H1.out.2.trans (hb3'.mono H1.out.2.size)))
    clear hV hAW hal hb2 hb3'
    go_wp2_with (first
      | (refine wpList_build_g (by rfl) 25 _ rfl ([.int .i64 W0.cl, .int .i64 W0.sp, .int .i64 W0.gr, .int .i64 W0.ep, .int .i64 W0.kd, .int .i64 W0.bl, .slice none 0 0, .int .i64 W0.od, .int .i64 W0.nw, .slice none 0 0] : List Value).toArray built0 ?_; simp only [Act.put])
      | (go_at_call 19; refine (rsame_any W0 Dy ndy cdy Ny nny cny W0 none 0 0 none 0 0 _ H3.out.1 (arg_zero _)).mono ?_; rw [sameB_self]; rintro e w4 ⟨rfl, hb4⟩; have Hb4 := Lib.hid hb4; clear hb4))
    go_ret
    exact ⟨rfl, H3.out.2.trans (Hb4.out.mono H3.out.2.size)⟩

end Go.Proofs.Ytihmddpafbackaa.wishAgain
