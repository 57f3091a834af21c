/-
  Laid together for a hand-in: Sn11, Wk11, Wa11, Al11, We11.
-/
import Derived.Test.YtihmddpafbackaaGreatZ15
import Derived.Test.YtihmddpafbackaaGreatZ14
import Derived.Test.YtihmddpafbackaaGreatZ13
import Derived.ProofKit
import Derived.OpenShut
import Derived.ShutString
import Derived.ChangeOld
import Derived.SizedLaws
import Derived.Deep.Slices
import Derived.Deep.RegionWith

namespace Go.Proofs.YtihmddpafbackaaGreat

open Go.RowKit

set_option linter.unusedVariables false

set_option linter.unusedSimpArgs false

set_option maxRecDepth 100000 in
set_option maxHeartbeats 3200000 in
theorem rsame_any (x : Wl) (Dx : Option Addr) (ndx cdx : Nat) (Nx : Option Addr) (nnx cnx : Nat) (y : Wl) (Dy : Option Addr) (ndy cdy : Nat) (Ny : Option Addr) (nny cny : Nat) (w : World) (hx : ArgW w x Dx ndx cdx Nx nnx cnx) (hy : ArgW w y Dy ndy cdy Ny nny cny) : Calls Tryz.prog 39 #[.agg #[.int .i64 x.cl, .int .i64 x.sp, .int .i64 x.gr, .int .i64 x.ep, .int .i64 x.kd, .int .i64 x.bl, .slice Dx ndx cdx, .int .i64 x.od, .int .i64 x.nw, .slice Nx nnx cnx], .agg #[.int .i64 y.cl, .int .i64 y.sp, .int .i64 y.gr, .int .i64 y.ep, .int .i64 y.kd, .int .i64 y.bl, .slice Dy ndy cdy, .int .i64 y.od, .int .i64 y.nw, .slice Ny nny cny]] w fun e w' => e = .returned (.bool (sameB x y)) ∧ Below w.heap.size w w' := by
  obtain ⟨r, hr⟩ : ∃ r, sameB x y = r := ⟨_, rfl⟩
  rw [hr]
  have Hr : Hid (r = true ↔ EqW x y) := by show _ ↔ _; rw [← hr]; exact sameB_iff x y
  clear hr
  have hb0 : Below w.heap.size w ((w.alloc (.cells #[.int .i64 x.cl, .int .i64 x.sp, .int .i64 x.gr, .int .i64 x.ep, .int .i64 x.kd, .int .i64 x.bl, .slice Dx ndx cdx, .int .i64 x.od, .int .i64 x.nw, .slice Nx nnx cnx] 25)).alloc (.cells #[.int .i64 y.cl, .int .i64 y.sp, .int .i64 y.gr, .int .i64 y.ep, .int .i64 y.kd, .int .i64 y.bl, .slice Dy ndy cdy, .int .i64 y.od, .int .i64 y.nw, .slice Ny nny cny] 25)) := ((Below.refl _ _).alloc (Nat.le_refl _) _).alloc (by simp) _
  have hB1 : Blk ((w.alloc (.cells #[.int .i64 x.cl, .int .i64 x.sp, .int .i64 x.gr, .int .i64 x.ep, .int .i64 x.kd, .int .i64 x.bl, .slice Dx ndx cdx, .int .i64 x.od, .int .i64 x.nw, .slice Nx nnx cnx] 25)).alloc (.cells #[.int .i64 y.cl, .int .i64 y.sp, .int .i64 y.gr, .int .i64 y.ep, .int .i64 y.kd, .int .i64 y.bl, .slice Dy ndy cdy, .int .i64 y.od, .int .i64 y.nw, .slice Ny nny cny] 25)) w.heap.size 25 [.int .i64 x.cl, .int .i64 x.sp, .int .i64 x.gr, .int .i64 x.ep, .int .i64 x.kd, .int .i64 x.bl, .slice Dx ndx cdx, .int .i64 x.od, .int .i64 x.nw, .slice Nx nnx cnx] := (Blk.new (l := [.int .i64 x.cl, .int .i64 x.sp, .int .i64 x.gr, .int .i64 x.ep, .int .i64 x.kd, .int .i64 x.bl, .slice Dx ndx cdx, .int .i64 x.od, .int .i64 x.nw, .slice Nx nnx cnx]) rfl rfl).old _
  have hB2 : Blk ((w.alloc (.cells #[.int .i64 x.cl, .int .i64 x.sp, .int .i64 x.gr, .int .i64 x.ep, .int .i64 x.kd, .int .i64 x.bl, .slice Dx ndx cdx, .int .i64 x.od, .int .i64 x.nw, .slice Nx nnx cnx] 25)).alloc (.cells #[.int .i64 y.cl, .int .i64 y.sp, .int .i64 y.gr, .int .i64 y.ep, .int .i64 y.kd, .int .i64 y.bl, .slice Dy ndy cdy, .int .i64 y.od, .int .i64 y.nw, .slice Ny nny cny] 25)) (w.heap.size + 1) 25 [.int .i64 y.cl, .int .i64 y.sp, .int .i64 y.gr, .int .i64 y.ep, .int .i64 y.kd, .int .i64 y.bl, .slice Dy ndy cdy, .int .i64 y.od, .int .i64 y.nw, .slice Ny nny cny] := Blk.new rfl (by simp)
  have H := Lib.hid (And.intro (hx.after hb0) (And.intro (hy.after hb0) (And.intro hb0 (And.intro hB1 hB2))))
  clear hb0 hB1 hB2 hx hy
  by_cases h_cl : x.cl = y.cl
  rotate_left
  · have e_cl : (x.cl == y.cl) = false := by simpa using h_cl
    have hrr : Hid (r = false) := by show _ = _; rw [Bool.eq_false_iff]; intro h; exact h_cl (Hr.out.1 h).1
    clear h_cl
    go_enter Tryz.func39, Tryz.ntmps39
    go_wp2
    go_ret
    exact ⟨ret_bool hrr.out.symm, H.out.2.2.1⟩
  have e_cl : (x.cl == y.cl) = true := by simpa using h_cl
  have Gcl := Lib.hid h_cl
  clear h_cl
  by_cases h_sp : x.sp = y.sp
  rotate_left
  · have e_sp : (x.sp == y.sp) = false := by simpa using h_sp
    have hrr : Hid (r = false) := by show _ = _; rw [Bool.eq_false_iff]; intro h; exact h_sp (Hr.out.1 h).2.1
    clear h_sp
    go_enter Tryz.func39, Tryz.ntmps39
    go_wp2
    go_ret
    exact ⟨ret_bool hrr.out.symm, H.out.2.2.1⟩
  have e_sp : (x.sp == y.sp) = true := by simpa using h_sp
  have Gsp := Lib.hid h_sp
  clear h_sp
  by_cases h_gr : x.gr = y.gr
  rotate_left
  · have e_gr : (x.gr == y.gr) = false := by simpa using h_gr
    have hrr : Hid (r = false) := by show _ = _; rw [Bool.eq_false_iff]; intro h; exact h_gr (Hr.out.1 h).2.2.1
    clear h_gr
    go_enter Tryz.func39, Tryz.ntmps39
    go_wp2
    go_ret
    exact ⟨ret_bool hrr.out.symm, H.out.2.2.1⟩
  have e_gr : (x.gr == y.gr) = true := by simpa using h_gr
  have Ggr := Lib.hid h_gr
  clear h_gr
  by_cases h_ep : x.ep = y.ep
  rotate_left
  · have e_ep : (x.ep == y.ep) = false := by simpa using h_ep
    have hrr : Hid (r = false) := by show _ = _; rw [Bool.eq_false_iff]; intro h; exact h_ep (Hr.out.1 h).2.2.2.1
    clear h_ep
    go_enter Tryz.func39, Tryz.ntmps39
    go_wp2
    go_ret
    exact ⟨ret_bool hrr.out.symm, H.out.2.2.1⟩
  have e_ep : (x.ep == y.ep) = true := by simpa using h_ep
  have Gep := Lib.hid h_ep
  clear h_ep
  by_cases h_kd : x.kd = y.kd
  rotate_left
  · have e_kd : (x.kd == y.kd) = false := by simpa using h_kd
    have hrr : Hid (r = false) := by show _ = _; rw [Bool.eq_false_iff]; intro h; exact h_kd (Hr.out.1 h).2.2.2.2.1
    clear h_kd
    go_enter Tryz.func39, Tryz.ntmps39
    go_wp2
    go_ret
    exact ⟨ret_bool hrr.out.symm, H.out.2.2.1⟩
  have e_kd : (x.kd == y.kd) = true := by simpa using h_kd
  have Gkd := Lib.hid h_kd
  clear h_kd
  by_cases h_bl : x.bl = y.bl
  rotate_left
  · have e_bl : (x.bl == y.bl) = false := by simpa using h_bl
    have hrr : Hid (r = false) := by show _ = _; rw [Bool.eq_false_iff]; intro h; exact h_bl (Hr.out.1 h).2.2.2.2.2.1
    clear h_bl
    go_enter Tryz.func39, Tryz.ntmps39
    go_wp2
    go_ret
    exact ⟨ret_bool hrr.out.symm, H.out.2.2.1⟩
  have e_bl : (x.bl == y.bl) = true := by simpa using h_bl
  have Gbl := Lib.hid h_bl
  clear h_bl
  by_cases hd : x.da = y.da
  rotate_left
  · have Hd : Hid ((x.da == y.da) = false) := by show _ = _; simpa using hd
    have hrr : Hid (r = false) := by show _ = _; rw [Bool.eq_false_iff]; intro h; exact hd (Hr.out.1 h).2.2.2.2.2.2.1
    clear hd
    go_enter Tryz.func39, Tryz.ntmps39
    go_wp2_with (first | (go_at_call 36; refine (eqBytes _ _ _ _ _ _ x.da y.da _ H.out.1.1.2.2.2.1 H.out.2.1.1.2.2.2.1 H.out.1.1.1 H.out.2.1.1.1 (by have := H.out.1.1.2.2.2.2; unfold maxLen; omega) (by have := H.out.2.1.1.2.2.2.2; unfold maxLen; omega)).mono ?_; rintro e w1 ⟨rfl, hb1⟩; rw [Hd.out]; have hk1 := H.out.2.2.2.1.below hb1 H.out.2.2.2.1.lt; have hk2 := H.out.2.2.2.2.below hb1 H.out.2.2.2.2.lt; have k7 : w1.cell? ⟨w.heap.size, 7, none⟩ = some (.int .i64 x.od) := hk1.cell rfl; have j7 : w1.cell? ⟨w.heap.size + 1, 7, none⟩ = some (.int .i64 y.od) := hk2.cell rfl; have k8 : w1.cell? ⟨w.heap.size, 8, none⟩ = some (.int .i64 x.nw) := hk1.cell rfl; have j8 : w1.cell? ⟨w.heap.size + 1, 8, none⟩ = some (.int .i64 y.nw) := hk2.cell rfl; have k9 : w1.cell? ⟨w.heap.size, 9, none⟩ = some (.slice Nx nnx cnx) := hk1.cell rfl; have j9 : w1.cell? ⟨w.heap.size + 1, 9, none⟩ = some (.slice Ny nny cny) := hk2.cell rfl; have hb1 := Lib.hid hb1; clear hk1 hk2))
    go_ret
    exact ⟨ret_bool hrr.out.symm, (H.out.2.2.1.trans (hb1.out.mono H.out.2.2.1.size))⟩
  have Hd : Hid ((x.da == y.da) = true) := by show _ = _; rw [hd]; simp
  have Gda := Lib.hid hd
  clear hd
  by_cases h_od : x.od = y.od
  rotate_left
  · have e_od : (x.od == y.od) = false := by simpa using h_od
    have hrr : Hid (r = false) := by show _ = _; rw [Bool.eq_false_iff]; intro h; exact h_od (Hr.out.1 h).2.2.2.2.2.2.2.1
    clear h_od
    go_enter Tryz.func39, Tryz.ntmps39
    go_wp2_with (first | (go_at_call 36; refine (eqBytes _ _ _ _ _ _ x.da y.da _ H.out.1.1.2.2.2.1 H.out.2.1.1.2.2.2.1 H.out.1.1.1 H.out.2.1.1.1 (by have := H.out.1.1.2.2.2.2; unfold maxLen; omega) (by have := H.out.2.1.1.2.2.2.2; unfold maxLen; omega)).mono ?_; rintro e w1 ⟨rfl, hb1⟩; rw [Hd.out]; have hk1 := H.out.2.2.2.1.below hb1 H.out.2.2.2.1.lt; have hk2 := H.out.2.2.2.2.below hb1 H.out.2.2.2.2.lt; have k7 : w1.cell? ⟨w.heap.size, 7, none⟩ = some (.int .i64 x.od) := hk1.cell rfl; have j7 : w1.cell? ⟨w.heap.size + 1, 7, none⟩ = some (.int .i64 y.od) := hk2.cell rfl; have k8 : w1.cell? ⟨w.heap.size, 8, none⟩ = some (.int .i64 x.nw) := hk1.cell rfl; have j8 : w1.cell? ⟨w.heap.size + 1, 8, none⟩ = some (.int .i64 y.nw) := hk2.cell rfl; have k9 : w1.cell? ⟨w.heap.size, 9, none⟩ = some (.slice Nx nnx cnx) := hk1.cell rfl; have j9 : w1.cell? ⟨w.heap.size + 1, 9, none⟩ = some (.slice Ny nny cny) := hk2.cell rfl; have hb1 := Lib.hid hb1; clear hk1 hk2))
    go_ret
    exact ⟨ret_bool hrr.out.symm, (H.out.2.2.1.trans (hb1.out.mono H.out.2.2.1.size))⟩
  have e_od : (x.od == y.od) = true := by simpa using h_od
  have God := Lib.hid h_od
  clear h_od
  by_cases h_nw : x.nw = y.nw
  rotate_left
  · have e_nw : (x.nw == y.nw) = false := by simpa using h_nw
    have hrr : Hid (r = false) := by show _ = _; rw [Bool.eq_false_iff]; intro h; exact h_nw (Hr.out.1 h).2.2.2.2.2.2.2.2.1
    clear h_nw
    go_enter Tryz.func39, Tryz.ntmps39
    go_wp2_with (first | (go_at_call 36; refine (eqBytes _ _ _ _ _ _ x.da y.da _ H.out.1.1.2.2.2.1 H.out.2.1.1.2.2.2.1 H.out.1.1.1 H.out.2.1.1.1 (by have := H.out.1.1.2.2.2.2; unfold maxLen; omega) (by have := H.out.2.1.1.2.2.2.2; unfold maxLen; omega)).mono ?_; rintro e w1 ⟨rfl, hb1⟩; rw [Hd.out]; have hk1 := H.out.2.2.2.1.below hb1 H.out.2.2.2.1.lt; have hk2 := H.out.2.2.2.2.below hb1 H.out.2.2.2.2.lt; have k7 : w1.cell? ⟨w.heap.size, 7, none⟩ = some (.int .i64 x.od) := hk1.cell rfl; have j7 : w1.cell? ⟨w.heap.size + 1, 7, none⟩ = some (.int .i64 y.od) := hk2.cell rfl; have k8 : w1.cell? ⟨w.heap.size, 8, none⟩ = some (.int .i64 x.nw) := hk1.cell rfl; have j8 : w1.cell? ⟨w.heap.size + 1, 8, none⟩ = some (.int .i64 y.nw) := hk2.cell rfl; have k9 : w1.cell? ⟨w.heap.size, 9, none⟩ = some (.slice Nx nnx cnx) := hk1.cell rfl; have j9 : w1.cell? ⟨w.heap.size + 1, 9, none⟩ = some (.slice Ny nny cny) := hk2.cell rfl; have hb1 := Lib.hid hb1; clear hk1 hk2))
    go_ret
    exact ⟨ret_bool hrr.out.symm, (H.out.2.2.1.trans (hb1.out.mono H.out.2.2.1.size))⟩
  have e_nw : (x.nw == y.nw) = true := by simpa using h_nw
  have Gnw := Lib.hid h_nw
  clear h_nw
  by_cases hs : x.nx = y.nx
  rotate_left
  · have Hs : Hid (decide (x.nx = y.nx) = false) := by show _ = _; simpa using hs
    have hrr : Hid (r = false) := by show _ = _; rw [Bool.eq_false_iff]; intro h; exact hs (Hr.out.1 h).2.2.2.2.2.2.2.2.2
    clear hs
    go_enter Tryz.func39, Tryz.ntmps39
    go_wp2_with (first | (go_at_call 36; refine (eqBytes _ _ _ _ _ _ x.da y.da _ H.out.1.1.2.2.2.1 H.out.2.1.1.2.2.2.1 H.out.1.1.1 H.out.2.1.1.1 (by have := H.out.1.1.2.2.2.2; unfold maxLen; omega) (by have := H.out.2.1.1.2.2.2.2; unfold maxLen; omega)).mono ?_; rintro e w1 ⟨rfl, hb1⟩; rw [Hd.out]; have hk1 := H.out.2.2.2.1.below hb1 H.out.2.2.2.1.lt; have hk2 := H.out.2.2.2.2.below hb1 H.out.2.2.2.2.lt; have k7 : w1.cell? ⟨w.heap.size, 7, none⟩ = some (.int .i64 x.od) := hk1.cell rfl; have j7 : w1.cell? ⟨w.heap.size + 1, 7, none⟩ = some (.int .i64 y.od) := hk2.cell rfl; have k8 : w1.cell? ⟨w.heap.size, 8, none⟩ = some (.int .i64 x.nw) := hk1.cell rfl; have j8 : w1.cell? ⟨w.heap.size + 1, 8, none⟩ = some (.int .i64 y.nw) := hk2.cell rfl; have k9 : w1.cell? ⟨w.heap.size, 9, none⟩ = some (.slice Nx nnx cnx) := hk1.cell rfl; have j9 : w1.cell? ⟨w.heap.size + 1, 9, none⟩ = some (.slice Ny nny cny) := hk2.cell rfl; have hb1 := Lib.hid hb1; clear hk1 hk2) | (go_at_call 60; refine (eqInts_any _ _ _ _ _ _ x.nx y.nx _ (H.out.1.2.1.1.after hb1.out) (H.out.2.1.2.1.1.after hb1.out)).mono ?_; rintro e w2 ⟨rfl, hb2⟩; rw [Hs.out]; have hb2 := Lib.hid hb2))
    go_ret
    exact ⟨ret_bool hrr.out.symm, ((H.out.2.2.1.trans (hb1.out.mono H.out.2.2.1.size)).trans (hb2.out.mono (H.out.2.2.1.trans (hb1.out.mono H.out.2.2.1.size)).size))⟩
  have Hs : Hid (decide (x.nx = y.nx) = true) := by show _ = _; simpa using hs
  have Gnx := Lib.hid hs
  clear hs
  have hrr : Hid (r = true) := Hr.out.2 ⟨Gcl.out, Gsp.out, Ggr.out, Gep.out, Gkd.out, Gbl.out, Gda.out, God.out, Gnw.out, Gnx.out⟩
  go_enter Tryz.func39, Tryz.ntmps39
  go_wp2_with (first | (go_at_call 36; refine (eqBytes _ _ _ _ _ _ x.da y.da _ H.out.1.1.2.2.2.1 H.out.2.1.1.2.2.2.1 H.out.1.1.1 H.out.2.1.1.1 (by have := H.out.1.1.2.2.2.2; unfold maxLen; omega) (by have := H.out.2.1.1.2.2.2.2; unfold maxLen; omega)).mono ?_; rintro e w1 ⟨rfl, hb1⟩; rw [Hd.out]; have hk1 := H.out.2.2.2.1.below hb1 H.out.2.2.2.1.lt; have hk2 := H.out.2.2.2.2.below hb1 H.out.2.2.2.2.lt; have k7 : w1.cell? ⟨w.heap.size, 7, none⟩ = some (.int .i64 x.od) := hk1.cell rfl; have j7 : w1.cell? ⟨w.heap.size + 1, 7, none⟩ = some (.int .i64 y.od) := hk2.cell rfl; have k8 : w1.cell? ⟨w.heap.size, 8, none⟩ = some (.int .i64 x.nw) := hk1.cell rfl; have j8 : w1.cell? ⟨w.heap.size + 1, 8, none⟩ = some (.int .i64 y.nw) := hk2.cell rfl; have k9 : w1.cell? ⟨w.heap.size, 9, none⟩ = some (.slice Nx nnx cnx) := hk1.cell rfl; have j9 : w1.cell? ⟨w.heap.size + 1, 9, none⟩ = some (.slice Ny nny cny) := hk2.cell rfl; have hb1 := Lib.hid hb1; clear hk1 hk2) | (go_at_call 60; refine (eqInts_any _ _ _ _ _ _ x.nx y.nx _ (H.out.1.2.1.1.after hb1.out) (H.out.2.1.2.1.1.after hb1.out)).mono ?_; rintro e w2 ⟨rfl, hb2⟩; rw [Hs.out]; have hb2 := Lib.hid hb2))
  go_ret
  exact ⟨ret_bool hrr.out.symm, ((H.out.2.2.1.trans (hb1.out.mono H.out.2.2.1.size)).trans (hb2.out.mono (H.out.2.2.1.trans (hb1.out.mono H.out.2.2.1.size)).size))⟩

end Go.Proofs.YtihmddpafbackaaGreat

namespace Go.Proofs.YtihmddpafbackaaGreat

open Go.RowKit Go.Maps

set_option linter.unusedVariables false

set_option linter.unusedSimpArgs false

def xRead : Wl := ⟨31, 5, 1, 0, 1, 3, [], 0, 0, []⟩

def xSeal : Wl := ⟨0, 0, 2, 1, 5, 0, [], 0, 0, [1, 2, 3, 4]⟩

theorem may_read : May xRead := by decide

theorem may_seal : May xSeal := by decide

def bRead : List UInt8 := [1, 1, 1, 31, 1, 5, 1, 1, 0, 1, 3, 0, 0, 0, 0]

def bSeal : List UInt8 := [1, 5, 0, 0, 1, 2, 1, 1, 0, 0, 0, 0, 1, 4, 1, 1, 1, 2, 1, 3, 1, 4]

theorem parse_read : parse bRead = (xRead, 0) := by kernel_rfl

theorem parse_seal : parse bSeal = (xSeal, 0) := by kernel_rfl

theorem wb_read : wb xRead = bRead := (parse_back parse_read).2

theorem wb_seal : wb xSeal = bSeal := (parse_back parse_seal).2

theorem unb_zero : unb [0] = ([], 0) := by kernel_rfl

theorem bat_nil : batchW [] = ([0], 0) := by
  have h := (unb_back unb_zero).2.2
  unfold batchW
  rw [if_neg (by simp), if_pos (by simp), h]

set_option maxRecDepth 100000 in
set_option maxHeartbeats 1600000 in
theorem read_any (w : World) : Calls Tryz.prog 21 #[] w fun e w' => e = .returned (.agg #[.int .i64 31, .int .i64 5, .int .i64 1, .int .i64 0, .int .i64 1, .int .i64 3, .slice none 0 0, .int .i64 0, .int .i64 0, .slice none 0 0]) ∧ Below w.heap.size w w' := by
  go_enter Tryz.func21, Tryz.ntmps21
  go_wp2
  refine bodyPost_ret (results_row rfl _ _ w.heap.size 25 _ _ rfl (heap_alloc_new w _) Tryz.underlying25 rfl wish_size) rfl ?_
  exact ⟨rfl, (Below.refl _ _).alloc (Nat.le_refl _) _⟩

set_option maxRecDepth 100000 in
set_option maxHeartbeats 1600000 in
theorem seal_wish (w : World) : Calls Tryz.prog 22 #[] w fun e w' => ∃ A, e = .returned (.agg #[.int .i64 0, .int .i64 0, .int .i64 2, .int .i64 1, .int .i64 5, .int .i64 0, .slice none 0 0, .int .i64 0, .int .i64 0, .slice (some A) 4 4]) ∧ ArgI w' (some A) 4 4 [1, 2, 3, 4] ∧ Below w.heap.size w w' := by
  go_enter Tryz.func22, Tryz.ntmps22
  go_wp2
  have hB : Blk ((w.alloc (.cells #[.int .i64 0, .int .i64 0, .int .i64 2, .int .i64 1, .int .i64 5, .int .i64 0, .slice none 0 0, .int .i64 0, .int .i64 0, .slice (some ⟨w.heap.size + 1, 0, none⟩) 4 4] 25)).alloc (.cells #[.int .i64 1, .int .i64 2, .int .i64 3, .int .i64 4] 3)) w.heap.size 25 [.int .i64 0, .int .i64 0, .int .i64 2, .int .i64 1, .int .i64 5, .int .i64 0, .slice none 0 0, .int .i64 0, .int .i64 0, .slice (some ⟨w.heap.size + 1, 0, none⟩) 4 4] := (Blk.new (l := [.int .i64 0, .int .i64 0, .int .i64 2, .int .i64 1, .int .i64 5, .int .i64 0, .slice none 0 0, .int .i64 0, .int .i64 0, .slice (some ⟨w.heap.size + 1, 0, none⟩) 4 4]) rfl rfl).old _
  refine bodyPost_ret (results_row rfl _ _ w.heap.size 25 _ _ rfl hB Tryz.underlying25 rfl wish_size) rfl ?_
  refine ⟨⟨w.heap.size + 1, 0, none⟩, rfl, ⟨rfl, Nat.le_refl _, by simp [maxLen], ?_, by decide⟩, ((Below.refl _ _).alloc (Nat.le_refl _) _).alloc (by simp) _⟩
  refine ⟨rfl, fun _ => ⟨w.heap.size + 1, 0, rfl, by simp, fun j u hu => ?_⟩⟩
  rw [Nat.zero_add]
  exact (Blk.new (l := cis [1, 2, 3, 4]) rfl (by simp)).cell hu

set_option maxRecDepth 100000 in
set_option maxHeartbeats 3200000 in
theorem is_true (x : Wl) (Dx : Option Addr) (ndx cdx : Nat) (Nx : Option Addr) (nnx cnx : Nat) (w : World) (h : ArgW w x Dx ndx cdx Nx nnx cnx) (hm : May x) (A : Option Addr) (n c : Nat) (l : List UInt8) (hA : Bs w A l) (hn : l.length = n) (hnc : n ≤ c) (hc : c ≤ maxLen) (hl : wb x = l) :
    Calls Tryz.prog 35 #[.agg #[.int .i64 x.cl, .int .i64 x.sp, .int .i64 x.gr, .int .i64 x.ep, .int .i64 x.kd, .int .i64 x.bl, .slice Dx ndx cdx, .int .i64 x.od, .int .i64 x.nw, .slice Nx nnx cnx], .slice A n c] w fun e w' => e = .returned (.bool true) ∧ Below w.heap.size w w' := by
  have hx := Wx.new (w := w) (x := x) (D := Dx) (nd := ndx) (cd := cdx) (N := Nx) (nn := nnx) (cn := cnx)
  have hw := h.after hx.bel
  have hwb : wbytes x = (l, 0) := by unfold wbytes; rw [if_pos hm, hl]
  have hpp : parse l = (x, 0) := by rw [← hl]; exact parse_wb hm
  have hlen : n < 128 := by have := (wb_len hm).2; rw [hl, hn] at this; exact this
  have hby := bytes_wish x Dx ndx cdx Nx nnx cnx _ hw
  rw [hwb] at hby
  have hxn : WNm x := by have := parse_nm l; rw [hpp] at this; exact this
  have hs := sameB_self x
  have H := Lib.hid (And.intro hx (And.intro hw (And.intro hby (And.intro hpp (And.intro hn (And.intro (hA.after hx.bel) (And.intro hxn hs)))))))
  clear hx hw h hm hl hwb hpp hA hby hn hxn hs
  go_enter Tryz.func35, Tryz.ntmps35
  go_wp2_with fail
  refine H.out.2.2.1.mono ?_
  rintro e w1 ⟨v1, rfl, hN1⟩
  obtain ⟨A1, c1, rfl, hl1, hc1, hB1⟩ := hN1.form
  simp only at hl1 ⊢
  rw [H.out.2.2.2.2.1] at hl1
  rw [H.out.2.2.2.2.1]
  have hx1 := H.out.1.on hN1.2
  have H1 := Lib.hid (And.intro hx1 (And.intro (H.out.2.1.after hN1.2) (And.intro hB1 (H.out.2.2.2.2.2.1.after hN1.2))))
  clear hN1 hx1 hB1
  go_wp2_with fail
  have hcp := parse_any A n c l w1 H1.out.2.2.2 H.out.2.2.2.2.1 hnc hc (by omega)
  rw [H.out.2.2.2.1] at hcp
  refine hcp.mono ?_
  clear hcp
  rintro e w2 ⟨v, rfl, hV, hb2⟩
  obtain ⟨Dy, ndy, cdy, Ny, nny, cny, rfl, hAW, _, _⟩ := hV.arg H.out.2.2.2.2.2.2.1
  have hal : Below w2.heap.size w2 (w2.alloc (.cells #[.int .i64 x.cl, .int .i64 x.sp, .int .i64 x.gr, .int .i64 x.ep, .int .i64 x.kd, .int .i64 x.bl, .slice Dy ndy cdy, .int .i64 x.od, .int .i64 x.nw, .slice Ny nny cny] 25)) := (Below.refl _ _).alloc (Nat.le_refl _) _
  have hk3 : Blk (w2.alloc (.cells #[.int .i64 x.cl, .int .i64 x.sp, .int .i64 x.gr, .int .i64 x.ep, .int .i64 x.kd, .int .i64 x.bl, .slice Dy ndy cdy, .int .i64 x.od, .int .i64 x.nw, .slice Ny nny cny] 25)) w2.heap.size 25 [.int .i64 x.cl, .int .i64 x.sp, .int .i64 x.gr, .int .i64 x.ep, .int .i64 x.kd, .int .i64 x.bl, .slice Dy ndy cdy, .int .i64 x.od, .int .i64 x.nw, .slice Ny nny cny] := Blk.new rfl rfl
  have hb3 := hb2.trans (hal.mono hb2.size)
  obtain ⟨W3, hW3⟩ : ∃ W, (w2.alloc (.cells #[.int .i64 x.cl, .int .i64 x.sp, .int .i64 x.gr, .int .i64 x.ep, .int .i64 x.kd, .int .i64 x.bl, .slice Dy ndy cdy, .int .i64 x.od, .int .i64 x.nw, .slice Ny nny cny] 25)) = W := ⟨_, rfl⟩
  rw [hW3] at hal hk3 hb3
  have H3 := Lib.hid (And.intro (H1.out.1.on hb3) (And.intro (H1.out.2.1.after hb3) (And.intro (H1.out.2.2.1.after hb3) (And.intro (H1.out.2.2.2.after hb3) (And.intro (hAW.after hal) hk3)))))
  have HW := Lib.hid hW3
  clear hV hb2 hAW hal hk3 hb3 hW3
  go_upto_region 3 with fail
  rw [HW.out]
  go_wp2_with fail
  refine (eqBytes A1 A _ _ _ _ l l W3 H3.out.2.2.1 H3.out.2.2.2.1 H.out.2.2.2.2.1 H.out.2.2.2.2.1 (by unfold maxLen; omega) (by unfold maxLen; omega)).mono ?_
  rintro e w4 ⟨rfl, hb4⟩
  have hx4 := H3.out.1.on hb4
  have hk4 := H3.out.2.2.2.2.2.below hb4 H3.out.2.2.2.2.2.lt
  obtain ⟨⟨k0, k1, k2, k3, k4⟩, k5, k6, k7, k8, k9⟩ := hx4.ks
  have j0 : w4.cell? ⟨w2.heap.size, 0, none⟩ = some (.int .i64 x.cl) := hk4.cell rfl
  have j1 : w4.cell? ⟨w2.heap.size, 1, none⟩ = some (.int .i64 x.sp) := hk4.cell rfl
  have j2 : w4.cell? ⟨w2.heap.size, 2, none⟩ = some (.int .i64 x.gr) := hk4.cell rfl
  have j3 : w4.cell? ⟨w2.heap.size, 3, none⟩ = some (.int .i64 x.ep) := hk4.cell rfl
  have j4 : w4.cell? ⟨w2.heap.size, 4, none⟩ = some (.int .i64 x.kd) := hk4.cell rfl
  have j5 : w4.cell? ⟨w2.heap.size, 5, none⟩ = some (.int .i64 x.bl) := hk4.cell rfl
  have j6 : w4.cell? ⟨w2.heap.size, 6, none⟩ = some (.slice Dy ndy cdy) := hk4.cell rfl
  have j7 : w4.cell? ⟨w2.heap.size, 7, none⟩ = some (.int .i64 x.od) := hk4.cell rfl
  have j8 : w4.cell? ⟨w2.heap.size, 8, none⟩ = some (.int .i64 x.nw) := hk4.cell rfl
  have j9 : w4.cell? ⟨w2.heap.size, 9, none⟩ = some (.slice Ny nny cny) := hk4.cell rfl
  have H4 := Lib.hid (And.intro (H3.out.2.2.2.2.1.after hb4) (And.intro (H3.out.2.1.after hb4) hx4.bel))
  clear hb4 hx4 hk4
  go_wp2_with fail
  have hcs := rsame_any x Dy ndy cdy Ny nny cny x Dx ndx cdx Nx nnx cnx w4 H4.out.1 H4.out.2.1
  rw [H.out.2.2.2.2.2.2.2] at hcs
  refine hcs.mono ?_
  clear hcs
  rintro e w5 ⟨rfl, hb5⟩
  have Hb5 := Lib.hid hb5
  clear hb5
  go_wp2
  go_ret
  exact ⟨rfl, H4.out.2.2.trans (Hb5.out.mono H4.out.2.2.size)⟩

theorem bs_made (w : World) (t : TypeId) (vs : Array Value) (l : List UInt8) (h : vs.toList = cbs l) : Bs (w.alloc (.cells vs t)) (some ⟨w.heap.size, 0, none⟩) l := by
  refine ⟨by rw [cbs_length]; simp, fun _ => ⟨w.heap.size, 0, rfl, by simp, fun j u hu => ?_⟩⟩
  rw [Nat.zero_add, cell_of_row _ _ j vs t (0, 0) (heap_alloc_new w _)]
  rw [← h] at hu
  simpa using hu

theorem argI_nil (w : World) : ArgI w none 0 0 [] := ⟨rfl, Nat.le_refl _, by simp [maxLen], Shows.empty _, fun x hx => by simp at hx⟩

theorem arg_read (w : World) : ArgW w xRead none 0 0 none 0 0 := ⟨⟨rfl, Nat.le_refl _, by simp [maxLen], Bs.nil _ _, by omega⟩, ⟨argI_nil w, by omega⟩, by decide, by decide, by decide, by decide, by decide, by decide, by decide, by decide⟩

theorem arg_seal {w : World} {A : Addr} (h : ArgI w (some A) 4 4 [1, 2, 3, 4]) : ArgW w xSeal none 0 0 (some A) 4 4 := ⟨⟨rfl, Nat.le_refl _, by simp [maxLen], Bs.nil _ _, by omega⟩, ⟨h, by omega⟩, by decide, by decide, by decide, by decide, by decide, by decide, by decide, by decide⟩

theorem argL_nil (w : World) : ArgL w none 0 0 [] := ⟨rfl, Nat.le_refl _, by simp [maxLen], fun h => absurd rfl h⟩

set_option maxRecDepth 100000 in
set_option maxHeartbeats 3200000 in
theorem works11_any (w : World) : Calls Tryz.prog 17 #[] w fun e w' => e = .returned (.bool true) ∧ Below w.heap.size w w' := by
  go_enter Tryz.func17, Tryz.ntmps17
  go_wp2_with fail
  have hc := batch_any none 0 0 [] w (argL_nil w)
  rw [bat_nil] at hc
  refine hc.mono ?_
  clear hc
  rintro e w1 ⟨v1, rfl, hN1⟩
  obtain ⟨A1, c1, rfl, hl1, hc1, hB1⟩ := hN1.form
  have hb1 := hN1.2
  have hal : Below w1.heap.size w1 (w1.alloc (.cells #[.int .u8 0] 5)) := (Below.refl _ _).alloc (Nat.le_refl _) _
  have H1 := Lib.hid (And.intro (hB1.after hal) (hb1.trans (hal.mono hb1.size)))
  clear hN1 hB1 hb1 hal
  go_wp2_with fail
  have hc := unbatch_any (some ⟨w1.heap.size, 0, none⟩) 1 1 [0] _ (bs_made w1 5 #[.int .u8 0] [0] rfl) rfl (Nat.le_refl _) (by simp [maxLen]) (by omega)
  rw [unb_zero] at hc
  refine hc.mono ?_
  clear hc
  rintro e w2 ⟨v2, ys, rfl, hO2, hy2, _, hb2⟩
  obtain ⟨A2, c2, rfl⟩ := row_form hO2.1
  have hy0 : ys.length = 0 := by have := congrArg List.length hy2; simpa using this
  rw [hy0]
  have H2 := Lib.hid (And.intro (H1.out.1.after hb2) (H1.out.2.trans (hb2.mono H1.out.2.size)))
  clear hO2 hy2 hb2 hy0
  go_wp2_with fail
  refine (read_any w2).mono ?_
  rintro e w3 ⟨rfl, hb3⟩
  have hal : Below w3.heap.size w3 (w3.alloc (.cells (cbs bRead).toArray 5)) := (Below.refl _ _).alloc (Nat.le_refl _) _
  have hb3' := hb3.trans (hal.mono hb3.size)
  have H3 := Lib.hid (And.intro (H2.out.1.after hb3') (H2.out.2.trans (hb3'.mono H2.out.2.size)))
  clear hb3 hal hb3'
  go_wp2_with fail
  refine (is_true xRead none 0 0 none 0 0 _ (arg_read _) may_read (some ⟨w3.heap.size, 0, none⟩) 15 15 bRead (bs_made w3 5 _ bRead rfl) rfl (Nat.le_refl _) (by simp [maxLen]) wb_read).mono ?_
  rintro e w4 ⟨rfl, hb4⟩
  have H4 := Lib.hid (And.intro (H3.out.1.after hb4) (H3.out.2.trans (hb4.mono H3.out.2.size)))
  clear hb4
  go_wp2_with fail
  refine (seal_wish w4).mono ?_
  rintro e w5 ⟨A5, rfl, hI5, hb5⟩
  have hal : Below w5.heap.size w5 (w5.alloc (.cells (cbs bSeal).toArray 5)) := (Below.refl _ _).alloc (Nat.le_refl _) _
  have hb5' := hb5.trans (hal.mono hb5.size)
  have H5 := Lib.hid (And.intro (H4.out.1.after hb5') (And.intro (H4.out.2.trans (hb5'.mono H4.out.2.size)) (hI5.after hal)))
  clear hb5 hal hb5' hI5
  go_wp2_with fail
  refine (is_true xSeal none 0 0 (some A5) 4 4 _ (arg_seal H5.out.2.2) may_seal (some ⟨w5.heap.size, 0, none⟩) 22 22 bSeal (bs_made w5 5 _ bSeal rfl) rfl (Nat.le_refl _) (by simp [maxLen]) wb_seal).mono ?_
  rintro e w6 ⟨rfl, hb6⟩
  have hal : Below w6.heap.size w6 (w6.alloc (.cells #[.int .u8 0] 5)) := (Below.refl _ _).alloc (Nat.le_refl _) _
  have hb6' := hb6.trans (hal.mono hb6.size)
  have H6 := Lib.hid (And.intro (H5.out.1.after hb6') (H5.out.2.1.trans (hb6'.mono H5.out.2.1.size)))
  clear hb6 hal hb6'
  go_wp2_with fail
  refine (eqBytes A1 _ c1 1 1 1 [0] [0] _ H6.out.1 (bs_made w6 5 #[.int .u8 0] [0] rfl) rfl rfl (by simp [maxLen]) (by simp [maxLen])).mono ?_
  rintro e w7 ⟨rfl, hb7⟩
  have Hb7 := Lib.hid hb7
  clear hb7
  go_wp2
  go_ret
  exact ⟨rfl, H6.out.2.trans (Hb7.out.mono H6.out.2.size)⟩

end Go.Proofs.YtihmddpafbackaaGreat

namespace Go.Proofs.YtihmddpafbackaaGreat

open Go.ChangeShapes Go.WideShapes Go.ChangeAt Go.RowKit

set_option linter.unusedVariables false

theorem choose_any {α : Type} {P : Nat → α → Prop} : ∀ n, (∀ r, r < n → ∃ l, P r l) → ∃ ls : List α, ls.length = n ∧ ∀ j (hj : j < ls.length), P j ls[j]
  | 0, _ => ⟨[], rfl, fun j hj => by simp at hj⟩
  | n + 1, h => by
    obtain ⟨ls, hl, hls⟩ := choose_any n (fun r hr => h r (by omega))
    obtain ⟨l, hl'⟩ := h n (by omega)
    refine ⟨ls ++ [l], by simp [hl], fun j hj => ?_⟩
    by_cases hjn : j < ls.length
    · rw [List.getElem_append_left hjn]; exact hls j hjn
    · have : j = n := by simp at hj; omega
      subst this
      rw [List.getElem_append_right (by omega)]
      simpa [hl] using hl'

theorem one_of {cs : List Value} {i : Nat} {v : Value} (h : (cs.drop i).take 1 = [v]) : cs[i]? = some v := by
  have : ((cs.drop i).take 1)[0]? = some v := by rw [h]; rfl
  rw [List.getElem?_take, if_pos (by omega), List.getElem?_drop] at this
  simpa using this

theorem all_mem {H : Type} {P : Program} {e : TypeId} {d : DataW H} {z : Nat} : ∀ (ds : List (DataW H)), d ∈ ds → z ∈ d.weights P e → z ∈ DataW.weightsAll P e ds
  | [], h, _ => by simp at h
  | x :: ds, h, hz => by
    rw [DataW.weightsAll, List.mem_append]
    rcases List.mem_cons.1 h with rfl | h
    · exact .inl hz
    · exact .inr (all_mem ds h hz)

section

variable {H : Type} {enc : TypeId × Value → H} {w : World}

set_option maxRecDepth 100000 in
theorem trodBz {fuel : Nat} {cs : List Value} {x : DataW H × List MemPlace} (h : DataW.trod enc Tryz.prog w 0 (fun _ => true) true fuel 22 cs = some x) (hw : ∀ z ∈ x.1.weights Tryz.prog 22, z ≤ reachBytes) :
    ∃ (A : Option Addr) (n c : Nat) (l : List UInt8), cs = [.slice A n c] ∧ l.length = n ∧ n ≤ c ∧ c ≤ maxLen ∧ Bs w A l ∧ n ≤ 140737488351232 := by
  have hb : Tryz.prog.bytesOf 5 = 1 := by kernel_rfl
  rcases open_ints Tryz.underlying22 Tryz.underlying5 (by kernel_rfl) h with ⟨rfl, _⟩ | ⟨a, n, c, zs, rfl, _, hl, hm, hz, hx, hcell, hwz⟩
  · exact ⟨none, 0, 0, [], rfl, rfl, Nat.le_refl _, by simp [maxLen], Bs.nil _ _, by omega⟩
  · have hz' : zs.length = c := by simpa using hz
    rw [hx] at hw
    simp only [DataW.weights, Tryz.underlying22, List.mem_cons] at hw
    have h1 := hw _ (.inl rfl)
    rw [hb] at h1
    simp only [lits, List.length_map, List.length_take, List.length_drop] at h1
    simp [reachBytes] at h1
    refine ⟨some a, n, c, (zs.take n).map fun z => UInt8.ofNat z.toNat, rfl, by simp; omega, hl, hm, ?_, by omega⟩
    refine ⟨by simp [cbs], fun hn => ?_⟩
    simp at hn
    have hsp := spot_of (hcell 0 (by omega))
    obtain ⟨b, off, spot⟩ := a
    simp only at hsp
    subst hsp
    refine ⟨b, off, rfl, ?_, ?_⟩
    · have := World.block_lt_of_cell? w _ (hcell 0 (by omega))
      rw [add_mk] at this
      exact this
    · intro j u hu
      simp only [cbs, List.map_map, List.getElem?_map, Option.map_eq_some_iff] at hu
      obtain ⟨z, hz1, rfl⟩ := hu
      have hj : j < n ∧ j < zs.length := by
        rcases Nat.lt_or_ge j (zs.take n).length with h | h
        · simp at h; omega
        · rw [List.getElem?_eq_none h] at hz1; cases hz1
      have hzz : zs[j]? = some z := by rw [List.getElem?_take, if_pos hj.1] at hz1; exact hz1
      have hcj := hcell j hj.2
      rw [add_mk] at hcj
      rw [hcj]
      have hmem : z ∈ zs := List.mem_of_getElem? hzz
      have hg : zs.getD j 0 = z := by simp [List.getD, hzz]
      rw [hg]
      show _ = some (Value.int .u8 _)
      rw [← wf_u8 (hwz z hmem)]

set_option maxRecDepth 100000 in
theorem trodI_sized {fuel : Nat} {cs : List Value} {x : DataW H × List MemPlace} {A : Option Addr} {n c : Nat} {l : List Int} (h : DataW.trod enc Tryz.prog w 0 (fun _ => true) true fuel 23 cs = some x) (hcs : cs = [.slice A n c]) (ha : ArgI w A n c l)
    (hz : ∀ z ∈ x.1.weights Tryz.prog 23, z ≤ reachBytes) : l.length ≤ 17592186043904 := by
  have hb : Tryz.prog.bytesOf 3 = 8 := by kernel_rfl
  rcases open_ints Tryz.underlying23 Tryz.underlying3 (by kernel_rfl) h with ⟨rfl, _⟩ | ⟨a, n', c', zs, rfl, _, hl, hm, hzl, hx, _⟩
  · injection hcs with e
    injection e with _ e _
    rw [ha.1]; omega
  · injection hcs with e
    injection e with _ e1 e2
    rw [hx] at hz
    simp only [DataW.weights, Tryz.underlying23, List.mem_cons] at hz
    have h1 := hz _ (.inl rfl)
    rw [hb] at h1
    have hz' : zs.length = c' := by simpa using hzl
    simp only [lits, List.length_map, List.length_take, List.length_drop] at h1
    have := ha.1
    simp [reachBytes] at h1
    omega

set_option maxRecDepth 100000 in
set_option maxHeartbeats 1600000 in
theorem trod_wish {fuel : Nat} {cs : List Value} {x : DataW H × List MemPlace} (h : DataW.trod enc Tryz.prog w 0 (fun _ => true) true fuel 25 cs = some x) (hz : ∀ z ∈ x.1.weights Tryz.prog 25, z ≤ reachBytes) :
    ∃ y : WH, (∀ i, i < 10 → cs[i]? = (whc y)[i]?) ∧ ArgW w y.x y.D y.nd y.cd y.N y.nn y.cn := by
  obtain ⟨xs, n, _, hxe, _, hlen, hg⟩ := DataW.trod_struct Tryz.underlying25 h
  have c1 : Tryz.prog.cellsOf 3 = 1 := by kernel_rfl
  have c2 : Tryz.prog.cellsOf 22 = 1 := by kernel_rfl
  have c3 : Tryz.prog.cellsOf 23 = 1 := by kernel_rfl
  have g0 : DataW.trod enc Tryz.prog w 0 (fun _ => true) true n 3 ((cs.drop 0).take (Tryz.prog.cellsOf 3)) = xs[0]? := hg 0 _ rfl
  rw [c1] at g0
  have g1 : DataW.trod enc Tryz.prog w 0 (fun _ => true) true n 3 ((cs.drop 1).take (Tryz.prog.cellsOf 3)) = xs[1]? := hg 1 _ rfl
  rw [c1] at g1
  have g2 : DataW.trod enc Tryz.prog w 0 (fun _ => true) true n 3 ((cs.drop 2).take (Tryz.prog.cellsOf 3)) = xs[2]? := hg 2 _ rfl
  rw [c1] at g2
  have g3 : DataW.trod enc Tryz.prog w 0 (fun _ => true) true n 3 ((cs.drop 3).take (Tryz.prog.cellsOf 3)) = xs[3]? := hg 3 _ rfl
  rw [c1] at g3
  have g4 : DataW.trod enc Tryz.prog w 0 (fun _ => true) true n 3 ((cs.drop 4).take (Tryz.prog.cellsOf 3)) = xs[4]? := hg 4 _ rfl
  rw [c1] at g4
  have g5 : DataW.trod enc Tryz.prog w 0 (fun _ => true) true n 3 ((cs.drop 5).take (Tryz.prog.cellsOf 3)) = xs[5]? := hg 5 _ rfl
  rw [c1] at g5
  have g6 : DataW.trod enc Tryz.prog w 0 (fun _ => true) true n 22 ((cs.drop 6).take (Tryz.prog.cellsOf 22)) = xs[6]? := hg 6 _ rfl
  rw [c2] at g6
  have g7 : DataW.trod enc Tryz.prog w 0 (fun _ => true) true n 3 ((cs.drop 7).take (Tryz.prog.cellsOf 3)) = xs[7]? := hg 7 _ rfl
  rw [c1] at g7
  have g8 : DataW.trod enc Tryz.prog w 0 (fun _ => true) true n 3 ((cs.drop 8).take (Tryz.prog.cellsOf 3)) = xs[8]? := hg 8 _ rfl
  rw [c1] at g8
  have g9 : DataW.trod enc Tryz.prog w 0 (fun _ => true) true n 23 ((cs.drop 9).take (Tryz.prog.cellsOf 23)) = xs[9]? := hg 9 _ rfl
  rw [c3] at g9
  have hl10 : xs.length = 10 := hlen
  have e : ∀ i, i < 10 → ∃ y, xs[i]? = some y := fun i hi => ⟨_, List.getElem?_eq_getElem (by omega)⟩
  obtain ⟨y0, e0⟩ := e 0 (by omega)
  rw [e0] at g0
  obtain ⟨y1, e1⟩ := e 1 (by omega)
  rw [e1] at g1
  obtain ⟨y2, e2⟩ := e 2 (by omega)
  rw [e2] at g2
  obtain ⟨y3, e3⟩ := e 3 (by omega)
  rw [e3] at g3
  obtain ⟨y4, e4⟩ := e 4 (by omega)
  rw [e4] at g4
  obtain ⟨y5, e5⟩ := e 5 (by omega)
  rw [e5] at g5
  obtain ⟨y6, e6⟩ := e 6 (by omega)
  rw [e6] at g6
  obtain ⟨y7, e7⟩ := e 7 (by omega)
  rw [e7] at g7
  obtain ⟨y8, e8⟩ := e 8 (by omega)
  rw [e8] at g8
  obtain ⟨y9, e9⟩ := e 9 (by omega)
  rw [e9] at g9
  have hxs : xs = [y0, y1, y2, y3, y4, y5, y6, y7, y8, y9] := by
    apply List.ext_getElem?
    intro i
    match i with
    | 0 => exact e0
    | 1 => exact e1
    | 2 => exact e2
    | 3 => exact e3
    | 4 => exact e4
    | 5 => exact e5
    | 6 => exact e6
    | 7 => exact e7
    | 8 => exact e8
    | 9 => exact e9
    | i + 10 => rw [List.getElem?_eq_none (by omega), List.getElem?_eq_none (by simp)]
  have hz6 : ∀ z ∈ y6.1.weights Tryz.prog 22, z ≤ reachBytes := fun z hzz => hz z (by
    rw [hxe, hxs]
    simp only [List.map_cons, List.map_nil, DataW.weights, Tryz.underlying25, DataW.weightsEach, List.mem_append]
    exact .inr (.inr (.inr (.inr (.inr (.inr (.inl hzz)))))))
  have hz9 : ∀ z ∈ y9.1.weights Tryz.prog 23, z ≤ reachBytes := fun z hzz => hz z (by
    rw [hxe, hxs]
    simp only [List.map_cons, List.map_nil, DataW.weights, Tryz.underlying25, DataW.weightsEach, List.mem_append]
    exact .inr (.inr (.inr (.inr (.inr (.inr (.inr (.inr (.inr (.inl hzz))))))))))
  obtain ⟨a0, q0, _, w0⟩ := DataW.trod_int Tryz.underlying3 g0
  obtain ⟨a1, q1, _, w1⟩ := DataW.trod_int Tryz.underlying3 g1
  obtain ⟨a2, q2, _, w2⟩ := DataW.trod_int Tryz.underlying3 g2
  obtain ⟨a3, q3, _, w3⟩ := DataW.trod_int Tryz.underlying3 g3
  obtain ⟨a4, q4, _, w4⟩ := DataW.trod_int Tryz.underlying3 g4
  obtain ⟨a5, q5, _, w5⟩ := DataW.trod_int Tryz.underlying3 g5
  obtain ⟨D, nd, cd, da, q6, hd1, hd2, hd3, hd4, hd5⟩ := trodBz g6 hz6
  obtain ⟨a7, q7, _, w7⟩ := DataW.trod_int Tryz.underlying3 g7
  obtain ⟨a8, q8, _, w8⟩ := DataW.trod_int Tryz.underlying3 g8
  obtain ⟨N, nn, cn, nx, q9, hnx⟩ := trodI g9
  refine ⟨⟨⟨a0, a1, a2, a3, a4, a5, da, a7, a8, nx⟩, D, nd, cd, N, nn, cn⟩, fun i hi => ?_, ⟨hd1, hd2, hd3, hd4, hd5⟩, ⟨hnx, by rw [← hnx.1]; exact trodI_sized g9 q9 hnx hz9⟩, w0, w1, w2, w3, w4, w5, w7, w8⟩
  match i, hi with
  | 0, _ => exact one_of q0
  | 1, _ => exact one_of q1
  | 2, _ => exact one_of q2
  | 3, _ => exact one_of q3
  | 4, _ => exact one_of q4
  | 5, _ => exact one_of q5
  | 6, _ => exact one_of q6
  | 7, _ => exact one_of q7
  | 8, _ => exact one_of q8
  | 9, _ => exact one_of q9

set_option maxRecDepth 100000 in
theorem openWz {v : Value} {r : Reach} {b0 : Nat} {d : DataW H} {p : List MemPlace} (hv : Value.okWide Tryz.prog w r b0 25 v) (h : DataW.Trod enc Tryz.prog w 0 (fun _ => true) true 25 v d p) (hz : ∀ z ∈ d.weights Tryz.prog 25, z ≤ reachBytes) :
    ∃ y : WH, v = .agg (whc y).toArray ∧ ArgW w y.x y.D y.nd y.cd y.N y.nn y.cn := by
  obtain ⟨cs, rfl, hsz⟩ := okWide_struct Tryz.underlying25 hv
  obtain ⟨fuel, hf⟩ := h
  obtain ⟨y, hy, ha⟩ := trod_wish hf hz
  have hs : cs.size = 10 := by rw [hsz]; kernel_rfl
  refine ⟨y, ?_, ha⟩
  congr 1
  apply Array.toList_inj.1
  apply List.ext_getElem?
  intro i
  by_cases hi : i < 10
  · exact hy i hi
  · rw [List.getElem?_eq_none (by simp; omega), List.getElem?_eq_none (by simp [whc]; omega)]

set_option maxRecDepth 100000 in
theorem openLz {A : Option Addr} {n c : Nat} {d : DataW H} {p : List MemPlace} (h : DataW.Trod enc Tryz.prog w 0 (fun _ => true) true 26 (.slice A n c) d p) (hz : ∀ z ∈ d.weights Tryz.prog 26, z ≤ reachBytes) : ∃ l, ArgL w A n c l ∧ l.length < 1256584717458 := by
  obtain ⟨fuel, hf⟩ := h
  have hC : Tryz.prog.cellsOf 25 = 10 := by kernel_rfl
  have hBy : Tryz.prog.bytesOf 25 = 112 := by kernel_rfl
  rcases Go.Deep.open_slice Tryz.underlying26 hf with ⟨hcs, _⟩ | ⟨a, len, cap, m, k, D, Pl, hcs, _, hl, hm, hmm, hxd, hi⟩
  · simp [Value.cells] at hcs
    obtain ⟨rfl, rfl, rfl⟩ := hcs
    exact ⟨[], ⟨rfl, Nat.le_refl _, by simp [maxLen], fun hn => absurd rfl hn⟩, by simp⟩
  · simp [Value.cells] at hcs
    obtain ⟨rfl, rfl, rfl⟩ := hcs
    rw [hC] at hi
    have hm' : n ≤ m := by rw [hmm]; simp; omega
    have hxd' := (Prod.mk.inj hxd).1
    rw [hxd'] at hz
    simp only [DataW.weights, Tryz.underlying26, List.mem_cons, List.mem_append] at hz
    have h1 := hz _ (.inl rfl)
    rw [hBy] at h1
    simp only [List.length_map, List.length_range] at h1
    simp [reachBytes] at h1
    have hD : ∀ r, r < n → ∀ z ∈ (D r).weights Tryz.prog 25, z ≤ reachBytes := fun r hr z hzz => hz z (.inr (.inl (all_mem _ (List.mem_map.2 ⟨r, List.mem_range.2 hr, rfl⟩) hzz)))
    rcases Nat.eq_zero_or_pos n with h0 | hpos
    · subst h0
      exact ⟨[], ⟨rfl, hl, hm, fun hn => absurd rfl hn⟩, by simp⟩
    have hs : a.spot = none := by
      obtain ⟨cs', hc, ht⟩ := hi 0 (by omega)
      obtain ⟨y, k0, _⟩ := trod_wish ht (hD _ (by omega))
      obtain ⟨_, _, hat⟩ := World.cells?_some hc
      have h1 := hat 0 (by omega)
      rw [k0 0 (by omega)] at h1
      have e : a.add (0 * 10) = a := by unfold Addr.add; simp
      rw [e] at h1
      exact spot_of h1
    obtain ⟨b, off, spot⟩ := a
    simp only at hs
    subst hs
    have key : ∀ r, r < n → ∃ y : WH, (∀ j, j < 10 → w.cell? ⟨b, off + r * 10 + j, none⟩ = (whc y)[j]?) ∧ ArgW w y.x y.D y.nd y.cd y.N y.nn y.cn := fun r hr => by
      obtain ⟨cs', hc, ht⟩ := hi r (by omega)
      obtain ⟨y, k0, ha⟩ := trod_wish ht (hD _ (by omega))
      obtain ⟨_, _, hat⟩ := World.cells?_some hc
      refine ⟨y, fun j hj => ?_, ha⟩
      have := hat j (by omega)
      rw [add_mk, add_mk] at this
      exact this.trans (k0 j hj)
    obtain ⟨ls, hlen, hls⟩ := choose_any n key
    refine ⟨ls.map (·.x), ⟨by rw [List.length_map]; exact hlen, hl, hm, fun hne => ⟨b, off, rfl, ?_, fun j hj => ?_⟩⟩, by rw [List.length_map, hlen]; omega⟩
    · have h0 := (hls 0 (by omega)).1 0 (by omega)
      exact World.block_lt_of_cell? w _ (h0.trans rfl)
    · rw [List.length_map] at hj
      rw [List.getElem_map]
      obtain ⟨h2, h3⟩ := hls j hj
      refine ⟨ls[j].D, ls[j].nd, ls[j].cd, ls[j].N, ls[j].nn, ls[j].cn, fun i u hu => ?_, h3⟩
      have hi : i < 10 := by
        rcases Nat.lt_or_ge i 10 with h | h
        · exact h
        · rw [List.getElem?_eq_none (by rw [whc_len]; exact h)] at hu; cases hu
      exact (h2 i hi).trans hu

end

end Go.Proofs.YtihmddpafbackaaGreat

namespace Go.Proofs.YtihmddpafbackaaGreat

open Go.RowKit Go.Maps

set_option linter.unusedVariables false

set_option linter.unusedSimpArgs false

theorem arg_zero (w : World) : ArgW w W0 none 0 0 none 0 0 := ⟨⟨rfl, Nat.le_refl _, by simp [maxLen], Bs.nil _ _, by omega⟩, ⟨argI_nil w, by omega⟩, by decide, by decide, by decide, by decide, by decide, by decide, by decide, by decide⟩

def alikeB : List Wl → List Wl → Bool
  | [], [] => true
  | x :: l, y :: m => sameB x y && alikeB l m
  | _, _ => false

theorem alikeB_iff : ∀ (l m : List Wl), alikeB l m = true ↔ l = m
  | [], [] => by simp [alikeB]
  | [], y :: m => by simp [alikeB]
  | x :: l, [] => by simp [alikeB]
  | x :: l, y :: m => by
    rw [alikeB, Bool.and_eq_true, sameB_iff, eqW_iff, alikeB_iff l m, List.cons.injEq]

theorem alikeB_self (l : List Wl) : alikeB l l = true := (alikeB_iff l l).2 rfl

theorem alikeB_len {l m : List Wl} (h : l.length ≠ m.length) : alikeB l m = false := by
  rw [Bool.eq_false_iff]; intro e; rw [(alikeB_iff l m).1 e] at h; exact h rfl

theorem alikeB_drop : ∀ {l m : List Wl} {j : Nat} (hl : j < l.length) (hm : j < m.length), alikeB (l.drop j) (m.drop j) = (sameB l[j] m[j] && alikeB (l.drop (j + 1)) (m.drop (j + 1))) := by
  intro l m j hl hm
  rw [List.drop_eq_getElem_cons hl, List.drop_eq_getElem_cons hm, alikeB]

set_option maxRecDepth 100000 in
set_option maxHeartbeats 3200000 in
theorem alike_any (A A' : Option Addr) (n n' c c' : Nat) (l m : List Wl) (w : World) (h : ArgL w A n c l) (h' : ArgL w A' n' c' m) : Calls Tryz.prog 20 #[.slice A n c, .slice A' n' c'] w fun e w' => e = .returned (.bool (alikeB l m)) ∧ Below w.heap.size w w' := by
  obtain ⟨r, hr⟩ : ∃ r, alikeB l m = r := ⟨_, rfl⟩
  rw [hr]
  have Hr := Lib.hid hr
  clear hr
  have hn := h.1
  have hn' := h'.1
  have hcm := h.2.2.1
  have hcm' := h'.2.2.1
  have hnc := h.2.1
  have hnc' := h'.2.1
  unfold maxLen at hcm hcm'
  by_cases hnn : n = n'
  · subst hnn
    have H := Lib.hid (And.intro h (And.intro h' (And.intro hn hn')))
    clear h h' hn hn'
    go_enter Tryz.func20, Tryz.ntmps20
    go_wp2
    go_loopw [5] (fun v wr => ∃ j : Nat, j ≤ n ∧ v = .int .i64 j ∧ Hid (r = alikeB (l.drop j) (m.drop j) ∧ Below w.heap.size w wr)) (fun v _ => n - (intOf v).toNat)
    case atStart => exact ⟨0, Nat.zero_le _, rfl, Hr.out.symm, Below.refl _ _⟩
    case round =>
      obtain ⟨j, hj, rfl, hI⟩ := hrel
      by_cases hlt : j < n
      · have hlt' : (j : Int) < n := by omega
        have h0 : (0 : Int) ≤ j := by omega
        have hjl : j < l.length := by rw [H.out.2.2.1]; exact hlt
        have hjm : j < m.length := by rw [H.out.2.2.2]; exact hlt
        obtain ⟨b, off, D, nd, cd, N, nn, cn, hA, hb, hrg, hAW⟩ := (H.out.1.after hI.out.2).at_ hjl
        obtain ⟨b', off', D', nd', cd', N', nn', cn', hA', hb', hrg', hAW'⟩ := (H.out.2.1.after hI.out.2).at_ hjm
        have Hst : Hid (r = (sameB l[j] m[j] && alikeB (l.drop (j + 1)) (m.drop (j + 1)))) := by show _ = _; rw [hI.out.1]; exact alikeB_drop hjl hjm
        generalize l[j] = x at *
        generalize m[j] = y at *
        subst hA hA'
        have Hx := Lib.hid (And.intro hAW (And.intro hAW' (And.intro hI.out.2 (And.intro hrg hrg'))))
        clear hAW hAW' hI hjl hjm
        obtain ⟨s, hs⟩ : ∃ s, sameB x y = s := ⟨_, rfl⟩
        have Hs := Lib.hid hs
        rw [hs] at Hst
        clear hs
        have hdr : Below wr.heap.size wr wr.drew := (Below.refl _ _).drew
        have Q0 : wr.drew.rangeAt b (off + j * 10) (whc ⟨x, D, nd, cd, N, nn, cn⟩) ∧ wr.drew.rangeAt b' (off' + j * 10) (whc ⟨y, D', nd', cd', N', nn', cn'⟩) := ⟨range_on hrg hdr hb, range_on hrg' hdr hb'⟩
        clear hrg hrg'
        go_wp2_with fail
        refine wp_region_held_drew (S := fun W' => W'.rangeAt b (off + j * 10) (whc ⟨x, D, nd, cd, N, nn, cn⟩) ∧ W'.rangeAt b' (off' + j * 10) (whc ⟨y, D', nd', cd', N', nn', cn'⟩)) (by kernel_rfl) Q0 (fun _ => ?_)
        refine anyH_take (i := 0) (d := 17) (v := ?v0) rfl rfl (by kernel_rfl) (by kernel_rfl) (by kernel_rfl) (fun _ _ _ h => h) (Or.inl ⟨by rfl, ?vy0⟩) Q0 ?vr0
        case vy0 => (intro w; go_simp; try with_reducible rfl)
        simp only [List.setIfInBounds_toArray, List.set_cons_zero, List.set_cons_succ]
        refine anyH_take (i := 1) (d := 18) (v := ?v1) rfl rfl (by kernel_rfl) (by kernel_rfl) (by kernel_rfl) (fun _ _ _ h => h) (Or.inl ⟨by rfl, ?vy1⟩) Q0 ?vr1
        case vy1 => (intro w; go_simp; try with_reducible rfl)
        simp only [List.setIfInBounds_toArray, List.set_cons_zero, List.set_cons_succ]
        refine anyH_take (i := 2) (d := 19) (v := ?v2) rfl rfl (by kernel_rfl) (by kernel_rfl) (by kernel_rfl) (fun _ _ _ h => h) (Or.inl ⟨by rfl, ?vy2⟩) Q0 ?vr2
        case vy2 => (intro w; go_simp; try with_reducible rfl)
        simp only [List.setIfInBounds_toArray, List.set_cons_zero, List.set_cons_succ]
        refine anyH_load (i := 3) (d := 20) rfl rfl (by kernel_rfl) (by kernel_rfl) (by kernel_rfl) (by rfl) 25 _ rfl b (off + j * 10) rfl (whc ⟨x, D, nd, cd, N, nn, cn⟩) _ (fun _ h => h.1) Tryz.underlying25 rfl wish_size (fun _ _ _ h => h) Q0 ?_
        simp only [List.setIfInBounds_toArray, List.set_cons_zero, List.set_cons_succ]
        refine anyH_take (i := 4) (d := 21) (v := ?v4) rfl rfl (by kernel_rfl) (by kernel_rfl) (by kernel_rfl) (fun _ _ _ h => h) (Or.inl ⟨by rfl, ?vy4⟩) Q0 ?vr4
        case vy4 => (intro w; go_simp; try with_reducible rfl)
        simp only [List.setIfInBounds_toArray, List.set_cons_zero, List.set_cons_succ]
        refine anyH_take (i := 5) (d := 22) (v := ?v5) rfl rfl (by kernel_rfl) (by kernel_rfl) (by kernel_rfl) (fun _ _ _ h => h) (Or.inl ⟨by rfl, ?vy5⟩) Q0 ?vr5
        case vy5 => (intro w; go_simp; try with_reducible rfl)
        simp only [List.setIfInBounds_toArray, List.set_cons_zero, List.set_cons_succ]
        refine anyH_take (i := 6) (d := 23) (v := ?v6) rfl rfl (by kernel_rfl) (by kernel_rfl) (by kernel_rfl) (fun _ _ _ h => h) (Or.inl ⟨by rfl, ?vy6⟩) Q0 ?vr6
        case vy6 => (intro w; go_simp; try with_reducible rfl)
        simp only [List.setIfInBounds_toArray, List.set_cons_zero, List.set_cons_succ]
        refine anyH_load (i := 7) (d := 24) rfl rfl (by kernel_rfl) (by kernel_rfl) (by kernel_rfl) (by rfl) 25 _ rfl b' (off' + j * 10) rfl (whc ⟨y, D', nd', cd', N', nn', cn'⟩) _ (fun _ h => h.2) Tryz.underlying25 rfl wish_size (fun _ _ _ h => h) Q0 ?_
        simp only [List.setIfInBounds_toArray, List.set_cons_zero, List.set_cons_succ]
        refine anyH_one (i := 8) (by kernel_rfl) ?_
        refine wpOp_step rfl (fun K hK => ?_)
        go_simp
        refine (rsame_any x D nd cd N nn cn y D' nd' cd' N' nn' cn' _ (Hx.out.1.after hdr) (Hx.out.2.1.after hdr)).mono ?_
        rintro e w3 ⟨rfl, hb3⟩
        rw [Hs.out]
        have Hb3 := Lib.hid hb3
        have Q1 : w3.rangeAt b (off + j * 10) (whc ⟨x, D, nd, cd, N, nn, cn⟩) ∧ w3.rangeAt b' (off' + j * 10) (whc ⟨y, D', nd', cd', N', nn', cn'⟩) := ⟨range_on Q0.1 hb3 hb, range_on Q0.2 hb3 hb'⟩
        clear hb3
        refine hK _ _ ⟨Q1, ?_⟩
        clear hK K
        refine anyH_take (i := 9) (d := 26) (v := ?v9) rfl rfl (by kernel_rfl) (by kernel_rfl) (by kernel_rfl) (fun _ _ _ h => h) (Or.inl ⟨by rfl, ?vy9⟩) Q1 ?vr9
        case vy9 => (intro w; go_simp; try with_reducible rfl)
        simp only [List.setIfInBounds_toArray, List.set_cons_zero, List.set_cons_succ]
        refine wpAnyH_done (by kernel_rfl) ?_ _
        cases s with
        | true =>
          go_wp2
          go_roundw
          case rel => exact ⟨j + 1, by omega, by go_num, by rw [Hst.out, Bool.true_and], (Hx.out.2.2.1.trans (hdr.mono Hx.out.2.2.1.size)).trans (Hb3.out.mono (Nat.le_trans Hx.out.2.2.1.size hdr.size))⟩
          case measure => simp [intOf]; omega
        | false =>
          go_wp2
          go_ret
          exact ⟨ret_bool (by rw [Hst.out, Bool.false_and]), (Hx.out.2.2.1.trans (hdr.mono Hx.out.2.2.1.size)).trans (Hb3.out.mono (Nat.le_trans Hx.out.2.2.1.size hdr.size))⟩
      · have hlt' : ¬ (j : Int) < n := by omega
        have Hz : Hid (r = true) := by show _ = _; rw [hI.out.1, List.drop_of_length_le (by rw [H.out.2.2.1]; omega), List.drop_of_length_le (by rw [H.out.2.2.2]; omega)]; rfl
        go_wp2
        go_ret
        exact ⟨ret_bool Hz.out.symm, hI.out.2⟩
  · have hne : ((n : Int) != (n' : Int)) = true := by simp; omega
    have Hz : Hid (r = false) := by show _ = _; rw [← Hr.out]; exact alikeB_len (by omega)
    clear h h' hn hn'
    go_enter Tryz.func20, Tryz.ntmps20
    go_wp2
    go_ret
    exact ⟨ret_bool Hz.out.symm, Below.refl _ _⟩

end Go.Proofs.YtihmddpafbackaaGreat

namespace Go.Proofs.YtihmddpafbackaaGreat
open Go.RowKit Go.Maps
set_option linter.unusedVariables false
set_option linter.unusedSimpArgs false

section
variable {w wr w' : World} {g : Nat} {s : List (List UInt8) × Bool × Nat} {ds : List (Nat × List Value)}
theorem bks_dg {S : Nat → Prop} {r : List UInt8 × Nat} (h1 : ∀ i, S i → w.heap.size ≤ i) (h3 : Below w.heap.size w wr) (h4 : ∀ d ∈ ds, Blk wr d.1 32 d.2 ∧ ¬ S d.1) (hP : DgPost wr S g s r w') : BkS w w' g (dgS s r) ds := by
  obtain ⟨k1, k2⟩ := hP
  refine ⟨_, fun i hi => ?_, k1, h3.trans (k2.above h1 h3.size), fun d hd => ⟨k2.blk (h4 d hd).1 (h4 d hd).2, fun e => ?_⟩⟩
  · rcases hi with hi | hi
    · exact h1 i hi
    · exact Nat.le_trans h3.size hi.1
  · rcases e with e | e
    · exact (h4 d hd).2 e
    · have := (h4 d hd).1.lt; omega
theorem bks_wd (h : BkS w wr g s ds) (hL : s.1.length < 1000000) (hk : s.2.2 < 1000000) (x : Wl) (Dx : Option Addr) (ndx cdx : Nat) (Nx : Option Addr) (nnx cnx : Nat) (hx : ArgW wr x Dx ndx cdx Nx nnx cnx) :
    Calls Tryz.prog 9 #[.pointer (some ⟨g, 0, none⟩), .agg #[.int .i64 x.cl, .int .i64 x.sp, .int .i64 x.gr, .int .i64 x.ep, .int .i64 x.kd, .int .i64 x.bl, .slice Dx ndx cdx, .int .i64 x.od, .int .i64 x.nw, .slice Nx nnx cnx]] wr fun e w' => e = .returned (.tuple #[.agg (cbs (dgD (wbytes x))).toArray, .int .i64 (dgE (wbytes x))]) ∧ BkS w w' g (dgS s (wbytes x)) ds := by
  obtain ⟨S, h1, h2, h3, h4⟩ := h
  exact (wdigest_any S g s x Dx ndx cdx Nx nnx cnx wr h2 hL hk hx).mono fun e w' ⟨he, hP⟩ => ⟨he, bks_dg h1 h3 h4 hP⟩
theorem bks_bd (h : BkS w wr g s ds) (hL : s.1.length < 1000000) (hk : s.2.2 < 1000000) (A : Option Addr) (n c : Nat) (l : List Wl) (hx : ArgL wr A n c l) :
    Calls Tryz.prog 11 #[.pointer (some ⟨g, 0, none⟩), .slice A n c] wr fun e w' => e = .returned (.tuple #[.agg (cbs (dgD (batchW l))).toArray, .int .i64 (dgE (batchW l))]) ∧ BkS w w' g (dgS s (batchW l)) ds := by
  obtain ⟨S, h1, h2, h3, h4⟩ := h
  exact (bdigest_any S g s A n c l wr h2 hL hk hx).mono fun e w' ⟨he, hP⟩ => ⟨he, bks_dg h1 h3 h4 hP⟩
end

theorem dgS_len (s : List (List UInt8) × Bool × Nat) (r : List UInt8 × Nat) : (dgS s r).1.length ≤ s.1.length + 1 ∧ (dgS s r).2.2 ≤ s.2.2 + 1 := by
  unfold dgS
  split
  · exact stepL_len s r.1
  · exact ⟨Nat.le_succ _, Nat.le_succ _⟩
theorem dgS_good (s : List (List UInt8) × Bool × Nat) (r : List UInt8 × Nat) (h : Unmixed s) : Unmixed (dgS s r) := by
  unfold dgS
  split
  · exact stepL_good s r.1 h
  · exact h
theorem good0 : Unmixed (runL []) := runL_good []
/-- Two digests of one book. -/
theorem dg_two {r q : List UInt8 × Nat} (hr : r.2 = 0) (hq : q.2 = 0) (hr6 : r.1.length ≤ 65536) (hq6 : q.1.length ≤ 65536) (hc : (dgS (dgS (runL []) r) q).2.1 = false) : (dgD r == dgD q) = decide (r.1 = q.1) := by
  have e1 : dgD r = digest r.1 := by unfold dgD ofD; rw [if_pos hr, if_pos hr6]
  have e2 : dgD q = digest q.1 := by unfold dgD ofD; rw [if_pos hq, if_pos hq6]
  have e3 : dgS (runL []) r = stepL (runL []) r.1 := by unfold dgS; rw [if_pos hr]
  have e4 : dgS (dgS (runL []) r) q = stepL (stepL (runL []) r.1) q.1 := by rw [e3]; unfold dgS; rw [if_pos hq]
  have hU : Unmixed (dgS (dgS (runL []) r) q) := dgS_good _ _ (dgS_good _ _ good0)
  have m1 : r.1 ∈ (dgS (dgS (runL []) r) q).1 := by rw [e4, stepL_mem]; left; rw [stepL_mem]; right; exact ⟨rfl, hr6⟩
  have m2 : q.1 ∈ (dgS (dgS (runL []) r) q).1 := by rw [e4, stepL_mem]; right; exact ⟨rfl, hq6⟩
  rw [e1, e2]
  by_cases h : r.1 = q.1
  · rw [h]; simp
  · have : digest r.1 ≠ digest q.1 := fun e => h (hU hc _ m1 _ m2 e)
    rw [beq_eq_false_iff_ne.2 this, decide_eq_false h]
theorem wbytes_bad {x : Wl} (h : ¬ May x) : wbytes x = ([], 2) := by unfold wbytes; rw [if_neg h]
theorem wbytes_ok {x : Wl} (h : May x) : wbytes x = (wb x, 0) := by unfold wbytes; rw [if_pos h]
theorem wish_two {x y : Wl} (hx : May x) (hy : May y) (hc : (dgS (dgS (runL []) (wbytes x)) (wbytes y)).2.1 = false) : (dgD (wbytes x) == dgD (wbytes y)) = sameB x y := by
  have h := dg_two (r := wbytes x) (q := wbytes y) (by rw [wbytes_ok hx]) (by rw [wbytes_ok hy]) (by rw [wbytes_ok hx]; have := (wb_len hx).2; show (wb x).length ≤ 65536; omega) (by rw [wbytes_ok hy]; have := (wb_len hy).2; show (wb y).length ≤ 65536; omega) hc
  rw [h, wbytes_ok hx, wbytes_ok hy]
  unfold sameB
  have : wb x = wb y ↔ EqW x y := by
    rw [eqW_iff]
    exact ⟨wb_inj hx hy, fun e => by rw [e]⟩
  exact decide_eq_decide.2 this
theorem batch_two {l m : List Wl} (hl : (batchW l).2 = 0) (hm : (batchW m).2 = 0) (hc : (dgS (dgS (runL []) (batchW l)) (batchW m)).2.1 = false) : (dgD (batchW l) == dgD (batchW m)) = alikeB l m := by
  obtain ⟨l4, lm, le⟩ := batch_ok hl
  obtain ⟨m4, mm, me⟩ := batch_ok hm
  have h := dg_two hl hm (by rw [le]; have := (btB_len l4 lm).2; omega) (by rw [me]; have := (btB_len m4 mm).2; omega) hc
  rw [h, le, me]
  have : btB l = btB m ↔ l = m := ⟨btB_inj l4 m4 lm mm, fun e => by rw [e]⟩
  rw [Bool.eq_iff_iff, decide_eq_true_eq, alikeB_iff]
  exact this
theorem dgE_ok {r : List UInt8 × Nat} (h : r.2 = 0) (hl : r.1.length ≤ 65536) : dgE r = 0 := by unfold dgE ofE; rw [if_pos h, if_pos hl]
theorem dgE_bad {r : List UInt8 × Nat} (h : r.2 ≠ 0) : dgE r = (r.2 : Int) := by unfold dgE; rw [if_neg h]
theorem batch_err {l : List Wl} (h : (batchW l).2 ≠ 0) : (batchW l).2 = 5 ∨ (batchW l).2 = 2 := by
  unfold batchW at h ⊢
  split
  · exact .inl rfl
  · next h4 =>
    split
    · next hm => rw [if_neg h4, if_pos hm] at h; exact absurd rfl h
    · exact .inr rfl
theorem batch_len0 {l : List Wl} (h : (batchW l).2 = 0) : (batchW l).1.length ≤ 65536 := by have h1 := batch_ok h; rw [h1.2.2]; have := (btB_len h1.1 h1.2.1).2; omega
end Go.Proofs.YtihmddpafbackaaGreat
