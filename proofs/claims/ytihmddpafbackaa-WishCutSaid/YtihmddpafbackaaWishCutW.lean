/-
  For every wish and every number: a wish's bytes, and those of a batch of it, that are cut are told to be short, and with a byte behind them to say what may not be said; WishCut returns true; no condition.
-/
import Derived.Test.YtihmddpafbackaaZ09
import Derived.Test.YtihmddpafbackaaZ10
import Derived.Test.YtihmddpafbackaaZ11
import Derived.Deep.DeepCutAuto
namespace Go.Proofs.Ytihmddpafbackaa.wishCut
open Go.ChangeShapes Go.WideShapes Go.ChangeAt Go.RowKit
set_option linter.unusedVariables false

theorem argL_one {w : World} {x : Wl} {D : Option Addr} {nd cd : Nat} {N : Option Addr} {nn cn : Nat} (h : ArgW w x D nd cd N nn cn) : ArgL (w.alloc (.cells (whc ⟨x, D, nd, cd, N, nn, cn⟩).toArray 25)) (some ⟨w.heap.size, 0, none⟩) 1 1 [x] := by
  have hal : Below w.heap.size w (w.alloc (.cells (whc ⟨x, D, nd, cd, N, nn, cn⟩).toArray 25)) := (Below.refl _ _).alloc (Nat.le_refl _) _
  refine ⟨rfl, Nat.le_refl _, by simp [maxLen], fun _ => ⟨w.heap.size, 0, rfl, by simp, fun j hj => ?_⟩⟩
  have hj0 : j = 0 := by simpa using hj
  subst hj0
  refine ⟨D, nd, cd, N, nn, cn, fun i u hu => ?_, h.after hal⟩
  rw [Nat.zero_mul, Nat.zero_add]
  exact (Blk.new (l := whc ⟨x, D, nd, cd, N, nn, cn⟩) rfl rfl : Blk _ w.heap.size 25 _).cell hu
set_option maxRecDepth 100000 in
set_option maxHeartbeats 6400000 in
theorem walk (x : Wl) (Dx : Option Addr) (ndx cdx : Nat) (Nx : Option Addr) (nnx cnx : Nat) (at_ : Int) (w : World) (hx : ArgW w x Dx ndx cdx Nx nnx cnx) (hat_ : (Lit.int .i64 at_).wf = true) :
    Calls Try.prog 11 #[.agg #[.int .i64 x.cl, .int .i64 x.sp, .int .i64 x.gr, .int .i64 x.ep, .int .i64 x.kd, .int .i64 x.bl, .slice Dx ndx cdx, .int .i64 x.od, .int .i64 x.nw, .slice Nx nnx cnx], .int .i64 at_] w fun e w' => e = .returned (.bool true) ∧ Below w.heap.size w w' := by
  have hx0 := Wx.new (w := w) (x := x) (D := Dx) (nd := ndx) (cd := cdx) (N := Nx) (nn := nnx) (cn := cnx)
  have H := Lib.hid (And.intro hx0 (hx.after hx0.bel))
  clear hx hx0
  by_cases hm : May x
  rotate_left
  · have hwb : wbytes x = ([], 2) := by unfold wbytes; rw [if_neg hm]
    have HM := Lib.hid hwb
    clear hwb hm
    go_enter Try.func11, Try.ntmps11
    go_wp2_with fail
    refine (works11_any _).mono ?_
    rintro e w1 ⟨rfl, hb1⟩
    have hx1 := H.out.1.on hb1
    obtain ⟨⟨k0, k1, k2, k3, k4⟩, k5, k6, k7, k8, k9⟩ := hx1.ks
    have H1 := Lib.hid (And.intro hx1 (H.out.2.after hb1))
    clear hx1 hb1
    go_wp2_with fail
    have hc := bytes_wish x Dx ndx cdx Nx nnx cnx w1 H1.out.2
    rw [HM.out] at hc
    refine hc.mono ?_
    clear hc
    rintro e w2 ⟨v2, rfl, hN2⟩
    have Hb2 := Lib.hid (H1.out.1.on hN2.2).bel
    clear hN2
    go_wp2
    go_ret
    exact ⟨rfl, Hb2.out⟩
  have hwb : wbytes x = (wb x, 0) := by unfold wbytes; rw [if_pos hm]
  have hlen := wb_len hm
  have hall : ∀ y ∈ [x], May y := by intro y hy; rw [List.mem_singleton] at hy; rw [hy]; exact hm
  have hbt : batchW [x] = (btB [x], 0) := by unfold batchW; rw [if_neg (by simp), if_pos hall]
  have hlenc := btB_len (l := [x]) (by simp) hall
  have hp1 : ∀ k, k < (wb x).length → parse ((wb x).take k) = (W0, 3) := fun k hk => parse_cut hm hk
  have hp2 : parse (wb x ++ [0]) = (W0, 4) := parse_more hm (by simp)
  have hu1 : ∀ k, k < (btB [x]).length → unb ((btB [x]).take k) = ([], 3) := fun k hk => unb_cut hm hk
  have hu2 : unb (btB [x] ++ [0]) = ([], 4) := by rw [unb_all (by simp) hall]; simp
  obtain ⟨l, hl⟩ : ∃ l, wb x = l := ⟨_, rfl⟩
  obtain ⟨c, hc⟩ : ∃ c, btB [x] = c := ⟨_, rfl⟩
  rw [hl] at hwb hlen hp1 hp2
  rw [hc] at hbt hlenc hu1 hu2
  obtain ⟨n, hn⟩ : ∃ n, l.length = n := ⟨_, rfl⟩
  obtain ⟨m, hmm⟩ : ∃ m, c.length = m := ⟨_, rfl⟩
  rw [hn] at hlen hp1
  rw [hmm] at hlenc hu1
  obtain ⟨r1, hr10, hr11, hbr1⟩ := bring_ex at_ (n : Int) (by omega) (by omega) hat_
  obtain ⟨r2, hr20, hr21, hbr2⟩ := bring_ex at_ (m : Int) (by omega) (by omega) hat_
  obtain ⟨k1n, rfl⟩ := Int.eq_ofNat_of_zero_le hr10
  obtain ⟨k2n, rfl⟩ := Int.eq_ofNat_of_zero_le hr20
  have hk1 : k1n < n := by omega
  have hk2 : k2n < m := by omega
  have HM := Lib.hid (And.intro hwb (And.intro hbt (And.intro (hp1 k1n hk1) (And.intro hp2 (And.intro (hu1 k2n hk2) (And.intro hu2 (And.intro hn (And.intro hmm (And.intro hbr1 hbr2)))))))))
  have hn128 : n < 128 := hlen.2
  have hm552 : m ≤ 552 := hlenc.2
  clear hwb hbt hp1 hp2 hu1 hu2 hn hmm hl hc hbr1 hbr2 hall hlen hlenc hm hr10 hr11 hr20 hr21
  go_enter Try.func11, Try.ntmps11
  go_wp2_with fail
  refine (works11_any _).mono ?_
  rintro e w1 ⟨rfl, hb1⟩
  have hx1 := H.out.1.on hb1
  obtain ⟨⟨k0, k1, k2, k3, k4⟩, k5, k6, k7, k8, k9⟩ := hx1.ks
  have H1 := Lib.hid (And.intro hx1 (H.out.2.after hb1))
  clear hx1 hb1
  go_wp2_with fail
  have hc := bytes_wish x Dx ndx cdx Nx nnx cnx w1 H1.out.2
  rw [HM.out.1] at hc
  refine hc.mono ?_
  clear hc
  rintro e w2 ⟨v2, rfl, hN2⟩
  obtain ⟨A2, c2, rfl, hl2, hc2, hB2⟩ := hN2.form
  simp only at hl2 hB2 ⊢
  rw [HM.out.2.2.2.2.2.2.1] at hl2
  rw [HM.out.2.2.2.2.2.2.1]
  have hx2 := H1.out.1.on hN2.2
  obtain ⟨⟨k0, k1, k2, k3, k4⟩, k5, k6, k7, k8, k9⟩ := hx2.ks
  have haL := argL_one (H1.out.2.after hN2.2)
  have hal : Below w2.heap.size w2 (w2.alloc (.cells (whc ⟨x, Dx, ndx, cdx, Nx, nnx, cnx⟩).toArray 25)) := (Below.refl _ _).alloc (Nat.le_refl _) _
  have H2 := Lib.hid (And.intro haL (And.intro (hB2.after hal) (hx2.bel.trans (hal.mono hx2.bel.size))))
  clear hN2 hB2 hx2 haL hal
  go_wp2_with fail
  have hc := batch_any _ 1 1 [x] _ H2.out.1
  rw [HM.out.2.1] at hc
  refine hc.mono ?_
  clear hc
  rintro e w3 ⟨v3, rfl, hN3⟩
  obtain ⟨A3, c3, rfl, hl3, hc3, hB3⟩ := hN3.form
  simp only at hl3 hB3 ⊢
  rw [HM.out.2.2.2.2.2.2.2.1] at hl3
  rw [HM.out.2.2.2.2.2.2.2.1]
  have H3 := Lib.hid (And.intro (H2.out.2.1.after hN3.2) (And.intro hB3 (H2.out.2.2.trans (hN3.2.mono H2.out.2.2.size))))
  clear hN3 hB3
  unfold maxLen at hc2 hc3
  have hf1 := run_front A2 n c2 k1n (by omega)
  have hf2 := run_front A3 m c3 k2n (by omega)
  go_wp2_with fail
  refine (HM.out.2.2.2.2.2.2.2.2.1 w3).mono ?_
  rintro e w' ⟨rfl, rfl⟩
  go_wp2_with fail
  have hc := parse_any A2 k1n c2 (l.take k1n) w' (H3.out.1.front (by rw [HM.out.2.2.2.2.2.2.1]; omega)) (by rw [List.length_take, HM.out.2.2.2.2.2.2.1]; omega) (by omega) (by unfold maxLen; omega) (by omega)
  rw [HM.out.2.2.1] at hc
  refine hc.mono ?_
  clear hc
  rintro e w4 ⟨v, rfl, hV, hb4⟩
  obtain ⟨D4, nd4, cd4, N4, nn4, cn4, rfl, _⟩ := hV
  have hal : Below w4.heap.size w4 (w4.alloc (.cells #[.int .i64 W0.cl, .int .i64 W0.sp, .int .i64 W0.gr, .int .i64 W0.ep, .int .i64 W0.kd, .int .i64 W0.bl, .slice D4 nd4 cd4, .int .i64 W0.od, .int .i64 W0.nw, .slice N4 nn4 cn4] 25)) := (Below.refl _ _).alloc (Nat.le_refl _) _
  have hb5 := hb4.trans (hal.mono hb4.size)
  obtain ⟨W5, hW5⟩ : ∃ W, (w4.alloc (.cells #[.int .i64 W0.cl, .int .i64 W0.sp, .int .i64 W0.gr, .int .i64 W0.ep, .int .i64 W0.kd, .int .i64 W0.bl, .slice D4 nd4 cd4, .int .i64 W0.od, .int .i64 W0.nw, .slice N4 nn4 cn4] 25)) = W := ⟨_, rfl⟩
  rw [hW5] at hb5
  have H5 := Lib.hid (And.intro (H3.out.1.after hb5) (And.intro (H3.out.2.1.after hb5) (H3.out.2.2.trans (hb5.mono H3.out.2.2.size))))
  have HW5 := Lib.hid hW5
  clear hb4 hal hb5 hW5
  go_upto_region 8 with fail
  rw [HW5.out]
  go_wp2_with fail
  refine (copyBytes A2 c2 n l W5 H5.out.1 HM.out.2.2.2.2.2.2.1 (by omega)).mono ?_
  rintro e w6 ⟨v6, rfl, hN6⟩
  have hal6 : Below w6.heap.size w6 (w6.alloc (.cells #[.int .u8 0] 5)) := (Below.refl _ _).alloc (Nat.le_refl _) _
  have hb6 := hN6.2.trans (hal6.mono hN6.2.size)
  have hln : l.length + 1 ≤ 140737488355328 := by rw [HM.out.2.2.2.2.2.2.1]; omega
  have hM6 : Mine (w6.alloc (.cells #[.int .u8 0] 5)) W5.heap.size 5 v6 l := Mine.after hN6.1 hal6
  have H6 := Lib.hid (And.intro hM6 hb6)
  clear hN6 hal6 hb6 hM6
  go_wp2_with (at_builtin; refine wp_appendB rfl _ _ rfl W5.heap.size _ l rfl H6.out.1 _ 1 1 [0] rfl (bs_made w6 5 #[.int .u8 0] [0] rfl) rfl hln H6.out.2.size ?_; intro v7 w7 hm7 hg7 ho7)
  obtain ⟨A7, c7, rfl, hl7, hc7, hB7⟩ := hm7.form
  have hb7 : Below W5.heap.size W5 w7 := H6.out.2.grown hg7 H6.out.2.size (fun k hk => (World.ownsRow.lt H6.out.1 k hk).1)
  have hlen1 : (l ++ [0]).length = n + 1 := by rw [List.length_append, HM.out.2.2.2.2.2.2.1]; rfl
  rw [hlen1] at hl7
  rw [hlen1]
  have H7 := Lib.hid (And.intro hB7 (And.intro hlen1 (And.intro (H5.out.1.after hb7) (And.intro (H5.out.2.1.after hb7) (H5.out.2.2.trans (hb7.mono H5.out.2.2.size))))))
  clear hm7 hg7 ho7 hB7 hb7 hlen1 hln
  go_wp2_with fail
  have hc := parse_any A7 (n + 1) c7 (l ++ [0]) w7 H7.out.1 H7.out.2.1 hl7 hc7 (by omega)
  rw [HM.out.2.2.2.1] at hc
  refine hc.mono ?_
  clear hc
  rintro e w8 ⟨v, rfl, hV, hb8⟩
  obtain ⟨D8, nd8, cd8, N8, nn8, cn8, rfl, _⟩ := hV
  have hal : Below w8.heap.size w8 (w8.alloc (.cells #[.int .i64 W0.cl, .int .i64 W0.sp, .int .i64 W0.gr, .int .i64 W0.ep, .int .i64 W0.kd, .int .i64 W0.bl, .slice D8 nd8 cd8, .int .i64 W0.od, .int .i64 W0.nw, .slice N8 nn8 cn8] 25)) := (Below.refl _ _).alloc (Nat.le_refl _) _
  have hb9 := hb8.trans (hal.mono hb8.size)
  obtain ⟨W9, hW9⟩ : ∃ W, (w8.alloc (.cells #[.int .i64 W0.cl, .int .i64 W0.sp, .int .i64 W0.gr, .int .i64 W0.ep, .int .i64 W0.kd, .int .i64 W0.bl, .slice D8 nd8 cd8, .int .i64 W0.od, .int .i64 W0.nw, .slice N8 nn8 cn8] 25)) = W := ⟨_, rfl⟩
  rw [hW9] at hb9
  have H9 := Lib.hid (And.intro (H7.out.2.2.2.1.after hb9) (H7.out.2.2.2.2.trans (hb9.mono H7.out.2.2.2.2.size)))
  have HW9 := Lib.hid hW9
  clear hb8 hal hb9 hW9
  go_upto_region 9 with fail
  rw [HW9.out]
  go_wp2_with fail
  refine (HM.out.2.2.2.2.2.2.2.2.2 W9).mono ?_
  rintro e w' ⟨rfl, rfl⟩
  go_wp2_with fail
  have hc := unbatch_any A3 k2n c3 (c.take k2n) w' (H9.out.1.front (by rw [HM.out.2.2.2.2.2.2.2.1]; omega)) (by rw [List.length_take, HM.out.2.2.2.2.2.2.2.1]; omega) (by omega) (by unfold maxLen; omega) (by omega)
  rw [HM.out.2.2.2.2.1] at hc
  refine hc.mono ?_
  clear hc
  rintro e w10 ⟨v, ys, rfl, hO, _, _, hb10⟩
  obtain ⟨A10, c10, rfl⟩ := row_form hO.1
  have H10 := Lib.hid (And.intro (H9.out.1.after hb10) (H9.out.2.trans (hb10.mono H9.out.2.size)))
  clear hO hb10
  go_wp2_with fail
  refine (copyBytes A3 c3 m c w10 H10.out.1 HM.out.2.2.2.2.2.2.2.1 (by omega)).mono ?_
  rintro e w11 ⟨v11, rfl, hN11⟩
  have hal11 : Below w11.heap.size w11 (w11.alloc (.cells #[.int .u8 0] 5)) := (Below.refl _ _).alloc (Nat.le_refl _) _
  have hb11 := hN11.2.trans (hal11.mono hN11.2.size)
  have hln : c.length + 1 ≤ 140737488355328 := by rw [HM.out.2.2.2.2.2.2.2.1]; omega
  have hM11 : Mine (w11.alloc (.cells #[.int .u8 0] 5)) w10.heap.size 5 v11 c := Mine.after hN11.1 hal11
  have H11 := Lib.hid (And.intro hM11 hb11)
  clear hN11 hal11 hb11 hM11
  go_wp2_with (at_builtin; refine wp_appendB rfl _ _ rfl w10.heap.size _ c rfl H11.out.1 _ 1 1 [0] rfl (bs_made w11 5 #[.int .u8 0] [0] rfl) rfl hln H11.out.2.size ?_; intro v12 w12 hm12 hg12 ho12)
  obtain ⟨A12, c12, rfl, hl12, hc12, hB12⟩ := hm12.form
  have hb12 : Below w10.heap.size w10 w12 := H11.out.2.grown hg12 H11.out.2.size (fun k hk => (World.ownsRow.lt H11.out.1 k hk).1)
  have hlen1 : (c ++ [0]).length = m + 1 := by rw [List.length_append, HM.out.2.2.2.2.2.2.2.1]; rfl
  rw [hlen1] at hl12
  rw [hlen1]
  have H12 := Lib.hid (And.intro hB12 (And.intro hlen1 (H10.out.2.trans (hb12.mono H10.out.2.size))))
  clear hm12 hg12 ho12 hB12 hb12 hlen1 hln
  go_wp2_with fail
  have hc := unbatch_any A12 (m + 1) c12 (c ++ [0]) w12 H12.out.1 H12.out.2.1 hl12 hc12 (by omega)
  rw [HM.out.2.2.2.2.2.1] at hc
  refine hc.mono ?_
  clear hc
  rintro e w13 ⟨v, zs, rfl, hO, _, _, hb13⟩
  obtain ⟨A13, c13, rfl⟩ := row_form hO.1
  have Hb13 := Lib.hid (H12.out.2.2.trans (hb13.mono H12.out.2.2.size))
  clear hO hb13
  go_wp2
  go_ret
  exact ⟨rfl, Hb13.out⟩

end Go.Proofs.Ytihmddpafbackaa.wishCut
