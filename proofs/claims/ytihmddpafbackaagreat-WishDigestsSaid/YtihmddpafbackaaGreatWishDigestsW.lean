/-
  For all wishes and lists of wishes: Digest and BatchDigest answer as the document's do, and the book then has as many inputs, asked as often, as the document's; WishDigests returns true; no condition.
-/
import Derived.Test.YtihmddpafbackaaGreatZ23
import Derived.Test.YtihmddpafbackaaGreatZ16
import Derived.Deep.DeepCutAuto
namespace Go.Proofs.YtihmddpafbackaaGreat.wishDigests
open Go.ChangeShapes Go.WideShapes Go.ChangeAt Go.RowKit Go.Maps
set_option linter.unusedVariables false

set_option maxRecDepth 100000 in
set_option maxHeartbeats 12800000 in
theorem walk (x : Wl) (Dx : Option Addr) (ndx cdx : Nat) (Nx : Option Addr) (nnx cnx : Nat) (Al : Option Addr) (nl cl : Nat) (l : List Wl) (w : World) (hx : ArgW w x Dx ndx cdx Nx nnx cnx) (hl : ArgL w Al nl cl l ∧ l.length < 1256584717458) :
    Calls Tryz.prog 3 #[.agg #[.int .i64 x.cl, .int .i64 x.sp, .int .i64 x.gr, .int .i64 x.ep, .int .i64 x.kd, .int .i64 x.bl, .slice Dx ndx cdx, .int .i64 x.od, .int .i64 x.nw, .slice Nx nnx cnx], .slice Al nl cl] w fun e w' => e = .returned (.bool true) ∧ Below w.heap.size w w' := by
  have hb0 : Below w.heap.size w (w.alloc (.cells #[.int .i64 x.cl, .int .i64 x.sp, .int .i64 x.gr, .int .i64 x.ep, .int .i64 x.kd, .int .i64 x.bl, .slice Dx ndx cdx, .int .i64 x.od, .int .i64 x.nw, .slice Nx nnx cnx] 25)) := (Below.refl _ _).alloc (Nat.le_refl _) _
  have hB1 : Blk (w.alloc (.cells #[.int .i64 x.cl, .int .i64 x.sp, .int .i64 x.gr, .int .i64 x.ep, .int .i64 x.kd, .int .i64 x.bl, .slice Dx ndx cdx, .int .i64 x.od, .int .i64 x.nw, .slice Nx nnx cnx] 25)) w.heap.size 25 [.int .i64 x.cl, .int .i64 x.sp, .int .i64 x.gr, .int .i64 x.ep, .int .i64 x.kd, .int .i64 x.bl, .slice Dx ndx cdx, .int .i64 x.od, .int .i64 x.nw, .slice Nx nnx cnx] := Blk.new (l := [.int .i64 x.cl, .int .i64 x.sp, .int .i64 x.gr, .int .i64 x.ep, .int .i64 x.kd, .int .i64 x.bl, .slice Dx ndx cdx, .int .i64 x.od, .int .i64 x.nw, .slice Nx nnx cnx]) rfl rfl
  have H := Lib.hid (And.intro (hx.after hb0) (And.intro (hl.1.after hb0) (And.intro hb0 hB1)))
  clear hb0 hB1 hx hl
  go_enter Tryz.func3, Tryz.ntmps3
  go_wp2_with fail
  refine (bnew_any _).mono ?_
  rintro e w2 ⟨S, g, rfl, hS, hk, hb2⟩
  have Hn := Lib.hid (And.intro hS (And.intro hk hb2))
  clear hS hk hb2
  go_wp2_with fail
  refine (rbnew_any _).mono ?_
  rintro e w3 ⟨gr, rfl, hgr, hR, hb3⟩
  have hd0 := duo_new Hn.out.1 Hn.out.2.1 Hn.out.2.2 hgr hR hb3
  obtain ⟨D1, hD1a, hD1b, hD1c⟩ := dg_cells (wbytes x)
  obtain ⟨D2, hD2a, hD2b, hD2c⟩ := dg_cells (batchW l)
  obtain ⟨e1, he1⟩ : ∃ e, dgE (wbytes x) = e := ⟨_, rfl⟩
  obtain ⟨e2, he2⟩ : ∃ e, dgE (batchW l) = e := ⟨_, rfl⟩
  have q1 := dg_same (runL []) (wbytes x)
  have q2 := dg_same (dgS (runL []) (wbytes x)) (batchW l)
  have q3 := dgS_len (runL []) (wbytes x)
  have q4 := dgS_len (dgS (runL []) (wbytes x)) (batchW l)
  have h00 : (runL []).1 = [] ∧ (runL []).2.2 = 0 := ⟨rfl, rfl⟩
  rw [h00.1, h00.2] at q1 q3
  simp only [List.length_nil, Nat.zero_add] at q3
  rw [q1.1, q1.2] at q2
  have HD := Lib.hid (And.intro hD1a (And.intro hD1b (And.intro hD1c (And.intro hD2a (And.intro hD2b hD2c)))))
  have HQ := Lib.hid (And.intro q1 (And.intro q2 (And.intro q3 q4)))
  have Hse1 : Hid ((e1 == e1) = true) := by show _ = _; simp
  have Hse2 : Hid ((e2 == e2) = true) := by show _ = _; simp
  clear hgr hR hb3 hD1a hD1c hD2a hD2c q1 q2 q3 q4 h00 Hn
  have Hd0 := Lib.hid hd0
  clear hd0
  have hc := duo_a (r := wbytes x) (E := fun e => e = .returned (.tuple #[.agg (cbs (dgD (wbytes x))).toArray, .int .i64 (dgE (wbytes x))])) (f := 9) (vs := #[.pointer (some ⟨g, 0, none⟩), .agg #[.int .i64 x.cl, .int .i64 x.sp, .int .i64 x.gr, .int .i64 x.ep, .int .i64 x.kd, .int .i64 x.bl, .slice Dx ndx cdx, .int .i64 x.od, .int .i64 x.nw, .slice Nx nnx cnx]]) Hd0.out (fun S h => wdigest_any S g _ x Dx ndx cdx Nx nnx cnx w3 h (by decide) (by decide) (H.out.1.after Hd0.out.bel))
  rw [hD1b, he1] at hc
  have Hc := Lib.hid hc
  clear hc
  have ka0 := (H.out.2.2.2.below Hd0.out.bel H.out.2.2.2.lt).cell (i := 0) rfl
  have ka1 := (H.out.2.2.2.below Hd0.out.bel H.out.2.2.2.lt).cell (i := 1) rfl
  have ka2 := (H.out.2.2.2.below Hd0.out.bel H.out.2.2.2.lt).cell (i := 2) rfl
  have ka3 := (H.out.2.2.2.below Hd0.out.bel H.out.2.2.2.lt).cell (i := 3) rfl
  have ka4 := (H.out.2.2.2.below Hd0.out.bel H.out.2.2.2.lt).cell (i := 4) rfl
  have ka5 := (H.out.2.2.2.below Hd0.out.bel H.out.2.2.2.lt).cell (i := 5) rfl
  have ka6 := (H.out.2.2.2.below Hd0.out.bel H.out.2.2.2.lt).cell (i := 6) rfl
  have ka7 := (H.out.2.2.2.below Hd0.out.bel H.out.2.2.2.lt).cell (i := 7) rfl
  have ka8 := (H.out.2.2.2.below Hd0.out.bel H.out.2.2.2.lt).cell (i := 8) rfl
  have ka9 := (H.out.2.2.2.below Hd0.out.bel H.out.2.2.2.lt).cell (i := 9) rfl
  go_wp2_with fail
  refine Hc.out.mono ?_
  rintro e w4 ⟨rfl, hD⟩
  clear Hc ka0 ka1 ka2 ka3 ka4 ka5 ka6 ka7 ka8 ka9
  obtain ⟨wS4, hwS, hthi, hdS, hbS, hzS⟩ := dig_local w4 D1 HD.out.1
  have Hd1 := Lib.hid (hD.newD hbS hdS)
  have HwS4 := Lib.hid hwS
  have Ht4 := Lib.hid hthi
  clear hD hwS hthi hdS hbS hzS
  have hc := duo_r (r := wbytes x) (E := fun e => e = .returned (.tuple #[.agg (cbs (dgD (wbytes x))).toArray, .int .i64 (dgE (wbytes x))])) (f := 10) (vs := #[.pointer (some ⟨gr, 0, none⟩), .agg #[.int .i64 x.cl, .int .i64 x.sp, .int .i64 x.gr, .int .i64 x.ep, .int .i64 x.kd, .int .i64 x.bl, .slice Dx ndx cdx, .int .i64 x.od, .int .i64 x.nw, .slice Nx nnx cnx]]) Hd1.out (fun S v h => rwdigest_any S gr v _ _ x Dx ndx cdx Nx nnx cnx wS4 h (by decide) (by decide) (H.out.1.after Hd1.out.bel))
  rw [hD1b, he1] at hc
  have Hc := Lib.hid hc
  clear hc
  have kb0 := (H.out.2.2.2.below Hd1.out.bel H.out.2.2.2.lt).cell (i := 0) rfl
  have kb1 := (H.out.2.2.2.below Hd1.out.bel H.out.2.2.2.lt).cell (i := 1) rfl
  have kb2 := (H.out.2.2.2.below Hd1.out.bel H.out.2.2.2.lt).cell (i := 2) rfl
  have kb3 := (H.out.2.2.2.below Hd1.out.bel H.out.2.2.2.lt).cell (i := 3) rfl
  have kb4 := (H.out.2.2.2.below Hd1.out.bel H.out.2.2.2.lt).cell (i := 4) rfl
  have kb5 := (H.out.2.2.2.below Hd1.out.bel H.out.2.2.2.lt).cell (i := 5) rfl
  have kb6 := (H.out.2.2.2.below Hd1.out.bel H.out.2.2.2.lt).cell (i := 6) rfl
  have kb7 := (H.out.2.2.2.below Hd1.out.bel H.out.2.2.2.lt).cell (i := 7) rfl
  have kb8 := (H.out.2.2.2.below Hd1.out.bel H.out.2.2.2.lt).cell (i := 8) rfl
  have kb9 := (H.out.2.2.2.below Hd1.out.bel H.out.2.2.2.lt).cell (i := 9) rfl
  go_wp2_with (refine wpList_store_mid rfl 32 _ _ rfl w4.heap.size 0 D1.toArray rfl rfl Ht4.out.1 Ht4.out.2 HD.out.2.2.1 ?_; simp only [Act.put]; refine cast (congrArg (fun z => wpList _ _ _ _ _ z) HwS4.out.symm) ?_)
  refine Hc.out.mono ?_
  rintro e w5 ⟨rfl, hD⟩
  clear Hc kb0 kb1 kb2 kb3 kb4 kb5 kb6 kb7 kb8 kb9
  obtain ⟨wS5, hwS, hthi, hdS, hbS, hzS⟩ := dig_local w5 D1 HD.out.1
  have Hd2 := Lib.hid (hD.newD hbS hdS)
  have HwS5 := Lib.hid hwS
  have Ht5 := Lib.hid hthi
  clear hD hwS hthi hdS hbS hzS
  have hc := duo_a (r := batchW l) (E := fun e => e = .returned (.tuple #[.agg (cbs (dgD (batchW l))).toArray, .int .i64 (dgE (batchW l))])) (f := 11) (vs := #[.pointer (some ⟨g, 0, none⟩), .slice Al nl cl]) Hd2.out (fun S h => bdigest_any S g _ Al nl cl l wS5 h (by have := HQ.out.2.2.1.1; omega) (by have := HQ.out.2.2.1.2; omega) (H.out.2.1.after Hd2.out.bel))
  rw [hD2b, he2] at hc
  have Hc := Lib.hid hc
  clear hc
  go_wp2_with (refine wpList_store_mid rfl 32 _ _ rfl w5.heap.size 0 D1.toArray rfl rfl Ht5.out.1 Ht5.out.2 HD.out.2.2.1 ?_; simp only [Act.put]; refine cast (congrArg (fun z => wpList _ _ _ _ _ z) HwS5.out.symm) ?_)
  refine Hc.out.mono ?_
  rintro e w6 ⟨rfl, hD⟩
  clear Hc
  obtain ⟨wS6, hwS, hthi, hdS, hbS, hzS⟩ := dig_local w6 D2 HD.out.2.2.2.1
  have Hd3 := Lib.hid (hD.newD hbS hdS)
  have HwS6 := Lib.hid hwS
  have Ht6 := Lib.hid hthi
  clear hD hwS hthi hdS hbS hzS
  have hc := duo_r (r := batchW l) (E := fun e => e = .returned (.tuple #[.agg (cbs (dgD (batchW l))).toArray, .int .i64 (dgE (batchW l))])) (f := 12) (vs := #[.pointer (some ⟨gr, 0, none⟩), .slice Al nl cl]) Hd3.out (fun S v h => rbdigest_any S gr v _ _ Al nl cl l wS6 h (by have h1 := HQ.out.2.2.1.1; rw [HQ.out.1.1] at h1; omega) (by have h1 := HQ.out.2.2.1.2; rw [HQ.out.1.2] at h1; omega) (H.out.2.1.after Hd3.out.bel))
  rw [hD2b, he2] at hc
  have Hc := Lib.hid hc
  clear hc
  go_wp2_with (refine wpList_store_mid rfl 32 _ _ rfl w6.heap.size 0 D2.toArray rfl rfl Ht6.out.1 Ht6.out.2 HD.out.2.2.2.2.2 ?_; simp only [Act.put]; refine cast (congrArg (fun z => wpList _ _ _ _ _ z) HwS6.out.symm) ?_)
  refine Hc.out.mono ?_
  rintro e w7 ⟨rfl, hD⟩
  clear Hc
  obtain ⟨wS7, hwS, hthi, hdS, hbS, hzS⟩ := dig_local w7 D2 HD.out.2.2.2.1
  have Hd4 := Lib.hid (hD.newD hbS hdS)
  have HwS7 := Lib.hid hwS
  have Ht7 := Lib.hid hthi
  clear hD hwS hthi hdS hbS hzS
  have hde := Hd4.out
  rw [← HQ.out.2.1.1, ← HQ.out.2.1.2] at hde
  have c1 := duo_len hde
  have c2 := duo_rlen hde
  have c3 := duo_asked hde (by have h1 := HQ.out.2.2.2.2; have h2 := HQ.out.2.2.1.2; omega)
  have c4 := duo_rasked hde
  generalize (dgS (dgS (runL []) (wbytes x)) (batchW l)).1.length = nL at c1 c2
  generalize (dgS (dgS (runL []) (wbytes x)) (batchW l)).2.2 = nK at c3 c4
  have r1 := (hde.dig (d := (w4.heap.size, D1)) (by simp)).range
  have r2 := (hde.dig (d := (w5.heap.size, D1)) (by simp)).range
  have r3 := (hde.dig (d := (w6.heap.size, D2)) (by simp)).range
  have r4 := (hde.dig (d := (w7.heap.size, D2)) (by simp)).range
  have hi1 : (Tryz.prog.info? 32).map (·.size) = some D1.length := by rw [HD.out.1]; exact info32b
  have hi2 : (Tryz.prog.info? 32).map (·.size) = some D2.length := by rw [HD.out.2.2.2.1]; exact info32b
  have hq1 := eq_selfD D1 (dgD (wbytes x)) HD.out.2.1 (dgD_len _)
  have hq2 := eq_selfD D2 (dgD (batchW l)) HD.out.2.2.2.2.1 (dgD_len _)
  have s1 := Hse1.out
  have s2 := Hse2.out
  have HC := Lib.hid (And.intro c1 (And.intro c2 (And.intro c3 c4)))
  have HR := Lib.hid (And.intro r1 (And.intro r2 (And.intro r3 (And.intro r4 (And.intro hi1 hi2)))))
  have Hb := Lib.hid hde.bel
  clear hde c1 c2 c3 c4 r1 r2 r3 r4 hi1 hi2 hD1b hD2b he1 he2 Hd0 Hd1 Hd2 Hd3 Hd4
  go_wp2_with (first
    | (refine wpList_store_mid rfl 32 _ _ rfl w7.heap.size 0 D2.toArray rfl rfl Ht7.out.1 Ht7.out.2 HD.out.2.2.2.2.2 ?_; simp only [Act.put]; refine cast (congrArg (fun z => wpList _ _ _ _ _ z) HwS7.out.symm) ?_)
    | (refine load_mid_g (by rfl) 32 _ rfl w4.heap.size 0 rfl D1 _ HR.out.1 Tryz.underlying32 rfl HR.out.2.2.2.2.1 ?_; simp only [Act.put])
    | (refine load_mid_g (by rfl) 32 _ rfl w5.heap.size 0 rfl D1 _ HR.out.2.1 Tryz.underlying32 rfl HR.out.2.2.2.2.1 ?_; simp only [Act.put])
    | (refine load_mid_g (by rfl) 32 _ rfl w6.heap.size 0 rfl D2 _ HR.out.2.2.1 Tryz.underlying32 rfl HR.out.2.2.2.2.2 ?_; simp only [Act.put])
    | (refine load_mid_g (by rfl) 32 _ rfl w7.heap.size 0 rfl D2 _ HR.out.2.2.2.1 Tryz.underlying32 rfl HR.out.2.2.2.2.2 ?_; simp only [Act.put])
    | (go_at_call 13; refine HC.out.1.mono ?_; rintro e wz ⟨rfl, rfl⟩)
    | (go_at_call 14; refine HC.out.2.1.mono ?_; rintro e wz ⟨rfl, rfl⟩)
    | (go_at_call 15; refine HC.out.2.2.1.mono ?_; rintro e wz ⟨rfl, rfl⟩)
    | (go_at_call 16; refine HC.out.2.2.2.mono ?_; rintro e wz ⟨rfl, rfl⟩)
    | (go_at_call 17; refine (works11_any _).mono ?_; rintro e w9 ⟨rfl, hb9⟩))
  go_ret
  exact ⟨rfl, (H.out.2.2.1.trans (Hb.out.mono H.out.2.2.1.size)).trans (hb9.mono (Nat.le_trans H.out.2.2.1.size Hb.out.size))⟩

end Go.Proofs.YtihmddpafbackaaGreat.wishDigests
