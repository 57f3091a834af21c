/-
  For every list of wishes and all bytes: Batch and Unbatch answer as the document's do, what was handed in stays, and is not kept; WishBatch returns true; no condition.
-/
import Derived.Test.YtihmddpafbackaaZ09
import Derived.Test.YtihmddpafbackaaZ10
import Derived.Test.YtihmddpafbackaaZ11
import Derived.Test.YtihmddpafbackaaZ19
import Derived.Deep.DeepCutAuto
namespace Go.Proofs.Ytihmddpafbackaa.wishBatch
open Go.ChangeShapes Go.WideShapes Go.ChangeAt Go.RowKit Go.Maps
set_option linter.unusedVariables false

set_option linter.unusedSimpArgs false
theorem put_only {a w : World} {g : Nat} (h : a.grownBy w (some g)) {p : Addr} (hp : p.block = g ∨ a.heap.size ≤ p.block) (u : Value) : a.grownBy (w.setCell p u) (some g) := by
  refine ⟨h.os, h.tape, h.output, by simpa [World.setCell] using h.size, fun i hi hne => ?_⟩
  refine (Below.heap_setCell w p u i ?_).trans (h.block i hi hne)
  rintro rfl
  rcases hp with hp | hp
  · exact hne (by rw [hp])
  · omega
theorem mine_bs {w : World} {base n c : Nat} {A : Option Addr} {l : List UInt8} (h : Mine w base 5 (.slice A n c) l) : Bs w A l := by
  obtain ⟨A', c', e, _, _, h⟩ := Mine.form h
  injection e with e _ _
  subst e
  exact h
theorem mine_len {w : World} {base n c : Nat} {A : Option Addr} {l : List UInt8} (hn : l.length = n) (h : Mine w base 5 (.slice A l.length c) l) : Mine w base 5 (.slice A n c) l := hn ▸ h
set_option maxRecDepth 100000 in
set_option maxHeartbeats 12800000 in
theorem walk (Al : Option Addr) (nl cl : Nat) (l : List Wl) (Az : Option Addr) (nz cz : Nat) (z : List UInt8) (w : World) (hl : ArgL w Al nl cl l ∧ l.length < 1256584717458) (hz : ArgB w Az nz cz z) :
    Calls Try.prog 5 #[.slice Al nl cl, .slice Az nz cz] w fun e w' => e = .returned (.bool true) ∧ Below w.heap.size w w' := by
  obtain ⟨hLl, hls⟩ := hl
  obtain ⟨hn, hnc, hcm, hB⟩ := hz
  have hmx : cz ≤ maxLen := by unfold maxLen; omega
  have hcz := hcm
  obtain ⟨b1, e0, hbt⟩ : ∃ a b, batchW l = (a, b) := ⟨_, _, (Prod.eta _).symm⟩
  obtain ⟨LL, e1, hub⟩ : ∃ a b, unb z = (a, b) := ⟨_, _, (Prod.eta _).symm⟩
  have hne0 : (((e0 : Nat) : Int) != e0) = false := by simp
  have hne1 : (((e1 : Nat) : Int) != e1) = false := by simp
  have HM := Lib.hid (And.intro hbt (And.intro hub (And.intro hn (And.intro (alikeB_self LL) (alikeB_self l)))))
  have HB := Lib.hid hB
  have HL := Lib.hid hLl
  clear hbt hub hn hB hLl hcm
  go_enter Try.func5, Try.ntmps5
  go_wp2_with fail
  refine (rcopyall_any Al nl cl l w HL.out hls).mono ?_
  rintro e w1 ⟨A1, c1, rfl, hL1, hb1⟩
  have H1 := Lib.hid (And.intro (HB.out.after hb1) (And.intro (hL1) (And.intro (HL.out.after hb1) (hb1))))
  clear hL1 hb1
  go_wp2_with fail
  refine (copyBytes Az cz nz z w1 H1.out.1 HM.out.2.2.1 (by omega)).mono ?_
  rintro e w2 ⟨v2, rfl, hN⟩
  obtain ⟨A2, c2, rfl, hl2, hc2, _⟩ := hN.form
  rw [HM.out.2.2.1] at hl2 ⊢
  have hM2 := mine_len HM.out.2.2.1 hN.1
  have H2 := Lib.hid (And.intro (H1.out.1.after hN.2) (And.intro (H1.out.2.1.after hN.2) (And.intro (H1.out.2.2.1.after hN.2) (And.intro (H1.out.2.2.2.trans (hN.2.mono H1.out.2.2.2.size)) (hM2)))))
  have hin : ∀ i, (Value.slice A2 nz c2).ownBlock = some i → i < w2.heap.size := fun i hi => (World.ownsRow.lt hM2 i hi).2
  have Hin := Lib.hid hin
  clear hN hM2 hin
  go_wp2_with fail
  have hc := batch_any A1 nl c1 l w2 H2.out.2.1
  rw [HM.out.1] at hc
  refine hc.mono ?_
  clear hc
  rintro e w3 ⟨v3, rfl, hN⟩
  have hs23 := hN.2.size
  obtain ⟨A3, c3, rfl, hl3, hc3, hB3⟩ := hN.form
  simp only at hl3 hB3 ⊢
  have H3 := Lib.hid (And.intro (H2.out.1.after hN.2) (And.intro (H2.out.2.1.after hN.2) (And.intro (H2.out.2.2.1.after hN.2) (And.intro (H2.out.2.2.2.1.trans (hN.2.mono H2.out.2.2.2.1.size)) (And.intro (own_below H2.out.2.2.2.2 hN.2) (hB3))))))
  clear hN hB3
  go_wp2_with fail
  have hc := rbatch_any Al nl cl l w3 H3.out.2.2.1
  rw [HM.out.1] at hc
  refine hc.mono ?_
  clear hc
  rintro e w4 ⟨v4, rfl, hN⟩
  obtain ⟨A4, c4, rfl, hl4, hc4, hB4⟩ := hN.form
  simp only at hl4 hB4 ⊢
  have H4 := Lib.hid (And.intro (H3.out.1.after hN.2) (And.intro (H3.out.2.1.after hN.2) (And.intro (H3.out.2.2.1.after hN.2) (And.intro (H3.out.2.2.2.1.trans (hN.2.mono H3.out.2.2.2.1.size)) (And.intro (own_below H3.out.2.2.2.2.1 hN.2) (And.intro (H3.out.2.2.2.2.2.after hN.2) (hB4)))))))
  have hs34 := hN.2.size
  clear hN hB4
  have hBr : Bs w4 A2 z := mine_bs H4.out.2.2.2.2.1
  go_wp2_with fail
  have hc := unbatch_any A2 nz c2 z w4 hBr HM.out.2.2.1 hl2 hc2 (by omega)
  rw [HM.out.2.1] at hc
  refine hc.mono ?_
  clear hc
  rintro e w5 ⟨v, ys, rfl, hO, hys, hxn, hb⟩
  simp only at hys
  obtain ⟨A5, c5, rfl⟩ := row_form hO.1
  obtain ⟨nL, hnL⟩ : ∃ n, LL.length = n := ⟨_, rfl⟩
  have hyl : ys.length = nL := by rw [← hnL, ← hys, List.length_map]
  rw [hyl] at hO ⊢
  have H5 := Lib.hid (And.intro (H4.out.1.after hb) (And.intro (H4.out.2.1.after hb) (And.intro (H4.out.2.2.1.after hb) (And.intro (H4.out.2.2.2.1.trans (hb.mono H4.out.2.2.2.1.size)) (And.intro (own_below H4.out.2.2.2.2.1 hb) (And.intro (H4.out.2.2.2.2.2.1.after hb) (And.intro (H4.out.2.2.2.2.2.2.after hb) (hO))))))))
  have Hys := Lib.hid (And.intro hyl (And.intro hys hxn))
  have hs45 := hb.size
  clear hO hys hxn hb hyl hBr
  go_wp2_with fail
  have hc := runbatch_any Az nz cz z w5 H5.out.1 HM.out.2.2.1 hnc hmx (by omega)
  rw [HM.out.2.1] at hc
  refine hc.mono ?_
  clear hc
  rintro e w6 ⟨v, zs, rfl, hO, hzs, hxn, hb⟩
  simp only at hzs
  obtain ⟨A6, c6, rfl⟩ := row_form hO.1
  have hzl : zs.length = nL := by rw [← hnL, ← hzs, List.length_map]
  rw [hzl] at hO ⊢
  have H6 := Lib.hid (And.intro (H5.out.1.after hb) (And.intro (H5.out.2.1.after hb) (And.intro (H5.out.2.2.1.after hb) (And.intro (H5.out.2.2.2.1.trans (hb.mono H5.out.2.2.2.1.size)) (And.intro (own_below H5.out.2.2.2.2.1 hb) (And.intro (H5.out.2.2.2.2.2.1.after hb) (And.intro (H5.out.2.2.2.2.2.2.1.after hb) (And.intro (H5.out.2.2.2.2.2.2.2.on hb) (hO)))))))))
  have Hzs := Lib.hid (And.intro hzl (And.intro hzs hxn))
  have hs56 := hb.size
  clear hO hzs hxn hb hzl hnL
  go_wp2_with fail
  have hc := eqBytes A3 A4 c3 c4 b1.length b1.length b1 b1 w6 H6.out.2.2.2.2.2.1 H6.out.2.2.2.2.2.2.1 rfl rfl (by omega) (by omega)
  rw [show (b1 == b1) = true by simp] at hc
  refine hc.mono ?_
  clear hc
  rintro e w7 ⟨rfl, hb⟩
  have H7 := Lib.hid (And.intro (H6.out.1.after hb) (And.intro (H6.out.2.1.after hb) (And.intro (H6.out.2.2.1.after hb) (And.intro (H6.out.2.2.2.1.trans (hb.mono H6.out.2.2.2.1.size)) (And.intro (own_below H6.out.2.2.2.2.1 hb) (And.intro (H6.out.2.2.2.2.2.1.after hb) (And.intro (H6.out.2.2.2.2.2.2.1.after hb) (And.intro (H6.out.2.2.2.2.2.2.2.1.on hb) (H6.out.2.2.2.2.2.2.2.2.on hb)))))))))
  clear hb
  go_wp2_with fail
  have ha := (H7.out.2.2.2.2.2.2.2.1).arg Hys.out.1 (fun y hy => ((H7.out.2.2.2.2.2.2.2.1).2 y hy).arg (Hys.out.2.2 y hy))
  have ha2 := (H7.out.2.2.2.2.2.2.2.2).arg Hzs.out.1 (fun y hy => ((H7.out.2.2.2.2.2.2.2.2).2 y hy).arg (Hzs.out.2.2 y hy))
  rw [Hys.out.2.1] at ha
  rw [Hzs.out.2.1] at ha2
  have hc := alike_any A5 A6 nL nL c5 c6 LL LL w7 ha ha2
  rw [HM.out.2.2.2.1] at hc
  refine hc.mono ?_
  clear hc ha ha2
  rintro e w8 ⟨rfl, hb⟩
  have H8 := Lib.hid (And.intro (H7.out.1.after hb) (And.intro (H7.out.2.1.after hb) (And.intro (H7.out.2.2.1.after hb) (And.intro (H7.out.2.2.2.1.trans (hb.mono H7.out.2.2.2.1.size)) (And.intro (own_below H7.out.2.2.2.2.1 hb) (And.intro (H7.out.2.2.2.2.2.1.after hb) (And.intro (H7.out.2.2.2.2.2.2.1.after hb) (And.intro (H7.out.2.2.2.2.2.2.2.1.on hb) (H7.out.2.2.2.2.2.2.2.2.on hb)))))))))
  clear hb
  go_wp2_with fail
  have hc := alike_any A1 Al nl nl c1 cl l l w8 H8.out.2.1 H8.out.2.2.1
  rw [HM.out.2.2.2.2] at hc
  refine hc.mono ?_
  clear hc
  rintro e w9 ⟨rfl, hb⟩
  have H9 := Lib.hid (And.intro (H8.out.1.after hb) (And.intro (H8.out.2.1.after hb) (And.intro (H8.out.2.2.1.after hb) (And.intro (H8.out.2.2.2.1.trans (hb.mono H8.out.2.2.2.1.size)) (And.intro (own_below H8.out.2.2.2.2.1 hb) (And.intro (H8.out.2.2.2.2.2.1.after hb) (And.intro (H8.out.2.2.2.2.2.2.1.after hb) (And.intro (H8.out.2.2.2.2.2.2.2.1.on hb) (H8.out.2.2.2.2.2.2.2.2.on hb)))))))))
  clear hb
  go_wp2_with fail
  have hBr := mine_bs H9.out.2.2.2.2.1
  have hc := eqBytes A2 Az c2 cz nz nz z z w9 hBr H9.out.1 HM.out.2.2.1 HM.out.2.2.1 (by unfold maxLen at *; omega) (by unfold maxLen at *; omega)
  rw [show (z == z) = true by simp] at hc
  refine hc.mono ?_
  clear hc hBr
  rintro e w10 ⟨rfl, hb⟩
  have H10 := Lib.hid (And.intro (H9.out.1.after hb) (And.intro (H9.out.2.1.after hb) (And.intro (H9.out.2.2.1.after hb) (And.intro (H9.out.2.2.2.1.trans (hb.mono H9.out.2.2.2.1.size)) (And.intro (own_below H9.out.2.2.2.2.1 hb) (And.intro (H9.out.2.2.2.2.2.1.after hb) (And.intro (H9.out.2.2.2.2.2.2.1.after hb) (And.intro (H9.out.2.2.2.2.2.2.2.1.on hb) (H9.out.2.2.2.2.2.2.2.2.on hb)))))))))
  have hown0 : w10.ownsRow w1.heap.size 5 1 (.slice A2 nz c2) nz (cbs z) := by have h := H10.out.2.2.2.2.1; unfold Mine at h; rw [HM.out.2.2.1] at h; exact h
  have H11 := Lib.hid hown0
  clear hb hown0
  have hc2' := hc2
  unfold maxLen at hc2'
  have hs12 : w.heap.size ≤ w1.heap.size := H1.out.2.2.2.size
  skip
  go_wp2
  go_loopw [15] (fun i wr => ∃ k : Nat, k ≤ nz ∧ i = .int .i64 k ∧ (∃ us : List UInt8, us.length = nz ∧ wr.ownsRow w1.heap.size 5 1 (.slice A2 nz c2) nz (cbs us)) ∧ w10.grownBy wr (Value.slice A2 nz c2).ownBlock) (fun i _ => nz - (intOf i).toNat)
  case atStart => exact ⟨0, Nat.zero_le _, rfl, ⟨z, HM.out.2.2.1, H11.out⟩, World.grownBy.refl _ _⟩
  case round =>
    obtain ⟨k, hk, rfl, ⟨us, hy, hown⟩, hnx⟩ := hrel
    by_cases hlt : k < nz
    · obtain ⟨g, cap, hv, hg, hgl⟩ := hown.form (by omega)
      simp only [Value.slice.injEq] at hv
      obtain ⟨rfl, _, rfl⟩ := hv
      have hc := Mine.cell hown (j := k) (by omega)
      have hf := hown.frozenAt k
      have Hy := Lib.hid hy
      have hy8 := us[k].toNat_lt
      generalize hold : us[k] = old at *
      clear hy hold
      go_wp2
      go_roundw
      case rel =>
        refine ⟨k + 1, by omega, by go_num, ⟨us.set k (old + 1), by rw [List.length_set]; exact Hy.out, Mine.set_ hown k (old + 1) _ ?_⟩, put_only (g := g) (p := ⟨g, k, none⟩) hnx (.inl rfl) _⟩
        unfold cb
        rw [UInt8.toNat_add]
        simp
      case measure => simp [intOf]; omega
    · have hlt' : ¬ (k : Int) < nz := by omega
      have hO := grown_out hnx
      have hm := (H10.out.2.2.2.2.2.2.2.1).out hO (fun i e => by have := Hin.out i e; omega)
      have hn := (H10.out.2.2.2.2.2.2.2.2).out hO (fun i e => by have := Hin.out i e; omega)
      have ha := hm.arg Hys.out.1 (fun y hy => (hm.2 y hy).arg (Hys.out.2.2 y hy))
      have ha2 := hn.arg Hzs.out.1 (fun y hy => (hn.2 y hy).arg (Hzs.out.2.2 y hy))
      rw [Hys.out.2.1] at ha
      rw [Hzs.out.2.1] at ha2
      have hbw : Below w.heap.size w wr := H10.out.2.2.2.1.trans (hO.above (B := w.heap.size) (fun i e => Nat.le_trans hs12 (World.ownsRow.lt H11.out i e).1) H10.out.2.2.2.1.size)
      have HZ := Lib.hid (And.intro (alike_any A5 A6 nL nL c5 c6 LL LL wr ha ha2) hbw)
      clear hO hm hn ha ha2 hbw hnx hown hy
      go_wp2_with fail
      have hc := HZ.out.1
      rw [HM.out.2.2.2.1] at hc
      refine hc.mono ?_
      clear hc
      rintro e w11 ⟨rfl, hb⟩
      have H12 := Lib.hid (HZ.out.2.trans (hb.mono HZ.out.2.size))
      clear hb
      go_wp2_with fail
      refine (works11_any _).mono ?_
      rintro e w12 ⟨rfl, hb⟩
      have H13 := Lib.hid (H12.out.trans (hb.mono H12.out.size))
      clear hb
      go_wp2
      go_ret
      exact ⟨rfl, H13.out⟩

end Go.Proofs.Ytihmddpafbackaa.wishBatch
