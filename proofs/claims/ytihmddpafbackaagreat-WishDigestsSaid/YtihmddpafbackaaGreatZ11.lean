/-
  Laid together for a hand-in: Rw11, Wm11, Wn11, My0, My1, My2.
-/
import Derived.Test.YtihmddpafbackaaGreatZ10
import Derived.Test.YtihmddpafbackaaGreatZ09

namespace Go.Proofs.YtihmddpafbackaaGreat

open Go.RowKit Go.Maps

set_option linter.unusedVariables false

set_option linter.unusedSimpArgs false

/-- The value 'v' is the wish 'x', its lists in rows made from block 'base' on. -/
def WV (w : World) (base : Nat) (x : Wl) (v : Value) : Prop := ∃ (Dx : Option Addr) (ndx cdx : Nat) (Nx : Option Addr) (nnx cnx : Nat), v = .agg #[.int .i64 x.cl, .int .i64 x.sp, .int .i64 x.gr, .int .i64 x.ep, .int .i64 x.kd, .int .i64 x.bl, .slice Dx ndx cdx, .int .i64 x.od, .int .i64 x.nw, .slice Nx nnx cnx] ∧ (Mine w base 5 (.slice Dx ndx cdx) x.da ∧ x.da.length = ndx) ∧ OwnI w base (.slice Nx nnx cnx) x.nx ∧ x.nx.length = nnx

def zWish : List Value := [.int .i64 0, .int .i64 0, .int .i64 0, .int .i64 0, .int .i64 0, .int .i64 0, .slice none 0 0, .int .i64 0, .int .i64 0, .slice none 0 0]

/-- What is answered where a wish is read. -/
def RetW (t : TypeId) (B0 g : Nat) (w : World) (r : Wl × Rd) (e : Ending) (w' : World) : Prop := ∃ v, e = .returned v ∧ WV w' w.heap.size r.1 v ∧ RdA t B0 w' g r.2 ∧ Og g w w'

set_option maxRecDepth 100000 in
set_option maxHeartbeats 3200000 in
theorem wish_rd (B0 g : Nat) (s : Rd) (w : World) (h : RdP B0 w g s) : Calls Tryz.prog 43 #[.pointer (some ⟨g, 0, none⟩)] w (RetW 74 B0 g w (rdw s)) := by
  have hglt := h.lt
  obtain ⟨kd, s1, e1⟩ : ∃ a b, rn s = (a, b) := ⟨_, _, rfl⟩
  obtain ⟨cl, s2, e2⟩ : ∃ a b, rn s1 = (a, b) := ⟨_, _, rfl⟩
  obtain ⟨sp, s3, e3⟩ : ∃ a b, rn s2 = (a, b) := ⟨_, _, rfl⟩
  obtain ⟨gr, s4, e4⟩ : ∃ a b, rn s3 = (a, b) := ⟨_, _, rfl⟩
  obtain ⟨ep, s5, e5⟩ : ∃ a b, rn s4 = (a, b) := ⟨_, _, rfl⟩
  obtain ⟨bl, s6, e6⟩ : ∃ a b, rn s5 = (a, b) := ⟨_, _, rfl⟩
  obtain ⟨da, s7, e7⟩ : ∃ a b, rt 16 s6 = (a, b) := ⟨_, _, rfl⟩
  obtain ⟨od, s8, e8⟩ : ∃ a b, rn s7 = (a, b) := ⟨_, _, rfl⟩
  obtain ⟨nw, s9, e9⟩ : ∃ a b, rn s8 = (a, b) := ⟨_, _, rfl⟩
  obtain ⟨m, s10, e10⟩ : ∃ a b, rc 7 s9 = (a, b) := ⟨_, _, rfl⟩
  have hr : Hid (rdw s = (⟨cl, sp, gr, ep, kd, bl, da, od, nw, (rns m s10).1⟩, (rns m s10).2)) := by
    show _ = _
    unfold rdw
    simp only [e1, e2, e3, e4, e5, e6, e7, e8, e9, e10]
  have hm7 : m ≤ 7 := by
    have := e10
    unfold rc at this
    split at this
    · injection this with h1 _; omega
    · rename_i h2
      injection this with h1 _
      omega
  have E := Lib.hid (And.intro e1 (And.intro e2 (And.intro e3 (And.intro e4 (And.intro e5 (And.intro e6 (And.intro e7 (And.intro e8 (And.intro e9 e10)))))))))
  clear e1 e2 e3 e4 e5 e6 e7 e8 e9 e10
  have H := Lib.hid h
  clear h
  generalize rdw s = r at *
  go_enter Tryz.func43, Tryz.ntmps43
  have hb0 : Below w.heap.size w (w.alloc (.cells #[.int .i64 0, .int .i64 0, .int .i64 0, .int .i64 0, .int .i64 0, .int .i64 0, .slice none 0 0, .int .i64 0, .int .i64 0, .slice none 0 0] 25)) := (Below.refl _ _).alloc (Nat.le_refl _) _
  have hz0 : Blk (w.alloc (.cells #[.int .i64 0, .int .i64 0, .int .i64 0, .int .i64 0, .int .i64 0, .int .i64 0, .slice none 0 0, .int .i64 0, .int .i64 0, .slice none 0 0] 25)) w.heap.size 25 zWish := Blk.new rfl rfl
  obtain ⟨W0, hW0⟩ : ∃ W, (w.alloc (.cells #[.int .i64 0, .int .i64 0, .int .i64 0, .int .i64 0, .int .i64 0, .int .i64 0, .slice none 0 0, .int .i64 0, .int .i64 0, .slice none 0 0] 25)) = W := ⟨_, rfl⟩
  rw [hW0] at hb0 hz0
  have hsz : w.heap.size < W0.heap.size := hz0.lt
  have hO : Og g w W0 := Out.ofBelow _ hb0
  have H0 := Lib.hid (And.intro (H.out.bel hb0) (And.intro hO (And.intro hz0 hsz)))
  have HW := Lib.hid hW0
  clear hb0 hz0 hW0 hO hsz
  go_wp2_with fail
  rw [HW.out]
  have hc := number_rd B0 g s _ H0.out.1
  rw [E.out.1] at hc
  refine hc.mono ?_
  clear hc
  rintro e w1 ⟨rfl, hR, hO⟩
  have H1 := Lib.hid (show RdP B0 w1 g s1 ∧ Og g w w1 ∧ Blk w1 w.heap.size 25 zWish ∧ w.heap.size < w1.heap.size from ⟨hR, H0.out.2.1.trans hO (fun _ _ e => e), hO.blk H0.out.2.2.1 (by have := hglt; omega), Nat.lt_of_lt_of_le H0.out.2.2.2 hO.size⟩)
  clear hR hO
  go_wp2_with fail
  have hc := number_rd B0 g s1 _ H1.out.1
  rw [E.out.2.1] at hc
  refine hc.mono ?_
  clear hc
  rintro e w2 ⟨rfl, hR, hO⟩
  have H2 := Lib.hid (show RdP B0 w2 g s2 ∧ Og g w w2 ∧ Blk w2 w.heap.size 25 zWish ∧ w.heap.size < w2.heap.size from ⟨hR, H1.out.2.1.trans hO (fun _ _ e => e), hO.blk H1.out.2.2.1 (by have := hglt; omega), Nat.lt_of_lt_of_le H1.out.2.2.2 hO.size⟩)
  clear hR hO
  go_wp2_with fail
  have hc := number_rd B0 g s2 _ H2.out.1
  rw [E.out.2.2.1] at hc
  refine hc.mono ?_
  clear hc
  rintro e w3 ⟨rfl, hR, hO⟩
  have H3 := Lib.hid (show RdP B0 w3 g s3 ∧ Og g w w3 ∧ Blk w3 w.heap.size 25 zWish ∧ w.heap.size < w3.heap.size from ⟨hR, H2.out.2.1.trans hO (fun _ _ e => e), hO.blk H2.out.2.2.1 (by have := hglt; omega), Nat.lt_of_lt_of_le H2.out.2.2.2 hO.size⟩)
  clear hR hO
  go_wp2_with fail
  have hc := number_rd B0 g s3 _ H3.out.1
  rw [E.out.2.2.2.1] at hc
  refine hc.mono ?_
  clear hc
  rintro e w4 ⟨rfl, hR, hO⟩
  have H4 := Lib.hid (show RdP B0 w4 g s4 ∧ Og g w w4 ∧ Blk w4 w.heap.size 25 zWish ∧ w.heap.size < w4.heap.size from ⟨hR, H3.out.2.1.trans hO (fun _ _ e => e), hO.blk H3.out.2.2.1 (by have := hglt; omega), Nat.lt_of_lt_of_le H3.out.2.2.2 hO.size⟩)
  clear hR hO
  go_wp2_with fail
  have hc := number_rd B0 g s4 _ H4.out.1
  rw [E.out.2.2.2.2.1] at hc
  refine hc.mono ?_
  clear hc
  rintro e w5 ⟨rfl, hR, hO⟩
  have H5 := Lib.hid (show RdP B0 w5 g s5 ∧ Og g w w5 ∧ Blk w5 w.heap.size 25 zWish ∧ w.heap.size < w5.heap.size from ⟨hR, H4.out.2.1.trans hO (fun _ _ e => e), hO.blk H4.out.2.2.1 (by have := hglt; omega), Nat.lt_of_lt_of_le H4.out.2.2.2 hO.size⟩)
  clear hR hO
  go_wp2_with fail
  have hc := number_rd B0 g s5 _ H5.out.1
  rw [E.out.2.2.2.2.2.1] at hc
  refine hc.mono ?_
  clear hc
  rintro e w6 ⟨rfl, hR, hO⟩
  have H6 := Lib.hid (show RdP B0 w6 g s6 ∧ Og g w w6 ∧ Blk w6 w.heap.size 25 zWish ∧ w.heap.size < w6.heap.size from ⟨hR, H5.out.2.1.trans hO (fun _ _ e => e), hO.blk H5.out.2.2.1 (by have := hglt; omega), Nat.lt_of_lt_of_le H5.out.2.2.2 hO.size⟩)
  clear hR hO
  go_wp2_with fail
  have hc := text_rd B0 g 16 s6 _ H6.out.1 (by omega)
  rw [E.out.2.2.2.2.2.2.1] at hc
  refine hc.mono ?_
  clear hc
  rintro e w7 ⟨v7, rfl, hM, hR, hO⟩
  obtain ⟨Dx, cdx, rfl, _, _, _⟩ := hM.form
  simp only at hM ⊢
  obtain ⟨ndx, hnd⟩ : ∃ n, da.length = n := ⟨_, rfl⟩
  rw [hnd] at ⊢
  have Hnd := Lib.hid hnd
  have hM : Mine w7 w6.heap.size 5 (.slice Dx ndx cdx) da := hnd ▸ hM
  have hD7 : ∀ i, (Value.slice Dx ndx cdx).ownBlock = some i → w6.heap.size ≤ i ∧ i < w7.heap.size := fun i hi => World.ownsRow.lt hM i hi
  have hM7 := Lib.hid hM
  have HD := Lib.hid hD7
  clear hM hnd hD7
  have H7 := Lib.hid (show RdP B0 w7 g s7 ∧ Og g w w7 ∧ Blk w7 w.heap.size 25 zWish ∧ w.heap.size < w7.heap.size from ⟨hR, H6.out.2.1.trans hO (fun _ _ e => e), hO.blk H6.out.2.2.1 (by have := hglt; omega), Nat.lt_of_lt_of_le H6.out.2.2.2 hO.size⟩)
  clear hR hO
  go_wp2_with fail
  have hc := number_rd B0 g s7 _ H7.out.1
  rw [E.out.2.2.2.2.2.2.2.1] at hc
  refine hc.mono ?_
  clear hc
  rintro e w8 ⟨rfl, hR, hO⟩
  have hM8 := Lib.hid (Mine.og hM7.out hO (Nat.lt_of_lt_of_le hglt H6.out.2.1.size))
  have hz8 := hO.size
  have H8 := Lib.hid (show RdP B0 w8 g s8 ∧ Og g w w8 ∧ Blk w8 w.heap.size 25 zWish ∧ w.heap.size < w8.heap.size from ⟨hR, H7.out.2.1.trans hO (fun _ _ e => e), hO.blk H7.out.2.2.1 (by have := hglt; omega), Nat.lt_of_lt_of_le H7.out.2.2.2 hO.size⟩)
  clear hR hO
  go_wp2_with fail
  have hc := number_rd B0 g s8 _ H8.out.1
  rw [E.out.2.2.2.2.2.2.2.2.1] at hc
  refine hc.mono ?_
  clear hc
  rintro e w9 ⟨rfl, hR, hO⟩
  have hM9 := Lib.hid (Mine.og hM8.out hO (Nat.lt_of_lt_of_le hglt H6.out.2.1.size))
  have hz9 := hO.size
  have H9 := Lib.hid (show RdP B0 w9 g s9 ∧ Og g w w9 ∧ Blk w9 w.heap.size 25 zWish ∧ w.heap.size < w9.heap.size from ⟨hR, H8.out.2.1.trans hO (fun _ _ e => e), hO.blk H8.out.2.2.1 (by have := hglt; omega), Nat.lt_of_lt_of_le H8.out.2.2.2 hO.size⟩)
  clear hR hO
  have hbB : Below w9.heap.size w9 (w9.alloc (.cells #[.int .i64 cl, .int .i64 sp, .int .i64 gr, .int .i64 ep, .int .i64 kd, .int .i64 bl, .slice Dx ndx cdx, .int .i64 od, .int .i64 nw, .slice none 0 0] 25)) := (Below.refl _ _).alloc (Nat.le_refl _) _
  have hzB : Blk (w9.alloc (.cells #[.int .i64 cl, .int .i64 sp, .int .i64 gr, .int .i64 ep, .int .i64 kd, .int .i64 bl, .slice Dx ndx cdx, .int .i64 od, .int .i64 nw, .slice none 0 0] 25)) w9.heap.size 25 [.int .i64 cl, .int .i64 sp, .int .i64 gr, .int .i64 ep, .int .i64 kd, .int .i64 bl, .slice Dx ndx cdx, .int .i64 od, .int .i64 nw, .slice none 0 0] := Blk.new rfl rfl
  obtain ⟨WB, hWB⟩ : ∃ W, (w9.alloc (.cells #[.int .i64 cl, .int .i64 sp, .int .i64 gr, .int .i64 ep, .int .i64 kd, .int .i64 bl, .slice Dx ndx cdx, .int .i64 od, .int .i64 nw, .slice none 0 0] 25)) = W := ⟨_, rfl⟩
  rw [hWB] at hbB hzB
  obtain ⟨bx, hbx⟩ : ∃ b, w9.heap.size = b := ⟨_, rfl⟩
  have HB := Lib.hid (show RdP B0 WB g s9 ∧ Og g w WB ∧ Blk WB w.heap.size 25 zWish ∧ Blk WB bx 25 [.int .i64 cl, .int .i64 sp, .int .i64 gr, .int .i64 ep, .int .i64 kd, .int .i64 bl, .slice Dx ndx cdx, .int .i64 od, .int .i64 nw, .slice none 0 0] ∧ Mine WB w6.heap.size 5 (.slice Dx ndx cdx) da ∧ w.heap.size < bx ∧ w7.heap.size ≤ bx from ⟨H9.out.1.bel hbB, H9.out.2.1.then_below hbB, H9.out.2.2.1.below hbB H9.out.2.2.1.lt, by rw [← hbx]; exact hzB, Mine.after hM9.out hbB, by rw [← hbx]; exact H9.out.2.2.2, by rw [← hbx]; exact Nat.le_trans hz8 hz9⟩)
  have HW := Lib.hid hWB
  have Hbx := Lib.hid hbx
  clear hbB hzB hWB hbx hz8 hz9
  go_wp2_with fail
  rw [HW.out]
  have hc := count_rd B0 g 7 s9 _ HB.out.1 (by omega)
  rw [E.out.2.2.2.2.2.2.2.2.2] at hc
  refine hc.mono ?_
  clear hc
  rintro e w10 ⟨rfl, hR, hO⟩
  have hne : bx ≠ g := by have := HB.out.2.2.2.2.2.1; omega
  have H10 := Lib.hid (show RdP B0 w10 g s10 ∧ Blk w10 bx 25 [.int .i64 cl, .int .i64 sp, .int .i64 gr, .int .i64 ep, .int .i64 kd, .int .i64 bl, .slice Dx ndx cdx, .int .i64 od, .int .i64 nw, .slice none 0 0] ∧ Og g w w10 ∧ Blk w10 w.heap.size 25 zWish ∧ Mine w10 w6.heap.size 5 (.slice Dx ndx cdx) da ∧ bx < w10.heap.size from ⟨hR, hO.blk HB.out.2.2.2.1 hne, HB.out.2.1.trans hO (fun _ _ e => e), hO.blk HB.out.2.2.1 (by omega), Mine.og HB.out.2.2.2.2.1 hO (Nat.lt_of_lt_of_le hglt H6.out.2.1.size), Nat.lt_of_lt_of_le HB.out.2.2.2.1.lt hO.size⟩)
  clear hR hO
  rw [Hbx.out]
  go_wp2
  go_loopw [25] (fun i wr => ∃ (k : Nat) (A : Option Addr) (c : Nat), k ≤ m ∧ i = .int .i64 k ∧ Hid (RdP B0 wr g (rns k s10).2 ∧ Blk wr bx 25 [.int .i64 cl, .int .i64 sp, .int .i64 gr, .int .i64 ep, .int .i64 kd, .int .i64 bl, .slice Dx ndx cdx, .int .i64 od, .int .i64 nw, .slice A k c] ∧ OwnI wr w10.heap.size (.slice A k c) (rns k s10).1 ∧ Out (fun i => i = g ∨ i = bx) w10 wr ∧ w10.heap.size ≤ wr.heap.size)) (fun i _ => m - (intOf i).toNat)
  case atStart => exact ⟨0, none, 0, Nat.zero_le _, rfl, ⟨H10.out.1, H10.out.2.1, OwnI.nil _ _, Out.refl _ _, Nat.le_refl _⟩⟩
  case round =>
    obtain ⟨k, A, c, hk, rfl, hI⟩ := hrel
    by_cases hlt : k < m
    · have hlt' : (k : Int) < m := by omega
      obtain ⟨l, q, hlq⟩ : ∃ a b, rns k s10 = (a, b) := ⟨_, _, rfl⟩
      obtain ⟨x, q', hxq⟩ : ∃ a b, rn q = (a, b) := ⟨_, _, rfl⟩
      have hst : rns (k + 1) s10 = (l ++ [x], q') := by unfold rns; simp only [hlq, hxq]
      have hll : l.length = k := by have := rns_len k s10; rw [hlq] at this; exact this
      have hI2 := hI.out
      rw [hlq] at hI2
      simp only at hI2
      obtain ⟨hR0, hB0, hN0, hO0, hs0⟩ := hI2
      have hdr : Below wr.heap.size wr wr.drew := (Below.refl _ _).drew
      have k9 : wr.cell? ⟨bx, 9, none⟩ = some (.slice A k c) := hB0.cell rfl
      have hB0le : B0 ≤ bx := by have := H.out.1; have := HB.out.2.2.2.2.2.1; omega
      have HI := Lib.hid (And.intro (hR0.bel hdr) (And.intro (hB0.below hdr hB0.lt) (And.intro (own_below hN0 hdr) (And.intro (hO0.then_below hdr) (And.intro hs0 (And.intro hxq (And.intro hst (And.intro hll hB0le))))))))
      clear hI hR0 hB0 hN0 hO0 hs0 hxq hst hll hlq hdr hB0le
      go_wp2_with fail
      refine wp_region_held_drew (S := fun _ => True) (by kernel_rfl) trivial (fun _ => ?_)
      refine anyH_take (i := 0) (d := 27) (v := ?p0) rfl rfl (by kernel_rfl) (by kernel_rfl) (by kernel_rfl) (fun _ _ _ h => h) (Or.inl ⟨by rfl, ?py0⟩) trivial ?pr0
      case py0 => (intro w; go_simp; try with_reducible rfl)
      simp only [List.setIfInBounds_toArray, List.set_cons_zero, List.set_cons_succ]
      refine anyH_take (i := 2) (d := 29) (v := ?p2) rfl rfl (by kernel_rfl) (by kernel_rfl) (by kernel_rfl) (fun _ _ _ h => h) (Or.inl ⟨by rfl, ?py2⟩) trivial ?pr2
      case py2 => (intro w; go_simp; try with_reducible rfl)
      simp only [List.setIfInBounds_toArray, List.set_cons_zero, List.set_cons_succ]
      refine anyH_two (i := 1) (j := 3) (by kernel_rfl) ?_ ?_
      · skip
        refine wpOp_step rfl (fun K hK => ?_)
        go_simp
        refine hK _ _ ⟨trivial, ?_⟩
        clear hK K
        refine anyH_one (i := 3) (by kernel_rfl) ?_
        refine wpOp_step rfl (fun K hK => ?_)
        go_simp
        have hc := number_rd B0 g q _ HI.out.1
        rw [HI.out.2.2.2.2.2.1] at hc
        refine hc.mono ?_
        clear hc
        rintro e w1 ⟨rfl, hR1, hO1⟩
        obtain ⟨A', c', w3, hap, k9a, k9b, f9, hF⟩ := app_step (x := x) rd_u8 hR1 (hO1.blk HI.out.2.1 hne) rfl (own_out HI.out.2.2.1 hO1 (fun i hi e => by have := (World.ownsRow.lt HI.out.2.2.1 i hi).1; have := H10.out.2.2.2.2.2; have := hglt; have := HB.out.2.2.2.2.2.1; omega)) HI.out.2.2.2.2.2.2.2.1 (by omega) (HI.out.2.2.2.1.trans hO1 (fun _ _ e => .inl e)) (Nat.le_refl _) H10.out.2.2.2.2.2 (by have := H10.out.2.2.2.2.2; have := HB.out.2.2.2.2.2.1; omega) (fun e => hne e.symm) HI.out.2.2.2.2.2.2.2.2 (Nat.le_trans HI.out.2.2.2.2.1 hO1.size)
        have k9c : w1.cell? ⟨bx, 9, none⟩ = some (.slice A k c) := (hO1.blk HI.out.2.1 hne).cell rfl
        have k9a : (w1.alloc (.cells #[.int .i64 x] 3)).cell? ⟨bx, 9, none⟩ = some (.slice A k c) := k9a
        have k9b : w3.cell? ⟨bx, 9, none⟩ = some (.slice A k c) := k9b
        have HF := Lib.hid hF
        clear hF hR1 hO1
        refine hK _ _ ⟨trivial, ?_⟩
        clear hK K
        refine anyH_one (i := 4) (by kernel_rfl) ?_
        refine op_row rfl rfl rfl _ _ _ rfl _ _ (by simp only [List.map_toArray, List.map_cons, List.map_nil]; exact row1 _ _) ?_
        refine ⟨trivial, ?_⟩
        simp only [List.setIfInBounds_toArray, List.set_cons_zero, List.set_cons_succ]
        refine anyH_one (i := 5) (by kernel_rfl) ?_
        refine op_append rfl rfl rfl _ _ _ _ rfl _ _ _ _ rfl rfl hap ?_
        refine ⟨trivial, ?_⟩
        simp only [List.setIfInBounds_toArray, List.set_cons_zero, List.set_cons_succ]
        refine anyH_take (i := 6) (d := 33) (v := ?p6a) rfl rfl (by kernel_rfl) (by kernel_rfl) (by kernel_rfl) (fun _ _ _ h => h) (Or.inl ⟨by rfl, ?py6a⟩) trivial ?pr6a
        case py6a => (intro w; go_simp; try with_reducible rfl)
        simp only [List.setIfInBounds_toArray, List.set_cons_zero, List.set_cons_succ]
        refine anyH_one (i := 7) (by kernel_rfl) ?_
        refine wpOp_step rfl (fun K hK => ?_)
        go_simp
        refine hK _ _ ⟨trivial, ?_⟩
        clear hK K
        refine wpAnyH_done (by kernel_rfl) ?_ _
        go_wp2
        go_roundw
        case rel => exact ⟨k + 1, A', c', by omega, by go_num, ⟨by rw [HI.out.2.2.2.2.2.2.1]; exact HF.out.1, HF.out.2.1, by rw [HI.out.2.2.2.2.2.2.1]; exact HF.out.2.2.1, HF.out.2.2.2.1, HF.out.2.2.2.2⟩⟩
        case measure => simp [intOf]; omega
      · skip
        refine wpOp_step rfl (fun K hK => ?_)
        go_simp
        have hc := number_rd B0 g q _ HI.out.1
        rw [HI.out.2.2.2.2.2.1] at hc
        refine hc.mono ?_
        clear hc
        rintro e w1 ⟨rfl, hR1, hO1⟩
        obtain ⟨A', c', w3, hap, k9a, k9b, f9, hF⟩ := app_step (x := x) rd_u8 hR1 (hO1.blk HI.out.2.1 hne) rfl (own_out HI.out.2.2.1 hO1 (fun i hi e => by have := (World.ownsRow.lt HI.out.2.2.1 i hi).1; have := H10.out.2.2.2.2.2; have := hglt; have := HB.out.2.2.2.2.2.1; omega)) HI.out.2.2.2.2.2.2.2.1 (by omega) (HI.out.2.2.2.1.trans hO1 (fun _ _ e => .inl e)) (Nat.le_refl _) H10.out.2.2.2.2.2 (by have := H10.out.2.2.2.2.2; have := HB.out.2.2.2.2.2.1; omega) (fun e => hne e.symm) HI.out.2.2.2.2.2.2.2.2 (Nat.le_trans HI.out.2.2.2.2.1 hO1.size)
        have k9c : w1.cell? ⟨bx, 9, none⟩ = some (.slice A k c) := (hO1.blk HI.out.2.1 hne).cell rfl
        have k9a : (w1.alloc (.cells #[.int .i64 x] 3)).cell? ⟨bx, 9, none⟩ = some (.slice A k c) := k9a
        have k9b : w3.cell? ⟨bx, 9, none⟩ = some (.slice A k c) := k9b
        have HF := Lib.hid hF
        clear hF hR1 hO1
        refine hK _ _ ⟨trivial, ?_⟩
        clear hK K
        refine anyH_two (i := 1) (j := 4) (by kernel_rfl) ?_ ?_
        · skip
          refine wpOp_step rfl (fun K hK => ?_)
          go_simp
          refine hK _ _ ⟨trivial, ?_⟩
          clear hK K
          refine anyH_one (i := 4) (by kernel_rfl) ?_
          refine op_row rfl rfl rfl _ _ _ rfl _ _ (by simp only [List.map_toArray, List.map_cons, List.map_nil]; exact row1 _ _) ?_
          refine ⟨trivial, ?_⟩
          simp only [List.setIfInBounds_toArray, List.set_cons_zero, List.set_cons_succ]
          refine anyH_one (i := 5) (by kernel_rfl) ?_
          refine op_append rfl rfl rfl _ _ _ _ rfl _ _ _ _ rfl rfl hap ?_
          refine ⟨trivial, ?_⟩
          simp only [List.setIfInBounds_toArray, List.set_cons_zero, List.set_cons_succ]
          refine anyH_take (i := 6) (d := 33) (v := ?p6b) rfl rfl (by kernel_rfl) (by kernel_rfl) (by kernel_rfl) (fun _ _ _ h => h) (Or.inl ⟨by rfl, ?py6b⟩) trivial ?pr6b
          case py6b => (intro w; go_simp; try with_reducible rfl)
          simp only [List.setIfInBounds_toArray, List.set_cons_zero, List.set_cons_succ]
          refine anyH_one (i := 7) (by kernel_rfl) ?_
          refine wpOp_step rfl (fun K hK => ?_)
          go_simp
          refine hK _ _ ⟨trivial, ?_⟩
          clear hK K
          refine wpAnyH_done (by kernel_rfl) ?_ _
          go_wp2
          go_roundw
          case rel => exact ⟨k + 1, A', c', by omega, by go_num, ⟨by rw [HI.out.2.2.2.2.2.2.1]; exact HF.out.1, HF.out.2.1, by rw [HI.out.2.2.2.2.2.2.1]; exact HF.out.2.2.1, HF.out.2.2.2.1, HF.out.2.2.2.2⟩⟩
          case measure => simp [intOf]; omega
        · skip
          refine op_row rfl rfl rfl _ _ _ rfl _ _ (by simp only [List.map_toArray, List.map_cons, List.map_nil]; exact row1 _ _) ?_
          refine ⟨trivial, ?_⟩
          simp only [List.setIfInBounds_toArray, List.set_cons_zero, List.set_cons_succ]
          refine anyH_one (i := 1) (by kernel_rfl) ?_
          refine wpOp_step rfl (fun K hK => ?_)
          go_simp
          refine hK _ _ ⟨trivial, ?_⟩
          clear hK K
          refine anyH_one (i := 5) (by kernel_rfl) ?_
          refine op_append rfl rfl rfl _ _ _ _ rfl _ _ _ _ rfl rfl hap ?_
          refine ⟨trivial, ?_⟩
          simp only [List.setIfInBounds_toArray, List.set_cons_zero, List.set_cons_succ]
          refine anyH_take (i := 6) (d := 33) (v := ?p6c) rfl rfl (by kernel_rfl) (by kernel_rfl) (by kernel_rfl) (fun _ _ _ h => h) (Or.inl ⟨by rfl, ?py6c⟩) trivial ?pr6c
          case py6c => (intro w; go_simp; try with_reducible rfl)
          simp only [List.setIfInBounds_toArray, List.set_cons_zero, List.set_cons_succ]
          refine anyH_one (i := 7) (by kernel_rfl) ?_
          refine wpOp_step rfl (fun K hK => ?_)
          go_simp
          refine hK _ _ ⟨trivial, ?_⟩
          clear hK K
          refine wpAnyH_done (by kernel_rfl) ?_ _
          go_wp2
          go_roundw
          case rel => exact ⟨k + 1, A', c', by omega, by go_num, ⟨by rw [HI.out.2.2.2.2.2.2.1]; exact HF.out.1, HF.out.2.1, by rw [HI.out.2.2.2.2.2.2.1]; exact HF.out.2.2.1, HF.out.2.2.2.1, HF.out.2.2.2.2⟩⟩
          case measure => simp [intOf]; omega
    · have hlt' : ¬ (k : Int) < m := by omega
      have hkm : k = m := by omega
      subst hkm
      obtain ⟨hR0, hB0, hN0, hO0, hs0⟩ := hI.out
      have k0 : wr.cell? ⟨bx, 0, none⟩ = some (.int .i64 cl) := hB0.cell rfl
      have k1 : wr.cell? ⟨bx, 1, none⟩ = some (.int .i64 sp) := hB0.cell rfl
      have k2 : wr.cell? ⟨bx, 2, none⟩ = some (.int .i64 gr) := hB0.cell rfl
      have k3 : wr.cell? ⟨bx, 3, none⟩ = some (.int .i64 ep) := hB0.cell rfl
      have k4 : wr.cell? ⟨bx, 4, none⟩ = some (.int .i64 kd) := hB0.cell rfl
      have k5 : wr.cell? ⟨bx, 5, none⟩ = some (.int .i64 bl) := hB0.cell rfl
      have k6 : wr.cell? ⟨bx, 6, none⟩ = some (.slice Dx ndx cdx) := hB0.cell rfl
      have k7 : wr.cell? ⟨bx, 7, none⟩ = some (.int .i64 od) := hB0.cell rfl
      have k8 : wr.cell? ⟨bx, 8, none⟩ = some (.int .i64 nw) := hB0.cell rfl
      have k9 : wr.cell? ⟨bx, 9, none⟩ = some (.slice A k c) := hB0.cell rfl
      have hrb : Blk wr w.heap.size 25 zWish := hO0.blk H10.out.2.2.2.1 (by rintro (e | e) <;> (have := HB.out.2.2.2.2.2.1; omega))
      have HE := Lib.hid (And.intro hR0 (And.intro hN0 (And.intro hO0 (And.intro hs0 hrb))))
      have hone : ([.int .i64 cl, .int .i64 sp, .int .i64 gr, .int .i64 ep, .int .i64 kd, .int .i64 bl, .slice Dx ndx cdx, .int .i64 od, .int .i64 nw, .slice A k c] : List Value).toArray.all (·.oneCell') = true := by simp [Value.oneCell']
      have hlen : w.heap.size < w6.heap.size ∧ w.heap.size < bx ∧ w7.heap.size ≤ bx := ⟨H6.out.2.2.2, HB.out.2.2.2.2.2.1, HB.out.2.2.2.2.2.2⟩
      have hst : Out (fun i => i = w.heap.size) wr (wr.setCells w.heap.size 0 [.int .i64 cl, .int .i64 sp, .int .i64 gr, .int .i64 ep, .int .i64 kd, .int .i64 bl, .slice Dx ndx cdx, .int .i64 od, .int .i64 nw, .slice A k c]) := cells_out _ _ _ _
      have hF1 : RdP B0 (wr.setCells w.heap.size 0 [.int .i64 cl, .int .i64 sp, .int .i64 gr, .int .i64 ep, .int .i64 kd, .int .i64 bl, .slice Dx ndx cdx, .int .i64 od, .int .i64 nw, .slice A k c]) g (rns k s10).2 := hR0.out hst (by omega) (fun i _ e => by subst e; exact Nu.blk hrb (by have := H.out.1; omega) wish_u8)
      have hF2 := Blk.setAll hrb (vs := [.int .i64 cl, .int .i64 sp, .int .i64 gr, .int .i64 ep, .int .i64 kd, .int .i64 bl, .slice Dx ndx cdx, .int .i64 od, .int .i64 nw, .slice A k c]) rfl
      have hF3 : OwnI (wr.setCells w.heap.size 0 [.int .i64 cl, .int .i64 sp, .int .i64 gr, .int .i64 ep, .int .i64 kd, .int .i64 bl, .slice Dx ndx cdx, .int .i64 od, .int .i64 nw, .slice A k c]) w10.heap.size (.slice A k c) (rns k s10).1 := own_out hN0 hst (fun i hi e => by have := (World.ownsRow.lt hN0 i hi).1; have := H10.out.2.2.2.2.2; omega)
      have hF4 : Mine (wr.setCells w.heap.size 0 [.int .i64 cl, .int .i64 sp, .int .i64 gr, .int .i64 ep, .int .i64 kd, .int .i64 bl, .slice Dx ndx cdx, .int .i64 od, .int .i64 nw, .slice A k c]) w6.heap.size 5 (.slice Dx ndx cdx) da := own_out (own_out H10.out.2.2.2.2.1 hO0 (fun i hi e => by have := HD.out i hi; have := H6.out.2.1.size; omega)) hst (fun i hi e => by have := HD.out i hi; omega)
      have hF5 : Og g w (wr.setCells w.heap.size 0 [.int .i64 cl, .int .i64 sp, .int .i64 gr, .int .i64 ep, .int .i64 kd, .int .i64 bl, .slice Dx ndx cdx, .int .i64 od, .int .i64 nw, .slice A k c]) := (H10.out.2.2.1.trans hO0 (fun i hi e => by rcases e with e | e <;> omega)).trans hst (fun i hi e => by omega)
      obtain ⟨wF, hwF⟩ : ∃ W, wr.setCells w.heap.size 0 [.int .i64 cl, .int .i64 sp, .int .i64 gr, .int .i64 ep, .int .i64 kd, .int .i64 bl, .slice Dx ndx cdx, .int .i64 od, .int .i64 nw, .slice A k c] = W := ⟨_, rfl⟩
      rw [hwF] at hF1 hF2 hF3 hF4 hF5
      have hwF2 : wr.setCells w.heap.size 0 ([.int .i64 cl, .int .i64 sp, .int .i64 gr, .int .i64 ep, .int .i64 kd, .int .i64 bl, .slice Dx ndx cdx, .int .i64 od, .int .i64 nw, .slice A k c] : List Value).toArray.toList = wF := hwF
      have hll := rns_len k s10
      have HF := Lib.hid (And.intro hF1 (And.intro hF2 (And.intro hF3 (And.intro hF4 (And.intro hF5 (And.intro hrb.there (And.intro hone (And.intro hwF2 hll))))))))
      have h610 : w.heap.size ≤ w6.heap.size ∧ w.heap.size ≤ w10.heap.size := ⟨by omega, by have := H10.out.2.2.2.2.2; omega⟩
      clear hI hR0 hB0 hN0 hO0 hs0 hrb hst hF1 hF2 hF3 hF4 hF5 hone hwF hwF2 hll hlen
      go_wp2_with (refine wpList_store_mid rfl 25 _ _ rfl w.heap.size 0 ([.int .i64 cl, .int .i64 sp, .int .i64 gr, .int .i64 ep, .int .i64 kd, .int .i64 bl, .slice Dx ndx cdx, .int .i64 od, .int .i64 nw, .slice A k c] : List Value).toArray rfl rfl HF.out.2.2.2.2.2.1 wish_size HF.out.2.2.2.2.2.2.1 ?_; simp only [Act.put]; refine cast (congrArg (fun z => wpList _ _ _ _ _ z) HF.out.2.2.2.2.2.2.2.1.symm) ?_)
      refine bodyPost_ret (results_row rfl _ _ w.heap.size 25 _ _ rfl HF.out.2.1 Tryz.underlying25 rfl wish_size) rfl ?_
      rw [hr.out]
      exact ⟨_, rfl, ⟨Dx, ndx, cdx, A, k, c, rfl, ⟨Mine.base HF.out.2.2.2.1 h610.1, Hnd.out⟩, own_base HF.out.2.2.1 h610.2, HF.out.2.2.2.2.2.2.2.2⟩, HF.out.1, HF.out.2.2.2.2.1⟩

end Go.Proofs.YtihmddpafbackaaGreat

namespace Go.Proofs.YtihmddpafbackaaGreat

open Go.RowKit

set_option linter.unusedVariables false

set_option linter.unusedSimpArgs false

theorem ret_b {a b : Bool} (h : a = true ↔ b = true) : Ending.returned (.bool a) = .returned (.bool b) := by rw [Bool.eq_iff_iff.2 h]

theorem ret_b0 {b : Bool} (h : ¬ b = true) : Ending.returned (.bool false) = .returned (.bool b) := by rw [Bool.eq_false_iff.2 h]

theorem ret_b1 {b : Bool} (h : b = true) : Ending.returned (.bool true) = .returned (.bool b) := by rw [h]

theorem within_any (n a b : Int) (w : World) : Calls Tryz.prog 61 #[.int .i64 n, .int .i64 a, .int .i64 b] w fun e w' => e = .returned (.bool (decide (a ≤ n ∧ n ≤ b))) ∧ w = w' := by
  go_enter Tryz.func61, Tryz.ntmps61
  go_wp2
  all_goals go_ret
  all_goals first | exact ⟨ret_b (by simp only [Bool.and_eq_true, decide_eq_true_eq]; omega), rfl⟩ | exact ⟨ret_b0 (by simp only [Bool.and_eq_true, decide_eq_true_eq]; omega), rfl⟩

theorem chunk_any (n : Int) (w : World) : Calls Tryz.prog 86 #[.int .i64 n] w fun e w' => e = .returned (.bool (decide (1 ≤ n ∧ n ≤ 2))) ∧ w = w' := by
  go_enter Tryz.func86, Tryz.ntmps86
  go_wp2_with (go_at_call 61; refine (within_any _ _ _ _).mono ?_; rintro e w' ⟨rfl, rfl⟩)
  go_ret
  exact ⟨ret_b (by simp only [Bool.and_eq_true, decide_eq_true_eq]), rfl⟩

theorem node_any (n : Int) (w : World) : Calls Tryz.prog 87 #[.int .i64 n] w fun e w' => e = .returned (.bool (decide (1 ≤ n ∧ n ≤ 28))) ∧ w = w' := by
  go_enter Tryz.func87, Tryz.ntmps87
  go_wp2_with (go_at_call 61; refine (within_any _ _ _ _).mono ?_; rintro e w' ⟨rfl, rfl⟩)
  go_ret
  exact ⟨ret_b (by simp only [Bool.and_eq_true, decide_eq_true_eq]), rfl⟩

section

variable (x : Wl) (Dx : Option Addr) (ndx cdx : Nat) (Nx : Option Addr) (nnx cnx : Nat) (w : World)

theorem asked_any : Calls Tryz.prog 62 #[.agg #[.int .i64 x.cl, .int .i64 x.sp, .int .i64 x.gr, .int .i64 x.ep, .int .i64 x.kd, .int .i64 x.bl, .slice Dx ndx cdx, .int .i64 x.od, .int .i64 x.nw, .slice Nx nnx cnx]] w fun e w' => e = .returned (.bool (decide (Askd x))) ∧ Below w.heap.size w w' := by
  go_enter Tryz.func62, Tryz.ntmps62
  go_wp2_with (go_at_call 61; refine (within_any _ _ _ _).mono ?_; rintro e w' ⟨rfl, rfl⟩)
  all_goals go_ret
  all_goals first | exact ⟨ret_b (by simp only [Bool.and_eq_true, decide_eq_true_eq]; omega), (Below.refl _ _).alloc (Nat.le_refl _) _⟩ | exact ⟨ret_b0 (by simp only [Bool.and_eq_true, decide_eq_true_eq]; omega), (Below.refl _ _).alloc (Nat.le_refl _) _⟩

theorem ofBlock_any : Calls Tryz.prog 63 #[.agg #[.int .i64 x.cl, .int .i64 x.sp, .int .i64 x.gr, .int .i64 x.ep, .int .i64 x.kd, .int .i64 x.bl, .slice Dx ndx cdx, .int .i64 x.od, .int .i64 x.nw, .slice Nx nnx cnx]] w fun e w' => e = .returned (.bool (decide (OfBl x))) ∧ Below w.heap.size w w' := by
  go_enter Tryz.func63, Tryz.ntmps63
  go_wp2_with (first | (go_at_call 61; refine (within_any _ _ _ _).mono ?_; rintro e w' ⟨rfl, rfl⟩) | (go_at_call 86; refine (chunk_any _ _).mono ?_; rintro e w' ⟨rfl, rfl⟩))
  all_goals go_ret
  all_goals first | exact ⟨ret_b (by simp only [Bool.and_eq_true, decide_eq_true_eq]; omega), (Below.refl _ _).alloc (Nat.le_refl _) _⟩ | exact ⟨ret_b0 (by simp only [Bool.and_eq_true, decide_eq_true_eq]; omega), (Below.refl _ _).alloc (Nat.le_refl _) _⟩

theorem ofDirectory_any : Calls Tryz.prog 65 #[.agg #[.int .i64 x.cl, .int .i64 x.sp, .int .i64 x.gr, .int .i64 x.ep, .int .i64 x.kd, .int .i64 x.bl, .slice Dx ndx cdx, .int .i64 x.od, .int .i64 x.nw, .slice Nx nnx cnx]] w fun e w' => e = .returned (.bool (decide (OfDr x))) ∧ Below w.heap.size w w' := by
  go_enter Tryz.func65, Tryz.ntmps65
  go_wp2_with (first | (go_at_call 61; refine (within_any _ _ _ _).mono ?_; rintro e w' ⟨rfl, rfl⟩) | (go_at_call 86; refine (chunk_any _ _).mono ?_; rintro e w' ⟨rfl, rfl⟩))
  all_goals go_ret
  all_goals first | exact ⟨ret_b (by simp only [Bool.and_eq_true, decide_eq_true_eq]; omega), (Below.refl _ _).alloc (Nat.le_refl _) _⟩ | exact ⟨ret_b0 (by simp only [Bool.and_eq_true, decide_eq_true_eq]; omega), (Below.refl _ _).alloc (Nat.le_refl _) _⟩

theorem swap_any : Calls Tryz.prog 66 #[.agg #[.int .i64 x.cl, .int .i64 x.sp, .int .i64 x.gr, .int .i64 x.ep, .int .i64 x.kd, .int .i64 x.bl, .slice Dx ndx cdx, .int .i64 x.od, .int .i64 x.nw, .slice Nx nnx cnx]] w fun e w' => e = .returned (.bool (decide (Swp x))) ∧ Below w.heap.size w w' := by
  go_enter Tryz.func66, Tryz.ntmps66
  go_wp2_with (first | (go_at_call 87; refine (node_any _ _).mono ?_; rintro e w' ⟨rfl, rfl⟩) | (go_at_call 86; refine (chunk_any _ _).mono ?_; rintro e w' ⟨rfl, rfl⟩))
  all_goals go_ret
  all_goals first | exact ⟨ret_b (by simp only [Bool.and_eq_true, decide_eq_true_eq, bne_iff_ne, ne_eq]; omega), (Below.refl _ _).alloc (Nat.le_refl _) _⟩ | exact ⟨ret_b0 (by simp only [Bool.and_eq_true, decide_eq_true_eq, bne_iff_ne, ne_eq]; omega), (Below.refl _ _).alloc (Nat.le_refl _) _⟩

theorem noSwap_any : Calls Tryz.prog 64 #[.agg #[.int .i64 x.cl, .int .i64 x.sp, .int .i64 x.gr, .int .i64 x.ep, .int .i64 x.kd, .int .i64 x.bl, .slice Dx ndx cdx, .int .i64 x.od, .int .i64 x.nw, .slice Nx nnx cnx]] w fun e w' => e = .returned (.bool (decide (NoS x))) ∧ Below w.heap.size w w' := by
  go_enter Tryz.func64, Tryz.ntmps64
  go_wp2
  all_goals go_ret
  all_goals first | exact ⟨ret_b (by simp only [Bool.and_eq_true, decide_eq_true_eq, beq_iff_eq]; omega), (Below.refl _ _).alloc (Nat.le_refl _) _⟩ | exact ⟨ret_b0 (by simp only [Bool.and_eq_true, decide_eq_true_eq, beq_iff_eq]; omega), (Below.refl _ _).alloc (Nat.le_refl _) _⟩

abbrev SealF (x : Wl) : Prop := x.cl = 0 ∧ x.sp = 0 ∧ (1 ≤ x.gr ∧ x.gr ≤ 2) ∧ x.bl = 0

theorem seal_any : Calls Tryz.prog 67 #[.agg #[.int .i64 x.cl, .int .i64 x.sp, .int .i64 x.gr, .int .i64 x.ep, .int .i64 x.kd, .int .i64 x.bl, .slice Dx ndx cdx, .int .i64 x.od, .int .i64 x.nw, .slice Nx nnx cnx]] w fun e w' => e = .returned (.bool (decide (SealF x))) ∧ Below w.heap.size w w' := by
  go_enter Tryz.func67, Tryz.ntmps67
  go_wp2_with (first | (go_at_call 61; refine (within_any _ _ _ _).mono ?_; rintro e w' ⟨rfl, rfl⟩) | (go_at_call 86; refine (chunk_any _ _).mono ?_; rintro e w' ⟨rfl, rfl⟩))
  all_goals go_ret
  all_goals first | exact ⟨ret_b (by simp only [Bool.and_eq_true, decide_eq_true_eq, beq_iff_eq]; omega), (Below.refl _ _).alloc (Nat.le_refl _) _⟩ | exact ⟨ret_b0 (by simp only [Bool.and_eq_true, decide_eq_true_eq, beq_iff_eq]; omega), (Below.refl _ _).alloc (Nat.le_refl _) _⟩

end

end Go.Proofs.YtihmddpafbackaaGreat

namespace Go.Proofs.YtihmddpafbackaaGreat

open Go.RowKit

set_option linter.unusedVariables false

set_option linter.unusedSimpArgs false

theorem ris_drop {a : Int} {l : List Int} {k : Nat} (h : k < l.length) : ris a (l.drop k) ↔ (1 ≤ l[k] ∧ l[k] ≤ 28) ∧ a < l[k] ∧ ris l[k] (l.drop (k + 1)) := by
  rw [List.drop_eq_getElem_cons h]
  exact Iff.rfl

theorem May5 {x : Wl} (hk : x.kd = 5) : May x ↔ (0 ≤ x.ep ∧ x.ep ≤ 1048576) ∧ SealF x ∧ x.da.length = 0 ∧ NoS x ∧ Nxt x.nx := by
  unfold May
  constructor
  · rintro ⟨h, h1 | h1 | h1 | h1 | h1⟩
    · exact absurd h1.1 (by omega)
    · exact absurd h1.1 (by omega)
    · exact absurd h1.1 (by omega)
    · exact absurd h1.1 (by omega)
    · exact ⟨h, h1.2⟩
  · rintro ⟨h, h1⟩
    exact ⟨h, .inr (.inr (.inr (.inr ⟨hk, h1⟩)))⟩

theorem tmod3 (n : Nat) : ((n : Int).tmod 3) = ((n % 3 : Nat) : Int) := by
  rw [Int.tmod_eq_emod_of_nonneg (by omega)]; rfl

set_option maxHeartbeats 800000 in
theorem next_any (A : Option Addr) (n c : Nat) (l : List Int) (w : World) (h : ArgI w A n c l) : Calls Tryz.prog 68 #[.slice A n c] w fun e w' => e = .returned (.bool (decide (Nxt l))) ∧ w = w' := by
  have hl := h.1
  have hm := h.2.2.1
  have hnc := h.2.1
  unfold maxLen at hm
  have Hl := Lib.hid hl
  obtain ⟨r, hr⟩ : ∃ r, decide (Nxt l) = r := ⟨_, rfl⟩
  have Hr := Lib.hid hr
  rw [hr]
  clear hr hl
  by_cases h7 : 7 < n
  · have hr : Hid (r = false) := by
      show _ = _; rw [← Hr.out, decide_eq_false_iff_not]; have := Hl.out; rintro ⟨h1, _⟩; omega
    have h7' : (7 : Int) < n := by omega
    go_enter Tryz.func68, Tryz.ntmps68
    go_wp2
    go_ret
    exact ⟨ret_bool hr.out.symm, rfl⟩
  · have h7' : ¬ (7 : Int) < n := by omega
    have ht := tmod3 n
    by_cases h3 : n % 3 = 1
    · rw [h3] at ht
      have ht1 : ((n : Int).tmod 3) = 1 := ht
      clear ht
      have hlen : l.length = 1 ∨ l.length = 4 ∨ l.length = 7 := by have := Hl.out; omega
      have Hn : Hid (r = true ↔ ris 0 (l.drop 0)) := by
        show _ ↔ _; rw [← Hr.out, decide_eq_true_eq]; exact ⟨fun h => h.2, fun h => ⟨hlen, h⟩⟩
      clear hlen h3
      have H := Lib.hid h
      clear h
      go_enter Tryz.func68, Tryz.ntmps68
      go_wp2
      go_loop [3, 5, 17] (fun s _ i => ∃ (k : Nat) (a : Int), k ≤ n ∧ i = .int .i64 k ∧ s = .int .i64 a ∧ Hid (r = true ↔ ris a (l.drop k))) (fun _ _ i => n - (intOf i).toNat)
      case atStart => exact ⟨0, 0, Nat.zero_le _, rfl, rfl, Hn⟩
      case round =>
        obtain ⟨k, a, hk, rfl, rfl, hq⟩ := hrel
        by_cases hlt : k < n
        · have hkl : k < l.length := by have := Hl.out; omega
          obtain ⟨b, o, rfl, hb, hc⟩ := H.out.2.2.2.1.at_ hkl
          have c0 := hc k hkl
          have Hq : Hid (r = true ↔ (1 ≤ l[k] ∧ l[k] ≤ 28) ∧ a < l[k] ∧ ris l[k] (l.drop (k + 1))) := hq.out.trans (ris_drop hkl)
          clear hc hq
          have hlt' : (k : Int) < n := by omega
          generalize l[k] = x at *
          clear hkl
          by_cases hx : (1 ≤ x ∧ x ≤ 28) ∧ a < x
          · have hx1 : decide (1 ≤ x ∧ x ≤ 28) = true := decide_eq_true hx.1
            have hx2 : ¬ x ≤ a := by omega
            have Hx := Lib.hid hx
            clear hx
            go_wp2_with (go_at_call 87; refine (node_any _ _).mono ?_; rintro e w' ⟨rfl, rfl⟩; rw [hx1])
            go_round
            case rel => exact ⟨k + 1, x, by omega, by go_num, rfl, ⟨fun h => (Hq.out.1 h).2.2, fun h => Hq.out.2 ⟨Hx.out.1, Hx.out.2, h⟩⟩⟩
            case measure => simp [intOf]; omega
          · have hr : Hid (r = false) := by
              show _ = _; rw [Bool.eq_false_iff]; intro h1; have := Hq.out.1 h1; exact hx ⟨this.1, this.2.1⟩
            by_cases hy : 1 ≤ x ∧ x ≤ 28
            · have hx1 : decide (1 ≤ x ∧ x ≤ 28) = true := decide_eq_true hy
              have hx2 : x ≤ a := by omega
              clear hx hy
              go_wp2_with (go_at_call 87; refine (node_any _ _).mono ?_; rintro e w' ⟨rfl, rfl⟩; rw [hx1])
              go_ret
              exact ⟨ret_bool hr.out.symm, rfl⟩
            · have hx1 : decide (1 ≤ x ∧ x ≤ 28) = false := decide_eq_false hy
              clear hx hy
              go_wp2_with (go_at_call 87; refine (node_any _ _).mono ?_; rintro e w' ⟨rfl, rfl⟩; rw [hx1])
              go_ret
              exact ⟨ret_bool hr.out.symm, rfl⟩
        · have hr : Hid (r = true) := by
            show _ = _; have h1 := hq.out; rw [List.drop_of_length_le (by have := Hl.out; omega)] at h1; exact h1.2 trivial
          have hlt' : ¬ (k : Int) < n := by omega
          go_wp2
          go_ret
          exact ⟨ret_bool hr.out.symm, rfl⟩
    · have hr : Hid (r = false) := by
        show _ = _; rw [← Hr.out, decide_eq_false_iff_not]; have := Hl.out; rintro ⟨h1, _⟩; omega
      have ht1 : ¬ ((n : Int).tmod 3) = 1 := by omega
      clear ht
      go_enter Tryz.func68, Tryz.ntmps68
      go_wp2
      go_ret
      exact ⟨ret_bool hr.out.symm, rfl⟩

end Go.Proofs.YtihmddpafbackaaGreat

namespace Go.Proofs.YtihmddpafbackaaGreat

open Go.RowKit

set_option linter.unusedVariables false

set_option linter.unusedSimpArgs false

set_option maxRecDepth 100000 in
set_option maxHeartbeats 1600000 in
theorem mayBe_0 (x : Wl) (Dx : Option Addr) (ndx cdx : Nat) (Nx : Option Addr) (nnx cnx : Nat) (w : World) (h : ArgW w x Dx ndx cdx Nx nnx cnx) (hk : x.kd ≠ 1 ∧ x.kd ≠ 2 ∧ x.kd ≠ 3 ∧ x.kd ≠ 4 ∧ x.kd ≠ 5) : Calls Tryz.prog 40 #[.agg #[.int .i64 x.cl, .int .i64 x.sp, .int .i64 x.gr, .int .i64 x.ep, .int .i64 x.kd, .int .i64 x.bl, .slice Dx ndx cdx, .int .i64 x.od, .int .i64 x.nw, .slice Nx nnx cnx]] w fun e w' => e = .returned (.bool (decide (May x))) ∧ Below w.heap.size w w' := by
  have hd := h.1.1
  have H := Lib.hid h.2.1.1
  have hn := h.2.1.1.1
  clear h
  obtain ⟨r, hr⟩ : ∃ r, decide (May x) = r := ⟨_, rfl⟩
  rw [hr]
  have Hr : Hid (r = true ↔ May x) := by show _ ↔ _; rw [← hr, decide_eq_true_eq]
  have F0 := Lib.hid (And.intro hd hn)
  clear hr hd hn
  have hx := Lib.hid (Wx.new (w := w) (x := x) (D := Dx) (nd := ndx) (cd := cdx) (N := Nx) (nn := nnx) (cn := cnx))
  have e1 : (x.kd == 1) = false := by simp only [beq_eq_false_iff_ne]; omega
  have e2 : (x.kd == 2) = false := by simp only [beq_eq_false_iff_ne]; omega
  have e3 : (x.kd == 3) = false := by simp only [beq_eq_false_iff_ne]; omega
  have e4 : (x.kd == 4) = false := by simp only [beq_eq_false_iff_ne]; omega
  have e5 : (x.kd == 5) = false := by simp only [beq_eq_false_iff_ne]; omega
  have Hk := Lib.hid hk
  clear hk
  go_enter Tryz.func40, Tryz.ntmps40
  go_wp2_with fail
  refine (within_any _ _ _ _).mono ?_
  rintro e w' ⟨rfl, rfl⟩
  obtain ⟨b1, hb1⟩ : ∃ b, decide (0 ≤ x.ep ∧ x.ep ≤ 1048576) = b := ⟨_, rfl⟩
  rw [hb1]
  cases b1 with
  | false =>
    have F1 := Lib.hid (of_decide_eq_false hb1)
    clear hb1
    go_wp2
    all_goals go_ret
    all_goals first | exact ⟨ret_b0 (by rw [Hr.out]; have := F0.out; have := Hk.out; have := F1.out; unfold May; omega), hx.out.bel⟩ | exact ⟨ret_b1 (by rw [Hr.out]; have := F0.out; have := Hk.out; have := F1.out; unfold May; omega), hx.out.bel⟩ | exact ⟨ret_b (by rw [Hr.out]; simp only [Bool.and_eq_true, decide_eq_true_eq, beq_iff_eq]; have := F0.out; have := Hk.out; have := F1.out; unfold May; omega), hx.out.bel⟩
  | true =>
  have F1 := Lib.hid (of_decide_eq_true hb1)
  clear hb1
  go_wp2
  all_goals go_ret
  all_goals first | exact ⟨ret_b0 (by rw [Hr.out]; have := F0.out; have := Hk.out; have := F1.out; unfold May; omega), hx.out.bel⟩ | exact ⟨ret_b1 (by rw [Hr.out]; have := F0.out; have := Hk.out; have := F1.out; unfold May; omega), hx.out.bel⟩ | exact ⟨ret_b (by rw [Hr.out]; simp only [Bool.and_eq_true, decide_eq_true_eq, beq_iff_eq]; have := F0.out; have := Hk.out; have := F1.out; unfold May; omega), hx.out.bel⟩

end Go.Proofs.YtihmddpafbackaaGreat

namespace Go.Proofs.YtihmddpafbackaaGreat

open Go.RowKit

set_option linter.unusedVariables false

set_option linter.unusedSimpArgs false

set_option maxRecDepth 100000 in
set_option maxHeartbeats 1600000 in
theorem mayBe_1 (x : Wl) (Dx : Option Addr) (ndx cdx : Nat) (Nx : Option Addr) (nnx cnx : Nat) (w : World) (h : ArgW w x Dx ndx cdx Nx nnx cnx) (hk : x.kd = 1) : Calls Tryz.prog 40 #[.agg #[.int .i64 x.cl, .int .i64 x.sp, .int .i64 x.gr, .int .i64 x.ep, .int .i64 x.kd, .int .i64 x.bl, .slice Dx ndx cdx, .int .i64 x.od, .int .i64 x.nw, .slice Nx nnx cnx]] w fun e w' => e = .returned (.bool (decide (May x))) ∧ Below w.heap.size w w' := by
  have hd := h.1.1
  have H := Lib.hid h.2.1.1
  have hn := h.2.1.1.1
  clear h
  obtain ⟨r, hr⟩ : ∃ r, decide (May x) = r := ⟨_, rfl⟩
  rw [hr]
  have Hr : Hid (r = true ↔ May x) := by show _ ↔ _; rw [← hr, decide_eq_true_eq]
  have F0 := Lib.hid (And.intro hd hn)
  clear hr hd hn
  have hx := Lib.hid (Wx.new (w := w) (x := x) (D := Dx) (nd := ndx) (cd := cdx) (N := Nx) (nn := nnx) (cn := cnx))
  have e1 : (x.kd == 1) = true := by rw [hk]; rfl
  have Hk := Lib.hid hk
  clear hk
  go_enter Tryz.func40, Tryz.ntmps40
  go_wp2_with fail
  refine (within_any _ _ _ _).mono ?_
  rintro e w' ⟨rfl, rfl⟩
  obtain ⟨b1, hb1⟩ : ∃ b, decide (0 ≤ x.ep ∧ x.ep ≤ 1048576) = b := ⟨_, rfl⟩
  rw [hb1]
  cases b1 with
  | false =>
    have F1 := Lib.hid (of_decide_eq_false hb1)
    clear hb1
    go_wp2
    all_goals go_ret
    all_goals first | exact ⟨ret_b0 (by rw [Hr.out]; have := F0.out; have := Hk.out; have := F1.out; unfold May; omega), hx.out.bel⟩ | exact ⟨ret_b1 (by rw [Hr.out]; have := F0.out; have := Hk.out; have := F1.out; unfold May; omega), hx.out.bel⟩ | exact ⟨ret_b (by rw [Hr.out]; simp only [Bool.and_eq_true, decide_eq_true_eq, beq_iff_eq]; have := F0.out; have := Hk.out; have := F1.out; unfold May; omega), hx.out.bel⟩
  | true =>
  have F1 := Lib.hid (of_decide_eq_true hb1)
  clear hb1
  go_wp2_with fail
  refine (asked_any x Dx ndx cdx Nx nnx cnx _).mono ?_
  rintro e w' ⟨rfl, hb⟩; replace hx := Lib.hid (Wx.on hx.out hb); clear hb; obtain ⟨⟨k0, k1, k2, k3, k4⟩, k5, k6, k7, k8, k9⟩ := hx.out.ks
  obtain ⟨b2, hb2⟩ : ∃ b, decide (Askd x) = b := ⟨_, rfl⟩
  rw [hb2]
  cases b2 with
  | false =>
    have F2 := Lib.hid (of_decide_eq_false hb2)
    clear hb2
    go_wp2
    all_goals go_ret
    all_goals first | exact ⟨ret_b0 (by rw [Hr.out]; have := F0.out; have := Hk.out; have := F1.out; have := F2.out; unfold May; omega), hx.out.bel⟩ | exact ⟨ret_b1 (by rw [Hr.out]; have := F0.out; have := Hk.out; have := F1.out; have := F2.out; unfold May; omega), hx.out.bel⟩ | exact ⟨ret_b (by rw [Hr.out]; simp only [Bool.and_eq_true, decide_eq_true_eq, beq_iff_eq]; have := F0.out; have := Hk.out; have := F1.out; have := F2.out; unfold May; omega), hx.out.bel⟩
  | true =>
  have F2 := Lib.hid (of_decide_eq_true hb2)
  clear hb2
  go_wp2_with fail
  refine (ofBlock_any x Dx ndx cdx Nx nnx cnx _).mono ?_
  rintro e w' ⟨rfl, hb⟩; replace hx := Lib.hid (Wx.on hx.out hb); clear hb; obtain ⟨⟨k0, k1, k2, k3, k4⟩, k5, k6, k7, k8, k9⟩ := hx.out.ks
  obtain ⟨b3, hb3⟩ : ∃ b, decide (OfBl x) = b := ⟨_, rfl⟩
  rw [hb3]
  cases b3 with
  | false =>
    have F3 := Lib.hid (of_decide_eq_false hb3)
    clear hb3
    go_wp2
    all_goals go_ret
    all_goals first | exact ⟨ret_b0 (by rw [Hr.out]; have := F0.out; have := Hk.out; have := F1.out; have := F2.out; have := F3.out; unfold May; omega), hx.out.bel⟩ | exact ⟨ret_b1 (by rw [Hr.out]; have := F0.out; have := Hk.out; have := F1.out; have := F2.out; have := F3.out; unfold May; omega), hx.out.bel⟩ | exact ⟨ret_b (by rw [Hr.out]; simp only [Bool.and_eq_true, decide_eq_true_eq, beq_iff_eq]; have := F0.out; have := Hk.out; have := F1.out; have := F2.out; have := F3.out; unfold May; omega), hx.out.bel⟩
  | true =>
  have F3 := Lib.hid (of_decide_eq_true hb3)
  clear hb3
  by_cases hz : ndx = 0
  rotate_left
  · have hz0 : ((ndx : Int) == 0) = false := by simp only [beq_eq_false_iff_ne]; omega
    have Hz := Lib.hid hz
    clear hz
    go_wp2
    all_goals go_ret
    all_goals first | exact ⟨ret_b0 (by rw [Hr.out]; have := F0.out; have := Hk.out; have := F1.out; have := F2.out; have := F3.out; have := Hz.out; unfold May; omega), hx.out.bel⟩ | exact ⟨ret_b1 (by rw [Hr.out]; have := F0.out; have := Hk.out; have := F1.out; have := F2.out; have := F3.out; have := Hz.out; unfold May; omega), hx.out.bel⟩ | exact ⟨ret_b (by rw [Hr.out]; simp only [Bool.and_eq_true, decide_eq_true_eq, beq_iff_eq]; have := F0.out; have := Hk.out; have := F1.out; have := F2.out; have := F3.out; have := Hz.out; unfold May; omega), hx.out.bel⟩
  have hz0 : ((ndx : Int) == 0) = true := by simp only [beq_iff_eq]; omega
  have Hz := Lib.hid hz
  clear hz
  go_wp2_with fail
  refine (noSwap_any x Dx ndx cdx Nx nnx cnx _).mono ?_
  rintro e w' ⟨rfl, hb⟩; replace hx := Lib.hid (Wx.on hx.out hb); clear hb; obtain ⟨⟨k0, k1, k2, k3, k4⟩, k5, k6, k7, k8, k9⟩ := hx.out.ks
  obtain ⟨b4, hb4⟩ : ∃ b, decide (NoS x) = b := ⟨_, rfl⟩
  rw [hb4]
  cases b4 with
  | false =>
    have F4 := Lib.hid (of_decide_eq_false hb4)
    clear hb4
    go_wp2
    all_goals go_ret
    all_goals first | exact ⟨ret_b0 (by rw [Hr.out]; have := F0.out; have := Hk.out; have := F1.out; have := F2.out; have := F3.out; have := Hz.out; have := F4.out; unfold May; omega), hx.out.bel⟩ | exact ⟨ret_b1 (by rw [Hr.out]; have := F0.out; have := Hk.out; have := F1.out; have := F2.out; have := F3.out; have := Hz.out; have := F4.out; unfold May; omega), hx.out.bel⟩ | exact ⟨ret_b (by rw [Hr.out]; simp only [Bool.and_eq_true, decide_eq_true_eq, beq_iff_eq]; have := F0.out; have := Hk.out; have := F1.out; have := F2.out; have := F3.out; have := Hz.out; have := F4.out; unfold May; omega), hx.out.bel⟩
  | true =>
  have F4 := Lib.hid (of_decide_eq_true hb4)
  clear hb4
  go_wp2
  all_goals go_ret
  all_goals first | exact ⟨ret_b0 (by rw [Hr.out]; have := F0.out; have := Hk.out; have := F1.out; have := F2.out; have := F3.out; have := Hz.out; have := F4.out; unfold May; omega), hx.out.bel⟩ | exact ⟨ret_b1 (by rw [Hr.out]; have := F0.out; have := Hk.out; have := F1.out; have := F2.out; have := F3.out; have := Hz.out; have := F4.out; unfold May; omega), hx.out.bel⟩ | exact ⟨ret_b (by rw [Hr.out]; simp only [Bool.and_eq_true, decide_eq_true_eq, beq_iff_eq]; have := F0.out; have := Hk.out; have := F1.out; have := F2.out; have := F3.out; have := Hz.out; have := F4.out; unfold May; omega), hx.out.bel⟩

end Go.Proofs.YtihmddpafbackaaGreat

namespace Go.Proofs.YtihmddpafbackaaGreat

open Go.RowKit

set_option linter.unusedVariables false

set_option linter.unusedSimpArgs false

set_option maxRecDepth 100000 in
set_option maxHeartbeats 1600000 in
theorem mayBe_2 (x : Wl) (Dx : Option Addr) (ndx cdx : Nat) (Nx : Option Addr) (nnx cnx : Nat) (w : World) (h : ArgW w x Dx ndx cdx Nx nnx cnx) (hk : x.kd = 2) : Calls Tryz.prog 40 #[.agg #[.int .i64 x.cl, .int .i64 x.sp, .int .i64 x.gr, .int .i64 x.ep, .int .i64 x.kd, .int .i64 x.bl, .slice Dx ndx cdx, .int .i64 x.od, .int .i64 x.nw, .slice Nx nnx cnx]] w fun e w' => e = .returned (.bool (decide (May x))) ∧ Below w.heap.size w w' := by
  have hd := h.1.1
  have H := Lib.hid h.2.1.1
  have hn := h.2.1.1.1
  clear h
  obtain ⟨r, hr⟩ : ∃ r, decide (May x) = r := ⟨_, rfl⟩
  rw [hr]
  have Hr : Hid (r = true ↔ May x) := by show _ ↔ _; rw [← hr, decide_eq_true_eq]
  have F0 := Lib.hid (And.intro hd hn)
  clear hr hd hn
  have hx := Lib.hid (Wx.new (w := w) (x := x) (D := Dx) (nd := ndx) (cd := cdx) (N := Nx) (nn := nnx) (cn := cnx))
  have e1 : (x.kd == 1) = false := by rw [hk]; rfl
  have e2 : (x.kd == 2) = true := by rw [hk]; rfl
  have Hk := Lib.hid hk
  clear hk
  go_enter Tryz.func40, Tryz.ntmps40
  go_wp2_with fail
  refine (within_any _ _ _ _).mono ?_
  rintro e w' ⟨rfl, rfl⟩
  obtain ⟨b1, hb1⟩ : ∃ b, decide (0 ≤ x.ep ∧ x.ep ≤ 1048576) = b := ⟨_, rfl⟩
  rw [hb1]
  cases b1 with
  | false =>
    have F1 := Lib.hid (of_decide_eq_false hb1)
    clear hb1
    go_wp2
    all_goals go_ret
    all_goals first | exact ⟨ret_b0 (by rw [Hr.out]; have := F0.out; have := Hk.out; have := F1.out; unfold May; omega), hx.out.bel⟩ | exact ⟨ret_b1 (by rw [Hr.out]; have := F0.out; have := Hk.out; have := F1.out; unfold May; omega), hx.out.bel⟩ | exact ⟨ret_b (by rw [Hr.out]; simp only [Bool.and_eq_true, decide_eq_true_eq, beq_iff_eq]; have := F0.out; have := Hk.out; have := F1.out; unfold May; omega), hx.out.bel⟩
  | true =>
  have F1 := Lib.hid (of_decide_eq_true hb1)
  clear hb1
  go_wp2_with fail
  refine (asked_any x Dx ndx cdx Nx nnx cnx _).mono ?_
  rintro e w' ⟨rfl, hb⟩; replace hx := Lib.hid (Wx.on hx.out hb); clear hb; obtain ⟨⟨k0, k1, k2, k3, k4⟩, k5, k6, k7, k8, k9⟩ := hx.out.ks
  obtain ⟨b2, hb2⟩ : ∃ b, decide (Askd x) = b := ⟨_, rfl⟩
  rw [hb2]
  cases b2 with
  | false =>
    have F2 := Lib.hid (of_decide_eq_false hb2)
    clear hb2
    go_wp2
    all_goals go_ret
    all_goals first | exact ⟨ret_b0 (by rw [Hr.out]; have := F0.out; have := Hk.out; have := F1.out; have := F2.out; unfold May; omega), hx.out.bel⟩ | exact ⟨ret_b1 (by rw [Hr.out]; have := F0.out; have := Hk.out; have := F1.out; have := F2.out; unfold May; omega), hx.out.bel⟩ | exact ⟨ret_b (by rw [Hr.out]; simp only [Bool.and_eq_true, decide_eq_true_eq, beq_iff_eq]; have := F0.out; have := Hk.out; have := F1.out; have := F2.out; unfold May; omega), hx.out.bel⟩
  | true =>
  have F2 := Lib.hid (of_decide_eq_true hb2)
  clear hb2
  go_wp2_with fail
  refine (ofBlock_any x Dx ndx cdx Nx nnx cnx _).mono ?_
  rintro e w' ⟨rfl, hb⟩; replace hx := Lib.hid (Wx.on hx.out hb); clear hb; obtain ⟨⟨k0, k1, k2, k3, k4⟩, k5, k6, k7, k8, k9⟩ := hx.out.ks
  obtain ⟨b3, hb3⟩ : ∃ b, decide (OfBl x) = b := ⟨_, rfl⟩
  rw [hb3]
  cases b3 with
  | false =>
    have F3 := Lib.hid (of_decide_eq_false hb3)
    clear hb3
    go_wp2
    all_goals go_ret
    all_goals first | exact ⟨ret_b0 (by rw [Hr.out]; have := F0.out; have := Hk.out; have := F1.out; have := F2.out; have := F3.out; unfold May; omega), hx.out.bel⟩ | exact ⟨ret_b1 (by rw [Hr.out]; have := F0.out; have := Hk.out; have := F1.out; have := F2.out; have := F3.out; unfold May; omega), hx.out.bel⟩ | exact ⟨ret_b (by rw [Hr.out]; simp only [Bool.and_eq_true, decide_eq_true_eq, beq_iff_eq]; have := F0.out; have := Hk.out; have := F1.out; have := F2.out; have := F3.out; unfold May; omega), hx.out.bel⟩
  | true =>
  have F3 := Lib.hid (of_decide_eq_true hb3)
  clear hb3
  by_cases hz : ndx = 16
  rotate_left
  · have hz0 : ((ndx : Int) == 16) = false := by simp only [beq_eq_false_iff_ne]; omega
    have Hz := Lib.hid hz
    clear hz
    go_wp2
    all_goals go_ret
    all_goals first | exact ⟨ret_b0 (by rw [Hr.out]; have := F0.out; have := Hk.out; have := F1.out; have := F2.out; have := F3.out; have := Hz.out; unfold May; omega), hx.out.bel⟩ | exact ⟨ret_b1 (by rw [Hr.out]; have := F0.out; have := Hk.out; have := F1.out; have := F2.out; have := F3.out; have := Hz.out; unfold May; omega), hx.out.bel⟩ | exact ⟨ret_b (by rw [Hr.out]; simp only [Bool.and_eq_true, decide_eq_true_eq, beq_iff_eq]; have := F0.out; have := Hk.out; have := F1.out; have := F2.out; have := F3.out; have := Hz.out; unfold May; omega), hx.out.bel⟩
  have hz0 : ((ndx : Int) == 16) = true := by simp only [beq_iff_eq]; omega
  have Hz := Lib.hid hz
  clear hz
  go_wp2_with fail
  refine (noSwap_any x Dx ndx cdx Nx nnx cnx _).mono ?_
  rintro e w' ⟨rfl, hb⟩; replace hx := Lib.hid (Wx.on hx.out hb); clear hb; obtain ⟨⟨k0, k1, k2, k3, k4⟩, k5, k6, k7, k8, k9⟩ := hx.out.ks
  obtain ⟨b4, hb4⟩ : ∃ b, decide (NoS x) = b := ⟨_, rfl⟩
  rw [hb4]
  cases b4 with
  | false =>
    have F4 := Lib.hid (of_decide_eq_false hb4)
    clear hb4
    go_wp2
    all_goals go_ret
    all_goals first | exact ⟨ret_b0 (by rw [Hr.out]; have := F0.out; have := Hk.out; have := F1.out; have := F2.out; have := F3.out; have := Hz.out; have := F4.out; unfold May; omega), hx.out.bel⟩ | exact ⟨ret_b1 (by rw [Hr.out]; have := F0.out; have := Hk.out; have := F1.out; have := F2.out; have := F3.out; have := Hz.out; have := F4.out; unfold May; omega), hx.out.bel⟩ | exact ⟨ret_b (by rw [Hr.out]; simp only [Bool.and_eq_true, decide_eq_true_eq, beq_iff_eq]; have := F0.out; have := Hk.out; have := F1.out; have := F2.out; have := F3.out; have := Hz.out; have := F4.out; unfold May; omega), hx.out.bel⟩
  | true =>
  have F4 := Lib.hid (of_decide_eq_true hb4)
  clear hb4
  go_wp2
  all_goals go_ret
  all_goals first | exact ⟨ret_b0 (by rw [Hr.out]; have := F0.out; have := Hk.out; have := F1.out; have := F2.out; have := F3.out; have := Hz.out; have := F4.out; unfold May; omega), hx.out.bel⟩ | exact ⟨ret_b1 (by rw [Hr.out]; have := F0.out; have := Hk.out; have := F1.out; have := F2.out; have := F3.out; have := Hz.out; have := F4.out; unfold May; omega), hx.out.bel⟩ | exact ⟨ret_b (by rw [Hr.out]; simp only [Bool.and_eq_true, decide_eq_true_eq, beq_iff_eq]; have := F0.out; have := Hk.out; have := F1.out; have := F2.out; have := F3.out; have := Hz.out; have := F4.out; unfold May; omega), hx.out.bel⟩

end Go.Proofs.YtihmddpafbackaaGreat
