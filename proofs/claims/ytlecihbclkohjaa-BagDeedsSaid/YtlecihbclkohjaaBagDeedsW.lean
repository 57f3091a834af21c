/-
  For all lists l of deeds (200 at most are done): the program's bag answers as the document's, deed by deed; what is handed in stays, and is not kept, what is answered is memory of its own; BagDeeds returns true; no condition.
-/
import Derived.Test.YtlecihbclkohjaaOpen
import Derived.Test.YtlecihbclkohjaaTr13
namespace Go.Proofs.Ytlecihbclkohjaa.bagDeeds
open Go.ChangeShapes Go.WideShapes Go.ChangeAt Go.RowKit
set_option linter.unusedVariables false

theorem put_sent (b : Bg) (e : En) : (putB b e).sent ≤ b.sent + 1 ∧ (putB b e).lost = b.lost := by
  unfold putB
  split
  · exact ⟨Nat.le_refl _, rfl⟩
  · exact ⟨by omega, rfl⟩
theorem take_sent (b : Bg) (i : Int) : (takeB b i).sent = b.sent ∧ (takeB b i).lost = b.lost := by
  unfold takeB
  split <;> exact ⟨rfl, rfl⟩
theorem drop_sent (b : Bg) (i : Int) : (dropB b i).sent = b.sent ∧ (dropB b i).lost ≤ b.lost + 1 := by
  unfold dropB
  split
  · exact ⟨rfl, Nat.le_refl _⟩
  · exact ⟨rfl, by omega⟩
theorem dbl_sent (b : Bg) (i : Int) : (dblB b i).sent ≤ b.sent + 1 ∧ (dblB b i).lost = b.lost := by
  unfold dblB
  split
  · exact ⟨Nat.le_refl _, rfl⟩
  · exact ⟨by omega, rfl⟩
/-- Of the bytes in a block of K those from j on are as they were. -/
def WrP (w : World) (K : Nat → Prop) (h : EnH) (j : Nat) : Prop := 0 < h.n → ∃ b off cs, h.a = some ⟨b, off, none⟩ ∧ K b ∧ Blk w b 5 cs ∧ off + h.n ≤ cs.length ∧ ∀ i u, j ≤ i → (cbs h.x.bs)[i]? = some u → cs[off + i]? = some u
theorem WrP.of {w : World} {K : Nat → Prop} {h : EnH} (k : ByP w K h) (f : FrP w K h) : WrP w K h 0 := fun hn => by
  obtain ⟨b, off, cs, e, h1, h2, h3⟩ := f hn
  obtain ⟨b', off', e', _, _, hc⟩ := k.2.2.2.2.2 hn
  rw [e] at e'
  injection e' with e'
  injection e' with e1 e2
  subst e1
  subst e2
  refine ⟨b, off, cs, e, h1, h2, h3, fun i u _ hu => ?_⟩
  have h4 := hc i u hu
  have hi : i < h.x.bs.length := by
    rcases Nat.lt_or_ge i h.x.bs.length with h | h
    · exact h
    · rw [List.getElem?_eq_none (by rw [cbs_length]; exact h)] at hu; cases hu
  have hl := k.1
  rw [h2.cell (List.getElem?_eq_getElem (show off + i < cs.length by omega))] at h4
  rw [List.getElem?_eq_getElem (show off + i < cs.length by omega)]
  exact h4
theorem ByP.arg {w w' : World} {h : EnH} (k : ByP w (fun i => i < w.heap.size) h) (hb : Below w.heap.size w w') : ByP w' (fun i => i < w.heap.size) h := k.below hb (fun i hi => hi) (Nat.le_refl _)
set_option maxRecDepth 100000 in
set_option maxHeartbeats 25600000 in
theorem walk (Al : Option Addr) (nl cl : Nat) (l : List DdH) (w : World) (hl : ArgDd w Al nl cl l) :
    Calls Try.prog 3 #[.slice Al nl cl] w fun e w' => e = .returned (.bool true) ∧ Below w.heap.size w w' := by
  have Hl := Lib.hid hl
  clear hl
  go_enter Try.func3, Try.ntmps3
  go_wp2_with fail
  refine (new_any w).mono ?_
  rintro e w1 ⟨ga, rfl, hga, hA, hb1⟩
  have H1 := Lib.hid (And.intro hA hb1)
  clear hA hb1
  go_wp2_with fail
  refine (rnew_any w1).mono ?_
  rintro e w2 ⟨gb, rfl, hgb, hR, hb2⟩
  have H2 := Lib.hid (And.intro (H1.out.1.below hb2) (And.intro hR (H1.out.2.trans (hb2.mono H1.out.2.size))))
  have hz1 := H1.out.2.size
  have hal := H1.out.1.lt ga rfl
  clear hR hb2
  go_wp2_with fail
  refine (new_any w2).mono ?_
  rintro e w3 ⟨go, rfl, hgo, hO, hb3⟩
  have hz2 := H2.out.2.2.size
  have hbl := H2.out.2.1.lt gb rfl
  have hal2 := H2.out.1.lt ga rfl
  have hT : Tri w w3 (fun _ => False) ga gb go newB newB 0 := ⟨_, _, _, newB, H2.out.1.below hb3, H2.out.2.1.below hb3, hO, fun i h e => by omega, fun i h e => by omega, fun i h e => by omega, fun i h => ⟨by omega, fun h => h⟩, fun i h => ⟨by omega, fun h => h⟩, fun i h => ⟨by omega, fun h => h⟩, H2.out.2.2.trans (hb3.mono hz2), fun i h => h.elim, Nat.le_refl _⟩
  have H3 := Lib.hid hT
  clear hT hO hb3 H1 H2 hga hgb hgo hal hbl hal2 hz1 hz2
  go_wp2
  go_loopw [6] (fun i wo => ∃ (q : Nat) (b : Bg), q ≤ nl ∧ q ≤ 200 ∧ i = .int .i64 q ∧ Tri w wo (fun _ => False) ga gb go b b q ∧ b.sent ≤ q ∧ b.lost ≤ q) (fun i _ => 200 - (intOf i).toNat)
  case atStart => exact ⟨0, newB, by omega, by omega, rfl, H3.out, Nat.le_refl _, Nat.le_refl _⟩
  case round =>
    rename World => wo
    obtain ⟨q, b, hq1, hq2, rfl, hT, hse, hlo⟩ := hrel
    have q0 : (0 : Int) ≤ q := by omega
    have HT := Lib.hid hT
    clear hT H3
    by_cases hlt : q < nl ∧ q < 200
    · obtain ⟨hlt1, hlt2⟩ := hlt
      have q1 : (q : Int) < nl := by omega
      have q2 : (q : Int) < 200 := by omega
      have hql : q < l.length := by rw [Hl.out.1]; exact hlt1
      obtain ⟨bl, ol, rfl, hbl, hcl⟩ := Hl.out.2.2.2 (fun e => by rw [e] at hql; simp at hql)
      obtain ⟨hc6, hae, hwk, hwa, hws⟩ := hcl q hql
      obtain ⟨dd, hd⟩ : ∃ dd, l[q] = dd := ⟨_, rfl⟩
      rw [hd] at hc6 hae hwk hwa hws
      obtain ⟨kd, ax, sx, y⟩ := dd
      dsimp only at hc6 hae hwk hwa hws
      have cell : ∀ j, j < 6 → wo.cell? ⟨bl, ol + q * 6 + j, none⟩ = (ddc ⟨kd, ax, sx, y⟩)[j]? := fun j hj => (HT.out.bel.cell (p := ⟨bl, ol + q * 6 + j, none⟩) hbl).trans (hc6 j hj)
      have c0 : wo.cell? ⟨bl, ol + q * 6, none⟩ = some (.int .i64 kd) := cell 0 (by omega)
      have c1 : wo.cell? ⟨bl, ol + q * 6 + 1, none⟩ = some (.int .i64 ax) := cell 1 (by omega)
      have c2 : wo.cell? ⟨bl, ol + q * 6 + 2, none⟩ = some (.int .i64 sx) := cell 2 (by omega)
      have c3 : wo.cell? ⟨bl, ol + q * 6 + 3, none⟩ = some (.int .i64 y.x.fr) := cell 3 (by omega)
      have c4 : wo.cell? ⟨bl, ol + q * 6 + 4, none⟩ = some (.int .i64 y.x.to) := cell 4 (by omega)
      have c5 : wo.cell? ⟨bl, ol + q * 6 + 5, none⟩ = some (.slice y.a y.n y.c) := cell 5 (by omega)
      clear cell hc6 hcl hd
      obtain ⟨wD, hwD⟩ : ∃ wD, wo.alloc (.cells #[.int .i64 kd, .int .i64 ax, .int .i64 sx, .int .i64 y.x.fr, .int .i64 y.x.to, .slice y.a y.n y.c] 31) = wD := ⟨_, rfl⟩
      have bD : Below wo.heap.size wo wD := by rw [← hwD]; exact (Below.refl _ _).alloc (Nat.le_refl _) _
      have zD : wD.heap.size = wo.heap.size + 1 := by rw [← hwD]; simp
      have BD : Blk wD wo.heap.size 31 [.int .i64 kd, .int .i64 ax, .int .i64 sx, .int .i64 y.x.fr, .int .i64 y.x.to, .slice y.a y.n y.c] := by rw [← hwD]; exact Blk.new rfl rfl
      have TD := Lib.hid (And.intro (HT.out.keep (N' := fun i => i = wo.heap.size) bD fun i hi => .inr ⟨by omega, by omega⟩) (And.intro BD hae))
      clear bD BD hae
      go_wp2_with fail
      refine (to_put TD.out.1 (by omega)).mono ?_
      rintro e w2 ⟨⟨v2, rfl⟩, hT, hO⟩
      have z2 := hO.size
      have B2 := hO.blk TD.out.2.1 fun e => e rfl
      have d0 := B2.cell (i := 0) rfl
      have d1 := B2.cell (i := 1) rfl
      have d2 := B2.cell (i := 2) rfl
      have d3 := B2.cell (i := 3) rfl
      have d4 := B2.cell (i := 4) rfl
      have d5 := B2.cell (i := 5) rfl
      have H2 := Lib.hid (And.intro hT (And.intro B2 (And.intro TD.out.2.2.1 TD.out.2.2.2)))
      clear hT hO B2 c0 c1 c2 c3 c4 c5 hwD
      have hkb := bounds_i64 hwk
      have HB5 := Lib.hid (show ∀ W, Calls Try.prog 14 #[.int .i64 kd, .int .i64 5] W fun e w' => e = .returned (.int .i64 (kd % 5)) ∧ w' = W from fun W => bringF_any kd 5 W (by decide) (by decide) hkb.1 hkb.2)
      have r0 := Int.emod_nonneg kd (by decide : (5 : Int) ≠ 0)
      have r1 := Int.emod_lt_of_pos kd (by decide : (0 : Int) < 5)
      obtain ⟨r, hr⟩ : ∃ r, kd % 5 = r := ⟨_, rfl⟩
      rw [hr] at HB5 r0 r1
      clear hr hkb hwk hwa hws
      go_wp2_with fail
      refine (HB5.out w2).mono ?_; rintro e w2 ⟨rfl, rfl⟩
      rcases (show r = 0 ∨ r = 1 ∨ r = 2 ∨ r = 3 ∨ r = 4 by omega) with rfl | rfl | rfl | rfl | rfl
      · go_wp2_with fail
        refine (rcopyF_any _ y (ByP.arg (w := w) (h := y) H2.out.2.2.1 H2.out.1.bel) (by have := H2.out.2.2.2; omega)).mono ?_
        rintro e w3 ⟨⟨zx, xa, xn, xc⟩, hz, rfl, hby, hb3, hfr⟩
        obtain rfl : zx = y.x := hz
        have z3 := hb3.size
        obtain ⟨w4, hw4⟩ : ∃ w4, w3.alloc (.cells #[.int .i64 y.x.fr, .int .i64 y.x.to, .slice xa xn xc] 29) = w4 := ⟨_, rfl⟩
        have b4 : Below w3.heap.size w3 w4 := by rw [← hw4]; exact (Below.refl _ _).alloc (Nat.le_refl _) _
        have z4 : w4.heap.size = w3.heap.size + 1 := by rw [← hw4]; simp
        have b24 := hb3.trans (b4.mono z3)
        have T4 : Tri w w4 (fun i => i = wo.heap.size ∨ (w2.heap.size ≤ i ∧ i < w4.heap.size)) ga gb go b b (q + 1) := H2.out.1.keep b24 fun i hi => hi
        have x4 : ByP w4 (fun i => w2.heap.size ≤ i ∧ i < w3.heap.size) ⟨y.x, xa, xn, xc⟩ := (by_in hby).below b4 (fun i hi => hi.2) (Nat.le_refl _)
        have f4 : FrP w4 (fun i => w2.heap.size ≤ i ∧ i < w3.heap.size) ⟨y.x, xa, xn, xc⟩ := (fr_in hfr).below b4
        have B74 := H2.out.2.1.below b24 H2.out.2.1.lt
        have B84 : Blk w4 w3.heap.size 29 [.int .i64 y.x.fr, .int .i64 y.x.to, .slice xa xn xc] := by rw [← hw4]; exact Blk.new rfl rfl
        have hd4 : Below w4.heap.size w4 w4.drew := (Below.refl _ _).drew
        have T4d := T4.below hd4
        have x4d := x4.below hd4 (fun i hi => by omega) (Nat.le_refl _)
        have f4d := f4.below hd4
        have B74d := B74.below hd4 B74.lt
        have B84d := B84.below hd4 B84.lt
        have hwr2 := H2.out.2.1.lt
        obtain ⟨wd, hwd⟩ : ∃ wd, w4.drew = wd := ⟨_, rfl⟩
        rw [hwd] at T4d x4d f4d B74d B84d
        have s1 : wd.cell? ⟨wo.heap.size, 3, none⟩ = some (.int .i64 y.x.fr) ∧ wd.cell? ⟨wo.heap.size, 4, none⟩ = some (.int .i64 y.x.to) ∧ wd.cell? ⟨wo.heap.size, 5, none⟩ = some (.slice y.a y.n y.c) ∧ wd.cell? ⟨w3.heap.size, 0, none⟩ = some (.int .i64 y.x.fr) ∧ wd.cell? ⟨w3.heap.size, 1, none⟩ = some (.int .i64 y.x.to) ∧ wd.cell? ⟨w3.heap.size, 2, none⟩ = some (.slice xa xn xc) := ⟨B74d.cell rfl, B74d.cell rfl, B74d.cell rfl, B84d.cell rfl, B84d.cell rfl, B84d.cell rfl⟩
        have hxn : y.x.bs.length = xn := x4.1
        have HXn := Lib.hid hxn
        have hxn2 : xn ≤ 140737488351232 := by have h1 := H2.out.2.2.2; have h2 := H2.out.2.2.1.1; omega
        obtain ⟨E, hE⟩ : ∃ E, putE b y.x = E := ⟨_, rfl⟩
        obtain ⟨b2, hb2⟩ : ∃ b2, putB b y.x = b2 := ⟨_, rfl⟩
        have hbs := put_sent b y.x
        rw [hb2] at hbs
        have HX := Lib.hid (And.intro T4d (And.intro x4d (And.intro f4d (And.intro B74d (And.intro B84d (And.intro hwd (And.intro hE hb2)))))))
        have hEE : (E != E) = false := by simp
        clear T4 x4 f4 B74 B84 hd4 T4d x4d f4d B74d B84d hwd hE hb2 b24 b4 hby hfr hb3 hxn d3 d4 d5
        go_wp2
        clear hw4
        refine wp_region_held_drew (S := fun W => W.cell? ⟨wo.heap.size, 3, none⟩ = some (.int .i64 y.x.fr) ∧ W.cell? ⟨wo.heap.size, 4, none⟩ = some (.int .i64 y.x.to) ∧ W.cell? ⟨wo.heap.size, 5, none⟩ = some (.slice y.a y.n y.c) ∧ W.cell? ⟨w3.heap.size, 0, none⟩ = some (.int .i64 y.x.fr) ∧ W.cell? ⟨w3.heap.size, 1, none⟩ = some (.int .i64 y.x.to) ∧ W.cell? ⟨w3.heap.size, 2, none⟩ = some (.slice xa xn xc)) (by kernel_rfl) (by rw [HX.out.2.2.2.2.2.1]; exact s1) (fun _ => ?_)
        rw [HX.out.2.2.2.2.2.1]
        refine anyH_take (i := 0) (d := 52) (v := ?a0) rfl rfl (by kernel_rfl) (by kernel_rfl) (by kernel_rfl) (fun _ _ _ h => h) (Or.inl ⟨by rfl, ?ay0⟩) s1 ?ar0
        case ay0 => (intro w; go_simp; try with_reducible rfl)
        simp only [List.setIfInBounds_toArray, List.set_cons_zero, List.set_cons_succ]
        refine anyH_take (i := 3) (d := 55) (v := ?a3) rfl rfl (by kernel_rfl) (by kernel_rfl) (by kernel_rfl) (fun _ _ _ h => h) (Or.inl ⟨by rfl, ?ay3⟩) s1 ?ar3
        case ay3 => (intro w; go_simp; try with_reducible rfl)
        simp only [List.setIfInBounds_toArray, List.set_cons_zero, List.set_cons_succ]
        refine anyH_take (i := 4) (d := 56) (v := ?a4) rfl rfl (by kernel_rfl) (by kernel_rfl) (by kernel_rfl) (fun _ _ _ h => h) (Or.inl ⟨by rfl, ?ay4⟩) s1 ?ar4
        case ay4 => (intro w; go_simp; try with_reducible rfl)
        simp only [List.setIfInBounds_toArray, List.set_cons_zero, List.set_cons_succ]
        refine wpAnyH_take' (i := 1) (d := 53) (v := ?a1) rfl rfl (by kernel_rfl) (by kernel_rfl) (by kernel_rfl) (fun _ _ _ h => h) (Or.inl ⟨by rfl, ?ay1⟩) s1 ?ar1
        case ay1 => (intro w hSw; go_split_ands; go_simp; try with_reducible rfl)
        simp only [List.setIfInBounds_toArray, List.set_cons_zero, List.set_cons_succ]
        refine wpAnyH_take' (i := 5) (d := 57) (v := ?a5) rfl rfl (by kernel_rfl) (by kernel_rfl) (by kernel_rfl) (fun _ _ _ h => h) (Or.inl ⟨by rfl, ?ay5⟩) s1 ?ar5
        case ay5 => (intro w hSw; go_split_ands; go_simp; try with_reducible rfl)
        simp only [List.setIfInBounds_toArray, List.set_cons_zero, List.set_cons_succ]
        refine anyH_one (i := 2) (by kernel_rfl) ?_
        refine wpOp_step rfl (fun KK hK => ?_)
        go_simp
        refine (ta_put (ba' := b2) (E := E) HX.out.1 ⟨y.x, xa, xn, xc⟩ HX.out.2.1 (by omega) (by show xn ≤ _; omega) HX.out.2.2.2.2.2.2.1 HX.out.2.2.2.2.2.2.2).mono ?_
        rintro e w5 ⟨rfl, hT5, hO5⟩
        have x5 := HX.out.2.1.stays hO5 fun i hi => .inr ⟨hi.1, by omega⟩
        have f5 := HX.out.2.2.1.out hO5 fun i hi e => e (.inr ⟨hi.1, by omega⟩)
        have B75 := hO5.blk HX.out.2.2.2.1 fun e => e (.inl rfl)
        have B85 := hO5.blk HX.out.2.2.2.2.1 fun e => e (.inr ⟨by omega, by omega⟩)
        have s5 : w5.cell? ⟨wo.heap.size, 3, none⟩ = some (.int .i64 y.x.fr) ∧ w5.cell? ⟨wo.heap.size, 4, none⟩ = some (.int .i64 y.x.to) ∧ w5.cell? ⟨wo.heap.size, 5, none⟩ = some (.slice y.a y.n y.c) ∧ w5.cell? ⟨w3.heap.size, 0, none⟩ = some (.int .i64 y.x.fr) ∧ w5.cell? ⟨w3.heap.size, 1, none⟩ = some (.int .i64 y.x.to) ∧ w5.cell? ⟨w3.heap.size, 2, none⟩ = some (.slice xa xn xc) := ⟨B75.cell rfl, B75.cell rfl, B75.cell rfl, B85.cell rfl, B85.cell rfl, B85.cell rfl⟩
        have H5 := Lib.hid (And.intro hT5 (And.intro x5 (And.intro f5 (And.intro B75 B85))))
        clear hT5 hO5 x5 f5 B75 B85
        refine hK _ _ ⟨s5, ?_⟩
        clear hK KK
        refine anyH_one (i := 6) (by kernel_rfl) ?_
        refine wpOp_step rfl (fun KK hK => ?_)
        go_simp
        refine (tb_put (bb' := b2) (E := E) H5.out.1 y (ByP.arg (w := w) (h := y) H2.out.2.2.1 H5.out.1.bel) (by omega) (by have := H2.out.2.2.2; omega) HX.out.2.2.2.2.2.2.1 HX.out.2.2.2.2.2.2.2).mono ?_
        rintro e w6 ⟨rfl, hT6, hO6⟩
        have x6 := H5.out.2.1.stays hO6 fun i hi => .inr ⟨hi.1, by omega⟩
        have f6 := H5.out.2.2.1.out hO6 fun i hi e => e (.inr ⟨hi.1, by omega⟩)
        have B76 := hO6.blk H5.out.2.2.2.1 fun e => e (.inl rfl)
        have B86 := hO6.blk H5.out.2.2.2.2 fun e => e (.inr ⟨by omega, by omega⟩)
        have t6 : w6.cell? ⟨wo.heap.size, 3, none⟩ = some (.int .i64 y.x.fr) ∧ w6.cell? ⟨wo.heap.size, 4, none⟩ = some (.int .i64 y.x.to) ∧ w6.cell? ⟨wo.heap.size, 5, none⟩ = some (.slice y.a y.n y.c) ∧ w6.cell? ⟨w3.heap.size, 0, none⟩ = some (.int .i64 y.x.fr) ∧ w6.cell? ⟨w3.heap.size, 1, none⟩ = some (.int .i64 y.x.to) ∧ w6.cell? ⟨w3.heap.size, 2, none⟩ = some (.slice xa xn xc) := ⟨B76.cell rfl, B76.cell rfl, B76.cell rfl, B86.cell rfl, B86.cell rfl, B86.cell rfl⟩
        have hsm := same_any ⟨y.x, xa, xn, xc⟩ y x6 (ByP.arg (w := w) (h := y) H2.out.2.2.1 hT6.bel) true (by simp)
        dsimp only at hsm
        have H6 := Lib.hid (And.intro hT6 (And.intro x6 (And.intro f6 (And.intro B76 (And.intro B86 hsm)))))
        clear hT6 hO6 x6 f6 B76 B86 hsm
        refine hK _ _ ⟨t6, ?_⟩
        clear hK KK
        refine anyH_take (i := 7) (d := 59) (v := .bool false) rfl rfl (by kernel_rfl) (by kernel_rfl) (by kernel_rfl) (fun _ _ _ h => h) (Or.inl ⟨by rfl, ?by7⟩) t6 ?br7
        case by7 => (intro w; have hq := hEE; go_simp; try with_reducible rfl)
        simp only [List.setIfInBounds_toArray, List.set_cons_zero, List.set_cons_succ]
        refine anyH_take (i := 8) (d := 60) (v := ?b8) rfl rfl (by kernel_rfl) (by kernel_rfl) (by kernel_rfl) (fun _ _ _ h => h) (Or.inl ⟨by rfl, ?by8⟩) t6 ?br8
        case by8 => (intro w; go_simp; try with_reducible rfl)
        simp only [List.setIfInBounds_toArray, List.set_cons_zero, List.set_cons_succ]
        refine wpAnyH_take' (i := 9) (d := 61) (v := ?b9) rfl rfl (by kernel_rfl) (by kernel_rfl) (by kernel_rfl) (fun _ _ _ h => h) (Or.inl ⟨by rfl, ?by9⟩) t6 ?br9
        case by9 => (intro w hSw; go_split_ands; go_simp; try with_reducible rfl)
        simp only [List.setIfInBounds_toArray, List.set_cons_zero, List.set_cons_succ]
        refine anyH_take (i := 10) (d := 62) (v := ?b10) rfl rfl (by kernel_rfl) (by kernel_rfl) (by kernel_rfl) (fun _ _ _ h => h) (Or.inl ⟨by rfl, ?by10⟩) t6 ?br10
        case by10 => (intro w; go_simp; try with_reducible rfl)
        simp only [List.setIfInBounds_toArray, List.set_cons_zero, List.set_cons_succ]
        refine wpAnyH_take' (i := 11) (d := 63) (v := ?b11) rfl rfl (by kernel_rfl) (by kernel_rfl) (by kernel_rfl) (fun _ _ _ h => h) (Or.inl ⟨by rfl, ?by11⟩) t6 ?br11
        case by11 => (intro w hSw; go_split_ands; go_simp; try with_reducible rfl)
        simp only [List.setIfInBounds_toArray, List.set_cons_zero, List.set_cons_succ]
        refine anyH_one (i := 12) (by kernel_rfl) ?_
        refine wpOp_step rfl (fun KK hK => ?_)
        go_simp
        refine H6.out.2.2.2.2.2.mono ?_
        rintro e w7 ⟨rfl, hb7⟩
        have B77 := H6.out.2.2.2.1.below hb7 H6.out.2.2.2.1.lt
        have B87 := H6.out.2.2.2.2.1.below hb7 H6.out.2.2.2.2.1.lt
        have s7 : w7.cell? ⟨wo.heap.size, 3, none⟩ = some (.int .i64 y.x.fr) ∧ w7.cell? ⟨wo.heap.size, 4, none⟩ = some (.int .i64 y.x.to) ∧ w7.cell? ⟨wo.heap.size, 5, none⟩ = some (.slice y.a y.n y.c) ∧ w7.cell? ⟨w3.heap.size, 0, none⟩ = some (.int .i64 y.x.fr) ∧ w7.cell? ⟨w3.heap.size, 1, none⟩ = some (.int .i64 y.x.to) ∧ w7.cell? ⟨w3.heap.size, 2, none⟩ = some (.slice xa xn xc) := ⟨B77.cell rfl, B77.cell rfl, B77.cell rfl, B87.cell rfl, B87.cell rfl, B87.cell rfl⟩
        have x7 := H6.out.2.1.below hb7 (fun i hi => H6.out.1.nlt i (.inr ⟨hi.1, by omega⟩)) (Nat.le_refl _)
        have HLo := Lib.hid (And.intro (H6.out.1.below hb7) (And.intro B77 (And.intro B87 (WrP.of x7 (H6.out.2.2.1.below hb7)))))
        clear hb7 B77 B87 x7
        refine hK _ _ ⟨s7, ?_⟩
        clear hK KK
        refine anyH_take (i := 13) (d := 65) (v := ?c13) rfl rfl (by kernel_rfl) (by kernel_rfl) (by kernel_rfl) (fun _ _ _ h => h) (Or.inl ⟨by rfl, ?cy13⟩) s7 ?cr13
        case cy13 => (intro w; go_simp; try with_reducible rfl)
        simp only [List.setIfInBounds_toArray, List.set_cons_zero, List.set_cons_succ]
        refine anyH_take (i := 14) (d := 66) (v := ?c14) rfl rfl (by kernel_rfl) (by kernel_rfl) (by kernel_rfl) (fun _ _ _ h => h) (Or.inl ⟨by rfl, ?cy14⟩) s7 ?cr14
        case cy14 => (intro w; go_simp; try with_reducible rfl)
        simp only [List.setIfInBounds_toArray, List.set_cons_zero, List.set_cons_succ]
        refine wpAnyH_done (by kernel_rfl) ?_ _
        clear s7 t6 s5 s1
        have HKN := Lib.hid (show ∀ i, (w2.heap.size ≤ i ∧ i < w3.heap.size) → (i = wo.heap.size ∨ (w2.heap.size ≤ i ∧ i < w4.heap.size)) ∧ w.heap.size ≤ i from fun i hi => ⟨.inr ⟨hi.1, by omega⟩, by have := H2.out.1.bel.size; omega⟩)
        have HBX := Lib.hid (show (∀ i, (w2.heap.size ≤ i ∧ i < w3.heap.size) → wo.heap.size ≠ i) ∧ (∀ i, (w2.heap.size ≤ i ∧ i < w3.heap.size) → w3.heap.size ≠ i) from ⟨fun i hi => by omega, fun i hi => by omega⟩)
        go_wp2
        go_loopw [9] (fun i wr => ∃ j : Nat, j ≤ xn ∧ i = .int .i64 j ∧ Tri w wr (fun i => i = wo.heap.size ∨ (w2.heap.size ≤ i ∧ i < w4.heap.size)) ga gb go b2 b2 (q + 1) ∧ Blk wr wo.heap.size 31 [.int .i64 kd, .int .i64 ax, .int .i64 sx, .int .i64 y.x.fr, .int .i64 y.x.to, .slice y.a y.n y.c] ∧ Blk wr w3.heap.size 29 [.int .i64 y.x.fr, .int .i64 y.x.to, .slice xa xn xc] ∧ WrP wr (fun i => w2.heap.size ≤ i ∧ i < w3.heap.size) ⟨y.x, xa, xn, xc⟩ j) (fun i _ => xn - (intOf i).toNat)
        case atStart => exact ⟨0, by omega, rfl, HLo.out⟩
        case round =>
          obtain ⟨j, hj, rfl, hTl, hBl, hXl, hWl⟩ := hrel
          have j0 : (0 : Int) ≤ j := by omega
          have x2 := hXl.cell (i := 2) rfl
          by_cases hlj : j < xn
          · have j1 : (j : Int) < xn := by omega
            obtain ⟨vb, vo, cs, rfl, hkb, hvb, hvl, hvc⟩ := hWl (by show 0 < xn; omega)
            dsimp only at hvl hvc
            have hbl' : j < (cbs y.x.bs).length := by rw [cbs_length, HXn.out]; exact hlj
            have hcj := hvc j _ (Nat.le_refl _) (List.getElem?_eq_getElem hbl')
            obtain ⟨u, hu⟩ : ∃ u : UInt8, (cbs y.x.bs)[j] = cb u := by rw [show (cbs y.x.bs)[j] = cb (y.x.bs[j]'(by rw [cbs_length] at hbl'; exact hbl')) by simp [cbs]]; exact ⟨_, rfl⟩
            rw [hu] at hcj
            have hkb' := HKN.out vb hkb
            have cv : wr.drew.cell? ⟨vb, vo + j, none⟩ = some (.int .u8 (u.toNat : Int)) := hvb.cell hcj
            have fv : wr.drew.frozen? ⟨vb, vo + j, none⟩ = false := hvb.free _
            have s1 : wr.drew.cell? ⟨w3.heap.size, 2, none⟩ = some (.slice (some ⟨vb, vo, none⟩) xn xc) := x2
            have hbd : Below wr.heap.size wr wr.drew := (Below.refl _ _).drew
            have hTd := hTl.below hbd
            have hBd : Blk wr.drew wo.heap.size 31 [.int .i64 kd, .int .i64 ax, .int .i64 sx, .int .i64 y.x.fr, .int .i64 y.x.to, .slice y.a y.n y.c] := hBl
            have hXd : Blk wr.drew w3.heap.size 29 [.int .i64 y.x.fr, .int .i64 y.x.to, .slice (some ⟨vb, vo, none⟩) xn xc] := hXl
            have hvd : Blk wr.drew vb 5 cs := hvb
            obtain ⟨wld, hwld⟩ : ∃ wld, wr.drew = wld := ⟨_, rfl⟩
            rw [hwld] at cv fv s1 hTd hBd hXd hvd
            obtain ⟨nz, hnv⟩ : ∃ nz : Int, IntKind.u8.wrap ((u.toNat : Int) + 1) = nz := ⟨_, rfl⟩
            obtain ⟨ws, hws⟩ : ∃ ws, wld.setCell ⟨vb, vo + j, none⟩ (.int .u8 nz) = ws := ⟨_, rfl⟩
            have os : Out (fun i => i = vb) wld ws := by rw [← hws]; exact out_set wld vb _ _
            have hTs := hTd.other (N' := (fun i => i = wo.heap.size ∨ (w2.heap.size ≤ i ∧ i < w4.heap.size))) os (fun i hi => by subst hi; exact hkb') (fun i hi => .inl hi)
            have hbn1 : wo.heap.size ≠ vb := HBX.out.1 vb hkb
            have hbn2 : w3.heap.size ≠ vb := HBX.out.2 vb hkb
            have hBs := os.blk hBd hbn1
            have hXs := os.blk hXd hbn2
            have hVs : Blk ws vb 5 (cs.set (vo + j) (.int .u8 nz)) := by rw [← hws]; exact hvd.set_ _ _
            have hWs : WrP ws (fun i => w2.heap.size ≤ i ∧ i < w3.heap.size) ⟨y.x, some ⟨vb, vo, none⟩, xn, xc⟩ (j + 1) := fun _ => ⟨vb, vo, _, rfl, hkb, hVs, by rw [List.length_set]; exact hvl, fun i u' hi hu' => by rw [List.getElem?_set_ne (by omega)]; exact hvc i u' (by omega) hu'⟩
            have s4 : ws.cell? ⟨w3.heap.size, 2, none⟩ = some (.slice (some ⟨vb, vo, none⟩) xn xc) := hXs.cell rfl
            have HL := Lib.hid (And.intro hTs (And.intro hBs (And.intro hXs hWs)))
            have Hwd := Lib.hid hwld
            clear hwld hTl hBl hXl hWl hvb hvc hTd hBd hXd hvd os hTs hBs hXs hVs hWs hbd hcj hu hbl'
            go_wp2
            clear x2
            refine wp_region_held_drew (S := fun W => W.cell? ⟨w3.heap.size, 2, none⟩ = some (.slice (some ⟨vb, vo, none⟩) xn xc)) (by kernel_rfl) (by rw [Hwd.out]; exact s1) (fun _ => ?_)
            rw [Hwd.out]
            refine anyH_take (i := 0) (d := 74) (v := ?l0) rfl rfl (by kernel_rfl) (by kernel_rfl) (by kernel_rfl) (fun _ _ _ h => h) (Or.inl ⟨by rfl, ?ly0⟩) s1 ?lr0
            case ly0 => (intro w; go_simp; try with_reducible rfl)
            simp only [List.setIfInBounds_toArray, List.set_cons_zero, List.set_cons_succ]
            refine anyH_take (i := 2) (d := 76) (v := ?l2) rfl rfl (by kernel_rfl) (by kernel_rfl) (by kernel_rfl) (fun _ _ _ h => h) (Or.inl ⟨by rfl, ?ly2⟩) s1 ?lr2
            case ly2 => (intro w; go_simp; try with_reducible rfl)
            simp only [List.setIfInBounds_toArray, List.set_cons_zero, List.set_cons_succ]
            refine anyH_take (i := 3) (d := 77) (v := ?l3) rfl rfl (by kernel_rfl) (by kernel_rfl) (by kernel_rfl) (fun _ _ _ h => h) (Or.inl ⟨by rfl, ?ly3⟩) s1 ?lr3
            case ly3 => (intro w; go_simp; try with_reducible rfl)
            simp only [List.setIfInBounds_toArray, List.set_cons_zero, List.set_cons_succ]
            refine anyH_take (i := 5) (d := 79) (v := ?l5) rfl rfl (by kernel_rfl) (by kernel_rfl) (by kernel_rfl) (fun _ _ _ h => h) (Or.inl ⟨by rfl, ?ly5⟩) s1 ?lr5
            case ly5 => (intro w; go_simp; try with_reducible rfl)
            simp only [List.setIfInBounds_toArray, List.set_cons_zero, List.set_cons_succ]
            refine wpAnyH_take' (i := 1) (d := 75) (v := ?l1) rfl rfl (by kernel_rfl) (by kernel_rfl) (by kernel_rfl) (fun _ _ _ h => h) (Or.inl ⟨by rfl, ?ly1⟩) s1 ?lr1
            case ly1 => (intro w hSw; go_split_ands; go_simp; try with_reducible rfl)
            simp only [List.setIfInBounds_toArray, List.set_cons_zero, List.set_cons_succ]
            refine wpAnyH_take' (i := 4) (d := 78) (v := ?l4) rfl rfl (by kernel_rfl) (by kernel_rfl) (by kernel_rfl) (fun _ _ _ h => h) (Or.inl ⟨by rfl, ?ly4⟩) s1 ?lr4
            case ly4 => (intro w hSw; go_split_ands; go_simp; try with_reducible rfl)
            simp only [List.setIfInBounds_toArray, List.set_cons_zero, List.set_cons_succ]
            refine anyH_take (i := 6) (d := 80) (v := ?l6) rfl rfl (by kernel_rfl) (by kernel_rfl) (by kernel_rfl) (fun _ _ _ h => h) (Or.inl ⟨by rfl, ?ly6⟩) s1 ?lr6
            case ly6 => (intro w; go_simp; try with_reducible rfl)
            simp only [List.setIfInBounds_toArray, List.set_cons_zero, List.set_cons_succ]
            refine anyH_one (i := 7) (by kernel_rfl) ?_
            refine wpOp_step rfl (fun K hK => ?_)
            go_simp
            refine hK _ _ ⟨s1, ?_⟩
            clear hK K
            refine anyH_take (i := 8) (d := 82) (v := .int .u8 nz) rfl rfl (by kernel_rfl) (by kernel_rfl) (by kernel_rfl) (fun _ _ _ h => h) (Or.inl ⟨by rfl, ?ly8⟩) s1 ?lr8
            case ly8 => (intro w; have hq := hnv; go_simp; try with_reducible rfl)
            simp only [List.setIfInBounds_toArray, List.set_cons_zero, List.set_cons_succ]
            refine anyH_take (i := 9) (d := 83) (v := ?l9) rfl rfl (by kernel_rfl) (by kernel_rfl) (by kernel_rfl) (fun _ _ _ h => h) (Or.inl ⟨by rfl, ?ly9⟩) s1 ?lr9
            case ly9 => (intro w; go_simp; try with_reducible rfl)
            simp only [List.setIfInBounds_toArray, List.set_cons_zero, List.set_cons_succ]
            refine anyH_one (i := 10) (by kernel_rfl) ?_
            refine wpOp_step rfl (fun KK hK => ?_)
            go_simp
            try rw [hws]
            refine hK _ _ ⟨s4, ?_⟩
            clear hK KK
            refine wpAnyH_done (by kernel_rfl) ?_ _
            clear hws hnv cv fv s1 s4
            go_wp2
            go_roundw
            case rel => exact ⟨j + 1, by omega, by go_num, HL.out⟩
            case measure => simp [intOf]; omega
          · have hje : j = xn := by omega
            have j1 : ¬ (j : Int) < xn := by omega
            have HZ := Lib.hid hTl
            have HZ7 := Lib.hid hBl
            clear hTl hBl hXl hWl
            have hAt : Tri w wr.drew (fun _ => False) ga gb go b2 b2 (q + 1) := (HZ.out.less fun i (hi : False) => hi.elim).below (Below.refl _ _).drew
            have s1 : wr.drew.cell? ⟨wo.heap.size, 2, none⟩ = some (.int .i64 sx) := HZ7.out.cell rfl
            have HA := Lib.hid (And.intro hAt (show Blk wr.drew wo.heap.size 31 [.int .i64 kd, .int .i64 ax, .int .i64 sx, .int .i64 y.x.fr, .int .i64 y.x.to, .slice y.a y.n y.c] from HZ7.out))
            clear hAt
            obtain ⟨bn, hbn⟩ : ∃ bn, b2 = bn := ⟨_, rfl⟩
            rw [hbn] at HA
            have Hbn := Lib.hid hbn
            clear hbn
            obtain ⟨En, hEn⟩ : ∃ En, nextB bn sx = En := ⟨_, rfl⟩
            have HEn := Lib.hid hEn
            clear hEn
            have hn1 : (En != En) = false := by simp
            obtain ⟨ln, hln⟩ : ∃ ln, bn.l.length = ln := ⟨_, rfl⟩
            have Hln := Lib.hid hln
            clear hln
            have hn2 : ((ln : Int) != (ln : Int)) = false := by simp
            obtain ⟨sn, hsn⟩ : ∃ sn, bn.sent = sn := ⟨_, rfl⟩
            have Hsn := Lib.hid hsn
            clear hsn
            have hn3 : ((sn : Int) != (sn : Int)) = false := by simp
            obtain ⟨on, hon⟩ : ∃ on, bn.lost = on := ⟨_, rfl⟩
            have Hon := Lib.hid hon
            clear hon
            have hn4 : ((on : Int) != (on : Int)) = false := by simp
            obtain ⟨wq, hwq⟩ : ∃ wq, wr.drew = wq := ⟨_, rfl⟩
            rw [hwq] at HA s1
            have Hwq := Lib.hid hwq
            clear hwq
            go_wp2
            refine wp_region_held_drew (S := fun W => W.cell? ⟨wo.heap.size, 2, none⟩ = some (.int .i64 sx)) (by kernel_rfl) (by rw [Hwq.out]; exact s1) (fun _ => ?_)
            rw [Hwq.out]
            refine anyH_take (i := 0) (d := 156) (v := ?n0) rfl rfl (by kernel_rfl) (by kernel_rfl) (by kernel_rfl) (fun _ _ _ h => h) (Or.inl ⟨by rfl, ?ny0⟩) s1 ?nr0
            case ny0 => (intro w; go_simp; try with_reducible rfl)
            simp only [List.setIfInBounds_toArray, List.set_cons_zero, List.set_cons_succ]
            refine anyH_take (i := 1) (d := 157) (v := ?n1) rfl rfl (by kernel_rfl) (by kernel_rfl) (by kernel_rfl) (fun _ _ _ h => h) (Or.inl ⟨by rfl, ?ny1⟩) s1 ?nr1
            case ny1 => (intro w; go_simp; try with_reducible rfl)
            simp only [List.setIfInBounds_toArray, List.set_cons_zero, List.set_cons_succ]
            refine anyH_take (i := 4) (d := 160) (v := ?n4) rfl rfl (by kernel_rfl) (by kernel_rfl) (by kernel_rfl) (fun _ _ _ h => h) (Or.inl ⟨by rfl, ?ny4⟩) s1 ?nr4
            case ny4 => (intro w; go_simp; try with_reducible rfl)
            simp only [List.setIfInBounds_toArray, List.set_cons_zero, List.set_cons_succ]
            refine anyH_take (i := 5) (d := 161) (v := ?n5) rfl rfl (by kernel_rfl) (by kernel_rfl) (by kernel_rfl) (fun _ _ _ h => h) (Or.inl ⟨by rfl, ?ny5⟩) s1 ?nr5
            case ny5 => (intro w; go_simp; try with_reducible rfl)
            simp only [List.setIfInBounds_toArray, List.set_cons_zero, List.set_cons_succ]
            refine wpAnyH_take' (i := 2) (d := 158) (v := ?n2) rfl rfl (by kernel_rfl) (by kernel_rfl) (by kernel_rfl) (fun _ _ _ h => h) (Or.inl ⟨by rfl, ?ny2⟩) s1 ?nr2
            case ny2 => (intro w hSw; go_split_ands; go_simp; try with_reducible rfl)
            simp only [List.setIfInBounds_toArray, List.set_cons_zero, List.set_cons_succ]
            refine wpAnyH_take' (i := 6) (d := 162) (v := ?n6) rfl rfl (by kernel_rfl) (by kernel_rfl) (by kernel_rfl) (fun _ _ _ h => h) (Or.inl ⟨by rfl, ?ny6⟩) s1 ?nr6
            case ny6 => (intro w hSw; go_split_ands; go_simp; try with_reducible rfl)
            simp only [List.setIfInBounds_toArray, List.set_cons_zero, List.set_cons_succ]
            refine anyH_one (i := 3) (by kernel_rfl) ?_
            refine wpOp_step rfl (fun KK hK => ?_)
            go_simp
            obtain ⟨U, V, O, bo, qq⟩ := HA.out.1
            have hnx := next_any qq.a sx
            rw [HEn.out] at hnx
            refine hnx.mono ?_
            rintro e wn ⟨rfl, hb⟩
            clear hnx qq
            have s2 : wn.cell? ⟨wo.heap.size, 2, none⟩ = some (.int .i64 sx) := (HA.out.2.below hb HA.out.2.lt).cell rfl
            have HN := Lib.hid (HA.out.1.below hb)
            clear hb
            refine hK _ _ ⟨s2, ?_⟩
            clear hK KK
            refine anyH_one (i := 7) (by kernel_rfl) ?_
            refine wpOp_step rfl (fun KK hK => ?_)
            go_simp
            obtain ⟨U, V, O, bo, qq⟩ := HN.out
            have hnx := rnext_any qq.b sx
            rw [HEn.out] at hnx
            refine hnx.mono ?_
            rintro e wn ⟨rfl, rfl⟩
            clear hnx qq
            refine hK _ _ ⟨s2, ?_⟩
            clear hK KK
            refine anyH_take (i := 8) (d := 164) (v := .bool false) rfl rfl (by kernel_rfl) (by kernel_rfl) (by kernel_rfl) (fun _ _ _ h => h) (Or.inl ⟨by rfl, ?ny8⟩) s2 ?nr8
            case ny8 => (intro w; have hq := hn1; go_simp; try with_reducible rfl)
            simp only [List.setIfInBounds_toArray, List.set_cons_zero, List.set_cons_succ]
            refine anyH_take (i := 9) (d := 165) (v := ?n9) rfl rfl (by kernel_rfl) (by kernel_rfl) (by kernel_rfl) (fun _ _ _ h => h) (Or.inl ⟨by rfl, ?ny9⟩) s2 ?nr9
            case ny9 => (intro w; go_simp; try with_reducible rfl)
            simp only [List.setIfInBounds_toArray, List.set_cons_zero, List.set_cons_succ]
            refine anyH_take (i := 10) (d := 166) (v := ?n10) rfl rfl (by kernel_rfl) (by kernel_rfl) (by kernel_rfl) (fun _ _ _ h => h) (Or.inl ⟨by rfl, ?ny10⟩) s2 ?nr10
            case ny10 => (intro w; go_simp; try with_reducible rfl)
            simp only [List.setIfInBounds_toArray, List.set_cons_zero, List.set_cons_succ]
            refine anyH_take (i := 12) (d := 168) (v := ?n12) rfl rfl (by kernel_rfl) (by kernel_rfl) (by kernel_rfl) (fun _ _ _ h => h) (Or.inl ⟨by rfl, ?ny12⟩) s2 ?nr12
            case ny12 => (intro w; go_simp; try with_reducible rfl)
            simp only [List.setIfInBounds_toArray, List.set_cons_zero, List.set_cons_succ]
            refine anyH_one (i := 11) (by kernel_rfl) ?_
            refine wpOp_step rfl (fun KK hK => ?_)
            go_simp
            obtain ⟨U, V, O, bo, qq⟩ := HN.out
            have hnx := blen_any qq.a ln Hln.out
            refine hnx.mono ?_
            rintro e wn ⟨rfl, rfl⟩
            clear hnx qq
            refine hK _ _ ⟨s2, ?_⟩
            clear hK KK
            refine anyH_one (i := 13) (by kernel_rfl) ?_
            refine wpOp_step rfl (fun KK hK => ?_)
            go_simp
            obtain ⟨U, V, O, bo, qq⟩ := HN.out
            have hnx := rlen_any qq.b ln Hln.out
            refine hnx.mono ?_
            rintro e wn ⟨rfl, rfl⟩
            clear hnx qq
            refine hK _ _ ⟨s2, ?_⟩
            clear hK KK
            refine anyH_take (i := 14) (d := 170) (v := .bool false) rfl rfl (by kernel_rfl) (by kernel_rfl) (by kernel_rfl) (fun _ _ _ h => h) (Or.inl ⟨by rfl, ?ny14⟩) s2 ?nr14
            case ny14 => (intro w; have hq := hn2; go_simp; try with_reducible rfl)
            simp only [List.setIfInBounds_toArray, List.set_cons_zero, List.set_cons_succ]
            refine anyH_take (i := 15) (d := 171) (v := ?n15) rfl rfl (by kernel_rfl) (by kernel_rfl) (by kernel_rfl) (fun _ _ _ h => h) (Or.inl ⟨by rfl, ?ny15⟩) s2 ?nr15
            case ny15 => (intro w; go_simp; try with_reducible rfl)
            simp only [List.setIfInBounds_toArray, List.set_cons_zero, List.set_cons_succ]
            refine anyH_take (i := 16) (d := 172) (v := ?n16) rfl rfl (by kernel_rfl) (by kernel_rfl) (by kernel_rfl) (fun _ _ _ h => h) (Or.inl ⟨by rfl, ?ny16⟩) s2 ?nr16
            case ny16 => (intro w; go_simp; try with_reducible rfl)
            simp only [List.setIfInBounds_toArray, List.set_cons_zero, List.set_cons_succ]
            refine anyH_take (i := 17) (d := 173) (v := ?n17) rfl rfl (by kernel_rfl) (by kernel_rfl) (by kernel_rfl) (fun _ _ _ h => h) (Or.inl ⟨by rfl, ?ny17⟩) s2 ?nr17
            case ny17 => (intro w; go_simp; try with_reducible rfl)
            simp only [List.setIfInBounds_toArray, List.set_cons_zero, List.set_cons_succ]
            refine anyH_take (i := 19) (d := 175) (v := ?n19) rfl rfl (by kernel_rfl) (by kernel_rfl) (by kernel_rfl) (fun _ _ _ h => h) (Or.inl ⟨by rfl, ?ny19⟩) s2 ?nr19
            case ny19 => (intro w; go_simp; try with_reducible rfl)
            simp only [List.setIfInBounds_toArray, List.set_cons_zero, List.set_cons_succ]
            refine anyH_one (i := 18) (by kernel_rfl) ?_
            refine wpOp_step rfl (fun KK hK => ?_)
            go_simp
            obtain ⟨U, V, O, bo, qq⟩ := HN.out
            have hnx := bsent_any qq.a
            rw [Hsn.out] at hnx
            refine hnx.mono ?_
            rintro e wn ⟨rfl, rfl⟩
            clear hnx qq
            refine hK _ _ ⟨s2, ?_⟩
            clear hK KK
            refine anyH_one (i := 20) (by kernel_rfl) ?_
            refine wpOp_step rfl (fun KK hK => ?_)
            go_simp
            obtain ⟨U, V, O, bo, qq⟩ := HN.out
            have hnx := rsent_any qq.b
            rw [Hsn.out] at hnx
            refine hnx.mono ?_
            rintro e wn ⟨rfl, rfl⟩
            clear hnx qq
            refine hK _ _ ⟨s2, ?_⟩
            clear hK KK
            refine anyH_take (i := 21) (d := 177) (v := .bool false) rfl rfl (by kernel_rfl) (by kernel_rfl) (by kernel_rfl) (fun _ _ _ h => h) (Or.inl ⟨by rfl, ?ny21⟩) s2 ?nr21
            case ny21 => (intro w; have hq := hn3; go_simp; try with_reducible rfl)
            simp only [List.setIfInBounds_toArray, List.set_cons_zero, List.set_cons_succ]
            refine anyH_take (i := 22) (d := 178) (v := ?n22) rfl rfl (by kernel_rfl) (by kernel_rfl) (by kernel_rfl) (fun _ _ _ h => h) (Or.inl ⟨by rfl, ?ny22⟩) s2 ?nr22
            case ny22 => (intro w; go_simp; try with_reducible rfl)
            simp only [List.setIfInBounds_toArray, List.set_cons_zero, List.set_cons_succ]
            refine anyH_take (i := 23) (d := 179) (v := ?n23) rfl rfl (by kernel_rfl) (by kernel_rfl) (by kernel_rfl) (fun _ _ _ h => h) (Or.inl ⟨by rfl, ?ny23⟩) s2 ?nr23
            case ny23 => (intro w; go_simp; try with_reducible rfl)
            simp only [List.setIfInBounds_toArray, List.set_cons_zero, List.set_cons_succ]
            refine anyH_take (i := 24) (d := 180) (v := ?n24) rfl rfl (by kernel_rfl) (by kernel_rfl) (by kernel_rfl) (fun _ _ _ h => h) (Or.inl ⟨by rfl, ?ny24⟩) s2 ?nr24
            case ny24 => (intro w; go_simp; try with_reducible rfl)
            simp only [List.setIfInBounds_toArray, List.set_cons_zero, List.set_cons_succ]
            refine anyH_take (i := 26) (d := 182) (v := ?n26) rfl rfl (by kernel_rfl) (by kernel_rfl) (by kernel_rfl) (fun _ _ _ h => h) (Or.inl ⟨by rfl, ?ny26⟩) s2 ?nr26
            case ny26 => (intro w; go_simp; try with_reducible rfl)
            simp only [List.setIfInBounds_toArray, List.set_cons_zero, List.set_cons_succ]
            refine anyH_one (i := 25) (by kernel_rfl) ?_
            refine wpOp_step rfl (fun KK hK => ?_)
            go_simp
            obtain ⟨U, V, O, bo, qq⟩ := HN.out
            have hnx := blost_any qq.a
            rw [Hon.out] at hnx
            refine hnx.mono ?_
            rintro e wn ⟨rfl, rfl⟩
            clear hnx qq
            refine hK _ _ ⟨s2, ?_⟩
            clear hK KK
            refine anyH_one (i := 27) (by kernel_rfl) ?_
            refine wpOp_step rfl (fun KK hK => ?_)
            go_simp
            obtain ⟨U, V, O, bo, qq⟩ := HN.out
            have hnx := rlost_any qq.b
            rw [Hon.out] at hnx
            refine hnx.mono ?_
            rintro e wn ⟨rfl, rfl⟩
            clear hnx qq
            refine hK _ _ ⟨s2, ?_⟩
            clear hK KK
            refine anyH_take (i := 28) (d := 184) (v := .bool false) rfl rfl (by kernel_rfl) (by kernel_rfl) (by kernel_rfl) (fun _ _ _ h => h) (Or.inl ⟨by rfl, ?ny28⟩) s2 ?nr28
            case ny28 => (intro w; have hq := hn4; go_simp; try with_reducible rfl)
            simp only [List.setIfInBounds_toArray, List.set_cons_zero, List.set_cons_succ]
            refine anyH_take (i := 29) (d := 185) (v := ?n29) rfl rfl (by kernel_rfl) (by kernel_rfl) (by kernel_rfl) (fun _ _ _ h => h) (Or.inl ⟨by rfl, ?ny29⟩) s2 ?nr29
            case ny29 => (intro w; go_simp; try with_reducible rfl)
            simp only [List.setIfInBounds_toArray, List.set_cons_zero, List.set_cons_succ]
            refine wpAnyH_done (by kernel_rfl) ?_ _
            go_wp2
            go_roundw
            case rel => exact ⟨q + 1, bn, by omega, by omega, by go_num, HN.out, by rw [← Hbn.out]; omega, by rw [← Hbn.out]; omega⟩
            case measure => simp [intOf]; omega
      · obtain ⟨E, hE⟩ : ∃ E, lackE b ax = E := ⟨_, rfl⟩
        obtain ⟨v, hv⟩ : ∃ v, lookB b ax = v := ⟨_, rfl⟩
        have HV := Lib.hid (And.intro hE hv)
        clear hE hv
        go_wp2_with fail
        refine (ta_look H2.out.1 ax v HV.out.1 HV.out.2).mono ?_
        rintro e w3 ⟨xa, xn, xc, M1, rfl, hT3, hx3, hf3, hO3, hM1⟩
        have B73 := hO3.blk H2.out.2.1 fun e => e rfl
        have z3 := hO3.size
        obtain ⟨w4, hw4⟩ : ∃ w4, w3.alloc (.cells #[.int .i64 v.fr, .int .i64 v.to, .slice xa xn xc] 29) = w4 := ⟨_, rfl⟩
        have b4 : Below w3.heap.size w3 w4 := by rw [← hw4]; exact (Below.refl _ _).alloc (Nat.le_refl _) _
        have z4 : w4.heap.size = w3.heap.size + 1 := by rw [← hw4]; simp
        have B84 : Blk w4 w3.heap.size 29 [.int .i64 v.fr, .int .i64 v.to, .slice xa xn xc] := by rw [← hw4]; exact Blk.new rfl rfl
        have B74 := B73.below b4 B73.lt
        have T4 : Tri w w4 (fun i => (i = wo.heap.size ∨ M1 i) ∨ i = w3.heap.size) ga gb go b b (q + 1) := hT3.keep b4 fun i hi => hi.imp_right fun h => ⟨by omega, by omega⟩
        have hM1l : ∀ i, M1 i → i < w3.heap.size := fun i hi => hT3.nlt i (.inr hi)
        have x4 := hx3.below b4 hM1l (Nat.le_refl _)
        have f4 := hf3.below b4
        have a4 := B74.cell (i := 1) rfl
        have hwr2 := H2.out.2.1.lt
        have HX4 := Lib.hid (And.intro T4 (And.intro B74 (And.intro B84 (And.intro x4 (And.intro f4 (And.intro hM1 hM1l))))))
        clear hT3 hx3 hf3 hO3 B73 b4 B84 B74 T4 x4 f4 hM1 hM1l d0 d1 d2 d3 d4 d5
        go_wp2_with fail
        refine (tb_look HX4.out.1 ax v HV.out.1 HV.out.2).mono ?_
        rintro e w5 ⟨ya, yn, yc, M2, rfl, hT5, hy5, hO5, hM2⟩
        clear a4 hw4
        have z5 := hO5.size
        have B75 := hO5.blk HX4.out.2.1 fun e => e (.inl (.inl rfl))
        have B85 := hO5.blk HX4.out.2.2.1 fun e => e (.inr rfl)
        have x5 := HX4.out.2.2.2.1.stays hO5 fun i hi => .inl (.inr hi)
        have f5 := HX4.out.2.2.2.2.1.out hO5 fun i hi e => e (.inl (.inr hi))
        obtain ⟨w6, hw6⟩ : ∃ w6, w5.alloc (.cells #[.int .i64 v.fr, .int .i64 v.to, .slice ya yn yc] 29) = w6 := ⟨_, rfl⟩
        have b6 : Below w5.heap.size w5 w6 := by rw [← hw6]; exact (Below.refl _ _).alloc (Nat.le_refl _) _
        have z6 : w6.heap.size = w5.heap.size + 1 := by rw [← hw6]; simp
        have B96 : Blk w6 w5.heap.size 29 [.int .i64 v.fr, .int .i64 v.to, .slice ya yn yc] := by rw [← hw6]; exact Blk.new rfl rfl
        have B76 := B75.below b6 B75.lt
        have B86 := B85.below b6 B85.lt
        have hM2l : ∀ i, M2 i → i < w5.heap.size := fun i hi => hT5.nlt i (.inr hi)
        have T6 : Tri w w6 (fun i => (((i = wo.heap.size ∨ M1 i) ∨ i = w3.heap.size) ∨ M2 i) ∨ i = w5.heap.size) ga gb go b b (q + 1) := hT5.keep b6 fun i hi => hi.imp_right fun h => ⟨by omega, by omega⟩
        have x6 := x5.below b6 (fun i hi => by have := HX4.out.2.2.2.2.2.2 i hi; omega) (Nat.le_refl _)
        have f6 := f5.below b6
        have y6 := hy5.below b6 hM2l (Nat.le_refl _)
        have d0 := B76.cell (i := 0) rfl
        have HX6 := Lib.hid (And.intro T6 (And.intro B76 (And.intro B86 (And.intro B96 (And.intro x6 (And.intro f6 (And.intro y6 (And.intro hM2 hM2l))))))))
        have HM1 := Lib.hid HX4.out.2.2.2.2.2
        clear hT5 hy5 hO5 B75 B85 x5 f5 b6 B96 B76 B86 T6 x6 f6 y6 hM2 hM2l HX4
        go_wp2_with fail
        clear hw6
        refine (HB5.out w6).mono ?_; rintro e w6 ⟨rfl, rfl⟩
        have p0 := HX6.out.2.2.1.cell (i := 0) rfl
        have p1 := HX6.out.2.2.1.cell (i := 1) rfl
        have p2 := HX6.out.2.2.1.cell (i := 2) rfl
        have r0 := HX6.out.2.2.2.1.cell (i := 0) rfl
        have r1 := HX6.out.2.2.2.1.cell (i := 1) rfl
        have r2 := HX6.out.2.2.2.1.cell (i := 2) rfl
        have hsm := same_any ⟨v, xa, xn, xc⟩ ⟨v, ya, yn, yc⟩ HX6.out.2.2.2.2.1 HX6.out.2.2.2.2.2.2.1 true (by simp)
        dsimp only at hsm
        have HS := Lib.hid hsm
        clear hsm
        have hEE : (E != E) = false := by simp
        have HXn := Lib.hid (show v.bs.length = xn from HX6.out.2.2.2.2.1.1)
        have hxn2 : xn ≤ 9223372036854775807 := by
          have h1 : xn ≤ xc := HX6.out.2.2.2.2.1.2.1
          have h2 : xc ≤ maxLen := HX6.out.2.2.2.2.1.2.2.1
          unfold maxLen at h2
          omega
        go_wp2_with fail
        refine HS.out.mono ?_
        rintro e w7 ⟨rfl, hb7⟩
        have x7 := HX6.out.2.2.2.2.1.below hb7 (fun i hi => HX6.out.1.nlt i (.inl (.inl (.inl (.inr hi))))) (Nat.le_refl _)
        have HLo := Lib.hid (And.intro (HX6.out.1.below hb7) (And.intro (HX6.out.2.1.below hb7 HX6.out.2.1.lt) (And.intro (HX6.out.2.2.1.below hb7 HX6.out.2.2.1.lt) (WrP.of x7 (HX6.out.2.2.2.2.2.1.below hb7)))))
        clear hb7 x7 p0 p1 p2 r0 r1 r2 d0
        have HKN := Lib.hid (show ∀ i, M1 i → ((((i = wo.heap.size ∨ M1 i) ∨ i = w3.heap.size) ∨ M2 i) ∨ i = w5.heap.size) ∧ w.heap.size ≤ i from fun i hi => ⟨.inl (.inl (.inl (.inr hi))), by have := HM1.out.1 i hi; have := H2.out.1.bel.size; omega⟩)
        have HBX := Lib.hid (show (∀ i, M1 i → wo.heap.size ≠ i) ∧ (∀ i, M1 i → w3.heap.size ≠ i) from ⟨fun i hi => by have := HM1.out.1 i hi; omega, fun i hi => by have := HM1.out.2 i hi; omega⟩)
        go_wp2
        go_loopw [14] (fun i wr => ∃ j : Nat, j ≤ xn ∧ i = .int .i64 j ∧ Tri w wr (fun i => (((i = wo.heap.size ∨ M1 i) ∨ i = w3.heap.size) ∨ M2 i) ∨ i = w5.heap.size) ga gb go b b (q + 1) ∧ Blk wr wo.heap.size 31 [.int .i64 kd, .int .i64 ax, .int .i64 sx, .int .i64 y.x.fr, .int .i64 y.x.to, .slice y.a y.n y.c] ∧ Blk wr w3.heap.size 29 [.int .i64 v.fr, .int .i64 v.to, .slice xa xn xc] ∧ WrP wr M1 ⟨v, xa, xn, xc⟩ j) (fun i _ => xn - (intOf i).toNat)
        case atStart => exact ⟨0, by omega, rfl, HLo.out⟩
        case round =>
          obtain ⟨j, hj, rfl, hTl, hBl, hXl, hWl⟩ := hrel
          have j0 : (0 : Int) ≤ j := by omega
          have x2 := hXl.cell (i := 2) rfl
          by_cases hlj : j < xn
          · have j1 : (j : Int) < xn := by omega
            obtain ⟨vb, vo, cs, rfl, hkb, hvb, hvl, hvc⟩ := hWl (by show 0 < xn; omega)
            dsimp only at hvl hvc
            have hbl' : j < (cbs v.bs).length := by rw [cbs_length, HXn.out]; exact hlj
            have hcj := hvc j _ (Nat.le_refl _) (List.getElem?_eq_getElem hbl')
            obtain ⟨u, hu⟩ : ∃ u : UInt8, (cbs v.bs)[j] = cb u := by rw [show (cbs v.bs)[j] = cb (v.bs[j]'(by rw [cbs_length] at hbl'; exact hbl')) by simp [cbs]]; exact ⟨_, rfl⟩
            rw [hu] at hcj
            have hkb' := HKN.out vb hkb
            have cv : wr.drew.cell? ⟨vb, vo + j, none⟩ = some (.int .u8 (u.toNat : Int)) := hvb.cell hcj
            have fv : wr.drew.frozen? ⟨vb, vo + j, none⟩ = false := hvb.free _
            have s1 : wr.drew.cell? ⟨w3.heap.size, 2, none⟩ = some (.slice (some ⟨vb, vo, none⟩) xn xc) := x2
            have hbd : Below wr.heap.size wr wr.drew := (Below.refl _ _).drew
            have hTd := hTl.below hbd
            have hBd : Blk wr.drew wo.heap.size 31 [.int .i64 kd, .int .i64 ax, .int .i64 sx, .int .i64 y.x.fr, .int .i64 y.x.to, .slice y.a y.n y.c] := hBl
            have hXd : Blk wr.drew w3.heap.size 29 [.int .i64 v.fr, .int .i64 v.to, .slice (some ⟨vb, vo, none⟩) xn xc] := hXl
            have hvd : Blk wr.drew vb 5 cs := hvb
            obtain ⟨wld, hwld⟩ : ∃ wld, wr.drew = wld := ⟨_, rfl⟩
            rw [hwld] at cv fv s1 hTd hBd hXd hvd
            obtain ⟨nz, hnv⟩ : ∃ nz : Int, IntKind.u8.wrap ((u.toNat : Int) + 1) = nz := ⟨_, rfl⟩
            obtain ⟨ws, hws⟩ : ∃ ws, wld.setCell ⟨vb, vo + j, none⟩ (.int .u8 nz) = ws := ⟨_, rfl⟩
            have os : Out (fun i => i = vb) wld ws := by rw [← hws]; exact out_set wld vb _ _
            have hTs := hTd.other (N' := (fun i => (((i = wo.heap.size ∨ M1 i) ∨ i = w3.heap.size) ∨ M2 i) ∨ i = w5.heap.size)) os (fun i hi => by subst hi; exact hkb') (fun i hi => .inl hi)
            have hbn1 : wo.heap.size ≠ vb := HBX.out.1 vb hkb
            have hbn2 : w3.heap.size ≠ vb := HBX.out.2 vb hkb
            have hBs := os.blk hBd hbn1
            have hXs := os.blk hXd hbn2
            have hVs : Blk ws vb 5 (cs.set (vo + j) (.int .u8 nz)) := by rw [← hws]; exact hvd.set_ _ _
            have hWs : WrP ws M1 ⟨v, some ⟨vb, vo, none⟩, xn, xc⟩ (j + 1) := fun _ => ⟨vb, vo, _, rfl, hkb, hVs, by rw [List.length_set]; exact hvl, fun i u' hi hu' => by rw [List.getElem?_set_ne (by omega)]; exact hvc i u' (by omega) hu'⟩
            have s4 : ws.cell? ⟨w3.heap.size, 2, none⟩ = some (.slice (some ⟨vb, vo, none⟩) xn xc) := hXs.cell rfl
            have HL := Lib.hid (And.intro hTs (And.intro hBs (And.intro hXs hWs)))
            have Hwd := Lib.hid hwld
            clear hwld hTl hBl hXl hWl hvb hvc hTd hBd hXd hvd os hTs hBs hXs hVs hWs hbd hcj hu hbl'
            go_wp2
            clear x2
            refine wp_region_held_drew (S := fun W => W.cell? ⟨w3.heap.size, 2, none⟩ = some (.slice (some ⟨vb, vo, none⟩) xn xc)) (by kernel_rfl) (by rw [Hwd.out]; exact s1) (fun _ => ?_)
            rw [Hwd.out]
            refine anyH_take (i := 0) (d := 135) (v := ?ul0) rfl rfl (by kernel_rfl) (by kernel_rfl) (by kernel_rfl) (fun _ _ _ h => h) (Or.inl ⟨by rfl, ?uly0⟩) s1 ?ulr0
            case uly0 => (intro w; go_simp; try with_reducible rfl)
            simp only [List.setIfInBounds_toArray, List.set_cons_zero, List.set_cons_succ]
            refine anyH_take (i := 2) (d := 137) (v := ?ul2) rfl rfl (by kernel_rfl) (by kernel_rfl) (by kernel_rfl) (fun _ _ _ h => h) (Or.inl ⟨by rfl, ?uly2⟩) s1 ?ulr2
            case uly2 => (intro w; go_simp; try with_reducible rfl)
            simp only [List.setIfInBounds_toArray, List.set_cons_zero, List.set_cons_succ]
            refine anyH_take (i := 3) (d := 138) (v := ?ul3) rfl rfl (by kernel_rfl) (by kernel_rfl) (by kernel_rfl) (fun _ _ _ h => h) (Or.inl ⟨by rfl, ?uly3⟩) s1 ?ulr3
            case uly3 => (intro w; go_simp; try with_reducible rfl)
            simp only [List.setIfInBounds_toArray, List.set_cons_zero, List.set_cons_succ]
            refine anyH_take (i := 5) (d := 140) (v := ?ul5) rfl rfl (by kernel_rfl) (by kernel_rfl) (by kernel_rfl) (fun _ _ _ h => h) (Or.inl ⟨by rfl, ?uly5⟩) s1 ?ulr5
            case uly5 => (intro w; go_simp; try with_reducible rfl)
            simp only [List.setIfInBounds_toArray, List.set_cons_zero, List.set_cons_succ]
            refine wpAnyH_take' (i := 1) (d := 136) (v := ?ul1) rfl rfl (by kernel_rfl) (by kernel_rfl) (by kernel_rfl) (fun _ _ _ h => h) (Or.inl ⟨by rfl, ?uly1⟩) s1 ?ulr1
            case uly1 => (intro w hSw; go_split_ands; go_simp; try with_reducible rfl)
            simp only [List.setIfInBounds_toArray, List.set_cons_zero, List.set_cons_succ]
            refine wpAnyH_take' (i := 4) (d := 139) (v := ?ul4) rfl rfl (by kernel_rfl) (by kernel_rfl) (by kernel_rfl) (fun _ _ _ h => h) (Or.inl ⟨by rfl, ?uly4⟩) s1 ?ulr4
            case uly4 => (intro w hSw; go_split_ands; go_simp; try with_reducible rfl)
            simp only [List.setIfInBounds_toArray, List.set_cons_zero, List.set_cons_succ]
            refine anyH_take (i := 6) (d := 141) (v := ?ul6) rfl rfl (by kernel_rfl) (by kernel_rfl) (by kernel_rfl) (fun _ _ _ h => h) (Or.inl ⟨by rfl, ?uly6⟩) s1 ?ulr6
            case uly6 => (intro w; go_simp; try with_reducible rfl)
            simp only [List.setIfInBounds_toArray, List.set_cons_zero, List.set_cons_succ]
            refine anyH_one (i := 7) (by kernel_rfl) ?_
            refine wpOp_step rfl (fun K hK => ?_)
            go_simp
            refine hK _ _ ⟨s1, ?_⟩
            clear hK K
            refine anyH_take (i := 8) (d := 143) (v := .int .u8 nz) rfl rfl (by kernel_rfl) (by kernel_rfl) (by kernel_rfl) (fun _ _ _ h => h) (Or.inl ⟨by rfl, ?uly8⟩) s1 ?ulr8
            case uly8 => (intro w; have hq := hnv; go_simp; try with_reducible rfl)
            simp only [List.setIfInBounds_toArray, List.set_cons_zero, List.set_cons_succ]
            refine anyH_take (i := 9) (d := 144) (v := ?ul9) rfl rfl (by kernel_rfl) (by kernel_rfl) (by kernel_rfl) (fun _ _ _ h => h) (Or.inl ⟨by rfl, ?uly9⟩) s1 ?ulr9
            case uly9 => (intro w; go_simp; try with_reducible rfl)
            simp only [List.setIfInBounds_toArray, List.set_cons_zero, List.set_cons_succ]
            refine anyH_one (i := 10) (by kernel_rfl) ?_
            refine wpOp_step rfl (fun KK hK => ?_)
            go_simp
            try rw [hws]
            refine hK _ _ ⟨s4, ?_⟩
            clear hK KK
            refine wpAnyH_done (by kernel_rfl) ?_ _
            clear hws hnv cv fv s1 s4
            go_wp2
            go_roundw
            case rel => exact ⟨j + 1, by omega, by go_num, HL.out⟩
            case measure => simp [intOf]; omega
          · have hje : j = xn := by omega
            have j1 : ¬ (j : Int) < xn := by omega
            have HZ := Lib.hid hTl
            have HZ7 := Lib.hid hBl
            clear hTl hBl hXl hWl
            have hAt : Tri w wr.drew (fun _ => False) ga gb go b b (q + 1) := (HZ.out.less fun i (hi : False) => hi.elim).below (Below.refl _ _).drew
            have s1 : wr.drew.cell? ⟨wo.heap.size, 2, none⟩ = some (.int .i64 sx) := HZ7.out.cell rfl
            have HA := Lib.hid (And.intro hAt (show Blk wr.drew wo.heap.size 31 [.int .i64 kd, .int .i64 ax, .int .i64 sx, .int .i64 y.x.fr, .int .i64 y.x.to, .slice y.a y.n y.c] from HZ7.out))
            clear hAt
            obtain ⟨bn, hbn⟩ : ∃ bn, b = bn := ⟨_, rfl⟩
            rw [hbn] at HA
            have Hbn := Lib.hid hbn
            clear hbn
            obtain ⟨En, hEn⟩ : ∃ En, nextB bn sx = En := ⟨_, rfl⟩
            have HEn := Lib.hid hEn
            clear hEn
            have hn1 : (En != En) = false := by simp
            obtain ⟨ln, hln⟩ : ∃ ln, bn.l.length = ln := ⟨_, rfl⟩
            have Hln := Lib.hid hln
            clear hln
            have hn2 : ((ln : Int) != (ln : Int)) = false := by simp
            obtain ⟨sn, hsn⟩ : ∃ sn, bn.sent = sn := ⟨_, rfl⟩
            have Hsn := Lib.hid hsn
            clear hsn
            have hn3 : ((sn : Int) != (sn : Int)) = false := by simp
            obtain ⟨on, hon⟩ : ∃ on, bn.lost = on := ⟨_, rfl⟩
            have Hon := Lib.hid hon
            clear hon
            have hn4 : ((on : Int) != (on : Int)) = false := by simp
            obtain ⟨wq, hwq⟩ : ∃ wq, wr.drew = wq := ⟨_, rfl⟩
            rw [hwq] at HA s1
            have Hwq := Lib.hid hwq
            clear hwq
            go_wp2
            refine wp_region_held_drew (S := fun W => W.cell? ⟨wo.heap.size, 2, none⟩ = some (.int .i64 sx)) (by kernel_rfl) (by rw [Hwq.out]; exact s1) (fun _ => ?_)
            rw [Hwq.out]
            refine anyH_take (i := 0) (d := 156) (v := ?un0) rfl rfl (by kernel_rfl) (by kernel_rfl) (by kernel_rfl) (fun _ _ _ h => h) (Or.inl ⟨by rfl, ?uny0⟩) s1 ?unr0
            case uny0 => (intro w; go_simp; try with_reducible rfl)
            simp only [List.setIfInBounds_toArray, List.set_cons_zero, List.set_cons_succ]
            refine anyH_take (i := 1) (d := 157) (v := ?un1) rfl rfl (by kernel_rfl) (by kernel_rfl) (by kernel_rfl) (fun _ _ _ h => h) (Or.inl ⟨by rfl, ?uny1⟩) s1 ?unr1
            case uny1 => (intro w; go_simp; try with_reducible rfl)
            simp only [List.setIfInBounds_toArray, List.set_cons_zero, List.set_cons_succ]
            refine anyH_take (i := 4) (d := 160) (v := ?un4) rfl rfl (by kernel_rfl) (by kernel_rfl) (by kernel_rfl) (fun _ _ _ h => h) (Or.inl ⟨by rfl, ?uny4⟩) s1 ?unr4
            case uny4 => (intro w; go_simp; try with_reducible rfl)
            simp only [List.setIfInBounds_toArray, List.set_cons_zero, List.set_cons_succ]
            refine anyH_take (i := 5) (d := 161) (v := ?un5) rfl rfl (by kernel_rfl) (by kernel_rfl) (by kernel_rfl) (fun _ _ _ h => h) (Or.inl ⟨by rfl, ?uny5⟩) s1 ?unr5
            case uny5 => (intro w; go_simp; try with_reducible rfl)
            simp only [List.setIfInBounds_toArray, List.set_cons_zero, List.set_cons_succ]
            refine wpAnyH_take' (i := 2) (d := 158) (v := ?un2) rfl rfl (by kernel_rfl) (by kernel_rfl) (by kernel_rfl) (fun _ _ _ h => h) (Or.inl ⟨by rfl, ?uny2⟩) s1 ?unr2
            case uny2 => (intro w hSw; go_split_ands; go_simp; try with_reducible rfl)
            simp only [List.setIfInBounds_toArray, List.set_cons_zero, List.set_cons_succ]
            refine wpAnyH_take' (i := 6) (d := 162) (v := ?un6) rfl rfl (by kernel_rfl) (by kernel_rfl) (by kernel_rfl) (fun _ _ _ h => h) (Or.inl ⟨by rfl, ?uny6⟩) s1 ?unr6
            case uny6 => (intro w hSw; go_split_ands; go_simp; try with_reducible rfl)
            simp only [List.setIfInBounds_toArray, List.set_cons_zero, List.set_cons_succ]
            refine anyH_one (i := 3) (by kernel_rfl) ?_
            refine wpOp_step rfl (fun KK hK => ?_)
            go_simp
            obtain ⟨U, V, O, bo, qq⟩ := HA.out.1
            have hnx := next_any qq.a sx
            rw [HEn.out] at hnx
            refine hnx.mono ?_
            rintro e wn ⟨rfl, hb⟩
            clear hnx qq
            have s2 : wn.cell? ⟨wo.heap.size, 2, none⟩ = some (.int .i64 sx) := (HA.out.2.below hb HA.out.2.lt).cell rfl
            have HN := Lib.hid (HA.out.1.below hb)
            clear hb
            refine hK _ _ ⟨s2, ?_⟩
            clear hK KK
            refine anyH_one (i := 7) (by kernel_rfl) ?_
            refine wpOp_step rfl (fun KK hK => ?_)
            go_simp
            obtain ⟨U, V, O, bo, qq⟩ := HN.out
            have hnx := rnext_any qq.b sx
            rw [HEn.out] at hnx
            refine hnx.mono ?_
            rintro e wn ⟨rfl, rfl⟩
            clear hnx qq
            refine hK _ _ ⟨s2, ?_⟩
            clear hK KK
            refine anyH_take (i := 8) (d := 164) (v := .bool false) rfl rfl (by kernel_rfl) (by kernel_rfl) (by kernel_rfl) (fun _ _ _ h => h) (Or.inl ⟨by rfl, ?uny8⟩) s2 ?unr8
            case uny8 => (intro w; have hq := hn1; go_simp; try with_reducible rfl)
            simp only [List.setIfInBounds_toArray, List.set_cons_zero, List.set_cons_succ]
            refine anyH_take (i := 9) (d := 165) (v := ?un9) rfl rfl (by kernel_rfl) (by kernel_rfl) (by kernel_rfl) (fun _ _ _ h => h) (Or.inl ⟨by rfl, ?uny9⟩) s2 ?unr9
            case uny9 => (intro w; go_simp; try with_reducible rfl)
            simp only [List.setIfInBounds_toArray, List.set_cons_zero, List.set_cons_succ]
            refine anyH_take (i := 10) (d := 166) (v := ?un10) rfl rfl (by kernel_rfl) (by kernel_rfl) (by kernel_rfl) (fun _ _ _ h => h) (Or.inl ⟨by rfl, ?uny10⟩) s2 ?unr10
            case uny10 => (intro w; go_simp; try with_reducible rfl)
            simp only [List.setIfInBounds_toArray, List.set_cons_zero, List.set_cons_succ]
            refine anyH_take (i := 12) (d := 168) (v := ?un12) rfl rfl (by kernel_rfl) (by kernel_rfl) (by kernel_rfl) (fun _ _ _ h => h) (Or.inl ⟨by rfl, ?uny12⟩) s2 ?unr12
            case uny12 => (intro w; go_simp; try with_reducible rfl)
            simp only [List.setIfInBounds_toArray, List.set_cons_zero, List.set_cons_succ]
            refine anyH_one (i := 11) (by kernel_rfl) ?_
            refine wpOp_step rfl (fun KK hK => ?_)
            go_simp
            obtain ⟨U, V, O, bo, qq⟩ := HN.out
            have hnx := blen_any qq.a ln Hln.out
            refine hnx.mono ?_
            rintro e wn ⟨rfl, rfl⟩
            clear hnx qq
            refine hK _ _ ⟨s2, ?_⟩
            clear hK KK
            refine anyH_one (i := 13) (by kernel_rfl) ?_
            refine wpOp_step rfl (fun KK hK => ?_)
            go_simp
            obtain ⟨U, V, O, bo, qq⟩ := HN.out
            have hnx := rlen_any qq.b ln Hln.out
            refine hnx.mono ?_
            rintro e wn ⟨rfl, rfl⟩
            clear hnx qq
            refine hK _ _ ⟨s2, ?_⟩
            clear hK KK
            refine anyH_take (i := 14) (d := 170) (v := .bool false) rfl rfl (by kernel_rfl) (by kernel_rfl) (by kernel_rfl) (fun _ _ _ h => h) (Or.inl ⟨by rfl, ?uny14⟩) s2 ?unr14
            case uny14 => (intro w; have hq := hn2; go_simp; try with_reducible rfl)
            simp only [List.setIfInBounds_toArray, List.set_cons_zero, List.set_cons_succ]
            refine anyH_take (i := 15) (d := 171) (v := ?un15) rfl rfl (by kernel_rfl) (by kernel_rfl) (by kernel_rfl) (fun _ _ _ h => h) (Or.inl ⟨by rfl, ?uny15⟩) s2 ?unr15
            case uny15 => (intro w; go_simp; try with_reducible rfl)
            simp only [List.setIfInBounds_toArray, List.set_cons_zero, List.set_cons_succ]
            refine anyH_take (i := 16) (d := 172) (v := ?un16) rfl rfl (by kernel_rfl) (by kernel_rfl) (by kernel_rfl) (fun _ _ _ h => h) (Or.inl ⟨by rfl, ?uny16⟩) s2 ?unr16
            case uny16 => (intro w; go_simp; try with_reducible rfl)
            simp only [List.setIfInBounds_toArray, List.set_cons_zero, List.set_cons_succ]
            refine anyH_take (i := 17) (d := 173) (v := ?un17) rfl rfl (by kernel_rfl) (by kernel_rfl) (by kernel_rfl) (fun _ _ _ h => h) (Or.inl ⟨by rfl, ?uny17⟩) s2 ?unr17
            case uny17 => (intro w; go_simp; try with_reducible rfl)
            simp only [List.setIfInBounds_toArray, List.set_cons_zero, List.set_cons_succ]
            refine anyH_take (i := 19) (d := 175) (v := ?un19) rfl rfl (by kernel_rfl) (by kernel_rfl) (by kernel_rfl) (fun _ _ _ h => h) (Or.inl ⟨by rfl, ?uny19⟩) s2 ?unr19
            case uny19 => (intro w; go_simp; try with_reducible rfl)
            simp only [List.setIfInBounds_toArray, List.set_cons_zero, List.set_cons_succ]
            refine anyH_one (i := 18) (by kernel_rfl) ?_
            refine wpOp_step rfl (fun KK hK => ?_)
            go_simp
            obtain ⟨U, V, O, bo, qq⟩ := HN.out
            have hnx := bsent_any qq.a
            rw [Hsn.out] at hnx
            refine hnx.mono ?_
            rintro e wn ⟨rfl, rfl⟩
            clear hnx qq
            refine hK _ _ ⟨s2, ?_⟩
            clear hK KK
            refine anyH_one (i := 20) (by kernel_rfl) ?_
            refine wpOp_step rfl (fun KK hK => ?_)
            go_simp
            obtain ⟨U, V, O, bo, qq⟩ := HN.out
            have hnx := rsent_any qq.b
            rw [Hsn.out] at hnx
            refine hnx.mono ?_
            rintro e wn ⟨rfl, rfl⟩
            clear hnx qq
            refine hK _ _ ⟨s2, ?_⟩
            clear hK KK
            refine anyH_take (i := 21) (d := 177) (v := .bool false) rfl rfl (by kernel_rfl) (by kernel_rfl) (by kernel_rfl) (fun _ _ _ h => h) (Or.inl ⟨by rfl, ?uny21⟩) s2 ?unr21
            case uny21 => (intro w; have hq := hn3; go_simp; try with_reducible rfl)
            simp only [List.setIfInBounds_toArray, List.set_cons_zero, List.set_cons_succ]
            refine anyH_take (i := 22) (d := 178) (v := ?un22) rfl rfl (by kernel_rfl) (by kernel_rfl) (by kernel_rfl) (fun _ _ _ h => h) (Or.inl ⟨by rfl, ?uny22⟩) s2 ?unr22
            case uny22 => (intro w; go_simp; try with_reducible rfl)
            simp only [List.setIfInBounds_toArray, List.set_cons_zero, List.set_cons_succ]
            refine anyH_take (i := 23) (d := 179) (v := ?un23) rfl rfl (by kernel_rfl) (by kernel_rfl) (by kernel_rfl) (fun _ _ _ h => h) (Or.inl ⟨by rfl, ?uny23⟩) s2 ?unr23
            case uny23 => (intro w; go_simp; try with_reducible rfl)
            simp only [List.setIfInBounds_toArray, List.set_cons_zero, List.set_cons_succ]
            refine anyH_take (i := 24) (d := 180) (v := ?un24) rfl rfl (by kernel_rfl) (by kernel_rfl) (by kernel_rfl) (fun _ _ _ h => h) (Or.inl ⟨by rfl, ?uny24⟩) s2 ?unr24
            case uny24 => (intro w; go_simp; try with_reducible rfl)
            simp only [List.setIfInBounds_toArray, List.set_cons_zero, List.set_cons_succ]
            refine anyH_take (i := 26) (d := 182) (v := ?un26) rfl rfl (by kernel_rfl) (by kernel_rfl) (by kernel_rfl) (fun _ _ _ h => h) (Or.inl ⟨by rfl, ?uny26⟩) s2 ?unr26
            case uny26 => (intro w; go_simp; try with_reducible rfl)
            simp only [List.setIfInBounds_toArray, List.set_cons_zero, List.set_cons_succ]
            refine anyH_one (i := 25) (by kernel_rfl) ?_
            refine wpOp_step rfl (fun KK hK => ?_)
            go_simp
            obtain ⟨U, V, O, bo, qq⟩ := HN.out
            have hnx := blost_any qq.a
            rw [Hon.out] at hnx
            refine hnx.mono ?_
            rintro e wn ⟨rfl, rfl⟩
            clear hnx qq
            refine hK _ _ ⟨s2, ?_⟩
            clear hK KK
            refine anyH_one (i := 27) (by kernel_rfl) ?_
            refine wpOp_step rfl (fun KK hK => ?_)
            go_simp
            obtain ⟨U, V, O, bo, qq⟩ := HN.out
            have hnx := rlost_any qq.b
            rw [Hon.out] at hnx
            refine hnx.mono ?_
            rintro e wn ⟨rfl, rfl⟩
            clear hnx qq
            refine hK _ _ ⟨s2, ?_⟩
            clear hK KK
            refine anyH_take (i := 28) (d := 184) (v := .bool false) rfl rfl (by kernel_rfl) (by kernel_rfl) (by kernel_rfl) (fun _ _ _ h => h) (Or.inl ⟨by rfl, ?uny28⟩) s2 ?unr28
            case uny28 => (intro w; have hq := hn4; go_simp; try with_reducible rfl)
            simp only [List.setIfInBounds_toArray, List.set_cons_zero, List.set_cons_succ]
            refine anyH_take (i := 29) (d := 185) (v := ?un29) rfl rfl (by kernel_rfl) (by kernel_rfl) (by kernel_rfl) (fun _ _ _ h => h) (Or.inl ⟨by rfl, ?uny29⟩) s2 ?unr29
            case uny29 => (intro w; go_simp; try with_reducible rfl)
            simp only [List.setIfInBounds_toArray, List.set_cons_zero, List.set_cons_succ]
            refine wpAnyH_done (by kernel_rfl) ?_ _
            go_wp2
            go_roundw
            case rel => exact ⟨q + 1, bn, by omega, by omega, by go_num, HN.out, by rw [← Hbn.out]; omega, by rw [← Hbn.out]; omega⟩
            case measure => simp [intOf]; omega
      · obtain ⟨E, hE⟩ : ∃ E, lackE b ax = E := ⟨_, rfl⟩
        obtain ⟨v, hv⟩ : ∃ v, lookB b ax = v := ⟨_, rfl⟩
        have HV := Lib.hid (And.intro hE hv)
        clear hE hv
        go_wp2_with fail
        refine (ta_look H2.out.1 ax v HV.out.1 HV.out.2).mono ?_
        rintro e w3 ⟨xa, xn, xc, M1, rfl, hT3, hx3, hf3, hO3, hM1⟩
        have B73 := hO3.blk H2.out.2.1 fun e => e rfl
        have z3 := hO3.size
        obtain ⟨w4, hw4⟩ : ∃ w4, w3.alloc (.cells #[.int .i64 v.fr, .int .i64 v.to, .slice xa xn xc] 29) = w4 := ⟨_, rfl⟩
        have b4 : Below w3.heap.size w3 w4 := by rw [← hw4]; exact (Below.refl _ _).alloc (Nat.le_refl _) _
        have z4 : w4.heap.size = w3.heap.size + 1 := by rw [← hw4]; simp
        have B84 : Blk w4 w3.heap.size 29 [.int .i64 v.fr, .int .i64 v.to, .slice xa xn xc] := by rw [← hw4]; exact Blk.new rfl rfl
        have B74 := B73.below b4 B73.lt
        have T4 : Tri w w4 (fun i => (i = wo.heap.size ∨ M1 i) ∨ i = w3.heap.size) ga gb go b b (q + 1) := hT3.keep b4 fun i hi => hi.imp_right fun h => ⟨by omega, by omega⟩
        have hM1l : ∀ i, M1 i → i < w3.heap.size := fun i hi => hT3.nlt i (.inr hi)
        have x4 := hx3.below b4 hM1l (Nat.le_refl _)
        have f4 := hf3.below b4
        have a4 := B74.cell (i := 1) rfl
        have hwr2 := H2.out.2.1.lt
        have HX4 := Lib.hid (And.intro T4 (And.intro B74 (And.intro B84 (And.intro x4 (And.intro f4 (And.intro hM1 hM1l))))))
        clear hT3 hx3 hf3 hO3 B73 b4 B84 B74 T4 x4 f4 hM1 hM1l d0 d1 d2 d3 d4 d5
        go_wp2_with fail
        refine (tb_look HX4.out.1 ax v HV.out.1 HV.out.2).mono ?_
        rintro e w5 ⟨ya, yn, yc, M2, rfl, hT5, hy5, hO5, hM2⟩
        clear a4 hw4
        have z5 := hO5.size
        have B75 := hO5.blk HX4.out.2.1 fun e => e (.inl (.inl rfl))
        have B85 := hO5.blk HX4.out.2.2.1 fun e => e (.inr rfl)
        have x5 := HX4.out.2.2.2.1.stays hO5 fun i hi => .inl (.inr hi)
        have f5 := HX4.out.2.2.2.2.1.out hO5 fun i hi e => e (.inl (.inr hi))
        obtain ⟨w6, hw6⟩ : ∃ w6, w5.alloc (.cells #[.int .i64 v.fr, .int .i64 v.to, .slice ya yn yc] 29) = w6 := ⟨_, rfl⟩
        have b6 : Below w5.heap.size w5 w6 := by rw [← hw6]; exact (Below.refl _ _).alloc (Nat.le_refl _) _
        have z6 : w6.heap.size = w5.heap.size + 1 := by rw [← hw6]; simp
        have B96 : Blk w6 w5.heap.size 29 [.int .i64 v.fr, .int .i64 v.to, .slice ya yn yc] := by rw [← hw6]; exact Blk.new rfl rfl
        have B76 := B75.below b6 B75.lt
        have B86 := B85.below b6 B85.lt
        have hM2l : ∀ i, M2 i → i < w5.heap.size := fun i hi => hT5.nlt i (.inr hi)
        have T6 : Tri w w6 (fun i => (((i = wo.heap.size ∨ M1 i) ∨ i = w3.heap.size) ∨ M2 i) ∨ i = w5.heap.size) ga gb go b b (q + 1) := hT5.keep b6 fun i hi => hi.imp_right fun h => ⟨by omega, by omega⟩
        have x6 := x5.below b6 (fun i hi => by have := HX4.out.2.2.2.2.2.2 i hi; omega) (Nat.le_refl _)
        have f6 := f5.below b6
        have y6 := hy5.below b6 hM2l (Nat.le_refl _)
        have d0 := B76.cell (i := 0) rfl
        have HX6 := Lib.hid (And.intro T6 (And.intro B76 (And.intro B86 (And.intro B96 (And.intro x6 (And.intro f6 (And.intro y6 (And.intro hM2 hM2l))))))))
        have HM1 := Lib.hid HX4.out.2.2.2.2.2
        clear hT5 hy5 hO5 B75 B85 x5 f5 b6 B96 B76 B86 T6 x6 f6 y6 hM2 hM2l HX4
        go_wp2_with fail
        clear hw6
        refine (HB5.out w6).mono ?_; rintro e w6 ⟨rfl, rfl⟩
        obtain ⟨b2, hb2⟩ : ∃ b2, takeB b ax = b2 := ⟨_, rfl⟩
        have hbs := take_sent b ax
        rw [hb2] at hbs
        have HB2 := Lib.hid hb2
        clear hb2
        have a6 := HX6.out.2.1.cell (i := 1) rfl
        clear d0
        go_wp2_with fail
        refine (ta_take (ba' := b2) HX6.out.1 ax v HV.out.1 HV.out.2 HB2.out).mono ?_
        rintro e w7 ⟨ua, un, uc, M3, rfl, hT7, hx7, hf7, hO7, hM3⟩
        have z7 := hO7.size
        have B77 := hO7.blk HX6.out.2.1 fun e => e (.inl (.inl (.inl (.inl rfl))))
        have B87 := hO7.blk HX6.out.2.2.1 fun e => e (.inl (.inl (.inr rfl)))
        have B97 := hO7.blk HX6.out.2.2.2.1 fun e => e (.inr rfl)
        have hM3l : ∀ i, M3 i → i < w7.heap.size := fun i hi => hT7.nlt i (.inr hi)
        obtain ⟨w8, hw8⟩ : ∃ w8, ((w7.setCell ⟨w3.heap.size, 0, none⟩ (.int .i64 v.fr)).setCell ⟨w3.heap.size, 1, none⟩ (.int .i64 v.to)).setCell ⟨w3.heap.size, 2, none⟩ (.slice ua un uc) = w8 := ⟨_, rfl⟩
        obtain ⟨B88, o8⟩ := three (K := fun _ => True) (.int .i64 v.fr) (.int .i64 v.to) (.slice ua un uc) B87
        rw [hw8] at B88 o8
        have g0 := B87.cell (i := 0) rfl
        have g1 := B87.cell (i := 1) rfl
        have g2 := B87.cell (i := 2) rfl
        have k0 := B87.free 0
        have k1 := B87.free 1
        have k2 := B87.free 2
        have z8 := o8.size
        have hw3g : w.heap.size ≤ w3.heap.size := by have := H2.out.1.bel.size; omega
        have T8 : Tri w w8 (fun i => ((((i = wo.heap.size ∨ M1 i) ∨ i = w3.heap.size) ∨ M2 i) ∨ i = w5.heap.size) ∨ M3 i) ga gb go b2 b (q + 1) := hT7.other o8 (fun i hi => ⟨.inl (.inl (.inl (.inr hi))), by omega⟩) fun i hi => .inl hi
        have B78 := o8.blk B77 (fun e => by omega)
        have B98 := o8.blk B97 (fun e => by omega)
        have x8 := hx7.out o8 fun i hi e => by have := hM3 i hi; omega
        have f8 := hf7.out o8 fun i hi e => by have := hM3 i hi; omega
        have a8 := B78.cell (i := 1) rfl
        have HX8 := Lib.hid (And.intro T8 (And.intro B78 (And.intro B88 (And.intro B98 (And.intro x8 (And.intro f8 (And.intro hM3 hM3l)))))))
        clear hT7 hx7 hf7 hO7 B77 B87 B97 o8 T8 B78 B88 B98 x8 f8 hM3 hM3l a6
        go_wp2_with fail
        refine (tb_take (bb' := b2) HX8.out.1 ax v HV.out.1 HV.out.2 HB2.out).mono ?_
        rintro e w9 ⟨ta, tn, tc, M4, rfl, hT9, hy9, hO9, hM4⟩
        clear hw8 g0 g1 g2 k0 k1 k2 a8
        have z9 := hO9.size
        have B79 := hO9.blk HX8.out.2.1 fun e => e (.inl (.inl (.inl (.inl (.inl rfl)))))
        have B89 := hO9.blk HX8.out.2.2.1 fun e => e (.inl (.inl (.inl (.inr rfl))))
        have B99 := hO9.blk HX8.out.2.2.2.1 fun e => e (.inl (.inr rfl))
        have x9 := HX8.out.2.2.2.2.1.stays hO9 fun i hi => .inr hi
        have f9 := HX8.out.2.2.2.2.2.1.out hO9 fun i hi e => e (.inr hi)
        obtain ⟨w10, hw10⟩ : ∃ w10, ((w9.setCell ⟨w5.heap.size, 0, none⟩ (.int .i64 v.fr)).setCell ⟨w5.heap.size, 1, none⟩ (.int .i64 v.to)).setCell ⟨w5.heap.size, 2, none⟩ (.slice ta tn tc) = w10 := ⟨_, rfl⟩
        obtain ⟨B90, o10⟩ := three (K := fun _ => True) (.int .i64 v.fr) (.int .i64 v.to) (.slice ta tn tc) B99
        rw [hw10] at B90 o10
        have g0 := B99.cell (i := 0) rfl
        have g1 := B99.cell (i := 1) rfl
        have g2 := B99.cell (i := 2) rfl
        have k0 := B99.free 0
        have k1 := B99.free 1
        have k2 := B99.free 2
        have z10 := o10.size
        have T10 : Tri w w10 (fun i => (((((i = wo.heap.size ∨ M1 i) ∨ i = w3.heap.size) ∨ M2 i) ∨ i = w5.heap.size) ∨ M3 i) ∨ M4 i) ga gb go b2 b2 (q + 1) := hT9.other o10 (fun i hi => ⟨.inl (.inl (.inr hi)), by omega⟩) fun i hi => .inl hi
        have B70 := o10.blk B79 (fun e => by omega)
        have B80 := o10.blk B89 (fun e => by omega)
        have x10 := x9.out o10 fun i hi e => by have := HX8.out.2.2.2.2.2.2.1 i hi; omega
        have f10 := f9.out o10 fun i hi e => by have := HX8.out.2.2.2.2.2.2.1 i hi; omega
        have y10 := hy9.out o10 fun i hi e => by have := hM4 i hi; omega
        have HX10 := Lib.hid (And.intro T10 (And.intro B70 (And.intro B80 (And.intro B90 (And.intro x10 (And.intro f10 (And.intro y10 hM4)))))))
        have p0 := HX10.out.2.2.1.cell (i := 0) rfl
        have p1 := HX10.out.2.2.1.cell (i := 1) rfl
        have p2 := HX10.out.2.2.1.cell (i := 2) rfl
        have r0 := HX10.out.2.2.2.1.cell (i := 0) rfl
        have r1 := HX10.out.2.2.2.1.cell (i := 1) rfl
        have r2 := HX10.out.2.2.2.1.cell (i := 2) rfl
        have hsm := same_any ⟨v, ua, un, uc⟩ ⟨v, ta, tn, tc⟩ x10 y10 true (by simp)
        dsimp only at hsm
        have HS := Lib.hid hsm
        clear hT9 hy9 hO9 B79 B89 B99 x9 f9 o10 T10 B70 B80 B90 x10 f10 y10 hM4 hsm
        have hEE : (E != E) = false := by simp
        have HXn := Lib.hid (show v.bs.length = un from HX10.out.2.2.2.2.1.1)
        have hxn2 : un ≤ 9223372036854775807 := by
          have h1 : un ≤ uc := HX10.out.2.2.2.2.1.2.1
          have h2 : uc ≤ maxLen := HX10.out.2.2.2.2.1.2.2.1
          unfold maxLen at h2
          omega
        go_wp2_with fail
        refine HS.out.mono ?_
        rintro e w11 ⟨rfl, hb7⟩
        clear hw10 g0 g1 g2 k0 k1 k2
        have x7 := HX10.out.2.2.2.2.1.below hb7 (fun i hi => HX10.out.1.nlt i (.inl (.inr hi))) (Nat.le_refl _)
        have HLo := Lib.hid (And.intro (HX10.out.1.below hb7) (And.intro (HX10.out.2.1.below hb7 HX10.out.2.1.lt) (And.intro (HX10.out.2.2.1.below hb7 HX10.out.2.2.1.lt) (WrP.of x7 (HX10.out.2.2.2.2.2.1.below hb7)))))
        clear hb7 x7 p0 p1 p2 r0 r1 r2
        have HKN := Lib.hid (show ∀ i, M3 i → ((((((i = wo.heap.size ∨ M1 i) ∨ i = w3.heap.size) ∨ M2 i) ∨ i = w5.heap.size) ∨ M3 i) ∨ M4 i) ∧ w.heap.size ≤ i from fun i hi => ⟨.inl (.inr hi), by have := HX8.out.2.2.2.2.2.2.1 i hi; omega⟩)
        have HBX := Lib.hid (show (∀ i, M3 i → wo.heap.size ≠ i) ∧ (∀ i, M3 i → w3.heap.size ≠ i) from ⟨fun i hi => by have := HX8.out.2.2.2.2.2.2.1 i hi; omega, fun i hi => by have := HX8.out.2.2.2.2.2.2.1 i hi; omega⟩)
        go_wp2
        go_loopw [14] (fun i wr => ∃ j : Nat, j ≤ un ∧ i = .int .i64 j ∧ Tri w wr (fun i => (((((i = wo.heap.size ∨ M1 i) ∨ i = w3.heap.size) ∨ M2 i) ∨ i = w5.heap.size) ∨ M3 i) ∨ M4 i) ga gb go b2 b2 (q + 1) ∧ Blk wr wo.heap.size 31 [.int .i64 kd, .int .i64 ax, .int .i64 sx, .int .i64 y.x.fr, .int .i64 y.x.to, .slice y.a y.n y.c] ∧ Blk wr w3.heap.size 29 [.int .i64 v.fr, .int .i64 v.to, .slice ua un uc] ∧ WrP wr M3 ⟨v, ua, un, uc⟩ j) (fun i _ => un - (intOf i).toNat)
        case atStart => exact ⟨0, by omega, rfl, HLo.out⟩
        case round =>
          obtain ⟨j, hj, rfl, hTl, hBl, hXl, hWl⟩ := hrel
          have j0 : (0 : Int) ≤ j := by omega
          have x2 := hXl.cell (i := 2) rfl
          by_cases hlj : j < un
          · have j1 : (j : Int) < un := by omega
            obtain ⟨vb, vo, cs, rfl, hkb, hvb, hvl, hvc⟩ := hWl (by show 0 < un; omega)
            dsimp only at hvl hvc
            have hbl' : j < (cbs v.bs).length := by rw [cbs_length, HXn.out]; exact hlj
            have hcj := hvc j _ (Nat.le_refl _) (List.getElem?_eq_getElem hbl')
            obtain ⟨u, hu⟩ : ∃ u : UInt8, (cbs v.bs)[j] = cb u := by rw [show (cbs v.bs)[j] = cb (v.bs[j]'(by rw [cbs_length] at hbl'; exact hbl')) by simp [cbs]]; exact ⟨_, rfl⟩
            rw [hu] at hcj
            have hkb' := HKN.out vb hkb
            have cv : wr.drew.cell? ⟨vb, vo + j, none⟩ = some (.int .u8 (u.toNat : Int)) := hvb.cell hcj
            have fv : wr.drew.frozen? ⟨vb, vo + j, none⟩ = false := hvb.free _
            have s1 : wr.drew.cell? ⟨w3.heap.size, 2, none⟩ = some (.slice (some ⟨vb, vo, none⟩) un uc) := x2
            have hbd : Below wr.heap.size wr wr.drew := (Below.refl _ _).drew
            have hTd := hTl.below hbd
            have hBd : Blk wr.drew wo.heap.size 31 [.int .i64 kd, .int .i64 ax, .int .i64 sx, .int .i64 y.x.fr, .int .i64 y.x.to, .slice y.a y.n y.c] := hBl
            have hXd : Blk wr.drew w3.heap.size 29 [.int .i64 v.fr, .int .i64 v.to, .slice (some ⟨vb, vo, none⟩) un uc] := hXl
            have hvd : Blk wr.drew vb 5 cs := hvb
            obtain ⟨wld, hwld⟩ : ∃ wld, wr.drew = wld := ⟨_, rfl⟩
            rw [hwld] at cv fv s1 hTd hBd hXd hvd
            obtain ⟨nz, hnv⟩ : ∃ nz : Int, IntKind.u8.wrap ((u.toNat : Int) + 1) = nz := ⟨_, rfl⟩
            obtain ⟨ws, hws⟩ : ∃ ws, wld.setCell ⟨vb, vo + j, none⟩ (.int .u8 nz) = ws := ⟨_, rfl⟩
            have os : Out (fun i => i = vb) wld ws := by rw [← hws]; exact out_set wld vb _ _
            have hTs := hTd.other (N' := (fun i => (((((i = wo.heap.size ∨ M1 i) ∨ i = w3.heap.size) ∨ M2 i) ∨ i = w5.heap.size) ∨ M3 i) ∨ M4 i)) os (fun i hi => by subst hi; exact hkb') (fun i hi => .inl hi)
            have hbn1 : wo.heap.size ≠ vb := HBX.out.1 vb hkb
            have hbn2 : w3.heap.size ≠ vb := HBX.out.2 vb hkb
            have hBs := os.blk hBd hbn1
            have hXs := os.blk hXd hbn2
            have hVs : Blk ws vb 5 (cs.set (vo + j) (.int .u8 nz)) := by rw [← hws]; exact hvd.set_ _ _
            have hWs : WrP ws M3 ⟨v, some ⟨vb, vo, none⟩, un, uc⟩ (j + 1) := fun _ => ⟨vb, vo, _, rfl, hkb, hVs, by rw [List.length_set]; exact hvl, fun i u' hi hu' => by rw [List.getElem?_set_ne (by omega)]; exact hvc i u' (by omega) hu'⟩
            have s4 : ws.cell? ⟨w3.heap.size, 2, none⟩ = some (.slice (some ⟨vb, vo, none⟩) un uc) := hXs.cell rfl
            have HL := Lib.hid (And.intro hTs (And.intro hBs (And.intro hXs hWs)))
            have Hwd := Lib.hid hwld
            clear hwld hTl hBl hXl hWl hvb hvc hTd hBd hXd hvd os hTs hBs hXs hVs hWs hbd hcj hu hbl'
            go_wp2
            clear x2
            refine wp_region_held_drew (S := fun W => W.cell? ⟨w3.heap.size, 2, none⟩ = some (.slice (some ⟨vb, vo, none⟩) un uc)) (by kernel_rfl) (by rw [Hwd.out]; exact s1) (fun _ => ?_)
            rw [Hwd.out]
            refine anyH_take (i := 0) (d := 135) (v := ?vl0) rfl rfl (by kernel_rfl) (by kernel_rfl) (by kernel_rfl) (fun _ _ _ h => h) (Or.inl ⟨by rfl, ?vly0⟩) s1 ?vlr0
            case vly0 => (intro w; go_simp; try with_reducible rfl)
            simp only [List.setIfInBounds_toArray, List.set_cons_zero, List.set_cons_succ]
            refine anyH_take (i := 2) (d := 137) (v := ?vl2) rfl rfl (by kernel_rfl) (by kernel_rfl) (by kernel_rfl) (fun _ _ _ h => h) (Or.inl ⟨by rfl, ?vly2⟩) s1 ?vlr2
            case vly2 => (intro w; go_simp; try with_reducible rfl)
            simp only [List.setIfInBounds_toArray, List.set_cons_zero, List.set_cons_succ]
            refine anyH_take (i := 3) (d := 138) (v := ?vl3) rfl rfl (by kernel_rfl) (by kernel_rfl) (by kernel_rfl) (fun _ _ _ h => h) (Or.inl ⟨by rfl, ?vly3⟩) s1 ?vlr3
            case vly3 => (intro w; go_simp; try with_reducible rfl)
            simp only [List.setIfInBounds_toArray, List.set_cons_zero, List.set_cons_succ]
            refine anyH_take (i := 5) (d := 140) (v := ?vl5) rfl rfl (by kernel_rfl) (by kernel_rfl) (by kernel_rfl) (fun _ _ _ h => h) (Or.inl ⟨by rfl, ?vly5⟩) s1 ?vlr5
            case vly5 => (intro w; go_simp; try with_reducible rfl)
            simp only [List.setIfInBounds_toArray, List.set_cons_zero, List.set_cons_succ]
            refine wpAnyH_take' (i := 1) (d := 136) (v := ?vl1) rfl rfl (by kernel_rfl) (by kernel_rfl) (by kernel_rfl) (fun _ _ _ h => h) (Or.inl ⟨by rfl, ?vly1⟩) s1 ?vlr1
            case vly1 => (intro w hSw; go_split_ands; go_simp; try with_reducible rfl)
            simp only [List.setIfInBounds_toArray, List.set_cons_zero, List.set_cons_succ]
            refine wpAnyH_take' (i := 4) (d := 139) (v := ?vl4) rfl rfl (by kernel_rfl) (by kernel_rfl) (by kernel_rfl) (fun _ _ _ h => h) (Or.inl ⟨by rfl, ?vly4⟩) s1 ?vlr4
            case vly4 => (intro w hSw; go_split_ands; go_simp; try with_reducible rfl)
            simp only [List.setIfInBounds_toArray, List.set_cons_zero, List.set_cons_succ]
            refine anyH_take (i := 6) (d := 141) (v := ?vl6) rfl rfl (by kernel_rfl) (by kernel_rfl) (by kernel_rfl) (fun _ _ _ h => h) (Or.inl ⟨by rfl, ?vly6⟩) s1 ?vlr6
            case vly6 => (intro w; go_simp; try with_reducible rfl)
            simp only [List.setIfInBounds_toArray, List.set_cons_zero, List.set_cons_succ]
            refine anyH_one (i := 7) (by kernel_rfl) ?_
            refine wpOp_step rfl (fun K hK => ?_)
            go_simp
            refine hK _ _ ⟨s1, ?_⟩
            clear hK K
            refine anyH_take (i := 8) (d := 143) (v := .int .u8 nz) rfl rfl (by kernel_rfl) (by kernel_rfl) (by kernel_rfl) (fun _ _ _ h => h) (Or.inl ⟨by rfl, ?vly8⟩) s1 ?vlr8
            case vly8 => (intro w; have hq := hnv; go_simp; try with_reducible rfl)
            simp only [List.setIfInBounds_toArray, List.set_cons_zero, List.set_cons_succ]
            refine anyH_take (i := 9) (d := 144) (v := ?vl9) rfl rfl (by kernel_rfl) (by kernel_rfl) (by kernel_rfl) (fun _ _ _ h => h) (Or.inl ⟨by rfl, ?vly9⟩) s1 ?vlr9
            case vly9 => (intro w; go_simp; try with_reducible rfl)
            simp only [List.setIfInBounds_toArray, List.set_cons_zero, List.set_cons_succ]
            refine anyH_one (i := 10) (by kernel_rfl) ?_
            refine wpOp_step rfl (fun KK hK => ?_)
            go_simp
            try rw [hws]
            refine hK _ _ ⟨s4, ?_⟩
            clear hK KK
            refine wpAnyH_done (by kernel_rfl) ?_ _
            clear hws hnv cv fv s1 s4
            go_wp2
            go_roundw
            case rel => exact ⟨j + 1, by omega, by go_num, HL.out⟩
            case measure => simp [intOf]; omega
          · have hje : j = un := by omega
            have j1 : ¬ (j : Int) < un := by omega
            have HZ := Lib.hid hTl
            have HZ7 := Lib.hid hBl
            clear hTl hBl hXl hWl
            have hAt : Tri w wr.drew (fun _ => False) ga gb go b2 b2 (q + 1) := (HZ.out.less fun i (hi : False) => hi.elim).below (Below.refl _ _).drew
            have s1 : wr.drew.cell? ⟨wo.heap.size, 2, none⟩ = some (.int .i64 sx) := HZ7.out.cell rfl
            have HA := Lib.hid (And.intro hAt (show Blk wr.drew wo.heap.size 31 [.int .i64 kd, .int .i64 ax, .int .i64 sx, .int .i64 y.x.fr, .int .i64 y.x.to, .slice y.a y.n y.c] from HZ7.out))
            clear hAt
            obtain ⟨bn, hbn⟩ : ∃ bn, b2 = bn := ⟨_, rfl⟩
            rw [hbn] at HA
            have Hbn := Lib.hid hbn
            clear hbn
            obtain ⟨En, hEn⟩ : ∃ En, nextB bn sx = En := ⟨_, rfl⟩
            have HEn := Lib.hid hEn
            clear hEn
            have hn1 : (En != En) = false := by simp
            obtain ⟨ln, hln⟩ : ∃ ln, bn.l.length = ln := ⟨_, rfl⟩
            have Hln := Lib.hid hln
            clear hln
            have hn2 : ((ln : Int) != (ln : Int)) = false := by simp
            obtain ⟨sn, hsn⟩ : ∃ sn, bn.sent = sn := ⟨_, rfl⟩
            have Hsn := Lib.hid hsn
            clear hsn
            have hn3 : ((sn : Int) != (sn : Int)) = false := by simp
            obtain ⟨on, hon⟩ : ∃ on, bn.lost = on := ⟨_, rfl⟩
            have Hon := Lib.hid hon
            clear hon
            have hn4 : ((on : Int) != (on : Int)) = false := by simp
            obtain ⟨wq, hwq⟩ : ∃ wq, wr.drew = wq := ⟨_, rfl⟩
            rw [hwq] at HA s1
            have Hwq := Lib.hid hwq
            clear hwq
            go_wp2
            refine wp_region_held_drew (S := fun W => W.cell? ⟨wo.heap.size, 2, none⟩ = some (.int .i64 sx)) (by kernel_rfl) (by rw [Hwq.out]; exact s1) (fun _ => ?_)
            rw [Hwq.out]
            refine anyH_take (i := 0) (d := 156) (v := ?vn0) rfl rfl (by kernel_rfl) (by kernel_rfl) (by kernel_rfl) (fun _ _ _ h => h) (Or.inl ⟨by rfl, ?vny0⟩) s1 ?vnr0
            case vny0 => (intro w; go_simp; try with_reducible rfl)
            simp only [List.setIfInBounds_toArray, List.set_cons_zero, List.set_cons_succ]
            refine anyH_take (i := 1) (d := 157) (v := ?vn1) rfl rfl (by kernel_rfl) (by kernel_rfl) (by kernel_rfl) (fun _ _ _ h => h) (Or.inl ⟨by rfl, ?vny1⟩) s1 ?vnr1
            case vny1 => (intro w; go_simp; try with_reducible rfl)
            simp only [List.setIfInBounds_toArray, List.set_cons_zero, List.set_cons_succ]
            refine anyH_take (i := 4) (d := 160) (v := ?vn4) rfl rfl (by kernel_rfl) (by kernel_rfl) (by kernel_rfl) (fun _ _ _ h => h) (Or.inl ⟨by rfl, ?vny4⟩) s1 ?vnr4
            case vny4 => (intro w; go_simp; try with_reducible rfl)
            simp only [List.setIfInBounds_toArray, List.set_cons_zero, List.set_cons_succ]
            refine anyH_take (i := 5) (d := 161) (v := ?vn5) rfl rfl (by kernel_rfl) (by kernel_rfl) (by kernel_rfl) (fun _ _ _ h => h) (Or.inl ⟨by rfl, ?vny5⟩) s1 ?vnr5
            case vny5 => (intro w; go_simp; try with_reducible rfl)
            simp only [List.setIfInBounds_toArray, List.set_cons_zero, List.set_cons_succ]
            refine wpAnyH_take' (i := 2) (d := 158) (v := ?vn2) rfl rfl (by kernel_rfl) (by kernel_rfl) (by kernel_rfl) (fun _ _ _ h => h) (Or.inl ⟨by rfl, ?vny2⟩) s1 ?vnr2
            case vny2 => (intro w hSw; go_split_ands; go_simp; try with_reducible rfl)
            simp only [List.setIfInBounds_toArray, List.set_cons_zero, List.set_cons_succ]
            refine wpAnyH_take' (i := 6) (d := 162) (v := ?vn6) rfl rfl (by kernel_rfl) (by kernel_rfl) (by kernel_rfl) (fun _ _ _ h => h) (Or.inl ⟨by rfl, ?vny6⟩) s1 ?vnr6
            case vny6 => (intro w hSw; go_split_ands; go_simp; try with_reducible rfl)
            simp only [List.setIfInBounds_toArray, List.set_cons_zero, List.set_cons_succ]
            refine anyH_one (i := 3) (by kernel_rfl) ?_
            refine wpOp_step rfl (fun KK hK => ?_)
            go_simp
            obtain ⟨U, V, O, bo, qq⟩ := HA.out.1
            have hnx := next_any qq.a sx
            rw [HEn.out] at hnx
            refine hnx.mono ?_
            rintro e wn ⟨rfl, hb⟩
            clear hnx qq
            have s2 : wn.cell? ⟨wo.heap.size, 2, none⟩ = some (.int .i64 sx) := (HA.out.2.below hb HA.out.2.lt).cell rfl
            have HN := Lib.hid (HA.out.1.below hb)
            clear hb
            refine hK _ _ ⟨s2, ?_⟩
            clear hK KK
            refine anyH_one (i := 7) (by kernel_rfl) ?_
            refine wpOp_step rfl (fun KK hK => ?_)
            go_simp
            obtain ⟨U, V, O, bo, qq⟩ := HN.out
            have hnx := rnext_any qq.b sx
            rw [HEn.out] at hnx
            refine hnx.mono ?_
            rintro e wn ⟨rfl, rfl⟩
            clear hnx qq
            refine hK _ _ ⟨s2, ?_⟩
            clear hK KK
            refine anyH_take (i := 8) (d := 164) (v := .bool false) rfl rfl (by kernel_rfl) (by kernel_rfl) (by kernel_rfl) (fun _ _ _ h => h) (Or.inl ⟨by rfl, ?vny8⟩) s2 ?vnr8
            case vny8 => (intro w; have hq := hn1; go_simp; try with_reducible rfl)
            simp only [List.setIfInBounds_toArray, List.set_cons_zero, List.set_cons_succ]
            refine anyH_take (i := 9) (d := 165) (v := ?vn9) rfl rfl (by kernel_rfl) (by kernel_rfl) (by kernel_rfl) (fun _ _ _ h => h) (Or.inl ⟨by rfl, ?vny9⟩) s2 ?vnr9
            case vny9 => (intro w; go_simp; try with_reducible rfl)
            simp only [List.setIfInBounds_toArray, List.set_cons_zero, List.set_cons_succ]
            refine anyH_take (i := 10) (d := 166) (v := ?vn10) rfl rfl (by kernel_rfl) (by kernel_rfl) (by kernel_rfl) (fun _ _ _ h => h) (Or.inl ⟨by rfl, ?vny10⟩) s2 ?vnr10
            case vny10 => (intro w; go_simp; try with_reducible rfl)
            simp only [List.setIfInBounds_toArray, List.set_cons_zero, List.set_cons_succ]
            refine anyH_take (i := 12) (d := 168) (v := ?vn12) rfl rfl (by kernel_rfl) (by kernel_rfl) (by kernel_rfl) (fun _ _ _ h => h) (Or.inl ⟨by rfl, ?vny12⟩) s2 ?vnr12
            case vny12 => (intro w; go_simp; try with_reducible rfl)
            simp only [List.setIfInBounds_toArray, List.set_cons_zero, List.set_cons_succ]
            refine anyH_one (i := 11) (by kernel_rfl) ?_
            refine wpOp_step rfl (fun KK hK => ?_)
            go_simp
            obtain ⟨U, V, O, bo, qq⟩ := HN.out
            have hnx := blen_any qq.a ln Hln.out
            refine hnx.mono ?_
            rintro e wn ⟨rfl, rfl⟩
            clear hnx qq
            refine hK _ _ ⟨s2, ?_⟩
            clear hK KK
            refine anyH_one (i := 13) (by kernel_rfl) ?_
            refine wpOp_step rfl (fun KK hK => ?_)
            go_simp
            obtain ⟨U, V, O, bo, qq⟩ := HN.out
            have hnx := rlen_any qq.b ln Hln.out
            refine hnx.mono ?_
            rintro e wn ⟨rfl, rfl⟩
            clear hnx qq
            refine hK _ _ ⟨s2, ?_⟩
            clear hK KK
            refine anyH_take (i := 14) (d := 170) (v := .bool false) rfl rfl (by kernel_rfl) (by kernel_rfl) (by kernel_rfl) (fun _ _ _ h => h) (Or.inl ⟨by rfl, ?vny14⟩) s2 ?vnr14
            case vny14 => (intro w; have hq := hn2; go_simp; try with_reducible rfl)
            simp only [List.setIfInBounds_toArray, List.set_cons_zero, List.set_cons_succ]
            refine anyH_take (i := 15) (d := 171) (v := ?vn15) rfl rfl (by kernel_rfl) (by kernel_rfl) (by kernel_rfl) (fun _ _ _ h => h) (Or.inl ⟨by rfl, ?vny15⟩) s2 ?vnr15
            case vny15 => (intro w; go_simp; try with_reducible rfl)
            simp only [List.setIfInBounds_toArray, List.set_cons_zero, List.set_cons_succ]
            refine anyH_take (i := 16) (d := 172) (v := ?vn16) rfl rfl (by kernel_rfl) (by kernel_rfl) (by kernel_rfl) (fun _ _ _ h => h) (Or.inl ⟨by rfl, ?vny16⟩) s2 ?vnr16
            case vny16 => (intro w; go_simp; try with_reducible rfl)
            simp only [List.setIfInBounds_toArray, List.set_cons_zero, List.set_cons_succ]
            refine anyH_take (i := 17) (d := 173) (v := ?vn17) rfl rfl (by kernel_rfl) (by kernel_rfl) (by kernel_rfl) (fun _ _ _ h => h) (Or.inl ⟨by rfl, ?vny17⟩) s2 ?vnr17
            case vny17 => (intro w; go_simp; try with_reducible rfl)
            simp only [List.setIfInBounds_toArray, List.set_cons_zero, List.set_cons_succ]
            refine anyH_take (i := 19) (d := 175) (v := ?vn19) rfl rfl (by kernel_rfl) (by kernel_rfl) (by kernel_rfl) (fun _ _ _ h => h) (Or.inl ⟨by rfl, ?vny19⟩) s2 ?vnr19
            case vny19 => (intro w; go_simp; try with_reducible rfl)
            simp only [List.setIfInBounds_toArray, List.set_cons_zero, List.set_cons_succ]
            refine anyH_one (i := 18) (by kernel_rfl) ?_
            refine wpOp_step rfl (fun KK hK => ?_)
            go_simp
            obtain ⟨U, V, O, bo, qq⟩ := HN.out
            have hnx := bsent_any qq.a
            rw [Hsn.out] at hnx
            refine hnx.mono ?_
            rintro e wn ⟨rfl, rfl⟩
            clear hnx qq
            refine hK _ _ ⟨s2, ?_⟩
            clear hK KK
            refine anyH_one (i := 20) (by kernel_rfl) ?_
            refine wpOp_step rfl (fun KK hK => ?_)
            go_simp
            obtain ⟨U, V, O, bo, qq⟩ := HN.out
            have hnx := rsent_any qq.b
            rw [Hsn.out] at hnx
            refine hnx.mono ?_
            rintro e wn ⟨rfl, rfl⟩
            clear hnx qq
            refine hK _ _ ⟨s2, ?_⟩
            clear hK KK
            refine anyH_take (i := 21) (d := 177) (v := .bool false) rfl rfl (by kernel_rfl) (by kernel_rfl) (by kernel_rfl) (fun _ _ _ h => h) (Or.inl ⟨by rfl, ?vny21⟩) s2 ?vnr21
            case vny21 => (intro w; have hq := hn3; go_simp; try with_reducible rfl)
            simp only [List.setIfInBounds_toArray, List.set_cons_zero, List.set_cons_succ]
            refine anyH_take (i := 22) (d := 178) (v := ?vn22) rfl rfl (by kernel_rfl) (by kernel_rfl) (by kernel_rfl) (fun _ _ _ h => h) (Or.inl ⟨by rfl, ?vny22⟩) s2 ?vnr22
            case vny22 => (intro w; go_simp; try with_reducible rfl)
            simp only [List.setIfInBounds_toArray, List.set_cons_zero, List.set_cons_succ]
            refine anyH_take (i := 23) (d := 179) (v := ?vn23) rfl rfl (by kernel_rfl) (by kernel_rfl) (by kernel_rfl) (fun _ _ _ h => h) (Or.inl ⟨by rfl, ?vny23⟩) s2 ?vnr23
            case vny23 => (intro w; go_simp; try with_reducible rfl)
            simp only [List.setIfInBounds_toArray, List.set_cons_zero, List.set_cons_succ]
            refine anyH_take (i := 24) (d := 180) (v := ?vn24) rfl rfl (by kernel_rfl) (by kernel_rfl) (by kernel_rfl) (fun _ _ _ h => h) (Or.inl ⟨by rfl, ?vny24⟩) s2 ?vnr24
            case vny24 => (intro w; go_simp; try with_reducible rfl)
            simp only [List.setIfInBounds_toArray, List.set_cons_zero, List.set_cons_succ]
            refine anyH_take (i := 26) (d := 182) (v := ?vn26) rfl rfl (by kernel_rfl) (by kernel_rfl) (by kernel_rfl) (fun _ _ _ h => h) (Or.inl ⟨by rfl, ?vny26⟩) s2 ?vnr26
            case vny26 => (intro w; go_simp; try with_reducible rfl)
            simp only [List.setIfInBounds_toArray, List.set_cons_zero, List.set_cons_succ]
            refine anyH_one (i := 25) (by kernel_rfl) ?_
            refine wpOp_step rfl (fun KK hK => ?_)
            go_simp
            obtain ⟨U, V, O, bo, qq⟩ := HN.out
            have hnx := blost_any qq.a
            rw [Hon.out] at hnx
            refine hnx.mono ?_
            rintro e wn ⟨rfl, rfl⟩
            clear hnx qq
            refine hK _ _ ⟨s2, ?_⟩
            clear hK KK
            refine anyH_one (i := 27) (by kernel_rfl) ?_
            refine wpOp_step rfl (fun KK hK => ?_)
            go_simp
            obtain ⟨U, V, O, bo, qq⟩ := HN.out
            have hnx := rlost_any qq.b
            rw [Hon.out] at hnx
            refine hnx.mono ?_
            rintro e wn ⟨rfl, rfl⟩
            clear hnx qq
            refine hK _ _ ⟨s2, ?_⟩
            clear hK KK
            refine anyH_take (i := 28) (d := 184) (v := .bool false) rfl rfl (by kernel_rfl) (by kernel_rfl) (by kernel_rfl) (fun _ _ _ h => h) (Or.inl ⟨by rfl, ?vny28⟩) s2 ?vnr28
            case vny28 => (intro w; have hq := hn4; go_simp; try with_reducible rfl)
            simp only [List.setIfInBounds_toArray, List.set_cons_zero, List.set_cons_succ]
            refine anyH_take (i := 29) (d := 185) (v := ?vn29) rfl rfl (by kernel_rfl) (by kernel_rfl) (by kernel_rfl) (fun _ _ _ h => h) (Or.inl ⟨by rfl, ?vny29⟩) s2 ?vnr29
            case vny29 => (intro w; go_simp; try with_reducible rfl)
            simp only [List.setIfInBounds_toArray, List.set_cons_zero, List.set_cons_succ]
            refine wpAnyH_done (by kernel_rfl) ?_ _
            go_wp2
            go_roundw
            case rel => exact ⟨q + 1, bn, by omega, by omega, by go_num, HN.out, by rw [← Hbn.out]; omega, by rw [← Hbn.out]; omega⟩
            case measure => simp [intOf]; omega
      · have hd2 : Below w2.heap.size w2 w2.drew := (Below.refl _ _).drew
        have T2d := H2.out.1.below hd2
        have B2d := H2.out.2.1.below hd2 H2.out.2.1.lt
        obtain ⟨wd, hwd⟩ : ∃ wd, w2.drew = wd := ⟨_, rfl⟩
        rw [hwd] at T2d B2d
        have s1 : wd.cell? ⟨wo.heap.size, 1, none⟩ = some (.int .i64 ax) := B2d.cell rfl
        obtain ⟨E, hE⟩ : ∃ E, lackE b ax = E := ⟨_, rfl⟩
        obtain ⟨b2, hb2⟩ : ∃ b2, dropB b ax = b2 := ⟨_, rfl⟩
        have hbs := drop_sent b ax
        rw [hb2] at hbs
        have HX := Lib.hid (And.intro T2d (And.intro B2d (And.intro hwd (And.intro hE hb2))))
        have hEE : (E != E) = false := by simp
        clear hd2 T2d B2d hwd hE hb2
        go_wp2
        refine wp_region_held_drew (S := fun W => W.cell? ⟨wo.heap.size, 1, none⟩ = some (.int .i64 ax)) (by kernel_rfl) (by rw [HX.out.2.2.1]; exact s1) (fun _ => ?_)
        rw [HX.out.2.2.1]
        refine anyH_take (i := 0) (d := 147) (v := ?g0) rfl rfl (by kernel_rfl) (by kernel_rfl) (by kernel_rfl) (fun _ _ _ h => h) (Or.inl ⟨by rfl, ?gy0⟩) s1 ?gr0
        case gy0 => (intro w; go_simp; try with_reducible rfl)
        simp only [List.setIfInBounds_toArray, List.set_cons_zero, List.set_cons_succ]
        refine anyH_take (i := 1) (d := 148) (v := ?g1) rfl rfl (by kernel_rfl) (by kernel_rfl) (by kernel_rfl) (fun _ _ _ h => h) (Or.inl ⟨by rfl, ?gy1⟩) s1 ?gr1
        case gy1 => (intro w; go_simp; try with_reducible rfl)
        simp only [List.setIfInBounds_toArray, List.set_cons_zero, List.set_cons_succ]
        refine anyH_take (i := 4) (d := 151) (v := ?g4) rfl rfl (by kernel_rfl) (by kernel_rfl) (by kernel_rfl) (fun _ _ _ h => h) (Or.inl ⟨by rfl, ?gy4⟩) s1 ?gr4
        case gy4 => (intro w; go_simp; try with_reducible rfl)
        simp only [List.setIfInBounds_toArray, List.set_cons_zero, List.set_cons_succ]
        refine anyH_take (i := 5) (d := 152) (v := ?g5) rfl rfl (by kernel_rfl) (by kernel_rfl) (by kernel_rfl) (fun _ _ _ h => h) (Or.inl ⟨by rfl, ?gy5⟩) s1 ?gr5
        case gy5 => (intro w; go_simp; try with_reducible rfl)
        simp only [List.setIfInBounds_toArray, List.set_cons_zero, List.set_cons_succ]
        refine wpAnyH_take' (i := 2) (d := 149) (v := ?g2) rfl rfl (by kernel_rfl) (by kernel_rfl) (by kernel_rfl) (fun _ _ _ h => h) (Or.inl ⟨by rfl, ?gy2⟩) s1 ?gr2
        case gy2 => (intro w hSw; go_split_ands; go_simp; try with_reducible rfl)
        simp only [List.setIfInBounds_toArray, List.set_cons_zero, List.set_cons_succ]
        refine wpAnyH_take' (i := 6) (d := 153) (v := ?g6) rfl rfl (by kernel_rfl) (by kernel_rfl) (by kernel_rfl) (fun _ _ _ h => h) (Or.inl ⟨by rfl, ?gy6⟩) s1 ?gr6
        case gy6 => (intro w hSw; go_split_ands; go_simp; try with_reducible rfl)
        simp only [List.setIfInBounds_toArray, List.set_cons_zero, List.set_cons_succ]
        refine anyH_one (i := 3) (by kernel_rfl) ?_
        refine wpOp_step rfl (fun KK hK => ?_)
        go_simp
        refine (ta_drop (ba' := b2) (E := E) HX.out.1 ax (by omega) HX.out.2.2.2.1 HX.out.2.2.2.2).mono ?_
        rintro e w5 ⟨rfl, hT5, hO5⟩
        have B75 := hO5.blk HX.out.2.1 fun e => e rfl
        have s5 : w5.cell? ⟨wo.heap.size, 1, none⟩ = some (.int .i64 ax) := B75.cell rfl
        have H5 := Lib.hid (And.intro hT5 B75)
        clear hT5 hO5 B75
        refine hK _ _ ⟨s5, ?_⟩
        clear hK KK
        refine anyH_one (i := 7) (by kernel_rfl) ?_
        refine wpOp_step rfl (fun KK hK => ?_)
        go_simp
        refine (tb_drop (bb' := b2) (E := E) H5.out.1 ax (by omega) HX.out.2.2.2.1 HX.out.2.2.2.2).mono ?_
        rintro e w6 ⟨rfl, hT6, hO6⟩
        have B76 := hO6.blk H5.out.2 fun e => e rfl
        have t6 : w6.cell? ⟨wo.heap.size, 1, none⟩ = some (.int .i64 ax) := B76.cell rfl
        have HZ := Lib.hid hT6
        have HZ7 := Lib.hid B76
        clear hT6 hO6 B76
        refine hK _ _ ⟨t6, ?_⟩
        clear hK KK
        refine anyH_take (i := 8) (d := 155) (v := .bool false) rfl rfl (by kernel_rfl) (by kernel_rfl) (by kernel_rfl) (fun _ _ _ h => h) (Or.inl ⟨by rfl, ?gy8⟩) t6 ?gr8
        case gy8 => (intro w; have hq := hEE; go_simp; try with_reducible rfl)
        simp only [List.setIfInBounds_toArray, List.set_cons_zero, List.set_cons_succ]
        refine wpAnyH_done (by kernel_rfl) ?_ _
        clear t6 s5 s1
        have hAt : Tri w w6.drew (fun _ => False) ga gb go b2 b2 (q + 1) := (HZ.out.less fun i (hi : False) => hi.elim).below (Below.refl _ _).drew
        have s1 : w6.drew.cell? ⟨wo.heap.size, 2, none⟩ = some (.int .i64 sx) := HZ7.out.cell rfl
        have HA := Lib.hid (And.intro hAt (show Blk w6.drew wo.heap.size 31 [.int .i64 kd, .int .i64 ax, .int .i64 sx, .int .i64 y.x.fr, .int .i64 y.x.to, .slice y.a y.n y.c] from HZ7.out))
        clear hAt
        obtain ⟨bn, hbn⟩ : ∃ bn, b2 = bn := ⟨_, rfl⟩
        rw [hbn] at HA
        have Hbn := Lib.hid hbn
        clear hbn
        obtain ⟨En, hEn⟩ : ∃ En, nextB bn sx = En := ⟨_, rfl⟩
        have HEn := Lib.hid hEn
        clear hEn
        have hn1 : (En != En) = false := by simp
        obtain ⟨ln, hln⟩ : ∃ ln, bn.l.length = ln := ⟨_, rfl⟩
        have Hln := Lib.hid hln
        clear hln
        have hn2 : ((ln : Int) != (ln : Int)) = false := by simp
        obtain ⟨sn, hsn⟩ : ∃ sn, bn.sent = sn := ⟨_, rfl⟩
        have Hsn := Lib.hid hsn
        clear hsn
        have hn3 : ((sn : Int) != (sn : Int)) = false := by simp
        obtain ⟨on, hon⟩ : ∃ on, bn.lost = on := ⟨_, rfl⟩
        have Hon := Lib.hid hon
        clear hon
        have hn4 : ((on : Int) != (on : Int)) = false := by simp
        obtain ⟨wq, hwq⟩ : ∃ wq, w6.drew = wq := ⟨_, rfl⟩
        rw [hwq] at HA s1
        have Hwq := Lib.hid hwq
        clear hwq
        go_wp2
        refine wp_region_held_drew (S := fun W => W.cell? ⟨wo.heap.size, 2, none⟩ = some (.int .i64 sx)) (by kernel_rfl) (by rw [Hwq.out]; exact s1) (fun _ => ?_)
        rw [Hwq.out]
        refine anyH_take (i := 0) (d := 156) (v := ?gn0) rfl rfl (by kernel_rfl) (by kernel_rfl) (by kernel_rfl) (fun _ _ _ h => h) (Or.inl ⟨by rfl, ?gny0⟩) s1 ?gnr0
        case gny0 => (intro w; go_simp; try with_reducible rfl)
        simp only [List.setIfInBounds_toArray, List.set_cons_zero, List.set_cons_succ]
        refine anyH_take (i := 1) (d := 157) (v := ?gn1) rfl rfl (by kernel_rfl) (by kernel_rfl) (by kernel_rfl) (fun _ _ _ h => h) (Or.inl ⟨by rfl, ?gny1⟩) s1 ?gnr1
        case gny1 => (intro w; go_simp; try with_reducible rfl)
        simp only [List.setIfInBounds_toArray, List.set_cons_zero, List.set_cons_succ]
        refine anyH_take (i := 4) (d := 160) (v := ?gn4) rfl rfl (by kernel_rfl) (by kernel_rfl) (by kernel_rfl) (fun _ _ _ h => h) (Or.inl ⟨by rfl, ?gny4⟩) s1 ?gnr4
        case gny4 => (intro w; go_simp; try with_reducible rfl)
        simp only [List.setIfInBounds_toArray, List.set_cons_zero, List.set_cons_succ]
        refine anyH_take (i := 5) (d := 161) (v := ?gn5) rfl rfl (by kernel_rfl) (by kernel_rfl) (by kernel_rfl) (fun _ _ _ h => h) (Or.inl ⟨by rfl, ?gny5⟩) s1 ?gnr5
        case gny5 => (intro w; go_simp; try with_reducible rfl)
        simp only [List.setIfInBounds_toArray, List.set_cons_zero, List.set_cons_succ]
        refine wpAnyH_take' (i := 2) (d := 158) (v := ?gn2) rfl rfl (by kernel_rfl) (by kernel_rfl) (by kernel_rfl) (fun _ _ _ h => h) (Or.inl ⟨by rfl, ?gny2⟩) s1 ?gnr2
        case gny2 => (intro w hSw; go_split_ands; go_simp; try with_reducible rfl)
        simp only [List.setIfInBounds_toArray, List.set_cons_zero, List.set_cons_succ]
        refine wpAnyH_take' (i := 6) (d := 162) (v := ?gn6) rfl rfl (by kernel_rfl) (by kernel_rfl) (by kernel_rfl) (fun _ _ _ h => h) (Or.inl ⟨by rfl, ?gny6⟩) s1 ?gnr6
        case gny6 => (intro w hSw; go_split_ands; go_simp; try with_reducible rfl)
        simp only [List.setIfInBounds_toArray, List.set_cons_zero, List.set_cons_succ]
        refine anyH_one (i := 3) (by kernel_rfl) ?_
        refine wpOp_step rfl (fun KK hK => ?_)
        go_simp
        obtain ⟨U, V, O, bo, qq⟩ := HA.out.1
        have hnx := next_any qq.a sx
        rw [HEn.out] at hnx
        refine hnx.mono ?_
        rintro e wn ⟨rfl, hb⟩
        clear hnx qq
        have s2 : wn.cell? ⟨wo.heap.size, 2, none⟩ = some (.int .i64 sx) := (HA.out.2.below hb HA.out.2.lt).cell rfl
        have HN := Lib.hid (HA.out.1.below hb)
        clear hb
        refine hK _ _ ⟨s2, ?_⟩
        clear hK KK
        refine anyH_one (i := 7) (by kernel_rfl) ?_
        refine wpOp_step rfl (fun KK hK => ?_)
        go_simp
        obtain ⟨U, V, O, bo, qq⟩ := HN.out
        have hnx := rnext_any qq.b sx
        rw [HEn.out] at hnx
        refine hnx.mono ?_
        rintro e wn ⟨rfl, rfl⟩
        clear hnx qq
        refine hK _ _ ⟨s2, ?_⟩
        clear hK KK
        refine anyH_take (i := 8) (d := 164) (v := .bool false) rfl rfl (by kernel_rfl) (by kernel_rfl) (by kernel_rfl) (fun _ _ _ h => h) (Or.inl ⟨by rfl, ?gny8⟩) s2 ?gnr8
        case gny8 => (intro w; have hq := hn1; go_simp; try with_reducible rfl)
        simp only [List.setIfInBounds_toArray, List.set_cons_zero, List.set_cons_succ]
        refine anyH_take (i := 9) (d := 165) (v := ?gn9) rfl rfl (by kernel_rfl) (by kernel_rfl) (by kernel_rfl) (fun _ _ _ h => h) (Or.inl ⟨by rfl, ?gny9⟩) s2 ?gnr9
        case gny9 => (intro w; go_simp; try with_reducible rfl)
        simp only [List.setIfInBounds_toArray, List.set_cons_zero, List.set_cons_succ]
        refine anyH_take (i := 10) (d := 166) (v := ?gn10) rfl rfl (by kernel_rfl) (by kernel_rfl) (by kernel_rfl) (fun _ _ _ h => h) (Or.inl ⟨by rfl, ?gny10⟩) s2 ?gnr10
        case gny10 => (intro w; go_simp; try with_reducible rfl)
        simp only [List.setIfInBounds_toArray, List.set_cons_zero, List.set_cons_succ]
        refine anyH_take (i := 12) (d := 168) (v := ?gn12) rfl rfl (by kernel_rfl) (by kernel_rfl) (by kernel_rfl) (fun _ _ _ h => h) (Or.inl ⟨by rfl, ?gny12⟩) s2 ?gnr12
        case gny12 => (intro w; go_simp; try with_reducible rfl)
        simp only [List.setIfInBounds_toArray, List.set_cons_zero, List.set_cons_succ]
        refine anyH_one (i := 11) (by kernel_rfl) ?_
        refine wpOp_step rfl (fun KK hK => ?_)
        go_simp
        obtain ⟨U, V, O, bo, qq⟩ := HN.out
        have hnx := blen_any qq.a ln Hln.out
        refine hnx.mono ?_
        rintro e wn ⟨rfl, rfl⟩
        clear hnx qq
        refine hK _ _ ⟨s2, ?_⟩
        clear hK KK
        refine anyH_one (i := 13) (by kernel_rfl) ?_
        refine wpOp_step rfl (fun KK hK => ?_)
        go_simp
        obtain ⟨U, V, O, bo, qq⟩ := HN.out
        have hnx := rlen_any qq.b ln Hln.out
        refine hnx.mono ?_
        rintro e wn ⟨rfl, rfl⟩
        clear hnx qq
        refine hK _ _ ⟨s2, ?_⟩
        clear hK KK
        refine anyH_take (i := 14) (d := 170) (v := .bool false) rfl rfl (by kernel_rfl) (by kernel_rfl) (by kernel_rfl) (fun _ _ _ h => h) (Or.inl ⟨by rfl, ?gny14⟩) s2 ?gnr14
        case gny14 => (intro w; have hq := hn2; go_simp; try with_reducible rfl)
        simp only [List.setIfInBounds_toArray, List.set_cons_zero, List.set_cons_succ]
        refine anyH_take (i := 15) (d := 171) (v := ?gn15) rfl rfl (by kernel_rfl) (by kernel_rfl) (by kernel_rfl) (fun _ _ _ h => h) (Or.inl ⟨by rfl, ?gny15⟩) s2 ?gnr15
        case gny15 => (intro w; go_simp; try with_reducible rfl)
        simp only [List.setIfInBounds_toArray, List.set_cons_zero, List.set_cons_succ]
        refine anyH_take (i := 16) (d := 172) (v := ?gn16) rfl rfl (by kernel_rfl) (by kernel_rfl) (by kernel_rfl) (fun _ _ _ h => h) (Or.inl ⟨by rfl, ?gny16⟩) s2 ?gnr16
        case gny16 => (intro w; go_simp; try with_reducible rfl)
        simp only [List.setIfInBounds_toArray, List.set_cons_zero, List.set_cons_succ]
        refine anyH_take (i := 17) (d := 173) (v := ?gn17) rfl rfl (by kernel_rfl) (by kernel_rfl) (by kernel_rfl) (fun _ _ _ h => h) (Or.inl ⟨by rfl, ?gny17⟩) s2 ?gnr17
        case gny17 => (intro w; go_simp; try with_reducible rfl)
        simp only [List.setIfInBounds_toArray, List.set_cons_zero, List.set_cons_succ]
        refine anyH_take (i := 19) (d := 175) (v := ?gn19) rfl rfl (by kernel_rfl) (by kernel_rfl) (by kernel_rfl) (fun _ _ _ h => h) (Or.inl ⟨by rfl, ?gny19⟩) s2 ?gnr19
        case gny19 => (intro w; go_simp; try with_reducible rfl)
        simp only [List.setIfInBounds_toArray, List.set_cons_zero, List.set_cons_succ]
        refine anyH_one (i := 18) (by kernel_rfl) ?_
        refine wpOp_step rfl (fun KK hK => ?_)
        go_simp
        obtain ⟨U, V, O, bo, qq⟩ := HN.out
        have hnx := bsent_any qq.a
        rw [Hsn.out] at hnx
        refine hnx.mono ?_
        rintro e wn ⟨rfl, rfl⟩
        clear hnx qq
        refine hK _ _ ⟨s2, ?_⟩
        clear hK KK
        refine anyH_one (i := 20) (by kernel_rfl) ?_
        refine wpOp_step rfl (fun KK hK => ?_)
        go_simp
        obtain ⟨U, V, O, bo, qq⟩ := HN.out
        have hnx := rsent_any qq.b
        rw [Hsn.out] at hnx
        refine hnx.mono ?_
        rintro e wn ⟨rfl, rfl⟩
        clear hnx qq
        refine hK _ _ ⟨s2, ?_⟩
        clear hK KK
        refine anyH_take (i := 21) (d := 177) (v := .bool false) rfl rfl (by kernel_rfl) (by kernel_rfl) (by kernel_rfl) (fun _ _ _ h => h) (Or.inl ⟨by rfl, ?gny21⟩) s2 ?gnr21
        case gny21 => (intro w; have hq := hn3; go_simp; try with_reducible rfl)
        simp only [List.setIfInBounds_toArray, List.set_cons_zero, List.set_cons_succ]
        refine anyH_take (i := 22) (d := 178) (v := ?gn22) rfl rfl (by kernel_rfl) (by kernel_rfl) (by kernel_rfl) (fun _ _ _ h => h) (Or.inl ⟨by rfl, ?gny22⟩) s2 ?gnr22
        case gny22 => (intro w; go_simp; try with_reducible rfl)
        simp only [List.setIfInBounds_toArray, List.set_cons_zero, List.set_cons_succ]
        refine anyH_take (i := 23) (d := 179) (v := ?gn23) rfl rfl (by kernel_rfl) (by kernel_rfl) (by kernel_rfl) (fun _ _ _ h => h) (Or.inl ⟨by rfl, ?gny23⟩) s2 ?gnr23
        case gny23 => (intro w; go_simp; try with_reducible rfl)
        simp only [List.setIfInBounds_toArray, List.set_cons_zero, List.set_cons_succ]
        refine anyH_take (i := 24) (d := 180) (v := ?gn24) rfl rfl (by kernel_rfl) (by kernel_rfl) (by kernel_rfl) (fun _ _ _ h => h) (Or.inl ⟨by rfl, ?gny24⟩) s2 ?gnr24
        case gny24 => (intro w; go_simp; try with_reducible rfl)
        simp only [List.setIfInBounds_toArray, List.set_cons_zero, List.set_cons_succ]
        refine anyH_take (i := 26) (d := 182) (v := ?gn26) rfl rfl (by kernel_rfl) (by kernel_rfl) (by kernel_rfl) (fun _ _ _ h => h) (Or.inl ⟨by rfl, ?gny26⟩) s2 ?gnr26
        case gny26 => (intro w; go_simp; try with_reducible rfl)
        simp only [List.setIfInBounds_toArray, List.set_cons_zero, List.set_cons_succ]
        refine anyH_one (i := 25) (by kernel_rfl) ?_
        refine wpOp_step rfl (fun KK hK => ?_)
        go_simp
        obtain ⟨U, V, O, bo, qq⟩ := HN.out
        have hnx := blost_any qq.a
        rw [Hon.out] at hnx
        refine hnx.mono ?_
        rintro e wn ⟨rfl, rfl⟩
        clear hnx qq
        refine hK _ _ ⟨s2, ?_⟩
        clear hK KK
        refine anyH_one (i := 27) (by kernel_rfl) ?_
        refine wpOp_step rfl (fun KK hK => ?_)
        go_simp
        obtain ⟨U, V, O, bo, qq⟩ := HN.out
        have hnx := rlost_any qq.b
        rw [Hon.out] at hnx
        refine hnx.mono ?_
        rintro e wn ⟨rfl, rfl⟩
        clear hnx qq
        refine hK _ _ ⟨s2, ?_⟩
        clear hK KK
        refine anyH_take (i := 28) (d := 184) (v := .bool false) rfl rfl (by kernel_rfl) (by kernel_rfl) (by kernel_rfl) (fun _ _ _ h => h) (Or.inl ⟨by rfl, ?gny28⟩) s2 ?gnr28
        case gny28 => (intro w; have hq := hn4; go_simp; try with_reducible rfl)
        simp only [List.setIfInBounds_toArray, List.set_cons_zero, List.set_cons_succ]
        refine anyH_take (i := 29) (d := 185) (v := ?gn29) rfl rfl (by kernel_rfl) (by kernel_rfl) (by kernel_rfl) (fun _ _ _ h => h) (Or.inl ⟨by rfl, ?gny29⟩) s2 ?gnr29
        case gny29 => (intro w; go_simp; try with_reducible rfl)
        simp only [List.setIfInBounds_toArray, List.set_cons_zero, List.set_cons_succ]
        refine wpAnyH_done (by kernel_rfl) ?_ _
        go_wp2
        go_roundw
        case rel => exact ⟨q + 1, bn, by omega, by omega, by go_num, HN.out, by rw [← Hbn.out]; omega, by rw [← Hbn.out]; omega⟩
        case measure => simp [intOf]; omega
      · have hd2 : Below w2.heap.size w2 w2.drew := (Below.refl _ _).drew
        have T2d := H2.out.1.below hd2
        have B2d := H2.out.2.1.below hd2 H2.out.2.1.lt
        obtain ⟨wd, hwd⟩ : ∃ wd, w2.drew = wd := ⟨_, rfl⟩
        rw [hwd] at T2d B2d
        have s1 : wd.cell? ⟨wo.heap.size, 1, none⟩ = some (.int .i64 ax) := B2d.cell rfl
        obtain ⟨E, hE⟩ : ∃ E, dblE b ax = E := ⟨_, rfl⟩
        obtain ⟨b2, hb2⟩ : ∃ b2, dblB b ax = b2 := ⟨_, rfl⟩
        have hbs := dbl_sent b ax
        rw [hb2] at hbs
        have HX := Lib.hid (And.intro T2d (And.intro B2d (And.intro hwd (And.intro hE hb2))))
        have hEE : (E != E) = false := by simp
        clear hd2 T2d B2d hwd hE hb2
        go_wp2
        refine wp_region_held_drew (S := fun W => W.cell? ⟨wo.heap.size, 1, none⟩ = some (.int .i64 ax)) (by kernel_rfl) (by rw [HX.out.2.2.1]; exact s1) (fun _ => ?_)
        rw [HX.out.2.2.1]
        refine anyH_take (i := 0) (d := 38) (v := ?h0) rfl rfl (by kernel_rfl) (by kernel_rfl) (by kernel_rfl) (fun _ _ _ h => h) (Or.inl ⟨by rfl, ?hy0⟩) s1 ?hr0
        case hy0 => (intro w; go_simp; try with_reducible rfl)
        simp only [List.setIfInBounds_toArray, List.set_cons_zero, List.set_cons_succ]
        refine anyH_take (i := 1) (d := 39) (v := ?h1) rfl rfl (by kernel_rfl) (by kernel_rfl) (by kernel_rfl) (fun _ _ _ h => h) (Or.inl ⟨by rfl, ?hy1⟩) s1 ?hr1
        case hy1 => (intro w; go_simp; try with_reducible rfl)
        simp only [List.setIfInBounds_toArray, List.set_cons_zero, List.set_cons_succ]
        refine anyH_take (i := 4) (d := 42) (v := ?h4) rfl rfl (by kernel_rfl) (by kernel_rfl) (by kernel_rfl) (fun _ _ _ h => h) (Or.inl ⟨by rfl, ?hy4⟩) s1 ?hr4
        case hy4 => (intro w; go_simp; try with_reducible rfl)
        simp only [List.setIfInBounds_toArray, List.set_cons_zero, List.set_cons_succ]
        refine anyH_take (i := 5) (d := 43) (v := ?h5) rfl rfl (by kernel_rfl) (by kernel_rfl) (by kernel_rfl) (fun _ _ _ h => h) (Or.inl ⟨by rfl, ?hy5⟩) s1 ?hr5
        case hy5 => (intro w; go_simp; try with_reducible rfl)
        simp only [List.setIfInBounds_toArray, List.set_cons_zero, List.set_cons_succ]
        refine wpAnyH_take' (i := 2) (d := 40) (v := ?h2) rfl rfl (by kernel_rfl) (by kernel_rfl) (by kernel_rfl) (fun _ _ _ h => h) (Or.inl ⟨by rfl, ?hy2⟩) s1 ?hr2
        case hy2 => (intro w hSw; go_split_ands; go_simp; try with_reducible rfl)
        simp only [List.setIfInBounds_toArray, List.set_cons_zero, List.set_cons_succ]
        refine wpAnyH_take' (i := 6) (d := 44) (v := ?h6) rfl rfl (by kernel_rfl) (by kernel_rfl) (by kernel_rfl) (fun _ _ _ h => h) (Or.inl ⟨by rfl, ?hy6⟩) s1 ?hr6
        case hy6 => (intro w hSw; go_split_ands; go_simp; try with_reducible rfl)
        simp only [List.setIfInBounds_toArray, List.set_cons_zero, List.set_cons_succ]
        refine anyH_one (i := 3) (by kernel_rfl) ?_
        refine wpOp_step rfl (fun KK hK => ?_)
        go_simp
        refine (ta_dbl (ba' := b2) (E := E) HX.out.1 ax (by omega) HX.out.2.2.2.1 HX.out.2.2.2.2).mono ?_
        rintro e w5 ⟨rfl, hT5, hO5⟩
        have B75 := hO5.blk HX.out.2.1 fun e => e rfl
        have s5 : w5.cell? ⟨wo.heap.size, 1, none⟩ = some (.int .i64 ax) := B75.cell rfl
        have H5 := Lib.hid (And.intro hT5 B75)
        clear hT5 hO5 B75
        refine hK _ _ ⟨s5, ?_⟩
        clear hK KK
        refine anyH_one (i := 7) (by kernel_rfl) ?_
        refine wpOp_step rfl (fun KK hK => ?_)
        go_simp
        refine (tb_dbl (bb' := b2) (E := E) H5.out.1 ax (by omega) HX.out.2.2.2.1 HX.out.2.2.2.2).mono ?_
        rintro e w6 ⟨rfl, hT6, hO6⟩
        have B76 := hO6.blk H5.out.2 fun e => e rfl
        have t6 : w6.cell? ⟨wo.heap.size, 1, none⟩ = some (.int .i64 ax) := B76.cell rfl
        have HZ := Lib.hid hT6
        have HZ7 := Lib.hid B76
        clear hT6 hO6 B76
        refine hK _ _ ⟨t6, ?_⟩
        clear hK KK
        refine anyH_take (i := 8) (d := 46) (v := .bool false) rfl rfl (by kernel_rfl) (by kernel_rfl) (by kernel_rfl) (fun _ _ _ h => h) (Or.inl ⟨by rfl, ?hy8⟩) t6 ?hr8
        case hy8 => (intro w; have hq := hEE; go_simp; try with_reducible rfl)
        simp only [List.setIfInBounds_toArray, List.set_cons_zero, List.set_cons_succ]
        refine wpAnyH_done (by kernel_rfl) ?_ _
        clear t6 s5 s1
        have hAt : Tri w w6.drew (fun _ => False) ga gb go b2 b2 (q + 1) := (HZ.out.less fun i (hi : False) => hi.elim).below (Below.refl _ _).drew
        have s1 : w6.drew.cell? ⟨wo.heap.size, 2, none⟩ = some (.int .i64 sx) := HZ7.out.cell rfl
        have HA := Lib.hid (And.intro hAt (show Blk w6.drew wo.heap.size 31 [.int .i64 kd, .int .i64 ax, .int .i64 sx, .int .i64 y.x.fr, .int .i64 y.x.to, .slice y.a y.n y.c] from HZ7.out))
        clear hAt
        obtain ⟨bn, hbn⟩ : ∃ bn, b2 = bn := ⟨_, rfl⟩
        rw [hbn] at HA
        have Hbn := Lib.hid hbn
        clear hbn
        obtain ⟨En, hEn⟩ : ∃ En, nextB bn sx = En := ⟨_, rfl⟩
        have HEn := Lib.hid hEn
        clear hEn
        have hn1 : (En != En) = false := by simp
        obtain ⟨ln, hln⟩ : ∃ ln, bn.l.length = ln := ⟨_, rfl⟩
        have Hln := Lib.hid hln
        clear hln
        have hn2 : ((ln : Int) != (ln : Int)) = false := by simp
        obtain ⟨sn, hsn⟩ : ∃ sn, bn.sent = sn := ⟨_, rfl⟩
        have Hsn := Lib.hid hsn
        clear hsn
        have hn3 : ((sn : Int) != (sn : Int)) = false := by simp
        obtain ⟨on, hon⟩ : ∃ on, bn.lost = on := ⟨_, rfl⟩
        have Hon := Lib.hid hon
        clear hon
        have hn4 : ((on : Int) != (on : Int)) = false := by simp
        obtain ⟨wq, hwq⟩ : ∃ wq, w6.drew = wq := ⟨_, rfl⟩
        rw [hwq] at HA s1
        have Hwq := Lib.hid hwq
        clear hwq
        go_wp2
        refine wp_region_held_drew (S := fun W => W.cell? ⟨wo.heap.size, 2, none⟩ = some (.int .i64 sx)) (by kernel_rfl) (by rw [Hwq.out]; exact s1) (fun _ => ?_)
        rw [Hwq.out]
        refine anyH_take (i := 0) (d := 156) (v := ?hn0) rfl rfl (by kernel_rfl) (by kernel_rfl) (by kernel_rfl) (fun _ _ _ h => h) (Or.inl ⟨by rfl, ?hny0⟩) s1 ?hnr0
        case hny0 => (intro w; go_simp; try with_reducible rfl)
        simp only [List.setIfInBounds_toArray, List.set_cons_zero, List.set_cons_succ]
        refine anyH_take (i := 1) (d := 157) (v := ?hn1) rfl rfl (by kernel_rfl) (by kernel_rfl) (by kernel_rfl) (fun _ _ _ h => h) (Or.inl ⟨by rfl, ?hny1⟩) s1 ?hnr1
        case hny1 => (intro w; go_simp; try with_reducible rfl)
        simp only [List.setIfInBounds_toArray, List.set_cons_zero, List.set_cons_succ]
        refine anyH_take (i := 4) (d := 160) (v := ?hn4) rfl rfl (by kernel_rfl) (by kernel_rfl) (by kernel_rfl) (fun _ _ _ h => h) (Or.inl ⟨by rfl, ?hny4⟩) s1 ?hnr4
        case hny4 => (intro w; go_simp; try with_reducible rfl)
        simp only [List.setIfInBounds_toArray, List.set_cons_zero, List.set_cons_succ]
        refine anyH_take (i := 5) (d := 161) (v := ?hn5) rfl rfl (by kernel_rfl) (by kernel_rfl) (by kernel_rfl) (fun _ _ _ h => h) (Or.inl ⟨by rfl, ?hny5⟩) s1 ?hnr5
        case hny5 => (intro w; go_simp; try with_reducible rfl)
        simp only [List.setIfInBounds_toArray, List.set_cons_zero, List.set_cons_succ]
        refine wpAnyH_take' (i := 2) (d := 158) (v := ?hn2) rfl rfl (by kernel_rfl) (by kernel_rfl) (by kernel_rfl) (fun _ _ _ h => h) (Or.inl ⟨by rfl, ?hny2⟩) s1 ?hnr2
        case hny2 => (intro w hSw; go_split_ands; go_simp; try with_reducible rfl)
        simp only [List.setIfInBounds_toArray, List.set_cons_zero, List.set_cons_succ]
        refine wpAnyH_take' (i := 6) (d := 162) (v := ?hn6) rfl rfl (by kernel_rfl) (by kernel_rfl) (by kernel_rfl) (fun _ _ _ h => h) (Or.inl ⟨by rfl, ?hny6⟩) s1 ?hnr6
        case hny6 => (intro w hSw; go_split_ands; go_simp; try with_reducible rfl)
        simp only [List.setIfInBounds_toArray, List.set_cons_zero, List.set_cons_succ]
        refine anyH_one (i := 3) (by kernel_rfl) ?_
        refine wpOp_step rfl (fun KK hK => ?_)
        go_simp
        obtain ⟨U, V, O, bo, qq⟩ := HA.out.1
        have hnx := next_any qq.a sx
        rw [HEn.out] at hnx
        refine hnx.mono ?_
        rintro e wn ⟨rfl, hb⟩
        clear hnx qq
        have s2 : wn.cell? ⟨wo.heap.size, 2, none⟩ = some (.int .i64 sx) := (HA.out.2.below hb HA.out.2.lt).cell rfl
        have HN := Lib.hid (HA.out.1.below hb)
        clear hb
        refine hK _ _ ⟨s2, ?_⟩
        clear hK KK
        refine anyH_one (i := 7) (by kernel_rfl) ?_
        refine wpOp_step rfl (fun KK hK => ?_)
        go_simp
        obtain ⟨U, V, O, bo, qq⟩ := HN.out
        have hnx := rnext_any qq.b sx
        rw [HEn.out] at hnx
        refine hnx.mono ?_
        rintro e wn ⟨rfl, rfl⟩
        clear hnx qq
        refine hK _ _ ⟨s2, ?_⟩
        clear hK KK
        refine anyH_take (i := 8) (d := 164) (v := .bool false) rfl rfl (by kernel_rfl) (by kernel_rfl) (by kernel_rfl) (fun _ _ _ h => h) (Or.inl ⟨by rfl, ?hny8⟩) s2 ?hnr8
        case hny8 => (intro w; have hq := hn1; go_simp; try with_reducible rfl)
        simp only [List.setIfInBounds_toArray, List.set_cons_zero, List.set_cons_succ]
        refine anyH_take (i := 9) (d := 165) (v := ?hn9) rfl rfl (by kernel_rfl) (by kernel_rfl) (by kernel_rfl) (fun _ _ _ h => h) (Or.inl ⟨by rfl, ?hny9⟩) s2 ?hnr9
        case hny9 => (intro w; go_simp; try with_reducible rfl)
        simp only [List.setIfInBounds_toArray, List.set_cons_zero, List.set_cons_succ]
        refine anyH_take (i := 10) (d := 166) (v := ?hn10) rfl rfl (by kernel_rfl) (by kernel_rfl) (by kernel_rfl) (fun _ _ _ h => h) (Or.inl ⟨by rfl, ?hny10⟩) s2 ?hnr10
        case hny10 => (intro w; go_simp; try with_reducible rfl)
        simp only [List.setIfInBounds_toArray, List.set_cons_zero, List.set_cons_succ]
        refine anyH_take (i := 12) (d := 168) (v := ?hn12) rfl rfl (by kernel_rfl) (by kernel_rfl) (by kernel_rfl) (fun _ _ _ h => h) (Or.inl ⟨by rfl, ?hny12⟩) s2 ?hnr12
        case hny12 => (intro w; go_simp; try with_reducible rfl)
        simp only [List.setIfInBounds_toArray, List.set_cons_zero, List.set_cons_succ]
        refine anyH_one (i := 11) (by kernel_rfl) ?_
        refine wpOp_step rfl (fun KK hK => ?_)
        go_simp
        obtain ⟨U, V, O, bo, qq⟩ := HN.out
        have hnx := blen_any qq.a ln Hln.out
        refine hnx.mono ?_
        rintro e wn ⟨rfl, rfl⟩
        clear hnx qq
        refine hK _ _ ⟨s2, ?_⟩
        clear hK KK
        refine anyH_one (i := 13) (by kernel_rfl) ?_
        refine wpOp_step rfl (fun KK hK => ?_)
        go_simp
        obtain ⟨U, V, O, bo, qq⟩ := HN.out
        have hnx := rlen_any qq.b ln Hln.out
        refine hnx.mono ?_
        rintro e wn ⟨rfl, rfl⟩
        clear hnx qq
        refine hK _ _ ⟨s2, ?_⟩
        clear hK KK
        refine anyH_take (i := 14) (d := 170) (v := .bool false) rfl rfl (by kernel_rfl) (by kernel_rfl) (by kernel_rfl) (fun _ _ _ h => h) (Or.inl ⟨by rfl, ?hny14⟩) s2 ?hnr14
        case hny14 => (intro w; have hq := hn2; go_simp; try with_reducible rfl)
        simp only [List.setIfInBounds_toArray, List.set_cons_zero, List.set_cons_succ]
        refine anyH_take (i := 15) (d := 171) (v := ?hn15) rfl rfl (by kernel_rfl) (by kernel_rfl) (by kernel_rfl) (fun _ _ _ h => h) (Or.inl ⟨by rfl, ?hny15⟩) s2 ?hnr15
        case hny15 => (intro w; go_simp; try with_reducible rfl)
        simp only [List.setIfInBounds_toArray, List.set_cons_zero, List.set_cons_succ]
        refine anyH_take (i := 16) (d := 172) (v := ?hn16) rfl rfl (by kernel_rfl) (by kernel_rfl) (by kernel_rfl) (fun _ _ _ h => h) (Or.inl ⟨by rfl, ?hny16⟩) s2 ?hnr16
        case hny16 => (intro w; go_simp; try with_reducible rfl)
        simp only [List.setIfInBounds_toArray, List.set_cons_zero, List.set_cons_succ]
        refine anyH_take (i := 17) (d := 173) (v := ?hn17) rfl rfl (by kernel_rfl) (by kernel_rfl) (by kernel_rfl) (fun _ _ _ h => h) (Or.inl ⟨by rfl, ?hny17⟩) s2 ?hnr17
        case hny17 => (intro w; go_simp; try with_reducible rfl)
        simp only [List.setIfInBounds_toArray, List.set_cons_zero, List.set_cons_succ]
        refine anyH_take (i := 19) (d := 175) (v := ?hn19) rfl rfl (by kernel_rfl) (by kernel_rfl) (by kernel_rfl) (fun _ _ _ h => h) (Or.inl ⟨by rfl, ?hny19⟩) s2 ?hnr19
        case hny19 => (intro w; go_simp; try with_reducible rfl)
        simp only [List.setIfInBounds_toArray, List.set_cons_zero, List.set_cons_succ]
        refine anyH_one (i := 18) (by kernel_rfl) ?_
        refine wpOp_step rfl (fun KK hK => ?_)
        go_simp
        obtain ⟨U, V, O, bo, qq⟩ := HN.out
        have hnx := bsent_any qq.a
        rw [Hsn.out] at hnx
        refine hnx.mono ?_
        rintro e wn ⟨rfl, rfl⟩
        clear hnx qq
        refine hK _ _ ⟨s2, ?_⟩
        clear hK KK
        refine anyH_one (i := 20) (by kernel_rfl) ?_
        refine wpOp_step rfl (fun KK hK => ?_)
        go_simp
        obtain ⟨U, V, O, bo, qq⟩ := HN.out
        have hnx := rsent_any qq.b
        rw [Hsn.out] at hnx
        refine hnx.mono ?_
        rintro e wn ⟨rfl, rfl⟩
        clear hnx qq
        refine hK _ _ ⟨s2, ?_⟩
        clear hK KK
        refine anyH_take (i := 21) (d := 177) (v := .bool false) rfl rfl (by kernel_rfl) (by kernel_rfl) (by kernel_rfl) (fun _ _ _ h => h) (Or.inl ⟨by rfl, ?hny21⟩) s2 ?hnr21
        case hny21 => (intro w; have hq := hn3; go_simp; try with_reducible rfl)
        simp only [List.setIfInBounds_toArray, List.set_cons_zero, List.set_cons_succ]
        refine anyH_take (i := 22) (d := 178) (v := ?hn22) rfl rfl (by kernel_rfl) (by kernel_rfl) (by kernel_rfl) (fun _ _ _ h => h) (Or.inl ⟨by rfl, ?hny22⟩) s2 ?hnr22
        case hny22 => (intro w; go_simp; try with_reducible rfl)
        simp only [List.setIfInBounds_toArray, List.set_cons_zero, List.set_cons_succ]
        refine anyH_take (i := 23) (d := 179) (v := ?hn23) rfl rfl (by kernel_rfl) (by kernel_rfl) (by kernel_rfl) (fun _ _ _ h => h) (Or.inl ⟨by rfl, ?hny23⟩) s2 ?hnr23
        case hny23 => (intro w; go_simp; try with_reducible rfl)
        simp only [List.setIfInBounds_toArray, List.set_cons_zero, List.set_cons_succ]
        refine anyH_take (i := 24) (d := 180) (v := ?hn24) rfl rfl (by kernel_rfl) (by kernel_rfl) (by kernel_rfl) (fun _ _ _ h => h) (Or.inl ⟨by rfl, ?hny24⟩) s2 ?hnr24
        case hny24 => (intro w; go_simp; try with_reducible rfl)
        simp only [List.setIfInBounds_toArray, List.set_cons_zero, List.set_cons_succ]
        refine anyH_take (i := 26) (d := 182) (v := ?hn26) rfl rfl (by kernel_rfl) (by kernel_rfl) (by kernel_rfl) (fun _ _ _ h => h) (Or.inl ⟨by rfl, ?hny26⟩) s2 ?hnr26
        case hny26 => (intro w; go_simp; try with_reducible rfl)
        simp only [List.setIfInBounds_toArray, List.set_cons_zero, List.set_cons_succ]
        refine anyH_one (i := 25) (by kernel_rfl) ?_
        refine wpOp_step rfl (fun KK hK => ?_)
        go_simp
        obtain ⟨U, V, O, bo, qq⟩ := HN.out
        have hnx := blost_any qq.a
        rw [Hon.out] at hnx
        refine hnx.mono ?_
        rintro e wn ⟨rfl, rfl⟩
        clear hnx qq
        refine hK _ _ ⟨s2, ?_⟩
        clear hK KK
        refine anyH_one (i := 27) (by kernel_rfl) ?_
        refine wpOp_step rfl (fun KK hK => ?_)
        go_simp
        obtain ⟨U, V, O, bo, qq⟩ := HN.out
        have hnx := rlost_any qq.b
        rw [Hon.out] at hnx
        refine hnx.mono ?_
        rintro e wn ⟨rfl, rfl⟩
        clear hnx qq
        refine hK _ _ ⟨s2, ?_⟩
        clear hK KK
        refine anyH_take (i := 28) (d := 184) (v := .bool false) rfl rfl (by kernel_rfl) (by kernel_rfl) (by kernel_rfl) (fun _ _ _ h => h) (Or.inl ⟨by rfl, ?hny28⟩) s2 ?hnr28
        case hny28 => (intro w; have hq := hn4; go_simp; try with_reducible rfl)
        simp only [List.setIfInBounds_toArray, List.set_cons_zero, List.set_cons_succ]
        refine anyH_take (i := 29) (d := 185) (v := ?hn29) rfl rfl (by kernel_rfl) (by kernel_rfl) (by kernel_rfl) (fun _ _ _ h => h) (Or.inl ⟨by rfl, ?hny29⟩) s2 ?hnr29
        case hny29 => (intro w; go_simp; try with_reducible rfl)
        simp only [List.setIfInBounds_toArray, List.set_cons_zero, List.set_cons_succ]
        refine wpAnyH_done (by kernel_rfl) ?_ _
        go_wp2
        go_roundw
        case rel => exact ⟨q + 1, bn, by omega, by omega, by go_num, HN.out, by rw [← Hbn.out]; omega, by rw [← Hbn.out]; omega⟩
        case measure => simp [intOf]; omega
    · have hc : ¬ ((q : Int) < nl) ∨ ((q : Int) < nl ∧ ¬ (q : Int) < 200) := by omega
      rcases hc with hc | ⟨hc, hc2⟩
      · go_wp2_with fail
        refine (works_any _).mono ?_
        rintro e w9 ⟨rfl, hb⟩
        have H9 := Lib.hid (HT.out.bel.trans (hb.mono HT.out.bel.size))
        clear hb
        go_wp2
        go_ret
        exact ⟨rfl, H9.out⟩
      · go_wp2_with fail
        refine (works_any _).mono ?_
        rintro e w9 ⟨rfl, hb⟩
        have H9 := Lib.hid (HT.out.bel.trans (hb.mono HT.out.bel.size))
        clear hb
        go_wp2
        go_ret
        exact ⟨rfl, H9.out⟩

end Go.Proofs.Ytlecihbclkohjaa.bagDeeds
