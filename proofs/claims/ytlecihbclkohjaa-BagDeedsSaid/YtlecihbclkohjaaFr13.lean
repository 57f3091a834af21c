/-
  Copies whose bytes may be written. (Written by tools/gen_fr13.py.)
-/
import Derived.Test.YtlecihbclkohjaaRr13
namespace Go.Proofs.Ytlecihbclkohjaa
open Go.RowKit Go.Maps
set_option linter.unusedVariables false
set_option linter.unusedSimpArgs false

/-- The bytes of an envelope lie in a block of K that may be written. -/
def FrP (w : World) (K : Nat → Prop) (h : EnH) : Prop := 0 < h.n → ∃ b off cs, h.a = some ⟨b, off, none⟩ ∧ K b ∧ Blk w b 5 cs ∧ off + h.n ≤ cs.length
theorem FrP.mono {w : World} {K K' : Nat → Prop} {h : EnH} (k : FrP w K h) (hK : ∀ i, K i → K' i) : FrP w K' h := fun hn => let ⟨b, off, cs, e, h1, h2⟩ := k hn; ⟨b, off, cs, e, hK b h1, h2⟩
theorem FrP.out {w w' : World} {K S : Nat → Prop} {h : EnH} (k : FrP w K h) (ho : Out S w w') (hS : ∀ i, K i → ¬ S i) : FrP w' K h := fun hn => let ⟨b, off, cs, e, h1, h2, h3⟩ := k hn; ⟨b, off, cs, e, h1, ho.blk h2 (hS b h1), h3⟩
theorem FrP.below {w w' : World} {K : Nat → Prop} {h : EnH} (k : FrP w K h) (hb : Below w.heap.size w w') : FrP w' K h := fun hn => let ⟨b, off, cs, e, h1, h2, h3⟩ := k hn; ⟨b, off, cs, e, h1, h2.below hb h2.lt, h3⟩
theorem FrP.ofMine {w : World} {base : Nat} {x : En} {A : Option Addr} {n c : Nat} (h : Mine w base 5 (.slice A n c) x.bs) (hl : x.bs.length = n) : FrP w (fun i => base ≤ i) ⟨x, A, n, c⟩ := by
  intro hn
  dsimp only at hn
  obtain ⟨_, ⟨e, e0⟩ | ⟨g, cap, cur, e, hg, hw, hc, hm, hs, _⟩⟩ := h
  · omega
  · injection e with e e1 e2
    exact ⟨g, 0, cur.toList, e, hg, by unfold Blk; simpa using hw, by simp; omega⟩
def NewEnF (w : World) (x : En) (e : Ending) (w' : World) : Prop := ∃ h : EnH, h.x = x ∧ e = .returned (.agg #[.int .i64 h.x.fr, .int .i64 h.x.to, .slice h.a h.n h.c]) ∧ ByP w' (fun i => w.heap.size ≤ i) h ∧ Below w.heap.size w w' ∧ FrP w' (fun i => w.heap.size ≤ i) h
/-- Took, of bytes that may be written. -/
def TookF (w : World) (U : Nat → Prop) (g : Nat) (x : En) (E : Int) (b' : Bg) (e : Ending) (w' : World) : Prop :=
  ∃ (h : EnH) (N : Nat), h.x = x ∧ e = .returned (.tuple #[.agg #[.int .i64 h.x.fr, .int .i64 h.x.to, .slice h.a h.n h.c], .int .i64 E]) ∧ w.heap.size ≤ N ∧ N ≤ w'.heap.size ∧ BagAt w' (GrN U w N) g b' ∧ Out U w w' ∧ ByP w' (fun j => N ≤ j) h ∧ FrP w' (fun j => N ≤ j) h
section
variable {w w' : World} {U : Nat → Prop} {g : Nat} {b : Bg} {A : Option Addr} {cap : Nat} {hs : List EnH} {K : Nat → Prop}
set_option maxRecDepth 100000 in
set_option maxHeartbeats 800000 in
theorem copyOfF_any (K : Nat → Prop) (h : EnH) (hB : ByP w K h) (hl : h.n ≤ 1000000) : Calls Try.prog 43 #[.agg #[.int .i64 h.x.fr, .int .i64 h.x.to, .slice h.a h.n h.c]] w (NewEnF w h.x) := by
  obtain ⟨x, a, n, c⟩ := h
  dsimp only at hl ⊢
  obtain ⟨w1, hw1⟩ : ∃ w1, (w.alloc (.cells #[.int .i64 x.fr, .int .i64 x.to, .slice a n c] 29)).alloc (.cells #[.int .i64 0, .int .i64 0, .slice none 0 0] 29) = w1 := ⟨_, rfl⟩
  have b1 : Below w.heap.size w w1 := by rw [← hw1]; exact ((Below.refl _ _).alloc (Nat.le_refl _) _).alloc (by simp) _
  have B1 : Blk w1 w.heap.size 29 [.int .i64 x.fr, .int .i64 x.to, .slice a n c] := by rw [← hw1]; exact (Blk.new rfl rfl).old _
  have B2 : Blk w1 (w.heap.size + 1) 29 [.int .i64 0, .int .i64 0, .slice none 0 0] := by rw [← hw1]; exact Blk.new rfl (by simp)
  have c0 := B1.cell (i := 0) rfl
  have c1 := B1.cell (i := 1) rfl
  have c2 := B1.cell (i := 2) rfl
  have hcl := clone_any a c n x.bs w1 (hB.bs.on b1) hB.1 (by omega)
  have z1 := b1.size
  have H := Lib.hid (And.intro hcl (And.intro b1 (And.intro B1 (And.intro B2 (And.intro hB hw1)))))
  clear hcl b1 B1 B2 hB
  go_enter Try.func43, Try.ntmps43
  go_wp2_with fail
  refine H.out.1.mono ?_
  rintro e w2 ⟨v, rfl, hm, hb2⟩
  have d0 := (H.out.2.2.1.below hb2 H.out.2.2.1.lt).cell (i := 0) rfl
  have d1 := (H.out.2.2.1.below hb2 H.out.2.2.1.lt).cell (i := 1) rfl
  have d2 := (H.out.2.2.1.below hb2 H.out.2.2.1.lt).cell (i := 2) rfl
  have D2 := (H.out.2.2.1.below hb2 H.out.2.2.1.lt)
  have D3 := (H.out.2.2.2.1.below hb2 H.out.2.2.2.1.lt)
  have f2 := D2.free 2
  have e0 := D3.cell (i := 0) rfl
  have e1 := D3.cell (i := 1) rfl
  have e2 := D3.cell (i := 2) rfl
  have g0 := D3.free 0
  have g1 := D3.free 1
  have g2 := D3.free 2
  obtain ⟨A2, n2, c2', rfl, hby⟩ := ByP.ofMine hm H.out.2.2.2.2.1.2.2.2.1 H.out.2.2.2.2.1.2.2.2.2.1
  have hfr := FrP.ofMine (x := x) hm hby.1
  have H2 := Lib.hid (And.intro hby (And.intro D2 (And.intro D3 (H.out.2.1.trans (hb2.mono z1)))))
  have HF2 := Lib.hid hfr
  clear hm hb2 D2 D3 hby hw1 hfr
  go_wp2
  obtain ⟨q1, q2⟩ := three (K := K) (.int .i64 x.fr) (.int .i64 x.to) (.slice A2 n2 c2') (H2.out.2.2.1.far (p := ⟨w.heap.size, 2, none⟩) (by show w.heap.size + 1 ≠ w.heap.size; omega) (.slice A2 n2 c2'))
  have q0 : Out (fun i => i = w.heap.size) w2 (w2.setCell ⟨w.heap.size, 2, none⟩ (.slice A2 n2 c2')) := out_set w2 _ 2 _
  have z2 := H.out.2.2.2.1.lt
  have z0 := H2.out.2.2.2.size
  refine bodyPost_ret (results_row rfl _ _ (w.heap.size + 1) 29 _ _ rfl q1 Try.underlying29 rfl env_size) rfl ?_
  exact ⟨⟨x, A2, n2, c2'⟩, rfl, rfl, ((H2.out.1.out q0 fun i hi e => by omega).out q2 fun i hi e => by omega).mono fun i hi => by omega, H2.out.2.2.2.trans ((q0.above (B := w.heap.size) (fun i e => by omega) z0).trans (q2.above (fun i e => by omega) (Nat.le_trans z0 q0.size))), ((HF2.out.out q0 fun i hi e => by omega).out q2 fun i hi e => by omega).mono fun i hi => by omega⟩
set_option maxRecDepth 100000 in
set_option maxHeartbeats 1600000 in
theorem lookF_any (h : BagAt w U g b) (i : Int) : Calls Try.prog 18 #[.pointer (some ⟨g, 0, none⟩), .int .i64 i] w (TookF w U g (lookB b i) (lackE b i) b) := by
  obtain ⟨A, cap, hs, K, h⟩ := h
  obtain ⟨w1, hw1⟩ : ∃ w1, w.alloc (.cells #[.int .i64 0, .int .i64 0, .slice none 0 0] 29) = w1 := ⟨_, rfl⟩
  have b1 : Below w.heap.size w w1 := by rw [← hw1]; exact (Below.refl _ _).alloc (Nat.le_refl _) _
  have B1 : Blk w1 w.heap.size 29 [.int .i64 0, .int .i64 0, .slice none 0 0] := by rw [← hw1]; exact Blk.new rfl rfl
  have z1 := b1.size
  have h1 := h.below b1
  rcases lack_wf b i with hE | hE
  · have hel : lookB b i = atB b i := by unfold lookB; rw [if_pos hE]
    rw [hel, hE]
    obtain ⟨n, rfl, hn⟩ := lack0 hE
    have hnl : n < hs.length := by have := h.len; omega
    have hat := atB_hs h hnl
    obtain ⟨r, rfl, hr, c0, c1, c2⟩ := h1.at_ hnl
    have g1 := h1.blk.cell (i := 1) rfl
    have i0 : (0 : Int) ≤ (n : Int) := by omega
    obtain ⟨m, hm⟩ : ∃ m, b.l.length = m := ⟨_, rfl⟩
    rw [hm] at g1
    have i1 : (n : Int) < m := by omega
    have HL := lacks_h h n 0 hE
    have hmem := h1.bys _ (List.getElem_mem hnl)
    have hok := (h.ok.2.2.2 (hs[n].x) (by rw [← h.xs]; exact List.mem_map_of_mem (List.getElem_mem hnl))).2.2
    obtain ⟨y, hy⟩ : ∃ y, hs[n] = y := ⟨_, rfl⟩
    rw [hy] at c0 c1 c2 hmem hok hat
    rw [hat]
    have hyn : y.n ≤ 65536 := by rw [← hmem.1]; exact hok
    have HU := Lib.hid h.lt
    have HS := Lib.hid (And.intro h1 (And.intro B1 (And.intro b1 (And.intro hmem hyn))))
    clear h h1 B1 hm hE hel hmem hok hy hat
    go_enter Try.func18, Try.ntmps18
    go_wp2_with fail
    refine (HL.out w1 b1).mono ?_; rintro e w1 ⟨rfl, rfl⟩
    go_wp2_with fail
    refine (copyOfF_any _ y HS.out.2.2.2.1 (by have := HS.out.2.2.2.2; omega)).mono ?_
    rintro e w2 ⟨z, hz, rfl, hby, hb2, hfr⟩
    have HF2 := Lib.hid hfr
    clear hfr
    have B2 := HS.out.2.1.below hb2 HS.out.2.1.lt
    have e0 := B2.cell (i := 0) rfl
    have e1 := B2.cell (i := 1) rfl
    have e2 := B2.cell (i := 2) rfl
    have f0 := B2.free 0
    have f1 := B2.free 1
    have f2 := B2.free 2
    have H2 := Lib.hid (And.intro B2 (And.intro hby (And.intro hb2 hz)))
    clear B2 hby hb2 hz
    go_wp2
    obtain ⟨q1, q2⟩ := three (K := K) (.int .i64 z.x.fr) (.int .i64 z.x.to) (.slice z.a z.n z.c) H2.out.1
    refine bodyPost_ret (results_row_tmp rfl _ _ w.heap.size 29 _ _ _ rfl rfl q1 Try.underlying29 rfl env_size) rfl ?_
    have hz1 := HS.out.2.1.lt
    have hz2 := H2.out.2.2.1.size
    have hz3 := q2.size
    have hU := HU.out
    exact ⟨z, w1.heap.size, H2.out.2.2.2, rfl, z1, by omega, (((HS.out.1.below H2.out.2.2.1).out q2 fun i hi e => by have := hU i hi; omega) |> fun k => BagAt.grn ⟨_, _, _, _, k⟩ (by omega)), outs HS.out.2.2.1 H2.out.2.2.1 q2, H2.out.2.1.out q2 fun i hi e => by omega, HF2.out.out q2 fun i hi e => by omega⟩
  · have hel : lookB b i = zE := by unfold lookB; rw [if_neg (by rw [hE]; decide)]
    rw [hel, hE]
    have HL := lacks_h h i 9 hE
    have HU := Lib.hid h.lt
    have HS := Lib.hid (And.intro h1 (And.intro B1 b1))
    have e0 := B1.cell (i := 0) rfl
    have e1 := B1.cell (i := 1) rfl
    have e2 := B1.cell (i := 2) rfl
    have f0 := B1.free 0
    have f1 := B1.free 1
    have f2 := B1.free 2
    clear h h1 B1 hE hel
    go_enter Try.func18, Try.ntmps18
    go_wp2_with fail
    refine (HL.out w1 b1).mono ?_; rintro e w1 ⟨rfl, rfl⟩
    go_wp2
    obtain ⟨q1, q2⟩ := three (K := K) (.int .i64 0) (.int .i64 0) (.slice none 0 0) HS.out.2.1
    refine bodyPost_ret (results_row_tmp rfl _ _ w.heap.size 29 _ _ _ rfl rfl q1 Try.underlying29 rfl env_size) rfl ?_
    have hz1 := HS.out.2.1.lt
    have hz3 := q2.size
    exact ⟨⟨zE, none, 0, 0⟩, w1.heap.size, rfl, rfl, z1, by omega, ((HS.out.1.out q2 fun i hi e => by have := HU.out i hi; omega) |> fun k => BagAt.grn ⟨_, _, _, _, k⟩ (by omega)), outs HS.out.2.2 (Below.refl _ _) q2, ByP.zero _ _, fun h => absurd h (Nat.lt_irrefl 0)⟩
set_option maxRecDepth 100000 in
set_option maxHeartbeats 1600000 in
theorem takeF_any (h : BagAt w U g b) (i : Int) : Calls Try.prog 20 #[.pointer (some ⟨g, 0, none⟩), .int .i64 i] w (TookF w U g (lookB b i) (lackE b i) (takeB b i)) := by
  obtain ⟨A, cap, hs, K, h⟩ := h
  obtain ⟨w1, hw1⟩ : ∃ w1, w.alloc (.cells #[.int .i64 0, .int .i64 0, .slice none 0 0] 29) = w1 := ⟨_, rfl⟩
  have b1 : Below w.heap.size w w1 := by rw [← hw1]; exact (Below.refl _ _).alloc (Nat.le_refl _) _
  have B1 : Blk w1 w.heap.size 29 [.int .i64 0, .int .i64 0, .slice none 0 0] := by rw [← hw1]; exact Blk.new rfl rfl
  have z1 := b1.size
  have h1 := h.below b1
  rcases lack_wf b i with hE | hE
  · have hel : lookB b i = atB b i := by unfold lookB; rw [if_pos hE]
    have htk : takeB b i = offB b i.toNat := by unfold takeB; rw [if_pos hE]
    rw [hel, hE, htk]
    obtain ⟨n, rfl, hn⟩ := lack0 hE
    have hnl : n < hs.length := by have := h.len; omega
    have hat := atB_hs h hnl
    obtain ⟨r, rfl, hr, c0, c1, c2⟩ := h1.at_ hnl
    have g1 := h1.blk.cell (i := 1) rfl
    have i0 : (0 : Int) ≤ (n : Int) := by omega
    obtain ⟨m, hm⟩ : ∃ m, b.l.length = m := ⟨_, rfl⟩
    rw [hm] at g1
    have i1 : (n : Int) < m := by omega
    have HL := lacks_h h n 0 hE
    have hmem := h1.bys _ (List.getElem_mem hnl)
    have hok := (h.ok.2.2.2 (hs[n].x) (by rw [← h.xs]; exact List.mem_map_of_mem (List.getElem_mem hnl))).2.2
    obtain ⟨y, hy⟩ : ∃ y, hs[n] = y := ⟨_, rfl⟩
    rw [hy] at c0 c1 c2 hmem hok hat
    rw [hat, show ((n : Int)).toNat = n by omega]
    have hoff := off_in h1 n hnl
    rw [hy] at hoff
    have hyn : y.n ≤ 65536 := by rw [← hmem.1]; exact hok
    have HU := Lib.hid h.lt
    have HS := Lib.hid (And.intro h1 (And.intro B1 (And.intro b1 (And.intro hoff hyn))))
    clear h h1 B1 hm hE hel hmem hok hy hat hoff htk c0 c1 c2 g1
    go_enter Try.func20, Try.ntmps20
    go_wp2_with fail
    refine (HL.out w1 b1).mono ?_; rintro e w1 ⟨rfl, rfl⟩
    go_wp2_with fail
    refine HS.out.2.2.2.1.mono ?_
    rintro e wo ⟨rfl, hB, hO, hyo⟩
    have Ho := Lib.hid (And.intro hB (And.intro hO (And.intro hyo (hO.blk HS.out.2.1 fun e => by have := HU.out _ e; omega))))
    clear hB hO hyo
    go_wp2_with fail
    refine (copyOfF_any _ y Ho.out.2.2.1 (by have := HS.out.2.2.2.2; omega)).mono ?_
    rintro e w2 ⟨z, hz, rfl, hby, hb2, hfr⟩
    have HF2 := Lib.hid hfr
    clear hfr
    have B2 := Ho.out.2.2.2.below hb2 Ho.out.2.2.2.lt
    have e0 := B2.cell (i := 0) rfl
    have e1 := B2.cell (i := 1) rfl
    have e2 := B2.cell (i := 2) rfl
    have f0 := B2.free 0
    have f1 := B2.free 1
    have f2 := B2.free 2
    have H2 := Lib.hid (And.intro B2 (And.intro hby (And.intro hb2 hz)))
    clear B2 hby hb2 hz
    go_wp2
    obtain ⟨q1, q2⟩ := three (K := K) (.int .i64 z.x.fr) (.int .i64 z.x.to) (.slice z.a z.n z.c) H2.out.1
    refine bodyPost_ret (results_row_tmp rfl _ _ w.heap.size 29 _ _ _ rfl rfl q1 Try.underlying29 rfl env_size) rfl ?_
    have hz1 := HS.out.2.1.lt
    have hz2 := H2.out.2.2.1.size
    have hz3 := q2.size
    have hU := HU.out
    have hzo := Ho.out.2.1.size
    have b1 := HS.out.2.2.1
    have k1 := tk_bag hz1 hU Ho.out.1 H2.out.2.2.1 q2
    have k2 := tk_out hU b1 Ho.out.2.1 H2.out.2.2.1 q2
    exact ⟨z, wo.heap.size, H2.out.2.2.2, rfl, by omega, by omega, k1.mono (fun i hi => hi.imp_right fun h => ⟨by omega, h.2⟩) (fun i hi => hi.elim (fun h => k1.lt i (.inl h)) fun h => by omega), k2, H2.out.2.1.out q2 fun i hi e => by omega, HF2.out.out q2 fun i hi e => by omega⟩
  · have hel : lookB b i = zE := by unfold lookB; rw [if_neg (by rw [hE]; decide)]
    have htk : takeB b i = b := by unfold takeB; rw [if_neg (by rw [hE]; decide)]
    rw [hel, hE, htk]
    have HL := lacks_h h i 9 hE
    have HU := Lib.hid h.lt
    have HS := Lib.hid (And.intro h1 (And.intro B1 b1))
    have e0 := B1.cell (i := 0) rfl
    have e1 := B1.cell (i := 1) rfl
    have e2 := B1.cell (i := 2) rfl
    have f0 := B1.free 0
    have f1 := B1.free 1
    have f2 := B1.free 2
    clear h h1 B1 hE hel
    go_enter Try.func20, Try.ntmps20
    go_wp2_with fail
    refine (HL.out w1 b1).mono ?_; rintro e w1 ⟨rfl, rfl⟩
    go_wp2
    obtain ⟨q1, q2⟩ := three (K := K) (.int .i64 0) (.int .i64 0) (.slice none 0 0) HS.out.2.1
    refine bodyPost_ret (results_row_tmp rfl _ _ w.heap.size 29 _ _ _ rfl rfl q1 Try.underlying29 rfl env_size) rfl ?_
    have hz1 := HS.out.2.1.lt
    have hz3 := q2.size
    exact ⟨⟨zE, none, 0, 0⟩, w1.heap.size, rfl, rfl, z1, by omega, ((HS.out.1.out q2 fun i hi e => by have := HU.out i hi; omega) |> fun k => BagAt.grn ⟨_, _, _, _, k⟩ (by omega)), outs HS.out.2.2 (Below.refl _ _) q2, ByP.zero _ _, fun h => absurd h (Nat.lt_irrefl 0)⟩
set_option maxRecDepth 100000 in
set_option maxHeartbeats 1600000 in
theorem rcopyF_any (K : Nat → Prop) (h : EnH) (hB : ByP w K h) (hl : h.n ≤ 140737488355328) : Calls Try.prog 15 #[.agg #[.int .i64 h.x.fr, .int .i64 h.x.to, .slice h.a h.n h.c]] w (NewEnF w h.x) := by
  obtain ⟨x, a, n, c⟩ := h
  dsimp only at hl ⊢
  obtain ⟨w1, hw1⟩ : ∃ w1, ((w.alloc (.cells #[.int .i64 x.fr, .int .i64 x.to, .slice a n c] 29)).alloc (.cells #[.int .i64 0, .int .i64 0, .slice none 0 0] 29)).drew = w1 := ⟨_, rfl⟩
  have b1 : Below w.heap.size w w1 := by rw [← hw1]; exact (((Below.refl _ _).alloc (Nat.le_refl _) _).alloc (by simp) _).drew
  have B1 : Blk w1 w.heap.size 29 [.int .i64 x.fr, .int .i64 x.to, .slice a n c] := by rw [← hw1]; exact (show Blk ((w.alloc _).alloc _) _ _ _ from (Blk.new rfl rfl).old _)
  have B2 : Blk w1 (w.heap.size + 1) 29 [.int .i64 0, .int .i64 0, .slice none 0 0] := by rw [← hw1]; exact (show Blk ((w.alloc _).alloc _) _ _ _ from Blk.new rfl (by simp))
  have s1 : w1.cell? ⟨w.heap.size, 0, none⟩ = some (.int .i64 x.fr) ∧ w1.cell? ⟨w.heap.size, 1, none⟩ = some (.int .i64 x.to) ∧ w1.cell? ⟨w.heap.size, 2, none⟩ = some (.slice a n c) := ⟨B1.cell rfl, B1.cell rfl, B1.cell rfl⟩
  have hcl := copyBytes a c n x.bs w1 (hB.bs.on b1) hB.1 hl
  have z1 := b1.size
  have H := Lib.hid (And.intro hcl (And.intro b1 (And.intro B1 (And.intro B2 (And.intro hB hw1)))))
  clear hcl b1 B1 B2 hB hw1
  go_enter Try.func15, Try.ntmps15
  go_wp2
  refine wp_region_held_drew (S := fun W => W.cell? ⟨w.heap.size, 0, none⟩ = some (.int .i64 x.fr) ∧ W.cell? ⟨w.heap.size, 1, none⟩ = some (.int .i64 x.to) ∧ W.cell? ⟨w.heap.size, 2, none⟩ = some (.slice a n c)) (by kernel_rfl) (by rw [H.out.2.2.2.2.2]; exact s1) (fun _ => ?_)
  rw [H.out.2.2.2.2.2]
  refine anyH_take (i := 0) (d := 3) (v := ?a0) rfl rfl (by kernel_rfl) (by kernel_rfl) (by kernel_rfl) (fun _ _ _ h => h) (Or.inl ⟨by rfl, ?ay0⟩) s1 ?ar0
  case ay0 => (intro w; go_simp; try with_reducible rfl)
  simp only [List.setIfInBounds_toArray, List.set_cons_zero, List.set_cons_succ]
  refine anyH_take (i := 2) (d := 5) (v := ?a2) rfl rfl (by kernel_rfl) (by kernel_rfl) (by kernel_rfl) (fun _ _ _ h => h) (Or.inl ⟨by rfl, ?ay2⟩) s1 ?ar2
  case ay2 => (intro w; go_simp; try with_reducible rfl)
  simp only [List.setIfInBounds_toArray, List.set_cons_zero, List.set_cons_succ]
  refine anyH_take (i := 4) (d := 7) (v := ?a4) rfl rfl (by kernel_rfl) (by kernel_rfl) (by kernel_rfl) (fun _ _ _ h => h) (Or.inl ⟨by rfl, ?ay4⟩) s1 ?ar4
  case ay4 => (intro w; go_simp; try with_reducible rfl)
  simp only [List.setIfInBounds_toArray, List.set_cons_zero, List.set_cons_succ]
  refine wpAnyH_take' (i := 1) (d := 4) (v := ?a1) rfl rfl (by kernel_rfl) (by kernel_rfl) (by kernel_rfl) (fun _ _ _ h => h) (Or.inl ⟨by rfl, ?ay1⟩) s1 ?ar1
  case ay1 => (intro w hSw; go_split_ands; go_simp; try with_reducible rfl)
  simp only [List.setIfInBounds_toArray, List.set_cons_zero, List.set_cons_succ]
  refine wpAnyH_take' (i := 3) (d := 6) (v := ?a3) rfl rfl (by kernel_rfl) (by kernel_rfl) (by kernel_rfl) (fun _ _ _ h => h) (Or.inl ⟨by rfl, ?ay3⟩) s1 ?ar3
  case ay3 => (intro w hSw; go_split_ands; go_simp; try with_reducible rfl)
  simp only [List.setIfInBounds_toArray, List.set_cons_zero, List.set_cons_succ]
  refine wpAnyH_take' (i := 5) (d := 8) (v := ?a5) rfl rfl (by kernel_rfl) (by kernel_rfl) (by kernel_rfl) (fun _ _ _ h => h) (Or.inl ⟨by rfl, ?ay5⟩) s1 ?ar5
  case ay5 => (intro w hSw; go_split_ands; go_simp; try with_reducible rfl)
  simp only [List.setIfInBounds_toArray, List.set_cons_zero, List.set_cons_succ]
  refine anyH_one (i := 6) (by kernel_rfl) ?_
  refine wpOp_step rfl (fun K hK => ?_)
  go_simp
  refine H.out.1.mono ?_
  rintro e w2 ⟨v, rfl, hm, hb2⟩
  have D2 := H.out.2.2.1.below hb2 H.out.2.2.1.lt
  have D3 := H.out.2.2.2.1.below hb2 H.out.2.2.2.1.lt
  obtain ⟨A2, n2, c2', rfl, hby⟩ := ByP.ofMine (x := x) hm H.out.2.2.2.2.1.2.2.2.1 H.out.2.2.2.2.1.2.2.2.2.1
  have hfr := FrP.ofMine (x := x) hm hby.1
  have HF2 := Lib.hid hfr
  clear hfr
  have s2 : w2.cell? ⟨w.heap.size, 0, none⟩ = some (.int .i64 x.fr) ∧ w2.cell? ⟨w.heap.size, 1, none⟩ = some (.int .i64 x.to) ∧ w2.cell? ⟨w.heap.size, 2, none⟩ = some (.slice a n c) := ⟨D2.cell rfl, D2.cell rfl, D2.cell rfl⟩
  have e0 := D3.cell (i := 0) rfl
  have e1 := D3.cell (i := 1) rfl
  have e2 := D3.cell (i := 2) rfl
  have g0 := D3.free 0
  have g1 := D3.free 1
  have g2 := D3.free 2
  have H2 := Lib.hid (And.intro hby (And.intro D2 (And.intro D3 (H.out.2.1.trans (hb2.mono z1)))))
  clear hm hb2 D2 D3 hby
  refine hK _ _ ⟨s2, ?_⟩
  clear hK K
  refine anyH_take (i := 7) (d := 10) (v := ?b7) rfl rfl (by kernel_rfl) (by kernel_rfl) (by kernel_rfl) (fun _ _ _ h => h) (Or.inl ⟨by rfl, ?by7⟩) s2 ?br7
  case by7 => (intro w; go_simp; try with_reducible rfl)
  simp only [List.setIfInBounds_toArray, List.set_cons_zero, List.set_cons_succ]
  obtain ⟨q1, q2⟩ := three (K := K) (.int .i64 x.fr) (.int .i64 x.to) (.slice A2 n2 c2') H2.out.2.2.1
  obtain ⟨w3, hw3⟩ : ∃ w3, ((w2.setCell ⟨w.heap.size + 1, 0, none⟩ (.int .i64 x.fr)).setCell ⟨w.heap.size + 1, 1, none⟩ (.int .i64 x.to)).setCell ⟨w.heap.size + 1, 2, none⟩ (.slice A2 n2 c2') = w3 := ⟨_, rfl⟩
  rw [hw3] at q1 q2
  have D4 := q2.blk H2.out.2.1 (fun e => by omega)
  have s3 : w3.cell? ⟨w.heap.size, 0, none⟩ = some (.int .i64 x.fr) ∧ w3.cell? ⟨w.heap.size, 1, none⟩ = some (.int .i64 x.to) ∧ w3.cell? ⟨w.heap.size, 2, none⟩ = some (.slice a n c) := ⟨D4.cell rfl, D4.cell rfl, D4.cell rfl⟩
  have HQ := Lib.hid (And.intro q1 q2)
  clear q1 q2 D4
  refine anyH_one (i := 8) (by kernel_rfl) ?_
  refine wpOp_step rfl (fun K hK => ?_)
  go_simp
  try rw [hw3]
  refine hK _ _ ⟨s3, ?_⟩
  clear hK K
  refine wpAnyH_done (by kernel_rfl) ?_ _
  clear hw3
  go_wp2
  have z2 := H.out.2.2.2.1.lt
  have z0 := H2.out.2.2.2.size
  refine bodyPost_ret (results_row rfl _ _ (w.heap.size + 1) 29 _ _ rfl HQ.out.1 Try.underlying29 rfl env_size) rfl ?_
  exact ⟨⟨x, A2, n2, c2'⟩, rfl, rfl, (H2.out.1.out HQ.out.2 fun i hi e => by omega).mono fun i hi => by omega, H2.out.2.2.2.trans (HQ.out.2.above (B := w.heap.size) (fun i e => by omega) z0), (HF2.out.out HQ.out.2 fun i hi e => by omega).mono fun i hi => by omega⟩
end
end Go.Proofs.Ytlecihbclkohjaa
