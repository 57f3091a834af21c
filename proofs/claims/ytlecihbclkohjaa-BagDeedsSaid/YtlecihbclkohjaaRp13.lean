/-
  The document's Copy, Put and Look over the code. (Written by tools/gen_rp13.py.)
-/
import Derived.Test.YtlecihbclkohjaaRb13
namespace Go.Proofs.Ytlecihbclkohjaa
open Go.RowKit Go.Maps
set_option linter.unusedVariables false
set_option linter.unusedSimpArgs false

section
variable {w w' : World} {U : Nat → Prop} {g : Nat} {b : Bg} {A : Option Addr} {cap : Nat} {hs : List EnH} {K : Nat → Prop}
theorem rgr_old {w1 : World} {b' : Bg} (hb : Below w.heap.size w w1) (h : RbAt w' (Gr U w1 w') g b') : RbAt w' (Gr U w w') g b' := by
  have hz := hb.size
  refine h.mono (fun i hi => hi.imp_right fun h => ⟨by omega, h.2⟩) fun i hi => ?_
  rcases hi with h1 | h1
  · exact h.lt i (.inl h1)
  · exact h1.2
theorem rsend_core (h : RbIn w U g b A cap hs K) (x : EnH) (hx : ByP w K x) (hok : OkE x.x) (hl : b.l.length < 4096) (hse : b.sent < 1000000) (bx : Nat) (v0 v1 v2 : Value) (hbx : Blk w bx 29 [v0, v1, v2]) (hbu : ¬ U bx) :
    ∃ A' cap' w3, (Builtin.append_ #[45, 45] 45 #[.slice A b.l.length cap, .slice (some ⟨w.heap.size, 0, none⟩) 1 1]).run Try.prog (w.alloc (.cells #[.int .i64 x.x.fr, .int .i64 x.x.to, .slice x.a x.n x.c] 29)) = .ok (.slice A' (b.l.length + 1) cap') w3 ∧
      (w.alloc (.cells #[.int .i64 x.x.fr, .int .i64 x.x.to, .slice x.a x.n x.c] 29)).cell? ⟨g, 0, none⟩ = some (.slice A b.l.length cap) ∧
      Blk (w.alloc (.cells #[.int .i64 x.x.fr, .int .i64 x.x.to, .slice x.a x.n x.c] 29)) bx 29 [v0, v1, v2] ∧
      Blk w3 bx 29 [v0, v1, v2] ∧ Blk (w3.setCell ⟨g, 0, none⟩ (.slice A' (b.l.length + 1) cap')) bx 29 [v0, v1, v2] ∧
      Blk w3 g 63 [.slice A b.l.length cap, .int .i64 (b.sent : Int), .int .i64 (b.lost : Int)] ∧
      Blk (w3.setCell ⟨g, 0, none⟩ (.slice A' (b.l.length + 1) cap')) g 63 [.slice A' (b.l.length + 1) cap', .int .i64 (b.sent : Int), .int .i64 (b.lost : Int)] ∧
      (∀ w5, (w3.setCell ⟨g, 0, none⟩ (.slice A' (b.l.length + 1) cap')).setCell ⟨g, 1, none⟩ (.int .i64 ((b.sent + 1 : Nat) : Int)) = w5 → RbAt w5 (Gr U w w5) g (sendB b x.x) ∧ Out U w w5) := by
  obtain ⟨w2, hw2⟩ : ∃ w2, w.alloc (.cells #[.int .i64 x.x.fr, .int .i64 x.x.to, .slice x.a x.n x.c] 29) = w2 := ⟨_, rfl⟩
  have b2 : Below w.heap.size w w2 := by rw [← hw2]; exact (Below.refl _ _).alloc (Nat.le_refl _) _
  have B2 : Blk w2 w.heap.size 29 (enc x) := by rw [← hw2]; exact Blk.new rfl rfl
  have z2 : w2.heap.size = w.heap.size + 1 := by rw [← hw2]; simp
  rw [hw2]
  clear hw2
  have h2 := h.below b2
  have bx2 := hbx.below b2 hbx.lt
  obtain ⟨A', cap', w3, hap, hR, hO, hA, _⟩ := run_appendE w2 45 h2.row ⟨w.heap.size, 0, none⟩ 1 1 (enc x) rfl (fun j u hu => by rw [add_mk, Nat.zero_add]; exact B2.cell hu) (fun u hu => enc_cell [x] u (by rw [encs_one]; exact hu)) (by omega)
  have hgA : ¬ blkOf A g := fun e => (h2.rg g e).2.1 rfl
  have hbA : ¬ blkOf A bx := fun e => hbu (h2.rg bx e).1
  have hgb : g ≠ bx := fun e => hbu (e ▸ h2.ug)
  have G3 := hO.blk h2.blk hgA
  have X3 := hO.blk bx2 hbA
  refine ⟨A', cap', w3, hap, h2.blk.cell rfl, bx2, X3, X3.far (p := ⟨g, 0, none⟩) (fun e => hgb e.symm) _, G3, G3.set_ 0 _, ?_⟩
  rintro w5 rfl
  have s4 := out_set w3 g 0 (.slice A' (b.l.length + 1) cap')
  have s5 := out_set (w3.setCell ⟨g, 0, none⟩ (.slice A' (b.l.length + 1) cap')) g 1 (.int .i64 ((b.sent + 1 : Nat) : Int))
  have s45 := s4.trans s5 fun _ _ e => e
  obtain ⟨w5, hw5⟩ : ∃ w5, (w3.setCell ⟨g, 0, none⟩ (.slice A' (b.l.length + 1) cap')).setCell ⟨g, 1, none⟩ (.int .i64 ((b.sent + 1 : Nat) : Int)) = w5 := ⟨_, rfl⟩
  have G5 : Blk w5 g 63 [.slice A' (b.l.length + 1) cap', .int .i64 ((b.sent + 1 : Nat) : Int), .int .i64 (b.lost : Int)] := by rw [← hw5]; exact (G3.set_ 0 _).set_ 1 _
  rw [hw5] at s45 ⊢
  have z3 := hO.size
  have z5 := s45.size
  have oU : Out U w w5 := ((Out.ofBelow U b2).trans hO fun i hi e => (h2.rg i e).1).trans s45 fun i _ e => by rw [e]; exact h.ug
  have hA' : ∀ i, blkOf A' i → (U i ∧ ¬ K i ∧ i ≠ g) ∨ i = w2.heap.size := fun i e => (hA i e).imp (fun e => ⟨(h2.rg i e).1, (h2.rg i e).2.2, (h2.rg i e).2.1⟩) fun e => e
  have hg2 := h2.lt g h2.ug
  refine ⟨⟨A', cap', hs ++ [x], K, by rw [show (sendB b x.x).l.length = b.l.length + 1 by simp [sendB]]; exact G5, by simp [h.xs, sendB], ?_, ?_, ?_, h.kg, fun i hi => .inl (h.ku i hi), .inl h.ug, ?_, ?_⟩, oU⟩
  · have hr := hR.out s45 (fun i e e2 => by rcases hA' i e with h1 | h1; exact h1.2.2 e2; omega)
    rw [encs_append, encs_one]
    show RowK w5 _ 3 A' (b.l ++ [x.x]).length cap' _
    rw [List.length_append]
    exact hr
  · intro y hy
    have hy2 : ByP w2 K y := by
      rcases List.mem_append.1 hy with h1 | h1
      · exact h2.bys y h1
      · rw [List.mem_singleton.1 h1]; exact hx.below b2 (fun i hi => h.lt i (h.ku i hi)) (Nat.le_refl _)
    exact (hy2.out hO fun i hi e => (h2.rg i e).2.2 hi).out s45 fun i hi e => h.kg (e ▸ hi)
  · intro i hi
    rcases hA' i hi with h1 | h1
    · exact ⟨.inl h1.1, h1.2.2, h1.2.1⟩
    · subst h1
      refine ⟨.inr ⟨by omega, ?_⟩, fun e => by omega, fun e => by have := h2.lt _ (h2.ku _ e); omega⟩
      exact Nat.lt_of_lt_of_le (hR.lt _ hi) z5
  · intro i hi
    rcases hi with h1 | h1
    · exact Nat.lt_of_lt_of_le (h2.lt i h1) (Nat.le_trans z3 z5)
    · exact h1.2
  · obtain ⟨k1, k2, k3, k4⟩ := h.ok
    refine ⟨by simp [sendB]; omega, by simp only [sendB]; omega, k3, fun y hy => ?_⟩
    rcases List.mem_append.1 hy with h1 | h1
    · exact k4 y h1
    · rw [List.mem_singleton.1 h1]; exact hok
set_option maxRecDepth 100000 in
set_option maxHeartbeats 1600000 in
theorem rcopy_any (K : Nat → Prop) (h : EnH) (hB : ByP w K h) (hl : h.n ≤ 140737488355328) : Calls Try.prog 15 #[.agg #[.int .i64 h.x.fr, .int .i64 h.x.to, .slice h.a h.n h.c]] w (NewEn w h.x) := by
  obtain ⟨x, a, n, c⟩ := h
  dsimp only at hl ⊢
  obtain ⟨w1, hw1⟩ : ∃ w1, ((w.alloc (.cells #[.int .i64 x.fr, .int .i64 x.to, .slice a n c] 29)).alloc (.cells #[.int .i64 0, .int .i64 0, .slice none 0 0] 29)).drew = w1 := ⟨_, rfl⟩
  have b1 : Below w.heap.size w w1 := by rw [← hw1]; exact (((Below.refl _ _).alloc (Nat.le_refl _) _).alloc (by simp) _).drew
  have B1 : Blk w1 w.heap.size 29 [.int .i64 x.fr, .int .i64 x.to, .slice a n c] := by rw [← hw1]; exact (show Blk ((w.alloc _).alloc _) _ _ _ from (Blk.new rfl rfl).old _)
  have B2 : Blk w1 (w.heap.size + 1) 29 [.int .i64 0, .int .i64 0, .slice none 0 0] := by rw [← hw1]; exact (show Blk ((w.alloc _).alloc _) _ _ _ from Blk.new rfl (by simp))
  have s1 : w1.cell? ⟨w.heap.size, 0, none⟩ = some (.int .i64 x.fr) ∧ w1.cell? ⟨w.heap.size, 1, none⟩ = some (.int .i64 x.to) ∧ w1.cell? ⟨w.heap.size, 2, none⟩ = some (.slice a n c) := ⟨B1.cell rfl, B1.cell rfl, B1.cell rfl⟩
  have hcl := copyBytes a c n x.bs w1 (hB.bs.on b1) hB.1 hl
  have z1 := b1.size
  have H := Lib.hid (And.intro hcl (And.intro b1 (And.intro B1 (And.intro B2 (And.intro hB hw1)))))
  clear hcl b1 B1 B2 hB hw1
  go_enter Try.func15, Try.ntmps15
  go_wp2
  refine wp_region_held_drew (S := fun W => W.cell? ⟨w.heap.size, 0, none⟩ = some (.int .i64 x.fr) ∧ W.cell? ⟨w.heap.size, 1, none⟩ = some (.int .i64 x.to) ∧ W.cell? ⟨w.heap.size, 2, none⟩ = some (.slice a n c)) (by kernel_rfl) (by rw [H.out.2.2.2.2.2]; exact s1) (fun _ => ?_)
  rw [H.out.2.2.2.2.2]
  refine anyH_take (i := 0) (d := 3) (v := ?a0) rfl rfl (by kernel_rfl) (by kernel_rfl) (by kernel_rfl) (fun _ _ _ h => h) (Or.inl ⟨by rfl, ?ay0⟩) s1 ?ar0
  case ay0 => (intro w; go_simp; try with_reducible rfl)
  simp only [List.setIfInBounds_toArray, List.set_cons_zero, List.set_cons_succ]
  refine anyH_take (i := 2) (d := 5) (v := ?a2) rfl rfl (by kernel_rfl) (by kernel_rfl) (by kernel_rfl) (fun _ _ _ h => h) (Or.inl ⟨by rfl, ?ay2⟩) s1 ?ar2
  case ay2 => (intro w; go_simp; try with_reducible rfl)
  simp only [List.setIfInBounds_toArray, List.set_cons_zero, List.set_cons_succ]
  refine anyH_take (i := 4) (d := 7) (v := ?a4) rfl rfl (by kernel_rfl) (by kernel_rfl) (by kernel_rfl) (fun _ _ _ h => h) (Or.inl ⟨by rfl, ?ay4⟩) s1 ?ar4
  case ay4 => (intro w; go_simp; try with_reducible rfl)
  simp only [List.setIfInBounds_toArray, List.set_cons_zero, List.set_cons_succ]
  refine wpAnyH_take' (i := 1) (d := 4) (v := ?a1) rfl rfl (by kernel_rfl) (by kernel_rfl) (by kernel_rfl) (fun _ _ _ h => h) (Or.inl ⟨by rfl, ?ay1⟩) s1 ?ar1
  case ay1 => (intro w hSw; go_split_ands; go_simp; try with_reducible rfl)
  simp only [List.setIfInBounds_toArray, List.set_cons_zero, List.set_cons_succ]
  refine wpAnyH_take' (i := 3) (d := 6) (v := ?a3) rfl rfl (by kernel_rfl) (by kernel_rfl) (by kernel_rfl) (fun _ _ _ h => h) (Or.inl ⟨by rfl, ?ay3⟩) s1 ?ar3
  case ay3 => (intro w hSw; go_split_ands; go_simp; try with_reducible rfl)
  simp only [List.setIfInBounds_toArray, List.set_cons_zero, List.set_cons_succ]
  refine wpAnyH_take' (i := 5) (d := 8) (v := ?a5) rfl rfl (by kernel_rfl) (by kernel_rfl) (by kernel_rfl) (fun _ _ _ h => h) (Or.inl ⟨by rfl, ?ay5⟩) s1 ?ar5
  case ay5 => (intro w hSw; go_split_ands; go_simp; try with_reducible rfl)
  simp only [List.setIfInBounds_toArray, List.set_cons_zero, List.set_cons_succ]
  refine anyH_one (i := 6) (by kernel_rfl) ?_
  refine wpOp_step rfl (fun K hK => ?_)
  go_simp
  refine H.out.1.mono ?_
  rintro e w2 ⟨v, rfl, hm, hb2⟩
  have D2 := H.out.2.2.1.below hb2 H.out.2.2.1.lt
  have D3 := H.out.2.2.2.1.below hb2 H.out.2.2.2.1.lt
  obtain ⟨A2, n2, c2', rfl, hby⟩ := ByP.ofMine (x := x) hm H.out.2.2.2.2.1.2.2.2.1 H.out.2.2.2.2.1.2.2.2.2.1
  have s2 : w2.cell? ⟨w.heap.size, 0, none⟩ = some (.int .i64 x.fr) ∧ w2.cell? ⟨w.heap.size, 1, none⟩ = some (.int .i64 x.to) ∧ w2.cell? ⟨w.heap.size, 2, none⟩ = some (.slice a n c) := ⟨D2.cell rfl, D2.cell rfl, D2.cell rfl⟩
  have e0 := D3.cell (i := 0) rfl
  have e1 := D3.cell (i := 1) rfl
  have e2 := D3.cell (i := 2) rfl
  have g0 := D3.free 0
  have g1 := D3.free 1
  have g2 := D3.free 2
  have H2 := Lib.hid (And.intro hby (And.intro D2 (And.intro D3 (H.out.2.1.trans (hb2.mono z1)))))
  clear hm hb2 D2 D3 hby
  refine hK _ _ ⟨s2, ?_⟩
  clear hK K
  refine anyH_take (i := 7) (d := 10) (v := ?b7) rfl rfl (by kernel_rfl) (by kernel_rfl) (by kernel_rfl) (fun _ _ _ h => h) (Or.inl ⟨by rfl, ?by7⟩) s2 ?br7
  case by7 => (intro w; go_simp; try with_reducible rfl)
  simp only [List.setIfInBounds_toArray, List.set_cons_zero, List.set_cons_succ]
  obtain ⟨q1, q2⟩ := three (K := K) (.int .i64 x.fr) (.int .i64 x.to) (.slice A2 n2 c2') H2.out.2.2.1
  obtain ⟨w3, hw3⟩ : ∃ w3, ((w2.setCell ⟨w.heap.size + 1, 0, none⟩ (.int .i64 x.fr)).setCell ⟨w.heap.size + 1, 1, none⟩ (.int .i64 x.to)).setCell ⟨w.heap.size + 1, 2, none⟩ (.slice A2 n2 c2') = w3 := ⟨_, rfl⟩
  rw [hw3] at q1 q2
  have D4 := q2.blk H2.out.2.1 (fun e => by omega)
  have s3 : w3.cell? ⟨w.heap.size, 0, none⟩ = some (.int .i64 x.fr) ∧ w3.cell? ⟨w.heap.size, 1, none⟩ = some (.int .i64 x.to) ∧ w3.cell? ⟨w.heap.size, 2, none⟩ = some (.slice a n c) := ⟨D4.cell rfl, D4.cell rfl, D4.cell rfl⟩
  have HQ := Lib.hid (And.intro q1 q2)
  clear q1 q2 D4
  refine anyH_one (i := 8) (by kernel_rfl) ?_
  refine wpOp_step rfl (fun K hK => ?_)
  go_simp
  try rw [hw3]
  refine hK _ _ ⟨s3, ?_⟩
  clear hK K
  refine wpAnyH_done (by kernel_rfl) ?_ _
  clear hw3
  go_wp2
  have z2 := H.out.2.2.2.1.lt
  have z0 := H2.out.2.2.2.size
  refine bodyPost_ret (results_row rfl _ _ (w.heap.size + 1) 29 _ _ rfl HQ.out.1 Try.underlying29 rfl env_size) rfl ?_
  exact ⟨⟨x, A2, n2, c2'⟩, rfl, rfl, (H2.out.1.out HQ.out.2 fun i hi e => by omega).mono fun i hi => by omega, H2.out.2.2.2.trans (HQ.out.2.above (B := w.heap.size) (fun i e => by omega) z0)⟩
end
end Go.Proofs.Ytlecihbclkohjaa
