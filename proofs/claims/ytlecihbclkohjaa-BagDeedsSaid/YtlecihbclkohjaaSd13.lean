/-
  A bag's inner works over the code: copies, what is put behind, what is taken off.
-/
import Derived.Test.YtlecihbclkohjaaBg13
namespace Go.Proofs.Ytlecihbclkohjaa
open Go.RowKit Go.Maps
set_option linter.unusedVariables false
set_option linter.unusedSimpArgs false

theorem env_size : (Try.prog.info? 29).map (·.size) = some 3 := by kernel_rfl
/-- A new envelope. -/
def NewEn (w : World) (x : En) (e : Ending) (w' : World) : Prop := ∃ h : EnH, h.x = x ∧ e = .returned (.agg #[.int .i64 h.x.fr, .int .i64 h.x.to, .slice h.a h.n h.c]) ∧ ByP w' (fun i => w.heap.size ≤ i) h ∧ Below w.heap.size w w'
theorem ByP.ofMine {w : World} {base : Nat} {x : En} {v : Value} (h : Mine w base 5 v x.bs) (hf : Wf x.fr) (ht : Wf x.to) : ∃ A n c, v = .slice A n c ∧ ByP w (fun i => base ≤ i) ⟨x, A, n, c⟩ := by
  obtain ⟨A, c, rfl, h1, h2, h3⟩ := Mine.form h
  refine ⟨A, _, c, rfl, rfl, h1, h2, hf, ht, fun hn => ?_⟩
  obtain ⟨b, off, rfl, h4, h5⟩ := h3.2 hn
  refine ⟨b, off, rfl, ?_, h4, h5⟩
  obtain ⟨_, ⟨e, _⟩ | ⟨g, cap, cur, e, hg, _⟩⟩ := h
  · injection e with e; cases e
  · injection e with e; injection e with e; injection e with e; omega
theorem out_set (W : World) (r o : Nat) (v : Value) : Out (fun i => i = r) W (W.setCell ⟨r, o, none⟩ v) := Out.setCell (S := fun i => i = r) (p := ⟨r, o, none⟩) (Out.refl _ W) (fun _ => rfl) v
theorem three {W : World} {r : Nat} {K : Nat → Prop} {u0 u1 u2 : Value} (v0 v1 v2 : Value) (hB : Blk W r 29 [u0, u1, u2]) :
    Blk (((W.setCell ⟨r, 0, none⟩ v0).setCell ⟨r, 1, none⟩ v1).setCell ⟨r, 2, none⟩ v2) r 29 [v0, v1, v2] ∧ Out (fun i => i = r) W (((W.setCell ⟨r, 0, none⟩ v0).setCell ⟨r, 1, none⟩ v1).setCell ⟨r, 2, none⟩ v2) :=
  ⟨((hB.set_ 0 v0).set_ 1 v1).set_ 2 v2, ((out_set W r 0 v0).trans (out_set _ r 1 v1) fun _ _ h => h).trans (out_set _ r 2 v2) fun _ _ h => h⟩
section
variable {w w' : World} {U : Nat → Prop} {g : Nat} {b : Bg} {A : Option Addr} {cap : Nat} {hs : List EnH} {K : Nat → Prop}
set_option maxRecDepth 100000 in
set_option maxHeartbeats 800000 in
theorem copyOf_any (K : Nat → Prop) (h : EnH) (hB : ByP w K h) (hl : h.n ≤ 1000000) : Calls Try.prog 43 #[.agg #[.int .i64 h.x.fr, .int .i64 h.x.to, .slice h.a h.n h.c]] w (NewEn w h.x) := by
  obtain ⟨x, a, n, c⟩ := h
  dsimp only at hl ⊢
  obtain ⟨w1, hw1⟩ : ∃ w1, (w.alloc (.cells #[.int .i64 x.fr, .int .i64 x.to, .slice a n c] 29)).alloc (.cells #[.int .i64 0, .int .i64 0, .slice none 0 0] 29) = w1 := ⟨_, rfl⟩
  have b1 : Below w.heap.size w w1 := by rw [← hw1]; exact ((Below.refl _ _).alloc (Nat.le_refl _) _).alloc (by simp) _
  have B1 : Blk w1 w.heap.size 29 [.int .i64 x.fr, .int .i64 x.to, .slice a n c] := by rw [← hw1]; exact (Blk.new rfl rfl).old _
  have B2 : Blk w1 (w.heap.size + 1) 29 [.int .i64 0, .int .i64 0, .slice none 0 0] := by rw [← hw1]; exact Blk.new rfl (by simp)
  have c0 := B1.cell (i := 0) rfl
  have c1 := B1.cell (i := 1) rfl
  have c2 := B1.cell (i := 2) rfl
  have hcl := clone_any a c n x.bs w1 (hB.bs.on b1) hB.1 (by omega)
  have z1 := b1.size
  have H := Lib.hid (And.intro hcl (And.intro b1 (And.intro B1 (And.intro B2 (And.intro hB hw1)))))
  clear hcl b1 B1 B2 hB
  go_enter Try.func43, Try.ntmps43
  go_wp2_with fail
  refine H.out.1.mono ?_
  rintro e w2 ⟨v, rfl, hm, hb2⟩
  have d0 := (H.out.2.2.1.below hb2 H.out.2.2.1.lt).cell (i := 0) rfl
  have d1 := (H.out.2.2.1.below hb2 H.out.2.2.1.lt).cell (i := 1) rfl
  have d2 := (H.out.2.2.1.below hb2 H.out.2.2.1.lt).cell (i := 2) rfl
  have D2 := (H.out.2.2.1.below hb2 H.out.2.2.1.lt)
  have D3 := (H.out.2.2.2.1.below hb2 H.out.2.2.2.1.lt)
  have f2 := D2.free 2
  have e0 := D3.cell (i := 0) rfl
  have e1 := D3.cell (i := 1) rfl
  have e2 := D3.cell (i := 2) rfl
  have g0 := D3.free 0
  have g1 := D3.free 1
  have g2 := D3.free 2
  obtain ⟨A2, n2, c2', rfl, hby⟩ := ByP.ofMine hm H.out.2.2.2.2.1.2.2.2.1 H.out.2.2.2.2.1.2.2.2.2.1
  have H2 := Lib.hid (And.intro hby (And.intro D2 (And.intro D3 (H.out.2.1.trans (hb2.mono z1)))))
  clear hm hb2 D2 D3 hby hw1
  go_wp2
  obtain ⟨q1, q2⟩ := three (K := K) (.int .i64 x.fr) (.int .i64 x.to) (.slice A2 n2 c2') (H2.out.2.2.1.far (p := ⟨w.heap.size, 2, none⟩) (by show w.heap.size + 1 ≠ w.heap.size; omega) (.slice A2 n2 c2'))
  have q0 : Out (fun i => i = w.heap.size) w2 (w2.setCell ⟨w.heap.size, 2, none⟩ (.slice A2 n2 c2')) := out_set w2 _ 2 _
  have z2 := H.out.2.2.2.1.lt
  have z0 := H2.out.2.2.2.size
  refine bodyPost_ret (results_row rfl _ _ (w.heap.size + 1) 29 _ _ rfl q1 Try.underlying29 rfl env_size) rfl ?_
  exact ⟨⟨x, A2, n2, c2'⟩, rfl, rfl, ((H2.out.1.out q0 fun i hi e => by omega).out q2 fun i hi e => by omega).mono fun i hi => by omega, H2.out.2.2.2.trans ((q0.above (B := w.heap.size) (fun i e => by omega) z0).trans (q2.above (fun i e => by omega) (Nat.le_trans z0 q0.size)))⟩
end
end Go.Proofs.Ytlecihbclkohjaa
