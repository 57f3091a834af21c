/-
  A bag's send over the code. (Written by tools/gen_sd13.py.)
-/
import Derived.Test.YtlecihbclkohjaaSd13
namespace Go.Proofs.Ytlecihbclkohjaa
open Go.RowKit Go.Maps
set_option linter.unusedVariables false
set_option linter.unusedSimpArgs false

section
variable {P : Program} {ops : Array Oper} {Q : Exit → Act → World → Prop} {md : Region.Mode} {S : World → Prop}
theorem anyH_two {i j : Nat} {fuel : Nat} {listed : Array Bool} {a : Act} {w : World} (hr : Region.ready md ops listed = [i, j])
    (h1 : wpOp P ops Q i (fun a' w' => S w' ∧ wpAnyH P md ops Q S fuel (listed.setIfInBounds i true) a' w') a w) (h2 : wpOp P ops Q j (fun a' w' => S w' ∧ wpAnyH P md ops Q S fuel (listed.setIfInBounds j true) a' w') a w) : wpAnyH P md ops Q S (fuel + 1) listed a w :=
  wpAnyH_all hr (by simp) (fun k hk => by
    simp at hk
    rcases hk with rfl | rfl
    · exact h1
    · exact h2)
end
theorem row_env (w : World) (a b : Int) (A : Option Addr) (n c : Nat) : (Instr.buildSlice 45 1 #[(0, Value.agg #[.int .i64 a, .int .i64 b, .slice A n c])]).run Try.prog w = .ok (.slice (some ⟨w.heap.size, 0, none⟩) 1 1) (w.alloc (.cells #[.int .i64 a, .int .i64 b, .slice A n c] 29)) := by
  go_simp
  try rfl
section
variable {w w' : World} {U : Nat → Prop} {g : Nat} {b : Bg} {A : Option Addr} {cap : Nat} {hs : List EnH} {K : Nat → Prop}
theorem gr_old {w1 : World} {b' : Bg} (hb : Below w.heap.size w w1) (h : BagAt w' (Gr U w1 w') g b') : BagAt w' (Gr U w w') g b' := by
  have hz := hb.size
  refine h.mono (fun i hi => hi.imp_right fun h => ⟨by omega, h.2⟩) fun i hi => ?_
  rcases hi with h1 | h1
  · exact h.lt i (.inl h1)
  · exact h1.2
theorem send_core (h : BagIn w U g b A cap hs K) (x : EnH) (hx : ByP w K x) (hok : OkE x.x) (hl : b.l.length < 4096) (hse : b.sent < 1000000) (bx : Nat) (v0 v1 v2 : Value) (hbx : Blk w bx 29 [v0, v1, v2]) (hbu : ¬ U bx) :
    ∃ A' cap' w3, (Builtin.append_ #[45, 45] 45 #[.slice A b.l.length cap, .slice (some ⟨w.heap.size, 0, none⟩) 1 1]).run Try.prog (w.alloc (.cells #[.int .i64 x.x.fr, .int .i64 x.x.to, .slice x.a x.n x.c] 29)) = .ok (.slice A' (b.l.length + 1) cap') w3 ∧
      (w.alloc (.cells #[.int .i64 x.x.fr, .int .i64 x.x.to, .slice x.a x.n x.c] 29)).cell? ⟨g, 1, none⟩ = some (.slice A b.l.length cap) ∧
      Blk (w.alloc (.cells #[.int .i64 x.x.fr, .int .i64 x.x.to, .slice x.a x.n x.c] 29)) bx 29 [v0, v1, v2] ∧
      Blk w3 bx 29 [v0, v1, v2] ∧ Blk (w3.setCell ⟨g, 1, none⟩ (.slice A' (b.l.length + 1) cap')) bx 29 [v0, v1, v2] ∧
      Blk w3 g 61 [.bool true, .slice A b.l.length cap, .int .i64 (b.sent : Int), .int .i64 (b.lost : Int)] ∧
      Blk (w3.setCell ⟨g, 1, none⟩ (.slice A' (b.l.length + 1) cap')) g 61 [.bool true, .slice A' (b.l.length + 1) cap', .int .i64 (b.sent : Int), .int .i64 (b.lost : Int)] ∧
      (∀ w5, (w3.setCell ⟨g, 1, none⟩ (.slice A' (b.l.length + 1) cap')).setCell ⟨g, 2, none⟩ (.int .i64 ((b.sent + 1 : Nat) : Int)) = w5 → BagAt w5 (Gr U w w5) g (sendB b x.x) ∧ Out U w w5) := by
  obtain ⟨w2, hw2⟩ : ∃ w2, w.alloc (.cells #[.int .i64 x.x.fr, .int .i64 x.x.to, .slice x.a x.n x.c] 29) = w2 := ⟨_, rfl⟩
  have b2 : Below w.heap.size w w2 := by rw [← hw2]; exact (Below.refl _ _).alloc (Nat.le_refl _) _
  have B2 : Blk w2 w.heap.size 29 (enc x) := by rw [← hw2]; exact Blk.new rfl rfl
  have z2 : w2.heap.size = w.heap.size + 1 := by rw [← hw2]; simp
  rw [hw2]
  clear hw2
  have h2 := h.below b2
  have bx2 := hbx.below b2 hbx.lt
  obtain ⟨A', cap', w3, hap, hR, hO, hA, _⟩ := run_appendE w2 45 h2.row ⟨w.heap.size, 0, none⟩ 1 1 (enc x) rfl (fun j u hu => by rw [add_mk, Nat.zero_add]; exact B2.cell hu) (fun u hu => enc_cell [x] u (by rw [encs_one]; exact hu)) (by omega)
  have hgA : ¬ blkOf A g := fun e => (h2.rg g e).2.1 rfl
  have hbA : ¬ blkOf A bx := fun e => hbu (h2.rg bx e).1
  have hgb : g ≠ bx := fun e => hbu (e ▸ h2.ug)
  have G3 := hO.blk h2.blk hgA
  have X3 := hO.blk bx2 hbA
  refine ⟨A', cap', w3, hap, h2.blk.cell rfl, bx2, X3, X3.far (p := ⟨g, 1, none⟩) (fun e => hgb e.symm) _, G3, G3.set_ 1 _, ?_⟩
  rintro w5 rfl
  have s4 := out_set w3 g 1 (.slice A' (b.l.length + 1) cap')
  have s5 := out_set (w3.setCell ⟨g, 1, none⟩ (.slice A' (b.l.length + 1) cap')) g 2 (.int .i64 ((b.sent + 1 : Nat) : Int))
  have s45 := s4.trans s5 fun _ _ e => e
  obtain ⟨w5, hw5⟩ : ∃ w5, (w3.setCell ⟨g, 1, none⟩ (.slice A' (b.l.length + 1) cap')).setCell ⟨g, 2, none⟩ (.int .i64 ((b.sent + 1 : Nat) : Int)) = w5 := ⟨_, rfl⟩
  have G5 : Blk w5 g 61 [.bool true, .slice A' (b.l.length + 1) cap', .int .i64 ((b.sent + 1 : Nat) : Int), .int .i64 (b.lost : Int)] := by rw [← hw5]; exact (G3.set_ 1 _).set_ 2 _
  rw [hw5] at s45 ⊢
  have z3 := hO.size
  have z5 := s45.size
  have oU : Out U w w5 := ((Out.ofBelow U b2).trans hO fun i hi e => (h2.rg i e).1).trans s45 fun i _ e => by rw [e]; exact h.ug
  have hA' : ∀ i, blkOf A' i → (U i ∧ ¬ K i ∧ i ≠ g) ∨ i = w2.heap.size := fun i e => (hA i e).imp (fun e => ⟨(h2.rg i e).1, (h2.rg i e).2.2, (h2.rg i e).2.1⟩) fun e => e
  have hg2 := h2.lt g h2.ug
  refine ⟨⟨A', cap', hs ++ [x], K, by rw [show (sendB b x.x).l.length = b.l.length + 1 by simp [sendB]]; exact G5, by simp [h.xs, sendB], ?_, ?_, ?_, h.kg, fun i hi => .inl (h.ku i hi), .inl h.ug, ?_, ?_⟩, oU⟩
  · have hr := hR.out s45 (fun i e e2 => by rcases hA' i e with h1 | h1; exact h1.2.2 e2; omega)
    rw [encs_append, encs_one]
    show RowK w5 _ 3 A' (b.l ++ [x.x]).length cap' _
    rw [List.length_append]
    exact hr
  · intro y hy
    have hy2 : ByP w2 K y := by
      rcases List.mem_append.1 hy with h1 | h1
      · exact h2.bys y h1
      · rw [List.mem_singleton.1 h1]; exact hx.below b2 (fun i hi => h.lt i (h.ku i hi)) (Nat.le_refl _)
    exact (hy2.out hO fun i hi e => (h2.rg i e).2.2 hi).out s45 fun i hi e => h.kg (e ▸ hi)
  · intro i hi
    rcases hA' i hi with h1 | h1
    · exact ⟨.inl h1.1, h1.2.2, h1.2.1⟩
    · subst h1
      refine ⟨.inr ⟨by omega, ?_⟩, fun e => by omega, fun e => by have := h2.lt _ (h2.ku _ e); omega⟩
      exact Nat.lt_of_lt_of_le (hR.lt _ hi) z5
  · intro i hi
    rcases hi with h1 | h1
    · exact Nat.lt_of_lt_of_le (h2.lt i h1) (Nat.le_trans z3 z5)
    · exact h1.2
  · obtain ⟨k1, k2, k3, k4⟩ := h.ok
    refine ⟨by simp [sendB]; omega, by simp only [sendB]; omega, k3, fun y hy => ?_⟩
    rcases List.mem_append.1 hy with h1 | h1
    · exact k4 y h1
    · rw [List.mem_singleton.1 h1]; exact hok
set_option maxRecDepth 100000 in
set_option maxHeartbeats 1600000 in
theorem send_in (h : BagIn w U g b A cap hs K) (x : EnH) (hx : ByP w K x) (hok : OkE x.x) (hl : b.l.length < 4096) (hse : b.sent < 1000000) :
    Calls Try.prog 42 #[.pointer (some ⟨g, 0, none⟩), .agg #[.int .i64 x.x.fr, .int .i64 x.x.to, .slice x.a x.n x.c]] w fun e w' => e = .returned (.tuple #[]) ∧ BagAt w' (Gr U w w') g (sendB b x.x) ∧ Out U w w' := by
  obtain ⟨x0, a, n, c⟩ := x
  obtain ⟨f, t, bs⟩ := x0
  dsimp only at *
  obtain ⟨w1, hw1⟩ : ∃ w1, (w.alloc (.cells #[.int .i64 f, .int .i64 t, .slice a n c] 29)).drew = w1 := ⟨_, rfl⟩
  have b1 : Below w.heap.size w w1 := by rw [← hw1]; exact ((Below.refl _ _).alloc (Nat.le_refl _) _).drew
  have B1 : Blk w1 w.heap.size 29 [.int .i64 f, .int .i64 t, .slice a n c] := by rw [← hw1]; exact Blk.new rfl rfl
  have c0 := B1.cell (i := 0) rfl
  have c1 := B1.cell (i := 1) rfl
  have c2 := B1.cell (i := 2) rfl
  have g1 := (h.below b1).blk.cell (i := 1) rfl
  obtain ⟨A', cap', w3, hap, q1, q2, q3, q4, q5, q6, q7⟩ := send_core (h.below b1) ⟨⟨f, t, bs⟩, a, n, c⟩ (hx.below b1 (fun i hi => h.lt i (h.ku i hi)) (Nat.le_refl _)) hok hl hse w.heap.size _ _ _ B1 (fun e => by have := h.lt _ e; omega)
  dsimp only at hap q1 q2 q7
  have z1 : w1.heap.size = w.heap.size + 1 := by rw [← hw1]; simp
  obtain ⟨w2, hw2⟩ : ∃ w2, w1.alloc (.cells #[.int .i64 f, .int .i64 t, .slice a n c] 29) = w2 := ⟨_, rfl⟩
  have hrow := row_env w1 f t a n c
  rw [hw2] at hap q1 q2 hrow
  rw [z1] at hap hrow
  clear hw2
  have s1 : w1.cell? ⟨w.heap.size, 0, none⟩ = some (.int .i64 f) ∧ w1.cell? ⟨w.heap.size, 1, none⟩ = some (.int .i64 t) ∧ w1.cell? ⟨w.heap.size, 2, none⟩ = some (.slice a n c) := ⟨c0, c1, c2⟩
  have s2 : w2.cell? ⟨w.heap.size, 0, none⟩ = some (.int .i64 f) ∧ w2.cell? ⟨w.heap.size, 1, none⟩ = some (.int .i64 t) ∧ w2.cell? ⟨w.heap.size, 2, none⟩ = some (.slice a n c) := ⟨q2.cell rfl, q2.cell rfl, q2.cell rfl⟩
  have s3 : w3.cell? ⟨w.heap.size, 0, none⟩ = some (.int .i64 f) ∧ w3.cell? ⟨w.heap.size, 1, none⟩ = some (.int .i64 t) ∧ w3.cell? ⟨w.heap.size, 2, none⟩ = some (.slice a n c) := ⟨q3.cell rfl, q3.cell rfl, q3.cell rfl⟩
  obtain ⟨w4, hw4⟩ : ∃ w4, w3.setCell ⟨g, 1, none⟩ (.slice A' (b.l.length + 1) cap') = w4 := ⟨_, rfl⟩
  rw [hw4] at q4 q6 q7
  have s4 : w4.cell? ⟨w.heap.size, 0, none⟩ = some (.int .i64 f) ∧ w4.cell? ⟨w.heap.size, 1, none⟩ = some (.int .i64 t) ∧ w4.cell? ⟨w.heap.size, 2, none⟩ = some (.slice a n c) := ⟨q4.cell rfl, q4.cell rfl, q4.cell rfl⟩
  have k3 := q5.cell (i := 1) rfl
  have f3 := q5.free 1
  obtain ⟨m, hm⟩ : ∃ m, b.l.length = m := ⟨_, rfl⟩
  rw [hm] at g1 hap q1 k3 hw4
  have HS := Lib.hid (And.intro hap (And.intro q6 (And.intro (h.ug) (And.intro (h.lt g h.ug) (And.intro hse (And.intro b1 (And.intro q7 hrow)))))))
  have Hw1 := Lib.hid hw1
  clear h hx hok hl B1 q2 q3 q4 q5 q6 q7 hap hrow z1 hm c0 c1 c2 hse b1 hw1
  go_enter Try.func42, Try.ntmps42
  go_wp2
  refine wp_region_held_drew (S := fun W => W.cell? ⟨w.heap.size, 0, none⟩ = some (.int .i64 f) ∧ W.cell? ⟨w.heap.size, 1, none⟩ = some (.int .i64 t) ∧ W.cell? ⟨w.heap.size, 2, none⟩ = some (.slice a n c)) (by kernel_rfl) (by rw [Hw1.out]; exact s1) (fun _ => ?_)
  rw [Hw1.out]
  refine anyH_take (i := 0) (d := 4) (v := ?a0) rfl rfl (by kernel_rfl) (by kernel_rfl) (by kernel_rfl) (fun _ _ _ h => h) (Or.inl ⟨by rfl, ?ay0⟩) s1 ?ar0
  case ay0 => (intro w; go_simp; try with_reducible rfl)
  simp only [List.setIfInBounds_toArray, List.set_cons_zero, List.set_cons_succ]
  refine anyH_take (i := 1) (d := 5) (v := ?a1) rfl rfl (by kernel_rfl) (by kernel_rfl) (by kernel_rfl) (fun _ _ _ h => h) (Or.inl ⟨by rfl, ?ay1⟩) s1 ?ar1
  case ay1 => (intro w; go_simp; try with_reducible rfl)
  simp only [List.setIfInBounds_toArray, List.set_cons_zero, List.set_cons_succ]
  refine anyH_take (i := 2) (d := 6) (v := ?a2) rfl rfl (by kernel_rfl) (by kernel_rfl) (by kernel_rfl) (fun _ _ _ h => h) (Or.inl ⟨by rfl, ?ay2⟩) s1 ?ar2
  case ay2 => (intro w; go_simp; try with_reducible rfl)
  simp only [List.setIfInBounds_toArray, List.set_cons_zero, List.set_cons_succ]
  refine anyH_take (i := 3) (d := 7) (v := ?a3) rfl rfl (by kernel_rfl) (by kernel_rfl) (by kernel_rfl) (fun _ _ _ h => h) (Or.inl ⟨by rfl, ?ay3⟩) s1 ?ar3
  case ay3 => (intro w; go_simp; try with_reducible rfl)
  simp only [List.setIfInBounds_toArray, List.set_cons_zero, List.set_cons_succ]
  refine wpAnyH_take' (i := 5) (d := 9) (v := ?a5) rfl rfl (by kernel_rfl) (by kernel_rfl) (by kernel_rfl) (fun _ _ _ h => h) (Or.inl ⟨by rfl, ?ay5⟩) s1 ?ar5
  case ay5 => (intro w hSw; go_split_ands; go_simp; try with_reducible rfl)
  simp only [List.setIfInBounds_toArray, List.set_cons_zero, List.set_cons_succ]
  refine anyH_two (i := 4) (j := 6) (by kernel_rfl) ?_ ?_
  · skip
    refine wpOp_step rfl (fun K hK => ?_)
    go_simp
    refine hK _ _ ⟨s1, ?_⟩
    clear hK K
    refine anyH_one (i := 6) (by kernel_rfl) ?_
    refine op_row rfl rfl rfl _ _ _ rfl _ _ (by simp only [List.map_toArray, List.map_cons, List.map_nil]; exact HS.out.2.2.2.2.2.2.2) ?_
    refine ⟨s2, ?_⟩
    simp only [List.setIfInBounds_toArray, List.set_cons_zero, List.set_cons_succ]
    refine anyH_one (i := 7) (by kernel_rfl) ?_
    refine op_append rfl rfl rfl _ _ _ _ rfl _ _ _ _ rfl rfl HS.out.1 ?_
    refine ⟨s3, ?_⟩
    simp only [List.setIfInBounds_toArray, List.set_cons_zero, List.set_cons_succ]
    refine anyH_take (i := 8) (d := 12) (v := ?b8) rfl rfl (by kernel_rfl) (by kernel_rfl) (by kernel_rfl) (fun _ _ _ h => h) (Or.inl ⟨by rfl, ?by8⟩) s3 ?br8
    case by8 => (intro w; go_simp; try with_reducible rfl)
    simp only [List.setIfInBounds_toArray, List.set_cons_zero, List.set_cons_succ]
    refine anyH_take (i := 9) (d := 13) (v := ?b9) rfl rfl (by kernel_rfl) (by kernel_rfl) (by kernel_rfl) (fun _ _ _ h => h) (Or.inl ⟨by rfl, ?by9⟩) s3 ?br9
    case by9 => (intro w; go_simp; try with_reducible rfl)
    simp only [List.setIfInBounds_toArray, List.set_cons_zero, List.set_cons_succ]
    refine anyH_one (i := 10) (by kernel_rfl) ?_
    refine wpOp_step rfl (fun K hK => ?_)
    go_simp
    refine hK _ _ ⟨s4, ?_⟩
    clear hK K
    refine wpAnyH_done (by kernel_rfl) ?_ _
    clear hw4 s1 s2 s3 s4 k3 f3 q1 g1
    have c2 := HS.out.2.1.cell (i := 2) rfl
    have f2 := HS.out.2.1.free 2
    go_wp2_with (go_at_call 49; refine (add64 g 2 b.sent w4 (by have := HS.out.2.2.2.2.1; omega) c2 f2).mono ?_; rintro e w5 ⟨⟨v, rfl⟩, rfl⟩)
    go_end0
    refine ⟨rfl, ?_⟩
    obtain ⟨r1, r2⟩ := HS.out.2.2.2.2.2.2.1 _ rfl
    exact ⟨gr_old HS.out.2.2.2.2.2.1 r1, (Out.ofBelow U HS.out.2.2.2.2.2.1).trans r2 fun _ _ h => h⟩
  · skip
    refine op_row rfl rfl rfl _ _ _ rfl _ _ (by simp only [List.map_toArray, List.map_cons, List.map_nil]; exact HS.out.2.2.2.2.2.2.2) ?_
    refine ⟨s2, ?_⟩
    simp only [List.setIfInBounds_toArray, List.set_cons_zero, List.set_cons_succ]
    refine anyH_one (i := 4) (by kernel_rfl) ?_
    refine wpOp_step rfl (fun K hK => ?_)
    go_simp
    refine hK _ _ ⟨s2, ?_⟩
    clear hK K
    refine anyH_one (i := 7) (by kernel_rfl) ?_
    refine op_append rfl rfl rfl _ _ _ _ rfl _ _ _ _ rfl rfl HS.out.1 ?_
    refine ⟨s3, ?_⟩
    simp only [List.setIfInBounds_toArray, List.set_cons_zero, List.set_cons_succ]
    refine anyH_take (i := 8) (d := 12) (v := ?c8) rfl rfl (by kernel_rfl) (by kernel_rfl) (by kernel_rfl) (fun _ _ _ h => h) (Or.inl ⟨by rfl, ?cy8⟩) s3 ?cr8
    case cy8 => (intro w; go_simp; try with_reducible rfl)
    simp only [List.setIfInBounds_toArray, List.set_cons_zero, List.set_cons_succ]
    refine anyH_take (i := 9) (d := 13) (v := ?c9) rfl rfl (by kernel_rfl) (by kernel_rfl) (by kernel_rfl) (fun _ _ _ h => h) (Or.inl ⟨by rfl, ?cy9⟩) s3 ?cr9
    case cy9 => (intro w; go_simp; try with_reducible rfl)
    simp only [List.setIfInBounds_toArray, List.set_cons_zero, List.set_cons_succ]
    refine anyH_one (i := 10) (by kernel_rfl) ?_
    refine wpOp_step rfl (fun K hK => ?_)
    go_simp
    refine hK _ _ ⟨s4, ?_⟩
    clear hK K
    refine wpAnyH_done (by kernel_rfl) ?_ _
    clear hw4 s1 s2 s3 s4 k3 f3 q1 g1
    have c2 := HS.out.2.1.cell (i := 2) rfl
    have f2 := HS.out.2.1.free 2
    go_wp2_with (go_at_call 49; refine (add64 g 2 b.sent w4 (by have := HS.out.2.2.2.2.1; omega) c2 f2).mono ?_; rintro e w5 ⟨⟨v, rfl⟩, rfl⟩)
    go_end0
    refine ⟨rfl, ?_⟩
    obtain ⟨r1, r2⟩ := HS.out.2.2.2.2.2.2.1 _ rfl
    exact ⟨gr_old HS.out.2.2.2.2.2.1 r1, (Out.ofBelow U HS.out.2.2.2.2.2.1).trans r2 fun _ _ h => h⟩
end
end Go.Proofs.Ytlecihbclkohjaa
