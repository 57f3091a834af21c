/-
  A bag's off over the code. (Written by tools/gen_of13.py.)
-/
import Derived.Test.YtlecihbclkohjaaSe13
namespace Go.Proofs.Ytlecihbclkohjaa
open Go.RowKit Go.Maps
set_option linter.unusedVariables false
set_option linter.unusedSimpArgs false

theorem run_cutE (A : Option Addr) (n c u : Nat) (h : u ≤ n) (w : World) :
    (Instr.sliceAt 45 (.slice A n c) (some (.int .i64 (u : Int))) none none).run Try.prog w = .ok (.slice (cutAt A 3 u c) (n - u) (c - u)) w := by
  have h1 : (u : Int) ≤ n := by omega
  go_simp
  simp [cutAt]
theorem run_frontE (A : Option Addr) (n c u : Nat) (h : u ≤ c) (w : World) :
    (Instr.sliceAt 45 (.slice A n c) none (some (.int .i64 (u : Int))) (some (.int .i64 (u : Int)))).run Try.prog w = .ok (.slice A u u) w := by
  have h1 : (u : Int) ≤ c := by omega
  go_simp
def zEnv : List Value := [.int .i64 0, .int .i64 0, .slice none 0 0]
section
variable {w w' : World} {U : Nat → Prop} {g : Nat} {b : Bg} {A : Option Addr} {cap : Nat} {hs : List EnH} {K : Nat → Prop}
theorem offB_ok {i : Nat} (h : b.ok) : (offB b i).ok := by
  obtain ⟨k1, k2, k3, k4⟩ := h
  exact ⟨Nat.le_trans (List.length_eraseIdx_le _ _) k1, k2, k3, fun x hx => k4 x (List.mem_of_mem_eraseIdx hx)⟩
theorem off_core (h : BagIn w U g b A cap hs K) (i : Nat) (hi : i < b.l.length) (r0 r1 : Nat) (v0 v1 : List Value) (hr0 : Blk w r0 29 v0) (hr1 : Blk w r1 29 v1) (hu0 : ¬ U r0) (hu1 : ¬ U r1) :
    ∃ r w1 A' cap' w3, A = some ⟨r, 0, none⟩ ∧ U r ∧ r < w.heap.size ∧
      (∀ k, k < 3 → w.frozen? ⟨r, i * 3 + k, none⟩ = false ∧ ∃ u, w.cell? ⟨r, i * 3 + k, none⟩ = some u) ∧
      ((w.setCell ⟨r, i * 3, none⟩ (.int .i64 0)).setCell ⟨r, i * 3 + 1, none⟩ (.int .i64 0)).setCell ⟨r, i * 3 + 2, none⟩ (.slice none 0 0) = w1 ∧
      Blk w1 g 61 [.bool true, .slice A b.l.length cap, .int .i64 (b.sent : Int), .int .i64 (b.lost : Int)] ∧ Blk w1 r0 29 v0 ∧ Blk w1 r1 29 v1 ∧
      (Builtin.append_ #[45, 45] 45 #[.slice A i i, .slice (cutAt A 3 (i + 1) cap) (b.l.length - (i + 1)) (cap - (i + 1))]).run Try.prog w1.drew = .ok (.slice A' (b.l.length - 1) cap') w3 ∧
      Blk w3 g 61 [.bool true, .slice A b.l.length cap, .int .i64 (b.sent : Int), .int .i64 (b.lost : Int)] ∧
      (∀ w4, w3.setCell ⟨g, 1, none⟩ (.slice A' (b.l.length - 1) cap') = w4 → BagAt w4 (Gr U w w4) g (offB b i) ∧ Out U w w4 ∧ Blk w4 r0 29 v0 ∧ Blk w4 r1 29 v1 ∧ ∀ e ∈ hs, ByP w4 K e) := by
  have hlen := h.len
  obtain ⟨hx, hnc, hcm, ⟨hA, hc0⟩ | ⟨r, cur, rfl, hB, hcs, htake⟩⟩ := h.row
  · omega
  have hU : U r ∧ r ≠ g ∧ ¬ K r := h.rg r ⟨_, rfl, rfl⟩
  have hil : i * 3 + 2 < cur.length := by omega
  obtain ⟨w1, hw1⟩ : ∃ w1, ((w.setCell ⟨r, i * 3, none⟩ (.int .i64 0)).setCell ⟨r, i * 3 + 1, none⟩ (.int .i64 0)).setCell ⟨r, i * 3 + 2, none⟩ (.slice none 0 0) = w1 := ⟨_, rfl⟩
  have R1 : Blk w1 r 29 (((cur.set (i * 3) (.int .i64 0)).set (i * 3 + 1) (.int .i64 0)).set (i * 3 + 2) (.slice none 0 0)) := by rw [← hw1]; exact ((hB.set_ _ _).set_ _ _).set_ _ _
  have o1 : Out (fun j => j = r) w w1 := by rw [← hw1]; exact ((out_set w r _ _).trans (out_set _ r _ _) fun _ _ h => h).trans (out_set _ r _ _) fun _ _ h => h
  have e1 : w1.heap.size = w.heap.size := by rw [← hw1]; simp [World.setCell]
  obtain ⟨c1, hc1⟩ : ∃ c1, ((cur.set (i * 3) (.int .i64 0)).set (i * 3 + 1) (.int .i64 0)).set (i * 3 + 2) (.slice none 0 0) = c1 := ⟨_, rfl⟩
  have hl1 : c1.length = cur.length := by rw [← hc1]; simp
  have ht1 : c1.take (i * 3) = encs (hs.take i) := by
    rw [encs_take, ← htake, List.take_take, Nat.min_eq_left (by omega), ← hc1, List.take_set_of_le (by omega), List.take_set_of_le (by omega), List.take_set_of_le (by omega)]
  have hd1 : ∀ j, c1[(i + 1) * 3 + j]? = cur[(i + 1) * 3 + j]? := fun j => by
    rw [← hc1, List.getElem?_set_ne (by omega), List.getElem?_set_ne (by omega), List.getElem?_set_ne (by omega)]
  rw [hc1] at R1
  have od : Out (fun _ => False) w1 w1.drew := Out.ofBelow _ ((Below.refl _ _).drew)
  have R2 := od.blk R1 (fun h => h)
  have hrow : RowK w1.drew 29 3 (some ⟨r, 0, none⟩) i i (encs (hs.take i)) := ⟨by rw [encs_len, List.length_take]; omega, Nat.le_refl _, by omega, .inr ⟨r, c1, rfl, R2, by omega, ht1⟩⟩
  have hsrc : ∃ ad, cutAt (some ⟨r, 0, none⟩) 3 (i + 1) cap = some ad ∧ (0 < b.l.length - (i + 1) → ad = ⟨r, (i + 1) * 3, none⟩) := by
    unfold cutAt
    by_cases hc : cap = i + 1
    · rw [if_pos hc]; exact ⟨_, rfl, fun h => by omega⟩
    · rw [if_neg hc]; exact ⟨_, rfl, fun h => by show (⟨r, 0, none⟩ : Addr).add _ = _; rw [add_mk, Nat.zero_add]⟩
  obtain ⟨ad, had, hadv⟩ := hsrc
  have hdl : (encs (hs.drop (i + 1))).length = (b.l.length - (i + 1)) * 3 := by rw [encs_len, List.length_drop]; omega
  have hnews : ∀ j u, (encs (hs.drop (i + 1)))[j]? = some u → w1.drew.cell? (ad.add j) = some u := fun j u hu => by
    have hj : j < (b.l.length - (i + 1)) * 3 := by
      rcases Nat.lt_or_ge j ((b.l.length - (i + 1)) * 3) with h | h
      · exact h
      · rw [List.getElem?_eq_none (by omega)] at hu; cases hu
    rw [hadv (by omega), add_mk]
    refine R2.cell ?_
    rw [hd1]
    rw [encs_drop, List.getElem?_drop, ← htake, List.getElem?_take, if_pos (by omega)] at hu
    exact hu
  have hk := h.ok.1
  obtain ⟨A', cap', w3, hap, hR, hO, hA', hin⟩ := run_appendE w1.drew 45 hrow ad (b.l.length - (i + 1)) (cap - (i + 1)) (encs (hs.drop (i + 1))) hdl hnews (enc_cell _) (by omega)
  rw [show i + (b.l.length - (i + 1)) = b.l.length - 1 by omega] at hap hR
  rw [← encs_append] at hR
  have heq : hs.take i ++ hs.drop (i + 1) = hs.eraseIdx i := (List.eraseIdx_eq_take_drop_succ _ _).symm
  rw [heq] at hR
  have hbr : ∀ j, blkOf (some ⟨r, 0, none⟩) j → j = r := by rintro j ⟨a, ha, rfl⟩; injection ha with ha; subst ha; rfl
  have o3 : Out (fun j => j = r) w w3 := (o1.trans od fun _ _ h => h.elim).trans hO fun j _ hj => hbr j hj
  have G1 := o1.blk h.blk (fun e => hU.2.1 e.symm)
  have G3 := o3.blk h.blk (fun e => hU.2.1 e.symm)
  have f0 := hr0.lt
  have f1 := hr1.lt
  have n0 : r0 ≠ r := fun e => hu0 (e ▸ hU.1)
  have n1 : r1 ≠ r := fun e => hu1 (e ▸ hU.1)
  refine ⟨r, w1, A', cap', w3, rfl, hU.1, hB.lt, fun k hk3 => ⟨hB.free _, _, hB.cell (List.getElem?_eq_getElem (by omega))⟩, hw1, G1, o1.blk hr0 n0, o1.blk hr1 n1, by rw [had]; exact hap, G3, ?_⟩
  rintro w4 rfl
  have s4 := out_set w3 g 1 (.slice A' (b.l.length - 1) cap')
  have G4 := G3.set_ 1 (.slice A' (b.l.length - 1) cap')
  obtain ⟨w4, hw4⟩ : ∃ w4, w3.setCell ⟨g, 1, none⟩ (.slice A' (b.l.length - 1) cap') = w4 := ⟨_, rfl⟩
  rw [hw4] at s4 G4 ⊢
  have oA : Out (fun j => j = r ∨ j = g) w w4 := by
    have q : Out (fun j => j = r ∨ j = g) w w3 := ⟨o3.os, o3.tape, o3.output, o3.size, fun j hj hn => o3.block j hj fun e => hn (.inl e)⟩
    exact q.trans s4 fun _ _ e => .inr e
  have oU : Out U w w4 := ⟨oA.os, oA.tape, oA.output, oA.size, fun j hj hn => oA.block j hj fun e => hn (e.elim (fun e => e ▸ hU.1) fun e => e ▸ h.ug)⟩
  have hby : ∀ e ∈ hs, ByP w4 K e := fun e he => (h.bys e he).out oA fun j hj e2 => e2.elim (fun e2 => hU.2.2 (e2 ▸ hj)) fun e2 => h.kg (e2 ▸ hj)
  have hel : (offB b i).l.length = b.l.length - 1 := by simp only [offB]; rw [List.length_eraseIdx, if_pos hi]
  have hA2 : ∀ j, blkOf A' j → j = r ∨ j = w.heap.size := fun j hj => by
    rcases hA' j hj with h1 | h1
    · exact .inl (hbr j h1)
    · right; rw [h1, ← e1]; rfl
  have hg2 := h.lt g h.ug
  have z4 := s4.size
  refine ⟨⟨A', cap', hs.eraseIdx i, K, by rw [hel]; exact G4, ?_, ?_, fun e he => hby e (List.mem_of_mem_eraseIdx he), ?_, h.kg, fun j hj => .inl (h.ku j hj), .inl h.ug, ?_, offB_ok h.ok⟩, oU, s4.blk (o3.blk hr0 n0) (fun e => hu0 (e ▸ h.ug)), s4.blk (o3.blk hr1 n1) (fun e => hu1 (e ▸ h.ug)), hby⟩
  · show _ = b.l.eraseIdx i
    rw [← h.xs, List.eraseIdx_eq_take_drop_succ, List.eraseIdx_eq_take_drop_succ, List.map_append, List.map_take, List.map_drop]
  · rw [hel]
    exact hR.out s4 fun j hj e2 => by
      rcases hA2 j hj with h1 | h1
      · exact hU.2.1 (h1 ▸ e2)
      · omega
  · intro j hj
    rcases hA2 j hj with h1 | h1
    · exact ⟨.inl (h1 ▸ hU.1), h1 ▸ hU.2.1, h1 ▸ hU.2.2⟩
    · refine ⟨.inr ⟨by omega, ?_⟩, by omega, fun e => by have := h.lt _ (h.ku _ e); omega⟩
      exact Nat.lt_of_lt_of_le (hR.lt _ hj) z4
  · intro j hj
    rcases hj with h1 | h1
    · exact Nat.lt_of_lt_of_le (h.lt j h1) oU.size
    · exact h1.2
theorem BagIn.at_ (h : BagIn w U g b A cap hs K) {i : Nat} (hi : i < hs.length) : ∃ r, A = some ⟨r, 0, none⟩ ∧ r < w.heap.size ∧ w.cell? ⟨r, i * 3, none⟩ = some (.int .i64 hs[i].x.fr) ∧ w.cell? ⟨r, i * 3 + 1, none⟩ = some (.int .i64 hs[i].x.to) ∧ w.cell? ⟨r, i * 3 + 2, none⟩ = some (.slice hs[i].a hs[i].n hs[i].c) := by
  obtain ⟨r, e, hr, hc, _⟩ := h.row.cells (by have := h.len; omega)
  exact ⟨r, e, hr, hc _ _ (by have := encs_at hi (j := 0) rfl; rwa [Nat.add_zero] at this), hc _ _ (encs_at hi (j := 1) rfl), hc _ _ (encs_at hi (j := 2) rfl)⟩
theorem off_end {w0 w1 w4 w5 : World} {b' : Bg} {e : EnH} (b0 : Below w.heap.size w w0) (b1 : Below w0.heap.size w0 w1) (z0 : w0.heap.size = w.heap.size + 1) (z1 : w1.heap.size = w.heap.size + 2) (k1 : BagAt w4 (Gr U w1 w4) g b') (k2 : Out U w1 w4) (k5 : ByP w4 K e)
    (hK : (∀ i, K i → U i) ∧ ∀ i, U i → i < w.heap.size) (q : Out (fun i => i = w.heap.size) w4 w5) : BagAt w5 (Gr U w w5) g b' ∧ Out U w w5 ∧ ByP w5 K e := by
  have b01 : Below w.heap.size w w1 := b0.trans (b1.mono b0.size)
  have z4 := k2.size
  have z5 := q.size
  have m1 : BagAt w5 (Gr U w1 w4) g b' := k1.out q fun i hi e => by
    rcases hi with h | h
    · have := hK.2 i h; omega
    · omega
  refine ⟨m1.mono (fun i hi => hi.imp_right fun h => ⟨by omega, by omega⟩) fun i hi => ?_, ?_, k5.out q fun i hi e => by have := hK.2 i (hK.1 i hi); omega⟩
  · rcases hi with h1 | h1
    · exact m1.lt i (.inl h1)
    · exact h1.2
  · have o1 := (Out.ofBelow U b01).trans k2 fun _ _ h => h
    refine ⟨q.os.trans o1.os, q.tape.trans o1.tape, q.output.trans o1.output, Nat.le_trans o1.size q.size, fun i hi hn => (q.block i (Nat.lt_of_lt_of_le hi o1.size) (by omega)).trans (o1.block i hi hn)⟩
set_option maxRecDepth 100000 in
set_option maxHeartbeats 1600000 in
theorem off_in (h : BagIn w U g b A cap hs K) (i : Nat) (hi : i < hs.length) :
    Calls Try.prog 48 #[.pointer (some ⟨g, 0, none⟩), .int .i64 (i : Int)] w fun e w' => e = .returned (.agg #[.int .i64 hs[i].x.fr, .int .i64 hs[i].x.to, .slice hs[i].a hs[i].n hs[i].c]) ∧ BagAt w' (Gr U w w') g (offB b i) ∧ Out U w w' ∧ ByP w' K hs[i] := by
  have hlen := h.len
  obtain ⟨w0, hw0⟩ : ∃ w0, w.alloc (.cells #[.int .i64 0, .int .i64 0, .slice none 0 0] 29) = w0 := ⟨_, rfl⟩
  have b0 : Below w.heap.size w w0 := by rw [← hw0]; exact (Below.refl _ _).alloc (Nat.le_refl _) _
  have B0 : Blk w0 w.heap.size 29 [.int .i64 0, .int .i64 0, .slice none 0 0] := by rw [← hw0]; exact Blk.new rfl rfl
  have z0 : w0.heap.size = w.heap.size + 1 := by rw [← hw0]; simp
  have h0 := h.below b0
  have g1 := h0.blk.cell (i := 1) rfl
  obtain ⟨r, rfl, hr, c0, c1, c2⟩ := h0.at_ hi
  obtain ⟨f, hf⟩ : ∃ f, hs[i].x.fr = f := ⟨_, rfl⟩
  obtain ⟨t, ht⟩ : ∃ t, hs[i].x.to = t := ⟨_, rfl⟩
  obtain ⟨a, ha⟩ : ∃ a, hs[i].a = a := ⟨_, rfl⟩
  obtain ⟨n, hn⟩ : ∃ n, hs[i].n = n := ⟨_, rfl⟩
  obtain ⟨c, hc⟩ : ∃ c, hs[i].c = c := ⟨_, rfl⟩
  rw [hf] at c0
  rw [ht] at c1
  rw [ha, hn, hc] at c2
  rw [hf, ht, ha, hn, hc]
  have i0 : (0 : Int) ≤ (i : Int) := by omega
  obtain ⟨m, hm⟩ : ∃ m, b.l.length = m := ⟨_, rfl⟩
  rw [hm] at g1
  have i1 : (i : Int) < m := by omega
  obtain ⟨w1, hw1⟩ : ∃ w1, w0.alloc (.cells #[.int .i64 f, .int .i64 t, .slice a n c] 29) = w1 := ⟨_, rfl⟩
  have b1 : Below w0.heap.size w0 w1 := by rw [← hw1]; exact (Below.refl _ _).alloc (Nat.le_refl _) _
  have B1 : Blk w1 (w.heap.size + 1) 29 [.int .i64 f, .int .i64 t, .slice a n c] := by rw [← hw1]; exact Blk.new rfl z0
  have h1 := h0.below b1
  have B01 := B0.below b1 B0.lt
  have hU0 : ¬ U w.heap.size := fun e => by have := h.lt _ e; omega
  have hU1 : ¬ U (w.heap.size + 1) := fun e => by have := h.lt _ e; omega
  obtain ⟨r', w2, A', cap', w3, er, hUr, hr1, hfz, hw2, G2, R20, R21, hap, G3, hfin⟩ := off_core h1 i (by omega) w.heap.size (w.heap.size + 1) _ _ B01 B1 hU0 hU1
  obtain rfl : r = r' := by injection er with er; injection er
  obtain ⟨fz0, u0, x0⟩ := hfz 0 (by omega)
  obtain ⟨fz1, u1, x1⟩ := hfz 1 (by omega)
  obtain ⟨fz2, u2, x2⟩ := hfz 2 (by omega)
  rw [Nat.add_zero] at fz0 x0
  have g1' := h1.blk.cell (i := 1) rfl
  have g2 := G2.cell (i := 1) rfl
  have g2d : w2.drew.cell? ⟨g, 1, none⟩ = _ := g2
  have g3 := G3.cell (i := 1) rfl
  have f3 := G3.free 1
  rw [hm] at g1' g2 g2d g3 hap hfin
  have hcut := run_cutE (some ⟨r, 0, none⟩) m cap (i + 1) (by omega)
  have hfr := run_frontE (some ⟨r, 0, none⟩) m cap i (by have := h1.row.2.1; omega)
  have ei : ((i + 1 : Nat) : Int) = (i : Int) + 1 := by omega
  rw [ei] at hcut
  have hcutH := Lib.hid hcut
  have hfrH := Lib.hid hfr
  have hwi := Lib.hid (show IntKind.i64.wrap ((i : Int) + 1) = (i : Int) + 1 from IntWalk.i64_in _ (by have := h.ok.1; omega))
  have HS := Lib.hid (And.intro hap (And.intro hfin (And.intro b0 (And.intro b1 (And.intro (List.getElem_mem hi) (And.intro hUr (And.intro h.ok (And.intro z0 (show w1.heap.size = w.heap.size + 2 by rw [← hw1]; simp [z0])))))))))
  have HH := Lib.hid (And.intro h.ku h.lt)
  have hm4 : m ≤ 4096 := by have := h.ok.1; omega
  clear h h0 h1 B0 B1 B01 b0 b1 hm hlen hf ht ha hn hc hap hfin G2 G3 R20 R21 hfz er hUr hcut hfr ei
  go_enter Try.func48, Try.ntmps48
  go_wp2
  refine wp_region_held_drew (S := fun _ => True) (by kernel_rfl) trivial (fun _ => ?_)
  refine anyH_take (i := 0) (d := 20) (v := ?a0) rfl rfl (by kernel_rfl) (by kernel_rfl) (by kernel_rfl) (fun _ _ _ h => h) (Or.inl ⟨by rfl, ?ay0⟩) trivial ?ar0
  case ay0 => (intro w; go_simp; try with_reducible rfl)
  simp only [List.setIfInBounds_toArray, List.set_cons_zero, List.set_cons_succ]
  refine anyH_take (i := 1) (d := 21) (v := ?a1) rfl rfl (by kernel_rfl) (by kernel_rfl) (by kernel_rfl) (fun _ _ _ h => h) (Or.inl ⟨by rfl, ?ay1⟩) trivial ?ar1
  case ay1 => (intro w; go_simp; try with_reducible rfl)
  simp only [List.setIfInBounds_toArray, List.set_cons_zero, List.set_cons_succ]
  refine anyH_take (i := 2) (d := 22) (v := ?a2) rfl rfl (by kernel_rfl) (by kernel_rfl) (by kernel_rfl) (fun _ _ _ h => h) (Or.inl ⟨by rfl, ?ay2⟩) trivial ?ar2
  case ay2 => (intro w; go_simp; try with_reducible rfl)
  simp only [List.setIfInBounds_toArray, List.set_cons_zero, List.set_cons_succ]
  refine anyH_take (i := 3) (d := 23) (v := ?a3) rfl rfl (by kernel_rfl) (by kernel_rfl) (by kernel_rfl) (fun _ _ _ h => h) (Or.inl ⟨by rfl, ?ay3⟩) trivial ?ar3
  case ay3 => (intro w; go_simp; try with_reducible rfl)
  simp only [List.setIfInBounds_toArray, List.set_cons_zero, List.set_cons_succ]
  refine anyH_take (i := 5) (d := 25) (v := ?a5) rfl rfl (by kernel_rfl) (by kernel_rfl) (by kernel_rfl) (fun _ _ _ h => h) (Or.inl ⟨by rfl, ?ay5⟩) trivial ?ar5
  case ay5 => (intro w; go_simp; try with_reducible rfl)
  simp only [List.setIfInBounds_toArray, List.set_cons_zero, List.set_cons_succ]
  refine anyH_take (i := 6) (d := 26) (v := ?a6) rfl rfl (by kernel_rfl) (by kernel_rfl) (by kernel_rfl) (fun _ _ _ h => h) (Or.inl ⟨by rfl, ?ay6⟩) trivial ?ar6
  case ay6 => (intro w; go_simp; try with_reducible rfl)
  simp only [List.setIfInBounds_toArray, List.set_cons_zero, List.set_cons_succ]
  refine anyH_take (i := 8) (d := 28) (v := ?a8) rfl rfl (by kernel_rfl) (by kernel_rfl) (by kernel_rfl) (fun _ _ _ h => h) (Or.inl ⟨by rfl, ?ay8⟩) trivial ?ar8
  case ay8 => (intro w; go_simp; try with_reducible rfl)
  simp only [List.setIfInBounds_toArray, List.set_cons_zero, List.set_cons_succ]
  refine anyH_take (i := 9) (d := 29) (v := ?a9) rfl rfl (by kernel_rfl) (by kernel_rfl) (by kernel_rfl) (fun _ _ _ h => h) (Or.inl ⟨by rfl, ?ay9⟩) trivial ?ar9
  case ay9 => (intro w; go_simp; try with_reducible rfl)
  simp only [List.setIfInBounds_toArray, List.set_cons_zero, List.set_cons_succ]
  refine anyH_take (i := 10) (d := 30) (v := ?a10) rfl rfl (by kernel_rfl) (by kernel_rfl) (by kernel_rfl) (fun _ _ _ h => h) (Or.inl ⟨by rfl, ?ay10⟩) trivial ?ar10
  case ay10 => (intro w; go_simp; try with_reducible rfl)
  simp only [List.setIfInBounds_toArray, List.set_cons_zero, List.set_cons_succ]
  refine anyH_take (i := 12) (d := 32) (v := ?a12) rfl rfl (by kernel_rfl) (by kernel_rfl) (by kernel_rfl) (fun _ _ _ h => h) (Or.inl ⟨by rfl, ?ay12⟩) trivial ?ar12
  case ay12 => (intro w; go_simp; try with_reducible rfl)
  simp only [List.setIfInBounds_toArray, List.set_cons_zero, List.set_cons_succ]
  refine anyH_take (i := 13) (d := 33) (v := .int .i64 ((i : Int) + 1)) rfl rfl (by kernel_rfl) (by kernel_rfl) (by kernel_rfl) (fun _ _ _ h => h) (Or.inl ⟨by rfl, ?ay13⟩) trivial ?ar13
  case ay13 => (intro w; have hq := hwi.out; go_simp; try with_reducible rfl)
  simp only [List.setIfInBounds_toArray, List.set_cons_zero, List.set_cons_succ]
  refine anyH_two (i := 4) (j := 11) (by kernel_rfl) ?_ ?_
  · skip
    refine wpOp_step rfl (fun K hK => ?_)
    go_simp
    refine hK _ _ ⟨trivial, ?_⟩
    clear hK K
    refine anyH_take (i := 7) (d := 27) (v := ?b7) rfl rfl (by kernel_rfl) (by kernel_rfl) (by kernel_rfl) (fun _ _ _ h => h) (Or.inl ⟨by rfl, ?by7⟩) trivial ?br7
    case by7 => (intro w; have hq := hfrH.out; go_simp; try with_reducible rfl)
    simp only [List.setIfInBounds_toArray, List.set_cons_zero, List.set_cons_succ]
    refine anyH_one (i := 11) (by kernel_rfl) ?_
    refine wpOp_step rfl (fun K hK => ?_)
    go_simp
    refine hK _ _ ⟨trivial, ?_⟩
    clear hK K
    refine anyH_take (i := 14) (d := 34) (v := ?b14) rfl rfl (by kernel_rfl) (by kernel_rfl) (by kernel_rfl) (fun _ _ _ h => h) (Or.inl ⟨by rfl, ?by14⟩) trivial ?br14
    case by14 => (intro w; have hq := hcutH.out; go_simp; try with_reducible rfl)
    simp only [List.setIfInBounds_toArray, List.set_cons_zero, List.set_cons_succ]
    refine anyH_one (i := 15) (by kernel_rfl) ?_
    refine op_append rfl rfl rfl _ _ _ _ rfl _ _ _ _ rfl rfl HS.out.1 ?_
    refine ⟨trivial, ?_⟩
    simp only [List.setIfInBounds_toArray, List.set_cons_zero, List.set_cons_succ]
    refine anyH_take (i := 16) (d := 36) (v := ?b16) rfl rfl (by kernel_rfl) (by kernel_rfl) (by kernel_rfl) (fun _ _ _ h => h) (Or.inl ⟨by rfl, ?by16⟩) trivial ?br16
    case by16 => (intro w; go_simp; try with_reducible rfl)
    simp only [List.setIfInBounds_toArray, List.set_cons_zero, List.set_cons_succ]
    refine anyH_take (i := 17) (d := 37) (v := ?b17) rfl rfl (by kernel_rfl) (by kernel_rfl) (by kernel_rfl) (fun _ _ _ h => h) (Or.inl ⟨by rfl, ?by17⟩) trivial ?br17
    case by17 => (intro w; go_simp; try with_reducible rfl)
    simp only [List.setIfInBounds_toArray, List.set_cons_zero, List.set_cons_succ]
    refine anyH_one (i := 18) (by kernel_rfl) ?_
    refine wpOp_step rfl (fun K hK => ?_)
    go_simp
    refine hK _ _ ⟨trivial, ?_⟩
    clear hK K
    refine wpAnyH_done (by kernel_rfl) ?_ _
    obtain ⟨w4, hw4⟩ : ∃ w4, w3.setCell ⟨g, 1, none⟩ (.slice A' (m - 1) cap') = w4 := ⟨_, rfl⟩
    rw [hw4]
    obtain ⟨k1, k2, k3, k4, k5⟩ := HS.out.2.1 w4 hw4
    have d0 := k4.cell (i := 0) rfl
    have d1 := k4.cell (i := 1) rfl
    have d2 := k4.cell (i := 2) rfl
    have e0 := k3.cell (i := 0) rfl
    have e1 := k3.cell (i := 1) rfl
    have e2 := k3.cell (i := 2) rfl
    have f0 := k3.free 0
    have f1 := k3.free 1
    have f2 := k3.free 2
    have HK := Lib.hid (And.intro k1 (And.intro k2 (And.intro k3 k5)))
    clear hw4 k1 k2 k3 k4 k5 hw2 hw1 hw0
    go_wp2
    obtain ⟨q1, q2⟩ := three (K := K) (.int .i64 f) (.int .i64 t) (.slice a n c) HK.out.2.2.1
    refine bodyPost_ret (results_row rfl _ _ w.heap.size 29 _ _ rfl q1 Try.underlying29 rfl env_size) rfl ?_
    exact ⟨rfl, off_end HS.out.2.2.1 HS.out.2.2.2.1 HS.out.2.2.2.2.2.2.2.1 HS.out.2.2.2.2.2.2.2.2 HK.out.1 HK.out.2.1 (HK.out.2.2.2 _ HS.out.2.2.2.2.1) HH.out q2⟩
  · skip
    refine wpOp_step rfl (fun K hK => ?_)
    go_simp
    refine hK _ _ ⟨trivial, ?_⟩
    clear hK K
    refine anyH_take (i := 14) (d := 34) (v := ?c14) rfl rfl (by kernel_rfl) (by kernel_rfl) (by kernel_rfl) (fun _ _ _ h => h) (Or.inl ⟨by rfl, ?cy14⟩) trivial ?cr14
    case cy14 => (intro w; have hq := hcutH.out; go_simp; try with_reducible rfl)
    simp only [List.setIfInBounds_toArray, List.set_cons_zero, List.set_cons_succ]
    refine anyH_one (i := 4) (by kernel_rfl) ?_
    refine wpOp_step rfl (fun K hK => ?_)
    go_simp
    refine hK _ _ ⟨trivial, ?_⟩
    clear hK K
    refine anyH_take (i := 7) (d := 27) (v := ?c7) rfl rfl (by kernel_rfl) (by kernel_rfl) (by kernel_rfl) (fun _ _ _ h => h) (Or.inl ⟨by rfl, ?cy7⟩) trivial ?cr7
    case cy7 => (intro w; have hq := hfrH.out; go_simp; try with_reducible rfl)
    simp only [List.setIfInBounds_toArray, List.set_cons_zero, List.set_cons_succ]
    refine anyH_one (i := 15) (by kernel_rfl) ?_
    refine op_append rfl rfl rfl _ _ _ _ rfl _ _ _ _ rfl rfl HS.out.1 ?_
    refine ⟨trivial, ?_⟩
    simp only [List.setIfInBounds_toArray, List.set_cons_zero, List.set_cons_succ]
    refine anyH_take (i := 16) (d := 36) (v := ?c16) rfl rfl (by kernel_rfl) (by kernel_rfl) (by kernel_rfl) (fun _ _ _ h => h) (Or.inl ⟨by rfl, ?cy16⟩) trivial ?cr16
    case cy16 => (intro w; go_simp; try with_reducible rfl)
    simp only [List.setIfInBounds_toArray, List.set_cons_zero, List.set_cons_succ]
    refine anyH_take (i := 17) (d := 37) (v := ?c17) rfl rfl (by kernel_rfl) (by kernel_rfl) (by kernel_rfl) (fun _ _ _ h => h) (Or.inl ⟨by rfl, ?cy17⟩) trivial ?cr17
    case cy17 => (intro w; go_simp; try with_reducible rfl)
    simp only [List.setIfInBounds_toArray, List.set_cons_zero, List.set_cons_succ]
    refine anyH_one (i := 18) (by kernel_rfl) ?_
    refine wpOp_step rfl (fun K hK => ?_)
    go_simp
    refine hK _ _ ⟨trivial, ?_⟩
    clear hK K
    refine wpAnyH_done (by kernel_rfl) ?_ _
    obtain ⟨w4, hw4⟩ : ∃ w4, w3.setCell ⟨g, 1, none⟩ (.slice A' (m - 1) cap') = w4 := ⟨_, rfl⟩
    rw [hw4]
    obtain ⟨k1, k2, k3, k4, k5⟩ := HS.out.2.1 w4 hw4
    have d0 := k4.cell (i := 0) rfl
    have d1 := k4.cell (i := 1) rfl
    have d2 := k4.cell (i := 2) rfl
    have e0 := k3.cell (i := 0) rfl
    have e1 := k3.cell (i := 1) rfl
    have e2 := k3.cell (i := 2) rfl
    have f0 := k3.free 0
    have f1 := k3.free 1
    have f2 := k3.free 2
    have HK := Lib.hid (And.intro k1 (And.intro k2 (And.intro k3 k5)))
    clear hw4 k1 k2 k3 k4 k5 hw2 hw1 hw0
    go_wp2
    obtain ⟨q1, q2⟩ := three (K := K) (.int .i64 f) (.int .i64 t) (.slice a n c) HK.out.2.2.1
    refine bodyPost_ret (results_row rfl _ _ w.heap.size 29 _ _ rfl q1 Try.underlying29 rfl env_size) rfl ?_
    exact ⟨rfl, off_end HS.out.2.2.1 HS.out.2.2.2.1 HS.out.2.2.2.2.2.2.2.1 HS.out.2.2.2.2.2.2.2.2 HK.out.1 HK.out.2.1 (HK.out.2.2.2 _ HS.out.2.2.2.2.1) HH.out q2⟩
end
end Go.Proofs.Ytlecihbclkohjaa
