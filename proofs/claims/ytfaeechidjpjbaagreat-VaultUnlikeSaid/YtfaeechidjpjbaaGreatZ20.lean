/-
  Laid together for a hand-in: Ro16, Ne16, Nv16, Hp16, Hq16, Wh16.
-/
import Derived.Test.YtfaeechidjpjbaaGreatZ19
import Derived.Test.YtfaeechidjpjbaaGreatZ15
import Derived.Test.YtfaeechidjpjbaaGreatZ10
import Derived.Test.YtfaeechidjpjbaaGreatZ12
import Derived.Test.YtfaeechidjpjbaaGreatZ01

namespace Go.Proofs.YtfaeechidjpjbaaGreat
open Go.RowKit Go.Maps
set_option linter.unusedVariables false
set_option linter.unusedSimpArgs false
/-- The leaves' row, beside the book. -/
def RoL (wB : World) (B gk bm zd : Nat) (N : Nat → Prop) (s0 : Bk) (va : Va) (v : Value) (w : World) : Prop :=
  ∃ A c, v = .slice A 13 c ∧ ∃ K : Nat → Prop, LvsAt w K A (leavesL va) ∧ (∀ j, K j → wB.heap.size ≤ j ∧ j < w.heap.size) ∧ Kb B w gk bm s0 (fun i => N i ∨ K i) ∧ Out (fun i => i = zd) wB w ∧ ∃ zs : List Value, zs.length = 32 ∧ Blk w zd 59 zs
/-- What came in. -/
def RoE (wB : World) (B g gk bm zd : Nat) (U N : Nat → Prop) (s0 : Bk) (va : Va) (cs : List Value) (w : World) : Prop := VaIn w U g (.pointer (some ⟨gk, 0, none⟩)) va cs ∧ Kb B w gk bm s0 N ∧ Out (fun i => i = zd) wB w ∧ ∃ zs : List Value, zs.length = 32 ∧ Blk w zd 59 zs
/-- What stands behind tree.Of. -/
def RoP (wB : World) (B gk bm zd : Nat) (N : Nat → Prop) (s1 : Bk) (w : World) : Prop :=
  Kb B w gk bm s1 N ∧ Out (fun i => Tn B bm wB N i ∨ i = zd) wB w ∧ ∃ zs : List Value, zs.length = 32 ∧ Blk w zd 59 zs
section
variable {wB w w' : World} {B g gk bm zd : Nat} {U N : Nat → Prop} {s0 s1 : Bk} {va : Va} {cs D : List Value} {v : Value}
theorem RoL.below (h : RoL wB B gk bm zd N s0 va v w) (hb : Below w.heap.size w w') : RoL wB B gk bm zd N s0 va v w' := by
  obtain ⟨A, c, e, K, h1, h2, h3⟩ := h
  exact ⟨A, c, e, K, h1.stays ⟨hb.size, fun j hj => hb.block j (h2 j hj).2⟩, fun j hj => ⟨(h2 j hj).1, Nat.lt_of_lt_of_le (h2 j hj).2 hb.size⟩, h3.1.below hb, h3.2.1.then_below hb, let ⟨zs, a, b⟩ := h3.2.2; ⟨zs, a, b.below hb b.lt⟩⟩
theorem RoE.below (h : RoE wB B g gk bm zd U N s0 va cs w) (hb : Below w.heap.size w w') : RoE wB B g gk bm zd U N s0 va cs w' := ⟨h.1.below hb, h.2.1.below hb, h.2.2.1.then_below hb, let ⟨zs, a, b⟩ := h.2.2.2; ⟨zs, a, b.below hb b.lt⟩⟩
theorem RoP.below (h : RoP wB B gk bm zd N s1 w) (hb : Below w.heap.size w w') : RoP wB B gk bm zd N s1 w' := by
  obtain ⟨h1, h2, zs, h3, h4⟩ := h
  exact ⟨h1.below hb, h2.then_below hb, zs, h3, h4.below hb h4.lt⟩
theorem kb_set {x : Nat} (h : Kb B w gk bm s1 N) (hx : N x) (vs : List Value) : Kb B (w.setCells x 0 vs) gk bm s1 N := by
  have hz := size_cells vs w x 0
  exact h.other (by rw [hz]; exact Nat.le_refl _) (fun i hi hn => block_setCells (fun e => hn (by rw [e]; exact hx)) vs) fun i hi => .inl hi
theorem out_set {S : Nat → Prop} {x : Nat} (h : Out S wB w) (hx : S x) (vs : List Value) : ∀ {o : Nat}, Out S wB (w.setCells x o vs) := by
  induction vs generalizing w with
  | nil => intro o; exact h
  | cons v vs ih => intro o; rw [World.setCells]; exact ih (h.setCell (p := ⟨x, o, none⟩) (fun _ => hx) v)
theorem RoP.set (h : RoP wB B gk bm zd N s1 w) (hz : N zd) (hD : D.length = 32) : RoP wB B gk bm zd N s1 (w.setCells zd 0 D) ∧ Blk (w.setCells zd 0 D) zd 59 D := by
  obtain ⟨h1, h2, zs, h3, h4⟩ := h
  have hB : Blk (w.setCells zd 0 D) zd 59 D := h4.setAll (vs := D) (by rw [hD, h3])
  exact ⟨⟨kb_set h1 hz D, out_set h2 (.inr rfl) D, D, hD, hB⟩, hB⟩
theorem RoL.set (h : RoL wB B gk bm zd N s0 va v w) (hz : N zd) (hD : D.length = 32) (hlt : zd < wB.heap.size) : RoL wB B gk bm zd N s0 va v (w.setCells zd 0 D) := by
  obtain ⟨A, c, e, K, h1, h2, h3⟩ := h
  have hs := size_cells D w zd 0
  exact ⟨A, c, e, K, h1.stays ⟨by rw [hs]; exact Nat.le_refl _, fun j hj => block_setCells (fun e => by have := (h2 j hj).1; omega) D⟩, fun j hj => by rw [hs]; exact h2 j hj, kb_set h3.1 (.inl hz) D, out_set h3.2.1 rfl D, let ⟨zs, a, b⟩ := h3.2.2; ⟨D, hD, b.setAll (vs := D) (by rw [hD, a])⟩⟩
theorem RoE.set (h : RoE wB B g gk bm zd U N s0 va cs w) (hz : N zd) (hD : D.length = 32) (hU : ¬ U zd) : RoE wB B g gk bm zd U N s0 va cs (w.setCells zd 0 D) :=
  ⟨h.1.out (S := fun i => i = zd) (out_set (S := fun i => i = zd) (Out.refl _ _) rfl D) (fun i hi e => hU (e ▸ hi)), kb_set h.2.1 hz D, out_set h.2.2.1 rfl D, let ⟨zs, a, b⟩ := h.2.2.2; ⟨D, hD, b.setAll (vs := D) (by rw [hD, a])⟩⟩
theorem RoP.of (hB : B ≤ wB.heap.size) {K : Nat → Prop} (hz : Out (fun i => i = zd) wB w) (hZ : N zd) (hk : Kb B w' gk bm s1 (fun i => N i ∨ K i)) (ho : Out (Tn B bm w (fun i => N i ∨ K i)) w w') (hb : ∃ zs : List Value, zs.length = 32 ∧ Blk w zd 59 zs) : RoP wB B gk bm zd N s1 w' := by
  obtain ⟨zs, h1, h2⟩ := hb
  refine ⟨hk.less fun i hi => .inl hi, (hz.wide fun i _ e => .inr e).trans ho fun i hi hs => ?_, zs, h1, ho.blk h2 fun e => e.2.1 (.inl hZ)⟩
  by_cases e : i = zd
  · exact .inr e
  · refine .inl ⟨hs.1, fun e2 => hs.2.1 (.inl e2), ?_⟩
    rcases hs.2.2 with e2 | ⟨cs, t, fr, hc⟩
    · exact .inl e2
    · exact .inr ⟨cs, t, fr, (hz.block i hi e).symm.trans hc⟩
theorem out_above {S : Nat → Prop} (h : Out S wB w) (hS : ∀ i, S i → B ≤ i) (hB : B ≤ wB.heap.size) : Below B wB w := h.above hS hB
end
def roR (wB : World) (B g gk bm zd : Nat) (U N : Nat → Prop) (s0 s1 : Bk) (va : Va) (cs D : List Value) : Nat → Value → World → Prop
  | 0 => fun v w => v = .pointer (some ⟨g, 0, none⟩)
  | 1 => fun v w => v = .pointer (some ⟨g, 0, none⟩)
  | 2 => fun v w => v = .pointer (some ⟨g, 0, none⟩)
  | 3 => fun v w => v = .pointer (some ⟨gk, 0, none⟩)
  | 4 => fun v w => v = .pointer (some ⟨g, 0, none⟩)
  | 5 => fun v w => RoL wB B gk bm zd N s0 va v w
  | 6 => fun v w => (v = .tuple #[.agg D.toArray, .int .i64 0]) ∧ RoP wB B gk bm zd N s1 w
  | 7 => fun v w => (v = .agg D.toArray) ∧ RoP wB B gk bm zd N s1 w
  | 8 => fun v w => v = .int .i64 0
  | 9 => fun v w => Blk w zd 59 D
  | 10 => fun v w => v = .int .i64 0
  | 11 => fun v w => (v = .pointer (some ⟨g, 0, none⟩)) ∧ RoE wB B g gk bm zd U N s0 va cs w
  | _ => fun _ _ => True
def roD (i : Nat) : Nat := ([7, 8, 9, 10, 11, 12, 13, 14, 15, 6, 3, 0] : List Nat).getD i 0
def roK (i j : Nat) : Bool := ([(6, 5), (6, 11)] : List (Nat × Nat)).contains (i, j)
theorem ro_on (wB : World) (B g gk bm zd : Nat) (U N : Nat → Prop) (s0 s1 : Bk) (va : Va) (cs D : List Value) : ∀ i v w w', roR wB B g gk bm zd U N s0 s1 va cs D i v w → Below w.heap.size w w' → roR wB B g gk bm zd U N s0 s1 va cs D i v w'
  | 0, v, w, w', h, _ => h
  | 1, v, w, w', h, _ => h
  | 2, v, w, w', h, _ => h
  | 3, v, w, w', h, _ => h
  | 4, v, w, w', h, _ => h
  | 5, v, w, w', h, hb => RoL.below h hb
  | 6, v, w, w', h, hb => ⟨h.1, h.2.below hb⟩
  | 7, v, w, w', h, hb => ⟨h.1, h.2.below hb⟩
  | 8, v, w, w', h, _ => h
  | 9, v, w, w', h, hb => h.below hb h.lt
  | 10, v, w, w', h, _ => h
  | 11, v, w, w', h, hb => ⟨h.1, h.2.below hb⟩
  | i + 12, v, w, w', h, hb => trivial
theorem ro_keep6 (wB : World) (B g gk bm zd : Nat) (U N : Nat → Prop) (s0 s1 : Bk) (va : Va) (cs D : List Value) {w w' : World} {K : Nat → Prop} (hz : N zd) (ho : Out (Tn B bm w (fun i => N i ∨ K i)) w w') : ∀ j u, j ≠ 6 → roK 6 j = false → j ≠ 7 → roR wB B g gk bm zd U N s0 s1 va cs D j u w → roR wB B g gk bm zd U N s0 s1 va cs D j u w'
  | 0, u, e, _, _, h => h
  | 1, u, e, _, _, h => h
  | 2, u, e, _, _, h => h
  | 3, u, e, _, _, h => h
  | 4, u, e, _, _, h => h
  | 5, u, e, hk, _, h => absurd hk (by decide)
  | 6, u, e, _, _, h => absurd rfl e
  | 7, u, e, _, e7, h => absurd rfl e7
  | 8, u, e, _, _, h => h
  | 9, u, e, _, _, h => ho.blk h (fun e => e.2.1 (.inl hz))
  | 10, u, e, _, _, h => h
  | 11, u, e, hk, _, h => absurd hk (by decide)
  | j + 12, u, e, _, _, h => trivial
theorem ro_keep9 (wB : World) (B g gk bm zd : Nat) (U N : Nat → Prop) (s0 s1 : Bk) (va : Va) (cs D : List Value) {w : World} (hz : N zd) (hU : ¬ U zd) (hD : D.length = 32) (hlt : zd < wB.heap.size) : ∀ j u, j ≠ 9 → roK 9 j = false → roR wB B g gk bm zd U N s0 s1 va cs D j u w → roR wB B g gk bm zd U N s0 s1 va cs D j u (w.setCells zd 0 D)
  | 0, u, e, _, h => h
  | 1, u, e, _, h => h
  | 2, u, e, _, h => h
  | 3, u, e, _, h => h
  | 4, u, e, _, h => h
  | 5, u, e, _, h => RoL.set h hz hD hlt
  | 6, u, e, _, h => ⟨h.1, (RoP.set h.2 hz hD).1⟩
  | 7, u, e, _, h => ⟨h.1, (RoP.set h.2 hz hD).1⟩
  | 8, u, e, _, h => h
  | 9, u, e, _, h => absurd rfl e
  | 10, u, e, _, h => h
  | 11, u, e, _, h => ⟨h.1, RoE.set h.2 hz hD hU⟩
  | j + 12, u, e, _, h => trivial
def roX (wB : World) (B g gk bm zd : Nat) (U N : Nat → Prop) (s0 s1 : Bk) (va : Va) (cs D : List Value) (w : World) : Prop := True
def roOps : List Op := [.move (.tmp 0),
  .nilCheck (.tmp 7),
  .fieldAddr 83 (.tmp 8) 0,
  .load 29 (.tmp 9),
  .move (.tmp 0),
  .call { callee := .value (.func 31), args := #[.tmp 11], argTypes := #[25] },
  .call { callee := .value (.func 66), args := #[.tmp 10, .tmp 12], argTypes := #[29, 23] },
  .extract (.tmp 13) 0,
  .extract (.tmp 13) 1,
  .store 59 (.tmp 2) (.tmp 14),
  .assign (.tmp 15)]
def roNeeds : Nat → List Nat
  | 0 => []
  | 1 => [0]
  | 2 => [1]
  | 3 => [2, 11]
  | 4 => []
  | 5 => [4, 11]
  | 6 => [3, 5]
  | 7 => [6]
  | 8 => [6]
  | 9 => [7]
  | 10 => [8]
  | _ => []
set_option maxRecDepth 100000 in
set_option maxHeartbeats 3200000 in
theorem ro_step {ops : Array Oper} {Q : Exit → Act → World → Prop} {a0 : Act} (wB : World) (B g gk bm zd : Nat) (U N : Nat → Prop) (s0 s1 : Bk) (va : Va) (cs D : List Value) (hops : ((List.range 11).map fun i => (ops[i]?).map Oper.op) = roOps.map some)
    (hdsl : ((List.range 11).map fun i => (ops[i]?).map Oper.dst) = ([some 7, some 8, some 9, some 10, some 11, some 12, some 13, some 14, some 15, none, some 3] : List (Option Tmp)).map some)
    (hnd : ((List.range 11).all fun i => (roNeeds i).all fun j => (((ops[i]?).map fun o => (o.after.any fun e => Region.binds .any e && (e.on == j)) || (decide (11 ≤ j) && decide (j < 11 + 1))).getD false) && ((List.range 11).all fun q => !(roK q j) || (q == i) || ((ops[q]?).map fun o => o.after.any fun e => Region.binds .any e && (e.on == i)).getD false)) = true)
    (hl6_7 : ((ops[7]?).map fun o => o.after.any fun e => Region.binds .any e && (e.on == 6)).getD false = true) (x0 : a0.tmps[0]? = some (.pointer (some ⟨g, 0, none⟩))) (x2 : a0.tmps[2]? = some (.pointer (some ⟨zd, 0, none⟩))) (x6 : 6 < a0.tmps.size)
    (hB0 : B ≤ wB.heap.size) (hBz : B ≤ zd) (hBz' : zd < wB.heap.size) (hz : N zd) (hU : ¬ U zd) (hs : s0.1.length + 20000 < 1000000 ∧ s0.2.2 + 20000 < 1000000) (hmax : ∀ x ∈ leavesL va, x.length ≤ 65535)
    (hD : cbs (rootD (lows (leavesL va))) = D) (hs1 : noteAll s0 (insTo (leavesL va) (dep 13 - 1)) = s1) (hD32 : D.length = 32) (hD1 : D.toArray.all (·.oneCell') = true) (hzB : Blk wB zd 59 (cbs (List.replicate 32 0))) :
    ∀ i o, i < 11 → ops[i]? = some o → o.guard = none → (o.dst = some (roD i) ∨ o.dst = none) → ∀ a w, Base roD 11 a0 a → (Below B wB w ∧ roX wB B g gk bm zd U N s0 s1 va cs D w) →
      (∀ j, ((o.after.any fun e => Region.binds .any e && (e.on == j)) || (decide (11 ≤ j) && decide (j < 11 + 1))) = true → ((List.range 11).all fun q => !(roK q j) || (q == i) || ((ops[q]?).map fun o => o.after.any fun e => Region.binds .any e && (e.on == i)).getD false) = true → Has roD (roR wB B g gk bm zd U N s0 s1 va cs D) j a w) →
      ∀ K : Act → World → Prop, (∀ v w', (Below B wB w' ∧ roX wB B g gk bm zd U N s0 s1 va cs D w') → (o.dst = some (roD i) → roR wB B g gk bm zd U N s0 s1 va cs D i v w') → (o.dst = none → ∃ u, a.tmps[roD i]? = some u ∧ roR wB B g gk bm zd U N s0 s1 va cs D i u w') → (∀ j u, j ≠ i → roK i j = false → ((ops[j]?).map fun o => o.after.any fun e => Region.binds .any e && (e.on == i)).getD false = false → roR wB B g gk bm zd U N s0 s1 va cs D j u w → roR wB B g gk bm zd U N s0 s1 va cs D j u w') → K (a.put o.dst v) w') → wpOp Tryz.prog ops Q i K a w := by
  intro i o hi ho hgd hdst a w hbase hI hdep0 K hK5
  obtain ⟨hbl, hX⟩ := hI
  have hwt : Region.wanted o (yielded ops a.tmps) = true := by unfold Region.wanted; rw [hgd]
  have hop : some o.op = roOps[i]? := by
    have h1 : ((List.range 11).map fun i => (ops[i]?).map Oper.op)[i]? = some (some o.op) := by
      rw [List.getElem?_map, List.getElem?_range hi]; simp only [Option.map_some, ho]
    rw [hops, List.getElem?_map] at h1
    cases h2 : roOps[i]? with
    | none => rw [h2] at h1; cases h1
    | some y => rw [h2] at h1; simp only [Option.map_some, Option.some.injEq] at h1; rw [h1]
  have hds : some o.dst = ([some 7, some 8, some 9, some 10, some 11, some 12, some 13, some 14, some 15, none, some 3] : List (Option Tmp))[i]? := by
    have h1 : ((List.range 11).map fun i => (ops[i]?).map Oper.dst)[i]? = some (some o.dst) := by
      rw [List.getElem?_map, List.getElem?_range hi]; simp only [Option.map_some, ho]
    rw [hdsl, List.getElem?_map] at h1
    cases h2 : ([some 7, some 8, some 9, some 10, some 11, some 12, some 13, some 14, some 15, none, some 3] : List (Option Tmp))[i]? with
    | none => rw [h2] at h1; cases h1
    | some y => rw [h2] at h1; simp only [Option.map_some, Option.some.injEq] at h1; rw [h1]
  have hdep : ∀ j, j ∈ roNeeds i → Has roD (roR wB B g gk bm zd U N s0 s1 va cs D) j a w := fun j hj => by
    have h1 := List.all_eq_true.1 (List.all_eq_true.1 hnd i (List.mem_range.2 hi)) j hj
    rw [ho, Bool.and_eq_true] at h1
    exact hdep0 j h1.1 h1.2
  have hK : o.dst = some (roD i) → ∀ v w', roR wB B g gk bm zd U N s0 s1 va cs D i v w' → Below w.heap.size w w' → K (a.put o.dst v) w' := fun e v w' h1 h2 => hK5 v w' ⟨hbl.trans (h2.mono (Nat.le_trans hB0 hbl.size)), trivial⟩ (fun _ => h1) (fun e' => by rw [e] at e'; cases e') (fun j u _ _ _ hj => ro_on wB B g gk bm zd U N s0 s1 va cs D j u w w' hj h2)
  clear hdep0 hops hnd hdsl hdst
  match i, hi, ho, hop, hds, hdep, hK, hK5 with
  | 0, _, ho, hop, hds, hdep, hK, hK5 =>
    have hop : o.op = .move (.tmp 0) := Option.some.inj hop
    have hu0 : a.tmps[0]? = some (.pointer (some ⟨g, 0, none⟩)) := (hbase.2.2 0 (by decide)).trans x0
    have e0 : a.eval (.tmp 0) = _ := ev_tmp hu0
    have hK := hK (Option.some.inj hds)
    refine st3 ho hwt (v := _) (w' := w) ?_ (hK _ w rfl (Below.refl _ _))
    unfold execOp
    rw [hop, ← e0]
    rfl
  | 1, _, ho, hop, hds, hdep, hK, hK5 =>
    have hop : o.op = .nilCheck (.tmp 7) := Option.some.inj hop
    obtain ⟨u7, hu7, hv7⟩ := hdep 0 (by decide)
    have hv7' : u7 = .pointer (some ⟨g, 0, none⟩) := hv7
    subst hv7'
    have e7 : a.eval (.tmp 7) = _ := ev_tmp hu7
    have hK := hK (Option.some.inj hds)
    refine st3 ho hwt (v := .pointer (some ⟨g, 0, none⟩)) (w' := w) ?_ (hK _ w rfl (Below.refl _ _))
    unfold execOp
    simp only [hop, Option.map_some, Option.map_none, e7]
    first | rfl | (go_simp; done) | (go_simp; simp; done) | (go_simp; intro h; omega)
  | 2, _, ho, hop, hds, hdep, hK, hK5 =>
    have hop : o.op = .fieldAddr 83 (.tmp 8) 0 := Option.some.inj hop
    obtain ⟨u8, hu8, hv8⟩ := hdep 1 (by decide)
    have hv8' : u8 = .pointer (some ⟨g, 0, none⟩) := hv8
    subst hv8'
    have e8 : a.eval (.tmp 8) = _ := ev_tmp hu8
    have hK := hK (Option.some.inj hds)
    refine st3 ho hwt (v := .pointer (some ⟨g, 0, none⟩)) (w' := w) ?_ (hK _ w rfl (Below.refl _ _))
    unfold execOp
    simp only [hop, Option.map_some, Option.map_none, e8]
    first | rfl | (go_simp; done) | (go_simp; simp; done) | (go_simp; intro h; omega)
  | 3, _, ho, hop, hds, hdep, hK, hK5 =>
    have hop : o.op = .load 29 (.tmp 9) := Option.some.inj hop
    obtain ⟨u9, hu9, hv9⟩ := hdep 2 (by decide)
    have hv9' : u9 = .pointer (some ⟨g, 0, none⟩) := hv9
    subst hv9'
    have e9 : a.eval (.tmp 9) = _ := ev_tmp hu9
    have hK := hK (Option.some.inj hds)
    obtain ⟨uE, huE, hvE, hE⟩ := hdep 11 (by decide)
    have k3 : w.cell? ⟨g, 0, none⟩ = some (.pointer (some ⟨gk, 0, none⟩)) := hE.1.blk.cell hE.1.c0
    refine st3 ho hwt (v := .pointer (some ⟨gk, 0, none⟩)) (w' := w) ?_ (hK _ w rfl (Below.refl _ _))
    unfold execOp
    simp only [hop, Option.map_some, Option.map_none, e9]
    first | rfl | (go_simp; done) | (go_simp; simp; done) | (go_simp; intro h; omega)
  | 4, _, ho, hop, hds, hdep, hK, hK5 =>
    have hop : o.op = .move (.tmp 0) := Option.some.inj hop
    have hu0 : a.tmps[0]? = some (.pointer (some ⟨g, 0, none⟩)) := (hbase.2.2 0 (by decide)).trans x0
    have e0 : a.eval (.tmp 0) = _ := ev_tmp hu0
    have hK := hK (Option.some.inj hds)
    refine st3 ho hwt (v := _) (w' := w) ?_ (hK _ w rfl (Below.refl _ _))
    unfold execOp
    rw [hop, ← e0]
    rfl
  | 5, _, ho, hop, hds, hdep, hK, hK5 =>
    have hop : o.op = .call { callee := .value (.func 31), args := #[.tmp 11], argTypes := #[25] } := Option.some.inj hop
    obtain ⟨u11, hu11, hv11⟩ := hdep 4 (by decide)
    have hv11' : u11 = .pointer (some ⟨g, 0, none⟩) := hv11
    subst hv11'
    have e11 : a.eval (.tmp 11) = _ := ev_tmp hu11
    have hK := hK (Option.some.inj hds)
    obtain ⟨uE, huE, hvE, hE⟩ := hdep 11 (by decide)
    refine st3_call ho hwt (f := 31) (vals := #[.pointer (some ⟨g, 0, none⟩)]) (Z := fun v w' => RoL wB B gk bm zd N s0 va v w' ∧ Below w.heap.size w w') ?_ ?_ ?_
    · unfold execOp
      simp only [hop, e11, resolve, invoke, Sem.run_bind, Sem.run_pure, Result.andThen_ok, List.map_toArray, List.map_cons, List.map_nil]
      first | rfl | exact enters_of Tryz.func31 (by kernel_rfl) rfl _ _
    · exact (leaves_in hE.1).mono fun e w' ⟨u, vs, he, hL, hb⟩ => ⟨u, he, (let ⟨A, c, e1, h1⟩ := hL.lvs hE.1.ok; ⟨A, c, e1, _, h1, fun j hj => ⟨Nat.le_trans hE.2.2.1.size hj.1, hj.2⟩, hE.2.1.belowN hb (fun i hi => hi.imp id fun h => ⟨h.1, h.2⟩), hE.2.2.1.then_below hb, let ⟨zs, a, b⟩ := hE.2.2.2; ⟨zs, a, b.below hb b.lt⟩⟩), hb⟩
    · rintro v w' ⟨h1, h2⟩
      exact hK v w' h1 h2
  | 6, _, ho, hop, hds, hdep, hK, hK5 =>
    have hop : o.op = .call { callee := .value (.func 66), args := #[.tmp 10, .tmp 12], argTypes := #[29, 23] } := Option.some.inj hop
    obtain ⟨u10, hu10, hv10⟩ := hdep 3 (by decide)
    have hv10' : u10 = .pointer (some ⟨gk, 0, none⟩) := hv10
    subst hv10'
    have e10 : a.eval (.tmp 10) = _ := ev_tmp hu10
    obtain ⟨u12, hu12, hv12⟩ := hdep 5 (by decide)
    have hv12' : RoL wB B gk bm zd N s0 va u12 w := hv12
    have e12 : a.eval (.tmp 12) = _ := ev_tmp hu12
    have hK := hK (Option.some.inj hds)
    obtain ⟨A, c, rfl, K, hL1, hL2, hL3, hL4, hzb⟩ := hv12'
    have hBw : B ≤ w.heap.size := Nat.le_trans hB0 hL4.size
    refine st3_call ho hwt (f := 66) (vals := #[.pointer (some ⟨gk, 0, none⟩), .slice A 13 c]) (Z := fun v w' => (v = .tuple #[.agg D.toArray, .int .i64 0]) ∧ Kb B w' gk bm s1 (fun i => N i ∨ K i) ∧ Out (Tn B bm w (fun i => N i ∨ K i)) w w') ?_ ?_ ?_
    · unfold execOp
      simp only [hop, e10, e12, resolve, invoke, Sem.run_bind, Sem.run_pure, Result.andThen_ok, List.map_toArray, List.map_cons, List.map_nil]
      first | rfl | exact enters_of Tryz.func66 (by kernel_rfl) rfl _ _
    · have hc := tof_any B gk bm s0 _ w hL3 hBw hs.1 hs.2 K A 13 c (leavesL va) (leavesL_len va) (by decide) (by decide) hmax hL1 (fun j hj => ⟨(hL2 j hj).2, .inr (.inr hj)⟩)
      rw [hD, hs1] at hc
      exact hc.mono fun e w' ⟨he, hk', ho'⟩ => ⟨_, he, rfl, hk', ho'⟩
    · rintro v w' ⟨hv, hk', ho'⟩
      have hbw : Below B wB w' := hbl.trans (ho'.above (fun i hi => hi.1) hBw)
      exact hK5 v w' ⟨hbw, trivial⟩ (fun _ => ⟨hv, RoP.of hB0 hL4 hz hk' ho' hzb⟩) (fun e => by rw [Option.some.inj hds] at e; cases e) (fun j u hj hkk hl hR => ro_keep6 wB B g gk bm zd U N s0 s1 va cs D hz ho' j u hj hkk (fun e => by subst e; rw [hl6_7] at hl; cases hl) hR)
  | 7, _, ho, hop, hds, hdep, hK, hK5 =>
    have hop : o.op = .extract (.tmp 13) 0 := Option.some.inj hop
    obtain ⟨u13, hu13, hv13⟩ := hdep 6 (by decide)
    have hv13' : (u13 = .tuple #[.agg D.toArray, .int .i64 0]) ∧ RoP wB B gk bm zd N s1 w := hv13
    have e13 : a.eval (.tmp 13) = _ := ev_tmp hu13
    have hK := hK (Option.some.inj hds)
    obtain ⟨rfl, hP⟩ := hv13'
    refine st3 ho hwt (v := .agg D.toArray) (w' := w) ?_ (hK _ w ⟨rfl, hP⟩ (Below.refl _ _))
    unfold execOp
    simp only [hop, e13]
    first | rfl | (go_simp; done) | (go_simp; simp; done)
  | 8, _, ho, hop, hds, hdep, hK, hK5 =>
    have hop : o.op = .extract (.tmp 13) 1 := Option.some.inj hop
    obtain ⟨u13, hu13, hv13⟩ := hdep 6 (by decide)
    have hv13' : (u13 = .tuple #[.agg D.toArray, .int .i64 0]) ∧ RoP wB B gk bm zd N s1 w := hv13
    have e13 : a.eval (.tmp 13) = _ := ev_tmp hu13
    have hK := hK (Option.some.inj hds)
    obtain ⟨rfl, hP⟩ := hv13'
    refine st3 ho hwt (v := .int .i64 0) (w' := w) ?_ (hK _ w rfl (Below.refl _ _))
    unfold execOp
    simp only [hop, e13]
    first | rfl | (go_simp; done) | (go_simp; simp; done)
  | 9, _, ho, hop, hds, hdep, hK, hK5 =>
    have hop : o.op = .store 59 (.tmp 2) (.tmp 14) := Option.some.inj hop
    have hu2 : a.tmps[2]? = some (.pointer (some ⟨zd, 0, none⟩)) := (hbase.2.2 2 (by decide)).trans x2
    have e2 : a.eval (.tmp 2) = _ := ev_tmp hu2
    obtain ⟨u14, hu14, hv14⟩ := hdep 7 (by decide)
    have hv14' : (u14 = .agg D.toArray) ∧ RoP wB B gk bm zd N s1 w := hv14
    have e14 : a.eval (.tmp 14) = _ := ev_tmp hu14
    obtain ⟨rfl, hP⟩ := hv14'
    have hPz := hP
    obtain ⟨_, _, zs, hz32, hzB⟩ := hPz
    have hset := RoP.set hP hz hD32
    refine op_storeE ho (Option.some.inj hds) hgd 59 _ _ (by rw [hop]) zd 0 D e2 e14 (by have e := hzB.there; rw [hz32] at e; rw [List.size_toArray, hD32]; exact e) (by rw [List.size_toArray, hD32]; exact info32b) hD1 rfl ?_
    have hK6 := hK5 undef (w.setCells zd 0 D) ⟨hbl.trans (Below.setCells hBz D (Below.refl _ _)), trivial⟩ (fun e => by rw [Option.some.inj hds] at e; cases e) (fun _ => ⟨_, Array.getElem?_eq_getElem (by rw [hbase.1]; exact x6), hset.2⟩) (fun j u hj hkk hl hR => ro_keep9 wB B g gk bm zd U N s0 s1 va cs D hz hU hD32 hBz' j u hj hkk hR)
    rw [Option.some.inj hds] at hK6
    exact hK6
  | 10, _, ho, hop, hds, hdep, hK, hK5 =>
    have hop : o.op = .assign (.tmp 15) := Option.some.inj hop
    obtain ⟨u15, hu15, hv15⟩ := hdep 8 (by decide)
    have hv15' : u15 = .int .i64 0 := hv15
    subst hv15'
    have e15 : a.eval (.tmp 15) = _ := ev_tmp hu15
    have hK := hK (Option.some.inj hds)
    refine st3 ho hwt (v := _) (w' := w) ?_ (hK _ w rfl (Below.refl _ _))
    unfold execOp
    rw [hop, ← e15]
    rfl
  | i + 11, hi, _, _, _, _, _, _ => exact absurd hi (by omega)

section
variable {w : World} {B g gk bm : Nat} {U N : Nat → Prop} {s : Bk} {va : Va} {cs : List Value}
set_option maxRecDepth 100000 in
set_option maxHeartbeats 1600000 in
theorem root_in (hk : Kb B w gk bm s N) (hB : B ≤ w.heap.size) (hs : s.1.length + 20000 < 1000000 ∧ s.2.2 + 20000 < 1000000) (h : VaIn w U g (.pointer (some ⟨gk, 0, none⟩)) va cs) (hU : ∀ i, U i → N i) :
    Calls Tryz.prog 40 #[.pointer (some ⟨g, 0, none⟩)] w fun e w' =>
      e = .returned (.tuple #[.agg (cbs (rootD (lows (leavesL va)))).toArray, .int .i64 0]) ∧ Kb B w' gk bm (noteAll s (insTo (leavesL va) (dep 13 - 1))) N ∧ Out (Tn B bm w N) w w' := by
  obtain ⟨w1, hw1⟩ : ∃ w1, w.alloc (.cells (cbs (List.replicate 32 0)).toArray 59) = w1 := ⟨_, rfl⟩
  have hb1 : Below w.heap.size w w1 := by rw [← hw1]; exact (Below.refl _ _).alloc (Nat.le_refl _) _
  have hz1 : w1.heap.size = w.heap.size + 1 := by rw [← hw1]; simp
  have hZ : Blk w1 w.heap.size 59 (cbs (List.replicate 32 0)) := by rw [← hw1]; exact Blk.new rfl rfl
  have h1 := h.below hb1
  have hk1 : Kb B w1 gk bm s (fun i => N i ∨ i = w.heap.size) := hk.belowN hb1 (fun i hi => hi.imp id fun e => by rw [e, hz1]; omega)
  obtain ⟨D, hD⟩ : ∃ D, cbs (rootD (lows (leavesL va))) = D := ⟨_, rfl⟩
  obtain ⟨s1, hs1⟩ : ∃ s1, noteAll s (insTo (leavesL va) (dep 13 - 1)) = s1 := ⟨_, rfl⟩
  have hrl : (rootD (lows (leavesL va))).length = 32 := root_len (by rw [lows_len, leavesL_len]; decide) (all32_lows _)
  have hD32 : D.length = 32 := by rw [← hD, cbs_length, hrl]
  have hD1 : D.toArray.all (·.oneCell') = true := by rw [← hD]; exact cbs_one' _
  have hmax : ∀ x ∈ leavesL va, x.length ≤ 65535 := fun x hx => by
    obtain ⟨j, hj, rfl⟩ := List.mem_map.1 hx
    exact leafB_max h.ok (List.mem_range.1 hj)
  have hUz : ¬ U w.heap.size := fun e => by have := h.lt _ e; omega
  have Hn := Lib.hid (vnone_in h1)
  have H := Lib.hid (And.intro hb1 (And.intro hz1 (And.intro hZ (And.intro h1 (And.intro hk1 (And.intro hD (And.intro hs1 (And.intro hD32 (And.intro hD1 (And.intro hmax (And.intro hUz (And.intro hB hs))))))))))))
  rw [hD, hs1]
  have Hw := Lib.hid hw1
  rw [← hw1] at Hn
  clear hk hs h hU hw1 hb1 hz1 hZ h1 hk1 hD hs1 hrl hD32 hD1 hmax hUz
  go_enter Tryz.func40, Tryz.ntmps40
  go_wp2_with (go_at_call 55; refine Hn.out.mono ?_; rintro e w' ⟨rfl, hww⟩; have hww2 := hww.symm; subst hww2; clear hww)
  have e0 : w.alloc (.cells (cbs [0, 0, 0, 0, 0, 0, 0, 0, 0, 0, 0, 0, 0, 0, 0, 0, 0, 0, 0, 0, 0, 0, 0, 0, 0, 0, 0, 0, 0, 0, 0, 0]).toArray 59) = w1 := Hw.out
  rw [e0]
  obtain ⟨hb1, hz1, hZ, h1, hk1, hD, hs1, hD32, hD1, hmax, hUz, hB', hs⟩ := H.out
  refine region_rule6 (P := Tryz.prog) 11 16 1 roK roD (roR w1 B g gk bm w.heap.size U (fun i => N i ∨ i = w.heap.size) s s1 va cs D) (fun W6 => Below B (w1) W6 ∧ roX w1 B g gk bm w.heap.size U (fun i => N i ∨ i = w.heap.size) s s1 va cs D W6) _ _ (by kernel_rfl) rfl rfl (by kernel_rfl) (by decide +kernel) (by decide +kernel) ⟨(Below.refl _ _).drew, trivial⟩ (fun x h1x h2x => by
    have : x = 11 := by omega
    subst this
    exact ⟨_, rfl, rfl, h1.below (Below.refl _ _).drew, hk1.below (Below.refl _ _).drew, (Out.refl _ _).then_below (Below.refl _ _).drew, cbs (List.replicate 32 0), rfl, hZ.below ((Below.refl _ _).drew) hZ.lt⟩) (ro_step w1 B g gk bm w.heap.size U (fun i => N i ∨ i = w.heap.size) s s1 va cs D (by rfl) (by rfl) (by decide +kernel) (by kernel_rfl) rfl rfl (by simp) (by rw [hz1]; omega) hB (by rw [hz1]; omega) (.inr rfl) hUz hs hmax hD hs1 hD32 hD1 hZ) ?fin
  case fin =>
    intro a6 w6 hbase hI hall
    obtain ⟨v3, hv3, hR3⟩ := hall 10 (by decide) (by decide)
    have hR3' : v3 = .int .i64 0 := hR3
    subst hR3'
    obtain ⟨gg, hgge, hgg⟩ := base_lit hbase [7, 8, 9, 10, 11, 12, 13, 14, 15, 6, 3] (by rfl)
    have q3 : gg 3 = .int .i64 0 := hgge 3 _ hv3
    simp only [List.foldl_cons, List.foldl_nil, List.setIfInBounds_toArray, List.set_cons_zero, List.set_cons_succ, q3] at hgg
    rw [hgg]
    obtain ⟨v6, _, _, hP1, hP2, zs, hz32, hzB⟩ := hall 6 (by decide) (by decide)
    obtain ⟨v9, _, hR9⟩ := hall 9 (by decide) (by decide)
    have hR9' : Blk w6 w.heap.size 59 D := hR9
    have hOf : Out (Tn B bm w N) w w6 := (Out.ofBelow (Tn B bm w N) hb1).trans hP2 fun i hi hs2 => by
      rcases hs2 with hs2 | e
      · refine ⟨hs2.1, fun e => hs2.2.1 (.inl e), ?_⟩
        rcases hs2.2.2 with e | ⟨cs, t, fr, hc'⟩
        · exact .inl e
        · exact .inr ⟨cs, t, fr, (hb1.block i hi).symm.trans hc'⟩
      · omega
    have hkf := hP1.less (N' := N) fun i hi => .inl hi
    have hi : (Tryz.prog.info? 59).map (·.size) = some D.toArray.size := by rw [List.size_toArray, hD32]; exact info32b
    have hrng := hR9'
    have H6 := Lib.hid (And.intro hrng (And.intro hi (And.intro hkf hOf)))
    clear hR3 hall hbase hI hP1 hP2 hzB hR9 hR9' hOf hkf hi hrng hb1 hz1 hZ h1 hk1 hD hs1 hD32 hD1 hmax hUz hB' hs
    go_wp2
    refine bodyPost_ret (results_row_tmp3 rfl _ _ w.heap.size 59 D.toArray (0, 0) _ rfl H6.out.1 Tryz.underlying59 rfl H6.out.2.1) rfl ?_
    exact ⟨rfl, H6.out.2.2⟩
end
end Go.Proofs.YtfaeechidjpjbaaGreat

namespace Go.Proofs.YtfaeechidjpjbaaGreat
open Go.RowKit
set_option linter.unusedVariables false
set_option linter.unusedSimpArgs false
def newC (bk : Value) (gr : Int) : List Value :=
  [bk, .int .i64 gr, .int .i64 0] ++ (List.replicate 128 (.int .u8 0) ++ [.int .i64 0, .slice none 0 0, .int .i64 0, .slice none 0 0, .int .i64 0, .slice none 0 0, .int .i64 0, .slice none 0 0, .slice none 0 0])
set_option maxRecDepth 100000 in
theorem built_vault (b : Addr) (gr : Int) : Tryz.prog.built 83 [(0, .pointer (some b)), (1, .int .i64 gr)] = some (newC (.pointer (some b)) gr).toArray := by kernel_rfl
theorem vault_info : (Tryz.prog.info? 83).map (·.size) = some 140 := by kernel_rfl
set_option maxRecDepth 100000 in
theorem new_va {w : World} {g : Nat} {bk : Value} {gr : Int} (hgr : 1 ≤ gr ∧ gr ≤ 2) (h : Blk w g 83 (newC bk gr)) : VaIn w (fun i => i = g) g bk (newV gr) (newC bk gr) := by
  refine ⟨newV_ok hgr, h, rfl, rfl, rfl, rfl, fun i hi => ?_, fun i hi => ?_, ⟨none, 0, 0, rfl, ⟨⟨rfl, Nat.le_refl _, by decide, ⟨rfl, fun hp => absurd hp (by simp [newV])⟩, fun x hx => by cases hx⟩, fun b ⟨a, e, _⟩ => by cases e⟩⟩, rfl, fun i hi => by subst hi; exact h.lt⟩
  · have hi8 : i = 0 ∨ i = 1 ∨ i = 2 ∨ i = 3 ∨ i = 4 ∨ i = 5 ∨ i = 6 ∨ i = 7 := by omega
    rcases hi8 with rfl | rfl | rfl | rfl | rfl | rfl | rfl | rfl <;> rfl
  · have hi4 : i = 0 ∨ i = 1 ∨ i = 2 ∨ i = 3 := by omega
    have hB : ByV w (fun b => (fun i => i = g) b ∧ b ≠ g) none 0 0 [] := ⟨rfl, Nat.le_refl _, by decide, Bs.nil _ _, fun b ⟨a, e, _⟩ => by cases e⟩
    rcases hi4 with rfl | rfl | rfl | rfl <;> exact ⟨rfl, none, 0, 0, rfl, hB⟩
end Go.Proofs.YtfaeechidjpjbaaGreat

namespace Go.Proofs.YtfaeechidjpjbaaGreat
open Go.RowKit Go.Maps
set_option linter.unusedVariables false
set_option linter.unusedSimpArgs false
section
variable {w : World} {B g gk bm : Nat} {U N : Nat → Prop} {s : Bk} {va : Va} {cs : List Value}
set_option maxRecDepth 100000 in
set_option maxHeartbeats 1600000 in
theorem rooted_in (hk : Kb B w gk bm s N) (hB : B ≤ w.heap.size) (hs : s.1.length + 20000 < 1000000 ∧ s.2.2 + 20000 < 1000000) (h : VaIn w U g (.pointer (some ⟨gk, 0, none⟩)) va cs) (hU : ∀ i, U i → N i) :
    Calls Tryz.prog 45 #[.pointer (some ⟨g, 0, none⟩)] w fun e w' =>
      e = .returned (.tuple #[.pointer (some ⟨g, 0, none⟩), .int .i64 0]) ∧ Kb B w' gk bm (noteAll s (insTo (leavesL va) (dep 13 - 1))) N ∧ Out (Tn B bm w N) w w' := by
  have Hr := Lib.hid (root_in hk hB hs h hU)
  obtain ⟨D, hD⟩ : ∃ D, cbs (rootD (lows (leavesL va))) = D := ⟨_, rfl⟩
  have hrl : (rootD (lows (leavesL va))).length = 32 := root_len (by rw [lows_len, leavesL_len]; decide) (all32_lows _)
  have hD32 : D.length = 32 := by rw [← hD, cbs_length, hrl]
  have hD1 : D.toArray.all (·.oneCell') = true := by rw [← hD]; exact cbs_one' _
  rw [hD] at Hr
  have H := Lib.hid (And.intro hD32 hD1)
  clear hk hB hs h hU hD hrl hD32 hD1
  go_enter Tryz.func45, Tryz.ntmps45
  go_wp2_with fail
  refine Hr.out.mono ?_
  rintro e w1 ⟨rfl, hk1, ho1⟩
  have hZ : Blk (w1.alloc (.cells (cbs (List.replicate 32 0)).toArray 59)) w1.heap.size 59 (cbs (List.replicate 32 0)) := Blk.new rfl rfl
  have hth : (w1.alloc (.cells (cbs (List.replicate 32 0)).toArray 59)).there w1.heap.size 0 D.toArray.size := by
    have e := hZ.there
    rw [cbs_length, List.length_replicate] at e
    rw [show D.toArray.size = 32 by rw [List.size_toArray]; exact H.out.1]; exact e
  have hi : (Tryz.prog.info? 59).map (·.size) = some D.toArray.size := by rw [List.size_toArray, H.out.1]; exact info32b
  have hb2 : Below w1.heap.size w1 ((w1.alloc (.cells (cbs (List.replicate 32 0)).toArray 59)).setCells w1.heap.size 0 D) := Below.setCells (Nat.le_refl _) D ((Below.refl _ _).alloc (Nat.le_refl _) _)
  have H2 := Lib.hid (And.intro hth (And.intro hi (And.intro H.out.2 (And.intro (hk1.below hb2) (ho1.then_below hb2)))))
  clear hk1 ho1 hZ hth hi hb2
  go_wp2_with (refine wpList_store_mid rfl 59 _ _ rfl w1.heap.size 0 D.toArray rfl rfl H2.out.1 H2.out.2.1 H2.out.2.2.1 ?_)
  go_ret2
  exact ⟨rfl, H2.out.2.2.2⟩
end
set_option maxRecDepth 100000 in
set_option maxHeartbeats 1600000 in
theorem vnew_any {w : World} {B gk bm : Nat} {N : Nat → Prop} {s : Bk} {gr : Int} (hk : Kb B w gk bm s N) (hB : B ≤ w.heap.size) (hs : s.1.length + 20000 < 1000000 ∧ s.2.2 + 20000 < 1000000) (hgr : 1 ≤ gr ∧ gr ≤ 2) :
    Calls Tryz.prog 20 #[.pointer (some ⟨gk, 0, none⟩), .int .i64 gr] w fun e w' =>
      e = .returned (.tuple #[.pointer (some ⟨w.heap.size, 0, none⟩), .int .i64 0]) ∧ VaAt w' (fun i => i = w.heap.size) w.heap.size (.pointer (some ⟨gk, 0, none⟩)) (newV gr) ∧
      Kb B w' gk bm (noteAll s (insTo (leavesL (newV gr)) (dep 13 - 1))) (fun i => N i ∨ i = w.heap.size) ∧ Out (Tn B bm w N) w w' := by
  obtain ⟨C, hC⟩ : ∃ C, newC (.pointer (some ⟨gk, 0, none⟩)) gr = C := ⟨_, rfl⟩
  have hbu : Tryz.prog.built 83 [(0, .pointer (some ⟨gk, 0, none⟩)), (1, .int .i64 gr)] = some C.toArray := by rw [← hC]; exact built_vault _ _
  have hn : C.length = 140 := by rw [← hC]; rfl
  obtain ⟨w1, hw1⟩ : ∃ w1, w.alloc (.cells C.toArray 83) = w1 := ⟨_, rfl⟩
  have hb1 : Below w.heap.size w w1 := by rw [← hw1]; exact (Below.refl _ _).alloc (Nat.le_refl _) _
  have hz1 : w1.heap.size = w.heap.size + 1 := by rw [← hw1]; simp
  have hV : Blk w1 w.heap.size 83 C := by rw [← hw1]; exact Blk.new rfl rfl
  have hva : VaIn w1 (fun i => i = w.heap.size) w.heap.size (.pointer (some ⟨gk, 0, none⟩)) (newV gr) C := by
    rw [← hC] at hV ⊢
    exact new_va hgr hV
  have hk1 : Kb B w1 gk bm s (fun i => N i ∨ i = w.heap.size) := hk.belowN hb1 (fun i hi => hi.imp id fun e => by rw [e, hz1]; omega)
  have Hr := Lib.hid (rooted_in hk1 (Nat.le_trans hB hb1.size) hs hva (fun i hi => .inr hi))
  have Hc := Lib.hid (isch_any w hgr)
  have hin : (Tryz.prog.info? 83).map (·.size) = some C.toArray.size := by rw [List.size_toArray, hn]; exact vault_info
  have H := Lib.hid (And.intro hbu (And.intro hin (And.intro hva (And.intro hb1 hz1))))
  have Hw := Lib.hid hw1
  clear hk hs hgr hC hbu hn hw1 hb1 hz1 hV hva hk1 hin
  go_enter Tryz.func20, Tryz.ntmps20
  go_wp2_with (first | (go_at_call 54; refine Hc.out.mono ?_; rintro e w' ⟨rfl, hww⟩; have hww2 := hww.symm; subst hww2; clear hww) | (refine wpList_build_g rfl 83 _ rfl C.toArray H.out.1 ?_; simp only [Act.put]))
  rw [Hw.out]
  refine Hr.out.mono ?_
  rintro e w2 ⟨rfl, hk2, ho2⟩
  obtain ⟨_, _, hva, hb1, hz1⟩ := H.out
  have hva2 : VaAt w2 (fun i => i = w.heap.size) w.heap.size (.pointer (some ⟨gk, 0, none⟩)) (newV gr) := ⟨_, hva.out ho2 fun i hi e => e.2.1 (.inr hi)⟩
  have hOf : Out (Tn B bm w N) w w2 := (Out.ofBelow (Tn B bm w N) hb1).trans ho2 fun i hi hs => by
    refine ⟨hs.1, fun e => hs.2.1 (.inl e), ?_⟩
    rcases hs.2.2 with e | ⟨cs, t, fr, hc'⟩
    · exact .inl e
    · exact .inr ⟨cs, t, fr, (hb1.block i hi).symm.trans hc'⟩
  have H3 := Lib.hid (And.intro hva2 (And.intro hk2 hOf))
  clear hva hb1 hz1 hva2 hOf hk2 ho2
  go_wp2
  go_ret2
  exact ⟨rfl, H3.out⟩
end Go.Proofs.YtfaeechidjpjbaaGreat

namespace Go.Proofs.YtfaeechidjpjbaaGreat
open Go.RowKit Go.Maps
set_option linter.unusedVariables false
set_option linter.unusedSimpArgs false
def sxB (b : UInt8) (k : Nat) : List UInt8 := List.replicate k b ++ List.replicate (16 - k) 0
theorem sxB_step (b : UInt8) {k : Nat} (h : k < 16) : (cbs (sxB b k)).set k (cb b) = cbs (sxB b (k + 1)) := by
  unfold sxB
  rw [show 16 - k = (16 - (k + 1)) + 1 by omega, List.replicate_succ (n := 16 - (k + 1)), List.replicate_succ' (n := k)]
  simp [cbs]
theorem sxB_len (b : UInt8) {k : Nat} (h : k ≤ 16) : (sxB b k).length = 16 := by unfold sxB; simp; omega
theorem blk_set {w : World} {g : Nat} {t : TypeId} {cs cs' : List Value} {k : Nat} {v : Value} (h : Blk w g t cs) (hk : k < cs.length) (e : cs.set k v = cs') : Blk (w.setCell ⟨g, k, none⟩ v) g t cs' := by
  subst e; exact h.set_ k v
set_option maxRecDepth 100000 in
set_option maxHeartbeats 1600000 in
theorem sixteen_any (b : UInt8) (w : World) : Calls Tryz.prog 23 #[.int .u8 (b.toNat : Int)] w (RetB w (List.replicate 16 b)) := by
  obtain ⟨i0, hi, hz0, hz1, hz2⟩ := info_parts u8_info
  obtain ⟨L, hL⟩ : ∃ L, List.replicate 16 b = L := ⟨_, rfl⟩
  rw [hL]
  have HL := Lib.hid hL
  clear hL
  go_enter Tryz.func23, Tryz.ntmps23
  go_wp2_with (at_make; refine wpList_make_full _ rfl _ _ 22 rfl w.heap.size 5 i0 (.int .u8 0) 1 Tryz.underlying22 hi hz0 hz1 .i64 .i64 _ _ 16 rfl rfl (by omega) (by omega) (by rw [hz2]; omega) (by unfold maxLen; omega) (Nat.le_refl _) ?_; intro w1 ho1 hg1; rw [make_zero] at ho1)
  have H1 : Hid (Blk w1 w.heap.size 5 (cbs (sxB b 0)) ∧ Below w.heap.size w w1) := by
    refine ⟨?_, (Below.refl _ _).grown hg1 (Nat.le_refl _) (by simp)⟩
    obtain ⟨_, ⟨_, h⟩ | ⟨g, cap, cur, e, _, hB, _, _, hl, ht⟩⟩ := ho1
    · cases h
    · injection e with e1 e2 e3
      injection e1 with e1
      injection e1 with e1
      subst e1
      have hc : cur.toList = cbs (sxB b 0) := by
        have hl' : cur.toList.length = 16 := by simpa [e3] using hl
        rw [List.take_of_length_le (by rw [hl']; simp)] at ht
        exact ht
      rw [← hc]
      exact hB
  clear ho1 hg1
  go_loopw [4] (fun i wr => ∃ k : Nat, k ≤ 16 ∧ i = .int .i64 k ∧ Hid (Blk wr w.heap.size 5 (cbs (sxB b k)) ∧ Below w.heap.size w wr)) (fun i _ => 16 - (intOf i).toNat)
  case atStart => exact ⟨0, Nat.zero_le _, rfl, H1.out⟩
  case round =>
    obtain ⟨k, hk, rfl, hI⟩ := hrel
    by_cases hlt : k < 16
    · have hlt' : (k : Int) < 16 := by omega
      have i0 : (0 : Int) ≤ (k : Int) := by omega
      have hl : (cbs (sxB b k)).length = 16 := by rw [cbs_length, sxB_len b hk]
      have f0 := hI.out.1.free k
      obtain ⟨v0, c0⟩ : ∃ v, wr.cell? ⟨w.heap.size, k, none⟩ = some v := ⟨_, hI.out.1.cell (i := k) (List.getElem?_eq_getElem (by rw [hl]; exact hlt))⟩
      clear hl
      go_wp2
      go_roundw
      case rel => exact ⟨k + 1, by omega, by go_num, blk_set hI.out.1 (by rw [cbs_length, sxB_len b hk]; exact hlt) (sxB_step b hlt), hI.out.2.setCell (Nat.le_refl _) _⟩
      case measure => simp [intOf]; omega
    · have hlt' : ¬ (k : Int) < 16 := by omega
      have hk16 : k = 16 := by omega
      subst hk16
      go_wp2
      go_ret
      have e : sxB b 16 = L := by rw [← HL.out]; unfold sxB; simp
      have hl : L.length = 16 := by rw [← HL.out]; simp
      have hB := hI.out.1
      rw [e] at hB
      have hM : Mine wr w.heap.size 5 (.slice (some ⟨w.heap.size, 0, none⟩) 16 16) L := ⟨by rw [cbs_length, Nat.mul_one], .inr ⟨w.heap.size, 16, (cbs L).toArray, by rw [hl], Nat.le_refl _, hB, by omega, by decide, by rw [List.size_toArray, cbs_length, hl], by rw [hl]; exact List.take_of_length_le (by rw [cbs_length, hl]; decide)⟩⟩
      exact ⟨_, rfl, hM, hI.out.2⟩
end Go.Proofs.YtfaeechidjpjbaaGreat

namespace Go.Proofs.YtfaeechidjpjbaaGreat
open Go.RowKit Go.Maps
set_option linter.unusedVariables false
set_option linter.unusedSimpArgs false
theorem wish_size : (Tryz.prog.info? 45).map (·.size) = some 10 := by kernel_rfl
/-- The results: a wish in its cell. -/
theorem res_w {fn : Func} {p : Tmp} (h : fn.results = #[.cell p 45]) {tmps : Array Value} {w : World} {g : Nat} {cs : List Value}
    (hg : Blk w g 45 cs) (hl : cs.length = 10) (hp : tmps.getD p undef = .pointer (some ⟨g, 0, none⟩)) :
    (results fn tmps).run Tryz.prog w = .ok (.agg cs.toArray) w := by
  have hp' : tmps[p]?.getD undef = .pointer (some ⟨g, 0, none⟩) := by simpa using hp
  simp [results, h, hp', asAddr, run_loadVar_row w g 45 45 cs.toArray (0, 0) _ hg Tryz.underlying45 rfl (by rw [List.size_toArray, hl]; exact wish_size)]
abbrev zW : List Value := [.int .i64 0, .int .i64 0, .int .i64 0, .int .i64 0, .int .i64 0, .int .i64 0, .slice none 0 0, .int .i64 0, .int .i64 0, .slice none 0 0]
set_option maxRecDepth 100000 in
set_option maxHeartbeats 1600000 in
theorem vread_any (cl sp ep bl : Int) (w : World) : Calls Tryz.prog 28 #[.int .i64 cl, .int .i64 sp, .int .i64 ep, .int .i64 bl] w fun e w' => e = .returned (.agg #[.int .i64 cl, .int .i64 sp, .int .i64 1, .int .i64 ep, .int .i64 1, .int .i64 bl, .slice none 0 0, .int .i64 0, .int .i64 0, .slice none 0 0]) ∧ Below w.heap.size w w' := by
  go_enter Tryz.func28, Tryz.ntmps28
  go_wp2
  refine bodyPost_ret (res_w rfl (cs := [.int .i64 cl, .int .i64 sp, .int .i64 1, .int .i64 ep, .int .i64 1, .int .i64 bl, .slice none 0 0, .int .i64 0, .int .i64 0, .slice none 0 0]) (Blk.new rfl rfl) rfl rfl) rfl ?_
  exact ⟨rfl, (Below.refl _ _).alloc (Nat.le_refl _) _⟩
theorem wr_facts {w2 : World} (cl sp ep bl : Int) {g : Nat} {L : List UInt8} {d : Value} {w1 : World} (hB : Blk w1 g 45 zW) (hl : L.length = 16) (hd : NewB w1 L d w2) :
    ∃ X : List Value, [.int .i64 cl, .int .i64 sp, .int .i64 1, .int .i64 ep, .int .i64 2, .int .i64 bl, d, .int .i64 0, .int .i64 0, .slice none 0 0] = X ∧
      Hid (w2.there g 0 X.toArray.size ∧ Blk (w2.setCells g 0 X) g 45 X ∧ NewB w1 L d w2 ∧ (Tryz.prog.info? 45).map (·.size) = some X.toArray.size ∧
        Tryz.prog.built 45 [(4, .int .i64 2), (0, .int .i64 cl), (1, .int .i64 sp), (2, .int .i64 1), (3, .int .i64 ep), (5, .int .i64 bl), (6, d)] = some X.toArray ∧ X.toArray.all (·.oneCell') = true ∧ X.length = 10) := by
  obtain ⟨A, c, rfl, hl1, hc1, _⟩ := hd.form
  rw [hl] at hd ⊢
  have hB2 := hB.below hd.2 hB.lt
  refine ⟨_, rfl, ?_⟩
  obtain ⟨X, hX⟩ : ∃ X : List Value, [.int .i64 cl, .int .i64 sp, .int .i64 1, .int .i64 ep, .int .i64 2, .int .i64 bl, .slice A 16 c, .int .i64 0, .int .i64 0, .slice none 0 0] = X := ⟨_, rfl⟩
  rw [hX]
  have hl : X.length = 10 := by rw [← hX]; rfl
  have hset := hB2.setAll (vs := X) (by rw [hl]; rfl)
  have hth : w2.there g 0 X.toArray.size := by rw [show X.toArray.size = 10 by rw [List.size_toArray]; exact hl]; exact hB2.there
  have hin : (Tryz.prog.info? 45).map (·.size) = some X.toArray.size := by rw [List.size_toArray, hl]; exact wish_size
  have hbu : Tryz.prog.built 45 [(4, .int .i64 2), (0, .int .i64 cl), (1, .int .i64 sp), (2, .int .i64 1), (3, .int .i64 ep), (5, .int .i64 bl), (6, .slice A 16 c)] = some X.toArray := by rw [← hX]; kernel_rfl
  have h1 : X.toArray.all (·.oneCell') = true := by rw [← hX]; simp [Value.oneCell']
  exact Lib.hid ⟨hth, hset, hd, hin, hbu, h1, hl⟩
set_option maxRecDepth 100000 in
set_option maxHeartbeats 1600000 in
theorem vwrite_any (cl sp ep bl : Int) (b : UInt8) (w : World) : Calls Tryz.prog 39 #[.int .i64 cl, .int .i64 sp, .int .i64 ep, .int .i64 bl, .int .u8 (b.toNat : Int)] w fun e w' => ∃ A c, e = .returned (.agg #[.int .i64 cl, .int .i64 sp, .int .i64 1, .int .i64 ep, .int .i64 2, .int .i64 bl, .slice A 16 c, .int .i64 0, .int .i64 0, .slice none 0 0]) ∧ NewB w (List.replicate 16 b) (.slice A 16 c) w' := by
  obtain ⟨L, hL⟩ : ∃ L, List.replicate 16 b = L := ⟨_, rfl⟩
  have hl : L.length = 16 := by rw [← hL]; simp
  have hB : Blk (w.alloc (.cells zW.toArray 45)) w.heap.size 45 zW := Blk.new rfl rfl
  have hb : Below w.heap.size w (w.alloc (.cells zW.toArray 45)) := (Below.refl _ _).alloc (Nat.le_refl _) _
  have Hs := Lib.hid (sixteen_any b (w.alloc (.cells zW.toArray 45)))
  rw [hL] at Hs ⊢
  have H := Lib.hid (And.intro hB (And.intro hb hl))
  clear hB hb hL hl
  go_enter Tryz.func39, Tryz.ntmps39
  go_wp2_with (first
    | (go_at_call 23; refine Hs.out.mono ?_; rintro e w2 ⟨d, rfl, hd⟩; obtain ⟨X, hX, H2⟩ := wr_facts cl sp ep bl H.out.1 H.out.2.2 hd; clear hd)
    | (refine wpList_build_g rfl 45 _ rfl X.toArray H2.out.2.2.2.2.1 ?_; simp only [Act.put])
    | (refine wpList_store_mid rfl 45 _ _ rfl w.heap.size 0 X.toArray rfl rfl H2.out.1 H2.out.2.2.2.1 H2.out.2.2.2.2.2.1 ?_; simp only [Act.put]))
  refine bodyPost_ret (res_w rfl H2.out.2.1 H2.out.2.2.2.2.2.2 rfl) rfl ?_
  have hb2 := H.out.2.1.trans (H2.out.2.2.1.2.mono H.out.2.1.size)
  obtain ⟨A, c, hdA, hl1, hc1, _⟩ := H2.out.2.2.1.form
  rw [H.out.2.2] at hdA
  refine ⟨A, c, by rw [← hX, hdA], ?_, Below.setCells (Nat.le_refl _) _ hb2⟩
  rw [← hdA]
  refine mine_far H2.out.2.2.1.1 H.out.2.1.size (fun i hi => block_setCells (fun e => ?_) _)
  have := H.out.1.lt
  omega
set_option maxRecDepth 100000 in
set_option maxHeartbeats 1600000 in
theorem vseal_any (ep : Int) (w : World) : Calls Tryz.prog 35 #[.int .i64 ep] w fun e w' => ∃ A, e = .returned (.agg #[.int .i64 0, .int .i64 0, .int .i64 1, .int .i64 ep, .int .i64 5, .int .i64 0, .slice none 0 0, .int .i64 0, .int .i64 0, .slice A 4 4]) ∧ ArgI w' A 4 4 [1, 2, 3, 4] ∧ (∀ b, inA A b → w.heap.size ≤ b) ∧ Below w.heap.size w w' := by
  obtain ⟨w1, hw1⟩ : ∃ w1, (w.alloc (.cells zW.toArray 45)).alloc (.cells #[.int .i64 1, .int .i64 2, .int .i64 3, .int .i64 4] 3) = w1 := ⟨_, rfl⟩
  have hB : Blk w1 w.heap.size 45 zW := by rw [← hw1]; exact (Blk.new rfl rfl).old _
  have hb : Below w.heap.size w w1 := by rw [← hw1]; exact ((Below.refl _ _).alloc (Nat.le_refl _) _).alloc (by simp) _
  have hA : ArgI w1 (some ⟨w.heap.size + 1, 0, none⟩) 4 4 [1, 2, 3, 4] := by
    rw [← hw1]
    have := argI_new (w.alloc (.cells zW.toArray 45)) [1, 2, 3, 4] (by simp) (fun y hy => wf_in (by simp at hy; omega))
    rw [show (w.alloc (.cells zW.toArray 45)).heap.size = w.heap.size + 1 by simp] at this
    exact this
  obtain ⟨X, hX⟩ : ∃ X : List Value, [.int .i64 0, .int .i64 0, .int .i64 1, .int .i64 ep, .int .i64 5, .int .i64 0, .slice none 0 0, .int .i64 0, .int .i64 0, .slice (some ⟨w.heap.size + 1, 0, none⟩) 4 4] = X := ⟨_, rfl⟩
  have hl : X.length = 10 := by rw [← hX]; rfl
  have hset := hB.setAll (vs := X) (by rw [hl]; rfl)
  have hth : w1.there w.heap.size 0 X.toArray.size := by rw [show X.toArray.size = 10 by rw [List.size_toArray]; exact hl]; exact hB.there
  have hin : (Tryz.prog.info? 45).map (·.size) = some X.toArray.size := by rw [List.size_toArray, hl]; exact wish_size
  have hbu : Tryz.prog.built 45 [(4, .int .i64 5), (2, .int .i64 1), (3, .int .i64 ep), (9, .slice (some ⟨w.heap.size + 1, 0, none⟩) 4 4)] = some X.toArray := by rw [← hX]; kernel_rfl
  have h1 : X.toArray.all (·.oneCell') = true := by rw [← hX]; simp [Value.oneCell']
  have H := Lib.hid (And.intro hth (And.intro hset (And.intro hb (And.intro hA (And.intro hin (And.intro hbu (And.intro h1 hl)))))))
  have HX := Lib.hid hX
  have Hw := Lib.hid hw1
  clear hB hb hA hset hth hw1 hin hbu h1 hl hX
  go_enter Tryz.func35, Tryz.ntmps35
  go_wp2_with (first | (refine wpList_build_g rfl 45 _ rfl X.toArray H.out.2.2.2.2.2.1 ?_; simp only [Act.put]; rw [Hw.out]) | (refine wpList_store_mid rfl 45 _ _ rfl w.heap.size 0 X.toArray rfl rfl H.out.1 H.out.2.2.2.2.1 H.out.2.2.2.2.2.2.1 ?_; simp only [Act.put]))
  refine bodyPost_ret (res_w rfl H.out.2.1 H.out.2.2.2.2.2.2.2 rfl) rfl ?_
  refine ⟨some ⟨w.heap.size + 1, 0, none⟩, by rw [← HX.out], ?_, fun b ⟨a, e1, e2⟩ => by injection e1 with e1; subst e1; simp at e2; omega, Below.setCells (Nat.le_refl _) _ H.out.2.2.1⟩
  refine argI_out (S := fun i => i = w.heap.size) H.out.2.2.2.1 (out_set (S := fun i => i = w.heap.size) (Out.refl _ _) rfl _) (fun b hb => ?_)
  obtain ⟨a, e1, e2⟩ := hb
  injection e1 with e1
  subst e1
  simp at e2
  omega
end Go.Proofs.YtfaeechidjpjbaaGreat

namespace Go.Proofs.YtfaeechidjpjbaaGreat
open Go.RowKit Go.Maps
set_option linter.unusedVariables false
set_option linter.unusedSimpArgs false
/-- A wish that was made since that world, its cells by name. -/
def WishR (P : Wl → Prop) (w : World) (e : Ending) (w' : World) : Prop :=
  ∃ (X : List Value) (x : Wl) (D : Option Addr) (nd cd : Nat) (N : Option Addr) (nn cn : Nat), e = .returned (.agg X.toArray) ∧ X = [.int .i64 x.cl, .int .i64 x.sp, .int .i64 x.gr, .int .i64 x.ep, .int .i64 x.kd, .int .i64 x.bl, .slice D nd cd, .int .i64 x.od, .int .i64 x.nw, .slice N nn cn] ∧
    ArgW w' x D nd cd N nn cn ∧ P x ∧ (∀ b, inA D b → w.heap.size ≤ b) ∧ (∀ b, inA N b → w.heap.size ≤ b) ∧ Below w.heap.size w w'
theorem wf_ep {x : Int} (h : 0 ≤ x ∧ x ≤ 1048577) : Wf x := wf_in (by omega)
theorem own_new {w w' : World} {base n c : Nat} {A : Option Addr} {l : List UInt8} (h : Mine w base 5 (.slice A n c) l) : ∀ b, inA A b → base ≤ b := fun b hb => mine_own h ⟨A, n, c, rfl, hb⟩
theorem none_in {b B : Nat} (h : inA none b) : B ≤ b := by obtain ⟨a, e, _⟩ := h; cases e
theorem none_arg (w : World) : ArgI w none 0 0 [] := ⟨rfl, Nat.le_refl _, by decide, ⟨rfl, fun hp => absurd hp (by simp)⟩, fun x hx => by cases hx⟩
theorem rd_x (cl sp ep bl : Int) (hcl : 31 ≤ cl ∧ cl ≤ 34) (hsp : 1 ≤ sp ∧ sp ≤ 9007199254740991) (hep : 0 ≤ ep ∧ ep ≤ 1048576) (hbl : 0 ≤ bl ∧ bl ≤ 7) (w : World) :
    Calls Tryz.prog 28 #[.int .i64 cl, .int .i64 sp, .int .i64 ep, .int .i64 bl] w (WishR (fun x => May x ∧ x = ⟨cl, sp, 1, ep, 1, bl, [], 0, 0, []⟩) w) :=
  (vread_any cl sp ep bl w).mono fun e w' ⟨he, hb⟩ => ⟨_, ⟨cl, sp, 1, ep, 1, bl, [], 0, 0, []⟩, none, 0, 0, none, 0, 0, he, rfl,
    ⟨⟨rfl, Nat.le_refl _, by decide, Bs.nil _ _, by decide⟩, ⟨none_arg w', by decide⟩, wf_in (by simp only; omega), wf_in (by simp only; omega), wf_in (by simp only; omega), wf_in (by simp only; omega), wf_in (by simp only; omega), wf_in (by simp only; omega), wf_in (by simp only; omega), wf_in (by simp only; omega)⟩,
    ⟨⟨by simp only; omega, .inl ⟨rfl, ⟨by simp only; omega, by simp only; omega⟩, ⟨by simp only; omega, by simp only; omega⟩, rfl, ⟨rfl, rfl⟩, rfl⟩⟩, rfl⟩, fun b hb => none_in hb, fun b hb => none_in hb, hb⟩
theorem wr_x (cl sp ep bl : Int) (d : UInt8) (hcl : 31 ≤ cl ∧ cl ≤ 34) (hsp : 1 ≤ sp ∧ sp ≤ 9007199254740991) (hep : 0 ≤ ep ∧ ep ≤ 1048576) (hbl : 0 ≤ bl ∧ bl ≤ 7) (w : World) :
    Calls Tryz.prog 39 #[.int .i64 cl, .int .i64 sp, .int .i64 ep, .int .i64 bl, .int .u8 (d.toNat : Int)] w (WishR (fun x => May x ∧ x = ⟨cl, sp, 1, ep, 2, bl, List.replicate 16 d, 0, 0, []⟩) w) :=
  (vwrite_any cl sp ep bl d w).mono fun e w' ⟨A, c, he, hN⟩ => by
    obtain ⟨A', c', e1, h1, h2, h3⟩ := hN.form
    have hl : (List.replicate 16 d).length = 16 := by simp
    rw [hl] at e1 h1
    injection e1 with e1 _ e2
    subst e1
    subst e2
    exact ⟨_, ⟨cl, sp, 1, ep, 2, bl, List.replicate 16 d, 0, 0, []⟩, A, 16, c, none, 0, 0, he, rfl,
      ⟨⟨hl, h1, h2, h3, by decide⟩, ⟨none_arg w', by decide⟩, wf_in (by simp only; omega), wf_in (by simp only; omega), wf_in (by simp only; omega), wf_in (by simp only; omega), wf_in (by simp only; omega), wf_in (by simp only; omega), wf_in (by simp only; omega), wf_in (by simp only; omega)⟩,
      ⟨⟨by simp only; omega, .inr (.inl ⟨rfl, ⟨by simp only; omega, by simp only; omega⟩, ⟨by simp only; omega, by simp only; omega⟩, hl, ⟨rfl, rfl⟩, rfl⟩)⟩, rfl⟩, own_new (w' := w') hN.1, fun b hb => none_in hb, hN.2⟩
theorem ris4 : Nxt [1, 2, 3, 4] := by refine ⟨.inr (.inl rfl), ?_⟩; simp [ris]
theorem se_x (ep : Int) (hep : 0 ≤ ep ∧ ep ≤ 1048576) (w : World) :
    Calls Tryz.prog 35 #[.int .i64 ep] w (WishR (fun x => May x ∧ x = ⟨0, 0, 1, ep, 5, 0, [], 0, 0, [1, 2, 3, 4]⟩) w) :=
  (vseal_any ep w).mono fun e w' ⟨A, he, hA, hAo, hb⟩ => ⟨_, ⟨0, 0, 1, ep, 5, 0, [], 0, 0, [1, 2, 3, 4]⟩, none, 0, 0, A, 4, 4, he, rfl,
    ⟨⟨rfl, Nat.le_refl _, by decide, Bs.nil _ _, by decide⟩, ⟨hA, by decide⟩, wf_in (by simp only; omega), wf_in (by simp only; omega), wf_in (by simp only; omega), wf_in (by simp only; omega), wf_in (by simp only; omega), wf_in (by simp only; omega), wf_in (by simp only; omega), wf_in (by simp only; omega)⟩,
    ⟨⟨by simp only; omega, .inr (.inr (.inr (.inr ⟨rfl, ⟨rfl, rfl, by simp only; omega, rfl⟩, rfl, ⟨rfl, rfl⟩, ris4⟩)))⟩, rfl⟩, fun b hb => none_in hb, hAo, hb⟩
end Go.Proofs.YtfaeechidjpjbaaGreat
