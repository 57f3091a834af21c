/-
  What is seen of a plate, over the code.
-/
import Derived.Test.YtmcbjcopipafdaaPlate
import Derived.Test.YtmcbjcopipafdaaBuild
namespace Go.Proofs.Ytmcbjcopipafdaa
open Go.RowKit Go.Maps
set_option linter.unusedVariables false

theorem load_row_g {P : Program} {ops : Array Oper} {rest : List Oper} {o : Oper} {a : Act} {w : World} {Q : Exit → Act → World → Prop} (hw : Region.wanted o (yielded ops a.tmps) = true) (ty : TypeId) (x : Operand) (ho : o.op = .load ty x)
    (g : Nat) (hx : a.eval x = .pointer (some ⟨g, 0, none⟩)) (t : TypeId) (cs : Array Value) (fr : Nat × Nat) (d : TypeDesc) (hg : w.heap[g]? = some (.cells cs t fr))
    (hu : P.underlying ty = some d) (hd : (match d with | .struct _ | .array _ _ => true | _ => false) = true) (hi : (P.info? ty).map (·.size) = some cs.size)
    (h : wpList P ops Q rest (a.put o.dst (.agg cs)) w) : wpList P ops Q (o :: rest) a w :=
  wpList_step fun K hK => by rw [if_pos hw]; exact wp_load_row ty x ho g hx t cs fr d hg hu hd hi (hK _ _ h)
/-- 'v, ok := m[i]' and 'm[i]', at the operation. -/
theorem wp_lookW {w : World} {ops : Array Oper} {rest : List Oper} {o : Oper} {a : Act} {Q : Exit → Act → World → Prop} (hgd : o.guard = none) (mo xo : Operand) (ho : o.op = Op.lookup 37 mo xo true)
    (m : Nat) (wt : Wt) (x : Int) (hm : a.eval mo = .map (some m)) (hx : a.eval xo = .int .i64 x) (h : Wm w m wt) (hw : Wf x) (v : Value) (b : Bool) (hv : vOf (wtAt wt x) = v) (hb : (wtAt wt x).isSome = b)
    (hK : wpList Try.prog ops Q rest (a.put o.dst (.tuple #[v, .bool b])) w) : wpList Try.prog ops Q (o :: rest) a w := by
  subst hv; subst hb
  refine wpList_plain hgd fun K' hK' => ?_
  unfold Oper.wp
  simp [execOp, ho, hm, hx, h.look hw, Result.andThen]
  exact hK' _ _ hK

theorem info64 : (Try.prog.info? 48).map (·.size) = some 64 := by kernel_rfl
abbrev zsec : Obj := .cells (cbs zero64).toArray 48 (0, 0)
/-- A sector's cells laid into a new variable. -/
theorem sec_local (w : World) (D : List Value) (hD : D.length = 64) : ∃ wS, (w.alloc zsec).setCells w.heap.size 0 D = wS ∧ (w.alloc zsec).there w.heap.size 0 D.toArray.size ∧ (Try.prog.info? 48).map (·.size) = some D.toArray.size ∧
    Blk wS w.heap.size 48 D ∧ Below w.heap.size w wS ∧ wS.heap.size = w.heap.size + 1 := by
  have hs : D.toArray.size = 64 := by rw [List.size_toArray]; exact hD
  have hB : Blk (w.alloc zsec) w.heap.size 48 (cbs zero64) := Blk.new rfl rfl
  refine ⟨_, rfl, ?_, ?_, ?_, ?_, ?_⟩
  · have e := hB.there
    rw [cbs_length] at e
    rw [hs]; exact e
  · rw [hs]; exact info64
  · exact hB.setAll (vs := D) (by rw [hD, cbs_length]; rfl)
  · exact Below.setCells (Nat.le_refl _) _ ((Below.refl _ _).alloc (Nat.le_refl _) _)
  · rw [size_cells, World.size_alloc]
/-- Two new variables: the second one first, then the first one. -/
theorem sec_two (w : World) (D1 D2 : List Value) (h1 : D1.length = 64) (h2 : D2.length = 64) : ∃ wA wB, ((w.alloc zsec).alloc zsec).setCells (w.heap.size + 1) 0 D1 = wA ∧ wA.setCells w.heap.size 0 D2 = wB ∧
    ((w.alloc zsec).alloc zsec).there (w.heap.size + 1) 0 D1.toArray.size ∧ wA.there w.heap.size 0 D2.toArray.size ∧
    (Try.prog.info? 48).map (·.size) = some D1.toArray.size ∧ (Try.prog.info? 48).map (·.size) = some D2.toArray.size ∧
    Blk wA (w.heap.size + 1) 48 D1 ∧ Blk wB w.heap.size 48 D2 ∧ Below w.heap.size w wA ∧ Below w.heap.size w wB := by
  have hs1 : D1.toArray.size = 64 := by rw [List.size_toArray]; exact h1
  have hs2 : D2.toArray.size = 64 := by rw [List.size_toArray]; exact h2
  have hB1 : Blk ((w.alloc zsec).alloc zsec) w.heap.size 48 (cbs zero64) := (Blk.new rfl rfl).old _
  have hB2 : Blk ((w.alloc zsec).alloc zsec) (w.heap.size + 1) 48 (cbs zero64) := Blk.new rfl (by simp)
  have b0 : Below w.heap.size w ((w.alloc zsec).alloc zsec) := ((Below.refl _ _).alloc (Nat.le_refl _) _).alloc (by simp) _
  have hB1' := Blk.farAll (g' := w.heap.size + 1) (by omega) D1 (o := 0) hB1
  have hB2' := hB2.setAll (vs := D1) (by rw [h1, cbs_length]; rfl)
  have bA : Below w.heap.size w (((w.alloc zsec).alloc zsec).setCells (w.heap.size + 1) 0 D1) := Below.setCells (by omega) _ b0
  refine ⟨_, _, rfl, rfl, ?_, ?_, ?_, ?_, hB2', ?_, bA, Below.setCells (Nat.le_refl _) _ bA⟩
  · have e := hB2.there
    rw [cbs_length] at e
    rw [hs1]; exact e
  · have e := hB1'.there
    rw [cbs_length] at e
    rw [hs2]; exact e
  · rw [hs1]; exact info64
  · rw [hs2]; exact info64
  · exact hB1'.setAll (vs := D2) (by rw [h2, cbs_length]; rfl)

section
variable {w : World} {M : Nat → Prop} {g r m : Nat} {P : Pl}
theorem PlAt.range (h : PlAt w M g r m P) {i : Nat} (hi : i < P.st.length) : w.rangeAt r (i * 64) (cbs (P.st[i])) := fun j v hv => by
  have h64 := h.wl.st64 _ (List.getElem_mem hi)
  have hj : j < 64 := by
    rcases Nat.lt_or_ge j 64 with h' | h'
    · exact h'
    · rw [List.getElem?_eq_none (by rw [cbs_length, h64]; exact h')] at hv; cases hv
  exact h.row.cell (by rw [flat_at h.wl.st64 hi hj]; exact hv)
theorem cbs_all (l : List UInt8) : (cbs l).toArray.all (·.oneCell') = true := all_oneCell_toArray (cbs_one l)

set_option maxRecDepth 100000 in
set_option maxHeartbeats 1600000 in
theorem seen_any (h : PlAt w M g r m P) {i : Nat} (hi : i < P.st.length) : Calls Try.prog 18 #[.pointer (some ⟨g, 0, none⟩), .int .i64 (i : Int)] w fun e w' => e = .returned (agg64 (seenAt P.st P.wt i)) ∧ Below w.heap.size w w' := by
  have h64 := h.wl.seen hi
  have hn2 := h.wl.n2
  have hwf : Wf (i : Int) := wf_nat (by omega)
  obtain ⟨kv, hb, _⟩ := h.blk
  have hglt : g < w.heap.size := hb.lt
  have b0 : Below w.heap.size w (w.alloc zsec) := (Below.refl _ _).alloc (Nat.le_refl _) _
  have c0 : w.cell? ⟨g, 1, none⟩ = some (.map (some m)) := hb.cell rfl
  have hm0 := (h.below b0).map
  obtain ⟨D, hD, hDl, hDa⟩ : ∃ D, cbs (seenAt P.st P.wt i) = D ∧ D.length = 64 ∧ D.toArray.all (·.oneCell') = true := ⟨_, rfl, by rw [cbs_length]; exact h64, cbs_all _⟩
  unfold agg64
  rw [hD]
  by_cases hw : ∃ x, wtAt P.wt (i : Int) = some x
  · obtain ⟨x, hx⟩ := hw
    have ex : seenAt P.st P.wt i = x := by
      rw [wtAt_nat] at hx
      unfold seenAt
      rcases e : P.wt[i]? with _ | _ | y
      · rw [e] at hx; cases hx
      · rw [e] at hx; cases hx
      · rw [e] at hx; injection hx
    have ev : vOf (wtAt P.wt (i : Int)) = .agg D.toArray := by rw [hx, ← hD, ex]; rfl
    have eb : (wtAt P.wt (i : Int)).isSome = true := by rw [hx]; rfl
    obtain ⟨wA, wB, eA, eB, t1, t2, i1, i2, B1, B2, bA, bB⟩ := sec_two w D D hDl hDl
    have H := Lib.hid (And.intro hm0 (And.intro ev (And.intro eb (And.intro eA (And.intro eB (And.intro t1 (And.intro t2 (And.intro i1 (And.intro i2 (And.intro B1 (And.intro B2 (And.intro bA bB))))))))))))
    clear hm0 ev eb eA eB t1 t2 i1 i2 B1 B2 bA bB hD hDl h64 hx ex h hb b0
    go_enter Try.func18, Try.ntmps18
    go_wp2_with (first
      | (at_lookup; refine wp_lookW rfl _ _ rfl m P.wt (i : Int) rfl rfl H.out.1 hwf _ _ H.out.2.1 H.out.2.2.1 ?_)
      | (have _ := hdone; refine wpList_store_mid rfl 48 _ _ rfl w.heap.size 0 D.toArray rfl rfl H.out.2.2.2.2.2.2.1 H.out.2.2.2.2.2.2.2.2.1 hDa ?_; simp only [Act.put]; refine cast (congrArg (fun z => wpList _ _ _ _ _ z) H.out.2.2.2.2.1.symm) ?_)
      | (refine wpList_store_mid rfl 48 _ _ rfl (w.heap.size + 1) 0 D.toArray rfl rfl H.out.2.2.2.2.2.1 H.out.2.2.2.2.2.2.2.1 hDa ?_; simp only [Act.put]; refine cast (congrArg (fun z => wpList _ _ _ _ _ z) H.out.2.2.2.1.symm) ?_; have hdone := True.intro)
      | (refine load_row_g (by rfl) 48 _ rfl (w.heap.size + 1) rfl 48 D.toArray (0, 0) _ H.out.2.2.2.2.2.2.2.2.2.1 Try.underlying48 rfl H.out.2.2.2.2.2.2.2.1 ?_; simp only [Act.put]))
    refine bodyPost_ret (results_cell_row rfl _ _ w.heap.size 48 D.toArray (0, 0) _ rfl H.out.2.2.2.2.2.2.2.2.2.2.1 Try.underlying48 rfl H.out.2.2.2.2.2.2.2.2.1) rfl ?_
    exact ⟨rfl, H.out.2.2.2.2.2.2.2.2.2.2.2.2⟩
  · have hx : wtAt P.wt (i : Int) = none := by
      cases e : wtAt P.wt (i : Int) with
      | none => rfl
      | some x => exact absurd ⟨x, e⟩ hw
    have ex : seenAt P.st P.wt i = P.st[i] := by
      rw [wtAt_nat] at hx
      unfold seenAt
      rcases e : P.wt[i]? with _ | _ | y
      · simp [pickW, List.getElem?_eq_getElem hi]
      · simp [pickW, List.getElem?_eq_getElem hi]
      · rw [e] at hx; cases hx
    obtain ⟨Z, hZ, hZl, hZa⟩ : ∃ Z, cbs zero64 = Z ∧ Z.length = 64 ∧ Z.toArray.all (·.oneCell') = true := ⟨_, rfl, by rw [cbs_length]; rfl, cbs_all _⟩
    have ev : vOf (wtAt P.wt (i : Int)) = .agg Z.toArray := by rw [hx, ← hZ]; rfl
    have eb : (wtAt P.wt (i : Int)).isSome = false := by rw [hx]; rfl
    obtain ⟨wA, wB, eA, eB, t1, t2, i1, i2, B1, B2, bA, bB⟩ := sec_two w Z D hZl hDl
    have hR := (h.below bA).range hi
    rw [← ex, hD] at hR
    have c0A : wA.cell? ⟨g, 0, none⟩ = some (.slice (some ⟨r, 0, none⟩) P.st.length P.st.length) := (hb.below bA hglt).cell rfl
    have H := Lib.hid (And.intro hm0 (And.intro ev (And.intro eb (And.intro eA (And.intro eB (And.intro t1 (And.intro t2 (And.intro i1 (And.intro i2 (And.intro hR (And.intro B2 (And.intro bA bB))))))))))))
    clear hm0 ev eb eA eB t1 t2 i1 i2 B1 B2 bA bB hD hDl h64 hx ex h hb b0 hZ hZl hR hw
    go_enter Try.func18, Try.ntmps18
    go_wp2_with (first
      | (at_lookup; refine wp_lookW rfl _ _ rfl m P.wt (i : Int) rfl rfl H.out.1 hwf _ _ H.out.2.1 H.out.2.2.1 ?_)
      | (have _ := hdone; refine wpList_store_mid rfl 48 _ _ rfl w.heap.size 0 D.toArray rfl rfl H.out.2.2.2.2.2.2.1 H.out.2.2.2.2.2.2.2.2.1 hDa ?_; simp only [Act.put]; refine cast (congrArg (fun z => wpList _ _ _ _ _ z) H.out.2.2.2.2.1.symm) ?_)
      | (refine wpList_store_mid rfl 48 _ _ rfl (w.heap.size + 1) 0 Z.toArray rfl rfl H.out.2.2.2.2.2.1 H.out.2.2.2.2.2.2.2.1 hZa ?_; simp only [Act.put]; refine cast (congrArg (fun z => wpList _ _ _ _ _ z) H.out.2.2.2.1.symm) ?_; have hdone := True.intro)
      | (refine wpList_load_mid rfl 48 _ rfl r (i * 64) rfl D _ H.out.2.2.2.2.2.2.2.2.2.1 Try.underlying48 rfl H.out.2.2.2.2.2.2.2.2.1 ?_; simp only [Act.put]))
    refine bodyPost_ret (results_cell_row rfl _ _ w.heap.size 48 D.toArray (0, 0) _ rfl H.out.2.2.2.2.2.2.2.2.2.2.1 Try.underlying48 rfl H.out.2.2.2.2.2.2.2.2.1) rfl ?_
    exact ⟨rfl, H.out.2.2.2.2.2.2.2.2.2.2.2.2⟩
end
end Go.Proofs.Ytmcbjcopipafdaa
