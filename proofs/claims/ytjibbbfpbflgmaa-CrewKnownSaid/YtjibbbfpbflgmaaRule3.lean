/-
  A region that draws its order, whatever the order, guards among its operations.
-/
import Derived.Test.YtjibbbfpbflgmaaRule
namespace Go.Proofs.Ytjibbbfpbflgmaa
open Go.RowKit Go.Maps
set_option linter.unusedVariables false

section
variable {P : Program} {ops : Array Oper} {Q : Exit → Act → World → Prop}
/-- What is asked of the table by computing: guards are met where they come up ('gb' tells which answer each guard gives). -/
theorem region_rule3 {id : Nat} (n N : Nat) (d : Nat → Nat) (gb : Nat → Bool) (R : Nat → Value → World → Prop) (a0 : Act) (w0 : World) (hm : P.follows .mixedOrders = true) (hn : ops.size = n) (hN : a0.tmps.size = N)
    (ht : ((List.range n).all fun i => ((ops[i]?).map fun o => (o.dst == some (d i)) && decide (d i < N) && (match o.guard with | none => true | some (g, b) => b && gb g && decide (g < n) && o.after.any fun e => Region.binds .any e && (e.on == g)) && o.after.all fun e => !Region.binds .any e || decide (e.on < i)).getD false) = true)
    (hinj : ((List.range n).all fun i => (List.range n).all fun j => !(d i == d j) || (i == j)) = true)
    (hgb : ∀ i v w, gb i = true → R i v w → v = .bool true)
    (hstab : ∀ i v w w', R i v w → Below w.heap.size w w' → R i v w')
    (hstep : ∀ i o, i < n → ops[i]? = some o → o.dst = some (d i) → ∀ a w, Base d n a0 a → Below w0.heap.size w0 w → Region.wanted o (yielded ops a.tmps) = true →
      (∀ j, (o.after.any fun e => Region.binds .any e && (e.on == j)) = true → Has d R j a w) →
      ∀ K : Act → World → Prop, (∀ v w', R i v w' → Below w.heap.size w w' → K (a.put o.dst v) w') → wpOp P ops Q i K a w)
    (hend : ∀ a w, Base d n a0 a → Below w0.heap.size w0 w → (∀ i, i < n → Has d R i a w) → Q .normal a w) : (Code.region id ops true).wp P Q a0 w0 := by
  subst hn
  subst hN
  have hlt : ∀ i o, ops[i]? = some o → i < ops.size := fun i o h => by
    rcases Nat.lt_or_ge i ops.size with hl | hl
    · exact hl
    · rw [Array.getElem?_eq_none hl] at h; cases h
  have key : ∀ i o, ops[i]? = some o → o.dst = some (d i) ∧ d i < a0.tmps.size ∧ (∀ g b, o.guard = some (g, b) → b = true ∧ gb g = true ∧ g < ops.size ∧ (o.after.any fun e => Region.binds .any e && (e.on == g)) = true) ∧ ∀ e ∈ o.after, Region.binds .any e = true → e.on < i := by
    intro i o ho
    have h := List.all_eq_true.1 ht i (List.mem_range.2 (hlt i o ho))
    rw [ho] at h
    simp only [Option.map_some, Option.getD_some, Bool.and_eq_true, beq_iff_eq, decide_eq_true_eq] at h
    obtain ⟨⟨⟨h1, h2⟩, h3⟩, h4⟩ := h
    refine ⟨h1, h2, fun g b hg => ?_, fun e he hb => ?_⟩
    · rw [hg] at h3
      simp only [Bool.and_eq_true, decide_eq_true_eq] at h3
      exact ⟨h3.1.1.1, h3.1.1.2, h3.1.2, h3.2⟩
    · have := Array.all_eq_true_iff_forall_mem.1 h4 e he
      rw [hb] at this
      simpa using this
  refine region_rule (P := P) d R a0 w0 hm (fun i o ho => ⟨(key i o ho).1, (key i o ho).2.1⟩) (fun i j hi hj e => ?_) (fun i o ho => (key i o ho).2.2.2) hstab (fun i o ho a w hb hw hdep K hK => ?_) hend
  · have h := List.all_eq_true.1 (List.all_eq_true.1 hinj i (List.mem_range.2 hi)) j (List.mem_range.2 hj)
    rw [e] at h
    simpa using h
  · have hdep' : ∀ j, (o.after.any fun e => Region.binds .any e && (e.on == j)) = true → Has d R j a w := fun j hj => by
      rw [Array.any_eq_true] at hj
      obtain ⟨k, hk, h2⟩ := hj
      simp only [Bool.and_eq_true, beq_iff_eq] at h2
      obtain ⟨h2, h3⟩ := h2
      rw [← h3]
      exact hdep _ (Array.getElem_mem hk) h2
    refine hstep i o (hlt i o ho) ho (key i o ho).1 a w hb hw ?_ hdep' K (fun v w' h1 h2 => by rw [(key i o ho).1]; exact hK v w' h1 h2)
    unfold Region.wanted
    cases hg : o.guard with
    | none => rfl
    | some gp =>
      obtain ⟨g, b⟩ := gp
      obtain ⟨h1, h2, h3, h4⟩ := (key i o ho).2.2.1 g b hg
      obtain ⟨v, hv, hR⟩ := hdep' g h4
      have ev := hgb g v w h2 hR
      subst ev
      subst h1
      have hog : ops[g]? = some ops[g] := Array.getElem?_eq_getElem h3
      have hdg := (key g _ hog).1
      show (yielded ops a.tmps g == some true) = true
      unfold yielded
      rw [hog, Option.bind_some, hdg, Option.bind_some, hv]
      rfl
/-- The same, where some guards may not be met: 'gb' tells what each guard answers, 'sk' which operations are passed over so. -/
theorem region_rule4 {id : Nat} (n N : Nat) (d : Nat → Nat) (gb : Nat → Option Bool) (sk : Nat → Bool) (R : Nat → Value → World → Prop) (a0 : Act) (w0 : World) (hm : P.follows .mixedOrders = true) (hn : ops.size = n) (hN : a0.tmps.size = N)
    (ht : ((List.range n).all fun i => ((ops[i]?).map fun o => (o.dst == some (d i)) && decide (d i < N) && (match o.guard with | none => !sk i | some (g, b) => (gb g).isSome && (sk i == !(gb g == some b)) && decide (g < n) && o.after.any fun e => Region.binds .any e && (e.on == g)) && o.after.all fun e => !Region.binds .any e || decide (e.on < i)).getD false) = true)
    (hinj : ((List.range n).all fun i => (List.range n).all fun j => !(d i == d j) || (i == j)) = true)
    (hgb : ∀ i b v w, gb i = some b → R i v w → v = .bool b)
    (hsk : ∀ i w, sk i = true → R i undef w)
    (hstab : ∀ i v w w', R i v w → Below w.heap.size w w' → R i v w')
    (hstep : ∀ i o, i < n → sk i = false → ops[i]? = some o → o.dst = some (d i) → ∀ a w, Base d n a0 a → Below w0.heap.size w0 w → Region.wanted o (yielded ops a.tmps) = true →
      (∀ j, (o.after.any fun e => Region.binds .any e && (e.on == j)) = true → Has d R j a w) →
      ∀ K : Act → World → Prop, (∀ v w', R i v w' → Below w.heap.size w w' → K (a.put o.dst v) w') → wpOp P ops Q i K a w)
    (hend : ∀ a w, Base d n a0 a → Below w0.heap.size w0 w → (∀ i, i < n → Has d R i a w) → Q .normal a w) : (Code.region id ops true).wp P Q a0 w0 := by
  subst hn
  subst hN
  have hlt : ∀ i o, ops[i]? = some o → i < ops.size := fun i o h => by
    rcases Nat.lt_or_ge i ops.size with hl | hl
    · exact hl
    · rw [Array.getElem?_eq_none hl] at h; cases h
  have key : ∀ i o, ops[i]? = some o → o.dst = some (d i) ∧ d i < a0.tmps.size ∧ (o.guard = none → sk i = false) ∧ (∀ g b, o.guard = some (g, b) → (gb g).isSome = true ∧ sk i = !(gb g == some b) ∧ g < ops.size ∧ (o.after.any fun e => Region.binds .any e && (e.on == g)) = true) ∧ ∀ e ∈ o.after, Region.binds .any e = true → e.on < i := by
    intro i o ho
    have h := List.all_eq_true.1 ht i (List.mem_range.2 (hlt i o ho))
    rw [ho] at h
    simp only [Option.map_some, Option.getD_some, Bool.and_eq_true, beq_iff_eq, decide_eq_true_eq] at h
    obtain ⟨⟨⟨h1, h2⟩, h3⟩, h4⟩ := h
    refine ⟨h1, h2, fun hg => ?_, fun g b hg => ?_, fun e he hb => ?_⟩
    · rw [hg] at h3
      simpa using h3
    · rw [hg] at h3
      simp only [Bool.and_eq_true, decide_eq_true_eq, beq_iff_eq] at h3
      exact ⟨h3.1.1.1, h3.1.1.2, h3.1.2, h3.2⟩
    · have := Array.all_eq_true_iff_forall_mem.1 h4 e he
      rw [hb] at this
      simpa using this
  refine region_rule (P := P) d R a0 w0 hm (fun i o ho => ⟨(key i o ho).1, (key i o ho).2.1⟩) (fun i j hi hj e => ?_) (fun i o ho => (key i o ho).2.2.2.2) hstab (fun i o ho a w hb hw hdep K hK => ?_) hend
  · have h := List.all_eq_true.1 (List.all_eq_true.1 hinj i (List.mem_range.2 hi)) j (List.mem_range.2 hj)
    rw [e] at h
    simpa using h
  · have hdep' : ∀ j, (o.after.any fun e => Region.binds .any e && (e.on == j)) = true → Has d R j a w := fun j hj => by
      rw [Array.any_eq_true] at hj
      obtain ⟨k, hk, h2⟩ := hj
      simp only [Bool.and_eq_true, beq_iff_eq] at h2
      obtain ⟨h2, h3⟩ := h2
      rw [← h3]
      exact hdep _ (Array.getElem_mem hk) h2
    have hwant : Region.wanted o (yielded ops a.tmps) = !sk i := by
      unfold Region.wanted
      cases hg : o.guard with
      | none => rw [(key i o ho).2.2.1 hg]; rfl
      | some gp =>
        obtain ⟨g, b⟩ := gp
        obtain ⟨h1, h2, h3, h4⟩ := (key i o ho).2.2.2.1 g b hg
        obtain ⟨v, hv, hR⟩ := hdep' g h4
        obtain ⟨b', hb'⟩ := Option.isSome_iff_exists.1 h1
        have ev := hgb g b' v w hb' hR
        subst ev
        have hog : ops[g]? = some ops[g] := Array.getElem?_eq_getElem h3
        have hdg := (key g _ hog).1
        rw [h2, hb']
        show (yielded ops a.tmps g == some b) = _
        unfold yielded
        rw [hog, Option.bind_some, hdg, Option.bind_some, hv]
        cases b' <;> cases b <;> rfl
    cases hs : sk i with
    | false => exact hstep i o (hlt i o ho) hs ho (key i o ho).1 a w hb hw (by rw [hwant, hs]; rfl) hdep' K (fun v w' h1 h2 => by rw [(key i o ho).1]; exact hK v w' h1 h2)
    | true =>
      refine wpOp_step ho (fun K' hK' => ?_)
      rw [if_neg (by rw [hwant, hs]; simp)]
      refine hK' _ _ ?_
      rw [(key i o ho).1]
      exact hK undef w (hsk i w hs) (Below.refl _ _)
/-- A step whose run is known. -/
theorem st3 {i : Nat} {o : Oper} {a : Act} {w w' : World} {K : Act → World → Prop} {v : Value} (ho : ops[i]? = some o) (hw : Region.wanted o (yielded ops a.tmps) = true)
    (hrun : Sem.run P (execOp a.eval o) w = .ok (Next.value v) w') (hK : K (a.put o.dst v) w') : wpOp P ops Q i K a w := by
  refine wpOp_step ho (fun K' hK' => ?_)
  rw [if_pos hw]
  unfold Oper.wp
  rw [hrun]
  exact hK' _ _ hK
/-- A step that is a call of a function of the program. -/
theorem st3_call {i f : Nat} {o : Oper} {a : Act} {w : World} {K : Act → World → Prop} {vals : Array Value} {Z : Value → World → Prop} (ho : ops[i]? = some o) (hw : Region.wanted o (yielded ops a.tmps) = true)
    (hrun : Sem.run P (execOp a.eval o) w = .ok (Next.enter f vals) w) (hc : Calls P f vals w fun e w' => ∃ v, e = .returned v ∧ Z v w') (hK : ∀ v w', Z v w' → K (a.put o.dst v) w') : wpOp P ops Q i K a w := by
  refine wpOp_step ho (fun K' hK' => ?_)
  rw [if_pos hw]
  unfold Oper.wp
  rw [hrun]
  refine hc.mono ?_
  rintro e w' ⟨v, rfl, hz⟩
  exact hK' _ _ (hK v w' hz)
end

theorem fold_set (g : Nat → Value) : ∀ (ds : List Nat) (t0 : Array Value), (ds.foldl (fun t s => t.setIfInBounds s (g s)) t0).size = t0.size ∧
    ∀ s, (ds.foldl (fun t s => t.setIfInBounds s (g s)) t0)[s]? = if s ∈ ds ∧ s < t0.size then some (g s) else t0[s]?
  | [], t0 => ⟨rfl, fun s => by simp⟩
  | x :: ds, t0 => by
    obtain ⟨h1, h2⟩ := fold_set g ds (t0.setIfInBounds x (g x))
    rw [List.foldl_cons]
    refine ⟨by rw [h1]; simp, fun s => ?_⟩
    rw [h2]
    simp only [Array.size_setIfInBounds, List.mem_cons]
    by_cases hs : s < t0.size
    · by_cases hm : s ∈ ds
      · simp [hm, hs]
      · by_cases hx : s = x
        · subst hx
          simp [hm, hs]
        · simp [hm, hx, Array.getElem?_setIfInBounds_ne (fun e => hx e.symm)]
    · rw [if_neg (fun h => hs h.2), if_neg (fun h => hs h.2), Array.getElem?_eq_none (by simp; omega), Array.getElem?_eq_none (by omega)]
/-- Behind a region: the act is as it was but for the slots that the region writes. -/
theorem base_lit {d : Nat → Nat} {n : Nat} {a0 a : Act} (hb : Base d n a0 a) (ds : List Nat) (hds : (List.range n).map d = ds) :
    ∃ g : Nat → Value, (∀ s v, a.tmps[s]? = some v → g s = v) ∧ a = { tmps := ds.foldl (fun t s => t.setIfInBounds s (g s)) a0.tmps, defers := a0.defers } := by
  refine ⟨fun s => a.tmps.getD s undef, fun s v hv => by simp only [Array.getD_eq_getD_getElem?, hv]; rfl, ?_⟩
  obtain ⟨h1, h2⟩ := fold_set (fun s => a.tmps.getD s undef) ds a0.tmps
  have e : a.tmps = ds.foldl (fun t s => t.setIfInBounds s (a.tmps.getD s undef)) a0.tmps := by
    apply Array.ext_getElem?
    intro s
    rw [h2]
    by_cases hs : s < a0.tmps.size
    · by_cases hm : s ∈ ds
      · rw [if_pos ⟨hm, hs⟩]
        have hs' : s < a.tmps.size := by rw [hb.1]; exact hs
        simp [hs']
      · rw [if_neg (fun h => hm h.1)]
        refine hb.2.2 s fun i hi e => hm ?_
        rw [← hds]
        exact List.mem_map.2 ⟨i, List.mem_range.2 hi, e⟩
    · rw [if_neg (fun h => hs h.2), Array.getElem?_eq_none (by rw [hb.1]; omega), Array.getElem?_eq_none (by omega)]
  cases a with
  | mk t df =>
    have hd : df = a0.defers := hb.2.1
    subst hd
    simp only [Act.mk.injEq, and_true]
    exact e
end Go.Proofs.Ytjibbbfpbflgmaa
