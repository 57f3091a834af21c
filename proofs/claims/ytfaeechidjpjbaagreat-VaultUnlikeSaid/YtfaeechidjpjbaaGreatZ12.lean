/-
  Laid together for a hand-in: Build, Rule, Rule3, Cw16, Wr16.
-/
import Derived.Test.YtfaeechidjpjbaaGreatZ11
import Derived.Below

namespace Go.Proofs.YtfaeechidjpjbaaGreat

open Go.RowKit Go.Maps

set_option linter.unusedVariables false

section

variable {P : Program}

theorem wp_built {o : Oper} {a : Act} {w : World} {K : Act → World → Prop} {Q : Exit → Act → World → Prop} (t : TypeId) (parts : Array (Nat × Operand)) (ho : o.op = .build t parts) (cells : Array Value)
    (he : P.built t (parts.toList.map fun p => (p.1, a.eval p.2)) = some cells) (h : K (a.put o.dst (.agg cells)) w) : o.wp P a w K Q := by
  have e : (parts.map fun (i, x) => (i, a.eval x)).toList = parts.toList.map fun p => (p.1, a.eval p.2) := by rw [Array.toList_map]
  refine wp_build t parts ho (by rw [e, he]; rfl) ?_
  rw [e, he]
  exact h

theorem wpList_build_g {ops : Array Oper} {rest : List Oper} {o : Oper} {a : Act} {w : World} {Q : Exit → Act → World → Prop} (hw : Region.wanted o (yielded ops a.tmps) = true) (t : TypeId) (parts : Array (Nat × Operand)) (ho : o.op = .build t parts) (cells : Array Value)
    (he : P.built t (parts.toList.map fun p => (p.1, a.eval p.2)) = some cells) (h : wpList P ops Q rest (a.put o.dst (.agg cells)) w) : wpList P ops Q (o :: rest) a w :=
  wpList_step fun K hK => by rw [if_pos hw]; exact wp_built t parts ho cells he (hK _ _ h)

theorem exec_build {ev : Operand → Value} {o : Oper} (t : TypeId) (parts : Array (Nat × Operand)) (ho : o.op = .build t parts) (cells : Array Value) (he : P.built t (parts.toList.map fun p => (p.1, ev p.2)) = some cells) (w : World) :
    Sem.run P (execOp ev o) w = .ok (Next.value (.agg cells)) w := by
  have e : (parts.map fun (i, x) => (i, ev x)).toList = parts.toList.map fun p => (p.1, ev p.2) := by rw [Array.toList_map]
  unfold execOp
  simp only [ho, Sem.run_bind, run_build w t _ cells (by rw [e]; exact he), Result.andThen_ok]
  rfl

end

end Go.Proofs.YtfaeechidjpjbaaGreat

namespace Go.Proofs.YtfaeechidjpjbaaGreat

open Go.RowKit Go.Maps

set_option linter.unusedVariables false

theorem countP_lt {α : Type} {p q : α → Bool} : ∀ (l : List α), (∀ x ∈ l, q x = true → p x = true) → (∃ x ∈ l, p x = true ∧ q x = false) → l.countP q < l.countP p
  | [], _, ⟨x, hx, _⟩ => by simp at hx
  | y :: l, h, ⟨x, hx, h1, h2⟩ => by
    have hle : l.countP q ≤ l.countP p := List.countP_mono_left fun z hz hq => h z (List.mem_cons_of_mem _ hz) hq
    rw [List.countP_cons, List.countP_cons]
    rcases List.mem_cons.1 hx with rfl | hx
    · rw [if_pos h1, if_neg (by rw [h2]; simp)]; omega
    · have ih := countP_lt l (fun z hz hq => h z (List.mem_cons_of_mem _ hz) hq) ⟨x, hx, h1, h2⟩
      have hy := h y List.mem_cons_self
      by_cases hq : q y = true
      · rw [if_pos hq, if_pos (hy hq)]; omega
      · rw [if_neg hq]; split <;> omega

/-- Slot 'd i' has a value that is as 'R i' says. -/
def Has (d : Nat → Nat) (R : Nat → Value → World → Prop) (i : Nat) (a : Act) (w : World) : Prop := ∃ v, a.tmps[d i]? = some v ∧ R i v w

/-- The slots that the region doesn't write are as they were. -/
def Base (d : Nat → Nat) (n : Nat) (a0 a : Act) : Prop := a.tmps.size = a0.tmps.size ∧ a.defers = a0.defers ∧ ∀ s, (∀ i, i < n → d i ≠ s) → a.tmps[s]? = a0.tmps[s]?

section

variable {P : Program} {ops : Array Oper} {Q : Exit → Act → World → Prop} {md : Region.Mode}

theorem ready_mem {listed : Array Bool} {i : Nat} (h : i ∈ Region.ready md ops listed) : ∃ o, ops[i]? = some o ∧ i < ops.size ∧ listed.getD i true = false ∧ ∀ e ∈ o.after, Region.binds md e = true → listed.getD e.on false = true := by
  unfold Region.ready at h
  rw [List.mem_filter, List.mem_range] at h
  obtain ⟨hi, h2⟩ := h
  rw [Bool.and_eq_true] at h2
  obtain ⟨h3, h4⟩ := h2
  refine ⟨ops[i], by simp [hi], hi, by simpa using h3, ?_⟩
  intro e he hb
  rw [Array.getElem?_eq_getElem hi] at h4
  simp only [Option.map_some, Option.getD_some] at h4
  have := (Array.all_eq_true_iff_forall_mem.1 h4) e he
  rw [hb] at this
  simpa using this

theorem ready_nil {listed : Array Bool} (hs : listed.size = ops.size) (hback : ∀ i o, ops[i]? = some o → ∀ e ∈ o.after, Region.binds md e = true → e.on < i) (h : Region.ready md ops listed = []) :
    ∀ i, i < ops.size → listed.getD i false = true := by
  intro i
  induction i using Nat.strongRecOn with
  | ind i ih =>
    intro hi
    cases hl : listed.getD i false with
    | true => rfl
    | false =>
      exfalso
      have hmem : i ∈ Region.ready md ops listed := by
        unfold Region.ready
        rw [List.mem_filter, List.mem_range]
        refine ⟨hi, ?_⟩
        rw [Bool.and_eq_true]
        have hil : i < listed.size := by omega
        constructor
        · simp [Array.getD, hil] at hl ⊢; exact hl
        · rw [Array.getElem?_eq_getElem hi]
          simp only [Option.map_some, Option.getD_some]
          rw [Array.all_eq_true_iff_forall_mem]
          intro e he
          cases hb : Region.binds md e with
          | false => rfl
          | true =>
            have hlt := hback i ops[i] (by simp [hi]) e he hb
            rw [ih e.on hlt (by omega)]
            rfl
      rw [h] at hmem
      simp at hmem

theorem any_rule (d : Nat → Nat) (R : Nat → Value → World → Prop) (a0 : Act) (w0 : World)
    (hd : ∀ i o, ops[i]? = some o → o.dst = some (d i) ∧ d i < a0.tmps.size)
    (hinj : ∀ i j, i < ops.size → j < ops.size → d i = d j → i = j)
    (hback : ∀ i o, ops[i]? = some o → ∀ e ∈ o.after, Region.binds md e = true → e.on < i)
    (hstab : ∀ i v w w', R i v w → Below w.heap.size w w' → R i v w')
    (hstep : ∀ i o, ops[i]? = some o → ∀ a w, Base d ops.size a0 a → Below w0.heap.size w0 w → (∀ e ∈ o.after, Region.binds md e = true → Has d R e.on a w) →
      ∀ K : Act → World → Prop, (∀ v w', R i v w' → Below w.heap.size w w' → K (a.put (some (d i)) v) w') → wpOp P ops Q i K a w)
    (hend : ∀ a w, Base d ops.size a0 a → Below w0.heap.size w0 w → (∀ i, i < ops.size → Has d R i a w) → Q .normal a w) :
    ∀ fuel listed a w, listed.size = ops.size → Base d ops.size a0 a → Below w0.heap.size w0 w → (∀ i, i < ops.size → listed.getD i false = true → Has d R i a w) →
      (List.range ops.size).countP (fun i => !listed.getD i true) ≤ fuel → wpAny P md ops Q fuel listed a w := by
  intro fuel
  induction fuel with
  | zero =>
    intro listed a w hs hb hw hl hc
    have hnone : Region.ready md ops listed = [] := by
      cases hr : Region.ready md ops listed with
      | nil => rfl
      | cons x xs =>
        exfalso
        obtain ⟨o, _, hx, hx2, _⟩ := ready_mem (md := md) (ops := ops) (listed := listed) (i := x) (by rw [hr]; exact List.mem_cons_self)
        have hp : 0 < (List.range ops.size).countP (fun i => !listed.getD i true) := List.countP_pos_iff.2 ⟨x, List.mem_range.2 hx, by rw [hx2]; rfl⟩
        omega
    exact ⟨hnone, hend a w hb hw fun i hi => hl i hi (ready_nil hs hback hnone i hi)⟩
  | succ fuel ih =>
    intro listed a w hs hb hw hl hc
    refine ⟨fun hr => hend a w hb hw fun i hi => hl i hi (ready_nil hs hback hr i hi), fun i hi => ?_⟩
    obtain ⟨o, ho, hi1, hi2, hi3⟩ := ready_mem hi
    have hon : ∀ e ∈ o.after, Region.binds md e = true → Has d R e.on a w := fun e he hb => hl e.on (by have := hback i o ho e he hb; omega) (hi3 e he hb)
    refine hstep i o ho a w hb hw hon _ fun v w' hv hbel => ?_
    obtain ⟨_, hdi⟩ := hd i o ho
    have hput : (a.put (some (d i)) v).tmps = a.tmps.setIfInBounds (d i) v := rfl
    refine ih (listed.setIfInBounds i true) (a.put (some (d i)) v) w' (by simpa using hs) ⟨?_, hb.2.1, ?_⟩ (hw.trans (hbel.mono hw.size)) ?_ ?_
    · rw [hput]; simpa using hb.1
    · intro s hsn
      rw [hput, Array.getElem?_setIfInBounds_ne (hsn i hi1)]
      exact hb.2.2 s hsn
    · intro j hj hjl
      by_cases e : j = i
      · subst e
        exact ⟨v, by rw [hput, Array.getElem?_setIfInBounds_self_of_lt (by rw [hb.1]; exact hdi)], hv⟩
      · have hj2 : listed.getD j false = true := by
          have : (listed.setIfInBounds i true)[j]? = listed[j]? := Array.getElem?_setIfInBounds_ne (fun h => e h.symm)
          rw [Array.getD_eq_getD_getElem?] at hjl ⊢
          rwa [this] at hjl
        obtain ⟨u, hu, hru⟩ := hl j hj hj2
        exact ⟨u, by rw [hput, Array.getElem?_setIfInBounds_ne (fun h => e (hinj i j hi1 hj h).symm)]; exact hu, hstab j u w w' hru hbel⟩
    · have hlt : (List.range ops.size).countP (fun k => !(listed.setIfInBounds i true).getD k true) < (List.range ops.size).countP (fun k => !listed.getD k true) := by
        refine countP_lt _ (fun k hk hq => ?_) ⟨i, List.mem_range.2 hi1, by rw [hi2]; rfl, ?_⟩
        · by_cases e : k = i
          · subst e
            rw [Array.getD_eq_getD_getElem?, Array.getElem?_setIfInBounds_self_of_lt (by omega)] at hq
            simp at hq
          · have : (listed.setIfInBounds i true)[k]? = listed[k]? := Array.getElem?_setIfInBounds_ne (fun h => e h.symm)
            rw [Array.getD_eq_getD_getElem?] at hq ⊢
            rwa [this] at hq
        · rw [Array.getD_eq_getD_getElem?, Array.getElem?_setIfInBounds_self_of_lt (by omega)]
          rfl
      omega

/-- From the beginning. -/
theorem region_rule {id : Nat} (d : Nat → Nat) (R : Nat → Value → World → Prop) (a0 : Act) (w0 : World) (hm : P.follows .mixedOrders = true)
    (hd : ∀ i o, ops[i]? = some o → o.dst = some (d i) ∧ d i < a0.tmps.size)
    (hinj : ∀ i j, i < ops.size → j < ops.size → d i = d j → i = j)
    (hback : ∀ i o, ops[i]? = some o → ∀ e ∈ o.after, Region.binds .any e = true → e.on < i)
    (hstab : ∀ i v w w', R i v w → Below w.heap.size w w' → R i v w')
    (hstep : ∀ i o, ops[i]? = some o → ∀ a w, Base d ops.size a0 a → Below w0.heap.size w0 w → (∀ e ∈ o.after, Region.binds .any e = true → Has d R e.on a w) →
      ∀ K : Act → World → Prop, (∀ v w', R i v w' → Below w.heap.size w w' → K (a.put (some (d i)) v) w') → wpOp P ops Q i K a w)
    (hend : ∀ a w, Base d ops.size a0 a → Below w0.heap.size w0 w → (∀ i, i < ops.size → Has d R i a w) → Q .normal a w) : (Code.region id ops true).wp P Q a0 w0 := by
  refine wp_region_any hm (any_rule (P := P) (md := .any) d R a0 w0 hd hinj hback hstab hstep hend ops.size _ a0 _ (by simp) ⟨rfl, rfl, fun _ _ => rfl⟩ ?_ ?_ ?_)
  · exact (Below.refl _ _).drew
  · intro i hi h
    rw [Array.getD_eq_getD_getElem?] at h
    simp [hi] at h
  · exact Nat.le_trans List.countP_le_length (by simp)

/-- The same, what is asked of the table by computing. -/
theorem region_rule2 {id : Nat} (n N : Nat) (d : Nat → Nat) (R : Nat → Value → World → Prop) (a0 : Act) (w0 : World) (hm : P.follows .mixedOrders = true) (hn : ops.size = n) (hN : a0.tmps.size = N)
    (ht : ((List.range n).all fun i => ((ops[i]?).map fun o => (o.dst == some (d i)) && decide (d i < N) && o.guard.isNone && o.after.all fun e => !Region.binds .any e || decide (e.on < i)).getD false) = true)
    (hinj : ((List.range n).all fun i => (List.range n).all fun j => !(d i == d j) || (i == j)) = true)
    (hstab : ∀ i v w w', R i v w → Below w.heap.size w w' → R i v w')
    (hstep : ∀ i o, i < n → ops[i]? = some o → o.guard = none → o.dst = some (d i) → ∀ a w, Base d n a0 a → Below w0.heap.size w0 w →
      (∀ j, (o.after.any fun e => Region.binds .any e && (e.on == j)) = true → Has d R j a w) →
      ∀ K : Act → World → Prop, (∀ v w', R i v w' → Below w.heap.size w w' → K (a.put o.dst v) w') → wpOp P ops Q i K a w)
    (hend : ∀ a w, Base d n a0 a → Below w0.heap.size w0 w → (∀ i, i < n → Has d R i a w) → Q .normal a w) : (Code.region id ops true).wp P Q a0 w0 := by
  subst hn
  subst hN
  have hlt : ∀ i o, ops[i]? = some o → i < ops.size := fun i o h => by
    rcases Nat.lt_or_ge i ops.size with hl | hl
    · exact hl
    · rw [Array.getElem?_eq_none hl] at h; cases h
  have key : ∀ i o, ops[i]? = some o → o.dst = some (d i) ∧ d i < a0.tmps.size ∧ o.guard = none ∧ ∀ e ∈ o.after, Region.binds .any e = true → e.on < i := by
    intro i o ho
    have h := List.all_eq_true.1 ht i (List.mem_range.2 (hlt i o ho))
    rw [ho] at h
    simp only [Option.map_some, Option.getD_some, Bool.and_eq_true, beq_iff_eq, decide_eq_true_eq, Option.isNone_iff_eq_none] at h
    obtain ⟨⟨⟨h1, h2⟩, h3⟩, h4⟩ := h
    refine ⟨h1, h2, h3, fun e he hb => ?_⟩
    have := Array.all_eq_true_iff_forall_mem.1 h4 e he
    rw [hb] at this
    simpa using this
  refine region_rule (P := P) d R a0 w0 hm (fun i o ho => ⟨(key i o ho).1, (key i o ho).2.1⟩) (fun i j hi hj e => ?_) (fun i o ho => (key i o ho).2.2.2) hstab (fun i o ho a w hb hw hdep K hK => ?_) hend
  · have h := List.all_eq_true.1 (List.all_eq_true.1 hinj i (List.mem_range.2 hi)) j (List.mem_range.2 hj)
    rw [e] at h
    simpa using h
  · refine hstep i o (hlt i o ho) ho (key i o ho).2.2.1 (key i o ho).1 a w hb hw (fun j hj => ?_) K (fun v w' h1 h2 => by rw [(key i o ho).1]; exact hK v w' h1 h2)
    rw [Array.any_eq_true] at hj
    obtain ⟨k, hk, h2⟩ := hj
    simp only [Bool.and_eq_true, beq_iff_eq] at h2
    obtain ⟨h2, h3⟩ := h2
    rw [← h3]
    exact hdep _ (Array.getElem_mem hk) h2

theorem op_of {α : Type} {i : Nat} {o : Oper} (f : Oper → α) (ho : ops[i]? = some o) {v : α} (h : (ops[i]?).map f = some v) : f o = v := by
  rw [ho] at h
  exact Option.some.inj h

theorem ev_tmp {a : Act} {s : Nat} {v : Value} (h : a.tmps[s]? = some v) : a.eval (.tmp s) = v := by
  show a.tmps.getD s undef = v
  rw [Array.getD_eq_getD_getElem?, h]; rfl

theorem st_plain {i : Nat} {o : Oper} {a : Act} {w w' : World} {K : Act → World → Prop} {v : Value} (ho : ops[i]? = some o) (hg : o.guard = none)
    (hrun : Sem.run P (execOp a.eval o) w = .ok (Next.value v) w') (hK : K (a.put o.dst v) w') : wpOp P ops Q i K a w := by
  refine wpOp_step ho (fun K' hK' => ?_)
  have hw : Region.wanted o (yielded ops a.tmps) = true := by unfold Region.wanted; rw [hg]
  rw [if_pos hw]
  unfold Oper.wp
  rw [hrun]
  exact hK' _ _ hK

theorem st_move {i s : Nat} {o : Oper} {a : Act} {w : World} {K : Act → World → Prop} {v : Value} (ho : ops[i]? = some o) (hg : o.guard = none) (hop : o.op = .move (.tmp s)) (hv : a.tmps[s]? = some v)
    (hK : K (a.put o.dst v) w) : wpOp P ops Q i K a w := by
  refine st_plain ho hg ?_ hK
  unfold execOp
  rw [hop, ← ev_tmp hv]
  rfl

theorem st_assign {i s : Nat} {o : Oper} {a : Act} {w : World} {K : Act → World → Prop} {v : Value} (ho : ops[i]? = some o) (hg : o.guard = none) (hop : o.op = .assign (.tmp s)) (hv : a.tmps[s]? = some v)
    (hK : K (a.put o.dst v) w) : wpOp P ops Q i K a w := by
  refine st_plain ho hg ?_ hK
  unfold execOp
  rw [hop, ← ev_tmp hv]
  rfl

theorem st_build {i : Nat} {o : Oper} {a : Act} {w : World} {K : Act → World → Prop} (ho : ops[i]? = some o) (hg : o.guard = none) (t : TypeId) (parts : Array (Nat × Operand)) (hop : o.op = .build t parts) (cells : Array Value)
    (he : P.built t (parts.toList.map fun p => (p.1, a.eval p.2)) = some cells) (hK : K (a.put o.dst (.agg cells)) w) : wpOp P ops Q i K a w :=
  st_plain ho hg (exec_build t parts hop cells he w) hK

theorem st_row {i n : Nat} {o : Oper} {a : Act} {w : World} {K : Act → World → Prop} (ho : ops[i]? = some o) (hg : o.guard = none) (t e : TypeId) (parts : Array (Nat × Operand)) (hop : o.op = .buildSlice t n parts) (cells : Array Value)
    (he : (Instr.buildSlice t n (parts.map fun p => (p.1, a.eval p.2))).run P w = .ok (.slice (some ⟨w.heap.size, 0, none⟩) n n) (w.alloc (.cells cells e)))
    (hK : K (a.put o.dst (.slice (some ⟨w.heap.size, 0, none⟩) n n)) (w.alloc (.cells cells e))) : wpOp P ops Q i K a w := by
  refine st_plain ho hg ?_ hK
  have he' : (Instr.buildSlice t n (parts.map fun (i, x) => (i, a.eval x))).run P w = .ok (.slice (some ⟨w.heap.size, 0, none⟩) n n) (w.alloc (.cells cells e)) := he
  unfold execOp
  simp only [hop, Sem.run_bind, he', Result.andThen_ok]
  rfl

theorem st_slice {i : Nat} {o : Oper} {a : Act} {w : World} {K : Act → World → Prop} {v : Value} (ho : ops[i]? = some o) (hg : o.guard = none) (t : TypeId) (x : Operand) (k : Value) (hop : o.op = .slice t x none (some (.const k)) none)
    (he : (Instr.sliceAt t (a.eval x) none (some k) none).run P w = .ok v w) (hK : K (a.put o.dst v) w) : wpOp P ops Q i K a w := by
  refine st_plain ho hg ?_ hK
  have he' : (Instr.sliceAt t (a.eval x) (Option.map a.eval none) (Option.map a.eval (some (.const k))) (Option.map a.eval none)).run P w = .ok v w := he
  unfold execOp
  simp only [hop, Sem.run_bind, he', Result.andThen_ok]
  rfl

end

end Go.Proofs.YtfaeechidjpjbaaGreat

namespace Go.Proofs.YtfaeechidjpjbaaGreat

open Go.RowKit Go.Maps

set_option linter.unusedVariables false

section

variable {P : Program} {ops : Array Oper} {Q : Exit → Act → World → Prop}

/-- What is asked of the table by computing: guards are met where they come up ('gb' tells which answer each guard gives). -/
theorem region_rule3 {id : Nat} (n N : Nat) (d : Nat → Nat) (gb : Nat → Bool) (R : Nat → Value → World → Prop) (a0 : Act) (w0 : World) (hm : P.follows .mixedOrders = true) (hn : ops.size = n) (hN : a0.tmps.size = N)
    (ht : ((List.range n).all fun i => ((ops[i]?).map fun o => (o.dst == some (d i)) && decide (d i < N) && (match o.guard with | none => true | some (g, b) => b && gb g && decide (g < n) && o.after.any fun e => Region.binds .any e && (e.on == g)) && o.after.all fun e => !Region.binds .any e || decide (e.on < i)).getD false) = true)
    (hinj : ((List.range n).all fun i => (List.range n).all fun j => !(d i == d j) || (i == j)) = true)
    (hgb : ∀ i v w, gb i = true → R i v w → v = .bool true)
    (hstab : ∀ i v w w', R i v w → Below w.heap.size w w' → R i v w')
    (hstep : ∀ i o, i < n → ops[i]? = some o → o.dst = some (d i) → ∀ a w, Base d n a0 a → Below w0.heap.size w0 w → Region.wanted o (yielded ops a.tmps) = true →
      (∀ j, (o.after.any fun e => Region.binds .any e && (e.on == j)) = true → Has d R j a w) →
      ∀ K : Act → World → Prop, (∀ v w', R i v w' → Below w.heap.size w w' → K (a.put o.dst v) w') → wpOp P ops Q i K a w)
    (hend : ∀ a w, Base d n a0 a → Below w0.heap.size w0 w → (∀ i, i < n → Has d R i a w) → Q .normal a w) : (Code.region id ops true).wp P Q a0 w0 := by
  subst hn
  subst hN
  have hlt : ∀ i o, ops[i]? = some o → i < ops.size := fun i o h => by
    rcases Nat.lt_or_ge i ops.size with hl | hl
    · exact hl
    · rw [Array.getElem?_eq_none hl] at h; cases h
  have key : ∀ i o, ops[i]? = some o → o.dst = some (d i) ∧ d i < a0.tmps.size ∧ (∀ g b, o.guard = some (g, b) → b = true ∧ gb g = true ∧ g < ops.size ∧ (o.after.any fun e => Region.binds .any e && (e.on == g)) = true) ∧ ∀ e ∈ o.after, Region.binds .any e = true → e.on < i := by
    intro i o ho
    have h := List.all_eq_true.1 ht i (List.mem_range.2 (hlt i o ho))
    rw [ho] at h
    simp only [Option.map_some, Option.getD_some, Bool.and_eq_true, beq_iff_eq, decide_eq_true_eq] at h
    obtain ⟨⟨⟨h1, h2⟩, h3⟩, h4⟩ := h
    refine ⟨h1, h2, fun g b hg => ?_, fun e he hb => ?_⟩
    · rw [hg] at h3
      simp only [Bool.and_eq_true, decide_eq_true_eq] at h3
      exact ⟨h3.1.1.1, h3.1.1.2, h3.1.2, h3.2⟩
    · have := Array.all_eq_true_iff_forall_mem.1 h4 e he
      rw [hb] at this
      simpa using this
  refine region_rule (P := P) d R a0 w0 hm (fun i o ho => ⟨(key i o ho).1, (key i o ho).2.1⟩) (fun i j hi hj e => ?_) (fun i o ho => (key i o ho).2.2.2) hstab (fun i o ho a w hb hw hdep K hK => ?_) hend
  · have h := List.all_eq_true.1 (List.all_eq_true.1 hinj i (List.mem_range.2 hi)) j (List.mem_range.2 hj)
    rw [e] at h
    simpa using h
  · have hdep' : ∀ j, (o.after.any fun e => Region.binds .any e && (e.on == j)) = true → Has d R j a w := fun j hj => by
      rw [Array.any_eq_true] at hj
      obtain ⟨k, hk, h2⟩ := hj
      simp only [Bool.and_eq_true, beq_iff_eq] at h2
      obtain ⟨h2, h3⟩ := h2
      rw [← h3]
      exact hdep _ (Array.getElem_mem hk) h2
    refine hstep i o (hlt i o ho) ho (key i o ho).1 a w hb hw ?_ hdep' K (fun v w' h1 h2 => by rw [(key i o ho).1]; exact hK v w' h1 h2)
    unfold Region.wanted
    cases hg : o.guard with
    | none => rfl
    | some gp =>
      obtain ⟨g, b⟩ := gp
      obtain ⟨h1, h2, h3, h4⟩ := (key i o ho).2.2.1 g b hg
      obtain ⟨v, hv, hR⟩ := hdep' g h4
      have ev := hgb g v w h2 hR
      subst ev
      subst h1
      have hog : ops[g]? = some ops[g] := Array.getElem?_eq_getElem h3
      have hdg := (key g _ hog).1
      show (yielded ops a.tmps g == some true) = true
      unfold yielded
      rw [hog, Option.bind_some, hdg, Option.bind_some, hv]
      rfl

/-- The same, where some guards may not be met: 'gb' tells what each guard answers, 'sk' which operations are passed over so. -/
theorem region_rule4 {id : Nat} (n N : Nat) (d : Nat → Nat) (gb : Nat → Option Bool) (sk : Nat → Bool) (R : Nat → Value → World → Prop) (a0 : Act) (w0 : World) (hm : P.follows .mixedOrders = true) (hn : ops.size = n) (hN : a0.tmps.size = N)
    (ht : ((List.range n).all fun i => ((ops[i]?).map fun o => (o.dst == some (d i)) && decide (d i < N) && (match o.guard with | none => !sk i | some (g, b) => (gb g).isSome && (sk i == !(gb g == some b)) && decide (g < n) && o.after.any fun e => Region.binds .any e && (e.on == g)) && o.after.all fun e => !Region.binds .any e || decide (e.on < i)).getD false) = true)
    (hinj : ((List.range n).all fun i => (List.range n).all fun j => !(d i == d j) || (i == j)) = true)
    (hgb : ∀ i b v w, gb i = some b → R i v w → v = .bool b)
    (hsk : ∀ i w, sk i = true → R i undef w)
    (hstab : ∀ i v w w', R i v w → Below w.heap.size w w' → R i v w')
    (hstep : ∀ i o, i < n → sk i = false → ops[i]? = some o → o.dst = some (d i) → ∀ a w, Base d n a0 a → Below w0.heap.size w0 w → Region.wanted o (yielded ops a.tmps) = true →
      (∀ j, (o.after.any fun e => Region.binds .any e && (e.on == j)) = true → Has d R j a w) →
      ∀ K : Act → World → Prop, (∀ v w', R i v w' → Below w.heap.size w w' → K (a.put o.dst v) w') → wpOp P ops Q i K a w)
    (hend : ∀ a w, Base d n a0 a → Below w0.heap.size w0 w → (∀ i, i < n → Has d R i a w) → Q .normal a w) : (Code.region id ops true).wp P Q a0 w0 := by
  subst hn
  subst hN
  have hlt : ∀ i o, ops[i]? = some o → i < ops.size := fun i o h => by
    rcases Nat.lt_or_ge i ops.size with hl | hl
    · exact hl
    · rw [Array.getElem?_eq_none hl] at h; cases h
  have key : ∀ i o, ops[i]? = some o → o.dst = some (d i) ∧ d i < a0.tmps.size ∧ (o.guard = none → sk i = false) ∧ (∀ g b, o.guard = some (g, b) → (gb g).isSome = true ∧ sk i = !(gb g == some b) ∧ g < ops.size ∧ (o.after.any fun e => Region.binds .any e && (e.on == g)) = true) ∧ ∀ e ∈ o.after, Region.binds .any e = true → e.on < i := by
    intro i o ho
    have h := List.all_eq_true.1 ht i (List.mem_range.2 (hlt i o ho))
    rw [ho] at h
    simp only [Option.map_some, Option.getD_some, Bool.and_eq_true, beq_iff_eq, decide_eq_true_eq] at h
    obtain ⟨⟨⟨h1, h2⟩, h3⟩, h4⟩ := h
    refine ⟨h1, h2, fun hg => ?_, fun g b hg => ?_, fun e he hb => ?_⟩
    · rw [hg] at h3
      simpa using h3
    · rw [hg] at h3
      simp only [Bool.and_eq_true, decide_eq_true_eq, beq_iff_eq] at h3
      exact ⟨h3.1.1.1, h3.1.1.2, h3.1.2, h3.2⟩
    · have := Array.all_eq_true_iff_forall_mem.1 h4 e he
      rw [hb] at this
      simpa using this
  refine region_rule (P := P) d R a0 w0 hm (fun i o ho => ⟨(key i o ho).1, (key i o ho).2.1⟩) (fun i j hi hj e => ?_) (fun i o ho => (key i o ho).2.2.2.2) hstab (fun i o ho a w hb hw hdep K hK => ?_) hend
  · have h := List.all_eq_true.1 (List.all_eq_true.1 hinj i (List.mem_range.2 hi)) j (List.mem_range.2 hj)
    rw [e] at h
    simpa using h
  · have hdep' : ∀ j, (o.after.any fun e => Region.binds .any e && (e.on == j)) = true → Has d R j a w := fun j hj => by
      rw [Array.any_eq_true] at hj
      obtain ⟨k, hk, h2⟩ := hj
      simp only [Bool.and_eq_true, beq_iff_eq] at h2
      obtain ⟨h2, h3⟩ := h2
      rw [← h3]
      exact hdep _ (Array.getElem_mem hk) h2
    have hwant : Region.wanted o (yielded ops a.tmps) = !sk i := by
      unfold Region.wanted
      cases hg : o.guard with
      | none => rw [(key i o ho).2.2.1 hg]; rfl
      | some gp =>
        obtain ⟨g, b⟩ := gp
        obtain ⟨h1, h2, h3, h4⟩ := (key i o ho).2.2.2.1 g b hg
        obtain ⟨v, hv, hR⟩ := hdep' g h4
        obtain ⟨b', hb'⟩ := Option.isSome_iff_exists.1 h1
        have ev := hgb g b' v w hb' hR
        subst ev
        have hog : ops[g]? = some ops[g] := Array.getElem?_eq_getElem h3
        have hdg := (key g _ hog).1
        rw [h2, hb']
        show (yielded ops a.tmps g == some b) = _
        unfold yielded
        rw [hog, Option.bind_some, hdg, Option.bind_some, hv]
        cases b' <;> cases b <;> rfl
    cases hs : sk i with
    | false => exact hstep i o (hlt i o ho) hs ho (key i o ho).1 a w hb hw (by rw [hwant, hs]; rfl) hdep' K (fun v w' h1 h2 => by rw [(key i o ho).1]; exact hK v w' h1 h2)
    | true =>
      refine wpOp_step ho (fun K' hK' => ?_)
      rw [if_neg (by rw [hwant, hs]; simp)]
      refine hK' _ _ ?_
      rw [(key i o ho).1]
      exact hK undef w (hsk i w hs) (Below.refl _ _)

/-- A step whose run is known. -/
theorem st3 {i : Nat} {o : Oper} {a : Act} {w w' : World} {K : Act → World → Prop} {v : Value} (ho : ops[i]? = some o) (hw : Region.wanted o (yielded ops a.tmps) = true)
    (hrun : Sem.run P (execOp a.eval o) w = .ok (Next.value v) w') (hK : K (a.put o.dst v) w') : wpOp P ops Q i K a w := by
  refine wpOp_step ho (fun K' hK' => ?_)
  rw [if_pos hw]
  unfold Oper.wp
  rw [hrun]
  exact hK' _ _ hK

/-- A step that is a call of a function of the program. -/
theorem st3_call {i f : Nat} {o : Oper} {a : Act} {w : World} {K : Act → World → Prop} {vals : Array Value} {Z : Value → World → Prop} (ho : ops[i]? = some o) (hw : Region.wanted o (yielded ops a.tmps) = true)
    (hrun : Sem.run P (execOp a.eval o) w = .ok (Next.enter f vals) w) (hc : Calls P f vals w fun e w' => ∃ v, e = .returned v ∧ Z v w') (hK : ∀ v w', Z v w' → K (a.put o.dst v) w') : wpOp P ops Q i K a w := by
  refine wpOp_step ho (fun K' hK' => ?_)
  rw [if_pos hw]
  unfold Oper.wp
  rw [hrun]
  refine hc.mono ?_
  rintro e w' ⟨v, rfl, hz⟩
  exact hK' _ _ (hK v w' hz)

end

theorem fold_set (g : Nat → Value) : ∀ (ds : List Nat) (t0 : Array Value), (ds.foldl (fun t s => t.setIfInBounds s (g s)) t0).size = t0.size ∧
    ∀ s, (ds.foldl (fun t s => t.setIfInBounds s (g s)) t0)[s]? = if s ∈ ds ∧ s < t0.size then some (g s) else t0[s]?
  | [], t0 => ⟨rfl, fun s => by simp⟩
  | x :: ds, t0 => by
    obtain ⟨h1, h2⟩ := fold_set g ds (t0.setIfInBounds x (g x))
    rw [List.foldl_cons]
    refine ⟨by rw [h1]; simp, fun s => ?_⟩
    rw [h2]
    simp only [Array.size_setIfInBounds, List.mem_cons]
    by_cases hs : s < t0.size
    · by_cases hm : s ∈ ds
      · simp [hm, hs]
      · by_cases hx : s = x
        · subst hx
          simp [hm, hs]
        · simp [hm, hx, Array.getElem?_setIfInBounds_ne (fun e => hx e.symm)]
    · rw [if_neg (fun h => hs h.2), if_neg (fun h => hs h.2), Array.getElem?_eq_none (by simp; omega), Array.getElem?_eq_none (by omega)]

/-- Behind a region: the act is as it was but for the slots that the region writes. -/
theorem base_lit {d : Nat → Nat} {n : Nat} {a0 a : Act} (hb : Base d n a0 a) (ds : List Nat) (hds : (List.range n).map d = ds) :
    ∃ g : Nat → Value, (∀ s v, a.tmps[s]? = some v → g s = v) ∧ a = { tmps := ds.foldl (fun t s => t.setIfInBounds s (g s)) a0.tmps, defers := a0.defers } := by
  refine ⟨fun s => a.tmps.getD s undef, fun s v hv => by simp only [Array.getD_eq_getD_getElem?, hv]; rfl, ?_⟩
  obtain ⟨h1, h2⟩ := fold_set (fun s => a.tmps.getD s undef) ds a0.tmps
  have e : a.tmps = ds.foldl (fun t s => t.setIfInBounds s (a.tmps.getD s undef)) a0.tmps := by
    apply Array.ext_getElem?
    intro s
    rw [h2]
    by_cases hs : s < a0.tmps.size
    · by_cases hm : s ∈ ds
      · rw [if_pos ⟨hm, hs⟩]
        have hs' : s < a.tmps.size := by rw [hb.1]; exact hs
        simp [hs']
      · rw [if_neg (fun h => hm h.1)]
        refine hb.2.2 s fun i hi e => hm ?_
        rw [← hds]
        exact List.mem_map.2 ⟨i, List.mem_range.2 hi, e⟩
    · rw [if_neg (fun h => hs h.2), Array.getElem?_eq_none (by rw [hb.1]; omega), Array.getElem?_eq_none (by omega)]
  cases a with
  | mk t df =>
    have hd : df = a0.defers := hb.2.1
    subst hd
    simp only [Act.mk.injEq, and_true]
    exact e

end Go.Proofs.YtfaeechidjpjbaaGreat

namespace Go.Proofs.YtfaeechidjpjbaaGreat
open Go.RowKit
set_option linter.unusedVariables false
set_option linter.unusedSimpArgs false
def cwR (g off base : Nat) (sp : Int) (A : Option Addr) (n c : Nat) (da : List UInt8) : Nat → Value → World → Prop
  | 0 => fun v w => v = .pointer (some ⟨g, off, none⟩)
  | 1 => fun v w => v = .pointer (some ⟨g, off, none⟩)
  | 2 => fun v w => v = .pointer (some ⟨g, off, none⟩)
  | 3 => fun v w => v = .int .i64 sp
  | 4 => fun v w => IntV w [sp] v
  | 5 => fun v w => BtV w (ibs [sp]) v
  | 6 => fun v w => v = .pointer (some ⟨g, off, none⟩)
  | 7 => fun v w => v = .pointer (some ⟨g, off, none⟩)
  | 8 => fun v w => v = .pointer (some ⟨g, off + 1, none⟩)
  | 9 => fun v w => v = .slice A n c
  | 10 => fun v w => Bs1V w da v
  | 11 => fun v w => BtV w (sb da) v
  | 12 => fun v w => BssV w (ibs [sp]) (sb da) v
  | 13 => fun v w => OwnB w base (ibs [sp] ++ sb da) v
  | 14 => fun v w => OwnB w base (ibs [sp] ++ sb da) v
  | _ => fun _ _ => True
def cwD (i : Nat) : Nat := ([3, 4, 5, 6, 7, 8, 9, 10, 11, 12, 13, 14, 15, 16, 2] : List Nat).getD i 0
def cwG : Nat → Option Bool
  | _ => none
def cwS (i : Nat) : Bool := ([] : List Nat).contains i
theorem cw_gb (g off base : Nat) (sp : Int) (A : Option Addr) (n c : Nat) (da : List UInt8) : ∀ i b v w, cwG i = some b → cwR g off base sp A n c da i v w → v = .bool b := by
  intro i b v w h hR
  unfold cwG at h
  split at h
  all_goals first | (injection h with h; subst h; exact hR) | cases h
theorem cw_sk (g off base : Nat) (sp : Int) (A : Option Addr) (n c : Nat) (da : List UInt8) : ∀ i w, cwS i = true → cwR g off base sp A n c da i undef w := by
  intro i w h
  simp [cwS] at h
theorem cw_on (g off base : Nat) (sp : Int) (A : Option Addr) (n c : Nat) (da : List UInt8) : ∀ i v w w', cwR g off base sp A n c da i v w → Below w.heap.size w w' → cwR g off base sp A n c da i v w'
  | 0, v, w, w', h, _ => h
  | 1, v, w, w', h, _ => h
  | 2, v, w, w', h, _ => h
  | 3, v, w, w', h, _ => h
  | 4, v, w, w', h, hb => IntV.below h hb
  | 5, v, w, w', h, hb => BtV.below h hb
  | 6, v, w, w', h, _ => h
  | 7, v, w, w', h, _ => h
  | 8, v, w, w', h, _ => h
  | 9, v, w, w', h, _ => h
  | 10, v, w, w', h, hb => Bs1V.below h hb
  | 11, v, w, w', h, hb => BtV.below h hb
  | 12, v, w, w', h, hb => BssV.below h hb
  | 13, v, w, w', h, hb => OwnB.below h hb
  | 14, v, w, w', h, hb => OwnB.below h hb
  | i + 15, v, w, w', h, hb => trivial
def cwOps : List Op := [.move (.tmp 0),
  .nilCheck (.tmp 3),
  .fieldAddr 80 (.tmp 4) 0,
  .load 3 (.tmp 5),
  .buildSlice 41 1 #[(0, .tmp 6)],
  .call { callee := .value (.func 89), args := #[.tmp 7], argTypes := #[41] },
  .move (.tmp 0),
  .nilCheck (.tmp 9),
  .fieldAddr 80 (.tmp 10) 1,
  .load 22 (.tmp 11),
  .buildSlice 23 1 #[(0, .tmp 12)],
  .call { callee := .value (.func 63), args := #[.tmp 13], argTypes := #[23] },
  .buildSlice 23 2 #[(0, .tmp 8), (1, .tmp 14)],
  .call { callee := .value (.func 105), args := #[.tmp 15], argTypes := #[23] },
  .assign (.tmp 16)]
def cwNeeds : Nat → List Nat
  | 0 => []
  | 1 => [0]
  | 2 => [1]
  | 3 => [2]
  | 4 => [3]
  | 5 => [4]
  | 6 => []
  | 7 => [6]
  | 8 => [7]
  | 9 => [8]
  | 10 => [9]
  | 11 => [10]
  | 12 => [5, 11]
  | 13 => [12]
  | 14 => [13]
  | _ => []
set_option maxRecDepth 100000 in
set_option maxHeartbeats 3200000 in
theorem cw_step {ops : Array Oper} {Q : Exit → Act → World → Prop} {a0 : Act} {w0 : World} (g off base : Nat) (sp : Int) (A : Option Addr) (n c : Nat) (da : List UInt8) (hops : ((List.range 15).map fun i => (ops[i]?).map Oper.op) = cwOps.map some)
    (hnd : ((List.range 15).all fun i => (cwNeeds i).all fun j => ((ops[i]?).map fun o => o.after.any fun e => Region.binds .any e && (e.on == j)).getD false) = true)
    (x0 : a0.tmps[0]? = some (.pointer (some ⟨g, off, none⟩))) (hg : g < w0.heap.size) (h0 : w0.cell? ⟨g, off, none⟩ = some (.int .i64 sp)) (h1 : w0.cell? ⟨g, off + 1, none⟩ = some (.slice A n c))
    (hB : Bs w0 A da) (hn : da.length = n) (hl : n ≤ 16) (hw : Wf sp) (hbase0 : base ≤ w0.heap.size) :
    ∀ i o, i < 15 → cwS i = false → ops[i]? = some o → o.dst = some (cwD i) → ∀ a w, Base cwD 15 a0 a → Below w0.heap.size w0 w → Region.wanted o (yielded ops a.tmps) = true →
      (∀ j, (o.after.any fun e => Region.binds .any e && (e.on == j)) = true → Has cwD (cwR g off base sp A n c da) j a w) →
      ∀ K : Act → World → Prop, (∀ v w', cwR g off base sp A n c da i v w' → Below w.heap.size w w' → K (a.put o.dst v) w') → wpOp Tryz.prog ops Q i K a w := by
  intro i o hi hs ho hds a w hbase hbl hwt hdep0 K hK
  have hop : some o.op = cwOps[i]? := by
    have h1 : ((List.range 15).map fun i => (ops[i]?).map Oper.op)[i]? = some (some o.op) := by
      rw [List.getElem?_map, List.getElem?_range hi]; simp only [Option.map_some, ho]
    rw [hops, List.getElem?_map] at h1
    cases h2 : cwOps[i]? with
    | none => rw [h2] at h1; cases h1
    | some y => rw [h2] at h1; simp only [Option.map_some, Option.some.injEq] at h1; rw [h1]
  have hdep : ∀ j, j ∈ cwNeeds i → Has cwD (cwR g off base sp A n c da) j a w := fun j hj => by
    have h1 := List.all_eq_true.1 (List.all_eq_true.1 hnd i (List.mem_range.2 hi)) j hj
    rw [ho] at h1
    exact hdep0 j h1
  clear hdep0 hops hnd
  match i, hi, hs, ho, hop, hds, hdep, hK with
  | 0, _, hs, ho, hop, hds, hdep, hK =>
    have hop : o.op = .move (.tmp 0) := Option.some.inj hop
    have hu0 : a.tmps[0]? = some (.pointer (some ⟨g, off, none⟩)) := (hbase.2.2 0 (by decide)).trans x0
    have e0 : a.eval (.tmp 0) = _ := ev_tmp hu0
    refine st3 ho hwt (v := _) (w' := w) ?_ (hK _ w rfl (Below.refl _ _))
    unfold execOp
    rw [hop, ← e0]
    rfl
  | 1, _, hs, ho, hop, hds, hdep, hK =>
    have hop : o.op = .nilCheck (.tmp 3) := Option.some.inj hop
    obtain ⟨u3, hu3, hv3⟩ := hdep 0 (by decide)
    have hv3' : u3 = .pointer (some ⟨g, off, none⟩) := hv3
    subst hv3'
    have e3 : a.eval (.tmp 3) = _ := ev_tmp hu3
    refine st3 ho hwt (v := .pointer (some ⟨g, off, none⟩)) (w' := w) ?_ (hK _ w rfl (Below.refl _ _))
    unfold execOp
    simp only [hop, Option.map_some, Option.map_none, e3]
    first | rfl | (go_simp; done) | (go_simp; simp; done) | (go_simp; intro h; omega)
  | 2, _, hs, ho, hop, hds, hdep, hK =>
    have hop : o.op = .fieldAddr 80 (.tmp 4) 0 := Option.some.inj hop
    obtain ⟨u4, hu4, hv4⟩ := hdep 1 (by decide)
    have hv4' : u4 = .pointer (some ⟨g, off, none⟩) := hv4
    subst hv4'
    have e4 : a.eval (.tmp 4) = _ := ev_tmp hu4
    refine st3 ho hwt (v := .pointer (some ⟨g, off, none⟩)) (w' := w) ?_ (hK _ w rfl (Below.refl _ _))
    unfold execOp
    simp only [hop, Option.map_some, Option.map_none, e4]
    first | rfl | (go_simp; done) | (go_simp; simp; done) | (go_simp; intro h; omega)
  | 3, _, hs, ho, hop, hds, hdep, hK =>
    have hop : o.op = .load 3 (.tmp 5) := Option.some.inj hop
    obtain ⟨u5, hu5, hv5⟩ := hdep 2 (by decide)
    have hv5' : u5 = .pointer (some ⟨g, off, none⟩) := hv5
    subst hv5'
    have e5 : a.eval (.tmp 5) = _ := ev_tmp hu5
    refine st3 ho hwt (v := .int .i64 sp) (w' := w) ?_ (hK _ w rfl (Below.refl _ _))
    have k3 : w.cell? ⟨g, off, none⟩ = some (.int .i64 sp) := (hbl.cell (p := ⟨g, off, none⟩) hg).trans h0
    unfold execOp
    simp only [hop, Option.map_some, Option.map_none, e5]
    first | rfl | (go_simp; done) | (go_simp; simp; done) | (go_simp; intro h; omega)
  | 4, _, hs, ho, hop, hds, hdep, hK =>
    have hop : o.op = .buildSlice 41 1 #[(0, .tmp 6)] := Option.some.inj hop
    obtain ⟨u6, hu6, hv6⟩ := hdep 3 (by decide)
    have hv6' : u6 = .int .i64 sp := hv6
    subst hv6'
    have e6 : a.eval (.tmp 6) = _ := ev_tmp hu6
    have hrun : (Instr.buildSlice 41 1 #[(0, Value.int .i64 sp)]).run Tryz.prog w = .ok (.slice (some ⟨w.heap.size, 0, none⟩) 1 1) (w.alloc (.cells (cis [sp]).toArray 3)) := by kernel_rfl
    refine st3 ho hwt (v := .slice (some ⟨w.heap.size, 0, none⟩) 1 1) (w' := w.alloc (.cells (cis [sp]).toArray 3)) ?_ (hK _ _ ⟨_, _, _, rfl, argI_new w [sp] (by simp) (fun y hy => by rw [List.mem_singleton] at hy; rw [hy]; exact hw)⟩ ((Below.refl _ _).alloc (Nat.le_refl _) _))
    unfold execOp
    simp only [hop, List.map_toArray, List.map_cons, List.map_nil, e6, Sem.run_bind, hrun, Result.andThen_ok]
    rfl
  | 5, _, hs, ho, hop, hds, hdep, hK =>
    have hop : o.op = .call { callee := .value (.func 89), args := #[.tmp 7], argTypes := #[41] } := Option.some.inj hop
    obtain ⟨u7, hu7, hv7⟩ := hdep 4 (by decide)
    have hv7' : IntV w [sp] u7 := hv7
    have e7 : a.eval (.tmp 7) = _ := ev_tmp hu7
    obtain ⟨A7, n7, c7, rfl, h7⟩ := hv7'
    refine st3_call ho hwt (f := 89) (vals := #[.slice A7 n7 c7]) (Z := fun v w' => BtV w' (ibs [sp]) v ∧ Below w.heap.size w w') ?_ ?_ ?_
    · unfold execOp
      simp only [hop, e7, resolve, invoke, Sem.run_bind, Sem.run_pure, Result.andThen_ok, List.map_toArray, List.map_cons, List.map_nil]
      first | rfl | exact enters_of Tryz.func89 (by kernel_rfl) rfl _ _
    · exact (numbers_any _ _ _ _ w h7 (by have := h7.1; simp at this; omega)).mono fun e w' ⟨v, he, hN⟩ => ⟨v, he, (let ⟨A, c, e1, _, _, hB⟩ := hN.form; ⟨A, c, e1, hB⟩), hN.2⟩
    · rintro v w' ⟨h1, h2⟩
      exact hK v w' h1 h2
  | 6, _, hs, ho, hop, hds, hdep, hK =>
    have hop : o.op = .move (.tmp 0) := Option.some.inj hop
    have hu0 : a.tmps[0]? = some (.pointer (some ⟨g, off, none⟩)) := (hbase.2.2 0 (by decide)).trans x0
    have e0 : a.eval (.tmp 0) = _ := ev_tmp hu0
    refine st3 ho hwt (v := _) (w' := w) ?_ (hK _ w rfl (Below.refl _ _))
    unfold execOp
    rw [hop, ← e0]
    rfl
  | 7, _, hs, ho, hop, hds, hdep, hK =>
    have hop : o.op = .nilCheck (.tmp 9) := Option.some.inj hop
    obtain ⟨u9, hu9, hv9⟩ := hdep 6 (by decide)
    have hv9' : u9 = .pointer (some ⟨g, off, none⟩) := hv9
    subst hv9'
    have e9 : a.eval (.tmp 9) = _ := ev_tmp hu9
    refine st3 ho hwt (v := .pointer (some ⟨g, off, none⟩)) (w' := w) ?_ (hK _ w rfl (Below.refl _ _))
    unfold execOp
    simp only [hop, Option.map_some, Option.map_none, e9]
    first | rfl | (go_simp; done) | (go_simp; simp; done) | (go_simp; intro h; omega)
  | 8, _, hs, ho, hop, hds, hdep, hK =>
    have hop : o.op = .fieldAddr 80 (.tmp 10) 1 := Option.some.inj hop
    obtain ⟨u10, hu10, hv10⟩ := hdep 7 (by decide)
    have hv10' : u10 = .pointer (some ⟨g, off, none⟩) := hv10
    subst hv10'
    have e10 : a.eval (.tmp 10) = _ := ev_tmp hu10
    refine st3 ho hwt (v := .pointer (some ⟨g, off + 1, none⟩)) (w' := w) ?_ (hK _ w rfl (Below.refl _ _))
    unfold execOp
    simp only [hop, Option.map_some, Option.map_none, e10]
    first | rfl | (go_simp; done) | (go_simp; simp; done) | (go_simp; intro h; omega)
  | 9, _, hs, ho, hop, hds, hdep, hK =>
    have hop : o.op = .load 22 (.tmp 11) := Option.some.inj hop
    obtain ⟨u11, hu11, hv11⟩ := hdep 8 (by decide)
    have hv11' : u11 = .pointer (some ⟨g, off + 1, none⟩) := hv11
    subst hv11'
    have e11 : a.eval (.tmp 11) = _ := ev_tmp hu11
    refine st3 ho hwt (v := .slice A n c) (w' := w) ?_ (hK _ w rfl (Below.refl _ _))
    have k9 : w.cell? ⟨g, off + 1, none⟩ = some (.slice A n c) := (hbl.cell (p := ⟨g, off + 1, none⟩) hg).trans h1
    unfold execOp
    simp only [hop, Option.map_some, Option.map_none, e11]
    first | rfl | (go_simp; done) | (go_simp; simp; done) | (go_simp; intro h; omega)
  | 10, _, hs, ho, hop, hds, hdep, hK =>
    have hop : o.op = .buildSlice 23 1 #[(0, .tmp 12)] := Option.some.inj hop
    obtain ⟨u12, hu12, hv12⟩ := hdep 9 (by decide)
    have hv12' : u12 = .slice A n c := hv12
    subst hv12'
    have e12 : a.eval (.tmp 12) = _ := ev_tmp hu12
    have hrun : (Instr.buildSlice 23 1 #[(0, Value.slice A n c)]).run Tryz.prog w = .ok (.slice (some ⟨w.heap.size, 0, none⟩) 1 1) (w.alloc (.cells #[.slice A n c] 22)) := by kernel_rfl
    refine st3 ho hwt (v := .slice (some ⟨w.heap.size, 0, none⟩) 1 1) (w' := w.alloc (.cells #[.slice A n c] 22)) ?_ (hK _ _ ⟨_, rfl, Bss.made1 (hB.on hbl) hn⟩ ((Below.refl _ _).alloc (Nat.le_refl _) _))
    unfold execOp
    simp only [hop, List.map_toArray, List.map_cons, List.map_nil, e12, Sem.run_bind, hrun, Result.andThen_ok]
    rfl
  | 11, _, hs, ho, hop, hds, hdep, hK =>
    have hop : o.op = .call { callee := .value (.func 63), args := #[.tmp 13], argTypes := #[23] } := Option.some.inj hop
    obtain ⟨u13, hu13, hv13⟩ := hdep 10 (by decide)
    have hv13' : Bs1V w da u13 := hv13
    have e13 : a.eval (.tmp 13) = _ := ev_tmp hu13
    obtain ⟨A13, rfl, h13⟩ := hv13'
    refine st3_call ho hwt (f := 63) (vals := #[.slice A13 1 1]) (Z := fun v w' => BtV w' (sb da) v ∧ Below w.heap.size w w') ?_ ?_ ?_
    · unfold execOp
      simp only [hop, e13, resolve, invoke, Sem.run_bind, Sem.run_pure, Result.andThen_ok, List.map_toArray, List.map_cons, List.map_nil]
      first | rfl | exact enters_of Tryz.func63 (by kernel_rfl) rfl _ _
    · exact (texts_any _ 1 1 [da] w h13 rfl (by omega) (fun x hx => by rw [List.mem_singleton.1 hx, hn]; unfold maxLen; omega)).mono fun e w' ⟨v, he, hN⟩ => ⟨v, he, by rw [txs_one] at hN; exact (let ⟨A, c, e1, _, _, hB⟩ := hN.form; ⟨A, c, e1, hB⟩), hN.2⟩
    · rintro v w' ⟨h1, h2⟩
      exact hK v w' h1 h2
  | 12, _, hs, ho, hop, hds, hdep, hK =>
    have hop : o.op = .buildSlice 23 2 #[(0, .tmp 8), (1, .tmp 14)] := Option.some.inj hop
    obtain ⟨u8, hu8, hv8⟩ := hdep 5 (by decide)
    have hv8' : BtV w (ibs [sp]) u8 := hv8
    have e8 : a.eval (.tmp 8) = _ := ev_tmp hu8
    obtain ⟨u14, hu14, hv14⟩ := hdep 11 (by decide)
    have hv14' : BtV w (sb da) u14 := hv14
    have e14 : a.eval (.tmp 14) = _ := ev_tmp hu14
    obtain ⟨A8, c8, rfl, h8⟩ := hv8'
    obtain ⟨A14, c14, rfl, h14⟩ := hv14'
    have hrun : (Instr.buildSlice 23 2 #[(0, Value.slice A8 (ibs [sp]).length c8), (1, Value.slice A14 (sb da).length c14)]).run Tryz.prog w = .ok (.slice (some ⟨w.heap.size, 0, none⟩) 2 2) (w.alloc (.cells #[.slice A8 (ibs [sp]).length c8, .slice A14 (sb da).length c14] 22)) := by generalize (ibs [sp]).length = q1; generalize (sb da).length = q2; kernel_rfl
    refine st3 ho hwt (v := .slice (some ⟨w.heap.size, 0, none⟩) 2 2) (w' := w.alloc (.cells #[.slice A8 (ibs [sp]).length c8, .slice A14 (sb da).length c14] 22)) ?_ (hK _ _ ⟨_, rfl, Bss.made2 h8 rfl h14 rfl⟩ ((Below.refl _ _).alloc (Nat.le_refl _) _))
    unfold execOp
    simp only [hop, List.map_toArray, List.map_cons, List.map_nil, e8, e14, Sem.run_bind, hrun, Result.andThen_ok]
    rfl
  | 13, _, hs, ho, hop, hds, hdep, hK =>
    have hop : o.op = .call { callee := .value (.func 105), args := #[.tmp 15], argTypes := #[23] } := Option.some.inj hop
    obtain ⟨u15, hu15, hv15⟩ := hdep 12 (by decide)
    have hv15' : BssV w (ibs [sp]) (sb da) u15 := hv15
    have e15 : a.eval (.tmp 15) = _ := ev_tmp hu15
    obtain ⟨A15, rfl, h15⟩ := hv15'
    refine st3_call ho hwt (f := 105) (vals := #[.slice A15 2 2]) (Z := fun v w' => OwnB w' base (ibs [sp] ++ sb da) v ∧ Below w.heap.size w w') ?_ ?_ ?_
    · unfold execOp
      simp only [hop, e15, resolve, invoke, Sem.run_bind, Sem.run_pure, Result.andThen_ok, List.map_toArray, List.map_cons, List.map_nil]
      first | rfl | exact enters_of Tryz.func105 (by kernel_rfl) rfl _ _
    · exact (join_any _ _ 2 _ w h15 rfl (by omega) (by have h1 := ibs_max [sp]; have h2 := sb_max da; simp at h1 ⊢; omega)).mono fun e w' ⟨v, he, hN⟩ => ⟨v, he, (by have h1 := hN.1; simp only [List.flatten_cons, List.flatten_nil, List.append_nil] at h1; exact mine_far h1 (Nat.le_trans hbase0 hbl.size) (fun _ _ => rfl)), hN.2⟩
    · rintro v w' ⟨h1, h2⟩
      exact hK v w' h1 h2
  | 14, _, hs, ho, hop, hds, hdep, hK =>
    have hop : o.op = .assign (.tmp 16) := Option.some.inj hop
    obtain ⟨u16, hu16, hv16⟩ := hdep 13 (by decide)
    have hv16' : OwnB w base (ibs [sp] ++ sb da) u16 := hv16
    have e16 : a.eval (.tmp 16) = _ := ev_tmp hu16
    refine st3 ho hwt (v := _) (w' := w) ?_ (hK _ w hv16 (Below.refl _ _))
    unfold execOp
    rw [hop, ← e16]
    rfl
  | i + 15, hi, _, _, _, _, _, _ => exact absurd hi (by omega)

set_option maxRecDepth 100000 in
set_option maxHeartbeats 1600000 in
theorem clwr_any {w : World} {g off n c : Nat} {A : Option Addr} (x : C16) (h0 : w.cell? ⟨g, off, none⟩ = some (.int .i64 x.st)) (h1 : w.cell? ⟨g, off + 1, none⟩ = some (.slice A n c)) (hB : Bs w A x.da) (hn : x.da.length = n) (hl : n ≤ 16) (hs : 0 ≤ x.st ∧ x.st ≤ 9007199254740991) (hg : g < w.heap.size) :
    Calls Tryz.prog 87 #[.pointer (some ⟨g, off, none⟩)] w (RetB w (clB x)) := by
  have hw := wf_in hs
  have hE : clB x = ibs [x.st] ++ sb x.da := rfl
  rw [hE]
  have H := Lib.hid (And.intro hg (And.intro h0 (And.intro h1 (And.intro hB (And.intro hn (And.intro hl hw))))))
  clear h0 h1 hB hn hl hs hg hw hE
  go_enter Tryz.func87, Tryz.ntmps87
  go_upto_region 1 with fail
  refine region_rule4 (P := Tryz.prog) 15 17 cwD cwG cwS (cwR g off w.heap.size x.st A n c x.da) _ _ (by kernel_rfl) rfl rfl (by kernel_rfl) (by decide +kernel) (cw_gb g off w.heap.size x.st A n c x.da) (cw_sk g off w.heap.size x.st A n c x.da) (cw_on g off w.heap.size x.st A n c x.da) (cw_step g off w.heap.size x.st A n c x.da (by rfl) (by kernel_rfl) rfl H.out.1 H.out.2.1 H.out.2.2.1 H.out.2.2.2.1 H.out.2.2.2.2.1 H.out.2.2.2.2.2.1 H.out.2.2.2.2.2.2 (Nat.le_refl _)) ?fin
  case fin =>
    intro a w6 hbase hbl hall
    obtain ⟨v2, hv2, hR2⟩ := hall 14 (by decide)
    have hR2' : OwnB w6 w.heap.size _ v2 := hR2
    obtain ⟨gg, hgge, hgg⟩ := base_lit hbase [3, 4, 5, 6, 7, 8, 9, 10, 11, 12, 13, 14, 15, 16, 2] (by rfl)
    have q2 : gg 2 = v2 := hgge 2 _ hv2
    simp only [List.foldl_cons, List.foldl_nil, List.setIfInBounds_toArray, List.set_cons_zero, List.set_cons_succ, q2] at hgg
    rw [hgg]
    have H6 := Lib.hid (And.intro hR2' hbl)
    clear hR2 hR2' hbl hall hbase
    go_wp2
    go_ret
    exact ⟨_, rfl, H6.out.1, H6.out.2⟩
end Go.Proofs.YtfaeechidjpjbaaGreat

namespace Go.Proofs.YtfaeechidjpjbaaGreat
open Go.RowKit
set_option linter.unusedVariables false
set_option linter.unusedSimpArgs false
/-- The last leaf. -/
def epB (v : Va) : List UInt8 := ibs [v.gr, v.ep, (v.sea.length : Int)] ++ ibs v.sea
section
variable {w w' : World} {U S : Nat → Prop} {g bv bi : Nat} {bk : Value} {v : Va} {cs : List Value}
set_option maxRecDepth 100000 in
set_option maxHeartbeats 1600000 in
theorem wr1_any (h : VaIn w U g bk v cs) (hv : w.cell? ⟨bv, 0, none⟩ = some (.pointer (some ⟨g, 0, none⟩))) {i : Nat} (hi : i < 8) (hc : w.cell? ⟨bi, 0, none⟩ = some (.int .i64 i)) :
    Calls Tryz.prog 85 #[.pointer (some ⟨bv, 0, none⟩), .pointer (some ⟨bi, 0, none⟩)] w (RetB w (v.bl i)) := by
  have hB := h.bs hi
  rw [show 3 + 16 * i = 3 + i * 16 by omega] at hB
  have HB := Lib.hid (And.intro hB (h.ok.bl i hi))
  have i0 : 0 ≤ (i : Int) := by omega
  have i8 : (i : Int) < 8 := by omega
  have mixed : Tryz.prog.follows Departure.mixedOrders = true := by kernel_rfl
  clear h hB hi
  go_enter Tryz.func85, Tryz.ntmps85
  go_upto_region 1 with fail
  go_region_with (go_at_call 61; go_loud (refine (clone_any _ 16 16 (v.bl i) _ (Bs.on HB.out.1 (below_drewN (Below.refl _ _) 1)) HB.out.2 (by omega)).mono ?_; rintro e w2 ⟨d, rfl, hd⟩; have hd := Lib.hid hd))
  all_goals go_wp2
  all_goals go_ret
  all_goals exact ⟨d, rfl, hd.out.ofDrew⟩
set_option maxRecDepth 100000 in
set_option maxHeartbeats 1600000 in
theorem wr2_any (h : VaIn w U g bk v cs) (hv : w.cell? ⟨bv, 0, none⟩ = some (.pointer (some ⟨g, 0, none⟩))) {i : Nat} (hi : i < 4) (hc : w.cell? ⟨bi, 0, none⟩ = some (.int .i64 i)) :
    Calls Tryz.prog 86 #[.pointer (some ⟨bv, 0, none⟩), .pointer (some ⟨bi, 0, none⟩)] w (RetB w (clB (v.cl i))) := by
  obtain ⟨e1, A, n, c, e2, e3⟩ := h.cl i hi
  have k1 := h.blk.cell e1
  have k2 := h.blk.cell e2
  rw [show 131 + 2 * i = 131 + i * 2 by omega] at k1
  rw [show 132 + 2 * i = 131 + i * 2 + 1 by omega] at k2
  have hok := h.ok.cl i hi
  have bd : Below w.heap.size w w.drew := (Below.refl _ _).drew
  have Hw := Lib.hid (clwr_any (w := w.drew) (g := g) (off := 131 + i * 2) (v.cl i) k1 k2 (e3.bs.on bd) e3.len (by have := e3.len; omega) hok.2 (h.lt g h.u))
  have i0 : 0 ≤ (i : Int) := by omega
  have i4 : (i : Int) < 4 := by omega
  have mixed : Tryz.prog.follows Departure.mixedOrders = true := by kernel_rfl
  clear h hi e1 e2 e3 k1 k2 hok bd
  go_enter Tryz.func86, Tryz.ntmps86
  go_upto_region 1 with fail
  go_region_with (go_at_call 87; go_loud (refine Hw.out.mono ?_; rintro e w2 ⟨d, rfl, hd⟩; have hd := Lib.hid hd))
  all_goals go_wp2
  all_goals go_ret
  all_goals exact ⟨d, rfl, hd.out.ofDrew⟩
end
end Go.Proofs.YtfaeechidjpjbaaGreat
