/-
  Laid together for a hand-in: Rule, Rule3, CrewP, CrewQ.
-/
import Derived.Test.YtmdgcimjmmnbjaaZ02
import Derived.Below

namespace Go.Proofs.Ytmdgcimjmmnbjaa

open Go.RowKit Go.Maps

set_option linter.unusedVariables false

theorem countP_lt {α : Type} {p q : α → Bool} : ∀ (l : List α), (∀ x ∈ l, q x = true → p x = true) → (∃ x ∈ l, p x = true ∧ q x = false) → l.countP q < l.countP p
  | [], _, ⟨x, hx, _⟩ => by simp at hx
  | y :: l, h, ⟨x, hx, h1, h2⟩ => by
    have hle : l.countP q ≤ l.countP p := List.countP_mono_left fun z hz hq => h z (List.mem_cons_of_mem _ hz) hq
    rw [List.countP_cons, List.countP_cons]
    rcases List.mem_cons.1 hx with rfl | hx
    · rw [if_pos h1, if_neg (by rw [h2]; simp)]; omega
    · have ih := countP_lt l (fun z hz hq => h z (List.mem_cons_of_mem _ hz) hq) ⟨x, hx, h1, h2⟩
      have hy := h y List.mem_cons_self
      by_cases hq : q y = true
      · rw [if_pos hq, if_pos (hy hq)]; omega
      · rw [if_neg hq]; split <;> omega

/-- Slot 'd i' has a value that is as 'R i' says. -/
def Has (d : Nat → Nat) (R : Nat → Value → World → Prop) (i : Nat) (a : Act) (w : World) : Prop := ∃ v, a.tmps[d i]? = some v ∧ R i v w

/-- The slots that the region doesn't write are as they were. -/
def Base (d : Nat → Nat) (n : Nat) (a0 a : Act) : Prop := a.tmps.size = a0.tmps.size ∧ a.defers = a0.defers ∧ ∀ s, (∀ i, i < n → d i ≠ s) → a.tmps[s]? = a0.tmps[s]?

section

variable {P : Program} {ops : Array Oper} {Q : Exit → Act → World → Prop} {md : Region.Mode}

theorem ready_mem {listed : Array Bool} {i : Nat} (h : i ∈ Region.ready md ops listed) : ∃ o, ops[i]? = some o ∧ i < ops.size ∧ listed.getD i true = false ∧ ∀ e ∈ o.after, Region.binds md e = true → listed.getD e.on false = true := by
  unfold Region.ready at h
  rw [List.mem_filter, List.mem_range] at h
  obtain ⟨hi, h2⟩ := h
  rw [Bool.and_eq_true] at h2
  obtain ⟨h3, h4⟩ := h2
  refine ⟨ops[i], by simp [hi], hi, by simpa using h3, ?_⟩
  intro e he hb
  rw [Array.getElem?_eq_getElem hi] at h4
  simp only [Option.map_some, Option.getD_some] at h4
  have := (Array.all_eq_true_iff_forall_mem.1 h4) e he
  rw [hb] at this
  simpa using this

theorem ready_nil {listed : Array Bool} (hs : listed.size = ops.size) (hback : ∀ i o, ops[i]? = some o → ∀ e ∈ o.after, Region.binds md e = true → e.on < i) (h : Region.ready md ops listed = []) :
    ∀ i, i < ops.size → listed.getD i false = true := by
  intro i
  induction i using Nat.strongRecOn with
  | ind i ih =>
    intro hi
    cases hl : listed.getD i false with
    | true => rfl
    | false =>
      exfalso
      have hmem : i ∈ Region.ready md ops listed := by
        unfold Region.ready
        rw [List.mem_filter, List.mem_range]
        refine ⟨hi, ?_⟩
        rw [Bool.and_eq_true]
        have hil : i < listed.size := by omega
        constructor
        · simp [Array.getD, hil] at hl ⊢; exact hl
        · rw [Array.getElem?_eq_getElem hi]
          simp only [Option.map_some, Option.getD_some]
          rw [Array.all_eq_true_iff_forall_mem]
          intro e he
          cases hb : Region.binds md e with
          | false => rfl
          | true =>
            have hlt := hback i ops[i] (by simp [hi]) e he hb
            rw [ih e.on hlt (by omega)]
            rfl
      rw [h] at hmem
      simp at hmem

theorem any_rule (d : Nat → Nat) (R : Nat → Value → World → Prop) (a0 : Act) (w0 : World)
    (hd : ∀ i o, ops[i]? = some o → o.dst = some (d i) ∧ d i < a0.tmps.size)
    (hinj : ∀ i j, i < ops.size → j < ops.size → d i = d j → i = j)
    (hback : ∀ i o, ops[i]? = some o → ∀ e ∈ o.after, Region.binds md e = true → e.on < i)
    (hstab : ∀ i v w w', R i v w → Below w.heap.size w w' → R i v w')
    (hstep : ∀ i o, ops[i]? = some o → ∀ a w, Base d ops.size a0 a → Below w0.heap.size w0 w → (∀ e ∈ o.after, Region.binds md e = true → Has d R e.on a w) →
      ∀ K : Act → World → Prop, (∀ v w', R i v w' → Below w.heap.size w w' → K (a.put (some (d i)) v) w') → wpOp P ops Q i K a w)
    (hend : ∀ a w, Base d ops.size a0 a → Below w0.heap.size w0 w → (∀ i, i < ops.size → Has d R i a w) → Q .normal a w) :
    ∀ fuel listed a w, listed.size = ops.size → Base d ops.size a0 a → Below w0.heap.size w0 w → (∀ i, i < ops.size → listed.getD i false = true → Has d R i a w) →
      (List.range ops.size).countP (fun i => !listed.getD i true) ≤ fuel → wpAny P md ops Q fuel listed a w := by
  intro fuel
  induction fuel with
  | zero =>
    intro listed a w hs hb hw hl hc
    have hnone : Region.ready md ops listed = [] := by
      cases hr : Region.ready md ops listed with
      | nil => rfl
      | cons x xs =>
        exfalso
        obtain ⟨o, _, hx, hx2, _⟩ := ready_mem (md := md) (ops := ops) (listed := listed) (i := x) (by rw [hr]; exact List.mem_cons_self)
        have hp : 0 < (List.range ops.size).countP (fun i => !listed.getD i true) := List.countP_pos_iff.2 ⟨x, List.mem_range.2 hx, by rw [hx2]; rfl⟩
        omega
    exact ⟨hnone, hend a w hb hw fun i hi => hl i hi (ready_nil hs hback hnone i hi)⟩
  | succ fuel ih =>
    intro listed a w hs hb hw hl hc
    refine ⟨fun hr => hend a w hb hw fun i hi => hl i hi (ready_nil hs hback hr i hi), fun i hi => ?_⟩
    obtain ⟨o, ho, hi1, hi2, hi3⟩ := ready_mem hi
    have hon : ∀ e ∈ o.after, Region.binds md e = true → Has d R e.on a w := fun e he hb => hl e.on (by have := hback i o ho e he hb; omega) (hi3 e he hb)
    refine hstep i o ho a w hb hw hon _ fun v w' hv hbel => ?_
    obtain ⟨_, hdi⟩ := hd i o ho
    have hput : (a.put (some (d i)) v).tmps = a.tmps.setIfInBounds (d i) v := rfl
    refine ih (listed.setIfInBounds i true) (a.put (some (d i)) v) w' (by simpa using hs) ⟨?_, hb.2.1, ?_⟩ (hw.trans (hbel.mono hw.size)) ?_ ?_
    · rw [hput]; simpa using hb.1
    · intro s hsn
      rw [hput, Array.getElem?_setIfInBounds_ne (hsn i hi1)]
      exact hb.2.2 s hsn
    · intro j hj hjl
      by_cases e : j = i
      · subst e
        exact ⟨v, by rw [hput, Array.getElem?_setIfInBounds_self_of_lt (by rw [hb.1]; exact hdi)], hv⟩
      · have hj2 : listed.getD j false = true := by
          have : (listed.setIfInBounds i true)[j]? = listed[j]? := Array.getElem?_setIfInBounds_ne (fun h => e h.symm)
          rw [Array.getD_eq_getD_getElem?] at hjl ⊢
          rwa [this] at hjl
        obtain ⟨u, hu, hru⟩ := hl j hj hj2
        exact ⟨u, by rw [hput, Array.getElem?_setIfInBounds_ne (fun h => e (hinj i j hi1 hj h).symm)]; exact hu, hstab j u w w' hru hbel⟩
    · have hlt : (List.range ops.size).countP (fun k => !(listed.setIfInBounds i true).getD k true) < (List.range ops.size).countP (fun k => !listed.getD k true) := by
        refine countP_lt _ (fun k hk hq => ?_) ⟨i, List.mem_range.2 hi1, by rw [hi2]; rfl, ?_⟩
        · by_cases e : k = i
          · subst e
            rw [Array.getD_eq_getD_getElem?, Array.getElem?_setIfInBounds_self_of_lt (by omega)] at hq
            simp at hq
          · have : (listed.setIfInBounds i true)[k]? = listed[k]? := Array.getElem?_setIfInBounds_ne (fun h => e h.symm)
            rw [Array.getD_eq_getD_getElem?] at hq ⊢
            rwa [this] at hq
        · rw [Array.getD_eq_getD_getElem?, Array.getElem?_setIfInBounds_self_of_lt (by omega)]
          rfl
      omega

/-- From the beginning. -/
theorem region_rule {id : Nat} (d : Nat → Nat) (R : Nat → Value → World → Prop) (a0 : Act) (w0 : World) (hm : P.follows .mixedOrders = true)
    (hd : ∀ i o, ops[i]? = some o → o.dst = some (d i) ∧ d i < a0.tmps.size)
    (hinj : ∀ i j, i < ops.size → j < ops.size → d i = d j → i = j)
    (hback : ∀ i o, ops[i]? = some o → ∀ e ∈ o.after, Region.binds .any e = true → e.on < i)
    (hstab : ∀ i v w w', R i v w → Below w.heap.size w w' → R i v w')
    (hstep : ∀ i o, ops[i]? = some o → ∀ a w, Base d ops.size a0 a → Below w0.heap.size w0 w → (∀ e ∈ o.after, Region.binds .any e = true → Has d R e.on a w) →
      ∀ K : Act → World → Prop, (∀ v w', R i v w' → Below w.heap.size w w' → K (a.put (some (d i)) v) w') → wpOp P ops Q i K a w)
    (hend : ∀ a w, Base d ops.size a0 a → Below w0.heap.size w0 w → (∀ i, i < ops.size → Has d R i a w) → Q .normal a w) : (Code.region id ops true).wp P Q a0 w0 := by
  refine wp_region_any hm (any_rule (P := P) (md := .any) d R a0 w0 hd hinj hback hstab hstep hend ops.size _ a0 _ (by simp) ⟨rfl, rfl, fun _ _ => rfl⟩ ?_ ?_ ?_)
  · exact (Below.refl _ _).drew
  · intro i hi h
    rw [Array.getD_eq_getD_getElem?] at h
    simp [hi] at h
  · exact Nat.le_trans List.countP_le_length (by simp)

/-- The same, what is asked of the table by computing. -/
theorem region_rule2 {id : Nat} (n N : Nat) (d : Nat → Nat) (R : Nat → Value → World → Prop) (a0 : Act) (w0 : World) (hm : P.follows .mixedOrders = true) (hn : ops.size = n) (hN : a0.tmps.size = N)
    (ht : ((List.range n).all fun i => ((ops[i]?).map fun o => (o.dst == some (d i)) && decide (d i < N) && o.guard.isNone && o.after.all fun e => !Region.binds .any e || decide (e.on < i)).getD false) = true)
    (hinj : ((List.range n).all fun i => (List.range n).all fun j => !(d i == d j) || (i == j)) = true)
    (hstab : ∀ i v w w', R i v w → Below w.heap.size w w' → R i v w')
    (hstep : ∀ i o, i < n → ops[i]? = some o → o.guard = none → o.dst = some (d i) → ∀ a w, Base d n a0 a → Below w0.heap.size w0 w →
      (∀ j, (o.after.any fun e => Region.binds .any e && (e.on == j)) = true → Has d R j a w) →
      ∀ K : Act → World → Prop, (∀ v w', R i v w' → Below w.heap.size w w' → K (a.put o.dst v) w') → wpOp P ops Q i K a w)
    (hend : ∀ a w, Base d n a0 a → Below w0.heap.size w0 w → (∀ i, i < n → Has d R i a w) → Q .normal a w) : (Code.region id ops true).wp P Q a0 w0 := by
  subst hn
  subst hN
  have hlt : ∀ i o, ops[i]? = some o → i < ops.size := fun i o h => by
    rcases Nat.lt_or_ge i ops.size with hl | hl
    · exact hl
    · rw [Array.getElem?_eq_none hl] at h; cases h
  have key : ∀ i o, ops[i]? = some o → o.dst = some (d i) ∧ d i < a0.tmps.size ∧ o.guard = none ∧ ∀ e ∈ o.after, Region.binds .any e = true → e.on < i := by
    intro i o ho
    have h := List.all_eq_true.1 ht i (List.mem_range.2 (hlt i o ho))
    rw [ho] at h
    simp only [Option.map_some, Option.getD_some, Bool.and_eq_true, beq_iff_eq, decide_eq_true_eq, Option.isNone_iff_eq_none] at h
    obtain ⟨⟨⟨h1, h2⟩, h3⟩, h4⟩ := h
    refine ⟨h1, h2, h3, fun e he hb => ?_⟩
    have := Array.all_eq_true_iff_forall_mem.1 h4 e he
    rw [hb] at this
    simpa using this
  refine region_rule (P := P) d R a0 w0 hm (fun i o ho => ⟨(key i o ho).1, (key i o ho).2.1⟩) (fun i j hi hj e => ?_) (fun i o ho => (key i o ho).2.2.2) hstab (fun i o ho a w hb hw hdep K hK => ?_) hend
  · have h := List.all_eq_true.1 (List.all_eq_true.1 hinj i (List.mem_range.2 hi)) j (List.mem_range.2 hj)
    rw [e] at h
    simpa using h
  · refine hstep i o (hlt i o ho) ho (key i o ho).2.2.1 (key i o ho).1 a w hb hw (fun j hj => ?_) K (fun v w' h1 h2 => by rw [(key i o ho).1]; exact hK v w' h1 h2)
    rw [Array.any_eq_true] at hj
    obtain ⟨k, hk, h2⟩ := hj
    simp only [Bool.and_eq_true, beq_iff_eq] at h2
    obtain ⟨h2, h3⟩ := h2
    rw [← h3]
    exact hdep _ (Array.getElem_mem hk) h2

theorem op_of {α : Type} {i : Nat} {o : Oper} (f : Oper → α) (ho : ops[i]? = some o) {v : α} (h : (ops[i]?).map f = some v) : f o = v := by
  rw [ho] at h
  exact Option.some.inj h

theorem ev_tmp {a : Act} {s : Nat} {v : Value} (h : a.tmps[s]? = some v) : a.eval (.tmp s) = v := by
  show a.tmps.getD s undef = v
  rw [Array.getD_eq_getD_getElem?, h]; rfl

theorem st_plain {i : Nat} {o : Oper} {a : Act} {w w' : World} {K : Act → World → Prop} {v : Value} (ho : ops[i]? = some o) (hg : o.guard = none)
    (hrun : Sem.run P (execOp a.eval o) w = .ok (Next.value v) w') (hK : K (a.put o.dst v) w') : wpOp P ops Q i K a w := by
  refine wpOp_step ho (fun K' hK' => ?_)
  have hw : Region.wanted o (yielded ops a.tmps) = true := by unfold Region.wanted; rw [hg]
  rw [if_pos hw]
  unfold Oper.wp
  rw [hrun]
  exact hK' _ _ hK

theorem st_move {i s : Nat} {o : Oper} {a : Act} {w : World} {K : Act → World → Prop} {v : Value} (ho : ops[i]? = some o) (hg : o.guard = none) (hop : o.op = .move (.tmp s)) (hv : a.tmps[s]? = some v)
    (hK : K (a.put o.dst v) w) : wpOp P ops Q i K a w := by
  refine st_plain ho hg ?_ hK
  unfold execOp
  rw [hop, ← ev_tmp hv]
  rfl

theorem st_assign {i s : Nat} {o : Oper} {a : Act} {w : World} {K : Act → World → Prop} {v : Value} (ho : ops[i]? = some o) (hg : o.guard = none) (hop : o.op = .assign (.tmp s)) (hv : a.tmps[s]? = some v)
    (hK : K (a.put o.dst v) w) : wpOp P ops Q i K a w := by
  refine st_plain ho hg ?_ hK
  unfold execOp
  rw [hop, ← ev_tmp hv]
  rfl

theorem st_build {i : Nat} {o : Oper} {a : Act} {w : World} {K : Act → World → Prop} (ho : ops[i]? = some o) (hg : o.guard = none) (t : TypeId) (parts : Array (Nat × Operand)) (hop : o.op = .build t parts) (cells : Array Value)
    (he : P.built t (parts.toList.map fun p => (p.1, a.eval p.2)) = some cells) (hK : K (a.put o.dst (.agg cells)) w) : wpOp P ops Q i K a w :=
  st_plain ho hg (exec_build t parts hop cells he w) hK

theorem st_row {i n : Nat} {o : Oper} {a : Act} {w : World} {K : Act → World → Prop} (ho : ops[i]? = some o) (hg : o.guard = none) (t e : TypeId) (parts : Array (Nat × Operand)) (hop : o.op = .buildSlice t n parts) (cells : Array Value)
    (he : (Instr.buildSlice t n (parts.map fun p => (p.1, a.eval p.2))).run P w = .ok (.slice (some ⟨w.heap.size, 0, none⟩) n n) (w.alloc (.cells cells e)))
    (hK : K (a.put o.dst (.slice (some ⟨w.heap.size, 0, none⟩) n n)) (w.alloc (.cells cells e))) : wpOp P ops Q i K a w := by
  refine st_plain ho hg ?_ hK
  have he' : (Instr.buildSlice t n (parts.map fun (i, x) => (i, a.eval x))).run P w = .ok (.slice (some ⟨w.heap.size, 0, none⟩) n n) (w.alloc (.cells cells e)) := he
  unfold execOp
  simp only [hop, Sem.run_bind, he', Result.andThen_ok]
  rfl

theorem st_slice {i : Nat} {o : Oper} {a : Act} {w : World} {K : Act → World → Prop} {v : Value} (ho : ops[i]? = some o) (hg : o.guard = none) (t : TypeId) (x : Operand) (k : Value) (hop : o.op = .slice t x none (some (.const k)) none)
    (he : (Instr.sliceAt t (a.eval x) none (some k) none).run P w = .ok v w) (hK : K (a.put o.dst v) w) : wpOp P ops Q i K a w := by
  refine st_plain ho hg ?_ hK
  have he' : (Instr.sliceAt t (a.eval x) (Option.map a.eval none) (Option.map a.eval (some (.const k))) (Option.map a.eval none)).run P w = .ok v w := he
  unfold execOp
  simp only [hop, Sem.run_bind, he', Result.andThen_ok]
  rfl

end

end Go.Proofs.Ytmdgcimjmmnbjaa

namespace Go.Proofs.Ytmdgcimjmmnbjaa

open Go.RowKit Go.Maps

set_option linter.unusedVariables false

section

variable {P : Program} {ops : Array Oper} {Q : Exit → Act → World → Prop}

/-- What is asked of the table by computing: guards are met where they come up ('gb' tells which answer each guard gives). -/
theorem region_rule3 {id : Nat} (n N : Nat) (d : Nat → Nat) (gb : Nat → Bool) (R : Nat → Value → World → Prop) (a0 : Act) (w0 : World) (hm : P.follows .mixedOrders = true) (hn : ops.size = n) (hN : a0.tmps.size = N)
    (ht : ((List.range n).all fun i => ((ops[i]?).map fun o => (o.dst == some (d i)) && decide (d i < N) && (match o.guard with | none => true | some (g, b) => b && gb g && decide (g < n) && o.after.any fun e => Region.binds .any e && (e.on == g)) && o.after.all fun e => !Region.binds .any e || decide (e.on < i)).getD false) = true)
    (hinj : ((List.range n).all fun i => (List.range n).all fun j => !(d i == d j) || (i == j)) = true)
    (hgb : ∀ i v w, gb i = true → R i v w → v = .bool true)
    (hstab : ∀ i v w w', R i v w → Below w.heap.size w w' → R i v w')
    (hstep : ∀ i o, i < n → ops[i]? = some o → o.dst = some (d i) → ∀ a w, Base d n a0 a → Below w0.heap.size w0 w → Region.wanted o (yielded ops a.tmps) = true →
      (∀ j, (o.after.any fun e => Region.binds .any e && (e.on == j)) = true → Has d R j a w) →
      ∀ K : Act → World → Prop, (∀ v w', R i v w' → Below w.heap.size w w' → K (a.put o.dst v) w') → wpOp P ops Q i K a w)
    (hend : ∀ a w, Base d n a0 a → Below w0.heap.size w0 w → (∀ i, i < n → Has d R i a w) → Q .normal a w) : (Code.region id ops true).wp P Q a0 w0 := by
  subst hn
  subst hN
  have hlt : ∀ i o, ops[i]? = some o → i < ops.size := fun i o h => by
    rcases Nat.lt_or_ge i ops.size with hl | hl
    · exact hl
    · rw [Array.getElem?_eq_none hl] at h; cases h
  have key : ∀ i o, ops[i]? = some o → o.dst = some (d i) ∧ d i < a0.tmps.size ∧ (∀ g b, o.guard = some (g, b) → b = true ∧ gb g = true ∧ g < ops.size ∧ (o.after.any fun e => Region.binds .any e && (e.on == g)) = true) ∧ ∀ e ∈ o.after, Region.binds .any e = true → e.on < i := by
    intro i o ho
    have h := List.all_eq_true.1 ht i (List.mem_range.2 (hlt i o ho))
    rw [ho] at h
    simp only [Option.map_some, Option.getD_some, Bool.and_eq_true, beq_iff_eq, decide_eq_true_eq] at h
    obtain ⟨⟨⟨h1, h2⟩, h3⟩, h4⟩ := h
    refine ⟨h1, h2, fun g b hg => ?_, fun e he hb => ?_⟩
    · rw [hg] at h3
      simp only [Bool.and_eq_true, decide_eq_true_eq] at h3
      exact ⟨h3.1.1.1, h3.1.1.2, h3.1.2, h3.2⟩
    · have := Array.all_eq_true_iff_forall_mem.1 h4 e he
      rw [hb] at this
      simpa using this
  refine region_rule (P := P) d R a0 w0 hm (fun i o ho => ⟨(key i o ho).1, (key i o ho).2.1⟩) (fun i j hi hj e => ?_) (fun i o ho => (key i o ho).2.2.2) hstab (fun i o ho a w hb hw hdep K hK => ?_) hend
  · have h := List.all_eq_true.1 (List.all_eq_true.1 hinj i (List.mem_range.2 hi)) j (List.mem_range.2 hj)
    rw [e] at h
    simpa using h
  · have hdep' : ∀ j, (o.after.any fun e => Region.binds .any e && (e.on == j)) = true → Has d R j a w := fun j hj => by
      rw [Array.any_eq_true] at hj
      obtain ⟨k, hk, h2⟩ := hj
      simp only [Bool.and_eq_true, beq_iff_eq] at h2
      obtain ⟨h2, h3⟩ := h2
      rw [← h3]
      exact hdep _ (Array.getElem_mem hk) h2
    refine hstep i o (hlt i o ho) ho (key i o ho).1 a w hb hw ?_ hdep' K (fun v w' h1 h2 => by rw [(key i o ho).1]; exact hK v w' h1 h2)
    unfold Region.wanted
    cases hg : o.guard with
    | none => rfl
    | some gp =>
      obtain ⟨g, b⟩ := gp
      obtain ⟨h1, h2, h3, h4⟩ := (key i o ho).2.2.1 g b hg
      obtain ⟨v, hv, hR⟩ := hdep' g h4
      have ev := hgb g v w h2 hR
      subst ev
      subst h1
      have hog : ops[g]? = some ops[g] := Array.getElem?_eq_getElem h3
      have hdg := (key g _ hog).1
      show (yielded ops a.tmps g == some true) = true
      unfold yielded
      rw [hog, Option.bind_some, hdg, Option.bind_some, hv]
      rfl

/-- The same, where some guards may not be met: 'gb' tells what each guard answers, 'sk' which operations are passed over so. -/
theorem region_rule4 {id : Nat} (n N : Nat) (d : Nat → Nat) (gb : Nat → Option Bool) (sk : Nat → Bool) (R : Nat → Value → World → Prop) (a0 : Act) (w0 : World) (hm : P.follows .mixedOrders = true) (hn : ops.size = n) (hN : a0.tmps.size = N)
    (ht : ((List.range n).all fun i => ((ops[i]?).map fun o => (o.dst == some (d i)) && decide (d i < N) && (match o.guard with | none => !sk i | some (g, b) => (gb g).isSome && (sk i == !(gb g == some b)) && decide (g < n) && o.after.any fun e => Region.binds .any e && (e.on == g)) && o.after.all fun e => !Region.binds .any e || decide (e.on < i)).getD false) = true)
    (hinj : ((List.range n).all fun i => (List.range n).all fun j => !(d i == d j) || (i == j)) = true)
    (hgb : ∀ i b v w, gb i = some b → R i v w → v = .bool b)
    (hsk : ∀ i w, sk i = true → R i undef w)
    (hstab : ∀ i v w w', R i v w → Below w.heap.size w w' → R i v w')
    (hstep : ∀ i o, i < n → sk i = false → ops[i]? = some o → o.dst = some (d i) → ∀ a w, Base d n a0 a → Below w0.heap.size w0 w → Region.wanted o (yielded ops a.tmps) = true →
      (∀ j, (o.after.any fun e => Region.binds .any e && (e.on == j)) = true → Has d R j a w) →
      ∀ K : Act → World → Prop, (∀ v w', R i v w' → Below w.heap.size w w' → K (a.put o.dst v) w') → wpOp P ops Q i K a w)
    (hend : ∀ a w, Base d n a0 a → Below w0.heap.size w0 w → (∀ i, i < n → Has d R i a w) → Q .normal a w) : (Code.region id ops true).wp P Q a0 w0 := by
  subst hn
  subst hN
  have hlt : ∀ i o, ops[i]? = some o → i < ops.size := fun i o h => by
    rcases Nat.lt_or_ge i ops.size with hl | hl
    · exact hl
    · rw [Array.getElem?_eq_none hl] at h; cases h
  have key : ∀ i o, ops[i]? = some o → o.dst = some (d i) ∧ d i < a0.tmps.size ∧ (o.guard = none → sk i = false) ∧ (∀ g b, o.guard = some (g, b) → (gb g).isSome = true ∧ sk i = !(gb g == some b) ∧ g < ops.size ∧ (o.after.any fun e => Region.binds .any e && (e.on == g)) = true) ∧ ∀ e ∈ o.after, Region.binds .any e = true → e.on < i := by
    intro i o ho
    have h := List.all_eq_true.1 ht i (List.mem_range.2 (hlt i o ho))
    rw [ho] at h
    simp only [Option.map_some, Option.getD_some, Bool.and_eq_true, beq_iff_eq, decide_eq_true_eq] at h
    obtain ⟨⟨⟨h1, h2⟩, h3⟩, h4⟩ := h
    refine ⟨h1, h2, fun hg => ?_, fun g b hg => ?_, fun e he hb => ?_⟩
    · rw [hg] at h3
      simpa using h3
    · rw [hg] at h3
      simp only [Bool.and_eq_true, decide_eq_true_eq, beq_iff_eq] at h3
      exact ⟨h3.1.1.1, h3.1.1.2, h3.1.2, h3.2⟩
    · have := Array.all_eq_true_iff_forall_mem.1 h4 e he
      rw [hb] at this
      simpa using this
  refine region_rule (P := P) d R a0 w0 hm (fun i o ho => ⟨(key i o ho).1, (key i o ho).2.1⟩) (fun i j hi hj e => ?_) (fun i o ho => (key i o ho).2.2.2.2) hstab (fun i o ho a w hb hw hdep K hK => ?_) hend
  · have h := List.all_eq_true.1 (List.all_eq_true.1 hinj i (List.mem_range.2 hi)) j (List.mem_range.2 hj)
    rw [e] at h
    simpa using h
  · have hdep' : ∀ j, (o.after.any fun e => Region.binds .any e && (e.on == j)) = true → Has d R j a w := fun j hj => by
      rw [Array.any_eq_true] at hj
      obtain ⟨k, hk, h2⟩ := hj
      simp only [Bool.and_eq_true, beq_iff_eq] at h2
      obtain ⟨h2, h3⟩ := h2
      rw [← h3]
      exact hdep _ (Array.getElem_mem hk) h2
    have hwant : Region.wanted o (yielded ops a.tmps) = !sk i := by
      unfold Region.wanted
      cases hg : o.guard with
      | none => rw [(key i o ho).2.2.1 hg]; rfl
      | some gp =>
        obtain ⟨g, b⟩ := gp
        obtain ⟨h1, h2, h3, h4⟩ := (key i o ho).2.2.2.1 g b hg
        obtain ⟨v, hv, hR⟩ := hdep' g h4
        obtain ⟨b', hb'⟩ := Option.isSome_iff_exists.1 h1
        have ev := hgb g b' v w hb' hR
        subst ev
        have hog : ops[g]? = some ops[g] := Array.getElem?_eq_getElem h3
        have hdg := (key g _ hog).1
        rw [h2, hb']
        show (yielded ops a.tmps g == some b) = _
        unfold yielded
        rw [hog, Option.bind_some, hdg, Option.bind_some, hv]
        cases b' <;> cases b <;> rfl
    cases hs : sk i with
    | false => exact hstep i o (hlt i o ho) hs ho (key i o ho).1 a w hb hw (by rw [hwant, hs]; rfl) hdep' K (fun v w' h1 h2 => by rw [(key i o ho).1]; exact hK v w' h1 h2)
    | true =>
      refine wpOp_step ho (fun K' hK' => ?_)
      rw [if_neg (by rw [hwant, hs]; simp)]
      refine hK' _ _ ?_
      rw [(key i o ho).1]
      exact hK undef w (hsk i w hs) (Below.refl _ _)

/-- A step whose run is known. -/
theorem st3 {i : Nat} {o : Oper} {a : Act} {w w' : World} {K : Act → World → Prop} {v : Value} (ho : ops[i]? = some o) (hw : Region.wanted o (yielded ops a.tmps) = true)
    (hrun : Sem.run P (execOp a.eval o) w = .ok (Next.value v) w') (hK : K (a.put o.dst v) w') : wpOp P ops Q i K a w := by
  refine wpOp_step ho (fun K' hK' => ?_)
  rw [if_pos hw]
  unfold Oper.wp
  rw [hrun]
  exact hK' _ _ hK

/-- A step that is a call of a function of the program. -/
theorem st3_call {i f : Nat} {o : Oper} {a : Act} {w : World} {K : Act → World → Prop} {vals : Array Value} {Z : Value → World → Prop} (ho : ops[i]? = some o) (hw : Region.wanted o (yielded ops a.tmps) = true)
    (hrun : Sem.run P (execOp a.eval o) w = .ok (Next.enter f vals) w) (hc : Calls P f vals w fun e w' => ∃ v, e = .returned v ∧ Z v w') (hK : ∀ v w', Z v w' → K (a.put o.dst v) w') : wpOp P ops Q i K a w := by
  refine wpOp_step ho (fun K' hK' => ?_)
  rw [if_pos hw]
  unfold Oper.wp
  rw [hrun]
  refine hc.mono ?_
  rintro e w' ⟨v, rfl, hz⟩
  exact hK' _ _ (hK v w' hz)

end

theorem fold_set (g : Nat → Value) : ∀ (ds : List Nat) (t0 : Array Value), (ds.foldl (fun t s => t.setIfInBounds s (g s)) t0).size = t0.size ∧
    ∀ s, (ds.foldl (fun t s => t.setIfInBounds s (g s)) t0)[s]? = if s ∈ ds ∧ s < t0.size then some (g s) else t0[s]?
  | [], t0 => ⟨rfl, fun s => by simp⟩
  | x :: ds, t0 => by
    obtain ⟨h1, h2⟩ := fold_set g ds (t0.setIfInBounds x (g x))
    rw [List.foldl_cons]
    refine ⟨by rw [h1]; simp, fun s => ?_⟩
    rw [h2]
    simp only [Array.size_setIfInBounds, List.mem_cons]
    by_cases hs : s < t0.size
    · by_cases hm : s ∈ ds
      · simp [hm, hs]
      · by_cases hx : s = x
        · subst hx
          simp [hm, hs]
        · simp [hm, hx, Array.getElem?_setIfInBounds_ne (fun e => hx e.symm)]
    · rw [if_neg (fun h => hs h.2), if_neg (fun h => hs h.2), Array.getElem?_eq_none (by simp; omega), Array.getElem?_eq_none (by omega)]

/-- Behind a region: the act is as it was but for the slots that the region writes. -/
theorem base_lit {d : Nat → Nat} {n : Nat} {a0 a : Act} (hb : Base d n a0 a) (ds : List Nat) (hds : (List.range n).map d = ds) :
    ∃ g : Nat → Value, (∀ s v, a.tmps[s]? = some v → g s = v) ∧ a = { tmps := ds.foldl (fun t s => t.setIfInBounds s (g s)) a0.tmps, defers := a0.defers } := by
  refine ⟨fun s => a.tmps.getD s undef, fun s v hv => by simp only [Array.getD_eq_getD_getElem?, hv]; rfl, ?_⟩
  obtain ⟨h1, h2⟩ := fold_set (fun s => a.tmps.getD s undef) ds a0.tmps
  have e : a.tmps = ds.foldl (fun t s => t.setIfInBounds s (a.tmps.getD s undef)) a0.tmps := by
    apply Array.ext_getElem?
    intro s
    rw [h2]
    by_cases hs : s < a0.tmps.size
    · by_cases hm : s ∈ ds
      · rw [if_pos ⟨hm, hs⟩]
        have hs' : s < a.tmps.size := by rw [hb.1]; exact hs
        simp [hs']
      · rw [if_neg (fun h => hm h.1)]
        refine hb.2.2 s fun i hi e => hm ?_
        rw [← hds]
        exact List.mem_map.2 ⟨i, List.mem_range.2 hi, e⟩
    · rw [if_neg (fun h => hs h.2), Array.getElem?_eq_none (by rw [hb.1]; omega), Array.getElem?_eq_none (by omega)]
  cases a with
  | mk t df =>
    have hd : df = a0.defers := hb.2.1
    subst hd
    simp only [Act.mk.injEq, and_true]
    exact e

end Go.Proofs.Ytmdgcimjmmnbjaa

namespace Go.Proofs.Ytmdgcimjmmnbjaa.CrewP

set_option linter.unusedVariables false

def isN (n : Int) : Bool := decide (1 ≤ n) && decide (n ≤ 28)

def rise (a : Int) : List Int → Bool
  | [] => true
  | n :: t => (isN n && decide (a < n)) && rise n t

def sizeOk (f n : Int) : Bool := (decide (0 ≤ f) && decide (f ≤ 2)) && decide (n = 3 * f + 1)

def okC (f : Int) (l : List Int) : Bool := sizeOk f l.length && rise 0 l

def lt_ (n x : Int) : Bool := decide (x < n)

def at_ (l : List Int) (n : Int) : Nat := l.countP (fun x => decide (x < n))

abbrev Asc (l : List Int) : Prop := l.Pairwise (· < ·)

theorem isN_iff (n : Int) : isN n = true ↔ 1 ≤ n ∧ n ≤ 28 := by simp [isN]

theorem rise_iff : ∀ (a : Int) (l : List Int), rise a l = true ↔ (∀ x ∈ l, 1 ≤ x ∧ x ≤ 28 ∧ a < x) ∧ Asc l
  | a, [] => by simp [rise]
  | a, n :: t => by
    rw [rise, Bool.and_eq_true, Bool.and_eq_true, isN_iff, rise_iff n t, decide_eq_true_eq, Asc, Asc, List.pairwise_cons]
    constructor
    · rintro ⟨⟨⟨h1, h2⟩, h3⟩, h4, h5⟩
      refine ⟨fun x hx => ?_, fun x hx => (h4 x hx).2.2, h5⟩
      rcases List.mem_cons.1 hx with rfl | hx
      · exact ⟨h1, h2, h3⟩
      · have := h4 x hx; omega
    · rintro ⟨h1, h2, h3⟩
      have := h1 n (List.mem_cons_self ..)
      exact ⟨⟨⟨this.1, this.2.1⟩, this.2.2⟩, fun x hx => ⟨(h1 x (List.mem_cons_of_mem _ hx)).1, (h1 x (List.mem_cons_of_mem _ hx)).2.1, h2 x hx⟩, h3⟩

theorem rise_snoc (a : Int) (l : List Int) (x : Int) : rise a (l ++ [x]) = (rise a l && (isN x && decide (l.getLastD a < x))) := by
  induction l generalizing a with
  | nil => simp [rise]
  | cons n t ih =>
    have e : (n :: t).getLastD a = t.getLastD n := by cases t <;> rfl
    rw [List.cons_append, rise, ih, rise, e, Bool.and_assoc (isN n && decide (a < n))]

theorem sizeOk_iff (f n : Int) : sizeOk f n = true ↔ 0 ≤ f ∧ f ≤ 2 ∧ n = 3 * f + 1 := by simp [sizeOk, and_assoc]

theorem okC_iff (f : Int) (l : List Int) : okC f l = true ↔ (0 ≤ f ∧ f ≤ 2 ∧ (l.length : Int) = 3 * f + 1) ∧ (∀ x ∈ l, 1 ≤ x ∧ x ≤ 28) ∧ Asc l := by
  rw [okC, Bool.and_eq_true, sizeOk_iff, rise_iff]
  constructor
  · rintro ⟨h1, h2, h3⟩
    exact ⟨h1, fun x hx => ⟨(h2 x hx).1, (h2 x hx).2.1⟩, h3⟩
  · rintro ⟨h1, h2, h3⟩
    exact ⟨h1, fun x hx => ⟨(h2 x hx).1, (h2 x hx).2, by have := (h2 x hx).1; omega⟩, h3⟩

/-- Rising lists with the same members are the same. -/
theorem asc_ext : ∀ {l m : List Int}, Asc l → Asc m → (∀ x, x ∈ l ↔ x ∈ m) → l = m
  | [], [], _, _, _ => rfl
  | [], y :: t, _, _, h => by have := (h y).2 (List.mem_cons_self ..); simp at this
  | x :: s, [], _, _, h => by have := (h x).1 (List.mem_cons_self ..); simp at this
  | x :: s, y :: t, hl, hm, h => by
    obtain ⟨h1, h2⟩ := List.pairwise_cons.1 hl
    obtain ⟨h3, h4⟩ := List.pairwise_cons.1 hm
    have exy : x = y := by
      have a := (h x).1 (List.mem_cons_self ..)
      have b := (h y).2 (List.mem_cons_self ..)
      rcases List.mem_cons.1 a with e | a
      · exact e
      rcases List.mem_cons.1 b with e | b
      · exact e.symm
      have := h1 y b; have := h3 x a; omega
    subst exy
    rw [asc_ext h2 h4 fun z => ?_]
    constructor
    · intro hz
      have := (h z).1 (List.mem_cons_of_mem _ hz)
      rcases List.mem_cons.1 this with rfl | hz'
      · have := h1 z hz; omega
      · exact hz'
    · intro hz
      have := (h z).2 (List.mem_cons_of_mem _ hz)
      rcases List.mem_cons.1 this with rfl | hz'
      · have := h3 z hz; omega
      · exact hz'

theorem asc_nodup {l : List Int} (h : Asc l) : l.Nodup := h.imp fun h => by omega

theorem asc_lt {l : List Int} (h : Asc l) {i j : Nat} (hi : i < l.length) (hj : j < l.length) (hij : i < j) : l[i] < l[j] := (List.pairwise_iff_getElem.1 h) i j hi hj hij

/-- How many are below n: these are the first ones. -/
theorem at_lt {l : List Int} (h : Asc l) (n : Int) {i : Nat} (hi : i < l.length) : i < at_ l n ↔ l[i] < n := by
  induction l generalizing i with
  | nil => simp at hi
  | cons x t ih =>
    obtain ⟨h1, h2⟩ := List.pairwise_cons.1 h
    unfold at_ at ih ⊢
    rw [List.countP_cons]
    cases i with
    | zero =>
      simp only [List.getElem_cons_zero, decide_eq_true_eq]
      by_cases hx : x < n
      · simp [hx]
      · rw [if_neg hx]
        have : List.countP (fun x => decide (x < n)) t = 0 := by
          rw [List.countP_eq_zero]
          intro y hy
          have := h1 y hy
          simp; omega
        simp [this, hx]
    | succ i =>
      simp only [List.getElem_cons_succ, decide_eq_true_eq]
      have hi' : i < t.length := by simpa using hi
      have := ih h2 hi'
      by_cases hx : x < n
      · rw [if_pos hx]
        constructor
        · intro h; exact this.1 (by omega)
        · intro h; have := this.2 h; omega
      · rw [if_neg hx]
        have h0 : List.countP (fun x => decide (x < n)) t = 0 := by
          rw [List.countP_eq_zero]
          intro y hy
          have := h1 y hy
          simp; omega
        have hy := h1 t[i] (List.getElem_mem hi')
        rw [h0]
        constructor
        · intro h; omega
        · intro h; omega

theorem at_le (l : List Int) (n : Int) : at_ l n ≤ l.length := List.countP_le_length

theorem at_found {l : List Int} (h : Asc l) (n : Int) : (∃ hi : at_ l n < l.length, l[at_ l n] = n) ↔ n ∈ l := by
  constructor
  · rintro ⟨hi, e⟩; rw [← e]; exact List.getElem_mem hi
  · intro hn
    obtain ⟨j, hj, e⟩ := List.mem_iff_getElem.1 hn
    have h1 : ¬ j < at_ l n := by rw [at_lt h n hj]; omega
    have hi : at_ l n < l.length := by omega
    refine ⟨hi, ?_⟩
    have h2 : ¬ at_ l n < at_ l n := by omega
    rw [at_lt h n hi] at h2
    rcases Nat.lt_or_ge (at_ l n) j with hlt | hge
    · have := asc_lt h hi hj hlt; omega
    · have : j = at_ l n := by omega
      subst this; exact e

theorem at_get {l : List Int} (h : Asc l) {n : Int} (hn : n ∈ l) : l[at_ l n]? = some n := by
  obtain ⟨hi, e⟩ := (at_found h n).2 hn
  rw [List.getElem?_eq_getElem hi, e]

theorem at_idx {l : List Int} (h : Asc l) {i : Nat} (hi : i < l.length) : at_ l l[i] = i := by
  have h1 : ¬ i < at_ l l[i] := by rw [at_lt h _ hi]; omega
  rcases Nat.lt_or_ge (at_ l l[i]) i with hlt | hge
  · have hk : at_ l l[i] < l.length := by omega
    have h2 : ¬ at_ l l[i] < at_ l l[i] := by omega
    rw [at_lt h _ hk] at h2
    have := asc_lt h hk hi hlt; omega
  · omega

/-! ### Others, Replace -/

def othersL (l : List Int) (n : Int) : List Int := l.filter (fun x => x ≠ n)

def insL (l : List Int) (n : Int) : List Int := l.take (at_ l n) ++ [n] ++ l.drop (at_ l n)

theorem others_mem (l : List Int) (n x : Int) : x ∈ othersL l n ↔ x ∈ l ∧ x ≠ n := by simp [othersL]

theorem others_asc {l : List Int} (h : Asc l) (n : Int) : Asc (othersL l n) := h.filter _

theorem others_none {l : List Int} {n : Int} (hn : n ∉ l) : othersL l n = l := by
  unfold othersL
  rw [List.filter_eq_self]
  intro x hx
  simp; rintro rfl; exact hn hx

theorem take_drop_mem {l : List Int} (h : Asc l) {n : Int} (hn : n ∈ l) : l.take (at_ l n) ++ l.drop (at_ l n + 1) = othersL l n := by
  have hA : Asc (l.take (at_ l n) ++ l.drop (at_ l n + 1)) := by
    have hs : (l.take (at_ l n) ++ l.drop (at_ l n + 1)).Sublist l := by
      have : (l.take (at_ l n) ++ l.drop (at_ l n + 1)).Sublist (l.take (at_ l n) ++ l.drop (at_ l n)) := List.Sublist.append (List.Sublist.refl _) (by rw [← List.drop_drop]; exact List.drop_sublist 1 _)
      rwa [List.take_append_drop] at this
    exact h.sublist hs
  refine asc_ext hA (others_asc h n) fun x => ?_
  rw [others_mem, List.mem_append]
  obtain ⟨hi, e⟩ := (at_found h n).2 hn
  constructor
  · rintro (hx | hx)
    · obtain ⟨j, hj, rfl⟩ := List.mem_iff_getElem.1 hx
      rw [List.length_take] at hj
      rw [List.getElem_take]
      refine ⟨List.getElem_mem _, ?_⟩
      have := asc_lt h (show j < l.length by omega) hi (by omega)
      omega
    · obtain ⟨j, hj, rfl⟩ := List.mem_iff_getElem.1 hx
      rw [List.length_drop] at hj
      rw [List.getElem_drop]
      refine ⟨List.getElem_mem _, ?_⟩
      have := asc_lt h hi (show at_ l n + 1 + j < l.length by omega) (by omega)
      omega
  · rintro ⟨hx, hne⟩
    obtain ⟨j, hj, rfl⟩ := List.mem_iff_getElem.1 hx
    rcases Nat.lt_trichotomy j (at_ l n) with hlt | rfl | hgt
    · left
      exact List.mem_iff_getElem.2 ⟨j, by rw [List.length_take]; omega, by rw [List.getElem_take]⟩
    · exact absurd e hne
    · right
      exact List.mem_iff_getElem.2 ⟨j - (at_ l n + 1), by rw [List.length_drop]; omega, by rw [List.getElem_drop]; congr 1; omega⟩

theorem others_len {l : List Int} (h : Asc l) {n : Int} (hn : n ∈ l) : (othersL l n).length = l.length - 1 := by
  rw [← take_drop_mem h hn]
  obtain ⟨hi, e⟩ := (at_found h n).2 hn
  rw [List.length_append, List.length_take, List.length_drop]; omega

theorem ins_mem (l : List Int) (n x : Int) : x ∈ insL l n ↔ x ∈ l ∨ x = n := by
  unfold insL
  rw [List.mem_append, List.mem_append]
  constructor
  · rintro ((hx | hx) | hx)
    · exact .inl (List.mem_of_mem_take hx)
    · exact .inr (by simpa using hx)
    · exact .inl (List.mem_of_mem_drop hx)
  · rintro (hx | rfl)
    · rw [← List.take_append_drop (at_ l n) l] at hx
      rcases List.mem_append.1 hx with hx | hx
      · exact .inl (.inl hx)
      · exact .inr hx
    · exact .inl (.inr (by simp))

theorem ins_len (l : List Int) (n : Int) : (insL l n).length = l.length + 1 := by
  have := at_le l n
  unfold insL
  rw [List.length_append, List.length_append, List.length_take, List.length_drop, List.length_singleton]; omega

theorem ins_asc {l : List Int} (h : Asc l) {n : Int} (hn : n ∉ l) : Asc (insL l n) := by
  have hle := at_le l n
  have h1 : ∀ x ∈ l.take (at_ l n), x < n := fun x hx => by
    obtain ⟨j, hj, rfl⟩ := List.mem_iff_getElem.1 hx
    rw [List.length_take] at hj
    rw [List.getElem_take]
    exact (at_lt h n (by omega)).1 (by omega)
  have h2 : ∀ x ∈ l.drop (at_ l n), n < x := fun x hx => by
    obtain ⟨j, hj, rfl⟩ := List.mem_iff_getElem.1 hx
    rw [List.length_drop] at hj
    rw [List.getElem_drop]
    have hj' : at_ l n + j < l.length := by omega
    have := mt (at_lt h n hj').2 (by omega)
    have hne : l[at_ l n + j] ≠ n := fun e => hn (e ▸ List.getElem_mem hj')
    omega
  unfold insL
  rw [Asc, List.append_assoc, List.pairwise_append]
  refine ⟨h.sublist (List.take_sublist ..), ?_, ?_⟩
  · rw [List.singleton_append, List.pairwise_cons]
    exact ⟨h2, h.sublist (List.drop_sublist ..)⟩
  · intro a ha b hb
    have := h1 a ha
    rw [List.singleton_append, List.mem_cons] at hb
    rcases hb with rfl | hb
    · exact this
    · have := h2 b hb; omega

def repL (l : List Int) (o n : Int) : List Int := insL (othersL l o) n

theorem rep_mem (l : List Int) (o n x : Int) : x ∈ repL l o n ↔ (x ∈ l ∧ x ≠ o) ∨ x = n := by rw [repL, ins_mem, others_mem]

theorem rep_asc {l : List Int} (h : Asc l) {o n : Int} (hn : n ∉ l) : Asc (repL l o n) := ins_asc (others_asc h o) fun e => hn ((others_mem l o n).1 e).1

theorem rep_len {l : List Int} (h : Asc l) {o n : Int} (ho : o ∈ l) (hn : n ∉ l) : (repL l o n).length = l.length := by
  rw [repL, ins_len, others_len h ho]
  have : 0 < l.length := List.length_pos_of_mem ho
  omega

theorem rep_ok {f : Int} {l : List Int} (h : okC f l = true) {o n : Int} (ho : o ∈ l) (hn : n ∉ l) (hN : isN n = true) : okC f (repL l o n) = true := by
  rw [okC_iff] at h ⊢
  obtain ⟨⟨h1, h2, h3⟩, h4, h5⟩ := h
  refine ⟨⟨h1, h2, by rw [rep_len h5 ho hn]; exact h3⟩, fun x hx => ?_, rep_asc h5 hn⟩
  rcases (rep_mem l o n x).1 hx with ⟨hx, _⟩ | rfl
  · exact h4 x hx
  · exact (isN_iff x).1 hN

/-- What Replace answers: the nodes, and the error. -/
def replaceR (f : Int) (l : List Int) (o n : Int) : Int × List Int × Int :=
  if okC f l = false then (0, [], 110) else if isN n = false then (0, [], 2) else if o ∉ l ∨ n ∈ l then (0, [], 110) else (f, repL l o n, 0)

/-! ### Votes -/

def votesL (l ns : List Int) : Nat := l.countP (fun x => decide (x ∈ ns))

def votesR (f : Int) (l ns : List Int) : Nat := if okC f l then votesL l ns else 0

end Go.Proofs.Ytmdgcimjmmnbjaa.CrewP

namespace Go.Proofs.Ytmdgcimjmmnbjaa.CrewP

set_option linter.unusedVariables false

/-! ### Sorted lists -/

abbrev sortL (l : List Int) : List Int := l.mergeSort fun x y => decide (x ≤ y)

theorem sort_le (l : List Int) : (sortL l).Pairwise (· ≤ ·) := by
  have := List.pairwise_mergeSort (le := fun x y : Int => decide (x ≤ y)) (fun a b c => by simp; omega) (fun a b => by simp; omega) l
  exact this.imp (by simp)

theorem sort_perm (l : List Int) : (sortL l).Perm l := List.mergeSort_perm l _

theorem sort_len (l : List Int) : (sortL l).length = l.length := (sort_perm l).length_eq

theorem asc_of {l : List Int} (h : l.Pairwise (· ≤ ·)) (hn : l.Nodup) : Asc l := by
  refine (h.and hn).imp ?_
  rintro a b ⟨h1, h2⟩
  omega

theorem sort_of {l m : List Int} (hp : l.Perm m) (hm : Asc m) : sortL l = m := by
  have hp' := (sort_perm l).trans hp
  exact asc_ext (asc_of (sort_le l) (hp'.nodup_iff.2 (asc_nodup hm))) hm fun x => hp'.mem_iff

/-- What Make answers. -/
def makeR (f : Int) (l : List Int) : Int × List Int × Int := if sizeOk f l.length && rise 0 (sortL l) then (f, sortL l, 0) else (0, [], 2)

/-! ### The document's crew of a list -/

def ofTo (l : List Int) (n : Nat) : List Int := (List.range n).filterMap fun (k : Nat) => if ((k : Int) + 1) ∈ l then some ((k : Int) + 1) else none

theorem ofTo_succ (l : List Int) (n : Nat) : ofTo l (n + 1) = ofTo l n ++ (if ((n : Int) + 1) ∈ l then [(n : Int) + 1] else []) := by
  unfold ofTo
  rw [List.range_succ, List.filterMap_append]
  congr 1
  by_cases h : ((n : Int) + 1) ∈ l <;> simp [h]

theorem ofTo_mem (l : List Int) (n : Nat) (x : Int) : x ∈ ofTo l n ↔ (1 ≤ x ∧ x ≤ n) ∧ x ∈ l := by
  induction n with
  | zero => simp [ofTo]; omega
  | succ n ih =>
    rw [ofTo_succ, List.mem_append, ih]
    by_cases h : ((n : Int) + 1) ∈ l
    · rw [if_pos h, List.mem_singleton]
      constructor
      · rintro (⟨h1, h2⟩ | rfl)
        · exact ⟨by omega, h2⟩
        · exact ⟨by omega, h⟩
      · rintro ⟨h1, h2⟩
        by_cases hx : x = n + 1
        · exact .inr hx
        · exact .inl ⟨by omega, h2⟩
    · rw [if_neg h]
      constructor
      · rintro (⟨h1, h2⟩ | hx)
        · exact ⟨by omega, h2⟩
        · simp at hx
      · rintro ⟨h1, h2⟩
        have hx : x ≠ n + 1 := by rintro rfl; exact h h2
        exact .inl ⟨by omega, h2⟩

theorem ofTo_asc (l : List Int) (n : Nat) : Asc (ofTo l n) := by
  induction n with
  | zero => simp [ofTo, Asc]
  | succ n ih =>
    rw [ofTo_succ, Asc, List.pairwise_append]
    refine ⟨ih, by split <;> simp, fun a ha b hb => ?_⟩
    have := ((ofTo_mem l n a).1 ha).1
    split at hb
    · simp at hb; omega
    · simp at hb

theorem ofTo_len (l : List Int) (n : Nat) : (ofTo l n).length ≤ n := by
  have := List.length_filterMap_le (fun k : Nat => if ((k : Int) + 1) ∈ l then some ((k : Int) + 1) else none) (List.range n)
  rwa [List.length_range] at this

theorem perm_of_sub : ∀ {m l : List Int}, m.Nodup → (∀ x ∈ m, x ∈ l) → l.length ≤ m.length → m.Perm l
  | [], l, _, _, h => by
    have : l = [] := List.eq_nil_of_length_eq_zero (by simpa using h)
    subst this
    exact List.Perm.refl _
  | x :: t, l, hn, hs, h => by
    obtain ⟨h1, h2⟩ := List.nodup_cons.1 hn
    have hx := hs x (List.mem_cons_self ..)
    have hle : (l.erase x).length ≤ t.length := by rw [List.length_erase_of_mem hx]; simp at h; omega
    refine (List.Perm.cons x (perm_of_sub h2 (fun y hy => ?_) hle)).trans (List.perm_cons_erase hx).symm
    have hne : y ≠ x := by rintro rfl; exact h1 hy
    exact (List.mem_erase_of_ne hne).2 (hs y (List.mem_cons_of_mem _ hy))

/-- The document's Make answers the same. -/
def makeD (f : Int) (l : List Int) : Int × List Int × Int := if okC f (ofTo l 28) = false ∨ (ofTo l 28).length ≠ l.length then (0, [], 2) else (f, ofTo l 28, 0)

theorem make_same (f : Int) (l : List Int) : makeD f l = makeR f l := by
  unfold makeD makeR
  by_cases h : sizeOk f l.length && rise 0 (sortL l)
  · rw [if_pos h]
    rw [Bool.and_eq_true, rise_iff] at h
    obtain ⟨h1, h2, h3⟩ := h
    have e : ofTo l 28 = sortL l := asc_ext (ofTo_asc l 28) h3 fun x => by
      rw [ofTo_mem, (sort_perm l).mem_iff]
      constructor
      · rintro ⟨_, hx⟩; exact hx
      · intro hx
        have := h2 x ((sort_perm l).mem_iff.2 hx)
        exact ⟨by omega, hx⟩
    rw [e, if_neg]
    rintro (h | h)
    · rw [okC, sort_len, h1, Bool.true_and] at h
      rw [(rise_iff 0 _).2 ⟨h2, h3⟩] at h
      cases h
    · exact h (sort_len l)
  · rw [if_neg h]
    by_cases hd : okC f (ofTo l 28) = false ∨ (ofTo l 28).length ≠ l.length
    · rw [if_pos hd]
    · exfalso
      have h1 : okC f (ofTo l 28) = true := by
        cases h : okC f (ofTo l 28)
        · exact absurd (.inl h) hd
        · rfl
      have h2 : (ofTo l 28).length = l.length := Decidable.byContradiction fun e => hd (.inr e)
      apply h
      have hp : (ofTo l 28).Perm l := perm_of_sub (asc_nodup (ofTo_asc l 28)) (fun x hx => ((ofTo_mem l 28 x).1 hx).2) (by omega)
      rw [sort_of hp.symm (ofTo_asc l 28), ← h2]
      exact h1

theorem rep_same {l : List Int} (h : Asc l) (hl : ∀ x ∈ l, 1 ≤ x ∧ x ≤ 28) {o n : Int} (hn : n ∉ l) (hN : isN n = true) : ofTo (othersL l o ++ [n]) 28 = repL l o n := by
  refine asc_ext (ofTo_asc _ _) (rep_asc h hn) fun x => ?_
  rw [ofTo_mem, rep_mem, List.mem_append, others_mem, List.mem_singleton]
  constructor
  · exact fun h => h.2
  · intro hx
    refine ⟨?_, hx⟩
    rcases hx with hx | rfl
    · have := hl x hx.1; omega
    · have := (isN_iff x).1 hN; omega

/-! ### Votes -/

theorem countP_inc (l : List Int) (p q : Int → Bool) : l.countP p + l.countP q ≤ l.length + l.countP (fun x => p x && q x) := by
  induction l with
  | nil => simp
  | cons x t ih =>
    rw [List.countP_cons, List.countP_cons, List.countP_cons, List.length_cons]
    cases p x <;> cases q x <;> simp <;> omega

theorem countP_incN (l : List Nat) (p q : Nat → Bool) : l.countP p + l.countP q ≤ l.length + l.countP (fun x => p x && q x) := by
  induction l with
  | nil => simp
  | cons x t ih =>
    rw [List.countP_cons, List.countP_cons, List.countP_cons, List.length_cons]
    cases p x <;> cases q x <;> simp <;> omega

theorem votes_len (l ns : List Int) : votesL l ns ≤ l.length := List.countP_le_length

/-- Those that are in a list of rising ones. -/
theorem votes_sub {l s : List Int} (h : Asc l) (hs : Asc s) (hm : ∀ x ∈ s, x ∈ l) : votesL l s = s.length := by
  have e : l.filter (fun x => decide (x ∈ s)) = s := asc_ext (h.filter _) hs fun x => by
    rw [List.mem_filter, decide_eq_true_eq]
    exact ⟨fun h => h.2, fun h => ⟨hm x h, h⟩⟩
  unfold votesL
  rw [List.countP_eq_length_filter, e]

theorem votes_more {l s : List Int} (h : l.Nodup) {k : Nat} (hk : k < l.length) (hs : l[k] ∉ s) : votesL l (s ++ [l[k]]) = votesL l s + 1 := by
  unfold votesL
  have h1 := List.getElem_mem hk
  generalize l[k] = y at *
  clear hk
  induction l with
  | nil => simp at h1
  | cons x t ih =>
    obtain ⟨h2, h3⟩ := List.nodup_cons.1 h
    rw [List.countP_cons, List.countP_cons]
    rcases List.mem_cons.1 h1 with rfl | h1
    · have : t.countP (fun x => decide (x ∈ s ++ [y])) = t.countP (fun x => decide (x ∈ s)) := by
        refine List.countP_congr fun z hz => ?_
        have : z ≠ y := by rintro rfl; exact h2 hz
        simp [this]
      rw [this]
      simp [hs]
    · have : x ≠ y := by rintro rfl; exact h2 h1
      rw [ih h3 h1]
      simp [this]
      omega

/-! ### Sets told by bits -/

def pick (p : Nat → Bool) (l : List Int) (n : Nat) : List Int := ((List.range n).filter p).map fun j => l.getD j 0

theorem pick_succ (p : Nat → Bool) (l : List Int) (n : Nat) : pick p l (n + 1) = pick p l n ++ (if p n then [l.getD n 0] else []) := by
  unfold pick
  rw [List.range_succ, List.filter_append, List.map_append]
  cases h : p n <;> simp [List.filter, h]

theorem pick_len (p : Nat → Bool) (l : List Int) (n : Nat) : (pick p l n).length = (List.range n).countP p := by
  unfold pick
  rw [List.length_map, List.countP_eq_length_filter]

theorem pick_le (p : Nat → Bool) (l : List Int) (n : Nat) : (pick p l n).length ≤ n := by
  rw [pick_len]
  exact Nat.le_trans List.countP_le_length (by simp)

theorem pick_mem (p : Nat → Bool) (l : List Int) (n : Nat) (hn : n ≤ l.length) : ∀ x ∈ pick p l n, x ∈ l := by
  intro x hx
  unfold pick at hx
  obtain ⟨j, hj, rfl⟩ := List.mem_map.1 hx
  have hj' := List.mem_range.1 (List.mem_filter.1 hj).1
  have : j < l.length := by omega
  simp [List.getD, List.getElem?_eq_getElem this]

theorem pick_asc (p : Nat → Bool) {l : List Int} (h : Asc l) : ∀ n, n ≤ l.length → Asc (pick p l n)
  | 0, _ => by simp [pick, Asc]
  | n + 1, hn => by
    rw [pick_succ, Asc, List.pairwise_append]
    refine ⟨pick_asc p h n (by omega), by split <;> simp, fun a ha b hb => ?_⟩
    unfold pick at ha
    obtain ⟨j, hj, rfl⟩ := List.mem_map.1 ha
    have hj' := List.mem_range.1 (List.mem_filter.1 hj).1
    split at hb
    · simp only [List.mem_singleton] at hb
      subst hb
      have h1 : j < l.length := by omega
      have h2 : n < l.length := by omega
      have := asc_lt h h1 h2 hj'
      simp only [List.getD, List.getElem?_eq_getElem h1, List.getElem?_eq_getElem h2, Option.getD_some]
      exact this
    · simp at hb

theorem votes_pick (p : Nat → Bool) {l : List Int} (h : Asc l) : votesL l (pick p l l.length) = (List.range l.length).countP p := by
  rw [votes_sub h (pick_asc p h _ (Nat.le_refl _)) (pick_mem p l _ (Nat.le_refl _)), pick_len]

/-- Two sets of most have some in common. -/
theorem meet {l : List Int} (h : Asc l) (p q : Nat → Bool) : votesL l (pick p l l.length) + votesL l (pick q l l.length) ≤ l.length + votesL l (pick (fun i => p i && q i) l l.length) := by
  rw [votes_pick p h, votes_pick q h, votes_pick _ h]
  have := countP_incN (List.range l.length) p q
  rwa [List.length_range] at this

theorem ins_count (l : List Int) (n : Int) (p : Int → Bool) : (insL l n).countP p = l.countP p + (if p n then 1 else 0) := by
  unfold insL
  rw [List.countP_append, List.countP_append, List.countP_singleton]
  have : l.countP p = (l.take (at_ l n)).countP p + (l.drop (at_ l n)).countP p := by rw [← List.countP_append, List.take_append_drop]
  omega

theorem meet_next {l : List Int} (h : Asc l) {o n : Int} (ho : o ∈ l) (hn : n ∉ l) {x y : List Int} (hx : Asc x) (hxl : ∀ z ∈ x, z ∈ l) :
    votesL l x + votesL (repL l o n) y ≤ l.length + 1 + x.countP (fun z => decide (z ∈ y)) := by
  have h1 := countP_inc (n :: l) (fun z => decide (z ∈ x)) (fun z => decide (z ∈ y))
  rw [List.countP_cons, List.countP_cons, List.countP_cons, List.length_cons] at h1
  have hnx : n ∉ x := fun e => hn (hxl n e)
  have h2 : votesL (repL l o n) y ≤ l.countP (fun z => decide (z ∈ y)) + (if decide (n ∈ y) = true then 1 else 0) := by
    unfold votesL repL
    rw [ins_count]
    have : (othersL l o).countP (fun z => decide (z ∈ y)) ≤ l.countP (fun z => decide (z ∈ y)) := List.Sublist.countP_le List.filter_sublist
    omega
  have h3 : l.countP (fun z => decide (z ∈ x) && decide (z ∈ y)) = x.countP (fun z => decide (z ∈ y)) := by
    have e : l.filter (fun z => decide (z ∈ x)) = x := asc_ext (h.filter _) hx fun z => by
      rw [List.mem_filter, decide_eq_true_eq]
      exact ⟨fun h => h.2, fun h => ⟨hxl z h, h⟩⟩
    rw [← e, List.countP_filter, e]
    refine List.countP_congr fun z _ => ?_
    rw [Bool.and_comm]
  rw [h3] at h1
  simp only [hnx, decide_false, Bool.false_and] at h1
  unfold votesL at h2 ⊢
  simp at h1 h2 ⊢
  omega

theorem votes_old {l : List Int} (h : Asc l) {o n : Int} (ho : o ∈ l) (hn : n ∉ l) : votesL (repL l o n) l = l.length - 1 := by
  unfold votesL repL
  rw [ins_count, if_neg (by simp [hn]), ← others_len h ho, Nat.add_zero, List.countP_eq_length]
  intro z hz
  simpa using ((others_mem l o z).1 hz).1

theorem there {l : List Int} (h : Asc l) {o n : Int} (ho : o ∈ l) (hn : n ∉ l) : repL (repL l o n) n o = l := by
  have hne : o ≠ n := by rintro rfl; exact hn ho
  have h1 : o ∉ repL l o n := fun e => by
    rcases (rep_mem l o n o).1 e with h | h
    · exact h.2 rfl
    · exact hne h
  refine asc_ext (rep_asc (rep_asc h hn) h1) h fun x => ?_
  rw [rep_mem, rep_mem]
  constructor
  · rintro (⟨⟨h1, _⟩ | h1, h2⟩ | rfl)
    · exact h1
    · exact absurd h1 h2
    · exact ho
  · intro hx
    by_cases e : x = o
    · exact .inr e
    · exact .inl ⟨.inl ⟨hx, e⟩, by rintro rfl; exact hn hx⟩

/-! ### Ranks -/

abbrev downL (l : List Int) : List Int := l.mergeSort fun x y => decide (y ≤ x)

theorem down_ge (l : List Int) : (downL l).Pairwise (fun x y => y ≤ x) := by
  have := List.pairwise_mergeSort (le := fun x y : Int => decide (y ≤ x)) (fun a b c => by simp; omega) (fun a b => by simp; omega) l
  exact this.imp (by simp)

theorem down_perm (l : List Int) : (downL l).Perm l := List.mergeSort_perm l _

theorem down_len (l : List Int) : (downL l).length = l.length := (down_perm l).length_eq

def rankL (l : List Int) (m : Nat) : Int := (downL l).getD (m - 1) 0

theorem rank_at {l : List Int} {m : Nat} (h1 : 1 ≤ m) (h2 : m ≤ l.length) : (downL l)[m - 1]? = some (rankL l m) := by
  have h : m - 1 < (downL l).length := by rw [down_len]; omega
  unfold rankL
  simp [List.getD, List.getElem?_eq_getElem h]

theorem rank_reached {l : List Int} {m : Nat} (h1 : 1 ≤ m) (h2 : m ≤ l.length) : m ≤ l.countP (fun x => decide (rankL l m ≤ x)) := by
  rw [← (down_perm l).countP_eq]
  have hk : m - 1 < (downL l).length := by rw [down_len]; omega
  have e := rank_at h1 h2
  rw [List.getElem?_eq_getElem hk] at e
  injection e with e
  have ht : (downL l).countP (fun x => decide (rankL l m ≤ x)) = ((downL l).take m).countP (fun x => decide (rankL l m ≤ x)) + ((downL l).drop m).countP (fun x => decide (rankL l m ≤ x)) := by rw [← List.countP_append, List.take_append_drop]
  have h3 : ((downL l).take m).countP (fun x => decide (rankL l m ≤ x)) = m := by
    have : ((downL l).take m).length = m := by rw [List.length_take, down_len]; omega
    conv => rhs; rw [← this]
    rw [List.countP_eq_length]
    intro x hx
    obtain ⟨j, hj, rfl⟩ := List.mem_iff_getElem.1 hx
    rw [this] at hj
    rw [List.getElem_take, decide_eq_true_eq, ← e]
    rcases Nat.lt_or_ge j (m - 1) with hlt | hge
    · exact (List.pairwise_iff_getElem.1 (down_ge l)) j (m - 1) (by omega) hk hlt
    · have : j = m - 1 := by omega
      subst this; exact Int.le_refl _
  omega

theorem rank_above {l : List Int} {m : Nat} (h1 : 1 ≤ m) (h2 : m ≤ l.length) : l.countP (fun x => decide (rankL l m < x)) < m := by
  rw [← (down_perm l).countP_eq]
  have hk : m - 1 < (downL l).length := by rw [down_len]; omega
  have e := rank_at h1 h2
  rw [List.getElem?_eq_getElem hk] at e
  injection e with e
  have ht : (downL l).countP (fun x => decide (rankL l m < x)) = ((downL l).take (m - 1)).countP (fun x => decide (rankL l m < x)) + ((downL l).drop (m - 1)).countP (fun x => decide (rankL l m < x)) := by rw [← List.countP_append, List.take_append_drop]
  have h3 : ((downL l).drop (m - 1)).countP (fun x => decide (rankL l m < x)) = 0 := by
    rw [List.countP_eq_zero]
    intro x hx
    obtain ⟨j, hj, rfl⟩ := List.mem_iff_getElem.1 hx
    rw [List.length_drop] at hj
    rw [List.getElem_drop, decide_eq_true_eq, ← e]
    rcases Nat.lt_or_ge 0 j with hlt | hge
    · have := (List.pairwise_iff_getElem.1 (down_ge l)) (m - 1) (m - 1 + j) hk (by omega) (by omega)
      omega
    · have : m - 1 + j = m - 1 := by omega
      simp only [this]; omega
  have h4 : ((downL l).take (m - 1)).countP (fun x => decide (rankL l m < x)) ≤ m - 1 := Nat.le_trans List.countP_le_length (by rw [List.length_take]; omega)
  omega

theorem rank_mem {l : List Int} {m : Nat} (h1 : 1 ≤ m) (h2 : m ≤ l.length) : rankL l m ∈ l := (down_perm l).mem_iff.1 (List.mem_of_getElem? (rank_at h1 h2))

/-- What is reached by so many is not above the rank. -/
theorem rank_most {l : List Int} {m : Nat} (h1 : 1 ≤ m) (h2 : m ≤ l.length) {x : Int} (hx : m ≤ l.countP (fun y => decide (x ≤ y))) : x ≤ rankL l m := by
  rcases Int.lt_or_le (rankL l m) x with h | h
  · have h3 := rank_above h1 h2
    have h4 : l.countP (fun y => decide (x ≤ y)) ≤ l.countP (fun y => decide (rankL l m < y)) := List.countP_mono_left fun y _ hy => by simp at hy ⊢; omega
    omega
  · exact h

theorem rank_falls {l : List Int} {m : Nat} (h1 : 1 ≤ m) (h2 : m + 1 ≤ l.length) : rankL l (m + 1) ≤ rankL l m :=
  rank_most h1 (by omega) (Nat.le_trans (by omega) (rank_reached (l := l) (m := m + 1) (by omega) h2))

theorem rank_rises {l u : List Int} {m : Nat} (hl : l.length = u.length) (hu : ∀ i (h1 : i < l.length) (h2 : i < u.length), l[i] ≤ u[i]) (h1 : 1 ≤ m) (h2 : m ≤ l.length) : rankL l m ≤ rankL u m := by
  refine rank_most h1 (by omega) (Nat.le_trans (rank_reached h1 h2) ?_)
  generalize rankL l m = r
  clear h1 h2
  induction l generalizing u with
  | nil => simp
  | cons a t ih =>
    cases u with
    | nil => simp at hl
    | cons b s =>
      rw [List.countP_cons, List.countP_cons]
      have h0 := hu 0 (by simp) (by simp)
      simp at h0
      have := ih (u := s) (by simpa using hl) (fun i h1 h2 => by have := hu (i + 1) (by simpa using h1) (by simpa using h2); simpa using this)
      by_cases h : r ≤ a
      · have : r ≤ b := by omega
        simp [h, this]; omega
      · simp [h]; split <;> omega

def rankR (f : Int) (l reached : List Int) (m : Int) : Int × Int :=
  if okC f l = false then (0, 110) else if reached.length ≠ l.length ∨ m < 1 ∨ (l.length : Int) < m then (0, 2) else (rankL reached m.toNat, 0)

end Go.Proofs.Ytmdgcimjmmnbjaa.CrewP
