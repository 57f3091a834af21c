/-
  The same as Rule5, where an operation may undo what another one said, and facts stand from the beginning.
-/
import Derived.Test.YtjibbbfpbflgmaaRule5
namespace Go.Proofs.Ytjibbbfpbflgmaa
open Go.RowKit Go.Maps
set_option linter.unusedVariables false

section
variable {P : Program} {ops : Array Oper} {Q : Exit → Act → World → Prop} {md : Region.Mode}
theorem any_rule6 (d : Nat → Nat) (R : Nat → Value → World → Prop) (I : World → Prop) (a0 : Act) (m : Nat) (kl : Nat → Nat → Bool)
    (hd : ∀ i o, ops[i]? = some o → (o.dst = some (d i) ∨ o.dst = none) ∧ d i < a0.tmps.size)
    (hinj : ∀ i j oi oj, ops[i]? = some oi → ops[j]? = some oj → j ≠ i → d i = d j → oi.dst = some (d i) → ∃ e ∈ oj.after, Region.binds md e = true ∧ e.on = i)
    (hext : ∀ i o x, ops[i]? = some o → ops.size ≤ x → x < ops.size + m → d i ≠ d x)
    (hback : ∀ i o, ops[i]? = some o → ∀ e ∈ o.after, Region.binds md e = true → e.on < i)
    (hstep : ∀ i o, ops[i]? = some o → ∀ a w, Base d ops.size a0 a → I w → (∀ x, ((∃ e ∈ o.after, Region.binds md e = true ∧ e.on = x) ∨ (ops.size ≤ x ∧ x < ops.size + m)) → (∀ j, j < ops.size → kl j x = true → j = i ∨ ∃ oj, ops[j]? = some oj ∧ ∃ e ∈ oj.after, Region.binds md e = true ∧ e.on = i) → Has d R x a w) →
      ∀ K : Act → World → Prop, (∀ v w', I w' → (o.dst = some (d i) → R i v w') → (o.dst = none → ∃ u, a.tmps[d i]? = some u ∧ R i u w') → (∀ j u, j ≠ i → kl i j = false → (∀ oj, ops[j]? = some oj → ∀ e ∈ oj.after, Region.binds md e = true → e.on ≠ i) → R j u w → R j u w') → K (a.put o.dst v) w') → wpOp P ops Q i K a w)
    (hend : ∀ a w, Base d ops.size a0 a → I w → (∀ i, i < ops.size + m → (∀ j, j < ops.size → kl j i = false) → Has d R i a w) → Q .normal a w) :
    ∀ fuel listed a w, listed.size = ops.size → Base d ops.size a0 a → I w → (∀ i, ((i < ops.size ∧ listed.getD i false = true) ∨ (ops.size ≤ i ∧ i < ops.size + m)) → (∀ j, j < ops.size → listed.getD j false = true → kl j i = false) → Has d R i a w) →
      (∀ i o, ops[i]? = some o → listed.getD i false = true → ∀ e ∈ o.after, Region.binds md e = true → listed.getD e.on false = true) →
      (List.range ops.size).countP (fun i => !listed.getD i true) ≤ fuel → wpAny P md ops Q fuel listed a w := by
  intro fuel
  induction fuel with
  | zero =>
    intro listed a w hs hb hw hl hcl hc
    have hnone : Region.ready md ops listed = [] := by
      cases hr : Region.ready md ops listed with
      | nil => rfl
      | cons x xs =>
        exfalso
        obtain ⟨o, _, hx, hx2, _⟩ := ready_mem (md := md) (ops := ops) (listed := listed) (i := x) (by rw [hr]; exact List.mem_cons_self)
        have hp : 0 < (List.range ops.size).countP (fun i => !listed.getD i true) := List.countP_pos_iff.2 ⟨x, List.mem_range.2 hx, by rw [hx2]; rfl⟩
        omega
    exact ⟨hnone, hend a w hb hw fun i hi hk => hl i (by rcases Nat.lt_or_ge i ops.size with h | h; exact .inl ⟨h, ready_nil hs hback hnone i h⟩; exact .inr ⟨h, hi⟩) fun j hj _ => hk j hj⟩
  | succ fuel ih =>
    intro listed a w hs hb hw hl hcl hc
    refine ⟨fun hr => hend a w hb hw fun i hi hk => hl i (by rcases Nat.lt_or_ge i ops.size with h | h; exact .inl ⟨h, ready_nil hs hback hr i h⟩; exact .inr ⟨h, hi⟩) fun j hj _ => hk j hj, fun i hi => ?_⟩
    obtain ⟨o, ho, hi1, hi2, hi3⟩ := ready_mem hi
    have hi2' : listed.getD i false = false := by
      rw [Array.getD_eq_getD_getElem?] at hi2 ⊢
      have : i < listed.size := by omega
      simp [this] at hi2 ⊢
      exact hi2
    have hon : ∀ x, ((∃ e ∈ o.after, Region.binds md e = true ∧ e.on = x) ∨ (ops.size ≤ x ∧ x < ops.size + m)) → (∀ j, j < ops.size → kl j x = true → j = i ∨ ∃ oj, ops[j]? = some oj ∧ ∃ e ∈ oj.after, Region.binds md e = true ∧ e.on = i) → Has d R x a w := fun x hx hk => by
      refine hl x ?_ fun j hj hjl => ?_
      · rcases hx with ⟨e, he, hbd, rfl⟩ | hx
        · exact .inl ⟨by have := hback i o ho e he hbd; omega, hi3 e he hbd⟩
        · exact .inr hx
      · cases hkk : kl j x with
        | false => rfl
        | true =>
          exfalso
          rcases hk j hj hkk with rfl | ⟨oj, hoj, e, he, hbd, rfl⟩
          · rw [hi2'] at hjl; cases hjl
          · have := hcl j oj hoj hjl e he hbd
            rw [hi2'] at this; cases this
    refine hstep i o ho a w hb hw hon _ fun v w' hI hsome hnone hkeep => ?_
    obtain ⟨hdd, hdi⟩ := hd i o ho
    have hold : ∀ j, j ≠ i → (listed.setIfInBounds i true).getD j false = true → listed.getD j false = true := fun j e h => by
      have : (listed.setIfInBounds i true)[j]? = listed[j]? := Array.getElem?_setIfInBounds_ne (fun h => e h.symm)
      rw [Array.getD_eq_getD_getElem?] at h ⊢
      rwa [this] at h
    have hnew : ∀ j, listed.getD j false = true → (listed.setIfInBounds i true).getD j false = true := fun j h => by
      by_cases e : j = i
      · subst e; rw [hi2'] at h; cases h
      · have : (listed.setIfInBounds i true)[j]? = listed[j]? := Array.getElem?_setIfInBounds_ne (fun h => e h.symm)
        rw [Array.getD_eq_getD_getElem?] at h ⊢
        rwa [this]
    refine ih (listed.setIfInBounds i true) (a.put o.dst v) w' (by simpa using hs) ⟨?_, ?_, ?_⟩ hI ?_ ?_ ?_
    · rcases hdd with e | e
      · rw [e]; simpa [Act.put] using hb.1
      · rw [e]; exact hb.1
    · rcases hdd with e | e <;> rw [e] <;> exact hb.2.1
    · intro s hsn
      rcases hdd with e | e
      · rw [e]
        show (a.tmps.setIfInBounds (d i) v)[s]? = _
        rw [Array.getElem?_setIfInBounds_ne (hsn i hi1)]
        exact hb.2.2 s hsn
      · rw [e]; exact hb.2.2 s hsn
    · intro j hj hal
      by_cases e : j = i
      · subst e
        rcases hdd with e | e
        · rw [e]
          exact ⟨v, by show (a.tmps.setIfInBounds (d j) v)[d j]? = _; rw [Array.getElem?_setIfInBounds_self_of_lt (by rw [hb.1]; exact hdi)], hsome e⟩
        · obtain ⟨u, hu, hR⟩ := hnone e
          rw [e]
          exact ⟨u, hu, hR⟩
      · have hki : kl i j = false := hal i hi1 (by
          rw [Array.getD_eq_getD_getElem?, Array.getElem?_setIfInBounds_self_of_lt (by omega)]; rfl)
        have hj2 : (j < ops.size ∧ listed.getD j false = true) ∨ (ops.size ≤ j ∧ j < ops.size + m) := by
          rcases hj with ⟨h1, h2⟩ | h
          · exact .inl ⟨h1, hold j e h2⟩
          · exact .inr h
        obtain ⟨u, hu, hru⟩ := hl j hj2 fun q hq hql => hal q hq (hnew q hql)
        have hnot : ∀ oj, ops[j]? = some oj → ∀ e ∈ oj.after, Region.binds md e = true → e.on ≠ i := fun oj hoj ed he hbd e3 => by
          rcases hj2 with ⟨h1, h2⟩ | ⟨h1, h2⟩
          · have := hcl j oj hoj h2 ed he hbd
            rw [e3, hi2'] at this
            cases this
          · rw [Array.getElem?_eq_none h1] at hoj; cases hoj
        rcases hdd with e2 | e2
        · rw [e2]
          refine ⟨u, ?_, hkeep j u e hki hnot hru⟩
          show (a.tmps.setIfInBounds (d i) v)[d j]? = _
          have hne : d i ≠ d j := fun h => by
            rcases hj2 with ⟨h1, h2⟩ | ⟨h1, h2⟩
            · obtain ⟨oj, hoj⟩ : ∃ oj, ops[j]? = some oj := ⟨_, Array.getElem?_eq_getElem h1⟩
              obtain ⟨ed, he1, he2, he3⟩ := hinj i j o oj ho hoj e h e2
              have := hcl j oj hoj h2 ed he1 he2
              rw [he3, hi2'] at this
              cases this
            · exact hext i o j ho h1 h2 h
          rw [Array.getElem?_setIfInBounds_ne hne]
          exact hu
        · rw [e2]
          exact ⟨u, hu, hkeep j u e hki hnot hru⟩
    · intro j oj hoj hjl ed he hbd
      by_cases e : j = i
      · subst e
        rw [ho] at hoj
        cases hoj
        exact hnew _ (hi3 ed he hbd)
      · exact hnew _ (hcl j oj hoj (hold j e hjl) ed he hbd)
    · have hlt : (List.range ops.size).countP (fun k => !(listed.setIfInBounds i true).getD k true) < (List.range ops.size).countP (fun k => !listed.getD k true) := by
        refine countP_lt _ (fun k hk hq => ?_) ⟨i, List.mem_range.2 hi1, by rw [hi2]; rfl, ?_⟩
        · by_cases e : k = i
          · subst e
            rw [Array.getD_eq_getD_getElem?, Array.getElem?_setIfInBounds_self_of_lt (by omega)] at hq
            simp at hq
          · have : (listed.setIfInBounds i true)[k]? = listed[k]? := Array.getElem?_setIfInBounds_ne (fun h => e h.symm)
            rw [Array.getD_eq_getD_getElem?] at hq ⊢
            rwa [this] at hq
        · rw [Array.getD_eq_getD_getElem?, Array.getElem?_setIfInBounds_self_of_lt (by omega)]
          rfl
      omega
/-- From the beginning, what is asked of the table by computing; no guards. -/
theorem region_rule6 {id : Nat} (n N m : Nat) (kl : Nat → Nat → Bool) (d : Nat → Nat) (R : Nat → Value → World → Prop) (I : World → Prop) (a0 : Act) (w0 : World) (hm : P.follows .mixedOrders = true) (hn : ops.size = n) (hN : a0.tmps.size = N)
    (ht : ((List.range n).all fun i => ((ops[i]?).map fun o => (o.dst == some (d i) || o.dst == none) && decide (d i < N) && o.guard.isNone && o.after.all fun e => !Region.binds .any e || decide (e.on < i)).getD false) = true)
    (hinj : ((List.range n).all fun i => (List.range n).all fun j => !(d i == d j) || (i == j) || (((ops[i]?).map fun o => o.dst == none).getD false) || (((ops[j]?).map fun o => o.after.any fun e => Region.binds .any e && (e.on == i)).getD false)) = true)
    (hext : ((List.range n).all fun i => (List.range m).all fun x => !(d i == d (n + x))) = true)
    (hI0 : I w0.drew) (hE0 : ∀ x, n ≤ x → x < n + m → Has d R x a0 w0.drew)
    (hstep : ∀ i o, i < n → ops[i]? = some o → o.guard = none → (o.dst = some (d i) ∨ o.dst = none) → ∀ a w, Base d n a0 a → I w →
      (∀ j, ((o.after.any fun e => Region.binds .any e && (e.on == j)) || (decide (n ≤ j) && decide (j < n + m))) = true → ((List.range n).all fun q => !(kl q j) || (q == i) || ((ops[q]?).map fun o => o.after.any fun e => Region.binds .any e && (e.on == i)).getD false) = true → Has d R j a w) →
      ∀ K : Act → World → Prop, (∀ v w', I w' → (o.dst = some (d i) → R i v w') → (o.dst = none → ∃ u, a.tmps[d i]? = some u ∧ R i u w') → (∀ j u, j ≠ i → kl i j = false → ((ops[j]?).map fun o => o.after.any fun e => Region.binds .any e && (e.on == i)).getD false = false → R j u w → R j u w') → K (a.put o.dst v) w') → wpOp P ops Q i K a w)
    (hend : ∀ a w, Base d n a0 a → I w → (∀ i, i < n + m → ((List.range n).all fun j => !(kl j i)) = true → Has d R i a w) → Q .normal a w) : (Code.region id ops true).wp P Q a0 w0 := by
  subst hn
  subst hN
  have hlt : ∀ i o, ops[i]? = some o → i < ops.size := fun i o h => by
    rcases Nat.lt_or_ge i ops.size with hl | hl
    · exact hl
    · rw [Array.getElem?_eq_none hl] at h; cases h
  have key : ∀ i o, ops[i]? = some o → (o.dst = some (d i) ∨ o.dst = none) ∧ d i < a0.tmps.size ∧ o.guard = none ∧ ∀ e ∈ o.after, Region.binds .any e = true → e.on < i := by
    intro i o ho
    have h := List.all_eq_true.1 ht i (List.mem_range.2 (hlt i o ho))
    rw [ho] at h
    simp only [Option.map_some, Option.getD_some, Bool.and_eq_true, Bool.or_eq_true, beq_iff_eq, decide_eq_true_eq, Option.isNone_iff_eq_none] at h
    obtain ⟨⟨⟨h1, h2⟩, h3⟩, h4⟩ := h
    refine ⟨h1, h2, h3, fun e he hb => ?_⟩
    have := Array.all_eq_true_iff_forall_mem.1 h4 e he
    rw [hb] at this
    simpa using this
  refine wp_region_any hm (any_rule6 (P := P) (md := .any) d R I a0 m kl (fun i o ho => ⟨(key i o ho).1, (key i o ho).2.1⟩) (fun i j oi oj hoi hoj hne e hdst => ?_) (fun i o x ho h1 h2 => ?_) (fun i o ho => (key i o ho).2.2.2) (fun i o ho a w hb hI hdep K hK => ?_) (fun a w hb hI hall => hend a w hb hI fun i hi hk => hall i hi fun j hj => by have := List.all_eq_true.1 hk j (List.mem_range.2 hj); simpa using this) ops.size _ a0 _ (by simp) ⟨rfl, rfl, fun _ _ => rfl⟩ hI0 ?_ ?_ ?_)
  · have h := List.all_eq_true.1 (List.all_eq_true.1 hinj i (List.mem_range.2 (hlt i oi hoi))) j (List.mem_range.2 (hlt j oj hoj))
    rw [hoi, hoj, e] at h
    simp only [beq_self_eq_true, Bool.not_true, Bool.false_or, Option.map_some, Option.getD_some, Bool.or_eq_true, beq_iff_eq] at h
    rcases h with (h | h) | h
    · exact absurd h.symm hne
    · rw [h] at hdst; cases hdst
    · rw [Array.any_eq_true] at h
      obtain ⟨k, hk, h2⟩ := h
      simp only [Bool.and_eq_true, beq_iff_eq] at h2
      exact ⟨_, Array.getElem_mem hk, h2.1, h2.2⟩
  · have h := List.all_eq_true.1 (List.all_eq_true.1 hext i (List.mem_range.2 (hlt i o ho))) (x - ops.size) (List.mem_range.2 (by omega))
    rw [show ops.size + (x - ops.size) = x by omega] at h
    simpa using h
  · refine hstep i o (hlt i o ho) ho (key i o ho).2.2.1 (key i o ho).1 a w hb hI (fun j hj hk => hdep j ?_ fun q hq hkq => ?_) K (fun v w' h1 h2 h3 h4 => hK v w' h1 h2 h3 fun j u hj hk hnot => h4 j u hj hk ?_)
    · rw [Bool.or_eq_true] at hj
      rcases hj with hj | hj
      · rw [Array.any_eq_true] at hj
        obtain ⟨k, hk, h2⟩ := hj
        simp only [Bool.and_eq_true, beq_iff_eq] at h2
        exact .inl ⟨_, Array.getElem_mem hk, h2.1, h2.2⟩
      · exact .inr (by simpa using hj)
    · have h := List.all_eq_true.1 hk q (List.mem_range.2 hq)
      rw [hkq, Array.getElem?_eq_getElem hq] at h
      simp only [Bool.not_true, Bool.false_or, Option.map_some, Option.getD_some, Bool.or_eq_true, beq_iff_eq] at h
      rcases h with h | h
      · exact .inl h
      · rw [Array.any_eq_true] at h
        obtain ⟨k, hk', h2⟩ := h
        simp only [Bool.and_eq_true, beq_iff_eq] at h2
        exact .inr ⟨_, Array.getElem?_eq_getElem hq, _, Array.getElem_mem hk', h2.1, h2.2⟩
    · cases hoj : ops[j]? with
      | none => rfl
      | some oj =>
        rw [Option.map_some, Option.getD_some]
        cases hx : (oj.after.any fun e => Region.binds .any e && (e.on == i)) with
        | false => rfl
        | true =>
          rw [Array.any_eq_true] at hx
          obtain ⟨k, hk', h5⟩ := hx
          simp only [Bool.and_eq_true, beq_iff_eq] at h5
          exact absurd h5.2 (hnot oj hoj _ (Array.getElem_mem hk') h5.1)
  · intro i hi _
    rcases hi with ⟨hi, h⟩ | ⟨h1, h2⟩
    · rw [Array.getD_eq_getD_getElem?] at h
      simp [hi] at h
    · exact hE0 i h1 h2
  · intro i o ho h
    have hi := hlt i o ho
    rw [Array.getD_eq_getD_getElem?] at h
    simp [hi] at h
  · exact Nat.le_trans List.countP_le_length (by simp)
end
end Go.Proofs.Ytjibbbfpbflgmaa
