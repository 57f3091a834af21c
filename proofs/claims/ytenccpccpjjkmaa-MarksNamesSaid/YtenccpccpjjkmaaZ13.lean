/-
  Laid together for a hand-in: Tr15, Rule5, Rule6, Br13, Wv15, Am15.
-/
import Derived.Test.YtenccpccpjjkmaaZ12
import Derived.Test.YtenccpccpjjkmaaZ04
import Derived.Test.YtenccpccpjjkmaaZ09

namespace Go.Proofs.Ytenccpccpjjkmaa
open Go.RowKit Go.Shelf Go.Sort Go.Maps CrewP
set_option linter.unusedVariables false
set_option linter.unusedSimpArgs false

theorem dg_eq (d d' : List UInt8) (h : d.length = 32) (h' : d'.length = 32) (w : World) : (Op.equalIn 10000 26 (dgA d) (dgA d')).run Try.prog w = .ok (d == d') w :=
  run_equalIn_bytes w 9998 26 5 32 Try.underlying26 Try.underlying5 (fun w => by kernel_rfl) d d' h h'
theorem mkI_field (b : UInt8) (w : World) : (Instr.field 28 (.agg (mkC (mkI 0 b)).toArray) 1).run Try.prog w = .ok (dgA (dgm b)) w := by kernel_rfl
theorem mkI_s {s : Int} (h0 : 0 ≤ s) (h1 : s ≤ 100) (b : UInt8) : (mkI s b).s = s := by rw [mkI_of h0 h1 b (wf_small h0 h1)]; rfl
theorem mkI_d {s : Int} (h0 : 0 ≤ s) (h1 : s ≤ 100) (b : UInt8) : (mkI s b).d = dgm b := by rw [mkI_of h0 h1 b (wf_small h0 h1)]; rfl
theorem Aw.mark_s {w0 w : World} {g : Nat} {m : Ms} {V : List (Nat × Mk)} (h : Aw w0 w g m V) {b : Nat} {x : Mk} (hp : (b, x) ∈ V) : w.cell? ⟨b, 0, none⟩ = some (.int .i64 x.s) := (h.blk hp).cell rfl
theorem Aw.mark_d {w0 w : World} {g : Nat} {m : Ms} {V : List (Nat × Mk)} (h : Aw w0 w g m V) {b : Nat} {x : Mk} (hp : (b, x) ∈ V) : w.rangeAt b 1 (cbs x.d) :=
  (h.blk hp).rangeFrom (o := 1) (n := 32) (by
    show List.take 32 (cbs x.d) = cbs x.d
    rw [List.take_of_length_le (by rw [cbs_length, x.hd]; omega)])

/-- Of the nodes behind the first f each tells what is so. -/
structure TrI (F : Nat) (m : Ms) : Prop where
  ok : m.ok
  f : m.f = (F : Int)
  ns : m.ns = ndL (3 * F + 1)
  say : ∀ k y, y ∈ m.told k → (F : Int) < k → y.d = dgm 0
theorem fr_ok {f : Nat} (h1 : 1 ≤ f) (h2 : f ≤ 2) : (fr f).ok := newE_ok (newE_fresh h1 h2)
theorem TrI.fresh {f : Nat} (h1 : 1 ≤ f) (h2 : f ≤ 2) : TrI f (fr f) := ⟨fr_ok h1 h2, rfl, rfl, fun k y hy => by cases hy⟩
theorem TrI.vote {f : Nat} {m : Ms} (h : TrI f m) {n : Int} {x : Mk} (hx : (f : Int) < n → x.d = dgm 0) : TrI f (voteS m n x) := by
  obtain ⟨h1, h2, h3⟩ := voteS_f m n x
  refine ⟨voteS_ok h.ok n x, h1.trans h.f, h2.trans h.ns, fun k y hy hk => ?_⟩
  rcases vote_told hy with e | ⟨rfl, rfl⟩
  · exact h.say k y e hk
  · exact hx hk
theorem few {f : Nat} (h1 : 1 ≤ f) (h2 : f ≤ 2) : ((ndL (3 * f + 1)).countP fun n => decide (n ≤ (f : Int))) = f := by
  have : ∀ f : Nat, f < 3 → 1 ≤ f → ((ndL (3 * f + 1)).countP fun n => decide (n ≤ (f : Int))) = f := by decide +kernel
  exact this f (by omega) h1
theorem TrI.so {f : Nat} {m : Ms} (h : TrI f m) (h1 : 1 ≤ f) (h2 : f ≤ 2) {many : Int} (hm : (f : Int) < many) {x : Mk} (hg : greatS m many = some x) : x.d = dgm 0 := by
  obtain ⟨hc, _⟩ := great_some hg
  apply Classical.byContradiction
  intro hne
  have hle : cnt m x ≤ f := by
    have e := few h1 h2
    rw [← h.ns] at e
    rw [← e]
    unfold cnt
    refine List.countP_mono_left fun n hn hx => ?_
    have hx' : x ∈ m.told n := by simpa using hx
    rcases Int.lt_or_le (f : Int) n with hl | hl
    · exact absurd (h.say n x hx' hl) hne
    · simpa using hl
  omega
theorem TrI.both {f : Nat} {m : Ms} (h : TrI f m) (h1 : 1 ≤ f) {x : Mk} (hg : greatS m (2 * m.f + 1) = some x) : ∃ y, greatS m (m.f + 1) = some y ∧ x.s ≤ y.s := by
  have hf := h.f
  obtain ⟨hc, _⟩ := great_some hg
  cases e : greatS m (m.f + 1) with
  | none =>
    have := (great_none (by omega)).1 e x
    omega
  | some y =>
    refine ⟨y, rfl, ?_⟩
    obtain ⟨_, hy⟩ := great_some e
    rcases hy x (cnt_pos.1 (by omega)) (by omega) with e2 | e2
    · rw [e2]; omega
    · unfold ltM at e2; omega
end Go.Proofs.Ytenccpccpjjkmaa

namespace Go.Proofs.Ytenccpccpjjkmaa

open Go.RowKit Go.Maps

set_option linter.unusedVariables false

section

variable {P : Program} {ops : Array Oper} {Q : Exit → Act → World → Prop} {md : Region.Mode}

theorem any_rule5 (d : Nat → Nat) (R : Nat → Value → World → Prop) (I : World → Prop) (a0 : Act)
    (hd : ∀ i o, ops[i]? = some o → (o.dst = some (d i) ∨ o.dst = none) ∧ d i < a0.tmps.size)
    (hinj : ∀ i j oi oj, ops[i]? = some oi → ops[j]? = some oj → j ≠ i → d i = d j → oi.dst = some (d i) → ∃ e ∈ oj.after, Region.binds md e = true ∧ e.on = i)
    (hback : ∀ i o, ops[i]? = some o → ∀ e ∈ o.after, Region.binds md e = true → e.on < i)
    (hstep : ∀ i o, ops[i]? = some o → ∀ a w, Base d ops.size a0 a → I w → (∀ e ∈ o.after, Region.binds md e = true → Has d R e.on a w) →
      ∀ K : Act → World → Prop, (∀ v w', I w' → (o.dst = some (d i) → R i v w') → (o.dst = none → ∃ u, a.tmps[d i]? = some u ∧ R i u w') → (∀ j u, j ≠ i → R j u w → R j u w') → K (a.put o.dst v) w') → wpOp P ops Q i K a w)
    (hend : ∀ a w, Base d ops.size a0 a → I w → (∀ i, i < ops.size → Has d R i a w) → Q .normal a w) :
    ∀ fuel listed a w, listed.size = ops.size → Base d ops.size a0 a → I w → (∀ i, i < ops.size → listed.getD i false = true → Has d R i a w) →
      (∀ i o, ops[i]? = some o → listed.getD i false = true → ∀ e ∈ o.after, Region.binds md e = true → listed.getD e.on false = true) →
      (List.range ops.size).countP (fun i => !listed.getD i true) ≤ fuel → wpAny P md ops Q fuel listed a w := by
  intro fuel
  induction fuel with
  | zero =>
    intro listed a w hs hb hw hl hcl hc
    have hnone : Region.ready md ops listed = [] := by
      cases hr : Region.ready md ops listed with
      | nil => rfl
      | cons x xs =>
        exfalso
        obtain ⟨o, _, hx, hx2, _⟩ := ready_mem (md := md) (ops := ops) (listed := listed) (i := x) (by rw [hr]; exact List.mem_cons_self)
        have hp : 0 < (List.range ops.size).countP (fun i => !listed.getD i true) := List.countP_pos_iff.2 ⟨x, List.mem_range.2 hx, by rw [hx2]; rfl⟩
        omega
    exact ⟨hnone, hend a w hb hw fun i hi => hl i hi (ready_nil hs hback hnone i hi)⟩
  | succ fuel ih =>
    intro listed a w hs hb hw hl hcl hc
    refine ⟨fun hr => hend a w hb hw fun i hi => hl i hi (ready_nil hs hback hr i hi), fun i hi => ?_⟩
    obtain ⟨o, ho, hi1, hi2, hi3⟩ := ready_mem hi
    have hi2' : listed.getD i false = false := by
      rw [Array.getD_eq_getD_getElem?] at hi2 ⊢
      have : i < listed.size := by omega
      simp [this] at hi2 ⊢
      exact hi2
    have hon : ∀ e ∈ o.after, Region.binds md e = true → Has d R e.on a w := fun e he hbd => hl e.on (by have := hback i o ho e he hbd; omega) (hi3 e he hbd)
    refine hstep i o ho a w hb hw hon _ fun v w' hI hsome hnone hkeep => ?_
    obtain ⟨hdd, hdi⟩ := hd i o ho
    have hold : ∀ j, j ≠ i → (listed.setIfInBounds i true).getD j false = true → listed.getD j false = true := fun j e h => by
      have : (listed.setIfInBounds i true)[j]? = listed[j]? := Array.getElem?_setIfInBounds_ne (fun h => e h.symm)
      rw [Array.getD_eq_getD_getElem?] at h ⊢
      rwa [this] at h
    have hnew : ∀ j, listed.getD j false = true → (listed.setIfInBounds i true).getD j false = true := fun j h => by
      by_cases e : j = i
      · subst e; rw [hi2'] at h; cases h
      · have : (listed.setIfInBounds i true)[j]? = listed[j]? := Array.getElem?_setIfInBounds_ne (fun h => e h.symm)
        rw [Array.getD_eq_getD_getElem?] at h ⊢
        rwa [this]
    refine ih (listed.setIfInBounds i true) (a.put o.dst v) w' (by simpa using hs) ⟨?_, ?_, ?_⟩ hI ?_ ?_ ?_
    · rcases hdd with e | e
      · rw [e]; simpa [Act.put] using hb.1
      · rw [e]; exact hb.1
    · rcases hdd with e | e <;> rw [e] <;> exact hb.2.1
    · intro s hsn
      rcases hdd with e | e
      · rw [e]
        show (a.tmps.setIfInBounds (d i) v)[s]? = _
        rw [Array.getElem?_setIfInBounds_ne (hsn i hi1)]
        exact hb.2.2 s hsn
      · rw [e]; exact hb.2.2 s hsn
    · intro j hj hjl
      by_cases e : j = i
      · subst e
        rcases hdd with e | e
        · rw [e]
          exact ⟨v, by show (a.tmps.setIfInBounds (d j) v)[d j]? = _; rw [Array.getElem?_setIfInBounds_self_of_lt (by rw [hb.1]; exact hdi)], hsome e⟩
        · obtain ⟨u, hu, hR⟩ := hnone e
          rw [e]
          exact ⟨u, hu, hR⟩
      · have hj2 := hold j e hjl
        obtain ⟨u, hu, hru⟩ := hl j hj hj2
        rcases hdd with e2 | e2
        · rw [e2]
          refine ⟨u, ?_, hkeep j u e hru⟩
          show (a.tmps.setIfInBounds (d i) v)[d j]? = _
          have hne : d i ≠ d j := fun h => by
            obtain ⟨oj, hoj⟩ : ∃ oj, ops[j]? = some oj := ⟨_, Array.getElem?_eq_getElem hj⟩
            obtain ⟨ed, he1, he2, he3⟩ := hinj i j o oj ho hoj e h e2
            have := hcl j oj hoj hj2 ed he1 he2
            rw [he3, hi2'] at this
            cases this
          rw [Array.getElem?_setIfInBounds_ne hne]
          exact hu
        · rw [e2]
          exact ⟨u, hu, hkeep j u e hru⟩
    · intro j oj hoj hjl ed he hbd
      by_cases e : j = i
      · subst e
        rw [ho] at hoj
        cases hoj
        exact hnew _ (hi3 ed he hbd)
      · exact hnew _ (hcl j oj hoj (hold j e hjl) ed he hbd)
    · have hlt : (List.range ops.size).countP (fun k => !(listed.setIfInBounds i true).getD k true) < (List.range ops.size).countP (fun k => !listed.getD k true) := by
        refine countP_lt _ (fun k hk hq => ?_) ⟨i, List.mem_range.2 hi1, by rw [hi2]; rfl, ?_⟩
        · by_cases e : k = i
          · subst e
            rw [Array.getD_eq_getD_getElem?, Array.getElem?_setIfInBounds_self_of_lt (by omega)] at hq
            simp at hq
          · have : (listed.setIfInBounds i true)[k]? = listed[k]? := Array.getElem?_setIfInBounds_ne (fun h => e h.symm)
            rw [Array.getD_eq_getD_getElem?] at hq ⊢
            rwa [this] at hq
        · rw [Array.getD_eq_getD_getElem?, Array.getElem?_setIfInBounds_self_of_lt (by omega)]
          rfl
      omega

/-- From the beginning, what is asked of the table by computing; no guards. -/
theorem region_rule5 {id : Nat} (n N : Nat) (d : Nat → Nat) (R : Nat → Value → World → Prop) (I : World → Prop) (a0 : Act) (w0 : World) (hm : P.follows .mixedOrders = true) (hn : ops.size = n) (hN : a0.tmps.size = N)
    (ht : ((List.range n).all fun i => ((ops[i]?).map fun o => (o.dst == some (d i) || o.dst == none) && decide (d i < N) && o.guard.isNone && o.after.all fun e => !Region.binds .any e || decide (e.on < i)).getD false) = true)
    (hinj : ((List.range n).all fun i => (List.range n).all fun j => !(d i == d j) || (i == j) || (((ops[i]?).map fun o => o.dst == none).getD false) || (((ops[j]?).map fun o => o.after.any fun e => Region.binds .any e && (e.on == i)).getD false)) = true)
    (hI0 : I w0.drew)
    (hstep : ∀ i o, i < n → ops[i]? = some o → o.guard = none → (o.dst = some (d i) ∨ o.dst = none) → ∀ a w, Base d n a0 a → I w →
      (∀ j, (o.after.any fun e => Region.binds .any e && (e.on == j)) = true → Has d R j a w) →
      ∀ K : Act → World → Prop, (∀ v w', I w' → (o.dst = some (d i) → R i v w') → (o.dst = none → ∃ u, a.tmps[d i]? = some u ∧ R i u w') → (∀ j u, j ≠ i → R j u w → R j u w') → K (a.put o.dst v) w') → wpOp P ops Q i K a w)
    (hend : ∀ a w, Base d n a0 a → I w → (∀ i, i < n → Has d R i a w) → Q .normal a w) : (Code.region id ops true).wp P Q a0 w0 := by
  subst hn
  subst hN
  have hlt : ∀ i o, ops[i]? = some o → i < ops.size := fun i o h => by
    rcases Nat.lt_or_ge i ops.size with hl | hl
    · exact hl
    · rw [Array.getElem?_eq_none hl] at h; cases h
  have key : ∀ i o, ops[i]? = some o → (o.dst = some (d i) ∨ o.dst = none) ∧ d i < a0.tmps.size ∧ o.guard = none ∧ ∀ e ∈ o.after, Region.binds .any e = true → e.on < i := by
    intro i o ho
    have h := List.all_eq_true.1 ht i (List.mem_range.2 (hlt i o ho))
    rw [ho] at h
    simp only [Option.map_some, Option.getD_some, Bool.and_eq_true, Bool.or_eq_true, beq_iff_eq, decide_eq_true_eq, Option.isNone_iff_eq_none] at h
    obtain ⟨⟨⟨h1, h2⟩, h3⟩, h4⟩ := h
    refine ⟨h1, h2, h3, fun e he hb => ?_⟩
    have := Array.all_eq_true_iff_forall_mem.1 h4 e he
    rw [hb] at this
    simpa using this
  refine wp_region_any hm (any_rule5 (P := P) (md := .any) d R I a0 (fun i o ho => ⟨(key i o ho).1, (key i o ho).2.1⟩) (fun i j oi oj hoi hoj hne e hdst => ?_) (fun i o ho => (key i o ho).2.2.2) (fun i o ho a w hb hI hdep K hK => ?_) hend ops.size _ a0 _ (by simp) ⟨rfl, rfl, fun _ _ => rfl⟩ hI0 ?_ ?_ ?_)
  · have h := List.all_eq_true.1 (List.all_eq_true.1 hinj i (List.mem_range.2 (hlt i oi hoi))) j (List.mem_range.2 (hlt j oj hoj))
    rw [hoi, hoj, e] at h
    simp only [beq_self_eq_true, Bool.not_true, Bool.false_or, Option.map_some, Option.getD_some, Bool.or_eq_true, beq_iff_eq] at h
    rcases h with (h | h) | h
    · exact absurd h.symm hne
    · rw [h] at hdst; cases hdst
    · rw [Array.any_eq_true] at h
      obtain ⟨k, hk, h2⟩ := h
      simp only [Bool.and_eq_true, beq_iff_eq] at h2
      exact ⟨_, Array.getElem_mem hk, h2.1, h2.2⟩
  · refine hstep i o (hlt i o ho) ho (key i o ho).2.2.1 (key i o ho).1 a w hb hI (fun j hj => ?_) K hK
    rw [Array.any_eq_true] at hj
    obtain ⟨k, hk, h2⟩ := hj
    simp only [Bool.and_eq_true, beq_iff_eq] at h2
    obtain ⟨h2, h3⟩ := h2
    rw [← h3]
    exact hdep _ (Array.getElem_mem hk) h2
  · intro i hi h
    rw [Array.getD_eq_getD_getElem?] at h
    simp [hi] at h
  · intro i o ho h
    have hi := hlt i o ho
    rw [Array.getD_eq_getD_getElem?] at h
    simp [hi] at h
  · exact Nat.le_trans List.countP_le_length (by simp)

end

end Go.Proofs.Ytenccpccpjjkmaa

namespace Go.Proofs.Ytenccpccpjjkmaa

open Go.RowKit Go.Maps

set_option linter.unusedVariables false

section

variable {P : Program} {ops : Array Oper} {Q : Exit → Act → World → Prop} {md : Region.Mode}

theorem any_rule6 (d : Nat → Nat) (R : Nat → Value → World → Prop) (I : World → Prop) (a0 : Act) (m : Nat) (kl : Nat → Nat → Bool)
    (hd : ∀ i o, ops[i]? = some o → (o.dst = some (d i) ∨ o.dst = none) ∧ d i < a0.tmps.size)
    (hinj : ∀ i j oi oj, ops[i]? = some oi → ops[j]? = some oj → j ≠ i → d i = d j → oi.dst = some (d i) → ∃ e ∈ oj.after, Region.binds md e = true ∧ e.on = i)
    (hext : ∀ i o x, ops[i]? = some o → ops.size ≤ x → x < ops.size + m → d i ≠ d x)
    (hback : ∀ i o, ops[i]? = some o → ∀ e ∈ o.after, Region.binds md e = true → e.on < i)
    (hstep : ∀ i o, ops[i]? = some o → ∀ a w, Base d ops.size a0 a → I w → (∀ x, ((∃ e ∈ o.after, Region.binds md e = true ∧ e.on = x) ∨ (ops.size ≤ x ∧ x < ops.size + m)) → (∀ j, j < ops.size → kl j x = true → j = i ∨ ∃ oj, ops[j]? = some oj ∧ ∃ e ∈ oj.after, Region.binds md e = true ∧ e.on = i) → Has d R x a w) →
      ∀ K : Act → World → Prop, (∀ v w', I w' → (o.dst = some (d i) → R i v w') → (o.dst = none → ∃ u, a.tmps[d i]? = some u ∧ R i u w') → (∀ j u, j ≠ i → kl i j = false → (∀ oj, ops[j]? = some oj → ∀ e ∈ oj.after, Region.binds md e = true → e.on ≠ i) → R j u w → R j u w') → K (a.put o.dst v) w') → wpOp P ops Q i K a w)
    (hend : ∀ a w, Base d ops.size a0 a → I w → (∀ i, i < ops.size + m → (∀ j, j < ops.size → kl j i = false) → Has d R i a w) → Q .normal a w) :
    ∀ fuel listed a w, listed.size = ops.size → Base d ops.size a0 a → I w → (∀ i, ((i < ops.size ∧ listed.getD i false = true) ∨ (ops.size ≤ i ∧ i < ops.size + m)) → (∀ j, j < ops.size → listed.getD j false = true → kl j i = false) → Has d R i a w) →
      (∀ i o, ops[i]? = some o → listed.getD i false = true → ∀ e ∈ o.after, Region.binds md e = true → listed.getD e.on false = true) →
      (List.range ops.size).countP (fun i => !listed.getD i true) ≤ fuel → wpAny P md ops Q fuel listed a w := by
  intro fuel
  induction fuel with
  | zero =>
    intro listed a w hs hb hw hl hcl hc
    have hnone : Region.ready md ops listed = [] := by
      cases hr : Region.ready md ops listed with
      | nil => rfl
      | cons x xs =>
        exfalso
        obtain ⟨o, _, hx, hx2, _⟩ := ready_mem (md := md) (ops := ops) (listed := listed) (i := x) (by rw [hr]; exact List.mem_cons_self)
        have hp : 0 < (List.range ops.size).countP (fun i => !listed.getD i true) := List.countP_pos_iff.2 ⟨x, List.mem_range.2 hx, by rw [hx2]; rfl⟩
        omega
    exact ⟨hnone, hend a w hb hw fun i hi hk => hl i (by rcases Nat.lt_or_ge i ops.size with h | h; exact .inl ⟨h, ready_nil hs hback hnone i h⟩; exact .inr ⟨h, hi⟩) fun j hj _ => hk j hj⟩
  | succ fuel ih =>
    intro listed a w hs hb hw hl hcl hc
    refine ⟨fun hr => hend a w hb hw fun i hi hk => hl i (by rcases Nat.lt_or_ge i ops.size with h | h; exact .inl ⟨h, ready_nil hs hback hr i h⟩; exact .inr ⟨h, hi⟩) fun j hj _ => hk j hj, fun i hi => ?_⟩
    obtain ⟨o, ho, hi1, hi2, hi3⟩ := ready_mem hi
    have hi2' : listed.getD i false = false := by
      rw [Array.getD_eq_getD_getElem?] at hi2 ⊢
      have : i < listed.size := by omega
      simp [this] at hi2 ⊢
      exact hi2
    have hon : ∀ x, ((∃ e ∈ o.after, Region.binds md e = true ∧ e.on = x) ∨ (ops.size ≤ x ∧ x < ops.size + m)) → (∀ j, j < ops.size → kl j x = true → j = i ∨ ∃ oj, ops[j]? = some oj ∧ ∃ e ∈ oj.after, Region.binds md e = true ∧ e.on = i) → Has d R x a w := fun x hx hk => by
      refine hl x ?_ fun j hj hjl => ?_
      · rcases hx with ⟨e, he, hbd, rfl⟩ | hx
        · exact .inl ⟨by have := hback i o ho e he hbd; omega, hi3 e he hbd⟩
        · exact .inr hx
      · cases hkk : kl j x with
        | false => rfl
        | true =>
          exfalso
          rcases hk j hj hkk with rfl | ⟨oj, hoj, e, he, hbd, rfl⟩
          · rw [hi2'] at hjl; cases hjl
          · have := hcl j oj hoj hjl e he hbd
            rw [hi2'] at this; cases this
    refine hstep i o ho a w hb hw hon _ fun v w' hI hsome hnone hkeep => ?_
    obtain ⟨hdd, hdi⟩ := hd i o ho
    have hold : ∀ j, j ≠ i → (listed.setIfInBounds i true).getD j false = true → listed.getD j false = true := fun j e h => by
      have : (listed.setIfInBounds i true)[j]? = listed[j]? := Array.getElem?_setIfInBounds_ne (fun h => e h.symm)
      rw [Array.getD_eq_getD_getElem?] at h ⊢
      rwa [this] at h
    have hnew : ∀ j, listed.getD j false = true → (listed.setIfInBounds i true).getD j false = true := fun j h => by
      by_cases e : j = i
      · subst e; rw [hi2'] at h; cases h
      · have : (listed.setIfInBounds i true)[j]? = listed[j]? := Array.getElem?_setIfInBounds_ne (fun h => e h.symm)
        rw [Array.getD_eq_getD_getElem?] at h ⊢
        rwa [this]
    refine ih (listed.setIfInBounds i true) (a.put o.dst v) w' (by simpa using hs) ⟨?_, ?_, ?_⟩ hI ?_ ?_ ?_
    · rcases hdd with e | e
      · rw [e]; simpa [Act.put] using hb.1
      · rw [e]; exact hb.1
    · rcases hdd with e | e <;> rw [e] <;> exact hb.2.1
    · intro s hsn
      rcases hdd with e | e
      · rw [e]
        show (a.tmps.setIfInBounds (d i) v)[s]? = _
        rw [Array.getElem?_setIfInBounds_ne (hsn i hi1)]
        exact hb.2.2 s hsn
      · rw [e]; exact hb.2.2 s hsn
    · intro j hj hal
      by_cases e : j = i
      · subst e
        rcases hdd with e | e
        · rw [e]
          exact ⟨v, by show (a.tmps.setIfInBounds (d j) v)[d j]? = _; rw [Array.getElem?_setIfInBounds_self_of_lt (by rw [hb.1]; exact hdi)], hsome e⟩
        · obtain ⟨u, hu, hR⟩ := hnone e
          rw [e]
          exact ⟨u, hu, hR⟩
      · have hki : kl i j = false := hal i hi1 (by
          rw [Array.getD_eq_getD_getElem?, Array.getElem?_setIfInBounds_self_of_lt (by omega)]; rfl)
        have hj2 : (j < ops.size ∧ listed.getD j false = true) ∨ (ops.size ≤ j ∧ j < ops.size + m) := by
          rcases hj with ⟨h1, h2⟩ | h
          · exact .inl ⟨h1, hold j e h2⟩
          · exact .inr h
        obtain ⟨u, hu, hru⟩ := hl j hj2 fun q hq hql => hal q hq (hnew q hql)
        have hnot : ∀ oj, ops[j]? = some oj → ∀ e ∈ oj.after, Region.binds md e = true → e.on ≠ i := fun oj hoj ed he hbd e3 => by
          rcases hj2 with ⟨h1, h2⟩ | ⟨h1, h2⟩
          · have := hcl j oj hoj h2 ed he hbd
            rw [e3, hi2'] at this
            cases this
          · rw [Array.getElem?_eq_none h1] at hoj; cases hoj
        rcases hdd with e2 | e2
        · rw [e2]
          refine ⟨u, ?_, hkeep j u e hki hnot hru⟩
          show (a.tmps.setIfInBounds (d i) v)[d j]? = _
          have hne : d i ≠ d j := fun h => by
            rcases hj2 with ⟨h1, h2⟩ | ⟨h1, h2⟩
            · obtain ⟨oj, hoj⟩ : ∃ oj, ops[j]? = some oj := ⟨_, Array.getElem?_eq_getElem h1⟩
              obtain ⟨ed, he1, he2, he3⟩ := hinj i j o oj ho hoj e h e2
              have := hcl j oj hoj h2 ed he1 he2
              rw [he3, hi2'] at this
              cases this
            · exact hext i o j ho h1 h2 h
          rw [Array.getElem?_setIfInBounds_ne hne]
          exact hu
        · rw [e2]
          exact ⟨u, hu, hkeep j u e hki hnot hru⟩
    · intro j oj hoj hjl ed he hbd
      by_cases e : j = i
      · subst e
        rw [ho] at hoj
        cases hoj
        exact hnew _ (hi3 ed he hbd)
      · exact hnew _ (hcl j oj hoj (hold j e hjl) ed he hbd)
    · have hlt : (List.range ops.size).countP (fun k => !(listed.setIfInBounds i true).getD k true) < (List.range ops.size).countP (fun k => !listed.getD k true) := by
        refine countP_lt _ (fun k hk hq => ?_) ⟨i, List.mem_range.2 hi1, by rw [hi2]; rfl, ?_⟩
        · by_cases e : k = i
          · subst e
            rw [Array.getD_eq_getD_getElem?, Array.getElem?_setIfInBounds_self_of_lt (by omega)] at hq
            simp at hq
          · have : (listed.setIfInBounds i true)[k]? = listed[k]? := Array.getElem?_setIfInBounds_ne (fun h => e h.symm)
            rw [Array.getD_eq_getD_getElem?] at hq ⊢
            rwa [this] at hq
        · rw [Array.getD_eq_getD_getElem?, Array.getElem?_setIfInBounds_self_of_lt (by omega)]
          rfl
      omega

/-- From the beginning, what is asked of the table by computing; no guards. -/
theorem region_rule6 {id : Nat} (n N m : Nat) (kl : Nat → Nat → Bool) (d : Nat → Nat) (R : Nat → Value → World → Prop) (I : World → Prop) (a0 : Act) (w0 : World) (hm : P.follows .mixedOrders = true) (hn : ops.size = n) (hN : a0.tmps.size = N)
    (ht : ((List.range n).all fun i => ((ops[i]?).map fun o => (o.dst == some (d i) || o.dst == none) && decide (d i < N) && o.guard.isNone && o.after.all fun e => !Region.binds .any e || decide (e.on < i)).getD false) = true)
    (hinj : ((List.range n).all fun i => (List.range n).all fun j => !(d i == d j) || (i == j) || (((ops[i]?).map fun o => o.dst == none).getD false) || (((ops[j]?).map fun o => o.after.any fun e => Region.binds .any e && (e.on == i)).getD false)) = true)
    (hext : ((List.range n).all fun i => (List.range m).all fun x => !(d i == d (n + x))) = true)
    (hI0 : I w0.drew) (hE0 : ∀ x, n ≤ x → x < n + m → Has d R x a0 w0.drew)
    (hstep : ∀ i o, i < n → ops[i]? = some o → o.guard = none → (o.dst = some (d i) ∨ o.dst = none) → ∀ a w, Base d n a0 a → I w →
      (∀ j, ((o.after.any fun e => Region.binds .any e && (e.on == j)) || (decide (n ≤ j) && decide (j < n + m))) = true → ((List.range n).all fun q => !(kl q j) || (q == i) || ((ops[q]?).map fun o => o.after.any fun e => Region.binds .any e && (e.on == i)).getD false) = true → Has d R j a w) →
      ∀ K : Act → World → Prop, (∀ v w', I w' → (o.dst = some (d i) → R i v w') → (o.dst = none → ∃ u, a.tmps[d i]? = some u ∧ R i u w') → (∀ j u, j ≠ i → kl i j = false → ((ops[j]?).map fun o => o.after.any fun e => Region.binds .any e && (e.on == i)).getD false = false → R j u w → R j u w') → K (a.put o.dst v) w') → wpOp P ops Q i K a w)
    (hend : ∀ a w, Base d n a0 a → I w → (∀ i, i < n + m → ((List.range n).all fun j => !(kl j i)) = true → Has d R i a w) → Q .normal a w) : (Code.region id ops true).wp P Q a0 w0 := by
  subst hn
  subst hN
  have hlt : ∀ i o, ops[i]? = some o → i < ops.size := fun i o h => by
    rcases Nat.lt_or_ge i ops.size with hl | hl
    · exact hl
    · rw [Array.getElem?_eq_none hl] at h; cases h
  have key : ∀ i o, ops[i]? = some o → (o.dst = some (d i) ∨ o.dst = none) ∧ d i < a0.tmps.size ∧ o.guard = none ∧ ∀ e ∈ o.after, Region.binds .any e = true → e.on < i := by
    intro i o ho
    have h := List.all_eq_true.1 ht i (List.mem_range.2 (hlt i o ho))
    rw [ho] at h
    simp only [Option.map_some, Option.getD_some, Bool.and_eq_true, Bool.or_eq_true, beq_iff_eq, decide_eq_true_eq, Option.isNone_iff_eq_none] at h
    obtain ⟨⟨⟨h1, h2⟩, h3⟩, h4⟩ := h
    refine ⟨h1, h2, h3, fun e he hb => ?_⟩
    have := Array.all_eq_true_iff_forall_mem.1 h4 e he
    rw [hb] at this
    simpa using this
  refine wp_region_any hm (any_rule6 (P := P) (md := .any) d R I a0 m kl (fun i o ho => ⟨(key i o ho).1, (key i o ho).2.1⟩) (fun i j oi oj hoi hoj hne e hdst => ?_) (fun i o x ho h1 h2 => ?_) (fun i o ho => (key i o ho).2.2.2) (fun i o ho a w hb hI hdep K hK => ?_) (fun a w hb hI hall => hend a w hb hI fun i hi hk => hall i hi fun j hj => by have := List.all_eq_true.1 hk j (List.mem_range.2 hj); simpa using this) ops.size _ a0 _ (by simp) ⟨rfl, rfl, fun _ _ => rfl⟩ hI0 ?_ ?_ ?_)
  · have h := List.all_eq_true.1 (List.all_eq_true.1 hinj i (List.mem_range.2 (hlt i oi hoi))) j (List.mem_range.2 (hlt j oj hoj))
    rw [hoi, hoj, e] at h
    simp only [beq_self_eq_true, Bool.not_true, Bool.false_or, Option.map_some, Option.getD_some, Bool.or_eq_true, beq_iff_eq] at h
    rcases h with (h | h) | h
    · exact absurd h.symm hne
    · rw [h] at hdst; cases hdst
    · rw [Array.any_eq_true] at h
      obtain ⟨k, hk, h2⟩ := h
      simp only [Bool.and_eq_true, beq_iff_eq] at h2
      exact ⟨_, Array.getElem_mem hk, h2.1, h2.2⟩
  · have h := List.all_eq_true.1 (List.all_eq_true.1 hext i (List.mem_range.2 (hlt i o ho))) (x - ops.size) (List.mem_range.2 (by omega))
    rw [show ops.size + (x - ops.size) = x by omega] at h
    simpa using h
  · refine hstep i o (hlt i o ho) ho (key i o ho).2.2.1 (key i o ho).1 a w hb hI (fun j hj hk => hdep j ?_ fun q hq hkq => ?_) K (fun v w' h1 h2 h3 h4 => hK v w' h1 h2 h3 fun j u hj hk hnot => h4 j u hj hk ?_)
    · rw [Bool.or_eq_true] at hj
      rcases hj with hj | hj
      · rw [Array.any_eq_true] at hj
        obtain ⟨k, hk, h2⟩ := hj
        simp only [Bool.and_eq_true, beq_iff_eq] at h2
        exact .inl ⟨_, Array.getElem_mem hk, h2.1, h2.2⟩
      · exact .inr (by simpa using hj)
    · have h := List.all_eq_true.1 hk q (List.mem_range.2 hq)
      rw [hkq, Array.getElem?_eq_getElem hq] at h
      simp only [Bool.not_true, Bool.false_or, Option.map_some, Option.getD_some, Bool.or_eq_true, beq_iff_eq] at h
      rcases h with h | h
      · exact .inl h
      · rw [Array.any_eq_true] at h
        obtain ⟨k, hk', h2⟩ := h
        simp only [Bool.and_eq_true, beq_iff_eq] at h2
        exact .inr ⟨_, Array.getElem?_eq_getElem hq, _, Array.getElem_mem hk', h2.1, h2.2⟩
    · cases hoj : ops[j]? with
      | none => rfl
      | some oj =>
        rw [Option.map_some, Option.getD_some]
        cases hx : (oj.after.any fun e => Region.binds .any e && (e.on == i)) with
        | false => rfl
        | true =>
          rw [Array.any_eq_true] at hx
          obtain ⟨k, hk', h5⟩ := hx
          simp only [Bool.and_eq_true, beq_iff_eq] at h5
          exact absurd h5.2 (hnot oj hoj _ (Array.getElem_mem hk') h5.1)
  · intro i hi _
    rcases hi with ⟨hi, h⟩ | ⟨h1, h2⟩
    · rw [Array.getD_eq_getD_getElem?] at h
      simp [hi] at h
    · exact hE0 i h1 h2
  · intro i o ho h
    have hi := hlt i o ho
    rw [Array.getD_eq_getD_getElem?] at h
    simp [hi] at h
  · exact Nat.le_trans List.countP_le_length (by simp)

end

end Go.Proofs.Ytenccpccpjjkmaa

namespace Go.Proofs.Ytenccpccpjjkmaa
open Go.RowKit
set_option linter.unusedVariables false

theorem emod_tmod {i n : Int} (h : 0 < n) (h0 : -n < i.tmod n) (h1 : i.tmod n ≤ 0) : i % n = if i.tmod n < 0 then i.tmod n + n else i.tmod n := by
  have e : i % n = (i.tmod n) % n := by
    have := Int.tmod_add_mul_tdiv i n
    conv => lhs; rw [← this]
    exact Int.add_mul_emod_self_left _ _ _
  rw [e]
  split
  · rw [← Int.add_emod_right, Int.emod_eq_of_lt (by omega) (by omega)]
  · rw [Int.emod_eq_of_lt (by omega) (by omega)]
set_option maxHeartbeats 400000 in
theorem bringF_any (i n : Int) (w : World) (h : 0 < n) (hn : n ≤ 9223372036854775807) (hi0 : -9223372036854775808 ≤ i) (hi1 : i ≤ 9223372036854775807) :
    Calls Try.prog 11 #[.int .i64 i, .int .i64 n] w fun e w' => e = .returned (.int .i64 (i % n)) ∧ w' = w := by
  have hz : (n == 0) = false := by simp; omega
  by_cases h0 : 0 ≤ i
  · have hm0 := Int.emod_nonneg i (by omega : n ≠ 0)
    have hm1 := Int.emod_lt_of_pos i h
    go_enter Try.func11, Try.ntmps11
    go_wp2
    go_ret
    exact ⟨rfl, rfl⟩
  · have ht : i.tmod n = -((-i) % n) := by
      have e1 : (-i).tmod n = -(i.tmod n) := Int.neg_tmod i n
      have e2 : (-i).tmod n = (-i) % n := Int.tmod_eq_emod_of_nonneg (by omega)
      omega
    have hm0 := Int.emod_nonneg (-i) (by omega : n ≠ 0)
    have hm1 := Int.emod_lt_of_pos (-i) h
    have hl0 : i.tmod n ≤ 0 := by omega
    have hl1 : -n < i.tmod n := by omega
    have hem := Lib.hid (emod_tmod h hl1 hl0)
    clear hm0 hm1 ht
    by_cases hs : i.tmod n < 0
    · go_enter Try.func11, Try.ntmps11
      go_wp2
      go_ret
      exact ⟨by rw [hem.out, if_pos hs]; rfl, rfl⟩
    · go_enter Try.func11, Try.ntmps11
      go_wp2
      go_ret
      exact ⟨by rw [hem.out, if_neg (by omega)]; rfl, rfl⟩
end Go.Proofs.Ytenccpccpjjkmaa

namespace Go.Proofs.Ytenccpccpjjkmaa
open Go.RowKit Go.Shelf Go.Sort Go.Maps CrewP
set_option linter.unusedVariables false
set_option linter.unusedSimpArgs false

theorem bring_w (i n : Int) (w : World) (h : 0 < n) (hn : n ≤ 9223372036854775807) (hi : Wf i) : Calls Try.prog 11 #[.int .i64 i, .int .i64 n] w fun e w' => e = .returned (.int .i64 (i % n)) ∧ w' = w :=
  bringF_any i n w h hn (bounds_i64 hi).1 (bounds_i64 hi).2
theorem word_at (w : World) (b o : Nat) (n c : Nat) (i : Nat) (hi : i < n) : (Instr.indexAt 45 (.slice (some ⟨b, o, none⟩) n c) (.int .i64 (i : Int))).run Try.prog w = .ok (.pointer (some ⟨b, o + i * 3, none⟩)) w := by
  have hr := run_indexAt_slice (P := Try.prog) (w := w) 45 ⟨b, o, none⟩ n c .i64 (i : Int) (by kernel_rfl)
  rw [if_pos (by omega)] at hr
  refine hr.trans ?_
  have h33 : (sizeOf (Try.prog.elem 45)).run Try.prog w = .ok 3 w := by kernel_rfl
  rw [h33, Int.toNat_natCast]
  simp only [Result.andThen_ok, add_mk]
theorem bits_one (b : UInt8) : bits BinOp.and IntKind.u8 (b.toNat : Int) 1 = ((b &&& 1).toNat : Int) := by
  have h : ∀ n : Nat, n < 256 → bits BinOp.and IntKind.u8 (n : Int) 1 = ((n &&& 1 : Nat) : Int) := by decide +kernel
  rw [h b.toNat b.toNat_lt, UInt8.toNat_and]
  rfl
section
variable {w0 w w' wA : World} {g : Nat} {m : Ms} {V : List (Nat × Mk)}
theorem Out.mono' {S S' : Nat → Prop} (h : Out S w w') (hs : ∀ i, S i → S' i) : Out S' w w' := (Out.refl S' w).trans h fun i _ hi => hs i hi
theorem Aw.raiseB (h : Aw w0 wA g m V) (hb : Below wA.heap.size wA w) (x : Mk) {E : Int} (hE : riseE m x = E) :
    Calls Try.prog 14 #[.pointer (some ⟨g, 0, none⟩), .agg (mkC x).toArray] w fun e w' => e = .returned (.int .i64 E) ∧ Aw w0 w' g (riseS m x) V ∧ Out (fun b => b < wA.heap.size) w w' := by
  obtain ⟨U, h1, h2, h3, h4⟩ := h
  obtain ⟨_, _, _, _, _, h5⟩ := h1.below hb
  have h3' := h3.trans (hb.mono h3.size)
  have h4' : ∀ p ∈ V, Blk w p.1 28 (mkC p.2) ∧ ¬ U p.1 ∧ w0.heap.size ≤ p.1 := fun p hp => ⟨(h4 p hp).1.below hb (h4 p hp).1.lt, (h4 p hp).2⟩
  exact (raise_in h5 x E hE).mono fun e w' ⟨he, h6, h7⟩ => ⟨he, Aw.grow h2 h3' h4' h6 h7, h7.mono' fun i hi => h1.lt i hi⟩
theorem Aw.ofB (h : Aw w0 w g m V) {n : Int} (hn : Wf n) :
    Calls Try.prog 22 #[.pointer (some ⟨g, 0, none⟩), .int .i64 n] w fun e w' => ∃ A k c, e = .returned (.slice A k c) ∧ ShM w' A (m.told n) ∧ (m.told n).length = k ∧ (∀ b, blkOf A b → w.heap.size ≤ b) ∧ Below w.heap.size w w' := by
  obtain ⟨U, ⟨_, _, _, _, _, h1⟩, h2, h3, h4⟩ := h
  refine (of_in h1 hn).mono ?_
  rintro e w' ⟨v', rfl, h5, h6⟩
  rcases h5 with ⟨rfl, e5⟩ | ⟨s, rfl, hr, hs⟩
  · exact ⟨_, _, _, rfl, by rw [e5]; exact ShM.nil _ _, by rw [e5]; rfl, (fun b ⟨a, ha, _⟩ => by cases ha), h6⟩
  · exact ⟨_, _, _, rfl, hr.sh, hr.len, (fun b ⟨a, ha, hb⟩ => by cases ha; subst hb; exact hs), h6⟩
theorem ShM.out {S : Nat → Prop} {A : Option Addr} {l : List Mk} (h : ShM w A l) (ho : Out S w w') (hS : ∀ b, blkOf A b → ¬ S b) : ShM w' A l := fun hl => by
  obtain ⟨b, o, rfl, h1, h2⟩ := h hl
  refine ⟨b, o, rfl, Nat.lt_of_lt_of_le h1 ho.size, fun j u hu => ?_⟩
  have hb := ho.block b h1 (hS b ⟨_, rfl, rfl⟩)
  have := h2 j u hu
  unfold World.cell? at *
  first | (rw [hb]; exact this) | (simp only [hb]; exact this) | (simpa [hb] using this)
end
/-- The rows of which the first k are those of the nodes 1 to k. -/
def WasIn (B : Nat) (w : World) (m : Ms) (cs : List Value) (k : Nat) : Prop := cs.length = 5 ∧ ∀ j : Nat, 1 ≤ j → j < k → ∃ A n c, cs[j]? = some (.slice A n c) ∧ ShM w A (m.told (j : Int)) ∧ (m.told (j : Int)).length = n ∧ ∀ b, blkOf A b → B ≤ b
theorem WasIn.below {B : Nat} {w w' : World} {m : Ms} {cs : List Value} {k : Nat} (h : WasIn B w m cs k) (hb : Below w.heap.size w w') : WasIn B w' m cs k :=
  ⟨h.1, fun j h1 h2 => let ⟨A, n, c, e1, e2, e3, e4⟩ := h.2 j h1 h2; ⟨A, n, c, e1, e2.below hb, e3, e4⟩⟩
theorem WasIn.out {B : Nat} {w w' : World} {m : Ms} {cs : List Value} {k : Nat} {S : Nat → Prop} (h : WasIn B w m cs k) (ho : Out S w w') (hS : ∀ b, S b → b < B) : WasIn B w' m cs k :=
  ⟨h.1, fun j h1 h2 => let ⟨A, n, c, e1, e2, e3, e4⟩ := h.2 j h1 h2; ⟨A, n, c, e1, e2.out ho (fun b hb hs => by have := e4 b hb; have := hS b hs; omega), e3, e4⟩⟩
theorem WasIn.add {B : Nat} {w : World} {m : Ms} {cs : List Value} {k : Nat} (h : WasIn B w m cs k) (hk : k < 5) {A : Option Addr} {n c : Nat} (h1 : ShM w A (m.told (k : Int))) (h2 : (m.told (k : Int)).length = n) (h3 : ∀ b, blkOf A b → B ≤ b) : WasIn B w m (cs.set k (.slice A n c)) (k + 1) := by
  refine ⟨by rw [List.length_set]; exact h.1, fun j hj1 hj2 => ?_⟩
  by_cases e : j = k
  · subst e
    exact ⟨A, n, c, by rw [List.getElem?_set_self (by rw [h.1]; exact hk)], h1, h2, h3⟩
  · rw [List.getElem?_set_ne (fun h => e h.symm)]
    exact h.2 j hj1 (by omega)

theorem row_sh {w : World} {A : Option Addr} {n cap : Nat} {l : List Mk} (h : RowK w 28 33 A n cap (mks l)) (hl : l.length = n) : ShM w A l := fun hn => by
  obtain ⟨r, e, h1, h2, _⟩ := h.cells (by omega)
  exact ⟨r, 0, e, h1, fun j u hu => by rw [Nat.zero_add]; exact h2 j u hu⟩
theorem marks_at (w : World) (b o : Nat) (n c : Nat) (i : Nat) (hi : i < n) : (Instr.indexAt 54 (.slice (some ⟨b, o, none⟩) n c) (.int .i64 (i : Int))).run Try.prog w = .ok (.pointer (some ⟨b, o + i * 33, none⟩)) w := by
  have hr := run_indexAt_slice (P := Try.prog) (w := w) 54 ⟨b, o, none⟩ n c .i64 (i : Int) (by kernel_rfl)
  rw [if_pos (by omega)] at hr
  refine hr.trans ?_
  have h33 : (sizeOf (Try.prog.elem 54)).run Try.prog w = .ok 33 w := by kernel_rfl
  rw [h33, Int.toNat_natCast]
  simp only [Result.andThen_ok, add_mk]

/-! ### Raise, over plain marks -/
structure RsI (m : Ms) : Prop where
  ok : m.ok
  f : m.f = 1
  ns : m.ns = ndL 4
  lo : m.lo = mk0
theorem RsI.fresh : RsI (fr 1) := ⟨fr_ok (by omega) (by omega), rfl, rfl, rfl⟩
theorem RsI.vote {m : Ms} (h : RsI m) (n : Int) (x : Mk) : RsI (voteS m n x) := by
  obtain ⟨h1, h2, h3⟩ := voteS_f m n x
  exact ⟨voteS_ok h.ok n x, h1.trans h.f, h2.trans h.ns, h3.trans h.lo⟩
theorem RsI.rise {m : Ms} (h : RsI m) {x : Mk} (h0 : 0 ≤ x.s) (h1 : x.s ≤ 100) : riseE m x = 0 := by
  unfold riseE
  rw [h.lo, if_neg (by show ¬ (x.s < 0 ∨ _); omega)]
theorem rise_told {m : Ms} {x : Mk} (h : riseE m x = 0) (n : Int) : (riseS m x).told n = abv x.s (m.told n) := by unfold riseS; rw [if_pos h]
theorem rise_lo {m : Ms} {x : Mk} (h : riseE m x = 0) : (riseS m x).lo = x ∧ (riseS m x).f = m.f ∧ (riseS m x).ns = m.ns := by unfold riseS; rw [if_pos h]; exact ⟨rfl, rfl, rfl⟩
theorem rise_above {m : Ms} {x z : Mk} (h : riseE m x = 0) {many : Int} (hm : 1 ≤ many) (hg : greatS (riseS m x) many = some z) : x.s < z.s := by
  obtain ⟨hc, _⟩ := great_some hg
  have hz := cnt_pos.1 (show 0 < cnt (riseS m x) z by omega)
  unfold allM at hz
  obtain ⟨n, _, hn⟩ := List.mem_flatMap.1 hz
  rw [rise_told h] at hn
  unfold abv at hn
  have := (List.mem_filter.1 hn).2
  simp at this
  exact this
theorem rise_vote {m : Ms} (h : RsI m) {x : Mk} (hE : riseE m x = 0) : voteE (riseS m x) 1 x = 9 := by
  obtain ⟨h1, _, h3⟩ := rise_lo hE
  unfold voteE
  rw [h3, h.ns, if_neg (by decide), h1, if_pos (by omega)]
theorem abv_step {s : Int} (l : List Mk) {i : Nat} (hi : i < l.length) : abv s (l.take (i + 1)) = abv s (l.take i) ++ (if s < l[i].s then [l[i]] else []) := by
  have e : l.take (i + 1) = l.take i ++ [l[i]] := by rw [List.take_append_getElem hi]
  rw [e]
  unfold abv
  rw [List.filter_append]
  congr 1
  by_cases h : s < l[i].s
  · rw [if_pos h, List.filter_cons_of_pos (by simp; exact h)]; rfl
  · rw [if_neg h, List.filter_cons_of_neg (by simp; omega)]; rfl
end Go.Proofs.Ytenccpccpjjkmaa

namespace Go.Proofs.Ytenccpccpjjkmaa
open Go.ChangeShapes Go.WideShapes Go.ChangeAt Go.RowKit
set_option linter.unusedVariables false
set_option linter.unusedSimpArgs false

theorem choose_any {α : Type} {P : Nat → α → Prop} : ∀ n, (∀ r, r < n → ∃ l, P r l) → ∃ ls : List α, ls.length = n ∧ ∀ j (hj : j < ls.length), P j ls[j]
  | 0, _ => ⟨[], rfl, fun j hj => by simp at hj⟩
  | n + 1, h => by
    obtain ⟨ls, hl, hls⟩ := choose_any n (fun r hr => h r (by omega))
    obtain ⟨l, hl'⟩ := h n (by omega)
    refine ⟨ls ++ [l], by simp [hl], fun j hj => ?_⟩
    by_cases hjn : j < ls.length
    · rw [List.getElem_append_left hjn]; exact hls j hjn
    · have : j = n := by simp at hj; omega
      subst this
      rw [List.getElem_append_right (by omega)]
      simpa [hl] using hl'
section
variable {H : Type} {enc : TypeId × Value → H} {w : World}
theorem trod_dg {fuel : Nat} {cs : List Value} {x : DataW H × List MemPlace} (h : DataW.trod enc Try.prog w 0 (fun _ => true) true fuel 26 cs = some x) : ∃ d : List UInt8, d.length = 32 ∧ ∀ i, i < 32 → cs[i]? = (cbs d)[i]? := by
  obtain ⟨ys, m, _, _, _, hlen, hel⟩ := DataW.trod_array Try.underlying26 h
  have hc : Try.prog.cellsOf 5 = 1 := by kernel_rfl
  have key : ∀ i, i < 32 → ∃ b : UInt8, cs[i]? = some (cb b) := fun i hi => by
    have h1 := hel i hi
    have hy : ∃ y, ys[i]? = some y := ⟨_, List.getElem?_eq_getElem (by omega)⟩
    obtain ⟨y, hy⟩ := hy
    rw [hc, hy, Nat.mul_one] at h1
    obtain ⟨a, ea, _, wa⟩ := DataW.trod_int Try.underlying5 h1
    refine ⟨UInt8.ofNat a.toNat, (one_of ea).trans ?_⟩
    show some (Value.int .u8 a) = some (Value.int .u8 (((UInt8.ofNat a.toNat).toNat : Nat) : Int))
    rw [← wf_u8 wa]
  obtain ⟨d, hd, hds⟩ := choose_any 32 key
  refine ⟨d, hd, fun i hi => ?_⟩
  rw [hds i (by omega), cbs_get, List.getElem?_eq_getElem (by omega)]
  rfl

set_option maxRecDepth 100000 in
theorem trod_mark {fuel : Nat} {cs : List Value} {x : DataW H × List MemPlace} (h : DataW.trod enc Try.prog w 0 (fun _ => true) true fuel 28 cs = some x) : ∃ y : Mk, ∀ i, i < 33 → cs[i]? = (mkC y)[i]? := by
  obtain ⟨xs, n, _, _, _, hlen, hg⟩ := DataW.trod_struct Try.underlying28 h
  have c1 : Try.prog.cellsOf 3 = 1 := by kernel_rfl
  have c2 : Try.prog.cellsOf 26 = 32 := by kernel_rfl
  have g0 : DataW.trod enc Try.prog w 0 (fun _ => true) true n 3 ((cs.drop 0).take (Try.prog.cellsOf 3)) = xs[0]? := hg 0 _ rfl
  have g1 : DataW.trod enc Try.prog w 0 (fun _ => true) true n 26 ((cs.drop 1).take (Try.prog.cellsOf 26)) = xs[1]? := hg 1 _ rfl
  rw [c1] at g0
  rw [c2] at g1
  have hl2 : xs.length = 2 := hlen
  obtain ⟨y0, e0⟩ : ∃ y, xs[0]? = some y := ⟨_, List.getElem?_eq_getElem (by omega)⟩
  obtain ⟨y1, e1⟩ : ∃ y, xs[1]? = some y := ⟨_, List.getElem?_eq_getElem (by omega)⟩
  rw [e0] at g0
  rw [e1] at g1
  obtain ⟨a0, q0, _, w0⟩ := DataW.trod_int Try.underlying3 g0
  obtain ⟨d, hd, hds⟩ := trod_dg g1
  refine ⟨⟨a0, d, w0, hd⟩, fun i hi => ?_⟩
  match i, hi with
  | 0, _ => exact one_of q0
  | i + 1, hi =>
    have := hds i (by omega)
    rw [List.getElem?_take, if_pos (by omega), List.getElem?_drop, Nat.add_comm] at this
    exact this
set_option maxRecDepth 100000 in
theorem openMk {v : Value} {r : Reach} {b0 : Nat} {d : DataW H} {p : List MemPlace} (hv : Value.okWide Try.prog w r b0 28 v) (h : DataW.Trod enc Try.prog w 0 (fun _ => true) true 28 v d p) : ∃ y : Mk, v = .agg (mkC y).toArray := by
  obtain ⟨cs, rfl, hsz⟩ := okWide_struct Try.underlying28 hv
  obtain ⟨fuel, hf⟩ := h
  obtain ⟨y, hy⟩ := trod_mark hf
  have hs : cs.size = 33 := by rw [hsz]; kernel_rfl
  refine ⟨y, ?_⟩
  congr 1
  apply Array.toList_inj.1
  apply List.ext_getElem?
  intro i
  by_cases hi : i < 33
  · exact hy i hi
  · rw [List.getElem?_eq_none (by simp; omega), List.getElem?_eq_none (by rw [List.toList_toArray, mkC_len]; omega)]
/-- A call: its kind, a node, a mark. -/
structure DoM where
  kd : Int
  nd : Int
  x : Mk
def DmAt (w : World) (b o : Nat) (y : DoM) : Prop := Wf y.kd ∧ Wf y.nd ∧ w.cell? ⟨b, o, none⟩ = some (.int .i64 y.kd) ∧ w.cell? ⟨b, o + 1, none⟩ = some (.int .i64 y.nd) ∧ w.rangeAt b (o + 2) (mkC y.x)
def ArgDm (w : World) (A : Option Addr) (n c : Nat) (l : List DoM) : Prop := l.length = n ∧ n ≤ c ∧ c ≤ maxLen ∧ (l ≠ [] → ∃ b off, A = some ⟨b, off, none⟩ ∧ b < w.heap.size ∧ ∀ j (hj : j < l.length), DmAt w b (off + j * 35) l[j])
theorem DmAt.after {w' : World} {b o : Nat} {x : DoM} (h : DmAt w b o x) (hb : Below w.heap.size w w') (hlt : b < w.heap.size) : DmAt w' b o x := by
  obtain ⟨h0, h0', h1, h2, h3⟩ := h
  exact ⟨h0, h0', (hb.cell hlt).trans h1, (hb.cell hlt).trans h2, fun j u hu => (hb.cell (p := ⟨b, o + 2 + j, none⟩) hlt).trans (h3 j u hu)⟩
theorem ArgDm.after {w' : World} {A : Option Addr} {n c : Nat} {l : List DoM} (h : ArgDm w A n c l) (hb : Below w.heap.size w w') : ArgDm w' A n c l :=
  ⟨h.1, h.2.1, h.2.2.1, fun hn => let ⟨b, off, e, hlt, hd⟩ := h.2.2.2 hn; ⟨b, off, e, Nat.lt_of_lt_of_le hlt hb.size, fun j hj => (hd j hj).after hb hlt⟩⟩
theorem ArgDm.at_ {A : Option Addr} {n c : Nat} {l : List DoM} (h : ArgDm w A n c l) {j : Nat} (hj : j < l.length) : ∃ b off, A = some ⟨b, off, none⟩ ∧ b < w.heap.size ∧ DmAt w b (off + j * 35) l[j] := by
  obtain ⟨b, off, e, hlt, hd⟩ := h.2.2.2 (fun e => by rw [e] at hj; simp at hj)
  exact ⟨b, off, e, hlt, hd j hj⟩
set_option maxRecDepth 100000 in
theorem trod_dom {fuel : Nat} {cs : List Value} {x : DataW H × List MemPlace} (h : DataW.trod enc Try.prog w 0 (fun _ => true) true fuel 39 cs = some x) :
    ∃ y : DoM, Wf y.kd ∧ Wf y.nd ∧ cs[0]? = some (.int .i64 y.kd) ∧ cs[1]? = some (.int .i64 y.nd) ∧ ∀ i, i < 33 → cs[2 + i]? = (mkC y.x)[i]? := by
  obtain ⟨xs, n, _, _, _, hlen, hg⟩ := DataW.trod_struct Try.underlying39 h
  have c1 : Try.prog.cellsOf 3 = 1 := by kernel_rfl
  have c2 : Try.prog.cellsOf 28 = 33 := by kernel_rfl
  have g0 : DataW.trod enc Try.prog w 0 (fun _ => true) true n 3 ((cs.drop 0).take (Try.prog.cellsOf 3)) = xs[0]? := hg 0 _ rfl
  have g1 : DataW.trod enc Try.prog w 0 (fun _ => true) true n 3 ((cs.drop 1).take (Try.prog.cellsOf 3)) = xs[1]? := hg 1 _ rfl
  have g2 : DataW.trod enc Try.prog w 0 (fun _ => true) true n 28 ((cs.drop 2).take (Try.prog.cellsOf 28)) = xs[2]? := hg 2 _ rfl
  rw [c1] at g0 g1
  rw [c2] at g2
  have hl3 : xs.length = 3 := hlen
  obtain ⟨y0, e0⟩ : ∃ y, xs[0]? = some y := ⟨_, List.getElem?_eq_getElem (by omega)⟩
  obtain ⟨y1, e1⟩ : ∃ y, xs[1]? = some y := ⟨_, List.getElem?_eq_getElem (by omega)⟩
  obtain ⟨y2, e2⟩ : ∃ y, xs[2]? = some y := ⟨_, List.getElem?_eq_getElem (by omega)⟩
  rw [e0] at g0
  rw [e1] at g1
  rw [e2] at g2
  obtain ⟨a0, q0, _, w0⟩ := DataW.trod_int Try.underlying3 g0
  obtain ⟨a1, q1, _, w1⟩ := DataW.trod_int Try.underlying3 g1
  obtain ⟨y, hy⟩ := trod_mark g2
  refine ⟨⟨a0, a1, y⟩, w0, w1, one_of q0, one_of q1, fun i hi => ?_⟩
  have := hy i hi
  rw [List.getElem?_take, if_pos hi, List.getElem?_drop] at this
  exact this
set_option maxRecDepth 100000 in
theorem openDm {A : Option Addr} {n c : Nat} {d : DataW H} {p : List MemPlace} (h : DataW.Trod enc Try.prog w 0 (fun _ => true) true 29 (.slice A n c) d p) : ∃ l, ArgDm w A n c l := by
  obtain ⟨fuel, hf⟩ := h
  have hC : Try.prog.cellsOf 39 = 35 := by kernel_rfl
  rcases Go.Deep.open_slice Try.underlying29 hf with ⟨hcs, _⟩ | ⟨a, len, cap, m, k, D, Pl, hcs, _, hl, hm, hmm, _, hi⟩
  · simp [Value.cells] at hcs
    obtain ⟨rfl, rfl, rfl⟩ := hcs
    exact ⟨[], rfl, Nat.le_refl _, by simp [maxLen], fun hn => absurd rfl hn⟩
  · simp [Value.cells] at hcs
    obtain ⟨rfl, rfl, rfl⟩ := hcs
    rw [hC] at hi
    have hm' : n ≤ m := by rw [hmm]; simp; omega
    rcases Nat.eq_zero_or_pos n with h0 | hpos
    · subst h0
      exact ⟨[], rfl, hl, hm, fun hn => absurd rfl hn⟩
    have hs : a.spot = none := by
      obtain ⟨cs', hc, ht⟩ := hi 0 (by omega)
      obtain ⟨x, _, _, k0, _⟩ := trod_dom ht
      obtain ⟨_, _, hat⟩ := World.cells?_some hc
      have h1 := hat 0 (by omega)
      rw [k0] at h1
      have e : a.add (0 * 35) = a := by unfold Addr.add; simp
      rw [e] at h1
      exact spot_of h1
    obtain ⟨b, off, spot⟩ := a
    simp only at hs
    subst hs
    have key : ∀ r, r < n → ∃ x : DoM, DmAt w b (off + r * 35) x := fun r hr => by
      obtain ⟨cs', hc, ht⟩ := hi r (by omega)
      obtain ⟨x, h0, h0', k0, k1, k2⟩ := trod_dom ht
      obtain ⟨_, _, hat⟩ := World.cells?_some hc
      have hat' : ∀ j, j < 35 → w.cell? ⟨b, off + r * 35 + j, none⟩ = cs'[j]? := fun j hj => by
        have := hat j hj
        rw [add_mk, add_mk] at this
        exact this
      exact ⟨x, h0, h0', (hat' 0 (by omega)).trans k0, (hat' 1 (by omega)).trans k1, fun j u hu => by
        have hj : j < 33 := by
          rcases Nat.lt_or_ge j (mkC x.x).length with h' | h'
          · rw [mkC_len] at h'; exact h'
          · rw [List.getElem?_eq_none h'] at hu; cases hu
        have := hat' (2 + j) (by omega)
        rw [k2 j hj, hu] at this
        rw [show off + r * 35 + 2 + j = off + r * 35 + (2 + j) by omega]
        exact this⟩
    obtain ⟨ls, hlen, hls⟩ := choose_list n key
    refine ⟨ls, hlen, hl, hm, fun hne => ⟨b, off, rfl, ?_, fun j hj => hls j hj⟩⟩
    have h0 := hls 0 (by omega)
    exact World.block_lt_of_cell? w _ h0.2.2.1
end
section
variable {H : Type} {enc : TypeId × Value → H} {w : World}
set_option maxRecDepth 100000 in
theorem trodI_sized {fuel : Nat} {cs : List Value} {x : DataW H × List MemPlace} {A : Option Addr} {n c : Nat} {l : List Int} (h : DataW.trod enc Try.prog w 0 (fun _ => true) true fuel 22 cs = some x) (hcs : cs = [.slice A n c]) (ha : ArgI w A n c l)
    (hz : ∀ z ∈ x.1.weights Try.prog 22, z ≤ reachBytes) : l.length ≤ 17592186043904 := by
  have hb : Try.prog.bytesOf 3 = 8 := by kernel_rfl
  rcases open_ints Try.underlying22 Try.underlying3 (by kernel_rfl) h with ⟨rfl, _⟩ | ⟨a, n', c', zs, rfl, _, hl, hm, hzl, hx, _⟩
  · injection hcs with e
    injection e with _ e _
    rw [ha.1]; omega
  · injection hcs with e
    injection e with _ e1 e2
    rw [hx] at hz
    simp only [DataW.weights, Try.underlying22, List.mem_cons] at hz
    have h1 := hz _ (.inl rfl)
    rw [hb] at h1
    have hz' : zs.length = c' := by simpa using hzl
    simp only [Go.ChangeShapes.lits, List.length_map, List.length_take, List.length_drop] at h1
    have := ha.1
    simp [reachBytes] at h1
    omega
set_option maxRecDepth 100000 in
theorem openIz {A : Option Addr} {n c : Nat} {d : DataW H} {p : List MemPlace} (h : DataW.Trod enc Try.prog w 0 (fun _ => true) true 22 (.slice A n c) d p) (hz : ∀ z ∈ d.weights Try.prog 22, z ≤ reachBytes) : ∃ l, ArgI w A n c l ∧ l.length ≤ 17592186043904 := by
  obtain ⟨fuel, hf⟩ := h
  obtain ⟨A', n', c', l, e, ha⟩ := trodI hf
  simp [Value.cells] at e
  obtain ⟨rfl, rfl, rfl⟩ := e
  exact ⟨l, ha, trodI_sized hf rfl ha hz⟩
/-- A crew that came in. -/
def ArgC (w : World) (f : Int) (A : Option Addr) (n c : Nat) (l : List Int) : Prop := Wf f ∧ ArgI w A n c l ∧ l.length ≤ 17592186043904
set_option maxRecDepth 100000 in
theorem openCz {v : Value} {r : Reach} {b0 : Nat} {d : DataW H} {p : List MemPlace} (hv : Value.okWide Try.prog w r b0 24 v) (h : DataW.Trod enc Try.prog w 0 (fun _ => true) true 24 v d p) (hz : ∀ z ∈ d.weights Try.prog 24, z ≤ reachBytes) :
    ∃ f A n c l, v = .agg #[.int .i64 f, .slice A n c] ∧ ArgC w f A n c l := by
  obtain ⟨cs, rfl, hsz⟩ := okWide_struct Try.underlying24 hv
  obtain ⟨fuel, hf⟩ := h
  obtain ⟨xs, n, _, hxe, _, hlen, hg⟩ := DataW.trod_struct Try.underlying24 hf
  have c1 : Try.prog.cellsOf 3 = 1 := by kernel_rfl
  have c2 : Try.prog.cellsOf 22 = 1 := by kernel_rfl
  have g0 : DataW.trod enc Try.prog w 0 (fun _ => true) true n 3 ((cs.toList.drop 0).take (Try.prog.cellsOf 3)) = xs[0]? := hg 0 _ rfl
  have g1 : DataW.trod enc Try.prog w 0 (fun _ => true) true n 22 ((cs.toList.drop 1).take (Try.prog.cellsOf 22)) = xs[1]? := hg 1 _ rfl
  rw [c1] at g0
  rw [c2] at g1
  have hl2 : xs.length = 2 := hlen
  obtain ⟨y0, e0⟩ : ∃ y, xs[0]? = some y := ⟨_, List.getElem?_eq_getElem (by omega)⟩
  obtain ⟨y1, e1⟩ : ∃ y, xs[1]? = some y := ⟨_, List.getElem?_eq_getElem (by omega)⟩
  rw [e0] at g0; rw [e1] at g1
  obtain ⟨a0, q0, _, w0⟩ := DataW.trod_int Try.underlying3 g0
  obtain ⟨A, m, c, l, q1, ha⟩ := trodI g1
  have hs2 : cs.size = 2 := by rw [hsz]; kernel_rfl
  refine ⟨a0, A, m, c, l, ?_, w0, ha, trodI_sized g1 q1 ha fun z hzz => hz z ?_⟩
  · congr 1
    apply Array.toList_inj.1
    apply List.ext_getElem?
    intro i
    match i with
    | 0 => exact one_of q0
    | 1 => exact one_of q1
    | i + 2 => rw [List.getElem?_eq_none (by simp; omega), List.getElem?_eq_none (by simp)]
  · injection hxe with hxe _
    rw [hxe]
    have hxs : xs = [y0, y1] := by
      apply List.ext_getElem?
      intro i
      match i with
      | 0 => exact e0
      | 1 => exact e1
      | i + 2 => rw [List.getElem?_eq_none (by omega), List.getElem?_eq_none (by simp)]
    rw [hxs]
    simp only [List.map_cons, List.map_nil, DataW.weights, Try.underlying24, DataW.weightsEach, List.mem_append]
    exact .inr (.inl hzz)
end
end Go.Proofs.Ytenccpccpjjkmaa
