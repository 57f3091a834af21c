/-
  Laid together for a hand-in: Tr15, Rn15, Rule5, Rule6, Br13, Wv15.
-/
import Derived.Test.YtenccpccpjjkmaaZ12
import Derived.Test.YtenccpccpjjkmaaZ04
import Derived.Test.YtenccpccpjjkmaaZ09

namespace Go.Proofs.Ytenccpccpjjkmaa
open Go.RowKit Go.Shelf Go.Sort Go.Maps CrewP
set_option linter.unusedVariables false
set_option linter.unusedSimpArgs false

theorem dg_eq (d d' : List UInt8) (h : d.length = 32) (h' : d'.length = 32) (w : World) : (Op.equalIn 10000 26 (dgA d) (dgA d')).run Try.prog w = .ok (d == d') w :=
  run_equalIn_bytes w 9998 26 5 32 Try.underlying26 Try.underlying5 (fun w => by kernel_rfl) d d' h h'
theorem mkI_field (b : UInt8) (w : World) : (Instr.field 28 (.agg (mkC (mkI 0 b)).toArray) 1).run Try.prog w = .ok (dgA (dgm b)) w := by kernel_rfl
theorem mkI_s {s : Int} (h0 : 0 ≤ s) (h1 : s ≤ 100) (b : UInt8) : (mkI s b).s = s := by rw [mkI_of h0 h1 b (wf_small h0 h1)]; rfl
theorem mkI_d {s : Int} (h0 : 0 ≤ s) (h1 : s ≤ 100) (b : UInt8) : (mkI s b).d = dgm b := by rw [mkI_of h0 h1 b (wf_small h0 h1)]; rfl
theorem Aw.mark_s {w0 w : World} {g : Nat} {m : Ms} {V : List (Nat × Mk)} (h : Aw w0 w g m V) {b : Nat} {x : Mk} (hp : (b, x) ∈ V) : w.cell? ⟨b, 0, none⟩ = some (.int .i64 x.s) := (h.blk hp).cell rfl
theorem Aw.mark_d {w0 w : World} {g : Nat} {m : Ms} {V : List (Nat × Mk)} (h : Aw w0 w g m V) {b : Nat} {x : Mk} (hp : (b, x) ∈ V) : w.rangeAt b 1 (cbs x.d) :=
  (h.blk hp).rangeFrom (o := 1) (n := 32) (by
    show List.take 32 (cbs x.d) = cbs x.d
    rw [List.take_of_length_le (by rw [cbs_length, x.hd]; omega)])

/-- Of the nodes behind the first f each tells what is so. -/
structure TrI (F : Nat) (m : Ms) : Prop where
  ok : m.ok
  f : m.f = (F : Int)
  ns : m.ns = ndL (3 * F + 1)
  say : ∀ k y, y ∈ m.told k → (F : Int) < k → y.d = dgm 0
theorem fr_ok {f : Nat} (h1 : 1 ≤ f) (h2 : f ≤ 2) : (fr f).ok := newE_ok (newE_fresh h1 h2)
theorem TrI.fresh {f : Nat} (h1 : 1 ≤ f) (h2 : f ≤ 2) : TrI f (fr f) := ⟨fr_ok h1 h2, rfl, rfl, fun k y hy => by cases hy⟩
theorem TrI.vote {f : Nat} {m : Ms} (h : TrI f m) {n : Int} {x : Mk} (hx : (f : Int) < n → x.d = dgm 0) : TrI f (voteS m n x) := by
  obtain ⟨h1, h2, h3⟩ := voteS_f m n x
  refine ⟨voteS_ok h.ok n x, h1.trans h.f, h2.trans h.ns, fun k y hy hk => ?_⟩
  rcases vote_told hy with e | ⟨rfl, rfl⟩
  · exact h.say k y e hk
  · exact hx hk
theorem few {f : Nat} (h1 : 1 ≤ f) (h2 : f ≤ 2) : ((ndL (3 * f + 1)).countP fun n => decide (n ≤ (f : Int))) = f := by
  have : ∀ f : Nat, f < 3 → 1 ≤ f → ((ndL (3 * f + 1)).countP fun n => decide (n ≤ (f : Int))) = f := by decide +kernel
  exact this f (by omega) h1
theorem TrI.so {f : Nat} {m : Ms} (h : TrI f m) (h1 : 1 ≤ f) (h2 : f ≤ 2) {many : Int} (hm : (f : Int) < many) {x : Mk} (hg : greatS m many = some x) : x.d = dgm 0 := by
  obtain ⟨hc, _⟩ := great_some hg
  apply Classical.byContradiction
  intro hne
  have hle : cnt m x ≤ f := by
    have e := few h1 h2
    rw [← h.ns] at e
    rw [← e]
    unfold cnt
    refine List.countP_mono_left fun n hn hx => ?_
    have hx' : x ∈ m.told n := by simpa using hx
    rcases Int.lt_or_le (f : Int) n with hl | hl
    · exact absurd (h.say n x hx' hl) hne
    · simpa using hl
  omega
theorem TrI.both {f : Nat} {m : Ms} (h : TrI f m) (h1 : 1 ≤ f) {x : Mk} (hg : greatS m (2 * m.f + 1) = some x) : ∃ y, greatS m (m.f + 1) = some y ∧ x.s ≤ y.s := by
  have hf := h.f
  obtain ⟨hc, _⟩ := great_some hg
  cases e : greatS m (m.f + 1) with
  | none =>
    have := (great_none (by omega)).1 e x
    omega
  | some y =>
    refine ⟨y, rfl, ?_⟩
    obtain ⟨_, hy⟩ := great_some e
    rcases hy x (cnt_pos.1 (by omega)) (by omega) with e2 | e2
    · rw [e2]; omega
    · unfold ltM at e2; omega
end Go.Proofs.Ytenccpccpjjkmaa

namespace Go.Proofs.Ytenccpccpjjkmaa
open Go.RowKit Go.Maps
set_option linter.unusedVariables false
set_option linter.unusedSimpArgs false

section
variable {P : Program} {ops : Array Oper} {Q : Exit → Act → World → Prop}
theorem region_rule7 {id : Nat} (n N : Nat) (d : Nat → Nat) (gb : Nat → Option Bool) (sk : Nat → Bool) (R : Nat → Value → World → Prop) (a0 : Act) (w0 : World) (hm : P.follows .mixedOrders = true) (hn : ops.size = n) (hN : a0.tmps.size = N)
    (ht : ((List.range n).all fun i => ((ops[i]?).map fun o => (o.dst == some (d i)) && decide (d i < N) && (match o.guard with | none => !sk i | some (g, b) => (if sk g then sk i else (gb g).isSome && (sk i == !(gb g == some b))) && decide (g < n) && o.after.any fun e => Region.binds .any e && (e.on == g)) && o.after.all fun e => !Region.binds .any e || decide (e.on < i)).getD false) = true)
    (hinj : ((List.range n).all fun i => (List.range n).all fun j => !(d i == d j) || (i == j)) = true)
    (hgb : ∀ i b v w, gb i = some b → R i v w → v = .bool b)
    (hsk : ∀ i w, sk i = true → R i undef w)
    (hun : ∀ i v w, sk i = true → R i v w → v = undef)
    (hstab : ∀ i v w w', R i v w → Below w.heap.size w w' → R i v w')
    (hstep : ∀ i o, i < n → sk i = false → ops[i]? = some o → o.dst = some (d i) → ∀ a w, Base d n a0 a → Below w0.heap.size w0 w → Region.wanted o (yielded ops a.tmps) = true →
      (∀ j, (o.after.any fun e => Region.binds .any e && (e.on == j)) = true → Has d R j a w) →
      ∀ K : Act → World → Prop, (∀ v w', R i v w' → Below w.heap.size w w' → K (a.put o.dst v) w') → wpOp P ops Q i K a w)
    (hend : ∀ a w, Base d n a0 a → Below w0.heap.size w0 w → (∀ i, i < n → Has d R i a w) → Q .normal a w) : (Code.region id ops true).wp P Q a0 w0 := by
  subst hn
  subst hN
  have hlt : ∀ i o, ops[i]? = some o → i < ops.size := fun i o h => by
    rcases Nat.lt_or_ge i ops.size with hl | hl
    · exact hl
    · rw [Array.getElem?_eq_none hl] at h; cases h
  have key : ∀ i o, ops[i]? = some o → o.dst = some (d i) ∧ d i < a0.tmps.size ∧ (o.guard = none → sk i = false) ∧ (∀ g b, o.guard = some (g, b) → (if sk g then sk i else (gb g).isSome && (sk i == !(gb g == some b))) = true ∧ g < ops.size ∧ (o.after.any fun e => Region.binds .any e && (e.on == g)) = true) ∧ ∀ e ∈ o.after, Region.binds .any e = true → e.on < i := by
    intro i o ho
    have h := List.all_eq_true.1 ht i (List.mem_range.2 (hlt i o ho))
    rw [ho] at h
    simp only [Option.map_some, Option.getD_some, Bool.and_eq_true, beq_iff_eq, decide_eq_true_eq] at h
    obtain ⟨⟨⟨h1, h2⟩, h3⟩, h4⟩ := h
    refine ⟨h1, h2, fun hg => ?_, fun g b hg => ?_, fun e he hb => ?_⟩
    · rw [hg] at h3
      simpa using h3
    · rw [hg] at h3
      simp only [Bool.and_eq_true, decide_eq_true_eq, beq_iff_eq] at h3
      exact ⟨h3.1.1, h3.1.2, h3.2⟩
    · have := Array.all_eq_true_iff_forall_mem.1 h4 e he
      rw [hb] at this
      simpa using this
  refine region_rule (P := P) d R a0 w0 hm (fun i o ho => ⟨(key i o ho).1, (key i o ho).2.1⟩) (fun i j hi hj e => ?_) (fun i o ho => (key i o ho).2.2.2.2) hstab (fun i o ho a w hb hw hdep K hK => ?_) hend
  · have h := List.all_eq_true.1 (List.all_eq_true.1 hinj i (List.mem_range.2 hi)) j (List.mem_range.2 hj)
    rw [e] at h
    simpa using h
  · have hdep' : ∀ j, (o.after.any fun e => Region.binds .any e && (e.on == j)) = true → Has d R j a w := fun j hj => by
      rw [Array.any_eq_true] at hj
      obtain ⟨k, hk, h2⟩ := hj
      simp only [Bool.and_eq_true, beq_iff_eq] at h2
      obtain ⟨h2, h3⟩ := h2
      rw [← h3]
      exact hdep _ (Array.getElem_mem hk) h2
    have hwant : Region.wanted o (yielded ops a.tmps) = !sk i := by
      unfold Region.wanted
      cases hg : o.guard with
      | none => rw [(key i o ho).2.2.1 hg]; rfl
      | some gp =>
        obtain ⟨g, b⟩ := gp
        obtain ⟨h12, h3, h4⟩ := (key i o ho).2.2.2.1 g b hg
        obtain ⟨v, hv, hR⟩ := hdep' g h4
        have hog' : ops[g]? = some ops[g] := Array.getElem?_eq_getElem h3
        by_cases hsg : sk g = true
        · rw [if_pos hsg] at h12
          have ev := hun g v w hsg hR
          subst ev
          show (yielded ops a.tmps g == some b) = _
          unfold yielded
          rw [hog', Option.bind_some, (key g _ hog').1, Option.bind_some, hv, h12]
          cases b <;> rfl
        rw [if_neg hsg, Bool.and_eq_true, beq_iff_eq] at h12
        obtain ⟨h1, h2⟩ := h12
        obtain ⟨b', hb'⟩ := Option.isSome_iff_exists.1 h1
        have ev := hgb g b' v w hb' hR
        subst ev
        have hog : ops[g]? = some ops[g] := Array.getElem?_eq_getElem h3
        have hdg := (key g _ hog).1
        rw [h2, hb']
        show (yielded ops a.tmps g == some b) = _
        unfold yielded
        rw [hog, Option.bind_some, hdg, Option.bind_some, hv]
        cases b' <;> cases b <;> rfl
    cases hs : sk i with
    | false => exact hstep i o (hlt i o ho) hs ho (key i o ho).1 a w hb hw (by rw [hwant, hs]; rfl) hdep' K (fun v w' h1 h2 => by rw [(key i o ho).1]; exact hK v w' h1 h2)
    | true =>
      refine wpOp_step ho (fun K' hK' => ?_)
      rw [if_neg (by rw [hwant, hs]; simp)]
      refine hK' _ _ ?_
      rw [(key i o ho).1]
      exact hK undef w (hsk i w hs) (Below.refl _ _)
end
end Go.Proofs.Ytenccpccpjjkmaa

namespace Go.Proofs.Ytenccpccpjjkmaa

open Go.RowKit Go.Maps

set_option linter.unusedVariables false

section

variable {P : Program} {ops : Array Oper} {Q : Exit → Act → World → Prop} {md : Region.Mode}

theorem any_rule5 (d : Nat → Nat) (R : Nat → Value → World → Prop) (I : World → Prop) (a0 : Act)
    (hd : ∀ i o, ops[i]? = some o → (o.dst = some (d i) ∨ o.dst = none) ∧ d i < a0.tmps.size)
    (hinj : ∀ i j oi oj, ops[i]? = some oi → ops[j]? = some oj → j ≠ i → d i = d j → oi.dst = some (d i) → ∃ e ∈ oj.after, Region.binds md e = true ∧ e.on = i)
    (hback : ∀ i o, ops[i]? = some o → ∀ e ∈ o.after, Region.binds md e = true → e.on < i)
    (hstep : ∀ i o, ops[i]? = some o → ∀ a w, Base d ops.size a0 a → I w → (∀ e ∈ o.after, Region.binds md e = true → Has d R e.on a w) →
      ∀ K : Act → World → Prop, (∀ v w', I w' → (o.dst = some (d i) → R i v w') → (o.dst = none → ∃ u, a.tmps[d i]? = some u ∧ R i u w') → (∀ j u, j ≠ i → R j u w → R j u w') → K (a.put o.dst v) w') → wpOp P ops Q i K a w)
    (hend : ∀ a w, Base d ops.size a0 a → I w → (∀ i, i < ops.size → Has d R i a w) → Q .normal a w) :
    ∀ fuel listed a w, listed.size = ops.size → Base d ops.size a0 a → I w → (∀ i, i < ops.size → listed.getD i false = true → Has d R i a w) →
      (∀ i o, ops[i]? = some o → listed.getD i false = true → ∀ e ∈ o.after, Region.binds md e = true → listed.getD e.on false = true) →
      (List.range ops.size).countP (fun i => !listed.getD i true) ≤ fuel → wpAny P md ops Q fuel listed a w := by
  intro fuel
  induction fuel with
  | zero =>
    intro listed a w hs hb hw hl hcl hc
    have hnone : Region.ready md ops listed = [] := by
      cases hr : Region.ready md ops listed with
      | nil => rfl
      | cons x xs =>
        exfalso
        obtain ⟨o, _, hx, hx2, _⟩ := ready_mem (md := md) (ops := ops) (listed := listed) (i := x) (by rw [hr]; exact List.mem_cons_self)
        have hp : 0 < (List.range ops.size).countP (fun i => !listed.getD i true) := List.countP_pos_iff.2 ⟨x, List.mem_range.2 hx, by rw [hx2]; rfl⟩
        omega
    exact ⟨hnone, hend a w hb hw fun i hi => hl i hi (ready_nil hs hback hnone i hi)⟩
  | succ fuel ih =>
    intro listed a w hs hb hw hl hcl hc
    refine ⟨fun hr => hend a w hb hw fun i hi => hl i hi (ready_nil hs hback hr i hi), fun i hi => ?_⟩
    obtain ⟨o, ho, hi1, hi2, hi3⟩ := ready_mem hi
    have hi2' : listed.getD i false = false := by
      rw [Array.getD_eq_getD_getElem?] at hi2 ⊢
      have : i < listed.size := by omega
      simp [this] at hi2 ⊢
      exact hi2
    have hon : ∀ e ∈ o.after, Region.binds md e = true → Has d R e.on a w := fun e he hbd => hl e.on (by have := hback i o ho e he hbd; omega) (hi3 e he hbd)
    refine hstep i o ho a w hb hw hon _ fun v w' hI hsome hnone hkeep => ?_
    obtain ⟨hdd, hdi⟩ := hd i o ho
    have hold : ∀ j, j ≠ i → (listed.setIfInBounds i true).getD j false = true → listed.getD j false = true := fun j e h => by
      have : (listed.setIfInBounds i true)[j]? = listed[j]? := Array.getElem?_setIfInBounds_ne (fun h => e h.symm)
      rw [Array.getD_eq_getD_getElem?] at h ⊢
      rwa [this] at h
    have hnew : ∀ j, listed.getD j false = true → (listed.setIfInBounds i true).getD j false = true := fun j h => by
      by_cases e : j = i
      · subst e; rw [hi2'] at h; cases h
      · have : (listed.setIfInBounds i true)[j]? = listed[j]? := Array.getElem?_setIfInBounds_ne (fun h => e h.symm)
        rw [Array.getD_eq_getD_getElem?] at h ⊢
        rwa [this]
    refine ih (listed.setIfInBounds i true) (a.put o.dst v) w' (by simpa using hs) ⟨?_, ?_, ?_⟩ hI ?_ ?_ ?_
    · rcases hdd with e | e
      · rw [e]; simpa [Act.put] using hb.1
      · rw [e]; exact hb.1
    · rcases hdd with e | e <;> rw [e] <;> exact hb.2.1
    · intro s hsn
      rcases hdd with e | e
      · rw [e]
        show (a.tmps.setIfInBounds (d i) v)[s]? = _
        rw [Array.getElem?_setIfInBounds_ne (hsn i hi1)]
        exact hb.2.2 s hsn
      · rw [e]; exact hb.2.2 s hsn
    · intro j hj hjl
      by_cases e : j = i
      · subst e
        rcases hdd with e | e
        · rw [e]
          exact ⟨v, by show (a.tmps.setIfInBounds (d j) v)[d j]? = _; rw [Array.getElem?_setIfInBounds_self_of_lt (by rw [hb.1]; exact hdi)], hsome e⟩
        · obtain ⟨u, hu, hR⟩ := hnone e
          rw [e]
          exact ⟨u, hu, hR⟩
      · have hj2 := hold j e hjl
        obtain ⟨u, hu, hru⟩ := hl j hj hj2
        rcases hdd with e2 | e2
        · rw [e2]
          refine ⟨u, ?_, hkeep j u e hru⟩
          show (a.tmps.setIfInBounds (d i) v)[d j]? = _
          have hne : d i ≠ d j := fun h => by
            obtain ⟨oj, hoj⟩ : ∃ oj, ops[j]? = some oj := ⟨_, Array.getElem?_eq_getElem hj⟩
            obtain ⟨ed, he1, he2, he3⟩ := hinj i j o oj ho hoj e h e2
            have := hcl j oj hoj hj2 ed he1 he2
            rw [he3, hi2'] at this
            cases this
          rw [Array.getElem?_setIfInBounds_ne hne]
          exact hu
        · rw [e2]
          exact ⟨u, hu, hkeep j u e hru⟩
    · intro j oj hoj hjl ed he hbd
      by_cases e : j = i
      · subst e
        rw [ho] at hoj
        cases hoj
        exact hnew _ (hi3 ed he hbd)
      · exact hnew _ (hcl j oj hoj (hold j e hjl) ed he hbd)
    · have hlt : (List.range ops.size).countP (fun k => !(listed.setIfInBounds i true).getD k true) < (List.range ops.size).countP (fun k => !listed.getD k true) := by
        refine countP_lt _ (fun k hk hq => ?_) ⟨i, List.mem_range.2 hi1, by rw [hi2]; rfl, ?_⟩
        · by_cases e : k = i
          · subst e
            rw [Array.getD_eq_getD_getElem?, Array.getElem?_setIfInBounds_self_of_lt (by omega)] at hq
            simp at hq
          · have : (listed.setIfInBounds i true)[k]? = listed[k]? := Array.getElem?_setIfInBounds_ne (fun h => e h.symm)
            rw [Array.getD_eq_getD_getElem?] at hq ⊢
            rwa [this] at hq
        · rw [Array.getD_eq_getD_getElem?, Array.getElem?_setIfInBounds_self_of_lt (by omega)]
          rfl
      omega

/-- From the beginning, what is asked of the table by computing; no guards. -/
theorem region_rule5 {id : Nat} (n N : Nat) (d : Nat → Nat) (R : Nat → Value → World → Prop) (I : World → Prop) (a0 : Act) (w0 : World) (hm : P.follows .mixedOrders = true) (hn : ops.size = n) (hN : a0.tmps.size = N)
    (ht : ((List.range n).all fun i => ((ops[i]?).map fun o => (o.dst == some (d i) || o.dst == none) && decide (d i < N) && o.guard.isNone && o.after.all fun e => !Region.binds .any e || decide (e.on < i)).getD false) = true)
    (hinj : ((List.range n).all fun i => (List.range n).all fun j => !(d i == d j) || (i == j) || (((ops[i]?).map fun o => o.dst == none).getD false) || (((ops[j]?).map fun o => o.after.any fun e => Region.binds .any e && (e.on == i)).getD false)) = true)
    (hI0 : I w0.drew)
    (hstep : ∀ i o, i < n → ops[i]? = some o → o.guard = none → (o.dst = some (d i) ∨ o.dst = none) → ∀ a w, Base d n a0 a → I w →
      (∀ j, (o.after.any fun e => Region.binds .any e && (e.on == j)) = true → Has d R j a w) →
      ∀ K : Act → World → Prop, (∀ v w', I w' → (o.dst = some (d i) → R i v w') → (o.dst = none → ∃ u, a.tmps[d i]? = some u ∧ R i u w') → (∀ j u, j ≠ i → R j u w → R j u w') → K (a.put o.dst v) w') → wpOp P ops Q i K a w)
    (hend : ∀ a w, Base d n a0 a → I w → (∀ i, i < n → Has d R i a w) → Q .normal a w) : (Code.region id ops true).wp P Q a0 w0 := by
  subst hn
  subst hN
  have hlt : ∀ i o, ops[i]? = some o → i < ops.size := fun i o h => by
    rcases Nat.lt_or_ge i ops.size with hl | hl
    · exact hl
    · rw [Array.getElem?_eq_none hl] at h; cases h
  have key : ∀ i o, ops[i]? = some o → (o.dst = some (d i) ∨ o.dst = none) ∧ d i < a0.tmps.size ∧ o.guard = none ∧ ∀ e ∈ o.after, Region.binds .any e = true → e.on < i := by
    intro i o ho
    have h := List.all_eq_true.1 ht i (List.mem_range.2 (hlt i o ho))
    rw [ho] at h
    simp only [Option.map_some, Option.getD_some, Bool.and_eq_true, Bool.or_eq_true, beq_iff_eq, decide_eq_true_eq, Option.isNone_iff_eq_none] at h
    obtain ⟨⟨⟨h1, h2⟩, h3⟩, h4⟩ := h
    refine ⟨h1, h2, h3, fun e he hb => ?_⟩
    have := Array.all_eq_true_iff_forall_mem.1 h4 e he
    rw [hb] at this
    simpa using this
  refine wp_region_any hm (any_rule5 (P := P) (md := .any) d R I a0 (fun i o ho => ⟨(key i o ho).1, (key i o ho).2.1⟩) (fun i j oi oj hoi hoj hne e hdst => ?_) (fun i o ho => (key i o ho).2.2.2) (fun i o ho a w hb hI hdep K hK => ?_) hend ops.size _ a0 _ (by simp) ⟨rfl, rfl, fun _ _ => rfl⟩ hI0 ?_ ?_ ?_)
  · have h := List.all_eq_true.1 (List.all_eq_true.1 hinj i (List.mem_range.2 (hlt i oi hoi))) j (List.mem_range.2 (hlt j oj hoj))
    rw [hoi, hoj, e] at h
    simp only [beq_self_eq_true, Bool.not_true, Bool.false_or, Option.map_some, Option.getD_some, Bool.or_eq_true, beq_iff_eq] at h
    rcases h with (h | h) | h
    · exact absurd h.symm hne
    · rw [h] at hdst; cases hdst
    · rw [Array.any_eq_true] at h
      obtain ⟨k, hk, h2⟩ := h
      simp only [Bool.and_eq_true, beq_iff_eq] at h2
      exact ⟨_, Array.getElem_mem hk, h2.1, h2.2⟩
  · refine hstep i o (hlt i o ho) ho (key i o ho).2.2.1 (key i o ho).1 a w hb hI (fun j hj => ?_) K hK
    rw [Array.any_eq_true] at hj
    obtain ⟨k, hk, h2⟩ := hj
    simp only [Bool.and_eq_true, beq_iff_eq] at h2
    obtain ⟨h2, h3⟩ := h2
    rw [← h3]
    exact hdep _ (Array.getElem_mem hk) h2
  · intro i hi h
    rw [Array.getD_eq_getD_getElem?] at h
    simp [hi] at h
  · intro i o ho h
    have hi := hlt i o ho
    rw [Array.getD_eq_getD_getElem?] at h
    simp [hi] at h
  · exact Nat.le_trans List.countP_le_length (by simp)

end

end Go.Proofs.Ytenccpccpjjkmaa

namespace Go.Proofs.Ytenccpccpjjkmaa

open Go.RowKit Go.Maps

set_option linter.unusedVariables false

section

variable {P : Program} {ops : Array Oper} {Q : Exit → Act → World → Prop} {md : Region.Mode}

theorem any_rule6 (d : Nat → Nat) (R : Nat → Value → World → Prop) (I : World → Prop) (a0 : Act) (m : Nat) (kl : Nat → Nat → Bool)
    (hd : ∀ i o, ops[i]? = some o → (o.dst = some (d i) ∨ o.dst = none) ∧ d i < a0.tmps.size)
    (hinj : ∀ i j oi oj, ops[i]? = some oi → ops[j]? = some oj → j ≠ i → d i = d j → oi.dst = some (d i) → ∃ e ∈ oj.after, Region.binds md e = true ∧ e.on = i)
    (hext : ∀ i o x, ops[i]? = some o → ops.size ≤ x → x < ops.size + m → d i ≠ d x)
    (hback : ∀ i o, ops[i]? = some o → ∀ e ∈ o.after, Region.binds md e = true → e.on < i)
    (hstep : ∀ i o, ops[i]? = some o → ∀ a w, Base d ops.size a0 a → I w → (∀ x, ((∃ e ∈ o.after, Region.binds md e = true ∧ e.on = x) ∨ (ops.size ≤ x ∧ x < ops.size + m)) → (∀ j, j < ops.size → kl j x = true → j = i ∨ ∃ oj, ops[j]? = some oj ∧ ∃ e ∈ oj.after, Region.binds md e = true ∧ e.on = i) → Has d R x a w) →
      ∀ K : Act → World → Prop, (∀ v w', I w' → (o.dst = some (d i) → R i v w') → (o.dst = none → ∃ u, a.tmps[d i]? = some u ∧ R i u w') → (∀ j u, j ≠ i → kl i j = false → (∀ oj, ops[j]? = some oj → ∀ e ∈ oj.after, Region.binds md e = true → e.on ≠ i) → R j u w → R j u w') → K (a.put o.dst v) w') → wpOp P ops Q i K a w)
    (hend : ∀ a w, Base d ops.size a0 a → I w → (∀ i, i < ops.size + m → (∀ j, j < ops.size → kl j i = false) → Has d R i a w) → Q .normal a w) :
    ∀ fuel listed a w, listed.size = ops.size → Base d ops.size a0 a → I w → (∀ i, ((i < ops.size ∧ listed.getD i false = true) ∨ (ops.size ≤ i ∧ i < ops.size + m)) → (∀ j, j < ops.size → listed.getD j false = true → kl j i = false) → Has d R i a w) →
      (∀ i o, ops[i]? = some o → listed.getD i false = true → ∀ e ∈ o.after, Region.binds md e = true → listed.getD e.on false = true) →
      (List.range ops.size).countP (fun i => !listed.getD i true) ≤ fuel → wpAny P md ops Q fuel listed a w := by
  intro fuel
  induction fuel with
  | zero =>
    intro listed a w hs hb hw hl hcl hc
    have hnone : Region.ready md ops listed = [] := by
      cases hr : Region.ready md ops listed with
      | nil => rfl
      | cons x xs =>
        exfalso
        obtain ⟨o, _, hx, hx2, _⟩ := ready_mem (md := md) (ops := ops) (listed := listed) (i := x) (by rw [hr]; exact List.mem_cons_self)
        have hp : 0 < (List.range ops.size).countP (fun i => !listed.getD i true) := List.countP_pos_iff.2 ⟨x, List.mem_range.2 hx, by rw [hx2]; rfl⟩
        omega
    exact ⟨hnone, hend a w hb hw fun i hi hk => hl i (by rcases Nat.lt_or_ge i ops.size with h | h; exact .inl ⟨h, ready_nil hs hback hnone i h⟩; exact .inr ⟨h, hi⟩) fun j hj _ => hk j hj⟩
  | succ fuel ih =>
    intro listed a w hs hb hw hl hcl hc
    refine ⟨fun hr => hend a w hb hw fun i hi hk => hl i (by rcases Nat.lt_or_ge i ops.size with h | h; exact .inl ⟨h, ready_nil hs hback hr i h⟩; exact .inr ⟨h, hi⟩) fun j hj _ => hk j hj, fun i hi => ?_⟩
    obtain ⟨o, ho, hi1, hi2, hi3⟩ := ready_mem hi
    have hi2' : listed.getD i false = false := by
      rw [Array.getD_eq_getD_getElem?] at hi2 ⊢
      have : i < listed.size := by omega
      simp [this] at hi2 ⊢
      exact hi2
    have hon : ∀ x, ((∃ e ∈ o.after, Region.binds md e = true ∧ e.on = x) ∨ (ops.size ≤ x ∧ x < ops.size + m)) → (∀ j, j < ops.size → kl j x = true → j = i ∨ ∃ oj, ops[j]? = some oj ∧ ∃ e ∈ oj.after, Region.binds md e = true ∧ e.on = i) → Has d R x a w := fun x hx hk => by
      refine hl x ?_ fun j hj hjl => ?_
      · rcases hx with ⟨e, he, hbd, rfl⟩ | hx
        · exact .inl ⟨by have := hback i o ho e he hbd; omega, hi3 e he hbd⟩
        · exact .inr hx
      · cases hkk : kl j x with
        | false => rfl
        | true =>
          exfalso
          rcases hk j hj hkk with rfl | ⟨oj, hoj, e, he, hbd, rfl⟩
          · rw [hi2'] at hjl; cases hjl
          · have := hcl j oj hoj hjl e he hbd
            rw [hi2'] at this; cases this
    refine hstep i o ho a w hb hw hon _ fun v w' hI hsome hnone hkeep => ?_
    obtain ⟨hdd, hdi⟩ := hd i o ho
    have hold : ∀ j, j ≠ i → (listed.setIfInBounds i true).getD j false = true → listed.getD j false = true := fun j e h => by
      have : (listed.setIfInBounds i true)[j]? = listed[j]? := Array.getElem?_setIfInBounds_ne (fun h => e h.symm)
      rw [Array.getD_eq_getD_getElem?] at h ⊢
      rwa [this] at h
    have hnew : ∀ j, listed.getD j false = true → (listed.setIfInBounds i true).getD j false = true := fun j h => by
      by_cases e : j = i
      · subst e; rw [hi2'] at h; cases h
      · have : (listed.setIfInBounds i true)[j]? = listed[j]? := Array.getElem?_setIfInBounds_ne (fun h => e h.symm)
        rw [Array.getD_eq_getD_getElem?] at h ⊢
        rwa [this]
    refine ih (listed.setIfInBounds i true) (a.put o.dst v) w' (by simpa using hs) ⟨?_, ?_, ?_⟩ hI ?_ ?_ ?_
    · rcases hdd with e | e
      · rw [e]; simpa [Act.put] using hb.1
      · rw [e]; exact hb.1
    · rcases hdd with e | e <;> rw [e] <;> exact hb.2.1
    · intro s hsn
      rcases hdd with e | e
      · rw [e]
        show (a.tmps.setIfInBounds (d i) v)[s]? = _
        rw [Array.getElem?_setIfInBounds_ne (hsn i hi1)]
        exact hb.2.2 s hsn
      · rw [e]; exact hb.2.2 s hsn
    · intro j hj hal
      by_cases e : j = i
      · subst e
        rcases hdd with e | e
        · rw [e]
          exact ⟨v, by show (a.tmps.setIfInBounds (d j) v)[d j]? = _; rw [Array.getElem?_setIfInBounds_self_of_lt (by rw [hb.1]; exact hdi)], hsome e⟩
        · obtain ⟨u, hu, hR⟩ := hnone e
          rw [e]
          exact ⟨u, hu, hR⟩
      · have hki : kl i j = false := hal i hi1 (by
          rw [Array.getD_eq_getD_getElem?, Array.getElem?_setIfInBounds_self_of_lt (by omega)]; rfl)
        have hj2 : (j < ops.size ∧ listed.getD j false = true) ∨ (ops.size ≤ j ∧ j < ops.size + m) := by
          rcases hj with ⟨h1, h2⟩ | h
          · exact .inl ⟨h1, hold j e h2⟩
          · exact .inr h
        obtain ⟨u, hu, hru⟩ := hl j hj2 fun q hq hql => hal q hq (hnew q hql)
        have hnot : ∀ oj, ops[j]? = some oj → ∀ e ∈ oj.after, Region.binds md e = true → e.on ≠ i := fun oj hoj ed he hbd e3 => by
          rcases hj2 with ⟨h1, h2⟩ | ⟨h1, h2⟩
          · have := hcl j oj hoj h2 ed he hbd
            rw [e3, hi2'] at this
            cases this
          · rw [Array.getElem?_eq_none h1] at hoj; cases hoj
        rcases hdd with e2 | e2
        · rw [e2]
          refine ⟨u, ?_, hkeep j u e hki hnot hru⟩
          show (a.tmps.setIfInBounds (d i) v)[d j]? = _
          have hne : d i ≠ d j := fun h => by
            rcases hj2 with ⟨h1, h2⟩ | ⟨h1, h2⟩
            · obtain ⟨oj, hoj⟩ : ∃ oj, ops[j]? = some oj := ⟨_, Array.getElem?_eq_getElem h1⟩
              obtain ⟨ed, he1, he2, he3⟩ := hinj i j o oj ho hoj e h e2
              have := hcl j oj hoj h2 ed he1 he2
              rw [he3, hi2'] at this
              cases this
            · exact hext i o j ho h1 h2 h
          rw [Array.getElem?_setIfInBounds_ne hne]
          exact hu
        · rw [e2]
          exact ⟨u, hu, hkeep j u e hki hnot hru⟩
    · intro j oj hoj hjl ed he hbd
      by_cases e : j = i
      · subst e
        rw [ho] at hoj
        cases hoj
        exact hnew _ (hi3 ed he hbd)
      · exact hnew _ (hcl j oj hoj (hold j e hjl) ed he hbd)
    · have hlt : (List.range ops.size).countP (fun k => !(listed.setIfInBounds i true).getD k true) < (List.range ops.size).countP (fun k => !listed.getD k true) := by
        refine countP_lt _ (fun k hk hq => ?_) ⟨i, List.mem_range.2 hi1, by rw [hi2]; rfl, ?_⟩
        · by_cases e : k = i
          · subst e
            rw [Array.getD_eq_getD_getElem?, Array.getElem?_setIfInBounds_self_of_lt (by omega)] at hq
            simp at hq
          · have : (listed.setIfInBounds i true)[k]? = listed[k]? := Array.getElem?_setIfInBounds_ne (fun h => e h.symm)
            rw [Array.getD_eq_getD_getElem?] at hq ⊢
            rwa [this] at hq
        · rw [Array.getD_eq_getD_getElem?, Array.getElem?_setIfInBounds_self_of_lt (by omega)]
          rfl
      omega

/-- From the beginning, what is asked of the table by computing; no guards. -/
theorem region_rule6 {id : Nat} (n N m : Nat) (kl : Nat → Nat → Bool) (d : Nat → Nat) (R : Nat → Value → World → Prop) (I : World → Prop) (a0 : Act) (w0 : World) (hm : P.follows .mixedOrders = true) (hn : ops.size = n) (hN : a0.tmps.size = N)
    (ht : ((List.range n).all fun i => ((ops[i]?).map fun o => (o.dst == some (d i) || o.dst == none) && decide (d i < N) && o.guard.isNone && o.after.all fun e => !Region.binds .any e || decide (e.on < i)).getD false) = true)
    (hinj : ((List.range n).all fun i => (List.range n).all fun j => !(d i == d j) || (i == j) || (((ops[i]?).map fun o => o.dst == none).getD false) || (((ops[j]?).map fun o => o.after.any fun e => Region.binds .any e && (e.on == i)).getD false)) = true)
    (hext : ((List.range n).all fun i => (List.range m).all fun x => !(d i == d (n + x))) = true)
    (hI0 : I w0.drew) (hE0 : ∀ x, n ≤ x → x < n + m → Has d R x a0 w0.drew)
    (hstep : ∀ i o, i < n → ops[i]? = some o → o.guard = none → (o.dst = some (d i) ∨ o.dst = none) → ∀ a w, Base d n a0 a → I w →
      (∀ j, ((o.after.any fun e => Region.binds .any e && (e.on == j)) || (decide (n ≤ j) && decide (j < n + m))) = true → ((List.range n).all fun q => !(kl q j) || (q == i) || ((ops[q]?).map fun o => o.after.any fun e => Region.binds .any e && (e.on == i)).getD false) = true → Has d R j a w) →
      ∀ K : Act → World → Prop, (∀ v w', I w' → (o.dst = some (d i) → R i v w') → (o.dst = none → ∃ u, a.tmps[d i]? = some u ∧ R i u w') → (∀ j u, j ≠ i → kl i j = false → ((ops[j]?).map fun o => o.after.any fun e => Region.binds .any e && (e.on == i)).getD false = false → R j u w → R j u w') → K (a.put o.dst v) w') → wpOp P ops Q i K a w)
    (hend : ∀ a w, Base d n a0 a → I w → (∀ i, i < n + m → ((List.range n).all fun j => !(kl j i)) = true → Has d R i a w) → Q .normal a w) : (Code.region id ops true).wp P Q a0 w0 := by
  subst hn
  subst hN
  have hlt : ∀ i o, ops[i]? = some o → i < ops.size := fun i o h => by
    rcases Nat.lt_or_ge i ops.size with hl | hl
    · exact hl
    · rw [Array.getElem?_eq_none hl] at h; cases h
  have key : ∀ i o, ops[i]? = some o → (o.dst = some (d i) ∨ o.dst = none) ∧ d i < a0.tmps.size ∧ o.guard = none ∧ ∀ e ∈ o.after, Region.binds .any e = true → e.on < i := by
    intro i o ho
    have h := List.all_eq_true.1 ht i (List.mem_range.2 (hlt i o ho))
    rw [ho] at h
    simp only [Option.map_some, Option.getD_some, Bool.and_eq_true, Bool.or_eq_true, beq_iff_eq, decide_eq_true_eq, Option.isNone_iff_eq_none] at h
    obtain ⟨⟨⟨h1, h2⟩, h3⟩, h4⟩ := h
    refine ⟨h1, h2, h3, fun e he hb => ?_⟩
    have := Array.all_eq_true_iff_forall_mem.1 h4 e he
    rw [hb] at this
    simpa using this
  refine wp_region_any hm (any_rule6 (P := P) (md := .any) d R I a0 m kl (fun i o ho => ⟨(key i o ho).1, (key i o ho).2.1⟩) (fun i j oi oj hoi hoj hne e hdst => ?_) (fun i o x ho h1 h2 => ?_) (fun i o ho => (key i o ho).2.2.2) (fun i o ho a w hb hI hdep K hK => ?_) (fun a w hb hI hall => hend a w hb hI fun i hi hk => hall i hi fun j hj => by have := List.all_eq_true.1 hk j (List.mem_range.2 hj); simpa using this) ops.size _ a0 _ (by simp) ⟨rfl, rfl, fun _ _ => rfl⟩ hI0 ?_ ?_ ?_)
  · have h := List.all_eq_true.1 (List.all_eq_true.1 hinj i (List.mem_range.2 (hlt i oi hoi))) j (List.mem_range.2 (hlt j oj hoj))
    rw [hoi, hoj, e] at h
    simp only [beq_self_eq_true, Bool.not_true, Bool.false_or, Option.map_some, Option.getD_some, Bool.or_eq_true, beq_iff_eq] at h
    rcases h with (h | h) | h
    · exact absurd h.symm hne
    · rw [h] at hdst; cases hdst
    · rw [Array.any_eq_true] at h
      obtain ⟨k, hk, h2⟩ := h
      simp only [Bool.and_eq_true, beq_iff_eq] at h2
      exact ⟨_, Array.getElem_mem hk, h2.1, h2.2⟩
  · have h := List.all_eq_true.1 (List.all_eq_true.1 hext i (List.mem_range.2 (hlt i o ho))) (x - ops.size) (List.mem_range.2 (by omega))
    rw [show ops.size + (x - ops.size) = x by omega] at h
    simpa using h
  · refine hstep i o (hlt i o ho) ho (key i o ho).2.2.1 (key i o ho).1 a w hb hI (fun j hj hk => hdep j ?_ fun q hq hkq => ?_) K (fun v w' h1 h2 h3 h4 => hK v w' h1 h2 h3 fun j u hj hk hnot => h4 j u hj hk ?_)
    · rw [Bool.or_eq_true] at hj
      rcases hj with hj | hj
      · rw [Array.any_eq_true] at hj
        obtain ⟨k, hk, h2⟩ := hj
        simp only [Bool.and_eq_true, beq_iff_eq] at h2
        exact .inl ⟨_, Array.getElem_mem hk, h2.1, h2.2⟩
      · exact .inr (by simpa using hj)
    · have h := List.all_eq_true.1 hk q (List.mem_range.2 hq)
      rw [hkq, Array.getElem?_eq_getElem hq] at h
      simp only [Bool.not_true, Bool.false_or, Option.map_some, Option.getD_some, Bool.or_eq_true, beq_iff_eq] at h
      rcases h with h | h
      · exact .inl h
      · rw [Array.any_eq_true] at h
        obtain ⟨k, hk', h2⟩ := h
        simp only [Bool.and_eq_true, beq_iff_eq] at h2
        exact .inr ⟨_, Array.getElem?_eq_getElem hq, _, Array.getElem_mem hk', h2.1, h2.2⟩
    · cases hoj : ops[j]? with
      | none => rfl
      | some oj =>
        rw [Option.map_some, Option.getD_some]
        cases hx : (oj.after.any fun e => Region.binds .any e && (e.on == i)) with
        | false => rfl
        | true =>
          rw [Array.any_eq_true] at hx
          obtain ⟨k, hk', h5⟩ := hx
          simp only [Bool.and_eq_true, beq_iff_eq] at h5
          exact absurd h5.2 (hnot oj hoj _ (Array.getElem_mem hk') h5.1)
  · intro i hi _
    rcases hi with ⟨hi, h⟩ | ⟨h1, h2⟩
    · rw [Array.getD_eq_getD_getElem?] at h
      simp [hi] at h
    · exact hE0 i h1 h2
  · intro i o ho h
    have hi := hlt i o ho
    rw [Array.getD_eq_getD_getElem?] at h
    simp [hi] at h
  · exact Nat.le_trans List.countP_le_length (by simp)

end

end Go.Proofs.Ytenccpccpjjkmaa

namespace Go.Proofs.Ytenccpccpjjkmaa
open Go.RowKit
set_option linter.unusedVariables false

theorem emod_tmod {i n : Int} (h : 0 < n) (h0 : -n < i.tmod n) (h1 : i.tmod n ≤ 0) : i % n = if i.tmod n < 0 then i.tmod n + n else i.tmod n := by
  have e : i % n = (i.tmod n) % n := by
    have := Int.tmod_add_mul_tdiv i n
    conv => lhs; rw [← this]
    exact Int.add_mul_emod_self_left _ _ _
  rw [e]
  split
  · rw [← Int.add_emod_right, Int.emod_eq_of_lt (by omega) (by omega)]
  · rw [Int.emod_eq_of_lt (by omega) (by omega)]
set_option maxHeartbeats 400000 in
theorem bringF_any (i n : Int) (w : World) (h : 0 < n) (hn : n ≤ 9223372036854775807) (hi0 : -9223372036854775808 ≤ i) (hi1 : i ≤ 9223372036854775807) :
    Calls Try.prog 11 #[.int .i64 i, .int .i64 n] w fun e w' => e = .returned (.int .i64 (i % n)) ∧ w' = w := by
  have hz : (n == 0) = false := by simp; omega
  by_cases h0 : 0 ≤ i
  · have hm0 := Int.emod_nonneg i (by omega : n ≠ 0)
    have hm1 := Int.emod_lt_of_pos i h
    go_enter Try.func11, Try.ntmps11
    go_wp2
    go_ret
    exact ⟨rfl, rfl⟩
  · have ht : i.tmod n = -((-i) % n) := by
      have e1 : (-i).tmod n = -(i.tmod n) := Int.neg_tmod i n
      have e2 : (-i).tmod n = (-i) % n := Int.tmod_eq_emod_of_nonneg (by omega)
      omega
    have hm0 := Int.emod_nonneg (-i) (by omega : n ≠ 0)
    have hm1 := Int.emod_lt_of_pos (-i) h
    have hl0 : i.tmod n ≤ 0 := by omega
    have hl1 : -n < i.tmod n := by omega
    have hem := Lib.hid (emod_tmod h hl1 hl0)
    clear hm0 hm1 ht
    by_cases hs : i.tmod n < 0
    · go_enter Try.func11, Try.ntmps11
      go_wp2
      go_ret
      exact ⟨by rw [hem.out, if_pos hs]; rfl, rfl⟩
    · go_enter Try.func11, Try.ntmps11
      go_wp2
      go_ret
      exact ⟨by rw [hem.out, if_neg (by omega)]; rfl, rfl⟩
end Go.Proofs.Ytenccpccpjjkmaa

namespace Go.Proofs.Ytenccpccpjjkmaa
open Go.RowKit Go.Shelf Go.Sort Go.Maps CrewP
set_option linter.unusedVariables false
set_option linter.unusedSimpArgs false

theorem bring_w (i n : Int) (w : World) (h : 0 < n) (hn : n ≤ 9223372036854775807) (hi : Wf i) : Calls Try.prog 11 #[.int .i64 i, .int .i64 n] w fun e w' => e = .returned (.int .i64 (i % n)) ∧ w' = w :=
  bringF_any i n w h hn (bounds_i64 hi).1 (bounds_i64 hi).2
theorem word_at (w : World) (b o : Nat) (n c : Nat) (i : Nat) (hi : i < n) : (Instr.indexAt 45 (.slice (some ⟨b, o, none⟩) n c) (.int .i64 (i : Int))).run Try.prog w = .ok (.pointer (some ⟨b, o + i * 3, none⟩)) w := by
  have hr := run_indexAt_slice (P := Try.prog) (w := w) 45 ⟨b, o, none⟩ n c .i64 (i : Int) (by kernel_rfl)
  rw [if_pos (by omega)] at hr
  refine hr.trans ?_
  have h33 : (sizeOf (Try.prog.elem 45)).run Try.prog w = .ok 3 w := by kernel_rfl
  rw [h33, Int.toNat_natCast]
  simp only [Result.andThen_ok, add_mk]
theorem bits_one (b : UInt8) : bits BinOp.and IntKind.u8 (b.toNat : Int) 1 = ((b &&& 1).toNat : Int) := by
  have h : ∀ n : Nat, n < 256 → bits BinOp.and IntKind.u8 (n : Int) 1 = ((n &&& 1 : Nat) : Int) := by decide +kernel
  rw [h b.toNat b.toNat_lt, UInt8.toNat_and]
  rfl
section
variable {w0 w w' wA : World} {g : Nat} {m : Ms} {V : List (Nat × Mk)}
theorem Out.mono' {S S' : Nat → Prop} (h : Out S w w') (hs : ∀ i, S i → S' i) : Out S' w w' := (Out.refl S' w).trans h fun i _ hi => hs i hi
theorem Aw.raiseB (h : Aw w0 wA g m V) (hb : Below wA.heap.size wA w) (x : Mk) {E : Int} (hE : riseE m x = E) :
    Calls Try.prog 14 #[.pointer (some ⟨g, 0, none⟩), .agg (mkC x).toArray] w fun e w' => e = .returned (.int .i64 E) ∧ Aw w0 w' g (riseS m x) V ∧ Out (fun b => b < wA.heap.size) w w' := by
  obtain ⟨U, h1, h2, h3, h4⟩ := h
  obtain ⟨_, _, _, _, _, h5⟩ := h1.below hb
  have h3' := h3.trans (hb.mono h3.size)
  have h4' : ∀ p ∈ V, Blk w p.1 28 (mkC p.2) ∧ ¬ U p.1 ∧ w0.heap.size ≤ p.1 := fun p hp => ⟨(h4 p hp).1.below hb (h4 p hp).1.lt, (h4 p hp).2⟩
  exact (raise_in h5 x E hE).mono fun e w' ⟨he, h6, h7⟩ => ⟨he, Aw.grow h2 h3' h4' h6 h7, h7.mono' fun i hi => h1.lt i hi⟩
theorem Aw.ofB (h : Aw w0 w g m V) {n : Int} (hn : Wf n) :
    Calls Try.prog 22 #[.pointer (some ⟨g, 0, none⟩), .int .i64 n] w fun e w' => ∃ A k c, e = .returned (.slice A k c) ∧ ShM w' A (m.told n) ∧ (m.told n).length = k ∧ (∀ b, blkOf A b → w.heap.size ≤ b) ∧ Below w.heap.size w w' := by
  obtain ⟨U, ⟨_, _, _, _, _, h1⟩, h2, h3, h4⟩ := h
  refine (of_in h1 hn).mono ?_
  rintro e w' ⟨v', rfl, h5, h6⟩
  rcases h5 with ⟨rfl, e5⟩ | ⟨s, rfl, hr, hs⟩
  · exact ⟨_, _, _, rfl, by rw [e5]; exact ShM.nil _ _, by rw [e5]; rfl, (fun b ⟨a, ha, _⟩ => by cases ha), h6⟩
  · exact ⟨_, _, _, rfl, hr.sh, hr.len, (fun b ⟨a, ha, hb⟩ => by cases ha; subst hb; exact hs), h6⟩
theorem ShM.out {S : Nat → Prop} {A : Option Addr} {l : List Mk} (h : ShM w A l) (ho : Out S w w') (hS : ∀ b, blkOf A b → ¬ S b) : ShM w' A l := fun hl => by
  obtain ⟨b, o, rfl, h1, h2⟩ := h hl
  refine ⟨b, o, rfl, Nat.lt_of_lt_of_le h1 ho.size, fun j u hu => ?_⟩
  have hb := ho.block b h1 (hS b ⟨_, rfl, rfl⟩)
  have := h2 j u hu
  unfold World.cell? at *
  first | (rw [hb]; exact this) | (simp only [hb]; exact this) | (simpa [hb] using this)
end
/-- The rows of which the first k are those of the nodes 1 to k. -/
def WasIn (B : Nat) (w : World) (m : Ms) (cs : List Value) (k : Nat) : Prop := cs.length = 5 ∧ ∀ j : Nat, 1 ≤ j → j < k → ∃ A n c, cs[j]? = some (.slice A n c) ∧ ShM w A (m.told (j : Int)) ∧ (m.told (j : Int)).length = n ∧ ∀ b, blkOf A b → B ≤ b
theorem WasIn.below {B : Nat} {w w' : World} {m : Ms} {cs : List Value} {k : Nat} (h : WasIn B w m cs k) (hb : Below w.heap.size w w') : WasIn B w' m cs k :=
  ⟨h.1, fun j h1 h2 => let ⟨A, n, c, e1, e2, e3, e4⟩ := h.2 j h1 h2; ⟨A, n, c, e1, e2.below hb, e3, e4⟩⟩
theorem WasIn.out {B : Nat} {w w' : World} {m : Ms} {cs : List Value} {k : Nat} {S : Nat → Prop} (h : WasIn B w m cs k) (ho : Out S w w') (hS : ∀ b, S b → b < B) : WasIn B w' m cs k :=
  ⟨h.1, fun j h1 h2 => let ⟨A, n, c, e1, e2, e3, e4⟩ := h.2 j h1 h2; ⟨A, n, c, e1, e2.out ho (fun b hb hs => by have := e4 b hb; have := hS b hs; omega), e3, e4⟩⟩
theorem WasIn.add {B : Nat} {w : World} {m : Ms} {cs : List Value} {k : Nat} (h : WasIn B w m cs k) (hk : k < 5) {A : Option Addr} {n c : Nat} (h1 : ShM w A (m.told (k : Int))) (h2 : (m.told (k : Int)).length = n) (h3 : ∀ b, blkOf A b → B ≤ b) : WasIn B w m (cs.set k (.slice A n c)) (k + 1) := by
  refine ⟨by rw [List.length_set]; exact h.1, fun j hj1 hj2 => ?_⟩
  by_cases e : j = k
  · subst e
    exact ⟨A, n, c, by rw [List.getElem?_set_self (by rw [h.1]; exact hk)], h1, h2, h3⟩
  · rw [List.getElem?_set_ne (fun h => e h.symm)]
    exact h.2 j hj1 (by omega)

theorem row_sh {w : World} {A : Option Addr} {n cap : Nat} {l : List Mk} (h : RowK w 28 33 A n cap (mks l)) (hl : l.length = n) : ShM w A l := fun hn => by
  obtain ⟨r, e, h1, h2, _⟩ := h.cells (by omega)
  exact ⟨r, 0, e, h1, fun j u hu => by rw [Nat.zero_add]; exact h2 j u hu⟩
theorem marks_at (w : World) (b o : Nat) (n c : Nat) (i : Nat) (hi : i < n) : (Instr.indexAt 54 (.slice (some ⟨b, o, none⟩) n c) (.int .i64 (i : Int))).run Try.prog w = .ok (.pointer (some ⟨b, o + i * 33, none⟩)) w := by
  have hr := run_indexAt_slice (P := Try.prog) (w := w) 54 ⟨b, o, none⟩ n c .i64 (i : Int) (by kernel_rfl)
  rw [if_pos (by omega)] at hr
  refine hr.trans ?_
  have h33 : (sizeOf (Try.prog.elem 54)).run Try.prog w = .ok 33 w := by kernel_rfl
  rw [h33, Int.toNat_natCast]
  simp only [Result.andThen_ok, add_mk]

/-! ### Raise, over plain marks -/
structure RsI (m : Ms) : Prop where
  ok : m.ok
  f : m.f = 1
  ns : m.ns = ndL 4
  lo : m.lo = mk0
theorem RsI.fresh : RsI (fr 1) := ⟨fr_ok (by omega) (by omega), rfl, rfl, rfl⟩
theorem RsI.vote {m : Ms} (h : RsI m) (n : Int) (x : Mk) : RsI (voteS m n x) := by
  obtain ⟨h1, h2, h3⟩ := voteS_f m n x
  exact ⟨voteS_ok h.ok n x, h1.trans h.f, h2.trans h.ns, h3.trans h.lo⟩
theorem RsI.rise {m : Ms} (h : RsI m) {x : Mk} (h0 : 0 ≤ x.s) (h1 : x.s ≤ 100) : riseE m x = 0 := by
  unfold riseE
  rw [h.lo, if_neg (by show ¬ (x.s < 0 ∨ _); omega)]
theorem rise_told {m : Ms} {x : Mk} (h : riseE m x = 0) (n : Int) : (riseS m x).told n = abv x.s (m.told n) := by unfold riseS; rw [if_pos h]
theorem rise_lo {m : Ms} {x : Mk} (h : riseE m x = 0) : (riseS m x).lo = x ∧ (riseS m x).f = m.f ∧ (riseS m x).ns = m.ns := by unfold riseS; rw [if_pos h]; exact ⟨rfl, rfl, rfl⟩
theorem rise_above {m : Ms} {x z : Mk} (h : riseE m x = 0) {many : Int} (hm : 1 ≤ many) (hg : greatS (riseS m x) many = some z) : x.s < z.s := by
  obtain ⟨hc, _⟩ := great_some hg
  have hz := cnt_pos.1 (show 0 < cnt (riseS m x) z by omega)
  unfold allM at hz
  obtain ⟨n, _, hn⟩ := List.mem_flatMap.1 hz
  rw [rise_told h] at hn
  unfold abv at hn
  have := (List.mem_filter.1 hn).2
  simp at this
  exact this
theorem rise_vote {m : Ms} (h : RsI m) {x : Mk} (hE : riseE m x = 0) : voteE (riseS m x) 1 x = 9 := by
  obtain ⟨h1, _, h3⟩ := rise_lo hE
  unfold voteE
  rw [h3, h.ns, if_neg (by decide), h1, if_pos (by omega)]
theorem abv_step {s : Int} (l : List Mk) {i : Nat} (hi : i < l.length) : abv s (l.take (i + 1)) = abv s (l.take i) ++ (if s < l[i].s then [l[i]] else []) := by
  have e : l.take (i + 1) = l.take i ++ [l[i]] := by rw [List.take_append_getElem hi]
  rw [e]
  unfold abv
  rw [List.filter_append]
  congr 1
  by_cases h : s < l[i].s
  · rw [if_pos h, List.filter_cons_of_pos (by simp; exact h)]; rfl
  · rw [if_neg h, List.filter_cons_of_neg (by simp; omega)]; rfl
end Go.Proofs.Ytenccpccpjjkmaa
