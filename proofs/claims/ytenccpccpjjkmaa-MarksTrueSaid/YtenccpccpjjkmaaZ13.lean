/-
  Laid together for a hand-in: Tr15, Rn15.
-/
import Derived.Test.YtenccpccpjjkmaaZ12
import Derived.Test.YtenccpccpjjkmaaZ04

namespace Go.Proofs.Ytenccpccpjjkmaa
open Go.RowKit Go.Shelf Go.Sort Go.Maps CrewP
set_option linter.unusedVariables false
set_option linter.unusedSimpArgs false

theorem dg_eq (d d' : List UInt8) (h : d.length = 32) (h' : d'.length = 32) (w : World) : (Op.equalIn 10000 26 (dgA d) (dgA d')).run Try.prog w = .ok (d == d') w :=
  run_equalIn_bytes w 9998 26 5 32 Try.underlying26 Try.underlying5 (fun w => by kernel_rfl) d d' h h'
theorem mkI_field (b : UInt8) (w : World) : (Instr.field 28 (.agg (mkC (mkI 0 b)).toArray) 1).run Try.prog w = .ok (dgA (dgm b)) w := by kernel_rfl
theorem mkI_s {s : Int} (h0 : 0 ≤ s) (h1 : s ≤ 100) (b : UInt8) : (mkI s b).s = s := by rw [mkI_of h0 h1 b (wf_small h0 h1)]; rfl
theorem mkI_d {s : Int} (h0 : 0 ≤ s) (h1 : s ≤ 100) (b : UInt8) : (mkI s b).d = dgm b := by rw [mkI_of h0 h1 b (wf_small h0 h1)]; rfl
theorem Aw.mark_s {w0 w : World} {g : Nat} {m : Ms} {V : List (Nat × Mk)} (h : Aw w0 w g m V) {b : Nat} {x : Mk} (hp : (b, x) ∈ V) : w.cell? ⟨b, 0, none⟩ = some (.int .i64 x.s) := (h.blk hp).cell rfl
theorem Aw.mark_d {w0 w : World} {g : Nat} {m : Ms} {V : List (Nat × Mk)} (h : Aw w0 w g m V) {b : Nat} {x : Mk} (hp : (b, x) ∈ V) : w.rangeAt b 1 (cbs x.d) :=
  (h.blk hp).rangeFrom (o := 1) (n := 32) (by
    show List.take 32 (cbs x.d) = cbs x.d
    rw [List.take_of_length_le (by rw [cbs_length, x.hd]; omega)])

/-- Of the nodes behind the first f each tells what is so. -/
structure TrI (F : Nat) (m : Ms) : Prop where
  ok : m.ok
  f : m.f = (F : Int)
  ns : m.ns = ndL (3 * F + 1)
  say : ∀ k y, y ∈ m.told k → (F : Int) < k → y.d = dgm 0
theorem fr_ok {f : Nat} (h1 : 1 ≤ f) (h2 : f ≤ 2) : (fr f).ok := newE_ok (newE_fresh h1 h2)
theorem TrI.fresh {f : Nat} (h1 : 1 ≤ f) (h2 : f ≤ 2) : TrI f (fr f) := ⟨fr_ok h1 h2, rfl, rfl, fun k y hy => by cases hy⟩
theorem TrI.vote {f : Nat} {m : Ms} (h : TrI f m) {n : Int} {x : Mk} (hx : (f : Int) < n → x.d = dgm 0) : TrI f (voteS m n x) := by
  obtain ⟨h1, h2, h3⟩ := voteS_f m n x
  refine ⟨voteS_ok h.ok n x, h1.trans h.f, h2.trans h.ns, fun k y hy hk => ?_⟩
  rcases vote_told hy with e | ⟨rfl, rfl⟩
  · exact h.say k y e hk
  · exact hx hk
theorem few {f : Nat} (h1 : 1 ≤ f) (h2 : f ≤ 2) : ((ndL (3 * f + 1)).countP fun n => decide (n ≤ (f : Int))) = f := by
  have : ∀ f : Nat, f < 3 → 1 ≤ f → ((ndL (3 * f + 1)).countP fun n => decide (n ≤ (f : Int))) = f := by decide +kernel
  exact this f (by omega) h1
theorem TrI.so {f : Nat} {m : Ms} (h : TrI f m) (h1 : 1 ≤ f) (h2 : f ≤ 2) {many : Int} (hm : (f : Int) < many) {x : Mk} (hg : greatS m many = some x) : x.d = dgm 0 := by
  obtain ⟨hc, _⟩ := great_some hg
  apply Classical.byContradiction
  intro hne
  have hle : cnt m x ≤ f := by
    have e := few h1 h2
    rw [← h.ns] at e
    rw [← e]
    unfold cnt
    refine List.countP_mono_left fun n hn hx => ?_
    have hx' : x ∈ m.told n := by simpa using hx
    rcases Int.lt_or_le (f : Int) n with hl | hl
    · exact absurd (h.say n x hx' hl) hne
    · simpa using hl
  omega
theorem TrI.both {f : Nat} {m : Ms} (h : TrI f m) (h1 : 1 ≤ f) {x : Mk} (hg : greatS m (2 * m.f + 1) = some x) : ∃ y, greatS m (m.f + 1) = some y ∧ x.s ≤ y.s := by
  have hf := h.f
  obtain ⟨hc, _⟩ := great_some hg
  cases e : greatS m (m.f + 1) with
  | none =>
    have := (great_none (by omega)).1 e x
    omega
  | some y =>
    refine ⟨y, rfl, ?_⟩
    obtain ⟨_, hy⟩ := great_some e
    rcases hy x (cnt_pos.1 (by omega)) (by omega) with e2 | e2
    · rw [e2]; omega
    · unfold ltM at e2; omega
end Go.Proofs.Ytenccpccpjjkmaa

namespace Go.Proofs.Ytenccpccpjjkmaa
open Go.RowKit Go.Maps
set_option linter.unusedVariables false
set_option linter.unusedSimpArgs false

section
variable {P : Program} {ops : Array Oper} {Q : Exit → Act → World → Prop}
theorem region_rule7 {id : Nat} (n N : Nat) (d : Nat → Nat) (gb : Nat → Option Bool) (sk : Nat → Bool) (R : Nat → Value → World → Prop) (a0 : Act) (w0 : World) (hm : P.follows .mixedOrders = true) (hn : ops.size = n) (hN : a0.tmps.size = N)
    (ht : ((List.range n).all fun i => ((ops[i]?).map fun o => (o.dst == some (d i)) && decide (d i < N) && (match o.guard with | none => !sk i | some (g, b) => (if sk g then sk i else (gb g).isSome && (sk i == !(gb g == some b))) && decide (g < n) && o.after.any fun e => Region.binds .any e && (e.on == g)) && o.after.all fun e => !Region.binds .any e || decide (e.on < i)).getD false) = true)
    (hinj : ((List.range n).all fun i => (List.range n).all fun j => !(d i == d j) || (i == j)) = true)
    (hgb : ∀ i b v w, gb i = some b → R i v w → v = .bool b)
    (hsk : ∀ i w, sk i = true → R i undef w)
    (hun : ∀ i v w, sk i = true → R i v w → v = undef)
    (hstab : ∀ i v w w', R i v w → Below w.heap.size w w' → R i v w')
    (hstep : ∀ i o, i < n → sk i = false → ops[i]? = some o → o.dst = some (d i) → ∀ a w, Base d n a0 a → Below w0.heap.size w0 w → Region.wanted o (yielded ops a.tmps) = true →
      (∀ j, (o.after.any fun e => Region.binds .any e && (e.on == j)) = true → Has d R j a w) →
      ∀ K : Act → World → Prop, (∀ v w', R i v w' → Below w.heap.size w w' → K (a.put o.dst v) w') → wpOp P ops Q i K a w)
    (hend : ∀ a w, Base d n a0 a → Below w0.heap.size w0 w → (∀ i, i < n → Has d R i a w) → Q .normal a w) : (Code.region id ops true).wp P Q a0 w0 := by
  subst hn
  subst hN
  have hlt : ∀ i o, ops[i]? = some o → i < ops.size := fun i o h => by
    rcases Nat.lt_or_ge i ops.size with hl | hl
    · exact hl
    · rw [Array.getElem?_eq_none hl] at h; cases h
  have key : ∀ i o, ops[i]? = some o → o.dst = some (d i) ∧ d i < a0.tmps.size ∧ (o.guard = none → sk i = false) ∧ (∀ g b, o.guard = some (g, b) → (if sk g then sk i else (gb g).isSome && (sk i == !(gb g == some b))) = true ∧ g < ops.size ∧ (o.after.any fun e => Region.binds .any e && (e.on == g)) = true) ∧ ∀ e ∈ o.after, Region.binds .any e = true → e.on < i := by
    intro i o ho
    have h := List.all_eq_true.1 ht i (List.mem_range.2 (hlt i o ho))
    rw [ho] at h
    simp only [Option.map_some, Option.getD_some, Bool.and_eq_true, beq_iff_eq, decide_eq_true_eq] at h
    obtain ⟨⟨⟨h1, h2⟩, h3⟩, h4⟩ := h
    refine ⟨h1, h2, fun hg => ?_, fun g b hg => ?_, fun e he hb => ?_⟩
    · rw [hg] at h3
      simpa using h3
    · rw [hg] at h3
      simp only [Bool.and_eq_true, decide_eq_true_eq, beq_iff_eq] at h3
      exact ⟨h3.1.1, h3.1.2, h3.2⟩
    · have := Array.all_eq_true_iff_forall_mem.1 h4 e he
      rw [hb] at this
      simpa using this
  refine region_rule (P := P) d R a0 w0 hm (fun i o ho => ⟨(key i o ho).1, (key i o ho).2.1⟩) (fun i j hi hj e => ?_) (fun i o ho => (key i o ho).2.2.2.2) hstab (fun i o ho a w hb hw hdep K hK => ?_) hend
  · have h := List.all_eq_true.1 (List.all_eq_true.1 hinj i (List.mem_range.2 hi)) j (List.mem_range.2 hj)
    rw [e] at h
    simpa using h
  · have hdep' : ∀ j, (o.after.any fun e => Region.binds .any e && (e.on == j)) = true → Has d R j a w := fun j hj => by
      rw [Array.any_eq_true] at hj
      obtain ⟨k, hk, h2⟩ := hj
      simp only [Bool.and_eq_true, beq_iff_eq] at h2
      obtain ⟨h2, h3⟩ := h2
      rw [← h3]
      exact hdep _ (Array.getElem_mem hk) h2
    have hwant : Region.wanted o (yielded ops a.tmps) = !sk i := by
      unfold Region.wanted
      cases hg : o.guard with
      | none => rw [(key i o ho).2.2.1 hg]; rfl
      | some gp =>
        obtain ⟨g, b⟩ := gp
        obtain ⟨h12, h3, h4⟩ := (key i o ho).2.2.2.1 g b hg
        obtain ⟨v, hv, hR⟩ := hdep' g h4
        have hog' : ops[g]? = some ops[g] := Array.getElem?_eq_getElem h3
        by_cases hsg : sk g = true
        · rw [if_pos hsg] at h12
          have ev := hun g v w hsg hR
          subst ev
          show (yielded ops a.tmps g == some b) = _
          unfold yielded
          rw [hog', Option.bind_some, (key g _ hog').1, Option.bind_some, hv, h12]
          cases b <;> rfl
        rw [if_neg hsg, Bool.and_eq_true, beq_iff_eq] at h12
        obtain ⟨h1, h2⟩ := h12
        obtain ⟨b', hb'⟩ := Option.isSome_iff_exists.1 h1
        have ev := hgb g b' v w hb' hR
        subst ev
        have hog : ops[g]? = some ops[g] := Array.getElem?_eq_getElem h3
        have hdg := (key g _ hog).1
        rw [h2, hb']
        show (yielded ops a.tmps g == some b) = _
        unfold yielded
        rw [hog, Option.bind_some, hdg, Option.bind_some, hv]
        cases b' <;> cases b <;> rfl
    cases hs : sk i with
    | false => exact hstep i o (hlt i o ho) hs ho (key i o ho).1 a w hb hw (by rw [hwant, hs]; rfl) hdep' K (fun v w' h1 h2 => by rw [(key i o ho).1]; exact hK v w' h1 h2)
    | true =>
      refine wpOp_step ho (fun K' hK' => ?_)
      rw [if_neg (by rw [hwant, hs]; simp)]
      refine hK' _ _ ?_
      rw [(key i o ho).1]
      exact hK undef w (hsk i w hs) (Below.refl _ _)
end
end Go.Proofs.Ytenccpccpjjkmaa
