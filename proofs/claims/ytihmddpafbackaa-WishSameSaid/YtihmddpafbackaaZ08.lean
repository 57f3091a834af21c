/-
  Laid together for a hand-in: Rule3, Wr11, By11.
-/
import Derived.Test.YtihmddpafbackaaZ07
import Derived.Test.YtihmddpafbackaaZ06
import Derived.Test.YtihmddpafbackaaZ03

namespace Go.Proofs.Ytihmddpafbackaa

open Go.RowKit Go.Maps

set_option linter.unusedVariables false

section

variable {P : Program} {ops : Array Oper} {Q : Exit → Act → World → Prop}

/-- What is asked of the table by computing: guards are met where they come up ('gb' tells which answer each guard gives). -/
theorem region_rule3 {id : Nat} (n N : Nat) (d : Nat → Nat) (gb : Nat → Bool) (R : Nat → Value → World → Prop) (a0 : Act) (w0 : World) (hm : P.follows .mixedOrders = true) (hn : ops.size = n) (hN : a0.tmps.size = N)
    (ht : ((List.range n).all fun i => ((ops[i]?).map fun o => (o.dst == some (d i)) && decide (d i < N) && (match o.guard with | none => true | some (g, b) => b && gb g && decide (g < n) && o.after.any fun e => Region.binds .any e && (e.on == g)) && o.after.all fun e => !Region.binds .any e || decide (e.on < i)).getD false) = true)
    (hinj : ((List.range n).all fun i => (List.range n).all fun j => !(d i == d j) || (i == j)) = true)
    (hgb : ∀ i v w, gb i = true → R i v w → v = .bool true)
    (hstab : ∀ i v w w', R i v w → Below w.heap.size w w' → R i v w')
    (hstep : ∀ i o, i < n → ops[i]? = some o → o.dst = some (d i) → ∀ a w, Base d n a0 a → Below w0.heap.size w0 w → Region.wanted o (yielded ops a.tmps) = true →
      (∀ j, (o.after.any fun e => Region.binds .any e && (e.on == j)) = true → Has d R j a w) →
      ∀ K : Act → World → Prop, (∀ v w', R i v w' → Below w.heap.size w w' → K (a.put o.dst v) w') → wpOp P ops Q i K a w)
    (hend : ∀ a w, Base d n a0 a → Below w0.heap.size w0 w → (∀ i, i < n → Has d R i a w) → Q .normal a w) : (Code.region id ops true).wp P Q a0 w0 := by
  subst hn
  subst hN
  have hlt : ∀ i o, ops[i]? = some o → i < ops.size := fun i o h => by
    rcases Nat.lt_or_ge i ops.size with hl | hl
    · exact hl
    · rw [Array.getElem?_eq_none hl] at h; cases h
  have key : ∀ i o, ops[i]? = some o → o.dst = some (d i) ∧ d i < a0.tmps.size ∧ (∀ g b, o.guard = some (g, b) → b = true ∧ gb g = true ∧ g < ops.size ∧ (o.after.any fun e => Region.binds .any e && (e.on == g)) = true) ∧ ∀ e ∈ o.after, Region.binds .any e = true → e.on < i := by
    intro i o ho
    have h := List.all_eq_true.1 ht i (List.mem_range.2 (hlt i o ho))
    rw [ho] at h
    simp only [Option.map_some, Option.getD_some, Bool.and_eq_true, beq_iff_eq, decide_eq_true_eq] at h
    obtain ⟨⟨⟨h1, h2⟩, h3⟩, h4⟩ := h
    refine ⟨h1, h2, fun g b hg => ?_, fun e he hb => ?_⟩
    · rw [hg] at h3
      simp only [Bool.and_eq_true, decide_eq_true_eq] at h3
      exact ⟨h3.1.1.1, h3.1.1.2, h3.1.2, h3.2⟩
    · have := Array.all_eq_true_iff_forall_mem.1 h4 e he
      rw [hb] at this
      simpa using this
  refine region_rule (P := P) d R a0 w0 hm (fun i o ho => ⟨(key i o ho).1, (key i o ho).2.1⟩) (fun i j hi hj e => ?_) (fun i o ho => (key i o ho).2.2.2) hstab (fun i o ho a w hb hw hdep K hK => ?_) hend
  · have h := List.all_eq_true.1 (List.all_eq_true.1 hinj i (List.mem_range.2 hi)) j (List.mem_range.2 hj)
    rw [e] at h
    simpa using h
  · have hdep' : ∀ j, (o.after.any fun e => Region.binds .any e && (e.on == j)) = true → Has d R j a w := fun j hj => by
      rw [Array.any_eq_true] at hj
      obtain ⟨k, hk, h2⟩ := hj
      simp only [Bool.and_eq_true, beq_iff_eq] at h2
      obtain ⟨h2, h3⟩ := h2
      rw [← h3]
      exact hdep _ (Array.getElem_mem hk) h2
    refine hstep i o (hlt i o ho) ho (key i o ho).1 a w hb hw ?_ hdep' K (fun v w' h1 h2 => by rw [(key i o ho).1]; exact hK v w' h1 h2)
    unfold Region.wanted
    cases hg : o.guard with
    | none => rfl
    | some gp =>
      obtain ⟨g, b⟩ := gp
      obtain ⟨h1, h2, h3, h4⟩ := (key i o ho).2.2.1 g b hg
      obtain ⟨v, hv, hR⟩ := hdep' g h4
      have ev := hgb g v w h2 hR
      subst ev
      subst h1
      have hog : ops[g]? = some ops[g] := Array.getElem?_eq_getElem h3
      have hdg := (key g _ hog).1
      show (yielded ops a.tmps g == some true) = true
      unfold yielded
      rw [hog, Option.bind_some, hdg, Option.bind_some, hv]
      rfl

/-- The same, where some guards may not be met: 'gb' tells what each guard answers, 'sk' which operations are passed over so. -/
theorem region_rule4 {id : Nat} (n N : Nat) (d : Nat → Nat) (gb : Nat → Option Bool) (sk : Nat → Bool) (R : Nat → Value → World → Prop) (a0 : Act) (w0 : World) (hm : P.follows .mixedOrders = true) (hn : ops.size = n) (hN : a0.tmps.size = N)
    (ht : ((List.range n).all fun i => ((ops[i]?).map fun o => (o.dst == some (d i)) && decide (d i < N) && (match o.guard with | none => !sk i | some (g, b) => (gb g).isSome && (sk i == !(gb g == some b)) && decide (g < n) && o.after.any fun e => Region.binds .any e && (e.on == g)) && o.after.all fun e => !Region.binds .any e || decide (e.on < i)).getD false) = true)
    (hinj : ((List.range n).all fun i => (List.range n).all fun j => !(d i == d j) || (i == j)) = true)
    (hgb : ∀ i b v w, gb i = some b → R i v w → v = .bool b)
    (hsk : ∀ i w, sk i = true → R i undef w)
    (hstab : ∀ i v w w', R i v w → Below w.heap.size w w' → R i v w')
    (hstep : ∀ i o, i < n → sk i = false → ops[i]? = some o → o.dst = some (d i) → ∀ a w, Base d n a0 a → Below w0.heap.size w0 w → Region.wanted o (yielded ops a.tmps) = true →
      (∀ j, (o.after.any fun e => Region.binds .any e && (e.on == j)) = true → Has d R j a w) →
      ∀ K : Act → World → Prop, (∀ v w', R i v w' → Below w.heap.size w w' → K (a.put o.dst v) w') → wpOp P ops Q i K a w)
    (hend : ∀ a w, Base d n a0 a → Below w0.heap.size w0 w → (∀ i, i < n → Has d R i a w) → Q .normal a w) : (Code.region id ops true).wp P Q a0 w0 := by
  subst hn
  subst hN
  have hlt : ∀ i o, ops[i]? = some o → i < ops.size := fun i o h => by
    rcases Nat.lt_or_ge i ops.size with hl | hl
    · exact hl
    · rw [Array.getElem?_eq_none hl] at h; cases h
  have key : ∀ i o, ops[i]? = some o → o.dst = some (d i) ∧ d i < a0.tmps.size ∧ (o.guard = none → sk i = false) ∧ (∀ g b, o.guard = some (g, b) → (gb g).isSome = true ∧ sk i = !(gb g == some b) ∧ g < ops.size ∧ (o.after.any fun e => Region.binds .any e && (e.on == g)) = true) ∧ ∀ e ∈ o.after, Region.binds .any e = true → e.on < i := by
    intro i o ho
    have h := List.all_eq_true.1 ht i (List.mem_range.2 (hlt i o ho))
    rw [ho] at h
    simp only [Option.map_some, Option.getD_some, Bool.and_eq_true, beq_iff_eq, decide_eq_true_eq] at h
    obtain ⟨⟨⟨h1, h2⟩, h3⟩, h4⟩ := h
    refine ⟨h1, h2, fun hg => ?_, fun g b hg => ?_, fun e he hb => ?_⟩
    · rw [hg] at h3
      simpa using h3
    · rw [hg] at h3
      simp only [Bool.and_eq_true, decide_eq_true_eq, beq_iff_eq] at h3
      exact ⟨h3.1.1.1, h3.1.1.2, h3.1.2, h3.2⟩
    · have := Array.all_eq_true_iff_forall_mem.1 h4 e he
      rw [hb] at this
      simpa using this
  refine region_rule (P := P) d R a0 w0 hm (fun i o ho => ⟨(key i o ho).1, (key i o ho).2.1⟩) (fun i j hi hj e => ?_) (fun i o ho => (key i o ho).2.2.2.2) hstab (fun i o ho a w hb hw hdep K hK => ?_) hend
  · have h := List.all_eq_true.1 (List.all_eq_true.1 hinj i (List.mem_range.2 hi)) j (List.mem_range.2 hj)
    rw [e] at h
    simpa using h
  · have hdep' : ∀ j, (o.after.any fun e => Region.binds .any e && (e.on == j)) = true → Has d R j a w := fun j hj => by
      rw [Array.any_eq_true] at hj
      obtain ⟨k, hk, h2⟩ := hj
      simp only [Bool.and_eq_true, beq_iff_eq] at h2
      obtain ⟨h2, h3⟩ := h2
      rw [← h3]
      exact hdep _ (Array.getElem_mem hk) h2
    have hwant : Region.wanted o (yielded ops a.tmps) = !sk i := by
      unfold Region.wanted
      cases hg : o.guard with
      | none => rw [(key i o ho).2.2.1 hg]; rfl
      | some gp =>
        obtain ⟨g, b⟩ := gp
        obtain ⟨h1, h2, h3, h4⟩ := (key i o ho).2.2.2.1 g b hg
        obtain ⟨v, hv, hR⟩ := hdep' g h4
        obtain ⟨b', hb'⟩ := Option.isSome_iff_exists.1 h1
        have ev := hgb g b' v w hb' hR
        subst ev
        have hog : ops[g]? = some ops[g] := Array.getElem?_eq_getElem h3
        have hdg := (key g _ hog).1
        rw [h2, hb']
        show (yielded ops a.tmps g == some b) = _
        unfold yielded
        rw [hog, Option.bind_some, hdg, Option.bind_some, hv]
        cases b' <;> cases b <;> rfl
    cases hs : sk i with
    | false => exact hstep i o (hlt i o ho) hs ho (key i o ho).1 a w hb hw (by rw [hwant, hs]; rfl) hdep' K (fun v w' h1 h2 => by rw [(key i o ho).1]; exact hK v w' h1 h2)
    | true =>
      refine wpOp_step ho (fun K' hK' => ?_)
      rw [if_neg (by rw [hwant, hs]; simp)]
      refine hK' _ _ ?_
      rw [(key i o ho).1]
      exact hK undef w (hsk i w hs) (Below.refl _ _)

/-- A step whose run is known. -/
theorem st3 {i : Nat} {o : Oper} {a : Act} {w w' : World} {K : Act → World → Prop} {v : Value} (ho : ops[i]? = some o) (hw : Region.wanted o (yielded ops a.tmps) = true)
    (hrun : Sem.run P (execOp a.eval o) w = .ok (Next.value v) w') (hK : K (a.put o.dst v) w') : wpOp P ops Q i K a w := by
  refine wpOp_step ho (fun K' hK' => ?_)
  rw [if_pos hw]
  unfold Oper.wp
  rw [hrun]
  exact hK' _ _ hK

/-- A step that is a call of a function of the program. -/
theorem st3_call {i f : Nat} {o : Oper} {a : Act} {w : World} {K : Act → World → Prop} {vals : Array Value} {Z : Value → World → Prop} (ho : ops[i]? = some o) (hw : Region.wanted o (yielded ops a.tmps) = true)
    (hrun : Sem.run P (execOp a.eval o) w = .ok (Next.enter f vals) w) (hc : Calls P f vals w fun e w' => ∃ v, e = .returned v ∧ Z v w') (hK : ∀ v w', Z v w' → K (a.put o.dst v) w') : wpOp P ops Q i K a w := by
  refine wpOp_step ho (fun K' hK' => ?_)
  rw [if_pos hw]
  unfold Oper.wp
  rw [hrun]
  refine hc.mono ?_
  rintro e w' ⟨v, rfl, hz⟩
  exact hK' _ _ (hK v w' hz)

end

theorem fold_set (g : Nat → Value) : ∀ (ds : List Nat) (t0 : Array Value), (ds.foldl (fun t s => t.setIfInBounds s (g s)) t0).size = t0.size ∧
    ∀ s, (ds.foldl (fun t s => t.setIfInBounds s (g s)) t0)[s]? = if s ∈ ds ∧ s < t0.size then some (g s) else t0[s]?
  | [], t0 => ⟨rfl, fun s => by simp⟩
  | x :: ds, t0 => by
    obtain ⟨h1, h2⟩ := fold_set g ds (t0.setIfInBounds x (g x))
    rw [List.foldl_cons]
    refine ⟨by rw [h1]; simp, fun s => ?_⟩
    rw [h2]
    simp only [Array.size_setIfInBounds, List.mem_cons]
    by_cases hs : s < t0.size
    · by_cases hm : s ∈ ds
      · simp [hm, hs]
      · by_cases hx : s = x
        · subst hx
          simp [hm, hs]
        · simp [hm, hx, Array.getElem?_setIfInBounds_ne (fun e => hx e.symm)]
    · rw [if_neg (fun h => hs h.2), if_neg (fun h => hs h.2), Array.getElem?_eq_none (by simp; omega), Array.getElem?_eq_none (by omega)]

/-- Behind a region: the act is as it was but for the slots that the region writes. -/
theorem base_lit {d : Nat → Nat} {n : Nat} {a0 a : Act} (hb : Base d n a0 a) (ds : List Nat) (hds : (List.range n).map d = ds) :
    ∃ g : Nat → Value, (∀ s v, a.tmps[s]? = some v → g s = v) ∧ a = { tmps := ds.foldl (fun t s => t.setIfInBounds s (g s)) a0.tmps, defers := a0.defers } := by
  refine ⟨fun s => a.tmps.getD s undef, fun s v hv => by simp only [Array.getD_eq_getD_getElem?, hv]; rfl, ?_⟩
  obtain ⟨h1, h2⟩ := fold_set (fun s => a.tmps.getD s undef) ds a0.tmps
  have e : a.tmps = ds.foldl (fun t s => t.setIfInBounds s (a.tmps.getD s undef)) a0.tmps := by
    apply Array.ext_getElem?
    intro s
    rw [h2]
    by_cases hs : s < a0.tmps.size
    · by_cases hm : s ∈ ds
      · rw [if_pos ⟨hm, hs⟩]
        have hs' : s < a.tmps.size := by rw [hb.1]; exact hs
        simp [hs']
      · rw [if_neg (fun h => hm h.1)]
        refine hb.2.2 s fun i hi e => hm ?_
        rw [← hds]
        exact List.mem_map.2 ⟨i, List.mem_range.2 hi, e⟩
    · rw [if_neg (fun h => hs h.2), Array.getElem?_eq_none (by rw [hb.1]; omega), Array.getElem?_eq_none (by omega)]
  cases a with
  | mk t df =>
    have hd : df = a0.defers := hb.2.1
    subst hd
    simp only [Act.mk.injEq, and_true]
    exact e

end Go.Proofs.Ytihmddpafbackaa

namespace Go.Proofs.Ytihmddpafbackaa

open Go.RowKit Go.Maps

set_option linter.unusedVariables false

set_option linter.unusedSimpArgs false

/-- The value 'v' is a slice that shows the numbers 'l'. -/
def IsV (w : World) (v : Value) (l : List Int) : Prop := ∃ A c, v = .slice A l.length c ∧ ArgI w A l.length c l

theorem IsV.on {w w' : World} {v : Value} {l : List Int} (h : IsV w v l) (hb : Below w.heap.size w w') : IsV w' v l := let ⟨A, c, e, h⟩ := h; ⟨A, c, e, h.after hb⟩

theorem IsV.new {w : World} {l : List Int} (h : ∀ y ∈ l, Wf y) (hl : l.length ≤ maxLen) : IsV (w.alloc (.cells (cis l).toArray 3)) (.slice (some ⟨w.heap.size, 0, none⟩) l.length l.length) l := by
  refine ⟨_, _, rfl, rfl, Nat.le_refl _, hl, ⟨by rw [cis_length]; simp, fun _ => ⟨w.heap.size, 0, rfl, by simp, fun j u hu => ?_⟩⟩, h⟩
  rw [Nat.zero_add, cell_of_row _ _ j _ 3 (0, 0) (heap_alloc_new w _)]
  simpa using hu

/-- The value 'v' is a slice that shows the bytes 'l'. -/
def BV (w : World) (v : Value) (l : List UInt8) : Prop := ∃ A c, v = .slice A l.length c ∧ l.length ≤ c ∧ c ≤ maxLen ∧ Bs w A l

theorem BV.on {w w' : World} {v : Value} {l : List UInt8} (h : BV w v l) (hb : Below w.heap.size w w') : BV w' v l := let ⟨A, c, e, h1, h2, h⟩ := h; ⟨A, c, e, h1, h2, h.after hb⟩

theorem BV.ofNew {w w' : World} {v : Value} {l : List UInt8} (h : NewB w l v w') : BV w' v l := h.form

def BssV (w : World) (v : Value) (n : Nat) (ls : List (List UInt8)) : Prop := ∃ A, v = .slice A n n ∧ Bss w A ls

theorem BssV.on {w w' : World} {v : Value} {n : Nat} {ls : List (List UInt8)} (h : BssV w v n ls) (hb : Below w.heap.size w w') : BssV w' v n ls := let ⟨A, e, h⟩ := h; ⟨A, e, h.after hb⟩

/-- The value 'v' is a list of one text. -/
def Bs1V (w : World) (v : Value) (l : List UInt8) : Prop := ∃ A, v = .slice A 1 1 ∧ Bss w A [l]

theorem Bs1V.on {w w' : World} {v : Value} {l : List UInt8} (h : Bs1V w v l) (hb : Below w.heap.size w w') : Bs1V w' v l := let ⟨A, e, h⟩ := h; ⟨A, e, h.after hb⟩

def MineV (w : World) (base : Nat) (v : Value) (l : List UInt8) : Prop := Mine w base 5 v l

theorem MineV.on {w w' : World} {base : Nat} {v : Value} {l : List UInt8} (h : MineV w base v l) (hb : Below w.heap.size w w') : MineV w' base v l := Mine.after h hb

theorem bss4 {w : World} {t : TypeId} {A1 A2 A3 A4 : Option Addr} {c1 c2 c3 c4 : Nat} {l1 l2 l3 l4 : List UInt8} (h1 : c1 ≤ maxLen ∧ Bs w A1 l1) (h2 : c2 ≤ maxLen ∧ Bs w A2 l2) (h3 : c3 ≤ maxLen ∧ Bs w A3 l3) (h4 : c4 ≤ maxLen ∧ Bs w A4 l4) :
    Bss (w.alloc (.cells #[.slice A1 l1.length c1, .slice A2 l2.length c2, .slice A3 l3.length c3, .slice A4 l4.length c4] t)) (some ⟨w.heap.size, 0, none⟩) [l1, l2, l3, l4] := by
  refine Bss.made w t _ _ rfl fun i hi => ?_
  match i, hi with
  | 0, _ => exact ⟨A1, c1, rfl, h1.2⟩
  | 1, _ => exact ⟨A2, c2, rfl, h2.2⟩
  | 2, _ => exact ⟨A3, c3, rfl, h3.2⟩
  | 3, _ => exact ⟨A4, c4, rfl, h4.2⟩

theorem wf_nat {n : Nat} (h : n ≤ 17592186043904) : Wf (n : Int) := by
  simp only [Wf, Lit.wf, IntKind.min, IntKind.max, IntKind.signed, IntKind.bits]
  simp
  omega

theorem flat_wb {x : Wl} {n : Nat} (h : x.nx.length = n) : [ibs [x.kd, x.cl, x.sp, x.gr, x.ep, x.bl], sb x.da, ibs [x.od, x.nw, (n : Int)], ibs x.nx].flatten = wb x := by
  subst h
  unfold wb
  simp only [List.flatten_cons, List.flatten_nil, List.append_nil, List.append_assoc]

theorem flat_small {x : Wl} {n : Nat} (hm : May x) (h : x.nx.length = n) : [ibs [x.kd, x.cl, x.sp, x.gr, x.ep, x.bl], sb x.da, ibs [x.od, x.nw, (n : Int)], ibs x.nx].flatten.length ≤ 140737488355328 := by
  rw [flat_wb h]
  have := (wb_len hm).2
  omega

theorem wf6 {w : World} {x : Wl} {Dx : Option Addr} {ndx cdx : Nat} {Nx : Option Addr} {nnx cnx : Nat} (h : ArgW w x Dx ndx cdx Nx nnx cnx) : ∀ y ∈ [x.kd, x.cl, x.sp, x.gr, x.ep, x.bl], Wf y := by
  obtain ⟨_, _, h1, h2, h3, h4, h5, h6, h7, h8⟩ := h
  intro y hy
  simp only [List.mem_cons, List.not_mem_nil, or_false] at hy
  rcases hy with rfl | rfl | rfl | rfl | rfl | rfl
  · exact h5
  · exact h1
  · exact h2
  · exact h3
  · exact h4
  · exact h6

theorem wf3 {w : World} {x : Wl} {Dx : Option Addr} {ndx cdx : Nat} {Nx : Option Addr} {nnx cnx : Nat} (h : ArgW w x Dx ndx cdx Nx nnx cnx) : ∀ y ∈ [x.od, x.nw, (nnx : Int)], Wf y := by
  obtain ⟨_, ⟨_, h0⟩, h1, h2, h3, h4, h5, h6, h7, h8⟩ := h
  intro y hy
  simp only [List.mem_cons, List.not_mem_nil, or_false] at hy
  rcases hy with rfl | rfl | rfl
  · exact h7
  · exact h8
  · exact wf_nat h0

def waR (gb base : Nat) (x : Wl) (Dx : Option Addr) (ndx cdx : Nat) (Nx : Option Addr) (nnx cnx : Nat) : Nat → Value → World → Prop
  | 0 => fun v w => v = .pointer (some ⟨gb, 4, none⟩)
  | 1 => fun v w => v = .int .i64 x.kd
  | 2 => fun v w => v = .pointer (some ⟨gb, 0, none⟩)
  | 3 => fun v w => v = .int .i64 x.cl
  | 4 => fun v w => v = .pointer (some ⟨gb, 1, none⟩)
  | 5 => fun v w => v = .int .i64 x.sp
  | 6 => fun v w => v = .pointer (some ⟨gb, 2, none⟩)
  | 7 => fun v w => v = .int .i64 x.gr
  | 8 => fun v w => v = .pointer (some ⟨gb, 3, none⟩)
  | 9 => fun v w => v = .int .i64 x.ep
  | 10 => fun v w => v = .pointer (some ⟨gb, 5, none⟩)
  | 11 => fun v w => v = .int .i64 x.bl
  | 12 => fun v w => IsV w v [x.kd, x.cl, x.sp, x.gr, x.ep, x.bl]
  | 13 => fun v w => BV w v (ibs [x.kd, x.cl, x.sp, x.gr, x.ep, x.bl])
  | 14 => fun v w => v = .pointer (some ⟨gb, 6, none⟩)
  | 15 => fun v w => v = .slice Dx ndx cdx
  | 16 => fun v w => Bs1V w v x.da
  | 17 => fun v w => BV w v (sb x.da)
  | 18 => fun v w => v = .pointer (some ⟨gb, 7, none⟩)
  | 19 => fun v w => v = .int .i64 x.od
  | 20 => fun v w => v = .pointer (some ⟨gb, 8, none⟩)
  | 21 => fun v w => v = .int .i64 x.nw
  | 22 => fun v w => v = .pointer (some ⟨gb, 9, none⟩)
  | 23 => fun v w => v = .slice Nx nnx cnx
  | 24 => fun v w => v = .int .i64 nnx
  | 25 => fun v w => IsV w v [x.od, x.nw, (nnx : Int)]
  | 26 => fun v w => BV w v (ibs [x.od, x.nw, (nnx : Int)])
  | 27 => fun v w => v = .pointer (some ⟨gb, 9, none⟩)
  | 28 => fun v w => v = .slice Nx nnx cnx
  | 29 => fun v w => BV w v (ibs x.nx)
  | 30 => fun v w => BssV w v 4 [ibs [x.kd, x.cl, x.sp, x.gr, x.ep, x.bl], sb x.da, ibs [x.od, x.nw, (nnx : Int)], ibs x.nx]
  | 31 => fun v w => MineV w base v (wb x)
  | 32 => fun v w => MineV w base v (wb x)
  | _ => fun _ _ => True

def waD (i : Nat) : Nat := ([3, 4, 5, 6, 7, 8, 9, 10, 11, 12, 13, 14, 15, 16, 17, 18, 19, 20, 21, 22, 23, 24, 25, 26, 27, 28, 29, 30, 31, 32, 33, 34, 2] : List Nat).getD i 0

def waG : Nat → Option Bool
  | _ => none

def waS (i : Nat) : Bool := ([] : List Nat).contains i

theorem wa_gb (gb base : Nat) (x : Wl) (Dx : Option Addr) (ndx cdx : Nat) (Nx : Option Addr) (nnx cnx : Nat) : ∀ i b v w, waG i = some b → waR gb base x Dx ndx cdx Nx nnx cnx i v w → v = .bool b := by
  intro i b v w h hR
  unfold waG at h
  split at h
  all_goals first | (injection h with h; subst h; exact hR) | cases h

theorem wa_sk (gb base : Nat) (x : Wl) (Dx : Option Addr) (ndx cdx : Nat) (Nx : Option Addr) (nnx cnx : Nat) : ∀ i w, waS i = true → waR gb base x Dx ndx cdx Nx nnx cnx i undef w := by
  intro i w h
  simp [waS] at h

theorem wa_on (gb base : Nat) (x : Wl) (Dx : Option Addr) (ndx cdx : Nat) (Nx : Option Addr) (nnx cnx : Nat) : ∀ i v w w', waR gb base x Dx ndx cdx Nx nnx cnx i v w → Below w.heap.size w w' → waR gb base x Dx ndx cdx Nx nnx cnx i v w'
  | 0, v, w, w', h, _ => h
  | 1, v, w, w', h, _ => h
  | 2, v, w, w', h, _ => h
  | 3, v, w, w', h, _ => h
  | 4, v, w, w', h, _ => h
  | 5, v, w, w', h, _ => h
  | 6, v, w, w', h, _ => h
  | 7, v, w, w', h, _ => h
  | 8, v, w, w', h, _ => h
  | 9, v, w, w', h, _ => h
  | 10, v, w, w', h, _ => h
  | 11, v, w, w', h, _ => h
  | 12, v, w, w', h, hb => IsV.on (show IsV w v [x.kd, x.cl, x.sp, x.gr, x.ep, x.bl] from h) hb
  | 13, v, w, w', h, hb => BV.on (show BV w v (ibs [x.kd, x.cl, x.sp, x.gr, x.ep, x.bl]) from h) hb
  | 14, v, w, w', h, _ => h
  | 15, v, w, w', h, _ => h
  | 16, v, w, w', h, hb => Bs1V.on (show Bs1V w v x.da from h) hb
  | 17, v, w, w', h, hb => BV.on (show BV w v (sb x.da) from h) hb
  | 18, v, w, w', h, _ => h
  | 19, v, w, w', h, _ => h
  | 20, v, w, w', h, _ => h
  | 21, v, w, w', h, _ => h
  | 22, v, w, w', h, _ => h
  | 23, v, w, w', h, _ => h
  | 24, v, w, w', h, _ => h
  | 25, v, w, w', h, hb => IsV.on (show IsV w v [x.od, x.nw, (nnx : Int)] from h) hb
  | 26, v, w, w', h, hb => BV.on (show BV w v (ibs [x.od, x.nw, (nnx : Int)]) from h) hb
  | 27, v, w, w', h, _ => h
  | 28, v, w, w', h, _ => h
  | 29, v, w, w', h, hb => BV.on (show BV w v (ibs x.nx) from h) hb
  | 30, v, w, w', h, hb => BssV.on (show BssV w v 4 [ibs [x.kd, x.cl, x.sp, x.gr, x.ep, x.bl], sb x.da, ibs [x.od, x.nw, (nnx : Int)], ibs x.nx] from h) hb
  | 31, v, w, w', h, hb => MineV.on (show MineV w base v (wb x) from h) hb
  | 32, v, w, w', h, hb => MineV.on (show MineV w base v (wb x) from h) hb
  | i + 33, v, w, w', h, hb => trivial

def waOps : List Op := [.fieldAddr 25 (.tmp 1) 4,
  .load 3 (.tmp 3),
  .fieldAddr 25 (.tmp 1) 0,
  .load 3 (.tmp 5),
  .fieldAddr 25 (.tmp 1) 1,
  .load 3 (.tmp 7),
  .fieldAddr 25 (.tmp 1) 2,
  .load 3 (.tmp 9),
  .fieldAddr 25 (.tmp 1) 3,
  .load 3 (.tmp 11),
  .fieldAddr 25 (.tmp 1) 5,
  .load 3 (.tmp 13),
  .buildSlice 23 6 #[(0, .tmp 4), (1, .tmp 6), (2, .tmp 8), (3, .tmp 10), (4, .tmp 12), (5, .tmp 14)],
  .call { callee := .value (.func 51), args := #[.tmp 15], argTypes := #[23] },
  .fieldAddr 25 (.tmp 1) 6,
  .load 22 (.tmp 17),
  .buildSlice 68 1 #[(0, .tmp 18)],
  .call { callee := .value (.func 52), args := #[.tmp 19], argTypes := #[68] },
  .fieldAddr 25 (.tmp 1) 7,
  .load 3 (.tmp 21),
  .fieldAddr 25 (.tmp 1) 8,
  .load 3 (.tmp 23),
  .fieldAddr 25 (.tmp 1) 9,
  .load 23 (.tmp 25),
  .call { callee := .builtin .len, args := #[.tmp 26], argTypes := #[23] },
  .buildSlice 23 3 #[(0, .tmp 22), (1, .tmp 24), (2, .tmp 27)],
  .call { callee := .value (.func 51), args := #[.tmp 28], argTypes := #[23] },
  .fieldAddr 25 (.tmp 1) 9,
  .load 23 (.tmp 30),
  .call { callee := .value (.func 51), args := #[.tmp 31], argTypes := #[23] },
  .buildSlice 68 4 #[(0, .tmp 16), (1, .tmp 20), (2, .tmp 29), (3, .tmp 32)],
  .call { callee := .value (.func 53), args := #[.tmp 33], argTypes := #[68] },
  .assign (.tmp 34)]

def waNeeds : Nat → List Nat
  | 0 => []
  | 1 => [0]
  | 2 => []
  | 3 => [2]
  | 4 => []
  | 5 => [4]
  | 6 => []
  | 7 => [6]
  | 8 => []
  | 9 => [8]
  | 10 => []
  | 11 => [10]
  | 12 => [1, 3, 5, 7, 9, 11]
  | 13 => [12]
  | 14 => []
  | 15 => [14]
  | 16 => [15]
  | 17 => [16]
  | 18 => []
  | 19 => [18]
  | 20 => []
  | 21 => [20]
  | 22 => []
  | 23 => [22]
  | 24 => [23]
  | 25 => [19, 21, 24]
  | 26 => [25]
  | 27 => []
  | 28 => [27]
  | 29 => [28]
  | 30 => [13, 17, 26, 29]
  | 31 => [30]
  | 32 => [31]
  | _ => []

set_option maxRecDepth 100000 in
set_option maxHeartbeats 3200000 in
theorem wa_step {ops : Array Oper} {Q : Exit → Act → World → Prop} {a0 : Act} {w0 : World} (gb base : Nat) (x : Wl) (Dx : Option Addr) (ndx cdx : Nat) (Nx : Option Addr) (nnx cnx : Nat) (hops : ((List.range 33).map fun i => (ops[i]?).map Oper.op) = waOps.map some)
    (hnd : ((List.range 33).all fun i => (waNeeds i).all fun j => ((ops[i]?).map fun o => o.after.any fun e => Region.binds .any e && (e.on == j)).getD false) = true)
    (x1 : a0.tmps[1]? = some (.pointer (some ⟨gb, 0, none⟩)))
    (hB : Blk w0 gb 25 [.int .i64 x.cl, .int .i64 x.sp, .int .i64 x.gr, .int .i64 x.ep, .int .i64 x.kd, .int .i64 x.bl, .slice Dx ndx cdx, .int .i64 x.od, .int .i64 x.nw, .slice Nx nnx cnx]) (hW : ArgW w0 x Dx ndx cdx Nx nnx cnx) (hm : May x) (hb0 : base ≤ w0.heap.size) (hn7 : nnx ≤ 7) :
    ∀ i o, i < 33 → waS i = false → ops[i]? = some o → o.dst = some (waD i) → ∀ a w, Base waD 33 a0 a → Below w0.heap.size w0 w → Region.wanted o (yielded ops a.tmps) = true →
      (∀ j, (o.after.any fun e => Region.binds .any e && (e.on == j)) = true → Has waD (waR gb base x Dx ndx cdx Nx nnx cnx) j a w) →
      ∀ K : Act → World → Prop, (∀ v w', waR gb base x Dx ndx cdx Nx nnx cnx i v w' → Below w.heap.size w w' → K (a.put o.dst v) w') → wpOp Try.prog ops Q i K a w := by
  intro i o hi hs ho hds a w hbase hbl hwt hdep0 K hK
  have hop : some o.op = waOps[i]? := by
    have h1 : ((List.range 33).map fun i => (ops[i]?).map Oper.op)[i]? = some (some o.op) := by
      rw [List.getElem?_map, List.getElem?_range hi]; simp only [Option.map_some, ho]
    rw [hops, List.getElem?_map] at h1
    cases h2 : waOps[i]? with
    | none => rw [h2] at h1; cases h1
    | some y => rw [h2] at h1; simp only [Option.map_some, Option.some.injEq] at h1; rw [h1]
  have hdep : ∀ j, j ∈ waNeeds i → Has waD (waR gb base x Dx ndx cdx Nx nnx cnx) j a w := fun j hj => by
    have h1 := List.all_eq_true.1 (List.all_eq_true.1 hnd i (List.mem_range.2 hi)) j hj
    rw [ho] at h1
    exact hdep0 j h1
  clear hdep0 hops hnd
  match i, hi, hs, ho, hop, hds, hdep, hK with
  | 0, _, hs, ho, hop, hds, hdep, hK =>
    have hop : o.op = .fieldAddr 25 (.tmp 1) 4 := Option.some.inj hop
    have hu1 : a.tmps[1]? = some (.pointer (some ⟨gb, 0, none⟩)) := (hbase.2.2 1 (by decide)).trans x1
    have e1 : a.eval (.tmp 1) = _ := ev_tmp hu1
    refine st3 ho hwt (v := .pointer (some ⟨gb, 4, none⟩)) (w' := w) ?_ (hK _ w rfl (Below.refl _ _))
    unfold execOp
    simp only [hop, Option.map_some, Option.map_none, e1]
    first | rfl | (go_simp; done) | (go_simp; simp; done) | (go_simp; intro h; omega)
  | 1, _, hs, ho, hop, hds, hdep, hK =>
    have hop : o.op = .load 3 (.tmp 3) := Option.some.inj hop
    obtain ⟨u3, hu3, hv3⟩ := hdep 0 (by decide)
    have hv3' : u3 = .pointer (some ⟨gb, 4, none⟩) := hv3
    subst hv3'
    have e3 : a.eval (.tmp 3) = _ := ev_tmp hu3
    refine st3 ho hwt (v := .int .i64 x.kd) (w' := w) ?_ (hK _ w rfl (Below.refl _ _))
    have k4 : w.cell? ⟨gb, 4, none⟩ = some (.int .i64 x.kd) := (hB.below hbl hB.lt).cell rfl
    unfold execOp
    simp only [hop, Option.map_some, Option.map_none, e3]
    first | rfl | (go_simp; done) | (go_simp; simp; done) | (go_simp; intro h; omega)
  | 2, _, hs, ho, hop, hds, hdep, hK =>
    have hop : o.op = .fieldAddr 25 (.tmp 1) 0 := Option.some.inj hop
    have hu1 : a.tmps[1]? = some (.pointer (some ⟨gb, 0, none⟩)) := (hbase.2.2 1 (by decide)).trans x1
    have e1 : a.eval (.tmp 1) = _ := ev_tmp hu1
    refine st3 ho hwt (v := .pointer (some ⟨gb, 0, none⟩)) (w' := w) ?_ (hK _ w rfl (Below.refl _ _))
    unfold execOp
    simp only [hop, Option.map_some, Option.map_none, e1]
    first | rfl | (go_simp; done) | (go_simp; simp; done) | (go_simp; intro h; omega)
  | 3, _, hs, ho, hop, hds, hdep, hK =>
    have hop : o.op = .load 3 (.tmp 5) := Option.some.inj hop
    obtain ⟨u5, hu5, hv5⟩ := hdep 2 (by decide)
    have hv5' : u5 = .pointer (some ⟨gb, 0, none⟩) := hv5
    subst hv5'
    have e5 : a.eval (.tmp 5) = _ := ev_tmp hu5
    refine st3 ho hwt (v := .int .i64 x.cl) (w' := w) ?_ (hK _ w rfl (Below.refl _ _))
    have k0 : w.cell? ⟨gb, 0, none⟩ = some (.int .i64 x.cl) := (hB.below hbl hB.lt).cell rfl
    unfold execOp
    simp only [hop, Option.map_some, Option.map_none, e5]
    first | rfl | (go_simp; done) | (go_simp; simp; done) | (go_simp; intro h; omega)
  | 4, _, hs, ho, hop, hds, hdep, hK =>
    have hop : o.op = .fieldAddr 25 (.tmp 1) 1 := Option.some.inj hop
    have hu1 : a.tmps[1]? = some (.pointer (some ⟨gb, 0, none⟩)) := (hbase.2.2 1 (by decide)).trans x1
    have e1 : a.eval (.tmp 1) = _ := ev_tmp hu1
    refine st3 ho hwt (v := .pointer (some ⟨gb, 1, none⟩)) (w' := w) ?_ (hK _ w rfl (Below.refl _ _))
    unfold execOp
    simp only [hop, Option.map_some, Option.map_none, e1]
    first | rfl | (go_simp; done) | (go_simp; simp; done) | (go_simp; intro h; omega)
  | 5, _, hs, ho, hop, hds, hdep, hK =>
    have hop : o.op = .load 3 (.tmp 7) := Option.some.inj hop
    obtain ⟨u7, hu7, hv7⟩ := hdep 4 (by decide)
    have hv7' : u7 = .pointer (some ⟨gb, 1, none⟩) := hv7
    subst hv7'
    have e7 : a.eval (.tmp 7) = _ := ev_tmp hu7
    refine st3 ho hwt (v := .int .i64 x.sp) (w' := w) ?_ (hK _ w rfl (Below.refl _ _))
    have k1 : w.cell? ⟨gb, 1, none⟩ = some (.int .i64 x.sp) := (hB.below hbl hB.lt).cell rfl
    unfold execOp
    simp only [hop, Option.map_some, Option.map_none, e7]
    first | rfl | (go_simp; done) | (go_simp; simp; done) | (go_simp; intro h; omega)
  | 6, _, hs, ho, hop, hds, hdep, hK =>
    have hop : o.op = .fieldAddr 25 (.tmp 1) 2 := Option.some.inj hop
    have hu1 : a.tmps[1]? = some (.pointer (some ⟨gb, 0, none⟩)) := (hbase.2.2 1 (by decide)).trans x1
    have e1 : a.eval (.tmp 1) = _ := ev_tmp hu1
    refine st3 ho hwt (v := .pointer (some ⟨gb, 2, none⟩)) (w' := w) ?_ (hK _ w rfl (Below.refl _ _))
    unfold execOp
    simp only [hop, Option.map_some, Option.map_none, e1]
    first | rfl | (go_simp; done) | (go_simp; simp; done) | (go_simp; intro h; omega)
  | 7, _, hs, ho, hop, hds, hdep, hK =>
    have hop : o.op = .load 3 (.tmp 9) := Option.some.inj hop
    obtain ⟨u9, hu9, hv9⟩ := hdep 6 (by decide)
    have hv9' : u9 = .pointer (some ⟨gb, 2, none⟩) := hv9
    subst hv9'
    have e9 : a.eval (.tmp 9) = _ := ev_tmp hu9
    refine st3 ho hwt (v := .int .i64 x.gr) (w' := w) ?_ (hK _ w rfl (Below.refl _ _))
    have k2 : w.cell? ⟨gb, 2, none⟩ = some (.int .i64 x.gr) := (hB.below hbl hB.lt).cell rfl
    unfold execOp
    simp only [hop, Option.map_some, Option.map_none, e9]
    first | rfl | (go_simp; done) | (go_simp; simp; done) | (go_simp; intro h; omega)
  | 8, _, hs, ho, hop, hds, hdep, hK =>
    have hop : o.op = .fieldAddr 25 (.tmp 1) 3 := Option.some.inj hop
    have hu1 : a.tmps[1]? = some (.pointer (some ⟨gb, 0, none⟩)) := (hbase.2.2 1 (by decide)).trans x1
    have e1 : a.eval (.tmp 1) = _ := ev_tmp hu1
    refine st3 ho hwt (v := .pointer (some ⟨gb, 3, none⟩)) (w' := w) ?_ (hK _ w rfl (Below.refl _ _))
    unfold execOp
    simp only [hop, Option.map_some, Option.map_none, e1]
    first | rfl | (go_simp; done) | (go_simp; simp; done) | (go_simp; intro h; omega)
  | 9, _, hs, ho, hop, hds, hdep, hK =>
    have hop : o.op = .load 3 (.tmp 11) := Option.some.inj hop
    obtain ⟨u11, hu11, hv11⟩ := hdep 8 (by decide)
    have hv11' : u11 = .pointer (some ⟨gb, 3, none⟩) := hv11
    subst hv11'
    have e11 : a.eval (.tmp 11) = _ := ev_tmp hu11
    refine st3 ho hwt (v := .int .i64 x.ep) (w' := w) ?_ (hK _ w rfl (Below.refl _ _))
    have k3 : w.cell? ⟨gb, 3, none⟩ = some (.int .i64 x.ep) := (hB.below hbl hB.lt).cell rfl
    unfold execOp
    simp only [hop, Option.map_some, Option.map_none, e11]
    first | rfl | (go_simp; done) | (go_simp; simp; done) | (go_simp; intro h; omega)
  | 10, _, hs, ho, hop, hds, hdep, hK =>
    have hop : o.op = .fieldAddr 25 (.tmp 1) 5 := Option.some.inj hop
    have hu1 : a.tmps[1]? = some (.pointer (some ⟨gb, 0, none⟩)) := (hbase.2.2 1 (by decide)).trans x1
    have e1 : a.eval (.tmp 1) = _ := ev_tmp hu1
    refine st3 ho hwt (v := .pointer (some ⟨gb, 5, none⟩)) (w' := w) ?_ (hK _ w rfl (Below.refl _ _))
    unfold execOp
    simp only [hop, Option.map_some, Option.map_none, e1]
    first | rfl | (go_simp; done) | (go_simp; simp; done) | (go_simp; intro h; omega)
  | 11, _, hs, ho, hop, hds, hdep, hK =>
    have hop : o.op = .load 3 (.tmp 13) := Option.some.inj hop
    obtain ⟨u13, hu13, hv13⟩ := hdep 10 (by decide)
    have hv13' : u13 = .pointer (some ⟨gb, 5, none⟩) := hv13
    subst hv13'
    have e13 : a.eval (.tmp 13) = _ := ev_tmp hu13
    refine st3 ho hwt (v := .int .i64 x.bl) (w' := w) ?_ (hK _ w rfl (Below.refl _ _))
    have k5 : w.cell? ⟨gb, 5, none⟩ = some (.int .i64 x.bl) := (hB.below hbl hB.lt).cell rfl
    unfold execOp
    simp only [hop, Option.map_some, Option.map_none, e13]
    first | rfl | (go_simp; done) | (go_simp; simp; done) | (go_simp; intro h; omega)
  | 12, _, hs, ho, hop, hds, hdep, hK =>
    have hop : o.op = .buildSlice 23 6 #[(0, .tmp 4), (1, .tmp 6), (2, .tmp 8), (3, .tmp 10), (4, .tmp 12), (5, .tmp 14)] := Option.some.inj hop
    obtain ⟨u4, hu4, hv4⟩ := hdep 1 (by decide)
    have hv4' : u4 = .int .i64 x.kd := hv4
    subst hv4'
    have e4 : a.eval (.tmp 4) = _ := ev_tmp hu4
    obtain ⟨u6, hu6, hv6⟩ := hdep 3 (by decide)
    have hv6' : u6 = .int .i64 x.cl := hv6
    subst hv6'
    have e6 : a.eval (.tmp 6) = _ := ev_tmp hu6
    obtain ⟨u8, hu8, hv8⟩ := hdep 5 (by decide)
    have hv8' : u8 = .int .i64 x.sp := hv8
    subst hv8'
    have e8 : a.eval (.tmp 8) = _ := ev_tmp hu8
    obtain ⟨u10, hu10, hv10⟩ := hdep 7 (by decide)
    have hv10' : u10 = .int .i64 x.gr := hv10
    subst hv10'
    have e10 : a.eval (.tmp 10) = _ := ev_tmp hu10
    obtain ⟨u12, hu12, hv12⟩ := hdep 9 (by decide)
    have hv12' : u12 = .int .i64 x.ep := hv12
    subst hv12'
    have e12 : a.eval (.tmp 12) = _ := ev_tmp hu12
    obtain ⟨u14, hu14, hv14⟩ := hdep 11 (by decide)
    have hv14' : u14 = .int .i64 x.bl := hv14
    subst hv14'
    have e14 : a.eval (.tmp 14) = _ := ev_tmp hu14
    have hrun : (Instr.buildSlice 23 6 #[(0, Value.int .i64 x.kd), (1, Value.int .i64 x.cl), (2, Value.int .i64 x.sp), (3, Value.int .i64 x.gr), (4, Value.int .i64 x.ep), (5, Value.int .i64 x.bl)]).run Try.prog w = .ok (.slice (some ⟨w.heap.size, 0, none⟩) 6 6) (w.alloc (.cells (cis [x.kd, x.cl, x.sp, x.gr, x.ep, x.bl]).toArray 3)) := by kernel_rfl
    refine st3 ho hwt (v := .slice (some ⟨w.heap.size, 0, none⟩) 6 6) (w' := w.alloc (.cells (cis [x.kd, x.cl, x.sp, x.gr, x.ep, x.bl]).toArray 3)) ?_ (hK _ _ (IsV.new (wf6 hW) (by simp [maxLen])) ((Below.refl _ _).alloc (Nat.le_refl _) _))
    unfold execOp
    simp only [hop, List.map_toArray, List.map_cons, List.map_nil, e4, e6, e8, e10, e12, e14, Sem.run_bind, hrun, Result.andThen_ok]
    rfl
  | 13, _, hs, ho, hop, hds, hdep, hK =>
    have hop : o.op = .call { callee := .value (.func 51), args := #[.tmp 15], argTypes := #[23] } := Option.some.inj hop
    obtain ⟨u15, hu15, hv15⟩ := hdep 12 (by decide)
    have hv15' : IsV w u15 [x.kd, x.cl, x.sp, x.gr, x.ep, x.bl] := hv15
    have e15 : a.eval (.tmp 15) = _ := ev_tmp hu15
    obtain ⟨A, c, rfl, hA⟩ := hv15'
    refine st3_call ho hwt (f := 51) (vals := #[.slice A 6 c]) (Z := fun v w' => BV w' v (ibs [x.kd, x.cl, x.sp, x.gr, x.ep, x.bl]) ∧ Below w.heap.size w w') ?_ ?_ ?_
    · unfold execOp
      simp only [hop, e15, resolve, invoke, Sem.run_bind, Sem.run_pure, Result.andThen_ok, List.map_toArray, List.map_cons, List.map_nil]
      first | rfl | exact enters_of Try.func51 (by kernel_rfl) rfl _ _
    · exact (numbers_any A _ c _ w hA (by simp)).mono fun e w' ⟨v, he, hN⟩ => ⟨v, he, BV.ofNew hN, hN.2⟩
    · rintro v w' ⟨h1, h2⟩
      exact hK v w' h1 h2
  | 14, _, hs, ho, hop, hds, hdep, hK =>
    have hop : o.op = .fieldAddr 25 (.tmp 1) 6 := Option.some.inj hop
    have hu1 : a.tmps[1]? = some (.pointer (some ⟨gb, 0, none⟩)) := (hbase.2.2 1 (by decide)).trans x1
    have e1 : a.eval (.tmp 1) = _ := ev_tmp hu1
    refine st3 ho hwt (v := .pointer (some ⟨gb, 6, none⟩)) (w' := w) ?_ (hK _ w rfl (Below.refl _ _))
    unfold execOp
    simp only [hop, Option.map_some, Option.map_none, e1]
    first | rfl | (go_simp; done) | (go_simp; simp; done) | (go_simp; intro h; omega)
  | 15, _, hs, ho, hop, hds, hdep, hK =>
    have hop : o.op = .load 22 (.tmp 17) := Option.some.inj hop
    obtain ⟨u17, hu17, hv17⟩ := hdep 14 (by decide)
    have hv17' : u17 = .pointer (some ⟨gb, 6, none⟩) := hv17
    subst hv17'
    have e17 : a.eval (.tmp 17) = _ := ev_tmp hu17
    refine st3 ho hwt (v := .slice Dx ndx cdx) (w' := w) ?_ (hK _ w rfl (Below.refl _ _))
    have k6 : w.cell? ⟨gb, 6, none⟩ = some (.slice Dx ndx cdx) := (hB.below hbl hB.lt).cell rfl
    unfold execOp
    simp only [hop, Option.map_some, Option.map_none, e17]
    first | rfl | (go_simp; done) | (go_simp; simp; done) | (go_simp; intro h; omega)
  | 16, _, hs, ho, hop, hds, hdep, hK =>
    have hop : o.op = .buildSlice 68 1 #[(0, .tmp 18)] := Option.some.inj hop
    obtain ⟨u18, hu18, hv18⟩ := hdep 15 (by decide)
    have hv18' : u18 = .slice Dx ndx cdx := hv18
    subst hv18'
    have e18 : a.eval (.tmp 18) = _ := ev_tmp hu18
    have hrun : (Instr.buildSlice 68 1 #[(0, Value.slice Dx ndx cdx)]).run Try.prog w = .ok (.slice (some ⟨w.heap.size, 0, none⟩) 1 1) (w.alloc (.cells #[.slice Dx ndx cdx] 22)) := by kernel_rfl
    refine st3 ho hwt (v := .slice (some ⟨w.heap.size, 0, none⟩) 1 1) (w' := w.alloc (.cells #[.slice Dx ndx cdx] 22)) ?_ (hK _ _ ⟨_, rfl, Bss.made1 (hW.1.2.2.2.1.after hbl) hW.1.1⟩ ((Below.refl _ _).alloc (Nat.le_refl _) _))
    unfold execOp
    simp only [hop, List.map_toArray, List.map_cons, List.map_nil, e18, Sem.run_bind, hrun, Result.andThen_ok]
    rfl
  | 17, _, hs, ho, hop, hds, hdep, hK =>
    have hop : o.op = .call { callee := .value (.func 52), args := #[.tmp 19], argTypes := #[68] } := Option.some.inj hop
    obtain ⟨u19, hu19, hv19⟩ := hdep 16 (by decide)
    have hv19' : Bs1V w u19 x.da := hv19
    have e19 : a.eval (.tmp 19) = _ := ev_tmp hu19
    obtain ⟨A, rfl, hA⟩ := hv19'
    refine st3_call ho hwt (f := 52) (vals := #[.slice A 1 1]) (Z := fun v w' => BV w' v (sb x.da) ∧ Below w.heap.size w w') ?_ ?_ ?_
    · unfold execOp
      simp only [hop, e19, resolve, invoke, Sem.run_bind, Sem.run_pure, Result.andThen_ok, List.map_toArray, List.map_cons, List.map_nil]
      first | rfl | exact enters_of Try.func52 (by kernel_rfl) rfl _ _
    · exact (texts_any A 1 1 [x.da] w hA rfl (by omega) (fun y hy => by rw [List.mem_singleton.1 hy, hW.1.1]; have := hW.1.2.2.2.2; unfold maxLen; omega)).mono fun e w' ⟨v, he, hN⟩ => ⟨v, he, BV.ofNew (by rw [txs_one] at hN; exact hN), hN.2⟩
    · rintro v w' ⟨h1, h2⟩
      exact hK v w' h1 h2
  | 18, _, hs, ho, hop, hds, hdep, hK =>
    have hop : o.op = .fieldAddr 25 (.tmp 1) 7 := Option.some.inj hop
    have hu1 : a.tmps[1]? = some (.pointer (some ⟨gb, 0, none⟩)) := (hbase.2.2 1 (by decide)).trans x1
    have e1 : a.eval (.tmp 1) = _ := ev_tmp hu1
    refine st3 ho hwt (v := .pointer (some ⟨gb, 7, none⟩)) (w' := w) ?_ (hK _ w rfl (Below.refl _ _))
    unfold execOp
    simp only [hop, Option.map_some, Option.map_none, e1]
    first | rfl | (go_simp; done) | (go_simp; simp; done) | (go_simp; intro h; omega)
  | 19, _, hs, ho, hop, hds, hdep, hK =>
    have hop : o.op = .load 3 (.tmp 21) := Option.some.inj hop
    obtain ⟨u21, hu21, hv21⟩ := hdep 18 (by decide)
    have hv21' : u21 = .pointer (some ⟨gb, 7, none⟩) := hv21
    subst hv21'
    have e21 : a.eval (.tmp 21) = _ := ev_tmp hu21
    refine st3 ho hwt (v := .int .i64 x.od) (w' := w) ?_ (hK _ w rfl (Below.refl _ _))
    have k7 : w.cell? ⟨gb, 7, none⟩ = some (.int .i64 x.od) := (hB.below hbl hB.lt).cell rfl
    unfold execOp
    simp only [hop, Option.map_some, Option.map_none, e21]
    first | rfl | (go_simp; done) | (go_simp; simp; done) | (go_simp; intro h; omega)
  | 20, _, hs, ho, hop, hds, hdep, hK =>
    have hop : o.op = .fieldAddr 25 (.tmp 1) 8 := Option.some.inj hop
    have hu1 : a.tmps[1]? = some (.pointer (some ⟨gb, 0, none⟩)) := (hbase.2.2 1 (by decide)).trans x1
    have e1 : a.eval (.tmp 1) = _ := ev_tmp hu1
    refine st3 ho hwt (v := .pointer (some ⟨gb, 8, none⟩)) (w' := w) ?_ (hK _ w rfl (Below.refl _ _))
    unfold execOp
    simp only [hop, Option.map_some, Option.map_none, e1]
    first | rfl | (go_simp; done) | (go_simp; simp; done) | (go_simp; intro h; omega)
  | 21, _, hs, ho, hop, hds, hdep, hK =>
    have hop : o.op = .load 3 (.tmp 23) := Option.some.inj hop
    obtain ⟨u23, hu23, hv23⟩ := hdep 20 (by decide)
    have hv23' : u23 = .pointer (some ⟨gb, 8, none⟩) := hv23
    subst hv23'
    have e23 : a.eval (.tmp 23) = _ := ev_tmp hu23
    refine st3 ho hwt (v := .int .i64 x.nw) (w' := w) ?_ (hK _ w rfl (Below.refl _ _))
    have k8 : w.cell? ⟨gb, 8, none⟩ = some (.int .i64 x.nw) := (hB.below hbl hB.lt).cell rfl
    unfold execOp
    simp only [hop, Option.map_some, Option.map_none, e23]
    first | rfl | (go_simp; done) | (go_simp; simp; done) | (go_simp; intro h; omega)
  | 22, _, hs, ho, hop, hds, hdep, hK =>
    have hop : o.op = .fieldAddr 25 (.tmp 1) 9 := Option.some.inj hop
    have hu1 : a.tmps[1]? = some (.pointer (some ⟨gb, 0, none⟩)) := (hbase.2.2 1 (by decide)).trans x1
    have e1 : a.eval (.tmp 1) = _ := ev_tmp hu1
    refine st3 ho hwt (v := .pointer (some ⟨gb, 9, none⟩)) (w' := w) ?_ (hK _ w rfl (Below.refl _ _))
    unfold execOp
    simp only [hop, Option.map_some, Option.map_none, e1]
    first | rfl | (go_simp; done) | (go_simp; simp; done) | (go_simp; intro h; omega)
  | 23, _, hs, ho, hop, hds, hdep, hK =>
    have hop : o.op = .load 23 (.tmp 25) := Option.some.inj hop
    obtain ⟨u25, hu25, hv25⟩ := hdep 22 (by decide)
    have hv25' : u25 = .pointer (some ⟨gb, 9, none⟩) := hv25
    subst hv25'
    have e25 : a.eval (.tmp 25) = _ := ev_tmp hu25
    refine st3 ho hwt (v := .slice Nx nnx cnx) (w' := w) ?_ (hK _ w rfl (Below.refl _ _))
    have k9 : w.cell? ⟨gb, 9, none⟩ = some (.slice Nx nnx cnx) := (hB.below hbl hB.lt).cell rfl
    unfold execOp
    simp only [hop, Option.map_some, Option.map_none, e25]
    first | rfl | (go_simp; done) | (go_simp; simp; done) | (go_simp; intro h; omega)
  | 24, _, hs, ho, hop, hds, hdep, hK =>
    have hop : o.op = .call { callee := .builtin .len, args := #[.tmp 26], argTypes := #[23] } := Option.some.inj hop
    obtain ⟨u26, hu26, hv26⟩ := hdep 23 (by decide)
    have hv26' : u26 = .slice Nx nnx cnx := hv26
    subst hv26'
    have e26 : a.eval (.tmp 26) = _ := ev_tmp hu26
    refine st3 ho hwt (v := .int .i64 nnx) (w' := w) ?_ (hK _ w rfl (Below.refl _ _))
    unfold execOp
    simp only [hop, resolve, invoke, builtin, Sem.run_bind, Sem.run_pure, Result.andThen_ok, List.map_toArray, List.map_cons, List.map_nil, e26]
    first | rfl | (go_simp; done) | (go_simp; simp; done) | (go_simp; intro h; omega)
  | 25, _, hs, ho, hop, hds, hdep, hK =>
    have hop : o.op = .buildSlice 23 3 #[(0, .tmp 22), (1, .tmp 24), (2, .tmp 27)] := Option.some.inj hop
    obtain ⟨u22, hu22, hv22⟩ := hdep 19 (by decide)
    have hv22' : u22 = .int .i64 x.od := hv22
    subst hv22'
    have e22 : a.eval (.tmp 22) = _ := ev_tmp hu22
    obtain ⟨u24, hu24, hv24⟩ := hdep 21 (by decide)
    have hv24' : u24 = .int .i64 x.nw := hv24
    subst hv24'
    have e24 : a.eval (.tmp 24) = _ := ev_tmp hu24
    obtain ⟨u27, hu27, hv27⟩ := hdep 24 (by decide)
    have hv27' : u27 = .int .i64 nnx := hv27
    subst hv27'
    have e27 : a.eval (.tmp 27) = _ := ev_tmp hu27
    have hrun : (Instr.buildSlice 23 3 #[(0, Value.int .i64 x.od), (1, Value.int .i64 x.nw), (2, Value.int .i64 (nnx : Int))]).run Try.prog w = .ok (.slice (some ⟨w.heap.size, 0, none⟩) 3 3) (w.alloc (.cells (cis [x.od, x.nw, (nnx : Int)]).toArray 3)) := by kernel_rfl
    refine st3 ho hwt (v := .slice (some ⟨w.heap.size, 0, none⟩) 3 3) (w' := w.alloc (.cells (cis [x.od, x.nw, (nnx : Int)]).toArray 3)) ?_ (hK _ _ (IsV.new (wf3 hW) (by simp [maxLen])) ((Below.refl _ _).alloc (Nat.le_refl _) _))
    unfold execOp
    simp only [hop, List.map_toArray, List.map_cons, List.map_nil, e22, e24, e27, Sem.run_bind, hrun, Result.andThen_ok]
    rfl
  | 26, _, hs, ho, hop, hds, hdep, hK =>
    have hop : o.op = .call { callee := .value (.func 51), args := #[.tmp 28], argTypes := #[23] } := Option.some.inj hop
    obtain ⟨u28, hu28, hv28⟩ := hdep 25 (by decide)
    have hv28' : IsV w u28 [x.od, x.nw, (nnx : Int)] := hv28
    have e28 : a.eval (.tmp 28) = _ := ev_tmp hu28
    obtain ⟨A, c, rfl, hA⟩ := hv28'
    refine st3_call ho hwt (f := 51) (vals := #[.slice A 3 c]) (Z := fun v w' => BV w' v (ibs [x.od, x.nw, (nnx : Int)]) ∧ Below w.heap.size w w') ?_ ?_ ?_
    · unfold execOp
      simp only [hop, e28, resolve, invoke, Sem.run_bind, Sem.run_pure, Result.andThen_ok, List.map_toArray, List.map_cons, List.map_nil]
      first | rfl | exact enters_of Try.func51 (by kernel_rfl) rfl _ _
    · exact (numbers_any A _ c _ w hA (by simp)).mono fun e w' ⟨v, he, hN⟩ => ⟨v, he, BV.ofNew hN, hN.2⟩
    · rintro v w' ⟨h1, h2⟩
      exact hK v w' h1 h2
  | 27, _, hs, ho, hop, hds, hdep, hK =>
    have hop : o.op = .fieldAddr 25 (.tmp 1) 9 := Option.some.inj hop
    have hu1 : a.tmps[1]? = some (.pointer (some ⟨gb, 0, none⟩)) := (hbase.2.2 1 (by decide)).trans x1
    have e1 : a.eval (.tmp 1) = _ := ev_tmp hu1
    refine st3 ho hwt (v := .pointer (some ⟨gb, 9, none⟩)) (w' := w) ?_ (hK _ w rfl (Below.refl _ _))
    unfold execOp
    simp only [hop, Option.map_some, Option.map_none, e1]
    first | rfl | (go_simp; done) | (go_simp; simp; done) | (go_simp; intro h; omega)
  | 28, _, hs, ho, hop, hds, hdep, hK =>
    have hop : o.op = .load 23 (.tmp 30) := Option.some.inj hop
    obtain ⟨u30, hu30, hv30⟩ := hdep 27 (by decide)
    have hv30' : u30 = .pointer (some ⟨gb, 9, none⟩) := hv30
    subst hv30'
    have e30 : a.eval (.tmp 30) = _ := ev_tmp hu30
    refine st3 ho hwt (v := .slice Nx nnx cnx) (w' := w) ?_ (hK _ w rfl (Below.refl _ _))
    have k9 : w.cell? ⟨gb, 9, none⟩ = some (.slice Nx nnx cnx) := (hB.below hbl hB.lt).cell rfl
    unfold execOp
    simp only [hop, Option.map_some, Option.map_none, e30]
    first | rfl | (go_simp; done) | (go_simp; simp; done) | (go_simp; intro h; omega)
  | 29, _, hs, ho, hop, hds, hdep, hK =>
    have hop : o.op = .call { callee := .value (.func 51), args := #[.tmp 31], argTypes := #[23] } := Option.some.inj hop
    obtain ⟨u31, hu31, hv31⟩ := hdep 28 (by decide)
    have hv31' : u31 = .slice Nx nnx cnx := hv31
    subst hv31'
    have e31 : a.eval (.tmp 31) = _ := ev_tmp hu31
    refine st3_call ho hwt (f := 51) (vals := #[.slice Nx nnx cnx]) (Z := fun v w' => BV w' v (ibs x.nx) ∧ Below w.heap.size w w') ?_ ?_ ?_
    · unfold execOp
      simp only [hop, e31, resolve, invoke, Sem.run_bind, Sem.run_pure, Result.andThen_ok, List.map_toArray, List.map_cons, List.map_nil]
      first | rfl | exact enters_of Try.func51 (by kernel_rfl) rfl _ _
    · exact (numbers_any Nx nnx cnx x.nx w (hW.2.1.1.after hbl) (by omega)).mono fun e w' ⟨v, he, hN⟩ => ⟨v, he, BV.ofNew hN, hN.2⟩
    · rintro v w' ⟨h1, h2⟩
      exact hK v w' h1 h2
  | 30, _, hs, ho, hop, hds, hdep, hK =>
    have hop : o.op = .buildSlice 68 4 #[(0, .tmp 16), (1, .tmp 20), (2, .tmp 29), (3, .tmp 32)] := Option.some.inj hop
    obtain ⟨u16, hu16, hv16⟩ := hdep 13 (by decide)
    have hv16' : BV w u16 (ibs [x.kd, x.cl, x.sp, x.gr, x.ep, x.bl]) := hv16
    have e16 : a.eval (.tmp 16) = _ := ev_tmp hu16
    obtain ⟨u20, hu20, hv20⟩ := hdep 17 (by decide)
    have hv20' : BV w u20 (sb x.da) := hv20
    have e20 : a.eval (.tmp 20) = _ := ev_tmp hu20
    obtain ⟨u29, hu29, hv29⟩ := hdep 26 (by decide)
    have hv29' : BV w u29 (ibs [x.od, x.nw, (nnx : Int)]) := hv29
    have e29 : a.eval (.tmp 29) = _ := ev_tmp hu29
    obtain ⟨u32, hu32, hv32⟩ := hdep 29 (by decide)
    have hv32' : BV w u32 (ibs x.nx) := hv32
    have e32 : a.eval (.tmp 32) = _ := ev_tmp hu32
    obtain ⟨A1, c1, rfl, hA1⟩ := hv16'
    obtain ⟨A2, c2, rfl, hA2⟩ := hv20'
    obtain ⟨A3, c3, rfl, hA3⟩ := hv29'
    obtain ⟨A4, c4, rfl, hA4⟩ := hv32'
    have hrun : ∀ n1 n2 n3 n4 : Nat, (Instr.buildSlice 68 4 #[(0, .slice A1 n1 c1), (1, .slice A2 n2 c2), (2, .slice A3 n3 c3), (3, .slice A4 n4 c4)]).run Try.prog w = .ok (.slice (some ⟨w.heap.size, 0, none⟩) 4 4) (w.alloc (.cells #[.slice A1 n1 c1, .slice A2 n2 c2, .slice A3 n3 c3, .slice A4 n4 c4] 22)) := fun n1 n2 n3 n4 => by kernel_rfl
    refine st3 ho hwt (v := .slice (some ⟨w.heap.size, 0, none⟩) 4 4) (w' := w.alloc (.cells #[.slice A1 _ c1, .slice A2 _ c2, .slice A3 _ c3, .slice A4 _ c4] 22)) ?_ (hK _ _ ⟨_, rfl, bss4 hA1.2 hA2.2 hA3.2 hA4.2⟩ ((Below.refl _ _).alloc (Nat.le_refl _) _))
    unfold execOp
    simp only [hop, List.map_toArray, List.map_cons, List.map_nil, e16, e20, e29, e32, Sem.run_bind, hrun, Result.andThen_ok]
    rfl
  | 31, _, hs, ho, hop, hds, hdep, hK =>
    have hop : o.op = .call { callee := .value (.func 53), args := #[.tmp 33], argTypes := #[68] } := Option.some.inj hop
    obtain ⟨u33, hu33, hv33⟩ := hdep 30 (by decide)
    have hv33' : BssV w u33 4 [ibs [x.kd, x.cl, x.sp, x.gr, x.ep, x.bl], sb x.da, ibs [x.od, x.nw, (nnx : Int)], ibs x.nx] := hv33
    have e33 : a.eval (.tmp 33) = _ := ev_tmp hu33
    obtain ⟨A, rfl, hA⟩ := hv33'
    refine st3_call ho hwt (f := 53) (vals := #[.slice A 4 4]) (Z := fun v w' => MineV w' base v (wb x) ∧ Below w.heap.size w w') ?_ ?_ ?_
    · unfold execOp
      simp only [hop, e33, resolve, invoke, Sem.run_bind, Sem.run_pure, Result.andThen_ok, List.map_toArray, List.map_cons, List.map_nil]
      first | rfl | exact enters_of Try.func53 (by kernel_rfl) rfl _ _
    · exact (join_any A 4 4 _ w hA rfl (by omega) (flat_small hm hW.2.1.1.1)).mono fun e w' ⟨v, he, hN⟩ => ⟨v, he, by have h := hN.1; rw [flat_wb hW.2.1.1.1] at h; exact Mine.base h (Nat.le_trans hb0 hbl.size), hN.2⟩
    · rintro v w' ⟨h1, h2⟩
      exact hK v w' h1 h2
  | 32, _, hs, ho, hop, hds, hdep, hK =>
    have hop : o.op = .assign (.tmp 34) := Option.some.inj hop
    obtain ⟨u34, hu34, hv34⟩ := hdep 31 (by decide)
    have hv34' : MineV w base u34 (wb x) := hv34
    have e34 : a.eval (.tmp 34) = _ := ev_tmp hu34
    refine st3 ho hwt (v := _) (w' := w) ?_ (hK _ w hv34 (Below.refl _ _))
    unfold execOp
    rw [hop, ← e34]
    rfl
  | i + 33, hi, _, _, _, _, _, _ => exact absurd hi (by omega)

theorem lit35 (a : Act) (h : a.tmps.size = 35) : ∃ f : Nat → Value, a = { tmps := #[f 0, f 1, f 2, f 3, f 4, f 5, f 6, f 7, f 8, f 9, f 10, f 11, f 12, f 13, f 14, f 15, f 16, f 17, f 18, f 19, f 20, f 21, f 22, f 23, f 24, f 25, f 26, f 27, f 28, f 29, f 30, f 31, f 32, f 33, f 34], defers := a.defers } ∧ ∀ i v, a.tmps[i]? = some v → f i = v := by
  refine ⟨fun i => a.tmps.getD i undef, ?_, fun i v hv => by simp only [Array.getD_eq_getD_getElem?, hv]; rfl⟩
  have e : a.tmps = ((List.range 35).map fun i => a.tmps.getD i undef).toArray := by
    apply Array.ext
    · simp [h]
    · intro i h1 h2
      simp [Array.getD_eq_getD_getElem?, h1]
  cases a with
  | mk t d =>
    simp only [Act.mk.injEq, and_true]
    exact e

set_option maxRecDepth 100000 in
set_option maxHeartbeats 1600000 in
theorem written_wish (x : Wl) (Dx : Option Addr) (ndx cdx : Nat) (Nx : Option Addr) (nnx cnx : Nat) (w : World) (h : ArgW w x Dx ndx cdx Nx nnx cnx) (hm : May x) : Calls Try.prog 35 #[.agg #[.int .i64 x.cl, .int .i64 x.sp, .int .i64 x.gr, .int .i64 x.ep, .int .i64 x.kd, .int .i64 x.bl, .slice Dx ndx cdx, .int .i64 x.od, .int .i64 x.nw, .slice Nx nnx cnx]] w (RetB w (wb x)) := by
  have hx := Wx.new (w := w) (x := x) (D := Dx) (nd := ndx) (cd := cdx) (N := Nx) (nn := nnx) (cn := cnx)
  have hw := h.after hx.bel
  have hn7 : nnx ≤ 7 := by have h1 := hm.nums.2.2.2.2.2.2.2.2.2.1; have h2 := h.2.1.1.1; omega
  have H := Lib.hid (And.intro hx.blk (And.intro hx.bel (And.intro hw (And.intro hm hn7))))
  clear hx hw h hm hn7
  go_enter Try.func35, Try.ntmps35
  go_wp2
  refine region_rule4 (P := Try.prog) 33 35 waD waG waS (waR w.heap.size w.heap.size x Dx ndx cdx Nx nnx cnx) _ _ (by kernel_rfl) rfl rfl (by kernel_rfl) (by decide +kernel) (wa_gb w.heap.size w.heap.size x Dx ndx cdx Nx nnx cnx) (wa_sk w.heap.size w.heap.size x Dx ndx cdx Nx nnx cnx) (wa_on w.heap.size w.heap.size x Dx ndx cdx Nx nnx cnx) (wa_step w.heap.size w.heap.size x Dx ndx cdx Nx nnx cnx (by rfl) (by kernel_rfl) rfl H.out.1 H.out.2.2.1 H.out.2.2.2.1 H.out.2.1.size H.out.2.2.2.2) ?fin
  case fin =>
    intro a w6 hbase hbl hall
    obtain ⟨v2, hv2, hR2⟩ := hall 32 (by decide)
    have hM : Mine w6 w.heap.size 5 v2 (wb x) := hR2
    obtain ⟨g, hg, hge⟩ := lit35 a hbase.1
    have q1 : g 1 = .pointer (some ⟨w.heap.size, 0, none⟩) := hge 1 _ ((hbase.2.2 1 (by decide)).trans rfl)
    have q2 : g 2 = v2 := hge 2 _ hv2
    have hdf : a.defers = [] := hbase.2.1
    rw [hdf, q1, q2] at hg
    rw [hg]
    have hbf := H.out.2.1.trans (hbl.mono H.out.2.1.size)
    go_wp2
    go_ret
    exact ⟨v2, rfl, hM, hbf⟩

end Go.Proofs.Ytihmddpafbackaa

namespace Go.Proofs.Ytihmddpafbackaa

open Go.RowKit Go.Maps

set_option linter.unusedVariables false

set_option linter.unusedSimpArgs false

set_option maxRecDepth 100000 in
set_option maxHeartbeats 1600000 in
theorem bytes_wish (x : Wl) (Dx : Option Addr) (ndx cdx : Nat) (Nx : Option Addr) (nnx cnx : Nat) (w : World) (h : ArgW w x Dx ndx cdx Nx nnx cnx) : Calls Try.prog 14 #[.agg #[.int .i64 x.cl, .int .i64 x.sp, .int .i64 x.gr, .int .i64 x.ep, .int .i64 x.kd, .int .i64 x.bl, .slice Dx ndx cdx, .int .i64 x.od, .int .i64 x.nw, .slice Nx nnx cnx]] w (RetBE w (wbytes x)) := by
  have hx := Wx.new (w := w) (x := x) (D := Dx) (nd := ndx) (cd := cdx) (N := Nx) (nn := nnx) (cn := cnx)
  have hw := h.after hx.bel
  have Hc := Lib.hid (check_any x Dx ndx cdx Nx nnx cnx _ hw)
  have H := Lib.hid (And.intro hx hw)
  clear hx hw h
  by_cases hm : May x
  · have hr : Hid (wbytes x = (wb x, 0)) := by show _ = _; unfold wbytes; rw [if_pos hm]
    have hck : chk x = 0 := by unfold chk; rw [if_pos hm]
    rw [hck] at Hc
    have HM := Lib.hid hm
    clear hm hck
    generalize wbytes x = r at *
    go_enter Try.func14, Try.ntmps14
    go_wp2_with fail
    refine Hc.out.mono ?_
    rintro e w1 ⟨rfl, hb⟩
    have hx1 := H.out.1.on hb
    obtain ⟨⟨k0, k1, k2, k3, k4⟩, k5, k6, k7, k8, k9⟩ := hx1.ks
    have H1 := Lib.hid (And.intro hx1.bel (H.out.2.after hb))
    clear hx1 hb
    go_wp2_with fail
    refine (written_wish x Dx ndx cdx Nx nnx cnx w1 H1.out.2 HM.out).mono ?_
    rintro e w2 ⟨v, rfl, hN⟩
    go_wp2
    go_ret2
    rw [hr.out]
    exact ⟨v, rfl, NewB.later H1.out.1 hN⟩
  · have hr : Hid (wbytes x = ([], 2)) := by show _ = _; unfold wbytes; rw [if_neg hm]
    have hck : chk x = 2 := by unfold chk; rw [if_neg hm]
    rw [hck] at Hc
    clear hm hck
    generalize wbytes x = r at *
    go_enter Try.func14, Try.ntmps14
    go_wp2_with fail
    refine Hc.out.mono ?_
    rintro e w1 ⟨rfl, hb⟩
    have hb1 := Lib.hid (H.out.1.on hb).bel
    clear hb
    go_wp2
    go_ret2
    rw [hr.out]
    exact ⟨_, rfl, World.ownsRow_nil _ _ _ _, hb1.out⟩

end Go.Proofs.Ytihmddpafbackaa
