/-
  Laid together for a hand-in: RuleG, Shelf15b, Fi15, In15, Ib15, Wi15.
-/
import Derived.Test.YtenccpccpjjkmaaZ04
import Derived.Test.YtenccpccpjjkmaaProg
import Derived.Sort.Grow
import Derived.Shelf.Small.Wraps
import Derived.Lib.Overlaps
import Derived.Lib.AppendZerosOnto
import Derived.Shelf.RegionOpenPlain

namespace Go.Proofs.Ytenccpccpjjkmaa

open Go.RowKit Go.Maps Go.Sort

set_option linter.unusedVariables false

/-- So many draws on, with some blocks more. -/
def Grw (w w' : World) : Prop := ∃ q os, w' = grow (w.drewN q) os

theorem drew0 (w : World) : w.drewN 0 = w := rfl

theorem Grw.refl (w : World) : Grw w w := ⟨0, #[], by rw [grow_empty]; rfl⟩

theorem Grw.drew (w : World) : Grw w w.drew := ⟨1, #[], by rw [grow_empty]; rfl⟩

theorem Grw.trans {a b c : World} (h : Grw a b) (k : Grw b c) : Grw a c := by
  obtain ⟨q, os, rfl⟩ := h
  obtain ⟨q', os', rfl⟩ := k
  exact ⟨q + q', os ++ os', by show grow (grow ((a.drewN q).drewN q') os) os' = _; rw [grow_grow, World.drewN_drewN]⟩

theorem Grw.alloc (w : World) (o : Obj) : Grw w (w.alloc o) := ⟨0, #[o], alloc_eq_grow w o⟩

theorem Grw.of {w w' : World} (h : w' = w) : Grw w w' := by rw [h]; exact Grw.refl w

theorem Grw.below {w w' : World} (h : Grw w w') : Below w.heap.size w w' := by
  obtain ⟨q, os, rfl⟩ := h
  refine ⟨rfl, rfl, rfl, by rw [size_grow]; exact Nat.le_add_right _ _, fun k hk => ?_⟩
  exact heap_grow_old _ _ hk

section

variable {P : Program} {ops : Array Oper} {Q : Exit → Act → World → Prop} {md : Region.Mode}

theorem any_ruleG (d : Nat → Nat) (R : Nat → Value → World → Prop) (a0 : Act) (w0 : World)
    (hd : ∀ i o, ops[i]? = some o → o.dst = some (d i) ∧ d i < a0.tmps.size)
    (hinj : ∀ i j, i < ops.size → j < ops.size → d i = d j → i = j)
    (hback : ∀ i o, ops[i]? = some o → ∀ e ∈ o.after, Region.binds md e = true → e.on < i)
    (hstab : ∀ i v w w', R i v w → Grw w w' → R i v w')
    (hstep : ∀ i o, ops[i]? = some o → ∀ a w, Base d ops.size a0 a → Grw w0 w → (∀ e ∈ o.after, Region.binds md e = true → Has d R e.on a w) →
      ∀ K : Act → World → Prop, (∀ v w', R i v w' → Grw w w' → K (a.put (some (d i)) v) w') → wpOp P ops Q i K a w)
    (hend : ∀ a w, Base d ops.size a0 a → Grw w0 w → (∀ i, i < ops.size → Has d R i a w) → Q .normal a w) :
    ∀ fuel listed a w, listed.size = ops.size → Base d ops.size a0 a → Grw w0 w → (∀ i, i < ops.size → listed.getD i false = true → Has d R i a w) →
      (List.range ops.size).countP (fun i => !listed.getD i true) ≤ fuel → wpAny P md ops Q fuel listed a w := by
  intro fuel
  induction fuel with
  | zero =>
    intro listed a w hs hb hw hl hc
    have hnone : Region.ready md ops listed = [] := by
      cases hr : Region.ready md ops listed with
      | nil => rfl
      | cons x xs =>
        exfalso
        obtain ⟨o, _, hx, hx2, _⟩ := ready_mem (md := md) (ops := ops) (listed := listed) (i := x) (by rw [hr]; exact List.mem_cons_self)
        have hp : 0 < (List.range ops.size).countP (fun i => !listed.getD i true) := List.countP_pos_iff.2 ⟨x, List.mem_range.2 hx, by rw [hx2]; rfl⟩
        omega
    exact ⟨hnone, hend a w hb hw fun i hi => hl i hi (ready_nil hs hback hnone i hi)⟩
  | succ fuel ih =>
    intro listed a w hs hb hw hl hc
    refine ⟨fun hr => hend a w hb hw fun i hi => hl i hi (ready_nil hs hback hr i hi), fun i hi => ?_⟩
    obtain ⟨o, ho, hi1, hi2, hi3⟩ := ready_mem hi
    have hon : ∀ e ∈ o.after, Region.binds md e = true → Has d R e.on a w := fun e he hb => hl e.on (by have := hback i o ho e he hb; omega) (hi3 e he hb)
    refine hstep i o ho a w hb hw hon _ fun v w' hv hbel => ?_
    obtain ⟨_, hdi⟩ := hd i o ho
    have hput : (a.put (some (d i)) v).tmps = a.tmps.setIfInBounds (d i) v := rfl
    refine ih (listed.setIfInBounds i true) (a.put (some (d i)) v) w' (by simpa using hs) ⟨?_, hb.2.1, ?_⟩ (hw.trans hbel) ?_ ?_
    · rw [hput]; simpa using hb.1
    · intro s hsn
      rw [hput, Array.getElem?_setIfInBounds_ne (hsn i hi1)]
      exact hb.2.2 s hsn
    · intro j hj hjl
      by_cases e : j = i
      · subst e
        exact ⟨v, by rw [hput, Array.getElem?_setIfInBounds_self_of_lt (by rw [hb.1]; exact hdi)], hv⟩
      · have hj2 : listed.getD j false = true := by
          have : (listed.setIfInBounds i true)[j]? = listed[j]? := Array.getElem?_setIfInBounds_ne (fun h => e h.symm)
          rw [Array.getD_eq_getD_getElem?] at hjl ⊢
          rwa [this] at hjl
        obtain ⟨u, hu, hru⟩ := hl j hj hj2
        exact ⟨u, by rw [hput, Array.getElem?_setIfInBounds_ne (fun h => e (hinj i j hi1 hj h).symm)]; exact hu, hstab j u w w' hru hbel⟩
    · have hlt : (List.range ops.size).countP (fun k => !(listed.setIfInBounds i true).getD k true) < (List.range ops.size).countP (fun k => !listed.getD k true) := by
        refine countP_lt _ (fun k hk hq => ?_) ⟨i, List.mem_range.2 hi1, by rw [hi2]; rfl, ?_⟩
        · by_cases e : k = i
          · subst e
            rw [Array.getD_eq_getD_getElem?, Array.getElem?_setIfInBounds_self_of_lt (by omega)] at hq
            simp at hq
          · have : (listed.setIfInBounds i true)[k]? = listed[k]? := Array.getElem?_setIfInBounds_ne (fun h => e h.symm)
            rw [Array.getD_eq_getD_getElem?] at hq ⊢
            rwa [this] at hq
        · rw [Array.getD_eq_getD_getElem?, Array.getElem?_setIfInBounds_self_of_lt (by omega)]
          rfl
      omega

/-- From the beginning. -/
theorem region_ruleG {id : Nat} (d : Nat → Nat) (R : Nat → Value → World → Prop) (a0 : Act) (w0 : World) (hm : P.follows .mixedOrders = true)
    (hd : ∀ i o, ops[i]? = some o → o.dst = some (d i) ∧ d i < a0.tmps.size)
    (hinj : ∀ i j, i < ops.size → j < ops.size → d i = d j → i = j)
    (hback : ∀ i o, ops[i]? = some o → ∀ e ∈ o.after, Region.binds .any e = true → e.on < i)
    (hstab : ∀ i v w w', R i v w → Grw w w' → R i v w')
    (hstep : ∀ i o, ops[i]? = some o → ∀ a w, Base d ops.size a0 a → Grw w0 w → (∀ e ∈ o.after, Region.binds .any e = true → Has d R e.on a w) →
      ∀ K : Act → World → Prop, (∀ v w', R i v w' → Grw w w' → K (a.put (some (d i)) v) w') → wpOp P ops Q i K a w)
    (hend : ∀ a w, Base d ops.size a0 a → Grw w0 w → (∀ i, i < ops.size → Has d R i a w) → Q .normal a w) : (Code.region id ops true).wp P Q a0 w0 := by
  refine wp_region_any hm (any_ruleG (P := P) (md := .any) d R a0 w0 hd hinj hback hstab hstep hend ops.size _ a0 _ (by simp) ⟨rfl, rfl, fun _ _ => rfl⟩ ?_ ?_ ?_)
  · exact Grw.drew _
  · intro i hi h
    rw [Array.getD_eq_getD_getElem?] at h
    simp [hi] at h
  · exact Nat.le_trans List.countP_le_length (by simp)

/-- The same, where some guards may not be met: 'gb' tells what each guard answers, 'sk' which operations are passed over so. -/
theorem region_ruleG4 {id : Nat} (n N : Nat) (d : Nat → Nat) (gb : Nat → Option Bool) (sk : Nat → Bool) (R : Nat → Value → World → Prop) (a0 : Act) (w0 : World) (hm : P.follows .mixedOrders = true) (hn : ops.size = n) (hN : a0.tmps.size = N)
    (ht : ((List.range n).all fun i => ((ops[i]?).map fun o => (o.dst == some (d i)) && decide (d i < N) && (match o.guard with | none => !sk i | some (g, b) => (gb g).isSome && (sk i == !(gb g == some b)) && decide (g < n) && o.after.any fun e => Region.binds .any e && (e.on == g)) && o.after.all fun e => !Region.binds .any e || decide (e.on < i)).getD false) = true)
    (hinj : ((List.range n).all fun i => (List.range n).all fun j => !(d i == d j) || (i == j)) = true)
    (hgb : ∀ i b v w, gb i = some b → R i v w → v = .bool b)
    (hsk : ∀ i w, sk i = true → R i undef w)
    (hstab : ∀ i v w w', R i v w → Grw w w' → R i v w')
    (hstep : ∀ i o, i < n → sk i = false → ops[i]? = some o → o.dst = some (d i) → ∀ a w, Base d n a0 a → Grw w0 w → Region.wanted o (yielded ops a.tmps) = true →
      (∀ j, (o.after.any fun e => Region.binds .any e && (e.on == j)) = true → Has d R j a w) →
      ∀ K : Act → World → Prop, (∀ v w', R i v w' → Grw w w' → K (a.put o.dst v) w') → wpOp P ops Q i K a w)
    (hend : ∀ a w, Base d n a0 a → Grw w0 w → (∀ i, i < n → Has d R i a w) → Q .normal a w) : (Code.region id ops true).wp P Q a0 w0 := by
  subst hn
  subst hN
  have hlt : ∀ i o, ops[i]? = some o → i < ops.size := fun i o h => by
    rcases Nat.lt_or_ge i ops.size with hl | hl
    · exact hl
    · rw [Array.getElem?_eq_none hl] at h; cases h
  have key : ∀ i o, ops[i]? = some o → o.dst = some (d i) ∧ d i < a0.tmps.size ∧ (o.guard = none → sk i = false) ∧ (∀ g b, o.guard = some (g, b) → (gb g).isSome = true ∧ sk i = !(gb g == some b) ∧ g < ops.size ∧ (o.after.any fun e => Region.binds .any e && (e.on == g)) = true) ∧ ∀ e ∈ o.after, Region.binds .any e = true → e.on < i := by
    intro i o ho
    have h := List.all_eq_true.1 ht i (List.mem_range.2 (hlt i o ho))
    rw [ho] at h
    simp only [Option.map_some, Option.getD_some, Bool.and_eq_true, beq_iff_eq, decide_eq_true_eq] at h
    obtain ⟨⟨⟨h1, h2⟩, h3⟩, h4⟩ := h
    refine ⟨h1, h2, fun hg => ?_, fun g b hg => ?_, fun e he hb => ?_⟩
    · rw [hg] at h3
      simpa using h3
    · rw [hg] at h3
      simp only [Bool.and_eq_true, decide_eq_true_eq, beq_iff_eq] at h3
      exact ⟨h3.1.1.1, h3.1.1.2, h3.1.2, h3.2⟩
    · have := Array.all_eq_true_iff_forall_mem.1 h4 e he
      rw [hb] at this
      simpa using this
  refine region_ruleG (P := P) d R a0 w0 hm (fun i o ho => ⟨(key i o ho).1, (key i o ho).2.1⟩) (fun i j hi hj e => ?_) (fun i o ho => (key i o ho).2.2.2.2) hstab (fun i o ho a w hb hw hdep K hK => ?_) hend
  · have h := List.all_eq_true.1 (List.all_eq_true.1 hinj i (List.mem_range.2 hi)) j (List.mem_range.2 hj)
    rw [e] at h
    simpa using h
  · have hdep' : ∀ j, (o.after.any fun e => Region.binds .any e && (e.on == j)) = true → Has d R j a w := fun j hj => by
      rw [Array.any_eq_true] at hj
      obtain ⟨k, hk, h2⟩ := hj
      simp only [Bool.and_eq_true, beq_iff_eq] at h2
      obtain ⟨h2, h3⟩ := h2
      rw [← h3]
      exact hdep _ (Array.getElem_mem hk) h2
    have hwant : Region.wanted o (yielded ops a.tmps) = !sk i := by
      unfold Region.wanted
      cases hg : o.guard with
      | none => rw [(key i o ho).2.2.1 hg]; rfl
      | some gp =>
        obtain ⟨g, b⟩ := gp
        obtain ⟨h1, h2, h3, h4⟩ := (key i o ho).2.2.2.1 g b hg
        obtain ⟨v, hv, hR⟩ := hdep' g h4
        obtain ⟨b', hb'⟩ := Option.isSome_iff_exists.1 h1
        have ev := hgb g b' v w hb' hR
        subst ev
        have hog : ops[g]? = some ops[g] := Array.getElem?_eq_getElem h3
        have hdg := (key g _ hog).1
        rw [h2, hb']
        show (yielded ops a.tmps g == some b) = _
        unfold yielded
        rw [hog, Option.bind_some, hdg, Option.bind_some, hv]
        cases b' <;> cases b <;> rfl
    cases hs : sk i with
    | false => exact hstep i o (hlt i o ho) hs ho (key i o ho).1 a w hb hw (by rw [hwant, hs]; rfl) hdep' K (fun v w' h1 h2 => by rw [(key i o ho).1]; exact hK v w' h1 h2)
    | true =>
      refine wpOp_step ho (fun K' hK' => ?_)
      rw [if_neg (by rw [hwant, hs]; simp)]
      refine hK' _ _ ?_
      rw [(key i o ho).1]
      exact hK undef w (hsk i w hs) (Grw.refl _)

end

end Go.Proofs.Ytenccpccpjjkmaa

namespace Go.Proofs
open Go.Shelf
def Try.cmpL_ren : Go.Shelf.Ren := ⟨fun | 122 => 52 | 215 => 64 | n => n, fun | 3 => 3 | 4 => 4 | n => n, fun | n => n⟩
theorem Try.cmpL : Go.Proofs.Lays.n122 Try.prog Try.cmpL_ren := {
  mixed := by kernel_rfl
  f122 := Try.func52.trans (congrArg some (by kernel_rfl))
  f215 := Try.func64.trans (congrArg some (by kernel_rfl))
  t3 := Try.underlying3
  a3 := Try.isAgg3
  z3 := Try.sizeOf3
  v3 := Try.zeroValue3
  t4 := Try.underlying4
  a4 := Try.isAgg4
  z4 := Try.sizeOf4
  v4 := Try.zeroValue4 }
end Go.Proofs

namespace Go.Proofs.Ytenccpccpjjkmaa
open Go.RowKit Go.Shelf Go.Sort Go.Maps
set_option linter.unusedVariables false
set_option linter.unusedSimpArgs false

/-- The slice shows these marks. -/
def ShM (w : World) (A : Option Addr) (l : List Mk) : Prop := 0 < l.length → ∃ b o, A = some ⟨b, o, none⟩ ∧ b < w.heap.size ∧ ∀ j u, (mks l)[j]? = some u → w.cell? ⟨b, o + j, none⟩ = some u
theorem ShM.below {w w' : World} {A : Option Addr} {l : List Mk} (h : ShM w A l) (hb : Below w.heap.size w w') : ShM w' A l := fun hl => let ⟨b, o, e, h1, h2⟩ := h hl; ⟨b, o, e, Nat.lt_of_lt_of_le h1 hb.size, fun j u hu => (hb.cell (p := ⟨b, o + j, none⟩) h1).trans (h2 j u hu)⟩
theorem ShM.nil (w : World) (A : Option Addr) : ShM w A [] := fun h => absurd h (by simp)
theorem RowM.sh {w : World} {s : Sl} {l : List Mk} (h : RowM w s l) : ShM w (some ⟨s.b, s.o, none⟩) l := fun _ => ⟨s.b, s.o, rfl, h.lt, h.cells⟩
theorem ShM.at_ {w : World} {A : Option Addr} {l : List Mk} (h : ShM w A l) {i : Nat} (hi : i < l.length) : ∃ b o, A = some ⟨b, o, none⟩ ∧ w.rangeAt b (o + i * 33) (mkC l[i]) := by
  obtain ⟨b, o, e, _, h2⟩ := h (by omega)
  refine ⟨b, o, e, fun j u hu => ?_⟩
  rw [Nat.add_assoc]
  refine h2 _ u ?_
  have hj : j < 33 := by
    rcases Nat.lt_or_ge j (mkC l[i]).length with h | h
    · rw [mkC_len] at h; exact h
    · rw [List.getElem?_eq_none h] at hu; cases hu
  rw [mks_at hi hj]
  exact hu

set_option maxRecDepth 100000 in
theorem clo_any (x : Mk) (t : Int) (w : World) : Calls Try.prog 51 #[.agg (mkC x).toArray, .int .i64 t] w fun e w' => e = .returned (.int .i64 (Lib.compareInt x.s t)) ∧ Grw w w' := by
  have hB : Blk (w.alloc (.cells (mkC x).toArray 28)) w.heap.size 28 (mkC x) := Blk.new rfl rfl
  have k0 := hB.cell (i := 0) (show (mkC x)[0]? = some (.int .i64 x.s) from rfl)
  have Hg := Lib.hid (Grw.alloc w (.cells (mkC x).toArray 28))
  have HC := Lib.hid (fun w => Any.cmp_Compare_int Try.cmpL x.s t w)
  clear hB
  generalize mkC x = C at *
  generalize Lib.compareInt x.s t = r at *
  go_enter Try.func51, Try.ntmps51
  go_wp2_with (go_at_call 52; refine (HC.out _).mono ?_; rintro e w' ⟨rfl, rfl⟩)
  go_ret
  exact ⟨rfl, Hg.out⟩

theorem atM_lt {l : List Mk} (h : Srt l) (t : Int) {i : Nat} (hi : i < l.length) : i < atM l t ↔ l[i].s < t := by
  induction l generalizing i with
  | nil => simp at hi
  | cons y l ih =>
    unfold Srt at h
    rw [List.pairwise_cons] at h
    unfold atM at *
    by_cases hy : y.s < t
    · rw [List.countP_cons_of_pos (by simpa using hy)]
      cases i with
      | zero => simp [hy]
      | succ i =>
        have := ih h.2 (i := i) (by simpa using hi)
        simp only [List.getElem_cons_succ]
        omega
    · have h0 : l.countP (fun y => decide (y.s < t)) = 0 := by
        rw [List.countP_eq_zero]
        intro z hz
        have := h.1 z hz
        simp; omega
      rw [List.countP_cons_of_neg (by simpa using hy), h0]
      cases i with
      | zero => simp; omega
      | succ i =>
        have := h.1 (l[i]'(by simpa using hi)) (List.getElem_mem _)
        simp only [List.getElem_cons_succ]
        omega
theorem findM_at {l : List Mk} (h : Srt l) (t : Int) : (findM l t).isSome = true ↔ ∃ hi : atM l t < l.length, (l[atM l t]'hi).s = t := by
  constructor
  · intro hf
    obtain ⟨y, hy⟩ := Option.isSome_iff_exists.1 hf
    obtain ⟨h1, h2⟩ := findM_some hy
    obtain ⟨i, hi, e⟩ := List.getElem_of_mem h1
    have e1 := atM_lt h t hi
    have hle : atM l t ≤ i := by
      rcases Nat.lt_or_ge i (atM l t) with h3 | h3
      · have := e1.1 h3; rw [e, h2] at this; omega
      · exact h3
    have hi2 : atM l t < l.length := by omega
    refine ⟨hi2, ?_⟩
    have h4 : ¬ (l[atM l t]'hi2).s < t := fun h4 => by have := (atM_lt h t hi2).2 h4; omega
    rcases Nat.lt_or_ge (atM l t) i with h5 | h5
    · have := (List.pairwise_iff_getElem.1 h) _ _ hi2 hi h5
      rw [e, h2] at this
      omega
    · have : atM l t = i := by omega
      simp only [this, e, h2]
  · rintro ⟨hi, e⟩
    rw [← e]
    rw [e, ← e, findM_mem h (List.getElem_mem hi)]
    rfl
theorem cmpInt_lt (a b : Int) : decide (Lib.compareInt a b < 0) = decide (a < b) := by
  unfold Lib.compareInt
  by_cases h : a < b
  · simp [h]
  · by_cases h2 : b < a
    · simp [h, h2]
    · simp [h, h2]
theorem cmpInt_eq (a b : Int) : (Lib.compareInt a b == 0) = decide (a = b) := by
  unfold Lib.compareInt
  by_cases h : a < b
  · simp [h]; omega
  · by_cases h2 : b < a
    · simp [h, h2]; omega
    · have : a = b := by omega
      simp [this]
set_option maxRecDepth 100000 in
set_option maxHeartbeats 1600000 in
theorem bsf_any {w : World} {A : Option Addr} {n c : Nat} {l : List Mk} (h : ShM w A l) (hn : l.length = n) (hs : Srt l) (hb : n ≤ 1000) (t : Int) :
    Calls Try.prog 50 #[.slice A n c, .int .i64 t, .func (.func 51) #[] #[]] w fun e w' => e = .returned (.tuple #[.int .i64 (atM l t : Nat), .bool (findM l t).isSome]) ∧ Below w.heap.size w w' := by
  have hle := atM_le l t
  have H := Lib.hid (And.intro h (And.intro hn hs))
  have HP : Hid (∀ q : Bool, (q = true ↔ ∃ hi : atM l t < l.length, (l[atM l t]'hi).s = t) → (findM l t).isSome = q) := Lib.hid fun q hq => Bool.eq_iff_iff.2 ((findM_at hs t).trans hq.symm)
  rw [hn] at hle
  clear h hs
  generalize (findM l t).isSome = F at *
  obtain ⟨m, hm⟩ : ∃ m, atM l t = m := ⟨_, rfl⟩
  rw [hm] at hle ⊢
  have Hm := Lib.hid hm
  clear hm
  go_enter Try.func50, Try.ntmps50
  go_wp2
  go_loopw [9, 10] (fun v9 v10 wr => ∃ i j : Nat, v9 = .int .i64 (i : Int) ∧ v10 = .int .i64 (j : Int) ∧ i ≤ m ∧ m ≤ j ∧ j ≤ n ∧ Below w.heap.size w wr) (fun v9 v10 _ => (intOf v10).toNat - (intOf v9).toNat)
  case atStart => exact ⟨0, n, rfl, rfl, Nat.zero_le _, hle, Nat.le_refl _, Below.refl _ _⟩
  case round =>
    obtain ⟨i, j, rfl, rfl, him, hmj, hjn, hbel⟩ := hrel
    by_cases hij : i < j
    · have hij' : (i : Int) < (j : Int) := by omega
      obtain ⟨q, hq⟩ : ∃ q, (i + j) / 2 = q := ⟨_, rfl⟩
      have hq' : ((i : Int) + (j : Int)) / 2 = (q : Int) := by omega
      have hqi : i ≤ q := by omega
      have hqj : q < j := by omega
      have hqn : q < n := by omega
      have q0 : (0 : Int) ≤ (q : Int) := by omega
      have q1 : (q : Int) < (n : Int) := by omega
      have hql : q < l.length := by omega
      obtain ⟨b, o, rfl, hr⟩ := (H.out.1.below hbel).at_ hql
      have hlt := atM_lt H.out.2.2 t hql
      rw [Hm.out] at hlt
      generalize l[q] = y at hr hlt
      have hr' := Lib.hid (And.intro hr (mark_infoL y))
      have hc := Lib.hid (fun w => clo_any y t w)
      have hlt' : Hid (decide (Lib.compareInt y.s t < 0) = decide (q < m)) := Lib.hid (by
        rw [cmpInt_lt]
        exact decide_eq_decide.2 hlt.symm)
      have Hb := Lib.hid hbel
      have Hq := Lib.hid (And.intro hqi hqj)
      clear hr hql hbel hq hqi hqj hlt
      generalize mkC y = X at *
      generalize Lib.compareInt y.s t = r at *
      by_cases hqm : q < m
      · have hr1 : decide (r < 0) = true := by rw [hlt'.out]; simpa using hqm
        go_wp2_with (first
          | (refine wpList_load_mid rfl 28 _ rfl b (o + q * 33) rfl X _ hr'.out.1 Try.underlying28 rfl hr'.out.2 ?_; simp only [Act.put])
          | (go_at_call 51; refine (hc.out _).mono ?_; rintro e w' ⟨rfl, hg⟩; replace hg := Lib.hid hg))
        go_roundw
        case rel => exact ⟨q + 1, j, by go_num, rfl, by omega, hmj, hjn, Hb.out.trans (hg.out.below.mono Hb.out.size)⟩
        case measure => simp [intOf]; omega
      · have hr1 : decide (r < 0) = false := by rw [hlt'.out]; simpa using hqm
        go_wp2_with (first
          | (refine wpList_load_mid rfl 28 _ rfl b (o + q * 33) rfl X _ hr'.out.1 Try.underlying28 rfl hr'.out.2 ?_; simp only [Act.put])
          | (go_at_call 51; refine (hc.out _).mono ?_; rintro e w' ⟨rfl, hg⟩; replace hg := Lib.hid hg))
        go_roundw
        case rel => exact ⟨i, q, rfl, rfl, him, by omega, by omega, Hb.out.trans (hg.out.below.mono Hb.out.size)⟩
        case measure => simp [intOf]; have := Hq.out; omega
    · have hji : ¬ (i : Int) < (j : Int) := by omega
      have hi : i = m := by omega
      have hj : j = m := by omega
      subst hi
      subst hj
      by_cases hmn : j < n
      · have q0 : (0 : Int) ≤ (j : Int) := by omega
        have q1 : (j : Int) < (n : Int) := by omega
        have hql : j < l.length := by omega
        obtain ⟨b, o, rfl, hr⟩ := (H.out.1.below hbel).at_ hql
        have hF := HP.out (decide ((l[j]'hql).s = t)) (by
          rw [decide_eq_true_iff]
          have e := Hm.out
          constructor
          · intro h; exact ⟨by omega, by simp only [e]; exact h⟩
          · rintro ⟨h1, h2⟩; simp only [e] at h2; exact h2)
        generalize l[j] = y at hr hF
        have hr' := Lib.hid (And.intro hr (mark_infoL y))
        have hc := Lib.hid (fun w => clo_any y t w)
        have heq := cmpInt_eq y.s t
        rw [← hF] at heq
        have Hb := Lib.hid hbel
        clear hr hql hbel hF HP
        generalize mkC y = X at *
        generalize Lib.compareInt y.s t = r at *
        go_wp2_with (first
          | (refine load_mid_g rfl 28 _ rfl b (o + j * 33) rfl X _ hr'.out.1 Try.underlying28 rfl hr'.out.2 ?_; simp only [Act.put])
          | (go_at_call 51; refine (hc.out _).mono ?_; rintro e w' ⟨rfl, hg⟩; replace hg := Lib.hid hg))
        go_ret2
        exact ⟨rfl, Hb.out.trans (hg.out.below.mono Hb.out.size)⟩
      · have q1 : ¬ (j : Int) < (n : Int) := by omega
        have hF := HP.out false (by
          have e := Hm.out
          constructor
          · intro h; cases h
          · rintro ⟨h1, h2⟩; omega)
        subst hF
        have Hb := Lib.hid hbel
        clear hbel HP
        go_wp2
        go_ret2
        exact ⟨rfl, Hb.out⟩
set_option maxRecDepth 100000 in
theorem find_at {w : World} {A : Option Addr} {n c : Nat} {l : List Mk} (h : ShM w A l) (hn : l.length = n) (hs : Srt l) (hb : n ≤ 1000) (t : Int) :
    Calls Try.prog 33 #[.slice A n c, .int .i64 t] w fun e w' => e = .returned (.tuple #[.int .i64 (atM l t : Nat), .bool (findM l t).isSome]) ∧ Below w.heap.size w w' := by
  have HB := Lib.hid (bsf_any (c := c) h hn hs hb t)
  clear h hs
  generalize (findM l t).isSome = F at *
  generalize atM l t = m at *
  go_enter Try.func33, Try.ntmps33
  go_wp2_with (go_at_call 50; refine HB.out.mono ?_; rintro e w' ⟨rfl, hb⟩; replace hb := Lib.hid hb)
  go_ret2
  exact ⟨rfl, hb.out⟩
end Go.Proofs.Ytenccpccpjjkmaa

namespace Go.Proofs.Ytenccpccpjjkmaa
open Go.RowKit Go.Shelf Go.Sort Go.Maps
set_option linter.unusedVariables false
set_option linter.unusedSimpArgs false

/-! ### Some cells laid into others -/
def spl (cur : List Value) (o : Nat) (cs : List Value) : List Value := cur.take o ++ cs ++ cur.drop (o + cs.length)
theorem spl_len {cur cs : List Value} {o : Nat} (h : o + cs.length ≤ cur.length) : (spl cur o cs).length = cur.length := by
  simp [spl]; omega
theorem spl_in {A R cs : List Value} {p : Nat} : spl (A ++ R) (A.length + p) cs = A ++ spl R p cs := by
  unfold spl
  rw [List.take_append, List.take_of_length_le (by omega), show A.length + p - A.length = p by omega, List.drop_append, List.drop_of_length_le (by omega), show A.length + p + cs.length - A.length = p + cs.length by omega]
  simp [List.append_assoc]
theorem spl_at {T D E X : List Value} {p : Nat} (h : p + X.length = T.length) : spl (T ++ D ++ E) p X = T.take p ++ X ++ D ++ E := by
  unfold spl
  rw [List.append_assoc T D E, List.take_append_of_le_length (by omega), h, List.drop_append, List.drop_of_length_le (Nat.le_refl _), Nat.sub_self, List.drop_zero]
  simp [List.append_assoc]
section
variable {P : Program}
theorem run_copy_k (w : World) (dT sT ty elem : TypeId) (g o dLen dCap : Nat) (a : Addr) (sLen sCap : Nat) (cur : List Value) (t : TypeId) (n k : Nat) (cs : List Value)
    (hu : P.underlying dT = some (.slice elem)) (hs : (P.info? elem).map (·.size) = some k) (hg : Blk w g t cur) (hn : Nat.min sLen dLen = n) (hl : cs.length = n * k)
    (hsrc : ∀ j v, cs[j]? = some v → w.cell? (a.add j) = some v) (hfit : o + cs.length ≤ cur.length) (h1 : ∀ v ∈ cs, v.oneCell' = true) :
    ∃ w', (Builtin.copy_ #[dT, sT] ty #[.slice (some ⟨g, o, none⟩) dLen dCap, .slice (some a) sLen sCap]).run P w = .ok (goInt n) w' ∧ Blk w' g t (spl cur o cs) ∧ Out (fun i => i = g) w w' ∧ w'.heap.size = w.heap.size := by
  have hf : ∀ c, (Builtin.firstCells k n (.slice (some a) sLen c)).run P w = .ok cs.toArray w := fun c => run_firstCells_some w k n a sLen c cs hl hsrc
  have hst := run_storeCells_cells (P := P) g o cs 0 w (fun j hj => by rw [hg.cell (i := o + 0 + j) (List.getElem?_eq_getElem (by omega))]; rfl) (fun j hj => hg.free _) h1
  simp only [Nat.add_zero] at hst
  refine ⟨w.setCells g o cs, ?_, Blk.setMore (w := w) cs hg hfit, Out.setCells (S := fun i => i = g) (g := g) cs (fun _ => rfl) (Out.refl _ _), size_cells _ _ _ _⟩
  cases hq : P.info? elem with
  | none => simp [hq] at hs
  | some i =>
    have hi : i.size = k := by simpa [hq] using hs
    simp [Builtin.copy_, run_underlying hu, Builtin.lenOf, sizeOf, typeInfo, hq, hi, hn, hf, hst]
theorem step_copy {ops : Array Oper} {o : Oper} {a : Act} {w : World} {K : Act → World → Prop} {Q : Exit → Act → World → Prop} {E : Prop} (hg : o.guard = none) (d x : Operand) (dT sT : TypeId)
    (hop : o.op = Op.call { callee := Callee.builtin Builtin.copy, args := #[d, x], argTypes := #[dT, sT] }) (v u : Value) (hd : a.eval d = v) (hx : a.eval x = u) {v' : Value} {w' : World}
    (hr : (Builtin.copy_ #[dT, sT] o.type #[v, u]).run P w = .ok v' w') (hK : K (a.put o.dst v') w') : if Region.wanted o (yielded ops a.tmps) = true then Oper.wp P o a w K Q else E := by
  rw [if_pos (by simp [Region.wanted, hg])]
  unfold Oper.wp
  simp [execOp, hop, resolve, invoke, builtin, hd, hx, hr, Result.andThen]
  exact hK
theorem copy_g {ops : Array Oper} {rest : List Oper} {o : Oper} {a : Act} {w : World} {Q : Exit → Act → World → Prop} (hgd : o.guard = none) (d x : Operand) (dT sT : TypeId)
    (hop : o.op = Op.call { callee := Callee.builtin Builtin.copy, args := #[d, x], argTypes := #[dT, sT] }) (v u : Value) (hd : a.eval d = v) (hx : a.eval x = u) {v' : Value} {w' : World}
    (hr : (Builtin.copy_ #[dT, sT] o.type #[v, u]).run P w = .ok v' w') (h : wpList P ops Q rest (a.put o.dst v') w') : wpList P ops Q (o :: rest) a w :=
  wpList_plain hgd fun K hK => by
    unfold Oper.wp execOp
    simp only [hop, resolve, invoke, builtin, Sem.run_bind, Sem.run_pure, Result.andThen_ok, List.map_toArray, List.map_cons, List.map_nil, hd, hx, hr]
    exact hK _ _ h
end
theorem Blk.shape {w : World} {g : Nat} {t : TypeId} {cs : List Value} (h : Blk w g t cs) : w.shape? g = some (t, cs.length) := by
  unfold World.shape?
  unfold Blk at h
  rw [h]
  simp
theorem overlaps_no (w : World) {g v : Nat} {t t' : TypeId} {cs ds : List Value} (hg : Blk w g t cs) (hv : Blk w v t' ds) (hne : v ≠ g) (hc : cs.length ≠ 0) (la ca lb cb o : Nat) :
    (callFunc 65 #[.slice (some ⟨v, 0, none⟩) la ca, .slice (some ⟨g, o, none⟩) lb cb]).run Try.prog w = .ok (.value (.bool false)) w := by
  rw [run_callFunc_extern Try.func65 (by kernel_rfl) (by kernel_rfl) (by kernel_rfl) (e := Extern.SlicesOverlaps.overlaps #[54, 54] #[4]) (by kernel_rfl),
    Lib.run_overlaps_apart w 54 4 28 Try.underlying54 33 mark_size ⟨v, 0, none⟩ ⟨g, o, none⟩ la ca lb cb hne _ _ _ _ hv.shape hg.shape hc (hv.free _) (hv.free _)]
  rfl

/-! ### append of marks -/
/-- A row, or nil. -/
def RowN (w : World) (v : Value) (l : List Mk) (b : Nat → Prop) : Prop := (v = .slice none 0 0 ∧ l = []) ∨ ∃ s, v = slV s ∧ RowM w s l ∧ b s.b
theorem zeros_len (n : Nat) : (Builtin.zeroCells (Value.agg (mkC mk0).toArray).cells n).size = n * 33 := by
  rw [size_zeroCells]
  rfl
theorem app_mark {w : World} {v : Value} {l : List Mk} {b : Nat → Prop} (h : RowN w v l b) {vb vc : Nat} {x : Mk} {t : TypeId} (hx : Blk w vb t (mkC x)) (hl : l.length ≤ 1000000) (ty : TypeId) :
    ∃ s' w', (Builtin.append_ #[54, 54] ty #[v, .slice (some ⟨vb, 0, none⟩) 1 vc]).run Try.prog w = .ok (slV s') w' ∧ RowM w' s' (l ++ [x]) ∧ Out b w w' ∧ (b s'.b ∨ w.heap.size ≤ s'.b) := by
  obtain ⟨i0, hi, hz0, hz1, hz2⟩ := info_parts mark_info
  have hsrc : ∀ j u, (mkC x)[j]? = some u → w.cell? ((⟨vb, 0, none⟩ : Addr).add j) = some u := fun j u hu => by rw [add_mk, Nat.zero_add]; exact hx.cell hu
  have hxl : (mkC x).length = 1 * i0.size := by rw [mkC_len, hz1]
  have hall : mks (l ++ [x]) = mks l ++ mkC x := by rw [mks_append, mks_single]
  have hlen : (mks (l ++ [x])).length = (l.length + 1) * 33 := by rw [mks_len]; simp
  have grown : ∀ (old : Nat), old < l.length + 1 →
      RowM (w.drew.alloc (.cells ((mks l).toArray ++ (mkC x).toArray ++ Builtin.zeroCells (Value.agg (mkC mk0).toArray).cells (grownCap w (l.length + 1) old 28 - (l.length + 1))) 28)) ⟨w.heap.size, 0, l.length + 1, grownCap w (l.length + 1) old 28⟩ (l ++ [x]) ∧
      Below w.heap.size w (w.drew.alloc (.cells ((mks l).toArray ++ (mkC x).toArray ++ Builtin.zeroCells (Value.agg (mkC mk0).toArray).cells (grownCap w (l.length + 1) old 28 - (l.length + 1))) 28)) := by
    intro old ho
    have hge := grownCap_ge w (l.length + 1) old 28
    have hcm : grownCap w (l.length + 1) old 28 ≤ maxLen := grownCap_le_maxLen w (l.length + 1) old 28 (by unfold maxLen; omega)
    refine ⟨⟨by simp, hge, hcm, ((mks l).toArray ++ (mkC x).toArray ++ Builtin.zeroCells (Value.agg (mkC mk0).toArray).cells (grownCap w (l.length + 1) old 28 - (l.length + 1))).toList, heap_alloc_new w.drew _, ?_, ?_⟩, ((Below.refl _ _).drew).alloc (Nat.le_refl _) _⟩
    · simp only [Array.length_toList, Array.size_append, List.size_toArray, zeros_len, mks_len, mkC_len]
      omega
    · simp only [Array.toList_append, List.append_assoc, List.drop_zero]
      rw [← List.append_assoc, ← hall, ← hlen]
      exact List.take_left
  rcases h with ⟨rfl, rfl⟩ | ⟨s, rfl, hr, hb⟩
  · have hr := run_append_nil (P := Try.prog) w 54 ty 28 i0 _ Try.underlying54 hi hz0 ⟨vb, 0, none⟩ 1 vc (mkC x) hxl hsrc (by omega) (by omega) (by rw [hz2]; omega)
    have hg := grown 0 (by omega)
    simp only [List.length_nil, Nat.zero_add, mks, List.flatMap_nil, Array.empty_append, List.nil_append] at hg
    exact ⟨⟨w.heap.size, 0, 1, grownCap w 1 0 28⟩, _, hr, hg.1, Out.ofBelow _ hg.2, .inr (Nat.le_refl _)⟩
  · obtain ⟨cur, hB, hfit, htk⟩ := hr.cur
    by_cases hroom : s.n + 1 ≤ s.c
    · have h33 : s.o + (s.n + 1) * 33 ≤ cur.length := by have := Nat.mul_le_mul_right 33 hroom; omega
      have hrun := run_append_room_cells (P := Try.prog) w 54 ty 28 i0 Try.underlying54 hi s.b s.o s.n s.c ⟨vb, 0, none⟩ 1 vc (mkC x) hxl hsrc (mkC_one x) hroom
        (fun j hj => by rw [mkC_len] at hj; rw [hz1, hB.cell (i := s.o + s.n * 33 + j) (List.getElem?_eq_getElem (by omega))]; rfl) (fun j hj => hB.free _)
      rw [hz1] at hrun
      refine ⟨⟨s.b, s.o, s.n + 1, s.c⟩, _, hrun, ⟨by simp [hr.len], hroom, hr.max, _, Blk.setMore (w := w) (mkC x) hB (by rw [mkC_len]; omega), ?_, ?_⟩, Out.setCells (S := b) (g := s.b) _ (fun _ => hb) (Out.refl _ _), .inl hb⟩
      · show s.o + s.c * 33 ≤ (cur.take (s.o + s.n * 33) ++ mkC x ++ cur.drop (s.o + s.n * 33 + (mkC x).length)).length
        simp only [List.length_append, List.length_take, List.length_drop, mkC_len]
        omega
      · show ((cur.take (s.o + s.n * 33) ++ mkC x ++ cur.drop (s.o + s.n * 33 + (mkC x).length)).drop s.o).take ((s.n + 1) * 33) = _
        rw [List.append_assoc, List.drop_append_of_le_length (by rw [List.length_take]; omega), ← List.append_assoc]
        have e : (cur.take (s.o + s.n * 33)).drop s.o = mks l := by rw [List.drop_take, show s.o + s.n * 33 - s.o = s.n * 33 by omega, htk]
        rw [e, ← hall, List.take_append_of_le_length (by rw [hlen, hr.len]; exact Nat.le_refl _), List.take_of_length_le (by rw [hlen, hr.len]; exact Nat.le_refl _)]
    · have hg := grown s.c (by rw [hr.len]; omega)
      rw [hr.len] at hg
      have hrun := run_append_grow (P := Try.prog) w 54 ty 28 i0 _ Try.underlying54 hi hz0 ⟨s.b, s.o, none⟩ s.n s.c (mks l) (by rw [mks_len, hr.len, hz1]) (fun j u hu => by rw [add_mk]; exact hr.cells j u hu) ⟨vb, 0, none⟩ 1 vc (mkC x) hxl hsrc (by omega) (by have := hr.len; omega) (growslice_fits (by omega) (by rw [hz2]; have := hr.len; omega))
      exact ⟨⟨w.heap.size, 0, s.n + 1, grownCap w (s.n + 1) s.c 28⟩, _, hrun, hg.1, Out.ofBelow _ hg.2, .inr (Nat.le_refl _)⟩
end Go.Proofs.Ytenccpccpjjkmaa

namespace Go.Proofs.Ytenccpccpjjkmaa
open Go.RowKit Go.Shelf Go.Sort Go.Maps
set_option linter.unusedVariables false
set_option linter.unusedSimpArgs false

set_option maxRecDepth 100000 in
set_option maxHeartbeats 1600000 in
theorem insert_end {w : World} {v : Value} {l : List Mk} {b : Nat → Prop} (h : RowN w v l b) {vb : Nat} {x : Mk} {t : TypeId} (hx : Blk w vb t (mkC x)) (hl : l.length ≤ 1000) :
    Calls Try.prog 53 #[v, .int .i64 (l.length : Nat), .slice (some ⟨vb, 0, none⟩) 1 1] w fun e w' => ∃ s', e = .returned (slV s') ∧ RowM w' s' (l ++ [x]) ∧ Out b w w' ∧ (b s'.b ∨ w.heap.size ≤ s'.b) := by
  obtain ⟨s', w', hrun, h1, h2, h3⟩ := app_mark (vc := 1) h hx (by omega) 54
  have H := Lib.hid (And.intro h1 (And.intro h2 h3))
  have HR := Lib.hid hrun
  clear hrun h1 h2 h3 hx
  rcases h with ⟨rfl, rfl⟩ | ⟨s, rfl, hr, hb⟩
  · go_enter Try.func53, Try.ntmps53
    go_wp2_with (at_builtin; refine app_g rfl _ _ _ _ rfl _ _ _ _ rfl rfl HR.out ?_; simp only [Act.put])
    go_ret
    exact ⟨s', rfl, H.out⟩
  · have hn := hr.len
    rw [hn]
    have hc := hr.cap
    obtain ⟨bb, oo, nn, cc⟩ := s
    simp only [slV] at *
    clear hr hn
    have q0 : (0 : Int) ≤ (nn : Int) := by omega
    go_enter Try.func53, Try.ntmps53
    go_wp2_with (at_builtin; refine app_g rfl _ _ _ _ rfl _ _ _ _ rfl rfl HR.out ?_; simp only [Act.put])
    all_goals go_ret
    all_goals exact ⟨s', rfl, H.out⟩
set_option maxRecDepth 100000 in
set_option maxHeartbeats 1600000 in
theorem insert_grow {w : World} {s : Sl} {l : List Mk} (hr : RowM w s l) {vb : Nat} {x : Mk} {t : TypeId} (hx : Blk w vb t (mkC x)) {i : Nat} (hi : i < l.length) (hl : l.length ≤ 1000) (hg : s.c < s.n + 1) :
    Calls Try.prog 53 #[slV s, .int .i64 (i : Nat), .slice (some ⟨vb, 0, none⟩) 1 1] w fun e w' => ∃ s', e = .returned (slV s') ∧ RowM w' s' (l.take i ++ [x] ++ l.drop i) ∧ Below w.heap.size w w' ∧ w.heap.size ≤ s'.b := by
  obtain ⟨bb, oo, nn, cc⟩ := s
  simp only [slV] at *
  have hn := hr.len
  have hc := hr.cap
  have hcells := hr.cells
  have hblt := hr.lt
  have hm := hr.max
  simp only at hn hc hcells hblt hm
  obtain ⟨i0, hi0, hz0, hz1, hz2⟩ := info_parts mark_info
  have hw1 : IntKind.i64.wrap ((nn : Int) + 1) = (nn : Int) + 1 := IntWalk.i64_in _ (by omega)
  have hw2 : IntKind.i64.wrap ((nn : Int) + 1 - (i : Int)) = ((nn + 1 - i : Nat) : Int) := by rw [IntWalk.i64_in _ (by omega)]; omega
  have hw3 : IntKind.i64.wrap ((i : Int) + 1) = (i : Int) + 1 := IntWalk.i64_in _ (by omega)
  have p0 : (0 : Int) ≤ (i : Int) + 1 := by omega
  have p1 : ((i : Int) + 1).toNat = i + 1 := by omega
  have p2 : (i : Int) ≤ (nn : Int) := by omega
  have q0 : (0 : Int) ≤ (i : Int) := by omega
  have q1 : (i : Int) ≤ (nn : Int) := by omega
  have q2 : ¬ (i : Int) = (nn : Int) := by omega
  have q3 : ((nn : Int) + 1) > (cc : Int) := by omega
  have q4 : i ≤ cc := by omega
  -- the new row
  have happ := Lib.run_append_grow_zeros (P := Try.prog) w 54 3 54 28 i0 _ .i64 .i64 Try.underlying54 Try.underlying3 hi0 hz0 (some ⟨bb, oo, none⟩) i cc (mks (l.take i))
    (run_firstCells_some (P := Try.prog) w.drew i0.size i ⟨bb, oo, none⟩ i cc (mks (l.take i)) (by rw [mks_len, List.length_take, hz1, Nat.min_eq_left (by omega)]) (fun j u hu => by
      rw [add_mk]
      have : (mks l)[j]? = some u := by
        rw [← mks_take, List.getElem?_take] at hu
        split at hu
        · exact hu
        · cases hu
      have := hcells j u this
      simpa using this))
    (nn + 1 - i) (by omega) (by omega) (by omega) (by omega) (by rw [hz2]; omega) (growslice_fits (by omega) (by rw [hz2]; omega))
  have e1 : i + (nn + 1 - i) = nn + 1 := by omega
  rw [e1] at happ
  obtain ⟨cap2, hcap2⟩ : ∃ k, grownCap w (nn + 1) cc 28 = k := ⟨_, rfl⟩
  have hge := grownCap_ge w (nn + 1) cc 28
  have hcm := grownCap_le_maxLen w (nn + 1) cc 28 (by unfold maxLen; omega)
  rw [hcap2] at happ hge hcm
  obtain ⟨Z, hZ⟩ : ∃ Z : List Value, (Builtin.zeroCells (Value.agg (mkC mk0).toArray).cells (nn + 1 - i) ++ Builtin.zeroCells (Value.agg (mkC mk0).toArray).cells (cap2 - (nn + 1))).toList = Z := ⟨_, rfl⟩
  have hZl : Z.length = (cap2 - i) * 33 := by rw [← hZ]; simp only [Array.length_toList, Array.size_append, zeros_len]; omega
  obtain ⟨w1, hw1e⟩ : ∃ w1, w.drew.alloc (.cells ((mks (l.take i)).toArray ++ Builtin.zeroCells (Value.agg (mkC mk0).toArray).cells (nn + 1 - i) ++ Builtin.zeroCells (Value.agg (mkC mk0).toArray).cells (cap2 - (nn + 1))) 28) = w1 := ⟨_, rfl⟩
  rw [hw1e] at happ
  have b1 : Below w.heap.size w w1 := by rw [← hw1e]; exact ((Below.refl _ _).drew).alloc (Nat.le_refl _) _
  have B1 : Blk w1 w.heap.size 28 (mks (l.take i) ++ Z) := by
    rw [← hw1e, ← hZ]
    have := heap_alloc_new w.drew (.cells ((mks (l.take i)).toArray ++ Builtin.zeroCells (Value.agg (mkC mk0).toArray).cells (nn + 1 - i) ++ Builtin.zeroCells (Value.agg (mkC mk0).toArray).cells (cap2 - (nn + 1))) 28)
    unfold Blk
    refine Eq.trans this ?_
    congr 2
    apply Array.ext'
    simp
  have hT : (mks (l.take i)).length = i * 33 := by rw [mks_len, List.length_take, Nat.min_eq_left (by omega)]
  have hD : (mks (l.drop i)).length = (nn - i) * 33 := by rw [mks_len, List.length_drop, hn]
  have X1 := hx.below b1 hx.lt
  -- the mark
  obtain ⟨w2, hr2, B2, o2, z2⟩ := run_copy_k (P := Try.prog) w1 54 54 3 28 w.heap.size (i * 33) (nn + 1 - i) (cap2 - i) ⟨vb, 0, none⟩ 1 1 _ _ 1 33 (mkC x) Try.underlying54 mark_info1 B1 (by simp only [Nat.min_def]; split <;> omega) (by rw [mkC_len])
    (fun j u hu => by rw [add_mk, Nat.zero_add]; exact X1.cell hu) (by rw [List.length_append, hT, hZl, mkC_len]; omega) (mkC_one x)
  have eB2 : spl (mks (l.take i) ++ Z) (i * 33) (mkC x) = (mks (l.take i) ++ mkC x) ++ Z.drop 33 := by
    have := spl_in (A := mks (l.take i)) (R := Z) (cs := mkC x) (p := 0)
    rw [hT, Nat.add_zero] at this
    rw [this]
    unfold spl
    rw [List.take_zero, List.nil_append, mkC_len, Nat.zero_add, List.append_assoc]
  rw [eB2] at B2
  obtain ⟨w2d, hw2d⟩ : ∃ w2d, w2.drew = w2d := ⟨_, rfl⟩
  have b2d : Below w2.heap.size w2 w2d := by rw [← hw2d]; exact (Below.refl _ _).drew
  have B2d := B2.below b2d B2.lt
  have hlb : bb < w1.heap.size := Nat.lt_of_lt_of_le hblt b1.size
  have hne : ¬ bb = w.heap.size := by omega
  have hc2 : ∀ j u, (mks l)[j]? = some u → w2d.cell? ⟨bb, oo + j, none⟩ = some u := fun j u hu => by
    rw [b2d.cell (p := ⟨bb, oo + j, none⟩) (by rw [z2]; exact hlb), World.cell?_of_block (a := ⟨bb, oo + j, none⟩) (o2.block bb hlb hne), b1.cell (p := ⟨bb, oo + j, none⟩) hblt]
    exact hcells j u hu
  obtain ⟨w3, hr3, B3, o3, z3⟩ := run_copy_k (P := Try.prog) w2d 54 54 3 28 w.heap.size ((i + 1) * 33) (nn + 1 - (i + 1)) (cap2 - (i + 1)) ⟨bb, oo + i * 33, none⟩ (nn - i) (cc - i) _ _ (nn - i) 33 (mks (l.drop i)) Try.underlying54 mark_info1 B2d (by simp only [Nat.min_def]; split <;> omega) hD
    (fun j u hu => by rw [add_mk, Nat.add_assoc]; refine hc2 _ u ?_; rw [← mks_drop, List.getElem?_drop] at hu; exact hu) (by rw [List.length_append, List.length_append, hT, mkC_len, List.length_drop, hZl, hD]; omega) (mks_one _)
  have eB3 : spl ((mks (l.take i) ++ mkC x) ++ Z.drop 33) ((i + 1) * 33) (mks (l.drop i)) = mks (l.take i ++ [x] ++ l.drop i) ++ (Z.drop 33).drop ((nn - i) * 33) := by
    have h33 : (mks (l.take i) ++ mkC x).length = (i + 1) * 33 := by rw [List.length_append, hT, mkC_len]; omega
    have := spl_in (A := mks (l.take i) ++ mkC x) (R := Z.drop 33) (cs := mks (l.drop i)) (p := 0)
    rw [h33, Nat.add_zero] at this
    rw [this]
    unfold spl
    rw [List.take_zero, List.nil_append, hD, Nat.zero_add, mks_append, mks_append, mks_single, ← List.append_assoc]
  rw [eB3] at B3
  have hres : RowM w3 ⟨w.heap.size, 0, nn + 1, cap2⟩ (l.take i ++ [x] ++ l.drop i) := by
    refine ⟨by simp; omega, hge, hcm, _, B3, ?_, ?_⟩
    · rw [List.length_append, List.length_drop, List.length_drop, hZl, mks_len]
      simp only [List.length_append, List.length_take, List.length_drop, List.length_singleton]
      omega
    · rw [List.drop_zero, List.take_append_of_le_length (by rw [mks_len]; simp; omega), List.take_of_length_le (by rw [mks_len]; simp; omega)]
  have bel : Below w.heap.size w w3 := ((b1.trans ((o2.above (fun j e => by omega) b1.size))).trans (b2d.mono (by rw [z2]; exact b1.size))).trans (o3.above (fun j e => by omega) (by have := b1.size; have := b2d.size; omega))
  have H := Lib.hid (And.intro hres bel)
  have HA := Lib.hid happ
  have HC := Lib.hid hr2
  rw [← hw2d] at hr3
  have HD := Lib.hid hr3
  have p3 : ¬ (cap2 = i + 1) := by omega
  have p4 : ¬ (cc = i) := by omega
  clear happ hr2 hr3 hw2d hres bel B1 B2 B3 X1 B2d b1 o2 o3 b2d hc2 hcells hw1e hcap2 hZ hZl eB2 eB3 z2 z3 hx hr
  have mixed : Try.prog.follows Departure.mixedOrders = true := by kernel_rfl
  go_enter Try.func53, Try.ntmps53
  go_wp2_with (first
    | (at_builtin; refine app_g rfl _ _ _ _ rfl _ _ _ _ rfl rfl HA.out ?_; simp only [Act.put])
    | (refine copy_g rfl _ _ _ _ rfl _ _ rfl rfl HC.out ?_; simp only [Act.put]))
  go_region_law_o (refine step_copy rfl _ _ 54 54 rfl _ _ (by simp [Act.eval, Act.put]) (by simp [Act.eval, Act.put]) HD.out ?_)
  go_wp2
  go_ret
  exact ⟨⟨w.heap.size, 0, nn + 1, cap2⟩, rfl, H.out.1, H.out.2, Nat.le_refl _⟩

set_option maxRecDepth 100000 in
set_option maxHeartbeats 1600000 in
theorem insert_room {w : World} {s : Sl} {l : List Mk} (hr : RowM w s l) {vb : Nat} {x : Mk} {t : TypeId} (hx : Blk w vb t (mkC x)) (hvb : vb ≠ s.b) {i : Nat} (hi : i < l.length) (hl : l.length ≤ 1000) (hg : s.n + 1 ≤ s.c) :
    Calls Try.prog 53 #[slV s, .int .i64 (i : Nat), .slice (some ⟨vb, 0, none⟩) 1 1] w fun e w' => e = .returned (slV ⟨s.b, s.o, s.n + 1, s.c⟩) ∧ RowM w' ⟨s.b, s.o, s.n + 1, s.c⟩ (l.take i ++ [x] ++ l.drop i) ∧ Out (fun j => j = s.b) w w' := by
  obtain ⟨bb, oo, nn, cc⟩ := s
  simp only [slV] at *
  have hn := hr.len
  have hc := hr.cap
  have hcells := hr.cells
  have hm := hr.max
  obtain ⟨cur, hB, hfit, htk⟩ := hr.cur
  simp only at hn hc hcells hm hB hfit htk
  have h33 := Nat.mul_le_mul_right 33 hg
  have hw1 : IntKind.i64.wrap ((nn : Int) + 1) = (nn : Int) + 1 := IntWalk.i64_in _ (by omega)
  have hw3 : IntKind.i64.wrap ((i : Int) + 1) = (i : Int) + 1 := IntWalk.i64_in _ (by omega)
  have p0 : (0 : Int) ≤ (i : Int) + 1 := by omega
  have p1 : ((i : Int) + 1).toNat = i + 1 := by omega
  have p2 : (i : Int) ≤ (nn : Int) := by omega
  have p4 : ¬ (cc = i) := by omega
  have p5 : ¬ (cc = i + 1) := by omega
  have q0 : (0 : Int) ≤ (i : Int) := by omega
  have q2 : ¬ (i : Int) = (nn : Int) := by omega
  have q3 : ¬ ((nn : Int) + 1) > (cc : Int) := by omega
  have q5 : (0 : Int) ≤ (nn : Int) + 1 := by omega
  have q6 : ((nn : Int) + 1).toNat = nn + 1 := by omega
  have q7 : (nn : Int) + 1 ≤ (cc : Int) := by omega
  have q8 : (i : Int) ≤ (nn : Int) + 1 := by omega
  have hov := fun W (h : W = w) la ca lb cb o => overlaps_no w hB hx hvb (by omega) la ca lb cb o
  have hT : (mks (l.take i)).length = i * 33 := by rw [mks_len, List.length_take, Nat.min_eq_left (by omega)]
  have hD : (mks (l.drop i)).length = (nn - i) * 33 := by rw [mks_len, List.length_drop, hn]
  obtain ⟨wd, hwd⟩ : ∃ wd, w.drew = wd := ⟨_, rfl⟩
  have bd : Below w.heap.size w wd := by rw [← hwd]; exact (Below.refl _ _).drew
  have Bd := hB.below bd hB.lt
  have Xd := hx.below bd hx.lt
  obtain ⟨w2, hr2, B2, o2, z2⟩ := run_copy_k (P := Try.prog) wd 54 54 3 28 bb (oo + (i + 1) * 33) (nn + 1 - (i + 1)) (cc - (i + 1)) ⟨bb, oo + i * 33, none⟩ (nn + 1 - i) (cc - i) _ _ (nn - i) 33 (mks (l.drop i)) Try.underlying54 mark_info1 Bd (by simp only [Nat.min_def]; split <;> omega) hD
    (fun j u hu => by rw [add_mk, Nat.add_assoc, bd.cell (p := ⟨bb, oo + (i * 33 + j), none⟩) hB.lt]; refine hcells _ u ?_; rw [← mks_drop, List.getElem?_drop] at hu; exact hu) (by rw [hD]; omega) (mks_one _)
  have X2 := o2.blk Xd hvb
  obtain ⟨w3, hr3, B3, o3, z3⟩ := run_copy_k (P := Try.prog) w2 54 54 3 28 bb (oo + i * 33) (nn + 1 - i) (cc - i) ⟨vb, 0, none⟩ 1 1 _ _ 1 33 (mkC x) Try.underlying54 mark_info1 B2 (by simp only [Nat.min_def]; split <;> omega) (by rw [mkC_len])
    (fun j u hu => by rw [add_mk, Nat.zero_add]; exact X2.cell hu) (by rw [spl_len (by rw [hD]; omega), mkC_len]; omega) (mkC_one x)
  -- the row's cells behind both
  obtain ⟨A, R, hA, hcur⟩ : ∃ A R, A.length = oo ∧ cur = A ++ R := ⟨cur.take oo, cur.drop oo, by rw [List.length_take]; omega, (List.take_append_drop _ _).symm⟩
  have hRt : R.take (nn * 33) = mks l := by rw [← htk, hcur, List.drop_append, List.drop_of_length_le (by omega), hA, Nat.sub_self, List.drop_zero, List.nil_append]
  have hRl : cc * 33 ≤ R.length := by rw [hcur, List.length_append, hA] at hfit; omega
  have e3 : spl (spl cur (oo + (i + 1) * 33) (mks (l.drop i))) (oo + i * 33) (mkC x) = A ++ (R.take (i * 33) ++ mkC x ++ mks (l.drop i) ++ R.drop ((i + 1) * 33 + (nn - i) * 33)) := by
    rw [hcur, ← hA, spl_in, spl_in]
    congr 1
    have hl1 : (R.take ((i + 1) * 33)).length = (i + 1) * 33 := by rw [List.length_take]; omega
    have := spl_at (T := R.take ((i + 1) * 33)) (D := mks (l.drop i)) (E := R.drop ((i + 1) * 33 + (nn - i) * 33)) (X := mkC x) (p := i * 33) (by rw [mkC_len, hl1]; omega)
    rw [List.take_take, Nat.min_eq_left (by omega)] at this
    rw [← this]
    congr 1
    unfold spl
    rw [hD]
  have hRi : R.take (i * 33) = mks (l.take i) := by
    rw [← mks_take, ← hRt, List.take_take, Nat.min_eq_left (by omega)]
  rw [hRi] at e3
  rw [e3] at B3
  have hall : mks (l.take i) ++ mkC x ++ mks (l.drop i) = mks (l.take i ++ [x] ++ l.drop i) := by rw [mks_append, mks_append, mks_single]
  rw [hall] at B3
  have hlen : (mks (l.take i ++ [x] ++ l.drop i)).length = (nn + 1) * 33 := by rw [mks_len]; simp; omega
  have hres : RowM w3 ⟨bb, oo, nn + 1, cc⟩ (l.take i ++ [x] ++ l.drop i) := by
    refine ⟨by simp; omega, hg, hm, _, B3, ?_, ?_⟩
    · show oo + cc * 33 ≤ _
      rw [List.length_append, List.length_append, hlen, List.length_drop, hA]
      omega
    · show ((A ++ _).drop oo).take _ = _
      rw [List.drop_append, List.drop_of_length_le (by omega), hA, Nat.sub_self, List.drop_zero, List.nil_append, List.take_append_of_le_length (by rw [hlen]; exact Nat.le_refl _), List.take_of_length_le (by rw [hlen]; exact Nat.le_refl _)]
  have out : Out (fun j => j = bb) w w3 := ((Out.ofBelow (fun j => j = bb) bd).trans o2 (fun j _ e => e)).trans o3 (fun j _ e => e)
  have H := Lib.hid (And.intro hres out)
  rw [← hwd] at hr2
  have HC := Lib.hid hr2
  have HD := Lib.hid hr3
  have mixed : Try.prog.follows Departure.mixedOrders = true := by kernel_rfl
  clear hr2 hr3 hwd hres out B2 B3 X2 Bd Xd bd o2 o3 hcells e3 hRi hRt hRl hall hlen hcur hA z2 z3 hx hr hB htk
  go_enter Try.func53, Try.ntmps53
  go_wp2_with (simp only [hov _ rfl])
  go_region_law_o (refine step_copy rfl _ _ 54 54 rfl _ _ (by simp [Act.eval, Act.put]) (by simp [Act.eval, Act.put]) HC.out ?_)
  go_wp2_with (refine copy_g rfl _ _ _ _ rfl _ _ rfl rfl HD.out ?_; simp only [Act.put])
  go_ret
  exact ⟨rfl, H.out⟩

/-- slices.Insert of one mark. -/
theorem insert_any {w : World} {v : Value} {l : List Mk} {b : Nat → Prop} (h : RowN w v l b) {vb : Nat} {x : Mk} {t : TypeId} (hx : Blk w vb t (mkC x)) (hvb : ¬ b vb) {i : Nat} (hi : i ≤ l.length) (hl : l.length ≤ 1000) :
    Calls Try.prog 53 #[v, .int .i64 (i : Nat), .slice (some ⟨vb, 0, none⟩) 1 1] w fun e w' => ∃ s', e = .returned (slV s') ∧ RowM w' s' (l.take i ++ [x] ++ l.drop i) ∧ Out b w w' ∧ (b s'.b ∨ w.heap.size ≤ s'.b) := by
  by_cases he : i = l.length
  · subst he
    rw [List.take_length, List.drop_length, List.append_nil]
    exact insert_end h hx hl
  · rcases h with ⟨rfl, rfl⟩ | ⟨s, rfl, hr, hb⟩
    · simp at hi he; omega
    · by_cases hg : s.n + 1 ≤ s.c
      · refine (insert_room hr hx (fun e => hvb (by rw [e]; exact hb)) (by omega) hl hg).mono ?_
        rintro e w' ⟨rfl, h1, h2⟩
        exact ⟨_, rfl, h1, ⟨h2.os, h2.tape, h2.output, h2.size, fun j hj hn => h2.block j hj fun e => hn (by rw [e]; exact hb)⟩, .inl hb⟩
      · refine (insert_grow hr hx (by omega) hl (by omega)).mono ?_
        rintro e w' ⟨s', rfl, h1, h2, h3⟩
        exact ⟨_, rfl, h1, Out.ofBelow _ h2, .inr h3⟩
end Go.Proofs.Ytenccpccpjjkmaa

namespace Go.Proofs.Ytenccpccpjjkmaa
open Go.RowKit Go.Shelf Go.Sort Go.Maps
set_option linter.unusedVariables false
set_option linter.unusedSimpArgs false

theorem row_mark (x : Mk) (w : World) : (Instr.buildSlice 54 1 #[(0, .agg (mkC x).toArray)]).run Try.prog w = .ok (.slice (some ⟨w.heap.size, 0, none⟩) 1 1) (w.alloc (.cells (mkC x).toArray 28)) := by
  obtain ⟨s, d, hs, h⟩ := x
  obtain ⟨a0, a1, a2, a3, a4, a5, a6, a7, a8, a9, a10, a11, a12, a13, a14, a15, a16, a17, a18, a19, a20, a21, a22, a23, a24, a25, a26, a27, a28, a29, a30, a31, rfl⟩ := thirty2 d h
  kernel_rfl
theorem RowN.out {w w' : World} {v : Value} {l : List Mk} {b S : Nat → Prop} (h : RowN w v l b) (ho : Out S w w') (hS : ∀ j, b j → ¬ S j) : RowN w' v l b :=
  h.imp_right fun ⟨s, e, hr, hb⟩ => ⟨s, e, hr.out ho (hS _ hb), hb⟩
/-- A row that begins later. -/
theorem RowM.cut {w : World} {s : Sl} {l : List Mk} (h : RowM w s l) {k : Nat} (hk : k ≤ s.n) (o : Nat) (ho : o = if s.c - k = 0 then s.o else s.o + k * 33) (hkc : k < s.c) : RowM w ⟨s.b, o, s.n - k, s.c - k⟩ (l.drop k) := by
  obtain ⟨cur, hB, hf, ht⟩ := h.cur
  rw [if_neg (by omega)] at ho
  subst ho
  have hc := h.cap
  refine ⟨by rw [List.length_drop, h.len], by show s.n - k ≤ s.c - k; omega, by show s.c - k ≤ maxLen; have := h.max; omega, cur, hB, ?_, ?_⟩
  · show s.o + k * 33 + (s.c - k) * 33 ≤ _
    omega
  · show (cur.drop (s.o + k * 33)).take ((s.n - k) * 33) = _
    have : ((cur.drop s.o).take (s.n * 33)).drop (k * 33) = mks (l.drop k) := by rw [ht, mks_drop]
    rw [List.drop_take, List.drop_drop] at this
    rw [← this]
    congr 1
    omega
set_option maxRecDepth 100000 in
set_option maxHeartbeats 1600000 in
theorem with_any {w : World} {v : Value} {l : List Mk} {b : Nat → Prop} (h : RowN w v l b) (hb : ∀ j, b j → j < w.heap.size) (x : Mk) {i : Nat} (hi : atM l x.s = i) (hl : l.length ≤ 1000) :
    Calls Try.prog 34 #[v, .int .i64 (i : Nat), mkA x] w fun e w' => ∃ s', e = .returned (slV s') ∧ RowM w' s' (cutM (insM l x)) ∧ Out b w w' ∧ (b s'.b ∨ w.heap.size ≤ s'.b) := by
  obtain ⟨w1, hw1⟩ : ∃ w1, w.alloc (.cells (mkC x).toArray 28) = w1 := ⟨_, rfl⟩
  have b1 : Below w.heap.size w w1 := by rw [← hw1]; exact (Below.refl _ _).alloc (Nat.le_refl _) _
  have B1 : Blk w1 w.heap.size 28 (mkC x) := by rw [← hw1]; exact Blk.new rfl rfl
  have z1 : w1.heap.size = w.heap.size + 1 := by rw [← hw1]; simp
  subst hw1
  obtain ⟨w2, hw2⟩ : ∃ w2, (w.alloc (.cells (mkC x).toArray 28)).alloc (.cells (mkC x).toArray 28) = w2 := ⟨_, rfl⟩
  have b2 : Below (w.alloc (.cells (mkC x).toArray 28)).heap.size (w.alloc (.cells (mkC x).toArray 28)) w2 := by rw [← hw2]; exact (Below.refl _ _).alloc (Nat.le_refl _) _
  have B2 : Blk w2 (w.alloc (.cells (mkC x).toArray 28)).heap.size 28 (mkC x) := by rw [← hw2]; exact Blk.new rfl rfl
  have hrow := row_mark x (w.alloc (.cells (mkC x).toArray 28))
  rw [hw2] at hrow
  have b12 : Below w.heap.size w w2 := b1.trans (b2.mono b1.size)
  rw [z1] at hrow B2
  have hN : RowN w2 v l b := h.out (S := fun j => w.heap.size ≤ j) (Out.ofBelow _ b12) fun j hj => by have := hb j hj; omega
  have hins := insert_any (i := i) hN B2 (fun e => by have := hb _ e; omega) (by rw [← hi]; exact atM_le _ _) hl
  have he : l.take i ++ [x] ++ l.drop i = insM l x := by unfold insM; rw [hi]
  rw [he] at hins
  have hlen := insM_len l x
  have HI := Lib.hid hins
  have HR := Lib.hid (And.intro B1.range (And.intro (mark_infoL x) hrow))
  have HB := Lib.hid (And.intro b12 (And.intro hlen hb))
  clear hins hrow B1 B2 b1 b2 b12 hN h hw2 he hi hlen hb z1
  unfold mkA
  generalize insM l x = L at *
  generalize mkC x = C at *
  go_enter Try.func34, Try.ntmps34
  go_wp2_with (first
    | (refine load_mid_g rfl 28 _ rfl w.heap.size 0 rfl C _ HR.out.1 Try.underlying28 rfl HR.out.2.1 ?_; simp only [Act.put])
    | (refine row_g rfl 54 1 _ rfl _ _ (by simp only [List.map_toArray, List.map_cons, List.map_nil]; exact HR.out.2.2) ?_; simp only [Act.put])
    | (go_at_call 53; refine HI.out.mono ?_; go_loud (rintro e w3 ⟨⟨b', o', n', c'⟩, rfl, h1, h2, h3⟩; simp only [slV]; have hn := h1.len; have hc := h1.cap; simp only at hn hc; have hl1 := HB.out.2.1; obtain ⟨k, hk⟩ : ∃ k : Nat, n' - 4 = k := ⟨_, rfl⟩; have hw : IntKind.i64.wrap ((n' : Int) - 4) = (n' : Int) - 4 := IntWalk.i64_in _ (by omega); have hmx : max 0 ((n' : Int) - 4) = (k : Int) := (by omega); have k0 : (0 : Int) ≤ (k : Int) := (by omega); have k1 : (k : Int) ≤ (n' : Int) := (by omega); have k2 : ¬ c' = k := (by omega); replace h1 := Lib.hid (And.intro h1 (And.intro h2 h3)); clear h2 h3)))
  go_ret
  obtain ⟨h1, h2, h3⟩ := h1.out
  have hcut := h1.cut (k := k) (by show k ≤ n'; omega) (o' + k * 33) (by rw [if_neg (by show ¬ c' - k = 0; omega)]) (by show k < c'; omega)
  refine ⟨⟨b', o' + k * 33, n' - k, c' - k⟩, rfl, ?_, ?_, ?_⟩
  · have : cutM L = L.drop k := by unfold cutM; rw [hn, hk]
    rw [this]
    exact hcut
  · exact ((Out.ofBelow b HB.out.1).trans h2 fun j _ e => e)
  · exact h3.imp_right fun h => by have := HB.out.1.size; show w.heap.size ≤ b'; omega
end Go.Proofs.Ytenccpccpjjkmaa
