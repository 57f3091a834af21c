/-
  Laid together for a hand-in: RuleG, In14, Qr14, Qs14.
-/
import Derived.Test.YtmdgcimjmmnbjaaZ04
import Derived.Test.YtmdgcimjmmnbjaaZ06
import Derived.Sort.Grow

namespace Go.Proofs.Ytmdgcimjmmnbjaa
open Go.RowKit Go.Maps Go.Sort
set_option linter.unusedVariables false

/-- So many draws on, with some blocks more. -/
def Grw (w w' : World) : Prop := ∃ q os, w' = grow (w.drewN q) os
theorem drew0 (w : World) : w.drewN 0 = w := rfl
theorem Grw.refl (w : World) : Grw w w := ⟨0, #[], by rw [grow_empty]; rfl⟩
theorem Grw.drew (w : World) : Grw w w.drew := ⟨1, #[], by rw [grow_empty]; rfl⟩
theorem Grw.trans {a b c : World} (h : Grw a b) (k : Grw b c) : Grw a c := by
  obtain ⟨q, os, rfl⟩ := h
  obtain ⟨q', os', rfl⟩ := k
  exact ⟨q + q', os ++ os', by show grow (grow ((a.drewN q).drewN q') os) os' = _; rw [grow_grow, World.drewN_drewN]⟩
theorem Grw.alloc (w : World) (o : Obj) : Grw w (w.alloc o) := ⟨0, #[o], alloc_eq_grow w o⟩
theorem Grw.of {w w' : World} (h : w' = w) : Grw w w' := by rw [h]; exact Grw.refl w
theorem Grw.below {w w' : World} (h : Grw w w') : Below w.heap.size w w' := by
  obtain ⟨q, os, rfl⟩ := h
  refine ⟨rfl, rfl, rfl, by rw [size_grow]; exact Nat.le_add_right _ _, fun k hk => ?_⟩
  exact heap_grow_old _ _ hk

section
variable {P : Program} {ops : Array Oper} {Q : Exit → Act → World → Prop} {md : Region.Mode}
theorem any_ruleG (d : Nat → Nat) (R : Nat → Value → World → Prop) (a0 : Act) (w0 : World)
    (hd : ∀ i o, ops[i]? = some o → o.dst = some (d i) ∧ d i < a0.tmps.size)
    (hinj : ∀ i j, i < ops.size → j < ops.size → d i = d j → i = j)
    (hback : ∀ i o, ops[i]? = some o → ∀ e ∈ o.after, Region.binds md e = true → e.on < i)
    (hstab : ∀ i v w w', R i v w → Grw w w' → R i v w')
    (hstep : ∀ i o, ops[i]? = some o → ∀ a w, Base d ops.size a0 a → Grw w0 w → (∀ e ∈ o.after, Region.binds md e = true → Has d R e.on a w) →
      ∀ K : Act → World → Prop, (∀ v w', R i v w' → Grw w w' → K (a.put (some (d i)) v) w') → wpOp P ops Q i K a w)
    (hend : ∀ a w, Base d ops.size a0 a → Grw w0 w → (∀ i, i < ops.size → Has d R i a w) → Q .normal a w) :
    ∀ fuel listed a w, listed.size = ops.size → Base d ops.size a0 a → Grw w0 w → (∀ i, i < ops.size → listed.getD i false = true → Has d R i a w) →
      (List.range ops.size).countP (fun i => !listed.getD i true) ≤ fuel → wpAny P md ops Q fuel listed a w := by
  intro fuel
  induction fuel with
  | zero =>
    intro listed a w hs hb hw hl hc
    have hnone : Region.ready md ops listed = [] := by
      cases hr : Region.ready md ops listed with
      | nil => rfl
      | cons x xs =>
        exfalso
        obtain ⟨o, _, hx, hx2, _⟩ := ready_mem (md := md) (ops := ops) (listed := listed) (i := x) (by rw [hr]; exact List.mem_cons_self)
        have hp : 0 < (List.range ops.size).countP (fun i => !listed.getD i true) := List.countP_pos_iff.2 ⟨x, List.mem_range.2 hx, by rw [hx2]; rfl⟩
        omega
    exact ⟨hnone, hend a w hb hw fun i hi => hl i hi (ready_nil hs hback hnone i hi)⟩
  | succ fuel ih =>
    intro listed a w hs hb hw hl hc
    refine ⟨fun hr => hend a w hb hw fun i hi => hl i hi (ready_nil hs hback hr i hi), fun i hi => ?_⟩
    obtain ⟨o, ho, hi1, hi2, hi3⟩ := ready_mem hi
    have hon : ∀ e ∈ o.after, Region.binds md e = true → Has d R e.on a w := fun e he hb => hl e.on (by have := hback i o ho e he hb; omega) (hi3 e he hb)
    refine hstep i o ho a w hb hw hon _ fun v w' hv hbel => ?_
    obtain ⟨_, hdi⟩ := hd i o ho
    have hput : (a.put (some (d i)) v).tmps = a.tmps.setIfInBounds (d i) v := rfl
    refine ih (listed.setIfInBounds i true) (a.put (some (d i)) v) w' (by simpa using hs) ⟨?_, hb.2.1, ?_⟩ (hw.trans hbel) ?_ ?_
    · rw [hput]; simpa using hb.1
    · intro s hsn
      rw [hput, Array.getElem?_setIfInBounds_ne (hsn i hi1)]
      exact hb.2.2 s hsn
    · intro j hj hjl
      by_cases e : j = i
      · subst e
        exact ⟨v, by rw [hput, Array.getElem?_setIfInBounds_self_of_lt (by rw [hb.1]; exact hdi)], hv⟩
      · have hj2 : listed.getD j false = true := by
          have : (listed.setIfInBounds i true)[j]? = listed[j]? := Array.getElem?_setIfInBounds_ne (fun h => e h.symm)
          rw [Array.getD_eq_getD_getElem?] at hjl ⊢
          rwa [this] at hjl
        obtain ⟨u, hu, hru⟩ := hl j hj hj2
        exact ⟨u, by rw [hput, Array.getElem?_setIfInBounds_ne (fun h => e (hinj i j hi1 hj h).symm)]; exact hu, hstab j u w w' hru hbel⟩
    · have hlt : (List.range ops.size).countP (fun k => !(listed.setIfInBounds i true).getD k true) < (List.range ops.size).countP (fun k => !listed.getD k true) := by
        refine countP_lt _ (fun k hk hq => ?_) ⟨i, List.mem_range.2 hi1, by rw [hi2]; rfl, ?_⟩
        · by_cases e : k = i
          · subst e
            rw [Array.getD_eq_getD_getElem?, Array.getElem?_setIfInBounds_self_of_lt (by omega)] at hq
            simp at hq
          · have : (listed.setIfInBounds i true)[k]? = listed[k]? := Array.getElem?_setIfInBounds_ne (fun h => e h.symm)
            rw [Array.getD_eq_getD_getElem?] at hq ⊢
            rwa [this] at hq
        · rw [Array.getD_eq_getD_getElem?, Array.getElem?_setIfInBounds_self_of_lt (by omega)]
          rfl
      omega
/-- From the beginning. -/
theorem region_ruleG {id : Nat} (d : Nat → Nat) (R : Nat → Value → World → Prop) (a0 : Act) (w0 : World) (hm : P.follows .mixedOrders = true)
    (hd : ∀ i o, ops[i]? = some o → o.dst = some (d i) ∧ d i < a0.tmps.size)
    (hinj : ∀ i j, i < ops.size → j < ops.size → d i = d j → i = j)
    (hback : ∀ i o, ops[i]? = some o → ∀ e ∈ o.after, Region.binds .any e = true → e.on < i)
    (hstab : ∀ i v w w', R i v w → Grw w w' → R i v w')
    (hstep : ∀ i o, ops[i]? = some o → ∀ a w, Base d ops.size a0 a → Grw w0 w → (∀ e ∈ o.after, Region.binds .any e = true → Has d R e.on a w) →
      ∀ K : Act → World → Prop, (∀ v w', R i v w' → Grw w w' → K (a.put (some (d i)) v) w') → wpOp P ops Q i K a w)
    (hend : ∀ a w, Base d ops.size a0 a → Grw w0 w → (∀ i, i < ops.size → Has d R i a w) → Q .normal a w) : (Code.region id ops true).wp P Q a0 w0 := by
  refine wp_region_any hm (any_ruleG (P := P) (md := .any) d R a0 w0 hd hinj hback hstab hstep hend ops.size _ a0 _ (by simp) ⟨rfl, rfl, fun _ _ => rfl⟩ ?_ ?_ ?_)
  · exact Grw.drew _
  · intro i hi h
    rw [Array.getD_eq_getD_getElem?] at h
    simp [hi] at h
  · exact Nat.le_trans List.countP_le_length (by simp)

/-- The same, where some guards may not be met: 'gb' tells what each guard answers, 'sk' which operations are passed over so. -/
theorem region_ruleG4 {id : Nat} (n N : Nat) (d : Nat → Nat) (gb : Nat → Option Bool) (sk : Nat → Bool) (R : Nat → Value → World → Prop) (a0 : Act) (w0 : World) (hm : P.follows .mixedOrders = true) (hn : ops.size = n) (hN : a0.tmps.size = N)
    (ht : ((List.range n).all fun i => ((ops[i]?).map fun o => (o.dst == some (d i)) && decide (d i < N) && (match o.guard with | none => !sk i | some (g, b) => (gb g).isSome && (sk i == !(gb g == some b)) && decide (g < n) && o.after.any fun e => Region.binds .any e && (e.on == g)) && o.after.all fun e => !Region.binds .any e || decide (e.on < i)).getD false) = true)
    (hinj : ((List.range n).all fun i => (List.range n).all fun j => !(d i == d j) || (i == j)) = true)
    (hgb : ∀ i b v w, gb i = some b → R i v w → v = .bool b)
    (hsk : ∀ i w, sk i = true → R i undef w)
    (hstab : ∀ i v w w', R i v w → Grw w w' → R i v w')
    (hstep : ∀ i o, i < n → sk i = false → ops[i]? = some o → o.dst = some (d i) → ∀ a w, Base d n a0 a → Grw w0 w → Region.wanted o (yielded ops a.tmps) = true →
      (∀ j, (o.after.any fun e => Region.binds .any e && (e.on == j)) = true → Has d R j a w) →
      ∀ K : Act → World → Prop, (∀ v w', R i v w' → Grw w w' → K (a.put o.dst v) w') → wpOp P ops Q i K a w)
    (hend : ∀ a w, Base d n a0 a → Grw w0 w → (∀ i, i < n → Has d R i a w) → Q .normal a w) : (Code.region id ops true).wp P Q a0 w0 := by
  subst hn
  subst hN
  have hlt : ∀ i o, ops[i]? = some o → i < ops.size := fun i o h => by
    rcases Nat.lt_or_ge i ops.size with hl | hl
    · exact hl
    · rw [Array.getElem?_eq_none hl] at h; cases h
  have key : ∀ i o, ops[i]? = some o → o.dst = some (d i) ∧ d i < a0.tmps.size ∧ (o.guard = none → sk i = false) ∧ (∀ g b, o.guard = some (g, b) → (gb g).isSome = true ∧ sk i = !(gb g == some b) ∧ g < ops.size ∧ (o.after.any fun e => Region.binds .any e && (e.on == g)) = true) ∧ ∀ e ∈ o.after, Region.binds .any e = true → e.on < i := by
    intro i o ho
    have h := List.all_eq_true.1 ht i (List.mem_range.2 (hlt i o ho))
    rw [ho] at h
    simp only [Option.map_some, Option.getD_some, Bool.and_eq_true, beq_iff_eq, decide_eq_true_eq] at h
    obtain ⟨⟨⟨h1, h2⟩, h3⟩, h4⟩ := h
    refine ⟨h1, h2, fun hg => ?_, fun g b hg => ?_, fun e he hb => ?_⟩
    · rw [hg] at h3
      simpa using h3
    · rw [hg] at h3
      simp only [Bool.and_eq_true, decide_eq_true_eq, beq_iff_eq] at h3
      exact ⟨h3.1.1.1, h3.1.1.2, h3.1.2, h3.2⟩
    · have := Array.all_eq_true_iff_forall_mem.1 h4 e he
      rw [hb] at this
      simpa using this
  refine region_ruleG (P := P) d R a0 w0 hm (fun i o ho => ⟨(key i o ho).1, (key i o ho).2.1⟩) (fun i j hi hj e => ?_) (fun i o ho => (key i o ho).2.2.2.2) hstab (fun i o ho a w hb hw hdep K hK => ?_) hend
  · have h := List.all_eq_true.1 (List.all_eq_true.1 hinj i (List.mem_range.2 hi)) j (List.mem_range.2 hj)
    rw [e] at h
    simpa using h
  · have hdep' : ∀ j, (o.after.any fun e => Region.binds .any e && (e.on == j)) = true → Has d R j a w := fun j hj => by
      rw [Array.any_eq_true] at hj
      obtain ⟨k, hk, h2⟩ := hj
      simp only [Bool.and_eq_true, beq_iff_eq] at h2
      obtain ⟨h2, h3⟩ := h2
      rw [← h3]
      exact hdep _ (Array.getElem_mem hk) h2
    have hwant : Region.wanted o (yielded ops a.tmps) = !sk i := by
      unfold Region.wanted
      cases hg : o.guard with
      | none => rw [(key i o ho).2.2.1 hg]; rfl
      | some gp =>
        obtain ⟨g, b⟩ := gp
        obtain ⟨h1, h2, h3, h4⟩ := (key i o ho).2.2.2.1 g b hg
        obtain ⟨v, hv, hR⟩ := hdep' g h4
        obtain ⟨b', hb'⟩ := Option.isSome_iff_exists.1 h1
        have ev := hgb g b' v w hb' hR
        subst ev
        have hog : ops[g]? = some ops[g] := Array.getElem?_eq_getElem h3
        have hdg := (key g _ hog).1
        rw [h2, hb']
        show (yielded ops a.tmps g == some b) = _
        unfold yielded
        rw [hog, Option.bind_some, hdg, Option.bind_some, hv]
        cases b' <;> cases b <;> rfl
    cases hs : sk i with
    | false => exact hstep i o (hlt i o ho) hs ho (key i o ho).1 a w hb hw (by rw [hwant, hs]; rfl) hdep' K (fun v w' h1 h2 => by rw [(key i o ho).1]; exact hK v w' h1 h2)
    | true =>
      refine wpOp_step ho (fun K' hK' => ?_)
      rw [if_neg (by rw [hwant, hs]; simp)]
      refine hK' _ _ ?_
      rw [(key i o ho).1]
      exact hK undef w (hsk i w hs) (Grw.refl _)
end
end Go.Proofs.Ytmdgcimjmmnbjaa

namespace Go.Proofs.Ytmdgcimjmmnbjaa
open Go.RowKit Go.Shelf Go.Sort Go.Maps
set_option linter.unusedVariables false
set_option linter.unusedSimpArgs false

def RowI (w : World) (v : Value) (l : List Int) : Prop := ∃ g, v = .slice (some ⟨g, 0, none⟩) l.length l.length ∧ Blk w g 3 (cis l)
theorem RowI.below {w w' : World} {v : Value} {l : List Int} (h : RowI w v l) (hb : Below w.heap.size w w') : RowI w' v l := let ⟨g, e, hB⟩ := h; ⟨g, e, hB.below hb hB.lt⟩

def ioR (b1 b2 : Nat) (x y : Sd) (r1 r2 r3 r : Int) : Nat → Value → World → Prop
  | 0 => fun v w => v = .pointer (some ⟨b1, 0, none⟩)
  | 1 => fun v w => v = .int .i64 x.seq
  | 2 => fun v w => v = .pointer (some ⟨b2, 0, none⟩)
  | 3 => fun v w => v = .int .i64 y.seq
  | 4 => fun v w => v = .int .i64 r1
  | 5 => fun v w => v = .pointer (some ⟨b1, 33, none⟩)
  | 6 => fun v w => v = .int .i64 x.v
  | 7 => fun v w => v = .pointer (some ⟨b2, 33, none⟩)
  | 8 => fun v w => v = .int .i64 y.v
  | 9 => fun v w => v = .int .i64 r2
  | 10 => fun v w => v = .pointer (some ⟨b1, 1, none⟩)
  | 11 => fun v w => v = .slice (some ⟨b1, 1, none⟩) 32 32
  | 12 => fun v w => v = .pointer (some ⟨b2, 1, none⟩)
  | 13 => fun v w => v = .slice (some ⟨b2, 1, none⟩) 32 32
  | 14 => fun v w => v = .int .i64 r3
  | 15 => fun v w => RowI w v [r1, r2, r3]
  | 16 => fun v w => v = .int .i64 r
  | 17 => fun v w => v = .int .i64 r
  | _ => fun _ _ => True
def ioD (i : Nat) : Nat := ([5, 6, 7, 8, 9, 10, 11, 12, 13, 14, 15, 16, 17, 18, 19, 20, 21, 4] : List Nat).getD i 0
def ioG : Nat → Option Bool
  | _ => none
def ioS (i : Nat) : Bool := ([] : List Nat).contains i
theorem io_gb (b1 b2 : Nat) (x y : Sd) (r1 r2 r3 r : Int) : ∀ i b v w, ioG i = some b → ioR b1 b2 x y r1 r2 r3 r i v w → v = .bool b := by
  intro i b v w h hR
  unfold ioG at h
  split at h
  all_goals first | (injection h with h; subst h; exact hR) | cases h
theorem io_sk (b1 b2 : Nat) (x y : Sd) (r1 r2 r3 r : Int) : ∀ i w, ioS i = true → ioR b1 b2 x y r1 r2 r3 r i undef w := by
  intro i w h
  simp [ioS] at h
theorem io_on (b1 b2 : Nat) (x y : Sd) (r1 r2 r3 r : Int) : ∀ i v w w', ioR b1 b2 x y r1 r2 r3 r i v w → Grw w w' → ioR b1 b2 x y r1 r2 r3 r i v w'
  | 0, v, w, w', h, _ => h
  | 1, v, w, w', h, _ => h
  | 2, v, w, w', h, _ => h
  | 3, v, w, w', h, _ => h
  | 4, v, w, w', h, _ => h
  | 5, v, w, w', h, _ => h
  | 6, v, w, w', h, _ => h
  | 7, v, w, w', h, _ => h
  | 8, v, w, w', h, _ => h
  | 9, v, w, w', h, _ => h
  | 10, v, w, w', h, _ => h
  | 11, v, w, w', h, _ => h
  | 12, v, w, w', h, _ => h
  | 13, v, w, w', h, _ => h
  | 14, v, w, w', h, _ => h
  | 15, v, w, w', h, hb => RowI.below h hb.below
  | 16, v, w, w', h, _ => h
  | 17, v, w, w', h, _ => h
  | i + 18, v, w, w', h, hb => trivial
def ioOps : List Op := [.fieldAddr 41 (.tmp 2) 0,
  .load 3 (.tmp 5),
  .fieldAddr 41 (.tmp 3) 0,
  .load 3 (.tmp 7),
  .call { callee := .value (.func 64), args := #[.tmp 6, .tmp 8], argTypes := #[3, 3] },
  .fieldAddr 41 (.tmp 2) 2,
  .load 3 (.tmp 10),
  .fieldAddr 41 (.tmp 3) 2,
  .load 3 (.tmp 12),
  .call { callee := .value (.func 64), args := #[.tmp 11, .tmp 13], argTypes := #[3, 3] },
  .fieldAddr 41 (.tmp 2) 1,
  .slice 39 (.tmp 15) none none none,
  .fieldAddr 41 (.tmp 3) 1,
  .slice 39 (.tmp 17) none none none,
  .call { callee := .value (.func 65), args := #[.tmp 16, .tmp 18], argTypes := #[23, 23] },
  .buildSlice 51 3 #[(0, .tmp 9), (1, .tmp 14), (2, .tmp 19)],
  .call { callee := .value (.func 63), args := #[.tmp 20], argTypes := #[51] },
  .assign (.tmp 21)]
def ioNeeds : Nat → List Nat
  | 0 => []
  | 1 => [0]
  | 2 => []
  | 3 => [2]
  | 4 => [1, 3]
  | 5 => []
  | 6 => [5]
  | 7 => []
  | 8 => [7]
  | 9 => [6, 8]
  | 10 => []
  | 11 => [10]
  | 12 => []
  | 13 => [12]
  | 14 => [11, 13]
  | 15 => [4, 9, 14]
  | 16 => [15]
  | 17 => [16]
  | _ => []
set_option maxRecDepth 100000 in
set_option maxHeartbeats 3200000 in
theorem io_step {ops : Array Oper} {Q : Exit → Act → World → Prop} {a0 : Act} {w0 : World} (b1 b2 : Nat) (x y : Sd) (r1 r2 r3 r : Int) (hops : ((List.range 18).map fun i => (ops[i]?).map Oper.op) = ioOps.map some)
    (hnd : ((List.range 18).all fun i => (ioNeeds i).all fun j => ((ops[i]?).map fun o => o.after.any fun e => Region.binds .any e && (e.on == j)).getD false) = true)
    (x2 : a0.tmps[2]? = some (.pointer (some ⟨b1, 0, none⟩))) (x3 : a0.tmps[3]? = some (.pointer (some ⟨b2, 0, none⟩)))
    (hB : Blk w0 b1 41 (sdC x)) (hC : Blk w0 b2 41 (sdC y)) (hx : x.d.length = 32) (hy : y.d.length = 32) (hB33 : (sdC x)[33]? = some (.int .i64 x.v)) (hC33 : (sdC y)[33]? = some (.int .i64 y.v))
    (hBd : ∀ j u, (cbs x.d)[j]? = some u → (sdC x)[1 + j]? = some u) (hCd : ∀ j u, (cbs y.d)[j]? = some u → (sdC y)[1 + j]? = some u)
    (q1 : Lib.compareInt x.seq y.seq = r1) (q2 : Lib.compareInt x.v y.v = r2) (q3 : Lib.compareBytes x.d y.d = r3) (hr : or3 r1 r2 r3 = r) :
    ∀ i o, i < 18 → ioS i = false → ops[i]? = some o → o.dst = some (ioD i) → ∀ a w, Base ioD 18 a0 a → Grw w0 w → Region.wanted o (yielded ops a.tmps) = true →
      (∀ j, (o.after.any fun e => Region.binds .any e && (e.on == j)) = true → Has ioD (ioR b1 b2 x y r1 r2 r3 r) j a w) →
      ∀ K : Act → World → Prop, (∀ v w', ioR b1 b2 x y r1 r2 r3 r i v w' → Grw w w' → K (a.put o.dst v) w') → wpOp Try.prog ops Q i K a w := by
  intro i o hi hs ho hds a w hbase hbl hwt hdep0 K hK
  have hop : some o.op = ioOps[i]? := by
    have h1 : ((List.range 18).map fun i => (ops[i]?).map Oper.op)[i]? = some (some o.op) := by
      rw [List.getElem?_map, List.getElem?_range hi]; simp only [Option.map_some, ho]
    rw [hops, List.getElem?_map] at h1
    cases h2 : ioOps[i]? with
    | none => rw [h2] at h1; cases h1
    | some y => rw [h2] at h1; simp only [Option.map_some, Option.some.injEq] at h1; rw [h1]
  have hdep : ∀ j, j ∈ ioNeeds i → Has ioD (ioR b1 b2 x y r1 r2 r3 r) j a w := fun j hj => by
    have h1 := List.all_eq_true.1 (List.all_eq_true.1 hnd i (List.mem_range.2 hi)) j hj
    rw [ho] at h1
    exact hdep0 j h1
  clear hdep0 hops hnd
  match i, hi, hs, ho, hop, hds, hdep, hK with
  | 0, _, hs, ho, hop, hds, hdep, hK =>
    have hop : o.op = .fieldAddr 41 (.tmp 2) 0 := Option.some.inj hop
    have hu2 : a.tmps[2]? = some (.pointer (some ⟨b1, 0, none⟩)) := (hbase.2.2 2 (by decide)).trans x2
    have e2 : a.eval (.tmp 2) = _ := ev_tmp hu2
    refine st3 ho hwt (v := .pointer (some ⟨b1, 0, none⟩)) (w' := w) ?_ (hK _ w rfl (Grw.refl _))
    unfold execOp
    simp only [hop, Option.map_some, Option.map_none, e2]
    first | rfl | (go_simp; done) | (go_simp; simp; done) | (go_simp; intro h; omega)
  | 1, _, hs, ho, hop, hds, hdep, hK =>
    have hop : o.op = .load 3 (.tmp 5) := Option.some.inj hop
    obtain ⟨u5, hu5, hv5⟩ := hdep 0 (by decide)
    have hv5' : u5 = .pointer (some ⟨b1, 0, none⟩) := hv5
    subst hv5'
    have e5 : a.eval (.tmp 5) = _ := ev_tmp hu5
    have kc : w.cell? ⟨b1, 0, none⟩ = some (.int .i64 x.seq) := (hB.below hbl.below hB.lt).cell rfl
    refine st3 ho hwt (v := .int .i64 x.seq) (w' := w) ?_ (hK _ w rfl (Grw.refl _))
    unfold execOp
    simp only [hop, Option.map_some, Option.map_none, e5]
    first | rfl | (go_simp; done) | (go_simp; simp; done) | (go_simp; intro h; omega)
  | 2, _, hs, ho, hop, hds, hdep, hK =>
    have hop : o.op = .fieldAddr 41 (.tmp 3) 0 := Option.some.inj hop
    have hu3 : a.tmps[3]? = some (.pointer (some ⟨b2, 0, none⟩)) := (hbase.2.2 3 (by decide)).trans x3
    have e3 : a.eval (.tmp 3) = _ := ev_tmp hu3
    refine st3 ho hwt (v := .pointer (some ⟨b2, 0, none⟩)) (w' := w) ?_ (hK _ w rfl (Grw.refl _))
    unfold execOp
    simp only [hop, Option.map_some, Option.map_none, e3]
    first | rfl | (go_simp; done) | (go_simp; simp; done) | (go_simp; intro h; omega)
  | 3, _, hs, ho, hop, hds, hdep, hK =>
    have hop : o.op = .load 3 (.tmp 7) := Option.some.inj hop
    obtain ⟨u7, hu7, hv7⟩ := hdep 2 (by decide)
    have hv7' : u7 = .pointer (some ⟨b2, 0, none⟩) := hv7
    subst hv7'
    have e7 : a.eval (.tmp 7) = _ := ev_tmp hu7
    have kc : w.cell? ⟨b2, 0, none⟩ = some (.int .i64 y.seq) := (hC.below hbl.below hC.lt).cell rfl
    refine st3 ho hwt (v := .int .i64 y.seq) (w' := w) ?_ (hK _ w rfl (Grw.refl _))
    unfold execOp
    simp only [hop, Option.map_some, Option.map_none, e7]
    first | rfl | (go_simp; done) | (go_simp; simp; done) | (go_simp; intro h; omega)
  | 4, _, hs, ho, hop, hds, hdep, hK =>
    have hop : o.op = .call { callee := .value (.func 64), args := #[.tmp 6, .tmp 8], argTypes := #[3, 3] } := Option.some.inj hop
    obtain ⟨u6, hu6, hv6⟩ := hdep 1 (by decide)
    have hv6' : u6 = .int .i64 x.seq := hv6
    subst hv6'
    have e6 : a.eval (.tmp 6) = _ := ev_tmp hu6
    obtain ⟨u8, hu8, hv8⟩ := hdep 3 (by decide)
    have hv8' : u8 = .int .i64 y.seq := hv8
    subst hv8'
    have e8 : a.eval (.tmp 8) = _ := ev_tmp hu8
    refine st3_call ho hwt (f := 64) (vals := #[.int .i64 x.seq, .int .i64 y.seq]) (Z := fun v w' => v = .int .i64 r1 ∧ Grw w w') ?_ ?_ ?_
    · unfold execOp
      simp only [hop, e6, e8, resolve, invoke, Sem.run_bind, Sem.run_pure, Result.andThen_ok, List.map_toArray, List.map_cons, List.map_nil]
      first | rfl | exact enters_of Try.func64 (by kernel_rfl) rfl _ _
    · exact (Any.cmp_Compare_int Try.cmpL x.seq y.seq w).mono fun e w' ⟨he, h2⟩ => ⟨_, he, by rw [q1], by rw [h2]; exact Grw.refl _⟩
    · rintro v w' ⟨h1, h2⟩
      exact hK v w' h1 h2
  | 5, _, hs, ho, hop, hds, hdep, hK =>
    have hop : o.op = .fieldAddr 41 (.tmp 2) 2 := Option.some.inj hop
    have hu2 : a.tmps[2]? = some (.pointer (some ⟨b1, 0, none⟩)) := (hbase.2.2 2 (by decide)).trans x2
    have e2 : a.eval (.tmp 2) = _ := ev_tmp hu2
    refine st3 ho hwt (v := .pointer (some ⟨b1, 33, none⟩)) (w' := w) ?_ (hK _ w rfl (Grw.refl _))
    unfold execOp
    simp only [hop, Option.map_some, Option.map_none, e2]
    first | rfl | (go_simp; done) | (go_simp; simp; done) | (go_simp; intro h; omega)
  | 6, _, hs, ho, hop, hds, hdep, hK =>
    have hop : o.op = .load 3 (.tmp 10) := Option.some.inj hop
    obtain ⟨u10, hu10, hv10⟩ := hdep 5 (by decide)
    have hv10' : u10 = .pointer (some ⟨b1, 33, none⟩) := hv10
    subst hv10'
    have e10 : a.eval (.tmp 10) = _ := ev_tmp hu10
    have kc : w.cell? ⟨b1, 33, none⟩ = some (.int .i64 x.v) := (hB.below hbl.below hB.lt).cell hB33
    refine st3 ho hwt (v := .int .i64 x.v) (w' := w) ?_ (hK _ w rfl (Grw.refl _))
    unfold execOp
    simp only [hop, Option.map_some, Option.map_none, e10]
    first | rfl | (go_simp; done) | (go_simp; simp; done) | (go_simp; intro h; omega)
  | 7, _, hs, ho, hop, hds, hdep, hK =>
    have hop : o.op = .fieldAddr 41 (.tmp 3) 2 := Option.some.inj hop
    have hu3 : a.tmps[3]? = some (.pointer (some ⟨b2, 0, none⟩)) := (hbase.2.2 3 (by decide)).trans x3
    have e3 : a.eval (.tmp 3) = _ := ev_tmp hu3
    refine st3 ho hwt (v := .pointer (some ⟨b2, 33, none⟩)) (w' := w) ?_ (hK _ w rfl (Grw.refl _))
    unfold execOp
    simp only [hop, Option.map_some, Option.map_none, e3]
    first | rfl | (go_simp; done) | (go_simp; simp; done) | (go_simp; intro h; omega)
  | 8, _, hs, ho, hop, hds, hdep, hK =>
    have hop : o.op = .load 3 (.tmp 12) := Option.some.inj hop
    obtain ⟨u12, hu12, hv12⟩ := hdep 7 (by decide)
    have hv12' : u12 = .pointer (some ⟨b2, 33, none⟩) := hv12
    subst hv12'
    have e12 : a.eval (.tmp 12) = _ := ev_tmp hu12
    have kc : w.cell? ⟨b2, 33, none⟩ = some (.int .i64 y.v) := (hC.below hbl.below hC.lt).cell hC33
    refine st3 ho hwt (v := .int .i64 y.v) (w' := w) ?_ (hK _ w rfl (Grw.refl _))
    unfold execOp
    simp only [hop, Option.map_some, Option.map_none, e12]
    first | rfl | (go_simp; done) | (go_simp; simp; done) | (go_simp; intro h; omega)
  | 9, _, hs, ho, hop, hds, hdep, hK =>
    have hop : o.op = .call { callee := .value (.func 64), args := #[.tmp 11, .tmp 13], argTypes := #[3, 3] } := Option.some.inj hop
    obtain ⟨u11, hu11, hv11⟩ := hdep 6 (by decide)
    have hv11' : u11 = .int .i64 x.v := hv11
    subst hv11'
    have e11 : a.eval (.tmp 11) = _ := ev_tmp hu11
    obtain ⟨u13, hu13, hv13⟩ := hdep 8 (by decide)
    have hv13' : u13 = .int .i64 y.v := hv13
    subst hv13'
    have e13 : a.eval (.tmp 13) = _ := ev_tmp hu13
    refine st3_call ho hwt (f := 64) (vals := #[.int .i64 x.v, .int .i64 y.v]) (Z := fun v w' => v = .int .i64 r2 ∧ Grw w w') ?_ ?_ ?_
    · unfold execOp
      simp only [hop, e11, e13, resolve, invoke, Sem.run_bind, Sem.run_pure, Result.andThen_ok, List.map_toArray, List.map_cons, List.map_nil]
      first | rfl | exact enters_of Try.func64 (by kernel_rfl) rfl _ _
    · exact (Any.cmp_Compare_int Try.cmpL x.v y.v w).mono fun e w' ⟨he, h2⟩ => ⟨_, he, by rw [q2], by rw [h2]; exact Grw.refl _⟩
    · rintro v w' ⟨h1, h2⟩
      exact hK v w' h1 h2
  | 10, _, hs, ho, hop, hds, hdep, hK =>
    have hop : o.op = .fieldAddr 41 (.tmp 2) 1 := Option.some.inj hop
    have hu2 : a.tmps[2]? = some (.pointer (some ⟨b1, 0, none⟩)) := (hbase.2.2 2 (by decide)).trans x2
    have e2 : a.eval (.tmp 2) = _ := ev_tmp hu2
    refine st3 ho hwt (v := .pointer (some ⟨b1, 1, none⟩)) (w' := w) ?_ (hK _ w rfl (Grw.refl _))
    unfold execOp
    simp only [hop, Option.map_some, Option.map_none, e2]
    first | rfl | (go_simp; done) | (go_simp; simp; done) | (go_simp; intro h; omega)
  | 11, _, hs, ho, hop, hds, hdep, hK =>
    have hop : o.op = .slice 39 (.tmp 15) none none none := Option.some.inj hop
    obtain ⟨u15, hu15, hv15⟩ := hdep 10 (by decide)
    have hv15' : u15 = .pointer (some ⟨b1, 1, none⟩) := hv15
    subst hv15'
    have e15 : a.eval (.tmp 15) = _ := ev_tmp hu15
    refine st3 ho hwt (v := .slice (some ⟨b1, 1, none⟩) 32 32) (w' := w) ?_ (hK _ w rfl (Grw.refl _))
    unfold execOp
    simp only [hop, e15, Option.map_none]
    first | rfl | (go_simp; done) | kernel_rfl
  | 12, _, hs, ho, hop, hds, hdep, hK =>
    have hop : o.op = .fieldAddr 41 (.tmp 3) 1 := Option.some.inj hop
    have hu3 : a.tmps[3]? = some (.pointer (some ⟨b2, 0, none⟩)) := (hbase.2.2 3 (by decide)).trans x3
    have e3 : a.eval (.tmp 3) = _ := ev_tmp hu3
    refine st3 ho hwt (v := .pointer (some ⟨b2, 1, none⟩)) (w' := w) ?_ (hK _ w rfl (Grw.refl _))
    unfold execOp
    simp only [hop, Option.map_some, Option.map_none, e3]
    first | rfl | (go_simp; done) | (go_simp; simp; done) | (go_simp; intro h; omega)
  | 13, _, hs, ho, hop, hds, hdep, hK =>
    have hop : o.op = .slice 39 (.tmp 17) none none none := Option.some.inj hop
    obtain ⟨u17, hu17, hv17⟩ := hdep 12 (by decide)
    have hv17' : u17 = .pointer (some ⟨b2, 1, none⟩) := hv17
    subst hv17'
    have e17 : a.eval (.tmp 17) = _ := ev_tmp hu17
    refine st3 ho hwt (v := .slice (some ⟨b2, 1, none⟩) 32 32) (w' := w) ?_ (hK _ w rfl (Grw.refl _))
    unfold execOp
    simp only [hop, e17, Option.map_none]
    first | rfl | (go_simp; done) | kernel_rfl
  | 14, _, hs, ho, hop, hds, hdep, hK =>
    have hop : o.op = .call { callee := .value (.func 65), args := #[.tmp 16, .tmp 18], argTypes := #[23, 23] } := Option.some.inj hop
    obtain ⟨u16, hu16, hv16⟩ := hdep 11 (by decide)
    have hv16' : u16 = .slice (some ⟨b1, 1, none⟩) 32 32 := hv16
    subst hv16'
    have e16 : a.eval (.tmp 16) = _ := ev_tmp hu16
    obtain ⟨u18, hu18, hv18⟩ := hdep 13 (by decide)
    have hv18' : u18 = .slice (some ⟨b2, 1, none⟩) 32 32 := hv18
    subst hv18'
    have e18 : a.eval (.tmp 18) = _ := ev_tmp hu18
    refine st3_call ho hwt (f := 65) (vals := #[.slice (some ⟨b1, 1, none⟩) 32 32, .slice (some ⟨b2, 1, none⟩) 32 32]) (Z := fun v w' => v = .int .i64 r3 ∧ Grw w w') ?_ ?_ ?_
    · unfold execOp
      simp only [hop, e16, e18, resolve, invoke, Sem.run_bind, Sem.run_pure, Result.andThen_ok, List.map_toArray, List.map_cons, List.map_nil]
      first | rfl | exact enters_of Try.func65 (by kernel_rfl) rfl _ _
    · exact (bcompare_any w b1 1 b2 1 x.d y.d 32 32 32 32 hx hy (fun j u hu => (hB.below hbl.below hB.lt).cell (hBd j u hu)) (fun j u hu => (hC.below hbl.below hC.lt).cell (hCd j u hu))).mono fun e w' ⟨he, h2⟩ => ⟨_, he, by rw [q3], by rw [h2]; exact Grw.refl _⟩
    · rintro v w' ⟨h1, h2⟩
      exact hK v w' h1 h2
  | 15, _, hs, ho, hop, hds, hdep, hK =>
    have hop : o.op = .buildSlice 51 3 #[(0, .tmp 9), (1, .tmp 14), (2, .tmp 19)] := Option.some.inj hop
    obtain ⟨u9, hu9, hv9⟩ := hdep 4 (by decide)
    have hv9' : u9 = .int .i64 r1 := hv9
    subst hv9'
    have e9 : a.eval (.tmp 9) = _ := ev_tmp hu9
    obtain ⟨u14, hu14, hv14⟩ := hdep 9 (by decide)
    have hv14' : u14 = .int .i64 r2 := hv14
    subst hv14'
    have e14 : a.eval (.tmp 14) = _ := ev_tmp hu14
    obtain ⟨u19, hu19, hv19⟩ := hdep 14 (by decide)
    have hv19' : u19 = .int .i64 r3 := hv19
    subst hv19'
    have e19 : a.eval (.tmp 19) = _ := ev_tmp hu19
    have hrun : (Instr.buildSlice 51 3 #[(0, .int .i64 r1), (1, .int .i64 r2), (2, .int .i64 r3)]).run Try.prog w = .ok (.slice (some ⟨w.heap.size, 0, none⟩) 3 3) (w.alloc (.cells (cis [r1, r2, r3]).toArray 3)) := by kernel_rfl
    refine st3 ho hwt (v := .slice (some ⟨w.heap.size, 0, none⟩) 3 3) (w' := w.alloc (.cells (cis [r1, r2, r3]).toArray 3)) ?_ (hK _ _ ⟨w.heap.size, rfl, Blk.new rfl rfl⟩ (Grw.alloc _ _))
    unfold execOp
    simp only [hop, List.map_toArray, List.map_cons, List.map_nil, e9, e14, e19, Sem.run_bind, hrun, Result.andThen_ok]
    rfl
  | 16, _, hs, ho, hop, hds, hdep, hK =>
    have hop : o.op = .call { callee := .value (.func 63), args := #[.tmp 20], argTypes := #[51] } := Option.some.inj hop
    obtain ⟨u20, hu20, hv20⟩ := hdep 15 (by decide)
    have hv20' : RowI w u20 [r1, r2, r3] := hv20
    have e20 : a.eval (.tmp 20) = _ := ev_tmp hu20
    obtain ⟨gr, rfl, hgr⟩ := hv20'
    refine st3_call ho hwt (f := 63) (vals := #[.slice (some ⟨gr, 0, none⟩) 3 3]) (Z := fun v w' => v = .int .i64 r ∧ Grw w w') ?_ ?_ ?_
    · unfold execOp
      simp only [hop, e20, resolve, invoke, Sem.run_bind, Sem.run_pure, Result.andThen_ok, List.map_toArray, List.map_cons, List.map_nil]
      first | rfl | exact enters_of Try.func63 (by kernel_rfl) rfl _ _
    · exact (or3_any w gr _ r1 r2 r3 hgr r hr).mono fun e w' ⟨he, h2⟩ => ⟨_, he, rfl, by rw [h2]; exact Grw.refl _⟩
    · rintro v w' ⟨h1, h2⟩
      exact hK v w' h1 h2
  | 17, _, hs, ho, hop, hds, hdep, hK =>
    have hop : o.op = .assign (.tmp 21) := Option.some.inj hop
    obtain ⟨u21, hu21, hv21⟩ := hdep 16 (by decide)
    have hv21' : u21 = .int .i64 r := hv21
    subst hv21'
    have e21 : a.eval (.tmp 21) = _ := ev_tmp hu21
    refine st3 ho hwt (v := _) (w' := w) ?_ (hK _ w rfl (Grw.refl _))
    unfold execOp
    rw [hop, ← e21]
    rfl
  | i + 18, hi, _, _, _, _, _, _ => exact absurd hi (by omega)

theorem sdC_parts {x : Sd} (h : x.d.length = 32) : (sdC x)[33]? = some (.int .i64 x.v) ∧ ∀ j u, (cbs x.d)[j]? = some u → (sdC x)[1 + j]? = some u := by
  refine ⟨?_, fun j u hu => ?_⟩
  · unfold sdC
    rw [show (33 : Nat) = 32 + 1 from rfl, List.getElem?_cons_succ, List.getElem?_append_right (by rw [cbs_length]; omega), cbs_length, h]
    rfl
  · unfold sdC
    have hj : j < (cbs x.d).length := by
      rcases Nat.lt_or_ge j (cbs x.d).length with h | h
      · exact h
      · rw [List.getElem?_eq_none h] at hu; cases hu
    rw [show 1 + j = j + 1 by omega, List.getElem?_cons_succ, List.getElem?_append_left hj]
    exact hu
set_option maxRecDepth 100000 in
set_option maxHeartbeats 1600000 in
theorem inOrder_any (x y : Sd) (hx : x.d.length = 32) (hy : y.d.length = 32) (w : World) : Calls Try.prog 55 #[.agg (sdC x).toArray, .agg (sdC y).toArray] w fun e w' => e = .returned (.int .i64 (cfS x y)) ∧ Grw w w' := by
  obtain ⟨p33, pd⟩ := sdC_parts hx
  obtain ⟨q33, qd⟩ := sdC_parts hy
  have hr : or3 (Lib.compareInt x.seq y.seq) (Lib.compareInt x.v y.v) (Lib.compareBytes x.d y.d) = cfS x y := rfl
  have hB1 : Blk (w.alloc (.cells (sdC x).toArray 41)) w.heap.size 41 (sdC x) := Blk.new rfl rfl
  have hB2 : Blk ((w.alloc (.cells (sdC x).toArray 41)).alloc (.cells (sdC y).toArray 41)) (w.heap.size + 1) 41 (sdC y) := Blk.new rfl (by simp)
  have hB1' : Blk ((w.alloc (.cells (sdC x).toArray 41)).alloc (.cells (sdC y).toArray 41)) w.heap.size 41 (sdC x) := hB1.old _
  have hbel : Grw w ((w.alloc (.cells (sdC x).toArray 41)).alloc (.cells (sdC y).toArray 41)) := (Grw.alloc _ _).trans (Grw.alloc _ _)
  have H := Lib.hid (And.intro hB1' (And.intro hB2 (And.intro hbel (And.intro p33 (And.intro pd (And.intro q33 (And.intro qd hr)))))))
  clear hB1 hB2 hB1' hbel p33 pd q33 qd hr
  generalize hCx : sdC x = Cx at *
  generalize hCy : sdC y = Cy at *
  go_enter Try.func55, Try.ntmps55
  go_wp2_with fail
  subst hCx hCy
  refine region_ruleG4 (P := Try.prog) 18 22 ioD ioG ioS (ioR w.heap.size (w.heap.size + 1) x y _ _ _ _) _ _ (by kernel_rfl) rfl rfl (by kernel_rfl) (by decide +kernel) (io_gb w.heap.size (w.heap.size + 1) x y _ _ _ _) (io_sk w.heap.size (w.heap.size + 1) x y _ _ _ _) (io_on w.heap.size (w.heap.size + 1) x y _ _ _ _) (io_step w.heap.size (w.heap.size + 1) x y _ _ _ _ (by rfl) (by kernel_rfl) rfl rfl H.out.1 H.out.2.1 hx hy H.out.2.2.2.1 H.out.2.2.2.2.2.1 H.out.2.2.2.2.1 H.out.2.2.2.2.2.2.1 rfl rfl rfl H.out.2.2.2.2.2.2.2) ?fin
  case fin =>
    intro a w6 hbase hbl hall
    obtain ⟨v4, hv4, hR4⟩ := hall 17 (by decide)
    have hR4' : v4 = .int .i64 (cfS x y) := hR4
    subst hR4'
    obtain ⟨g, hge, hg⟩ := base_lit hbase [5, 6, 7, 8, 9, 10, 11, 12, 13, 14, 15, 16, 17, 18, 19, 20, 21, 4] (by rfl)
    have q4 : g 4 = .int .i64 (cfS x y) := hge 4 _ hv4
    simp only [List.foldl_cons, List.foldl_nil, List.setIfInBounds_toArray, List.set_cons_zero, List.set_cons_succ, q4] at hg
    rw [hg]
    have hb := H.out.2.2.1.trans hbl
    clear hbl
    go_wp2
    go_ret
    exact ⟨rfl, hb⟩

theorem stand_agg (w : World) : (isAgg 41).run Try.prog w = .ok true w := by kernel_rfl
theorem stand_size (w : World) : (Go.sizeOf 41).run Try.prog w = .ok 34 w := by kernel_rfl
def sortT (l : List SdT) : List SdT := l.mergeSort fun x y => !(ltOf cfT) y x
theorem sortT_len (l : List SdT) : (sortT l).length = l.length := List.length_mergeSort _
set_option maxRecDepth 100000 in
/-- slices.SortFunc of a row of stands. -/
theorem sort_row {w : World} {A : Option Addr} {n cap : Nat} {l : List SdT} (h : RowK w 41 34 A n cap (sdCs l)) (hl : l.length = n) (hs : n ≤ 1000000) :
    Calls Try.prog 54 #[.slice A n cap, .func (.func 55) #[] #[]] w fun e w' => e = .returned (.tuple #[]) ∧ RowK w' 41 34 A n cap (sdCs (sortT l)) ∧ Out (blkOf A) w w' := by
  subst hl
  obtain ⟨h1, h2, h3, ⟨rfl, rfl⟩ | ⟨g, cur, rfl, hB, hcl, ht⟩⟩ := h
  · have h0 : l = [] := List.eq_nil_of_length_eq_zero (by omega)
    subst h0
    refine (AnyF.slices_SortFunc_none Try.sortS none 0 (.func (.func 55) #[] #[]) w).mono ?_
    rintro e w' ⟨he, rfl⟩
    exact ⟨he, ⟨by simp [sortT, sdCs], Nat.le_refl _, by simp [maxLen], .inl ⟨rfl, rfl⟩⟩, Out.refl _ _⟩
  · have eg : ∀ args w, (callFunc 55 args).run Try.prog w = .ok (.enter 55 args) w := enters_of Try.func55 (by kernel_rfl) rfl
    have hH : HoldsK sdT 34 w g 0 l.toArray := fun j hj => by
      have hjl : j < l.length * 34 := by simpa using hj
      refine ⟨?_, hB.free _⟩
      rw [Nat.zero_add]
      refine hB.cell ?_
      have e1 : cur[j]? = (sdCs l)[j]? := by rw [← ht, List.getElem?_take, if_pos hjl]
      rw [e1, ← flat_list, Array.getElem?_toList, Array.getElem?_eq_getElem hj, getElem!_pos _ j hj]
      rfl
    refine (AnyQ.slices_SortFunc_total Try.sortS 34 stand_agg stand_size sdT sdT_len sdT_one cfT swoT 55 #[] g 0 cap l.toArray w eg (fun m os dk _ x y => ?_) hH hB.lt (by simp; omega) totT).mono ?_
    · exact (inOrder_any x.1 y.1 x.2 y.2 _).mono fun e w' ⟨he, q, os', hw⟩ => ⟨he, q, os', hw⟩
    · rintro e w' ⟨he, q, os, hw⟩
      have hF : (flatK sdT 34 (sortT l).toArray).size = l.length * 34 := by rw [size_flatK]; simp [sortT_len]
      have hp := put_rowV (F := flatK sdT 34 (sortT l).toArray) hB (by rw [hF]; exact Nat.le_trans (Nat.mul_le_mul_right _ h2) hcl) q os
      change w' = grow (putRow id (Sort.ahead w q) g 0 (flatK sdT 34 (sortT l).toArray)) os at hw
      rw [← hw, hF, flat_list] at hp
      refine ⟨he, ⟨by rw [sdCs_len, sortT_len], h2, h3, .inr ⟨g, _, rfl, hp.1, ?_, ?_⟩⟩, ?_⟩
      · rw [List.length_append, sdCs_len, sortT_len, List.length_drop]
        have := Nat.mul_le_mul_right 34 h2
        omega
      · rw [List.take_append_of_le_length (by rw [sdCs_len, sortT_len]; omega), List.take_of_length_le (by rw [sdCs_len, sortT_len]; omega)]
      · refine ⟨hp.2.os, hp.2.tape, hp.2.output, hp.2.size, fun i hi hn => hp.2.block i hi fun e => hn ⟨_, rfl, e.symm⟩⟩
end Go.Proofs.Ytmdgcimjmmnbjaa

namespace Go.Proofs.Ytmdgcimjmmnbjaa
open Go.RowKit Go.Shelf Go.Sort Go.Maps
set_option linter.unusedVariables false
set_option linter.unusedSimpArgs false

theorem thirty2 : ∀ d : List UInt8, d.length = 32 → ∃ a0 a1 a2 a3 a4 a5 a6 a7 a8 a9 a10 a11 a12 a13 a14 a15 a16 a17 a18 a19 a20 a21 a22 a23 a24 a25 a26 a27 a28 a29 a30 a31, d = [a0, a1, a2, a3, a4, a5, a6, a7, a8, a9, a10, a11, a12, a13, a14, a15, a16, a17, a18, a19, a20, a21, a22, a23, a24, a25, a26, a27, a28, a29, a30, a31]
  | [a0, a1, a2, a3, a4, a5, a6, a7, a8, a9, a10, a11, a12, a13, a14, a15, a16, a17, a18, a19, a20, a21, a22, a23, a24, a25, a26, a27, a28, a29, a30, a31], _ => ⟨_, _, _, _, _, _, _, _, _, _, _, _, _, _, _, _, _, _, _, _, _, _, _, _, _, _, _, _, _, _, _, _, rfl⟩
theorem built_stand (seq v : Int) (d : List UInt8) (h : d.length = 32) : Try.prog.built 41 [(0, .int .i64 seq), (1, .agg (cbs d).toArray), (2, .int .i64 v)] = some (sdC ⟨seq, d, v⟩).toArray := by
  obtain ⟨a0, a1, a2, a3, a4, a5, a6, a7, a8, a9, a10, a11, a12, a13, a14, a15, a16, a17, a18, a19, a20, a21, a22, a23, a24, a25, a26, a27, a28, a29, a30, a31, rfl⟩ := thirty2 d h
  kernel_rfl
theorem built_say (v : Int) (d : List UInt8) (h : d.length = 32) : Try.prog.built 64 [(0, .bool true), (1, .int .i64 v), (2, .agg (cbs d).toArray)] = some (sy (some ⟨v, d⟩)).toArray := by
  obtain ⟨a0, a1, a2, a3, a4, a5, a6, a7, a8, a9, a10, a11, a12, a13, a14, a15, a16, a17, a18, a19, a20, a21, a22, a23, a24, a25, a26, a27, a28, a29, a30, a31, rfl⟩ := thirty2 d h
  kernel_rfl
theorem row_stand (x : SdT) (w : World) : (Instr.buildSlice 33 1 #[(0, .agg (sdT x).toArray)]).run Try.prog w = .ok (.slice (some ⟨w.heap.size, 0, none⟩) 1 1) (w.alloc (.cells (sdT x).toArray 41)) := by
  obtain ⟨⟨s, d, v⟩, h⟩ := x
  obtain ⟨a0, a1, a2, a3, a4, a5, a6, a7, a8, a9, a10, a11, a12, a13, a14, a15, a16, a17, a18, a19, a20, a21, a22, a23, a24, a25, a26, a27, a28, a29, a30, a31, rfl⟩ := thirty2 d h
  kernel_rfl
theorem stand_info : (Try.prog.info? 41).map (fun i => (i.zero, i.size, i.bytes)) = some (some (.agg (sdC ⟨0, zero32, 0⟩).toArray), 34, 48) := by kernel_rfl
theorem stand_info1 : (Try.prog.info? 41).map (·.size) = some 34 := by kernel_rfl
theorem row_g {P : Program} {ops : Array Oper} {rest : List Oper} {o : Oper} {a : Act} {w : World} {Q : Exit → Act → World → Prop} (hw : Region.wanted o (yielded ops a.tmps) = true) (t : TypeId) (n : Nat) (parts : Array (Nat × Operand)) (ho : o.op = .buildSlice t n parts)
    (v : Value) (w' : World) (hrun : (Instr.buildSlice t n (parts.map fun p => (p.1, a.eval p.2))).run P w = .ok v w') (h : wpList P ops Q rest (a.put o.dst v) w') : wpList P ops Q (o :: rest) a w :=
  wpList_step fun K hK => by
    rw [if_pos hw]
    have he' : (Instr.buildSlice t n (parts.map fun (i, x) => (i, a.eval x))).run P w = .ok v w' := hrun
    unfold Oper.wp execOp
    simp only [ho, Sem.run_bind, he', Result.andThen_ok]
    exact hK _ _ h
theorem app_g {P : Program} {ops : Array Oper} {rest : List Oper} {o : Oper} {a : Act} {w : World} {Q : Exit → Act → World → Prop} (hgd : o.guard = none) (s x : Operand) (t1 t2 : TypeId) (ho : o.op = .call { callee := .builtin .append, args := #[s, x], argTypes := #[t1, t2] })
    (v u v' : Value) (w' : World) (hs : a.eval s = v) (hx : a.eval x = u) (hrun : (Builtin.append_ #[t1, t2] o.type #[v, u]).run P w = .ok v' w') (h : wpList P ops Q rest (a.put o.dst v') w') : wpList P ops Q (o :: rest) a w := by
  refine wpList_plain hgd fun K hK => ?_
  unfold Oper.wp execOp
  simp only [ho, resolve, invoke, builtin, Sem.run_bind, Sem.run_pure, Result.andThen_ok, List.map_toArray, List.map_cons, List.map_nil, hs, hx, hrun]
  exact hK _ _ h

theorem sdCs_append (l m : List SdT) : sdCs (l ++ m) = sdCs l ++ sdCs m := by simp [sdCs]
theorem sdCs_single (x : SdT) : sdCs [x] = sdT x := by simp [sdCs]
/-- append of stands that another row shows. -/
theorem app_sds {w : World} {A A2 : Option Addr} {n cap m c : Nat} {l l2 : List SdT} (h : RowK w 41 34 A n cap (sdCs l)) (ad : Addr) (hA2 : A2 = some ad) (hl2 : l2.length = m) (h2 : ∀ j u, (sdCs l2)[j]? = some u → w.cell? (ad.add j) = some u) (hn : n + m ≤ 100000) (ty : TypeId) :
    ∃ A' cap' w', (Builtin.append_ #[33, 33] ty #[.slice A n cap, .slice A2 m c]).run Try.prog w = .ok (.slice A' (n + m) cap') w' ∧ RowK w' 41 34 A' (n + m) cap' (sdCs (l ++ l2)) ∧ Out (blkOf A) w w' ∧ (∀ b, blkOf A' b → blkOf A b ∨ b = w.heap.size) := by
  subst hA2
  obtain ⟨i0, hi, hz0, hz1, hz2⟩ := info_parts stand_info
  obtain ⟨A', cap', w', r1, r2, r3, r4, _⟩ := run_append_rowK 33 ty 41 i0 _ 34 48 Try.underlying33 hi hz0 hz1 hz2 rfl h ad m c (sdCs l2) (by rw [sdCs_len, hl2]) h2 (sdCs_one l2) (by unfold maxLen; omega) (by omega)
  exact ⟨A', cap', w', r1, by rw [sdCs_append]; exact r2, r3, r4⟩
/-- append of one stand that is written out. -/
theorem push_sd {wS : World} {A : Option Addr} {n cap : Nat} {l : List SdT} (h : RowK wS 41 34 A n cap (sdCs l)) (x : SdT) (hn : n ≤ 50000) (ty : TypeId) :
    ∃ w2 A' cap' w3, (Instr.buildSlice 33 1 #[(0, .agg (sdT x).toArray)]).run Try.prog wS = .ok (.slice (some ⟨wS.heap.size, 0, none⟩) 1 1) w2 ∧
      (Builtin.append_ #[33, 33] ty #[.slice A n cap, .slice (some ⟨wS.heap.size, 0, none⟩) 1 1]).run Try.prog w2 = .ok (.slice A' (n + 1) cap') w3 ∧
      RowK w3 41 34 A' (n + 1) cap' (sdCs (l ++ [x])) ∧ Out (blkOf A) wS w3 ∧ (∀ b, blkOf A' b → blkOf A b ∨ wS.heap.size ≤ b) := by
  have hb : Below wS.heap.size wS (wS.alloc (.cells (sdT x).toArray 41)) := (Below.refl _ _).alloc (Nat.le_refl _) _
  have hB : Blk (wS.alloc (.cells (sdT x).toArray 41)) wS.heap.size 41 (sdT x) := Blk.new rfl rfl
  have h2 := h.below hb h.lt
  obtain ⟨A', cap', w3, r1, r2, r3, r4⟩ := app_sds (m := 1) (c := 1) (l2 := [x]) h2 ⟨wS.heap.size, 0, none⟩ rfl rfl (fun j u hu => by rw [sdCs_single] at hu; rw [add_mk, Nat.zero_add]; exact hB.cell hu) (by omega) ty
  refine ⟨_, A', cap', w3, row_stand x wS, r1, r2, (Out.ofBelow _ hb).trans r3 fun i _ e => e, fun b hb' => ?_⟩
  rcases r4 b hb' with e | e
  · exact .inl e
  · exact .inr (by rw [e]; simp)

end Go.Proofs.Ytmdgcimjmmnbjaa

namespace Go.Proofs.Ytmdgcimjmmnbjaa
open Go.RowKit Go.Shelf Go.Sort Go.Maps
set_option linter.unusedVariables false
set_option linter.unusedSimpArgs false

/-! ### proposals -/
def mkT (seq : Int) (p : List UInt8 × Int) : SdT := ⟨⟨seq, if p.1.length = 32 then p.1 else zero32, p.2⟩, by simp only; split; assumption; rfl⟩
theorem mkT_ok {seq : Int} {d : List UInt8} {v : Int} (h : d.length = 32) : (mkT seq (d, v)).1 = ⟨seq, d, v⟩ := by
  unfold mkT
  simp only [h, if_true]
/-- The stands of a number's proposals. -/
def qT (seq : Int) (q : List Vt) : List SdT := (qL q).map (mkT seq)
theorem qT_rise {seq : Int} {q : List Vt} (h : QOk q) : (qT seq q).Pairwise fun a b => ltOf cfT a b = true := by
  unfold qT qL
  rw [List.map_map, List.pairwise_map]
  refine h.sorted.imp_of_mem fun {a b} ha hb hlt => ?_
  rw [ltT_iff]
  have e1 := mkT_ok (seq := seq) (v := a.v) (h.ok a ha).2.2
  have e2 := mkT_ok (seq := seq) (v := b.v) (h.ok b hb).2.2
  simp only [Function.comp_apply, e1, e2]
  exact .inr ⟨trivial, hlt⟩

set_option maxRecDepth 100000 in
set_option maxHeartbeats 1600000 in
theorem proposals_any {w : World} {sb qb : Nat} {cs : List Value} {q : List Vt} (hS : Blk w sb 68 cs) (h68 : cs[68]? = some (.map (some qb))) (hq : MapT digK vI w qb (qL q)) (hok : QOk q) (seq : Int) :
    Calls Try.prog 37 #[.pointer (some ⟨sb, 0, none⟩), .int .i64 seq] w fun e w' => ∃ A cap, e = .returned (.slice A q.length cap) ∧ RowK w' 41 34 A q.length cap (sdCs (qT seq q)) ∧ Below w.heap.size w w' ∧ ∀ b, blkOf A b → w.heap.size ≤ b := by
  have c68 := hS.cell h68
  have hrise := qT_rise (seq := seq) hok
  have hd32 : ∀ p ∈ qL q, p.1.length = 32 := fun p hp => by
    obtain ⟨x, hx, rfl⟩ := List.mem_map.1 hp
    exact (hok.ok x hx).2.2
  have hlen : (qL q).length = q.length := by simp [qL]
  have hl4 := hok.len
  have H := Lib.hid (And.intro hq (And.intro hd32 (And.intro hrise hlen)))
  have Hq : Hid (qT seq q = (qL q).map (mkT seq)) := Lib.hid rfl
  clear hq hd32 hrise hlen hok hS h68
  generalize qT seq q = QT at *
  generalize qL q = L at *
  generalize q.length = n at *
  go_enter Try.func37, Try.ntmps37
  go_wp2_with (first
    | (at_range; refine wpList_range_T _ rfl _ 65 _ rfl Try.underlying65 rfl H.out.1 ?_; intro w0 hrg0 hb1 hs0)
    | go_in)
  go_frame
  have HL := Lib.hid (And.intro hrg0 hb1)
  clear hrg0 hb1 hs0 c68
  go_loopw [5] (fun v5 wr => ∃ (todo : List (List UInt8 × Int)) (l : List SdT) (A : Option Addr) (cap : Nat), v5 = .slice A l.length cap ∧ RangeT digK vI wr qb w.heap.size L todo ∧ RowK wr 41 34 A l.length cap (sdCs l) ∧ (l ++ todo.map (mkT seq)).Perm (L.map (mkT seq)) ∧ Below w.heap.size w wr ∧ ∀ b, blkOf A b → w.heap.size < b)
    (fun _ wr => wr.rangeLeft qb w.heap.size)
  case atStart => exact ⟨L, [], none, 0, rfl, HL.out.1, RowK.nil _ _ _, List.Perm.refl _, HL.out.2, fun b ⟨a, ha, _⟩ => by cases ha⟩
  case round =>
    obtain ⟨todo, l, A, cap, rfl, hrg, hrow, hperm, hbel, hA⟩ := hrel
    clear HL
    go_wp2_with (first
      | (at_next; refine wpList_next_T _ rfl _ rfl (fun d => .agg (cbs d).toArray) (fun v => .int .i64 v) (fun _ => rfl) (fun _ => rfl) rfl hrg ?_ ?_)
      | go_in)
    · intro h0
      subst h0
      rw [List.map_nil, List.append_nil] at hperm
      have hll : l.length = n := by rw [hperm.length_eq, List.length_map, H.out.2.2.2]
      have HS := Lib.hid (sort_row hrow rfl (by omega))
      have HF := Lib.hid (And.intro hperm (And.intro hbel (And.intro hA hll)))
      clear hrow hperm hbel hA hrg hll
      go_wp2_with (go_at_call 54; refine HS.out.mono ?_; rintro e w3 ⟨rfl, hrow3, hout3⟩)
      go_ret
      obtain ⟨hperm, hbel, hA, hll⟩ := HF.out
      have hsort : sortT l = QT := sort_is (by rw [Hq.out]; exact hperm) H.out.2.2.1
      rw [hsort, hll] at hrow3
      refine ⟨A, cap, by rw [← hll]; rfl, hrow3, hbel.trans (hout3.above (fun i hi => by have := hA i hi; omega) hbel.size), fun b hb => by have := hA b hb; omega⟩
    · intro d v more w1 hp hm hok hrg1 hlt hout hsz hen
      have hd : d.length = 32 := H.out.2.1 _ hm
      have hAr : ∀ b, blkOf A b → ¬ (b = w.heap.size) := fun b hb e => by have := hA b hb; omega
      have hrow1 := hrow.out hout hAr
      have hbel1 : Below w.heap.size w w1 := hbel.trans (hout.above (fun i hi => by omega) hbel.size)
      obtain ⟨wS, hwS, ⟨hth, hi⟩, hbS, hbe, hsS⟩ := row_local w1 39 (cbs zero32) (cbs d) (by rw [cbs_length, cbs_length, hd]; rfl) (by rw [cbs_length]; exact dig_info)
      have hrowS := hrow1.below hbe hrow1.lt
      have hln : l.length ≤ 50000 := by
        have := hperm.length_eq
        rw [List.length_append, List.length_map, List.length_map, H.out.2.2.2] at this
        omega
      obtain ⟨w2, A', cap', w3, hr1, hr2, hrow3, hout3, hA'⟩ := push_sd hrowS (mkT seq (d, v)) hln 33
      have hcells : sdT (mkT seq (d, v)) = sdC ⟨seq, d, v⟩ := by unfold sdT; rw [mkT_ok hd]
      rw [hcells] at hr1
      have hw1 := hbel1.size
      have hqlt := hrg1.owns.lt
      have hrlt := hrg1.lt
      have hqm : ¬ blkOf A qb := fun e => by have h1 := hA qb e; have := H.out.1.lt; omega
      have hO3 : Out (fun b => w1.heap.size ≤ b ∨ blkOf A b) w1 w3 := (Out.ofBelow _ hbe).trans hout3 fun i _ e => .inr e
      have hrg3 : RangeT digK vI w3 qb w.heap.size L more := hrg1.out hO3 (fun e => e.elim (by omega) hqm) (fun e => e.elim (by omega) fun e => by have := hA _ e; omega)
      have hleft3 : w3.rangeLeft qb w.heap.size = w1.rangeLeft qb w.heap.size := hrg1.left_out hO3 (fun e => e.elim (by omega) hqm) (fun e => e.elim (by omega) fun e => by have := hA _ e; omega)
      have hbel3 : Below w.heap.size w w3 := hbel1.trans (hO3.above (fun i hi => hi.elim (by omega) fun e => by have := hA i e; omega) hbel1.size)
      have hA3 : ∀ b, blkOf A' b → w.heap.size < b := fun b hb => by
        rcases hA' b hb with e | e
        · exact hA b e
        · have h4 := hbe.size; have h5 := hrg1.lt; omega
      have hperm3 : ((l ++ [mkT seq (d, v)]) ++ more.map (mkT seq)).Perm (L.map (mkT seq)) := by
        refine List.Perm.trans ?_ hperm
        rw [List.append_assoc]
        refine List.Perm.append_left l ?_
        exact ((hp.map (mkT seq)).symm)
      have hbuilt := built_stand seq v d hd
      have hone : (cbs d).toArray.all (·.oneCell') = true := by
        rw [Array.all_eq_true_iff_forall_mem]
        intro u hu
        simp only [List.mem_toArray, cbs, List.mem_map] at hu
        obtain ⟨y, _, rfl⟩ := hu
        rfl
      have hid : (Try.prog.info? 39).map (·.size) = some (cbs d).length := by rw [cbs_length, hd]; exact dig_info
      have Hs := Lib.hid (And.intro hth (And.intro hi (And.intro hone (And.intro hbS.range (And.intro hid (And.intro hbuilt (And.intro hr1 hr2)))))))
      have HwS := Lib.hid hwS
      have HE := Lib.hid (And.intro hrow3 (And.intro hrg3 (And.intro hleft3 (And.intro hbel3 (And.intro hA3 (And.intro hperm3 hlt))))))
      clear hd hAr hrow1 hbel1 hwS hth hi hbS hbe hsS hrowS hln hr1 hr2 hrow3 hout3 hA' hcells hw1 hqlt hrlt hqm hO3 hrg3 hleft3 hbel3 hA3 hperm3 hbuilt hone hid hp hm hok hrg1 hlt hout hsz hrow hperm hbel hA hrg
      generalize hCd : cbs d = D at *
      generalize hC : sdC ⟨seq, d, v⟩ = C at *
      go_wp2_with (first
        | (refine wpList_store_mid rfl 39 _ _ rfl w1.heap.size 0 D.toArray rfl rfl Hs.out.1 Hs.out.2.1 Hs.out.2.2.1 ?_; simp only [Act.put]; refine cast (congrArg (fun z => wpList _ _ _ _ _ z) HwS.out.symm) ?_)
        | (refine wpList_load_mid rfl 39 _ rfl w1.heap.size 0 rfl D _ Hs.out.2.2.2.1 Try.underlying39 rfl Hs.out.2.2.2.2.1 ?_; simp only [Act.put])
        | (refine wpList_build_g rfl 41 _ rfl C.toArray Hs.out.2.2.2.2.2.1 ?_; simp only [Act.put])
        | (refine row_g rfl 33 1 _ rfl (.slice (some ⟨wS.heap.size, 0, none⟩) 1 1) w2 (by simp only [List.map_toArray, List.map_cons, List.map_nil]; exact Hs.out.2.2.2.2.2.2.1) ?_; simp only [Act.put])
        | (refine app_g rfl _ _ _ _ rfl _ _ _ w3 rfl rfl Hs.out.2.2.2.2.2.2.2 ?_; simp only [Act.put]))
      go_roundw
      case rel => exact ⟨more, l ++ [mkT seq (d, v)], A', cap', by rw [List.length_append]; rfl, HE.out.2.1, by rw [List.length_append]; exact HE.out.1, HE.out.2.2.2.2.2.1, HE.out.2.2.2.1, HE.out.2.2.2.2.1⟩
      case measure => rw [HE.out.2.2.1]; exact HE.out.2.2.2.2.2.2
end Go.Proofs.Ytmdgcimjmmnbjaa
