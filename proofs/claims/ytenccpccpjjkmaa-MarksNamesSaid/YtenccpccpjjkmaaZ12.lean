/-
  Laid together for a hand-in: Aq15, Bring, Fo15, Ar15.
-/
import Derived.Test.YtenccpccpjjkmaaZ11
import Derived.Test.YtenccpccpjjkmaaZ04
import Derived.Test.YtenccpccpjjkmaaZ01
import Derived.Test.YtenccpccpjjkmaaRows
import Derived.Deep.Slices
import Derived.Deep.Grids

namespace Go.Proofs.Ytenccpccpjjkmaa
open Go.RowKit Go.Shelf Go.Sort Go.Maps CrewP
set_option linter.unusedVariables false
set_option linter.unusedSimpArgs false

def zM : List Value := mkC mk0
section
variable {w0 w w' : World} {g : Nat} {m : Ms} {V : List (Nat × Mk)}
/-- A variable, its cells by name. -/
theorem Aw.var' (h : Aw w0 w g m V) (x : Mk) {X : List Value} (hX : mkC x = X) : ∃ wS, (w.alloc (.cells (mkC mk0).toArray 28)).setCells w.heap.size 0 X = wS ∧
    ((w.alloc (.cells (mkC mk0).toArray 28)).there w.heap.size 0 X.toArray.size ∧ (Try.prog.info? 28).map (·.size) = some X.toArray.size ∧ X.toArray.all (·.oneCell') = true) ∧ Aw w0 wS g m ((w.heap.size, x) :: V) ∧ Below w.heap.size w wS := by
  subst hX
  obtain ⟨wS, h1, h2, h3⟩ := h.var x
  exact ⟨wS, h1, h2, h3, by rw [← h1]; exact Below.setCells (Nat.le_refl _) _ ((Below.refl _ _).alloc (Nat.le_refl _) _)⟩
theorem Aw.stableB (h : Aw w0 w g m V) {G : Option Mk} (hG : greatS m (2 * m.f + 1) = G) :
    Calls Try.prog 20 #[.pointer (some ⟨g, 0, none⟩)] w fun e w' => e = .returned (.tuple #[.agg (mkC (G.getD mk0)).toArray, .bool G.isSome]) ∧ Below w.heap.size w w' := by
  obtain ⟨U, ⟨_, _, _, _, _, h1⟩, h2, h3, h4⟩ := h
  subst hG
  exact stable_in h1
/-- Two variables at once. -/
theorem Aw.var2 (h : Aw w0 w g m V) (x y : Mk) {X Y : List Value} (hX : mkC x = X) (hY : mkC y = Y) : ∃ wS wT, ((w.alloc (.cells (mkC mk0).toArray 28)).alloc (.cells (mkC mk0).toArray 28)).setCells w.heap.size 0 X = wS ∧ wS.setCells (w.heap.size + 1) 0 Y = wT ∧
    (((w.alloc (.cells (mkC mk0).toArray 28)).alloc (.cells (mkC mk0).toArray 28)).there w.heap.size 0 X.toArray.size ∧ (Try.prog.info? 28).map (·.size) = some X.toArray.size ∧ X.toArray.all (·.oneCell') = true) ∧
    (wS.there (w.heap.size + 1) 0 Y.toArray.size ∧ (Try.prog.info? 28).map (·.size) = some Y.toArray.size ∧ Y.toArray.all (·.oneCell') = true) ∧ Aw w0 wT g m ((w.heap.size, x) :: (w.heap.size + 1, y) :: V) := by
  subst hX hY
  have hz : ∀ z : Mk, (mkC z).toArray.size = (mkC mk0).length := fun z => by rw [List.size_toArray, mkC_len, mkC_len]
  have hin : ∀ z : Mk, (Try.prog.info? 28).map (·.size) = some (mkC z).toArray.size := fun z => by rw [hz, mkC_len]; exact mark_info1
  have B1 : Blk ((w.alloc (.cells (mkC mk0).toArray 28)).alloc (.cells (mkC mk0).toArray 28)) w.heap.size 28 (mkC mk0) := Blk.old (Blk.new rfl rfl) _
  have B2 : Blk ((w.alloc (.cells (mkC mk0).toArray 28)).alloc (.cells (mkC mk0).toArray 28)) (w.heap.size + 1) 28 (mkC mk0) := Blk.new rfl (by simp)
  have S1 := B1.setAll (vs := mkC x) (by rw [mkC_len, mkC_len])
  have O1 : Out (fun b => b = w.heap.size) ((w.alloc (.cells (mkC mk0).toArray 28)).alloc (.cells (mkC mk0).toArray 28)) _ := Out.setCells (S := fun b => b = w.heap.size) (g := w.heap.size) (o := 0) (mkC x) (fun _ => rfl) (Out.refl _ _)
  have T1 := O1.blk B2 (by omega)
  have T2 := T1.setAll (vs := mkC y) (by rw [mkC_len, mkC_len])
  have O2 : Out (fun b => b = w.heap.size + 1) (((w.alloc (.cells (mkC mk0).toArray 28)).alloc (.cells (mkC mk0).toArray 28)).setCells w.heap.size 0 (mkC x)) _ := Out.setCells (S := fun b => b = w.heap.size + 1) (g := w.heap.size + 1) (o := 0) (mkC y) (fun _ => rfl) (Out.refl _ _)
  have S2 := O2.blk S1 (by omega)
  have hbe : Below w.heap.size w ((((w.alloc (.cells (mkC mk0).toArray 28)).alloc (.cells (mkC mk0).toArray 28)).setCells w.heap.size 0 (mkC x)).setCells (w.heap.size + 1) 0 (mkC y)) := Below.setCells (by omega) _ (Below.setCells (by omega) _ (((Below.refl _ _).alloc (Nat.le_refl _) _).alloc (by simp) _))
  obtain ⟨U, h1, h2, h3, h4⟩ := h
  have hsz := h3.size
  refine ⟨_, _, rfl, rfl, ⟨by rw [hz]; exact B1.there, hin x, mkC_oneA x⟩, ⟨by rw [hz]; exact T1.there, hin y, mkC_oneA y⟩, U, h1.below hbe, h2, h3.trans (hbe.mono h3.size), fun p hp => ?_⟩
  rcases List.mem_cons.1 hp with rfl | hp
  · exact ⟨S2, fun hi => by have := h1.lt _ hi; simp at this, hsz⟩
  · rcases List.mem_cons.1 hp with rfl | hp
    · exact ⟨T2, fun hi => by have := h1.lt _ hi; simp at this; omega, by simp; omega⟩
    · exact ⟨(h4 p hp).1.below hbe (h4 p hp).1.lt, (h4 p hp).2⟩
end
/-- A row of one mark. -/
def OneV (w : World) (x : Mk) (v : Value) : Prop := ∃ b, v = .slice (some ⟨b, 0, none⟩) 1 1 ∧ ShM w (some ⟨b, 0, none⟩) [x]
theorem OneV.below {w w' : World} {x : Mk} {v : Value} (h : OneV w x v) (hb : Below w.heap.size w w') : OneV w' x v := let ⟨b, h1, h2⟩ := h; ⟨b, h1, h2.below hb⟩
theorem one_new (x : Mk) (w : World) : ShM (w.alloc (.cells (mkC x).toArray 28)) (some ⟨w.heap.size, 0, none⟩) [x] := fun _ => by
  have hB : Blk (w.alloc (.cells (mkC x).toArray 28)) w.heap.size 28 (mkC x) := Blk.new rfl rfl
  refine ⟨_, 0, rfl, by simp, fun j u hu => ?_⟩
  have e : mks [x] = mkC x := by simp [mks]
  rw [e] at hu
  rw [Nat.zero_add]
  exact hB.cell hu

def aqR (bz bc ba g : Nat) (x : Mk) (C D : List Value) (A : Option Addr) (cO : Nat) : Nat → Value → World → Prop
  | 0 => fun v w => v = .agg C.toArray
  | 1 => fun v w => v = .bool true
  | 2 => fun v w => v = .agg C.toArray
  | 3 => fun v w => v = .bool true
  | 4 => fun v w => v = .bool true
  | 5 => fun v w => v = .int .i64 0
  | 6 => fun v w => v = .bool true
  | 7 => fun v w => v = .bool true
  | 8 => fun v w => v = .bool true
  | 9 => fun v w => v = .slice A 1 cO
  | 10 => fun v w => v = .agg C.toArray
  | 11 => fun v w => OneV w x v
  | 12 => fun v w => v = .bool true
  | 13 => fun v w => v = .bool true
  | 14 => fun v w => v = .bool true
  | 15 => fun v w => v = .bool false
  | 16 => fun v w => v = .bool true
  | 17 => fun v w => v = .bool true
  | 18 => fun v w => v = .bool true
  | 19 => fun v w => v = .pointer (some ⟨g, 0, none⟩)
  | 20 => fun v w => v = .agg D.toArray
  | 21 => fun v w => v = .agg D.toArray
  | 22 => fun v w => v = .bool true
  | 23 => fun v w => v = .bool true
  | 24 => fun v w => v = .bool true
  | _ => fun _ _ => True
def aqD (i : Nat) : Nat := ([110, 111, 112, 113, 114, 115, 116, 117, 118, 119, 120, 121, 122, 123, 124, 125, 126, 127, 128, 129, 130, 131, 132, 133, 0] : List Nat).getD i 0
def aqG : Nat → Option Bool
  | 4 => some true
  | 8 => some true
  | 14 => some true
  | 18 => some true
  | _ => none
def aqS (i : Nat) : Bool := ([] : List Nat).contains i
theorem aq_gb (bz bc ba g : Nat) (x : Mk) (C D : List Value) (A : Option Addr) (cO : Nat) : ∀ i b v w, aqG i = some b → aqR bz bc ba g x C D A cO i v w → v = .bool b := by
  intro i b v w h hR
  unfold aqG at h
  split at h
  all_goals first | (injection h with h; subst h; exact hR) | cases h
theorem aq_sk (bz bc ba g : Nat) (x : Mk) (C D : List Value) (A : Option Addr) (cO : Nat) : ∀ i w, aqS i = true → aqR bz bc ba g x C D A cO i undef w := by
  intro i w h
  simp [aqS] at h
theorem aq_on (bz bc ba g : Nat) (x : Mk) (C D : List Value) (A : Option Addr) (cO : Nat) : ∀ i v w w', aqR bz bc ba g x C D A cO i v w → Below w.heap.size w w' → aqR bz bc ba g x C D A cO i v w'
  | 0, v, w, w', h, _ => h
  | 1, v, w, w', h, _ => h
  | 2, v, w, w', h, _ => h
  | 3, v, w, w', h, _ => h
  | 4, v, w, w', h, _ => h
  | 5, v, w, w', h, _ => h
  | 6, v, w, w', h, _ => h
  | 7, v, w, w', h, _ => h
  | 8, v, w, w', h, _ => h
  | 9, v, w, w', h, _ => h
  | 10, v, w, w', h, _ => h
  | 11, v, w, w', h, hb => OneV.below h hb
  | 12, v, w, w', h, _ => h
  | 13, v, w, w', h, _ => h
  | 14, v, w, w', h, _ => h
  | 15, v, w, w', h, _ => h
  | 16, v, w, w', h, _ => h
  | 17, v, w, w', h, _ => h
  | 18, v, w, w', h, _ => h
  | 19, v, w, w', h, _ => h
  | 20, v, w, w', h, _ => h
  | 21, v, w, w', h, _ => h
  | 22, v, w, w', h, _ => h
  | 23, v, w, w', h, _ => h
  | 24, v, w, w', h, _ => h
  | i + 25, v, w, w', h, hb => trivial
def aqOps : List Op := [.load 28 (.tmp 15),
  .move (.tmp 16),
  .load 28 (.tmp 3),
  .call { callee := .value (.func 25), args := #[.tmp 110, .tmp 111, .tmp 112], argTypes := #[28, 4, 28] },
  .move (.tmp 113),
  .move (.tmp 17),
  .binOp .eql 31 (.tmp 115) (.const (.int .i64 0)) 31,
  .pick (.tmp 114) (.tmp 116) (.const (.bool false)),
  .move (.tmp 117),
  .move (.tmp 18),
  .load 28 (.tmp 3),
  .buildSlice 54 1 #[(0, .tmp 120)],
  .call { callee := .value (.func 24), args := #[.tmp 119, .tmp 121], argTypes := #[54, 54] },
  .pick (.tmp 118) (.tmp 122) (.const (.bool false)),
  .move (.tmp 123),
  .move (.tmp 20),
  .unOp .not 4 (.tmp 125),
  .pick (.tmp 124) (.tmp 126) (.const (.bool false)),
  .move (.tmp 127),
  .move (.tmp 1),
  .call { callee := .value (.func 23), args := #[.tmp 129], argTypes := #[30] },
  .load 28 (.tmp 2),
  .binOp .eql 28 (.tmp 130) (.tmp 131) 28,
  .pick (.tmp 128) (.tmp 132) (.const (.bool false)),
  .assign (.tmp 133)]
def aqNeeds : Nat → List Nat
  | 0 => []
  | 1 => []
  | 2 => []
  | 3 => [0, 1, 2]
  | 4 => [3]
  | 5 => []
  | 6 => [5]
  | 7 => [4, 6]
  | 8 => [7]
  | 9 => []
  | 10 => []
  | 11 => [10]
  | 12 => [9, 11]
  | 13 => [8, 12]
  | 14 => [13]
  | 15 => []
  | 16 => [15]
  | 17 => [14, 16]
  | 18 => [17]
  | 19 => []
  | 20 => [19]
  | 21 => []
  | 22 => [20, 21]
  | 23 => [18, 22]
  | 24 => [23]
  | _ => []
set_option maxRecDepth 100000 in
set_option maxHeartbeats 3200000 in
theorem aq_step {ops : Array Oper} {Q : Exit → Act → World → Prop} {a0 : Act} {w0 : World} (bz bc ba g : Nat) (x : Mk) (C D : List Value) (A : Option Addr) (cO : Nat) (hops : ((List.range 25).map fun i => (ops[i]?).map Oper.op) = aqOps.map some)
    (hnd : ((List.range 25).all fun i => (aqNeeds i).all fun j => ((ops[i]?).map fun o => o.after.any fun e => Region.binds .any e && (e.on == j)).getD false) = true)
    (x1 : a0.tmps[1]? = some (.pointer (some ⟨g, 0, none⟩))) (x2 : a0.tmps[2]? = some (.pointer (some ⟨ba, 0, none⟩))) (x3 : a0.tmps[3]? = some (.pointer (some ⟨bc, 0, none⟩))) (x15 : a0.tmps[15]? = some (.pointer (some ⟨bz, 0, none⟩))) (x16 : a0.tmps[16]? = some (.bool true)) (x17 : a0.tmps[17]? = some (.int .i64 0)) (x18 : a0.tmps[18]? = some (.slice A 1 cO)) (x20 : a0.tmps[20]? = some (.bool false))
    (lz : ∀ w, Below w0.heap.size w0 w → w.rangeAt bz 0 C) (lc : ∀ w, Below w0.heap.size w0 w → w.rangeAt bc 0 C) (la : ∀ w, Below w0.heap.size w0 w → w.rangeAt ba 0 D)
    (iC : (Try.prog.info? 28).map (·.size) = some C.length) (iD : (Try.prog.info? 28).map (·.size) = some D.length)
    (hIs : ∀ w, Calls Try.prog 25 #[.agg C.toArray, .bool true, .agg C.toArray] w fun e w' => e = .returned (.bool true) ∧ Below w.heap.size w w')
    (hnew : ∀ w : World, ShM (w.alloc (.cells C.toArray 28)) (some ⟨w.heap.size, 0, none⟩) [x])
    (hrow : ∀ w : World, (Instr.buildSlice 54 1 #[(0, .agg C.toArray)]).run Try.prog w = .ok (.slice (some ⟨w.heap.size, 0, none⟩) 1 1) (w.alloc (.cells C.toArray 28)))
    (hSm : ∀ w b1, Below w0.heap.size w0 w → ShM w (some ⟨b1, 0, none⟩) [x] → Calls Try.prog 24 #[.slice A 1 cO, .slice (some ⟨b1, 0, none⟩) 1 1] w fun e w' => e = .returned (.bool true) ∧ Below w.heap.size w w')
    (hLo : ∀ w, Below w0.heap.size w0 w → Calls Try.prog 23 #[.pointer (some ⟨g, 0, none⟩)] w fun e w' => e = .returned (.agg D.toArray) ∧ Below w.heap.size w w')
    (heq : ∀ w, (Op.equalIn 10000 28 (.agg D.toArray) (.agg D.toArray)).run Try.prog w = .ok true w) :
    ∀ i o, i < 25 → aqS i = false → ops[i]? = some o → o.dst = some (aqD i) → ∀ a w, Base aqD 25 a0 a → Below w0.heap.size w0 w → Region.wanted o (yielded ops a.tmps) = true →
      (∀ j, (o.after.any fun e => Region.binds .any e && (e.on == j)) = true → Has aqD (aqR bz bc ba g x C D A cO) j a w) →
      ∀ K : Act → World → Prop, (∀ v w', aqR bz bc ba g x C D A cO i v w' → Below w.heap.size w w' → K (a.put o.dst v) w') → wpOp Try.prog ops Q i K a w := by
  intro i o hi hs ho hds a w hbase hbl hwt hdep0 K hK
  have hop : some o.op = aqOps[i]? := by
    have h1 : ((List.range 25).map fun i => (ops[i]?).map Oper.op)[i]? = some (some o.op) := by
      rw [List.getElem?_map, List.getElem?_range hi]; simp only [Option.map_some, ho]
    rw [hops, List.getElem?_map] at h1
    cases h2 : aqOps[i]? with
    | none => rw [h2] at h1; cases h1
    | some y => rw [h2] at h1; simp only [Option.map_some, Option.some.injEq] at h1; rw [h1]
  have hdep : ∀ j, j ∈ aqNeeds i → Has aqD (aqR bz bc ba g x C D A cO) j a w := fun j hj => by
    have h1 := List.all_eq_true.1 (List.all_eq_true.1 hnd i (List.mem_range.2 hi)) j hj
    rw [ho] at h1
    exact hdep0 j h1
  clear hdep0 hops hnd
  match i, hi, hs, ho, hop, hds, hdep, hK with
  | 0, _, hs, ho, hop, hds, hdep, hK =>
    have hop : o.op = .load 28 (.tmp 15) := Option.some.inj hop
    have hu15 : a.tmps[15]? = some (.pointer (some ⟨bz, 0, none⟩)) := (hbase.2.2 15 (by decide)).trans x15
    have e15 : a.eval (.tmp 15) = _ := ev_tmp hu15
    refine st3 ho hwt (v := .agg C.toArray) (w' := w) ?_ (hK _ w rfl (Below.refl _ _))
    unfold execOp
    simp only [hop, e15, Instr.loadAt, Instr.sureAddr, Sem.run_bind, Sem.run_pure, Result.andThen_ok, run_loadVar_mid w bz 0 28 C _ (lz w hbl) Try.underlying28 rfl iC]
  | 1, _, hs, ho, hop, hds, hdep, hK =>
    have hop : o.op = .move (.tmp 16) := Option.some.inj hop
    have hu16 : a.tmps[16]? = some (.bool true) := (hbase.2.2 16 (by decide)).trans x16
    have e16 : a.eval (.tmp 16) = _ := ev_tmp hu16
    refine st3 ho hwt (v := _) (w' := w) ?_ (hK _ w rfl (Below.refl _ _))
    unfold execOp
    rw [hop, ← e16]
    rfl
  | 2, _, hs, ho, hop, hds, hdep, hK =>
    have hop : o.op = .load 28 (.tmp 3) := Option.some.inj hop
    have hu3 : a.tmps[3]? = some (.pointer (some ⟨bc, 0, none⟩)) := (hbase.2.2 3 (by decide)).trans x3
    have e3 : a.eval (.tmp 3) = _ := ev_tmp hu3
    refine st3 ho hwt (v := .agg C.toArray) (w' := w) ?_ (hK _ w rfl (Below.refl _ _))
    unfold execOp
    simp only [hop, e3, Instr.loadAt, Instr.sureAddr, Sem.run_bind, Sem.run_pure, Result.andThen_ok, run_loadVar_mid w bc 0 28 C _ (lc w hbl) Try.underlying28 rfl iC]
  | 3, _, hs, ho, hop, hds, hdep, hK =>
    have hop : o.op = .call { callee := .value (.func 25), args := #[.tmp 110, .tmp 111, .tmp 112], argTypes := #[28, 4, 28] } := Option.some.inj hop
    obtain ⟨u110, hu110, hv110⟩ := hdep 0 (by decide)
    have hv110' : u110 = .agg C.toArray := hv110
    subst hv110'
    have e110 : a.eval (.tmp 110) = _ := ev_tmp hu110
    obtain ⟨u111, hu111, hv111⟩ := hdep 1 (by decide)
    have hv111' : u111 = .bool true := hv111
    subst hv111'
    have e111 : a.eval (.tmp 111) = _ := ev_tmp hu111
    obtain ⟨u112, hu112, hv112⟩ := hdep 2 (by decide)
    have hv112' : u112 = .agg C.toArray := hv112
    subst hv112'
    have e112 : a.eval (.tmp 112) = _ := ev_tmp hu112
    refine st3_call ho hwt (f := 25) (vals := #[.agg C.toArray, .bool true, .agg C.toArray]) (Z := fun v w' => v = .bool true ∧ Below w.heap.size w w') ?_ ?_ ?_
    · unfold execOp
      simp only [hop, e110, e111, e112, resolve, invoke, Sem.run_bind, Sem.run_pure, Result.andThen_ok, List.map_toArray, List.map_cons, List.map_nil]
      first | rfl | exact enters_of Try.func25 (by kernel_rfl) rfl _ _
    · exact (hIs w).mono fun e w' ⟨he, h2⟩ => ⟨_, he, rfl, h2⟩
    · rintro v w' ⟨h1, h2⟩
      exact hK v w' h1 h2
  | 4, _, hs, ho, hop, hds, hdep, hK =>
    have hop : o.op = .move (.tmp 113) := Option.some.inj hop
    obtain ⟨u113, hu113, hv113⟩ := hdep 3 (by decide)
    have hv113' : u113 = .bool true := hv113
    subst hv113'
    have e113 : a.eval (.tmp 113) = _ := ev_tmp hu113
    refine st3 ho hwt (v := _) (w' := w) ?_ (hK _ w rfl (Below.refl _ _))
    unfold execOp
    rw [hop, ← e113]
    rfl
  | 5, _, hs, ho, hop, hds, hdep, hK =>
    have hop : o.op = .move (.tmp 17) := Option.some.inj hop
    have hu17 : a.tmps[17]? = some (.int .i64 0) := (hbase.2.2 17 (by decide)).trans x17
    have e17 : a.eval (.tmp 17) = _ := ev_tmp hu17
    refine st3 ho hwt (v := _) (w' := w) ?_ (hK _ w rfl (Below.refl _ _))
    unfold execOp
    rw [hop, ← e17]
    rfl
  | 6, _, hs, ho, hop, hds, hdep, hK =>
    have hop : o.op = .binOp .eql 31 (.tmp 115) (.const (.int .i64 0)) 31 := Option.some.inj hop
    obtain ⟨u115, hu115, hv115⟩ := hdep 5 (by decide)
    have hv115' : u115 = .int .i64 0 := hv115
    subst hv115'
    have e115 : a.eval (.tmp 115) = _ := ev_tmp hu115
    refine st3 ho hwt (v := .bool true) (w' := w) ?_ (hK _ w rfl (Below.refl _ _))
    unfold execOp
    simp only [hop, e115]
    first | rfl | (go_simp; done) | (go_simp; simp; done) | (go_simp; intro h; omega)
  | 7, _, hs, ho, hop, hds, hdep, hK =>
    have hop : o.op = .pick (.tmp 114) (.tmp 116) (.const (.bool false)) := Option.some.inj hop
    obtain ⟨u114, hu114, hv114⟩ := hdep 4 (by decide)
    have hv114' : u114 = .bool true := hv114
    subst hv114'
    have e114 : a.eval (.tmp 114) = _ := ev_tmp hu114
    obtain ⟨u116, hu116, hv116⟩ := hdep 6 (by decide)
    have hv116' : u116 = .bool true := hv116
    subst hv116'
    have e116 : a.eval (.tmp 116) = _ := ev_tmp hu116
    refine st3 ho hwt (v := .bool true) (w' := w) ?_ (hK _ w rfl (Below.refl _ _))
    unfold execOp
    simp only [hop, e114, e116]
    first | rfl | (go_simp; done) | (go_simp; simp; done) | (go_simp; intro h; omega)
  | 8, _, hs, ho, hop, hds, hdep, hK =>
    have hop : o.op = .move (.tmp 117) := Option.some.inj hop
    obtain ⟨u117, hu117, hv117⟩ := hdep 7 (by decide)
    have hv117' : u117 = .bool true := hv117
    subst hv117'
    have e117 : a.eval (.tmp 117) = _ := ev_tmp hu117
    refine st3 ho hwt (v := _) (w' := w) ?_ (hK _ w rfl (Below.refl _ _))
    unfold execOp
    rw [hop, ← e117]
    rfl
  | 9, _, hs, ho, hop, hds, hdep, hK =>
    have hop : o.op = .move (.tmp 18) := Option.some.inj hop
    have hu18 : a.tmps[18]? = some (.slice A 1 cO) := (hbase.2.2 18 (by decide)).trans x18
    have e18 : a.eval (.tmp 18) = _ := ev_tmp hu18
    refine st3 ho hwt (v := _) (w' := w) ?_ (hK _ w rfl (Below.refl _ _))
    unfold execOp
    rw [hop, ← e18]
    rfl
  | 10, _, hs, ho, hop, hds, hdep, hK =>
    have hop : o.op = .load 28 (.tmp 3) := Option.some.inj hop
    have hu3 : a.tmps[3]? = some (.pointer (some ⟨bc, 0, none⟩)) := (hbase.2.2 3 (by decide)).trans x3
    have e3 : a.eval (.tmp 3) = _ := ev_tmp hu3
    refine st3 ho hwt (v := .agg C.toArray) (w' := w) ?_ (hK _ w rfl (Below.refl _ _))
    unfold execOp
    simp only [hop, e3, Instr.loadAt, Instr.sureAddr, Sem.run_bind, Sem.run_pure, Result.andThen_ok, run_loadVar_mid w bc 0 28 C _ (lc w hbl) Try.underlying28 rfl iC]
  | 11, _, hs, ho, hop, hds, hdep, hK =>
    have hop : o.op = .buildSlice 54 1 #[(0, .tmp 120)] := Option.some.inj hop
    obtain ⟨u120, hu120, hv120⟩ := hdep 10 (by decide)
    have hv120' : u120 = .agg C.toArray := hv120
    subst hv120'
    have e120 : a.eval (.tmp 120) = _ := ev_tmp hu120
    refine st3 ho hwt (v := .slice (some ⟨w.heap.size, 0, none⟩) 1 1) (w' := w.alloc (.cells C.toArray 28)) ?_ (hK _ _ ⟨_, rfl, hnew w⟩ ((Below.refl _ _).alloc (Nat.le_refl _) _))
    have hrun := hrow w
    unfold execOp
    simp only [hop, List.map_toArray, List.map_cons, List.map_nil, e120, Sem.run_bind, hrun, Result.andThen_ok]
    rfl
  | 12, _, hs, ho, hop, hds, hdep, hK =>
    have hop : o.op = .call { callee := .value (.func 24), args := #[.tmp 119, .tmp 121], argTypes := #[54, 54] } := Option.some.inj hop
    obtain ⟨u119, hu119, hv119⟩ := hdep 9 (by decide)
    have hv119' : u119 = .slice A 1 cO := hv119
    subst hv119'
    have e119 : a.eval (.tmp 119) = _ := ev_tmp hu119
    obtain ⟨u121, hu121, hv121⟩ := hdep 11 (by decide)
    have hv121' : OneV w x u121 := hv121
    have e121 : a.eval (.tmp 121) = _ := ev_tmp hu121
    obtain ⟨b1, hb1, hs1⟩ := hv121'
    subst hb1
    refine st3_call ho hwt (f := 24) (vals := #[.slice A 1 cO, .slice (some ⟨b1, 0, none⟩) 1 1]) (Z := fun v w' => v = .bool true ∧ Below w.heap.size w w') ?_ ?_ ?_
    · unfold execOp
      simp only [hop, e119, e121, resolve, invoke, Sem.run_bind, Sem.run_pure, Result.andThen_ok, List.map_toArray, List.map_cons, List.map_nil]
      first | rfl | exact enters_of Try.func24 (by kernel_rfl) rfl _ _
    · exact (hSm w b1 hbl hs1).mono fun e w' ⟨he, h2⟩ => ⟨_, he, rfl, h2⟩
    · rintro v w' ⟨h1, h2⟩
      exact hK v w' h1 h2
  | 13, _, hs, ho, hop, hds, hdep, hK =>
    have hop : o.op = .pick (.tmp 118) (.tmp 122) (.const (.bool false)) := Option.some.inj hop
    obtain ⟨u118, hu118, hv118⟩ := hdep 8 (by decide)
    have hv118' : u118 = .bool true := hv118
    subst hv118'
    have e118 : a.eval (.tmp 118) = _ := ev_tmp hu118
    obtain ⟨u122, hu122, hv122⟩ := hdep 12 (by decide)
    have hv122' : u122 = .bool true := hv122
    subst hv122'
    have e122 : a.eval (.tmp 122) = _ := ev_tmp hu122
    refine st3 ho hwt (v := .bool true) (w' := w) ?_ (hK _ w rfl (Below.refl _ _))
    unfold execOp
    simp only [hop, e118, e122]
    first | rfl | (go_simp; done) | (go_simp; simp; done) | (go_simp; intro h; omega)
  | 14, _, hs, ho, hop, hds, hdep, hK =>
    have hop : o.op = .move (.tmp 123) := Option.some.inj hop
    obtain ⟨u123, hu123, hv123⟩ := hdep 13 (by decide)
    have hv123' : u123 = .bool true := hv123
    subst hv123'
    have e123 : a.eval (.tmp 123) = _ := ev_tmp hu123
    refine st3 ho hwt (v := _) (w' := w) ?_ (hK _ w rfl (Below.refl _ _))
    unfold execOp
    rw [hop, ← e123]
    rfl
  | 15, _, hs, ho, hop, hds, hdep, hK =>
    have hop : o.op = .move (.tmp 20) := Option.some.inj hop
    have hu20 : a.tmps[20]? = some (.bool false) := (hbase.2.2 20 (by decide)).trans x20
    have e20 : a.eval (.tmp 20) = _ := ev_tmp hu20
    refine st3 ho hwt (v := _) (w' := w) ?_ (hK _ w rfl (Below.refl _ _))
    unfold execOp
    rw [hop, ← e20]
    rfl
  | 16, _, hs, ho, hop, hds, hdep, hK =>
    have hop : o.op = .unOp .not 4 (.tmp 125) := Option.some.inj hop
    obtain ⟨u125, hu125, hv125⟩ := hdep 15 (by decide)
    have hv125' : u125 = .bool false := hv125
    subst hv125'
    have e125 : a.eval (.tmp 125) = _ := ev_tmp hu125
    refine st3 ho hwt (v := .bool true) (w' := w) ?_ (hK _ w rfl (Below.refl _ _))
    unfold execOp
    simp only [hop, e125]
    first | rfl | (go_simp; done) | (go_simp; simp; done) | (go_simp; intro h; omega)
  | 17, _, hs, ho, hop, hds, hdep, hK =>
    have hop : o.op = .pick (.tmp 124) (.tmp 126) (.const (.bool false)) := Option.some.inj hop
    obtain ⟨u124, hu124, hv124⟩ := hdep 14 (by decide)
    have hv124' : u124 = .bool true := hv124
    subst hv124'
    have e124 : a.eval (.tmp 124) = _ := ev_tmp hu124
    obtain ⟨u126, hu126, hv126⟩ := hdep 16 (by decide)
    have hv126' : u126 = .bool true := hv126
    subst hv126'
    have e126 : a.eval (.tmp 126) = _ := ev_tmp hu126
    refine st3 ho hwt (v := .bool true) (w' := w) ?_ (hK _ w rfl (Below.refl _ _))
    unfold execOp
    simp only [hop, e124, e126]
    first | rfl | (go_simp; done) | (go_simp; simp; done) | (go_simp; intro h; omega)
  | 18, _, hs, ho, hop, hds, hdep, hK =>
    have hop : o.op = .move (.tmp 127) := Option.some.inj hop
    obtain ⟨u127, hu127, hv127⟩ := hdep 17 (by decide)
    have hv127' : u127 = .bool true := hv127
    subst hv127'
    have e127 : a.eval (.tmp 127) = _ := ev_tmp hu127
    refine st3 ho hwt (v := _) (w' := w) ?_ (hK _ w rfl (Below.refl _ _))
    unfold execOp
    rw [hop, ← e127]
    rfl
  | 19, _, hs, ho, hop, hds, hdep, hK =>
    have hop : o.op = .move (.tmp 1) := Option.some.inj hop
    have hu1 : a.tmps[1]? = some (.pointer (some ⟨g, 0, none⟩)) := (hbase.2.2 1 (by decide)).trans x1
    have e1 : a.eval (.tmp 1) = _ := ev_tmp hu1
    refine st3 ho hwt (v := _) (w' := w) ?_ (hK _ w rfl (Below.refl _ _))
    unfold execOp
    rw [hop, ← e1]
    rfl
  | 20, _, hs, ho, hop, hds, hdep, hK =>
    have hop : o.op = .call { callee := .value (.func 23), args := #[.tmp 129], argTypes := #[30] } := Option.some.inj hop
    obtain ⟨u129, hu129, hv129⟩ := hdep 19 (by decide)
    have hv129' : u129 = .pointer (some ⟨g, 0, none⟩) := hv129
    subst hv129'
    have e129 : a.eval (.tmp 129) = _ := ev_tmp hu129
    refine st3_call ho hwt (f := 23) (vals := #[.pointer (some ⟨g, 0, none⟩)]) (Z := fun v w' => v = .agg D.toArray ∧ Below w.heap.size w w') ?_ ?_ ?_
    · unfold execOp
      simp only [hop, e129, resolve, invoke, Sem.run_bind, Sem.run_pure, Result.andThen_ok, List.map_toArray, List.map_cons, List.map_nil]
      first | rfl | exact enters_of Try.func23 (by kernel_rfl) rfl _ _
    · exact (hLo w hbl).mono fun e w' ⟨he, h2⟩ => ⟨_, he, rfl, h2⟩
    · rintro v w' ⟨h1, h2⟩
      exact hK v w' h1 h2
  | 21, _, hs, ho, hop, hds, hdep, hK =>
    have hop : o.op = .load 28 (.tmp 2) := Option.some.inj hop
    have hu2 : a.tmps[2]? = some (.pointer (some ⟨ba, 0, none⟩)) := (hbase.2.2 2 (by decide)).trans x2
    have e2 : a.eval (.tmp 2) = _ := ev_tmp hu2
    refine st3 ho hwt (v := .agg D.toArray) (w' := w) ?_ (hK _ w rfl (Below.refl _ _))
    unfold execOp
    simp only [hop, e2, Instr.loadAt, Instr.sureAddr, Sem.run_bind, Sem.run_pure, Result.andThen_ok, run_loadVar_mid w ba 0 28 D _ (la w hbl) Try.underlying28 rfl iD]
  | 22, _, hs, ho, hop, hds, hdep, hK =>
    have hop : o.op = .binOp .eql 28 (.tmp 130) (.tmp 131) 28 := Option.some.inj hop
    obtain ⟨u130, hu130, hv130⟩ := hdep 20 (by decide)
    have hv130' : u130 = .agg D.toArray := hv130
    subst hv130'
    have e130 : a.eval (.tmp 130) = _ := ev_tmp hu130
    obtain ⟨u131, hu131, hv131⟩ := hdep 21 (by decide)
    have hv131' : u131 = .agg D.toArray := hv131
    subst hv131'
    have e131 : a.eval (.tmp 131) = _ := ev_tmp hu131
    refine st3 ho hwt (v := .bool true) (w' := w) ?_ (hK _ w rfl (Below.refl _ _))
    have hq := heq w
    unfold execOp
    simp only [hop, e130, e131]
    first | rfl | (go_simp; done) | (go_simp; rfl)
  | 23, _, hs, ho, hop, hds, hdep, hK =>
    have hop : o.op = .pick (.tmp 128) (.tmp 132) (.const (.bool false)) := Option.some.inj hop
    obtain ⟨u128, hu128, hv128⟩ := hdep 18 (by decide)
    have hv128' : u128 = .bool true := hv128
    subst hv128'
    have e128 : a.eval (.tmp 128) = _ := ev_tmp hu128
    obtain ⟨u132, hu132, hv132⟩ := hdep 22 (by decide)
    have hv132' : u132 = .bool true := hv132
    subst hv132'
    have e132 : a.eval (.tmp 132) = _ := ev_tmp hu132
    refine st3 ho hwt (v := .bool true) (w' := w) ?_ (hK _ w rfl (Below.refl _ _))
    unfold execOp
    simp only [hop, e128, e132]
    first | rfl | (go_simp; done) | (go_simp; simp; done) | (go_simp; intro h; omega)
  | 24, _, hs, ho, hop, hds, hdep, hK =>
    have hop : o.op = .assign (.tmp 133) := Option.some.inj hop
    obtain ⟨u133, hu133, hv133⟩ := hdep 23 (by decide)
    have hv133' : u133 = .bool true := hv133
    subst hv133'
    have e133 : a.eval (.tmp 133) = _ := ev_tmp hu133
    refine st3 ho hwt (v := _) (w' := w) ?_ (hK _ w rfl (Below.refl _ _))
    unfold execOp
    rw [hop, ← e133]
    rfl
  | i + 25, hi, _, _, _, _, _, _ => exact absurd hi (by omega)
set_option maxRecDepth 100000 in
set_option maxHeartbeats 32000000 in
theorem awake_any (w : World) : Calls Try.prog 17 #[] w fun e w' => e = .returned (.bool true) ∧ Below w.heap.size w w' := by
  obtain ⟨XA, hA⟩ : ∃ X, mkC exA = X := ⟨_, rfl⟩
  obtain ⟨XC, hC⟩ : ∃ X, mkC exC = X := ⟨_, rfl⟩
  obtain ⟨XB, hB⟩ : ∃ X, mkC exB = X := ⟨_, rfl⟩
  obtain ⟨Z, hZ⟩ : ∃ X, mkC mk0 = X := ⟨_, rfl⟩
  have HF : Hid (∀ W, Calls Try.prog 18 #[.int .i64 1] W fun e w' => ∃ g, e = .returned (.pointer (some ⟨g, 0, none⟩)) ∧ MsAt w' (fun b => W.heap.size ≤ b ∧ b < w'.heap.size) g (fr 1) ∧ Below W.heap.size W w') := Lib.hid fun W => fresh_any 1 (by omega) (by omega) W
  have MA : Hid (∀ W, Calls Try.prog 19 #[.int .i64 4, .int .u8 1] W fun e w' => e = .returned (.agg XA.toArray) ∧ Below W.heap.size W w') := Lib.hid fun W => by rw [← hA]; exact mark_any 4 1 (by decide) W
  have MC : Hid (∀ W, Calls Try.prog 19 #[.int .i64 8, .int .u8 3] W fun e w' => e = .returned (.agg XC.toArray) ∧ Below W.heap.size W w') := Lib.hid fun W => by rw [← hC]; exact mark_any 8 3 (by decide) W
  have MB : Hid (∀ W, Calls Try.prog 19 #[.int .i64 4, .int .u8 2] W fun e w' => e = .returned (.agg XB.toArray) ∧ Below W.heap.size W w') := Lib.hid fun W => by rw [← hB]; exact mark_any 4 2 (by decide) W
  have V1 : Hid (∀ W g V, Aw w W g (fr 1) V → Calls Try.prog 12 #[.pointer (some ⟨g, 0, none⟩), .int .i64 1, .agg XA.toArray] W fun e w' => e = .returned (.int .i64 0) ∧ Aw w w' g e1 V) := Lib.hid fun W g V h => by rw [← hA]; exact Aw.vote (m := (fr 1)) h (by decide) exA ex_1
  have V2 : Hid (∀ W g V, Aw w W g e1 V → Calls Try.prog 12 #[.pointer (some ⟨g, 0, none⟩), .int .i64 2, .agg XA.toArray] W fun e w' => e = .returned (.int .i64 0) ∧ Aw w w' g e2 V) := Lib.hid fun W g V h => by rw [← hA]; exact Aw.vote (m := e1) h (by decide) exA ex_2
  have V3 : Hid (∀ W g V, Aw w W g e2 V → Calls Try.prog 12 #[.pointer (some ⟨g, 0, none⟩), .int .i64 3, .agg XB.toArray] W fun e w' => e = .returned (.int .i64 0) ∧ Aw w w' g e3 V) := Lib.hid fun W g V h => by rw [← hB]; exact Aw.vote (m := e2) h (by decide) exB ex_3
  have V4 : Hid (∀ W g V, Aw w W g e3 V → Calls Try.prog 12 #[.pointer (some ⟨g, 0, none⟩), .int .i64 3, .agg XA.toArray] W fun e w' => e = .returned (.int .i64 151) ∧ Aw w w' g e4 V) := Lib.hid fun W g V h => by rw [← hA]; exact Aw.vote (m := e3) h (by decide) exA ex_4
  have V5 : Hid (∀ W g V, Aw w W g e4 V → Calls Try.prog 12 #[.pointer (some ⟨g, 0, none⟩), .int .i64 4, .agg XA.toArray] W fun e w' => e = .returned (.int .i64 0) ∧ Aw w w' g e5 V) := Lib.hid fun W g V h => by rw [← hA]; exact Aw.vote (m := e4) h (by decide) exA ex_5
  have V6 : Hid (∀ W g V, Aw w W g e5 V → Calls Try.prog 12 #[.pointer (some ⟨g, 0, none⟩), .int .i64 2, .agg XC.toArray] W fun e w' => e = .returned (.int .i64 0) ∧ Aw w w' g e6 V) := Lib.hid fun W g V h => by rw [← hC]; exact Aw.vote (m := e5) h (by decide) exC ex_6
  have V7 : Hid (∀ W g V, Aw w W g e6 V → Calls Try.prog 12 #[.pointer (some ⟨g, 0, none⟩), .int .i64 1, .agg XC.toArray] W fun e w' => e = .returned (.int .i64 0) ∧ Aw w w' g e7 V) := Lib.hid fun W g V h => by rw [← hC]; exact Aw.vote (m := e6) h (by decide) exC ex_7
  have K2 : Hid (∀ W g V, Aw w W g e2 V → Calls Try.prog 21 #[.pointer (some ⟨g, 0, none⟩)] W fun e w' => e = .returned (.tuple #[.agg XA.toArray, .bool true]) ∧ Aw w w' g e2 V) := Lib.hid fun W g V h => by rw [← hA]; exact Aw.known (m := e2) h ex_k2
  have S2 : Hid (∀ W g V, Aw w W g e2 V → Calls Try.prog 20 #[.pointer (some ⟨g, 0, none⟩)] W fun e w' => e = .returned (.tuple #[.agg Z.toArray, .bool false]) ∧ Aw w w' g e2 V) := Lib.hid fun W g V h => by rw [← hZ]; exact Aw.stable (m := e2) h ex_s2
  have S5 : Hid (∀ W g V, Aw w W g e5 V → Calls Try.prog 20 #[.pointer (some ⟨g, 0, none⟩)] W fun e w' => e = .returned (.tuple #[.agg XA.toArray, .bool true]) ∧ Aw w w' g e5 V) := Lib.hid fun W g V h => by rw [← hA]; exact Aw.stable (m := e5) h ex_s5
  have K7 : Hid (∀ W g V, Aw w W g e7 V → Calls Try.prog 21 #[.pointer (some ⟨g, 0, none⟩)] W fun e w' => e = .returned (.tuple #[.agg XC.toArray, .bool true]) ∧ Aw w w' g e7 V) := Lib.hid fun W g V h => by rw [← hC]; exact Aw.known (m := e7) h ex_k7
  have S8 : Hid (∀ W g V, Aw w W g e8 V → Calls Try.prog 20 #[.pointer (some ⟨g, 0, none⟩)] W fun e w' => e = .returned (.tuple #[.agg Z.toArray, .bool false]) ∧ Below W.heap.size W w') := Lib.hid fun W g V h => by rw [← hZ]; exact Aw.stableB (m := e8) h ex_s8
  have R8 : Hid (∀ W g V, Aw w W g e7 V → Calls Try.prog 14 #[.pointer (some ⟨g, 0, none⟩), .agg XA.toArray] W fun e w' => e = .returned (.int .i64 0) ∧ Aw w w' g e8 V) := Lib.hid fun W g V h => by rw [← hA]; exact Aw.raise (m := e7) h exA ex_8
  have O8 : Hid (∀ W g V, Aw w W g e8 V → Calls Try.prog 22 #[.pointer (some ⟨g, 0, none⟩), .int .i64 2] W fun e w' => ∃ A c, e = .returned (.slice A 1 c) ∧ ShM w' A [exC] ∧ Aw w w' g e8 V) := Lib.hid fun W g V h => (Aw.of (m := e8) h (n := 2) (by decide)).mono fun e w' ⟨A, k, c, he, h1, h2, h3⟩ => by rw [ex_o8] at h1 h2; have h2' : 1 = k := h2; subst h2'; exact ⟨A, c, he, h1, h3⟩
  have L8 : Hid (∀ W g V, Aw w W g e8 V → Calls Try.prog 23 #[.pointer (some ⟨g, 0, none⟩)] W fun e w' => e = .returned (.agg XA.toArray) ∧ Below W.heap.size W w') := Lib.hid fun W g V h => by have := Aw.low (m := e8) h; rw [ex_l8, hA] at this; exact this
  have IA : Hid (∀ W, Calls Try.prog 25 #[.agg XA.toArray, .bool true, .agg XA.toArray] W fun e w' => e = .returned (.bool true) ∧ Below W.heap.size W w') := Lib.hid fun W => by rw [← hA]; exact is_any exA exA true W true (by simp)
  have iA : Hid ((Try.prog.info? 28).map (·.size) = some XA.length) := Lib.hid (by rw [← hA]; exact mark_infoL exA)
  have rA : Hid (∀ W g m V b, Aw w W g m V → (b, exA) ∈ V → W.rangeAt b 0 XA) := Lib.hid fun W g m V b h hp => by rw [← hA]; exact h.load hp
  have IC : Hid (∀ W, Calls Try.prog 25 #[.agg XC.toArray, .bool true, .agg XC.toArray] W fun e w' => e = .returned (.bool true) ∧ Below W.heap.size W w') := Lib.hid fun W => by rw [← hC]; exact is_any exC exC true W true (by simp)
  have iC : Hid ((Try.prog.info? 28).map (·.size) = some XC.length) := Lib.hid (by rw [← hC]; exact mark_infoL exC)
  have rC : Hid (∀ W g m V b, Aw w W g m V → (b, exC) ∈ V → W.rangeAt b 0 XC) := Lib.hid fun W g m V b h hp => by rw [← hC]; exact h.load hp
  have N8 : Hid (∀ W : World, ShM (W.alloc (.cells XC.toArray 28)) (some ⟨W.heap.size, 0, none⟩) [exC]) := Lib.hid fun W => by rw [← hC]; exact one_new exC W
  have B8 : Hid (∀ W : World, (Instr.buildSlice 54 1 #[(0, .agg XC.toArray)]).run Try.prog W = .ok (.slice (some ⟨W.heap.size, 0, none⟩) 1 1) (W.alloc (.cells XC.toArray 28))) := Lib.hid fun W => by rw [← hC]; exact row_mark exC W
  have E8 : Hid (∀ W, (Op.equalIn 10000 28 (.agg XA.toArray) (.agg XA.toArray)).run Try.prog W = .ok true W) := Lib.hid fun W => by rw [← hA]; have := eq_mark exA exA W; simpa using this
  have vA := Lib.hid hA
  have vC := Lib.hid hC
  have vZ := Lib.hid hZ
  clear hA hB hC hZ
  go_enter Try.func17, Try.ntmps17
  go_wp2_with fail
  refine (HF.out _).mono ?_
  rintro e w1 ⟨g, rfl, hst, hb1⟩
  have H1 := Lib.hid (Aw.new (Below.refl _ _) hst hb1)
  clear hst hb1
  go_wp2_with fail
  refine (MA.out _).mono ?_
  rintro e w2 ⟨rfl, hb2⟩
  have H2 := Lib.hid (H1.out.below hb2)
  clear hb2 H1
  go_wp2_with fail
  refine (MC.out _).mono ?_
  rintro e w3 ⟨rfl, hb3⟩
  have H3 := Lib.hid (H2.out.below hb3)
  clear hb3 H2
  obtain ⟨wS, wT, hwS, hwT, hs1, hs2, h4⟩ := Aw.var2 H3.out exA exC vA.out vC.out
  have HS := Lib.hid (And.intro hwS (And.intro hwT (And.intro hs1 hs2)))
  have H4 := Lib.hid h4
  clear hwS hwT hs1 hs2 h4
  have la := Lib.hid (rA.out _ _ _ _ w3.heap.size H4.out (by simp))
  go_wp2_with (first
    | (refine wpList_store_mid rfl 28 _ _ rfl w3.heap.size 0 XA.toArray rfl rfl HS.out.2.2.1.1 HS.out.2.2.1.2.1 HS.out.2.2.1.2.2 ?_; simp only [Act.put]; refine cast (congrArg (fun z => wpList _ _ _ _ _ z) HS.out.1.symm) ?_)
    | (refine wpList_store_mid rfl 28 _ _ rfl (w3.heap.size + 1) 0 XC.toArray rfl rfl HS.out.2.2.2.1 HS.out.2.2.2.2.1 HS.out.2.2.2.2.2 ?_; simp only [Act.put]; refine cast (congrArg (fun z => wpList _ _ _ _ _ z) HS.out.2.1.symm) ?_)
    | (refine load_mid_g rfl 28 _ rfl w3.heap.size 0 rfl XA _ la.out Try.underlying28 rfl iA.out ?_; simp only [Act.put]))
  clear la HS
  refine (V1.out _ _ _ H4.out).mono ?_
  rintro e w5 ⟨rfl, h5⟩
  have H5 := Lib.hid h5
  clear h5
  have la := Lib.hid (rA.out _ _ _ _ w3.heap.size H5.out (by simp))
  have lc := Lib.hid (rC.out _ _ _ _ (w3.heap.size + 1) H5.out (by simp))
  go_wp2_with (first | (refine load_mid_g rfl 28 _ rfl w3.heap.size 0 rfl XA _ la.out Try.underlying28 rfl iA.out ?_; simp only [Act.put]) | (refine load_mid_g rfl 28 _ rfl (w3.heap.size + 1) 0 rfl XC _ lc.out Try.underlying28 rfl iC.out ?_; simp only [Act.put]))
  clear la lc
  refine (V2.out _ _ _ H5.out).mono ?_
  rintro e w6 ⟨rfl, h6⟩
  have H6 := Lib.hid h6
  clear h6
  have la := Lib.hid (rA.out _ _ _ _ w3.heap.size H6.out (by simp))
  have lc := Lib.hid (rC.out _ _ _ _ (w3.heap.size + 1) H6.out (by simp))
  go_wp2_with (first | (refine load_mid_g rfl 28 _ rfl w3.heap.size 0 rfl XA _ la.out Try.underlying28 rfl iA.out ?_; simp only [Act.put]) | (refine load_mid_g rfl 28 _ rfl (w3.heap.size + 1) 0 rfl XC _ lc.out Try.underlying28 rfl iC.out ?_; simp only [Act.put]))
  clear la lc
  refine (K2.out _ _ _ H6.out).mono ?_
  rintro e w7 ⟨rfl, h7⟩
  have H7 := Lib.hid h7
  clear h7
  obtain ⟨wV7, hwV, hsV, hV, hVb⟩ := Aw.var' H7.out exA vA.out
  have HV7 := Lib.hid (And.intro hwV hsV)
  have H8 := Lib.hid hV
  have HVb7 := Lib.hid hVb
  clear hwV hsV hV hVb
  have la := Lib.hid (rA.out _ _ _ _ w3.heap.size H8.out (by simp))
  have lc := Lib.hid (rC.out _ _ _ _ (w3.heap.size + 1) H8.out (by simp))
  go_wp2_with (first | (refine wpList_store_mid rfl 28 _ _ rfl w7.heap.size 0 XA.toArray rfl rfl HV7.out.2.1 HV7.out.2.2.1 HV7.out.2.2.2 ?_; simp only [Act.put]; refine cast (congrArg (fun z => wpList _ _ _ _ _ z) HV7.out.1.symm) ?_) | (refine load_mid_g rfl 28 _ rfl w3.heap.size 0 rfl XA _ la.out Try.underlying28 rfl iA.out ?_; simp only [Act.put]) | (refine load_mid_g rfl 28 _ rfl (w3.heap.size + 1) 0 rfl XC _ lc.out Try.underlying28 rfl iC.out ?_; simp only [Act.put]))
  clear la lc
  refine (S2.out _ _ _ H8.out).mono ?_
  rintro e w9 ⟨rfl, h9⟩
  have H9 := Lib.hid h9
  clear h9
  obtain ⟨wV9, hwV, hsV, hV, hVb⟩ := Aw.var' H9.out mk0 vZ.out
  have HV9 := Lib.hid (And.intro hwV hsV)
  have H10 := Lib.hid hV
  have HVb9 := Lib.hid hVb
  clear hwV hsV hV hVb
  go_wp2_with (refine wpList_store_mid rfl 28 _ _ rfl w9.heap.size 0 Z.toArray rfl rfl HV9.out.2.1 HV9.out.2.2.1 HV9.out.2.2.2 ?_; simp only [Act.put]; refine cast (congrArg (fun z => wpList _ _ _ _ _ z) HV9.out.1.symm) ?_)
  refine (MB.out _).mono ?_
  rintro e w11 ⟨rfl, hb⟩
  have H11 := Lib.hid (H10.out.below hb)
  clear hb
  have la := Lib.hid (rA.out _ _ _ _ w3.heap.size H11.out (by simp))
  have lc := Lib.hid (rC.out _ _ _ _ (w3.heap.size + 1) H11.out (by simp))
  go_wp2_with (first | (refine load_mid_g rfl 28 _ rfl w3.heap.size 0 rfl XA _ la.out Try.underlying28 rfl iA.out ?_; simp only [Act.put]) | (refine load_mid_g rfl 28 _ rfl (w3.heap.size + 1) 0 rfl XC _ lc.out Try.underlying28 rfl iC.out ?_; simp only [Act.put]))
  clear la lc
  refine (V3.out _ _ _ H11.out).mono ?_
  rintro e w12 ⟨rfl, h12⟩
  have H12 := Lib.hid h12
  clear h12
  have la := Lib.hid (rA.out _ _ _ _ w3.heap.size H12.out (by simp))
  have lc := Lib.hid (rC.out _ _ _ _ (w3.heap.size + 1) H12.out (by simp))
  go_wp2_with (first | (refine load_mid_g rfl 28 _ rfl w3.heap.size 0 rfl XA _ la.out Try.underlying28 rfl iA.out ?_; simp only [Act.put]) | (refine load_mid_g rfl 28 _ rfl (w3.heap.size + 1) 0 rfl XC _ lc.out Try.underlying28 rfl iC.out ?_; simp only [Act.put]))
  clear la lc
  refine (V4.out _ _ _ H12.out).mono ?_
  rintro e w13 ⟨rfl, h13⟩
  have H13 := Lib.hid h13
  clear h13
  have la := Lib.hid (rA.out _ _ _ _ w3.heap.size H13.out (by simp))
  have lc := Lib.hid (rC.out _ _ _ _ (w3.heap.size + 1) H13.out (by simp))
  go_wp2_with (first | (refine load_mid_g rfl 28 _ rfl w3.heap.size 0 rfl XA _ la.out Try.underlying28 rfl iA.out ?_; simp only [Act.put]) | (refine load_mid_g rfl 28 _ rfl (w3.heap.size + 1) 0 rfl XC _ lc.out Try.underlying28 rfl iC.out ?_; simp only [Act.put]))
  clear la lc
  refine (V5.out _ _ _ H13.out).mono ?_
  rintro e w14 ⟨rfl, h14⟩
  have H14 := Lib.hid h14
  clear h14
  have la := Lib.hid (rA.out _ _ _ _ w3.heap.size H14.out (by simp))
  have lc := Lib.hid (rC.out _ _ _ _ (w3.heap.size + 1) H14.out (by simp))
  go_wp2_with (first | (refine load_mid_g rfl 28 _ rfl w3.heap.size 0 rfl XA _ la.out Try.underlying28 rfl iA.out ?_; simp only [Act.put]) | (refine load_mid_g rfl 28 _ rfl (w3.heap.size + 1) 0 rfl XC _ lc.out Try.underlying28 rfl iC.out ?_; simp only [Act.put]))
  clear la lc
  refine (S5.out _ _ _ H14.out).mono ?_
  rintro e w15 ⟨rfl, h15⟩
  have H15 := Lib.hid h15
  clear h15
  obtain ⟨wV15, hwV, hsV, hV, hVb⟩ := Aw.var' H15.out exA vA.out
  have HV15 := Lib.hid (And.intro hwV hsV)
  have H16 := Lib.hid hV
  have HVb15 := Lib.hid hVb
  clear hwV hsV hV hVb
  have lx := Lib.hid (rA.out _ _ _ _ w7.heap.size H16.out (by simp))
  have la := Lib.hid (rA.out _ _ _ _ w3.heap.size H16.out (by simp))
  have lc := Lib.hid (rC.out _ _ _ _ (w3.heap.size + 1) H16.out (by simp))
  go_wp2_with (first | (refine wpList_store_mid rfl 28 _ _ rfl w15.heap.size 0 XA.toArray rfl rfl HV15.out.2.1 HV15.out.2.2.1 HV15.out.2.2.2 ?_; simp only [Act.put]; refine cast (congrArg (fun z => wpList _ _ _ _ _ z) HV15.out.1.symm) ?_) | (refine load_mid_g rfl 28 _ rfl w7.heap.size 0 rfl XA _ lx.out Try.underlying28 rfl iA.out ?_; simp only [Act.put]) | (refine load_mid_g rfl 28 _ rfl w3.heap.size 0 rfl XA _ la.out Try.underlying28 rfl iA.out ?_; simp only [Act.put]) | (refine load_mid_g rfl 28 _ rfl (w3.heap.size + 1) 0 rfl XC _ lc.out Try.underlying28 rfl iC.out ?_; simp only [Act.put]))
  clear la lc lx
  refine (IA.out _).mono ?_
  rintro e w17 ⟨rfl, hb⟩
  have H17 := Lib.hid (H16.out.below hb)
  clear hb
  have lx := Lib.hid (rA.out _ _ _ _ w15.heap.size H17.out (by simp))
  have la := Lib.hid (rA.out _ _ _ _ w3.heap.size H17.out (by simp))
  have lc := Lib.hid (rC.out _ _ _ _ (w3.heap.size + 1) H17.out (by simp))
  go_wp2_with (first | (refine load_mid_g rfl 28 _ rfl w15.heap.size 0 rfl XA _ lx.out Try.underlying28 rfl iA.out ?_; simp only [Act.put]) | (refine load_mid_g rfl 28 _ rfl w3.heap.size 0 rfl XA _ la.out Try.underlying28 rfl iA.out ?_; simp only [Act.put]) | (refine load_mid_g rfl 28 _ rfl (w3.heap.size + 1) 0 rfl XC _ lc.out Try.underlying28 rfl iC.out ?_; simp only [Act.put]))
  clear la lc lx
  refine (IA.out _).mono ?_
  rintro e w18 ⟨rfl, hb⟩
  have H18 := Lib.hid (H17.out.below hb)
  clear hb
  have la := Lib.hid (rA.out _ _ _ _ w3.heap.size H18.out (by simp))
  have lc := Lib.hid (rC.out _ _ _ _ (w3.heap.size + 1) H18.out (by simp))
  go_wp2_with (first | (refine load_mid_g rfl 28 _ rfl w3.heap.size 0 rfl XA _ la.out Try.underlying28 rfl iA.out ?_; simp only [Act.put]) | (refine load_mid_g rfl 28 _ rfl (w3.heap.size + 1) 0 rfl XC _ lc.out Try.underlying28 rfl iC.out ?_; simp only [Act.put]))
  clear la lc
  refine (V6.out _ _ _ H18.out).mono ?_
  rintro e w19 ⟨rfl, h19⟩
  have H19 := Lib.hid h19
  clear h19
  have la := Lib.hid (rA.out _ _ _ _ w3.heap.size H19.out (by simp))
  have lc := Lib.hid (rC.out _ _ _ _ (w3.heap.size + 1) H19.out (by simp))
  go_wp2_with (first | (refine load_mid_g rfl 28 _ rfl w3.heap.size 0 rfl XA _ la.out Try.underlying28 rfl iA.out ?_; simp only [Act.put]) | (refine load_mid_g rfl 28 _ rfl (w3.heap.size + 1) 0 rfl XC _ lc.out Try.underlying28 rfl iC.out ?_; simp only [Act.put]))
  clear la lc
  refine (V7.out _ _ _ H19.out).mono ?_
  rintro e w20 ⟨rfl, h20⟩
  have H20 := Lib.hid h20
  clear h20
  have la := Lib.hid (rA.out _ _ _ _ w3.heap.size H20.out (by simp))
  have lc := Lib.hid (rC.out _ _ _ _ (w3.heap.size + 1) H20.out (by simp))
  go_wp2_with (first | (refine load_mid_g rfl 28 _ rfl w3.heap.size 0 rfl XA _ la.out Try.underlying28 rfl iA.out ?_; simp only [Act.put]) | (refine load_mid_g rfl 28 _ rfl (w3.heap.size + 1) 0 rfl XC _ lc.out Try.underlying28 rfl iC.out ?_; simp only [Act.put]))
  clear la lc
  refine (K7.out _ _ _ H20.out).mono ?_
  rintro e w21 ⟨rfl, h21⟩
  have H21 := Lib.hid h21
  clear h21
  obtain ⟨wV21, hwV, hsV, hV, hVb⟩ := Aw.var' H21.out exC vC.out
  have HV21 := Lib.hid (And.intro hwV hsV)
  have H22 := Lib.hid hV
  have HVb21 := Lib.hid hVb
  clear hwV hsV hV hVb
  have la := Lib.hid (rA.out _ _ _ _ w3.heap.size H22.out (by simp))
  have lc := Lib.hid (rC.out _ _ _ _ (w3.heap.size + 1) H22.out (by simp))
  go_wp2_with (first | (refine wpList_store_mid rfl 28 _ _ rfl w21.heap.size 0 XC.toArray rfl rfl HV21.out.2.1 HV21.out.2.2.1 HV21.out.2.2.2 ?_; simp only [Act.put]; refine cast (congrArg (fun z => wpList _ _ _ _ _ z) HV21.out.1.symm) ?_) | (refine load_mid_g rfl 28 _ rfl w3.heap.size 0 rfl XA _ la.out Try.underlying28 rfl iA.out ?_; simp only [Act.put]) | (refine load_mid_g rfl 28 _ rfl (w3.heap.size + 1) 0 rfl XC _ lc.out Try.underlying28 rfl iC.out ?_; simp only [Act.put]))
  clear la lc
  refine (R8.out _ _ _ H22.out).mono ?_
  rintro e w23 ⟨rfl, h23⟩
  have H23 := Lib.hid h23
  clear h23
  go_wp2_with fail
  refine (O8.out _ _ _ H23.out).mono ?_
  rintro e w24 ⟨A, cO, rfl, hsh, h24⟩
  have HO := Lib.hid hsh
  have H24 := Lib.hid h24
  clear h24 hsh
  go_wp2_with fail
  refine (S8.out _ _ _ H24.out).mono ?_
  rintro e w25 ⟨rfl, hb⟩
  have H25 := Lib.hid (H24.out.below hb)
  have HP := Lib.hid (HO.out.below hb)
  clear hb
  obtain ⟨wV25, hwV, hsV, hV, hVb⟩ := Aw.var' H25.out mk0 vZ.out
  have HV25 := Lib.hid (And.intro hwV hsV)
  have H26 := Lib.hid hV
  have HVb25 := Lib.hid hVb
  clear hwV hsV hV hVb
  have HO' : Hid (ShM wV25 A [exC]) := Lib.hid (HP.out.below HVb25.out)
  go_wp2_with (refine wpList_store_mid rfl 28 _ _ rfl w25.heap.size 0 Z.toArray rfl rfl HV25.out.2.1 HV25.out.2.2.1 HV25.out.2.2.2 ?_; simp only [Act.put]; refine cast (congrArg (fun z => wpList _ _ _ _ _ z) HV25.out.1.symm) ?_)
  refine region_rule4 (P := Try.prog) 25 134 aqD aqG aqS (aqR w21.heap.size w3.heap.size.succ w3.heap.size g exC XC XA A cO) _ _ (by kernel_rfl) rfl rfl (by kernel_rfl) (by decide +kernel) (aq_gb w21.heap.size w3.heap.size.succ w3.heap.size g exC XC XA A cO) (aq_sk w21.heap.size w3.heap.size.succ w3.heap.size g exC XC XA A cO) (aq_on w21.heap.size w3.heap.size.succ w3.heap.size g exC XC XA A cO) (aq_step w21.heap.size w3.heap.size.succ w3.heap.size g exC XC XA A cO (by rfl) (by kernel_rfl) rfl rfl rfl rfl rfl rfl rfl rfl (fun W hb => rC.out _ _ _ _ _ (H26.out.below hb) (by simp)) (fun W hb => rC.out _ _ _ _ _ (H26.out.below hb) (by simp)) (fun W hb => rA.out _ _ _ _ _ (H26.out.below hb) (by simp)) iC.out iA.out IC.out N8.out B8.out (fun W b1 hb hs => (same_any (n := 1) (n' := 1) (HO'.out.below hb) hs rfl rfl (by omega) (by omega)).mono fun e w' ⟨he, h2⟩ => ⟨by rw [he]; simp, h2⟩) (fun W hb => L8.out _ _ _ (H26.out.below hb)) E8.out) ?fin
  case fin =>
    intro a w6 hbase hbl hall
    obtain ⟨v0, hv0, hR0⟩ := hall 24 (by decide)
    have hR0' : v0 = .bool true := hR0
    subst hR0'
    obtain ⟨g, hge, hg⟩ := base_lit hbase [110, 111, 112, 113, 114, 115, 116, 117, 118, 119, 120, 121, 122, 123, 124, 125, 126, 127, 128, 129, 130, 131, 132, 133, 0] (by rfl)
    have q0 : g 0 = .bool true := hge 0 _ hv0
    simp only [List.foldl_cons, List.foldl_nil, List.setIfInBounds_toArray, List.set_cons_zero, List.set_cons_succ, q0] at hg
    rw [hg]
    clear hv0 hR0 hge q0 hg
    have H9 := Lib.hid (H26.out.bel.trans (hbl.mono H26.out.bel.size))
    clear hbl hall hbase
    go_wp2
    go_ret
    exact ⟨rfl, H9.out⟩
end Go.Proofs.Ytenccpccpjjkmaa

namespace Go.Proofs.Ytenccpccpjjkmaa

open Go.RowKit

set_option linter.unusedVariables false

def SomeNat (n : Int) (w : World) (e : Ending) (w' : World) : Prop := ∃ r : Nat, (r : Int) < n ∧ e = .returned (.int .i64 (r : Int)) ∧ w = w'

theorem SomeNat.mk {n : Int} {w w' : World} {x : Int} (h0 : 0 ≤ x) (h : x < n) (hw : w = w') : SomeNat n w (.returned (.int .i64 x)) w' :=
  ⟨x.toNat, by omega, by rw [Int.toNat_of_nonneg h0], hw⟩

set_option maxHeartbeats 400000 in
theorem bring_any (i n : Int) (w : World) (h : 0 < n) (hn : n ≤ 9223372036854775807) (hi0 : -9223372036854775808 ≤ i) (hi1 : i ≤ 9223372036854775807) :
    Calls Try.prog 11 #[.int .i64 i, .int .i64 n] w (SomeNat n w) := by
  have hz : (n == 0) = false := by simp; omega
  by_cases h0 : 0 ≤ i
  · have hm0 := Int.emod_nonneg i (by omega : n ≠ 0)
    have hm1 := Int.emod_lt_of_pos i h
    go_enter Try.func11, Try.ntmps11
    go_wp2
    go_ret
    exact SomeNat.mk hm0 hm1 rfl
  · have ht : i.tmod n = -((-i) % n) := by
      have e1 : (-i).tmod n = -(i.tmod n) := Int.neg_tmod i n
      have e2 : (-i).tmod n = (-i) % n := Int.tmod_eq_emod_of_nonneg (by omega)
      omega
    have hm0 := Int.emod_nonneg (-i) (by omega : n ≠ 0)
    have hm1 := Int.emod_lt_of_pos (-i) h
    have hl0 : i.tmod n ≤ 0 := by omega
    have hl1 : -n < i.tmod n := by omega
    clear hm0 hm1 ht
    by_cases hs : i.tmod n < 0
    · go_enter Try.func11, Try.ntmps11
      go_wp2
      go_ret
      exact SomeNat.mk (by omega) (by omega) rfl
    · go_enter Try.func11, Try.ntmps11
      go_wp2
      go_ret
      exact SomeNat.mk (by omega) (by omega) rfl

end Go.Proofs.Ytenccpccpjjkmaa

namespace Go.Proofs.Ytenccpccpjjkmaa
open Go.RowKit Go.Shelf Go.Sort Go.Maps CrewP
set_option linter.unusedVariables false
set_option linter.unusedSimpArgs false

theorem bring_s (i n : Int) (w : World) (h : 0 < n) (hn : n ≤ 9223372036854775807) (hi : Wf i) : Calls Try.prog 11 #[.int .i64 i, .int .i64 n] w (SomeNat n w) :=
  bring_any i n w h hn (bounds_i64 hi).1 (bounds_i64 hi).2

/-- The mark of a small number, and the byte b. -/
def mkI (s : Int) (b : UInt8) : Mk := if h : 0 ≤ s ∧ s ≤ 100 then mkOf s b (wf_small h.1 h.2) else mk0
theorem mkI_of {s : Int} (h0 : 0 ≤ s) (h1 : s ≤ 100) (b : UInt8) (hs : Wf s) : mkI s b = mkOf s b hs := by unfold mkI; rw [dif_pos ⟨h0, h1⟩]
theorem mkI_any {s : Int} (h0 : 0 ≤ s) (h1 : s ≤ 100) (b : UInt8) (w : World) : Calls Try.prog 19 #[.int .i64 s, .int .u8 (b.toNat : Int)] w fun e w' => e = .returned (.agg (mkC (mkI s b)).toArray) ∧ Below w.heap.size w w' := by
  rw [mkI_of h0 h1 b (wf_small h0 h1)]
  exact mark_any s b _ w
def b4 : Ms := voteS (voteS (voteS (fr 1) 1 (mkI 1 0)) 2 (mkI 1 0)) 4 (mkI 1 0)
def lF (i : Nat) : List Mk := ((List.range i).drop (i - 4)).map fun k => mkI (((k : Nat) : Int) + 1) 0
def sF (i : Nat) : Ms := b4.set 3 (lF i)
theorem fo_1 : voteE (fr 1) 1 (mkI 1 0) = 0 := by decide +kernel
theorem fo_2 : voteE (voteS (fr 1) 1 (mkI 1 0)) 2 (mkI 1 0) = 0 := by decide +kernel
theorem fo_3 : voteE (voteS (voteS (fr 1) 1 (mkI 1 0)) 2 (mkI 1 0)) 4 (mkI 1 0) = 0 := by decide +kernel
theorem set_set (m : Ms) (n : Int) (l l' : List Mk) : (m.set n l).set n l' = m.set n l' := by
  unfold Ms.set
  congr 1
  funext k
  dsimp only
  split <;> rfl
theorem set_same (m : Ms) (n : Int) : m.set n (m.told n) = m := by
  unfold Ms.set
  have : (fun k => if k = n then m.told n else m.told k) = m.told := by
    funext k
    split
    · rename_i h; rw [h]
    · rfl
  rw [this]
theorem fo_0 : sF 0 = b4 := by
  have h : lF 0 = b4.told 3 := by decide +kernel
  unfold sF
  rw [h]
  exact set_same b4 3
set_option maxRecDepth 100000 in
theorem fo_e : ∀ i : Nat, i < 41 → voteE (sF i) 3 (mkI ((i : Int) + 1) 0) = 0 := by decide +kernel
set_option maxRecDepth 100000 in
theorem fo_n : ∀ i : Nat, i < 41 → findM (lF i) (mkI ((i : Int) + 1) 0).s = none := by decide +kernel
set_option maxRecDepth 100000 in
theorem fo_l : ∀ i : Nat, i < 41 → cutM (insM (lF i) (mkI ((i : Int) + 1) 0)) = lF (i + 1) := by decide +kernel
theorem fo_s {i : Nat} (hi : i < 41) : voteS (sF i) 3 (mkI ((i : Int) + 1) 0) = sF (i + 1) := by
  have ht : (sF i).told 3 = lF i := by unfold sF Ms.set; simp
  unfold voteS
  rw [if_pos ⟨fo_e i hi, by rw [ht]; exact fo_n i hi⟩, ht, fo_l i hi]
  exact set_set b4 3 _ _
set_option maxRecDepth 100000 in
theorem fo_g : ∀ i : Nat, i < 41 → greatS (sF i) (2 * (sF i).f + 1) = some (mkI 1 0) := by decide +kernel
theorem fo_t (i : Nat) : (sF i).told 3 = lF i := by unfold sF Ms.set; simp
theorem lF_len (i : Nat) : (lF i).length = if i ≤ 4 then i else 4 := by
  unfold lF
  rw [List.length_map, List.length_drop, List.length_range]
  split <;> omega
set_option maxRecDepth 100000 in
theorem lF_last : ∀ i : Nat, i < 41 → 0 < i → (lF i)[(lF i).length - 1]? = some (mkI (i : Int) 0) := by decide +kernel
end Go.Proofs.Ytenccpccpjjkmaa

namespace Go.Proofs.Ytenccpccpjjkmaa
open Go.ChangeShapes Go.WideShapes Go.ChangeAt Go.RowKit
set_option linter.unusedVariables false

structure WdL where
  nd : Int
  sq : Int
  b : UInt8
/-- The word 'x' stands at 'b, o'. -/
def WdAt (w : World) (b o : Nat) (x : WdL) : Prop := Wf x.nd ∧ Wf x.sq ∧ w.cell? ⟨b, o, none⟩ = some (.int .i64 x.nd) ∧ w.cell? ⟨b, o + 1, none⟩ = some (.int .i64 x.sq) ∧ w.cell? ⟨b, o + 2, none⟩ = some (.int .u8 (x.b.toNat : Int))
def Wds (w : World) (A : Option Addr) (l : List WdL) : Prop := l ≠ [] → ∃ b off, A = some ⟨b, off, none⟩ ∧ b < w.heap.size ∧ ∀ j (hj : j < l.length), WdAt w b (off + j * 3) l[j]
theorem WdAt.after {w w' : World} {b o : Nat} {x : WdL} (h : WdAt w b o x) (hb : Below w.heap.size w w') (hlt : b < w.heap.size) : WdAt w' b o x := by
  obtain ⟨h0, h0', h1, h2, h3⟩ := h
  exact ⟨h0, h0', (hb.cell hlt).trans h1, (hb.cell hlt).trans h2, (hb.cell hlt).trans h3⟩
def ArgWd (w : World) (A : Option Addr) (n c : Nat) (l : List WdL) : Prop := l.length = n ∧ n ≤ c ∧ c ≤ maxLen ∧ Wds w A l
theorem ArgWd.after {w w' : World} {A : Option Addr} {n c : Nat} {l : List WdL} (h : ArgWd w A n c l) (hb : Below w.heap.size w w') : ArgWd w' A n c l :=
  ⟨h.1, h.2.1, h.2.2.1, fun hn => let ⟨b, off, e, hlt, hd⟩ := h.2.2.2 hn; ⟨b, off, e, Nat.lt_of_lt_of_le hlt hb.size, fun j hj => (hd j hj).after hb hlt⟩⟩
theorem ArgWd.at_ {w : World} {A : Option Addr} {n c : Nat} {l : List WdL} (h : ArgWd w A n c l) {j : Nat} (hj : j < l.length) : ∃ b off, A = some ⟨b, off, none⟩ ∧ b < w.heap.size ∧ WdAt w b (off + j * 3) l[j] := by
  obtain ⟨b, off, e, hlt, hd⟩ := h.2.2.2 (fun e => by rw [e] at hj; simp at hj)
  exact ⟨b, off, e, hlt, hd j hj⟩
theorem choose_list {α : Type} {P : Nat → α → Prop} : ∀ n, (∀ r, r < n → ∃ l, P r l) → ∃ ls : List α, ls.length = n ∧ ∀ j (hj : j < ls.length), P j ls[j]
  | 0, _ => ⟨[], rfl, fun j hj => by simp at hj⟩
  | n + 1, h => by
    obtain ⟨ls, hl, hls⟩ := choose_list n (fun r hr => h r (by omega))
    obtain ⟨l, hl'⟩ := h n (by omega)
    refine ⟨ls ++ [l], by simp [hl], fun j hj => ?_⟩
    by_cases hjn : j < ls.length
    · rw [List.getElem_append_left hjn]; exact hls j hjn
    · have : j = n := by simp at hj; omega
      subst this
      rw [List.getElem_append_right (by omega)]
      simpa [hl] using hl'
theorem one_of {cs : List Value} {i : Nat} {v : Value} (h : (cs.drop i).take 1 = [v]) : cs[i]? = some v := by
  have : ((cs.drop i).take 1)[0]? = some v := by rw [h]; rfl
  rw [List.getElem?_take, if_pos (by omega), List.getElem?_drop] at this
  simpa using this

section
variable {H : Type} {enc : TypeId × Value → H} {w : World}
theorem trod_word {fuel : Nat} {cs : List Value} {x : DataW H × List MemPlace} (h : DataW.trod enc Try.prog w 0 (fun _ => true) true fuel 48 cs = some x) :
    ∃ d : WdL, Wf d.nd ∧ Wf d.sq ∧ cs[0]? = some (.int .i64 d.nd) ∧ cs[1]? = some (.int .i64 d.sq) ∧ cs[2]? = some (.int .u8 (d.b.toNat : Int)) := by
  obtain ⟨xs, n, _, _, _, hlen, hg⟩ := DataW.trod_struct Try.underlying48 h
  have c1 : Try.prog.cellsOf 3 = 1 := by kernel_rfl
  have c2 : Try.prog.cellsOf 5 = 1 := by kernel_rfl
  have g0 : DataW.trod enc Try.prog w 0 (fun _ => true) true n 3 ((cs.drop 0).take (Try.prog.cellsOf 3)) = xs[0]? := hg 0 _ rfl
  have g1 : DataW.trod enc Try.prog w 0 (fun _ => true) true n 3 ((cs.drop 1).take (Try.prog.cellsOf 3)) = xs[1]? := hg 1 _ rfl
  have g2 : DataW.trod enc Try.prog w 0 (fun _ => true) true n 5 ((cs.drop 2).take (Try.prog.cellsOf 5)) = xs[2]? := hg 2 _ rfl
  rw [c1] at g0
  rw [c1] at g1
  rw [c2] at g2
  have hl7 : xs.length = 3 := hlen
  have e : ∀ i, i < 3 → ∃ y, xs[i]? = some y := fun i hi => ⟨_, List.getElem?_eq_getElem (by omega)⟩
  obtain ⟨y0, e0⟩ := e 0 (by omega)
  obtain ⟨y1, e1⟩ := e 1 (by omega)
  obtain ⟨y2, e2⟩ := e 2 (by omega)
  rw [e0] at g0; rw [e1] at g1; rw [e2] at g2
  obtain ⟨a0, q0, _, w0⟩ := DataW.trod_int Try.underlying3 g0
  obtain ⟨a1, q1, _, w1⟩ := DataW.trod_int Try.underlying3 g1
  obtain ⟨a2, q2, _, w2⟩ := DataW.trod_int Try.underlying5 g2
  refine ⟨⟨a0, a1, UInt8.ofNat a2.toNat⟩, w0, w1, one_of q0, one_of q1, ?_⟩
  rw [one_of q2]
  show some (Value.int .u8 a2) = some (Value.int .u8 (((UInt8.ofNat a2.toNat).toNat : Nat) : Int))
  rw [← wf_u8 w2]

theorem openWd {A : Option Addr} {n c : Nat} {d : DataW H} {p : List MemPlace} (h : DataW.Trod enc Try.prog w 0 (fun _ => true) true 45 (.slice A n c) d p) : ∃ l, ArgWd w A n c l := by
  obtain ⟨fuel, hf⟩ := h
  have hC : Try.prog.cellsOf 48 = 3 := by kernel_rfl
  rcases Go.Deep.open_slice Try.underlying45 hf with ⟨hcs, _⟩ | ⟨a, len, cap, m, k, D, Pl, hcs, _, hl, hm, hmm, _, hi⟩
  · simp [Value.cells] at hcs
    obtain ⟨rfl, rfl, rfl⟩ := hcs
    exact ⟨[], rfl, Nat.le_refl _, by simp [maxLen], fun hn => absurd rfl hn⟩
  · simp [Value.cells] at hcs
    obtain ⟨rfl, rfl, rfl⟩ := hcs
    rw [hC] at hi
    have hm' : n ≤ m := by rw [hmm]; simp; omega
    rcases Nat.eq_zero_or_pos n with h0 | hpos
    · subst h0
      exact ⟨[], rfl, hl, hm, fun hn => absurd rfl hn⟩
    have hs : a.spot = none := by
      obtain ⟨cs', hc, ht⟩ := hi 0 (by omega)
      obtain ⟨x, _, _, k0, _⟩ := trod_word ht
      obtain ⟨_, _, hat⟩ := World.cells?_some hc
      have h1 := hat 0 (by omega)
      rw [k0] at h1
      have e : a.add (0 * 3) = a := by unfold Addr.add; simp
      rw [e] at h1
      exact spot_of h1
    obtain ⟨b, off, spot⟩ := a
    simp only at hs
    subst hs
    have key : ∀ r, r < n → ∃ x : WdL, WdAt w b (off + r * 3) x := fun r hr => by
      obtain ⟨cs', hc, ht⟩ := hi r (by omega)
      obtain ⟨x, h0, h0', k0, k1, k2⟩ := trod_word ht
      obtain ⟨_, _, hat⟩ := World.cells?_some hc
      have hat' : ∀ j, j < 3 → w.cell? ⟨b, off + r * 3 + j, none⟩ = cs'[j]? := fun j hj => by
        have := hat j hj
        rw [add_mk, add_mk] at this
        exact this
      exact ⟨x, h0, h0', (hat' 0 (by omega)).trans k0, (hat' 1 (by omega)).trans k1, (hat' 2 (by omega)).trans k2⟩
    obtain ⟨ls, hlen, hls⟩ := choose_list n key
    refine ⟨ls, hlen, hl, hm, fun hne => ⟨b, off, rfl, ?_, fun j hj => hls j hj⟩⟩
    have h0 := hls 0 (by omega)
    exact World.block_lt_of_cell? w _ h0.2.2.1
end
end Go.Proofs.Ytenccpccpjjkmaa
