/-
  For all words l (60 at most are looked at) and all numbers seq: behind Raise nothing at or below it is told, and all above is as it was; MarksRaised returns true; no condition.
-/
import Derived.Test.YtenccpccpjjkmaaZ01
import Derived.Test.YtenccpccpjjkmaaZ13
namespace Go.Proofs.Ytenccpccpjjkmaa.marksRaised
open Go.ChangeShapes Go.WideShapes Go.ChangeAt Go.RowKit Go.Maps Go.Shelf Go.Sort CrewP
set_option linter.unusedVariables false

set_option linter.unusedSimpArgs false
/-- What Vote says, and the marks behind it. -/
def VoR (wB : World) (g : Nat) (m : Ms) (E : Int) (v : Value) (w : World) : Prop := v = .int .i64 E ∧ Aw wB w g m []
theorem VoR.below {wB w w' : World} {g : Nat} {m : Ms} {E : Int} {v : Value} (h : VoR wB g m E v w) (hb : Below w.heap.size w w') : VoR wB g m E v w' := ⟨h.1, h.2.below hb⟩
def wvR (wB : World) (g bl off oo nl cl : Nat) (iv nd sq n1 n2 q1 q2 E : Int) (b c : UInt8) (m m2 : Ms) (X : List Value) : Nat → Value → World → Prop
  | 0 => fun v w => v = .pointer (some ⟨g, 0, none⟩)
  | 1 => fun v w => v = .slice (some ⟨bl, off, none⟩) nl cl
  | 2 => fun v w => v = .int .i64 iv
  | 3 => fun v w => v = .pointer (some ⟨bl, oo, none⟩)
  | 4 => fun v w => v = .pointer (some ⟨bl, oo, none⟩)
  | 5 => fun v w => v = .int .i64 nd
  | 6 => fun v w => v = .int .i64 n1
  | 7 => fun v w => v = .int .i64 n2
  | 8 => fun v w => v = .slice (some ⟨bl, off, none⟩) nl cl
  | 9 => fun v w => v = .int .i64 iv
  | 10 => fun v w => v = .pointer (some ⟨bl, oo, none⟩)
  | 11 => fun v w => v = .pointer (some ⟨bl, oo + 1, none⟩)
  | 12 => fun v w => v = .int .i64 sq
  | 13 => fun v w => v = .int .i64 q1
  | 14 => fun v w => v = .int .i64 q2
  | 15 => fun v w => v = .slice (some ⟨bl, off, none⟩) nl cl
  | 16 => fun v w => v = .int .i64 iv
  | 17 => fun v w => v = .pointer (some ⟨bl, oo, none⟩)
  | 18 => fun v w => v = .pointer (some ⟨bl, oo + 2, none⟩)
  | 19 => fun v w => v = .int .u8 (b.toNat : Int)
  | 20 => fun v w => v = .int .u8 (c.toNat : Int)
  | 21 => fun v w => v = .agg X.toArray
  | 22 => fun v w => VoR wB g m2 E v w
  | 23 => fun v w => Aw wB w g m []
  | _ => fun _ _ => True
def wvD (i : Nat) : Nat := ([26, 27, 28, 29, 30, 31, 32, 33, 34, 35, 36, 37, 38, 39, 40, 41, 42, 43, 44, 45, 46, 47, 48, 5] : List Nat).getD i 0
def wvK (i j : Nat) : Bool := ([(22, 23)] : List (Nat × Nat)).contains (i, j)
theorem wv_on (wB : World) (g bl off oo nl cl : Nat) (iv nd sq n1 n2 q1 q2 E : Int) (b c : UInt8) (m m2 : Ms) (X : List Value) : ∀ i v w w', wvR wB g bl off oo nl cl iv nd sq n1 n2 q1 q2 E b c m m2 X i v w → Below w.heap.size w w' → wvR wB g bl off oo nl cl iv nd sq n1 n2 q1 q2 E b c m m2 X i v w'
  | 0, v, w, w', h, _ => h
  | 1, v, w, w', h, _ => h
  | 2, v, w, w', h, _ => h
  | 3, v, w, w', h, _ => h
  | 4, v, w, w', h, _ => h
  | 5, v, w, w', h, _ => h
  | 6, v, w, w', h, _ => h
  | 7, v, w, w', h, _ => h
  | 8, v, w, w', h, _ => h
  | 9, v, w, w', h, _ => h
  | 10, v, w, w', h, _ => h
  | 11, v, w, w', h, _ => h
  | 12, v, w, w', h, _ => h
  | 13, v, w, w', h, _ => h
  | 14, v, w, w', h, _ => h
  | 15, v, w, w', h, _ => h
  | 16, v, w, w', h, _ => h
  | 17, v, w, w', h, _ => h
  | 18, v, w, w', h, _ => h
  | 19, v, w, w', h, _ => h
  | 20, v, w, w', h, _ => h
  | 21, v, w, w', h, _ => h
  | 22, v, w, w', h, hb => VoR.below h hb
  | 23, v, w, w', h, hb => Aw.below h hb
  | i + 24, v, w, w', h, hb => trivial
theorem wv_keep22 (wB : World) (g bl off oo nl cl : Nat) (iv nd sq n1 n2 q1 q2 E : Int) (b c : UInt8) (m m2 : Ms) (X : List Value) {w w' : World} : ∀ j u, j ≠ 22 → wvK 22 j = false → wvR wB g bl off oo nl cl iv nd sq n1 n2 q1 q2 E b c m m2 X j u w → wvR wB g bl off oo nl cl iv nd sq n1 n2 q1 q2 E b c m m2 X j u w'
  | 0, u, e, _, h => h
  | 1, u, e, _, h => h
  | 2, u, e, _, h => h
  | 3, u, e, _, h => h
  | 4, u, e, _, h => h
  | 5, u, e, _, h => h
  | 6, u, e, _, h => h
  | 7, u, e, _, h => h
  | 8, u, e, _, h => h
  | 9, u, e, _, h => h
  | 10, u, e, _, h => h
  | 11, u, e, _, h => h
  | 12, u, e, _, h => h
  | 13, u, e, _, h => h
  | 14, u, e, _, h => h
  | 15, u, e, _, h => h
  | 16, u, e, _, h => h
  | 17, u, e, _, h => h
  | 18, u, e, _, h => h
  | 19, u, e, _, h => h
  | 20, u, e, _, h => h
  | 21, u, e, _, h => h
  | 22, u, e, _, h => absurd rfl e
  | 23, u, e, hk, h => absurd hk (by decide)
  | j + 24, u, e, _, h => trivial
def wvX (wB : World) (g bl off oo nl cl : Nat) (iv nd sq n1 n2 q1 q2 E : Int) (b c : UInt8) (m m2 : Ms) (X : List Value) (w : World) : Prop := True
def wvOps : List Op := [.move (.tmp 5),
  .move (.tmp 0),
  .move (.tmp 6),
  .indexAddr 45 (.tmp 27) (.tmp 28),
  .fieldAddr 48 (.tmp 29) 0,
  .load 3 (.tmp 30),
  .call { callee := .value (.func 11), args := #[.tmp 31, .const (.int .i64 4)], argTypes := #[3, 3] },
  .binOp .add 3 (.const (.int .i64 1)) (.tmp 32) 3,
  .move (.tmp 0),
  .move (.tmp 6),
  .indexAddr 45 (.tmp 34) (.tmp 35),
  .fieldAddr 48 (.tmp 36) 1,
  .load 3 (.tmp 37),
  .call { callee := .value (.func 11), args := #[.tmp 38, .const (.int .i64 6)], argTypes := #[3, 3] },
  .binOp .add 3 (.const (.int .i64 1)) (.tmp 39) 3,
  .move (.tmp 0),
  .move (.tmp 6),
  .indexAddr 45 (.tmp 41) (.tmp 42),
  .fieldAddr 48 (.tmp 43) 2,
  .load 5 (.tmp 44),
  .binOp .and 5 (.tmp 45) (.const (.int .u8 1)) 5,
  .call { callee := .value (.func 19), args := #[.tmp 40, .tmp 46], argTypes := #[3, 5] },
  .call { callee := .value (.func 12), args := #[.tmp 26, .tmp 33, .tmp 47], argTypes := #[30, 3, 28] }]
def wvNeeds : Nat → List Nat
  | 0 => []
  | 1 => []
  | 2 => []
  | 3 => [1, 2]
  | 4 => [3]
  | 5 => [4]
  | 6 => [5]
  | 7 => [6]
  | 8 => []
  | 9 => []
  | 10 => [8, 9]
  | 11 => [10]
  | 12 => [11]
  | 13 => [12]
  | 14 => [13]
  | 15 => []
  | 16 => []
  | 17 => [15, 16]
  | 18 => [17]
  | 19 => [18]
  | 20 => [19]
  | 21 => [14, 20]
  | 22 => [0, 7, 21, 23]
  | _ => []
set_option maxRecDepth 100000 in
set_option maxHeartbeats 3200000 in
theorem wv_step {ops : Array Oper} {Q : Exit → Act → World → Prop} {a0 : Act} (wB : World) (g bl off oo nl cl : Nat) (iv nd sq n1 n2 q1 q2 E : Int) (b c : UInt8) (m m2 : Ms) (X : List Value) (hops : ((List.range 23).map fun i => (ops[i]?).map Oper.op) = wvOps.map some)
    (hdsl : ((List.range 23).map fun i => (ops[i]?).map Oper.dst) = ([some 26, some 27, some 28, some 29, some 30, some 31, some 32, some 33, some 34, some 35, some 36, some 37, some 38, some 39, some 40, some 41, some 42, some 43, some 44, some 45, some 46, some 47, some 48] : List (Option Tmp)).map some)
    (hnd : ((List.range 23).all fun i => (wvNeeds i).all fun j => (((ops[i]?).map fun o => (o.after.any fun e => Region.binds .any e && (e.on == j)) || (decide (23 ≤ j) && decide (j < 23 + 1))).getD false) && ((List.range 23).all fun q => !(wvK q j) || (q == i) || ((ops[q]?).map fun o => o.after.any fun e => Region.binds .any e && (e.on == i)).getD false)) = true)
     (x0 : a0.tmps[0]? = some (.slice (some ⟨bl, off, none⟩) nl cl)) (x5 : a0.tmps[5]? = some (.pointer (some ⟨g, 0, none⟩))) (x6 : a0.tmps[6]? = some (.int .i64 iv))
    (hix : ∀ w, (Instr.indexAt 45 (.slice (some ⟨bl, off, none⟩) nl cl) (.int .i64 iv)).run Try.prog w = .ok (.pointer (some ⟨bl, oo, none⟩)) w) (hlt : bl < wB.heap.size)
    (c0 : wB.cell? ⟨bl, oo, none⟩ = some (.int .i64 nd)) (c1 : wB.cell? ⟨bl, oo + 1, none⟩ = some (.int .i64 sq)) (c2 : wB.cell? ⟨bl, oo + 2, none⟩ = some (.int .u8 (b.toNat : Int)))
    (hB1 : ∀ w, Calls Try.prog 11 #[.int .i64 nd, .int .i64 4] w fun e w' => e = .returned (.int .i64 n1) ∧ w' = w) (hB2 : ∀ w, Calls Try.prog 11 #[.int .i64 sq, .int .i64 6] w fun e w' => e = .returned (.int .i64 q1) ∧ w' = w)
    (hn2 : IntKind.i64.wrap (1 + n1) = n2) (hq2 : IntKind.i64.wrap (1 + q1) = q2) (hc : bits BinOp.and IntKind.u8 (b.toNat : Int) 1 = (c.toNat : Int))
    (hM : ∀ w, Calls Try.prog 19 #[.int .i64 q2, .int .u8 (c.toNat : Int)] w fun e w' => e = .returned (.agg X.toArray) ∧ Below w.heap.size w w')
    (hV : ∀ W, Aw wB W g m [] → Calls Try.prog 12 #[.pointer (some ⟨g, 0, none⟩), .int .i64 n2, .agg X.toArray] W fun e w' => e = .returned (.int .i64 E) ∧ Aw wB w' g m2 []) :
    ∀ i o, i < 23 → ops[i]? = some o → o.guard = none → (o.dst = some (wvD i) ∨ o.dst = none) → ∀ a w, Base wvD 23 a0 a → (Below wB.heap.size wB w ∧ wvX wB g bl off oo nl cl iv nd sq n1 n2 q1 q2 E b c m m2 X w) →
      (∀ j, ((o.after.any fun e => Region.binds .any e && (e.on == j)) || (decide (23 ≤ j) && decide (j < 23 + 1))) = true → ((List.range 23).all fun q => !(wvK q j) || (q == i) || ((ops[q]?).map fun o => o.after.any fun e => Region.binds .any e && (e.on == i)).getD false) = true → Has wvD (wvR wB g bl off oo nl cl iv nd sq n1 n2 q1 q2 E b c m m2 X) j a w) →
      ∀ K : Act → World → Prop, (∀ v w', (Below wB.heap.size wB w' ∧ wvX wB g bl off oo nl cl iv nd sq n1 n2 q1 q2 E b c m m2 X w') → (o.dst = some (wvD i) → wvR wB g bl off oo nl cl iv nd sq n1 n2 q1 q2 E b c m m2 X i v w') → (o.dst = none → ∃ u, a.tmps[wvD i]? = some u ∧ wvR wB g bl off oo nl cl iv nd sq n1 n2 q1 q2 E b c m m2 X i u w') → (∀ j u, j ≠ i → wvK i j = false → ((ops[j]?).map fun o => o.after.any fun e => Region.binds .any e && (e.on == i)).getD false = false → wvR wB g bl off oo nl cl iv nd sq n1 n2 q1 q2 E b c m m2 X j u w → wvR wB g bl off oo nl cl iv nd sq n1 n2 q1 q2 E b c m m2 X j u w') → K (a.put o.dst v) w') → wpOp Try.prog ops Q i K a w := by
  intro i o hi ho hgd hdst a w hbase hI hdep0 K hK5
  obtain ⟨hbl, hX⟩ := hI
  have hwt : Region.wanted o (yielded ops a.tmps) = true := by unfold Region.wanted; rw [hgd]
  have hop : some o.op = wvOps[i]? := by
    have h1 : ((List.range 23).map fun i => (ops[i]?).map Oper.op)[i]? = some (some o.op) := by
      rw [List.getElem?_map, List.getElem?_range hi]; simp only [Option.map_some, ho]
    rw [hops, List.getElem?_map] at h1
    cases h2 : wvOps[i]? with
    | none => rw [h2] at h1; cases h1
    | some y => rw [h2] at h1; simp only [Option.map_some, Option.some.injEq] at h1; rw [h1]
  have hds : some o.dst = ([some 26, some 27, some 28, some 29, some 30, some 31, some 32, some 33, some 34, some 35, some 36, some 37, some 38, some 39, some 40, some 41, some 42, some 43, some 44, some 45, some 46, some 47, some 48] : List (Option Tmp))[i]? := by
    have h1 : ((List.range 23).map fun i => (ops[i]?).map Oper.dst)[i]? = some (some o.dst) := by
      rw [List.getElem?_map, List.getElem?_range hi]; simp only [Option.map_some, ho]
    rw [hdsl, List.getElem?_map] at h1
    cases h2 : ([some 26, some 27, some 28, some 29, some 30, some 31, some 32, some 33, some 34, some 35, some 36, some 37, some 38, some 39, some 40, some 41, some 42, some 43, some 44, some 45, some 46, some 47, some 48] : List (Option Tmp))[i]? with
    | none => rw [h2] at h1; cases h1
    | some y => rw [h2] at h1; simp only [Option.map_some, Option.some.injEq] at h1; rw [h1]
  have hdep : ∀ j, j ∈ wvNeeds i → Has wvD (wvR wB g bl off oo nl cl iv nd sq n1 n2 q1 q2 E b c m m2 X) j a w := fun j hj => by
    have h1 := List.all_eq_true.1 (List.all_eq_true.1 hnd i (List.mem_range.2 hi)) j hj
    rw [ho, Bool.and_eq_true] at h1
    exact hdep0 j h1.1 h1.2
  have hK : o.dst = some (wvD i) → ∀ v w', wvR wB g bl off oo nl cl iv nd sq n1 n2 q1 q2 E b c m m2 X i v w' → Below w.heap.size w w' → K (a.put o.dst v) w' := fun e v w' h1 h2 => hK5 v w' ⟨hbl.trans (h2.mono hbl.size), trivial⟩ (fun _ => h1) (fun e' => by rw [e] at e'; cases e') (fun j u _ _ _ hj => wv_on wB g bl off oo nl cl iv nd sq n1 n2 q1 q2 E b c m m2 X j u w w' hj h2)
  clear hdep0 hops hnd hdsl hdst
  match i, hi, ho, hop, hds, hdep, hK, hK5 with
  | 0, _, ho, hop, hds, hdep, hK, hK5 =>
    have hop : o.op = .move (.tmp 5) := Option.some.inj hop
    have hu5 : a.tmps[5]? = some (.pointer (some ⟨g, 0, none⟩)) := (hbase.2.2 5 (by decide)).trans x5
    have e5 : a.eval (.tmp 5) = _ := ev_tmp hu5
    have hK := hK (Option.some.inj hds)
    refine st3 ho hwt (v := _) (w' := w) ?_ (hK _ w rfl (Below.refl _ _))
    unfold execOp
    rw [hop, ← e5]
    rfl
  | 1, _, ho, hop, hds, hdep, hK, hK5 =>
    have hop : o.op = .move (.tmp 0) := Option.some.inj hop
    have hu0 : a.tmps[0]? = some (.slice (some ⟨bl, off, none⟩) nl cl) := (hbase.2.2 0 (by decide)).trans x0
    have e0 : a.eval (.tmp 0) = _ := ev_tmp hu0
    have hK := hK (Option.some.inj hds)
    refine st3 ho hwt (v := _) (w' := w) ?_ (hK _ w rfl (Below.refl _ _))
    unfold execOp
    rw [hop, ← e0]
    rfl
  | 2, _, ho, hop, hds, hdep, hK, hK5 =>
    have hop : o.op = .move (.tmp 6) := Option.some.inj hop
    have hu6 : a.tmps[6]? = some (.int .i64 iv) := (hbase.2.2 6 (by decide)).trans x6
    have e6 : a.eval (.tmp 6) = _ := ev_tmp hu6
    have hK := hK (Option.some.inj hds)
    refine st3 ho hwt (v := _) (w' := w) ?_ (hK _ w rfl (Below.refl _ _))
    unfold execOp
    rw [hop, ← e6]
    rfl
  | 3, _, ho, hop, hds, hdep, hK, hK5 =>
    have hop : o.op = .indexAddr 45 (.tmp 27) (.tmp 28) := Option.some.inj hop
    obtain ⟨u27, hu27, hv27⟩ := hdep 1 (by decide)
    have hv27' : u27 = .slice (some ⟨bl, off, none⟩) nl cl := hv27
    subst hv27'
    have e27 : a.eval (.tmp 27) = _ := ev_tmp hu27
    obtain ⟨u28, hu28, hv28⟩ := hdep 2 (by decide)
    have hv28' : u28 = .int .i64 iv := hv28
    subst hv28'
    have e28 : a.eval (.tmp 28) = _ := ev_tmp hu28
    have hK := hK (Option.some.inj hds)
    refine st3 ho hwt (v := .pointer (some ⟨bl, oo, none⟩)) (w' := w) ?_ (hK _ w rfl (Below.refl _ _))
    have hq := hix w
    unfold execOp
    simp only [hop, e27, e28, Sem.run_bind, hq, Result.andThen_ok]
    rfl
  | 4, _, ho, hop, hds, hdep, hK, hK5 =>
    have hop : o.op = .fieldAddr 48 (.tmp 29) 0 := Option.some.inj hop
    obtain ⟨u29, hu29, hv29⟩ := hdep 3 (by decide)
    have hv29' : u29 = .pointer (some ⟨bl, oo, none⟩) := hv29
    subst hv29'
    have e29 : a.eval (.tmp 29) = _ := ev_tmp hu29
    have hK := hK (Option.some.inj hds)
    refine st3 ho hwt (v := .pointer (some ⟨bl, oo, none⟩)) (w' := w) ?_ (hK _ w rfl (Below.refl _ _))
    unfold execOp
    simp only [hop, Option.map_some, Option.map_none, e29]
    first | rfl | (go_simp; done) | (go_simp; simp; done) | (go_simp; intro h; omega)
  | 5, _, ho, hop, hds, hdep, hK, hK5 =>
    have hop : o.op = .load 3 (.tmp 30) := Option.some.inj hop
    obtain ⟨u30, hu30, hv30⟩ := hdep 4 (by decide)
    have hv30' : u30 = .pointer (some ⟨bl, oo, none⟩) := hv30
    subst hv30'
    have e30 : a.eval (.tmp 30) = _ := ev_tmp hu30
    have hK := hK (Option.some.inj hds)
    have k0 : w.cell? ⟨bl, oo, none⟩ = some (.int .i64 nd) := (hbl.cell hlt).trans c0
    refine st3 ho hwt (v := .int .i64 nd) (w' := w) ?_ (hK _ w rfl (Below.refl _ _))
    unfold execOp
    simp only [hop, Option.map_some, Option.map_none, e30]
    first | rfl | (go_simp; done) | (go_simp; simp; done) | (go_simp; intro h; omega)
  | 6, _, ho, hop, hds, hdep, hK, hK5 =>
    have hop : o.op = .call { callee := .value (.func 11), args := #[.tmp 31, .const (.int .i64 4)], argTypes := #[3, 3] } := Option.some.inj hop
    obtain ⟨u31, hu31, hv31⟩ := hdep 5 (by decide)
    have hv31' : u31 = .int .i64 nd := hv31
    subst hv31'
    have e31 : a.eval (.tmp 31) = _ := ev_tmp hu31
    have hK := hK (Option.some.inj hds)
    refine st3_call ho hwt (f := 11) (vals := #[.int .i64 nd, .int .i64 4]) (Z := fun v w' => v = .int .i64 n1 ∧ Below w.heap.size w w') ?_ ?_ ?_
    · unfold execOp
      simp only [hop, e31, resolve, invoke, Sem.run_bind, Sem.run_pure, Result.andThen_ok, List.map_toArray, List.map_cons, List.map_nil]
      first | rfl | exact enters_of Try.func11 (by kernel_rfl) rfl _ _
    · exact (hB1 w).mono fun e w' ⟨he, hw⟩ => ⟨_, he, rfl, by subst hw; exact Below.refl _ _⟩
    · rintro v w' ⟨h1, h2⟩
      exact hK v w' h1 h2
  | 7, _, ho, hop, hds, hdep, hK, hK5 =>
    have hop : o.op = .binOp .add 3 (.const (.int .i64 1)) (.tmp 32) 3 := Option.some.inj hop
    obtain ⟨u32, hu32, hv32⟩ := hdep 6 (by decide)
    have hv32' : u32 = .int .i64 n1 := hv32
    subst hv32'
    have e32 : a.eval (.tmp 32) = _ := ev_tmp hu32
    have hK := hK (Option.some.inj hds)
    refine st3 ho hwt (v := .int .i64 n2) (w' := w) ?_ (hK _ w rfl (Below.refl _ _))
    have hq := hn2
    unfold execOp
    simp only [hop, Option.map_some, Option.map_none, e32]
    first | rfl | (go_simp; done) | (go_simp; simp; done) | (go_simp; intro h; omega)
  | 8, _, ho, hop, hds, hdep, hK, hK5 =>
    have hop : o.op = .move (.tmp 0) := Option.some.inj hop
    have hu0 : a.tmps[0]? = some (.slice (some ⟨bl, off, none⟩) nl cl) := (hbase.2.2 0 (by decide)).trans x0
    have e0 : a.eval (.tmp 0) = _ := ev_tmp hu0
    have hK := hK (Option.some.inj hds)
    refine st3 ho hwt (v := _) (w' := w) ?_ (hK _ w rfl (Below.refl _ _))
    unfold execOp
    rw [hop, ← e0]
    rfl
  | 9, _, ho, hop, hds, hdep, hK, hK5 =>
    have hop : o.op = .move (.tmp 6) := Option.some.inj hop
    have hu6 : a.tmps[6]? = some (.int .i64 iv) := (hbase.2.2 6 (by decide)).trans x6
    have e6 : a.eval (.tmp 6) = _ := ev_tmp hu6
    have hK := hK (Option.some.inj hds)
    refine st3 ho hwt (v := _) (w' := w) ?_ (hK _ w rfl (Below.refl _ _))
    unfold execOp
    rw [hop, ← e6]
    rfl
  | 10, _, ho, hop, hds, hdep, hK, hK5 =>
    have hop : o.op = .indexAddr 45 (.tmp 34) (.tmp 35) := Option.some.inj hop
    obtain ⟨u34, hu34, hv34⟩ := hdep 8 (by decide)
    have hv34' : u34 = .slice (some ⟨bl, off, none⟩) nl cl := hv34
    subst hv34'
    have e34 : a.eval (.tmp 34) = _ := ev_tmp hu34
    obtain ⟨u35, hu35, hv35⟩ := hdep 9 (by decide)
    have hv35' : u35 = .int .i64 iv := hv35
    subst hv35'
    have e35 : a.eval (.tmp 35) = _ := ev_tmp hu35
    have hK := hK (Option.some.inj hds)
    refine st3 ho hwt (v := .pointer (some ⟨bl, oo, none⟩)) (w' := w) ?_ (hK _ w rfl (Below.refl _ _))
    have hq := hix w
    unfold execOp
    simp only [hop, e34, e35, Sem.run_bind, hq, Result.andThen_ok]
    rfl
  | 11, _, ho, hop, hds, hdep, hK, hK5 =>
    have hop : o.op = .fieldAddr 48 (.tmp 36) 1 := Option.some.inj hop
    obtain ⟨u36, hu36, hv36⟩ := hdep 10 (by decide)
    have hv36' : u36 = .pointer (some ⟨bl, oo, none⟩) := hv36
    subst hv36'
    have e36 : a.eval (.tmp 36) = _ := ev_tmp hu36
    have hK := hK (Option.some.inj hds)
    refine st3 ho hwt (v := .pointer (some ⟨bl, oo + 1, none⟩)) (w' := w) ?_ (hK _ w rfl (Below.refl _ _))
    unfold execOp
    simp only [hop, Option.map_some, Option.map_none, e36]
    first | rfl | (go_simp; done) | (go_simp; simp; done) | (go_simp; intro h; omega)
  | 12, _, ho, hop, hds, hdep, hK, hK5 =>
    have hop : o.op = .load 3 (.tmp 37) := Option.some.inj hop
    obtain ⟨u37, hu37, hv37⟩ := hdep 11 (by decide)
    have hv37' : u37 = .pointer (some ⟨bl, oo + 1, none⟩) := hv37
    subst hv37'
    have e37 : a.eval (.tmp 37) = _ := ev_tmp hu37
    have hK := hK (Option.some.inj hds)
    have k0 : w.cell? ⟨bl, oo + 1, none⟩ = some (.int .i64 sq) := (hbl.cell hlt).trans c1
    refine st3 ho hwt (v := .int .i64 sq) (w' := w) ?_ (hK _ w rfl (Below.refl _ _))
    unfold execOp
    simp only [hop, Option.map_some, Option.map_none, e37]
    first | rfl | (go_simp; done) | (go_simp; simp; done) | (go_simp; intro h; omega)
  | 13, _, ho, hop, hds, hdep, hK, hK5 =>
    have hop : o.op = .call { callee := .value (.func 11), args := #[.tmp 38, .const (.int .i64 6)], argTypes := #[3, 3] } := Option.some.inj hop
    obtain ⟨u38, hu38, hv38⟩ := hdep 12 (by decide)
    have hv38' : u38 = .int .i64 sq := hv38
    subst hv38'
    have e38 : a.eval (.tmp 38) = _ := ev_tmp hu38
    have hK := hK (Option.some.inj hds)
    refine st3_call ho hwt (f := 11) (vals := #[.int .i64 sq, .int .i64 6]) (Z := fun v w' => v = .int .i64 q1 ∧ Below w.heap.size w w') ?_ ?_ ?_
    · unfold execOp
      simp only [hop, e38, resolve, invoke, Sem.run_bind, Sem.run_pure, Result.andThen_ok, List.map_toArray, List.map_cons, List.map_nil]
      first | rfl | exact enters_of Try.func11 (by kernel_rfl) rfl _ _
    · exact (hB2 w).mono fun e w' ⟨he, hw⟩ => ⟨_, he, rfl, by subst hw; exact Below.refl _ _⟩
    · rintro v w' ⟨h1, h2⟩
      exact hK v w' h1 h2
  | 14, _, ho, hop, hds, hdep, hK, hK5 =>
    have hop : o.op = .binOp .add 3 (.const (.int .i64 1)) (.tmp 39) 3 := Option.some.inj hop
    obtain ⟨u39, hu39, hv39⟩ := hdep 13 (by decide)
    have hv39' : u39 = .int .i64 q1 := hv39
    subst hv39'
    have e39 : a.eval (.tmp 39) = _ := ev_tmp hu39
    have hK := hK (Option.some.inj hds)
    refine st3 ho hwt (v := .int .i64 q2) (w' := w) ?_ (hK _ w rfl (Below.refl _ _))
    have hq := hq2
    unfold execOp
    simp only [hop, Option.map_some, Option.map_none, e39]
    first | rfl | (go_simp; done) | (go_simp; simp; done) | (go_simp; intro h; omega)
  | 15, _, ho, hop, hds, hdep, hK, hK5 =>
    have hop : o.op = .move (.tmp 0) := Option.some.inj hop
    have hu0 : a.tmps[0]? = some (.slice (some ⟨bl, off, none⟩) nl cl) := (hbase.2.2 0 (by decide)).trans x0
    have e0 : a.eval (.tmp 0) = _ := ev_tmp hu0
    have hK := hK (Option.some.inj hds)
    refine st3 ho hwt (v := _) (w' := w) ?_ (hK _ w rfl (Below.refl _ _))
    unfold execOp
    rw [hop, ← e0]
    rfl
  | 16, _, ho, hop, hds, hdep, hK, hK5 =>
    have hop : o.op = .move (.tmp 6) := Option.some.inj hop
    have hu6 : a.tmps[6]? = some (.int .i64 iv) := (hbase.2.2 6 (by decide)).trans x6
    have e6 : a.eval (.tmp 6) = _ := ev_tmp hu6
    have hK := hK (Option.some.inj hds)
    refine st3 ho hwt (v := _) (w' := w) ?_ (hK _ w rfl (Below.refl _ _))
    unfold execOp
    rw [hop, ← e6]
    rfl
  | 17, _, ho, hop, hds, hdep, hK, hK5 =>
    have hop : o.op = .indexAddr 45 (.tmp 41) (.tmp 42) := Option.some.inj hop
    obtain ⟨u41, hu41, hv41⟩ := hdep 15 (by decide)
    have hv41' : u41 = .slice (some ⟨bl, off, none⟩) nl cl := hv41
    subst hv41'
    have e41 : a.eval (.tmp 41) = _ := ev_tmp hu41
    obtain ⟨u42, hu42, hv42⟩ := hdep 16 (by decide)
    have hv42' : u42 = .int .i64 iv := hv42
    subst hv42'
    have e42 : a.eval (.tmp 42) = _ := ev_tmp hu42
    have hK := hK (Option.some.inj hds)
    refine st3 ho hwt (v := .pointer (some ⟨bl, oo, none⟩)) (w' := w) ?_ (hK _ w rfl (Below.refl _ _))
    have hq := hix w
    unfold execOp
    simp only [hop, e41, e42, Sem.run_bind, hq, Result.andThen_ok]
    rfl
  | 18, _, ho, hop, hds, hdep, hK, hK5 =>
    have hop : o.op = .fieldAddr 48 (.tmp 43) 2 := Option.some.inj hop
    obtain ⟨u43, hu43, hv43⟩ := hdep 17 (by decide)
    have hv43' : u43 = .pointer (some ⟨bl, oo, none⟩) := hv43
    subst hv43'
    have e43 : a.eval (.tmp 43) = _ := ev_tmp hu43
    have hK := hK (Option.some.inj hds)
    refine st3 ho hwt (v := .pointer (some ⟨bl, oo + 2, none⟩)) (w' := w) ?_ (hK _ w rfl (Below.refl _ _))
    unfold execOp
    simp only [hop, Option.map_some, Option.map_none, e43]
    first | rfl | (go_simp; done) | (go_simp; simp; done) | (go_simp; intro h; omega)
  | 19, _, ho, hop, hds, hdep, hK, hK5 =>
    have hop : o.op = .load 5 (.tmp 44) := Option.some.inj hop
    obtain ⟨u44, hu44, hv44⟩ := hdep 18 (by decide)
    have hv44' : u44 = .pointer (some ⟨bl, oo + 2, none⟩) := hv44
    subst hv44'
    have e44 : a.eval (.tmp 44) = _ := ev_tmp hu44
    have hK := hK (Option.some.inj hds)
    have k0 : w.cell? ⟨bl, oo + 2, none⟩ = some (.int .u8 (b.toNat : Int)) := (hbl.cell hlt).trans c2
    refine st3 ho hwt (v := .int .u8 (b.toNat : Int)) (w' := w) ?_ (hK _ w rfl (Below.refl _ _))
    unfold execOp
    simp only [hop, Option.map_some, Option.map_none, e44]
    first | rfl | (go_simp; done) | (go_simp; simp; done) | (go_simp; intro h; omega)
  | 20, _, ho, hop, hds, hdep, hK, hK5 =>
    have hop : o.op = .binOp .and 5 (.tmp 45) (.const (.int .u8 1)) 5 := Option.some.inj hop
    obtain ⟨u45, hu45, hv45⟩ := hdep 19 (by decide)
    have hv45' : u45 = .int .u8 (b.toNat : Int) := hv45
    subst hv45'
    have e45 : a.eval (.tmp 45) = _ := ev_tmp hu45
    have hK := hK (Option.some.inj hds)
    refine st3 ho hwt (v := .int .u8 (c.toNat : Int)) (w' := w) ?_ (hK _ w rfl (Below.refl _ _))
    have hq := hc
    unfold execOp
    simp only [hop, Option.map_some, Option.map_none, e45]
    first | rfl | (go_simp; done) | (go_simp; simp; done) | (go_simp; intro h; omega)
  | 21, _, ho, hop, hds, hdep, hK, hK5 =>
    have hop : o.op = .call { callee := .value (.func 19), args := #[.tmp 40, .tmp 46], argTypes := #[3, 5] } := Option.some.inj hop
    obtain ⟨u40, hu40, hv40⟩ := hdep 14 (by decide)
    have hv40' : u40 = .int .i64 q2 := hv40
    subst hv40'
    have e40 : a.eval (.tmp 40) = _ := ev_tmp hu40
    obtain ⟨u46, hu46, hv46⟩ := hdep 20 (by decide)
    have hv46' : u46 = .int .u8 (c.toNat : Int) := hv46
    subst hv46'
    have e46 : a.eval (.tmp 46) = _ := ev_tmp hu46
    have hK := hK (Option.some.inj hds)
    refine st3_call ho hwt (f := 19) (vals := #[.int .i64 q2, .int .u8 (c.toNat : Int)]) (Z := fun v w' => v = .agg X.toArray ∧ Below w.heap.size w w') ?_ ?_ ?_
    · unfold execOp
      simp only [hop, e40, e46, resolve, invoke, Sem.run_bind, Sem.run_pure, Result.andThen_ok, List.map_toArray, List.map_cons, List.map_nil]
      first | rfl | exact enters_of Try.func19 (by kernel_rfl) rfl _ _
    · exact (hM w).mono fun e w' ⟨he, h2⟩ => ⟨_, he, rfl, h2⟩
    · rintro v w' ⟨h1, h2⟩
      exact hK v w' h1 h2
  | 22, _, ho, hop, hds, hdep, hK, hK5 =>
    have hop : o.op = .call { callee := .value (.func 12), args := #[.tmp 26, .tmp 33, .tmp 47], argTypes := #[30, 3, 28] } := Option.some.inj hop
    obtain ⟨u26, hu26, hv26⟩ := hdep 0 (by decide)
    have hv26' : u26 = .pointer (some ⟨g, 0, none⟩) := hv26
    subst hv26'
    have e26 : a.eval (.tmp 26) = _ := ev_tmp hu26
    obtain ⟨u33, hu33, hv33⟩ := hdep 7 (by decide)
    have hv33' : u33 = .int .i64 n2 := hv33
    subst hv33'
    have e33 : a.eval (.tmp 33) = _ := ev_tmp hu33
    obtain ⟨u47, hu47, hv47⟩ := hdep 21 (by decide)
    have hv47' : u47 = .agg X.toArray := hv47
    subst hv47'
    have e47 : a.eval (.tmp 47) = _ := ev_tmp hu47
    have hK := hK (Option.some.inj hds)
    obtain ⟨uE, huE, hvE⟩ := hdep 23 (by decide)
    refine st3_call ho hwt (f := 12) (vals := #[.pointer (some ⟨g, 0, none⟩), .int .i64 n2, .agg X.toArray]) (Z := fun v w' => v = .int .i64 E ∧ Aw wB w' g m2 []) ?_ ?_ ?_
    · unfold execOp
      simp only [hop, e26, e33, e47, resolve, invoke, Sem.run_bind, Sem.run_pure, Result.andThen_ok, List.map_toArray, List.map_cons, List.map_nil]
      first | rfl | exact enters_of Try.func12 (by kernel_rfl) rfl _ _
    · exact (hV w hvE).mono fun e w' ⟨he, h2⟩ => ⟨_, he, rfl, h2⟩
    · rintro v w' ⟨h1, h2⟩
      exact hK5 v w' ⟨h2.bel, trivial⟩ (fun _ => ⟨h1, h2⟩) (fun e => by rw [Option.some.inj hds] at e; cases e) (fun j u a1 a2 _ a4 => wv_keep22 wB g bl off oo nl cl iv nd sq n1 n2 q1 q2 E b c m m2 X j u a1 a2 a4)
  | i + 23, hi, _, _, _, _, _, _ => exact absurd hi (by omega)
set_option maxRecDepth 100000 in
set_option maxHeartbeats 64000000 in
theorem walk (Al : Option Addr) (nl cl : Nat) (l : List WdL) (seq : Int) (w : World) (hl : ArgWd w Al nl cl l) (hseq : (Lit.int .i64 seq).wf = true) :
    Calls Try.prog 6 #[.slice Al nl cl, .int .i64 seq] w fun e w' => e = .returned (.bool true) ∧ Below w.heap.size w w' := by
  have HB : Hid (∀ z, Wf z → ∀ n : Int, 0 < n → n ≤ 100 → ∀ W, Calls Try.prog 11 #[.int .i64 z, .int .i64 n] W fun e w' => e = .returned (.int .i64 (z % n)) ∧ w' = W) := Lib.hid fun z hz n h0 h1 W => bring_w z n W h0 (by omega) hz
  have HL := Lib.hid hl
  have hlen := hl.1
  have hnl : (nl : Int) ≤ 9223372036854775807 := by have := hl.2.1; have := hl.2.2.1; unfold maxLen at this; omega
  clear hl
  have HSq := Lib.hid hseq
  clear hseq
  have HF : Hid (∀ W, Calls Try.prog 18 #[.int .i64 1] W fun e w' => ∃ g, e = .returned (.pointer (some ⟨g, 0, none⟩)) ∧ MsAt w' (fun b => W.heap.size ≤ b ∧ b < w'.heap.size) g (fr 1) ∧ Below W.heap.size W w') := Lib.hid fun W => fresh_any 1 (by omega) (by omega) W
  go_enter Try.func6, Try.ntmps6
  go_wp2_with fail
  refine (HF.out _).mono ?_
  rintro e w1 ⟨g, rfl, hst, hb1⟩
  have H1 := Lib.hid (Aw.new (Below.refl _ _) hst hb1)
  clear hst hb1
  go_wp2
  go_loopw [6] (fun v6 wr => ∃ (i : Nat) (m : Ms), i ≤ nl ∧ i ≤ 60 ∧ v6 = .int .i64 (i : Int) ∧ RsI m ∧ Aw w wr g m []) (fun v _ => 100 - (intOf v).toNat)
  case atStart => exact ⟨0, fr 1, by omega, by omega, rfl, RsI.fresh, H1.out⟩
  case round =>
    obtain ⟨i, m, hi, hi80, rfl, hT, hA⟩ := hrel
    have HT := Lib.hid hT
    have HA := Lib.hid hA
    clear hT hA
    by_cases hc : i < nl ∧ i < 60
    · obtain ⟨hc1, hc2⟩ := hc
      have hd1 : (i : Int) < (nl : Int) := by omega
      have hd2 : (i : Int) < 60 := by omega
      obtain ⟨bl, ol, hAl, hbl0, hW⟩ := HL.out.at_ (j := i) (by omega)
      obtain ⟨k1, k2, c0, c1, c2⟩ := hW
      generalize l[i] = x at *
      subst hAl
      have HC := Lib.hid (And.intro k1 (And.intro k2 (And.intro c0 (And.intro c1 (And.intro c2 hbl0)))))
      clear k1 k2 c0 c1 c2 hbl0
      obtain ⟨n1, hn1⟩ : ∃ z, x.nd % 4 = z := ⟨_, rfl⟩
      obtain ⟨q1, hq1⟩ : ∃ z, x.sq % 6 = z := ⟨_, rfl⟩
      obtain ⟨c, hc⟩ : ∃ z, x.b &&& 1 = z := ⟨_, rfl⟩
      have B1 : Hid (∀ W, Calls Try.prog 11 #[.int .i64 x.nd, .int .i64 4] W fun e w' => e = .returned (.int .i64 n1) ∧ w' = W) := Lib.hid fun W => by rw [← hn1]; exact HB.out x.nd HC.out.1 4 (by omega) (by omega) W
      have B2 : Hid (∀ W, Calls Try.prog 11 #[.int .i64 x.sq, .int .i64 6] W fun e w' => e = .returned (.int .i64 q1) ∧ w' = W) := Lib.hid fun W => by rw [← hq1]; exact HB.out x.sq HC.out.2.1 6 (by omega) (by omega) W
      have n0 : 0 ≤ n1 := by omega
      have n4 : n1 < 4 := by omega
      have q0 : 0 ≤ q1 := by omega
      have q6 : q1 < 6 := by omega
      clear hn1 hq1
      have hw1 : IntKind.i64.wrap (1 + n1) = 1 + n1 := IntWalk.i64_in _ (by omega)
      have hw2 : IntKind.i64.wrap (1 + q1) = 1 + q1 := IntWalk.i64_in _ (by omega)
      obtain ⟨X, hX⟩ : ∃ X, mkC (mkI (1 + q1) c) = X := ⟨_, rfl⟩
      have HM : Hid (∀ W, Calls Try.prog 19 #[.int .i64 (1 + q1), .int .u8 (c.toNat : Int)] W fun e w' => e = .returned (.agg X.toArray) ∧ Below W.heap.size W w') := Lib.hid fun W => by rw [← hX]; exact mkI_any (s := 1 + q1) (by omega) (by omega) c W
      obtain ⟨m', hm'⟩ : ∃ m', voteS m (1 + n1) (mkI (1 + q1) c) = m' := ⟨_, rfl⟩
      obtain ⟨E, hE⟩ : ∃ E, voteE m (1 + n1) (mkI (1 + q1) c) = E := ⟨_, rfl⟩
      have HV : Hid (∀ W, Aw w W g m [] → Calls Try.prog 12 #[.pointer (some ⟨g, 0, none⟩), .int .i64 (1 + n1), .agg X.toArray] W fun e w' => e = .returned (.int .i64 E) ∧ Aw w w' g m' []) := Lib.hid fun W h => by rw [← hX, ← hm']; exact Aw.vote h (wf_b (by omega) (by omega)) _ hE
      have HT' := Lib.hid (show RsI m' by rw [← hm']; exact HT.out.vote _ _)
      have HX := Lib.hid (fun W => word_at W bl ol nl cl i hc1)
      have Hc := Lib.hid (show bits BinOp.and IntKind.u8 (x.b.toNat : Int) 1 = (c.toNat : Int) by rw [← hc]; exact bits_one x.b)
      clear hX hm' hE hc
      have HAd := Lib.hid (HA.out.below (Below.refl _ _).drew)
      go_wp2_with fail
      refine region_rule6 (P := Try.prog) 23 131 1 wvK wvD (wvR w g bl ol (ol + i * 3) nl cl (i : Int) x.nd x.sq n1 (1 + n1) q1 (1 + q1) E x.b c m m' X) (fun W6 => Below (w).heap.size (w) W6 ∧ wvX w g bl ol (ol + i * 3) nl cl (i : Int) x.nd x.sq n1 (1 + n1) q1 (1 + q1) E x.b c m m' X W6) _ _ (by kernel_rfl) rfl rfl (by kernel_rfl) (by decide +kernel) (by decide +kernel) ⟨HAd.out.bel, trivial⟩ (fun y h1 h2 => by
          obtain rfl : y = 23 := by omega
          exact ⟨_, rfl, HAd.out⟩) (wv_step w g bl ol (ol + i * 3) nl cl (i : Int) x.nd x.sq n1 (1 + n1) q1 (1 + q1) E x.b c m m' X (by rfl) (by rfl) (by decide +kernel) rfl rfl rfl HX.out HC.out.2.2.2.2.2 HC.out.2.2.1 HC.out.2.2.2.1 HC.out.2.2.2.2.1 B1.out B2.out hw1 hw2 Hc.out HM.out HV.out) ?fin
      case fin =>
        intro a w6 hbase hI hall
        obtain ⟨v48, hv48, hR48⟩ := hall 22 (by decide) (by decide)
        have hR48' : VoR w g m' E v48 w6 := hR48
        obtain ⟨hv, hA2⟩ := hR48'
        subst hv
        obtain ⟨gf, hgfe, hgf⟩ := base_lit hbase [26, 27, 28, 29, 30, 31, 32, 33, 34, 35, 36, 37, 38, 39, 40, 41, 42, 43, 44, 45, 46, 47, 48] (by rfl)
        have q48 : gf 48 = .int .i64 E := hgfe 48 _ hv48
        simp only [List.foldl_cons, List.foldl_nil, List.setIfInBounds_toArray, List.set_cons_zero, List.set_cons_succ, q48] at hgf
        rw [hgf]
        have H9 := Lib.hid hA2
        clear hv48 hR48 hgfe hgf q48 hA2 hI hall hbase
        have hwi : IntKind.i64.wrap ((i : Int) + 1) = (i : Int) + 1 := IntWalk.i64_in _ (by omega)
        go_wp2
        go_roundw
        case rel => exact ⟨i + 1, m', by omega, by omega, by first | rfl | (push_cast; rfl), HT'.out, H9.out⟩
        case measure => simp [intOf]; omega
    · have hd : ¬ ((i : Int) < (nl : Int)) ∨ ((i : Int) < (nl : Int) ∧ ¬ ((i : Int) < 60)) := by omega
      rcases hd with hd | ⟨hd, hd2⟩
      · skip
        rename World => wo
        go_wp2_with fail
        refine (HB.out seq HSq.out 8 (by omega) (by omega) _).mono ?_
        rintro e wB ⟨rfl, hww⟩
        have hww2 := hww.symm
        subst hww2
        clear hww
        obtain ⟨n, hn⟩ : ∃ z, seq % 8 = z := ⟨_, rfl⟩
        have n0 : 0 ≤ n := by omega
        have n8 : n < 8 := by omega
        rw [hn]
        clear hn hd
        obtain ⟨x9, hx9⟩ : ∃ z, mkI n 9 = z := ⟨_, rfl⟩
        have hs9 : x9.s = n := by rw [← hx9]; exact mkI_s (by omega) (by omega) 9
        obtain ⟨X, hX⟩ : ∃ z, mkC x9 = z := ⟨_, rfl⟩
        have HM : Hid (∀ W, Calls Try.prog 19 #[.int .i64 n, .int .u8 9] W fun e w' => e = .returned (.agg X.toArray) ∧ Below W.heap.size W w') := Lib.hid fun W => by rw [← hX, ← hx9]; exact mkI_any (s := n) (by omega) (by omega) 9 W
        have hE := HT.out.rise (x := x9) (by omega) (by omega)
        have HX := Lib.hid hX
        have HE := Lib.hid hE
        have HS := Lib.hid hs9
        clear hX hE hx9 hs9 hlen hnl HL
        have hB0 : Blk (wo.alloc (.cells #[.slice none 0 0, .slice none 0 0, .slice none 0 0, .slice none 0 0, .slice none 0 0] 55)) wo.heap.size 55 [.slice none 0 0, .slice none 0 0, .slice none 0 0, .slice none 0 0, .slice none 0 0] := Blk.new rfl rfl
        have hbel0 : Below wo.heap.size wo (wo.alloc (.cells #[.slice none 0 0, .slice none 0 0, .slice none 0 0, .slice none 0 0, .slice none 0 0] 55)) := (Below.refl _ _).alloc (Nat.le_refl _) _
        have H0 := Lib.hid (And.intro hB0 hbel0)
        clear hB0 hbel0
        go_wp2
        go_loopw [9] (fun v9 wx => ∃ (k : Nat) (cs : List Value), 1 ≤ k ∧ k ≤ 5 ∧ v9 = .int .i64 (k : Int) ∧ Blk wx wo.heap.size 55 cs ∧ WasIn (wo.heap.size + 1) wx m cs k ∧ Below wo.heap.size wo wx) (fun v _ => 10 - (intOf v).toNat)
        case atStart => exact ⟨1, _, by omega, by omega, rfl, H0.out.1, ⟨rfl, fun j h1 h2 => by omega⟩, H0.out.2⟩
        case round =>
          obtain ⟨k, cs, hk1, hk5, rfl, hBw, hWas, hbel⟩ := hrel
          have HW := Lib.hid (And.intro hBw (And.intro hWas hbel))
          clear hBw hWas hbel
          by_cases hk : k < 5
          · have hk' : (k : Int) < 5 := by omega
            go_wp2_with fail
            refine ((HA.out.below HW.out.2.2).ofB (n := (k : Int)) (wf_b (by omega) (by omega))).mono ?_
            rintro e w2 ⟨A, q, c, rfl, hsh, hlq, hblk, hb2⟩
            have hz := HW.out.2.2.size
            have hB2 := HW.out.1.below hb2 HW.out.1.lt
            have hW2 := (HW.out.2.1.below hb2).add (n := q) (c := c) hk hsh hlq (fun b hb => Nat.le_trans HW.out.1.lt (hblk b hb))
            have hbl2 := HW.out.2.2.trans (hb2.mono hz)
            have f1 := hB2.free k
            have c1 := hB2.cell (i := k) (List.getElem?_eq_getElem (by rw [HW.out.2.1.1]; omega))
            have hst : Out (fun b => b = wo.heap.size) w2 (w2.setCell ⟨wo.heap.size, k, none⟩ (.slice A q c)) := (Out.refl (fun b => b = wo.heap.size) w2).setCell (p := ⟨wo.heap.size, k, none⟩) (fun _ => rfl) _
            have hB3 := hB2.set_ k (.slice A q c)
            have hW3 : WasIn (wo.heap.size + 1) (w2.setCell ⟨wo.heap.size, k, none⟩ (.slice A q c)) m (cs.set k (.slice A q c)) (k + 1) := by
              exact hW2.out hst (fun b hb => by omega)
            have hbl3 := hbl2.trans (hst.above (B := wo.heap.size) (fun i hi => by omega) hbl2.size)
            have HN := Lib.hid (And.intro hB3 (And.intro hW3 hbl3))
            clear hB2 hW2 hbl2 hst hB3 hW3 hbl3 hsh hlq hblk hb2
            go_wp2
            go_roundw
            case rel => exact ⟨k + 1, _, by omega, by omega, by first | rfl | (push_cast; rfl), HN.out.1, HN.out.2.1, HN.out.2.2⟩
            case measure => simp [intOf]; omega
          · have hk' : ¬ (k : Int) < 5 := by omega
            obtain rfl : k = 5 := by omega
            obtain ⟨hBw, hWas, hbel⟩ := HW.out
            go_wp2_with fail
            refine (HM.out _).mono ?_
            rintro e w3 ⟨rfl, hb3⟩
            have hB3 := hBw.below hb3 hBw.lt
            have hW3 := hWas.below hb3
            have hbl3 := hbel.trans (hb3.mono hbel.size)
            have HR := Lib.hid (HA.out.raiseB hbl3 x9 HE.out)
            rw [HX.out] at HR
            have H3 := Lib.hid (And.intro hB3 (And.intro hW3 hbl3))
            clear hB3 hW3 hbl3 hb3 hBw hWas hbel
            go_wp2_with fail
            refine HR.out.mono ?_
            rintro e w4 ⟨rfl, hA4, hO4⟩
            obtain ⟨m', hm'⟩ : ∃ z, riseS m x9 = z := ⟨_, rfl⟩
            rw [hm'] at hA4
            have hB4 := hO4.blk H3.out.1 (by omega)
            have hW4 := H3.out.2.1.out hO4 (fun b hb => by omega)
            have H4 := Lib.hid (And.intro hA4 (And.intro hB4 hW4))
            clear hA4 hO4 hB4 hW4 HR
            have hlo : m'.lo = x9 := by rw [← hm']; exact (rise_lo HE.out).1
            have HLo := Lib.hid H4.out.1.low
            rw [hlo, HX.out] at HLo
            have Hm := Lib.hid hm'
            clear hlo hm'
            go_wp2_with fail
            refine HLo.out.mono ?_
            rintro e w5 ⟨rfl, hb5⟩
            have H5 := Lib.hid (And.intro (H4.out.1.below hb5) (And.intro (H4.out.2.1.below hb5 H4.out.2.1.lt) (H4.out.2.2.below hb5)))
            clear hb5 HLo
            go_wp2_with fail
            refine (HM.out _).mono ?_
            rintro e w6 ⟨rfl, hb6⟩
            have H6 := Lib.hid (And.intro (H5.out.1.below hb6) (And.intro (H5.out.2.1.below hb6 H5.out.2.1.lt) (H5.out.2.2.below hb6)))
            clear hb6
            have heq : ∀ W, (Op.equalIn 10000 28 (.agg X.toArray) (.agg X.toArray)).run Try.prog W = .ok true W := fun W => by rw [← HX.out]; have := eq_mark x9 x9 W; simpa using this
            go_wp2
            clear heq
            go_loopw [10] (fun v10 wx => ∃ (k : Nat), 1 ≤ k ∧ k ≤ 5 ∧ v10 = .int .i64 (k : Int) ∧ Below w6.heap.size w6 wx) (fun v _ => 10 - (intOf v).toNat)
            case atStart => exact ⟨1, by omega, by omega, rfl, Below.refl _ _⟩
            case round =>
              rename World => wk
              obtain ⟨k, hk1, hk5, rfl, hbel⟩ := hrel
              by_cases hk : k < 5
              · have hk' : (k : Int) < 5 := by omega
                have Hk := Lib.hid hbel
                clear hbel
                obtain ⟨A, q, c, hcs, hsh, hlq, hblk⟩ := H6.out.2.2.2 k hk1 hk
                obtain ⟨lk, hlk⟩ : ∃ z, m.told (k : Int) = z := ⟨_, rfl⟩
                rw [hlk] at hsh hlq
                have hq4 : q ≤ 4 := by have := HT.out.ok.len (k : Int); rw [hlk] at this; omega
                have HK := Lib.hid (And.intro hcs (And.intro hsh (And.intro hlq (And.intro hlk hq4))))
                clear hcs hsh hlq hlk hblk hq4
                go_wp2
                go_loopw [11, 12] (fun v11 v12 wx => ∃ (j : Nat) (A' : Option Addr) (cap' : Nat), j ≤ q ∧ v12 = .int .i64 (j : Int) ∧ v11 = .slice A' (abv n (lk.take j)).length cap' ∧ RowK wx 28 33 A' (abv n (lk.take j)).length cap' (mks (abv n (lk.take j))) ∧ Below wk.heap.size wk wx ∧ ∀ b, blkOf A' b → wk.heap.size ≤ b) (fun _ v _ => 10 - (intOf v).toNat)
                case atStart => exact ⟨0, none, 0, by omega, rfl, by rw [List.take_zero]; rfl, by rw [List.take_zero]; exact RowK.nil _ _ _, Below.refl _ _, fun b ⟨a, ha, _⟩ => by cases ha⟩
                case round =>
                  obtain ⟨j, A', cap', hj, rfl, rfl, hrow, hbj, hblk⟩ := hrel
                  obtain ⟨want, hwant⟩ : ∃ z, abv n (lk.take j) = z := ⟨_, rfl⟩
                  rw [hwant] at hrow ⊢
                  have hlw : want.length ≤ 4 := by rw [← hwant]; unfold abv; have := List.length_filter_le (fun y : Mk => !decide (y.s ≤ n)) (lk.take j); have h2 := HK.out.2.2.2.2; have h3 := HK.out.2.2.1; rw [List.length_take] at this; omega
                  have hbk := Hk.out.trans (hbj.mono Hk.out.size)
                  have hBj := H6.out.2.1.below hbk H6.out.2.1.lt
                  have cw := hBj.cell HK.out.1
                  by_cases hjq : j < q
                  · have hjq' : (j : Int) < (q : Int) := by omega
                    have hwj : IntKind.i64.wrap ((j : Int) + 1) = (j : Int) + 1 := IntWalk.i64_in _ (by have := HK.out.2.2.2.2; omega)
                    have hjl : j < lk.length := by rw [HK.out.2.2.1]; exact hjq
                    obtain ⟨b, o, hAb, hrg⟩ := ((HK.out.2.1.below hbk).at_ (i := j) hjl)
                    have hst := abv_step (s := n) lk hjl
                    rw [hwant] at hst
                    generalize lk[j] = y at *
                    subst hAb
                    have ix := fun w => marks_at w b o q c j hjq
                    have cs0 : wr.cell? ⟨b, o + j * 33, none⟩ = some (.int .i64 y.s) := by have := hrg 0 _ (show (mkC y)[0]? = some (.int .i64 y.s) from rfl); simpa using this
                    have HJ := Lib.hid (And.intro hrow (And.intro hbj (And.intro hblk hrg)))
                    clear hrow hbj hblk hrg hbk hBj
                    by_cases hy : n < y.s
                    · have hy' : y.s > n := hy
                      rw [if_pos hy] at hst
                      obtain ⟨w7, hw7⟩ : ∃ W, wr.alloc (.cells (mkC y).toArray 28) = W := ⟨_, rfl⟩
                      have hb7 : Below wr.heap.size wr w7 := by rw [← hw7]; exact (Below.refl _ _).alloc (Nat.le_refl _) _
                      have hB7 : Blk w7 wr.heap.size 28 (mkC y) := by rw [← hw7]; exact Blk.new rfl rfl
                      have hr7 := row_mark y wr
                      rw [hw7] at hr7
                      obtain ⟨A2, c2, w8, hr8, hrow8, hO8, hA8⟩ := app_mk (c := 1) (HJ.out.1.below hb7 (HJ.out.1.lt)) rfl ⟨wr.heap.size, 0, none⟩ rfl (fun j u hu => by rw [add_mk, Nat.zero_add]; exact hB7.cell hu) (by omega) 54
                      have hbl8 : Below wk.heap.size wk w8 := (HJ.out.2.1.trans (hb7.mono HJ.out.2.1.size)).trans (hO8.above (B := wk.heap.size) (fun i hi => HJ.out.2.2.1 i hi) (Nat.le_trans HJ.out.2.1.size hb7.size))
                      have hA9 : ∀ b, blkOf A2 b → wk.heap.size ≤ b := fun b hb => by rcases hA8 b hb with e | e; exact HJ.out.2.2.1 b e; have := HJ.out.2.1.size; have := hb7.size; omega
                      have hmi := mark_infoL y
                      have HN := Lib.hid (And.intro hr7 (And.intro hr8 (And.intro hrow8 (And.intro hbl8 (And.intro hA9 hmi)))))
                      clear hr7 hr8 hrow8 hO8 hA8 hbl8 hA9 hw7 hb7 hB7 hmi
                      have hln : (abv n (lk.take (j + 1))).length = want.length + 1 := by rw [hst, List.length_append]; rfl
                      have HS8 := Lib.hid hst
                      have HLn := Lib.hid hln
                      have Hwl := Lib.hid hlw
                      clear hst hln hwant hlw
                      obtain ⟨Y, hY⟩ : ∃ z, mkC y = z := ⟨_, rfl⟩
                      have hyr := HJ.out.2.2.2
                      rw [hY] at HN hyr
                      have HY := Lib.hid hyr
                      clear hyr hY
                      generalize hwl : want.length = wl at *
                      go_wp2_with (first
                        | (refine load_mid_g rfl 28 _ rfl b (o + j * 33) rfl Y _ HY.out Try.underlying28 rfl HN.out.2.2.2.2.2 ?_; simp only [Act.put])
                        | (refine row_g rfl 54 1 _ rfl (.slice (some ⟨wr.heap.size, 0, none⟩) 1 1) w7 (by simp only [List.map_toArray, List.map_cons, List.map_nil]; exact HN.out.1) ?_; simp only [Act.put])
                        | (refine app_g rfl _ _ _ _ rfl _ _ _ w8 rfl rfl HN.out.2.1 ?_; simp only [Act.put]))
                      go_roundw
                      case rel => exact ⟨j + 1, A2, c2, by omega, by first | rfl | (push_cast; rfl), by rw [HLn.out], by rw [HLn.out, HS8.out]; exact HN.out.2.2.1, HN.out.2.2.2.1, HN.out.2.2.2.2.1⟩
                      case measure => have := HK.out.2.2.2.2; simp [intOf]; omega
                    · have hy' : ¬ y.s > n := hy
                      rw [if_neg hy, List.append_nil] at hst
                      have HS8 := Lib.hid hst
                      clear hst hwant
                      go_wp2
                      go_roundw
                      case rel => exact ⟨j + 1, A', cap', by omega, by first | rfl | (push_cast; rfl), by rw [HS8.out], by rw [HS8.out]; exact HJ.out.1, HJ.out.2.1, HJ.out.2.2.1⟩
                      case measure => have := HK.out.2.2.2.2; simp [intOf]; omega
                  · have hjq' : ¬ (j : Int) < (q : Int) := by omega
                    obtain rfl : j = q := by omega
                    have hall : want = abv n lk := by rw [← hwant, ← HK.out.2.2.1, List.take_length]
                    have HJ := Lib.hid (And.intro hrow (And.intro hbk (And.intro hall hlw)))
                    clear hrow hbj hblk hall hwant hlw hBj
                    generalize hwl : want.length = wl at *
                    go_wp2_with fail
                    refine ((H6.out.1.below hbk).ofB (n := (k : Int)) (wf_b (by omega) (by omega))).mono ?_
                    rintro e w8 ⟨A8, q8, c8, rfl, hs8, hl8, _, hb8⟩
                    have ht : m'.told (k : Int) = want := by rw [← Hm.out, rise_told HE.out, HS.out, HK.out.2.2.2.1, HJ.out.2.2.1]
                    rw [ht] at hs8 hl8
                    have hsw := row_sh (HJ.out.1.below hb8 HJ.out.1.lt) hwl
                    have HSm := Lib.hid (same_any (c := c8) (c' := cap') hs8 hsw hl8 hwl (by have := HJ.out.2.2.2; omega) (by have := HJ.out.2.2.2; omega))
                    have hb9 := HJ.out.2.1.trans (hb8.mono HJ.out.2.1.size)
                    have H9 := Lib.hid hb9
                    clear hs8 hl8 hsw hb8 hb9 ht hbk cw
                    go_wp2_with fail
                    refine HSm.out.mono ?_
                    rintro e w9 ⟨he, hb9⟩
                    have he2 : e = .returned (.bool true) := by rw [he]; simp
                    clear he
                    subst he2
                    have H10 := Lib.hid (H9.out.trans (hb9.mono H9.out.size))
                    clear hb9
                    go_wp2
                    go_roundw
                    case rel => exact ⟨k + 1, by omega, by omega, by first | rfl | (push_cast; rfl), H10.out⟩
                    case measure => simp [intOf]; omega
              · have hk' : ¬ (k : Int) < 5 := by omega
                obtain rfl : k = 5 := by omega
                have hAk := H6.out.1.below hbel
                obtain ⟨G, hG⟩ : ∃ z, greatS m' (2 * m'.f + 1) = z := ⟨_, rfl⟩
                have hf' : m'.f = 1 := by rw [← Hm.out, (rise_lo HE.out).2.1]; exact HT.out.f
                have hab : ∀ z, G = some z → n < z.s := fun z hz => by rw [← HS.out]; rw [hz] at hG; rw [← Hm.out] at hG hf'; exact rise_above HE.out (by omega) hG
                have hv9 : voteE m' 1 x9 = 9 := by rw [← Hm.out]; exact rise_vote HT.out HE.out
                have HSt := Lib.hid (Aw.stable hAk hG)
                have Hab := Lib.hid hab
                have Hv9 := Lib.hid hv9
                clear hAk hG hf' hab hv9 hbel
                obtain ⟨z, hz⟩ : ∃ z, G.getD mk0 = z := ⟨_, rfl⟩
                obtain ⟨Z, hZ⟩ : ∃ Z, mkC z = Z := ⟨_, rfl⟩
                rw [hz, hZ] at HSt
                go_wp2_with fail
                refine HSt.out.mono ?_
                rintro e w7 ⟨rfl, h7⟩
                obtain ⟨w8, hw8, hs8, h8, _⟩ := Aw.var' h7 z hZ
                have HV8 := Lib.hid (And.intro hw8 hs8)
                have cz : w8.cell? ⟨w7.heap.size, 0, none⟩ = some (.int .i64 z.s) := h8.mark_s (by simp)
                have H8 := Lib.hid h8
                clear hw8 hs8 h8 h7 HSt hZ
                cases G with
                | none =>
                  go_wp2_with (refine wpList_store_mid rfl 28 _ _ rfl w7.heap.size 0 Z.toArray rfl rfl HV8.out.2.1 HV8.out.2.2.1 HV8.out.2.2.2 ?_; simp only [Act.put]; refine cast (congrArg (fun z => wpList _ _ _ _ _ z) HV8.out.1.symm) ?_)
                  refine (HM.out _).mono ?_
                  rintro e w9 ⟨rfl, hb9⟩
                  have HVt := Lib.hid (Aw.vote (H8.out.below hb9) (n := 1) (by decide) x9 Hv9.out)
                  rw [HX.out] at HVt
                  clear hb9
                  go_wp2_with fail
                  refine HVt.out.mono ?_
                  rintro e w10 ⟨rfl, h10⟩
                  have H10 := Lib.hid h10.bel
                  clear h10
                  go_wp2_with fail
                  refine (awake_any _).mono ?_
                  rintro e w11 ⟨rfl, hb11⟩
                  have H11 := Lib.hid (H10.out.trans (hb11.mono H10.out.size))
                  clear hb11
                  go_wp2
                  go_ret
                  exact ⟨rfl, H11.out⟩
                | some z' =>
                  have hzz : z' = z := hz
                  subst hzz
                  have hgt : z'.s > n := Hab.out z' rfl
                  go_wp2_with (refine wpList_store_mid rfl 28 _ _ rfl w7.heap.size 0 Z.toArray rfl rfl HV8.out.2.1 HV8.out.2.2.1 HV8.out.2.2.2 ?_; simp only [Act.put]; refine cast (congrArg (fun z => wpList _ _ _ _ _ z) HV8.out.1.symm) ?_)
                  refine (HM.out _).mono ?_
                  rintro e w9 ⟨rfl, hb9⟩
                  have HVt := Lib.hid (Aw.vote (H8.out.below hb9) (n := 1) (by decide) x9 Hv9.out)
                  rw [HX.out] at HVt
                  clear hb9
                  go_wp2_with fail
                  refine HVt.out.mono ?_
                  rintro e w10 ⟨rfl, h10⟩
                  have H10 := Lib.hid h10.bel
                  clear h10
                  go_wp2_with fail
                  refine (awake_any _).mono ?_
                  rintro e w11 ⟨rfl, hb11⟩
                  have H11 := Lib.hid (H10.out.trans (hb11.mono H10.out.size))
                  clear hb11
                  go_wp2
                  go_ret
                  exact ⟨rfl, H11.out⟩
      · skip
        rename World => wo
        go_wp2_with fail
        refine (HB.out seq HSq.out 8 (by omega) (by omega) _).mono ?_
        rintro e wB ⟨rfl, hww⟩
        have hww2 := hww.symm
        subst hww2
        clear hww
        obtain ⟨n, hn⟩ : ∃ z, seq % 8 = z := ⟨_, rfl⟩
        have n0 : 0 ≤ n := by omega
        have n8 : n < 8 := by omega
        rw [hn]
        clear hn hd
        obtain ⟨x9, hx9⟩ : ∃ z, mkI n 9 = z := ⟨_, rfl⟩
        have hs9 : x9.s = n := by rw [← hx9]; exact mkI_s (by omega) (by omega) 9
        obtain ⟨X, hX⟩ : ∃ z, mkC x9 = z := ⟨_, rfl⟩
        have HM : Hid (∀ W, Calls Try.prog 19 #[.int .i64 n, .int .u8 9] W fun e w' => e = .returned (.agg X.toArray) ∧ Below W.heap.size W w') := Lib.hid fun W => by rw [← hX, ← hx9]; exact mkI_any (s := n) (by omega) (by omega) 9 W
        have hE := HT.out.rise (x := x9) (by omega) (by omega)
        have HX := Lib.hid hX
        have HE := Lib.hid hE
        have HS := Lib.hid hs9
        clear hX hE hx9 hs9 hlen hnl HL
        have hB0 : Blk (wo.alloc (.cells #[.slice none 0 0, .slice none 0 0, .slice none 0 0, .slice none 0 0, .slice none 0 0] 55)) wo.heap.size 55 [.slice none 0 0, .slice none 0 0, .slice none 0 0, .slice none 0 0, .slice none 0 0] := Blk.new rfl rfl
        have hbel0 : Below wo.heap.size wo (wo.alloc (.cells #[.slice none 0 0, .slice none 0 0, .slice none 0 0, .slice none 0 0, .slice none 0 0] 55)) := (Below.refl _ _).alloc (Nat.le_refl _) _
        have H0 := Lib.hid (And.intro hB0 hbel0)
        clear hB0 hbel0
        go_wp2
        go_loopw [9] (fun v9 wx => ∃ (k : Nat) (cs : List Value), 1 ≤ k ∧ k ≤ 5 ∧ v9 = .int .i64 (k : Int) ∧ Blk wx wo.heap.size 55 cs ∧ WasIn (wo.heap.size + 1) wx m cs k ∧ Below wo.heap.size wo wx) (fun v _ => 10 - (intOf v).toNat)
        case atStart => exact ⟨1, _, by omega, by omega, rfl, H0.out.1, ⟨rfl, fun j h1 h2 => by omega⟩, H0.out.2⟩
        case round =>
          obtain ⟨k, cs, hk1, hk5, rfl, hBw, hWas, hbel⟩ := hrel
          have HW := Lib.hid (And.intro hBw (And.intro hWas hbel))
          clear hBw hWas hbel
          by_cases hk : k < 5
          · have hk' : (k : Int) < 5 := by omega
            go_wp2_with fail
            refine ((HA.out.below HW.out.2.2).ofB (n := (k : Int)) (wf_b (by omega) (by omega))).mono ?_
            rintro e w2 ⟨A, q, c, rfl, hsh, hlq, hblk, hb2⟩
            have hz := HW.out.2.2.size
            have hB2 := HW.out.1.below hb2 HW.out.1.lt
            have hW2 := (HW.out.2.1.below hb2).add (n := q) (c := c) hk hsh hlq (fun b hb => Nat.le_trans HW.out.1.lt (hblk b hb))
            have hbl2 := HW.out.2.2.trans (hb2.mono hz)
            have f1 := hB2.free k
            have c1 := hB2.cell (i := k) (List.getElem?_eq_getElem (by rw [HW.out.2.1.1]; omega))
            have hst : Out (fun b => b = wo.heap.size) w2 (w2.setCell ⟨wo.heap.size, k, none⟩ (.slice A q c)) := (Out.refl (fun b => b = wo.heap.size) w2).setCell (p := ⟨wo.heap.size, k, none⟩) (fun _ => rfl) _
            have hB3 := hB2.set_ k (.slice A q c)
            have hW3 : WasIn (wo.heap.size + 1) (w2.setCell ⟨wo.heap.size, k, none⟩ (.slice A q c)) m (cs.set k (.slice A q c)) (k + 1) := by
              exact hW2.out hst (fun b hb => by omega)
            have hbl3 := hbl2.trans (hst.above (B := wo.heap.size) (fun i hi => by omega) hbl2.size)
            have HN := Lib.hid (And.intro hB3 (And.intro hW3 hbl3))
            clear hB2 hW2 hbl2 hst hB3 hW3 hbl3 hsh hlq hblk hb2
            go_wp2
            go_roundw
            case rel => exact ⟨k + 1, _, by omega, by omega, by first | rfl | (push_cast; rfl), HN.out.1, HN.out.2.1, HN.out.2.2⟩
            case measure => simp [intOf]; omega
          · have hk' : ¬ (k : Int) < 5 := by omega
            obtain rfl : k = 5 := by omega
            obtain ⟨hBw, hWas, hbel⟩ := HW.out
            go_wp2_with fail
            refine (HM.out _).mono ?_
            rintro e w3 ⟨rfl, hb3⟩
            have hB3 := hBw.below hb3 hBw.lt
            have hW3 := hWas.below hb3
            have hbl3 := hbel.trans (hb3.mono hbel.size)
            have HR := Lib.hid (HA.out.raiseB hbl3 x9 HE.out)
            rw [HX.out] at HR
            have H3 := Lib.hid (And.intro hB3 (And.intro hW3 hbl3))
            clear hB3 hW3 hbl3 hb3 hBw hWas hbel
            go_wp2_with fail
            refine HR.out.mono ?_
            rintro e w4 ⟨rfl, hA4, hO4⟩
            obtain ⟨m', hm'⟩ : ∃ z, riseS m x9 = z := ⟨_, rfl⟩
            rw [hm'] at hA4
            have hB4 := hO4.blk H3.out.1 (by omega)
            have hW4 := H3.out.2.1.out hO4 (fun b hb => by omega)
            have H4 := Lib.hid (And.intro hA4 (And.intro hB4 hW4))
            clear hA4 hO4 hB4 hW4 HR
            have hlo : m'.lo = x9 := by rw [← hm']; exact (rise_lo HE.out).1
            have HLo := Lib.hid H4.out.1.low
            rw [hlo, HX.out] at HLo
            have Hm := Lib.hid hm'
            clear hlo hm'
            go_wp2_with fail
            refine HLo.out.mono ?_
            rintro e w5 ⟨rfl, hb5⟩
            have H5 := Lib.hid (And.intro (H4.out.1.below hb5) (And.intro (H4.out.2.1.below hb5 H4.out.2.1.lt) (H4.out.2.2.below hb5)))
            clear hb5 HLo
            go_wp2_with fail
            refine (HM.out _).mono ?_
            rintro e w6 ⟨rfl, hb6⟩
            have H6 := Lib.hid (And.intro (H5.out.1.below hb6) (And.intro (H5.out.2.1.below hb6 H5.out.2.1.lt) (H5.out.2.2.below hb6)))
            clear hb6
            have heq : ∀ W, (Op.equalIn 10000 28 (.agg X.toArray) (.agg X.toArray)).run Try.prog W = .ok true W := fun W => by rw [← HX.out]; have := eq_mark x9 x9 W; simpa using this
            go_wp2
            clear heq
            go_loopw [10] (fun v10 wx => ∃ (k : Nat), 1 ≤ k ∧ k ≤ 5 ∧ v10 = .int .i64 (k : Int) ∧ Below w6.heap.size w6 wx) (fun v _ => 10 - (intOf v).toNat)
            case atStart => exact ⟨1, by omega, by omega, rfl, Below.refl _ _⟩
            case round =>
              rename World => wk
              obtain ⟨k, hk1, hk5, rfl, hbel⟩ := hrel
              by_cases hk : k < 5
              · have hk' : (k : Int) < 5 := by omega
                have Hk := Lib.hid hbel
                clear hbel
                obtain ⟨A, q, c, hcs, hsh, hlq, hblk⟩ := H6.out.2.2.2 k hk1 hk
                obtain ⟨lk, hlk⟩ : ∃ z, m.told (k : Int) = z := ⟨_, rfl⟩
                rw [hlk] at hsh hlq
                have hq4 : q ≤ 4 := by have := HT.out.ok.len (k : Int); rw [hlk] at this; omega
                have HK := Lib.hid (And.intro hcs (And.intro hsh (And.intro hlq (And.intro hlk hq4))))
                clear hcs hsh hlq hlk hblk hq4
                go_wp2
                go_loopw [11, 12] (fun v11 v12 wx => ∃ (j : Nat) (A' : Option Addr) (cap' : Nat), j ≤ q ∧ v12 = .int .i64 (j : Int) ∧ v11 = .slice A' (abv n (lk.take j)).length cap' ∧ RowK wx 28 33 A' (abv n (lk.take j)).length cap' (mks (abv n (lk.take j))) ∧ Below wk.heap.size wk wx ∧ ∀ b, blkOf A' b → wk.heap.size ≤ b) (fun _ v _ => 10 - (intOf v).toNat)
                case atStart => exact ⟨0, none, 0, by omega, rfl, by rw [List.take_zero]; rfl, by rw [List.take_zero]; exact RowK.nil _ _ _, Below.refl _ _, fun b ⟨a, ha, _⟩ => by cases ha⟩
                case round =>
                  obtain ⟨j, A', cap', hj, rfl, rfl, hrow, hbj, hblk⟩ := hrel
                  obtain ⟨want, hwant⟩ : ∃ z, abv n (lk.take j) = z := ⟨_, rfl⟩
                  rw [hwant] at hrow ⊢
                  have hlw : want.length ≤ 4 := by rw [← hwant]; unfold abv; have := List.length_filter_le (fun y : Mk => !decide (y.s ≤ n)) (lk.take j); have h2 := HK.out.2.2.2.2; have h3 := HK.out.2.2.1; rw [List.length_take] at this; omega
                  have hbk := Hk.out.trans (hbj.mono Hk.out.size)
                  have hBj := H6.out.2.1.below hbk H6.out.2.1.lt
                  have cw := hBj.cell HK.out.1
                  by_cases hjq : j < q
                  · have hjq' : (j : Int) < (q : Int) := by omega
                    have hwj : IntKind.i64.wrap ((j : Int) + 1) = (j : Int) + 1 := IntWalk.i64_in _ (by have := HK.out.2.2.2.2; omega)
                    have hjl : j < lk.length := by rw [HK.out.2.2.1]; exact hjq
                    obtain ⟨b, o, hAb, hrg⟩ := ((HK.out.2.1.below hbk).at_ (i := j) hjl)
                    have hst := abv_step (s := n) lk hjl
                    rw [hwant] at hst
                    generalize lk[j] = y at *
                    subst hAb
                    have ix := fun w => marks_at w b o q c j hjq
                    have cs0 : wr.cell? ⟨b, o + j * 33, none⟩ = some (.int .i64 y.s) := by have := hrg 0 _ (show (mkC y)[0]? = some (.int .i64 y.s) from rfl); simpa using this
                    have HJ := Lib.hid (And.intro hrow (And.intro hbj (And.intro hblk hrg)))
                    clear hrow hbj hblk hrg hbk hBj
                    by_cases hy : n < y.s
                    · have hy' : y.s > n := hy
                      rw [if_pos hy] at hst
                      obtain ⟨w7, hw7⟩ : ∃ W, wr.alloc (.cells (mkC y).toArray 28) = W := ⟨_, rfl⟩
                      have hb7 : Below wr.heap.size wr w7 := by rw [← hw7]; exact (Below.refl _ _).alloc (Nat.le_refl _) _
                      have hB7 : Blk w7 wr.heap.size 28 (mkC y) := by rw [← hw7]; exact Blk.new rfl rfl
                      have hr7 := row_mark y wr
                      rw [hw7] at hr7
                      obtain ⟨A2, c2, w8, hr8, hrow8, hO8, hA8⟩ := app_mk (c := 1) (HJ.out.1.below hb7 (HJ.out.1.lt)) rfl ⟨wr.heap.size, 0, none⟩ rfl (fun j u hu => by rw [add_mk, Nat.zero_add]; exact hB7.cell hu) (by omega) 54
                      have hbl8 : Below wk.heap.size wk w8 := (HJ.out.2.1.trans (hb7.mono HJ.out.2.1.size)).trans (hO8.above (B := wk.heap.size) (fun i hi => HJ.out.2.2.1 i hi) (Nat.le_trans HJ.out.2.1.size hb7.size))
                      have hA9 : ∀ b, blkOf A2 b → wk.heap.size ≤ b := fun b hb => by rcases hA8 b hb with e | e; exact HJ.out.2.2.1 b e; have := HJ.out.2.1.size; have := hb7.size; omega
                      have hmi := mark_infoL y
                      have HN := Lib.hid (And.intro hr7 (And.intro hr8 (And.intro hrow8 (And.intro hbl8 (And.intro hA9 hmi)))))
                      clear hr7 hr8 hrow8 hO8 hA8 hbl8 hA9 hw7 hb7 hB7 hmi
                      have hln : (abv n (lk.take (j + 1))).length = want.length + 1 := by rw [hst, List.length_append]; rfl
                      have HS8 := Lib.hid hst
                      have HLn := Lib.hid hln
                      have Hwl := Lib.hid hlw
                      clear hst hln hwant hlw
                      obtain ⟨Y, hY⟩ : ∃ z, mkC y = z := ⟨_, rfl⟩
                      have hyr := HJ.out.2.2.2
                      rw [hY] at HN hyr
                      have HY := Lib.hid hyr
                      clear hyr hY
                      generalize hwl : want.length = wl at *
                      go_wp2_with (first
                        | (refine load_mid_g rfl 28 _ rfl b (o + j * 33) rfl Y _ HY.out Try.underlying28 rfl HN.out.2.2.2.2.2 ?_; simp only [Act.put])
                        | (refine row_g rfl 54 1 _ rfl (.slice (some ⟨wr.heap.size, 0, none⟩) 1 1) w7 (by simp only [List.map_toArray, List.map_cons, List.map_nil]; exact HN.out.1) ?_; simp only [Act.put])
                        | (refine app_g rfl _ _ _ _ rfl _ _ _ w8 rfl rfl HN.out.2.1 ?_; simp only [Act.put]))
                      go_roundw
                      case rel => exact ⟨j + 1, A2, c2, by omega, by first | rfl | (push_cast; rfl), by rw [HLn.out], by rw [HLn.out, HS8.out]; exact HN.out.2.2.1, HN.out.2.2.2.1, HN.out.2.2.2.2.1⟩
                      case measure => have := HK.out.2.2.2.2; simp [intOf]; omega
                    · have hy' : ¬ y.s > n := hy
                      rw [if_neg hy, List.append_nil] at hst
                      have HS8 := Lib.hid hst
                      clear hst hwant
                      go_wp2
                      go_roundw
                      case rel => exact ⟨j + 1, A', cap', by omega, by first | rfl | (push_cast; rfl), by rw [HS8.out], by rw [HS8.out]; exact HJ.out.1, HJ.out.2.1, HJ.out.2.2.1⟩
                      case measure => have := HK.out.2.2.2.2; simp [intOf]; omega
                  · have hjq' : ¬ (j : Int) < (q : Int) := by omega
                    obtain rfl : j = q := by omega
                    have hall : want = abv n lk := by rw [← hwant, ← HK.out.2.2.1, List.take_length]
                    have HJ := Lib.hid (And.intro hrow (And.intro hbk (And.intro hall hlw)))
                    clear hrow hbj hblk hall hwant hlw hBj
                    generalize hwl : want.length = wl at *
                    go_wp2_with fail
                    refine ((H6.out.1.below hbk).ofB (n := (k : Int)) (wf_b (by omega) (by omega))).mono ?_
                    rintro e w8 ⟨A8, q8, c8, rfl, hs8, hl8, _, hb8⟩
                    have ht : m'.told (k : Int) = want := by rw [← Hm.out, rise_told HE.out, HS.out, HK.out.2.2.2.1, HJ.out.2.2.1]
                    rw [ht] at hs8 hl8
                    have hsw := row_sh (HJ.out.1.below hb8 HJ.out.1.lt) hwl
                    have HSm := Lib.hid (same_any (c := c8) (c' := cap') hs8 hsw hl8 hwl (by have := HJ.out.2.2.2; omega) (by have := HJ.out.2.2.2; omega))
                    have hb9 := HJ.out.2.1.trans (hb8.mono HJ.out.2.1.size)
                    have H9 := Lib.hid hb9
                    clear hs8 hl8 hsw hb8 hb9 ht hbk cw
                    go_wp2_with fail
                    refine HSm.out.mono ?_
                    rintro e w9 ⟨he, hb9⟩
                    have he2 : e = .returned (.bool true) := by rw [he]; simp
                    clear he
                    subst he2
                    have H10 := Lib.hid (H9.out.trans (hb9.mono H9.out.size))
                    clear hb9
                    go_wp2
                    go_roundw
                    case rel => exact ⟨k + 1, by omega, by omega, by first | rfl | (push_cast; rfl), H10.out⟩
                    case measure => simp [intOf]; omega
              · have hk' : ¬ (k : Int) < 5 := by omega
                obtain rfl : k = 5 := by omega
                have hAk := H6.out.1.below hbel
                obtain ⟨G, hG⟩ : ∃ z, greatS m' (2 * m'.f + 1) = z := ⟨_, rfl⟩
                have hf' : m'.f = 1 := by rw [← Hm.out, (rise_lo HE.out).2.1]; exact HT.out.f
                have hab : ∀ z, G = some z → n < z.s := fun z hz => by rw [← HS.out]; rw [hz] at hG; rw [← Hm.out] at hG hf'; exact rise_above HE.out (by omega) hG
                have hv9 : voteE m' 1 x9 = 9 := by rw [← Hm.out]; exact rise_vote HT.out HE.out
                have HSt := Lib.hid (Aw.stable hAk hG)
                have Hab := Lib.hid hab
                have Hv9 := Lib.hid hv9
                clear hAk hG hf' hab hv9 hbel
                obtain ⟨z, hz⟩ : ∃ z, G.getD mk0 = z := ⟨_, rfl⟩
                obtain ⟨Z, hZ⟩ : ∃ Z, mkC z = Z := ⟨_, rfl⟩
                rw [hz, hZ] at HSt
                go_wp2_with fail
                refine HSt.out.mono ?_
                rintro e w7 ⟨rfl, h7⟩
                obtain ⟨w8, hw8, hs8, h8, _⟩ := Aw.var' h7 z hZ
                have HV8 := Lib.hid (And.intro hw8 hs8)
                have cz : w8.cell? ⟨w7.heap.size, 0, none⟩ = some (.int .i64 z.s) := h8.mark_s (by simp)
                have H8 := Lib.hid h8
                clear hw8 hs8 h8 h7 HSt hZ
                cases G with
                | none =>
                  go_wp2_with (refine wpList_store_mid rfl 28 _ _ rfl w7.heap.size 0 Z.toArray rfl rfl HV8.out.2.1 HV8.out.2.2.1 HV8.out.2.2.2 ?_; simp only [Act.put]; refine cast (congrArg (fun z => wpList _ _ _ _ _ z) HV8.out.1.symm) ?_)
                  refine (HM.out _).mono ?_
                  rintro e w9 ⟨rfl, hb9⟩
                  have HVt := Lib.hid (Aw.vote (H8.out.below hb9) (n := 1) (by decide) x9 Hv9.out)
                  rw [HX.out] at HVt
                  clear hb9
                  go_wp2_with fail
                  refine HVt.out.mono ?_
                  rintro e w10 ⟨rfl, h10⟩
                  have H10 := Lib.hid h10.bel
                  clear h10
                  go_wp2_with fail
                  refine (awake_any _).mono ?_
                  rintro e w11 ⟨rfl, hb11⟩
                  have H11 := Lib.hid (H10.out.trans (hb11.mono H10.out.size))
                  clear hb11
                  go_wp2
                  go_ret
                  exact ⟨rfl, H11.out⟩
                | some z' =>
                  have hzz : z' = z := hz
                  subst hzz
                  have hgt : z'.s > n := Hab.out z' rfl
                  go_wp2_with (refine wpList_store_mid rfl 28 _ _ rfl w7.heap.size 0 Z.toArray rfl rfl HV8.out.2.1 HV8.out.2.2.1 HV8.out.2.2.2 ?_; simp only [Act.put]; refine cast (congrArg (fun z => wpList _ _ _ _ _ z) HV8.out.1.symm) ?_)
                  refine (HM.out _).mono ?_
                  rintro e w9 ⟨rfl, hb9⟩
                  have HVt := Lib.hid (Aw.vote (H8.out.below hb9) (n := 1) (by decide) x9 Hv9.out)
                  rw [HX.out] at HVt
                  clear hb9
                  go_wp2_with fail
                  refine HVt.out.mono ?_
                  rintro e w10 ⟨rfl, h10⟩
                  have H10 := Lib.hid h10.bel
                  clear h10
                  go_wp2_with fail
                  refine (awake_any _).mono ?_
                  rintro e w11 ⟨rfl, hb11⟩
                  have H11 := Lib.hid (H10.out.trans (hb11.mono H10.out.size))
                  clear hb11
                  go_wp2
                  go_ret
                  exact ⟨rfl, H11.out⟩

end Go.Proofs.Ytenccpccpjjkmaa.marksRaised
