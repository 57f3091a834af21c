/-
  What CrewEnough's last condition does, in whichever order its operations come up. (Written by tools/gen_enough8.py.)
-/
import Derived.Test.YtjibbbfpbflgmaaArgs8
namespace Go.Proofs.Ytjibbbfpbflgmaa
open Go.RowKit Go.Shelf CrewP
set_option linter.unusedVariables false
set_option linter.unusedSimpArgs false

def enR (b3 : Nat) (f : Int) (A : Option Addr) (n c : Nat) : Nat → Value → World → Prop
  | 0 => fun v w => v = .agg #[.int .i64 f, .slice A n c]
  | 1 => fun v w => v = .int .i64 0
  | 2 => fun v w => v = .bool true
  | 3 => fun v w => v = .bool true
  | 4 => fun v w => v = .agg #[.int .i64 f, .slice A n c]
  | 5 => fun v w => v = .int .i64 (2 * f + 1)
  | 6 => fun v w => v = .int .i64 f
  | 7 => fun v w => v = .int .i64 (f + 1)
  | 8 => fun v w => v = .agg #[.int .i64 f, .slice A n c]
  | 9 => fun v w => v = .int .i64 (f + 1)
  | 10 => fun v w => v = .bool true
  | 11 => fun v w => v = .bool true
  | 12 => fun v w => v = .bool true
  | 13 => fun v w => v = .int .i64 f
  | 14 => fun v w => v = .agg #[.int .i64 f, .slice A n c]
  | 15 => fun v w => v = .int .i64 (f + 1)
  | 16 => fun v w => v = .bool true
  | 17 => fun v w => v = .bool true
  | 18 => fun v w => v = .bool true
  | 19 => fun v w => v = .pointer (some ⟨b3, 1, none⟩)
  | 20 => fun v w => v = .slice A n c
  | 21 => fun v w => v = .int .i64 n
  | 22 => fun v w => v = .int .i64 f
  | 23 => fun v w => v = .int .i64 (2 * f + 1)
  | 24 => fun v w => v = .agg #[.int .i64 f, .slice A n c]
  | 25 => fun v w => v = .int .i64 (2 * f + 1)
  | 26 => fun v w => v = .bool true
  | 27 => fun v w => v = .bool true
  | 28 => fun v w => v = .bool true
  | _ => fun _ _ => True
def enD (i : Nat) : Nat := ([11, 12, 13, 14, 15, 16, 17, 18, 19, 20, 21, 22, 23, 24, 25, 26, 27, 28, 29, 30, 31, 32, 33, 34, 35, 36, 37, 38, 2] : List Nat).getD i 0
def enG : Nat → Option Bool
  | 3 => some true
  | 12 => some true
  | 18 => some true
  | _ => none
def enS (i : Nat) : Bool := ([] : List Nat).contains i
theorem en_gb (b3 : Nat) (f : Int) (A : Option Addr) (n c : Nat) : ∀ i b v w, enG i = some b → enR b3 f A n c i v w → v = .bool b := by
  intro i b v w h hR
  unfold enG at h
  split at h
  all_goals first | (injection h with h; subst h; exact hR) | cases h
theorem en_sk (b3 : Nat) (f : Int) (A : Option Addr) (n c : Nat) : ∀ i w, enS i = true → enR b3 f A n c i undef w := by
  intro i w h
  simp [enS] at h
theorem en_on (b3 : Nat) (f : Int) (A : Option Addr) (n c : Nat) : ∀ i v w w', enR b3 f A n c i v w → Below w.heap.size w w' → enR b3 f A n c i v w'
  | 0, v, w, w', h, _ => h
  | 1, v, w, w', h, _ => h
  | 2, v, w, w', h, _ => h
  | 3, v, w, w', h, _ => h
  | 4, v, w, w', h, _ => h
  | 5, v, w, w', h, _ => h
  | 6, v, w, w', h, _ => h
  | 7, v, w, w', h, _ => h
  | 8, v, w, w', h, _ => h
  | 9, v, w, w', h, _ => h
  | 10, v, w, w', h, _ => h
  | 11, v, w, w', h, _ => h
  | 12, v, w, w', h, _ => h
  | 13, v, w, w', h, _ => h
  | 14, v, w, w', h, _ => h
  | 15, v, w, w', h, _ => h
  | 16, v, w, w', h, _ => h
  | 17, v, w, w', h, _ => h
  | 18, v, w, w', h, _ => h
  | 19, v, w, w', h, _ => h
  | 20, v, w, w', h, _ => h
  | 21, v, w, w', h, _ => h
  | 22, v, w, w', h, _ => h
  | 23, v, w, w', h, _ => h
  | 24, v, w, w', h, _ => h
  | 25, v, w, w', h, _ => h
  | 26, v, w, w', h, _ => h
  | 27, v, w, w', h, _ => h
  | 28, v, w, w', h, _ => h
  | i + 29, v, w, w', h, hb => trivial
def enOps : List Op := [.load 24 (.tmp 3),
  .call { callee := .value (.func 20), args := #[.tmp 11], argTypes := #[24] },
  .binOp .eql 27 (.tmp 12) (.const (.int .i64 0)) 27,
  .move (.tmp 13),
  .load 24 (.tmp 3),
  .call { callee := .value (.func 26), args := #[.tmp 15], argTypes := #[24] },
  .move (.tmp 4),
  .binOp .sub 3 (.tmp 16) (.tmp 17) 3,
  .load 24 (.tmp 3),
  .call { callee := .value (.func 28), args := #[.tmp 19], argTypes := #[24] },
  .binOp .eql 3 (.tmp 18) (.tmp 20) 3,
  .pick (.tmp 14) (.tmp 21) (.const (.bool false)),
  .move (.tmp 22),
  .move (.tmp 4),
  .load 24 (.tmp 3),
  .call { callee := .value (.func 28), args := #[.tmp 25], argTypes := #[24] },
  .binOp .lss 3 (.tmp 24) (.tmp 26) 3,
  .pick (.tmp 23) (.tmp 27) (.const (.bool false)),
  .move (.tmp 28),
  .fieldAddr 24 (.tmp 3) 1,
  .load 22 (.tmp 30),
  .call { callee := .builtin .len, args := #[.tmp 31], argTypes := #[22] },
  .move (.tmp 4),
  .binOp .sub 3 (.tmp 32) (.tmp 33) 3,
  .load 24 (.tmp 3),
  .call { callee := .value (.func 26), args := #[.tmp 35], argTypes := #[24] },
  .binOp .eql 3 (.tmp 34) (.tmp 36) 3,
  .pick (.tmp 29) (.tmp 37) (.const (.bool false)),
  .assign (.tmp 38)]
def enNeeds : Nat → List Nat
  | 0 => []
  | 1 => [0]
  | 2 => [1]
  | 3 => [2]
  | 4 => []
  | 5 => [4]
  | 6 => []
  | 7 => [5, 6]
  | 8 => []
  | 9 => [8]
  | 10 => [7, 9]
  | 11 => [3, 10]
  | 12 => [11]
  | 13 => []
  | 14 => []
  | 15 => [14]
  | 16 => [13, 15]
  | 17 => [12, 16]
  | 18 => [17]
  | 19 => []
  | 20 => [19]
  | 21 => [20]
  | 22 => []
  | 23 => [21, 22]
  | 24 => []
  | 25 => [24]
  | 26 => [23, 25]
  | 27 => [18, 26]
  | 28 => [27]
  | _ => []
set_option maxRecDepth 100000 in
set_option maxHeartbeats 3200000 in
theorem en_step {ops : Array Oper} {Q : Exit → Act → World → Prop} {a0 : Act} {w0 : World} (b3 : Nat) (f : Int) (A : Option Addr) (n c : Nat) (hops : ((List.range 29).map fun i => (ops[i]?).map Oper.op) = enOps.map some)
    (hnd : ((List.range 29).all fun i => (enNeeds i).all fun j => ((ops[i]?).map fun o => o.after.any fun e => Region.binds .any e && (e.on == j)).getD false) = true)
    (l : List Int) (x3 : a0.tmps[3]? = some (.pointer (some ⟨b3, 0, none⟩))) (x4 : a0.tmps[4]? = some (.int .i64 f))
    (hB : Blk w0 b3 24 [.int .i64 f, .slice A n c]) (hA : ArgI w0 A n c l) (hok : okC f l = true) (hs1 : IntKind.i64.wrap (2 * f + 1 - f) = f + 1) (hs2 : IntKind.i64.wrap ((n : Int) - f) = 2 * f + 1) (hlt : f < f + 1) :
    ∀ i o, i < 29 → enS i = false → ops[i]? = some o → o.dst = some (enD i) → ∀ a w, Base enD 29 a0 a → Below w0.heap.size w0 w → Region.wanted o (yielded ops a.tmps) = true →
      (∀ j, (o.after.any fun e => Region.binds .any e && (e.on == j)) = true → Has enD (enR b3 f A n c) j a w) →
      ∀ K : Act → World → Prop, (∀ v w', enR b3 f A n c i v w' → Below w.heap.size w w' → K (a.put o.dst v) w') → wpOp Try.prog ops Q i K a w := by
  intro i o hi hs ho hds a w hbase hbl hwt hdep0 K hK
  have hop : some o.op = enOps[i]? := by
    have h1 : ((List.range 29).map fun i => (ops[i]?).map Oper.op)[i]? = some (some o.op) := by
      rw [List.getElem?_map, List.getElem?_range hi]; simp only [Option.map_some, ho]
    rw [hops, List.getElem?_map] at h1
    cases h2 : enOps[i]? with
    | none => rw [h2] at h1; cases h1
    | some y => rw [h2] at h1; simp only [Option.map_some, Option.some.injEq] at h1; rw [h1]
  have hdep : ∀ j, j ∈ enNeeds i → Has enD (enR b3 f A n c) j a w := fun j hj => by
    have h1 := List.all_eq_true.1 (List.all_eq_true.1 hnd i (List.mem_range.2 hi)) j hj
    rw [ho] at h1
    exact hdep0 j h1
  clear hdep0 hops hnd
  match i, hi, hs, ho, hop, hds, hdep, hK with
  | 0, _, hs, ho, hop, hds, hdep, hK =>
    have hop : o.op = .load 24 (.tmp 3) := Option.some.inj hop
    have hu3 : a.tmps[3]? = some (.pointer (some ⟨b3, 0, none⟩)) := (hbase.2.2 3 (by decide)).trans x3
    have e3 : a.eval (.tmp 3) = _ := ev_tmp hu3
    refine st3 ho hwt (v := .agg #[.int .i64 f, .slice A n c]) (w' := w) ?_ (hK _ w rfl (Below.refl _ _))
    have k0 : w.cell? ⟨b3, 0, none⟩ = some (.int .i64 f) := (hB.below hbl hB.lt).cell rfl
    have k1 : w.cell? ⟨b3, 1, none⟩ = some (.slice A n c) := (hB.below hbl hB.lt).cell rfl
    unfold execOp
    simp only [hop, e3]
    first | rfl | go_simp | (go_simp; simp)
  | 1, _, hs, ho, hop, hds, hdep, hK =>
    have hop : o.op = .call { callee := .value (.func 20), args := #[.tmp 11], argTypes := #[24] } := Option.some.inj hop
    obtain ⟨u11, hu11, hv11⟩ := hdep 0 (by decide)
    have hv11' : u11 = .agg #[.int .i64 f, .slice A n c] := hv11
    subst hv11'
    have e11 : a.eval (.tmp 11) = _ := ev_tmp hu11
    refine st3_call ho hwt (f := 20) (vals := #[.agg #[.int .i64 f, .slice A n c]]) (Z := fun v w' => v = .int .i64 0 ∧ Below w.heap.size w w') ?_ ?_ ?_
    · unfold execOp
      simp only [hop, e11, resolve, invoke, Sem.run_bind, Sem.run_pure, Result.andThen_ok, List.map_toArray, List.map_cons, List.map_nil]
      first | rfl | exact enters_of Try.func20 (by kernel_rfl) rfl _ _
    · exact (check_any f A n c l w (hA.after hbl)).mono fun e w' ⟨he, h2⟩ => ⟨_, he, congrArg (Value.int .i64) (chk0 hok), h2⟩
    · rintro v w' ⟨h1, h2⟩
      exact hK v w' h1 h2
  | 2, _, hs, ho, hop, hds, hdep, hK =>
    have hop : o.op = .binOp .eql 27 (.tmp 12) (.const (.int .i64 0)) 27 := Option.some.inj hop
    obtain ⟨u12, hu12, hv12⟩ := hdep 1 (by decide)
    have hv12' : u12 = .int .i64 0 := hv12
    subst hv12'
    have e12 : a.eval (.tmp 12) = _ := ev_tmp hu12
    refine st3 ho hwt (v := .bool true) (w' := w) ?_ (hK _ w rfl (Below.refl _ _))
    unfold execOp
    simp only [hop, e12]
    first | rfl | go_simp | (go_simp; simp)
  | 3, _, hs, ho, hop, hds, hdep, hK =>
    have hop : o.op = .move (.tmp 13) := Option.some.inj hop
    obtain ⟨u13, hu13, hv13⟩ := hdep 2 (by decide)
    have hv13' : u13 = .bool true := hv13
    subst hv13'
    have e13 : a.eval (.tmp 13) = _ := ev_tmp hu13
    refine st3 ho hwt (v := _) (w' := w) ?_ (hK _ w rfl (Below.refl _ _))
    unfold execOp
    rw [hop, ← e13]
    rfl
  | 4, _, hs, ho, hop, hds, hdep, hK =>
    have hop : o.op = .load 24 (.tmp 3) := Option.some.inj hop
    have hu3 : a.tmps[3]? = some (.pointer (some ⟨b3, 0, none⟩)) := (hbase.2.2 3 (by decide)).trans x3
    have e3 : a.eval (.tmp 3) = _ := ev_tmp hu3
    refine st3 ho hwt (v := .agg #[.int .i64 f, .slice A n c]) (w' := w) ?_ (hK _ w rfl (Below.refl _ _))
    have k0 : w.cell? ⟨b3, 0, none⟩ = some (.int .i64 f) := (hB.below hbl hB.lt).cell rfl
    have k1 : w.cell? ⟨b3, 1, none⟩ = some (.slice A n c) := (hB.below hbl hB.lt).cell rfl
    unfold execOp
    simp only [hop, e3]
    first | rfl | go_simp | (go_simp; simp)
  | 5, _, hs, ho, hop, hds, hdep, hK =>
    have hop : o.op = .call { callee := .value (.func 26), args := #[.tmp 15], argTypes := #[24] } := Option.some.inj hop
    obtain ⟨u15, hu15, hv15⟩ := hdep 4 (by decide)
    have hv15' : u15 = .agg #[.int .i64 f, .slice A n c] := hv15
    subst hv15'
    have e15 : a.eval (.tmp 15) = _ := ev_tmp hu15
    refine st3_call ho hwt (f := 26) (vals := #[.agg #[.int .i64 f, .slice A n c]]) (Z := fun v w' => v = .int .i64 (2 * f + 1) ∧ Below w.heap.size w w') ?_ ?_ ?_
    · unfold execOp
      simp only [hop, e15, resolve, invoke, Sem.run_bind, Sem.run_pure, Result.andThen_ok, List.map_toArray, List.map_cons, List.map_nil]
      first | rfl | exact enters_of Try.func26 (by kernel_rfl) rfl _ _
    · exact (most_any f A n c l w (hA.after hbl)).mono fun e w' ⟨he, h2⟩ => ⟨_, he, congrArg (Value.int .i64) (by simp [mostR, hok]), h2⟩
    · rintro v w' ⟨h1, h2⟩
      exact hK v w' h1 h2
  | 6, _, hs, ho, hop, hds, hdep, hK =>
    have hop : o.op = .move (.tmp 4) := Option.some.inj hop
    have hu4 : a.tmps[4]? = some (.int .i64 f) := (hbase.2.2 4 (by decide)).trans x4
    have e4 : a.eval (.tmp 4) = _ := ev_tmp hu4
    refine st3 ho hwt (v := _) (w' := w) ?_ (hK _ w rfl (Below.refl _ _))
    unfold execOp
    rw [hop, ← e4]
    rfl
  | 7, _, hs, ho, hop, hds, hdep, hK =>
    have hop : o.op = .binOp .sub 3 (.tmp 16) (.tmp 17) 3 := Option.some.inj hop
    obtain ⟨u16, hu16, hv16⟩ := hdep 5 (by decide)
    have hv16' : u16 = .int .i64 (2 * f + 1) := hv16
    subst hv16'
    have e16 : a.eval (.tmp 16) = _ := ev_tmp hu16
    obtain ⟨u17, hu17, hv17⟩ := hdep 6 (by decide)
    have hv17' : u17 = .int .i64 f := hv17
    subst hv17'
    have e17 : a.eval (.tmp 17) = _ := ev_tmp hu17
    refine st3 ho hwt (v := .int .i64 (f + 1)) (w' := w) ?_ (hK _ w rfl (Below.refl _ _))
    unfold execOp
    simp only [hop, e16, e17]
    first | rfl | go_simp | (go_simp; simp)
  | 8, _, hs, ho, hop, hds, hdep, hK =>
    have hop : o.op = .load 24 (.tmp 3) := Option.some.inj hop
    have hu3 : a.tmps[3]? = some (.pointer (some ⟨b3, 0, none⟩)) := (hbase.2.2 3 (by decide)).trans x3
    have e3 : a.eval (.tmp 3) = _ := ev_tmp hu3
    refine st3 ho hwt (v := .agg #[.int .i64 f, .slice A n c]) (w' := w) ?_ (hK _ w rfl (Below.refl _ _))
    have k0 : w.cell? ⟨b3, 0, none⟩ = some (.int .i64 f) := (hB.below hbl hB.lt).cell rfl
    have k1 : w.cell? ⟨b3, 1, none⟩ = some (.slice A n c) := (hB.below hbl hB.lt).cell rfl
    unfold execOp
    simp only [hop, e3]
    first | rfl | go_simp | (go_simp; simp)
  | 9, _, hs, ho, hop, hds, hdep, hK =>
    have hop : o.op = .call { callee := .value (.func 28), args := #[.tmp 19], argTypes := #[24] } := Option.some.inj hop
    obtain ⟨u19, hu19, hv19⟩ := hdep 8 (by decide)
    have hv19' : u19 = .agg #[.int .i64 f, .slice A n c] := hv19
    subst hv19'
    have e19 : a.eval (.tmp 19) = _ := ev_tmp hu19
    refine st3_call ho hwt (f := 28) (vals := #[.agg #[.int .i64 f, .slice A n c]]) (Z := fun v w' => v = .int .i64 (f + 1) ∧ Below w.heap.size w w') ?_ ?_ ?_
    · unfold execOp
      simp only [hop, e19, resolve, invoke, Sem.run_bind, Sem.run_pure, Result.andThen_ok, List.map_toArray, List.map_cons, List.map_nil]
      first | rfl | exact enters_of Try.func28 (by kernel_rfl) rfl _ _
    · exact (some_any f A n c l w (hA.after hbl)).mono fun e w' ⟨he, h2⟩ => ⟨_, he, congrArg (Value.int .i64) (by simp [someR, hok]), h2⟩
    · rintro v w' ⟨h1, h2⟩
      exact hK v w' h1 h2
  | 10, _, hs, ho, hop, hds, hdep, hK =>
    have hop : o.op = .binOp .eql 3 (.tmp 18) (.tmp 20) 3 := Option.some.inj hop
    obtain ⟨u18, hu18, hv18⟩ := hdep 7 (by decide)
    have hv18' : u18 = .int .i64 (f + 1) := hv18
    subst hv18'
    have e18 : a.eval (.tmp 18) = _ := ev_tmp hu18
    obtain ⟨u20, hu20, hv20⟩ := hdep 9 (by decide)
    have hv20' : u20 = .int .i64 (f + 1) := hv20
    subst hv20'
    have e20 : a.eval (.tmp 20) = _ := ev_tmp hu20
    refine st3 ho hwt (v := .bool true) (w' := w) ?_ (hK _ w rfl (Below.refl _ _))
    unfold execOp
    simp only [hop, e18, e20]
    first | rfl | go_simp | (go_simp; simp)
  | 11, _, hs, ho, hop, hds, hdep, hK =>
    have hop : o.op = .pick (.tmp 14) (.tmp 21) (.const (.bool false)) := Option.some.inj hop
    obtain ⟨u14, hu14, hv14⟩ := hdep 3 (by decide)
    have hv14' : u14 = .bool true := hv14
    subst hv14'
    have e14 : a.eval (.tmp 14) = _ := ev_tmp hu14
    obtain ⟨u21, hu21, hv21⟩ := hdep 10 (by decide)
    have hv21' : u21 = .bool true := hv21
    subst hv21'
    have e21 : a.eval (.tmp 21) = _ := ev_tmp hu21
    refine st3 ho hwt (v := .bool true) (w' := w) ?_ (hK _ w rfl (Below.refl _ _))
    unfold execOp
    simp only [hop, e14, e21]
    first | rfl | go_simp | (go_simp; simp)
  | 12, _, hs, ho, hop, hds, hdep, hK =>
    have hop : o.op = .move (.tmp 22) := Option.some.inj hop
    obtain ⟨u22, hu22, hv22⟩ := hdep 11 (by decide)
    have hv22' : u22 = .bool true := hv22
    subst hv22'
    have e22 : a.eval (.tmp 22) = _ := ev_tmp hu22
    refine st3 ho hwt (v := _) (w' := w) ?_ (hK _ w rfl (Below.refl _ _))
    unfold execOp
    rw [hop, ← e22]
    rfl
  | 13, _, hs, ho, hop, hds, hdep, hK =>
    have hop : o.op = .move (.tmp 4) := Option.some.inj hop
    have hu4 : a.tmps[4]? = some (.int .i64 f) := (hbase.2.2 4 (by decide)).trans x4
    have e4 : a.eval (.tmp 4) = _ := ev_tmp hu4
    refine st3 ho hwt (v := _) (w' := w) ?_ (hK _ w rfl (Below.refl _ _))
    unfold execOp
    rw [hop, ← e4]
    rfl
  | 14, _, hs, ho, hop, hds, hdep, hK =>
    have hop : o.op = .load 24 (.tmp 3) := Option.some.inj hop
    have hu3 : a.tmps[3]? = some (.pointer (some ⟨b3, 0, none⟩)) := (hbase.2.2 3 (by decide)).trans x3
    have e3 : a.eval (.tmp 3) = _ := ev_tmp hu3
    refine st3 ho hwt (v := .agg #[.int .i64 f, .slice A n c]) (w' := w) ?_ (hK _ w rfl (Below.refl _ _))
    have k0 : w.cell? ⟨b3, 0, none⟩ = some (.int .i64 f) := (hB.below hbl hB.lt).cell rfl
    have k1 : w.cell? ⟨b3, 1, none⟩ = some (.slice A n c) := (hB.below hbl hB.lt).cell rfl
    unfold execOp
    simp only [hop, e3]
    first | rfl | go_simp | (go_simp; simp)
  | 15, _, hs, ho, hop, hds, hdep, hK =>
    have hop : o.op = .call { callee := .value (.func 28), args := #[.tmp 25], argTypes := #[24] } := Option.some.inj hop
    obtain ⟨u25, hu25, hv25⟩ := hdep 14 (by decide)
    have hv25' : u25 = .agg #[.int .i64 f, .slice A n c] := hv25
    subst hv25'
    have e25 : a.eval (.tmp 25) = _ := ev_tmp hu25
    refine st3_call ho hwt (f := 28) (vals := #[.agg #[.int .i64 f, .slice A n c]]) (Z := fun v w' => v = .int .i64 (f + 1) ∧ Below w.heap.size w w') ?_ ?_ ?_
    · unfold execOp
      simp only [hop, e25, resolve, invoke, Sem.run_bind, Sem.run_pure, Result.andThen_ok, List.map_toArray, List.map_cons, List.map_nil]
      first | rfl | exact enters_of Try.func28 (by kernel_rfl) rfl _ _
    · exact (some_any f A n c l w (hA.after hbl)).mono fun e w' ⟨he, h2⟩ => ⟨_, he, congrArg (Value.int .i64) (by simp [someR, hok]), h2⟩
    · rintro v w' ⟨h1, h2⟩
      exact hK v w' h1 h2
  | 16, _, hs, ho, hop, hds, hdep, hK =>
    have hop : o.op = .binOp .lss 3 (.tmp 24) (.tmp 26) 3 := Option.some.inj hop
    obtain ⟨u24, hu24, hv24⟩ := hdep 13 (by decide)
    have hv24' : u24 = .int .i64 f := hv24
    subst hv24'
    have e24 : a.eval (.tmp 24) = _ := ev_tmp hu24
    obtain ⟨u26, hu26, hv26⟩ := hdep 15 (by decide)
    have hv26' : u26 = .int .i64 (f + 1) := hv26
    subst hv26'
    have e26 : a.eval (.tmp 26) = _ := ev_tmp hu26
    refine st3 ho hwt (v := .bool true) (w' := w) ?_ (hK _ w rfl (Below.refl _ _))
    unfold execOp
    simp only [hop, e24, e26]
    first | rfl | go_simp | (go_simp; simp)
  | 17, _, hs, ho, hop, hds, hdep, hK =>
    have hop : o.op = .pick (.tmp 23) (.tmp 27) (.const (.bool false)) := Option.some.inj hop
    obtain ⟨u23, hu23, hv23⟩ := hdep 12 (by decide)
    have hv23' : u23 = .bool true := hv23
    subst hv23'
    have e23 : a.eval (.tmp 23) = _ := ev_tmp hu23
    obtain ⟨u27, hu27, hv27⟩ := hdep 16 (by decide)
    have hv27' : u27 = .bool true := hv27
    subst hv27'
    have e27 : a.eval (.tmp 27) = _ := ev_tmp hu27
    refine st3 ho hwt (v := .bool true) (w' := w) ?_ (hK _ w rfl (Below.refl _ _))
    unfold execOp
    simp only [hop, e23, e27]
    first | rfl | go_simp | (go_simp; simp)
  | 18, _, hs, ho, hop, hds, hdep, hK =>
    have hop : o.op = .move (.tmp 28) := Option.some.inj hop
    obtain ⟨u28, hu28, hv28⟩ := hdep 17 (by decide)
    have hv28' : u28 = .bool true := hv28
    subst hv28'
    have e28 : a.eval (.tmp 28) = _ := ev_tmp hu28
    refine st3 ho hwt (v := _) (w' := w) ?_ (hK _ w rfl (Below.refl _ _))
    unfold execOp
    rw [hop, ← e28]
    rfl
  | 19, _, hs, ho, hop, hds, hdep, hK =>
    have hop : o.op = .fieldAddr 24 (.tmp 3) 1 := Option.some.inj hop
    have hu3 : a.tmps[3]? = some (.pointer (some ⟨b3, 0, none⟩)) := (hbase.2.2 3 (by decide)).trans x3
    have e3 : a.eval (.tmp 3) = _ := ev_tmp hu3
    refine st3 ho hwt (v := .pointer (some ⟨b3, 1, none⟩)) (w' := w) ?_ (hK _ w rfl (Below.refl _ _))
    unfold execOp
    simp only [hop, e3]
    first | rfl | go_simp | (go_simp; simp)
  | 20, _, hs, ho, hop, hds, hdep, hK =>
    have hop : o.op = .load 22 (.tmp 30) := Option.some.inj hop
    obtain ⟨u30, hu30, hv30⟩ := hdep 19 (by decide)
    have hv30' : u30 = .pointer (some ⟨b3, 1, none⟩) := hv30
    subst hv30'
    have e30 : a.eval (.tmp 30) = _ := ev_tmp hu30
    refine st3 ho hwt (v := .slice A n c) (w' := w) ?_ (hK _ w rfl (Below.refl _ _))
    have k1 : w.cell? ⟨b3, 1, none⟩ = some (.slice A n c) := (hB.below hbl hB.lt).cell rfl
    unfold execOp
    simp only [hop, e30]
    first | rfl | go_simp | (go_simp; simp)
  | 21, _, hs, ho, hop, hds, hdep, hK =>
    have hop : o.op = .call { callee := .builtin .len, args := #[.tmp 31], argTypes := #[22] } := Option.some.inj hop
    obtain ⟨u31, hu31, hv31⟩ := hdep 20 (by decide)
    have hv31' : u31 = .slice A n c := hv31
    subst hv31'
    have e31 : a.eval (.tmp 31) = _ := ev_tmp hu31
    refine st3 ho hwt (v := .int .i64 n) (w' := w) ?_ (hK _ w rfl (Below.refl _ _))
    unfold execOp
    simp only [hop, resolve, invoke, builtin, Sem.run_bind, Sem.run_pure, Result.andThen_ok, List.map_toArray, List.map_cons, List.map_nil, e31]
    first | rfl | go_simp
  | 22, _, hs, ho, hop, hds, hdep, hK =>
    have hop : o.op = .move (.tmp 4) := Option.some.inj hop
    have hu4 : a.tmps[4]? = some (.int .i64 f) := (hbase.2.2 4 (by decide)).trans x4
    have e4 : a.eval (.tmp 4) = _ := ev_tmp hu4
    refine st3 ho hwt (v := _) (w' := w) ?_ (hK _ w rfl (Below.refl _ _))
    unfold execOp
    rw [hop, ← e4]
    rfl
  | 23, _, hs, ho, hop, hds, hdep, hK =>
    have hop : o.op = .binOp .sub 3 (.tmp 32) (.tmp 33) 3 := Option.some.inj hop
    obtain ⟨u32, hu32, hv32⟩ := hdep 21 (by decide)
    have hv32' : u32 = .int .i64 n := hv32
    subst hv32'
    have e32 : a.eval (.tmp 32) = _ := ev_tmp hu32
    obtain ⟨u33, hu33, hv33⟩ := hdep 22 (by decide)
    have hv33' : u33 = .int .i64 f := hv33
    subst hv33'
    have e33 : a.eval (.tmp 33) = _ := ev_tmp hu33
    refine st3 ho hwt (v := .int .i64 (2 * f + 1)) (w' := w) ?_ (hK _ w rfl (Below.refl _ _))
    unfold execOp
    simp only [hop, e32, e33]
    first | rfl | go_simp | (go_simp; simp)
  | 24, _, hs, ho, hop, hds, hdep, hK =>
    have hop : o.op = .load 24 (.tmp 3) := Option.some.inj hop
    have hu3 : a.tmps[3]? = some (.pointer (some ⟨b3, 0, none⟩)) := (hbase.2.2 3 (by decide)).trans x3
    have e3 : a.eval (.tmp 3) = _ := ev_tmp hu3
    refine st3 ho hwt (v := .agg #[.int .i64 f, .slice A n c]) (w' := w) ?_ (hK _ w rfl (Below.refl _ _))
    have k0 : w.cell? ⟨b3, 0, none⟩ = some (.int .i64 f) := (hB.below hbl hB.lt).cell rfl
    have k1 : w.cell? ⟨b3, 1, none⟩ = some (.slice A n c) := (hB.below hbl hB.lt).cell rfl
    unfold execOp
    simp only [hop, e3]
    first | rfl | go_simp | (go_simp; simp)
  | 25, _, hs, ho, hop, hds, hdep, hK =>
    have hop : o.op = .call { callee := .value (.func 26), args := #[.tmp 35], argTypes := #[24] } := Option.some.inj hop
    obtain ⟨u35, hu35, hv35⟩ := hdep 24 (by decide)
    have hv35' : u35 = .agg #[.int .i64 f, .slice A n c] := hv35
    subst hv35'
    have e35 : a.eval (.tmp 35) = _ := ev_tmp hu35
    refine st3_call ho hwt (f := 26) (vals := #[.agg #[.int .i64 f, .slice A n c]]) (Z := fun v w' => v = .int .i64 (2 * f + 1) ∧ Below w.heap.size w w') ?_ ?_ ?_
    · unfold execOp
      simp only [hop, e35, resolve, invoke, Sem.run_bind, Sem.run_pure, Result.andThen_ok, List.map_toArray, List.map_cons, List.map_nil]
      first | rfl | exact enters_of Try.func26 (by kernel_rfl) rfl _ _
    · exact (most_any f A n c l w (hA.after hbl)).mono fun e w' ⟨he, h2⟩ => ⟨_, he, congrArg (Value.int .i64) (by simp [mostR, hok]), h2⟩
    · rintro v w' ⟨h1, h2⟩
      exact hK v w' h1 h2
  | 26, _, hs, ho, hop, hds, hdep, hK =>
    have hop : o.op = .binOp .eql 3 (.tmp 34) (.tmp 36) 3 := Option.some.inj hop
    obtain ⟨u34, hu34, hv34⟩ := hdep 23 (by decide)
    have hv34' : u34 = .int .i64 (2 * f + 1) := hv34
    subst hv34'
    have e34 : a.eval (.tmp 34) = _ := ev_tmp hu34
    obtain ⟨u36, hu36, hv36⟩ := hdep 25 (by decide)
    have hv36' : u36 = .int .i64 (2 * f + 1) := hv36
    subst hv36'
    have e36 : a.eval (.tmp 36) = _ := ev_tmp hu36
    refine st3 ho hwt (v := .bool true) (w' := w) ?_ (hK _ w rfl (Below.refl _ _))
    unfold execOp
    simp only [hop, e34, e36]
    first | rfl | go_simp | (go_simp; simp)
  | 27, _, hs, ho, hop, hds, hdep, hK =>
    have hop : o.op = .pick (.tmp 29) (.tmp 37) (.const (.bool false)) := Option.some.inj hop
    obtain ⟨u29, hu29, hv29⟩ := hdep 18 (by decide)
    have hv29' : u29 = .bool true := hv29
    subst hv29'
    have e29 : a.eval (.tmp 29) = _ := ev_tmp hu29
    obtain ⟨u37, hu37, hv37⟩ := hdep 26 (by decide)
    have hv37' : u37 = .bool true := hv37
    subst hv37'
    have e37 : a.eval (.tmp 37) = _ := ev_tmp hu37
    refine st3 ho hwt (v := .bool true) (w' := w) ?_ (hK _ w rfl (Below.refl _ _))
    unfold execOp
    simp only [hop, e29, e37]
    first | rfl | go_simp | (go_simp; simp)
  | 28, _, hs, ho, hop, hds, hdep, hK =>
    have hop : o.op = .assign (.tmp 38) := Option.some.inj hop
    obtain ⟨u38, hu38, hv38⟩ := hdep 27 (by decide)
    have hv38' : u38 = .bool true := hv38
    subst hv38'
    have e38 : a.eval (.tmp 38) = _ := ev_tmp hu38
    refine st3 ho hwt (v := _) (w' := w) ?_ (hK _ w rfl (Below.refl _ _))
    unfold execOp
    rw [hop, ← e38]
    rfl
  | i + 29, hi, _, _, _, _, _, _ => exact absurd hi (by omega)
end Go.Proofs.Ytjibbbfpbflgmaa
