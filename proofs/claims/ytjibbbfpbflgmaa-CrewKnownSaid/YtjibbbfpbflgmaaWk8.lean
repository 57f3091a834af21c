/-
  What the helper works' great condition does, in whichever order its operations come up. (Written by tools/gen_works8.py.)
-/
import Derived.Test.YtjibbbfpbflgmaaHelp8
import Derived.Test.YtjibbbfpbflgmaaRule3
namespace Go.Proofs.Ytjibbbfpbflgmaa
open Go.RowKit Go.Shelf CrewP
set_option linter.unusedVariables false
set_option linter.unusedSimpArgs false

def wkR (b1 b3 : Nat) (A1 A3 : Option Addr) (c1 c3 : Nat) : Nat → Value → World → Prop
  | 0 => fun v w => v = .int .i64 0
  | 1 => fun v w => v = .bool true
  | 2 => fun v w => v = .bool true
  | 3 => fun v w => v = .agg #[.int .i64 1, .slice A1 4 c1]
  | 4 => fun v w => CrewV w v 1 [2, 3, 5, 7]
  | 5 => fun v w => v = .bool true
  | 6 => fun v w => v = .bool true
  | 7 => fun v w => v = .bool true
  | 8 => fun v w => v = .agg #[.int .i64 1, .slice A1 4 c1]
  | 9 => fun v w => v = .int .i64 3
  | 10 => fun v w => v = .bool true
  | 11 => fun v w => v = .bool true
  | 12 => fun v w => v = .bool true
  | 13 => fun v w => v = .agg #[.int .i64 1, .slice A1 4 c1]
  | 14 => fun v w => v = .int .i64 2
  | 15 => fun v w => v = .bool true
  | 16 => fun v w => v = .bool true
  | 17 => fun v w => v = .bool true
  | 18 => fun v w => v = .agg #[.int .i64 1, .slice A1 4 c1]
  | 19 => fun v w => v = .int .i64 5
  | 20 => fun v w => v = .bool true
  | 21 => fun v w => v = .bool true
  | 22 => fun v w => v = .bool true
  | 23 => fun v w => v = .agg #[.int .i64 1, .slice A1 4 c1]
  | 24 => fun v w => ListV w v [2, 5, 7]
  | 25 => fun v w => ListV w v [2, 5, 7]
  | 26 => fun v w => v = .bool true
  | 27 => fun v w => v = .bool true
  | 28 => fun v w => v = .bool true
  | 29 => fun v w => v = .int .i64 0
  | 30 => fun v w => v = .bool true
  | 31 => fun v w => v = .bool true
  | 32 => fun v w => v = .bool true
  | 33 => fun v w => v = .pointer (some ⟨b3, 1, none⟩)
  | 34 => fun v w => v = .slice A3 4 c3
  | 35 => fun v w => ListV w v [2, 4, 5, 7]
  | 36 => fun v w => v = .bool true
  | 37 => fun v w => v = .bool true
  | 38 => fun v w => v = .bool true
  | 39 => fun v w => v = .agg #[.int .i64 1, .slice A1 4 c1]
  | 40 => fun v w => ListV w v [2, 2, 9, 7]
  | 41 => fun v w => v = .int .i64 2
  | 42 => fun v w => v = .bool true
  | 43 => fun v w => v = .bool true
  | 44 => fun v w => v = .bool true
  | 45 => fun v w => v = .int .i64 0
  | 46 => fun v w => v = .bool true
  | 47 => fun v w => v = .bool true
  | 48 => fun v w => v = .bool true
  | 49 => fun v w => v = .int .i64 6
  | 50 => fun v w => v = .bool true
  | 51 => fun v w => v = .bool true
  | 52 => fun v w => v = .bool true
  | _ => fun _ _ => True
def wkD (i : Nat) : Nat := ([23, 24, 25, 26, 27, 28, 29, 30, 31, 32, 33, 34, 35, 36, 37, 38, 39, 40, 41, 42, 43, 44, 45, 46, 47, 48, 49, 50, 51, 52, 53, 54, 55, 56, 57, 58, 59, 60, 61, 62, 63, 64, 65, 66, 67, 68, 69, 70, 71, 72, 73, 74, 0] : List Nat).getD i 0
def wkG : Nat → Option Bool
  | 2 => some true
  | 7 => some true
  | 12 => some true
  | 17 => some true
  | 22 => some true
  | 28 => some true
  | 32 => some true
  | 38 => some true
  | 44 => some true
  | 48 => some true
  | _ => none
def wkS (i : Nat) : Bool := ([] : List Nat).contains i
theorem wk_gb (b1 b3 : Nat) (A1 A3 : Option Addr) (c1 c3 : Nat) : ∀ i b v w, wkG i = some b → wkR b1 b3 A1 A3 c1 c3 i v w → v = .bool b := by
  intro i b v w h hR
  unfold wkG at h
  split at h
  all_goals first | (injection h with h; subst h; exact hR) | cases h
theorem wk_sk (b1 b3 : Nat) (A1 A3 : Option Addr) (c1 c3 : Nat) : ∀ i w, wkS i = true → wkR b1 b3 A1 A3 c1 c3 i undef w := by
  intro i w h
  simp [wkS] at h
theorem wk_on (b1 b3 : Nat) (A1 A3 : Option Addr) (c1 c3 : Nat) : ∀ i v w w', wkR b1 b3 A1 A3 c1 c3 i v w → Below w.heap.size w w' → wkR b1 b3 A1 A3 c1 c3 i v w'
  | 0, v, w, w', h, _ => h
  | 1, v, w, w', h, _ => h
  | 2, v, w, w', h, _ => h
  | 3, v, w, w', h, _ => h
  | 4, v, w, w', h, hb => CrewV.on (show CrewV w v 1 [2, 3, 5, 7] from h) hb
  | 5, v, w, w', h, _ => h
  | 6, v, w, w', h, _ => h
  | 7, v, w, w', h, _ => h
  | 8, v, w, w', h, _ => h
  | 9, v, w, w', h, _ => h
  | 10, v, w, w', h, _ => h
  | 11, v, w, w', h, _ => h
  | 12, v, w, w', h, _ => h
  | 13, v, w, w', h, _ => h
  | 14, v, w, w', h, _ => h
  | 15, v, w, w', h, _ => h
  | 16, v, w, w', h, _ => h
  | 17, v, w, w', h, _ => h
  | 18, v, w, w', h, _ => h
  | 19, v, w, w', h, _ => h
  | 20, v, w, w', h, _ => h
  | 21, v, w, w', h, _ => h
  | 22, v, w, w', h, _ => h
  | 23, v, w, w', h, _ => h
  | 24, v, w, w', h, hb => ListV.on (show ListV w v [2, 5, 7] from h) hb
  | 25, v, w, w', h, hb => ListV.on (show ListV w v [2, 5, 7] from h) hb
  | 26, v, w, w', h, _ => h
  | 27, v, w, w', h, _ => h
  | 28, v, w, w', h, _ => h
  | 29, v, w, w', h, _ => h
  | 30, v, w, w', h, _ => h
  | 31, v, w, w', h, _ => h
  | 32, v, w, w', h, _ => h
  | 33, v, w, w', h, _ => h
  | 34, v, w, w', h, _ => h
  | 35, v, w, w', h, hb => ListV.on (show ListV w v [2, 4, 5, 7] from h) hb
  | 36, v, w, w', h, _ => h
  | 37, v, w, w', h, _ => h
  | 38, v, w, w', h, _ => h
  | 39, v, w, w', h, _ => h
  | 40, v, w, w', h, hb => ListV.on (show ListV w v [2, 2, 9, 7] from h) hb
  | 41, v, w, w', h, _ => h
  | 42, v, w, w', h, _ => h
  | 43, v, w, w', h, _ => h
  | 44, v, w, w', h, _ => h
  | 45, v, w, w', h, _ => h
  | 46, v, w, w', h, _ => h
  | 47, v, w, w', h, _ => h
  | 48, v, w, w', h, _ => h
  | 49, v, w, w', h, _ => h
  | 50, v, w, w', h, _ => h
  | 51, v, w, w', h, _ => h
  | 52, v, w, w', h, _ => h
  | i + 53, v, w, w', h, hb => trivial
def wkOps : List Op := [.move (.tmp 2),
  .binOp .eql 27 (.tmp 23) (.const (.int .i64 0)) 27,
  .move (.tmp 24),
  .load 24 (.tmp 1),
  .call { callee := .value (.func 44), args := #[], argTypes := #[] },
  .call { callee := .value (.func 22), args := #[.tmp 26, .tmp 27], argTypes := #[24, 24] },
  .pick (.tmp 25) (.tmp 28) (.const (.bool false)),
  .move (.tmp 29),
  .load 24 (.tmp 1),
  .call { callee := .value (.func 26), args := #[.tmp 31], argTypes := #[24] },
  .binOp .eql 3 (.tmp 32) (.const (.int .i64 3)) 3,
  .pick (.tmp 30) (.tmp 33) (.const (.bool false)),
  .move (.tmp 34),
  .load 24 (.tmp 1),
  .call { callee := .value (.func 28), args := #[.tmp 36], argTypes := #[24] },
  .binOp .eql 3 (.tmp 37) (.const (.int .i64 2)) 3,
  .pick (.tmp 35) (.tmp 38) (.const (.bool false)),
  .move (.tmp 39),
  .load 24 (.tmp 1),
  .call { callee := .value (.func 30), args := #[.tmp 41, .const (.int .i64 6)], argTypes := #[24, 3] },
  .binOp .eql 3 (.tmp 42) (.const (.int .i64 5)) 3,
  .pick (.tmp 40) (.tmp 43) (.const (.bool false)),
  .move (.tmp 44),
  .load 24 (.tmp 1),
  .call { callee := .value (.func 25), args := #[.tmp 46, .const (.int .i64 3)], argTypes := #[24, 3] },
  .buildSlice 22 3 #[(0, .const (.int .i64 2)), (1, .const (.int .i64 5)), (2, .const (.int .i64 7))],
  .call { callee := .value (.func 23), args := #[.tmp 47, .tmp 48], argTypes := #[22, 22] },
  .pick (.tmp 45) (.tmp 49) (.const (.bool false)),
  .move (.tmp 50),
  .move (.tmp 4),
  .binOp .eql 27 (.tmp 52) (.const (.int .i64 0)) 27,
  .pick (.tmp 51) (.tmp 53) (.const (.bool false)),
  .move (.tmp 54),
  .fieldAddr 24 (.tmp 3) 1,
  .load 22 (.tmp 56),
  .buildSlice 22 4 #[(0, .const (.int .i64 2)), (1, .const (.int .i64 4)), (2, .const (.int .i64 5)), (3, .const (.int .i64 7))],
  .call { callee := .value (.func 23), args := #[.tmp 57, .tmp 58], argTypes := #[22, 22] },
  .pick (.tmp 55) (.tmp 59) (.const (.bool false)),
  .move (.tmp 60),
  .load 24 (.tmp 1),
  .buildSlice 22 4 #[(0, .const (.int .i64 2)), (1, .const (.int .i64 2)), (2, .const (.int .i64 9)), (3, .const (.int .i64 7))],
  .call { callee := .value (.func 39), args := #[.tmp 62, .tmp 63], argTypes := #[24, 22] },
  .binOp .eql 3 (.tmp 64) (.const (.int .i64 2)) 3,
  .pick (.tmp 61) (.tmp 65) (.const (.bool false)),
  .move (.tmp 66),
  .move (.tmp 6),
  .binOp .eql 27 (.tmp 68) (.const (.int .i64 0)) 27,
  .pick (.tmp 67) (.tmp 69) (.const (.bool false)),
  .move (.tmp 70),
  .move (.tmp 5),
  .binOp .eql 3 (.tmp 72) (.const (.int .i64 6)) 3,
  .pick (.tmp 71) (.tmp 73) (.const (.bool false)),
  .assign (.tmp 74)]
def wkNeeds : Nat → List Nat
  | 0 => []
  | 1 => [0]
  | 2 => [1]
  | 3 => []
  | 4 => []
  | 5 => [3, 4]
  | 6 => [2, 5]
  | 7 => [6]
  | 8 => []
  | 9 => [8]
  | 10 => [9]
  | 11 => [7, 10]
  | 12 => [11]
  | 13 => []
  | 14 => [13]
  | 15 => [14]
  | 16 => [12, 15]
  | 17 => [16]
  | 18 => []
  | 19 => [18]
  | 20 => [19]
  | 21 => [17, 20]
  | 22 => [21]
  | 23 => []
  | 24 => [23]
  | 25 => []
  | 26 => [24, 25]
  | 27 => [22, 26]
  | 28 => [27]
  | 29 => []
  | 30 => [29]
  | 31 => [28, 30]
  | 32 => [31]
  | 33 => []
  | 34 => [33]
  | 35 => []
  | 36 => [34, 35]
  | 37 => [32, 36]
  | 38 => [37]
  | 39 => []
  | 40 => []
  | 41 => [39, 40]
  | 42 => [41]
  | 43 => [38, 42]
  | 44 => [43]
  | 45 => []
  | 46 => [45]
  | 47 => [44, 46]
  | 48 => [47]
  | 49 => []
  | 50 => [49]
  | 51 => [48, 50]
  | 52 => [51]
  | _ => []
set_option maxRecDepth 100000 in
set_option maxHeartbeats 3200000 in
theorem wk_step {ops : Array Oper} {Q : Exit → Act → World → Prop} {a0 : Act} {w0 : World} (b1 b3 : Nat) (A1 A3 : Option Addr) (c1 c3 : Nat) (hops : ((List.range 53).map fun i => (ops[i]?).map Oper.op) = wkOps.map some)
    (hnd : ((List.range 53).all fun i => (wkNeeds i).all fun j => ((ops[i]?).map fun o => o.after.any fun e => Region.binds .any e && (e.on == j)).getD false) = true)
    (x1 : a0.tmps[1]? = some (.pointer (some ⟨b1, 0, none⟩))) (x2 : a0.tmps[2]? = some (.int .i64 0)) (x3 : a0.tmps[3]? = some (.pointer (some ⟨b3, 0, none⟩))) (x4 : a0.tmps[4]? = some (.int .i64 0)) (x5 : a0.tmps[5]? = some (.int .i64 6)) (x6 : a0.tmps[6]? = some (.int .i64 0))
    (hB1 : Blk w0 b1 24 [.int .i64 1, .slice A1 4 c1]) (hA1 : ArgI w0 A1 4 c1 [2, 3, 5, 7]) (hB3 : Blk w0 b3 24 [.int .i64 1, .slice A3 4 c3]) (hA3 : ArgI w0 A3 4 c3 [2, 4, 5, 7]) :
    ∀ i o, i < 53 → wkS i = false → ops[i]? = some o → o.dst = some (wkD i) → ∀ a w, Base wkD 53 a0 a → Below w0.heap.size w0 w → Region.wanted o (yielded ops a.tmps) = true →
      (∀ j, (o.after.any fun e => Region.binds .any e && (e.on == j)) = true → Has wkD (wkR b1 b3 A1 A3 c1 c3) j a w) →
      ∀ K : Act → World → Prop, (∀ v w', wkR b1 b3 A1 A3 c1 c3 i v w' → Below w.heap.size w w' → K (a.put o.dst v) w') → wpOp Try.prog ops Q i K a w := by
  intro i o hi hs ho hds a w hbase hbl hwt hdep0 K hK
  have hop : some o.op = wkOps[i]? := by
    have h1 : ((List.range 53).map fun i => (ops[i]?).map Oper.op)[i]? = some (some o.op) := by
      rw [List.getElem?_map, List.getElem?_range hi]; simp only [Option.map_some, ho]
    rw [hops, List.getElem?_map] at h1
    cases h2 : wkOps[i]? with
    | none => rw [h2] at h1; cases h1
    | some y => rw [h2] at h1; simp only [Option.map_some, Option.some.injEq] at h1; rw [h1]
  have hdep : ∀ j, j ∈ wkNeeds i → Has wkD (wkR b1 b3 A1 A3 c1 c3) j a w := fun j hj => by
    have h1 := List.all_eq_true.1 (List.all_eq_true.1 hnd i (List.mem_range.2 hi)) j hj
    rw [ho] at h1
    exact hdep0 j h1
  clear hdep0 hops hnd
  match i, hi, hs, ho, hop, hds, hdep, hK with
  | 0, _, hs, ho, hop, hds, hdep, hK =>
    have hop : o.op = .move (.tmp 2) := Option.some.inj hop
    have hu2 : a.tmps[2]? = some (.int .i64 0) := (hbase.2.2 2 (by decide)).trans x2
    have e2 : a.eval (.tmp 2) = _ := ev_tmp hu2
    refine st3 ho hwt (v := _) (w' := w) ?_ (hK _ w rfl (Below.refl _ _))
    unfold execOp
    rw [hop, ← e2]
    rfl
  | 1, _, hs, ho, hop, hds, hdep, hK =>
    have hop : o.op = .binOp .eql 27 (.tmp 23) (.const (.int .i64 0)) 27 := Option.some.inj hop
    obtain ⟨u23, hu23, hv23⟩ := hdep 0 (by decide)
    have hv23' : u23 = .int .i64 0 := hv23
    subst hv23'
    have e23 : a.eval (.tmp 23) = _ := ev_tmp hu23
    refine st3 ho hwt (v := .bool true) (w' := w) ?_ (hK _ w rfl (Below.refl _ _))
    unfold execOp
    simp only [hop, e23]
    first | rfl | go_simp | (go_simp; simp)
  | 2, _, hs, ho, hop, hds, hdep, hK =>
    have hop : o.op = .move (.tmp 24) := Option.some.inj hop
    obtain ⟨u24, hu24, hv24⟩ := hdep 1 (by decide)
    have hv24' : u24 = .bool true := hv24
    subst hv24'
    have e24 : a.eval (.tmp 24) = _ := ev_tmp hu24
    refine st3 ho hwt (v := _) (w' := w) ?_ (hK _ w rfl (Below.refl _ _))
    unfold execOp
    rw [hop, ← e24]
    rfl
  | 3, _, hs, ho, hop, hds, hdep, hK =>
    have hop : o.op = .load 24 (.tmp 1) := Option.some.inj hop
    have hu1 : a.tmps[1]? = some (.pointer (some ⟨b1, 0, none⟩)) := (hbase.2.2 1 (by decide)).trans x1
    have e1 : a.eval (.tmp 1) = _ := ev_tmp hu1
    refine st3 ho hwt (v := .agg #[.int .i64 1, .slice A1 4 c1]) (w' := w) ?_ (hK _ w rfl (Below.refl _ _))
    have k0 : w.cell? ⟨b1, 0, none⟩ = some (.int .i64 1) := (hB1.below hbl hB1.lt).cell rfl
    have k1 : w.cell? ⟨b1, 1, none⟩ = some (.slice A1 4 c1) := (hB1.below hbl hB1.lt).cell rfl
    unfold execOp
    simp only [hop, e1]
    go_simp
  | 4, _, hs, ho, hop, hds, hdep, hK =>
    have hop : o.op = .call { callee := .value (.func 44), args := #[], argTypes := #[] } := Option.some.inj hop
    refine st3_call ho hwt (f := 44) (vals := #[]) (Z := fun v w' => CrewV w' v 1 [2, 3, 5, 7] ∧ Below w.heap.size w w') ?_ ?_ ?_
    · unfold execOp
      simp only [hop, resolve, invoke, Sem.run_bind, Sem.run_pure, Result.andThen_ok, List.map_toArray, List.map_cons, List.map_nil]
      first | rfl | exact enters_of Try.func44 (by kernel_rfl) rfl _ _
    · exact (chapter_any w).mono fun e w' ⟨v, he, h1, h2⟩ => ⟨v, he, h1, h2⟩
    · rintro v w' ⟨h1, h2⟩
      exact hK v w' h1 h2
  | 5, _, hs, ho, hop, hds, hdep, hK =>
    have hop : o.op = .call { callee := .value (.func 22), args := #[.tmp 26, .tmp 27], argTypes := #[24, 24] } := Option.some.inj hop
    obtain ⟨u26, hu26, hv26⟩ := hdep 3 (by decide)
    have hv26' : u26 = .agg #[.int .i64 1, .slice A1 4 c1] := hv26
    subst hv26'
    have e26 : a.eval (.tmp 26) = _ := ev_tmp hu26
    obtain ⟨u27, hu27, hv27⟩ := hdep 4 (by decide)
    have hv27' : CrewV w u27 1 [2, 3, 5, 7] := hv27
    have e27 : a.eval (.tmp 27) = _ := ev_tmp hu27
    obtain ⟨A2, c2, rfl, hA2⟩ := hv27'
    refine st3_call ho hwt (f := 22) (vals := #[.agg #[.int .i64 1, .slice A1 4 c1], .agg #[.int .i64 1, .slice A2 4 c2]]) (Z := fun v w' => v = .bool true ∧ Below w.heap.size w w') ?_ ?_ ?_
    · unfold execOp
      simp only [hop, e26, e27, resolve, invoke, Sem.run_bind, Sem.run_pure, Result.andThen_ok, List.map_toArray, List.map_cons, List.map_nil]
      first | rfl | exact enters_of Try.func22 (by kernel_rfl) rfl _ _
    · exact (same_any 1 1 A1 A2 4 4 c1 c2 [2, 3, 5, 7] [2, 3, 5, 7] w (hA1.after hbl) hA2).mono fun e w' ⟨he, h2⟩ => ⟨_, he, congrArg Value.bool (by decide), h2⟩
    · rintro v w' ⟨h1, h2⟩
      exact hK v w' h1 h2
  | 6, _, hs, ho, hop, hds, hdep, hK =>
    have hop : o.op = .pick (.tmp 25) (.tmp 28) (.const (.bool false)) := Option.some.inj hop
    obtain ⟨u25, hu25, hv25⟩ := hdep 2 (by decide)
    have hv25' : u25 = .bool true := hv25
    subst hv25'
    have e25 : a.eval (.tmp 25) = _ := ev_tmp hu25
    obtain ⟨u28, hu28, hv28⟩ := hdep 5 (by decide)
    have hv28' : u28 = .bool true := hv28
    subst hv28'
    have e28 : a.eval (.tmp 28) = _ := ev_tmp hu28
    refine st3 ho hwt (v := .bool true) (w' := w) ?_ (hK _ w rfl (Below.refl _ _))
    unfold execOp
    simp only [hop, e25, e28]
    first | rfl | go_simp | (go_simp; simp)
  | 7, _, hs, ho, hop, hds, hdep, hK =>
    have hop : o.op = .move (.tmp 29) := Option.some.inj hop
    obtain ⟨u29, hu29, hv29⟩ := hdep 6 (by decide)
    have hv29' : u29 = .bool true := hv29
    subst hv29'
    have e29 : a.eval (.tmp 29) = _ := ev_tmp hu29
    refine st3 ho hwt (v := _) (w' := w) ?_ (hK _ w rfl (Below.refl _ _))
    unfold execOp
    rw [hop, ← e29]
    rfl
  | 8, _, hs, ho, hop, hds, hdep, hK =>
    have hop : o.op = .load 24 (.tmp 1) := Option.some.inj hop
    have hu1 : a.tmps[1]? = some (.pointer (some ⟨b1, 0, none⟩)) := (hbase.2.2 1 (by decide)).trans x1
    have e1 : a.eval (.tmp 1) = _ := ev_tmp hu1
    refine st3 ho hwt (v := .agg #[.int .i64 1, .slice A1 4 c1]) (w' := w) ?_ (hK _ w rfl (Below.refl _ _))
    have k0 : w.cell? ⟨b1, 0, none⟩ = some (.int .i64 1) := (hB1.below hbl hB1.lt).cell rfl
    have k1 : w.cell? ⟨b1, 1, none⟩ = some (.slice A1 4 c1) := (hB1.below hbl hB1.lt).cell rfl
    unfold execOp
    simp only [hop, e1]
    go_simp
  | 9, _, hs, ho, hop, hds, hdep, hK =>
    have hop : o.op = .call { callee := .value (.func 26), args := #[.tmp 31], argTypes := #[24] } := Option.some.inj hop
    obtain ⟨u31, hu31, hv31⟩ := hdep 8 (by decide)
    have hv31' : u31 = .agg #[.int .i64 1, .slice A1 4 c1] := hv31
    subst hv31'
    have e31 : a.eval (.tmp 31) = _ := ev_tmp hu31
    refine st3_call ho hwt (f := 26) (vals := #[.agg #[.int .i64 1, .slice A1 4 c1]]) (Z := fun v w' => v = .int .i64 3 ∧ Below w.heap.size w w') ?_ ?_ ?_
    · unfold execOp
      simp only [hop, e31, resolve, invoke, Sem.run_bind, Sem.run_pure, Result.andThen_ok, List.map_toArray, List.map_cons, List.map_nil]
      first | rfl | exact enters_of Try.func26 (by kernel_rfl) rfl _ _
    · exact (most_any 1 A1 4 c1 [2, 3, 5, 7] w (hA1.after hbl)).mono fun e w' ⟨he, h2⟩ => ⟨_, he, congrArg (Value.int .i64) (by decide +kernel), h2⟩
    · rintro v w' ⟨h1, h2⟩
      exact hK v w' h1 h2
  | 10, _, hs, ho, hop, hds, hdep, hK =>
    have hop : o.op = .binOp .eql 3 (.tmp 32) (.const (.int .i64 3)) 3 := Option.some.inj hop
    obtain ⟨u32, hu32, hv32⟩ := hdep 9 (by decide)
    have hv32' : u32 = .int .i64 3 := hv32
    subst hv32'
    have e32 : a.eval (.tmp 32) = _ := ev_tmp hu32
    refine st3 ho hwt (v := .bool true) (w' := w) ?_ (hK _ w rfl (Below.refl _ _))
    unfold execOp
    simp only [hop, e32]
    first | rfl | go_simp | (go_simp; simp)
  | 11, _, hs, ho, hop, hds, hdep, hK =>
    have hop : o.op = .pick (.tmp 30) (.tmp 33) (.const (.bool false)) := Option.some.inj hop
    obtain ⟨u30, hu30, hv30⟩ := hdep 7 (by decide)
    have hv30' : u30 = .bool true := hv30
    subst hv30'
    have e30 : a.eval (.tmp 30) = _ := ev_tmp hu30
    obtain ⟨u33, hu33, hv33⟩ := hdep 10 (by decide)
    have hv33' : u33 = .bool true := hv33
    subst hv33'
    have e33 : a.eval (.tmp 33) = _ := ev_tmp hu33
    refine st3 ho hwt (v := .bool true) (w' := w) ?_ (hK _ w rfl (Below.refl _ _))
    unfold execOp
    simp only [hop, e30, e33]
    first | rfl | go_simp | (go_simp; simp)
  | 12, _, hs, ho, hop, hds, hdep, hK =>
    have hop : o.op = .move (.tmp 34) := Option.some.inj hop
    obtain ⟨u34, hu34, hv34⟩ := hdep 11 (by decide)
    have hv34' : u34 = .bool true := hv34
    subst hv34'
    have e34 : a.eval (.tmp 34) = _ := ev_tmp hu34
    refine st3 ho hwt (v := _) (w' := w) ?_ (hK _ w rfl (Below.refl _ _))
    unfold execOp
    rw [hop, ← e34]
    rfl
  | 13, _, hs, ho, hop, hds, hdep, hK =>
    have hop : o.op = .load 24 (.tmp 1) := Option.some.inj hop
    have hu1 : a.tmps[1]? = some (.pointer (some ⟨b1, 0, none⟩)) := (hbase.2.2 1 (by decide)).trans x1
    have e1 : a.eval (.tmp 1) = _ := ev_tmp hu1
    refine st3 ho hwt (v := .agg #[.int .i64 1, .slice A1 4 c1]) (w' := w) ?_ (hK _ w rfl (Below.refl _ _))
    have k0 : w.cell? ⟨b1, 0, none⟩ = some (.int .i64 1) := (hB1.below hbl hB1.lt).cell rfl
    have k1 : w.cell? ⟨b1, 1, none⟩ = some (.slice A1 4 c1) := (hB1.below hbl hB1.lt).cell rfl
    unfold execOp
    simp only [hop, e1]
    go_simp
  | 14, _, hs, ho, hop, hds, hdep, hK =>
    have hop : o.op = .call { callee := .value (.func 28), args := #[.tmp 36], argTypes := #[24] } := Option.some.inj hop
    obtain ⟨u36, hu36, hv36⟩ := hdep 13 (by decide)
    have hv36' : u36 = .agg #[.int .i64 1, .slice A1 4 c1] := hv36
    subst hv36'
    have e36 : a.eval (.tmp 36) = _ := ev_tmp hu36
    refine st3_call ho hwt (f := 28) (vals := #[.agg #[.int .i64 1, .slice A1 4 c1]]) (Z := fun v w' => v = .int .i64 2 ∧ Below w.heap.size w w') ?_ ?_ ?_
    · unfold execOp
      simp only [hop, e36, resolve, invoke, Sem.run_bind, Sem.run_pure, Result.andThen_ok, List.map_toArray, List.map_cons, List.map_nil]
      first | rfl | exact enters_of Try.func28 (by kernel_rfl) rfl _ _
    · exact (some_any 1 A1 4 c1 [2, 3, 5, 7] w (hA1.after hbl)).mono fun e w' ⟨he, h2⟩ => ⟨_, he, congrArg (Value.int .i64) (by decide +kernel), h2⟩
    · rintro v w' ⟨h1, h2⟩
      exact hK v w' h1 h2
  | 15, _, hs, ho, hop, hds, hdep, hK =>
    have hop : o.op = .binOp .eql 3 (.tmp 37) (.const (.int .i64 2)) 3 := Option.some.inj hop
    obtain ⟨u37, hu37, hv37⟩ := hdep 14 (by decide)
    have hv37' : u37 = .int .i64 2 := hv37
    subst hv37'
    have e37 : a.eval (.tmp 37) = _ := ev_tmp hu37
    refine st3 ho hwt (v := .bool true) (w' := w) ?_ (hK _ w rfl (Below.refl _ _))
    unfold execOp
    simp only [hop, e37]
    first | rfl | go_simp | (go_simp; simp)
  | 16, _, hs, ho, hop, hds, hdep, hK =>
    have hop : o.op = .pick (.tmp 35) (.tmp 38) (.const (.bool false)) := Option.some.inj hop
    obtain ⟨u35, hu35, hv35⟩ := hdep 12 (by decide)
    have hv35' : u35 = .bool true := hv35
    subst hv35'
    have e35 : a.eval (.tmp 35) = _ := ev_tmp hu35
    obtain ⟨u38, hu38, hv38⟩ := hdep 15 (by decide)
    have hv38' : u38 = .bool true := hv38
    subst hv38'
    have e38 : a.eval (.tmp 38) = _ := ev_tmp hu38
    refine st3 ho hwt (v := .bool true) (w' := w) ?_ (hK _ w rfl (Below.refl _ _))
    unfold execOp
    simp only [hop, e35, e38]
    first | rfl | go_simp | (go_simp; simp)
  | 17, _, hs, ho, hop, hds, hdep, hK =>
    have hop : o.op = .move (.tmp 39) := Option.some.inj hop
    obtain ⟨u39, hu39, hv39⟩ := hdep 16 (by decide)
    have hv39' : u39 = .bool true := hv39
    subst hv39'
    have e39 : a.eval (.tmp 39) = _ := ev_tmp hu39
    refine st3 ho hwt (v := _) (w' := w) ?_ (hK _ w rfl (Below.refl _ _))
    unfold execOp
    rw [hop, ← e39]
    rfl
  | 18, _, hs, ho, hop, hds, hdep, hK =>
    have hop : o.op = .load 24 (.tmp 1) := Option.some.inj hop
    have hu1 : a.tmps[1]? = some (.pointer (some ⟨b1, 0, none⟩)) := (hbase.2.2 1 (by decide)).trans x1
    have e1 : a.eval (.tmp 1) = _ := ev_tmp hu1
    refine st3 ho hwt (v := .agg #[.int .i64 1, .slice A1 4 c1]) (w' := w) ?_ (hK _ w rfl (Below.refl _ _))
    have k0 : w.cell? ⟨b1, 0, none⟩ = some (.int .i64 1) := (hB1.below hbl hB1.lt).cell rfl
    have k1 : w.cell? ⟨b1, 1, none⟩ = some (.slice A1 4 c1) := (hB1.below hbl hB1.lt).cell rfl
    unfold execOp
    simp only [hop, e1]
    go_simp
  | 19, _, hs, ho, hop, hds, hdep, hK =>
    have hop : o.op = .call { callee := .value (.func 30), args := #[.tmp 41, .const (.int .i64 6)], argTypes := #[24, 3] } := Option.some.inj hop
    obtain ⟨u41, hu41, hv41⟩ := hdep 18 (by decide)
    have hv41' : u41 = .agg #[.int .i64 1, .slice A1 4 c1] := hv41
    subst hv41'
    have e41 : a.eval (.tmp 41) = _ := ev_tmp hu41
    refine st3_call ho hwt (f := 30) (vals := #[.agg #[.int .i64 1, .slice A1 4 c1], .int .i64 6]) (Z := fun v w' => v = .int .i64 5 ∧ Below w.heap.size w w') ?_ ?_ ?_
    · unfold execOp
      simp only [hop, e41, resolve, invoke, Sem.run_bind, Sem.run_pure, Result.andThen_ok, List.map_toArray, List.map_cons, List.map_nil]
      first | rfl | exact enters_of Try.func30 (by kernel_rfl) rfl _ _
    · exact (leader_any 1 A1 4 c1 [2, 3, 5, 7] w (hA1.after hbl) 6 (by decide)).mono fun e w' ⟨he, h2⟩ => ⟨_, he, congrArg (Value.int .i64) (by decide +kernel), h2⟩
    · rintro v w' ⟨h1, h2⟩
      exact hK v w' h1 h2
  | 20, _, hs, ho, hop, hds, hdep, hK =>
    have hop : o.op = .binOp .eql 3 (.tmp 42) (.const (.int .i64 5)) 3 := Option.some.inj hop
    obtain ⟨u42, hu42, hv42⟩ := hdep 19 (by decide)
    have hv42' : u42 = .int .i64 5 := hv42
    subst hv42'
    have e42 : a.eval (.tmp 42) = _ := ev_tmp hu42
    refine st3 ho hwt (v := .bool true) (w' := w) ?_ (hK _ w rfl (Below.refl _ _))
    unfold execOp
    simp only [hop, e42]
    first | rfl | go_simp | (go_simp; simp)
  | 21, _, hs, ho, hop, hds, hdep, hK =>
    have hop : o.op = .pick (.tmp 40) (.tmp 43) (.const (.bool false)) := Option.some.inj hop
    obtain ⟨u40, hu40, hv40⟩ := hdep 17 (by decide)
    have hv40' : u40 = .bool true := hv40
    subst hv40'
    have e40 : a.eval (.tmp 40) = _ := ev_tmp hu40
    obtain ⟨u43, hu43, hv43⟩ := hdep 20 (by decide)
    have hv43' : u43 = .bool true := hv43
    subst hv43'
    have e43 : a.eval (.tmp 43) = _ := ev_tmp hu43
    refine st3 ho hwt (v := .bool true) (w' := w) ?_ (hK _ w rfl (Below.refl _ _))
    unfold execOp
    simp only [hop, e40, e43]
    first | rfl | go_simp | (go_simp; simp)
  | 22, _, hs, ho, hop, hds, hdep, hK =>
    have hop : o.op = .move (.tmp 44) := Option.some.inj hop
    obtain ⟨u44, hu44, hv44⟩ := hdep 21 (by decide)
    have hv44' : u44 = .bool true := hv44
    subst hv44'
    have e44 : a.eval (.tmp 44) = _ := ev_tmp hu44
    refine st3 ho hwt (v := _) (w' := w) ?_ (hK _ w rfl (Below.refl _ _))
    unfold execOp
    rw [hop, ← e44]
    rfl
  | 23, _, hs, ho, hop, hds, hdep, hK =>
    have hop : o.op = .load 24 (.tmp 1) := Option.some.inj hop
    have hu1 : a.tmps[1]? = some (.pointer (some ⟨b1, 0, none⟩)) := (hbase.2.2 1 (by decide)).trans x1
    have e1 : a.eval (.tmp 1) = _ := ev_tmp hu1
    refine st3 ho hwt (v := .agg #[.int .i64 1, .slice A1 4 c1]) (w' := w) ?_ (hK _ w rfl (Below.refl _ _))
    have k0 : w.cell? ⟨b1, 0, none⟩ = some (.int .i64 1) := (hB1.below hbl hB1.lt).cell rfl
    have k1 : w.cell? ⟨b1, 1, none⟩ = some (.slice A1 4 c1) := (hB1.below hbl hB1.lt).cell rfl
    unfold execOp
    simp only [hop, e1]
    go_simp
  | 24, _, hs, ho, hop, hds, hdep, hK =>
    have hop : o.op = .call { callee := .value (.func 25), args := #[.tmp 46, .const (.int .i64 3)], argTypes := #[24, 3] } := Option.some.inj hop
    obtain ⟨u46, hu46, hv46⟩ := hdep 23 (by decide)
    have hv46' : u46 = .agg #[.int .i64 1, .slice A1 4 c1] := hv46
    subst hv46'
    have e46 : a.eval (.tmp 46) = _ := ev_tmp hu46
    refine st3_call ho hwt (f := 25) (vals := #[.agg #[.int .i64 1, .slice A1 4 c1], .int .i64 3]) (Z := fun v w' => ListV w' v [2, 5, 7] ∧ Below w.heap.size w w') ?_ ?_ ?_
    · unfold execOp
      simp only [hop, e46, resolve, invoke, Sem.run_bind, Sem.run_pure, Result.andThen_ok, List.map_toArray, List.map_cons, List.map_nil]
      first | rfl | exact enters_of Try.func25 (by kernel_rfl) rfl _ _
    · exact (others_any 1 A1 4 c1 [2, 3, 5, 7] w (hA1.after hbl) 3).mono fun e w' ⟨v, he, hN⟩ => ⟨v, he, hN.list (by decide), hN.2⟩
    · rintro v w' ⟨h1, h2⟩
      exact hK v w' h1 h2
  | 25, _, hs, ho, hop, hds, hdep, hK =>
    have hop : o.op = .buildSlice 22 3 #[(0, .const (.int .i64 2)), (1, .const (.int .i64 5)), (2, .const (.int .i64 7))] := Option.some.inj hop
    have hrun : (Instr.buildSlice 22 3 #[(0, Value.int .i64 2), (1, Value.int .i64 5), (2, Value.int .i64 7)]).run Try.prog w = .ok (.slice (some ⟨w.heap.size, 0, none⟩) 3 3) (w.alloc (.cells (cis [2, 5, 7]).toArray 3)) := by kernel_rfl
    refine st3 ho hwt (v := .slice (some ⟨w.heap.size, 0, none⟩) 3 3) (w' := w.alloc (.cells (cis [2, 5, 7]).toArray 3)) ?_ (hK _ _ ⟨_, _, rfl, list_new w [2, 5, 7] (by decide) (by decide)⟩ ((Below.refl _ _).alloc (Nat.le_refl _) _))
    unfold execOp
    simp only [hop, List.map_toArray, List.map_cons, List.map_nil, Act.eval, Sem.run_bind, hrun, Result.andThen_ok]
    rfl
  | 26, _, hs, ho, hop, hds, hdep, hK =>
    have hop : o.op = .call { callee := .value (.func 23), args := #[.tmp 47, .tmp 48], argTypes := #[22, 22] } := Option.some.inj hop
    obtain ⟨u47, hu47, hv47⟩ := hdep 24 (by decide)
    have hv47' : ListV w u47 [2, 5, 7] := hv47
    have e47 : a.eval (.tmp 47) = _ := ev_tmp hu47
    obtain ⟨u48, hu48, hv48⟩ := hdep 25 (by decide)
    have hv48' : ListV w u48 [2, 5, 7] := hv48
    have e48 : a.eval (.tmp 48) = _ := ev_tmp hu48
    obtain ⟨A2, c2, rfl, hA2⟩ := hv47'
    obtain ⟨A3, c3, rfl, hA3⟩ := hv48'
    refine st3_call ho hwt (f := 23) (vals := #[.slice A2 3 c2, .slice A3 3 c3]) (Z := fun v w' => v = .bool true ∧ Below w.heap.size w w') ?_ ?_ ?_
    · unfold execOp
      simp only [hop, e47, e48, resolve, invoke, Sem.run_bind, Sem.run_pure, Result.andThen_ok, List.map_toArray, List.map_cons, List.map_nil]
      first | rfl | exact enters_of Try.func23 (by kernel_rfl) rfl _ _
    · exact (eqInts_any A2 A3 3 3 c2 c3 [2, 5, 7] [2, 5, 7] w hA2 hA3).mono fun e w' ⟨he, h2⟩ => ⟨_, he, congrArg Value.bool (by decide), h2⟩
    · rintro v w' ⟨h1, h2⟩
      exact hK v w' h1 h2
  | 27, _, hs, ho, hop, hds, hdep, hK =>
    have hop : o.op = .pick (.tmp 45) (.tmp 49) (.const (.bool false)) := Option.some.inj hop
    obtain ⟨u45, hu45, hv45⟩ := hdep 22 (by decide)
    have hv45' : u45 = .bool true := hv45
    subst hv45'
    have e45 : a.eval (.tmp 45) = _ := ev_tmp hu45
    obtain ⟨u49, hu49, hv49⟩ := hdep 26 (by decide)
    have hv49' : u49 = .bool true := hv49
    subst hv49'
    have e49 : a.eval (.tmp 49) = _ := ev_tmp hu49
    refine st3 ho hwt (v := .bool true) (w' := w) ?_ (hK _ w rfl (Below.refl _ _))
    unfold execOp
    simp only [hop, e45, e49]
    first | rfl | go_simp | (go_simp; simp)
  | 28, _, hs, ho, hop, hds, hdep, hK =>
    have hop : o.op = .move (.tmp 50) := Option.some.inj hop
    obtain ⟨u50, hu50, hv50⟩ := hdep 27 (by decide)
    have hv50' : u50 = .bool true := hv50
    subst hv50'
    have e50 : a.eval (.tmp 50) = _ := ev_tmp hu50
    refine st3 ho hwt (v := _) (w' := w) ?_ (hK _ w rfl (Below.refl _ _))
    unfold execOp
    rw [hop, ← e50]
    rfl
  | 29, _, hs, ho, hop, hds, hdep, hK =>
    have hop : o.op = .move (.tmp 4) := Option.some.inj hop
    have hu4 : a.tmps[4]? = some (.int .i64 0) := (hbase.2.2 4 (by decide)).trans x4
    have e4 : a.eval (.tmp 4) = _ := ev_tmp hu4
    refine st3 ho hwt (v := _) (w' := w) ?_ (hK _ w rfl (Below.refl _ _))
    unfold execOp
    rw [hop, ← e4]
    rfl
  | 30, _, hs, ho, hop, hds, hdep, hK =>
    have hop : o.op = .binOp .eql 27 (.tmp 52) (.const (.int .i64 0)) 27 := Option.some.inj hop
    obtain ⟨u52, hu52, hv52⟩ := hdep 29 (by decide)
    have hv52' : u52 = .int .i64 0 := hv52
    subst hv52'
    have e52 : a.eval (.tmp 52) = _ := ev_tmp hu52
    refine st3 ho hwt (v := .bool true) (w' := w) ?_ (hK _ w rfl (Below.refl _ _))
    unfold execOp
    simp only [hop, e52]
    first | rfl | go_simp | (go_simp; simp)
  | 31, _, hs, ho, hop, hds, hdep, hK =>
    have hop : o.op = .pick (.tmp 51) (.tmp 53) (.const (.bool false)) := Option.some.inj hop
    obtain ⟨u51, hu51, hv51⟩ := hdep 28 (by decide)
    have hv51' : u51 = .bool true := hv51
    subst hv51'
    have e51 : a.eval (.tmp 51) = _ := ev_tmp hu51
    obtain ⟨u53, hu53, hv53⟩ := hdep 30 (by decide)
    have hv53' : u53 = .bool true := hv53
    subst hv53'
    have e53 : a.eval (.tmp 53) = _ := ev_tmp hu53
    refine st3 ho hwt (v := .bool true) (w' := w) ?_ (hK _ w rfl (Below.refl _ _))
    unfold execOp
    simp only [hop, e51, e53]
    first | rfl | go_simp | (go_simp; simp)
  | 32, _, hs, ho, hop, hds, hdep, hK =>
    have hop : o.op = .move (.tmp 54) := Option.some.inj hop
    obtain ⟨u54, hu54, hv54⟩ := hdep 31 (by decide)
    have hv54' : u54 = .bool true := hv54
    subst hv54'
    have e54 : a.eval (.tmp 54) = _ := ev_tmp hu54
    refine st3 ho hwt (v := _) (w' := w) ?_ (hK _ w rfl (Below.refl _ _))
    unfold execOp
    rw [hop, ← e54]
    rfl
  | 33, _, hs, ho, hop, hds, hdep, hK =>
    have hop : o.op = .fieldAddr 24 (.tmp 3) 1 := Option.some.inj hop
    have hu3 : a.tmps[3]? = some (.pointer (some ⟨b3, 0, none⟩)) := (hbase.2.2 3 (by decide)).trans x3
    have e3 : a.eval (.tmp 3) = _ := ev_tmp hu3
    refine st3 ho hwt (v := .pointer (some ⟨b3, 1, none⟩)) (w' := w) ?_ (hK _ w rfl (Below.refl _ _))
    unfold execOp
    simp only [hop, e3]
    go_simp
  | 34, _, hs, ho, hop, hds, hdep, hK =>
    have hop : o.op = .load 22 (.tmp 56) := Option.some.inj hop
    obtain ⟨u56, hu56, hv56⟩ := hdep 33 (by decide)
    have hv56' : u56 = .pointer (some ⟨b3, 1, none⟩) := hv56
    subst hv56'
    have e56 : a.eval (.tmp 56) = _ := ev_tmp hu56
    refine st3 ho hwt (v := .slice A3 4 c3) (w' := w) ?_ (hK _ w rfl (Below.refl _ _))
    have k1 : w.cell? ⟨b3, 1, none⟩ = some (.slice A3 4 c3) := (hB3.below hbl hB3.lt).cell rfl
    unfold execOp
    simp only [hop, e56]
    go_simp
  | 35, _, hs, ho, hop, hds, hdep, hK =>
    have hop : o.op = .buildSlice 22 4 #[(0, .const (.int .i64 2)), (1, .const (.int .i64 4)), (2, .const (.int .i64 5)), (3, .const (.int .i64 7))] := Option.some.inj hop
    have hrun : (Instr.buildSlice 22 4 #[(0, Value.int .i64 2), (1, Value.int .i64 4), (2, Value.int .i64 5), (3, Value.int .i64 7)]).run Try.prog w = .ok (.slice (some ⟨w.heap.size, 0, none⟩) 4 4) (w.alloc (.cells (cis [2, 4, 5, 7]).toArray 3)) := by kernel_rfl
    refine st3 ho hwt (v := .slice (some ⟨w.heap.size, 0, none⟩) 4 4) (w' := w.alloc (.cells (cis [2, 4, 5, 7]).toArray 3)) ?_ (hK _ _ ⟨_, _, rfl, list_new w [2, 4, 5, 7] (by decide) (by decide)⟩ ((Below.refl _ _).alloc (Nat.le_refl _) _))
    unfold execOp
    simp only [hop, List.map_toArray, List.map_cons, List.map_nil, Act.eval, Sem.run_bind, hrun, Result.andThen_ok]
    rfl
  | 36, _, hs, ho, hop, hds, hdep, hK =>
    have hop : o.op = .call { callee := .value (.func 23), args := #[.tmp 57, .tmp 58], argTypes := #[22, 22] } := Option.some.inj hop
    obtain ⟨u57, hu57, hv57⟩ := hdep 34 (by decide)
    have hv57' : u57 = .slice A3 4 c3 := hv57
    subst hv57'
    have e57 : a.eval (.tmp 57) = _ := ev_tmp hu57
    obtain ⟨u58, hu58, hv58⟩ := hdep 35 (by decide)
    have hv58' : ListV w u58 [2, 4, 5, 7] := hv58
    have e58 : a.eval (.tmp 58) = _ := ev_tmp hu58
    obtain ⟨A2, c2, rfl, hA2⟩ := hv58'
    refine st3_call ho hwt (f := 23) (vals := #[.slice A3 4 c3, .slice A2 4 c2]) (Z := fun v w' => v = .bool true ∧ Below w.heap.size w w') ?_ ?_ ?_
    · unfold execOp
      simp only [hop, e57, e58, resolve, invoke, Sem.run_bind, Sem.run_pure, Result.andThen_ok, List.map_toArray, List.map_cons, List.map_nil]
      first | rfl | exact enters_of Try.func23 (by kernel_rfl) rfl _ _
    · exact (eqInts_any A3 A2 4 4 c3 c2 [2, 4, 5, 7] [2, 4, 5, 7] w (hA3.after hbl) hA2).mono fun e w' ⟨he, h2⟩ => ⟨_, he, congrArg Value.bool (by decide), h2⟩
    · rintro v w' ⟨h1, h2⟩
      exact hK v w' h1 h2
  | 37, _, hs, ho, hop, hds, hdep, hK =>
    have hop : o.op = .pick (.tmp 55) (.tmp 59) (.const (.bool false)) := Option.some.inj hop
    obtain ⟨u55, hu55, hv55⟩ := hdep 32 (by decide)
    have hv55' : u55 = .bool true := hv55
    subst hv55'
    have e55 : a.eval (.tmp 55) = _ := ev_tmp hu55
    obtain ⟨u59, hu59, hv59⟩ := hdep 36 (by decide)
    have hv59' : u59 = .bool true := hv59
    subst hv59'
    have e59 : a.eval (.tmp 59) = _ := ev_tmp hu59
    refine st3 ho hwt (v := .bool true) (w' := w) ?_ (hK _ w rfl (Below.refl _ _))
    unfold execOp
    simp only [hop, e55, e59]
    first | rfl | go_simp | (go_simp; simp)
  | 38, _, hs, ho, hop, hds, hdep, hK =>
    have hop : o.op = .move (.tmp 60) := Option.some.inj hop
    obtain ⟨u60, hu60, hv60⟩ := hdep 37 (by decide)
    have hv60' : u60 = .bool true := hv60
    subst hv60'
    have e60 : a.eval (.tmp 60) = _ := ev_tmp hu60
    refine st3 ho hwt (v := _) (w' := w) ?_ (hK _ w rfl (Below.refl _ _))
    unfold execOp
    rw [hop, ← e60]
    rfl
  | 39, _, hs, ho, hop, hds, hdep, hK =>
    have hop : o.op = .load 24 (.tmp 1) := Option.some.inj hop
    have hu1 : a.tmps[1]? = some (.pointer (some ⟨b1, 0, none⟩)) := (hbase.2.2 1 (by decide)).trans x1
    have e1 : a.eval (.tmp 1) = _ := ev_tmp hu1
    refine st3 ho hwt (v := .agg #[.int .i64 1, .slice A1 4 c1]) (w' := w) ?_ (hK _ w rfl (Below.refl _ _))
    have k0 : w.cell? ⟨b1, 0, none⟩ = some (.int .i64 1) := (hB1.below hbl hB1.lt).cell rfl
    have k1 : w.cell? ⟨b1, 1, none⟩ = some (.slice A1 4 c1) := (hB1.below hbl hB1.lt).cell rfl
    unfold execOp
    simp only [hop, e1]
    go_simp
  | 40, _, hs, ho, hop, hds, hdep, hK =>
    have hop : o.op = .buildSlice 22 4 #[(0, .const (.int .i64 2)), (1, .const (.int .i64 2)), (2, .const (.int .i64 9)), (3, .const (.int .i64 7))] := Option.some.inj hop
    have hrun : (Instr.buildSlice 22 4 #[(0, Value.int .i64 2), (1, Value.int .i64 2), (2, Value.int .i64 9), (3, Value.int .i64 7)]).run Try.prog w = .ok (.slice (some ⟨w.heap.size, 0, none⟩) 4 4) (w.alloc (.cells (cis [2, 2, 9, 7]).toArray 3)) := by kernel_rfl
    refine st3 ho hwt (v := .slice (some ⟨w.heap.size, 0, none⟩) 4 4) (w' := w.alloc (.cells (cis [2, 2, 9, 7]).toArray 3)) ?_ (hK _ _ ⟨_, _, rfl, list_new w [2, 2, 9, 7] (by decide) (by decide)⟩ ((Below.refl _ _).alloc (Nat.le_refl _) _))
    unfold execOp
    simp only [hop, List.map_toArray, List.map_cons, List.map_nil, Act.eval, Sem.run_bind, hrun, Result.andThen_ok]
    rfl
  | 41, _, hs, ho, hop, hds, hdep, hK =>
    have hop : o.op = .call { callee := .value (.func 39), args := #[.tmp 62, .tmp 63], argTypes := #[24, 22] } := Option.some.inj hop
    obtain ⟨u62, hu62, hv62⟩ := hdep 39 (by decide)
    have hv62' : u62 = .agg #[.int .i64 1, .slice A1 4 c1] := hv62
    subst hv62'
    have e62 : a.eval (.tmp 62) = _ := ev_tmp hu62
    obtain ⟨u63, hu63, hv63⟩ := hdep 40 (by decide)
    have hv63' : ListV w u63 [2, 2, 9, 7] := hv63
    have e63 : a.eval (.tmp 63) = _ := ev_tmp hu63
    obtain ⟨A2, c2, rfl, hA2⟩ := hv63'
    refine st3_call ho hwt (f := 39) (vals := #[.agg #[.int .i64 1, .slice A1 4 c1], .slice A2 4 c2]) (Z := fun v w' => v = .int .i64 2 ∧ Below w.heap.size w w') ?_ ?_ ?_
    · unfold execOp
      simp only [hop, e62, e63, resolve, invoke, Sem.run_bind, Sem.run_pure, Result.andThen_ok, List.map_toArray, List.map_cons, List.map_nil]
      first | rfl | exact enters_of Try.func39 (by kernel_rfl) rfl _ _
    · exact (votes_any 1 A1 4 c1 [2, 3, 5, 7] w (hA1.after hbl) A2 4 c2 [2, 2, 9, 7] hA2).mono fun e w' ⟨he, h2⟩ => ⟨_, he, congrArg (Value.int .i64) (by decide +kernel), h2⟩
    · rintro v w' ⟨h1, h2⟩
      exact hK v w' h1 h2
  | 42, _, hs, ho, hop, hds, hdep, hK =>
    have hop : o.op = .binOp .eql 3 (.tmp 64) (.const (.int .i64 2)) 3 := Option.some.inj hop
    obtain ⟨u64, hu64, hv64⟩ := hdep 41 (by decide)
    have hv64' : u64 = .int .i64 2 := hv64
    subst hv64'
    have e64 : a.eval (.tmp 64) = _ := ev_tmp hu64
    refine st3 ho hwt (v := .bool true) (w' := w) ?_ (hK _ w rfl (Below.refl _ _))
    unfold execOp
    simp only [hop, e64]
    first | rfl | go_simp | (go_simp; simp)
  | 43, _, hs, ho, hop, hds, hdep, hK =>
    have hop : o.op = .pick (.tmp 61) (.tmp 65) (.const (.bool false)) := Option.some.inj hop
    obtain ⟨u61, hu61, hv61⟩ := hdep 38 (by decide)
    have hv61' : u61 = .bool true := hv61
    subst hv61'
    have e61 : a.eval (.tmp 61) = _ := ev_tmp hu61
    obtain ⟨u65, hu65, hv65⟩ := hdep 42 (by decide)
    have hv65' : u65 = .bool true := hv65
    subst hv65'
    have e65 : a.eval (.tmp 65) = _ := ev_tmp hu65
    refine st3 ho hwt (v := .bool true) (w' := w) ?_ (hK _ w rfl (Below.refl _ _))
    unfold execOp
    simp only [hop, e61, e65]
    first | rfl | go_simp | (go_simp; simp)
  | 44, _, hs, ho, hop, hds, hdep, hK =>
    have hop : o.op = .move (.tmp 66) := Option.some.inj hop
    obtain ⟨u66, hu66, hv66⟩ := hdep 43 (by decide)
    have hv66' : u66 = .bool true := hv66
    subst hv66'
    have e66 : a.eval (.tmp 66) = _ := ev_tmp hu66
    refine st3 ho hwt (v := _) (w' := w) ?_ (hK _ w rfl (Below.refl _ _))
    unfold execOp
    rw [hop, ← e66]
    rfl
  | 45, _, hs, ho, hop, hds, hdep, hK =>
    have hop : o.op = .move (.tmp 6) := Option.some.inj hop
    have hu6 : a.tmps[6]? = some (.int .i64 0) := (hbase.2.2 6 (by decide)).trans x6
    have e6 : a.eval (.tmp 6) = _ := ev_tmp hu6
    refine st3 ho hwt (v := _) (w' := w) ?_ (hK _ w rfl (Below.refl _ _))
    unfold execOp
    rw [hop, ← e6]
    rfl
  | 46, _, hs, ho, hop, hds, hdep, hK =>
    have hop : o.op = .binOp .eql 27 (.tmp 68) (.const (.int .i64 0)) 27 := Option.some.inj hop
    obtain ⟨u68, hu68, hv68⟩ := hdep 45 (by decide)
    have hv68' : u68 = .int .i64 0 := hv68
    subst hv68'
    have e68 : a.eval (.tmp 68) = _ := ev_tmp hu68
    refine st3 ho hwt (v := .bool true) (w' := w) ?_ (hK _ w rfl (Below.refl _ _))
    unfold execOp
    simp only [hop, e68]
    first | rfl | go_simp | (go_simp; simp)
  | 47, _, hs, ho, hop, hds, hdep, hK =>
    have hop : o.op = .pick (.tmp 67) (.tmp 69) (.const (.bool false)) := Option.some.inj hop
    obtain ⟨u67, hu67, hv67⟩ := hdep 44 (by decide)
    have hv67' : u67 = .bool true := hv67
    subst hv67'
    have e67 : a.eval (.tmp 67) = _ := ev_tmp hu67
    obtain ⟨u69, hu69, hv69⟩ := hdep 46 (by decide)
    have hv69' : u69 = .bool true := hv69
    subst hv69'
    have e69 : a.eval (.tmp 69) = _ := ev_tmp hu69
    refine st3 ho hwt (v := .bool true) (w' := w) ?_ (hK _ w rfl (Below.refl _ _))
    unfold execOp
    simp only [hop, e67, e69]
    first | rfl | go_simp | (go_simp; simp)
  | 48, _, hs, ho, hop, hds, hdep, hK =>
    have hop : o.op = .move (.tmp 70) := Option.some.inj hop
    obtain ⟨u70, hu70, hv70⟩ := hdep 47 (by decide)
    have hv70' : u70 = .bool true := hv70
    subst hv70'
    have e70 : a.eval (.tmp 70) = _ := ev_tmp hu70
    refine st3 ho hwt (v := _) (w' := w) ?_ (hK _ w rfl (Below.refl _ _))
    unfold execOp
    rw [hop, ← e70]
    rfl
  | 49, _, hs, ho, hop, hds, hdep, hK =>
    have hop : o.op = .move (.tmp 5) := Option.some.inj hop
    have hu5 : a.tmps[5]? = some (.int .i64 6) := (hbase.2.2 5 (by decide)).trans x5
    have e5 : a.eval (.tmp 5) = _ := ev_tmp hu5
    refine st3 ho hwt (v := _) (w' := w) ?_ (hK _ w rfl (Below.refl _ _))
    unfold execOp
    rw [hop, ← e5]
    rfl
  | 50, _, hs, ho, hop, hds, hdep, hK =>
    have hop : o.op = .binOp .eql 3 (.tmp 72) (.const (.int .i64 6)) 3 := Option.some.inj hop
    obtain ⟨u72, hu72, hv72⟩ := hdep 49 (by decide)
    have hv72' : u72 = .int .i64 6 := hv72
    subst hv72'
    have e72 : a.eval (.tmp 72) = _ := ev_tmp hu72
    refine st3 ho hwt (v := .bool true) (w' := w) ?_ (hK _ w rfl (Below.refl _ _))
    unfold execOp
    simp only [hop, e72]
    first | rfl | go_simp | (go_simp; simp)
  | 51, _, hs, ho, hop, hds, hdep, hK =>
    have hop : o.op = .pick (.tmp 71) (.tmp 73) (.const (.bool false)) := Option.some.inj hop
    obtain ⟨u71, hu71, hv71⟩ := hdep 48 (by decide)
    have hv71' : u71 = .bool true := hv71
    subst hv71'
    have e71 : a.eval (.tmp 71) = _ := ev_tmp hu71
    obtain ⟨u73, hu73, hv73⟩ := hdep 50 (by decide)
    have hv73' : u73 = .bool true := hv73
    subst hv73'
    have e73 : a.eval (.tmp 73) = _ := ev_tmp hu73
    refine st3 ho hwt (v := .bool true) (w' := w) ?_ (hK _ w rfl (Below.refl _ _))
    unfold execOp
    simp only [hop, e71, e73]
    first | rfl | go_simp | (go_simp; simp)
  | 52, _, hs, ho, hop, hds, hdep, hK =>
    have hop : o.op = .assign (.tmp 74) := Option.some.inj hop
    obtain ⟨u74, hu74, hv74⟩ := hdep 51 (by decide)
    have hv74' : u74 = .bool true := hv74
    subst hv74'
    have e74 : a.eval (.tmp 74) = _ := ev_tmp hu74
    refine st3 ho hwt (v := _) (w' := w) ?_ (hK _ w rfl (Below.refl _ _))
    unfold execOp
    rw [hop, ← e74]
    rfl
  | i + 53, hi, _, _, _, _, _, _ => exact absurd hi (by omega)
end Go.Proofs.Ytjibbbfpbflgmaa
