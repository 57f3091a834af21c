/-
  For all numbers faults and all words l (80 at most are looked at): if the first f nodes tell what they like and all others what is so, what is stable is so, what is known is so, and what is stable is known, or a greater one is; MarksTrue returns true; no condition.
-/
import Derived.Test.YtenccpccpjjkmaaZ01
import Derived.Test.YtenccpccpjjkmaaZ13
namespace Go.Proofs.Ytenccpccpjjkmaa.marksTrue
open Go.ChangeShapes Go.WideShapes Go.ChangeAt Go.RowKit Go.Maps Go.Shelf Go.Sort CrewP
set_option linter.unusedVariables false

set_option linter.unusedSimpArgs false
def taR (bx by_ : Nat) (xs ys : Int) (Z M0 : List Value) : Nat → Value → World → Prop
  | 0 => fun v w => v = .bool false
  | 1 => fun v w => v = .bool false
  | 2 => fun v w => v = undef
  | 3 => fun v w => v = undef
  | 4 => fun v w => v = undef
  | 5 => fun v w => v = undef
  | 6 => fun v w => v = undef
  | 7 => fun v w => v = .bool false
  | 8 => fun v w => v = .bool false
  | 9 => fun v w => v = .bool false
  | 10 => fun v w => v = .bool false
  | 11 => fun v w => v = undef
  | 12 => fun v w => v = undef
  | 13 => fun v w => v = undef
  | 14 => fun v w => v = undef
  | 15 => fun v w => v = undef
  | 16 => fun v w => v = .bool false
  | 17 => fun v w => v = .bool false
  | 18 => fun v w => v = .bool false
  | 19 => fun v w => v = .bool false
  | 20 => fun v w => v = .bool false
  | 21 => fun v w => v = undef
  | 22 => fun v w => v = undef
  | 23 => fun v w => v = undef
  | 24 => fun v w => v = undef
  | 25 => fun v w => v = undef
  | 26 => fun v w => v = undef
  | 27 => fun v w => v = undef
  | 28 => fun v w => v = undef
  | 29 => fun v w => v = undef
  | 30 => fun v w => v = .bool false
  | 31 => fun v w => v = .bool false
  | _ => fun _ _ => True
def taD (i : Nat) : Nat := ([69, 70, 71, 72, 73, 74, 75, 76, 77, 78, 79, 80, 81, 82, 83, 84, 85, 86, 87, 88, 89, 90, 91, 92, 93, 94, 95, 96, 97, 98, 99, 100] : List Nat).getD i 0
def taG : Nat → Option Bool
  | 1 => some false
  | 8 => some false
  | 10 => some false
  | 18 => some false
  | 20 => some false
  | _ => none
def taS (i : Nat) : Bool := ([2, 3, 4, 5, 6, 11, 12, 13, 14, 15, 21, 22, 23, 24, 25, 26, 27, 28, 29] : List Nat).contains i
theorem ta_gb (bx by_ : Nat) (xs ys : Int) (Z M0 : List Value) : ∀ i b v w, taG i = some b → taR bx by_ xs ys Z M0 i v w → v = .bool b := by
  intro i b v w h hR
  unfold taG at h
  split at h
  all_goals first | (injection h with h; subst h; exact hR) | cases h
theorem ta_sk (bx by_ : Nat) (xs ys : Int) (Z M0 : List Value) : ∀ i w, taS i = true → taR bx by_ xs ys Z M0 i undef w := by
  intro i w h
  have hm : i ∈ ([2, 3, 4, 5, 6, 11, 12, 13, 14, 15, 21, 22, 23, 24, 25, 26, 27, 28, 29] : List Nat) := by simpa [taS] using h
  simp only [List.mem_cons, List.not_mem_nil, or_false] at hm
  rcases hm with rfl | rfl | rfl | rfl | rfl | rfl | rfl | rfl | rfl | rfl | rfl | rfl | rfl | rfl | rfl | rfl | rfl | rfl | rfl
  all_goals rfl
theorem ta_un (bx by_ : Nat) (xs ys : Int) (Z M0 : List Value) : ∀ i v w, taS i = true → taR bx by_ xs ys Z M0 i v w → v = undef := by
  intro i v w h hR
  have hm : i ∈ ([2, 3, 4, 5, 6, 11, 12, 13, 14, 15, 21, 22, 23, 24, 25, 26, 27, 28, 29] : List Nat) := by simpa [taS] using h
  simp only [List.mem_cons, List.not_mem_nil, or_false] at hm
  rcases hm with rfl | rfl | rfl | rfl | rfl | rfl | rfl | rfl | rfl | rfl | rfl | rfl | rfl | rfl | rfl | rfl | rfl | rfl | rfl
  all_goals exact hR
theorem ta_on (bx by_ : Nat) (xs ys : Int) (Z M0 : List Value) : ∀ i v w w', taR bx by_ xs ys Z M0 i v w → Below w.heap.size w w' → taR bx by_ xs ys Z M0 i v w'
  | 0, v, w, w', h, _ => h
  | 1, v, w, w', h, _ => h
  | 2, v, w, w', h, _ => h
  | 3, v, w, w', h, _ => h
  | 4, v, w, w', h, _ => h
  | 5, v, w, w', h, _ => h
  | 6, v, w, w', h, _ => h
  | 7, v, w, w', h, _ => h
  | 8, v, w, w', h, _ => h
  | 9, v, w, w', h, _ => h
  | 10, v, w, w', h, _ => h
  | 11, v, w, w', h, _ => h
  | 12, v, w, w', h, _ => h
  | 13, v, w, w', h, _ => h
  | 14, v, w, w', h, _ => h
  | 15, v, w, w', h, _ => h
  | 16, v, w, w', h, _ => h
  | 17, v, w, w', h, _ => h
  | 18, v, w, w', h, _ => h
  | 19, v, w, w', h, _ => h
  | 20, v, w, w', h, _ => h
  | 21, v, w, w', h, _ => h
  | 22, v, w, w', h, _ => h
  | 23, v, w, w', h, _ => h
  | 24, v, w, w', h, _ => h
  | 25, v, w, w', h, _ => h
  | 26, v, w, w', h, _ => h
  | 27, v, w, w', h, _ => h
  | 28, v, w, w', h, _ => h
  | 29, v, w, w', h, _ => h
  | 30, v, w, w', h, _ => h
  | 31, v, w, w', h, _ => h
  | i + 32, v, w, w', h, hb => trivial
def taOps : List Op := [.move (.tmp 11),
  .move (.tmp 69),
  .fieldAddr 28 (.tmp 10) 1,
  .load 26 (.tmp 71),
  .call { callee := .value (.func 19), args := #[.const (.int .i64 0), .const (.int .u8 0)], argTypes := #[3, 5] },
  .field 28 (.tmp 73) 1,
  .binOp .neq 26 (.tmp 72) (.tmp 74) 26,
  .pick (.tmp 70) (.tmp 75) (.const (.bool false)),
  .move (.tmp 76),
  .move (.tmp 13),
  .move (.tmp 78),
  .fieldAddr 28 (.tmp 12) 1,
  .load 26 (.tmp 80),
  .call { callee := .value (.func 19), args := #[.const (.int .i64 0), .const (.int .u8 0)], argTypes := #[3, 5] },
  .field 28 (.tmp 82) 1,
  .binOp .neq 26 (.tmp 81) (.tmp 83) 26,
  .pick (.tmp 79) (.tmp 84) (.const (.bool false)),
  .pick (.tmp 77) (.const (.bool true)) (.tmp 85),
  .move (.tmp 86),
  .move (.tmp 11),
  .move (.tmp 88),
  .move (.tmp 13),
  .unOp .not 4 (.tmp 90),
  .move (.tmp 91),
  .fieldAddr 28 (.tmp 12) 0,
  .load 3 (.tmp 93),
  .fieldAddr 28 (.tmp 10) 0,
  .load 3 (.tmp 95),
  .binOp .lss 3 (.tmp 94) (.tmp 96) 3,
  .pick (.tmp 92) (.const (.bool true)) (.tmp 97),
  .pick (.tmp 89) (.tmp 98) (.const (.bool false)),
  .pick (.tmp 87) (.const (.bool true)) (.tmp 99)]
def taNeeds : Nat → List Nat
  | 0 => []
  | 1 => [0]
  | 2 => []
  | 3 => []
  | 4 => []
  | 5 => []
  | 6 => []
  | 7 => [1, 6]
  | 8 => [7]
  | 9 => []
  | 10 => [9]
  | 11 => []
  | 12 => []
  | 13 => []
  | 14 => []
  | 15 => []
  | 16 => [10, 15]
  | 17 => [8, 16]
  | 18 => [17]
  | 19 => []
  | 20 => [19]
  | 21 => []
  | 22 => []
  | 23 => []
  | 24 => []
  | 25 => []
  | 26 => []
  | 27 => []
  | 28 => []
  | 29 => []
  | 30 => [20, 29]
  | 31 => [18, 30]
  | _ => []
set_option maxRecDepth 100000 in
set_option maxHeartbeats 3200000 in
theorem ta_step {ops : Array Oper} {Q : Exit → Act → World → Prop} {a0 : Act} {w0 : World} (bx by_ : Nat) (xs ys : Int) (Z M0 : List Value) (hops : ((List.range 32).map fun i => (ops[i]?).map Oper.op) = taOps.map some)
    (hnd : ((List.range 32).all fun i => (taNeeds i).all fun j => ((ops[i]?).map fun o => o.after.any fun e => Region.binds .any e && (e.on == j)).getD false) = true)
    (x10 : a0.tmps[10]? = some (.pointer (some ⟨bx, 0, none⟩))) (x11 : a0.tmps[11]? = some (.bool false)) (x12 : a0.tmps[12]? = some (.pointer (some ⟨by_, 0, none⟩))) (x13 : a0.tmps[13]? = some (.bool false))
    (iZ : (Try.prog.info? 26).map (·.size) = some Z.length) (hM0 : ∀ w, Calls Try.prog 19 #[.int .i64 0, .int .u8 0] w fun e w' => e = .returned (.agg M0.toArray) ∧ Below w.heap.size w w')
    (hF : ∀ w, (Instr.field 28 (.agg M0.toArray) 1).run Try.prog w = .ok (.agg Z.toArray) w) (heq : ∀ w, (Op.equalIn 10000 26 (.agg Z.toArray) (.agg Z.toArray)).run Try.prog w = .ok true w) :
    ∀ i o, i < 32 → taS i = false → ops[i]? = some o → o.dst = some (taD i) → ∀ a w, Base taD 32 a0 a → Below w0.heap.size w0 w → Region.wanted o (yielded ops a.tmps) = true →
      (∀ j, (o.after.any fun e => Region.binds .any e && (e.on == j)) = true → Has taD (taR bx by_ xs ys Z M0) j a w) →
      ∀ K : Act → World → Prop, (∀ v w', taR bx by_ xs ys Z M0 i v w' → Below w.heap.size w w' → K (a.put o.dst v) w') → wpOp Try.prog ops Q i K a w := by
  intro i o hi hs ho hds a w hbase hbl hwt hdep0 K hK
  have hop : some o.op = taOps[i]? := by
    have h1 : ((List.range 32).map fun i => (ops[i]?).map Oper.op)[i]? = some (some o.op) := by
      rw [List.getElem?_map, List.getElem?_range hi]; simp only [Option.map_some, ho]
    rw [hops, List.getElem?_map] at h1
    cases h2 : taOps[i]? with
    | none => rw [h2] at h1; cases h1
    | some y => rw [h2] at h1; simp only [Option.map_some, Option.some.injEq] at h1; rw [h1]
  have hdep : ∀ j, j ∈ taNeeds i → Has taD (taR bx by_ xs ys Z M0) j a w := fun j hj => by
    have h1 := List.all_eq_true.1 (List.all_eq_true.1 hnd i (List.mem_range.2 hi)) j hj
    rw [ho] at h1
    exact hdep0 j h1
  clear hdep0 hops hnd
  match i, hi, hs, ho, hop, hds, hdep, hK with
  | 0, _, hs, ho, hop, hds, hdep, hK =>
    have hop : o.op = .move (.tmp 11) := Option.some.inj hop
    have hu11 : a.tmps[11]? = some (.bool false) := (hbase.2.2 11 (by decide)).trans x11
    have e11 : a.eval (.tmp 11) = _ := ev_tmp hu11
    refine st3 ho hwt (v := _) (w' := w) ?_ (hK _ w rfl (Below.refl _ _))
    unfold execOp
    rw [hop, ← e11]
    rfl
  | 1, _, hs, ho, hop, hds, hdep, hK =>
    have hop : o.op = .move (.tmp 69) := Option.some.inj hop
    obtain ⟨u69, hu69, hv69⟩ := hdep 0 (by decide)
    have hv69' : u69 = .bool false := hv69
    subst hv69'
    have e69 : a.eval (.tmp 69) = _ := ev_tmp hu69
    refine st3 ho hwt (v := _) (w' := w) ?_ (hK _ w rfl (Below.refl _ _))
    unfold execOp
    rw [hop, ← e69]
    rfl
  | 2, _, hs, ho, hop, hds, hdep, hK =>
    exact absurd hs (by decide)
  | 3, _, hs, ho, hop, hds, hdep, hK =>
    exact absurd hs (by decide)
  | 4, _, hs, ho, hop, hds, hdep, hK =>
    exact absurd hs (by decide)
  | 5, _, hs, ho, hop, hds, hdep, hK =>
    exact absurd hs (by decide)
  | 6, _, hs, ho, hop, hds, hdep, hK =>
    exact absurd hs (by decide)
  | 7, _, hs, ho, hop, hds, hdep, hK =>
    have hop : o.op = .pick (.tmp 70) (.tmp 75) (.const (.bool false)) := Option.some.inj hop
    obtain ⟨u70, hu70, hv70⟩ := hdep 1 (by decide)
    have hv70' : u70 = .bool false := hv70
    subst hv70'
    have e70 : a.eval (.tmp 70) = _ := ev_tmp hu70
    obtain ⟨u75, hu75, hv75⟩ := hdep 6 (by decide)
    have hv75' : u75 = undef := hv75
    subst hv75'
    have e75 : a.eval (.tmp 75) = _ := ev_tmp hu75
    refine st3 ho hwt (v := .bool false) (w' := w) ?_ (hK _ w rfl (Below.refl _ _))
    unfold execOp
    simp only [hop, e70, e75]
    first | rfl | (go_simp; done) | (go_simp; simp; done) | (go_simp; intro h; omega)
  | 8, _, hs, ho, hop, hds, hdep, hK =>
    have hop : o.op = .move (.tmp 76) := Option.some.inj hop
    obtain ⟨u76, hu76, hv76⟩ := hdep 7 (by decide)
    have hv76' : u76 = .bool false := hv76
    subst hv76'
    have e76 : a.eval (.tmp 76) = _ := ev_tmp hu76
    refine st3 ho hwt (v := _) (w' := w) ?_ (hK _ w rfl (Below.refl _ _))
    unfold execOp
    rw [hop, ← e76]
    rfl
  | 9, _, hs, ho, hop, hds, hdep, hK =>
    have hop : o.op = .move (.tmp 13) := Option.some.inj hop
    have hu13 : a.tmps[13]? = some (.bool false) := (hbase.2.2 13 (by decide)).trans x13
    have e13 : a.eval (.tmp 13) = _ := ev_tmp hu13
    refine st3 ho hwt (v := _) (w' := w) ?_ (hK _ w rfl (Below.refl _ _))
    unfold execOp
    rw [hop, ← e13]
    rfl
  | 10, _, hs, ho, hop, hds, hdep, hK =>
    have hop : o.op = .move (.tmp 78) := Option.some.inj hop
    obtain ⟨u78, hu78, hv78⟩ := hdep 9 (by decide)
    have hv78' : u78 = .bool false := hv78
    subst hv78'
    have e78 : a.eval (.tmp 78) = _ := ev_tmp hu78
    refine st3 ho hwt (v := _) (w' := w) ?_ (hK _ w rfl (Below.refl _ _))
    unfold execOp
    rw [hop, ← e78]
    rfl
  | 11, _, hs, ho, hop, hds, hdep, hK =>
    exact absurd hs (by decide)
  | 12, _, hs, ho, hop, hds, hdep, hK =>
    exact absurd hs (by decide)
  | 13, _, hs, ho, hop, hds, hdep, hK =>
    exact absurd hs (by decide)
  | 14, _, hs, ho, hop, hds, hdep, hK =>
    exact absurd hs (by decide)
  | 15, _, hs, ho, hop, hds, hdep, hK =>
    exact absurd hs (by decide)
  | 16, _, hs, ho, hop, hds, hdep, hK =>
    have hop : o.op = .pick (.tmp 79) (.tmp 84) (.const (.bool false)) := Option.some.inj hop
    obtain ⟨u79, hu79, hv79⟩ := hdep 10 (by decide)
    have hv79' : u79 = .bool false := hv79
    subst hv79'
    have e79 : a.eval (.tmp 79) = _ := ev_tmp hu79
    obtain ⟨u84, hu84, hv84⟩ := hdep 15 (by decide)
    have hv84' : u84 = undef := hv84
    subst hv84'
    have e84 : a.eval (.tmp 84) = _ := ev_tmp hu84
    refine st3 ho hwt (v := .bool false) (w' := w) ?_ (hK _ w rfl (Below.refl _ _))
    unfold execOp
    simp only [hop, e79, e84]
    first | rfl | (go_simp; done) | (go_simp; simp; done) | (go_simp; intro h; omega)
  | 17, _, hs, ho, hop, hds, hdep, hK =>
    have hop : o.op = .pick (.tmp 77) (.const (.bool true)) (.tmp 85) := Option.some.inj hop
    obtain ⟨u77, hu77, hv77⟩ := hdep 8 (by decide)
    have hv77' : u77 = .bool false := hv77
    subst hv77'
    have e77 : a.eval (.tmp 77) = _ := ev_tmp hu77
    obtain ⟨u85, hu85, hv85⟩ := hdep 16 (by decide)
    have hv85' : u85 = .bool false := hv85
    subst hv85'
    have e85 : a.eval (.tmp 85) = _ := ev_tmp hu85
    refine st3 ho hwt (v := .bool false) (w' := w) ?_ (hK _ w rfl (Below.refl _ _))
    unfold execOp
    simp only [hop, e77, e85]
    first | rfl | (go_simp; done) | (go_simp; simp; done) | (go_simp; intro h; omega)
  | 18, _, hs, ho, hop, hds, hdep, hK =>
    have hop : o.op = .move (.tmp 86) := Option.some.inj hop
    obtain ⟨u86, hu86, hv86⟩ := hdep 17 (by decide)
    have hv86' : u86 = .bool false := hv86
    subst hv86'
    have e86 : a.eval (.tmp 86) = _ := ev_tmp hu86
    refine st3 ho hwt (v := _) (w' := w) ?_ (hK _ w rfl (Below.refl _ _))
    unfold execOp
    rw [hop, ← e86]
    rfl
  | 19, _, hs, ho, hop, hds, hdep, hK =>
    have hop : o.op = .move (.tmp 11) := Option.some.inj hop
    have hu11 : a.tmps[11]? = some (.bool false) := (hbase.2.2 11 (by decide)).trans x11
    have e11 : a.eval (.tmp 11) = _ := ev_tmp hu11
    refine st3 ho hwt (v := _) (w' := w) ?_ (hK _ w rfl (Below.refl _ _))
    unfold execOp
    rw [hop, ← e11]
    rfl
  | 20, _, hs, ho, hop, hds, hdep, hK =>
    have hop : o.op = .move (.tmp 88) := Option.some.inj hop
    obtain ⟨u88, hu88, hv88⟩ := hdep 19 (by decide)
    have hv88' : u88 = .bool false := hv88
    subst hv88'
    have e88 : a.eval (.tmp 88) = _ := ev_tmp hu88
    refine st3 ho hwt (v := _) (w' := w) ?_ (hK _ w rfl (Below.refl _ _))
    unfold execOp
    rw [hop, ← e88]
    rfl
  | 21, _, hs, ho, hop, hds, hdep, hK =>
    exact absurd hs (by decide)
  | 22, _, hs, ho, hop, hds, hdep, hK =>
    exact absurd hs (by decide)
  | 23, _, hs, ho, hop, hds, hdep, hK =>
    exact absurd hs (by decide)
  | 24, _, hs, ho, hop, hds, hdep, hK =>
    exact absurd hs (by decide)
  | 25, _, hs, ho, hop, hds, hdep, hK =>
    exact absurd hs (by decide)
  | 26, _, hs, ho, hop, hds, hdep, hK =>
    exact absurd hs (by decide)
  | 27, _, hs, ho, hop, hds, hdep, hK =>
    exact absurd hs (by decide)
  | 28, _, hs, ho, hop, hds, hdep, hK =>
    exact absurd hs (by decide)
  | 29, _, hs, ho, hop, hds, hdep, hK =>
    exact absurd hs (by decide)
  | 30, _, hs, ho, hop, hds, hdep, hK =>
    have hop : o.op = .pick (.tmp 89) (.tmp 98) (.const (.bool false)) := Option.some.inj hop
    obtain ⟨u89, hu89, hv89⟩ := hdep 20 (by decide)
    have hv89' : u89 = .bool false := hv89
    subst hv89'
    have e89 : a.eval (.tmp 89) = _ := ev_tmp hu89
    obtain ⟨u98, hu98, hv98⟩ := hdep 29 (by decide)
    have hv98' : u98 = undef := hv98
    subst hv98'
    have e98 : a.eval (.tmp 98) = _ := ev_tmp hu98
    refine st3 ho hwt (v := .bool false) (w' := w) ?_ (hK _ w rfl (Below.refl _ _))
    unfold execOp
    simp only [hop, e89, e98]
    first | rfl | (go_simp; done) | (go_simp; simp; done) | (go_simp; intro h; omega)
  | 31, _, hs, ho, hop, hds, hdep, hK =>
    have hop : o.op = .pick (.tmp 87) (.const (.bool true)) (.tmp 99) := Option.some.inj hop
    obtain ⟨u87, hu87, hv87⟩ := hdep 18 (by decide)
    have hv87' : u87 = .bool false := hv87
    subst hv87'
    have e87 : a.eval (.tmp 87) = _ := ev_tmp hu87
    obtain ⟨u99, hu99, hv99⟩ := hdep 30 (by decide)
    have hv99' : u99 = .bool false := hv99
    subst hv99'
    have e99 : a.eval (.tmp 99) = _ := ev_tmp hu99
    refine st3 ho hwt (v := .bool false) (w' := w) ?_ (hK _ w rfl (Below.refl _ _))
    unfold execOp
    simp only [hop, e87, e99]
    first | rfl | (go_simp; done) | (go_simp; simp; done) | (go_simp; intro h; omega)
  | i + 32, hi, _, _, _, _, _, _ => exact absurd hi (by omega)
def tbR (bx by_ : Nat) (xs ys : Int) (Z M0 : List Value) : Nat → Value → World → Prop
  | 0 => fun v w => v = .bool false
  | 1 => fun v w => v = .bool false
  | 2 => fun v w => v = undef
  | 3 => fun v w => v = undef
  | 4 => fun v w => v = undef
  | 5 => fun v w => v = undef
  | 6 => fun v w => v = undef
  | 7 => fun v w => v = .bool false
  | 8 => fun v w => v = .bool false
  | 9 => fun v w => v = .bool true
  | 10 => fun v w => v = .bool true
  | 11 => fun v w => v = .pointer (some ⟨by_, 1, none⟩)
  | 12 => fun v w => v = .agg Z.toArray
  | 13 => fun v w => v = .agg M0.toArray
  | 14 => fun v w => v = .agg Z.toArray
  | 15 => fun v w => v = .bool false
  | 16 => fun v w => v = .bool false
  | 17 => fun v w => v = .bool false
  | 18 => fun v w => v = .bool false
  | 19 => fun v w => v = .bool false
  | 20 => fun v w => v = .bool false
  | 21 => fun v w => v = undef
  | 22 => fun v w => v = undef
  | 23 => fun v w => v = undef
  | 24 => fun v w => v = undef
  | 25 => fun v w => v = undef
  | 26 => fun v w => v = undef
  | 27 => fun v w => v = undef
  | 28 => fun v w => v = undef
  | 29 => fun v w => v = undef
  | 30 => fun v w => v = .bool false
  | 31 => fun v w => v = .bool false
  | _ => fun _ _ => True
def tbD (i : Nat) : Nat := ([69, 70, 71, 72, 73, 74, 75, 76, 77, 78, 79, 80, 81, 82, 83, 84, 85, 86, 87, 88, 89, 90, 91, 92, 93, 94, 95, 96, 97, 98, 99, 100] : List Nat).getD i 0
def tbG : Nat → Option Bool
  | 1 => some false
  | 8 => some false
  | 10 => some true
  | 18 => some false
  | 20 => some false
  | _ => none
def tbS (i : Nat) : Bool := ([2, 3, 4, 5, 6, 21, 22, 23, 24, 25, 26, 27, 28, 29] : List Nat).contains i
theorem tb_gb (bx by_ : Nat) (xs ys : Int) (Z M0 : List Value) : ∀ i b v w, tbG i = some b → tbR bx by_ xs ys Z M0 i v w → v = .bool b := by
  intro i b v w h hR
  unfold tbG at h
  split at h
  all_goals first | (injection h with h; subst h; exact hR) | cases h
theorem tb_sk (bx by_ : Nat) (xs ys : Int) (Z M0 : List Value) : ∀ i w, tbS i = true → tbR bx by_ xs ys Z M0 i undef w := by
  intro i w h
  have hm : i ∈ ([2, 3, 4, 5, 6, 21, 22, 23, 24, 25, 26, 27, 28, 29] : List Nat) := by simpa [tbS] using h
  simp only [List.mem_cons, List.not_mem_nil, or_false] at hm
  rcases hm with rfl | rfl | rfl | rfl | rfl | rfl | rfl | rfl | rfl | rfl | rfl | rfl | rfl | rfl
  all_goals rfl
theorem tb_un (bx by_ : Nat) (xs ys : Int) (Z M0 : List Value) : ∀ i v w, tbS i = true → tbR bx by_ xs ys Z M0 i v w → v = undef := by
  intro i v w h hR
  have hm : i ∈ ([2, 3, 4, 5, 6, 21, 22, 23, 24, 25, 26, 27, 28, 29] : List Nat) := by simpa [tbS] using h
  simp only [List.mem_cons, List.not_mem_nil, or_false] at hm
  rcases hm with rfl | rfl | rfl | rfl | rfl | rfl | rfl | rfl | rfl | rfl | rfl | rfl | rfl | rfl
  all_goals exact hR
theorem tb_on (bx by_ : Nat) (xs ys : Int) (Z M0 : List Value) : ∀ i v w w', tbR bx by_ xs ys Z M0 i v w → Below w.heap.size w w' → tbR bx by_ xs ys Z M0 i v w'
  | 0, v, w, w', h, _ => h
  | 1, v, w, w', h, _ => h
  | 2, v, w, w', h, _ => h
  | 3, v, w, w', h, _ => h
  | 4, v, w, w', h, _ => h
  | 5, v, w, w', h, _ => h
  | 6, v, w, w', h, _ => h
  | 7, v, w, w', h, _ => h
  | 8, v, w, w', h, _ => h
  | 9, v, w, w', h, _ => h
  | 10, v, w, w', h, _ => h
  | 11, v, w, w', h, _ => h
  | 12, v, w, w', h, _ => h
  | 13, v, w, w', h, _ => h
  | 14, v, w, w', h, _ => h
  | 15, v, w, w', h, _ => h
  | 16, v, w, w', h, _ => h
  | 17, v, w, w', h, _ => h
  | 18, v, w, w', h, _ => h
  | 19, v, w, w', h, _ => h
  | 20, v, w, w', h, _ => h
  | 21, v, w, w', h, _ => h
  | 22, v, w, w', h, _ => h
  | 23, v, w, w', h, _ => h
  | 24, v, w, w', h, _ => h
  | 25, v, w, w', h, _ => h
  | 26, v, w, w', h, _ => h
  | 27, v, w, w', h, _ => h
  | 28, v, w, w', h, _ => h
  | 29, v, w, w', h, _ => h
  | 30, v, w, w', h, _ => h
  | 31, v, w, w', h, _ => h
  | i + 32, v, w, w', h, hb => trivial
def tbOps : List Op := [.move (.tmp 11),
  .move (.tmp 69),
  .fieldAddr 28 (.tmp 10) 1,
  .load 26 (.tmp 71),
  .call { callee := .value (.func 19), args := #[.const (.int .i64 0), .const (.int .u8 0)], argTypes := #[3, 5] },
  .field 28 (.tmp 73) 1,
  .binOp .neq 26 (.tmp 72) (.tmp 74) 26,
  .pick (.tmp 70) (.tmp 75) (.const (.bool false)),
  .move (.tmp 76),
  .move (.tmp 13),
  .move (.tmp 78),
  .fieldAddr 28 (.tmp 12) 1,
  .load 26 (.tmp 80),
  .call { callee := .value (.func 19), args := #[.const (.int .i64 0), .const (.int .u8 0)], argTypes := #[3, 5] },
  .field 28 (.tmp 82) 1,
  .binOp .neq 26 (.tmp 81) (.tmp 83) 26,
  .pick (.tmp 79) (.tmp 84) (.const (.bool false)),
  .pick (.tmp 77) (.const (.bool true)) (.tmp 85),
  .move (.tmp 86),
  .move (.tmp 11),
  .move (.tmp 88),
  .move (.tmp 13),
  .unOp .not 4 (.tmp 90),
  .move (.tmp 91),
  .fieldAddr 28 (.tmp 12) 0,
  .load 3 (.tmp 93),
  .fieldAddr 28 (.tmp 10) 0,
  .load 3 (.tmp 95),
  .binOp .lss 3 (.tmp 94) (.tmp 96) 3,
  .pick (.tmp 92) (.const (.bool true)) (.tmp 97),
  .pick (.tmp 89) (.tmp 98) (.const (.bool false)),
  .pick (.tmp 87) (.const (.bool true)) (.tmp 99)]
def tbNeeds : Nat → List Nat
  | 0 => []
  | 1 => [0]
  | 2 => []
  | 3 => []
  | 4 => []
  | 5 => []
  | 6 => []
  | 7 => [1, 6]
  | 8 => [7]
  | 9 => []
  | 10 => [9]
  | 11 => []
  | 12 => [11]
  | 13 => []
  | 14 => [13]
  | 15 => [12, 14]
  | 16 => [10, 15]
  | 17 => [8, 16]
  | 18 => [17]
  | 19 => []
  | 20 => [19]
  | 21 => []
  | 22 => []
  | 23 => []
  | 24 => []
  | 25 => []
  | 26 => []
  | 27 => []
  | 28 => []
  | 29 => []
  | 30 => [20, 29]
  | 31 => [18, 30]
  | _ => []
set_option maxRecDepth 100000 in
set_option maxHeartbeats 3200000 in
theorem tb_step {ops : Array Oper} {Q : Exit → Act → World → Prop} {a0 : Act} {w0 : World} (bx by_ : Nat) (xs ys : Int) (Z M0 : List Value) (hops : ((List.range 32).map fun i => (ops[i]?).map Oper.op) = tbOps.map some)
    (hnd : ((List.range 32).all fun i => (tbNeeds i).all fun j => ((ops[i]?).map fun o => o.after.any fun e => Region.binds .any e && (e.on == j)).getD false) = true)
    (x10 : a0.tmps[10]? = some (.pointer (some ⟨bx, 0, none⟩))) (x11 : a0.tmps[11]? = some (.bool false)) (x12 : a0.tmps[12]? = some (.pointer (some ⟨by_, 0, none⟩))) (x13 : a0.tmps[13]? = some (.bool true))
    (iZ : (Try.prog.info? 26).map (·.size) = some Z.length) (hM0 : ∀ w, Calls Try.prog 19 #[.int .i64 0, .int .u8 0] w fun e w' => e = .returned (.agg M0.toArray) ∧ Below w.heap.size w w')
    (hF : ∀ w, (Instr.field 28 (.agg M0.toArray) 1).run Try.prog w = .ok (.agg Z.toArray) w) (heq : ∀ w, (Op.equalIn 10000 26 (.agg Z.toArray) (.agg Z.toArray)).run Try.prog w = .ok true w) (ly : ∀ w, Below w0.heap.size w0 w → w.rangeAt by_ 1 Z) :
    ∀ i o, i < 32 → tbS i = false → ops[i]? = some o → o.dst = some (tbD i) → ∀ a w, Base tbD 32 a0 a → Below w0.heap.size w0 w → Region.wanted o (yielded ops a.tmps) = true →
      (∀ j, (o.after.any fun e => Region.binds .any e && (e.on == j)) = true → Has tbD (tbR bx by_ xs ys Z M0) j a w) →
      ∀ K : Act → World → Prop, (∀ v w', tbR bx by_ xs ys Z M0 i v w' → Below w.heap.size w w' → K (a.put o.dst v) w') → wpOp Try.prog ops Q i K a w := by
  intro i o hi hs ho hds a w hbase hbl hwt hdep0 K hK
  have hop : some o.op = tbOps[i]? := by
    have h1 : ((List.range 32).map fun i => (ops[i]?).map Oper.op)[i]? = some (some o.op) := by
      rw [List.getElem?_map, List.getElem?_range hi]; simp only [Option.map_some, ho]
    rw [hops, List.getElem?_map] at h1
    cases h2 : tbOps[i]? with
    | none => rw [h2] at h1; cases h1
    | some y => rw [h2] at h1; simp only [Option.map_some, Option.some.injEq] at h1; rw [h1]
  have hdep : ∀ j, j ∈ tbNeeds i → Has tbD (tbR bx by_ xs ys Z M0) j a w := fun j hj => by
    have h1 := List.all_eq_true.1 (List.all_eq_true.1 hnd i (List.mem_range.2 hi)) j hj
    rw [ho] at h1
    exact hdep0 j h1
  clear hdep0 hops hnd
  match i, hi, hs, ho, hop, hds, hdep, hK with
  | 0, _, hs, ho, hop, hds, hdep, hK =>
    have hop : o.op = .move (.tmp 11) := Option.some.inj hop
    have hu11 : a.tmps[11]? = some (.bool false) := (hbase.2.2 11 (by decide)).trans x11
    have e11 : a.eval (.tmp 11) = _ := ev_tmp hu11
    refine st3 ho hwt (v := _) (w' := w) ?_ (hK _ w rfl (Below.refl _ _))
    unfold execOp
    rw [hop, ← e11]
    rfl
  | 1, _, hs, ho, hop, hds, hdep, hK =>
    have hop : o.op = .move (.tmp 69) := Option.some.inj hop
    obtain ⟨u69, hu69, hv69⟩ := hdep 0 (by decide)
    have hv69' : u69 = .bool false := hv69
    subst hv69'
    have e69 : a.eval (.tmp 69) = _ := ev_tmp hu69
    refine st3 ho hwt (v := _) (w' := w) ?_ (hK _ w rfl (Below.refl _ _))
    unfold execOp
    rw [hop, ← e69]
    rfl
  | 2, _, hs, ho, hop, hds, hdep, hK =>
    exact absurd hs (by decide)
  | 3, _, hs, ho, hop, hds, hdep, hK =>
    exact absurd hs (by decide)
  | 4, _, hs, ho, hop, hds, hdep, hK =>
    exact absurd hs (by decide)
  | 5, _, hs, ho, hop, hds, hdep, hK =>
    exact absurd hs (by decide)
  | 6, _, hs, ho, hop, hds, hdep, hK =>
    exact absurd hs (by decide)
  | 7, _, hs, ho, hop, hds, hdep, hK =>
    have hop : o.op = .pick (.tmp 70) (.tmp 75) (.const (.bool false)) := Option.some.inj hop
    obtain ⟨u70, hu70, hv70⟩ := hdep 1 (by decide)
    have hv70' : u70 = .bool false := hv70
    subst hv70'
    have e70 : a.eval (.tmp 70) = _ := ev_tmp hu70
    obtain ⟨u75, hu75, hv75⟩ := hdep 6 (by decide)
    have hv75' : u75 = undef := hv75
    subst hv75'
    have e75 : a.eval (.tmp 75) = _ := ev_tmp hu75
    refine st3 ho hwt (v := .bool false) (w' := w) ?_ (hK _ w rfl (Below.refl _ _))
    unfold execOp
    simp only [hop, e70, e75]
    first | rfl | (go_simp; done) | (go_simp; simp; done) | (go_simp; intro h; omega)
  | 8, _, hs, ho, hop, hds, hdep, hK =>
    have hop : o.op = .move (.tmp 76) := Option.some.inj hop
    obtain ⟨u76, hu76, hv76⟩ := hdep 7 (by decide)
    have hv76' : u76 = .bool false := hv76
    subst hv76'
    have e76 : a.eval (.tmp 76) = _ := ev_tmp hu76
    refine st3 ho hwt (v := _) (w' := w) ?_ (hK _ w rfl (Below.refl _ _))
    unfold execOp
    rw [hop, ← e76]
    rfl
  | 9, _, hs, ho, hop, hds, hdep, hK =>
    have hop : o.op = .move (.tmp 13) := Option.some.inj hop
    have hu13 : a.tmps[13]? = some (.bool true) := (hbase.2.2 13 (by decide)).trans x13
    have e13 : a.eval (.tmp 13) = _ := ev_tmp hu13
    refine st3 ho hwt (v := _) (w' := w) ?_ (hK _ w rfl (Below.refl _ _))
    unfold execOp
    rw [hop, ← e13]
    rfl
  | 10, _, hs, ho, hop, hds, hdep, hK =>
    have hop : o.op = .move (.tmp 78) := Option.some.inj hop
    obtain ⟨u78, hu78, hv78⟩ := hdep 9 (by decide)
    have hv78' : u78 = .bool true := hv78
    subst hv78'
    have e78 : a.eval (.tmp 78) = _ := ev_tmp hu78
    refine st3 ho hwt (v := _) (w' := w) ?_ (hK _ w rfl (Below.refl _ _))
    unfold execOp
    rw [hop, ← e78]
    rfl
  | 11, _, hs, ho, hop, hds, hdep, hK =>
    have hop : o.op = .fieldAddr 28 (.tmp 12) 1 := Option.some.inj hop
    have hu12 : a.tmps[12]? = some (.pointer (some ⟨by_, 0, none⟩)) := (hbase.2.2 12 (by decide)).trans x12
    have e12 : a.eval (.tmp 12) = _ := ev_tmp hu12
    refine st3 ho hwt (v := .pointer (some ⟨by_, 1, none⟩)) (w' := w) ?_ (hK _ w rfl (Below.refl _ _))
    unfold execOp
    simp only [hop, Option.map_some, Option.map_none, e12]
    first | rfl | (go_simp; done) | (go_simp; simp; done) | (go_simp; intro h; omega)
  | 12, _, hs, ho, hop, hds, hdep, hK =>
    have hop : o.op = .load 26 (.tmp 80) := Option.some.inj hop
    obtain ⟨u80, hu80, hv80⟩ := hdep 11 (by decide)
    have hv80' : u80 = .pointer (some ⟨by_, 1, none⟩) := hv80
    subst hv80'
    have e80 : a.eval (.tmp 80) = _ := ev_tmp hu80
    refine st3 ho hwt (v := .agg Z.toArray) (w' := w) ?_ (hK _ w rfl (Below.refl _ _))
    unfold execOp
    simp only [hop, e80, Instr.loadAt, Instr.sureAddr, Sem.run_bind, Sem.run_pure, Result.andThen_ok, run_loadVar_mid w by_ 1 26 Z _ (ly w hbl) Try.underlying26 rfl iZ]
  | 13, _, hs, ho, hop, hds, hdep, hK =>
    have hop : o.op = .call { callee := .value (.func 19), args := #[.const (.int .i64 0), .const (.int .u8 0)], argTypes := #[3, 5] } := Option.some.inj hop
    refine st3_call ho hwt (f := 19) (vals := #[.int .i64 0, .int .u8 0]) (Z := fun v w' => v = .agg M0.toArray ∧ Below w.heap.size w w') ?_ ?_ ?_
    · unfold execOp
      simp only [hop, resolve, invoke, Sem.run_bind, Sem.run_pure, Result.andThen_ok, List.map_toArray, List.map_cons, List.map_nil]
      first | rfl | exact enters_of Try.func19 (by kernel_rfl) rfl _ _
    · exact (hM0 w).mono fun e w' ⟨he, h2⟩ => ⟨_, he, rfl, h2⟩
    · rintro v w' ⟨h1, h2⟩
      exact hK v w' h1 h2
  | 14, _, hs, ho, hop, hds, hdep, hK =>
    have hop : o.op = .field 28 (.tmp 82) 1 := Option.some.inj hop
    obtain ⟨u82, hu82, hv82⟩ := hdep 13 (by decide)
    have hv82' : u82 = .agg M0.toArray := hv82
    subst hv82'
    have e82 : a.eval (.tmp 82) = _ := ev_tmp hu82
    refine st3 ho hwt (v := .agg Z.toArray) (w' := w) ?_ (hK _ w rfl (Below.refl _ _))
    have hq := hF w
    unfold execOp
    simp only [hop, e82, Sem.run_bind, hq, Result.andThen_ok]
    rfl
  | 15, _, hs, ho, hop, hds, hdep, hK =>
    have hop : o.op = .binOp .neq 26 (.tmp 81) (.tmp 83) 26 := Option.some.inj hop
    obtain ⟨u81, hu81, hv81⟩ := hdep 12 (by decide)
    have hv81' : u81 = .agg Z.toArray := hv81
    subst hv81'
    have e81 : a.eval (.tmp 81) = _ := ev_tmp hu81
    obtain ⟨u83, hu83, hv83⟩ := hdep 14 (by decide)
    have hv83' : u83 = .agg Z.toArray := hv83
    subst hv83'
    have e83 : a.eval (.tmp 83) = _ := ev_tmp hu83
    refine st3 ho hwt (v := .bool false) (w' := w) ?_ (hK _ w rfl (Below.refl _ _))
    have hq := heq w
    unfold execOp
    simp only [hop, e81, e83]
    first | rfl | (go_simp; done) | (go_simp; rfl)
  | 16, _, hs, ho, hop, hds, hdep, hK =>
    have hop : o.op = .pick (.tmp 79) (.tmp 84) (.const (.bool false)) := Option.some.inj hop
    obtain ⟨u79, hu79, hv79⟩ := hdep 10 (by decide)
    have hv79' : u79 = .bool true := hv79
    subst hv79'
    have e79 : a.eval (.tmp 79) = _ := ev_tmp hu79
    obtain ⟨u84, hu84, hv84⟩ := hdep 15 (by decide)
    have hv84' : u84 = .bool false := hv84
    subst hv84'
    have e84 : a.eval (.tmp 84) = _ := ev_tmp hu84
    refine st3 ho hwt (v := .bool false) (w' := w) ?_ (hK _ w rfl (Below.refl _ _))
    unfold execOp
    simp only [hop, e79, e84]
    first | rfl | (go_simp; done) | (go_simp; simp; done) | (go_simp; intro h; omega)
  | 17, _, hs, ho, hop, hds, hdep, hK =>
    have hop : o.op = .pick (.tmp 77) (.const (.bool true)) (.tmp 85) := Option.some.inj hop
    obtain ⟨u77, hu77, hv77⟩ := hdep 8 (by decide)
    have hv77' : u77 = .bool false := hv77
    subst hv77'
    have e77 : a.eval (.tmp 77) = _ := ev_tmp hu77
    obtain ⟨u85, hu85, hv85⟩ := hdep 16 (by decide)
    have hv85' : u85 = .bool false := hv85
    subst hv85'
    have e85 : a.eval (.tmp 85) = _ := ev_tmp hu85
    refine st3 ho hwt (v := .bool false) (w' := w) ?_ (hK _ w rfl (Below.refl _ _))
    unfold execOp
    simp only [hop, e77, e85]
    first | rfl | (go_simp; done) | (go_simp; simp; done) | (go_simp; intro h; omega)
  | 18, _, hs, ho, hop, hds, hdep, hK =>
    have hop : o.op = .move (.tmp 86) := Option.some.inj hop
    obtain ⟨u86, hu86, hv86⟩ := hdep 17 (by decide)
    have hv86' : u86 = .bool false := hv86
    subst hv86'
    have e86 : a.eval (.tmp 86) = _ := ev_tmp hu86
    refine st3 ho hwt (v := _) (w' := w) ?_ (hK _ w rfl (Below.refl _ _))
    unfold execOp
    rw [hop, ← e86]
    rfl
  | 19, _, hs, ho, hop, hds, hdep, hK =>
    have hop : o.op = .move (.tmp 11) := Option.some.inj hop
    have hu11 : a.tmps[11]? = some (.bool false) := (hbase.2.2 11 (by decide)).trans x11
    have e11 : a.eval (.tmp 11) = _ := ev_tmp hu11
    refine st3 ho hwt (v := _) (w' := w) ?_ (hK _ w rfl (Below.refl _ _))
    unfold execOp
    rw [hop, ← e11]
    rfl
  | 20, _, hs, ho, hop, hds, hdep, hK =>
    have hop : o.op = .move (.tmp 88) := Option.some.inj hop
    obtain ⟨u88, hu88, hv88⟩ := hdep 19 (by decide)
    have hv88' : u88 = .bool false := hv88
    subst hv88'
    have e88 : a.eval (.tmp 88) = _ := ev_tmp hu88
    refine st3 ho hwt (v := _) (w' := w) ?_ (hK _ w rfl (Below.refl _ _))
    unfold execOp
    rw [hop, ← e88]
    rfl
  | 21, _, hs, ho, hop, hds, hdep, hK =>
    exact absurd hs (by decide)
  | 22, _, hs, ho, hop, hds, hdep, hK =>
    exact absurd hs (by decide)
  | 23, _, hs, ho, hop, hds, hdep, hK =>
    exact absurd hs (by decide)
  | 24, _, hs, ho, hop, hds, hdep, hK =>
    exact absurd hs (by decide)
  | 25, _, hs, ho, hop, hds, hdep, hK =>
    exact absurd hs (by decide)
  | 26, _, hs, ho, hop, hds, hdep, hK =>
    exact absurd hs (by decide)
  | 27, _, hs, ho, hop, hds, hdep, hK =>
    exact absurd hs (by decide)
  | 28, _, hs, ho, hop, hds, hdep, hK =>
    exact absurd hs (by decide)
  | 29, _, hs, ho, hop, hds, hdep, hK =>
    exact absurd hs (by decide)
  | 30, _, hs, ho, hop, hds, hdep, hK =>
    have hop : o.op = .pick (.tmp 89) (.tmp 98) (.const (.bool false)) := Option.some.inj hop
    obtain ⟨u89, hu89, hv89⟩ := hdep 20 (by decide)
    have hv89' : u89 = .bool false := hv89
    subst hv89'
    have e89 : a.eval (.tmp 89) = _ := ev_tmp hu89
    obtain ⟨u98, hu98, hv98⟩ := hdep 29 (by decide)
    have hv98' : u98 = undef := hv98
    subst hv98'
    have e98 : a.eval (.tmp 98) = _ := ev_tmp hu98
    refine st3 ho hwt (v := .bool false) (w' := w) ?_ (hK _ w rfl (Below.refl _ _))
    unfold execOp
    simp only [hop, e89, e98]
    first | rfl | (go_simp; done) | (go_simp; simp; done) | (go_simp; intro h; omega)
  | 31, _, hs, ho, hop, hds, hdep, hK =>
    have hop : o.op = .pick (.tmp 87) (.const (.bool true)) (.tmp 99) := Option.some.inj hop
    obtain ⟨u87, hu87, hv87⟩ := hdep 18 (by decide)
    have hv87' : u87 = .bool false := hv87
    subst hv87'
    have e87 : a.eval (.tmp 87) = _ := ev_tmp hu87
    obtain ⟨u99, hu99, hv99⟩ := hdep 30 (by decide)
    have hv99' : u99 = .bool false := hv99
    subst hv99'
    have e99 : a.eval (.tmp 99) = _ := ev_tmp hu99
    refine st3 ho hwt (v := .bool false) (w' := w) ?_ (hK _ w rfl (Below.refl _ _))
    unfold execOp
    simp only [hop, e87, e99]
    first | rfl | (go_simp; done) | (go_simp; simp; done) | (go_simp; intro h; omega)
  | i + 32, hi, _, _, _, _, _, _ => exact absurd hi (by omega)
def tcR (bx by_ : Nat) (xs ys : Int) (Z M0 : List Value) : Nat → Value → World → Prop
  | 0 => fun v w => v = .bool true
  | 1 => fun v w => v = .bool true
  | 2 => fun v w => v = .pointer (some ⟨bx, 1, none⟩)
  | 3 => fun v w => v = .agg Z.toArray
  | 4 => fun v w => v = .agg M0.toArray
  | 5 => fun v w => v = .agg Z.toArray
  | 6 => fun v w => v = .bool false
  | 7 => fun v w => v = .bool false
  | 8 => fun v w => v = .bool false
  | 9 => fun v w => v = .bool true
  | 10 => fun v w => v = .bool true
  | 11 => fun v w => v = .pointer (some ⟨by_, 1, none⟩)
  | 12 => fun v w => v = .agg Z.toArray
  | 13 => fun v w => v = .agg M0.toArray
  | 14 => fun v w => v = .agg Z.toArray
  | 15 => fun v w => v = .bool false
  | 16 => fun v w => v = .bool false
  | 17 => fun v w => v = .bool false
  | 18 => fun v w => v = .bool false
  | 19 => fun v w => v = .bool true
  | 20 => fun v w => v = .bool true
  | 21 => fun v w => v = .bool true
  | 22 => fun v w => v = .bool false
  | 23 => fun v w => v = .bool false
  | 24 => fun v w => v = .pointer (some ⟨by_, 0, none⟩)
  | 25 => fun v w => v = .int .i64 ys
  | 26 => fun v w => v = .pointer (some ⟨bx, 0, none⟩)
  | 27 => fun v w => v = .int .i64 xs
  | 28 => fun v w => v = .bool false
  | 29 => fun v w => v = .bool false
  | 30 => fun v w => v = .bool false
  | 31 => fun v w => v = .bool false
  | _ => fun _ _ => True
def tcD (i : Nat) : Nat := ([69, 70, 71, 72, 73, 74, 75, 76, 77, 78, 79, 80, 81, 82, 83, 84, 85, 86, 87, 88, 89, 90, 91, 92, 93, 94, 95, 96, 97, 98, 99, 100] : List Nat).getD i 0
def tcG : Nat → Option Bool
  | 1 => some true
  | 8 => some false
  | 10 => some true
  | 18 => some false
  | 20 => some true
  | 23 => some false
  | _ => none
def tcS (i : Nat) : Bool := ([] : List Nat).contains i
theorem tc_gb (bx by_ : Nat) (xs ys : Int) (Z M0 : List Value) : ∀ i b v w, tcG i = some b → tcR bx by_ xs ys Z M0 i v w → v = .bool b := by
  intro i b v w h hR
  unfold tcG at h
  split at h
  all_goals first | (injection h with h; subst h; exact hR) | cases h
theorem tc_sk (bx by_ : Nat) (xs ys : Int) (Z M0 : List Value) : ∀ i w, tcS i = true → tcR bx by_ xs ys Z M0 i undef w := by
  intro i w h
  simp [tcS] at h
theorem tc_on (bx by_ : Nat) (xs ys : Int) (Z M0 : List Value) : ∀ i v w w', tcR bx by_ xs ys Z M0 i v w → Below w.heap.size w w' → tcR bx by_ xs ys Z M0 i v w'
  | 0, v, w, w', h, _ => h
  | 1, v, w, w', h, _ => h
  | 2, v, w, w', h, _ => h
  | 3, v, w, w', h, _ => h
  | 4, v, w, w', h, _ => h
  | 5, v, w, w', h, _ => h
  | 6, v, w, w', h, _ => h
  | 7, v, w, w', h, _ => h
  | 8, v, w, w', h, _ => h
  | 9, v, w, w', h, _ => h
  | 10, v, w, w', h, _ => h
  | 11, v, w, w', h, _ => h
  | 12, v, w, w', h, _ => h
  | 13, v, w, w', h, _ => h
  | 14, v, w, w', h, _ => h
  | 15, v, w, w', h, _ => h
  | 16, v, w, w', h, _ => h
  | 17, v, w, w', h, _ => h
  | 18, v, w, w', h, _ => h
  | 19, v, w, w', h, _ => h
  | 20, v, w, w', h, _ => h
  | 21, v, w, w', h, _ => h
  | 22, v, w, w', h, _ => h
  | 23, v, w, w', h, _ => h
  | 24, v, w, w', h, _ => h
  | 25, v, w, w', h, _ => h
  | 26, v, w, w', h, _ => h
  | 27, v, w, w', h, _ => h
  | 28, v, w, w', h, _ => h
  | 29, v, w, w', h, _ => h
  | 30, v, w, w', h, _ => h
  | 31, v, w, w', h, _ => h
  | i + 32, v, w, w', h, hb => trivial
def tcOps : List Op := [.move (.tmp 11),
  .move (.tmp 69),
  .fieldAddr 28 (.tmp 10) 1,
  .load 26 (.tmp 71),
  .call { callee := .value (.func 19), args := #[.const (.int .i64 0), .const (.int .u8 0)], argTypes := #[3, 5] },
  .field 28 (.tmp 73) 1,
  .binOp .neq 26 (.tmp 72) (.tmp 74) 26,
  .pick (.tmp 70) (.tmp 75) (.const (.bool false)),
  .move (.tmp 76),
  .move (.tmp 13),
  .move (.tmp 78),
  .fieldAddr 28 (.tmp 12) 1,
  .load 26 (.tmp 80),
  .call { callee := .value (.func 19), args := #[.const (.int .i64 0), .const (.int .u8 0)], argTypes := #[3, 5] },
  .field 28 (.tmp 82) 1,
  .binOp .neq 26 (.tmp 81) (.tmp 83) 26,
  .pick (.tmp 79) (.tmp 84) (.const (.bool false)),
  .pick (.tmp 77) (.const (.bool true)) (.tmp 85),
  .move (.tmp 86),
  .move (.tmp 11),
  .move (.tmp 88),
  .move (.tmp 13),
  .unOp .not 4 (.tmp 90),
  .move (.tmp 91),
  .fieldAddr 28 (.tmp 12) 0,
  .load 3 (.tmp 93),
  .fieldAddr 28 (.tmp 10) 0,
  .load 3 (.tmp 95),
  .binOp .lss 3 (.tmp 94) (.tmp 96) 3,
  .pick (.tmp 92) (.const (.bool true)) (.tmp 97),
  .pick (.tmp 89) (.tmp 98) (.const (.bool false)),
  .pick (.tmp 87) (.const (.bool true)) (.tmp 99)]
def tcNeeds : Nat → List Nat
  | 0 => []
  | 1 => [0]
  | 2 => []
  | 3 => [2]
  | 4 => []
  | 5 => [4]
  | 6 => [3, 5]
  | 7 => [1, 6]
  | 8 => [7]
  | 9 => []
  | 10 => [9]
  | 11 => []
  | 12 => [11]
  | 13 => []
  | 14 => [13]
  | 15 => [12, 14]
  | 16 => [10, 15]
  | 17 => [8, 16]
  | 18 => [17]
  | 19 => []
  | 20 => [19]
  | 21 => []
  | 22 => [21]
  | 23 => [22]
  | 24 => []
  | 25 => [24]
  | 26 => []
  | 27 => [26]
  | 28 => [25, 27]
  | 29 => [23, 28]
  | 30 => [20, 29]
  | 31 => [18, 30]
  | _ => []
set_option maxRecDepth 100000 in
set_option maxHeartbeats 3200000 in
theorem tc_step {ops : Array Oper} {Q : Exit → Act → World → Prop} {a0 : Act} {w0 : World} (bx by_ : Nat) (xs ys : Int) (Z M0 : List Value) (hops : ((List.range 32).map fun i => (ops[i]?).map Oper.op) = tcOps.map some)
    (hnd : ((List.range 32).all fun i => (tcNeeds i).all fun j => ((ops[i]?).map fun o => o.after.any fun e => Region.binds .any e && (e.on == j)).getD false) = true)
    (x10 : a0.tmps[10]? = some (.pointer (some ⟨bx, 0, none⟩))) (x11 : a0.tmps[11]? = some (.bool true)) (x12 : a0.tmps[12]? = some (.pointer (some ⟨by_, 0, none⟩))) (x13 : a0.tmps[13]? = some (.bool true))
    (iZ : (Try.prog.info? 26).map (·.size) = some Z.length) (hM0 : ∀ w, Calls Try.prog 19 #[.int .i64 0, .int .u8 0] w fun e w' => e = .returned (.agg M0.toArray) ∧ Below w.heap.size w w')
    (hF : ∀ w, (Instr.field 28 (.agg M0.toArray) 1).run Try.prog w = .ok (.agg Z.toArray) w) (heq : ∀ w, (Op.equalIn 10000 26 (.agg Z.toArray) (.agg Z.toArray)).run Try.prog w = .ok true w)
    (lx : ∀ w, Below w0.heap.size w0 w → w.rangeAt bx 1 Z) (cx : ∀ w, Below w0.heap.size w0 w → w.cell? ⟨bx, 0, none⟩ = some (.int .i64 xs)) (cy : ∀ w, Below w0.heap.size w0 w → w.cell? ⟨by_, 0, none⟩ = some (.int .i64 ys)) (hle : ¬ ys < xs) (ly : ∀ w, Below w0.heap.size w0 w → w.rangeAt by_ 1 Z) :
    ∀ i o, i < 32 → tcS i = false → ops[i]? = some o → o.dst = some (tcD i) → ∀ a w, Base tcD 32 a0 a → Below w0.heap.size w0 w → Region.wanted o (yielded ops a.tmps) = true →
      (∀ j, (o.after.any fun e => Region.binds .any e && (e.on == j)) = true → Has tcD (tcR bx by_ xs ys Z M0) j a w) →
      ∀ K : Act → World → Prop, (∀ v w', tcR bx by_ xs ys Z M0 i v w' → Below w.heap.size w w' → K (a.put o.dst v) w') → wpOp Try.prog ops Q i K a w := by
  intro i o hi hs ho hds a w hbase hbl hwt hdep0 K hK
  have hop : some o.op = tcOps[i]? := by
    have h1 : ((List.range 32).map fun i => (ops[i]?).map Oper.op)[i]? = some (some o.op) := by
      rw [List.getElem?_map, List.getElem?_range hi]; simp only [Option.map_some, ho]
    rw [hops, List.getElem?_map] at h1
    cases h2 : tcOps[i]? with
    | none => rw [h2] at h1; cases h1
    | some y => rw [h2] at h1; simp only [Option.map_some, Option.some.injEq] at h1; rw [h1]
  have hdep : ∀ j, j ∈ tcNeeds i → Has tcD (tcR bx by_ xs ys Z M0) j a w := fun j hj => by
    have h1 := List.all_eq_true.1 (List.all_eq_true.1 hnd i (List.mem_range.2 hi)) j hj
    rw [ho] at h1
    exact hdep0 j h1
  clear hdep0 hops hnd
  match i, hi, hs, ho, hop, hds, hdep, hK with
  | 0, _, hs, ho, hop, hds, hdep, hK =>
    have hop : o.op = .move (.tmp 11) := Option.some.inj hop
    have hu11 : a.tmps[11]? = some (.bool true) := (hbase.2.2 11 (by decide)).trans x11
    have e11 : a.eval (.tmp 11) = _ := ev_tmp hu11
    refine st3 ho hwt (v := _) (w' := w) ?_ (hK _ w rfl (Below.refl _ _))
    unfold execOp
    rw [hop, ← e11]
    rfl
  | 1, _, hs, ho, hop, hds, hdep, hK =>
    have hop : o.op = .move (.tmp 69) := Option.some.inj hop
    obtain ⟨u69, hu69, hv69⟩ := hdep 0 (by decide)
    have hv69' : u69 = .bool true := hv69
    subst hv69'
    have e69 : a.eval (.tmp 69) = _ := ev_tmp hu69
    refine st3 ho hwt (v := _) (w' := w) ?_ (hK _ w rfl (Below.refl _ _))
    unfold execOp
    rw [hop, ← e69]
    rfl
  | 2, _, hs, ho, hop, hds, hdep, hK =>
    have hop : o.op = .fieldAddr 28 (.tmp 10) 1 := Option.some.inj hop
    have hu10 : a.tmps[10]? = some (.pointer (some ⟨bx, 0, none⟩)) := (hbase.2.2 10 (by decide)).trans x10
    have e10 : a.eval (.tmp 10) = _ := ev_tmp hu10
    refine st3 ho hwt (v := .pointer (some ⟨bx, 1, none⟩)) (w' := w) ?_ (hK _ w rfl (Below.refl _ _))
    unfold execOp
    simp only [hop, Option.map_some, Option.map_none, e10]
    first | rfl | (go_simp; done) | (go_simp; simp; done) | (go_simp; intro h; omega)
  | 3, _, hs, ho, hop, hds, hdep, hK =>
    have hop : o.op = .load 26 (.tmp 71) := Option.some.inj hop
    obtain ⟨u71, hu71, hv71⟩ := hdep 2 (by decide)
    have hv71' : u71 = .pointer (some ⟨bx, 1, none⟩) := hv71
    subst hv71'
    have e71 : a.eval (.tmp 71) = _ := ev_tmp hu71
    refine st3 ho hwt (v := .agg Z.toArray) (w' := w) ?_ (hK _ w rfl (Below.refl _ _))
    unfold execOp
    simp only [hop, e71, Instr.loadAt, Instr.sureAddr, Sem.run_bind, Sem.run_pure, Result.andThen_ok, run_loadVar_mid w bx 1 26 Z _ (lx w hbl) Try.underlying26 rfl iZ]
  | 4, _, hs, ho, hop, hds, hdep, hK =>
    have hop : o.op = .call { callee := .value (.func 19), args := #[.const (.int .i64 0), .const (.int .u8 0)], argTypes := #[3, 5] } := Option.some.inj hop
    refine st3_call ho hwt (f := 19) (vals := #[.int .i64 0, .int .u8 0]) (Z := fun v w' => v = .agg M0.toArray ∧ Below w.heap.size w w') ?_ ?_ ?_
    · unfold execOp
      simp only [hop, resolve, invoke, Sem.run_bind, Sem.run_pure, Result.andThen_ok, List.map_toArray, List.map_cons, List.map_nil]
      first | rfl | exact enters_of Try.func19 (by kernel_rfl) rfl _ _
    · exact (hM0 w).mono fun e w' ⟨he, h2⟩ => ⟨_, he, rfl, h2⟩
    · rintro v w' ⟨h1, h2⟩
      exact hK v w' h1 h2
  | 5, _, hs, ho, hop, hds, hdep, hK =>
    have hop : o.op = .field 28 (.tmp 73) 1 := Option.some.inj hop
    obtain ⟨u73, hu73, hv73⟩ := hdep 4 (by decide)
    have hv73' : u73 = .agg M0.toArray := hv73
    subst hv73'
    have e73 : a.eval (.tmp 73) = _ := ev_tmp hu73
    refine st3 ho hwt (v := .agg Z.toArray) (w' := w) ?_ (hK _ w rfl (Below.refl _ _))
    have hq := hF w
    unfold execOp
    simp only [hop, e73, Sem.run_bind, hq, Result.andThen_ok]
    rfl
  | 6, _, hs, ho, hop, hds, hdep, hK =>
    have hop : o.op = .binOp .neq 26 (.tmp 72) (.tmp 74) 26 := Option.some.inj hop
    obtain ⟨u72, hu72, hv72⟩ := hdep 3 (by decide)
    have hv72' : u72 = .agg Z.toArray := hv72
    subst hv72'
    have e72 : a.eval (.tmp 72) = _ := ev_tmp hu72
    obtain ⟨u74, hu74, hv74⟩ := hdep 5 (by decide)
    have hv74' : u74 = .agg Z.toArray := hv74
    subst hv74'
    have e74 : a.eval (.tmp 74) = _ := ev_tmp hu74
    refine st3 ho hwt (v := .bool false) (w' := w) ?_ (hK _ w rfl (Below.refl _ _))
    have hq := heq w
    unfold execOp
    simp only [hop, e72, e74]
    first | rfl | (go_simp; done) | (go_simp; rfl)
  | 7, _, hs, ho, hop, hds, hdep, hK =>
    have hop : o.op = .pick (.tmp 70) (.tmp 75) (.const (.bool false)) := Option.some.inj hop
    obtain ⟨u70, hu70, hv70⟩ := hdep 1 (by decide)
    have hv70' : u70 = .bool true := hv70
    subst hv70'
    have e70 : a.eval (.tmp 70) = _ := ev_tmp hu70
    obtain ⟨u75, hu75, hv75⟩ := hdep 6 (by decide)
    have hv75' : u75 = .bool false := hv75
    subst hv75'
    have e75 : a.eval (.tmp 75) = _ := ev_tmp hu75
    refine st3 ho hwt (v := .bool false) (w' := w) ?_ (hK _ w rfl (Below.refl _ _))
    unfold execOp
    simp only [hop, e70, e75]
    first | rfl | (go_simp; done) | (go_simp; simp; done) | (go_simp; intro h; omega)
  | 8, _, hs, ho, hop, hds, hdep, hK =>
    have hop : o.op = .move (.tmp 76) := Option.some.inj hop
    obtain ⟨u76, hu76, hv76⟩ := hdep 7 (by decide)
    have hv76' : u76 = .bool false := hv76
    subst hv76'
    have e76 : a.eval (.tmp 76) = _ := ev_tmp hu76
    refine st3 ho hwt (v := _) (w' := w) ?_ (hK _ w rfl (Below.refl _ _))
    unfold execOp
    rw [hop, ← e76]
    rfl
  | 9, _, hs, ho, hop, hds, hdep, hK =>
    have hop : o.op = .move (.tmp 13) := Option.some.inj hop
    have hu13 : a.tmps[13]? = some (.bool true) := (hbase.2.2 13 (by decide)).trans x13
    have e13 : a.eval (.tmp 13) = _ := ev_tmp hu13
    refine st3 ho hwt (v := _) (w' := w) ?_ (hK _ w rfl (Below.refl _ _))
    unfold execOp
    rw [hop, ← e13]
    rfl
  | 10, _, hs, ho, hop, hds, hdep, hK =>
    have hop : o.op = .move (.tmp 78) := Option.some.inj hop
    obtain ⟨u78, hu78, hv78⟩ := hdep 9 (by decide)
    have hv78' : u78 = .bool true := hv78
    subst hv78'
    have e78 : a.eval (.tmp 78) = _ := ev_tmp hu78
    refine st3 ho hwt (v := _) (w' := w) ?_ (hK _ w rfl (Below.refl _ _))
    unfold execOp
    rw [hop, ← e78]
    rfl
  | 11, _, hs, ho, hop, hds, hdep, hK =>
    have hop : o.op = .fieldAddr 28 (.tmp 12) 1 := Option.some.inj hop
    have hu12 : a.tmps[12]? = some (.pointer (some ⟨by_, 0, none⟩)) := (hbase.2.2 12 (by decide)).trans x12
    have e12 : a.eval (.tmp 12) = _ := ev_tmp hu12
    refine st3 ho hwt (v := .pointer (some ⟨by_, 1, none⟩)) (w' := w) ?_ (hK _ w rfl (Below.refl _ _))
    unfold execOp
    simp only [hop, Option.map_some, Option.map_none, e12]
    first | rfl | (go_simp; done) | (go_simp; simp; done) | (go_simp; intro h; omega)
  | 12, _, hs, ho, hop, hds, hdep, hK =>
    have hop : o.op = .load 26 (.tmp 80) := Option.some.inj hop
    obtain ⟨u80, hu80, hv80⟩ := hdep 11 (by decide)
    have hv80' : u80 = .pointer (some ⟨by_, 1, none⟩) := hv80
    subst hv80'
    have e80 : a.eval (.tmp 80) = _ := ev_tmp hu80
    refine st3 ho hwt (v := .agg Z.toArray) (w' := w) ?_ (hK _ w rfl (Below.refl _ _))
    unfold execOp
    simp only [hop, e80, Instr.loadAt, Instr.sureAddr, Sem.run_bind, Sem.run_pure, Result.andThen_ok, run_loadVar_mid w by_ 1 26 Z _ (ly w hbl) Try.underlying26 rfl iZ]
  | 13, _, hs, ho, hop, hds, hdep, hK =>
    have hop : o.op = .call { callee := .value (.func 19), args := #[.const (.int .i64 0), .const (.int .u8 0)], argTypes := #[3, 5] } := Option.some.inj hop
    refine st3_call ho hwt (f := 19) (vals := #[.int .i64 0, .int .u8 0]) (Z := fun v w' => v = .agg M0.toArray ∧ Below w.heap.size w w') ?_ ?_ ?_
    · unfold execOp
      simp only [hop, resolve, invoke, Sem.run_bind, Sem.run_pure, Result.andThen_ok, List.map_toArray, List.map_cons, List.map_nil]
      first | rfl | exact enters_of Try.func19 (by kernel_rfl) rfl _ _
    · exact (hM0 w).mono fun e w' ⟨he, h2⟩ => ⟨_, he, rfl, h2⟩
    · rintro v w' ⟨h1, h2⟩
      exact hK v w' h1 h2
  | 14, _, hs, ho, hop, hds, hdep, hK =>
    have hop : o.op = .field 28 (.tmp 82) 1 := Option.some.inj hop
    obtain ⟨u82, hu82, hv82⟩ := hdep 13 (by decide)
    have hv82' : u82 = .agg M0.toArray := hv82
    subst hv82'
    have e82 : a.eval (.tmp 82) = _ := ev_tmp hu82
    refine st3 ho hwt (v := .agg Z.toArray) (w' := w) ?_ (hK _ w rfl (Below.refl _ _))
    have hq := hF w
    unfold execOp
    simp only [hop, e82, Sem.run_bind, hq, Result.andThen_ok]
    rfl
  | 15, _, hs, ho, hop, hds, hdep, hK =>
    have hop : o.op = .binOp .neq 26 (.tmp 81) (.tmp 83) 26 := Option.some.inj hop
    obtain ⟨u81, hu81, hv81⟩ := hdep 12 (by decide)
    have hv81' : u81 = .agg Z.toArray := hv81
    subst hv81'
    have e81 : a.eval (.tmp 81) = _ := ev_tmp hu81
    obtain ⟨u83, hu83, hv83⟩ := hdep 14 (by decide)
    have hv83' : u83 = .agg Z.toArray := hv83
    subst hv83'
    have e83 : a.eval (.tmp 83) = _ := ev_tmp hu83
    refine st3 ho hwt (v := .bool false) (w' := w) ?_ (hK _ w rfl (Below.refl _ _))
    have hq := heq w
    unfold execOp
    simp only [hop, e81, e83]
    first | rfl | (go_simp; done) | (go_simp; rfl)
  | 16, _, hs, ho, hop, hds, hdep, hK =>
    have hop : o.op = .pick (.tmp 79) (.tmp 84) (.const (.bool false)) := Option.some.inj hop
    obtain ⟨u79, hu79, hv79⟩ := hdep 10 (by decide)
    have hv79' : u79 = .bool true := hv79
    subst hv79'
    have e79 : a.eval (.tmp 79) = _ := ev_tmp hu79
    obtain ⟨u84, hu84, hv84⟩ := hdep 15 (by decide)
    have hv84' : u84 = .bool false := hv84
    subst hv84'
    have e84 : a.eval (.tmp 84) = _ := ev_tmp hu84
    refine st3 ho hwt (v := .bool false) (w' := w) ?_ (hK _ w rfl (Below.refl _ _))
    unfold execOp
    simp only [hop, e79, e84]
    first | rfl | (go_simp; done) | (go_simp; simp; done) | (go_simp; intro h; omega)
  | 17, _, hs, ho, hop, hds, hdep, hK =>
    have hop : o.op = .pick (.tmp 77) (.const (.bool true)) (.tmp 85) := Option.some.inj hop
    obtain ⟨u77, hu77, hv77⟩ := hdep 8 (by decide)
    have hv77' : u77 = .bool false := hv77
    subst hv77'
    have e77 : a.eval (.tmp 77) = _ := ev_tmp hu77
    obtain ⟨u85, hu85, hv85⟩ := hdep 16 (by decide)
    have hv85' : u85 = .bool false := hv85
    subst hv85'
    have e85 : a.eval (.tmp 85) = _ := ev_tmp hu85
    refine st3 ho hwt (v := .bool false) (w' := w) ?_ (hK _ w rfl (Below.refl _ _))
    unfold execOp
    simp only [hop, e77, e85]
    first | rfl | (go_simp; done) | (go_simp; simp; done) | (go_simp; intro h; omega)
  | 18, _, hs, ho, hop, hds, hdep, hK =>
    have hop : o.op = .move (.tmp 86) := Option.some.inj hop
    obtain ⟨u86, hu86, hv86⟩ := hdep 17 (by decide)
    have hv86' : u86 = .bool false := hv86
    subst hv86'
    have e86 : a.eval (.tmp 86) = _ := ev_tmp hu86
    refine st3 ho hwt (v := _) (w' := w) ?_ (hK _ w rfl (Below.refl _ _))
    unfold execOp
    rw [hop, ← e86]
    rfl
  | 19, _, hs, ho, hop, hds, hdep, hK =>
    have hop : o.op = .move (.tmp 11) := Option.some.inj hop
    have hu11 : a.tmps[11]? = some (.bool true) := (hbase.2.2 11 (by decide)).trans x11
    have e11 : a.eval (.tmp 11) = _ := ev_tmp hu11
    refine st3 ho hwt (v := _) (w' := w) ?_ (hK _ w rfl (Below.refl _ _))
    unfold execOp
    rw [hop, ← e11]
    rfl
  | 20, _, hs, ho, hop, hds, hdep, hK =>
    have hop : o.op = .move (.tmp 88) := Option.some.inj hop
    obtain ⟨u88, hu88, hv88⟩ := hdep 19 (by decide)
    have hv88' : u88 = .bool true := hv88
    subst hv88'
    have e88 : a.eval (.tmp 88) = _ := ev_tmp hu88
    refine st3 ho hwt (v := _) (w' := w) ?_ (hK _ w rfl (Below.refl _ _))
    unfold execOp
    rw [hop, ← e88]
    rfl
  | 21, _, hs, ho, hop, hds, hdep, hK =>
    have hop : o.op = .move (.tmp 13) := Option.some.inj hop
    have hu13 : a.tmps[13]? = some (.bool true) := (hbase.2.2 13 (by decide)).trans x13
    have e13 : a.eval (.tmp 13) = _ := ev_tmp hu13
    refine st3 ho hwt (v := _) (w' := w) ?_ (hK _ w rfl (Below.refl _ _))
    unfold execOp
    rw [hop, ← e13]
    rfl
  | 22, _, hs, ho, hop, hds, hdep, hK =>
    have hop : o.op = .unOp .not 4 (.tmp 90) := Option.some.inj hop
    obtain ⟨u90, hu90, hv90⟩ := hdep 21 (by decide)
    have hv90' : u90 = .bool true := hv90
    subst hv90'
    have e90 : a.eval (.tmp 90) = _ := ev_tmp hu90
    refine st3 ho hwt (v := .bool false) (w' := w) ?_ (hK _ w rfl (Below.refl _ _))
    unfold execOp
    simp only [hop, e90]
    first | rfl | (go_simp; done) | (go_simp; simp; done) | (go_simp; intro h; omega)
  | 23, _, hs, ho, hop, hds, hdep, hK =>
    have hop : o.op = .move (.tmp 91) := Option.some.inj hop
    obtain ⟨u91, hu91, hv91⟩ := hdep 22 (by decide)
    have hv91' : u91 = .bool false := hv91
    subst hv91'
    have e91 : a.eval (.tmp 91) = _ := ev_tmp hu91
    refine st3 ho hwt (v := _) (w' := w) ?_ (hK _ w rfl (Below.refl _ _))
    unfold execOp
    rw [hop, ← e91]
    rfl
  | 24, _, hs, ho, hop, hds, hdep, hK =>
    have hop : o.op = .fieldAddr 28 (.tmp 12) 0 := Option.some.inj hop
    have hu12 : a.tmps[12]? = some (.pointer (some ⟨by_, 0, none⟩)) := (hbase.2.2 12 (by decide)).trans x12
    have e12 : a.eval (.tmp 12) = _ := ev_tmp hu12
    refine st3 ho hwt (v := .pointer (some ⟨by_, 0, none⟩)) (w' := w) ?_ (hK _ w rfl (Below.refl _ _))
    unfold execOp
    simp only [hop, Option.map_some, Option.map_none, e12]
    first | rfl | (go_simp; done) | (go_simp; simp; done) | (go_simp; intro h; omega)
  | 25, _, hs, ho, hop, hds, hdep, hK =>
    have hop : o.op = .load 3 (.tmp 93) := Option.some.inj hop
    obtain ⟨u93, hu93, hv93⟩ := hdep 24 (by decide)
    have hv93' : u93 = .pointer (some ⟨by_, 0, none⟩) := hv93
    subst hv93'
    have e93 : a.eval (.tmp 93) = _ := ev_tmp hu93
    have k0 : w.cell? ⟨by_, 0, none⟩ = some (.int .i64 ys) := cy w hbl
    refine st3 ho hwt (v := .int .i64 ys) (w' := w) ?_ (hK _ w rfl (Below.refl _ _))
    unfold execOp
    simp only [hop, Option.map_some, Option.map_none, e93]
    first | rfl | (go_simp; done) | (go_simp; simp; done) | (go_simp; intro h; omega)
  | 26, _, hs, ho, hop, hds, hdep, hK =>
    have hop : o.op = .fieldAddr 28 (.tmp 10) 0 := Option.some.inj hop
    have hu10 : a.tmps[10]? = some (.pointer (some ⟨bx, 0, none⟩)) := (hbase.2.2 10 (by decide)).trans x10
    have e10 : a.eval (.tmp 10) = _ := ev_tmp hu10
    refine st3 ho hwt (v := .pointer (some ⟨bx, 0, none⟩)) (w' := w) ?_ (hK _ w rfl (Below.refl _ _))
    unfold execOp
    simp only [hop, Option.map_some, Option.map_none, e10]
    first | rfl | (go_simp; done) | (go_simp; simp; done) | (go_simp; intro h; omega)
  | 27, _, hs, ho, hop, hds, hdep, hK =>
    have hop : o.op = .load 3 (.tmp 95) := Option.some.inj hop
    obtain ⟨u95, hu95, hv95⟩ := hdep 26 (by decide)
    have hv95' : u95 = .pointer (some ⟨bx, 0, none⟩) := hv95
    subst hv95'
    have e95 : a.eval (.tmp 95) = _ := ev_tmp hu95
    have k0 : w.cell? ⟨bx, 0, none⟩ = some (.int .i64 xs) := cx w hbl
    refine st3 ho hwt (v := .int .i64 xs) (w' := w) ?_ (hK _ w rfl (Below.refl _ _))
    unfold execOp
    simp only [hop, Option.map_some, Option.map_none, e95]
    first | rfl | (go_simp; done) | (go_simp; simp; done) | (go_simp; intro h; omega)
  | 28, _, hs, ho, hop, hds, hdep, hK =>
    have hop : o.op = .binOp .lss 3 (.tmp 94) (.tmp 96) 3 := Option.some.inj hop
    obtain ⟨u94, hu94, hv94⟩ := hdep 25 (by decide)
    have hv94' : u94 = .int .i64 ys := hv94
    subst hv94'
    have e94 : a.eval (.tmp 94) = _ := ev_tmp hu94
    obtain ⟨u96, hu96, hv96⟩ := hdep 27 (by decide)
    have hv96' : u96 = .int .i64 xs := hv96
    subst hv96'
    have e96 : a.eval (.tmp 96) = _ := ev_tmp hu96
    refine st3 ho hwt (v := .bool false) (w' := w) ?_ (hK _ w rfl (Below.refl _ _))
    have hq := hle
    unfold execOp
    simp only [hop, Option.map_some, Option.map_none, e94, e96]
    first | rfl | (go_simp; done) | (go_simp; simp; done) | (go_simp; intro h; omega)
  | 29, _, hs, ho, hop, hds, hdep, hK =>
    have hop : o.op = .pick (.tmp 92) (.const (.bool true)) (.tmp 97) := Option.some.inj hop
    obtain ⟨u92, hu92, hv92⟩ := hdep 23 (by decide)
    have hv92' : u92 = .bool false := hv92
    subst hv92'
    have e92 : a.eval (.tmp 92) = _ := ev_tmp hu92
    obtain ⟨u97, hu97, hv97⟩ := hdep 28 (by decide)
    have hv97' : u97 = .bool false := hv97
    subst hv97'
    have e97 : a.eval (.tmp 97) = _ := ev_tmp hu97
    refine st3 ho hwt (v := .bool false) (w' := w) ?_ (hK _ w rfl (Below.refl _ _))
    unfold execOp
    simp only [hop, e92, e97]
    first | rfl | (go_simp; done) | (go_simp; simp; done) | (go_simp; intro h; omega)
  | 30, _, hs, ho, hop, hds, hdep, hK =>
    have hop : o.op = .pick (.tmp 89) (.tmp 98) (.const (.bool false)) := Option.some.inj hop
    obtain ⟨u89, hu89, hv89⟩ := hdep 20 (by decide)
    have hv89' : u89 = .bool true := hv89
    subst hv89'
    have e89 : a.eval (.tmp 89) = _ := ev_tmp hu89
    obtain ⟨u98, hu98, hv98⟩ := hdep 29 (by decide)
    have hv98' : u98 = .bool false := hv98
    subst hv98'
    have e98 : a.eval (.tmp 98) = _ := ev_tmp hu98
    refine st3 ho hwt (v := .bool false) (w' := w) ?_ (hK _ w rfl (Below.refl _ _))
    unfold execOp
    simp only [hop, e89, e98]
    first | rfl | (go_simp; done) | (go_simp; simp; done) | (go_simp; intro h; omega)
  | 31, _, hs, ho, hop, hds, hdep, hK =>
    have hop : o.op = .pick (.tmp 87) (.const (.bool true)) (.tmp 99) := Option.some.inj hop
    obtain ⟨u87, hu87, hv87⟩ := hdep 18 (by decide)
    have hv87' : u87 = .bool false := hv87
    subst hv87'
    have e87 : a.eval (.tmp 87) = _ := ev_tmp hu87
    obtain ⟨u99, hu99, hv99⟩ := hdep 30 (by decide)
    have hv99' : u99 = .bool false := hv99
    subst hv99'
    have e99 : a.eval (.tmp 99) = _ := ev_tmp hu99
    refine st3 ho hwt (v := .bool false) (w' := w) ?_ (hK _ w rfl (Below.refl _ _))
    unfold execOp
    simp only [hop, e87, e99]
    first | rfl | (go_simp; done) | (go_simp; simp; done) | (go_simp; intro h; omega)
  | i + 32, hi, _, _, _, _, _, _ => exact absurd hi (by omega)
set_option maxRecDepth 100000 in
set_option maxHeartbeats 64000000 in
theorem walk (faults : Int) (Al : Option Addr) (nl cl : Nat) (l : List WdL) (w : World) (hfaults : (Lit.int .i64 faults).wf = true) (hl : ArgWd w Al nl cl l) :
    Calls Try.prog 4 #[.int .i64 faults, .slice Al nl cl] w fun e w' => e = .returned (.bool true) ∧ Below w.heap.size w w' := by
  have HB1 : Hid (∀ W, Calls Try.prog 11 #[.int .i64 faults, .int .i64 2] W (SomeNat 2 W)) := Lib.hid fun W => bring_s faults 2 W (by omega) (by omega) hfaults
  clear hfaults
  have hbf : ∀ z, Wf z → ∀ n : Int, 0 < n → n ≤ 100 → ∀ W, Calls Try.prog 11 #[.int .i64 z, .int .i64 n] W (SomeNat n W) := fun z hz n h0 h1 W => bring_s z n W h0 (by omega) hz
  have HB := Lib.hid hbf
  clear hbf
  have HL := Lib.hid hl
  have hlen := hl.1
  have hnl : (nl : Int) ≤ 9223372036854775807 := by have := hl.2.1; have := hl.2.2.1; unfold maxLen at this; omega
  clear hl
  go_enter Try.func4, Try.ntmps4
  go_wp2_with fail
  refine (HB1.out _).mono ?_
  rintro e wB ⟨r, hr, rfl, hww⟩
  subst hww
  obtain ⟨F, hF⟩ : ∃ F : Nat, 1 + r = F := ⟨_, rfl⟩
  have hF1 : 1 ≤ F := by omega
  have hF2 : F ≤ 2 := by omega
  have hwF : IntKind.i64.wrap (1 + (r : Int)) = (F : Int) := (IntWalk.i64_in _ (by omega)).trans (by omega)
  go_wp2_with fail
  clear hwF
  refine (fresh_any F hF1 hF2 _).mono ?_
  rintro e w1 ⟨g, rfl, hst, hb1⟩
  have H1 := Lib.hid (Aw.new (Below.refl _ _) hst hb1)
  clear hst hb1
  have hw1 : IntKind.i64.wrap (3 * (F : Int)) = 3 * (F : Int) := IntWalk.i64_in _ (by omega)
  have hw2 : IntKind.i64.wrap (3 * (F : Int) + 1) = 3 * (F : Int) + 1 := IntWalk.i64_in _ (by omega)
  go_wp2
  go_loopw [7] (fun v7 wr => ∃ (i : Nat) (m : Ms), i ≤ nl ∧ i ≤ 80 ∧ v7 = .int .i64 (i : Int) ∧ TrI F m ∧ Aw w wr g m []) (fun v _ => 100 - (intOf v).toNat)
  case atStart => exact ⟨0, fr F, by omega, by omega, rfl, TrI.fresh hF1 hF2, H1.out⟩
  case round =>
    obtain ⟨i, m, hi, hi80, rfl, hT, hA⟩ := hrel
    have HT := Lib.hid hT
    have HA := Lib.hid hA
    clear hT hA
    by_cases hc : i < nl ∧ i < 80
    rotate_left
    · have hd : ¬ ((i : Int) < (nl : Int)) ∨ ((i : Int) < (nl : Int) ∧ ¬ ((i : Int) < 80)) := by omega
      rcases hd with hd | ⟨hd, hd2⟩
      · go_wp2_with fail
        refine (awake_any _).mono ?_
        rintro e w2 ⟨rfl, hb2⟩
        have H2 := Lib.hid (HA.out.bel.trans (hb2.mono HA.out.bel.size))
        clear hb2
        go_wp2
        go_ret
        exact ⟨rfl, H2.out⟩
      · go_wp2_with fail
        refine (awake_any _).mono ?_
        rintro e w2 ⟨rfl, hb2⟩
        have H2 := Lib.hid (HA.out.bel.trans (hb2.mono HA.out.bel.size))
        clear hb2
        go_wp2
        go_ret
        exact ⟨rfl, H2.out⟩
    obtain ⟨hc1, hc2⟩ := hc
    have hd1 : (i : Int) < (nl : Int) := by omega
    have hd2 : (i : Int) < 80 := by omega
    obtain ⟨bl, ol, hAl, hbl0, hW⟩ := (HL.out.after HA.out.bel).at_ (j := i) (by omega)
    obtain ⟨k1, k2, c0, c1, c2⟩ := hW
    generalize l[i] = x at *
    subst hAl
    have HC := Lib.hid (And.intro k1 (And.intro k2 (And.intro c0 (And.intro c1 (And.intro c2 hbl0)))))
    clear k1 k2 c1 c2 hbl0
    go_wp2_with fail
    refine (HB.out x.nd HC.out.1 (3 * (F : Int) + 1) (by omega) (by omega) _).mono ?_
    rintro e wB ⟨n, hn, rfl, hww⟩
    subst hww
    have c2 := HC.out.2.2.2.2.1
    obtain ⟨b, hb, hbz⟩ : ∃ b : UInt8, (if (F : Int) ≤ (n : Int) then (0 : Int) else (x.b.toNat : Int)) = (b.toNat : Int) ∧ ((F : Int) ≤ (n : Int) → b = 0) := by
      by_cases h : (F : Int) ≤ (n : Int)
      · exact ⟨0, by rw [if_pos h]; rfl, fun _ => rfl⟩
      · exact ⟨x.b, by rw [if_neg h], fun h' => absurd h' h⟩
    have c1 := HC.out.2.2.2.1
    have hwn : IntKind.i64.wrap (1 + (n : Int)) = 1 + (n : Int) := IntWalk.i64_in _ (by omega)
    by_cases hge : (F : Int) ≤ (n : Int)
    · skip
      have hge2 : (n : Int) ≥ (F : Int) := hge
      rw [if_pos hge] at hb
      have hbh := Lib.hid hb
      clear hb
      go_wp2_with fail
      clear c0 c2 hwn
      refine (HB.out x.sq HC.out.2.1 6 (by omega) (by omega) _).mono ?_
      rintro e wB ⟨q, hq, rfl, hww⟩
      subst hww
      have hwq : IntKind.i64.wrap (1 + (q : Int)) = 1 + (q : Int) := IntWalk.i64_in _ (by omega)
      obtain ⟨X, hX⟩ : ∃ X, mkC (mkI (1 + (q : Int)) b) = X := ⟨_, rfl⟩
      have HM : Hid (∀ W, Calls Try.prog 19 #[.int .i64 (1 + (q : Int)), .int .u8 0] W fun e w' => e = .returned (.agg X.toArray) ∧ Below W.heap.size W w') := Lib.hid fun W => by rw [← hX, hbh.out]; exact mkI_any (s := 1 + (q : Int)) (by omega) (by omega) b W
      have HX := Lib.hid hX
      clear hX
      go_wp2_with fail
      refine (HM.out _).mono ?_
      rintro e u1 ⟨rfl, hb1⟩
      have J1 := Lib.hid (HA.out.below hb1)
      clear hb1 c1 hwq HM
      obtain ⟨m', hm'⟩ : ∃ m', voteS m (1 + (n : Int)) (mkI (1 + (q : Int)) b) = m' := ⟨_, rfl⟩
      have hT' : TrI F m' := by rw [← hm']; exact HT.out.vote fun h => by rw [mkI_d (by omega) (by omega), hbz (by omega)]
      have HV := Lib.hid (Aw.vote J1.out (n := 1 + (n : Int)) (wf_b (by omega) (by omega)) (mkI (1 + (q : Int)) b) rfl)
      rw [hm', HX.out] at HV
      clear hm'
      go_wp2_with fail
      refine HV.out.mono ?_
      rintro e u2 ⟨rfl, h2⟩
      have J2 := Lib.hid h2
      clear h2 HV
      obtain ⟨gs, hgs⟩ : ∃ z, greatS m' (2 * m'.f + 1) = z := ⟨_, rfl⟩
      obtain ⟨gk, hgk⟩ : ∃ z, greatS m' (m'.f + 1) = z := ⟨_, rfl⟩
      have HS := Lib.hid (Aw.stable J2.out hgs)
      obtain ⟨x1, hx1⟩ : ∃ z, gs.getD mk0 = z := ⟨_, rfl⟩
      obtain ⟨s1, hs1⟩ : ∃ z, gs.isSome = z := ⟨_, rfl⟩
      obtain ⟨X1, hX1⟩ : ∃ z, mkC x1 = z := ⟨_, rfl⟩
      rw [hx1, hs1, hX1] at HS
      obtain ⟨y1, hy1⟩ : ∃ z, gk.getD mk0 = z := ⟨_, rfl⟩
      obtain ⟨s2, hs2⟩ : ∃ z, gk.isSome = z := ⟨_, rfl⟩
      obtain ⟨Y1, hY1⟩ : ∃ z, mkC y1 = z := ⟨_, rfl⟩
      have HG := Lib.hid (And.intro hT' (And.intro hgs (And.intro hgk (And.intro hx1 (And.intro hs1 (And.intro hy1 (And.intro hs2 (And.intro hX1 hY1))))))))
      clear hT' hgs hgk hx1 hs1 hy1 hs2 hX1 hY1
      go_wp2_with fail
      refine HS.out.mono ?_
      rintro e u3 ⟨rfl, h3⟩
      obtain ⟨w5, hw5, hs5, h5, _⟩ := Aw.var' h3 x1 HG.out.2.2.2.2.2.2.2.1
      have HV5 := Lib.hid (And.intro hw5 hs5)
      have J5 := Lib.hid h5
      clear hw5 hs5 h5 h3 HS
      have HKn : Hid (∀ W, Aw w W g m' ((u3.heap.size, x1) :: []) → Calls Try.prog 21 #[.pointer (some ⟨g, 0, none⟩)] W fun e w' => e = .returned (.tuple #[.agg Y1.toArray, .bool s2]) ∧ Aw w w' g m' ((u3.heap.size, x1) :: [])) := Lib.hid fun W h => by have := Aw.known h HG.out.2.2.1; rw [HG.out.2.2.2.2.2.1, HG.out.2.2.2.2.2.2.1, HG.out.2.2.2.2.2.2.2.2] at this; exact this
      go_wp2_with (refine wpList_store_mid rfl 28 _ _ rfl u3.heap.size 0 X1.toArray rfl rfl HV5.out.2.1 HV5.out.2.2.1 HV5.out.2.2.2 ?_; simp only [Act.put]; refine cast (congrArg (fun z => wpList _ _ _ _ _ z) HV5.out.1.symm) ?_)
      refine (HKn.out _ J5.out).mono ?_
      rintro e u6 ⟨rfl, h6⟩
      obtain ⟨w7, hw7, hs7, h7, _⟩ := Aw.var' h6 y1 HG.out.2.2.2.2.2.2.2.2
      have HV7 := Lib.hid (And.intro hw7 hs7)
      have J7 := Lib.hid h7
      clear hw7 hs7 h7 h6 HKn HV5
      go_wp2_with (refine wpList_store_mid rfl 28 _ _ rfl u6.heap.size 0 Y1.toArray rfl rfl HV7.out.2.1 HV7.out.2.2.1 HV7.out.2.2.2 ?_; simp only [Act.put]; refine cast (congrArg (fun z => wpList _ _ _ _ _ z) HV7.out.1.symm) ?_)
      obtain ⟨M0, hM0⟩ : ∃ z, mkC (mkI 0 0) = z := ⟨_, rfl⟩
      obtain ⟨Z, hZ⟩ : ∃ z, cbs (dgm 0) = z := ⟨_, rfl⟩
      have iZ : Hid ((Try.prog.info? 26).map (·.size) = some Z.length) := Lib.hid (by rw [← hZ]; exact dig_info)
      have hM : Hid (∀ W, Calls Try.prog 19 #[.int .i64 0, .int .u8 0] W fun e w' => e = .returned (.agg M0.toArray) ∧ Below W.heap.size W w') := Lib.hid fun W => by rw [← hM0]; exact mkI_any (s := 0) (by decide) (by decide) 0 W
      have hFd : Hid (∀ W, (Instr.field 28 (.agg M0.toArray) 1).run Try.prog W = .ok (.agg Z.toArray) W) := Lib.hid fun W => by rw [← hM0, ← hZ]; exact mkI_field 0 W
      have hEq : Hid (∀ W, (Op.equalIn 10000 26 (.agg Z.toArray) (.agg Z.toArray)).run Try.prog W = .ok true W) := Lib.hid fun W => by rw [← hZ]; have := dg_eq (dgm 0) (dgm 0) rfl rfl W; simpa using this
      have HZ := Lib.hid hZ
      clear hM0 hZ
      have hcase : (s1 = false ∧ s2 = false) ∨ (s1 = false ∧ s2 = true ∧ y1.d = dgm 0) ∨ (s1 = true ∧ s2 = true ∧ x1.d = dgm 0 ∧ y1.d = dgm 0 ∧ x1.s ≤ y1.s) := by
        obtain ⟨hT', hgs, hgk, hx1, hs1, hy1, hs2, _⟩ := HG.out
        have hff := hT'.f
        cases gs with
        | none =>
          cases gk with
          | none => exact .inl ⟨hs1.symm, hs2.symm⟩
          | some y => exact .inr (.inl ⟨hs1.symm, hs2.symm, by rw [← hy1]; exact hT'.so hF1 hF2 (by omega) hgk⟩)
        | some z =>
          obtain ⟨y, hy, hle⟩ := hT'.both hF1 hgs
          rw [hgk] at hy
          subst hy
          exact .inr (.inr ⟨hs1.symm, hs2.symm, by rw [← hx1]; exact hT'.so hF1 hF2 (by omega) hgs, by rw [← hy1]; exact hT'.so hF1 hF2 (by omega) hgk, by rw [← hx1, ← hy1]; exact hle⟩)
      rcases hcase with ⟨rfl, rfl⟩ | ⟨rfl, rfl, hyd⟩ | ⟨rfl, rfl, hxd, hyd, hle⟩
      · skip
        refine region_rule7 (P := Try.prog) 32 102 taD taG taS (taR u3.heap.size u6.heap.size x1.s y1.s Z M0) _ _ (by kernel_rfl) rfl rfl (by kernel_rfl) (by decide +kernel) (ta_gb u3.heap.size u6.heap.size x1.s y1.s Z M0) (ta_sk u3.heap.size u6.heap.size x1.s y1.s Z M0) (ta_un u3.heap.size u6.heap.size x1.s y1.s Z M0) (ta_on u3.heap.size u6.heap.size x1.s y1.s Z M0) (ta_step u3.heap.size u6.heap.size x1.s y1.s Z M0 (by rfl) (by kernel_rfl) rfl rfl rfl rfl iZ.out hM.out hFd.out hEq.out) ?finta1
        case finta1 =>
          intro a w6 hbase hbl hall
          obtain ⟨v100, hv100, hR100⟩ := hall 31 (by decide)
          have hR100' : v100 = .bool false := hR100
          subst hR100'
          obtain ⟨gf, hgfe, hgf⟩ := base_lit hbase [69, 70, 71, 72, 73, 74, 75, 76, 77, 78, 79, 80, 81, 82, 83, 84, 85, 86, 87, 88, 89, 90, 91, 92, 93, 94, 95, 96, 97, 98, 99, 100] (by rfl)
          have q100 : gf 100 = .bool false := hgfe 100 _ hv100
          simp only [List.foldl_cons, List.foldl_nil, List.setIfInBounds_toArray, List.set_cons_zero, List.set_cons_succ, q100] at hgf
          rw [hgf]
          clear hv100 hR100 hgfe hgf
          have H9 := Lib.hid (J7.out.below hbl)
          clear hbl hall hbase
          have hwi : IntKind.i64.wrap ((i : Int) + 1) = (i : Int) + 1 := IntWalk.i64_in _ (by omega)
          go_wp2
          go_roundw
          case rel => exact ⟨i + 1, m', by omega, by omega, by first | rfl | (push_cast; rfl), HG.out.1, H9.out.less (by simp)⟩
          case measure => simp [intOf]; omega
      · skip
        refine region_rule7 (P := Try.prog) 32 102 tbD tbG tbS (tbR u3.heap.size u6.heap.size x1.s y1.s Z M0) _ _ (by kernel_rfl) rfl rfl (by kernel_rfl) (by decide +kernel) (tb_gb u3.heap.size u6.heap.size x1.s y1.s Z M0) (tb_sk u3.heap.size u6.heap.size x1.s y1.s Z M0) (tb_un u3.heap.size u6.heap.size x1.s y1.s Z M0) (tb_on u3.heap.size u6.heap.size x1.s y1.s Z M0) (tb_step u3.heap.size u6.heap.size x1.s y1.s Z M0 (by rfl) (by kernel_rfl) rfl rfl rfl rfl iZ.out hM.out hFd.out hEq.out (fun W hb => by have := (J7.out.below hb).mark_d (b := u6.heap.size) (x := y1) (by simp); rw [hyd, HZ.out] at this; exact this)) ?fintb1
        case fintb1 =>
          intro a w6 hbase hbl hall
          obtain ⟨v100, hv100, hR100⟩ := hall 31 (by decide)
          have hR100' : v100 = .bool false := hR100
          subst hR100'
          obtain ⟨gf, hgfe, hgf⟩ := base_lit hbase [69, 70, 71, 72, 73, 74, 75, 76, 77, 78, 79, 80, 81, 82, 83, 84, 85, 86, 87, 88, 89, 90, 91, 92, 93, 94, 95, 96, 97, 98, 99, 100] (by rfl)
          have q100 : gf 100 = .bool false := hgfe 100 _ hv100
          simp only [List.foldl_cons, List.foldl_nil, List.setIfInBounds_toArray, List.set_cons_zero, List.set_cons_succ, q100] at hgf
          rw [hgf]
          clear hv100 hR100 hgfe hgf
          have H9 := Lib.hid (J7.out.below hbl)
          clear hbl hall hbase
          have hwi : IntKind.i64.wrap ((i : Int) + 1) = (i : Int) + 1 := IntWalk.i64_in _ (by omega)
          go_wp2
          go_roundw
          case rel => exact ⟨i + 1, m', by omega, by omega, by first | rfl | (push_cast; rfl), HG.out.1, H9.out.less (by simp)⟩
          case measure => simp [intOf]; omega
      · skip
        refine region_rule4 (P := Try.prog) 32 102 tcD tcG tcS (tcR u3.heap.size u6.heap.size x1.s y1.s Z M0) _ _ (by kernel_rfl) rfl rfl (by kernel_rfl) (by decide +kernel) (tc_gb u3.heap.size u6.heap.size x1.s y1.s Z M0) (tc_sk u3.heap.size u6.heap.size x1.s y1.s Z M0) (tc_on u3.heap.size u6.heap.size x1.s y1.s Z M0) (tc_step u3.heap.size u6.heap.size x1.s y1.s Z M0 (by rfl) (by kernel_rfl) rfl rfl rfl rfl iZ.out hM.out hFd.out hEq.out (fun W hb => by have := (J7.out.below hb).mark_d (b := u3.heap.size) (x := x1) (by simp); rw [hxd, HZ.out] at this; exact this) (fun W hb => (J7.out.below hb).mark_s (b := u3.heap.size) (x := x1) (by simp)) (fun W hb => (J7.out.below hb).mark_s (b := u6.heap.size) (x := y1) (by simp)) (by omega) (fun W hb => by have := (J7.out.below hb).mark_d (b := u6.heap.size) (x := y1) (by simp); rw [hyd, HZ.out] at this; exact this)) ?fintc1
        case fintc1 =>
          intro a w6 hbase hbl hall
          obtain ⟨v100, hv100, hR100⟩ := hall 31 (by decide)
          have hR100' : v100 = .bool false := hR100
          subst hR100'
          obtain ⟨gf, hgfe, hgf⟩ := base_lit hbase [69, 70, 71, 72, 73, 74, 75, 76, 77, 78, 79, 80, 81, 82, 83, 84, 85, 86, 87, 88, 89, 90, 91, 92, 93, 94, 95, 96, 97, 98, 99, 100] (by rfl)
          have q100 : gf 100 = .bool false := hgfe 100 _ hv100
          simp only [List.foldl_cons, List.foldl_nil, List.setIfInBounds_toArray, List.set_cons_zero, List.set_cons_succ, q100] at hgf
          rw [hgf]
          clear hv100 hR100 hgfe hgf
          have H9 := Lib.hid (J7.out.below hbl)
          clear hbl hall hbase
          have hwi : IntKind.i64.wrap ((i : Int) + 1) = (i : Int) + 1 := IntWalk.i64_in _ (by omega)
          go_wp2
          go_roundw
          case rel => exact ⟨i + 1, m', by omega, by omega, by first | rfl | (push_cast; rfl), HG.out.1, H9.out.less (by simp)⟩
          case measure => simp [intOf]; omega
    · skip
      have hge2 : ¬ ((n : Int) ≥ (F : Int)) := hge
      rw [if_neg hge] at hb
      have hbh := Lib.hid hb
      clear hb
      go_wp2_with fail
      clear c0 c2 hwn
      refine (HB.out x.sq HC.out.2.1 6 (by omega) (by omega) _).mono ?_
      rintro e wB ⟨q, hq, rfl, hww⟩
      subst hww
      have hwq : IntKind.i64.wrap (1 + (q : Int)) = 1 + (q : Int) := IntWalk.i64_in _ (by omega)
      obtain ⟨X, hX⟩ : ∃ X, mkC (mkI (1 + (q : Int)) b) = X := ⟨_, rfl⟩
      have HM : Hid (∀ W, Calls Try.prog 19 #[.int .i64 (1 + (q : Int)), .int .u8 (x.b.toNat : Int)] W fun e w' => e = .returned (.agg X.toArray) ∧ Below W.heap.size W w') := Lib.hid fun W => by rw [← hX, hbh.out]; exact mkI_any (s := 1 + (q : Int)) (by omega) (by omega) b W
      have HX := Lib.hid hX
      clear hX
      go_wp2_with fail
      refine (HM.out _).mono ?_
      rintro e u1 ⟨rfl, hb1⟩
      have J1 := Lib.hid (HA.out.below hb1)
      clear hb1 c1 hwq HM
      obtain ⟨m', hm'⟩ : ∃ m', voteS m (1 + (n : Int)) (mkI (1 + (q : Int)) b) = m' := ⟨_, rfl⟩
      have hT' : TrI F m' := by rw [← hm']; exact HT.out.vote fun h => by rw [mkI_d (by omega) (by omega), hbz (by omega)]
      have HV := Lib.hid (Aw.vote J1.out (n := 1 + (n : Int)) (wf_b (by omega) (by omega)) (mkI (1 + (q : Int)) b) rfl)
      rw [hm', HX.out] at HV
      clear hm'
      go_wp2_with fail
      refine HV.out.mono ?_
      rintro e u2 ⟨rfl, h2⟩
      have J2 := Lib.hid h2
      clear h2 HV
      obtain ⟨gs, hgs⟩ : ∃ z, greatS m' (2 * m'.f + 1) = z := ⟨_, rfl⟩
      obtain ⟨gk, hgk⟩ : ∃ z, greatS m' (m'.f + 1) = z := ⟨_, rfl⟩
      have HS := Lib.hid (Aw.stable J2.out hgs)
      obtain ⟨x1, hx1⟩ : ∃ z, gs.getD mk0 = z := ⟨_, rfl⟩
      obtain ⟨s1, hs1⟩ : ∃ z, gs.isSome = z := ⟨_, rfl⟩
      obtain ⟨X1, hX1⟩ : ∃ z, mkC x1 = z := ⟨_, rfl⟩
      rw [hx1, hs1, hX1] at HS
      obtain ⟨y1, hy1⟩ : ∃ z, gk.getD mk0 = z := ⟨_, rfl⟩
      obtain ⟨s2, hs2⟩ : ∃ z, gk.isSome = z := ⟨_, rfl⟩
      obtain ⟨Y1, hY1⟩ : ∃ z, mkC y1 = z := ⟨_, rfl⟩
      have HG := Lib.hid (And.intro hT' (And.intro hgs (And.intro hgk (And.intro hx1 (And.intro hs1 (And.intro hy1 (And.intro hs2 (And.intro hX1 hY1))))))))
      clear hT' hgs hgk hx1 hs1 hy1 hs2 hX1 hY1
      go_wp2_with fail
      refine HS.out.mono ?_
      rintro e u3 ⟨rfl, h3⟩
      obtain ⟨w5, hw5, hs5, h5, _⟩ := Aw.var' h3 x1 HG.out.2.2.2.2.2.2.2.1
      have HV5 := Lib.hid (And.intro hw5 hs5)
      have J5 := Lib.hid h5
      clear hw5 hs5 h5 h3 HS
      have HKn : Hid (∀ W, Aw w W g m' ((u3.heap.size, x1) :: []) → Calls Try.prog 21 #[.pointer (some ⟨g, 0, none⟩)] W fun e w' => e = .returned (.tuple #[.agg Y1.toArray, .bool s2]) ∧ Aw w w' g m' ((u3.heap.size, x1) :: [])) := Lib.hid fun W h => by have := Aw.known h HG.out.2.2.1; rw [HG.out.2.2.2.2.2.1, HG.out.2.2.2.2.2.2.1, HG.out.2.2.2.2.2.2.2.2] at this; exact this
      go_wp2_with (refine wpList_store_mid rfl 28 _ _ rfl u3.heap.size 0 X1.toArray rfl rfl HV5.out.2.1 HV5.out.2.2.1 HV5.out.2.2.2 ?_; simp only [Act.put]; refine cast (congrArg (fun z => wpList _ _ _ _ _ z) HV5.out.1.symm) ?_)
      refine (HKn.out _ J5.out).mono ?_
      rintro e u6 ⟨rfl, h6⟩
      obtain ⟨w7, hw7, hs7, h7, _⟩ := Aw.var' h6 y1 HG.out.2.2.2.2.2.2.2.2
      have HV7 := Lib.hid (And.intro hw7 hs7)
      have J7 := Lib.hid h7
      clear hw7 hs7 h7 h6 HKn HV5
      go_wp2_with (refine wpList_store_mid rfl 28 _ _ rfl u6.heap.size 0 Y1.toArray rfl rfl HV7.out.2.1 HV7.out.2.2.1 HV7.out.2.2.2 ?_; simp only [Act.put]; refine cast (congrArg (fun z => wpList _ _ _ _ _ z) HV7.out.1.symm) ?_)
      obtain ⟨M0, hM0⟩ : ∃ z, mkC (mkI 0 0) = z := ⟨_, rfl⟩
      obtain ⟨Z, hZ⟩ : ∃ z, cbs (dgm 0) = z := ⟨_, rfl⟩
      have iZ : Hid ((Try.prog.info? 26).map (·.size) = some Z.length) := Lib.hid (by rw [← hZ]; exact dig_info)
      have hM : Hid (∀ W, Calls Try.prog 19 #[.int .i64 0, .int .u8 0] W fun e w' => e = .returned (.agg M0.toArray) ∧ Below W.heap.size W w') := Lib.hid fun W => by rw [← hM0]; exact mkI_any (s := 0) (by decide) (by decide) 0 W
      have hFd : Hid (∀ W, (Instr.field 28 (.agg M0.toArray) 1).run Try.prog W = .ok (.agg Z.toArray) W) := Lib.hid fun W => by rw [← hM0, ← hZ]; exact mkI_field 0 W
      have hEq : Hid (∀ W, (Op.equalIn 10000 26 (.agg Z.toArray) (.agg Z.toArray)).run Try.prog W = .ok true W) := Lib.hid fun W => by rw [← hZ]; have := dg_eq (dgm 0) (dgm 0) rfl rfl W; simpa using this
      have HZ := Lib.hid hZ
      clear hM0 hZ
      have hcase : (s1 = false ∧ s2 = false) ∨ (s1 = false ∧ s2 = true ∧ y1.d = dgm 0) ∨ (s1 = true ∧ s2 = true ∧ x1.d = dgm 0 ∧ y1.d = dgm 0 ∧ x1.s ≤ y1.s) := by
        obtain ⟨hT', hgs, hgk, hx1, hs1, hy1, hs2, _⟩ := HG.out
        have hff := hT'.f
        cases gs with
        | none =>
          cases gk with
          | none => exact .inl ⟨hs1.symm, hs2.symm⟩
          | some y => exact .inr (.inl ⟨hs1.symm, hs2.symm, by rw [← hy1]; exact hT'.so hF1 hF2 (by omega) hgk⟩)
        | some z =>
          obtain ⟨y, hy, hle⟩ := hT'.both hF1 hgs
          rw [hgk] at hy
          subst hy
          exact .inr (.inr ⟨hs1.symm, hs2.symm, by rw [← hx1]; exact hT'.so hF1 hF2 (by omega) hgs, by rw [← hy1]; exact hT'.so hF1 hF2 (by omega) hgk, by rw [← hx1, ← hy1]; exact hle⟩)
      rcases hcase with ⟨rfl, rfl⟩ | ⟨rfl, rfl, hyd⟩ | ⟨rfl, rfl, hxd, hyd, hle⟩
      · skip
        refine region_rule7 (P := Try.prog) 32 102 taD taG taS (taR u3.heap.size u6.heap.size x1.s y1.s Z M0) _ _ (by kernel_rfl) rfl rfl (by kernel_rfl) (by decide +kernel) (ta_gb u3.heap.size u6.heap.size x1.s y1.s Z M0) (ta_sk u3.heap.size u6.heap.size x1.s y1.s Z M0) (ta_un u3.heap.size u6.heap.size x1.s y1.s Z M0) (ta_on u3.heap.size u6.heap.size x1.s y1.s Z M0) (ta_step u3.heap.size u6.heap.size x1.s y1.s Z M0 (by rfl) (by kernel_rfl) rfl rfl rfl rfl iZ.out hM.out hFd.out hEq.out) ?finta0
        case finta0 =>
          intro a w6 hbase hbl hall
          obtain ⟨v100, hv100, hR100⟩ := hall 31 (by decide)
          have hR100' : v100 = .bool false := hR100
          subst hR100'
          obtain ⟨gf, hgfe, hgf⟩ := base_lit hbase [69, 70, 71, 72, 73, 74, 75, 76, 77, 78, 79, 80, 81, 82, 83, 84, 85, 86, 87, 88, 89, 90, 91, 92, 93, 94, 95, 96, 97, 98, 99, 100] (by rfl)
          have q100 : gf 100 = .bool false := hgfe 100 _ hv100
          simp only [List.foldl_cons, List.foldl_nil, List.setIfInBounds_toArray, List.set_cons_zero, List.set_cons_succ, q100] at hgf
          rw [hgf]
          clear hv100 hR100 hgfe hgf
          have H9 := Lib.hid (J7.out.below hbl)
          clear hbl hall hbase
          have hwi : IntKind.i64.wrap ((i : Int) + 1) = (i : Int) + 1 := IntWalk.i64_in _ (by omega)
          go_wp2
          go_roundw
          case rel => exact ⟨i + 1, m', by omega, by omega, by first | rfl | (push_cast; rfl), HG.out.1, H9.out.less (by simp)⟩
          case measure => simp [intOf]; omega
      · skip
        refine region_rule7 (P := Try.prog) 32 102 tbD tbG tbS (tbR u3.heap.size u6.heap.size x1.s y1.s Z M0) _ _ (by kernel_rfl) rfl rfl (by kernel_rfl) (by decide +kernel) (tb_gb u3.heap.size u6.heap.size x1.s y1.s Z M0) (tb_sk u3.heap.size u6.heap.size x1.s y1.s Z M0) (tb_un u3.heap.size u6.heap.size x1.s y1.s Z M0) (tb_on u3.heap.size u6.heap.size x1.s y1.s Z M0) (tb_step u3.heap.size u6.heap.size x1.s y1.s Z M0 (by rfl) (by kernel_rfl) rfl rfl rfl rfl iZ.out hM.out hFd.out hEq.out (fun W hb => by have := (J7.out.below hb).mark_d (b := u6.heap.size) (x := y1) (by simp); rw [hyd, HZ.out] at this; exact this)) ?fintb0
        case fintb0 =>
          intro a w6 hbase hbl hall
          obtain ⟨v100, hv100, hR100⟩ := hall 31 (by decide)
          have hR100' : v100 = .bool false := hR100
          subst hR100'
          obtain ⟨gf, hgfe, hgf⟩ := base_lit hbase [69, 70, 71, 72, 73, 74, 75, 76, 77, 78, 79, 80, 81, 82, 83, 84, 85, 86, 87, 88, 89, 90, 91, 92, 93, 94, 95, 96, 97, 98, 99, 100] (by rfl)
          have q100 : gf 100 = .bool false := hgfe 100 _ hv100
          simp only [List.foldl_cons, List.foldl_nil, List.setIfInBounds_toArray, List.set_cons_zero, List.set_cons_succ, q100] at hgf
          rw [hgf]
          clear hv100 hR100 hgfe hgf
          have H9 := Lib.hid (J7.out.below hbl)
          clear hbl hall hbase
          have hwi : IntKind.i64.wrap ((i : Int) + 1) = (i : Int) + 1 := IntWalk.i64_in _ (by omega)
          go_wp2
          go_roundw
          case rel => exact ⟨i + 1, m', by omega, by omega, by first | rfl | (push_cast; rfl), HG.out.1, H9.out.less (by simp)⟩
          case measure => simp [intOf]; omega
      · skip
        refine region_rule4 (P := Try.prog) 32 102 tcD tcG tcS (tcR u3.heap.size u6.heap.size x1.s y1.s Z M0) _ _ (by kernel_rfl) rfl rfl (by kernel_rfl) (by decide +kernel) (tc_gb u3.heap.size u6.heap.size x1.s y1.s Z M0) (tc_sk u3.heap.size u6.heap.size x1.s y1.s Z M0) (tc_on u3.heap.size u6.heap.size x1.s y1.s Z M0) (tc_step u3.heap.size u6.heap.size x1.s y1.s Z M0 (by rfl) (by kernel_rfl) rfl rfl rfl rfl iZ.out hM.out hFd.out hEq.out (fun W hb => by have := (J7.out.below hb).mark_d (b := u3.heap.size) (x := x1) (by simp); rw [hxd, HZ.out] at this; exact this) (fun W hb => (J7.out.below hb).mark_s (b := u3.heap.size) (x := x1) (by simp)) (fun W hb => (J7.out.below hb).mark_s (b := u6.heap.size) (x := y1) (by simp)) (by omega) (fun W hb => by have := (J7.out.below hb).mark_d (b := u6.heap.size) (x := y1) (by simp); rw [hyd, HZ.out] at this; exact this)) ?fintc0
        case fintc0 =>
          intro a w6 hbase hbl hall
          obtain ⟨v100, hv100, hR100⟩ := hall 31 (by decide)
          have hR100' : v100 = .bool false := hR100
          subst hR100'
          obtain ⟨gf, hgfe, hgf⟩ := base_lit hbase [69, 70, 71, 72, 73, 74, 75, 76, 77, 78, 79, 80, 81, 82, 83, 84, 85, 86, 87, 88, 89, 90, 91, 92, 93, 94, 95, 96, 97, 98, 99, 100] (by rfl)
          have q100 : gf 100 = .bool false := hgfe 100 _ hv100
          simp only [List.foldl_cons, List.foldl_nil, List.setIfInBounds_toArray, List.set_cons_zero, List.set_cons_succ, q100] at hgf
          rw [hgf]
          clear hv100 hR100 hgfe hgf
          have H9 := Lib.hid (J7.out.below hbl)
          clear hbl hall hbase
          have hwi : IntKind.i64.wrap ((i : Int) + 1) = (i : Int) + 1 := IntWalk.i64_in _ (by omega)
          go_wp2
          go_roundw
          case rel => exact ⟨i + 1, m', by omega, by omega, by first | rfl | (push_cast; rfl), HG.out.1, H9.out.less (by simp)⟩
          case measure => simp [intOf]; omega

end Go.Proofs.Ytenccpccpjjkmaa.marksTrue
