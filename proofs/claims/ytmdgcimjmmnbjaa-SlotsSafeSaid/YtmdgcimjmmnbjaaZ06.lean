/-
  Laid together for a hand-in: Pr14, Lo14, Shelf14a, Shelf14b, Co14.
-/
import Derived.Test.YtmdgcimjmmnbjaaZ03
import Derived.Test.YtmdgcimjmmnbjaaZ04
import Derived.Test.YtmdgcimjmmnbjaaZ05
import Derived.Test.YtmdgcimjmmnbjaaProg
import Derived.Shelf.SlSortCmp.NoneTotal
import Derived.Ground.SlsfProg
import Derived.Shelf.Small.Wraps

namespace Go.Proofs.Ytmdgcimjmmnbjaa
open Go.RowKit Go.Maps
set_option linter.unusedVariables false
set_option linter.unusedSimpArgs false

def pnR (sb rb g : Nat) (x : Vt) (C Z : List Value) (c : Nat) (f : Int) (B : Bool) : Nat → Value → World → Prop
  | 0 => fun v w => v = .pointer (some ⟨sb, 0, none⟩)
  | 1 => fun v w => v = .pointer (some ⟨sb, 0, none⟩)
  | 2 => fun v w => v = .pointer (some ⟨sb, 0, none⟩)
  | 3 => fun v w => v = .agg C.toArray
  | 4 => fun v w => v = .agg Z.toArray
  | 5 => fun v w => v = .bool false
  | 6 => fun v w => v = .bool false
  | 7 => fun v w => v = undef
  | 8 => fun v w => v = undef
  | 9 => fun v w => v = undef
  | 10 => fun v w => v = undef
  | 11 => fun v w => v = undef
  | 12 => fun v w => v = undef
  | 13 => fun v w => v = undef
  | 14 => fun v w => v = undef
  | 15 => fun v w => v = undef
  | 16 => fun v w => v = undef
  | 17 => fun v w => v = undef
  | 18 => fun v w => v = undef
  | 19 => fun v w => v = undef
  | 20 => fun v w => v = undef
  | 21 => fun v w => v = undef
  | 22 => fun v w => v = undef
  | 23 => fun v w => v = (.bool false)
  | 24 => fun v w => v = (.bool false)
  | _ => fun _ _ => True
def pnD (i : Nat) : Nat := ([5, 6, 7, 8, 9, 10, 11, 12, 13, 14, 15, 16, 17, 18, 19, 20, 21, 22, 23, 24, 25, 26, 27, 28, 4] : List Nat).getD i 0
def pnG : Nat → Option Bool
  | 6 => some false
  | _ => none
def pnS (i : Nat) : Bool := ([7, 8, 9, 10, 11, 12, 13, 14, 15, 16, 17, 18, 19, 20, 21, 22] : List Nat).contains i
theorem pn_gb (sb rb g : Nat) (x : Vt) (C Z : List Value) (c : Nat) (f : Int) (B : Bool) : ∀ i b v w, pnG i = some b → pnR sb rb g x C Z c f B i v w → v = .bool b := by
  intro i b v w h hR
  unfold pnG at h
  split at h
  all_goals first | (injection h with h; subst h; exact hR) | cases h
theorem pn_sk (sb rb g : Nat) (x : Vt) (C Z : List Value) (c : Nat) (f : Int) (B : Bool) : ∀ i w, pnS i = true → pnR sb rb g x C Z c f B i undef w := by
  intro i w h
  have hm : i ∈ ([7, 8, 9, 10, 11, 12, 13, 14, 15, 16, 17, 18, 19, 20, 21, 22] : List Nat) := by simpa [pnS] using h
  simp only [List.mem_cons, List.not_mem_nil, or_false] at hm
  rcases hm with rfl | rfl | rfl | rfl | rfl | rfl | rfl | rfl | rfl | rfl | rfl | rfl | rfl | rfl | rfl | rfl
  all_goals rfl
theorem pn_on (sb rb g : Nat) (x : Vt) (C Z : List Value) (c : Nat) (f : Int) (B : Bool) : ∀ i v w w', pnR sb rb g x C Z c f B i v w → Below w.heap.size w w' → pnR sb rb g x C Z c f B i v w'
  | 0, v, w, w', h, _ => h
  | 1, v, w, w', h, _ => h
  | 2, v, w, w', h, _ => h
  | 3, v, w, w', h, _ => h
  | 4, v, w, w', h, _ => h
  | 5, v, w, w', h, _ => h
  | 6, v, w, w', h, _ => h
  | 7, v, w, w', h, _ => h
  | 8, v, w, w', h, _ => h
  | 9, v, w, w', h, _ => h
  | 10, v, w, w', h, _ => h
  | 11, v, w, w', h, _ => h
  | 12, v, w, w', h, _ => h
  | 13, v, w, w', h, _ => h
  | 14, v, w, w', h, _ => h
  | 15, v, w, w', h, _ => h
  | 16, v, w, w', h, _ => h
  | 17, v, w, w', h, _ => h
  | 18, v, w, w', h, _ => h
  | 19, v, w, w', h, _ => h
  | 20, v, w, w', h, _ => h
  | 21, v, w, w', h, _ => h
  | 22, v, w, w', h, _ => h
  | 23, v, w, w', h, _ => h
  | 24, v, w, w', h, _ => h
  | i + 25, v, w, w', h, hb => trivial
def pnOps : List Op := [.move (.tmp 1),
  .nilCheck (.tmp 5),
  .fieldAddr 68 (.tmp 6) 0,
  .load 64 (.tmp 7),
  .build 64 #[],
  .binOp .neq 64 (.tmp 8) (.tmp 9) 64,
  .move (.tmp 10),
  .move (.tmp 1),
  .nilCheck (.tmp 12),
  .fieldAddr 68 (.tmp 13) 3,
  .load 66 (.tmp 14),
  .move (.tmp 1),
  .nilCheck (.tmp 16),
  .fieldAddr 68 (.tmp 17) 0,
  .load 64 (.tmp 18),
  .call { callee := .value (.func 30), args := #[.tmp 15, .tmp 19], argTypes := #[66, 64] },
  .move (.tmp 0),
  .nilCheck (.tmp 21),
  .fieldAddr 72 (.tmp 22) 0,
  .fieldAddr 53 (.tmp 23) 0,
  .load 3 (.tmp 24),
  .binOp .mul 3 (.const (.int .i64 2)) (.tmp 25) 3,
  .binOp .geq 3 (.tmp 20) (.tmp 26) 3,
  .pick (.tmp 11) (.tmp 27) (.const (.bool false)),
  .assign (.tmp 28)]
def pnNeeds : Nat → List Nat
  | 0 => []
  | 1 => [0]
  | 2 => [1]
  | 3 => [2]
  | 4 => []
  | 5 => [3, 4]
  | 6 => [5]
  | 7 => []
  | 8 => []
  | 9 => []
  | 10 => []
  | 11 => []
  | 12 => []
  | 13 => []
  | 14 => []
  | 15 => []
  | 16 => []
  | 17 => []
  | 18 => []
  | 19 => []
  | 20 => []
  | 21 => []
  | 22 => []
  | 23 => [6, 22]
  | 24 => [23]
  | _ => []
set_option maxRecDepth 100000 in
set_option maxHeartbeats 3200000 in
theorem pn_step {ops : Array Oper} {Q : Exit → Act → World → Prop} {a0 : Act} {w0 : World} (sb rb g : Nat) (x : Vt) (C Z : List Value) (c : Nat) (f : Int) (B : Bool) (hops : ((List.range 25).map fun i => (ops[i]?).map Oper.op) = pnOps.map some)
    (hnd : ((List.range 25).all fun i => (pnNeeds i).all fun j => ((ops[i]?).map fun o => o.after.any fun e => Region.binds .any e && (e.on == j)).getD false) = true)
    (x1 : a0.tmps[1]? = some (.pointer (some ⟨sb, 0, none⟩))) (x0 : a0.tmps[0]? = some (.pointer (some ⟨g, 0, none⟩)))
    {cs : List Value} (hB : Blk w0 sb 68 cs) (hC : (cs.drop 0).take 34 = C) (hiC : (Try.prog.info? 64).map (·.size) = some C.length) (hZ : Try.prog.built 64 [] = some Z.toArray)
    (heq : ∀ w, (Op.equalIn 10000 64 (.agg C.toArray) (.agg Z.toArray)).run Try.prog w = .ok true w) :
    ∀ i o, i < 25 → pnS i = false → ops[i]? = some o → o.dst = some (pnD i) → ∀ a w, Base pnD 25 a0 a → Below w0.heap.size w0 w → Region.wanted o (yielded ops a.tmps) = true →
      (∀ j, (o.after.any fun e => Region.binds .any e && (e.on == j)) = true → Has pnD (pnR sb rb g x C Z c f B) j a w) →
      ∀ K : Act → World → Prop, (∀ v w', pnR sb rb g x C Z c f B i v w' → Below w.heap.size w w' → K (a.put o.dst v) w') → wpOp Try.prog ops Q i K a w := by
  intro i o hi hs ho hds a w hbase hbl hwt hdep0 K hK
  have hop : some o.op = pnOps[i]? := by
    have h1 : ((List.range 25).map fun i => (ops[i]?).map Oper.op)[i]? = some (some o.op) := by
      rw [List.getElem?_map, List.getElem?_range hi]; simp only [Option.map_some, ho]
    rw [hops, List.getElem?_map] at h1
    cases h2 : pnOps[i]? with
    | none => rw [h2] at h1; cases h1
    | some y => rw [h2] at h1; simp only [Option.map_some, Option.some.injEq] at h1; rw [h1]
  have hdep : ∀ j, j ∈ pnNeeds i → Has pnD (pnR sb rb g x C Z c f B) j a w := fun j hj => by
    have h1 := List.all_eq_true.1 (List.all_eq_true.1 hnd i (List.mem_range.2 hi)) j hj
    rw [ho] at h1
    exact hdep0 j h1
  clear hdep0 hops hnd
  match i, hi, hs, ho, hop, hds, hdep, hK with
  | 0, _, hs, ho, hop, hds, hdep, hK =>
    have hop : o.op = .move (.tmp 1) := Option.some.inj hop
    have hu1 : a.tmps[1]? = some (.pointer (some ⟨sb, 0, none⟩)) := (hbase.2.2 1 (by decide)).trans x1
    have e1 : a.eval (.tmp 1) = _ := ev_tmp hu1
    refine st3 ho hwt (v := _) (w' := w) ?_ (hK _ w rfl (Below.refl _ _))
    unfold execOp
    rw [hop, ← e1]
    rfl
  | 1, _, hs, ho, hop, hds, hdep, hK =>
    have hop : o.op = .nilCheck (.tmp 5) := Option.some.inj hop
    obtain ⟨u5, hu5, hv5⟩ := hdep 0 (by decide)
    have hv5' : u5 = .pointer (some ⟨sb, 0, none⟩) := hv5
    subst hv5'
    have e5 : a.eval (.tmp 5) = _ := ev_tmp hu5
    refine st3 ho hwt (v := .pointer (some ⟨sb, 0, none⟩)) (w' := w) ?_ (hK _ w rfl (Below.refl _ _))
    unfold execOp
    simp only [hop, Option.map_some, Option.map_none, e5]
    first | rfl | (go_simp; done) | (go_simp; simp; done) | (go_simp; intro h; omega)
  | 2, _, hs, ho, hop, hds, hdep, hK =>
    have hop : o.op = .fieldAddr 68 (.tmp 6) 0 := Option.some.inj hop
    obtain ⟨u6, hu6, hv6⟩ := hdep 1 (by decide)
    have hv6' : u6 = .pointer (some ⟨sb, 0, none⟩) := hv6
    subst hv6'
    have e6 : a.eval (.tmp 6) = _ := ev_tmp hu6
    refine st3 ho hwt (v := .pointer (some ⟨sb, 0, none⟩)) (w' := w) ?_ (hK _ w rfl (Below.refl _ _))
    unfold execOp
    simp only [hop, Option.map_some, Option.map_none, e6]
    first | rfl | (go_simp; done) | (go_simp; simp; done) | (go_simp; intro h; omega)
  | 3, _, hs, ho, hop, hds, hdep, hK =>
    have hop : o.op = .load 64 (.tmp 7) := Option.some.inj hop
    obtain ⟨u7, hu7, hv7⟩ := hdep 2 (by decide)
    have hv7' : u7 = .pointer (some ⟨sb, 0, none⟩) := hv7
    subst hv7'
    have e7 : a.eval (.tmp 7) = _ := ev_tmp hu7
    refine st3 ho hwt (v := .agg C.toArray) (w' := w) ?_ (hK _ w rfl (Below.refl _ _))
    unfold execOp
    simp only [hop, e7, Instr.loadAt, Instr.sureAddr, Sem.run_bind, Sem.run_pure, Result.andThen_ok, run_loadVar_mid w sb 0 64 C _ ((hB.below hbl hB.lt).rangeFrom (show _ = C from hC)) Try.underlying64 rfl hiC]
  | 4, _, hs, ho, hop, hds, hdep, hK =>
    have hop : o.op = .build 64 #[] := Option.some.inj hop
    exact st3 ho hwt (exec_build 64 _ hop _ (show (Try.prog).built 64 [] = _ from (by exact hZ)) w) (hK _ w rfl (Below.refl _ _))
  | 5, _, hs, ho, hop, hds, hdep, hK =>
    have hop : o.op = .binOp .neq 64 (.tmp 8) (.tmp 9) 64 := Option.some.inj hop
    obtain ⟨u8, hu8, hv8⟩ := hdep 3 (by decide)
    have hv8' : u8 = .agg C.toArray := hv8
    subst hv8'
    have e8 : a.eval (.tmp 8) = _ := ev_tmp hu8
    obtain ⟨u9, hu9, hv9⟩ := hdep 4 (by decide)
    have hv9' : u9 = .agg Z.toArray := hv9
    subst hv9'
    have e9 : a.eval (.tmp 9) = _ := ev_tmp hu9
    refine st3 ho hwt (v := .bool false) (w' := w) ?_ (hK _ w rfl (Below.refl _ _))
    have hq := heq w
    unfold execOp
    simp only [hop, e8, e9]
    first | rfl | (go_simp; done) | (go_simp; rfl)
  | 6, _, hs, ho, hop, hds, hdep, hK =>
    have hop : o.op = .move (.tmp 10) := Option.some.inj hop
    obtain ⟨u10, hu10, hv10⟩ := hdep 5 (by decide)
    have hv10' : u10 = .bool false := hv10
    subst hv10'
    have e10 : a.eval (.tmp 10) = _ := ev_tmp hu10
    refine st3 ho hwt (v := _) (w' := w) ?_ (hK _ w rfl (Below.refl _ _))
    unfold execOp
    rw [hop, ← e10]
    rfl
  | 7, _, hs, ho, hop, hds, hdep, hK =>
    exact absurd hs (by decide)
  | 8, _, hs, ho, hop, hds, hdep, hK =>
    exact absurd hs (by decide)
  | 9, _, hs, ho, hop, hds, hdep, hK =>
    exact absurd hs (by decide)
  | 10, _, hs, ho, hop, hds, hdep, hK =>
    exact absurd hs (by decide)
  | 11, _, hs, ho, hop, hds, hdep, hK =>
    exact absurd hs (by decide)
  | 12, _, hs, ho, hop, hds, hdep, hK =>
    exact absurd hs (by decide)
  | 13, _, hs, ho, hop, hds, hdep, hK =>
    exact absurd hs (by decide)
  | 14, _, hs, ho, hop, hds, hdep, hK =>
    exact absurd hs (by decide)
  | 15, _, hs, ho, hop, hds, hdep, hK =>
    exact absurd hs (by decide)
  | 16, _, hs, ho, hop, hds, hdep, hK =>
    exact absurd hs (by decide)
  | 17, _, hs, ho, hop, hds, hdep, hK =>
    exact absurd hs (by decide)
  | 18, _, hs, ho, hop, hds, hdep, hK =>
    exact absurd hs (by decide)
  | 19, _, hs, ho, hop, hds, hdep, hK =>
    exact absurd hs (by decide)
  | 20, _, hs, ho, hop, hds, hdep, hK =>
    exact absurd hs (by decide)
  | 21, _, hs, ho, hop, hds, hdep, hK =>
    exact absurd hs (by decide)
  | 22, _, hs, ho, hop, hds, hdep, hK =>
    exact absurd hs (by decide)
  | 23, _, hs, ho, hop, hds, hdep, hK =>
    have hop : o.op = .pick (.tmp 11) (.tmp 27) (.const (.bool false)) := Option.some.inj hop
    obtain ⟨u11, hu11, hv11⟩ := hdep 6 (by decide)
    have hv11' : u11 = .bool false := hv11
    subst hv11'
    have e11 : a.eval (.tmp 11) = _ := ev_tmp hu11
    obtain ⟨u27, hu27, hv27⟩ := hdep 22 (by decide)
    have hv27' : u27 = undef := hv27
    subst hv27'
    have e27 : a.eval (.tmp 27) = _ := ev_tmp hu27
    refine st3 ho hwt (v := (.bool false)) (w' := w) ?_ (hK _ w rfl (Below.refl _ _))
    unfold execOp
    simp only [hop, e11, e27]
    first | rfl | (go_simp; done) | (go_simp; simp; done) | (go_simp; intro h; omega)
  | 24, _, hs, ho, hop, hds, hdep, hK =>
    have hop : o.op = .assign (.tmp 28) := Option.some.inj hop
    obtain ⟨u28, hu28, hv28⟩ := hdep 23 (by decide)
    have hv28' : u28 = (.bool false) := hv28
    subst hv28'
    have e28 : a.eval (.tmp 28) = _ := ev_tmp hu28
    refine st3 ho hwt (v := _) (w' := w) ?_ (hK _ w rfl (Below.refl _ _))
    unfold execOp
    rw [hop, ← e28]
    rfl
  | i + 25, hi, _, _, _, _, _, _ => exact absurd hi (by omega)
def ppR (sb rb g : Nat) (x : Vt) (C Z : List Value) (c : Nat) (f : Int) (B : Bool) : Nat → Value → World → Prop
  | 0 => fun v w => v = .pointer (some ⟨sb, 0, none⟩)
  | 1 => fun v w => v = .pointer (some ⟨sb, 0, none⟩)
  | 2 => fun v w => v = .pointer (some ⟨sb, 0, none⟩)
  | 3 => fun v w => v = .agg C.toArray
  | 4 => fun v w => v = .agg Z.toArray
  | 5 => fun v w => v = .bool true
  | 6 => fun v w => v = .bool true
  | 7 => fun v w => v = .pointer (some ⟨sb, 0, none⟩)
  | 8 => fun v w => v = .pointer (some ⟨sb, 0, none⟩)
  | 9 => fun v w => v = .pointer (some ⟨sb, 69, none⟩)
  | 10 => fun v w => v = .map (some rb)
  | 11 => fun v w => v = .pointer (some ⟨sb, 0, none⟩)
  | 12 => fun v w => v = .pointer (some ⟨sb, 0, none⟩)
  | 13 => fun v w => v = .pointer (some ⟨sb, 0, none⟩)
  | 14 => fun v w => v = .agg C.toArray
  | 15 => fun v w => v = .int .i64 (c : Int)
  | 16 => fun v w => v = .pointer (some ⟨g, 0, none⟩)
  | 17 => fun v w => v = .pointer (some ⟨g, 0, none⟩)
  | 18 => fun v w => v = .pointer (some ⟨g, 0, none⟩)
  | 19 => fun v w => v = .pointer (some ⟨g, 0, none⟩)
  | 20 => fun v w => v = .int .i64 f
  | 21 => fun v w => v = .int .i64 (2 * f)
  | 22 => fun v w => v = .bool B
  | 23 => fun v w => v = .bool B
  | 24 => fun v w => v = .bool B
  | _ => fun _ _ => True
def ppD (i : Nat) : Nat := ([5, 6, 7, 8, 9, 10, 11, 12, 13, 14, 15, 16, 17, 18, 19, 20, 21, 22, 23, 24, 25, 26, 27, 28, 4] : List Nat).getD i 0
def ppG : Nat → Option Bool
  | 6 => some true
  | _ => none
def ppS (i : Nat) : Bool := ([] : List Nat).contains i
theorem pp_gb (sb rb g : Nat) (x : Vt) (C Z : List Value) (c : Nat) (f : Int) (B : Bool) : ∀ i b v w, ppG i = some b → ppR sb rb g x C Z c f B i v w → v = .bool b := by
  intro i b v w h hR
  unfold ppG at h
  split at h
  all_goals first | (injection h with h; subst h; exact hR) | cases h
theorem pp_sk (sb rb g : Nat) (x : Vt) (C Z : List Value) (c : Nat) (f : Int) (B : Bool) : ∀ i w, ppS i = true → ppR sb rb g x C Z c f B i undef w := by
  intro i w h
  simp [ppS] at h
theorem pp_on (sb rb g : Nat) (x : Vt) (C Z : List Value) (c : Nat) (f : Int) (B : Bool) : ∀ i v w w', ppR sb rb g x C Z c f B i v w → Below w.heap.size w w' → ppR sb rb g x C Z c f B i v w'
  | 0, v, w, w', h, _ => h
  | 1, v, w, w', h, _ => h
  | 2, v, w, w', h, _ => h
  | 3, v, w, w', h, _ => h
  | 4, v, w, w', h, _ => h
  | 5, v, w, w', h, _ => h
  | 6, v, w, w', h, _ => h
  | 7, v, w, w', h, _ => h
  | 8, v, w, w', h, _ => h
  | 9, v, w, w', h, _ => h
  | 10, v, w, w', h, _ => h
  | 11, v, w, w', h, _ => h
  | 12, v, w, w', h, _ => h
  | 13, v, w, w', h, _ => h
  | 14, v, w, w', h, _ => h
  | 15, v, w, w', h, _ => h
  | 16, v, w, w', h, _ => h
  | 17, v, w, w', h, _ => h
  | 18, v, w, w', h, _ => h
  | 19, v, w, w', h, _ => h
  | 20, v, w, w', h, _ => h
  | 21, v, w, w', h, _ => h
  | 22, v, w, w', h, _ => h
  | 23, v, w, w', h, _ => h
  | 24, v, w, w', h, _ => h
  | i + 25, v, w, w', h, hb => trivial
def ppOps : List Op := [.move (.tmp 1),
  .nilCheck (.tmp 5),
  .fieldAddr 68 (.tmp 6) 0,
  .load 64 (.tmp 7),
  .build 64 #[],
  .binOp .neq 64 (.tmp 8) (.tmp 9) 64,
  .move (.tmp 10),
  .move (.tmp 1),
  .nilCheck (.tmp 12),
  .fieldAddr 68 (.tmp 13) 3,
  .load 66 (.tmp 14),
  .move (.tmp 1),
  .nilCheck (.tmp 16),
  .fieldAddr 68 (.tmp 17) 0,
  .load 64 (.tmp 18),
  .call { callee := .value (.func 30), args := #[.tmp 15, .tmp 19], argTypes := #[66, 64] },
  .move (.tmp 0),
  .nilCheck (.tmp 21),
  .fieldAddr 72 (.tmp 22) 0,
  .fieldAddr 53 (.tmp 23) 0,
  .load 3 (.tmp 24),
  .binOp .mul 3 (.const (.int .i64 2)) (.tmp 25) 3,
  .binOp .geq 3 (.tmp 20) (.tmp 26) 3,
  .pick (.tmp 11) (.tmp 27) (.const (.bool false)),
  .assign (.tmp 28)]
def ppNeeds : Nat → List Nat
  | 0 => []
  | 1 => [0]
  | 2 => [1]
  | 3 => [2]
  | 4 => []
  | 5 => [3, 4]
  | 6 => [5]
  | 7 => []
  | 8 => [7]
  | 9 => [8]
  | 10 => [9]
  | 11 => []
  | 12 => [11]
  | 13 => [12]
  | 14 => [13]
  | 15 => [10, 14]
  | 16 => []
  | 17 => [16]
  | 18 => [17]
  | 19 => [18]
  | 20 => [19]
  | 21 => [20]
  | 22 => [15, 21]
  | 23 => [6, 22]
  | 24 => [23]
  | _ => []
set_option maxRecDepth 100000 in
set_option maxHeartbeats 3200000 in
theorem pp_step {ops : Array Oper} {Q : Exit → Act → World → Prop} {a0 : Act} {w0 : World} (sb rb g : Nat) (x : Vt) (C Z : List Value) (c : Nat) (f : Int) (B : Bool) (hops : ((List.range 25).map fun i => (ops[i]?).map Oper.op) = ppOps.map some)
    (hnd : ((List.range 25).all fun i => (ppNeeds i).all fun j => ((ops[i]?).map fun o => o.after.any fun e => Region.binds .any e && (e.on == j)).getD false) = true)
    (x1 : a0.tmps[1]? = some (.pointer (some ⟨sb, 0, none⟩))) (x0 : a0.tmps[0]? = some (.pointer (some ⟨g, 0, none⟩)))
    {cs : List Value} (hB : Blk w0 sb 68 cs) (hC : (cs.drop 0).take 34 = C) (hiC : (Try.prog.info? 64).map (·.size) = some C.length) (hZ : Try.prog.built 64 [] = some Z.toArray)
    (heq : ∀ w, (Op.equalIn 10000 64 (.agg C.toArray) (.agg Z.toArray)).run Try.prog w = .ok false w)
    {cg : List Value} (hG : Blk w0 g 72 cg) (h0 : cg[0]? = some (.int .i64 f)) (hf0 : 0 ≤ f) (hf1 : f ≤ 2) (h69 : cs[69]? = some (.map (some rb)))
    (hV : ∀ w, Below w0.heap.size w0 w → Calls Try.prog 30 #[.map (some rb), .agg C.toArray] w fun e w' => e = .returned (.int .i64 (c : Int)) ∧ Below w.heap.size w w') (hBd : decide (2 * f ≤ (c : Int)) = B) :
    ∀ i o, i < 25 → ppS i = false → ops[i]? = some o → o.dst = some (ppD i) → ∀ a w, Base ppD 25 a0 a → Below w0.heap.size w0 w → Region.wanted o (yielded ops a.tmps) = true →
      (∀ j, (o.after.any fun e => Region.binds .any e && (e.on == j)) = true → Has ppD (ppR sb rb g x C Z c f B) j a w) →
      ∀ K : Act → World → Prop, (∀ v w', ppR sb rb g x C Z c f B i v w' → Below w.heap.size w w' → K (a.put o.dst v) w') → wpOp Try.prog ops Q i K a w := by
  intro i o hi hs ho hds a w hbase hbl hwt hdep0 K hK
  have hop : some o.op = ppOps[i]? := by
    have h1 : ((List.range 25).map fun i => (ops[i]?).map Oper.op)[i]? = some (some o.op) := by
      rw [List.getElem?_map, List.getElem?_range hi]; simp only [Option.map_some, ho]
    rw [hops, List.getElem?_map] at h1
    cases h2 : ppOps[i]? with
    | none => rw [h2] at h1; cases h1
    | some y => rw [h2] at h1; simp only [Option.map_some, Option.some.injEq] at h1; rw [h1]
  have hdep : ∀ j, j ∈ ppNeeds i → Has ppD (ppR sb rb g x C Z c f B) j a w := fun j hj => by
    have h1 := List.all_eq_true.1 (List.all_eq_true.1 hnd i (List.mem_range.2 hi)) j hj
    rw [ho] at h1
    exact hdep0 j h1
  clear hdep0 hops hnd
  match i, hi, hs, ho, hop, hds, hdep, hK with
  | 0, _, hs, ho, hop, hds, hdep, hK =>
    have hop : o.op = .move (.tmp 1) := Option.some.inj hop
    have hu1 : a.tmps[1]? = some (.pointer (some ⟨sb, 0, none⟩)) := (hbase.2.2 1 (by decide)).trans x1
    have e1 : a.eval (.tmp 1) = _ := ev_tmp hu1
    refine st3 ho hwt (v := _) (w' := w) ?_ (hK _ w rfl (Below.refl _ _))
    unfold execOp
    rw [hop, ← e1]
    rfl
  | 1, _, hs, ho, hop, hds, hdep, hK =>
    have hop : o.op = .nilCheck (.tmp 5) := Option.some.inj hop
    obtain ⟨u5, hu5, hv5⟩ := hdep 0 (by decide)
    have hv5' : u5 = .pointer (some ⟨sb, 0, none⟩) := hv5
    subst hv5'
    have e5 : a.eval (.tmp 5) = _ := ev_tmp hu5
    refine st3 ho hwt (v := .pointer (some ⟨sb, 0, none⟩)) (w' := w) ?_ (hK _ w rfl (Below.refl _ _))
    unfold execOp
    simp only [hop, Option.map_some, Option.map_none, e5]
    first | rfl | (go_simp; done) | (go_simp; simp; done) | (go_simp; intro h; omega)
  | 2, _, hs, ho, hop, hds, hdep, hK =>
    have hop : o.op = .fieldAddr 68 (.tmp 6) 0 := Option.some.inj hop
    obtain ⟨u6, hu6, hv6⟩ := hdep 1 (by decide)
    have hv6' : u6 = .pointer (some ⟨sb, 0, none⟩) := hv6
    subst hv6'
    have e6 : a.eval (.tmp 6) = _ := ev_tmp hu6
    refine st3 ho hwt (v := .pointer (some ⟨sb, 0, none⟩)) (w' := w) ?_ (hK _ w rfl (Below.refl _ _))
    unfold execOp
    simp only [hop, Option.map_some, Option.map_none, e6]
    first | rfl | (go_simp; done) | (go_simp; simp; done) | (go_simp; intro h; omega)
  | 3, _, hs, ho, hop, hds, hdep, hK =>
    have hop : o.op = .load 64 (.tmp 7) := Option.some.inj hop
    obtain ⟨u7, hu7, hv7⟩ := hdep 2 (by decide)
    have hv7' : u7 = .pointer (some ⟨sb, 0, none⟩) := hv7
    subst hv7'
    have e7 : a.eval (.tmp 7) = _ := ev_tmp hu7
    refine st3 ho hwt (v := .agg C.toArray) (w' := w) ?_ (hK _ w rfl (Below.refl _ _))
    unfold execOp
    simp only [hop, e7, Instr.loadAt, Instr.sureAddr, Sem.run_bind, Sem.run_pure, Result.andThen_ok, run_loadVar_mid w sb 0 64 C _ ((hB.below hbl hB.lt).rangeFrom (show _ = C from hC)) Try.underlying64 rfl hiC]
  | 4, _, hs, ho, hop, hds, hdep, hK =>
    have hop : o.op = .build 64 #[] := Option.some.inj hop
    exact st3 ho hwt (exec_build 64 _ hop _ (show (Try.prog).built 64 [] = _ from (by exact hZ)) w) (hK _ w rfl (Below.refl _ _))
  | 5, _, hs, ho, hop, hds, hdep, hK =>
    have hop : o.op = .binOp .neq 64 (.tmp 8) (.tmp 9) 64 := Option.some.inj hop
    obtain ⟨u8, hu8, hv8⟩ := hdep 3 (by decide)
    have hv8' : u8 = .agg C.toArray := hv8
    subst hv8'
    have e8 : a.eval (.tmp 8) = _ := ev_tmp hu8
    obtain ⟨u9, hu9, hv9⟩ := hdep 4 (by decide)
    have hv9' : u9 = .agg Z.toArray := hv9
    subst hv9'
    have e9 : a.eval (.tmp 9) = _ := ev_tmp hu9
    refine st3 ho hwt (v := .bool true) (w' := w) ?_ (hK _ w rfl (Below.refl _ _))
    have hq := heq w
    unfold execOp
    simp only [hop, e8, e9]
    first | rfl | (go_simp; done) | (go_simp; rfl)
  | 6, _, hs, ho, hop, hds, hdep, hK =>
    have hop : o.op = .move (.tmp 10) := Option.some.inj hop
    obtain ⟨u10, hu10, hv10⟩ := hdep 5 (by decide)
    have hv10' : u10 = .bool true := hv10
    subst hv10'
    have e10 : a.eval (.tmp 10) = _ := ev_tmp hu10
    refine st3 ho hwt (v := _) (w' := w) ?_ (hK _ w rfl (Below.refl _ _))
    unfold execOp
    rw [hop, ← e10]
    rfl
  | 7, _, hs, ho, hop, hds, hdep, hK =>
    have hop : o.op = .move (.tmp 1) := Option.some.inj hop
    have hu1 : a.tmps[1]? = some (.pointer (some ⟨sb, 0, none⟩)) := (hbase.2.2 1 (by decide)).trans x1
    have e1 : a.eval (.tmp 1) = _ := ev_tmp hu1
    refine st3 ho hwt (v := _) (w' := w) ?_ (hK _ w rfl (Below.refl _ _))
    unfold execOp
    rw [hop, ← e1]
    rfl
  | 8, _, hs, ho, hop, hds, hdep, hK =>
    have hop : o.op = .nilCheck (.tmp 12) := Option.some.inj hop
    obtain ⟨u12, hu12, hv12⟩ := hdep 7 (by decide)
    have hv12' : u12 = .pointer (some ⟨sb, 0, none⟩) := hv12
    subst hv12'
    have e12 : a.eval (.tmp 12) = _ := ev_tmp hu12
    refine st3 ho hwt (v := .pointer (some ⟨sb, 0, none⟩)) (w' := w) ?_ (hK _ w rfl (Below.refl _ _))
    unfold execOp
    simp only [hop, Option.map_some, Option.map_none, e12]
    first | rfl | (go_simp; done) | (go_simp; simp; done) | (go_simp; intro h; omega)
  | 9, _, hs, ho, hop, hds, hdep, hK =>
    have hop : o.op = .fieldAddr 68 (.tmp 13) 3 := Option.some.inj hop
    obtain ⟨u13, hu13, hv13⟩ := hdep 8 (by decide)
    have hv13' : u13 = .pointer (some ⟨sb, 0, none⟩) := hv13
    subst hv13'
    have e13 : a.eval (.tmp 13) = _ := ev_tmp hu13
    refine st3 ho hwt (v := .pointer (some ⟨sb, 69, none⟩)) (w' := w) ?_ (hK _ w rfl (Below.refl _ _))
    unfold execOp
    simp only [hop, Option.map_some, Option.map_none, e13]
    first | rfl | (go_simp; done) | (go_simp; simp; done) | (go_simp; intro h; omega)
  | 10, _, hs, ho, hop, hds, hdep, hK =>
    have hop : o.op = .load 66 (.tmp 14) := Option.some.inj hop
    obtain ⟨u14, hu14, hv14⟩ := hdep 9 (by decide)
    have hv14' : u14 = .pointer (some ⟨sb, 69, none⟩) := hv14
    subst hv14'
    have e14 : a.eval (.tmp 14) = _ := ev_tmp hu14
    have k69 : w.cell? ⟨sb, 69, none⟩ = some (.map (some rb)) := (hB.below hbl hB.lt).cell h69
    refine st3 ho hwt (v := .map (some rb)) (w' := w) ?_ (hK _ w rfl (Below.refl _ _))
    unfold execOp
    simp only [hop, Option.map_some, Option.map_none, e14]
    first | rfl | (go_simp; done) | (go_simp; simp; done) | (go_simp; intro h; omega)
  | 11, _, hs, ho, hop, hds, hdep, hK =>
    have hop : o.op = .move (.tmp 1) := Option.some.inj hop
    have hu1 : a.tmps[1]? = some (.pointer (some ⟨sb, 0, none⟩)) := (hbase.2.2 1 (by decide)).trans x1
    have e1 : a.eval (.tmp 1) = _ := ev_tmp hu1
    refine st3 ho hwt (v := _) (w' := w) ?_ (hK _ w rfl (Below.refl _ _))
    unfold execOp
    rw [hop, ← e1]
    rfl
  | 12, _, hs, ho, hop, hds, hdep, hK =>
    have hop : o.op = .nilCheck (.tmp 16) := Option.some.inj hop
    obtain ⟨u16, hu16, hv16⟩ := hdep 11 (by decide)
    have hv16' : u16 = .pointer (some ⟨sb, 0, none⟩) := hv16
    subst hv16'
    have e16 : a.eval (.tmp 16) = _ := ev_tmp hu16
    refine st3 ho hwt (v := .pointer (some ⟨sb, 0, none⟩)) (w' := w) ?_ (hK _ w rfl (Below.refl _ _))
    unfold execOp
    simp only [hop, Option.map_some, Option.map_none, e16]
    first | rfl | (go_simp; done) | (go_simp; simp; done) | (go_simp; intro h; omega)
  | 13, _, hs, ho, hop, hds, hdep, hK =>
    have hop : o.op = .fieldAddr 68 (.tmp 17) 0 := Option.some.inj hop
    obtain ⟨u17, hu17, hv17⟩ := hdep 12 (by decide)
    have hv17' : u17 = .pointer (some ⟨sb, 0, none⟩) := hv17
    subst hv17'
    have e17 : a.eval (.tmp 17) = _ := ev_tmp hu17
    refine st3 ho hwt (v := .pointer (some ⟨sb, 0, none⟩)) (w' := w) ?_ (hK _ w rfl (Below.refl _ _))
    unfold execOp
    simp only [hop, Option.map_some, Option.map_none, e17]
    first | rfl | (go_simp; done) | (go_simp; simp; done) | (go_simp; intro h; omega)
  | 14, _, hs, ho, hop, hds, hdep, hK =>
    have hop : o.op = .load 64 (.tmp 18) := Option.some.inj hop
    obtain ⟨u18, hu18, hv18⟩ := hdep 13 (by decide)
    have hv18' : u18 = .pointer (some ⟨sb, 0, none⟩) := hv18
    subst hv18'
    have e18 : a.eval (.tmp 18) = _ := ev_tmp hu18
    refine st3 ho hwt (v := .agg C.toArray) (w' := w) ?_ (hK _ w rfl (Below.refl _ _))
    unfold execOp
    simp only [hop, e18, Instr.loadAt, Instr.sureAddr, Sem.run_bind, Sem.run_pure, Result.andThen_ok, run_loadVar_mid w sb 0 64 C _ ((hB.below hbl hB.lt).rangeFrom (show _ = C from hC)) Try.underlying64 rfl hiC]
  | 15, _, hs, ho, hop, hds, hdep, hK =>
    have hop : o.op = .call { callee := .value (.func 30), args := #[.tmp 15, .tmp 19], argTypes := #[66, 64] } := Option.some.inj hop
    obtain ⟨u15, hu15, hv15⟩ := hdep 10 (by decide)
    have hv15' : u15 = .map (some rb) := hv15
    subst hv15'
    have e15 : a.eval (.tmp 15) = _ := ev_tmp hu15
    obtain ⟨u19, hu19, hv19⟩ := hdep 14 (by decide)
    have hv19' : u19 = .agg C.toArray := hv19
    subst hv19'
    have e19 : a.eval (.tmp 19) = _ := ev_tmp hu19
    refine st3_call ho hwt (f := 30) (vals := #[.map (some rb), .agg C.toArray]) (Z := fun v w' => v = .int .i64 (c : Int) ∧ Below w.heap.size w w') ?_ ?_ ?_
    · unfold execOp
      simp only [hop, e15, e19, resolve, invoke, Sem.run_bind, Sem.run_pure, Result.andThen_ok, List.map_toArray, List.map_cons, List.map_nil]
      first | rfl | exact enters_of Try.func30 (by kernel_rfl) rfl _ _
    · exact (hV w hbl).mono fun e w' ⟨he, h2⟩ => ⟨_, he, rfl, h2⟩
    · rintro v w' ⟨h1, h2⟩
      exact hK v w' h1 h2
  | 16, _, hs, ho, hop, hds, hdep, hK =>
    have hop : o.op = .move (.tmp 0) := Option.some.inj hop
    have hu0 : a.tmps[0]? = some (.pointer (some ⟨g, 0, none⟩)) := (hbase.2.2 0 (by decide)).trans x0
    have e0 : a.eval (.tmp 0) = _ := ev_tmp hu0
    refine st3 ho hwt (v := _) (w' := w) ?_ (hK _ w rfl (Below.refl _ _))
    unfold execOp
    rw [hop, ← e0]
    rfl
  | 17, _, hs, ho, hop, hds, hdep, hK =>
    have hop : o.op = .nilCheck (.tmp 21) := Option.some.inj hop
    obtain ⟨u21, hu21, hv21⟩ := hdep 16 (by decide)
    have hv21' : u21 = .pointer (some ⟨g, 0, none⟩) := hv21
    subst hv21'
    have e21 : a.eval (.tmp 21) = _ := ev_tmp hu21
    refine st3 ho hwt (v := .pointer (some ⟨g, 0, none⟩)) (w' := w) ?_ (hK _ w rfl (Below.refl _ _))
    unfold execOp
    simp only [hop, Option.map_some, Option.map_none, e21]
    first | rfl | (go_simp; done) | (go_simp; simp; done) | (go_simp; intro h; omega)
  | 18, _, hs, ho, hop, hds, hdep, hK =>
    have hop : o.op = .fieldAddr 72 (.tmp 22) 0 := Option.some.inj hop
    obtain ⟨u22, hu22, hv22⟩ := hdep 17 (by decide)
    have hv22' : u22 = .pointer (some ⟨g, 0, none⟩) := hv22
    subst hv22'
    have e22 : a.eval (.tmp 22) = _ := ev_tmp hu22
    refine st3 ho hwt (v := .pointer (some ⟨g, 0, none⟩)) (w' := w) ?_ (hK _ w rfl (Below.refl _ _))
    unfold execOp
    simp only [hop, Option.map_some, Option.map_none, e22]
    first | rfl | (go_simp; done) | (go_simp; simp; done) | (go_simp; intro h; omega)
  | 19, _, hs, ho, hop, hds, hdep, hK =>
    have hop : o.op = .fieldAddr 53 (.tmp 23) 0 := Option.some.inj hop
    obtain ⟨u23, hu23, hv23⟩ := hdep 18 (by decide)
    have hv23' : u23 = .pointer (some ⟨g, 0, none⟩) := hv23
    subst hv23'
    have e23 : a.eval (.tmp 23) = _ := ev_tmp hu23
    refine st3 ho hwt (v := .pointer (some ⟨g, 0, none⟩)) (w' := w) ?_ (hK _ w rfl (Below.refl _ _))
    unfold execOp
    simp only [hop, Option.map_some, Option.map_none, e23]
    first | rfl | (go_simp; done) | (go_simp; simp; done) | (go_simp; intro h; omega)
  | 20, _, hs, ho, hop, hds, hdep, hK =>
    have hop : o.op = .load 3 (.tmp 24) := Option.some.inj hop
    obtain ⟨u24, hu24, hv24⟩ := hdep 19 (by decide)
    have hv24' : u24 = .pointer (some ⟨g, 0, none⟩) := hv24
    subst hv24'
    have e24 : a.eval (.tmp 24) = _ := ev_tmp hu24
    have k0 : w.cell? ⟨g, 0, none⟩ = some (.int .i64 f) := (hG.below hbl hG.lt).cell h0
    refine st3 ho hwt (v := .int .i64 f) (w' := w) ?_ (hK _ w rfl (Below.refl _ _))
    unfold execOp
    simp only [hop, Option.map_some, Option.map_none, e24]
    first | rfl | (go_simp; done) | (go_simp; simp; done) | (go_simp; intro h; omega)
  | 21, _, hs, ho, hop, hds, hdep, hK =>
    have hop : o.op = .binOp .mul 3 (.const (.int .i64 2)) (.tmp 25) 3 := Option.some.inj hop
    obtain ⟨u25, hu25, hv25⟩ := hdep 20 (by decide)
    have hv25' : u25 = .int .i64 f := hv25
    subst hv25'
    have e25 : a.eval (.tmp 25) = _ := ev_tmp hu25
    have hmul : IntKind.i64.wrap (2 * f) = 2 * f := IntWalk.i64_in _ (by omega)
    refine st3 ho hwt (v := .int .i64 (2 * f)) (w' := w) ?_ (hK _ w rfl (Below.refl _ _))
    unfold execOp
    simp only [hop, Option.map_some, Option.map_none, e25]
    first | rfl | (go_simp; done) | (go_simp; simp; done) | (go_simp; intro h; omega)
  | 22, _, hs, ho, hop, hds, hdep, hK =>
    have hop : o.op = .binOp .geq 3 (.tmp 20) (.tmp 26) 3 := Option.some.inj hop
    obtain ⟨u20, hu20, hv20⟩ := hdep 15 (by decide)
    have hv20' : u20 = .int .i64 (c : Int) := hv20
    subst hv20'
    have e20 : a.eval (.tmp 20) = _ := ev_tmp hu20
    obtain ⟨u26, hu26, hv26⟩ := hdep 21 (by decide)
    have hv26' : u26 = .int .i64 (2 * f) := hv26
    subst hv26'
    have e26 : a.eval (.tmp 26) = _ := ev_tmp hu26
    refine st3 ho hwt (v := .bool B) (w' := w) ?_ (hK _ w rfl (Below.refl _ _))
    unfold execOp
    simp only [hop, e20, e26]
    rw [← hBd]
    go_simp
    try rfl
  | 23, _, hs, ho, hop, hds, hdep, hK =>
    have hop : o.op = .pick (.tmp 11) (.tmp 27) (.const (.bool false)) := Option.some.inj hop
    obtain ⟨u11, hu11, hv11⟩ := hdep 6 (by decide)
    have hv11' : u11 = .bool true := hv11
    subst hv11'
    have e11 : a.eval (.tmp 11) = _ := ev_tmp hu11
    obtain ⟨u27, hu27, hv27⟩ := hdep 22 (by decide)
    have hv27' : u27 = .bool B := hv27
    subst hv27'
    have e27 : a.eval (.tmp 27) = _ := ev_tmp hu27
    refine st3 ho hwt (v := .bool B) (w' := w) ?_ (hK _ w rfl (Below.refl _ _))
    unfold execOp
    simp only [hop, e11, e27]
    first | rfl | (go_simp; done) | (go_simp; rfl)
  | 24, _, hs, ho, hop, hds, hdep, hK =>
    have hop : o.op = .assign (.tmp 28) := Option.some.inj hop
    obtain ⟨u28, hu28, hv28⟩ := hdep 23 (by decide)
    have hv28' : u28 = .bool B := hv28
    subst hv28'
    have e28 : a.eval (.tmp 28) = _ := ev_tmp hu28
    refine st3 ho hwt (v := _) (w' := w) ?_ (hK _ w rfl (Below.refl _ _))
    unfold execOp
    rw [hop, ← e28]
    rfl
  | i + 25, hi, _, _, _, _, _, _ => exact absurd hi (by omega)

theorem pre_some {σ : St} {x : Sq} {v : Vt} (h : x.last = some v) : preB σ x = decide (2 * σ.f ≤ cntV σ.ns x.pr v) := by unfold preB; rw [h]
theorem pre_none {σ : St} {x : Sq} (h : x.last = none) : preB σ x = false := by unfold preB; rw [h]
theorem sq_cells {o p : Option Vt} (ho : okO o) (hp : okO p) (a b c : Value) : ((sy o ++ sy p ++ [a, b, c]).drop 0).take 34 = sy o ∧ ((sy o ++ sy p ++ [a, b, c]).drop 34).take 34 = sy p ∧
    (sy o ++ sy p ++ [a, b, c])[68]? = some a ∧ (sy o ++ sy p ++ [a, b, c])[69]? = some b ∧ (sy o ++ sy p ++ [a, b, c])[70]? = some c ∧ (sy o ++ sy p ++ [a, b, c]).length = 71 := by
  have h1 := sy_len ho
  have h2 := sy_len hp
  refine ⟨?_, ?_, ?_, ?_, ?_, ?_⟩
  · rw [List.drop_zero, List.append_assoc, List.take_append_of_le_length (by omega), List.take_of_length_le (by omega)]
  · rw [List.append_assoc, List.drop_append_of_le_length (by omega), List.drop_of_length_le (by omega), List.nil_append, List.take_append_of_le_length (by omega), List.take_of_length_le (by omega)]
  · rw [List.getElem?_append_right (by rw [List.length_append]; omega), List.length_append, h1, h2]; rfl
  · rw [List.getElem?_append_right (by rw [List.length_append]; omega), List.length_append, h1, h2]; rfl
  · rw [List.getElem?_append_right (by rw [List.length_append]; omega), List.length_append, h1, h2]; rfl
  · simp [h1, h2]
set_option maxRecDepth 100000 in
set_option maxHeartbeats 1600000 in
theorem isPrepared_in {w : World} {U : Nat → Prop} {g : Nat} {σ : St} {ab cap m : Nat} {sb qb rb cb : Nat → Nat} {role : Nat → Nat} (h : StIn w U g σ all8 ab cap m sb qb rb cb role) {i : Nat} (hi : i < 8) (B : Bool) (hB : preB σ (σ.s i) = B) :
    Calls Try.prog 29 #[.pointer (some ⟨g, 0, none⟩), .pointer (some ⟨sb i, 0, none⟩)] w fun e w' => e = .returned (.bool B) ∧ Below w.heap.size w w' := by
  have hs := h.s i hi rfl
  have hok := h.ok.s i hi
  obtain ⟨hC, _, _, h69, _, hln⟩ := sq_cells hok.last hok.p (.map (some (qb i))) (.map (some (rb i))) (.map (some (cb i)))
  have hiC := say_infoL hok.last
  have heq := fun w => eq_say hok.last (show okO none by simp [okO]) w
  cases hl : (σ.s i).last with
  | none =>
    rw [pre_none hl] at hB
    subst hB
    have hblk := hs.blk
    rw [hl] at hC hiC heq hblk
    have HS := Lib.hid (And.intro hblk (And.intro hC (And.intro hiC heq)))
    clear hs hok hC h69 hln hiC heq hl h hblk
    generalize sb i = s at *
    go_enter Try.func29, Try.ntmps29
    go_wp2_with fail
    refine region_rule4 (P := Try.prog) 25 29 pnD pnG pnS (pnR s 0 g ⟨0, []⟩ (sy none) (sy none) 0 0 true) _ _ (by kernel_rfl) rfl rfl (by kernel_rfl) (by decide +kernel) (pn_gb s 0 g ⟨0, []⟩ (sy none) (sy none) 0 0 true) (pn_sk s 0 g ⟨0, []⟩ (sy none) (sy none) 0 0 true) (pn_on s 0 g ⟨0, []⟩ (sy none) (sy none) 0 0 true) (pn_step s 0 g ⟨0, []⟩ (sy none) (sy none) 0 0 true (by rfl) (by kernel_rfl) rfl rfl HS.out.1 HS.out.2.1 HS.out.2.2.1 say_built0 HS.out.2.2.2) ?fin
    case fin =>
      intro a w6 hbase hbl hall
      obtain ⟨v4, hv4, hR4⟩ := hall 24 (by decide)
      have hR4' : v4 = .bool false := hR4
      subst hR4'
      obtain ⟨g, hge, hg⟩ := base_lit hbase [5, 6, 7, 8, 9, 10, 11, 12, 13, 14, 15, 16, 17, 18, 19, 20, 21, 22, 23, 24, 25, 26, 27, 28, 4] (by rfl)
      have q4 : g 4 = .bool false := hge 4 _ hv4
      simp only [List.foldl_cons, List.foldl_nil, List.setIfInBounds_toArray, List.set_cons_zero, List.set_cons_succ, q4] at hg
      rw [hg]
      go_wp2
      go_ret
      exact ⟨rfl, hbl⟩
  | some v =>
    rw [pre_some hl] at hB
    have hv := hok.last v hl
    have hblk := hs.blk
    obtain ⟨c, hc⟩ : ∃ c, cntV σ.ns (σ.s i).pr v = c := ⟨_, rfl⟩
    rw [hc] at hB
    have hlen := h.ok.len
    have hf0 := h.ok.f0
    have hf1 := h.ok.f1
    have hV : ∀ w1, Below w.heap.size w w1 → Calls Try.prog 30 #[.map (some (rb i)), .agg (sy (some v)).toArray] w1 fun e w' => e = .returned (.int .i64 (c : Int)) ∧ Below w1.heap.size w1 w' := fun w1 hb => by
      have := votes_any (hs.pr.below hb hs.pr.lt) hok.pr hv (by omega) c hc
      exact this
    rw [hl] at hC hiC heq hblk
    have heq' : ∀ w, (Op.equalIn 10000 64 (.agg (sy (some v)).toArray) (.agg (sy none).toArray)).run Try.prog w = .ok false w := fun w => by have := heq w; simpa using this
    rw [hl] at h69
    have HS := Lib.hid (And.intro hblk (And.intro hC (And.intro hiC (And.intro heq' (And.intro h69 (And.intro hV (And.intro h.blk hB)))))))
    clear hs hok hC h69 hln hiC heq heq' hl hblk hV hc hv hlen hB
    generalize sb i = s at *
    generalize rb i = r at *
    go_enter Try.func29, Try.ntmps29
    go_wp2_with fail
    refine region_rule4 (P := Try.prog) 25 29 ppD ppG ppS (ppR s r g v (sy (some v)) (sy none) c σ.f B) _ _ (by kernel_rfl) rfl rfl (by kernel_rfl) (by decide +kernel) (pp_gb s r g v (sy (some v)) (sy none) c σ.f B) (pp_sk s r g v (sy (some v)) (sy none) c σ.f B) (pp_on s r g v (sy (some v)) (sy none) c σ.f B) (pp_step s r g v (sy (some v)) (sy none) c σ.f B (by rfl) (by kernel_rfl) rfl rfl HS.out.1 HS.out.2.1 HS.out.2.2.1 say_built0 HS.out.2.2.2.1 HS.out.2.2.2.2.2.2.1 rfl hf0 hf1 HS.out.2.2.2.2.1 HS.out.2.2.2.2.2.1 HS.out.2.2.2.2.2.2.2) ?finp
    case finp =>
      intro a w6 hbase hbl hall
      obtain ⟨v4, hv4, hR4⟩ := hall 24 (by decide)
      have hR4' : v4 = .bool B := hR4
      subst hR4'
      obtain ⟨g, hge, hg⟩ := base_lit hbase [5, 6, 7, 8, 9, 10, 11, 12, 13, 14, 15, 16, 17, 18, 19, 20, 21, 22, 23, 24, 25, 26, 27, 28, 4] (by rfl)
      have q4 : g 4 = .bool B := hge 4 _ hv4
      simp only [List.foldl_cons, List.foldl_nil, List.setIfInBounds_toArray, List.set_cons_zero, List.set_cons_succ, q4] at hg
      rw [hg]
      go_wp2
      go_ret
      exact ⟨rfl, hbl⟩
end Go.Proofs.Ytmdgcimjmmnbjaa

namespace Go.Proofs.Ytmdgcimjmmnbjaa
open Go.RowKit Go.Maps CrewP
set_option linter.unusedVariables false
set_option linter.unusedSimpArgs false

theorem set_self (σ : St) (i : Nat) : σ.set i (σ.s i) = σ := by
  obtain ⟨f, ns, low, s⟩ := σ
  unfold St.set
  simp only [St.mk.injEq, true_and]
  funext j
  split
  · rename_i e; rw [e]
  · rfl
theorem set_set (σ : St) (i : Nat) (x y : Sq) : (σ.set i x).set i y = σ.set i y := by
  obtain ⟨f, ns, low, s⟩ := σ
  unfold St.set
  simp only [St.mk.injEq, true_and]
  funext j
  split <;> rfl
theorem set_at (σ : St) (i : Nat) (x : Sq) : (σ.set i x).s i = x := by unfold St.set; simp
theorem look_set (σ : St) (i : Nat) (x y : Sq) : lookS (σ.set i x) y = lookS σ y := rfl

section
variable {w : World} {U : Nat → Prop} {g : Nat} {σ : St} {ab cap m : Nat} {sb qb rb cb : Nat → Nat} {role : Nat → Nat}
set_option maxRecDepth 100000 in
theorem look_in (h : StIn w U g σ all8 ab cap m sb qb rb cb role) {i : Nat} (hi : i < 8) :
    Calls Try.prog 42 #[.pointer (some ⟨g, 0, none⟩), .pointer (some ⟨sb i, 0, none⟩)] w fun e w' => e = .returned (.tuple #[]) ∧ StIn w' U g (σ.set i (lookS σ (σ.s i))) all8 ab cap m sb qb rb cb role ∧ Out U w w' := by
  obtain ⟨B, hB⟩ : ∃ B, preB σ (σ.s i) = B := ⟨_, rfl⟩
  have HC := Lib.hid (isPrepared_in h hi B hB)
  have H := Lib.hid h
  have hok := h.ok.s i hi
  have hls : lookS σ (σ.s i) = if B then { σ.s i with p := (σ.s i).last } else σ.s i := by unfold lookS; rw [hB]
  cases B with
  | false =>
    have Hl := Lib.hid hls
    clear h hok hls hB
    generalize hs0 : sb i = s at *
    go_enter Try.func42, Try.ntmps42
    go_wp2_with (go_at_call 29; refine HC.out.mono ?_; rintro e w1 ⟨rfl, hb⟩; replace hb := Lib.hid hb)
    go_end0
    refine ⟨rfl, ?_, Out.ofBelow U hb.out⟩
    rw [Hl.out]
    simp only [Bool.false_eq_true, if_false]
    rw [set_self]
    exact H.out.below hb.out
  | true =>
    obtain ⟨hC, _, h68, h69, h70, hln⟩ := sq_cells hok.last hok.p (.map (some (qb i))) (.map (some (rb i))) (.map (some (cb i)))
    have hiC := say_infoL hok.last
    have hiA := say_infoA hok.last
    have hone : (sy (σ.s i).last).toArray.all (·.oneCell') = true := sy_one _
    have hll := sy_len hok.last
    have hlp := sy_len hok.p
    have hcs := mid_put (x := sy (σ.s i).last) (c := [Value.map (some (qb i)), .map (some (rb i)), .map (some (cb i))]) hll hlp
    have hoks : ({ σ.s i with p := (σ.s i).last } : Sq).ok := ⟨hok.last, hok.last, hok.q, hok.pr, hok.cm⟩
    have HL := Lib.hid (And.intro hC (And.intro hiC (And.intro hiA (And.intro hone (And.intro hll (And.intro hcs (And.intro hls (And.intro hoks hln))))))))
    clear h hC h68 h69 h70 hln hiC hiA hone hll hlp hcs hls hoks hok hB
    have hs := fun w1 (hb : Below w.heap.size w w1) => (H.out.below hb).s i hi rfl
    generalize hs0 : sb i = s at *
    generalize hL : sy (σ.s i).last = L at *
    generalize hPp : sy (σ.s i).p = Pp at *
    go_enter Try.func42, Try.ntmps42
    go_wp2_with fail
    refine HC.out.mono ?_
    rintro e w1 ⟨rfl, hb⟩
    have HS := Lib.hid (And.intro (hs w1 hb) hb)
    clear hb
    have hblk : Blk w1 s 68 (L ++ Pp ++ [.map (some (qb i)), .map (some (rb i)), .map (some (cb i))]) := by have := HS.out.1.blk; rw [hL, hPp] at this; exact this
    have hrg : w1.rangeAt s 0 L := hblk.rangeFrom HL.out.1
    have hth : w1.there s 34 L.toArray.size := hblk.thereAt (by rw [List.size_toArray, HL.out.2.2.2.2.1, HL.out.2.2.2.2.2.2.2.2]; omega)
    have hset := Blk.setMore (w := w1) L hblk (o := 34) (by rw [HL.out.2.2.2.2.1, HL.out.2.2.2.2.2.2.2.2]; omega)
    rw [HL.out.2.2.2.2.1, HL.out.2.2.2.2.2.1] at hset
    have HR := Lib.hid (And.intro hrg (And.intro hth hset))
    clear hrg hth hset hblk
    go_wp2_with (first
      | (refine wpList_load_mid rfl 64 _ rfl s 0 rfl L _ HR.out.1 Try.underlying64 rfl HL.out.2.1 ?_; simp only [Act.put])
      | (refine wpList_store_mid rfl 64 _ _ rfl s 34 L.toArray rfl rfl HR.out.2.1 HL.out.2.2.1 HL.out.2.2.2.1 ?_; simp only [Act.put]))
    go_end0
    have hO : Out (fun b => b = s) w1 (w1.setCells s 34 L) := Out.setCells (S := fun b => b = s) (g := s) L (fun _ => rfl) (Out.refl _ w1)
    have hSU : U s := by rw [← hs0]; exact H.out.u _ (by have := (H.out.rs i hi rfl).1; omega)
    refine ⟨rfl, ?_, (Out.ofBelow U HS.out.2).trans hO fun b _ e => by rw [e]; exact hSU⟩
    rw [HL.out.2.2.2.2.2.2.1]
    simp only [if_true]
    have hI := H.out.below HS.out.2
    obtain ⟨q1, q2, q3, q4⟩ := hI.rs i hi rfl
    refine hI.set hi hO (fun b hb => .inl (by rw [hb, hs0])) HL.out.2.2.2.2.2.2.2.1 ?_
    rw [hs0] at q1 ⊢
    have hq := HS.out.1
    refine ⟨?_, hq.q.out hO (fun e => by rw [e] at q2; omega), hq.pr.out hO (fun e => by rw [e] at q3; omega), hq.cm.out hO (fun e => by rw [e] at q4; omega)⟩
    show Blk _ s 68 (sy (σ.s i).last ++ sy (σ.s i).last ++ _)
    rw [hL]
    exact HR.out.2.2
end
end Go.Proofs.Ytmdgcimjmmnbjaa

namespace Go.Proofs
open Go.Shelf
def Try.sortS_ren : Go.Shelf.Ren := ⟨fun | 6 => 54 | 15 => 62 | 14 => 61 | 28 => 77 | 29 => 78 | 20 => 69 | 21 => 70 | 22 => 71 | 23 => 72 | 24 => 73 | 25 => 74 | 26 => 75 | 27 => 76 | 46 => 81 | 47 => 82 | 48 => 83 | 49 => 84 | 50 => 85 | 57 => 86 | n => n, fun | 22 => 33 | 24 => 41 | 25 => 90 | 3 => 3 | 39 => 103 | 0 => 0 | 53 => 115 | 55 => 117 | 4 => 4 | 46 => 109 | 45 => 108 | 50 => 91 | 5 => 5 | 9 => 9 | 66 => 118 | 70 => 122 | 76 => 124 | 77 => 125 | n => n, fun | n => n⟩
theorem Try.sortS : Go.Proofs.SlLaysF0.n6 Try.prog Try.sortS_ren := {
  mixed := by kernel_rfl
  f6 := ⟨Try.f54.name, by decide, Try.func54.trans (congrArg some (by kernel_rfl))⟩
  f14 := ⟨Try.f61.name, by decide, Try.func61.trans (congrArg some (by kernel_rfl))⟩
  f15 := Try.func62.trans (congrArg some (by kernel_rfl))
  f20 := ⟨Try.f69.name, by decide, Try.func69.trans (congrArg some (by kernel_rfl))⟩
  f21 := ⟨Try.f70.name, by decide, Try.func70.trans (congrArg some (by kernel_rfl))⟩
  f22 := ⟨Try.f71.name, by decide, Try.func71.trans (congrArg some (by kernel_rfl))⟩
  f23 := ⟨Try.f72.name, by decide, Try.func72.trans (congrArg some (by kernel_rfl))⟩
  f24 := ⟨Try.f73.name, by decide, Try.func73.trans (congrArg some (by kernel_rfl))⟩
  f25 := ⟨Try.f74.name, by decide, Try.func74.trans (congrArg some (by kernel_rfl))⟩
  f26 := ⟨Try.f75.name, by decide, Try.func75.trans (congrArg some (by kernel_rfl))⟩
  f27 := ⟨Try.f76.name, by decide, Try.func76.trans (congrArg some (by kernel_rfl))⟩
  f28 := Try.func77.trans (congrArg some (by kernel_rfl))
  f29 := Try.func78.trans (congrArg some (by kernel_rfl))
  f46 := ⟨Try.f81.name, by decide, Try.func81.trans (congrArg some (by kernel_rfl))⟩
  f47 := Try.func82.trans (congrArg some (by kernel_rfl))
  f48 := Try.func83.trans (congrArg some (by kernel_rfl))
  f49 := ⟨Try.f84.name, by decide, Try.func84.trans (congrArg some (by kernel_rfl))⟩
  f50 := ⟨Try.f85.name, by decide, Try.func85.trans (congrArg some (by kernel_rfl))⟩
  f57 := ⟨Try.f86.name, by decide, Try.func86.trans (congrArg some (by kernel_rfl))⟩
  t0 := Try.underlying0
  a0 := Try.isAgg0
  z0 := Try.sizeOf0
  v0 := Try.zeroValue0
  t3 := Try.underlying3
  a3 := Try.isAgg3
  z3 := Try.sizeOf3
  v3 := Try.zeroValue3
  t4 := Try.underlying4
  a4 := Try.isAgg4
  z4 := Try.sizeOf4
  v4 := Try.zeroValue4
  t5 := Try.underlying5
  a5 := Try.isAgg5
  z5 := Try.sizeOf5
  v5 := Try.zeroValue5
  t9 := Try.underlying9
  a9 := Try.isAgg9
  z9 := Try.sizeOf9
  v9 := Try.zeroValue9
  t22 := Try.underlying33
  a22 := Try.isAgg33
  z22 := Try.sizeOf33
  v22 := Try.zeroValue33
  t25 := Try.underlying90
  a25 := Try.isAgg90
  z25 := Try.sizeOf90
  v25 := Try.zeroValue90
  t39 := Try.underlying103
  a39 := Try.isAgg103
  z39 := Try.sizeOf103
  v39 := Try.zeroValue103
  t45 := Try.underlying108
  a45 := Try.isAgg108
  z45 := Try.sizeOf108
  v45 := Try.zeroValue108
  t46 := Try.underlying109
  a46 := Try.isAgg109
  z46 := Try.sizeOf109
  v46 := Try.zeroValue109
  t50 := Try.underlying91
  a50 := Try.isAgg91
  z50 := Try.sizeOf91
  v50 := Try.zeroValue91
  t53 := Try.underlying115
  a53 := Try.isAgg115
  z53 := Try.sizeOf115
  v53 := Try.zeroValue115
  t55 := Try.underlying117
  a55 := Try.isAgg117
  z55 := Try.sizeOf117
  v55 := Try.zeroValue117
  t66 := Try.underlying118
  a66 := Try.isAgg118
  z66 := Try.sizeOf118
  v66 := Try.zeroValue118
  t70 := Try.underlying122
  a70 := Try.isAgg122
  z70 := Try.sizeOf122
  v70 := Try.zeroValue122
  t76 := Try.underlying124
  a76 := Try.isAgg124
  z76 := Try.sizeOf124
  v76 := Try.zeroValue124
  t77 := Try.underlying125
  a77 := Try.isAgg125
  z77 := Try.sizeOf125
  v77 := Try.zeroValue125 }
end Go.Proofs

namespace Go.Proofs
open Go.Shelf
def Try.cmpL_ren : Go.Shelf.Ren := ⟨fun | 122 => 64 | 215 => 79 | n => n, fun | 3 => 3 | 4 => 4 | n => n, fun | n => n⟩
theorem Try.cmpL : Go.Proofs.Lays.n122 Try.prog Try.cmpL_ren := {
  mixed := by kernel_rfl
  f122 := Try.func64.trans (congrArg some (by kernel_rfl))
  f215 := Try.func79.trans (congrArg some (by kernel_rfl))
  t3 := Try.underlying3
  a3 := Try.isAgg3
  z3 := Try.sizeOf3
  v3 := Try.zeroValue3
  t4 := Try.underlying4
  a4 := Try.isAgg4
  z4 := Try.sizeOf4
  v4 := Try.zeroValue4 }
end Go.Proofs

namespace Go.Proofs.Ytmdgcimjmmnbjaa
open Go.RowKit Go.Shelf Go.Sort Go.Maps
set_option linter.unusedVariables false
set_option linter.unusedSimpArgs false

theorem load_bytes {P : Program} (w : World) (b : Nat) : ∀ (xs : List UInt8) (o : Nat) (acc : ByteArray), (∀ j u, (cbs xs)[j]? = some u → w.cell? ⟨b, o + j, none⟩ = some u) →
    (Extern.Bytes.loadBytes ⟨b, o, none⟩ xs.length acc).run P w = .ok ⟨acc.data ++ xs.toArray⟩ w
  | [], o, acc, _ => by simp [Extern.Bytes.loadBytes]
  | x :: xs, o, acc, h => by
    have h0 : w.cell? ⟨b, o, none⟩ = some (.int .u8 x.toNat) := h 0 _ rfl
    have ih := load_bytes (P := P) w b xs (o + 1) (acc.push x) (fun j u hu => by have := h (j + 1) u (by simpa [cbs] using hu); rw [Nat.add_assoc, Nat.add_comm 1 j]; exact this)
    have ea : (⟨b, o, none⟩ : Addr).add 1 = ⟨b, o + 1, none⟩ := add_mk b o 1
    have eb : ((x.toNat : Int).toNat.toUInt8) = x := by simp
    rw [List.length_cons, Extern.Bytes.loadBytes]
    simp only [Sem.run_bind, run_load, h0, Result.andThen_ok]
    rw [ea, eb, ih]
    congr 2
    simp
theorem run_compareBytes {P : Program} (w : World) (b o b' o' : Nat) (xs ys : List UInt8) (c c' : Nat) (hx : ∀ j u, (cbs xs)[j]? = some u → w.cell? ⟨b, o + j, none⟩ = some u) (hy : ∀ j u, (cbs ys)[j]? = some u → w.cell? ⟨b', o' + j, none⟩ = some u) :
    (Extern.BytealgCompare.compare #[.slice (some ⟨b, o, none⟩) xs.length c, .slice (some ⟨b', o', none⟩) ys.length c']).run P w = .ok (.int .i64 (Lib.compareBytes xs ys)) w := by
  change Sem.run P (do pure (goInt (Extern.BytealgCompare.cmp (← Extern.Bytes.bytesOf (.slice (some ⟨b, o, none⟩) xs.length c)) (← Extern.Bytes.bytesOf (.slice (some ⟨b', o', none⟩) ys.length c'))))) w = _
  simp only [Extern.Bytes.bytesOf, Sem.run_bind, Sem.run_pure, load_bytes w b xs o .empty hx, load_bytes w b' ys o' .empty hy, Result.andThen_ok]
  rw [Lib.cmp_eq]
  simp
  rfl
set_option maxHeartbeats 1000000 in
set_option maxRecDepth 100000 in
theorem bcompare_any (w : World) (b o b' o' : Nat) (xs ys : List UInt8) (n n' c c' : Nat) (hn : xs.length = n) (hn' : ys.length = n') (hx : ∀ j u, (cbs xs)[j]? = some u → w.cell? ⟨b, o + j, none⟩ = some u) (hy : ∀ j u, (cbs ys)[j]? = some u → w.cell? ⟨b', o' + j, none⟩ = some u) :
    Calls Try.prog 65 #[.slice (some ⟨b, o, none⟩) n c, .slice (some ⟨b', o', none⟩) n' c'] w fun e w' => e = .returned (.int .i64 (Lib.compareBytes xs ys)) ∧ w' = w := by
  subst hn; subst hn'
  have hr := run_compareBytes (P := Try.prog) w b o b' o' xs ys c c' hx hy
  clear hx hy
  generalize Lib.compareBytes xs ys = r at *
  generalize xs.length = n at *
  generalize ys.length = n' at *
  go_enter Try.func65, Try.ntmps65
  go_wp2
  rw [run_callFunc_extern Try.func80 (by kernel_rfl) (by kernel_rfl) (by kernel_rfl) (e := Extern.BytealgCompare.compare) (by kernel_rfl), hr]
  simp only [Result.andThen]
  rw [Oper.upon_value]
  go_wp2
  go_ret
  exact ⟨rfl, rfl⟩

def or3 (a b c : Int) : Int := if a ≠ 0 then a else if b ≠ 0 then b else c
set_option maxRecDepth 100000 in
theorem or3_any (w : World) (g : Nat) (t : TypeId) (a b c : Int) (hB : Blk w g t [.int .i64 a, .int .i64 b, .int .i64 c]) (r : Int) (hr : or3 a b c = r) :
    Calls Try.prog 63 #[.slice (some ⟨g, 0, none⟩) 3 3] w fun e w' => e = .returned (.int .i64 r) ∧ w' = w := by
  subst hr
  have c0 := hB.cell (i := 0) rfl
  have c1 := hB.cell (i := 1) rfl
  have c2 := hB.cell (i := 2) rfl
  clear hB
  unfold or3
  by_cases h0 : a = 0
  · subst h0
    by_cases h1 : b = 0
    · subst h1
      by_cases h2 : c = 0
      · subst h2
        go_enter Try.func63, Try.ntmps63
        go_wp2
        refine wp_loop_rounds 4 ?_
        rw [rounds_succ]
        go_wp2
        rw [rounds_succ]
        go_wp2
        rw [rounds_succ]
        go_wp2
        rw [rounds_succ]
        go_wp2
        go_ret
        exact ⟨rfl, rfl⟩
      · have hd : (c != 0) = true := by simp [h2]
        go_enter Try.func63, Try.ntmps63
        go_wp2
        refine wp_loop_rounds 3 ?_
        rw [rounds_succ]
        go_wp2
        rw [rounds_succ]
        go_wp2
        rw [rounds_succ]
        go_wp2
        go_ret
        exact ⟨rfl, rfl⟩
    · have hd : (b != 0) = true := by simp [h1]
      rw [if_neg (by simp), if_pos h1]
      go_enter Try.func63, Try.ntmps63
      go_wp2
      refine wp_loop_rounds 2 ?_
      rw [rounds_succ]
      go_wp2
      rw [rounds_succ]
      go_wp2
      go_ret
      exact ⟨rfl, rfl⟩
  · have hd : (a != 0) = true := by simp [h0]
    rw [if_pos h0]
    go_enter Try.func63, Try.ntmps63
    go_wp2
    refine wp_loop_rounds 1 ?_
    rw [rounds_succ]
    go_wp2
    go_ret
    exact ⟨rfl, rfl⟩

/-! ### A row of stands -/
def sdC (x : Sd) : List Value := .int .i64 x.seq :: (cbs x.d ++ [.int .i64 x.v])
def sdT (x : SdT) : List Value := sdC x.1
theorem sdT_len (x : SdT) : (sdT x).length = 34 := by simp [sdT, sdC, cbs_length, x.2]
def sdCs (l : List SdT) : List Value := l.flatMap sdT
theorem sdCs_len (l : List SdT) : (sdCs l).length = l.length * 34 := by
  unfold sdCs
  induction l with
  | nil => rfl
  | cons x l ih => rw [List.flatMap_cons, List.length_append, ih, sdT_len, List.length_cons]; omega
theorem sdT_one (x : SdT) : ∀ v ∈ sdT x, v.oneCell' = true := by
  intro v hv
  simp only [sdT, sdC, List.mem_cons, List.mem_append, List.not_mem_nil, or_false] at hv
  rcases hv with rfl | hv | rfl
  · rfl
  · simp only [cbs, List.mem_map] at hv
    obtain ⟨y, _, rfl⟩ := hv
    rfl
  · rfl
theorem sdCs_one (l : List SdT) : ∀ v ∈ sdCs l, v.oneCell' = true := by
  intro v hv
  unfold sdCs at hv
  rw [List.mem_flatMap] at hv
  obtain ⟨x, _, hv⟩ := hv
  exact sdT_one x v hv
theorem flatMap_drop {α : Type} {f : α → List Value} {k : Nat} (hk : ∀ x, (f x).length = k) : ∀ (l : List α) (i : Nat), (l.flatMap f).drop (i * k) = (l.drop i).flatMap f
  | [], i => by simp
  | x :: l, 0 => by simp
  | x :: l, i + 1 => by
    have h1 : (i + 1) * k = i * k + k := Nat.succ_mul i k
    rw [List.drop_succ_cons, ← flatMap_drop hk l i, List.flatMap_cons, List.drop_append, hk, List.drop_of_length_le (by rw [hk]; omega), List.nil_append, h1]
    congr 1
    omega
theorem flatMap_at {α : Type} {f : α → List Value} {k : Nat} (hk : ∀ x, (f x).length = k) {l : List α} {i : Nat} (hi : i < l.length) {r : Nat} (hr : r < k) : (l.flatMap f)[i * k + r]? = (f l[i])[r]? := by
  have h := flatMap_drop hk l i
  rw [List.drop_eq_getElem_cons hi, List.flatMap_cons] at h
  have h2 : ((l.flatMap f).drop (i * k))[r]? = (f l[i])[r]? := by rw [h, List.getElem?_append_left (by rw [hk]; exact hr)]
  rw [List.getElem?_drop] at h2
  exact h2
theorem flat_list (d : List SdT) : (flatK sdT 34 d.toArray).toList = sdCs d := by
  apply List.ext_getElem?
  intro t
  by_cases ht : t < d.length * 34
  · have e1 : (flatK sdT 34 d.toArray).toList[t]? = some ((sdT (d.toArray[t / 34]!))[t % 34]!) := by
      have := get_flatK sdT 34 d.toArray t (by simpa using ht)
      rw [← this, Array.getElem?_toList, getElem!_pos _ t (by simpa using ht)]
      exact Array.getElem?_eq_getElem _
    have hq : t / 34 < d.length := by omega
    have e2 := flatMap_at sdT_len hq (r := t % 34) (by omega)
    rw [show t / 34 * 34 + t % 34 = t by omega] at e2
    unfold sdCs
    rw [e1, e2, getElem!_pos d.toArray (t / 34) (by simpa using hq)]
    have hl : t % 34 < (sdT d[t / 34]).length := by rw [sdT_len]; omega
    rw [List.getElem?_eq_getElem hl]
    congr 1
    exact getElem!_pos (sdT d[t / 34]) (t % 34) hl
  · rw [List.getElem?_eq_none (by rw [Array.length_toList, size_flatK]; simpa using ht), List.getElem?_eq_none (by rw [sdCs_len]; omega)]
theorem put_rowV {w : World} {g : Nat} {t : TypeId} {cs : List Value} {F : Array Value} (hB : Blk w g t cs) (hl : F.size ≤ cs.length) (q : Nat) (os : Array Obj) :
    Blk (grow (putRow id (Sort.ahead w q) g 0 F) os) g t (F.toList ++ cs.drop F.size) ∧ Out (fun i => i = g) w (grow (putRow id (Sort.ahead w q) g 0 F) os) := by
  have hlt := hB.lt
  have hsz : (putRow id (Sort.ahead w q) g 0 F).heap.size = w.heap.size := by simp [putRow, mapBlock, Sort.ahead]
  constructor
  · unfold Blk at hB ⊢
    rw [heap_grow_old _ _ (by rw [hsz]; exact hlt)]
    have : (putRow id (Sort.ahead w q) g 0 F).heap[g]? = some (.cells (putCells id 0 F cs.toArray) t (0, 0)) := by
      show (w.heap.modify g (onCells (putCells id 0 F)))[g]? = _
      rw [Array.getElem?_modify, if_pos rfl, hB]
      rfl
    rw [this]
    congr 2
    apply Array.ext_getElem?
    intro k
    unfold putCells
    rw [Array.getElem?_mapIdx]
    simp only [List.getElem?_toArray, Nat.zero_add, Nat.sub_zero, Nat.zero_le, true_and]
    by_cases hk : k < F.size
    · have hkc : k < cs.length := by omega
      rw [List.getElem?_eq_getElem hkc, Option.map_some, if_pos hk, List.getElem?_append_left (by simpa using hk), Array.getElem?_toList, Array.getElem?_eq_getElem hk, getElem!_pos F k hk]
      rfl
    · rw [List.getElem?_append_right (by rw [Array.length_toList]; omega), Array.length_toList, List.getElem?_drop]
      rw [show F.size + (k - F.size) = k by omega]
      cases hc : cs[k]? with
      | none => rfl
      | some y => rw [Option.map_some, if_neg hk]
  · refine ⟨rfl, rfl, rfl, by rw [size_grow, hsz]; omega, fun i hi hn => ?_⟩
    rw [heap_grow_old _ _ (by rw [hsz]; exact hi)]
    show (w.heap.modify g (onCells (putCells id 0 F)))[i]? = _
    rw [Array.getElem?_modify, if_neg (fun e => hn e.symm)]
end Go.Proofs.Ytmdgcimjmmnbjaa
