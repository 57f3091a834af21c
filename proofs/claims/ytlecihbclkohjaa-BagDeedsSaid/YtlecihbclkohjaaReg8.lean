/-
  A slice that is made of its elements, as an operation; results of which the first one lies in a block.
-/
import Derived.Test.YtlecihbclkohjaaTakeC
import Derived.Test.YtlecihbclkohjaaBuild

namespace Go.Proofs.Ytlecihbclkohjaa

open Go.RowKit Go.Maps

set_option linter.unusedVariables false

section

variable {P : Program} {ops : Array Oper} {Q : Exit → Act → World → Prop}

theorem op_row {i d : Nat} {oi : Oper} {a : Act} {w : World} {K : Act → World → Prop} (hi : ops[i]? = some oi) (hd : oi.dst = some d) (hgd : oi.guard = none) (t : TypeId) (n : Nat) (parts : Array (Nat × Operand)) (ho : oi.op = .buildSlice t n parts)
    (v : Value) (w' : World) (hrun : (Instr.buildSlice t n (parts.map fun p => (p.1, a.eval p.2))).run P w = .ok v w') (h : K { a with tmps := a.tmps.setIfInBounds d v } w') : wpOp P ops Q i K a w := by
  refine wpOp_step hi (fun K' hK => ?_)
  have hw : Region.wanted oi (yielded ops a.tmps) = true := by unfold Region.wanted; rw [hgd]
  rw [if_pos hw]
  have he' : (Instr.buildSlice t n (parts.map fun (i, x) => (i, a.eval x))).run P w = .ok v w' := hrun
  unfold Oper.wp execOp
  simp only [ho, Sem.run_bind, he', Result.andThen_ok]
  refine hK _ _ ?_
  unfold Act.put
  rw [hd]
  exact h

theorem wpList_row {rest : List Oper} {o : Oper} {a : Act} {w : World} (hgd : o.guard = none) (t : TypeId) (n : Nat) (parts : Array (Nat × Operand)) (ho : o.op = .buildSlice t n parts)
    (v : Value) (w' : World) (hrun : (Instr.buildSlice t n (parts.map fun p => (p.1, a.eval p.2))).run P w = .ok v w') (h : wpList P ops Q rest (a.put o.dst v) w') : wpList P ops Q (o :: rest) a w := by
  refine wpList_plain hgd fun K hK => ?_
  have he' : (Instr.buildSlice t n (parts.map fun (i, x) => (i, a.eval x))).run P w = .ok v w' := hrun
  unfold Oper.wp execOp
  simp only [ho, Sem.run_bind, he', Result.andThen_ok]
  exact hK _ _ h

theorem wpList_app {rest : List Oper} {o : Oper} {a : Act} {w : World} (hgd : o.guard = none) (s x : Operand) (t1 t2 : TypeId) (ho : o.op = .call { callee := .builtin .append, args := #[s, x], argTypes := #[t1, t2] })
    (v u v' : Value) (w' : World) (hs : a.eval s = v) (hx : a.eval x = u) (hrun : (Builtin.append_ #[t1, t2] o.type #[v, u]).run P w = .ok v' w') (h : wpList P ops Q rest (a.put o.dst v') w') : wpList P ops Q (o :: rest) a w := by
  refine wpList_plain hgd fun K hK => ?_
  unfold Oper.wp execOp
  simp only [ho, resolve, invoke, builtin, Sem.run_bind, Sem.run_pure, Result.andThen_ok, List.map_toArray, List.map_cons, List.map_nil, hs, hx, hrun]
  exact hK _ _ h

end

end Go.Proofs.Ytlecihbclkohjaa
