/-
  A literal of a struct or an array, at the operation: its cells by one equation.
-/
import Derived.Test.YtlecihbclkohjaaAnyOrderH

namespace Go.Proofs.Ytlecihbclkohjaa

open Go.RowKit Go.Maps

set_option linter.unusedVariables false

section

variable {P : Program}

theorem wp_built {o : Oper} {a : Act} {w : World} {K : Act → World → Prop} {Q : Exit → Act → World → Prop} (t : TypeId) (parts : Array (Nat × Operand)) (ho : o.op = .build t parts) (cells : Array Value)
    (he : P.built t (parts.toList.map fun p => (p.1, a.eval p.2)) = some cells) (h : K (a.put o.dst (.agg cells)) w) : o.wp P a w K Q := by
  have e : (parts.map fun (i, x) => (i, a.eval x)).toList = parts.toList.map fun p => (p.1, a.eval p.2) := by rw [Array.toList_map]
  refine wp_build t parts ho (by rw [e, he]; rfl) ?_
  rw [e, he]
  exact h

theorem wpList_build_g {ops : Array Oper} {rest : List Oper} {o : Oper} {a : Act} {w : World} {Q : Exit → Act → World → Prop} (hw : Region.wanted o (yielded ops a.tmps) = true) (t : TypeId) (parts : Array (Nat × Operand)) (ho : o.op = .build t parts) (cells : Array Value)
    (he : P.built t (parts.toList.map fun p => (p.1, a.eval p.2)) = some cells) (h : wpList P ops Q rest (a.put o.dst (.agg cells)) w) : wpList P ops Q (o :: rest) a w :=
  wpList_step fun K hK => by rw [if_pos hw]; exact wp_built t parts ho cells he (hK _ _ h)

theorem exec_build {ev : Operand → Value} {o : Oper} (t : TypeId) (parts : Array (Nat × Operand)) (ho : o.op = .build t parts) (cells : Array Value) (he : P.built t (parts.toList.map fun p => (p.1, ev p.2)) = some cells) (w : World) :
    Sem.run P (execOp ev o) w = .ok (Next.value (.agg cells)) w := by
  have e : (parts.map fun (i, x) => (i, ev x)).toList = parts.toList.map fun p => (p.1, ev p.2) := by rw [Array.toList_map]
  unfold execOp
  simp only [ho, Sem.run_bind, run_build w t _ cells (by rw [e]; exact he), Result.andThen_ok]
  rfl

end

end Go.Proofs.Ytlecihbclkohjaa
