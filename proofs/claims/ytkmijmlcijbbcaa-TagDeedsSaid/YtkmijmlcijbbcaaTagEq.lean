/-
  Two tags, compared.
-/
import Derived.Test.YtkmijmlcijbbcaaTagB
import Derived.Laws.StructEq
import Derived.Stop.BytesEq
namespace Go.Proofs.Ytkmijmlcijbbcaa
open Go.RowKit Go.Maps
set_option linter.unusedVariables false

theorem tag_fields : Try.prog.underlying 59 = some (.struct (Try.prog.fieldsOf 59)) := by kernel_rfl
theorem tag_stood : Try.prog.stoodInHeld 59 = false := by kernel_rfl
theorem part_first (f t : Int) (d : List UInt8) (w : World) : (part 3 (tcells f t d).toArray 0).run Try.prog w = .ok (.int .i64 f) w := by
  simp [part, isAgg, run_underlying Try.underlying3, tcells, ci]
theorem part_second (f t : Int) (d : List UInt8) (w : World) : (part 3 (tcells f t d).toArray 1).run Try.prog w = .ok (.int .i64 t) w := by
  simp [part, isAgg, run_underlying Try.underlying3, tcells, ci]
theorem part_third (f t : Int) (d : List UInt8) (hd : d.length = 32) (w : World) : (part 28 (tcells f t d).toArray 2).run Try.prog w = .ok (.agg (cbs d).toArray) w := by
  have e : List.take 32 (cbs d) = cbs d := List.take_of_length_le (by rw [cbs_length]; omega)
  simp [part, isAgg, run_underlying Try.underlying28, tcells, ci, e]
theorem eq_tags (f t f' t' : Int) (d d' : List UInt8) (hd : d.length = 32) (hd' : d'.length = 32) (w : World) :
    (Op.equalIn 10000 59 (.agg (tcells f t d).toArray) (.agg (tcells f' t' d').toArray)).run Try.prog w = .ok (decide (((f, t, d) : Tg) = (f', t', d'))) w := by
  rw [run_equalIn_struct w 9999 59 _ _ tag_fields tag_stood]
  simp only [Program.fieldsOf, Try.underlying59]
  have eb : (Op.equalIn 9999 28 (.agg (cbs d).toArray) (.agg (cbs d').toArray)).run Try.prog w = .ok (d == d') w :=
    run_equalIn_bytes w 9997 28 5 32 Try.underlying28 Try.underlying5 (fun w => by kernel_rfl) d d' hd hd'
  have e1 : (Op.equalIn 9999 3 (.int .i64 f) (.int .i64 f')).run Try.prog w = .ok (f == f') w := run_equalIn_int w 9998 3 .i64 .i64 f f' Try.underlying3
  have e2 : (Op.equalIn 9999 3 (.int .i64 t) (.int .i64 t')).run Try.prog w = .ok (t == t') w := run_equalIn_int w 9998 3 .i64 .i64 t t' Try.underlying3
  simp only [Op.eqFields, Sem.run_bind, part_first, part_second, part_third f t d hd, part_third f' t' d' hd', e1, e2, eb, Result.andThen_ok, Sem.run_ite, Sem.run_pure]
  by_cases h1 : f = f' <;> by_cases h2 : t = t' <;> by_cases h3 : d = d' <;> simp [h1, h2, h3]
end Go.Proofs.Ytkmijmlcijbbcaa
