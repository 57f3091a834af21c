/-
  Arrays of eight words, compared.
-/
import Derived.Test.YtamfjnomkefddaaRnd
import Derived.Stop.BytesEq
namespace Go.Proofs.Ytamfjnomkefddaa
open Go.RowKit
set_option linter.unusedVariables false
set_option linter.unusedSimpArgs false

theorem eq_word (w : World) (x y : UInt32) : (Op.equalIn 9999 52 (cw x) (cw y)).run Try.prog w = .ok (x == y) w := by
  unfold cw
  rw [run_equalIn_int w 9998 52 .u32 .u32 _ _ Try.underlying52]
  congr 1
  rw [Bool.eq_iff_iff]
  simp [← UInt32.toNat_inj]
  omega

/-- Words side by side, from the front: the first two that part end it. -/
def same : List (UInt32 × UInt32) → Bool
  | [] => true
  | p :: t => (p.1 == p.2) && same t
theorem same_zip : ∀ (xs ys : List UInt32), xs.length = ys.length → same (xs.zip ys) = (xs == ys)
  | [], [], _ => rfl
  | x :: xs, y :: ys, h => by
    rw [List.zip_cons_cons, same, same_zip xs ys (by simpa using h)]
    simp [List.cons_beq_cons]
  | [], _ :: _, h => by simp at h
  | _ :: _, [], h => by simp at h

theorem part_word (w : World) (xs : List UInt32) (i : Nat) (h : i < xs.length) : (part 52 (cws xs).toArray (i * 1)).run Try.prog w = .ok (cw (xs.getD i 0)) w := by
  simp [part, isAgg, run_underlying Try.underlying52, List.getD, cws, List.getElem?_eq_getElem h]

theorem eight (l : List UInt32) (h : l.length = 8) : ∃ a b c d e f g i, l = [a, b, c, d, e, f, g, i] := by
  match l, h with
  | [a, b, c, d, e, f, g, i], _ => exact ⟨a, b, c, d, e, f, g, i, rfl⟩

set_option maxRecDepth 10000 in
theorem eq_words (w : World) (xs ys : List UInt32) (hx : xs.length = 8) (hy : ys.length = 8) :
    (Op.equalIn 10000 53 (.agg (cws xs).toArray) (.agg (cws ys).toArray)).run Try.prog w = .ok (xs == ys) w := by
  have hz : ∀ w, (sizeOf 52).run Try.prog w = .ok 1 w := fun w => by kernel_rfl
  have hp := fun (i : Nat) (h : i < 8) => part_word w xs i (by omega)
  have hq := fun (i : Nat) (h : i < 8) => part_word w ys i (by omega)
  obtain ⟨x0, x1, x2, x3, x4, x5, x6, x7, rfl⟩ := eight xs hx
  obtain ⟨y0, y1, y2, y3, y4, y5, y6, y7, rfl⟩ := eight ys hy
  rw [← same_zip [x0, x1, x2, x3, x4, x5, x6, x7] [y0, y1, y2, y3, y4, y5, y6, y7] rfl]
  rw [Op.equalIn]
  simp only [Sem.run_bind, run_underlying Try.underlying53, Result.andThen_ok, hz, Std.Legacy.Range.forIn_eq_forIn_range', Std.Legacy.Range.size, Nat.sub_zero, Nat.add_sub_cancel, Nat.div_one]
  have e8 : List.range' 0 8 1 = [0, 1, 2, 3, 4, 5, 6, 7] := rfl
  rw [e8]
  simp only [List.zip_cons_cons, List.zip_nil_left, same]
  simp only [List.forIn_cons, Sem.run_bind, hp 0 (by decide), hq 0 (by decide), Result.andThen_ok, eq_word, List.getD_cons_zero, List.getD_cons_succ]
  by_cases e0 : (x0 == y0) = true
  case neg => simp [e0]
  simp only [e0, Bool.not_true, Bool.false_eq_true, if_false, Sem.run_pure, Result.andThen_ok, Bool.true_and]
  simp only [List.forIn_cons, Sem.run_bind, hp 1 (by decide), hq 1 (by decide), Result.andThen_ok, eq_word, List.getD_cons_zero, List.getD_cons_succ]
  by_cases e1 : (x1 == y1) = true
  case neg => simp [e1]
  simp only [e1, Bool.not_true, Bool.false_eq_true, if_false, Sem.run_pure, Result.andThen_ok, Bool.true_and]
  simp only [List.forIn_cons, Sem.run_bind, hp 2 (by decide), hq 2 (by decide), Result.andThen_ok, eq_word, List.getD_cons_zero, List.getD_cons_succ]
  by_cases e2 : (x2 == y2) = true
  case neg => simp [e2]
  simp only [e2, Bool.not_true, Bool.false_eq_true, if_false, Sem.run_pure, Result.andThen_ok, Bool.true_and]
  simp only [List.forIn_cons, Sem.run_bind, hp 3 (by decide), hq 3 (by decide), Result.andThen_ok, eq_word, List.getD_cons_zero, List.getD_cons_succ]
  by_cases e3 : (x3 == y3) = true
  case neg => simp [e3]
  simp only [e3, Bool.not_true, Bool.false_eq_true, if_false, Sem.run_pure, Result.andThen_ok, Bool.true_and]
  simp only [List.forIn_cons, Sem.run_bind, hp 4 (by decide), hq 4 (by decide), Result.andThen_ok, eq_word, List.getD_cons_zero, List.getD_cons_succ]
  by_cases e4 : (x4 == y4) = true
  case neg => simp [e4]
  simp only [e4, Bool.not_true, Bool.false_eq_true, if_false, Sem.run_pure, Result.andThen_ok, Bool.true_and]
  simp only [List.forIn_cons, Sem.run_bind, hp 5 (by decide), hq 5 (by decide), Result.andThen_ok, eq_word, List.getD_cons_zero, List.getD_cons_succ]
  by_cases e5 : (x5 == y5) = true
  case neg => simp [e5]
  simp only [e5, Bool.not_true, Bool.false_eq_true, if_false, Sem.run_pure, Result.andThen_ok, Bool.true_and]
  simp only [List.forIn_cons, Sem.run_bind, hp 6 (by decide), hq 6 (by decide), Result.andThen_ok, eq_word, List.getD_cons_zero, List.getD_cons_succ]
  by_cases e6 : (x6 == y6) = true
  case neg => simp [e6]
  simp only [e6, Bool.not_true, Bool.false_eq_true, if_false, Sem.run_pure, Result.andThen_ok, Bool.true_and]
  simp only [List.forIn_cons, Sem.run_bind, hp 7 (by decide), hq 7 (by decide), Result.andThen_ok, eq_word, List.getD_cons_zero, List.getD_cons_succ]
  by_cases e7 : (x7 == y7) = true
  case neg => simp [e7]
  simp only [e7, Bool.not_true, Bool.false_eq_true, if_false, Sem.run_pure, Result.andThen_ok, Bool.true_and]
  simp
end Go.Proofs.Ytamfjnomkefddaa
