/-
  Laid together for a hand-in: Sf14.
-/
import Derived.Test.YtmdgcimjmmnbjaaZ16

namespace Go.Proofs.Ytmdgcimjmmnbjaa
open Go.RowKit Go.Shelf Go.Sort Go.Maps CrewP
set_option linter.unusedVariables false
set_option linter.unusedSimpArgs false

theorem dg_eq (d d' : List UInt8) (h : d.length = 32) (h' : d'.length = 32) (w : World) : (Op.equalIn 10000 39 (.agg (cbs d).toArray) (.agg (cbs d').toArray)).run Try.prog w = .ok (d == d') w :=
  run_equalIn_bytes w 9998 39 5 32 Try.underlying39 Try.underlying5 (fun w => by kernel_rfl) d d' h h'
theorem As2.at_ {w0 w : World} {g h : Nat} {a b : St} {V : BlkL} (k : As2 w0 w g h a b V) {seq : Int} (hs : Wf seq) : ∃ (X : SdT) (B : Bool), (Calls Try.prog 18 #[.pointer (some ⟨g, 0, none⟩), .int .i64 seq] w fun e w' => e = .returned (.tuple #[.agg (sdT X).toArray, .bool B]) ∧ Below w.heap.size w w') ∧ ∀ i v, idx a seq = some i → (a.s i).last = some v → X.1.d = v.d := by
  obtain ⟨U, h1⟩ := k.left
  have hd : ((atS a seq).getD sd0).d.length = 32 := by
    cases e : atS a seq with
    | none => rfl
    | some x =>
      unfold atS at e
      obtain ⟨i, hi, e⟩ := Option.bind_eq_some_iff.1 e
      obtain ⟨v, hv, e⟩ := Option.map_eq_some_iff.1 e
      have := ((h1.ok.s i (idx_lt hi).1).last v hv).2.2
      rw [← e]
      exact this
  refine ⟨⟨(atS a seq).getD sd0, hd⟩, (atS a seq).isSome, at_at h1 hs, fun i v hi hv => ?_⟩
  show ((atS a seq).getD sd0).d = v.d
  unfold atS
  rw [hi]
  simp only [Option.bind_some]
  rw [hv]
  rfl
theorem stand_row_d {w : World} {b : Nat} {X : SdT} (h : Blk w b 41 (sdT X)) : w.rangeAt b 1 (cbs X.1.d) :=
  h.rangeFrom (o := 1) (n := 32) (by
    show List.take 32 (cbs X.1.d ++ [_]) = cbs X.1.d
    rw [List.take_append_of_le_length (by rw [cbs_length, X.2]; exact Nat.le_refl _), List.take_of_length_le (by rw [cbs_length, X.2]; exact Nat.le_refl _)])
/-- A stand that becomes a variable. -/
theorem stand_var (w : World) (X : SdT) {C : List Value} (hC : sdT X = C) : ∃ wS, (w.alloc (.cells (sdC sd0).toArray 41)).setCells w.heap.size 0 C = wS ∧
    ((w.alloc (.cells (sdC sd0).toArray 41)).there w.heap.size 0 C.toArray.size ∧ (Try.prog.info? 41).map (·.size) = some C.toArray.size ∧ C.toArray.all (·.oneCell') = true) ∧ Blk wS w.heap.size 41 C ∧ Below w.heap.size w wS := by
  subst hC
  obtain ⟨wS, hwS, ⟨hth, hin⟩, hbS, hbe, hsS⟩ := row_local w 41 (sdC sd0) (sdT X) (by rw [sdT_len]; rfl) (by rw [stand_info1]; rfl)
  refine ⟨wS, hwS, ⟨hth, hin, ?_⟩, hbS, hbe⟩
  have := sdT_one X
  simpa [Array.all_eq_true_iff_forall_mem, List.all_eq_true] using this
end Go.Proofs.Ytmdgcimjmmnbjaa
