/-
  A list of byte slices that came in, with the bound on each one's length that the row's reach gives.
-/
import Derived.Test.YtcidliakmlolmaaLists
namespace Go.Proofs.Ytcidliakmlolmaa
open Go.ChangeShapes Go.WideShapes Go.ChangeAt Go.RowKit
set_option linter.unusedVariables false

section
variable {H : Type} {enc : TypeId × Value → H} {w : World}
theorem all_memL {P : Program} {e : TypeId} {d : DataW H} {z : Nat} : ∀ (ds : List (DataW H)), d ∈ ds → z ∈ d.weights P e → z ∈ DataW.weightsAll P e ds
  | [], h, _ => by simp at h
  | x :: ds, h, hz => by
    rw [DataW.weightsAll, List.mem_append]
    rcases List.mem_cons.1 h with rfl | h
    · exact .inl hz
    · exact .inr (all_memL ds h hz)
theorem openLz {A : Option Addr} {n c : Nat} {d : DataW H} {p : List MemPlace} (h : DataW.Trod enc Try.prog w 0 (fun _ => true) true 22 (.slice A n c) d p) (hz : ∀ z ∈ d.weights Try.prog 22, z ≤ reachBytes) :
    ∃ ls, ArgL w A n c ls ∧ ∀ x ∈ ls, x.length ≤ 140737488351232 := by
  obtain ⟨ls, hA⟩ := openL h
  refine ⟨ls, hA, fun x hx => ?_⟩
  obtain ⟨j, hj, rfl⟩ := List.getElem_of_mem hx
  have hjn : j < n := by rw [← hA.1]; exact hj
  obtain ⟨fuel, hf⟩ := h
  rcases Go.Deep.open_int_rows Try.underlying22 Try.underlying32 Try.underlying5 (by kernel_rfl) (by kernel_rfl) hf with ⟨hcs, _⟩ | ⟨a, len, cap, Ar, L, C, Z, hcs, _, hl, hm, hxd, hr⟩
  · simp [Value.cells] at hcs
    obtain ⟨rfl, rfl, rfl⟩ := hcs
    omega
  · simp [Value.cells] at hcs
    obtain ⟨rfl, rfl, rfl⟩ := hcs
    obtain ⟨q0, q1, q2, q3, _, q5, q6⟩ := hr j (by omega)
    obtain ⟨b, off, Aj, cj, e, _, hc, hle, _, _⟩ := hA.2.2.2.at_ hj
    cases e
    rw [add_mk] at q0
    have e2 := hc.symm.trans q0
    injection e2 with e2
    injection e2 with _ e3 _
    injection hxd with hxd _
    have hw := fun z hzz => hz z (by
      rw [hxd]
      simp only [DataW.weights, Try.underlying22, List.mem_cons, List.mem_append]
      exact .inr (.inl (all_memL _ (List.mem_map.2 ⟨j, List.mem_range.2 hjn, rfl⟩) hzz)))
    have hb : Try.prog.bytesOf 5 = 1 := by kernel_rfl
    cases hAr : Ar j with
    | none => have := q5 hAr; omega
    | some a' =>
      rw [hAr] at hw
      simp only [Go.Deep.intRow, DataW.weights, Try.underlying32, List.mem_cons] at hw
      have h1 := hw _ (.inl rfl)
      rw [hb] at h1
      simp only [lits, List.length_map, List.length_take, List.length_drop] at h1
      simp [reachBytes] at h1
      omega
end
end Go.Proofs.Ytcidliakmlolmaa
