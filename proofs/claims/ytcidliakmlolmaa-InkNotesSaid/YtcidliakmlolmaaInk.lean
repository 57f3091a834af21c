/-
  A book in memory: what stands in its map, key by key.
-/
import Derived.Test.YtcidliakmlolmaaApi
import Derived.Test.YtcidliakmlolmaaClone
import Derived.Maps.Own
import Derived.Maps.OwnOps
import Derived.Maps.Views
import Derived.DeepKeys4
namespace Go.Proofs.Ytcidliakmlolmaa
open Go.RowKit Go.Maps
set_option linter.unusedVariables false

/-! ### The key: a digest -/
theorem mapM_some {α β : Type} (f : α → Option β) : ∀ l : List α, (∀ a ∈ l, ∃ b, f a = some b) → ∃ r, l.mapM f = some r
  | [], _ => ⟨[], rfl⟩
  | a :: l, h => by
    obtain ⟨b, hb⟩ := h a (by simp)
    obtain ⟨r, hr⟩ := mapM_some f l (fun x hx => h x (by simp [hx]))
    exact ⟨b :: r, by simp [List.mapM_cons, hb, hr]⟩

theorem keyType_digest : Try.prog.keyType 28 = true := by kernel_rfl
theorem cells_u8 : Try.prog.cellsOf 5 = 1 := by kernel_rfl
theorem cells_digest : Try.prog.cellsOf 28 = 32 := by kernel_rfl
theorem under_digest : Try.prog.underlying 28 = some (.array 32 5) := by kernel_rfl
theorem types_more : ∃ k, Try.prog.types.size + 1 = k + 2 := ⟨Try.prog.types.size - 1, by kernel_rfl⟩
theorem keyed_digest : Keyed Try.prog 28 := Keyed.of_law (deep_law_laid (by kernel_rfl) (m := 3) (by decide) (by decide +kernel) (by kernel_rfl) (by rw [under_digest]))

theorem wf_byte (x : UInt8) : (Lit.int .u8 (x.toNat : Int)).wf = true := by
  have := x.toNat_lt
  have h1 : (0 : Int) ≤ x.toNat := by omega
  have h2 : (x.toNat : Int) ≤ 255 := by omega
  simp [Lit.wf, IntKind.min, IntKind.max, IntKind.signed, IntKind.bits, h1, h2]
  try omega

theorem key_digest (d : List UInt8) (h : d.length = 32) : ∃ kl, keyOf Try.prog 28 (.agg (cbs d).toArray) = some kl := by
  obtain ⟨k, hk⟩ := types_more
  have hf : Value.formed Try.prog 28 (.agg (cbs d).toArray) = true := by
    unfold Value.formed
    rw [under_digest, cells_digest]
    simp [cbs_length, h]
  have hl : ∃ ls, Try.prog.keyLits (k + 2) 28 (cbs d) = some ls := by
    unfold Program.keyLits
    simp only [under_digest, cells_digest, cbs_length, h, if_true, cells_u8]
    obtain ⟨r, hr⟩ := mapM_some (fun i => Try.prog.keyLits (k + 1) 5 (((cbs d).drop (i * 1)).take 1)) (List.range 32) (fun i hi => by
      have hi' : i < d.length := by rw [h]; simpa using hi
      have e1 : ((cbs d).drop (i * 1)).take 1 = [cb d[i]] := by
        rw [Nat.mul_one, List.drop_eq_getElem_cons (by rw [cbs_length]; exact hi')]
        simp [cbs]
      rw [e1]
      unfold Program.keyLits
      simp only [Try.underlying5, cb]
      rw [if_pos ⟨trivial, wf_byte d[i]⟩]
      exact ⟨_, rfl⟩)
    rw [hr]
    exact ⟨_, rfl⟩
  obtain ⟨ls, hls⟩ := hl
  refine ⟨.string (keyBytes ls), ?_⟩
  unfold keyOf
  rw [under_digest]
  simp only [keyType_digest, hf, Bool.and_self, if_true, hk]
  show Option.map _ (Try.prog.keyLits (k + 2) 28 (cbs d)) = _
  rw [hls]
  rfl

theorem cbs_inj {l m : List UInt8} (h : cbs l = cbs m) : l = m := by
  have := congrArg (List.map fun v => match v with | Value.int _ n => UInt8.ofNat n.toNat | _ => 0) h
  simpa [cbs, cb, Function.comp_def] using this
theorem key_inj {d d' : List UInt8} {kl kl' : Lit} (h : keyOf Try.prog 28 (.agg (cbs d).toArray) = some kl) (h' : keyOf Try.prog 28 (.agg (cbs d').toArray) = some kl') (hne : d' ≠ d) : kl' ≠ kl := by
  rintro rfl
  have := keyed_digest.inj h h'
  injection this with e
  exact hne (cbs_inj (by have := congrArg Array.toList e; simpa using this)).symm
end Go.Proofs.Ytcidliakmlolmaa
