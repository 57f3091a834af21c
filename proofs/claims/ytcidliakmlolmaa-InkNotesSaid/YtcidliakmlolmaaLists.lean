/-
  A list of byte slices that came in, as memory shows it.
-/
import Derived.Test.YtcidliakmlolmaaOpen
import Derived.Deep.Matrix
namespace Go.Proofs.Ytcidliakmlolmaa
open Go.ChangeShapes Go.WideShapes Go.ChangeAt Go.RowKit
set_option linter.unusedVariables false

/-- The slice 'A' of ls.length elements shows the byte slices 'ls'. -/
def Lss (w : World) (A : Option Addr) (ls : List (List UInt8)) : Prop :=
  ls ≠ [] → ∃ b off, A = some ⟨b, off, none⟩ ∧ b < w.heap.size ∧ ∀ j (hj : j < ls.length), ∃ Aj cj, w.cell? ⟨b, off + j, none⟩ = some (.slice Aj ls[j].length cj) ∧ ls[j].length ≤ cj ∧ cj ≤ maxLen ∧ Bs w Aj ls[j]
theorem Lss.after {w w' : World} {A : Option Addr} {ls : List (List UInt8)} (hb : Below w.heap.size w w') (h : Lss w A ls) : Lss w' A ls := fun hn => by
  obtain ⟨b, off, e, hlt, hc⟩ := h hn
  refine ⟨b, off, e, Nat.lt_of_lt_of_le hlt hb.size, fun j hj => ?_⟩
  obtain ⟨Aj, cj, h1, h2, h3, h4⟩ := hc j hj
  exact ⟨Aj, cj, (hb.cell hlt).trans h1, h2, h3, h4.after hb⟩
/-- Element j: where its header stands, and what it shows. -/
theorem Lss.at_ {w : World} {A : Option Addr} {ls : List (List UInt8)} (h : Lss w A ls) {j : Nat} (hj : j < ls.length) :
    ∃ b off Aj cj, A = some ⟨b, off, none⟩ ∧ b < w.heap.size ∧ w.cell? ⟨b, off + j, none⟩ = some (.slice Aj ls[j].length cj) ∧ ls[j].length ≤ cj ∧ cj ≤ maxLen ∧ Bs w Aj ls[j] := by
  obtain ⟨b, off, e, hlt, hc⟩ := h (fun e => by rw [e] at hj; simp at hj)
  obtain ⟨Aj, cj, h1, h2, h3, h4⟩ := hc j hj
  exact ⟨b, off, Aj, cj, e, hlt, h1, h2, h3, h4⟩

def ArgL (w : World) (A : Option Addr) (n c : Nat) (ls : List (List UInt8)) : Prop := ls.length = n ∧ n ≤ c ∧ c ≤ maxLen ∧ Lss w A ls

theorem row_bytes {w : World} {Ar : Option Addr} {Lr Cr : Nat} {Zr : List Int} (hl : Lr ≤ Cr) (hz : Zr.length = Cr) (hw : ∀ n ∈ Zr, (Lit.int .u8 n).wf = true)
    (hc : ∀ a', Ar = some a' → ∀ c, c < Cr → w.cell? (a'.add c) = some (.int .u8 (Zr.getD c 0))) (hn : Ar = none → Cr = 0) : ∃ l : List UInt8, l.length = Lr ∧ Bs w Ar l := by
  refine ⟨(Zr.take Lr).map fun z => UInt8.ofNat z.toNat, by simp; omega, ?_⟩
  refine ⟨by simp [cbs], fun hpos => ?_⟩
  have hpos' : 0 < Lr := by simp at hpos; omega
  cases Ar with
  | none => have := hn rfl; omega
  | some x =>
    have h0 := hc x rfl 0 (by omega)
    have hsp : x.spot = none := by
      have := World.cell?_spot h0
      unfold Addr.add at this
      simpa using this
    obtain ⟨b, off, spot⟩ := x
    simp only at hsp
    subst hsp
    refine ⟨b, off, rfl, ?_, ?_⟩
    · have := World.block_lt_of_cell? w _ h0
      rw [add_mk] at this
      exact this
    · intro j u hu
      simp only [cbs, List.map_map, List.getElem?_map, Option.map_eq_some_iff] at hu
      obtain ⟨z, hz1, rfl⟩ := hu
      have hj : j < Lr ∧ j < Zr.length := by
        rcases Nat.lt_or_ge j (Zr.take Lr).length with h | h
        · simp at h; omega
        · rw [List.getElem?_eq_none h] at hz1; cases hz1
      have hzz : Zr[j]? = some z := by rw [List.getElem?_take, if_pos hj.1] at hz1; exact hz1
      have hcj := hc _ rfl j (by omega)
      rw [add_mk] at hcj
      rw [hcj]
      have hmem : z ∈ Zr := List.mem_of_getElem? hzz
      have hg : Zr.getD j 0 = z := by simp [List.getD, hzz]
      rw [hg]
      show _ = some (Value.int .u8 _)
      rw [← wf_u8 (hw z hmem)]

theorem choose_list {P : Nat → List UInt8 → Prop} : ∀ n, (∀ r, r < n → ∃ l, P r l) → ∃ ls : List (List UInt8), ls.length = n ∧ ∀ j (hj : j < ls.length), P j ls[j]
  | 0, _ => ⟨[], rfl, fun j hj => by simp at hj⟩
  | n + 1, h => by
    obtain ⟨ls, hl, hls⟩ := choose_list n (fun r hr => h r (by omega))
    obtain ⟨l, hl'⟩ := h n (by omega)
    refine ⟨ls ++ [l], by simp [hl], fun j hj => ?_⟩
    by_cases hjn : j < ls.length
    · rw [List.getElem_append_left hjn]; exact hls j hjn
    · have : j = n := by simp at hj; omega
      subst this
      rw [List.getElem_append_right (by omega)]
      simpa [hl] using hl'

theorem openL {H : Type} {enc : TypeId × Value → H} {w : World} {A : Option Addr} {n c : Nat} {d : DataW H} {p : List MemPlace}
    (h : DataW.Trod enc Try.prog w 0 (fun _ => true) true 22 (.slice A n c) d p) : ∃ ls, ArgL w A n c ls := by
  obtain ⟨fuel, hf⟩ := h
  rcases Go.Deep.open_int_rows Try.underlying22 Try.underlying32 Try.underlying5 (by kernel_rfl) (by kernel_rfl) hf with ⟨hcs, _⟩ | ⟨a, len, cap, Ar, L, C, Z, hcs, _, hl, hm, _, hr⟩
  · simp [Value.cells] at hcs
    obtain ⟨rfl, rfl, rfl⟩ := hcs
    exact ⟨[], rfl, Nat.le_refl _, by simp [maxLen], fun hn => absurd rfl hn⟩
  · simp [Value.cells] at hcs
    obtain ⟨rfl, rfl, rfl⟩ := hcs
    obtain ⟨ls, hlen, hls⟩ := choose_list (P := fun r l => l.length = L r ∧ Bs w (Ar r) l) n (fun r hrn => by
      obtain ⟨_, r1, _, r3, r4, r5, r6⟩ := hr r (by omega)
      exact row_bytes r1 r3 r4 (fun a' e => (r6 a' e).2) r5)
    refine ⟨ls, hlen, hl, hm, fun hne => ?_⟩
    have hpos : 0 < n := by rw [← hlen]; exact List.length_pos_iff.2 hne
    have h0 := (hr 0 (by omega)).1
    have hsp : a.spot = none := by
      have := World.cell?_spot h0
      unfold Addr.add at this
      simpa using this
    obtain ⟨b, off, spot⟩ := a
    simp only at hsp
    subst hsp
    refine ⟨b, off, rfl, by have := World.block_lt_of_cell? w _ h0; rw [add_mk] at this; exact this, fun j hj => ?_⟩
    obtain ⟨q0, q1, q2, _⟩ := hr j (by omega)
    obtain ⟨s1, s2⟩ := hls j hj
    rw [add_mk] at q0
    exact ⟨Ar j, C j, by rw [q0, s1], by rw [s1]; exact q1, q2, s2⟩
end Go.Proofs.Ytcidliakmlolmaa
