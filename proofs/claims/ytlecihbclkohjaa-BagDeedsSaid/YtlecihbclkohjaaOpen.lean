/-
  How the arguments of a law are read: a slice of bytes that came in.
-/
import Derived.Test.YtlecihbclkohjaaMem
import Derived.Test.YtlecihbclkohjaaRows
import Derived.ProofKit
import Derived.OpenShut
import Derived.ShutString
import Derived.ChangeOld
import Derived.SizedLaws

namespace Go.Proofs.Ytlecihbclkohjaa

open Go.ChangeShapes Go.WideShapes Go.ChangeAt Go.RowKit

set_option linter.unusedVariables false

theorem own : ownKnob Try.prog.godebug = none := by kernel_rfl

theorem laidOut : laidOutB Try.prog = true := by kernel_rfl

theorem bytes_u8 : Try.prog.bytesOf 5 = 1 := by kernel_rfl

/-- A slice of bytes that came in. -/
def ArgB (w : World) (A : Option Addr) (n c : Nat) (l : List UInt8) : Prop := l.length = n ∧ n ≤ c ∧ c ≤ 140737488351232 ∧ Bs w A l

theorem wf_u8 {x : Int} (h : (Lit.int .u8 x).wf = true) : x = (((UInt8.ofNat x.toNat).toNat : Nat) : Int) := by
  have hb := bounds_u8 h
  rw [UInt8.toNat_ofNat', Nat.mod_eq_of_lt (by omega)]
  omega

theorem openB {H : Type} {enc : TypeId × Value → H} {w : World} {A : Option Addr} {n c : Nat} {d : DataW H} {p : List MemPlace}
    (h : DataW.Trod enc Try.prog w 0 (fun _ => true) true 27 (.slice A n c) d p) (hlt : ∀ x ∈ p, x.block < w.heap.size)
    (hs : ∀ elems spare, d = .slice elems spare → elems.length + spare.length ≤ 140737488351232) : ∃ l, ArgB w A n c l := by
  obtain ⟨fuel, hf⟩ := h
  rcases open_ints Try.underlying27 Try.underlying5 (by kernel_rfl) hf with ⟨hcs, _⟩ | ⟨x, l, c', zs, hcs, _, hl, hm, hz, hx, hcell, hwz⟩
  · simp [Value.cells] at hcs
    obtain ⟨rfl, rfl, rfl⟩ := hcs
    exact ⟨[], rfl, Nat.le_refl _, by omega, Bs.nil _ _⟩
  · simp [Value.cells] at hcs
    obtain ⟨rfl, rfl, rfl⟩ := hcs
    simp only [Prod.mk.injEq] at hx
    obtain ⟨hd, hp⟩ := hx
    have hz' : zs.length = c := by simpa using hz
    have hs' := hs _ _ hd
    simp only [lits, List.length_map, List.length_take, List.length_drop] at hs'
    refine ⟨(zs.take n).map fun z => UInt8.ofNat z.toNat, by simp; omega, hl, by omega, ?_⟩
    refine ⟨by simp [cbs], fun hn => ?_⟩
    have h0 := hcell 0 (by simp at hn; omega)
    have hsp : x.spot = none := by
      have := World.cell?_spot h0
      unfold Addr.add at this
      simpa using this
    obtain ⟨b, off, spot⟩ := x
    simp only at hsp
    subst hsp
    refine ⟨b, off, rfl, ?_, ?_⟩
    · have := World.block_lt_of_cell? w _ h0
      rw [add_mk] at this
      exact this
    · intro j u hu
      simp only [cbs, List.map_map, List.getElem?_map, Option.map_eq_some_iff] at hu
      obtain ⟨z, hz1, rfl⟩ := hu
      have hj : j < n ∧ j < zs.length := by
        rcases Nat.lt_or_ge j (zs.take n).length with h | h
        · simp at h; omega
        · rw [List.getElem?_eq_none h] at hz1; cases hz1
      have hzz : zs[j]? = some z := by rw [List.getElem?_take, if_pos hj.1] at hz1; exact hz1
      have hcj := hcell j hj.2
      rw [add_mk] at hcj
      rw [hcj]
      have hmem : z ∈ zs := List.mem_of_getElem? hzz
      have hg : zs.getD j 0 = z := by simp [List.getD, hzz]
      rw [hg]
      show _ = some (Value.int .u8 _)
      rw [← wf_u8 (hwz z hmem)]

/-- What 'x[:min(len(x), 1000)]' leaves of a slice of bytes that came in. -/
theorem cut1000 {w : World} {A : Option Addr} {n c : Nat} {l : List UInt8} (h : ArgB w A n c l) : ∃ m x, x.length = m ∧ m ≤ 1000 ∧ m ≤ c ∧ c ≤ maxLen ∧ Bs w A x ∧
    (∀ ts t w, (Builtin.min_ ts t #[.int .i64 (n : Int), .int .i64 1000]).run Try.prog w = .ok (.int .i64 (m : Int)) w) ∧
    (∀ w, (Instr.sliceAt 27 (.slice A n c) none (some (.int .i64 (m : Int))) none).run Try.prog w = .ok (.slice A m c) w) := by
  obtain ⟨h1, h2, h3, h4⟩ := h
  refine ⟨min n 1000, l.take (min n 1000), by rw [List.length_take]; omega, by omega, by omega, by unfold maxLen; omega, h4.front (by omega), fun ts t w => ?_, fun w => ?_⟩
  · rw [run_min_int2]
    congr 2
    split <;> omega
  · have h1 : ((min n 1000 : Nat) : Int) ≤ c := by omega
    generalize min n 1000 = m at *
    go_simp

end Go.Proofs.Ytlecihbclkohjaa
