/-
  A list of bools and a list of puts that came in, as memory shows them.
-/
import Derived.Test.YtmcbjcopipafdaaOpen
import Derived.Test.YtmcbjcopipafdaaTurnP
import Derived.Deep.Slices
import Derived.Deep.Grids
namespace Go.Proofs.Ytmcbjcopipafdaa
open Go.ChangeShapes Go.WideShapes Go.ChangeAt Go.RowKit
set_option linter.unusedVariables false

/-- A slice of bools that came in. -/
def ArgK (w : World) (A : Option Addr) (n c : Nat) (l : List Bool) : Prop := l.length = n ∧ n ≤ c ∧ c ≤ maxLen ∧ Shows w w.heap.size 1 A n (cbls l)
theorem ArgK.koff {w w' : World} {A : Option Addr} {n c : Nat} {l : List Bool} {M : Nat → Prop} (h : ArgK w A n c l) (hb : Below w.heap.size w w') (hM : ∀ i, M i → w.heap.size ≤ i) : KOff w' M (.slice A n c) l := by
  obtain ⟨h1, h2, h3, h4⟩ := h
  refine ⟨A, c, by rw [h1], by omega, h3, fun hl => ?_⟩
  obtain ⟨b, off, e, hlt, hc⟩ := h4.2 (by omega)
  refine ⟨b, off, e, Nat.lt_of_lt_of_le hlt hb.size, fun hm => ?_, fun j u hu => (hb.cell (p := ⟨b, off + j, none⟩) hlt).trans (hc j u hu)⟩
  have := hM b hm
  omega

structure PutL where
  at_ : Int
  b : UInt8
  fl : Bool
/-- The put 'x' stands at 'b, o'. -/
def PutAt (w : World) (b o : Nat) (x : PutL) : Prop := Wf x.at_ ∧ w.cell? ⟨b, o, none⟩ = some (.int .i64 x.at_) ∧ w.cell? ⟨b, o + 1, none⟩ = some (.int .u8 (x.b.toNat : Int)) ∧ w.cell? ⟨b, o + 2, none⟩ = some (.bool x.fl)
def Pss (w : World) (A : Option Addr) (l : List PutL) : Prop := l ≠ [] → ∃ b off, A = some ⟨b, off, none⟩ ∧ b < w.heap.size ∧ ∀ j (hj : j < l.length), PutAt w b (off + j * 3) l[j]
theorem PutAt.after {w w' : World} {b o : Nat} {x : PutL} (h : PutAt w b o x) (hb : Below w.heap.size w w') (hlt : b < w.heap.size) : PutAt w' b o x := by
  obtain ⟨h0, h1, h2, h3⟩ := h
  exact ⟨h0, (hb.cell hlt).trans h1, (hb.cell hlt).trans h2, (hb.cell hlt).trans h3⟩
def ArgP (w : World) (A : Option Addr) (n c : Nat) (l : List PutL) : Prop := l.length = n ∧ n ≤ c ∧ c ≤ maxLen ∧ Pss w A l
theorem ArgP.after {w w' : World} {A : Option Addr} {n c : Nat} {l : List PutL} (h : ArgP w A n c l) (hb : Below w.heap.size w w') : ArgP w' A n c l :=
  ⟨h.1, h.2.1, h.2.2.1, fun hn => let ⟨b, off, e, hlt, hd⟩ := h.2.2.2 hn; ⟨b, off, e, Nat.lt_of_lt_of_le hlt hb.size, fun j hj => (hd j hj).after hb hlt⟩⟩
theorem ArgP.at_ {w : World} {A : Option Addr} {n c : Nat} {l : List PutL} (h : ArgP w A n c l) {j : Nat} (hj : j < l.length) : ∃ b off, A = some ⟨b, off, none⟩ ∧ b < w.heap.size ∧ PutAt w b (off + j * 3) l[j] := by
  obtain ⟨b, off, e, hlt, hd⟩ := h.2.2.2 (fun e => by rw [e] at hj; simp at hj)
  exact ⟨b, off, e, hlt, hd j hj⟩

theorem choose_list {α : Type} {P : Nat → α → Prop} : ∀ n, (∀ r, r < n → ∃ l, P r l) → ∃ ls : List α, ls.length = n ∧ ∀ j (hj : j < ls.length), P j ls[j]
  | 0, _ => ⟨[], rfl, fun j hj => by simp at hj⟩
  | n + 1, h => by
    obtain ⟨ls, hl, hls⟩ := choose_list n (fun r hr => h r (by omega))
    obtain ⟨l, hl'⟩ := h n (by omega)
    refine ⟨ls ++ [l], by simp [hl], fun j hj => ?_⟩
    by_cases hjn : j < ls.length
    · rw [List.getElem_append_left hjn]; exact hls j hjn
    · have : j = n := by simp at hj; omega
      subst this
      rw [List.getElem_append_right (by omega)]
      simpa [hl] using hl'
theorem one_of {cs : List Value} {i : Nat} {v : Value} (h : (cs.drop i).take 1 = [v]) : cs[i]? = some v := by
  have : ((cs.drop i).take 1)[0]? = some v := by rw [h]; rfl
  rw [List.getElem?_take, if_pos (by omega), List.getElem?_drop] at this
  simpa using this

section
variable {H : Type} {enc : TypeId × Value → H} {w : World} {x : DataW H × List MemPlace} {cs : List Value} {fuel : Nat}
theorem spot_of {a : Addr} {v : Value} (h : w.cell? (a.add 0) = some v) : a.spot = none := by
  have := World.cell?_spot h
  unfold Addr.add at this
  simpa using this
theorem trodK (h : DataW.trod enc Try.prog w 0 (fun _ => true) true fuel 38 cs = some x) : ∃ A n c l, cs = [.slice A n c] ∧ ArgK w A n c l := by
  have hC : Try.prog.cellsOf 4 = 1 := by kernel_rfl
  rcases Go.Deep.open_slice Try.underlying38 h with ⟨rfl, _⟩ | ⟨a, n, c, m, k, D, Pl, rfl, _, hl, hm, hmm, _, hi⟩
  · exact ⟨none, 0, 0, [], rfl, rfl, Nat.le_refl _, by simp [maxLen], Shows.empty _⟩
  · rw [hC] at hi
    have hm' : n ≤ m := by rw [hmm]; simp; omega
    have key : ∀ r, r < n → ∃ b : Bool, w.cell? (a.add (r * 1)) = some (.bool b) := fun r hr => by
      obtain ⟨cs', hc, ht⟩ := hi r (by omega)
      obtain ⟨b, e, _⟩ := DataW.trod_bool Try.underlying4 ht
      obtain ⟨_, _, hat⟩ := World.cells?_some hc
      have h1 := hat 0 (by omega)
      rw [e] at h1
      have e2 : (a.add (r * 1)).add 0 = a.add (r * 1) := by unfold Addr.add; simp
      rw [e2] at h1
      exact ⟨b, h1⟩
    obtain ⟨ls, hlen, hls⟩ := choose_list n key
    refine ⟨some a, n, c, ls, rfl, hlen, hl, hm, by rw [cbls_length, hlen]; simp, fun hn => ?_⟩
    have h0 := hls 0 (by omega)
    have hsp : a.spot = none := by rw [Nat.zero_mul] at h0; exact spot_of h0
    obtain ⟨b, off, spot⟩ := a
    simp only at hsp
    subst hsp
    refine ⟨b, off, rfl, ?_, fun j u hu => ?_⟩
    · have := World.block_lt_of_cell? w _ h0
      rw [add_mk] at this
      exact this
    · have hj : j < ls.length := by
        rcases Nat.lt_or_ge j ls.length with h' | h'
        · exact h'
        · rw [List.getElem?_eq_none (by rw [cbls_length]; exact h')] at hu; cases hu
      have h1 := hls j hj
      rw [add_mk, Nat.mul_one] at h1
      rw [cbls_get, List.getElem?_eq_getElem hj] at hu
      rw [h1]; exact hu
theorem openK {A : Option Addr} {n c : Nat} {d : DataW H} {p : List MemPlace} (h : DataW.Trod enc Try.prog w 0 (fun _ => true) true 38 (.slice A n c) d p) : ∃ l, ArgK w A n c l := by
  obtain ⟨fuel, hf⟩ := h
  obtain ⟨A', n', c', l, e, ha⟩ := trodK hf
  simp [Value.cells] at e
  obtain ⟨rfl, rfl, rfl⟩ := e
  exact ⟨l, ha⟩
end

end Go.Proofs.Ytmcbjcopipafdaa
