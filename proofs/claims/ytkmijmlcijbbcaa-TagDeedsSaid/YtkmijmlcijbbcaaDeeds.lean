/-
  A list of numbers and a list of deeds that came in, as memory shows them.
-/
import Derived.Test.YtkmijmlcijbbcaaBlk
import Derived.Test.YtkmijmlcijbbcaaTagP
import Derived.ProofKit
import Derived.OpenShut
import Derived.ShutString
import Derived.ChangeOld
import Derived.SizedLaws
import Derived.Deep.Slices
namespace Go.Proofs.Ytkmijmlcijbbcaa
open Go.ChangeShapes Go.WideShapes Go.ChangeAt Go.RowKit
set_option linter.unusedVariables false

theorem own : ownKnob Try.prog.godebug = none := by kernel_rfl
theorem laidOut : laidOutB Try.prog = true := by kernel_rfl

def ci (x : Int) : Value := .int .i64 x
def cis (l : List Int) : List Value := l.map ci
theorem cis_length (l : List Int) : (cis l).length = l.length := by simp [cis]
theorem cis_get (l : List Int) (i : Nat) : (cis l)[i]? = (l[i]?).map ci := by simp [cis]
abbrev Wf (x : Int) : Prop := (Lit.int .i64 x).wf = true
theorem bounds_i64 {x : Int} (h : Wf x) : -9223372036854775808 ≤ x ∧ x ≤ 9223372036854775807 := by
  simp [Wf, Lit.wf, IntKind.min, IntKind.max, IntKind.signed, IntKind.bits] at h
  omega
/-- The slice 'A' of l.length elements shows the numbers 'l'. -/
def Is (w : World) (A : Option Addr) (l : List Int) : Prop := Shows w w.heap.size 1 A l.length (cis l)
theorem Is.after {w w' : World} {A : Option Addr} {l : List Int} (hb : Below w.heap.size w w') (h : Is w A l) : Is w' A l := Shows.on h hb
theorem Is.at_ {w : World} {A : Option Addr} {l : List Int} (h : Is w A l) {i : Nat} (hi : i < l.length) :
    ∃ b off, A = some ⟨b, off, none⟩ ∧ b < w.heap.size ∧ ∀ j (hj : j < l.length), w.cell? ⟨b, off + j, none⟩ = some (.int .i64 l[j]) := by
  obtain ⟨b, off, e, hb, hc⟩ := h.2 (by omega)
  refine ⟨b, off, e, hb, fun j hj => ?_⟩
  exact hc j _ (by rw [cis_get, List.getElem?_eq_getElem hj]; rfl)
def ArgI (w : World) (A : Option Addr) (n c : Nat) (l : List Int) : Prop := l.length = n ∧ n ≤ c ∧ c ≤ maxLen ∧ Is w A l ∧ ∀ x ∈ l, Wf x
theorem ArgI.after {w w' : World} {A : Option Addr} {n c : Nat} {l : List Int} (h : ArgI w A n c l) (hb : Below w.heap.size w w') : ArgI w' A n c l := ⟨h.1, h.2.1, h.2.2.1, h.2.2.2.1.after hb, h.2.2.2.2⟩

section
variable {H : Type} {enc : TypeId × Value → H} {w : World} {x : DataW H × List MemPlace} {cs : List Value} {fuel : Nat}
theorem spot_of {a : Addr} {v : Value} (h : w.cell? (a.add 0) = some v) : a.spot = none := by
  have := World.cell?_spot h
  unfold Addr.add at this
  simpa using this
theorem trodI (h : DataW.trod enc Try.prog w 0 (fun _ => true) true fuel 30 cs = some x) : ∃ A n c l, cs = [.slice A n c] ∧ ArgI w A n c l := by
  rcases open_ints Try.underlying30 Try.underlying3 (by kernel_rfl) h with ⟨rfl, _⟩ | ⟨a, n, c, zs, rfl, _, hl, hm, hz, _, hcell, hwz⟩
  · exact ⟨none, 0, 0, [], rfl, rfl, Nat.le_refl _, by simp [maxLen], Shows.empty _, fun _ h => by simp at h⟩
  · have hz' : zs.length = c := by simpa using hz
    refine ⟨some a, n, c, zs.take n, rfl, by simp; omega, hl, hm, ?_, fun z hz => hwz z (List.mem_of_mem_take hz)⟩
    refine ⟨by simp [cis], fun hn => ?_⟩
    simp at hn
    have hsp := spot_of (hcell 0 (by omega))
    obtain ⟨b, off, spot⟩ := a
    simp only at hsp
    subst hsp
    refine ⟨b, off, rfl, ?_, ?_⟩
    · have := World.block_lt_of_cell? w _ (hcell 0 (by omega))
      rw [add_mk] at this
      exact this
    · intro j u hu
      simp only [cis, List.getElem?_map, Option.map_eq_some_iff] at hu
      obtain ⟨z, hz1, rfl⟩ := hu
      have hj : j < n ∧ j < zs.length := by
        rcases Nat.lt_or_ge j (zs.take n).length with h | h
        · simp at h; omega
        · rw [List.getElem?_eq_none h] at hz1; cases hz1
      have hzz : zs[j]? = some z := by rw [List.getElem?_take, if_pos hj.1] at hz1; exact hz1
      have hcj := hcell j hj.2
      rw [add_mk] at hcj
      rw [hcj]
      have hg : zs.getD j 0 = z := by simp [List.getD, hzz]
      rw [hg]
      rfl
theorem openI {A : Option Addr} {n c : Nat} {d : DataW H} {p : List MemPlace} (h : DataW.Trod enc Try.prog w 0 (fun _ => true) true 30 (.slice A n c) d p) : ∃ l, ArgI w A n c l := by
  obtain ⟨fuel, hf⟩ := h
  obtain ⟨A', n', c', l, e, ha⟩ := trodI hf
  simp [Value.cells] at e
  obtain ⟨rfl, rfl, rfl⟩ := e
  exact ⟨l, ha⟩
end

/-! ### Deeds -/
def DeedL.wf (x : DeedL) : Prop := Wf x.kind ∧ Wf x.frm ∧ Wf x.to_ ∧ Wf x.askF ∧ Wf x.askT
/-- The deed 'x' stands at 'b, o'. -/
def DeedAt (w : World) (b o : Nat) (x : DeedL) : Prop := x.wf ∧ w.cell? ⟨b, o, none⟩ = some (.int .i64 x.kind) ∧ w.cell? ⟨b, o + 1, none⟩ = some (.int .i64 x.frm) ∧ w.cell? ⟨b, o + 2, none⟩ = some (.int .i64 x.to_) ∧
  (∃ A n c, w.cell? ⟨b, o + 3, none⟩ = some (.slice A n c) ∧ ArgI w A n c x.rs) ∧ w.cell? ⟨b, o + 4, none⟩ = some (cb x.d) ∧ w.cell? ⟨b, o + 5, none⟩ = some (.int .i64 x.askF) ∧ w.cell? ⟨b, o + 6, none⟩ = some (.int .i64 x.askT)
def Dss (w : World) (A : Option Addr) (l : List DeedL) : Prop := l ≠ [] → ∃ b off, A = some ⟨b, off, none⟩ ∧ b < w.heap.size ∧ ∀ j (hj : j < l.length), DeedAt w b (off + j * 7) l[j]
theorem DeedAt.after {w w' : World} {b o : Nat} {x : DeedL} (h : DeedAt w b o x) (hb : Below w.heap.size w w') (hlt : b < w.heap.size) : DeedAt w' b o x := by
  obtain ⟨h0, h1, h2, h3, ⟨A, n, c, h4, h5⟩, h6, h7, h8⟩ := h
  exact ⟨h0, (hb.cell hlt).trans h1, (hb.cell hlt).trans h2, (hb.cell hlt).trans h3, ⟨A, n, c, (hb.cell hlt).trans h4, h5.after hb⟩, (hb.cell hlt).trans h6, (hb.cell hlt).trans h7, (hb.cell hlt).trans h8⟩
def ArgD (w : World) (A : Option Addr) (n c : Nat) (l : List DeedL) : Prop := l.length = n ∧ n ≤ c ∧ c ≤ maxLen ∧ Dss w A l
theorem ArgD.after {w w' : World} {A : Option Addr} {n c : Nat} {l : List DeedL} (h : ArgD w A n c l) (hb : Below w.heap.size w w') : ArgD w' A n c l :=
  ⟨h.1, h.2.1, h.2.2.1, fun hn => let ⟨b, off, e, hlt, hd⟩ := h.2.2.2 hn; ⟨b, off, e, Nat.lt_of_lt_of_le hlt hb.size, fun j hj => (hd j hj).after hb hlt⟩⟩
theorem ArgD.at_ {w : World} {A : Option Addr} {n c : Nat} {l : List DeedL} (h : ArgD w A n c l) {j : Nat} (hj : j < l.length) : ∃ b off, A = some ⟨b, off, none⟩ ∧ b < w.heap.size ∧ DeedAt w b (off + j * 7) l[j] := by
  obtain ⟨b, off, e, hlt, hd⟩ := h.2.2.2 (fun e => by rw [e] at hj; simp at hj)
  exact ⟨b, off, e, hlt, hd j hj⟩

theorem choose_deeds {P : Nat → DeedL → Prop} : ∀ n, (∀ r, r < n → ∃ l, P r l) → ∃ ls : List DeedL, ls.length = n ∧ ∀ j (hj : j < ls.length), P j ls[j]
  | 0, _ => ⟨[], rfl, fun j hj => by simp at hj⟩
  | n + 1, h => by
    obtain ⟨ls, hl, hls⟩ := choose_deeds n (fun r hr => h r (by omega))
    obtain ⟨l, hl'⟩ := h n (by omega)
    refine ⟨ls ++ [l], by simp [hl], fun j hj => ?_⟩
    by_cases hjn : j < ls.length
    · rw [List.getElem_append_left hjn]; exact hls j hjn
    · have : j = n := by simp at hj; omega
      subst this
      rw [List.getElem_append_right (by omega)]
      simpa [hl] using hl'

theorem one_of {cs : List Value} {i : Nat} {v : Value} (h : (cs.drop i).take 1 = [v]) : cs[i]? = some v := by
  have : ((cs.drop i).take 1)[0]? = some v := by rw [h]; rfl
  rw [List.getElem?_take, if_pos (by omega), List.getElem?_drop] at this
  simpa using this

section
variable {H : Type} {enc : TypeId × Value → H} {w : World}
theorem trod_deed {fuel : Nat} {cs : List Value} {x : DataW H × List MemPlace} (h : DataW.trod enc Try.prog w 0 (fun _ => true) true fuel 32 cs = some x) :
    ∃ (d : DeedL) (A : Option Addr) (n c : Nat), d.wf ∧ cs[0]? = some (.int .i64 d.kind) ∧ cs[1]? = some (.int .i64 d.frm) ∧ cs[2]? = some (.int .i64 d.to_) ∧ cs[3]? = some (.slice A n c) ∧ ArgI w A n c d.rs ∧
      cs[4]? = some (cb d.d) ∧ cs[5]? = some (.int .i64 d.askF) ∧ cs[6]? = some (.int .i64 d.askT) := by
  obtain ⟨xs, n, _, _, _, hlen, hg⟩ := DataW.trod_struct Try.underlying32 h
  have c1 : Try.prog.cellsOf 3 = 1 := by kernel_rfl
  have c2 : Try.prog.cellsOf 30 = 1 := by kernel_rfl
  have c3 : Try.prog.cellsOf 5 = 1 := by kernel_rfl
  have g0 : DataW.trod enc Try.prog w 0 (fun _ => true) true n 3 ((cs.drop 0).take (Try.prog.cellsOf 3)) = xs[0]? := hg 0 _ rfl
  have g1 : DataW.trod enc Try.prog w 0 (fun _ => true) true n 3 ((cs.drop 1).take (Try.prog.cellsOf 3)) = xs[1]? := hg 1 _ rfl
  have g2 : DataW.trod enc Try.prog w 0 (fun _ => true) true n 3 ((cs.drop 2).take (Try.prog.cellsOf 3)) = xs[2]? := hg 2 _ rfl
  have g3 : DataW.trod enc Try.prog w 0 (fun _ => true) true n 30 ((cs.drop 3).take (Try.prog.cellsOf 30)) = xs[3]? := hg 3 _ rfl
  have g4 : DataW.trod enc Try.prog w 0 (fun _ => true) true n 5 ((cs.drop 4).take (Try.prog.cellsOf 5)) = xs[4]? := hg 4 _ rfl
  have g5 : DataW.trod enc Try.prog w 0 (fun _ => true) true n 3 ((cs.drop 5).take (Try.prog.cellsOf 3)) = xs[5]? := hg 5 _ rfl
  have g6 : DataW.trod enc Try.prog w 0 (fun _ => true) true n 3 ((cs.drop 6).take (Try.prog.cellsOf 3)) = xs[6]? := hg 6 _ rfl
  rw [c1] at g0 g1 g2 g5 g6
  rw [c2] at g3
  rw [c3] at g4
  have hl7 : xs.length = 7 := hlen
  have e : ∀ i, i < 7 → ∃ y, xs[i]? = some y := fun i hi => ⟨_, List.getElem?_eq_getElem (by omega)⟩
  obtain ⟨y0, e0⟩ := e 0 (by omega)
  obtain ⟨y1, e1⟩ := e 1 (by omega)
  obtain ⟨y2, e2⟩ := e 2 (by omega)
  obtain ⟨y3, e3⟩ := e 3 (by omega)
  obtain ⟨y4, e4⟩ := e 4 (by omega)
  obtain ⟨y5, e5⟩ := e 5 (by omega)
  obtain ⟨y6, e6⟩ := e 6 (by omega)
  rw [e0] at g0; rw [e1] at g1; rw [e2] at g2; rw [e3] at g3; rw [e4] at g4; rw [e5] at g5; rw [e6] at g6
  obtain ⟨a0, q0, _, w0⟩ := DataW.trod_int Try.underlying3 g0
  obtain ⟨a1, q1, _, w1⟩ := DataW.trod_int Try.underlying3 g1
  obtain ⟨a2, q2, _, w2⟩ := DataW.trod_int Try.underlying3 g2
  obtain ⟨A, m, c, rs, q3, ha⟩ := trodI g3
  obtain ⟨a4, q4, _, w4⟩ := DataW.trod_int Try.underlying5 g4
  obtain ⟨a5, q5, _, w5⟩ := DataW.trod_int Try.underlying3 g5
  obtain ⟨a6, q6, _, w6⟩ := DataW.trod_int Try.underlying3 g6
  refine ⟨⟨a0, a1, a2, rs, UInt8.ofNat a4.toNat, a5, a6⟩, A, m, c, ⟨w0, w1, w2, w5, w6⟩, one_of q0, one_of q1, one_of q2, one_of q3, ha, ?_, one_of q5, one_of q6⟩
  rw [one_of q4]
  unfold cb
  have hb := bounds_u8 w4
  congr 2
  simp only
  rw [UInt8.toNat_ofNat', Nat.mod_eq_of_lt (by omega)]
  omega

theorem openD {A : Option Addr} {n c : Nat} {d : DataW H} {p : List MemPlace} (h : DataW.Trod enc Try.prog w 0 (fun _ => true) true 22 (.slice A n c) d p) : ∃ l, ArgD w A n c l := by
  obtain ⟨fuel, hf⟩ := h
  have hC : Try.prog.cellsOf 32 = 7 := by kernel_rfl
  rcases Go.Deep.open_slice Try.underlying22 hf with ⟨hcs, _⟩ | ⟨a, len, cap, m, k, D, Pl, hcs, _, hl, hm, hmm, _, hi⟩
  · simp [Value.cells] at hcs
    obtain ⟨rfl, rfl, rfl⟩ := hcs
    exact ⟨[], rfl, Nat.le_refl _, by simp [maxLen], fun hn => absurd rfl hn⟩
  · simp [Value.cells] at hcs
    obtain ⟨rfl, rfl, rfl⟩ := hcs
    rw [hC] at hi
    have hm' : n ≤ m := by rw [hmm]; simp; omega
    rcases Nat.eq_zero_or_pos n with h0 | hpos
    · subst h0
      exact ⟨[], rfl, hl, hm, fun hn => absurd rfl hn⟩
    have hs : a.spot = none := by
      obtain ⟨cs', hc, ht⟩ := hi 0 (by omega)
      obtain ⟨x, A', n', c', _, k0, _⟩ := trod_deed ht
      obtain ⟨_, _, hat⟩ := World.cells?_some hc
      have h1 := hat 0 (by omega)
      rw [k0] at h1
      have e : a.add (0 * 7) = a := by unfold Addr.add; simp
      rw [e] at h1
      exact spot_of h1
    obtain ⟨b, off, spot⟩ := a
    simp only at hs
    subst hs
    have key : ∀ r, r < n → ∃ x : DeedL, DeedAt w b (off + r * 7) x := fun r hr => by
      obtain ⟨cs', hc, ht⟩ := hi r (by omega)
      obtain ⟨x, A', n', c', h0, k0, k1, k2, k3, ha, k4, k5, k6⟩ := trod_deed ht
      obtain ⟨_, _, hat⟩ := World.cells?_some hc
      have hat' : ∀ j, j < 7 → w.cell? ⟨b, off + r * 7 + j, none⟩ = cs'[j]? := fun j hj => by
        have := hat j hj
        rw [add_mk, add_mk] at this
        exact this
      exact ⟨x, h0, (hat' 0 (by omega)).trans k0, (hat' 1 (by omega)).trans k1, (hat' 2 (by omega)).trans k2, ⟨A', n', c', (hat' 3 (by omega)).trans k3, ha⟩, (hat' 4 (by omega)).trans k4, (hat' 5 (by omega)).trans k5, (hat' 6 (by omega)).trans k6⟩
    obtain ⟨ls, hlen, hls⟩ := choose_deeds n key
    refine ⟨ls, hlen, hl, hm, fun hne => ⟨b, off, rfl, ?_, fun j hj => hls j hj⟩⟩
    have h0 := hls 0 (by omega)
    exact World.block_lt_of_cell? w _ h0.2.1
end
end Go.Proofs.Ytkmijmlcijbbcaa
