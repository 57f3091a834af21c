/-
  A list of calls that came in, as memory shows it, with the bounds on their bytes and lists that the row's reach gives.
-/
import Derived.Test.YtmcbjcopipafdaaArgs
import Derived.Deep.Matrix
namespace Go.Proofs.Ytmcbjcopipafdaa
open Go.ChangeShapes Go.WideShapes Go.ChangeAt Go.RowKit
set_option linter.unusedVariables false

structure DoL where
  kind : Int
  a : Int
  bit : Int
  b : List UInt8
  k : List Bool
/-- The call 'x' stands at 'p, o'. -/
def DoAt (w : World) (p o : Nat) (x : DoL) : Prop := Wf x.kind ∧ Wf x.a ∧ Wf x.bit ∧ w.cell? ⟨p, o, none⟩ = some (.int .i64 x.kind) ∧ w.cell? ⟨p, o + 1, none⟩ = some (.int .i64 x.a) ∧ w.cell? ⟨p, o + 2, none⟩ = some (.int .i64 x.bit) ∧
  (∃ AB cB, w.cell? ⟨p, o + 3, none⟩ = some (.slice AB x.b.length cB) ∧ x.b.length ≤ cB ∧ cB ≤ maxLen ∧ Bs w AB x.b) ∧ (∃ AK nK cK, w.cell? ⟨p, o + 4, none⟩ = some (.slice AK nK cK) ∧ ArgK w AK nK cK x.k ∧ nK ≤ 140737488351232)
def Dss (w : World) (A : Option Addr) (l : List DoL) : Prop := l ≠ [] → ∃ b off, A = some ⟨b, off, none⟩ ∧ b < w.heap.size ∧ ∀ j (hj : j < l.length), DoAt w b (off + j * 5) l[j]
def ArgDo (w : World) (A : Option Addr) (n c : Nat) (l : List DoL) : Prop := l.length = n ∧ n ≤ c ∧ c ≤ maxLen ∧ Dss w A l
theorem ArgDo.at_ {w : World} {A : Option Addr} {n c : Nat} {l : List DoL} (h : ArgDo w A n c l) {j : Nat} (hj : j < l.length) : ∃ b off, A = some ⟨b, off, none⟩ ∧ b < w.heap.size ∧ DoAt w b (off + j * 5) l[j] := by
  obtain ⟨b, off, e, hlt, hd⟩ := h.2.2.2 (fun e => by rw [e] at hj; simp at hj)
  exact ⟨b, off, e, hlt, hd j hj⟩

theorem row_bytes {w : World} {Ar : Option Addr} {Lr Cr : Nat} {Zr : List Int} (hl : Lr ≤ Cr) (hz : Zr.length = Cr) (hw : ∀ n ∈ Zr, (Lit.int .u8 n).wf = true)
    (hc : ∀ a', Ar = some a' → ∀ c, c < Cr → w.cell? (a'.add c) = some (.int .u8 (Zr.getD c 0))) (hn : Ar = none → Cr = 0) : ∃ l : List UInt8, l.length = Lr ∧ Bs w Ar l := by
  refine ⟨(Zr.take Lr).map fun z => UInt8.ofNat z.toNat, by simp; omega, ?_⟩
  refine ⟨by simp [cbs], fun hpos => ?_⟩
  have hpos' : 0 < Lr := by simp at hpos; omega
  cases Ar with
  | none => have := hn rfl; omega
  | some x =>
    have h0 := hc x rfl 0 (by omega)
    have hsp : x.spot = none := by
      have := World.cell?_spot h0
      unfold Addr.add at this
      simpa using this
    obtain ⟨b, off, spot⟩ := x
    simp only at hsp
    subst hsp
    refine ⟨b, off, rfl, ?_, ?_⟩
    · have := World.block_lt_of_cell? w _ h0
      rw [add_mk] at this
      exact this
    · intro j u hu
      simp only [cbs, List.map_map, List.getElem?_map, Option.map_eq_some_iff] at hu
      obtain ⟨z, hz1, rfl⟩ := hu
      have hj : j < Lr ∧ j < Zr.length := by
        rcases Nat.lt_or_ge j (Zr.take Lr).length with h | h
        · simp at h; omega
        · rw [List.getElem?_eq_none h] at hz1; cases hz1
      have hzz : Zr[j]? = some z := by rw [List.getElem?_take, if_pos hj.1] at hz1; exact hz1
      have hcj := hc _ rfl j (by omega)
      rw [add_mk] at hcj
      rw [hcj]
      have hmem : z ∈ Zr := List.mem_of_getElem? hzz
      have hg : Zr.getD j 0 = z := by simp [List.getD, hzz]
      rw [hg]
      show _ = some (Value.int .u8 _)
      rw [← wf_u8 (hw z hmem)]

section
variable {H : Type} {enc : TypeId × Value → H} {w : World}
theorem all_memD {P : Program} {e : TypeId} {d : DataW H} {z : Nat} : ∀ (ds : List (DataW H)), d ∈ ds → z ∈ d.weights P e → z ∈ DataW.weightsAll P e ds
  | [], h, _ => by simp at h
  | x :: ds, h, hz => by
    rw [DataW.weightsAll, List.mem_append]
    rcases List.mem_cons.1 h with rfl | h
    · exact .inl hz
    · exact .inr (all_memD ds h hz)
theorem trodB {fuel : Nat} {cs : List Value} {x : DataW H × List MemPlace} (h : DataW.trod enc Try.prog w 0 (fun _ => true) true fuel 23 cs = some x) : ∃ (A : Option Addr) (c : Nat) (l : List UInt8), cs = [.slice A l.length c] ∧ l.length ≤ c ∧ c ≤ maxLen ∧ Bs w A l := by
  rcases open_ints Try.underlying23 Try.underlying5 (by kernel_rfl) h with ⟨rfl, _⟩ | ⟨a, n, c, zs, rfl, _, hl, hm, hz, hx, hcell, hw⟩
  · exact ⟨none, 0, [], rfl, Nat.le_refl _, by simp [maxLen], Bs.nil _ _⟩
  · simp only [if_true] at hz
    obtain ⟨l, hl1, hl2⟩ := row_bytes (w := w) (Ar := some a) (Lr := n) (Cr := c) (Zr := zs) hl hz hw (fun a' e k hk => by cases e; exact hcell k (by rw [hz]; exact hk)) (fun e => by cases e)
    exact ⟨some a, c, l, by rw [hl1], by omega, hm, hl2⟩
theorem trodK_sized {fuel : Nat} {cs : List Value} {x : DataW H × List MemPlace} {A : Option Addr} {n c : Nat} (h : DataW.trod enc Try.prog w 0 (fun _ => true) true fuel 38 cs = some x) (hcs : cs = [.slice A n c])
    (hz : ∀ z ∈ x.1.weights Try.prog 38, z ≤ reachBytes) : n ≤ 140737488351232 := by
  have hb : Try.prog.bytesOf 4 = 1 := by kernel_rfl
  rcases Go.Deep.open_slice Try.underlying38 h with ⟨rfl, _⟩ | ⟨a, n', c', m, k, D, Pl, rfl, _, hl, hm, hmm, hxd, hi⟩
  · injection hcs with e
    injection e with _ e _
    omega
  · injection hcs with e
    injection e with _ e _
    rw [hxd] at hz
    simp only [DataW.weights, Try.underlying38, List.mem_cons] at hz
    have h1 := hz _ (.inl rfl)
    rw [hb] at h1
    simp only [List.length_map, List.length_range] at h1
    simp [reachBytes] at h1
    omega
theorem trod_do {fuel : Nat} {cs : List Value} {x : DataW H × List MemPlace} (h : DataW.trod enc Try.prog w 0 (fun _ => true) true fuel 43 cs = some x) (hz : ∀ z ∈ x.1.weights Try.prog 43, z ≤ reachBytes) :
    ∃ d : DoL, Wf d.kind ∧ Wf d.a ∧ Wf d.bit ∧ cs[0]? = some (.int .i64 d.kind) ∧ cs[1]? = some (.int .i64 d.a) ∧ cs[2]? = some (.int .i64 d.bit) ∧
      (∃ AB cB, cs[3]? = some (.slice AB d.b.length cB) ∧ d.b.length ≤ cB ∧ cB ≤ maxLen ∧ Bs w AB d.b) ∧ (∃ AK nK cK, cs[4]? = some (.slice AK nK cK) ∧ ArgK w AK nK cK d.k ∧ nK ≤ 140737488351232) := by
  obtain ⟨xs, n, _, hxe, _, hlen, hg⟩ := DataW.trod_struct Try.underlying43 h
  have c1 : Try.prog.cellsOf 3 = 1 := by kernel_rfl
  have c2 : Try.prog.cellsOf 23 = 1 := by kernel_rfl
  have c3 : Try.prog.cellsOf 38 = 1 := by kernel_rfl
  have g0 : DataW.trod enc Try.prog w 0 (fun _ => true) true n 3 ((cs.drop 0).take (Try.prog.cellsOf 3)) = xs[0]? := hg 0 _ rfl
  have g1 : DataW.trod enc Try.prog w 0 (fun _ => true) true n 3 ((cs.drop 1).take (Try.prog.cellsOf 3)) = xs[1]? := hg 1 _ rfl
  have g2 : DataW.trod enc Try.prog w 0 (fun _ => true) true n 3 ((cs.drop 2).take (Try.prog.cellsOf 3)) = xs[2]? := hg 2 _ rfl
  have g3 : DataW.trod enc Try.prog w 0 (fun _ => true) true n 23 ((cs.drop 3).take (Try.prog.cellsOf 23)) = xs[3]? := hg 3 _ rfl
  have g4 : DataW.trod enc Try.prog w 0 (fun _ => true) true n 38 ((cs.drop 4).take (Try.prog.cellsOf 38)) = xs[4]? := hg 4 _ rfl
  rw [c1] at g0 g1 g2
  rw [c2] at g3
  rw [c3] at g4
  have hl5 : xs.length = 5 := hlen
  have e : ∀ i, i < 5 → ∃ y, xs[i]? = some y := fun i hi => ⟨_, List.getElem?_eq_getElem (by omega)⟩
  obtain ⟨y0, e0⟩ := e 0 (by omega)
  obtain ⟨y1, e1⟩ := e 1 (by omega)
  obtain ⟨y2, e2⟩ := e 2 (by omega)
  obtain ⟨y3, e3⟩ := e 3 (by omega)
  obtain ⟨y4, e4⟩ := e 4 (by omega)
  rw [e0] at g0; rw [e1] at g1; rw [e2] at g2; rw [e3] at g3; rw [e4] at g4
  obtain ⟨a0, q0, _, w0⟩ := DataW.trod_int Try.underlying3 g0
  obtain ⟨a1, q1, _, w1⟩ := DataW.trod_int Try.underlying3 g1
  obtain ⟨a2, q2, _, w2⟩ := DataW.trod_int Try.underlying3 g2
  obtain ⟨AB, cB, b, q3, hb1, hb2, hb3⟩ := trodB g3
  obtain ⟨AK, nK, cK, k, q4, hk⟩ := trodK g4
  exact ⟨⟨a0, a1, a2, b, k⟩, w0, w1, w2, one_of q0, one_of q1, one_of q2, ⟨AB, cB, one_of q3, hb1, hb2, hb3⟩, ⟨AK, nK, cK, one_of q4, hk, trodK_sized g4 q4 fun z hzz => hz z (by
    rw [hxe]
    have hxs : xs = [y0, y1, y2, y3, y4] := by
      apply List.ext_getElem?
      intro i
      match i with
      | 0 => exact e0
      | 1 => exact e1
      | 2 => exact e2
      | 3 => exact e3
      | 4 => exact e4
      | i + 5 => rw [List.getElem?_eq_none (by omega), List.getElem?_eq_none (by simp)]
    rw [hxs]
    simp only [List.map_cons, List.map_nil, DataW.weights, Try.underlying43, DataW.weightsEach, List.mem_append]
    exact .inr (.inr (.inr (.inr (.inl hzz)))))⟩⟩
theorem openDo {A : Option Addr} {n c : Nat} {d : DataW H} {p : List MemPlace} (h : DataW.Trod enc Try.prog w 0 (fun _ => true) true 44 (.slice A n c) d p) (hz : ∀ z ∈ d.weights Try.prog 44, z ≤ reachBytes) : ∃ l, ArgDo w A n c l := by
  obtain ⟨fuel, hf⟩ := h
  have hC : Try.prog.cellsOf 43 = 5 := by kernel_rfl
  rcases Go.Deep.open_slice Try.underlying44 hf with ⟨hcs, _⟩ | ⟨a, len, cap, m, k, D, Pl, hcs, _, hl, hm, hmm, hxd, hi⟩
  · simp [Value.cells] at hcs
    obtain ⟨rfl, rfl, rfl⟩ := hcs
    exact ⟨[], rfl, Nat.le_refl _, by simp [maxLen], fun hn => absurd rfl hn⟩
  · simp [Value.cells] at hcs
    obtain ⟨rfl, rfl, rfl⟩ := hcs
    rw [hC] at hi
    have hm' : n ≤ m := by rw [hmm]; simp; omega
    have hD : ∀ r, r < n → ∀ z ∈ (D r).weights Try.prog 43, z ≤ reachBytes := fun r hr z hzz => hz z (by
      injection hxd with hxd _
      rw [hxd]
      simp only [DataW.weights, Try.underlying44, List.mem_cons, List.mem_append]
      exact .inr (.inl (all_memD _ (List.mem_map.2 ⟨r, List.mem_range.2 hr, rfl⟩) hzz)))
    rcases Nat.eq_zero_or_pos n with h0 | hpos
    · subst h0
      exact ⟨[], rfl, hl, hm, fun hn => absurd rfl hn⟩
    have hs : a.spot = none := by
      obtain ⟨cs', hc, ht⟩ := hi 0 (by omega)
      obtain ⟨x, _, _, _, k0, _⟩ := trod_do ht (hD _ (by omega))
      obtain ⟨_, _, hat⟩ := World.cells?_some hc
      have h1 := hat 0 (by omega)
      rw [k0] at h1
      have e : a.add (0 * 5) = a := by unfold Addr.add; simp
      rw [e] at h1
      exact spot_of h1
    obtain ⟨b, off, spot⟩ := a
    simp only at hs
    subst hs
    have key : ∀ r, r < n → ∃ x : DoL, DoAt w b (off + r * 5) x := fun r hr => by
      obtain ⟨cs', hc, ht⟩ := hi r (by omega)
      obtain ⟨x, h0, h1, h2, k0, k1, k2, ⟨AB, cB, k3, r1, r2, r3⟩, ⟨AK, nK, cK, k4, r4, r5⟩⟩ := trod_do ht (hD _ (by omega))
      obtain ⟨_, _, hat⟩ := World.cells?_some hc
      have hat' : ∀ j, j < 5 → w.cell? ⟨b, off + r * 5 + j, none⟩ = cs'[j]? := fun j hj => by
        have := hat j hj
        rw [add_mk, add_mk] at this
        exact this
      exact ⟨x, h0, h1, h2, (hat' 0 (by omega)).trans k0, (hat' 1 (by omega)).trans k1, (hat' 2 (by omega)).trans k2, ⟨AB, cB, (hat' 3 (by omega)).trans k3, r1, r2, r3⟩, ⟨AK, nK, cK, (hat' 4 (by omega)).trans k4, r4, r5⟩⟩
    obtain ⟨ls, hlen, hls⟩ := choose_list n key
    refine ⟨ls, hlen, hl, hm, fun hne => ⟨b, off, rfl, ?_, fun j hj => hls j hj⟩⟩
    have h0 := hls 0 (by omega)
    exact World.block_lt_of_cell? w _ h0.2.2.2.1
end
end Go.Proofs.Ytmcbjcopipafdaa
