/-
  A list of deeds that came in, with the bound on each deed's readers that the row's reach gives.
-/
import Derived.Test.YtkmijmlcijbbcaaDeeds
namespace Go.Proofs.Ytkmijmlcijbbcaa
open Go.ChangeShapes Go.WideShapes Go.ChangeAt Go.RowKit
set_option linter.unusedVariables false

section
variable {H : Type} {enc : TypeId × Value → H} {w : World}
theorem all_mem {P : Program} {e : TypeId} {d : DataW H} {z : Nat} : ∀ (ds : List (DataW H)), d ∈ ds → z ∈ d.weights P e → z ∈ DataW.weightsAll P e ds
  | [], h, _ => by simp at h
  | x :: ds, h, hz => by
    rw [DataW.weightsAll, List.mem_append]
    rcases List.mem_cons.1 h with rfl | h
    · exact .inl hz
    · exact .inr (all_mem ds h hz)
theorem trodI_sized {fuel : Nat} {cs : List Value} {x : DataW H × List MemPlace} {A : Option Addr} {n c : Nat} {l : List Int} (h : DataW.trod enc Try.prog w 0 (fun _ => true) true fuel 30 cs = some x) (hcs : cs = [.slice A n c]) (ha : ArgI w A n c l)
    (hz : ∀ z ∈ x.1.weights Try.prog 30, z ≤ reachBytes) : l.length ≤ 17592186043904 := by
  have hb : Try.prog.bytesOf 3 = 8 := by kernel_rfl
  rcases open_ints Try.underlying30 Try.underlying3 (by kernel_rfl) h with ⟨rfl, _⟩ | ⟨a, n', c', zs, rfl, _, hl, hm, hzl, hx, _⟩
  · injection hcs with e
    injection e with _ e _
    rw [ha.1]; omega
  · injection hcs with e
    injection e with _ e1 e2
    rw [hx] at hz
    simp only [DataW.weights, Try.underlying30, List.mem_cons] at hz
    have h1 := hz _ (.inl rfl)
    rw [hb] at h1
    have hz' : zs.length = c' := by simpa using hzl
    simp only [lits, List.length_map, List.length_take, List.length_drop] at h1
    have := ha.1
    simp [reachBytes] at h1
    omega
theorem trod_deedz {fuel : Nat} {cs : List Value} {x : DataW H × List MemPlace} (h : DataW.trod enc Try.prog w 0 (fun _ => true) true fuel 32 cs = some x) (hz : ∀ z ∈ x.1.weights Try.prog 32, z ≤ reachBytes) :
    ∃ (d : DeedL) (A : Option Addr) (n c : Nat), d.wf ∧ cs[0]? = some (.int .i64 d.kind) ∧ cs[1]? = some (.int .i64 d.frm) ∧ cs[2]? = some (.int .i64 d.to_) ∧ cs[3]? = some (.slice A n c) ∧ ArgI w A n c d.rs ∧
      cs[4]? = some (cb d.d) ∧ cs[5]? = some (.int .i64 d.askF) ∧ cs[6]? = some (.int .i64 d.askT) ∧ d.rs.length ≤ 17592186043904 := by
  obtain ⟨xs, n, _, hxe, _, hlen, hg⟩ := DataW.trod_struct Try.underlying32 h
  have c1 : Try.prog.cellsOf 3 = 1 := by kernel_rfl
  have c2 : Try.prog.cellsOf 30 = 1 := by kernel_rfl
  have c3 : Try.prog.cellsOf 5 = 1 := by kernel_rfl
  have g0 : DataW.trod enc Try.prog w 0 (fun _ => true) true n 3 ((cs.drop 0).take (Try.prog.cellsOf 3)) = xs[0]? := hg 0 _ rfl
  have g1 : DataW.trod enc Try.prog w 0 (fun _ => true) true n 3 ((cs.drop 1).take (Try.prog.cellsOf 3)) = xs[1]? := hg 1 _ rfl
  have g2 : DataW.trod enc Try.prog w 0 (fun _ => true) true n 3 ((cs.drop 2).take (Try.prog.cellsOf 3)) = xs[2]? := hg 2 _ rfl
  have g3 : DataW.trod enc Try.prog w 0 (fun _ => true) true n 30 ((cs.drop 3).take (Try.prog.cellsOf 30)) = xs[3]? := hg 3 _ rfl
  have g4 : DataW.trod enc Try.prog w 0 (fun _ => true) true n 5 ((cs.drop 4).take (Try.prog.cellsOf 5)) = xs[4]? := hg 4 _ rfl
  have g5 : DataW.trod enc Try.prog w 0 (fun _ => true) true n 3 ((cs.drop 5).take (Try.prog.cellsOf 3)) = xs[5]? := hg 5 _ rfl
  have g6 : DataW.trod enc Try.prog w 0 (fun _ => true) true n 3 ((cs.drop 6).take (Try.prog.cellsOf 3)) = xs[6]? := hg 6 _ rfl
  rw [c1] at g0 g1 g2 g5 g6
  rw [c2] at g3
  rw [c3] at g4
  have hl7 : xs.length = 7 := hlen
  have e : ∀ i, i < 7 → ∃ y, xs[i]? = some y := fun i hi => ⟨_, List.getElem?_eq_getElem (by omega)⟩
  obtain ⟨y0, e0⟩ := e 0 (by omega)
  obtain ⟨y1, e1⟩ := e 1 (by omega)
  obtain ⟨y2, e2⟩ := e 2 (by omega)
  obtain ⟨y3, e3⟩ := e 3 (by omega)
  obtain ⟨y4, e4⟩ := e 4 (by omega)
  obtain ⟨y5, e5⟩ := e 5 (by omega)
  obtain ⟨y6, e6⟩ := e 6 (by omega)
  rw [e0] at g0; rw [e1] at g1; rw [e2] at g2; rw [e3] at g3; rw [e4] at g4; rw [e5] at g5; rw [e6] at g6
  obtain ⟨a0, q0, _, w0⟩ := DataW.trod_int Try.underlying3 g0
  obtain ⟨a1, q1, _, w1⟩ := DataW.trod_int Try.underlying3 g1
  obtain ⟨a2, q2, _, w2⟩ := DataW.trod_int Try.underlying3 g2
  obtain ⟨A, m, c, rs, q3, ha⟩ := trodI g3
  obtain ⟨a4, q4, _, w4⟩ := DataW.trod_int Try.underlying5 g4
  obtain ⟨a5, q5, _, w5⟩ := DataW.trod_int Try.underlying3 g5
  obtain ⟨a6, q6, _, w6⟩ := DataW.trod_int Try.underlying3 g6
  refine ⟨⟨a0, a1, a2, rs, UInt8.ofNat a4.toNat, a5, a6⟩, A, m, c, ⟨w0, w1, w2, w5, w6⟩, one_of q0, one_of q1, one_of q2, one_of q3, ha, ?_, one_of q5, one_of q6, ?_⟩
  rotate_left
  · refine trodI_sized g3 q3 ha fun z hzz => hz z ?_
    rw [hxe]
    have hxs : xs = [y0, y1, y2, y3, y4, y5, y6] := by
      apply List.ext_getElem?
      intro i
      match i with
      | 0 => exact e0
      | 1 => exact e1
      | 2 => exact e2
      | 3 => exact e3
      | 4 => exact e4
      | 5 => exact e5
      | 6 => exact e6
      | i + 7 => rw [List.getElem?_eq_none (by omega), List.getElem?_eq_none (by simp)]
    rw [hxs]
    simp only [List.map_cons, List.map_nil, DataW.weights, Try.underlying32, DataW.weightsEach, List.mem_append]
    exact .inr (.inr (.inr (.inl hzz)))
  rw [one_of q4]
  unfold cb
  have hb := bounds_u8 w4
  congr 2
  simp only
  rw [UInt8.toNat_ofNat', Nat.mod_eq_of_lt (by omega)]
  omega

theorem openDz {A : Option Addr} {n c : Nat} {d : DataW H} {p : List MemPlace} (h : DataW.Trod enc Try.prog w 0 (fun _ => true) true 22 (.slice A n c) d p) (hz : ∀ z ∈ d.weights Try.prog 22, z ≤ reachBytes) : ∃ l, ArgD w A n c l ∧ ∀ x ∈ l, x.rs.length ≤ 17592186043904 := by
  obtain ⟨fuel, hf⟩ := h
  have hC : Try.prog.cellsOf 32 = 7 := by kernel_rfl
  rcases Go.Deep.open_slice Try.underlying22 hf with ⟨hcs, _⟩ | ⟨a, len, cap, m, k, D, Pl, hcs, _, hl, hm, hmm, hxd, hi⟩
  · simp [Value.cells] at hcs
    obtain ⟨rfl, rfl, rfl⟩ := hcs
    exact ⟨[], ⟨rfl, Nat.le_refl _, by simp [maxLen], fun hn => absurd rfl hn⟩, fun x hx => by simp at hx⟩
  · simp [Value.cells] at hcs
    obtain ⟨rfl, rfl, rfl⟩ := hcs
    rw [hC] at hi
    have hm' : n ≤ m := by rw [hmm]; simp; omega
    have hD : ∀ r, r < n → ∀ z ∈ (D r).weights Try.prog 32, z ≤ reachBytes := fun r hr z hzz => hz z (by
      injection hxd with hxd _
      rw [hxd]
      simp only [DataW.weights, Try.underlying22, List.mem_cons, List.mem_append]
      exact .inr (.inl (all_mem _ (List.mem_map.2 ⟨r, List.mem_range.2 hr, rfl⟩) hzz)))
    rcases Nat.eq_zero_or_pos n with h0 | hpos
    · subst h0
      exact ⟨[], ⟨rfl, hl, hm, fun hn => absurd rfl hn⟩, fun x hx => by simp at hx⟩
    have hs : a.spot = none := by
      obtain ⟨cs', hc, ht⟩ := hi 0 (by omega)
      obtain ⟨x, A', n', c', _, k0, _⟩ := trod_deedz ht (hD _ (by omega))
      obtain ⟨_, _, hat⟩ := World.cells?_some hc
      have h1 := hat 0 (by omega)
      rw [k0] at h1
      have e : a.add (0 * 7) = a := by unfold Addr.add; simp
      rw [e] at h1
      exact spot_of h1
    obtain ⟨b, off, spot⟩ := a
    simp only at hs
    subst hs
    have key : ∀ r, r < n → ∃ x : DeedL, DeedAt w b (off + r * 7) x ∧ x.rs.length ≤ 17592186043904 := fun r hr => by
      obtain ⟨cs', hc, ht⟩ := hi r (by omega)
      obtain ⟨x, A', n', c', h0, k0, k1, k2, k3, ha, k4, k5, k6, k7⟩ := trod_deedz ht (hD _ (by omega))
      obtain ⟨_, _, hat⟩ := World.cells?_some hc
      have hat' : ∀ j, j < 7 → w.cell? ⟨b, off + r * 7 + j, none⟩ = cs'[j]? := fun j hj => by
        have := hat j hj
        rw [add_mk, add_mk] at this
        exact this
      exact ⟨x, ⟨h0, (hat' 0 (by omega)).trans k0, (hat' 1 (by omega)).trans k1, (hat' 2 (by omega)).trans k2, ⟨A', n', c', (hat' 3 (by omega)).trans k3, ha⟩, (hat' 4 (by omega)).trans k4, (hat' 5 (by omega)).trans k5, (hat' 6 (by omega)).trans k6⟩, k7⟩
    obtain ⟨ls, hlen, hls⟩ := choose_deeds n key
    refine ⟨ls, ⟨hlen, hl, hm, fun hne => ⟨b, off, rfl, ?_, fun j hj => (hls j hj).1⟩⟩, fun x hx => ?_⟩
    · have h0 := (hls 0 (by omega)).1
      exact World.block_lt_of_cell? w _ h0.2.1
    · obtain ⟨j, hj, rfl⟩ := List.getElem_of_mem hx
      exact (hls j hj).2
end
end Go.Proofs.Ytkmijmlcijbbcaa
