/-
  Laid together for a hand-in: Wa11.
-/
import Derived.Test.YtihmddpafbackaaZ07
import Derived.ProofKit
import Derived.OpenShut
import Derived.ShutString
import Derived.ChangeOld
import Derived.SizedLaws
import Derived.Deep.Slices

namespace Go.Proofs.Ytihmddpafbackaa

open Go.ChangeShapes Go.WideShapes Go.ChangeAt Go.RowKit

set_option linter.unusedVariables false

theorem choose_any {α : Type} {P : Nat → α → Prop} : ∀ n, (∀ r, r < n → ∃ l, P r l) → ∃ ls : List α, ls.length = n ∧ ∀ j (hj : j < ls.length), P j ls[j]
  | 0, _ => ⟨[], rfl, fun j hj => by simp at hj⟩
  | n + 1, h => by
    obtain ⟨ls, hl, hls⟩ := choose_any n (fun r hr => h r (by omega))
    obtain ⟨l, hl'⟩ := h n (by omega)
    refine ⟨ls ++ [l], by simp [hl], fun j hj => ?_⟩
    by_cases hjn : j < ls.length
    · rw [List.getElem_append_left hjn]; exact hls j hjn
    · have : j = n := by simp at hj; omega
      subst this
      rw [List.getElem_append_right (by omega)]
      simpa [hl] using hl'

theorem one_of {cs : List Value} {i : Nat} {v : Value} (h : (cs.drop i).take 1 = [v]) : cs[i]? = some v := by
  have : ((cs.drop i).take 1)[0]? = some v := by rw [h]; rfl
  rw [List.getElem?_take, if_pos (by omega), List.getElem?_drop] at this
  simpa using this

theorem all_mem {H : Type} {P : Program} {e : TypeId} {d : DataW H} {z : Nat} : ∀ (ds : List (DataW H)), d ∈ ds → z ∈ d.weights P e → z ∈ DataW.weightsAll P e ds
  | [], h, _ => by simp at h
  | x :: ds, h, hz => by
    rw [DataW.weightsAll, List.mem_append]
    rcases List.mem_cons.1 h with rfl | h
    · exact .inl hz
    · exact .inr (all_mem ds h hz)

section

variable {H : Type} {enc : TypeId × Value → H} {w : World}

set_option maxRecDepth 100000 in
theorem trodBz {fuel : Nat} {cs : List Value} {x : DataW H × List MemPlace} (h : DataW.trod enc Try.prog w 0 (fun _ => true) true fuel 22 cs = some x) (hw : ∀ z ∈ x.1.weights Try.prog 22, z ≤ reachBytes) :
    ∃ (A : Option Addr) (n c : Nat) (l : List UInt8), cs = [.slice A n c] ∧ l.length = n ∧ n ≤ c ∧ c ≤ maxLen ∧ Bs w A l ∧ n ≤ 140737488351232 := by
  have hb : Try.prog.bytesOf 5 = 1 := by kernel_rfl
  rcases open_ints Try.underlying22 Try.underlying5 (by kernel_rfl) h with ⟨rfl, _⟩ | ⟨a, n, c, zs, rfl, _, hl, hm, hz, hx, hcell, hwz⟩
  · exact ⟨none, 0, 0, [], rfl, rfl, Nat.le_refl _, by simp [maxLen], Bs.nil _ _, by omega⟩
  · have hz' : zs.length = c := by simpa using hz
    rw [hx] at hw
    simp only [DataW.weights, Try.underlying22, List.mem_cons] at hw
    have h1 := hw _ (.inl rfl)
    rw [hb] at h1
    simp only [lits, List.length_map, List.length_take, List.length_drop] at h1
    simp [reachBytes] at h1
    refine ⟨some a, n, c, (zs.take n).map fun z => UInt8.ofNat z.toNat, rfl, by simp; omega, hl, hm, ?_, by omega⟩
    refine ⟨by simp [cbs], fun hn => ?_⟩
    simp at hn
    have hsp := spot_of (hcell 0 (by omega))
    obtain ⟨b, off, spot⟩ := a
    simp only at hsp
    subst hsp
    refine ⟨b, off, rfl, ?_, ?_⟩
    · have := World.block_lt_of_cell? w _ (hcell 0 (by omega))
      rw [add_mk] at this
      exact this
    · intro j u hu
      simp only [cbs, List.map_map, List.getElem?_map, Option.map_eq_some_iff] at hu
      obtain ⟨z, hz1, rfl⟩ := hu
      have hj : j < n ∧ j < zs.length := by
        rcases Nat.lt_or_ge j (zs.take n).length with h | h
        · simp at h; omega
        · rw [List.getElem?_eq_none h] at hz1; cases hz1
      have hzz : zs[j]? = some z := by rw [List.getElem?_take, if_pos hj.1] at hz1; exact hz1
      have hcj := hcell j hj.2
      rw [add_mk] at hcj
      rw [hcj]
      have hmem : z ∈ zs := List.mem_of_getElem? hzz
      have hg : zs.getD j 0 = z := by simp [List.getD, hzz]
      rw [hg]
      show _ = some (Value.int .u8 _)
      rw [← wf_u8 (hwz z hmem)]

set_option maxRecDepth 100000 in
theorem trodI_sized {fuel : Nat} {cs : List Value} {x : DataW H × List MemPlace} {A : Option Addr} {n c : Nat} {l : List Int} (h : DataW.trod enc Try.prog w 0 (fun _ => true) true fuel 23 cs = some x) (hcs : cs = [.slice A n c]) (ha : ArgI w A n c l)
    (hz : ∀ z ∈ x.1.weights Try.prog 23, z ≤ reachBytes) : l.length ≤ 17592186043904 := by
  have hb : Try.prog.bytesOf 3 = 8 := by kernel_rfl
  rcases open_ints Try.underlying23 Try.underlying3 (by kernel_rfl) h with ⟨rfl, _⟩ | ⟨a, n', c', zs, rfl, _, hl, hm, hzl, hx, _⟩
  · injection hcs with e
    injection e with _ e _
    rw [ha.1]; omega
  · injection hcs with e
    injection e with _ e1 e2
    rw [hx] at hz
    simp only [DataW.weights, Try.underlying23, List.mem_cons] at hz
    have h1 := hz _ (.inl rfl)
    rw [hb] at h1
    have hz' : zs.length = c' := by simpa using hzl
    simp only [lits, List.length_map, List.length_take, List.length_drop] at h1
    have := ha.1
    simp [reachBytes] at h1
    omega

set_option maxRecDepth 100000 in
set_option maxHeartbeats 1600000 in
theorem trod_wish {fuel : Nat} {cs : List Value} {x : DataW H × List MemPlace} (h : DataW.trod enc Try.prog w 0 (fun _ => true) true fuel 25 cs = some x) (hz : ∀ z ∈ x.1.weights Try.prog 25, z ≤ reachBytes) :
    ∃ y : WH, (∀ i, i < 10 → cs[i]? = (whc y)[i]?) ∧ ArgW w y.x y.D y.nd y.cd y.N y.nn y.cn := by
  obtain ⟨xs, n, _, hxe, _, hlen, hg⟩ := DataW.trod_struct Try.underlying25 h
  have c1 : Try.prog.cellsOf 3 = 1 := by kernel_rfl
  have c2 : Try.prog.cellsOf 22 = 1 := by kernel_rfl
  have c3 : Try.prog.cellsOf 23 = 1 := by kernel_rfl
  have g0 : DataW.trod enc Try.prog w 0 (fun _ => true) true n 3 ((cs.drop 0).take (Try.prog.cellsOf 3)) = xs[0]? := hg 0 _ rfl
  rw [c1] at g0
  have g1 : DataW.trod enc Try.prog w 0 (fun _ => true) true n 3 ((cs.drop 1).take (Try.prog.cellsOf 3)) = xs[1]? := hg 1 _ rfl
  rw [c1] at g1
  have g2 : DataW.trod enc Try.prog w 0 (fun _ => true) true n 3 ((cs.drop 2).take (Try.prog.cellsOf 3)) = xs[2]? := hg 2 _ rfl
  rw [c1] at g2
  have g3 : DataW.trod enc Try.prog w 0 (fun _ => true) true n 3 ((cs.drop 3).take (Try.prog.cellsOf 3)) = xs[3]? := hg 3 _ rfl
  rw [c1] at g3
  have g4 : DataW.trod enc Try.prog w 0 (fun _ => true) true n 3 ((cs.drop 4).take (Try.prog.cellsOf 3)) = xs[4]? := hg 4 _ rfl
  rw [c1] at g4
  have g5 : DataW.trod enc Try.prog w 0 (fun _ => true) true n 3 ((cs.drop 5).take (Try.prog.cellsOf 3)) = xs[5]? := hg 5 _ rfl
  rw [c1] at g5
  have g6 : DataW.trod enc Try.prog w 0 (fun _ => true) true n 22 ((cs.drop 6).take (Try.prog.cellsOf 22)) = xs[6]? := hg 6 _ rfl
  rw [c2] at g6
  have g7 : DataW.trod enc Try.prog w 0 (fun _ => true) true n 3 ((cs.drop 7).take (Try.prog.cellsOf 3)) = xs[7]? := hg 7 _ rfl
  rw [c1] at g7
  have g8 : DataW.trod enc Try.prog w 0 (fun _ => true) true n 3 ((cs.drop 8).take (Try.prog.cellsOf 3)) = xs[8]? := hg 8 _ rfl
  rw [c1] at g8
  have g9 : DataW.trod enc Try.prog w 0 (fun _ => true) true n 23 ((cs.drop 9).take (Try.prog.cellsOf 23)) = xs[9]? := hg 9 _ rfl
  rw [c3] at g9
  have hl10 : xs.length = 10 := hlen
  have e : ∀ i, i < 10 → ∃ y, xs[i]? = some y := fun i hi => ⟨_, List.getElem?_eq_getElem (by omega)⟩
  obtain ⟨y0, e0⟩ := e 0 (by omega)
  rw [e0] at g0
  obtain ⟨y1, e1⟩ := e 1 (by omega)
  rw [e1] at g1
  obtain ⟨y2, e2⟩ := e 2 (by omega)
  rw [e2] at g2
  obtain ⟨y3, e3⟩ := e 3 (by omega)
  rw [e3] at g3
  obtain ⟨y4, e4⟩ := e 4 (by omega)
  rw [e4] at g4
  obtain ⟨y5, e5⟩ := e 5 (by omega)
  rw [e5] at g5
  obtain ⟨y6, e6⟩ := e 6 (by omega)
  rw [e6] at g6
  obtain ⟨y7, e7⟩ := e 7 (by omega)
  rw [e7] at g7
  obtain ⟨y8, e8⟩ := e 8 (by omega)
  rw [e8] at g8
  obtain ⟨y9, e9⟩ := e 9 (by omega)
  rw [e9] at g9
  have hxs : xs = [y0, y1, y2, y3, y4, y5, y6, y7, y8, y9] := by
    apply List.ext_getElem?
    intro i
    match i with
    | 0 => exact e0
    | 1 => exact e1
    | 2 => exact e2
    | 3 => exact e3
    | 4 => exact e4
    | 5 => exact e5
    | 6 => exact e6
    | 7 => exact e7
    | 8 => exact e8
    | 9 => exact e9
    | i + 10 => rw [List.getElem?_eq_none (by omega), List.getElem?_eq_none (by simp)]
  have hz6 : ∀ z ∈ y6.1.weights Try.prog 22, z ≤ reachBytes := fun z hzz => hz z (by
    rw [hxe, hxs]
    simp only [List.map_cons, List.map_nil, DataW.weights, Try.underlying25, DataW.weightsEach, List.mem_append]
    exact .inr (.inr (.inr (.inr (.inr (.inr (.inl hzz)))))))
  have hz9 : ∀ z ∈ y9.1.weights Try.prog 23, z ≤ reachBytes := fun z hzz => hz z (by
    rw [hxe, hxs]
    simp only [List.map_cons, List.map_nil, DataW.weights, Try.underlying25, DataW.weightsEach, List.mem_append]
    exact .inr (.inr (.inr (.inr (.inr (.inr (.inr (.inr (.inr (.inl hzz))))))))))
  obtain ⟨a0, q0, _, w0⟩ := DataW.trod_int Try.underlying3 g0
  obtain ⟨a1, q1, _, w1⟩ := DataW.trod_int Try.underlying3 g1
  obtain ⟨a2, q2, _, w2⟩ := DataW.trod_int Try.underlying3 g2
  obtain ⟨a3, q3, _, w3⟩ := DataW.trod_int Try.underlying3 g3
  obtain ⟨a4, q4, _, w4⟩ := DataW.trod_int Try.underlying3 g4
  obtain ⟨a5, q5, _, w5⟩ := DataW.trod_int Try.underlying3 g5
  obtain ⟨D, nd, cd, da, q6, hd1, hd2, hd3, hd4, hd5⟩ := trodBz g6 hz6
  obtain ⟨a7, q7, _, w7⟩ := DataW.trod_int Try.underlying3 g7
  obtain ⟨a8, q8, _, w8⟩ := DataW.trod_int Try.underlying3 g8
  obtain ⟨N, nn, cn, nx, q9, hnx⟩ := trodI g9
  refine ⟨⟨⟨a0, a1, a2, a3, a4, a5, da, a7, a8, nx⟩, D, nd, cd, N, nn, cn⟩, fun i hi => ?_, ⟨hd1, hd2, hd3, hd4, hd5⟩, ⟨hnx, by rw [← hnx.1]; exact trodI_sized g9 q9 hnx hz9⟩, w0, w1, w2, w3, w4, w5, w7, w8⟩
  match i, hi with
  | 0, _ => exact one_of q0
  | 1, _ => exact one_of q1
  | 2, _ => exact one_of q2
  | 3, _ => exact one_of q3
  | 4, _ => exact one_of q4
  | 5, _ => exact one_of q5
  | 6, _ => exact one_of q6
  | 7, _ => exact one_of q7
  | 8, _ => exact one_of q8
  | 9, _ => exact one_of q9

set_option maxRecDepth 100000 in
theorem openWz {v : Value} {r : Reach} {b0 : Nat} {d : DataW H} {p : List MemPlace} (hv : Value.okWide Try.prog w r b0 25 v) (h : DataW.Trod enc Try.prog w 0 (fun _ => true) true 25 v d p) (hz : ∀ z ∈ d.weights Try.prog 25, z ≤ reachBytes) :
    ∃ y : WH, v = .agg (whc y).toArray ∧ ArgW w y.x y.D y.nd y.cd y.N y.nn y.cn := by
  obtain ⟨cs, rfl, hsz⟩ := okWide_struct Try.underlying25 hv
  obtain ⟨fuel, hf⟩ := h
  obtain ⟨y, hy, ha⟩ := trod_wish hf hz
  have hs : cs.size = 10 := by rw [hsz]; kernel_rfl
  refine ⟨y, ?_, ha⟩
  congr 1
  apply Array.toList_inj.1
  apply List.ext_getElem?
  intro i
  by_cases hi : i < 10
  · exact hy i hi
  · rw [List.getElem?_eq_none (by simp; omega), List.getElem?_eq_none (by simp [whc]; omega)]

set_option maxRecDepth 100000 in
theorem openLz {A : Option Addr} {n c : Nat} {d : DataW H} {p : List MemPlace} (h : DataW.Trod enc Try.prog w 0 (fun _ => true) true 39 (.slice A n c) d p) (hz : ∀ z ∈ d.weights Try.prog 39, z ≤ reachBytes) : ∃ l, ArgL w A n c l ∧ l.length < 1256584717458 := by
  obtain ⟨fuel, hf⟩ := h
  have hC : Try.prog.cellsOf 25 = 10 := by kernel_rfl
  have hBy : Try.prog.bytesOf 25 = 112 := by kernel_rfl
  rcases Go.Deep.open_slice Try.underlying39 hf with ⟨hcs, _⟩ | ⟨a, len, cap, m, k, D, Pl, hcs, _, hl, hm, hmm, hxd, hi⟩
  · simp [Value.cells] at hcs
    obtain ⟨rfl, rfl, rfl⟩ := hcs
    exact ⟨[], ⟨rfl, Nat.le_refl _, by simp [maxLen], fun hn => absurd rfl hn⟩, by simp⟩
  · simp [Value.cells] at hcs
    obtain ⟨rfl, rfl, rfl⟩ := hcs
    rw [hC] at hi
    have hm' : n ≤ m := by rw [hmm]; simp; omega
    have hxd' := (Prod.mk.inj hxd).1
    rw [hxd'] at hz
    simp only [DataW.weights, Try.underlying39, List.mem_cons, List.mem_append] at hz
    have h1 := hz _ (.inl rfl)
    rw [hBy] at h1
    simp only [List.length_map, List.length_range] at h1
    simp [reachBytes] at h1
    have hD : ∀ r, r < n → ∀ z ∈ (D r).weights Try.prog 25, z ≤ reachBytes := fun r hr z hzz => hz z (.inr (.inl (all_mem _ (List.mem_map.2 ⟨r, List.mem_range.2 hr, rfl⟩) hzz)))
    rcases Nat.eq_zero_or_pos n with h0 | hpos
    · subst h0
      exact ⟨[], ⟨rfl, hl, hm, fun hn => absurd rfl hn⟩, by simp⟩
    have hs : a.spot = none := by
      obtain ⟨cs', hc, ht⟩ := hi 0 (by omega)
      obtain ⟨y, k0, _⟩ := trod_wish ht (hD _ (by omega))
      obtain ⟨_, _, hat⟩ := World.cells?_some hc
      have h1 := hat 0 (by omega)
      rw [k0 0 (by omega)] at h1
      have e : a.add (0 * 10) = a := by unfold Addr.add; simp
      rw [e] at h1
      exact spot_of h1
    obtain ⟨b, off, spot⟩ := a
    simp only at hs
    subst hs
    have key : ∀ r, r < n → ∃ y : WH, (∀ j, j < 10 → w.cell? ⟨b, off + r * 10 + j, none⟩ = (whc y)[j]?) ∧ ArgW w y.x y.D y.nd y.cd y.N y.nn y.cn := fun r hr => by
      obtain ⟨cs', hc, ht⟩ := hi r (by omega)
      obtain ⟨y, k0, ha⟩ := trod_wish ht (hD _ (by omega))
      obtain ⟨_, _, hat⟩ := World.cells?_some hc
      refine ⟨y, fun j hj => ?_, ha⟩
      have := hat j (by omega)
      rw [add_mk, add_mk] at this
      exact this.trans (k0 j hj)
    obtain ⟨ls, hlen, hls⟩ := choose_any n key
    refine ⟨ls.map (·.x), ⟨by rw [List.length_map]; exact hlen, hl, hm, fun hne => ⟨b, off, rfl, ?_, fun j hj => ?_⟩⟩, by rw [List.length_map, hlen]; omega⟩
    · have h0 := (hls 0 (by omega)).1 0 (by omega)
      exact World.block_lt_of_cell? w _ (h0.trans rfl)
    · rw [List.length_map] at hj
      rw [List.getElem_map]
      obtain ⟨h2, h3⟩ := hls j hj
      refine ⟨ls[j].D, ls[j].nd, ls[j].cd, ls[j].N, ls[j].nn, ls[j].cn, fun i u hu => ?_, h3⟩
      have hi : i < 10 := by
        rcases Nat.lt_or_ge i 10 with h | h
        · exact h
        · rw [List.getElem?_eq_none (by rw [whc_len]; exact h)] at hu; cases hu
      exact (h2 i hi).trans hu

end

end Go.Proofs.Ytihmddpafbackaa
