/-
  An envelope that came in by value, and a list of deeds.
-/
import Derived.Test.YtlecihbclkohjaaPl13
import Derived.ProofKit
import Derived.OpenShut
import Derived.ShutString
import Derived.ChangeOld
import Derived.SizedLaws
import Derived.Deep.Slices
namespace Go.Proofs.Ytlecihbclkohjaa
open Go.ChangeShapes Go.WideShapes Go.ChangeAt Go.RowKit
set_option linter.unusedVariables false

abbrev envc (h : EnH) : List Value := enc h
theorem choose_any {α : Type} {P : Nat → α → Prop} : ∀ n, (∀ r, r < n → ∃ l, P r l) → ∃ ls : List α, ls.length = n ∧ ∀ j (hj : j < ls.length), P j ls[j]
  | 0, _ => ⟨[], rfl, fun j hj => by simp at hj⟩
  | n + 1, h => by
    obtain ⟨ls, hl, hls⟩ := choose_any n (fun r hr => h r (by omega))
    obtain ⟨l, hl'⟩ := h n (by omega)
    refine ⟨ls ++ [l], by simp [hl], fun j hj => ?_⟩
    by_cases hjn : j < ls.length
    · rw [List.getElem_append_left hjn]; exact hls j hjn
    · have : j = n := by simp at hj; omega
      subst this
      rw [List.getElem_append_right (by omega)]
      simpa [hl] using hl'
theorem one_of {cs : List Value} {i : Nat} {v : Value} (h : (cs.drop i).take 1 = [v]) : cs[i]? = some v := by
  have : ((cs.drop i).take 1)[0]? = some v := by rw [h]; rfl
  rw [List.getElem?_take, if_pos (by omega), List.getElem?_drop] at this
  simpa using this
theorem all_mem {H : Type} {P : Program} {e : TypeId} {d : DataW H} {z : Nat} : ∀ (ds : List (DataW H)), d ∈ ds → z ∈ d.weights P e → z ∈ DataW.weightsAll P e ds
  | [], h, _ => by simp at h
  | x :: ds, h, hz => by
    rw [DataW.weightsAll, List.mem_append]
    rcases List.mem_cons.1 h with rfl | h
    · exact .inl hz
    · exact .inr (all_mem ds h hz)

section
variable {H : Type} {enc : TypeId × Value → H} {w : World}
set_option maxRecDepth 100000 in
theorem trodBz {fuel : Nat} {cs : List Value} {x : DataW H × List MemPlace} (h : DataW.trod enc Try.prog w 0 (fun _ => true) true fuel 27 cs = some x) (hw : ∀ z ∈ x.1.weights Try.prog 27, z ≤ reachBytes) :
    ∃ (A : Option Addr) (n c : Nat) (l : List UInt8), cs = [.slice A n c] ∧ l.length = n ∧ n ≤ c ∧ c ≤ maxLen ∧ Bs w A l ∧ n ≤ 140737488351232 := by
  have hb : Try.prog.bytesOf 5 = 1 := by kernel_rfl
  rcases open_ints Try.underlying27 Try.underlying5 (by kernel_rfl) h with ⟨rfl, _⟩ | ⟨a, n, c, zs, rfl, _, hl, hm, hz, hx, hcell, hwz⟩
  · exact ⟨none, 0, 0, [], rfl, rfl, Nat.le_refl _, by simp [maxLen], Bs.nil _ _, by omega⟩
  · have hz' : zs.length = c := by simpa using hz
    rw [hx] at hw
    simp only [DataW.weights, Try.underlying27, List.mem_cons] at hw
    have h1 := hw _ (.inl rfl)
    rw [hb] at h1
    simp only [lits, List.length_map, List.length_take, List.length_drop] at h1
    simp [reachBytes] at h1
    refine ⟨some a, n, c, (zs.take n).map fun z => UInt8.ofNat z.toNat, rfl, by simp; omega, hl, hm, ?_, by omega⟩
    refine ⟨by simp [cbs], fun hn => ?_⟩
    simp at hn
    have hsp := spot_of (hcell 0 (by omega))
    obtain ⟨b, off, spot⟩ := a
    simp only at hsp
    subst hsp
    refine ⟨b, off, rfl, ?_, ?_⟩
    · have := World.block_lt_of_cell? w _ (hcell 0 (by omega))
      rw [add_mk] at this
      exact this
    · intro j u hu
      simp only [cbs, List.map_map, List.getElem?_map, Option.map_eq_some_iff] at hu
      obtain ⟨z, hz1, rfl⟩ := hu
      have hj : j < n ∧ j < zs.length := by
        rcases Nat.lt_or_ge j (zs.take n).length with h | h
        · simp at h; omega
        · rw [List.getElem?_eq_none h] at hz1; cases hz1
      have hzz : zs[j]? = some z := by rw [List.getElem?_take, if_pos hj.1] at hz1; exact hz1
      have hcj := hcell j hj.2
      rw [add_mk] at hcj
      rw [hcj]
      have hmem : z ∈ zs := List.mem_of_getElem? hzz
      have hg : zs.getD j 0 = z := by simp [List.getD, hzz]
      rw [hg]
      show _ = some (Value.int .u8 _)
      rw [← wf_u8 (hwz z hmem)]

/-- An envelope that came in. -/
def ArgE (w : World) (x : EnH) : Prop := ByP w (fun i => i < w.heap.size) x ∧ x.n ≤ 140737488351232
set_option maxRecDepth 100000 in
set_option maxHeartbeats 1600000 in
theorem trod_env {fuel : Nat} {cs : List Value} {x : DataW H × List MemPlace} (h : DataW.trod enc Try.prog w 0 (fun _ => true) true fuel 29 cs = some x) (hz : ∀ z ∈ x.1.weights Try.prog 29, z ≤ reachBytes) :
    ∃ y : EnH, (∀ i, i < 3 → cs[i]? = (envc y)[i]?) ∧ ArgE w y := by
  obtain ⟨xs, n, _, hxe, _, hlen, hg⟩ := DataW.trod_struct Try.underlying29 h
  have c1 : Try.prog.cellsOf 3 = 1 := by kernel_rfl
  have c2 : Try.prog.cellsOf 27 = 1 := by kernel_rfl
  have g0 : DataW.trod enc Try.prog w 0 (fun _ => true) true n 3 ((cs.drop 0).take (Try.prog.cellsOf 3)) = xs[0]? := hg 0 _ rfl
  rw [c1] at g0
  have g1 : DataW.trod enc Try.prog w 0 (fun _ => true) true n 3 ((cs.drop 1).take (Try.prog.cellsOf 3)) = xs[1]? := hg 1 _ rfl
  rw [c1] at g1
  have g2 : DataW.trod enc Try.prog w 0 (fun _ => true) true n 27 ((cs.drop 2).take (Try.prog.cellsOf 27)) = xs[2]? := hg 2 _ rfl
  rw [c2] at g2
  have hl3 : xs.length = 3 := hlen
  have e : ∀ i, i < 3 → ∃ y, xs[i]? = some y := fun i hi => ⟨_, List.getElem?_eq_getElem (by omega)⟩
  obtain ⟨y0, e0⟩ := e 0 (by omega)
  rw [e0] at g0
  obtain ⟨y1, e1⟩ := e 1 (by omega)
  rw [e1] at g1
  obtain ⟨y2, e2⟩ := e 2 (by omega)
  rw [e2] at g2
  have hxs : xs = [y0, y1, y2] := by
    apply List.ext_getElem?
    intro i
    match i with
    | 0 => exact e0
    | 1 => exact e1
    | 2 => exact e2
    | i + 3 => rw [List.getElem?_eq_none (by omega), List.getElem?_eq_none (by simp)]
  have hz2 : ∀ z ∈ y2.1.weights Try.prog 27, z ≤ reachBytes := fun z hzz => hz z (by
    rw [hxe, hxs]
    simp only [List.map_cons, List.map_nil, DataW.weights, Try.underlying29, DataW.weightsEach, List.mem_append]
    exact .inr (.inr (.inl hzz)))
  obtain ⟨a0, q0, _, w0⟩ := DataW.trod_int Try.underlying3 g0
  obtain ⟨a1, q1, _, w1⟩ := DataW.trod_int Try.underlying3 g1
  obtain ⟨D, nd, cd, da, q2, hd1, hd2, hd3, hd4, hd5⟩ := trodBz g2 hz2
  refine ⟨⟨⟨a0, a1, da⟩, D, nd, cd⟩, fun i hi => ?_, ⟨hd1, hd2, hd3, w0, w1, fun hn => ?_⟩, hd5⟩
  · match i, hi with
    | 0, _ => exact one_of q0
    | 1, _ => exact one_of q1
    | 2, _ => exact one_of q2
  · obtain ⟨b, off, e, h1, h2⟩ := hd4.2 (by rw [hd1]; exact hn)
    exact ⟨b, off, e, h1, h1, h2⟩
set_option maxRecDepth 100000 in
theorem openE {v : Value} {r : Reach} {b0 : Nat} {d : DataW H} {p : List MemPlace} (hv : Value.okWide Try.prog w r b0 29 v) (h : DataW.Trod enc Try.prog w 0 (fun _ => true) true 29 v d p) (hz : ∀ z ∈ d.weights Try.prog 29, z ≤ reachBytes) :
    ∃ y : EnH, v = .agg #[.int .i64 y.x.fr, .int .i64 y.x.to, .slice y.a y.n y.c] ∧ ArgE w y := by
  obtain ⟨cs, rfl, hsz⟩ := okWide_struct Try.underlying29 hv
  obtain ⟨fuel, hf⟩ := h
  obtain ⟨y, hy, ha⟩ := trod_env hf hz
  have hs : cs.size = 3 := by rw [hsz]; kernel_rfl
  refine ⟨y, ?_, ha⟩
  congr 1
  apply Array.toList_inj.1
  apply List.ext_getElem?
  intro i
  by_cases hi : i < 3
  · exact hy i hi
  · rw [List.getElem?_eq_none (by simp; omega), List.getElem?_eq_none (by simp; omega)]
/-- A deed. -/
structure DdH where
  kd : Int
  at_ : Int
  st : Int
  e : EnH
def ddc (d : DdH) : List Value := .int .i64 d.kd :: .int .i64 d.at_ :: .int .i64 d.st :: envc d.e
set_option maxRecDepth 100000 in
set_option maxHeartbeats 1600000 in
theorem trod_dd {fuel : Nat} {cs : List Value} {x : DataW H × List MemPlace} (h : DataW.trod enc Try.prog w 0 (fun _ => true) true fuel 31 cs = some x) (hz : ∀ z ∈ x.1.weights Try.prog 31, z ≤ reachBytes) :
    ∃ y : DdH, (∀ i, i < 6 → cs[i]? = (ddc y)[i]?) ∧ ArgE w y.e ∧ Wf y.kd ∧ Wf y.at_ ∧ Wf y.st := by
  obtain ⟨xs, n, _, hxe, _, hlen, hg⟩ := DataW.trod_struct Try.underlying31 h
  have c1 : Try.prog.cellsOf 3 = 1 := by kernel_rfl
  have c2 : Try.prog.cellsOf 29 = 3 := by kernel_rfl
  have g0 : DataW.trod enc Try.prog w 0 (fun _ => true) true n 3 ((cs.drop 0).take (Try.prog.cellsOf 3)) = xs[0]? := hg 0 _ rfl
  rw [c1] at g0
  have g1 : DataW.trod enc Try.prog w 0 (fun _ => true) true n 3 ((cs.drop 1).take (Try.prog.cellsOf 3)) = xs[1]? := hg 1 _ rfl
  rw [c1] at g1
  have g2 : DataW.trod enc Try.prog w 0 (fun _ => true) true n 3 ((cs.drop 2).take (Try.prog.cellsOf 3)) = xs[2]? := hg 2 _ rfl
  rw [c1] at g2
  have g3 : DataW.trod enc Try.prog w 0 (fun _ => true) true n 29 ((cs.drop 3).take (Try.prog.cellsOf 29)) = xs[3]? := hg 3 _ rfl
  rw [c2] at g3
  have hl3 : xs.length = 4 := hlen
  have e : ∀ i, i < 4 → ∃ y, xs[i]? = some y := fun i hi => ⟨_, List.getElem?_eq_getElem (by omega)⟩
  obtain ⟨y0, e0⟩ := e 0 (by omega)
  rw [e0] at g0
  obtain ⟨y1, e1⟩ := e 1 (by omega)
  rw [e1] at g1
  obtain ⟨y2, e2⟩ := e 2 (by omega)
  rw [e2] at g2
  obtain ⟨y3, e3⟩ := e 3 (by omega)
  rw [e3] at g3
  have hxs : xs = [y0, y1, y2, y3] := by
    apply List.ext_getElem?
    intro i
    match i with
    | 0 => exact e0
    | 1 => exact e1
    | 2 => exact e2
    | 3 => exact e3
    | i + 4 => rw [List.getElem?_eq_none (by omega), List.getElem?_eq_none (by simp)]
  have hz3 : ∀ z ∈ y3.1.weights Try.prog 29, z ≤ reachBytes := fun z hzz => hz z (by
    rw [hxe, hxs]
    simp only [List.map_cons, List.map_nil, DataW.weights, Try.underlying31, DataW.weightsEach, List.mem_append]
    exact .inr (.inr (.inr (.inl hzz))))
  obtain ⟨a0, q0, _, w0⟩ := DataW.trod_int Try.underlying3 g0
  obtain ⟨a1, q1, _, w1⟩ := DataW.trod_int Try.underlying3 g1
  obtain ⟨a2, q2, _, w2⟩ := DataW.trod_int Try.underlying3 g2
  obtain ⟨ye, hye, hae⟩ := trod_env g3 hz3
  have hsub : ∀ k, k < 3 → cs[3 + k]? = (envc ye)[k]? := fun k hk => by
    have := hye k hk
    rwa [List.getElem?_take, if_pos hk, List.getElem?_drop] at this
  refine ⟨⟨a0, a1, a2, ye⟩, fun i hi => ?_, hae, w0, w1, w2⟩
  match i, hi with
  | 0, _ => exact one_of q0
  | 1, _ => exact one_of q1
  | 2, _ => exact one_of q2
  | 3, _ => exact hsub 0 (by omega)
  | 4, _ => exact hsub 1 (by omega)
  | 5, _ => exact hsub 2 (by omega)
/-- A list of deeds that came in. -/
def ArgDd (w : World) (A : Option Addr) (n c : Nat) (l : List DdH) : Prop := l.length = n ∧ n ≤ c ∧ c ≤ maxLen ∧ (l ≠ [] → ∃ b off, A = some ⟨b, off, none⟩ ∧ b < w.heap.size ∧ ∀ j (hj : j < l.length), (∀ k, k < 6 → w.cell? ⟨b, off + j * 6 + k, none⟩ = (ddc l[j])[k]?) ∧ ArgE w l[j].e ∧ Wf l[j].kd ∧ Wf l[j].at_ ∧ Wf l[j].st)
set_option maxRecDepth 100000 in
theorem openDd {A : Option Addr} {n c : Nat} {d : DataW H} {p : List MemPlace} (h : DataW.Trod enc Try.prog w 0 (fun _ => true) true 22 (.slice A n c) d p) (hz : ∀ z ∈ d.weights Try.prog 22, z ≤ reachBytes) : ∃ l, ArgDd w A n c l := by
  obtain ⟨fuel, hf⟩ := h
  have hC : Try.prog.cellsOf 31 = 6 := by kernel_rfl
  rcases Go.Deep.open_slice Try.underlying22 hf with ⟨hcs, _⟩ | ⟨a, len, cap, m, k, D, Pl, hcs, _, hl, hm, hmm, hxd, hi⟩
  · simp [Value.cells] at hcs
    obtain ⟨rfl, rfl, rfl⟩ := hcs
    exact ⟨[], rfl, Nat.le_refl _, by simp [maxLen], fun hn => absurd rfl hn⟩
  · simp [Value.cells] at hcs
    obtain ⟨rfl, rfl, rfl⟩ := hcs
    rw [hC] at hi
    have hm' : n ≤ m := by rw [hmm]; simp; omega
    have hxd' := (Prod.mk.inj hxd).1
    rw [hxd'] at hz
    simp only [DataW.weights, Try.underlying22, List.mem_cons, List.mem_append] at hz
    have hD : ∀ r, r < n → ∀ z ∈ (D r).weights Try.prog 31, z ≤ reachBytes := fun r hr z hzz => hz z (.inr (.inl (all_mem _ (List.mem_map.2 ⟨r, List.mem_range.2 hr, rfl⟩) hzz)))
    rcases Nat.eq_zero_or_pos n with h0 | hpos
    · subst h0
      exact ⟨[], rfl, hl, hm, fun hn => absurd rfl hn⟩
    have hs : a.spot = none := by
      obtain ⟨cs', hc, ht⟩ := hi 0 (by omega)
      obtain ⟨y, k0, _⟩ := trod_dd ht (hD _ (by omega))
      obtain ⟨_, _, hat⟩ := World.cells?_some hc
      have h1 := hat 0 (by omega)
      rw [k0 0 (by omega)] at h1
      have e : a.add (0 * 6) = a := by unfold Addr.add; simp
      rw [e] at h1
      exact spot_of h1
    obtain ⟨b, off, spot⟩ := a
    simp only at hs
    subst hs
    have key : ∀ r, r < n → ∃ y : DdH, (∀ j, j < 6 → w.cell? ⟨b, off + r * 6 + j, none⟩ = (ddc y)[j]?) ∧ ArgE w y.e ∧ Wf y.kd ∧ Wf y.at_ ∧ Wf y.st := fun r hr => by
      obtain ⟨cs', hc, ht⟩ := hi r (by omega)
      obtain ⟨y, k0, ha⟩ := trod_dd ht (hD _ (by omega))
      obtain ⟨_, _, hat⟩ := World.cells?_some hc
      refine ⟨y, fun j hj => ?_, ha⟩
      have := hat j (by omega)
      rw [add_mk, add_mk] at this
      exact this.trans (k0 j hj)
    obtain ⟨ls, hlen, hls⟩ := choose_any n key
    refine ⟨ls, hlen, hl, hm, fun hne => ⟨b, off, rfl, ?_, fun j hj => hls j hj⟩⟩
    have h0 := (hls 0 (by omega)).1 0 (by omega)
    exact World.block_lt_of_cell? w _ (h0.trans rfl)
end
end Go.Proofs.Ytlecihbclkohjaa
