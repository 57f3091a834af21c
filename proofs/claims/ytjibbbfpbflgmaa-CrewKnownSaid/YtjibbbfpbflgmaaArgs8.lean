/-
  What came in: a crew, a list of numbers with its bound, arrays of numbers by value.
-/
import Derived.Test.YtjibbbfpbflgmaaSome8
import Derived.WideKeyArr2
import Derived.OpenShut
import Derived.Deep.Strs
namespace Go.Proofs.Ytjibbbfpbflgmaa
open Go.ChangeShapes Go.WideShapes Go.ChangeAt Go.RowKit
set_option linter.unusedVariables false

theorem one_of {cs : List Value} {i : Nat} {v : Value} (h : (cs.drop i).take 1 = [v]) : cs[i]? = some v := by
  have : ((cs.drop i).take 1)[0]? = some v := by rw [h]; rfl
  rw [List.getElem?_take, if_pos (by omega), List.getElem?_drop] at this
  simpa using this

section
variable {H : Type} {enc : TypeId × Value → H} {w : World}
set_option maxRecDepth 100000 in
theorem trodI_sized {fuel : Nat} {cs : List Value} {x : DataW H × List MemPlace} {A : Option Addr} {n c : Nat} {l : List Int} (h : DataW.trod enc Try.prog w 0 (fun _ => true) true fuel 22 cs = some x) (hcs : cs = [.slice A n c]) (ha : ArgI w A n c l)
    (hz : ∀ z ∈ x.1.weights Try.prog 22, z ≤ reachBytes) : l.length ≤ 17592186043904 := by
  have hb : Try.prog.bytesOf 3 = 8 := by kernel_rfl
  rcases open_ints Try.underlying22 Try.underlying3 (by kernel_rfl) h with ⟨rfl, _⟩ | ⟨a, n', c', zs, rfl, _, hl, hm, hzl, hx, _⟩
  · injection hcs with e
    injection e with _ e _
    rw [ha.1]; omega
  · injection hcs with e
    injection e with _ e1 e2
    rw [hx] at hz
    simp only [DataW.weights, Try.underlying22, List.mem_cons] at hz
    have h1 := hz _ (.inl rfl)
    rw [hb] at h1
    have hz' : zs.length = c' := by simpa using hzl
    simp only [lits, List.length_map, List.length_take, List.length_drop] at h1
    have := ha.1
    simp [reachBytes] at h1
    omega
set_option maxRecDepth 100000 in
theorem openIz {A : Option Addr} {n c : Nat} {d : DataW H} {p : List MemPlace} (h : DataW.Trod enc Try.prog w 0 (fun _ => true) true 22 (.slice A n c) d p) (hz : ∀ z ∈ d.weights Try.prog 22, z ≤ reachBytes) : ∃ l, ArgI w A n c l ∧ l.length ≤ 17592186043904 := by
  obtain ⟨fuel, hf⟩ := h
  obtain ⟨A', n', c', l, e, ha⟩ := trodI hf
  simp [Value.cells] at e
  obtain ⟨rfl, rfl, rfl⟩ := e
  exact ⟨l, ha, trodI_sized hf rfl ha hz⟩
/-- A crew that came in. -/
def ArgC (w : World) (f : Int) (A : Option Addr) (n c : Nat) (l : List Int) : Prop := Wf f ∧ ArgI w A n c l ∧ l.length ≤ 17592186043904
set_option maxRecDepth 100000 in
theorem openCz {v : Value} {r : Reach} {b0 : Nat} {d : DataW H} {p : List MemPlace} (hv : Value.okWide Try.prog w r b0 24 v) (h : DataW.Trod enc Try.prog w 0 (fun _ => true) true 24 v d p) (hz : ∀ z ∈ d.weights Try.prog 24, z ≤ reachBytes) :
    ∃ f A n c l, v = .agg #[.int .i64 f, .slice A n c] ∧ ArgC w f A n c l := by
  obtain ⟨cs, rfl, hsz⟩ := okWide_struct Try.underlying24 hv
  obtain ⟨fuel, hf⟩ := h
  obtain ⟨xs, n, _, hxe, _, hlen, hg⟩ := DataW.trod_struct Try.underlying24 hf
  have c1 : Try.prog.cellsOf 3 = 1 := by kernel_rfl
  have c2 : Try.prog.cellsOf 22 = 1 := by kernel_rfl
  have g0 : DataW.trod enc Try.prog w 0 (fun _ => true) true n 3 ((cs.toList.drop 0).take (Try.prog.cellsOf 3)) = xs[0]? := hg 0 _ rfl
  have g1 : DataW.trod enc Try.prog w 0 (fun _ => true) true n 22 ((cs.toList.drop 1).take (Try.prog.cellsOf 22)) = xs[1]? := hg 1 _ rfl
  rw [c1] at g0
  rw [c2] at g1
  have hl2 : xs.length = 2 := hlen
  obtain ⟨y0, e0⟩ : ∃ y, xs[0]? = some y := ⟨_, List.getElem?_eq_getElem (by omega)⟩
  obtain ⟨y1, e1⟩ : ∃ y, xs[1]? = some y := ⟨_, List.getElem?_eq_getElem (by omega)⟩
  rw [e0] at g0; rw [e1] at g1
  obtain ⟨a0, q0, _, w0⟩ := DataW.trod_int Try.underlying3 g0
  obtain ⟨A, m, c, l, q1, ha⟩ := trodI g1
  have hs2 : cs.size = 2 := by rw [hsz]; kernel_rfl
  refine ⟨a0, A, m, c, l, ?_, w0, ha, trodI_sized g1 q1 ha fun z hzz => hz z ?_⟩
  · congr 1
    apply Array.toList_inj.1
    apply List.ext_getElem?
    intro i
    match i with
    | 0 => exact one_of q0
    | 1 => exact one_of q1
    | i + 2 => rw [List.getElem?_eq_none (by simp; omega), List.getElem?_eq_none (by simp)]
  · injection hxe with hxe _
    rw [hxe]
    have hxs : xs = [y0, y1] := by
      apply List.ext_getElem?
      intro i
      match i with
      | 0 => exact e0
      | 1 => exact e1
      | i + 2 => rw [List.getElem?_eq_none (by omega), List.getElem?_eq_none (by simp)]
    rw [hxs]
    simp only [List.map_cons, List.map_nil, DataW.weights, Try.underlying24, DataW.weightsEach, List.mem_append]
    exact .inr (.inl hzz)
end
theorem pick_list {α : Type} (f : α → Value) : ∀ (n : Nat) (cs : List Value), cs.length = n → (∀ i, i < n → ∃ x, cs[i]? = some (f x)) → ∃ l : List α, l.length = n ∧ cs = l.map f
  | 0, cs, h, _ => ⟨[], rfl, by rw [List.eq_nil_of_length_eq_zero h]; rfl⟩
  | n + 1, [], h, _ => by simp at h
  | n + 1, c :: cs, h, hx => by
    obtain ⟨l, hl, rfl⟩ := pick_list f n cs (by simpa using h) (fun i hi => by simpa using hx (i + 1) (by omega))
    obtain ⟨x, hx0⟩ := hx 0 (by omega)
    simp at hx0
    exact ⟨x :: l, by simp [hl], by rw [hx0]; rfl⟩

theorem arr_cells {H : Type} {enc : TypeId × Value → H} {w : World} {t e : TypeId} {n : Nat} {q : IntKind} {xs : Array Value} {d : DataW H} {p : List MemPlace} (ht : Try.prog.underlying t = some (.array n e)) (he : Try.prog.underlying e = some (.int q)) (hc : Try.prog.cellsOf e = 1) (hn : xs.size = n)
    (h : DataW.Trod enc Try.prog w 0 (fun _ => true) true t (.agg xs) d p) : ∀ i, i < n → ∃ a, xs.toList[i]? = some (.int q a) ∧ (Lit.int q a).wf = true := by
  obtain ⟨fuel, hf⟩ := h
  obtain ⟨ys, m, _, _, _, hlen, hel⟩ := DataW.trod_array ht hf
  intro i hi
  have h1 := hel i hi
  rw [hc, List.getElem?_eq_getElem (by omega)] at h1
  obtain ⟨a, ea, _, wa⟩ := DataW.trod_int he h1
  refine ⟨a, ?_, wa⟩
  have hil : i < xs.toList.length := by simpa [hn] using hi
  have e0 : (Value.agg xs).cells.toList = xs.toList := rfl
  rw [e0, Nat.mul_one, List.drop_eq_getElem_cons hil] at ea
  simp only [List.take_succ_cons, List.take_zero, List.cons.injEq, and_true] at ea
  rw [List.getElem?_eq_getElem hil, ea]


set_option maxRecDepth 100000 in
theorem openArr {H : Type} {enc : TypeId × Value → H} {w : World} {r : Reach} {b0 k : Nat} {t : TypeId} {v : Value} {d : DataW H} {p : List MemPlace} (hk : WideMaps.ArrKey Try.prog t 3 k) (hu : Try.prog.underlying t = some (.array k 3)) (hv : Value.okWide Try.prog w r b0 t v)
    (h : DataW.Trod enc Try.prog w 0 (fun _ => true) true t v d p) : ∃ l : List Int, (l.length = k ∧ ∀ x ∈ l, Wf x) ∧ v = .agg (cis l).toArray := by
  obtain ⟨xs, rfl, hn⟩ := WideMaps.okWide_arr hk hv
  have hc := arr_cells hu Try.underlying3 (by kernel_rfl) hn h
  obtain ⟨l, hl, he⟩ := pick_list ci k xs.toList (by simpa using hn) (fun i hi => by obtain ⟨a, ha, _⟩ := hc i hi; exact ⟨a, ha⟩)
  refine ⟨l, ⟨hl, fun x hx => ?_⟩, ?_⟩
  · obtain ⟨i, hi, rfl⟩ := List.mem_iff_getElem.1 hx
    obtain ⟨a, ha, wa⟩ := hc i (by omega)
    rw [he, List.getElem?_map, List.getElem?_eq_getElem hi] at ha
    injection ha with ha
    injection ha with _ ha
    rw [ha]; exact wa
  · congr 1
    apply Array.toList_inj.1
    rw [he]
    rfl
theorem arrK8 : WideMaps.ArrKey Try.prog 45 3 8 := ⟨Try.underlying45, by decide +kernel, by decide +kernel, by decide +kernel⟩
theorem arrK7 : WideMaps.ArrKey Try.prog 53 3 7 := ⟨Try.underlying53, by decide +kernel, by decide +kernel, by decide +kernel⟩
theorem arrK3 : WideMaps.ArrKey Try.prog 49 3 3 := ⟨Try.underlying49, by decide +kernel, by decide +kernel, by decide +kernel⟩
theorem eight {l : List Int} (h : l.length = 8) : ∃ a0 a1 a2 a3 a4 a5 a6 a7, l = [a0, a1, a2, a3, a4, a5, a6, a7] := by
  match l, h with
  | [a0, a1, a2, a3, a4, a5, a6, a7], _ => exact ⟨_, _, _, _, _, _, _, _, rfl⟩
theorem seven {l : List Int} (h : l.length = 7) : ∃ a0 a1 a2 a3 a4 a5 a6, l = [a0, a1, a2, a3, a4, a5, a6] := by
  match l, h with
  | [a0, a1, a2, a3, a4, a5, a6], _ => exact ⟨_, _, _, _, _, _, _, rfl⟩
theorem three {l : List Int} (h : l.length = 3) : ∃ a0 a1 a2, l = [a0, a1, a2] := by
  match l, h with
  | [a0, a1, a2], _ => exact ⟨_, _, _, rfl⟩
theorem ok_wf {f : Int} {ns : List Int} (h : CrewP.okC f ns = true) : ∀ x ∈ ns, Wf x := fun x hx => by
  have := ((CrewP.okC_iff f ns).1 h).2.1 x hx
  simp only [Wf, Lit.wf, IntKind.min, IntKind.max, IntKind.signed, IntKind.bits]
  simp
  omega
end Go.Proofs.Ytjibbbfpbflgmaa
