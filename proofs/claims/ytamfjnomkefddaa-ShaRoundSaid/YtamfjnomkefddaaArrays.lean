/-
  Arrays that came in by value: eight words, sixty-four bytes.
-/
import Derived.Test.YtamfjnomkefddaaOpen
import Derived.Test.YtamfjnomkefddaaEqW
import Derived.Test.YtamfjnomkefddaaRnd
import Derived.WideKeyArr2
import Derived.OpenShut
namespace Go.Proofs.Ytamfjnomkefddaa
open Go.ChangeShapes Go.WideShapes Go.ChangeAt Go.RowKit
set_option linter.unusedVariables false

theorem S8_ext {x y : S8} (h : x.list = y.list) : x = y := by
  cases x; cases y
  simp only [S8.list, List.cons.injEq, and_true] at h
  obtain ⟨rfl, rfl, rfl, rfl, rfl, rfl, rfl, rfl⟩ := h
  rfl
theorem pick_list {α : Type} (f : α → Value) : ∀ (n : Nat) (cs : List Value), cs.length = n → (∀ i, i < n → ∃ x, cs[i]? = some (f x)) → ∃ l : List α, l.length = n ∧ cs = l.map f
  | 0, cs, h, _ => ⟨[], rfl, by rw [List.eq_nil_of_length_eq_zero h]; rfl⟩
  | n + 1, [], h, _ => by simp at h
  | n + 1, c :: cs, h, hx => by
    obtain ⟨l, hl, rfl⟩ := pick_list f n cs (by simpa using h) (fun i hi => by simpa using hx (i + 1) (by omega))
    obtain ⟨x, hx0⟩ := hx 0 (by omega)
    simp at hx0
    exact ⟨x :: l, by simp [hl], by rw [hx0]; rfl⟩

theorem arr_cells {H : Type} {enc : TypeId × Value → H} {w : World} {t e : TypeId} {n : Nat} {q : IntKind} {xs : Array Value} {d : DataW H} {p : List MemPlace} (ht : Try.prog.underlying t = some (.array n e)) (he : Try.prog.underlying e = some (.int q)) (hc : Try.prog.cellsOf e = 1) (hn : xs.size = n)
    (h : DataW.Trod enc Try.prog w 0 (fun _ => true) true t (.agg xs) d p) : ∀ i, i < n → ∃ a, xs.toList[i]? = some (.int q a) ∧ (Lit.int q a).wf = true := by
  obtain ⟨fuel, hf⟩ := h
  obtain ⟨ys, m, _, _, _, hlen, hel⟩ := DataW.trod_array ht hf
  intro i hi
  have h1 := hel i hi
  rw [hc, List.getElem?_eq_getElem (by omega)] at h1
  obtain ⟨a, ea, _, wa⟩ := DataW.trod_int he h1
  refine ⟨a, ?_, wa⟩
  have hil : i < xs.toList.length := by simpa [hn] using hi
  have e0 : (Value.agg xs).cells.toList = xs.toList := rfl
  rw [e0, Nat.mul_one, List.drop_eq_getElem_cons hil] at ea
  simp only [List.take_succ_cons, List.take_zero, List.cons.injEq, and_true] at ea
  rw [List.getElem?_eq_getElem hil, ea]

theorem arr8 : WideMaps.ArrKey Try.prog 53 52 8 := ⟨Try.underlying53, by decide +kernel, by decide +kernel, by decide +kernel⟩
theorem arr64 : WideMaps.ArrKey Try.prog 54 5 64 := ⟨Try.underlying54, by decide +kernel, by decide +kernel, by decide +kernel⟩
set_option maxRecDepth 100000 in
theorem openW8 {H : Type} {enc : TypeId × Value → H} {w : World} {r : Reach} {b0 : Nat} {v : Value} {d : DataW H} {p : List MemPlace} (hv : Value.okWide Try.prog w r b0 53 v)
    (h : DataW.Trod enc Try.prog w 0 (fun _ => true) true 53 v d p) : ∃ s : S8, v = v8 s := by
  obtain ⟨xs, rfl, hn⟩ := WideMaps.okWide_arr arr8 hv
  have hc := arr_cells Try.underlying53 Try.underlying52 (by kernel_rfl) hn h
  obtain ⟨l, hl, hx⟩ := pick_list cw 8 xs.toList (by simpa using hn) (fun i hi => by
    obtain ⟨a, ha, wa⟩ := hc i hi
    refine ⟨UInt32.ofNat a.toNat, ?_⟩
    rw [ha]
    have hb := bounds_u32 wa
    unfold cw
    congr 2
    rw [UInt32.toNat_ofNat', Nat.mod_eq_of_lt (by omega)]
    omega)
  obtain ⟨a, b, c, d, e, f, g, i, rfl⟩ := eight l hl
  refine ⟨⟨a, b, c, d, e, f, g, i⟩, ?_⟩
  have : xs = (l8 ⟨a, b, c, d, e, f, g, i⟩).toArray := by apply Array.toList_inj.1; rw [hx]; rfl
  rw [this]; rfl

set_option maxRecDepth 100000 in
theorem openB64 {H : Type} {enc : TypeId × Value → H} {w : World} {r : Reach} {b0 : Nat} {v : Value} {d : DataW H} {p : List MemPlace} (hv : Value.okWide Try.prog w r b0 54 v)
    (h : DataW.Trod enc Try.prog w 0 (fun _ => true) true 54 v d p) : ∃ l : List UInt8, l.length = 64 ∧ v = .agg (cbs l).toArray := by
  obtain ⟨xs, rfl, hn⟩ := WideMaps.okWide_arr arr64 hv
  have hc := arr_cells Try.underlying54 Try.underlying5 (by kernel_rfl) hn h
  obtain ⟨l, hl, hx⟩ := pick_list cb 64 xs.toList (by simpa using hn) (fun i hi => by
    obtain ⟨a, ha, wa⟩ := hc i hi
    refine ⟨UInt8.ofNat a.toNat, ?_⟩
    rw [ha]
    unfold cb
    rw [← wf_u8 wa])
  refine ⟨l, hl, ?_⟩
  have : xs = (cbs l).toArray := by apply Array.toList_inj.1; rw [hx]; rfl
  rw [this]
end Go.Proofs.Ytamfjnomkefddaa
