/-
  An array of two numbers that came in by value; Bring to 34 and 35.
-/
import Derived.Test.YtoidiacofgmigaaTagW
import Derived.WideKeyArr2
import Derived.OpenShut
namespace Go.Proofs.Ytoidiacofgmigaa
open Go.ChangeShapes Go.WideShapes Go.ChangeAt Go.RowKit
set_option linter.unusedVariables false

theorem wf_u8 {x : Int} (h : (Lit.int .u8 x).wf = true) : x = (((UInt8.ofNat x.toNat).toNat : Nat) : Int) := by
  have hb := bounds_u8 h
  rw [UInt8.toNat_ofNat', Nat.mod_eq_of_lt (by omega)]
  omega
theorem pick_list {α : Type} (f : α → Value) : ∀ (n : Nat) (cs : List Value), cs.length = n → (∀ i, i < n → ∃ x, cs[i]? = some (f x)) → ∃ l : List α, l.length = n ∧ cs = l.map f
  | 0, cs, h, _ => ⟨[], rfl, by rw [List.eq_nil_of_length_eq_zero h]; rfl⟩
  | n + 1, [], h, _ => by simp at h
  | n + 1, c :: cs, h, hx => by
    obtain ⟨l, hl, rfl⟩ := pick_list f n cs (by simpa using h) (fun i hi => by simpa using hx (i + 1) (by omega))
    obtain ⟨x, hx0⟩ := hx 0 (by omega)
    simp at hx0
    exact ⟨x :: l, by simp [hl], by rw [hx0]; rfl⟩

theorem arr_cells {H : Type} {enc : TypeId × Value → H} {w : World} {t e : TypeId} {n : Nat} {q : IntKind} {xs : Array Value} {d : DataW H} {p : List MemPlace} (ht : Try.prog.underlying t = some (.array n e)) (he : Try.prog.underlying e = some (.int q)) (hc : Try.prog.cellsOf e = 1) (hn : xs.size = n)
    (h : DataW.Trod enc Try.prog w 0 (fun _ => true) true t (.agg xs) d p) : ∀ i, i < n → ∃ a, xs.toList[i]? = some (.int q a) ∧ (Lit.int q a).wf = true := by
  obtain ⟨fuel, hf⟩ := h
  obtain ⟨ys, m, _, _, _, hlen, hel⟩ := DataW.trod_array ht hf
  intro i hi
  have h1 := hel i hi
  rw [hc, List.getElem?_eq_getElem (by omega)] at h1
  obtain ⟨a, ea, _, wa⟩ := DataW.trod_int he h1
  refine ⟨a, ?_, wa⟩
  have hil : i < xs.toList.length := by simpa [hn] using hi
  have e0 : (Value.agg xs).cells.toList = xs.toList := rfl
  rw [e0, Nat.mul_one, List.drop_eq_getElem_cons hil] at ea
  simp only [List.take_succ_cons, List.take_zero, List.cons.injEq, and_true] at ea
  rw [List.getElem?_eq_getElem hil, ea]

theorem arr2 : WideMaps.ArrKey Try.prog 43 3 2 := ⟨Try.underlying43, by decide +kernel, by decide +kernel, by decide +kernel⟩
theorem openTwo {H : Type} {enc : TypeId × Value → H} {w : World} {r : Reach} {b0 : Nat} {v : Value} {d : DataW H} {p : List MemPlace} (hv : Value.okWide Try.prog w r b0 43 v)
    (h : DataW.Trod enc Try.prog w 0 (fun _ => true) true 43 v d p) : ∃ x y : Int, v = .agg #[.int .i64 x, .int .i64 y] ∧ Wf x ∧ Wf y := by
  obtain ⟨xs, rfl, hn⟩ := WideMaps.okWide_arr arr2 hv
  have hc := arr_cells Try.underlying43 Try.underlying3 (by kernel_rfl) hn h
  obtain ⟨x, hx, wx⟩ := hc 0 (by omega)
  obtain ⟨y, hy, wy⟩ := hc 1 (by omega)
  refine ⟨x, y, ?_, wx, wy⟩
  congr 1
  apply Array.toList_inj.1
  apply List.ext_getElem?
  intro i
  match i with
  | 0 => exact hx
  | 1 => exact hy
  | i + 2 =>
    rw [List.getElem?_eq_none (by simp; omega), List.getElem?_eq_none (by simp)]

/-- Bring to n: some number from 0 to n - 1. -/
theorem bringN_any (i n : Int) (w : World) (h : 0 < n) (hn : n ≤ 1000000) (hi : Wf i) : Calls Try.prog 15 #[.int .i64 i, .int .i64 n] w fun e w' => ∃ r : Int, 0 ≤ r ∧ r < n ∧ e = .returned (.int .i64 r) ∧ w' = w := by
  have hb := bounds_i64 hi
  have hz : (n == 0) = false := by simp; omega
  by_cases h0 : 0 ≤ i
  · have hm0 := Int.emod_nonneg i (by omega : n ≠ 0)
    have hm1 := Int.emod_lt_of_pos i h
    go_enter Try.func15, Try.ntmps15
    go_wp2
    go_ret
    exact ⟨_, hm0, hm1, rfl, rfl⟩
  · have e1 : (-i).tmod n = -(i.tmod n) := Int.neg_tmod i n
    have e2 : (-i).tmod n = (-i) % n := Int.tmod_eq_emod_of_nonneg (by omega)
    have hm0 := Int.emod_nonneg (-i) (by omega : n ≠ 0)
    have hm1 := Int.emod_lt_of_pos (-i) h
    have hl0 : i.tmod n ≤ 0 := by omega
    have hl1 : -n < i.tmod n := by omega
    clear hm0 hm1 e1 e2
    by_cases hs : i.tmod n < 0
    · go_enter Try.func15, Try.ntmps15
      go_wp2
      go_ret
      exact ⟨_, by omega, by omega, rfl, rfl⟩
    · go_enter Try.func15, Try.ntmps15
      go_wp2
      go_ret
      exact ⟨_, by omega, by omega, rfl, rfl⟩

/-- Four cells of a block that came in stay. -/
theorem keep4 {w0 W : World} (hb : Below w0.heap.size w0 W) {b o1 o2 o3 o4 : Nat} {v1 v2 v3 v4 : Value} (hlt : b < w0.heap.size)
    (h : w0.cell? ⟨b, o1, none⟩ = some v1 ∧ w0.cell? ⟨b, o2, none⟩ = some v2 ∧ w0.cell? ⟨b, o3, none⟩ = some v3 ∧ w0.cell? ⟨b, o4, none⟩ = some v4) :
    W.cell? ⟨b, o1, none⟩ = some v1 ∧ W.cell? ⟨b, o2, none⟩ = some v2 ∧ W.cell? ⟨b, o3, none⟩ = some v3 ∧ W.cell? ⟨b, o4, none⟩ = some v4 :=
  ⟨(hb.cell (p := ⟨b, o1, none⟩) hlt).trans h.1, (hb.cell (p := ⟨b, o2, none⟩) hlt).trans h.2.1, (hb.cell (p := ⟨b, o3, none⟩) hlt).trans h.2.2.1, (hb.cell (p := ⟨b, o4, none⟩) hlt).trans h.2.2.2⟩
end Go.Proofs.Ytoidiacofgmigaa
