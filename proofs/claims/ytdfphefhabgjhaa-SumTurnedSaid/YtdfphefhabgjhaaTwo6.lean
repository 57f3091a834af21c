/-
  An array of two bytes that came in by value; bytes made; over this seat's translation.
-/
import Derived.Test.YtdfphefhabgjhaaAid6
import Derived.WideKeyArr2
import Derived.OpenShut
import Derived.Deep.OwnRows
namespace Go.Proofs.Ytdfphefhabgjhaa
open Go.ChangeShapes Go.WideShapes Go.ChangeAt Go.RowKit
set_option linter.unusedVariables false

theorem arr_cells {H : Type} {enc : TypeId × Value → H} {w : World} {t e : TypeId} {n : Nat} {q : IntKind} {xs : Array Value} {d : DataW H} {p : List MemPlace} (ht : Try.prog.underlying t = some (.array n e)) (he : Try.prog.underlying e = some (.int q)) (hc : Try.prog.cellsOf e = 1) (hn : xs.size = n)
    (h : DataW.Trod enc Try.prog w 0 (fun _ => true) true t (.agg xs) d p) : ∀ i, i < n → ∃ a, xs.toList[i]? = some (.int q a) ∧ (Lit.int q a).wf = true := by
  obtain ⟨fuel, hf⟩ := h
  obtain ⟨ys, m, _, _, _, hlen, hel⟩ := DataW.trod_array ht hf
  intro i hi
  have h1 := hel i hi
  rw [hc, List.getElem?_eq_getElem (by omega)] at h1
  obtain ⟨a, ea, _, wa⟩ := DataW.trod_int he h1
  refine ⟨a, ?_, wa⟩
  have hil : i < xs.toList.length := by simpa [hn] using hi
  have e0 : (Value.agg xs).cells.toList = xs.toList := rfl
  rw [e0, Nat.mul_one, List.drop_eq_getElem_cons hil] at ea
  simp only [List.take_succ_cons, List.take_zero, List.cons.injEq, and_true] at ea
  rw [List.getElem?_eq_getElem hil, ea]
theorem arr2b : WideMaps.ArrKey Try.prog 37 5 2 := ⟨Try.underlying37, by decide +kernel, by decide +kernel, by decide +kernel⟩
theorem openTwoB {H : Type} {enc : TypeId × Value → H} {w : World} {r : Reach} {b0 : Nat} {v : Value} {d : DataW H} {p : List MemPlace} (hv : Value.okWide Try.prog w r b0 37 v)
    (h : DataW.Trod enc Try.prog w 0 (fun _ => true) true 37 v d p) : ∃ x y : UInt8, v = .agg #[.int .u8 (x.toNat : Int), .int .u8 (y.toNat : Int)] := by
  obtain ⟨xs, rfl, hn⟩ := WideMaps.okWide_arr arr2b hv
  have hc := arr_cells Try.underlying37 Try.underlying5 (by kernel_rfl) hn h
  obtain ⟨x, hx, wx⟩ := hc 0 (by omega)
  obtain ⟨y, hy, wy⟩ := hc 1 (by omega)
  refine ⟨UInt8.ofNat x.toNat, UInt8.ofNat y.toNat, ?_⟩
  rw [← wf_u8 wx, ← wf_u8 wy]
  congr 1
  apply Array.toList_inj.1
  apply List.ext_getElem?
  intro i
  match i with
  | 0 => exact hx
  | 1 => exact hy
  | i + 2 =>
    rw [List.getElem?_eq_none (by simp; omega), List.getElem?_eq_none (by simp)]

/-- make([]byte, n): n noughts in a block of their own. -/
theorem made_bytes (n : Nat) (hn : n ≤ 140737488351232) : ∃ (Z : Array Value), (cbs (List.replicate n 0)).toArray = Z ∧ ∀ w : World, (Instr.makeSlice 26 (.int .i64 (n : Int)) (.int .i64 (n : Int))).run Try.prog w = .ok (.slice (some ⟨w.heap.size, 0, none⟩) n n) (w.alloc (.cells Z 5)) := by
  refine ⟨madeCells #[.int .u8 0] n, ?_, fun w => run_make_row' 26 5 (.int .u8 0) 1 Try.underlying26 u8_info rfl .i64 .i64 n (by omega) (by omega) w⟩
  apply Array.ext
  · simp [madeCells, cbs]
  · intro i h1 h2
    have hi : i < n := by simpa [cbs] using h1
    simp [madeCells, cbs, Nat.mod_one]
    rfl

/-- Two slices that came in, and a row of the law's own. -/
def XG (w W : World) (A B : Option Addr) (p q : List UInt8) (g : Nat) (x : List UInt8) : Prop := Bs W A p ∧ Bs W B q ∧ Blk W g 5 (cbs x) ∧ Below w.heap.size w W
section
variable {w W W' : World} {A B : Option Addr} {p q x : List UInt8} {g : Nat}
theorem XG.below (h : XG w W A B p q g x) (hb : Below W.heap.size W W') : XG w W' A B p q g x :=
  ⟨h.1.on hb, h.2.1.on hb, h.2.2.1.below hb h.2.2.1.lt, h.2.2.2.trans (hb.mono h.2.2.2.size)⟩
theorem XG.alloc (h : XG w W A B p q g x) (o : Obj) : XG w (W.alloc o) A B p q g x := h.below ((Below.refl _ _).alloc (Nat.le_refl _) o)
theorem XG.drew (h : XG w W A B p q g x) : XG w W.drew A B p q g x := h.below ((Below.refl _ _).drew)
end
theorem Bs.ofBlk {w : World} {g : Nat} {t : TypeId} {l : List UInt8} (h : Blk w g t (cbs l)) : Bs w (some ⟨g, 0, none⟩) l :=
  ⟨by rw [cbs_length]; simp, fun _ => ⟨g, 0, rfl, h.lt, fun j u hu => by rw [Nat.zero_add]; exact h.cell hu⟩⟩
/-- The xor of two, the first k of n made. -/
def xr (p q : List UInt8) (n k : Nat) : List UInt8 := List.zipWith (· ^^^ ·) (p.take k) (q.take k) ++ List.replicate (n - k) 0
theorem xr_len {p q : List UInt8} {n k : Nat} (hk : k ≤ n) (hp : n ≤ p.length) (hq : n ≤ q.length) : (xr p q n k).length = n := by
  unfold xr; simp; omega
theorem xr_set {p q : List UInt8} {n k : Nat} (hk : k < n) (hp : n ≤ p.length) (hq : n ≤ q.length) (h1 : k < p.length) (h2 : k < q.length) : (xr p q n k).set k (p[k] ^^^ q[k]) = xr p q n (k + 1) := by
  have hl : (List.zipWith (· ^^^ ·) (p.take k) (q.take k)).length = k := by simp; omega
  unfold xr
  rw [List.set_append_right _ _ (by omega), hl, Nat.sub_self, show n - k = (n - (k + 1)) + 1 from by omega, List.replicate_succ, List.set_cons_zero, List.take_succ_eq_append_getElem h1, List.take_succ_eq_append_getElem h2,
    List.zipWith_append (by simp; omega), List.append_assoc]
  rfl
theorem xr_all {p q : List UInt8} {n : Nat} : xr p q n n = List.zipWith (· ^^^ ·) (p.take n) (q.take n) := by unfold xr; simp
end Go.Proofs.Ytdfphefhabgjhaa
