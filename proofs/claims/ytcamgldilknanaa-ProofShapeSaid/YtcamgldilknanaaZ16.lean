/-
  Laid together for a hand-in: Wk10, Ws10, Ce10, Sh10, Cl10.
-/
import Derived.Test.YtcamgldilknanaaZ14
import Derived.Test.YtcamgldilknanaaZ15
import Derived.Test.YtcamgldilknanaaZ09
import Derived.Test.YtcamgldilknanaaZ13
import Derived.WideKeyArr2
import Derived.OpenShut

namespace Go.Proofs.Ytcamgldilknanaa
open Go.RowKit Go.Maps
set_option linter.unusedVariables false

/-! ### Plain facts -/
def sixL : List (List UInt8) := [[1], [2], [3], [4], [5], [6]]
theorem six_cut : cut40 sixL = sixL := rfl
theorem dep_six : dep 6 = 3 := by rw [dep_more (by decide), dep_more (by decide), dep_one (by decide)]
theorem six_len : sixL.length = 6 := rfl
theorem six_lows : (lows sixL).length = 6 := by rw [lows_len]; rfl
theorem pf_six : pf (lows sixL) 4 = [four (lows sixL) 1, four (next (lows sixL)) 0] := by
  unfold pf
  rw [six_lows, dep_six]
  rfl
theorem pf_six_len : (four (lows sixL) 1).length = 2 ∧ (four (next (lows sixL)) 0).length = 2 := by
  rw [four_len, four_len, next_len, six_lows]; exact ⟨rfl, rfl⟩
theorem dg56 : digest [0, 5] ≠ digest [0, 6] := by rw [dig_fast, dig_fast]; decide +kernel
theorem six_fits5 : fits (rootD (lows sixL)) 6 4 [5] (pf (lows sixL) 4) = true := pf_back (xs := sixL) (i := 4) (by decide)
theorem six_fits6 : fits (rootD (lows sixL)) 6 4 [6] (pf (lows sixL) 4) = false := by
  unfold fits
  rw [pf_six, climb, if_neg]
  · simp
  · intro e
    have e2 : (four (lows sixL) 1)[4 % 4]? = some (digest (leafIn [5])) := rfl
    rw [e2] at e
    exact dg56 (Option.some.inj e)
theorem six_fits3 : fits (rootD (lows sixL)) 6 3 [5] (pf (lows sixL) 4) = false := by
  apply fits_not
  rw [pf_six]
  simp only [pwhole, pf_six_len.1]
  decide

/-! ### Rows -/
theorem PfNew.cells {w0 w : World} {v : Value} {ps : List (List Dg)} (h : PfNew w0 w v ps) (h32 : ∀ p ∈ ps, All32 p) (h4 : ∀ p ∈ ps, p.length ≤ 4) (hne : ps ≠ []) : ∃ b c, v = .slice (some ⟨b, 0, none⟩) ps.length c ∧ ps.length ≤ c ∧ c ≤ maxLen ∧ b < w.heap.size ∧ w0.heap.size ≤ b ∧
    (∀ j (hj : j < ps.length), ∃ Aj, w.cell? ⟨b, j, none⟩ = some (.slice Aj ps[j].length ps[j].length)) ∧ PfAt w (fun j => w0.heap.size ≤ j ∧ j < w.heap.size) (some ⟨b, 0, none⟩) ps := by
  obtain ⟨A, c, rfl, hc1, hc2, hP⟩ := h.at_ h32 h4
  obtain ⟨vs, hrow, hc⟩ := h
  rcases hrow.2 with ⟨_, e⟩ | ⟨g, c', cur, e, hb0, hg, _⟩
  · exact absurd (List.eq_nil_of_length_eq_zero e) hne
  · injection e with e1 e2 e3
    subst e1
    refine ⟨g, c, rfl, hc1, hc2, row_lt hrow, hb0, fun j hj => ?_, hP⟩
    obtain ⟨r, o, h1, _⟩ := hc j hj
    have hz := World.ownsRow.cellAt hrow j (by omega)
    exact ⟨_, by rw [hz]; exact h1⟩

theorem bs_at (a w' : World) (z : Nat) (hz : a.heap.size = z) (x : UInt8) (v : Value) (hv : v = cb x) (t : TypeId) (hb : Below (z + 1) (a.alloc (.cells #[v] t)) w') : Bs w' (some ⟨z, 0, none⟩) [x] := by
  subst hz hv
  refine (Bs.made a t #[cb x] (0, 0) [x] rfl).after ?_
  rw [World.size_alloc]; exact hb
set_option maxRecDepth 100000 in
theorem six_lvs (w : World) : LvsAt (((((((w.alloc (.cells #[.int .u8 1] 5)).alloc (.cells #[.int .u8 2] 5)).alloc (.cells #[.int .u8 3] 5)).alloc (.cells #[.int .u8 4] 5)).alloc (.cells #[.int .u8 5] 5)).alloc (.cells #[.int .u8 6] 5)).alloc (.cells #[.slice (some ⟨w.heap.size, 0, none⟩) 1 1, .slice (some ⟨w.heap.size + 1, 0, none⟩) 1 1, .slice (some ⟨w.heap.size + 2, 0, none⟩) 1 1, .slice (some ⟨w.heap.size + 3, 0, none⟩) 1 1, .slice (some ⟨w.heap.size + 4, 0, none⟩) 1 1, .slice (some ⟨w.heap.size + 5, 0, none⟩) 1 1] 39)) (fun j => w.heap.size ≤ j ∧ j < (((((((w.alloc (.cells #[.int .u8 1] 5)).alloc (.cells #[.int .u8 2] 5)).alloc (.cells #[.int .u8 3] 5)).alloc (.cells #[.int .u8 4] 5)).alloc (.cells #[.int .u8 5] 5)).alloc (.cells #[.int .u8 6] 5)).alloc (.cells #[.slice (some ⟨w.heap.size, 0, none⟩) 1 1, .slice (some ⟨w.heap.size + 1, 0, none⟩) 1 1, .slice (some ⟨w.heap.size + 2, 0, none⟩) 1 1, .slice (some ⟨w.heap.size + 3, 0, none⟩) 1 1, .slice (some ⟨w.heap.size + 4, 0, none⟩) 1 1, .slice (some ⟨w.heap.size + 5, 0, none⟩) 1 1] 39)).heap.size) (some ⟨w.heap.size + 6, 0, none⟩) sixL := by
  have hr : (((((((w.alloc (.cells #[.int .u8 1] 5)).alloc (.cells #[.int .u8 2] 5)).alloc (.cells #[.int .u8 3] 5)).alloc (.cells #[.int .u8 4] 5)).alloc (.cells #[.int .u8 5] 5)).alloc (.cells #[.int .u8 6] 5)).alloc (.cells #[.slice (some ⟨w.heap.size, 0, none⟩) 1 1, .slice (some ⟨w.heap.size + 1, 0, none⟩) 1 1, .slice (some ⟨w.heap.size + 2, 0, none⟩) 1 1, .slice (some ⟨w.heap.size + 3, 0, none⟩) 1 1, .slice (some ⟨w.heap.size + 4, 0, none⟩) 1 1, .slice (some ⟨w.heap.size + 5, 0, none⟩) 1 1] 39)).heap[w.heap.size + 6]? = some (.cells #[.slice (some ⟨w.heap.size, 0, none⟩) 1 1, .slice (some ⟨w.heap.size + 1, 0, none⟩) 1 1, .slice (some ⟨w.heap.size + 2, 0, none⟩) 1 1, .slice (some ⟨w.heap.size + 3, 0, none⟩) 1 1, .slice (some ⟨w.heap.size + 4, 0, none⟩) 1 1, .slice (some ⟨w.heap.size + 5, 0, none⟩) 1 1] 39 (0, 0)) := by
    have := heap_alloc_new ((((((w.alloc (.cells #[.int .u8 1] 5)).alloc (.cells #[.int .u8 2] 5)).alloc (.cells #[.int .u8 3] 5)).alloc (.cells #[.int .u8 4] 5)).alloc (.cells #[.int .u8 5] 5)).alloc (.cells #[.int .u8 6] 5)) (.cells #[.slice (some ⟨w.heap.size, 0, none⟩) 1 1, .slice (some ⟨w.heap.size + 1, 0, none⟩) 1 1, .slice (some ⟨w.heap.size + 2, 0, none⟩) 1 1, .slice (some ⟨w.heap.size + 3, 0, none⟩) 1 1, .slice (some ⟨w.heap.size + 4, 0, none⟩) 1 1, .slice (some ⟨w.heap.size + 5, 0, none⟩) 1 1] 39)
    have hs : ((((((w.alloc (.cells #[.int .u8 1] 5)).alloc (.cells #[.int .u8 2] 5)).alloc (.cells #[.int .u8 3] 5)).alloc (.cells #[.int .u8 4] 5)).alloc (.cells #[.int .u8 5] 5)).alloc (.cells #[.int .u8 6] 5)).heap.size = w.heap.size + 6 := by simp
    rwa [hs] at this
  have b0 : Bs (((((((w.alloc (.cells #[.int .u8 1] 5)).alloc (.cells #[.int .u8 2] 5)).alloc (.cells #[.int .u8 3] 5)).alloc (.cells #[.int .u8 4] 5)).alloc (.cells #[.int .u8 5] 5)).alloc (.cells #[.int .u8 6] 5)).alloc (.cells #[.slice (some ⟨w.heap.size, 0, none⟩) 1 1, .slice (some ⟨w.heap.size + 1, 0, none⟩) 1 1, .slice (some ⟨w.heap.size + 2, 0, none⟩) 1 1, .slice (some ⟨w.heap.size + 3, 0, none⟩) 1 1, .slice (some ⟨w.heap.size + 4, 0, none⟩) 1 1, .slice (some ⟨w.heap.size + 5, 0, none⟩) 1 1] 39)) (some ⟨w.heap.size, 0, none⟩) [1] := bs_at w _ (w.heap.size) (by simp) 1 _ rfl 5 (((((((Below.refl _ _).alloc (by simp; try omega) _).alloc (by simp; try omega) _).alloc (by simp; try omega) _).alloc (by simp; try omega) _).alloc (by simp; try omega) _).alloc (by simp; try omega) _)
  have c0 : (((((((w.alloc (.cells #[.int .u8 1] 5)).alloc (.cells #[.int .u8 2] 5)).alloc (.cells #[.int .u8 3] 5)).alloc (.cells #[.int .u8 4] 5)).alloc (.cells #[.int .u8 5] 5)).alloc (.cells #[.int .u8 6] 5)).alloc (.cells #[.slice (some ⟨w.heap.size, 0, none⟩) 1 1, .slice (some ⟨w.heap.size + 1, 0, none⟩) 1 1, .slice (some ⟨w.heap.size + 2, 0, none⟩) 1 1, .slice (some ⟨w.heap.size + 3, 0, none⟩) 1 1, .slice (some ⟨w.heap.size + 4, 0, none⟩) 1 1, .slice (some ⟨w.heap.size + 5, 0, none⟩) 1 1] 39)).cell? ⟨w.heap.size + 6, 0, none⟩ = some (.slice (some ⟨w.heap.size, 0, none⟩) 1 1) := by rw [cell_of_row _ _ 0 _ _ (0, 0) hr]; rfl
  have b1 : Bs (((((((w.alloc (.cells #[.int .u8 1] 5)).alloc (.cells #[.int .u8 2] 5)).alloc (.cells #[.int .u8 3] 5)).alloc (.cells #[.int .u8 4] 5)).alloc (.cells #[.int .u8 5] 5)).alloc (.cells #[.int .u8 6] 5)).alloc (.cells #[.slice (some ⟨w.heap.size, 0, none⟩) 1 1, .slice (some ⟨w.heap.size + 1, 0, none⟩) 1 1, .slice (some ⟨w.heap.size + 2, 0, none⟩) 1 1, .slice (some ⟨w.heap.size + 3, 0, none⟩) 1 1, .slice (some ⟨w.heap.size + 4, 0, none⟩) 1 1, .slice (some ⟨w.heap.size + 5, 0, none⟩) 1 1] 39)) (some ⟨w.heap.size + 1, 0, none⟩) [2] := bs_at (w.alloc (.cells #[.int .u8 1] 5)) _ (w.heap.size + 1) (by simp) 2 _ rfl 5 ((((((Below.refl _ _).alloc (by simp; try omega) _).alloc (by simp; try omega) _).alloc (by simp; try omega) _).alloc (by simp; try omega) _).alloc (by simp; try omega) _)
  have c1 : (((((((w.alloc (.cells #[.int .u8 1] 5)).alloc (.cells #[.int .u8 2] 5)).alloc (.cells #[.int .u8 3] 5)).alloc (.cells #[.int .u8 4] 5)).alloc (.cells #[.int .u8 5] 5)).alloc (.cells #[.int .u8 6] 5)).alloc (.cells #[.slice (some ⟨w.heap.size, 0, none⟩) 1 1, .slice (some ⟨w.heap.size + 1, 0, none⟩) 1 1, .slice (some ⟨w.heap.size + 2, 0, none⟩) 1 1, .slice (some ⟨w.heap.size + 3, 0, none⟩) 1 1, .slice (some ⟨w.heap.size + 4, 0, none⟩) 1 1, .slice (some ⟨w.heap.size + 5, 0, none⟩) 1 1] 39)).cell? ⟨w.heap.size + 6, 1, none⟩ = some (.slice (some ⟨w.heap.size + 1, 0, none⟩) 1 1) := by rw [cell_of_row _ _ 1 _ _ (0, 0) hr]; rfl
  have b2 : Bs (((((((w.alloc (.cells #[.int .u8 1] 5)).alloc (.cells #[.int .u8 2] 5)).alloc (.cells #[.int .u8 3] 5)).alloc (.cells #[.int .u8 4] 5)).alloc (.cells #[.int .u8 5] 5)).alloc (.cells #[.int .u8 6] 5)).alloc (.cells #[.slice (some ⟨w.heap.size, 0, none⟩) 1 1, .slice (some ⟨w.heap.size + 1, 0, none⟩) 1 1, .slice (some ⟨w.heap.size + 2, 0, none⟩) 1 1, .slice (some ⟨w.heap.size + 3, 0, none⟩) 1 1, .slice (some ⟨w.heap.size + 4, 0, none⟩) 1 1, .slice (some ⟨w.heap.size + 5, 0, none⟩) 1 1] 39)) (some ⟨w.heap.size + 2, 0, none⟩) [3] := bs_at ((w.alloc (.cells #[.int .u8 1] 5)).alloc (.cells #[.int .u8 2] 5)) _ (w.heap.size + 2) (by simp) 3 _ rfl 5 (((((Below.refl _ _).alloc (by simp; try omega) _).alloc (by simp; try omega) _).alloc (by simp; try omega) _).alloc (by simp; try omega) _)
  have c2 : (((((((w.alloc (.cells #[.int .u8 1] 5)).alloc (.cells #[.int .u8 2] 5)).alloc (.cells #[.int .u8 3] 5)).alloc (.cells #[.int .u8 4] 5)).alloc (.cells #[.int .u8 5] 5)).alloc (.cells #[.int .u8 6] 5)).alloc (.cells #[.slice (some ⟨w.heap.size, 0, none⟩) 1 1, .slice (some ⟨w.heap.size + 1, 0, none⟩) 1 1, .slice (some ⟨w.heap.size + 2, 0, none⟩) 1 1, .slice (some ⟨w.heap.size + 3, 0, none⟩) 1 1, .slice (some ⟨w.heap.size + 4, 0, none⟩) 1 1, .slice (some ⟨w.heap.size + 5, 0, none⟩) 1 1] 39)).cell? ⟨w.heap.size + 6, 2, none⟩ = some (.slice (some ⟨w.heap.size + 2, 0, none⟩) 1 1) := by rw [cell_of_row _ _ 2 _ _ (0, 0) hr]; rfl
  have b3 : Bs (((((((w.alloc (.cells #[.int .u8 1] 5)).alloc (.cells #[.int .u8 2] 5)).alloc (.cells #[.int .u8 3] 5)).alloc (.cells #[.int .u8 4] 5)).alloc (.cells #[.int .u8 5] 5)).alloc (.cells #[.int .u8 6] 5)).alloc (.cells #[.slice (some ⟨w.heap.size, 0, none⟩) 1 1, .slice (some ⟨w.heap.size + 1, 0, none⟩) 1 1, .slice (some ⟨w.heap.size + 2, 0, none⟩) 1 1, .slice (some ⟨w.heap.size + 3, 0, none⟩) 1 1, .slice (some ⟨w.heap.size + 4, 0, none⟩) 1 1, .slice (some ⟨w.heap.size + 5, 0, none⟩) 1 1] 39)) (some ⟨w.heap.size + 3, 0, none⟩) [4] := bs_at (((w.alloc (.cells #[.int .u8 1] 5)).alloc (.cells #[.int .u8 2] 5)).alloc (.cells #[.int .u8 3] 5)) _ (w.heap.size + 3) (by simp) 4 _ rfl 5 ((((Below.refl _ _).alloc (by simp; try omega) _).alloc (by simp; try omega) _).alloc (by simp; try omega) _)
  have c3 : (((((((w.alloc (.cells #[.int .u8 1] 5)).alloc (.cells #[.int .u8 2] 5)).alloc (.cells #[.int .u8 3] 5)).alloc (.cells #[.int .u8 4] 5)).alloc (.cells #[.int .u8 5] 5)).alloc (.cells #[.int .u8 6] 5)).alloc (.cells #[.slice (some ⟨w.heap.size, 0, none⟩) 1 1, .slice (some ⟨w.heap.size + 1, 0, none⟩) 1 1, .slice (some ⟨w.heap.size + 2, 0, none⟩) 1 1, .slice (some ⟨w.heap.size + 3, 0, none⟩) 1 1, .slice (some ⟨w.heap.size + 4, 0, none⟩) 1 1, .slice (some ⟨w.heap.size + 5, 0, none⟩) 1 1] 39)).cell? ⟨w.heap.size + 6, 3, none⟩ = some (.slice (some ⟨w.heap.size + 3, 0, none⟩) 1 1) := by rw [cell_of_row _ _ 3 _ _ (0, 0) hr]; rfl
  have b4 : Bs (((((((w.alloc (.cells #[.int .u8 1] 5)).alloc (.cells #[.int .u8 2] 5)).alloc (.cells #[.int .u8 3] 5)).alloc (.cells #[.int .u8 4] 5)).alloc (.cells #[.int .u8 5] 5)).alloc (.cells #[.int .u8 6] 5)).alloc (.cells #[.slice (some ⟨w.heap.size, 0, none⟩) 1 1, .slice (some ⟨w.heap.size + 1, 0, none⟩) 1 1, .slice (some ⟨w.heap.size + 2, 0, none⟩) 1 1, .slice (some ⟨w.heap.size + 3, 0, none⟩) 1 1, .slice (some ⟨w.heap.size + 4, 0, none⟩) 1 1, .slice (some ⟨w.heap.size + 5, 0, none⟩) 1 1] 39)) (some ⟨w.heap.size + 4, 0, none⟩) [5] := bs_at ((((w.alloc (.cells #[.int .u8 1] 5)).alloc (.cells #[.int .u8 2] 5)).alloc (.cells #[.int .u8 3] 5)).alloc (.cells #[.int .u8 4] 5)) _ (w.heap.size + 4) (by simp) 5 _ rfl 5 (((Below.refl _ _).alloc (by simp; try omega) _).alloc (by simp; try omega) _)
  have c4 : (((((((w.alloc (.cells #[.int .u8 1] 5)).alloc (.cells #[.int .u8 2] 5)).alloc (.cells #[.int .u8 3] 5)).alloc (.cells #[.int .u8 4] 5)).alloc (.cells #[.int .u8 5] 5)).alloc (.cells #[.int .u8 6] 5)).alloc (.cells #[.slice (some ⟨w.heap.size, 0, none⟩) 1 1, .slice (some ⟨w.heap.size + 1, 0, none⟩) 1 1, .slice (some ⟨w.heap.size + 2, 0, none⟩) 1 1, .slice (some ⟨w.heap.size + 3, 0, none⟩) 1 1, .slice (some ⟨w.heap.size + 4, 0, none⟩) 1 1, .slice (some ⟨w.heap.size + 5, 0, none⟩) 1 1] 39)).cell? ⟨w.heap.size + 6, 4, none⟩ = some (.slice (some ⟨w.heap.size + 4, 0, none⟩) 1 1) := by rw [cell_of_row _ _ 4 _ _ (0, 0) hr]; rfl
  have b5 : Bs (((((((w.alloc (.cells #[.int .u8 1] 5)).alloc (.cells #[.int .u8 2] 5)).alloc (.cells #[.int .u8 3] 5)).alloc (.cells #[.int .u8 4] 5)).alloc (.cells #[.int .u8 5] 5)).alloc (.cells #[.int .u8 6] 5)).alloc (.cells #[.slice (some ⟨w.heap.size, 0, none⟩) 1 1, .slice (some ⟨w.heap.size + 1, 0, none⟩) 1 1, .slice (some ⟨w.heap.size + 2, 0, none⟩) 1 1, .slice (some ⟨w.heap.size + 3, 0, none⟩) 1 1, .slice (some ⟨w.heap.size + 4, 0, none⟩) 1 1, .slice (some ⟨w.heap.size + 5, 0, none⟩) 1 1] 39)) (some ⟨w.heap.size + 5, 0, none⟩) [6] := bs_at (((((w.alloc (.cells #[.int .u8 1] 5)).alloc (.cells #[.int .u8 2] 5)).alloc (.cells #[.int .u8 3] 5)).alloc (.cells #[.int .u8 4] 5)).alloc (.cells #[.int .u8 5] 5)) _ (w.heap.size + 5) (by simp) 6 _ rfl 5 ((Below.refl _ _).alloc (by simp; try omega) _)
  have c5 : (((((((w.alloc (.cells #[.int .u8 1] 5)).alloc (.cells #[.int .u8 2] 5)).alloc (.cells #[.int .u8 3] 5)).alloc (.cells #[.int .u8 4] 5)).alloc (.cells #[.int .u8 5] 5)).alloc (.cells #[.int .u8 6] 5)).alloc (.cells #[.slice (some ⟨w.heap.size, 0, none⟩) 1 1, .slice (some ⟨w.heap.size + 1, 0, none⟩) 1 1, .slice (some ⟨w.heap.size + 2, 0, none⟩) 1 1, .slice (some ⟨w.heap.size + 3, 0, none⟩) 1 1, .slice (some ⟨w.heap.size + 4, 0, none⟩) 1 1, .slice (some ⟨w.heap.size + 5, 0, none⟩) 1 1] 39)).cell? ⟨w.heap.size + 6, 5, none⟩ = some (.slice (some ⟨w.heap.size + 5, 0, none⟩) 1 1) := by rw [cell_of_row _ _ 5 _ _ (0, 0) hr]; rfl
  refine ⟨w.heap.size + 6, 0, rfl, ⟨by omega, by simp⟩, fun j hj => ?_⟩
  have hj6 : j = 0 ∨ j = 1 ∨ j = 2 ∨ j = 3 ∨ j = 4 ∨ j = 5 := by have : j < 6 := hj; omega
  rw [Nat.zero_add]
  rcases hj6 with rfl | rfl | rfl | rfl | rfl | rfl
  · exact ⟨_, 1, c0, Nat.le_refl _, by decide, b0, fun a e _ => by injection e with e; subst e; exact ⟨by simp, by simp; try omega⟩⟩
  · exact ⟨_, 1, c1, Nat.le_refl _, by decide, b1, fun a e _ => by injection e with e; subst e; exact ⟨by simp, by simp; try omega⟩⟩
  · exact ⟨_, 1, c2, Nat.le_refl _, by decide, b2, fun a e _ => by injection e with e; subst e; exact ⟨by simp, by simp; try omega⟩⟩
  · exact ⟨_, 1, c3, Nat.le_refl _, by decide, b3, fun a e _ => by injection e with e; subst e; exact ⟨by simp, by simp; try omega⟩⟩
  · exact ⟨_, 1, c4, Nat.le_refl _, by decide, b4, fun a e _ => by injection e with e; subst e; exact ⟨by simp, by simp; try omega⟩⟩
  · exact ⟨_, 1, c5, Nat.le_refl _, by decide, b5, fun a e _ => by injection e with e; subst e; exact ⟨by simp, by simp; try omega⟩⟩
/-- The result of six. -/
theorem six_any (w : World) : Calls Try.prog 24 #[] w fun e w' => ∃ b, e = .returned (.slice (some ⟨b, 0, none⟩) 6 6) ∧ LvsAt w' (fun j => w.heap.size ≤ j ∧ j < w'.heap.size) (some ⟨b, 0, none⟩) sixL ∧ Below w.heap.size w w' := by
  go_enter Try.func24, Try.ntmps24
  go_wp2
  go_ret
  refine ⟨w.heap.size + 6, rfl, six_lvs w, ?_⟩
  exact ((((((((Below.refl _ _).alloc (by simp) _).alloc (by simp) _).alloc (by simp; omega) _).alloc (by simp; omega) _).alloc (by simp; omega) _).alloc (by simp; omega) _).alloc (by simp; omega) _)

/-! ### A tree, its book, and a proof -/
section
variable {w0 w w' : World} {B g bm t m bnd : Nat} {M N N' : Nat → Prop} {cur : List (List UInt8)} {s0 s : Bk}
theorem Tb.keep (h : Tb w0 B g bm t m M N bnd cur s0 s w) (hb : Below w.heap.size w w') (hN : ∀ i, N' i → N i ∨ (w.heap.size ≤ i ∧ i < w'.heap.size)) : Tb w0 B g bm t m M N' bnd cur s0 s w' :=
  ⟨h.tree.below hb, h.kb.belowN hb (fun i hi => by
      rcases hi with hi | hi
      · rcases hN i hi with hi | hi
        · exact .inl (.inl hi)
        · exact .inr hi
      · exact .inl (.inr hi)), (h.out.then_below hb).wide (fun i hi hs => ⟨hs.1, fun e => by
      rcases hN i e with e | e
      · exact hs.2.1 e
      · have := h.out.size; omega, hs.2.2⟩), h.ge, h.len, h.has, h.good, h.b1, h.b2, h.hB⟩
theorem Tb.check (h : Tb w0 B g bm t m M N bnd cur s0 s w) (hb : bnd ≤ 900000) (root : Dg) (hr : root.length = 32) (i : Nat) (hi : i < m) (Ax : Option Addr) (nx cx : Nat) (x : List UInt8) (hBx : Bs w Ax x) (hnx : x.length = nx) (hcx : nx ≤ cx) (hcm : cx ≤ maxLen) (hx : nx ≤ 65535)
    (K : Nat → Prop) (A : Option Addr) (n c : Nat) (ps : List (List Dg)) (hP : PfAt w K A ps) (hn : ps.length = n) (hnm : n ≤ maxLen) (hK : ∀ j, K j → j < w.heap.size ∧ (j < B ∨ N j ∨ M j)) :
    Calls Try.prog 15 #[.pointer (some ⟨g, 0, none⟩), .agg (cbs root).toArray, .int .i64 (m : Int), .int .i64 (i : Int), .slice Ax nx cx, .slice A n c] w fun e w' =>
      e = .returned (.int .i64 (if fits root m i x ps then 0 else 100)) ∧ Tb w0 B g bm t m M N (bnd + 6) cur s0 (noteAll s (chkIn m i x ps)) w' ∧ Out (Tn B bm w (fun i => N i ∨ M i)) w w' := by
  have hm := h.m1
  have h1 := h.b1
  have h2 := h.b2
  refine (check_any B g bm s _ w h.kb (Nat.le_trans h.hB h.out.size) (by omega) (by omega) root hr m i hm.1 hm.2 hi Ax nx cx x hBx hnx hcx hcm hx K A n c ps hP hn hnm hK).mono ?_
  rintro e w' ⟨rfl, hK, hO⟩
  exact ⟨rfl, h.ask hK hO rfl (by have := chkIn_len (many := m) (i := i) x ps hm.1 hm.2; omega), hO⟩
theorem Tb.bel (h : Tb w0 B g bm t m M N bnd cur s0 s w) {wb : World} (hb : Below B wb w0) : Below B wb w := hb.trans (h.out.above (fun i hi => hi.1) h.hB)
end
end Go.Proofs.Ytcamgldilknanaa

namespace Go.Proofs.Ytcamgldilknanaa
open Go.RowKit Go.Maps
set_option linter.unusedVariables false

set_option maxRecDepth 100000 in
set_option maxHeartbeats 6400000 in
theorem works10_any (w : World) : Calls Try.prog 8 #[] w fun e w' => e = .returned (.bool true) ∧ Below w.heap.size w w' := by
  go_enter Try.func8, Try.ntmps8
  go_wp2_with fail
  refine (bnew_any _).mono ?_
  rintro e w1 ⟨S, g, bm, rfl, hS, hb, hb1⟩
  have hk1 := kb_new hS hb
  have Hk1 := Lib.hid (And.intro hk1 hb1)
  clear hS hb hk1 hb1
  go_wp2_with fail
  refine (six_any _).mono ?_
  rintro e w2 ⟨b, rfl, hL, hb2⟩
  have hk2 : Kb w.heap.size w2 g bm ([], false, 0) (fun j => w1.heap.size ≤ j ∧ j < w2.heap.size) := Hk1.out.1.belowN hb2 fun i hi => .inr hi
  have hmd := made_any w.heap.size g bm ([], false, 0) _ 0 w2 hk2 (Nat.le_trans Hk1.out.2.size hb2.size) (by decide) (Nat.zero_le _) (Nat.zero_le _) _ (some ⟨b, 0, none⟩) 6 6 sixL hL rfl (by decide) (by decide) (fun j hj => ⟨hj.2, .inr hj⟩)
  rw [six_cut] at hmd
  have Hmd := Lib.hid hmd
  have H2 := Lib.hid (Hk1.out.2.trans (hb2.mono Hk1.out.2.size))
  clear hL hk2 hmd hb2
  go_wp2_with fail
  refine Hmd.out.mono ?_
  rintro e w3 ⟨t, M, s3, rfl, hT3⟩
  obtain ⟨D, hD⟩ : ∃ D, cbs (rootD (lows sixL)) = D := ⟨_, rfl⟩
  have hrl : (rootD (lows sixL)).length = 32 := root_len (by rw [lows_len]; decide) (all32_lows _)
  have hD32 : D.length = 32 := by rw [← hD, cbs_length, hrl]
  have hD1 : D.toArray.all (·.oneCell') = true := by rw [← hD]; exact cbs_one' _
  have hr := troot_at hT3.tree
  rw [hD] at hr
  have Hr := Lib.hid hr
  have HD := Lib.hid (And.intro hD32 (And.intro hD1 (And.intro hD hrl)))
  have HT3 := Lib.hid hT3
  clear hD hrl hD32 hD1 hr hT3 Hmd
  go_wp2_with fail
  refine Hr.out.mono ?_
  rintro e w4 ⟨rfl, hb4⟩
  obtain ⟨w5, hw5, ⟨hth5, hi5⟩, hbS5, hbel5, hsz5⟩ := dig_local w4 D HD.out.1
  have hb35 : Below w3.heap.size w3 w5 := hb4.trans (hbel5.mono hb4.size)
  have hbd := build_in (HT3.out.below hb35).tree 4 (by rw [lows_len]; decide)
  have Hbd := Lib.hid hbd
  have Hw5 := Lib.hid hw5
  have Hs5 := Lib.hid (And.intro hth5 (And.intro hi5 HD.out.2.1))
  have H5 := Lib.hid (And.intro hb35 (And.intro hbS5 (And.intro hb4.size hsz5)))
  clear hb4 hw5 hth5 hi5 hbS5 hbel5 hsz5 hb35 hbd Hr
  go_wp2_with (refine wpList_store_mid rfl 31 _ _ rfl w4.heap.size 0 D.toArray rfl rfl Hs5.out.1 Hs5.out.2.1 Hs5.out.2.2 ?_; simp only [Act.put]; refine cast (congrArg (fun z => wpList _ _ _ _ _ z) Hw5.out.symm) ?_)
  refine Hbd.out.mono ?_
  rintro e w6 ⟨v, rfl, hP6, hb6⟩
  obtain ⟨pb, pc, rfl, hc1, hc2, hpb1, hpb2, hcell, hPf⟩ := hP6.cells (pf_all (all32_lows _) 4) (pf_four _ 4) (by rw [pf_six]; simp)
  have hpl : (pf (lows sixL) 4).length = 2 := by rw [pf_six]; rfl
  have c0 : ∃ A0, w6.cell? ⟨pb, 0, none⟩ = some (.slice A0 2 2) := by
    obtain ⟨A0, h⟩ := hcell 0 (by omega)
    have e : ((pf (lows sixL) 4)[0]'(by omega)).length = 2 := by simp only [pf_six]; exact pf_six_len.1
    rw [e] at h
    exact ⟨A0, h⟩
  have c1 : ∃ A1, w6.cell? ⟨pb, 1, none⟩ = some (.slice A1 2 2) := by
    obtain ⟨A1, h⟩ := hcell 1 (by omega)
    have e : ((pf (lows sixL) 4)[1]'(by omega)).length = 2 := by simp only [pf_six]; exact pf_six_len.2
    rw [e] at h
    exact ⟨A1, h⟩
  obtain ⟨A0, c0⟩ := c0
  obtain ⟨A1, c1⟩ := c1
  have hb36 : Below w3.heap.size w3 w6 := H5.out.1.trans (hb6.mono H5.out.1.size)
  have hpt := parts_in (HT3.out.below hb36).tree 0 (by rw [lows_len, six_len, dep_six]; decide) 1 (by rw [lows_len]; decide)
  have Hpt := Lib.hid hpt
  have H6 := Lib.hid (And.intro hb36 (And.intro (H5.out.2.1.below hb6 H5.out.2.1.lt) (And.intro hPf (And.intro c0 (And.intro c1 (And.intro hpb1 (And.intro hb6.size (And.intro hc1 (And.intro hc2 hpl)))))))))
  rw [hpl]
  clear hP6 hb6 hc1 hc2 hpb1 hpb2 hcell hPf hpl c0 c1 hb36 hpt Hbd
  go_wp2_with fail
  refine Hpt.out.mono ?_
  rintro e w7 ⟨pr, po, rfl, _, _, _, _, _, hb7⟩
  obtain ⟨hb36, hr6, hPf, c0, c1, hpb1, hz56, hc1, hc2, hpl⟩ := H6.out
  have hql : (four (lvl (lows sixL) 0) 1).length = 2 := pf_six_len.1
  rw [hql]
  have c0' : w7.cell? ⟨pb, 0, none⟩ = some (.slice A0 2 2) := (hb7.cell hpb1).trans c0
  have c1' : w7.cell? ⟨pb, 1, none⟩ = some (.slice A1 2 2) := (hb7.cell hpb1).trans c1
  have hb37 : Below w3.heap.size w3 w7 := hb36.trans (hb7.mono hb36.size)
  have hr7 := hr6.below hb7 hr6.lt
  have hz45 := H5.out.2.2.1
  have hz5 := H5.out.2.2.2
  have hz7 := hb7.size
  -- the first check
  have hbA : Below w7.heap.size w7 (w7.alloc (.cells #[.int .u8 5] 5)) := (Below.refl _ _).alloc (Nat.le_refl _) _
  have hPf7 : PfAt w7 (fun j => w3.heap.size ≤ j ∧ j < w7.heap.size) (some ⟨pb, 0, none⟩) (pf (lows sixL) 4) := (hPf.more (K' := fun j => w3.heap.size ≤ j ∧ j < w6.heap.size) fun j hj => ⟨by have := hj.1; omega, hj.2⟩).stays ⟨hb7.size, fun j hj => hb7.block j hj.2⟩ |>.more fun j hj => ⟨hj.1, by have := hj.2; omega⟩
  have hT7 := HT3.out.keep (N' := fun j => (w1.heap.size ≤ j ∧ j < w2.heap.size) ∨ (w3.heap.size ≤ j ∧ j < w7.heap.size)) hb37 fun i hi => hi
  have HP7 := Lib.hid (And.intro hPf7 (And.intro hpl (And.intro (show Blk w7 w4.heap.size 31 D from hr7) hT7)))
  have Hck1 := Lib.hid ((hT7.below hbA).check (by decide) (rootD (lows sixL)) HD.out.2.2.2 4 (by decide) (some ⟨w7.heap.size, 0, none⟩) 1 1 [5] (Bs.made w7 5 _ (0, 0) [5] rfl) rfl (Nat.le_refl _) (by decide) (by decide) _ (some ⟨pb, 0, none⟩) 2 pc (pf (lows sixL) 4) (hPf7.stays ⟨hbA.size, fun j hj => hbA.block j hj.2⟩) hpl (by decide) (fun j hj => ⟨by have := hj.2; have := hbA.size; omega, .inr (.inl (.inr hj))⟩))
  have hDi : (Try.prog.info? 31).map (·.size) = some D.length := by rw [HD.out.1]; exact info32b
  have hrr := hr7.range
  have H7 := Lib.hid (And.intro hDi hrr)
  rw [show fits (rootD (lows sixL)) sixL.length 4 [5] (pf (lows sixL) 4) = true from six_fits5, HD.out.2.2.1] at Hck1
  clear hb36 hr6 hPf c0 c1 hpb1 hc1 hc2 hpl hql hb37 hr7 hb7 hbA hPf7 hT7 hDi hrr Hpt
  go_wp2_with (refine load_mid_g (by rfl) 31 _ rfl w4.heap.size 0 rfl D _ H7.out.2 Try.underlying31 rfl H7.out.1 ?_; simp only [Act.put])
  refine Hck1.out.mono ?_
  rintro e w8 ⟨rfl, hT8, hO8⟩
  have Hz := Lib.hid (show w3.heap.size ≤ w4.heap.size ∧ w4.heap.size < w7.heap.size from ⟨hz45, by omega⟩)
  obtain ⟨hPf7, hpl, hr7, _⟩ := HP7.out
  have hbA : Below w7.heap.size w7 (w7.alloc (.cells #[.int .u8 5] 5)) := (Below.refl _ _).alloc (Nat.le_refl _) _
  have hzA := hbA.size
  have hr8 : Blk w8 w4.heap.size 31 D := hO8.blk (hr7.below hbA hr7.lt) (Tn.keep (.inl (.inr Hz.out)))
  have hPf8 : PfAt w8 (fun j => w3.heap.size ≤ j ∧ j < w7.heap.size) (some ⟨pb, 0, none⟩) (pf (lows sixL) 4) := hPf7.stays ⟨Nat.le_trans hzA hO8.size, fun j hj => (hO8.block j (by have := hj.2; omega) (Tn.keep (.inl (.inr hj)))).trans (hbA.block j hj.2)⟩
  have hz78 : w7.heap.size ≤ w8.heap.size := Nat.le_trans hzA hO8.size
  have HB := Lib.hid (show Below w8.heap.size w8 (w8.alloc (.cells #[.int .u8 6] 5)) from (Below.refl _ _).alloc (Nat.le_refl _) _)
  have Hck2 := Lib.hid ((hT8.below HB.out).check (by decide) (rootD (lows sixL)) HD.out.2.2.2 4 (by decide) (some ⟨w8.heap.size, 0, none⟩) 1 1 [6] (Bs.made w8 5 _ (0, 0) [6] rfl) rfl (Nat.le_refl _) (by decide) (by decide) _ (some ⟨pb, 0, none⟩) 2 pc (pf (lows sixL) 4) (hPf8.stays ⟨HB.out.size, fun j hj => HB.out.block j (by have := hj.2; omega)⟩) hpl (by decide) (fun j hj => ⟨by have := hj.2; have := HB.out.size; omega, .inr (.inl (.inr hj))⟩))
  rw [show fits (rootD (lows sixL)) sixL.length 4 [6] (pf (lows sixL) 4) = false from six_fits6, HD.out.2.2.1] at Hck2
  have H8 := Lib.hid hr8.range
  have HP8 := Lib.hid (And.intro hPf8 (And.intro hr8 hz78))
  clear hT8 hO8 hPf7 hpl hr7 hbA hzA hr8 hPf8 hz78 Hck1
  go_wp2_with (refine load_mid_g (by rfl) 31 _ rfl w4.heap.size 0 rfl D _ H8.out Try.underlying31 rfl H7.out.1 ?_; simp only [Act.put])
  refine Hck2.out.mono ?_
  rintro e w9 ⟨rfl, hT9, hO9⟩
  obtain ⟨hPf8, hr8, hz78⟩ := HP8.out
  have hpl := HP7.out.2.1
  have hzB := HB.out.size
  have hr9 : Blk w9 w4.heap.size 31 D := hO9.blk (hr8.below HB.out hr8.lt) (Tn.keep (.inl (.inr Hz.out)))
  have hPf9 : PfAt w9 (fun j => w3.heap.size ≤ j ∧ j < w7.heap.size) (some ⟨pb, 0, none⟩) (pf (lows sixL) 4) := hPf8.stays ⟨Nat.le_trans hzB hO9.size, fun j hj => (hO9.block j (by have := hj.2; omega) (Tn.keep (.inl (.inr hj)))).trans (HB.out.block j (by have := hj.2; omega))⟩
  have hz79 : w7.heap.size ≤ w9.heap.size := by have := hO9.size; omega
  have HC := Lib.hid (show Below w9.heap.size w9 (w9.alloc (.cells #[.int .u8 5] 5)) from (Below.refl _ _).alloc (Nat.le_refl _) _)
  have Hck3 := Lib.hid ((hT9.below HC.out).check (by decide) (rootD (lows sixL)) HD.out.2.2.2 3 (by decide) (some ⟨w9.heap.size, 0, none⟩) 1 1 [5] (Bs.made w9 5 _ (0, 0) [5] rfl) rfl (Nat.le_refl _) (by decide) (by decide) _ (some ⟨pb, 0, none⟩) 2 pc (pf (lows sixL) 4) (hPf9.stays ⟨HC.out.size, fun j hj => HC.out.block j (by have := hj.2; omega)⟩) hpl (by decide) (fun j hj => ⟨by have := hj.2; have := HC.out.size; omega, .inr (.inl (.inr hj))⟩))
  rw [show fits (rootD (lows sixL)) sixL.length 3 [5] (pf (lows sixL) 4) = false from six_fits3, HD.out.2.2.1] at Hck3
  have H9 := Lib.hid hr9.range
  clear hT9 hO9 hPf8 hr8 hz78 hpl hzB hr9 hPf9 hz79 Hck2
  go_wp2_with (refine load_mid_g (by rfl) 31 _ rfl w4.heap.size 0 rfl D _ H9.out Try.underlying31 rfl H7.out.1 ?_; simp only [Act.put])
  refine Hck3.out.mono ?_
  rintro e wF ⟨rfl, hTF, hOF⟩
  have HF := Lib.hid (hTF.bel H2.out)
  clear hTF hOF Hck3
  go_wp2
  go_ret
  exact ⟨rfl, HF.out⟩
/-- Leaves that came in. -/
theorem lvs_of_arg {w : World} {A : Option Addr} {n c : Nat} {ls : List (List UInt8)} (h : ArgL w A n c ls) (hne : ls ≠ []) : LvsAt w (fun j => j < w.heap.size) A ls := by
  obtain ⟨_, _, _, h⟩ := h
  obtain ⟨b, off, e, hb, hc⟩ := h hne
  refine ⟨b, off, e, hb, fun j hj => ?_⟩
  obtain ⟨Aj, cj, h1, h2, h3, h4⟩ := hc j hj
  refine ⟨Aj, cj, h1, h2, h3, h4, fun a e hn => ?_⟩
  obtain ⟨b', off', e', hb', _⟩ := h4.2 (List.length_pos_iff.2 hn)
  rw [e'] at e
  injection e with e
  subst e
  exact hb'
end Go.Proofs.Ytcamgldilknanaa

namespace Go.Proofs.Ytcamgldilknanaa
open Go.RowKit Go.Maps
set_option linter.unusedVariables false

section
variable (v lb pf : Value) (root : Dg) (lv lf : Int) (w : World)
set_option maxRecDepth 100000 in
theorem check_args (h : lv < 1 ∨ 1024 < lv) : Calls Try.prog 15 #[v, .agg (cbs root).toArray, .int .i64 lv, .int .i64 lf, lb, pf] w fun e w' => e = .returned (.int .i64 2) ∧ Below w.heap.size w w' := by
  obtain ⟨R, hR⟩ : ∃ R, cbs root = R := ⟨_, rfl⟩
  have Hb := Lib.hid (show Below w.heap.size w (w.alloc (.cells R.toArray 31)) from (Below.refl _ _).alloc (Nat.le_refl _) _)
  rw [hR]
  clear hR
  obtain ⟨hc, _⟩ : ((decide (lv < 1) = true) ∨ (decide (lv < 1) = false ∧ decide ((1024 : Int) < lv) = true)) ∧ True := ⟨by
    by_cases h0 : lv < 1
    · exact .inl (by simp; omega)
    · exact .inr ⟨by simp; omega, by simp; omega⟩, trivial⟩
  clear h
  rcases hc with h1 | ⟨h1, h2⟩
  all_goals
    go_enter Try.func15, Try.ntmps15
    go_wp2
    go_ret
    exact ⟨rfl, Hb.out⟩
set_option maxRecDepth 100000 in
theorem check_range (h1 : 1 ≤ lv) (h2 : lv ≤ 1024) (h : lf < 0 ∨ lv ≤ lf) : Calls Try.prog 15 #[v, .agg (cbs root).toArray, .int .i64 lv, .int .i64 lf, lb, pf] w fun e w' => e = .returned (.int .i64 9) ∧ Below w.heap.size w w' := by
  obtain ⟨R, hR⟩ : ∃ R, cbs root = R := ⟨_, rfl⟩
  have Hb := Lib.hid (show Below w.heap.size w (w.alloc (.cells R.toArray 31)) from (Below.refl _ _).alloc (Nat.le_refl _) _)
  rw [hR]
  clear hR
  have b1 : decide (lv < 1) = false := by simp; omega
  have b2 : decide ((1024 : Int) < lv) = false := by simp; omega
  obtain ⟨hc, _⟩ : ((decide (lf < 0) = true) ∨ (decide (lf < 0) = false ∧ decide (lv ≤ lf) = true)) ∧ True := ⟨by
    by_cases h0 : lf < 0
    · exact .inl (by simp; omega)
    · exact .inr ⟨by simp; omega, by simp; omega⟩, trivial⟩
  clear h h1 h2
  rcases hc with h1 | ⟨h1, h2⟩
  all_goals
    go_enter Try.func15, Try.ntmps15
    go_wp2
    go_ret
    exact ⟨rfl, Hb.out⟩
set_option maxRecDepth 100000 in
set_option maxHeartbeats 1600000 in
theorem check_leaf (A : Option Addr) (n cp : Nat) (c : Int) (hc : c ≠ 0) (Q : World → Prop) (h1 : 1 ≤ lv) (h2 : lv ≤ 1024) (h3 : 0 ≤ lf) (h4 : lf < lv)
    (hin : Calls Try.prog 29 #[v, .slice A n cp] (w.alloc (.cells (cbs root).toArray 31)) fun e w1 => e = .returned (.tuple #[.agg (cbs (List.replicate 32 0)).toArray, .int .i64 c]) ∧ Q w1) :
    Calls Try.prog 15 #[v, .agg (cbs root).toArray, .int .i64 lv, .int .i64 lf, .slice A n cp, pf] w (FitsP Q c) := by
  obtain ⟨R, hR⟩ : ∃ R, cbs root = R := ⟨_, rfl⟩
  obtain ⟨D, hD⟩ : ∃ D, cbs (List.replicate 32 0) = D := ⟨_, rfl⟩
  have hD32 : D.length = 32 := by rw [← hD, cbs_length]; rfl
  have hD1 : D.toArray.all (·.oneCell') = true := by rw [← hD]; exact cbs_one' _
  rw [hD, hR] at hin
  rw [hR]
  have b1 : decide (lv < 1) = false := by simp; omega
  have b2 : decide ((1024 : Int) < lv) = false := by simp; omega
  have b3 : decide (lf < 0) = false := by simp; omega
  have b4 : decide (lv ≤ lf) = false := by simp; omega
  have Hin := Lib.hid hin
  have HD := Lib.hid (And.intro hD32 hD1)
  have hc2 : (c != 0) = true := by simp [hc]
  clear hin hD32 hD1 hR hD hc h1 h2 h3 h4
  go_enter Try.func15, Try.ntmps15
  go_wp2_with fail
  refine Hin.out.mono ?_
  rintro e w1 ⟨rfl, hq1⟩
  obtain ⟨wS, hwS, ⟨hth, hiS⟩, hbS, hbel, hszS⟩ := dig_local w1 D HD.out.1
  have Hs := Lib.hid (And.intro hth (And.intro hiS HD.out.2))
  have HwS := Lib.hid hwS
  have H1 := Lib.hid (And.intro hq1 hbel)
  clear hwS hth hiS hbS hbel hszS hq1 Hin
  go_wp2_with (refine wpList_store_mid rfl 31 _ _ rfl w1.heap.size 0 D.toArray rfl rfl Hs.out.1 Hs.out.2.1 Hs.out.2.2 ?_; simp only [Act.put]; refine cast (congrArg (fun z => wpList _ _ _ _ _ z) HwS.out.symm) ?_)
  go_ret
  exact ⟨rfl, w1, H1.out.1, H1.out.2⟩
end
theorem check_long (v pf : Value) (root : Dg) (lv lf : Int) (w : World) (A : Option Addr) (n cp : Nat) (hn : 65535 < n) (h1 : 1 ≤ lv) (h2 : lv ≤ 1024) (h3 : 0 ≤ lf) (h4 : lf < lv) :
    Calls Try.prog 15 #[v, .agg (cbs root).toArray, .int .i64 lv, .int .i64 lf, .slice A n cp, pf] w fun e w' => e = .returned (.int .i64 5) ∧ Below w.heap.size w w' := by
  have hbA : Below w.heap.size w (w.alloc (.cells (cbs root).toArray 31)) := (Below.refl _ _).alloc (Nat.le_refl _) _
  refine (check_leaf v pf root lv lf w A n cp 5 (by decide) (fun w1 => Below w.heap.size w w1) h1 h2 h3 h4 ((leaf_long v A n cp _ hn).mono ?_)).mono ?_
  · rintro e w1 ⟨rfl, hb⟩
    exact ⟨rfl, hbA.trans (hb.mono hbA.size)⟩
  · rintro e w' ⟨rfl, w1, hb1, hb⟩
    exact ⟨rfl, hb1.trans (hb.mono hb1.size)⟩

/-- Any claim over a tree's leaves. -/
def CheckAll (w0 : World) (B g bm t m : Nat) (M N : Nat → Prop) (bnd : Nat) (cur : List (List UInt8)) (s0 s : Bk) (root : Dg) (lf : Int) (x : List UInt8) (ps : List (List Dg)) (w : World) (e : Ending) (w' : World) : Prop :=
  ∃ (c : Int) (s' : Bk), e = .returned (.int .i64 c) ∧ Tb w0 B g bm t m M N (bnd + 6) cur s0 s' w' ∧ Out (Tn B bm w (fun i => N i ∨ M i)) w w' ∧
    (c = 0 → ∃ i : Nat, lf = (i : Int) ∧ i < m ∧ x.length ≤ 65535 ∧ s' = noteAll s (chkIn m i x ps) ∧ fits root m i x ps = true)
theorem Tb.checkAll {w0 w : World} {B g bm t m bnd : Nat} {M N : Nat → Prop} {cur : List (List UInt8)} {s0 s : Bk} (h : Tb w0 B g bm t m M N bnd cur s0 s w) (hb : bnd ≤ 900000) (root : Dg) (hr : root.length = 32) (lf : Int) (Ax : Option Addr) (nx cx : Nat) (x : List UInt8) (hBx : Bs w Ax x) (hnx : x.length = nx) (hcx : nx ≤ cx) (hcm : cx ≤ maxLen)
    (K : Nat → Prop) (A : Option Addr) (n c : Nat) (ps : List (List Dg)) (hP : PfAt w K A ps) (hn : ps.length = n) (hnm : n ≤ maxLen) (hK : ∀ j, K j → j < w.heap.size ∧ (j < B ∨ N j ∨ M j)) :
    Calls Try.prog 15 #[.pointer (some ⟨g, 0, none⟩), .agg (cbs root).toArray, .int .i64 (m : Int), .int .i64 lf, .slice Ax nx cx, .slice A n c] w (CheckAll w0 B g bm t m M N bnd cur s0 s root lf x ps w) := by
  have hm := h.m1
  by_cases hlf : lf < 0 ∨ (m : Int) ≤ lf
  · refine (check_range _ _ _ root m lf w (by omega) (by omega) hlf).mono ?_
    rintro e w' ⟨rfl, hb⟩
    exact ⟨9, s, rfl, (h.below hb).more (by omega), Out.ofBelow _ hb, fun e => by cases e⟩
  · obtain ⟨i, hi⟩ : ∃ i : Nat, lf = (i : Int) := ⟨lf.toNat, by omega⟩
    subst hi
    by_cases hx : nx ≤ 65535
    · refine (h.check hb root hr i (by omega) Ax nx cx x hBx hnx hcx hcm hx K A n c ps hP hn hnm hK).mono ?_
      rintro e w' ⟨rfl, hT, hO⟩
      refine ⟨_, _, rfl, hT, hO, fun e => ⟨i, rfl, by omega, by omega, rfl, ?_⟩⟩
      cases hf : fits root m i x ps with
      | true => rfl
      | false => rw [hf] at e; cases e
    · refine (check_long _ _ root m i w Ax nx cx (by omega) (by omega) (by omega) (by omega) (by omega)).mono ?_
      rintro e w' ⟨rfl, hb⟩
      exact ⟨5, s, rfl, (h.below hb).more (by omega), Out.ofBelow _ hb, fun e => by cases e⟩
section
variable {w0 w : World} {B g bm t m bnd : Nat} {M N : Nat → Prop} {cur : List (List UInt8)} {s0 s : Bk}
theorem Tb.fits (h : Tb w0 B g bm t m M N bnd cur s0 s w) (hb : bnd ≤ 900000) (A : Option Addr) (n cp : Nat) (d : Dg) (hd : d.length = 32) (ds : List Dg) (hD : Ds w A ds) (h32 : All32 ds) (hn : ds.length = n) (h1 : 1 ≤ n) (h4 : n ≤ 4) :
    Calls Try.prog 22 #[.pointer (some ⟨g, 0, none⟩), .agg (cbs d).toArray, .slice A n cp] w fun e w' => e = .returned (.int .i64 (if digest (upIn ds) = d then 0 else 100)) ∧ Tb w0 B g bm t m M N (bnd + 1) cur s0 (stepL s (upIn ds)) w' ∧ Out (Tn B bm w (fun i => N i ∨ M i)) w w' := by
  have b1 := h.b1
  have b2 := h.b2
  refine (fits_kb B g bm s _ A n cp d hd ds w h.kb (Nat.le_trans h.hB h.out.size) (by omega) (by omega) hD h32 hn h1 h4).mono ?_
  rintro e w' ⟨rfl, hK, hO⟩
  exact ⟨rfl, h.ask (ins := [upIn ds]) hK hO rfl (Nat.le_refl _), hO⟩
theorem Tb.leaffits (h : Tb w0 B g bm t m M N bnd cur s0 s w) (hb : bnd ≤ 900000) (A : Option Addr) (n cp : Nat) (d : Dg) (hd : d.length = 32) (x : List UInt8) (hB : Bs w A x) (hn : x.length = n) (hc : n ≤ cp) (hcm : cp ≤ maxLen) (hs : n ≤ 65535) :
    Calls Try.prog 20 #[.pointer (some ⟨g, 0, none⟩), .agg (cbs d).toArray, .slice A n cp] w fun e w' => e = .returned (.int .i64 (if digest (leafIn x) = d then 0 else 100)) ∧ Tb w0 B g bm t m M N (bnd + 1) cur s0 (stepL s (leafIn x)) w' ∧ Out (Tn B bm w (fun i => N i ∨ M i)) w w' := by
  have b1 := h.b1
  have b2 := h.b2
  refine (leaffits_kb B g bm s _ A n cp d hd x w h.kb (Nat.le_trans h.hB h.out.size) (by omega) (by omega) hB hn hc hcm hs).mono ?_
  rintro e w' ⟨rfl, hK, hO⟩
  exact ⟨rfl, h.ask (ins := [leafIn x]) hK hO rfl (Nat.le_refl _), hO⟩
end
end Go.Proofs.Ytcamgldilknanaa

namespace Go.Proofs.Ytcamgldilknanaa
open Go.RowKit Go.Maps
set_option linter.unusedVariables false

section
variable {P : Program} {ops : Array Oper} {Q : Exit → Act → World → Prop}
theorem wpList_rowS {rest : List Oper} {o : Oper} {a : Act} {w : World} (hgd : o.guard = none) (t : TypeId) (n : Nat) (parts : Array (Nat × Operand)) (ho : o.op = .buildSlice t n parts)
    (v : Value) (w' : World) (hrun : (Instr.buildSlice t n (parts.map fun p => (p.1, a.eval p.2))).run P w = .ok v w') (h : wpList P ops Q rest (a.put o.dst v) w') : wpList P ops Q (o :: rest) a w := by
  refine wpList_plain hgd fun K hK => ?_
  have he' : (Instr.buildSlice t n (parts.map fun (i, x) => (i, a.eval x))).run P w = .ok v w' := hrun
  unfold Oper.wp execOp
  simp only [ho, Sem.run_bind, he', Result.andThen_ok]
  exact hK _ _ h
end
theorem sl_frontP (g n c k : Nat) (h1 : k ≤ c) (h2 : 1 ≤ c) (w : World) : (Instr.sliceAt 35 (.slice (some ⟨g, 0, none⟩) n c) none (some (.int .i64 (k : Int))) none).run Try.prog w = .ok (.slice (some ⟨g, 0, none⟩) k c) w := by
  have a3 : (k : Int) ≤ (c : Int) := by omega
  have a4 : ¬ (c = 0) := by omega
  go_simp
theorem sl_frontD (g n c k : Nat) (h1 : k ≤ c) (h2 : 1 ≤ c) (w : World) : (Instr.sliceAt 45 (.slice (some ⟨g, 0, none⟩) n c) none (some (.int .i64 (k : Int))) none).run Try.prog w = .ok (.slice (some ⟨g, 0, none⟩) k c) w := by
  have a3 : (k : Int) ≤ (c : Int) := by omega
  have a4 : ¬ (c = 0) := by omega
  go_simp
theorem PfAt.take {w : World} {K : Nat → Prop} {A : Option Addr} {ps : List (List Dg)} (h : PfAt w K A ps) (k : Nat) : PfAt w K A (ps.take k) := fun hne => by
  obtain ⟨b, off, e, hb, hc⟩ := h (by rintro rfl; simp at hne)
  refine ⟨b, off, e, hb, fun j hj => ?_⟩
  have hj2 : j < ps.length := by rw [List.length_take] at hj; omega
  have e2 : (ps.take k)[j] = ps[j] := List.getElem_take
  rw [e2]
  exact hc j hj2
theorem own_take {w : World} {base g n c k : Nat} {ds : List Dg} (h : w.ownsRow base 31 32 (.slice (some ⟨g, 0, none⟩) n c) n (cbs ds.flatten)) (h32 : All32 ds) (hk : k ≤ n) : w.ownsRow base 31 32 (.slice (some ⟨g, 0, none⟩) k c) k (cbs (ds.take k).flatten) := by
  have e1 : (ds.take k).flatten = ds.flatten.take (32 * k) := (flat_take h32 k).symm
  have hl := h.1
  obtain ⟨_, ⟨e, _⟩ | ⟨g', cap, cur, e, hb, hg, hnc, hcm, hsz, hcur⟩⟩ := h
  · cases e
  · injection e with e2 e3 e4
    injection e2 with e2
    injection e2 with e2 _
    subst e2 e4
    have e5 : cbs (ds.take k).flatten = (cbs ds.flatten).take (k * 32) := by rw [e1, cbs_take, Nat.mul_comm]
    refine ⟨?_, .inr ⟨g, c, cur, rfl, hb, hg, by omega, hcm, hsz, ?_⟩⟩
    · rw [e5, List.length_take]; omega
    · rw [e5, ← hcur, List.take_take]
      congr 1
      omega
theorem row_dg (w : World) (base : Nat) (D : List Value) (hD : D.length = 32) (hb : base ≤ w.heap.size) : (w.alloc (.cells D.toArray 31)).ownsRow base 31 32 (.slice (some ⟨w.heap.size, 0, none⟩) 1 1) 1 D :=
  ⟨by omega, .inr ⟨w.heap.size, 1, D.toArray, rfl, hb, heap_alloc_new w _, Nat.le_refl _, by decide, by simp [hD], by simp; rw [List.take_of_length_le (by omega)]⟩⟩
theorem row_ds (w : World) (D : List Value) (d : Dg) (hd : d.length = 32) (h : cbs d = D) : Ds (w.alloc (.cells D.toArray 31)) (some ⟨w.heap.size, 0, none⟩) [d] := by
  have h2 := row_dg w w.heap.size D (by rw [← h, cbs_length, hd]) (Nat.le_refl _)
  have e : cbs ([d] : List Dg).flatten = D := by simpa using h
  have h3 : (w.alloc (.cells D.toArray 31)).ownsRow w.heap.size 31 32 (.slice (some ⟨w.heap.size, 0, none⟩) [d].length 1) [d].length (cbs ([d] : List Dg).flatten) := by rw [e]; exact h2
  exact Shows.ofOwn h3
end Go.Proofs.Ytcamgldilknanaa

namespace Go.Proofs.Ytcamgldilknanaa
open Go.ChangeShapes Go.WideShapes Go.ChangeAt Go.RowKit
set_option linter.unusedVariables false

section
variable {H : Type} {enc : TypeId × Value → H} {w : World}
theorem trodG {fuel : Nat} {cs : List Value} {x : DataW H × List MemPlace} (h : DataW.trod enc Try.prog w 0 (fun _ => true) true fuel 45 cs = some x) : ∃ (A : Option Addr) (c : Nat) (ds : List Dg), cs = [.slice A ds.length c] ∧ ds.length ≤ c ∧ c ≤ maxLen ∧ All32 ds ∧ Ds w A ds := by
  have hC : Try.prog.cellsOf 31 = 32 := by kernel_rfl
  rcases Go.Deep.open_slice Try.underlying45 h with ⟨hcs, _⟩ | ⟨a, n, c, m, k, D, Pl, hcs, _, hl, hm, hmm, _, hi⟩
  · exact ⟨none, 0, [], hcs, Nat.le_refl _, by simp [maxLen], fun d hd => by simp at hd, Ds.nil _ _⟩
  · rw [hC] at hi
    have hm' : n ≤ m := by rw [hmm]; simp; omega
    rcases Nat.eq_zero_or_pos n with h0 | hpos
    · subst h0
      exact ⟨some a, c, [], hcs, hl, hm, fun d hd => by simp at hd, Ds.nil _ _⟩
    have hs : a.spot = none := by
      obtain ⟨cs', hc, ht⟩ := hi 0 (by omega)
      obtain ⟨x, hx, k0⟩ := trod_dg ht
      obtain ⟨_, _, hat⟩ := World.cells?_some hc
      have h1 := hat 0 (by omega)
      rw [k0 0 (by omega), cbs_get, List.getElem?_eq_getElem (by omega)] at h1
      have e : a.add (0 * 32) = a := by unfold Addr.add; simp
      rw [e] at h1
      exact spot_of h1
    obtain ⟨b, off, spot⟩ := a
    simp only at hs
    subst hs
    have key : ∀ r, r < n → ∃ x : Dg, x.length = 32 ∧ ∀ i, i < 32 → w.cell? ⟨b, off + r * 32 + i, none⟩ = (cbs x)[i]? := fun r hr => by
      obtain ⟨cs', hc, ht⟩ := hi r (by omega)
      obtain ⟨x, hx, k0⟩ := trod_dg ht
      obtain ⟨_, _, hat⟩ := World.cells?_some hc
      refine ⟨x, hx, fun i hi => ?_⟩
      have := hat i (by omega)
      rw [add_mk, add_mk] at this
      exact this.trans (k0 i hi)
    obtain ⟨ls, hlen, hls⟩ := choose_any n key
    have h32 : All32 ls := fun d hd => by
      obtain ⟨j, hj, rfl⟩ := List.mem_iff_getElem.1 hd
      exact (hls j hj).1
    have hlt : b < w.heap.size := by
      obtain ⟨hx, h0⟩ := hls 0 (by omega)
      have h1 := h0 0 (by omega)
      rw [cbs_get, List.getElem?_eq_getElem (by omega)] at h1
      exact World.block_lt_of_cell? w _ h1
    exact ⟨some ⟨b, off, none⟩, c, ls, by rw [hlen]; exact hcs, by omega, hm, h32, ds_of h32 rfl hlt fun r hr i hi => (hls r hr).2 i hi⟩
theorem trodGG {fuel : Nat} {cs : List Value} {x : DataW H × List MemPlace} (h : DataW.trod enc Try.prog w 0 (fun _ => true) true fuel 35 cs = some x) : ∃ (A : Option Addr) (c : Nat) (ps : List (List Dg)), cs = [.slice A ps.length c] ∧ ps.length ≤ c ∧ c ≤ maxLen ∧ PfAt w (fun j => j < w.heap.size) A ps := by
  have hC : Try.prog.cellsOf 45 = 1 := by kernel_rfl
  rcases Go.Deep.open_slice Try.underlying35 h with ⟨hcs, _⟩ | ⟨a, n, c, m, k, D, Pl, hcs, _, hl, hm, hmm, _, hi⟩
  · exact ⟨none, 0, [], hcs, Nat.le_refl _, by simp [maxLen], fun hne => absurd rfl hne⟩
  · rw [hC] at hi
    have hm' : n ≤ m := by rw [hmm]; simp; omega
    rcases Nat.eq_zero_or_pos n with h0 | hpos
    · subst h0
      exact ⟨some a, c, [], hcs, hl, hm, fun hne => absurd rfl hne⟩
    have hs : a.spot = none := by
      obtain ⟨cs', hc, ht⟩ := hi 0 (by omega)
      obtain ⟨A', c', ds, e, _⟩ := trodG ht
      obtain ⟨_, _, hat⟩ := World.cells?_some hc
      have h1 := hat 0 (by omega)
      rw [e] at h1
      have e : a.add (0 * 1) = a := by unfold Addr.add; simp
      rw [e] at h1
      exact spot_of h1
    obtain ⟨b, off, spot⟩ := a
    simp only at hs
    subst hs
    have key : ∀ r, r < n → ∃ x : List Dg, ∃ Aj cj, w.cell? ⟨b, off + r, none⟩ = some (.slice Aj x.length cj) ∧ x.length ≤ cj ∧ cj ≤ maxLen ∧ All32 x ∧ Ds w Aj x := fun r hr => by
      obtain ⟨cs', hc, ht⟩ := hi r (by omega)
      obtain ⟨A', c', ds, e, k1, k2, k3, k4⟩ := trodG ht
      obtain ⟨_, _, hat⟩ := World.cells?_some hc
      have h1 := hat 0 (by omega)
      rw [add_mk, add_mk, e, Nat.mul_one] at h1
      exact ⟨ds, A', c', h1, k1, k2, k3, k4⟩
    obtain ⟨ls, hlen, hls⟩ := choose_any n key
    have hlt : b < w.heap.size := by
      obtain ⟨Aj, cj, h0, _⟩ := hls 0 (by omega)
      exact World.block_lt_of_cell? w _ h0
    refine ⟨some ⟨b, off, none⟩, c, ls, by rw [hlen]; exact hcs, by omega, hm, fun _ => ⟨b, off, rfl, hlt, fun j hj => ?_⟩⟩
    obtain ⟨Aj, cj, h0, h1, h2, h3, h4⟩ := hls j hj
    refine ⟨Aj, cj, h0, h1, h2, h3, h4, fun a e hne => ?_⟩
    obtain ⟨b', off', e', hb'⟩ := h4.off hne
    rw [e'] at e
    injection e with e
    subst e
    exact hb'
/-- The cells of a claim. -/
def clCells (rt : Dg) (lv lf : Int) (AB : Option Addr) (nB cB : Nat) (AP : Option Addr) (nP cP : Nat) : List Value := cbs rt ++ [.int .i64 lv, .int .i64 lf, .slice AB nB cB, .slice AP nP cP]
def ArgCl (w : World) (rt : Dg) (lv lf : Int) (AB : Option Addr) (nB cB : Nat) (bs : List UInt8) (AP : Option Addr) (nP cP : Nat) (ps : List (List Dg)) : Prop :=
  rt.length = 32 ∧ (Lit.int .i64 lv).wf = true ∧ (Lit.int .i64 lf).wf = true ∧ (bs.length = nB ∧ nB ≤ cB ∧ cB ≤ maxLen ∧ Bs w AB bs) ∧ (ps.length = nP ∧ nP ≤ cP ∧ cP ≤ maxLen ∧ PfAt w (fun j => j < w.heap.size) AP ps)
set_option maxRecDepth 100000 in
theorem openCl {v : Value} {r : Reach} {b0 : Nat} {d : DataW H} {p : List MemPlace} (hv : Value.okWide Try.prog w r b0 42 v) (h : DataW.Trod enc Try.prog w 0 (fun _ => true) true 42 v d p) :
    ∃ rt lv lf AB nB cB bs AP nP cP ps, v = .agg (clCells rt lv lf AB nB cB AP nP cP).toArray ∧ ArgCl w rt lv lf AB nB cB bs AP nP cP ps := by
  obtain ⟨cs, rfl, hsz⟩ := okWide_struct Try.underlying42 hv
  obtain ⟨fuel, hf⟩ := h
  obtain ⟨xs, n, _, hxe, _, hlen, hg⟩ := DataW.trod_struct Try.underlying42 hf
  have c0 : Try.prog.cellsOf 31 = 32 := by kernel_rfl
  have c1 : Try.prog.cellsOf 3 = 1 := by kernel_rfl
  have c2 : Try.prog.cellsOf 39 = 1 := by kernel_rfl
  have c3 : Try.prog.cellsOf 35 = 1 := by kernel_rfl
  have g0 : DataW.trod enc Try.prog w 0 (fun _ => true) true n 31 ((cs.toList.drop 0).take (Try.prog.cellsOf 31)) = xs[0]? := hg 0 _ rfl
  have g1 : DataW.trod enc Try.prog w 0 (fun _ => true) true n 3 ((cs.toList.drop 32).take (Try.prog.cellsOf 3)) = xs[1]? := hg 1 _ rfl
  have g2 : DataW.trod enc Try.prog w 0 (fun _ => true) true n 3 ((cs.toList.drop 33).take (Try.prog.cellsOf 3)) = xs[2]? := hg 2 _ rfl
  have g3 : DataW.trod enc Try.prog w 0 (fun _ => true) true n 39 ((cs.toList.drop 34).take (Try.prog.cellsOf 39)) = xs[3]? := hg 3 _ rfl
  have g4 : DataW.trod enc Try.prog w 0 (fun _ => true) true n 35 ((cs.toList.drop 35).take (Try.prog.cellsOf 35)) = xs[4]? := hg 4 _ rfl
  rw [c0] at g0
  rw [c1] at g1 g2
  rw [c2] at g3
  rw [c3] at g4
  have hl5 : xs.length = 5 := hlen
  have e : ∀ i, i < 5 → ∃ y, xs[i]? = some y := fun i hi => ⟨_, List.getElem?_eq_getElem (by omega)⟩
  obtain ⟨y0, e0⟩ := e 0 (by omega)
  obtain ⟨y1, e1⟩ := e 1 (by omega)
  obtain ⟨y2, e2⟩ := e 2 (by omega)
  obtain ⟨y3, e3⟩ := e 3 (by omega)
  obtain ⟨y4, e4⟩ := e 4 (by omega)
  rw [e0] at g0; rw [e1] at g1; rw [e2] at g2; rw [e3] at g3; rw [e4] at g4
  obtain ⟨rt, hr, q0⟩ := trod_dg g0
  obtain ⟨lv, q1, _, w1⟩ := DataW.trod_int Try.underlying3 g1
  obtain ⟨lf, q2, _, w2⟩ := DataW.trod_int Try.underlying3 g2
  obtain ⟨AB, cB, bs, q3, b1, b2, b3⟩ := trodB g3
  obtain ⟨AP, cP, ps, q4, p1, p2, p3⟩ := trodGG g4
  have hs2 : cs.size = 36 := by rw [hsz]; kernel_rfl
  refine ⟨rt, lv, lf, AB, _, cB, bs, AP, _, cP, ps, ?_, hr, w1, w2, ⟨rfl, b1, b2, b3⟩, rfl, p1, p2, p3⟩
  congr 1
  apply Array.toList_inj.1
  apply List.ext_getElem?
  intro i
  have hcl : (cbs rt).length = 32 := by rw [cbs_length, hr]
  by_cases hi : i < 32
  · have := q0 i hi
    rw [List.drop_zero, List.getElem?_take_of_lt hi] at this
    rw [this]
    unfold clCells
    rw [List.toList_toArray, List.getElem?_append_left (by omega)]
  · obtain ⟨k, rfl⟩ : ∃ k, i = 32 + k := ⟨i - 32, by omega⟩
    unfold clCells
    rw [List.toList_toArray, List.getElem?_append_right (by omega), hcl, Nat.add_sub_cancel_left]
    match k with
    | 0 => exact one_of q1
    | 1 => exact one_of q2
    | 2 => exact one_of q3
    | 3 => exact one_of q4
    | k + 4 => rw [List.getElem?_eq_none (by simp; omega), List.getElem?_eq_none (by simp)]
end
end Go.Proofs.Ytcamgldilknanaa
