/-
  Join over this seat's translation, and the document's Join.
-/
import Derived.Test.YtjnoeojlmfmhdaaApp
namespace Go.Proofs.Ytjnoeojlmfmhdaa
open Go.RowKit
set_option linter.unusedVariables false

/-- The slice 'A' of slices shows the texts 'ls'. -/
def Bss (w : World) (A : Option Addr) (ls : List (List UInt8)) : Prop :=
  ∃ vs : List Value, Shows w w.heap.size 1 A ls.length vs ∧ ∀ i (h : i < ls.length), ∃ Ai ci, vs[i]? = some (.slice Ai ls[i].length ci) ∧ Bs w Ai ls[i]
theorem Bss.at_ {w : World} {A : Option Addr} {ls : List (List UInt8)} (h : Bss w A ls) {i : Nat} (hi : i < ls.length) :
    ∃ b off Ai ci, A = some ⟨b, off, none⟩ ∧ b < w.heap.size ∧ w.cell? ⟨b, off + i, none⟩ = some (.slice Ai ls[i].length ci) ∧ Bs w Ai ls[i] := by
  obtain ⟨vs, h1, h2⟩ := h
  obtain ⟨b, off, u, e, hb, hu, hc⟩ := h1.at_ hi
  obtain ⟨Ai, ci, hv, hB⟩ := h2 i hi
  rw [hv] at hu
  injection hu with hu
  subst hu
  exact ⟨b, off, Ai, ci, e, hb, hc, hB⟩
theorem Bss.after {w w' : World} {A : Option Addr} {ls : List (List UInt8)} (hb : Below w.heap.size w w') (h : Bss w A ls) : Bss w' A ls := by
  obtain ⟨vs, h1, h2⟩ := h
  exact ⟨vs, Shows.on h1 hb, fun i hi => let ⟨Ai, ci, hv, hB⟩ := h2 i hi; ⟨Ai, ci, hv, hB.after hb⟩⟩

theorem flat_step (ls : List (List UInt8)) (k : Nat) (h : k < ls.length) : (ls.take (k + 1)).flatten = (ls.take k).flatten ++ ls[k] := by
  rw [List.take_succ_eq_append_getElem h, List.flatten_append]; simp
theorem flat_le (ls : List (List UInt8)) (k : Nat) : (ls.take k).flatten.length ≤ ls.flatten.length := by
  conv => rhs; rw [← List.take_append_drop k ls, List.flatten_append, List.length_append]
  omega

set_option maxHeartbeats 800000 in
theorem join_any (A : Option Addr) (c m : Nat) (ls : List (List UInt8)) (w : World) (hA : Bss w A ls) (hm : ls.length = m) (hml : m ≤ 1000) (hl : ls.flatten.length ≤ 140737488355328) :
    Calls Try.prog 31 #[.slice A m c] w (RetB w ls.flatten) := by
  obtain ⟨i0, hi, hz0, hz1, hz2⟩ := info_parts u8_info
  have Hm := Lib.hid hm
  clear hm
  go_enter Try.func31, Try.ntmps31
  go_wp2
  go_loop [3, 5, 11] (fun s _ i => ∃ k : Nat, k ≤ m ∧ i = .int .i64 k ∧ s = .int .i64 ((ls.take k).flatten.length : Nat)) (fun _ _ i => m - (intOf i).toNat)
  case atStart => exact ⟨0, Nat.zero_le _, rfl, by simp⟩
  case round =>
    obtain ⟨k, hk, rfl, rfl⟩ := hrel
    by_cases hlt : k < m
    · obtain ⟨b, off, Ai, ci, rfl, hb, hc, _⟩ := hA.at_ (i := k) (by rw [Hm.out]; exact hlt)
      have hst := flat_step ls k (by rw [Hm.out]; exact hlt)
      have hle := flat_le ls (k + 1)
      have hle0 : (ls.take k).flatten.length + (ls[k]'(by rw [Hm.out]; exact hlt)).length ≤ ls.flatten.length := by
        rw [hst, List.length_append] at hle; exact hle
      have Hst : Hid ((ls.take (k + 1)).flatten.length = (ls.take k).flatten.length + (ls[k]'(by rw [Hm.out]; exact hlt)).length) := by
        show _ = _; rw [hst]; simp
      clear hst hle
      generalize (ls[k]'(by rw [Hm.out]; exact hlt)).length = q at *
      generalize (ls.take k).flatten.length = s at *
      generalize ls.flatten.length = tot at *
      go_wp2
      go_round
      case rel => exact ⟨k + 1, by omega, by go_num, by rw [Hst.out]; go_num⟩
      case measure => simp [intOf]; omega
    · have Hst : Hid ((ls.take k).flatten.length = ls.flatten.length) := by
        show _ = _; rw [List.take_of_length_le (by rw [Hm.out]; omega)]
      have hle := flat_le ls k
      generalize (ls.take k).flatten.length = s at *
      go_wp2_with (at_make; refine wpList_make_own _ rfl _ _ 22 rfl w.heap.size 5 i0 (.int .u8 0) 1 Try.underlying22 hi hz0 hz1 .i64 .i64 _ s rfl rfl (by omega) (by rw [hz2]; omega) (by unfold maxLen; omega) (Nat.le_refl _) ?_; intro w1 ho1 hg1)
      have hb1 : Below w.heap.size w w1 := (Below.refl _ _).grown hg1 (Nat.le_refl _) (by simp)
      go_loopw [6, 8, 24] (fun v _ i wr => ∃ k : Nat, k ≤ m ∧ i = .int .i64 k ∧ Mine wr w.heap.size 5 v (ls.take k).flatten ∧ Below w.heap.size w wr) (fun _ _ i _ => m - (intOf i).toNat)
      case atStart => exact ⟨0, Nat.zero_le _, rfl, ho1, hb1⟩
      case round =>
        obtain ⟨k, hk, rfl, hown, hnx⟩ := hrel
        by_cases hlt : k < m
        · obtain ⟨b, off, Ai, ci, rfl, hb, hc0, hBi⟩ := hA.at_ (i := k) (by rw [Hm.out]; exact hlt)
          have hc : wr.cell? ⟨b, off + k, none⟩ = some (.slice Ai (ls[k]'(by rw [Hm.out]; exact hlt)).length ci) := (hnx.cell (by exact hb)).trans hc0
          have hst := flat_step ls k (by rw [Hm.out]; exact hlt)
          have hle := flat_le ls (k + 1)
          have hBr : Bs wr Ai (ls[k]'(by rw [Hm.out]; exact hlt)) := hBi.after hnx
          have Hst := Lib.hid hst
          have hlen : (ls.take k).flatten.length + (ls[k]'(by rw [Hm.out]; exact hlt)).length ≤ 140737488355328 := by
            rw [hst, List.length_append] at hle; omega
          clear hst hle hc0 hBi
          generalize (ls[k]'(by rw [Hm.out]; exact hlt)) = x at *
          generalize hq : x.length = q at *
          have Hq := Lib.hid hq
          clear hq
          go_wp2_with (at_builtin; refine wp_appendB rfl _ _ rfl w.heap.size _ _ rfl hown Ai ci q x rfl hBr Hq.out hlen hnx.size ?_; intro v2 w2 hm2 hg2 ho2)
          go_roundw
          case rel =>
            refine ⟨k + 1, by omega, by go_num, by rw [Hst.out]; exact hm2, hnx.grown hg2 hnx.size ?_⟩
            intro j hj
            exact (World.ownsRow.lt hown j hj).1
          case measure => simp [intOf]; omega
        · have Hst : Hid ((ls.take k).flatten = ls.flatten) := by
            show _ = _; rw [List.take_of_length_le (by rw [Hm.out]; omega)]
          rw [Hst.out] at hown
          go_wp2
          go_ret
          exact ⟨_, rfl, hown, hnx⟩

set_option maxHeartbeats 800000 in
theorem refJoin_any (A : Option Addr) (c m : Nat) (ls : List (List UInt8)) (w : World) (hA : Bss w A ls) (hm : ls.length = m) (hml : m ≤ 1000) (hl : ls.flatten.length ≤ 140737488355328) :
    Calls Try.prog 32 #[.slice A m c] w (RetB w ls.flatten) := by
  have Hm := Lib.hid hm
  clear hm
  go_enter Try.func32, Try.ntmps32
  go_wp2
  go_loopw [3, 4] (fun v i wr => ∃ k : Nat, k ≤ m ∧ i = .int .i64 k ∧ Mine wr w.heap.size 5 v (ls.take k).flatten ∧ Below w.heap.size w wr) (fun _ i _ => m - (intOf i).toNat)
  case atStart => exact ⟨0, Nat.zero_le _, rfl, World.ownsRow_nil _ _ _ _, Below.refl _ _⟩
  case round =>
    obtain ⟨k, hk, rfl, hown, hnx⟩ := hrel
    by_cases hlt : k < m
    · obtain ⟨b, off, Ai, ci, rfl, hb, hc0, hBi⟩ := hA.at_ (i := k) (by rw [Hm.out]; exact hlt)
      have hc : wr.cell? ⟨b, off + k, none⟩ = some (.slice Ai (ls[k]'(by rw [Hm.out]; exact hlt)).length ci) := (hnx.cell (by exact hb)).trans hc0
      have hst := flat_step ls k (by rw [Hm.out]; exact hlt)
      have hle := flat_le ls (k + 1)
      have hBr : Bs wr Ai (ls[k]'(by rw [Hm.out]; exact hlt)) := hBi.after hnx
      have Hst := Lib.hid hst
      have hlen : (ls.take k).flatten.length + (ls[k]'(by rw [Hm.out]; exact hlt)).length ≤ 140737488355328 := by
        rw [hst, List.length_append] at hle; omega
      clear hst hle hc0 hBi
      generalize (ls[k]'(by rw [Hm.out]; exact hlt)) = x at *
      generalize hq : x.length = q at *
      have Hq := Lib.hid hq
      clear hq
      go_wp2_with (at_builtin; refine wp_appendB rfl _ _ rfl w.heap.size _ _ rfl hown Ai ci q x rfl hBr Hq.out hlen hnx.size ?_; intro v2 w2 hm2 hg2 ho2)
      go_roundw
      case rel =>
        refine ⟨k + 1, by omega, by go_num, by rw [Hst.out]; exact hm2, hnx.grown hg2 hnx.size ?_⟩
        intro j hj
        exact (World.ownsRow.lt hown j hj).1
      case measure => simp [intOf]; omega
    · have Hst : Hid ((ls.take k).flatten = ls.flatten) := by
        show _ = _; rw [List.take_of_length_le (by rw [Hm.out]; omega)]
      rw [Hst.out] at hown
      go_wp2
      go_ret
      exact ⟨_, rfl, hown, hnx⟩
end Go.Proofs.Ytjnoeojlmfmhdaa
