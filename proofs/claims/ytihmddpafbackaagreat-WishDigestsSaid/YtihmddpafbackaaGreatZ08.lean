/-
  Laid together for a hand-in: Join, Written, Str, Plain2, Wp11.
-/
import Derived.Test.YtihmddpafbackaaGreatZ05
import Derived.Test.YtihmddpafbackaaGreatZ01
import Derived.Test.YtihmddpafbackaaGreatZ07

namespace Go.Proofs.YtihmddpafbackaaGreat

open Go.RowKit

set_option linter.unusedVariables false

/-- The slice 'A' of slices shows the texts 'ls'. -/
def Bss (w : World) (A : Option Addr) (ls : List (List UInt8)) : Prop :=
  ∃ vs : List Value, Shows w w.heap.size 1 A ls.length vs ∧ ∀ i (h : i < ls.length), ∃ Ai ci, vs[i]? = some (.slice Ai ls[i].length ci) ∧ Bs w Ai ls[i]

theorem Bss.at_ {w : World} {A : Option Addr} {ls : List (List UInt8)} (h : Bss w A ls) {i : Nat} (hi : i < ls.length) :
    ∃ b off Ai ci, A = some ⟨b, off, none⟩ ∧ b < w.heap.size ∧ w.cell? ⟨b, off + i, none⟩ = some (.slice Ai ls[i].length ci) ∧ Bs w Ai ls[i] := by
  obtain ⟨vs, h1, h2⟩ := h
  obtain ⟨b, off, u, e, hb, hu, hc⟩ := h1.at_ hi
  obtain ⟨Ai, ci, hv, hB⟩ := h2 i hi
  rw [hv] at hu
  injection hu with hu
  subst hu
  exact ⟨b, off, Ai, ci, e, hb, hc, hB⟩

theorem Bss.after {w w' : World} {A : Option Addr} {ls : List (List UInt8)} (hb : Below w.heap.size w w') (h : Bss w A ls) : Bss w' A ls := by
  obtain ⟨vs, h1, h2⟩ := h
  exact ⟨vs, Shows.on h1 hb, fun i hi => let ⟨Ai, ci, hv, hB⟩ := h2 i hi; ⟨Ai, ci, hv, hB.after hb⟩⟩

theorem flat_step (ls : List (List UInt8)) (k : Nat) (h : k < ls.length) : (ls.take (k + 1)).flatten = (ls.take k).flatten ++ ls[k] := by
  rw [List.take_succ_eq_append_getElem h, List.flatten_append]; simp

theorem flat_le (ls : List (List UInt8)) (k : Nat) : (ls.take k).flatten.length ≤ ls.flatten.length := by
  conv => rhs; rw [← List.take_append_drop k ls, List.flatten_append, List.length_append]
  omega

set_option maxHeartbeats 800000 in
theorem join_any (A : Option Addr) (c m : Nat) (ls : List (List UInt8)) (w : World) (hA : Bss w A ls) (hm : ls.length = m) (hml : m ≤ 1000) (hl : ls.flatten.length ≤ 140737488355328) :
    Calls Tryz.prog 49 #[.slice A m c] w (RetB w ls.flatten) := by
  obtain ⟨i0, hi, hz0, hz1, hz2⟩ := info_parts u8_info
  have Hm := Lib.hid hm
  clear hm
  go_enter Tryz.func49, Tryz.ntmps49
  go_wp2
  go_loop [3, 5, 11] (fun s _ i => ∃ k : Nat, k ≤ m ∧ i = .int .i64 k ∧ s = .int .i64 ((ls.take k).flatten.length : Nat)) (fun _ _ i => m - (intOf i).toNat)
  case atStart => exact ⟨0, Nat.zero_le _, rfl, by simp⟩
  case round =>
    obtain ⟨k, hk, rfl, rfl⟩ := hrel
    by_cases hlt : k < m
    · obtain ⟨b, off, Ai, ci, rfl, hb, hc, _⟩ := hA.at_ (i := k) (by rw [Hm.out]; exact hlt)
      have hst := flat_step ls k (by rw [Hm.out]; exact hlt)
      have hle := flat_le ls (k + 1)
      have hle0 : (ls.take k).flatten.length + (ls[k]'(by rw [Hm.out]; exact hlt)).length ≤ ls.flatten.length := by
        rw [hst, List.length_append] at hle; exact hle
      have Hst : Hid ((ls.take (k + 1)).flatten.length = (ls.take k).flatten.length + (ls[k]'(by rw [Hm.out]; exact hlt)).length) := by
        show _ = _; rw [hst]; simp
      clear hst hle
      generalize (ls[k]'(by rw [Hm.out]; exact hlt)).length = q at *
      generalize (ls.take k).flatten.length = s at *
      generalize ls.flatten.length = tot at *
      go_wp2
      go_round
      case rel => exact ⟨k + 1, by omega, by go_num, by rw [Hst.out]; go_num⟩
      case measure => simp [intOf]; omega
    · have Hst : Hid ((ls.take k).flatten.length = ls.flatten.length) := by
        show _ = _; rw [List.take_of_length_le (by rw [Hm.out]; omega)]
      have hle := flat_le ls k
      generalize (ls.take k).flatten.length = s at *
      go_wp2_with (at_make; refine wpList_make_own _ rfl _ _ 22 rfl w.heap.size 5 i0 (.int .u8 0) 1 Tryz.underlying22 hi hz0 hz1 .i64 .i64 _ s rfl rfl (by omega) (by rw [hz2]; omega) (by unfold maxLen; omega) (Nat.le_refl _) ?_; intro w1 ho1 hg1)
      have hb1 : Below w.heap.size w w1 := (Below.refl _ _).grown hg1 (Nat.le_refl _) (by simp)
      go_loopw [6, 8, 24] (fun v _ i wr => ∃ k : Nat, k ≤ m ∧ i = .int .i64 k ∧ Mine wr w.heap.size 5 v (ls.take k).flatten ∧ Below w.heap.size w wr) (fun _ _ i _ => m - (intOf i).toNat)
      case atStart => exact ⟨0, Nat.zero_le _, rfl, ho1, hb1⟩
      case round =>
        obtain ⟨k, hk, rfl, hown, hnx⟩ := hrel
        by_cases hlt : k < m
        · obtain ⟨b, off, Ai, ci, rfl, hb, hc0, hBi⟩ := hA.at_ (i := k) (by rw [Hm.out]; exact hlt)
          have hc : wr.cell? ⟨b, off + k, none⟩ = some (.slice Ai (ls[k]'(by rw [Hm.out]; exact hlt)).length ci) := (hnx.cell (by exact hb)).trans hc0
          have hst := flat_step ls k (by rw [Hm.out]; exact hlt)
          have hle := flat_le ls (k + 1)
          have hBr : Bs wr Ai (ls[k]'(by rw [Hm.out]; exact hlt)) := hBi.after hnx
          have Hst := Lib.hid hst
          have hlen : (ls.take k).flatten.length + (ls[k]'(by rw [Hm.out]; exact hlt)).length ≤ 140737488355328 := by
            rw [hst, List.length_append] at hle; omega
          clear hst hle hc0 hBi
          generalize (ls[k]'(by rw [Hm.out]; exact hlt)) = x at *
          generalize hq : x.length = q at *
          have Hq := Lib.hid hq
          clear hq
          go_wp2_with (at_builtin; refine wp_appendB rfl _ _ rfl w.heap.size _ _ rfl hown Ai ci q x rfl hBr Hq.out hlen hnx.size ?_; intro v2 w2 hm2 hg2 ho2)
          go_roundw
          case rel =>
            refine ⟨k + 1, by omega, by go_num, by rw [Hst.out]; exact hm2, hnx.grown hg2 hnx.size ?_⟩
            intro j hj
            exact (World.ownsRow.lt hown j hj).1
          case measure => simp [intOf]; omega
        · have Hst : Hid ((ls.take k).flatten = ls.flatten) := by
            show _ = _; rw [List.take_of_length_le (by rw [Hm.out]; omega)]
          rw [Hst.out] at hown
          go_wp2
          go_ret
          exact ⟨_, rfl, hown, hnx⟩

set_option maxHeartbeats 800000 in
theorem refJoin_any (A : Option Addr) (c m : Nat) (ls : List (List UInt8)) (w : World) (hA : Bss w A ls) (hm : ls.length = m) (hml : m ≤ 1000) (hl : ls.flatten.length ≤ 140737488355328) :
    Calls Tryz.prog 55 #[.slice A m c] w (RetB w ls.flatten) := by
  have Hm := Lib.hid hm
  clear hm
  go_enter Tryz.func55, Tryz.ntmps55
  go_wp2
  go_loopw [3, 4] (fun v i wr => ∃ k : Nat, k ≤ m ∧ i = .int .i64 k ∧ Mine wr w.heap.size 5 v (ls.take k).flatten ∧ Below w.heap.size w wr) (fun _ i _ => m - (intOf i).toNat)
  case atStart => exact ⟨0, Nat.zero_le _, rfl, World.ownsRow_nil _ _ _ _, Below.refl _ _⟩
  case round =>
    obtain ⟨k, hk, rfl, hown, hnx⟩ := hrel
    by_cases hlt : k < m
    · obtain ⟨b, off, Ai, ci, rfl, hb, hc0, hBi⟩ := hA.at_ (i := k) (by rw [Hm.out]; exact hlt)
      have hc : wr.cell? ⟨b, off + k, none⟩ = some (.slice Ai (ls[k]'(by rw [Hm.out]; exact hlt)).length ci) := (hnx.cell (by exact hb)).trans hc0
      have hst := flat_step ls k (by rw [Hm.out]; exact hlt)
      have hle := flat_le ls (k + 1)
      have hBr : Bs wr Ai (ls[k]'(by rw [Hm.out]; exact hlt)) := hBi.after hnx
      have Hst := Lib.hid hst
      have hlen : (ls.take k).flatten.length + (ls[k]'(by rw [Hm.out]; exact hlt)).length ≤ 140737488355328 := by
        rw [hst, List.length_append] at hle; omega
      clear hst hle hc0 hBi
      generalize (ls[k]'(by rw [Hm.out]; exact hlt)) = x at *
      generalize hq : x.length = q at *
      have Hq := Lib.hid hq
      clear hq
      go_wp2_with (at_builtin; refine wp_appendB rfl _ _ rfl w.heap.size _ _ rfl hown Ai ci q x rfl hBr Hq.out hlen hnx.size ?_; intro v2 w2 hm2 hg2 ho2)
      go_roundw
      case rel =>
        refine ⟨k + 1, by omega, by go_num, by rw [Hst.out]; exact hm2, hnx.grown hg2 hnx.size ?_⟩
        intro j hj
        exact (World.ownsRow.lt hown j hj).1
      case measure => simp [intOf]; omega
    · have Hst : Hid ((ls.take k).flatten = ls.flatten) := by
        show _ = _; rw [List.take_of_length_le (by rw [Hm.out]; omega)]
      rw [Hst.out] at hown
      go_wp2
      go_ret
      exact ⟨_, rfl, hown, hnx⟩

end Go.Proofs.YtihmddpafbackaaGreat

namespace Go.Proofs.YtihmddpafbackaaGreat

open Go.RowKit

set_option linter.unusedVariables false

theorem make_zero (n : Nat) : (madeCells (Value.cells (.int .u8 0)) (n * 1)).toList = cbs (List.replicate n 0) := by
  apply List.ext_getElem
  · simp [cbs, size_madeCells]
  · intro i h1 h2
    simp [madeCells, cbs, Value.cells, cb, Nat.mod_one]

theorem byte_at (n k : Nat) : Value.int .u8 ((n : Int) / 2 ^ (8 * k) % 256) = cb (UInt8.ofNat (n / 256 ^ k % 256)) := by
  unfold cb
  congr 1
  rw [UInt8.toNat_ofNat', Nat.mod_eq_of_lt (by omega)]
  have e : (2 : Nat) ^ (8 * k) = 256 ^ k := by rw [Nat.pow_mul]
  have e' : (2 : Int) ^ (8 * k) = ((256 ^ k : Nat) : Int) := by rw [← e]; simp
  rw [e']
  simp

set_option maxRecDepth 100000 in
set_option maxRecDepth 100000 in
set_option maxHeartbeats 800000 in
theorem written_any (n : Nat) (w : World) (h : n ≤ 9007199254740991) :
    Calls Tryz.prog 92 #[.int .i64 n] w (RetB w (numB n)) := by
  obtain ⟨i0, hi, hz0, hz1, hz2⟩ := info_parts u8_info
  have hb := dgs_bits n (by omega)
  have h7 := dgs_len7 h
  have hb1 : (Lib.bitLen n + 7) / 8 ≤ (dgs n).length := by omega
  have hb2 : (dgs n).length ≤ (Lib.bitLen n + 7) / 8 := by omega
  clear hb
  generalize hs : (dgs n).length = s at *
  have Hs := Lib.hid hs
  clear hs
  go_enter Tryz.func92, Tryz.ntmps92
  go_wp2_with fail
  refine (Tryz.bits_Len _ _ (by omega) (by omega)).mono ?_
  rintro e w' ⟨rfl, rfl⟩
  rw [Int.toNat_natCast]
  generalize Lib.bitLen n = bl at *
  have hs1 : ((bl : Int) + 7) / 8 ≤ 7 := by omega
  have hs0 : 0 ≤ ((bl : Int) + 7) / 8 := by omega
  go_wp2_with (at_make; refine wpList_make_full _ rfl _ _ 22 rfl w'.heap.size 5 i0 (.int .u8 0) 1 Tryz.underlying22 hi hz0 hz1 .i64 .i64 _ _ (1 + s) rfl rfl (by omega) (by omega) (by rw [hz2]; omega) (by unfold maxLen; omega) (Nat.le_refl _) ?_; intro w1 ho1 hg1; rw [make_zero] at ho1; have hc1 := Mine.cell ho1 (j := 0) (by simp; omega); have hf1 := ho1.frozenAt 0; simp only [List.getElem_replicate] at hc1)
  go_loopw [5, 19] (fun _ i wr => ∃ k : Nat, k ≤ s ∧ i = .int .i64 k ∧ wr.ownsRow w'.heap.size 5 1 (.slice (some ⟨w'.heap.size, 0, none⟩) (1 + s) (1 + s)) (1 + s) (cbs (part n k)) ∧ Below w'.heap.size w' wr) (fun _ i _ => s - (intOf i).toNat)
  case atStart =>
    refine ⟨0, Nat.zero_le _, rfl, ?_, ((Below.refl _ _).grown hg1 (Nat.le_refl _) (by simp)).setCell (by simp) _⟩
    have h1 := Mine.set_ ho1 0 (UInt8.ofNat s) (.int .u8 (((bl : Int) + 7) / 8)) (by
      show _ = Value.int .u8 _
      congr 1
      rw [UInt8.toNat_ofNat']
      omega)
    have h2 : (List.replicate (1 + s) (0 : UInt8)).set 0 (UInt8.ofNat s) = part n 0 := by
      unfold part
      rw [Hs.out, Nat.add_comm, List.replicate_succ]
      simp [← Hs.out]
    rw [← h2]
    exact h1
  case round =>
    obtain ⟨k, hk, rfl, hown, hnx⟩ := hrel
    by_cases hlt : k < s
    · have hlt' : (k : Int) < ((bl : Int) + 7) / 8 := by omega
      have hix : (bl + 7) / 8 - k < (part n k).length := by rw [part_len _ _ (by rw [Hs.out]; omega), Hs.out]; omega
      have hc := Mine.cell hown hix
      have hf := hown.frozenAt ((bl + 7) / 8 - k)
      generalize (part n k)[(bl + 7) / 8 - k] = old at hc
      clear hix
      go_wp2
      go_roundw
      case rel =>
        refine ⟨k + 1, by omega, by go_num, ?_, hnx.setCell (by simp) _⟩
        have hst := part_step n k (by rw [Hs.out]; omega)
        have e1 : (dgs n).length - k = (bl + 7) / 8 - k := by rw [Hs.out]; omega
        rw [e1] at hst
        rw [← hst]
        exact Mine.set_ hown _ _ _ (byte_at n k)
      case measure => simp [intOf]; omega
    · have hk2 : ¬ (k : Int) < ((bl : Int) + 7) / 8 := by omega
      go_wp2
      go_ret
      refine ⟨_, rfl, ?_, hnx⟩
      have hks : k = (dgs n).length := by rw [Hs.out]; omega
      rw [hks, part_end] at hown
      unfold Mine
      have hl : (numB n).length = 1 + s := by rw [← part_end, part_len _ _ (Nat.le_refl _), Hs.out]
      rw [hl]
      exact hown

/-- What Num answers. -/
def nm (n : Int) : List UInt8 × Nat := if n < 0 ∨ 9007199254740991 < n then ([], 9) else (numB n.toNat, 0)

def RetBE (w : World) (r : List UInt8 × Nat) (e : Ending) (w' : World) : Prop := ∃ v, e = .returned (.tuple #[v, .int .i64 (r.2 : Int)]) ∧ NewB w r.1 v w'

set_option maxHeartbeats 400000 in
theorem num_any (n : Int) (w : World) : Calls Tryz.prog 71 #[.int .i64 n] w (RetBE w (nm n)) := by
  by_cases h0 : n < 0
  · have hr : Hid (nm n = ([], 9)) := by show _ = _; simp [nm, h0]
    generalize nm n = r at *
    go_enter Tryz.func71, Tryz.ntmps71
    go_wp2
    go_ret2
    exact ⟨_, by rw [hr.out]; rfl, by rw [hr.out]; exact NewB.nil _⟩
  · by_cases h1 : 9007199254740991 < n
    · have hr : Hid (nm n = ([], 9)) := by show _ = _; simp [nm, h1]
      generalize nm n = r at *
      go_enter Tryz.func71, Tryz.ntmps71
      go_wp2
      go_ret2
      exact ⟨_, by rw [hr.out]; rfl, by rw [hr.out]; exact NewB.nil _⟩
    · obtain ⟨k, rfl⟩ := Int.eq_ofNat_of_zero_le (a := n) (by omega)
      have hr : Hid (nm k = (numB k, 0)) := by show _ = _; simp [nm, h1]
      generalize nm k = r at *
      go_enter Tryz.func71, Tryz.ntmps71
      go_wp2_with fail
      refine (written_any k _ (by omega)).mono ?_
      rintro e w' ⟨v, rfl, hnew⟩
      go_wp2
      go_ret2
      exact ⟨_, by rw [hr.out]; rfl, by rw [hr.out]; exact hnew⟩

end Go.Proofs.YtihmddpafbackaaGreat

namespace Go.Proofs.YtihmddpafbackaaGreat

open Go.RowKit

set_option linter.unusedVariables false

theorem Bss.made (w : World) (t : TypeId) (vs : Array Value) (ls : List (List UInt8)) (hs : vs.size = ls.length)
    (h : ∀ i (hi : i < ls.length), ∃ Ai ci, vs[i]? = some (.slice Ai ls[i].length ci) ∧ Bs w Ai ls[i]) : Bss (w.alloc (.cells vs t)) (some ⟨w.heap.size, 0, none⟩) ls := by
  refine ⟨vs.toList, ⟨by simp [hs], fun _ => ⟨w.heap.size, 0, rfl, by simp, fun j u hu => ?_⟩⟩, fun i hi => ?_⟩
  · rw [Nat.zero_add, cell_of_row _ _ j vs t (0, 0) (heap_alloc_new w _)]
    simpa using hu
  · obtain ⟨Ai, ci, hv, hB⟩ := h i hi
    exact ⟨Ai, ci, by simpa using hv, hB.on ((Below.refl _ _).alloc (Nat.le_refl _) _)⟩

theorem Bss.made2 {w : World} {t : TypeId} {A1 A2 : Option Addr} {n1 n2 c1 c2 : Nat} {l1 l2 : List UInt8} (h1 : Bs w A1 l1) (e1 : l1.length = n1) (h2 : Bs w A2 l2) (e2 : l2.length = n2) :
    Bss (w.alloc (.cells #[.slice A1 n1 c1, .slice A2 n2 c2] t)) (some ⟨w.heap.size, 0, none⟩) [l1, l2] := by
  subst e1 e2
  refine Bss.made w t _ _ rfl fun i hi => ?_
  match i, hi with
  | 0, _ => exact ⟨A1, c1, rfl, h1⟩
  | 1, _ => exact ⟨A2, c2, rfl, h2⟩

theorem Bss.made1 {w : World} {t : TypeId} {A1 : Option Addr} {n1 c1 : Nat} {l1 : List UInt8} (h1 : Bs w A1 l1) (e1 : l1.length = n1) :
    Bss (w.alloc (.cells #[.slice A1 n1 c1] t)) (some ⟨w.heap.size, 0, none⟩) [l1] := by
  subst e1
  refine Bss.made w t _ _ rfl fun i hi => ?_
  match i, hi with
  | 0, _ => exact ⟨A1, c1, rfl, h1⟩

theorem Bss.made3 {w : World} {t : TypeId} {A1 A2 A3 : Option Addr} {n1 n2 n3 c1 c2 c3 : Nat} {l1 l2 l3 : List UInt8} (h1 : Bs w A1 l1) (e1 : l1.length = n1) (h2 : Bs w A2 l2) (e2 : l2.length = n2) (h3 : Bs w A3 l3) (e3 : l3.length = n3) :
    Bss (w.alloc (.cells #[.slice A1 n1 c1, .slice A2 n2 c2, .slice A3 n3 c3] t)) (some ⟨w.heap.size, 0, none⟩) [l1, l2, l3] := by
  subst e1 e2 e3
  refine Bss.made w t _ _ rfl fun i hi => ?_
  match i, hi with
  | 0, _ => exact ⟨A1, c1, rfl, h1⟩
  | 1, _ => exact ⟨A2, c2, rfl, h2⟩
  | 2, _ => exact ⟨A3, c3, rfl, h3⟩

theorem Bss.none (w : World) : Bss w none [] := ⟨[], Shows.empty _, fun i hi => absurd hi (by simp)⟩

theorem Bs.alloc {w : World} {A : Option Addr} {l : List UInt8} (h : Bs w A l) (o : Obj) : Bs (w.alloc o) A l := h.on ((Below.refl _ _).alloc (Nat.le_refl _) o)

/-- Join of a slice of one, two or three texts that the caller builds. -/
theorem join1 {w : World} {t : TypeId} {A1 : Option Addr} {n1 c1 : Nat} {l1 : List UInt8} (h1 : Bs w A1 l1) (e1 : l1.length = n1) (hl : n1 ≤ 140737488355328) :
    Calls Tryz.prog 49 #[.slice (some ⟨w.heap.size, 0, none⟩) 1 1] (w.alloc (.cells #[.slice A1 n1 c1] t)) fun e w' => ∃ v, e = .returned v ∧ NewB w l1 v w' := by
  refine (join_any _ _ 1 [l1] _ (Bss.made1 h1 e1) rfl (by omega) (by simp; omega)).mono ?_
  rintro e w' ⟨v, rfl, hnew⟩
  exact ⟨v, rfl, NewB.later ((Below.refl _ _).alloc (Nat.le_refl _) _) (by simpa using hnew)⟩

theorem join2 {w : World} {t : TypeId} {A1 A2 : Option Addr} {n1 n2 c1 c2 : Nat} {l1 l2 : List UInt8} (h1 : Bs w A1 l1) (e1 : l1.length = n1) (h2 : Bs w A2 l2) (e2 : l2.length = n2) (hl : n1 + n2 ≤ 140737488355328) :
    Calls Tryz.prog 49 #[.slice (some ⟨w.heap.size, 0, none⟩) 2 2] (w.alloc (.cells #[.slice A1 n1 c1, .slice A2 n2 c2] t)) fun e w' => ∃ v, e = .returned v ∧ NewB w (l1 ++ l2) v w' := by
  refine (join_any _ _ 2 [l1, l2] _ (Bss.made2 h1 e1 h2 e2) rfl (by omega) (by simp; omega)).mono ?_
  rintro e w' ⟨v, rfl, hnew⟩
  exact ⟨v, rfl, NewB.later ((Below.refl _ _).alloc (Nat.le_refl _) _) (by simpa using hnew)⟩

theorem join3 {w : World} {t : TypeId} {A1 A2 A3 : Option Addr} {n1 n2 n3 c1 c2 c3 : Nat} {l1 l2 l3 : List UInt8} (h1 : Bs w A1 l1) (e1 : l1.length = n1) (h2 : Bs w A2 l2) (e2 : l2.length = n2) (h3 : Bs w A3 l3) (e3 : l3.length = n3)
    (hl : n1 + n2 + n3 ≤ 140737488355328) :
    Calls Tryz.prog 49 #[.slice (some ⟨w.heap.size, 0, none⟩) 3 3] (w.alloc (.cells #[.slice A1 n1 c1, .slice A2 n2 c2, .slice A3 n3 c3] t)) fun e w' => ∃ v, e = .returned v ∧ NewB w (l1 ++ (l2 ++ l3)) v w' := by
  refine (join_any _ _ 3 [l1, l2, l3] _ (Bss.made3 h1 e1 h2 e2 h3 e3) rfl (by omega) (by simp; omega)).mono ?_
  rintro e w' ⟨v, rfl, hnew⟩
  exact ⟨v, rfl, NewB.later ((Below.refl _ _).alloc (Nat.le_refl _) _) (by simpa using hnew)⟩

theorem join0 (w : World) : Calls Tryz.prog 49 #[.slice none 0 0] w fun e w' => ∃ v, e = .returned v ∧ NewB w [] v w' := by
  refine (join_any _ _ 0 [] _ (Bss.none w) rfl (by omega) (by simp)).mono ?_
  rintro e w' ⟨v, rfl, hnew⟩
  exact ⟨v, rfl, by simpa using hnew⟩

theorem refJoin2 {w : World} {t : TypeId} {A1 A2 : Option Addr} {n1 n2 c1 c2 : Nat} {l1 l2 : List UInt8} (h1 : Bs w A1 l1) (e1 : l1.length = n1) (h2 : Bs w A2 l2) (e2 : l2.length = n2) (hl : n1 + n2 ≤ 140737488355328) :
    Calls Tryz.prog 55 #[.slice (some ⟨w.heap.size, 0, none⟩) 2 2] (w.alloc (.cells #[.slice A1 n1 c1, .slice A2 n2 c2] t)) fun e w' => ∃ v, e = .returned v ∧ NewB w (l1 ++ l2) v w' := by
  refine (refJoin_any _ _ 2 [l1, l2] _ (Bss.made2 h1 e1 h2 e2) rfl (by omega) (by simp; omega)).mono ?_
  rintro e w' ⟨v, rfl, hnew⟩
  exact ⟨v, rfl, NewB.later ((Below.refl _ _).alloc (Nat.le_refl _) _) (by simpa using hnew)⟩

theorem refJoin3 {w : World} {t : TypeId} {A1 A2 A3 : Option Addr} {n1 n2 n3 c1 c2 c3 : Nat} {l1 l2 l3 : List UInt8} (h1 : Bs w A1 l1) (e1 : l1.length = n1) (h2 : Bs w A2 l2) (e2 : l2.length = n2) (h3 : Bs w A3 l3) (e3 : l3.length = n3)
    (hl : n1 + n2 + n3 ≤ 140737488355328) :
    Calls Tryz.prog 55 #[.slice (some ⟨w.heap.size, 0, none⟩) 3 3] (w.alloc (.cells #[.slice A1 n1 c1, .slice A2 n2 c2, .slice A3 n3 c3] t)) fun e w' => ∃ v, e = .returned v ∧ NewB w (l1 ++ (l2 ++ l3)) v w' := by
  refine (refJoin_any _ _ 3 [l1, l2, l3] _ (Bss.made3 h1 e1 h2 e2 h3 e3) rfl (by omega) (by simp; omega)).mono ?_
  rintro e w' ⟨v, rfl, hnew⟩
  exact ⟨v, rfl, NewB.later ((Below.refl _ _).alloc (Nat.le_refl _) _) (by simpa using hnew)⟩

/-- What Str answers. -/
def st (l : List UInt8) : List UInt8 × Nat := if 65536 < l.length then ([], 5) else (numB l.length ++ l, 0)

set_option maxHeartbeats 800000 in
theorem str_any (A : Option Addr) (c n : Nat) (xs : List UInt8) (w : World) (hA : Bs w A xs) (hn : xs.length = n) (hl : n ≤ maxLen) :
    Calls Tryz.prog 72 #[.slice A n c] w (RetBE w (st xs)) := by
  have Hn := Lib.hid hn
  unfold maxLen at hl
  by_cases h : 65536 < n
  · have hr : Hid (st xs = ([], 5)) := by show _ = _; simp [st, hn, h]
    have h' : (65536 : Int) < n := by omega
    clear hn
    generalize st xs = r at *
    go_enter Tryz.func72, Tryz.ntmps72
    go_wp2
    go_ret2
    exact ⟨_, by rw [hr.out]; rfl, by rw [hr.out]; exact NewB.nil _⟩
  · have hr : Hid (st xs = (numB n ++ xs, 0)) := by show _ = _; simp [st, hn, h]
    have h' : ¬ (65536 : Int) < n := by omega
    clear hn
    generalize st xs = r at *
    go_enter Tryz.func72, Tryz.ntmps72
    go_wp2_with fail
    refine (written_any n _ (by omega)).mono ?_
    rintro e w1 ⟨v, rfl, hnew⟩
    obtain ⟨A1, c1, rfl, hl1, hc1, hB1⟩ := hnew.form
    have hk : (numB n).length ≤ 8 := by have := dgs_len7 (n := n) (by omega); simp [numB]; omega
    generalize numB n = y at *
    go_wp2_with fail
    refine (join_any _ _ 2 [y, xs] _ (Bss.made2 hB1 rfl (hA.on hnew.2) Hn.out) rfl (by omega) ?_).mono ?_
    · have := Hn.out
      simp
      omega
    rintro e w2 ⟨v2, rfl, hnew2⟩
    go_wp2
    go_ret2
    exact ⟨_, by rw [hr.out]; rfl, by rw [hr.out]; exact NewB.later (hnew.2.alloc hnew.2.size _) (by simpa using hnew2)⟩

end Go.Proofs.YtihmddpafbackaaGreat

namespace Go.Proofs.YtihmddpafbackaaGreat

set_option linter.unusedVariables false

theorem dgs_len_byte {n : Nat} (h : n ≤ 9007199254740991) : (UInt8.ofNat (dgs n).length).toNat = (dgs n).length := by
  have := dgs_len7 h
  rw [UInt8.toNat_ofNat', Nat.mod_eq_of_lt (by omega)]

theorem nu_num {n : Nat} (h : n ≤ 9007199254740991) (z : List UInt8) : nu (numB n ++ z) = (n, 1 + (dgs n).length, 0) := by
  have h7 := dgs_len7 h
  have hb := dgs_len_byte h
  have hv := val_dgs n
  have hh : ∀ x t, dgs n = x :: t → x ≠ 0 := fun x t e => dgs_head e
  unfold numB nu
  simp only [List.cons_append, hb]
  have e1 : (dgs n ++ z).take (dgs n).length = dgs n := by simp
  rw [if_neg (by omega), if_neg (by simp), e1, hv, if_neg (by
    rintro ⟨h0, h1⟩
    cases hd : dgs n with
    | nil => rw [hd] at h0; simp at h0
    | cons x t =>
      rw [hd] at h1
      simp at h1
      exact hh x t hd h1), if_neg (by omega)]

theorem tk_num {n : Nat} (h : n ≤ 9007199254740991) (z : List UInt8) : tk (numB n ++ z) = (n, z, 0) := by
  have hl : 1 + (dgs n).length = (numB n).length := by simp [numB]; omega
  unfold tk
  rw [nu_num h z]
  simp [hl]

/-- What is taken off is written so. -/
theorem nu_back {l : List UInt8} (h : (nu l).2.2 = 0) : (nu l).1 ≤ 9007199254740991 ∧ numB (nu l).1 = l.take (nu l).2.1 := by
  cases l with
  | nil => simp [nu] at h
  | cons b t =>
    unfold nu at h ⊢
    simp only at h ⊢
    split at h
    · simp at h
    rename_i h7
    split at h
    · simp at h
    rename_i hs
    split at h
    · simp at h
    rename_i hz
    split at h
    · simp at h
    rename_i hm
    rw [if_neg h7, if_neg hs, if_neg hz, if_neg hm]
    simp only
    refine ⟨by omega, ?_⟩
    have hd : dgs (val (t.take b.toNat)) = t.take b.toNat := by
      refine dgs_val ?_
      intro x u e
      intro hx
      subst hx
      refine hz ⟨?_, ?_⟩
      · rcases Nat.eq_zero_or_pos b.toNat with h0 | h0
        · rw [h0] at e; simp at e
        · exact h0
      · cases t with
        | nil => simp at e
        | cons y v =>
          cases hb : b.toNat with
          | zero => rw [hb] at e; simp at e
          | succ k => rw [hb] at e; simp at e; simp [e.1]
    unfold numB
    rw [hd]
    have hl : (t.take b.toNat).length = b.toNat := by rw [List.length_take]; omega
    rw [hl, Nat.add_comm 1, List.take_succ_cons]
    congr 1
    exact UInt8.ofNat_toNat

theorem tk_back {l : List UInt8} {n : Nat} {rest : List UInt8} (h : tk l = (n, rest, 0)) : n ≤ 9007199254740991 ∧ numB n ++ rest = l := by
  unfold tk at h
  split at h
  · rename_i h0
    simp only [Prod.mk.injEq] at h
    obtain ⟨rfl, rfl, _⟩ := h
    obtain ⟨h1, h2⟩ := nu_back h0
    exact ⟨h1, by rw [h2, List.take_append_drop]⟩
  · rename_i h0
    simp only [Prod.mk.injEq] at h
    exact absurd h.2.2 h0

theorem tk_err0 {l : List UInt8} {n e : Nat} {rest : List UInt8} (h : tk l = (n, rest, e)) (he : e ≠ 0) : n = 0 ∧ rest = [] := by
  unfold tk at h
  split at h
  · simp only [Prod.mk.injEq] at h; exact absurd h.2.2.symm he
  · simp only [Prod.mk.injEq] at h; exact ⟨h.1.symm, h.2.1.symm⟩

theorem tf_front (s z : List UInt8) : tf (s ++ z) (s.length : Nat) = (s, z, 0) := by
  unfold tf
  rw [if_neg (by omega), if_neg (by simp; omega)]
  simp

theorem ts_text {s z : List UInt8} {most : Int} (h : s.length ≤ 65536) (h0 : 0 ≤ most) :
    ts (numB s.length ++ s ++ z) most = if most < s.length then ([], [], 5) else (s, z, 0) := by
  have hn := nu_num (n := s.length) (by omega) (s ++ z)
  have hl : 1 + (dgs s.length).length = (numB s.length).length := by simp [numB]; omega
  unfold ts
  rw [List.append_assoc, hn]
  rw [if_neg (by omega), if_neg (by simp)]
  by_cases hm : most < s.length
  · rw [if_pos (.inl hm), if_pos hm]
  · rw [if_neg (by simp; omega), if_neg hm]
    simp only [hl]
    rw [List.drop_left]
    exact tf_front s z

theorem ts_neg (l : List UInt8) {most : Int} (h : most < 0) : ts l most = ([], [], 2) := by unfold ts; rw [if_pos h]

theorem tf_err {l s z : List UInt8} {n : Int} {e : Nat} (h : tf l n = (s, z, e)) (he : e ≠ 0) : s = [] ∧ z = [] := by
  unfold tf at h
  split at h
  · simp only [Prod.mk.injEq] at h; exact ⟨h.1.symm, h.2.1.symm⟩
  · split at h
    · simp only [Prod.mk.injEq] at h; exact ⟨h.1.symm, h.2.1.symm⟩
    · simp only [Prod.mk.injEq] at h; exact absurd h.2.2.symm he

theorem tf_ok {l s z : List UInt8} {n : Int} (h : tf l n = (s, z, 0)) : 0 ≤ n ∧ (s.length : Int) = n ∧ s ++ z = l := by
  unfold tf at h
  split at h
  · simp at h
  · split at h
    · simp at h
    · simp only [Prod.mk.injEq] at h
      obtain ⟨rfl, rfl, _⟩ := h
      exact ⟨by omega, by rw [List.length_take]; omega, List.take_append_drop _ _⟩

theorem ts_err {l s z : List UInt8} {most : Int} {e : Nat} (h : ts l most = (s, z, e)) (he : e ≠ 0) : s = [] ∧ z = [] := by
  unfold ts at h
  split at h
  · simp only [Prod.mk.injEq] at h; exact ⟨h.1.symm, h.2.1.symm⟩
  · split at h
    · simp only [Prod.mk.injEq] at h; exact ⟨h.1.symm, h.2.1.symm⟩
    · split at h
      · simp only [Prod.mk.injEq] at h; exact ⟨h.1.symm, h.2.1.symm⟩
      · exact tf_err h he

theorem ts_ok {l s z : List UInt8} {most : Int} (h : ts l most = (s, z, 0)) : s.length ≤ 65536 ∧ (s.length : Int) ≤ most ∧ numB s.length ++ (s ++ z) = l := by
  unfold ts at h
  split at h
  · simp at h
  · split at h
    · rename_i h1; simp only [Prod.mk.injEq] at h; exact absurd h.2.2 h1
    · split at h
      · simp at h
      · rename_i h0 h1 h2
        obtain ⟨h3, h4, h5⟩ := tf_ok h
        have h1' : (nu l).2.2 = 0 := by simpa using h1
        obtain ⟨h6, h7⟩ := nu_back h1'
        have h8 : s.length = (nu l).1 := by omega
        refine ⟨by omega, by omega, ?_⟩
        rw [h8, h7, h5, List.take_append_drop]

theorem numB_length {n : Nat} : (numB n).length = 1 + (dgs n).length := by simp [numB]; omega

theorem numB_inj {n m k : Nat} (hn : n ≤ 9007199254740991) (hm : m ≤ 9007199254740991) (hk : k = min (numB n).length (numB m).length) : ((numB n).take k == (numB m).take k) = decide (n = m) := by
  by_cases h : n = m
  · subst h; simp
  · simp only [h, decide_false, beq_eq_false_iff_ne, ne_eq]
    intro he
    have h1 := nu_num hn []
    have h2 := nu_num hm []
    have l1 := numB_length (n := n)
    have l2 := numB_length (n := m)
    have hd : UInt8.ofNat (dgs n).length = UInt8.ofNat (dgs m).length := by
      have : 0 < k := by omega
      obtain ⟨j, rfl⟩ : ∃ j, k = j + 1 := ⟨k - 1, by omega⟩
      unfold numB at he
      simp only [List.take_succ_cons] at he
      injection he
    have hl : (dgs n).length = (dgs m).length := by
      rw [← dgs_len_byte hn, ← dgs_len_byte hm, hd]
    rw [List.take_of_length_le (by omega), List.take_of_length_le (by omega)] at he
    rw [he, h2] at h1
    simp at h1
    exact h h1.1.symm

theorem tk_short {n j : Nat} (h : n ≤ 9007199254740991) (hj : j < (numB n).length) : tk ((numB n).take j) = (0, [], 3) := by
  have hb := dgs_len_byte h
  have h7 := dgs_len7 h
  have hl := numB_length (n := n)
  cases j with
  | zero => rfl
  | succ j =>
    unfold tk
    have hn : nu ((numB n).take (j + 1)) = (0, 0, 3) := by
      unfold numB nu
      simp only [List.take_succ_cons, hb]
      rw [if_neg (by omega), if_pos (by rw [List.length_take]; omega)]
    rw [hn]
    rfl

/-- The first place at which two numbers' bytes part tells which number is less. -/
theorem val_less {l m : List UInt8} {i : Nat} (hl : l.length = m.length) (hi : i < l.length) (hi' : i < m.length) (ht : l.take i = m.take i) (hx : l[i] < m[i]) : val l < val m := by
  induction l generalizing m i with
  | nil => simp at hi
  | cons x l ih =>
    cases m with
    | nil => simp at hi'
    | cons y m =>
      rw [val_cons, val_cons]
      cases i with
      | zero =>
        simp only [List.getElem_cons_zero] at hx
        have h1 := val_lt l
        have hx' : x.toNat < y.toNat := by rwa [UInt8.lt_iff_toNat_lt] at hx
        have hl' : l.length = m.length := by simpa using hl
        rw [hl'] at h1
        rw [hl']
        have h2 : (x.toNat + 1) * 256 ^ m.length ≤ y.toNat * 256 ^ m.length := Nat.mul_le_mul_right _ (by omega)
        rw [Nat.add_mul] at h2
        omega
      | succ i =>
        simp only [List.take_succ_cons] at ht
        injection ht with ht0 ht
        subst ht0
        have hl' : l.length = m.length := by simpa using hl
        have := ih (m := m) (i := i) hl' (by simpa using hi) (by simpa using hi') ht (by simpa using hx)
        rw [hl']
        omega

theorem dgs_more {n m : Nat} (h : (dgs n).length < (dgs m).length) : n < m := by
  have h1 := val_lt (dgs n)
  rw [val_dgs] at h1
  rcases Nat.lt_or_ge n m with h2 | h2
  · exact h2
  · exfalso
    have h3 : m < 256 ^ (dgs n).length := by omega
    have := dgs_len h3
    omega

theorem numB_less {n m : Nat} (hn : n ≤ 9007199254740991) (hm : m ≤ 9007199254740991) {i : Nat} (h1 : i < (numB n).length) (h2 : i < (numB m).length) (ht : (numB n).take i = (numB m).take i) (hx : (numB n)[i] < (numB m)[i]) : n < m := by
  cases i with
  | zero =>
    have hx' : UInt8.ofNat (dgs n).length < UInt8.ofNat (dgs m).length := hx
    rw [UInt8.lt_iff_toNat_lt, dgs_len_byte hn, dgs_len_byte hm] at hx'
    exact dgs_more hx'
  | succ i =>
    unfold numB at ht
    simp only [List.take_succ_cons] at ht
    injection ht with h0 ht
    have hl : (dgs n).length = (dgs m).length := by rw [← dgs_len_byte hn, ← dgs_len_byte hm, h0]
    have l1 := numB_length (n := n)
    have l2 := numB_length (n := m)
    have := val_less (l := dgs n) (m := dgs m) (i := i) hl (by omega) (by omega) ht hx
    rwa [val_dgs, val_dgs] at this

theorem numB_same {n m : Nat} (hn : n ≤ 9007199254740991) (hm : m ≤ 9007199254740991) {k : Nat} (hk : ¬ (k < (numB n).length ∧ k < (numB m).length)) (ht : (numB n).take k = (numB m).take k) : n = m := by
  have h := numB_inj hn hm (k := min (numB n).length (numB m).length) rfl
  have e : (numB n).take (min (numB n).length (numB m).length) = (numB m).take (min (numB n).length (numB m).length) := by
    have h1 := congrArg (List.take (min (numB n).length (numB m).length)) ht
    rw [List.take_take, List.take_take, Nat.min_eq_left (by omega)] at h1
    exact h1
  rw [e] at h
  simpa using h

end Go.Proofs.YtihmddpafbackaaGreat

namespace Go.Proofs.YtihmddpafbackaaGreat

set_option linter.unusedVariables false

/-- A wish. -/
structure Wl where
  cl : Int
  sp : Int
  gr : Int
  ep : Int
  kd : Int
  bl : Int
  da : List UInt8
  od : Int
  nw : Int
  nx : List Int

def W0 : Wl := ⟨0, 0, 0, 0, 0, 0, [], 0, 0, []⟩

/-- Numbers from 1 to 28, each above the one ahead. -/
def ris (a : Int) : List Int → Prop
  | [] => True
  | x :: l => (1 ≤ x ∧ x ≤ 28) ∧ a < x ∧ ris x l

instance decRis : (a : Int) → (l : List Int) → Decidable (ris a l)
  | _, [] => isTrue trivial
  | a, x :: l => by
    have := decRis x l
    unfold ris
    exact inferInstance

abbrev Askd (w : Wl) : Prop := (31 ≤ w.cl ∧ w.cl ≤ 34) ∧ (1 ≤ w.sp ∧ w.sp ≤ 9007199254740991)

abbrev OfBl (w : Wl) : Prop := (1 ≤ w.gr ∧ w.gr ≤ 2) ∧ (0 ≤ w.bl ∧ w.bl ≤ 7)

abbrev OfDr (w : Wl) : Prop := w.gr = 0 ∧ w.ep = 0 ∧ (1 ≤ w.bl ∧ w.bl ≤ 2)

abbrev Swp (w : Wl) : Prop := (1 ≤ w.od ∧ w.od ≤ 28) ∧ (1 ≤ w.nw ∧ w.nw ≤ 28) ∧ w.od ≠ w.nw

abbrev NoS (w : Wl) : Prop := w.od = 0 ∧ w.nw = 0

abbrev Nxt (l : List Int) : Prop := (l.length = 1 ∨ l.length = 4 ∨ l.length = 7) ∧ ris 0 l

/-- The chapter's table. -/
def May (w : Wl) : Prop := (0 ≤ w.ep ∧ w.ep ≤ 1048576) ∧
  ((w.kd = 1 ∧ Askd w ∧ OfBl w ∧ w.da.length = 0 ∧ NoS w ∧ w.nx.length = 0) ∨
   (w.kd = 2 ∧ Askd w ∧ OfBl w ∧ w.da.length = 16 ∧ NoS w ∧ w.nx.length = 0) ∨
   (w.kd = 3 ∧ Askd w ∧ OfDr w ∧ w.da.length = 0 ∧ NoS w ∧ w.nx.length = 0) ∨
   (w.kd = 4 ∧ Askd w ∧ OfDr w ∧ w.da.length = 0 ∧ Swp w ∧ w.nx.length = 0) ∨
   (w.kd = 5 ∧ (w.cl = 0 ∧ w.sp = 0 ∧ (1 ≤ w.gr ∧ w.gr ≤ 2) ∧ w.bl = 0) ∧ w.da.length = 0 ∧ NoS w ∧ Nxt w.nx))

set_option synthInstance.maxSize 4096 in
set_option synthInstance.maxHeartbeats 400000 in
instance decMay (w : Wl) : Decidable (May w) := by unfold May; exact inferInstance

theorem ris_in {a : Int} {l : List Int} (h : ris a l) : ∀ x ∈ l, 1 ≤ x ∧ x ≤ 28 := by
  induction l generalizing a with
  | nil => simp
  | cons y l ih =>
    intro x hx
    rcases List.mem_cons.1 hx with rfl | hx
    · exact h.1
    · exact ih h.2.2 x hx

abbrev Nm (x : Int) : Prop := 0 ≤ x ∧ x ≤ 9007199254740991

theorem May.nums {w : Wl} (h : May w) : Nm w.kd ∧ Nm w.cl ∧ Nm w.sp ∧ Nm w.gr ∧ Nm w.ep ∧ Nm w.bl ∧ Nm w.od ∧ Nm w.nw ∧ w.da.length ≤ 16 ∧ w.nx.length ≤ 7 ∧ ∀ x ∈ w.nx, Nm x := by
  obtain ⟨he, h⟩ := h
  have hx : ∀ (l : List Int), l.length = 0 → ∀ x ∈ l, Nm x := fun l hl x hx => by rw [List.eq_nil_of_length_eq_zero hl] at hx; cases hx
  rcases h with ⟨h, ⟨a1, a2⟩, ⟨b1, b2⟩, c, d, e⟩ | ⟨h, ⟨a1, a2⟩, ⟨b1, b2⟩, c, d, e⟩ | ⟨h, ⟨a1, a2⟩, ⟨b1, b2, b3⟩, c, d, e⟩ | ⟨h, ⟨a1, a2⟩, ⟨b1, b2, b3⟩, c, ⟨d1, d2, _⟩, e⟩ | ⟨h, ⟨a1, a2, a3, a4⟩, c, d, e1, e2⟩
  · exact ⟨by unfold Nm; omega, by unfold Nm; omega, by unfold Nm; omega, by unfold Nm; omega, by unfold Nm; omega, by unfold Nm; omega, by unfold Nm; omega, by unfold Nm; omega, by omega, by omega, hx _ e⟩
  · exact ⟨by unfold Nm; omega, by unfold Nm; omega, by unfold Nm; omega, by unfold Nm; omega, by unfold Nm; omega, by unfold Nm; omega, by unfold Nm; omega, by unfold Nm; omega, by omega, by omega, hx _ e⟩
  · exact ⟨by unfold Nm; omega, by unfold Nm; omega, by unfold Nm; omega, by unfold Nm; omega, by unfold Nm; omega, by unfold Nm; omega, by unfold Nm; omega, by unfold Nm; omega, by omega, by omega, hx _ e⟩
  · exact ⟨by unfold Nm; omega, by unfold Nm; omega, by unfold Nm; omega, by unfold Nm; omega, by unfold Nm; omega, by unfold Nm; omega, by unfold Nm; omega, by unfold Nm; omega, by omega, by omega, hx _ e⟩
  · exact ⟨by unfold Nm; omega, by unfold Nm; omega, by unfold Nm; omega, by unfold Nm; omega, by unfold Nm; omega, by unfold Nm; omega, by unfold Nm; omega, by unfold Nm; omega, by omega, by omega, fun x hx => by have := ris_in e2 x hx; unfold Nm; omega⟩

/-! ### Written -/

/-- A number's bytes (of one that is none: no bytes). -/
def ib (x : Int) : List UInt8 := (nm x).1

theorem ib_nm {x : Int} (h : Nm x) : ib x = numB x.toNat := by unfold ib nm; rw [if_neg (by unfold Nm at h; omega)]

theorem nm_ib {x : Int} (h : Nm x) : nm x = (ib x, 0) := by unfold ib nm; rw [if_neg (by unfold Nm at h; omega)]

def ibs (l : List Int) : List UInt8 := (l.map ib).flatten

def sb (l : List UInt8) : List UInt8 := (st l).1

theorem sb_st {l : List UInt8} (h : l.length ≤ 65536) : sb l = numB l.length ++ l := by unfold sb st; rw [if_neg (by omega)]

theorem st_sb {l : List UInt8} (h : l.length ≤ 65536) : st l = (sb l, 0) := by unfold sb st; rw [if_neg (by omega)]

/-- A wish's bytes. -/
def wb (w : Wl) : List UInt8 := ibs [w.kd, w.cl, w.sp, w.gr, w.ep, w.bl] ++ (sb w.da ++ (ibs [w.od, w.nw, (w.nx.length : Int)] ++ ibs w.nx))

def wbytes (w : Wl) : List UInt8 × Nat := if May w then (wb w, 0) else ([], 2)

/-! ### Read -/

/-- What is left, and the first error. -/
abbrev Rd := List UInt8 × Nat

def rn (s : Rd) : Int × Rd := if s.2 ≠ 0 then (0, s) else (((tk s.1).1 : Nat), ((tk s.1).2.1, (tk s.1).2.2))

def rt (most : Nat) (s : Rd) : List UInt8 × Rd := if s.2 ≠ 0 then ([], s) else ((ts s.1 most).1, ((ts s.1 most).2.1, (ts s.1 most).2.2))

def rc (most : Nat) (s : Rd) : Nat × Rd := if (most : Int) < (rn s).1 then (0, ((rn s).2.1, 5)) else ((rn s).1.toNat, (rn s).2)

def rns : Nat → Rd → List Int × Rd
  | 0, s => ([], s)
  | k + 1, s => ((rns k s).1 ++ [(rn (rns k s).2).1], (rn (rns k s).2).2)

def rdw (s : Rd) : Wl × Rd :=
  let k := rn s; let c := rn k.2; let t := rn c.2; let g := rn t.2; let e := rn g.2; let b := rn e.2
  let d := rt 16 b.2; let o := rn d.2; let n := rn o.2; let m := rc 7 n.2; let x := rns m.1 m.2
  (⟨c.1, t.1, g.1, e.1, k.1, b.1, d.1, o.1, n.1, x.1⟩, x.2)

def ren (s : Rd) : Nat := if s.2 = 0 ∧ s.1.length ≠ 0 then 4 else s.2

def parse (l : List UInt8) : Wl × Nat := if ren (rdw (l, 0)).2 ≠ 0 then (W0, ren (rdw (l, 0)).2) else if May (rdw (l, 0)).1 then ((rdw (l, 0)).1, 0) else (W0, 2)

theorem rn_err {s : Rd} (h : s.2 ≠ 0) : rn s = (0, s) := by unfold rn; rw [if_pos h]

theorem rt_err {m : Nat} {s : Rd} (h : s.2 ≠ 0) : rt m s = ([], s) := by unfold rt; rw [if_pos h]

theorem rn_pos (s : Rd) : 0 ≤ (rn s).1 := by unfold rn; split <;> simp

theorem rn_max (s : Rd) : (rn s).1 ≤ 9007199254740991 := by
  unfold rn
  split
  · simp
  · by_cases h : (tk s.1).2.2 = 0
    · have := (tk_back (l := s.1) (n := (tk s.1).1) (rest := (tk s.1).2.1) (by rw [← h])).1
      simp only; omega
    · have := (tk_err0 (l := s.1) (n := (tk s.1).1) (rest := (tk s.1).2.1) (e := (tk s.1).2.2) rfl h).1
      simp only [this]; omega

theorem rn_nm (s : Rd) : Nm (rn s).1 := ⟨rn_pos s, rn_max s⟩

/-- A number that stands ahead is read. -/
theorem rn_ib {x : Int} (h : Nm x) (z : List UInt8) : rn (ib x ++ z, 0) = (x, (z, 0)) := by
  rw [ib_nm h]
  unfold rn
  have hn : x.toNat ≤ 9007199254740991 := by unfold Nm at h; omega
  rw [if_neg (by simp)]
  simp only [tk_num hn z]
  have : (x.toNat : Int) = x := by unfold Nm at h; omega
  rw [this]

theorem rt_sb {d : List UInt8} {m : Nat} (hd : d.length ≤ m) (hm : m ≤ 65536) (z : List UInt8) : rt m (sb d ++ z, 0) = (d, (z, 0)) := by
  rw [sb_st (by omega)]
  unfold rt
  rw [if_neg (by simp)]
  simp only [ts_text (s := d) (z := z) (most := (m : Int)) (by omega) (by omega)]
  rw [if_neg (by omega)]

theorem ibs_cons (x : Int) (l : List Int) : ibs (x :: l) = ib x ++ ibs l := by simp [ibs]

theorem ibs_nil : ibs [] = [] := rfl

theorem ibs_drop {l : List Int} {k : Nat} (h : k < l.length) : ibs (l.drop k) = ib l[k] ++ ibs (l.drop (k + 1)) := by
  rw [List.drop_eq_getElem_cons h, ibs_cons]

theorem rns_ibs {l : List Int} (h : ∀ x ∈ l, Nm x) (z : List UInt8) : rns l.length (ibs l ++ z, 0) = (l, (z, 0)) := by
  suffices H : ∀ k, k ≤ l.length → rns k (ibs l ++ z, 0) = (l.take k, (ibs (l.drop k) ++ z, 0)) by
    have := H l.length (Nat.le_refl _)
    rw [this]
    simp [ibs]
  intro k
  induction k with
  | zero => intro _; simp [rns]
  | succ k ih =>
    intro hk
    have hk' : k < l.length := by omega
    unfold rns
    rw [ih (by omega)]
    have e := ibs_drop hk'
    simp only
    rw [e, List.append_assoc, rn_ib (h _ (List.getElem_mem hk'))]
    simp only
    rw [List.take_succ_eq_append_getElem hk']

theorem rc_ib {n m : Nat} (h : n ≤ m) (hm : m ≤ 65536) (z : List UInt8) : rc m (ib (n : Int) ++ z, 0) = (n, (z, 0)) := by
  unfold rc
  rw [rn_ib ⟨by omega, by omega⟩]
  simp only
  rw [if_neg (by omega)]
  simp

theorem wb_flat (w : Wl) : wb w = ib w.kd ++ (ib w.cl ++ (ib w.sp ++ (ib w.gr ++ (ib w.ep ++ (ib w.bl ++ (sb w.da ++ (ib w.od ++ (ib w.nw ++ (ib (w.nx.length : Int) ++ ibs w.nx))))))))) := by
  unfold wb
  simp only [ibs_cons, ibs_nil, List.append_assoc, List.append_nil]

theorem rdw_wb {w : Wl} (h : May w) (z : List UInt8) : rdw (wb w ++ z, 0) = (w, (z, 0)) := by
  obtain ⟨h1, h2, h3, h4, h5, h6, h7, h8, h9, h10, h11⟩ := h.nums
  rw [wb_flat]
  unfold rdw
  simp only [List.append_assoc, rn_ib h1, rn_ib h2, rn_ib h3, rn_ib h4, rn_ib h5, rn_ib h6, rn_ib h7, rn_ib h8, rt_sb h9 (by omega), rc_ib h10 (by omega), rns_ibs h11]

theorem parse_wb {w : Wl} (h : May w) : parse (wb w) = (w, 0) := by
  have := rdw_wb h []
  rw [List.append_nil] at this
  unfold parse
  simp only [this, ren]
  simp [h]

/-- More bytes behind a wish's are told. -/
theorem parse_more {w : Wl} (h : May w) {z : List UInt8} (hz : z.length ≠ 0) : parse (wb w ++ z) = (W0, 4) := by
  unfold parse
  simp only [rdw_wb h z, ren]
  simp [hz]

/-! ### What is read is written so -/

theorem rn_ok {s : Rd} (h : (rn s).2.2 = 0) : s.2 = 0 ∧ s.1 = ib (rn s).1 ++ (rn s).2.1 := by
  have hnm := rn_nm s
  rw [ib_nm hnm]
  unfold rn at h ⊢
  by_cases hs : s.2 ≠ 0
  · rw [if_pos hs] at h; exact absurd h hs
  · rw [if_neg hs] at h ⊢
    refine ⟨by simpa using hs, ?_⟩
    simp only at h ⊢
    have := (tk_back (l := s.1) (n := (tk s.1).1) (rest := (tk s.1).2.1) (by rw [← h])).2
    simpa using this.symm

theorem rt_ok {m : Nat} {s : Rd} (h : (rt m s).2.2 = 0) : s.2 = 0 ∧ (rt m s).1.length ≤ m ∧ s.1 = sb (rt m s).1 ++ (rt m s).2.1 := by
  unfold rt at h ⊢
  by_cases hs : s.2 ≠ 0
  · rw [if_pos hs] at h; exact absurd h hs
  · rw [if_neg hs] at h ⊢
    simp only at h ⊢
    obtain ⟨h1, h2, h3⟩ := ts_ok (l := s.1) (s := (ts s.1 m).1) (z := (ts s.1 m).2.1) (most := (m : Int)) (by rw [← h])
    refine ⟨by simpa using hs, by omega, ?_⟩
    rw [sb_st h1, List.append_assoc, h3]

theorem rc_ok {m : Nat} {s : Rd} (h : (rc m s).2.2 = 0) : s.2 = 0 ∧ (rc m s).1 ≤ m ∧ s.1 = ib ((rc m s).1 : Int) ++ (rc m s).2.1 := by
  have hp := rn_pos s
  unfold rc at h ⊢
  by_cases hs : (m : Int) < (rn s).1
  · rw [if_pos hs] at h; simp at h
  · rw [if_neg hs] at h ⊢
    simp only at h ⊢
    obtain ⟨h1, h2⟩ := rn_ok h
    have e : ((rn s).1.toNat : Int) = (rn s).1 := by omega
    exact ⟨h1, by omega, by rw [e]; exact h2⟩

theorem rns_ok {k : Nat} {s : Rd} (h : (rns k s).2.2 = 0) : s.2 = 0 ∧ (rns k s).1.length = k ∧ s.1 = ibs (rns k s).1 ++ (rns k s).2.1 := by
  induction k with
  | zero => exact ⟨h, rfl, by simp [rns, ibs]⟩
  | succ k ih =>
    unfold rns at h ⊢
    simp only at h ⊢
    obtain ⟨h1, h2⟩ := rn_ok h
    obtain ⟨h3, h4, h5⟩ := ih h1
    refine ⟨h3, by simp [h4], ?_⟩
    conv => lhs; rw [h5, h2]
    simp [ibs]

theorem rns_len (k : Nat) (s : Rd) : (rns k s).1.length = k := by
  induction k with
  | zero => rfl
  | succ k ih => simp [rns, ih]

theorem rdw_ok {s : Rd} (h : (rdw s).2.2 = 0) : s.2 = 0 ∧ s.1 = wb (rdw s).1 ++ (rdw s).2.1 := by
  rw [wb_flat]
  unfold rdw at h ⊢
  simp only at h ⊢
  obtain ⟨a1, a2, a3⟩ := rns_ok h
  obtain ⟨b1, b2, b3⟩ := rc_ok a1
  obtain ⟨c1, c2⟩ := rn_ok b1
  obtain ⟨d1, d2⟩ := rn_ok c1
  obtain ⟨e1, e2, e3⟩ := rt_ok d1
  obtain ⟨f1, f2⟩ := rn_ok e1
  obtain ⟨g1, g2⟩ := rn_ok f1
  obtain ⟨i1, i2⟩ := rn_ok g1
  obtain ⟨j1, j2⟩ := rn_ok i1
  obtain ⟨k1, k2⟩ := rn_ok j1
  obtain ⟨l1, l2⟩ := rn_ok k1
  refine ⟨l1, ?_⟩
  simp only [List.append_assoc]
  rw [a2]
  rw [← a3, ← b3, ← c2, ← d2, ← e3, ← f2, ← g2, ← i2, ← j2, ← k2, ← l2]

theorem parse_back {l : List UInt8} {w : Wl} (h : parse l = (w, 0)) : May w ∧ wb w = l := by
  unfold parse at h
  by_cases h1 : ren (rdw (l, 0)).2 ≠ 0
  · rw [if_pos h1] at h; simp only [Prod.mk.injEq] at h; exact absurd h.2 h1
  · rw [if_neg h1] at h
    by_cases h2 : May (rdw (l, 0)).1
    · rw [if_pos h2] at h
      simp only [Prod.mk.injEq, and_true] at h
      have h1' : ren (rdw (l, 0)).2 = 0 := by simpa using h1
      unfold ren at h1'
      split at h1'
      · cases h1'
      · rename_i h3
        have h4 : (rdw (l, 0)).2.1.length = 0 := by
          rcases Nat.eq_zero_or_pos (rdw (l, 0)).2.1.length with h5 | h5
          · exact h5
          · exact absurd ⟨h1', by omega⟩ h3
        have h6 := (rdw_ok h1').2
        rw [List.eq_nil_of_length_eq_zero h4, List.append_nil] at h6
        rw [← h]
        exact ⟨h2, h6.symm⟩
    · rw [if_neg h2] at h; simp only [Prod.mk.injEq] at h; exact absurd h.2 (by decide)

theorem parse_bad {l : List UInt8} (h : (parse l).2 ≠ 0) : (parse l).1 = W0 := by
  unfold parse at h ⊢
  split
  · rfl
  · rename_i h1
    rw [if_neg h1] at h
    split
    · rename_i h2; rw [if_pos h2] at h; exact absurd rfl h
    · rfl

theorem wb_inj {w v : Wl} (hw : May w) (hv : May v) (h : wb w = wb v) : w = v := by
  have h1 := parse_wb hw
  rw [h, parse_wb hv] at h1
  simpa using h1.symm

/-! ### How long -/

theorem ib_le {x : Int} (h : Nm x) : 1 ≤ (ib x).length ∧ (ib x).length ≤ 8 := by
  rw [ib_nm h, numB_length]
  have := dgs_len7 (n := x.toNat) (by unfold Nm at h; omega)
  omega

theorem ib_two {x : Int} (h : 0 ≤ x) (h1 : x ≤ 255) : 1 ≤ (ib x).length ∧ (ib x).length ≤ 2 := by
  rw [ib_nm ⟨h, by omega⟩, numB_length]
  have := dgs_len (n := x.toNat) (k := 1) (by omega)
  omega

theorem ibs_two {l : List Int} (h : ∀ x ∈ l, 1 ≤ x ∧ x ≤ 28) : (ibs l).length ≤ 2 * l.length := by
  induction l with
  | nil => simp [ibs]
  | cons x l ih =>
    rw [ibs_cons, List.length_append, List.length_cons]
    have h1 := ih fun y hy => h y (List.mem_cons_of_mem _ hy)
    have h2 := h x List.mem_cons_self
    have h3 := ib_two (x := x) (by omega) (by omega)
    omega

theorem May.small {w : Wl} (h : May w) : (0 ≤ w.kd ∧ w.kd ≤ 255) ∧ (0 ≤ w.cl ∧ w.cl ≤ 255) ∧ (0 ≤ w.gr ∧ w.gr ≤ 255) ∧ (0 ≤ w.bl ∧ w.bl ≤ 255) ∧ (0 ≤ w.od ∧ w.od ≤ 255) ∧ (0 ≤ w.nw ∧ w.nw ≤ 255) ∧ ∀ x ∈ w.nx, 1 ≤ x ∧ x ≤ 28 := by
  obtain ⟨he, h⟩ := h
  have hx : ∀ (l : List Int), l.length = 0 → ∀ x ∈ l, 1 ≤ x ∧ x ≤ 28 := fun l hl x hx => by rw [List.eq_nil_of_length_eq_zero hl] at hx; cases hx
  rcases h with ⟨h, ⟨a1, a2⟩, ⟨b1, b2⟩, c, d, e⟩ | ⟨h, ⟨a1, a2⟩, ⟨b1, b2⟩, c, d, e⟩ | ⟨h, ⟨a1, a2⟩, ⟨b1, b2, b3⟩, c, d, e⟩ | ⟨h, ⟨a1, a2⟩, ⟨b1, b2, b3⟩, c, ⟨d1, d2, _⟩, e⟩ | ⟨h, ⟨a1, a2, a3, a4⟩, c, d, e1, e2⟩
  · exact ⟨by omega, by omega, by omega, by omega, by omega, by omega, hx _ e⟩
  · exact ⟨by omega, by omega, by omega, by omega, by omega, by omega, hx _ e⟩
  · exact ⟨by omega, by omega, by omega, by omega, by omega, by omega, hx _ e⟩
  · exact ⟨by omega, by omega, by omega, by omega, by omega, by omega, hx _ e⟩
  · exact ⟨by omega, by omega, by omega, by omega, by omega, by omega, ris_in e2⟩

theorem wb_len {w : Wl} (h : May w) : 10 ≤ (wb w).length ∧ (wb w).length < 128 := by
  obtain ⟨h1, h2, h3, h4, h5, h6, h7, h8, h9, h10, h11⟩ := h.nums
  obtain ⟨s1, s2, s3, s4, s5, s6, s7⟩ := h.small
  rw [wb_flat]
  have a1 := ib_two s1.1 s1.2
  have a2 := ib_two s2.1 s2.2
  have a3 := ib_le h3
  have a4 := ib_two s3.1 s3.2
  have a5 := ib_le h5
  have a6 := ib_two s4.1 s4.2
  have a7 := ib_two s5.1 s5.2
  have a8 := ib_two s6.1 s6.2
  have a9 := ib_two (x := (w.nx.length : Int)) (by omega) (by omega)
  have a10 := ibs_two s7
  have a11 : (sb w.da).length ≤ 24 ∧ 1 ≤ (sb w.da).length := by
    rw [sb_st (by omega), List.length_append, numB_length]
    have := dgs_len (n := w.da.length) (k := 1) (by omega)
    omega
  simp only [List.length_append]
  omega

theorem sb_len {l : List UInt8} (h : l.length ≤ 65536) : 1 ≤ (sb l).length ∧ (sb l).length ≤ 8 + l.length := by
  rw [sb_st h, List.length_append, numB_length]
  have := dgs_len7 (n := l.length) (by omega)
  omega

/-! ### Cut -/

/-- 'p' is a beginning of 'z', not all of it. -/
def Pfx (p z : List UInt8) : Prop := ∃ y, y ≠ [] ∧ p ++ y = z

theorem Pfx.take {z : List UInt8} {k : Nat} (h : k < z.length) : Pfx (z.take k) z := ⟨z.drop k, by simp; omega, List.take_append_drop _ _⟩

theorem Pfx.split {p a z : List UInt8} (h : Pfx p (a ++ z)) : (∃ j, j < a.length ∧ p = a.take j) ∨ ∃ q, p = a ++ q ∧ Pfx q z := by
  obtain ⟨y, hy, he⟩ := h
  by_cases hl : p.length < a.length
  · refine .inl ⟨p.length, hl, ?_⟩
    have := congrArg (List.take p.length) he
    rw [List.take_left, List.take_append_of_le_length (by omega)] at this
    exact this
  · refine .inr ⟨p.drop a.length, ?_, y, hy, ?_⟩
    · have := congrArg (List.take a.length) he
      rw [List.take_append_of_le_length (by omega), List.take_left] at this
      have h2 := List.take_append_drop a.length p
      rw [this] at h2
      exact h2.symm
    · have := congrArg (List.drop a.length) he
      rw [List.drop_append_of_le_length (by omega), List.drop_left] at this
      exact this

theorem Pfx.nil {p : List UInt8} (h : Pfx p []) : False := by
  obtain ⟨y, hy, he⟩ := h
  exact hy (List.append_eq_nil_iff.1 he).2

/-- Either the bytes ended too early, or what is left is cut. -/
def Cut (s : Rd) (z : List UInt8) : Prop := s.2 = 3 ∨ s.2 = 0 ∧ Pfx s.1 z

theorem Cut.cn {s : Rd} {x : Int} {z : List UInt8} (h : Cut s (ib x ++ z)) (hx : Nm x) : ((rn s).1 = x ∨ (rn s).2.2 = 3) ∧ Cut (rn s).2 z := by
  rcases h with h | ⟨h, hp⟩
  · rw [rn_err (by omega)]; exact ⟨.inr h, .inl h⟩
  · obtain ⟨p, e⟩ := s
    simp only at h hp
    subst h
    rcases hp.split with ⟨j, hj, rfl⟩ | ⟨q, rfl, hq⟩
    · have hr : (rn ((ib x).take j, 0)).2.2 = 3 := by
        rw [ib_nm hx] at hj ⊢
        unfold rn
        rw [if_neg (by simp)]
        simp only [tk_short (n := x.toNat) (by unfold Nm at hx; omega) hj]
      exact ⟨.inr hr, .inl hr⟩
    · rw [rn_ib hx]; exact ⟨.inl rfl, .inr ⟨rfl, hq⟩⟩

theorem ts_short {d : List UInt8} {m j : Nat} (hd : d.length ≤ m) (hm : m ≤ 65536) (hj : j < (sb d).length) : (ts ((sb d).take j) (m : Int)).2.2 = 3 := by
  rw [sb_st (by omega)] at hj ⊢
  have hn : d.length ≤ 9007199254740991 := by omega
  have hl := numB_length (n := d.length)
  by_cases h : j < (numB d.length).length
  · rw [List.take_append_of_le_length (by omega)]
    have := tk_short hn h
    unfold tk at this
    unfold ts
    rw [if_neg (by omega)]
    have h3 : (nu ((numB d.length).take j)).2.2 = 3 := by
      by_cases h0 : (nu ((numB d.length).take j)).2.2 = 0
      · rw [if_pos h0] at this; simp at this
      · rw [if_neg h0] at this; simp at this; exact this
    rw [if_pos (by omega), h3]
  · have e : (numB d.length ++ d).take j = numB d.length ++ d.take (j - (numB d.length).length) := by
      rw [List.take_append, List.take_of_length_le (by omega)]
    rw [e]
    have hnu := nu_num hn (d.take (j - (numB d.length).length))
    unfold ts
    rw [if_neg (by omega), hnu]
    rw [if_neg (by simp), if_neg (by simp; omega)]
    have e2 : (numB d.length ++ d.take (j - (numB d.length).length)).drop (1 + (dgs d.length).length) = d.take (j - (numB d.length).length) := by
      rw [← hl, List.drop_left]
    simp only [e2]
    unfold tf
    rw [List.length_append] at hj
    rw [if_neg (by omega), if_pos (by rw [List.length_take]; omega)]

theorem Cut.ct {s : Rd} {d z : List UInt8} {m : Nat} (h : Cut s (sb d ++ z)) (hd : d.length ≤ m) (hm : m ≤ 65536) : ((rt m s).1 = d ∨ (rt m s).2.2 = 3) ∧ Cut (rt m s).2 z := by
  rcases h with h | ⟨h, hp⟩
  · rw [rt_err (by omega)]; exact ⟨.inr h, .inl h⟩
  · obtain ⟨p, e⟩ := s
    simp only at h hp
    subst h
    rcases hp.split with ⟨j, hj, rfl⟩ | ⟨q, rfl, hq⟩
    · have hr : (rt m ((sb d).take j, 0)).2.2 = 3 := by
        unfold rt
        rw [if_neg (by simp)]
        exact ts_short hd hm hj
      exact ⟨.inr hr, .inl hr⟩
    · rw [rt_sb hd hm]; exact ⟨.inl rfl, .inr ⟨rfl, hq⟩⟩

theorem rc_err {m : Nat} {s : Rd} (h : s.2 ≠ 0) : rc m s = (0, s) := by
  unfold rc
  rw [rn_err h]
  simp only
  rw [if_neg (by omega)]
  rfl

theorem Cut.cc {s : Rd} {n m : Nat} {z : List UInt8} (h : Cut s (ib (n : Int) ++ z)) (hn : n ≤ m) (hm : m ≤ 65536) : ((rc m s).1 = n ∨ (rc m s).2.2 = 3) ∧ Cut (rc m s).2 z := by
  rcases h with h | ⟨h, hp⟩
  · rw [rc_err (by omega)]; exact ⟨.inr h, .inl h⟩
  · have h1 := Cut.cn (s := s) (x := (n : Int)) (.inr ⟨h, hp⟩) ⟨by omega, by omega⟩
    have hlim : ¬ (m : Int) < (rn s).1 := by
      rcases h1.1 with h2 | h2
      · omega
      · obtain ⟨p, e⟩ := s
        simp only at h hp
        subst h
        have h3 := (tk_err0 (l := p) (n := (tk p).1) (rest := (tk p).2.1) (e := (tk p).2.2) rfl (by
          have : (rn (p, 0)).2.2 = (tk p).2.2 := by unfold rn; rw [if_neg (by simp)]
          omega)).1
        have : (rn (p, 0)).1 = ((tk p).1 : Nat) := by unfold rn; rw [if_neg (by simp)]
        rw [this, h3]
        omega
    unfold rc
    rw [if_neg hlim]
    refine ⟨?_, h1.2⟩
    rcases h1.1 with h2 | h2
    · exact .inl (by simp only [h2]; omega)
    · exact .inr h2

theorem rns_err {k : Nat} {s : Rd} (h : s.2 ≠ 0) : (rns k s).2 = s := by
  induction k with
  | zero => rfl
  | succ k ih => unfold rns; simp only [ih, rn_err h]

theorem Cut.cns {s : Rd} {l : List Int} {z : List UInt8} (h : Cut s (ibs l ++ z)) (hl : ∀ x ∈ l, Nm x) : Cut (rns l.length s).2 z := by
  suffices H : ∀ k, k ≤ l.length → Cut (rns k s).2 (ibs (l.drop k) ++ z) by
    have := H l.length (Nat.le_refl _)
    simpa [ibs] using this
  intro k
  induction k with
  | zero => intro _; simpa [rns] using h
  | succ k ih =>
    intro hk
    have hk' : k < l.length := by omega
    have e := ibs_drop hk'
    have h1 := ih (by omega)
    rw [e, List.append_assoc] at h1
    unfold rns
    exact (Cut.cn h1 (hl _ (List.getElem_mem hk'))).2

theorem Cut.cdw {s : Rd} {w : Wl} {z : List UInt8} (h : Cut s (wb w ++ z)) (hw : May w) : Cut (rdw s).2 z := by
  obtain ⟨h1, h2, h3, h4, h5, h6, h7, h8, h9, h10, h11⟩ := hw.nums
  rw [wb_flat] at h
  simp only [List.append_assoc] at h
  have a := (((((((((h.cn h1).2.cn h2).2.cn h3).2.cn h4).2.cn h5).2.cn h6).2.ct h9 (by omega)).2.cn h7).2.cn h8).2.cc h10 (by omega)
  unfold rdw
  simp only
  rcases a.1 with b | b
  · rw [b]
    exact a.2.cns h11
  · rw [rns_err (by omega)]
    exact .inl b

/-- Cut bytes are told to be short. -/
theorem parse_cut {w : Wl} (h : May w) {k : Nat} (hk : k < (wb w).length) : parse ((wb w).take k) = (W0, 3) := by
  have h1 : Cut (rdw ((wb w).take k, 0)).2 [] := Cut.cdw (z := []) (.inr ⟨rfl, by rw [List.append_nil]; exact Pfx.take hk⟩) h
  rcases h1 with h1 | ⟨_, h1⟩
  · unfold parse
    have : ren (rdw ((wb w).take k, 0)).2 = 3 := by unfold ren; rw [if_neg (by omega), h1]
    rw [this]
    rfl
  · exact h1.nil.elim

end Go.Proofs.YtihmddpafbackaaGreat
