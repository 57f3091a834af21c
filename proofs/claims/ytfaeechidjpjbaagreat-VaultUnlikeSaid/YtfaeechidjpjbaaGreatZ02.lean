/-
  Laid together for a hand-in: Join, Shelf, Written, Str, Plain2.
-/
import Derived.Test.YtfaeechidjpjbaaGreatZ01
import Derived.Test.YtfaeechidjpjbaaGreatProg
import Derived.Shelf.Small.Bits
import Derived.Shelf.Strconv.Itoa0
import Derived.Shelf.Bits.Mul64
import Derived.Ground.Names2Prog
import Derived.Shelf.Slices.Clone

namespace Go.Proofs.YtfaeechidjpjbaaGreat

open Go.RowKit

set_option linter.unusedVariables false

/-- The slice 'A' of slices shows the texts 'ls'. -/
def Bss (w : World) (A : Option Addr) (ls : List (List UInt8)) : Prop :=
  ∃ vs : List Value, Shows w w.heap.size 1 A ls.length vs ∧ ∀ i (h : i < ls.length), ∃ Ai ci, vs[i]? = some (.slice Ai ls[i].length ci) ∧ Bs w Ai ls[i]

theorem Bss.at_ {w : World} {A : Option Addr} {ls : List (List UInt8)} (h : Bss w A ls) {i : Nat} (hi : i < ls.length) :
    ∃ b off Ai ci, A = some ⟨b, off, none⟩ ∧ b < w.heap.size ∧ w.cell? ⟨b, off + i, none⟩ = some (.slice Ai ls[i].length ci) ∧ Bs w Ai ls[i] := by
  obtain ⟨vs, h1, h2⟩ := h
  obtain ⟨b, off, u, e, hb, hu, hc⟩ := h1.at_ hi
  obtain ⟨Ai, ci, hv, hB⟩ := h2 i hi
  rw [hv] at hu
  injection hu with hu
  subst hu
  exact ⟨b, off, Ai, ci, e, hb, hc, hB⟩

theorem Bss.after {w w' : World} {A : Option Addr} {ls : List (List UInt8)} (hb : Below w.heap.size w w') (h : Bss w A ls) : Bss w' A ls := by
  obtain ⟨vs, h1, h2⟩ := h
  exact ⟨vs, Shows.on h1 hb, fun i hi => let ⟨Ai, ci, hv, hB⟩ := h2 i hi; ⟨Ai, ci, hv, hB.after hb⟩⟩

theorem flat_step (ls : List (List UInt8)) (k : Nat) (h : k < ls.length) : (ls.take (k + 1)).flatten = (ls.take k).flatten ++ ls[k] := by
  rw [List.take_succ_eq_append_getElem h, List.flatten_append]; simp

theorem flat_le (ls : List (List UInt8)) (k : Nat) : (ls.take k).flatten.length ≤ ls.flatten.length := by
  conv => rhs; rw [← List.take_append_drop k ls, List.flatten_append, List.length_append]
  omega

set_option maxHeartbeats 800000 in
theorem join_any (A : Option Addr) (c m : Nat) (ls : List (List UInt8)) (w : World) (hA : Bss w A ls) (hm : ls.length = m) (hml : m ≤ 1000) (hl : ls.flatten.length ≤ 140737488355328) :
    Calls Tryz.prog 105 #[.slice A m c] w (RetB w ls.flatten) := by
  obtain ⟨i0, hi, hz0, hz1, hz2⟩ := info_parts u8_info
  have Hm := Lib.hid hm
  clear hm
  go_enter Tryz.func105, Tryz.ntmps105
  go_wp2
  go_loop [3, 5, 11] (fun s _ i => ∃ k : Nat, k ≤ m ∧ i = .int .i64 k ∧ s = .int .i64 ((ls.take k).flatten.length : Nat)) (fun _ _ i => m - (intOf i).toNat)
  case atStart => exact ⟨0, Nat.zero_le _, rfl, by simp⟩
  case round =>
    obtain ⟨k, hk, rfl, rfl⟩ := hrel
    by_cases hlt : k < m
    · obtain ⟨b, off, Ai, ci, rfl, hb, hc, _⟩ := hA.at_ (i := k) (by rw [Hm.out]; exact hlt)
      have hst := flat_step ls k (by rw [Hm.out]; exact hlt)
      have hle := flat_le ls (k + 1)
      have hle0 : (ls.take k).flatten.length + (ls[k]'(by rw [Hm.out]; exact hlt)).length ≤ ls.flatten.length := by
        rw [hst, List.length_append] at hle; exact hle
      have Hst : Hid ((ls.take (k + 1)).flatten.length = (ls.take k).flatten.length + (ls[k]'(by rw [Hm.out]; exact hlt)).length) := by
        show _ = _; rw [hst]; simp
      clear hst hle
      generalize (ls[k]'(by rw [Hm.out]; exact hlt)).length = q at *
      generalize (ls.take k).flatten.length = s at *
      generalize ls.flatten.length = tot at *
      go_wp2
      go_round
      case rel => exact ⟨k + 1, by omega, by go_num, by rw [Hst.out]; go_num⟩
      case measure => simp [intOf]; omega
    · have Hst : Hid ((ls.take k).flatten.length = ls.flatten.length) := by
        show _ = _; rw [List.take_of_length_le (by rw [Hm.out]; omega)]
      have hle := flat_le ls k
      generalize (ls.take k).flatten.length = s at *
      go_wp2_with (at_make; refine wpList_make_own _ rfl _ _ 22 rfl w.heap.size 5 i0 (.int .u8 0) 1 Tryz.underlying22 hi hz0 hz1 .i64 .i64 _ s rfl rfl (by omega) (by rw [hz2]; omega) (by unfold maxLen; omega) (Nat.le_refl _) ?_; intro w1 ho1 hg1)
      have hb1 : Below w.heap.size w w1 := (Below.refl _ _).grown hg1 (Nat.le_refl _) (by simp)
      go_loopw [6, 8, 24] (fun v _ i wr => ∃ k : Nat, k ≤ m ∧ i = .int .i64 k ∧ Mine wr w.heap.size 5 v (ls.take k).flatten ∧ Below w.heap.size w wr) (fun _ _ i _ => m - (intOf i).toNat)
      case atStart => exact ⟨0, Nat.zero_le _, rfl, ho1, hb1⟩
      case round =>
        obtain ⟨k, hk, rfl, hown, hnx⟩ := hrel
        by_cases hlt : k < m
        · obtain ⟨b, off, Ai, ci, rfl, hb, hc0, hBi⟩ := hA.at_ (i := k) (by rw [Hm.out]; exact hlt)
          have hc : wr.cell? ⟨b, off + k, none⟩ = some (.slice Ai (ls[k]'(by rw [Hm.out]; exact hlt)).length ci) := (hnx.cell (by exact hb)).trans hc0
          have hst := flat_step ls k (by rw [Hm.out]; exact hlt)
          have hle := flat_le ls (k + 1)
          have hBr : Bs wr Ai (ls[k]'(by rw [Hm.out]; exact hlt)) := hBi.after hnx
          have Hst := Lib.hid hst
          have hlen : (ls.take k).flatten.length + (ls[k]'(by rw [Hm.out]; exact hlt)).length ≤ 140737488355328 := by
            rw [hst, List.length_append] at hle; omega
          clear hst hle hc0 hBi
          generalize (ls[k]'(by rw [Hm.out]; exact hlt)) = x at *
          generalize hq : x.length = q at *
          have Hq := Lib.hid hq
          clear hq
          go_wp2_with (at_builtin; refine wp_appendB rfl _ _ rfl w.heap.size _ _ rfl hown Ai ci q x rfl hBr Hq.out hlen hnx.size ?_; intro v2 w2 hm2 hg2 ho2)
          go_roundw
          case rel =>
            refine ⟨k + 1, by omega, by go_num, by rw [Hst.out]; exact hm2, hnx.grown hg2 hnx.size ?_⟩
            intro j hj
            exact (World.ownsRow.lt hown j hj).1
          case measure => simp [intOf]; omega
        · have Hst : Hid ((ls.take k).flatten = ls.flatten) := by
            show _ = _; rw [List.take_of_length_le (by rw [Hm.out]; omega)]
          rw [Hst.out] at hown
          go_wp2
          go_ret
          exact ⟨_, rfl, hown, hnx⟩

set_option maxHeartbeats 800000 in
theorem refJoin_any (A : Option Addr) (c m : Nat) (ls : List (List UInt8)) (w : World) (hA : Bss w A ls) (hm : ls.length = m) (hml : m ≤ 1000) (hl : ls.flatten.length ≤ 140737488355328) :
    Calls Tryz.prog 80 #[.slice A m c] w (RetB w ls.flatten) := by
  have Hm := Lib.hid hm
  clear hm
  go_enter Tryz.func80, Tryz.ntmps80
  go_wp2
  go_loopw [3, 4] (fun v i wr => ∃ k : Nat, k ≤ m ∧ i = .int .i64 k ∧ Mine wr w.heap.size 5 v (ls.take k).flatten ∧ Below w.heap.size w wr) (fun _ i _ => m - (intOf i).toNat)
  case atStart => exact ⟨0, Nat.zero_le _, rfl, World.ownsRow_nil _ _ _ _, Below.refl _ _⟩
  case round =>
    obtain ⟨k, hk, rfl, hown, hnx⟩ := hrel
    by_cases hlt : k < m
    · obtain ⟨b, off, Ai, ci, rfl, hb, hc0, hBi⟩ := hA.at_ (i := k) (by rw [Hm.out]; exact hlt)
      have hc : wr.cell? ⟨b, off + k, none⟩ = some (.slice Ai (ls[k]'(by rw [Hm.out]; exact hlt)).length ci) := (hnx.cell (by exact hb)).trans hc0
      have hst := flat_step ls k (by rw [Hm.out]; exact hlt)
      have hle := flat_le ls (k + 1)
      have hBr : Bs wr Ai (ls[k]'(by rw [Hm.out]; exact hlt)) := hBi.after hnx
      have Hst := Lib.hid hst
      have hlen : (ls.take k).flatten.length + (ls[k]'(by rw [Hm.out]; exact hlt)).length ≤ 140737488355328 := by
        rw [hst, List.length_append] at hle; omega
      clear hst hle hc0 hBi
      generalize (ls[k]'(by rw [Hm.out]; exact hlt)) = x at *
      generalize hq : x.length = q at *
      have Hq := Lib.hid hq
      clear hq
      go_wp2_with (at_builtin; refine wp_appendB rfl _ _ rfl w.heap.size _ _ rfl hown Ai ci q x rfl hBr Hq.out hlen hnx.size ?_; intro v2 w2 hm2 hg2 ho2)
      go_roundw
      case rel =>
        refine ⟨k + 1, by omega, by go_num, by rw [Hst.out]; exact hm2, hnx.grown hg2 hnx.size ?_⟩
        intro j hj
        exact (World.ownsRow.lt hown j hj).1
      case measure => simp [intOf]; omega
    · have Hst : Hid ((ls.take k).flatten = ls.flatten) := by
        show _ = _; rw [List.take_of_length_le (by rw [Hm.out]; omega)]
      rw [Hst.out] at hown
      go_wp2
      go_ret
      exact ⟨_, rfl, hown, hnx⟩

end Go.Proofs.YtfaeechidjpjbaaGreat

namespace Go.Proofs
open Go.Shelf
def Tryz.lays128_ren : Go.Shelf.Ren := ⟨fun | 128 => 133 | n => n, fun | 51 => 162 | 3 => 3 | 4 => 4 | 46 => 53 | 5 => 5 | 9 => 9 | n => n, fun | n => n⟩
theorem Tryz.lays128 : Go.Proofs.Lays.n128 Tryz.prog Tryz.lays128_ren := {
  mixed := by kernel_rfl
  f128 := Tryz.func133.trans (congrArg some (by kernel_rfl))
  t3 := Tryz.underlying3
  a3 := Tryz.isAgg3
  z3 := Tryz.sizeOf3
  v3 := Tryz.zeroValue3
  t4 := Tryz.underlying4
  a4 := Tryz.isAgg4
  z4 := Tryz.sizeOf4
  v4 := Tryz.zeroValue4
  t5 := Tryz.underlying5
  a5 := Tryz.isAgg5
  z5 := Tryz.sizeOf5
  v5 := Tryz.zeroValue5
  t9 := Tryz.underlying9
  a9 := Tryz.isAgg9
  z9 := Tryz.sizeOf9
  v9 := Tryz.zeroValue9
  t46 := Tryz.underlying53
  a46 := Tryz.isAgg53
  z46 := Tryz.sizeOf53
  v46 := Tryz.zeroValue53
  t51 := Tryz.underlying162
  a51 := Tryz.isAgg162
  z51 := Tryz.sizeOf162
  v51 := Tryz.zeroValue162 }
theorem Tryz.bits_Len32 (x : Int) (w : World) (h0 : 0 ≤ x) (h1 : x ≤ 4294967295) :
    Calls Tryz.prog 133 #[.int .u32 x] w fun e w' => e = .returned (.int .i64 (Lib.bitLen x.toNat)) ∧ w' = w := Any.bits_Len32 Tryz.lays128 x w h0 h1
def Tryz.lays125_ren : Go.Shelf.Ren := ⟨fun | 125 => 123 | 128 => 133 | 129 => 134 | n => n, fun | 46 => 53 | 3 => 3 | 51 => 162 | 53 => 164 | 4 => 4 | 5 => 5 | 9 => 9 | n => n, fun | n => n⟩
theorem Tryz.lays125 : Go.Proofs.Lays.n125 Tryz.prog Tryz.lays125_ren := {
  mixed := by kernel_rfl
  f125 := Tryz.func123.trans (congrArg some (by kernel_rfl))
  f128 := Tryz.func133.trans (congrArg some (by kernel_rfl))
  f129 := Tryz.func134.trans (congrArg some (by kernel_rfl))
  t3 := Tryz.underlying3
  a3 := Tryz.isAgg3
  z3 := Tryz.sizeOf3
  v3 := Tryz.zeroValue3
  t4 := Tryz.underlying4
  a4 := Tryz.isAgg4
  z4 := Tryz.sizeOf4
  v4 := Tryz.zeroValue4
  t5 := Tryz.underlying5
  a5 := Tryz.isAgg5
  z5 := Tryz.sizeOf5
  v5 := Tryz.zeroValue5
  t9 := Tryz.underlying9
  a9 := Tryz.isAgg9
  z9 := Tryz.sizeOf9
  v9 := Tryz.zeroValue9
  t46 := Tryz.underlying53
  a46 := Tryz.isAgg53
  z46 := Tryz.sizeOf53
  v46 := Tryz.zeroValue53
  t51 := Tryz.underlying162
  a51 := Tryz.isAgg162
  z51 := Tryz.sizeOf162
  v51 := Tryz.zeroValue162
  t53 := Tryz.underlying164
  a53 := Tryz.isAgg164
  z53 := Tryz.sizeOf164
  v53 := Tryz.zeroValue164 }
theorem Tryz.bits_Len (x : Int) (w : World) (h0 : 0 ≤ x) (h1 : x ≤ 18446744073709551615) :
    Calls Tryz.prog 123 #[.int .u64 x] w fun e w' => e = .returned (.int .i64 (Lib.bitLen x.toNat)) ∧ w' = w := Any.bits_Len Tryz.lays125 x w h0 h1
def Tryz.lays134_ren : Go.Shelf.Ren := ⟨fun | 134 => 198 | 129 => 134 | n => n, fun | 53 => 164 | 3 => 3 | 4 => 4 | 46 => 53 | 5 => 5 | 9 => 9 | n => n, fun | n => n⟩
theorem Tryz.lays134 : Go.Proofs.Lays.n134 Tryz.prog Tryz.lays134_ren := {
  mixed := by kernel_rfl
  f129 := Tryz.func134.trans (congrArg some (by kernel_rfl))
  f134 := Tryz.func198.trans (congrArg some (by kernel_rfl))
  t3 := Tryz.underlying3
  a3 := Tryz.isAgg3
  z3 := Tryz.sizeOf3
  v3 := Tryz.zeroValue3
  t4 := Tryz.underlying4
  a4 := Tryz.isAgg4
  z4 := Tryz.sizeOf4
  v4 := Tryz.zeroValue4
  t5 := Tryz.underlying5
  a5 := Tryz.isAgg5
  z5 := Tryz.sizeOf5
  v5 := Tryz.zeroValue5
  t9 := Tryz.underlying9
  a9 := Tryz.isAgg9
  z9 := Tryz.sizeOf9
  v9 := Tryz.zeroValue9
  t46 := Tryz.underlying53
  a46 := Tryz.isAgg53
  z46 := Tryz.sizeOf53
  v46 := Tryz.zeroValue53
  t53 := Tryz.underlying164
  a53 := Tryz.isAgg164
  z53 := Tryz.sizeOf164
  v53 := Tryz.zeroValue164 }
theorem Tryz.bits_LeadingZeros64 (x : Int) (w : World) (h0 : 0 ≤ x) (h1 : x ≤ 18446744073709551615) :
    Calls Tryz.prog 198 #[.int .u64 x] w fun e w' => e = .returned (.int .i64 (64 - (Lib.bitLen x.toNat : Int))) ∧ w' = w := Any.bits_LeadingZeros64 Tryz.lays134 x w h0 h1
def Tryz.lays129_ren : Go.Shelf.Ren := ⟨fun | 129 => 134 | n => n, fun | 53 => 164 | 3 => 3 | 4 => 4 | 46 => 53 | 5 => 5 | 9 => 9 | n => n, fun | n => n⟩
theorem Tryz.lays129 : Go.Proofs.Lays.n129 Tryz.prog Tryz.lays129_ren := {
  mixed := by kernel_rfl
  f129 := Tryz.func134.trans (congrArg some (by kernel_rfl))
  t3 := Tryz.underlying3
  a3 := Tryz.isAgg3
  z3 := Tryz.sizeOf3
  v3 := Tryz.zeroValue3
  t4 := Tryz.underlying4
  a4 := Tryz.isAgg4
  z4 := Tryz.sizeOf4
  v4 := Tryz.zeroValue4
  t5 := Tryz.underlying5
  a5 := Tryz.isAgg5
  z5 := Tryz.sizeOf5
  v5 := Tryz.zeroValue5
  t9 := Tryz.underlying9
  a9 := Tryz.isAgg9
  z9 := Tryz.sizeOf9
  v9 := Tryz.zeroValue9
  t46 := Tryz.underlying53
  a46 := Tryz.isAgg53
  z46 := Tryz.sizeOf53
  v46 := Tryz.zeroValue53
  t53 := Tryz.underlying164
  a53 := Tryz.isAgg164
  z53 := Tryz.sizeOf164
  v53 := Tryz.zeroValue164 }
theorem Tryz.bits_Len64 (x : Int) (w : World) (h0 : 0 ≤ x) (h1 : x ≤ 18446744073709551615) :
    Calls Tryz.prog 134 #[.int .u64 x] w fun e w' => e = .returned (.int .i64 (Lib.bitLen x.toNat)) ∧ w' = w := Any.bits_Len64 Tryz.lays129 x w h0 h1
def Tryz.lays264_ren : Go.Shelf.Ren := ⟨fun | 264 => 196 | n => n, fun | 53 => 164 | 46 => 53 | n => n, fun | n => n⟩
theorem Tryz.lays264 : Go.Proofs.Lays.n264 Tryz.prog Tryz.lays264_ren := {
  mixed := by kernel_rfl
  f264 := Tryz.func196.trans (congrArg some (by kernel_rfl))
  t46 := Tryz.underlying53
  a46 := Tryz.isAgg53
  z46 := Tryz.sizeOf53
  v46 := Tryz.zeroValue53
  t53 := Tryz.underlying164
  a53 := Tryz.isAgg164
  z53 := Tryz.sizeOf164
  v53 := Tryz.zeroValue164 }
open Go.RowKit Go.Lib in
theorem Tryz.bits_Mul64 (x y : Nat) (hx : x < 18446744073709551616) (hy : y < 18446744073709551616) (w : World) :
    Calls Tryz.prog 196 #[.int .u64 x, .int .u64 y] w fun e w' => e = .returned (.tuple #[.int .u64 ((x * y / 18446744073709551616 : Nat) : Int), .int .u64 ((x * y % 18446744073709551616 : Nat) : Int)]) ∧ w' = w := Any.bits_Mul64 Tryz.lays264 x y hx hy w
def Tryz.laysNm215_ren : Go.Shelf.Ren := ⟨fun | 15 => 64 | n => n, fun | 22 => 41 | 3 => 3 | 4 => 4 | n => n, fun | n => n⟩
theorem Tryz.laysNm215 : Go.Proofs.Lays2.n15 Tryz.prog Tryz.laysNm215_ren := {
  mixed := by kernel_rfl
  f15 := Tryz.func64.trans (congrArg some (by kernel_rfl))
  t3 := Tryz.underlying3
  a3 := Tryz.isAgg3
  z3 := Tryz.sizeOf3
  v3 := Tryz.zeroValue3
  t4 := Tryz.underlying4
  a4 := Tryz.isAgg4
  z4 := Tryz.sizeOf4
  v4 := Tryz.zeroValue4
  t22 := Tryz.underlying41
  a22 := Tryz.isAgg41
  z22 := Tryz.sizeOf41
  v22 := Tryz.zeroValue41
  i3 := by kernel_rfl }
open Go.RowKit Go.Lib in
theorem Tryz.slices_Clone_int (b off n c : Nat) (zs : List Int) (w : World) (hz : n ≤ zs.length) (hbig : n * 8 ≤ 140737488355328) (hc : ∀ j, j < zs.length → w.cell? ⟨b, off + j, none⟩ = some (.int .i64 (zs.getD j 0))) :
    Calls Tryz.prog 64 #[.slice (some ⟨b, off, none⟩) n c] w fun e w' => ∃ v', e = .returned v' ∧ w'.ownsRow w.heap.size 3 1 v' n ((zs.take n).map (Value.int .i64)) ∧ v' ≠ .slice none 0 0 ∧ Below w.heap.size w w' := Any.slices_Clone_int Tryz.laysNm215 b off n c zs w hz hbig hc
open Go.RowKit Go.Lib in
theorem Tryz.slices_Clone_int_nil (n c : Nat) (w : World) :
    Calls Tryz.prog 64 #[.slice none n c] w fun e w' => e = .returned (.slice none 0 0) ∧ w' = w := Any.slices_Clone_int_nil Tryz.laysNm215 n c w
open Go.RowKit Go.Lib in
theorem Tryz.slices_Clone_int_zero (a : Addr) (c : Nat) (w : World) :
    Calls Tryz.prog 64 #[.slice (some a) 0 c] w fun e w' => ∃ v', e = .returned v' ∧ w'.ownsRow w.heap.size 3 1 v' 0 [] ∧ v' ≠ .slice none 0 0 ∧ Below w.heap.size w w' := Any.slices_Clone_int_zero Tryz.laysNm215 a c w
end Go.Proofs

namespace Go.Proofs.YtfaeechidjpjbaaGreat

open Go.RowKit

set_option linter.unusedVariables false

theorem make_zero (n : Nat) : (madeCells (Value.cells (.int .u8 0)) (n * 1)).toList = cbs (List.replicate n 0) := by
  apply List.ext_getElem
  · simp [cbs, size_madeCells]
  · intro i h1 h2
    simp [madeCells, cbs, Value.cells, cb, Nat.mod_one]

theorem byte_at (n k : Nat) : Value.int .u8 ((n : Int) / 2 ^ (8 * k) % 256) = cb (UInt8.ofNat (n / 256 ^ k % 256)) := by
  unfold cb
  congr 1
  rw [UInt8.toNat_ofNat', Nat.mod_eq_of_lt (by omega)]
  have e : (2 : Nat) ^ (8 * k) = 256 ^ k := by rw [Nat.pow_mul]
  have e' : (2 : Int) ^ (8 * k) = ((256 ^ k : Nat) : Int) := by rw [← e]; simp
  rw [e']
  simp

set_option maxRecDepth 100000 in
set_option maxRecDepth 100000 in
set_option maxHeartbeats 800000 in
theorem written_any (n : Nat) (w : World) (h : n ≤ 9007199254740991) :
    Calls Tryz.prog 107 #[.int .i64 n] w (RetB w (numB n)) := by
  obtain ⟨i0, hi, hz0, hz1, hz2⟩ := info_parts u8_info
  have hb := dgs_bits n (by omega)
  have h7 := dgs_len7 h
  have hb1 : (Lib.bitLen n + 7) / 8 ≤ (dgs n).length := by omega
  have hb2 : (dgs n).length ≤ (Lib.bitLen n + 7) / 8 := by omega
  clear hb
  generalize hs : (dgs n).length = s at *
  have Hs := Lib.hid hs
  clear hs
  go_enter Tryz.func107, Tryz.ntmps107
  go_wp2_with fail
  refine (Tryz.bits_Len _ _ (by omega) (by omega)).mono ?_
  rintro e w' ⟨rfl, rfl⟩
  rw [Int.toNat_natCast]
  generalize Lib.bitLen n = bl at *
  have hs1 : ((bl : Int) + 7) / 8 ≤ 7 := by omega
  have hs0 : 0 ≤ ((bl : Int) + 7) / 8 := by omega
  go_wp2_with (at_make; refine wpList_make_full _ rfl _ _ 22 rfl w'.heap.size 5 i0 (.int .u8 0) 1 Tryz.underlying22 hi hz0 hz1 .i64 .i64 _ _ (1 + s) rfl rfl (by omega) (by omega) (by rw [hz2]; omega) (by unfold maxLen; omega) (Nat.le_refl _) ?_; intro w1 ho1 hg1; rw [make_zero] at ho1; have hc1 := Mine.cell ho1 (j := 0) (by simp; omega); have hf1 := ho1.frozenAt 0; simp only [List.getElem_replicate] at hc1)
  go_loopw [5, 19] (fun _ i wr => ∃ k : Nat, k ≤ s ∧ i = .int .i64 k ∧ wr.ownsRow w'.heap.size 5 1 (.slice (some ⟨w'.heap.size, 0, none⟩) (1 + s) (1 + s)) (1 + s) (cbs (part n k)) ∧ Below w'.heap.size w' wr) (fun _ i _ => s - (intOf i).toNat)
  case atStart =>
    refine ⟨0, Nat.zero_le _, rfl, ?_, ((Below.refl _ _).grown hg1 (Nat.le_refl _) (by simp)).setCell (by simp) _⟩
    have h1 := Mine.set_ ho1 0 (UInt8.ofNat s) (.int .u8 (((bl : Int) + 7) / 8)) (by
      show _ = Value.int .u8 _
      congr 1
      rw [UInt8.toNat_ofNat']
      omega)
    have h2 : (List.replicate (1 + s) (0 : UInt8)).set 0 (UInt8.ofNat s) = part n 0 := by
      unfold part
      rw [Hs.out, Nat.add_comm, List.replicate_succ]
      simp [← Hs.out]
    rw [← h2]
    exact h1
  case round =>
    obtain ⟨k, hk, rfl, hown, hnx⟩ := hrel
    by_cases hlt : k < s
    · have hlt' : (k : Int) < ((bl : Int) + 7) / 8 := by omega
      have hix : (bl + 7) / 8 - k < (part n k).length := by rw [part_len _ _ (by rw [Hs.out]; omega), Hs.out]; omega
      have hc := Mine.cell hown hix
      have hf := hown.frozenAt ((bl + 7) / 8 - k)
      generalize (part n k)[(bl + 7) / 8 - k] = old at hc
      clear hix
      go_wp2
      go_roundw
      case rel =>
        refine ⟨k + 1, by omega, by go_num, ?_, hnx.setCell (by simp) _⟩
        have hst := part_step n k (by rw [Hs.out]; omega)
        have e1 : (dgs n).length - k = (bl + 7) / 8 - k := by rw [Hs.out]; omega
        rw [e1] at hst
        rw [← hst]
        exact Mine.set_ hown _ _ _ (byte_at n k)
      case measure => simp [intOf]; omega
    · have hk2 : ¬ (k : Int) < ((bl : Int) + 7) / 8 := by omega
      go_wp2
      go_ret
      refine ⟨_, rfl, ?_, hnx⟩
      have hks : k = (dgs n).length := by rw [Hs.out]; omega
      rw [hks, part_end] at hown
      unfold Mine
      have hl : (numB n).length = 1 + s := by rw [← part_end, part_len _ _ (Nat.le_refl _), Hs.out]
      rw [hl]
      exact hown

/-- What Num answers. -/
def nm (n : Int) : List UInt8 × Nat := if n < 0 ∨ 9007199254740991 < n then ([], 9) else (numB n.toNat, 0)

def RetBE (w : World) (r : List UInt8 × Nat) (e : Ending) (w' : World) : Prop := ∃ v, e = .returned (.tuple #[v, .int .i64 (r.2 : Int)]) ∧ NewB w r.1 v w'

set_option maxHeartbeats 400000 in
theorem num_any (n : Int) (w : World) : Calls Tryz.prog 106 #[.int .i64 n] w (RetBE w (nm n)) := by
  by_cases h0 : n < 0
  · have hr : Hid (nm n = ([], 9)) := by show _ = _; simp [nm, h0]
    generalize nm n = r at *
    go_enter Tryz.func106, Tryz.ntmps106
    go_wp2
    go_ret2
    exact ⟨_, by rw [hr.out]; rfl, by rw [hr.out]; exact NewB.nil _⟩
  · by_cases h1 : 9007199254740991 < n
    · have hr : Hid (nm n = ([], 9)) := by show _ = _; simp [nm, h1]
      generalize nm n = r at *
      go_enter Tryz.func106, Tryz.ntmps106
      go_wp2
      go_ret2
      exact ⟨_, by rw [hr.out]; rfl, by rw [hr.out]; exact NewB.nil _⟩
    · obtain ⟨k, rfl⟩ := Int.eq_ofNat_of_zero_le (a := n) (by omega)
      have hr : Hid (nm k = (numB k, 0)) := by show _ = _; simp [nm, h1]
      generalize nm k = r at *
      go_enter Tryz.func106, Tryz.ntmps106
      go_wp2_with fail
      refine (written_any k _ (by omega)).mono ?_
      rintro e w' ⟨v, rfl, hnew⟩
      go_wp2
      go_ret2
      exact ⟨_, by rw [hr.out]; rfl, by rw [hr.out]; exact hnew⟩

end Go.Proofs.YtfaeechidjpjbaaGreat

namespace Go.Proofs.YtfaeechidjpjbaaGreat

open Go.RowKit

set_option linter.unusedVariables false

theorem Bss.made (w : World) (t : TypeId) (vs : Array Value) (ls : List (List UInt8)) (hs : vs.size = ls.length)
    (h : ∀ i (hi : i < ls.length), ∃ Ai ci, vs[i]? = some (.slice Ai ls[i].length ci) ∧ Bs w Ai ls[i]) : Bss (w.alloc (.cells vs t)) (some ⟨w.heap.size, 0, none⟩) ls := by
  refine ⟨vs.toList, ⟨by simp [hs], fun _ => ⟨w.heap.size, 0, rfl, by simp, fun j u hu => ?_⟩⟩, fun i hi => ?_⟩
  · rw [Nat.zero_add, cell_of_row _ _ j vs t (0, 0) (heap_alloc_new w _)]
    simpa using hu
  · obtain ⟨Ai, ci, hv, hB⟩ := h i hi
    exact ⟨Ai, ci, by simpa using hv, hB.on ((Below.refl _ _).alloc (Nat.le_refl _) _)⟩

theorem Bss.made2 {w : World} {t : TypeId} {A1 A2 : Option Addr} {n1 n2 c1 c2 : Nat} {l1 l2 : List UInt8} (h1 : Bs w A1 l1) (e1 : l1.length = n1) (h2 : Bs w A2 l2) (e2 : l2.length = n2) :
    Bss (w.alloc (.cells #[.slice A1 n1 c1, .slice A2 n2 c2] t)) (some ⟨w.heap.size, 0, none⟩) [l1, l2] := by
  subst e1 e2
  refine Bss.made w t _ _ rfl fun i hi => ?_
  match i, hi with
  | 0, _ => exact ⟨A1, c1, rfl, h1⟩
  | 1, _ => exact ⟨A2, c2, rfl, h2⟩

theorem Bss.made1 {w : World} {t : TypeId} {A1 : Option Addr} {n1 c1 : Nat} {l1 : List UInt8} (h1 : Bs w A1 l1) (e1 : l1.length = n1) :
    Bss (w.alloc (.cells #[.slice A1 n1 c1] t)) (some ⟨w.heap.size, 0, none⟩) [l1] := by
  subst e1
  refine Bss.made w t _ _ rfl fun i hi => ?_
  match i, hi with
  | 0, _ => exact ⟨A1, c1, rfl, h1⟩

theorem Bss.made3 {w : World} {t : TypeId} {A1 A2 A3 : Option Addr} {n1 n2 n3 c1 c2 c3 : Nat} {l1 l2 l3 : List UInt8} (h1 : Bs w A1 l1) (e1 : l1.length = n1) (h2 : Bs w A2 l2) (e2 : l2.length = n2) (h3 : Bs w A3 l3) (e3 : l3.length = n3) :
    Bss (w.alloc (.cells #[.slice A1 n1 c1, .slice A2 n2 c2, .slice A3 n3 c3] t)) (some ⟨w.heap.size, 0, none⟩) [l1, l2, l3] := by
  subst e1 e2 e3
  refine Bss.made w t _ _ rfl fun i hi => ?_
  match i, hi with
  | 0, _ => exact ⟨A1, c1, rfl, h1⟩
  | 1, _ => exact ⟨A2, c2, rfl, h2⟩
  | 2, _ => exact ⟨A3, c3, rfl, h3⟩

theorem Bss.none (w : World) : Bss w none [] := ⟨[], Shows.empty _, fun i hi => absurd hi (by simp)⟩

theorem Bs.alloc {w : World} {A : Option Addr} {l : List UInt8} (h : Bs w A l) (o : Obj) : Bs (w.alloc o) A l := h.on ((Below.refl _ _).alloc (Nat.le_refl _) o)

/-- Join of a slice of one, two or three texts that the caller builds. -/
theorem join1 {w : World} {t : TypeId} {A1 : Option Addr} {n1 c1 : Nat} {l1 : List UInt8} (h1 : Bs w A1 l1) (e1 : l1.length = n1) (hl : n1 ≤ 140737488355328) :
    Calls Tryz.prog 105 #[.slice (some ⟨w.heap.size, 0, none⟩) 1 1] (w.alloc (.cells #[.slice A1 n1 c1] t)) fun e w' => ∃ v, e = .returned v ∧ NewB w l1 v w' := by
  refine (join_any _ _ 1 [l1] _ (Bss.made1 h1 e1) rfl (by omega) (by simp; omega)).mono ?_
  rintro e w' ⟨v, rfl, hnew⟩
  exact ⟨v, rfl, NewB.later ((Below.refl _ _).alloc (Nat.le_refl _) _) (by simpa using hnew)⟩

theorem join2 {w : World} {t : TypeId} {A1 A2 : Option Addr} {n1 n2 c1 c2 : Nat} {l1 l2 : List UInt8} (h1 : Bs w A1 l1) (e1 : l1.length = n1) (h2 : Bs w A2 l2) (e2 : l2.length = n2) (hl : n1 + n2 ≤ 140737488355328) :
    Calls Tryz.prog 105 #[.slice (some ⟨w.heap.size, 0, none⟩) 2 2] (w.alloc (.cells #[.slice A1 n1 c1, .slice A2 n2 c2] t)) fun e w' => ∃ v, e = .returned v ∧ NewB w (l1 ++ l2) v w' := by
  refine (join_any _ _ 2 [l1, l2] _ (Bss.made2 h1 e1 h2 e2) rfl (by omega) (by simp; omega)).mono ?_
  rintro e w' ⟨v, rfl, hnew⟩
  exact ⟨v, rfl, NewB.later ((Below.refl _ _).alloc (Nat.le_refl _) _) (by simpa using hnew)⟩

theorem join3 {w : World} {t : TypeId} {A1 A2 A3 : Option Addr} {n1 n2 n3 c1 c2 c3 : Nat} {l1 l2 l3 : List UInt8} (h1 : Bs w A1 l1) (e1 : l1.length = n1) (h2 : Bs w A2 l2) (e2 : l2.length = n2) (h3 : Bs w A3 l3) (e3 : l3.length = n3)
    (hl : n1 + n2 + n3 ≤ 140737488355328) :
    Calls Tryz.prog 105 #[.slice (some ⟨w.heap.size, 0, none⟩) 3 3] (w.alloc (.cells #[.slice A1 n1 c1, .slice A2 n2 c2, .slice A3 n3 c3] t)) fun e w' => ∃ v, e = .returned v ∧ NewB w (l1 ++ (l2 ++ l3)) v w' := by
  refine (join_any _ _ 3 [l1, l2, l3] _ (Bss.made3 h1 e1 h2 e2 h3 e3) rfl (by omega) (by simp; omega)).mono ?_
  rintro e w' ⟨v, rfl, hnew⟩
  exact ⟨v, rfl, NewB.later ((Below.refl _ _).alloc (Nat.le_refl _) _) (by simpa using hnew)⟩

theorem join0 (w : World) : Calls Tryz.prog 105 #[.slice none 0 0] w fun e w' => ∃ v, e = .returned v ∧ NewB w [] v w' := by
  refine (join_any _ _ 0 [] _ (Bss.none w) rfl (by omega) (by simp)).mono ?_
  rintro e w' ⟨v, rfl, hnew⟩
  exact ⟨v, rfl, by simpa using hnew⟩

theorem refJoin2 {w : World} {t : TypeId} {A1 A2 : Option Addr} {n1 n2 c1 c2 : Nat} {l1 l2 : List UInt8} (h1 : Bs w A1 l1) (e1 : l1.length = n1) (h2 : Bs w A2 l2) (e2 : l2.length = n2) (hl : n1 + n2 ≤ 140737488355328) :
    Calls Tryz.prog 80 #[.slice (some ⟨w.heap.size, 0, none⟩) 2 2] (w.alloc (.cells #[.slice A1 n1 c1, .slice A2 n2 c2] t)) fun e w' => ∃ v, e = .returned v ∧ NewB w (l1 ++ l2) v w' := by
  refine (refJoin_any _ _ 2 [l1, l2] _ (Bss.made2 h1 e1 h2 e2) rfl (by omega) (by simp; omega)).mono ?_
  rintro e w' ⟨v, rfl, hnew⟩
  exact ⟨v, rfl, NewB.later ((Below.refl _ _).alloc (Nat.le_refl _) _) (by simpa using hnew)⟩

theorem refJoin3 {w : World} {t : TypeId} {A1 A2 A3 : Option Addr} {n1 n2 n3 c1 c2 c3 : Nat} {l1 l2 l3 : List UInt8} (h1 : Bs w A1 l1) (e1 : l1.length = n1) (h2 : Bs w A2 l2) (e2 : l2.length = n2) (h3 : Bs w A3 l3) (e3 : l3.length = n3)
    (hl : n1 + n2 + n3 ≤ 140737488355328) :
    Calls Tryz.prog 80 #[.slice (some ⟨w.heap.size, 0, none⟩) 3 3] (w.alloc (.cells #[.slice A1 n1 c1, .slice A2 n2 c2, .slice A3 n3 c3] t)) fun e w' => ∃ v, e = .returned v ∧ NewB w (l1 ++ (l2 ++ l3)) v w' := by
  refine (refJoin_any _ _ 3 [l1, l2, l3] _ (Bss.made3 h1 e1 h2 e2 h3 e3) rfl (by omega) (by simp; omega)).mono ?_
  rintro e w' ⟨v, rfl, hnew⟩
  exact ⟨v, rfl, NewB.later ((Below.refl _ _).alloc (Nat.le_refl _) _) (by simpa using hnew)⟩

/-- What Str answers. -/
def st (l : List UInt8) : List UInt8 × Nat := if 65536 < l.length then ([], 5) else (numB l.length ++ l, 0)

set_option maxHeartbeats 800000 in
theorem str_any (A : Option Addr) (c n : Nat) (xs : List UInt8) (w : World) (hA : Bs w A xs) (hn : xs.length = n) (hl : n ≤ maxLen) :
    Calls Tryz.prog 90 #[.slice A n c] w (RetBE w (st xs)) := by
  have Hn := Lib.hid hn
  unfold maxLen at hl
  by_cases h : 65536 < n
  · have hr : Hid (st xs = ([], 5)) := by show _ = _; simp [st, hn, h]
    have h' : (65536 : Int) < n := by omega
    clear hn
    generalize st xs = r at *
    go_enter Tryz.func90, Tryz.ntmps90
    go_wp2
    go_ret2
    exact ⟨_, by rw [hr.out]; rfl, by rw [hr.out]; exact NewB.nil _⟩
  · have hr : Hid (st xs = (numB n ++ xs, 0)) := by show _ = _; simp [st, hn, h]
    have h' : ¬ (65536 : Int) < n := by omega
    clear hn
    generalize st xs = r at *
    go_enter Tryz.func90, Tryz.ntmps90
    go_wp2_with fail
    refine (written_any n _ (by omega)).mono ?_
    rintro e w1 ⟨v, rfl, hnew⟩
    obtain ⟨A1, c1, rfl, hl1, hc1, hB1⟩ := hnew.form
    have hk : (numB n).length ≤ 8 := by have := dgs_len7 (n := n) (by omega); simp [numB]; omega
    generalize numB n = y at *
    go_wp2_with fail
    refine (join_any _ _ 2 [y, xs] _ (Bss.made2 hB1 rfl (hA.on hnew.2) Hn.out) rfl (by omega) ?_).mono ?_
    · have := Hn.out
      simp
      omega
    rintro e w2 ⟨v2, rfl, hnew2⟩
    go_wp2
    go_ret2
    exact ⟨_, by rw [hr.out]; rfl, by rw [hr.out]; exact NewB.later (hnew.2.alloc hnew.2.size _) (by simpa using hnew2)⟩

end Go.Proofs.YtfaeechidjpjbaaGreat

namespace Go.Proofs.YtfaeechidjpjbaaGreat

set_option linter.unusedVariables false

theorem dgs_len_byte {n : Nat} (h : n ≤ 9007199254740991) : (UInt8.ofNat (dgs n).length).toNat = (dgs n).length := by
  have := dgs_len7 h
  rw [UInt8.toNat_ofNat', Nat.mod_eq_of_lt (by omega)]

theorem nu_num {n : Nat} (h : n ≤ 9007199254740991) (z : List UInt8) : nu (numB n ++ z) = (n, 1 + (dgs n).length, 0) := by
  have h7 := dgs_len7 h
  have hb := dgs_len_byte h
  have hv := val_dgs n
  have hh : ∀ x t, dgs n = x :: t → x ≠ 0 := fun x t e => dgs_head e
  unfold numB nu
  simp only [List.cons_append, hb]
  have e1 : (dgs n ++ z).take (dgs n).length = dgs n := by simp
  rw [if_neg (by omega), if_neg (by simp), e1, hv, if_neg (by
    rintro ⟨h0, h1⟩
    cases hd : dgs n with
    | nil => rw [hd] at h0; simp at h0
    | cons x t =>
      rw [hd] at h1
      simp at h1
      exact hh x t hd h1), if_neg (by omega)]

theorem tk_num {n : Nat} (h : n ≤ 9007199254740991) (z : List UInt8) : tk (numB n ++ z) = (n, z, 0) := by
  have hl : 1 + (dgs n).length = (numB n).length := by simp [numB]; omega
  unfold tk
  rw [nu_num h z]
  simp [hl]

/-- What is taken off is written so. -/
theorem nu_back {l : List UInt8} (h : (nu l).2.2 = 0) : (nu l).1 ≤ 9007199254740991 ∧ numB (nu l).1 = l.take (nu l).2.1 := by
  cases l with
  | nil => simp [nu] at h
  | cons b t =>
    unfold nu at h ⊢
    simp only at h ⊢
    split at h
    · simp at h
    rename_i h7
    split at h
    · simp at h
    rename_i hs
    split at h
    · simp at h
    rename_i hz
    split at h
    · simp at h
    rename_i hm
    rw [if_neg h7, if_neg hs, if_neg hz, if_neg hm]
    simp only
    refine ⟨by omega, ?_⟩
    have hd : dgs (val (t.take b.toNat)) = t.take b.toNat := by
      refine dgs_val ?_
      intro x u e
      intro hx
      subst hx
      refine hz ⟨?_, ?_⟩
      · rcases Nat.eq_zero_or_pos b.toNat with h0 | h0
        · rw [h0] at e; simp at e
        · exact h0
      · cases t with
        | nil => simp at e
        | cons y v =>
          cases hb : b.toNat with
          | zero => rw [hb] at e; simp at e
          | succ k => rw [hb] at e; simp at e; simp [e.1]
    unfold numB
    rw [hd]
    have hl : (t.take b.toNat).length = b.toNat := by rw [List.length_take]; omega
    rw [hl, Nat.add_comm 1, List.take_succ_cons]
    congr 1
    exact UInt8.ofNat_toNat

theorem tk_back {l : List UInt8} {n : Nat} {rest : List UInt8} (h : tk l = (n, rest, 0)) : n ≤ 9007199254740991 ∧ numB n ++ rest = l := by
  unfold tk at h
  split at h
  · rename_i h0
    simp only [Prod.mk.injEq] at h
    obtain ⟨rfl, rfl, _⟩ := h
    obtain ⟨h1, h2⟩ := nu_back h0
    exact ⟨h1, by rw [h2, List.take_append_drop]⟩
  · rename_i h0
    simp only [Prod.mk.injEq] at h
    exact absurd h.2.2 h0

theorem tk_err0 {l : List UInt8} {n e : Nat} {rest : List UInt8} (h : tk l = (n, rest, e)) (he : e ≠ 0) : n = 0 ∧ rest = [] := by
  unfold tk at h
  split at h
  · simp only [Prod.mk.injEq] at h; exact absurd h.2.2.symm he
  · simp only [Prod.mk.injEq] at h; exact ⟨h.1.symm, h.2.1.symm⟩

theorem tf_front (s z : List UInt8) : tf (s ++ z) (s.length : Nat) = (s, z, 0) := by
  unfold tf
  rw [if_neg (by omega), if_neg (by simp; omega)]
  simp

theorem ts_text {s z : List UInt8} {most : Int} (h : s.length ≤ 65536) (h0 : 0 ≤ most) :
    ts (numB s.length ++ s ++ z) most = if most < s.length then ([], [], 5) else (s, z, 0) := by
  have hn := nu_num (n := s.length) (by omega) (s ++ z)
  have hl : 1 + (dgs s.length).length = (numB s.length).length := by simp [numB]; omega
  unfold ts
  rw [List.append_assoc, hn]
  rw [if_neg (by omega), if_neg (by simp)]
  by_cases hm : most < s.length
  · rw [if_pos (.inl hm), if_pos hm]
  · rw [if_neg (by simp; omega), if_neg hm]
    simp only [hl]
    rw [List.drop_left]
    exact tf_front s z

theorem ts_neg (l : List UInt8) {most : Int} (h : most < 0) : ts l most = ([], [], 2) := by unfold ts; rw [if_pos h]

theorem tf_err {l s z : List UInt8} {n : Int} {e : Nat} (h : tf l n = (s, z, e)) (he : e ≠ 0) : s = [] ∧ z = [] := by
  unfold tf at h
  split at h
  · simp only [Prod.mk.injEq] at h; exact ⟨h.1.symm, h.2.1.symm⟩
  · split at h
    · simp only [Prod.mk.injEq] at h; exact ⟨h.1.symm, h.2.1.symm⟩
    · simp only [Prod.mk.injEq] at h; exact absurd h.2.2.symm he

theorem tf_ok {l s z : List UInt8} {n : Int} (h : tf l n = (s, z, 0)) : 0 ≤ n ∧ (s.length : Int) = n ∧ s ++ z = l := by
  unfold tf at h
  split at h
  · simp at h
  · split at h
    · simp at h
    · simp only [Prod.mk.injEq] at h
      obtain ⟨rfl, rfl, _⟩ := h
      exact ⟨by omega, by rw [List.length_take]; omega, List.take_append_drop _ _⟩

theorem ts_err {l s z : List UInt8} {most : Int} {e : Nat} (h : ts l most = (s, z, e)) (he : e ≠ 0) : s = [] ∧ z = [] := by
  unfold ts at h
  split at h
  · simp only [Prod.mk.injEq] at h; exact ⟨h.1.symm, h.2.1.symm⟩
  · split at h
    · simp only [Prod.mk.injEq] at h; exact ⟨h.1.symm, h.2.1.symm⟩
    · split at h
      · simp only [Prod.mk.injEq] at h; exact ⟨h.1.symm, h.2.1.symm⟩
      · exact tf_err h he

theorem ts_ok {l s z : List UInt8} {most : Int} (h : ts l most = (s, z, 0)) : s.length ≤ 65536 ∧ (s.length : Int) ≤ most ∧ numB s.length ++ (s ++ z) = l := by
  unfold ts at h
  split at h
  · simp at h
  · split at h
    · rename_i h1; simp only [Prod.mk.injEq] at h; exact absurd h.2.2 h1
    · split at h
      · simp at h
      · rename_i h0 h1 h2
        obtain ⟨h3, h4, h5⟩ := tf_ok h
        have h1' : (nu l).2.2 = 0 := by simpa using h1
        obtain ⟨h6, h7⟩ := nu_back h1'
        have h8 : s.length = (nu l).1 := by omega
        refine ⟨by omega, by omega, ?_⟩
        rw [h8, h7, h5, List.take_append_drop]

theorem numB_length {n : Nat} : (numB n).length = 1 + (dgs n).length := by simp [numB]; omega

theorem numB_inj {n m k : Nat} (hn : n ≤ 9007199254740991) (hm : m ≤ 9007199254740991) (hk : k = min (numB n).length (numB m).length) : ((numB n).take k == (numB m).take k) = decide (n = m) := by
  by_cases h : n = m
  · subst h; simp
  · simp only [h, decide_false, beq_eq_false_iff_ne, ne_eq]
    intro he
    have h1 := nu_num hn []
    have h2 := nu_num hm []
    have l1 := numB_length (n := n)
    have l2 := numB_length (n := m)
    have hd : UInt8.ofNat (dgs n).length = UInt8.ofNat (dgs m).length := by
      have : 0 < k := by omega
      obtain ⟨j, rfl⟩ : ∃ j, k = j + 1 := ⟨k - 1, by omega⟩
      unfold numB at he
      simp only [List.take_succ_cons] at he
      injection he
    have hl : (dgs n).length = (dgs m).length := by
      rw [← dgs_len_byte hn, ← dgs_len_byte hm, hd]
    rw [List.take_of_length_le (by omega), List.take_of_length_le (by omega)] at he
    rw [he, h2] at h1
    simp at h1
    exact h h1.1.symm

theorem tk_short {n j : Nat} (h : n ≤ 9007199254740991) (hj : j < (numB n).length) : tk ((numB n).take j) = (0, [], 3) := by
  have hb := dgs_len_byte h
  have h7 := dgs_len7 h
  have hl := numB_length (n := n)
  cases j with
  | zero => rfl
  | succ j =>
    unfold tk
    have hn : nu ((numB n).take (j + 1)) = (0, 0, 3) := by
      unfold numB nu
      simp only [List.take_succ_cons, hb]
      rw [if_neg (by omega), if_pos (by rw [List.length_take]; omega)]
    rw [hn]
    rfl

/-- The first place at which two numbers' bytes part tells which number is less. -/
theorem val_less {l m : List UInt8} {i : Nat} (hl : l.length = m.length) (hi : i < l.length) (hi' : i < m.length) (ht : l.take i = m.take i) (hx : l[i] < m[i]) : val l < val m := by
  induction l generalizing m i with
  | nil => simp at hi
  | cons x l ih =>
    cases m with
    | nil => simp at hi'
    | cons y m =>
      rw [val_cons, val_cons]
      cases i with
      | zero =>
        simp only [List.getElem_cons_zero] at hx
        have h1 := val_lt l
        have hx' : x.toNat < y.toNat := by rwa [UInt8.lt_iff_toNat_lt] at hx
        have hl' : l.length = m.length := by simpa using hl
        rw [hl'] at h1
        rw [hl']
        have h2 : (x.toNat + 1) * 256 ^ m.length ≤ y.toNat * 256 ^ m.length := Nat.mul_le_mul_right _ (by omega)
        rw [Nat.add_mul] at h2
        omega
      | succ i =>
        simp only [List.take_succ_cons] at ht
        injection ht with ht0 ht
        subst ht0
        have hl' : l.length = m.length := by simpa using hl
        have := ih (m := m) (i := i) hl' (by simpa using hi) (by simpa using hi') ht (by simpa using hx)
        rw [hl']
        omega

theorem dgs_more {n m : Nat} (h : (dgs n).length < (dgs m).length) : n < m := by
  have h1 := val_lt (dgs n)
  rw [val_dgs] at h1
  rcases Nat.lt_or_ge n m with h2 | h2
  · exact h2
  · exfalso
    have h3 : m < 256 ^ (dgs n).length := by omega
    have := dgs_len h3
    omega

theorem numB_less {n m : Nat} (hn : n ≤ 9007199254740991) (hm : m ≤ 9007199254740991) {i : Nat} (h1 : i < (numB n).length) (h2 : i < (numB m).length) (ht : (numB n).take i = (numB m).take i) (hx : (numB n)[i] < (numB m)[i]) : n < m := by
  cases i with
  | zero =>
    have hx' : UInt8.ofNat (dgs n).length < UInt8.ofNat (dgs m).length := hx
    rw [UInt8.lt_iff_toNat_lt, dgs_len_byte hn, dgs_len_byte hm] at hx'
    exact dgs_more hx'
  | succ i =>
    unfold numB at ht
    simp only [List.take_succ_cons] at ht
    injection ht with h0 ht
    have hl : (dgs n).length = (dgs m).length := by rw [← dgs_len_byte hn, ← dgs_len_byte hm, h0]
    have l1 := numB_length (n := n)
    have l2 := numB_length (n := m)
    have := val_less (l := dgs n) (m := dgs m) (i := i) hl (by omega) (by omega) ht hx
    rwa [val_dgs, val_dgs] at this

theorem numB_same {n m : Nat} (hn : n ≤ 9007199254740991) (hm : m ≤ 9007199254740991) {k : Nat} (hk : ¬ (k < (numB n).length ∧ k < (numB m).length)) (ht : (numB n).take k = (numB m).take k) : n = m := by
  have h := numB_inj hn hm (k := min (numB n).length (numB m).length) rfl
  have e : (numB n).take (min (numB n).length (numB m).length) = (numB m).take (min (numB n).length (numB m).length) := by
    have h1 := congrArg (List.take (min (numB n).length (numB m).length)) ht
    rw [List.take_take, List.take_take, Nat.min_eq_left (by omega)] at h1
    exact h1
  rw [e] at h
  simpa using h

end Go.Proofs.YtfaeechidjpjbaaGreat
