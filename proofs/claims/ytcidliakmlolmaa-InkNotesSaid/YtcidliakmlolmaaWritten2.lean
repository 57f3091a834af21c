/-
  The state's bytes, over the code.
-/
import Derived.Test.YtcidliakmlolmaaTake2
namespace Go.Proofs.Ytcidliakmlolmaa
open Go.RowKit
set_option linter.unusedVariables false

theorem cbs_one' (l : List UInt8) : (cbs l).toArray.all (·.oneCell') = true := by
  rw [Array.all_eq_true_iff_forall_mem]
  intro u hu
  exact cbs_one l u (by simpa using hu)
theorem cbs_set (l : List UInt8) (i : Nat) (x : UInt8) : (cbs l).set i (cb x) = cbs (l.set i x) := by unfold cbs; rw [List.map_set]
theorem cb_mod (z : Nat) : Value.int .u8 ((z : Int) % 256) = cb (UInt8.ofNat z) := by
  unfold cb
  rw [UInt8.toNat_ofNat']
  simp
theorem info32b : (Try.prog.info? 28).map (·.size) = some 32 := by kernel_rfl
/-- While the bytes are written: the first k of them stand. -/
def wr32 (s : S8) (k : Nat) : List UInt8 := s.bytes.take k ++ List.replicate (32 - k) 0
theorem bytes_len (s : S8) : s.bytes.length = 32 := rfl
theorem wr32_len (s : S8) {k : Nat} (h : k ≤ 32) : (wr32 s k).length = 32 := by
  unfold wr32
  rw [List.length_append, List.length_take, List.length_replicate, bytes_len]; omega
theorem wr32_set (s : S8) {k : Nat} (h : k < 32) : (wr32 s k).set k (s.bytes.getD k 0) = wr32 s (k + 1) := by
  have hl : (s.bytes.take k).length = k := by rw [List.length_take, bytes_len]; omega
  have hk : k < s.bytes.length := by rw [bytes_len]; exact h
  unfold wr32
  rw [List.set_append_right _ _ (by omega), hl, Nat.sub_self, show 32 - k = (32 - (k + 1)) + 1 from by omega, List.replicate_succ, List.set_cons_zero, List.take_succ_eq_append_getElem hk, List.getD_eq_getElem?_getD, List.getElem?_eq_getElem hk, Option.getD_some, List.append_assoc]
  rfl
/-- The byte at 4 i + j. -/
theorem byte_at (s : S8) (i j : Nat) (hi : i < 8) (hj : j < 4) : s.bytes.getD (4 * i + j) 0 = UInt8.ofNat ((s.list.getD i 0).toNat / 2 ^ (24 - 8 * j)) := by
  have hm : ∀ z : Nat, UInt8.ofNat (z % 256) = UInt8.ofNat z := fun z => by
    apply UInt8.toNat_inj.1
    rw [UInt8.toNat_ofNat', UInt8.toNat_ofNat']; omega
  have hb : s.bytes = wordB s.a ++ (wordB s.b ++ (wordB s.c ++ (wordB s.d ++ (wordB s.e ++ (wordB s.f ++ (wordB s.g ++ (wordB s.h ++ []))))))) := rfl
  have hw : ∀ (x : UInt32), (j = 0 → (wordB x).getD j 0 = UInt8.ofNat (x.toNat / 2 ^ (24 - 8 * j))) ∧ (j = 1 → (wordB x).getD j 0 = UInt8.ofNat (x.toNat / 2 ^ (24 - 8 * j))) ∧ (j = 2 → (wordB x).getD j 0 = UInt8.ofNat (x.toNat / 2 ^ (24 - 8 * j))) ∧ (j = 3 → (wordB x).getD j 0 = UInt8.ofNat (x.toNat / 2 ^ (24 - 8 * j))) := by
    intro x
    refine ⟨?_, ?_, ?_, ?_⟩ <;> intro e <;> subst e
    · show UInt8.ofNat (x.toNat / 16777216 % 256) = _; rw [hm]
    · show UInt8.ofNat (x.toNat / 65536 % 256) = _; rw [hm]
    · show UInt8.ofNat (x.toNat / 256 % 256) = _; rw [hm]
    · show UInt8.ofNat (x.toNat % 256) = _; rw [hm]; simp
  have h4 : j = 0 ∨ j = 1 ∨ j = 2 ∨ j = 3 := by omega
  have h8 : i = 0 ∨ i = 1 ∨ i = 2 ∨ i = 3 ∨ i = 4 ∨ i = 5 ∨ i = 6 ∨ i = 7 := by omega
  have hwx : ∀ x, (wordB x).getD j 0 = UInt8.ofNat (x.toNat / 2 ^ (24 - 8 * j)) := by
    intro x
    obtain ⟨a, b, c, d⟩ := hw x
    rcases h4 with h | h | h | h
    · exact a h
    · exact b h
    · exact c h
    · exact d h
  clear hw
  rcases h8 with rfl | rfl | rfl | rfl | rfl | rfl | rfl | rfl
  · rw [← hwx]; rcases h4 with rfl | rfl | rfl | rfl <;> rfl
  · rw [← hwx]; rcases h4 with rfl | rfl | rfl | rfl <;> rfl
  · rw [← hwx]; rcases h4 with rfl | rfl | rfl | rfl <;> rfl
  · rw [← hwx]; rcases h4 with rfl | rfl | rfl | rfl <;> rfl
  · rw [← hwx]; rcases h4 with rfl | rfl | rfl | rfl <;> rfl
  · rw [← hwx]; rcases h4 with rfl | rfl | rfl | rfl <;> rfl
  · rw [← hwx]; rcases h4 with rfl | rfl | rfl | rfl <;> rfl
  · rw [← hwx]; rcases h4 with rfl | rfl | rfl | rfl <;> rfl

set_option maxRecDepth 100000 in
set_option maxHeartbeats 1600000 in
theorem written_any (s : S8) (w : World) :
    Calls Try.prog 37 #[v8 s] w fun e w' => e = .returned (.agg (cbs s.bytes).toArray) ∧ Below w.heap.size w w' := by
  have hv : v8 s = .agg #[.int .u32 (s.a.toNat : Int), .int .u32 (s.b.toNat : Int), .int .u32 (s.c.toNat : Int), .int .u32 (s.d.toNat : Int), .int .u32 (s.e.toNat : Int), .int .u32 (s.f.toNat : Int), .int .u32 (s.g.toNat : Int), .int .u32 (s.h.toNat : Int)] := rfl
  rw [hv]
  clear hv
  go_enter Try.func37, Try.ntmps37
  go_wp2
  go_loopw [8] (fun i wr => ∃ k : Nat, k ≤ 8 ∧ i = .int .i64 k ∧ Blk wr (w.heap.size + 1) 28 (cbs (List.replicate 32 0)) ∧ Blk wr (w.heap.size + 1 + 1) 28 (cbs (wr32 s (4 * k))) ∧ Below w.heap.size w wr) (fun i _ => 8 - (intOf i).toNat)
  case atStart =>
    exact ⟨0, by omega, rfl, (Blk.new rfl (by simp)).old _, Blk.new rfl (by simp), (((Below.refl _ _).alloc (Nat.le_refl _) _).alloc (by simp) _).alloc (by simp; omega) _⟩
  case round =>
    obtain ⟨k, hk, rfl, hR, hD, hnx⟩ := hrel
    by_cases hlt : k < 8
    · have hidx : ∀ W : World, (Instr.index 61 (.agg #[.int .u32 (s.a.toNat : Int), .int .u32 (s.b.toNat : Int), .int .u32 (s.c.toNat : Int), .int .u32 (s.d.toNat : Int), .int .u32 (s.e.toNat : Int), .int .u32 (s.f.toNat : Int), .int .u32 (s.g.toNat : Int), .int .u32 (s.h.toNat : Int)]) (.int .i64 (k : Int))).run Try.prog W = .ok (.int .u32 ((s.list.getD k 0).toNat : Int)) W := by
        have h8 : k = 0 ∨ k = 1 ∨ k = 2 ∨ k = 3 ∨ k = 4 ∨ k = 5 ∨ k = 6 ∨ k = 7 := by omega
        intro W
        rcases h8 with rfl | rfl | rfl | rfl | rfl | rfl | rfl | rfl <;> kernel_rfl
      have hby : ∀ j, j < 4 → s.bytes.getD (4 * k + j) 0 = UInt8.ofNat ((s.list.getD k 0).toNat / 2 ^ (24 - 8 * j)) := fun j hj => byte_at s k j hlt hj
      have hw := w_lt (s.list.getD k 0)
      generalize s.list.getD k 0 = x at *
      have Hby := Lib.hid hby
      have i0 : (0 : Int) ≤ (k : Int) := by omega
      have i1 : (k : Int) < 8 := by omega
      clear hby
      go_wp2
      obtain ⟨wo, hwo⟩ : ∃ wo : World, wo = wr := ⟨_, rfl⟩
      rw [← hwo]
      go_loopw [12] (fun j wr => ∃ m : Nat, m ≤ 4 ∧ j = .int .i64 m ∧ Blk wr (w.heap.size + 1) 28 (cbs (List.replicate 32 0)) ∧ Blk wr (w.heap.size + 1 + 1) 28 (cbs (wr32 s (4 * k + m))) ∧ Below w.heap.size w wr) (fun j _ => 4 - (intOf j).toNat)
      case atStart => rw [hwo]; exact ⟨0, by omega, rfl, hR, hD, hnx⟩
      case round =>
        clear hR hD hnx hwo
        obtain ⟨m, hm, rfl, hR, hD, hnx⟩ := hrel
        by_cases hmt : m < 4
        · have i2 : (0 : Int) ≤ (m : Int) := by omega
          have i3 : (m : Int) < 4 := by omega
          have d0 := hD.cell (i := 4 * k + m) (v := cb ((wr32 s (4 * k + m)).getD (4 * k + m) 0)) (by
            have hl := wr32_len s (k := 4 * k + m) (by omega)
            rw [cbs_get, List.getElem?_eq_getElem (by omega), List.getD_eq_getElem?_getD, List.getElem?_eq_getElem (by omega)]; rfl)
          have f0 := hD.free (4 * k + m)
          generalize cb ((wr32 s (4 * k + m)).getD (4 * k + m) 0) = old at *
          have hset := wr32_set s (k := 4 * k + m) (by omega)
          rw [Hby.out m hmt] at hset
          have Hset := Lib.hid hset
          clear hset
          go_wp2
          go_roundw
          case rel =>
            have ec : Value.int .u8 ((x.toNat : Int) / 2 ^ (24 - 8 * m) % 256) = cb (UInt8.ofNat (x.toNat / 2 ^ (24 - 8 * m))) := by
              rw [← cb_mod]; simp
            have hs := hD.set_ (4 * k + m) (cb (UInt8.ofNat (x.toNat / 2 ^ (24 - 8 * m))))
            rw [cbs_set, Hset.out] at hs
            rw [ec]
            exact ⟨m + 1, by omega, by go_num, hR.far (by dsimp only; omega) _, by rw [← Nat.add_assoc]; exact hs, hnx.setCell (by dsimp only; omega) _⟩
          case measure => simp [intOf]; omega
        · have e : m = 4 := by omega
          subst e
          have i3 : ¬ ((4 : Nat) : Int) < 4 := by omega
          clear hm hmt
          go_wp2
          go_roundw
          case rel => exact ⟨k + 1, by omega, by go_num, hR, by rw [show 4 * (k + 1) = 4 * k + 4 from by omega]; exact hD, hnx⟩
          case measure => simp [intOf]; omega
    · have e : k = 8 := by omega
      subst e
      have hD8 : Blk wr (w.heap.size + 1 + 1) 28 (cbs s.bytes) := hD
      have i3 : ¬ ((8 : Nat) : Int) < 8 := by omega
      have hth : wr.there (w.heap.size + 1) 0 (cbs s.bytes).toArray.size := hR.there
      have hR' := hR.setAll (vs := cbs s.bytes) rfl
      have hnx' : Below w.heap.size w (wr.setCells (w.heap.size + 1) 0 (cbs s.bytes)) := Below.setCells (by omega) _ hnx
      have hi : (Try.prog.info? 28).map (·.size) = some (cbs s.bytes).toArray.size := info32b
      have Hi := Lib.hid hi
      have Hth := Lib.hid hth
      have Hone := Lib.hid (cbs_one' s.bytes)
      clear hk hlt hD hR hnx hth hi
      generalize hvs : cbs s.bytes = vs at *
      have Hvs := Lib.hid hvs
      clear hvs
      go_wp2_with (first
        | refine wpList_load_row rfl 28 _ rfl (w.heap.size + 1 + 1) rfl 28 vs.toArray (0, 0) _ hD8 Try.underlying28 rfl Hi.out ?_
        | refine wpList_store_mid rfl 28 _ _ rfl (w.heap.size + 1) 0 vs.toArray rfl rfl Hth.out Hi.out Hone.out ?_)
      exact bodyPost_ret (results_cell_row rfl _ _ (w.heap.size + 1) 28 vs.toArray (0, 0) _ rfl hR' Try.underlying28 rfl Hi.out) rfl ⟨by rw [Hvs.out], hnx'⟩
end Go.Proofs.Ytcidliakmlolmaa
