/-
  Schedule over this seat's translation.
-/
import Derived.Test.YtcidliakmlolmaaRor
import Derived.Test.YtcidliakmlolmaaSha
import Derived.Test.YtcidliakmlolmaaEq
import Derived.Deep.MidRow
import Derived.Deep.RegionHeld3
namespace Go.Proofs.Ytcidliakmlolmaa
open Go.RowKit
set_option linter.unusedVariables false

/-- A block known whole. -/
def Blk (w : World) (g : Nat) (t : TypeId) (cs : List Value) : Prop := w.heap[g]? = some (.cells cs.toArray t (0, 0))
theorem Blk.cell {w : World} {g : Nat} {t : TypeId} {cs : List Value} (h : Blk w g t cs) {i : Nat} {v : Value} (hv : cs[i]? = some v) : w.cell? ⟨g, i, none⟩ = some v := by
  rw [cell_of_row w g i cs.toArray t (0, 0) h]; simpa using hv
theorem Blk.free {w : World} {g : Nat} {t : TypeId} {cs : List Value} (h : Blk w g t cs) (i : Nat) : w.frozen? ⟨g, i, none⟩ = false := frozen_of_row w g i cs.toArray t h
theorem Blk.set_ {w : World} {g : Nat} {t : TypeId} {cs : List Value} (h : Blk w g t cs) (i : Nat) (v : Value) : Blk (w.setCell ⟨g, i, none⟩ v) g t (cs.set i v) := by
  unfold Blk at h ⊢
  simp [World.setCell, Array.getElem?_modify, h]
theorem Blk.far {w : World} {g : Nat} {t : TypeId} {cs : List Value} (h : Blk w g t cs) {p : Addr} (hp : g ≠ p.block) (v : Value) : Blk (w.setCell p v) g t cs := (Below.heap_setCell w p v g hp).trans h
theorem Blk.below {w w' : World} {g B : Nat} {t : TypeId} {cs : List Value} (h : Blk w g t cs) (hb : Below B w w') (hg : g < B) : Blk w' g t cs := (hb.block g hg).trans h

theorem Blk.lt {w : World} {g : Nat} {t : TypeId} {l : List Value} (h : Blk w g t l) : g < w.heap.size := by
  rcases Nat.lt_or_ge g w.heap.size with hlt | hge
  · exact hlt
  · unfold Blk at h; rw [Array.getElem?_eq_none hge] at h; cases h
theorem Blk.setMore {w : World} {g : Nat} {t : TypeId} (vs : List Value) : ∀ {w : World} {o : Nat} {cs : List Value}, Blk w g t cs → o + vs.length ≤ cs.length → Blk (w.setCells g o vs) g t (cs.take o ++ vs ++ cs.drop (o + vs.length)) := by
  induction vs with
  | nil => intro w o cs h hl; simpa [World.setCells] using h
  | cons v vs ih =>
    intro w o cs h hl
    have hl' : o + 1 + vs.length ≤ cs.length := by simp at hl; omega
    have := ih (w := w.setCell ⟨g, o, none⟩ v) (o := o + 1) (cs := cs.set o v) (h.set_ o v) (by rw [List.length_set]; exact hl')
    rw [World.setCells]
    have e1 : (cs.set o v).take (o + 1) = cs.take o ++ [v] := by
      rw [List.take_succ_eq_append_getElem (by rw [List.length_set]; omega), List.take_set_of_le (by omega), List.getElem_set_self]
    have e2 : (cs.set o v).drop (o + 1 + vs.length) = cs.drop (o + (v :: vs).length) := by
      rw [List.drop_set_of_lt (by omega), List.length_cons]; congr 1; omega
    rw [e1, e2] at this
    simpa using this
theorem Blk.setAll {w : World} {g : Nat} {t : TypeId} {cs vs : List Value} (h : Blk w g t cs) (hl : vs.length = cs.length) : Blk (w.setCells g 0 vs) g t vs := by
  have := Blk.setMore (w := w) vs h (o := 0) (by omega)
  rw [Nat.zero_add, List.drop_of_length_le (by omega)] at this
  simpa using this
theorem Below.setCells {B : Nat} {a : World} {g : Nat} (hg : B ≤ g) (vs : List Value) : ∀ {w : World} {o : Nat}, Below B a w → Below B a (w.setCells g o vs) := by
  induction vs with
  | nil => intro w o h; exact h
  | cons v vs ih => intro w o h; rw [World.setCells]; exact ih (h.setCell hg v)
theorem Blk.farAll {g g' : Nat} {t : TypeId} {cs : List Value} (hg : g ≠ g') (vs : List Value) : ∀ {w : World} {o : Nat}, Blk w g t cs → Blk (w.setCells g' o vs) g t cs := by
  induction vs with
  | nil => intro w o h; exact h
  | cons v vs ih => intro w o h; rw [World.setCells]; exact ih (h.far hg v)
theorem Blk.there {w : World} {g : Nat} {t : TypeId} {cs : List Value} (h : Blk w g t cs) : w.there g 0 cs.length := by
  intro j hj
  rw [Nat.zero_add]
  exact ⟨by rw [h.cell (List.getElem?_eq_getElem hj)]; rfl, h.free j⟩

theorem cbs_getD (bs : List UInt8) (i : Nat) (h : i < bs.length) : (cbs bs)[i]? = some (.int .u8 ((bs.getD i 0).toNat : Int)) := by
  rw [cbs_get, List.getElem?_eq_getElem h]
  simp [cb, List.getD, List.getElem?_eq_getElem h]
theorem cws_get (l : List UInt32) (i : Nat) (h : i < l.length) : (cws l)[i]? = some (.int .u32 (l[i].toNat : Int)) := by
  unfold cws
  rw [List.getElem?_map, List.getElem?_eq_getElem h]
  rfl
theorem sch_cell (bs : List UInt8) {k j : Nat} (h : j < k) (hj : j < 64) : (cws (sch bs k))[j]? = some (.int .u32 ((wt bs j).toNat : Int)) := by
  rw [cws_get _ _ (by rw [sch_len]; exact hj), sch_at h]
theorem sch_zero (bs : List UInt8) {k : Nat} (hj : k < 64) : (cws (sch bs k))[k]? = some (.int .u32 0) := by
  rw [cws_get _ _ (by rw [sch_len]; exact hj)]
  simp [sch]
theorem cws_set (l : List UInt32) (i : Nat) (x : UInt32) : (cws l).set i (cw x) = cws (l.set i x) := by
  unfold cws; rw [List.map_set]

theorem sch_start (bs : List UInt8) : (cws (sch bs 0)).toArray = (List.replicate 64 (Value.int .u32 0)).toArray := by
  congr 1
theorem Blk.new {w : World} {g : Nat} {t : TypeId} {cs : Array Value} {l : List Value} (h : l.toArray = cs) (hg : w.heap.size = g) : Blk (w.alloc (.cells cs t)) g t l := by
  subst h hg; exact heap_alloc_new w _
theorem Blk.old {w : World} {g : Nat} {t : TypeId} {l : List Value} (h : Blk w g t l) (o : Obj) : Blk (w.alloc o) g t l := by
  have hl : g < w.heap.size := by
    rcases Nat.lt_or_ge g w.heap.size with hlt | hge
    · exact hlt
    · unfold Blk at h; rw [Array.getElem?_eq_none hge] at h; cases h
  exact (Below.heap_alloc w o g hl).trans h

theorem cw_sched (x0 x1 x9 x14 : UInt32) : Value.int .u32 ((((((x0.toNat : Int) + bits .xor .u32 (bits .xor .u32 ((rotr x1 7).toNat : Int) ((rotr x1 18).toNat : Int)) ((x1.toNat : Int) / 8)) % 4294967296 + (x9.toNat : Int)) % 4294967296 +
    bits .xor .u32 (bits .xor .u32 ((rotr x14 17).toNat : Int) ((rotr x14 19).toNat : Int)) ((x14.toNat : Int) / 1024)) % 4294967296)) = cw (x0 + s0 x1 + x9 + s1 x14) := by
  unfold cw s0 s1
  rw [w_lit3, w_lit10, w_xor, w_xor, w_xor, w_xor, w_add, w_add, w_add]
theorem info64w : (Try.prog.info? 75).map (·.size) = some 64 := by kernel_rfl
theorem cws_one (l : List UInt32) : (cws l).toArray.all (·.oneCell') = true := by
  rw [Array.all_eq_true_iff_forall_mem]
  intro u hu
  simp [cws] at hu
  obtain ⟨x, _, rfl⟩ := hu
  rfl
theorem cws_length (l : List UInt32) : (cws l).length = l.length := by simp [cws]
theorem sch_size (bs : List UInt8) (k : Nat) : (cws (sch bs k)).toArray.size = 64 := by rw [List.size_toArray, cws_length, sch_len]

set_option maxRecDepth 100000 in
set_option maxHeartbeats 1600000 in
theorem schedule_any (bs : List UInt8) (w : World) (h : bs.length = 64) :
    Calls Try.prog 39 #[.agg (cbs bs).toArray] w fun e w' => e = .returned (.agg (cws (sch bs 64)).toArray) ∧ Below w.heap.size w w' := by
  have Hlen := Lib.hid h
  clear h
  go_enter Try.func39, Try.ntmps39
  go_wp2
  go_loopw [4] (fun i wr => ∃ k : Nat, k ≤ 16 ∧ i = .int .i64 k ∧ Blk wr w.heap.size 63 (cbs bs) ∧ Blk wr (w.heap.size + 1) 75 (cws (sch bs 0)) ∧
      Blk wr (w.heap.size + 1 + 1) 75 (cws (sch bs k)) ∧ Below w.heap.size w wr) (fun i _ => 16 - (intOf i).toNat)
  case atStart =>
    refine ⟨0, by omega, rfl, ?_, ?_, ?_, (((Below.refl _ _).alloc (Nat.le_refl _) _).alloc (by simp) _).alloc (by simp; omega) _⟩
    · exact ((Blk.new rfl rfl).old _).old _
    · exact (Blk.new (sch_start bs) (by simp)).old _
    · exact Blk.new (sch_start bs) (by simp)
  case round =>
    obtain ⟨k, hk, rfl, hB, hR, hS, hnx⟩ := hrel
    by_cases hlt : k < 16
    · have c0 := hB.cell (cbs_getD bs (4 * k) (by rw [Hlen.out]; omega))
      have c1 := hB.cell (cbs_getD bs (4 * k + 1) (by rw [Hlen.out]; omega))
      have c2 := hB.cell (cbs_getD bs (4 * k + 2) (by rw [Hlen.out]; omega))
      have c3 := hB.cell (cbs_getD bs (4 * k + 3) (by rw [Hlen.out]; omega))
      have d0 := hS.cell (sch_zero bs (k := k) (by omega))
      have f0 := hS.free k
      have hset := sch_set bs k
      rw [wt_low hlt] at hset
      have Hset := Lib.hid hset
      clear hset
      have l0 := (bs.getD (4 * k) 0).toNat_lt
      have l1 := (bs.getD (4 * k + 1) 0).toNat_lt
      have l2 := (bs.getD (4 * k + 2) 0).toNat_lt
      have l3 := (bs.getD (4 * k + 3) 0).toNat_lt
      generalize bs.getD (4 * k) 0 = x0 at *
      generalize bs.getD (4 * k + 1) 0 = x1 at *
      generalize bs.getD (4 * k + 2) 0 = x2 at *
      generalize bs.getD (4 * k + 3) 0 = x3 at *
      have i0 : (0 : Int) ≤ k := by omega
      have i1 : (k : Int) < 16 := by omega
      go_wp2
      go_region
      go_wp2
      go_roundw
      case rel =>
        refine ⟨k + 1, by omega, by go_num, hB.far (by dsimp only; omega) _, hR.far (by dsimp only; omega) _, ?_, (hnx.setCell (by dsimp only; omega) _).drew⟩
        have := hS.set_ k (cw (be4 x0 x1 x2 x3))
        rw [cws_set, Hset.out] at this
        rw [cw_be4]
        exact this
      case measure => simp [intOf]; omega
    · have hS16 : Blk wr (w.heap.size + 1 + 1) 75 (cws (sch bs 16)) := by
        have e : k = 16 := by omega
        rw [e] at hS; exact hS
      have hk2 : ¬ (k : Int) < 16 := by omega
      clear hk hS
      go_wp2
      go_loopw [5, 6, 7] (fun i _ _ wr => ∃ k : Nat, k ≤ 64 ∧ 16 ≤ k ∧ i = .int .i64 k ∧ Blk wr (w.heap.size + 1) 75 (cws (sch bs 0)) ∧
          Blk wr (w.heap.size + 1 + 1) 75 (cws (sch bs k)) ∧ Below w.heap.size w wr) (fun i _ _ _ => 64 - (intOf i).toNat)
      case atStart => exact ⟨16, by omega, by omega, rfl, hR, hS16, hnx⟩
      case round =>
        obtain ⟨k, hk, hk16, rfl, hR, hS, hnx⟩ := hrel
        by_cases hlt : k < 64
        · have c0 := hS.cell (sch_cell bs (k := k) (j := k - 16) (by omega) (by omega))
          have c1 := hS.cell (sch_cell bs (k := k) (j := k - 15) (by omega) (by omega))
          have c9 := hS.cell (sch_cell bs (k := k) (j := k - 7) (by omega) (by omega))
          have c14 := hS.cell (sch_cell bs (k := k) (j := k - 2) (by omega) (by omega))
          have d0 := hS.cell (sch_zero bs (k := k) (by omega))
          have f0 := hS.free k
          have hset := sch_set bs k
          rw [wt_high hk16] at hset
          have Hset := Lib.hid hset
          clear hset
          generalize wt bs (k - 16) = x0 at *
          generalize wt bs (k - 15) = x1 at *
          generalize wt bs (k - 7) = x9 at *
          generalize wt bs (k - 2) = x14 at *
          have l0 := w_lt x0
          have l1 := w_lt x1
          have l9 := w_lt x9
          have l14 := w_lt x14
          have i0 : (16 : Int) ≤ (k : Int) := by omega
          have i1 : (k : Int) < 64 := by omega
          go_wp2
          go_quiet (fail)
          go_wp2
          have v1 : IntKind.i64.wrap ((k : Int) - 16) = (k : Int) - 16 := IntWalk.i64_in _ (by omega)
          have v2 : IntKind.i64.wrap ((k : Int) - 7) = (k : Int) - 7 := IntWalk.i64_in _ (by omega)
          have v3 : (0 : Int) ≤ (k : Int) - 16 := by omega
          have v4 : (0 : Int) ≤ (k : Int) - 7 := by omega
          have v5 : (k : Int) - 16 < 64 := by omega
          have v6 : (k : Int) - 7 < 64 := by omega
          have v7 : ((k : Int) - 16).toNat = k - 16 := by omega
          have v8 : ((k : Int) - 7).toNat = k - 7 := by omega
          have v9 : (0 : Int) ≤ (k : Int) := by omega
          have v10 : (7 : Int) ≤ (k : Int) := by omega
          go_region_held3 (fun wz => wz.cell? ⟨w.heap.size + 1 + 1, k - 16, none⟩ = some (.int .u32 (x0.toNat : Int)) ∧ wz.cell? ⟨w.heap.size + 1 + 1, k - 7, none⟩ = some (.int .u32 (x9.toNat : Int))) (first | go_keep | exact ⟨(World.cell?_setCell_other _ _ _ _ (by intro e; injection e with _ e2; omega)).trans c0, (World.cell?_setCell_other _ _ _ _ (by intro e; injection e with _ e2; omega)).trans c9⟩)
            (first | (go_at_call 40; refine (ror_int _ _ _ (by omega) (by omega)).mono ?_; rintro e wy ⟨rfl, q, rfl⟩))
          clear v1 v2 v3 v4 v5 v6 v7 v8 v9 v10
          go_wp2
          go_roundw
          case rel =>
            refine ⟨k + 1, by omega, by omega, by go_num, hR.far (by dsimp only; omega) _, ?_, (below_drewN hnx _).setCell (by dsimp only; omega) _⟩
            have := hS.set_ k (cw (x0 + s0 x1 + x9 + s1 x14))
            rw [cws_set, Hset.out] at this
            rw [cw_sched]
            exact this
          case measure => simp [intOf]; omega
        · have hS64 : Blk wr (w.heap.size + 1 + 1) 75 (cws (sch bs 64)) := by
            have e : k = 64 := by omega
            rw [e] at hS; exact hS
          have hk2 : ¬ (k : Int) < 64 := by omega
          have hi : (Try.prog.info? 75).map (·.size) = some (cws (sch bs 64)).toArray.size := by rw [info64w, sch_size]
          have hth : wr.there (w.heap.size + 1) 0 (cws (sch bs 64)).toArray.size := by
            have e := hR.there
            rw [cws_length, sch_len] at e
            rw [sch_size]
            exact e
          have hR' := hR.setAll (vs := cws (sch bs 64)) (by rw [cws_length, cws_length, sch_len, sch_len])
          have hnx' : Below w.heap.size w (wr.setCells (w.heap.size + 1) 0 (cws (sch bs 64))) := Below.setCells (by omega) _ hnx
          have Hi := Lib.hid hi
          have Hth := Lib.hid hth
          have hone := cws_one (sch bs 64)
          have Hone := Lib.hid hone
          clear hk hlt hS hi hth hone
          go_wp2_with (first
            | refine wpList_load_row rfl 75 _ rfl (w.heap.size + 1 + 1) rfl 75 (cws (sch bs 64)).toArray (0, 0) _ hS64 Try.underlying75 rfl Hi.out ?_
            | refine wpList_store_mid rfl 75 _ _ rfl (w.heap.size + 1) 0 (cws (sch bs 64)).toArray rfl rfl Hth.out Hi.out Hone.out ?_)
          refine bodyPost_ret (results_cell_row rfl _ _ (w.heap.size + 1) 75 (cws (sch bs 64)).toArray (0, 0) _ rfl hR' Try.underlying75 rfl Hi.out) rfl ⟨rfl, hnx'⟩
end Go.Proofs.Ytcidliakmlolmaa
