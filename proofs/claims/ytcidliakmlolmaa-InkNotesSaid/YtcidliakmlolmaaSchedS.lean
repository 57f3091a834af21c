/-
  The program's schedule over this seat's translation.
-/
import Derived.Test.YtcidliakmlolmaaRorS
import Derived.BigRegion
import Derived.Outline
namespace Go.Proofs.Ytcidliakmlolmaa
open Go.RowKit
set_option linter.unusedVariables false

theorem or_add (a b n : Nat) (h : b < 2 ^ n) : a * 2 ^ n ||| b = a * 2 ^ n + b := by
  have := Nat.shiftLeft_add_eq_or_of_lt h a
  rw [Nat.shiftLeft_eq] at this
  exact this.symm
theorem or32 (a b : Nat) (ha : a < 4294967296) (hb : b < 4294967296) : bits .or .u32 (a : Int) (b : Int) = ((a ||| b : Nat) : Int) :=
  (bits_nat .u32 32 (by decide) (fun n h0 h1 => by rw [IntKind.wrap_u32]; omega) a b (by simpa using ha) (by simpa using hb)).2
theorem cw_be4o (a b c d : UInt8) : Value.int .u32 (bits .or .u32 (bits .or .u32 (bits .or .u32 ((a.toNat : Int) * 16777216) ((b.toNat : Int) * 65536)) ((c.toNat : Int) * 256)) (d.toNat : Int)) = cw (be4 a b c d) := by
  have ha := a.toNat_lt
  have hb := b.toNat_lt
  have hc := c.toNat_lt
  have hd := d.toNat_lt
  rw [← cw_be4]
  generalize a.toNat = x0 at *
  generalize b.toNat = x1 at *
  generalize c.toNat = x2 at *
  generalize d.toNat = x3 at *
  have e1 : bits .or .u32 ((x0 : Int) * 16777216) ((x1 : Int) * 65536) = ((x0 * 16777216 + x1 * 65536 : Nat) : Int) := by
    have := or32 (x0 * 16777216) (x1 * 65536) (by omega) (by omega)
    rw [Int.natCast_mul, Int.natCast_mul] at this
    rw [show (16777216 : Int) = ((16777216 : Nat) : Int) from rfl, show (65536 : Int) = ((65536 : Nat) : Int) from rfl, this]
    congr 1
    exact or_add x0 (x1 * 65536) 24 (by omega)
  have e2 : bits .or .u32 ((x0 * 16777216 + x1 * 65536 : Nat) : Int) ((x2 : Int) * 256) = ((x0 * 16777216 + x1 * 65536 + x2 * 256 : Nat) : Int) := by
    have := or32 (x0 * 16777216 + x1 * 65536) (x2 * 256) (by omega) (by omega)
    rw [Int.natCast_mul x2 256] at this
    rw [show (256 : Int) = ((256 : Nat) : Int) from rfl, this]
    congr 1
    rw [show x0 * 16777216 + x1 * 65536 = (x0 * 256 + x1) * 2 ^ 16 from by omega]
    exact or_add (x0 * 256 + x1) (x2 * 256) 16 (by omega)
  have e3 := or32 (x0 * 16777216 + x1 * 65536 + x2 * 256) x3 (by omega) (by omega)
  rw [e1, e2, e3]
  congr 1
  rw [show x0 * 16777216 + x1 * 65536 + x2 * 256 = (x0 * 65536 + x1 * 256 + x2) * 2 ^ 8 from by omega, or_add _ _ 8 (by omega)]
  simp
  omega

set_option maxRecDepth 100000 in
set_option maxHeartbeats 1600000 in
theorem scheds_any (bs : List UInt8) (w : World) (h : bs.length = 64) :
    Calls Try.prog 49 #[.agg (cbs bs).toArray] w fun e w' => e = .returned (.agg (cws (sch bs 64)).toArray) ∧ Below w.heap.size w w' := by
  have Hlen := Lib.hid h
  clear h
  go_enter Try.func49, Try.ntmps49
  go_wp2
  go_loopw [8] (fun i wr => ∃ k : Nat, k ≤ 16 ∧ i = .int .i64 k ∧ Blk wr w.heap.size 63 (cbs bs) ∧ Blk wr (w.heap.size + 1) 75 (cws (sch bs 0)) ∧
      Blk wr (w.heap.size + 1 + 1) 75 (cws (sch bs k)) ∧ Below w.heap.size w wr) (fun i _ => 16 - (intOf i).toNat)
  case atStart =>
    refine ⟨0, by omega, rfl, ?_, ?_, ?_, (((Below.refl _ _).alloc (Nat.le_refl _) _).alloc (by simp) _).alloc (by simp; omega) _⟩
    · exact ((Blk.new rfl rfl).old _).old _
    · exact (Blk.new (sch_start bs) (by simp)).old _
    · exact Blk.new (sch_start bs) (by simp)
  case round =>
    obtain ⟨k, hk, rfl, hB, hR, hS, hnx⟩ := hrel
    by_cases hlt : k < 16
    · have c0 := hB.cell (cbs_getD bs (4 * k) (by rw [Hlen.out]; omega))
      have c1 := hB.cell (cbs_getD bs (4 * k + 1) (by rw [Hlen.out]; omega))
      have c2 := hB.cell (cbs_getD bs (4 * k + 2) (by rw [Hlen.out]; omega))
      have c3 := hB.cell (cbs_getD bs (4 * k + 3) (by rw [Hlen.out]; omega))
      have d0 := hS.cell (sch_zero bs (k := k) (by omega))
      have f0 := hS.free k
      have hset := sch_set bs k
      rw [wt_low hlt] at hset
      have Hset := Lib.hid hset
      clear hset
      have l0 := (bs.getD (4 * k) 0).toNat_lt
      have l1 := (bs.getD (4 * k + 1) 0).toNat_lt
      have l2 := (bs.getD (4 * k + 2) 0).toNat_lt
      have l3 := (bs.getD (4 * k + 3) 0).toNat_lt
      generalize bs.getD (4 * k) 0 = x0 at *
      generalize bs.getD (4 * k + 1) 0 = x1 at *
      generalize bs.getD (4 * k + 2) 0 = x2 at *
      generalize bs.getD (4 * k + 3) 0 = x3 at *
      have i0 : (0 : Int) ≤ k := by omega
      have i1 : (k : Int) < 16 := by omega
      go_wp2
      go_region
      go_wp2
      go_roundw
      case rel =>
        refine ⟨k + 1, by omega, by go_num, hB.far (by dsimp only; omega) _, hR.far (by dsimp only; omega) _, ?_, (hnx.setCell (by dsimp only; omega) _).drew⟩
        have := hS.set_ k (cw (be4 x0 x1 x2 x3))
        rw [cws_set, Hset.out] at this
        rw [cw_be4o]
        exact this
      case measure => simp [intOf]; omega
    · have hS16 : Blk wr (w.heap.size + 1 + 1) 75 (cws (sch bs 16)) := by
        have e : k = 16 := by omega
        rw [e] at hS; exact hS
      have hk2 : ¬ (k : Int) < 16 := by omega
      clear hk hS
      go_wp2
      go_loopw [5, 6, 7] (fun i _ _ wr => ∃ k : Nat, k ≤ 64 ∧ 16 ≤ k ∧ i = .int .i64 k ∧ Blk wr (w.heap.size + 1) 75 (cws (sch bs 0)) ∧
          Blk wr (w.heap.size + 1 + 1) 75 (cws (sch bs k)) ∧ Below w.heap.size w wr) (fun i _ _ _ => 64 - (intOf i).toNat)
      case atStart => exact ⟨16, by omega, by omega, rfl, hR, hS16, hnx⟩
      case round =>
        obtain ⟨k, hk, hk16, rfl, hR, hS, hnx⟩ := hrel
        by_cases hlt : k < 64
        · have c0 := hS.cell (sch_cell bs (k := k) (j := k - 16) (by omega) (by omega))
          have c1 := hS.cell (sch_cell bs (k := k) (j := k - 15) (by omega) (by omega))
          have c9 := hS.cell (sch_cell bs (k := k) (j := k - 7) (by omega) (by omega))
          have c14 := hS.cell (sch_cell bs (k := k) (j := k - 2) (by omega) (by omega))
          have d0 := hS.cell (sch_zero bs (k := k) (by omega))
          have f0 := hS.free k
          have hset := sch_set bs k
          rw [wt_high hk16] at hset
          have Hset := Lib.hid hset
          clear hset
          generalize wt bs (k - 16) = x0 at *
          generalize wt bs (k - 15) = x1 at *
          generalize wt bs (k - 7) = x9 at *
          generalize wt bs (k - 2) = x14 at *
          have l0 := w_lt x0
          have l1 := w_lt x1
          have l9 := w_lt x9
          have l14 := w_lt x14
          have i0 : (16 : Int) ≤ (k : Int) := by omega
          have i1 : (k : Int) < 64 := by omega
          go_wp2
          go_quiet (fail)
          go_wp2
          have v1 : IntKind.i64.wrap ((k : Int) - 16) = (k : Int) - 16 := IntWalk.i64_in _ (by omega)
          have v2 : IntKind.i64.wrap ((k : Int) - 7) = (k : Int) - 7 := IntWalk.i64_in _ (by omega)
          have v3 : (0 : Int) ≤ (k : Int) - 16 := by omega
          have v4 : (0 : Int) ≤ (k : Int) - 7 := by omega
          have v5 : (k : Int) - 16 < 64 := by omega
          have v6 : (k : Int) - 7 < 64 := by omega
          have v7 : ((k : Int) - 16).toNat = k - 16 := by omega
          have v8 : ((k : Int) - 7).toNat = k - 7 := by omega
          have v9 : (0 : Int) ≤ (k : Int) := by omega
          have v10 : (7 : Int) ≤ (k : Int) := by omega
          go_region_held3 (fun wz => wz.cell? ⟨w.heap.size + 1 + 1, k - 16, none⟩ = some (.int .u32 (x0.toNat : Int)) ∧ wz.cell? ⟨w.heap.size + 1 + 1, k - 7, none⟩ = some (.int .u32 (x9.toNat : Int))) (first | go_keep | exact ⟨(World.cell?_setCell_other _ _ _ _ (by intro e; injection e with _ e2; omega)).trans c0, (World.cell?_setCell_other _ _ _ _ (by intro e; injection e with _ e2; omega)).trans c9⟩)
            (first | (go_at_call 50; refine (rors_int _ _ _ (by omega) (by omega)).mono ?_; rintro e wy ⟨rfl, rfl⟩))
          clear v1 v2 v3 v4 v5 v6 v7 v8 v9 v10
          go_wp2
          go_roundw
          case rel =>
            refine ⟨k + 1, by omega, by omega, by go_num, hR.far (by dsimp only; omega) _, ?_, by first | exact hnx.drew.setCell (by dsimp only; omega) _ | exact (below_drewN hnx _).setCell (by dsimp only; omega) _ | exact (hnx.setCell (by dsimp only; omega) _).drew⟩
            have := hS.set_ k (cw (x0 + s0 x1 + x9 + s1 x14))
            rw [cws_set, Hset.out] at this
            rw [cw_sched]
            exact this
          case measure => simp [intOf]; omega
        · have hS64 : Blk wr (w.heap.size + 1 + 1) 75 (cws (sch bs 64)) := by
            have e : k = 64 := by omega
            rw [e] at hS; exact hS
          have hk2 : ¬ (k : Int) < 64 := by omega
          have hi : (Try.prog.info? 75).map (·.size) = some (cws (sch bs 64)).toArray.size := by rw [info64w, sch_size]
          have hth : wr.there (w.heap.size + 1) 0 (cws (sch bs 64)).toArray.size := by
            have e := hR.there
            rw [cws_length, sch_len] at e
            rw [sch_size]
            exact e
          have hR' := hR.setAll (vs := cws (sch bs 64)) (by rw [cws_length, cws_length, sch_len, sch_len])
          have hnx' : Below w.heap.size w (wr.setCells (w.heap.size + 1) 0 (cws (sch bs 64))) := Below.setCells (by omega) _ hnx
          have Hi := Lib.hid hi
          have Hth := Lib.hid hth
          have hone := cws_one (sch bs 64)
          have Hone := Lib.hid hone
          clear hk hlt hS hi hth hone
          go_wp2_with (first
            | refine wpList_load_row rfl 75 _ rfl (w.heap.size + 1 + 1) rfl 75 (cws (sch bs 64)).toArray (0, 0) _ hS64 Try.underlying75 rfl Hi.out ?_
            | refine wpList_store_mid rfl 75 _ _ rfl (w.heap.size + 1) 0 (cws (sch bs 64)).toArray rfl rfl Hth.out Hi.out Hone.out ?_)
          refine bodyPost_ret (results_cell_row rfl _ _ (w.heap.size + 1) 75 (cws (sch bs 64)).toArray (0, 0) _ rfl hR' Try.underlying75 rfl Hi.out) rfl ⟨rfl, hnx'⟩
end Go.Proofs.Ytcidliakmlolmaa
