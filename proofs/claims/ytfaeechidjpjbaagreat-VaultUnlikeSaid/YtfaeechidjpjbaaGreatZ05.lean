/-
  Laid together for a hand-in: SchedS, First, Rnd, RoundS, Primes, Cubes, Dig2.
-/
import Derived.Test.YtfaeechidjpjbaaGreatZ04
import Derived.Test.YtfaeechidjpjbaaGreatZ03
import Derived.BigRegion
import Derived.Outline
import Derived.Deep.DeepCutAuto
import Derived.Deep.RegionWith
import Derived.Deep.RegionLaw

namespace Go.Proofs.YtfaeechidjpjbaaGreat

open Go.RowKit

set_option linter.unusedVariables false

theorem or_add (a b n : Nat) (h : b < 2 ^ n) : a * 2 ^ n ||| b = a * 2 ^ n + b := by
  have := Nat.shiftLeft_add_eq_or_of_lt h a
  rw [Nat.shiftLeft_eq] at this
  exact this.symm

theorem or32 (a b : Nat) (ha : a < 4294967296) (hb : b < 4294967296) : bits .or .u32 (a : Int) (b : Int) = ((a ||| b : Nat) : Int) :=
  (bits_nat .u32 32 (by decide) (fun n h0 h1 => by rw [IntKind.wrap_u32]; omega) a b (by simpa using ha) (by simpa using hb)).2

theorem cw_be4o (a b c d : UInt8) : Value.int .u32 (bits .or .u32 (bits .or .u32 (bits .or .u32 ((a.toNat : Int) * 16777216) ((b.toNat : Int) * 65536)) ((c.toNat : Int) * 256)) (d.toNat : Int)) = cw (be4 a b c d) := by
  have ha := a.toNat_lt
  have hb := b.toNat_lt
  have hc := c.toNat_lt
  have hd := d.toNat_lt
  rw [← cw_be4]
  generalize a.toNat = x0 at *
  generalize b.toNat = x1 at *
  generalize c.toNat = x2 at *
  generalize d.toNat = x3 at *
  have e1 : bits .or .u32 ((x0 : Int) * 16777216) ((x1 : Int) * 65536) = ((x0 * 16777216 + x1 * 65536 : Nat) : Int) := by
    have := or32 (x0 * 16777216) (x1 * 65536) (by omega) (by omega)
    rw [Int.natCast_mul, Int.natCast_mul] at this
    rw [show (16777216 : Int) = ((16777216 : Nat) : Int) from rfl, show (65536 : Int) = ((65536 : Nat) : Int) from rfl, this]
    congr 1
    exact or_add x0 (x1 * 65536) 24 (by omega)
  have e2 : bits .or .u32 ((x0 * 16777216 + x1 * 65536 : Nat) : Int) ((x2 : Int) * 256) = ((x0 * 16777216 + x1 * 65536 + x2 * 256 : Nat) : Int) := by
    have := or32 (x0 * 16777216 + x1 * 65536) (x2 * 256) (by omega) (by omega)
    rw [Int.natCast_mul x2 256] at this
    rw [show (256 : Int) = ((256 : Nat) : Int) from rfl, this]
    congr 1
    rw [show x0 * 16777216 + x1 * 65536 = (x0 * 256 + x1) * 2 ^ 16 from by omega]
    exact or_add (x0 * 256 + x1) (x2 * 256) 16 (by omega)
  have e3 := or32 (x0 * 16777216 + x1 * 65536 + x2 * 256) x3 (by omega) (by omega)
  rw [e1, e2, e3]
  congr 1
  rw [show x0 * 16777216 + x1 * 65536 + x2 * 256 = (x0 * 65536 + x1 * 256 + x2) * 2 ^ 8 from by omega, or_add _ _ 8 (by omega)]
  simp
  omega

set_option maxRecDepth 100000 in
set_option maxHeartbeats 1600000 in
theorem scheds_any (bs : List UInt8) (w : World) (h : bs.length = 64) :
    Calls Tryz.prog 191 #[.agg (cbs bs).toArray] w fun e w' => e = .returned (.agg (cws (sch bs 64)).toArray) ∧ Below w.heap.size w w' := by
  have Hlen := Lib.hid h
  clear h
  go_enter Tryz.func191, Tryz.ntmps191
  go_wp2
  go_loopw [8] (fun i wr => ∃ k : Nat, k ≤ 16 ∧ i = .int .i64 k ∧ Blk wr w.heap.size 182 (cbs bs) ∧ Blk wr (w.heap.size + 1) 195 (cws (sch bs 0)) ∧
      Blk wr (w.heap.size + 1 + 1) 195 (cws (sch bs k)) ∧ Below w.heap.size w wr) (fun i _ => 16 - (intOf i).toNat)
  case atStart =>
    refine ⟨0, by omega, rfl, ?_, ?_, ?_, (((Below.refl _ _).alloc (Nat.le_refl _) _).alloc (by simp) _).alloc (by simp; omega) _⟩
    · exact ((Blk.new rfl rfl).old _).old _
    · exact (Blk.new (sch_start bs) (by simp)).old _
    · exact Blk.new (sch_start bs) (by simp)
  case round =>
    obtain ⟨k, hk, rfl, hB, hR, hS, hnx⟩ := hrel
    by_cases hlt : k < 16
    · have c0 := hB.cell (cbs_getD bs (4 * k) (by rw [Hlen.out]; omega))
      have c1 := hB.cell (cbs_getD bs (4 * k + 1) (by rw [Hlen.out]; omega))
      have c2 := hB.cell (cbs_getD bs (4 * k + 2) (by rw [Hlen.out]; omega))
      have c3 := hB.cell (cbs_getD bs (4 * k + 3) (by rw [Hlen.out]; omega))
      have d0 := hS.cell (sch_zero bs (k := k) (by omega))
      have f0 := hS.free k
      have hset := sch_set bs k
      rw [wt_low hlt] at hset
      have Hset := Lib.hid hset
      clear hset
      have l0 := (bs.getD (4 * k) 0).toNat_lt
      have l1 := (bs.getD (4 * k + 1) 0).toNat_lt
      have l2 := (bs.getD (4 * k + 2) 0).toNat_lt
      have l3 := (bs.getD (4 * k + 3) 0).toNat_lt
      generalize bs.getD (4 * k) 0 = x0 at *
      generalize bs.getD (4 * k + 1) 0 = x1 at *
      generalize bs.getD (4 * k + 2) 0 = x2 at *
      generalize bs.getD (4 * k + 3) 0 = x3 at *
      have i0 : (0 : Int) ≤ k := by omega
      have i1 : (k : Int) < 16 := by omega
      go_wp2
      go_region
      go_wp2
      go_roundw
      case rel =>
        refine ⟨k + 1, by omega, by go_num, hB.far (by dsimp only; omega) _, hR.far (by dsimp only; omega) _, ?_, (hnx.setCell (by dsimp only; omega) _).drew⟩
        have := hS.set_ k (cw (be4 x0 x1 x2 x3))
        rw [cws_set, Hset.out] at this
        rw [cw_be4o]
        exact this
      case measure => simp [intOf]; omega
    · have hS16 : Blk wr (w.heap.size + 1 + 1) 195 (cws (sch bs 16)) := by
        have e : k = 16 := by omega
        rw [e] at hS; exact hS
      have hk2 : ¬ (k : Int) < 16 := by omega
      clear hk hS
      go_wp2
      go_loopw [5, 6, 7] (fun i _ _ wr => ∃ k : Nat, k ≤ 64 ∧ 16 ≤ k ∧ i = .int .i64 k ∧ Blk wr (w.heap.size + 1) 195 (cws (sch bs 0)) ∧
          Blk wr (w.heap.size + 1 + 1) 195 (cws (sch bs k)) ∧ Below w.heap.size w wr) (fun i _ _ _ => 64 - (intOf i).toNat)
      case atStart => exact ⟨16, by omega, by omega, rfl, hR, hS16, hnx⟩
      case round =>
        obtain ⟨k, hk, hk16, rfl, hR, hS, hnx⟩ := hrel
        by_cases hlt : k < 64
        · have c0 := hS.cell (sch_cell bs (k := k) (j := k - 16) (by omega) (by omega))
          have c1 := hS.cell (sch_cell bs (k := k) (j := k - 15) (by omega) (by omega))
          have c9 := hS.cell (sch_cell bs (k := k) (j := k - 7) (by omega) (by omega))
          have c14 := hS.cell (sch_cell bs (k := k) (j := k - 2) (by omega) (by omega))
          have d0 := hS.cell (sch_zero bs (k := k) (by omega))
          have f0 := hS.free k
          have hset := sch_set bs k
          rw [wt_high hk16] at hset
          have Hset := Lib.hid hset
          clear hset
          generalize wt bs (k - 16) = x0 at *
          generalize wt bs (k - 15) = x1 at *
          generalize wt bs (k - 7) = x9 at *
          generalize wt bs (k - 2) = x14 at *
          have l0 := w_lt x0
          have l1 := w_lt x1
          have l9 := w_lt x9
          have l14 := w_lt x14
          have i0 : (16 : Int) ≤ (k : Int) := by omega
          have i1 : (k : Int) < 64 := by omega
          go_wp2
          go_quiet (fail)
          go_wp2
          have v1 : IntKind.i64.wrap ((k : Int) - 16) = (k : Int) - 16 := IntWalk.i64_in _ (by omega)
          have v2 : IntKind.i64.wrap ((k : Int) - 7) = (k : Int) - 7 := IntWalk.i64_in _ (by omega)
          have v3 : (0 : Int) ≤ (k : Int) - 16 := by omega
          have v4 : (0 : Int) ≤ (k : Int) - 7 := by omega
          have v5 : (k : Int) - 16 < 64 := by omega
          have v6 : (k : Int) - 7 < 64 := by omega
          have v7 : ((k : Int) - 16).toNat = k - 16 := by omega
          have v8 : ((k : Int) - 7).toNat = k - 7 := by omega
          have v9 : (0 : Int) ≤ (k : Int) := by omega
          have v10 : (7 : Int) ≤ (k : Int) := by omega
          go_region_held3 (fun wz => wz.cell? ⟨w.heap.size + 1 + 1, k - 16, none⟩ = some (.int .u32 (x0.toNat : Int)) ∧ wz.cell? ⟨w.heap.size + 1 + 1, k - 7, none⟩ = some (.int .u32 (x9.toNat : Int))) (first | go_keep | exact ⟨(World.cell?_setCell_other _ _ _ _ (by intro e; injection e with _ e2; omega)).trans c0, (World.cell?_setCell_other _ _ _ _ (by intro e; injection e with _ e2; omega)).trans c9⟩)
            (first | (go_at_call 192; refine (rors_int _ _ _ (by omega) (by omega)).mono ?_; rintro e wy ⟨rfl, rfl⟩))
          clear v1 v2 v3 v4 v5 v6 v7 v8 v9 v10
          go_wp2
          go_roundw
          case rel =>
            refine ⟨k + 1, by omega, by omega, by go_num, hR.far (by dsimp only; omega) _, ?_, by first | exact hnx.drew.setCell (by dsimp only; omega) _ | exact (below_drewN hnx _).setCell (by dsimp only; omega) _ | exact (hnx.setCell (by dsimp only; omega) _).drew⟩
            have := hS.set_ k (cw (x0 + s0 x1 + x9 + s1 x14))
            rw [cws_set, Hset.out] at this
            rw [cw_sched]
            exact this
          case measure => simp [intOf]; omega
        · have hS64 : Blk wr (w.heap.size + 1 + 1) 195 (cws (sch bs 64)) := by
            have e : k = 64 := by omega
            rw [e] at hS; exact hS
          have hk2 : ¬ (k : Int) < 64 := by omega
          have hi : (Tryz.prog.info? 195).map (·.size) = some (cws (sch bs 64)).toArray.size := by rw [info64w, sch_size]
          have hth : wr.there (w.heap.size + 1) 0 (cws (sch bs 64)).toArray.size := by
            have e := hR.there
            rw [cws_length, sch_len] at e
            rw [sch_size]
            exact e
          have hR' := hR.setAll (vs := cws (sch bs 64)) (by rw [cws_length, cws_length, sch_len, sch_len])
          have hnx' : Below w.heap.size w (wr.setCells (w.heap.size + 1) 0 (cws (sch bs 64))) := Below.setCells (by omega) _ hnx
          have Hi := Lib.hid hi
          have Hth := Lib.hid hth
          have hone := cws_one (sch bs 64)
          have Hone := Lib.hid hone
          clear hk hlt hS hi hth hone
          go_wp2_with (first
            | refine wpList_load_row rfl 195 _ rfl (w.heap.size + 1 + 1) rfl 195 (cws (sch bs 64)).toArray (0, 0) _ hS64 Tryz.underlying195 rfl Hi.out ?_
            | refine wpList_store_mid rfl 195 _ _ rfl (w.heap.size + 1) 0 (cws (sch bs 64)).toArray rfl rfl Hth.out Hi.out Hone.out ?_)
          refine bodyPost_ret (results_cell_row rfl _ _ (w.heap.size + 1) 195 (cws (sch bs 64)).toArray (0, 0) _ rfl hR' Tryz.underlying195 rfl Hi.out) rfl ⟨rfl, hnx'⟩

end Go.Proofs.YtfaeechidjpjbaaGreat

namespace Go.Proofs.YtfaeechidjpjbaaGreat

open Go.RowKit

set_option linter.unusedVariables false

theorem H0_lit : (cws H0).toArray = #[.int .u32 1779033703, .int .u32 3144134277, .int .u32 1013904242, .int .u32 2773480762, .int .u32 1359893119, .int .u32 2600822924, .int .u32 528734635, .int .u32 1541459225] := by
  simp [cws, H0, cw]

theorem info8w : (Tryz.prog.info? 180).map (·.size) = some 8 := by kernel_rfl

set_option maxRecDepth 100000 in
set_option maxHeartbeats 800000 in
theorem first_any (w : World) : Calls Tryz.prog 149 #[] w fun e w' => e = .returned (.agg (cws H0).toArray) ∧ Below w.heap.size w w' := by
  go_enter Tryz.func149, Tryz.ntmps149
  go_wp2
  refine bodyPost_ret (results_cell_row rfl _ _ w.heap.size 180 _ (0, 0) _ rfl (heap_alloc_new w _) Tryz.underlying180 rfl info8w) rfl ⟨?_, (Below.refl _ _).alloc (Nat.le_refl _) _⟩
  rw [H0_lit]

theorem zeros_there (w : World) (t : TypeId) : (w.alloc (.cells (List.replicate 64 (Value.int .u32 0)).toArray t)).there w.heap.size 0 64 := by
  have h : Blk (w.alloc (.cells (List.replicate 64 (Value.int .u32 0)).toArray t)) w.heap.size t (List.replicate 64 (Value.int .u32 0)) := Blk.new rfl rfl
  have := h.there
  rwa [List.length_replicate] at this

theorem KK_len : KK.length = 64 := rfl

theorem KK_size : (cws KK).toArray.size = 64 := by rw [List.size_toArray, cws_length, KK_len]

set_option maxRecDepth 100000 in
set_option maxHeartbeats 800000 in
theorem roots_any (w : World) : Calls Tryz.prog 160 #[] w fun e w' => e = .returned (.agg (cws KK).toArray) ∧ Below w.heap.size w w' := by
  have hi : (Tryz.prog.info? 195).map (·.size) = some (cws KK).toArray.size := by rw [info64w, KK_size]
  have Hi := Lib.hid hi
  clear hi
  have Hth := Lib.hid (zeros_there w 195)
  have HB := Lib.hid (show Blk (w.alloc (.cells (List.replicate 64 (Value.int .u32 0)).toArray 195)) w.heap.size 195 (List.replicate 64 (Value.int .u32 0)) from Blk.new rfl rfl)
  go_enter Tryz.func160, Tryz.ntmps160
  go_wp2_with (refine wpList_store_mid rfl 195 _ _ rfl w.heap.size 0 (cws KK).toArray rfl (by kernel_rfl) (by rw [KK_size]; exact Hth.out) Hi.out (cws_one KK) ?_)
  have hR : Blk ((w.alloc (.cells (List.replicate 64 (Value.int .u32 0)).toArray 195)).setCells w.heap.size 0 (cws KK)) w.heap.size 195 (cws KK) := HB.out.setAll (by rw [cws_length, List.length_replicate]; rfl)
  refine bodyPost_ret (results_cell_row rfl _ _ w.heap.size 195 (cws KK).toArray (0, 0) _ rfl hR Tryz.underlying195 rfl Hi.out) rfl ⟨rfl, ?_⟩
  exact Below.setCells (Nat.le_refl _) _ ((Below.refl _ _).alloc (Nat.le_refl _) _)

end Go.Proofs.YtfaeechidjpjbaaGreat

namespace Go.Proofs.YtfaeechidjpjbaaGreat

open Go.RowKit

set_option linter.unusedVariables false

def l8 (s : S8) : List Value := [.int .u32 (s.a.toNat : Int), .int .u32 (s.b.toNat : Int), .int .u32 (s.c.toNat : Int), .int .u32 (s.d.toNat : Int), .int .u32 (s.e.toNat : Int), .int .u32 (s.f.toNat : Int), .int .u32 (s.g.toNat : Int), .int .u32 (s.h.toNat : Int)]

def v8 (s : S8) : Value := .agg (l8 s).toArray

/-- A quiet call behind a quiet region. -/
theorem quiet_more {P : Program} {f : FuncId} {args : Array Value} {w : World} {a n : Nat} {v : Value}
    (h : Calls P f args (w.drewN (a + n)) fun e w' => e = .returned v ∧ ∃ m, w' = (w.drewN (a + n)).drewN m) :
    Calls P f args (w.drewN (a + n)) fun e w'' => e = .returned v ∧ ∃ m, w'' = w.drewN (a + m) :=
  h.mono fun _ _ ⟨he, m, hm⟩ => ⟨he, n + m, by rw [hm, World.drewN_drewN, Nat.add_assoc]⟩

theorem w_nota (x : UInt32) : bits .xor .u32 (if IntKind.u32.signed = true then -1 else IntKind.u32.max) (x.toNat : Int) = ((~~~x).toNat : Int) := w_not x

theorem i_tee (t : S8) (k w : UInt32) : ((t.h.toNat : Int) + bits .xor .u32 (bits .xor .u32 ((rotr t.e 6).toNat : Int) ((rotr t.e 11).toNat : Int)) ((rotr t.e 25).toNat : Int) +
    bits .xor .u32 (bits .and .u32 (t.e.toNat : Int) (t.f.toNat : Int)) (bits .and .u32 (bits .xor .u32 (if IntKind.u32.signed = true then -1 else IntKind.u32.max) (t.e.toNat : Int)) (t.g.toNat : Int)) + (k.toNat : Int) + (w.toNat : Int)) % 4294967296 = ((tee t k w).toNat : Int) := by
  rw [w_nota, w_xor, w_xor, w_and, w_and, w_xor]
  unfold tee
  simp only [UInt32.toNat_add]
  omega

theorem cw_new (t : S8) (k w : UInt32) : Value.int .u32 (((t.h.toNat : Int) + bits .xor .u32 (bits .xor .u32 ((rotr t.e 6).toNat : Int) ((rotr t.e 11).toNat : Int)) ((rotr t.e 25).toNat : Int) +
    bits .xor .u32 (bits .and .u32 (t.e.toNat : Int) (t.f.toNat : Int)) (bits .and .u32 (bits .xor .u32 (if IntKind.u32.signed = true then -1 else IntKind.u32.max) (t.e.toNat : Int)) (t.g.toNat : Int)) + (k.toNat : Int) + (w.toNat : Int) +
    (bits .xor .u32 (bits .xor .u32 ((rotr t.a 2).toNat : Int) ((rotr t.a 13).toNat : Int)) ((rotr t.a 22).toNat : Int) +
      bits .xor .u32 (bits .xor .u32 (bits .and .u32 (t.a.toNat : Int) (t.b.toNat : Int)) (bits .and .u32 (t.a.toNat : Int) (t.c.toNat : Int))) (bits .and .u32 (t.b.toNat : Int) (t.c.toNat : Int)))) % 4294967296) = cw (tee t k w + uuu t) := by
  have h := i_tee t k w
  have hu : (bits .xor .u32 (bits .xor .u32 ((rotr t.a 2).toNat : Int) ((rotr t.a 13).toNat : Int)) ((rotr t.a 22).toNat : Int) +
      bits .xor .u32 (bits .xor .u32 (bits .and .u32 (t.a.toNat : Int) (t.b.toNat : Int)) (bits .and .u32 (t.a.toNat : Int) (t.c.toNat : Int))) (bits .and .u32 (t.b.toNat : Int) (t.c.toNat : Int))) % 4294967296 = ((uuu t).toNat : Int) := by
    rw [w_xor, w_xor, w_and, w_and, w_and, w_xor, w_xor, w_add]; rfl
  unfold cw
  rw [← w_add, ← h, ← hu, Int.add_emod]

theorem cw_mid (t : S8) (k w : UInt32) : Value.int .u32 (((t.d.toNat : Int) + ((t.h.toNat : Int) + bits .xor .u32 (bits .xor .u32 ((rotr t.e 6).toNat : Int) ((rotr t.e 11).toNat : Int)) ((rotr t.e 25).toNat : Int) +
    bits .xor .u32 (bits .and .u32 (t.e.toNat : Int) (t.f.toNat : Int)) (bits .and .u32 (bits .xor .u32 (if IntKind.u32.signed = true then -1 else IntKind.u32.max) (t.e.toNat : Int)) (t.g.toNat : Int)) + (k.toNat : Int) + (w.toNat : Int))) % 4294967296) = cw (t.d + tee t k w) := by
  have h := i_tee t k w
  have hx : ∀ X : Int, ((t.d.toNat : Int) + X) % 4294967296 = ((t.d.toNat : Int) + X % 4294967296) % 4294967296 := fun X => by omega
  unfold cw
  rw [← w_add, ← h]
  exact congrArg (Value.int .u32) (hx _)

/-- The last loop: the first k words are added. -/
def mix (t s : S8) (k : Nat) : List UInt32 := (List.range 8).map fun j => if j < k then t.list.getD j 0 + s.list.getD j 0 else t.list.getD j 0

theorem mix_0 (t s : S8) : cws (mix t s 0) = l8 t := rfl

theorem mix_8 (t s : S8) : cws (mix t s 8) = l8 (t.add s) := rfl

theorem mix_len (t s : S8) (k : Nat) : (mix t s k).length = 8 := by simp [mix]

theorem mix_at {t s : S8} {k : Nat} (h : k < 8) : (cws (mix t s k))[k]? = some (.int .u32 ((t.list.getD k 0).toNat : Int)) := by
  rw [cws_get _ _ (by rw [mix_len]; exact h)]
  simp [mix]

theorem mix_set (t s : S8) (k : Nat) (h : k < 8) : (cws (mix t s k)).set k (cw (t.list.getD k 0 + s.list.getD k 0)) = cws (mix t s (k + 1)) := by
  rw [cws_set]
  congr 1
  apply List.ext_getElem
  · simp [mix]
  · intro i h1 h2
    rw [List.getElem_set]
    by_cases hi : k = i
    · subst hi; simp [mix]
    · simp only [hi, if_false]
      simp only [mix, List.getElem_map, List.getElem_range]
      by_cases h3 : i < k
      · rw [if_pos h3, if_pos (by omega)]
      · rw [if_neg h3, if_neg (by omega)]

theorem l8_at (s : S8) {k : Nat} (h : k < 8) : (l8 s)[k]? = some (.int .u32 ((s.list.getD k 0).toNat : Int)) := by
  have : l8 s = cws s.list := rfl
  rw [this, cws_get _ _ (by exact h), List.getD_eq_getElem?_getD, List.getElem?_eq_getElem (by exact h)]
  rfl

theorem KK_cell {j : Nat} (h : j < 64) : (cws KK)[j]? = some (.int .u32 ((KK.getD j 0).toNat : Int)) := by
  rw [cws_get KK j (by rw [KK_len]; exact h), List.getD_eq_getElem?_getD, List.getElem?_eq_getElem (by rw [KK_len]; exact h)]
  rfl

/-- What stands while Round's first statement runs. -/
def Good (w : World) (s : S8) (bs : List UInt8) (W : World) : Prop :=
  Blk W w.heap.size 180 (l8 s) ∧ Blk W (w.heap.size + 1) 182 (cbs bs) ∧ (∃ z, Blk W (w.heap.size + 1 + 1) 180 z ∧ z.length = 8) ∧ Below w.heap.size w W

theorem Good.lt {w : World} {s : S8} {bs : List UInt8} {W : World} (h : Good w s bs W) : w.heap.size + 2 < W.heap.size := by
  obtain ⟨_, _, ⟨z, h, _⟩, _⟩ := h; exact h.lt

theorem Good.alloc {w : World} {s : S8} {bs : List UInt8} {W : World} (h : Good w s bs W) (o : Obj) : Good w s bs (W.alloc o) := by
  obtain ⟨h1, h2, ⟨z, h3, h4⟩, h5⟩ := h
  exact ⟨h1.old o, h2.old o, ⟨z, h3.old o, h4⟩, h5.alloc h5.size o⟩

theorem Good.below {w : World} {s : S8} {bs : List UInt8} {W W' : World} (h : Good w s bs W) (hb : Below W.heap.size W W') : Good w s bs W' := by
  obtain ⟨h1, h2, ⟨z, h3, h4⟩, h5⟩ := h
  exact ⟨h1.below hb h1.lt, h2.below hb h2.lt, ⟨z, h3.below hb h3.lt, h4⟩, h5.trans (hb.mono h5.size)⟩

theorem Good.set_ {w : World} {s : S8} {bs : List UInt8} {W : World} (h : Good w s bs W) {g : Nat} (hg : w.heap.size + 2 < g) (vs : List Value) : Good w s bs (W.setCells g 0 vs) := by
  obtain ⟨h1, h2, ⟨z, h3, h4⟩, h5⟩ := h
  exact ⟨Blk.farAll (by omega) vs h1, Blk.farAll (by omega) vs h2, ⟨z, Blk.farAll (by omega) vs h3, h4⟩, Below.setCells (by omega) vs h5⟩

theorem Good.drew_ {w : World} {s : S8} {bs : List UInt8} {W : World} : Good w s bs W.drew = Good w s bs W := by
  apply propext
  exact ⟨fun ⟨h1, h2, h3, h5⟩ => ⟨h1, h2, h3, ⟨h5.os, h5.tape, h5.output, h5.size, h5.block⟩⟩, fun ⟨h1, h2, h3, h5⟩ => ⟨h1, h2, h3, h5.drew⟩⟩

def zero64 : List Value := List.replicate 64 (.int .u32 0)

/-- A new array of 64 words. -/
def ZB (W : World) (g : Nat) : Prop := Blk W g 195 zero64

theorem ZB.below {W W' : World} (hb : Below W.heap.size W W') {g : Nat} (h : ZB W g) : ZB W' g := Blk.below h hb (Blk.lt h)

theorem ZB.new_ (W : World) : ZB (W.alloc (.cells zero64.toArray 195)) W.heap.size := Blk.new rfl rfl

theorem ZB.new2 (W : World) (o : Obj) : ZB ((W.alloc o).alloc (.cells zero64.toArray 195)) (W.heap.size + 1) := Blk.new rfl (by simp)

theorem ZB.drew_ {W : World} {g : Nat} : ZB W.drew g = ZB W g := rfl

theorem run_good {w : World} {s : S8} {bs : List UInt8} {W : World} (h : Good w s bs W) (hl : bs.length = 64) :
    (Instr.loadAt 182 (.pointer (some ⟨w.heap.size + 1, 0, none⟩))).run Tryz.prog W = .ok (.agg (cbs bs).toArray) W := by
  have hi : (Tryz.prog.info? 182).map (·.size) = some (cbs bs).length := by
    rw [cbs_length, hl]; kernel_rfl
  refine run_loadAt_mid W _ 0 _ (cbs bs) _ ?_ Tryz.underlying182 rfl hi
  intro j v hv
  rw [Nat.zero_add]
  exact h.2.1.cell hv

theorem step_load {P : Program} {ops : Array Oper} {o : Oper} {a : Act} {w : World} {K : Act → World → Prop} {Q : Exit → Act → World → Prop} {E : Prop} (hgd : o.guard = none) (ty : TypeId) (x : Operand) (ho : o.op = .load ty x)
    (b off : Nat) (hx : a.eval x = .pointer (some ⟨b, off, none⟩)) (cs : List Value) (d : TypeDesc) (hc : w.rangeAt b off cs)
    (hu : P.underlying ty = some d) (hd : d.isRow = true) (hi : (P.info? ty).map (·.size) = some cs.length)
    (h : K (a.put o.dst (.agg cs.toArray)) w) : if Region.wanted o (yielded ops a.tmps) = true then Oper.wp P o a w K Q else E := by
  have hw : Region.wanted o (yielded ops a.tmps) = true := by simp [Region.wanted, hgd]
  rw [if_pos hw]
  exact wp_load_mid ty x ho b off hx cs d hc hu hd hi h

theorem step_store {P : Program} {ops : Array Oper} {o : Oper} {a : Act} {w : World} {K : Act → World → Prop} {Q : Exit → Act → World → Prop} {E : Prop} (hgd : o.guard = none) (ty : TypeId) (x y : Operand) (ho : o.op = .store ty x y)
    (b off : Nat) (cells : Array Value) (hx : a.eval x = .pointer (some ⟨b, off, none⟩)) (hy : a.eval y = .agg cells)
    (ht : w.there b off cells.size) (hi : (P.info? ty).map (·.size) = some cells.size) (h1 : cells.all (·.oneCell') = true)
    (h : K (a.put o.dst undef) (w.setCells b off cells.toList)) : if Region.wanted o (yielded ops a.tmps) = true then Oper.wp P o a w K Q else E := by
  have hw : Region.wanted o (yielded ops a.tmps) = true := by simp [Region.wanted, hgd]
  rw [if_pos hw]
  exact wp_store_mid ty x y ho b off cells hx hy ht hi h1 h

theorem Good.range {w : World} {s : S8} {bs : List UInt8} {W : World} (h : Good w s bs W) : W.rangeAt (w.heap.size + 1) 0 (cbs bs) := by
  intro j v hv
  rw [Nat.zero_add]
  exact h.2.1.cell hv

theorem ZB.there_ {W : World} {g n : Nat} (h : ZB W g) (hn : n = 64) : W.there g 0 n := by
  subst hn
  have := Blk.there h
  unfold zero64 at this
  rwa [List.length_replicate] at this

theorem range_below {W W' : World} {b o : Nat} {cs : List Value} (hb : Below W.heap.size W W') (h : W.rangeAt b o cs) : W'.rangeAt b o cs := by
  intro j v hv
  have hc := h j v hv
  exact (hb.cell (World.block_lt_of_cell? W _ hc)).trans hc

theorem run_zero {W : World} {g : Nat} (h : ZB W g) (l : List UInt32) (hl : l.length = 64) :
    (Instr.storeAt 195 (.pointer (some ⟨g, 0, none⟩)) (.agg (cws l).toArray)).run Tryz.prog W = .ok () (W.setCells g 0 (cws l)) := by
  have hs : (cws l).toArray.size = 64 := by rw [List.size_toArray, cws_length, hl]
  refine run_storeAt_mid W g 0 _ (cws l).toArray ?_ (by rw [hs, info64w]) (cws_one l)
  rw [hs]
  have := Blk.there h
  unfold zero64 at this
  rwa [List.length_replicate] at this

theorem rangeAt_cell {w : World} {b o : Nat} {cs : List Value} (h : w.rangeAt b o cs) {j : Nat} {v : Value} (hv : cs[j]? = some v) : w.cell? ⟨b, o + j, none⟩ = some v := h j v hv

end Go.Proofs.YtfaeechidjpjbaaGreat

namespace Go.Proofs.YtfaeechidjpjbaaGreat

open Go.RowKit

set_option linter.unusedVariables false

theorem i_uuu (t : S8) : ((bits .xor .u32 (bits .xor .u32 ((rotr t.a 2).toNat : Int) ((rotr t.a 13).toNat : Int)) ((rotr t.a 22).toNat : Int) +
      bits .xor .u32 (bits .xor .u32 (bits .and .u32 (t.a.toNat : Int) (t.b.toNat : Int)) (bits .and .u32 (t.a.toNat : Int) (t.c.toNat : Int))) (bits .and .u32 (t.b.toNat : Int) (t.c.toNat : Int))) % 4294967296) = ((uuu t).toNat : Int) := by
  rw [w_xor, w_xor, w_and, w_and, w_and, w_xor, w_xor, w_add]; rfl

theorem Blk.drewN_ {w : World} {g : Nat} {t : TypeId} {cs : List Value} (h : Blk w g t cs) (n : Nat) : Blk (w.drewN n) g t cs := h

theorem range_drewN {w : World} {b o : Nat} {cs : List Value} (h : w.rangeAt b o cs) (n : Nat) : (w.drewN n).rangeAt b o cs := fun j v hv => h j v hv

def s8s (s t : S8) : List Value := [.int .u32 (((s.a.toNat : Int) + (t.a.toNat : Int)) % 4294967296), .int .u32 (((s.b.toNat : Int) + (t.b.toNat : Int)) % 4294967296), .int .u32 (((s.c.toNat : Int) + (t.c.toNat : Int)) % 4294967296), .int .u32 (((s.d.toNat : Int) + (t.d.toNat : Int)) % 4294967296), .int .u32 (((s.e.toNat : Int) + (t.e.toNat : Int)) % 4294967296), .int .u32 (((s.f.toNat : Int) + (t.f.toNat : Int)) % 4294967296), .int .u32 (((s.g.toNat : Int) + (t.g.toNat : Int)) % 4294967296), .int .u32 (((s.h.toNat : Int) + (t.h.toNat : Int)) % 4294967296)]

theorem s8s_eq (s : S8) (bs : List UInt8) : s8s s (steps8 bs s 64) = l8 (rnd s bs) := by
  unfold s8s rnd S8.add l8
  simp only [w_add, UInt32.add_comm]

set_option maxRecDepth 100000 in
set_option maxHeartbeats 3200000 in
theorem rounds_any (s : S8) (bs : List UInt8) (gk ok : Nat) (w : World) (hl : bs.length = 64) (hk : w.rangeAt gk ok (cws KK)) :
    Calls Tryz.prog 181 #[v8 s, .agg (cbs bs).toArray, .pointer (some ⟨gk, ok, none⟩)] w fun e w' => e = .returned (v8 (rnd s bs)) ∧ Below w.heap.size w w' := by
  have hgk : gk < w.heap.size := World.block_lt_of_cell? w _ (hk 0 _ (KK_cell (j := 0) (by decide)))
  have Hl := Lib.hid hl
  have Hk := Lib.hid hk
  have hv : v8 s = .agg #[.int .u32 (s.a.toNat : Int), .int .u32 (s.b.toNat : Int), .int .u32 (s.c.toNat : Int), .int .u32 (s.d.toNat : Int), .int .u32 (s.e.toNat : Int), .int .u32 (s.f.toNat : Int), .int .u32 (s.g.toNat : Int), .int .u32 (s.h.toNat : Int)] := rfl
  rw [hv]
  clear hv hl hk
  have hi : (Tryz.prog.info? 182).map (·.size) = some (cbs bs).toArray.size := by
    rw [List.size_toArray, cbs_length, Hl.out]; kernel_rfl
  have Hi := Lib.hid hi
  clear hi
  have hB1 : Blk (((w.alloc (.cells #[.int .u32 (s.a.toNat : Int), .int .u32 (s.b.toNat : Int), .int .u32 (s.c.toNat : Int), .int .u32 (s.d.toNat : Int), .int .u32 (s.e.toNat : Int), .int .u32 (s.f.toNat : Int), .int .u32 (s.g.toNat : Int), .int .u32 (s.h.toNat : Int)] 180)).alloc (.cells (cbs bs).toArray 182)).alloc (.cells #[.int .u32 0, .int .u32 0, .int .u32 0, .int .u32 0, .int .u32 0, .int .u32 0, .int .u32 0, .int .u32 0] 180)) (w.heap.size + 1) 182 (cbs bs) := (Blk.new rfl (by simp)).old _
  have HB1 := Lib.hid hB1
  clear hB1
  go_enter Tryz.func181, Tryz.ntmps181
  go_upto_region 1 with fail
  go_cut [7] (fun p wx => ∃ g : Nat, p = .pointer (some ⟨g, 0, none⟩) ∧ w.heap.size + 2 < g ∧ Blk wx g 195 (cws (sch bs 64)) ∧ Blk wx w.heap.size 180 (l8 s) ∧
      (∃ z, Blk wx (w.heap.size + 1 + 1) 180 z ∧ z.length = 8) ∧ Below w.heap.size w wx)
  case first =>
    go_wp2_with (refine wpList_load_row rfl 182 _ rfl (w.heap.size + 1) rfl 182 (cbs bs).toArray (0, 0) _ HB1.out Tryz.underlying182 rfl Hi.out ?_)
    refine (scheds_any bs _ Hl.out).mono ?_
    rintro e w1 ⟨rfl, b1⟩
    have g1 := b1.size
    simp only [World.size_alloc] at g1
    have hS1 : Blk w1 w.heap.size 180 (l8 s) := Blk.below (((Blk.new rfl rfl).old _).old _) b1 (by simp; omega)
    have hZ1 : Blk w1 (w.heap.size + 1 + 1) 180 (l8 ⟨0, 0, 0, 0, 0, 0, 0, 0⟩) := Blk.below (Blk.new rfl (by simp)) b1 (by simp)
    have hnx1 : Below w.heap.size w w1 := ((((Below.refl _ _).alloc (Nat.le_refl _) _).alloc (by simp) _).alloc (by simp; omega) _).trans (b1.mono (by simp; omega))
    have hW0 : Blk (w1.alloc (.cells (List.replicate 64 (Value.int .u32 0)).toArray 195)) w1.heap.size 195 zero64 := Blk.new rfl rfl
    have hws : (cws (sch bs 64)).toArray.size = 64 := sch_size bs 64
    have hth : (w1.alloc (.cells (List.replicate 64 (Value.int .u32 0)).toArray 195)).there w1.heap.size 0 (cws (sch bs 64)).toArray.size := by
      rw [hws]
      exact ZB.there_ hW0 rfl
    have hi2 : (Tryz.prog.info? 195).map (·.size) = some (cws (sch bs 64)).toArray.size := by rw [hws, info64w]
    have hW := hW0.setAll (vs := cws (sch bs 64)) (by rw [cws_length, sch_len]; rfl)
    have hS2 := Blk.farAll (g' := w1.heap.size) (by omega) (cws (sch bs 64)) (w := w1.alloc (.cells (List.replicate 64 (Value.int .u32 0)).toArray 195)) (o := 0) (hS1.old _)
    have hZ2 := Blk.farAll (g' := w1.heap.size) (by omega) (cws (sch bs 64)) (w := w1.alloc (.cells (List.replicate 64 (Value.int .u32 0)).toArray 195)) (o := 0) (hZ1.old _)
    have hnx2 : Below w.heap.size w ((w1.alloc (.cells (List.replicate 64 (Value.int .u32 0)).toArray 195)).setCells w1.heap.size 0 (cws (sch bs 64))) := Below.setCells (by omega) _ (hnx1.alloc (by omega) _)
    have Hth := Lib.hid hth
    have Hi2 := Lib.hid hi2
    have Hone := Lib.hid (cws_one (sch bs 64))
    have HW := Lib.hid (And.intro hW (And.intro hS2 (And.intro hZ2 hnx2)))
    clear hS1 hZ1 hnx1 hW0 hws hth hi2 b1 hW hS2 hZ2 hnx2
    go_wp2_with (refine wpList_store_mid rfl 195 _ _ rfl w1.heap.size 0 (cws (sch bs 64)).toArray rfl rfl Hth.out Hi2.out Hone.out ?_)
    go_meet
    exact ⟨w1.heap.size, rfl, by omega, HW.out.1, HW.out.2.1, ⟨_, HW.out.2.2.1, rfl⟩, HW.out.2.2.2⟩
  case rest =>
    obtain ⟨g, rfl, hg, hW, hS, ⟨z, hZ, hz⟩, hnx⟩ := hcut
    have hK0 : wc.rangeAt gk ok (cws KK) := fun j v hv => (hnx.cell (p := ⟨gk, ok + j, none⟩) hgk).trans (Hk.out j v hv)
    have HK0 := Lib.hid hK0
    clear hK0
    have c0 := hS.cell (i := 0) (v := .int .u32 (s.a.toNat : Int)) rfl
    have c1 := hS.cell (i := 1) (v := .int .u32 (s.b.toNat : Int)) rfl
    have c2 := hS.cell (i := 2) (v := .int .u32 (s.c.toNat : Int)) rfl
    have c3 := hS.cell (i := 3) (v := .int .u32 (s.d.toNat : Int)) rfl
    have c4 := hS.cell (i := 4) (v := .int .u32 (s.e.toNat : Int)) rfl
    have c5 := hS.cell (i := 5) (v := .int .u32 (s.f.toNat : Int)) rfl
    have c6 := hS.cell (i := 6) (v := .int .u32 (s.g.toNat : Int)) rfl
    have c7 := hS.cell (i := 7) (v := .int .u32 (s.h.toNat : Int)) rfl
    go_wp2
    go_quiet (fail)
    go_wp2
    go_loopw [8, 9, 10, 11, 12, 13, 14, 15, 37] (fun pa pb pc pd pe pf pg ph i wr => ∃ (k : Nat) (t : S8), k ≤ 64 ∧ i = .int .i64 k ∧ t = steps8 bs s k ∧ pa = .int .u32 (t.a.toNat : Int) ∧ pb = .int .u32 (t.b.toNat : Int) ∧ pc = .int .u32 (t.c.toNat : Int) ∧ pd = .int .u32 (t.d.toNat : Int) ∧
        pe = .int .u32 (t.e.toNat : Int) ∧ pf = .int .u32 (t.f.toNat : Int) ∧ pg = .int .u32 (t.g.toNat : Int) ∧ ph = .int .u32 (t.h.toNat : Int) ∧ wr.rangeAt gk ok (cws KK) ∧ Blk wr g 195 (cws (sch bs 64)) ∧ Blk wr w.heap.size 180 (l8 s) ∧
        (∃ z, Blk wr (w.heap.size + 1 + 1) 180 z ∧ z.length = 8) ∧ Below w.heap.size w wr) (fun _ _ _ _ _ _ _ _ i _ => 64 - (intOf i).toNat)
    case atStart =>
      exact ⟨0, s, by omega, rfl, rfl, rfl, rfl, rfl, rfl, rfl, rfl, rfl, rfl, range_drewN HK0.out _, hW.drewN_ _, hS.drewN_ _, ⟨z, hZ.drewN_ _, hz⟩, below_drewN hnx _⟩
    case round =>
      clear c0 c1 c2 c3 c4 c5 c6 c7 HK0 hW hS hZ hz hnx
      obtain ⟨k, t, hk, rfl, ht, rfl, rfl, rfl, rfl, rfl, rfl, rfl, rfl, hK, hW, hS, ⟨z, hZ, hz⟩, hnx⟩ := hrel
      have HK := Lib.hid hK
      have Hz := Lib.hid hz
      by_cases hlt : k < 64
      · have hst : steps8 bs s (k + 1) = step8 t (KK.getD k 0) (wt bs k) := by rw [ht]; rfl
        have cK : wr.cell? ⟨gk, ok + k, none⟩ = some _ := hK k _ (KK_cell (j := k) hlt)
        have cW := hW.cell (sch_cell bs (k := 64) (j := k) hlt hlt)
        have Hst := Lib.hid (And.intro hst (And.intro hlt hk))
        clear hst ht hK hz
        generalize KK.getD k 0 = kk at *
        generalize wt bs k = ww at *
        have i0 : (0 : Int) ≤ (k : Int) := by omega
        have i1 : (k : Int) < 64 := by omega
        clear hlt hk
        go_wp2
        go_quiet ((go_at_call 192; exact Calls.quiet_of (rors_quiet _ _ _ (by omega) (by omega))))
        go_wp2_with (go_at_call 192; refine (rors_int _ _ _ (by omega) (by omega)).mono ?_; rintro e wy ⟨rfl, rfl⟩)
        go_roundw
        case rel =>
          obtain ⟨hst, hlt, hk⟩ := Hst.out
          rw [i_tee, i_uuu, w_add, w_add]
          exact ⟨k + 1, step8 t kk ww, by omega, by go_num, hst.symm, rfl, rfl, rfl, rfl, rfl, rfl, rfl, rfl, range_drewN HK.out _, hW.drewN_ _, hS.drewN_ _, ⟨z, hZ.drewN_ _, Hz.out⟩, below_drewN hnx _⟩
        case measure => simp [intOf]; omega
      · have e : k = 64 := by omega
        have hk2 : ¬ (k : Int) < 64 := by omega
        rw [e] at ht
        have c0 := hS.cell (i := 0) (v := .int .u32 (s.a.toNat : Int)) rfl
        have c1 := hS.cell (i := 1) (v := .int .u32 (s.b.toNat : Int)) rfl
        have c2 := hS.cell (i := 2) (v := .int .u32 (s.c.toNat : Int)) rfl
        have c3 := hS.cell (i := 3) (v := .int .u32 (s.d.toNat : Int)) rfl
        have c4 := hS.cell (i := 4) (v := .int .u32 (s.e.toNat : Int)) rfl
        have c5 := hS.cell (i := 5) (v := .int .u32 (s.f.toNat : Int)) rfl
        have c6 := hS.cell (i := 6) (v := .int .u32 (s.g.toNat : Int)) rfl
        have c7 := hS.cell (i := 7) (v := .int .u32 (s.h.toNat : Int)) rfl
        have heq := s8s_eq s bs
        rw [← ht] at heq
        have hth : wr.there (w.heap.size + 1 + 1) 0 8 := by
          have e := hZ.there
          rwa [Hz.out] at e
        have hR' := hZ.setAll (vs := s8s s t) (by rw [Hz.out]; rfl)
        have hnx' : Below w.heap.size w (wr.setCells (w.heap.size + 1 + 1) 0 (s8s s t)) := Below.setCells (by omega) _ hnx
        have hone : (s8s s t).toArray.all (·.oneCell') = true := by rw [heq]; exact cws_one (rnd s bs).list
        have Hone := Lib.hid hone
        clear hone
        have Heq := Lib.hid heq
        have Hth := Lib.hid hth
        have HR := Lib.hid (And.intro hR' hnx')
        clear ht hK hz e hlt hk heq hth hR' hnx' hZ hnx
        go_wp2_with (refine wpList_store_mid rfl 180 _ _ rfl (w.heap.size + 1 + 1) 0 (s8s s t).toArray rfl rfl Hth.out info8w Hone.out ?_)
        refine bodyPost_ret (results_cell_row rfl _ _ (w.heap.size + 1 + 1) 180 (s8s s t).toArray (0, 0) _ rfl HR.out.1 Tryz.underlying180 rfl info8w) rfl ?_
        refine ⟨?_, HR.out.2⟩
        rw [Heq.out]
        rfl

end Go.Proofs.YtfaeechidjpjbaaGreat

namespace Go.Proofs.YtfaeechidjpjbaaGreat

open Go.RowKit

set_option linter.unusedVariables false

def cu (l : List Nat) : List Value := List.map (fun n : Nat => Value.int .u64 (n : Int)) l

def co (l : List Bool) : List Value := l.map Value.bool

def cn (l : List Nat) : List Value := List.map (fun n : Nat => Value.int .u32 (n : Int)) l

theorem cu_len (l : List Nat) : (cu l).length = l.length := by simp [cu]

theorem co_len (l : List Bool) : (co l).length = l.length := by simp [co]

theorem cn_len (l : List Nat) : (cn l).length = l.length := by simp [cn]

theorem cu_get {l : List Nat} {i : Nat} (h : i < l.length) : (cu l)[i]? = some (.int .u64 ((l.getD i 0 : Nat) : Int)) := by
  simp [cu, List.getD, List.getElem?_eq_getElem h]

theorem cn_get {l : List Nat} {i : Nat} (h : i < l.length) : (cn l)[i]? = some (.int .u32 ((l.getD i 0 : Nat) : Int)) := by
  simp [cn, List.getD, List.getElem?_eq_getElem h]

theorem co_get {l : List Bool} {i : Nat} (h : i < l.length) : (co l)[i]? = some (.bool (l.getD i false)) := by
  simp [co, List.getD, List.getElem?_eq_getElem h]

theorem cu_set (l : List Nat) (i n : Nat) : (cu l).set i (.int .u64 (n : Int)) = cu (l.set i n) := by unfold cu; rw [List.map_set]

theorem co_set (l : List Bool) (i : Nat) (b : Bool) : (co l).set i (.bool b) = co (l.set i b) := by unfold co; rw [List.map_set]

theorem cn_set (l : List Nat) (i n : Nat) : (cn l).set i (.int .u32 (n : Int)) = cn (l.set i n) := by unfold cn; rw [List.map_set]

theorem cu_one (l : List Nat) : (cu l).toArray.all (·.oneCell') = true := by
  rw [Array.all_eq_true_iff_forall_mem]
  intro u hu
  simp [cu] at hu
  obtain ⟨x, _, rfl⟩ := hu
  rfl

theorem info64l : (Tryz.prog.info? 218).map (·.size) = some 64 := by kernel_rfl

theorem zeros64 : (cu (List.replicate 64 0)).toArray = (List.replicate 64 (Value.int .u64 0)).toArray := by unfold cu; rw [List.map_replicate]; rfl

theorem zeros312 : (co (List.replicate 312 false)).toArray = (List.replicate 312 (Value.bool false)).toArray := by unfold co; rw [List.map_replicate]

set_option maxRecDepth 100000 in
set_option maxHeartbeats 1600000 in
theorem primes_any (w : World) : Calls Tryz.prog 189 #[] w fun e w' => e = .returned (.agg (cu PP).toArray) ∧ Below w.heap.size w w' := by
  go_enter Tryz.func189, Tryz.ntmps189
  go_wp2
  go_loopw [3, 4] (fun f n wr => ∃ i : Nat, i ≤ 310 ∧ n = .int .i64 ((i + 2 : Nat) : Int) ∧ f = .int .i64 ((sv i).found : Int) ∧ Blk wr w.heap.size 218 (cu (List.replicate 64 0)) ∧
      Blk wr (w.heap.size + 1) 218 (cu (sv i).out) ∧ Blk wr (w.heap.size + 1 + 1) 221 (co (sv i).crossed) ∧ Below w.heap.size w wr) (fun _ n _ => 312 - (intOf n).toNat)
  case atStart =>
    refine ⟨0, by omega, rfl, rfl, ?_, ?_, ?_, (((Below.refl _ _).alloc (Nat.le_refl _) _).alloc (by simp) _).alloc (by simp; omega) _⟩
    · exact ((Blk.new zeros64 rfl).old _).old _
    · exact (Blk.new zeros64 (by simp)).old _
    · exact Blk.new zeros312 (by simp)
  case round =>
    obtain ⟨i, hi, rfl, rfl, hR, hO, hC, hnx⟩ := hrel
    by_cases hlt : i < 310
    · have hlen := sv_lens i
      have hsv : sv (i + 1) = (sv i).step (i + 2) := rfl
      have hfd := sv_found hlt
      have c0 := hC.cell (co_get (l := (sv i).crossed) (i := i + 2) (by omega))
      have hm1 : ((i + 2 : Nat) : Int) + 1 = ((i + 1 + 2 : Nat) : Int) := by omega
      obtain ⟨n, hn⟩ : ∃ n, n = i + 2 := ⟨_, rfl⟩
      rw [← hn] at hsv hfd c0 hm1 ⊢
      generalize sv i = s at *
      have g0 : (n : Int) ≤ 311 := by omega
      have g1 : (2 : Int) ≤ (n : Int) := by omega
      by_cases hc : s.crossed.getD n false = true
      · rw [hc] at c0
        rw [Sv.step, if_pos hc] at hsv
        have Hsv := Lib.hid (And.intro hsv (And.intro hn hm1))
        clear hsv hlen hn hfd hc hlt hi hm1
        go_wp2
        go_roundw
        case rel =>
          obtain ⟨hsv, hn, hm1⟩ := Hsv.out
          exact ⟨i + 1, by omega, by rw [hm1], by rw [hsv], hR, by rw [hsv]; exact hO, by rw [hsv]; exact hC, hnx⟩
        case measure => simp [intOf]; omega
      · have hc' : s.crossed.getD n false = false := by simpa using hc
        have hf := hfd hc'
        rw [hc'] at c0
        rw [Sv.step, if_neg hc] at hsv
        have Hsv := Lib.hid (And.intro hsv (And.intro hn (And.intro hm1 (And.intro hf hlen))))
        have d0 := hO.cell (cu_get (l := s.out) (i := s.found) (by omega))
        have f0 := hO.free s.found
        have e1 : IntKind.i64.wrap ((n : Int) * (n : Int)) = ((n * n : Nat) : Int) := by
          rw [← Int.natCast_mul]
          exact IntWalk.i64_in _ (by have : n * n ≤ 311 * 311 := Nat.mul_le_mul (by omega) (by omega); omega)
        have g2 : (s.found : Int) < 64 := by omega
        have g3 : (0 : Int) ≤ (s.found : Int) := by omega
        clear hsv hlen hn hfd hc hc' hlt hi hm1 hf
        generalize hnn : n * n = m0 at *
        have Hnn := Lib.hid hnn
        clear hnn
        go_wp2
        have hO' := hO.set_ s.found (.int .u64 (n : Int))
        rw [cu_set] at hO'
        have hR' : Blk (wr.setCell ⟨w.heap.size + 1, s.found, none⟩ (.int .u64 (n : Int))) w.heap.size 218 (cu (List.replicate 64 0)) := hR.far (by dsimp only; omega) _
        have hC' : Blk (wr.setCell ⟨w.heap.size + 1, s.found, none⟩ (.int .u64 (n : Int))) (w.heap.size + 1 + 1) 221 (co s.crossed) := hC.far (by dsimp only; omega) _
        have hnx' : Below w.heap.size w (wr.setCell ⟨w.heap.size + 1, s.found, none⟩ (.int .u64 (n : Int))) := hnx.setCell (by dsimp only; omega) _
        clear c0 d0 f0 hO hR hC hnx
        generalize wr.setCell ⟨w.heap.size + 1, s.found, none⟩ (.int .u64 (n : Int)) = wo at *
        go_loopw [5] (fun m wr => ∃ (f k : Nat) (C : List Bool), m = .int .i64 (k : Int) ∧ 312 ≤ k + f ∧ 0 < k ∧ C.length = 312 ∧ crossF 312 n m0 s.crossed = crossF f n k C ∧ Blk wr w.heap.size 218 (cu (List.replicate 64 0)) ∧
          Blk wr (w.heap.size + 1) 218 (cu (s.out.set s.found n)) ∧ Blk wr (w.heap.size + 1 + 1) 221 (co C) ∧ Below w.heap.size w wr) (fun m _ => 1000 - (intOf m).toNat)
        case atStart =>
          obtain ⟨hsv, hn, hm1, hf, hlen⟩ := Hsv.out
          have hm0 := Hnn.out
          have h2n : 2 * 2 ≤ n * n := Nat.mul_le_mul (by omega) (by omega)
          exact ⟨312, m0, s.crossed, rfl, by omega, by omega, hlen.2, rfl, hR', hO', hC', hnx'⟩
        case round =>
          clear hR' hO' hC' hnx'
          obtain ⟨f, k, C, rfl, hk, hk0, hCl, hX, hR, hO, hC, hnx⟩ := hrel
          by_cases hkl : k ≤ 311
          · obtain ⟨f', rfl⟩ : ∃ f', f = f' + 1 := ⟨f - 1, by omega⟩
            rw [crossF_step hkl] at hX
            have c0 := hC.cell (co_get (l := C) (i := k) (by omega))
            have f0 := hC.free k
            have g2 : (k : Int) ≤ 311 := by omega
            have g3 : (0 : Int) ≤ (k : Int) := by omega
            have HX := Lib.hid (And.intro hX (And.intro hk (And.intro hCl hk0)))
            have hadd : (k : Int) + (n : Int) = ((k + n : Nat) : Int) := by omega
            have Hadd := Lib.hid hadd
            clear hX hk hkl hCl hadd hk0
            go_wp2
            go_roundw
            case rel =>
              obtain ⟨hX, hk, hCl, hk0⟩ := HX.out
              have hs := hC.set_ k (.bool true)
              rw [co_set] at hs
              exact ⟨f', k + n, C.set k true, by first | rw [Hadd.out] | go_num, by omega, by omega, by rw [List.length_set]; exact hCl, hX, hR.far (by dsimp only; omega) _, hO.far (by dsimp only; omega) _, hs, hnx.setCell (by dsimp only; omega) _⟩
            case measure => simp [intOf]; omega
          · have hend : crossF f n k C = C := crossF_end (by omega)
            rw [hend] at hX
            clear hend
            have HX := Lib.hid hX
            have g2 : ¬ (k : Int) ≤ 311 := by omega
            clear hX hk hkl
            go_wp2
            go_roundw
            case rel =>
              obtain ⟨hsv, hn, hm1, hf, hlen⟩ := Hsv.out
              rw [HX.out] at hsv
              refine ⟨i + 1, by omega, by rw [hm1], by rw [hsv]; first | rfl | go_num, hR, by rw [hsv]; exact hO, by rw [hsv]; exact hC, hnx⟩
            case measure => simp [intOf]; omega
    · have e : i = 310 := by omega
      subst e
      rw [sv_end] at hO
      have hi : (Tryz.prog.info? 218).map (·.size) = some (cu PP).toArray.size := info64l
      have hth : wr.there w.heap.size 0 (cu PP).toArray.size := by
        have e := hR.there
        rwa [cu_len, List.length_replicate] at e
      have hR' := hR.setAll (vs := cu PP) (by rw [cu_len, cu_len, List.length_replicate]; rfl)
      have hnx' : Below w.heap.size w (wr.setCells w.heap.size 0 (cu PP)) := Below.setCells (Nat.le_refl _) _ hnx
      have Hi := Lib.hid hi
      have Hth := Lib.hid hth
      have Hone := Lib.hid (cu_one PP)
      have g2 : ¬ ((310 + 2 : Nat) : Int) ≤ 311 := by omega
      clear hi hth hC hR hnx hlt
      generalize hvs : cu PP = vs at *
      have Hvs := Lib.hid hvs
      clear hvs
      go_wp2_with (first
        | refine wpList_load_row rfl 218 _ rfl (w.heap.size + 1) rfl 218 vs.toArray (0, 0) _ hO Tryz.underlying218 rfl Hi.out ?_
        | refine wpList_store_mid rfl 218 _ _ rfl w.heap.size 0 vs.toArray rfl rfl Hth.out Hi.out Hone.out ?_)
      exact bodyPost_ret (results_cell_row rfl _ _ w.heap.size 218 vs.toArray (0, 0) _ rfl hR' Tryz.underlying218 rfl Hi.out) rfl ⟨by rw [Hvs.out], hnx'⟩

end Go.Proofs.YtfaeechidjpjbaaGreat

namespace Go.Proofs.YtfaeechidjpjbaaGreat

open Go.RowKit

set_option linter.unusedVariables false

theorem zeros64w : (cn (List.replicate 64 0)).toArray = (List.replicate 64 (Value.int .u32 0)).toArray := by unfold cn; rw [List.map_replicate]; rfl

theorem cn_cws (l : List UInt32) : cn (l.map UInt32.toNat) = cws l := by unfold cn cws; rw [List.map_map]; rfl

theorem rt_lens (i : Nat) : (rtS i).out.length = 64 := by
  induction i with
  | zero => exact List.length_replicate
  | succ i ih => rw [rtS]; simp only [List.length_set]; exact ih

theorem PP_small : ∀ x ∈ PP, x ≤ 311 := by decide

theorem PP_at (i : Nat) (h : i < 64) : PP.getD i 0 ≤ 311 := by
  have hl : i < PP.length := h
  rw [List.getD_eq_getElem?_getD, List.getElem?_eq_getElem hl]
  exact PP_small _ (List.getElem_mem hl)

theorem newt_le (f p : Nat) : ∀ x, newt f p x ≤ x := by
  induction f with
  | zero => intro x; exact Nat.le_refl _
  | succ f ih =>
    intro x
    rw [newt]
    split
    · exact Nat.le_trans (ih _) (Nat.le_trans (by rw [nxt_stp]; exact Nat.min_le_right _ _) (Nat.sub_le _ _))
    · exact Nat.le_refl _

theorem rt_small (i : Nat) : (rtS i).root ≤ 30064771072 := by
  induction i with
  | zero => exact Nat.le_refl _
  | succ i ih => rw [rtS]; exact Nat.le_trans (newt_le _ _ _) ih

set_option maxRecDepth 100000 in
set_option maxHeartbeats 1600000 in
theorem cubes_any (w : World) : Calls Tryz.prog 180 #[] w fun e w' => e = .returned (.agg (cws KK).toArray) ∧ Below w.heap.size w w' := by
  have hi64 : (Tryz.prog.info? 218).map (·.size) = some (cu PP).toArray.size := info64l
  have Hi64 := Lib.hid hi64
  have Hone := Lib.hid (cu_one PP)
  clear hi64
  obtain ⟨vs, hvs⟩ : ∃ vs, vs = cu PP := ⟨_, rfl⟩
  have hpr : ∀ w, Calls Tryz.prog 189 #[] w fun e w' => e = .returned (.agg vs.toArray) ∧ Below w.heap.size w w' := by rw [hvs]; exact primes_any
  have Hpr := Lib.hid hpr
  have hl64 : vs.length = 64 := by rw [hvs]; rfl
  have hz64 : (cu PP) = vs := hvs.symm
  rw [hz64] at Hi64 Hone
  have Hl := Lib.hid (And.intro hl64 hvs)
  clear hpr hl64 hvs hz64
  go_enter Tryz.func180, Tryz.ntmps180
  go_wp2_with fail
  refine (Hpr.out _).mono ?_
  rintro e w1 ⟨rfl, b1⟩
  have g1 := b1.size
  simp only [World.size_alloc] at g1
  have hR1 : Blk w1 w.heap.size 195 (cn (List.replicate 64 0)) := Blk.below ((Blk.new zeros64w rfl).old _) b1 (by simp; omega)
  have hO1 : Blk w1 (w.heap.size + 1) 195 (cn (List.replicate 64 0)) := Blk.below (Blk.new zeros64w (by simp)) b1 (by simp)
  have hnx1 : Below w.heap.size w w1 := (((Below.refl _ _).alloc (Nat.le_refl _) _).alloc (by simp) _).trans (b1.mono (by simp; omega))
  have hZ : Blk (w1.alloc (.cells (List.replicate 64 (Value.int .u64 0)).toArray 218)) w1.heap.size 218 (cu (List.replicate 64 0)) := Blk.new zeros64 rfl
  have hth : (w1.alloc (.cells (List.replicate 64 (Value.int .u64 0)).toArray 218)).there w1.heap.size 0 vs.toArray.size := by
    have e := hZ.there
    rw [cu_len, List.length_replicate] at e
    have hsz : vs.toArray.size = 64 := by rw [List.size_toArray]; exact Hl.out.1
    rw [hsz]
    exact e
  have Hth := Lib.hid hth
  have hA := hZ.setAll (vs := vs) (by rw [cu_len, List.length_replicate]; exact Hl.out.1)
  clear hth b1 hZ
  go_wp2_with (refine wpList_store_mid rfl 218 _ _ rfl w1.heap.size 0 vs.toArray rfl rfl Hth.out Hi64.out Hone.out ?_)
  go_loopw [2, 4] (fun r i wr => ∃ j : Nat, j ≤ 64 ∧ i = .int .i64 (63 - (j : Int)) ∧ r = .int .u64 ((rtS j).root : Int) ∧ Blk wr w.heap.size 195 (cn (List.replicate 64 0)) ∧
      Blk wr (w.heap.size + 1) 195 (cn (rtS j).out) ∧ Blk wr w1.heap.size 218 vs ∧ Below w.heap.size w wr) (fun _ i _ => (intOf i + 1).toNat)
  case atStart =>
    exact ⟨0, by omega, rfl, rfl, Blk.farAll (by omega) vs (hR1.old _), Blk.farAll (by omega) vs (hO1.old _), hA, Below.setCells (by omega) vs (hnx1.alloc (by omega) _)⟩
  case round =>
    clear hR1 hO1 hnx1 hA
    obtain ⟨j, hj, rfl, rfl, hR, hO, hA, hnx⟩ := hrel
    by_cases hlt : j < 64
    · obtain ⟨k, hk⟩ : ∃ k, j + k = 63 := ⟨63 - j, by omega⟩
      have hik : (63 : Int) - (j : Int) = (k : Int) := by omega
      rw [hik]
      have hrt : rtS (j + 1) = ⟨newt 16 (PP.getD (63 - j) 0) (rtS j).root, (rtS j).out.set (63 - j) (newt 16 (PP.getD (63 - j) 0) (rtS j).root % 4294967296)⟩ := rfl
      have hok := rtS_ok hlt
      rw [show 63 - j = k from by omega] at hrt hok
      have hlen := rt_lens j
      have c0 := hA.cell (i := k) (v := .int .u64 ((PP.getD k 0 : Nat) : Int)) (by rw [Hl.out.2]; exact cu_get (l := PP) (i := k) (by show k < 64; omega))
      have d0 := hO.cell (cn_get (l := (rtS j).out) (i := k) (by omega))
      have f0 := hO.free k
      have hsm := rt_small j
      have hro := fun w => root_any (PP.getD k 0) (rtS j).root 16 w hok (PP_at k (by omega)) (by omega)
      have hrl : newt 16 (PP.getD k 0) (rtS j).root ≤ 30064771072 := Nat.le_trans (newt_le _ _ _) hsm
      generalize rtS j = s at *
      generalize PP.getD k 0 = p at *
      generalize newt 16 p s.root = r at *
      have e1 : IntKind.u32.wrap (r : Int) = ((r % 4294967296 : Nat) : Int) := by rw [IntKind.wrap_u32]; omega
      have g2 : (k : Int) < 64 := by omega
      have g3 : (0 : Int) ≤ (k : Int) := by omega
      have Hro := Lib.hid hro
      have Hrt := Lib.hid (And.intro hrt (And.intro hk (And.intro hik (And.intro hlen hrl))))
      clear hro hrt hk hik hlen hrl hok hsm hj hlt
      go_wp2_with fail
      refine (Hro.out _).mono ?_
      rintro e w2 ⟨rfl, rfl⟩
      go_wp2
      go_roundw
      case rel =>
        obtain ⟨hrt, hk, hik, hlen, hrl⟩ := Hrt.out
        have hs := hO.set_ k (.int .u32 ((r % 4294967296 : Nat) : Int))
        rw [cn_set] at hs
        refine ⟨j + 1, by omega, ?_, by rw [hrt], hR.far (by dsimp only; omega) _, by rw [hrt]; exact hs, hA.far (by dsimp only; omega) _, hnx.setCell (by dsimp only; omega) _⟩
        congr 1
        omega
      case measure => simp [intOf]
    · have e : j = 64 := by omega
      subst e
      rw [rt_end, cn_cws] at hO
      have hi : (Tryz.prog.info? 195).map (·.size) = some (cws KK).toArray.size := by rw [info64w, KK_size]
      have hth : wr.there w.heap.size 0 (cws KK).toArray.size := by
        have e := hR.there
        rw [cn_len, List.length_replicate] at e
        rw [KK_size]; exact e
      have hR' := hR.setAll (vs := cws KK) (by rw [cn_len, cws_length, List.length_replicate]; rfl)
      have hnx' : Below w.heap.size w (wr.setCells w.heap.size 0 (cws KK)) := Below.setCells (Nat.le_refl _) _ hnx
      have Hi := Lib.hid hi
      have Hth := Lib.hid hth
      have Hk := Lib.hid (cws_one KK)
      clear hi hth hA hR hnx hlt hj
      generalize hvs : cws KK = ks at *
      have Hvs := Lib.hid hvs
      clear hvs
      go_wp2_with (first
        | refine wpList_load_row rfl 195 _ rfl (w.heap.size + 1) rfl 195 ks.toArray (0, 0) _ hO Tryz.underlying195 rfl Hi.out ?_
        | refine wpList_store_mid rfl 195 _ _ rfl w.heap.size 0 ks.toArray rfl rfl Hth.out Hi.out Hk.out ?_)
      exact bodyPost_ret (results_cell_row rfl _ _ w.heap.size 195 ks.toArray (0, 0) _ rfl hR' Tryz.underlying195 rfl Hi.out) rfl ⟨by rw [Hvs.out], hnx'⟩

end Go.Proofs.YtfaeechidjpjbaaGreat

namespace Go.Proofs.YtfaeechidjpjbaaGreat

set_option linter.unusedVariables false

theorem eat_append (n : Nat) : ∀ (s : S8) (l m : List UInt8), 64 * n ≤ l.length → eat s n (l ++ m) = eat s n l := by
  induction n with
  | zero => intro s l m _; rfl
  | succ n ih =>
    intro s l m h
    rw [eat, eat, List.take_append_of_le_length (by omega), List.drop_append_of_le_length (by omega)]
    exact ih _ _ _ (by rw [List.length_drop]; omega)

theorem eat_add (n k : Nat) : ∀ (s : S8) (l : List UInt8), eat s (n + k) l = eat (eat s n l) k (l.drop (64 * n)) := by
  induction n with
  | zero => intro s l; simp [eat]
  | succ n ih =>
    intro s l
    rw [show n + 1 + k = (n + k) + 1 from by omega, eat, eat, ih, List.drop_drop]
    congr 2; omega

/-- The state behind all whole blocks. -/
def whole (l : List UInt8) : S8 := eat S8.first (l.length / 64) l

/-- The bytes that are no whole block yet. -/
def left (l : List UInt8) : List UInt8 := l.drop (64 * (l.length / 64))

theorem left_len (l : List UInt8) : (left l).length = l.length % 64 := by unfold left; rw [List.length_drop]; omega

theorem whole_nil : whole [] = S8.first := rfl

theorem left_nil : left [] = [] := rfl

theorem split_left (l : List UInt8) : l.take (64 * (l.length / 64)) ++ left l = l := List.take_append_drop _ _

theorem whole_in (l c : List UInt8) (h : l.length % 64 + c.length < 64) : whole (l ++ c) = whole l ∧ left (l ++ c) = left l ++ c := by
  have e : (l ++ c).length / 64 = l.length / 64 := by rw [List.length_append]; omega
  unfold whole left
  rw [e, eat_append _ _ _ _ (by omega), List.drop_append_of_le_length (by omega)]
  exact ⟨rfl, rfl⟩

theorem whole_full (l c : List UInt8) (h : l.length % 64 + c.length = 64) : whole (l ++ c) = rnd (whole l) (left l ++ c) ∧ left (l ++ c) = [] := by
  have e : (l ++ c).length / 64 = l.length / 64 + 1 := by rw [List.length_append]; omega
  unfold whole left
  rw [e, eat_add, eat_append _ _ _ _ (by omega), List.drop_append_of_le_length (by omega)]
  refine ⟨?_, ?_⟩
  · rw [eat, eat, List.take_of_length_le (by simp; omega)]
  · rw [List.drop_eq_nil_iff]; rw [List.length_append]; omega

theorem be8_len (n : Nat) : (be8 n).length = 8 := by simp [be8]

/-- The last one or two blocks. -/
def last (l : List UInt8) : List UInt8 := left l ++ (128 :: (List.replicate (gap l.length) 0 ++ be8 (8 * l.length)))

theorem last_len (l : List UInt8) : (last l).length = if l.length % 64 < 56 then 64 else 128 := by
  unfold last gap
  simp only [List.length_append, List.length_cons, List.length_replicate, be8_len, left_len]
  split <;> omega

theorem pad_len (l : List UInt8) : (pad l).length / 64 = l.length / 64 + (last l).length / 64 := by
  have : (pad l).length = 64 * (l.length / 64) + (last l).length := by
    unfold pad last
    simp only [List.length_append, List.length_cons, List.length_replicate, be8_len, left_len]
    omega
  rw [this]
  rw [last_len]
  split <;> omega

theorem digest_last (l : List UInt8) : digest l = (eat (whole l) ((last l).length / 64) (last l)).bytes := by
  unfold digest
  rw [pad_len, eat_add]
  congr 2
  · unfold whole pad
    exact eat_append _ _ _ _ (by omega)
  · unfold pad last left
    rw [List.drop_append_of_le_length (by omega)]

theorem eat_one (s : S8) (l : List UInt8) : eat s 1 l = rnd s (l.take 64) := rfl

theorem eat_two (s : S8) (l : List UInt8) : eat s 2 l = rnd (rnd s (l.take 64)) ((l.drop 64).take 64) := rfl

end Go.Proofs.YtfaeechidjpjbaaGreat
