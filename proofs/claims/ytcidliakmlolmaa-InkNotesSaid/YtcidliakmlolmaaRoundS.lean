/-
  The program's round over this seat's translation.
-/
import Derived.Test.YtcidliakmlolmaaSchedS
import Derived.Test.YtcidliakmlolmaaRnd
import Derived.Outline
namespace Go.Proofs.Ytcidliakmlolmaa
open Go.RowKit
set_option linter.unusedVariables false

theorem i_uuu (t : S8) : ((bits .xor .u32 (bits .xor .u32 ((rotr t.a 2).toNat : Int) ((rotr t.a 13).toNat : Int)) ((rotr t.a 22).toNat : Int) +
      bits .xor .u32 (bits .xor .u32 (bits .and .u32 (t.a.toNat : Int) (t.b.toNat : Int)) (bits .and .u32 (t.a.toNat : Int) (t.c.toNat : Int))) (bits .and .u32 (t.b.toNat : Int) (t.c.toNat : Int))) % 4294967296) = ((uuu t).toNat : Int) := by
  rw [w_xor, w_xor, w_and, w_and, w_and, w_xor, w_xor, w_add]; rfl

theorem Blk.drewN_ {w : World} {g : Nat} {t : TypeId} {cs : List Value} (h : Blk w g t cs) (n : Nat) : Blk (w.drewN n) g t cs := h
theorem range_drewN {w : World} {b o : Nat} {cs : List Value} (h : w.rangeAt b o cs) (n : Nat) : (w.drewN n).rangeAt b o cs := fun j v hv => h j v hv

def s8s (s t : S8) : List Value := [.int .u32 (((s.a.toNat : Int) + (t.a.toNat : Int)) % 4294967296), .int .u32 (((s.b.toNat : Int) + (t.b.toNat : Int)) % 4294967296), .int .u32 (((s.c.toNat : Int) + (t.c.toNat : Int)) % 4294967296), .int .u32 (((s.d.toNat : Int) + (t.d.toNat : Int)) % 4294967296), .int .u32 (((s.e.toNat : Int) + (t.e.toNat : Int)) % 4294967296), .int .u32 (((s.f.toNat : Int) + (t.f.toNat : Int)) % 4294967296), .int .u32 (((s.g.toNat : Int) + (t.g.toNat : Int)) % 4294967296), .int .u32 (((s.h.toNat : Int) + (t.h.toNat : Int)) % 4294967296)]
theorem s8s_eq (s : S8) (bs : List UInt8) : s8s s (steps8 bs s 64) = l8 (rnd s bs) := by
  unfold s8s rnd S8.add l8
  simp only [w_add, UInt32.add_comm]

set_option maxRecDepth 100000 in
set_option maxHeartbeats 3200000 in
theorem rounds_any (s : S8) (bs : List UInt8) (gk ok : Nat) (w : World) (hl : bs.length = 64) (hk : w.rangeAt gk ok (cws KK)) :
    Calls Try.prog 44 #[v8 s, .agg (cbs bs).toArray, .pointer (some ⟨gk, ok, none⟩)] w fun e w' => e = .returned (v8 (rnd s bs)) ∧ Below w.heap.size w w' := by
  have hgk : gk < w.heap.size := World.block_lt_of_cell? w _ (hk 0 _ (KK_cell (j := 0) (by decide)))
  have Hl := Lib.hid hl
  have Hk := Lib.hid hk
  have hv : v8 s = .agg #[.int .u32 (s.a.toNat : Int), .int .u32 (s.b.toNat : Int), .int .u32 (s.c.toNat : Int), .int .u32 (s.d.toNat : Int), .int .u32 (s.e.toNat : Int), .int .u32 (s.f.toNat : Int), .int .u32 (s.g.toNat : Int), .int .u32 (s.h.toNat : Int)] := rfl
  rw [hv]
  clear hv hl hk
  have hi : (Try.prog.info? 63).map (·.size) = some (cbs bs).toArray.size := by
    rw [List.size_toArray, cbs_length, Hl.out]; kernel_rfl
  have Hi := Lib.hid hi
  clear hi
  have hB1 : Blk (((w.alloc (.cells #[.int .u32 (s.a.toNat : Int), .int .u32 (s.b.toNat : Int), .int .u32 (s.c.toNat : Int), .int .u32 (s.d.toNat : Int), .int .u32 (s.e.toNat : Int), .int .u32 (s.f.toNat : Int), .int .u32 (s.g.toNat : Int), .int .u32 (s.h.toNat : Int)] 61)).alloc (.cells (cbs bs).toArray 63)).alloc (.cells #[.int .u32 0, .int .u32 0, .int .u32 0, .int .u32 0, .int .u32 0, .int .u32 0, .int .u32 0, .int .u32 0] 61)) (w.heap.size + 1) 63 (cbs bs) := (Blk.new rfl (by simp)).old _
  have HB1 := Lib.hid hB1
  clear hB1
  go_enter Try.func44, Try.ntmps44
  go_upto_region 1 with fail
  go_cut [7] (fun p wx => ∃ g : Nat, p = .pointer (some ⟨g, 0, none⟩) ∧ w.heap.size + 2 < g ∧ Blk wx g 75 (cws (sch bs 64)) ∧ Blk wx w.heap.size 61 (l8 s) ∧
      (∃ z, Blk wx (w.heap.size + 1 + 1) 61 z ∧ z.length = 8) ∧ Below w.heap.size w wx)
  case first =>
    go_wp2_with (refine wpList_load_row rfl 63 _ rfl (w.heap.size + 1) rfl 63 (cbs bs).toArray (0, 0) _ HB1.out Try.underlying63 rfl Hi.out ?_)
    refine (scheds_any bs _ Hl.out).mono ?_
    rintro e w1 ⟨rfl, b1⟩
    have g1 := b1.size
    simp only [World.size_alloc] at g1
    have hS1 : Blk w1 w.heap.size 61 (l8 s) := Blk.below (((Blk.new rfl rfl).old _).old _) b1 (by simp; omega)
    have hZ1 : Blk w1 (w.heap.size + 1 + 1) 61 (l8 ⟨0, 0, 0, 0, 0, 0, 0, 0⟩) := Blk.below (Blk.new rfl (by simp)) b1 (by simp)
    have hnx1 : Below w.heap.size w w1 := ((((Below.refl _ _).alloc (Nat.le_refl _) _).alloc (by simp) _).alloc (by simp; omega) _).trans (b1.mono (by simp; omega))
    have hW0 : Blk (w1.alloc (.cells (List.replicate 64 (Value.int .u32 0)).toArray 75)) w1.heap.size 75 zero64 := Blk.new rfl rfl
    have hws : (cws (sch bs 64)).toArray.size = 64 := sch_size bs 64
    have hth : (w1.alloc (.cells (List.replicate 64 (Value.int .u32 0)).toArray 75)).there w1.heap.size 0 (cws (sch bs 64)).toArray.size := by
      rw [hws]
      exact ZB.there_ hW0 rfl
    have hi2 : (Try.prog.info? 75).map (·.size) = some (cws (sch bs 64)).toArray.size := by rw [hws, info64w]
    have hW := hW0.setAll (vs := cws (sch bs 64)) (by rw [cws_length, sch_len]; rfl)
    have hS2 := Blk.farAll (g' := w1.heap.size) (by omega) (cws (sch bs 64)) (w := w1.alloc (.cells (List.replicate 64 (Value.int .u32 0)).toArray 75)) (o := 0) (hS1.old _)
    have hZ2 := Blk.farAll (g' := w1.heap.size) (by omega) (cws (sch bs 64)) (w := w1.alloc (.cells (List.replicate 64 (Value.int .u32 0)).toArray 75)) (o := 0) (hZ1.old _)
    have hnx2 : Below w.heap.size w ((w1.alloc (.cells (List.replicate 64 (Value.int .u32 0)).toArray 75)).setCells w1.heap.size 0 (cws (sch bs 64))) := Below.setCells (by omega) _ (hnx1.alloc (by omega) _)
    have Hth := Lib.hid hth
    have Hi2 := Lib.hid hi2
    have Hone := Lib.hid (cws_one (sch bs 64))
    have HW := Lib.hid (And.intro hW (And.intro hS2 (And.intro hZ2 hnx2)))
    clear hS1 hZ1 hnx1 hW0 hws hth hi2 b1 hW hS2 hZ2 hnx2
    go_wp2_with (refine wpList_store_mid rfl 75 _ _ rfl w1.heap.size 0 (cws (sch bs 64)).toArray rfl rfl Hth.out Hi2.out Hone.out ?_)
    go_meet
    exact ⟨w1.heap.size, rfl, by omega, HW.out.1, HW.out.2.1, ⟨_, HW.out.2.2.1, rfl⟩, HW.out.2.2.2⟩
  case rest =>
    obtain ⟨g, rfl, hg, hW, hS, ⟨z, hZ, hz⟩, hnx⟩ := hcut
    have hK0 : wc.rangeAt gk ok (cws KK) := fun j v hv => (hnx.cell (p := ⟨gk, ok + j, none⟩) hgk).trans (Hk.out j v hv)
    have HK0 := Lib.hid hK0
    clear hK0
    have c0 := hS.cell (i := 0) (v := .int .u32 (s.a.toNat : Int)) rfl
    have c1 := hS.cell (i := 1) (v := .int .u32 (s.b.toNat : Int)) rfl
    have c2 := hS.cell (i := 2) (v := .int .u32 (s.c.toNat : Int)) rfl
    have c3 := hS.cell (i := 3) (v := .int .u32 (s.d.toNat : Int)) rfl
    have c4 := hS.cell (i := 4) (v := .int .u32 (s.e.toNat : Int)) rfl
    have c5 := hS.cell (i := 5) (v := .int .u32 (s.f.toNat : Int)) rfl
    have c6 := hS.cell (i := 6) (v := .int .u32 (s.g.toNat : Int)) rfl
    have c7 := hS.cell (i := 7) (v := .int .u32 (s.h.toNat : Int)) rfl
    go_wp2
    go_quiet (fail)
    go_wp2
    go_loopw [8, 9, 10, 11, 12, 13, 14, 15, 37] (fun pa pb pc pd pe pf pg ph i wr => ∃ (k : Nat) (t : S8), k ≤ 64 ∧ i = .int .i64 k ∧ t = steps8 bs s k ∧ pa = .int .u32 (t.a.toNat : Int) ∧ pb = .int .u32 (t.b.toNat : Int) ∧ pc = .int .u32 (t.c.toNat : Int) ∧ pd = .int .u32 (t.d.toNat : Int) ∧
        pe = .int .u32 (t.e.toNat : Int) ∧ pf = .int .u32 (t.f.toNat : Int) ∧ pg = .int .u32 (t.g.toNat : Int) ∧ ph = .int .u32 (t.h.toNat : Int) ∧ wr.rangeAt gk ok (cws KK) ∧ Blk wr g 75 (cws (sch bs 64)) ∧ Blk wr w.heap.size 61 (l8 s) ∧
        (∃ z, Blk wr (w.heap.size + 1 + 1) 61 z ∧ z.length = 8) ∧ Below w.heap.size w wr) (fun _ _ _ _ _ _ _ _ i _ => 64 - (intOf i).toNat)
    case atStart =>
      exact ⟨0, s, by omega, rfl, rfl, rfl, rfl, rfl, rfl, rfl, rfl, rfl, rfl, range_drewN HK0.out _, hW.drewN_ _, hS.drewN_ _, ⟨z, hZ.drewN_ _, hz⟩, below_drewN hnx _⟩
    case round =>
      clear c0 c1 c2 c3 c4 c5 c6 c7 HK0 hW hS hZ hz hnx
      obtain ⟨k, t, hk, rfl, ht, rfl, rfl, rfl, rfl, rfl, rfl, rfl, rfl, hK, hW, hS, ⟨z, hZ, hz⟩, hnx⟩ := hrel
      have HK := Lib.hid hK
      have Hz := Lib.hid hz
      by_cases hlt : k < 64
      · have hst : steps8 bs s (k + 1) = step8 t (KK.getD k 0) (wt bs k) := by rw [ht]; rfl
        have cK : wr.cell? ⟨gk, ok + k, none⟩ = some _ := hK k _ (KK_cell (j := k) hlt)
        have cW := hW.cell (sch_cell bs (k := 64) (j := k) hlt hlt)
        have Hst := Lib.hid (And.intro hst (And.intro hlt hk))
        clear hst ht hK hz
        generalize KK.getD k 0 = kk at *
        generalize wt bs k = ww at *
        have i0 : (0 : Int) ≤ (k : Int) := by omega
        have i1 : (k : Int) < 64 := by omega
        clear hlt hk
        go_wp2
        go_quiet ((go_at_call 50; exact Calls.quiet_of (rors_quiet _ _ _ (by omega) (by omega))))
        go_wp2_with (go_at_call 50; refine (rors_int _ _ _ (by omega) (by omega)).mono ?_; rintro e wy ⟨rfl, rfl⟩)
        go_roundw
        case rel =>
          obtain ⟨hst, hlt, hk⟩ := Hst.out
          rw [i_tee, i_uuu, w_add, w_add]
          exact ⟨k + 1, step8 t kk ww, by omega, by go_num, hst.symm, rfl, rfl, rfl, rfl, rfl, rfl, rfl, rfl, range_drewN HK.out _, hW.drewN_ _, hS.drewN_ _, ⟨z, hZ.drewN_ _, Hz.out⟩, below_drewN hnx _⟩
        case measure => simp [intOf]; omega
      · have e : k = 64 := by omega
        have hk2 : ¬ (k : Int) < 64 := by omega
        rw [e] at ht
        have c0 := hS.cell (i := 0) (v := .int .u32 (s.a.toNat : Int)) rfl
        have c1 := hS.cell (i := 1) (v := .int .u32 (s.b.toNat : Int)) rfl
        have c2 := hS.cell (i := 2) (v := .int .u32 (s.c.toNat : Int)) rfl
        have c3 := hS.cell (i := 3) (v := .int .u32 (s.d.toNat : Int)) rfl
        have c4 := hS.cell (i := 4) (v := .int .u32 (s.e.toNat : Int)) rfl
        have c5 := hS.cell (i := 5) (v := .int .u32 (s.f.toNat : Int)) rfl
        have c6 := hS.cell (i := 6) (v := .int .u32 (s.g.toNat : Int)) rfl
        have c7 := hS.cell (i := 7) (v := .int .u32 (s.h.toNat : Int)) rfl
        have heq := s8s_eq s bs
        rw [← ht] at heq
        have hth : wr.there (w.heap.size + 1 + 1) 0 8 := by
          have e := hZ.there
          rwa [Hz.out] at e
        have hR' := hZ.setAll (vs := s8s s t) (by rw [Hz.out]; rfl)
        have hnx' : Below w.heap.size w (wr.setCells (w.heap.size + 1 + 1) 0 (s8s s t)) := Below.setCells (by omega) _ hnx
        have hone : (s8s s t).toArray.all (·.oneCell') = true := by rw [heq]; exact cws_one (rnd s bs).list
        have Hone := Lib.hid hone
        clear hone
        have Heq := Lib.hid heq
        have Hth := Lib.hid hth
        have HR := Lib.hid (And.intro hR' hnx')
        clear ht hK hz e hlt hk heq hth hR' hnx' hZ hnx
        go_wp2_with (refine wpList_store_mid rfl 61 _ _ rfl (w.heap.size + 1 + 1) 0 (s8s s t).toArray rfl rfl Hth.out info8w Hone.out ?_)
        refine bodyPost_ret (results_cell_row rfl _ _ (w.heap.size + 1 + 1) 61 (s8s s t).toArray (0, 0) _ rfl HR.out.1 Try.underlying61 rfl info8w) rfl ?_
        refine ⟨?_, HR.out.2⟩
        rw [Heq.out]
        rfl
end Go.Proofs.Ytcidliakmlolmaa
