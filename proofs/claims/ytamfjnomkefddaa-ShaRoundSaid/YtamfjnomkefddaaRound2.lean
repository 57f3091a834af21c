/-
  The program's Round, over the code.
-/
import Derived.Test.YtamfjnomkefddaaApi
import Derived.Deep.DeepCutAuto
namespace Go.Proofs.Ytamfjnomkefddaa
open Go.RowKit
set_option linter.unusedVariables false

theorem v8_lit (s : S8) : v8 s = .agg #[.int .u32 (s.a.toNat : Int), .int .u32 (s.b.toNat : Int), .int .u32 (s.c.toNat : Int), .int .u32 (s.d.toNat : Int), .int .u32 (s.e.toNat : Int), .int .u32 (s.f.toNat : Int), .int .u32 (s.g.toNat : Int), .int .u32 (s.h.toNat : Int)] := rfl

set_option maxRecDepth 100000 in
set_option maxHeartbeats 1600000 in
theorem bigRound_any (s : S8) (bs : List UInt8) (w : World) (hl : bs.length = 64) :
    Calls Try.prog 32 #[v8 s, .agg (cbs bs).toArray] w fun e w' => e = .returned (v8 (rnd s bs)) ∧ Below w.heap.size w w' := by
  obtain ⟨r8, hr8, hr8l, hr8o⟩ : ∃ r8 : List Value, v8 (rnd s bs) = .agg r8.toArray ∧ r8.length = 8 ∧ r8.toArray.all (·.oneCell') = true := ⟨l8 (rnd s bs), rfl, rfl, cws_one (rnd s bs).list⟩
  have hro := fun gk W (h : W.rangeAt gk 0 (cws KK)) => rounds_any s bs gk 0 W hl h
  rw [hr8] at hro ⊢
  have Hro := Lib.hid hro
  have Hr8 := Lib.hid (And.intro hr8l hr8o)
  have Hl := Lib.hid hl
  obtain ⟨kk, hkk, hkl, hko⟩ : ∃ kk : List Value, cws KK = kk ∧ kk.length = 64 ∧ kk.toArray.all (·.oneCell') = true := ⟨cws KK, rfl, by rw [cws_length, KK_len], cws_one KK⟩
  have hcu : ∀ w, Calls Try.prog 47 #[] w fun e w' => e = .returned (.agg kk.toArray) ∧ Below w.heap.size w w' := by rw [← hkk]; exact cubes_any
  have Hcu := Lib.hid hcu
  have Hkk := Lib.hid (And.intro hkk (And.intro hkl hko))
  rw [v8_lit]
  clear hro hr8 hr8l hr8o hl hcu hkk hkl hko
  go_enter Try.func32, Try.ntmps32
  go_upto_region 1 with fail
  go_cut [5] (fun p wx => ∃ gk : Nat, p = .pointer (some ⟨gk, 0, none⟩) ∧ Blk wx gk 70 kk ∧ Blk wx w.heap.size 53 (l8 s) ∧ Blk wx (w.heap.size + 1) 54 (cbs bs) ∧ Blk wx (w.heap.size + 1 + 1) 53 (l8 ⟨0, 0, 0, 0, 0, 0, 0, 0⟩) ∧ Below w.heap.size w wx)
  case first =>
    go_wp2_with fail
    refine (Hcu.out _).mono ?_
    rintro e w1 ⟨rfl, b1⟩
    have z1 := b1.size
    simp only [World.size_alloc] at z1
    have p1 : Blk w1 w.heap.size 53 (l8 s) := Blk.below (((Blk.new rfl rfl).old _).old _) b1 (by simp; omega)
    have p2 : Blk w1 (w.heap.size + 1) 54 (cbs bs) := Blk.below ((Blk.new rfl (by simp)).old _) b1 (by simp)
    have p3 : Blk w1 (w.heap.size + 1 + 1) 53 (l8 ⟨0, 0, 0, 0, 0, 0, 0, 0⟩) := Blk.below (Blk.new rfl (by simp)) b1 (by simp)
    have t1 : Below w.heap.size w w1 := ((((Below.refl _ _).alloc (Nat.le_refl _) _).alloc (by simp) _).alloc (by simp; omega) _).trans (b1.mono (by simp; omega))
    have hksz : kk.toArray.size = 64 := by rw [List.size_toArray]; exact Hkk.out.2.1
    have hZ : Blk (w1.alloc (.cells (List.replicate 64 (Value.int .u32 0)).toArray 70)) w1.heap.size 70 zero64 := Blk.new rfl rfl
    have hth : (w1.alloc (.cells (List.replicate 64 (Value.int .u32 0)).toArray 70)).there w1.heap.size 0 kk.toArray.size := by
      rw [hksz]; exact ZB.there_ hZ rfl
    have hi : (Try.prog.info? 70).map (·.size) = some kk.toArray.size := by rw [hksz]; exact info64w
    have q0 := hZ.setAll (vs := kk) (by rw [Hkk.out.2.1]; rfl)
    have q1 := Blk.farAll (g' := w1.heap.size) (by omega) kk (w := w1.alloc (.cells (List.replicate 64 (Value.int .u32 0)).toArray 70)) (o := 0) (p1.old _)
    have q2 := Blk.farAll (g' := w1.heap.size) (by omega) kk (w := w1.alloc (.cells (List.replicate 64 (Value.int .u32 0)).toArray 70)) (o := 0) (p2.old _)
    have q3 := Blk.farAll (g' := w1.heap.size) (by omega) kk (w := w1.alloc (.cells (List.replicate 64 (Value.int .u32 0)).toArray 70)) (o := 0) (p3.old _)
    have t2 : Below w.heap.size w ((w1.alloc (.cells (List.replicate 64 (Value.int .u32 0)).toArray 70)).setCells w1.heap.size 0 kk) := Below.setCells (by omega) _ (t1.alloc (by omega) _)
    have Hth := Lib.hid hth
    have Hi := Lib.hid hi
    have Hq := Lib.hid (And.intro q0 (And.intro q1 (And.intro q2 (And.intro q3 t2))))
    clear p1 p2 p3 t1 hksz hZ hth hi q0 q1 q2 q3 t2 b1
    go_wp2_with (refine wpList_store_mid rfl 70 _ _ rfl w1.heap.size 0 kk.toArray rfl rfl Hth.out Hi.out Hkk.out.2.2 ?_; simp only [Act.put])
    go_meet
    exact ⟨w1.heap.size, rfl, Hq.out⟩
  case rest =>
    obtain ⟨gk, rfl, pk, p1, p2, p3, t1⟩ := hcut
    have hkr : wc.rangeAt gk 0 (cws KK) := by rw [Hkk.out.1]; exact pk.range
    have hi2 : (Try.prog.info? 54).map (·.size) = some (cbs bs).toArray.size := by rw [List.size_toArray, cbs_length, Hl.out]; exact info64b
    have hi8 : (Try.prog.info? 53).map (·.size) = some (l8 s).toArray.size := info8w
    have Hi2 := Lib.hid hi2
    have Hi8 := Lib.hid hi8
    have Hkr := Lib.hid hkr
    have Hr := Lib.hid (And.intro p3 t1)
    clear hi2 hi8 hkr pk p3 t1
    go_wp2_with (first
      | refine wpList_load_row rfl 53 _ rfl w.heap.size rfl 53 (l8 s).toArray (0, 0) _ p1 Try.underlying53 rfl Hi8.out ?_
      | refine wpList_load_row rfl 54 _ rfl (w.heap.size + 1) rfl 54 (cbs bs).toArray (0, 0) _ p2 Try.underlying54 rfl Hi2.out ?_)
    refine (Hro.out gk _ Hkr.out).mono ?_
    rintro e w2 ⟨rfl, b2⟩
    obtain ⟨p3, t1⟩ := Hr.out
    have z3 := p3.below b2 p3.lt
    have hsz : r8.toArray.size = 8 := by rw [List.size_toArray]; exact Hr8.out.1
    have hth : w2.there (w.heap.size + 1 + 1) 0 r8.toArray.size := by rw [hsz]; exact z3.there
    have hi : (Try.prog.info? 53).map (·.size) = some r8.toArray.size := by rw [hsz]; exact info8w
    have hR := z3.setAll (vs := r8) (by rw [Hr8.out.1]; rfl)
    have hnx : Below w.heap.size w (w2.setCells (w.heap.size + 1 + 1) 0 r8) := Below.setCells (by omega) _ (t1.trans (b2.mono t1.size))
    have Hth := Lib.hid hth
    have Hi := Lib.hid hi
    have Hq := Lib.hid (And.intro hR hnx)
    clear p3 t1 z3 hsz hth hi hR hnx b2 p1 p2
    go_wp2_with (refine wpList_store_mid rfl 53 _ _ rfl (w.heap.size + 1 + 1) 0 r8.toArray rfl rfl Hth.out Hi.out Hr8.out.2 ?_)
    exact bodyPost_ret (results_cell_row rfl _ _ (w.heap.size + 1 + 1) 53 r8.toArray (0, 0) _ rfl Hq.out.1 Try.underlying53 rfl Hi.out) rfl ⟨rfl, Hq.out.2⟩
end Go.Proofs.Ytamfjnomkefddaa
