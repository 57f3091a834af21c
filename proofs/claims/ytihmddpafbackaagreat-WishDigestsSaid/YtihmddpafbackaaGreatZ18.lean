/-
  Laid together for a hand-in: RefOf, RefB.
-/
import Derived.Test.YtihmddpafbackaaGreatZ17
import Derived.Test.YtihmddpafbackaaGreatZ04
import Derived.Test.YtihmddpafbackaaGreatZ07
import Derived.Test.YtihmddpafbackaaGreatZ05
import Derived.Maps.AppendAt

namespace Go.Proofs.YtihmddpafbackaaGreat

open Go.RowKit

set_option linter.unusedVariables false

/-- A block that is filled. -/
def fill (P : List UInt8) (m i : Nat) : List UInt8 := (P.drop (64 * m)).take i ++ List.replicate (64 - i) 0

theorem fill_full (P : List UInt8) (m : Nat) : fill P m 64 = (P.drop (64 * m)).take 64 := by unfold fill; simp

theorem fill_len {P : List UInt8} {m i : Nat} (h : 64 * m + 64 ≤ P.length) (hi : i ≤ 64) : (fill P m i).length = 64 := by
  unfold fill; rw [List.length_append, List.length_take, List.length_drop, List.length_replicate]; omega

theorem fill_set {P : List UInt8} {m i : Nat} (h : 64 * m + 64 ≤ P.length) (hi : i < 64) : (fill P m i).set i (P[64 * m + i]'(by omega)) = fill P m (i + 1) := by
  unfold fill
  have hl : ((P.drop (64 * m)).take i).length = i := by rw [List.length_take, List.length_drop]; omega
  rw [List.set_append_right _ _ (by omega), hl, Nat.sub_self]
  obtain ⟨k, hk⟩ : ∃ k, 64 - i = k + 1 := ⟨63 - i, by omega⟩
  rw [hk, show 64 - (i + 1) = k from by omega, List.replicate_succ, List.set_cons_zero]
  rw [List.take_succ_eq_append_getElem (by rw [List.length_drop]; omega), List.append_assoc, List.getElem_drop]
  rfl

set_option maxRecDepth 100000 in
set_option maxHeartbeats 3200000 in
theorem refOf_any (A : Option Addr) (c n : Nat) (l : List UInt8) (w : World) (hB : Bs w A l) (hn : l.length = n) (hl : n ≤ 140737488351232) :
    Calls Tryz.prog 58 #[.slice A n c] w fun e w' => e = .returned (.agg (cbs (digest l)).toArray) ∧ Below w.heap.size w w' := by
  have Hp := Lib.hid (fun w' b0 => padded_any A c n l w' (Bs.after b0 hB) hn hl)
  have b0 : Below w.heap.size w (w.alloc (.cells (cbs (List.replicate 32 0)).toArray 32)) := (Below.refl _ _).alloc (Nat.le_refl _) _
  have Hb0 := Lib.hid b0
  clear hB b0
  go_enter Tryz.func58, Tryz.ntmps58
  go_wp2_with fail
  refine (Hp.out _ Hb0.out).mono ?_
  rintro e w1 ⟨v1, rfl, hN1⟩
  obtain ⟨A1, c1, rfl, hc1, hcm1, hB1⟩ := hN1.form
  have z1 := hN1.2.size
  simp only [World.size_alloc] at z1
  have hZ1 : Blk w1 w.heap.size 32 (cbs (List.replicate 32 0)) := Blk.below (Blk.new rfl rfl) hN1.2 (by simp)
  have t1 : Below w.heap.size w w1 := Hb0.out.trans (hN1.2.mono (by simp))
  have H1 := Lib.hid (And.intro hZ1 (And.intro t1 hB1))
  clear hN1 hB1 hZ1 t1
  go_wp2_with fail
  refine (first_any _).mono ?_
  rintro e w2 ⟨rfl, hb2⟩
  have z2 := hb2.size
  have t2 : Below w.heap.size w w2 := H1.out.2.1.trans (hb2.mono (by omega))
  have hZ2 := H1.out.1.below hb2 H1.out.1.lt
  have hB2 := H1.out.2.2.after hb2
  have zB : Blk (w2.alloc (.cells (l8 ⟨0, 0, 0, 0, 0, 0, 0, 0⟩).toArray 97)) w2.heap.size 97 (l8 ⟨0, 0, 0, 0, 0, 0, 0, 0⟩) := Blk.new rfl rfl
  have hth : (w2.alloc (.cells (l8 ⟨0, 0, 0, 0, 0, 0, 0, 0⟩).toArray 97)).there w2.heap.size 0 (cws H0).toArray.size := zB.there
  have hi : (Tryz.prog.info? 97).map (·.size) = some (cws H0).toArray.size := info8w
  have hS := zB.setAll (vs := l8 S8.first) rfl
  have hZS := Blk.farAll (g' := w2.heap.size) (by have := hZ2.lt; omega) (l8 S8.first) (w := w2.alloc (.cells (l8 ⟨0, 0, 0, 0, 0, 0, 0, 0⟩).toArray 97)) (o := 0) (hZ2.old _)
  have tS : Below w2.heap.size w2 ((w2.alloc (.cells (l8 ⟨0, 0, 0, 0, 0, 0, 0, 0⟩).toArray 97)).setCells w2.heap.size 0 (l8 S8.first)) := Below.setCells (by omega) _ ((Below.refl _ _).alloc (Nat.le_refl _) _)
  have Hth := Lib.hid hth
  have Hi := Lib.hid hi
  have Hq := Lib.hid (And.intro hS tS)
  have H2 := Lib.hid (And.intro hZ2 (And.intro t2 hB2))
  obtain ⟨P, hP⟩ : ∃ P, pad l = P := ⟨_, rfl⟩
  have hPl : P.length ≤ 140737488351432 := by
    rw [← hP]; unfold pad gap
    simp only [List.length_append, List.length_cons, List.length_replicate, be8_len]
    omega
  have hP64 : P.length % 64 = 0 := by
    rw [← hP]; unfold pad gap
    simp only [List.length_append, List.length_cons, List.length_replicate, be8_len]
    omega
  have hlt2 : w.heap.size < w2.heap.size := by omega
  rw [hP] at hc1 H2 ⊢
  have HP := Lib.hid hP
  clear hth hi hS hZS tS zB hB2 hZ2 t2 hb2 H1 hP
  go_wp2_with (refine wpList_store_mid rfl 97 _ _ rfl w2.heap.size 0 (cws H0).toArray rfl rfl Hth.out Hi.out (cws_one H0) ?_; simp only [Act.put])
  go_loopw [5] (fun v wr => ∃ m : Nat, 64 * m ≤ P.length ∧ v = .int .i64 (64 * (m : Int)) ∧ Blk wr w2.heap.size 97 (l8 (eat S8.first m P)) ∧ Below w2.heap.size w2 wr) (fun v _ => P.length - (intOf v).toNat)
  case atStart => exact ⟨0, by omega, rfl, Hq.out⟩
  case round =>
    obtain ⟨m, hm, rfl, hS, hnx⟩ := hrel
    have hm0 : (0 : Int) ≤ 64 * (m : Int) := by omega
    by_cases hlt : 64 * m < P.length
    · have hlt' : 64 * (m : Int) < P.length := by omega
      have h64 : 64 * m + 64 ≤ P.length := by omega
      have hm6 : 64 * (m : Int) ≤ 140737488351432 := by omega
      obtain ⟨wo, hwo⟩ : ∃ wo : World, wo = wr := ⟨_, rfl⟩
      have zS := hS.lt
      have bB : Blk (wr.alloc (.cells (cbs (List.replicate 64 0)).toArray 99)) wr.heap.size 99 (cbs (fill P m 0)) := Blk.new rfl rfl
      have a0 : Below wr.heap.size wr (wr.alloc (.cells (cbs (List.replicate 64 0)).toArray 99)) := (Below.refl _ _).alloc (Nat.le_refl _) _
      have H0' := Lib.hid (And.intro bB (And.intro (hS.below a0 hS.lt) (hnx.trans (a0.mono hnx.size))))
      clear hS hnx bB a0
      obtain ⟨gb, hgb⟩ : ∃ gb, wr.heap.size = gb := ⟨_, rfl⟩
      have hg2 : w2.heap.size < gb := by omega
      go_wp2
      go_loopw [7] (fun v ws => ∃ i : Nat, i ≤ 64 ∧ v = .int .i64 i ∧ Blk ws gb 99 (cbs (fill P m i)) ∧ Blk ws w2.heap.size 97 (l8 (eat S8.first m P)) ∧ Below w2.heap.size w2 ws) (fun v _ => 64 - (intOf v).toNat)
      case atStart => exact ⟨0, by omega, rfl, by rw [← hgb]; exact H0'.out⟩
      case round =>
        obtain ⟨i, hi, rfl, hb, hS, hnx⟩ := hrel
        have hi0 : (0 : Int) ≤ (i : Int) := by omega
        by_cases hi64 : i < 64
        · have hi1 : (i : Int) < 64 := by omega
          have hBs := H2.out.2.2.after hnx
          obtain ⟨ab, off, eA, hab, hcell⟩ := hBs.at_ (i := 64 * m + i) (by omega)
          have c1 := hcell (64 * m + i) (by omega)
          subst eA
          have d0 := hb.cell (i := i) (v := cb ((fill P m i).getD i 0)) (by
            have hl := fill_len h64 (show i ≤ 64 by omega)
            rw [cbs_get, List.getElem?_eq_getElem (by omega), List.getD_eq_getElem?_getD, List.getElem?_eq_getElem (by omega)]; rfl)
          have f0 := hb.free i
          generalize cb ((fill P m i).getD i 0) = old at *
          have Hset := Lib.hid (fill_set h64 hi64)
          clear hBs hcell
          go_wp2
          go_roundw
          case rel =>
            have hs := hb.set_ i (cb (P[64 * m + i]'(by omega)))
            rw [cbs_set, Hset.out] at hs
            exact ⟨i + 1, by omega, by go_num, hs, hS.far (by dsimp only; omega) _, hnx.setCell (by dsimp only; omega) _⟩
          case measure => simp [intOf]; omega
        · have hi1 : ¬ (i : Int) < 64 := by omega
          have hie : i = 64 := by omega
          subst hie
          rw [fill_full] at hb
          have hbl : ((P.drop (64 * m)).take 64).length = 64 := by rw [List.length_take, List.length_drop]; omega
          have hmore : rnd (eat S8.first m P) ((P.drop (64 * m)).take 64) = eat S8.first (m + 1) P := (eat_more _ _ _).symm
          have hi64' : (Tryz.prog.info? 99).map (·.size) = some (cbs ((P.drop (64 * m)).take 64)).toArray.size := by rw [List.size_toArray, cbs_length, hbl]; exact info64b
          have hrr := fun w' => refRound_any (eat S8.first m P) ((P.drop (64 * m)).take 64) w' hbl
          rw [hmore] at hrr
          obtain ⟨r8, hr8, hr8l, hr8o⟩ : ∃ r8 : List Value, l8 (eat S8.first (m + 1) P) = r8 ∧ r8.length = 8 ∧ r8.toArray.all (·.oneCell') = true := ⟨_, rfl, rfl, cws_one (eat S8.first (m + 1) P).list⟩
          have hrr' : ∀ w', Calls Tryz.prog 85 #[v8 (eat S8.first m P), .agg (cbs ((P.drop (64 * m)).take 64)).toArray] w' fun e w'' => e = .returned (.agg r8.toArray) ∧ Below w'.heap.size w' w'' := by rw [← hr8]; exact hrr
          have Hrr := Lib.hid hrr'
          have HS := Lib.hid hS
          have HBk := Lib.hid hb
          have H64 := Lib.hid hi64'
          have hi8 : (Tryz.prog.info? 97).map (·.size) = some r8.toArray.size := by rw [List.size_toArray, hr8l]; exact info8w
          have Hone := Lib.hid hr8o
          have HR8 := Lib.hid (And.intro hr8 (And.intro hr8l hi8))
          have Hnx := Lib.hid hnx
          clear hmore hrr hrr' hS hb hi64' hnx hr8 hr8l hr8o hi8
          go_wp2_with (first
            | (refine wpList_load_row rfl 97 _ rfl w2.heap.size rfl 97 (l8 (eat S8.first m P)).toArray (0, 0) _ HS.out Tryz.underlying97 rfl info8w ?_)
            | (refine wpList_load_row rfl 99 _ rfl gb rfl 99 (cbs ((P.drop (64 * m)).take 64)).toArray (0, 0) _ HBk.out Tryz.underlying99 rfl H64.out ?_))
          refine (Hrr.out _).mono ?_
          rintro e w3 ⟨rfl, hb3⟩
          have hS3 := HS.out.below hb3 HS.out.lt
          have e8 : r8.toArray.size = 8 := by rw [List.size_toArray]; exact HR8.out.2.1
          have hth : w3.there w2.heap.size 0 r8.toArray.size := by rw [e8]; exact hS3.there
          have q1 := hS3.setAll (vs := r8) (by rw [HR8.out.2.1]; rfl)
          have q2 : Below w2.heap.size w2 (w3.setCells w2.heap.size 0 r8) := Below.setCells (Nat.le_refl _) _ (Hnx.out.trans (hb3.mono Hnx.out.size))
          have Hth := Lib.hid hth
          have Hq3 := Lib.hid (And.intro q1 q2)
          clear hS3 hth q1 q2 hb3
          go_wp2_with (refine wpList_store_mid rfl 97 _ _ rfl w2.heap.size 0 r8.toArray rfl rfl Hth.out HR8.out.2.2 Hone.out ?_; simp only [Act.put])
          go_roundw
          case rel => exact ⟨m + 1, by omega, by go_num, by rw [HR8.out.1]; exact Hq3.out⟩
          case measure => simp [intOf]; omega
    · have hme : 64 * m = P.length := by omega
      have hlt' : ¬ 64 * (m : Int) < P.length := by omega
      have hdig : (eat S8.first m P).bytes = digest l := by
        unfold digest
        rw [HP.out, ← hme, Nat.mul_div_cancel_left m (by omega)]
      generalize eat S8.first m P = s at *
      have hZ := H2.out.1.below hnx (by omega)
      have hwb : Below w.heap.size w wr := H2.out.2.1.trans (hnx.mono H2.out.2.1.size)
      obtain ⟨ob, hob⟩ : ∃ ob, wr.heap.size = ob := ⟨_, rfl⟩
      have hob2 : w2.heap.size < ob := by have := hS.lt; omega
      have H0' := Lib.hid (And.intro (show Blk (wr.alloc (.cells (cbs (List.replicate 32 0)).toArray 32)) ob 32 (cbs (wr32 s 0)) from Blk.new rfl hob) (And.intro (hS.old (.cells (cbs (List.replicate 32 0)).toArray 32)) (And.intro (hZ.old (.cells (cbs (List.replicate 32 0)).toArray 32)) (hwb.alloc hwb.size (.cells (cbs (List.replicate 32 0)).toArray 32)))))
      have Hdig := Lib.hid hdig
      clear hnx hS hZ hwb hdig
      go_wp2
      go_loopw [9] (fun v ws => ∃ k : Nat, k ≤ 32 ∧ v = .int .i64 k ∧ Blk ws ob 32 (cbs (wr32 s k)) ∧ Blk ws w2.heap.size 97 (l8 s) ∧ Blk ws w.heap.size 32 (cbs (List.replicate 32 0)) ∧ Below w.heap.size w ws) (fun v _ => 32 - (intOf v).toNat)
      case atStart => exact ⟨0, by omega, rfl, H0'.out⟩
      case round =>
        obtain ⟨k, hk, rfl, hD, hS, hZ, hnx⟩ := hrel
        have hk0 : (0 : Int) ≤ (k : Int) := by omega
        by_cases hk32 : k < 32
        · have hk1 : (k : Int) < 32 := by omega
          obtain ⟨q, hq⟩ : ∃ q, k / 4 = q := ⟨_, rfl⟩
          obtain ⟨j, hj⟩ : ∃ j, k % 4 = j := ⟨_, rfl⟩
          have hkq : k = 4 * q + j := by omega
          have hj4 : j < 4 := by omega
          have hq8 : q < 8 := by omega
          have hb := byte_at2 s q j hq8 hj4
          rw [← hkq] at hb
          have c1 := hS.cell (i := q) (v := .int .u32 ((s.list.getD q 0).toNat : Int)) (by
            have hl : s.list.length = 8 := rfl
            rw [show l8 s = cws s.list from rfl, cws_get _ _ (by omega), List.getD_eq_getElem?_getD, List.getElem?_eq_getElem (by omega)]; rfl)
          have d0 := hD.cell (i := k) (v := cb ((wr32 s k).getD k 0)) (by
            have hl := wr32_len s (k := k) (by omega)
            rw [cbs_get, List.getElem?_eq_getElem (by omega), List.getD_eq_getElem?_getD, List.getElem?_eq_getElem (by omega)]; rfl)
          have f0 := hD.free k
          have hw := w_lt (s.list.getD q 0)
          have hset := wr32_set s hk32
          rw [hb] at hset
          generalize cb ((wr32 s k).getD k 0) = old at *
          generalize s.list.getD q 0 = x at *
          have Hset := Lib.hid hset
          have e1 : (k : Int) / 4 = (q : Int) := by omega
          have e2 : (k : Int) % 4 = (j : Int) := by omega
          have hj0 : (0 : Int) ≤ (j : Int) := by omega
          have hj3 : (j : Int) ≤ 3 := by omega
          have hq0 : (0 : Int) ≤ (q : Int) := by omega
          have hq7 : (q : Int) < 8 := by omega
          have Hkq := Lib.hid hkq
          clear hset hb hq hj hkq hq8 hj4
          go_wp2
          go_roundw
          case rel =>
            have ec : Value.int .u8 ((x.toNat : Int) / 2 ^ (24 - 8 * j) % 256) = cb (UInt8.ofNat (x.toNat / 2 ^ (24 - 8 * j))) := by
              rw [← cb_mod]; simp
            have hs := hD.set_ k (cb (UInt8.ofNat (x.toNat / 2 ^ (24 - 8 * j))))
            rw [cbs_set, Hset.out] at hs
            rw [ec]
            exact ⟨k + 1, by omega, by go_num, hs, hS.far (by dsimp only; omega) _, hZ.far (by dsimp only; omega) _, hnx.setCell (by dsimp only; omega) _⟩
          case measure => simp [intOf]; omega
        · have e : k = 32 := by omega
          subst e
          have hk1 : ¬ ((32 : Nat) : Int) < 32 := by omega
          have hD8 : Blk wr ob 32 (cbs s.bytes) := hD
          have hth : wr.there w.heap.size 0 (cbs s.bytes).toArray.size := hZ.there
          have hR' := hZ.setAll (vs := cbs s.bytes) rfl
          have hnx' : Below w.heap.size w (wr.setCells w.heap.size 0 (cbs s.bytes)) := Below.setCells (by omega) _ hnx
          have hi : (Tryz.prog.info? 32).map (·.size) = some (cbs s.bytes).toArray.size := info32b
          have Hi := Lib.hid hi
          have Hth := Lib.hid hth
          have Hone := Lib.hid (cbs_one' s.bytes)
          have HE := Lib.hid (show cbs s.bytes = cbs (digest l) by rw [Hdig.out])
          clear hk hk32 hD hZ hS hnx hth hi
          generalize cbs s.bytes = vs at *
          go_wp2_with (first
            | refine wpList_load_row rfl 32 _ rfl ob rfl 32 vs.toArray (0, 0) _ hD8 Tryz.underlying32 rfl Hi.out ?_
            | refine wpList_store_mid rfl 32 _ _ rfl w.heap.size 0 vs.toArray rfl rfl Hth.out Hi.out Hone.out ?_)
          exact bodyPost_ret (results_cell_row rfl _ _ w.heap.size 32 vs.toArray (0, 0) _ rfl hR' Tryz.underlying32 rfl Hi.out) rfl ⟨by rw [HE.out], hnx'⟩

end Go.Proofs.YtihmddpafbackaaGreat

namespace Go.Proofs.YtihmddpafbackaaGreat

open Go.RowKit Go.Maps

set_option linter.unusedVariables false

/-- The document's book in memory: 'S' its blocks, 'v' its row of inputs. -/
structure RefBk (w : World) (S : Nat → Prop) (g : Nat) (v : Value) (L : List (List UInt8)) (k : Nat) : Prop where
  blk : Blk w g 63 [v, .int .i64 (k : Int)]
  own : S g
  lt : ∀ i, S i → i < w.heap.size
  row : Keeps w S v L

section

variable {w w' W w1 : World} {S S' : Nat → Prop} {g k : Nat} {v : Value} {L : List (List UInt8)} {x : List UInt8}

theorem RefBk.stay (h : RefBk w S g v L k) (hz : w.heap.size ≤ w'.heap.size) (hk : ∀ i, S i → w'.heap[i]? = w.heap[i]?) : RefBk w' S g v L k :=
  ⟨(hk g h.own).trans h.blk, h.own, fun i hi => Nat.lt_of_lt_of_le (h.lt i hi) hz, h.row.stay (fun _ e => e) (fun i _ hi _ => hk i hi) (fun b _ _ hi _ => hk b hi)⟩

theorem RefBk.below (h : RefBk w S g v L k) (hb : Below w.heap.size w w') : RefBk w' S g v L k := h.stay hb.size fun i hi => hb.block i (h.lt i hi)

theorem RefBk.more (h : RefBk w S g v L k) (hS : ∀ i, S i → S' i) (hb : ∀ i, S' i → i < w.heap.size) : RefBk w S' g v L k :=
  ⟨h.blk, hS g h.own, hb, h.row.stay hS (fun _ _ _ _ => rfl) (fun _ _ _ _ _ => rfl)⟩

theorem RefBk.count (h : RefBk w S g v L k) : RefBk (w.setCell ⟨g, 1, none⟩ (.int .i64 ((k : Int) + 1))) S g v L (k + 1) := by
  have far : ∀ (i : Nat) (cs : Array Value) (t : TypeId) (fr : Nat × Nat), w.heap[i]? = some (.cells cs t fr) → t ≠ 63 → (w.setCell ⟨g, 1, none⟩ (.int .i64 ((k : Int) + 1))).heap[i]? = w.heap[i]? := fun i cs t fr hc ht => by
    refine Below.heap_setCell w _ _ i ?_
    rintro rfl
    have hb := h.blk
    unfold Blk at hb
    rw [hc] at hb
    injection hb with hb
    injection hb with _ hb
    exact ht hb
  exact ⟨by rw [Int.natCast_succ]; exact h.blk.set_ 1 _, h.own, fun i hi => by simpa [World.setCell] using h.lt i hi, h.row.stay (fun _ e => e) (fun i cs _ hc => far i _ _ _ hc (by decide)) (fun b cs _ _ hc => far b _ _ _ hc (by decide))⟩

theorem rput_run {v : Value} (h : Blk W g 63 [v, .int .i64 (k : Int)]) (hS : S g) (hlt : ∀ i, S i → i < W.heap.size) (hK : Keeps W S v L) (hL : L.length < 1000000) {hd : Value} (hN : NewB W x hd w1) :
    ∃ v' w3, (∃ A n c, v' = .slice A n c) ∧ ((w1.cell? ⟨g, 0, none⟩ = some v) ∧ ((w1.alloc (.cells #[hd] 22)).cell? ⟨g, 0, none⟩ = some v) ∧ (Builtin.append_ #[61, 61] 61 #[v, .slice (some ⟨w1.heap.size, 0, none⟩) 1 1]).run Tryz.prog (w1.alloc (.cells #[hd] 22)) = .ok v' w3) ∧
      w3.cell? ⟨g, 0, none⟩ = some v ∧ w3.frozen? ⟨g, 0, none⟩ = false ∧ W.heap.size ≤ w3.heap.size ∧ RefBk (w3.setCell ⟨g, 0, none⟩ v') (Grown S W w3) g v' (L ++ [x]) k ∧ Out S W (w3.setCell ⟨g, 0, none⟩ v') := by
  obtain ⟨cs, k1, k2, k3, k4⟩ := hK
  obtain ⟨Ax, cx, rfl, _, _, _⟩ := hN.form
  have hb2 : Below W.heap.size W (w1.alloc (.cells #[Value.slice Ax x.length cx] 22)) := hN.2.alloc hN.2.size _
  have bound : ∀ (b : Nat) (c : Obj), W.heap[b]? = some c → b < W.heap.size := fun b c hc => by
    rcases Nat.lt_or_ge b W.heap.size with h | h
    · exact h
    · rw [Array.getElem?_eq_none h] at hc; cases hc
  have hown : (w1.alloc (.cells #[Value.slice Ax x.length cx] 22)).ownsRow 0 22 1 v L.length cs := row_stay k1 fun b c _ hc => hb2.block b (bound b _ hc)
  obtain ⟨i0, hi, hz0, hz1, hz2⟩ := info_parts sl_info3
  obtain ⟨v', w3, h1, h2, h3, _, h5⟩ := run_append_own_at (P := Tryz.prog) (w1.alloc (.cells #[Value.slice Ax x.length cx] 22)) 0 61 61 22 i0 _ 1 24 Tryz.underlying61 hi hz0 hz1 hz2 rfl (by decide) v L.length cs hown ⟨w1.heap.size, 0, none⟩ 1 1 [.slice Ax x.length cx]
    rfl (fun j u hu => by
      match j with
      | 0 =>
        simp only [List.getElem?_cons_zero, Option.some.injEq] at hu
        subst hu
        exact (show Blk (w1.alloc (.cells #[Value.slice Ax x.length cx] 22)) w1.heap.size 22 [.slice Ax x.length cx] from Blk.new rfl rfl).cell rfl
      | j + 1 => simp at hu) (fun u hu => by simp at hu; subst hu; rfl) (by simp only [maxLen]; omega) (by omega) (Nat.zero_le _)
  have hform : ∃ A n c, v' = .slice A n c := by
    obtain ⟨_, ⟨rfl, _⟩ | ⟨gg, cap, cur, rfl, _⟩⟩ := h2
    · exact ⟨_, _, _, rfl⟩
    · exact ⟨_, _, _, rfl⟩
  have hvS : ∀ b, v.ownBlock = some b → b < W.heap.size := fun b hb => hlt b (k2 b hb)
  have hvT : ∀ b, v.ownBlock = some b → ∃ c, W.heap[b]? = some (.cells c 22 (0, 0)) := fun b hb => row_block k1 hb
  have same : ∀ (i : Nat) (c : Array Value) (t : TypeId), W.heap[i]? = some (.cells c t (0, 0)) → t ≠ 22 → w3.heap[i]? = W.heap[i]? := fun i c t hc ht =>
    (h3.block i (Nat.lt_of_lt_of_le (bound i _ hc) hb2.size) fun e => by
      obtain ⟨c', hc'⟩ := hvT i e.symm
      rw [hc] at hc'
      injection hc' with hc'
      injection hc' with _ hc'
      exact ht hc').trans (hb2.block i (bound i _ hc))
  have hg3 : Blk w3 g 63 [v, .int .i64 (k : Int)] := (same g _ _ h (by decide)).trans h
  have hg2 : Blk (w1.alloc (.cells #[Value.slice Ax x.length cx] 22)) g 63 [v, .int .i64 (k : Int)] := h.below hb2 h.lt
  have hg1 : Blk w1 g 63 [v, .int .i64 (k : Int)] := h.below hN.2 h.lt
  have hsz : W.heap.size ≤ w3.heap.size := Nat.le_trans hb2.size h3.size
  have hs4 : (w3.setCell ⟨g, 0, none⟩ v').heap.size = w3.heap.size := by simp [World.setCell]
  have set4 : ∀ i, i ≠ g → (w3.setCell ⟨g, 0, none⟩ v').heap[i]? = w3.heap[i]? := fun i hi => Below.heap_setCell w3 ⟨g, 0, none⟩ v' i hi
  have notg : ∀ (i : Nat) (c : Array Value) (t : TypeId), w3.heap[i]? = some (.cells c t (0, 0)) → t ≠ 63 → i ≠ g := fun i c t hc ht e => by
    subst e
    unfold Blk at hg3
    rw [hg3] at hc
    injection hc with hc
    injection hc with _ hc
    exact ht hc.symm
  have row4 : (w3.setCell ⟨g, 0, none⟩ v').ownsRow 0 22 1 v' (L.length + 1) (cs ++ [Value.slice Ax x.length cx]) := row_stay h2 fun b c hb hc => set4 b (notg b c _ hc (by decide))
  have hcl : cs.length = L.length := by have := k1.1; omega
  refine ⟨v', w3, hform, ⟨hg1.cell rfl, hg2.cell rfl, h1⟩, hg3.cell rfl, hg3.free 0, hsz, ⟨hg3.set_ 0 v', .inl hS, fun i hi => ?_, ⟨cs ++ [Value.slice Ax x.length cx], by rw [List.length_append]; exact row4, fun b hb => ?_, fun e => by simp at e, fun j y hy => ?_⟩⟩, ?_⟩
  · rw [hs4]
    rcases hi with hi | hi
    · exact Nat.lt_of_lt_of_le (hlt i hi) hsz
    · exact hi.2
  · rcases h5 with e | e
    · exact .inl (k2 b (e ▸ hb))
    · have hlt3 := (h2.lt b hb).2
      rw [e] at hb
      injection hb with hb
      subst hb
      exact .inr ⟨hb2.size, hlt3⟩
  · by_cases hj : j < L.length
    · rw [List.getElem?_append_left hj] at hy
      obtain ⟨hh, e, hhd0⟩ := k4 j y hy
      refine ⟨hh, by rw [List.getElem?_append_left (by omega)]; exact e, hhd0.stay (fun i hi => .inl hi) fun i c _ hc => ?_⟩
      have e3 := same i _ _ hc (by decide)
      exact (set4 i (notg i c _ (e3.trans hc) (by decide))).trans e3
    · rw [List.getElem?_append_right (by omega)] at hy
      have hj0 : j - L.length = 0 := by
        rcases Nat.eq_zero_or_pos (j - L.length) with h | h
        · exact h
        · rw [List.getElem?_eq_none (by simp; omega)] at hy; cases hy
      rw [hj0] at hy
      injection hy with hy
      subst hy
      refine ⟨.slice Ax x.length cx, by rw [List.getElem?_append_right (by omega), hcl, hj0]; rfl, ?_, fun b hb => ?_⟩
      · refine row_stay (row_base hN.1 (Nat.zero_le _)) fun b c hb hc => ?_
        have hlt1 := World.ownsRow.lt hN.1 b hb
        have e2 : (w1.alloc (.cells #[Value.slice Ax x.length cx] 22)).heap[b]? = w1.heap[b]? := heap_alloc_old _ _ hlt1.2
        have e3 : w3.heap[b]? = (w1.alloc (.cells #[Value.slice Ax x.length cx] 22)).heap[b]? := h3.block b (by rw [World.size_alloc]; omega) fun e => by have := hvS b e.symm; omega
        exact (set4 b (notg b c _ (e3.trans (e2.trans hc)) (by decide))).trans (e3.trans e2)
      · have hlt1 := World.ownsRow.lt hN.1 b hb
        exact .inr ⟨hlt1.1, by have h4 := h3.size; rw [World.size_alloc] at h4; omega⟩
  · exact Out.setCell (p := ⟨g, 0, none⟩) (((Out.refl S W).then_below hb2).then_grown h3 fun i hi _ => k2 i hi) (fun _ => hS) v'

end

section

variable {ops : Array Oper} {Q : Exit → Act → World → Prop}

theorem op_appendS {i d : Nat} {oi : Oper} {a : Act} {w : World} {K : Act → World → Prop} (hi : ops[i]? = some oi) (hd : oi.dst = some d) (hgd : oi.guard = none) (s x : Operand)
    (ho : oi.op = .call { callee := .builtin .append, args := #[s, x], argTypes := #[61, 61] }) (v xs v' : Value) (w' : World) (hs : a.eval s = v) (hx : a.eval x = xs)
    (hrun : (Builtin.append_ #[61, 61] oi.type #[v, xs]).run Tryz.prog w = .ok v' w') (h : K { a with tmps := a.tmps.setIfInBounds d v' } w') : wpOp Tryz.prog ops Q i K a w := by
  refine wpOp_step hi (fun K' hK => ?_)
  have hw : Region.wanted oi (yielded ops a.tmps) = true := by simp [Region.wanted, hgd]
  rw [if_pos hw]
  unfold Oper.wp execOp
  simp only [ho, resolve, invoke, builtin, Sem.run_bind, Sem.run_pure, Result.andThen_ok, List.map_toArray, List.map_cons, List.map_nil, hs, hx, hrun]
  exact hK _ _ (by unfold Act.put; rw [hd]; exact h)

end

theorem rbnew_any (w : World) : Calls Tryz.prog 8 #[] w fun e w' => ∃ g, e = .returned (.pointer (some ⟨g, 0, none⟩)) ∧ g = w.heap.size ∧ RefBk w' (fun i => i = g) g nilS [] 0 ∧ Below w.heap.size w w' := by
  go_enter Tryz.func8, Tryz.ntmps8
  go_wp2
  go_ret
  exact ⟨w.heap.size, rfl, rfl, ⟨Blk.new rfl rfl, rfl, fun i hi => by subst hi; simp, Keeps.nil _ _⟩, (Below.refl _ _).alloc (Nat.le_refl _) _⟩

theorem rblen_any {w : World} {S : Nat → Prop} {g k : Nat} {v : Value} {L : List (List UInt8)} (h : RefBk w S g v L k) : Calls Tryz.prog 14 #[.pointer (some ⟨g, 0, none⟩)] w fun e w' => e = .returned (.int .i64 (L.length : Int)) ∧ w' = w := by
  obtain ⟨A, c, rfl, _, _⟩ := h.row.form
  have c0 := h.blk.cell (i := 0) rfl
  clear h
  generalize L.length = n at *
  go_enter Tryz.func14, Tryz.ntmps14
  go_wp2
  go_ret
  exact ⟨rfl, rfl⟩

theorem rbasked_any {w : World} {S : Nat → Prop} {g k : Nat} {v : Value} {L : List (List UInt8)} (h : RefBk w S g v L k) : Calls Tryz.prog 16 #[.pointer (some ⟨g, 0, none⟩)] w fun e w' => e = .returned (.int .i64 (k : Int)) ∧ w' = w := by
  have c0 := h.blk.cell (i := 1) rfl
  clear h
  go_enter Tryz.func16, Tryz.ntmps16
  go_wp2
  go_ret
  exact ⟨rfl, rfl⟩

/-- What Of makes of the document's book. -/
def rofL (L : List (List UInt8)) (k : Nat) (x : List UInt8) : List (List UInt8) × Nat := if x.length ≤ 65536 then (if x ∈ L then L else L ++ [x], k + 1) else (L, k)

def RofPost (w : World) (S : Nat → Prop) (g : Nat) (L : List (List UInt8)) (k : Nat) (x : List UInt8) (w' : World) : Prop := ∃ v', RefBk w' (Grown S w w') g v' (rofL L k x).1 (rofL L k x).2 ∧ Out S w w'

section

variable {ops : Array Oper} {Q : Exit → Act → World → Prop}

theorem wpList_alloc_z {rest : List Oper} {o : Oper} {a : Act} {w : World} (hg : o.guard = none) (ty : TypeId) (ho : o.op = .alloc ty) (Z : List Value)
    (hz : ∀ w : World, (Instr.alloc ty true (.tuple #[])).run Tryz.prog w = .ok (.pointer (some ⟨w.heap.size, 0, none⟩)) (w.alloc (.cells Z.toArray ty)))
    (h : wpList Tryz.prog ops Q rest (a.put o.dst (.pointer (some ⟨w.heap.size, 0, none⟩))) (w.alloc (.cells Z.toArray ty))) : wpList Tryz.prog ops Q (o :: rest) a w :=
  wpList_plain hg fun _ hK => by
    unfold Oper.wp execOp
    simp only [ho, Sem.run_bind, hz, Result.andThen_ok, Sem.run_pure]
    exact hK _ _ h

end

theorem alloc_z : ∃ Z : List Value, cbs (List.replicate 32 0) = Z ∧ ∀ w : World, (Instr.alloc 32 true (.tuple #[])).run Tryz.prog w = .ok (.pointer (some ⟨w.heap.size, 0, none⟩)) (w.alloc (.cells Z.toArray 32)) :=
  ⟨_, rfl, fun w => by kernel_rfl⟩

theorem rof_there {W : World} {gz : Nat} {D : List Value} (hZ : Blk W gz 32 (cbs (List.replicate 32 0))) (hD : D.length = 32) : (W.there gz 0 D.toArray.size ∧ (Tryz.prog.info? 32).map (·.size) = some D.toArray.size) ∧ Blk (W.setCells gz 0 D) gz 32 D := by
  have hsD : D.toArray.size = 32 := by rw [List.size_toArray]; exact hD
  refine ⟨⟨?_, by rw [hsD]; exact info32b⟩, hZ.setAll (vs := D) (by rw [hD, cbs_length, List.length_replicate])⟩
  have e := hZ.there
  rw [cbs_length, List.length_replicate] at e
  rw [hsD]; exact e

theorem rof_post {w W : World} {S S' : Nat → Prop} {g k : Nat} {v : Value} {L : List (List UInt8)} (D : List Value) (hS : ∀ i, S i → i < w.heap.size) (hR : RefBk W S' g v L k) (hS' : ∀ i, S' i → S i ∨ w.heap.size < i ∧ i < W.heap.size) (hO : Out S w W) :
    RefBk (W.setCells w.heap.size 0 D) (Grown S w (W.setCells w.heap.size 0 D)) g v L k ∧ Out S w (W.setCells w.heap.size 0 D) := by
  have hbs : But w.heap.size W (W.setCells w.heap.size 0 D) := But.setCells (.inl rfl) D (But.refl _ _)
  have hsz := hbs.size
  refine ⟨RefBk.more (S := fun i => S' i ∨ (Grown S w (W.setCells w.heap.size 0 D) i ∧ False)) ((hR.stay hsz fun i hi => hbs.block i (hR.lt i hi) fun e => ?_).more (fun i hi => .inl hi) (fun i hi => ?_)) (fun i hi => ?_) (fun i hi => ?_), hO.then_grown hbs fun i hi h => by injection hi with hi; omega⟩
  · have e' : w.heap.size = i := (Option.some.inj e).symm
    rcases hS' i hi with h | h
    · have := hS i h; omega
    · omega
  · rcases hi with hi | hi
    · exact Nat.lt_of_lt_of_le (hR.lt i hi) hsz
    · exact hi.2.elim
  · rcases hi with hi | hi
    · rcases hS' i hi with h | h
      · exact .inl h
      · exact .inr ⟨by omega, by omega⟩
    · exact hi.2.elim
  · rcases hi with hi | hi
    · exact Nat.lt_of_lt_of_le (hS i hi) (Nat.le_trans hO.size hsz)
    · exact hi.2

/-- What stands while the inputs are looked through. -/
def RHalf (w : World) (S : Nat → Prop) (g : Nat) (v : Value) (L : List (List UInt8)) (k : Nat) (A : Option Addr) (x : List UInt8) (gd : Nat) (D : List Value) (wr : World) : Prop :=
  RefBk wr S g v L k ∧ Bs wr A x ∧ Blk wr w.heap.size 32 (cbs (List.replicate 32 0)) ∧ Blk wr gd 32 D ∧ Out S w wr

theorem RHalf.below {w wr w' : World} {S : Nat → Prop} {g k gd : Nat} {v : Value} {L : List (List UInt8)} {A : Option Addr} {x : List UInt8} {D : List Value} (h : RHalf w S g v L k A x gd D wr) (hb : Below wr.heap.size wr w') : RHalf w S g v L k A x gd D w' := by
  obtain ⟨h1, h2, h3, h4, h5⟩ := h
  exact ⟨h1.below hb, h2.after hb, h3.below hb h3.lt, h4.below hb h4.lt, h5.then_below hb⟩

set_option maxRecDepth 100000 in
set_option maxHeartbeats 3200000 in
theorem rof_any (S : Nat → Prop) (g : Nat) (v : Value) (L : List (List UInt8)) (k : Nat) (A : Option Addr) (n cp : Nat) (x : List UInt8) (w : World)
    (h : RefBk w S g v L k) (hL : L.length < 1000000) (hk : k < 1000000) (hB : Bs w A x) (ho : OffS S A x) (hn : x.length = n) (hc : n ≤ cp) (hcm : cp ≤ maxLen) :
    Calls Tryz.prog 31 #[.pointer (some ⟨g, 0, none⟩), .slice A n cp] w fun e w' =>
      e = .returned (.tuple #[.agg (cbs (ofD x)).toArray, .int .i64 (ofE x)]) ∧ RofPost w S g L k x w' := by
  have b0 : Below w.heap.size w (w.alloc (.cells (cbs (List.replicate 32 0)).toArray 32)) := (Below.refl _ _).alloc (Nat.le_refl _) _
  have hZ0 : Blk (w.alloc (.cells (cbs (List.replicate 32 0)).toArray 32)) w.heap.size 32 (cbs (List.replicate 32 0)) := Blk.new rfl rfl
  have hSlt := h.lt
  by_cases hle : x.length ≤ 65536
  rotate_left
  · have e1 : rofL L k x = (L, k) := if_neg hle
    have e2 : ofD x = List.replicate 32 0 := if_neg hle
    have e3 : ofE x = 5 := if_neg hle
    have hgt : (65536 : Int) < n := by omega
    obtain ⟨hth, hR⟩ := rof_there hZ0 (D := cbs (List.replicate 32 0)) (by rw [cbs_length, List.length_replicate])
    have hp := rof_post (W := w.alloc (.cells (cbs (List.replicate 32 0)).toArray 32)) (cbs (List.replicate 32 0)) hSlt (h.below b0) (fun i hi => .inl hi) (Out.ofBelow S b0)
    have Hp := Lib.hid (show RofPost w S g L k x ((w.alloc (.cells (cbs (List.replicate 32 0)).toArray 32)).setCells w.heap.size 0 (cbs (List.replicate 32 0))) from ⟨v, by rw [e1]; exact hp.1, hp.2⟩)
    rw [e2, e3]
    have Hb := Lib.hid (And.intro hth hR)
    clear h e1 e2 e3 hB hn hc hcm b0 hZ0 hth hR hp ho
    go_enter Tryz.func31, Tryz.ntmps31
    go_wp2_with (refine wpList_store_mid rfl 32 _ _ rfl w.heap.size 0 (cbs (List.replicate 32 0)).toArray rfl rfl Hb.out.1.1 info32b (cbs_one' _) ?_)
    refine bodyPost_ret (results_row_tmp3 rfl _ _ w.heap.size 32 (cbs (List.replicate 32 0)).toArray (0, 0) _ rfl Hb.out.2 Tryz.underlying32 rfl info32b) rfl ?_
    exact ⟨rfl, Hp.out⟩
  · have e2 : ofD x = digest x := if_pos hle
    have e3 : ofE x = 0 := if_pos hle
    rw [e2, e3]
    obtain ⟨Z, hZe, hza⟩ := alloc_z
    rw [hZe] at b0 hZ0
    have hgt : (n : Int) ≤ 65536 := by omega
    have hn6 : n ≤ 65536 := by omega
    obtain ⟨D, hD32, hDv, hD1⟩ : ∃ D : List Value, D.length = 32 ∧ cbs (digest x) = D ∧ D.toArray.all (·.oneCell') = true := ⟨cbs (digest x), by rw [cbs_length, dlen], rfl, cbs_one' _⟩
    rw [hDv]
    have hgw : g < w.heap.size := hSlt g h.own
    obtain ⟨Ar, cr, rfl, hcr, hcrm⟩ := h.row.form
    have hra := h.below b0
    have c1 : w.cell? ⟨g, 1, none⟩ = some (.int .i64 (k : Int)) := h.blk.cell rfl
    have f1 : w.frozen? ⟨g, 1, none⟩ = false := h.blk.free 1
    have hb1 : Below (w.setCell ⟨g, 1, none⟩ (.int .i64 ((k : Int) + 1))).heap.size (w.setCell ⟨g, 1, none⟩ (.int .i64 ((k : Int) + 1))) ((w.setCell ⟨g, 1, none⟩ (.int .i64 ((k : Int) + 1))).alloc (.cells Z.toArray 32)) := (Below.refl _ _).alloc (Nat.le_refl _) _
    have hrc := h.count.below hb1
    have hOc : Out S w ((w.setCell ⟨g, 1, none⟩ (.int .i64 ((k : Int) + 1))).alloc (.cells Z.toArray 32)) := (Out.setCell (p := ⟨g, 1, none⟩) (Out.refl S w) (fun _ => h.own) _).then_below hb1
    have hZc : Blk ((w.setCell ⟨g, 1, none⟩ (.int .i64 ((k : Int) + 1))).alloc (.cells Z.toArray 32)) w.heap.size 32 Z := Blk.new rfl (by simp [World.setCell])
    have hBc := Bs.out hB ho hOc
    have hro := refOf_any A cp n x _ hBc hn (by omega)
    rw [hDv] at hro
    have Hro := Lib.hid hro
    have Hc := Lib.hid (And.intro hrc (And.intro hOc (And.intro hZc hBc)))
    have HD := Lib.hid (And.intro hD32 (And.intro hDv hD1))
    have Hn := Lib.hid (And.intro hn (And.intro hc hcm))
    have HS := Lib.hid hSlt
    clear hcr hcrm
    have hk0 : (0 : Int) ≤ k := by omega
    have hk1 : (k : Int) ≤ 140737488355328 := by omega
    clear hk
    clear h hra hb1 hrc hOc hZc hBc hro hD32 hDv hD1 hB ho hn hc hcm b0 hZ0 hSlt e2 e3
    go_enter Tryz.func31, Tryz.ntmps31
    have Hza := Lib.hid hza
    have HZe := Lib.hid hZe
    clear hza hZe
    go_wp2_with (refine wpList_alloc_z rfl 32 rfl Z Hza.out ?_; simp only [Act.put])
    refine Hro.out.mono ?_
    rintro e wq ⟨rfl, hbq⟩
    obtain ⟨wS, hwS, hti, hdS, hbS, hszS⟩ := dig_local wq D HD.out.1
    have hH0 : RHalf w S g (.slice Ar L.length cr) L (k + 1) A x wq.heap.size D wS := ⟨(Hc.out.1.below hbq).below hbS, (Hc.out.2.2.2.after hbq).after hbS, by rw [HZe.out]; exact (Hc.out.2.2.1.below hbq Hc.out.2.2.1.lt).below hbS (Nat.lt_of_lt_of_le Hc.out.2.2.1.lt hbq.size), hdS, (Hc.out.2.1.then_below hbq).then_below hbS⟩
    have hgd : w.heap.size < wq.heap.size := Nat.lt_of_lt_of_le Hc.out.2.2.1.lt hbq.size
    have HH := Lib.hid hH0
    have Hti := Lib.hid hti
    have HwS := Lib.hid hwS
    clear hH0 hti hwS hdS hbS hszS hbq c1 f1
    generalize hN : L.length = N at *
    go_wp2_with (refine wpList_store_mid rfl 32 _ _ rfl wq.heap.size 0 D.toArray rfl rfl Hti.out.1 Hti.out.2 HD.out.2.2 ?_; simp only [Act.put]; refine cast (congrArg (fun z => wpList _ _ _ _ _ z) HwS.out.symm) ?_)
    obtain ⟨gd, hgdE⟩ : ∃ gd, wq.heap.size = gd := ⟨_, rfl⟩
    rw [hgdE] at HH hgd ⊢
    go_loopw [7] (fun v wr => ∃ j : Nat, j ≤ N ∧ v = .int .i64 j ∧ (∀ y ∈ L.take j, y ≠ x) ∧ RHalf w S g (.slice Ar N cr) L (k + 1) A x gd D wr) (fun v _ => N - (intOf v).toNat)
    case atStart => exact ⟨0, Nat.zero_le _, rfl, by simp, HH.out⟩
    case round =>
      obtain ⟨j, hj, rfl, hne, hH⟩ := hrel
      have c0 : wr.cell? ⟨g, 0, none⟩ = some (.slice Ar N cr) := hH.1.blk.cell rfl
      have hi0 : (0 : Int) ≤ j := by omega
      have hgS : ¬ S gd := fun e => by have := HS.out gd e; omega
      have hzS : ¬ S w.heap.size := fun e => by have := HS.out _ e; omega
      have hi32 : (Tryz.prog.info? 32).map (·.size) = some D.toArray.size := by rw [List.size_toArray, HD.out.1]; exact info32b
      have Hi := Lib.hid hi32
      clear hi32
      by_cases hlt : j < N
      · obtain ⟨b, Ax, cx, cr', hv, hcell, hlx, hcx, hBx⟩ := hH.1.row.at_ (j := j) (by omega)
        rw [hN] at hv
        injection hv with hv1 _ hv3
        subst hv1
        subst hv3
        have hjg : j < L.length := by omega
        obtain ⟨y, hy⟩ : ∃ y, y = L[j] := ⟨_, rfl⟩
        rw [← hy] at hcell hlx hBx
        obtain ⟨ny, hny⟩ : ∃ ny, y.length = ny := ⟨_, rfl⟩
        rw [hny] at hcell hlx
        have heq := eqBytes Ax A cx cp ny n y x _ hBx hH.2.1 hny Hn.out.1 (Nat.le_trans hlx hcx) (Nat.le_trans Hn.out.2.1 Hn.out.2.2)
        have hi1 : (j : Int) < N := by omega
        have Hx := Lib.hid (And.intro hy (And.intro hne hH))
        clear hlx hBx hy hne hH
        by_cases he : y = x
        · have hb1 : (y == x) = true := by simpa using he
          rw [hb1] at heq
          have Heq := Lib.hid heq
          clear heq hb1
          go_wp2_with fail
          refine Heq.out.mono ?_
          rintro e w2 ⟨rfl, hb2⟩
          have h2 := Hx.out.2.2.below hb2
          obtain ⟨hth, hR⟩ := rof_there h2.2.2.1 HD.out.1
          have hmem : x ∈ L := by
            have hm := List.getElem_mem hjg
            rw [← Hx.out.1, he] at hm
            exact hm
          have hp := rof_post D HS.out h2.1 (fun i hi => .inl hi) h2.2.2.2.2
          have Hp := Lib.hid (show RofPost w S g L k x (w2.setCells w.heap.size 0 D) from ⟨_, by unfold rofL; rw [if_pos hle, if_pos hmem]; exact hp.1, hp.2⟩)
          have H2 := Lib.hid (And.intro hth (And.intro hR h2.2.2.2.1))
          clear hth hR hp h2 hb2 hmem Hx
          go_wp2_with (first
            | (refine wpList_load_row rfl 32 _ rfl gd rfl 32 D.toArray (0, 0) _ H2.out.2.2 Tryz.underlying32 rfl Hi.out ?_)
            | (refine wpList_store_mid rfl 32 _ _ rfl w.heap.size 0 D.toArray rfl rfl H2.out.1.1 Hi.out HD.out.2.2 ?_))
          exact bodyPost_ret (results_row_tmp3 rfl _ _ w.heap.size 32 D.toArray (0, 0) _ rfl H2.out.2.1 Tryz.underlying32 rfl Hi.out) rfl ⟨rfl, Hp.out⟩
        · have hb1 : (y == x) = false := by simpa using he
          rw [hb1] at heq
          have Heq := Lib.hid heq
          clear heq hb1
          go_wp2_with fail
          refine Heq.out.mono ?_
          rintro e w2 ⟨rfl, hb2⟩
          have H2 := Lib.hid (Hx.out.2.2.below hb2)
          clear hb2
          go_wp2
          go_roundw
          case rel =>
            refine ⟨j + 1, by omega, by go_num, ?_, H2.out⟩
            rw [List.take_succ_eq_append_getElem hjg, ← Hx.out.1]
            intro z hz
            rcases List.mem_append.1 hz with hz | hz
            · exact Hx.out.2.1 z hz
            · simp at hz; subst hz; exact he
          case measure => simp [intOf]; omega
      · have hjN : j = N := by omega
        subst hjN
        have hi1 : ¬ (j : Int) < j := by omega
        have hxL : x ∉ L := fun hx => by
          rw [List.take_of_length_le (by omega)] at hne
          exact hne x hx rfl
        have hd : RHalf w S g (.slice Ar j cr) L (k + 1) A x gd D wr.drew := hH.below (Below.refl _ _).drew
        have hcp := copyBytes A cp n x wr.drew hd.2.1 Hn.out.1 (by omega)
        have Hcp := Lib.hid hcp
        have Hx := Lib.hid (And.intro hxL hd)
        have Hr := Lib.hid (And.intro hd.1.blk (And.intro hd.1.own (And.intro hd.1.lt hd.1.row)))
        have hLj : j < 1000000 := by omega
        clear hcp hd hH hne hxL
        go_wp2
        refine wp_region_any (by kernel_rfl) ?_
        change wpAny _ _ _ _ _ _ _ (World.drew _)
        refine any_take (i := 0) (d := 41) (v := (.pointer (some ⟨g, 0, none⟩))) rfl rfl (by kernel_rfl) (by kernel_rfl) (by kernel_rfl) (fun _ _ _ h => h) (Or.inl ⟨by rfl, (by intro w; go_simp)⟩) ?_
        simp only [List.setIfInBounds_toArray, List.set_cons_zero, List.set_cons_succ]
        refine any_take (i := 1) (d := 42) (v := (.pointer (some ⟨g, 0, none⟩))) rfl rfl (by kernel_rfl) (by kernel_rfl) (by kernel_rfl) (fun _ _ _ h => h) (Or.inl ⟨by rfl, (by intro w; go_simp)⟩) ?_
        simp only [List.setIfInBounds_toArray, List.set_cons_zero, List.set_cons_succ]
        refine any_take (i := 2) (d := 43) (v := (.pointer (some ⟨g, 0, none⟩))) rfl rfl (by kernel_rfl) (by kernel_rfl) (by kernel_rfl) (fun _ _ _ h => h) (Or.inl ⟨by rfl, (by intro w; go_simp)⟩) ?_
        simp only [List.setIfInBounds_toArray, List.set_cons_zero, List.set_cons_succ]
        refine any_take (i := 3) (d := 44) (v := (.pointer (some ⟨g, 0, none⟩))) rfl rfl (by kernel_rfl) (by kernel_rfl) (by kernel_rfl) (fun _ _ _ h => h) (Or.inl ⟨by rfl, (by intro w; go_simp)⟩) ?_
        simp only [List.setIfInBounds_toArray, List.set_cons_zero, List.set_cons_succ]
        refine any_take (i := 5) (d := 46) (v := (.slice A n cp)) rfl rfl (by kernel_rfl) (by kernel_rfl) (by kernel_rfl) (fun _ _ _ h => h) (Or.inl ⟨by rfl, (by intro w; go_simp)⟩) ?_
        simp only [List.setIfInBounds_toArray, List.set_cons_zero, List.set_cons_succ]
        refine any_two (i := 4) (j := 6) (by kernel_rfl) ?_ ?_
        · refine wpOp_step rfl (fun K hK => ?_)
          go_simp
          refine hK _ _ ?_
          clear hK K
          refine any_one (i := 6) (by kernel_rfl) ?_
          refine wpOp_step rfl (fun K hK => ?_)
          go_simp
          refine Hcp.out.mono ?_
          rintro e w1 ⟨hd, rfl, hNw⟩
          obtain ⟨Ax, cx, rfl, _, _, _⟩ := hNw.form
          obtain ⟨v', w3, cA, cA2, cV, cF, hsz3, hRB, hO⟩ := rput_run Hr.out.1 Hr.out.2.1 Hr.out.2.2.1 Hr.out.2.2.2 (by rw [hN]; exact hLj) hNw
          obtain ⟨A4, n4, c4, rfl⟩ := cA
          obtain ⟨cA, cB, cR⟩ := cA2
          have He := Lib.hid (And.intro hsz3 (And.intro hRB hO))
          clear hsz3 hRB hO hNw
          refine hK _ _ ?_
          clear hK K
          refine any_one (i := 7) (by kernel_rfl) ?_
          refine wpOp_step rfl (fun K hK => ?_)
          go_simp
          refine hK _ _ ?_
          clear hK K
          refine any_one (i := 8) (by kernel_rfl) ?_
          refine op_appendS (d := 49) rfl rfl rfl _ _ rfl _ _ _ w3 rfl rfl cR ?_
          simp only [List.setIfInBounds_toArray, List.set_cons_zero, List.set_cons_succ]
          refine any_take (i := 9) (d := 50) (v := (.pointer (some ⟨g, 0, none⟩))) rfl rfl (by kernel_rfl) (by kernel_rfl) (by kernel_rfl) (fun _ _ _ h => h) (Or.inl ⟨by rfl, (by intro w; go_simp)⟩) ?_
          simp only [List.setIfInBounds_toArray, List.set_cons_zero, List.set_cons_succ]
          refine any_take (i := 10) (d := 51) (v := (.pointer (some ⟨g, 0, none⟩))) rfl rfl (by kernel_rfl) (by kernel_rfl) (by kernel_rfl) (fun _ _ _ h => h) (Or.inl ⟨by rfl, (by intro w; go_simp)⟩) ?_
          simp only [List.setIfInBounds_toArray, List.set_cons_zero, List.set_cons_succ]
          refine any_one (i := 11) (by kernel_rfl) ?_
          refine wpOp_step rfl (fun K hK => ?_)
          go_simp
          refine hK _ _ ?_
          clear hK K
          refine wpAny_done (by kernel_rfl) ?_ _
          have h4d := He.out.2.2.blk Hx.out.2.2.2.2.1 hgS
          have h4z := He.out.2.2.blk Hx.out.2.2.2.1 hzS
          obtain ⟨hth, hR⟩ := rof_there h4z HD.out.1
          have hszd := Hx.out.2.2.2.2.2.size
          have hzlt := Hx.out.2.2.2.1.lt
          have hs4 : (w3.setCell ⟨g, 0, none⟩ (.slice A4 n4 c4)).heap.size = w3.heap.size := by simp [World.setCell]
          have hp := rof_post D HS.out He.out.2.1 (fun i hi => (by
            rcases hi with hi | hi
            · exact .inl hi
            · exact .inr ⟨by omega, by omega⟩)) (Hx.out.2.2.2.2.2.trans He.out.2.2 fun _ _ e => e)
          have Hp := Lib.hid (show RofPost w S g L k x ((w3.setCell ⟨g, 0, none⟩ (.slice A4 n4 c4)).setCells w.heap.size 0 D) from ⟨_, by unfold rofL; rw [if_pos hle, if_neg Hx.out.1]; exact hp.1, hp.2⟩)
          have H2 := Lib.hid (And.intro hth (And.intro hR h4d))
          clear hth hR hp h4d h4z
          go_wp2_with (first
            | (refine wpList_load_row rfl 32 _ rfl gd rfl 32 D.toArray (0, 0) _ H2.out.2.2 Tryz.underlying32 rfl Hi.out ?_)
            | (refine wpList_store_mid rfl 32 _ _ rfl w.heap.size 0 D.toArray rfl rfl H2.out.1.1 Hi.out HD.out.2.2 ?_))
          exact bodyPost_ret (results_row_tmp3 rfl _ _ w.heap.size 32 D.toArray (0, 0) _ rfl H2.out.2.1 Tryz.underlying32 rfl Hi.out) rfl ⟨rfl, Hp.out⟩
        · refine wpOp_step rfl (fun K hK => ?_)
          go_simp
          refine Hcp.out.mono ?_
          rintro e w1 ⟨hd, rfl, hNw⟩
          obtain ⟨Ax, cx, rfl, _, _, _⟩ := hNw.form
          obtain ⟨v', w3, cA, cA2, cV, cF, hsz3, hRB, hO⟩ := rput_run Hr.out.1 Hr.out.2.1 Hr.out.2.2.1 Hr.out.2.2.2 (by rw [hN]; exact hLj) hNw
          obtain ⟨A4, n4, c4, rfl⟩ := cA
          obtain ⟨cA, cB, cR⟩ := cA2
          have He := Lib.hid (And.intro hsz3 (And.intro hRB hO))
          clear hsz3 hRB hO hNw
          refine hK _ _ ?_
          clear hK K
          refine any_two (i := 4) (j := 7) (by kernel_rfl) ?_ ?_
          · refine wpOp_step rfl (fun K hK => ?_)
            go_simp
            refine hK _ _ ?_
            clear hK K
            refine any_one (i := 7) (by kernel_rfl) ?_
            refine wpOp_step rfl (fun K hK => ?_)
            go_simp
            refine hK _ _ ?_
            clear hK K
            refine any_one (i := 8) (by kernel_rfl) ?_
            refine op_appendS (d := 49) rfl rfl rfl _ _ rfl _ _ _ w3 rfl rfl cR ?_
            simp only [List.setIfInBounds_toArray, List.set_cons_zero, List.set_cons_succ]
            refine any_take (i := 9) (d := 50) (v := (.pointer (some ⟨g, 0, none⟩))) rfl rfl (by kernel_rfl) (by kernel_rfl) (by kernel_rfl) (fun _ _ _ h => h) (Or.inl ⟨by rfl, (by intro w; go_simp)⟩) ?_
            simp only [List.setIfInBounds_toArray, List.set_cons_zero, List.set_cons_succ]
            refine any_take (i := 10) (d := 51) (v := (.pointer (some ⟨g, 0, none⟩))) rfl rfl (by kernel_rfl) (by kernel_rfl) (by kernel_rfl) (fun _ _ _ h => h) (Or.inl ⟨by rfl, (by intro w; go_simp)⟩) ?_
            simp only [List.setIfInBounds_toArray, List.set_cons_zero, List.set_cons_succ]
            refine any_one (i := 11) (by kernel_rfl) ?_
            refine wpOp_step rfl (fun K hK => ?_)
            go_simp
            refine hK _ _ ?_
            clear hK K
            refine wpAny_done (by kernel_rfl) ?_ _
            have h4d := He.out.2.2.blk Hx.out.2.2.2.2.1 hgS
            have h4z := He.out.2.2.blk Hx.out.2.2.2.1 hzS
            obtain ⟨hth, hR⟩ := rof_there h4z HD.out.1
            have hszd := Hx.out.2.2.2.2.2.size
            have hzlt := Hx.out.2.2.2.1.lt
            have hs4 : (w3.setCell ⟨g, 0, none⟩ (.slice A4 n4 c4)).heap.size = w3.heap.size := by simp [World.setCell]
            have hp := rof_post D HS.out He.out.2.1 (fun i hi => (by
              rcases hi with hi | hi
              · exact .inl hi
              · exact .inr ⟨by omega, by omega⟩)) (Hx.out.2.2.2.2.2.trans He.out.2.2 fun _ _ e => e)
            have Hp := Lib.hid (show RofPost w S g L k x ((w3.setCell ⟨g, 0, none⟩ (.slice A4 n4 c4)).setCells w.heap.size 0 D) from ⟨_, by unfold rofL; rw [if_pos hle, if_neg Hx.out.1]; exact hp.1, hp.2⟩)
            have H2 := Lib.hid (And.intro hth (And.intro hR h4d))
            clear hth hR hp h4d h4z
            go_wp2_with (first
              | (refine wpList_load_row rfl 32 _ rfl gd rfl 32 D.toArray (0, 0) _ H2.out.2.2 Tryz.underlying32 rfl Hi.out ?_)
              | (refine wpList_store_mid rfl 32 _ _ rfl w.heap.size 0 D.toArray rfl rfl H2.out.1.1 Hi.out HD.out.2.2 ?_))
            exact bodyPost_ret (results_row_tmp3 rfl _ _ w.heap.size 32 D.toArray (0, 0) _ rfl H2.out.2.1 Tryz.underlying32 rfl Hi.out) rfl ⟨rfl, Hp.out⟩
          · refine wpOp_step rfl (fun K hK => ?_)
            go_simp
            refine hK _ _ ?_
            clear hK K
            refine any_one (i := 4) (by kernel_rfl) ?_
            refine wpOp_step rfl (fun K hK => ?_)
            go_simp
            refine hK _ _ ?_
            clear hK K
            refine any_one (i := 8) (by kernel_rfl) ?_
            refine op_appendS (d := 49) rfl rfl rfl _ _ rfl _ _ _ w3 rfl rfl cR ?_
            simp only [List.setIfInBounds_toArray, List.set_cons_zero, List.set_cons_succ]
            refine any_take (i := 9) (d := 50) (v := (.pointer (some ⟨g, 0, none⟩))) rfl rfl (by kernel_rfl) (by kernel_rfl) (by kernel_rfl) (fun _ _ _ h => h) (Or.inl ⟨by rfl, (by intro w; go_simp)⟩) ?_
            simp only [List.setIfInBounds_toArray, List.set_cons_zero, List.set_cons_succ]
            refine any_take (i := 10) (d := 51) (v := (.pointer (some ⟨g, 0, none⟩))) rfl rfl (by kernel_rfl) (by kernel_rfl) (by kernel_rfl) (fun _ _ _ h => h) (Or.inl ⟨by rfl, (by intro w; go_simp)⟩) ?_
            simp only [List.setIfInBounds_toArray, List.set_cons_zero, List.set_cons_succ]
            refine any_one (i := 11) (by kernel_rfl) ?_
            refine wpOp_step rfl (fun K hK => ?_)
            go_simp
            refine hK _ _ ?_
            clear hK K
            refine wpAny_done (by kernel_rfl) ?_ _
            have h4d := He.out.2.2.blk Hx.out.2.2.2.2.1 hgS
            have h4z := He.out.2.2.blk Hx.out.2.2.2.1 hzS
            obtain ⟨hth, hR⟩ := rof_there h4z HD.out.1
            have hszd := Hx.out.2.2.2.2.2.size
            have hzlt := Hx.out.2.2.2.1.lt
            have hs4 : (w3.setCell ⟨g, 0, none⟩ (.slice A4 n4 c4)).heap.size = w3.heap.size := by simp [World.setCell]
            have hp := rof_post D HS.out He.out.2.1 (fun i hi => (by
              rcases hi with hi | hi
              · exact .inl hi
              · exact .inr ⟨by omega, by omega⟩)) (Hx.out.2.2.2.2.2.trans He.out.2.2 fun _ _ e => e)
            have Hp := Lib.hid (show RofPost w S g L k x ((w3.setCell ⟨g, 0, none⟩ (.slice A4 n4 c4)).setCells w.heap.size 0 D) from ⟨_, by unfold rofL; rw [if_pos hle, if_neg Hx.out.1]; exact hp.1, hp.2⟩)
            have H2 := Lib.hid (And.intro hth (And.intro hR h4d))
            clear hth hR hp h4d h4z
            go_wp2_with (first
              | (refine wpList_load_row rfl 32 _ rfl gd rfl 32 D.toArray (0, 0) _ H2.out.2.2 Tryz.underlying32 rfl Hi.out ?_)
              | (refine wpList_store_mid rfl 32 _ _ rfl w.heap.size 0 D.toArray rfl rfl H2.out.1.1 Hi.out HD.out.2.2 ?_))
            exact bodyPost_ret (results_row_tmp3 rfl _ _ w.heap.size 32 D.toArray (0, 0) _ rfl H2.out.2.1 Tryz.underlying32 rfl Hi.out) rfl ⟨rfl, Hp.out⟩

end Go.Proofs.YtihmddpafbackaaGreat
