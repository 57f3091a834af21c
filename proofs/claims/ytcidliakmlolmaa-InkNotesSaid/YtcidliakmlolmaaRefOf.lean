/-
  Of of the document's own answer, over this seat's translation.
-/
import Derived.Test.YtcidliakmlolmaaPadded
import Derived.Test.YtcidliakmlolmaaTail
import Derived.Test.YtcidliakmlolmaaWritten2
namespace Go.Proofs.Ytcidliakmlolmaa
open Go.RowKit
set_option linter.unusedVariables false

/-- A block that is filled. -/
def fill (P : List UInt8) (m i : Nat) : List UInt8 := (P.drop (64 * m)).take i ++ List.replicate (64 - i) 0
theorem fill_full (P : List UInt8) (m : Nat) : fill P m 64 = (P.drop (64 * m)).take 64 := by unfold fill; simp
theorem fill_len {P : List UInt8} {m i : Nat} (h : 64 * m + 64 ≤ P.length) (hi : i ≤ 64) : (fill P m i).length = 64 := by
  unfold fill; rw [List.length_append, List.length_take, List.length_drop, List.length_replicate]; omega
theorem fill_set {P : List UInt8} {m i : Nat} (h : 64 * m + 64 ≤ P.length) (hi : i < 64) : (fill P m i).set i (P[64 * m + i]'(by omega)) = fill P m (i + 1) := by
  unfold fill
  have hl : ((P.drop (64 * m)).take i).length = i := by rw [List.length_take, List.length_drop]; omega
  rw [List.set_append_right _ _ (by omega), hl, Nat.sub_self]
  obtain ⟨k, hk⟩ : ∃ k, 64 - i = k + 1 := ⟨63 - i, by omega⟩
  rw [hk, show 64 - (i + 1) = k from by omega, List.replicate_succ, List.set_cons_zero]
  rw [List.take_succ_eq_append_getElem (by rw [List.length_drop]; omega), List.append_assoc, List.getElem_drop]
  rfl

set_option maxRecDepth 100000 in
set_option maxHeartbeats 3200000 in
theorem refOf_any (A : Option Addr) (c n : Nat) (l : List UInt8) (w : World) (hB : Bs w A l) (hn : l.length = n) (hl : n ≤ 140737488351232) :
    Calls Try.prog 21 #[.slice A n c] w fun e w' => e = .returned (.agg (cbs (digest l)).toArray) ∧ Below w.heap.size w w' := by
  have Hp := Lib.hid (fun w' b0 => padded_any A c n l w' (Bs.after b0 hB) hn hl)
  have b0 : Below w.heap.size w (w.alloc (.cells (cbs (List.replicate 32 0)).toArray 28)) := (Below.refl _ _).alloc (Nat.le_refl _) _
  have Hb0 := Lib.hid b0
  clear hB b0
  go_enter Try.func21, Try.ntmps21
  go_wp2_with fail
  refine (Hp.out _ Hb0.out).mono ?_
  rintro e w1 ⟨v1, rfl, hN1⟩
  obtain ⟨A1, c1, rfl, hc1, hcm1, hB1⟩ := hN1.form
  have z1 := hN1.2.size
  simp only [World.size_alloc] at z1
  have hZ1 : Blk w1 w.heap.size 28 (cbs (List.replicate 32 0)) := Blk.below (Blk.new rfl rfl) hN1.2 (by simp)
  have t1 : Below w.heap.size w w1 := Hb0.out.trans (hN1.2.mono (by simp))
  have H1 := Lib.hid (And.intro hZ1 (And.intro t1 hB1))
  clear hN1 hB1 hZ1 t1
  go_wp2_with fail
  refine (first_any _).mono ?_
  rintro e w2 ⟨rfl, hb2⟩
  have z2 := hb2.size
  have t2 : Below w.heap.size w w2 := H1.out.2.1.trans (hb2.mono (by omega))
  have hZ2 := H1.out.1.below hb2 H1.out.1.lt
  have hB2 := H1.out.2.2.after hb2
  have zB : Blk (w2.alloc (.cells (l8 ⟨0, 0, 0, 0, 0, 0, 0, 0⟩).toArray 61)) w2.heap.size 61 (l8 ⟨0, 0, 0, 0, 0, 0, 0, 0⟩) := Blk.new rfl rfl
  have hth : (w2.alloc (.cells (l8 ⟨0, 0, 0, 0, 0, 0, 0, 0⟩).toArray 61)).there w2.heap.size 0 (cws H0).toArray.size := zB.there
  have hi : (Try.prog.info? 61).map (·.size) = some (cws H0).toArray.size := info8w
  have hS := zB.setAll (vs := l8 S8.first) rfl
  have hZS := Blk.farAll (g' := w2.heap.size) (by have := hZ2.lt; omega) (l8 S8.first) (w := w2.alloc (.cells (l8 ⟨0, 0, 0, 0, 0, 0, 0, 0⟩).toArray 61)) (o := 0) (hZ2.old _)
  have tS : Below w2.heap.size w2 ((w2.alloc (.cells (l8 ⟨0, 0, 0, 0, 0, 0, 0, 0⟩).toArray 61)).setCells w2.heap.size 0 (l8 S8.first)) := Below.setCells (by omega) _ ((Below.refl _ _).alloc (Nat.le_refl _) _)
  have Hth := Lib.hid hth
  have Hi := Lib.hid hi
  have Hq := Lib.hid (And.intro hS tS)
  have H2 := Lib.hid (And.intro hZ2 (And.intro t2 hB2))
  obtain ⟨P, hP⟩ : ∃ P, pad l = P := ⟨_, rfl⟩
  have hPl : P.length ≤ 140737488351432 := by
    rw [← hP]; unfold pad gap
    simp only [List.length_append, List.length_cons, List.length_replicate, be8_len]
    omega
  have hP64 : P.length % 64 = 0 := by
    rw [← hP]; unfold pad gap
    simp only [List.length_append, List.length_cons, List.length_replicate, be8_len]
    omega
  have hlt2 : w.heap.size < w2.heap.size := by omega
  rw [hP] at hc1 H2 ⊢
  have HP := Lib.hid hP
  clear hth hi hS hZS tS zB hB2 hZ2 t2 hb2 H1 hP
  go_wp2_with (refine wpList_store_mid rfl 61 _ _ rfl w2.heap.size 0 (cws H0).toArray rfl rfl Hth.out Hi.out (cws_one H0) ?_; simp only [Act.put])
  go_loopw [5] (fun v wr => ∃ m : Nat, 64 * m ≤ P.length ∧ v = .int .i64 (64 * (m : Int)) ∧ Blk wr w2.heap.size 61 (l8 (eat S8.first m P)) ∧ Below w2.heap.size w2 wr) (fun v _ => P.length - (intOf v).toNat)
  case atStart => exact ⟨0, by omega, rfl, Hq.out⟩
  case round =>
    obtain ⟨m, hm, rfl, hS, hnx⟩ := hrel
    have hm0 : (0 : Int) ≤ 64 * (m : Int) := by omega
    by_cases hlt : 64 * m < P.length
    · have hlt' : 64 * (m : Int) < P.length := by omega
      have h64 : 64 * m + 64 ≤ P.length := by omega
      have hm6 : 64 * (m : Int) ≤ 140737488351432 := by omega
      obtain ⟨wo, hwo⟩ : ∃ wo : World, wo = wr := ⟨_, rfl⟩
      have zS := hS.lt
      have bB : Blk (wr.alloc (.cells (cbs (List.replicate 64 0)).toArray 63)) wr.heap.size 63 (cbs (fill P m 0)) := Blk.new rfl rfl
      have a0 : Below wr.heap.size wr (wr.alloc (.cells (cbs (List.replicate 64 0)).toArray 63)) := (Below.refl _ _).alloc (Nat.le_refl _) _
      have H0' := Lib.hid (And.intro bB (And.intro (hS.below a0 hS.lt) (hnx.trans (a0.mono hnx.size))))
      clear hS hnx bB a0
      obtain ⟨gb, hgb⟩ : ∃ gb, wr.heap.size = gb := ⟨_, rfl⟩
      have hg2 : w2.heap.size < gb := by omega
      go_wp2
      go_loopw [7] (fun v ws => ∃ i : Nat, i ≤ 64 ∧ v = .int .i64 i ∧ Blk ws gb 63 (cbs (fill P m i)) ∧ Blk ws w2.heap.size 61 (l8 (eat S8.first m P)) ∧ Below w2.heap.size w2 ws) (fun v _ => 64 - (intOf v).toNat)
      case atStart => exact ⟨0, by omega, rfl, by rw [← hgb]; exact H0'.out⟩
      case round =>
        obtain ⟨i, hi, rfl, hb, hS, hnx⟩ := hrel
        have hi0 : (0 : Int) ≤ (i : Int) := by omega
        by_cases hi64 : i < 64
        · have hi1 : (i : Int) < 64 := by omega
          have hBs := H2.out.2.2.after hnx
          obtain ⟨ab, off, eA, hab, hcell⟩ := hBs.at_ (i := 64 * m + i) (by omega)
          have c1 := hcell (64 * m + i) (by omega)
          subst eA
          have d0 := hb.cell (i := i) (v := cb ((fill P m i).getD i 0)) (by
            have hl := fill_len h64 (show i ≤ 64 by omega)
            rw [cbs_get, List.getElem?_eq_getElem (by omega), List.getD_eq_getElem?_getD, List.getElem?_eq_getElem (by omega)]; rfl)
          have f0 := hb.free i
          generalize cb ((fill P m i).getD i 0) = old at *
          have Hset := Lib.hid (fill_set h64 hi64)
          clear hBs hcell
          go_wp2
          go_roundw
          case rel =>
            have hs := hb.set_ i (cb (P[64 * m + i]'(by omega)))
            rw [cbs_set, Hset.out] at hs
            exact ⟨i + 1, by omega, by go_num, hs, hS.far (by dsimp only; omega) _, hnx.setCell (by dsimp only; omega) _⟩
          case measure => simp [intOf]; omega
        · have hi1 : ¬ (i : Int) < 64 := by omega
          have hie : i = 64 := by omega
          subst hie
          rw [fill_full] at hb
          have hbl : ((P.drop (64 * m)).take 64).length = 64 := by rw [List.length_take, List.length_drop]; omega
          have hmore : rnd (eat S8.first m P) ((P.drop (64 * m)).take 64) = eat S8.first (m + 1) P := (eat_more _ _ _).symm
          have hi64' : (Try.prog.info? 63).map (·.size) = some (cbs ((P.drop (64 * m)).take 64)).toArray.size := by rw [List.size_toArray, cbs_length, hbl]; exact info64b
          have hrr := fun w' => refRound_any (eat S8.first m P) ((P.drop (64 * m)).take 64) w' hbl
          rw [hmore] at hrr
          obtain ⟨r8, hr8, hr8l, hr8o⟩ : ∃ r8 : List Value, l8 (eat S8.first (m + 1) P) = r8 ∧ r8.length = 8 ∧ r8.toArray.all (·.oneCell') = true := ⟨_, rfl, rfl, cws_one (eat S8.first (m + 1) P).list⟩
          have hrr' : ∀ w', Calls Try.prog 32 #[v8 (eat S8.first m P), .agg (cbs ((P.drop (64 * m)).take 64)).toArray] w' fun e w'' => e = .returned (.agg r8.toArray) ∧ Below w'.heap.size w' w'' := by rw [← hr8]; exact hrr
          have Hrr := Lib.hid hrr'
          have HS := Lib.hid hS
          have HBk := Lib.hid hb
          have H64 := Lib.hid hi64'
          have hi8 : (Try.prog.info? 61).map (·.size) = some r8.toArray.size := by rw [List.size_toArray, hr8l]; exact info8w
          have Hone := Lib.hid hr8o
          have HR8 := Lib.hid (And.intro hr8 (And.intro hr8l hi8))
          have Hnx := Lib.hid hnx
          clear hmore hrr hrr' hS hb hi64' hnx hr8 hr8l hr8o hi8
          go_wp2_with (first
            | (refine wpList_load_row rfl 61 _ rfl w2.heap.size rfl 61 (l8 (eat S8.first m P)).toArray (0, 0) _ HS.out Try.underlying61 rfl info8w ?_)
            | (refine wpList_load_row rfl 63 _ rfl gb rfl 63 (cbs ((P.drop (64 * m)).take 64)).toArray (0, 0) _ HBk.out Try.underlying63 rfl H64.out ?_))
          refine (Hrr.out _).mono ?_
          rintro e w3 ⟨rfl, hb3⟩
          have hS3 := HS.out.below hb3 HS.out.lt
          have e8 : r8.toArray.size = 8 := by rw [List.size_toArray]; exact HR8.out.2.1
          have hth : w3.there w2.heap.size 0 r8.toArray.size := by rw [e8]; exact hS3.there
          have q1 := hS3.setAll (vs := r8) (by rw [HR8.out.2.1]; rfl)
          have q2 : Below w2.heap.size w2 (w3.setCells w2.heap.size 0 r8) := Below.setCells (Nat.le_refl _) _ (Hnx.out.trans (hb3.mono Hnx.out.size))
          have Hth := Lib.hid hth
          have Hq3 := Lib.hid (And.intro q1 q2)
          clear hS3 hth q1 q2 hb3
          go_wp2_with (refine wpList_store_mid rfl 61 _ _ rfl w2.heap.size 0 r8.toArray rfl rfl Hth.out HR8.out.2.2 Hone.out ?_; simp only [Act.put])
          go_roundw
          case rel => exact ⟨m + 1, by omega, by go_num, by rw [HR8.out.1]; exact Hq3.out⟩
          case measure => simp [intOf]; omega
    · have hme : 64 * m = P.length := by omega
      have hlt' : ¬ 64 * (m : Int) < P.length := by omega
      have hdig : (eat S8.first m P).bytes = digest l := by
        unfold digest
        rw [HP.out, ← hme, Nat.mul_div_cancel_left m (by omega)]
      generalize eat S8.first m P = s at *
      have hZ := H2.out.1.below hnx (by omega)
      have hwb : Below w.heap.size w wr := H2.out.2.1.trans (hnx.mono H2.out.2.1.size)
      obtain ⟨ob, hob⟩ : ∃ ob, wr.heap.size = ob := ⟨_, rfl⟩
      have hob2 : w2.heap.size < ob := by have := hS.lt; omega
      have H0' := Lib.hid (And.intro (show Blk (wr.alloc (.cells (cbs (List.replicate 32 0)).toArray 28)) ob 28 (cbs (wr32 s 0)) from Blk.new rfl hob) (And.intro (hS.old (.cells (cbs (List.replicate 32 0)).toArray 28)) (And.intro (hZ.old (.cells (cbs (List.replicate 32 0)).toArray 28)) (hwb.alloc hwb.size (.cells (cbs (List.replicate 32 0)).toArray 28)))))
      have Hdig := Lib.hid hdig
      clear hnx hS hZ hwb hdig
      go_wp2
      go_loopw [9] (fun v ws => ∃ k : Nat, k ≤ 32 ∧ v = .int .i64 k ∧ Blk ws ob 28 (cbs (wr32 s k)) ∧ Blk ws w2.heap.size 61 (l8 s) ∧ Blk ws w.heap.size 28 (cbs (List.replicate 32 0)) ∧ Below w.heap.size w ws) (fun v _ => 32 - (intOf v).toNat)
      case atStart => exact ⟨0, by omega, rfl, H0'.out⟩
      case round =>
        obtain ⟨k, hk, rfl, hD, hS, hZ, hnx⟩ := hrel
        have hk0 : (0 : Int) ≤ (k : Int) := by omega
        by_cases hk32 : k < 32
        · have hk1 : (k : Int) < 32 := by omega
          obtain ⟨q, hq⟩ : ∃ q, k / 4 = q := ⟨_, rfl⟩
          obtain ⟨j, hj⟩ : ∃ j, k % 4 = j := ⟨_, rfl⟩
          have hkq : k = 4 * q + j := by omega
          have hj4 : j < 4 := by omega
          have hq8 : q < 8 := by omega
          have hb := byte_at s q j hq8 hj4
          rw [← hkq] at hb
          have c1 := hS.cell (i := q) (v := .int .u32 ((s.list.getD q 0).toNat : Int)) (by
            have hl : s.list.length = 8 := rfl
            rw [show l8 s = cws s.list from rfl, cws_get _ _ (by omega), List.getD_eq_getElem?_getD, List.getElem?_eq_getElem (by omega)]; rfl)
          have d0 := hD.cell (i := k) (v := cb ((wr32 s k).getD k 0)) (by
            have hl := wr32_len s (k := k) (by omega)
            rw [cbs_get, List.getElem?_eq_getElem (by omega), List.getD_eq_getElem?_getD, List.getElem?_eq_getElem (by omega)]; rfl)
          have f0 := hD.free k
          have hw := w_lt (s.list.getD q 0)
          have hset := wr32_set s hk32
          rw [hb] at hset
          generalize cb ((wr32 s k).getD k 0) = old at *
          generalize s.list.getD q 0 = x at *
          have Hset := Lib.hid hset
          have e1 : (k : Int) / 4 = (q : Int) := by omega
          have e2 : (k : Int) % 4 = (j : Int) := by omega
          have hj0 : (0 : Int) ≤ (j : Int) := by omega
          have hj3 : (j : Int) ≤ 3 := by omega
          have hq0 : (0 : Int) ≤ (q : Int) := by omega
          have hq7 : (q : Int) < 8 := by omega
          have Hkq := Lib.hid hkq
          clear hset hb hq hj hkq hq8 hj4
          go_wp2
          go_roundw
          case rel =>
            have ec : Value.int .u8 ((x.toNat : Int) / 2 ^ (24 - 8 * j) % 256) = cb (UInt8.ofNat (x.toNat / 2 ^ (24 - 8 * j))) := by
              rw [← cb_mod]; simp
            have hs := hD.set_ k (cb (UInt8.ofNat (x.toNat / 2 ^ (24 - 8 * j))))
            rw [cbs_set, Hset.out] at hs
            rw [ec]
            exact ⟨k + 1, by omega, by go_num, hs, hS.far (by dsimp only; omega) _, hZ.far (by dsimp only; omega) _, hnx.setCell (by dsimp only; omega) _⟩
          case measure => simp [intOf]; omega
        · have e : k = 32 := by omega
          subst e
          have hk1 : ¬ ((32 : Nat) : Int) < 32 := by omega
          have hD8 : Blk wr ob 28 (cbs s.bytes) := hD
          have hth : wr.there w.heap.size 0 (cbs s.bytes).toArray.size := hZ.there
          have hR' := hZ.setAll (vs := cbs s.bytes) rfl
          have hnx' : Below w.heap.size w (wr.setCells w.heap.size 0 (cbs s.bytes)) := Below.setCells (by omega) _ hnx
          have hi : (Try.prog.info? 28).map (·.size) = some (cbs s.bytes).toArray.size := info32b
          have Hi := Lib.hid hi
          have Hth := Lib.hid hth
          have Hone := Lib.hid (cbs_one' s.bytes)
          have HE := Lib.hid (show cbs s.bytes = cbs (digest l) by rw [Hdig.out])
          clear hk hk32 hD hZ hS hnx hth hi
          generalize cbs s.bytes = vs at *
          go_wp2_with (first
            | refine wpList_load_row rfl 28 _ rfl ob rfl 28 vs.toArray (0, 0) _ hD8 Try.underlying28 rfl Hi.out ?_
            | refine wpList_store_mid rfl 28 _ _ rfl w.heap.size 0 vs.toArray rfl rfl Hth.out Hi.out Hone.out ?_)
          exact bodyPost_ret (results_cell_row rfl _ _ w.heap.size 28 vs.toArray (0, 0) _ rfl hR' Try.underlying28 rfl Hi.out) rfl ⟨by rw [HE.out], hnx'⟩
end Go.Proofs.Ytcidliakmlolmaa
