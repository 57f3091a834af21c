/-
  The statements' own helper steps: what a round adds to a state.
-/
import Derived.Test.YtamfjnomkefddaaRound2
import Derived.Test.YtamfjnomkefddaaEqW
import Derived.Test.YtamfjnomkefddaaHex
import Derived.Outline
namespace Go.Proofs.Ytamfjnomkefddaa
open Go.RowKit
set_option linter.unusedVariables false

theorem sub_word (a b : UInt32) : IntKind.u32.wrap ((a.toNat : Int) - (b.toNat : Int)) = ((a - b).toNat : Int) := by
  have ha := a.toNat_lt; have hb := b.toNat_lt
  rw [UInt32.toNat_sub]
  rw [IntKind.wrap_u32]
  omega

/-- The words once k of them are taken off. -/
def mixk (x : S8) (bs : List UInt8) (k : Nat) : List UInt32 := (steps8 bs x 64).list.take k ++ (rnd x bs).list.drop k
theorem rnd_get (x : S8) (bs : List UInt8) (k : Nat) (h : k < 8) : ∃ r st d, (rnd x bs).list[k]? = some r ∧ x.list[k]? = some st ∧ (steps8 bs x 64).list[k]? = some d ∧ r - st = d := by
  have hs := S8.sub_add (steps8 bs x 64) x
  have hr : rnd x bs = (steps8 bs x 64).add x := rfl
  rw [hr]
  obtain ⟨h0, h1, h2, h3, h4, h5, h6, h7⟩ := hs
  match k, h with
  | 0, _ => exact ⟨_, _, _, rfl, rfl, rfl, h0⟩
  | 1, _ => exact ⟨_, _, _, rfl, rfl, rfl, h1⟩
  | 2, _ => exact ⟨_, _, _, rfl, rfl, rfl, h2⟩
  | 3, _ => exact ⟨_, _, _, rfl, rfl, rfl, h3⟩
  | 4, _ => exact ⟨_, _, _, rfl, rfl, rfl, h4⟩
  | 5, _ => exact ⟨_, _, _, rfl, rfl, rfl, h5⟩
  | 6, _ => exact ⟨_, _, _, rfl, rfl, rfl, h6⟩
  | 7, _ => exact ⟨_, _, _, rfl, rfl, rfl, h7⟩
theorem mixk_get (x : S8) (bs : List UInt8) (k : Nat) (h : k < 8) {r : UInt32} (hr : (rnd x bs).list[k]? = some r) : (mixk x bs k)[k]? = some r := by
  unfold mixk
  rw [List.getElem?_append_right (by rw [List.length_take]; exact Nat.min_le_left _ _), List.length_take, Nat.min_eq_left (by show k ≤ 8; omega), Nat.sub_self, List.getElem?_drop, Nat.add_zero]
  exact hr
theorem mixk_set (x : S8) (bs : List UInt8) (k : Nat) (h : k < 8) {d : UInt32} (hd : (steps8 bs x 64).list[k]? = some d) : (mixk x bs k).set k d = mixk x bs (k + 1) := by
  unfold mixk
  have h8 : (rnd x bs).list.length = 8 := rfl
  have h8' : (steps8 bs x 64).list.length = 8 := rfl
  have hkl : k < (steps8 bs x 64).list.length := by rw [h8']; exact h
  rw [List.set_append_right _ _ (by rw [List.length_take]; exact Nat.min_le_left _ _), List.length_take, Nat.min_eq_left (by omega), Nat.sub_self, List.take_succ_eq_append_getElem hkl]
  rw [List.drop_eq_getElem_cons (by rw [h8]; exact h)]
  rw [List.getElem?_eq_getElem hkl] at hd
  injection hd with hd
  rw [hd, List.set_cons_zero, List.append_assoc]
  rfl
theorem cws_at (l : List UInt32) (k : Nat) {r : UInt32} (h : l[k]? = some r) : (cws l)[k]? = some (.int .u32 (r.toNat : Int)) := by
  unfold cws; rw [List.getElem?_map, h]; rfl

set_option maxRecDepth 100000 in
set_option maxHeartbeats 800000 in
theorem steps_any (x : S8) (bs : List UInt8) (w : World) (hl : bs.length = 64) :
    Calls Try.prog 38 #[v8 x, .agg (cbs bs).toArray] w fun e w' => e = .returned (v8 (steps8 bs x 64)) ∧ Below w.heap.size w w' := by
  obtain ⟨r8, hr8, hr8l, hr8o, hr8c⟩ : ∃ r8 : List Value, v8 (rnd x bs) = .agg r8.toArray ∧ r8.length = 8 ∧ r8.toArray.all (·.oneCell') = true ∧ r8 = cws (rnd x bs).list := ⟨l8 (rnd x bs), rfl, rfl, cws_one (rnd x bs).list, rfl⟩
  have hr := fun w => bigRound_any x bs w hl
  rw [hr8, v8_lit] at hr
  have Hr := Lib.hid hr
  have Hr8 := Lib.hid (And.intro hr8 (And.intro hr8l (And.intro hr8o hr8c)))
  rw [v8_lit x]
  have Hl := Lib.hid hl
  clear hr hr8 hr8l hr8o hr8c hl
  have p1 : Blk (((w.alloc (.cells (l8 x).toArray 53)).alloc (.cells (cbs bs).toArray 54)).alloc (.cells (l8 ⟨0, 0, 0, 0, 0, 0, 0, 0⟩).toArray 53)) w.heap.size 53 (l8 x) := ((Blk.new rfl rfl).old _).old _
  have p2 : Blk (((w.alloc (.cells (l8 x).toArray 53)).alloc (.cells (cbs bs).toArray 54)).alloc (.cells (l8 ⟨0, 0, 0, 0, 0, 0, 0, 0⟩).toArray 53)) (w.heap.size + 1) 54 (cbs bs) := (Blk.new rfl (by simp)).old _
  have p3 : Blk (((w.alloc (.cells (l8 x).toArray 53)).alloc (.cells (cbs bs).toArray 54)).alloc (.cells (l8 ⟨0, 0, 0, 0, 0, 0, 0, 0⟩).toArray 53)) (w.heap.size + 1 + 1) 53 (l8 ⟨0, 0, 0, 0, 0, 0, 0, 0⟩) := Blk.new rfl (by simp)
  have t0 : Below w.heap.size w (((w.alloc (.cells (l8 x).toArray 53)).alloc (.cells (cbs bs).toArray 54)).alloc (.cells (l8 ⟨0, 0, 0, 0, 0, 0, 0, 0⟩).toArray 53)) := (((Below.refl _ _).alloc (Nat.le_refl _) _).alloc (by simp) _).alloc (by simp; omega) _
  have hi2 : (Try.prog.info? 54).map (·.size) = some (cbs bs).toArray.size := by rw [List.size_toArray, cbs_length, Hl.out]; exact info64b
  have Hi2 := Lib.hid hi2
  have hs0 : (((w.alloc (.cells (l8 x).toArray 53)).alloc (.cells (cbs bs).toArray 54)).alloc (.cells (l8 ⟨0, 0, 0, 0, 0, 0, 0, 0⟩).toArray 53)).heap.size = w.heap.size + 1 + 1 + 1 := by simp
  have Hp := Lib.hid (And.intro p1 (And.intro p2 (And.intro p3 (And.intro t0 hs0))))
  clear hi2 p1 p2 p3 t0 hs0
  go_enter Try.func38, Try.ntmps38
  go_wp2_with (refine wpList_load_row rfl 54 _ rfl (w.heap.size + 1) rfl 54 (cbs bs).toArray (0, 0) _ Hp.out.2.1 Try.underlying54 rfl Hi2.out ?_)
  refine (Hr.out _).mono ?_
  rintro e w1 ⟨rfl, hb1⟩
  obtain ⟨p1, p2, p3, t0, hs0⟩ := Hp.out
  have z1 : w.heap.size + 1 + 1 + 1 ≤ w1.heap.size := by have h := hb1.size; simp only [World.size_alloc] at h; exact h
  have q1 := p1.below hb1 p1.lt
  have t1 : Below w.heap.size w w1 := t0.trans (hb1.mono t0.size)
  have hsz : r8.toArray.size = 8 := by rw [List.size_toArray]; exact Hr8.out.2.1
  have zB : Blk (w1.alloc (.cells (l8 ⟨0, 0, 0, 0, 0, 0, 0, 0⟩).toArray 53)) w1.heap.size 53 (l8 ⟨0, 0, 0, 0, 0, 0, 0, 0⟩) := Blk.new rfl rfl
  have hth : (w1.alloc (.cells (l8 ⟨0, 0, 0, 0, 0, 0, 0, 0⟩).toArray 53)).there w1.heap.size 0 r8.toArray.size := by rw [hsz]; exact zB.there
  have hi : (Try.prog.info? 53).map (·.size) = some r8.toArray.size := by rw [hsz]; exact info8w
  have hR := zB.setAll (vs := r8) (by rw [Hr8.out.2.1]; rfl)
  have hS := Blk.farAll (g' := w1.heap.size) (by omega) r8 (w := w1.alloc (.cells (l8 ⟨0, 0, 0, 0, 0, 0, 0, 0⟩).toArray 53)) (o := 0) (q1.old _)
  have hnx : Below w.heap.size w ((w1.alloc (.cells (l8 ⟨0, 0, 0, 0, 0, 0, 0, 0⟩).toArray 53)).setCells w1.heap.size 0 r8) := Below.setCells t1.size _ (t1.alloc t1.size _)
  have q3 := p3.below hb1 p3.lt
  have hS3 := Blk.farAll (g' := w1.heap.size) (by omega) r8 (w := w1.alloc (.cells (l8 ⟨0, 0, 0, 0, 0, 0, 0, 0⟩).toArray 53)) (o := 0) (q3.old _)
  have Hth := Lib.hid hth
  have Hi := Lib.hid hi
  have Hq := Lib.hid (And.intro hR (And.intro hS (And.intro hnx hS3)))
  have hgt : w.heap.size + 1 + 1 < w1.heap.size := by omega
  clear p1 p2 p3 t0 hs0 z1 q1 t1 hsz zB hth hi hR hS hnx hb1 q3 hS3
  go_wp2_with (refine wpList_store_mid rfl 53 _ _ rfl w1.heap.size 0 r8.toArray rfl rfl Hth.out Hi.out Hr8.out.2.2.1 ?_; simp only [Act.put])
  go_loopw [6] (fun v wr => ∃ k : Nat, k ≤ 8 ∧ v = .int .i64 k ∧ Blk wr w1.heap.size 53 (cws (mixk x bs k)) ∧ Blk wr w.heap.size 53 (cws x.list) ∧ Blk wr (w.heap.size + 1 + 1) 53 (l8 ⟨0, 0, 0, 0, 0, 0, 0, 0⟩) ∧ Below w.heap.size w wr) (fun v _ => 8 - (intOf v).toNat)
  case atStart => exact ⟨0, Nat.zero_le _, rfl, by rw [show cws (mixk x bs 0) = r8 from Hr8.out.2.2.2.symm]; exact Hq.out.1, Hq.out.2.1, Hq.out.2.2.2, Hq.out.2.2.1⟩
  case round =>
    obtain ⟨k, hk, rfl, hR, hS, hZ, hnx⟩ := hrel
    have hk0 : (0 : Int) ≤ k := by omega
    have hk9 : (k : Int) ≤ 8 := by omega
    by_cases hk8 : k < 8
    · have hk1 : (k : Int) < 8 := by omega
      obtain ⟨r, st, d, h1, h2, h3, h4⟩ := rnd_get x bs k hk8
      have c1 : wr.drew.cell? ⟨w1.heap.size, k, none⟩ = some (.int .u32 (r.toNat : Int)) := hR.cell (cws_at _ _ (mixk_get x bs k hk8 h1))
      have c2 : wr.drew.cell? ⟨w.heap.size, k, none⟩ = some (.int .u32 (st.toNat : Int)) := hS.cell (cws_at _ _ h2)
      have f1 : wr.drew.frozen? ⟨w1.heap.size, k, none⟩ = false := hR.free k
      have hsub := sub_word r st
      rw [h4] at hsub
      have hset : Blk (wr.drew.setCell ⟨w1.heap.size, k, none⟩ (.int .u32 (d.toNat : Int))) w1.heap.size 53 (cws (mixk x bs (k + 1))) := by
        have := Blk.set_ (w := wr.drew) hR k (.int .u32 (d.toNat : Int))
        rw [← mixk_set x bs k hk8 h3]
        unfold cws at this ⊢
        rw [List.map_set]; exact this
      have hS' : Blk (wr.drew.setCell ⟨w1.heap.size, k, none⟩ (.int .u32 (d.toNat : Int))) w.heap.size 53 (cws x.list) := Blk.far (w := wr.drew) hS (by show w.heap.size ≠ w1.heap.size; omega) _
      have hZ' : Blk (wr.drew.setCell ⟨w1.heap.size, k, none⟩ (.int .u32 (d.toNat : Int))) (w.heap.size + 1 + 1) 53 (l8 ⟨0, 0, 0, 0, 0, 0, 0, 0⟩) := Blk.far (w := wr.drew) hZ (by show w.heap.size + 1 + 1 ≠ w1.heap.size; omega) _
      have hn' : Below w.heap.size w (wr.drew.setCell ⟨w1.heap.size, k, none⟩ (.int .u32 (d.toNat : Int))) := Below.setCells (g := w1.heap.size) (o := k) (by omega) [.int .u32 (d.toNat : Int)] hnx.drew
      have Hs := Lib.hid (And.intro hset (And.intro hS' (And.intro hZ' hn')))
      clear hset hS' hZ' hn' hR hS hZ hnx h1 h2 h3 h4
      go_wp2
      go_region_with (fail)
      all_goals
        go_wp2
        go_roundw
        case rel => exact ⟨k + 1, by omega, by go_num, Hs.out⟩
        case measure => simp [intOf]; omega
    · have hke : k = 8 := by omega
      subst hke
      have hm : cws (mixk x bs 8) = l8 (steps8 bs x 64) := rfl
      rw [hm] at hR
      obtain ⟨e8, he8, he8l, he8o⟩ : ∃ e8 : List Value, l8 (steps8 bs x 64) = e8 ∧ e8.length = 8 ∧ e8.toArray.all (·.oneCell') = true := ⟨_, rfl, rfl, cws_one (steps8 bs x 64).list⟩
      rw [he8] at hR
      have hsz : e8.toArray.size = 8 := by rw [List.size_toArray]; exact he8l
      have hth : wr.there (w.heap.size + 1 + 1) 0 e8.toArray.size := by rw [hsz]; exact hZ.there
      have hi : (Try.prog.info? 53).map (·.size) = some e8.toArray.size := by rw [hsz]; exact info8w
      have hF := hZ.setAll (vs := e8) (by rw [he8l]; rfl)
      have hnF : Below w.heap.size w (wr.setCells (w.heap.size + 1 + 1) 0 e8) := Below.setCells (by omega) _ hnx
      have He := Lib.hid (And.intro he8 (And.intro he8o (And.intro hF hnF)))
      have HR := Lib.hid hR
      have HthE := Lib.hid hth
      have HiE := Lib.hid hi
      clear hR hS hZ hnx hm he8 he8l he8o hsz hth hi hF hnF
      go_wp2_with (first
        | (refine wpList_load_row rfl 53 _ rfl w1.heap.size rfl 53 e8.toArray (0, 0) _ HR.out Try.underlying53 rfl HiE.out ?_)
        | (refine wpList_store_mid rfl 53 _ _ rfl (w.heap.size + 1 + 1) 0 e8.toArray rfl rfl HthE.out HiE.out He.out.2.1 ?_))
      refine bodyPost_ret (results_cell_row rfl _ _ (w.heap.size + 1 + 1) 53 e8.toArray (0, 0) _ rfl He.out.2.2.1 Try.underlying53 rfl HiE.out) rfl ?_
      exact ⟨by unfold v8; rw [He.out.1], He.out.2.2.2⟩
end Go.Proofs.Ytamfjnomkefddaa
