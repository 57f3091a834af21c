/-
  Laid together for a hand-in: Digest, AnyOrder, Write.
-/
import Derived.Test.YtfaeechidjpjbaaGreatZ06
import Derived.Test.YtfaeechidjpjbaaGreatZ05
import Derived.Laws.IdiomCopy
import Derived.Deep.CutBlock
import Derived.RegionTactic

namespace Go.Proofs.YtfaeechidjpjbaaGreat

open Go.RowKit

set_option linter.unusedVariables false

theorem u8_one : (Tryz.prog.info? 5).map (·.size) = some 1 := by kernel_rfl

/-- copy(d, s) of bytes: the first ones of 'l' are laid down from ⟨g, off⟩ on. -/
theorem wp_copyB {w : World} {ops : Array Oper} {rest : List Oper} {o : Oper} {a : Act} {Q : Exit → Act → World → Prop} (hgd : o.guard = none) (d s : Operand)
    (ho : o.op = .call { callee := .builtin .copy, args := #[d, s], argTypes := #[22, 22] })
    (g off dLen dCap : Nat) (sA : Option Addr) (sLen sCap : Nat) (hd : a.eval d = .slice (some ⟨g, off, none⟩) dLen dCap) (hs : a.eval s = .slice sA sLen sCap)
    (l : List UInt8) (hl : l.length = sLen) (hB : Bs w sA l) (m : Nat) (hm : m = min sLen dLen) (hth : w.there g off m)
    (h : wpList Tryz.prog ops Q rest (a.put o.dst (.int .i64 (m : Int))) (w.setCells g off (cbs (l.take m)))) : wpList Tryz.prog ops Q (o :: rest) a w := by
  have hlm : (cbs (l.take m)).length = m := by rw [cbs_length, List.length_take]; omega
  have hrun : (Builtin.copy_ #[22, 22] o.type #[.slice (some ⟨g, off, none⟩) dLen dCap, .slice sA sLen sCap]).run Tryz.prog w = .ok (.int .i64 (m : Int)) (w.setCells g off (cbs (l.take m))) := by
    rcases Nat.eq_zero_or_pos m with h0 | h0
    · subst h0
      have := run_copy_none (P := Tryz.prog) w 22 22 o.type 5 (some ⟨g, off, none⟩) sA dLen dCap sLen sCap Tryz.underlying22 u8_one (by show min sLen dLen = 0; omega)
      rw [this]
      rfl
    · obtain ⟨b, so, rfl, _, hc⟩ := hB.2 (by omega)
      have := run_copy_cells (P := Tryz.prog) w 22 22 o.type 5 g off dLen dCap ⟨b, so, none⟩ sLen sCap (cbs (l.take m)) Tryz.underlying22 u8_one (by rw [hlm]; exact hm)
        (fun j v hv => by rw [add_mk]; exact hc j v (by
          have hj : j < m := by
            rcases Nat.lt_or_ge j (cbs (l.take m)).length with h1 | h1
            · omega
            · rw [List.getElem?_eq_none h1] at hv; cases hv
          rw [cbs_take, List.getElem?_take, if_pos hj] at hv; exact hv)) (fun j hj => (hth j (by omega)).1) (fun j hj => (hth j (by omega)).2) (cbs_one _)
      rw [this, hlm]
      rfl
  refine wpList_plain hgd fun K hK => ?_
  unfold Oper.wp
  simp [execOp, ho, resolve, invoke, builtin, hd, hs, hrun, Result.andThen]
  exact hK _ _ h

/-- A hash that holds the bytes l. -/
def Hold (w : World) (g : Nat) (l : List UInt8) : Prop := ∃ rest, HB w g (whole l) rest l.length ∧ rest.take (l.length % 64) = left l

theorem Hold.alloc {w : World} {g : Nat} {l : List UInt8} (h : Hold w g l) (o : Obj) : Hold (w.alloc o) g l := by
  obtain ⟨rest, h1, h2⟩ := h
  exact ⟨rest, h1.alloc o, h2⟩

theorem HB.far {w : World} {g : Nat} {s : S8} {rest : List UInt8} {n : Nat} (h : HB w g s rest n) {p : Addr} (hp : g ≠ p.block) (v : Value) : HB (w.setCell p v) g s rest n := by
  obtain ⟨d, ks, hB, h2⟩ := h
  exact ⟨d, ks, hB.far hp v, h2⟩

theorem HB.farAll {w : World} {g : Nat} {s : S8} {rest : List UInt8} {n : Nat} (h : HB w g s rest n) {b : Nat} (hp : g ≠ b) (o : Nat) (vs : List Value) : HB (w.setCells b o vs) g s rest n := by
  obtain ⟨d, ks, hB, h2⟩ := h
  exact ⟨d, ks, Blk.farAll hp vs hB, h2⟩

theorem HB.drew {w : World} {g : Nat} {s : S8} {rest : List UInt8} {n : Nat} (h : HB w g s rest n) : HB w.drew g s rest n := h

theorem HB.len {w : World} {g : Nat} {s : S8} {rest : List UInt8} {n : Nat} (h : HB w g s rest n) : rest.length = 64 := by obtain ⟨_, _, _, h2, _⟩ := h; exact h2

theorem HB.lt {w : World} {g : Nat} {s : S8} {rest : List UInt8} {n : Nat} (h : HB w g s rest n) : g < w.heap.size := by obtain ⟨_, _, hB, _⟩ := h; exact hB.lt

theorem HB.size {w : World} {g : Nat} {s : S8} {rest : List UInt8} {n : Nat} (h : HB w g s rest n) : w.cell? ⟨g, 73, none⟩ = some (.int .i64 (n : Int)) := by obtain ⟨_, _, hB, hr, _⟩ := h; exact hB.cell (hc_size hr)

theorem HB.state {w : World} {g : Nat} {s : S8} {rest : List UInt8} {n : Nat} (h : HB w g s rest n) : w.rangeAt g 1 (l8 s) := by obtain ⟨_, _, hB, hr, _⟩ := h; exact fun j v hv => hB.cell (hc_state hv)

theorem HB.rest {w : World} {g : Nat} {s : S8} {rest : List UInt8} {n : Nat} (h : HB w g s rest n) : w.rangeAt g 9 (cbs rest) := by obtain ⟨_, _, hB, hr, _⟩ := h; exact fun j v hv => hB.cell (hc_rest hv)

theorem HB.there {w : World} {g : Nat} {s : S8} {rest : List UInt8} {n : Nat} (h : HB w g s rest n) {o m : Nat} (ho : o + m ≤ 141) : w.there g o m := by
  obtain ⟨_, _, hB, hr, hk, _⟩ := h
  exact hB.thereAt (by rw [hc_len hr hk]; exact ho)

theorem HB.made {w : World} {g : Nat} {s : S8} {rest : List UInt8} {n : Nat} (h : HB w g s rest n) : w.cell? ⟨g, 0, none⟩ = some (.bool true) := by obtain ⟨_, _, hB, _⟩ := h; exact hB.cell hc_made

theorem HB.restBs {w : World} {g : Nat} {s : S8} {rest : List UInt8} {n r : Nat} (h : HB w g s rest n) (hr : r ≤ 64) : Bs w (some ⟨g, 9, none⟩) (rest.take r) := by
  have hl := h.len
  have hlt := h.lt
  refine ⟨by rw [cbs_length]; omega, fun _ => ⟨g, 9, rfl, hlt, fun j u hu => h.rest j u ?_⟩⟩
  rw [cbs_take] at hu
  rw [List.getElem?_take] at hu
  split at hu
  · exact hu
  · cases hu

theorem HB.touched {w w' : World} {g k : Nat} {s : S8} {rest : List UInt8} {n : Nat} (h : HB w g s rest n) (hb : But k w w') (hne : g ≠ k) : HB w' g s rest n := by
  obtain ⟨d, ks, hB, h2⟩ := h
  exact ⟨d, ks, hb.blk hB hne, h2⟩

theorem HB.below {w w' : World} {g : Nat} {s : S8} {rest : List UInt8} {n : Nat} (h : HB w g s rest n) (hb : Below w.heap.size w w') : HB w' g s rest n := by
  obtain ⟨d, ks, hB, h2⟩ := h
  exact ⟨d, ks, hB.below hb hB.lt, h2⟩

theorem run_rest (g r : Nat) (h : r ≤ 64) (W : World) : (Instr.sliceAt 182 (.pointer (some ⟨g, 9, none⟩)) none (some (.int .i64 (r : Int))) none).run Tryz.prog W = .ok (.slice (some ⟨g, 9, none⟩) r 64) W := by
  have h1 : (r : Int) ≤ 64 := by omega
  have h2 : (0 : Int) ≤ (r : Int) := by omega
  go_simp

theorem run_cut128 (g a c : Nat) (h : a = 0 ∨ a = 64) (hc : c = a + 64) (W : World) : (Instr.sliceAt 204 (.pointer (some ⟨g, 0, none⟩)) (some (.int .i64 (a : Int))) (some (.int .i64 (c : Int))) none).run Tryz.prog W = .ok (.slice (some ⟨g, a, none⟩) 64 (128 - a)) W := by
  have f0 : (Instr.sliceAt 204 (.pointer (some ⟨g, 0, none⟩)) (some (.int .i64 0)) (some (.int .i64 64)) none).run Tryz.prog W = .ok (.slice (some ⟨g, 0, none⟩) 64 128) W := by go_simp
  have f1 : (Instr.sliceAt 204 (.pointer (some ⟨g, 0, none⟩)) (some (.int .i64 64)) (some (.int .i64 128)) none).run Tryz.prog W = .ok (.slice (some ⟨g, 64, none⟩) 64 64) W := by go_simp
  subst hc
  rcases h with rfl | rfl
  · exact f0
  · exact f1

theorem run_array64 (g a c : Nat) (W : World) : (Instr.arrayAt 182 (.slice (some ⟨g, a, none⟩) 64 c)).run Tryz.prog W = .ok (.pointer (some ⟨g, a, none⟩)) W := by
  kernel_rfl

theorem cut_range {w : World} {g : Nat} {t : TypeId} {T : List UInt8} (h : Blk w g t (cbs T)) (o : Nat) : w.rangeAt g o (cbs ((T.drop o).take 64)) := by
  intro j v hv
  refine h.cell (i := o + j) ?_
  rw [cbs_take, List.getElem?_take, cbs_drop, List.getElem?_drop] at hv
  split at hv
  · exact hv
  · cases hv

theorem info64b : (Tryz.prog.info? 182).map (·.size) = some 64 := by kernel_rfl

set_option maxRecDepth 100000 in
set_option maxHeartbeats 3200000 in
theorem digest_any (g : Nat) (l : List UInt8) (w : World) (hl : l.length ≤ 281474976710656) (h : Hold w g l) :
    Calls Tryz.prog 157 #[.pointer (some ⟨g, 0, none⟩)] w fun e w' => e = .returned (.agg (cbs (digest l)).toArray) ∧ (Hold w' g l ∧ But g w w') := by
  obtain ⟨rest, hH, hrest⟩ := h
  have hgl := hH.lt
  have hrl := hH.len
  obtain ⟨n, hn⟩ : ∃ n, n = l.length := ⟨_, rfl⟩
  obtain ⟨r, hr⟩ : ∃ r, r = n % 64 := ⟨_, rfl⟩
  have hrlt : r < 64 := by omega
  have e1 : (n : Int).tmod 64 = (r : Int) := by rw [Int.tmod_eq_emod_of_nonneg (by omega)]; omega
  have e2 : (n : Int) % 64 = (r : Int) := by omega
  have e3 : IntKind.i64.wrap (r : Int) = (r : Int) := IntWalk.i64_in _ (by omega)
  have esl := run_rest g r (by omega)
  have i0 : (0 : Int) ≤ (r : Int) := by omega
  have i1 : (r : Int) < 64 := by omega
  have HH := Lib.hid (And.intro hH (And.intro hrest (And.intro hn (And.intro hr (And.intro hrl hl)))))
  clear hH hrest hn hr hrl hl
  go_enter Tryz.func157, Tryz.ntmps157
  go_upto_region 1 with fail
  go_cut [3] (fun p wx => p = .pointer (some ⟨w.heap.size + 1, 0, none⟩) ∧ HB wx g (whole l) rest l.length ∧ Blk wx w.heap.size 59 (cbs (List.replicate 32 0)) ∧
      Blk wx (w.heap.size + 1) 204 (cbs (List.replicate 128 0)) ∧ But g w wx)
  case first =>
    go_wp2_with fail
    go_meet
    exact ⟨rfl, (HH.out.1.alloc _).alloc _, (Blk.new rfl rfl).old _, Blk.new (by kernel_rfl) (by simp), ((But.refl g w).then_below ((Below.refl _ _).alloc (Nat.le_refl _) _)).then_below ((Below.refl _ _).alloc (Nat.le_refl _) _)⟩
  case rest =>
    obtain ⟨rfl, hH, hD, hT, hbut⟩ := hcut
    have hsz := hH.size
    rw [← HH.out.2.2.1] at hsz
    have g1 := hT.lt
    have hBs := hH.restBs (r := r) (by omega)
    have hth : wc.there (w.heap.size + 1) 0 r := hT.thereAt (by rw [cbs_length, List.length_replicate]; omega)
    have hlr : (rest.take r).length = r := by rw [List.length_take, HH.out.2.2.2.2.1]; omega
    have Hx := Lib.hid (And.intro hH (And.intro hD (And.intro hT (And.intro hbut (And.intro hBs (And.intro hth hlr))))))
    clear hH hD hT hbut hBs hth hlr
    go_wp2_with fail
    refine wp_region_still_tail 10 (by kernel_rfl) (by kernel_rfl) ?_
    change wpStill _ _ wc.drew (fun a' => wpList _ _ _ _ a' wc.drew) _ _
    simp only [List.take_succ_cons, List.take_zero, List.drop_succ_cons, List.drop_zero]
    still_step
    still_step
    still_step
    still_step
    still_step
    still_step
    still_step
    still_step
    still_step
    still_step
    refine wpStill_nil ?_
    obtain ⟨hH, hD, hT, hbut, hBs, hth, hlr⟩ := Hx.out
    obtain ⟨_, hrest, hn, hr, hrl, hl⟩ := HH.out
    refine wp_copyB rfl (.tmp 10) (.tmp 19) rfl (w.heap.size + 1) 0 128 128 (some ⟨g, 9, none⟩) r 64 rfl rfl (rest.take r) hlr hBs r (by omega) hth ?_
    have hleft : (rest.take r).take r = left l := by rw [List.take_take, Nat.min_self, hr, hn]; exact hrest
    rw [hleft]
    have hll : (left l).length = r := by rw [left_len, hr, hn]
    have p1 := Blk.setMore (w := w) (cbs (left l)) (show Blk wc.drew (w.heap.size + 1) 204 (cbs (List.replicate 128 0)) from hT) (o := 0) (by rw [cbs_length, cbs_length, List.length_replicate]; omega)
    have e0 : (cbs (List.replicate 128 0)).take 0 ++ cbs (left l) ++ (cbs (List.replicate 128 0)).drop (0 + (cbs (left l)).length) = cbs (left l ++ List.replicate (128 - r) 0) := by
      rw [cbs_length, hll, List.take_zero, List.nil_append, Nat.zero_add, ← cbs_drop, List.drop_replicate, ← cbs_append]
    rw [e0] at p1
    have p2 := HB.farAll (w := wc.drew) hH (b := w.heap.size + 1) (by omega) 0 (cbs (left l))
    have p3 := Blk.farAll (g' := w.heap.size + 1) (by omega) (cbs (left l)) (w := wc.drew) (o := 0) hD
    have p4 : But g w (wc.drew.setCells (w.heap.size + 1) 0 (cbs (left l))) := But.setCells (.inr (by omega)) _ hbut.drew
    clear hH hD hT hbut hBs hth hlr e0 hleft
    generalize wc.drew.setCells (w.heap.size + 1) 0 (cbs (left l)) = w1 at *
    have d0 : w1.cell? ⟨w.heap.size + 1, r, none⟩ = some (cb ((left l ++ List.replicate (128 - r) 0).getD r 0)) := p1.cell (i := r) (by
      rw [cbs_get, List.getElem?_eq_getElem (by rw [List.length_append, List.length_replicate]; omega), List.getD_eq_getElem?_getD, List.getElem?_eq_getElem (by rw [List.length_append, List.length_replicate]; omega)]; rfl)
    have f0 := p1.free r
    generalize cb ((left l ++ List.replicate (128 - r) 0).getD r 0) = old at *
    have i2 : (r : Int) < 128 := by omega
    have Hy := Lib.hid (And.intro p1 (And.intro p2 (And.intro p3 (And.intro p4 hll))))
    clear p1 p2 p3 p4 hll hrest hn hr hrl hl hsz
    go_upto_if 26 with (fail)
    go_cut [5] (fun p wx => p = .int .i64 (Eend r : Int) ∧ HB wx g (whole l) rest l.length ∧ Blk wx w.heap.size 59 (cbs (List.replicate 32 0)) ∧
      Blk wx (w.heap.size + 1) 204 (cbs (tl (left l) r (Eend r) (n * 8) 0)) ∧ But g w wx)
    case first =>
      obtain ⟨p1, p2, p3, p4, hll⟩ := Hy.out
      have hE := Eend_le r
      have p5 := p1.set_ r (cb 128)
      rw [cbs_set, tl_first (E := Eend r) (bits := n * 8) hll (by unfold Eend; split <;> omega) (by omega)] at p5
      have Hz := Lib.hid (And.intro p5 (And.intro p2 (And.intro p3 (And.intro p4 (show g ≠ w.heap.size + 1 by omega)))))
      clear p1 p2 p3 p4 p5 hll hE
      by_cases h56 : r < 56
      · have hEe : Eend r = 64 := by unfold Eend; rw [if_pos h56]
        have HE := Lib.hid hEe
        have i3 : (r : Int) < 56 := by omega
        clear hEe h56
        go_wp2_with fail
        go_meet
        obtain ⟨p5, p2, p3, p4, hg⟩ := Hz.out
        exact ⟨by rw [HE.out]; rfl, p2.far hg _, p3.far (by show w.heap.size ≠ w.heap.size + 1; omega) _, p5, p4.setCell (.inr (by show w.heap.size ≤ w.heap.size + 1; omega)) _⟩
      · have hEe : Eend r = 128 := by unfold Eend; rw [if_neg h56]
        have HE := Lib.hid hEe
        have i3 : ¬ (r : Int) < 56 := by omega
        clear hEe h56
        go_wp2_with fail
        go_meet
        obtain ⟨p5, p2, p3, p4, hg⟩ := Hz.out
        exact ⟨by rw [HE.out]; rfl, p2.far hg _, p3.far (by show w.heap.size ≠ w.heap.size + 1; omega) _, p5, p4.setCell (.inr (by show w.heap.size ≤ w.heap.size + 1; omega)) _⟩
    case rest =>
      clear Hy Hx d0 f0
      obtain ⟨rfl, hH, hD, hT, hbut⟩ := hcut
      have hsz := hH.size
      rw [← HH.out.2.2.1] at hsz
      have hE := Eend_le r
      have hrE : r + 9 ≤ Eend r := by unfold Eend; split <;> omega
      have j0 : (n : Int) ≤ 281474976710656 := by have := HH.out.2.2.1; have := HH.out.2.2.2.2.2; omega
      have j1 : (0 : Int) ≤ (n : Int) := by omega
      obtain ⟨E, hEE⟩ : ∃ E, E = Eend r := ⟨_, rfl⟩
      rw [← hEE] at hE hrE hT ⊢
      have k0 : (64 : Int) ≤ (E : Int) := by omega
      have k1 : (E : Int) ≤ 128 := by omega
      have HE := Lib.hid (And.intro hEE (And.intro hE hrE))
      clear hEE hE hrE
      go_wp2
      go_loopw [33] (fun i wr => ∃ k : Nat, k ≤ 8 ∧ i = .int .i64 k ∧ HB wr g (whole l) rest l.length ∧ Blk wr w.heap.size 59 (cbs (List.replicate 32 0)) ∧
        Blk wr (w.heap.size + 1) 204 (cbs (tl (left l) r E (n * 8) k)) ∧ But g w wr) (fun i _ => 8 - (intOf i).toNat)
      case atStart => exact ⟨0, by omega, rfl, hH, hD, hT, hbut⟩
      case round =>
        clear hsz hH hD hT hbut
        obtain ⟨k, hk, rfl, hH, hD, hT, hbut⟩ := hrel
        have hE := HE.out.2.1
        have hrE := HE.out.2.2
        by_cases hlt : k < 8
        · have i2 : (0 : Int) ≤ (k : Int) := by omega
          have i3 : (k : Int) < 8 := by omega
          have v1 : (0 : Int) ≤ (E : Int) - 1 - (k : Int) := by omega
          have v2 : (E : Int) - 1 - (k : Int) < 128 := by omega
          have v3 : ((E : Int) - 1 - (k : Int)).toNat = E - 1 - k := by omega
          have d0 := hT.cell (i := E - 1 - k) (v := cb ((tl (left l) r E (n * 8) k).getD (E - 1 - k) 0)) (by
            have hl := tl_len (left l) r E (n * 8) k
            rw [cbs_get, List.getElem?_eq_getElem (by omega), List.getD_eq_getElem?_getD, List.getElem?_eq_getElem (by omega)]; rfl)
          have f0 := hT.free (E - 1 - k)
          generalize cb ((tl (left l) r E (n * 8) k).getD (E - 1 - k) 0) = old at *
          have hset := tl_set (f := left l) (r := r) (E := E) (bits := n * 8) (k := k) (by omega) hrE hlt
          have Hset := Lib.hid (And.intro hset (And.intro hk hlt))
          clear hset hE hrE hk hlt
          go_wp2
          go_roundw
          case rel =>
            obtain ⟨hset, hk, hlt⟩ := Hset.out
            have ec : Value.int .u8 ((n : Int) * 8 / 2 ^ (8 * k) % 256) = cb (UInt8.ofNat (n * 8 / 2 ^ (8 * k))) := by
              rw [← cb_mod]; simp
            have hs := hT.set_ (E - 1 - k) (cb (UInt8.ofNat (n * 8 / 2 ^ (8 * k))))
            rw [cbs_set, hset] at hs
            rw [ec]
            exact ⟨k + 1, by omega, by go_num, hH.far (by show g ≠ w.heap.size + 1; omega) _, hD.far (by show w.heap.size ≠ w.heap.size + 1; omega) _, hs, hbut.setCell (.inr (by show w.heap.size ≤ w.heap.size + 1; omega)) _⟩
          case measure => simp [intOf]; omega
        · have e : k = 8 := by omega
          subst e
          have i3 : ¬ ((8 : Nat) : Int) < 8 := by omega
          have Hw := Lib.hid (And.intro hH (And.intro hD (And.intro hT hbut)))
          have hst := hH.state
          have Hst := Lib.hid hst
          have hgr := hH.lt
          have hBr := hT.lt
          clear hk hlt hE hrE hH hD hT hbut hst
          go_upto_region 13 with fail
          go_cut [8] (fun p wx => ∃ b : Nat, p = .pointer (some ⟨b, 0, none⟩) ∧ w.heap.size + 1 < b ∧ Blk wx b 180 (l8 (whole l)) ∧ HB wx g (whole l) rest l.length ∧ Blk wx w.heap.size 59 (cbs (List.replicate 32 0)) ∧
            Blk wx (w.heap.size + 1) 204 (cbs (tl (left l) r E (n * 8) 8)) ∧ But g w wx)
          case first =>
            obtain ⟨hH, hD, hT, hbut⟩ := Hw.out
            have hZ : Blk (wr.alloc (.cells #[.int .u32 0, .int .u32 0, .int .u32 0, .int .u32 0, .int .u32 0, .int .u32 0, .int .u32 0, .int .u32 0] 180)) wr.heap.size 180 (l8 ⟨0, 0, 0, 0, 0, 0, 0, 0⟩) := Blk.new rfl rfl
            have hth : (wr.alloc (.cells #[.int .u32 0, .int .u32 0, .int .u32 0, .int .u32 0, .int .u32 0, .int .u32 0, .int .u32 0, .int .u32 0] 180)).there wr.heap.size 0 8 := hZ.there
            have hR := hZ.setAll (vs := l8 (whole l)) rfl
            have Hz := Lib.hid (And.intro hR (And.intro (HB.farAll (w := wr.alloc (.cells #[.int .u32 0, .int .u32 0, .int .u32 0, .int .u32 0, .int .u32 0, .int .u32 0, .int .u32 0, .int .u32 0] 180)) (hH.alloc _) (b := wr.heap.size) (by omega) 0 (l8 (whole l)))
              (And.intro (Blk.farAll (w := wr.alloc (.cells #[.int .u32 0, .int .u32 0, .int .u32 0, .int .u32 0, .int .u32 0, .int .u32 0, .int .u32 0, .int .u32 0] 180)) (g' := wr.heap.size) (by omega) (l8 (whole l)) (o := 0) (hD.old _))
              (And.intro (Blk.farAll (w := wr.alloc (.cells #[.int .u32 0, .int .u32 0, .int .u32 0, .int .u32 0, .int .u32 0, .int .u32 0, .int .u32 0, .int .u32 0] 180)) (g' := wr.heap.size) (by omega) (l8 (whole l)) (o := 0) (hT.old _))
              (But.setCells (b := wr.heap.size) (o := 0) (.inr (by omega)) (l8 (whole l)) (hbut.then_below ((Below.refl _ _).alloc (Nat.le_refl _) (.cells #[.int .u32 0, .int .u32 0, .int .u32 0, .int .u32 0, .int .u32 0, .int .u32 0, .int .u32 0, .int .u32 0] 180))))))))
            have Hth := Lib.hid hth
            have Hone := Lib.hid (show (l8 (whole l)).toArray.all (·.oneCell') = true from cws_one (whole l).list)
            clear hH hD hT hbut hZ hth hR
            go_wp2_with (first
              | refine wpList_load_mid rfl 180 _ rfl g 1 rfl (l8 (whole l)) _ Hst.out Tryz.underlying180 rfl info8w ?_
              | refine wpList_store_mid rfl 180 _ _ rfl wr.heap.size 0 (l8 (whole l)).toArray rfl rfl Hth.out info8w Hone.out ?_)
            go_meet
            exact ⟨wr.heap.size, rfl, by omega, Hz.out.1, Hz.out.2.1, Hz.out.2.2.1, Hz.out.2.2.2.1, Hz.out.2.2.2.2⟩
          case rest =>
            clear Hw Hst hgr hBr
            obtain ⟨b, rfl, hb, hS, hH, hD, hT, hbut⟩ := hcut
            obtain ⟨_, hrest, hn, hr, hrl, hl⟩ := HH.out
            have hE := HE.out.2.1
            have hTl : (tl (left l) r E (n * 8) 8).take E = last l := by
              rw [HE.out.1, hr, hn]; exact tl_last l
            have hTlen := tl_len (left l) r E (n * 8) 8
            have hE64 : E = 64 * (E / 64) := by omega
            obtain ⟨q, hq⟩ : ∃ q, E = 64 * q := ⟨E / 64, hE64⟩
            have hdig := digest_at l q (by rw [← hq, HE.out.1, hr, hn])
            generalize tl (left l) r E (n * 8) 8 = T at *
            have hq2 : q ≤ 2 := by omega
            have k2 : (E : Int) = 64 * (q : Int) := by omega
            have Hf := Lib.hid (And.intro hTl (And.intro hTlen (And.intro hdig (And.intro hrest (And.intro hq hq2)))))
            have Hk2 := Lib.hid k2
            clear hTl hTlen hE64 hdig hrest hn hr hrl hl hE hq hq2 k2
            go_wp2
            go_loopw [9] (fun i wr => ∃ m a : Nat, m ≤ q ∧ a = 64 * m ∧ i = .int .i64 (a : Int) ∧ Blk wr b 180 (l8 (eat (whole l) m (last l))) ∧ HB wr g (whole l) rest l.length ∧ Blk wr w.heap.size 59 (cbs (List.replicate 32 0)) ∧
              Blk wr (w.heap.size + 1) 204 (cbs T) ∧ But g w wr) (fun i _ => 1000 - (intOf i).toNat)
            case atStart => exact ⟨0, 0, by omega, rfl, rfl, hS, hH, hD, hT, hbut⟩
            case round =>
              clear hS hH hD hT hbut
              obtain ⟨m, a, hm, ha, rfl, hS, hH, hD, hT, hbut⟩ := hrel
              have hq2 := Hf.out.2.2.2.2.2
              have hq := Hf.out.2.2.2.2.1
              by_cases hlt : m < q
              · obtain ⟨c, hc⟩ : ∃ c, c = a + 64 := ⟨_, rfl⟩
                have t1 : (a : Int) < (E : Int) := by omega
                have t2 : (a : Int) + 64 = (c : Int) := by omega
                have t3 : IntKind.i64.wrap (c : Int) = (c : Int) := IntWalk.i64_in _ (by omega)
                have esl2 := run_cut128 (w.heap.size + 1) a c (by omega) hc
                have earr := run_array64 (w.heap.size + 1) a (128 - a)
                have hbs : ((T.drop (64 * m)).take 64).length = 64 := by rw [List.length_take, List.length_drop, Hf.out.2.1]; omega
                have hnext : eat (whole l) (m + 1) (last l) = rnd (eat (whole l) m (last l)) ((T.drop (64 * m)).take 64) := by
                  rw [eat_more, last_part Hf.out.1 (by omega)]
                have hi2 : (Tryz.prog.info? 182).map (·.size) = some (cbs ((T.drop (64 * m)).take 64)).length := by rw [cbs_length, hbs]; exact info64b
                have hrg : wr.rangeAt (w.heap.size + 1) a (cbs ((T.drop (64 * m)).take 64)) := by
                  have := cut_range hT (64 * m)
                  rw [ha]; exact this
                have hi8 : (Tryz.prog.info? 180).map (·.size) = some (l8 (eat (whole l) m (last l))).length := info8w
                have hS0 := hS.range
                obtain ⟨r8, hr8, hr8l, hr8o⟩ : ∃ r8 : List Value, l8 (eat (whole l) (m + 1) (last l)) = r8 ∧ r8.length = 8 ∧ r8.toArray.all (·.oneCell') = true := ⟨_, rfl, rfl, cws_one (eat (whole l) (m + 1) (last l)).list⟩
                have htk := fun W hW => take_any g (whole l) (eat (whole l) m (last l)) rest ((T.drop (64 * m)).take 64) l.length W hbs hW
                rw [← hnext] at htk
                have hv8 : v8 (eat (whole l) (m + 1) (last l)) = .agg r8.toArray := by unfold v8; rw [hr8]
                rw [hv8] at htk
                have hold8 : v8 (eat (whole l) m (last l)) = .agg (l8 (eat (whole l) m (last l))).toArray := rfl
                rw [hold8] at htk
                have Hnext := Lib.hid (And.intro hr8 (And.intro hr8l (And.intro hr8o (And.intro hlt (And.intro ha hc)))))
                have Htk := Lib.hid htk
                have Hs := Lib.hid (And.intro hS (And.intro hH (And.intro hD (And.intro hT hbut))))
                have Hr := Lib.hid (And.intro hrg (And.intro hS0 (And.intro hi2 hi8)))
                clear hq hq2 hbs hnext hi2 hi8 hrg hS0 hr8 hr8l hr8o htk hv8 hold8 hS hH hD hT hbut hlt hm ha hc
                generalize l8 (eat (whole l) m (last l)) = o8 at *
                generalize cbs ((T.drop (64 * m)).take 64) = bs at *
                go_wp2_with fail
                refine wp_region_still_tail 8 (by kernel_rfl) (by kernel_rfl) ?_
                change wpStill _ _ wr.drew (fun a' => wpList _ _ _ _ a' wr.drew) _ _
                simp only [List.take_succ_cons, List.take_zero, List.drop_succ_cons, List.drop_zero]
                still_step
                refine wpStill_load_mid rfl _ _ rfl b 0 rfl o8 _ Hr.out.2.1 Tryz.underlying180 rfl Hr.out.2.2.2 ?_
                simp only [Act.put, List.setIfInBounds_toArray, List.set_cons_zero, List.set_cons_succ]
                still_step
                still_step
                still_step
                still_step
                still_step
                refine wpStill_load_mid rfl _ _ rfl (w.heap.size + 1) a rfl bs _ Hr.out.1 Tryz.underlying182 rfl Hr.out.2.2.1 ?_
                simp only [Act.put, List.setIfInBounds_toArray, List.set_cons_zero, List.set_cons_succ]
                refine wpStill_nil ?_
                go_wp2_with fail
                refine (Htk.out wr.drew Hs.out.2.1).mono ?_
                rintro e w2 ⟨rfl, hH2, hbut2⟩
                obtain ⟨hS, hH, hD, hT, hbut⟩ := Hs.out
                obtain ⟨hr8, hr8l, hr8o, hlt, ha, hc⟩ := Hnext.out
                have hne := hS.lt
                have p1 := hbut2.blk (show Blk wr.drew b 180 o8 from hS) (by omega)
                have p2 := hbut2.blk (show Blk wr.drew w.heap.size 59 _ from hD) (by omega)
                have p3 := hbut2.blk (show Blk wr.drew (w.heap.size + 1) 204 _ from hT) (by omega)
                have p4 : But g w w2 := hbut.drew.trans hbut2
                have hlo8 : o8.length = 8 := by have := Hr.out.2.2.2; rw [info8w] at this; injection this with this; exact this.symm
                have hsz8 : r8.toArray.size = 8 := by rw [List.size_toArray]; exact hr8l
                have hth : w2.there b 0 r8.toArray.size := by
                  rw [hsz8, ← hlo8]; exact p1.there
                have hi8 : (Tryz.prog.info? 180).map (·.size) = some r8.toArray.size := by rw [hsz8]; exact info8w
                have q1 := p1.setAll (vs := r8) (by rw [hr8l, hlo8])
                have q2 := HB.farAll hH2 (b := b) (by omega) 0 r8
                have q3 := Blk.farAll (g' := b) (by omega) r8 (o := 0) p2
                have q4 := Blk.farAll (g' := b) (by omega) r8 (o := 0) p3
                have q5 : But g w (w2.setCells b 0 r8) := But.setCells (.inr (by omega)) _ p4
                have Hth := Lib.hid hth
                have Hi8 := Lib.hid hi8
                have Hone := Lib.hid hr8o
                have Hq := Lib.hid (And.intro q1 (And.intro q2 (And.intro q3 (And.intro q4 q5))))
                clear hS hH hD hT hbut hr8 hr8l hr8o hlt ha hc hne p1 p2 p3 p4 hlo8 hsz8 hth hi8 q1 q2 q3 q4 q5 hH2 hbut2
                go_wp2_with (refine wpList_store_mid rfl 180 _ _ rfl b 0 r8.toArray rfl rfl Hth.out Hi8.out Hone.out ?_)
                go_roundw
                case rel =>
                  obtain ⟨hr8, hr8l, hr8o, hlt, ha, hc⟩ := Hnext.out
                  obtain ⟨q1, q2, q3, q4, q5⟩ := Hq.out
                  exact ⟨m + 1, c, by omega, by omega, by first | rfl | rw [t2], by rw [hr8]; exact q1, q2, q3, q4, q5⟩
                case measure => simp [intOf]; omega
              · have e : m = q := by omega
                subst e
                have t1 : ¬ (a : Int) < (E : Int) := by omega
                have hdig := Hf.out.2.2.1
                have hrest := Hf.out.2.2.2.1
                obtain ⟨D, hD32, hDv⟩ : ∃ D : List Value, D.length = 32 ∧ cbs (digest l) = D := ⟨cbs (digest l), by rw [cbs_length, hdig]; rfl, rfl⟩
                have hwr := fun W => written_any2 (eat (whole l) m (last l)) W
                rw [← hdig, hDv] at hwr
                have hold8 : v8 (eat (whole l) m (last l)) = .agg (l8 (eat (whole l) m (last l))).toArray := rfl
                rw [hold8] at hwr
                have hone : D.toArray.all (·.oneCell') = true := by rw [← hDv]; exact cbs_one' _
                have hi8 : (Tryz.prog.info? 180).map (·.size) = some (l8 (eat (whole l) m (last l))).toArray.size := info8w
                have hi32 : (Tryz.prog.info? 59).map (·.size) = some D.toArray.size := by rw [List.size_toArray, hD32]; exact info32b
                have Hwr := Lib.hid hwr
                have Hs := Lib.hid (And.intro hS (And.intro hH (And.intro hD (And.intro hbut (And.intro hrest (And.intro hD32 hDv))))))
                have Hi := Lib.hid (And.intro hi8 (And.intro hi32 hone))
                clear hdig hrest hwr hold8 hone hi8 hi32 hH hD hT hbut hD32 hDv hq hq2 hm ha hlt Hf
                generalize l8 (eat (whole l) m (last l)) = o8 at *
                go_wp2_with (refine wpList_load_row rfl 180 _ rfl b rfl 180 o8.toArray (0, 0) _ hS Tryz.underlying180 rfl Hi.out.1 ?_)
                refine (Hwr.out _).mono ?_
                rintro e w2 ⟨rfl, hb2⟩
                obtain ⟨hS, hH, hD, hbut, hrest, hD32, hDv⟩ := Hs.out
                have p2 := hD.below hb2 hD.lt
                have pB := hH.below hb2
                have p4 : But g w w2 := hbut.then_below hb2
                have hth : w2.there w.heap.size 0 D.toArray.size := by
                  have e := p2.there
                  rw [cbs_length, List.length_replicate] at e
                  have hsz : D.toArray.size = 32 := by rw [List.size_toArray]; exact hD32
                  rw [hsz]; exact e
                have q1 := p2.setAll (vs := D) (by rw [hD32, cbs_length, List.length_replicate])
                have q2 := HB.farAll pB (b := w.heap.size) (by omega) 0 D
                have q5 : But g w (w2.setCells w.heap.size 0 D) := But.setCells (.inr (Nat.le_refl _)) _ p4
                have Hth := Lib.hid hth
                have Hq := Lib.hid (And.intro q1 (And.intro q2 (And.intro q5 (And.intro hrest hDv))))
                clear hS hH hD hbut hrest hD32 hDv p2 pB p4 hth q1 q2 q5 hb2
                go_wp2_with (refine wpList_store_mid rfl 59 _ _ rfl w.heap.size 0 D.toArray rfl rfl Hth.out Hi.out.2.1 Hi.out.2.2 ?_)
                refine bodyPost_ret (results_cell_row rfl _ _ w.heap.size 59 D.toArray (0, 0) _ rfl Hq.out.1 Tryz.underlying59 rfl Hi.out.2.1) rfl ?_
                obtain ⟨q1, q2, q5, hrest, hDv⟩ := Hq.out
                exact ⟨by rw [hDv], ⟨rest, q2, hrest⟩, q5⟩

end Go.Proofs.YtfaeechidjpjbaaGreat

namespace Go.Proofs.YtfaeechidjpjbaaGreat

open Go.RowKit

set_option linter.unusedVariables false

section

variable {P : Program} {ops : Array Oper} {Q : Exit → Act → World → Prop} {md : Region.Mode}

theorem any_take {i d : Nat} {oi : Oper} {v : Value} {fuel : Nat} {listed : Array Bool} {a : Act} {w : World} (hi : ops[i]? = some oi) (hd : oi.dst = some d)
    (hs : Region.noSelect ops = true) (hf : Region.free md ops listed i = true) (hr : (Region.ready md ops listed).contains i = true)
    (hQ : ∀ c a w, Q (.panic c) (a.put oi.dst v) w → Q (.panic c) a w) (hy : Yields P ops oi v a)
    (h : wpAny P md ops Q fuel (listed.setIfInBounds i true) { a with tmps := a.tmps.setIfInBounds d v } w) : wpAny P md ops Q (fuel + 1) listed a w :=
  wpAny_take hi hs hf hr hQ hy (by unfold Act.put; rw [hd]; exact h)

theorem op_load {i d : Nat} {oi : Oper} {a : Act} {w : World} {K : Act → World → Prop} (hi : ops[i]? = some oi) (hd : oi.dst = some d) (hgd : oi.guard = none) (ty : TypeId) (x : Operand) (ho : oi.op = .load ty x)
    (b off : Nat) (hx : a.eval x = .pointer (some ⟨b, off, none⟩)) (cs : List Value) (t : TypeDesc) (hc : w.rangeAt b off cs) (hu : P.underlying ty = some t) (ht : t.isRow = true) (hn : (P.info? ty).map (·.size) = some cs.length)
    (h : K { a with tmps := a.tmps.setIfInBounds d (.agg cs.toArray) } w) : wpOp P ops Q i K a w := by
  refine wpOp_step hi (fun K' hK => step_load hgd ty x ho b off hx cs t hc hu ht hn ?_)
  unfold Act.put
  rw [hd]
  exact hK _ _ h

theorem op_store {i : Nat} {oi : Oper} {a : Act} {w : World} {K : Act → World → Prop} (hi : ops[i]? = some oi) (hd : oi.dst = none) (hgd : oi.guard = none) (ty : TypeId) (x y : Operand) (ho : oi.op = .store ty x y)
    (b off : Nat) (cells : Array Value) (hx : a.eval x = .pointer (some ⟨b, off, none⟩)) (hy : a.eval y = .agg cells)
    (ht : w.there b off cells.size) (hn : (P.info? ty).map (·.size) = some cells.size) (h1 : cells.all (·.oneCell') = true)
    (h : K a (w.setCells b off cells.toList)) : wpOp P ops Q i K a w := by
  refine wpOp_step hi (fun K' hK => step_store hgd ty x y ho b off cells hx hy ht hn h1 ?_)
  unfold Act.put
  rw [hd]
  exact hK _ _ h

theorem any_one {i : Nat} {fuel : Nat} {listed : Array Bool} {a : Act} {w : World} (hr : Region.ready md ops listed = [i])
    (h : wpOp P ops Q i (wpAny P md ops Q fuel (listed.setIfInBounds i true)) a w) : wpAny P md ops Q (fuel + 1) listed a w :=
  wpAny_all hr (by simp) (fun j hj => by simp at hj; subst hj; exact h)

theorem any_two {i j : Nat} {fuel : Nat} {listed : Array Bool} {a : Act} {w : World} (hr : Region.ready md ops listed = [i, j])
    (h1 : wpOp P ops Q i (wpAny P md ops Q fuel (listed.setIfInBounds i true)) a w) (h2 : wpOp P ops Q j (wpAny P md ops Q fuel (listed.setIfInBounds j true)) a w) : wpAny P md ops Q (fuel + 1) listed a w :=
  wpAny_all hr (by simp) (fun k hk => by
    simp at hk
    rcases hk with rfl | rfl
    · exact h1
    · exact h2)

end

end Go.Proofs.YtfaeechidjpjbaaGreat

namespace Go.Proofs.YtfaeechidjpjbaaGreat

open Go.RowKit

set_option linter.unusedVariables false

theorem none_any (g : Nat) (w : World) (h : w.cell? ⟨g, 0, none⟩ = some (.bool true)) :
    Calls Tryz.prog 168 #[.pointer (some ⟨g, 0, none⟩)] w fun e w' => e = .returned (.bool false) ∧ w' = w := by
  have hnot : ∀ (x : Bool) (w : World), (Op.unary .not (.bool x)).run Tryz.prog w = .ok (.bool (!x)) w := fun _ _ => rfl
  go_enter Tryz.func168, Tryz.ntmps168
  go_wp2
  go_ret
  exact ⟨rfl, rfl⟩

/-- The bytes of a slice do not lie in block g. -/
def Away (A : Option Addr) (g : Nat) (l : List UInt8) : Prop := l ≠ [] → ∀ a, A = some a → a.block ≠ g

theorem Bs.away {w : World} {A : Option Addr} {l : List UInt8} {g : Nat} (h : Bs w A l) (hg : w.heap.size ≤ g) : Away A g l := by
  intro hl a ha
  obtain ⟨b, off, e, hlt, _⟩ := h.2 (by cases l with | nil => exact absurd rfl hl | cons x t => simp)
  rw [ha] at e
  cases e
  show b ≠ g
  omega

theorem Away.cut {A : Option Addr} {g k m c : Nat} {l : List UInt8} (h : Away A g l) : Away (cutAt A k m c) g (l.drop m) := by
  intro hl
  replace h := h (fun e => hl (by rw [e]; simp))
  unfold cutAt
  split
  · exact h
  · intro a ha
    cases A with
    | none => cases ha
    | some x =>
      simp only [Option.map_some, Option.some.injEq] at ha
      subst ha
      have := h x rfl
      unfold Addr.add
      split <;> exact this

theorem Bs.touched {w w' : World} {A : Option Addr} {l : List UInt8} {g : Nat} (h : Bs w A l) (hb : But g w w') (ha : Away A g l) : Bs w' A l := by
  refine ⟨h.1, fun hn => ?_⟩
  obtain ⟨b, off, e, hlt, hc⟩ := h.2 hn
  refine ⟨b, off, e, Nat.lt_of_lt_of_le hlt hb.size, fun j u hu => hb.cell (hc j u hu) (by have := ha (by intro e2; subst e2; simp at hn) _ e; exact this)⟩

theorem run_restTo (g r : Nat) (h : r < 64) (W : World) : (Instr.sliceAt 182 (.pointer (some ⟨g, 9, none⟩)) (some (.int .i64 (r : Int))) none none).run Tryz.prog W = .ok (.slice (some ⟨g, 9 + r, none⟩) (64 - r) (64 - r)) W := by
  have h1 : (r : Int) ≤ 64 := by omega
  have h2 : (0 : Int) ≤ (r : Int) := by omega
  have h3 : ¬ (64 = r) := by omega
  clear h
  go_simp

def slen : Value → Nat
  | .slice _ m _ => m
  | _ => 0

theorem HB.state8 {w : World} {g : Nat} {s : S8} {rest : List UInt8} {n : Nat} (h : HB w g s rest n) : w.cell? ⟨g, 1, none⟩ = some (.int .u32 (s.a.toNat : Int)) ∧ w.cell? ⟨g, 2, none⟩ = some (.int .u32 (s.b.toNat : Int)) ∧ w.cell? ⟨g, 3, none⟩ = some (.int .u32 (s.c.toNat : Int)) ∧ w.cell? ⟨g, 4, none⟩ = some (.int .u32 (s.d.toNat : Int)) ∧ w.cell? ⟨g, 5, none⟩ = some (.int .u32 (s.e.toNat : Int)) ∧ w.cell? ⟨g, 6, none⟩ = some (.int .u32 (s.f.toNat : Int)) ∧ w.cell? ⟨g, 7, none⟩ = some (.int .u32 (s.g.toNat : Int)) ∧ w.cell? ⟨g, 8, none⟩ = some (.int .u32 (s.h.toNat : Int)) :=
  ⟨h.state 0 _ rfl, h.state 1 _ rfl, h.state 2 _ rfl, h.state 3 _ rfl, h.state 4 _ rfl, h.state 5 _ rfl, h.state 6 _ rfl, h.state 7 _ rfl⟩

theorem HB.free8 {w : World} {g : Nat} {s : S8} {rest : List UInt8} {n : Nat} (h : HB w g s rest n) : w.frozen? ⟨g, 1, none⟩ = false ∧ w.frozen? ⟨g, 2, none⟩ = false ∧ w.frozen? ⟨g, 3, none⟩ = false ∧ w.frozen? ⟨g, 4, none⟩ = false ∧ w.frozen? ⟨g, 5, none⟩ = false ∧ w.frozen? ⟨g, 6, none⟩ = false ∧ w.frozen? ⟨g, 7, none⟩ = false ∧ w.frozen? ⟨g, 8, none⟩ = false := by
  obtain ⟨_, _, hB, _⟩ := h
  exact ⟨hB.free 1, hB.free 2, hB.free 3, hB.free 4, hB.free 5, hB.free 6, hB.free 7, hB.free 8⟩

theorem range_set1 {w : World} {g j : Nat} {cs : List Value} {v : Value} (h : w.rangeAt g 9 cs) (hj : j < 9) : (w.setCell ⟨g, j, none⟩ v).rangeAt g 9 cs := fun i u hu =>
  (World.cell?_setCell_other _ ⟨g, j, none⟩ ⟨g, 9 + i, none⟩ _ (by intro e; injection e with _ e2; omega)).trans (h i u hu)

theorem range_set8 {w : World} {g : Nat} {cs : List Value} {v1 v2 v3 v4 v5 v6 v7 v8 : Value} (h : w.rangeAt g 9 cs) :
    ((((((((w.setCell ⟨g, 1, none⟩ v1).setCell ⟨g, 2, none⟩ v2).setCell ⟨g, 3, none⟩ v3).setCell ⟨g, 4, none⟩ v4).setCell ⟨g, 5, none⟩ v5).setCell ⟨g, 6, none⟩ v6).setCell ⟨g, 7, none⟩ v7).setCell ⟨g, 8, none⟩ v8).rangeAt g 9 cs :=
  range_set1 (range_set1 (range_set1 (range_set1 (range_set1 (range_set1 (range_set1 (range_set1 h (by decide)) (by decide)) (by decide)) (by decide)) (by decide)) (by decide)) (by decide)) (by decide)

theorem there_set8 {w : World} {g o n : Nat} {v1 v2 v3 v4 v5 v6 v7 v8 : Value} (h : w.there g o n) :
    ((((((((w.setCell ⟨g, 1, none⟩ v1).setCell ⟨g, 2, none⟩ v2).setCell ⟨g, 3, none⟩ v3).setCell ⟨g, 4, none⟩ v4).setCell ⟨g, 5, none⟩ v5).setCell ⟨g, 6, none⟩ v6).setCell ⟨g, 7, none⟩ v7).setCell ⟨g, 8, none⟩ v8).there g o n :=
  World.there_setCells h g 1 [v1, v2, v3, v4, v5, v6, v7, v8]

theorem run_cutB (A : Option Addr) (m c k : Nat) (hk : k ≤ m) (hmc : m ≤ c) (w : World) : (Instr.sliceAt 22 (.slice A m c) (some (.int .i64 (k : Int))) none none).run Tryz.prog w = .ok (.slice (cutAt A 1 k c) (m - k) (c - k)) w := by
  have h1 : (0 : Int) ≤ (k : Int) := by omega
  have h2 : (k : Int) ≤ (m : Int) := by omega
  unfold cutAt
  go_simp

set_option maxRecDepth 100000 in
set_option maxHeartbeats 3200000 in
theorem write_any (g : Nat) (l b : List UInt8) (A : Option Addr) (n c : Nat) (w : World) (hn : b.length = n) (hc : n ≤ c) (hcm : c ≤ maxLen) (hl : l.length + n ≤ 281474976710656) (h : Hold w g l) (hB : Bs w A b) (hA : Away A g b) :
    Calls Tryz.prog 156 #[.pointer (some ⟨g, 0, none⟩), .slice A n c] w fun e w' => e = .returned (.int .i64 0) ∧ (Hold w' g (l ++ b) ∧ But g w w') := by
  have hmade : w.cell? ⟨g, 0, none⟩ = some (.bool true) := by obtain ⟨_, hH, _⟩ := h; exact hH.made
  have Hno := Lib.hid (none_any g w hmade)
  have Hg := Lib.hid (And.intro hn (And.intro hc (And.intro hcm (And.intro hl (And.intro h (And.intro hB hA))))))
  clear hn hc hcm hl h hB hA hmade
  go_enter Tryz.func156, Tryz.ntmps156
  go_wp2_with (go_at_call 168; refine Hno.out.mono ?_; rintro e w' ⟨rfl, rfl⟩)
  go_loopw [1] (fun v wr => ∃ (x y : List UInt8) (A' : Option Addr) (m c' : Nat), b = x ++ y ∧ y.length = m ∧ v = .slice A' m c' ∧ m ≤ c' ∧ c' ≤ maxLen ∧ Bs wr A' y ∧ Away A' g y ∧ Hold wr g (l ++ x) ∧ But g w' wr) (fun v _ => slen v)
  case atStart =>
    obtain ⟨hn, hc, hcm, hl, h, hB, hA⟩ := Hg.out
    exact ⟨[], b, A, n, c, rfl, hn, rfl, hc, hcm, hB, hA, by rw [List.append_nil]; exact h, But.refl _ _⟩
  case round =>
    obtain ⟨x, y, A', m, c', hb, hy, rfl, hmc, hcm, hB, hA, hH, hbut⟩ := hrel
    by_cases hm : 0 < m
    · obtain ⟨rest, hHB, hrest⟩ := hH
      obtain ⟨N, hN⟩ : ∃ N, N = (l ++ x).length := ⟨_, rfl⟩
      obtain ⟨r, hr⟩ : ∃ r, r = N % 64 := ⟨_, rfl⟩
      have hNl : N + m ≤ 281474976710656 := by
        have := Hg.out.2.2.2.1
        have h2 := Hg.out.1
        rw [hb, List.length_append] at h2
        rw [hN, List.length_append]; omega
      have hsz := hHB.size
      rw [← hN] at hsz hHB hrest
      rw [← hr] at hrest
      have hrlt : r < 64 := by omega
      have esl := run_restTo g r hrlt
      have e1 : (N : Int).tmod 64 = (r : Int) := by rw [Int.tmod_eq_emod_of_nonneg (by omega)]; omega
      have e2 : (N : Int) % 64 = (r : Int) := by omega
      have e3 : IntKind.i64.wrap (r : Int) = (r : Int) := IntWalk.i64_in _ (by omega)
      have i0 : (0 : Int) ≤ (r : Int) := by omega
      have i1 : (r : Int) < 64 := by omega
      have hml := hm
      unfold maxLen at hcm
      have i2 : (0 : Int) < (m : Int) := by omega
      have i3 : (m : Int) ≤ 9223372036854775807 := by omega
      have Hx := Lib.hid (And.intro hb (And.intro hy (And.intro hmc (And.intro hcm (And.intro hB (And.intro hA (And.intro hHB (And.intro hrest (And.intro hN (And.intro hr (And.intro hNl (And.intro hbut hm))))))))))))
      clear hb hy hmc hcm hB hA hHB hrest hN hr hNl hbut hml
      go_wp2
      refine wp_region_still_tail 10 (by kernel_rfl) (by kernel_rfl) ?_
      change wpStill _ _ wr.drew (fun a' => wpList _ _ _ _ a' wr.drew) _ _
      simp only [List.take_succ_cons, List.take_zero, List.drop_succ_cons, List.drop_zero]
      still_step
      still_step
      still_step
      still_step
      still_step
      still_step
      still_step
      still_step
      still_step
      still_step
      refine wpStill_nil ?_
      obtain ⟨hb, hy, hmc, hcm, hB, hA, hHB, hrest, hN, hr, hNl, hbut, hm⟩ := Hx.out
      obtain ⟨k, hk⟩ : ∃ k, k = min m (64 - r) := ⟨_, rfl⟩
      refine wp_copyB rfl (.tmp 19) (.tmp 20) rfl g (9 + r) (64 - r) (64 - r) A' m c' rfl rfl y hy hB k hk (hHB.there (by omega)) ?_
      obtain ⟨d, ks, hBlk, hrl, hkl, hd⟩ := hHB
      have htl : (y.take k).length = k := by rw [List.length_take]; omega
      have q1 := Blk.setMore (w := wr) (cbs (y.take k)) (show Blk wr.drew g 203 _ from hBlk) (o := 9 + r) (by rw [cbs_length, htl, hc_len hrl hkl]; omega)
      rw [hc_put_rest hrl r (y.take k) (by omega), htl] at q1
      have q2 : But g w' (wr.drew.setCells g (9 + r) (cbs (y.take k))) := But.setCells (.inl rfl) _ hbut.drew
      obtain ⟨rest', hrest'⟩ : ∃ rest', rest' = rest.take r ++ y.take k ++ rest.drop (r + k) := ⟨_, rfl⟩
      rw [← hrest'] at q1
      have hrl' : rest'.length = 64 := by rw [hrest', List.length_append, List.length_append, htl, List.length_take, List.length_drop]; omega
      have q3 : But g wr (wr.drew.setCells g (9 + r) (cbs (y.take k))) := But.setCells (.inl rfl) _ (But.refl g wr).drew
      have hBy := hB.touched q3 hA
      generalize wr.drew.setCells g (9 + r) (cbs (y.take k)) = w1 at *
      have c0 := q1.cell (hc_size hrl')
      have f0 := q1.free 73
      obtain ⟨M, hM⟩ : ∃ M, M = N + k := ⟨_, rfl⟩
      have q4 := q1.set_ 73 (.int .i64 (M : Int))
      rw [hc_set_size hrl' M] at q4
      have q5 : But g w' (w1.setCell ⟨g, 73, none⟩ (.int .i64 (M : Int))) := q2.setCell (.inl rfl) _
      have hBy2 : Bs (w1.setCell ⟨g, 73, none⟩ (.int .i64 (M : Int))) A' y := hBy.touched ((But.refl g w1).setCell (.inl rfl) _) hA
      have s1 : (N : Int) + (k : Int) = (M : Int) := by omega
      have s2 : IntKind.i64.wrap (M : Int) = (M : Int) := IntWalk.i64_in _ (by omega)
      have k0 : (0 : Int) ≤ (k : Int) := by omega
      have k1 : (k : Int) ≤ (m : Int) := by omega
      have k2 : (N : Int) ≤ 281474976710656 := by omega
      have k3 : (0 : Int) ≤ (N : Int) := by omega
      have k4 : (k : Int) ≤ 64 := by omega
      have hcut := run_cutB A' m c' k (by omega) hmc
      have Hz := Lib.hid (And.intro hb (And.intro hy (And.intro hmc (And.intro hcm (And.intro hA (And.intro hrest (And.intro hN (And.intro hr (And.intro hNl (And.intro hm (And.intro hk (And.intro hkl (And.intro hd (And.intro hrest' (And.intro hrl' (And.intro q4 (And.intro q5 (And.intro hBy2 (And.intro htl (And.intro hM hrl))))))))))))))))))))
      have hN64 : (l ++ x).length % 64 = r := by rw [← hN, hr]
      by_cases hfull : r + k = 64
      · have d1 : (M : Int) % 64 = 0 := by omega
        have d2 : (M : Int).tmod 64 = 0 := by rw [Int.tmod_eq_emod_of_nonneg (by omega)]; exact d1
        have Hf := Lib.hid (And.intro hfull hN64)
        clear hb hy hmc hcm hA hrest hN hr hNl hm hk hkl hd hrest' hrl' q1 q2 q3 q4 q5 hBy hBy2 htl hBlk hB hbut hrl hM hfull hN64
        go_wp2
        obtain ⟨w2, hw2⟩ : ∃ w2, w2 = w1.setCell ⟨g, 73, none⟩ (.int .i64 (M : Int)) := ⟨_, rfl⟩
        rw [← hw2]
        have Hw2 := Lib.hid hw2
        clear hw2
        obtain ⟨hb, hy, hmc, hcm, hA, hrest, hN, hr, hNl, hm, hk, hkl, hd, hrest', hrl', q4, q5, hBy2, htl, hM, hrl⟩ := Hz.out
        rw [← Hw2.out] at q4 q5 hBy2
        obtain ⟨hfull, hN64⟩ := Hf.out
        obtain ⟨sw, hsw⟩ : ∃ sw, sw = whole (l ++ x) := ⟨_, rfl⟩
        have hH2 : HB w2 g sw rest' M := by rw [hsw]; exact ⟨d, ks, q4, hrl', hkl, hd⟩
        have hwf := whole_full (l ++ x) (y.take k) (by rw [hN64, htl]; exact hfull)
        have hrest2 : rest' = left (l ++ x) ++ y.take k := by
          rw [hrest', List.drop_eq_nil_of_le (by omega), List.append_nil, hrest]
        have hlen : (l ++ (x ++ y.take k)).length = M := by rw [← List.append_assoc, List.length_append, htl, ← hN, hM]
        have hM0 : M % 64 = 0 := by omega
        have htk := fun W hW => take_any g sw sw rest' rest' M W hrl' hW
        have hgoal : ∀ W : World, HB W g (rnd sw rest') rest' M → Hold W g (l ++ (x ++ y.take k)) := by
          intro W hW
          rw [hsw] at hW
          refine ⟨rest', ?_, ?_⟩
          · rw [hlen, ← List.append_assoc, hwf.1, ← hrest2]; exact hW
          · rw [hlen, hM0, List.take_zero, ← List.append_assoc, hwf.2]
        obtain ⟨c0, c1, c2, c3, c4, c5, c6, c7⟩ := HB.state8 hH2
        have hH2d : HB w2.drew g sw rest' M := hH2
        have r1 : w2.drew.rangeAt g 1 (l8 sw) := hH2d.state
        have r2 : w2.drew.rangeAt g 9 (cbs rest') := hH2d.rest
        have r3 : w2.drew.there g 1 8 := hH2d.there (by omega)
        have hi2 : (Tryz.prog.info? 182).map (·.size) = some (cbs rest').length := by rw [cbs_length, hrl']; exact info64b
        have hu2 := Tryz.underlying182
        have hv8 : v8 sw = .agg #[.int .u32 (sw.a.toNat : Int), .int .u32 (sw.b.toNat : Int), .int .u32 (sw.c.toNat : Int), .int .u32 (sw.d.toNat : Int), .int .u32 (sw.e.toNat : Int), .int .u32 (sw.f.toNat : Int), .int .u32 (sw.g.toNat : Int), .int .u32 (sw.h.toNat : Int)] := rfl
        rw [hv8] at htk
        obtain ⟨T, hT⟩ : ∃ T, T = rnd sw rest' := ⟨_, rfl⟩
        rw [← hT] at htk hgoal
        have hv8' : v8 T = .agg #[.int .u32 (T.a.toNat : Int), .int .u32 (T.b.toNat : Int), .int .u32 (T.c.toNat : Int), .int .u32 (T.d.toNat : Int), .int .u32 (T.e.toNat : Int), .int .u32 (T.f.toNat : Int), .int .u32 (T.g.toNat : Int), .int .u32 (T.h.toNat : Int)] := rfl
        rw [hv8'] at htk
        have Htk := Lib.hid htk
        have Ho := Lib.hid (And.intro hH2d (And.intro hgoal (And.intro q5 hBy2)))
        clear hb hy hmc hcm hA hrest hN hr hNl hm hk hkl hd hrest' hrl' q4 q5 hBy2 htl hM hrl hfull hN64 hH2 hH2d hwf hrest2 hlen hM0 htk hgoal hv8 hv8' hT hsw d1 d2 s1 s2 Hf
        refine wp_region_any (by kernel_rfl) ?_
        change wpAny _ _ _ _ _ _ _ (World.drew _)
        refine any_take (i := 0) (d := 39) (v := .pointer (some ⟨g, 0, none⟩)) rfl rfl (by kernel_rfl) (by kernel_rfl) (by kernel_rfl) (fun _ _ _ h => h) (Or.inl ⟨by rfl, (by intro w; go_simp)⟩) ?_
        simp only [List.setIfInBounds_toArray, List.set_cons_zero, List.set_cons_succ]
        refine any_take (i := 1) (d := 40) (v := .pointer (some ⟨g, 0, none⟩)) rfl rfl (by kernel_rfl) (by kernel_rfl) (by kernel_rfl) (fun _ _ _ h => h) (Or.inl ⟨by rfl, (by intro w; go_simp)⟩) ?_
        simp only [List.setIfInBounds_toArray, List.set_cons_zero, List.set_cons_succ]
        refine any_take (i := 2) (d := 41) (v := .pointer (some ⟨g, 0, none⟩)) rfl rfl (by kernel_rfl) (by kernel_rfl) (by kernel_rfl) (fun _ _ _ h => h) (Or.inl ⟨by rfl, (by intro w; go_simp)⟩) ?_
        simp only [List.setIfInBounds_toArray, List.set_cons_zero, List.set_cons_succ]
        refine any_take (i := 3) (d := 42) (v := .pointer (some ⟨g, 0, none⟩)) rfl rfl (by kernel_rfl) (by kernel_rfl) (by kernel_rfl) (fun _ _ _ h => h) (Or.inl ⟨by rfl, (by intro w; go_simp)⟩) ?_
        simp only [List.setIfInBounds_toArray, List.set_cons_zero, List.set_cons_succ]
        refine any_take (i := 4) (d := 43) (v := .pointer (some ⟨g, 1, none⟩)) rfl rfl (by kernel_rfl) (by kernel_rfl) (by kernel_rfl) (fun _ _ _ h => h) (Or.inl ⟨by rfl, (by intro w; go_simp)⟩) ?_
        simp only [List.setIfInBounds_toArray, List.set_cons_zero, List.set_cons_succ]
        refine any_take (i := 6) (d := 45) (v := .pointer (some ⟨g, 0, none⟩)) rfl rfl (by kernel_rfl) (by kernel_rfl) (by kernel_rfl) (fun _ _ _ h => h) (Or.inl ⟨by rfl, (by intro w; go_simp)⟩) ?_
        simp only [List.setIfInBounds_toArray, List.set_cons_zero, List.set_cons_succ]
        refine any_take (i := 7) (d := 46) (v := .pointer (some ⟨g, 0, none⟩)) rfl rfl (by kernel_rfl) (by kernel_rfl) (by kernel_rfl) (fun _ _ _ h => h) (Or.inl ⟨by rfl, (by intro w; go_simp)⟩) ?_
        simp only [List.setIfInBounds_toArray, List.set_cons_zero, List.set_cons_succ]
        refine any_take (i := 8) (d := 47) (v := .pointer (some ⟨g, 9, none⟩)) rfl rfl (by kernel_rfl) (by kernel_rfl) (by kernel_rfl) (fun _ _ _ h => h) (Or.inl ⟨by rfl, (by intro w; go_simp)⟩) ?_
        simp only [List.setIfInBounds_toArray, List.set_cons_zero, List.set_cons_succ]
        refine any_two (i := 5) (j := 9) (by kernel_rfl) ?_ ?_
        · refine op_load (d := 44) rfl rfl rfl 180 _ rfl g 1 rfl (l8 sw) _ r1 Tryz.underlying180 rfl info8w ?_
          simp only [List.setIfInBounds_toArray, List.set_cons_zero, List.set_cons_succ]
          refine any_one (i := 9) (by kernel_rfl) ?_
          refine op_load (d := 48) rfl rfl rfl 182 _ rfl g 9 rfl (cbs rest') _ r2 Tryz.underlying182 rfl hi2 ?_
          simp only [List.setIfInBounds_toArray, List.set_cons_zero, List.set_cons_succ]
          refine any_one (i := 10) (by kernel_rfl) ?_
          refine wpOp_step rfl (fun K hK => ?_)
          go_simp
          refine (Htk.out w2.drew Ho.out.1).mono ?_
          rintro e w3 ⟨rfl, hH3, hbut3⟩
          refine hK _ _ ?_
          clear hK K
          refine any_take (i := 11) (d := 50) (v := .pointer (some ⟨g, 0, none⟩)) rfl rfl (by kernel_rfl) (by kernel_rfl) (by kernel_rfl) (fun _ _ _ h => h) (Or.inl ⟨by rfl, (by intro w; go_simp)⟩) ?_
          simp only [List.setIfInBounds_toArray, List.set_cons_zero, List.set_cons_succ]
          refine any_take (i := 12) (d := 51) (v := .pointer (some ⟨g, 1, none⟩)) rfl rfl (by kernel_rfl) (by kernel_rfl) (by kernel_rfl) (fun _ _ _ h => h) (Or.inl ⟨by rfl, (by intro w; go_simp)⟩) ?_
          simp only [List.setIfInBounds_toArray, List.set_cons_zero, List.set_cons_succ]
          obtain ⟨hH2, hgoal, q5, hBy2⟩ := Ho.out
          have hnew : HB (w3.setCells g 1 (l8 T)) g T rest' M := by
            obtain ⟨d, ks, hB3, h3⟩ := hH3
            have h4 := Blk.setMore (w := w3) (l8 T) hB3 (o := 1) (by rw [hc_len h3.1 h3.2.1]; show 1 + 8 ≤ 141; omega)
            rw [hc_put_state] at h4
            exact ⟨d, ks, h4, h3⟩
          have p5 : But g w' (w3.setCells g 1 (l8 T)) := But.setCells (.inl rfl) _ (q5.drew.trans hbut3)
          have pB : Bs (w3.setCells g 1 (l8 T)) A' y := hBy2.touched (But.setCells (.inl rfl) _ ((But.refl g w2).drew.trans hbut3)) Hz.out.2.2.2.2.1
          have Hq := Lib.hid (And.intro (hgoal _ hnew) (And.intro p5 pB))
          have ht3 := hH3.there (o := 1) (m := 8) (by omega)
          refine any_one (i := 13) (by kernel_rfl) ?_
          refine op_store rfl rfl rfl 180 _ _ rfl g 1 (l8 T).toArray rfl rfl ht3 info8w (cws_one T.list) ?_
          refine wpAny_done (by kernel_rfl) ?_ _
          clear hH3 hbut3 hH2 hgoal q5 hBy2 hnew p5 pB ht3 c0 c1 c2 c3 c4 c5 c6 c7 r1 r2 r3 hi2
          go_wp2
          go_roundw
          case rel =>
            obtain ⟨hb, hy, hmc, hcm, hA, hrest, hN, hr, hNl, hm, hk, hkl, hd, hrest', hrl', q4, q5, hBy2, htl, hM, hrl⟩ := Hz.out
            obtain ⟨hnew, p5, pB⟩ := Hq.out
            exact ⟨x ++ y.take k, y.drop k, _, _, _, by rw [List.append_assoc, List.take_append_drop]; exact hb, by rw [List.length_drop, hy], rfl, by omega, by unfold maxLen; omega, pB.cut (by omega) (by omega), hA.cut, hnew, p5⟩
          case measure =>
            obtain ⟨hb, hy, hmc, hcm, hA, hrest, hN, hr, hNl, hm, hk, hkl, hd, hrest', hrl', q4, q5, hBy2, htl, hM, hrl⟩ := Hz.out
            show m - k < m
            omega
        · refine op_load (d := 48) rfl rfl rfl 182 _ rfl g 9 rfl (cbs rest') _ r2 Tryz.underlying182 rfl hi2 ?_
          simp only [List.setIfInBounds_toArray, List.set_cons_zero, List.set_cons_succ]
          refine any_one (i := 5) (by kernel_rfl) ?_
          refine op_load (d := 44) rfl rfl rfl 180 _ rfl g 1 rfl (l8 sw) _ r1 Tryz.underlying180 rfl info8w ?_
          simp only [List.setIfInBounds_toArray, List.set_cons_zero, List.set_cons_succ]
          refine any_one (i := 10) (by kernel_rfl) ?_
          refine wpOp_step rfl (fun K hK => ?_)
          go_simp
          refine (Htk.out w2.drew Ho.out.1).mono ?_
          rintro e w3 ⟨rfl, hH3, hbut3⟩
          refine hK _ _ ?_
          clear hK K
          refine any_take (i := 11) (d := 50) (v := .pointer (some ⟨g, 0, none⟩)) rfl rfl (by kernel_rfl) (by kernel_rfl) (by kernel_rfl) (fun _ _ _ h => h) (Or.inl ⟨by rfl, (by intro w; go_simp)⟩) ?_
          simp only [List.setIfInBounds_toArray, List.set_cons_zero, List.set_cons_succ]
          refine any_take (i := 12) (d := 51) (v := .pointer (some ⟨g, 1, none⟩)) rfl rfl (by kernel_rfl) (by kernel_rfl) (by kernel_rfl) (fun _ _ _ h => h) (Or.inl ⟨by rfl, (by intro w; go_simp)⟩) ?_
          simp only [List.setIfInBounds_toArray, List.set_cons_zero, List.set_cons_succ]
          obtain ⟨hH2, hgoal, q5, hBy2⟩ := Ho.out
          have hnew : HB (w3.setCells g 1 (l8 T)) g T rest' M := by
            obtain ⟨d, ks, hB3, h3⟩ := hH3
            have h4 := Blk.setMore (w := w3) (l8 T) hB3 (o := 1) (by rw [hc_len h3.1 h3.2.1]; show 1 + 8 ≤ 141; omega)
            rw [hc_put_state] at h4
            exact ⟨d, ks, h4, h3⟩
          have p5 : But g w' (w3.setCells g 1 (l8 T)) := But.setCells (.inl rfl) _ (q5.drew.trans hbut3)
          have pB : Bs (w3.setCells g 1 (l8 T)) A' y := hBy2.touched (But.setCells (.inl rfl) _ ((But.refl g w2).drew.trans hbut3)) Hz.out.2.2.2.2.1
          have Hq := Lib.hid (And.intro (hgoal _ hnew) (And.intro p5 pB))
          have ht3 := hH3.there (o := 1) (m := 8) (by omega)
          refine any_one (i := 13) (by kernel_rfl) ?_
          refine op_store rfl rfl rfl 180 _ _ rfl g 1 (l8 T).toArray rfl rfl ht3 info8w (cws_one T.list) ?_
          refine wpAny_done (by kernel_rfl) ?_ _
          clear hH3 hbut3 hH2 hgoal q5 hBy2 hnew p5 pB ht3 c0 c1 c2 c3 c4 c5 c6 c7 r1 r2 r3 hi2
          go_wp2
          go_roundw
          case rel =>
            obtain ⟨hb, hy, hmc, hcm, hA, hrest, hN, hr, hNl, hm, hk, hkl, hd, hrest', hrl', q4, q5, hBy2, htl, hM, hrl⟩ := Hz.out
            obtain ⟨hnew, p5, pB⟩ := Hq.out
            exact ⟨x ++ y.take k, y.drop k, _, _, _, by rw [List.append_assoc, List.take_append_drop]; exact hb, by rw [List.length_drop, hy], rfl, by omega, by unfold maxLen; omega, pB.cut (by omega) (by omega), hA.cut, hnew, p5⟩
          case measure =>
            obtain ⟨hb, hy, hmc, hcm, hA, hrest, hN, hr, hNl, hm, hk, hkl, hd, hrest', hrl', q4, q5, hBy2, htl, hM, hrl⟩ := Hz.out
            show m - k < m
            omega
      · have hkm : k = m := by omega
        obtain ⟨Rm, hRm⟩ : ∃ Rm, Rm = M % 64 := ⟨_, rfl⟩
        have d1 : (M : Int) % 64 = (Rm : Int) := by omega
        have d2 : (M : Int).tmod 64 = (Rm : Int) := by rw [Int.tmod_eq_emod_of_nonneg (by omega)]; exact d1
        have d3 : ¬ Rm = 0 := by omega
        have hin := whole_in (l ++ x) (y.take k) (by rw [hN64, htl]; omega)
        have hrk : M % 64 = r + k := by omega
        have hnew : Hold (w1.setCell ⟨g, 73, none⟩ (.int .i64 (M : Int))) g (l ++ (x ++ y.take k)) := by
          have hlen : (l ++ (x ++ y.take k)).length = M := by rw [← List.append_assoc, List.length_append, htl, ← hN, hM]
          refine ⟨rest', ?_, ?_⟩
          · rw [hlen, ← List.append_assoc, hin.1]
            exact ⟨d, ks, q4, hrl', hkl, hd⟩
          · rw [hlen, hrk, ← List.append_assoc, hin.2, hrest', List.take_append_of_le_length (by rw [List.length_append, htl, List.length_take]; omega), List.take_of_length_le (by rw [List.length_append, htl, List.length_take]; omega), hrest]
        have Hf := Lib.hid (And.intro hkm hnew)
        clear hb hy hmc hcm hA hrest hN hr hNl hm hk hkl hd hrest' hrl' q1 q2 q3 q4 q5 hBy hBy2 htl hBlk hB hbut hrl hM hfull hN64 hRm hin hrk hnew hkm
        go_wp2
        go_roundw
        case rel =>
          obtain ⟨hb, hy, hmc, hcm, hA, hrest, hN, hr, hNl, hm, hk, hkl, hd, hrest', hrl', q4, q5, hBy2, htl, hM, hrl⟩ := Hz.out
          obtain ⟨hkm, hnew⟩ := Hf.out
          exact ⟨x ++ y.take k, y.drop k, _, _, _, by rw [List.append_assoc, List.take_append_drop]; exact hb, by rw [List.length_drop, hy], rfl, by omega, by unfold maxLen; omega, hBy2.cut (by omega) (by omega), hA.cut, hnew, q5⟩
        case measure =>
          obtain ⟨hb, hy, hmc, hcm, hA, hrest, hN, hr, hNl, hm, hk, hkl, hd, hrest', hrl', q4, q5, hBy2, htl, hM, hrl⟩ := Hz.out
          show m - k < m
          omega
    · have hm0 : m = 0 := by omega
      subst hm0
      have hy0 : y = [] := List.eq_nil_of_length_eq_zero hy
      subst hy0
      rw [List.append_nil] at hb
      subst hb
      have i2 : ¬ (0 : Int) < ((0 : Nat) : Int) := by omega
      have Hq := Lib.hid (And.intro hH hbut)
      clear hy hmc hcm hB hA hH hbut hm
      go_wp2
      go_ret
      exact ⟨rfl, Hq.out⟩

end Go.Proofs.YtfaeechidjpjbaaGreat
