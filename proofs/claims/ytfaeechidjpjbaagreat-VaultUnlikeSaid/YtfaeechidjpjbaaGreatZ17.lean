/-
  Laid together for a hand-in: Dgr9, Up9, Abv9.
-/
import Derived.Test.YtfaeechidjpjbaaGreatZ16
import Derived.Maps.AppendAt

namespace Go.Proofs.YtfaeechidjpjbaaGreat

open Go.RowKit Go.Maps

set_option linter.unusedVariables false

theorem thirty2 (d : List Value) (h : d.length = 32) : ∃ x0 x1 x2 x3 x4 x5 x6 x7 x8 x9 x10 x11 x12 x13 x14 x15 x16 x17 x18 x19 x20 x21 x22 x23 x24 x25 x26 x27 x28 x29 x30 x31, d = [x0, x1, x2, x3, x4, x5, x6, x7, x8, x9, x10, x11, x12, x13, x14, x15, x16, x17, x18, x19, x20, x21, x22, x23, x24, x25, x26, x27, x28, x29, x30, x31] := by
  obtain _ | ⟨x0, d⟩ := d
  · simp at h
  obtain _ | ⟨x1, d⟩ := d
  · simp at h
  obtain _ | ⟨x2, d⟩ := d
  · simp at h
  obtain _ | ⟨x3, d⟩ := d
  · simp at h
  obtain _ | ⟨x4, d⟩ := d
  · simp at h
  obtain _ | ⟨x5, d⟩ := d
  · simp at h
  obtain _ | ⟨x6, d⟩ := d
  · simp at h
  obtain _ | ⟨x7, d⟩ := d
  · simp at h
  obtain _ | ⟨x8, d⟩ := d
  · simp at h
  obtain _ | ⟨x9, d⟩ := d
  · simp at h
  obtain _ | ⟨x10, d⟩ := d
  · simp at h
  obtain _ | ⟨x11, d⟩ := d
  · simp at h
  obtain _ | ⟨x12, d⟩ := d
  · simp at h
  obtain _ | ⟨x13, d⟩ := d
  · simp at h
  obtain _ | ⟨x14, d⟩ := d
  · simp at h
  obtain _ | ⟨x15, d⟩ := d
  · simp at h
  obtain _ | ⟨x16, d⟩ := d
  · simp at h
  obtain _ | ⟨x17, d⟩ := d
  · simp at h
  obtain _ | ⟨x18, d⟩ := d
  · simp at h
  obtain _ | ⟨x19, d⟩ := d
  · simp at h
  obtain _ | ⟨x20, d⟩ := d
  · simp at h
  obtain _ | ⟨x21, d⟩ := d
  · simp at h
  obtain _ | ⟨x22, d⟩ := d
  · simp at h
  obtain _ | ⟨x23, d⟩ := d
  · simp at h
  obtain _ | ⟨x24, d⟩ := d
  · simp at h
  obtain _ | ⟨x25, d⟩ := d
  · simp at h
  obtain _ | ⟨x26, d⟩ := d
  · simp at h
  obtain _ | ⟨x27, d⟩ := d
  · simp at h
  obtain _ | ⟨x28, d⟩ := d
  · simp at h
  obtain _ | ⟨x29, d⟩ := d
  · simp at h
  obtain _ | ⟨x30, d⟩ := d
  · simp at h
  obtain _ | ⟨x31, d⟩ := d
  · simp at h
  obtain _ | ⟨y, d⟩ := d
  · exact ⟨x0, x1, x2, x3, x4, x5, x6, x7, x8, x9, x10, x11, x12, x13, x14, x15, x16, x17, x18, x19, x20, x21, x22, x23, x24, x25, x26, x27, x28, x29, x30, x31, rfl⟩
  · simp at h

set_option maxRecDepth 100000 in
theorem run_buildDg (D : List Value) (h : D.length = 32) (w : World) : (Instr.buildSlice 144 1 #[(0, .agg D.toArray)]).run Tryz.prog w = .ok (.slice (some ⟨w.heap.size, 0, none⟩) 1 1) (w.alloc (.cells D.toArray 59)) := by
  obtain ⟨x0, x1, x2, x3, x4, x5, x6, x7, x8, x9, x10, x11, x12, x13, x14, x15, x16, x17, x18, x19, x20, x21, x22, x23, x24, x25, x26, x27, x28, x29, x30, x31, rfl⟩ := thirty2 D h
  kernel_rfl

/-- append of one digest that stands in a block of its own. -/
theorem run_appendDg (w : World) (base : Nat) (v : Value) (l : List Dg) (h32 : All32 l) (hown : w.ownsRow base 59 32 v l.length (cbs l.flatten)) (g : Nat) (d : Dg) (hd : d.length = 32) (hg : Blk w g 59 (cbs d)) (hl : l.length ≤ 100000) (hbase : base ≤ w.heap.size) (ty : TypeId) :
    ∃ v' w', (Builtin.append_ #[144, 144] ty #[v, .slice (some ⟨g, 0, none⟩) 1 1]).run Tryz.prog w = .ok v' w' ∧ w'.ownsRow base 59 32 v' (l ++ [d]).length (cbs (l ++ [d]).flatten) ∧ w.grownBy w' v.ownBlock ∧
      (v'.ownBlock = v.ownBlock ∨ v'.ownBlock = some w.heap.size) := by
  obtain ⟨i0, z0, hi, hz0, hz1, hz2⟩ := dg_zero
  have hzc : z0.cells.size = 32 := by
    have e : (Tryz.prog.info? 59).map (fun i => (i.zero.map fun z => z.cells.size)) = some (some 32) := by kernel_rfl
    rw [hi] at e
    simp [hz0] at e
    exact e
  obtain ⟨v', w', h1, h2, h3, _, h5⟩ := run_append_own_at (P := Tryz.prog) w base 144 ty 59 i0 z0 32 32 Tryz.underlying144 hi hz0 hz1 hz2 hzc (by decide) v l.length (cbs l.flatten) hown ⟨g, 0, none⟩ 1 1 (cbs d)
    (by rw [cbs_length, hd]) (fun j u hu => by rw [add_mk, Nat.zero_add]; exact hg.cell hu) (cbs_one d) (by simp only [maxLen]; omega) (by omega) hbase
  refine ⟨v', w', h1, ?_, h3, h5⟩
  rw [flat_snoc, cbs_append, List.length_append]
  exact h2

end Go.Proofs.YtfaeechidjpjbaaGreat

namespace Go.Proofs.YtfaeechidjpjbaaGreat

open Go.RowKit Go.Maps

set_option linter.unusedVariables false

theorem upIn_len {ds : List Dg} (h : All32 ds) : (upIn ds).length = 32 * ds.length + 1 := by simp [upIn, flat_len h]

theorem Mine.one {w : World} {x : UInt8} {base g : Nat} {t : Value} (hg : w.heap.size = g) (hb : base ≤ g) (hx : t = cb x) : Mine (w.alloc (.cells #[t] 5)) base 5 (.slice (some ⟨g, 0, none⟩) 1 1) [x] := by
  subst hg hx
  exact ⟨rfl, .inr ⟨_, 1, _, rfl, hb, heap_alloc_new w _, Nat.le_refl _, by decide, rfl, rfl⟩⟩

set_option maxRecDepth 100000 in
set_option maxHeartbeats 1600000 in
theorem up_any (S : Nat → Prop) (g bm : Nat) (s : Bk) (A : Option Addr) (m cp : Nat) (ds : List Dg) (w : World) (h : BookS w S g bm s) (hL : s.1.length < 1000000) (hk : s.2.2 < 1000000)
    (hD : Ds w A ds) (h32 : All32 ds) (hm : ds.length = m) (h1 : 1 ≤ m) (h4 : m ≤ 4) :
    Calls Tryz.prog 129 #[.pointer (some ⟨g, 0, none⟩), .slice A m cp] w fun e w' =>
      e = .returned (.tuple #[.agg (cbs (digest (upIn ds))).toArray, .int .i64 0]) ∧ Bg S w w' g bm (stepL s (upIn ds)) := by
  obtain ⟨D, hD32, hDv, hD1⟩ : ∃ D : List Value, D.length = 32 ∧ cbs (digest (upIn ds)) = D ∧ D.toArray.all (·.oneCell') = true := ⟨cbs (digest (upIn ds)), by rw [cbs_length, dlen], rfl, cbs_one' _⟩
  have hul : (upIn ds).length ≤ 65536 := by rw [upIn_len h32]; omega
  have hof : ofD (upIn ds) = digest (upIn ds) := if_pos hul
  have hoe : ofE (upIn ds) = 0 := if_pos hul
  have hb1 : Below w.heap.size w (w.alloc (.cells (cbs (List.replicate 32 0)).toArray 59)) := (Below.refl _ _).alloc (Nat.le_refl _) _
  have hZ1 : Blk (w.alloc (.cells (cbs (List.replicate 32 0)).toArray 59)) w.heap.size 59 (cbs (List.replicate 32 0)) := Blk.new rfl rfl
  have hM1 : Mine ((w.alloc (.cells (cbs (List.replicate 32 0)).toArray 59)).alloc (.cells #[.int .u8 1] 5)) (w.heap.size + 1) 5 (.slice (some ⟨w.heap.size + 1, 0, none⟩) 1 1) (1 :: (ds.take 0).flatten) := Mine.one (x := 1) (by simp) (Nat.le_refl _) rfl
  have hb2 := hb1.alloc (by simp) (.cells #[.int .u8 1] 5)
  have hb3 : Below (w.heap.size + 1) (w.alloc (.cells (cbs (List.replicate 32 0)).toArray 59)) ((w.alloc (.cells (cbs (List.replicate 32 0)).toArray 59)).alloc (.cells #[.int .u8 1] 5)) := (Below.refl _ _).alloc (by simp) _
  have H1 := Lib.hid (And.intro hb1 (And.intro hZ1 (And.intro hM1 (And.intro hb2 hb3))))
  have Ho := Lib.hid (And.intro hD32 (And.intro hDv (And.intro hD1 (And.intro hof hoe))))
  have Hh := Lib.hid (And.intro h (And.intro hL (And.intro hk (And.intro hm (And.intro hD h32)))))
  have hm1 : ¬ ((m : Int) < 1) := by omega
  have hm4 : ¬ ((4 : Int) < m) := by omega
  clear hb1 hZ1 hM1 hb2 hb3 hD32 hDv hD1 hof hoe h hL hk hm hD h32 hul
  rw [Ho.out.2.1]
  go_enter Tryz.func129, Tryz.ntmps129
  go_wp2
  go_loopw [6, 8, 21] (fun v _ i wr => ∃ k : Nat, k ≤ m ∧ i = .int .i64 k ∧ Mine wr (w.heap.size + 1) 5 v (1 :: (ds.take k).flatten) ∧ Below w.heap.size w wr ∧ Blk wr w.heap.size 59 (cbs (List.replicate 32 0))) (fun _ _ i _ => m - (intOf i).toNat)
  case atStart => exact ⟨0, Nat.zero_le _, rfl, H1.out.2.2.1, H1.out.2.2.2.1, H1.out.2.1.below H1.out.2.2.2.2 (by omega)⟩
  case round =>
    obtain ⟨k, hk, rfl, hM, hB, hZ⟩ := hrel
    by_cases hlt : k < m
    · obtain ⟨b, off, rfl, hb, hr⟩ := (Hh.out.2.2.2.2.1.after hB).at_ Hh.out.2.2.2.2.2 (i := k) (by rw [Hh.out.2.2.2.1]; exact hlt)
      have hx32 : (ds[k]'(by rw [Hh.out.2.2.2.1]; exact hlt)).length = 32 := Hh.out.2.2.2.2.2 _ (List.getElem_mem _)
      have hst := flat_step9 ds k (by rw [Hh.out.2.2.2.1]; exact hlt)
      have hlen : (1 :: (ds.take k).flatten).length + 32 ≤ 140737488355328 := by
        have := flat_len (l := ds.take k) (fun x hx => Hh.out.2.2.2.2.2 x (List.mem_of_mem_take hx))
        rw [List.length_cons, this, List.length_take]; omega
      generalize (ds[k]'(by rw [Hh.out.2.2.2.1]; exact hlt)) = x at *
      obtain ⟨X, hX⟩ : ∃ X, cbs x = X := ⟨_, rfl⟩
      have hX32 : X.length = 32 := by rw [← hX, cbs_length, hx32]
      have hX1 : X.toArray.all (·.oneCell') = true := by rw [← hX]; exact cbs_one' _
      rw [hX] at hr
      have hXi : (Tryz.prog.info? 59).map (·.size) = some X.length := by rw [hX32]; exact info32b
      obtain ⟨wS, hwS, ⟨hth, hi⟩, hbS, hbel, hszS⟩ := dig_local wr X hX32
      have hBx : Bs wS (some ⟨wr.heap.size, 0, none⟩) x := Bs.ofBlk (by rw [hX]; exact hbS)
      have hMS : Mine wS (w.heap.size + 1) 5 _ (1 :: (ds.take k).flatten) := hM.after hbel
      have hBS : Below w.heap.size w wS := hB.trans (hbel.mono hB.size)
      have hZS : Blk wS w.heap.size 59 (cbs (List.replicate 32 0)) := hZ.below hbel hZ.lt
      have hgeS : w.heap.size + 1 ≤ wS.heap.size := by have := hZS.lt; omega
      have HwS := Lib.hid hwS
      have Hst := Lib.hid hst
      have Hl := Lib.hid (And.intro hx32 hlen)
      have Hr := Lib.hid (And.intro hr hXi)
      have Hs := Lib.hid (And.intro hth (And.intro hi hX1))
      have Hm := Lib.hid (And.intro hMS (And.intro hBx (And.intro hBS (And.intro hZS hgeS))))
      clear hwS hst hx32 hlen hr hXi hth hi hX1 hMS hBx hBS hZS hbS hbel hM hZ hX32 hX hszS hgeS
      go_wp2_with (first
        | (refine wpList_load_mid rfl 59 _ rfl b (off + k * 32) rfl X _ Hr.out.1 Tryz.underlying59 rfl Hr.out.2 ?_; simp only [Act.put])
        | (refine wpList_store_mid rfl 59 _ _ rfl wr.heap.size 0 X.toArray rfl rfl Hs.out.1 Hs.out.2.1 Hs.out.2.2 ?_; simp only [Act.put]; refine cast (congrArg (fun z => wpList _ _ _ _ _ z) HwS.out.symm) ?_)
        | (at_builtin; refine wp_appendB rfl _ _ rfl (w.heap.size + 1) _ _ rfl Hm.out.1 (some ⟨wr.heap.size, 0, none⟩) 32 32 x rfl Hm.out.2.1 Hl.out.1 Hl.out.2 Hm.out.2.2.2.2 ?_; intro v2 w2 hm2 hg2 ho2))
      go_roundw
      case rel =>
        have hw2 : Below w.heap.size w w2 := Hm.out.2.2.1.grown hg2 Hm.out.2.2.1.size fun j hj => by have := (World.ownsRow.lt Hm.out.1 j hj).1; omega
        have hz2 : Blk w2 w.heap.size 59 (cbs (List.replicate 32 0)) := (hg2.block _ Hm.out.2.2.2.1.lt fun e => by have := (World.ownsRow.lt Hm.out.1 _ e.symm).1; omega).trans Hm.out.2.2.2.1
        exact ⟨k + 1, by omega, by go_num, by rw [Hst.out]; exact hm2, hw2, hz2⟩
      case measure => simp [intOf]; omega
    · obtain rfl : k = m := by omega
      have Hst : Hid (1 :: (ds.take k).flatten = upIn ds) := by
        show _ = _; rw [List.take_of_length_le (by rw [Hh.out.2.2.2.1]; omega)]; rfl
      rw [Hst.out] at hM
      obtain ⟨Av, cv, rfl, hcv, hcvm, hBv⟩ := Mine.form hM
      have hof := bs_of (BookM.below Hh.out.1 hB) Hh.out.2.1 Hh.out.2.2.1 Av _ cv (upIn ds) hBv rfl hcv hcvm
      rw [Ho.out.2.2.2.1, Ho.out.2.2.2.2, Ho.out.2.1] at hof
      have Hof := Lib.hid hof
      have H2 := Lib.hid (And.intro hB hZ)
      have hlt2 := hZ.lt
      clear hof hM hB hZ hcv hcvm hBv
      go_wp2_with fail
      refine Hof.out.mono ?_
      rintro e w3 ⟨rfl, hG3⟩
      have hnS : ¬ S w.heap.size := fun e => by have := Hh.out.1.lt e; omega
      have hZ3 := hG3.blk H2.out.2 hnS
      have hsD : D.toArray.size = 32 := by rw [List.size_toArray]; exact Ho.out.1
      have hth : w3.there w.heap.size 0 D.toArray.size := by
        have e := hZ3.there
        rw [cbs_length, List.length_replicate] at e
        rw [hsD]; exact e
      have hi : (Tryz.prog.info? 59).map (·.size) = some D.toArray.size := by rw [hsD]; exact info32b
      have hR := hZ3.setAll (vs := D) (by rw [Ho.out.1, cbs_length, List.length_replicate])
      have hGf := Bg.store H2.out.1 (fun i hi => Hh.out.1.lt hi) hG3 (Nat.le_refl _) hlt2 0 D
      have Hth := Lib.hid hth
      have Hi := Lib.hid hi
      have H3 := Lib.hid (And.intro hR hGf)
      clear hZ3 hsD hth hi hR hGf hG3 hnS hlt2
      go_wp2_with (refine wpList_store_mid rfl 59 _ _ rfl w.heap.size 0 D.toArray rfl rfl Hth.out Hi.out Ho.out.2.2.1 ?_)
      refine bodyPost_ret (results_row_tmp3 rfl _ _ w.heap.size 59 D.toArray (0, 0) _ rfl H3.out.1 Tryz.underlying59 rfl Hi.out) rfl ?_
      exact ⟨rfl, H3.out.2⟩

theorem up_kb (B g bm : Nat) (s : Bk) (N : Nat → Prop) (A : Option Addr) (m cp : Nat) (ds : List Dg) (w : World) (h : Kb B w g bm s N) (hB0 : B ≤ w.heap.size) (hL : s.1.length < 1000000) (hk : s.2.2 < 1000000)
    (hD : Ds w A ds) (h32 : All32 ds) (hm : ds.length = m) (h1 : 1 ≤ m) (h4 : m ≤ 4) :
    Calls Tryz.prog 129 #[.pointer (some ⟨g, 0, none⟩), .slice A m cp] w fun e w' =>
      e = .returned (.tuple #[.agg (cbs (digest (upIn ds))).toArray, .int .i64 0]) ∧ Kb B w' g bm (stepL s (upIn ds)) N ∧ Out (Tn B bm w N) w w' := by
  obtain ⟨S', h1', h2, h3⟩ := h
  refine (up_any S' g bm s A m cp ds w h1' hL hk hD h32 hm h1 h4).mono ?_
  rintro e w' ⟨rfl, hG⟩
  exact ⟨rfl, Kb.go hB0 h2 h3 hG⟩

end Go.Proofs.YtfaeechidjpjbaaGreat

namespace Go.Proofs.YtfaeechidjpjbaaGreat

open Go.RowKit Go.Maps Go.Shelf

set_option linter.unusedVariables false

attribute [local go_sem] Oper.semAt_some

theorem chunk_any9 (A : Option Addr) (n c : Nat) (w : World) : Calls Tryz.prog 128 #[.slice A n c, .int .i64 4] w fun e w' =>
    e = .returned (.func (.func 140) #[] #[.pointer (some ⟨w.heap.size, 0, none⟩), .pointer (some ⟨w.heap.size + 1, 0, none⟩)]) ∧ w' = (w.alloc (.cells #[.slice A n c] 144)).alloc (.cells #[.int .i64 4] 3) := by
  go_enter Tryz.func128, Tryz.ntmps128
  go_wp2
  go_ret
  exact ⟨by simp, rfl⟩

def ups4 (ds : List Dg) (pre : List (Ch ds.length)) : List (List UInt8) := pre.map fun x => upIn (four ds x.1)

def dgs4 (ds : List Dg) (pre : List (Ch ds.length)) : List Dg := pre.map fun x => digest (upIn (four ds x.1))

theorem ups4_chs (ds : List Dg) : ups4 ds (chs ds.length) = ups ds := by
  unfold ups4 ups chs
  rw [List.map_pmap]
  exact List.pmap_eq_map (f := fun j => upIn (_root_.Go.Proofs.YtfaeechidjpjbaaGreat.four ds j)) ..

theorem dgs4_chs (ds : List Dg) : dgs4 ds (chs ds.length) = next ds := by
  rw [next, ← ups4_chs]; unfold dgs4 ups4; rw [List.map_map]; rfl

theorem all32_dgs4 (ds : List Dg) (pre : List (Ch ds.length)) : All32 (dgs4 ds pre) := all32_map _ _

theorem ds_four {w : World} {r : Nat} {ds : List Dg} (h : Ds w (some ⟨r, 0, none⟩) ds) (h32 : All32 ds) (x : Nat) (hx : 4 * x < ds.length) : Ds w (some ⟨r, x * 4 * 32, none⟩) (four ds x) ∧ (four ds x).length = min 4 (ds.length - 4 * x) := by
  have hl := four_len ds x
  refine ⟨⟨by rw [cbs_length, flat_len (h32.four x)]; omega, fun _ => ?_⟩, hl⟩
  obtain ⟨b, off, e, hb, hc⟩ := h.2 (by omega)
  cases e
  refine ⟨r, x * 4 * 32, rfl, hb, fun j u hu => ?_⟩
  have h2 := hc (x * 4 * 32 + j) u
  rw [Nat.zero_add] at h2
  refine h2 ?_
  rw [← hu, ← flat_four h32 x, cbs_take, cbs_drop]
  have hj : j < 32 * 4 := by
    rcases Nat.lt_or_ge j (cbs (four ds x).flatten).length with h | h
    · rw [cbs_length, flat_len (h32.four x)] at h; omega
    · rw [List.getElem?_eq_none h] at hu; cases hu
  rw [List.getElem?_take_of_lt hj, List.getElem?_drop]
  congr 1
  omega

/-- Between two rounds. -/
def AbvI (B g bm : Nat) (s1 : Bk) (N5 : Nat → Prop) (ds : List Dg) (w5 : World) (t6 : Nat) (pre : List (Ch ds.length)) (W : World) : Prop :=
  ∃ v, Kb B W g bm (noteAll s1 (ups4 ds pre)) (fun i => N5 i ∨ v.ownBlock = some i) ∧ Out (fun i => Tn B bm w5 N5 i ∨ i = t6) w5 W ∧ Blk W t6 144 [v] ∧
    W.ownsRow w5.heap.size 59 32 v (dgs4 ds pre).length (cbs (dgs4 ds pre).flatten) ∧ bm < w5.heap.size ∧ t6 < w5.heap.size

theorem Kb.free {B g m : Nat} {w w' : World} {s : Bk} {N : Nat → Prop} (h : Kb B w g m s N) {row : Option Nat} (hg : w.grownBy w' row) (hr : ∀ r, row = some r → r ≠ m ∧ ∃ o : Obj, w.heap[r]? = some o ∧ o.isCells = false) : Kb B w' g m s N := by
  obtain ⟨S', h1, h2, h3⟩ := h
  have e : ∀ i, S' i → w'.heap[i]? = w.heap[i]? := fun i hi => hg.block i (h1.lt hi) fun er => by
    obtain ⟨q1, o, q2, q3⟩ := hr i er.symm
    rcases (h2 i hi).2 with h | ⟨cs, t, fr, hc⟩
    · exact q1 h
    · rw [hc] at q2; injection q2 with q2; subst q2; cases q3
  refine ⟨S', BookM.stay h1 hg.size e, fun i hi => ⟨(h2 i hi).1, ?_⟩, fun i hi => ⟨Nat.lt_of_lt_of_le (h3 i hi).1 hg.size, (h3 i hi).2⟩⟩
  rcases (h2 i hi).2 with h | ⟨cs, t, fr, hc⟩
  · exact .inl h
  · exact .inr ⟨cs, t, fr, (e i hi).trans hc⟩

theorem abv_own {B g bm : Nat} {s1 : Bk} {N5 : Nat → Prop} {ds : List Dg} {w5 : World} {t6 : Nat} : OwnFrom w5.heap.size (AbvI B g bm s1 N5 ds w5 t6) := by
  rintro pre W W' row ⟨v, h1, h2, h3, h4, h5, h6⟩ hg hr
  have hne : ∀ (b : Nat) {cs t fr}, W.heap[b]? = some (.cells cs t fr) → W'.heap[b]? = W.heap[b]? := fun b cs t fr hb => hg.block b (by
    rcases Nat.lt_or_ge b W.heap.size with h | h
    · exact h
    · rw [Array.getElem?_eq_none h] at hb; cases hb) fun e => by
      obtain ⟨_, o, q2, q3⟩ := hr b e.symm
      rw [hb] at q2; injection q2 with q2; subst q2; cases q3
  refine ⟨v, h1.free hg fun r e => ⟨by have := (hr r e).1; omega, (hr r e).2⟩, ?_, (hne t6 h3).trans h3, row_stay h4 fun b cs hb hc => hne b hc, h5, h6⟩
  exact h2.then_grown hg fun i hi hlt => absurd (hr i hi).1 (by omega)

/-- What a level above leaves behind. -/
def AbvP (B g bm : Nat) (s : Bk) (ls : List (List UInt8)) (L : Nat → Lv) (n : Nat) (w : World) (N : Nat → Prop) (e : Ending) (w' : World) : Prop :=
  ∃ R : Nat → Nat × Nat, e = .returned (.tuple #[.slice (some ⟨(R (n + 1)).1, 0, none⟩) (lvl (lows ls) (n + 1)).length (R (n + 1)).2, .int .i64 0]) ∧
    (∀ i, i ≤ n → Dn w' (L i) (R i).1 (R i).2 (lvl (lows ls) i)) ∧
    w'.ownsRow 0 59 32 (.slice (some ⟨(R (n + 1)).1, 0, none⟩) (lvl (lows ls) (n + 1)).length (R (n + 1)).2) (lvl (lows ls) (n + 1)).length (cbs (lvl (lows ls) (n + 1)).flatten) ∧
    (∀ i, i ≤ n + 1 → w.heap.size ≤ (R i).1) ∧ (∀ i j, i < j → j ≤ n + 1 → (R i).1 < (R j).1) ∧
    Kb B w' g bm (noteAll s (insTo ls (n + 1))) (fun i => N i ∨ RR R (n + 1) i) ∧ Out (fun i => Tn B bm w N i ∨ TT L n i) w w'

set_option maxRecDepth 100000 in
set_option maxHeartbeats 3200000 in
theorem above_any (B g bm : Nat) (s : Bk) (ls : List (List UInt8)) (F : Nat) (caps : List Value) (lf : Value) (L : Nat → Lv) (K : Nat → Prop) (n : Nat) (IH : AskOK B g bm s ls F caps lf L K n) (w : World) (N : Nat → Prop)
    (h : Pre B g bm s ls lf L n w N) (hlf : Lf B F caps ls L n K w N) (l : Lv) (hx : Blk w l.x 148 [fnOf (L n)]) (hy : Blk w l.y 29 [.pointer (some ⟨g, 0, none⟩)]) (hyN : N l.y) (hyT : ¬ TT L n l.y)
    (hL : s.1.length + 20000 < 1000000) (hk : s.2.2 + 20000 < 1000000) (hls1 : 1 ≤ ls.length) (hls2 : ls.length ≤ 1024) (hn6 : n ≤ 6) :
    Calls Tryz.prog 127 #[.pointer (some ⟨l.x, 0, none⟩), .pointer (some ⟨l.y, 0, none⟩)] w (AbvP B g bm s ls L n w N) := by
  obtain ⟨wA, hwA⟩ : ∃ wA, (w.alloc (.cells #[.slice none 0 0] 144)).alloc (.cells #[.int .i64 0] 26) = wA := ⟨_, rfl⟩
  have hbA : Below w.heap.size w wA := by rw [← hwA]; exact ((Below.refl _ _).alloc (Nat.le_refl _) _).alloc (by simp) _
  have hzA : wA.heap.size = w.heap.size + 2 := by rw [← hwA]; simp
  have bA2 : Blk wA w.heap.size 144 [.slice none 0 0] := by rw [← hwA]; exact (Blk.new rfl rfl : Blk (w.alloc (.cells #[.slice none 0 0] 144)) _ _ _).old _
  have bA3 : Blk wA (w.heap.size + 1) 26 [.int .i64 0] := by rw [← hwA]; exact Blk.new rfl (by simp)
  have cx : wA.cell? ⟨l.x, 0, none⟩ = some (fnOf (L n)) := (hx.below hbA hx.lt).cell rfl
  have hyA : Blk wA l.y 29 [.pointer (some ⟨g, 0, none⟩)] := hy.below hbA hy.lt
  have hask := IH wA (fun i => N i ∨ (w.heap.size ≤ i ∧ i < wA.heap.size)) (h.below hbA (fun i hi => hi) fun i hi => .inl hi) (hlf.below hbA fun i hi => .inl hi)
  unfold fnOf ptr at cx
  unfold ptr at hask
  have Hask := Lib.hid hask
  have HA := Lib.hid (And.intro hwA (And.intro hbA (And.intro hzA (And.intro bA2 (And.intro bA3 hyA)))))
  have Hh := Lib.hid (And.intro h (And.intro hyN (And.intro hyT (And.intro hL hk))))
  clear hask hbA hzA bA2 bA3 hyA h hlf hx hy hyN hyT hL hk IH
  refine (callsIn_wide (n := 5)).1 ?_
  refine callsIn_of_wp_marks Tryz.func127 rfl trivial ?_ rfl
  simp only [Tryz.ntmps127, List.size_toArray, List.length_cons, List.length_nil, Nat.reduceAdd, Nat.reduceSub, Array.replicate_succ, Array.replicate_zero, List.push_toArray, List.append_toArray, List.nil_append, List.cons_append]
  gi_wp2_with fail
  refine ⟨trivial, ?_⟩
  refine (callsIn_wide.2 Hask.out).mono ?_
  rintro e w3 ⟨R, rfl, hP⟩
  obtain ⟨ds, hds⟩ : ∃ ds, lvl (lows ls) n = ds := ⟨_, rfl⟩
  obtain ⟨r, hr⟩ : ∃ r, (R n).1 = r := ⟨_, rfl⟩
  obtain ⟨c, hc⟩ : ∃ c, (R n).2 = c := ⟨_, rfl⟩
  have keep : ∀ {i : Nat} {t : TypeId} {v : List Value}, Blk wA i t v → (N i ∨ (w.heap.size ≤ i ∧ i < wA.heap.size)) → ¬ TT L n i → Blk w3 i t v := fun {i t v} hb hN hT =>
    hP.out.blk hb fun e => by
      rcases e with e | e
      · exact e.2.1 hN
      · exact hT e
  have hTlt : ∀ i, w.heap.size ≤ i → ¬ TT L n i := fun i hi ⟨j, hj, ht⟩ => by
    have := Hh.out.1.kb.lt (Hh.out.1.inN j hj i (Lv.turn_has ht)); omega
  have hz3 : wA.heap.size ≤ w3.heap.size := hP.out.size
  have b32 := keep HA.out.2.2.2.1 (.inr ⟨Nat.le_refl _, by have := HA.out.2.2.1; omega⟩) (hTlt _ (Nat.le_refl _))
  have b33 := keep HA.out.2.2.2.2.1 (.inr ⟨by omega, by have := HA.out.2.2.1; omega⟩) (hTlt _ (by omega))
  have b3y := keep HA.out.2.2.2.2.2 (.inl Hh.out.2.1) Hh.out.2.2.1
  have hDn := hP.dn n (Nat.le_refl _)
  rw [hds, hr, hc]
  rw [hds, hr, hc] at hDn
  have hqc : ds.length ≤ c ∧ c ≤ maxLen := by
    have := hDn.row.2
    rcases this with ⟨e, _⟩ | ⟨_, cap, _, e, _, _, h1, h2, _⟩
    · cases e
    · injection e with _ e1 e2
      omega
  obtain ⟨w5, hw5⟩ : ∃ w5, ((w3.alloc (.cells #[.slice none 0 0] 144)).alloc (.cells #[.slice (some ⟨r, 0, none⟩) ds.length c] 144)).alloc (.cells #[.int .i64 4] 3) = w5 := ⟨_, rfl⟩
  have hb5 : Below w3.heap.size w3 w5 := by rw [← hw5]; exact (((Below.refl _ _).alloc (Nat.le_refl _) _).alloc (by simp) _).alloc (by simp; omega) _
  have hz5 : w5.heap.size = w3.heap.size + 3 := by rw [← hw5]; simp
  have b56 : Blk w5 w3.heap.size 144 [.slice none 0 0] := by rw [← hw5]; exact ((Blk.new rfl rfl : Blk (w3.alloc (.cells #[.slice none 0 0] 144)) _ _ _).old _).old _
  have b5s : Blk w5 (w3.heap.size + 1) 144 [.slice (some ⟨r, 0, none⟩) ds.length c] := by rw [← hw5]; exact (Blk.new rfl (by simp) : Blk ((w3.alloc (.cells #[.slice none 0 0] 144)).alloc (.cells #[.slice (some ⟨r, 0, none⟩) ds.length c] 144)) (w3.heap.size + 1) _ _).old _
  have b5n : Blk w5 (w3.heap.size + 1 + 1) 3 [.int .i64 4] := by rw [← hw5]; exact Blk.new rfl (by simp)
  have H3 := Lib.hid (And.intro hP (And.intro b32 (And.intro b33 (And.intro b3y (And.intro hDn (And.intro hqc (And.intro hz3 (And.intro hds (And.intro hr (And.intro hc hTlt))))))))))
  have H5 := Lib.hid (And.intro hb5 (And.intro hz5 (And.intro b56 (And.intro b5s b5n))))
  clear hP keep hTlt hz3 b32 b33 b3y hDn hqc hb5 hz5 b56 b5s b5n hds hr hc
  gi_wp2_with (refine ⟨trivial, ?_⟩; gi_at_call 128; refine (callsIn_wide.2 (chunk_any9 _ _ _ _)).mono ?_; rintro e w' ⟨rfl, rfl⟩)
  have hdl : 1 ≤ ds.length ∧ ds.length ≤ 1024 := by
    rw [← H3.out.2.2.2.2.2.2.2.1, lvl_len, lows_len]
    exact ⟨wid_pos hls1 n, Nat.le_trans (wid_le _ n hls1) hls2⟩
  have h32 : All32 ds := by rw [← H3.out.2.2.2.2.2.2.2.1]; exact all32_lvl (all32_lows ls) n
  obtain ⟨N5, hN5⟩ : ∃ N5 : Nat → Prop, N5 = fun i => ((N i ∨ (w.heap.size ≤ i ∧ i < wA.heap.size)) ∨ RR R n i) ∨ (w3.heap.size ≤ i ∧ i < w5.heap.size) := ⟨_, rfl⟩
  have hkb5 : Kb B w5 g bm (noteAll s (insTo ls n)) N5 := H3.out.1.kb.belowN H5.out.1 fun i hi => by rw [hN5] at hi; exact hi
  have hN5r : N5 r := by rw [hN5]; exact .inl (.inr ⟨n, Nat.le_refl _, H3.out.2.2.2.2.2.2.2.2.1.symm⟩)
  have hN5y : N5 l.y := by rw [hN5]; exact .inl (.inl (.inl Hh.out.2.1))
  have hbm5 : bm < w5.heap.size := hkb5.m_lt
  have hI0 : AbvI B g bm (noteAll s (insTo ls n)) N5 ds w5 w3.heap.size [] w5 :=
    ⟨_, hkb5.less (fun i hi => by
      rcases hi with hi | hi
      · exact hi
      · simp [Value.ownBlock] at hi), Out.refl _ _, H5.out.2.2.1, World.ownsRow_nil _ _ _ _, hbm5, by have := H5.out.2.1; omega⟩
  have HI0 := Lib.hid hI0
  have H6 := Lib.hid (And.intro hdl (And.intro h32 (And.intro hN5 (And.intro hkb5 (And.intro hN5r (And.intro hN5y hbm5))))))
  have hzs : w3.heap.size < w5.heap.size ∧ w3.heap.size + 1 < w5.heap.size ∧ w3.heap.size + 1 + 1 < w5.heap.size := by have := H5.out.2.1; omega
  have Hzs := Lib.hid hzs
  have hds1024 := hdl.2
  clear hI0 hdl h32 hN5 hkb5 hN5r hN5y hbm5 hzs cx hwA hw5
  refine wpIn_rangeFunc_ownG rfl (by decide) (gf := 140) (lb := #[.pointer (some ⟨w3.heap.size + 1, 0, none⟩), .pointer (some ⟨w3.heap.size + 1 + 1, 0, none⟩)]) rfl trivial (enters_of Tryz.func140 (by kernel_rfl) rfl)
    (encs := fun x => #[chV r ds.length x]) (Kp := KpC (w3.heap.size + 1) (w3.heap.size + 1 + 1)) (S := fun ys => ys = chs ds.length) (Sp := fun _ => True) (N := (chs ds.length).length) (w0 := w5)
    (fun l' J Jx W hW hJ hJx hY h0 => chunk1_in Fence.wide 4 trivial rfl (by decide) l' _ _ r ds.length c hds1024 H3.out.2.2.2.2.2.1.1 H3.out.2.2.2.2.2.1.2 J Jx (fun pre W1 h1 => hJ pre W1 W1.drew none h1 ⟨rfl, rfl, rfl, Nat.le_refl _, fun _ _ _ => rfl⟩ (fun r e => by cases e)) hY W
      ((hW.block _ Hzs.out.2.1).trans H5.out.2.2.2.1) ((hW.block _ Hzs.out.2.2).trans H5.out.2.2.2.2) h0)
    (fun h k => ⟨k.1.trans h.1, k.2.trans h.2⟩) (fun W l' o o' hl' _ _ _ => ⟨World.putObj_heap_other (by have := Hzs.out.2.1; omega), World.putObj_heap_other (by have := Hzs.out.2.2; omega)⟩) (Below.refl _ _) (fun _ => rfl)
    (AbvI B g bm (noteAll s (insTo ls n)) N5 ds w5 w3.heap.size) (fun _ _ _ => False) abv_own (fun _ _ _ _ _ hs _ _ => hs) HI0.out
    (fun x => { tmps := #[.pointer (some ⟨l.x, 0, none⟩), .pointer (some ⟨l.y, 0, none⟩), .pointer (some ⟨w.heap.size, 0, none⟩), .pointer (some ⟨w.heap.size + 1, 0, none⟩), .slice (some ⟨r, 0, none⟩) ds.length c, .int .i64 0, .pointer (some ⟨w3.heap.size, 0, none⟩), chV r ds.length x, undef, undef,
      .tuple #[.slice (some ⟨r, 0, none⟩) ds.length c, .int .i64 0], .func (.func 135) #[] #[.pointer (some ⟨(L n).p, 0, none⟩), .pointer (some ⟨(L n).m, 0, none⟩), .pointer (some ⟨(L n).d, 0, none⟩), .pointer (some ⟨(L n).e, 0, none⟩)],
      .tuple #[.slice (some ⟨r, 0, none⟩) ds.length c, .int .i64 0], .slice (some ⟨r, 0, none⟩) ds.length c, .int .i64 0, .int .i64 0, .bool false, undef, .slice (some ⟨r, 0, none⟩) ds.length c,
      .func (.func 140) #[] #[.pointer (some ⟨w3.heap.size + 1, 0, none⟩), .pointer (some ⟨w3.heap.size + 1 + 1, 0, none⟩)], chV r ds.length x, undef, undef, undef, undef, undef, undef, undef, undef, undef, undef, undef, undef, undef, undef], defers := [] }) ?assign ?body ?done ?stop
  case assign =>
    intro l' x W K' hK
    gi_wp2
    exact hK
  case body =>
    rintro l' pre x W hI hlen
    obtain ⟨v, hK, hO, hB6, hR, hbm, ht6⟩ := hI
    have hylt : l.y < w.heap.size := Hh.out.1.kb.lt Hh.out.2.1
    have hwA := HA.out.2.2.1
    have hw3 := H3.out.2.2.2.2.2.2.1
    have keep5 : ∀ {i : Nat} {t : TypeId} {u : List Value}, Blk w5 i t u → N5 i → i ≠ w3.heap.size → Blk W i t u := fun {i t u} hb hN hne => hO.blk hb fun e => by
      rcases e with e | e
      · exact e.2.1 hN
      · exact hne e
    have cy : W.cell? ⟨l.y, 0, none⟩ = some (.pointer (some ⟨g, 0, none⟩)) := (keep5 (H3.out.2.2.2.1.below H5.out.1 H3.out.2.2.2.1.lt) H6.out.2.2.2.2.2.1 (by omega)).cell rfl
    have hrow5 := row_stay (w' := w5) H3.out.2.2.2.2.1.row fun b cs hb hc => H5.out.1.block b (by
      rcases Nat.lt_or_ge b w3.heap.size with h | h
      · exact h
      · rw [Array.getElem?_eq_none h] at hc; cases hc)
    have hr3 : r < w3.heap.size := row_lt H3.out.2.2.2.2.1.row
    have hrowW := row_out hrow5 hO (fun e => by
      rcases e with e | e
      · exact e.2.1 H6.out.2.2.2.2.1
      · omega)
    have hDsW : Ds W (some ⟨r, 0, none⟩) ds := Shows.ofOwn hrowW
    obtain ⟨hF, hFl⟩ := ds_four hDsW H6.out.2.1 x.1 x.2
    have hxv : chV r ds.length x = .slice (some ⟨r, x.1 * 4 * 32, none⟩) (min 4 (ds.length - 4 * x.1)) (min 4 (ds.length - 4 * x.1)) := rfl
    obtain ⟨m, hm⟩ : ∃ m, min 4 (ds.length - 4 * x.1) = m := ⟨_, rfl⟩
    rw [hm] at hFl hxv
    have hpl : pre.length < 256 + 1 := by have := chs_len ds.length; have := H6.out.1.2; omega
    have hbnd : (noteAll (noteAll s (insTo ls n)) (ups4 ds pre)).1.length < 1000000 ∧ (noteAll (noteAll s (insTo ls n)) (ups4 ds pre)).2.2 < 1000000 := by
      have h1 := noteAll_len (noteAll s (insTo ls n)) (ups4 ds pre)
      have h2 := noteAll_len s (insTo ls n)
      have h3 : (ups4 ds pre).length = pre.length := by simp [ups4]
      have h4 := insTo_len ls hls1 n
      have h5 : ls.length * (n + 1) ≤ 1024 * 7 := Nat.mul_le_mul hls2 (by omega)
      have := Hh.out.2.2.2.1
      have := Hh.out.2.2.2.2
      omega
    have hxm : 1 ≤ m := by have := x.2; omega
    have hup := up_kb B g bm _ (fun i => N5 i ∨ v.ownBlock = some i) (some ⟨r, x.1 * 4 * 32, none⟩) m m (four ds x.1) W hK (Nat.le_trans (Nat.le_trans Hh.out.1.hB (Nat.le_trans HA.out.2.1.size (Nat.le_trans hw3 H5.out.1.size))) hO.size) hbnd.1 hbnd.2 hF (H6.out.2.1.four x.1) hFl hxm (by omega)
    obtain ⟨d, hd⟩ : ∃ d, digest (upIn (four ds x.1)) = d := ⟨_, rfl⟩
    have hd32 : d.length = 32 := by rw [← hd]; exact dlen _
    obtain ⟨D, hD⟩ : ∃ D, cbs d = D := ⟨_, rfl⟩
    have hD32 : D.length = 32 := by rw [← hD, cbs_length, hd32]
    have hD1 : D.toArray.all (·.oneCell') = true := by rw [← hD]; exact cbs_one' _
    rw [hd, hD] at hup
    have Hup := Lib.hid hup
    have HD := Lib.hid (And.intro hd (And.intro hd32 (And.intro hD (And.intro hD32 hD1))))
    have HW := Lib.hid (And.intro hK (And.intro hO (And.intro hB6 (And.intro hR (And.intro hbm ht6)))))
    rw [hxv]
    clear hup hd hd32 hD hD32 hD1 hK hO hB6 hR hbm ht6 keep5 hrow5 hrowW hDsW hF hFl hm hbnd hxm hpl hylt hwA hw3 hr3 hxv
    gi_wp2_with fail
    refine ⟨trivial, ?_⟩
    refine (CallsIn.inRound l' (callsIn_wide.2 Hup.out)).mono ?_
    rintro e W2 ⟨rfl, hK2, hO2⟩
    obtain ⟨hd, hd32, hD, hD32, hD1⟩ := HD.out
    obtain ⟨hK, hO, hB6, hR, hbm, ht6⟩ := HW.out
    have ht6N : N5 w3.heap.size := by rw [H6.out.2.2.1]; exact .inr ⟨Nat.le_refl _, Hzs.out.1⟩
    have hB62 : Blk W2 w3.heap.size 144 [v] := hO2.blk hB6 (Tn.keep (.inl ht6N))
    have hR2 := row_stay (w' := W2) hR fun b cs hb hc => hO2.block b (by
      rcases Nat.lt_or_ge b W.heap.size with h | h
      · exact h
      · rw [Array.getElem?_eq_none h] at hc; cases hc) (Tn.keep (.inr hb))
    obtain ⟨wS, hwS, ⟨hth, hi⟩, hbS, hbel, hszS⟩ := dig_local W2 D hD32
    have hbe4 : Below W2.heap.size W2 (wS.alloc (.cells D.toArray 59)) := hbel.alloc hbel.size _
    have hB4 : Blk (wS.alloc (.cells D.toArray 59)) w3.heap.size 144 [v] := hB62.below hbe4 hB62.lt
    have c6 : wS.cell? ⟨w3.heap.size, 0, none⟩ = some v := (hB62.below hbel hB62.lt).cell rfl
    have hR4 := row_stay (w' := wS.alloc (.cells D.toArray 59)) hR2 fun b cs hb hc => hbe4.block b (by
      rcases Nat.lt_or_ge b W2.heap.size with h | h
      · exact h
      · rw [Array.getElem?_eq_none h] at hc; cases hc)
    have hg4 : Blk (wS.alloc (.cells D.toArray 59)) wS.heap.size 59 (cbs d) := by rw [hD]; exact Blk.new rfl rfl
    have hdl : (dgs4 ds pre).length ≤ 100000 := by
      have : (dgs4 ds pre).length = pre.length := by simp [dgs4]
      have := chs_len ds.length; have := H6.out.1.2; omega
    obtain ⟨v', w6, hap, hR6, hg6, hl6⟩ := run_appendDg (wS.alloc (.cells D.toArray 59)) w5.heap.size v (dgs4 ds pre) (all32_dgs4 ds pre) hR4 wS.heap.size d hd32 hg4 hdl (by have := hO.size; have := hO2.size; have := hbe4.size; omega) 144
    obtain ⟨g2, nn, c2, rfl⟩ : ∃ g2 nn c2, v' = .slice (some ⟨g2, 0, none⟩) nn c2 := by
      rcases hR6.2 with ⟨_, e⟩ | ⟨g2, c2, _, e, _⟩
      · simp at e
      · exact ⟨g2, _, c2, e⟩
    have hv6 : v.ownBlock ≠ some w3.heap.size := fun e => by
      obtain ⟨cs, hcs⟩ := row_block hR4 e
      unfold Blk at hB4
      rw [hcs] at hB4
      injection hB4 with e1
      injection e1 with _ e1
      cases e1
    have hB66 : Blk w6 w3.heap.size 144 [v] := (hg6.block _ hB4.lt fun e => hv6 e.symm).trans hB4
    have c66 := hB66.cell (i := 0) rfl
    have f66 := hB66.free 0
    have hDi : (Tryz.prog.info? 59).map (·.size) = some D.length := by rw [hD32]; exact info32b
    have HwS := Lib.hid hwS
    have Hs := Lib.hid (And.intro hth (And.intro hi (And.intro hD1 (And.intro hbS.range (And.intro hDi (And.intro (run_buildDg D hD32 wS) hap))))))
    have H8 := Lib.hid (And.intro hK2 (And.intro hO2 (And.intro hbe4 (And.intro hB4 (And.intro hR4 (And.intro hR6 (And.intro hg6 (And.intro hl6 (And.intro hv6 hB66)))))))))
    clear hd hd32 hD hD32 hD1 hK hO hB6 hR hbm ht6 hB62 hR2 hth hi hbS hbel hszS hbe4 hB4 hR4 hg4 hdl hap hR6 hg6 hl6 hv6 hB66 hwS hK2 hO2 hDi
    gi_wp2_with (first
      | (refine in_store rfl 59 _ _ rfl W2.heap.size 0 D.toArray rfl rfl Hs.out.1 Hs.out.2.1 Hs.out.2.2.1 ?_; simp only [Act.put]; refine cast (congrArg (fun z => wpListIn _ _ _ _ _ _ _ z) HwS.out.symm) ?_)
      | (refine in_load rfl 59 _ rfl W2.heap.size 0 rfl D _ Hs.out.2.2.2.1 Tryz.underlying59 rfl Hs.out.2.2.2.2.1 ?_; simp only [Act.put])
      | (refine in_row rfl 144 1 _ rfl (.slice (some ⟨wS.heap.size, 0, none⟩) 1 1) (wS.alloc (.cells D.toArray 59)) (by simp only [List.map_toArray, List.map_cons, List.map_nil]; exact Hs.out.2.2.2.2.2.1) ?_; simp only [Act.put])
      | (gi_at_builtin; refine in_app rfl _ _ 144 144 rfl v _ (.slice (some ⟨g2, 0, none⟩) nn c2) w6 rfl rfl Hs.out.2.2.2.2.2.2 ?_; simp only [Act.put]))
    obtain ⟨hK2, hO2, hbe4, hB4, hR4, hR6, hg6, hl6, hv6, hB66⟩ := H8.out
    obtain ⟨hK, hO, hB6, hR, hbm, ht6⟩ := HW.out
    obtain ⟨hd, hd32, hD, hD32, hD1⟩ := HD.out
    obtain ⟨w7, hw7⟩ : ∃ w7, w6.setCell ⟨w3.heap.size, 0, none⟩ (.slice (some ⟨g2, 0, none⟩) nn c2) = w7 := ⟨_, rfl⟩
    have hB7 : Blk w7 w3.heap.size 144 [.slice (some ⟨g2, 0, none⟩) nn c2] := by rw [← hw7]; exact hB66.set_ 0 _
    have hz7 : w7.heap.size = w6.heap.size := by rw [← hw7]; simp [World.setCell]
    have h67 : ∀ i, i ≠ w3.heap.size → w7.heap[i]? = w6.heap[i]? := fun i hi => by rw [← hw7]; exact Below.heap_setCell w6 ⟨w3.heap.size, 0, none⟩ _ i hi
    have ht6N : N5 w3.heap.size := by rw [H6.out.2.2.1]; exact .inr ⟨Nat.le_refl _, Hzs.out.1⟩
    -- from W2 to w7 only the row and the box turn
    have h27 : ∀ i, i < W2.heap.size → i ≠ w3.heap.size → v.ownBlock ≠ some i → w7.heap[i]? = W2.heap[i]? := fun i hi h1 h2 =>
      (h67 i h1).trans ((hg6.block i (Nat.lt_of_lt_of_le hi hbe4.size) fun e => h2 e.symm).trans (hbe4.block i hi))
    have hz27 : W2.heap.size ≤ w7.heap.size := by have := hbe4.size; have := hg6.size; omega
    have hK7 : Kb B w7 g bm (noteAll (noteAll s (insTo ls n)) (ups4 ds (pre ++ [x]))) (fun i => N5 i ∨ (Value.slice (some ⟨g2, 0, none⟩) nn c2).ownBlock = some i) := by
      have e : ups4 ds (pre ++ [x]) = ups4 ds pre ++ [upIn (four ds x.1)] := by simp [ups4]
      rw [e, noteAll_snoc]
      refine hK2.other hz27 (fun i hi hn => h27 i hi (fun e => hn (.inl (e ▸ ht6N))) fun e => hn (.inr e)) fun i hi => ?_
      rcases hi with hi | hi
      · exact .inl (.inl hi)
      · rcases hl6 with e | e
        · exact .inl (.inr (e ▸ hi))
        · rw [e] at hi
          injection hi with hi
          subst hi
          have := (World.ownsRow.lt hR6 _ e).2
          exact .inr ⟨hbe4.size, by omega⟩
    have hO7 : Out (fun i => Tn B bm w5 N5 i ∨ i = w3.heap.size) w5 w7 := by
      have h1 : Out (fun i => Tn B bm w5 N5 i ∨ i = w3.heap.size) w5 W2 := hO.trans hO2 fun i hi hs => by
        by_cases ht : Tn B bm w5 N5 i ∨ i = w3.heap.size
        · exact ht
        · refine .inl ⟨hs.1, fun e => hs.2.1 (.inl e), ?_⟩
          rcases hs.2.2 with e | ⟨cs, t, fr, hc⟩
          · exact .inl e
          · exact .inr ⟨cs, t, fr, (hO.block i hi ht).symm.trans hc⟩
      refine ⟨?_, ?_, ?_, Nat.le_trans h1.size hz27, fun i hi hn => ?_⟩
      · rw [← hw7]; exact hg6.os.trans (hbe4.os.trans h1.os)
      · rw [← hw7]; exact hg6.tape.trans (hbe4.tape.trans h1.tape)
      · rw [← hw7]; exact hg6.output.trans (hbe4.output.trans h1.output)
      · exact (h27 i (Nat.lt_of_lt_of_le hi h1.size) (fun e => hn (.inr e)) fun e => by have := (World.ownsRow.lt hR i e).1; omega).trans (h1.block i hi hn)
    have hR7 : w7.ownsRow w5.heap.size 59 32 (.slice (some ⟨g2, 0, none⟩) nn c2) (dgs4 ds (pre ++ [x])).length (cbs (dgs4 ds (pre ++ [x])).flatten) := by
      have e : dgs4 ds (pre ++ [x]) = dgs4 ds pre ++ [d] := by rw [← hd]; simp [dgs4]
      rw [e]
      exact row_stay hR6 fun b cs hb hc => h67 b (by
        rintro rfl
        unfold Blk at hB66
        rw [hc] at hB66
        injection hB66 with e1
        injection e1 with _ e1
        cases e1)
    have hKp : KpC (w3.heap.size + 1) (w3.heap.size + 1 + 1) W w7 := by
      have key : ∀ i, w3.heap.size < i → i < w5.heap.size → w7.heap[i]? = W.heap[i]? := fun i h1 h2 => by
        have hN : N5 i := by rw [H6.out.2.2.1]; exact .inr ⟨by omega, h2⟩
        exact (h27 i (by have := hO.size; have := hO2.size; omega) (by omega) fun e => by have := (World.ownsRow.lt hR i e).1; omega).trans (hO2.block i (by have := hO.size; omega) (Tn.keep (.inl hN)))
      exact ⟨key _ (by omega) Hzs.out.2.1, key _ (by omega) Hzs.out.2.2⟩
    have hKF : KeepsFrom w5.heap.size W w7 := ⟨Nat.le_trans hO2.size hz27, fun k o hk ho hcell => by
      have hlt : k < W.heap.size := by
        rcases Nat.lt_or_ge k W.heap.size with h | h
        · exact h
        · rw [Array.getElem?_eq_none h] at ho; cases ho
      have hnT : ¬ Tn B bm W (fun i => N5 i ∨ v.ownBlock = some i) k := fun e => by
        rcases e.2.2 with e | ⟨cs, t, fr, hc⟩
        · omega
        · rw [hc] at ho; injection ho with ho; subst ho; cases hcell
      have h2 : W2.heap[k]? = W.heap[k]? := hO2.block k hlt hnT
      refine (h27 k (Nat.lt_of_lt_of_le hlt hO2.size) (by omega) fun e => ?_).trans (h2.trans ho)
      obtain ⟨cs, hcs⟩ := row_block hR e
      rw [hcs] at ho; injection ho with ho; subst ho; cases hcell⟩
    rw [hw7]
    exact ⟨hKF, hKp, _, hK7, hO7, hB7, hR7, hbm, ht6⟩
  case done =>
    rintro D ys W hD rfl hI hKd
    obtain ⟨v, hK, hO, hB6, hR, hbm, ht6⟩ := hI
    rw [dgs4_chs] at hR
    rw [ups4_chs] at hK
    have hwA := HA.out.2.2.1
    have hw3 := H3.out.2.2.2.2.2.2.1
    obtain ⟨g2, nn, c2, rfl⟩ : ∃ g2 nn c2, v = .slice (some ⟨g2, 0, none⟩) nn c2 := by
      rcases hR.2 with ⟨_, e⟩ | ⟨g2, c2, _, e, _⟩
      · rw [next_len] at e; have := H6.out.1.1; omega
      · exact ⟨g2, _, c2, e⟩
    have hN5w : ∀ i, w.heap.size ≤ i → i < wA.heap.size → N5 i := fun i h1 h2 => by rw [H6.out.2.2.1]; exact .inl (.inl (.inr ⟨h1, h2⟩))
    have keep5 : ∀ {i : Nat} {t : TypeId} {u : List Value}, Blk w3 i t u → N5 i → Blk W i t u := fun {i t u} hb hN => hO.blk (hb.below H5.out.1 hb.lt) fun e => by
      rcases e with e | e
      · exact e.2.1 hN
      · have := hb.lt; omega
    have hW2 := keep5 H3.out.2.1 (hN5w _ (Nat.le_refl _) (by omega))
    have hW3 := keep5 H3.out.2.2.1 (hN5w _ (by omega) (by omega))
    have c6 := hB6.cell (i := 0) rfl
    have c2' := hW2.cell (i := 0) rfl
    have f2' := hW2.free 0
    have c3' := hW3.cell (i := 0) rfl
    have f3' := hW3.free 0
    have H9 := Lib.hid (And.intro hK (And.intro hO (And.intro hB6 (And.intro hR (And.intro hbm (And.intro ht6 (And.intro hW2 (And.intro hW3 (And.intro hwA (And.intro hw3 hN5w))))))))))
    have HKd := Lib.hid hKd
    clear hK hO hB6 hR hbm ht6 hW2 hW3 keep5 hwA hw3 hN5w hKd
    gi_wp2
    obtain ⟨hK, hO, hB6, hR, hbm, ht6, hW2, hW3, hwA, hw3, hN5w⟩ := H9.out
    have hKd := HKd.out
    obtain ⟨hP, _, _, _, _, _, _, hds, hr, hc, hTlt⟩ := H3.out
    have hD5 : w5.heap.size ≤ D := hD
    have hsz5 := H5.out.1.size
    have hDlt : D < W.heap.size := by
      rcases Nat.lt_or_ge D W.heap.size with h | h
      · exact h
      · rw [Array.getElem?_eq_none h] at hKd; cases hKd
    obtain ⟨wE, hwE⟩ : ∃ wE, (W.setCell ⟨w.heap.size, 0, none⟩ (.slice (some ⟨g2, 0, none⟩) nn c2)).setCell ⟨w.heap.size + 1, 0, none⟩ (.int .i64 0) = wE := ⟨_, rfl⟩
    have hEb : ∀ i, i ≠ w.heap.size → i ≠ w.heap.size + 1 → wE.heap[i]? = W.heap[i]? := fun i h1 h2 => by
      rw [← hwE]; exact (Below.heap_setCell _ ⟨w.heap.size + 1, 0, none⟩ _ i h2).trans (Below.heap_setCell _ ⟨w.heap.size, 0, none⟩ _ i h1)
    have hE2 : Blk wE w.heap.size 144 [.slice (some ⟨g2, 0, none⟩) nn c2] := by rw [← hwE]; exact (hW2.set_ 0 _).far (p := ⟨w.heap.size + 1, 0, none⟩) (show w.heap.size ≠ w.heap.size + 1 by omega) _
    have hE3 : Blk wE (w.heap.size + 1) 26 [.int .i64 0] := by rw [← hwE]; exact (hW3.far (p := ⟨w.heap.size, 0, none⟩) (show w.heap.size + 1 ≠ w.heap.size by omega) _).set_ 0 _
    have hEz : wE.heap.size = W.heap.size := by rw [← hwE]; simp [World.setCell]
    have hEo : Out (fun i => i = w.heap.size ∨ i = w.heap.size + 1) W wE := by
      rw [← hwE]; exact Out.setCell (p := ⟨w.heap.size + 1, 0, none⟩) (Out.setCell (p := ⟨w.heap.size, 0, none⟩) (Out.refl _ _) (fun _ => .inl rfl) _) (fun _ => .inr rfl) _
    have hKE : wE.heap[D]? = some (.deferred (some [])) := (hEb D (by omega) (by omega)).trans hKd
    obtain ⟨wF, hwF⟩ : ∃ wF, wE.putObj D (.deferred none) = wF := ⟨_, rfl⟩
    have hgF : wE.grownBy wF (some D) := by rw [← hwF]; exact grownBy_putObj' _ _ _
    have hFb : ∀ i, i < W.heap.size → i ≠ w.heap.size → i ≠ w.heap.size + 1 → i ≠ D → wF.heap[i]? = W.heap[i]? := fun i hi h1 h2 h3 =>
      (hgF.block i (by omega) fun e => h3 (Option.some.inj e)).trans (hEb i h1 h2)
    have hF2 : Blk wF w.heap.size 144 [.slice (some ⟨g2, 0, none⟩) nn c2] := (hgF.block _ hE2.lt fun e => by injection e with e; omega).trans hE2
    have hF3 : Blk wF (w.heap.size + 1) 26 [.int .i64 0] := (hgF.block _ hE3.lt fun e => by injection e with e; omega).trans hE3
    have rc2 := hF2.cell (i := 0) rfl
    have rc3 := hF3.cell (i := 0) rfl
    -- what stood ahead of the loop
    have h3F : ∀ i, i < w3.heap.size → N5 i → i ≠ w.heap.size → i ≠ w.heap.size + 1 → wF.heap[i]? = w3.heap[i]? := fun i hi hN h1 h2 => by
      have h5 : w5.heap[i]? = w3.heap[i]? := H5.out.1.block i hi
      have hW : W.heap[i]? = w5.heap[i]? := hO.block i (Nat.lt_of_lt_of_le hi H5.out.1.size) fun e => by
        rcases e with e | e
        · exact e.2.1 hN
        · omega
      exact (hFb i (by have := hO.size; have := H5.out.1.size; omega) h1 h2 (by have := H5.out.1.size; omega)).trans (hW.trans h5)
    have hnn : nn = (next ds).length := by
      rcases hR.2 with ⟨e, _⟩ | ⟨_, _, _, e, _⟩
      · cases e
      · injection e
    subst hnn
    have hlv : lvl (lows ls) (n + 1) = next ds := by rw [← hds]; rfl
    have hg2 := World.ownsRow.lt hR g2 rfl
    have hNin : ∀ i, N i → N5 i := fun i hi => by rw [H6.out.2.2.1]; exact .inl (.inl (.inl hi))
    have hNR : ∀ j, j ≤ n → N5 (R j).1 := fun j hj => by rw [H6.out.2.2.1]; exact .inl (.inr ⟨j, hj, rfl⟩)
    have hRlt : ∀ j, j ≤ n → (R j).1 < w3.heap.size := fun j hj => row_lt (hP.dn j hj).row
    rw [hwE]
    refine ⟨by simp, .inl ⟨_, _, rfl, run_takeDeferred hKE, ?_⟩⟩
    rw [hwF]
    refine ⟨.tuple #[.slice (some ⟨g2, 0, none⟩) (next ds).length c2, .int .i64 0], by simp [results, Tryz.results127, go_sem, rc2, rc3], ?_⟩
    obtain ⟨R', hR'⟩ : ∃ R' : Nat → Nat × Nat, R' = fun i => if i = n + 1 then (g2, c2) else R i := ⟨_, rfl⟩
    have e1 : R' (n + 1) = (g2, c2) := by rw [hR']; simp
    have e0 : ∀ j, j ≤ n → R' j = R j := fun j hj => by rw [hR']; simp; omega
    refine ⟨R', by rw [e1, hlv], fun i hi => ?_, ?_, fun i hi => ?_, fun i j hij hj => ?_, ?_, ?_⟩
    · rw [e0 i hi]
      have hL := hP.dn i hi
      have hin := fun a (ha : (L i).has a) => Hh.out.1.inN i hi a ha
      have hlt := fun a (ha : (L i).has a) => Hh.out.1.kb.lt (hin a ha)
      have key : ∀ a, (L i).has a → wF.heap[a]? = w3.heap[a]? := fun a ha => h3F a (by have := hlt a ha; omega) (hNin a (hin a ha)) (by have := hlt a ha; omega) (by have := hlt a ha; omega)
      have hnew := hP.new i hi
      exact hL.stay (key _ (by simp [Lv.has])) (key _ (by simp [Lv.has])) (key _ (by simp [Lv.has])) (h3F _ (hRlt i hi) (hNR i hi) (by omega) (by omega))
    · rw [e1, hlv]
      refine row_base (row_stay hR fun b cs hb _ => ?_) (Nat.zero_le _)
      have hb2 : b = g2 := by simp [Value.ownBlock] at hb; exact hb.symm
      subst hb2
      refine hFb b hg2.2 (by have := H5.out.1.size; omega) (by have := H5.out.1.size; omega) fun e => ?_
      subst e
      obtain ⟨cs', hcs⟩ := row_block hR (b := b) rfl
      rw [hcs] at hKd
      cases hKd
    · by_cases hin : i ≤ n
      · rw [e0 i hin]; have := hP.new i hin; omega
      · obtain rfl : i = n + 1 := by omega
        rw [e1]; have := H5.out.1.size; show w.heap.size ≤ g2; omega
    · by_cases hjn : j ≤ n
      · rw [e0 i (by omega), e0 j hjn]; exact hP.inc i j hij hjn
      · obtain rfl : j = n + 1 := by omega
        rw [e1, e0 i (by omega)]
        have := hRlt i (by omega)
        have := H5.out.1.size
        show (R i).1 < g2
        omega
    · rw [insTo_succ, noteAll_append, hds]
      have hKE2 : Kb B wE g bm (noteAll (noteAll s (insTo ls n)) (ups ds)) (fun i => N5 i ∨ (Value.slice (some ⟨g2, 0, none⟩) (next ds).length c2).ownBlock = some i) :=
        hK.other (by omega) (fun i hi hn => hEb i (fun e => hn (.inl (e ▸ hN5w _ (Nat.le_refl _) (by omega)))) fun e => hn (.inl (e ▸ hN5w _ (by omega) (by omega)))) fun i hi => .inl hi
      refine (hKE2.free hgF fun r' er => ?_).less fun i hi => ?_
      · injection er with er
        subst er
        exact ⟨by omega, _, hKE, rfl⟩
      · rcases hi with hi | ⟨j, hj, rfl⟩
        · exact .inl (hNin i hi)
        · by_cases hjn : j ≤ n
          · rw [e0 j hjn]; exact .inl (hNR j hjn)
          · obtain rfl : j = n + 1 := by omega
            rw [e1]; exact .inr rfl
    · have o1 : Out (fun i => Tn B bm w N i ∨ TT L n i) w w3 := (Out.ofBelow (fun i => Tn B bm w N i ∨ TT L n i) HA.out.2.1).trans hP.out fun i hi hs => by
        rcases hs with hs | hs
        · refine .inl ⟨hs.1, fun e => hs.2.1 (.inl e), ?_⟩
          rcases hs.2.2 with e | ⟨cs, t, fr, hc'⟩
          · exact .inl e
          · exact .inr ⟨cs, t, fr, (HA.out.2.1.block i hi).symm.trans hc'⟩
        · exact .inr hs
      have o2 : Out (fun i => Tn B bm w N i ∨ TT L n i) w w5 := o1.then_below H5.out.1
      have o3 : Out (fun i => Tn B bm w N i ∨ TT L n i) w W := o2.trans hO fun i hi hs => by
        by_cases ht : Tn B bm w N i ∨ TT L n i
        · exact ht
        · rcases hs with hs | hs
          · refine .inl ⟨hs.1, fun e => hs.2.1 (hNin i e), ?_⟩
            rcases hs.2.2 with e | ⟨cs, t, fr, hc'⟩
            · exact .inl e
            · exact .inr ⟨cs, t, fr, (o2.block i hi ht).symm.trans hc'⟩
          · have := o1.size; omega
      exact (o3.trans hEo fun i hi hs => by rcases hs with e | e <;> omega).then_grown hgF fun i hi hlt => by injection hi with hi; have := o2.size; omega
  case stop =>
    rintro D c' pre W _ _ h _
    exact h.elim

end Go.Proofs.YtfaeechidjpjbaaGreat
