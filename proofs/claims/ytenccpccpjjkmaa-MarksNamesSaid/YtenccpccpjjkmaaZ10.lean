/-
  Laid together for a hand-in: Dg15, Rp15, Vo15.
-/
import Derived.Test.YtenccpccpjjkmaaZ09
import Derived.Test.YtenccpccpjjkmaaZ06

namespace Go.Proofs.Ytenccpccpjjkmaa
open Go.RowKit Go.Shelf Go.Sort Go.Maps CrewP
set_option linter.unusedVariables false
set_option linter.unusedSimpArgs false

/-- Some marks of a row are others now. -/
theorem RowM.set {w : World} {s : Sl} {l : List Mk} (h : RowM w s l) {i k : Nat} {ms : List Mk} (hi : i + ms.length ≤ s.n) {w' : World} (cur : List Value) (hB : Blk w s.b 28 cur) (hf : s.o + s.c * 33 ≤ cur.length) (ht : (cur.drop s.o).take (s.n * 33) = mks l)
    (hk : k = s.o + i * 33) (hB' : Blk w' s.b 28 (spl cur k (mks ms))) : RowM w' s (l.take i ++ ms ++ l.drop (i + ms.length)) := by
  have hl := h.len
  have hc := h.cap
  subst hk
  have hms := mks_len ms
  have h33 := Nat.mul_le_mul_right 33 hc
  have h34 := Nat.mul_le_mul_right 33 hi
  refine ⟨by simp; omega, hc, h.max, _, hB', by rw [spl_len (by rw [hms]; omega)]; exact hf, ?_⟩
  obtain ⟨A, R, hA, hcur⟩ : ∃ A R, A.length = s.o ∧ cur = A ++ R := ⟨cur.take s.o, cur.drop s.o, by rw [List.length_take]; omega, (List.take_append_drop _ _).symm⟩
  have hR : R.take (s.n * 33) = mks l := by rw [← ht, hcur, List.drop_append, List.drop_of_length_le (by omega), hA, Nat.sub_self, List.drop_zero, List.nil_append]
  have hRl : s.c * 33 ≤ R.length := by rw [hcur, List.length_append, hA] at hf; omega
  have e1 : (spl cur (s.o + i * 33) (mks ms)).drop s.o = spl R (i * 33) (mks ms) := by
    rw [hcur, ← hA, spl_in, List.drop_append, List.drop_of_length_le (Nat.le_refl _), Nat.sub_self, List.drop_zero, List.nil_append]
  rw [e1]
  have e2 : R = mks l ++ R.drop (s.n * 33) := by rw [← hR, List.take_append_drop]
  have hlen : (mks l).length = s.n * 33 := by rw [mks_len, hl]
  have e3 : spl R (i * 33) (mks ms) = mks (l.take i ++ ms ++ l.drop (i + ms.length)) ++ R.drop (s.n * 33) := by
    unfold spl
    rw [mks_append, mks_append, ← mks_take, ← mks_drop, hms]
    generalize R.drop (s.n * 33) = Z at *
    subst e2
    rw [List.take_append_of_le_length (by omega), List.drop_append_of_le_length (by omega), Nat.add_mul]
    simp [List.append_assoc]
  rw [e3, List.take_append_of_le_length (by rw [mks_len]; simp; omega), List.take_of_length_le (by rw [mks_len]; simp; omega)]
theorem zeros_one (n : Nat) : ∀ v ∈ (Builtin.zeroCells (Value.agg (mkC mk0).toArray).cells n).toList, v.oneCell' = true := by
  intro v hv
  unfold Builtin.zeroCells at hv
  simp only [Array.toList_map, List.mem_map] at hv
  obtain ⟨i, _, rfl⟩ := hv
  have h33 : ∀ k, k < 33 → ((Value.agg (mkC mk0).toArray).cells[k]!).oneCell' = true := by decide +kernel
  exact h33 _ (Nat.mod_lt _ (by decide))
theorem mark_zero (w : World) : (zeroValue 28).run Try.prog w = .ok (.agg (mkC mk0).toArray) w := by kernel_rfl
/-- What stands behind the first i is cleared. -/
theorem clear_row {w : World} {s : Sl} {R : List Mk} (h : RowM w s R) {i : Nat} (hi : i < s.n) (cc : Nat) (ty : TypeId) :
    ∃ w', (Builtin.clear_ #[54] ty #[.slice (some ⟨s.b, s.o + i * 33, none⟩) (s.n - i) cc]).run Try.prog w = .ok (.tuple #[]) w' ∧ RowM w' ⟨s.b, s.o, i, s.c⟩ (R.take i) ∧ Out (fun b => b = s.b) w w' := by
  obtain ⟨cur, hB, hf, ht⟩ := h.cur
  obtain ⟨Z, hZ⟩ : ∃ Z, (Builtin.zeroCells (Value.agg (mkC mk0).toArray).cells (s.n - i)).toList = Z := ⟨_, rfl⟩
  have hZl : Z.length = (s.n - i) * 33 := by rw [← hZ, Array.length_toList, zeros_len]
  have hc := h.cap
  have h33 := Nat.mul_le_mul_right 33 hc
  have hst := run_storeCells_cells (P := Try.prog) s.b (s.o + i * 33) Z 0 w (fun j hj => by rw [hB.cell (i := s.o + i * 33 + 0 + j) (List.getElem?_eq_getElem (by omega))]; rfl) (fun j hj => hB.free _) (by rw [← hZ]; exact zeros_one _)
  simp only [Nat.add_zero] at hst
  refine ⟨w.setCells s.b (s.o + i * 33) Z, ?_, ⟨by rw [List.length_take, h.len]; show min i s.n = i; omega, by show i ≤ s.c; omega, h.max, _, Blk.setMore (w := w) Z hB (by omega), ?_, ?_⟩, Out.setCells (S := fun b => b = s.b) (g := s.b) Z (fun _ => rfl) (Out.refl _ _)⟩
  · obtain ⟨k, hk⟩ : ∃ k, s.n - i = k + 1 := ⟨s.n - i - 1, by omega⟩
    rw [hk] at hZ ⊢
    simp only [Builtin.clear_, List.getElem?_toArray, List.getElem?_cons_zero, Sem.run_bind, run_underlying Try.underlying54, Result.andThen_ok, mark_zero, hZ, hst, Sem.run_pure]
  · show s.o + s.c * 33 ≤ (spl cur (s.o + i * 33) Z).length
    rw [spl_len (by omega)]; exact hf
  · show ((spl cur (s.o + i * 33) Z).drop s.o).take (i * 33) = mks (R.take i)
    unfold spl
    rw [List.append_assoc, List.drop_append_of_le_length (by rw [List.length_take]; omega), List.drop_take, show s.o + i * 33 - s.o = i * 33 by omega, List.take_append_of_le_length (by rw [List.length_take, List.length_drop]; omega), List.take_take, Nat.min_self, ← mks_take, ← ht, List.take_take, Nat.min_eq_left (by omega)]
theorem clear_none (w : World) (a : Option Addr) (cc : Nat) (ty : TypeId) : (Builtin.clear_ #[54] ty #[.slice a 0 cc]).run Try.prog w = .ok (.tuple #[]) w := by
  cases a <;> simp [Builtin.clear_, run_underlying Try.underlying54]
theorem clear_g {P : Program} {ops : Array Oper} {rest : List Oper} {o : Oper} {a : Act} {w : World} {Q : Exit → Act → World → Prop} (hgd : o.guard = none) (hd : o.dst = none) (s : Operand) (t1 : TypeId) (ho : o.op = .call { callee := .builtin .clear, args := #[s], argTypes := #[t1] })
    (v : Value) (w' : World) (hs : a.eval s = v) (hrun : (Builtin.clear_ #[t1] o.type #[v]).run P w = .ok (.tuple #[]) w') (h : wpList P ops Q rest a w') : wpList P ops Q (o :: rest) a w := by
  refine wpList_plain hgd fun K hK => ?_
  unfold Oper.wp execOp
  simp only [ho, resolve, invoke, builtin, Sem.run_bind, Sem.run_pure, Result.andThen_ok, List.map_toArray, List.map_cons, List.map_nil, hs, hrun]
  have h' : wpList P ops Q rest (a.put o.dst (.tuple #[])) w' := by rw [hd]; exact h
  exact hK _ _ h'
theorem abv_take {t : Int} {l : List Mk} {j : Nat} (hj : j < l.length) : abv t (l.take (j + 1)) = abv t (l.take j) ++ (if l[j].s ≤ t then [] else [l[j]]) := by
  unfold abv
  rw [List.take_succ_eq_append_getElem hj, List.filter_append]
  congr 1
  by_cases h : l[j].s ≤ t <;> simp [h]
theorem abv_len (t : Int) (l : List Mk) : (abv t l).length ≤ l.length := List.length_filter_le _ _
theorem abv_all {t : Int} {l : List Mk} (h : ∀ y ∈ l, ¬ y.s ≤ t) : abv t l = l := List.filter_eq_self.2 fun y hy => by simpa using h y hy

set_option maxRecDepth 100000 in
set_option maxHeartbeats 3200000 in
theorem delete_any {w : World} {s : Sl} {l : List Mk} (h : RowM w s l) (hl : l.length ≤ 1000) (t : Int) (bx : Nat) (hx : w.cell? ⟨bx, 0, none⟩ = some (.int .i64 t)) (hlt : bx < w.heap.size) (hbx : bx ≠ s.b) :
    Calls Try.prog 36 #[slV s, .func (.func 37) #[] #[.pointer (some ⟨bx, 0, none⟩)]] w fun e w' =>
      e = .returned (slV ⟨s.b, s.o, (abv t l).length, s.c⟩) ∧ RowM w' ⟨s.b, s.o, (abv t l).length, s.c⟩ (abv t l) ∧ Out (fun b => b = s.b) w w' := by
  obtain ⟨b, o, n, c⟩ := s
  have hn := h.len
  have hcap := h.cap
  simp only at hn hcap hbx
  have HI := Lib.hid (index_any (c := c) h.sh hn (by omega) t bx hx hlt)
  have H := Lib.hid (And.intro h (And.intro hx (And.intro hlt hbx)))
  obtain ⟨I, hI⟩ : ∃ I, idxM t l = I := ⟨_, rfl⟩
  have hge := idxM_ge t l
  rw [hI, hn] at hge
  rw [hI] at HI
  simp only [slV] at *
  by_cases hI1 : I = -1
  · subst hI1
    have ha := abv_all (idxM_none hI)
    rw [ha, hn]
    have HA := Lib.hid (hn)
    clear h hx hlt hbx hI hge ha hn
    go_enter Try.func36, Try.ntmps36
    go_wp2_with (go_at_call 54; refine HI.out.mono ?_; rintro e w' ⟨rfl, hb⟩; replace hb := Lib.hid hb)
    go_ret
    exact ⟨rfl, H.out.1.below hb.out H.out.1.lt, Out.ofBelow _ hb.out⟩
  · obtain ⟨i0, hi0⟩ : ∃ i0 : Nat, I = (i0 : Int) := ⟨I.toNat, by omega⟩
    subst hi0
    obtain ⟨⟨hil, hi1⟩, hi2⟩ := idxM_at hI
    have hne : ¬ ((i0 : Int) = -1) := by omega
    have hw1 : IntKind.i64.wrap ((i0 : Int) + 1) = ((i0 + 1 : Nat) : Int) := by rw [IntWalk.i64_in _ (by omega)]; omega
    have htk : abv t (l.take (i0 + 1)) = l.take i0 := by
      rw [abv_take hil, if_pos hi1, List.append_nil]
      exact abv_all fun y hy => by
        obtain ⟨j, hj, rfl⟩ := List.getElem_of_mem hy
        rw [List.length_take] at hj
        rw [List.getElem_take]
        exact hi2 j (by omega) (by omega)
    have Htk := Lib.hid htk
    obtain ⟨nk, hnk⟩ : ∃ nk, (abv t l).length = nk := ⟨_, rfl⟩
    rw [hnk]
    have Hnk := Lib.hid hnk
    clear hnk
    have Hn := Lib.hid hn
    have hi0n : i0 < n := by omega
    clear h hx hlt hbx hI hge hI1 hi1 hi2 htk hil
    go_enter Try.func36, Try.ntmps36
    go_wp2_with (go_at_call 54; refine HI.out.mono ?_; rintro e w' ⟨rfl, hb⟩; replace hb := Lib.hid hb)
    go_loopw [5, 6] (fun v5 v6 wr => ∃ (i j : Nat) (R : List Mk), v5 = .int .i64 (i : Int) ∧ v6 = .int .i64 (j : Int) ∧ i < j ∧ j ≤ n ∧ RowM wr ⟨b, o, n, c⟩ R ∧ R.take i = abv t (l.take j) ∧ (abv t (l.take j)).length = i ∧ R.drop j = l.drop j ∧ Out (fun k => k = b) w wr) (fun _ v6 _ => n - (intOf v6).toNat)
    case atStart =>
      refine ⟨i0, i0 + 1, l, rfl, by go_num, by omega, by omega, H.out.1.below hb.out H.out.1.lt, Htk.out.symm, ?_, rfl, Out.ofBelow _ hb.out⟩
      rw [Htk.out, List.length_take, hn]; omega
    case round =>
      obtain ⟨i, j, R, rfl, rfl, hij, hjn, hR, hRt, hRl, hRd, hout⟩ := hrel
      by_cases hjn' : j < n
      · have q0 : (0 : Int) ≤ (j : Int) := by omega
        have q1 : (j : Int) < (n : Int) := by omega
        have p0 : (0 : Int) ≤ (i : Int) := by omega
        have p1 : (i : Int) < (n : Int) := by omega
        have hjl : j < l.length := by omega
        have hRn := hR.len
        simp only at hRn
        have hjR : j < R.length := by omega
        have hRj : R[j] = l[j] := by
          have h1 := List.drop_eq_getElem_cons hjR
          have h2 := List.drop_eq_getElem_cons hjl
          rw [hRd, h2] at h1
          injection h1 with h1 _
          exact h1.symm
        have hrow := hR.at_ hjR
        rw [hRj] at hrow
        obtain ⟨y, hy⟩ : ∃ y, l[j] = y := ⟨_, rfl⟩
        have habv := abv_take (t := t) hjl
        rw [hy] at hrow habv
        have hRd1 : R.drop (j + 1) = l.drop (j + 1) := by rw [← List.drop_drop (i := 1) (j := j), ← List.drop_drop (i := 1) (j := j), hRd]
        have hbl : b < wr.heap.size := hR.lt
        have hsz := hout.size
        -- the variable
        obtain ⟨wS, hwS, ⟨hth, hin⟩, hbS, hbe, hsS⟩ := row_local wr 28 (mkC mk0) (mkC y) (by rw [mkC_len, mkC_len]) (by rw [mkC_len]; exact mark_info1)
        have hxS : wS.cell? ⟨bx, 0, none⟩ = some (.int .i64 t) := by
          rw [hbe.cell (p := ⟨bx, 0, none⟩) (by have := H.out.2.2.1; show bx < wr.heap.size; omega), World.cell?_of_block (a := ⟨bx, 0, none⟩) (hout.block bx H.out.2.2.1 H.out.2.2.2)]
          exact H.out.2.1
        have hc := Lib.hid (clo2_any y t bx wS hxS (by have := H.out.2.2.1; have := hbe.size; omega))
        have hRS := hR.below hbe hbl
        have hoS : Out (fun k => k = b) w wS := hout.then_below hbe
        have HS := Lib.hid (And.intro hth (And.intro hin (And.intro (mkC_oneA y) (And.intro hrow (mark_infoL y)))))
        have HwS := Lib.hid hwS
        have HQ := Lib.hid (And.intro hbS (And.intro hRS (And.intro hoS hbl)))
        have HL := Lib.hid (And.intro habv (And.intro hRt (And.intro hRl (And.intro hRd1 hRn))))
        have zS : Hid (wS.heap.size = wr.heap.size + 1) := Lib.hid hsS
        clear hth hin hrow hwS hbS hbe hsS hxS hRS hoS hout hR hRt hRl hRd hRj hjR hjl hy habv hRd1 hRn hbl hsz
        by_cases hyt : y.s ≤ t
        · have hd : decide (y.s ≤ t) = true := by simpa using hyt
          rw [hd] at hc
          have hab : Hid (abv t (l.take (j + 1)) = abv t (l.take j)) := Lib.hid (by rw [HL.out.1, if_pos hyt, List.append_nil])
          generalize hY : mkC y = Y at *
          have hrel : Hid (∀ w', Grw wS w' → RowM w' ⟨b, o, n, c⟩ R ∧ Out (fun k => k = b) w w') := Lib.hid fun w' hg => ⟨HQ.out.2.1.below hg.below HQ.out.2.1.lt, HQ.out.2.2.1.then_below hg.below⟩
          have hbY : Hid (wS.rangeAt wr.heap.size 0 Y ∧ (Try.prog.info? 28).map (·.size) = some Y.length) := Lib.hid ⟨HQ.out.1.range, HS.out.2.2.2.2⟩
          go_wp2_with (first
            | (refine wpList_store_mid rfl 28 _ _ rfl wr.heap.size 0 Y.toArray rfl rfl HS.out.1 HS.out.2.1 HS.out.2.2.1 ?_; simp only [Act.put]; refine cast (congrArg (fun z => wpList _ _ _ _ _ z) HwS.out.symm) ?_)
            | (refine load_mid_g rfl 28 _ rfl b (o + j * 33) rfl Y _ HS.out.2.2.2.1 Try.underlying28 rfl HS.out.2.2.2.2 ?_; simp only [Act.put])
            | (refine load_mid_g rfl 28 _ rfl wr.heap.size 0 rfl Y _ hbY.out.1 Try.underlying28 rfl hbY.out.2 ?_; simp only [Act.put])
            | (go_at_call 37; refine hc.out.mono ?_; rintro e w3 ⟨rfl, hg⟩; replace hg := Lib.hid hg))
          refine ⟨?_, ?measure⟩
          (repeat apply Exists.intro)
          refine ⟨?rel, rfl⟩
          case rel => exact ⟨i, j + 1, R, rfl, by go_num, by omega, by omega, (hrel.out w3 hg.out).1, by rw [hab.out]; exact HL.out.2.1, by rw [hab.out]; exact HL.out.2.2.1, HL.out.2.2.2.1, (hrel.out w3 hg.out).2⟩
          case measure => simp [intOf]; omega
        · have hd : decide (y.s ≤ t) = false := by simpa using hyt
          rw [hd] at hc
          have hab : Hid (abv t (l.take (j + 1)) = abv t (l.take j) ++ [y]) := Lib.hid (by rw [HL.out.1, if_neg hyt])
          have hkeep : Hid (∀ w3, Grw wS w3 → ∃ w4, w3.setCells b (o + i * 33) (mkC y) = w4 ∧ w3.there b (o + i * 33) (mkC y).toArray.size ∧ w3.rangeAt wr.heap.size 0 (mkC y) ∧ RowM w4 ⟨b, o, n, c⟩ (R.take i ++ [y] ++ R.drop (i + 1)) ∧ Out (fun k => k = b) w w4) := Lib.hid fun w3 hg => by
            have hR3 := HQ.out.2.1.below hg.below HQ.out.2.1.lt
            obtain ⟨cur, hB, hf, ht⟩ := hR3.cur
            simp only at hB hf ht
            have h33 := Nat.mul_le_mul_right 33 hcap
            refine ⟨_, rfl, hB.thereAt (by rw [List.size_toArray, mkC_len]; omega), (HQ.out.1.below hg.below HQ.out.1.lt).range, ?_, (HQ.out.2.2.1.then_below hg.below).trans (Out.setCells (S := fun k => k = b) (g := b) _ (fun _ => rfl) (Out.refl _ _)) fun k _ e => e⟩
            exact RowM.set (i := i) (ms := [y]) hR3 (by simp; omega) cur hB hf ht rfl (by rw [mks_single]; exact Blk.setMore (w := w3) (mkC y) hB (by rw [mkC_len]; omega))
          have hinA : (Try.prog.info? 28).map (·.size) = some (mkC y).toArray.size := mark_infoA y
          have HinA := Lib.hid hinA
          clear hinA
          generalize hY : mkC y = Y at *
          have hbY : Hid (wS.rangeAt wr.heap.size 0 Y ∧ (Try.prog.info? 28).map (·.size) = some Y.length) := Lib.hid ⟨HQ.out.1.range, HS.out.2.2.2.2⟩
          go_wp2_with (first
            | (refine wpList_store_mid rfl 28 _ _ rfl wr.heap.size 0 Y.toArray rfl rfl HS.out.1 HS.out.2.1 HS.out.2.2.1 ?_; simp only [Act.put]; refine cast (congrArg (fun z => wpList _ _ _ _ _ z) HwS.out.symm) ?_)
            | (refine load_mid_g rfl 28 _ rfl b (o + j * 33) rfl Y _ HS.out.2.2.2.1 Try.underlying28 rfl HS.out.2.2.2.2 ?_; simp only [Act.put])
            | (refine load_mid_g rfl 28 _ rfl wr.heap.size 0 rfl Y _ hbY.out.1 Try.underlying28 rfl hbY.out.2 ?_; simp only [Act.put])
            | (go_at_call 37; refine hc.out.mono ?_; rintro e w3 ⟨rfl, hg⟩; obtain ⟨w4, e4, k1, k2, k3, k4⟩ := hkeep.out w3 hg; replace e4 := Lib.hid e4; replace k3 := Lib.hid (And.intro k1 (And.intro k2 (And.intro k3 k4))); clear k1 k2 k4 hg)
            | (refine load_mid_g rfl 28 _ rfl wr.heap.size 0 rfl Y _ k3.out.2.1 Try.underlying28 rfl hbY.out.2 ?_; simp only [Act.put])
            | (refine wpList_store_mid rfl 28 _ _ rfl b (o + i * 33) Y.toArray rfl rfl k3.out.1 HinA.out HS.out.2.2.1 ?_; simp only [Act.put]; refine cast (congrArg (fun z => wpList _ _ _ _ _ z) e4.out.symm) ?_))
          refine ⟨?_, ?measure⟩
          (repeat apply Exists.intro)
          refine ⟨?rel, rfl⟩
          case rel =>
            have hRl := HL.out.2.2.1
            have hRn := HL.out.2.2.2.2
            refine ⟨i + 1, j + 1, R.take i ++ [y] ++ R.drop (i + 1), by go_num, by go_num, by omega, by omega, k3.out.2.2.1, ?_, ?_, ?_, k3.out.2.2.2⟩
            · rw [hab.out, ← HL.out.2.1, List.take_append_of_le_length (by simp; omega), List.take_of_length_le (by simp; omega)]
            · rw [hab.out, List.length_append, hRl]; rfl
            · rw [← HL.out.2.2.2.1, List.drop_append, List.drop_of_length_le (by simp; omega), List.nil_append, List.drop_drop]
              congr 1
              simp only [List.length_append, List.length_take, List.length_singleton]
              omega
          case measure => simp [intOf]; omega
      · have q1 : ¬ (j : Int) < (n : Int) := by omega
        have hj : j = n := by omega
        subst hj
        rw [List.take_of_length_le (l := l) (by omega)] at hRt hRl
        obtain ⟨w4, hrun, hr4, ho4⟩ := clear_row hR (i := i) hij (c - i) 0
        simp only at hrun hr4 ho4
        rw [hRt] at hr4
        have H4 := Lib.hid (And.intro hr4 (hout.trans ho4 fun k _ e => e))
        have HR := Lib.hid hrun
        have p0 : (0 : Int) ≤ (i : Int) := by omega
        have p1 : (i : Int) ≤ (j : Int) := by omega
        have p2 : ¬ c = i := by omega
        have p3 : (i : Int) ≤ (c : Int) := by omega
        obtain rfl : i = nk := by rw [← hRl]; exact Hnk.out
        clear hrun hr4 ho4 hR hRt hRd hout hRl
        go_wp2_with (refine clear_g rfl rfl _ _ rfl _ _ rfl HR.out ?_)
        go_ret
        exact ⟨rfl, H4.out⟩
end Go.Proofs.Ytenccpccpjjkmaa

namespace Go.Proofs.Ytenccpccpjjkmaa
open Go.RowKit Go.Maps Go.ChangeMaps Go.WideElems
set_option linter.unusedVariables false
set_option linter.unusedSimpArgs false

theorem left_len {a b : Array MapEntry} (seen : Array Nat) (h : a.toList.map (·.born) = b.toList.map (·.born)) : (leftOf a seen).size = (leftOf b seen).size := by
  have e : ∀ a : Array MapEntry, (leftOf a seen).size = ((a.toList.map (·.born)).filter fun k => !seen.contains k).length := fun a => by
    unfold leftOf
    rw [← Array.length_toList, Array.toList_filter, List.filter_map, List.length_map]
    rfl
  rw [e, e, h]
section
variable {P : Program} {K : TypeId} {α β : Type} [DecidableEq α] {T : KeyT P K α} {vv : β → Value} {w w' : World} {m r : Nat} {L todo : List (α × β)} {a : α}
theorem RangeT.put {t e : TypeId} (h : RangeT T vv w m r L todo) (ht : P.underlying t = some (.map K e)) (ha : T.ok a) (b : β) (hin : (lk L a).isSome = true) (hno : ∀ b, (a, b) ∉ todo) (hn : L.length < 1000000) :
    ∃ w', (Instr.mapUpdate t (.map (some m)) (T.kv a) (vv b)).run P w = .ok () w' ∧ w.mapTurned w' m ∧ RangeT T vv w' m r (putL L a b) todo ∧ w'.rangeLeft m r = w.rangeLeft m r := by
  obtain ⟨w', hrun, hturn, hd', es1, n1, hown1, hperm1⟩ := h.owns.put ht hn ha b
  refine ⟨w', hrun, hturn, ?_⟩
  have hne := h.ne
  obtain ⟨hd, es, n, left, cnt, hrg, hp, htodo⟩ := h
  have hleq := hrg.left_eq
  obtain ⟨es0, clock, since, seen, c0, hb, F, hs, hD, hr, hold, hcnt, hl1, hl2, hsc, hsk⟩ := hrg
  have hkey := T.key ha
  obtain ⟨b0, hb0⟩ := Option.isSome_iff_exists.1 hin
  have hmem := lk_some hb0
  have hL0 : left (T.kl a) = false := by
    cases e1 : left (T.kl a) with
    | false => rfl
    | true => exact absurd (by rw [htodo]; exact List.mem_filter.2 ⟨hmem, e1⟩) (hno b0)
  rcases T.keyed.find w hkey es0.toList F.keys with ⟨h1, h2⟩ | ⟨j, e0, h1, h2, h3⟩
  · exfalso
    injection hD with hD
    have hm2 : (T.kl a, .held (vv b0)) ∈ es := hp.mem_iff.2 (List.mem_map.2 ⟨(a, b0), hmem, rfl⟩)
    rw [hD] at hm2
    have hpm := Go.WideShapes.sorted_perm (es0.toList.map (rg P K Rv))
    obtain ⟨x, hx, e1⟩ := List.mem_map.1 (hpm.mem_iff.1 hm2)
    obtain ⟨y, hy⟩ := F.reads x hx
    have hk := rd_key hy
    rw [rg_of hy] at e1
    rw [e1] at hk
    exact h2 x hx (T.keyed.inj hk hkey)
  · have hj : es0[j]? = some e0 := by simpa using h2
    have hrun2 : (Instr.mapUpdate t (.map (some m)) (T.kv a) (vv b)).run P w = .ok () (setBlock w m (.map (es0.modify j fun e' => { e' with key := T.kv a, val := vv b }) clock)) := by
      simp [Instr.mapUpdate, run_underlying ht, MapKept.run_getObj_map hb, T.keyed.check w false hkey, h1, hj, h3, T.keyed.stays w hkey, MapKept.run_setObj_map _ hb, Result.andThen, setBlock]
    rw [hrun2] at hrun
    injection hrun with _ hw
    subst hw
    have hlist : (es0.modify j (fun e' => { e' with key := T.kv a, val := vv b })).toList = es0.toList.set j { e0 with key := T.kv a, val := vv b } := by rw [Array.toList_modify, modify_eq_set _ _ _ _ h2]
    obtain ⟨es2, n2, hh1, hF2, hs2, hD2⟩ := hown1
    have hsame := heap_setBlock_same hb (.map (es0.modify j fun e' => { e' with key := T.kv a, val := vv b }) clock)
    rw [hsame] at hh1
    injection hh1 with hh1
    injection hh1 with hx1 hx2
    subst hx1
    subst hx2
    have hrd : rg P K Rv { e0 with key := T.kv a, val := vv b } = (T.kl a, .held (vv b)) := rg_of (by unfold WideElems.rd; rw [hkey]; rfl)
    have hrd0 : (rg P K Rv e0).1 = T.kl a := by
      obtain ⟨y, hy⟩ := F.reads e0 (List.mem_of_getElem? h2)
      have hk := rd_key hy
      rw [h3, hkey] at hk
      rw [rg_of hy]
      exact (Option.some.inj hk).symm
    have he0 := List.mem_of_getElem? h2
    have hjl : j < es0.toList.length := (List.getElem?_eq_some_iff.1 h2).1
    have who : ∀ x ∈ es0.toList.set j { e0 with key := T.kv a, val := vv b }, x = { e0 with key := T.kv a, val := vv b } ∨ x ∈ es0.toList := fun x hx => by
      rcases List.mem_or_eq_of_mem_set hx with h | h
      · exact .inr h
      · exact .inl h
    have hborn : (es0.modify j fun e' => { e' with key := T.kv a, val := vv b }).toList.map (·.born) = es0.toList.map (·.born) := by
      rw [hlist, List.map_set]
      apply List.ext_getElem?
      intro i
      rw [List.getElem?_set]
      by_cases e : j = i
      · subst e
        rw [if_pos rfl, List.length_map, if_pos hjl, List.getElem?_map, h2]; rfl
      · rw [if_neg e]
    have hcnt2 := left_len seen hborn
    have htodo2 : todo = (putL L a b).filter fun p => left (T.kl p.1) := by
      unfold putL
      rw [List.filter_cons_of_neg (by simp [hL0]), List.filter_filter, htodo]
      refine List.filter_congr fun p hp => ?_
      by_cases e : p.1 = a
      · rw [e, hL0]; simp
      · simp [e]
    have hrange : (setBlock w m (.map (es0.modify j fun e' => { e' with key := T.kv a, val := vv b }) clock)).ranges P K Rv m r n1 (.map es1) left cnt := by
      refine ⟨_, clock, since, seen, c0, hsame, hF2, hs2, hD2, (heap_setBlock_other hb _ hne).trans hr, fun x hx => ?_, by rw [hcnt2]; exact hcnt, fun x hx => ?_, fun k hk => ?_, hsc, hsk⟩
      · rw [hlist] at hx
        rcases who x hx with rfl | hx
        · exact hold e0 he0
        · exact hold x hx
      · rw [hlist] at hx
        rcases who x hx with rfl | hx
        · rw [hrd]
          have := hl1 e0 he0
          rw [hrd0] at this
          exact this
        · exact hl1 x hx
      · obtain ⟨x, hx, e1⟩ := hl2 k hk
        obtain ⟨i, hi, rfl⟩ := List.getElem_of_mem hx
        have hij : j ≠ i := fun e => by
          subst e
          have e2 : es0.toList[j] = e0 := by rw [List.getElem?_eq_getElem hjl] at h2; exact Option.some.inj h2
          rw [e2, hrd0] at e1
          rw [← e1, hL0] at hk
          cases hk
        refine ⟨es0.toList[i], ?_, e1⟩
        rw [hlist]
        exact List.mem_of_getElem? (i := i) (by rw [List.getElem?_set_ne hij, List.getElem?_eq_getElem hi])
    exact ⟨⟨hd', es1, n1, left, cnt, hrange, hperm1, htodo2⟩, by rw [hrange.left_eq, hleq]⟩
end
end Go.Proofs.Ytenccpccpjjkmaa

namespace Go.Proofs.Ytenccpccpjjkmaa
open Go.RowKit Go.Shelf Go.Sort Go.Maps CrewP
set_option linter.unusedVariables false
set_option linter.unusedSimpArgs false

theorem hasR_ok {f : Int} {ns : List Int} (h : okC f ns = true) (n : Int) : hasR f ns n = decide (n ∈ ns) := by unfold hasR; rw [h]; rfl
section
variable {w w' : World} {U U' S : Nat → Prop} {g : Nat} {m : Ms} {ab cap tm : Nat} {L : List (Int × Sl)} {role : Nat → Nat}
theorem RowN.sh {v : Value} {l : List Mk} {b : Nat → Prop} (h : RowN w v l b) : ∃ A k c, v = .slice A k c ∧ ShM w A l ∧ l.length = k := by
  rcases h with ⟨rfl, rfl⟩ | ⟨s, rfl, hr, _⟩
  · exact ⟨_, _, _, rfl, ShM.nil _ _, rfl⟩
  · exact ⟨_, _, _, rfl, hr.sh, hr.len⟩
set_option maxRecDepth 100000 in
set_option maxHeartbeats 6400000 in
theorem vote_in (h : MsIn w U g m ab cap tm L role) {n : Int} (hn : Wf n) (x : Mk) (E : Int) (hE : voteE m n x = E) :
    Calls Try.prog 12 #[.pointer (some ⟨g, 0, none⟩), .int .i64 n, .agg (mkC x).toArray] w fun e w' => e = .returned (.int .i64 E) ∧ MsAt w' (Gr U w w') g (voteS m n x) ∧ Out U w w' := by
  have b1 : Below w.heap.size w (w.alloc (.cells (mkC x).toArray 28)) := (Below.refl _ _).alloc (Nat.le_refl _) _
  have X1 : Blk (w.alloc (.cells (mkC x).toArray 28)) w.heap.size 28 (mkC x) := Blk.new rfl rfl
  have h1 := h.below b1
  have c0 := h1.blk.cell (i := 0) rfl
  have c1 := h1.blk.cell (i := 1) rfl
  have hlen := h.len
  have Hn := Lib.hid (none_in h1)
  have Hh := Lib.hid (has_any m.f _ _ _ _ _ h1.arg n)
  rw [hasR_ok h.ok.crew] at Hh
  have HE := Lib.hid hE
  have keep : ∀ w', Below w.heap.size w w' → voteS m n x = m → MsAt w' (Gr U w w') g (voteS m n x) ∧ Out U w w' := fun w' hb e => by
    rw [e]
    exact ⟨⟨_, _, _, _, _, (h.below hb).wide (fun i hi => .inl hi) fun i hi => hi.elim (fun hi => Nat.lt_of_lt_of_le (h.lt i hi) hb.size) fun hi => hi.2⟩, Out.ofBelow U hb⟩
  have HK := Lib.hid keep
  have H1 := Lib.hid (And.intro h1 (And.intro b1 X1))
  clear keep h1 b1 X1 hE
  by_cases hm : n ∉ m.ns
  · have hE : E = 110 := by rw [← HE.out]; unfold voteE; rw [if_pos hm]
    subst hE
    have hs : voteS m n x = m := by unfold voteS; rw [HE.out, if_neg (by omega)]
    have HS := Lib.hid hs
    rw [decide_eq_false hm] at Hh
    clear hs h hm HE
    generalize mkC x = C at *
    go_enter Try.func12, Try.ntmps12
    go_wp2_with (first
      | (go_at_call 31; refine Hn.out.mono ?_; rintro e w' ⟨rfl, rfl⟩)
      | (go_at_call 32; refine Hh.out.mono ?_; rintro e w2 ⟨rfl, hb2⟩; replace hb2 := Lib.hid (H1.out.2.1.trans (hb2.mono H1.out.2.1.size))))
    go_ret
    exact ⟨rfl, HK.out _ hb2.out HS.out⟩
  have hm' : n ∈ m.ns := Classical.not_not.1 hm
  rw [decide_eq_true hm'] at Hh
  -- what stands behind Has
  have hB : ∀ w2, Below (w.alloc (.cells (mkC x).toArray 28)).heap.size (w.alloc (.cells (mkC x).toArray 28)) w2 → Below w.heap.size w w2 ∧ MsIn w2 U g m ab cap tm L role ∧ Blk w2 w.heap.size 28 (mkC x) := fun w2 hb => ⟨H1.out.2.1.trans (hb.mono H1.out.2.1.size), H1.out.1.below hb, H1.out.2.2.below hb H1.out.2.2.lt⟩
  have H2 := Lib.hid hB
  have hc2 : ∀ w2, Below (w.alloc (.cells (mkC x).toArray 28)).heap.size (w.alloc (.cells (mkC x).toArray 28)) w2 → w2.cell? ⟨w.heap.size, 0, none⟩ = some (.int .i64 x.s) ∧ w2.cell? ⟨g, 2, none⟩ = some (.int .i64 m.lo.s) ∧ w2.cell? ⟨g, 35, none⟩ = some (.map (some tm)) := fun w2 hb => by
    obtain ⟨_, h2, X2⟩ := H2.out w2 hb
    exact ⟨X2.cell (i := 0) rfl, h2.blk.cell (i := 2) rfl, h2.blk.cell (msC_35 _ _ _ _ _ _)⟩
  have HC2 := Lib.hid hc2
  clear hB hc2
  have mixed : Try.prog.follows Departure.mixedOrders = true := by kernel_rfl
  by_cases hr : x.s ≤ m.lo.s ∨ 9007199254740991 < x.s
  · have hE : E = 9 := by rw [← HE.out]; unfold voteE; rw [if_neg hm, if_pos hr]
    subst hE
    have hs : voteS m n x = m := by unfold voteS; rw [HE.out, if_neg (by omega)]
    have HS := Lib.hid hs
    clear hs h HE hm hm'
    generalize mkC x = C at *
    generalize m.lo.s = ls at *
    by_cases h5 : x.s ≤ ls
    · go_enter Try.func12, Try.ntmps12
      go_wp2_with (first
        | (go_at_call 31; refine Hn.out.mono ?_; rintro e w' ⟨rfl, rfl⟩)
        | (go_at_call 32; refine Hh.out.mono ?_; rintro e w2 ⟨rfl, hb2⟩; obtain ⟨k0, k2, k35⟩ := HC2.out w2 hb2; replace hb2 := Lib.hid (H2.out w2 hb2)))
      go_quiet (fail)
      go_wp2
      go_ret
      exact ⟨rfl, HK.out _ (below_drewN hb2.out.1 nq) HS.out⟩
    · have h6 : x.s > 9007199254740991 := by omega
      go_enter Try.func12, Try.ntmps12
      go_wp2_with (first
        | (go_at_call 31; refine Hn.out.mono ?_; rintro e w' ⟨rfl, rfl⟩)
        | (go_at_call 32; refine Hh.out.mono ?_; rintro e w2 ⟨rfl, hb2⟩; obtain ⟨k0, k2, k35⟩ := HC2.out w2 hb2; replace hb2 := Lib.hid (H2.out w2 hb2)))
      go_quiet (fail)
      go_wp2
      go_ret
      exact ⟨rfl, HK.out _ (below_drewN hb2.out.1 nq) HS.out⟩
  have hr1 : ¬ x.s ≤ m.lo.s := fun e => hr (.inl e)
  have hr2 : ¬ x.s > 9007199254740991 := fun e => hr (.inr e)
  have hl4 : (m.told n).length ≤ 4 := h.ok.len n
  have hsrt := h.ok.srt n
  obtain ⟨A, k, c, hv, _, hk⟩ := (h.rowN n).sh
  have Hk := Lib.hid hk
  have hi0 := atM_le (m.told n) x.s
  obtain ⟨i, hi⟩ : ∃ i, atM (m.told n) x.s = i := ⟨_, rfl⟩
  rw [hi, hk] at hi0
  have H3 : Hid (∀ w3, Below w.heap.size w w3 → (Instr.lookup 62 (.map (some tm)) (.int .i64 n) false).run Try.prog w3 = .ok (.slice A k c) w3 ∧ ShM w3 A (m.told n)) := Lib.hid fun w3 hb => by
    have h3 := h.below hb
    have e1 := h3.look hn
    have e2 := (h3.rowN n).sh
    rw [hv] at e1 e2
    obtain ⟨_, _, _, e3, e4, _⟩ := e2
    injection e3 with e3
    rw [← e3] at e4
    exact ⟨e1, e4⟩
  have HL3 : Hid (∀ w3, Below w.heap.size w w3 → (Instr.lookup 62 (.map (some tm)) (.int .i64 n) false).run Try.prog w3 = .ok (.slice A k c) w3) := Lib.hid fun w3 hb => (H3.out w3 hb).1
  have HF : Hid (∀ w3, Below w.heap.size w w3 → Calls Try.prog 33 #[.slice A k c, .int .i64 x.s] w3 fun e w' => e = .returned (.tuple #[.int .i64 (i : Nat), .bool (findM (m.told n) x.s).isSome]) ∧ Below w3.heap.size w3 w') := Lib.hid fun w3 hb => by
    have := find_at (c := c) (H3.out w3 hb).2 hk hsrt (by omega) x.s
    rw [hi] at this
    exact this
  cases hf : findM (m.told n) x.s with
  | some y =>
    have hs : voteS m n x = m := by unfold voteS; rw [if_neg (fun e => by rw [hf] at e; cases e.2)]
    have hE : E = if y = x then 0 else 151 := by rw [← HE.out]; unfold voteE; rw [if_neg hm, if_neg hr, hf]
    obtain ⟨hil, hy⟩ := (findM_at hsrt x.s).1 (by rw [hf]; rfl)
    have hyi : (m.told n)[i]? = some y := by
      rw [← hi, List.getElem?_eq_getElem hil]
      have := findM_mem hsrt (List.getElem_mem hil)
      rw [hy, hf] at this
      exact this.symm
    rw [hi, hk] at hil
    have q0 : (0 : Int) ≤ (i : Int) := by omega
    have q1 : (i : Int) < (k : Int) := by omega
    have hrow : Hid (∀ w3, Below w.heap.size w w3 → ∃ b o, A = some ⟨b, o, none⟩ ∧ w3.rangeAt b (o + i * 33) (mkC y)) := Lib.hid fun w3 hb => by
      obtain ⟨b, o, e1, e2⟩ := (H3.out w3 hb).2.at_ (i := i) (by omega)
      have e3 : (m.told n)[i]'(by omega) = y := by
        have := List.getElem?_eq_getElem (l := m.told n) (i := i) (by omega)
        rw [hyi] at this
        exact (Option.some.inj this).symm
      rw [e3] at e2
      exact ⟨b, o, e1, e2⟩
    have heq := fun w => eq_mark y x w
    have hny := mark_infoL y
    have hnx := mark_infoL x
    rw [hf] at HF
    simp only [Option.isSome_some] at HF
    have HS := Lib.hid hs
    have HX : Hid (∀ w3, Below (w.alloc (.cells (mkC x).toArray 28)).heap.size (w.alloc (.cells (mkC x).toArray 28)) w3 → w3.rangeAt w.heap.size 0 (mkC x)) := Lib.hid fun w3 hb => (H2.out w3 hb).2.2.range
    have HI := Lib.hid (And.intro hny hnx)
    clear hs h HE hm hm' hsrt hyi hv hr hl4 hf hi hy hny hnx
    generalize hX : mkC x = X at *
    generalize mkC y = Y at *
    generalize hls : m.lo.s = ls at *
    have hE' : Hid (E = if decide (y = x) then 0 else 151) := Lib.hid (by rw [hE]; by_cases e : y = x <;> simp [e])
    clear hE
    generalize decide (y = x) = B at *
    go_enter Try.func12, Try.ntmps12
    go_wp2_with (first
      | (go_at_call 31; refine Hn.out.mono ?_; rintro e w' ⟨rfl, rfl⟩)
      | (go_at_call 32; refine Hh.out.mono ?_; rintro e w2 ⟨rfl, hb2⟩; obtain ⟨k0, k2, k35⟩ := HC2.out w2 hb2; replace hb2 := Lib.hid hb2))
    go_quiet (fail)
    have b3 := below_drewN hb2.out nq
    obtain ⟨k0', _, k35'⟩ := HC2.out _ b3
    generalize w2.drewN nq = w3 at *
    have b3' : Below w.heap.size w w3 := (H2.out w3 b3).1
    have hlook := (H3.out w3 b3').1
    have hfnd := Lib.hid (HF.out w3 b3')
    replace b3 := Lib.hid b3
    clear b3' hb2 k0 k2 k35
    go_wp2_with (go_at_call 33; refine hfnd.out.mono ?_; rintro e w4 ⟨rfl, hb4⟩; replace hb4 := Lib.hid (b3.out.trans (hb4.mono b3.out.size)))
    obtain ⟨W, hW⟩ : ∃ W, w4.drew = W := ⟨_, rfl⟩
    have bW := Lib.hid (show Below _ _ W by rw [← hW]; exact hb4.out.drew)
    have bW' := (H2.out W bW.out).1
    obtain ⟨b, o, rfl, hrw⟩ := hrow.out W bW'
    have HW := Lib.hid (And.intro hW (And.intro hrw (And.intro (HX.out W bW.out) bW')))
    clear hW hrw bW'
    refine wp_region_held_drew (S := fun V => V = W) (by kernel_rfl) HW.out.1 (fun _ => ?_)
    rw [HW.out.1]
    refine anyH_take (i := 0) (d := 56) (v := ?a0) rfl rfl (by kernel_rfl) (by kernel_rfl) (by kernel_rfl) (fun _ _ _ h => h) (Or.inl ⟨by rfl, ?ay0⟩) rfl ?ar0
    case ay0 => (intro w; go_simp; try with_reducible rfl)
    simp only [List.setIfInBounds_toArray, List.set_cons_zero, List.set_cons_succ]
    refine anyH_take (i := 1) (d := 57) (v := ?a1) rfl rfl (by kernel_rfl) (by kernel_rfl) (by kernel_rfl) (fun _ _ _ h => h) (Or.inl ⟨by rfl, ?ay1⟩) rfl ?ar1
    case ay1 => (intro w; go_simp; try with_reducible rfl)
    simp only [List.setIfInBounds_toArray, List.set_cons_zero, List.set_cons_succ]
    refine anyH_take (i := 2) (d := 58) (v := ?a2) rfl rfl (by kernel_rfl) (by kernel_rfl) (by kernel_rfl) (fun _ _ _ h => h) (Or.inl ⟨by rfl, ?ay2⟩) rfl ?ar2
    case ay2 => (intro w; go_simp; try with_reducible rfl)
    simp only [List.setIfInBounds_toArray, List.set_cons_zero, List.set_cons_succ]
    refine anyH_load (i := 3) (d := 59) rfl rfl (by kernel_rfl) (by kernel_rfl) (by kernel_rfl) (by rfl) 28 _ rfl b (o + i * 33) rfl Y _ (fun W hSW => by obtain rfl := hSW; exact HW.out.2.1) Try.underlying28 rfl HI.out.1 (fun _ _ _ h => h) rfl ?_
    simp only [List.setIfInBounds_toArray, List.set_cons_zero, List.set_cons_succ]
    refine anyH_load (i := 4) (d := 60) rfl rfl (by kernel_rfl) (by kernel_rfl) (by kernel_rfl) (by rfl) 28 _ rfl w.heap.size 0 rfl X _ (fun W hSW => by obtain rfl := hSW; exact HW.out.2.2.1) Try.underlying28 rfl HI.out.2 (fun _ _ _ h => h) rfl ?_
    simp only [List.setIfInBounds_toArray, List.set_cons_zero, List.set_cons_succ]
    refine anyH_take (i := 5) (d := 61) (v := ?a5) rfl rfl (by kernel_rfl) (by kernel_rfl) (by kernel_rfl) (fun _ _ _ h => h) (Or.inl ⟨by rfl, ?ay5⟩) rfl ?ar5
    case ay5 => (intro w; have hq0 := heq w; go_simp; try with_reducible rfl)
    simp only [List.setIfInBounds_toArray, List.set_cons_zero, List.set_cons_succ]
    refine wpAnyH_done (by kernel_rfl) ?_ _
    cases B with
    | true =>
      obtain rfl : E = 0 := by rw [hE'.out]; rfl
      go_wp2
      go_ret
      exact ⟨rfl, HK.out _ HW.out.2.2.2 HS.out⟩
    | false =>
      obtain rfl : E = 151 := by rw [hE'.out]; rfl
      go_wp2
      go_ret
      exact ⟨rfl, HK.out _ HW.out.2.2.2 HS.out⟩
  | none =>
    obtain ⟨_, hrg⟩ := vote_0 (m := m) (n := n) (x := x) (by unfold voteE; rw [if_neg hm, if_neg hr, hf]) hf
    have hE : E = 0 := by rw [← HE.out]; unfold voteE; rw [if_neg hm, if_neg hr, hf]
    subst hE
    have hs : voteS m n x = m.set n (cutM (insM (m.told n) x)) := by unfold voteS; rw [if_pos ⟨HE.out, hf⟩]
    have hok : (m.set n (cutM (insM (m.told n) x))).ok := by rw [← hs]; exact voteS_ok h.ok n x
    rw [hf] at HF
    simp only [Option.isSome_none] at HF
    -- what stands behind find, in the region's world
    have hend : ∀ W, Below (w.alloc (.cells (mkC x).toArray 28)).heap.size (w.alloc (.cells (mkC x).toArray 28)) W →
        (W.cell? ⟨g, 35, none⟩ = some (.map (some tm)) ∧ W.rangeAt w.heap.size 0 (mkC x)) ∧
        Calls Try.prog 34 #[.slice A k c, .int .i64 (i : Nat), .agg (mkC x).toArray] W fun e w5 => ∃ s', e = .returned (slV s') ∧ (w5.cell? ⟨g, 35, none⟩ = some (.map (some tm)) ∧ w5.rangeAt w.heap.size 0 (mkC x)) ∧
          ∃ w6, (Instr.mapUpdate 62 (.map (some tm)) (.int .i64 n) (slV s')).run Try.prog w5 = .ok () w6 ∧ (w6.cell? ⟨g, 35, none⟩ = some (.map (some tm)) ∧ w6.rangeAt w.heap.size 0 (mkC x)) ∧
            MsAt w6 (Gr U w w6) g (m.set n (cutM (insM (m.told n) x))) ∧ Out U w w6 := fun W hb => by
      obtain ⟨bW, hW, XW⟩ := H2.out W hb
      have hrN := hW.rowN n
      rw [hv] at hrN
      have hbx : role w.heap.size = 0 := by
        rcases Nat.eq_zero_or_pos (role w.heap.size) with e | e
        · exact e
        · have := h.lt _ (h.u w.heap.size (by omega)); omega
      refine ⟨⟨hW.blk.cell (msC_35 _ _ _ _ _ _), XW.range⟩, ?_⟩
      refine (with_any hrN (fun j hj => by have hj : role j = n.toNat + 4 := hj; exact Nat.lt_of_lt_of_le (h.lt j (h.u j (by omega))) bW.size) x hi (by omega)).mono ?_
      rintro e w5 ⟨s', rfl, r5, o5, p5⟩
      have B5 := o5.blk hW.blk (by rw [h.rg]; omega)
      have X5 := o5.blk XW (by rw [hbx]; omega)
      have M5 := hW.num.out o5 (by rw [h.rm]; omega)
      obtain ⟨w6, hrun, hturn, M6⟩ := M5.put (e := 54) (a := n) Try.underlying62 (by have := h.keys; omega) hn s'
      have o6 := turned_out hturn
      have hgt : g ≠ tm := fun e => by have := h.rg; have := h.rm; rw [e] at *; omega
      have hbt : w.heap.size ≠ tm := fun e => by have := h.num.lt; omega
      have hset := hW.set hm' o5 r5 p5 o6 M6 hok
      refine ⟨s', rfl, ⟨B5.cell (msC_35 _ _ _ _ _ _), X5.range⟩, w6, hrun, ⟨(o6.blk B5 hgt).cell (msC_35 _ _ _ _ _ _), (o6.blk X5 hbt).range⟩, ?_, ?_⟩
      · have hz5 := o5.size
        have hz6 := o6.size
        have hzW := bW.size
        exact ⟨_, _, _, _, _, hset.wide (fun j hj => hj.imp_right fun hj => ⟨by omega, hj.2⟩) fun j hj => hj.elim (fun hj => by have := h.lt j hj; omega) fun hj => hj.2⟩
      · exact ((Out.ofBelow U bW).trans o5 fun j _ e => h.u j (by have e : role j = n.toNat + 4 := e; omega)).trans o6 fun j _ e => h.u j (by have e : j = tm := e; rw [e, h.rm]; omega)
    have HEnd := Lib.hid hend
    have hnx := Lib.hid (mark_infoL x)
    have HS := Lib.hid hs
    clear hend hs hok h HE hm hm' hsrt hv hr hl4 hf hi hrg H3 hk
    rw [HS.out]
    have H3 : Hid (∀ w3, Below w.heap.size w w3 → (Instr.lookup 62 (.map (some tm)) (.int .i64 n) false).run Try.prog w3 = .ok (.slice A k c) w3) := HL3
    generalize hX : mkC x = X at *
    generalize hls : m.lo.s = ls at *
    generalize m.set n (cutM (insM (m.told n) x)) = m' at *
    go_enter Try.func12, Try.ntmps12
    go_wp2_with (first
      | (go_at_call 31; refine Hn.out.mono ?_; rintro e w' ⟨rfl, rfl⟩)
      | (go_at_call 32; refine Hh.out.mono ?_; rintro e w2 ⟨rfl, hb2⟩; obtain ⟨k0, k2, k35⟩ := HC2.out w2 hb2; replace hb2 := Lib.hid hb2))
    go_quiet (fail)
    have b3 := below_drewN hb2.out nq
    obtain ⟨k0', _, k35'⟩ := HC2.out _ b3
    generalize w2.drewN nq = w3 at *
    have b3' : Below w.heap.size w w3 := (H2.out w3 b3).1
    have hlook := H3.out w3 b3'
    have hfnd := Lib.hid (HF.out w3 b3')
    replace b3 := Lib.hid b3
    clear b3' hb2 k0 k2 k35
    go_wp2_with (go_at_call 33; refine hfnd.out.mono ?_; rintro e w4 ⟨rfl, hb4⟩; replace hb4 := Lib.hid (b3.out.trans (hb4.mono b3.out.size)))
    obtain ⟨W, hW⟩ : ∃ W, w4.drew = W := ⟨_, rfl⟩
    obtain ⟨hS, hcall⟩ := HEnd.out W (show Below _ _ W by rw [← hW]; exact hb4.out.drew)
    have HW := Lib.hid (And.intro hW (And.intro hS hcall))
    clear hW hS hcall
    refine wp_region_held_drew (S := fun V => V.cell? ⟨g, 35, none⟩ = some (.map (some tm)) ∧ V.rangeAt w.heap.size 0 X) (by kernel_rfl) (by rw [HW.out.1]; exact HW.out.2.1) (fun _ => ?_)
    rw [HW.out.1]
    refine anyH_take (i := 0) (d := 47) (v := ?b0) rfl rfl (by kernel_rfl) (by kernel_rfl) (by kernel_rfl) (fun _ _ _ h => h) (Or.inl ⟨by rfl, ?by0⟩) HW.out.2.1 ?br0
    case by0 => (intro w; go_simp; try with_reducible rfl)
    simp only [List.setIfInBounds_toArray, List.set_cons_zero, List.set_cons_succ]
    refine anyH_take (i := 1) (d := 48) (v := ?b1) rfl rfl (by kernel_rfl) (by kernel_rfl) (by kernel_rfl) (fun _ _ _ h => h) (Or.inl ⟨by rfl, ?by1⟩) HW.out.2.1 ?br1
    case by1 => (intro w; go_simp; try with_reducible rfl)
    simp only [List.setIfInBounds_toArray, List.set_cons_zero, List.set_cons_succ]
    refine anyH_take (i := 2) (d := 49) (v := ?b2) rfl rfl (by kernel_rfl) (by kernel_rfl) (by kernel_rfl) (fun _ _ _ h => h) (Or.inl ⟨by rfl, ?by2⟩) HW.out.2.1 ?br2
    case by2 => (intro w; go_simp; try with_reducible rfl)
    simp only [List.setIfInBounds_toArray, List.set_cons_zero, List.set_cons_succ]
    refine wpAnyH_take' (i := 3) (d := 50) (v := (.map (some tm))) rfl rfl (by kernel_rfl) (by kernel_rfl) (by kernel_rfl) (fun _ _ _ h => h) (Or.inl ⟨by rfl, ?by3⟩) HW.out.2.1 ?br3
    case by3 => (intro W hSW; obtain ⟨hS1, _⟩ := hSW; go_simp; try with_reducible rfl)
    simp only [List.setIfInBounds_toArray, List.set_cons_zero, List.set_cons_succ]
    refine anyH_take (i := 4) (d := 51) (v := ?b4) rfl rfl (by kernel_rfl) (by kernel_rfl) (by kernel_rfl) (fun _ _ _ h => h) (Or.inl ⟨by rfl, ?by4⟩) HW.out.2.1 ?br4
    case by4 => (intro w; go_simp; try with_reducible rfl)
    simp only [List.setIfInBounds_toArray, List.set_cons_zero, List.set_cons_succ]
    refine anyH_take (i := 5) (d := 52) (v := ?b5) rfl rfl (by kernel_rfl) (by kernel_rfl) (by kernel_rfl) (fun _ _ _ h => h) (Or.inl ⟨by rfl, ?by5⟩) HW.out.2.1 ?br5
    case by5 => (intro w; go_simp; try with_reducible rfl)
    simp only [List.setIfInBounds_toArray, List.set_cons_zero, List.set_cons_succ]
    refine anyH_take (i := 6) (d := 53) (v := ?b6) rfl rfl (by kernel_rfl) (by kernel_rfl) (by kernel_rfl) (fun _ _ _ h => h) (Or.inl ⟨by rfl, ?by6⟩) HW.out.2.1 ?br6
    case by6 => (intro w; go_simp; try with_reducible rfl)
    simp only [List.setIfInBounds_toArray, List.set_cons_zero, List.set_cons_succ]
    refine anyH_load (i := 7) (d := 54) rfl rfl (by kernel_rfl) (by kernel_rfl) (by kernel_rfl) (by rfl) 28 _ rfl w.heap.size 0 rfl X _ (fun W hSW => hSW.2) Try.underlying28 rfl hnx.out (fun _ _ _ h => h) HW.out.2.1 ?_
    simp only [List.setIfInBounds_toArray, List.set_cons_zero, List.set_cons_succ]
    refine anyH_one (i := 8) (by kernel_rfl) ?_
    refine st3_call rfl rfl (f := 34) (vals := #[.slice A k c, .int .i64 (i : Nat), .agg X.toArray]) (Z := fun v w5 => ∃ s', v = slV s' ∧ (w5.cell? ⟨g, 35, none⟩ = some (.map (some tm)) ∧ w5.rangeAt w.heap.size 0 X) ∧ ∃ w6, (Instr.mapUpdate 62 (.map (some tm)) (.int .i64 n) (slV s')).run Try.prog w5 = .ok () w6 ∧ (w6.cell? ⟨g, 35, none⟩ = some (.map (some tm)) ∧ w6.rangeAt w.heap.size 0 X) ∧ MsAt w6 (Gr U w w6) g m' ∧ Out U w w6) ?_ ?_ ?_
    · unfold execOp
      simp only [List.getElem_toArray, List.getElem_cons_succ, List.getElem_cons_zero, resolve, invoke, Sem.run_bind, Sem.run_pure, Result.andThen_ok, List.map_toArray, List.map_cons, List.map_nil]
      first | rfl | exact enters_of Try.func34 (by kernel_rfl) rfl _ _
    · exact HW.out.2.2.mono fun e w5 ⟨s', he, h1⟩ => ⟨_, he, s', rfl, h1⟩
    rintro v5 w5 ⟨s', rfl, hS5, w6, hrun6, hS6, hend⟩
    refine ⟨hS5, ?_⟩
    simp only [List.setIfInBounds_toArray, List.set_cons_zero, List.set_cons_succ, Act.put]
    refine anyH_one (i := 9) (by kernel_rfl) ?_
    refine op_mapUpdate rfl rfl rfl _ _ _ _ rfl _ _ _ w6 rfl rfl rfl hrun6 ?_
    refine ⟨hS6, ?_⟩
    refine wpAnyH_done (by kernel_rfl) ?_ _
    have HL := Lib.hid hend
    clear hend hS5 hS6 hrun6
    go_wp2
    go_ret
    exact ⟨rfl, HL.out⟩
end
end Go.Proofs.Ytenccpccpjjkmaa
