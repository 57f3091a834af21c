/-
  Laid together for a hand-in: Ba11, Byteq, Se11, Sm11, Sn11, Wk11.
-/
import Derived.Test.YtihmddpafbackaaZ07
import Derived.Test.YtihmddpafbackaaZ08
import Derived.Test.YtihmddpafbackaaZ01
import Derived.Test.YtihmddpafbackaaZ03
import Derived.Laws.BytesArg

namespace Go.Proofs.Ytihmddpafbackaa

open Go.RowKit Go.Maps

set_option linter.unusedVariables false

set_option linter.unusedSimpArgs false

theorem sl_info : (Try.prog.info? 22).map (fun i => (i.zero, i.size, i.bytes)) = some (some (.slice none 0 0), 1, 24) := by kernel_rfl

/-- A row of texts that a call owns. -/
def OwnS (w : World) (base : Nat) (v : Value) (vs : List Value) : Prop := w.ownsRow base 22 1 v vs.length vs

def BVs (w : World) (vs : List Value) (ls : List (List UInt8)) : Prop := vs.length = ls.length ∧ ∀ i (hi : i < ls.length), ∃ v, vs[i]? = some v ∧ BV w v ls[i]

theorem BVs.on {w w' : World} {vs : List Value} {ls : List (List UInt8)} (h : BVs w vs ls) (hb : Below w.heap.size w w') : BVs w' vs ls := ⟨h.1, fun i hi => let ⟨v, e, h⟩ := h.2 i hi; ⟨v, e, h.on hb⟩⟩

/-- A row of texts, each of which is none of this row's block. -/
theorem own_bss {w : World} {base n c : Nat} {A : Option Addr} {vs : List Value} {ls : List (List UInt8)} (h : OwnS w base (.slice A n c) vs) (k : BVs w vs ls) (hn : vs.length = n) : Bss w A ls := by
  refine ⟨vs, ?_, fun i hi => ?_⟩
  · rw [← k.1]
    have := Shows.ofOwn (c := c) (by unfold OwnS at h; rw [hn] at h; exact h : w.ownsRow base 22 1 (.slice A n c) n vs)
    rw [hn]; exact this
  · obtain ⟨v, e, A', c', rfl, _, _, h3⟩ := k.2 i hi
    exact ⟨A', c', e, h3⟩

set_option maxRecDepth 100000 in
theorem run_appendS (w : World) (base : Nat) (v : Value) (vs : List Value) (hown : OwnS w base v vs) (g : Nat) (u : Value) (hu : u.oneCell' = true) (hg : Blk w g 22 [u]) (h10 : vs.length < 1000) (hbase : base ≤ w.heap.size) (ty : TypeId) :
    ∃ v' w', (Builtin.append_ #[68, 68] ty #[v, .slice (some ⟨g, 0, none⟩) 1 1]).run Try.prog w = .ok v' w' ∧ OwnS w' base v' (vs ++ [u]) ∧ w.grownBy w' v.ownBlock := by
  obtain ⟨i0, hi, hz0, hz1, hz2⟩ := info_parts sl_info
  have hcells : ∀ j z, ([u] : List Value)[j]? = some z → w.cell? ((⟨g, 0, none⟩ : Addr).add j) = some z := fun j z hz => by
    rw [add_mk, Nat.zero_add]; exact hg.cell hz
  obtain ⟨v', w', h1, h2, h3, _, h5⟩ := run_append_own_at (P := Try.prog) w base 68 ty 22 i0 _ 1 24 Try.underlying68 hi hz0 hz1 hz2 rfl (by decide) v vs.length vs hown ⟨g, 0, none⟩ 1 1 [u]
    (by simp) hcells (by simpa using hu) (by simp only [maxLen]; omega) (by omega) hbase
  exact ⟨v', w', h1, by unfold OwnS; rw [List.length_append]; exact h2, h3⟩

theorem wp_appendS {w : World} {ops : Array Oper} {rest : List Oper} {o : Oper} {a : Act} {Q : Exit → Act → World → Prop} (hgd : o.guard = none) (s x : Operand)
    (ho : o.op = .call { callee := .builtin .append, args := #[s, x], argTypes := #[68, 68] })
    (base : Nat) (v : Value) (vs : List Value) (hs : a.eval s = v) (hown : OwnS w base v vs) (g : Nat) (u : Value) (hx : a.eval x = .slice (some ⟨g, 0, none⟩) 1 1) (hu : u.oneCell' = true) (hg : Blk w g 22 [u])
    (h10 : vs.length < 1000) (hbase : base ≤ w.heap.size)
    (h : ∀ v' w', OwnS w' base v' (vs ++ [u]) → w.grownBy w' v.ownBlock → wpList Try.prog ops Q rest (a.put o.dst v') w') :
    wpList Try.prog ops Q (o :: rest) a w := by
  obtain ⟨v', w', hrun, h2, h3⟩ := run_appendS w base v vs hown g u hu hg h10 hbase o.type
  refine wpList_plain hgd fun K hK => ?_
  unfold Oper.wp execOp
  simp only [ho, resolve, invoke, builtin, Sem.run_bind, Sem.run_pure, Result.andThen_ok, List.map_toArray, List.map_cons, List.map_nil, hs, hx, hrun]
  exact hK _ _ (h v' w' h2 h3)

/-- Texts whose bytes lie in blocks of bytes. -/
def BVu (w : World) (vs : List Value) (ls : List (List UInt8)) : Prop := vs.length = ls.length ∧ ∀ i (hi : i < ls.length), ∃ A c, vs[i]? = some (.slice A ls[i].length c) ∧ ls[i].length ≤ c ∧ c ≤ maxLen ∧ Bn 0 w A ls[i]

theorem BVu.bvs {w : World} {vs : List Value} {ls : List (List UInt8)} (h : BVu w vs ls) : BVs w vs ls := ⟨h.1, fun i hi => let ⟨A, c, e, h1, h2, h3⟩ := h.2 i hi; ⟨_, e, A, c, rfl, h1, h2, h3.1⟩⟩

theorem BVu.out {S : Nat → Prop} {w w' : World} {vs : List Value} {ls : List (List UInt8)} (h : BVu w vs ls) (ho : Out S w w') (hS : ∀ i, i < w.heap.size → S i → Nu 0 w i) : BVu w' vs ls :=
  ⟨h.1, fun i hi => let ⟨A, c, e, h1, h2, h3⟩ := h.2 i hi; ⟨A, c, e, h1, h2, h3.out ho hS⟩⟩

theorem BVu.on {w w' : World} {vs : List Value} {ls : List (List UInt8)} (h : BVu w vs ls) (hb : Below w.heap.size w w') : BVu w' vs ls := h.out (Out.ofBelow (fun _ => False) hb) (fun _ _ e => e.elim)

theorem BVu.snoc {w : World} {vs : List Value} {ls : List (List UInt8)} {A : Option Addr} {c : Nat} {l : List UInt8} (h : BVu w vs ls) (h1 : l.length ≤ c) (h2 : c ≤ maxLen) (h3 : Bn 0 w A l) : BVu w (vs ++ [.slice A l.length c]) (ls ++ [l]) := by
  refine ⟨by simp [h.1], fun i hi => ?_⟩
  by_cases hlt : i < ls.length
  · obtain ⟨A', c', e, k1, k2, k3⟩ := h.2 i hlt
    rw [List.getElem_append_left hlt]
    exact ⟨A', c', by rw [List.getElem?_append_left (by rw [h.1]; exact hlt)]; exact e, k1, k2, k3⟩
  · have hi' : i = ls.length := by simp at hi; omega
    subst hi'
    rw [List.getElem_append_right (by omega)]
    simp only [Nat.sub_self, List.getElem_cons_zero]
    exact ⟨A, c, by rw [List.getElem?_append_right (by rw [h.1]; omega)]; simp [h.1], h1, h2, h3⟩

/-- A batch's parts, of which so many wishes stand. -/
def prt (l : List Wl) (k : Nat) : List (List UInt8) := ib (l.length : Int) :: (l.take k).map fun x => sb (wb x)

theorem prt_step {l : List Wl} {k : Nat} (h : k < l.length) : prt l (k + 1) = prt l k ++ [sb (wb l[k])] := by
  unfold prt
  rw [List.take_succ_eq_append_getElem h, List.map_append]; simp

theorem prt_len {l : List Wl} {k : Nat} (h : k ≤ l.length) : (prt l k).length = k + 1 := by unfold prt; rw [List.length_cons, List.length_map, List.length_take]; omega

theorem prt_end (l : List Wl) : (prt l l.length).flatten = btB l := by unfold prt btB sbs; rw [List.take_length]; simp

theorem ibs_one (x : Int) : ibs [x] = ib x := by simp [ibs]

theorem oneS (A : Option Addr) (n c : Nat) : (Value.slice A n c).oneCell' = true := rfl

set_option maxRecDepth 100000 in
set_option maxHeartbeats 3200000 in
theorem batch_any (A : Option Addr) (n c : Nat) (l : List Wl) (w : World) (h : ArgL w A n c l) : Calls Try.prog 25 #[.slice A n c] w (RetBE w (batchW l)) := by
  have hn := h.1
  by_cases h4 : 4 < n
  · have hr : Hid (batchW l = ([], 5)) := by show _ = _; unfold batchW; rw [if_pos (by omega)]
    have h4' : (4 : Int) < n := by omega
    clear hn h
    generalize batchW l = r at *
    go_enter Try.func25, Try.ntmps25
    go_wp2
    go_ret2
    rw [hr.out]
    exact ⟨_, rfl, NewB.nil _⟩
  · have h4' : ¬ (4 : Int) < n := by omega
    have hr : Hid (batchW l = if ∀ x ∈ l, May x then (btB l, 0) else ([], 2)) := by show _ = _; unfold batchW; rw [if_neg (by omega)]
    have H := Lib.hid (And.intro h hn)
    clear h hn
    generalize batchW l = r at *
    go_enter Try.func25, Try.ntmps25
    go_wp2_with fail
    refine (numbers_any _ 1 1 [(n : Int)] _ ⟨rfl, Nat.le_refl _, by simp [maxLen], is_new w [(n : Int)], fun y hy => by rw [List.mem_singleton] at hy; rw [hy]; exact wf_nat (by omega)⟩ (by omega)).mono ?_
    rintro e w1 ⟨v1, rfl, hN⟩
    obtain ⟨A1, c1, rfl, hl1, hc1, _⟩ := hN.form
    have hal : Below w.heap.size w (w.alloc (.cells #[.int .i64 (n : Int)] 3)) := (Below.refl _ _).alloc (Nat.le_refl _) _
    have hb1 : Below w.heap.size w w1 := hal.trans (hN.2.mono hal.size)
    have hM1 := Mine.bn (B0 := 0) hN.1
    have hal2 : Below w1.heap.size w1 (w1.alloc (.cells #[.slice A1 (ibs [(n : Int)]).length c1] 22)) := (Below.refl _ _).alloc (Nat.le_refl _) _
    have hO2 : OwnS (w1.alloc (.cells #[.slice A1 (ibs [(n : Int)]).length c1] 22)) w.heap.size (.slice (some ⟨w1.heap.size, 0, none⟩) 1 1) [.slice A1 (ibs [(n : Int)]).length c1] := blk_own (cs := [.slice A1 (ibs [(n : Int)]).length c1]) hb1.size (Blk.new rfl rfl) (Nat.le_refl _) (by simp [maxLen]) rfl rfl
    have hV2 : BVu (w1.alloc (.cells #[.slice A1 (ibs [(n : Int)]).length c1] 22)) [.slice A1 (ibs [(n : Int)]).length c1] (prt l 0) := by
      refine ⟨rfl, fun i hi => ?_⟩
      have hi0 : i = 0 := by simp [prt] at hi; omega
      subst hi0
      have e : (prt l 0)[0] = ibs [(n : Int)] := by simp only [prt, List.getElem_cons_zero, H.out.2, ibs_one]
      rw [e]
      exact ⟨A1, c1, rfl, hl1, hc1, hM1.2.2.2.bel hal2⟩
    have H2 := Lib.hid (And.intro hO2 (And.intro hV2 (hb1.trans (hal2.mono hb1.size))))
    clear hN hl1 hc1 hal hb1 hM1 hal2 hO2 hV2
    go_wp2
    go_loopw [4, 19] (fun v i wr => ∃ (k : Nat) (vs : List Value), k ≤ n ∧ i = .int .i64 k ∧ Hid (OwnS wr w.heap.size v vs ∧ BVu wr vs (prt l k) ∧ (∀ j (hj : j < l.length), j < k → May l[j]) ∧ Below w.heap.size w wr)) (fun _ i _ => n - (intOf i).toNat)
    case atStart => exact ⟨0, _, Nat.zero_le _, rfl, H2.out.1, H2.out.2.1, fun j _ hj => by omega, H2.out.2.2⟩
    case round =>
      obtain ⟨k, vs, hk, rfl, hI⟩ := hrel
      by_cases hlt : k < n
      · have hlt' : (k : Int) < n := by omega
        have hkl : k < l.length := by rw [H.out.2]; exact hlt
        obtain ⟨b, off, D, nd, cd, N, nn, cn, hA, hb, hrg, hAW⟩ := (H.out.1.after hI.out.2.2.2).at_ hkl
        have Hst := Lib.hid (And.intro (prt_step hkl) (prt_len (l := l) (k := k) (by omega)))
        have hmay : May l[k] → ∀ j (hj : j < l.length), j < k + 1 → May l[j] := fun hm j hj hjk => by
          by_cases e : j = k
          · subst e; exact hm
          · exact hI.out.2.2.1 j hj (by omega)
        have hnot : ¬ May l[k] → ¬ ∀ x ∈ l, May x := fun hm hall => hm (hall _ (List.getElem_mem hkl))
        have Hm := Lib.hid (And.intro hmay hnot)
        clear hmay hnot
        generalize l[k] = x at *
        obtain ⟨⟨k0, k1, k2, k3, k4⟩, k5, k6, k7, k8, k9⟩ := range_ks hrg
        simp only at k0 k1 k2 k3 k4 k5 k6 k7 k8 k9
        have hbx : Below wr.heap.size wr (wr.alloc (.cells #[.int .i64 x.cl, .int .i64 x.sp, .int .i64 x.gr, .int .i64 x.ep, .int .i64 x.kd, .int .i64 x.bl, .slice D nd cd, .int .i64 x.od, .int .i64 x.nw, .slice N nn cn] 25)) := (Below.refl _ _).alloc (Nat.le_refl _) _
        have Hx := Lib.hid (And.intro (hAW.after hbx) hbx)
        subst hA
        clear hrg hAW hbx hkl
        go_wp2_with fail
        by_cases hm : May x
        · have hw : wbytes x = (wb x, 0) := by unfold wbytes; rw [if_pos hm]
          have hc := bytes_wish x D nd cd N nn cn _ Hx.out.1
          rw [hw] at hc
          have hlen := (wb_len hm).2
          have hall := Lib.hid (Hm.out.1 hm)
          have Hlen := Lib.hid hlen
          clear hw hm hlen
          refine hc.mono ?_
          clear hc
          rintro e w3 ⟨v3, rfl, hN3⟩
          obtain ⟨A3, c3, rfl, hl3, hc3, hB3⟩ := hN3.form
          have hb3 : Below wr.heap.size wr w3 := Hx.out.2.trans (hN3.2.mono Hx.out.2.size)
          have H3 := Lib.hid (And.intro hb3 (And.intro hl3 (And.intro hc3 hB3)))
          clear hN3 hb3 hl3 hc3 hB3
          simp only
          obtain ⟨q, hq⟩ : ∃ q, (wb x).length = q := ⟨_, rfl⟩
          rw [hq]
          have Hq := Lib.hid hq
          clear hq
          go_wp2_with fail
          refine (text_any A3 q c3 (wb x) w3 H3.out.2.2.2 Hq.out (by have := Hlen.out; have := Hq.out; unfold maxLen; omega)).mono ?_
          rintro e w4 ⟨v4, rfl, hN4⟩
          obtain ⟨A4, c4, rfl, hl4, hc4, _⟩ := hN4.form
          have hM4 := (Mine.bn (B0 := 0) hN4.1).2.2.2
          have hb4 : Below wr.heap.size wr w4 := H3.out.1.trans (hN4.2.mono H3.out.1.size)
          have hal : Below w4.heap.size w4 (w4.alloc (.cells #[.slice A4 (sb (wb x)).length c4] 22)) := (Below.refl _ _).alloc (Nat.le_refl _) _
          have hb5 : Below wr.heap.size wr (w4.alloc (.cells #[.slice A4 (sb (wb x)).length c4] 22)) := hb4.trans (hal.mono hb4.size)
          have hO5 : OwnS (w4.alloc (.cells #[.slice A4 (sb (wb x)).length c4] 22)) w.heap.size u4 vs := own_below hI.out.1 hb5
          have hV5 := (hI.out.2.1.on hb5).snoc hl4 hc4 (hM4.bel hal)
          rw [← Hst.out.1] at hV5
          have hvl : vs.length < 1000 := by rw [hI.out.2.1.1, Hst.out.2]; omega
          have H5 := Lib.hid (And.intro hO5 (And.intro hV5 (hI.out.2.2.2.trans (hb5.mono hI.out.2.2.2.size))))
          clear hN4 hl4 hc4 hM4 hb4 hal hb5 hO5 hV5
          simp only
          go_wp2_with (at_builtin; refine wp_appendS rfl _ _ rfl w.heap.size _ vs rfl H5.out.1 _ _ rfl (oneS _ _ _) (Blk.new rfl rfl) hvl H5.out.2.2.size ?_; intro v6 w6 hO6 hg6)
          go_roundw
          case rel =>
            have hgo := grown_out hg6
            refine ⟨k + 1, _, by omega, by go_num, hO6, H5.out.2.1.out hgo (fun i _ e => Nu.own H5.out.1 (Nat.zero_le _) (by decide) i e), hall.out, H5.out.2.2.grown hg6 H5.out.2.2.size (fun i hi => (World.ownsRow.lt H5.out.1 i hi).1)⟩
          case measure => simp [intOf]; omega
        · have hw : wbytes x = ([], 2) := by unfold wbytes; rw [if_neg hm]
          have hc := bytes_wish x D nd cd N nn cn _ Hx.out.1
          rw [hw] at hc
          have Hr : Hid (r = ([], 2)) := by show _ = _; rw [hr.out, if_neg (Hm.out.2 hm)]
          clear hw hm
          refine hc.mono ?_
          clear hc
          rintro e w3 ⟨v3, rfl, hN3⟩
          obtain ⟨A3, c3, rfl, hl3, hc3, _⟩ := hN3.form
          have hb3 := hI.out.2.2.2.trans ((Hx.out.2.trans (hN3.2.mono Hx.out.2.size)).mono hI.out.2.2.2.size)
          have H3 := Lib.hid hb3
          clear hN3 hb3 hl3 hc3
          go_wp2
          go_ret2
          rw [Hr.out]
          exact ⟨_, rfl, World.ownsRow_nil _ _ _ _, H3.out⟩
      · have hlt' : ¬ (k : Int) < n := by omega
        have hkn : k = l.length := by have := H.out.2; omega
        have Hr : Hid (r = (btB l, 0)) := by
          show _ = _
          rw [hr.out, if_pos]
          intro x hx
          obtain ⟨j, hj, rfl⟩ := List.mem_iff_getElem.1 hx
          exact hI.out.2.2.1 j hj (by omega)
        have hmay : ∀ x ∈ l, May x := by
          intro x hx
          obtain ⟨j, hj, rfl⟩ := List.mem_iff_getElem.1 hx
          exact hI.out.2.2.1 j hj (by omega)
        have hbl := (btB_len (by omega) hmay).2
        have hln := H.out.2
        have hvl : vs.length = l.length + 1 := by rw [hI.out.2.1.1, hkn, prt_len (Nat.le_refl _)]
        obtain ⟨A6, c6, hu4⟩ := row_form hI.out.1
        rw [hvl] at hu4
        obtain ⟨nv, hnv⟩ : ∃ nv, l.length + 1 = nv := ⟨_, rfl⟩
        rw [hnv] at hu4 hvl
        subst hu4
        have hV := hI.out.2.1
        rw [hkn] at hV
        have hBs := own_bss hI.out.1 hV.bvs hvl
        have hj := join_any A6 c6 nv (prt l l.length) wr hBs (by rw [prt_len (Nat.le_refl _)]; exact hnv) (by omega) (by rw [prt_end]; omega)
        rw [prt_end] at hj
        have Hj := Lib.hid hj
        have Hb := Lib.hid hI.out.2.2.2
        clear hI hkn hmay hbl hvl hV hBs hj hnv hln
        go_wp2_with fail
        refine Hj.out.mono ?_
        rintro e w7 ⟨v7, rfl, hN7⟩
        go_wp2
        go_ret2
        rw [Hr.out]
        exact ⟨_, rfl, NewB.later Hb.out hN7⟩

end Go.Proofs.Ytihmddpafbackaa

namespace Go.Proofs.Ytihmddpafbackaa

open Go.RowKit

set_option linter.unusedVariables false

def strOf (l : List UInt8) : ByteArray := ⟨l.toArray⟩

theorem strOf_eq (l m : List UInt8) : ((strOf l).toList == (strOf m).toList) = (l == m) := by
  rw [ByteArray.toList_eq, ByteArray.toList_eq]
  rfl

theorem back_bytes : ∀ l : List UInt8, (l.map fun b => (b.toNat : Int)).map (fun n => UInt8.ofNat n.toNat) = l
  | [] => rfl
  | x :: l => by rw [List.map_cons, List.map_cons, back_bytes l]; simp

theorem strOf_nums (l : List UInt8) : strOfNums (l.map fun b => (b.toNat : Int)) = strOf l := by
  unfold strOfNums strOf
  rw [back_bytes]

theorem conv_bytes (A : Option Addr) (c n : Nat) (l : List UInt8) (w : World) (h : Bs w A l) (hn : l.length = n) :
    (convert 22 9 (.slice A n c)).run Try.prog w = .ok (.string (strOf l)) w := by
  subst hn
  cases l with
  | nil =>
    rw [run_convert_bytes_string w 22 9 5 _ _ c Try.underlying22 Try.underlying5 Try.underlying9]
    cases A <;> simp [Conv.bytesToString, loadCells]
    all_goals rfl
  | cons x t =>
    obtain ⟨b, o, rfl, _, hc⟩ := h.at_ (i := 0) (by simp)
    have := run_convert_bytes_arg (P := Try.prog) w 22 5 Try.underlying22 Try.underlying5 b o (x :: t).length c ((x :: t).map fun b => (b.toNat : Int)) (by simp)
      (fun i hi => by rw [hc i hi]; congr 2; rw [List.getD_eq_getElem?_getD, List.getElem?_map, List.getElem?_eq_getElem hi]; rfl) 9 Try.underlying9
    rw [this, strOf_nums]

set_option maxHeartbeats 400000 in
theorem bequal_any (A A' : Option Addr) (c c' n m : Nat) (xs ys : List UInt8) (w : World) (hA : Bs w A xs) (hB : Bs w A' ys) (hn : xs.length = n) (hm : ys.length = m) :
    Calls Try.prog 56 #[.slice A n c, .slice A' m c'] w fun e w' => e = .returned (.bool (xs == ys)) ∧ w' = w := by
  have h1 := conv_bytes A c n xs w hA hn
  have h2 := conv_bytes A' c' m ys w hB hm
  have H := Lib.hid (strOf_eq xs ys)
  clear hA hB hn hm
  generalize strOf xs = s at *
  generalize strOf ys = t at *
  go_enter Try.func56, Try.ntmps56
  go_wp2
  go_ret
  exact ⟨congrArg (fun b => Ending.returned (.bool b)) H.out, rfl⟩

end Go.Proofs.Ytihmddpafbackaa

namespace Go.Proofs.Ytihmddpafbackaa

open Go.RowKit

set_option linter.unusedVariables false

set_option maxRecDepth 100000 in
set_option maxHeartbeats 800000 in
theorem sequal_any (A A' : Option Addr) (n n' c c' : Nat) (l l' : List Int) (w : World) (h : ArgI w A n c l) (h' : ArgI w A' n' c' l') : Calls Try.prog 57 #[.slice A n c, .slice A' n' c'] w fun e w' => e = .returned (.bool (decide (l = l'))) ∧ Below w.heap.size w w' := by
  by_cases hnn : n = n'
  · subst hnn
    have hcm := h.2.2.1
    unfold maxLen at hcm
    have hnc := h.2.1
    have hcm' := h'.2.2.1
    unfold maxLen at hcm'
    have hnc' := h'.2.1
    have hl1 := h.1
    have hl2 := h'.1
    have hn63 : n ≤ 9223372036854775807 := by omega
    have H := Lib.hid (And.intro h h')
    clear h h'
    obtain ⟨r, hr⟩ : ∃ r, decide (l = l') = r := ⟨_, rfl⟩
    rw [hr]
    have Hr := Lib.hid hr
    clear hr
    go_enter Try.func57, Try.ntmps57
    go_wp2
    go_loopw [5, 13] (fun _ v wr => ∃ j : Nat, j ≤ n ∧ v = .int .i64 j ∧ l.take j = l'.take j ∧ Below w.heap.size w wr) (fun _ v _ => n - (intOf v).toNat)
    case atStart => exact ⟨0, Nat.zero_le _, rfl, rfl, Below.refl _ _⟩
    case round =>
      obtain ⟨j, hj, rfl, heq, hb⟩ := hrel
      have hi0 : (0 : Int) ≤ j := by omega
      by_cases hlt : j < n
      · have hi1 : (j : Int) < n := by omega
        have hjl : j < l.length := by omega
        have hjl' : j < l'.length := by omega
        obtain ⟨b1, o1, rfl, l1, q1⟩ := H.out.1.2.2.2.1.at_ hjl
        obtain ⟨b2, o2, rfl, l2, q2⟩ := H.out.2.2.2.2.1.at_ hjl'
        have c1 : wr.cell? ⟨b1, o1 + j, none⟩ = some (.int .i64 l[j]) := (hb.cell (p := ⟨b1, o1 + j, none⟩) l1).trans (q1 j hjl)
        have c2 : wr.cell? ⟨b2, o2 + j, none⟩ = some (.int .i64 l'[j]) := (hb.cell (p := ⟨b2, o2 + j, none⟩) l2).trans (q2 j hjl')
        have c1d : wr.drew.cell? ⟨b1, o1 + j, none⟩ = some (.int .i64 l[j]) := c1
        have c2d : wr.drew.cell? ⟨b2, o2 + j, none⟩ = some (.int .i64 l'[j]) := c2
        have hs1 := List.take_succ_eq_append_getElem hjl
        have hs2 := List.take_succ_eq_append_getElem hjl'
        have hno : l[j] ≠ l'[j] → r = false := fun hne => by
          rw [← Hr.out, decide_eq_false_iff_not]
          rintro rfl; exact hne rfl
        have Hs := Lib.hid (And.intro hs1 (And.intro hs2 (And.intro hno heq)))
        clear hs1 hs2 hno heq q1 q2
        generalize l[j] = x at *
        generalize l'[j] = y at *
        clear hjl hjl'
        have Hb := Lib.hid hb
        clear hb
        by_cases hxy : x = y
        · subst hxy
          have hne : (x != x) = false := by simp
          go_wp2
          go_quiet (fail)
          go_wp2
          go_roundw
          case rel => exact ⟨j + 1, by omega, by go_num, by rw [Hs.out.1, Hs.out.2.1, Hs.out.2.2.2], below_drewN Hb.out _⟩
          case measure => simp [intOf]; omega
        · have hne : (x != y) = true := by simp [hxy]
          have hrf := Hs.out.2.2.1 hxy
          subst hrf
          have Hxy := Lib.hid hxy
          clear hxy
          go_wp2
          go_quiet (fail)
          go_wp2
          go_ret
          exact ⟨rfl, below_drewN Hb.out _⟩
      · have hi1 : ¬ (j : Int) < n := by omega
        have hjn : j = n := by omega
        rw [List.take_of_length_le (by omega), List.take_of_length_le (by omega)] at heq
        have hrt : r = true := by rw [← Hr.out, heq]; simp
        subst hrt
        have Hb := Lib.hid hb
        clear hb heq
        go_wp2
        go_ret
        exact ⟨rfl, Hb.out⟩
  · have hl1 := h.1
    have hl2 := h'.1
    have hne : ((n : Int) != (n' : Int)) = true := by simp; omega
    have e : decide (l = l') = false := by
      rw [decide_eq_false_iff_not]
      rintro rfl; omega
    rw [e]
    clear e
    have H := Lib.hid (And.intro h h')
    clear h h'
    go_enter Try.func57, Try.ntmps57
    go_wp2
    go_ret
    exact ⟨rfl, Below.refl _ _⟩

end Go.Proofs.Ytihmddpafbackaa

namespace Go.Proofs.Ytihmddpafbackaa

open Go.RowKit

set_option linter.unusedVariables false

set_option linter.unusedSimpArgs false

def EqW (x y : Wl) : Prop := x.cl = y.cl ∧ x.sp = y.sp ∧ x.gr = y.gr ∧ x.ep = y.ep ∧ x.kd = y.kd ∧ x.bl = y.bl ∧ x.da = y.da ∧ x.od = y.od ∧ x.nw = y.nw ∧ x.nx = y.nx

instance decEqW (x y : Wl) : Decidable (EqW x y) := by unfold EqW; exact inferInstance

def sameB (x y : Wl) : Bool := decide (EqW x y)

theorem sameB_iff (x y : Wl) : sameB x y = true ↔ EqW x y := by unfold sameB; rw [decide_eq_true_eq]

theorem eqW_iff (x y : Wl) : EqW x y ↔ x = y := by
  constructor
  · rintro ⟨h1, h2, h3, h4, h5, h6, h7, h8, h9, h10⟩
    cases x; cases y
    simp only at h1 h2 h3 h4 h5 h6 h7 h8 h9 h10
    subst h1 h2 h3 h4 h5 h6 h7 h8 h9 h10
    rfl
  · rintro rfl
    exact ⟨rfl, rfl, rfl, rfl, rfl, rfl, rfl, rfl, rfl, rfl⟩

theorem sameB_self (x : Wl) : sameB x x = true := (sameB_iff x x).2 ((eqW_iff x x).2 rfl)

set_option maxRecDepth 100000 in
set_option maxHeartbeats 3200000 in
theorem same_any (x : Wl) (Dx : Option Addr) (ndx cdx : Nat) (Nx : Option Addr) (nnx cnx : Nat) (y : Wl) (Dy : Option Addr) (ndy cdy : Nat) (Ny : Option Addr) (nny cny : Nat) (w : World) (hx : ArgW w x Dx ndx cdx Nx nnx cnx) (hy : ArgW w y Dy ndy cdy Ny nny cny) : Calls Try.prog 30 #[.agg #[.int .i64 x.cl, .int .i64 x.sp, .int .i64 x.gr, .int .i64 x.ep, .int .i64 x.kd, .int .i64 x.bl, .slice Dx ndx cdx, .int .i64 x.od, .int .i64 x.nw, .slice Nx nnx cnx], .agg #[.int .i64 y.cl, .int .i64 y.sp, .int .i64 y.gr, .int .i64 y.ep, .int .i64 y.kd, .int .i64 y.bl, .slice Dy ndy cdy, .int .i64 y.od, .int .i64 y.nw, .slice Ny nny cny]] w fun e w' => e = .returned (.bool (sameB x y)) ∧ Below w.heap.size w w' := by
  obtain ⟨r, hr⟩ : ∃ r, sameB x y = r := ⟨_, rfl⟩
  rw [hr]
  have Hr : Hid (r = true ↔ EqW x y) := by show _ ↔ _; rw [← hr]; exact sameB_iff x y
  clear hr
  have hb0 : Below w.heap.size w ((w.alloc (.cells #[.int .i64 x.cl, .int .i64 x.sp, .int .i64 x.gr, .int .i64 x.ep, .int .i64 x.kd, .int .i64 x.bl, .slice Dx ndx cdx, .int .i64 x.od, .int .i64 x.nw, .slice Nx nnx cnx] 25)).alloc (.cells #[.int .i64 y.cl, .int .i64 y.sp, .int .i64 y.gr, .int .i64 y.ep, .int .i64 y.kd, .int .i64 y.bl, .slice Dy ndy cdy, .int .i64 y.od, .int .i64 y.nw, .slice Ny nny cny] 25)) := ((Below.refl _ _).alloc (Nat.le_refl _) _).alloc (by simp) _
  have hB1 : Blk ((w.alloc (.cells #[.int .i64 x.cl, .int .i64 x.sp, .int .i64 x.gr, .int .i64 x.ep, .int .i64 x.kd, .int .i64 x.bl, .slice Dx ndx cdx, .int .i64 x.od, .int .i64 x.nw, .slice Nx nnx cnx] 25)).alloc (.cells #[.int .i64 y.cl, .int .i64 y.sp, .int .i64 y.gr, .int .i64 y.ep, .int .i64 y.kd, .int .i64 y.bl, .slice Dy ndy cdy, .int .i64 y.od, .int .i64 y.nw, .slice Ny nny cny] 25)) w.heap.size 25 [.int .i64 x.cl, .int .i64 x.sp, .int .i64 x.gr, .int .i64 x.ep, .int .i64 x.kd, .int .i64 x.bl, .slice Dx ndx cdx, .int .i64 x.od, .int .i64 x.nw, .slice Nx nnx cnx] := (Blk.new (l := [.int .i64 x.cl, .int .i64 x.sp, .int .i64 x.gr, .int .i64 x.ep, .int .i64 x.kd, .int .i64 x.bl, .slice Dx ndx cdx, .int .i64 x.od, .int .i64 x.nw, .slice Nx nnx cnx]) rfl rfl).old _
  have hB2 : Blk ((w.alloc (.cells #[.int .i64 x.cl, .int .i64 x.sp, .int .i64 x.gr, .int .i64 x.ep, .int .i64 x.kd, .int .i64 x.bl, .slice Dx ndx cdx, .int .i64 x.od, .int .i64 x.nw, .slice Nx nnx cnx] 25)).alloc (.cells #[.int .i64 y.cl, .int .i64 y.sp, .int .i64 y.gr, .int .i64 y.ep, .int .i64 y.kd, .int .i64 y.bl, .slice Dy ndy cdy, .int .i64 y.od, .int .i64 y.nw, .slice Ny nny cny] 25)) (w.heap.size + 1) 25 [.int .i64 y.cl, .int .i64 y.sp, .int .i64 y.gr, .int .i64 y.ep, .int .i64 y.kd, .int .i64 y.bl, .slice Dy ndy cdy, .int .i64 y.od, .int .i64 y.nw, .slice Ny nny cny] := Blk.new rfl (by simp)
  have H := Lib.hid (And.intro (hx.after hb0) (And.intro (hy.after hb0) (And.intro hb0 (And.intro hB1 hB2))))
  clear hb0 hB1 hB2 hx hy
  by_cases h_kd : x.kd = y.kd
  rotate_left
  · have e_kd : (x.kd == y.kd) = false := by simpa using h_kd
    have hrr : Hid (r = false) := by show _ = _; rw [Bool.eq_false_iff]; intro h; exact h_kd (Hr.out.1 h).2.2.2.2.1
    clear h_kd
    go_enter Try.func30, Try.ntmps30
    go_wp2
    go_ret
    exact ⟨ret_bool hrr.out.symm, H.out.2.2.1⟩
  have e_kd : (x.kd == y.kd) = true := by simpa using h_kd
  have Gkd := Lib.hid h_kd
  clear h_kd
  by_cases h_cl : x.cl = y.cl
  rotate_left
  · have e_cl : (x.cl == y.cl) = false := by simpa using h_cl
    have hrr : Hid (r = false) := by show _ = _; rw [Bool.eq_false_iff]; intro h; exact h_cl (Hr.out.1 h).1
    clear h_cl
    go_enter Try.func30, Try.ntmps30
    go_wp2
    go_ret
    exact ⟨ret_bool hrr.out.symm, H.out.2.2.1⟩
  have e_cl : (x.cl == y.cl) = true := by simpa using h_cl
  have Gcl := Lib.hid h_cl
  clear h_cl
  by_cases h_sp : x.sp = y.sp
  rotate_left
  · have e_sp : (x.sp == y.sp) = false := by simpa using h_sp
    have hrr : Hid (r = false) := by show _ = _; rw [Bool.eq_false_iff]; intro h; exact h_sp (Hr.out.1 h).2.1
    clear h_sp
    go_enter Try.func30, Try.ntmps30
    go_wp2
    go_ret
    exact ⟨ret_bool hrr.out.symm, H.out.2.2.1⟩
  have e_sp : (x.sp == y.sp) = true := by simpa using h_sp
  have Gsp := Lib.hid h_sp
  clear h_sp
  by_cases h_gr : x.gr = y.gr
  rotate_left
  · have e_gr : (x.gr == y.gr) = false := by simpa using h_gr
    have hrr : Hid (r = false) := by show _ = _; rw [Bool.eq_false_iff]; intro h; exact h_gr (Hr.out.1 h).2.2.1
    clear h_gr
    go_enter Try.func30, Try.ntmps30
    go_wp2
    go_ret
    exact ⟨ret_bool hrr.out.symm, H.out.2.2.1⟩
  have e_gr : (x.gr == y.gr) = true := by simpa using h_gr
  have Ggr := Lib.hid h_gr
  clear h_gr
  by_cases h_ep : x.ep = y.ep
  rotate_left
  · have e_ep : (x.ep == y.ep) = false := by simpa using h_ep
    have hrr : Hid (r = false) := by show _ = _; rw [Bool.eq_false_iff]; intro h; exact h_ep (Hr.out.1 h).2.2.2.1
    clear h_ep
    go_enter Try.func30, Try.ntmps30
    go_wp2
    go_ret
    exact ⟨ret_bool hrr.out.symm, H.out.2.2.1⟩
  have e_ep : (x.ep == y.ep) = true := by simpa using h_ep
  have Gep := Lib.hid h_ep
  clear h_ep
  by_cases h_bl : x.bl = y.bl
  rotate_left
  · have e_bl : (x.bl == y.bl) = false := by simpa using h_bl
    have hrr : Hid (r = false) := by show _ = _; rw [Bool.eq_false_iff]; intro h; exact h_bl (Hr.out.1 h).2.2.2.2.2.1
    clear h_bl
    go_enter Try.func30, Try.ntmps30
    go_wp2
    go_ret
    exact ⟨ret_bool hrr.out.symm, H.out.2.2.1⟩
  have e_bl : (x.bl == y.bl) = true := by simpa using h_bl
  have Gbl := Lib.hid h_bl
  clear h_bl
  by_cases hd : x.da = y.da
  rotate_left
  · have Hd : Hid ((x.da == y.da) = false) := by show _ = _; simpa using hd
    have hrr : Hid (r = false) := by show _ = _; rw [Bool.eq_false_iff]; intro h; exact hd (Hr.out.1 h).2.2.2.2.2.2.1
    clear hd
    go_enter Try.func30, Try.ntmps30
    go_wp2_with (first | (go_at_call 56; refine (bequal_any _ _ _ _ _ _ x.da y.da _ H.out.1.1.2.2.2.1 H.out.2.1.1.2.2.2.1 H.out.1.1.1 H.out.2.1.1.1).mono ?_; rintro e w1 ⟨rfl, rfl⟩; rw [Hd.out]))
    go_ret
    exact ⟨ret_bool hrr.out.symm, H.out.2.2.1⟩
  have Hd : Hid ((x.da == y.da) = true) := by show _ = _; rw [hd]; simp
  have Gda := Lib.hid hd
  clear hd
  by_cases h_od : x.od = y.od
  rotate_left
  · have e_od : (x.od == y.od) = false := by simpa using h_od
    have hrr : Hid (r = false) := by show _ = _; rw [Bool.eq_false_iff]; intro h; exact h_od (Hr.out.1 h).2.2.2.2.2.2.2.1
    clear h_od
    go_enter Try.func30, Try.ntmps30
    go_wp2_with (first | (go_at_call 56; refine (bequal_any _ _ _ _ _ _ x.da y.da _ H.out.1.1.2.2.2.1 H.out.2.1.1.2.2.2.1 H.out.1.1.1 H.out.2.1.1.1).mono ?_; rintro e w1 ⟨rfl, rfl⟩; rw [Hd.out]))
    go_ret
    exact ⟨ret_bool hrr.out.symm, H.out.2.2.1⟩
  have e_od : (x.od == y.od) = true := by simpa using h_od
  have God := Lib.hid h_od
  clear h_od
  by_cases h_nw : x.nw = y.nw
  rotate_left
  · have e_nw : (x.nw == y.nw) = false := by simpa using h_nw
    have hrr : Hid (r = false) := by show _ = _; rw [Bool.eq_false_iff]; intro h; exact h_nw (Hr.out.1 h).2.2.2.2.2.2.2.2.1
    clear h_nw
    go_enter Try.func30, Try.ntmps30
    go_wp2_with (first | (go_at_call 56; refine (bequal_any _ _ _ _ _ _ x.da y.da _ H.out.1.1.2.2.2.1 H.out.2.1.1.2.2.2.1 H.out.1.1.1 H.out.2.1.1.1).mono ?_; rintro e w1 ⟨rfl, rfl⟩; rw [Hd.out]))
    go_ret
    exact ⟨ret_bool hrr.out.symm, H.out.2.2.1⟩
  have e_nw : (x.nw == y.nw) = true := by simpa using h_nw
  have Gnw := Lib.hid h_nw
  clear h_nw
  by_cases hs : x.nx = y.nx
  rotate_left
  · have Hs : Hid (decide (x.nx = y.nx) = false) := by show _ = _; simpa using hs
    have hrr : Hid (r = false) := by show _ = _; rw [Bool.eq_false_iff]; intro h; exact hs (Hr.out.1 h).2.2.2.2.2.2.2.2.2
    clear hs
    go_enter Try.func30, Try.ntmps30
    go_wp2_with (first | (go_at_call 56; refine (bequal_any _ _ _ _ _ _ x.da y.da _ H.out.1.1.2.2.2.1 H.out.2.1.1.2.2.2.1 H.out.1.1.1 H.out.2.1.1.1).mono ?_; rintro e w1 ⟨rfl, rfl⟩; rw [Hd.out]) | (go_at_call 57; refine (sequal_any _ _ _ _ _ _ x.nx y.nx _ H.out.1.2.1.1 H.out.2.1.2.1.1).mono ?_; rintro e w2 ⟨rfl, hb2⟩; rw [Hs.out]; have hb2 := Lib.hid hb2))
    go_ret
    exact ⟨ret_bool hrr.out.symm, (H.out.2.2.1.trans (hb2.out.mono H.out.2.2.1.size))⟩
  have Hs : Hid (decide (x.nx = y.nx) = true) := by show _ = _; simpa using hs
  have Gnx := Lib.hid hs
  clear hs
  have hrr : Hid (r = true) := Hr.out.2 ⟨Gcl.out, Gsp.out, Ggr.out, Gep.out, Gkd.out, Gbl.out, Gda.out, God.out, Gnw.out, Gnx.out⟩
  go_enter Try.func30, Try.ntmps30
  go_wp2_with (first | (go_at_call 56; refine (bequal_any _ _ _ _ _ _ x.da y.da _ H.out.1.1.2.2.2.1 H.out.2.1.1.2.2.2.1 H.out.1.1.1 H.out.2.1.1.1).mono ?_; rintro e w1 ⟨rfl, rfl⟩; rw [Hd.out]) | (go_at_call 57; refine (sequal_any _ _ _ _ _ _ x.nx y.nx _ H.out.1.2.1.1 H.out.2.1.2.1.1).mono ?_; rintro e w2 ⟨rfl, hb2⟩; rw [Hs.out]; have hb2 := Lib.hid hb2))
  go_ret
  exact ⟨ret_bool hrr.out.symm, (H.out.2.2.1.trans (hb2.out.mono H.out.2.2.1.size))⟩

end Go.Proofs.Ytihmddpafbackaa

namespace Go.Proofs.Ytihmddpafbackaa

open Go.RowKit

set_option linter.unusedVariables false

set_option linter.unusedSimpArgs false

set_option maxRecDepth 100000 in
set_option maxHeartbeats 3200000 in
theorem rsame_any (x : Wl) (Dx : Option Addr) (ndx cdx : Nat) (Nx : Option Addr) (nnx cnx : Nat) (y : Wl) (Dy : Option Addr) (ndy cdy : Nat) (Ny : Option Addr) (nny cny : Nat) (w : World) (hx : ArgW w x Dx ndx cdx Nx nnx cnx) (hy : ArgW w y Dy ndy cdy Ny nny cny) : Calls Try.prog 19 #[.agg #[.int .i64 x.cl, .int .i64 x.sp, .int .i64 x.gr, .int .i64 x.ep, .int .i64 x.kd, .int .i64 x.bl, .slice Dx ndx cdx, .int .i64 x.od, .int .i64 x.nw, .slice Nx nnx cnx], .agg #[.int .i64 y.cl, .int .i64 y.sp, .int .i64 y.gr, .int .i64 y.ep, .int .i64 y.kd, .int .i64 y.bl, .slice Dy ndy cdy, .int .i64 y.od, .int .i64 y.nw, .slice Ny nny cny]] w fun e w' => e = .returned (.bool (sameB x y)) ∧ Below w.heap.size w w' := by
  obtain ⟨r, hr⟩ : ∃ r, sameB x y = r := ⟨_, rfl⟩
  rw [hr]
  have Hr : Hid (r = true ↔ EqW x y) := by show _ ↔ _; rw [← hr]; exact sameB_iff x y
  clear hr
  have hb0 : Below w.heap.size w ((w.alloc (.cells #[.int .i64 x.cl, .int .i64 x.sp, .int .i64 x.gr, .int .i64 x.ep, .int .i64 x.kd, .int .i64 x.bl, .slice Dx ndx cdx, .int .i64 x.od, .int .i64 x.nw, .slice Nx nnx cnx] 25)).alloc (.cells #[.int .i64 y.cl, .int .i64 y.sp, .int .i64 y.gr, .int .i64 y.ep, .int .i64 y.kd, .int .i64 y.bl, .slice Dy ndy cdy, .int .i64 y.od, .int .i64 y.nw, .slice Ny nny cny] 25)) := ((Below.refl _ _).alloc (Nat.le_refl _) _).alloc (by simp) _
  have hB1 : Blk ((w.alloc (.cells #[.int .i64 x.cl, .int .i64 x.sp, .int .i64 x.gr, .int .i64 x.ep, .int .i64 x.kd, .int .i64 x.bl, .slice Dx ndx cdx, .int .i64 x.od, .int .i64 x.nw, .slice Nx nnx cnx] 25)).alloc (.cells #[.int .i64 y.cl, .int .i64 y.sp, .int .i64 y.gr, .int .i64 y.ep, .int .i64 y.kd, .int .i64 y.bl, .slice Dy ndy cdy, .int .i64 y.od, .int .i64 y.nw, .slice Ny nny cny] 25)) w.heap.size 25 [.int .i64 x.cl, .int .i64 x.sp, .int .i64 x.gr, .int .i64 x.ep, .int .i64 x.kd, .int .i64 x.bl, .slice Dx ndx cdx, .int .i64 x.od, .int .i64 x.nw, .slice Nx nnx cnx] := (Blk.new (l := [.int .i64 x.cl, .int .i64 x.sp, .int .i64 x.gr, .int .i64 x.ep, .int .i64 x.kd, .int .i64 x.bl, .slice Dx ndx cdx, .int .i64 x.od, .int .i64 x.nw, .slice Nx nnx cnx]) rfl rfl).old _
  have hB2 : Blk ((w.alloc (.cells #[.int .i64 x.cl, .int .i64 x.sp, .int .i64 x.gr, .int .i64 x.ep, .int .i64 x.kd, .int .i64 x.bl, .slice Dx ndx cdx, .int .i64 x.od, .int .i64 x.nw, .slice Nx nnx cnx] 25)).alloc (.cells #[.int .i64 y.cl, .int .i64 y.sp, .int .i64 y.gr, .int .i64 y.ep, .int .i64 y.kd, .int .i64 y.bl, .slice Dy ndy cdy, .int .i64 y.od, .int .i64 y.nw, .slice Ny nny cny] 25)) (w.heap.size + 1) 25 [.int .i64 y.cl, .int .i64 y.sp, .int .i64 y.gr, .int .i64 y.ep, .int .i64 y.kd, .int .i64 y.bl, .slice Dy ndy cdy, .int .i64 y.od, .int .i64 y.nw, .slice Ny nny cny] := Blk.new rfl (by simp)
  have H := Lib.hid (And.intro (hx.after hb0) (And.intro (hy.after hb0) (And.intro hb0 (And.intro hB1 hB2))))
  clear hb0 hB1 hB2 hx hy
  by_cases h_cl : x.cl = y.cl
  rotate_left
  · have e_cl : (x.cl == y.cl) = false := by simpa using h_cl
    have hrr : Hid (r = false) := by show _ = _; rw [Bool.eq_false_iff]; intro h; exact h_cl (Hr.out.1 h).1
    clear h_cl
    go_enter Try.func19, Try.ntmps19
    go_wp2
    go_ret
    exact ⟨ret_bool hrr.out.symm, H.out.2.2.1⟩
  have e_cl : (x.cl == y.cl) = true := by simpa using h_cl
  have Gcl := Lib.hid h_cl
  clear h_cl
  by_cases h_sp : x.sp = y.sp
  rotate_left
  · have e_sp : (x.sp == y.sp) = false := by simpa using h_sp
    have hrr : Hid (r = false) := by show _ = _; rw [Bool.eq_false_iff]; intro h; exact h_sp (Hr.out.1 h).2.1
    clear h_sp
    go_enter Try.func19, Try.ntmps19
    go_wp2
    go_ret
    exact ⟨ret_bool hrr.out.symm, H.out.2.2.1⟩
  have e_sp : (x.sp == y.sp) = true := by simpa using h_sp
  have Gsp := Lib.hid h_sp
  clear h_sp
  by_cases h_gr : x.gr = y.gr
  rotate_left
  · have e_gr : (x.gr == y.gr) = false := by simpa using h_gr
    have hrr : Hid (r = false) := by show _ = _; rw [Bool.eq_false_iff]; intro h; exact h_gr (Hr.out.1 h).2.2.1
    clear h_gr
    go_enter Try.func19, Try.ntmps19
    go_wp2
    go_ret
    exact ⟨ret_bool hrr.out.symm, H.out.2.2.1⟩
  have e_gr : (x.gr == y.gr) = true := by simpa using h_gr
  have Ggr := Lib.hid h_gr
  clear h_gr
  by_cases h_ep : x.ep = y.ep
  rotate_left
  · have e_ep : (x.ep == y.ep) = false := by simpa using h_ep
    have hrr : Hid (r = false) := by show _ = _; rw [Bool.eq_false_iff]; intro h; exact h_ep (Hr.out.1 h).2.2.2.1
    clear h_ep
    go_enter Try.func19, Try.ntmps19
    go_wp2
    go_ret
    exact ⟨ret_bool hrr.out.symm, H.out.2.2.1⟩
  have e_ep : (x.ep == y.ep) = true := by simpa using h_ep
  have Gep := Lib.hid h_ep
  clear h_ep
  by_cases h_kd : x.kd = y.kd
  rotate_left
  · have e_kd : (x.kd == y.kd) = false := by simpa using h_kd
    have hrr : Hid (r = false) := by show _ = _; rw [Bool.eq_false_iff]; intro h; exact h_kd (Hr.out.1 h).2.2.2.2.1
    clear h_kd
    go_enter Try.func19, Try.ntmps19
    go_wp2
    go_ret
    exact ⟨ret_bool hrr.out.symm, H.out.2.2.1⟩
  have e_kd : (x.kd == y.kd) = true := by simpa using h_kd
  have Gkd := Lib.hid h_kd
  clear h_kd
  by_cases h_bl : x.bl = y.bl
  rotate_left
  · have e_bl : (x.bl == y.bl) = false := by simpa using h_bl
    have hrr : Hid (r = false) := by show _ = _; rw [Bool.eq_false_iff]; intro h; exact h_bl (Hr.out.1 h).2.2.2.2.2.1
    clear h_bl
    go_enter Try.func19, Try.ntmps19
    go_wp2
    go_ret
    exact ⟨ret_bool hrr.out.symm, H.out.2.2.1⟩
  have e_bl : (x.bl == y.bl) = true := by simpa using h_bl
  have Gbl := Lib.hid h_bl
  clear h_bl
  by_cases hd : x.da = y.da
  rotate_left
  · have Hd : Hid ((x.da == y.da) = false) := by show _ = _; simpa using hd
    have hrr : Hid (r = false) := by show _ = _; rw [Bool.eq_false_iff]; intro h; exact hd (Hr.out.1 h).2.2.2.2.2.2.1
    clear hd
    go_enter Try.func19, Try.ntmps19
    go_wp2_with (first | (go_at_call 18; refine (eqBytes _ _ _ _ _ _ x.da y.da _ H.out.1.1.2.2.2.1 H.out.2.1.1.2.2.2.1 H.out.1.1.1 H.out.2.1.1.1 (by have := H.out.1.1.2.2.2.2; unfold maxLen; omega) (by have := H.out.2.1.1.2.2.2.2; unfold maxLen; omega)).mono ?_; rintro e w1 ⟨rfl, hb1⟩; rw [Hd.out]; have hk1 := H.out.2.2.2.1.below hb1 H.out.2.2.2.1.lt; have hk2 := H.out.2.2.2.2.below hb1 H.out.2.2.2.2.lt; have k7 : w1.cell? ⟨w.heap.size, 7, none⟩ = some (.int .i64 x.od) := hk1.cell rfl; have j7 : w1.cell? ⟨w.heap.size + 1, 7, none⟩ = some (.int .i64 y.od) := hk2.cell rfl; have k8 : w1.cell? ⟨w.heap.size, 8, none⟩ = some (.int .i64 x.nw) := hk1.cell rfl; have j8 : w1.cell? ⟨w.heap.size + 1, 8, none⟩ = some (.int .i64 y.nw) := hk2.cell rfl; have k9 : w1.cell? ⟨w.heap.size, 9, none⟩ = some (.slice Nx nnx cnx) := hk1.cell rfl; have j9 : w1.cell? ⟨w.heap.size + 1, 9, none⟩ = some (.slice Ny nny cny) := hk2.cell rfl; have hb1 := Lib.hid hb1; clear hk1 hk2))
    go_ret
    exact ⟨ret_bool hrr.out.symm, (H.out.2.2.1.trans (hb1.out.mono H.out.2.2.1.size))⟩
  have Hd : Hid ((x.da == y.da) = true) := by show _ = _; rw [hd]; simp
  have Gda := Lib.hid hd
  clear hd
  by_cases h_od : x.od = y.od
  rotate_left
  · have e_od : (x.od == y.od) = false := by simpa using h_od
    have hrr : Hid (r = false) := by show _ = _; rw [Bool.eq_false_iff]; intro h; exact h_od (Hr.out.1 h).2.2.2.2.2.2.2.1
    clear h_od
    go_enter Try.func19, Try.ntmps19
    go_wp2_with (first | (go_at_call 18; refine (eqBytes _ _ _ _ _ _ x.da y.da _ H.out.1.1.2.2.2.1 H.out.2.1.1.2.2.2.1 H.out.1.1.1 H.out.2.1.1.1 (by have := H.out.1.1.2.2.2.2; unfold maxLen; omega) (by have := H.out.2.1.1.2.2.2.2; unfold maxLen; omega)).mono ?_; rintro e w1 ⟨rfl, hb1⟩; rw [Hd.out]; have hk1 := H.out.2.2.2.1.below hb1 H.out.2.2.2.1.lt; have hk2 := H.out.2.2.2.2.below hb1 H.out.2.2.2.2.lt; have k7 : w1.cell? ⟨w.heap.size, 7, none⟩ = some (.int .i64 x.od) := hk1.cell rfl; have j7 : w1.cell? ⟨w.heap.size + 1, 7, none⟩ = some (.int .i64 y.od) := hk2.cell rfl; have k8 : w1.cell? ⟨w.heap.size, 8, none⟩ = some (.int .i64 x.nw) := hk1.cell rfl; have j8 : w1.cell? ⟨w.heap.size + 1, 8, none⟩ = some (.int .i64 y.nw) := hk2.cell rfl; have k9 : w1.cell? ⟨w.heap.size, 9, none⟩ = some (.slice Nx nnx cnx) := hk1.cell rfl; have j9 : w1.cell? ⟨w.heap.size + 1, 9, none⟩ = some (.slice Ny nny cny) := hk2.cell rfl; have hb1 := Lib.hid hb1; clear hk1 hk2))
    go_ret
    exact ⟨ret_bool hrr.out.symm, (H.out.2.2.1.trans (hb1.out.mono H.out.2.2.1.size))⟩
  have e_od : (x.od == y.od) = true := by simpa using h_od
  have God := Lib.hid h_od
  clear h_od
  by_cases h_nw : x.nw = y.nw
  rotate_left
  · have e_nw : (x.nw == y.nw) = false := by simpa using h_nw
    have hrr : Hid (r = false) := by show _ = _; rw [Bool.eq_false_iff]; intro h; exact h_nw (Hr.out.1 h).2.2.2.2.2.2.2.2.1
    clear h_nw
    go_enter Try.func19, Try.ntmps19
    go_wp2_with (first | (go_at_call 18; refine (eqBytes _ _ _ _ _ _ x.da y.da _ H.out.1.1.2.2.2.1 H.out.2.1.1.2.2.2.1 H.out.1.1.1 H.out.2.1.1.1 (by have := H.out.1.1.2.2.2.2; unfold maxLen; omega) (by have := H.out.2.1.1.2.2.2.2; unfold maxLen; omega)).mono ?_; rintro e w1 ⟨rfl, hb1⟩; rw [Hd.out]; have hk1 := H.out.2.2.2.1.below hb1 H.out.2.2.2.1.lt; have hk2 := H.out.2.2.2.2.below hb1 H.out.2.2.2.2.lt; have k7 : w1.cell? ⟨w.heap.size, 7, none⟩ = some (.int .i64 x.od) := hk1.cell rfl; have j7 : w1.cell? ⟨w.heap.size + 1, 7, none⟩ = some (.int .i64 y.od) := hk2.cell rfl; have k8 : w1.cell? ⟨w.heap.size, 8, none⟩ = some (.int .i64 x.nw) := hk1.cell rfl; have j8 : w1.cell? ⟨w.heap.size + 1, 8, none⟩ = some (.int .i64 y.nw) := hk2.cell rfl; have k9 : w1.cell? ⟨w.heap.size, 9, none⟩ = some (.slice Nx nnx cnx) := hk1.cell rfl; have j9 : w1.cell? ⟨w.heap.size + 1, 9, none⟩ = some (.slice Ny nny cny) := hk2.cell rfl; have hb1 := Lib.hid hb1; clear hk1 hk2))
    go_ret
    exact ⟨ret_bool hrr.out.symm, (H.out.2.2.1.trans (hb1.out.mono H.out.2.2.1.size))⟩
  have e_nw : (x.nw == y.nw) = true := by simpa using h_nw
  have Gnw := Lib.hid h_nw
  clear h_nw
  by_cases hs : x.nx = y.nx
  rotate_left
  · have Hs : Hid (decide (x.nx = y.nx) = false) := by show _ = _; simpa using hs
    have hrr : Hid (r = false) := by show _ = _; rw [Bool.eq_false_iff]; intro h; exact hs (Hr.out.1 h).2.2.2.2.2.2.2.2.2
    clear hs
    go_enter Try.func19, Try.ntmps19
    go_wp2_with (first | (go_at_call 18; refine (eqBytes _ _ _ _ _ _ x.da y.da _ H.out.1.1.2.2.2.1 H.out.2.1.1.2.2.2.1 H.out.1.1.1 H.out.2.1.1.1 (by have := H.out.1.1.2.2.2.2; unfold maxLen; omega) (by have := H.out.2.1.1.2.2.2.2; unfold maxLen; omega)).mono ?_; rintro e w1 ⟨rfl, hb1⟩; rw [Hd.out]; have hk1 := H.out.2.2.2.1.below hb1 H.out.2.2.2.1.lt; have hk2 := H.out.2.2.2.2.below hb1 H.out.2.2.2.2.lt; have k7 : w1.cell? ⟨w.heap.size, 7, none⟩ = some (.int .i64 x.od) := hk1.cell rfl; have j7 : w1.cell? ⟨w.heap.size + 1, 7, none⟩ = some (.int .i64 y.od) := hk2.cell rfl; have k8 : w1.cell? ⟨w.heap.size, 8, none⟩ = some (.int .i64 x.nw) := hk1.cell rfl; have j8 : w1.cell? ⟨w.heap.size + 1, 8, none⟩ = some (.int .i64 y.nw) := hk2.cell rfl; have k9 : w1.cell? ⟨w.heap.size, 9, none⟩ = some (.slice Nx nnx cnx) := hk1.cell rfl; have j9 : w1.cell? ⟨w.heap.size + 1, 9, none⟩ = some (.slice Ny nny cny) := hk2.cell rfl; have hb1 := Lib.hid hb1; clear hk1 hk2) | (go_at_call 43; refine (eqInts_any _ _ _ _ _ _ x.nx y.nx _ (H.out.1.2.1.1.after hb1.out) (H.out.2.1.2.1.1.after hb1.out)).mono ?_; rintro e w2 ⟨rfl, hb2⟩; rw [Hs.out]; have hb2 := Lib.hid hb2))
    go_ret
    exact ⟨ret_bool hrr.out.symm, ((H.out.2.2.1.trans (hb1.out.mono H.out.2.2.1.size)).trans (hb2.out.mono (H.out.2.2.1.trans (hb1.out.mono H.out.2.2.1.size)).size))⟩
  have Hs : Hid (decide (x.nx = y.nx) = true) := by show _ = _; simpa using hs
  have Gnx := Lib.hid hs
  clear hs
  have hrr : Hid (r = true) := Hr.out.2 ⟨Gcl.out, Gsp.out, Ggr.out, Gep.out, Gkd.out, Gbl.out, Gda.out, God.out, Gnw.out, Gnx.out⟩
  go_enter Try.func19, Try.ntmps19
  go_wp2_with (first | (go_at_call 18; refine (eqBytes _ _ _ _ _ _ x.da y.da _ H.out.1.1.2.2.2.1 H.out.2.1.1.2.2.2.1 H.out.1.1.1 H.out.2.1.1.1 (by have := H.out.1.1.2.2.2.2; unfold maxLen; omega) (by have := H.out.2.1.1.2.2.2.2; unfold maxLen; omega)).mono ?_; rintro e w1 ⟨rfl, hb1⟩; rw [Hd.out]; have hk1 := H.out.2.2.2.1.below hb1 H.out.2.2.2.1.lt; have hk2 := H.out.2.2.2.2.below hb1 H.out.2.2.2.2.lt; have k7 : w1.cell? ⟨w.heap.size, 7, none⟩ = some (.int .i64 x.od) := hk1.cell rfl; have j7 : w1.cell? ⟨w.heap.size + 1, 7, none⟩ = some (.int .i64 y.od) := hk2.cell rfl; have k8 : w1.cell? ⟨w.heap.size, 8, none⟩ = some (.int .i64 x.nw) := hk1.cell rfl; have j8 : w1.cell? ⟨w.heap.size + 1, 8, none⟩ = some (.int .i64 y.nw) := hk2.cell rfl; have k9 : w1.cell? ⟨w.heap.size, 9, none⟩ = some (.slice Nx nnx cnx) := hk1.cell rfl; have j9 : w1.cell? ⟨w.heap.size + 1, 9, none⟩ = some (.slice Ny nny cny) := hk2.cell rfl; have hb1 := Lib.hid hb1; clear hk1 hk2) | (go_at_call 43; refine (eqInts_any _ _ _ _ _ _ x.nx y.nx _ (H.out.1.2.1.1.after hb1.out) (H.out.2.1.2.1.1.after hb1.out)).mono ?_; rintro e w2 ⟨rfl, hb2⟩; rw [Hs.out]; have hb2 := Lib.hid hb2))
  go_ret
  exact ⟨ret_bool hrr.out.symm, ((H.out.2.2.1.trans (hb1.out.mono H.out.2.2.1.size)).trans (hb2.out.mono (H.out.2.2.1.trans (hb1.out.mono H.out.2.2.1.size)).size))⟩

end Go.Proofs.Ytihmddpafbackaa

namespace Go.Proofs.Ytihmddpafbackaa

open Go.RowKit Go.Maps

set_option linter.unusedVariables false

set_option linter.unusedSimpArgs false

def xRead : Wl := ⟨31, 5, 1, 0, 1, 3, [], 0, 0, []⟩

def xSeal : Wl := ⟨0, 0, 2, 1, 5, 0, [], 0, 0, [1, 2, 3, 4]⟩

theorem may_read : May xRead := by decide

theorem may_seal : May xSeal := by decide

def bRead : List UInt8 := [1, 1, 1, 31, 1, 5, 1, 1, 0, 1, 3, 0, 0, 0, 0]

def bSeal : List UInt8 := [1, 5, 0, 0, 1, 2, 1, 1, 0, 0, 0, 0, 1, 4, 1, 1, 1, 2, 1, 3, 1, 4]

theorem parse_read : parse bRead = (xRead, 0) := by kernel_rfl

theorem parse_seal : parse bSeal = (xSeal, 0) := by kernel_rfl

theorem wb_read : wb xRead = bRead := (parse_back parse_read).2

theorem wb_seal : wb xSeal = bSeal := (parse_back parse_seal).2

theorem unb_zero : unb [0] = ([], 0) := by kernel_rfl

theorem bat_nil : batchW [] = ([0], 0) := by
  have h := (unb_back unb_zero).2.2
  unfold batchW
  rw [if_neg (by simp), if_pos (by simp), h]

set_option maxRecDepth 100000 in
set_option maxHeartbeats 1600000 in
theorem read_any (w : World) : Calls Try.prog 32 #[] w fun e w' => e = .returned (.agg #[.int .i64 31, .int .i64 5, .int .i64 1, .int .i64 0, .int .i64 1, .int .i64 3, .slice none 0 0, .int .i64 0, .int .i64 0, .slice none 0 0]) ∧ Below w.heap.size w w' := by
  go_enter Try.func32, Try.ntmps32
  go_wp2
  refine bodyPost_ret (results_row rfl _ _ w.heap.size 25 _ _ rfl (heap_alloc_new w _) Try.underlying25 rfl wish_size) rfl ?_
  exact ⟨rfl, (Below.refl _ _).alloc (Nat.le_refl _) _⟩

set_option maxRecDepth 100000 in
set_option maxHeartbeats 1600000 in
theorem seal_wish (w : World) : Calls Try.prog 33 #[] w fun e w' => ∃ A, e = .returned (.agg #[.int .i64 0, .int .i64 0, .int .i64 2, .int .i64 1, .int .i64 5, .int .i64 0, .slice none 0 0, .int .i64 0, .int .i64 0, .slice (some A) 4 4]) ∧ ArgI w' (some A) 4 4 [1, 2, 3, 4] ∧ Below w.heap.size w w' := by
  go_enter Try.func33, Try.ntmps33
  go_wp2
  have hB : Blk ((w.alloc (.cells #[.int .i64 0, .int .i64 0, .int .i64 2, .int .i64 1, .int .i64 5, .int .i64 0, .slice none 0 0, .int .i64 0, .int .i64 0, .slice (some ⟨w.heap.size + 1, 0, none⟩) 4 4] 25)).alloc (.cells #[.int .i64 1, .int .i64 2, .int .i64 3, .int .i64 4] 3)) w.heap.size 25 [.int .i64 0, .int .i64 0, .int .i64 2, .int .i64 1, .int .i64 5, .int .i64 0, .slice none 0 0, .int .i64 0, .int .i64 0, .slice (some ⟨w.heap.size + 1, 0, none⟩) 4 4] := (Blk.new (l := [.int .i64 0, .int .i64 0, .int .i64 2, .int .i64 1, .int .i64 5, .int .i64 0, .slice none 0 0, .int .i64 0, .int .i64 0, .slice (some ⟨w.heap.size + 1, 0, none⟩) 4 4]) rfl rfl).old _
  refine bodyPost_ret (results_row rfl _ _ w.heap.size 25 _ _ rfl hB Try.underlying25 rfl wish_size) rfl ?_
  refine ⟨⟨w.heap.size + 1, 0, none⟩, rfl, ⟨rfl, Nat.le_refl _, by simp [maxLen], ?_, by decide⟩, ((Below.refl _ _).alloc (Nat.le_refl _) _).alloc (by simp) _⟩
  refine ⟨rfl, fun _ => ⟨w.heap.size + 1, 0, rfl, by simp, fun j u hu => ?_⟩⟩
  rw [Nat.zero_add]
  exact (Blk.new (l := cis [1, 2, 3, 4]) rfl (by simp)).cell hu

set_option maxRecDepth 100000 in
set_option maxHeartbeats 3200000 in
theorem is_true (x : Wl) (Dx : Option Addr) (ndx cdx : Nat) (Nx : Option Addr) (nnx cnx : Nat) (w : World) (h : ArgW w x Dx ndx cdx Nx nnx cnx) (hm : May x) (A : Option Addr) (n c : Nat) (l : List UInt8) (hA : Bs w A l) (hn : l.length = n) (hnc : n ≤ c) (hc : c ≤ maxLen) (hl : wb x = l) :
    Calls Try.prog 44 #[.agg #[.int .i64 x.cl, .int .i64 x.sp, .int .i64 x.gr, .int .i64 x.ep, .int .i64 x.kd, .int .i64 x.bl, .slice Dx ndx cdx, .int .i64 x.od, .int .i64 x.nw, .slice Nx nnx cnx], .slice A n c] w fun e w' => e = .returned (.bool true) ∧ Below w.heap.size w w' := by
  have hx := Wx.new (w := w) (x := x) (D := Dx) (nd := ndx) (cd := cdx) (N := Nx) (nn := nnx) (cn := cnx)
  have hw := h.after hx.bel
  have hwb : wbytes x = (l, 0) := by unfold wbytes; rw [if_pos hm, hl]
  have hpp : parse l = (x, 0) := by rw [← hl]; exact parse_wb hm
  have hlen : n < 128 := by have := (wb_len hm).2; rw [hl, hn] at this; exact this
  have hby := bytes_wish x Dx ndx cdx Nx nnx cnx _ hw
  rw [hwb] at hby
  have hxn : WNm x := by have := parse_nm l; rw [hpp] at this; exact this
  have hs := sameB_self x
  have H := Lib.hid (And.intro hx (And.intro hw (And.intro hby (And.intro hpp (And.intro hn (And.intro (hA.after hx.bel) (And.intro hxn hs)))))))
  clear hx hw h hm hl hwb hpp hA hby hn hxn hs
  go_enter Try.func44, Try.ntmps44
  go_wp2_with fail
  refine H.out.2.2.1.mono ?_
  rintro e w1 ⟨v1, rfl, hN1⟩
  obtain ⟨A1, c1, rfl, hl1, hc1, hB1⟩ := hN1.form
  simp only at hl1 ⊢
  rw [H.out.2.2.2.2.1] at hl1
  rw [H.out.2.2.2.2.1]
  have hx1 := H.out.1.on hN1.2
  have H1 := Lib.hid (And.intro hx1 (And.intro (H.out.2.1.after hN1.2) (And.intro hB1 (H.out.2.2.2.2.2.1.after hN1.2))))
  clear hN1 hx1 hB1
  go_wp2_with fail
  have hcp := parse_any A n c l w1 H1.out.2.2.2 H.out.2.2.2.2.1 hnc hc (by omega)
  rw [H.out.2.2.2.1] at hcp
  refine hcp.mono ?_
  clear hcp
  rintro e w2 ⟨v, rfl, hV, hb2⟩
  obtain ⟨Dy, ndy, cdy, Ny, nny, cny, rfl, hAW, _, _⟩ := hV.arg H.out.2.2.2.2.2.2.1
  have hal : Below w2.heap.size w2 (w2.alloc (.cells #[.int .i64 x.cl, .int .i64 x.sp, .int .i64 x.gr, .int .i64 x.ep, .int .i64 x.kd, .int .i64 x.bl, .slice Dy ndy cdy, .int .i64 x.od, .int .i64 x.nw, .slice Ny nny cny] 25)) := (Below.refl _ _).alloc (Nat.le_refl _) _
  have hk3 : Blk (w2.alloc (.cells #[.int .i64 x.cl, .int .i64 x.sp, .int .i64 x.gr, .int .i64 x.ep, .int .i64 x.kd, .int .i64 x.bl, .slice Dy ndy cdy, .int .i64 x.od, .int .i64 x.nw, .slice Ny nny cny] 25)) w2.heap.size 25 [.int .i64 x.cl, .int .i64 x.sp, .int .i64 x.gr, .int .i64 x.ep, .int .i64 x.kd, .int .i64 x.bl, .slice Dy ndy cdy, .int .i64 x.od, .int .i64 x.nw, .slice Ny nny cny] := Blk.new rfl rfl
  have hb3 := hb2.trans (hal.mono hb2.size)
  obtain ⟨W3, hW3⟩ : ∃ W, (w2.alloc (.cells #[.int .i64 x.cl, .int .i64 x.sp, .int .i64 x.gr, .int .i64 x.ep, .int .i64 x.kd, .int .i64 x.bl, .slice Dy ndy cdy, .int .i64 x.od, .int .i64 x.nw, .slice Ny nny cny] 25)) = W := ⟨_, rfl⟩
  rw [hW3] at hal hk3 hb3
  have H3 := Lib.hid (And.intro (H1.out.1.on hb3) (And.intro (H1.out.2.1.after hb3) (And.intro (H1.out.2.2.1.after hb3) (And.intro (H1.out.2.2.2.after hb3) (And.intro (hAW.after hal) hk3)))))
  have HW := Lib.hid hW3
  clear hV hb2 hAW hal hk3 hb3 hW3
  go_upto_region 3 with fail
  rw [HW.out]
  go_wp2_with fail
  refine (eqBytes A1 A _ _ _ _ l l W3 H3.out.2.2.1 H3.out.2.2.2.1 H.out.2.2.2.2.1 H.out.2.2.2.2.1 (by unfold maxLen; omega) (by unfold maxLen; omega)).mono ?_
  rintro e w4 ⟨rfl, hb4⟩
  have hx4 := H3.out.1.on hb4
  have hk4 := H3.out.2.2.2.2.2.below hb4 H3.out.2.2.2.2.2.lt
  obtain ⟨⟨k0, k1, k2, k3, k4⟩, k5, k6, k7, k8, k9⟩ := hx4.ks
  have j0 : w4.cell? ⟨w2.heap.size, 0, none⟩ = some (.int .i64 x.cl) := hk4.cell rfl
  have j1 : w4.cell? ⟨w2.heap.size, 1, none⟩ = some (.int .i64 x.sp) := hk4.cell rfl
  have j2 : w4.cell? ⟨w2.heap.size, 2, none⟩ = some (.int .i64 x.gr) := hk4.cell rfl
  have j3 : w4.cell? ⟨w2.heap.size, 3, none⟩ = some (.int .i64 x.ep) := hk4.cell rfl
  have j4 : w4.cell? ⟨w2.heap.size, 4, none⟩ = some (.int .i64 x.kd) := hk4.cell rfl
  have j5 : w4.cell? ⟨w2.heap.size, 5, none⟩ = some (.int .i64 x.bl) := hk4.cell rfl
  have j6 : w4.cell? ⟨w2.heap.size, 6, none⟩ = some (.slice Dy ndy cdy) := hk4.cell rfl
  have j7 : w4.cell? ⟨w2.heap.size, 7, none⟩ = some (.int .i64 x.od) := hk4.cell rfl
  have j8 : w4.cell? ⟨w2.heap.size, 8, none⟩ = some (.int .i64 x.nw) := hk4.cell rfl
  have j9 : w4.cell? ⟨w2.heap.size, 9, none⟩ = some (.slice Ny nny cny) := hk4.cell rfl
  have H4 := Lib.hid (And.intro (H3.out.2.2.2.2.1.after hb4) (And.intro (H3.out.2.1.after hb4) hx4.bel))
  clear hb4 hx4 hk4
  go_wp2_with fail
  have hcs := rsame_any x Dy ndy cdy Ny nny cny x Dx ndx cdx Nx nnx cnx w4 H4.out.1 H4.out.2.1
  rw [H.out.2.2.2.2.2.2.2] at hcs
  refine hcs.mono ?_
  clear hcs
  rintro e w5 ⟨rfl, hb5⟩
  have Hb5 := Lib.hid hb5
  clear hb5
  go_wp2
  go_ret
  exact ⟨rfl, H4.out.2.2.trans (Hb5.out.mono H4.out.2.2.size)⟩

theorem bs_made (w : World) (t : TypeId) (vs : Array Value) (l : List UInt8) (h : vs.toList = cbs l) : Bs (w.alloc (.cells vs t)) (some ⟨w.heap.size, 0, none⟩) l := by
  refine ⟨by rw [cbs_length]; simp, fun _ => ⟨w.heap.size, 0, rfl, by simp, fun j u hu => ?_⟩⟩
  rw [Nat.zero_add, cell_of_row _ _ j vs t (0, 0) (heap_alloc_new w _)]
  rw [← h] at hu
  simpa using hu

theorem argI_nil (w : World) : ArgI w none 0 0 [] := ⟨rfl, Nat.le_refl _, by simp [maxLen], Shows.empty _, fun x hx => by simp at hx⟩

theorem arg_read (w : World) : ArgW w xRead none 0 0 none 0 0 := ⟨⟨rfl, Nat.le_refl _, by simp [maxLen], Bs.nil _ _, by omega⟩, ⟨argI_nil w, by omega⟩, by decide, by decide, by decide, by decide, by decide, by decide, by decide, by decide⟩

theorem arg_seal {w : World} {A : Addr} (h : ArgI w (some A) 4 4 [1, 2, 3, 4]) : ArgW w xSeal none 0 0 (some A) 4 4 := ⟨⟨rfl, Nat.le_refl _, by simp [maxLen], Bs.nil _ _, by omega⟩, ⟨h, by omega⟩, by decide, by decide, by decide, by decide, by decide, by decide, by decide, by decide⟩

theorem argL_nil (w : World) : ArgL w none 0 0 [] := ⟨rfl, Nat.le_refl _, by simp [maxLen], fun h => absurd rfl h⟩

set_option maxRecDepth 100000 in
set_option maxHeartbeats 3200000 in
theorem works11_any (w : World) : Calls Try.prog 20 #[] w fun e w' => e = .returned (.bool true) ∧ Below w.heap.size w w' := by
  go_enter Try.func20, Try.ntmps20
  go_wp2_with fail
  have hc := batch_any none 0 0 [] w (argL_nil w)
  rw [bat_nil] at hc
  refine hc.mono ?_
  clear hc
  rintro e w1 ⟨v1, rfl, hN1⟩
  obtain ⟨A1, c1, rfl, hl1, hc1, hB1⟩ := hN1.form
  have hb1 := hN1.2
  have hal : Below w1.heap.size w1 (w1.alloc (.cells #[.int .u8 0] 5)) := (Below.refl _ _).alloc (Nat.le_refl _) _
  have H1 := Lib.hid (And.intro (hB1.after hal) (hb1.trans (hal.mono hb1.size)))
  clear hN1 hB1 hb1 hal
  go_wp2_with fail
  have hc := unbatch_any (some ⟨w1.heap.size, 0, none⟩) 1 1 [0] _ (bs_made w1 5 #[.int .u8 0] [0] rfl) rfl (Nat.le_refl _) (by simp [maxLen]) (by omega)
  rw [unb_zero] at hc
  refine hc.mono ?_
  clear hc
  rintro e w2 ⟨v2, ys, rfl, hO2, hy2, _, hb2⟩
  obtain ⟨A2, c2, rfl⟩ := row_form hO2.1
  have hy0 : ys.length = 0 := by have := congrArg List.length hy2; simpa using this
  rw [hy0]
  have H2 := Lib.hid (And.intro (H1.out.1.after hb2) (H1.out.2.trans (hb2.mono H1.out.2.size)))
  clear hO2 hy2 hb2 hy0
  go_wp2_with fail
  refine (read_any w2).mono ?_
  rintro e w3 ⟨rfl, hb3⟩
  have hal : Below w3.heap.size w3 (w3.alloc (.cells (cbs bRead).toArray 5)) := (Below.refl _ _).alloc (Nat.le_refl _) _
  have hb3' := hb3.trans (hal.mono hb3.size)
  have H3 := Lib.hid (And.intro (H2.out.1.after hb3') (H2.out.2.trans (hb3'.mono H2.out.2.size)))
  clear hb3 hal hb3'
  go_wp2_with fail
  refine (is_true xRead none 0 0 none 0 0 _ (arg_read _) may_read (some ⟨w3.heap.size, 0, none⟩) 15 15 bRead (bs_made w3 5 _ bRead rfl) rfl (Nat.le_refl _) (by simp [maxLen]) wb_read).mono ?_
  rintro e w4 ⟨rfl, hb4⟩
  have H4 := Lib.hid (And.intro (H3.out.1.after hb4) (H3.out.2.trans (hb4.mono H3.out.2.size)))
  clear hb4
  go_wp2_with fail
  refine (seal_wish w4).mono ?_
  rintro e w5 ⟨A5, rfl, hI5, hb5⟩
  have hal : Below w5.heap.size w5 (w5.alloc (.cells (cbs bSeal).toArray 5)) := (Below.refl _ _).alloc (Nat.le_refl _) _
  have hb5' := hb5.trans (hal.mono hb5.size)
  have H5 := Lib.hid (And.intro (H4.out.1.after hb5') (And.intro (H4.out.2.trans (hb5'.mono H4.out.2.size)) (hI5.after hal)))
  clear hb5 hal hb5' hI5
  go_wp2_with fail
  refine (is_true xSeal none 0 0 (some A5) 4 4 _ (arg_seal H5.out.2.2) may_seal (some ⟨w5.heap.size, 0, none⟩) 22 22 bSeal (bs_made w5 5 _ bSeal rfl) rfl (Nat.le_refl _) (by simp [maxLen]) wb_seal).mono ?_
  rintro e w6 ⟨rfl, hb6⟩
  have hal : Below w6.heap.size w6 (w6.alloc (.cells #[.int .u8 0] 5)) := (Below.refl _ _).alloc (Nat.le_refl _) _
  have hb6' := hb6.trans (hal.mono hb6.size)
  have H6 := Lib.hid (And.intro (H5.out.1.after hb6') (H5.out.2.1.trans (hb6'.mono H5.out.2.1.size)))
  clear hb6 hal hb6'
  go_wp2_with fail
  refine (eqBytes A1 _ c1 1 1 1 [0] [0] _ H6.out.1 (bs_made w6 5 #[.int .u8 0] [0] rfl) rfl rfl (by simp [maxLen]) (by simp [maxLen])).mono ?_
  rintro e w7 ⟨rfl, hb7⟩
  have Hb7 := Lib.hid hb7
  clear hb7
  go_wp2
  go_ret
  exact ⟨rfl, H6.out.2.trans (Hb7.out.mono H6.out.2.size)⟩

end Go.Proofs.Ytihmddpafbackaa
