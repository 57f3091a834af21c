/-
  Laid together for a hand-in: Rt11, Ru11.
-/
import Derived.Test.YtihmddpafbackaaZ17
import Derived.Test.YtihmddpafbackaaZ09
import Derived.Test.YtihmddpafbackaaZ11
import Derived.Test.YtihmddpafbackaaZ07
import Derived.Test.YtihmddpafbackaaZ18
import Derived.Deep.DeepCutAuto

namespace Go.Proofs.Ytihmddpafbackaa

open Go.RowKit Go.Maps

set_option linter.unusedVariables false

set_option linter.unusedSimpArgs false

theorem sb_le {l : List UInt8} (h : l.length < 128) : (sb l).length ≤ 8 + l.length := by
  rw [sb_st (by omega), List.length_append]
  have h1 := ib_le (x := (l.length : Int)) ⟨by omega, by omega⟩
  rw [ib_nm ⟨by omega, by omega⟩] at h1
  simp only [Int.toNat_natCast] at h1
  omega

theorem prt_flat {l : List Wl} {k : Nat} (h : k < l.length) : (prt l (k + 1)).flatten = (prt l k).flatten ++ sb (wb l[k]) := by
  rw [prt_step h, List.flatten_append]
  simp

set_option maxRecDepth 100000 in
set_option maxHeartbeats 3200000 in
theorem rbatch_any (A : Option Addr) (n c : Nat) (l : List Wl) (w : World) (h : ArgL w A n c l) : Calls Try.prog 26 #[.slice A n c] w (RetBE w (batchW l)) := by
  have hn := h.1
  by_cases h4 : 4 < n
  · have hr : Hid (batchW l = ([], 5)) := by show _ = _; unfold batchW; rw [if_pos (by omega)]
    have h4' : (4 : Int) < n := by omega
    clear hn h
    generalize batchW l = r at *
    go_enter Try.func26, Try.ntmps26
    go_wp2
    go_ret2
    rw [hr.out]
    exact ⟨_, rfl, NewB.nil _⟩
  · have h4' : ¬ (4 : Int) < n := by omega
    have hr : Hid (batchW l = if ∀ x ∈ l, May x then (btB l, 0) else ([], 2)) := by show _ = _; unfold batchW; rw [if_neg (by omega)]
    have hp0 : (prt l 0).flatten = ib (n : Int) := by unfold prt; simp [hn]
    have hi8 := (ib_le (x := (n : Int)) ⟨by omega, by omega⟩).2
    have H := Lib.hid (And.intro h hn)
    have Hnum := Lib.hid (rnum_any (n : Int) w)
    rw [← hp0] at Hnum hi8
    clear h hn hp0
    generalize batchW l = r at *
    go_enter Try.func26, Try.ntmps26
    go_wp2_with fail
    refine Hnum.out.mono ?_
    rintro e w1 ⟨v1, rfl, hN⟩
    have H1 := Lib.hid hN
    clear hN
    go_wp2
    go_loopw [4, 5] (fun v i wr => ∃ (k : Nat), k ≤ n ∧ i = .int .i64 k ∧ Hid (Mine wr w.heap.size 5 v (prt l k).flatten ∧ (∀ j (hj : j < l.length), j < k → May l[j]) ∧ Below w.heap.size w wr ∧ (prt l k).flatten.length ≤ 8 + 200 * k)) (fun _ i _ => n - (intOf i).toNat)
    case atStart => exact ⟨0, Nat.zero_le _, rfl, H1.out.1, fun j _ hj => by omega, H1.out.2, by omega⟩
    case round =>
      obtain ⟨k, hk, rfl, hI⟩ := hrel
      by_cases hlt : k < n
      · have hlt' : (k : Int) < n := by omega
        have hkl : k < l.length := by rw [H.out.2]; exact hlt
        obtain ⟨b, off, D, nd, cd, N, nn, cn, hA, hb, hrg, hAW⟩ := (H.out.1.after hI.out.2.2.1).at_ hkl
        have Hst := Lib.hid (prt_flat hkl)
        have hmay : May l[k] → ∀ j (hj : j < l.length), j < k + 1 → May l[j] := fun hm j hj hjk => by
          by_cases e : j = k
          · subst e; exact hm
          · exact hI.out.2.1 j hj (by omega)
        have hnot : ¬ May l[k] → ¬ ∀ x ∈ l, May x := fun hm hall => hm (hall _ (List.getElem_mem hkl))
        have Hm := Lib.hid (And.intro hmay hnot)
        clear hmay hnot
        generalize l[k] = x at *
        obtain ⟨⟨k0, k1, k2, k3, k4⟩, k5, k6, k7, k8, k9⟩ := range_ks hrg
        simp only at k0 k1 k2 k3 k4 k5 k6 k7 k8 k9
        have Hx := Lib.hid hAW
        subst hA
        clear hrg hAW hkl
        go_wp2_with fail
        by_cases hm : May x
        · have hw : wbytes x = (wb x, 0) := by unfold wbytes; rw [if_pos hm]
          have hc := rbytes_any x D nd cd N nn cn _ Hx.out
          rw [hw] at hc
          have hlen := (wb_len hm).2
          have hsl := sb_le hlen
          have hall := Lib.hid (Hm.out.1 hm)
          clear hw hm
          refine hc.mono ?_
          clear hc
          rintro e w3 ⟨v3, rfl, hN3⟩
          obtain ⟨A3, c3, rfl, hl3, hc3, hB3⟩ := hN3.form
          simp only at hB3 hl3 ⊢
          obtain ⟨q, hq⟩ : ∃ q, (wb x).length = q := ⟨_, rfl⟩
          rw [hq] at hlen hsl ⊢
          have Hstr := Lib.hid (rstr_any A3 c3 q (wb x) w3 hB3 hq (by unfold maxLen; omega))
          have H3 := Lib.hid hN3.2
          clear hN3 hl3 hc3 hB3 hq
          generalize sb (wb x) = y at *
          go_wp2_with fail
          refine Hstr.out.mono ?_
          rintro e w4 ⟨v4, rfl, hN4⟩
          obtain ⟨A4, c4, rfl, hl4, hc4, hB4⟩ := hN4.form
          have hb4 : Below wr.heap.size wr w4 := H3.out.trans (hN4.2.mono H3.out.size)
          have H5 := Lib.hid (And.intro (Mine.after hI.out.1 hb4) (And.intro (hI.out.2.2.1.trans (hb4.mono hI.out.2.2.1.size)) hB4))
          have hpl := hI.out.2.2.2
          have h47 : (prt l k).flatten.length + y.length ≤ 140737488355328 := by omega
          have hbs := H5.out.2.1.size
          clear hN4 hb4 hB4 hl4 hc4
          go_wp2_with (at_builtin; refine wp_appendB rfl _ _ rfl w.heap.size _ _ rfl H5.out.1 A4 c4 _ y rfl H5.out.2.2 rfl h47 hbs ?_; intro v6 w6 hm6 hg6 ho6)
          go_roundw
          case rel =>
            exact ⟨k + 1, by omega, by go_num, by rw [Hst.out]; exact hm6, hall.out, H5.out.2.1.grown hg6 hbs (fun i hi => (World.ownsRow.lt H5.out.1 i hi).1), by rw [Hst.out, List.length_append]; omega⟩
          case measure => simp [intOf]; omega
        · have hw : wbytes x = ([], 2) := by unfold wbytes; rw [if_neg hm]
          have hc := rbytes_any x D nd cd N nn cn _ Hx.out
          rw [hw] at hc
          have Hr : Hid (r = ([], 2)) := by show _ = _; rw [hr.out, if_neg (Hm.out.2 hm)]
          clear hw hm
          refine hc.mono ?_
          clear hc
          rintro e w3 ⟨v3, rfl, hN3⟩
          obtain ⟨A3, c3, rfl, hl3, hc3, _⟩ := hN3.form
          have H3 := Lib.hid (hI.out.2.2.1.trans (hN3.2.mono hI.out.2.2.1.size))
          clear hN3 hl3 hc3
          go_wp2
          go_ret2
          rw [Hr.out]
          exact ⟨_, rfl, World.ownsRow_nil _ _ _ _, H3.out⟩
      · have hlt' : ¬ (k : Int) < n := by omega
        have hkn : k = l.length := by have := H.out.2; omega
        have Hr : Hid (r = (btB l, 0)) := by
          show _ = _
          rw [hr.out, if_pos]
          intro x hx
          obtain ⟨j, hj, rfl⟩ := List.mem_iff_getElem.1 hx
          exact hI.out.2.1 j hj (by omega)
        have hM := hI.out.1
        rw [hkn, prt_end] at hM
        have HF := Lib.hid (And.intro hM hI.out.2.2.1)
        clear hM hI hkn
        go_wp2
        go_ret2
        rw [Hr.out]
        exact ⟨_, rfl, HF.out.1, HF.out.2⟩

theorem who_argw {w w0 : World} {base : Nat} {y : WH} {D : Option Addr} {nd cd : Nat} {N : Option Addr} {nn cn : Nat} (h : WHo w base y) (hx : ArgW w0 y.x D nd cd N nn cn) : ArgW w y.x y.D y.nd y.cd y.N y.nn y.cn := by
  obtain ⟨x, Dx, ndx, cdx, Nx, nnx, cnx⟩ := y
  obtain ⟨⟨h1, h2⟩, h3, h4⟩ := h
  simp only at h1 h2 h3 h4 hx ⊢
  subst h2 h4
  obtain ⟨_, c, e1, g1, g2, g3⟩ := Mine.form h1
  obtain ⟨_, c', e2, g4⟩ := h3.arg hx.2.1.1.2.2.2.2
  injection e1 with e1 _ e3
  injection e2 with e2 _ e4
  subst e1 e2 e3 e4
  have a1 := hx.1.1
  have a2 := hx.1.2.2.2.2
  have a3 := hx.2.1.1.1
  have a4 := hx.2.1.2
  exact ⟨⟨rfl, g1, g2, g3, by omega⟩, ⟨g4, by omega⟩, hx.2.2⟩

set_option maxRecDepth 100000 in
set_option maxHeartbeats 3200000 in
theorem rcopyall_any (A : Option Addr) (n c : Nat) (l : List Wl) (w : World) (h : ArgL w A n c l) (hs : l.length < 1256584717458) : Calls Try.prog 24 #[.slice A n c] w fun e w' => ∃ A' c', e = .returned (.slice A' n c') ∧ ArgL w' A' n c' l ∧ Below w.heap.size w w' := by
  have hn := h.1
  have hn63 : n ≤ 1256584717458 := by omega
  have H := Lib.hid (And.intro h hn)
  clear h hn
  go_enter Try.func24, Try.ntmps24
  go_wp2
  go_loopw [3, 4] (fun v i wr => ∃ (k : Nat) (ys : List WH), k ≤ n ∧ i = .int .i64 k ∧ Hid (OwnL wr w.heap.size v ys ∧ ys.map (·.x) = l.take k ∧ Below w.heap.size w wr)) (fun _ i _ => n - (intOf i).toNat)
  case atStart => exact ⟨0, [], Nat.zero_le _, rfl, OwnL.nil _ _, by simp, Below.refl _ _⟩
  case round =>
    obtain ⟨k, ys, hk, rfl, hI⟩ := hrel
    by_cases hlt : k < n
    · have hlt' : (k : Int) < n := by omega
      have hkl : k < l.length := by rw [H.out.2]; exact hlt
      obtain ⟨b, off, D, nd, cd, N, nn, cn, hA, hb, hrg, hAW⟩ := (H.out.1.after hI.out.2.2).at_ hkl
      have Hst : Hid (l.take (k + 1) = l.take k ++ [l[k]]) := List.take_succ_eq_append_getElem hkl
      have hyl : ys.length = k := by have h1 := congrArg List.length hI.out.2.1; simp only [List.length_map, List.length_take] at h1; omega
      have hy4 : ys.length < 1256584717458 := by omega
      generalize l[k] = x at *
      obtain ⟨⟨k0, k1, k2, k3, k4⟩, k5, k6, k7, k8, k9⟩ := range_ks hrg
      simp only at k0 k1 k2 k3 k4 k5 k6 k7 k8 k9
      have Hx := Lib.hid hAW
      subst hA
      clear hrg hAW hkl hyl
      go_wp2_with fail
      refine (rcopy_any x D nd cd N nn cn _ Hx.out).mono ?_
      rintro e w3 ⟨v3, rfl, ⟨Dx, ndx, cdx, Nx, nnx, cnx, rfl, hW⟩, hb3⟩
      have hal : Below w3.heap.size w3 (w3.alloc (.cells #[.int .i64 x.cl, .int .i64 x.sp, .int .i64 x.gr, .int .i64 x.ep, .int .i64 x.kd, .int .i64 x.bl, .slice Dx ndx cdx, .int .i64 x.od, .int .i64 x.nw, .slice Nx nnx cnx] 25)) := (Below.refl _ _).alloc (Nat.le_refl _) _
      have hWo : WHo w3 wr.heap.size ⟨x, Dx, ndx, cdx, Nx, nnx, cnx⟩ := ⟨hW.1, hW.2⟩
      have hb4 := hb3.trans (hal.mono hb3.size)
      have H3 := Lib.hid (And.intro (hI.out.1.on hb4) (And.intro ((hWo.on hal).base hI.out.2.2.size) (hI.out.2.2.trans (hb4.mono hI.out.2.2.size))))
      have hsz := H3.out.2.2.size
      clear hW hb3 hal hWo hb4
      go_wp2_with (at_builtin; refine wp_appendW rfl _ _ rfl w.heap.size _ ys rfl H3.out.1 _ ⟨x, Dx, ndx, cdx, Nx, nnx, cnx⟩ rfl (Blk.new rfl rfl) H3.out.2.1 hy4 hsz ?_; intro v4 w4 hO4 hS4)
      go_roundw
      case rel =>
        refine ⟨k + 1, ys ++ [⟨x, Dx, ndx, cdx, Nx, nnx, cnx⟩], by omega, by go_num, hO4, ?_, ?_⟩
        · rw [List.map_append, hI.out.2.1, Hst.out]; rfl
        · exact H3.out.2.2.trans (hS4.above (B := w.heap.size) (fun i e => e.1) hsz)
      case measure => simp [intOf]; omega
    · have hlt' : ¬ (k : Int) < n := by omega
      have hkn : k = l.length := by have := H.out.2; omega
      have hmap := hI.out.2.1
      rw [hkn, List.take_length] at hmap
      have hyl : ys.length = n := by have h1 := congrArg List.length hmap; simp only [List.length_map] at h1; have := H.out.2; omega
      obtain ⟨A', c', hv⟩ := row_form hI.out.1.1
      rw [hyl] at hv
      subst hv
      have hx : ∀ y ∈ ys, ArgW wr y.x y.D y.nd y.cd y.N y.nn y.cn := by
        intro y hy
        have h1 : y.x ∈ l := by rw [← hmap]; exact List.mem_map_of_mem hy
        obtain ⟨j, hj, he⟩ := List.mem_iff_getElem.1 h1
        obtain ⟨_, _, D, nd, cd, N, nn, cn, _, _, _, hA⟩ := H.out.1.at_ hj
        rw [he] at hA
        exact who_argw (hI.out.1.2 y hy) hA
      have hL := hI.out.1.arg hyl hx
      rw [hmap] at hL
      have HF := Lib.hid (And.intro hL hI.out.2.2)
      clear hI hkn hmap hyl hx hL
      go_wp2
      go_ret
      exact ⟨A', c', rfl, HF.out.1, HF.out.2⟩

end Go.Proofs.Ytihmddpafbackaa

namespace Go.Proofs.Ytihmddpafbackaa

open Go.RowKit Go.Maps

set_option linter.unusedVariables false

set_option linter.unusedSimpArgs false

theorem rp_err2 {q : Rd} (h : q.2 ≠ 0) : (rp q).2 = q := by
  have e := rt_err (m := 256) h
  unfold rp
  rw [e]
  rw [if_pos h]

theorem rps_err2 {s : Rd} {k : Nat} (h : (rps k s).2.2 ≠ 0) : ∀ j, (rps (k + j) s).2 = (rps k s).2
  | 0 => rfl
  | j + 1 => by
    have ih := rps_err2 h j
    show (rp (rps (k + j) s).2).2 = (rps k s).2
    rw [ih]
    exact rp_err2 h

theorem ren_err {s : Rd} (h : s.2 ≠ 0) : ren s = s.2 := by unfold ren; rw [if_neg (fun hh => h hh.1)]

theorem rc_pos {m : Nat} {s : Rd} (h : (rc m s).1 ≠ 0) : (rc m s).2.2 = 0 := by
  unfold rc at h ⊢
  split
  · rename_i h1; rw [if_pos h1] at h; simp at h
  · rename_i h1
    rw [if_neg h1] at h
    simp only at h ⊢
    by_cases h2 : (rn s).2.2 = 0
    · exact h2
    · rw [rn_zero h2] at h; simp at h

theorem unb_stop {l : List UInt8} {m k : Nat} {s q : Rd} (hms : rc 4 (l, 0) = (m, s)) (hk : k ≤ m) (hq : (rps k s).2 = q) (he : q.2 ≠ 0) : unb l = ([], q.2) := by
  have h1 := rps_err2 (s := s) (k := k) (by rw [hq]; exact he) (m - k)
  have e : k + (m - k) = m := by omega
  rw [e, hq] at h1
  unfold unb
  rw [hms]
  dsimp only
  rw [h1, ren_err he, if_pos he]

set_option maxRecDepth 100000 in
set_option maxHeartbeats 6400000 in
theorem runbatch_any (A : Option Addr) (n c : Nat) (l : List UInt8) (w : World) (hA : Bs w A l) (hn : l.length = n) (hnc : n ≤ c) (hc : c ≤ maxLen) (hl : n ≤ 140737488355328) : Calls Try.prog 28 #[.slice A n c] w (RetU w (unb l)) := by
  obtain ⟨m, s, hms⟩ : ∃ a b, rc 4 (l, 0) = (a, b) := ⟨_, _, (Prod.eta _).symm⟩
  have hm4 : m ≤ 4 := by have := rc_le 4 (l, 0); rw [hms] at this; exact this
  have hm0 : m ≠ 0 → s.2 = 0 := fun h => by have h1 := @rc_pos 4 (l, 0); rw [hms] at h1; exact h1 h
  have hp : Hid (unb l = if ren (rps m s).2 ≠ 0 then ([], ren (rps m s).2) else ((rps m s).1, 0)) := by show _ = _; unfold unb; rw [hms]
  have hstop : Hid (∀ k q, k ≤ m → (rps k s).2 = q → q.2 ≠ 0 → unb l = ([], q.2)) := fun k q h1 h2 h3 => unb_stop hms h1 h2 h3
  have hbr : Blk (w.alloc (.cells #[.slice A n c, .int .i64 0] 63)) w.heap.size 63 [.slice A n c, .int .i64 ((0 : Nat) : Int)] := Blk.new rfl rfl
  have hb1 : Below w.heap.size w (w.alloc (.cells #[.slice A n c, .int .i64 0] 63)) := (Below.refl _ _).alloc (Nat.le_refl _) _
  obtain ⟨W1, hW1⟩ : ∃ W, w.alloc (.cells #[.slice A n c, .int .i64 0] 63) = W := ⟨_, rfl⟩
  rw [hW1] at hbr hb1
  have hR1 : RdA 63 w.heap.size W1 w.heap.size (l, 0) := ⟨Nat.le_refl _, A, n, c, hbr, hnc, hc, hl, fun _ => ⟨hn, (Bn.old hA (Nat.le_refl _)).bel hb1⟩⟩
  have H1 := Lib.hid (And.intro hR1 (And.intro hb1 (And.intro hms hbr.lt)))
  have HW := Lib.hid hW1
  clear hbr hb1 hW1 hR1 hA hn hms
  generalize unb l = r at *
  go_enter Try.func28, Try.ntmps28
  go_wp2_with fail
  rw [HW.out]
  have hc := many2_rd w.heap.size w.heap.size 4 (l, 0) _ H1.out.1 (by omega)
  rw [H1.out.2.2.1] at hc
  refine hc.mono ?_
  clear hc
  rintro e w2 ⟨rfl, hR, hO⟩
  have H2 := Lib.hid (And.intro hR (And.intro hO (Nat.lt_of_lt_of_le H1.out.2.2.2 hO.size)))
  clear hR hO
  go_wp2
  go_loopw [6, 7] (fun v i wr => ∃ (k : Nat) (ys : List WH), k ≤ m ∧ i = .int .i64 k ∧ Hid (RdA 63 w.heap.size wr w.heap.size (rps k s).2 ∧ OwnL wr w2.heap.size v ys ∧ ys.map (·.x) = (rps k s).1 ∧ (∀ y ∈ ys, WNm y.x) ∧ Og w.heap.size w2 wr ∧ (k < m → (rps k s).2.2 = 0))) (fun _ i _ => m - (intOf i).toNat)
  case atStart => exact ⟨0, [], Nat.zero_le _, rfl, H2.out.1, OwnL.nil _ _, rfl, fun y hy => by simp at hy, Out.refl _ _, fun h => hm0 (by omega)⟩
  case round =>
    obtain ⟨k, ys, hk, rfl, hI⟩ := hrel
    by_cases hlt : k < m
    · have hlt' : (k : Int) < m := by omega
      obtain ⟨L, q, hLq⟩ : ∃ a b, rps k s = (a, b) := ⟨_, _, (Prod.eta _).symm⟩
      obtain ⟨t, q1, ht⟩ : ∃ a b, rt 256 q = (a, b) := ⟨_, _, (Prod.eta _).symm⟩
      obtain ⟨x, ex, hx⟩ : ∃ a b, parse t = (a, b) := ⟨_, _, (Prod.eta _).symm⟩
      have htl : t.length ≤ 65536 := by have := rt_len 256 q; rw [ht] at this; exact this
      have hxn : WNm x := by have := parse_nm t; rw [hx] at this; exact this
      have hst : rps (k + 1) s = (L ++ [(rp q).1], (rp q).2) := by unfold rps; simp only [hLq]
      have hrp1 : q1.2 ≠ 0 → (rp q).2 = q1 := fun h => by unfold rp; rw [ht]; dsimp only; rw [if_pos h]
      have hrp2 : q1.2 = 0 → rp q = (x, (q1.1, ex)) := fun h => by unfold rp; rw [ht]; dsimp only; rw [if_neg (by rw [h]; simp), hx]
      have hLl : L.length = k := by have := rps_len k s; rw [hLq] at this; exact this
      have hI2 := hI.out
      rw [hLq] at hI2
      have hq0 : q.2 = 0 := hI2.2.2.2.2.2 hlt
      have HI := Lib.hid (And.intro hI2 (And.intro ht (And.intro hx (And.intro hxn (And.intro hst (And.intro hrp1 (And.intro hrp2 (And.intro hLl htl))))))))
      have hbk : ∃ A' n' c', Blk wr w.heap.size 63 [.slice A' n' c', .int .i64 ((0 : Nat) : Int)] := by
        obtain ⟨_, A', n', c', hb, _⟩ := hI2.1
        simp only at hb
        rw [hq0] at hb
        exact ⟨A', n', c', hb⟩
      obtain ⟨A', n', c', hbk⟩ := hbk
      have k1 : wr.cell? ⟨w.heap.size, 1, none⟩ = some (.int .i64 ((0 : Nat) : Int)) := hbk.cell rfl
      have hz1 : (((0 : Nat) : Int) == 0) = true := rfl
      clear hI hI2 ht hx hxn hst hrp1 hrp2 hLl hLq hq0 hbk htl
      have hsz2 : w2.heap.size ≤ wr.heap.size := HI.out.1.2.2.2.2.1.size
      go_wp2_with fail
      have hc := str2_rd w.heap.size w.heap.size 256 q _ HI.out.1.1 (by omega)
      rw [HI.out.2.1] at hc
      refine hc.mono ?_
      clear hc
      rintro e w3 ⟨v8, rfl, hM, hR3, hO3⟩
      obtain ⟨A8, c8, rfl, hl8, hc8, hB8⟩ := Mine.form hM
      simp only at hl8 hB8 ⊢
      have hbk : ∃ A' n' c', Blk w3 w.heap.size 63 [.slice A' n' c', .int .i64 (q1.2 : Int)] := by
        obtain ⟨_, A', n', c', hb, _⟩ := hR3
        exact ⟨A', n', c', hb⟩
      obtain ⟨A9, n9, c9, hbk⟩ := hbk
      have k1 : w3.cell? ⟨w.heap.size, 1, none⟩ = some (.int .i64 (q1.2 : Int)) := hbk.cell rfl
      have k1d : w3.drew.cell? ⟨w.heap.size, 1, none⟩ = some (.int .i64 (q1.2 : Int)) := k1
      have hb13 : Below w.heap.size w w3 := H1.out.2.1.trans (((H2.out.2.1.trans HI.out.1.2.2.2.2.1 (fun _ _ e => e)).trans hO3 (fun _ _ e => e)).above (B := w.heap.size) (fun i e => by omega) (by have := H1.out.2.2.2; omega))
      have H3 := Lib.hid (And.intro hR3 (And.intro hO3 (And.intro hB8 (And.intro hb13 (And.intro hl8 hc8)))))
      clear hM hR3 hO3 hB8 hbk hb13
      by_cases hq1 : q1.2 ≠ 0
      · have hz2 : ((q1.2 : Int) != 0) = true := by simp [hq1]
        have Hr : Hid (r = ([], q1.2)) := by
          show _ = _
          refine hstop.out (k + 1) q1 (by omega) ?_ hq1
          rw [HI.out.2.2.2.2.1]
          exact HI.out.2.2.2.2.2.1 hq1
        clear hq1
        go_wp2
        go_quiet (fail)
        go_wp2
        go_ret2
        rw [Hr.out]
        exact ⟨_, [], rfl, OwnL.nil _ _, rfl, fun y hy => by simp at hy, below_drewN H3.out.2.2.2.1 _⟩
      · have hq10 : q1.2 = 0 := by simpa using hq1
        have hz2 : ((q1.2 : Int) != 0) = false := by simp [hq10]
        have Hrp := Lib.hid (HI.out.2.2.2.2.2.2.1 hq10)
        have Hq10 := Lib.hid hq10
        clear hq1 hq10
        go_wp2_with fail
        have hc := rparse_any A8 t.length c8 t w3 H3.out.2.2.1 rfl H3.out.2.2.2.2.1 H3.out.2.2.2.2.2 (by have := HI.out.2.2.2.2.2.2.2.2; omega)
        rw [HI.out.2.2.1] at hc
        refine hc.mono ?_
        clear hc
        rintro e w4 ⟨vx, rfl, ⟨Dx, ndx, cdx, Nx, nnx, cnx, rfl, hW⟩, hb4⟩
        have hal : Below w4.heap.size w4 (w4.alloc (.cells #[.int .i64 x.cl, .int .i64 x.sp, .int .i64 x.gr, .int .i64 x.ep, .int .i64 x.kd, .int .i64 x.bl, .slice Dx ndx cdx, .int .i64 x.od, .int .i64 x.nw, .slice Nx nnx cnx] 25)) := (Below.refl _ _).alloc (Nat.le_refl _) _
        have hbx : Blk (w4.alloc (.cells #[.int .i64 x.cl, .int .i64 x.sp, .int .i64 x.gr, .int .i64 x.ep, .int .i64 x.kd, .int .i64 x.bl, .slice Dx ndx cdx, .int .i64 x.od, .int .i64 x.nw, .slice Nx nnx cnx] 25)) w4.heap.size 25 [.int .i64 x.cl, .int .i64 x.sp, .int .i64 x.gr, .int .i64 x.ep, .int .i64 x.kd, .int .i64 x.bl, .slice Dx ndx cdx, .int .i64 x.od, .int .i64 x.nw, .slice Nx nnx cnx] := Blk.new rfl rfl
        have hWo : WHo w4 w3.heap.size ⟨x, Dx, ndx, cdx, Nx, nnx, cnx⟩ := ⟨hW.1, hW.2⟩
        have hb5 := hb4.trans (hal.mono hb4.size)
        have hWo5 := hWo.on hal
        obtain ⟨W5, hW5⟩ : ∃ W, (w4.alloc (.cells #[.int .i64 x.cl, .int .i64 x.sp, .int .i64 x.gr, .int .i64 x.ep, .int .i64 x.kd, .int .i64 x.bl, .slice Dx ndx cdx, .int .i64 x.od, .int .i64 x.nw, .slice Nx nnx cnx] 25)) = W := ⟨_, rfl⟩
        obtain ⟨bx, hbxe⟩ : ∃ b, w4.heap.size = b := ⟨_, rfl⟩
        rw [hW5] at hal hbx hb5 hWo5
        rw [hbxe] at hbx
        have j0 : W5.cell? ⟨bx, 0, none⟩ = some (.int .i64 x.cl) := (hbx).cell rfl
        have j1 : W5.cell? ⟨bx, 1, none⟩ = some (.int .i64 x.sp) := (hbx).cell rfl
        have j2 : W5.cell? ⟨bx, 2, none⟩ = some (.int .i64 x.gr) := (hbx).cell rfl
        have j3 : W5.cell? ⟨bx, 3, none⟩ = some (.int .i64 x.ep) := (hbx).cell rfl
        have j4 : W5.cell? ⟨bx, 4, none⟩ = some (.int .i64 x.kd) := (hbx).cell rfl
        have j5 : W5.cell? ⟨bx, 5, none⟩ = some (.int .i64 x.bl) := (hbx).cell rfl
        have j6 : W5.cell? ⟨bx, 6, none⟩ = some (.slice Dx ndx cdx) := (hbx).cell rfl
        have j7 : W5.cell? ⟨bx, 7, none⟩ = some (.int .i64 x.od) := (hbx).cell rfl
        have j8 : W5.cell? ⟨bx, 8, none⟩ = some (.int .i64 x.nw) := (hbx).cell rfl
        have j9 : W5.cell? ⟨bx, 9, none⟩ = some (.slice Nx nnx cnx) := (hbx).cell rfl
        have H5 := Lib.hid (And.intro hb5 (And.intro hWo5 hbx))
        have HW5 := Lib.hid hW5
        have Hbx := Lib.hid hbxe
        clear hW hb4 hal hbx hWo hb5 hWo5 hW5 hbxe
        go_upto_region 11 with fail
        rw [HW5.out, Hbx.out]
        by_cases hex : ex ≠ 0
        · have hz3 : ((ex : Int) != 0) = true := by simp [hex]
          have Hr : Hid (r = ([], ex)) := by
            show _ = _
            refine hstop.out (k + 1) (q1.1, ex) (by omega) ?_ hex
            rw [HI.out.2.2.2.2.1, Hrp.out]
          have hbF : Below w.heap.size w W5 := H3.out.2.2.2.1.trans (H5.out.1.mono H3.out.2.2.2.1.size)
          have HbF := Lib.hid hbF
          clear hex hbF
          go_wp2
          go_ret2
          rw [Hr.out]
          exact ⟨_, [], rfl, OwnL.nil _ _, rfl, fun y hy => by simp at hy, HbF.out⟩
        · have hex0 : ex = 0 := by simpa using hex
          subst hex0
          have hz3 : (((0 : Nat) : Int) != 0) = false := rfl
          clear hex
          have hO35 : Og w.heap.size wr W5 := H3.out.2.1.then_below H5.out.1
          have hal : Below W5.heap.size W5 (W5.alloc (.cells #[.int .i64 x.cl, .int .i64 x.sp, .int .i64 x.gr, .int .i64 x.ep, .int .i64 x.kd, .int .i64 x.bl, .slice Dx ndx cdx, .int .i64 x.od, .int .i64 x.nw, .slice Nx nnx cnx] 25)) := (Below.refl _ _).alloc (Nat.le_refl _) _
          have hOw : OwnL W5 w2.heap.size u6 ys := HI.out.1.2.1.out hO35 (fun i e => by have := H2.out.2.2; omega)
          have h23 : w2.heap.size ≤ w3.heap.size := Nat.le_trans hsz2 H3.out.2.1.size
          have hRR : RdA 63 w.heap.size W5 w.heap.size (q1.1, 0) := by
            have h := H3.out.1.bel H5.out.1
            have e : q1 = (q1.1, 0) := Prod.ext rfl Hq10.out
            rw [e] at h
            exact h
          have H6 := Lib.hid (And.intro (hRR.bel hal) (And.intro (hOw.on hal) (And.intro ((H5.out.2.1.on hal).base h23) (And.intro (hO35.then_below hal) (Nat.le_trans hsz2 (Nat.le_trans hO35.size hal.size))))))
          clear hO35 hal hOw hRR
          have hy4 : ys.length < 1256584717458 := by have h1 := HI.out.1.2.2.1; have h2 := congrArg List.length h1; simp only [List.length_map] at h2; have := HI.out.2.2.2.2.2.2.2.1; omega
          go_wp2_with (at_builtin; refine wp_appendW rfl _ _ rfl w2.heap.size _ ys rfl H6.out.2.1 _ ⟨x, Dx, ndx, cdx, Nx, nnx, cnx⟩ rfl (Blk.new rfl rfl) H6.out.2.2.1 hy4 H6.out.2.2.2.2 ?_; intro v7 w7 hO7 hS7)
          go_roundw
          case rel =>
            refine ⟨k + 1, ys ++ [⟨x, Dx, ndx, cdx, Nx, nnx, cnx⟩], by omega, by go_num, ?_⟩
            rw [HI.out.2.2.2.2.1, Hrp.out]
            have hb02 : w.heap.size < w2.heap.size := H2.out.2.2
            refine ⟨H6.out.1.out hS7 (fun e => by have := e.1; omega) (fun i _ e => e.less (by omega)), hO7, ?_, ?_, ?_, fun _ => rfl⟩
            · rw [List.map_append, HI.out.1.2.2.1]; rfl
            · intro y hy
              rcases List.mem_append.1 hy with h | h
              · exact HI.out.1.2.2.2.1 y h
              · rw [List.mem_singleton] at h; rw [h]; exact HI.out.2.2.2.1
            · exact (HI.out.1.2.2.2.2.1.trans H6.out.2.2.2.1 (fun _ _ e => e)).trans hS7 (fun i hi e => by have := e.1; omega)
          case measure => simp [intOf]; omega
    · have hlt' : ¬ (k : Int) < m := by omega
      have hkm : k = m := by omega
      subst hkm
      have HI := Lib.hid hI.out
      clear hI
      obtain ⟨z, hz⟩ : ∃ z, ren (rps k s).2 = z := ⟨_, rfl⟩
      have hbF : Below w.heap.size w wr := H1.out.2.1.trans ((H2.out.2.1.trans HI.out.2.2.2.2.1 (fun _ _ e => e)).above (B := w.heap.size) (fun i e => by omega) (by have := H1.out.2.2.2; omega))
      have hOw : OwnL wr w.heap.size u6 ys := HI.out.2.1.base (by have := H2.out.2.2; omega)
      have hend := end2_rd w.heap.size w.heap.size (rps k s).2 wr HI.out.1
      rw [hz] at hend
      have H5 := Lib.hid (And.intro hbF (And.intro hOw (And.intro hz hend)))
      clear hbF hOw hz hend
      go_wp2_with fail
      refine H5.out.2.2.2.mono ?_
      rintro e w5 ⟨rfl, rfl⟩
      dsimp only
      by_cases hz0 : z ≠ 0
      · have hzz : ((z : Int) != 0) = true := by simp [hz0]
        have Hr : Hid (r = ([], z)) := by show _ = _; rw [hp.out, H5.out.2.2.1, if_pos hz0]
        clear hz0
        go_wp2
        go_ret2
        rw [Hr.out]
        exact ⟨_, [], rfl, OwnL.nil _ _, rfl, fun y hy => by simp at hy, H5.out.1⟩
      · have hzz : ((z : Int) != 0) = false := by simpa using hz0
        have Hr : Hid (r = ((rps k s).1, 0)) := by show _ = _; rw [hp.out, H5.out.2.2.1, if_neg hz0]
        clear hz0
        go_wp2
        go_ret2
        rw [Hr.out]
        exact ⟨_, ys, rfl, H5.out.2.1, HI.out.2.2.1, HI.out.2.2.2.1, H5.out.1⟩

end Go.Proofs.Ytihmddpafbackaa
