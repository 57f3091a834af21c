/-
  Laid together for a hand-in: Rt11, Rg11, Dz11.
-/
import Derived.Test.YtihmddpafbackaaGreatZ22
import Derived.Test.YtihmddpafbackaaGreatZ14
import Derived.Test.YtihmddpafbackaaGreatZ19
import Derived.Test.YtihmddpafbackaaGreatZ15
import Derived.Test.YtihmddpafbackaaGreatZ18
import Derived.Test.YtihmddpafbackaaGreatZ16

namespace Go.Proofs.YtihmddpafbackaaGreat

open Go.RowKit Go.Maps

set_option linter.unusedVariables false

set_option linter.unusedSimpArgs false

theorem sb_le {l : List UInt8} (h : l.length < 128) : (sb l).length ≤ 8 + l.length := by
  rw [sb_st (by omega), List.length_append]
  have h1 := ib_le (x := (l.length : Int)) ⟨by omega, by omega⟩
  rw [ib_nm ⟨by omega, by omega⟩] at h1
  simp only [Int.toNat_natCast] at h1
  omega

theorem prt_flat {l : List Wl} {k : Nat} (h : k < l.length) : (prt l (k + 1)).flatten = (prt l k).flatten ++ sb (wb l[k]) := by
  rw [prt_step h, List.flatten_append]
  simp

set_option maxRecDepth 100000 in
set_option maxHeartbeats 3200000 in
theorem rbatch_any (A : Option Addr) (n c : Nat) (l : List Wl) (w : World) (h : ArgL w A n c l) : Calls Tryz.prog 32 #[.slice A n c] w (RetBE w (batchW l)) := by
  have hn := h.1
  by_cases h4 : 4 < n
  · have hr : Hid (batchW l = ([], 5)) := by show _ = _; unfold batchW; rw [if_pos (by omega)]
    have h4' : (4 : Int) < n := by omega
    clear hn h
    generalize batchW l = r at *
    go_enter Tryz.func32, Tryz.ntmps32
    go_wp2
    go_ret2
    rw [hr.out]
    exact ⟨_, rfl, NewB.nil _⟩
  · have h4' : ¬ (4 : Int) < n := by omega
    have hr : Hid (batchW l = if ∀ x ∈ l, May x then (btB l, 0) else ([], 2)) := by show _ = _; unfold batchW; rw [if_neg (by omega)]
    have hp0 : (prt l 0).flatten = ib (n : Int) := by unfold prt; simp [hn]
    have hi8 := (ib_le (x := (n : Int)) ⟨by omega, by omega⟩).2
    have H := Lib.hid (And.intro h hn)
    have Hnum := Lib.hid (rnum_any (n : Int) w)
    rw [← hp0] at Hnum hi8
    clear h hn hp0
    generalize batchW l = r at *
    go_enter Tryz.func32, Tryz.ntmps32
    go_wp2_with fail
    refine Hnum.out.mono ?_
    rintro e w1 ⟨v1, rfl, hN⟩
    have H1 := Lib.hid hN
    clear hN
    go_wp2
    go_loopw [4, 5] (fun v i wr => ∃ (k : Nat), k ≤ n ∧ i = .int .i64 k ∧ Hid (Mine wr w.heap.size 5 v (prt l k).flatten ∧ (∀ j (hj : j < l.length), j < k → May l[j]) ∧ Below w.heap.size w wr ∧ (prt l k).flatten.length ≤ 8 + 200 * k)) (fun _ i _ => n - (intOf i).toNat)
    case atStart => exact ⟨0, Nat.zero_le _, rfl, H1.out.1, fun j _ hj => by omega, H1.out.2, by omega⟩
    case round =>
      obtain ⟨k, hk, rfl, hI⟩ := hrel
      by_cases hlt : k < n
      · have hlt' : (k : Int) < n := by omega
        have hkl : k < l.length := by rw [H.out.2]; exact hlt
        obtain ⟨b, off, D, nd, cd, N, nn, cn, hA, hb, hrg, hAW⟩ := (H.out.1.after hI.out.2.2.1).at_ hkl
        have Hst := Lib.hid (prt_flat hkl)
        have hmay : May l[k] → ∀ j (hj : j < l.length), j < k + 1 → May l[j] := fun hm j hj hjk => by
          by_cases e : j = k
          · subst e; exact hm
          · exact hI.out.2.1 j hj (by omega)
        have hnot : ¬ May l[k] → ¬ ∀ x ∈ l, May x := fun hm hall => hm (hall _ (List.getElem_mem hkl))
        have Hm := Lib.hid (And.intro hmay hnot)
        clear hmay hnot
        generalize l[k] = x at *
        obtain ⟨⟨k0, k1, k2, k3, k4⟩, k5, k6, k7, k8, k9⟩ := range_ks hrg
        simp only at k0 k1 k2 k3 k4 k5 k6 k7 k8 k9
        have Hx := Lib.hid hAW
        subst hA
        clear hrg hAW hkl
        go_wp2_with fail
        by_cases hm : May x
        · have hw : wbytes x = (wb x, 0) := by unfold wbytes; rw [if_pos hm]
          have hc := rbytes_any x D nd cd N nn cn _ Hx.out
          rw [hw] at hc
          have hlen := (wb_len hm).2
          have hsl := sb_le hlen
          have hall := Lib.hid (Hm.out.1 hm)
          clear hw hm
          refine hc.mono ?_
          clear hc
          rintro e w3 ⟨v3, rfl, hN3⟩
          obtain ⟨A3, c3, rfl, hl3, hc3, hB3⟩ := hN3.form
          simp only at hB3 hl3 ⊢
          obtain ⟨q, hq⟩ : ∃ q, (wb x).length = q := ⟨_, rfl⟩
          rw [hq] at hlen hsl ⊢
          have Hstr := Lib.hid (rstr_any A3 c3 q (wb x) w3 hB3 hq (by unfold maxLen; omega))
          have H3 := Lib.hid hN3.2
          clear hN3 hl3 hc3 hB3 hq
          generalize sb (wb x) = y at *
          go_wp2_with fail
          refine Hstr.out.mono ?_
          rintro e w4 ⟨v4, rfl, hN4⟩
          obtain ⟨A4, c4, rfl, hl4, hc4, hB4⟩ := hN4.form
          have hb4 : Below wr.heap.size wr w4 := H3.out.trans (hN4.2.mono H3.out.size)
          have H5 := Lib.hid (And.intro (Mine.after hI.out.1 hb4) (And.intro (hI.out.2.2.1.trans (hb4.mono hI.out.2.2.1.size)) hB4))
          have hpl := hI.out.2.2.2
          have h47 : (prt l k).flatten.length + y.length ≤ 140737488355328 := by omega
          have hbs := H5.out.2.1.size
          clear hN4 hb4 hB4 hl4 hc4
          go_wp2_with (at_builtin; refine wp_appendB rfl _ _ rfl w.heap.size _ _ rfl H5.out.1 A4 c4 _ y rfl H5.out.2.2 rfl h47 hbs ?_; intro v6 w6 hm6 hg6 ho6)
          go_roundw
          case rel =>
            exact ⟨k + 1, by omega, by go_num, by rw [Hst.out]; exact hm6, hall.out, H5.out.2.1.grown hg6 hbs (fun i hi => (World.ownsRow.lt H5.out.1 i hi).1), by rw [Hst.out, List.length_append]; omega⟩
          case measure => simp [intOf]; omega
        · have hw : wbytes x = ([], 2) := by unfold wbytes; rw [if_neg hm]
          have hc := rbytes_any x D nd cd N nn cn _ Hx.out
          rw [hw] at hc
          have Hr : Hid (r = ([], 2)) := by show _ = _; rw [hr.out, if_neg (Hm.out.2 hm)]
          clear hw hm
          refine hc.mono ?_
          clear hc
          rintro e w3 ⟨v3, rfl, hN3⟩
          obtain ⟨A3, c3, rfl, hl3, hc3, _⟩ := hN3.form
          have H3 := Lib.hid (hI.out.2.2.1.trans (hN3.2.mono hI.out.2.2.1.size))
          clear hN3 hl3 hc3
          go_wp2
          go_ret2
          rw [Hr.out]
          exact ⟨_, rfl, World.ownsRow_nil _ _ _ _, H3.out⟩
      · have hlt' : ¬ (k : Int) < n := by omega
        have hkn : k = l.length := by have := H.out.2; omega
        have Hr : Hid (r = (btB l, 0)) := by
          show _ = _
          rw [hr.out, if_pos]
          intro x hx
          obtain ⟨j, hj, rfl⟩ := List.mem_iff_getElem.1 hx
          exact hI.out.2.1 j hj (by omega)
        have hM := hI.out.1
        rw [hkn, prt_end] at hM
        have HF := Lib.hid (And.intro hM hI.out.2.2.1)
        clear hM hI hkn
        go_wp2
        go_ret2
        rw [Hr.out]
        exact ⟨_, rfl, HF.out.1, HF.out.2⟩

theorem who_argw {w w0 : World} {base : Nat} {y : WH} {D : Option Addr} {nd cd : Nat} {N : Option Addr} {nn cn : Nat} (h : WHo w base y) (hx : ArgW w0 y.x D nd cd N nn cn) : ArgW w y.x y.D y.nd y.cd y.N y.nn y.cn := by
  obtain ⟨x, Dx, ndx, cdx, Nx, nnx, cnx⟩ := y
  obtain ⟨⟨h1, h2⟩, h3, h4⟩ := h
  simp only at h1 h2 h3 h4 hx ⊢
  subst h2 h4
  obtain ⟨_, c, e1, g1, g2, g3⟩ := Mine.form h1
  obtain ⟨_, c', e2, g4⟩ := h3.arg hx.2.1.1.2.2.2.2
  injection e1 with e1 _ e3
  injection e2 with e2 _ e4
  subst e1 e2 e3 e4
  have a1 := hx.1.1
  have a2 := hx.1.2.2.2.2
  have a3 := hx.2.1.1.1
  have a4 := hx.2.1.2
  exact ⟨⟨rfl, g1, g2, g3, by omega⟩, ⟨g4, by omega⟩, hx.2.2⟩

end Go.Proofs.YtihmddpafbackaaGreat

namespace Go.Proofs.YtihmddpafbackaaGreat
open Go.RowKit Go.Maps
set_option linter.unusedVariables false
set_option linter.unusedSimpArgs false

def rdS (L : List (List UInt8)) (k : Nat) (r : List UInt8 × Nat) : List (List UInt8) × Nat := if r.2 = 0 then rofL L k r.1 else (L, k)
def RdPost (w : World) (S : Nat → Prop) (g : Nat) (L : List (List UInt8)) (k : Nat) (r : List UInt8 × Nat) (w' : World) : Prop :=
  ∃ v', RefBk w' (Grown S w w') g v' (rdS L k r).1 (rdS L k r).2 ∧ Out S w w'
theorem rd_bad {w w' : World} {S : Nat → Prop} {g : Nat} {v : Value} {L : List (List UInt8)} {k : Nat} {r : List UInt8 × Nat} (h : RefBk w S g v L k) (hr : r.2 ≠ 0) (hb : Below w.heap.size w w') : RdPost w S g L k r w' := by
  unfold RdPost rdS
  rw [if_neg hr]
  exact ⟨v, (h.below hb).more (fun i hi => .inl hi) (fun i hi => by
    rcases hi with hi | hi
    · exact Nat.lt_of_lt_of_le (h.lt i hi) hb.size
    · exact hi.2), Out.ofBelow S hb⟩
theorem rd_ok {w w1 w2 : World} {S : Nat → Prop} {g gz : Nat} {v : Value} {L : List (List UInt8)} {k : Nat} {r : List UInt8 × Nat} (h : RefBk w S g v L k) (hr : r.2 = 0) (hb : Below w.heap.size w w1) (hz : w.heap.size ≤ gz) (hz1 : gz < w1.heap.size)
    (hp : RofPost w1 S g L k r.1 w2) (D : List Value) : RdPost w S g L k r (w2.setCells gz 0 D) := by
  obtain ⟨v', h2, ho⟩ := hp
  unfold RdPost rdS
  rw [if_pos hr]
  have hbs : But gz w2 (w2.setCells gz 0 D) := But.setCells (.inl rfl) D (But.refl _ _)
  have hlt : ∀ i, S i → i < w.heap.size := fun i hi => h.lt i hi
  have hsz := hbs.size
  have hs1 := hb.size
  have hs2 := ho.size
  have hnot : ∀ i, Grown S w1 w2 i → i ≠ gz := fun i hi e => by
    rcases hi with hi | hi
    · have := hlt i hi; omega
    · omega
  refine ⟨v', (h2.stay hsz fun i hi => hbs.block i (h2.lt i hi) fun e => hnot i hi (Option.some.inj e)).more (fun i hi => ?_) (fun i hi => ?_), ?_⟩
  · rcases hi with hi | hi
    · exact .inl hi
    · exact .inr ⟨by omega, by omega⟩
  · rcases hi with hi | hi
    · exact Nat.lt_of_lt_of_le (h2.lt i (.inl hi)) hsz
    · exact hi.2
  · exact ((Out.ofBelow S hb).trans ho fun _ _ e => e).then_grown hbs fun i hi h => by injection hi with hi; omega
theorem newB_off {w w' : World} {l : List UInt8} {A : Option Addr} {n c : Nat} {S : Nat → Prop} (h : NewB w l (.slice A n c) w') (hS : ∀ i, S i → i < w.heap.size) : OffS S A l := fun hl a ha hs => by
  rcases h.1.2 with ⟨e, hx⟩ | ⟨g, cap, cur, e, hg, _⟩
  · exact hl (List.eq_nil_of_length_eq_zero hx)
  · have : a = ⟨g, 0, none⟩ := by
      have e2 : A = some ⟨g, 0, none⟩ := by injection e
      rw [ha] at e2
      exact Option.some.inj e2
    subst this
    have := hS _ hs
    simp only at this
    omega
/-- The document's book has what the program's has. -/
theorem of_same (L : List (List UInt8)) (c : Bool) (k : Nat) (x : List UInt8) : (ofL L c k x).1 = (rofL L k x).1 ∧ (ofL L c k x).2.2 = (rofL L k x).2 := by
  unfold ofL rofL noteL
  by_cases h : x.length ≤ 65536
  · rw [if_pos h, if_pos h]
    by_cases hx : x ∈ L
    · rw [if_pos hx, if_pos hx]; exact ⟨rfl, rfl⟩
    · rw [if_neg hx, if_neg hx]; exact ⟨rfl, rfl⟩
  · rw [if_neg h, if_neg h]; exact ⟨rfl, rfl⟩
theorem dg_same (s : List (List UInt8) × Bool × Nat) (r : List UInt8 × Nat) : (dgS s r).1 = (rdS s.1 s.2.2 r).1 ∧ (dgS s r).2.2 = (rdS s.1 s.2.2 r).2 := by
  unfold dgS rdS
  split
  · exact of_same s.1 s.2.1 s.2.2 r.1
  · exact ⟨rfl, rfl⟩

set_option maxRecDepth 100000 in
set_option maxHeartbeats 1600000 in
theorem rbdigest_any (S : Nat → Prop) (g : Nat) (v0 : Value) (L : List (List UInt8)) (kn : Nat) (A : Option Addr) (n c : Nat) (l : List Wl) (w : World) (h : RefBk w S g v0 L kn) (hL : L.length < 1000000) (hk : kn < 1000000) (hx : ArgL w A n c l) :
    Calls Tryz.prog 12 #[.pointer (some ⟨g, 0, none⟩), .slice A n c] w fun e w' => e = .returned (.tuple #[.agg (cbs (dgD (batchW l))).toArray, .int .i64 (dgE (batchW l))]) ∧ RdPost w S g L kn (batchW l) w' := by
  have hlen := (fun (h : (batchW l).2 = 0) => (show (batchW l).1.length ≤ 65536 by have h1 := batch_ok h; rw [h1.2.2]; have := (btB_len h1.1 h1.2.1).2; omega))
  obtain ⟨r, hr⟩ : ∃ r, batchW l = r := ⟨_, rfl⟩
  obtain ⟨D, hD32, hDe, hD1⟩ := dg_cells r
  have hby := rbatch_any A n c l _ (hx.after (show Below w.heap.size w (w.alloc (.cells (cbs (List.replicate 32 0)).toArray 32)) from (Below.refl _ _).alloc (Nat.le_refl _) _))
  rw [hr] at hby hlen ⊢
  rw [hDe]
  have hZ : Blk (w.alloc (.cells (cbs (List.replicate 32 0)).toArray 32)) (w.heap.size) 32 (cbs (List.replicate 32 0)) := Blk.new (l := cbs (List.replicate 32 0)) rfl rfl
  have hb0 : Below w.heap.size w (w.alloc (.cells (cbs (List.replicate 32 0)).toArray 32)) := (Below.refl _ _).alloc (Nat.le_refl _) _
  have H := Lib.hid (And.intro h (And.intro hZ (And.intro hb0 (And.intro hD32 (And.intro hDe (And.intro hD1 (And.intro hL hk)))))))
  have Hby := Lib.hid hby
  have hi : (Tryz.prog.info? 32).map (·.size) = some D.toArray.size := by rw [List.size_toArray, hD32]; exact info32b
  have Hi := Lib.hid hi
  have Hgz := Lib.hid (show w.heap.size ≤ w.heap.size ∧ w.heap.size ≤ w.heap.size + 1 by omega)
  by_cases h0 : r.2 = 0
  · have hrn : ∃ n, r.1.length = n := ⟨_, rfl⟩
    obtain ⟨n0, hn0⟩ := hrn
    have e2 : dgE r = ofE r.1 := by unfold dgE; rw [if_pos h0]
    have e3 : ofE r.1 = 0 := by unfold ofE; rw [if_pos (by have := hlen h0; omega)]
    have e4 : dgD r = ofD r.1 := by unfold dgD; rw [if_pos h0]
    have he : ((r.2 : Nat) : Int) = 0 := by rw [h0]; rfl
    have hn6 := hlen h0
    rw [e2, e3]
    have Hr := Lib.hid (And.intro h0 (And.intro hn0 (And.intro hn6 e4)))
    have He := Lib.hid he
    clear hr h0 hn0 e2 e3 e4 hn6 he hlen hi hby hZ hb0 hL hk hD32 hDe hD1 h hx
    go_enter Tryz.func12, Tryz.ntmps12
    go_wp2_with fail
    refine Hby.out.mono ?_
    rintro e w1 ⟨v, rfl, hN⟩
    obtain ⟨A1, c1, rfl, hl1, hc1, hB1⟩ := hN.form
    rw [Hr.out.2.1] at hl1
    have hoff := newB_off (S := S) hN (fun i hi => Nat.lt_of_lt_of_le (H.out.1.lt i hi) H.out.2.2.1.size)
    rw [Hr.out.2.1, He.out]
    have hb1 := H.out.2.2.1.trans (hN.2.mono H.out.2.2.1.size)
    have Hof := Lib.hid (rof_any S g v0 L kn A1 n0 c1 r.1 w1 (H.out.1.below hb1) H.out.2.2.2.2.2.2.1 H.out.2.2.2.2.2.2.2 hB1 hoff Hr.out.2.1 hl1 hc1)
    have hofe : ofE r.1 = 0 := by unfold ofE; rw [if_pos Hr.out.2.2.1]
    rw [hofe, ← Hr.out.2.2.2, H.out.2.2.2.2.1] at Hof
    have hZ1 := H.out.2.1.below hN.2 H.out.2.1.lt
    have H1 := Lib.hid (And.intro hb1 hZ1)
    clear hN hb1 hZ1 hofe hl1 hc1 hB1 hoff
    go_wp2_with fail
    refine Hof.out.mono ?_
    rintro e w2 ⟨rfl, hPo⟩
    have hO := hPo.choose_spec.2
    have hgS : ¬ S (w.heap.size) := fun e => by have := H.out.1.lt _ e; have := Hgz.out; omega
    have hZ2 := hO.blk H1.out.2 hgS
    have hth : w2.there (w.heap.size) 0 D.toArray.size := by
      have e := hZ2.there
      rw [cbs_length, List.length_replicate] at e
      have e32 : D.toArray.size = 32 := by rw [List.size_toArray]; exact H.out.2.2.2.1
      rw [e32]; exact e
    have hR := hZ2.setAll (vs := D) (by rw [H.out.2.2.2.1, cbs_length, List.length_replicate])
    have hP := rd_ok (r := r) H.out.1 Hr.out.1 H1.out.1 (show w.heap.size ≤ w.heap.size by have := Hgz.out; omega) H1.out.2.lt hPo D
    have H2 := Lib.hid (And.intro hth (And.intro hR hP))
    clear hPo hO hgS hZ2 hth hR hP
    go_wp2_with (refine wpList_store_mid rfl 32 _ _ rfl (w.heap.size) 0 D.toArray rfl rfl H2.out.1 Hi.out H.out.2.2.2.2.2.1 ?_)
    refine bodyPost_ret (results_row_tmp3 rfl _ _ (w.heap.size) 32 D.toArray (0, 0) _ rfl H2.out.2.1 Tryz.underlying32 rfl Hi.out) rfl ?_
    exact ⟨rfl, H2.out.2.2⟩
  · obtain ⟨k, hk2⟩ : ∃ k, r.2 = k := ⟨_, rfl⟩
    have e2 : dgE r = (k : Int) := by unfold dgE; rw [if_neg h0, hk2]
    have e4 : dgD r = List.replicate 32 0 := by unfold dgD; rw [if_neg h0]
    have hne : ((k : Int) != 0) = true := by simp only [bne_iff_ne, ne_eq]; omega
    have Hk2 := Lib.hid hk2
    rw [e4] at hDe
    have Hr := Lib.hid (And.intro h0 e4)
    rw [e2, ← hDe]
    have Hde := Lib.hid hDe
    clear hr h0 e2 e4 hlen hi hby hZ hb0 hL hk hD32 hDe hD1 h hk2 hx
    go_enter Tryz.func12, Tryz.ntmps12
    go_wp2_with fail
    refine Hby.out.mono ?_
    rintro e w1 ⟨v, rfl, hN⟩
    obtain ⟨A1, c1, rfl, hl1, hc1, hB1⟩ := hN.form
    rw [Hk2.out]
    have hb1 := H.out.2.2.1.trans (hN.2.mono H.out.2.2.1.size)
    have hZ1 := H.out.2.1.below hN.2 H.out.2.1.lt
    have hth : w1.there (w.heap.size) 0 (cbs (List.replicate 32 0)).toArray.size := hZ1.there
    have hR := hZ1.setAll (vs := cbs (List.replicate 32 0)) rfl
    have hb2 : Below w.heap.size w (w1.setCells (w.heap.size) 0 (cbs (List.replicate 32 0))) := Below.setCells (by have := Hgz.out; omega) _ hb1
    have hP := rd_bad (r := r) H.out.1 Hr.out.1 hb2
    have H2 := Lib.hid (And.intro hth (And.intro hR hP))
    clear hN hb1 hZ1 hl1 hc1 hB1 hth hR hb2 hP
    go_wp2_with (refine wpList_store_mid rfl 32 _ _ rfl (w.heap.size) 0 (cbs (List.replicate 32 0)).toArray rfl rfl H2.out.1 info32b (cbs_one' _) ?_)
    refine bodyPost_ret (results_row_tmp3 rfl _ _ (w.heap.size) 32 (cbs (List.replicate 32 0)).toArray (0, 0) _ rfl H2.out.2.1 Tryz.underlying32 rfl info32b) rfl ?_
    exact ⟨rfl, H2.out.2.2⟩

set_option maxRecDepth 100000 in
set_option maxHeartbeats 1600000 in
theorem rwdigest_any (S : Nat → Prop) (g : Nat) (v0 : Value) (L : List (List UInt8)) (kn : Nat) (x : Wl) (Dx : Option Addr) (ndx cdx : Nat) (Nx : Option Addr) (nnx cnx : Nat) (w : World) (h : RefBk w S g v0 L kn) (hL : L.length < 1000000) (hk : kn < 1000000) (hx : ArgW w x Dx ndx cdx Nx nnx cnx) :
    Calls Tryz.prog 10 #[.pointer (some ⟨g, 0, none⟩), .agg #[.int .i64 x.cl, .int .i64 x.sp, .int .i64 x.gr, .int .i64 x.ep, .int .i64 x.kd, .int .i64 x.bl, .slice Dx ndx cdx, .int .i64 x.od, .int .i64 x.nw, .slice Nx nnx cnx]] w fun e w' => e = .returned (.tuple #[.agg (cbs (dgD (wbytes x))).toArray, .int .i64 (dgE (wbytes x))]) ∧ RdPost w S g L kn (wbytes x) w' := by
  have hlen := (fun (_ : (wbytes x).2 = 0) => wby_len x)
  obtain ⟨r, hr⟩ : ∃ r, wbytes x = r := ⟨_, rfl⟩
  obtain ⟨D, hD32, hDe, hD1⟩ := dg_cells r
  have hby := rbytes_any x Dx ndx cdx Nx nnx cnx _ (hx.after (show Below w.heap.size w ((w.alloc (.cells #[.int .i64 x.cl, .int .i64 x.sp, .int .i64 x.gr, .int .i64 x.ep, .int .i64 x.kd, .int .i64 x.bl, .slice Dx ndx cdx, .int .i64 x.od, .int .i64 x.nw, .slice Nx nnx cnx] 25)).alloc (.cells (cbs (List.replicate 32 0)).toArray 32)) from ((Below.refl _ _).alloc (Nat.le_refl _) _).alloc (by simp) _))
  rw [hr] at hby hlen ⊢
  rw [hDe]
  have hZ : Blk ((w.alloc (.cells #[.int .i64 x.cl, .int .i64 x.sp, .int .i64 x.gr, .int .i64 x.ep, .int .i64 x.kd, .int .i64 x.bl, .slice Dx ndx cdx, .int .i64 x.od, .int .i64 x.nw, .slice Nx nnx cnx] 25)).alloc (.cells (cbs (List.replicate 32 0)).toArray 32)) (w.heap.size + 1) 32 (cbs (List.replicate 32 0)) := Blk.new (l := cbs (List.replicate 32 0)) rfl (by simp)
  have hb0 : Below w.heap.size w ((w.alloc (.cells #[.int .i64 x.cl, .int .i64 x.sp, .int .i64 x.gr, .int .i64 x.ep, .int .i64 x.kd, .int .i64 x.bl, .slice Dx ndx cdx, .int .i64 x.od, .int .i64 x.nw, .slice Nx nnx cnx] 25)).alloc (.cells (cbs (List.replicate 32 0)).toArray 32)) := ((Below.refl _ _).alloc (Nat.le_refl _) _).alloc (by simp) _
  have hX : Blk ((w.alloc (.cells #[.int .i64 x.cl, .int .i64 x.sp, .int .i64 x.gr, .int .i64 x.ep, .int .i64 x.kd, .int .i64 x.bl, .slice Dx ndx cdx, .int .i64 x.od, .int .i64 x.nw, .slice Nx nnx cnx] 25)).alloc (.cells (cbs (List.replicate 32 0)).toArray 32)) w.heap.size 25 [.int .i64 x.cl, .int .i64 x.sp, .int .i64 x.gr, .int .i64 x.ep, .int .i64 x.kd, .int .i64 x.bl, .slice Dx ndx cdx, .int .i64 x.od, .int .i64 x.nw, .slice Nx nnx cnx] := (Blk.new (l := [.int .i64 x.cl, .int .i64 x.sp, .int .i64 x.gr, .int .i64 x.ep, .int .i64 x.kd, .int .i64 x.bl, .slice Dx ndx cdx, .int .i64 x.od, .int .i64 x.nw, .slice Nx nnx cnx]) rfl rfl).old _
  have k0 := hX.cell (i := 0) rfl
  have k1 := hX.cell (i := 1) rfl
  have k2 := hX.cell (i := 2) rfl
  have k3 := hX.cell (i := 3) rfl
  have k4 := hX.cell (i := 4) rfl
  have k5 := hX.cell (i := 5) rfl
  have k6 := hX.cell (i := 6) rfl
  have k7 := hX.cell (i := 7) rfl
  have k8 := hX.cell (i := 8) rfl
  have k9 := hX.cell (i := 9) rfl
  have H := Lib.hid (And.intro h (And.intro hZ (And.intro hb0 (And.intro hD32 (And.intro hDe (And.intro hD1 (And.intro hL hk)))))))
  have Hby := Lib.hid hby
  have hi : (Tryz.prog.info? 32).map (·.size) = some D.toArray.size := by rw [List.size_toArray, hD32]; exact info32b
  have Hi := Lib.hid hi
  have Hgz := Lib.hid (show w.heap.size ≤ w.heap.size + 1 ∧ w.heap.size ≤ w.heap.size + 1 by omega)
  by_cases h0 : r.2 = 0
  · have hrn : ∃ n, r.1.length = n := ⟨_, rfl⟩
    obtain ⟨n0, hn0⟩ := hrn
    have e2 : dgE r = ofE r.1 := by unfold dgE; rw [if_pos h0]
    have e3 : ofE r.1 = 0 := by unfold ofE; rw [if_pos (by have := hlen h0; omega)]
    have e4 : dgD r = ofD r.1 := by unfold dgD; rw [if_pos h0]
    have he : ((r.2 : Nat) : Int) = 0 := by rw [h0]; rfl
    have hn6 := hlen h0
    rw [e2, e3]
    have Hr := Lib.hid (And.intro h0 (And.intro hn0 (And.intro hn6 e4)))
    have He := Lib.hid he
    clear hr h0 hn0 e2 e3 e4 hn6 he hlen hi hby hZ hb0 hL hk hD32 hDe hD1 h hx hX
    go_enter Tryz.func10, Tryz.ntmps10
    go_wp2_with fail
    refine Hby.out.mono ?_
    rintro e w1 ⟨v, rfl, hN⟩
    obtain ⟨A1, c1, rfl, hl1, hc1, hB1⟩ := hN.form
    rw [Hr.out.2.1] at hl1
    have hoff := newB_off (S := S) hN (fun i hi => Nat.lt_of_lt_of_le (H.out.1.lt i hi) H.out.2.2.1.size)
    rw [Hr.out.2.1, He.out]
    have hb1 := H.out.2.2.1.trans (hN.2.mono H.out.2.2.1.size)
    have Hof := Lib.hid (rof_any S g v0 L kn A1 n0 c1 r.1 w1 (H.out.1.below hb1) H.out.2.2.2.2.2.2.1 H.out.2.2.2.2.2.2.2 hB1 hoff Hr.out.2.1 hl1 hc1)
    have hofe : ofE r.1 = 0 := by unfold ofE; rw [if_pos Hr.out.2.2.1]
    rw [hofe, ← Hr.out.2.2.2, H.out.2.2.2.2.1] at Hof
    have hZ1 := H.out.2.1.below hN.2 H.out.2.1.lt
    have H1 := Lib.hid (And.intro hb1 hZ1)
    clear hN hb1 hZ1 hofe hl1 hc1 hB1 hoff
    go_wp2_with fail
    refine Hof.out.mono ?_
    rintro e w2 ⟨rfl, hPo⟩
    have hO := hPo.choose_spec.2
    have hgS : ¬ S (w.heap.size + 1) := fun e => by have := H.out.1.lt _ e; have := Hgz.out; omega
    have hZ2 := hO.blk H1.out.2 hgS
    have hth : w2.there (w.heap.size + 1) 0 D.toArray.size := by
      have e := hZ2.there
      rw [cbs_length, List.length_replicate] at e
      have e32 : D.toArray.size = 32 := by rw [List.size_toArray]; exact H.out.2.2.2.1
      rw [e32]; exact e
    have hR := hZ2.setAll (vs := D) (by rw [H.out.2.2.2.1, cbs_length, List.length_replicate])
    have hP := rd_ok (r := r) H.out.1 Hr.out.1 H1.out.1 (show w.heap.size ≤ w.heap.size + 1 by have := Hgz.out; omega) H1.out.2.lt hPo D
    have H2 := Lib.hid (And.intro hth (And.intro hR hP))
    clear hPo hO hgS hZ2 hth hR hP
    go_wp2_with (refine wpList_store_mid rfl 32 _ _ rfl (w.heap.size + 1) 0 D.toArray rfl rfl H2.out.1 Hi.out H.out.2.2.2.2.2.1 ?_)
    refine bodyPost_ret (results_row_tmp3 rfl _ _ (w.heap.size + 1) 32 D.toArray (0, 0) _ rfl H2.out.2.1 Tryz.underlying32 rfl Hi.out) rfl ?_
    exact ⟨rfl, H2.out.2.2⟩
  · obtain ⟨k, hk2⟩ : ∃ k, r.2 = k := ⟨_, rfl⟩
    have e2 : dgE r = (k : Int) := by unfold dgE; rw [if_neg h0, hk2]
    have e4 : dgD r = List.replicate 32 0 := by unfold dgD; rw [if_neg h0]
    have hne : ((k : Int) != 0) = true := by simp only [bne_iff_ne, ne_eq]; omega
    have Hk2 := Lib.hid hk2
    rw [e4] at hDe
    have Hr := Lib.hid (And.intro h0 e4)
    rw [e2, ← hDe]
    have Hde := Lib.hid hDe
    clear hr h0 e2 e4 hlen hi hby hZ hb0 hL hk hD32 hDe hD1 h hk2 hx hX
    go_enter Tryz.func10, Tryz.ntmps10
    go_wp2_with fail
    refine Hby.out.mono ?_
    rintro e w1 ⟨v, rfl, hN⟩
    obtain ⟨A1, c1, rfl, hl1, hc1, hB1⟩ := hN.form
    rw [Hk2.out]
    have hb1 := H.out.2.2.1.trans (hN.2.mono H.out.2.2.1.size)
    have hZ1 := H.out.2.1.below hN.2 H.out.2.1.lt
    have hth : w1.there (w.heap.size + 1) 0 (cbs (List.replicate 32 0)).toArray.size := hZ1.there
    have hR := hZ1.setAll (vs := cbs (List.replicate 32 0)) rfl
    have hb2 : Below w.heap.size w (w1.setCells (w.heap.size + 1) 0 (cbs (List.replicate 32 0))) := Below.setCells (by have := Hgz.out; omega) _ hb1
    have hP := rd_bad (r := r) H.out.1 Hr.out.1 hb2
    have H2 := Lib.hid (And.intro hth (And.intro hR hP))
    clear hN hb1 hZ1 hl1 hc1 hB1 hth hR hb2 hP
    go_wp2_with (refine wpList_store_mid rfl 32 _ _ rfl (w.heap.size + 1) 0 (cbs (List.replicate 32 0)).toArray rfl rfl H2.out.1 info32b (cbs_one' _) ?_)
    refine bodyPost_ret (results_row_tmp3 rfl _ _ (w.heap.size + 1) 32 (cbs (List.replicate 32 0)).toArray (0, 0) _ rfl H2.out.2.1 Tryz.underlying32 rfl info32b) rfl ?_
    exact ⟨rfl, H2.out.2.2⟩

end Go.Proofs.YtihmddpafbackaaGreat

namespace Go.Proofs.YtihmddpafbackaaGreat
open Go.RowKit Go.Maps
set_option linter.unusedVariables false
set_option linter.unusedSimpArgs false

abbrev Bs3 := List (List UInt8) × Bool × Nat
def DuoW (w wr : World) (ga gr : Nat) (s : Bs3) (L : List (List UInt8)) (k : Nat) (ds : List (Nat × List Value)) : Prop :=
  ∃ (Sa Sr : Nat → Prop) (v : Value), (∀ i, Sa i → w.heap.size ≤ i) ∧ (∀ i, Sr i → w.heap.size ≤ i) ∧ (∀ i, Sa i → ¬ Sr i) ∧ BookAt wr Sa ga s.1 s.2.1 s.2.2 ∧ RefBk wr Sr gr v L k ∧ Below w.heap.size w wr ∧
    ∀ d ∈ ds, Blk wr d.1 32 d.2 ∧ ¬ Sa d.1 ∧ ¬ Sr d.1
section
variable {w wr w' : World} {ga gr k : Nat} {s : Bs3} {L : List (List UInt8)} {ds : List (Nat × List Value)}
theorem DuoW.bel (h : DuoW w wr ga gr s L k ds) : Below w.heap.size w wr := by obtain ⟨_, _, _, _, _, _, _, _, h, _⟩ := h; exact h
theorem DuoW.dig (h : DuoW w wr ga gr s L k ds) {d : Nat × List Value} (hd : d ∈ ds) : Blk wr d.1 32 d.2 := by obtain ⟨_, _, _, _, _, _, _, _, _, h⟩ := h; exact (h d hd).1
theorem DuoW.below (h : DuoW w wr ga gr s L k ds) (hb : Below wr.heap.size wr w') : DuoW w w' ga gr s L k ds := by
  obtain ⟨Sa, Sr, v, h1, h2, h3, h4, h5, h6, h7⟩ := h
  exact ⟨Sa, Sr, v, h1, h2, h3, h4.below hb, h5.below hb, h6.trans (hb.mono h6.size), fun d hd => ⟨(h7 d hd).1.below hb (h7 d hd).1.lt, (h7 d hd).2⟩⟩
theorem DuoW.newD (h : DuoW w wr ga gr s L k ds) (hb : Below wr.heap.size wr w') {D : List Value} (hD : Blk w' wr.heap.size 32 D) : DuoW w w' ga gr s L k ((wr.heap.size, D) :: ds) := by
  obtain ⟨Sa, Sr, v, h1, h2, h3, h4, h5, h6, h7⟩ := h
  refine ⟨Sa, Sr, v, h1, h2, h3, h4.below hb, h5.below hb, h6.trans (hb.mono h6.size), fun d hd => ?_⟩
  rcases List.mem_cons.1 hd with rfl | hd
  · exact ⟨hD, fun e => by have := h4.lt e; simp at this, fun e => by have := h5.lt _ e; simp at this⟩
  · exact ⟨(h7 d hd).1.below hb (h7 d hd).1.lt, (h7 d hd).2⟩
theorem duo_a (h : DuoW w wr ga gr s L k ds) {r : List UInt8 × Nat} {f : FuncId} {vs : Array Value} {E : Ending → Prop} (hc : ∀ S, BookAt wr S ga s.1 s.2.1 s.2.2 → Calls Tryz.prog f vs wr fun e w' => E e ∧ DgPost wr S ga s r w') :
    Calls Tryz.prog f vs wr fun e w' => E e ∧ DuoW w w' ga gr (dgS s r) L k ds := by
  obtain ⟨Sa, Sr, v, h1, h2, h3, h4, h5, h6, h7⟩ := h
  refine (hc Sa h4).mono ?_
  rintro e w' ⟨he, k1, k2⟩
  refine ⟨he, Grown Sa wr w', Sr, v, fun i hi => ?_, h2, fun i hi => ?_, k1, h5.stay k2.size fun i hi => k2.block i (h5.lt i hi) fun e => h3 i e hi, h6.trans (k2.above h1 h6.size), fun d hd => ⟨k2.blk (h7 d hd).1 (h7 d hd).2.1, fun e => ?_, (h7 d hd).2.2⟩⟩
  · rcases hi with hi | hi
    · exact h1 i hi
    · exact Nat.le_trans h6.size hi.1
  · rcases hi with hi | hi
    · exact h3 i hi
    · exact fun e => by have := h5.lt i e; omega
  · rcases e with e | e
    · exact (h7 d hd).2.1 e
    · have := (h7 d hd).1.lt; omega
theorem duo_r (h : DuoW w wr ga gr s L k ds) {r : List UInt8 × Nat} {f : FuncId} {vs : Array Value} {E : Ending → Prop} (hc : ∀ S v, RefBk wr S gr v L k → Calls Tryz.prog f vs wr fun e w' => E e ∧ RdPost wr S gr L k r w') :
    Calls Tryz.prog f vs wr fun e w' => E e ∧ DuoW w w' ga gr s (rdS L k r).1 (rdS L k r).2 ds := by
  obtain ⟨Sa, Sr, v, h1, h2, h3, h4, h5, h6, h7⟩ := h
  refine (hc Sr v h5).mono ?_
  rintro e w' ⟨he, v', k1, k2⟩
  refine ⟨he, Sa, Grown Sr wr w', v', h1, fun i hi => ?_, fun i hi e => ?_, h4.stay k2.size fun i hi => k2.block i (h4.lt hi) fun e => h3 i hi e, k1, h6.trans (k2.above h2 h6.size), fun d hd => ⟨k2.blk (h7 d hd).1 (h7 d hd).2.2, (h7 d hd).2.1, fun e => ?_⟩⟩
  · rcases hi with hi | hi
    · exact h2 i hi
    · exact Nat.le_trans h6.size hi.1
  · rcases e with e | e
    · exact h3 i hi e
    · have := h4.lt hi; omega
  · rcases e with e | e
    · exact (h7 d hd).2.2 e
    · have := (h7 d hd).1.lt; omega
theorem duo_new {w1 w2 : World} {S : Nat → Prop} (hS : ∀ i, S i → w.heap.size ≤ i) (h : BookAt w1 S ga [] false 0) (hb : Below w.heap.size w w1) (hg : gr = w1.heap.size) (hR : RefBk w2 (fun i => i = gr) gr nilS [] 0) (hb2 : Below w1.heap.size w1 w2) : DuoW w w2 ga gr (runL []) [] 0 [] :=
  ⟨S, _, nilS, hS, fun i hi => by rw [hi, hg]; exact hb.size, fun i hi e => by have := h.lt hi; omega, h.below hb2, hR, hb.trans (hb2.mono hb.size), fun d hd => by cases hd⟩
theorem duo_len (h : DuoW w wr ga gr s L k ds) : Calls Tryz.prog 13 #[.pointer (some ⟨ga, 0, none⟩)] wr fun e w' => e = .returned (.int .i64 (s.1.length : Int)) ∧ w' = wr := by
  obtain ⟨_, _, _, _, _, _, h, _⟩ := h
  obtain ⟨m, hb⟩ := h.blk
  exact blen_any ga m _ _ _ wr hb
theorem duo_asked (h : DuoW w wr ga gr s L k ds) (hk : s.2.2 < 1000000000) : Calls Tryz.prog 15 #[.pointer (some ⟨ga, 0, none⟩)] wr fun e w' => e = .returned (.int .i64 (s.2.2 : Int)) ∧ w' = wr := by
  obtain ⟨S, _, _, _, _, _, h, _⟩ := h
  exact basked_any S ga _ _ _ wr h hk
theorem duo_rlen (h : DuoW w wr ga gr s L k ds) : Calls Tryz.prog 14 #[.pointer (some ⟨gr, 0, none⟩)] wr fun e w' => e = .returned (.int .i64 (L.length : Int)) ∧ w' = wr := by
  obtain ⟨_, _, _, _, _, _, _, h, _⟩ := h
  exact rblen_any h
theorem duo_rasked (h : DuoW w wr ga gr s L k ds) : Calls Tryz.prog 16 #[.pointer (some ⟨gr, 0, none⟩)] wr fun e w' => e = .returned (.int .i64 (k : Int)) ∧ w' = wr := by
  obtain ⟨_, _, _, _, _, _, _, h, _⟩ := h
  exact rbasked_any h
end
theorem load_mid_g {P : Program} {ops : Array Oper} {rest : List Oper} {o : Oper} {a : Act} {w : World} {Q : Exit → Act → World → Prop} (hw : Region.wanted o (yielded ops a.tmps) = true) (ty : TypeId) (x : Operand) (ho : o.op = .load ty x)
    (b k : Nat) (hx : a.eval x = .pointer (some ⟨b, k, none⟩)) (cs : List Value) (d : TypeDesc) (hc : w.rangeAt b k cs)
    (hu : P.underlying ty = some d) (hd : d.isRow = true) (hi : (P.info? ty).map (·.size) = some cs.length)
    (h : wpList P ops Q rest (a.put o.dst (.agg cs.toArray)) w) : wpList P ops Q (o :: rest) a w :=
  wpList_step fun K hK => by rw [if_pos hw]; exact wp_load_mid ty x ho b k hx cs d hc hu hd hi (hK _ _ h)
theorem eq_selfD (D : List Value) (l : List UInt8) (h : cbs l = D) (hl : l.length = 32) (w : World) : (Op.equalIn 10000 32 (.agg D.toArray) (.agg D.toArray)).run Tryz.prog w = .ok true w := by
  subst h
  have := eq_digests w l l hl hl
  rw [this]; simp
end Go.Proofs.YtihmddpafbackaaGreat
