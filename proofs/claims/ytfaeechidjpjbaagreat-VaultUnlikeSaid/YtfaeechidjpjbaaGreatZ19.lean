/-
  Laid together for a hand-in: OfA9, Rt16, Rule5, Rule6.
-/
import Derived.Test.YtfaeechidjpjbaaGreatZ18
import Derived.Test.YtfaeechidjpjbaaGreatZ13
import Derived.Test.YtfaeechidjpjbaaGreatZ14
import Derived.Test.YtfaeechidjpjbaaGreatZ12

namespace Go.Proofs.YtfaeechidjpjbaaGreat

open Go.RowKit Go.Maps

set_option linter.unusedVariables false

set_option maxRecDepth 100000 in
set_option maxHeartbeats 1600000 in
theorem tof_any (B g bm : Nat) (s : Bk) (N : Nat → Prop) (w : World) (hk : Kb B w g bm s N) (hB : B ≤ w.heap.size) (hL : s.1.length + 20000 < 1000000) (hs : s.2.2 + 20000 < 1000000) (K : Nat → Prop) (A : Option Addr) (n c : Nat) (ls : List (List UInt8)) (hn : ls.length = n) (h1 : 1 ≤ n) (h2 : n ≤ 1024)
    (hls : ∀ x ∈ ls, x.length ≤ 65535) (hl : LvsAt w K A ls) (hK : ∀ j, K j → j < w.heap.size ∧ (j < B ∨ N j)) :
    Calls Tryz.prog 66 #[.pointer (some ⟨g, 0, none⟩), .slice A n c] w fun e w' =>
      e = .returned (.tuple #[.agg (cbs (rootD (lows ls))).toArray, .int .i64 0]) ∧ Kb B w' g bm (noteAll s (insTo ls (dep n - 1))) N ∧ Out (Tn B bm w N) w w' := by
  have hb1 : (1 : Int) ≤ (n : Int) := by omega
  have hb2 : (n : Int) ≤ 1024 := by omega
  obtain ⟨w1, hw1⟩ : ∃ w1, (w.alloc (.cells #[.slice A n c] 23)).alloc (.cells (cbs (List.replicate 32 0)).toArray 59) = w1 := ⟨_, rfl⟩
  have hbA : Below w.heap.size w w1 := by rw [← hw1]; exact ((Below.refl _ _).alloc (Nat.le_refl _) _).alloc (by simp) _
  have hz1 : w1.heap.size = w.heap.size + 2 := by rw [← hw1]; simp
  have hX : Blk w1 w.heap.size 23 [.slice A n c] := by rw [← hw1]; exact (Blk.new rfl rfl).old _
  have hZ : Blk w1 (w.heap.size + 1) 59 (cbs (List.replicate 32 0)) := by rw [← hw1]; exact Blk.new rfl (by simp)
  have hst : Stays K w w1 := ⟨hbA.size, fun j hj => hbA.block j (hK j hj).1⟩
  have hl1 := hl.stays hst
  have Hc : Hid (Calls Tryz.prog 71 #[.slice A n c, .func (.func 92) #[] #[]] ((w.alloc (.cells #[.slice A n c] 23)).alloc (.cells (cbs (List.replicate 32 0)).toArray 59)) fun e w' => e = .returned (.bool false) ∧ w' = ((w.alloc (.cells #[.slice A n c] 23)).alloc (.cells (cbs (List.replicate 32 0)).toArray 59))) := by
    rw [hw1]; exact Lib.hid (contains_none (c := c) hl1 hn h2 hls)
  have Hp : Hid (Calls Tryz.prog 94 #[.pointer (some ⟨g, 0, none⟩), .int .i64 (n : Int), .func (.func 95) #[] #[.pointer (some ⟨w.heap.size, 0, none⟩)]] ((w.alloc (.cells #[.slice A n c] 23)).alloc (.cells (cbs (List.replicate 32 0)).toArray 59)) (PileP g n (.func (.func 95) #[] #[.pointer (some ⟨w.heap.size, 0, none⟩)]) w1)) := by
    rw [hw1]; exact Lib.hid (pile_any g n 95 #[.pointer (some ⟨w.heap.size, 0, none⟩)] w1 h1 h2)
  obtain ⟨D, hD⟩ : ∃ D, cbs (rootD (lows ls)) = D := ⟨_, rfl⟩
  have hrl : (rootD (lows ls)).length = 32 := root_len (by rw [lows_len]; omega) (all32_lows _)
  have hD32 : D.length = 32 := by rw [← hD, cbs_length, hrl]
  have hD1 : D.toArray.all (·.oneCell') = true := by rw [← hD]; exact cbs_one' _
  have hnot : ∀ (x : Bool) (w : World), (Op.unary .not (.bool x)).run Tryz.prog w = .ok (.bool (!x)) w := fun _ _ => rfl
  have hx0 : w1.cell? ⟨w.heap.size, 0, none⟩ = some (.slice A n c) := hX.cell rfl
  have H := Lib.hid (And.intro hk (And.intro hB (And.intro hL (And.intro hs (And.intro hn (And.intro hls (And.intro hl1 (And.intro hK (And.intro hbA (And.intro hz1 (And.intro hX (And.intro hZ (And.intro hD (And.intro hD32 hD1))))))))))))))
  rw [hD]
  have Hw1 := Lib.hid hw1
  clear hk hB hL hs hn hls hl hl1 hK hbA hz1 hX hZ hst hD hD32 hD1 hrl
  go_enter Tryz.func66, Tryz.ntmps66
  go_wp2_with (first | (go_at_call 91; refine (isCount_yes _ _ hb1 hb2).mono ?_; rintro e wx ⟨rfl, rfl⟩) | (go_at_call 71; refine Hc.out.mono ?_; rintro e wx ⟨rfl, rfl⟩))
  refine Hp.out.mono ?_
  rintro e w2 ⟨L, lv, c2, rfl, hP, hdc, hcm⟩
  obtain ⟨hk, hB, hL, hs, hn, hls, hl1, hK, hbA, hz1, hX, hZ, hD, hD32, hD1⟩ := H.out
  have hd1 := dep_pos n
  have hd6 := dep_le h2
  obtain ⟨d, hd⟩ : ∃ d, dep n = d := ⟨_, rfl⟩
  rw [hd] at hP hdc hd1 hd6
  have hk1 : Kb B w1 g bm s (fun i => N i ∨ (w.heap.size ≤ i ∧ i < w1.heap.size)) := hk.belowN hbA fun i hi => hi
  have hb2' := hP.bel
  have hpre := pile_pre (ls := ls) (N2 := fun i => (N i ∨ (w.heap.size ≤ i ∧ i < w1.heap.size)) ∨ (w1.heap.size ≤ i ∧ i < w2.heap.size)) hn.symm hP hk1 (Nat.le_trans hB hbA.size) (fun i => Iff.rfl)
  have hKw : ∀ j, (K j ∨ j = w.heap.size) → j < w1.heap.size := fun j hj => by
    rcases hj with hj | rfl
    · have := (hK j hj).1; omega
    · omega
  have hst2 : Stays (fun j => K j ∨ j = w.heap.size) w1 w2 := ⟨hb2'.size, fun j hj => hb2'.block j (hKw j hj)⟩
  have hlf : Lf B 95 [.pointer (some ⟨w.heap.size, 0, none⟩)] ls L (d - 1) (fun j => K j ∨ j = w.heap.size) w2 (fun i => (N i ∨ (w.heap.size ≤ i ∧ i < w1.heap.size)) ∨ (w1.heap.size ≤ i ∧ i < w2.heap.size)) :=
    ⟨(ofLeaf_at hX (hl1.more fun j hj => .inl hj) hn h2 (.inr rfl)).later hst2, fun j hj => ⟨Nat.lt_of_lt_of_le (hKw j hj) hb2'.size, by
      rcases hj with hj | rfl
      · rcases (hK j hj).2 with h | h
        · exact .inl h
        · exact .inr (.inl (.inl h))
      · exact .inr (.inl (.inr ⟨Nat.le_refl _, by omega⟩)), fun i hi ht => by
      have := (hP.inn i hi _ (Lv.turn_has ht)).1
      have := hKw j hj
      omega⟩⟩
  have hIH := ask_all B g bm s ls 95 [.pointer (some ⟨w.heap.size, 0, none⟩)] _ L (fun j => K j ∨ j = w.heap.size) hL hs (by omega) (by omega) (ask0O B g bm s ls L w.heap.size (fun j => K j ∨ j = w.heap.size) hL hs hls (by omega) (by omega)) (d - 1) (by omega)
  have hrow := hP.row
  have hd' : d - 1 + 1 = d := by omega
  rw [hd'] at hrow
  have hck := range_cell hrow (i := d - 1) (by omega)
  have hede : dep ls.length = d := by rw [hn, hd]
  have hfirst := rootOf_first B g bm 95 s ls [.pointer (some ⟨w.heap.size, 0, none⟩)] _ L (fun j => K j ∨ j = w.heap.size) w2 _ lv c2 (by omega) (by omega) (by rw [hede]; exact hIH) (by rw [hede]; exact hpre) (by rw [hede]; exact hlf) (by rw [hede]; exact hck) (by rw [hede]; exact hdc)
  rw [hede, hD] at hfirst
  have Hf := Lib.hid hfirst
  have H2 := Lib.hid (And.intro hP (And.intro hb2' hd))
  rw [hd]
  clear hk hB hL hs hn hls hl1 hK hbA hz1 hX hZ hD hP hk1 hb2' hpre hKw hst2 hlf hIH hrow hd' hck hede hfirst hdc hcm hd1 hd6 hd hx0 hD32 hD1
  go_wp2_with fail
  refine Hf.out.mono ?_
  rintro e w3 ⟨R, rfl, hPo⟩
  obtain ⟨hk, hB, hL, hs, hn, hls, hl1, hK, hbA, hz1, hX, hZ, hD, hD32, hD1⟩ := H.out
  obtain ⟨hP, hb2', hd⟩ := H2.out
  have hTT : ∀ j, TT L (d - 1) j → w1.heap.size ≤ j := fun j ⟨i, hi, ht⟩ => (hP.inn i hi _ (Lv.turn_has ht)).1
  have hZ3 : Blk w3 (w.heap.size + 1) 59 (cbs (List.replicate 32 0)) := hPo.out.blk (hZ.below hb2' (by omega)) fun e => by
    rcases e with e | e
    · exact e.2.1 (.inl (.inr ⟨by omega, by omega⟩))
    · have := hTT _ e; omega
  have hsD : D.toArray.size = 32 := by rw [List.size_toArray]; exact hD32
  have hth : w3.there (w.heap.size + 1) 0 D.toArray.size := by
    have e := hZ3.there
    rw [cbs_length, List.length_replicate] at e
    rw [hsD]; exact e
  have hi : (Tryz.prog.info? 59).map (·.size) = some D.toArray.size := by rw [hsD]; exact info32b
  have hR := hZ3.setAll (vs := D) (by rw [hD32, cbs_length, List.length_replicate])
  have hKf : Kb B (w3.setCells (w.heap.size + 1) 0 D) g bm (noteAll s (insTo ls (d - 1))) N := (Kb.store hPo.kb (.inl (.inl (.inr ⟨by omega, by omega⟩))) 0 D).less fun i hi => .inl (.inl (.inl hi))
  have hOf : Out (Tn B bm w N) w (w3.setCells (w.heap.size + 1) 0 D) := by
    refine Out.store ?_ (by omega) 0 D
    have hb02 := hbA.trans (hb2'.mono hbA.size)
    refine (Out.ofBelow (Tn B bm w N) hb02).trans hPo.out fun i hi hs => ?_
    rcases hs with hs | hs
    · refine ⟨hs.1, fun e => hs.2.1 (.inl (.inl e)), ?_⟩
      rcases hs.2.2 with e | ⟨cs, t, fr, hc'⟩
      · exact .inl e
      · exact .inr ⟨cs, t, fr, (hb02.block i hi).symm.trans hc'⟩
    · have := hTT i hs; omega
  have Hth := Lib.hid (And.intro hth (And.intro hi (And.intro hD1 (And.intro hR (And.intro hKf hOf)))))
  clear hk hB hL hs hn hls hl1 hK hbA hz1 hX hZ hD hD32 hD1 hP hb2' hd hTT hZ3 hsD hth hi hR hKf hOf hPo
  go_wp2_with (refine wpList_store_mid rfl 59 _ _ rfl (w.heap.size + 1) 0 D.toArray rfl rfl Hth.out.1 Hth.out.2.1 Hth.out.2.2.1 ?_)
  refine bodyPost_ret (results_row_tmp3 rfl _ _ (w.heap.size + 1) 59 D.toArray (0, 0) _ rfl Hth.out.2.2.2.1 Tryz.underlying59 rfl Hth.out.2.1) rfl ?_
  exact ⟨rfl, by rw [H2.out.2.2]; exact Hth.out.2.2.2.2.1, Hth.out.2.2.2.2.2⟩

end Go.Proofs.YtfaeechidjpjbaaGreat

namespace Go.Proofs.YtfaeechidjpjbaaGreat
open Go.RowKit Go.Maps
set_option linter.unusedVariables false
set_option linter.unusedSimpArgs false
def leavesL (v : Va) : List (List UInt8) := (List.range 13).map (leafB v)
theorem leavesL_len (v : Va) : (leavesL v).length = 13 := by simp [leavesL]
theorem leafB_max {v : Va} (h : v.ok) {j : Nat} (hj : j < 13) : (leafB v j).length ≤ 65535 := by
  unfold leafB
  split
  · rename_i h8; rw [h.bl j h8]; omega
  · split
    · have h1 := ibs_max [(v.cl (j - 8)).st]
      have h2 := (h.cl (j - 8) (by omega)).1
      have h3 := (sb_len (l := (v.cl (j - 8)).da) (by omega)).2
      unfold clB
      rw [List.length_append]
      simp at h1
      omega
    · have h1 := ibs_max [v.gr, v.ep, (v.sea.length : Int)]
      have h2 := ibs_max v.sea
      have h3 : v.sea.length ≤ 7 := by
        rcases h.sea with e | ⟨e, _⟩
        · rw [e]; simp
        · omega
      unfold epB
      rw [List.length_append]
      simp at h1
      omega
theorem LfS.lvs {w : World} {base : Nat} {v : Va} {u : Value} {vs : List Value} (h : LfS w base v 13 u vs) (hok : v.ok) : ∃ A c, u = .slice A 13 c ∧ LvsAt w (fun j => base ≤ j ∧ j < w.heap.size) A (leavesL v) := by
  obtain ⟨h1, ⟨h2, h3⟩ | ⟨g, cap, cur, h3, h4, h5, h6⟩⟩ := h.own
  · have := h.len; omega
  · rw [h.len] at h3
    refine ⟨_, _, h3, g, 0, rfl, ⟨h4, (Array.getElem?_eq_some_iff.1 h5).1⟩, fun j hj => ?_⟩
    have hj13 : j < 13 := by rw [leavesL_len] at hj; exact hj
    obtain ⟨x, e1, e2⟩ := h.at_ j hj13
    obtain ⟨A, c, rfl, k1, k2, k3⟩ := e2.form
    simp only [leavesL, List.getElem_map, List.getElem_range]
    have hown : w.ownsRow base 22 1 (.slice (some ⟨g, 0, none⟩) 13 cap) 13 vs := by have := h.own; unfold OwnS at this; rw [h.len, h3] at this; exact this
    have hcell := Shows.ofOwn hown
    obtain ⟨b, off, eA, _, hc⟩ := hcell.2 (by omega)
    injection eA with eA
    injection eA with eb eo
    subst eb
    subst eo
    refine ⟨A, c, hc j _ e1, k1, k2, k3, fun a ha hne => ?_⟩
    exact ⟨mine_own e2 ⟨_, _, _, rfl, a, ha, rfl⟩, mine_lt e2 ⟨_, _, _, rfl, a, ha, rfl⟩⟩
end Go.Proofs.YtfaeechidjpjbaaGreat

namespace Go.Proofs.YtfaeechidjpjbaaGreat

open Go.RowKit Go.Maps

set_option linter.unusedVariables false

section

variable {P : Program} {ops : Array Oper} {Q : Exit → Act → World → Prop} {md : Region.Mode}

theorem any_rule5 (d : Nat → Nat) (R : Nat → Value → World → Prop) (I : World → Prop) (a0 : Act)
    (hd : ∀ i o, ops[i]? = some o → (o.dst = some (d i) ∨ o.dst = none) ∧ d i < a0.tmps.size)
    (hinj : ∀ i j oi oj, ops[i]? = some oi → ops[j]? = some oj → j ≠ i → d i = d j → oi.dst = some (d i) → ∃ e ∈ oj.after, Region.binds md e = true ∧ e.on = i)
    (hback : ∀ i o, ops[i]? = some o → ∀ e ∈ o.after, Region.binds md e = true → e.on < i)
    (hstep : ∀ i o, ops[i]? = some o → ∀ a w, Base d ops.size a0 a → I w → (∀ e ∈ o.after, Region.binds md e = true → Has d R e.on a w) →
      ∀ K : Act → World → Prop, (∀ v w', I w' → (o.dst = some (d i) → R i v w') → (o.dst = none → ∃ u, a.tmps[d i]? = some u ∧ R i u w') → (∀ j u, j ≠ i → R j u w → R j u w') → K (a.put o.dst v) w') → wpOp P ops Q i K a w)
    (hend : ∀ a w, Base d ops.size a0 a → I w → (∀ i, i < ops.size → Has d R i a w) → Q .normal a w) :
    ∀ fuel listed a w, listed.size = ops.size → Base d ops.size a0 a → I w → (∀ i, i < ops.size → listed.getD i false = true → Has d R i a w) →
      (∀ i o, ops[i]? = some o → listed.getD i false = true → ∀ e ∈ o.after, Region.binds md e = true → listed.getD e.on false = true) →
      (List.range ops.size).countP (fun i => !listed.getD i true) ≤ fuel → wpAny P md ops Q fuel listed a w := by
  intro fuel
  induction fuel with
  | zero =>
    intro listed a w hs hb hw hl hcl hc
    have hnone : Region.ready md ops listed = [] := by
      cases hr : Region.ready md ops listed with
      | nil => rfl
      | cons x xs =>
        exfalso
        obtain ⟨o, _, hx, hx2, _⟩ := ready_mem (md := md) (ops := ops) (listed := listed) (i := x) (by rw [hr]; exact List.mem_cons_self)
        have hp : 0 < (List.range ops.size).countP (fun i => !listed.getD i true) := List.countP_pos_iff.2 ⟨x, List.mem_range.2 hx, by rw [hx2]; rfl⟩
        omega
    exact ⟨hnone, hend a w hb hw fun i hi => hl i hi (ready_nil hs hback hnone i hi)⟩
  | succ fuel ih =>
    intro listed a w hs hb hw hl hcl hc
    refine ⟨fun hr => hend a w hb hw fun i hi => hl i hi (ready_nil hs hback hr i hi), fun i hi => ?_⟩
    obtain ⟨o, ho, hi1, hi2, hi3⟩ := ready_mem hi
    have hi2' : listed.getD i false = false := by
      rw [Array.getD_eq_getD_getElem?] at hi2 ⊢
      have : i < listed.size := by omega
      simp [this] at hi2 ⊢
      exact hi2
    have hon : ∀ e ∈ o.after, Region.binds md e = true → Has d R e.on a w := fun e he hbd => hl e.on (by have := hback i o ho e he hbd; omega) (hi3 e he hbd)
    refine hstep i o ho a w hb hw hon _ fun v w' hI hsome hnone hkeep => ?_
    obtain ⟨hdd, hdi⟩ := hd i o ho
    have hold : ∀ j, j ≠ i → (listed.setIfInBounds i true).getD j false = true → listed.getD j false = true := fun j e h => by
      have : (listed.setIfInBounds i true)[j]? = listed[j]? := Array.getElem?_setIfInBounds_ne (fun h => e h.symm)
      rw [Array.getD_eq_getD_getElem?] at h ⊢
      rwa [this] at h
    have hnew : ∀ j, listed.getD j false = true → (listed.setIfInBounds i true).getD j false = true := fun j h => by
      by_cases e : j = i
      · subst e; rw [hi2'] at h; cases h
      · have : (listed.setIfInBounds i true)[j]? = listed[j]? := Array.getElem?_setIfInBounds_ne (fun h => e h.symm)
        rw [Array.getD_eq_getD_getElem?] at h ⊢
        rwa [this]
    refine ih (listed.setIfInBounds i true) (a.put o.dst v) w' (by simpa using hs) ⟨?_, ?_, ?_⟩ hI ?_ ?_ ?_
    · rcases hdd with e | e
      · rw [e]; simpa [Act.put] using hb.1
      · rw [e]; exact hb.1
    · rcases hdd with e | e <;> rw [e] <;> exact hb.2.1
    · intro s hsn
      rcases hdd with e | e
      · rw [e]
        show (a.tmps.setIfInBounds (d i) v)[s]? = _
        rw [Array.getElem?_setIfInBounds_ne (hsn i hi1)]
        exact hb.2.2 s hsn
      · rw [e]; exact hb.2.2 s hsn
    · intro j hj hjl
      by_cases e : j = i
      · subst e
        rcases hdd with e | e
        · rw [e]
          exact ⟨v, by show (a.tmps.setIfInBounds (d j) v)[d j]? = _; rw [Array.getElem?_setIfInBounds_self_of_lt (by rw [hb.1]; exact hdi)], hsome e⟩
        · obtain ⟨u, hu, hR⟩ := hnone e
          rw [e]
          exact ⟨u, hu, hR⟩
      · have hj2 := hold j e hjl
        obtain ⟨u, hu, hru⟩ := hl j hj hj2
        rcases hdd with e2 | e2
        · rw [e2]
          refine ⟨u, ?_, hkeep j u e hru⟩
          show (a.tmps.setIfInBounds (d i) v)[d j]? = _
          have hne : d i ≠ d j := fun h => by
            obtain ⟨oj, hoj⟩ : ∃ oj, ops[j]? = some oj := ⟨_, Array.getElem?_eq_getElem hj⟩
            obtain ⟨ed, he1, he2, he3⟩ := hinj i j o oj ho hoj e h e2
            have := hcl j oj hoj hj2 ed he1 he2
            rw [he3, hi2'] at this
            cases this
          rw [Array.getElem?_setIfInBounds_ne hne]
          exact hu
        · rw [e2]
          exact ⟨u, hu, hkeep j u e hru⟩
    · intro j oj hoj hjl ed he hbd
      by_cases e : j = i
      · subst e
        rw [ho] at hoj
        cases hoj
        exact hnew _ (hi3 ed he hbd)
      · exact hnew _ (hcl j oj hoj (hold j e hjl) ed he hbd)
    · have hlt : (List.range ops.size).countP (fun k => !(listed.setIfInBounds i true).getD k true) < (List.range ops.size).countP (fun k => !listed.getD k true) := by
        refine countP_lt _ (fun k hk hq => ?_) ⟨i, List.mem_range.2 hi1, by rw [hi2]; rfl, ?_⟩
        · by_cases e : k = i
          · subst e
            rw [Array.getD_eq_getD_getElem?, Array.getElem?_setIfInBounds_self_of_lt (by omega)] at hq
            simp at hq
          · have : (listed.setIfInBounds i true)[k]? = listed[k]? := Array.getElem?_setIfInBounds_ne (fun h => e h.symm)
            rw [Array.getD_eq_getD_getElem?] at hq ⊢
            rwa [this] at hq
        · rw [Array.getD_eq_getD_getElem?, Array.getElem?_setIfInBounds_self_of_lt (by omega)]
          rfl
      omega

/-- From the beginning, what is asked of the table by computing; no guards. -/
theorem region_rule5 {id : Nat} (n N : Nat) (d : Nat → Nat) (R : Nat → Value → World → Prop) (I : World → Prop) (a0 : Act) (w0 : World) (hm : P.follows .mixedOrders = true) (hn : ops.size = n) (hN : a0.tmps.size = N)
    (ht : ((List.range n).all fun i => ((ops[i]?).map fun o => (o.dst == some (d i) || o.dst == none) && decide (d i < N) && o.guard.isNone && o.after.all fun e => !Region.binds .any e || decide (e.on < i)).getD false) = true)
    (hinj : ((List.range n).all fun i => (List.range n).all fun j => !(d i == d j) || (i == j) || (((ops[i]?).map fun o => o.dst == none).getD false) || (((ops[j]?).map fun o => o.after.any fun e => Region.binds .any e && (e.on == i)).getD false)) = true)
    (hI0 : I w0.drew)
    (hstep : ∀ i o, i < n → ops[i]? = some o → o.guard = none → (o.dst = some (d i) ∨ o.dst = none) → ∀ a w, Base d n a0 a → I w →
      (∀ j, (o.after.any fun e => Region.binds .any e && (e.on == j)) = true → Has d R j a w) →
      ∀ K : Act → World → Prop, (∀ v w', I w' → (o.dst = some (d i) → R i v w') → (o.dst = none → ∃ u, a.tmps[d i]? = some u ∧ R i u w') → (∀ j u, j ≠ i → R j u w → R j u w') → K (a.put o.dst v) w') → wpOp P ops Q i K a w)
    (hend : ∀ a w, Base d n a0 a → I w → (∀ i, i < n → Has d R i a w) → Q .normal a w) : (Code.region id ops true).wp P Q a0 w0 := by
  subst hn
  subst hN
  have hlt : ∀ i o, ops[i]? = some o → i < ops.size := fun i o h => by
    rcases Nat.lt_or_ge i ops.size with hl | hl
    · exact hl
    · rw [Array.getElem?_eq_none hl] at h; cases h
  have key : ∀ i o, ops[i]? = some o → (o.dst = some (d i) ∨ o.dst = none) ∧ d i < a0.tmps.size ∧ o.guard = none ∧ ∀ e ∈ o.after, Region.binds .any e = true → e.on < i := by
    intro i o ho
    have h := List.all_eq_true.1 ht i (List.mem_range.2 (hlt i o ho))
    rw [ho] at h
    simp only [Option.map_some, Option.getD_some, Bool.and_eq_true, Bool.or_eq_true, beq_iff_eq, decide_eq_true_eq, Option.isNone_iff_eq_none] at h
    obtain ⟨⟨⟨h1, h2⟩, h3⟩, h4⟩ := h
    refine ⟨h1, h2, h3, fun e he hb => ?_⟩
    have := Array.all_eq_true_iff_forall_mem.1 h4 e he
    rw [hb] at this
    simpa using this
  refine wp_region_any hm (any_rule5 (P := P) (md := .any) d R I a0 (fun i o ho => ⟨(key i o ho).1, (key i o ho).2.1⟩) (fun i j oi oj hoi hoj hne e hdst => ?_) (fun i o ho => (key i o ho).2.2.2) (fun i o ho a w hb hI hdep K hK => ?_) hend ops.size _ a0 _ (by simp) ⟨rfl, rfl, fun _ _ => rfl⟩ hI0 ?_ ?_ ?_)
  · have h := List.all_eq_true.1 (List.all_eq_true.1 hinj i (List.mem_range.2 (hlt i oi hoi))) j (List.mem_range.2 (hlt j oj hoj))
    rw [hoi, hoj, e] at h
    simp only [beq_self_eq_true, Bool.not_true, Bool.false_or, Option.map_some, Option.getD_some, Bool.or_eq_true, beq_iff_eq] at h
    rcases h with (h | h) | h
    · exact absurd h.symm hne
    · rw [h] at hdst; cases hdst
    · rw [Array.any_eq_true] at h
      obtain ⟨k, hk, h2⟩ := h
      simp only [Bool.and_eq_true, beq_iff_eq] at h2
      exact ⟨_, Array.getElem_mem hk, h2.1, h2.2⟩
  · refine hstep i o (hlt i o ho) ho (key i o ho).2.2.1 (key i o ho).1 a w hb hI (fun j hj => ?_) K hK
    rw [Array.any_eq_true] at hj
    obtain ⟨k, hk, h2⟩ := hj
    simp only [Bool.and_eq_true, beq_iff_eq] at h2
    obtain ⟨h2, h3⟩ := h2
    rw [← h3]
    exact hdep _ (Array.getElem_mem hk) h2
  · intro i hi h
    rw [Array.getD_eq_getD_getElem?] at h
    simp [hi] at h
  · intro i o ho h
    have hi := hlt i o ho
    rw [Array.getD_eq_getD_getElem?] at h
    simp [hi] at h
  · exact Nat.le_trans List.countP_le_length (by simp)

end

end Go.Proofs.YtfaeechidjpjbaaGreat

namespace Go.Proofs.YtfaeechidjpjbaaGreat

open Go.RowKit Go.Maps

set_option linter.unusedVariables false

section

variable {P : Program} {ops : Array Oper} {Q : Exit → Act → World → Prop} {md : Region.Mode}

theorem any_rule6 (d : Nat → Nat) (R : Nat → Value → World → Prop) (I : World → Prop) (a0 : Act) (m : Nat) (kl : Nat → Nat → Bool)
    (hd : ∀ i o, ops[i]? = some o → (o.dst = some (d i) ∨ o.dst = none) ∧ d i < a0.tmps.size)
    (hinj : ∀ i j oi oj, ops[i]? = some oi → ops[j]? = some oj → j ≠ i → d i = d j → oi.dst = some (d i) → ∃ e ∈ oj.after, Region.binds md e = true ∧ e.on = i)
    (hext : ∀ i o x, ops[i]? = some o → ops.size ≤ x → x < ops.size + m → d i ≠ d x)
    (hback : ∀ i o, ops[i]? = some o → ∀ e ∈ o.after, Region.binds md e = true → e.on < i)
    (hstep : ∀ i o, ops[i]? = some o → ∀ a w, Base d ops.size a0 a → I w → (∀ x, ((∃ e ∈ o.after, Region.binds md e = true ∧ e.on = x) ∨ (ops.size ≤ x ∧ x < ops.size + m)) → (∀ j, j < ops.size → kl j x = true → j = i ∨ ∃ oj, ops[j]? = some oj ∧ ∃ e ∈ oj.after, Region.binds md e = true ∧ e.on = i) → Has d R x a w) →
      ∀ K : Act → World → Prop, (∀ v w', I w' → (o.dst = some (d i) → R i v w') → (o.dst = none → ∃ u, a.tmps[d i]? = some u ∧ R i u w') → (∀ j u, j ≠ i → kl i j = false → (∀ oj, ops[j]? = some oj → ∀ e ∈ oj.after, Region.binds md e = true → e.on ≠ i) → R j u w → R j u w') → K (a.put o.dst v) w') → wpOp P ops Q i K a w)
    (hend : ∀ a w, Base d ops.size a0 a → I w → (∀ i, i < ops.size + m → (∀ j, j < ops.size → kl j i = false) → Has d R i a w) → Q .normal a w) :
    ∀ fuel listed a w, listed.size = ops.size → Base d ops.size a0 a → I w → (∀ i, ((i < ops.size ∧ listed.getD i false = true) ∨ (ops.size ≤ i ∧ i < ops.size + m)) → (∀ j, j < ops.size → listed.getD j false = true → kl j i = false) → Has d R i a w) →
      (∀ i o, ops[i]? = some o → listed.getD i false = true → ∀ e ∈ o.after, Region.binds md e = true → listed.getD e.on false = true) →
      (List.range ops.size).countP (fun i => !listed.getD i true) ≤ fuel → wpAny P md ops Q fuel listed a w := by
  intro fuel
  induction fuel with
  | zero =>
    intro listed a w hs hb hw hl hcl hc
    have hnone : Region.ready md ops listed = [] := by
      cases hr : Region.ready md ops listed with
      | nil => rfl
      | cons x xs =>
        exfalso
        obtain ⟨o, _, hx, hx2, _⟩ := ready_mem (md := md) (ops := ops) (listed := listed) (i := x) (by rw [hr]; exact List.mem_cons_self)
        have hp : 0 < (List.range ops.size).countP (fun i => !listed.getD i true) := List.countP_pos_iff.2 ⟨x, List.mem_range.2 hx, by rw [hx2]; rfl⟩
        omega
    exact ⟨hnone, hend a w hb hw fun i hi hk => hl i (by rcases Nat.lt_or_ge i ops.size with h | h; exact .inl ⟨h, ready_nil hs hback hnone i h⟩; exact .inr ⟨h, hi⟩) fun j hj _ => hk j hj⟩
  | succ fuel ih =>
    intro listed a w hs hb hw hl hcl hc
    refine ⟨fun hr => hend a w hb hw fun i hi hk => hl i (by rcases Nat.lt_or_ge i ops.size with h | h; exact .inl ⟨h, ready_nil hs hback hr i h⟩; exact .inr ⟨h, hi⟩) fun j hj _ => hk j hj, fun i hi => ?_⟩
    obtain ⟨o, ho, hi1, hi2, hi3⟩ := ready_mem hi
    have hi2' : listed.getD i false = false := by
      rw [Array.getD_eq_getD_getElem?] at hi2 ⊢
      have : i < listed.size := by omega
      simp [this] at hi2 ⊢
      exact hi2
    have hon : ∀ x, ((∃ e ∈ o.after, Region.binds md e = true ∧ e.on = x) ∨ (ops.size ≤ x ∧ x < ops.size + m)) → (∀ j, j < ops.size → kl j x = true → j = i ∨ ∃ oj, ops[j]? = some oj ∧ ∃ e ∈ oj.after, Region.binds md e = true ∧ e.on = i) → Has d R x a w := fun x hx hk => by
      refine hl x ?_ fun j hj hjl => ?_
      · rcases hx with ⟨e, he, hbd, rfl⟩ | hx
        · exact .inl ⟨by have := hback i o ho e he hbd; omega, hi3 e he hbd⟩
        · exact .inr hx
      · cases hkk : kl j x with
        | false => rfl
        | true =>
          exfalso
          rcases hk j hj hkk with rfl | ⟨oj, hoj, e, he, hbd, rfl⟩
          · rw [hi2'] at hjl; cases hjl
          · have := hcl j oj hoj hjl e he hbd
            rw [hi2'] at this; cases this
    refine hstep i o ho a w hb hw hon _ fun v w' hI hsome hnone hkeep => ?_
    obtain ⟨hdd, hdi⟩ := hd i o ho
    have hold : ∀ j, j ≠ i → (listed.setIfInBounds i true).getD j false = true → listed.getD j false = true := fun j e h => by
      have : (listed.setIfInBounds i true)[j]? = listed[j]? := Array.getElem?_setIfInBounds_ne (fun h => e h.symm)
      rw [Array.getD_eq_getD_getElem?] at h ⊢
      rwa [this] at h
    have hnew : ∀ j, listed.getD j false = true → (listed.setIfInBounds i true).getD j false = true := fun j h => by
      by_cases e : j = i
      · subst e; rw [hi2'] at h; cases h
      · have : (listed.setIfInBounds i true)[j]? = listed[j]? := Array.getElem?_setIfInBounds_ne (fun h => e h.symm)
        rw [Array.getD_eq_getD_getElem?] at h ⊢
        rwa [this]
    refine ih (listed.setIfInBounds i true) (a.put o.dst v) w' (by simpa using hs) ⟨?_, ?_, ?_⟩ hI ?_ ?_ ?_
    · rcases hdd with e | e
      · rw [e]; simpa [Act.put] using hb.1
      · rw [e]; exact hb.1
    · rcases hdd with e | e <;> rw [e] <;> exact hb.2.1
    · intro s hsn
      rcases hdd with e | e
      · rw [e]
        show (a.tmps.setIfInBounds (d i) v)[s]? = _
        rw [Array.getElem?_setIfInBounds_ne (hsn i hi1)]
        exact hb.2.2 s hsn
      · rw [e]; exact hb.2.2 s hsn
    · intro j hj hal
      by_cases e : j = i
      · subst e
        rcases hdd with e | e
        · rw [e]
          exact ⟨v, by show (a.tmps.setIfInBounds (d j) v)[d j]? = _; rw [Array.getElem?_setIfInBounds_self_of_lt (by rw [hb.1]; exact hdi)], hsome e⟩
        · obtain ⟨u, hu, hR⟩ := hnone e
          rw [e]
          exact ⟨u, hu, hR⟩
      · have hki : kl i j = false := hal i hi1 (by
          rw [Array.getD_eq_getD_getElem?, Array.getElem?_setIfInBounds_self_of_lt (by omega)]; rfl)
        have hj2 : (j < ops.size ∧ listed.getD j false = true) ∨ (ops.size ≤ j ∧ j < ops.size + m) := by
          rcases hj with ⟨h1, h2⟩ | h
          · exact .inl ⟨h1, hold j e h2⟩
          · exact .inr h
        obtain ⟨u, hu, hru⟩ := hl j hj2 fun q hq hql => hal q hq (hnew q hql)
        have hnot : ∀ oj, ops[j]? = some oj → ∀ e ∈ oj.after, Region.binds md e = true → e.on ≠ i := fun oj hoj ed he hbd e3 => by
          rcases hj2 with ⟨h1, h2⟩ | ⟨h1, h2⟩
          · have := hcl j oj hoj h2 ed he hbd
            rw [e3, hi2'] at this
            cases this
          · rw [Array.getElem?_eq_none h1] at hoj; cases hoj
        rcases hdd with e2 | e2
        · rw [e2]
          refine ⟨u, ?_, hkeep j u e hki hnot hru⟩
          show (a.tmps.setIfInBounds (d i) v)[d j]? = _
          have hne : d i ≠ d j := fun h => by
            rcases hj2 with ⟨h1, h2⟩ | ⟨h1, h2⟩
            · obtain ⟨oj, hoj⟩ : ∃ oj, ops[j]? = some oj := ⟨_, Array.getElem?_eq_getElem h1⟩
              obtain ⟨ed, he1, he2, he3⟩ := hinj i j o oj ho hoj e h e2
              have := hcl j oj hoj h2 ed he1 he2
              rw [he3, hi2'] at this
              cases this
            · exact hext i o j ho h1 h2 h
          rw [Array.getElem?_setIfInBounds_ne hne]
          exact hu
        · rw [e2]
          exact ⟨u, hu, hkeep j u e hki hnot hru⟩
    · intro j oj hoj hjl ed he hbd
      by_cases e : j = i
      · subst e
        rw [ho] at hoj
        cases hoj
        exact hnew _ (hi3 ed he hbd)
      · exact hnew _ (hcl j oj hoj (hold j e hjl) ed he hbd)
    · have hlt : (List.range ops.size).countP (fun k => !(listed.setIfInBounds i true).getD k true) < (List.range ops.size).countP (fun k => !listed.getD k true) := by
        refine countP_lt _ (fun k hk hq => ?_) ⟨i, List.mem_range.2 hi1, by rw [hi2]; rfl, ?_⟩
        · by_cases e : k = i
          · subst e
            rw [Array.getD_eq_getD_getElem?, Array.getElem?_setIfInBounds_self_of_lt (by omega)] at hq
            simp at hq
          · have : (listed.setIfInBounds i true)[k]? = listed[k]? := Array.getElem?_setIfInBounds_ne (fun h => e h.symm)
            rw [Array.getD_eq_getD_getElem?] at hq ⊢
            rwa [this] at hq
        · rw [Array.getD_eq_getD_getElem?, Array.getElem?_setIfInBounds_self_of_lt (by omega)]
          rfl
      omega

/-- From the beginning, what is asked of the table by computing; no guards. -/
theorem region_rule6 {id : Nat} (n N m : Nat) (kl : Nat → Nat → Bool) (d : Nat → Nat) (R : Nat → Value → World → Prop) (I : World → Prop) (a0 : Act) (w0 : World) (hm : P.follows .mixedOrders = true) (hn : ops.size = n) (hN : a0.tmps.size = N)
    (ht : ((List.range n).all fun i => ((ops[i]?).map fun o => (o.dst == some (d i) || o.dst == none) && decide (d i < N) && o.guard.isNone && o.after.all fun e => !Region.binds .any e || decide (e.on < i)).getD false) = true)
    (hinj : ((List.range n).all fun i => (List.range n).all fun j => !(d i == d j) || (i == j) || (((ops[i]?).map fun o => o.dst == none).getD false) || (((ops[j]?).map fun o => o.after.any fun e => Region.binds .any e && (e.on == i)).getD false)) = true)
    (hext : ((List.range n).all fun i => (List.range m).all fun x => !(d i == d (n + x))) = true)
    (hI0 : I w0.drew) (hE0 : ∀ x, n ≤ x → x < n + m → Has d R x a0 w0.drew)
    (hstep : ∀ i o, i < n → ops[i]? = some o → o.guard = none → (o.dst = some (d i) ∨ o.dst = none) → ∀ a w, Base d n a0 a → I w →
      (∀ j, ((o.after.any fun e => Region.binds .any e && (e.on == j)) || (decide (n ≤ j) && decide (j < n + m))) = true → ((List.range n).all fun q => !(kl q j) || (q == i) || ((ops[q]?).map fun o => o.after.any fun e => Region.binds .any e && (e.on == i)).getD false) = true → Has d R j a w) →
      ∀ K : Act → World → Prop, (∀ v w', I w' → (o.dst = some (d i) → R i v w') → (o.dst = none → ∃ u, a.tmps[d i]? = some u ∧ R i u w') → (∀ j u, j ≠ i → kl i j = false → ((ops[j]?).map fun o => o.after.any fun e => Region.binds .any e && (e.on == i)).getD false = false → R j u w → R j u w') → K (a.put o.dst v) w') → wpOp P ops Q i K a w)
    (hend : ∀ a w, Base d n a0 a → I w → (∀ i, i < n + m → ((List.range n).all fun j => !(kl j i)) = true → Has d R i a w) → Q .normal a w) : (Code.region id ops true).wp P Q a0 w0 := by
  subst hn
  subst hN
  have hlt : ∀ i o, ops[i]? = some o → i < ops.size := fun i o h => by
    rcases Nat.lt_or_ge i ops.size with hl | hl
    · exact hl
    · rw [Array.getElem?_eq_none hl] at h; cases h
  have key : ∀ i o, ops[i]? = some o → (o.dst = some (d i) ∨ o.dst = none) ∧ d i < a0.tmps.size ∧ o.guard = none ∧ ∀ e ∈ o.after, Region.binds .any e = true → e.on < i := by
    intro i o ho
    have h := List.all_eq_true.1 ht i (List.mem_range.2 (hlt i o ho))
    rw [ho] at h
    simp only [Option.map_some, Option.getD_some, Bool.and_eq_true, Bool.or_eq_true, beq_iff_eq, decide_eq_true_eq, Option.isNone_iff_eq_none] at h
    obtain ⟨⟨⟨h1, h2⟩, h3⟩, h4⟩ := h
    refine ⟨h1, h2, h3, fun e he hb => ?_⟩
    have := Array.all_eq_true_iff_forall_mem.1 h4 e he
    rw [hb] at this
    simpa using this
  refine wp_region_any hm (any_rule6 (P := P) (md := .any) d R I a0 m kl (fun i o ho => ⟨(key i o ho).1, (key i o ho).2.1⟩) (fun i j oi oj hoi hoj hne e hdst => ?_) (fun i o x ho h1 h2 => ?_) (fun i o ho => (key i o ho).2.2.2) (fun i o ho a w hb hI hdep K hK => ?_) (fun a w hb hI hall => hend a w hb hI fun i hi hk => hall i hi fun j hj => by have := List.all_eq_true.1 hk j (List.mem_range.2 hj); simpa using this) ops.size _ a0 _ (by simp) ⟨rfl, rfl, fun _ _ => rfl⟩ hI0 ?_ ?_ ?_)
  · have h := List.all_eq_true.1 (List.all_eq_true.1 hinj i (List.mem_range.2 (hlt i oi hoi))) j (List.mem_range.2 (hlt j oj hoj))
    rw [hoi, hoj, e] at h
    simp only [beq_self_eq_true, Bool.not_true, Bool.false_or, Option.map_some, Option.getD_some, Bool.or_eq_true, beq_iff_eq] at h
    rcases h with (h | h) | h
    · exact absurd h.symm hne
    · rw [h] at hdst; cases hdst
    · rw [Array.any_eq_true] at h
      obtain ⟨k, hk, h2⟩ := h
      simp only [Bool.and_eq_true, beq_iff_eq] at h2
      exact ⟨_, Array.getElem_mem hk, h2.1, h2.2⟩
  · have h := List.all_eq_true.1 (List.all_eq_true.1 hext i (List.mem_range.2 (hlt i o ho))) (x - ops.size) (List.mem_range.2 (by omega))
    rw [show ops.size + (x - ops.size) = x by omega] at h
    simpa using h
  · refine hstep i o (hlt i o ho) ho (key i o ho).2.2.1 (key i o ho).1 a w hb hI (fun j hj hk => hdep j ?_ fun q hq hkq => ?_) K (fun v w' h1 h2 h3 h4 => hK v w' h1 h2 h3 fun j u hj hk hnot => h4 j u hj hk ?_)
    · rw [Bool.or_eq_true] at hj
      rcases hj with hj | hj
      · rw [Array.any_eq_true] at hj
        obtain ⟨k, hk, h2⟩ := hj
        simp only [Bool.and_eq_true, beq_iff_eq] at h2
        exact .inl ⟨_, Array.getElem_mem hk, h2.1, h2.2⟩
      · exact .inr (by simpa using hj)
    · have h := List.all_eq_true.1 hk q (List.mem_range.2 hq)
      rw [hkq, Array.getElem?_eq_getElem hq] at h
      simp only [Bool.not_true, Bool.false_or, Option.map_some, Option.getD_some, Bool.or_eq_true, beq_iff_eq] at h
      rcases h with h | h
      · exact .inl h
      · rw [Array.any_eq_true] at h
        obtain ⟨k, hk', h2⟩ := h
        simp only [Bool.and_eq_true, beq_iff_eq] at h2
        exact .inr ⟨_, Array.getElem?_eq_getElem hq, _, Array.getElem_mem hk', h2.1, h2.2⟩
    · cases hoj : ops[j]? with
      | none => rfl
      | some oj =>
        rw [Option.map_some, Option.getD_some]
        cases hx : (oj.after.any fun e => Region.binds .any e && (e.on == i)) with
        | false => rfl
        | true =>
          rw [Array.any_eq_true] at hx
          obtain ⟨k, hk', h5⟩ := hx
          simp only [Bool.and_eq_true, beq_iff_eq] at h5
          exact absurd h5.2 (hnot oj hoj _ (Array.getElem_mem hk') h5.1)
  · intro i hi _
    rcases hi with ⟨hi, h⟩ | ⟨h1, h2⟩
    · rw [Array.getD_eq_getD_getElem?] at h
      simp [hi] at h
    · exact hE0 i h1 h2
  · intro i o ho h
    have hi := hlt i o ho
    rw [Array.getD_eq_getD_getElem?] at h
    simp [hi] at h
  · exact Nat.le_trans List.countP_le_length (by simp)

end

end Go.Proofs.YtfaeechidjpjbaaGreat
