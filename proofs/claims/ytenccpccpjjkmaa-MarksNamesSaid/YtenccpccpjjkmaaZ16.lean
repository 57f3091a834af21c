/-
  Laid together for a hand-in: Rr15, Rw15.
-/
import Derived.Test.YtenccpccpjjkmaaZ15
import Derived.BigQuiet
import Derived.Deep.OwnRows

namespace Go.Proofs.Ytenccpccpjjkmaa
open Go.RowKit Go.Shelf Go.Sort Go.Maps CrewP Go.Lib
set_option linter.unusedVariables false
set_option linter.unusedSimpArgs false

/-- The document's marks while they are written: nothing is said of what the rows hold. -/
structure RfR (w : World) (U : Nat → Prop) (r : Nat) (m : Ms) (lb ab cap : Nat) (cs : List Value) : Prop where
  crew : okC m.f m.ns = true
  blk : Blk w r 70 (msU m.f (.slice (some ⟨ab, 0, none⟩) m.ns.length cap) m.lo (.slice (some ⟨lb, 0, none⟩) m.ns.length m.ns.length))
  nd : ∃ cs, Blk w ab 3 cs ∧ cs.take m.ns.length = cis m.ns ∧ m.ns.length ≤ cap ∧ cap ≤ maxLen
  rows : Blk w lb 54 cs
  len : cs.length = m.ns.length
  row : ∀ k (hk : k < m.ns.length), ∃ A q c, cs[k]? = some (.slice A q c) ∧ ShM w A (m.told m.ns[k]) ∧ (m.told m.ns[k]).length = q ∧ (q = 0 → A = none ∧ c = 0) ∧ ∀ b, blkOf A b → U b ∧ b ≠ r ∧ b ≠ lb
  ne : ab ≠ r ∧ ab ≠ lb ∧ lb ≠ r
  u : U r ∧ U lb ∧ U ab
  lt : ∀ i, U i → i < w.heap.size
section
variable {w w' : World} {U U' S : Nat → Prop} {r : Nat} {m : Ms} {lb ab cap : Nat} {cs : List Value}
theorem RfIn.raw (h : RfIn w U r m lb ab cap cs) : RfR w U r m lb ab cap cs := ⟨h.ok.crew, h.blk, h.nd, h.rows, h.len, h.row, h.ne, h.u, h.lt⟩
theorem RfR.full (h : RfR w U r m lb ab cap cs) (ok : m.ok) : RfIn w U r m lb ab cap cs := ⟨ok, ok.non, h.blk, h.nd, h.rows, h.len, h.row, h.ne, h.u, h.lt⟩
theorem RfR.out (h : RfR w U r m lb ab cap cs) (ho : Out S w w') (hS : ∀ i, U i → ¬ S i) : RfR w' U r m lb ab cap cs := by
  obtain ⟨ns, n1, n2⟩ := h.nd
  exact ⟨h.crew, ho.blk h.blk (hS _ h.u.1), ⟨ns, ho.blk n1 (hS _ h.u.2.2), n2⟩, ho.blk h.rows (hS _ h.u.2.1), h.len, fun k hk => let ⟨A, q, c, e1, e2, e3, e4, e5⟩ := h.row k hk; ⟨A, q, c, e1, e2.out' ho (fun b hb => hS b (e5 b hb).1), e3, e4, e5⟩, h.ne, h.u, fun i hi => Nat.lt_of_lt_of_le (h.lt i hi) ho.size⟩
theorem RfR.below (h : RfR w U r m lb ab cap cs) (hb : Below w.heap.size w w') : RfR w' U r m lb ab cap cs :=
  h.out (S := fun i => w.heap.size ≤ i) (Out.ofBelow _ hb) fun i hi => by have := h.lt i hi; omega
theorem RfR.wide (h : RfR w U r m lb ab cap cs) (hU : ∀ i, U i → U' i) (hlt : ∀ i, U' i → i < w.heap.size) : RfR w U' r m lb ab cap cs :=
  ⟨h.crew, h.blk, h.nd, h.rows, h.len, fun k hk => let ⟨A, q, c, e1, e2, e3, e4, e5⟩ := h.row k hk; ⟨A, q, c, e1, e2, e3, e4, fun b hb => ⟨hU b (e5 b hb).1, (e5 b hb).2⟩⟩, h.ne, ⟨hU _ h.u.1, hU _ h.u.2.1, hU _ h.u.2.2⟩, hlt⟩
theorem RfR.few (h : RfR w U r m lb ab cap cs) : m.ns.length ≤ 7 := by
  have := ((okC_iff m.f m.ns).1 h.crew).1
  omega
theorem RfR.row_of (h : RfR w U r m lb ab cap cs) {k : Nat} (hk : k < m.ns.length) {A : Option Addr} {q c : Nat} (e : cs[k]? = some (.slice A q c)) : ShM w A (m.told m.ns[k]) := by
  obtain ⟨A', q', c', e1, e2, _⟩ := h.row k hk
  rw [e1] at e
  injection e with e
  injection e with e3
  rw [← e3]
  exact e2
/-- The row at k is another one. -/
theorem RfR.set_row (h : RfR w U r m lb ab cap cs) {k : Nat} (hk : k < m.ns.length) {A : Option Addr} {q c : Nat} {l : List Mk} (hsh : ShM w A l) (hl : l.length = q) (h0 : q = 0 → A = none ∧ c = 0) (hb : ∀ b, blkOf A b → U b ∧ b ≠ r ∧ b ≠ lb) :
    RfR (w.setCell ⟨lb, k, none⟩ (.slice A q c)) U r (m.set m.ns[k] l) lb ab cap (cs.set k (.slice A q c)) ∧ Out (fun b => b = lb) w (w.setCell ⟨lb, k, none⟩ (.slice A q c)) := by
  have ho : Out (fun b => b = lb) w (w.setCell ⟨lb, k, none⟩ (.slice A q c)) := (Out.refl (fun b => b = lb) w).setCell (p := ⟨lb, k, none⟩) (fun _ => rfl) _
  have hnd : m.ns.Nodup := CrewP.asc_nodup ((okC_iff m.f m.ns).1 h.crew).2.2
  obtain ⟨ns, n1, n2⟩ := h.nd
  refine ⟨⟨h.crew, ho.blk h.blk (fun e => h.ne.2.2 e.symm), ⟨ns, ho.blk n1 h.ne.2.1, n2⟩, h.rows.set_ k _, by rw [List.length_set]; exact h.len, fun j hj => ?_, h.ne, h.u, fun i hi => Nat.lt_of_lt_of_le (h.lt i hi) ho.size⟩, ho⟩
  by_cases e : j = k
  · subst e
    refine ⟨A, q, c, by rw [List.getElem?_set_self (by rw [h.len]; exact hk)], ?_, ?_, h0, hb⟩
    · show ShM _ A (if m.ns[j] = m.ns[j] then l else _)
      rw [if_pos rfl]
      exact hsh.out' ho fun b hb' e => (hb b hb').2.2 e
    · show (if m.ns[j] = m.ns[j] then l else _).length = q
      rw [if_pos rfl]; exact hl
  · obtain ⟨A', q', c', e1, e2, e3, e4, e5⟩ := h.row j hj
    have hne : m.ns[j] ≠ m.ns[k] := fun e' => e ((List.getElem_inj hnd).1 e')
    refine ⟨A', q', c', by rw [List.getElem?_set_ne (fun e' => e e'.symm)]; exact e1, ?_, ?_, e4, e5⟩
    · show ShM _ A' (if m.ns[j] = m.ns[k] then l else m.told m.ns[j])
      rw [if_neg hne]
      exact e2.out' ho fun b hb' e => (e5 b hb').2.2 e
    · show (if m.ns[j] = m.ns[k] then l else m.told m.ns[j]).length = q'
      rw [if_neg hne]; exact e3
/-- The low mark is another one. -/
theorem RfR.lo (h : RfR w U r m lb ab cap cs) (x : Mk) {X : List Value} (hX : mkC x = X) : ∃ w', w.setCells r 2 X = w' ∧ (w.there r 2 X.toArray.size ∧ (Try.prog.info? 28).map (·.size) = some X.toArray.size ∧ X.toArray.all (·.oneCell') = true) ∧ RfR w' U r { m with lo := x } lb ab cap cs ∧ Out (fun b => b = r) w w' := by
  subst hX
  have ho : Out (fun b => b = r) w (w.setCells r 2 (mkC x)) := Out.setCells (S := fun b => b = r) (g := r) (o := 2) (mkC x) (fun _ => rfl) (Out.refl _ _)
  obtain ⟨ns, n1, n2⟩ := h.nd
  have hlen : (msU m.f (.slice (some ⟨ab, 0, none⟩) m.ns.length cap) m.lo (.slice (some ⟨lb, 0, none⟩) m.ns.length m.ns.length)).length = 36 := by simp [msU, mkC_len]
  have B3 := Blk.setMore (w := w) (mkC x) h.blk (o := 2) (by rw [hlen, mkC_len]; omega)
  have e : (msU m.f (.slice (some ⟨ab, 0, none⟩) m.ns.length cap) m.lo (.slice (some ⟨lb, 0, none⟩) m.ns.length m.ns.length)).take 2 ++ mkC x ++ (msU m.f (.slice (some ⟨ab, 0, none⟩) m.ns.length cap) m.lo (.slice (some ⟨lb, 0, none⟩) m.ns.length m.ns.length)).drop (2 + (mkC x).length) = msU m.f (.slice (some ⟨ab, 0, none⟩) m.ns.length cap) x (.slice (some ⟨lb, 0, none⟩) m.ns.length m.ns.length) := by
    rw [mkC_len]
    unfold msU
    rw [show (2 + 33 : Nat) = 33 + 1 + 1 from rfl, List.drop_succ_cons, List.drop_succ_cons, List.drop_append_of_le_length (by rw [mkC_len]; exact Nat.le_refl _), List.drop_of_length_le (by rw [mkC_len]; exact Nat.le_refl _)]
    rfl
  rw [e] at B3
  refine ⟨_, rfl, ⟨h.blk.thereAt (by rw [List.size_toArray, mkC_len, hlen]; omega), mark_infoA x, mkC_oneA x⟩, ⟨h.crew, B3, ⟨ns, ho.blk n1 h.ne.1, n2⟩, ho.blk h.rows h.ne.2.2, h.len, fun k hk => ?_, h.ne, h.u, fun i hi => Nat.lt_of_lt_of_le (h.lt i hi) ho.size⟩, ho⟩
  obtain ⟨A', q', c', e1, e2, e3, e4, e5⟩ := h.row k hk
  exact ⟨A', q', c', e1, e2.out' ho fun b hb' e => (e5 b hb').2.1 e, e3, e4, e5⟩
/-- Raised as far as the first k nodes. -/
def tkM (m : Ms) (x : Mk) (k : Nat) : Ms := { m with lo := x, told := fun n => if n ∈ m.ns.take k then abv x.s (m.told n) else m.told n }
theorem tkM_zero (m : Ms) (x : Mk) : tkM m x 0 = { m with lo := x } := by unfold tkM; simp
theorem tkM_at {m : Ms} (hnd : m.ns.Nodup) (x : Mk) {k : Nat} (hk : k < m.ns.length) : (tkM m x k).told m.ns[k] = m.told m.ns[k] := by
  unfold tkM
  refine if_neg fun e => ?_
  obtain ⟨j, hj, e⟩ := List.mem_take_iff_getElem.1 e
  have := (List.getElem_inj hnd).1 e
  omega
theorem tkM_succ {m : Ms} (x : Mk) {k : Nat} (hk : k < m.ns.length) : (tkM m x k).set m.ns[k] (abv x.s (m.told m.ns[k])) = tkM m x (k + 1) := by
  unfold tkM Ms.set
  congr 1
  funext n
  rw [List.take_succ_eq_append_getElem hk]
  simp only [List.mem_append, List.mem_singleton]
  by_cases e : n = m.ns[k]
  · rw [if_pos e, if_pos (.inr e), e]
  · rw [if_neg e]
    by_cases e2 : n ∈ m.ns.take k
    · rw [if_pos e2, if_pos (.inl e2)]
    · rw [if_neg e2, if_neg (by rintro (h | h); exact e2 h; exact e h)]
theorem tkM_all {m : Ms} (h : m.ok) (x : Mk) (hE : riseE m x = 0) : tkM m x m.ns.length = riseS m x := by
  unfold tkM riseS
  rw [if_pos hE, List.take_length]
  congr 1
  funext n
  by_cases e : n ∈ m.ns
  · rw [if_pos e]
  · rw [if_neg e, h.non n e]; rfl
theorem abv_snoc (s : Int) (l : List Mk) (y : Mk) : abv s (l ++ [y]) = if s < y.s then abv s l ++ [y] else abv s l := by
  unfold abv
  rw [List.filter_append]
  by_cases h : s < y.s
  · rw [if_pos h, List.filter_cons_of_pos (by simp; omega)]; rfl
  · rw [if_neg h, List.filter_cons_of_neg (by simp; omega)]; simp
/-- What stands between two rows. -/
def RaR (w wr : World) (U : Nat → Prop) (r : Nat) (m : Ms) (x : Mk) (lb ab cap k : Nat) : Prop := ∃ cs, RfR wr (Gr U w wr) r (tkM m x k) lb ab cap cs ∧ Out U w wr ∧ Blk wr w.heap.size 28 (mkC x)
theorem RaR.next {wr wx : World} {x : Mk} {k : Nat} {cs0 : List Value} (h0 : RfR w U r m lb ab cap cs0) (h : RaR w wr U r m x lb ab cap k) (hk : k < m.ns.length) {A : Option Addr} {c : Nat} (ho : OwM wr wx A c (abv x.s (m.told m.ns[k]))) (hz : abv x.s (m.told m.ns[k]) = [] → A = none ∧ c = 0) {q : Nat} (hq : (abv x.s (m.told m.ns[k])).length = q) :
    RaR w (wx.setCell ⟨lb, k, none⟩ (.slice A q c)) U r m x lb ab cap (k + 1) := by
  obtain ⟨cs, h1, h2, h3⟩ := h
  have hz0 := h2.size
  have hz1 := ho.bel.size
  have hR := (h1.below ho.bel).wide (U' := Gr U w wx) (fun i hi => hi.imp_right fun hi => ⟨hi.1, Nat.lt_of_lt_of_le hi.2 ho.bel.size⟩) fun i hi => hi.elim (fun hi => by have := h0.lt i hi; omega) fun hi => hi.2
  obtain ⟨k1, k2⟩ := hR.set_row (k := k) hk (c := c) (RowK.toSh ho.row rfl) hq (fun e => hz (List.length_eq_zero_iff.1 (hq.trans e))) (fun b hb => ⟨.inr ⟨by have := ho.own b hb; omega, ho.row.lt b hb⟩, fun e => by have := ho.own b hb; have := h0.lt _ h0.u.1; omega, fun e => by have := ho.own b hb; have := h0.lt _ h0.u.2.1; omega⟩)
  have e : (tkM m x k).set (tkM m x k).ns[k] (abv x.s (m.told m.ns[k])) = tkM m x (k + 1) := tkM_succ x hk
  rw [e] at k1
  have o3 : Out U wr wx := Out.ofBelow _ ho.bel
  refine ⟨_, k1.wide (fun i hi => hi.imp_right fun hi => ⟨hi.1, Nat.lt_of_lt_of_le hi.2 k2.size⟩) fun i hi => hi.elim (fun hi => by have := h0.lt i hi; have := k2.size; omega) fun hi => hi.2, (h2.trans o3 fun i _ hi => hi).trans k2 fun i _ e => by rw [show i = lb from e]; exact h0.u.2.1, k2.blk (h3.below ho.bel h3.lt) fun e => by have := h0.lt _ h0.u.2.1; omega⟩
set_option maxRecDepth 100000 in
set_option maxHeartbeats 12800000 in
theorem rraise_in (h : RfIn w U r m lb ab cap cs) (x : Mk) (E : Int) (hE : riseE m x = E) :
    Calls Try.prog 15 #[.pointer (some ⟨r, 0, none⟩), .agg (mkC x).toArray] w fun e w' => e = .returned (.int .i64 E) ∧ RfAt w' (Gr U w w') r (riseS m x) ∧ Out U w w' := by
  have b1 : Below w.heap.size w (w.alloc (.cells (mkC x).toArray 28)) := (Below.refl _ _).alloc (Nat.le_refl _) _
  have X1 : Blk (w.alloc (.cells (mkC x).toArray 28)) w.heap.size 28 (mkC x) := Blk.new rfl rfl
  have h1 := h.below b1
  have c0 := X1.cell (i := 0) (v := .int .i64 x.s) rfl
  have c2 := h1.blk.cell (i := 2) (v := .int .i64 m.lo.s) rfl
  have hfew := h.few
  have hnd : m.ns.Nodup := CrewP.asc_nodup ((okC_iff m.f m.ns).1 h.ok.crew).2.2
  have keep : ∀ w', Below w.heap.size w w' → riseS m x = m → RfAt w' (Gr U w w') r (riseS m x) ∧ Out U w w' := fun w' hb e => by
    rw [e]
    exact ⟨⟨_, _, _, _, (h.below hb).wide (fun i hi => .inl hi) fun i hi => hi.elim (fun hi => Nat.lt_of_lt_of_le (h.lt i hi) hb.size) fun hi => hi.2⟩, Out.ofBelow U hb⟩
  have HK := Lib.hid keep
  have HE := Lib.hid hE
  have H1 := Lib.hid (And.intro h (And.intro b1 (And.intro X1 hnd)))
  have mixed : Try.prog.follows Departure.mixedOrders = true := by kernel_rfl
  clear keep hE h h1 b1 X1 hnd
  generalize hX : mkC x = X at *
  have HX := Lib.hid hX
  clear hX
  have hxi := mark_infoL x
  rw [HX.out] at hxi
  have HXi := Lib.hid hxi
  clear hxi
  go_enter Try.func15, Try.ntmps15
  by_cases h5 : x.s < m.lo.s
  · have hE1 : E = 9 := by rw [← HE.out]; unfold riseE; rw [if_pos (.inl h5)]
    have hs : riseS m x = m := by unfold riseS; rw [HE.out, hE1, if_neg (by omega)]
    have HS := Lib.hid hs
    subst hE1
    clear hs
    go_upto_region 1 with fail
    go_quiet (fail)
    go_wp2
    go_ret
    exact ⟨rfl, HK.out _ (below_drewN H1.out.2.1 nq) HS.out⟩
  by_cases h6 : 9007199254740991 < x.s
  · have hE1 : E = 9 := by rw [← HE.out]; unfold riseE; rw [if_pos (.inr h6)]
    have hs : riseS m x = m := by unfold riseS; rw [HE.out, hE1, if_neg (by omega)]
    have HS := Lib.hid hs
    have hmy : ∀ W, Calls Try.prog 30 #[.int .i64 x.s] W fun e w' => e = .returned (.bool false) ∧ w' = W := fun W => by
      have := may_any x.s W
      rw [decide_eq_false (by omega)] at this
      exact this
    have Hmy := Lib.hid hmy
    subst hE1
    clear hs hmy
    go_upto_region 1 with fail
    go_quiet ((go_at_call 30; exact Calls.quiet_of_same (Hmy.out _)))
    go_wp2
    go_ret
    exact ⟨rfl, HK.out _ (below_drewN H1.out.2.1 nq) HS.out⟩
  have hmy : ∀ W, Calls Try.prog 30 #[.int .i64 x.s] W fun e w' => e = .returned (.bool true) ∧ w' = W := fun W => by
    have := may_any x.s W
    rw [decide_eq_true (by have := H1.out.1.ok.lo0; omega)] at this
    exact this
  have Hmy := Lib.hid hmy
  have hE0 : E = 0 := by rw [← HE.out]; unfold riseE; rw [if_neg (by omega)]
  subst hE0
  clear hmy
  go_upto_region 1 with fail
  go_quiet ((go_at_call 30; exact Calls.quiet_of_same (Hmy.out _)))
  have b2 := below_drewN H1.out.2.1 nq
  have X2 := H1.out.2.2.1.below (below_drewN (Below.refl _ _) nq) H1.out.2.2.1.lt
  generalize (w.alloc (.cells X.toArray 28)).drewN nq = w2 at *
  have h2 := H1.out.1.raw.below b2
  obtain ⟨w3, hw3, hth, h3, o3⟩ := h2.lo x HX.out
  have hR0 : RaR w w3 U r m x lb ab cap 0 := by
    refine ⟨cs, ?_, (Out.ofBelow U b2).trans o3 fun i _ e => by rw [show i = r from e]; exact H1.out.1.u.1, ?_⟩
    · rw [tkM_zero]
      exact h3.wide (fun i hi => .inl hi) fun i hi => hi.elim (fun hi => h3.lt i hi) fun hi => hi.2
    · rw [HX.out]
      exact o3.blk X2 fun e => by have := H1.out.1.lt _ H1.out.1.u.1; omega
  have H2 := Lib.hid (And.intro hw3 (And.intro hth (And.intro X2.range hR0)))
  clear h2 hw3 hth h3 o3 hR0 X2 b2 Hmy c0 c2
  go_upto_region 5 with (first
    | (refine load_mid_g rfl 28 _ rfl w.heap.size 0 rfl X _ H2.out.2.2.1 Try.underlying28 rfl HXi.out ?_; simp only [Act.put])
    | (refine wpList_store_mid rfl 28 _ _ rfl r 2 X.toArray rfl rfl H2.out.2.1.1 H2.out.2.1.2.1 H2.out.2.1.2.2 ?_; simp only [Act.put]; refine cast (congrArg (fun z => wpList _ _ _ _ _ z) H2.out.1.symm) ?_))
  go_loopw [5] (fun v5 wr => ∃ k : Nat, k ≤ m.ns.length ∧ v5 = .int .i64 (k : Int) ∧ RaR w wr U r m x lb ab cap k) (fun v _ => 10 - (intOf v).toNat)
  case atStart => exact ⟨0, Nat.zero_le _, rfl, H2.out.2.2.2⟩
  case round =>
    rename World => wk
    obtain ⟨k, hk, rfl, hR⟩ := hrel
    obtain ⟨cs1, hR1, hO1, hX1⟩ := hR
    have c35 : wk.cell? ⟨r, 35, none⟩ = some (.slice (some ⟨lb, 0, none⟩) m.ns.length m.ns.length) := hR1.blk.cell (msU_35 _ _ _ _)
    have hwk : IntKind.i64.wrap ((k : Int) + 1) = (k : Int) + 1 := IntWalk.i64_in _ (by omega)
    have hk0 : (k : Int) ≥ 0 := by omega
    have HRK := Lib.hid (And.intro hR1 (And.intro hO1 hX1))
    by_cases hlt : k < m.ns.length
    · have hlt' : (k : Int) < (m.ns.length : Int) := by omega
      obtain ⟨A, q, c, e1, e2, e3, e4, e5⟩ := hR1.row k hlt
      have htl : (tkM m x k).told (tkM m x k).ns[k] = m.told m.ns[k] := tkM_at H1.out.2.2.2 x hlt
      rw [htl] at e2 e3
      have hl4 := H1.out.1.ok.len m.ns[k]
      obtain ⟨l, hl⟩ : ∃ l, m.told m.ns[k] = l := ⟨_, rfl⟩
      rw [hl] at e2 e3 hl4
      have hq4 : q ≤ 4 := by omega
      have HL := Lib.hid (And.intro e1 (And.intro e2 (And.intro e3 hl)))
      clear hR1 hO1 hX1 e1 e2 e3 e4 e5 htl hl hl4
      go_upto_region 9 with fail
      go_loopw [6, 7] (fun v6 v7 wx => ∃ (i : Nat) (A' : Option Addr) (cap' : Nat), i ≤ q ∧ v7 = .int .i64 (i : Int) ∧ v6 = .slice A' (abv x.s (l.take i)).length cap' ∧ OwM wk wx A' cap' (abv x.s (l.take i)) ∧ (abv x.s (l.take i) = [] → A' = none ∧ cap' = 0)) (fun _ v _ => 10 - (intOf v).toNat)
      case atStart => exact ⟨0, none, 0, Nat.zero_le _, rfl, rfl, OwM.nil _, fun _ => ⟨rfl, rfl⟩⟩
      case round =>
        obtain ⟨i, A', cap', hi, rfl, rfl, hI, hz⟩ := hrel
        have hRx := HRK.out.1.below hI.bel
        have c35 : wr.cell? ⟨r, 35, none⟩ = some (.slice (some ⟨lb, 0, none⟩) m.ns.length m.ns.length) := hRx.blk.cell (msU_35 _ _ _ _)
        have cj := hRx.rows.cell HL.out.1
        have fj := hRx.rows.free k
        have cx : wr.cell? ⟨w.heap.size, 0, none⟩ = some (.int .i64 x.s) := (HRK.out.2.2.below hI.bel HRK.out.2.2.lt).cell rfl
        obtain ⟨N, hN⟩ : ∃ N, (abv x.s (l.take i)).length = N := ⟨_, rfl⟩
        rw [hN]
        have hN4 : N ≤ 4 := by rw [← hN]; unfold abv; have := List.length_filter_le (fun y : Mk => !decide (y.s ≤ x.s)) (l.take i); rw [List.length_take] at this; omega
        have HI := Lib.hid (And.intro hI (And.intro hz hN))
        clear hI hz hN
        have hi0 : (i : Int) ≥ 0 := by omega
        by_cases hiq : i < q
        · have hiq' : (i : Int) < (q : Int) := by omega
          have hil : i < l.length := by have := HL.out.2.2.1; omega
          have hwi : IntKind.i64.wrap ((i : Int) + 1) = (i : Int) + 1 := IntWalk.i64_in _ (by omega)
          obtain ⟨b, o, hA, hrg⟩ := (HL.out.2.1.below HI.out.1.bel).at_ hil
          have hts0 : l.take (i + 1) = l.take i ++ [l[i]] := List.take_succ_eq_append_getElem hil
          have hts := Lib.hid hts0
          clear hts0 hRx fj
          generalize l[i] = y at *
          subst hA
          have ix := fun w => hidx_at w b o q c i hiq
          have cy : wr.cell? ⟨b, o + i * 33, none⟩ = some (.int .i64 y.s) := by have := hrg 0 _ (show (mkC y)[0]? = some (.int .i64 y.s) from rfl); simpa using this
          obtain ⟨Y, hY⟩ : ∃ Y, mkC y = Y := ⟨_, rfl⟩
          have hyi := mark_infoL y
          rw [hY] at hrg hyi
          by_cases hxy : x.s < y.s
          · have hxy' : y.s > x.s := hxy
            have hst : abv x.s (l.take (i + 1)) = abv x.s (l.take i) ++ [y] := by rw [hts.out, abv_snoc, if_pos hxy]
            go_upto_region 11 with fail
            go_quiet (fail)
            have bq := below_drewN (Below.refl wr.heap.size wr) nq
            have hIq := HI.out.1.below bq
            have hRq := HRK.out.1.below hIq.bel
            have d35 : (wr.drewN nq).cell? ⟨r, 35, none⟩ = some (.slice (some ⟨lb, 0, none⟩) m.ns.length m.ns.length) := hRq.blk.cell (msU_35 _ _ _ _)
            have dj := hRq.rows.cell HL.out.1
            have hrq : (wr.drewN nq).rangeAt b (o + i * 33) Y := fun j u hu => hrg j u hu
            generalize wr.drewN nq = wq at *
            obtain ⟨w7, A2, c2, w8, hr7, hr8, ho8, hO8⟩ := hIq.push y hY (n := N) HI.out.2.2 (by omega)
            rw [← hst] at ho8
            have hl8 : (abv x.s (l.take (i + 1))).length = N + 1 := by rw [hst, List.length_append, HI.out.2.2]; rfl
            have hne8 : abv x.s (l.take (i + 1)) ≠ [] := by rw [hst]; simp
            have HP := Lib.hid (And.intro hr7 (And.intro hr8 (And.intro ho8 (And.intro hrq (And.intro hyi (And.intro hl8 hne8))))))
            clear hr7 hr8 ho8 hO8 hrq hyi hl8 hne8 hIq hRq bq hst hrg cx cy hY c35 cj
            go_wp2_with (first
              | (refine load_mid_g rfl 28 _ rfl b (o + i * 33) rfl Y _ HP.out.2.2.2.1 Try.underlying28 rfl HP.out.2.2.2.2.1 ?_; simp only [Act.put])
              | (refine row_g rfl 54 1 _ rfl (.slice (some ⟨wq.heap.size, 0, none⟩) 1 1) w7 (by simp only [List.map_toArray, List.map_cons, List.map_nil]; exact HP.out.1) ?_; simp only [Act.put])
              | (refine app_g rfl _ _ _ _ rfl _ _ _ w8 rfl rfl HP.out.2.1 ?_; simp only [Act.put]))
            go_roundw
            case rel => exact ⟨i + 1, A2, c2, by omega, by first | rfl | (push_cast; rfl), by rw [HP.out.2.2.2.2.2.1], HP.out.2.2.1, fun e => absurd e HP.out.2.2.2.2.2.2⟩
            case measure => simp [intOf]; omega
          · have hxy' : ¬ y.s > x.s := hxy
            have hst : abv x.s (l.take (i + 1)) = abv x.s (l.take i) := by rw [hts.out, abv_snoc, if_neg hxy]
            go_upto_region 11 with fail
            go_quiet (fail)
            have bq := below_drewN (Below.refl wr.heap.size wr) nq
            have hIq := HI.out.1.below bq
            have HP := Lib.hid (And.intro hIq hst)
            generalize wr.drewN nq = wq at *
            clear hIq hst bq hrg cx cy hyi c35 cj
            go_wp2
            go_roundw
            case rel => exact ⟨i + 1, A', cap', by omega, by first | rfl | (push_cast; rfl), by rw [HP.out.2, HI.out.2.2], by rw [HP.out.2]; exact HP.out.1, by rw [HP.out.2]; exact HI.out.2.1⟩
            case measure => simp [intOf]; omega
        · have hiq' : ¬ (i : Int) < (q : Int) := by omega
          obtain rfl : i = q := by omega
          have hall : l.take i = l := List.take_of_length_le (by have := HL.out.2.2.1; omega)
          rw [hall, ← HL.out.2.2.2] at HI
          have hn := RaR.next H1.out.1.raw ⟨cs1, HRK.out⟩ hlt HI.out.1 HI.out.2.1 HI.out.2.2
          have HN := Lib.hid hn
          clear hn hall hRx
          go_wp2
          go_roundw
          case rel => exact ⟨k + 1, by omega, by first | rfl | (push_cast; rfl), HN.out⟩
          case measure => simp [intOf]; omega
    · have hlt' : ¬ (k : Int) < (m.ns.length : Int) := by omega
      obtain rfl : k = m.ns.length := by omega
      clear hR1 hO1 hX1
      go_wp2
      go_ret
      have e := tkM_all H1.out.1.ok x HE.out
      refine ⟨rfl, ⟨_, _, _, _, RfR.full (by rw [← e]; exact HRK.out.1) (riseS_ok H1.out.1.ok x)⟩, HRK.out.2.1⟩
end
end Go.Proofs.Ytenccpccpjjkmaa

namespace Go.Proofs.Ytenccpccpjjkmaa
open Go.RowKit Go.Shelf Go.Sort Go.Maps CrewP
set_option linter.unusedVariables false
set_option linter.unusedSimpArgs false

def RlV (w : World) (base : Nat) (f : Int) (ns : List Int) (lo : Mk) (v : Value) : Prop := ∃ u, v = .agg (msU f u lo (.slice none 0 0)).toArray ∧ NodesV w base ns u
def RxV (w : World) (base : Nat) (f : Int) (ns : List Int) (lo : Mk) (v : Value) : Prop := ∃ g u, v = .pointer (some ⟨g, 0, none⟩) ∧ base ≤ g ∧ Blk w g 70 (msU f u lo (.slice none 0 0)) ∧ NodesV w base ns u
section
variable {w w' : World} {base : Nat} {f : Int} {lo : Mk} {ns : List Int} {v : Value}
theorem RlV.below (h : RlV w base f ns lo v) (hb : Below w.heap.size w w') : RlV w' base f ns lo v := let ⟨u, h1, h2⟩ := h; ⟨u, h1, h2.below hb⟩
theorem RxV.below (h : RxV w base f ns lo v) (hb : Below w.heap.size w w') : RxV w' base f ns lo v := let ⟨g, u, h1, h2, h3, h4⟩ := h; ⟨g, u, h1, h2, h3.below hb h3.lt, h4.below hb⟩
end
theorem copy_nodes {w : World} {A : Option Addr} {n c : Nat} {ns : List Int} (h : ArgI w A n c ns) (hn : n ≤ 1000) (hn0 : 0 < n) {base : Nat} (hb : base ≤ w.heap.size) (ty : TypeId) :
    ∃ v w', (Builtin.append_ #[22, 22] ty #[.slice none 0 0, .slice A n c]).run Try.prog w = .ok v w' ∧ NodesV w' base ns v ∧ Below w.heap.size w w' := by
  have hl := h.1
  obtain ⟨v, w', hr, hN, hbel⟩ := run_copyI w A n c ns h (by omega) ty
  refine ⟨v, w', hr, ?_, hbel⟩
  rcases own_blk hN with ⟨_, h0, _⟩ | ⟨ab, cap, cs, hv, h1, h2, h3, h4, h5, h6⟩
  · omega
  · exact ⟨ab, cap, cs, hv, by omega, h2, h6, h3, h4⟩
theorem built_rmarks (f : Int) (a n c : Nat) (lo : Mk) : Try.prog.built 70 [(0, .agg #[.int .i64 f, .slice (some ⟨a, 0, none⟩) n c]), (1, .agg (mkC lo).toArray)] = some (msU f (.slice (some ⟨a, 0, none⟩) n c) lo (.slice none 0 0)).toArray := by
  obtain ⟨s, d, hs, h⟩ := lo
  obtain ⟨a0, a1, a2, a3, a4, a5, a6, a7, a8, a9, a10, a11, a12, a13, a14, a15, a16, a17, a18, a19, a20, a21, a22, a23, a24, a25, a26, a27, a28, a29, a30, a31, rfl⟩ := thirty2 d h
  kernel_rfl
theorem rows_info : (Try.prog.info? 54).map (fun i => (i.zero, i.size, i.bytes)) = some (some (.slice none 0 0), 1, 24) := by kernel_rfl
/-- Rows of nothing. -/
theorem make_rows (n : Nat) (hn : n ≤ 1000) : ∃ Z : Array Value, Z = (List.replicate n (Value.slice none 0 0)).toArray ∧ ∀ w : World, (Instr.makeSlice 68 (.int .i64 (n : Int)) (.int .i64 (n : Int))).run Try.prog w = .ok (.slice (some ⟨w.heap.size, 0, none⟩) n n) (w.alloc (.cells Z 54)) := by
  refine ⟨madeCells #[.slice none 0 0] n, ?_, fun w => run_make_row' 68 54 (.slice none 0 0) 24 Try.underlying68 rows_info rfl .i64 .i64 n (by omega) (by omega) w⟩
  apply Array.ext
  · simp [madeCells]
  · intro i h1 h2
    simp [madeCells, Nat.mod_one]
theorem mk_g {P : Program} {ops : Array Oper} {rest : List Oper} {o : Oper} {a : Act} {w : World} {Q : Exit → Act → World → Prop} (hw : Region.wanted o (yielded ops a.tmps) = true) (ty : TypeId) (x y : Operand) (ho : o.op = .makeSlice ty x y)
    (X Y : Value) (hx : a.eval x = X) (hy : a.eval y = Y) (v : Value) (w' : World) (hr : (Instr.makeSlice ty X Y).run P w = .ok v w') (h : wpList P ops Q rest (a.put o.dst v) w') : wpList P ops Q (o :: rest) a w :=
  wpList_step fun K hK => by
    rw [if_pos hw]
    unfold Oper.wp execOp
    simp only [ho, hx, hy, Sem.run_bind, hr, Result.andThen_ok]
    exact hK _ _ h
/-- Marks of which no node told any. -/
theorem RxV.marks {w : World} {base : Nat} {f : Int} {lo : Mk} {ns : List Int} {g ab cap : Nat} {cs : List Value} (h2 : base ≤ g) (h3 : Blk w g 70 (msU f (.slice (some ⟨ab, 0, none⟩) ns.length cap) lo (.slice none 0 0))) (n1 : base ≤ ab) (n2 : Blk w ab 3 cs) (n3 : cs.take ns.length = cis ns) (n4 : ns.length ≤ cap) (n5 : cap ≤ maxLen) (hok : (newM f ns lo).ok) (hb : base ≤ w.heap.size) :
    ∃ w1 w2, w.alloc (.cells (List.replicate ns.length (Value.slice none 0 0)).toArray 54) = w1 ∧ w1.setCell ⟨g, 35, none⟩ (.slice (some ⟨w.heap.size, 0, none⟩) ns.length ns.length) = w2 ∧ w1.cell? ⟨g, 35, none⟩ = some (.slice none 0 0) ∧ w1.frozen? ⟨g, 35, none⟩ = false ∧
      Below base w w2 ∧ RfAt w2 (fun b => base ≤ b ∧ b < w2.heap.size) g (newM f ns lo) := by
  have hga : ab ≠ g := fun e => by
    subst e
    unfold Blk at h3 n2
    rw [h3] at n2
    injection n2 with n2
    injection n2 with _ n2
    revert n2
    decide
  obtain ⟨w1, hw1⟩ : ∃ W, w.alloc (.cells (List.replicate ns.length (Value.slice none 0 0)).toArray 54) = W := ⟨_, rfl⟩
  have b1 : Below w.heap.size w w1 := by rw [← hw1]; exact (Below.refl _ _).alloc (Nat.le_refl _) _
  have hz1 : w1.heap.size = w.heap.size + 1 := by rw [← hw1]; simp
  have R1 : Blk w1 w.heap.size 54 (List.replicate ns.length (Value.slice none 0 0)) := by rw [← hw1]; exact Blk.new rfl rfl
  have G1 := h3.below b1 h3.lt
  have N1 := n2.below b1 n2.lt
  have ho : Out (fun b => b = g) w1 (w1.setCell ⟨g, 35, none⟩ (.slice (some ⟨w.heap.size, 0, none⟩) ns.length ns.length)) := (Out.refl (fun b => b = g) w1).setCell (p := ⟨g, 35, none⟩) (fun _ => rfl) _
  have G2 := G1.set_ 35 (.slice (some ⟨w.heap.size, 0, none⟩) ns.length ns.length)
  have e : (msU f (.slice (some ⟨ab, 0, none⟩) ns.length cap) lo (.slice none 0 0)).set 35 (.slice (some ⟨w.heap.size, 0, none⟩) ns.length ns.length) = msU f (.slice (some ⟨ab, 0, none⟩) ns.length cap) lo (.slice (some ⟨w.heap.size, 0, none⟩) ns.length ns.length) := by
    unfold msU
    rw [show (35 : Nat) = 33 + 1 + 1 from rfl, List.set_cons_succ, List.set_cons_succ, List.set_append_right _ _ (by rw [mkC_len]; exact Nat.le_refl _), mkC_len]
    rfl
  rw [e] at G2
  have hg := h3.lt
  have ha := n2.lt
  obtain ⟨w2, hw2⟩ : ∃ W, w1.setCell ⟨g, 35, none⟩ (.slice (some ⟨w.heap.size, 0, none⟩) ns.length ns.length) = W := ⟨_, rfl⟩
  rw [hw2] at ho G2
  have hz2 := ho.size
  refine ⟨w1, w2, hw1, hw2, G1.cell (msU_35 _ _ _ _), G1.free 35, (b1.mono hb).trans (ho.above (fun i e => by rw [show i = g from e]; exact h2) (by omega)), w.heap.size, ab, cap, _, ⟨hok, fun _ _ => rfl, G2, ⟨cs, ho.blk N1 hga, n3, n4, n5⟩, ho.blk R1 (by omega), by simp [newM], fun k hk => ⟨none, 0, 0, ?_, ShM.nil _ _, rfl, fun _ => ⟨rfl, rfl⟩, fun b ⟨a, ha, _⟩ => by cases ha⟩, ⟨hga, by omega, by omega⟩, ⟨⟨h2, by omega⟩, ⟨hb, by omega⟩, ⟨n1, by omega⟩⟩, fun i hi => hi.2⟩⟩
  have hk' : k < ns.length := hk
  simp [hk']

def rwR (bx bm base : Nat) (A : Option Addr) (n c : Nat) (f : Int) (lo : Mk) (ns : List Int) : Nat → Value → World → Prop
  | 0 => fun v w => v = .pointer (some ⟨bx, 0, none⟩)
  | 1 => fun v w => v = .int .i64 f
  | 2 => fun v w => v = .slice none 0 0
  | 3 => fun v w => v = .pointer (some ⟨bx, 1, none⟩)
  | 4 => fun v w => v = .slice A n c
  | 5 => fun v w => NodesV w base ns v
  | 6 => fun v w => CrV w base f ns v
  | 7 => fun v w => v = .agg (mkC lo).toArray
  | 8 => fun v w => RlV w base f ns lo v
  | 9 => fun v w => RxV w base f ns lo v
  | 10 => fun v w => RxV w base f ns lo v
  | _ => fun _ _ => True
def rwD (i : Nat) : Nat := ([15, 16, 17, 18, 19, 20, 21, 22, 23, 24, 7] : List Nat).getD i 0
def rwG : Nat → Option Bool
  | _ => none
def rwS (i : Nat) : Bool := ([] : List Nat).contains i
theorem rw_gb (bx bm base : Nat) (A : Option Addr) (n c : Nat) (f : Int) (lo : Mk) (ns : List Int) : ∀ i b v w, rwG i = some b → rwR bx bm base A n c f lo ns i v w → v = .bool b := by
  intro i b v w h hR
  unfold rwG at h
  split at h
  all_goals first | (injection h with h; subst h; exact hR) | cases h
theorem rw_sk (bx bm base : Nat) (A : Option Addr) (n c : Nat) (f : Int) (lo : Mk) (ns : List Int) : ∀ i w, rwS i = true → rwR bx bm base A n c f lo ns i undef w := by
  intro i w h
  simp [rwS] at h
theorem rw_on (bx bm base : Nat) (A : Option Addr) (n c : Nat) (f : Int) (lo : Mk) (ns : List Int) : ∀ i v w w', rwR bx bm base A n c f lo ns i v w → Below w.heap.size w w' → rwR bx bm base A n c f lo ns i v w'
  | 0, v, w, w', h, _ => h
  | 1, v, w, w', h, _ => h
  | 2, v, w, w', h, _ => h
  | 3, v, w, w', h, _ => h
  | 4, v, w, w', h, _ => h
  | 5, v, w, w', h, hb => NodesV.below h hb
  | 6, v, w, w', h, hb => CrV.below h hb
  | 7, v, w, w', h, _ => h
  | 8, v, w, w', h, hb => RlV.below h hb
  | 9, v, w, w', h, hb => RxV.below h hb
  | 10, v, w, w', h, hb => RxV.below h hb
  | i + 11, v, w, w', h, hb => trivial
def rwOps : List Op := [.fieldAddr 24 (.tmp 2) 0,
  .load 3 (.tmp 15),
  .move (.tmp 6),
  .fieldAddr 24 (.tmp 2) 1,
  .load 22 (.tmp 18),
  .call { callee := .builtin .append, args := #[.tmp 17, .tmp 19], argTypes := #[22, 22] },
  .build 24 #[(0, .tmp 16), (1, .tmp 20)],
  .load 28 (.tmp 3),
  .build 70 #[(0, .tmp 21), (1, .tmp 22)],
  .box 70 (.tmp 23),
  .assign (.tmp 24)]
def rwNeeds : Nat → List Nat
  | 0 => []
  | 1 => [0]
  | 2 => []
  | 3 => []
  | 4 => [3]
  | 5 => [2, 4]
  | 6 => [1, 5]
  | 7 => []
  | 8 => [6, 7]
  | 9 => [8]
  | 10 => [9]
  | _ => []
set_option maxRecDepth 100000 in
set_option maxHeartbeats 3200000 in
theorem rw_step {ops : Array Oper} {Q : Exit → Act → World → Prop} {a0 : Act} {w0 : World} (bx bm base : Nat) (A : Option Addr) (n c : Nat) (f : Int) (lo : Mk) (ns : List Int) (hops : ((List.range 11).map fun i => (ops[i]?).map Oper.op) = rwOps.map some)
    (hnd : ((List.range 11).all fun i => (rwNeeds i).all fun j => ((ops[i]?).map fun o => o.after.any fun e => Region.binds .any e && (e.on == j)).getD false) = true)
    (x2 : a0.tmps[2]? = some (.pointer (some ⟨bx, 0, none⟩))) (x3 : a0.tmps[3]? = some (.pointer (some ⟨bm, 0, none⟩))) (x6 : a0.tmps[6]? = some (.slice none 0 0))
    (hX : Blk w0 bx 24 [.int .i64 f, .slice A n c]) (hM : Blk w0 bm 28 (mkC lo)) (hA : ArgI w0 A n c ns) (hn : n ≤ 1000) (hn0 : 0 < n) (hbase0 : base ≤ w0.heap.size) :
    ∀ i o, i < 11 → rwS i = false → ops[i]? = some o → o.dst = some (rwD i) → ∀ a w, Base rwD 11 a0 a → Below w0.heap.size w0 w → Region.wanted o (yielded ops a.tmps) = true →
      (∀ j, (o.after.any fun e => Region.binds .any e && (e.on == j)) = true → Has rwD (rwR bx bm base A n c f lo ns) j a w) →
      ∀ K : Act → World → Prop, (∀ v w', rwR bx bm base A n c f lo ns i v w' → Below w.heap.size w w' → K (a.put o.dst v) w') → wpOp Try.prog ops Q i K a w := by
  intro i o hi hs ho hds a w hbase hbl hwt hdep0 K hK
  have hop : some o.op = rwOps[i]? := by
    have h1 : ((List.range 11).map fun i => (ops[i]?).map Oper.op)[i]? = some (some o.op) := by
      rw [List.getElem?_map, List.getElem?_range hi]; simp only [Option.map_some, ho]
    rw [hops, List.getElem?_map] at h1
    cases h2 : rwOps[i]? with
    | none => rw [h2] at h1; cases h1
    | some y => rw [h2] at h1; simp only [Option.map_some, Option.some.injEq] at h1; rw [h1]
  have hdep : ∀ j, j ∈ rwNeeds i → Has rwD (rwR bx bm base A n c f lo ns) j a w := fun j hj => by
    have h1 := List.all_eq_true.1 (List.all_eq_true.1 hnd i (List.mem_range.2 hi)) j hj
    rw [ho] at h1
    exact hdep0 j h1
  clear hdep0 hops hnd
  match i, hi, hs, ho, hop, hds, hdep, hK with
  | 0, _, hs, ho, hop, hds, hdep, hK =>
    have hop : o.op = .fieldAddr 24 (.tmp 2) 0 := Option.some.inj hop
    have hu2 : a.tmps[2]? = some (.pointer (some ⟨bx, 0, none⟩)) := (hbase.2.2 2 (by decide)).trans x2
    have e2 : a.eval (.tmp 2) = _ := ev_tmp hu2
    refine st3 ho hwt (v := .pointer (some ⟨bx, 0, none⟩)) (w' := w) ?_ (hK _ w rfl (Below.refl _ _))
    unfold execOp
    simp only [hop, Option.map_some, Option.map_none, e2]
    first | rfl | (go_simp; done) | (go_simp; simp; done) | (go_simp; intro h; omega)
  | 1, _, hs, ho, hop, hds, hdep, hK =>
    have hop : o.op = .load 3 (.tmp 15) := Option.some.inj hop
    obtain ⟨u15, hu15, hv15⟩ := hdep 0 (by decide)
    have hv15' : u15 = .pointer (some ⟨bx, 0, none⟩) := hv15
    subst hv15'
    have e15 : a.eval (.tmp 15) = _ := ev_tmp hu15
    refine st3 ho hwt (v := .int .i64 f) (w' := w) ?_ (hK _ w rfl (Below.refl _ _))
    have k0 : w.cell? ⟨bx, 0, none⟩ = some (.int .i64 f) := (hX.below hbl hX.lt).cell rfl
    unfold execOp
    simp only [hop, Option.map_some, Option.map_none, e15]
    first | rfl | (go_simp; done) | (go_simp; simp; done) | (go_simp; intro h; omega)
  | 2, _, hs, ho, hop, hds, hdep, hK =>
    have hop : o.op = .move (.tmp 6) := Option.some.inj hop
    have hu6 : a.tmps[6]? = some (.slice none 0 0) := (hbase.2.2 6 (by decide)).trans x6
    have e6 : a.eval (.tmp 6) = _ := ev_tmp hu6
    refine st3 ho hwt (v := _) (w' := w) ?_ (hK _ w rfl (Below.refl _ _))
    unfold execOp
    rw [hop, ← e6]
    rfl
  | 3, _, hs, ho, hop, hds, hdep, hK =>
    have hop : o.op = .fieldAddr 24 (.tmp 2) 1 := Option.some.inj hop
    have hu2 : a.tmps[2]? = some (.pointer (some ⟨bx, 0, none⟩)) := (hbase.2.2 2 (by decide)).trans x2
    have e2 : a.eval (.tmp 2) = _ := ev_tmp hu2
    refine st3 ho hwt (v := .pointer (some ⟨bx, 1, none⟩)) (w' := w) ?_ (hK _ w rfl (Below.refl _ _))
    unfold execOp
    simp only [hop, Option.map_some, Option.map_none, e2]
    first | rfl | (go_simp; done) | (go_simp; simp; done) | (go_simp; intro h; omega)
  | 4, _, hs, ho, hop, hds, hdep, hK =>
    have hop : o.op = .load 22 (.tmp 18) := Option.some.inj hop
    obtain ⟨u18, hu18, hv18⟩ := hdep 3 (by decide)
    have hv18' : u18 = .pointer (some ⟨bx, 1, none⟩) := hv18
    subst hv18'
    have e18 : a.eval (.tmp 18) = _ := ev_tmp hu18
    refine st3 ho hwt (v := .slice A n c) (w' := w) ?_ (hK _ w rfl (Below.refl _ _))
    have k1 : w.cell? ⟨bx, 1, none⟩ = some (.slice A n c) := (hX.below hbl hX.lt).cell rfl
    unfold execOp
    simp only [hop, Option.map_some, Option.map_none, e18]
    first | rfl | (go_simp; done) | (go_simp; simp; done) | (go_simp; intro h; omega)
  | 5, _, hs, ho, hop, hds, hdep, hK =>
    have hop : o.op = .call { callee := .builtin .append, args := #[.tmp 17, .tmp 19], argTypes := #[22, 22] } := Option.some.inj hop
    obtain ⟨u17, hu17, hv17⟩ := hdep 2 (by decide)
    have hv17' : u17 = .slice none 0 0 := hv17
    subst hv17'
    have e17 : a.eval (.tmp 17) = _ := ev_tmp hu17
    obtain ⟨u19, hu19, hv19⟩ := hdep 4 (by decide)
    have hv19' : u19 = .slice A n c := hv19
    subst hv19'
    have e19 : a.eval (.tmp 19) = _ := ev_tmp hu19
    obtain ⟨v', w', hrun, h1, h2⟩ := copy_nodes (hA.after hbl) hn hn0 (Nat.le_trans hbase0 hbl.size) o.type
    refine st3 ho hwt (v := v') (w' := w') ?_ (hK _ _ h1 h2)
    unfold execOp
    simp only [hop, resolve, invoke, builtin, Sem.run_bind, Sem.run_pure, Result.andThen_ok, List.map_toArray, List.map_cons, List.map_nil, e17, e19, hrun]
  | 6, _, hs, ho, hop, hds, hdep, hK =>
    have hop : o.op = .build 24 #[(0, .tmp 16), (1, .tmp 20)] := Option.some.inj hop
    obtain ⟨u16, hu16, hv16⟩ := hdep 1 (by decide)
    have hv16' : u16 = .int .i64 f := hv16
    subst hv16'
    have e16 : a.eval (.tmp 16) = _ := ev_tmp hu16
    obtain ⟨u20, hu20, hv20⟩ := hdep 5 (by decide)
    have hv20' : NodesV w base ns u20 := hv20
    have e20 : a.eval (.tmp 20) = _ := ev_tmp hu20
    have hb : (Try.prog).built 24 [(0, Value.int .i64 f), (1, u20)] = some #[.int .i64 f, u20] := by obtain ⟨ab, cap, cs, rfl, _⟩ := hv20'; exact built_crew _ _ _ _
    exact st3 ho hwt (exec_build 24 _ hop _ (show (Try.prog).built 24 [(0, a.eval (.tmp 16)), (1, a.eval (.tmp 20))] = _ from by rw [e16, e20]; exact hb) w) (hK _ w ⟨u20, rfl, hv20'⟩ (Below.refl _ _))
  | 7, _, hs, ho, hop, hds, hdep, hK =>
    have hop : o.op = .load 28 (.tmp 3) := Option.some.inj hop
    have hu3 : a.tmps[3]? = some (.pointer (some ⟨bm, 0, none⟩)) := (hbase.2.2 3 (by decide)).trans x3
    have e3 : a.eval (.tmp 3) = _ := ev_tmp hu3
    refine st3 ho hwt (v := .agg (mkC lo).toArray) (w' := w) ?_ (hK _ w rfl (Below.refl _ _))
    unfold execOp
    simp only [hop, e3, Instr.loadAt, Instr.sureAddr, Sem.run_bind, Sem.run_pure, Result.andThen_ok, run_loadVar_mid w bm 0 28 (mkC lo) _ ((hM.below hbl hM.lt).range) Try.underlying28 rfl (mark_infoL lo)]
  | 8, _, hs, ho, hop, hds, hdep, hK =>
    have hop : o.op = .build 70 #[(0, .tmp 21), (1, .tmp 22)] := Option.some.inj hop
    obtain ⟨u21, hu21, hv21⟩ := hdep 6 (by decide)
    have hv21' : CrV w base f ns u21 := hv21
    have e21 : a.eval (.tmp 21) = _ := ev_tmp hu21
    obtain ⟨u22, hu22, hv22⟩ := hdep 7 (by decide)
    have hv22' : u22 = .agg (mkC lo).toArray := hv22
    subst hv22'
    have e22 : a.eval (.tmp 22) = _ := ev_tmp hu22
    obtain ⟨uu, hu1, hu2⟩ := hv21'
    subst hu1
    have hb : (Try.prog).built 70 [(0, .agg #[.int .i64 f, uu]), (1, .agg (mkC lo).toArray)] = some (msU f uu lo (.slice none 0 0)).toArray := by obtain ⟨ab, cap, cs, rfl, _⟩ := hu2; exact built_rmarks _ _ _ _ _
    exact st3 ho hwt (exec_build 70 _ hop _ (show (Try.prog).built 70 [(0, a.eval (.tmp 21)), (1, a.eval (.tmp 22))] = _ from by rw [e21, e22]; exact hb) w) (hK _ w ⟨uu, rfl, hu2⟩ (Below.refl _ _))
  | 9, _, hs, ho, hop, hds, hdep, hK =>
    have hop : o.op = .box 70 (.tmp 23) := Option.some.inj hop
    obtain ⟨u23, hu23, hv23⟩ := hdep 8 (by decide)
    have hv23' : RlV w base f ns lo u23 := hv23
    have e23 : a.eval (.tmp 23) = _ := ev_tmp hu23
    obtain ⟨uu, rfl, hn1⟩ := hv23'
    have hal : Below w.heap.size w (w.alloc (.cells (msU f uu lo (.slice none 0 0)).toArray 70)) := (Below.refl _ _).alloc (Nat.le_refl _) _
    refine st3 ho hwt (v := .pointer (some ⟨w.heap.size, 0, none⟩)) (w' := w.alloc (.cells (msU f uu lo (.slice none 0 0)).toArray 70)) ?_ (hK _ _ ⟨w.heap.size, uu, rfl, Nat.le_trans hbase0 hbl.size, Blk.new rfl rfl, hn1.below hal⟩ hal)
    unfold execOp
    simp only [hop, e23]
    generalize (msU f uu lo (.slice none 0 0)).toArray = Q at *
    go_simp
    try rfl
  | 10, _, hs, ho, hop, hds, hdep, hK =>
    have hop : o.op = .assign (.tmp 24) := Option.some.inj hop
    obtain ⟨u24, hu24, hv24⟩ := hdep 9 (by decide)
    have hv24' : RxV w base f ns lo u24 := hv24
    have e24 : a.eval (.tmp 24) = _ := ev_tmp hu24
    refine st3 ho hwt (v := _) (w' := w) ?_ (hK _ w hv24 (Below.refl _ _))
    unfold execOp
    rw [hop, ← e24]
    rfl
  | i + 11, hi, _, _, _, _, _, _ => exact absurd hi (by omega)

/-- What the document's New answers. -/
def RNewR (w : World) (E : Int) (f : Int) (ns : List Int) (lo : Mk) (e : Ending) (w' : World) : Prop := Below w.heap.size w w' ∧
  ((E ≠ 0 ∧ e = .returned (.tuple #[.pointer none, .int .i64 E])) ∨ (E = 0 ∧ ∃ g, e = .returned (.tuple #[.pointer (some ⟨g, 0, none⟩), .int .i64 0]) ∧ RfAt w' (fun b => w.heap.size ≤ b ∧ b < w'.heap.size) g (newM f ns lo)))
set_option maxRecDepth 100000 in
set_option maxHeartbeats 3200000 in
theorem rnew_any {w : World} {A : Option Addr} {n c : Nat} {f : Int} {ns : List Int} (hA : ArgI w A n c ns) (lo : Mk) :
    Calls Try.prog 10 #[.agg #[.int .i64 f, .slice A n c], .agg (mkC lo).toArray] w (RNewR w (newE f ns lo) f ns lo) := by
  have hb0 : Below w.heap.size w (w.alloc (.cells #[.int .i64 f, .slice A n c] 24)) := (Below.refl _ _).alloc (Nat.le_refl _) _
  have hb1 : Below (w.alloc (.cells #[.int .i64 f, .slice A n c] 24)).heap.size (w.alloc (.cells #[.int .i64 f, .slice A n c] 24)) ((w.alloc (.cells #[.int .i64 f, .slice A n c] 24)).alloc (.cells (mkC lo).toArray 28)) := (Below.refl _ _).alloc (Nat.le_refl _) _
  have X0 : Blk ((w.alloc (.cells #[.int .i64 f, .slice A n c] 24)).alloc (.cells (mkC lo).toArray 28)) w.heap.size 24 [.int .i64 f, .slice A n c] := Blk.old (Blk.new rfl rfl) _
  have M0 : Blk ((w.alloc (.cells #[.int .i64 f, .slice A n c] 24)).alloc (.cells (mkC lo).toArray 28)) (w.heap.size + 1) 28 (mkC lo) := Blk.new rfl (by simp)
  have A0 := (hA.after hb0).after hb1
  have hb01 := hb0.trans (hb1.mono hb0.size)
  obtain ⟨W0, hW0⟩ : ∃ W0, (w.alloc (.cells #[.int .i64 f, .slice A n c] 24)).alloc (.cells (mkC lo).toArray 28) = W0 := ⟨_, rfl⟩
  have q0 := X0.cell (i := 0) rfl
  have q1 := X0.cell (i := 1) rfl
  have qm := M0.cell (i := 0) (show (mkC lo)[0]? = some (.int .i64 lo.s) from rfl)
  have hck : ∀ z, chkE f ns = z → Calls Try.prog 29 #[.agg #[.int .i64 f, .slice A n c]] ((w.alloc (.cells #[.int .i64 f, .slice A n c] 24)).alloc (.cells (mkC lo).toArray 28)) fun e w' => e = .returned (.int .i64 z) ∧ Below W0.heap.size W0 w' := fun z hz => by
    subst hz
    rw [hW0] at A0 ⊢
    exact rcheck_any f A n c ns _ A0
  have HC := Lib.hid hck
  have hln := hA.1
  have H := Lib.hid (And.intro hb01 (And.intro X0 (And.intro M0 A0)))
  have HW := Lib.hid hW0
  clear hck hb0 hb1 hb01 X0 M0 A0 hA hW0
  cases hok : okC f ns with
  | false =>
    have hE : newE f ns lo = 110 := by unfold newE; rw [hok, if_pos rfl]
    have hc := Lib.hid (HC.out 110 (chk1 hok))
    rw [hE]
    clear hE HC hok
    generalize hC : mkC lo = C at *
    go_enter Try.func10, Try.ntmps10
    go_wp2_with (go_at_call 29; refine hc.out.mono ?_; rintro e w1 ⟨rfl, hb1⟩; replace hb1 := Lib.hid hb1)
    go_ret2
    have h1 := H.out.1
    rw [HW.out] at h1
    exact ⟨h1.trans (hb1.out.mono h1.size), .inl ⟨by decide, rfl⟩⟩
  | true =>
    have hc := Lib.hid (HC.out 0 (chk0 hok))
    have keepB : Hid (∀ w1, Below W0.heap.size W0 w1 → Below w.heap.size w w1 ∧ Blk w1 w.heap.size 24 [.int .i64 f, .slice A n c] ∧ Blk w1 (w.heap.size + 1) 28 (mkC lo) ∧ ArgI w1 A n c ns ∧ w1.cell? ⟨w.heap.size + 1, 0, none⟩ = some (.int .i64 lo.s)) := Lib.hid fun w1 hb => by
      obtain ⟨h1, h2, h3, h4⟩ := H.out
      rw [HW.out] at h1 h2 h3 h4
      exact ⟨h1.trans (hb.mono h1.size), h2.below hb h2.lt, h3.below hb h3.lt, h4.after hb, (h3.below hb h3.lt).cell rfl⟩
    by_cases hl : lo.s < 0 ∨ 9007199254740991 < lo.s
    · have hE : newE f ns lo = 9 := by unfold newE; rw [hok, if_neg (by simp), if_pos hl]
      rw [hE]
      have hmy := fun W => may_any lo.s W
      have ed : decide (0 ≤ lo.s ∧ lo.s ≤ 9007199254740991) = false := decide_eq_false (by omega)
      simp only [ed] at hmy
      have Hmy := Lib.hid hmy
      clear hE HC hok hmy ed
      have fin : ∀ w1, Below W0.heap.size W0 w1 → Below w.heap.size w w1 ∧ w1.cell? ⟨w.heap.size + 1, 0, none⟩ = some (.int .i64 lo.s) := fun w1 hb => ⟨(keepB.out w1 hb).1, (keepB.out w1 hb).2.2.2.2⟩
      have HF := Lib.hid fin
      clear fin keepB
      generalize hC : mkC lo = C at *
      go_enter Try.func10, Try.ntmps10
      go_wp2_with (first
        | (go_at_call 29; refine hc.out.mono ?_; rintro e w1 ⟨rfl, hb1⟩; have km := (HF.out w1 hb1).2; replace hb1 := Lib.hid hb1)
        | (go_at_call 30; refine (Hmy.out _).mono ?_; rintro e w2 ⟨rfl, rfl⟩))
      go_ret2
      exact ⟨(HF.out _ hb1.out).1, .inl ⟨by decide, rfl⟩⟩
    · have hE : newE f ns lo = 0 := by unfold newE; rw [hok, if_neg (by simp), if_neg hl]
      have hmk := newE_ok hE
      rw [hE]
      have hmy := fun W => may_any lo.s W
      have ed : decide (0 ≤ lo.s ∧ lo.s ≤ 9007199254740991) = true := decide_eq_true (by omega)
      simp only [ed] at hmy
      have Hmy := Lib.hid hmy
      have hlen := ((okC_iff f ns).1 hok).1
      have hn7 : ns.length ≤ 7 := by omega
      obtain ⟨Z, hZ, hmr⟩ := make_rows n (by omega)
      have hN := Lib.hid (And.intro hmk (And.intro (show n ≤ 1000 by omega) (And.intro (show 0 < n by omega) (And.intro hZ (And.intro hmr hln)))))
      clear hE HC hok hmk hl hlen hln hmy ed hZ hmr
      obtain ⟨C, hC⟩ : ∃ C, mkC lo = C := ⟨_, rfl⟩
      have HCC := Lib.hid hC
      have keepB2 : Hid (∀ w1, Below W0.heap.size W0 w1 → w1.cell? ⟨w.heap.size + 1, 0, none⟩ = some (.int .i64 lo.s)) := Lib.hid fun w1 hb => (keepB.out w1 hb).2.2.2.2
      rw [hC] at hc q0 q1 qm ⊢
      clear hC
      go_enter Try.func10, Try.ntmps10
      go_upto_region 6 with (first
        | (go_at_call 29; refine hc.out.mono ?_; rintro e w1 ⟨rfl, hb1⟩; have km := keepB2.out w1 hb1; have hk1 := keepB.out w1 hb1; replace hb1 := Lib.hid hk1; clear hk1)
        | (go_at_call 30; refine (Hmy.out _).mono ?_; rintro e w2 ⟨rfl, hww⟩; have hww2 := hww.symm; subst hww2; clear hww))
      refine region_rule4 (P := Try.prog) 11 33 rwD rwG rwS (rwR w.heap.size (w.heap.size + 1) w.heap.size A n c f lo ns) _ _ (by kernel_rfl) rfl rfl (by kernel_rfl) (by decide +kernel) (rw_gb w.heap.size (w.heap.size + 1) w.heap.size A n c f lo ns) (rw_sk w.heap.size (w.heap.size + 1) w.heap.size A n c f lo ns) (rw_on w.heap.size (w.heap.size + 1) w.heap.size A n c f lo ns) (rw_step w.heap.size (w.heap.size + 1) w.heap.size A n c f lo ns (by rfl) (by kernel_rfl) rfl rfl rfl hb1.out.2.1 hb1.out.2.2.1 hb1.out.2.2.2.1 hN.out.2.1 hN.out.2.2.1 hb1.out.1.size) ?fin
      case fin =>
        intro a w6 hbase hbl hall
        obtain ⟨v7, hv7, hR7⟩ := hall 10 (by decide)
        obtain ⟨g, uu, rfl, hg1, hg2, ab, cap, cs, rfl, hg3, hg4, hg5, hg6, hg7⟩ := hR7
        obtain ⟨gg, hgge, hgg⟩ := base_lit hbase [15, 16, 17, 18, 19, 20, 21, 22, 23, 24, 7] (by rfl)
        have q7 : gg 7 = .pointer (some ⟨g, 0, none⟩) := hgge 7 _ hv7
        simp only [List.foldl_cons, List.foldl_nil, List.setIfInBounds_toArray, List.set_cons_zero, List.set_cons_succ, q7] at hgg
        rw [hgg]
        have b6 := hb1.out.1.trans (hbl.mono hb1.out.1.size)
        have k1 : w6.cell? ⟨w.heap.size, 1, none⟩ = some (.slice A n c) := (hb1.out.2.1.below hbl hb1.out.2.1.lt).cell rfl
        obtain ⟨u1, u2, e1, e2, e3, e4, e5, e6⟩ := RxV.marks hg1 hg2 hg3 hg4 hg5 hg6 hg7 hN.out.1 b6.size
        rw [hN.out.2.2.2.2.2] at e1 e2
        rw [← hN.out.2.2.2.1] at e1
        have hmr := hN.out.2.2.2.2.1 w6
        rw [e1] at hmr
        have HQ := Lib.hid (And.intro hmr (And.intro e2 (And.intro (b6.trans e5) e6)))
        clear hmr e1 e2 e5 e6 b6 hall hbase hbl hg1 hg2 hg3 hg4 hg5 hg6 hg7 km
        go_wp2_with (refine mk_g rfl 68 _ _ rfl (.int .i64 (n : Int)) (.int .i64 (n : Int)) rfl rfl _ u1 HQ.out.1 ?_; simp only [Act.put])
        go_ret2
        rw [HQ.out.2.1]
        exact ⟨HQ.out.2.2.1, .inr ⟨rfl, g, rfl, HQ.out.2.2.2⟩⟩
end Go.Proofs.Ytenccpccpjjkmaa
