/-
  Laid together for a hand-in: OfA9, Apart9, Cut9, Two9.
-/
import Derived.Test.YtbdocaohnigekaaZ13
import Derived.Maps.AppendAt
import Derived.Deep.DeepCutAuto
import Derived.Deep.RegionHeld3
import Derived.Deep.RegionWith

namespace Go.Proofs.Ytbdocaohnigekaa
open Go.RowKit Go.Maps
set_option linter.unusedVariables false

set_option maxRecDepth 100000 in
set_option maxHeartbeats 1600000 in
theorem tof_any (B g bm : Nat) (s : Bk) (N : Nat → Prop) (w : World) (hk : Kb B w g bm s N) (hB : B ≤ w.heap.size) (hL : s.1.length + 20000 < 1000000) (hs : s.2.2 + 20000 < 1000000) (K : Nat → Prop) (A : Option Addr) (n c : Nat) (ls : List (List UInt8)) (hn : ls.length = n) (h1 : 1 ≤ n) (h2 : n ≤ 1024)
    (hls : ∀ x ∈ ls, x.length ≤ 65535) (hl : LvsAt w K A ls) (hK : ∀ j, K j → j < w.heap.size ∧ (j < B ∨ N j)) :
    Calls Try.prog 17 #[.pointer (some ⟨g, 0, none⟩), .slice A n c] w fun e w' =>
      e = .returned (.tuple #[.agg (cbs (rootD (lows ls))).toArray, .int .i64 0]) ∧ Kb B w' g bm (noteAll s (insTo ls (dep n - 1))) N ∧ Out (Tn B bm w N) w w' := by
  have hb1 : (1 : Int) ≤ (n : Int) := by omega
  have hb2 : (n : Int) ≤ 1024 := by omega
  obtain ⟨w1, hw1⟩ : ∃ w1, (w.alloc (.cells #[.slice A n c] 22)).alloc (.cells (cbs (List.replicate 32 0)).toArray 38) = w1 := ⟨_, rfl⟩
  have hbA : Below w.heap.size w w1 := by rw [← hw1]; exact ((Below.refl _ _).alloc (Nat.le_refl _) _).alloc (by simp) _
  have hz1 : w1.heap.size = w.heap.size + 2 := by rw [← hw1]; simp
  have hX : Blk w1 w.heap.size 22 [.slice A n c] := by rw [← hw1]; exact (Blk.new rfl rfl).old _
  have hZ : Blk w1 (w.heap.size + 1) 38 (cbs (List.replicate 32 0)) := by rw [← hw1]; exact Blk.new rfl (by simp)
  have hst : Stays K w w1 := ⟨hbA.size, fun j hj => hbA.block j (hK j hj).1⟩
  have hl1 := hl.stays hst
  have Hc : Hid (Calls Try.prog 33 #[.slice A n c, .func (.func 34) #[] #[]] ((w.alloc (.cells #[.slice A n c] 22)).alloc (.cells (cbs (List.replicate 32 0)).toArray 38)) fun e w' => e = .returned (.bool false) ∧ w' = ((w.alloc (.cells #[.slice A n c] 22)).alloc (.cells (cbs (List.replicate 32 0)).toArray 38))) := by
    rw [hw1]; exact Lib.hid (contains_none (c := c) hl1 hn h2 hls)
  have Hp : Hid (Calls Try.prog 30 #[.pointer (some ⟨g, 0, none⟩), .int .i64 (n : Int), .func (.func 36) #[] #[.pointer (some ⟨w.heap.size, 0, none⟩)]] ((w.alloc (.cells #[.slice A n c] 22)).alloc (.cells (cbs (List.replicate 32 0)).toArray 38)) (PileP g n (.func (.func 36) #[] #[.pointer (some ⟨w.heap.size, 0, none⟩)]) w1)) := by
    rw [hw1]; exact Lib.hid (pile_any g n 36 #[.pointer (some ⟨w.heap.size, 0, none⟩)] w1 h1 h2)
  obtain ⟨D, hD⟩ : ∃ D, cbs (rootD (lows ls)) = D := ⟨_, rfl⟩
  have hrl : (rootD (lows ls)).length = 32 := root_len (by rw [lows_len]; omega) (all32_lows _)
  have hD32 : D.length = 32 := by rw [← hD, cbs_length, hrl]
  have hD1 : D.toArray.all (·.oneCell') = true := by rw [← hD]; exact cbs_one' _
  have hnot : ∀ (x : Bool) (w : World), (Op.unary .not (.bool x)).run Try.prog w = .ok (.bool (!x)) w := fun _ _ => rfl
  have hx0 : w1.cell? ⟨w.heap.size, 0, none⟩ = some (.slice A n c) := hX.cell rfl
  have H := Lib.hid (And.intro hk (And.intro hB (And.intro hL (And.intro hs (And.intro hn (And.intro hls (And.intro hl1 (And.intro hK (And.intro hbA (And.intro hz1 (And.intro hX (And.intro hZ (And.intro hD (And.intro hD32 hD1))))))))))))))
  rw [hD]
  have Hw1 := Lib.hid hw1
  clear hk hB hL hs hn hls hl hl1 hK hbA hz1 hX hZ hst hD hD32 hD1 hrl
  go_enter Try.func17, Try.ntmps17
  go_wp2_with (first | (go_at_call 28; refine (isCount_yes _ _ hb1 hb2).mono ?_; rintro e wx ⟨rfl, rfl⟩) | (go_at_call 33; refine Hc.out.mono ?_; rintro e wx ⟨rfl, rfl⟩))
  refine Hp.out.mono ?_
  rintro e w2 ⟨L, lv, c2, rfl, hP, hdc, hcm⟩
  obtain ⟨hk, hB, hL, hs, hn, hls, hl1, hK, hbA, hz1, hX, hZ, hD, hD32, hD1⟩ := H.out
  have hd1 := dep_pos n
  have hd6 := dep_le h2
  obtain ⟨d, hd⟩ : ∃ d, dep n = d := ⟨_, rfl⟩
  rw [hd] at hP hdc hd1 hd6
  have hk1 : Kb B w1 g bm s (fun i => N i ∨ (w.heap.size ≤ i ∧ i < w1.heap.size)) := hk.belowN hbA fun i hi => hi
  have hb2' := hP.bel
  have hpre := pile_pre (ls := ls) (N2 := fun i => (N i ∨ (w.heap.size ≤ i ∧ i < w1.heap.size)) ∨ (w1.heap.size ≤ i ∧ i < w2.heap.size)) hn.symm hP hk1 (Nat.le_trans hB hbA.size) (fun i => Iff.rfl)
  have hKw : ∀ j, (K j ∨ j = w.heap.size) → j < w1.heap.size := fun j hj => by
    rcases hj with hj | rfl
    · have := (hK j hj).1; omega
    · omega
  have hst2 : Stays (fun j => K j ∨ j = w.heap.size) w1 w2 := ⟨hb2'.size, fun j hj => hb2'.block j (hKw j hj)⟩
  have hlf : Lf B 36 [.pointer (some ⟨w.heap.size, 0, none⟩)] ls L (d - 1) (fun j => K j ∨ j = w.heap.size) w2 (fun i => (N i ∨ (w.heap.size ≤ i ∧ i < w1.heap.size)) ∨ (w1.heap.size ≤ i ∧ i < w2.heap.size)) :=
    ⟨(ofLeaf_at hX (hl1.more fun j hj => .inl hj) hn h2 (.inr rfl)).later hst2, fun j hj => ⟨Nat.lt_of_lt_of_le (hKw j hj) hb2'.size, by
      rcases hj with hj | rfl
      · rcases (hK j hj).2 with h | h
        · exact .inl h
        · exact .inr (.inl (.inl h))
      · exact .inr (.inl (.inr ⟨Nat.le_refl _, by omega⟩)), fun i hi ht => by
      have := (hP.inn i hi _ (Lv.turn_has ht)).1
      have := hKw j hj
      omega⟩⟩
  have hIH := ask_all B g bm s ls 36 [.pointer (some ⟨w.heap.size, 0, none⟩)] _ L (fun j => K j ∨ j = w.heap.size) hL hs (by omega) (by omega) (ask0O B g bm s ls L w.heap.size (fun j => K j ∨ j = w.heap.size) hL hs hls (by omega) (by omega)) (d - 1) (by omega)
  have hrow := hP.row
  have hd' : d - 1 + 1 = d := by omega
  rw [hd'] at hrow
  have hck := range_cell hrow (i := d - 1) (by omega)
  have hede : dep ls.length = d := by rw [hn, hd]
  have hfirst := rootOf_first B g bm 36 s ls [.pointer (some ⟨w.heap.size, 0, none⟩)] _ L (fun j => K j ∨ j = w.heap.size) w2 _ lv c2 (by omega) (by omega) (by rw [hede]; exact hIH) (by rw [hede]; exact hpre) (by rw [hede]; exact hlf) (by rw [hede]; exact hck) (by rw [hede]; exact hdc)
  rw [hede, hD] at hfirst
  have Hf := Lib.hid hfirst
  have H2 := Lib.hid (And.intro hP (And.intro hb2' hd))
  rw [hd]
  clear hk hB hL hs hn hls hl1 hK hbA hz1 hX hZ hD hP hk1 hb2' hpre hKw hst2 hlf hIH hrow hd' hck hede hfirst hdc hcm hd1 hd6 hd hx0 hD32 hD1
  go_wp2_with fail
  refine Hf.out.mono ?_
  rintro e w3 ⟨R, rfl, hPo⟩
  obtain ⟨hk, hB, hL, hs, hn, hls, hl1, hK, hbA, hz1, hX, hZ, hD, hD32, hD1⟩ := H.out
  obtain ⟨hP, hb2', hd⟩ := H2.out
  have hTT : ∀ j, TT L (d - 1) j → w1.heap.size ≤ j := fun j ⟨i, hi, ht⟩ => (hP.inn i hi _ (Lv.turn_has ht)).1
  have hZ3 : Blk w3 (w.heap.size + 1) 38 (cbs (List.replicate 32 0)) := hPo.out.blk (hZ.below hb2' (by omega)) fun e => by
    rcases e with e | e
    · exact e.2.1 (.inl (.inr ⟨by omega, by omega⟩))
    · have := hTT _ e; omega
  have hsD : D.toArray.size = 32 := by rw [List.size_toArray]; exact hD32
  have hth : w3.there (w.heap.size + 1) 0 D.toArray.size := by
    have e := hZ3.there
    rw [cbs_length, List.length_replicate] at e
    rw [hsD]; exact e
  have hi : (Try.prog.info? 38).map (·.size) = some D.toArray.size := by rw [hsD]; exact info32b
  have hR := hZ3.setAll (vs := D) (by rw [hD32, cbs_length, List.length_replicate])
  have hKf : Kb B (w3.setCells (w.heap.size + 1) 0 D) g bm (noteAll s (insTo ls (d - 1))) N := (Kb.store hPo.kb (.inl (.inl (.inr ⟨by omega, by omega⟩))) 0 D).less fun i hi => .inl (.inl (.inl hi))
  have hOf : Out (Tn B bm w N) w (w3.setCells (w.heap.size + 1) 0 D) := by
    refine Out.store ?_ (by omega) 0 D
    have hb02 := hbA.trans (hb2'.mono hbA.size)
    refine (Out.ofBelow (Tn B bm w N) hb02).trans hPo.out fun i hi hs => ?_
    rcases hs with hs | hs
    · refine ⟨hs.1, fun e => hs.2.1 (.inl (.inl e)), ?_⟩
      rcases hs.2.2 with e | ⟨cs, t, fr, hc'⟩
      · exact .inl e
      · exact .inr ⟨cs, t, fr, (hb02.block i hi).symm.trans hc'⟩
    · have := hTT i hs; omega
  have Hth := Lib.hid (And.intro hth (And.intro hi (And.intro hD1 (And.intro hR (And.intro hKf hOf)))))
  clear hk hB hL hs hn hls hl1 hK hbA hz1 hX hZ hD hD32 hD1 hP hb2' hd hTT hZ3 hsD hth hi hR hKf hOf hPo
  go_wp2_with (refine wpList_store_mid rfl 38 _ _ rfl (w.heap.size + 1) 0 D.toArray rfl rfl Hth.out.1 Hth.out.2.1 Hth.out.2.2.1 ?_)
  refine bodyPost_ret (results_row_tmp rfl _ _ (w.heap.size + 1) 38 D.toArray (0, 0) _ rfl Hth.out.2.2.2.1 Try.underlying38 rfl Hth.out.2.1) rfl ?_
  exact ⟨rfl, by rw [H2.out.2.2]; exact Hth.out.2.2.2.2.1, Hth.out.2.2.2.2.2⟩
end Go.Proofs.Ytbdocaohnigekaa

namespace Go.Proofs.Ytbdocaohnigekaa
set_option linter.unusedVariables false

theorem noteAll_mem (s : Bk) (ls : List (List UInt8)) (y : List UInt8) : y ∈ (noteAll s ls).1 ↔ y ∈ s.1 ∨ (y ∈ ls ∧ y.length ≤ 65536) := by
  induction ls generalizing s with
  | nil => simp [noteAll]
  | cons x ls ih =>
    have e : noteAll s (x :: ls) = noteAll (stepL s x) ls := rfl
    rw [e, ih, stepL_mem, List.mem_cons]
    constructor
    · rintro ((h | ⟨rfl, h⟩) | h)
      · exact .inl h
      · exact .inr ⟨.inl rfl, h⟩
      · exact .inr ⟨.inr h.1, h.2⟩
    · rintro (h | ⟨rfl | h, h2⟩)
      · exact .inl (.inl h)
      · exact .inl (.inr ⟨rfl, h2⟩)
      · exact .inr ⟨h, h2⟩
theorem noteAll_good (s : Bk) (ls : List (List UInt8)) (h : Unmixed s) : Unmixed (noteAll s ls) := by
  induction ls generalizing s with
  | nil => exact h
  | cons x ls ih => exact ih _ (stepL_good s x h)
theorem flat_inj {l l' : List Dg} (h : All32 l) (h' : All32 l') (hl : l.length = l'.length) (e : l.flatten = l'.flatten) : l = l' := by
  apply List.ext_getElem hl
  intro i h1 h2
  rw [← flat_get h h1, ← flat_get h' h2, e]
theorem ups_mem {ls : List (List UInt8)} {n k : Nat} (hk : k < n) {x : List UInt8} (hx : x ∈ ups (lvl (lows ls) k)) : x ∈ insTo ls n := by
  induction n with
  | zero => omega
  | succ n ih =>
    rw [insTo_succ, List.mem_append]
    by_cases h : k < n
    · exact .inl (ih h)
    · have : k = n := by omega
      subst this
      exact .inr hx
theorem leaf_mem {ls : List (List UInt8)} (n : Nat) {x : List UInt8} (hx : x ∈ ls) : leafIn x ∈ insTo ls n := by
  induction n with
  | zero => exact List.mem_map.2 ⟨x, hx, rfl⟩
  | succ n ih => rw [insTo_succ, List.mem_append]; exact .inl ih
theorem upIn_small {l : List Dg} (h : All32 l) (j : Nat) : (upIn (four l j)).length ≤ 65536 := by
  unfold upIn
  rw [List.length_cons, flat_len (h.four j), four_len]
  omega
theorem ups_at {l : List Dg} {j : Nat} (hj : j < (l.length + 3) / 4) : upIn (four l j) ∈ ups l := List.mem_map.2 ⟨j, List.mem_range.2 hj, rfl⟩

section
variable {L : List (List UInt8)} {ls ls' : List (List UInt8)} {n : Nat}
/-- One level down. -/
theorem next_inj (hU : ∀ x ∈ L, ∀ y ∈ L, digest x = digest y → x = y) {l l' : List Dg} (h : All32 l) (h' : All32 l') (hl : l.length = l'.length) (hm : ∀ x ∈ ups l, x.length ≤ 65536 → x ∈ L) (hm' : ∀ x ∈ ups l', x.length ≤ 65536 → x ∈ L) (e : next l = next l') : l = l' := by
  apply List.ext_getElem hl
  intro i h1 h2
  have hj : i / 4 < (l.length + 3) / 4 := by omega
  have e1 := next_get l (i / 4)
  have e2 := next_get l' (i / 4)
  rw [if_pos hj] at e1
  rw [if_pos (by omega), ← e, e1] at e2
  have e3 := hU _ (hm _ (ups_at hj) (upIn_small h _)) _ (hm' _ (ups_at (by omega)) (upIn_small h' _)) (Option.some.inj e2)
  unfold upIn at e3
  injection e3 with _ e3
  have e4 := flat_inj (h.four (i / 4)) (h'.four (i / 4)) (by rw [four_len, four_len, hl]) e3
  have g1 := four_get l (i / 4) (i % 4) (by omega)
  have g2 := four_get l' (i / 4) (i % 4) (by omega)
  rw [show 4 * (i / 4) + i % 4 = i by omega] at g1 g2
  rw [e4, g2, List.getElem?_eq_getElem h1, List.getElem?_eq_getElem h2] at g1
  exact (Option.some.inj g1).symm
theorem lvl_inj (hU : ∀ x ∈ L, ∀ y ∈ L, digest x = digest y → x = y) (hl : ls.length = ls'.length) (hm : ∀ x ∈ insTo ls n, x.length ≤ 65536 → x ∈ L) (hm' : ∀ x ∈ insTo ls' n, x.length ≤ 65536 → x ∈ L) :
    ∀ k, k ≤ n → lvl (lows ls) k = lvl (lows ls') k → lows ls = lows ls'
  | 0, _, e => e
  | k + 1, hk, e => lvl_inj hU hl hm hm' k (by omega) (next_inj hU (all32_lvl (all32_lows _) k) (all32_lvl (all32_lows _) k) (by rw [lvl_len, lvl_len, lows_len, lows_len, hl]) (fun x hx => hm x (ups_mem (by omega) hx)) (fun x hx => hm' x (ups_mem (by omega) hx)) e)
theorem lows_inj (hU : ∀ x ∈ L, ∀ y ∈ L, digest x = digest y → x = y) (hl : ls.length = ls'.length) (hm : ∀ x ∈ insTo ls n, x.length ≤ 65536 → x ∈ L) (hm' : ∀ x ∈ insTo ls' n, x.length ≤ 65536 → x ∈ L) (h : ∀ x ∈ ls, x.length ≤ 65535) (h' : ∀ x ∈ ls', x.length ≤ 65535) (e : lows ls = lows ls') : ls = ls' := by
  apply List.ext_getElem hl
  intro i h1 h2
  have e1 : (lows ls)[i]? = (lows ls')[i]? := by rw [e]
  unfold lows at e1
  rw [List.getElem?_map, List.getElem?_map, List.getElem?_eq_getElem h1, List.getElem?_eq_getElem h2] at e1
  have e2 : digest (leafIn ls[i]) = digest (leafIn ls'[i]) := Option.some.inj e1
  have l1 := h _ (List.getElem_mem h1)
  have l2 := h' _ (List.getElem_mem h2)
  have e3 := hU _ (hm _ (leaf_mem n (List.getElem_mem h1)) (by rw [leafIn_len]; omega)) _ (hm' _ (leaf_mem n (List.getElem_mem h2)) (by rw [leafIn_len]; omega)) e2
  unfold leafIn at e3
  injection e3
end
/-- As long as there is no clash, like roots are of like leaves. -/
theorem roots_apart (ls ls' : List (List UInt8)) (m : Nat) (hl : ls.length = m) (hl' : ls'.length = m) (h1 : 1 ≤ m) (h : ∀ x ∈ ls, x.length ≤ 65535) (h' : ∀ x ∈ ls', x.length ≤ 65535)
    (hc : (noteAll (noteAll ([], false, 0) (insTo ls (dep m - 1))) (insTo ls' (dep m - 1))).2.1 = false) (e : rootD (lows ls) = rootD (lows ls')) : ls = ls' := by
  have hU := noteAll_good _ (insTo ls' (dep m - 1)) (noteAll_good ([], false, 0) (insTo ls (dep m - 1)) (fun _ x hx => by simp at hx)) hc
  have hm : ∀ x ∈ insTo ls (dep m - 1), x.length ≤ 65536 → x ∈ (noteAll (noteAll ([], false, 0) (insTo ls (dep m - 1))) (insTo ls' (dep m - 1))).1 := fun x hx hs => by
    rw [noteAll_mem, noteAll_mem]; exact .inl (.inr ⟨hx, hs⟩)
  have hm' : ∀ x ∈ insTo ls' (dep m - 1), x.length ≤ 65536 → x ∈ (noteAll (noteAll ([], false, 0) (insTo ls (dep m - 1))) (insTo ls' (dep m - 1))).1 := fun x hx hs => by
    rw [noteAll_mem]; exact .inr ⟨hx, hs⟩
  have r1 := root_one (low := lows ls) (by rw [lows_len]; omega)
  have r2 := root_one (low := lows ls') (by rw [lows_len]; omega)
  rw [lows_len, hl] at r1
  rw [lows_len, hl'] at r2
  exact lows_inj hU (by omega) hm hm' h h' (lvl_inj hU (by omega) hm hm' (dep m - 1) (Nat.le_refl _) (by rw [r1, r2, e]))
end Go.Proofs.Ytbdocaohnigekaa

namespace Go.Proofs.Ytbdocaohnigekaa
open Go.RowKit Go.Maps
set_option linter.unusedVariables false
set_option linter.unusedSimpArgs false

theorem op_append9 {P : Program} {ops : Array Oper} {Q : Exit → Act → World → Prop} {i : Nat} {oi : Oper} {a : Act} {w : World} {K : Act → World → Prop} {d : Nat} (hi : ops[i]? = some oi) (hd : oi.dst = some d) (hw : Region.wanted oi (yielded ops a.tmps) = true) (s x : Operand) (t1 t2 : TypeId)
    (ho : oi.op = .call { callee := .builtin .append, args := #[s, x], argTypes := #[t1, t2] }) (v xs v' : Value) (w' : World) (hs : a.eval s = v) (hx : a.eval x = xs)
    (hrun : (Builtin.append_ #[t1, t2] oi.type #[v, xs]).run P w = .ok v' w') (h : K { a with tmps := a.tmps.setIfInBounds d v' } w') : wpOp P ops Q i K a w := by
  refine wpOp_step hi (fun K' hK => ?_)
  rw [if_pos hw]
  unfold Oper.wp execOp
  simp only [ho, resolve, invoke, builtin, Sem.run_bind, Sem.run_pure, Result.andThen_ok, List.map_toArray, List.map_cons, List.map_nil, hs, hx, hrun]
  exact hK _ _ (by unfold Act.put; rw [hd]; exact h)
theorem sl_info9 : (Try.prog.info? 34).map (fun i => (i.zero.map (fun z => z.cells.size), i.size, i.bytes)) = some (some 1, 1, 24) := by kernel_rfl
theorem run_appendS (w : World) (base : Nat) (v : Value) (n : Nat) (vs : List Value) (hown : w.ownsRow base 34 1 v n vs) (g : Nat) (x : Value) (hx : x.oneCell' = true) (hg : Blk w g 34 [x]) (hn : n ≤ 100000) (hbase : base ≤ w.heap.size) (ty : TypeId) :
    ∃ v' w', (Builtin.append_ #[22, 22] ty #[v, .slice (some ⟨g, 0, none⟩) 1 1]).run Try.prog w = .ok v' w' ∧ w'.ownsRow base 34 1 v' (n + 1) (vs ++ [x]) ∧ w.grownBy w' v.ownBlock := by
  have h := sl_info9
  cases hi : Try.prog.info? 34 with
  | none => rw [hi] at h; cases h
  | some i0 =>
    rw [hi] at h
    simp only [Option.map_some, Option.some.injEq, Prod.mk.injEq] at h
    obtain ⟨h1, h2, h3⟩ := h
    cases hz : i0.zero with
    | none => rw [hz] at h1; cases h1
    | some z0 =>
      rw [hz] at h1
      simp only [Option.map_some, Option.some.injEq] at h1
      obtain ⟨v', w', e1, e2, e3, _, _⟩ := run_append_own_at (P := Try.prog) w base 22 ty 34 i0 z0 1 24 Try.underlying22 hi hz h2 h3 h1 (by decide) v n vs hown ⟨g, 0, none⟩ 1 1 [x]
        (by simp) (fun j u hu => by rw [add_mk, Nat.zero_add]; exact hg.cell hu) (fun u hu => by rw [List.mem_singleton.1 hu]; exact hx) (by simp only [maxLen]; omega) (by omega) hbase
      exact ⟨v', w', e1, e2, e3⟩
theorem row_alloc {w : World} {base n size : Nat} {e : TypeId} {v : Value} {vs : List Value} (h : w.ownsRow base e size v n vs) (o : Obj) : (w.alloc o).ownsRow base e size v n vs := row_stay h fun b cs _ hc => heap_alloc_old _ _ (by
  rcases Nat.lt_or_ge b w.heap.size with hh | hh
  · exact hh
  · rw [Array.getElem?_eq_none hh] at hc; cases hc)

/-- Headers of slices that came in ahead of w0, in a row of its own. -/
def Hdr (w0 w : World) (v : Value) (xs : List (List UInt8)) : Prop := ∃ vs, w.ownsRow w0.heap.size 34 1 v xs.length vs ∧ ∀ j (hj : j < xs.length), ∃ Aj cj, vs[j]? = some (.slice Aj xs[j].length cj) ∧ xs[j].length ≤ cj ∧ cj ≤ maxLen ∧ Bs w0 Aj xs[j]
theorem Hdr.lvs {w0 w : World} {v : Value} {xs : List (List UInt8)} (h : Hdr w0 w v xs) (hb : Below w0.heap.size w0 w) (hne : xs ≠ []) : ∃ b c, v = .slice (some ⟨b, 0, none⟩) xs.length c ∧ w0.heap.size ≤ b ∧ b < w.heap.size ∧ LvsAt w (fun j => j = b ∨ j < w0.heap.size) (some ⟨b, 0, none⟩) xs ∧ (∀ j, w.frozen? ⟨b, j, none⟩ = false) ∧ (∀ (j : Nat) (hj : j < xs.length), ∀ p, (∃ cj, w.cell? ⟨b, 0 + j, none⟩ = some (.slice (some p) xs[j].length cj)) → xs[j] ≠ [] → p.block < w0.heap.size) := by
  obtain ⟨vs, hr, hc⟩ := h
  have hh := hr
  rcases hr.2 with ⟨_, e⟩ | ⟨b, c, cur, rfl, hb0, hg, hnc, hcm, _⟩
  · exact absurd (List.eq_nil_of_length_eq_zero e) hne
  · refine ⟨b, c, rfl, hb0, row_lt hh, ⟨b, 0, rfl, .inl rfl, fun j hj => ?_⟩, ?_, fun j hj p ⟨c', hc'⟩ hn => ?_⟩
    · obtain ⟨Aj, cj, h1, h2, h3, h4⟩ := hc j hj
      refine ⟨Aj, cj, ?_, h2, h3, h4.after hb, fun a e hn => .inr ?_⟩
      · rw [Nat.zero_add]
        have hz := World.ownsRow.cellAt hh j (by omega)
        rw [hz]; exact h1
      · obtain ⟨b', off, e', hlt, _⟩ := h4.2 (by
          cases hx : xs[j] with
          | nil => exact absurd hx hn
          | cons y ys => simp)
        rw [e] at e'
        cases e'
        exact hlt
    · obtain ⟨cs, hcs⟩ := row_block hh (b := b) rfl
      exact fun j => frozen_of_row w b j cs _ hcs
    · obtain ⟨Aj, cj, h1, h2, h3, h4⟩ := hc j hj
      rw [Nat.zero_add, World.ownsRow.cellAt hh j (by omega), h1] at hc'
      injection hc' with hc'
      injection hc' with e1 _ _
      obtain ⟨b', off, e', hlt, _⟩ := h4.2 (by
        cases hx : xs[j] with
        | nil => exact absurd hx hn
        | cons y ys => simp)
      rw [e1] at e'
      cases e'
      exact hlt

theorem LvsAt.set {w : World} {K : Nat → Prop} {b a : Nat} {xs : List (List UInt8)} (h : LvsAt w K (some ⟨b, 0, none⟩) xs) (ha : a < xs.length) {Ay : Option Addr} {my cy : Nat} {y : List UInt8} (hy : Bs w Ay y) (hm : y.length = my) (hmc : my ≤ cy) (hcm : cy ≤ maxLen) (hKy : ∀ p, Ay = some p → y ≠ [] → K p.block) (hnb : ∀ j, K j → j ≠ b → True) (hb : ∀ (j : Nat) (hj : j < xs.length), ∀ p, (∃ cj, w.cell? ⟨b, 0 + j, none⟩ = some (.slice (some p) xs[j].length cj)) → xs[j] ≠ [] → p.block ≠ b) (hyb : ∀ p, Ay = some p → y ≠ [] → p.block ≠ b) :
    LvsAt (w.setCell ⟨b, a, none⟩ (.slice Ay my cy)) K (some ⟨b, 0, none⟩) (xs.set a y) := by
  obtain ⟨b', off, e, hkb, hc⟩ := h
  cases e
  have keep : ∀ {A : Option Addr} {x : List UInt8}, Bs w A x → (∀ p, A = some p → x ≠ [] → p.block ≠ b) → Bs (w.setCell ⟨b, a, none⟩ (.slice Ay my cy)) A x := fun {A x} hB hn => by
    refine ⟨hB.1, fun hp => ?_⟩
    obtain ⟨q, off, e, hq, hcc⟩ := hB.2 hp
    have hne := hn _ e (fun e => by rw [e] at hp; simp at hp)
    exact ⟨q, off, e, by simpa [World.setCell] using hq, fun j u hu => (World.cell?_of_block (Below.heap_setCell w ⟨b, a, none⟩ _ q hne)).trans (hcc j u hu)⟩
  refine ⟨b, 0, rfl, hkb, fun j hj => ?_⟩
  have hj' : j < xs.length := by simpa using hj
  obtain ⟨Aj, cj, h1, h2, h3, h4, h5⟩ := hc j hj'
  rw [Nat.zero_add] at h1 ⊢
  by_cases hja : j = a
  · subst hja
    have e : (xs.set j y)[j] = y := List.getElem_set_self ..
    rw [e]
    exact ⟨Ay, cy, by rw [hm]; exact World.cell?_setCell_same _ _ _ h1, by omega, hcm, keep hy hyb, hKy⟩
  · have e : (xs.set a y)[j] = xs[j] := List.getElem_set_ne (fun e => hja e.symm) ..
    rw [e]
    refine ⟨Aj, cj, (World.cell?_setCell_other _ _ _ _ (fun e => hja (by injection e with _ e _; exact e.symm))).trans h1, h2, h3, keep h4 (fun p e hn => hb j hj' p ⟨cj, by rw [Nat.zero_add, h1, e]⟩ hn), h5⟩

def CutP (w : World) (e : Ending) (w' : World) : Prop := ∃ xs v, e = .returned v ∧ xs.length ≤ 40 ∧ (∀ x ∈ xs, x.length ≤ 100) ∧ Below w.heap.size w w' ∧ Hdr w w' v xs
set_option maxRecDepth 100000 in
set_option maxHeartbeats 1600000 in
theorem cut_any (A : Option Addr) (n c : Nat) (ls : List (List UInt8)) (w : World) (h : ArgL w A n c ls) : Calls Try.prog 11 #[.slice A n c, .int .i64 40] w (CutP w) := by
  have hln := h.1
  have H := Lib.hid h
  clear h
  go_enter Try.func11, Try.ntmps11
  go_upto_region 2 with fail
  rename_i Kf af
  have Af := Lib.hid af
  clear af
  go_wp2
  refine Af.out _ _ ?_
  clear Af
  go_cut [5, 6] (fun v _ wx => ∃ xs : List (List UInt8), xs.length ≤ 40 ∧ (∀ x ∈ xs, x.length ≤ 100) ∧ Below w.heap.size w wx ∧ Hdr w wx v xs)
  case first =>
    go_wp2
    go_loopw [5, 6] (fun v kv wr => ∃ (k : Nat) (xs : List (List UInt8)), k ≤ 40 ∧ k ≤ n ∧ kv = .int .i64 (k : Int) ∧ xs.length = k ∧ (∀ x ∈ xs, x.length ≤ 100) ∧ Below w.heap.size w wr ∧ Hdr w wr v xs) (fun _ kv _ => 40 - (intOf kv).toNat)
    case atStart => exact ⟨0, [], Nat.zero_le _, Nat.zero_le _, rfl, rfl, fun x hx => by simp at hx, Below.refl _ _, [], ⟨rfl, .inl ⟨rfl, rfl⟩⟩, fun j hj => by simp at hj⟩
    case round =>
      obtain ⟨k, xs, hk, hkn, rfl, hxl, hxs, hB, hH⟩ := hrel
      by_cases hin : k < n
      · by_cases h40 : k < 40
        · obtain ⟨hb, ho, Aj, cj, rfl, hlt, hc0, hle, hcm, hBx⟩ := H.out.2.2.2.at_ (j := k) (by omega)
          obtain ⟨m, x, hxm, hm100, hmc, hBx2, hmin, hsl⟩ := cutF 100 100 rfl hle hcm hBx
          obtain ⟨nj, hnj⟩ : ∃ a, (ls[k]'(by omega)).length = a := ⟨_, rfl⟩
          rw [hnj] at hc0 hmin hsl
          obtain ⟨vs, hrow, hvs⟩ := hH
          obtain ⟨wd, hwd⟩ : ∃ wd, wr.drew = wd := ⟨_, rfl⟩
          have hBd : Below w.heap.size w wd := by rw [← hwd]; exact hB.drew
          have hrd : wd.ownsRow w.heap.size 34 1 u5 xs.length vs := by rw [← hwd]; exact row_stay hrow fun _ _ _ _ => rfl
          have Hd := Lib.hid (And.intro hrd hBd)
          have Hq := Lib.hid (show ∀ w', Below w.heap.size w w' → w'.cell? ⟨hb, ho + k, none⟩ = some (.slice Aj nj cj) from fun w' hb' => (hb'.cell hlt).trans hc0)
          have Hwd := Lib.hid hwd
          have Hx := Lib.hid (And.intro hBx2 (And.intro hxm (And.intro hm100 (And.intro hmc (And.intro hcm (And.intro hxs (And.intro hvs hxl)))))))
          have p1 : (k : Int) < (n : Int) := by omega
          have p2 : (k : Int) < 40 := by omega
          have p0 : (0 : Int) ≤ (k : Int) := by omega
          clear hB hrow hvs hwd hBd hrd hlt hc0 hle hcm hBx hBx2 hxm hmc hnj hxs
          go_wp2
          have Q0 : wd.cell? ⟨hb, ho + k, none⟩ = some (.slice Aj nj cj) := Hq.out _ Hd.out.2
          refine wp_region_held_drew (S := fun W' => W'.cell? ⟨hb, ho + k, none⟩ = some (.slice Aj nj cj)) (by kernel_rfl) (show wr.drew.cell? ⟨hb, ho + k, none⟩ = some (.slice Aj nj cj) from by rw [Hwd.out]; exact Q0) (fun _ => ?_)
          rw [Hwd.out]
          refine anyH_take (i := 0) (d := 18) (v := ?v0) rfl rfl (by kernel_rfl) (by kernel_rfl) (by kernel_rfl) (fun _ _ _ h => h) (Or.inl ⟨by rfl, ?vy0⟩) Q0 ?vr0
          case vy0 => (intro w; go_simp; try with_reducible rfl)
          simp only [List.setIfInBounds_toArray, List.set_cons_zero, List.set_cons_succ]
          refine anyH_take (i := 1) (d := 19) (v := ?v1) rfl rfl (by kernel_rfl) (by kernel_rfl) (by kernel_rfl) (fun _ _ _ h => h) (Or.inl ⟨by rfl, ?vy1⟩) Q0 ?vr1
          case vy1 => (intro w; go_simp; try with_reducible rfl)
          simp only [List.setIfInBounds_toArray, List.set_cons_zero, List.set_cons_succ]
          refine anyH_take (i := 2) (d := 20) (v := ?v2) rfl rfl (by kernel_rfl) (by kernel_rfl) (by kernel_rfl) (fun _ _ _ h => h) (Or.inl ⟨by rfl, ?vy2⟩) Q0 ?vr2
          case vy2 => (intro w; go_simp; try with_reducible rfl)
          simp only [List.setIfInBounds_toArray, List.set_cons_zero, List.set_cons_succ]
          refine anyH_take (i := 3) (d := 21) (v := ?v3) rfl rfl (by kernel_rfl) (by kernel_rfl) (by kernel_rfl) (fun _ _ _ h => h) (Or.inl ⟨by rfl, ?vy3⟩) Q0 ?vr3
          case vy3 => (intro w; go_simp; try with_reducible rfl)
          simp only [List.setIfInBounds_toArray, List.set_cons_zero, List.set_cons_succ]
          refine wpAnyH_take' (i := 4) (d := 22) (v := ?v4) rfl rfl (by kernel_rfl) (by kernel_rfl) (by kernel_rfl) (fun _ _ _ h => h) (Or.inl ⟨by rfl, ?vy4⟩) Q0 ?vr4
          case vy4 => (intro w hSw; go_split_ands; go_simp; try with_reducible rfl)
          simp only [List.setIfInBounds_toArray, List.set_cons_zero, List.set_cons_succ]
          refine anyH_take (i := 5) (d := 23) (v := ?v5) rfl rfl (by kernel_rfl) (by kernel_rfl) (by kernel_rfl) (fun _ _ _ h => h) (Or.inl ⟨by rfl, ?vy5⟩) Q0 ?vr5
          case vy5 => (intro w; go_simp; try with_reducible rfl)
          simp only [List.setIfInBounds_toArray, List.set_cons_zero, List.set_cons_succ]
          refine anyH_take (i := 6) (d := 24) (v := ?v6) rfl rfl (by kernel_rfl) (by kernel_rfl) (by kernel_rfl) (fun _ _ _ h => h) (Or.inl ⟨by rfl, ?vy6⟩) Q0 ?vr6
          case vy6 => (intro w; go_simp; try with_reducible rfl)
          simp only [List.setIfInBounds_toArray, List.set_cons_zero, List.set_cons_succ]
          refine anyH_take (i := 7) (d := 25) (v := ?v7) rfl rfl (by kernel_rfl) (by kernel_rfl) (by kernel_rfl) (fun _ _ _ h => h) (Or.inl ⟨by rfl, ?vy7⟩) Q0 ?vr7
          case vy7 => (intro w; go_simp; try with_reducible rfl)
          simp only [List.setIfInBounds_toArray, List.set_cons_zero, List.set_cons_succ]
          refine wpAnyH_take' (i := 8) (d := 26) (v := ?v8) rfl rfl (by kernel_rfl) (by kernel_rfl) (by kernel_rfl) (fun _ _ _ h => h) (Or.inl ⟨by rfl, ?vy8⟩) Q0 ?vr8
          case vy8 => (intro w hSw; go_split_ands; go_simp; try with_reducible rfl)
          simp only [List.setIfInBounds_toArray, List.set_cons_zero, List.set_cons_succ]
          refine anyH_take (i := 9) (d := 27) (v := ?v9) rfl rfl (by kernel_rfl) (by kernel_rfl) (by kernel_rfl) (fun _ _ _ h => h) (Or.inl ⟨by rfl, ?vy9⟩) Q0 ?vr9
          case vy9 => (intro w; go_simp; try with_reducible rfl)
          simp only [List.setIfInBounds_toArray, List.set_cons_zero, List.set_cons_succ]
          refine anyH_take (i := 10) (d := 28) (v := ?v10) rfl rfl (by kernel_rfl) (by kernel_rfl) (by kernel_rfl) (fun _ _ _ h => h) (Or.inl ⟨by rfl, ?vy10⟩) Q0 ?vr10
          case vy10 => (intro w; go_simp; try with_reducible rfl)
          simp only [List.setIfInBounds_toArray, List.set_cons_zero, List.set_cons_succ]
          refine anyH_take (i := 11) (d := 29) (v := ?v11) rfl rfl (by kernel_rfl) (by kernel_rfl) (by kernel_rfl) (fun _ _ _ h => h) (Or.inl ⟨by rfl, ?vy11⟩) Q0 ?vr11
          case vy11 => (intro w; go_simp; try with_reducible rfl)
          simp only [List.setIfInBounds_toArray, List.set_cons_zero, List.set_cons_succ]
          refine anyH_one (i := 12) (by kernel_rfl) ?_
          refine wpOp_step rfl (fun K hK => ?_)
          go_simp
          refine hK _ _ ⟨(Hq.out _ (Hd.out.2.alloc Hd.out.2.size _)), ?_⟩
          clear hK K
          refine anyH_one (i := 13) (by kernel_rfl) ?_
          obtain ⟨v', w5, hap, hrow5, hg5⟩ := run_appendS (wd.alloc (.cells #[.slice Aj m cj] 34)) w.heap.size u5 xs.length vs (row_base (row_alloc Hd.out.1 _) (Nat.le_refl _)) wd.heap.size (.slice Aj m cj) rfl (Blk.new rfl rfl) (by omega) (by have := Hd.out.2.size; simp; omega) 22
          have hb5 : Below w.heap.size w w5 := (Hd.out.2.alloc Hd.out.2.size (.cells #[.slice Aj m cj] 34)).grown hg5 (by have := Hd.out.2.size; simp; omega) fun j hj => (World.ownsRow.lt Hd.out.1 j hj).1
          have H5 := Lib.hid (And.intro hrow5 (And.intro hg5 hb5))
          clear hrow5 hg5 hb5
          refine op_append9 rfl rfl (by rfl) _ _ _ _ rfl _ _ _ _ rfl rfl hap ?_
          refine ⟨(Hq.out _ H5.out.2.2), ?_⟩
          simp only [List.setIfInBounds_toArray, List.set_cons_zero, List.set_cons_succ]
          refine anyH_take (i := 14) (d := 5) (v := ?v14) rfl rfl (by kernel_rfl) (by kernel_rfl) (by kernel_rfl) (fun _ _ _ h => h) (Or.inl ⟨by rfl, ?vy14⟩) (Hq.out _ H5.out.2.2) ?vr14
          case vy14 => (intro w; go_simp; try with_reducible rfl)
          simp only [List.setIfInBounds_toArray, List.set_cons_zero, List.set_cons_succ]
          refine wpAnyH_done (by kernel_rfl) ?_ _

          go_wp2
          go_roundw
          case rel =>
            obtain ⟨hBx2, hxm, hm100, hmc, hcm, hxs, hvs, hxl⟩ := Hx.out
            have hvl : vs.length = xs.length := by have := Hd.out.1.1; omega
            refine ⟨k + 1, xs ++ [x], by omega, by omega, by go_num, by rw [List.length_append, hxl]; rfl, fun z hz => ?_, H5.out.2.2, vs ++ [.slice Aj m cj], by rw [List.length_append]; exact H5.out.1, fun j hj => ?_⟩
            · rcases List.mem_append.1 hz with hz | hz
              · exact hxs z hz
              · rw [List.mem_singleton.1 hz]; omega
            · by_cases hj1 : j < xs.length
              · obtain ⟨A1, c1, e1, e2, e3, e4⟩ := hvs j hj1
                rw [List.getElem_append_left hj1]
                exact ⟨A1, c1, by rw [List.getElem?_append_left (by omega)]; exact e1, e2, e3, e4⟩
              · have hj2 : j = xs.length := by simp at hj; omega
                subst hj2
                refine ⟨Aj, cj, ?_, ?_, hcm, ?_⟩
                · rw [List.getElem?_append_right (by omega), hvl, Nat.sub_self]; simp [hxm]
                · simp; omega
                · simpa using hBx2
          case measure => simp [intOf]; omega
        · have p1 : decide ((k : Int) < (n : Int)) = true := by simp; omega
          have p2 : decide ((k : Int) < 40) = false := by simp; omega
          go_wp2
          go_meet
          exact ⟨xs, by omega, hxs, hB, hH⟩
      · have p1 : decide ((k : Int) < (n : Int)) = false := by simp; omega
        go_wp2
        go_meet
        exact ⟨xs, by omega, hxs, hB, hH⟩
  case rest =>
    obtain ⟨xs, h1, h2, h3, h4⟩ := hcut
    go_wp2
    go_ret
    exact ⟨xs, _, rfl, h1, h2, h3, h4⟩
end Go.Proofs.Ytbdocaohnigekaa

namespace Go.Proofs.Ytbdocaohnigekaa
open Go.RowKit Go.Maps
set_option linter.unusedVariables false

theorem leaf_long (v : Value) (A : Option Addr) (n c : Nat) (w : World) (h : 65535 < n) :
    Calls Try.prog 23 #[v, .slice A n c] w fun e w' => e = .returned (.tuple #[.agg (cbs (List.replicate 32 0)).toArray, .int .i64 5]) ∧ Below w.heap.size w w' := by
  have b0 : Below w.heap.size w (w.alloc (.cells (cbs (List.replicate 32 0)).toArray 38)) := (Below.refl _ _).alloc (Nat.le_refl _) _
  have hZ : Blk (w.alloc (.cells (cbs (List.replicate 32 0)).toArray 38)) w.heap.size 38 (cbs (List.replicate 32 0)) := Blk.new rfl rfl
  have hth : (w.alloc (.cells (cbs (List.replicate 32 0)).toArray 38)).there w.heap.size 0 (cbs (List.replicate 32 0)).toArray.size := hZ.there
  have hR := hZ.setAll (vs := cbs (List.replicate 32 0)) rfl
  have hb1 : Below w.heap.size w ((w.alloc (.cells (cbs (List.replicate 32 0)).toArray 38)).setCells w.heap.size 0 (cbs (List.replicate 32 0))) := Below.setCells (Nat.le_refl _) _ b0
  have Hb := Lib.hid (And.intro hth (And.intro hR hb1))
  clear b0 hZ hth hR hb1
  go_enter Try.func23, Try.ntmps23
  go_wp2_with (first | (go_at_call 34; refine (isLong_yes A n c _ h).mono ?_; rintro e w' ⟨rfl, rfl⟩) | (refine wpList_store_mid rfl 38 _ _ rfl w.heap.size 0 (cbs (List.replicate 32 0)).toArray rfl rfl Hb.out.1 info32b (cbs_one' _) ?_))
  refine bodyPost_ret (results_row_tmp rfl _ _ w.heap.size 38 (cbs (List.replicate 32 0)).toArray (0, 0) _ rfl Hb.out.2.1 Try.underlying38 rfl info32b) rfl ?_
  exact ⟨rfl, Hb.out.2.2⟩

set_option maxRecDepth 100000 in
set_option maxHeartbeats 800000 in
theorem tset_long {w : World} {M : Nat → Prop} {t g : Nat} {low : List Dg} (h : TreeAt w M t g low) (i : Nat) (hi : i < low.length) (A : Option Addr) (n c : Nat) (hn : 65535 < n) :
    Calls Try.prog 14 #[.pointer (some ⟨t, 0, none⟩), .int .i64 (i : Int), .slice A n c] w fun e w' => e = .returned (.int .i64 5) ∧ Below w.heap.size w w' := by
  obtain ⟨L, R, lv, cc, hT⟩ := h
  have hd1 := dep_pos low.length
  have hblk := hT.blk
  have hd6 := dep_le hT.l2
  obtain ⟨d, hd⟩ : ∃ d, dep low.length = d := ⟨_, rfl⟩
  rw [hd] at hblk hd1 hd6
  have c0 : w.cell? ⟨t, 0, none⟩ = some (.pointer (some ⟨g, 0, none⟩)) := hblk.cell rfl
  have c1 : w.cell? ⟨t, 1, none⟩ = some (.int .i64 (low.length : Int)) := hblk.cell rfl
  have Hno := Lib.hid (tnone_no t g low.length lv d cc w hblk hd1)
  obtain ⟨D, hD⟩ : ∃ D, cbs (List.replicate 32 0) = D := ⟨_, rfl⟩
  have hD32 : D.length = 32 := by rw [← hD]; rfl
  have hD1 : D.toArray.all (·.oneCell') = true := by rw [← hD]; exact cbs_one' _
  have hlf := leaf_long (.pointer (some ⟨g, 0, none⟩)) A n c w hn
  rw [hD] at hlf
  have Hlf := Lib.hid hlf
  have HD := Lib.hid (And.intro hD32 hD1)
  have Ht := Lib.hid (And.intro hblk hblk.lt)
  have hi0 : 0 ≤ (i : Int) := by omega
  have hi1 : (i : Int) < (low.length : Int) := by omega
  have hi2 : ¬ ((i : Int) ≥ (low.length : Int)) := by omega
  have hi3 : decide ((i : Int) < 0) = false := by simp
  clear hlf hT hD hD32 hD1 hblk hi hd
  go_enter Try.func14, Try.ntmps14
  go_wp2_with (go_at_call 31; refine Hno.out.mono ?_; rintro e w ⟨rfl, rfl⟩)
  refine Hlf.out.mono ?_
  rintro e w1 ⟨rfl, hb1⟩
  obtain ⟨wS, hwS, ⟨hth, hiS⟩, hbS, hbel, hszS⟩ := dig_local w1 D HD.out.1
  have hb2 : Below w.heap.size w wS := hb1.trans (hbel.mono hb1.size)
  have hts : Blk wS t 70 (tcells g low.length lv d cc) := (hb2.block t Ht.out.2).trans Ht.out.1
  have c2 : wS.cell? ⟨t, 2, none⟩ = some (.slice (some ⟨lv, 0, none⟩) d cc) := hts.cell rfl
  have HwS := Lib.hid hwS
  have Hs := Lib.hid (And.intro hth (And.intro hiS HD.out.2))
  have H2 := Lib.hid hb2
  clear hwS hth hiS hbS hbel hszS hts hb1 hb2 c0 c1
  go_wp2_with (refine wpList_store_mid rfl 38 _ _ rfl w1.heap.size 0 D.toArray rfl rfl Hs.out.1 Hs.out.2.1 Hs.out.2.2 ?_; simp only [Act.put]; refine cast (congrArg (fun z => wpList _ _ _ _ _ z) HwS.out.symm) ?_)
  clear c2 HwS
  go_loopw [1, 8, 10, 11, 12] (fun a e n _ _ wr => e = .int .i64 5 ∧ n = .int .i64 0 ∧ wr = wS) (fun _ _ n _ _ _ => 0)
  case atStart => exact ⟨rfl, rfl, rfl⟩
  case round =>
    obtain ⟨rfl, rfl, rfl⟩ := hrel
    have hp : (0 : Int) ≤ (d : Int) - 1 := by omega
    go_wp2
    go_ret
    exact ⟨rfl, H2.out⟩

/-- Two trees over one book. -/
structure St2 (w0 : World) (g bm t u many : Nat) (M1 M2 N : Nat → Prop) (bnd : Nat) (lt lu : List Dg) (s : Bk) (w : World) : Prop where
  one : TreeAt w M1 t g lt
  two : TreeAt w M2 u g lu
  kb : Kb w0.heap.size w g bm s N
  sub1 : ∀ i, M1 i → N i
  sub2 : ∀ i, M2 i → N i
  dis : ∀ i, M1 i → ¬ M2 i
  ge1 : ∀ i, M1 i → w0.heap.size ≤ i
  ge2 : ∀ i, M2 i → w0.heap.size ≤ i
  len1 : lt.length = many
  len2 : lu.length = many
  b1 : s.1.length ≤ bnd
  b2 : s.2.2 ≤ bnd
  bel : Below w0.heap.size w0 w

section
variable {w0 w w' : World} {g bm t u many bnd : Nat} {M1 M2 N : Nat → Prop} {lt lu : List Dg} {s : Bk}
theorem St2.below (h : St2 w0 g bm t u many M1 M2 N bnd lt lu s w) (hb : Below w.heap.size w w') : St2 w0 g bm t u many M1 M2 N bnd lt lu s w' :=
  ⟨h.one.below hb, h.two.below hb, h.kb.below hb, h.sub1, h.sub2, h.dis, h.ge1, h.ge2, h.len1, h.len2, h.b1, h.b2, h.bel.trans (hb.mono h.bel.size)⟩
theorem St2.drew (h : St2 w0 g bm t u many M1 M2 N bnd lt lu s w) : St2 w0 g bm t u many M1 M2 N bnd lt lu s w.drew := h.below ((Below.refl _ _).drew)
theorem St2.more {b' : Nat} (h : St2 w0 g bm t u many M1 M2 N bnd lt lu s w) (hb : bnd ≤ b') : St2 w0 g bm t u many M1 M2 N b' lt lu s w :=
  ⟨h.one, h.two, h.kb, h.sub1, h.sub2, h.dis, h.ge1, h.ge2, h.len1, h.len2, Nat.le_trans h.b1 hb, Nat.le_trans h.b2 hb, h.bel⟩
theorem St2.swap (h : St2 w0 g bm t u many M1 M2 N bnd lt lu s w) : St2 w0 g bm u t many M2 M1 N bnd lu lt s w :=
  ⟨h.two, h.one, h.kb, h.sub2, h.sub1, fun i h1 h2 => h.dis i h2 h1, h.ge2, h.ge1, h.len2, h.len1, h.b1, h.b2, h.bel⟩
theorem St2.set (h : St2 w0 g bm t u many M1 M2 N bnd lt lu s w) (hb : bnd ≤ 20000) (hd : many ≤ 1024) (i : Nat) (hi : i < many) (A : Option Addr) (nx cp : Nat) (x : List UInt8) (hBx : Bs w A x) (hnx : x.length = nx) (hcx : nx ≤ cp) (hcm : cp ≤ maxLen) (hx : nx ≤ 65535) :
    Calls Try.prog 14 #[.pointer (some ⟨t, 0, none⟩), .int .i64 (i : Int), .slice A nx cp] w fun e w' =>
      e = .returned (.int .i64 0) ∧ St2 w0 g bm t u many M1 M2 N (bnd + 8) (lowSet lt i x) lu (noteAll s (setIns lt i x (dep lt.length - 1))) w' := by
  have hb1 := h.b1
  have hb2 := h.b2
  have hl := h.len1
  refine (tset_any w0.heap.size bm s N h.one h.kb h.bel.size h.sub1 (by omega) (by omega) i (by omega) A nx cp x hBx hnx hcx hcm hx).mono ?_
  rintro e w' ⟨rfl, hT, hK, hO⟩
  have h3 := noteAll_len s (setIns lt i x (dep lt.length - 1))
  have h4 := setIns_len lt i x (dep lt.length - 1)
  have h5 : dep lt.length ≤ 6 := dep_le (by omega)
  have h6 := dep_pos lt.length
  refine ⟨rfl, hT, h.two.out hO (fun j hj hs => ?_), hK, h.sub1, h.sub2, h.dis, h.ge1, h.ge2, by rw [lowSet_len]; exact hl, h.len2, by omega, by omega, h.bel.trans (hO.above (fun j hj => by
    rcases hj with hj | hj
    · exact hj.1
    · exact h.ge1 j hj) h.bel.size)⟩
  rcases hs with hs | hs
  · exact Tn.keep (h.sub2 j hj) hs
  · exact h.dis j hs hj
/-- Whatever the leaf. -/
theorem St2.sets (h : St2 w0 g bm t u many M1 M2 N bnd lt lu s w) (hb : bnd ≤ 20000) (hd : many ≤ 1024) (i : Nat) (hi : i < many) (A : Option Addr) (nx cp : Nat) (x : List UInt8) (hBx : Bs w A x) (hnx : x.length = nx) (hcx : nx ≤ cp) (hcm : cp ≤ maxLen) :
    Calls Try.prog 14 #[.pointer (some ⟨t, 0, none⟩), .int .i64 (i : Int), .slice A nx cp] w fun e w' =>
      ∃ (c : Int) (lt' : List Dg) (s' : Bk), e = .returned (.int .i64 c) ∧ St2 w0 g bm t u many M1 M2 N (bnd + 8) lt' lu s' w' := by
  by_cases hx : nx ≤ 65535
  · refine (h.set hb hd i hi A nx cp x hBx hnx hcx hcm hx).mono ?_
    rintro e w' ⟨rfl, hS⟩
    exact ⟨0, _, _, rfl, hS⟩
  · refine (tset_long h.one i (by rw [h.len1]; exact hi) A nx cp (by omega)).mono ?_
    rintro e w' ⟨rfl, hb⟩
    exact ⟨5, _, _, rfl, (h.below hb).more (by omega)⟩
end

theorem low_done (xs : List (List UInt8)) (low : List Dg) (h : low.length = xs.length) (he : ∀ j (hj : j < xs.length), low[j]? = some (digest (leafIn xs[j]))) : low = lows xs := by
  apply List.ext_getElem?
  intro j
  by_cases hj : j < xs.length
  · rw [he j hj]
    unfold lows
    rw [List.getElem?_map, List.getElem?_eq_getElem hj]; rfl
  · rw [List.getElem?_eq_none (by omega), List.getElem?_eq_none (by rw [lows_len]; omega)]
theorem lowSet_at (low : List Dg) (i : Nat) (x : List UInt8) (hi : i < low.length) : (lowSet low i x)[i]? = some (digest (leafIn x)) := by
  unfold lowSet; rw [List.getElem?_set_self hi]
theorem lowSet_ne (low : List Dg) (i j : Nat) (x : List UInt8) (h : i ≠ j) : (lowSet low i x)[j]? = low[j]? := by
  unfold lowSet; rw [List.getElem?_set_ne h]
end Go.Proofs.Ytbdocaohnigekaa
