/-
  Laid together for a hand-in: Apart9, RPure9, RT9.
-/
import Derived.Test.YtbdocaohnigekaaGreatZ15
import Derived.Test.YtbdocaohnigekaaGreatZ17
import Derived.Test.YtbdocaohnigekaaGreatZ14
import Derived.Deep.RegionHeld3
import Derived.Deep.RegionWith

namespace Go.Proofs.YtbdocaohnigekaaGreat
set_option linter.unusedVariables false

theorem noteAll_mem (s : Bk) (ls : List (List UInt8)) (y : List UInt8) : y ∈ (noteAll s ls).1 ↔ y ∈ s.1 ∨ (y ∈ ls ∧ y.length ≤ 65536) := by
  induction ls generalizing s with
  | nil => simp [noteAll]
  | cons x ls ih =>
    have e : noteAll s (x :: ls) = noteAll (stepL s x) ls := rfl
    rw [e, ih, stepL_mem, List.mem_cons]
    constructor
    · rintro ((h | ⟨rfl, h⟩) | h)
      · exact .inl h
      · exact .inr ⟨.inl rfl, h⟩
      · exact .inr ⟨.inr h.1, h.2⟩
    · rintro (h | ⟨rfl | h, h2⟩)
      · exact .inl (.inl h)
      · exact .inl (.inr ⟨rfl, h2⟩)
      · exact .inr ⟨h, h2⟩
theorem noteAll_good (s : Bk) (ls : List (List UInt8)) (h : Unmixed s) : Unmixed (noteAll s ls) := by
  induction ls generalizing s with
  | nil => exact h
  | cons x ls ih => exact ih _ (stepL_good s x h)
theorem flat_inj {l l' : List Dg} (h : All32 l) (h' : All32 l') (hl : l.length = l'.length) (e : l.flatten = l'.flatten) : l = l' := by
  apply List.ext_getElem hl
  intro i h1 h2
  rw [← flat_get h h1, ← flat_get h' h2, e]
theorem ups_mem {ls : List (List UInt8)} {n k : Nat} (hk : k < n) {x : List UInt8} (hx : x ∈ ups (lvl (lows ls) k)) : x ∈ insTo ls n := by
  induction n with
  | zero => omega
  | succ n ih =>
    rw [insTo_succ, List.mem_append]
    by_cases h : k < n
    · exact .inl (ih h)
    · have : k = n := by omega
      subst this
      exact .inr hx
theorem leaf_mem {ls : List (List UInt8)} (n : Nat) {x : List UInt8} (hx : x ∈ ls) : leafIn x ∈ insTo ls n := by
  induction n with
  | zero => exact List.mem_map.2 ⟨x, hx, rfl⟩
  | succ n ih => rw [insTo_succ, List.mem_append]; exact .inl ih
theorem upIn_small {l : List Dg} (h : All32 l) (j : Nat) : (upIn (four l j)).length ≤ 65536 := by
  unfold upIn
  rw [List.length_cons, flat_len (h.four j), four_len]
  omega
theorem ups_at {l : List Dg} {j : Nat} (hj : j < (l.length + 3) / 4) : upIn (four l j) ∈ ups l := List.mem_map.2 ⟨j, List.mem_range.2 hj, rfl⟩

section
variable {L : List (List UInt8)} {ls ls' : List (List UInt8)} {n : Nat}
/-- One level down. -/
theorem next_inj (hU : ∀ x ∈ L, ∀ y ∈ L, digest x = digest y → x = y) {l l' : List Dg} (h : All32 l) (h' : All32 l') (hl : l.length = l'.length) (hm : ∀ x ∈ ups l, x.length ≤ 65536 → x ∈ L) (hm' : ∀ x ∈ ups l', x.length ≤ 65536 → x ∈ L) (e : next l = next l') : l = l' := by
  apply List.ext_getElem hl
  intro i h1 h2
  have hj : i / 4 < (l.length + 3) / 4 := by omega
  have e1 := next_get l (i / 4)
  have e2 := next_get l' (i / 4)
  rw [if_pos hj] at e1
  rw [if_pos (by omega), ← e, e1] at e2
  have e3 := hU _ (hm _ (ups_at hj) (upIn_small h _)) _ (hm' _ (ups_at (by omega)) (upIn_small h' _)) (Option.some.inj e2)
  unfold upIn at e3
  injection e3 with _ e3
  have e4 := flat_inj (h.four (i / 4)) (h'.four (i / 4)) (by rw [four_len, four_len, hl]) e3
  have g1 := four_get l (i / 4) (i % 4) (by omega)
  have g2 := four_get l' (i / 4) (i % 4) (by omega)
  rw [show 4 * (i / 4) + i % 4 = i by omega] at g1 g2
  rw [e4, g2, List.getElem?_eq_getElem h1, List.getElem?_eq_getElem h2] at g1
  exact (Option.some.inj g1).symm
theorem lvl_inj (hU : ∀ x ∈ L, ∀ y ∈ L, digest x = digest y → x = y) (hl : ls.length = ls'.length) (hm : ∀ x ∈ insTo ls n, x.length ≤ 65536 → x ∈ L) (hm' : ∀ x ∈ insTo ls' n, x.length ≤ 65536 → x ∈ L) :
    ∀ k, k ≤ n → lvl (lows ls) k = lvl (lows ls') k → lows ls = lows ls'
  | 0, _, e => e
  | k + 1, hk, e => lvl_inj hU hl hm hm' k (by omega) (next_inj hU (all32_lvl (all32_lows _) k) (all32_lvl (all32_lows _) k) (by rw [lvl_len, lvl_len, lows_len, lows_len, hl]) (fun x hx => hm x (ups_mem (by omega) hx)) (fun x hx => hm' x (ups_mem (by omega) hx)) e)
theorem lows_inj (hU : ∀ x ∈ L, ∀ y ∈ L, digest x = digest y → x = y) (hl : ls.length = ls'.length) (hm : ∀ x ∈ insTo ls n, x.length ≤ 65536 → x ∈ L) (hm' : ∀ x ∈ insTo ls' n, x.length ≤ 65536 → x ∈ L) (h : ∀ x ∈ ls, x.length ≤ 65535) (h' : ∀ x ∈ ls', x.length ≤ 65535) (e : lows ls = lows ls') : ls = ls' := by
  apply List.ext_getElem hl
  intro i h1 h2
  have e1 : (lows ls)[i]? = (lows ls')[i]? := by rw [e]
  unfold lows at e1
  rw [List.getElem?_map, List.getElem?_map, List.getElem?_eq_getElem h1, List.getElem?_eq_getElem h2] at e1
  have e2 : digest (leafIn ls[i]) = digest (leafIn ls'[i]) := Option.some.inj e1
  have l1 := h _ (List.getElem_mem h1)
  have l2 := h' _ (List.getElem_mem h2)
  have e3 := hU _ (hm _ (leaf_mem n (List.getElem_mem h1)) (by rw [leafIn_len]; omega)) _ (hm' _ (leaf_mem n (List.getElem_mem h2)) (by rw [leafIn_len]; omega)) e2
  unfold leafIn at e3
  injection e3
end
/-- As long as there is no clash, like roots are of like leaves. -/
theorem roots_apart (ls ls' : List (List UInt8)) (m : Nat) (hl : ls.length = m) (hl' : ls'.length = m) (h1 : 1 ≤ m) (h : ∀ x ∈ ls, x.length ≤ 65535) (h' : ∀ x ∈ ls', x.length ≤ 65535)
    (hc : (noteAll (noteAll ([], false, 0) (insTo ls (dep m - 1))) (insTo ls' (dep m - 1))).2.1 = false) (e : rootD (lows ls) = rootD (lows ls')) : ls = ls' := by
  have hU := noteAll_good _ (insTo ls' (dep m - 1)) (noteAll_good ([], false, 0) (insTo ls (dep m - 1)) (fun _ x hx => by simp at hx)) hc
  have hm : ∀ x ∈ insTo ls (dep m - 1), x.length ≤ 65536 → x ∈ (noteAll (noteAll ([], false, 0) (insTo ls (dep m - 1))) (insTo ls' (dep m - 1))).1 := fun x hx hs => by
    rw [noteAll_mem, noteAll_mem]; exact .inl (.inr ⟨hx, hs⟩)
  have hm' : ∀ x ∈ insTo ls' (dep m - 1), x.length ≤ 65536 → x ∈ (noteAll (noteAll ([], false, 0) (insTo ls (dep m - 1))) (insTo ls' (dep m - 1))).1 := fun x hx hs => by
    rw [noteAll_mem]; exact .inr ⟨hx, hs⟩
  have r1 := root_one (low := lows ls) (by rw [lows_len]; omega)
  have r2 := root_one (low := lows ls') (by rw [lows_len]; omega)
  rw [lows_len, hl] at r1
  rw [lows_len, hl'] at r2
  exact lows_inj hU (by omega) hm hm' h h' (lvl_inj hU (by omega) hm hm' (dep m - 1) (Nat.le_refl _) (by rw [r1, r2, e]))
end Go.Proofs.YtbdocaohnigekaaGreat

namespace Go.Proofs.YtbdocaohnigekaaGreat
open Go.RowKit Go.Maps
set_option linter.unusedVariables false

def stI (L : List (List UInt8)) (x : List UInt8) : List (List UInt8) := if x.length ≤ 65536 then (if x ∈ L then L else L ++ [x]) else L
def noteI (L : List (List UInt8)) (ls : List (List UInt8)) : List (List UInt8) := ls.foldl stI L
theorem stepR_one (r : Lk) (x : List UInt8) : (stepR r x).1 = stI r.1 x := by
  unfold stepR rofL stI
  split
  · rfl
  · rfl
theorem noteR_one (r : Lk) (ls : List (List UInt8)) : (noteR r ls).1 = noteI r.1 ls := by
  induction ls generalizing r with
  | nil => rfl
  | cons x ls ih =>
    show (noteR (stepR r x) ls).1 = noteI (stI r.1 x) ls
    rw [ih, stepR_one]
theorem noteAll_one (s : Bk) (ls : List (List UInt8)) : (noteAll s ls).1 = noteI s.1 ls := by
  have h := noteR_one (lk s) ls
  rw [note_lk] at h
  exact h
theorem noteI_append (L a b : List (List UInt8)) : noteI L (a ++ b) = noteI (noteI L a) b := List.foldl_append
theorem stI_sub (L : List (List UInt8)) (x : List UInt8) : ∀ y ∈ L, y ∈ stI L x := fun y hy => by
  unfold stI
  split
  · split
    · exact hy
    · exact List.mem_append_left _ hy
  · exact hy
theorem noteI_sub (L ls : List (List UInt8)) : ∀ y ∈ L, y ∈ noteI L ls := by
  induction ls generalizing L with
  | nil => exact fun y hy => hy
  | cons x ls ih => exact fun y hy => ih (stI L x) y (stI_sub L x y hy)
theorem noteI_has (L ls : List (List UInt8)) : ∀ y ∈ ls, y.length ≤ 65536 → y ∈ noteI L ls := by
  induction ls generalizing L with
  | nil => exact fun y hy => by simp at hy
  | cons x ls ih =>
    intro y hy hs
    rcases List.mem_cons.1 hy with rfl | hy
    · refine noteI_sub (stI L y) ls y ?_
      unfold stI
      rw [if_pos hs]
      split
      · assumption
      · exact List.mem_append_right _ (by simp)
    · exact ih (stI L x) y hy hs
theorem noteI_none (L ls : List (List UInt8)) (h : ∀ y ∈ ls, y.length ≤ 65536 → y ∈ L) : noteI L ls = L := by
  induction ls with
  | nil => rfl
  | cons x ls ih =>
    have e : stI L x = L := by
      unfold stI
      split
      · rename_i hs; rw [if_pos (h x (by simp) hs)]
      · rfl
    show noteI (stI L x) ls = L
    rw [e]
    exact ih fun y hy => h y (by simp [hy])
/-- All but the one at i are there. -/
theorem note_one (L A : List (List UInt8)) (i : Nat) (hi : i < A.length) (h : ∀ j (hj : j < A.length), j ≠ i → A[j].length ≤ 65536 → A[j] ∈ L) : noteI L A = stI L A[i] := by
  have e : A = A.take i ++ A[i] :: A.drop (i + 1) := by rw [List.getElem_cons_drop, List.take_append_drop]
  have h1 : noteI L (A.take i) = L := noteI_none L _ fun y hy hs => by
    obtain ⟨j, hj, rfl⟩ := List.mem_iff_getElem.1 hy
    rw [List.length_take] at hj
    rw [List.getElem_take] at hs ⊢
    exact h j (by omega) (by omega) hs
  have h2 : noteI (stI L A[i]) (A.drop (i + 1)) = stI L A[i] := noteI_none _ _ fun y hy hs => by
    obtain ⟨j, hj, rfl⟩ := List.mem_iff_getElem.1 hy
    rw [List.length_drop] at hj
    rw [List.getElem_drop] at hs ⊢
    exact stI_sub _ _ _ (h (i + 1 + j) (by omega) (by omega) hs)
  conv => lhs; rw [e]
  rw [noteI_append, h1]
  exact h2
theorem lows_set (xs : List (List UInt8)) (i : Nat) (x : List UInt8) : lows (xs.set i x) = lowSet (lows xs) i x := by unfold lows lowSet; rw [List.map_set]
theorem set_note (L xs : List (List UInt8)) (i : Nat) (hi : i < xs.length) (x : List UInt8) (d : Nat) (hL : ∀ y ∈ insTo xs d, y.length ≤ 65536 → y ∈ L) :
    ∀ k, k ≤ d → noteI L (insTo (xs.set i x) k) = noteI L (setIns (lows xs) i x k)
  | 0, _ => by
    show noteI L ((xs.set i x).map leafIn) = noteI L [leafIn x]
    rw [note_one L ((xs.set i x).map leafIn) i (by simpa using hi) (fun j hj hne hs => ?_)]
    · simp [noteI]
    · have hj' : j < xs.length := by simpa using hj
      have e : ((xs.set i x).map leafIn)[j] = leafIn xs[j] := by
        rw [List.getElem_map, List.getElem_set_ne (fun e => hne e.symm)]
      rw [e] at hs ⊢
      exact hL _ (leaf_mem d (List.getElem_mem hj')) hs
  | k + 1, hk => by
    have ih := set_note L xs i hi x d hL k (by omega)
    rw [insTo_succ, setIns_succ, noteI_append, noteI_append, ih, lows_set]
    have hjp : i / 4 ^ k / 4 < (ups (lvl (lowSet (lows xs) i x) k)).length := by
      rw [ups_len, lvl_len, lowSet_len, lows_len]
      have := wid_div hi k
      omega
    rw [note_one _ (ups (lvl (lowSet (lows xs) i x) k)) (i / 4 ^ k / 4) hjp (fun j hj hne hs => ?_)]
    · have e : (ups (lvl (lowSet (lows xs) i x) k))[i / 4 ^ k / 4] = upIn (four (lvl (lowSet (lows xs) i x) k) (i / 4 ^ k / 4)) := by simp [ups]
      rw [e]
      rfl
    · have e1 : (ups (lvl (lowSet (lows xs) i x) k))[j] = upIn (four (lvl (lowSet (lows xs) i x) k) j) := by simp [ups]
      have hll : (lvl (lowSet (lows xs) i x) k).length = (lvl (lows xs) k).length := by rw [lvl_len, lvl_len, lowSet_len]
      have e2 : four (lvl (lowSet (lows xs) i x) k) j = four (lvl (lows xs) k) j := four_congr hll fun q hq => lvl_set (i := i) (by rw [lowSet_len]) (fun p hp => by unfold lowSet; rw [List.getElem?_set_ne (fun e => hp e.symm)]) k _ (by omega)
      rw [e1, e2] at hs ⊢
      have hj2 : j < ((lvl (lows xs) k).length + 3) / 4 := by rw [ups_len, hll] at hj; exact hj
      exact noteI_sub _ _ _ (hL _ (ups_mem (n := d) (by omega) (ups_at hj2)) hs)
end Go.Proofs.YtbdocaohnigekaaGreat

namespace Go.Proofs.YtbdocaohnigekaaGreat
open Go.RowKit Go.Maps
set_option linter.unusedVariables false
set_option linter.unusedSimpArgs false
set_option linter.unusedSectionVars false

structure RTS (w : World) (M : Nat → Prop) (t gr : Nat) (xs : List (List UInt8)) (lb c : Nat) (vs : List Value) : Prop where
  blk : Blk w t 78 [.pointer (some ⟨gr, 0, none⟩), .slice (some ⟨lb, 0, none⟩) xs.length c]
  row : w.ownsRow 0 35 1 (.slice (some ⟨lb, 0, none⟩) xs.length c) xs.length vs
  lvs : ∀ j (hj : j < xs.length), ∃ h, vs[j]? = some h ∧ Mine w 0 5 h xs[j] ∧ ∀ b, h.ownBlock = some b → M b
  inM : M t ∧ M lb
  ltM : ∀ i, M i → i < w.heap.size
/-- The document's tree at block t, whose leaves are xs; M: its blocks. -/
def RT (w : World) (M : Nat → Prop) (t gr : Nat) (xs : List (List UInt8)) : Prop := ∃ lb c vs, RTS w M t gr xs lb c vs

section
variable {w w' : World} {M M' : Nat → Prop} {t gr lb c : Nat} {xs : List (List UInt8)} {vs : List Value}
theorem RTS.stay (h : RTS w M t gr xs lb c vs) (hz : w.heap.size ≤ w'.heap.size) (hk : ∀ i, M i → w'.heap[i]? = w.heap[i]?) : RTS w' M t gr xs lb c vs :=
  ⟨(hk _ h.inM.1).trans h.blk, row_stay h.row fun b cs hb _ => by
      simp [Value.ownBlock] at hb
      subst hb
      exact hk _ h.inM.2,
    fun j hj => by
      obtain ⟨hd, e, hm, hb⟩ := h.lvs j hj
      exact ⟨hd, e, row_stay hm fun b cs hbb _ => hk b (hb b hbb), hb⟩, h.inM, fun i hi => Nat.lt_of_lt_of_le (h.ltM i hi) hz⟩
theorem RT.stay (h : RT w M t gr xs) (hz : w.heap.size ≤ w'.heap.size) (hk : ∀ i, M i → w'.heap[i]? = w.heap[i]?) : RT w' M t gr xs := by
  obtain ⟨lb, c, vs, h⟩ := h
  exact ⟨lb, c, vs, h.stay hz hk⟩
theorem RT.lt (h : RT w M t gr xs) {i : Nat} (hi : M i) : i < w.heap.size := by obtain ⟨lb, c, vs, h⟩ := h; exact h.ltM i hi
theorem RT.below (h : RT w M t gr xs) (hb : Below w.heap.size w w') : RT w' M t gr xs := h.stay hb.size fun i hi => hb.block i (h.lt hi)
theorem RT.out {S : Nat → Prop} (h : RT w M t gr xs) (ho : Out S w w') (hn : ∀ i, M i → ¬ S i) : RT w' M t gr xs := h.stay ho.size fun i hi => ho.block i (h.lt hi) (hn i hi)
theorem RTS.at_ (h : RTS w M t gr xs lb c vs) : LvsAt w M (some ⟨lb, 0, none⟩) xs := by
  refine ⟨lb, 0, rfl, h.inM.2, fun j hj => ?_⟩
  obtain ⟨hd, e, hm, hb⟩ := h.lvs j hj
  have hmm := hm
  obtain ⟨A, cj, rfl, h1, h2, h3⟩ := Mine.form hm
  refine ⟨A, cj, ?_, h1, h2, h3, fun a ea hn => ?_⟩
  · rw [Nat.zero_add, World.ownsRow.cellAt h.row j (by omega)]; exact e
  · subst ea
    exact hb _ (by simp [Value.ownBlock])
end

/-! ### New -/
def RNewP (B gr : Nat) (s : Lk) (n : Nat) (N : Nat → Prop) (w : World) (e : Ending) (w' : World) : Prop :=
  ∃ t M, e = .returned (.tuple #[.pointer (some ⟨t, 0, none⟩), .int .i64 0]) ∧ RT w' M t gr (empties n) ∧ (∀ i, M i → w.heap.size ≤ i) ∧ Rb B w' gr (noteR s (insTo (empties n) (dep n - 1))) (fun i => N i ∨ M i) ∧ Out (Tr B w N) w w'
set_option maxRecDepth 100000 in
set_option maxHeartbeats 1600000 in
theorem rtnew_any (B gr : Nat) (s : Lk) (n : Nat) (N : Nat → Prop) (w : World) (h : Rb B w gr s N) (hB0 : B ≤ w.heap.size) (hL : s.1.length + 20000 < 1000000) (hk : s.2 + 20000 < 1000000) (h1 : 1 ≤ n) (h2 : n ≤ 1024) :
    Calls Tryz.prog 9 #[.pointer (some ⟨gr, 0, none⟩), .int .i64 (n : Int)] w (RNewP B gr s n N w) := by
  obtain ⟨Z, hZ⟩ : ∃ Z, madeCells #[.slice none 0 0] n = Z := ⟨_, rfl⟩
  have hmk := run_make_row' (P := Tryz.prog) 52 35 (.slice none 0 0) 24 Tryz.underlying52 (by kernel_rfl) rfl .i64 .i64 n (by omega) (by omega)
  rw [hZ] at hmk
  have hZs : Z.toList.length = n := by rw [← hZ]; simp [madeCells]
  have hZj : ∀ j, j < n → Z.toList[j]? = some (.slice none 0 0) := fun j hj => by rw [← hZ]; simp [madeCells, hj, Nat.mod_one]
  obtain ⟨w1, hw1⟩ : ∃ w1, w.alloc (.cells Z 35) = w1 := ⟨_, rfl⟩
  obtain ⟨w2, hw2⟩ : ∃ w2, w1.alloc (.cells #[.pointer (some ⟨gr, 0, none⟩), .slice (some ⟨w.heap.size, 0, none⟩) n n] 78) = w2 := ⟨_, rfl⟩
  have hb1 : Below w.heap.size w w1 := by rw [← hw1]; exact (Below.refl _ _).alloc (Nat.le_refl _) _
  have hz1 : w1.heap.size = w.heap.size + 1 := by rw [← hw1]; simp
  have hb2 : Below w1.heap.size w1 w2 := by rw [← hw2]; exact (Below.refl _ _).alloc (Nat.le_refl _) _
  have hz2 : w2.heap.size = w1.heap.size + 1 := by rw [← hw2]; simp
  have hrow1 : w1.ownsRow 0 35 1 (.slice (some ⟨w.heap.size, 0, none⟩) n n) n Z.toList := by
    rw [← hw1]
    exact ⟨by omega, .inr ⟨w.heap.size, n, Z, rfl, Nat.zero_le _, heap_alloc_new w _, Nat.le_refl _, by simp [maxLen]; omega, by rw [← Array.length_toList]; omega, List.take_of_length_le (by omega)⟩⟩
  have hrow2 := row_stay hrow1 (w' := w2) fun b cs hb _ => hb2.block b (row_ltv hrow1 hb).2
  have hlen := empties_len n
  have hT2 : RTS w2 (fun i => i = w.heap.size ∨ i = w1.heap.size) w1.heap.size gr (empties n) w.heap.size n Z.toList := by
    refine ⟨by rw [hlen, ← hw2]; exact Blk.new rfl rfl, by rw [hlen]; exact hrow2, fun j hj => ⟨.slice none 0 0, hZj j (by omega), ?_, fun b hb => by simp [Value.ownBlock] at hb⟩, ⟨.inr rfl, .inl rfl⟩, fun i hi => by rcases hi with rfl | rfl <;> omega⟩
    rw [empties_get n j hj]
    exact World.ownsRow_nil _ _ _ _
  have hR2 : Rb B w2 gr s (fun i => N i ∨ (i = w.heap.size ∨ i = w1.heap.size)) := h.belowN (hb1.trans (hb2.mono hb1.size)) fun i hi => by
    rcases hi with hi | rfl | rfl
    · exact .inl hi
    · exact .inr ⟨Nat.le_refl _, by omega⟩
    · exact .inr ⟨by omega, by omega⟩
  have hlv := rlevels_any B gr s _ (fun i => i = w.heap.size ∨ i = w1.heap.size) (some ⟨w.heap.size, 0, none⟩) n n (empties n) w2 hR2 (by omega) hL hk hlen h1 h2 (fun x hx => by
    have : x = [] := by unfold empties at hx; exact (List.mem_replicate.1 hx).2
    rw [this]; decide) hT2.at_ (fun j hj => ⟨by rcases hj with rfl | rfl <;> omega, .inr (.inr hj)⟩)
  have c21 : w2.cell? ⟨w1.heap.size, 1, none⟩ = some (.slice (some ⟨w.heap.size, 0, none⟩) n n) := by
    rw [← hw2]; exact (Blk.new rfl rfl : Blk (w1.alloc (.cells #[.pointer (some ⟨gr, 0, none⟩), .slice (some ⟨w.heap.size, 0, none⟩) n n] 78)) w1.heap.size _ [.pointer (some ⟨gr, 0, none⟩), .slice (some ⟨w.heap.size, 0, none⟩) n n]).cell rfl
  have Hlv : Hid (Calls Tryz.prog 35 #[.pointer (some ⟨gr, 0, none⟩), .slice (some ⟨w.heap.size, 0, none⟩) n n] ((w.alloc (.cells Z 35)).alloc (.cells #[.pointer (some ⟨gr, 0, none⟩), .slice (some ⟨w.heap.size, 0, none⟩) n n] 78)) fun e w' => ∃ v, e = .returned v ∧ RLvls w2 w' v (lows (empties n)) ∧ Rb B w' gr (noteR s (insTo (empties n) (dep n - 1))) (fun i => N i ∨ (i = w.heap.size ∨ i = w1.heap.size)) ∧ Out (Tr B w2 (fun i => N i ∨ (i = w.heap.size ∨ i = w1.heap.size))) w2 w') := by
    rw [hw1, hw2]; exact Lib.hid hlv
  have H := Lib.hid (And.intro hT2 (And.intro (hb1.trans (hb2.mono hb1.size)) hz1))
  have g1 : ¬ (n : Int) < 1 := by omega
  have g2 : ¬ (1024 : Int) < (n : Int) := by omega
  clear h hB0 hL hk hZ hZs hZj hw1 hw2 hb1 hb2 hz2 hrow1 hrow2 hlen hT2 hR2 hlv c21
  rw [hz1] at *
  clear hz1
  go_enter Tryz.func9, Tryz.ntmps9
  go_wp2_with fail
  refine Hlv.out.mono ?_
  rintro e w3 ⟨v, rfl, _, hR3, hO3⟩
  obtain ⟨hT2, hb, hz1⟩ := H.out
  have hT3 : RT w3 (fun i => i = w.heap.size ∨ i = w.heap.size + 1) (w.heap.size + 1) gr (empties n) := RT.out ⟨_, _, _, hT2⟩ hO3 fun i hi => Tr.keep (.inr hi)
  have H3 := Lib.hid (show RNewP B gr s n N w (.returned (.tuple #[.pointer (some ⟨w.heap.size + 1, 0, none⟩), .int .i64 0])) w3 from ⟨_, _, rfl, hT3, fun i hi => by rcases hi with rfl | rfl <;> omega, hR3, (Out.ofBelow _ hb).tr hO3 fun i _ hi => .inl hi⟩)
  clear hR3 hO3 hT2 hb hz1 hT3 Hlv
  go_wp2
  go_ret2
  exact H3.out

/-! ### Level, Root, Depth, Leaves -/
theorem results_row {P : Program} {fn : Func} {p : Tmp} {ty : TypeId} (h : fn.results = #[.cell p ty]) (tmps : Array Value) (w : World) (g : Nat) (t : TypeId) (cs : Array Value) (d : TypeDesc)
    (hp : tmps.getD p undef = .pointer (some ⟨g, 0, none⟩)) (hg : w.heap[g]? = some (.cells cs t (0, 0)))
    (hu : P.underlying ty = some d) (hd : (match d with | .struct _ | .array _ _ => true | _ => false) = true) (hi : (P.info? ty).map (·.size) = some cs.size) :
    (results fn tmps).run P w = .ok (.agg cs) w := by
  have hp' : tmps[p]?.getD undef = .pointer (some ⟨g, 0, none⟩) := by simpa using hp
  simp [results, h, hp', asAddr, run_loadVar_row w g t ty cs (0, 0) d hg hu hd hi]

def RLevP (B gr : Nat) (s : Lk) (N : Nat → Prop) (w : World) (xs : List (List UInt8)) (qi : Int) (e : Ending) (w' : World) : Prop :=
  Rb B w' gr (noteR s (insTo xs (dep xs.length - 1))) N ∧ Out (Tr B w N) w w' ∧
    (((qi < 0 ∨ (dep xs.length : Int) ≤ qi) ∧ e = .returned (.tuple #[.slice none 0 0, .int .i64 9])) ∨ ∃ q r cc, qi = ((q : Nat) : Int) ∧ q < dep xs.length ∧ e = .returned (.tuple #[.slice (some ⟨r, 0, none⟩) (lvl (lows xs) q).length cc, .int .i64 0]) ∧ Ds w' (some ⟨r, 0, none⟩) (lvl (lows xs) q) ∧ (lvl (lows xs) q).length ≤ cc ∧ cc ≤ maxLen)
theorem rl_form {w0 w2 : World} {v : Value} {low : List Dg} (h : RLvls w0 w2 v low) (h1 : 1 ≤ low.length) : ∃ ob oc dm, v = .slice (some ⟨ob, 0, none⟩) (dm + 1) oc ∧ dep low.length = dm + 1 ∧ ∀ q, q < dm + 1 → ∃ r cc, w2.cell? ⟨ob, q, none⟩ = some (.slice (some ⟨r, 0, none⟩) (lvl low q).length cc) ∧ Ds w2 (some ⟨r, 0, none⟩) (lvl low q) ∧ (lvl low q).length ≤ cc ∧ cc ≤ maxLen := by
  obtain ⟨R, hLv⟩ := h
  have hd := dep_pos low.length
  obtain ⟨dm, hdm⟩ : ∃ dm, dep low.length - 1 = dm := ⟨_, rfl⟩
  rw [hdm] at hLv
  obtain ⟨ob, oc, rfl, _, _, _⟩ := row_form hLv.out (by omega)
  refine ⟨ob, oc, dm, rfl, by omega, fun q hq => ?_⟩
  have hrow := hLv.rows q (by omega)
  refine ⟨(R q).1, (R q).2, ?_, Shows.ofOwn hrow, ?_⟩
  · rw [World.ownsRow.cellAt hLv.out q (by omega), List.getElem?_map, List.getElem?_range (by omega)]; rfl
  · rcases hrow.2 with ⟨e, _⟩ | ⟨_, _, _, e, _, _, h3, h4, _⟩
    · cases e
    · injection e with _ _ e3
      rw [e3]
      exact ⟨h3, h4⟩

section
variable {w : World} {M : Nat → Prop} {t gr : Nat} {xs : List (List UInt8)} (B : Nat) (s : Lk) (N : Nat → Prop) (hT0 : RT w M t gr xs) (hRb : Rb B w gr s N) (hB0 : B ≤ w.heap.size) (hMN : ∀ j, M j → N j) (hL : s.1.length + 20000 < 1000000) (hk : s.2 + 20000 < 1000000) (h1 : 1 ≤ xs.length) (h2 : xs.length ≤ 1024) (hls : ∀ x ∈ xs, x.length ≤ 65535)
include hT0 in
theorem rtleaves_any : Calls Tryz.prog 22 #[.pointer (some ⟨t, 0, none⟩)] w fun e w' => e = .returned (.int .i64 (xs.length : Int)) ∧ w' = w := by
  obtain ⟨lb, c, vs, hT⟩ := hT0
  obtain ⟨n, hn⟩ : ∃ n, xs.length = n := ⟨_, rfl⟩
  have hT' := hT.blk
  rw [hn] at hT'
  have c0 : w.cell? ⟨t, 0, none⟩ = some (.pointer (some ⟨gr, 0, none⟩)) := hT'.cell rfl
  have c1 : w.cell? ⟨t, 1, none⟩ = some (.slice (some ⟨lb, 0, none⟩) n c) := hT'.cell rfl
  have htl := hT'.lt
  rw [hn]
  clear hT' hT hn
  go_enter Tryz.func22, Tryz.ntmps22
  go_wp2
  go_ret
  exact ⟨rfl, rfl⟩
include hT0 hRb hB0 hMN hL hk h1 h2 hls in
theorem rtlevels {lb c : Nat} {vs : List Value} (hT : RTS w M t gr xs lb c vs) (w0 : World) (hb : Below w.heap.size w w0) (N' : Nat → Prop) (hN : ∀ j, N j → N' j) (hN' : ∀ j, N' j → N j ∨ (w.heap.size ≤ j ∧ j < w0.heap.size)) : Calls Tryz.prog 35 #[.pointer (some ⟨gr, 0, none⟩), .slice (some ⟨lb, 0, none⟩) xs.length c] w0 fun e w' => ∃ v, e = .returned v ∧ RLvls w0 w' v (lows xs) ∧ Rb B w' gr (noteR s (insTo xs (dep xs.length - 1))) N' ∧ Out (Tr B w0 N') w0 w' :=
  rlevels_any B gr s N' M (some ⟨lb, 0, none⟩) xs.length c xs w0 (hRb.belowN hb hN') (Nat.le_trans hB0 hb.size) hL hk rfl h1 h2 hls ((hT.at_).stays ⟨hb.size, fun j hj => hb.block j (hT.ltM j hj)⟩) fun j hj => ⟨Nat.lt_of_lt_of_le (hT.ltM j hj) hb.size, .inr (hN j (hMN j hj))⟩

include hT0 hRb hB0 hMN hL hk h1 h2 hls in
set_option maxRecDepth 100000 in
set_option maxHeartbeats 1600000 in
theorem rtdepth_any : Calls Tryz.prog 20 #[.pointer (some ⟨t, 0, none⟩)] w fun e w' => e = .returned (.int .i64 (dep xs.length : Int)) ∧ Rb B w' gr (noteR s (insTo xs (dep xs.length - 1))) N ∧ Out (Tr B w N) w w' := by
  obtain ⟨lb, c, vs, hT⟩ := hT0
  obtain ⟨n, hn⟩ : ∃ n, xs.length = n := ⟨_, rfl⟩
  have hT' := hT.blk
  rw [hn] at hT'
  have c0 : w.cell? ⟨t, 0, none⟩ = some (.pointer (some ⟨gr, 0, none⟩)) := hT'.cell rfl
  have c1 : w.cell? ⟨t, 1, none⟩ = some (.slice (some ⟨lb, 0, none⟩) n c) := hT'.cell rfl
  have htl := hT'.lt
  have hlv := rtlevels B s N ⟨_, _, _, hT⟩ hRb hB0 hMN hL hk h1 h2 hls hT w.drew ((Below.refl _ _).drew) N (fun _ h => h) (fun _ h => .inl h)
  rw [hn] at hlv ⊢
  have Hlv := Lib.hid hlv
  have hMt : N t := hMN t hT.inM.1
  have H0 := Lib.hid (show ∀ w', Out (Tr B w.drew N) w.drew w' → w'.cell? ⟨t, 0, none⟩ = some (.pointer (some ⟨gr, 0, none⟩)) ∧ w'.cell? ⟨t, 1, none⟩ = some (.slice (some ⟨lb, 0, none⟩) n c) from fun w' hO => by
    have e : w'.heap[t]? = w.heap[t]? := hO.block t htl (Tr.keep hMt)
    exact ⟨(World.cell?_of_block e).trans c0, (World.cell?_of_block e).trans c1⟩)
  have Hn := Lib.hid (And.intro hn (dep_pos n))
  clear hT' hT hn hlv hMt hRb hB0 hMN hL hk h1 h2 hls
  have Q0 : w.drew.cell? ⟨t, 0, none⟩ = some (.pointer (some ⟨gr, 0, none⟩)) ∧ w.drew.cell? ⟨t, 1, none⟩ = some (.slice (some ⟨lb, 0, none⟩) n c) := ⟨c0, c1⟩
  go_enter Tryz.func20, Tryz.ntmps20
  go_wp2
  refine wp_region_held_drew (S := fun W' => W'.cell? ⟨t, 0, none⟩ = some (.pointer (some ⟨gr, 0, none⟩)) ∧ W'.cell? ⟨t, 1, none⟩ = some (.slice (some ⟨lb, 0, none⟩) n c)) (by kernel_rfl) Q0 (fun _ => ?_)
  refine anyH_take (i := 0) (d := 3) (v := ?v0) rfl rfl (by kernel_rfl) (by kernel_rfl) (by kernel_rfl) (fun _ _ _ h => h) (Or.inl ⟨by rfl, ?vy0⟩) Q0 ?vr0
  case vy0 => (intro w; go_simp; try with_reducible rfl)
  simp only [List.setIfInBounds_toArray, List.set_cons_zero, List.set_cons_succ]
  refine anyH_take (i := 1) (d := 4) (v := ?v1) rfl rfl (by kernel_rfl) (by kernel_rfl) (by kernel_rfl) (fun _ _ _ h => h) (Or.inl ⟨by rfl, ?vy1⟩) Q0 ?vr1
  case vy1 => (intro w; go_simp; try with_reducible rfl)
  simp only [List.setIfInBounds_toArray, List.set_cons_zero, List.set_cons_succ]
  refine anyH_take (i := 2) (d := 5) (v := ?v2) rfl rfl (by kernel_rfl) (by kernel_rfl) (by kernel_rfl) (fun _ _ _ h => h) (Or.inl ⟨by rfl, ?vy2⟩) Q0 ?vr2
  case vy2 => (intro w; go_simp; try with_reducible rfl)
  simp only [List.setIfInBounds_toArray, List.set_cons_zero, List.set_cons_succ]
  refine wpAnyH_take' (i := 3) (d := 6) (v := ?v3) rfl rfl (by kernel_rfl) (by kernel_rfl) (by kernel_rfl) (fun _ _ _ h => h) (Or.inl ⟨by rfl, ?vy3⟩) Q0 ?vr3
  case vy3 => (intro w hSw; go_split_ands; go_simp; try with_reducible rfl)
  simp only [List.setIfInBounds_toArray, List.set_cons_zero, List.set_cons_succ]
  refine anyH_take (i := 4) (d := 7) (v := ?v4) rfl rfl (by kernel_rfl) (by kernel_rfl) (by kernel_rfl) (fun _ _ _ h => h) (Or.inl ⟨by rfl, ?vy4⟩) Q0 ?vr4
  case vy4 => (intro w; go_simp; try with_reducible rfl)
  simp only [List.setIfInBounds_toArray, List.set_cons_zero, List.set_cons_succ]
  refine anyH_take (i := 5) (d := 8) (v := ?v5) rfl rfl (by kernel_rfl) (by kernel_rfl) (by kernel_rfl) (fun _ _ _ h => h) (Or.inl ⟨by rfl, ?vy5⟩) Q0 ?vr5
  case vy5 => (intro w; go_simp; try with_reducible rfl)
  simp only [List.setIfInBounds_toArray, List.set_cons_zero, List.set_cons_succ]
  refine anyH_take (i := 6) (d := 9) (v := ?v6) rfl rfl (by kernel_rfl) (by kernel_rfl) (by kernel_rfl) (fun _ _ _ h => h) (Or.inl ⟨by rfl, ?vy6⟩) Q0 ?vr6
  case vy6 => (intro w; go_simp; try with_reducible rfl)
  simp only [List.setIfInBounds_toArray, List.set_cons_zero, List.set_cons_succ]
  refine wpAnyH_take' (i := 7) (d := 10) (v := ?v7) rfl rfl (by kernel_rfl) (by kernel_rfl) (by kernel_rfl) (fun _ _ _ h => h) (Or.inl ⟨by rfl, ?vy7⟩) Q0 ?vr7
  case vy7 => (intro w hSw; go_split_ands; go_simp; try with_reducible rfl)
  simp only [List.setIfInBounds_toArray, List.set_cons_zero, List.set_cons_succ]
  refine anyH_one (i := 8) (by kernel_rfl) ?_
  refine wpOp_step rfl (fun K hK => ?_)
  go_simp
  refine Hlv.out.mono ?_
  rintro e w2 ⟨v, rfl, ⟨R, hLv⟩, hR2, hO2⟩
  have hof := row_form hLv.out (by omega)
  obtain ⟨ob, oc, rfl, _, _, _⟩ := hof
  have H2 := Lib.hid (And.intro hLv (And.intro hR2 hO2))
  clear hLv hR2 hO2
  refine hK _ _ ⟨(H0.out _ H2.out.2.2), ?_⟩
  clear hK K
  refine anyH_take (i := 9) (d := 12) (v := ?v9) rfl rfl (by kernel_rfl) (by kernel_rfl) (by kernel_rfl) (fun _ _ _ h => h) (Or.inl ⟨by rfl, ?vy9⟩) (H0.out _ H2.out.2.2) ?vr9
  case vy9 => (intro w; go_simp; try with_reducible rfl)
  simp only [List.setIfInBounds_toArray, List.set_cons_zero, List.set_cons_succ]
  refine anyH_take (i := 10) (d := 2) (v := ?v10) rfl rfl (by kernel_rfl) (by kernel_rfl) (by kernel_rfl) (fun _ _ _ h => h) (Or.inl ⟨by rfl, ?vy10⟩) (H0.out _ H2.out.2.2) ?vr10
  case vy10 => (intro w; go_simp; try with_reducible rfl)
  simp only [List.setIfInBounds_toArray, List.set_cons_zero, List.set_cons_succ]
  refine wpAnyH_done (by kernel_rfl) ?_ _

  go_wp2
  go_ret
  obtain ⟨hLv, hR2, hO2⟩ := H2.out
  have hd1 := Hn.out.2
  have e : dep (lows xs).length - 1 + 1 = dep n := by rw [lows_len, Hn.out.1]; omega
  refine ⟨?_, hR2, (Out.ofBelow (Tr B w N) ((Below.refl _ _).drew)).tr hO2 fun i _ h => h⟩
  have e2 : ((dep (lows xs).length - 1 : Nat) : Int) + 1 = (dep n : Int) := by omega
  show Ending.returned (Value.int _ (((dep (lows xs).length - 1 : Nat) : Int) + 1)) = _
  rw [e2]

include hT0 hRb hB0 hMN hL hk h1 h2 hls in
set_option maxRecDepth 100000 in
set_option maxHeartbeats 1600000 in
theorem rtlevel_any (qi : Int) : Calls Tryz.prog 15 #[.pointer (some ⟨t, 0, none⟩), .int .i64 qi] w (RLevP B gr s N w xs qi) := by
  obtain ⟨lb, c, vs, hT⟩ := hT0
  obtain ⟨n, hn⟩ : ∃ n, xs.length = n := ⟨_, rfl⟩
  have hT' := hT.blk
  rw [hn] at hT'
  have c0 : w.cell? ⟨t, 0, none⟩ = some (.pointer (some ⟨gr, 0, none⟩)) := hT'.cell rfl
  have c1 : w.cell? ⟨t, 1, none⟩ = some (.slice (some ⟨lb, 0, none⟩) n c) := hT'.cell rfl
  have htl := hT'.lt
  have hlv := rtlevels B s N ⟨_, _, _, hT⟩ hRb hB0 hMN hL hk h1 h2 hls hT w.drew ((Below.refl _ _).drew) N (fun _ h => h) (fun _ h => .inl h)
  rw [hn] at hlv
  have Hlv := Lib.hid hlv
  have hMt : N t := hMN t hT.inM.1
  have H0 := Lib.hid (show ∀ w', Out (Tr B w.drew N) w.drew w' → w'.cell? ⟨t, 0, none⟩ = some (.pointer (some ⟨gr, 0, none⟩)) ∧ w'.cell? ⟨t, 1, none⟩ = some (.slice (some ⟨lb, 0, none⟩) n c) from fun w' hO => by
    have e : w'.heap[t]? = w.heap[t]? := hO.block t htl (Tr.keep hMt)
    exact ⟨(World.cell?_of_block e).trans c0, (World.cell?_of_block e).trans c1⟩)
  have H1n := Lib.hid (show 1 ≤ n by omega)
  have H2n := Lib.hid (show n ≤ 1024 by omega)
  have Hn := Lib.hid (And.intro hn (dep_pos n))
  clear hT' hT hn hlv hMt hRb hB0 hMN hL hk h1 h2 hls
  have Q0 : w.drew.cell? ⟨t, 0, none⟩ = some (.pointer (some ⟨gr, 0, none⟩)) ∧ w.drew.cell? ⟨t, 1, none⟩ = some (.slice (some ⟨lb, 0, none⟩) n c) := ⟨c0, c1⟩
  go_enter Tryz.func15, Tryz.ntmps15
  go_wp2
  refine wp_region_held_drew (S := fun W' => W'.cell? ⟨t, 0, none⟩ = some (.pointer (some ⟨gr, 0, none⟩)) ∧ W'.cell? ⟨t, 1, none⟩ = some (.slice (some ⟨lb, 0, none⟩) n c)) (by kernel_rfl) Q0 (fun _ => ?_)
  refine anyH_take (i := 0) (d := 7) (v := ?v0) rfl rfl (by kernel_rfl) (by kernel_rfl) (by kernel_rfl) (fun _ _ _ h => h) (Or.inl ⟨by rfl, ?vy0⟩) Q0 ?vr0
  case vy0 => (intro w; go_simp; try with_reducible rfl)
  simp only [List.setIfInBounds_toArray, List.set_cons_zero, List.set_cons_succ]
  refine anyH_take (i := 1) (d := 8) (v := ?v1) rfl rfl (by kernel_rfl) (by kernel_rfl) (by kernel_rfl) (fun _ _ _ h => h) (Or.inl ⟨by rfl, ?vy1⟩) Q0 ?vr1
  case vy1 => (intro w; go_simp; try with_reducible rfl)
  simp only [List.setIfInBounds_toArray, List.set_cons_zero, List.set_cons_succ]
  refine anyH_take (i := 2) (d := 9) (v := ?v2) rfl rfl (by kernel_rfl) (by kernel_rfl) (by kernel_rfl) (fun _ _ _ h => h) (Or.inl ⟨by rfl, ?vy2⟩) Q0 ?vr2
  case vy2 => (intro w; go_simp; try with_reducible rfl)
  simp only [List.setIfInBounds_toArray, List.set_cons_zero, List.set_cons_succ]
  refine wpAnyH_take' (i := 3) (d := 10) (v := ?v3) rfl rfl (by kernel_rfl) (by kernel_rfl) (by kernel_rfl) (fun _ _ _ h => h) (Or.inl ⟨by rfl, ?vy3⟩) Q0 ?vr3
  case vy3 => (intro w hSw; go_split_ands; go_simp; try with_reducible rfl)
  simp only [List.setIfInBounds_toArray, List.set_cons_zero, List.set_cons_succ]
  refine anyH_take (i := 4) (d := 11) (v := ?v4) rfl rfl (by kernel_rfl) (by kernel_rfl) (by kernel_rfl) (fun _ _ _ h => h) (Or.inl ⟨by rfl, ?vy4⟩) Q0 ?vr4
  case vy4 => (intro w; go_simp; try with_reducible rfl)
  simp only [List.setIfInBounds_toArray, List.set_cons_zero, List.set_cons_succ]
  refine anyH_take (i := 5) (d := 12) (v := ?v5) rfl rfl (by kernel_rfl) (by kernel_rfl) (by kernel_rfl) (fun _ _ _ h => h) (Or.inl ⟨by rfl, ?vy5⟩) Q0 ?vr5
  case vy5 => (intro w; go_simp; try with_reducible rfl)
  simp only [List.setIfInBounds_toArray, List.set_cons_zero, List.set_cons_succ]
  refine anyH_take (i := 6) (d := 13) (v := ?v6) rfl rfl (by kernel_rfl) (by kernel_rfl) (by kernel_rfl) (fun _ _ _ h => h) (Or.inl ⟨by rfl, ?vy6⟩) Q0 ?vr6
  case vy6 => (intro w; go_simp; try with_reducible rfl)
  simp only [List.setIfInBounds_toArray, List.set_cons_zero, List.set_cons_succ]
  refine wpAnyH_take' (i := 7) (d := 14) (v := ?v7) rfl rfl (by kernel_rfl) (by kernel_rfl) (by kernel_rfl) (fun _ _ _ h => h) (Or.inl ⟨by rfl, ?vy7⟩) Q0 ?vr7
  case vy7 => (intro w hSw; go_split_ands; go_simp; try with_reducible rfl)
  simp only [List.setIfInBounds_toArray, List.set_cons_zero, List.set_cons_succ]
  refine anyH_one (i := 8) (by kernel_rfl) ?_
  refine wpOp_step rfl (fun K hK => ?_)
  go_simp
  refine Hlv.out.mono ?_
  rintro e w2 ⟨v, rfl, hLv, hR2, hO2⟩
  obtain ⟨ob, oc, dm, rfl, hdm, hqs⟩ := rl_form hLv (by rw [lows_len, Hn.out.1]; exact H1n.out)
  have H2 := Lib.hid (And.intro hdm (And.intro hqs (And.intro hR2 hO2)))
  have HB6 := Lib.hid (show (dm : Int) + 1 ≤ 6 from by have h := dep_le (m := n) H2n.out; rw [lows_len, Hn.out.1] at hdm; omega)
  clear hLv hR2 hO2 hdm hqs
  refine hK _ _ ⟨(H0.out _ H2.out.2.2.2), ?_⟩
  clear hK K
  refine anyH_take (i := 9) (d := 6) (v := ?v9) rfl rfl (by kernel_rfl) (by kernel_rfl) (by kernel_rfl) (fun _ _ _ h => h) (Or.inl ⟨by rfl, ?vy9⟩) (H0.out _ H2.out.2.2.2) ?vr9
  case vy9 => (intro w; go_simp; try with_reducible rfl)
  simp only [List.setIfInBounds_toArray, List.set_cons_zero, List.set_cons_succ]
  refine wpAnyH_done (by kernel_rfl) ?_ _
  have hdx : (dm : Int) + 1 = (dep n : Int) := by have := H2.out.1; rw [lows_len, Hn.out.1] at this; omega
  have Hdx := Lib.hid hdx
  clear hdx
  have hO := (Out.ofBelow (Tr B w N) ((Below.refl w.heap.size w).drew)).tr H2.out.2.2.2 fun i _ h => h
  have HO := Lib.hid hO
  clear hO
  by_cases hq0 : qi < 0
  · go_wp2
    go_ret2
    unfold RLevP
    rw [Hn.out.1]
    exact ⟨H2.out.2.2.1, HO.out, .inl ⟨.inl hq0, rfl⟩⟩
  · obtain ⟨q, rfl⟩ : ∃ q : Nat, qi = (q : Int) := ⟨qi.toNat, by omega⟩
    by_cases hq1 : q < dm + 1
    · obtain ⟨r, cc, hc, hDs, hcc, hcm⟩ := H2.out.2.1 q hq1
      have Hx := Lib.hid (And.intro hDs (And.intro hcc hcm))
      have q0 : (0 : Int) ≤ (q : Int) := by omega
      have q1 : (q : Int) < (dm : Int) + 1 := by omega
      have q2 : (q : Int) ≤ (dm : Int) := by omega
      have q3 : ¬ ((dm : Int) + 1 ≤ (q : Int)) := by omega
      have q4 : decide ((q : Int) < 0) = false := by simp
      have hdb : (dm : Int) + 1 ≤ 6 := HB6.out
      clear hDs hcc hcm hq0
      go_wp2
      go_ret2
      unfold RLevP
      rw [Hn.out.1]
      exact ⟨H2.out.2.2.1, HO.out, .inr ⟨q, r, cc, rfl, by have := Hdx.out; omega, rfl, Hx.out.1, Hx.out.2.1, Hx.out.2.2⟩⟩
    · have q3 : (dm : Int) + 1 ≤ (q : Int) := by omega
      have q4 : decide ((q : Int) < 0) = false := by simp
      have hdb : (dm : Int) + 1 ≤ 6 := HB6.out
      clear hq0
      go_wp2
      go_ret2
      unfold RLevP
      rw [Hn.out.1]
      exact ⟨H2.out.2.2.1, HO.out, .inl ⟨.inr (by have := Hdx.out; omega), rfl⟩⟩

include hT0 hRb hB0 hMN hL hk h1 h2 hls in
set_option maxRecDepth 100000 in
set_option maxHeartbeats 1600000 in
theorem rtroot_any : Calls Tryz.prog 18 #[.pointer (some ⟨t, 0, none⟩)] w fun e w' => e = .returned (.agg (cbs (rootD (lows xs))).toArray) ∧ Rb B w' gr (noteR s (insTo xs (dep xs.length - 1))) N ∧ Out (Tr B w N) w w' := by
  have b0 : Below w.heap.size w (w.alloc (.cells (cbs (List.replicate 32 0)).toArray 46)) := (Below.refl _ _).alloc (Nat.le_refl _) _
  have hZ0 : Blk (w.alloc (.cells (cbs (List.replicate 32 0)).toArray 46)) w.heap.size 46 (cbs (List.replicate 32 0)) := Blk.new rfl rfl
  obtain ⟨lb, c, vs, hT⟩ := hT0
  obtain ⟨n, hn⟩ : ∃ n, xs.length = n := ⟨_, rfl⟩
  have hT' := hT.blk
  rw [hn] at hT'
  have c0 : w.cell? ⟨t, 0, none⟩ = some (.pointer (some ⟨gr, 0, none⟩)) := hT'.cell rfl
  have c1 : w.cell? ⟨t, 1, none⟩ = some (.slice (some ⟨lb, 0, none⟩) n c) := hT'.cell rfl
  have htl := hT'.lt
  have hlv := rtlevels B s N ⟨_, _, _, hT⟩ hRb hB0 hMN hL hk h1 h2 hls hT (w.alloc (.cells (cbs (List.replicate 32 0)).toArray 46)).drew (b0.drew) (fun i => N i ∨ i = w.heap.size) (fun _ h => .inl h) (fun i h => by rcases h with h | rfl; exact .inl h; exact .inr ⟨Nat.le_refl _, by simp [World.drew]⟩)
  rw [hn] at hlv ⊢
  have Hlv := Lib.hid hlv
  have hMt : N t := hMN t hT.inM.1
  have H0 := Lib.hid (show ∀ w', Out (Tr B (w.alloc (.cells (cbs (List.replicate 32 0)).toArray 46)).drew (fun i => N i ∨ i = w.heap.size)) (w.alloc (.cells (cbs (List.replicate 32 0)).toArray 46)).drew w' → w'.cell? ⟨t, 0, none⟩ = some (.pointer (some ⟨gr, 0, none⟩)) ∧ w'.cell? ⟨t, 1, none⟩ = some (.slice (some ⟨lb, 0, none⟩) n c) from fun w' hO => by
    have e : w'.heap[t]? = w.heap[t]? := (hO.block t (Nat.lt_of_lt_of_le htl b0.size) (Tr.keep (.inl hMt))).trans (b0.block t htl)
    exact ⟨(World.cell?_of_block e).trans c0, (World.cell?_of_block e).trans c1⟩)
  have H1n := Lib.hid (show 1 ≤ n by omega)
  have H2n := Lib.hid (show n ≤ 1024 by omega)
  have Hz := Lib.hid (And.intro b0 hZ0)
  have Hn := Lib.hid (And.intro hn (dep_pos n))
  clear b0 hZ0 hT' hT hn hlv hMt hRb hB0 hMN hL hk h1 h2 hls
  have Q0 : (w.alloc (.cells (cbs (List.replicate 32 0)).toArray 46)).drew.cell? ⟨t, 0, none⟩ = some (.pointer (some ⟨gr, 0, none⟩)) ∧ (w.alloc (.cells (cbs (List.replicate 32 0)).toArray 46)).drew.cell? ⟨t, 1, none⟩ = some (.slice (some ⟨lb, 0, none⟩) n c) := H0.out _ (Out.refl _ _)
  obtain ⟨D, hD⟩ : ∃ D, cbs (rootD (lows xs)) = D := ⟨_, rfl⟩
  rw [hD]
  have HDD := Lib.hid hD
  clear hD
  go_enter Tryz.func18, Tryz.ntmps18
  go_wp2
  refine wp_region_held_drew (S := fun W' => W'.cell? ⟨t, 0, none⟩ = some (.pointer (some ⟨gr, 0, none⟩)) ∧ W'.cell? ⟨t, 1, none⟩ = some (.slice (some ⟨lb, 0, none⟩) n c)) (by kernel_rfl) Q0 (fun _ => ?_)
  refine anyH_take (i := 0) (d := 4) (v := ?v0) rfl rfl (by kernel_rfl) (by kernel_rfl) (by kernel_rfl) (fun _ _ _ h => h) (Or.inl ⟨by rfl, ?vy0⟩) Q0 ?vr0
  case vy0 => (intro w; go_simp; try with_reducible rfl)
  simp only [List.setIfInBounds_toArray, List.set_cons_zero, List.set_cons_succ]
  refine anyH_take (i := 1) (d := 5) (v := ?v1) rfl rfl (by kernel_rfl) (by kernel_rfl) (by kernel_rfl) (fun _ _ _ h => h) (Or.inl ⟨by rfl, ?vy1⟩) Q0 ?vr1
  case vy1 => (intro w; go_simp; try with_reducible rfl)
  simp only [List.setIfInBounds_toArray, List.set_cons_zero, List.set_cons_succ]
  refine anyH_take (i := 2) (d := 6) (v := ?v2) rfl rfl (by kernel_rfl) (by kernel_rfl) (by kernel_rfl) (fun _ _ _ h => h) (Or.inl ⟨by rfl, ?vy2⟩) Q0 ?vr2
  case vy2 => (intro w; go_simp; try with_reducible rfl)
  simp only [List.setIfInBounds_toArray, List.set_cons_zero, List.set_cons_succ]
  refine wpAnyH_take' (i := 3) (d := 7) (v := ?v3) rfl rfl (by kernel_rfl) (by kernel_rfl) (by kernel_rfl) (fun _ _ _ h => h) (Or.inl ⟨by rfl, ?vy3⟩) Q0 ?vr3
  case vy3 => (intro w hSw; go_split_ands; go_simp; try with_reducible rfl)
  simp only [List.setIfInBounds_toArray, List.set_cons_zero, List.set_cons_succ]
  refine anyH_take (i := 4) (d := 8) (v := ?v4) rfl rfl (by kernel_rfl) (by kernel_rfl) (by kernel_rfl) (fun _ _ _ h => h) (Or.inl ⟨by rfl, ?vy4⟩) Q0 ?vr4
  case vy4 => (intro w; go_simp; try with_reducible rfl)
  simp only [List.setIfInBounds_toArray, List.set_cons_zero, List.set_cons_succ]
  refine anyH_take (i := 5) (d := 9) (v := ?v5) rfl rfl (by kernel_rfl) (by kernel_rfl) (by kernel_rfl) (fun _ _ _ h => h) (Or.inl ⟨by rfl, ?vy5⟩) Q0 ?vr5
  case vy5 => (intro w; go_simp; try with_reducible rfl)
  simp only [List.setIfInBounds_toArray, List.set_cons_zero, List.set_cons_succ]
  refine anyH_take (i := 6) (d := 10) (v := ?v6) rfl rfl (by kernel_rfl) (by kernel_rfl) (by kernel_rfl) (fun _ _ _ h => h) (Or.inl ⟨by rfl, ?vy6⟩) Q0 ?vr6
  case vy6 => (intro w; go_simp; try with_reducible rfl)
  simp only [List.setIfInBounds_toArray, List.set_cons_zero, List.set_cons_succ]
  refine wpAnyH_take' (i := 7) (d := 11) (v := ?v7) rfl rfl (by kernel_rfl) (by kernel_rfl) (by kernel_rfl) (fun _ _ _ h => h) (Or.inl ⟨by rfl, ?vy7⟩) Q0 ?vr7
  case vy7 => (intro w hSw; go_split_ands; go_simp; try with_reducible rfl)
  simp only [List.setIfInBounds_toArray, List.set_cons_zero, List.set_cons_succ]
  refine anyH_one (i := 8) (by kernel_rfl) ?_
  refine wpOp_step rfl (fun K hK => ?_)
  go_simp
  refine Hlv.out.mono ?_
  rintro e w2 ⟨v, rfl, hLv, hR2, hO2⟩
  obtain ⟨ob, oc, dm, rfl, hdm, hqs⟩ := rl_form hLv (by rw [lows_len, Hn.out.1]; exact H1n.out)
  have H2 := Lib.hid (And.intro hdm (And.intro hqs (And.intro hR2 hO2)))
  have HB6 := Lib.hid (show (dm : Int) + 1 ≤ 6 from by have h := dep_le (m := n) H2n.out; rw [lows_len, Hn.out.1] at hdm; omega)
  clear hLv hR2 hO2 hdm hqs
  refine hK _ _ ⟨(H0.out _ H2.out.2.2.2), ?_⟩
  clear hK K
  refine anyH_take (i := 9) (d := 3) (v := ?v9) rfl rfl (by kernel_rfl) (by kernel_rfl) (by kernel_rfl) (fun _ _ _ h => h) (Or.inl ⟨by rfl, ?vy9⟩) (H0.out _ H2.out.2.2.2) ?vr9
  case vy9 => (intro w; go_simp; try with_reducible rfl)
  simp only [List.setIfInBounds_toArray, List.set_cons_zero, List.set_cons_succ]
  refine wpAnyH_done (by kernel_rfl) ?_ _
  obtain ⟨r, cc, hc, hDs, hcc, hcm⟩ := H2.out.2.1 dm (by omega)
  have hl1 : lvl (lows xs) dm = [rootD (lows xs)] := by
    have h := root_one (low := lows xs) (by rw [lows_len, Hn.out.1]; exact H1n.out)
    rwa [H2.out.1, Nat.add_sub_cancel] at h
  rw [hl1] at hc hDs hcc
  have hrl : (rootD (lows xs)).length = 32 := root_len (by rw [lows_len, Hn.out.1]; exact H1n.out) (all32_lows _)
  have hD := HDD.out
  have hD32 : D.length = 32 := by rw [← hD, cbs_length, hrl]
  have hD1 : D.toArray.all (·.oneCell') = true := by rw [← hD]; exact cbs_one' _
  have hDi : (Tryz.prog.info? 46).map (·.size) = some D.length := by rw [hD32]; exact info32b
  have hrg : w2.rangeAt r 0 D := by
    obtain ⟨_, _, e, _, hra⟩ := hDs.at_ (fun d hd => by rw [List.mem_singleton.1 hd]; exact hrl) (i := 0) (by simp)
    cases e
    rw [← hD]
    simpa using hra
  have hZ2 := H2.out.2.2.2.blk (Hz.out.2.below ((Below.refl _ _).drew) Hz.out.2.lt) (Tr.keep (.inr rfl))
  have hsD : D.toArray.size = 32 := by rw [List.size_toArray]; exact hD32
  have hth : w2.there w.heap.size 0 D.toArray.size := by
    have e := hZ2.there
    rw [cbs_length, List.length_replicate] at e
    rw [hsD]; exact e
  have hi : (Tryz.prog.info? 46).map (·.size) = some D.toArray.size := by rw [hsD]; exact info32b
  have hRr := hZ2.setAll (vs := D) (by rw [hD32, cbs_length, List.length_replicate])
  have hRf : Rb B (w2.setCells w.heap.size 0 D) gr (noteR s (insTo xs (dep n - 1))) N := (H2.out.2.2.1.store (.inr rfl) 0 D).less fun i hi => .inl hi
  have hOf : Out (Tr B w N) w (w2.setCells w.heap.size 0 D) := Out.store ((Out.ofBelow (Tr B w N) (Hz.out.1.drew)).tr H2.out.2.2.2 fun i hi h => .inl h) (Nat.le_refl _) 0 D
  have H3 := Lib.hid (And.intro hth (And.intro hi (And.intro hD1 (And.intro hrg (And.intro hDi (And.intro hRr (And.intro hRf hOf)))))))
  have hdb : (dm : Int) + 1 ≤ 6 := HB6.out
  clear hDs hcc hcm hl1 hrl hD hD32 hD1 hDi hrg hZ2 hsD hth hi hRr hRf hOf
  go_wp2_with (first
    | (refine wpList_load_mid rfl 46 _ rfl r 0 rfl D _ H3.out.2.2.2.1 Tryz.underlying46 rfl H3.out.2.2.2.2.1 ?_; simp only [Act.put])
    | (refine wpList_store_mid rfl 46 _ _ rfl w.heap.size 0 D.toArray rfl rfl H3.out.1 H3.out.2.1 H3.out.2.2.1 ?_; simp only [Act.put]))
  refine bodyPost_ret (results_row rfl _ _ w.heap.size 46 D.toArray _ rfl H3.out.2.2.2.2.2.1 Tryz.underlying46 rfl H3.out.2.1) rfl ?_
  exact ⟨rfl, H3.out.2.2.2.2.2.2⟩
end
end Go.Proofs.YtbdocaohnigekaaGreat
