/-
  Laid together for a hand-in: Ke14, Aw14, Ak14.
-/
import Derived.Test.YtmdgcimjmmnbjaaZ12
import Derived.Test.YtmdgcimjmmnbjaaZ11

namespace Go.Proofs.Ytmdgcimjmmnbjaa
open Go.RowKit Go.Shelf Go.Sort Go.Maps CrewP
set_option linter.unusedVariables false
set_option linter.unusedSimpArgs false

theorem ins_end {x : Vt} : ∀ {l : List Vt}, (∀ y ∈ l, y.v < x.v) → ins x l = l ++ [x]
  | [], _ => rfl
  | y :: l, h => by
    have h1 : ¬ ltV x y := by have := h y List.mem_cons_self; unfold ltV; omega
    unfold ins
    rw [if_neg h1, ins_end fun z hz => h z (List.mem_cons_of_mem _ hz)]
    rfl
theorem qPut_end {q : List Vt} {x : Vt} (h : ∀ y ∈ q, y.v < x.v) : qPut q x = qCut (qLess q x.d) ++ [x] :=
  ins_end fun y hy => h y (List.mem_filter.1 ((qCut_sub _).subset hy)).1
theorem fol_new {o : Option Vt} {x : Vt} (h : ∀ v, o = some v → v.v < x.v) : fol o x = 0 := by
  cases o with
  | none => rfl
  | some v =>
    have := h v rfl
    simp only [fol]
    rw [if_neg (by omega), if_neg (by omega)]
theorem preB_set (σ : St) (i : Nat) (x y : Sq) : preB (σ.set i x) y = preB σ y := rfl
/-- The number 1 is all that is known; what was said was said in views below k. -/
structure KeI (k : Nat) (σ : St) (p : Option Vt) : Prop where
  f : σ.f = 1
  ns : σ.ns = ndL 4
  low : σ.low = 0
  oth : ∀ i, i ≠ 0 → σ.s i = sq0
  last : ∀ v, (σ.s 0).last = some v → v.v < k
  pr : ∀ n v, (σ.s 0).pr n = some v → v.v < k
  p : (σ.s 0).p = p
  q : ∀ y ∈ (σ.s 0).q, y.v < k
theorem kei_fresh : KeI 0 (fr 1) none := ⟨rfl, rfl, rfl, fun _ _ => rfl, fun v h => by simp [fr, fresh0, sq0] at h, fun n v h => by simp [fr, fresh0, sq0] at h, rfl, fun y h => by simp [fr, fresh0, sq0] at h⟩
theorem set_s (σ : St) (i : Nat) (x : Sq) : (σ.set i x).s i = x := by simp [St.set]
theorem set_o {σ : St} {i j : Nat} (x : Sq) (h : j ≠ i) : (σ.set i x).s j = σ.s j := by simp [St.set, h]
theorem idx0 {σ : St} (h : σ.low = 0) : idx σ 1 = some 0 := by unfold idx; rw [h]; rfl
theorem view_k {k : Nat} (hk : k < 20) : viewB (k : Int) = true := by simp [viewB]; omega
section
variable {k : Nat} {σ : St} {p : Option Vt} {d : List UInt8}
theorem kei_prop (h : KeI k σ p) (hk : k < 20) : propE σ k 1 d = 0 ∧ KeI (k + 1) (propS σ k 1 d) p ∧ ((propS σ k 1 d).s 0).last = some ⟨k, d⟩ ∧ ((propS σ k 1 d).s 0).q = qCut (qLess (σ.s 0).q d) ++ [⟨k, d⟩] ∧
    (∀ n v, ((propS σ k 1 d).s 0).pr n = some v → v.v < k) ∧ preB (propS σ k 1 d) ((propS σ k 1 d).s 0) = false := by
  have hE : propE σ k 1 d = 0 := by
    unfold propE
    rw [view_k hk, if_neg (by simp), idx0 h.low]
    exact fol_new h.last
  have hc : cntV σ.ns (σ.s 0).pr ⟨k, d⟩ = 0 := by
    unfold cntV
    rw [List.countP_eq_zero]
    intro n _ e
    have := h.pr n ⟨k, d⟩ (of_decide_eq_true e)
    simp at this
  have hpb : preB σ (propSq (σ.s 0) ⟨k, d⟩) = false := by
    unfold preB propSq
    simp only [hc, h.f]
    decide
  have hS : propS σ k 1 d = σ.set 0 (propSq (σ.s 0) ⟨k, d⟩) := by
    unfold propS
    rw [hE, if_neg (by simp), idx0 h.low]
    simp only [lookS, hpb]
    simp
  rw [hS]
  have hq : (propSq (σ.s 0) ⟨k, d⟩).q = qCut (qLess (σ.s 0).q d) ++ [⟨k, d⟩] := qPut_end h.q
  refine ⟨hE, ⟨h.f, h.ns, h.low, fun i hi => by rw [set_o _ hi]; exact h.oth i hi, ?_, ?_, ?_, ?_⟩, ?_, ?_, ?_, ?_⟩
  · rw [set_s]
    intro v hv
    injection hv with hv
    rw [← hv]
    show (k : Int) < ((k + 1 : Nat) : Int)
    omega
  · rw [set_s]
    intro n v hv
    have := h.pr n v hv
    omega
  · rw [set_s]; exact h.p
  · rw [set_s, hq]
    intro y hy
    rcases List.mem_append.1 hy with hy | hy
    · have := h.q y (List.mem_filter.1 ((qCut_sub _).subset hy)).1
      omega
    · rw [List.mem_singleton.1 hy]
      show (k : Int) < ((k + 1 : Nat) : Int)
      omega
  · rw [set_s]; rfl
  · rw [set_s]; exact hq
  · rw [set_s]; exact h.pr
  · rw [set_s, preB_set]; exact hpb
/-- Prepared by the nodes 1 to j. -/
def stJ (σ : St) (k : Nat) (d : List UInt8) : Nat → St
  | 0 => σ
  | j + 1 => prepS (stJ σ k d j) ((j : Int) + 1) k 1 d
structure KeJ (k : Nat) (d : List UInt8) (q : List Vt) (j : Nat) (τ : St) : Prop where
  f : τ.f = 1
  ns : τ.ns = ndL 4
  low : τ.low = 0
  oth : ∀ i, i ≠ 0 → τ.s i = sq0
  last : (τ.s 0).last = some ⟨k, d⟩
  pr : ∀ n v, (τ.s 0).pr n = some v → v.v < k + 1
  new : ∀ n : Int, (j : Int) < n → ∀ v, (τ.s 0).pr n = some v → v.v < k
  done : ∀ n : Int, 1 ≤ n → n ≤ j → n ≠ leadO τ k → (τ.s 0).pr n = some ⟨k, d⟩
  q : (τ.s 0).q = q
  pp : preB τ (τ.s 0) = true → (τ.s 0).p = some ⟨k, d⟩
theorem kej_step {q : List Vt} {j : Nat} {τ : St} (h : KeJ k d q j τ) (hj : j < 4) (hk : k < 20) : KeJ k d q (j + 1) (prepS τ ((j : Int) + 1) k 1 d) := by
  have hmem : ((j : Int) + 1) ∈ τ.ns := by
    rw [h.ns]
    have : ∀ j : Nat, j < 4 → ((j : Int) + 1) ∈ ndL 4 := by decide +kernel
    exact this j hj
  by_cases hl : (j : Int) + 1 = leadO τ k
  · have hE : prepE τ ((j : Int) + 1) k 1 d = 2 := by
      unfold prepE
      rw [if_neg (by simpa using hmem), view_k hk, if_neg (by simp), if_pos hl]
    have hS : prepS τ ((j : Int) + 1) k 1 d = τ := by unfold prepS; rw [if_pos (by rw [hE]; omega)]
    rw [hS]
    exact ⟨h.f, h.ns, h.low, h.oth, h.last, h.pr, fun n hn => h.new n (by omega), fun n h1 h2 h3 => h.done n h1 (by
      have : n ≠ (j : Int) + 1 := fun e => h3 (by rw [e]; exact hl)
      omega) h3, h.q, h.pp⟩
  · have hE : prepE τ ((j : Int) + 1) k 1 d = 0 := by
      unfold prepE
      rw [if_neg (by simpa using hmem), view_k hk, if_neg (by simp), if_neg hl, idx0 h.low]
      exact fol_new (h.new _ (by omega))
    have hS : prepS τ ((j : Int) + 1) k 1 d = τ.set 0 (lookS τ { τ.s 0 with pr := setV (τ.s 0).pr ((j : Int) + 1) ⟨k, d⟩ }) := by
      unfold prepS
      rw [if_neg (by rw [hE]; omega), idx0 h.low]
    rw [hS]
    have hx : ∀ x : Sq, (lookS τ x).last = x.last ∧ (lookS τ x).pr = x.pr ∧ (lookS τ x).q = x.q ∧ (preB τ (lookS τ x) = true → (lookS τ x).p = x.last) := fun x => by
      unfold lookS
      cases e : preB τ x with
      | true => exact ⟨rfl, rfl, rfl, fun _ => rfl⟩
      | false => exact ⟨rfl, rfl, rfl, fun h => by simp [e] at h⟩
    obtain ⟨x1, x2, x3, x4⟩ := hx { τ.s 0 with pr := setV (τ.s 0).pr ((j : Int) + 1) ⟨k, d⟩ }
    refine ⟨h.f, h.ns, h.low, fun i hi => by rw [set_o _ hi]; exact h.oth i hi, ?_, ?_, ?_, ?_, ?_, ?_⟩
    · rw [set_s, x1]; exact h.last
    · rw [set_s, x2]
      intro n v hv
      simp only [setV] at hv
      split at hv
      · injection hv with hv
        rw [← hv]
        show (k : Int) < (k : Int) + 1
        omega
      · exact h.pr n v hv
    · rw [set_s, x2]
      intro n hn v hv
      simp only [setV] at hv
      rw [if_neg (by omega)] at hv
      exact h.new n (by omega) v hv
    · rw [set_s, x2]
      intro n h1 h2 h3
      simp only [setV]
      split
      · rfl
      · exact h.done n h1 (by omega) h3
    · rw [set_s, x3]; exact h.q
    · rw [set_s, preB_set]
      intro hb
      rw [x4 hb]
      exact h.last
theorem kej_end {q : List Vt} {τ : St} (h : KeJ k d q 4 τ) (hq : ∀ y ∈ q, y.v < (k : Int) + 1) : KeI (k + 1) τ (some ⟨k, d⟩) := by
  have c : ∀ n : Int, 1 ≤ n → n ≤ 4 → n ≠ leadO τ k → decide ((τ.s 0).pr n = some ⟨k, d⟩) = true := fun n h1 h2 h3 => decide_eq_true (h.done n h1 h2 h3)
  have hcnt : 2 ≤ cntV τ.ns (τ.s 0).pr ⟨k, d⟩ := by
    unfold cntV
    rw [h.ns]
    show 2 ≤ ([1, 2, 3, 4] : List Int).countP _
    by_cases l1 : (1 : Int) = leadO τ k
    · have e2 := c 2 (by omega) (by omega) (by omega)
      have e3 := c 3 (by omega) (by omega) (by omega)
      simp only [List.countP_cons, List.countP_nil, e2, e3, if_true]
      omega
    · have e1 := c 1 (by omega) (by omega) l1
      by_cases l2 : (2 : Int) = leadO τ k
      · have e3 := c 3 (by omega) (by omega) (by omega)
        simp only [List.countP_cons, List.countP_nil, e1, e3, if_true]
        omega
      · have e2 := c 2 (by omega) (by omega) l2
        simp only [List.countP_cons, List.countP_nil, e1, e2, if_true]
        omega
  have hpb : preB τ (τ.s 0) = true := by
    unfold preB
    rw [h.last]
    simp only [h.f]
    exact decide_eq_true (by omega)
  refine ⟨h.f, h.ns, h.low, h.oth, fun v hv => ?_, fun n v hv => ?_, h.pp hpb, fun y hy => ?_⟩
  · rw [h.last] at hv
    injection hv with hv
    rw [← hv]
    show (k : Int) < ((k + 1 : Nat) : Int)
    omega
  · have := h.pr n v hv
    omega
  · rw [h.q] at hy
    have := hq y hy
    omega
theorem kei_all (h : KeI k σ p) (hk : k < 20) : KeI (k + 1) (stJ (propS σ k 1 d) k d 4) (some ⟨k, d⟩) ∧ ((stJ (propS σ k 1 d) k d 4).s 0).q = qCut (qLess (σ.s 0).q d) ++ [⟨k, d⟩] := by
  obtain ⟨h1, h2, h3, h4, h5, h6⟩ := kei_prop (d := d) h hk
  have h0 : KeJ k d (qCut (qLess (σ.s 0).q d) ++ [⟨k, d⟩]) 0 (propS σ k 1 d) := ⟨h2.f, h2.ns, h2.low, h2.oth, h3, fun n v hv => by have := h5 n v hv; omega, fun n _ v hv => h5 n v hv, fun n a b => by omega, h4, fun e => by rw [h6] at e; cases e⟩
  have ha := kej_step (kej_step (kej_step (kej_step h0 (by omega) hk) (by omega) hk) (by omega) hk) (by omega) hk
  refine ⟨kej_end (by exact ha) fun y hy => ?_, ha.q⟩
  have := h2.q y (by rw [h4]; exact hy)
  omega
theorem kei_p (h : KeI k σ p) : (List.range 8).flatMap (pTs σ) = pT 1 p := by
  have e : ∀ i : Nat, i ≠ 0 → pTs σ i = [] := fun i hi => by unfold pTs; rw [h.oth i hi]; rfl
  have e0 : pTs σ 0 = pT 1 p := by unfold pTs; rw [h.p, h.low]; rfl
  show ([0, 1, 2, 3, 4, 5, 6, 7] : List Nat).flatMap (pTs σ) = _
  simp only [List.flatMap_cons, List.flatMap_nil, e0, e 1 (by omega), e 2 (by omega), e 3 (by omega), e 4 (by omega), e 5 (by omega), e 6 (by omega), e 7 (by omega), List.append_nil]
theorem kei_q (h : KeI k σ p) : (List.range 8).flatMap (qTs σ) = qT 1 (σ.s 0).q := by
  have e : ∀ i : Nat, i ≠ 0 → qTs σ i = [] := fun i hi => by unfold qTs; rw [h.oth i hi]; rfl
  have e0 : qTs σ 0 = qT 1 (σ.s 0).q := by unfold qTs; rw [h.low]; rfl
  show ([0, 1, 2, 3, 4, 5, 6, 7] : List Nat).flatMap (qTs σ) = _
  simp only [List.flatMap_cons, List.flatMap_nil, e0, e 1 (by omega), e 2 (by omega), e 3 (by omega), e 4 (by omega), e 5 (by omega), e 6 (by omega), e 7 (by omega), List.append_nil]
end
end Go.Proofs.Ytmdgcimjmmnbjaa

namespace Go.Proofs.Ytmdgcimjmmnbjaa
open Go.RowKit Go.Shelf Go.Sort Go.Maps CrewP
set_option linter.unusedVariables false
set_option linter.unusedSimpArgs false

theorem built_stand0 : Try.prog.built 41 [] = some (sdC sd0).toArray := by kernel_rfl
/-- What At answers. -/
def atV (o : Option Sd) : Value := .tuple #[.agg (sdC (o.getD sd0)).toArray, .bool o.isSome]
section
variable {w : World} {U : Nat → Prop} {g : Nat} {σ : St} {ab cap m : Nat} {sb qb rb cb : Nat → Nat} {role : Nat → Nat}
set_option maxRecDepth 100000 in
set_option maxHeartbeats 3200000 in
theorem at_in (h : StIn w U g σ all8 ab cap m sb qb rb cb role) {seq : Int} (hs : Wf seq) : Calls Try.prog 18 #[.pointer (some ⟨g, 0, none⟩), .int .i64 seq] w fun e w' => e = .returned (atV (atS σ seq)) ∧ Below w.heap.size w w' := by
  have hal : ∀ o : Obj, Below w.heap.size w (w.alloc o) := fun o => (Below.refl _ _).alloc (Nat.le_refl _) _
  have Ho := Lib.hid (fun o : Obj => of_in (h.below (hal o)) hs)
  have hz34 : (sdC sd0).length = 34 := rfl
  obtain ⟨w2, hw2, ⟨hth, hi⟩, hb2, hbe, hs2⟩ := row_local w 41 (sdC sd0) (sdC sd0) rfl (by rw [hz34]; exact stand_info1)
  have H2 := Lib.hid (And.intro hth (And.intro hi (And.intro hw2 (And.intro hb2 (And.intro hbe (sdC_one sd0))))))
  clear hth hi hw2 hb2 hbe hs2
  cases hix : idx σ seq with
  | none =>
    have hA : atS σ seq = none := by unfold atS; rw [hix]; rfl
    rw [hA]
    rw [hix] at Ho
    simp only [Option.map_none] at Ho
    have Hb := Lib.hid built_stand0
    have hv : Hid (atV none = .tuple #[.agg (sdC sd0).toArray, .bool false]) := Lib.hid rfl
    clear h hix hA hal hz34
    generalize atV none = V at *
    generalize hS : sdC sd0 = S at *
    go_enter Try.func18, Try.ntmps18
    subst hS
    go_wp2_with (first
      | (go_at_call 28; refine (Ho.out _).mono ?_; rintro e w' ⟨rfl, rfl⟩)
      | (refine wpList_build_g rfl 41 _ rfl (sdC sd0).toArray Hb.out ?_; simp only [Act.put])
      | (refine wpList_store_mid rfl 41 _ _ rfl w.heap.size 0 (sdC sd0).toArray rfl rfl H2.out.1 H2.out.2.1 H2.out.2.2.2.2.2 ?_; simp only [Act.put]; refine cast (congrArg (fun z => wpList _ _ _ _ _ z) H2.out.2.2.1.symm) ?_))
    refine bodyPost_ret (results_row_tmp rfl _ _ w.heap.size 41 (sdC sd0).toArray (.bool false) _ rfl rfl H2.out.2.2.2.1 Try.underlying41 rfl H2.out.2.1) rfl ?_
    exact ⟨by rw [hv.out], H2.out.2.2.2.2.1⟩
  | some i =>
    rw [hix] at Ho
    simp only [Option.map_some] at Ho
    have hi8 := (idx_lt hix).1
    have hs0 := h.s i hi8 rfl
    have hok := h.ok.s i hi8
    obtain ⟨hC, _, _, _, _, _⟩ := sq_cells hok.last hok.p (.map (some (qb i))) (.map (some (rb i))) (.map (some (cb i)))
    have hiC := say_infoL hok.last
    have heq := fun w => eq_say hok.last (show okO none by simp [okO]) w
    have hrg : ∀ o : Obj, (w.alloc o).rangeAt (sb i) 0 (sy (σ.s i).last) := fun o => (hs0.blk.below (hal o) hs0.blk.lt).rangeFrom hC
    cases hl : (σ.s i).last with
    | none =>
      have hA : atS σ seq = none := by unfold atS; rw [hix]; simp [hl]
      rw [hA]
      have hv : Hid (atV none = .tuple #[.agg (sdC sd0).toArray, .bool false]) := Lib.hid rfl
      rw [hl] at hrg hiC heq
      have HS := Lib.hid (And.intro hrg (And.intro hiC (And.intro say_built0 built_stand0)))
      have heq' : ∀ w, (Op.equalIn 10000 64 (.agg (sy none).toArray) (.agg (sy none).toArray)).run Try.prog w = .ok true w := fun w => by have := heq w; simpa using this
      clear h hix hA hal hz34 hi8 hs0 hok hC hiC heq hrg hl
      generalize sb i = s at *
      generalize hZ : sy none = Z at *
      generalize atV none = V at *
      go_enter Try.func18, Try.ntmps18
      go_wp2_with (first
        | (go_at_call 28; refine (Ho.out _).mono ?_; rintro e w' ⟨rfl, rfl⟩)
        | (refine load_mid_g rfl 64 _ rfl s 0 rfl Z _ (HS.out.1 _) Try.underlying64 rfl HS.out.2.1 ?_; simp only [Act.put])
        | (refine wpList_build_g rfl 64 _ rfl Z.toArray HS.out.2.2.1 ?_; simp only [Act.put])
        | (refine wpList_build_g rfl 41 _ rfl (sdC sd0).toArray HS.out.2.2.2 ?_; simp only [Act.put])
        | (refine wpList_store_mid rfl 41 _ _ rfl w.heap.size 0 (sdC sd0).toArray rfl rfl H2.out.1 H2.out.2.1 H2.out.2.2.2.2.2 ?_; simp only [Act.put]; refine cast (congrArg (fun z => wpList _ _ _ _ _ z) H2.out.2.2.1.symm) ?_))
      refine bodyPost_ret (results_row_tmp rfl _ _ w.heap.size 41 (sdC sd0).toArray (.bool false) _ rfl rfl H2.out.2.2.2.1 Try.underlying41 rfl H2.out.2.1) rfl ?_
      exact ⟨by rw [hv.out], H2.out.2.2.2.2.1⟩
    | some x =>
      have hx := hok.last x hl
      have hox : okO (some x) := fun y hy => by injection hy with hy; rw [← hy]; exact hx
      have hsq := (idx_lt hix).2
      have hA : atS σ seq = some ⟨seq, x.d, x.v⟩ := by unfold atS; rw [hix]; simp [hl, sdOf, hsq]
      rw [hA]
      have hv : Hid (atV (some ⟨seq, x.d, x.v⟩) = .tuple #[.agg (sdC ⟨seq, x.d, x.v⟩).toArray, .bool true]) := Lib.hid rfl
      rw [hl] at hrg hiC heq
      have Hst := Lib.hid (fun W => stand_any hx.2.2 hox seq W)
      have heq' : ∀ w, (Op.equalIn 10000 64 (.agg (sy (some x)).toArray) (.agg (sy none).toArray)).run Try.prog w = .ok false w := fun w => by have := heq w; simpa using this
      have HS := Lib.hid (And.intro hrg (And.intro hiC (And.intro say_built0 (And.intro hal (And.intro hx.2.2 (sdC_one ⟨seq, x.d, x.v⟩))))))
      have hZB : ∀ o : Obj, (w.alloc o).heap.size = w.heap.size + 1 := fun o => by simp
      have HZ : Hid (Blk (w.alloc (.cells (sdC sd0).toArray 41)) w.heap.size 41 (sdC sd0)) := Lib.hid (Blk.new rfl rfl)
      clear h hix hA hal hz34 hi8 hs0 hok hC hiC heq hrg hl hx hox hsq hZB
      generalize sb i = s at *
      generalize hZ : sy none = Z at *
      generalize hC : sy (some x) = C at *
      generalize atV (some ⟨seq, x.d, x.v⟩) = V at *
      go_enter Try.func18, Try.ntmps18
      go_wp2_with (first
        | (go_at_call 28; refine (Ho.out _).mono ?_; rintro e w' ⟨rfl, rfl⟩)
        | (refine load_mid_g rfl 64 _ rfl s 0 rfl C _ (HS.out.1 _) Try.underlying64 rfl HS.out.2.1 ?_; simp only [Act.put])
        | (refine wpList_build_g rfl 64 _ rfl Z.toArray HS.out.2.2.1 ?_; simp only [Act.put]))
      refine (Hst.out _).mono ?_
      rintro e w3 ⟨rfl, hb3⟩
      have B3 : Blk w3 w.heap.size 41 (sdC sd0) := HZ.out.below hb3 HZ.out.lt
      have b3 : Below w.heap.size w w3 := (HS.out.2.2.2.1 _).trans (hb3.mono (HS.out.2.2.2.1 _).size)
      have hl34 : (sdC ⟨seq, x.d, x.v⟩).length = (sdC sd0).length := by rw [sdC_len HS.out.2.2.2.2.1]; rfl
      have hth : w3.there w.heap.size 0 (sdC ⟨seq, x.d, x.v⟩).toArray.size := B3.thereAt (by rw [List.size_toArray, hl34]; omega)
      have hset := Blk.setAll B3 hl34
      have hin : (Try.prog.info? 41).map (·.size) = some (sdC ⟨seq, x.d, x.v⟩).toArray.size := by rw [List.size_toArray, hl34]; exact stand_info1
      have H3 := Lib.hid (And.intro hth (And.intro hset (And.intro hin (Below.setCells (Nat.le_refl _) (sdC ⟨seq, x.d, x.v⟩) b3 (o := 0)))))
      clear hb3 B3 b3 hl34 hth hset hin
      go_wp2_with (refine wpList_store_mid rfl 41 _ _ rfl w.heap.size 0 (sdC ⟨seq, x.d, x.v⟩).toArray rfl rfl H3.out.1 H3.out.2.2.1 HS.out.2.2.2.2.2 ?_; simp only [Act.put])
      refine bodyPost_ret (results_row_tmp rfl _ _ w.heap.size 41 (sdC ⟨seq, x.d, x.v⟩).toArray (.bool true) _ rfl rfl H3.out.2.1 Try.underlying41 rfl H3.out.2.2.1) rfl ?_
      exact ⟨by rw [hv.out], H3.out.2.2.2⟩
end
end Go.Proofs.Ytmdgcimjmmnbjaa

namespace Go.Proofs.Ytmdgcimjmmnbjaa
open Go.RowKit Go.Shelf Go.Sort Go.Maps CrewP
set_option linter.unusedVariables false
set_option linter.unusedSimpArgs false

/-! ### The chapter's examples -/
def a1 : St := propS (fr 1) 0 3 (dg 1)
def a2 : St := prepS a1 2 0 3 (dg 1)
def a3 : St := prepS a2 3 0 3 (dg 1)
def aC : Nat → St
  | 0 => a3
  | j + 1 => commS (aC j) ((j : Int) + 1) 0 3 (dg 1)
def a9 : St := propS (aC 3) 1 3 (dg 2)
theorem f0 : propE (fr 1) 0 3 (dg 1) = 0 := by decide +kernel
theorem f1 : prepE a1 2 0 3 (dg 1) = 0 := by decide +kernel
theorem f2 : preS a2 3 = false := by decide +kernel
theorem f2' : prepE a2 3 0 3 (dg 1) = 0 := by decide +kernel
theorem f3 : preS a3 3 = true := by decide +kernel
theorem f3P : (List.range 8).flatMap (pTs a3) = [mkT 3 (dg 1, 0)] := by decide +kernel
theorem f3E : mayE a3 1 0 = 0 ∧ leadO a3 0 = 1 := by decide +kernel
theorem fC : ∀ j : Nat, j < 3 → comS (aC j) 3 = false ∧ commE (aC j) ((j : Int) + 1) 0 3 (dg 1) = 0 := by decide +kernel
theorem f8 : comS (aC 3) 3 = true := by decide +kernel
theorem f8a : propE (aC 3) 0 3 (dg 2) = 151 := by decide +kernel
theorem f8b : propE (aC 3) 0 9 (dg 1) = 150 := by decide +kernel
theorem f8c : propE (aC 3) 1 3 (dg 2) = 0 := by decide +kernel
theorem f9 : preS a9 3 = false := by decide +kernel
theorem f9P : (List.range 8).flatMap (pTs a9) = [mkT 3 (dg 1, 0)] := by decide +kernel
theorem f9Q : (List.range 8).flatMap (qTs a9) = [mkT 3 (dg 1, 0), mkT 3 (dg 2, 1)] := by decide +kernel
theorem propS_err {σ : St} {view seq : Int} {d : List UInt8} (h : propE σ view seq d ≠ 0) : propS σ view seq d = σ := by unfold propS; rw [if_pos h]
theorem prepS_err {σ : St} {node view seq : Int} {d : List UInt8} (h : prepE σ node view seq d ≠ 0) : prepS σ node view seq d = σ := by unfold prepS; rw [if_pos h]

/-! ### Contracts over slots wherever they lie -/
section
variable {w : World} {U : Nat → Prop} {g : Nat} {σ : St}
theorem propose_at (h : StAt w U g σ) (view seq : Int) (hv : Wf view) (hsq : Wf seq) (d : List UInt8) (hd : d.length = 32) (E : Int) (hE : propE σ view seq d = E) :
    Calls Try.prog 20 #[.pointer (some ⟨g, 0, none⟩), .int .i64 view, .int .i64 seq, .agg (cbs d).toArray] w fun e w' => e = .returned (.int .i64 E) ∧ StAt w' U g (propS σ view seq d) ∧ Out U w w' := by
  obtain ⟨a1, a2, a3, a4, a5, a6, a7, a8, h⟩ := h
  exact (propose_in h view seq hv hsq d hd E hE).mono fun e w' ⟨h1, h2, h3⟩ => ⟨h1, ⟨_, _, _, _, _, _, _, _, h2⟩, h3⟩
theorem prepare_at (h : StAt w U g σ) (node view seq : Int) (hsq : Wf seq) (d : List UInt8) (hd : d.length = 32) (E : Int) (hE : prepE σ node view seq d = E) :
    Calls Try.prog 21 #[.pointer (some ⟨g, 0, none⟩), .int .i64 node, .int .i64 view, .int .i64 seq, .agg (cbs d).toArray] w fun e w' => e = .returned (.int .i64 E) ∧ StAt w' U g (prepS σ node view seq d) ∧ Out U w w' := by
  obtain ⟨a1, a2, a3, a4, a5, a6, a7, a8, h⟩ := h
  exact (prepare_in h node view seq hsq d hd E hE).mono fun e w' ⟨h1, h2, h3⟩ => ⟨h1, ⟨_, _, _, _, _, _, _, _, h2⟩, h3⟩
theorem commit_at (h : StAt w U g σ) (node view seq : Int) (hsq : Wf seq) (d : List UInt8) (hd : d.length = 32) (E : Int) (hE : commE σ node view seq d = E) :
    Calls Try.prog 27 #[.pointer (some ⟨g, 0, none⟩), .int .i64 node, .int .i64 view, .int .i64 seq, .agg (cbs d).toArray] w fun e w' => e = .returned (.int .i64 E) ∧ StAt w' U g (commS σ node view seq d) ∧ Out U w w' := by
  obtain ⟨a1, a2, a3, a4, a5, a6, a7, a8, h⟩ := h
  exact (commit_in h node view seq hsq d hd E hE).mono fun e w' ⟨h1, h2, h3⟩ => ⟨h1, ⟨_, _, _, _, _, _, _, _, h2⟩, h3⟩
theorem prepared_at (h : StAt w U g σ) {seq : Int} (hs : Wf seq) (B : Bool) (hB : preS σ seq = B) : Calls Try.prog 11 #[.pointer (some ⟨g, 0, none⟩), .int .i64 seq] w fun e w' => e = .returned (.bool B) ∧ Below w.heap.size w w' := by
  obtain ⟨a1, a2, a3, a4, a5, a6, a7, a8, h⟩ := h
  exact prepared_in h hs B hB
theorem committed_at (h : StAt w U g σ) {seq : Int} (hs : Wf seq) (B : Bool) (hB : comS σ seq = B) : Calls Try.prog 12 #[.pointer (some ⟨g, 0, none⟩), .int .i64 seq] w fun e w' => e = .returned (.bool B) ∧ Below w.heap.size w w' := by
  obtain ⟨a1, a2, a3, a4, a5, a6, a7, a8, h⟩ := h
  exact committed_in h hs B hB
theorem at_at (h : StAt w U g σ) {seq : Int} (hs : Wf seq) : Calls Try.prog 18 #[.pointer (some ⟨g, 0, none⟩), .int .i64 seq] w fun e w' => e = .returned (atV (atS σ seq)) ∧ Below w.heap.size w w' := by
  obtain ⟨a1, a2, a3, a4, a5, a6, a7, a8, h⟩ := h
  exact at_in h hs
theorem p_at (h : StAt w U g σ) : Calls Try.prog 14 #[.pointer (some ⟨g, 0, none⟩)] w (RetS w ((List.range 8).flatMap (pTs σ))) := by
  obtain ⟨a1, a2, a3, a4, a5, a6, a7, a8, h⟩ := h
  exact p_in h
theorem q_at (h : StAt w U g σ) : Calls Try.prog 15 #[.pointer (some ⟨g, 0, none⟩)] w (RetS w ((List.range 8).flatMap (qTs σ))) := by
  obtain ⟨a1, a2, a3, a4, a5, a6, a7, a8, h⟩ := h
  exact q_in h
set_option maxRecDepth 100000 in
/-- A leader's prepare: nothing turns. -/
theorem prepare_lead (h : StAt w U g σ) (node view seq : Int) (d : List UInt8) (hM : mayE σ node view = 0) (hl : leadO σ view = node) :
    Calls Try.prog 21 #[.pointer (some ⟨g, 0, none⟩), .int .i64 node, .int .i64 view, .int .i64 seq, .agg (cbs d).toArray] w fun e w' => e = .returned (.int .i64 2) ∧ Below w.heap.size w w' := by
  obtain ⟨x1, x2, x3, x4, x5, x6, x7, x8, h⟩ := h
  have b0 : Below w.heap.size w (w.alloc (.cells (cbs d).toArray 39)) := (Below.refl _ _).alloc (Nat.le_refl _) _
  have h0 := h.below b0
  have Hm := Lib.hid (mayVote_in h0 node view 0 hM)
  have hvw := (mayE_zero hM).2
  have hvf : Wf view := by simp [viewB] at hvw; exact wf_b (by omega) (by omega)
  have HN := Lib.hid (And.intro h0 (And.intro b0 (And.intro hvw (And.intro hvf hl))))
  clear b0 h0 h hvw hvf hl hM
  generalize hD : cbs d = D at *
  go_enter Try.func21, Try.ntmps21
  go_wp2_with fail
  refine Hm.out.mono ?_
  rintro e w1 ⟨rfl, hb1⟩
  have h1 := HN.out.1.below hb1
  have b1 := HN.out.2.1.trans (hb1.mono HN.out.2.1.size)
  have c0 := h1.blk.cell (i := 0) rfl
  have c1 := h1.blk.cell (i := 1) rfl
  have hL := leader_any σ.f _ _ _ _ w1 h1.arg view HN.out.2.2.2.1
  rw [lead_st h1.ok HN.out.2.2.1, HN.out.2.2.2.2] at hL
  have H1 := Lib.hid (And.intro b1 hL)
  clear h1 b1 hb1 hL
  go_wp2_with fail
  refine H1.out.2.mono ?_
  rintro e w2 ⟨rfl, hb2⟩
  have H2 := Lib.hid hb2
  clear hb2
  go_wp2
  go_ret
  exact ⟨rfl, H1.out.1.trans (H2.out.mono H1.out.1.size)⟩
end

/-! ### Slots carried along -/
/-- Since the world w0 the slots g (their blocks are U) and two digests have been made; the slots hold σ. -/
structure Kp (w0 w : World) (U : Nat → Prop) (g ba bb : Nat) (da db : List UInt8) (σ : St) : Prop where
  st : StAt w U g σ
  a : Blk w ba 39 (cbs da)
  b : Blk w bb 39 (cbs db)
  ua : ¬ U ba
  ub : ¬ U bb
  bel : Below w0.heap.size w0 w
  low : ∀ i, U i → w0.heap.size ≤ i
section
variable {w0 w w' : World} {U : Nat → Prop} {g ba bb : Nat} {da db : List UInt8} {σ σ' : St}
theorem Kp.call (h : Kp w0 w U g ba bb da db σ) (hs : StAt w' U g σ') (ho : Out U w w') : Kp w0 w' U g ba bb da db σ' :=
  ⟨hs, ho.blk h.a h.ua, ho.blk h.b h.ub, h.ua, h.ub, h.bel.trans (ho.above h.low h.bel.size), h.low⟩
theorem Kp.below (h : Kp w0 w U g ba bb da db σ) (hb : Below w.heap.size w w') : Kp w0 w' U g ba bb da db σ :=
  ⟨h.st.below hb, h.a.below hb h.a.lt, h.b.below hb h.b.lt, h.ua, h.ub, h.bel.trans (hb.mono h.bel.size), h.low⟩
end
end Go.Proofs.Ytmdgcimjmmnbjaa
