/-
  Laid together for a hand-in: Co10, Ch10, Pg10, OfA9, Two9.
-/
import Derived.Test.YtcamgldilknanaaZ13
import Derived.Test.YtcamgldilknanaaZ12

namespace Go.Proofs.Ytcamgldilknanaa
open Go.RowKit Go.Maps
set_option linter.unusedVariables false

theorem app_empty {P : Program} {ty : TypeId} (w : World) (base : Nat) (t e : TypeId) (i : TypeInfo) (ht : P.underlying t = some (.slice e)) (hi : P.info? e = some i)
    (v : Value) (n : Nat) (xs : List Value) (size : Nat) (hown : w.ownsRow base e size v n xs) (c : Nat) : (Builtin.append_ #[t, t] ty #[v, .slice none 0 c]).run P w = .ok v w := by
  obtain ⟨_, h | ⟨g, cap, cur, h, _, _, hnc, _⟩⟩ := hown
  · obtain ⟨rfl, rfl⟩ := h
    simp [Builtin.append_, run_underlying ht, sizeOf, typeInfo, hi, Builtin.lenOf, Builtin.firstCells]
  · subst h
    simp [Builtin.append_, run_underlying ht, sizeOf, typeInfo, hi, Builtin.lenOf, Builtin.firstCells, hnc, storeCells]
set_option maxRecDepth 100000 in
/-- append(v, ds...) for digests: v in a row of the call's own. -/
theorem run_appendDs (w : World) (base : Nat) (v : Value) (n : Nat) (d0 : List Dg) (hown : w.ownsRow base 31 32 v n (cbs d0.flatten)) (A : Option Addr) (c k : Nat) (ds : List Dg) (hD : Ds w A ds) (h32 : All32 ds) (hk : ds.length = k)
    (hb : (n + k) * 32 ≤ 140737488355328) (hbase : base ≤ w.heap.size) (ty : TypeId) :
    ∃ v' w', (Builtin.append_ #[45, 45] ty #[v, .slice A k c]).run Try.prog w = .ok v' w' ∧ w'.ownsRow base 31 32 v' (n + k) (cbs (d0 ++ ds).flatten) ∧ w.grownBy w' v.ownBlock ∧ (v'.ownBlock = v.ownBlock ∨ v'.ownBlock = some w.heap.size) := by
  obtain ⟨i0, z0, hi, hz0, hz1, hz2⟩ := dg_zero
  have hzc : z0.cells.size = 32 := by
    have e : (Try.prog.info? 31).map (fun i => (i.zero.map fun z => z.cells.size)) = some (some 32) := by kernel_rfl
    rw [hi] at e
    simp [hz0] at e
    exact e
  have hfl : cbs (d0 ++ ds).flatten = cbs d0.flatten ++ cbs ds.flatten := by rw [List.flatten_append]; simp [cbs]
  rw [hfl]
  cases A with
  | none =>
    have hm : ds = [] := by
      cases ds with
      | nil => rfl
      | cons x t => obtain ⟨b, off, e, _⟩ := hD.off (by simp); cases e
    subst hm
    simp only [List.length_nil] at hk
    subst hk
    exact ⟨v, w, app_empty w base _ _ i0 Try.underlying45 hi v _ _ 32 hown c, by simpa [cbs] using hown, World.grownBy.refl w _, .inl rfl⟩
  | some ad =>
    obtain ⟨v', w', h1, h2, h3, _, h5⟩ := run_append_own_at (P := Try.prog) w base 45 ty 31 i0 z0 32 32 Try.underlying45 hi hz0 hz1 hz2 hzc (by decide) v n _ hown ad k c (cbs ds.flatten)
      (by rw [cbs_length, flat_len h32]; omega) (fun j u hu => by
        have hp : 0 < ds.length := by
          cases ds with
          | nil => simp [cbs] at hu
          | cons x t => simp
        obtain ⟨b', off', e, _, hc⟩ := hD.2 hp
        injection e with e
        subst e
        rw [add_mk]
        exact hc j u hu) (cbs_one _) (by simp only [maxLen]; omega) hb hbase
    exact ⟨v', w', h1, h2, h3, h5⟩
theorem run_appendPz (w : World) (base : Nat) (v : Value) (n : Nat) (vs : List Value) (hown : w.ownsRow base 45 1 v n vs) (g : Nat) (x : Value) (hx : x.oneCell' = true) (hg : Blk w g 45 [x]) (hn : (n + 1) * 24 ≤ 140737488355328) (hbase : base ≤ w.heap.size) (ty : TypeId) :
    ∃ v' w', (Builtin.append_ #[35, 35] ty #[v, .slice (some ⟨g, 0, none⟩) 1 1]).run Try.prog w = .ok v' w' ∧ w'.ownsRow base 45 1 v' (n + 1) (vs ++ [x]) ∧ w.grownBy w' v.ownBlock := by
  have h := pl_info
  cases hi : Try.prog.info? 45 with
  | none => rw [hi] at h; cases h
  | some i0 =>
    rw [hi] at h
    simp only [Option.map_some, Option.some.injEq, Prod.mk.injEq] at h
    obtain ⟨h1, h2, h3⟩ := h
    cases hz : i0.zero with
    | none => rw [hz] at h1; cases h1
    | some z0 =>
      rw [hz] at h1
      simp only [Option.map_some, Option.some.injEq] at h1
      obtain ⟨v', w', e1, e2, e3, _, _⟩ := run_append_own_at (P := Try.prog) w base 35 ty 45 i0 z0 1 24 Try.underlying35 hi hz h2 h3 h1 (by decide) v n vs hown ⟨g, 0, none⟩ 1 1 [x]
        (by simp) (fun j u hu => by rw [add_mk, Nat.zero_add]; exact hg.cell hu) (fun u hu => by rw [List.mem_singleton.1 hu]; exact hx) (by simp only [maxLen]; omega) hn hbase
      exact ⟨v', w', e1, e2, e3⟩
theorem own_one {w : World} {base n size : Nat} {e : TypeId} {v : Value} {xs : List Value} (h : w.ownsRow base e size v n xs) : v.oneCell' = true := by
  obtain ⟨_, ⟨rfl, _⟩ | ⟨g, cap, cur, rfl, _⟩⟩ := h <;> rfl
theorem own_form {w : World} {base n size : Nat} {e : TypeId} {v : Value} {xs : List Value} (h : w.ownsRow base e size v n xs) : ∃ A c, v = .slice A n c := by
  obtain ⟨_, ⟨rfl, rfl⟩ | ⟨g, cap, cur, rfl, _⟩⟩ := h
  · exact ⟨none, 0, rfl⟩
  · exact ⟨_, _, rfl⟩
theorem own_ne {w : World} {b1 b2 n1 n2 s1 s2 : Nat} {e1 e2 : TypeId} {v1 v2 : Value} {x1 x2 : List Value} (h1 : w.ownsRow b1 e1 s1 v1 n1 x1) (h2 : w.ownsRow b2 e2 s2 v2 n2 x2) (hne : e1 ≠ e2) {b : Nat} (hb1 : v1.ownBlock = some b) (hb2 : v2.ownBlock = some b) : False := by
  obtain ⟨cs, fr, k1⟩ := own_type h1 hb1
  obtain ⟨cs', fr', k2⟩ := own_type h2 hb2
  rw [k1] at k2
  injection k2 with k2
  injection k2 with _ k2 _
  exact hne k2

/-- No two of the rows lie in one block. -/
def Dist (vs : List Value) : Prop := ∀ (i j : Nat) (u v : Value) (b : Nat), i ≠ j → vs[i]? = some u → vs[j]? = some v → u.ownBlock = some b → v.ownBlock ≠ some b
/-- A copy of a proof: rows new since w0, of their own. -/
def CpNew (w0 w : World) (v : Value) (ps : List (List Dg)) : Prop :=
  ∃ vs, w.ownsRow w0.heap.size 45 1 v ps.length vs ∧ (∀ j (hj : j < ps.length), ∃ vj, vs[j]? = some vj ∧ w.ownsRow w0.heap.size 31 32 vj ps[j].length (cbs ps[j].flatten)) ∧ Dist vs
theorem CpNew.below {w0 w w' : World} {v : Value} {ps : List (List Dg)} (h : CpNew w0 w v ps) (hb : Below w.heap.size w w') : CpNew w0 w' v ps := by
  obtain ⟨vs, hr, hc, hd⟩ := h
  refine ⟨vs, row_stay hr fun b cs hb2 _ => hb.block b (World.ownsRow.lt hr b hb2).2, fun j hj => ?_, hd⟩
  obtain ⟨vj, h1, h2⟩ := hc j hj
  exact ⟨vj, h1, row_stay h2 fun b cs hb2 _ => hb.block b (World.ownsRow.lt h2 b hb2).2⟩
theorem CpNew.nil (w : World) : CpNew w w (.slice none 0 0) [] := ⟨[], ⟨rfl, .inl ⟨rfl, rfl⟩⟩, fun j hj => by simp at hj, fun i j u v b _ h => by simp at h⟩
/-- One more list: its row has been made in w1, w2 is behind the append. -/
theorem CpNew.push {w0 w1 w2 : World} {v vp v' : Value} {vs : List Value} {ps : List (List Dg)} {p : List Dg} (hr : w1.ownsRow w0.heap.size 45 1 v ps.length vs) (hc : ∀ j (hj : j < ps.length), ∃ vj, vs[j]? = some vj ∧ w1.ownsRow w0.heap.size 31 32 vj ps[j].length (cbs ps[j].flatten))
    (hp : w1.ownsRow w0.heap.size 31 32 vp p.length (cbs p.flatten)) (hr2 : w2.ownsRow w0.heap.size 45 1 v' (ps.length + 1) (vs ++ [vp])) (hg : w1.grownBy w2 v.ownBlock) (hd : Dist vs) (hf : ∀ (j : Nat) u b, vs[j]? = some u → u.ownBlock = some b → vp.ownBlock ≠ some b) : CpNew w0 w2 v' (ps ++ [p]) := by
  have keep : ∀ {u : Value} {n : Nat} {xs : List Value}, w1.ownsRow w0.heap.size 31 32 u n xs → w2.ownsRow w0.heap.size 31 32 u n xs := fun {u n xs} hu => row_stay hu fun b cs hb _ => hg.block b (World.ownsRow.lt hu b hb).2 fun e => own_ne hu hr (by decide) hb e.symm
  have hvl : vs.length = ps.length := by have := hr.1; omega
  refine ⟨vs ++ [vp], by rw [List.length_append]; exact hr2, fun j hj => ?_, fun i j u x b hij hi hj hb => ?_⟩
  rotate_left
  · have one : ∀ {i : Nat} {u : Value}, (vs ++ [vp])[i]? = some u → (i < vs.length ∧ vs[i]? = some u) ∨ (i = vs.length ∧ u = vp) := fun {i u} h => by
      by_cases h2 : i < vs.length
      · rw [List.getElem?_append_left h2] at h; exact .inl ⟨h2, h⟩
      · rw [List.getElem?_append_right (by omega)] at h
        have h3 : i - vs.length = 0 := by
          rcases Nat.eq_zero_or_pos (i - vs.length) with h4 | h4
          · exact h4
          · rw [List.getElem?_eq_none (by simp; omega)] at h; cases h
        rw [h3] at h
        exact .inr ⟨by omega, by simpa using h.symm⟩
    rcases one hi with ⟨i1, i2⟩ | ⟨i1, rfl⟩
    · rcases one hj with ⟨j1, j2⟩ | ⟨j1, rfl⟩
      · exact hd i j u x b hij i2 j2 hb
      · exact hf i u b i2 hb
    · rcases one hj with ⟨j1, j2⟩ | ⟨j1, rfl⟩
      · exact fun e => hf j x b j2 e hb
      · omega
  by_cases hj2 : j < ps.length
  · obtain ⟨vj, h1, h2⟩ := hc j hj2
    rw [List.getElem_append_left hj2]
    exact ⟨vj, by rw [List.getElem?_append_left (by omega)]; exact h1, keep h2⟩
  · have e : j = ps.length := by simp at hj; omega
    subst e
    rw [List.getElem_append_right (Nat.le_refl _)]
    simp only [Nat.sub_self, List.getElem_cons_zero]
    exact ⟨vp, by rw [List.getElem?_append_right (by omega), hvl, Nat.sub_self]; rfl, keep hp⟩
/-- One list is another one: its row turned, and its head is stored. -/
theorem CpNew.set {w0 w w1 : World} {g n c j : Nat} {vs : List Value} {ps : List (List Dg)} {p' : List Dg} {vj vj' : Value} (hr : w.ownsRow w0.heap.size 45 1 (.slice (some ⟨g, 0, none⟩) n c) ps.length vs) (hn : ps.length = n)
    (hc : ∀ j (hj : j < ps.length), ∃ vj, vs[j]? = some vj ∧ w.ownsRow w0.heap.size 31 32 vj ps[j].length (cbs ps[j].flatten)) (hd : Dist vs) (hj : j < ps.length) (hvj : vs[j]? = some vj)
    (hg : w.grownBy w1 vj.ownBlock) (hp : w1.ownsRow w0.heap.size 31 32 vj' p'.length (cbs p'.flatten)) (hf : ∀ b, vj'.ownBlock = some b → vj.ownBlock = some b ∨ w.heap.size ≤ b) : CpNew w0 (w1.setCell ⟨g, j, none⟩ vj') (.slice (some ⟨g, 0, none⟩) n c) (ps.set j p') := by
  subst hn
  have hvl : vs.length = ps.length := by have := hr.1; omega
  obtain ⟨vj0, e0, hrj⟩ := hc j hj
  rw [hvj] at e0
  injection e0 with e0
  subst e0
  have hr1 : w1.ownsRow w0.heap.size 45 1 (.slice (some ⟨g, 0, none⟩) ps.length c) ps.length vs := row_stay hr fun b cs hb _ => hg.block b (World.ownsRow.lt hr b hb).2 fun e => own_ne hr hrj (by decide) hb e.symm
  have hst : ∀ {u : Value} {m : Nat} {xs : List Value}, w1.ownsRow w0.heap.size 31 32 u m xs → (w1.setCell ⟨g, j, none⟩ vj').ownsRow w0.heap.size 31 32 u m xs := fun {u m xs} hu => row_stay hu fun b cs hb _ => Below.heap_setCell w1 ⟨g, j, none⟩ vj' b fun e => own_ne hu hr1 (by decide) hb (by rw [e]; rfl)
  refine ⟨vs.set j vj', by rw [List.length_set]; exact (World.ownsRow.stored hr1 j vj').1, fun i hi => ?_, fun i k u x b hik hiu hkx hb => ?_⟩
  · rw [List.length_set] at hi
    by_cases e : j = i
    · subst e
      refine ⟨vj', by rw [List.getElem?_set_self (by omega)], ?_⟩
      rw [List.getElem_set_self]
      exact hst hp
    · obtain ⟨vi, k1, k2⟩ := hc i hi
      refine ⟨vi, by rw [List.getElem?_set_ne e]; exact k1, ?_⟩
      rw [List.getElem_set_ne e]
      exact hst (row_stay k2 fun b cs hb _ => hg.block b (World.ownsRow.lt k2 b hb).2 fun e2 => hd i j vi vj b (fun e3 => e e3.symm) k1 hvj hb e2.symm)
  · have old : ∀ {i : Nat} {u : Value} {b : Nat}, j ≠ i → vs[i]? = some u → u.ownBlock = some b → vj'.ownBlock ≠ some b := fun {i u b} hne hu hb e => by
      have hil : i < ps.length := by
        rcases Nat.lt_or_ge i vs.length with h | h
        · omega
        · rw [List.getElem?_eq_none h] at hu; cases hu
      obtain ⟨vi, k1, k2⟩ := hc i hil
      rw [hu] at k1
      injection k1 with k1
      subst k1
      rcases hf b e with h | h
      · exact hd i j u vj b (fun e3 => hne e3.symm) hu hvj hb h
      · have := (World.ownsRow.lt k2 b hb).2; omega
    by_cases e1 : j = i
    · subst e1
      rw [List.getElem?_set_self (by omega)] at hiu
      injection hiu with hiu
      subst hiu
      rw [List.getElem?_set_ne hik] at hkx
      exact fun e => old hik hkx e hb
    · rw [List.getElem?_set_ne e1] at hiu
      by_cases e2 : j = k
      · subst e2
        rw [List.getElem?_set_self (by omega)] at hkx
        injection hkx with hkx
        subst hkx
        exact old e1 hiu hb
      · rw [List.getElem?_set_ne e2] at hkx
        exact hd i k u x b hik hiu hkx hb
theorem CpNew.at_ {w0 w : World} {v : Value} {ps : List (List Dg)} (h : CpNew w0 w v ps) (h32 : ∀ p ∈ ps, All32 p) : ∃ A c, v = .slice A ps.length c ∧ ps.length ≤ c ∧ c ≤ maxLen ∧ PfAt w (fun j => w0.heap.size ≤ j ∧ j < w.heap.size) A ps := by
  obtain ⟨vs, hrow, hc, _⟩ := h
  rcases hrow.2 with ⟨rfl, e⟩ | ⟨g, c, cur, rfl, hb0, hg, hnc, hcm, _⟩
  · have e2 : ps = [] := List.eq_nil_of_length_eq_zero e
    subst e2
    exact ⟨none, 0, rfl, Nat.le_refl _, by simp [maxLen], fun hne => absurd rfl hne⟩
  · refine ⟨some ⟨g, 0, none⟩, c, rfl, hnc, hcm, fun hne => ⟨g, 0, rfl, ⟨hb0, row_lt hrow⟩, fun j hj => ?_⟩⟩
    obtain ⟨vj, h1, h2⟩ := hc j hj
    have hz := World.ownsRow.cellAt hrow j (by omega)
    rcases h2.2 with ⟨rfl, e⟩ | ⟨gj, cj, cur2, rfl, hbj, hgj, hncj, hcmj, _⟩
    · have e2 : ps[j] = [] := List.eq_nil_of_length_eq_zero e
      refine ⟨none, 0, ?_, by omega, by simp [maxLen], h32 _ (List.getElem_mem hj), by rw [e2]; exact Ds.nil _ _, fun a e _ => by cases e⟩
      rw [Nat.zero_add, hz, h1, e]
    · refine ⟨some ⟨gj, 0, none⟩, cj, ?_, hncj, hcmj, h32 _ (List.getElem_mem hj), Shows.ofOwn h2, fun a e _ => by injection e with e; subst e; exact ⟨hbj, row_lt h2⟩⟩
      rw [Nat.zero_add, hz]; exact h1

set_option maxRecDepth 100000 in
set_option maxHeartbeats 1600000 in
theorem copy_any (A : Option Addr) (n c : Nat) (ps : List (List Dg)) (K : Nat → Prop) (w : World) (hP : PfAt w K A ps) (hK : ∀ j, K j → j < w.heap.size) (hn : ps.length = n) (hb1 : n * 24 ≤ 140737488355328) (hb2 : ∀ p ∈ ps, p.length * 32 ≤ 140737488355328) :
    Calls Try.prog 23 #[.slice A n c] w fun e w' => ∃ v, e = .returned v ∧ CpNew w w' v ps ∧ Below w.heap.size w w' := by
  have HP := Lib.hid (And.intro hP (And.intro hK (And.intro hn (And.intro hb1 hb2))))
  have hnm : (n : Int) ≤ 9223372036854775807 := by omega
  clear hP hK hn hb1 hb2
  go_enter Try.func23, Try.ntmps23
  go_wp2
  go_loopw [3, 4] (fun v kv wr => ∃ k : Nat, k ≤ n ∧ kv = .int .i64 (k : Int) ∧ CpNew w wr v (ps.take k) ∧ Below w.heap.size w wr) (fun _ kv _ => n - (intOf kv).toNat)
  case atStart => exact ⟨0, Nat.zero_le _, rfl, by rw [List.take_zero]; exact CpNew.nil w, Below.refl _ _⟩
  case round =>
    obtain ⟨k, hk, rfl, hC, hB⟩ := hrel
    by_cases hin : k < n
    · obtain ⟨hP, hK, hn, hb1, hb2⟩ := HP.out
      have hkl : k < ps.length := by omega
      obtain ⟨b, off, rfl, hb, hc⟩ := hP.stays (w' := wr) ⟨hB.size, fun j hj => hB.block j (hK j hj)⟩ (by rintro rfl; simp at hkl)
      obtain ⟨Aj, cj, g1, g2, g3, g4, g5, g6⟩ := hc k hkl
      have hpb := hb2 _ (List.getElem_mem hkl)
      have hput : ps.take (k + 1) = ps.take k ++ [ps[k]] := List.take_succ_eq_append_getElem hkl
      generalize ps[k] = p at *
      obtain ⟨l, hl⟩ : ∃ l, p.length = l := ⟨_, rfl⟩
      rw [hl] at g1 hpb
      obtain ⟨v1, w1, hap, hr1, hg1, ho1⟩ := run_appendDs wr w.heap.size (.slice none 0 0) 0 [] ⟨rfl, .inl ⟨rfl, rfl⟩⟩ Aj cj l p g5 g4 hl (by omega) hB.size 45
      rw [Nat.zero_add, List.nil_append] at hr1
      obtain ⟨A1, c1, rfl⟩ := own_form hr1
      obtain ⟨vs, hrow, hcs, hds⟩ := hC
      rw [List.length_take, Nat.min_eq_left (by omega)] at hrow
      have keep1 : ∀ {e : TypeId} {sz m : Nat} {u : Value} {xs : List Value}, wr.ownsRow w.heap.size e sz u m xs → w1.ownsRow w.heap.size e sz u m xs := fun {e sz m u xs} hu => row_stay hu fun b cs hb _ => hg1.block b (World.ownsRow.lt hu b hb).2 (by simp [Value.ownBlock])
      have hbA : Below w1.heap.size w1 (w1.alloc (.cells #[.slice A1 l c1] 45)) := (Below.refl _ _).alloc (Nat.le_refl _) _
      have keep2 : ∀ {e : TypeId} {sz m : Nat} {u : Value} {xs : List Value}, w1.ownsRow w.heap.size e sz u m xs → (w1.alloc (.cells #[.slice A1 l c1] 45)).ownsRow w.heap.size e sz u m xs := fun {e sz m u xs} hu => row_stay hu fun b cs hb _ => hbA.block b (World.ownsRow.lt hu b hb).2
      have hg : Blk (w1.alloc (.cells #[.slice A1 l c1] 45)) w1.heap.size 45 [.slice A1 l c1] := Blk.new rfl rfl
      have hz1 := hg1.size
      have hzA := hbA.size
      obtain ⟨v2, w2, hap2, hr2, hg2⟩ := run_appendPz (w1.alloc (.cells #[.slice A1 l c1] 45)) w.heap.size _ k vs (keep2 (keep1 hrow)) w1.heap.size (.slice A1 l c1) (own_one hr1) hg (by omega) (by have := hB.size; omega) 35
      have hC2 : CpNew w w2 v2 (ps.take (k + 1)) := by
        rw [hput]
        have hlk : (ps.take k).length = k := by rw [List.length_take]; omega
        exact CpNew.push (by rw [hlk]; exact keep2 (keep1 hrow)) (fun j hj => by
          obtain ⟨vj, h1, h2⟩ := hcs j hj
          exact ⟨vj, h1, keep2 (keep1 h2)⟩) (by rw [hl]; exact keep2 hr1) (by rw [hlk]; exact hr2) hg2 hds (fun j u b' hj hb' e => by
          have hjk : j < (ps.take k).length := by
            rcases Nat.lt_or_ge j vs.length with h | h
            · have := hrow.1; omega
            · rw [List.getElem?_eq_none h] at hj; cases hj
          obtain ⟨vj, h1, h2⟩ := hcs j hjk
          rw [hj] at h1
          injection h1 with h1
          subst h1
          have h3 := (World.ownsRow.lt h2 b' hb').2
          rcases ho1 with ho1 | ho1
          · rw [ho1] at e; simp [Value.ownBlock] at e
          · rw [ho1] at e; injection e with e; omega)
      have hB2 : Below w.heap.size w w2 := ((hB.grown hg1 hB.size (by simp [Value.ownBlock])).trans (hbA.mono (by have := hB.size; omega))).grown hg2 (by have := hB.size; omega) (fun j hj => (World.ownsRow.lt (keep2 (keep1 hrow)) j hj).1)
      have Hap := Lib.hid hap
      have Hap2 := Lib.hid hap2
      have H2 := Lib.hid (And.intro hC2 hB2)
      have i0 : (0 : Int) ≤ (k : Int) := by omega
      have i1 : (k : Int) < (n : Int) := by omega
      have cc : wr.cell? ⟨b, off + k, none⟩ = some (.slice Aj l cj) := g1
      clear hP hK hn hb1 hb2 hkl hb hc g1 g2 g3 g4 g5 g6 hpb hput hl hap hr1 hg1 ho1 hrow hcs hds keep1 hbA keep2 hg hz1 hzA hap2 hr2 hg2 hC2 hB2 hB
      go_wp2_with (first
        | (at_builtin; refine Lib.wpList_append_run _ rfl _ _ _ _ rfl _ _ rfl rfl _ _ Hap.out ?_)
        | (at_builtin; refine Lib.wpList_append_run _ rfl _ _ _ _ rfl _ _ rfl rfl _ _ Hap2.out ?_))
      go_roundw
      case rel => exact ⟨k + 1, by omega, by go_num, H2.out.1, H2.out.2⟩
      case measure => simp [intOf]; omega
    · obtain rfl : k = n := by omega
      rw [List.take_of_length_le (by have := HP.out.2.2.1; omega)] at hC
      have H2 := Lib.hid (And.intro hC hB)
      have i1 : ¬ (k : Int) < (k : Int) := by omega
      clear hC hB
      go_wp2
      go_ret
      exact ⟨_, rfl, H2.out.1, H2.out.2⟩
end Go.Proofs.Ytcamgldilknanaa

namespace Go.Proofs.Ytcamgldilknanaa
open Go.RowKit Go.Maps
set_option linter.unusedVariables false

/-- What stands while Check goes on: the digest reached, the book, the root. -/
structure Ck (B g bm z0 z1 : Nat) (root : Dg) (N : Nat → Prop) (w : World) (dk : Dg) (sk : Bk) (wr : World) : Prop where
  kb : Kb B wr g bm sk (fun j => (N j ∨ j = z0) ∨ j = z1)
  out : Out (Tn B bm w N) w wr
  rb : Blk wr z0 31 (cbs root)
  db : Blk wr z1 31 (cbs dk)
  hd : dk.length = 32
  g0 : w.heap.size ≤ z0
  g1 : w.heap.size ≤ z1
  ne : z0 ≠ z1
  hB : B ≤ w.heap.size
section
variable {B g bm z0 z1 : Nat} {root dk : Dg} {N : Nat → Prop} {w wr : World} {sk : Bk}
theorem Ck.below {w' : World} (h : Ck B g bm z0 z1 root N w dk sk wr) (hb : Below wr.heap.size wr w') : Ck B g bm z0 z1 root N w dk sk w' :=
  ⟨h.kb.below hb, h.out.then_below hb, h.rb.below hb h.rb.lt, h.db.below hb h.db.lt, h.hd, h.g0, h.g1, h.ne, h.hB⟩
theorem Ck.up {p : List Dg} (h : Ck B g bm z0 z1 root N w dk sk wr) (hL : sk.1.length < 1000000) (hs : sk.2.2 < 1000000) (A : Option Addr) (m cp : Nat) (hD : Ds wr A p) (h32 : All32 p) (hm : p.length = m) (h1 : 1 ≤ m) (h4 : m ≤ 4) :
    Calls Try.prog 31 #[.pointer (some ⟨g, 0, none⟩), .slice A m cp] wr fun e w' =>
      e = .returned (.tuple #[.agg (cbs (digest (upIn p))).toArray, .int .i64 0]) ∧ w'.there z1 0 32 ∧ Ck B g bm z0 z1 root N w (digest (upIn p)) (stepL sk (upIn p)) (w'.setCells z1 0 (cbs (digest (upIn p)))) := by
  refine (up_kb B g bm sk _ A m cp p wr h.kb (Nat.le_trans h.hB h.out.size) hL hs hD h32 hm h1 h4).mono ?_
  rintro e w' ⟨rfl, hK, hO⟩
  have hd2 : Blk w' z1 31 (cbs dk) := hO.blk h.db (Tn.keep (.inr rfl))
  have hr2 : Blk w' z0 31 (cbs root) := hO.blk h.rb (Tn.keep (.inl (.inr rfl)))
  have hdl : (digest (upIn p)).length = 32 := dlen _
  refine ⟨rfl, ?_, ?_⟩
  · have e := hd2.there
    rw [cbs_length, h.hd] at e
    exact e
  · exact ⟨hK.store (.inr rfl) 0 _, (h.out.tn hO (fun i hi hn => .inl (.inl hn))).store h.g1 0 _, hr2.farAll (fun e => h.ne e) _, hd2.setAll (by rw [cbs_length, cbs_length, hdl, h.hd]), hdl, h.g0, h.g1, h.ne, h.hB⟩
end

set_option maxRecDepth 100000 in
set_option maxHeartbeats 4000000 in
theorem check_any (B g bm : Nat) (s : Bk) (N : Nat → Prop) (w : World) (hk : Kb B w g bm s N) (hB : B ≤ w.heap.size) (hL : s.1.length + 100 < 1000000) (hs : s.2.2 + 100 < 1000000) (root : Dg) (hr : root.length = 32) (many i : Nat) (h1 : 1 ≤ many) (h2 : many ≤ 1024) (hi : i < many)
    (Ax : Option Addr) (nx cx : Nat) (x : List UInt8) (hBx : Bs w Ax x) (hnx : x.length = nx) (hcx : nx ≤ cx) (hcm : cx ≤ maxLen) (hx : nx ≤ 65535)
    (K : Nat → Prop) (A : Option Addr) (n c : Nat) (ps : List (List Dg)) (hP : PfAt w K A ps) (hn : ps.length = n) (hnm : n ≤ maxLen) (hK : ∀ j, K j → j < w.heap.size ∧ (j < B ∨ N j)) :
    Calls Try.prog 15 #[.pointer (some ⟨g, 0, none⟩), .agg (cbs root).toArray, .int .i64 (many : Int), .int .i64 (i : Int), .slice Ax nx cx, .slice A n c] w fun e w' =>
      e = .returned (.int .i64 (if fits root many i x ps then 0 else 100)) ∧ Kb B w' g bm (noteAll s (chkIn many i x ps)) N ∧ Out (Tn B bm w N) w w' := by
  obtain ⟨R, hR⟩ : ∃ R, cbs root = R := ⟨_, rfl⟩
  have hR32 : R.length = 32 := by rw [← hR, cbs_length, hr]
  obtain ⟨D0, hD0⟩ : ∃ D, cbs (digest (leafIn x)) = D := ⟨_, rfl⟩
  have hD32 : D0.length = 32 := by rw [← hD0, cbs_length, dlen]
  have hD1 : D0.toArray.all (·.oneCell') = true := by rw [← hD0]; exact cbs_one' _
  have hbA : Below w.heap.size w (w.alloc (.cells R.toArray 31)) := (Below.refl _ _).alloc (Nat.le_refl _) _
  have hkA : Kb B (w.alloc (.cells R.toArray 31)) g bm s (fun j => N j ∨ j = w.heap.size) := hk.belowN hbA fun j hj => by
    rcases hj with hj | rfl
    · exact .inl hj
    · exact .inr ⟨Nat.le_refl _, by simp⟩
  have hrA : Blk (w.alloc (.cells R.toArray 31)) w.heap.size 31 R := Blk.new rfl rfl
  have hlf := leaf_kb B g bm s _ Ax nx cx x _ hkA (Nat.le_trans hB hbA.size) (by omega) (by omega) (hBx.after hbA) hnx hcx hcm hx
  rw [hD0] at hlf
  have Hlf := Lib.hid hlf
  have HP := Lib.hid (And.intro hP (And.intro hn (And.intro hnm hK)))
  have HD0 := Lib.hid (And.intro hD32 (And.intro hD1 (And.intro hR hD0)))
  have HA := Lib.hid (And.intro hk (And.intro hB (And.intro hL (And.intro hs (And.intro hr (And.intro hbA (And.intro hrA hi)))))))
  have hnm2 : (n : Int) ≤ 9223372036854775807 := by simp only [maxLen] at hnm; omega
  have b1 : decide ((many : Int) < 1) = false := by simp; omega
  have b2 : decide ((1024 : Int) < (many : Int)) = false := by simp; omega
  have b3 : decide ((i : Int) < 0) = false := by simp
  have b4 : decide (many ≤ i) = false := by simp; omega
  have HI := Lib.hid (And.intro h1 (And.intro h2 hi))
  rw [hR]
  obtain ⟨F, hF⟩ : ∃ F, fits root many i x ps = F := ⟨_, rfl⟩
  obtain ⟨W, hW⟩ : ∃ W, pwhole many i ps = W := ⟨_, rfl⟩
  obtain ⟨SF, hSF⟩ : ∃ S, noteAll s (chkIn many i x ps) = S := ⟨_, rfl⟩
  rw [hF, hSF]
  have HF := Lib.hid (And.intro hF (And.intro hW hSF))
  clear hk hB hL hs hr h1 h2 hi hBx hnx hcx hcm hx hP hn hnm hK hD32 hD1 hbA hkA hrA hlf hR32 hR hD0 hF hW hSF
  go_enter Try.func15, Try.ntmps15
  go_wp2_with fail
  refine Hlf.out.mono ?_
  rintro e w1 ⟨rfl, hK1, hO1⟩
  obtain ⟨hk, hB, hL, hs, hr, hbA, hrA, hi⟩ := HA.out
  obtain ⟨wS, hwS, ⟨hth, hiS⟩, hbS, hbel, hszS⟩ := dig_local w1 D0 HD0.out.1
  have hsz1 := hO1.size
  have hCk : Ck B g bm w.heap.size (w1.heap.size) root N w (digest (leafIn x)) (stepL s (leafIn x)) wS := by
    refine ⟨hK1.belowN hbel fun j hj => ?_, ((Out.ofBelow _ hbA).tn hO1 fun i _ hn => .inl hn).then_below hbel, ?_, ?_, dlen _, Nat.le_refl _, ?_, ?_, hB⟩
    · rcases hj with hj | rfl
      · exact .inl hj
      · exact .inr ⟨by omega, by omega⟩
    · have := (hO1.blk hrA (Tn.keep (.inr rfl))).below hbel (by have := hbA.size; simp at hsz1; omega)
      rw [HD0.out.2.2.1]; exact this
    · rw [HD0.out.2.2.2]; exact hbS
    · simp at hsz1; omega
    · simp at hsz1; omega
  have hst : Stays K w wS := (Stays.refl K w).out (fun j hj => ⟨(HP.out.2.2.2 j hj).1, fun e => by
      rcases (HP.out.2.2.2 j hj).2 with h | h
      · exact Tn.low h e
      · exact Tn.keep h e⟩) hCk.out
  have hwh := pwhole_any A n c ps K many i wS (HP.out.1.stays hst) HP.out.2.1 HP.out.2.2.1 HI.out.1 HI.out.2.1 HI.out.2.2
  rw [HF.out.2.1] at hwh
  have Hwh := Lib.hid hwh
  have HwS := Lib.hid hwS
  have Hs := Lib.hid (And.intro hth (And.intro hiS HD0.out.2.1))
  have HCk := Lib.hid hCk
  have hlen := stepL_len s (leafIn x)
  have HL := Lib.hid (show (stepL s (leafIn x)).1.length ≤ s.1.length + 1 ∧ (stepL s (leafIn x)).2.2 ≤ s.2.2 + 1 from by omega)
  have hnot : ∀ (x : Bool) (w : World), (Op.unary .not (.bool x)).run Try.prog w = .ok (.bool (!x)) w := fun _ _ => rfl
  clear hk hB hL hs hr hbA hrA hi hK1 hO1 hwS hth hiS hbS hbel hszS hsz1 hCk hst hwh hlen
  go_wp2_with (refine wpList_store_mid rfl 31 _ _ rfl w1.heap.size 0 D0.toArray rfl rfl Hs.out.1 Hs.out.2.1 Hs.out.2.2 ?_; simp only [Act.put]; refine cast (congrArg (fun z => wpList _ _ _ _ _ z) HwS.out.symm) ?_)
  refine Hwh.out.mono ?_
  rintro e w2 ⟨rfl, q, rfl⟩
  have HC2 := Lib.hid (HCk.out.below (below_drewN (Below.refl _ _) q))
  generalize wS.drewN q = w2 at *
  clear HCk Hwh HwS Hs
  cases W with
  | false =>
    have hf : F = false := by rw [← HF.out.1]; exact fits_not HF.out.2.1
    have hsf : SF = stepL s (leafIn x) := by rw [← HF.out.2.2]; unfold chkIn; rw [HF.out.2.1]; rfl
    subst hf
    subst hsf
    go_wp2
    go_ret
    exact ⟨rfl, HC2.out.kb.less fun j hj => .inl (.inl hj), HC2.out.out⟩
  | true =>
    have hF2 : F = (climb (digest (leafIn x)) i ps == some root) := by rw [← HF.out.1]; unfold fits; rw [HF.out.2.1]; rfl
    have hSF2 : SF = noteAll (stepL s (leafIn x)) (climbIn (digest (leafIn x)) i ps) := by rw [← HF.out.2.2]; unfold chkIn; rw [HF.out.2.1]; rfl
    have HF2 := Lib.hid (And.intro hF2 hSF2)
    have hn5 : n ≤ 5 := by
      have a1 := pwhole_len HF.out.2.1 HI.out.1
      have a2 := dep_le HI.out.2.1
      have a3 := HP.out.2.1
      omega
    clear hF2 hSF2
    go_wp2
    go_loopw [15, 48] (fun pv kv wr => ∃ (k m j : Nat) (dk : Dg) (sk : Bk), k ≤ n ∧ 1 ≤ m ∧ m ≤ 1024 ∧ j < m ∧ kv = .int .i64 (k : Int) ∧ pv = .int .i64 (j : Int) ∧ pwhole m j (ps.drop k) = true ∧ climb dk j (ps.drop k) = climb (digest (leafIn x)) i ps ∧ noteAll sk (climbIn dk j (ps.drop k)) = SF ∧ sk.1.length ≤ s.1.length + 1 + k ∧ sk.2.2 ≤ s.2.2 + 1 + k ∧ Ck B g bm w.heap.size (w1.heap.size) root N w dk sk wr) (fun _ kv _ => n - (intOf kv).toNat)
    case atStart => exact ⟨0, many, i, _, _, Nat.zero_le _, HI.out.1, HI.out.2.1, HI.out.2.2, rfl, rfl, HF.out.2.1, rfl, HF2.out.2.symm, HL.out.1, HL.out.2, HC2.out⟩
    case round =>
      obtain ⟨k, m, j, dk, sk, hk, hm1, hm2, hj, rfl, rfl, hwr, hcl, hsk, hb1, hb2, hC⟩ := hrel
      by_cases hin : k < n
      · have hkl : k < ps.length := by have := HP.out.2.1; omega
        have hst : Stays K w wr := (Stays.refl K w).out (fun j hj => ⟨(HP.out.2.2.2 j hj).1, fun e => by
          rcases (HP.out.2.2.2 j hj).2 with h | h
          · exact Tn.low h e
          · exact Tn.keep h e⟩) hC.out
        obtain ⟨b, off, rfl, hb, hc⟩ := HP.out.1.stays hst (by rintro rfl; simp at hkl)
        obtain ⟨Aj, cj, g1, g2, g3, g4, g5, g6⟩ := hc k hkl
        obtain ⟨p, hp⟩ : ∃ p, ps[k] = p := ⟨_, rfl⟩
        rw [← List.getElem_cons_drop hkl, hp] at hwr hcl hsk
        rw [hp] at g1 g4 g5
        simp only [pwhole, Bool.and_eq_true, bne_iff_ne, ne_eq, beq_iff_eq] at hwr
        obtain ⟨w1', w2', w3'⟩ := hwr
        obtain ⟨l, hl⟩ : ∃ l, p.length = l := ⟨_, rfl⟩
        rw [hl] at g1 w2'
        obtain ⟨r4, hr4⟩ : ∃ r, j % 4 = r := ⟨_, rfl⟩
        have hrl : r4 < p.length := by omega
        obtain ⟨bA, oA, rfl, hbA, hra⟩ := g5.at_ g4 hrl
        obtain ⟨j', hj'⟩ : ∃ j', j / 4 = j' := ⟨_, rfl⟩
        have hrem : (j : Int) % 4 = (r4 : Int) := by omega
        have hrem2 : (j : Int).tmod 4 = (r4 : Int) := by rw [Int.tmod_eq_emod_of_nonneg (by omega)]; exact hrem
        have hdiv : (j : Int) / 4 = (j' : Int) := by omega
        have hpd : p[j % 4]? = some p[r4] := by rw [hr4, List.getElem?_eq_getElem hrl]
        have hp32 : (p[r4]).length = 32 := g4 _ (List.getElem_mem _)
        generalize p[r4] = dd at hpd hp32 hra
        obtain ⟨eqd, heqd⟩ : ∃ q, (dd == dk) = q := ⟨_, rfl⟩
        obtain ⟨DD, hDD⟩ : ∃ D, cbs dd = D := ⟨_, rfl⟩
        obtain ⟨DK, hDK⟩ : ∃ D, cbs dk = D := ⟨_, rfl⟩
        have heq : ∀ w', (Op.equalIn 10000 31 (.agg DD.toArray) (.agg DK.toArray)).run Try.prog w' = .ok eqd w' := fun w' => by rw [← hDD, ← hDK, ← heqd]; exact eq_digests w' _ _ hp32 hC.hd
        have hDDi : (Try.prog.info? 31).map (·.size) = some DD.length := by rw [← hDD, cbs_length, hp32]; exact info32b
        have hDKi : (Try.prog.info? 31).map (·.size) = some DK.length := by rw [← hDK, cbs_length, hC.hd]; exact info32b
        have HD := Lib.hid (And.intro hDDi (And.intro hDKi (show ∀ W' : World, W'.heap = wr.heap → W'.rangeAt bA (oA + r4 * 32) DD ∧ W'.rangeAt w1.heap.size 0 DK from fun W' hh => by
          have k1 := hra
          have k2 := hC.db.range
          rw [hDD] at k1
          rw [hDK] at k2
          exact ⟨fun a v hv => (World.cell?_of_block (by rw [hh])).trans (k1 a v hv), fun a v hv => (World.cell?_of_block (by rw [hh])).trans (k2 a v hv)⟩)))
        have i0 : (0 : Int) ≤ (k : Int) := by omega
        have i1 : (k : Int) < (n : Int) := by omega
        have j0 : (0 : Int) ≤ (j : Int) := by omega
        have j1 : (j : Int) ≤ 1024 := by omega
        have r0 : (0 : Int) ≤ (r4 : Int) := by omega
        have r1 : (r4 : Int) < (l : Int) := by omega
        have Hp := Lib.hid (And.intro hpd (And.intro heqd (And.intro hcl (And.intro hsk (And.intro hb1 (And.intro hb2 (And.intro w3' (And.intro g4 (And.intro g5 hl)))))))))
        have HC := Lib.hid hC
        have Hj := Lib.hid (And.intro hm1 (And.intro hm2 (And.intro hj (And.intro w1' (And.intro w2' hj')))))
        clear hb hc g2 g3 g4 g5 g6 hst hcl hsk hb1 hb2 hC w1' w2' w3' hra hpd hp32 heqd hDD hDK hDDi hDKi hp hbA hrl hr4 hl hj hm1 hm2 hj'
        cases eqd with
        | false =>
          have hcn : climb dk j (p :: ps.drop (k + 1)) = none := by
            rw [climb, if_neg]
            rw [Hp.out.1]
            intro e
            injection e with e
            have := Hp.out.2.1
            rw [e] at this; simp at this
          have hsn : climbIn dk j (p :: ps.drop (k + 1)) = [] := by
            rw [climbIn, if_neg]
            rw [Hp.out.1]
            intro e
            injection e with e
            have := Hp.out.2.1
            rw [e] at this; simp at this
          have hf : F = false := by rw [HF2.out.1, ← Hp.out.2.2.1, hcn]; rfl
          have hsf : SF = sk := by rw [← Hp.out.2.2.2.1, hsn]; rfl
          subst hf
          subst hsf
          clear hcn hsn
          go_wp2
          have Q0 : wr.drew.rangeAt bA (oA + r4 * 32) DD ∧ wr.drew.rangeAt w1.heap.size 0 DK := HD.out.2.2 _ rfl
          refine wp_region_held_drew (S := fun W' => W'.rangeAt bA (oA + r4 * 32) DD ∧ W'.rangeAt w1.heap.size 0 DK) (by kernel_rfl) Q0 (fun _ => ?_)
          refine anyH_take (i := 0) (d := 52) (v := ?u0) rfl rfl (by kernel_rfl) (by kernel_rfl) (by kernel_rfl) (fun _ _ _ h => h) (Or.inl ⟨by rfl, ?uy0⟩) Q0 ?ur0
          case uy0 => (intro w; go_simp; try with_reducible rfl)
          simp only [List.setIfInBounds_toArray, List.set_cons_zero, List.set_cons_succ]
          refine anyH_take (i := 1) (d := 53) (v := ?u1) rfl rfl (by kernel_rfl) (by kernel_rfl) (by kernel_rfl) (fun _ _ _ h => h) (Or.inl ⟨by rfl, ?uy1⟩) Q0 ?ur1
          case uy1 => (intro w; go_simp; try with_reducible rfl)
          simp only [List.setIfInBounds_toArray, List.set_cons_zero, List.set_cons_succ]
          refine anyH_take (i := 2) (d := 54) (v := ?u2) rfl rfl (by kernel_rfl) (by kernel_rfl) (by kernel_rfl) (fun _ _ _ h => h) (Or.inl ⟨by rfl, ?uy2⟩) Q0 ?ur2
          case uy2 => (intro w; go_simp; try with_reducible rfl)
          simp only [List.setIfInBounds_toArray, List.set_cons_zero, List.set_cons_succ]
          refine anyH_take (i := 3) (d := 55) (v := ?u3) rfl rfl (by kernel_rfl) (by kernel_rfl) (by kernel_rfl) (fun _ _ _ h => h) (Or.inl ⟨by rfl, ?uy3⟩) Q0 ?ur3
          case uy3 => (intro w; go_simp; try with_reducible rfl)
          simp only [List.setIfInBounds_toArray, List.set_cons_zero, List.set_cons_succ]
          refine anyH_load (i := 4) (d := 56) rfl rfl (by kernel_rfl) (by kernel_rfl) (by kernel_rfl) (by rfl) 31 _ rfl bA (oA + r4 * 32) rfl DD _ (fun _ h => h.1) Try.underlying31 rfl HD.out.1 (fun _ _ _ h => h) Q0 ?_
          simp only [List.setIfInBounds_toArray, List.set_cons_zero, List.set_cons_succ]
          refine anyH_load (i := 5) (d := 57) rfl rfl (by kernel_rfl) (by kernel_rfl) (by kernel_rfl) (by rfl) 31 _ rfl w1.heap.size 0 rfl DK _ (fun _ h => h.2) Try.underlying31 rfl HD.out.2.1 (fun _ _ _ h => h) Q0 ?_
          simp only [List.setIfInBounds_toArray, List.set_cons_zero, List.set_cons_succ]
          refine anyH_take (i := 6) (d := 58) (v := ?u6) rfl rfl (by kernel_rfl) (by kernel_rfl) (by kernel_rfl) (fun _ _ _ h => h) (Or.inl ⟨by rfl, ?uy6⟩) Q0 ?ur6
          case uy6 => (intro w; go_simp; try with_reducible rfl)
          simp only [List.setIfInBounds_toArray, List.set_cons_zero, List.set_cons_succ]
          refine wpAnyH_done (by kernel_rfl) ?_ _

          go_wp2
          go_ret
          exact ⟨rfl, (HC.out.below (Below.refl _ _).drew).kb.less fun j hj => .inl (.inl hj), (HC.out.below (Below.refl _ _).drew).out⟩
        | true =>
          have hpe : p[j % 4]? = some dk := by rw [Hp.out.1, beq_iff_eq.1 Hp.out.2.1]
          have hcy : climb (digest (upIn p)) j' (ps.drop (k + 1)) = climb (digest (leafIn x)) i ps := by
            rw [← Hp.out.2.2.1, climb, if_pos hpe, Hj.out.2.2.2.2.2]
          have hsy : noteAll (stepL sk (upIn p)) (climbIn (digest (upIn p)) j' (ps.drop (k + 1))) = SF := by
            rw [← Hp.out.2.2.2.1, climbIn, if_pos hpe, Hj.out.2.2.2.2.2]; rfl
          obtain ⟨hpd, heqd, hcl, hsk, hb1, hb2, w3', g4, g5, hl⟩ := Hp.out
          obtain ⟨hm1, hm2, hj, w1', w2', hj'⟩ := Hj.out
          have hup := (HC.out.below (Below.refl _ _).drew).up (p := p) (by have := HA.out.2.2.1; omega) (by have := HA.out.2.2.2.1; omega) (some ⟨bA, oA, none⟩) l cj (g5.after (Below.refl _ _).drew) g4 hl (by omega) (by omega)
          obtain ⟨E, hE⟩ : ∃ E, cbs (digest (upIn p)) = E := ⟨_, rfl⟩
          have hE32 : E.length = 32 := by rw [← hE, cbs_length, dlen]
          have hE1 : E.toArray.all (·.oneCell') = true := by rw [← hE]; exact cbs_one' _
          rw [hE] at hup
          have Hup := Lib.hid hup
          have hst2 := stepL_len sk (upIn p)
          have HY := Lib.hid (And.intro hcy (And.intro hsy (And.intro (show (stepL sk (upIn p)).1.length ≤ s.1.length + 1 + (k + 1) ∧ (stepL sk (upIn p)).2.2 ≤ s.2.2 + 1 + (k + 1) from by omega) (And.intro w3' (And.intro hj' hj)))))
          have Hm := Lib.hid (And.intro hm1 hm2)
          have HE := Lib.hid (And.intro hE32 hE1)
          clear hpe hcy hsy hpd heqd hcl hsk hb1 hb2 w3' g4 g5 hl hm1 hm2 hj w1' w2' hj' hup hE hE32 hE1 hst2 Hp Hj
          go_wp2
          have Q0 : wr.drew.rangeAt bA (oA + r4 * 32) DD ∧ wr.drew.rangeAt w1.heap.size 0 DK := HD.out.2.2 _ rfl
          refine wp_region_held_drew (S := fun W' => W'.rangeAt bA (oA + r4 * 32) DD ∧ W'.rangeAt w1.heap.size 0 DK) (by kernel_rfl) Q0 (fun _ => ?_)
          refine anyH_take (i := 0) (d := 52) (v := ?v0) rfl rfl (by kernel_rfl) (by kernel_rfl) (by kernel_rfl) (fun _ _ _ h => h) (Or.inl ⟨by rfl, ?vy0⟩) Q0 ?vr0
          case vy0 => (intro w; go_simp; try with_reducible rfl)
          simp only [List.setIfInBounds_toArray, List.set_cons_zero, List.set_cons_succ]
          refine anyH_take (i := 1) (d := 53) (v := ?v1) rfl rfl (by kernel_rfl) (by kernel_rfl) (by kernel_rfl) (fun _ _ _ h => h) (Or.inl ⟨by rfl, ?vy1⟩) Q0 ?vr1
          case vy1 => (intro w; go_simp; try with_reducible rfl)
          simp only [List.setIfInBounds_toArray, List.set_cons_zero, List.set_cons_succ]
          refine anyH_take (i := 2) (d := 54) (v := ?v2) rfl rfl (by kernel_rfl) (by kernel_rfl) (by kernel_rfl) (fun _ _ _ h => h) (Or.inl ⟨by rfl, ?vy2⟩) Q0 ?vr2
          case vy2 => (intro w; go_simp; try with_reducible rfl)
          simp only [List.setIfInBounds_toArray, List.set_cons_zero, List.set_cons_succ]
          refine anyH_take (i := 3) (d := 55) (v := ?v3) rfl rfl (by kernel_rfl) (by kernel_rfl) (by kernel_rfl) (fun _ _ _ h => h) (Or.inl ⟨by rfl, ?vy3⟩) Q0 ?vr3
          case vy3 => (intro w; go_simp; try with_reducible rfl)
          simp only [List.setIfInBounds_toArray, List.set_cons_zero, List.set_cons_succ]
          refine anyH_load (i := 4) (d := 56) rfl rfl (by kernel_rfl) (by kernel_rfl) (by kernel_rfl) (by rfl) 31 _ rfl bA (oA + r4 * 32) rfl DD _ (fun _ h => h.1) Try.underlying31 rfl HD.out.1 (fun _ _ _ h => h) Q0 ?_
          simp only [List.setIfInBounds_toArray, List.set_cons_zero, List.set_cons_succ]
          refine anyH_load (i := 5) (d := 57) rfl rfl (by kernel_rfl) (by kernel_rfl) (by kernel_rfl) (by rfl) 31 _ rfl w1.heap.size 0 rfl DK _ (fun _ h => h.2) Try.underlying31 rfl HD.out.2.1 (fun _ _ _ h => h) Q0 ?_
          simp only [List.setIfInBounds_toArray, List.set_cons_zero, List.set_cons_succ]
          refine anyH_take (i := 6) (d := 58) (v := ?v6) rfl rfl (by kernel_rfl) (by kernel_rfl) (by kernel_rfl) (fun _ _ _ h => h) (Or.inl ⟨by rfl, ?vy6⟩) Q0 ?vr6
          case vy6 => (intro w; go_simp; try with_reducible rfl)
          simp only [List.setIfInBounds_toArray, List.set_cons_zero, List.set_cons_succ]
          refine wpAnyH_done (by kernel_rfl) ?_ _

          go_wp2_with fail
          refine Hup.out.mono ?_
          rintro e w3 ⟨rfl, hth, hC3⟩
          obtain ⟨w4, hw4⟩ : ∃ w4, w3.setCells w1.heap.size 0 E = w4 := ⟨_, rfl⟩
          rw [hw4] at hC3
          have hsE : E.toArray.size = 32 := by rw [List.size_toArray]; exact HE.out.1
          have H3 := Lib.hid (show w3.there w1.heap.size 0 E.toArray.size ∧ (Try.prog.info? 31).map (·.size) = some E.toArray.size from ⟨by rw [hsE]; exact hth, by rw [hsE]; exact info32b⟩)
          have Hw4 := Lib.hid hw4
          have HC3 := Lib.hid hC3
          have k0 : (0 : Int) ≤ (j' : Int) := by omega
          clear hth hC3 hw4 hsE Hup
          go_wp2_with (refine wpList_store_mid rfl 31 _ _ rfl w1.heap.size 0 E.toArray rfl rfl H3.out.1 H3.out.2 HE.out.2 ?_; simp only [Act.put]; refine cast (congrArg (fun z => wpList _ _ _ _ _ z) Hw4.out.symm) ?_)
          go_roundw
          case rel =>
            obtain ⟨a1, a2, a3, a4, a5, a6⟩ := HY.out
            have hm1 := Hm.out.1
            have hm2 := Hm.out.2
            exact ⟨k + 1, (m + 3) / 4, j', _, _, by omega, by omega, by omega, by omega, by go_num, rfl, by rw [← a5]; exact a4, a1, a2, a3.1, a3.2, HC3.out⟩
          case measure => simp [intOf]; omega
      · obtain rfl : k = n := by omega
        rw [List.drop_of_length_le (by have := HP.out.2.1; omega)] at hcl hsk
        have hf : F = decide (dk = root) := by rw [HF2.out.1, ← hcl, climb]; by_cases e : dk = root <;> simp [e]
        have hsf : SF = sk := by rw [← hsk]; rfl
        have hsm := psame_any dk root hC.hd HA.out.2.2.2.2.1 wr
        have hif : (if dk = root then (0 : Int) else 100) = if F then 0 else 100 := by rw [hf]; by_cases e : dk = root <;> simp [e]
        rw [hif] at hsm
        obtain ⟨DK, hDK⟩ : ∃ D, cbs dk = D := ⟨_, rfl⟩
        rw [hDK, HD0.out.2.2.1] at hsm
        have hDKi : (Try.prog.info? 31).map (·.size) = some DK.length := by rw [← hDK, cbs_length, hC.hd]; exact info32b
        have hRi : (Try.prog.info? 31).map (·.size) = some R.length := by rw [← HD0.out.2.2.1, cbs_length, HA.out.2.2.2.2.1]; exact info32b
        have k1 := hC.db.range
        rw [hDK] at k1
        have k2 := hC.rb.range
        rw [HD0.out.2.2.1] at k2
        have H5 := Lib.hid (And.intro k1 (And.intro k2 (And.intro hDKi hRi)))
        have Hsm := Lib.hid hsm
        have HC := Lib.hid hC
        have i1 : ¬ ((k : Int) < (k : Int)) := by omega
        subst hsf
        clear hcl hsk hf hsm hif hDK hDKi hRi k1 k2 hC hb1 hb2 hwr hj hm1 hm2
        cases F
        all_goals
          go_wp2_with (first
            | (refine load_mid_g (by rfl) 31 _ rfl w1.heap.size 0 rfl DK _ H5.out.1 Try.underlying31 rfl H5.out.2.2.1 ?_; simp only [Act.put])
            | (refine load_mid_g (by rfl) 31 _ rfl w.heap.size 0 rfl R _ H5.out.2.1 Try.underlying31 rfl H5.out.2.2.2 ?_; simp only [Act.put])
            | fail)
          refine Hsm.out.mono ?_
          rintro e w5 ⟨rfl, hb5⟩
          have HC5 := Lib.hid (HC.out.below hb5)
          clear hb5 Hsm HC H5
          go_wp2
          go_ret
          exact ⟨rfl, HC5.out.kb.less fun j hj => .inl (.inl hj), HC5.out.out⟩
end Go.Proofs.Ytcamgldilknanaa

namespace Go.Proofs.Ytcamgldilknanaa
set_option linter.unusedVariables false

theorem insTo_mem {ls : List (List UInt8)} {n : Nat} {y : List UInt8} : y ∈ insTo ls n ↔ (∃ x ∈ ls, leafIn x = y) ∨ ∃ k, k < n ∧ y ∈ ups (lvl (lows ls) k) := by
  induction n with
  | zero =>
    unfold insTo
    rw [List.mem_map]
    constructor
    · exact fun h => .inl h
    · rintro (h | ⟨k, hk, _⟩)
      · exact h
      · omega
  | succ n ih =>
    rw [insTo_succ, List.mem_append, ih]
    constructor
    · rintro ((h | ⟨k, hk, h⟩) | h)
      · exact .inl h
      · exact .inr ⟨k, by omega, h⟩
      · exact .inr ⟨n, by omega, h⟩
    · rintro (h | ⟨k, hk, h⟩)
      · exact .inl (.inl h)
      · by_cases e : k = n
        · subst e; exact .inr h
        · exact .inl (.inr ⟨k, by omega, h⟩)
theorem lowSet_lows (cur : List (List UInt8)) (i : Nat) (x : List UInt8) : lowSet (lows cur) i x = lows (cur.set i x) := by
  unfold lowSet lows
  rw [List.map_set]
/-- The book s has all that a tree of these leaves asks. -/
def Has (cur : List (List UInt8)) (s : Bk) : Prop := ∀ y ∈ insTo cur (dep cur.length - 1), y.length ≤ 65536 → y ∈ s.1
theorem has_new (cur : List (List UInt8)) (s : Bk) : Has cur (noteAll s (insTo cur (dep cur.length - 1))) := fun y hy hl => (noteAll_mem _ _ _).2 (.inr ⟨hy, hl⟩)
theorem Has.more {cur : List (List UInt8)} {s : Bk} (h : Has cur s) (ls : List (List UInt8)) : Has cur (noteAll s ls) := fun y hy hl => (noteAll_mem _ _ _).2 (.inl (h y hy hl))
theorem Has.set {cur : List (List UInt8)} {s : Bk} (h : Has cur s) (i : Nat) (hi : i < cur.length) (x : List UInt8) : Has (cur.set i x) (noteAll s (setIns (lows cur) i x (dep cur.length - 1))) := fun y hy hl => by
  rw [noteAll_mem]
  rw [List.length_set, insTo_mem] at hy
  rcases hy with ⟨z, hz, rfl⟩ | ⟨k, hk, hu⟩
  · rcases List.mem_or_eq_of_mem_set hz with h1 | rfl
    · exact .inl (h _ (leaf_mem _ h1) hl)
    · exact .inr ⟨by unfold setIns; simp, hl⟩
  · unfold ups at hu
    obtain ⟨j, hj, rfl⟩ := List.mem_map.1 hu
    rw [List.mem_range, lvl_len, lows_len, List.length_set] at hj
    rw [← lowSet_lows] at hl ⊢
    by_cases e : j = i / 4 ^ k / 4
    · refine .inr ⟨?_, hl⟩
      unfold setIns
      refine List.mem_cons_of_mem _ (List.mem_map.2 ⟨k, List.mem_range.2 hk, ?_⟩)
      rw [e]
    · have e2 : four (lvl (lowSet (lows cur) i x) k) j = four (lvl (lows cur) k) j := four_congr (by rw [lvl_len, lvl_len, lowSet_len]) fun q hq => lvl_set (i := i) (lowSet_len _ _ _) (fun j hj => by unfold lowSet; rw [List.getElem?_set_ne fun e => hj e.symm]) k _ (by omega)
      rw [e2] at hl ⊢
      exact .inl (h _ (ups_mem hk (ups_at (by rw [lvl_len, lows_len]; exact hj))) hl)
end Go.Proofs.Ytcamgldilknanaa

namespace Go.Proofs.Ytcamgldilknanaa

open Go.RowKit Go.Maps

set_option linter.unusedVariables false

end Go.Proofs.Ytcamgldilknanaa

namespace Go.Proofs.Ytcamgldilknanaa

open Go.RowKit Go.Maps

set_option linter.unusedVariables false

theorem leaf_long (v : Value) (A : Option Addr) (n c : Nat) (w : World) (h : 65535 < n) :
    Calls Try.prog 29 #[v, .slice A n c] w fun e w' => e = .returned (.tuple #[.agg (cbs (List.replicate 32 0)).toArray, .int .i64 5]) ∧ Below w.heap.size w w' := by
  have b0 : Below w.heap.size w (w.alloc (.cells (cbs (List.replicate 32 0)).toArray 31)) := (Below.refl _ _).alloc (Nat.le_refl _) _
  have hZ : Blk (w.alloc (.cells (cbs (List.replicate 32 0)).toArray 31)) w.heap.size 31 (cbs (List.replicate 32 0)) := Blk.new rfl rfl
  have hth : (w.alloc (.cells (cbs (List.replicate 32 0)).toArray 31)).there w.heap.size 0 (cbs (List.replicate 32 0)).toArray.size := hZ.there
  have hR := hZ.setAll (vs := cbs (List.replicate 32 0)) rfl
  have hb1 : Below w.heap.size w ((w.alloc (.cells (cbs (List.replicate 32 0)).toArray 31)).setCells w.heap.size 0 (cbs (List.replicate 32 0))) := Below.setCells (Nat.le_refl _) _ b0
  have Hb := Lib.hid (And.intro hth (And.intro hR hb1))
  clear b0 hZ hth hR hb1
  go_enter Try.func29, Try.ntmps29
  go_wp2_with (first | (go_at_call 41; refine (isLong_yes A n c _ h).mono ?_; rintro e w' ⟨rfl, rfl⟩) | (refine wpList_store_mid rfl 31 _ _ rfl w.heap.size 0 (cbs (List.replicate 32 0)).toArray rfl rfl Hb.out.1 info32b (cbs_one' _) ?_))
  refine bodyPost_ret (results_row_tmp rfl _ _ w.heap.size 31 (cbs (List.replicate 32 0)).toArray (0, 0) _ rfl Hb.out.2.1 Try.underlying31 rfl info32b) rfl ?_
  exact ⟨rfl, Hb.out.2.2⟩

set_option maxRecDepth 100000 in
set_option maxHeartbeats 800000 in
theorem tset_long {w : World} {M : Nat → Prop} {t g : Nat} {low : List Dg} (h : TreeAt w M t g low) (i : Nat) (hi : i < low.length) (A : Option Addr) (n c : Nat) (hn : 65535 < n) :
    Calls Try.prog 26 #[.pointer (some ⟨t, 0, none⟩), .int .i64 (i : Int), .slice A n c] w fun e w' => e = .returned (.int .i64 5) ∧ Below w.heap.size w w' := by
  obtain ⟨L, R, lv, cc, hT⟩ := h
  have hd1 := dep_pos low.length
  have hblk := hT.blk
  have hd6 := dep_le hT.l2
  obtain ⟨d, hd⟩ : ∃ d, dep low.length = d := ⟨_, rfl⟩
  rw [hd] at hblk hd1 hd6
  have c0 : w.cell? ⟨t, 0, none⟩ = some (.pointer (some ⟨g, 0, none⟩)) := hblk.cell rfl
  have c1 : w.cell? ⟨t, 1, none⟩ = some (.int .i64 (low.length : Int)) := hblk.cell rfl
  have Hno := Lib.hid (tnone_no t g low.length lv d cc w hblk hd1)
  obtain ⟨D, hD⟩ : ∃ D, cbs (List.replicate 32 0) = D := ⟨_, rfl⟩
  have hD32 : D.length = 32 := by rw [← hD]; rfl
  have hD1 : D.toArray.all (·.oneCell') = true := by rw [← hD]; exact cbs_one' _
  have hlf := leaf_long (.pointer (some ⟨g, 0, none⟩)) A n c w hn
  rw [hD] at hlf
  have Hlf := Lib.hid hlf
  have HD := Lib.hid (And.intro hD32 hD1)
  have Ht := Lib.hid (And.intro hblk hblk.lt)
  have hi0 : 0 ≤ (i : Int) := by omega
  have hi1 : (i : Int) < (low.length : Int) := by omega
  have hi2 : ¬ ((i : Int) ≥ (low.length : Int)) := by omega
  have hi3 : decide ((i : Int) < 0) = false := by simp
  clear hlf hT hD hD32 hD1 hblk hi hd
  go_enter Try.func26, Try.ntmps26
  go_wp2_with (go_at_call 27; refine Hno.out.mono ?_; rintro e w ⟨rfl, rfl⟩)
  refine Hlf.out.mono ?_
  rintro e w1 ⟨rfl, hb1⟩
  obtain ⟨wS, hwS, ⟨hth, hiS⟩, hbS, hbel, hszS⟩ := dig_local w1 D HD.out.1
  have hb2 : Below w.heap.size w wS := hb1.trans (hbel.mono hb1.size)
  have hts : Blk wS t 57 (tcells g low.length lv d cc) := (hb2.block t Ht.out.2).trans Ht.out.1
  have c2 : wS.cell? ⟨t, 2, none⟩ = some (.slice (some ⟨lv, 0, none⟩) d cc) := hts.cell rfl
  have HwS := Lib.hid hwS
  have Hs := Lib.hid (And.intro hth (And.intro hiS HD.out.2))
  have H2 := Lib.hid hb2
  clear hwS hth hiS hbS hbel hszS hts hb1 hb2 c0 c1
  go_wp2_with (refine wpList_store_mid rfl 31 _ _ rfl w1.heap.size 0 D.toArray rfl rfl Hs.out.1 Hs.out.2.1 Hs.out.2.2 ?_; simp only [Act.put]; refine cast (congrArg (fun z => wpList _ _ _ _ _ z) HwS.out.symm) ?_)
  clear c2 HwS
  go_loopw [1, 8, 10, 11, 12] (fun a e n _ _ wr => e = .int .i64 5 ∧ n = .int .i64 0 ∧ wr = wS) (fun _ _ n _ _ _ => 0)
  case atStart => exact ⟨rfl, rfl, rfl⟩
  case round =>
    obtain ⟨rfl, rfl, rfl⟩ := hrel
    have hp : (0 : Int) ≤ (d : Int) - 1 := by omega
    go_wp2
    go_ret
    exact ⟨rfl, H2.out⟩

/-- Two trees over one book. -/
structure St2 (w0 : World) (g bm t u many : Nat) (M1 M2 N : Nat → Prop) (bnd : Nat) (lt lu : List Dg) (s : Bk) (w : World) : Prop where
  one : TreeAt w M1 t g lt
  two : TreeAt w M2 u g lu
  kb : Kb w0.heap.size w g bm s N
  sub1 : ∀ i, M1 i → N i
  sub2 : ∀ i, M2 i → N i
  dis : ∀ i, M1 i → ¬ M2 i
  ge1 : ∀ i, M1 i → w0.heap.size ≤ i
  ge2 : ∀ i, M2 i → w0.heap.size ≤ i
  len1 : lt.length = many
  len2 : lu.length = many
  b1 : s.1.length ≤ bnd
  b2 : s.2.2 ≤ bnd
  bel : Below w0.heap.size w0 w

section

variable {w0 w w' : World} {g bm t u many bnd : Nat} {M1 M2 N : Nat → Prop} {lt lu : List Dg} {s : Bk}

theorem St2.below (h : St2 w0 g bm t u many M1 M2 N bnd lt lu s w) (hb : Below w.heap.size w w') : St2 w0 g bm t u many M1 M2 N bnd lt lu s w' :=
  ⟨h.one.below hb, h.two.below hb, h.kb.below hb, h.sub1, h.sub2, h.dis, h.ge1, h.ge2, h.len1, h.len2, h.b1, h.b2, h.bel.trans (hb.mono h.bel.size)⟩

theorem St2.drew (h : St2 w0 g bm t u many M1 M2 N bnd lt lu s w) : St2 w0 g bm t u many M1 M2 N bnd lt lu s w.drew := h.below ((Below.refl _ _).drew)

theorem St2.more {b' : Nat} (h : St2 w0 g bm t u many M1 M2 N bnd lt lu s w) (hb : bnd ≤ b') : St2 w0 g bm t u many M1 M2 N b' lt lu s w :=
  ⟨h.one, h.two, h.kb, h.sub1, h.sub2, h.dis, h.ge1, h.ge2, h.len1, h.len2, Nat.le_trans h.b1 hb, Nat.le_trans h.b2 hb, h.bel⟩

theorem St2.swap (h : St2 w0 g bm t u many M1 M2 N bnd lt lu s w) : St2 w0 g bm u t many M2 M1 N bnd lu lt s w :=
  ⟨h.two, h.one, h.kb, h.sub2, h.sub1, fun i h1 h2 => h.dis i h2 h1, h.ge2, h.ge1, h.len2, h.len1, h.b1, h.b2, h.bel⟩

theorem St2.set (h : St2 w0 g bm t u many M1 M2 N bnd lt lu s w) (hb : bnd ≤ 20000) (hd : many ≤ 1024) (i : Nat) (hi : i < many) (A : Option Addr) (nx cp : Nat) (x : List UInt8) (hBx : Bs w A x) (hnx : x.length = nx) (hcx : nx ≤ cp) (hcm : cp ≤ maxLen) (hx : nx ≤ 65535) :
    Calls Try.prog 26 #[.pointer (some ⟨t, 0, none⟩), .int .i64 (i : Int), .slice A nx cp] w fun e w' =>
      e = .returned (.int .i64 0) ∧ St2 w0 g bm t u many M1 M2 N (bnd + 8) (lowSet lt i x) lu (noteAll s (setIns lt i x (dep lt.length - 1))) w' := by
  have hb1 := h.b1
  have hb2 := h.b2
  have hl := h.len1
  refine (tset_any w0.heap.size bm s N h.one h.kb h.bel.size h.sub1 (by omega) (by omega) i (by omega) A nx cp x hBx hnx hcx hcm hx).mono ?_
  rintro e w' ⟨rfl, hT, hK, hO⟩
  have h3 := noteAll_len s (setIns lt i x (dep lt.length - 1))
  have h4 := setIns_len lt i x (dep lt.length - 1)
  have h5 : dep lt.length ≤ 6 := dep_le (by omega)
  have h6 := dep_pos lt.length
  refine ⟨rfl, hT, h.two.out hO (fun j hj hs => ?_), hK, h.sub1, h.sub2, h.dis, h.ge1, h.ge2, by rw [lowSet_len]; exact hl, h.len2, by omega, by omega, h.bel.trans (hO.above (fun j hj => by
    rcases hj with hj | hj
    · exact hj.1
    · exact h.ge1 j hj) h.bel.size)⟩
  rcases hs with hs | hs
  · exact Tn.keep (h.sub2 j hj) hs
  · exact h.dis j hs hj

/-- Whatever the leaf. -/
theorem St2.sets (h : St2 w0 g bm t u many M1 M2 N bnd lt lu s w) (hb : bnd ≤ 20000) (hd : many ≤ 1024) (i : Nat) (hi : i < many) (A : Option Addr) (nx cp : Nat) (x : List UInt8) (hBx : Bs w A x) (hnx : x.length = nx) (hcx : nx ≤ cp) (hcm : cp ≤ maxLen) :
    Calls Try.prog 26 #[.pointer (some ⟨t, 0, none⟩), .int .i64 (i : Int), .slice A nx cp] w fun e w' =>
      ∃ (c : Int) (lt' : List Dg) (s' : Bk), e = .returned (.int .i64 c) ∧ St2 w0 g bm t u many M1 M2 N (bnd + 8) lt' lu s' w' := by
  by_cases hx : nx ≤ 65535
  · refine (h.set hb hd i hi A nx cp x hBx hnx hcx hcm hx).mono ?_
    rintro e w' ⟨rfl, hS⟩
    exact ⟨0, _, _, rfl, hS⟩
  · refine (tset_long h.one i (by rw [h.len1]; exact hi) A nx cp (by omega)).mono ?_
    rintro e w' ⟨rfl, hb⟩
    exact ⟨5, _, _, rfl, (h.below hb).more (by omega)⟩

end

theorem low_done (xs : List (List UInt8)) (low : List Dg) (h : low.length = xs.length) (he : ∀ j (hj : j < xs.length), low[j]? = some (digest (leafIn xs[j]))) : low = lows xs := by
  apply List.ext_getElem?
  intro j
  by_cases hj : j < xs.length
  · rw [he j hj]
    unfold lows
    rw [List.getElem?_map, List.getElem?_eq_getElem hj]; rfl
  · rw [List.getElem?_eq_none (by omega), List.getElem?_eq_none (by rw [lows_len]; omega)]

theorem lowSet_at (low : List Dg) (i : Nat) (x : List UInt8) (hi : i < low.length) : (lowSet low i x)[i]? = some (digest (leafIn x)) := by
  unfold lowSet; rw [List.getElem?_set_self hi]

theorem lowSet_ne (low : List Dg) (i j : Nat) (x : List UInt8) (h : i ≠ j) : (lowSet low i x)[j]? = low[j]? := by
  unfold lowSet; rw [List.getElem?_set_ne h]

end Go.Proofs.Ytcamgldilknanaa
