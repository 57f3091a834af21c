/-
  Laid together for a hand-in: Kd10, Co10, Ce10, Sh10, Kn10.
-/
import Derived.Test.YtkkcjkelijlmbaaZ12
import Derived.Test.YtkkcjkelijlmbaaZ14
import Derived.Test.YtkkcjkelijlmbaaZ08

namespace Go.Proofs.Ytkkcjkelijlmbaa

set_option linter.unusedVariables false

set_option maxRecDepth 100000 in
theorem dg98 : digest [0, 9] ≠ digest [0, 8] := by rw [dig_fast, dig_fast]; decide +kernel

set_option maxRecDepth 100000 in
theorem dv1 : digest [0, 1] = [180, 19, 244, 125, 19, 238, 47, 230, 200, 69, 178, 238, 20, 26, 248, 29, 232, 88, 223, 78, 197, 73, 165, 139, 121, 112, 187, 150, 100, 91, 200, 210] := by rw [dig_fast]; decide +kernel

set_option maxRecDepth 100000 in
theorem dv2 : digest [0, 2] = [252, 240, 166, 199, 0, 221, 19, 226, 116, 182, 251, 168, 222, 234, 141, 217, 178, 110, 78, 237, 222, 52, 149, 113, 124, 172, 132, 8, 201, 197, 23, 127] := by rw [dig_fast]; decide +kernel

set_option maxRecDepth 100000 in
theorem dv3 : digest [0, 3] = [88, 60, 125, 251, 123, 48, 85, 217, 148, 101, 84, 64, 50, 165, 113, 225, 10, 19, 75, 27, 111, 118, 148, 34, 187, 183, 31, 215, 250, 22, 122, 93] := by rw [dig_fast]; decide +kernel

set_option maxRecDepth 100000 in
theorem dv4 : digest [0, 4] = [79, 53, 33, 45, 18, 249, 173, 32, 54, 73, 44, 149, 241, 254, 121, 186, 244, 236, 123, 217, 190, 243, 223, 250, 117, 121, 242, 41, 63, 245, 70, 164] := by rw [dig_fast]; decide +kernel

set_option maxRecDepth 100000 in
theorem dv5 : digest [0, 5] = [159, 26, 250, 77, 193, 36, 203, 167, 49, 52, 232, 47, 245, 15, 23, 200, 247, 22, 66, 87, 199, 159, 237, 154, 19, 245, 148, 58, 106, 203, 142, 61] := by rw [dig_fast]; decide +kernel

set_option maxRecDepth 100000 in
theorem dv6 : digest [0, 6] = [64, 216, 129, 39, 212, 211, 26, 56, 145, 244, 21, 152, 238, 237, 65, 23, 78, 91, 200, 155, 30, 185, 187, 214, 106, 140, 191, 192, 153, 86, 163, 253] := by rw [dig_fast]; decide +kernel

set_option maxRecDepth 100000 in
theorem dvu1 : digest (1 :: (digest [0, 1] ++ digest [0, 2] ++ digest [0, 3] ++ digest [0, 4])) = [230, 15, 143, 54, 52, 94, 206, 98, 164, 22, 199, 160, 194, 128, 239, 154, 237, 83, 204, 226, 126, 239, 97, 142, 209, 187, 152, 34, 126, 191, 149, 102] := by
  rw [dv1, dv2, dv3, dv4, dig_fast]; decide +kernel

set_option maxRecDepth 100000 in
theorem dvu2 : digest (1 :: (digest [0, 5] ++ digest [0, 6])) = [144, 238, 178, 196, 160, 78, 195, 62, 228, 221, 38, 119, 89, 51, 49, 145, 14, 66, 3, 219, 79, 204, 18, 10, 108, 219, 149, 177, 60, 254, 131, 240] := by
  rw [dv5, dv6, dig_fast]; decide +kernel

set_option maxRecDepth 100000 in
theorem dv9 : digest [0, 9] = [200, 116, 121, 205, 101, 110, 126, 58, 214, 189, 141, 180, 2, 232, 2, 125, 244, 84, 178, 176, 196, 47, 242, 158, 9, 52, 88, 190, 185, 138, 35, 212] := by rw [dig_fast]; decide +kernel

set_option maxRecDepth 100000 in
theorem dvr : digest (1 :: ([230, 15, 143, 54, 52, 94, 206, 98, 164, 22, 199, 160, 194, 128, 239, 154, 237, 83, 204, 226, 126, 239, 97, 142, 209, 187, 152, 34, 126, 191, 149, 102] ++ [144, 238, 178, 196, 160, 78, 195, 62, 228, 221, 38, 119, 89, 51, 49, 145, 14, 66, 3, 219, 79, 204, 18, 10, 108, 219, 149, 177, 60, 254, 131, 240])) = [40, 140, 9, 45, 158, 164, 99, 248, 175, 184, 46, 244, 113, 180, 174, 130, 251, 105, 22, 18, 62, 249, 80, 72, 246, 148, 9, 126, 209, 7, 184, 109] := by
  rw [dig_fast]; decide +kernel

end Go.Proofs.Ytkkcjkelijlmbaa

namespace Go.Proofs.Ytkkcjkelijlmbaa

open Go.RowKit Go.Maps

set_option linter.unusedVariables false

theorem app_empty {P : Program} {ty : TypeId} (w : World) (base : Nat) (t e : TypeId) (i : TypeInfo) (ht : P.underlying t = some (.slice e)) (hi : P.info? e = some i)
    (v : Value) (n : Nat) (xs : List Value) (size : Nat) (hown : w.ownsRow base e size v n xs) (c : Nat) : (Builtin.append_ #[t, t] ty #[v, .slice none 0 c]).run P w = .ok v w := by
  obtain ⟨_, h | ⟨g, cap, cur, h, _, _, hnc, _⟩⟩ := hown
  · obtain ⟨rfl, rfl⟩ := h
    simp [Builtin.append_, run_underlying ht, sizeOf, typeInfo, hi, Builtin.lenOf, Builtin.firstCells]
  · subst h
    simp [Builtin.append_, run_underlying ht, sizeOf, typeInfo, hi, Builtin.lenOf, Builtin.firstCells, hnc, storeCells]

set_option maxRecDepth 100000 in
/-- append(v, ds...) for digests: v in a row of the call's own. -/
theorem run_appendDs (w : World) (base : Nat) (v : Value) (n : Nat) (d0 : List Dg) (hown : w.ownsRow base 30 32 v n (cbs d0.flatten)) (A : Option Addr) (c k : Nat) (ds : List Dg) (hD : Ds w A ds) (h32 : All32 ds) (hk : ds.length = k)
    (hb : (n + k) * 32 ≤ 140737488355328) (hbase : base ≤ w.heap.size) (ty : TypeId) :
    ∃ v' w', (Builtin.append_ #[37, 37] ty #[v, .slice A k c]).run Try.prog w = .ok v' w' ∧ w'.ownsRow base 30 32 v' (n + k) (cbs (d0 ++ ds).flatten) ∧ w.grownBy w' v.ownBlock ∧ (v'.ownBlock = v.ownBlock ∨ v'.ownBlock = some w.heap.size) := by
  obtain ⟨i0, z0, hi, hz0, hz1, hz2⟩ := dg_zero
  have hzc : z0.cells.size = 32 := by
    have e : (Try.prog.info? 30).map (fun i => (i.zero.map fun z => z.cells.size)) = some (some 32) := by kernel_rfl
    rw [hi] at e
    simp [hz0] at e
    exact e
  have hfl : cbs (d0 ++ ds).flatten = cbs d0.flatten ++ cbs ds.flatten := by rw [List.flatten_append]; simp [cbs]
  rw [hfl]
  cases A with
  | none =>
    have hm : ds = [] := by
      cases ds with
      | nil => rfl
      | cons x t => obtain ⟨b, off, e, _⟩ := hD.off (by simp); cases e
    subst hm
    simp only [List.length_nil] at hk
    subst hk
    exact ⟨v, w, app_empty w base _ _ i0 Try.underlying37 hi v _ _ 32 hown c, by simpa [cbs] using hown, World.grownBy.refl w _, .inl rfl⟩
  | some ad =>
    obtain ⟨v', w', h1, h2, h3, _, h5⟩ := run_append_own_at (P := Try.prog) w base 37 ty 30 i0 z0 32 32 Try.underlying37 hi hz0 hz1 hz2 hzc (by decide) v n _ hown ad k c (cbs ds.flatten)
      (by rw [cbs_length, flat_len h32]; omega) (fun j u hu => by
        have hp : 0 < ds.length := by
          cases ds with
          | nil => simp [cbs] at hu
          | cons x t => simp
        obtain ⟨b', off', e, _, hc⟩ := hD.2 hp
        injection e with e
        subst e
        rw [add_mk]
        exact hc j u hu) (cbs_one _) (by simp only [maxLen]; omega) hb hbase
    exact ⟨v', w', h1, h2, h3, h5⟩

theorem run_appendPz (w : World) (base : Nat) (v : Value) (n : Nat) (vs : List Value) (hown : w.ownsRow base 37 1 v n vs) (g : Nat) (x : Value) (hx : x.oneCell' = true) (hg : Blk w g 37 [x]) (hn : (n + 1) * 24 ≤ 140737488355328) (hbase : base ≤ w.heap.size) (ty : TypeId) :
    ∃ v' w', (Builtin.append_ #[34, 34] ty #[v, .slice (some ⟨g, 0, none⟩) 1 1]).run Try.prog w = .ok v' w' ∧ w'.ownsRow base 37 1 v' (n + 1) (vs ++ [x]) ∧ w.grownBy w' v.ownBlock := by
  have h := pl_info
  cases hi : Try.prog.info? 37 with
  | none => rw [hi] at h; cases h
  | some i0 =>
    rw [hi] at h
    simp only [Option.map_some, Option.some.injEq, Prod.mk.injEq] at h
    obtain ⟨h1, h2, h3⟩ := h
    cases hz : i0.zero with
    | none => rw [hz] at h1; cases h1
    | some z0 =>
      rw [hz] at h1
      simp only [Option.map_some, Option.some.injEq] at h1
      obtain ⟨v', w', e1, e2, e3, _, _⟩ := run_append_own_at (P := Try.prog) w base 34 ty 37 i0 z0 1 24 Try.underlying34 hi hz h2 h3 h1 (by decide) v n vs hown ⟨g, 0, none⟩ 1 1 [x]
        (by simp) (fun j u hu => by rw [add_mk, Nat.zero_add]; exact hg.cell hu) (fun u hu => by rw [List.mem_singleton.1 hu]; exact hx) (by simp only [maxLen]; omega) hn hbase
      exact ⟨v', w', e1, e2, e3⟩

theorem own_one {w : World} {base n size : Nat} {e : TypeId} {v : Value} {xs : List Value} (h : w.ownsRow base e size v n xs) : v.oneCell' = true := by
  obtain ⟨_, ⟨rfl, _⟩ | ⟨g, cap, cur, rfl, _⟩⟩ := h <;> rfl

theorem own_form {w : World} {base n size : Nat} {e : TypeId} {v : Value} {xs : List Value} (h : w.ownsRow base e size v n xs) : ∃ A c, v = .slice A n c := by
  obtain ⟨_, ⟨rfl, rfl⟩ | ⟨g, cap, cur, rfl, _⟩⟩ := h
  · exact ⟨none, 0, rfl⟩
  · exact ⟨_, _, rfl⟩

theorem own_ne {w : World} {b1 b2 n1 n2 s1 s2 : Nat} {e1 e2 : TypeId} {v1 v2 : Value} {x1 x2 : List Value} (h1 : w.ownsRow b1 e1 s1 v1 n1 x1) (h2 : w.ownsRow b2 e2 s2 v2 n2 x2) (hne : e1 ≠ e2) {b : Nat} (hb1 : v1.ownBlock = some b) (hb2 : v2.ownBlock = some b) : False := by
  obtain ⟨cs, fr, k1⟩ := own_type h1 hb1
  obtain ⟨cs', fr', k2⟩ := own_type h2 hb2
  rw [k1] at k2
  injection k2 with k2
  injection k2 with _ k2 _
  exact hne k2

/-- No two of the rows lie in one block. -/
def Dist (vs : List Value) : Prop := ∀ (i j : Nat) (u v : Value) (b : Nat), i ≠ j → vs[i]? = some u → vs[j]? = some v → u.ownBlock = some b → v.ownBlock ≠ some b

/-- A copy of a proof: rows new since w0, of their own. -/
def CpNew (w0 w : World) (v : Value) (ps : List (List Dg)) : Prop :=
  ∃ vs, w.ownsRow w0.heap.size 37 1 v ps.length vs ∧ (∀ j (hj : j < ps.length), ∃ vj, vs[j]? = some vj ∧ w.ownsRow w0.heap.size 30 32 vj ps[j].length (cbs ps[j].flatten)) ∧ Dist vs

theorem CpNew.below {w0 w w' : World} {v : Value} {ps : List (List Dg)} (h : CpNew w0 w v ps) (hb : Below w.heap.size w w') : CpNew w0 w' v ps := by
  obtain ⟨vs, hr, hc, hd⟩ := h
  refine ⟨vs, row_stay hr fun b cs hb2 _ => hb.block b (World.ownsRow.lt hr b hb2).2, fun j hj => ?_, hd⟩
  obtain ⟨vj, h1, h2⟩ := hc j hj
  exact ⟨vj, h1, row_stay h2 fun b cs hb2 _ => hb.block b (World.ownsRow.lt h2 b hb2).2⟩

theorem CpNew.nil (w : World) : CpNew w w (.slice none 0 0) [] := ⟨[], ⟨rfl, .inl ⟨rfl, rfl⟩⟩, fun j hj => by simp at hj, fun i j u v b _ h => by simp at h⟩

/-- One more list: its row has been made in w1, w2 is behind the append. -/
theorem CpNew.push {w0 w1 w2 : World} {v vp v' : Value} {vs : List Value} {ps : List (List Dg)} {p : List Dg} (hr : w1.ownsRow w0.heap.size 37 1 v ps.length vs) (hc : ∀ j (hj : j < ps.length), ∃ vj, vs[j]? = some vj ∧ w1.ownsRow w0.heap.size 30 32 vj ps[j].length (cbs ps[j].flatten))
    (hp : w1.ownsRow w0.heap.size 30 32 vp p.length (cbs p.flatten)) (hr2 : w2.ownsRow w0.heap.size 37 1 v' (ps.length + 1) (vs ++ [vp])) (hg : w1.grownBy w2 v.ownBlock) (hd : Dist vs) (hf : ∀ (j : Nat) u b, vs[j]? = some u → u.ownBlock = some b → vp.ownBlock ≠ some b) : CpNew w0 w2 v' (ps ++ [p]) := by
  have keep : ∀ {u : Value} {n : Nat} {xs : List Value}, w1.ownsRow w0.heap.size 30 32 u n xs → w2.ownsRow w0.heap.size 30 32 u n xs := fun {u n xs} hu => row_stay hu fun b cs hb _ => hg.block b (World.ownsRow.lt hu b hb).2 fun e => own_ne hu hr (by decide) hb e.symm
  have hvl : vs.length = ps.length := by have := hr.1; omega
  refine ⟨vs ++ [vp], by rw [List.length_append]; exact hr2, fun j hj => ?_, fun i j u x b hij hi hj hb => ?_⟩
  rotate_left
  · have one : ∀ {i : Nat} {u : Value}, (vs ++ [vp])[i]? = some u → (i < vs.length ∧ vs[i]? = some u) ∨ (i = vs.length ∧ u = vp) := fun {i u} h => by
      by_cases h2 : i < vs.length
      · rw [List.getElem?_append_left h2] at h; exact .inl ⟨h2, h⟩
      · rw [List.getElem?_append_right (by omega)] at h
        have h3 : i - vs.length = 0 := by
          rcases Nat.eq_zero_or_pos (i - vs.length) with h4 | h4
          · exact h4
          · rw [List.getElem?_eq_none (by simp; omega)] at h; cases h
        rw [h3] at h
        exact .inr ⟨by omega, by simpa using h.symm⟩
    rcases one hi with ⟨i1, i2⟩ | ⟨i1, rfl⟩
    · rcases one hj with ⟨j1, j2⟩ | ⟨j1, rfl⟩
      · exact hd i j u x b hij i2 j2 hb
      · exact hf i u b i2 hb
    · rcases one hj with ⟨j1, j2⟩ | ⟨j1, rfl⟩
      · exact fun e => hf j x b j2 e hb
      · omega
  by_cases hj2 : j < ps.length
  · obtain ⟨vj, h1, h2⟩ := hc j hj2
    rw [List.getElem_append_left hj2]
    exact ⟨vj, by rw [List.getElem?_append_left (by omega)]; exact h1, keep h2⟩
  · have e : j = ps.length := by simp at hj; omega
    subst e
    rw [List.getElem_append_right (Nat.le_refl _)]
    simp only [Nat.sub_self, List.getElem_cons_zero]
    exact ⟨vp, by rw [List.getElem?_append_right (by omega), hvl, Nat.sub_self]; rfl, keep hp⟩

/-- One list is another one: its row turned, and its head is stored. -/
theorem CpNew.set {w0 w w1 : World} {g n c j : Nat} {vs : List Value} {ps : List (List Dg)} {p' : List Dg} {vj vj' : Value} (hr : w.ownsRow w0.heap.size 37 1 (.slice (some ⟨g, 0, none⟩) n c) ps.length vs) (hn : ps.length = n)
    (hc : ∀ j (hj : j < ps.length), ∃ vj, vs[j]? = some vj ∧ w.ownsRow w0.heap.size 30 32 vj ps[j].length (cbs ps[j].flatten)) (hd : Dist vs) (hj : j < ps.length) (hvj : vs[j]? = some vj)
    (hg : w.grownBy w1 vj.ownBlock) (hp : w1.ownsRow w0.heap.size 30 32 vj' p'.length (cbs p'.flatten)) (hf : ∀ b, vj'.ownBlock = some b → vj.ownBlock = some b ∨ w.heap.size ≤ b) : CpNew w0 (w1.setCell ⟨g, j, none⟩ vj') (.slice (some ⟨g, 0, none⟩) n c) (ps.set j p') := by
  subst hn
  have hvl : vs.length = ps.length := by have := hr.1; omega
  obtain ⟨vj0, e0, hrj⟩ := hc j hj
  rw [hvj] at e0
  injection e0 with e0
  subst e0
  have hr1 : w1.ownsRow w0.heap.size 37 1 (.slice (some ⟨g, 0, none⟩) ps.length c) ps.length vs := row_stay hr fun b cs hb _ => hg.block b (World.ownsRow.lt hr b hb).2 fun e => own_ne hr hrj (by decide) hb e.symm
  have hst : ∀ {u : Value} {m : Nat} {xs : List Value}, w1.ownsRow w0.heap.size 30 32 u m xs → (w1.setCell ⟨g, j, none⟩ vj').ownsRow w0.heap.size 30 32 u m xs := fun {u m xs} hu => row_stay hu fun b cs hb _ => Below.heap_setCell w1 ⟨g, j, none⟩ vj' b fun e => own_ne hu hr1 (by decide) hb (by rw [e]; rfl)
  refine ⟨vs.set j vj', by rw [List.length_set]; exact (World.ownsRow.stored hr1 j vj').1, fun i hi => ?_, fun i k u x b hik hiu hkx hb => ?_⟩
  · rw [List.length_set] at hi
    by_cases e : j = i
    · subst e
      refine ⟨vj', by rw [List.getElem?_set_self (by omega)], ?_⟩
      rw [List.getElem_set_self]
      exact hst hp
    · obtain ⟨vi, k1, k2⟩ := hc i hi
      refine ⟨vi, by rw [List.getElem?_set_ne e]; exact k1, ?_⟩
      rw [List.getElem_set_ne e]
      exact hst (row_stay k2 fun b cs hb _ => hg.block b (World.ownsRow.lt k2 b hb).2 fun e2 => hd i j vi vj b (fun e3 => e e3.symm) k1 hvj hb e2.symm)
  · have old : ∀ {i : Nat} {u : Value} {b : Nat}, j ≠ i → vs[i]? = some u → u.ownBlock = some b → vj'.ownBlock ≠ some b := fun {i u b} hne hu hb e => by
      have hil : i < ps.length := by
        rcases Nat.lt_or_ge i vs.length with h | h
        · omega
        · rw [List.getElem?_eq_none h] at hu; cases hu
      obtain ⟨vi, k1, k2⟩ := hc i hil
      rw [hu] at k1
      injection k1 with k1
      subst k1
      rcases hf b e with h | h
      · exact hd i j u vj b (fun e3 => hne e3.symm) hu hvj hb h
      · have := (World.ownsRow.lt k2 b hb).2; omega
    by_cases e1 : j = i
    · subst e1
      rw [List.getElem?_set_self (by omega)] at hiu
      injection hiu with hiu
      subst hiu
      rw [List.getElem?_set_ne hik] at hkx
      exact fun e => old hik hkx e hb
    · rw [List.getElem?_set_ne e1] at hiu
      by_cases e2 : j = k
      · subst e2
        rw [List.getElem?_set_self (by omega)] at hkx
        injection hkx with hkx
        subst hkx
        exact old e1 hiu hb
      · rw [List.getElem?_set_ne e2] at hkx
        exact hd i k u x b hik hiu hkx hb

theorem CpNew.at_ {w0 w : World} {v : Value} {ps : List (List Dg)} (h : CpNew w0 w v ps) (h32 : ∀ p ∈ ps, All32 p) : ∃ A c, v = .slice A ps.length c ∧ ps.length ≤ c ∧ c ≤ maxLen ∧ PfAt w (fun j => w0.heap.size ≤ j ∧ j < w.heap.size) A ps := by
  obtain ⟨vs, hrow, hc, _⟩ := h
  rcases hrow.2 with ⟨rfl, e⟩ | ⟨g, c, cur, rfl, hb0, hg, hnc, hcm, _⟩
  · have e2 : ps = [] := List.eq_nil_of_length_eq_zero e
    subst e2
    exact ⟨none, 0, rfl, Nat.le_refl _, by simp [maxLen], fun hne => absurd rfl hne⟩
  · refine ⟨some ⟨g, 0, none⟩, c, rfl, hnc, hcm, fun hne => ⟨g, 0, rfl, ⟨hb0, row_lt hrow⟩, fun j hj => ?_⟩⟩
    obtain ⟨vj, h1, h2⟩ := hc j hj
    have hz := World.ownsRow.cellAt hrow j (by omega)
    rcases h2.2 with ⟨rfl, e⟩ | ⟨gj, cj, cur2, rfl, hbj, hgj, hncj, hcmj, _⟩
    · have e2 : ps[j] = [] := List.eq_nil_of_length_eq_zero e
      refine ⟨none, 0, ?_, by omega, by simp [maxLen], h32 _ (List.getElem_mem hj), by rw [e2]; exact Ds.nil _ _, fun a e _ => by cases e⟩
      rw [Nat.zero_add, hz, h1, e]
    · refine ⟨some ⟨gj, 0, none⟩, cj, ?_, hncj, hcmj, h32 _ (List.getElem_mem hj), Shows.ofOwn h2, fun a e _ => by injection e with e; subst e; exact ⟨hbj, row_lt h2⟩⟩
      rw [Nat.zero_add, hz]; exact h1

end Go.Proofs.Ytkkcjkelijlmbaa

namespace Go.Proofs.Ytkkcjkelijlmbaa

open Go.RowKit Go.Maps

set_option linter.unusedVariables false

section

variable (v lb pf : Value) (root : Dg) (lv lf : Int) (w : World)

set_option maxRecDepth 100000 in
theorem check_args (h : lv < 1 ∨ 1024 < lv) : Calls Try.prog 10 #[v, .agg (cbs root).toArray, .int .i64 lv, .int .i64 lf, lb, pf] w fun e w' => e = .returned (.int .i64 2) ∧ Below w.heap.size w w' := by
  obtain ⟨R, hR⟩ : ∃ R, cbs root = R := ⟨_, rfl⟩
  have Hb := Lib.hid (show Below w.heap.size w (w.alloc (.cells R.toArray 30)) from (Below.refl _ _).alloc (Nat.le_refl _) _)
  rw [hR]
  clear hR
  obtain ⟨hc, _⟩ : ((decide (lv < 1) = true) ∨ (decide (lv < 1) = false ∧ decide ((1024 : Int) < lv) = true)) ∧ True := ⟨by
    by_cases h0 : lv < 1
    · exact .inl (by simp; omega)
    · exact .inr ⟨by simp; omega, by simp; omega⟩, trivial⟩
  clear h
  rcases hc with h1 | ⟨h1, h2⟩
  all_goals
    go_enter Try.func10, Try.ntmps10
    go_wp2
    go_ret
    exact ⟨rfl, Hb.out⟩

set_option maxRecDepth 100000 in
theorem check_range (h1 : 1 ≤ lv) (h2 : lv ≤ 1024) (h : lf < 0 ∨ lv ≤ lf) : Calls Try.prog 10 #[v, .agg (cbs root).toArray, .int .i64 lv, .int .i64 lf, lb, pf] w fun e w' => e = .returned (.int .i64 9) ∧ Below w.heap.size w w' := by
  obtain ⟨R, hR⟩ : ∃ R, cbs root = R := ⟨_, rfl⟩
  have Hb := Lib.hid (show Below w.heap.size w (w.alloc (.cells R.toArray 30)) from (Below.refl _ _).alloc (Nat.le_refl _) _)
  rw [hR]
  clear hR
  have b1 : decide (lv < 1) = false := by simp; omega
  have b2 : decide ((1024 : Int) < lv) = false := by simp; omega
  obtain ⟨hc, _⟩ : ((decide (lf < 0) = true) ∨ (decide (lf < 0) = false ∧ decide (lv ≤ lf) = true)) ∧ True := ⟨by
    by_cases h0 : lf < 0
    · exact .inl (by simp; omega)
    · exact .inr ⟨by simp; omega, by simp; omega⟩, trivial⟩
  clear h h1 h2
  rcases hc with h1 | ⟨h1, h2⟩
  all_goals
    go_enter Try.func10, Try.ntmps10
    go_wp2
    go_ret
    exact ⟨rfl, Hb.out⟩

set_option maxRecDepth 100000 in
set_option maxHeartbeats 1600000 in
theorem check_leaf (A : Option Addr) (n cp : Nat) (c : Int) (hc : c ≠ 0) (Q : World → Prop) (h1 : 1 ≤ lv) (h2 : lv ≤ 1024) (h3 : 0 ≤ lf) (h4 : lf < lv)
    (hin : Calls Try.prog 23 #[v, .slice A n cp] (w.alloc (.cells (cbs root).toArray 30)) fun e w1 => e = .returned (.tuple #[.agg (cbs (List.replicate 32 0)).toArray, .int .i64 c]) ∧ Q w1) :
    Calls Try.prog 10 #[v, .agg (cbs root).toArray, .int .i64 lv, .int .i64 lf, .slice A n cp, pf] w (FitsP Q c) := by
  obtain ⟨R, hR⟩ : ∃ R, cbs root = R := ⟨_, rfl⟩
  obtain ⟨D, hD⟩ : ∃ D, cbs (List.replicate 32 0) = D := ⟨_, rfl⟩
  have hD32 : D.length = 32 := by rw [← hD, cbs_length]; rfl
  have hD1 : D.toArray.all (·.oneCell') = true := by rw [← hD]; exact cbs_one' _
  rw [hD, hR] at hin
  rw [hR]
  have b1 : decide (lv < 1) = false := by simp; omega
  have b2 : decide ((1024 : Int) < lv) = false := by simp; omega
  have b3 : decide (lf < 0) = false := by simp; omega
  have b4 : decide (lv ≤ lf) = false := by simp; omega
  have Hin := Lib.hid hin
  have HD := Lib.hid (And.intro hD32 hD1)
  have hc2 : (c != 0) = true := by simp [hc]
  clear hin hD32 hD1 hR hD hc h1 h2 h3 h4
  go_enter Try.func10, Try.ntmps10
  go_wp2_with fail
  refine Hin.out.mono ?_
  rintro e w1 ⟨rfl, hq1⟩
  obtain ⟨wS, hwS, ⟨hth, hiS⟩, hbS, hbel, hszS⟩ := dig_local w1 D HD.out.1
  have Hs := Lib.hid (And.intro hth (And.intro hiS HD.out.2))
  have HwS := Lib.hid hwS
  have H1 := Lib.hid (And.intro hq1 hbel)
  clear hwS hth hiS hbS hbel hszS hq1 Hin
  go_wp2_with (refine wpList_store_mid rfl 30 _ _ rfl w1.heap.size 0 D.toArray rfl rfl Hs.out.1 Hs.out.2.1 Hs.out.2.2 ?_; simp only [Act.put]; refine cast (congrArg (fun z => wpList _ _ _ _ _ z) HwS.out.symm) ?_)
  go_ret
  exact ⟨rfl, w1, H1.out.1, H1.out.2⟩

end

theorem check_long (v pf : Value) (root : Dg) (lv lf : Int) (w : World) (A : Option Addr) (n cp : Nat) (hn : 65535 < n) (h1 : 1 ≤ lv) (h2 : lv ≤ 1024) (h3 : 0 ≤ lf) (h4 : lf < lv) :
    Calls Try.prog 10 #[v, .agg (cbs root).toArray, .int .i64 lv, .int .i64 lf, .slice A n cp, pf] w fun e w' => e = .returned (.int .i64 5) ∧ Below w.heap.size w w' := by
  have hbA : Below w.heap.size w (w.alloc (.cells (cbs root).toArray 30)) := (Below.refl _ _).alloc (Nat.le_refl _) _
  refine (check_leaf v pf root lv lf w A n cp 5 (by decide) (fun w1 => Below w.heap.size w w1) h1 h2 h3 h4 ((leaf_long v A n cp _ hn).mono ?_)).mono ?_
  · rintro e w1 ⟨rfl, hb⟩
    exact ⟨rfl, hbA.trans (hb.mono hbA.size)⟩
  · rintro e w' ⟨rfl, w1, hb1, hb⟩
    exact ⟨rfl, hb1.trans (hb.mono hb1.size)⟩

/-- Any claim over a tree's leaves. -/
def CheckAll (w0 : World) (B g bm t m : Nat) (M N : Nat → Prop) (bnd : Nat) (cur : List (List UInt8)) (s0 s : Bk) (root : Dg) (lf : Int) (x : List UInt8) (ps : List (List Dg)) (w : World) (e : Ending) (w' : World) : Prop :=
  ∃ (c : Int) (s' : Bk), e = .returned (.int .i64 c) ∧ Tb w0 B g bm t m M N (bnd + 6) cur s0 s' w' ∧ Out (Tn B bm w (fun i => N i ∨ M i)) w w' ∧
    (c = 0 → ∃ i : Nat, lf = (i : Int) ∧ i < m ∧ x.length ≤ 65535 ∧ s' = noteAll s (chkIn m i x ps) ∧ fits root m i x ps = true)

theorem Tb.checkAll {w0 w : World} {B g bm t m bnd : Nat} {M N : Nat → Prop} {cur : List (List UInt8)} {s0 s : Bk} (h : Tb w0 B g bm t m M N bnd cur s0 s w) (hb : bnd ≤ 900000) (root : Dg) (hr : root.length = 32) (lf : Int) (Ax : Option Addr) (nx cx : Nat) (x : List UInt8) (hBx : Bs w Ax x) (hnx : x.length = nx) (hcx : nx ≤ cx) (hcm : cx ≤ maxLen)
    (K : Nat → Prop) (A : Option Addr) (n c : Nat) (ps : List (List Dg)) (hP : PfAt w K A ps) (hn : ps.length = n) (hnm : n ≤ maxLen) (hK : ∀ j, K j → j < w.heap.size ∧ (j < B ∨ N j ∨ M j)) :
    Calls Try.prog 10 #[.pointer (some ⟨g, 0, none⟩), .agg (cbs root).toArray, .int .i64 (m : Int), .int .i64 lf, .slice Ax nx cx, .slice A n c] w (CheckAll w0 B g bm t m M N bnd cur s0 s root lf x ps w) := by
  have hm := h.m1
  by_cases hlf : lf < 0 ∨ (m : Int) ≤ lf
  · refine (check_range _ _ _ root m lf w (by omega) (by omega) hlf).mono ?_
    rintro e w' ⟨rfl, hb⟩
    exact ⟨9, s, rfl, (h.below hb).more (by omega), Out.ofBelow _ hb, fun e => by cases e⟩
  · obtain ⟨i, hi⟩ : ∃ i : Nat, lf = (i : Int) := ⟨lf.toNat, by omega⟩
    subst hi
    by_cases hx : nx ≤ 65535
    · refine (h.check hb root hr i (by omega) Ax nx cx x hBx hnx hcx hcm hx K A n c ps hP hn hnm hK).mono ?_
      rintro e w' ⟨rfl, hT, hO⟩
      refine ⟨_, _, rfl, hT, hO, fun e => ⟨i, rfl, by omega, by omega, rfl, ?_⟩⟩
      cases hf : fits root m i x ps with
      | true => rfl
      | false => rw [hf] at e; cases e
    · refine (check_long _ _ root m i w Ax nx cx (by omega) (by omega) (by omega) (by omega) (by omega)).mono ?_
      rintro e w' ⟨rfl, hb⟩
      exact ⟨5, s, rfl, (h.below hb).more (by omega), Out.ofBelow _ hb, fun e => by cases e⟩

section

variable {w0 w : World} {B g bm t m bnd : Nat} {M N : Nat → Prop} {cur : List (List UInt8)} {s0 s : Bk}

theorem Tb.fits (h : Tb w0 B g bm t m M N bnd cur s0 s w) (hb : bnd ≤ 900000) (A : Option Addr) (n cp : Nat) (d : Dg) (hd : d.length = 32) (ds : List Dg) (hD : Ds w A ds) (h32 : All32 ds) (hn : ds.length = n) (h1 : 1 ≤ n) (h4 : n ≤ 4) :
    Calls Try.prog 11 #[.pointer (some ⟨g, 0, none⟩), .agg (cbs d).toArray, .slice A n cp] w fun e w' => e = .returned (.int .i64 (if digest (upIn ds) = d then 0 else 100)) ∧ Tb w0 B g bm t m M N (bnd + 1) cur s0 (stepL s (upIn ds)) w' ∧ Out (Tn B bm w (fun i => N i ∨ M i)) w w' := by
  have b1 := h.b1
  have b2 := h.b2
  refine (fits_kb B g bm s _ A n cp d hd ds w h.kb (Nat.le_trans h.hB h.out.size) (by omega) (by omega) hD h32 hn h1 h4).mono ?_
  rintro e w' ⟨rfl, hK, hO⟩
  exact ⟨rfl, h.ask (ins := [upIn ds]) hK hO rfl (Nat.le_refl _), hO⟩

theorem Tb.leaffits (h : Tb w0 B g bm t m M N bnd cur s0 s w) (hb : bnd ≤ 900000) (A : Option Addr) (n cp : Nat) (d : Dg) (hd : d.length = 32) (x : List UInt8) (hB : Bs w A x) (hn : x.length = n) (hc : n ≤ cp) (hcm : cp ≤ maxLen) (hs : n ≤ 65535) :
    Calls Try.prog 12 #[.pointer (some ⟨g, 0, none⟩), .agg (cbs d).toArray, .slice A n cp] w fun e w' => e = .returned (.int .i64 (if digest (leafIn x) = d then 0 else 100)) ∧ Tb w0 B g bm t m M N (bnd + 1) cur s0 (stepL s (leafIn x)) w' ∧ Out (Tn B bm w (fun i => N i ∨ M i)) w w' := by
  have b1 := h.b1
  have b2 := h.b2
  refine (leaffits_kb B g bm s _ A n cp d hd x w h.kb (Nat.le_trans h.hB h.out.size) (by omega) (by omega) hB hn hc hcm hs).mono ?_
  rintro e w' ⟨rfl, hK, hO⟩
  exact ⟨rfl, h.ask (ins := [leafIn x]) hK hO rfl (Nat.le_refl _), hO⟩

end

end Go.Proofs.Ytkkcjkelijlmbaa

namespace Go.Proofs.Ytkkcjkelijlmbaa

open Go.RowKit Go.Maps

set_option linter.unusedVariables false

section

variable {P : Program} {ops : Array Oper} {Q : Exit → Act → World → Prop}

theorem wpList_rowS {rest : List Oper} {o : Oper} {a : Act} {w : World} (hgd : o.guard = none) (t : TypeId) (n : Nat) (parts : Array (Nat × Operand)) (ho : o.op = .buildSlice t n parts)
    (v : Value) (w' : World) (hrun : (Instr.buildSlice t n (parts.map fun p => (p.1, a.eval p.2))).run P w = .ok v w') (h : wpList P ops Q rest (a.put o.dst v) w') : wpList P ops Q (o :: rest) a w := by
  refine wpList_plain hgd fun K hK => ?_
  have he' : (Instr.buildSlice t n (parts.map fun (i, x) => (i, a.eval x))).run P w = .ok v w' := hrun
  unfold Oper.wp execOp
  simp only [ho, Sem.run_bind, he', Result.andThen_ok]
  exact hK _ _ h

end

theorem sl_frontP (g n c k : Nat) (h1 : k ≤ c) (h2 : 1 ≤ c) (w : World) : (Instr.sliceAt 34 (.slice (some ⟨g, 0, none⟩) n c) none (some (.int .i64 (k : Int))) none).run Try.prog w = .ok (.slice (some ⟨g, 0, none⟩) k c) w := by
  have a3 : (k : Int) ≤ (c : Int) := by omega
  have a4 : ¬ (c = 0) := by omega
  go_simp

theorem sl_frontD (g n c k : Nat) (h1 : k ≤ c) (h2 : 1 ≤ c) (w : World) : (Instr.sliceAt 37 (.slice (some ⟨g, 0, none⟩) n c) none (some (.int .i64 (k : Int))) none).run Try.prog w = .ok (.slice (some ⟨g, 0, none⟩) k c) w := by
  have a3 : (k : Int) ≤ (c : Int) := by omega
  have a4 : ¬ (c = 0) := by omega
  go_simp

theorem PfAt.take {w : World} {K : Nat → Prop} {A : Option Addr} {ps : List (List Dg)} (h : PfAt w K A ps) (k : Nat) : PfAt w K A (ps.take k) := fun hne => by
  obtain ⟨b, off, e, hb, hc⟩ := h (by rintro rfl; simp at hne)
  refine ⟨b, off, e, hb, fun j hj => ?_⟩
  have hj2 : j < ps.length := by rw [List.length_take] at hj; omega
  have e2 : (ps.take k)[j] = ps[j] := List.getElem_take
  rw [e2]
  exact hc j hj2

theorem own_take {w : World} {base g n c k : Nat} {ds : List Dg} (h : w.ownsRow base 30 32 (.slice (some ⟨g, 0, none⟩) n c) n (cbs ds.flatten)) (h32 : All32 ds) (hk : k ≤ n) : w.ownsRow base 30 32 (.slice (some ⟨g, 0, none⟩) k c) k (cbs (ds.take k).flatten) := by
  have e1 : (ds.take k).flatten = ds.flatten.take (32 * k) := (flat_take h32 k).symm
  have hl := h.1
  obtain ⟨_, ⟨e, _⟩ | ⟨g', cap, cur, e, hb, hg, hnc, hcm, hsz, hcur⟩⟩ := h
  · cases e
  · injection e with e2 e3 e4
    injection e2 with e2
    injection e2 with e2 _
    subst e2 e4
    have e5 : cbs (ds.take k).flatten = (cbs ds.flatten).take (k * 32) := by rw [e1, cbs_take, Nat.mul_comm]
    refine ⟨?_, .inr ⟨g, c, cur, rfl, hb, hg, by omega, hcm, hsz, ?_⟩⟩
    · rw [e5, List.length_take]; omega
    · rw [e5, ← hcur, List.take_take]
      congr 1
      omega

theorem row_dg (w : World) (base : Nat) (D : List Value) (hD : D.length = 32) (hb : base ≤ w.heap.size) : (w.alloc (.cells D.toArray 30)).ownsRow base 30 32 (.slice (some ⟨w.heap.size, 0, none⟩) 1 1) 1 D :=
  ⟨by omega, .inr ⟨w.heap.size, 1, D.toArray, rfl, hb, heap_alloc_new w _, Nat.le_refl _, by decide, by simp [hD], by simp; rw [List.take_of_length_le (by omega)]⟩⟩

theorem row_ds (w : World) (D : List Value) (d : Dg) (hd : d.length = 32) (h : cbs d = D) : Ds (w.alloc (.cells D.toArray 30)) (some ⟨w.heap.size, 0, none⟩) [d] := by
  have h2 := row_dg w w.heap.size D (by rw [← h, cbs_length, hd]) (Nat.le_refl _)
  have e : cbs ([d] : List Dg).flatten = D := by simpa using h
  have h3 : (w.alloc (.cells D.toArray 30)).ownsRow w.heap.size 30 32 (.slice (some ⟨w.heap.size, 0, none⟩) [d].length 1) [d].length (cbs ([d] : List Dg).flatten) := by rw [e]; exact h2
  exact Shows.ofOwn h3

end Go.Proofs.Ytkkcjkelijlmbaa

namespace Go.Proofs.Ytkkcjkelijlmbaa

open Go.RowKit Go.Maps

set_option linter.unusedVariables false

/-! ### Plain facts -/

def oneL : List (List UInt8) := [[9]]

theorem one_cut : cut40 oneL = oneL := rfl

theorem one_root : rootD (lows oneL) = digest [0, 9] := root_of_one _

theorem six_root : rootD (lows sixL) = digest (1 :: ((digest (1 :: (digest [0, 1] ++ digest [0, 2] ++ digest [0, 3] ++ digest [0, 4]))) ++ digest (1 :: (digest [0, 5] ++ digest [0, 6])))) := by
  unfold rootD
  rw [six_lows, dep_six]
  simp [lvl, next, ups, four, lows, sixL, upIn, leafIn, List.range_succ]

theorem six_val : rootD (lows sixL) = [40, 140, 9, 45, 158, 164, 99, 248, 175, 184, 46, 244, 113, 180, 174, 130, 251, 105, 22, 18, 62, 249, 80, 72, 246, 148, 9, 126, 209, 7, 184, 109] := by
  refine six_root.trans ?_
  have e : digest (1 :: (digest (1 :: (digest [0, 1] ++ digest [0, 2] ++ digest [0, 3] ++ digest [0, 4])) ++ digest (1 :: (digest [0, 5] ++ digest [0, 6])))) = digest (1 :: ([230, 15, 143, 54, 52, 94, 206, 98, 164, 22, 199, 160, 194, 128, 239, 154, 237, 83, 204, 226, 126, 239, 97, 142, 209, 187, 152, 34, 126, 191, 149, 102] ++ [144, 238, 178, 196, 160, 78, 195, 62, 228, 221, 38, 119, 89, 51, 49, 145, 14, 66, 3, 219, 79, 204, 18, 10, 108, 219, 149, 177, 60, 254, 131, 240])) := congrArg (fun z => digest (1 :: z)) (congr (congrArg HAppend.hAppend dvu1) dvu2)
  exact e.trans dvr

theorem roots_ne : rootD (lows sixL) ≠ digest [0, 9] := fun h => by
  have h2 := (six_val.symm.trans h).trans dv9
  have h3 := congrArg List.head? h2
  simp at h3

theorem one_len : (lows oneL).length = 1 := by rw [lows_len]; rfl

theorem pf_one : pf (lows oneL) 0 = [] := by
  unfold pf
  rw [one_len, dep_one (by decide)]; rfl

theorem pf_six0 : pf (lows sixL) 0 = [four (lows sixL) 0, four (next (lows sixL)) 0] := by
  unfold pf
  rw [six_lows, dep_six]
  rfl

theorem pf_six0_len : (four (lows sixL) 0).length = 4 ∧ (four (next (lows sixL)) 0).length = 2 := by
  rw [four_len, four_len, next_len, six_lows]; exact ⟨rfl, rfl⟩

theorem one_fits9 : fits (rootD (lows oneL)) 1 0 [9] [] = true := by
  have := pf_back (xs := oneL) (i := 0) (by decide)
  rw [pf_one] at this
  exact this

theorem one_fits8 : fits (rootD (lows oneL)) 1 0 [8] [] = false := by
  have h : ¬ (climb (digest (leafIn [8])) 0 [] = some (digest [0, 9])) := fun e => dg98 (Option.some.inj (show some (digest [0, 8]) = some (digest [0, 9]) from e)).symm
  unfold fits
  rw [one_root, Bool.and_eq_false_iff]
  exact .inr (beq_eq_false_iff_ne.2 h)

theorem one_fitsr (d : Dg) : fits d 1 0 [9] [[d]] = false := fits_not rfl

theorem six_fits0 : fits (rootD (lows sixL)) 6 0 [1] (pf (lows sixL) 0) = true := pf_back (xs := sixL) (i := 0) (by decide)

theorem six_fits05 : fits (rootD (lows sixL)) 5 0 [1] (pf (lows sixL) 0) = true := by
  have h := six_fits0
  unfold fits at h ⊢
  simp only [Bool.and_eq_true] at h ⊢
  refine ⟨?_, h.2⟩
  rw [pf_six0]
  simp only [pwhole, pf_six0_len.1, pf_six0_len.2]
  decide

theorem six_fits04 : fits (rootD (lows sixL)) 4 0 [1] (pf (lows sixL) 0) = false := by
  apply fits_not
  rw [pf_six0]
  simp only [pwhole, pf_six0_len.1]
  decide

theorem six_top : digest (upIn (four (lvl (lows sixL) 1) 0)) = rootD (lows sixL) := by
  have h := next_get (lvl (lows sixL) 1) 0
  have h1 : (lvl (lows sixL) 1).length = 2 := by rw [lvl_len, six_lows]; rfl
  rw [h1, if_pos (by decide)] at h
  have h2 := root_one (low := lows sixL) (by rw [six_lows]; decide)
  rw [six_lows, dep_six] at h2
  have h3 : next (lvl (lows sixL) 1) = lvl (lows sixL) 2 := rfl
  rw [h3, show lvl (lows sixL) 2 = [rootD (lows sixL)] from h2] at h
  exact (Option.some.inj h).symm

/-! ### What is refused -/

section

variable {w : World} {M : Nat → Prop} {t g : Nat} {low : List Dg}

theorem build_range (h : TreeAt w M t g low) (i : Int) (hi : i < 0 ∨ (low.length : Int) ≤ i) :
    Calls Try.prog 8 #[.pointer (some ⟨t, 0, none⟩), .int .i64 i] w fun e w' => e = .returned (.tuple #[.slice none 0 0, .int .i64 9]) ∧ w' = w := by
  have hdp := tdepth_at h
  have hlv := tleaves_at h
  have hd1 := dep_pos low.length
  obtain ⟨d, hd⟩ : ∃ d, dep low.length = d := ⟨_, rfl⟩
  obtain ⟨n, hn⟩ : ∃ n, low.length = n := ⟨_, rfl⟩
  rw [hd] at hdp hd1
  rw [hn] at hlv hi
  have Hdp := Lib.hid hdp
  have Hlv := Lib.hid hlv
  have d0 : ((d : Int) == 0) = false := by simp; omega
  obtain ⟨hc, _⟩ : ((decide (i < 0) = true) ∨ (decide (i < 0) = false ∧ decide ((n : Int) ≤ i) = true)) ∧ True := ⟨by
    by_cases h0 : i < 0
    · exact .inl (by simp; omega)
    · exact .inr ⟨by simp; omega, by simp; omega⟩, trivial⟩
  clear h hdp hlv hi hd hn
  rcases hc with h1 | ⟨h1, h2⟩
  all_goals
    go_enter Try.func8, Try.ntmps8
    go_wp2_with (first
      | (go_at_call 18; refine Hdp.out.mono ?_; rintro e w ⟨rfl, rfl⟩)
      | (go_at_call 19; refine Hlv.out.mono ?_; rintro e w ⟨rfl, rfl⟩))
    go_ret2
    exact ⟨rfl, rfl⟩

theorem build_none (v : Value) (i : Value) (w : World) (h : NoTree w v) : Calls Try.prog 8 #[v, i] w fun e w' => e = .returned (.tuple #[.slice none 0 0, .int .i64 1]) ∧ w' = w := by
  have Hdp := Lib.hid (tdepth_none v w h)
  clear h
  go_enter Try.func8, Try.ntmps8
  go_wp2_with (go_at_call 18; refine Hdp.out.mono ?_; rintro e w ⟨rfl, rfl⟩)
  go_ret2
  exact ⟨rfl, rfl⟩

theorem parts_none (v i j : Value) (w : World) (h : NoTree w v) : Calls Try.prog 9 #[v, i, j] w fun e w' => e = .returned (.tuple #[.slice none 0 0, .int .i64 1]) ∧ w' = w := by
  have Hdp := Lib.hid (tdepth_none v w h)
  clear h
  go_enter Try.func9, Try.ntmps9
  go_wp2_with (go_at_call 18; refine Hdp.out.mono ?_; rintro e w ⟨rfl, rfl⟩)
  go_ret2
  exact ⟨rfl, rfl⟩

theorem parts_level (h : TreeAt w M t g low) (n : Int) (j : Value) (hn : n < 1 ∨ (dep low.length : Int) ≤ n) :
    Calls Try.prog 9 #[.pointer (some ⟨t, 0, none⟩), .int .i64 n, j] w fun e w' => e = .returned (.tuple #[.slice none 0 0, .int .i64 9]) ∧ w' = w := by
  have hdp := tdepth_at h
  have hd1 := dep_pos low.length
  obtain ⟨d, hd⟩ : ∃ d, dep low.length = d := ⟨_, rfl⟩
  rw [hd] at hdp hd1 hn
  have Hdp := Lib.hid hdp
  have d0 : ((d : Int) == 0) = false := by simp; omega
  obtain ⟨hc, _⟩ : ((decide (n < 1) = true) ∨ (decide (n < 1) = false ∧ decide ((d : Int) ≤ n) = true)) ∧ True := ⟨by
    by_cases h0 : n < 1
    · exact .inl (by simp; omega)
    · exact .inr ⟨by simp; omega, by simp; omega⟩, trivial⟩
  clear h hdp hn hd
  rcases hc with h1 | ⟨h1, h2⟩
  all_goals
    go_enter Try.func9, Try.ntmps9
    go_wp2_with (go_at_call 18; refine Hdp.out.mono ?_; rintro e w ⟨rfl, rfl⟩)
    go_ret2
    exact ⟨rfl, rfl⟩

set_option maxRecDepth 100000 in
set_option maxHeartbeats 1600000 in
theorem parts_place (h : TreeAt w M t g low) (n : Nat) (hn : n + 1 < dep low.length) (j : Int) (hj : j < 0 ∨ (wid low.length (n + 1) : Int) ≤ j) :
    Calls Try.prog 9 #[.pointer (some ⟨t, 0, none⟩), .int .i64 ((n + 1 : Nat) : Int), .int .i64 j] w fun e w' => e = .returned (.tuple #[.slice none 0 0, .int .i64 9]) ∧ Below w.heap.size w w' := by
  have hdp := tdepth_at h
  have hlv := tlevel_in h n (by omega)
  have hl := lvl_len low n
  have hm1 := wid_pos h.l1 n
  have hm2 : wid low.length n ≤ 1024 := Nat.le_trans (wid_le _ n h.l1) h.l2
  rw [wid] at hj
  have hd6 := dep_le h.l2
  generalize dep low.length = d at *
  generalize wid low.length n = m at *
  obtain ⟨ds, hds⟩ : ∃ ds, lvl low n = ds := ⟨_, rfl⟩
  rw [hds] at hlv hl
  have hab := fun w => pabove_any m w (by omega)
  obtain ⟨q, hq⟩ : ∃ q, (m + 3) / 4 = q := ⟨_, rfl⟩
  rw [hq] at hab hj
  have Hdp := Lib.hid hdp
  have Hlv := Lib.hid hlv
  have Hab := Lib.hid hab
  have Hh := Lib.hid (And.intro hl hm1)
  have b1 : ((n + 1 : Nat) : Int) - 1 = (n : Int) := by omega
  have b2 : ¬ (((n + 1 : Nat) : Int) < 1) := by omega
  have b3 : ¬ (((n + 1 : Nat) : Int) ≥ (d : Int)) := by omega
  have b4 : ((d : Int) == 0) = false := by simp; omega
  have b5 : ((n + 1 : Nat) : Int) ≤ 10 := by omega
  have b6 : (0 : Int) ≤ ((n + 1 : Nat) : Int) := by omega
  have b7 : ((n + 1 : Nat) : Int) < (d : Int) := by omega
  generalize ((n + 1 : Nat) : Int) = lv at *
  obtain ⟨hc, _⟩ : ((decide (j < 0) = true) ∨ (decide (j < 0) = false ∧ decide ((q : Int) ≤ j) = true)) ∧ True := ⟨by
    by_cases h0 : j < 0
    · exact .inl (by simp; omega)
    · exact .inr ⟨by simp; omega, by simp; omega⟩, trivial⟩
  clear h hdp hlv hl hab hj hq hds hd6 hn hm1
  rcases hc with h1 | ⟨h1, h2⟩
  all_goals
    go_enter Try.func9, Try.ntmps9
    go_wp2_with (go_at_call 18; refine Hdp.out.mono ?_; rintro e w ⟨rfl, rfl⟩)
    refine Hlv.out.mono ?_
    rintro e' w1 ⟨v, rfl, hN⟩
    obtain ⟨r, c, rfl, _, _, _, _, _, _⟩ := hN.form (by rintro rfl; have := Hh.out; simp at this; omega)
    rw [Hh.out.1]
    have Hb := Lib.hid hN.2
    clear hN Hlv
    go_wp2_with (go_at_call 21; refine (Hab.out _).mono ?_; rintro e w' ⟨rfl, rfl⟩)
    go_ret2
    exact ⟨rfl, Hb.out⟩

end

theorem check_none (v pf : Value) (root : Dg) (lv lf : Int) (w : World) (A : Option Addr) (n cp : Nat) (x : List UInt8) (hv : NoBook w v) (hB : Bs w A x) (hn : x.length = n) (hc : n ≤ cp) (hcm : cp ≤ maxLen) (hs : n ≤ 65535) (h1 : 1 ≤ lv) (h2 : lv ≤ 1024) (h3 : 0 ≤ lf) (h4 : lf < lv) :
    Calls Try.prog 10 #[v, .agg (cbs root).toArray, .int .i64 lv, .int .i64 lf, .slice A n cp, pf] w fun e w' => e = .returned (.int .i64 1) ∧ Below w.heap.size w w' := by
  have hbA : Below w.heap.size w (w.alloc (.cells (cbs root).toArray 30)) := (Below.refl _ _).alloc (Nat.le_refl _) _
  refine (check_leaf v pf root lv lf w A n cp 1 (by decide) (fun w1 => Below w.heap.size w w1) h1 h2 h3 h4 ((leaf_none v A n cp x _ (hv.below hbA) (hB.after hbA) hn hc hcm hs).mono ?_)).mono ?_
  · rintro e w1 ⟨rfl, hb⟩
    exact ⟨rfl, hbA.trans (hb.mono hbA.size)⟩
  · rintro e w' ⟨rfl, w1, hb1, hb⟩
    exact ⟨rfl, hb1.trans (hb.mono hb1.size)⟩

theorem fits_none (v : Value) (A : Option Addr) (m cp : Nat) (d : Dg) (ds : List Dg) (w : World) (hv : NoBook w v) (hD : Ds w A ds) (h32 : All32 ds) (hm : ds.length = m) (h1 : 1 ≤ m) (h4 : m ≤ 4) :
    Calls Try.prog 11 #[v, .agg (cbs d).toArray, .slice A m cp] w fun e w' => e = .returned (.int .i64 1) ∧ Below w.heap.size w w' := by
  have hbA : Below w.heap.size w (w.alloc (.cells (cbs d).toArray 30)) := (Below.refl _ _).alloc (Nat.le_refl _) _
  refine (fits_no v A m cp d 1 (by decide) (fun w1 => Below w.heap.size w w1) w ((up_none v A m cp ds _ (hv.below hbA) (hD.after hbA) h32 hm h1 h4).mono ?_)).mono ?_
  · rintro e w1 ⟨rfl, hb⟩
    exact ⟨rfl, hbA.trans (hb.mono hbA.size)⟩
  · rintro e w' ⟨rfl, w1, hb1, hb⟩
    exact ⟨rfl, hb1.trans (hb.mono hb1.size)⟩

theorem leaffits_none (v : Value) (d : Dg) (w : World) (hv : NoBook w v) : Calls Try.prog 12 #[v, .agg (cbs d).toArray, .slice none 0 0] w fun e w' => e = .returned (.int .i64 1) ∧ Below w.heap.size w w' := by
  have hbA : Below w.heap.size w (w.alloc (.cells (cbs d).toArray 30)) := (Below.refl _ _).alloc (Nat.le_refl _) _
  refine (leaffits_no v none 0 0 d 1 (by decide) (fun w1 => Below w.heap.size w w1) w ((leaf_none v none 0 0 [] _ (hv.below hbA) (Bs.nil _ none) rfl (Nat.le_refl _) (by decide) (by decide)).mono ?_)).mono ?_
  · rintro e w1 ⟨rfl, hb⟩
    exact ⟨rfl, hbA.trans (hb.mono hbA.size)⟩
  · rintro e w' ⟨rfl, w1, hb1, hb⟩
    exact ⟨rfl, hb1.trans (hb.mono hb1.size)⟩

/-! ### A book carried along, and what lies beside it -/

/-- The book in some state that is not full; the two roots, a proof, the children of a root. -/
structure PK (w0 : World) (g bm : Nat) (N : Nat → Prop) (bnd zr zs pb : Nat) (ps : List (List Dg)) (tr to_ : Nat) (ts : List Dg) (DR DS : List Value) (w : World) : Prop where
  ks : ∃ s, Kb w0.heap.size w g bm s N ∧ s.1.length ≤ bnd ∧ s.2.2 ≤ bnd
  bel : Below w0.heap.size w0 w
  r : Blk w zr 30 DR
  s : Blk w zs 30 DS
  p : PfAt w N (some ⟨pb, 0, none⟩) ps
  top : Ds w (some ⟨tr, to_, none⟩) ts
  nr : N zr
  ns : N zs
  nt : N tr

section

variable {w0 w w' : World} {g bm bnd zr zs pb tr to_ : Nat} {N : Nat → Prop} {ps : List (List Dg)} {ts : List Dg} {DR DS : List Value}

theorem PK.lt (h : PK w0 g bm N bnd zr zs pb ps tr to_ ts DR DS w) : ∀ i, N i → i < w.heap.size := fun i hi => by
  obtain ⟨s, hk, _⟩ := h.ks
  exact hk.lt hi

theorem PK.go (h : PK w0 g bm N bnd zr zs pb ps tr to_ ts DR DS w) {b' : Nat} {s' : Bk} (hk : Kb w0.heap.size w' g bm s' N) (h1 : s'.1.length ≤ b') (h2 : s'.2.2 ≤ b') (hb : Below w0.heap.size w0 w') (hz : w.heap.size ≤ w'.heap.size) (hN : ∀ i, N i → w'.heap[i]? = w.heap[i]?) : PK w0 g bm N b' zr zs pb ps tr to_ ts DR DS w' :=
  ⟨⟨s', hk, h1, h2⟩, hb, (hN _ h.nr).trans h.r, (hN _ h.ns).trans h.s, h.p.stays ⟨hz, hN⟩, h.top.block hz (hN _ h.nt), h.nr, h.ns, h.nt⟩

theorem PK.below (h : PK w0 g bm N bnd zr zs pb ps tr to_ ts DR DS w) (hb : Below w.heap.size w w') : PK w0 g bm N bnd zr zs pb ps tr to_ ts DR DS w' := by
  obtain ⟨s, hk, h1, h2⟩ := h.ks
  exact h.go (hk.below hb) h1 h2 (h.bel.trans (hb.mono h.bel.size)) hb.size fun i hi => hb.block i (hk.lt hi)

theorem PK.more {b' : Nat} (h : PK w0 g bm N bnd zr zs pb ps tr to_ ts DR DS w) (hb : bnd ≤ b') : PK w0 g bm N b' zr zs pb ps tr to_ ts DR DS w := by
  obtain ⟨s, hk, h1, h2⟩ := h.ks
  exact h.go hk (Nat.le_trans h1 hb) (Nat.le_trans h2 hb) h.bel (Nat.le_refl _) fun _ _ => rfl

theorem PK.out {N' : Nat → Prop} (h : PK w0 g bm N bnd zr zs pb ps tr to_ ts DR DS w) {b' : Nat} {s' : Bk} (hN : ∀ i, N i → N' i) (hk : Kb w0.heap.size w' g bm s' N') (h1 : s'.1.length ≤ b') (h2 : s'.2.2 ≤ b') {wA : World} (hA : Below w.heap.size w wA) (hO : Out (Tn w0.heap.size bm wA N') wA w') : PK w0 g bm N b' zr zs pb ps tr to_ ts DR DS w' :=
  (h.below hA).go (hk.less hN) h1 h2 ((h.below hA).bel.trans (hO.above (fun i hi => hi.1) (h.below hA).bel.size)) hO.size fun i hi => hO.block i ((h.below hA).lt i hi) (Tn.keep (hN i hi))

/-- Check, where the proof lies in what the book does not touch, or in what is new. -/
theorem PK.check (h : PK w0 g bm N bnd zr zs pb ps tr to_ ts DR DS w) (hb : bnd ≤ 900000) {wA : World} (hA : Below w.heap.size w wA) (root : Dg) (hr : root.length = 32) (m i : Nat) (h1 : 1 ≤ m) (h2 : m ≤ 1024) (hi : i < m) (Ax : Option Addr) (nx cx : Nat) (x : List UInt8) (hBx : Bs wA Ax x) (hnx : x.length = nx) (hcx : nx ≤ cx) (hcm : cx ≤ maxLen) (hx : nx ≤ 65535)
    (A : Option Addr) (n c : Nat) (qs : List (List Dg)) (hP : PfAt wA (fun j => N j ∨ (w.heap.size ≤ j ∧ j < wA.heap.size)) A qs) (hn : qs.length = n) (hnm : n ≤ maxLen) :
    Calls Try.prog 10 #[.pointer (some ⟨g, 0, none⟩), .agg (cbs root).toArray, .int .i64 (m : Int), .int .i64 (i : Int), .slice Ax nx cx, .slice A n c] wA fun e w' =>
      e = .returned (.int .i64 (if fits root m i x qs then 0 else 100)) ∧ PK w0 g bm N (bnd + 6) zr zs pb ps tr to_ ts DR DS w' := by
  obtain ⟨s, hk, k1, k2⟩ := h.ks
  have hkA : Kb w0.heap.size wA g bm s (fun j => N j ∨ (w.heap.size ≤ j ∧ j < wA.heap.size)) := hk.belowN hA fun i hi => hi
  refine (check_any w0.heap.size g bm s _ wA hkA (Nat.le_trans h.bel.size hA.size) (by omega) (by omega) root hr m i h1 h2 hi Ax nx cx x hBx hnx hcx hcm hx _ A n c qs hP hn hnm (fun j hj => ⟨by
    rcases hj with hj | hj
    · have := h.lt j hj; have := hA.size; omega
    · exact hj.2, .inr hj⟩)).mono ?_
  rintro e w' ⟨rfl, hK, hO⟩
  have h3 := noteAll_len s (chkIn m i x qs)
  have h4 := chkIn_len (many := m) (i := i) x qs h1 h2
  exact ⟨rfl, h.out (fun i hi => .inl hi) hK (by omega) (by omega) hA hO⟩

theorem PK.fits (h : PK w0 g bm N bnd zr zs pb ps tr to_ ts DR DS w) (hb : bnd ≤ 900000) (d : Dg) (hd : d.length = 32) (A : Option Addr) (n cp : Nat) (ds : List Dg) (hD : Ds w A ds) (h32 : All32 ds) (hn : ds.length = n) (h1 : 1 ≤ n) (h4 : n ≤ 4) :
    Calls Try.prog 11 #[.pointer (some ⟨g, 0, none⟩), .agg (cbs d).toArray, .slice A n cp] w fun e w' => e = .returned (.int .i64 (if digest (upIn ds) = d then 0 else 100)) ∧ PK w0 g bm N (bnd + 6) zr zs pb ps tr to_ ts DR DS w' := by
  obtain ⟨s, hk, k1, k2⟩ := h.ks
  refine (fits_kb w0.heap.size g bm s N A n cp d hd ds w hk h.bel.size (by omega) (by omega) hD h32 hn h1 h4).mono ?_
  rintro e w' ⟨rfl, hK, hO⟩
  have h3 := stepL_len s (upIn ds)
  exact ⟨rfl, h.out (fun i hi => hi) hK (by omega) (by omega) (Below.refl _ _) hO⟩

theorem PK.leaffits (h : PK w0 g bm N bnd zr zs pb ps tr to_ ts DR DS w) (hb : bnd ≤ 900000) (d : Dg) (hd : d.length = 32) (A : Option Addr) (n cp : Nat) (x : List UInt8) (hB : Bs w A x) (hn : x.length = n) (hc : n ≤ cp) (hcm : cp ≤ maxLen) (hs : n ≤ 65535) :
    Calls Try.prog 12 #[.pointer (some ⟨g, 0, none⟩), .agg (cbs d).toArray, .slice A n cp] w fun e w' => e = .returned (.int .i64 (if digest (leafIn x) = d then 0 else 100)) ∧ PK w0 g bm N (bnd + 6) zr zs pb ps tr to_ ts DR DS w' := by
  obtain ⟨s, hk, k1, k2⟩ := h.ks
  refine (leaffits_kb w0.heap.size g bm s N A n cp d hd x w hk h.bel.size (by omega) (by omega) hB hn hc hcm hs).mono ?_
  rintro e w' ⟨rfl, hK, hO⟩
  have h3 := stepL_len s (leafIn x)
  exact ⟨rfl, h.out (fun i hi => hi) hK (by omega) (by omega) (Below.refl _ _) hO⟩

end

/-- One leaf in rows just made. -/
theorem one_lvs (w : World) : LvsAt ((w.alloc (.cells #[.int .u8 9] 5)).alloc (.cells #[.slice (some ⟨w.heap.size, 0, none⟩) 1 1] 28)) (fun j => w.heap.size ≤ j ∧ j < ((w.alloc (.cells #[.int .u8 9] 5)).alloc (.cells #[.slice (some ⟨w.heap.size, 0, none⟩) 1 1] 28)).heap.size) (some ⟨w.heap.size + 1, 0, none⟩) oneL := by
  have hr : ((w.alloc (.cells #[.int .u8 9] 5)).alloc (.cells #[.slice (some ⟨w.heap.size, 0, none⟩) 1 1] 28)).heap[w.heap.size + 1]? = some (.cells #[.slice (some ⟨w.heap.size, 0, none⟩) 1 1] 28 (0, 0)) := by
    have := heap_alloc_new (w.alloc (.cells #[.int .u8 9] 5)) (.cells #[.slice (some ⟨w.heap.size, 0, none⟩) 1 1] 28)
    rwa [World.size_alloc] at this
  refine ⟨w.heap.size + 1, 0, rfl, ⟨by omega, by simp⟩, fun j hj => ?_⟩
  obtain rfl : j = 0 := by simpa [oneL] using hj
  refine ⟨some ⟨w.heap.size, 0, none⟩, 1, ?_, Nat.le_refl _, by decide, bs_at w _ _ rfl 9 _ rfl 5 ((Below.refl _ _).alloc (by simp) _), fun a e _ => by injection e with e; subst e; exact ⟨by simp, by simp; omega⟩⟩
  rw [cell_of_row _ _ 0 _ _ (0, 0) hr]; rfl

end Go.Proofs.Ytkkcjkelijlmbaa
