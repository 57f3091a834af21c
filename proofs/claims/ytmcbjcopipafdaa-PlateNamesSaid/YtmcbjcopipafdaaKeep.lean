/-
  Lists of what stays: append of bools, slices.Clone; Fail, Crash, Boot, Waits, Flush of a plate, over the code.
-/
import Derived.Test.YtmcbjcopipafdaaPower
namespace Go.Proofs.Ytmcbjcopipafdaa
open Go.RowKit Go.Maps
set_option linter.unusedVariables false

theorem bool_info : (Try.prog.info? 4).map (fun i => (i.zero, i.size, i.bytes)) = some (some (.bool false), 1, 1) := by kernel_rfl
theorem cbls_one (l : List Bool) : ∀ u ∈ cbls l, u.oneCell' = true := by
  intro u hu; simp [cbls] at hu; rcases hu with ⟨_, rfl⟩ | ⟨_, rfl⟩ <;> rfl
/-- Bools in a row of the call's own. -/
def NewK (w : World) (l : List Bool) (v : Value) (w' : World) : Prop := w'.ownsRow w.heap.size 4 1 v l.length (cbls l) ∧ Below w.heap.size w w'
section
variable {w w' w1 : World} {M : Nat → Prop} {v : Value} {l : List Bool}
theorem NewK.off (h : NewK w l v w') (hM : ∀ i, M i → i < w.heap.size) : KOff w' M v l := by
  obtain ⟨⟨h1, h2⟩, hb⟩ := h
  have hh := h2
  rcases h2 with ⟨rfl, hx⟩ | ⟨g, cap, cur, rfl, hg, hc, q1, q2, q3, q4⟩
  · have : l = [] := List.eq_nil_of_length_eq_zero hx
    subst this
    exact KOff.nil _ _
  · refine ⟨_, cap, rfl, q1, q2, fun hl => ⟨g, 0, rfl, ?_, fun hm => ?_, fun j u hu => ?_⟩⟩
    · rcases Nat.lt_or_ge g w'.heap.size with h | h
      · exact h
      · rw [Array.getElem?_eq_none h] at hc; cases hc
    · have := hM g hm; omega
    · have := World.ownsRow.cells (w := w') ⟨h1, hh⟩ (g := g) rfl j u hu
      rwa [add_mk] at this

theorem KOff.cells {v0 : Option Addr} {n c : Nat} (h : KOff w M (.slice v0 n c) l) (j : Nat) (u : Value) (hu : (cbls l)[j]? = some u) {ad : Addr} (e : v0 = some ad) : w.cell? (ad.add j) = some u := by
  obtain ⟨A, c', e0, h1, h2, h3⟩ := h
  injection e0 with e1 e2 e3
  have hl : 0 < l.length := by
    rcases Nat.lt_or_ge j (cbls l).length with h | h
    · rw [cbls_length] at h; omega
    · rw [List.getElem?_eq_none h] at hu; cases hu
  obtain ⟨b, off, eA, _, _, hc⟩ := h3 hl
  rw [e, eA] at e1
  injection e1 with e1
  subst e1
  rw [add_mk]
  exact hc j u hu

set_option maxRecDepth 100000 in
/-- append(s, x...) of bools, s an own row with none. -/
theorem run_appendK (w : World) (base : Nat) (s : Value) (hs : w.ownsRow base 4 1 s 0 []) (A : Option Addr) (c n : Nat) (hn : l.length = n) (hr : KOff w M (.slice A n c) l) (h47 : n ≤ 140737488355328) (hbase : base ≤ w.heap.size) (ty : TypeId) :
    ∃ v' w', (Builtin.append_ #[38, 38] ty #[s, .slice A n c]).run Try.prog w = .ok v' w' ∧ w'.ownsRow base 4 1 v' l.length (cbls l) ∧ w.grownBy w' s.ownBlock := by
  subst hn
  obtain ⟨i0, hi, hz0, hz1, hz2⟩ := info_parts bool_info
  cases A with
  | none =>
    have hl : l = [] := by
      cases l with
      | nil => rfl
      | cons x t => obtain ⟨_, _, e0, _, _, h3⟩ := hr; injection e0 with e1; obtain ⟨b, off, e, _⟩ := h3 (by simp); rw [← e1] at e; cases e
    subst hl
    refine ⟨s, w, ?_, hs, World.grownBy.refl w _⟩
    obtain ⟨_, h | ⟨g, cap, cur, h, _, _, hnc, _⟩⟩ := hs
    · obtain ⟨rfl, _⟩ := h
      simp [Builtin.append_, run_underlying Try.underlying38, sizeOf, typeInfo, hi, Builtin.lenOf, Builtin.firstCells]
    · subst h
      simp [Builtin.append_, run_underlying Try.underlying38, sizeOf, typeInfo, hi, Builtin.lenOf, Builtin.firstCells, hnc, storeCells]
  | some ad =>
    obtain ⟨v', w', h1, h2, h3, _, h5⟩ := run_append_own_at (P := Try.prog) w base 38 ty 4 i0 (.bool false) 1 1 Try.underlying38 hi hz0 hz1 hz2 rfl (by decide) s 0 [] hs ad l.length c (cbls l)
      (by rw [cbls_length]; simp) (fun j u hu => hr.cells j u hu rfl) (cbls_one l) (by simp only [maxLen]; omega) (by omega) hbase
    exact ⟨v', w', h1, by simpa using h2, h3⟩

theorem wp_appendK {w : World} {ops : Array Oper} {rest : List Oper} {o : Oper} {a : Act} {Q : Exit → Act → World → Prop} (hgd : o.guard = none) (s x : Operand)
    (ho : o.op = .call { callee := .builtin .append, args := #[s, x], argTypes := #[38, 38] })
    (base : Nat) (sv : Value) (hs : a.eval s = sv) (hown : w.ownsRow base 4 1 sv 0 []) (A : Option Addr) (c n : Nat) (hx : a.eval x = .slice A n c) (hn : l.length = n) (hr : KOff w M (.slice A n c) l) (h47 : n ≤ 140737488355328) (hbase : base ≤ w.heap.size)
    (h : ∀ v' w', w'.ownsRow base 4 1 v' l.length (cbls l) → w.grownBy w' sv.ownBlock → wpList Try.prog ops Q rest (a.put o.dst v') w') : wpList Try.prog ops Q (o :: rest) a w := by
  obtain ⟨v', w', hrun, h2, h3⟩ := run_appendK w base sv hown A c n hn hr h47 hbase o.type
  refine wpList_plain hgd fun K hK => ?_
  unfold Oper.wp execOp
  simp only [ho, resolve, invoke, builtin, Sem.run_bind, Sem.run_pure, Result.andThen_ok, List.map_toArray, List.map_cons, List.map_nil, hs, hx, hrun]
  exact hK _ _ (h v' w' h2 h3)

set_option maxHeartbeats 400000 in
theorem cloneK_any (A : Option Addr) (n c : Nat) (hr : KOff w M (.slice A n c) l) (hn : l.length = n) (h47 : n ≤ 140737488355328) :
    Calls Try.prog 24 #[.slice A n c] w fun e w' => ∃ v, e = .returned v ∧ NewK w l v w' := by
  have H := Lib.hid (And.intro hr hn)
  cases A with
  | none =>
    have hl : l = [] := by
      cases l with
      | nil => rfl
      | cons x t => obtain ⟨_, _, e0, _, _, h3⟩ := hr; injection e0 with e1; obtain ⟨b, off, e, _⟩ := h3 (by simp); rw [← e1] at e; cases e
    subst hl
    clear hr hn
    have hq := fun (w : World) => Lib.run_eql_slice_nil (P := Try.prog) w 38 4 none n c 0 0 Try.underlying38
    go_enter Try.func24, Try.ntmps24
    go_wp2
    go_ret
    exact ⟨_, rfl, World.ownsRow_nil _ _ _ _, Below.refl _ _⟩
  | some ad =>
    clear hr hn
    have hq := fun (w : World) => Lib.run_eql_slice_nil (P := Try.prog) w 38 4 (some ad) n c 0 0 Try.underlying38
    go_enter Try.func24, Try.ntmps24
    go_wp2_with (at_builtin; refine wp_appendK rfl _ _ rfl w.heap.size (.slice (some ⟨w.heap.size, 0, none⟩) 0 0) rfl (by exact World.ownsRow_made w #[] 0 (Nat.le_refl _) (by simp [maxLen]) rfl) (some ad) c n rfl H.out.2 (by exact H.out.1.below ((Below.refl _ _).alloc (Nat.le_refl _) _)) (by simpa using h47) (by simp) ?_; intro v1 w1 hm1 hg1)
    go_ret
    refine ⟨v1, rfl, by simpa using hm1, ((Below.refl _ _).alloc (Nat.le_refl _) _).grown hg1 (by simp) ?_⟩
    intro k hk
    simp [Value.ownBlock] at hk
    omega
theorem run_frontK (A : Option Addr) (n c u : Nat) (h : u ≤ c) (w : World) :
    (Instr.sliceAt 38 (.slice A n c) none (some (.int .i64 (u : Int))) none).run Try.prog w = .ok (.slice A u c) w := by
  have h1 : (u : Int) ≤ c := by omega
  go_simp
theorem KOff.front {A : Option Addr} {n c : Nat} (h : KOff w M (.slice A n c) l) (hn : l.length = n) {u : Nat} (hu : u ≤ n) : KOff w M (.slice A u c) (l.take u) := by
  obtain ⟨A', c', e, h1, h2, h3⟩ := h
  injection e with e1 e2 e3
  subst e1; subst e3
  have hl : (l.take u).length = u := by rw [List.length_take]; omega
  refine ⟨A, c, by rw [hl], by omega, h2, fun hp => ?_⟩
  obtain ⟨b, off, eA, hb, hM, hc⟩ := h3 (by omega)
  refine ⟨b, off, eA, hb, hM, fun j v hv => hc j v ?_⟩
  rw [cbls_get, List.getElem?_take] at hv
  split at hv
  · rw [cbls_get]; exact hv
  · cases hv
end
end Go.Proofs.Ytmcbjcopipafdaa
