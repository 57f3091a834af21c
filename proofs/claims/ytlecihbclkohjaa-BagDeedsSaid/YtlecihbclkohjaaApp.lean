/-
  Append and copies of bytes, over this seat's translation: the law of append for slices of bytes, CopyBytes, Clone.
-/
import Derived.Test.YtlecihbclkohjaaEq

namespace Go.Proofs.Ytlecihbclkohjaa

open Go.RowKit

set_option linter.unusedVariables false

theorem u8_info : (Try.prog.info? 5).map (fun i => (i.zero, i.size, i.bytes)) = some (some (.int .u8 0), 1, 1) := by kernel_rfl

theorem run_append_empty {P : Program} (w : World) (base : Nat) (t ty e : TypeId) (i : TypeInfo) (ht : P.underlying t = some (.slice e)) (hi : P.info? e = some i)
    (v : Value) (n : Nat) (xs : List Value) (size : Nat) (hown : w.ownsRow base e size v n xs) (c : Nat) : (Builtin.append_ #[t, t] ty #[v, .slice none 0 c]).run P w = .ok v w := by
  obtain ⟨_, h | ⟨g, cap, cur, h, _, _, hnc, _⟩⟩ := hown
  · obtain ⟨rfl, rfl⟩ := h
    simp [Builtin.append_, run_underlying ht, sizeOf, typeInfo, hi, Builtin.lenOf, Builtin.firstCells]
  · subst h
    simp [Builtin.append_, run_underlying ht, sizeOf, typeInfo, hi, Builtin.lenOf, Builtin.firstCells, hnc, storeCells]

set_option maxRecDepth 100000 in
/-- append(v, x...) for bytes: 'v' in a row of the call's own, 'x' whatever slice shows the bytes 'm'. -/
theorem run_appendB (w : World) (base : Nat) (v : Value) (l : List UInt8) (hown : Mine w base 5 v l) (A : Option Addr) (c k : Nat) (m : List UInt8) (hr : Bs w A m) (hk : m.length = k)
    (h47 : l.length + k ≤ 140737488355328) (hbase : base ≤ w.heap.size) (ty : TypeId) :
    ∃ v' w', (Builtin.append_ #[27, 27] ty #[v, .slice A k c]).run Try.prog w = .ok v' w' ∧ Mine w' base 5 v' (l ++ m) ∧ w.grownBy w' v.ownBlock ∧
      (v'.ownBlock = v.ownBlock ∨ v'.ownBlock = some w.heap.size) := by
  subst hk
  obtain ⟨i0, hi, hz0, hz1, hz2⟩ := info_parts u8_info
  cases A with
  | none =>
    have hm : m = [] := by
      cases m with
      | nil => rfl
      | cons x t => obtain ⟨b, off, e, _⟩ := hr.at_ (i := 0) (by simp); cases e
    subst hm
    exact ⟨v, w, run_append_empty w base _ ty _ i0 Try.underlying27 hi v _ _ 1 hown c, by simpa using hown, World.grownBy.refl w _, .inl rfl⟩
  | some ad =>
    have hcells : ∀ j u, (cbs m)[j]? = some u → w.cell? (ad.add j) = some u := by
      intro j u hu
      have hj : j < m.length := by
        rcases Nat.lt_or_ge j m.length with h | h
        · exact h
        · rw [List.getElem?_eq_none (by rw [cbs_length]; exact h)] at hu; cases hu
      obtain ⟨b, off, e, _, hc⟩ := hr.2 (by omega)
      injection e with e
      subst e
      rw [add_mk]
      exact hc j u hu
    obtain ⟨v', w', h1, h2, h3, _, h5⟩ := run_append_own_at (P := Try.prog) w base 27 ty 5 i0 (.int .u8 0) 1 1 Try.underlying27 hi hz0 hz1 hz2 rfl (by decide) v l.length (cbs l) hown ad m.length c (cbs m)
      (by rw [cbs_length]; simp) hcells (cbs_one m) (by simp only [maxLen]; omega) (by omega) hbase
    exact ⟨v', w', h1, by unfold Mine; rw [List.length_append, cbs_append]; exact h2, h3, h5⟩

theorem wp_appendB {w : World} {ops : Array Oper} {rest : List Oper} {o : Oper} {a : Act} {Q : Exit → Act → World → Prop} (hgd : o.guard = none) (s x : Operand)
    (ho : o.op = .call { callee := .builtin .append, args := #[s, x], argTypes := #[27, 27] })
    (base : Nat) (v : Value) (l : List UInt8) (hs : a.eval s = v) (hown : Mine w base 5 v l) (A : Option Addr) (c k : Nat) (m : List UInt8) (hx : a.eval x = .slice A k c) (hr : Bs w A m) (hk : m.length = k)
    (h47 : l.length + k ≤ 140737488355328) (hbase : base ≤ w.heap.size)
    (h : ∀ v' w', Mine w' base 5 v' (l ++ m) → w.grownBy w' v.ownBlock → (v'.ownBlock = v.ownBlock ∨ v'.ownBlock = some w.heap.size) → wpList Try.prog ops Q rest (a.put o.dst v') w') :
    wpList Try.prog ops Q (o :: rest) a w := by
  obtain ⟨v', w', hrun, h2, h3, h4⟩ := run_appendB w base v l hown A c k m hr hk h47 hbase o.type
  refine wpList_plain hgd fun K hK => ?_
  unfold Oper.wp execOp
  simp only [ho, resolve, invoke, builtin, Sem.run_bind, Sem.run_pure, Result.andThen_ok, List.map_toArray, List.map_cons, List.map_nil, hs, hx, hrun]
  exact hK _ _ (h v' w' h2 h3 h4)

/-- A new slice that shows 'l', in a row made since the world 'w'. -/
def NewB (w : World) (l : List UInt8) (v : Value) (w' : World) : Prop := Mine w' w.heap.size 5 v l ∧ Below w.heap.size w w'

def RetB (w : World) (l : List UInt8) (e : Ending) (w' : World) : Prop := ∃ v, e = .returned v ∧ NewB w l v w'

theorem NewB.ofDrew {w w' : World} {l : List UInt8} {v : Value} (h : NewB w.drew l v w') : NewB w l v w' := ⟨h.1, ((Below.refl _ _).drew).trans h.2⟩

theorem NewB.nil (w : World) : NewB w [] (.slice none 0 0) w := ⟨World.ownsRow_nil _ _ _ _, Below.refl _ _⟩

theorem NewB.form {w w' : World} {l : List UInt8} {v : Value} (h : NewB w l v w') : ∃ A c, v = .slice A l.length c ∧ l.length ≤ c ∧ c ≤ maxLen ∧ Bs w' A l := Mine.form h.1

theorem NewB.later {w w1 w' : World} {l : List UInt8} {v : Value} (hb : Below w.heap.size w w1) (h : NewB w1 l v w') : NewB w l v w' :=
  ⟨by
    obtain ⟨h1, h2 | ⟨g, cap, cur, h3, h4, h5⟩⟩ := h.1
    · exact ⟨h1, .inl h2⟩
    · exact ⟨h1, .inr ⟨g, cap, cur, h3, Nat.le_trans hb.size h4, h5⟩⟩, hb.trans (h.2.mono hb.size)⟩

set_option maxHeartbeats 400000 in
theorem copyBytes (A : Option Addr) (c n : Nat) (xs : List UInt8) (w : World) (hA : Bs w A xs) (hn : xs.length = n) (hl : n ≤ 140737488355328) :
    Calls Try.prog 44 #[.slice A n c] w (RetB w xs) := by
  have Hn := Lib.hid hn
  clear hn
  go_enter Try.func44, Try.ntmps44
  go_wp2_with (at_builtin; refine wp_appendB rfl _ _ rfl w.heap.size (.slice none 0 0) [] rfl (World.ownsRow_nil _ _ _ _) A c n xs rfl hA Hn.out (by simpa using hl) (Nat.le_refl _) ?_; intro v1 w1 hm1 hg1 ho1)
  go_ret
  exact ⟨v1, rfl, by simpa using hm1, (Below.refl _ _).grown hg1 (Nat.le_refl _) (by simp [Value.ownBlock])⟩

end Go.Proofs.Ytlecihbclkohjaa
