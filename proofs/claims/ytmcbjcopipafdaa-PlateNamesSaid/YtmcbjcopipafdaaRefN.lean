/-
  New of the document's plate, over the document's text.
-/
import Derived.Test.YtmcbjcopipafdaaRefE
import Derived.Test.YtmcbjcopipafdaaAnyOrder
import Derived.Maps.AppendAt
namespace Go.Proofs.Ytmcbjcopipafdaa
open Go.RowKit Go.Maps
set_option linter.unusedVariables false

theorem sl_info : (Try.prog.info? 23).map (fun i => (i.zero, i.size, i.bytes)) = some (some (.slice none 0 0), 1, 24) := by kernel_rfl
def rcells0 (v0 v1 : Value) (rw n : Nat) : List Value := [v0, v1, .slice (some ⟨rw, 0, none⟩) n n, .bool false, .bool false, .int .i64 0, .slice none 0 0]
/-- A row of so many sectors of noughts, each of its own. -/
def Zrow (w : World) (B : Nat) (v : Value) (j : Nat) : Prop := ∃ cs, w.ownsRow B 23 1 v j cs ∧ ∀ i, i < j → ∃ b, cs[i]? = some (.slice (some ⟨b, 0, none⟩) 64 64) ∧ B ≤ b ∧ Blk w b 5 (cbs (List.replicate 64 0))
/-- A plate that is being made. -/
structure NewPt (w0 w : World) (g rw n : Nat) (v0 v1 : Value) (j0 j1 : Nat) : Prop where
  blk : Blk w g 67 (rcells0 v0 v1 rw n)
  row0 : Zrow w w0.heap.size v0 j0
  row1 : Zrow w w0.heap.size v1 j1
  wt : RowW w rw (List.replicate n false)
  ne : ∀ b, v0.ownBlock = some b → v1.ownBlock = some b → False
  bel : Below w0.heap.size w0 w
  hg : w0.heap.size ≤ g
  hrw : w0.heap.size ≤ rw
theorem Zrow.below {w w' : World} {B : Nat} {v : Value} {j : Nat} (h : Zrow w B v j) (hb : Below w.heap.size w w') : Zrow w' B v j := by
  obtain ⟨cs, k1, k2⟩ := h
  exact ⟨cs, row_kept k1 fun b _ hlt => hb.block b hlt, fun i hi => let ⟨b, q1, q2, q3⟩ := k2 i hi; ⟨b, q1, q2, q3.below hb q3.lt⟩⟩
theorem Zrow.form {w : World} {B : Nat} {v : Value} {j : Nat} (h : Zrow w B v j) : ∃ A n c, v = .slice A n c := by
  obtain ⟨cs, ⟨_, ⟨rfl, _⟩ | ⟨g, cap, cur, rfl, _⟩⟩, _⟩ := h
  · exact ⟨_, _, _, rfl⟩
  · exact ⟨_, _, _, rfl⟩
theorem NewPt.below {w0 w w' : World} {g rw n j0 j1 : Nat} {v0 v1 : Value} (h : NewPt w0 w g rw n v0 v1 j0 j1) (hb : Below w.heap.size w w') : NewPt w0 w' g rw n v0 v1 j0 j1 := by
  refine ⟨h.blk.below hb h.blk.lt, h.row0.below hb, h.row1.below hb, ?_, h.ne, h.bel.trans (hb.mono h.bel.size), h.hg, h.hrw⟩
  have hl := h.wt.lt
  obtain ⟨cur, q1, q2⟩ := h.wt
  exact ⟨cur, (hb.block rw hl).trans q1, q2⟩

section
variable {ops : Array Oper} {Q : Exit → Act → World → Prop}
theorem op_appendS {i d : Nat} {oi : Oper} {a : Act} {w : World} {K : Act → World → Prop} (hi : ops[i]? = some oi) (hd : oi.dst = some d) (hgd : oi.guard = none) (s x : Operand)
    (ho : oi.op = .call { callee := .builtin .append, args := #[s, x], argTypes := #[65, 65] }) (v xs v' : Value) (w' : World) (hs : a.eval s = v) (hx : a.eval x = xs)
    (hrun : (Builtin.append_ #[65, 65] oi.type #[v, xs]).run Try.prog w = .ok v' w') (h : K { a with tmps := a.tmps.setIfInBounds d v' } w') : wpOp Try.prog ops Q i K a w := by
  refine wpOp_step hi (fun K' hK => ?_)
  have hw : Region.wanted oi (yielded ops a.tmps) = true := by simp [Region.wanted, hgd]
  rw [if_pos hw]
  unfold Oper.wp execOp
  simp only [ho, resolve, invoke, builtin, Sem.run_bind, Sem.run_pure, Result.andThen_ok, List.map_toArray, List.map_cons, List.map_nil, hs, hx, hrun]
  exact hK _ _ (by unfold Act.put; rw [hd]; exact h)
end

set_option maxRecDepth 100000 in
theorem zput0 {w0 W : World} {g rw n j0 j1 : Nat} {v0 v1 : Value} (h : NewPt w0 W g rw n v0 v1 j0 j1) (hj : j0 < 5000) {Z : Array Value} (hZ : (cbs (List.replicate 64 0)).toArray = Z) :
    ∃ v' w3, (∃ A n c, v' = .slice A n c) ∧ (W.cell? ⟨g, 0, none⟩ = some v0 ∧ (W.alloc (.cells Z 5)).cell? ⟨g, 0, none⟩ = some v0 ∧ ((W.alloc (.cells Z 5)).alloc (.cells #[.slice (some ⟨W.heap.size, 0, none⟩) 64 64] 23)).cell? ⟨g, 0, none⟩ = some v0) ∧
      ((Builtin.append_ #[65, 65] 65 #[v0, .slice (some ⟨(W.alloc (.cells Z 5)).heap.size, 0, none⟩) 1 1]).run Try.prog ((W.alloc (.cells Z 5)).alloc (.cells #[.slice (some ⟨W.heap.size, 0, none⟩) 64 64] 23)) = .ok v' w3) ∧
      w3.cell? ⟨g, 0, none⟩ = some v0 ∧ w3.frozen? ⟨g, 0, none⟩ = false ∧ NewPt w0 (w3.setCell ⟨g, 0, none⟩ v') g rw n v' v1 (j0 + 1) j1 := by
  obtain ⟨cs, k1, k2⟩ := h.row0
  have b1 : Below W.heap.size W (W.alloc (.cells Z 5)) := (Below.refl _ _).alloc (Nat.le_refl _) _
  have b2 : Below W.heap.size W ((W.alloc (.cells Z 5)).alloc (.cells #[.slice (some ⟨W.heap.size, 0, none⟩) 64 64] 23)) := b1.alloc b1.size _
  have hN1 : Blk (W.alloc (.cells Z 5)) W.heap.size 5 (cbs (List.replicate 64 0)) := Blk.new hZ rfl
  have hN2 := hN1.old (.cells #[.slice (some ⟨W.heap.size, 0, none⟩) 64 64] 23)
  have bound : ∀ (b : Nat) (c : Obj), W.heap[b]? = some c → b < W.heap.size := fun b c hc => by
    rcases Nat.lt_or_ge b W.heap.size with h | h
    · exact h
    · rw [Array.getElem?_eq_none h] at hc; cases hc
  obtain ⟨w2, hw2⟩ : ∃ w2, (W.alloc (.cells Z 5)).alloc (.cells #[.slice (some ⟨W.heap.size, 0, none⟩) 64 64] 23) = w2 := ⟨_, rfl⟩
  have hS2 : Blk w2 (W.alloc (.cells Z 5)).heap.size 23 [.slice (some ⟨W.heap.size, 0, none⟩) 64 64] := by rw [← hw2]; exact Blk.new rfl rfl
  have z2 : w2.heap.size = W.heap.size + 2 := by rw [← hw2]; simp
  rw [hw2] at b2 hN2 ⊢
  have hown : w2.ownsRow w0.heap.size 23 1 v0 j0 cs := row_kept k1 fun b _ hlt => b2.block b hlt
  obtain ⟨i0, hi, hz0, hz1, hz2⟩ := info_parts sl_info
  obtain ⟨v', w3, h1, h2, h3, _, h5⟩ := run_append_own_at (P := Try.prog) w2 w0.heap.size 65 65 23 i0 _ 1 24 Try.underlying65 hi hz0 hz1 hz2 rfl (by decide) v0 j0 cs hown ⟨(W.alloc (.cells Z 5)).heap.size, 0, none⟩ 1 1 [.slice (some ⟨W.heap.size, 0, none⟩) 64 64]
    rfl (fun j u hu => by rw [add_mk, Nat.zero_add]; exact hS2.cell hu) (fun u hu => by simp at hu; subst hu; rfl) (by simp only [maxLen]; omega) (by omega) (Nat.le_trans h.bel.size (by omega))
  have hform : ∃ A n c, v' = .slice A n c := by
    obtain ⟨_, ⟨rfl, _⟩ | ⟨gg, cap, cur, rfl, _⟩⟩ := h2
    · exact ⟨_, _, _, rfl⟩
    · exact ⟨_, _, _, rfl⟩
  have hvT : ∀ b, v0.ownBlock = some b → ∃ c, W.heap[b]? = some (.cells c 23 (0, 0)) := fun b hb => by
    obtain ⟨_, ⟨e, _⟩ | ⟨gg, cap, cur, e, _, hc, _⟩⟩ := k1
    · rw [e] at hb; simp [Value.ownBlock] at hb
    · rw [e] at hb; simp [Value.ownBlock] at hb; subst hb; exact ⟨_, hc⟩
  have same : ∀ (i : Nat), i < W.heap.size → v0.ownBlock ≠ some i → w3.heap[i]? = W.heap[i]? := fun i hi hne => (h3.block i (by omega) fun e => hne e.symm).trans (b2.block i hi)
  have sameT : ∀ (i : Nat) (c : Array Value) (t : TypeId), W.heap[i]? = some (.cells c t (0, 0)) → t ≠ 23 → w3.heap[i]? = W.heap[i]? := fun i c t hc ht => same i (bound i _ hc) fun e => by
    obtain ⟨c', hc'⟩ := hvT i e
    rw [hc] at hc'
    injection hc' with hc'
    injection hc' with _ hc'
    exact ht hc'
  have hg3 : Blk w3 g 67 (rcells0 v0 v1 rw n) := (sameT g _ _ h.blk (by decide)).trans h.blk
  have hgW := h.blk.lt
  have set4 : ∀ i, i ≠ g → (w3.setCell ⟨g, 0, none⟩ v').heap[i]? = w3.heap[i]? := fun i hi => Below.heap_setCell w3 ⟨g, 0, none⟩ v' i hi
  have notg : ∀ (i : Nat) (c : Array Value) (t : TypeId), w3.heap[i]? = some (.cells c t (0, 0)) → t ≠ 67 → i ≠ g := fun i c t hc ht e => by
    subst e
    unfold Blk at hg3
    rw [hg3] at hc
    injection hc with hc
    injection hc with _ hc
    exact ht hc.symm
  have keepB : ∀ (b : Nat), Blk W b 5 (cbs (List.replicate 64 0)) → Blk (w3.setCell ⟨g, 0, none⟩ v') b 5 (cbs (List.replicate 64 0)) := fun b hb => by
    have e3 := sameT b _ _ hb (by decide)
    exact ((set4 b (notg b _ _ (e3.trans hb) (by decide))).trans e3).trans hb
  have keepR : ∀ {v : Value} {j : Nat} {xs : List Value} {w' : World}, w'.ownsRow w0.heap.size 23 1 v j xs → (∀ b c, v.ownBlock = some b → w'.heap[b]? = some (.cells c 23 (0, 0)) → w3.heap[b]? = w'.heap[b]?) → (w3.setCell ⟨g, 0, none⟩ v').ownsRow w0.heap.size 23 1 v j xs := by
    intro v j xs w' hr hk
    obtain ⟨q1, q2 | ⟨gg, cap, cur, rfl, hb, hg, q3⟩⟩ := hr
    · exact ⟨q1, .inl q2⟩
    · have e3 := hk gg cur rfl hg
      exact ⟨q1, .inr ⟨gg, cap, cur, rfl, hb, ((set4 gg (notg gg _ _ (e3.trans hg) (by decide))).trans e3).trans hg, q3⟩⟩
  have hcl : cs.length = j0 := by have := k1.1; omega
  refine ⟨v', w3, hform, ⟨h.blk.cell rfl, (h.blk.below b1 hgW).cell rfl, (h.blk.below b2 hgW).cell rfl⟩, h1, hg3.cell rfl, hg3.free 0, ⟨hg3.set_ 0 v', ?_, ?_, ?_, ?_, ?_, h.hg, h.hrw⟩⟩
  · refine ⟨cs ++ [.slice (some ⟨W.heap.size, 0, none⟩) 64 64], keepR h2 fun _ _ _ _ => rfl, fun i hi => ?_⟩
    by_cases hlt : i < j0
    · obtain ⟨b, q1, q2, q3⟩ := k2 i hlt
      exact ⟨b, by rw [List.getElem?_append_left (by omega)]; exact q1, q2, keepB b q3⟩
    · have : i = j0 := by omega
      subst this
      refine ⟨W.heap.size, by rw [List.getElem?_append_right (by omega), hcl, Nat.sub_self]; rfl, h.bel.size, ?_⟩
      have e3 : w3.heap[W.heap.size]? = w2.heap[W.heap.size]? := h3.block _ (by omega) fun e => by
        have := (World.ownsRow.lt k1 _ e.symm).2
        omega
      exact ((set4 _ (by omega)).trans e3).trans hN2
  · obtain ⟨cs1, k3, k4⟩ := h.row1
    refine ⟨cs1, keepR k3 fun b c hb hc => same b (bound b _ hc) fun e => h.ne b e hb, fun i hi => ?_⟩
    obtain ⟨b, q1, q2, q3⟩ := k4 i hi
    exact ⟨b, q1, q2, keepB b q3⟩
  · obtain ⟨cur, q1, q2⟩ := h.wt
    have e3 := sameT rw _ _ q1 (by decide)
    exact ⟨cur, ((set4 rw (notg rw _ _ (e3.trans q1) (by decide))).trans e3).trans q1, q2⟩
  · intro b e1 e2
    rcases h5 with e | e
    · exact h.ne b (e ▸ e1) e2
    · have hb : b = w2.heap.size := by
        have := e1
        rw [e] at this
        injection this with this
        exact this.symm
      obtain ⟨cs1, k3, _⟩ := h.row1
      have := (World.ownsRow.lt k3 b e2).2
      omega
  · exact ((h.bel.trans (b2.mono h.bel.size)).grown h3 (by have := h.bel.size; omega) (fun b e => (World.ownsRow.lt k1 b e).1)).setCell h.hg _

set_option maxRecDepth 100000 in
theorem zput1 {w0 W : World} {g rw n j0 j1 : Nat} {v0 v1 : Value} (h : NewPt w0 W g rw n v0 v1 j0 j1) (hj : j1 < 5000) {Z : Array Value} (hZ : (cbs (List.replicate 64 0)).toArray = Z) :
    ∃ v' w3, (∃ A n c, v' = .slice A n c) ∧ (W.cell? ⟨g, 1, none⟩ = some v1 ∧ (W.alloc (.cells Z 5)).cell? ⟨g, 1, none⟩ = some v1 ∧ ((W.alloc (.cells Z 5)).alloc (.cells #[.slice (some ⟨W.heap.size, 0, none⟩) 64 64] 23)).cell? ⟨g, 1, none⟩ = some v1) ∧
      ((Builtin.append_ #[65, 65] 65 #[v1, .slice (some ⟨(W.alloc (.cells Z 5)).heap.size, 0, none⟩) 1 1]).run Try.prog ((W.alloc (.cells Z 5)).alloc (.cells #[.slice (some ⟨W.heap.size, 0, none⟩) 64 64] 23)) = .ok v' w3) ∧
      w3.cell? ⟨g, 1, none⟩ = some v1 ∧ w3.frozen? ⟨g, 1, none⟩ = false ∧ NewPt w0 (w3.setCell ⟨g, 1, none⟩ v') g rw n v0 v' j0 (j1 + 1) := by
  obtain ⟨cs, k1, k2⟩ := h.row1
  have b1 : Below W.heap.size W (W.alloc (.cells Z 5)) := (Below.refl _ _).alloc (Nat.le_refl _) _
  have b2 : Below W.heap.size W ((W.alloc (.cells Z 5)).alloc (.cells #[.slice (some ⟨W.heap.size, 0, none⟩) 64 64] 23)) := b1.alloc b1.size _
  have hN1 : Blk (W.alloc (.cells Z 5)) W.heap.size 5 (cbs (List.replicate 64 0)) := Blk.new hZ rfl
  have hN2 := hN1.old (.cells #[.slice (some ⟨W.heap.size, 0, none⟩) 64 64] 23)
  have bound : ∀ (b : Nat) (c : Obj), W.heap[b]? = some c → b < W.heap.size := fun b c hc => by
    rcases Nat.lt_or_ge b W.heap.size with h | h
    · exact h
    · rw [Array.getElem?_eq_none h] at hc; cases hc
  obtain ⟨w2, hw2⟩ : ∃ w2, (W.alloc (.cells Z 5)).alloc (.cells #[.slice (some ⟨W.heap.size, 0, none⟩) 64 64] 23) = w2 := ⟨_, rfl⟩
  have hS2 : Blk w2 (W.alloc (.cells Z 5)).heap.size 23 [.slice (some ⟨W.heap.size, 0, none⟩) 64 64] := by rw [← hw2]; exact Blk.new rfl rfl
  have z2 : w2.heap.size = W.heap.size + 2 := by rw [← hw2]; simp
  rw [hw2] at b2 hN2 ⊢
  have hown : w2.ownsRow w0.heap.size 23 1 v1 j1 cs := row_kept k1 fun b _ hlt => b2.block b hlt
  obtain ⟨i0, hi, hz0, hz1, hz2⟩ := info_parts sl_info
  obtain ⟨v', w3, h1, h2, h3, _, h5⟩ := run_append_own_at (P := Try.prog) w2 w0.heap.size 65 65 23 i0 _ 1 24 Try.underlying65 hi hz0 hz1 hz2 rfl (by decide) v1 j1 cs hown ⟨(W.alloc (.cells Z 5)).heap.size, 0, none⟩ 1 1 [.slice (some ⟨W.heap.size, 0, none⟩) 64 64]
    rfl (fun j u hu => by rw [add_mk, Nat.zero_add]; exact hS2.cell hu) (fun u hu => by simp at hu; subst hu; rfl) (by simp only [maxLen]; omega) (by omega) (Nat.le_trans h.bel.size (by omega))
  have hform : ∃ A n c, v' = .slice A n c := by
    obtain ⟨_, ⟨rfl, _⟩ | ⟨gg, cap, cur, rfl, _⟩⟩ := h2
    · exact ⟨_, _, _, rfl⟩
    · exact ⟨_, _, _, rfl⟩
  have hvT : ∀ b, v1.ownBlock = some b → ∃ c, W.heap[b]? = some (.cells c 23 (0, 0)) := fun b hb => by
    obtain ⟨_, ⟨e, _⟩ | ⟨gg, cap, cur, e, _, hc, _⟩⟩ := k1
    · rw [e] at hb; simp [Value.ownBlock] at hb
    · rw [e] at hb; simp [Value.ownBlock] at hb; subst hb; exact ⟨_, hc⟩
  have same : ∀ (i : Nat), i < W.heap.size → v1.ownBlock ≠ some i → w3.heap[i]? = W.heap[i]? := fun i hi hne => (h3.block i (by omega) fun e => hne e.symm).trans (b2.block i hi)
  have sameT : ∀ (i : Nat) (c : Array Value) (t : TypeId), W.heap[i]? = some (.cells c t (0, 0)) → t ≠ 23 → w3.heap[i]? = W.heap[i]? := fun i c t hc ht => same i (bound i _ hc) fun e => by
    obtain ⟨c', hc'⟩ := hvT i e
    rw [hc] at hc'
    injection hc' with hc'
    injection hc' with _ hc'
    exact ht hc'
  have hg3 : Blk w3 g 67 (rcells0 v0 v1 rw n) := (sameT g _ _ h.blk (by decide)).trans h.blk
  have hgW := h.blk.lt
  have set4 : ∀ i, i ≠ g → (w3.setCell ⟨g, 1, none⟩ v').heap[i]? = w3.heap[i]? := fun i hi => Below.heap_setCell w3 ⟨g, 1, none⟩ v' i hi
  have notg : ∀ (i : Nat) (c : Array Value) (t : TypeId), w3.heap[i]? = some (.cells c t (0, 0)) → t ≠ 67 → i ≠ g := fun i c t hc ht e => by
    subst e
    unfold Blk at hg3
    rw [hg3] at hc
    injection hc with hc
    injection hc with _ hc
    exact ht hc.symm
  have keepB : ∀ (b : Nat), Blk W b 5 (cbs (List.replicate 64 0)) → Blk (w3.setCell ⟨g, 1, none⟩ v') b 5 (cbs (List.replicate 64 0)) := fun b hb => by
    have e3 := sameT b _ _ hb (by decide)
    exact ((set4 b (notg b _ _ (e3.trans hb) (by decide))).trans e3).trans hb
  have keepR : ∀ {v : Value} {j : Nat} {xs : List Value} {w' : World}, w'.ownsRow w0.heap.size 23 1 v j xs → (∀ b c, v.ownBlock = some b → w'.heap[b]? = some (.cells c 23 (0, 0)) → w3.heap[b]? = w'.heap[b]?) → (w3.setCell ⟨g, 1, none⟩ v').ownsRow w0.heap.size 23 1 v j xs := by
    intro v j xs w' hr hk
    obtain ⟨q1, q2 | ⟨gg, cap, cur, rfl, hb, hg, q3⟩⟩ := hr
    · exact ⟨q1, .inl q2⟩
    · have e3 := hk gg cur rfl hg
      exact ⟨q1, .inr ⟨gg, cap, cur, rfl, hb, ((set4 gg (notg gg _ _ (e3.trans hg) (by decide))).trans e3).trans hg, q3⟩⟩
  have hcl : cs.length = j1 := by have := k1.1; omega
  refine ⟨v', w3, hform, ⟨h.blk.cell rfl, (h.blk.below b1 hgW).cell rfl, (h.blk.below b2 hgW).cell rfl⟩, h1, hg3.cell rfl, hg3.free 1, ⟨hg3.set_ 1 v', ?_, ?_, ?_, ?_, ?_, h.hg, h.hrw⟩⟩
  · obtain ⟨cs1, k3, k4⟩ := h.row0
    refine ⟨cs1, keepR k3 fun b c hb hc => same b (bound b _ hc) fun e => (fun b e1 e2 => h.ne b e2 e1) b e hb, fun i hi => ?_⟩
    obtain ⟨b, q1, q2, q3⟩ := k4 i hi
    exact ⟨b, q1, q2, keepB b q3⟩
  · refine ⟨cs ++ [.slice (some ⟨W.heap.size, 0, none⟩) 64 64], keepR h2 fun _ _ _ _ => rfl, fun i hi => ?_⟩
    by_cases hlt : i < j1
    · obtain ⟨b, q1, q2, q3⟩ := k2 i hlt
      exact ⟨b, by rw [List.getElem?_append_left (by omega)]; exact q1, q2, keepB b q3⟩
    · have : i = j1 := by omega
      subst this
      refine ⟨W.heap.size, by rw [List.getElem?_append_right (by omega), hcl, Nat.sub_self]; rfl, h.bel.size, ?_⟩
      have e3 : w3.heap[W.heap.size]? = w2.heap[W.heap.size]? := h3.block _ (by omega) fun e => by
        have := (World.ownsRow.lt k1 _ e.symm).2
        omega
      exact ((set4 _ (by omega)).trans e3).trans hN2
  · obtain ⟨cur, q1, q2⟩ := h.wt
    have e3 := sameT rw _ _ q1 (by decide)
    exact ⟨cur, ((set4 rw (notg rw _ _ (e3.trans q1) (by decide))).trans e3).trans q1, q2⟩
  · intro b e1 e2
    rcases h5 with e | e
    · exact h.ne b (e1) (e ▸ e2)
    · have hb : b = w2.heap.size := by
        have := e2
        rw [e] at this
        injection this with this
        exact this.symm
      obtain ⟨cs1, k3, _⟩ := h.row0
      have := (World.ownsRow.lt k3 b e1).2
      omega
  · exact ((h.bel.trans (b2.mono h.bel.size)).grown h3 (by have := h.bel.size; omega) (fun b e => (World.ownsRow.lt k1 b e).1)).setCell h.hg _

def newR (n : Nat) : Rm := ⟨List.replicate n zero64, List.replicate n zero64, List.replicate n false, false, false, 0, []⟩
theorem Zrow.rowB {w : World} {B n : Nat} {v : Value} {M : Nat → Prop} (h : Zrow w B v n) (hn : 1 ≤ n) (hM : ∀ i, M i → i < B ∨ ∃ c t fr, w.heap[i]? = some (.cells c t fr) ∧ t ≠ 5) :
    ∃ rs c, v = .slice (some ⟨rs, 0, none⟩) n c ∧ n ≤ c ∧ c ≤ maxLen ∧ RowB w M rs (List.replicate n zero64) ∧ B ≤ rs := by
  obtain ⟨cs, ⟨q1, ⟨rfl, h0⟩ | ⟨g, cap, cur, rfl, hb, hc, k1, k2, k3, k4⟩⟩, q2⟩ := h
  · omega
  · refine ⟨g, cap, rfl, k1, k2, ⟨cur, hc, fun i hi => ?_⟩, hb⟩
    rw [List.length_replicate] at hi
    obtain ⟨b, e1, e2, e3⟩ := q2 i hi
    rw [← k4, List.getElem?_take, if_pos (by omega)] at e1
    refine ⟨some ⟨b, 0, none⟩, 64, by simpa using e1, Nat.le_refl _, by simp [maxLen], ?_, ?_⟩
    · rw [List.getElem_replicate]
      refine BOff.ofBlk (l := zero64) e3 fun hm => ?_
      rcases hM b hm with hm | ⟨c', t, fr, f1, f2⟩
      · omega
      unfold Blk at e3
      rw [f1] at e3
      injection e3 with e3
      injection e3 with _ e3
      exact f2 e3
    · rw [List.getElem_replicate]; rfl
theorem NewPt.done {w0 w : World} {g rw n : Nat} {v0 v1 : Value} (h : NewPt w0 w g rw n v0 v1 n n) (h1 : 1 ≤ n) (h2 : n ≤ 4096) (M0 : Nat → Prop) (hM0 : ∀ i, M0 i → i < w0.heap.size) : ∃ rs rn, w0.heap.size ≤ rs ∧ w0.heap.size ≤ rn ∧ RefM w (fun i => M0 i ∨ G4 g rs rn rw i) g rs rn rw (newR n) := by
  obtain ⟨cs0, ⟨_, q0⟩, _⟩ := id h.row0
  obtain ⟨cs1, ⟨_, q1⟩, _⟩ := id h.row1
  rcases q0 with ⟨_, e⟩ | ⟨rs, cap0, cur0, e0, hb0, hc0, _⟩
  · omega
  rcases q1 with ⟨_, e⟩ | ⟨rn, cap1, cur1, e1, hb1, hc1, _⟩
  · omega
  obtain ⟨cw, hcw, _⟩ := id h.wt
  have hM : ∀ i, G4 g rs rn rw i → ∃ c t fr, w.heap[i]? = some (.cells c t fr) ∧ t ≠ 5 := by
    rintro i (rfl | rfl | rfl | rfl)
    · exact ⟨_, _, _, h.blk, by decide⟩
    · exact ⟨_, _, _, hc0, by decide⟩
    · exact ⟨_, _, _, hc1, by decide⟩
    · exact ⟨_, _, _, hcw, by decide⟩
  have hMM : ∀ i, (M0 i ∨ G4 g rs rn rw i) → i < w0.heap.size ∨ ∃ c t fr, w.heap[i]? = some (.cells c t fr) ∧ t ≠ 5 := fun i hi => hi.elim (fun e => .inl (hM0 i e)) fun e => .inr (hM i e)
  obtain ⟨rs', c0, f0, g0, g0m, r0, hb0'⟩ := h.row0.rowB h1 hMM
  obtain ⟨rn', c1, f1, g1, g1m, r1, hb1'⟩ := h.row1.rowB h1 hMM
  obtain rfl : rs = rs' := by rw [e0] at f0; injection f0 with f0; injection f0 with f0; injection f0
  obtain rfl : rn = rn' := by rw [e1] at f1; injection f1 with f1; injection f1 with f1; injection f1
  have hlt : ∀ i, (M0 i ∨ G4 g rs rn rw i) → i < w.heap.size := fun i hi => by
    rcases hi with hi | hi
    · exact Nat.lt_of_lt_of_le (hM0 i hi) h.bel.size
    obtain ⟨c, t, fr, hc, _⟩ := hM i hi
    rcases Nat.lt_or_ge i w.heap.size with h | h
    · exact h
    · rw [Array.getElem?_eq_none h] at hc; cases hc
  refine ⟨rs, rn, hb0, hb1, ⟨by simp [newR], by simp [newR], by simpa [newR] using h1, by simpa [newR] using h2, (show Wf 0 from by decide), ⟨c0, c1, n, .slice none 0 0, by simpa [newR] using g0, g0m, by simpa [newR] using g1, g1m, by simp [newR], by simp only [maxLen]; omega, ?_, KOff.nil _ _⟩, r0, r1, h.wt, ?_, .inr (.inl rfl), .inr (.inr (.inl rfl)), .inr (.inr (.inr (.inl rfl))), .inr (.inr (.inr (.inr rfl))), hlt⟩⟩
  · have hb := h.blk
    rw [f0, f1] at hb
    show Blk w g _ (rcells rs rn rw (List.replicate n zero64).length c0 c1 n false false 0 (.slice none 0 0))
    rw [List.length_replicate]
    exact hb
  · intro e
    exact h.ne rs (by rw [f0]; rfl) (by rw [f1, e]; rfl)

theorem bool_info1 : (Try.prog.info? 4).map (fun i => (i.zero, i.size, i.bytes)) = some (some (.bool false), 1, 1) := by kernel_rfl

theorem made_bools (n i : Nat) (hi : i < n) : (madeCells #[Value.bool false] n)[i]? = some (.bool false) := by
  unfold madeCells
  simp [hi, Nat.mod_one]
theorem run_makeB (n : Nat) (hn : n ≤ 4096) (w : World) : (Instr.makeSlice 38 (.int .i64 (n : Int)) (.int .i64 (n : Int))).run Try.prog w = .ok (.slice (some ⟨w.heap.size, 0, none⟩) n n) (w.alloc (.cells (madeCells #[.bool false] n) 4)) := by
  obtain ⟨i0, hi, hz0, hz1, hz2⟩ := info_parts bool_info1
  have hr := run_make (P := Try.prog) w 38 4 i0 (.bool false) Try.underlying38 hi hz0 .i64 .i64 n n (by omega) (Int.le_refl _) (by rw [hz2]; omega) (by omega)
  simp only [Int.toNat_natCast] at hr
  rw [hr, hz1, Nat.mul_one]
  rfl

def MadeR (n : Nat) (M0 : Nat → Prop) (w : World) (e : Ending) (w' : World) : Prop := ∃ g rs rn rw, e = .returned (.tuple #[.pointer (some ⟨g, 0, none⟩), .int .i64 0]) ∧
    w.heap.size ≤ g ∧ w.heap.size ≤ rs ∧ w.heap.size ≤ rn ∧ w.heap.size ≤ rw ∧ RefM w' (fun i => M0 i ∨ G4 g rs rn rw i) g rs rn rw (newR n) ∧ Below w.heap.size w w'
set_option maxRecDepth 100000 in
set_option maxHeartbeats 6400000 in
theorem rnew_any (n : Nat) (h1 : 1 ≤ n) (h2 : n ≤ 4096) (w : World) (M0 : Nat → Prop) (hM0 : ∀ i, M0 i → i < w.heap.size) : Calls Try.prog 27 #[.int .i64 (n : Int)] w (MadeR n M0 w) := by
  have HM0 := Lib.hid hM0
  clear hM0
  have i1 : (1 : Int) ≤ n := by omega
  have i2 : (n : Int) ≤ 4096 := by omega
  have d1 : ¬ (n : Int) < 1 := by omega
  obtain ⟨Z, hZ⟩ : ∃ Z : Array Value, (cbs (List.replicate 64 0)).toArray = Z := ⟨_, rfl⟩
  have hmk : ∀ w, (Instr.makeSlice 23 (.int .i64 64) (.int .i64 64)).run Try.prog w = .ok (.slice (some ⟨w.heap.size, 0, none⟩) 64 64) (w.alloc (.cells Z 5)) := fun w => by subst hZ; kernel_rfl
  have HZ := Lib.hid hZ
  clear hZ
  have hmb : ∀ w, (Instr.makeSlice 38 (.int .i64 (n : Int)) (.int .i64 (n : Int))).run Try.prog w = .ok (.slice (some ⟨w.heap.size, 0, none⟩) n n) (w.alloc (.cells (madeCells #[.bool false] n) 4)) := run_makeB n h2
  obtain ⟨F, hF⟩ : ∃ F, madeCells #[Value.bool false] n = F := ⟨_, rfl⟩
  rw [hF] at hmb
  have hFi : ∀ (i : Nat) (hi : i < (List.replicate n false).length), F[i]? = some (.bool (List.replicate n false)[i]) := fun i hi => by
    rw [← hF, List.getElem_replicate]
    exact made_bools n i (by simpa using hi)
  have HF := Lib.hid hFi
  clear hFi hF
  go_enter Try.func27, Try.ntmps27
  go_wp2
  have hz2 : ((w.alloc (.cells F 4)).alloc (.cells (rcells0 (.slice none 0 0) (.slice none 0 0) w.heap.size n).toArray 67)).heap.size = w.heap.size + 2 := by simp
  have hN0 : NewPt w ((w.alloc (.cells F 4)).alloc (.cells (rcells0 (.slice none 0 0) (.slice none 0 0) w.heap.size n).toArray 67)) (w.heap.size + 1) w.heap.size n (.slice none 0 0) (.slice none 0 0) 0 0 := by
    have hb : Below w.heap.size w ((w.alloc (.cells F 4)).alloc (.cells (rcells0 (.slice none 0 0) (.slice none 0 0) w.heap.size n).toArray 67)) := ((Below.refl _ _).alloc (Nat.le_refl _) _).alloc (by simp) _
    have hzr : Zrow ((w.alloc (.cells F 4)).alloc (.cells (rcells0 (.slice none 0 0) (.slice none 0 0) w.heap.size n).toArray 67)) w.heap.size (.slice none 0 0) 0 := ⟨[], World.ownsRow_nil _ _ _ _, fun i hi => absurd hi (Nat.not_lt_zero _)⟩
    exact ⟨Blk.new rfl (by simp), hzr, hzr, ⟨F, (heap_alloc_old _ _ (by simp)).trans (heap_alloc_new w _), HF.out⟩, fun b e => by simp [Value.ownBlock] at e, hb, by omega, Nat.le_refl _⟩
  have HN0 := Lib.hid hN0
  clear hN0 hz2
  obtain ⟨g, hg⟩ : ∃ g, w.heap.size + 1 = g := ⟨_, rfl⟩
  rw [hg] at HN0 ⊢
  clear hg
  go_loopw [5] (fun v wr => ∃ j : Nat, j ≤ n ∧ v = .int .i64 j ∧ ∃ v0 v1, NewPt w wr g w.heap.size n v0 v1 j j) (fun v _ => n - (intOf v).toNat)
  case atStart => exact ⟨0, Nat.zero_le _, rfl, _, _, HN0.out⟩
  case round =>
    obtain ⟨j, hj, rfl, v0, v1, hN⟩ := hrel
    have hi0 : (0 : Int) ≤ j := by omega
    by_cases hlt : j < n
    · have hi1 : (j : Int) < n := by omega
      have H := Lib.hid hN
      clear hN
      have hd := H.out.below ((Below.refl _ _).drew)
      obtain ⟨v', w3, cf, ⟨ca, cb, cc⟩, cR, cV, cF, cN⟩ := zput0 hd (by omega) HZ.out
      obtain ⟨A4, n4, c4, rfl⟩ := cf
      have ca' : wr.cell? ⟨g, 0, none⟩ = some v0 := ca
      have cb' : (wr.alloc (.cells Z 5)).cell? ⟨g, 0, none⟩ = some v0 := cb
      have cc' : ((wr.alloc (.cells Z 5)).alloc (.cells #[.slice (some ⟨wr.heap.size, 0, none⟩) 64 64] 23)).cell? ⟨g, 0, none⟩ = some v0 := cc
      have cR' : (Builtin.append_ #[65, 65] 65 #[v0, .slice (some ⟨wr.heap.size + 1, 0, none⟩) 1 1]).run Try.prog (((wr.alloc (.cells Z 5)).alloc (.cells #[.slice (some ⟨wr.heap.size, 0, none⟩) 64 64] 23)).drew) = .ok (.slice A4 n4 c4) w3 := by have e := cR; rw [World.size_alloc] at e; exact e
      clear cR ca cb cc
      have HN := Lib.hid cN
      clear cN hd
      go_wp2
      refine wp_region_any (by kernel_rfl) ?_
      change wpAny _ _ _ _ _ _ _ (World.drew _)
      refine any_take (i := 0) (d := 21) (v := (.pointer (some ⟨g, 0, none⟩))) rfl rfl (by kernel_rfl) (by kernel_rfl) (by kernel_rfl) (fun _ _ _ h => h) (Or.inl ⟨by rfl, (by intro w; go_simp)⟩) ?_
      simp only [List.setIfInBounds_toArray, List.set_cons_zero, List.set_cons_succ]
      refine any_take (i := 1) (d := 22) (v := (.pointer (some ⟨g, 0, none⟩))) rfl rfl (by kernel_rfl) (by kernel_rfl) (by kernel_rfl) (fun _ _ _ h => h) (Or.inl ⟨by rfl, (by intro w; go_simp)⟩) ?_
      simp only [List.setIfInBounds_toArray, List.set_cons_zero, List.set_cons_succ]
      refine any_take (i := 2) (d := 23) (v := (.pointer (some ⟨g, 0, none⟩))) rfl rfl (by kernel_rfl) (by kernel_rfl) (by kernel_rfl) (fun _ _ _ h => h) (Or.inl ⟨by rfl, (by intro w; go_simp)⟩) ?_
      simp only [List.setIfInBounds_toArray, List.set_cons_zero, List.set_cons_succ]
      refine any_take (i := 3) (d := 24) (v := (.pointer (some ⟨g, 0, none⟩))) rfl rfl (by kernel_rfl) (by kernel_rfl) (by kernel_rfl) (fun _ _ _ h => h) (Or.inl ⟨by rfl, (by intro w; go_simp)⟩) ?_
      simp only [List.setIfInBounds_toArray, List.set_cons_zero, List.set_cons_succ]
      refine any_two (i := 4) (j := 5) (by kernel_rfl) ?_ ?_
      · refine wpOp_step rfl (fun K hK => ?_)
        go_simp
        refine hK _ _ ?_
        clear hK K
        refine any_one (i := 5) (by kernel_rfl) ?_
        refine wpOp_step rfl (fun K hK => ?_)
        go_simp
        refine hK _ _ ?_
        clear hK K
        refine any_one (i := 6) (by kernel_rfl) ?_
        refine wpOp_step rfl (fun K hK => ?_)
        go_simp
        refine hK _ _ ?_
        clear hK K
        refine any_one (i := 7) (by kernel_rfl) ?_
        refine op_appendS (d := 28) rfl rfl rfl _ _ rfl _ _ _ w3 rfl rfl cR' ?_
        simp only [List.setIfInBounds_toArray, List.set_cons_zero, List.set_cons_succ]
        refine any_take (i := 8) (d := 29) (v := (.pointer (some ⟨g, 0, none⟩))) rfl rfl (by kernel_rfl) (by kernel_rfl) (by kernel_rfl) (fun _ _ _ h => h) (Or.inl ⟨by rfl, (by intro w; go_simp)⟩) ?_
        simp only [List.setIfInBounds_toArray, List.set_cons_zero, List.set_cons_succ]
        refine any_take (i := 9) (d := 30) (v := (.pointer (some ⟨g, 0, none⟩))) rfl rfl (by kernel_rfl) (by kernel_rfl) (by kernel_rfl) (fun _ _ _ h => h) (Or.inl ⟨by rfl, (by intro w; go_simp)⟩) ?_
        simp only [List.setIfInBounds_toArray, List.set_cons_zero, List.set_cons_succ]
        refine any_one (i := 10) (by kernel_rfl) ?_
        refine wpOp_step rfl (fun K hK => ?_)
        go_simp
        refine hK _ _ ?_
        clear hK K
        refine wpAny_done (by kernel_rfl) ?_ _
        clear ca' cb' cc' cR' cV cF
        obtain ⟨wr, hwr⟩ : ∃ wr, w3.setCell ⟨g, 0, none⟩ (.slice A4 n4 c4) = wr := ⟨_, rfl⟩
        rw [hwr] at HN ⊢
        clear hwr
        obtain ⟨v0, hv0⟩ : ∃ v0, Value.slice A4 n4 c4 = v0 := ⟨_, rfl⟩
        rw [hv0] at HN
        clear hv0
        have HM := Lib.hid HN.out
        clear HN
        go_wp2
        have hd := HM.out.below ((Below.refl _ _).drew)
        obtain ⟨v', w3, cf, ⟨ca, cb, cc⟩, cR, cV, cF, cN⟩ := zput1 hd (by omega) HZ.out
        obtain ⟨A4, n4, c4, rfl⟩ := cf
        have ca' : wr.cell? ⟨g, 1, none⟩ = some v1 := ca
        have cb' : (wr.alloc (.cells Z 5)).cell? ⟨g, 1, none⟩ = some v1 := cb
        have cc' : ((wr.alloc (.cells Z 5)).alloc (.cells #[.slice (some ⟨wr.heap.size, 0, none⟩) 64 64] 23)).cell? ⟨g, 1, none⟩ = some v1 := cc
        have cR' : (Builtin.append_ #[65, 65] 65 #[v1, .slice (some ⟨wr.heap.size + 1, 0, none⟩) 1 1]).run Try.prog (((wr.alloc (.cells Z 5)).alloc (.cells #[.slice (some ⟨wr.heap.size, 0, none⟩) 64 64] 23)).drew) = .ok (.slice A4 n4 c4) w3 := by have e := cR; rw [World.size_alloc] at e; exact e
        clear cR ca cb cc
        have HN := Lib.hid cN
        clear cN hd
        refine wp_region_any (by kernel_rfl) ?_
        change wpAny _ _ _ _ _ _ _ (World.drew _)
        refine any_take (i := 0) (d := 31) (v := (.pointer (some ⟨g, 0, none⟩))) rfl rfl (by kernel_rfl) (by kernel_rfl) (by kernel_rfl) (fun _ _ _ h => h) (Or.inl ⟨by rfl, (by intro w; go_simp)⟩) ?_
        simp only [List.setIfInBounds_toArray, List.set_cons_zero, List.set_cons_succ]
        refine any_take (i := 1) (d := 32) (v := (.pointer (some ⟨g, 0, none⟩))) rfl rfl (by kernel_rfl) (by kernel_rfl) (by kernel_rfl) (fun _ _ _ h => h) (Or.inl ⟨by rfl, (by intro w; go_simp)⟩) ?_
        simp only [List.setIfInBounds_toArray, List.set_cons_zero, List.set_cons_succ]
        refine any_take (i := 2) (d := 33) (v := (.pointer (some ⟨g, 0, none⟩))) rfl rfl (by kernel_rfl) (by kernel_rfl) (by kernel_rfl) (fun _ _ _ h => h) (Or.inl ⟨by rfl, (by intro w; go_simp)⟩) ?_
        simp only [List.setIfInBounds_toArray, List.set_cons_zero, List.set_cons_succ]
        refine any_take (i := 3) (d := 34) (v := (.pointer (some ⟨g, 1, none⟩))) rfl rfl (by kernel_rfl) (by kernel_rfl) (by kernel_rfl) (fun _ _ _ h => h) (Or.inl ⟨by rfl, (by intro w; go_simp)⟩) ?_
        simp only [List.setIfInBounds_toArray, List.set_cons_zero, List.set_cons_succ]
        refine any_two (i := 4) (j := 5) (by kernel_rfl) ?_ ?_
        · refine wpOp_step rfl (fun K hK => ?_)
          go_simp
          refine hK _ _ ?_
          clear hK K
          refine any_one (i := 5) (by kernel_rfl) ?_
          refine wpOp_step rfl (fun K hK => ?_)
          go_simp
          refine hK _ _ ?_
          clear hK K
          refine any_one (i := 6) (by kernel_rfl) ?_
          refine wpOp_step rfl (fun K hK => ?_)
          go_simp
          refine hK _ _ ?_
          clear hK K
          refine any_one (i := 7) (by kernel_rfl) ?_
          refine op_appendS (d := 38) rfl rfl rfl _ _ rfl _ _ _ w3 rfl rfl cR' ?_
          simp only [List.setIfInBounds_toArray, List.set_cons_zero, List.set_cons_succ]
          refine any_take (i := 8) (d := 39) (v := (.pointer (some ⟨g, 0, none⟩))) rfl rfl (by kernel_rfl) (by kernel_rfl) (by kernel_rfl) (fun _ _ _ h => h) (Or.inl ⟨by rfl, (by intro w; go_simp)⟩) ?_
          simp only [List.setIfInBounds_toArray, List.set_cons_zero, List.set_cons_succ]
          refine any_take (i := 9) (d := 40) (v := (.pointer (some ⟨g, 1, none⟩))) rfl rfl (by kernel_rfl) (by kernel_rfl) (by kernel_rfl) (fun _ _ _ h => h) (Or.inl ⟨by rfl, (by intro w; go_simp)⟩) ?_
          simp only [List.setIfInBounds_toArray, List.set_cons_zero, List.set_cons_succ]
          refine any_one (i := 10) (by kernel_rfl) ?_
          refine wpOp_step rfl (fun K hK => ?_)
          go_simp
          refine hK _ _ ?_
          clear hK K
          refine wpAny_done (by kernel_rfl) ?_ _
          clear ca' cb' cc' cR' cV cF
          go_wp2
          go_roundw
          case rel => exact ⟨j + 1, by omega, by go_num, _, _, HN.out⟩
          case measure => simp [intOf]; omega
        · refine wpOp_step rfl (fun K hK => ?_)
          go_simp
          refine hK _ _ ?_
          clear hK K
          refine any_two (i := 4) (j := 6) (by kernel_rfl) ?_ ?_
          · refine wpOp_step rfl (fun K hK => ?_)
            go_simp
            refine hK _ _ ?_
            clear hK K
            refine any_one (i := 6) (by kernel_rfl) ?_
            refine wpOp_step rfl (fun K hK => ?_)
            go_simp
            refine hK _ _ ?_
            clear hK K
            refine any_one (i := 7) (by kernel_rfl) ?_
            refine op_appendS (d := 38) rfl rfl rfl _ _ rfl _ _ _ w3 rfl rfl cR' ?_
            simp only [List.setIfInBounds_toArray, List.set_cons_zero, List.set_cons_succ]
            refine any_take (i := 8) (d := 39) (v := (.pointer (some ⟨g, 0, none⟩))) rfl rfl (by kernel_rfl) (by kernel_rfl) (by kernel_rfl) (fun _ _ _ h => h) (Or.inl ⟨by rfl, (by intro w; go_simp)⟩) ?_
            simp only [List.setIfInBounds_toArray, List.set_cons_zero, List.set_cons_succ]
            refine any_take (i := 9) (d := 40) (v := (.pointer (some ⟨g, 1, none⟩))) rfl rfl (by kernel_rfl) (by kernel_rfl) (by kernel_rfl) (fun _ _ _ h => h) (Or.inl ⟨by rfl, (by intro w; go_simp)⟩) ?_
            simp only [List.setIfInBounds_toArray, List.set_cons_zero, List.set_cons_succ]
            refine any_one (i := 10) (by kernel_rfl) ?_
            refine wpOp_step rfl (fun K hK => ?_)
            go_simp
            refine hK _ _ ?_
            clear hK K
            refine wpAny_done (by kernel_rfl) ?_ _
            clear ca' cb' cc' cR' cV cF
            go_wp2
            go_roundw
            case rel => exact ⟨j + 1, by omega, by go_num, _, _, HN.out⟩
            case measure => simp [intOf]; omega
          · refine wpOp_step rfl (fun K hK => ?_)
            go_simp
            refine hK _ _ ?_
            clear hK K
            refine any_one (i := 4) (by kernel_rfl) ?_
            refine wpOp_step rfl (fun K hK => ?_)
            go_simp
            refine hK _ _ ?_
            clear hK K
            refine any_one (i := 7) (by kernel_rfl) ?_
            refine op_appendS (d := 38) rfl rfl rfl _ _ rfl _ _ _ w3 rfl rfl cR' ?_
            simp only [List.setIfInBounds_toArray, List.set_cons_zero, List.set_cons_succ]
            refine any_take (i := 8) (d := 39) (v := (.pointer (some ⟨g, 0, none⟩))) rfl rfl (by kernel_rfl) (by kernel_rfl) (by kernel_rfl) (fun _ _ _ h => h) (Or.inl ⟨by rfl, (by intro w; go_simp)⟩) ?_
            simp only [List.setIfInBounds_toArray, List.set_cons_zero, List.set_cons_succ]
            refine any_take (i := 9) (d := 40) (v := (.pointer (some ⟨g, 1, none⟩))) rfl rfl (by kernel_rfl) (by kernel_rfl) (by kernel_rfl) (fun _ _ _ h => h) (Or.inl ⟨by rfl, (by intro w; go_simp)⟩) ?_
            simp only [List.setIfInBounds_toArray, List.set_cons_zero, List.set_cons_succ]
            refine any_one (i := 10) (by kernel_rfl) ?_
            refine wpOp_step rfl (fun K hK => ?_)
            go_simp
            refine hK _ _ ?_
            clear hK K
            refine wpAny_done (by kernel_rfl) ?_ _
            clear ca' cb' cc' cR' cV cF
            go_wp2
            go_roundw
            case rel => exact ⟨j + 1, by omega, by go_num, _, _, HN.out⟩
            case measure => simp [intOf]; omega
      · refine wpOp_step rfl (fun K hK => ?_)
        go_simp
        refine hK _ _ ?_
        clear hK K
        refine any_two (i := 4) (j := 6) (by kernel_rfl) ?_ ?_
        · refine wpOp_step rfl (fun K hK => ?_)
          go_simp
          refine hK _ _ ?_
          clear hK K
          refine any_one (i := 6) (by kernel_rfl) ?_
          refine wpOp_step rfl (fun K hK => ?_)
          go_simp
          refine hK _ _ ?_
          clear hK K
          refine any_one (i := 7) (by kernel_rfl) ?_
          refine op_appendS (d := 28) rfl rfl rfl _ _ rfl _ _ _ w3 rfl rfl cR' ?_
          simp only [List.setIfInBounds_toArray, List.set_cons_zero, List.set_cons_succ]
          refine any_take (i := 8) (d := 29) (v := (.pointer (some ⟨g, 0, none⟩))) rfl rfl (by kernel_rfl) (by kernel_rfl) (by kernel_rfl) (fun _ _ _ h => h) (Or.inl ⟨by rfl, (by intro w; go_simp)⟩) ?_
          simp only [List.setIfInBounds_toArray, List.set_cons_zero, List.set_cons_succ]
          refine any_take (i := 9) (d := 30) (v := (.pointer (some ⟨g, 0, none⟩))) rfl rfl (by kernel_rfl) (by kernel_rfl) (by kernel_rfl) (fun _ _ _ h => h) (Or.inl ⟨by rfl, (by intro w; go_simp)⟩) ?_
          simp only [List.setIfInBounds_toArray, List.set_cons_zero, List.set_cons_succ]
          refine any_one (i := 10) (by kernel_rfl) ?_
          refine wpOp_step rfl (fun K hK => ?_)
          go_simp
          refine hK _ _ ?_
          clear hK K
          refine wpAny_done (by kernel_rfl) ?_ _
          clear ca' cb' cc' cR' cV cF
          obtain ⟨wr, hwr⟩ : ∃ wr, w3.setCell ⟨g, 0, none⟩ (.slice A4 n4 c4) = wr := ⟨_, rfl⟩
          rw [hwr] at HN ⊢
          clear hwr
          obtain ⟨v0, hv0⟩ : ∃ v0, Value.slice A4 n4 c4 = v0 := ⟨_, rfl⟩
          rw [hv0] at HN
          clear hv0
          have HM := Lib.hid HN.out
          clear HN
          go_wp2
          have hd := HM.out.below ((Below.refl _ _).drew)
          obtain ⟨v', w3, cf, ⟨ca, cb, cc⟩, cR, cV, cF, cN⟩ := zput1 hd (by omega) HZ.out
          obtain ⟨A4, n4, c4, rfl⟩ := cf
          have ca' : wr.cell? ⟨g, 1, none⟩ = some v1 := ca
          have cb' : (wr.alloc (.cells Z 5)).cell? ⟨g, 1, none⟩ = some v1 := cb
          have cc' : ((wr.alloc (.cells Z 5)).alloc (.cells #[.slice (some ⟨wr.heap.size, 0, none⟩) 64 64] 23)).cell? ⟨g, 1, none⟩ = some v1 := cc
          have cR' : (Builtin.append_ #[65, 65] 65 #[v1, .slice (some ⟨wr.heap.size + 1, 0, none⟩) 1 1]).run Try.prog (((wr.alloc (.cells Z 5)).alloc (.cells #[.slice (some ⟨wr.heap.size, 0, none⟩) 64 64] 23)).drew) = .ok (.slice A4 n4 c4) w3 := by have e := cR; rw [World.size_alloc] at e; exact e
          clear cR ca cb cc
          have HN := Lib.hid cN
          clear cN hd
          refine wp_region_any (by kernel_rfl) ?_
          change wpAny _ _ _ _ _ _ _ (World.drew _)
          refine any_take (i := 0) (d := 31) (v := (.pointer (some ⟨g, 0, none⟩))) rfl rfl (by kernel_rfl) (by kernel_rfl) (by kernel_rfl) (fun _ _ _ h => h) (Or.inl ⟨by rfl, (by intro w; go_simp)⟩) ?_
          simp only [List.setIfInBounds_toArray, List.set_cons_zero, List.set_cons_succ]
          refine any_take (i := 1) (d := 32) (v := (.pointer (some ⟨g, 0, none⟩))) rfl rfl (by kernel_rfl) (by kernel_rfl) (by kernel_rfl) (fun _ _ _ h => h) (Or.inl ⟨by rfl, (by intro w; go_simp)⟩) ?_
          simp only [List.setIfInBounds_toArray, List.set_cons_zero, List.set_cons_succ]
          refine any_take (i := 2) (d := 33) (v := (.pointer (some ⟨g, 0, none⟩))) rfl rfl (by kernel_rfl) (by kernel_rfl) (by kernel_rfl) (fun _ _ _ h => h) (Or.inl ⟨by rfl, (by intro w; go_simp)⟩) ?_
          simp only [List.setIfInBounds_toArray, List.set_cons_zero, List.set_cons_succ]
          refine any_take (i := 3) (d := 34) (v := (.pointer (some ⟨g, 1, none⟩))) rfl rfl (by kernel_rfl) (by kernel_rfl) (by kernel_rfl) (fun _ _ _ h => h) (Or.inl ⟨by rfl, (by intro w; go_simp)⟩) ?_
          simp only [List.setIfInBounds_toArray, List.set_cons_zero, List.set_cons_succ]
          refine any_two (i := 4) (j := 5) (by kernel_rfl) ?_ ?_
          · refine wpOp_step rfl (fun K hK => ?_)
            go_simp
            refine hK _ _ ?_
            clear hK K
            refine any_one (i := 5) (by kernel_rfl) ?_
            refine wpOp_step rfl (fun K hK => ?_)
            go_simp
            refine hK _ _ ?_
            clear hK K
            refine any_one (i := 6) (by kernel_rfl) ?_
            refine wpOp_step rfl (fun K hK => ?_)
            go_simp
            refine hK _ _ ?_
            clear hK K
            refine any_one (i := 7) (by kernel_rfl) ?_
            refine op_appendS (d := 38) rfl rfl rfl _ _ rfl _ _ _ w3 rfl rfl cR' ?_
            simp only [List.setIfInBounds_toArray, List.set_cons_zero, List.set_cons_succ]
            refine any_take (i := 8) (d := 39) (v := (.pointer (some ⟨g, 0, none⟩))) rfl rfl (by kernel_rfl) (by kernel_rfl) (by kernel_rfl) (fun _ _ _ h => h) (Or.inl ⟨by rfl, (by intro w; go_simp)⟩) ?_
            simp only [List.setIfInBounds_toArray, List.set_cons_zero, List.set_cons_succ]
            refine any_take (i := 9) (d := 40) (v := (.pointer (some ⟨g, 1, none⟩))) rfl rfl (by kernel_rfl) (by kernel_rfl) (by kernel_rfl) (fun _ _ _ h => h) (Or.inl ⟨by rfl, (by intro w; go_simp)⟩) ?_
            simp only [List.setIfInBounds_toArray, List.set_cons_zero, List.set_cons_succ]
            refine any_one (i := 10) (by kernel_rfl) ?_
            refine wpOp_step rfl (fun K hK => ?_)
            go_simp
            refine hK _ _ ?_
            clear hK K
            refine wpAny_done (by kernel_rfl) ?_ _
            clear ca' cb' cc' cR' cV cF
            go_wp2
            go_roundw
            case rel => exact ⟨j + 1, by omega, by go_num, _, _, HN.out⟩
            case measure => simp [intOf]; omega
          · refine wpOp_step rfl (fun K hK => ?_)
            go_simp
            refine hK _ _ ?_
            clear hK K
            refine any_two (i := 4) (j := 6) (by kernel_rfl) ?_ ?_
            · refine wpOp_step rfl (fun K hK => ?_)
              go_simp
              refine hK _ _ ?_
              clear hK K
              refine any_one (i := 6) (by kernel_rfl) ?_
              refine wpOp_step rfl (fun K hK => ?_)
              go_simp
              refine hK _ _ ?_
              clear hK K
              refine any_one (i := 7) (by kernel_rfl) ?_
              refine op_appendS (d := 38) rfl rfl rfl _ _ rfl _ _ _ w3 rfl rfl cR' ?_
              simp only [List.setIfInBounds_toArray, List.set_cons_zero, List.set_cons_succ]
              refine any_take (i := 8) (d := 39) (v := (.pointer (some ⟨g, 0, none⟩))) rfl rfl (by kernel_rfl) (by kernel_rfl) (by kernel_rfl) (fun _ _ _ h => h) (Or.inl ⟨by rfl, (by intro w; go_simp)⟩) ?_
              simp only [List.setIfInBounds_toArray, List.set_cons_zero, List.set_cons_succ]
              refine any_take (i := 9) (d := 40) (v := (.pointer (some ⟨g, 1, none⟩))) rfl rfl (by kernel_rfl) (by kernel_rfl) (by kernel_rfl) (fun _ _ _ h => h) (Or.inl ⟨by rfl, (by intro w; go_simp)⟩) ?_
              simp only [List.setIfInBounds_toArray, List.set_cons_zero, List.set_cons_succ]
              refine any_one (i := 10) (by kernel_rfl) ?_
              refine wpOp_step rfl (fun K hK => ?_)
              go_simp
              refine hK _ _ ?_
              clear hK K
              refine wpAny_done (by kernel_rfl) ?_ _
              clear ca' cb' cc' cR' cV cF
              go_wp2
              go_roundw
              case rel => exact ⟨j + 1, by omega, by go_num, _, _, HN.out⟩
              case measure => simp [intOf]; omega
            · refine wpOp_step rfl (fun K hK => ?_)
              go_simp
              refine hK _ _ ?_
              clear hK K
              refine any_one (i := 4) (by kernel_rfl) ?_
              refine wpOp_step rfl (fun K hK => ?_)
              go_simp
              refine hK _ _ ?_
              clear hK K
              refine any_one (i := 7) (by kernel_rfl) ?_
              refine op_appendS (d := 38) rfl rfl rfl _ _ rfl _ _ _ w3 rfl rfl cR' ?_
              simp only [List.setIfInBounds_toArray, List.set_cons_zero, List.set_cons_succ]
              refine any_take (i := 8) (d := 39) (v := (.pointer (some ⟨g, 0, none⟩))) rfl rfl (by kernel_rfl) (by kernel_rfl) (by kernel_rfl) (fun _ _ _ h => h) (Or.inl ⟨by rfl, (by intro w; go_simp)⟩) ?_
              simp only [List.setIfInBounds_toArray, List.set_cons_zero, List.set_cons_succ]
              refine any_take (i := 9) (d := 40) (v := (.pointer (some ⟨g, 1, none⟩))) rfl rfl (by kernel_rfl) (by kernel_rfl) (by kernel_rfl) (fun _ _ _ h => h) (Or.inl ⟨by rfl, (by intro w; go_simp)⟩) ?_
              simp only [List.setIfInBounds_toArray, List.set_cons_zero, List.set_cons_succ]
              refine any_one (i := 10) (by kernel_rfl) ?_
              refine wpOp_step rfl (fun K hK => ?_)
              go_simp
              refine hK _ _ ?_
              clear hK K
              refine wpAny_done (by kernel_rfl) ?_ _
              clear ca' cb' cc' cR' cV cF
              go_wp2
              go_roundw
              case rel => exact ⟨j + 1, by omega, by go_num, _, _, HN.out⟩
              case measure => simp [intOf]; omega
        · refine wpOp_step rfl (fun K hK => ?_)
          go_simp
          refine hK _ _ ?_
          clear hK K
          refine any_one (i := 4) (by kernel_rfl) ?_
          refine wpOp_step rfl (fun K hK => ?_)
          go_simp
          refine hK _ _ ?_
          clear hK K
          refine any_one (i := 7) (by kernel_rfl) ?_
          refine op_appendS (d := 28) rfl rfl rfl _ _ rfl _ _ _ w3 rfl rfl cR' ?_
          simp only [List.setIfInBounds_toArray, List.set_cons_zero, List.set_cons_succ]
          refine any_take (i := 8) (d := 29) (v := (.pointer (some ⟨g, 0, none⟩))) rfl rfl (by kernel_rfl) (by kernel_rfl) (by kernel_rfl) (fun _ _ _ h => h) (Or.inl ⟨by rfl, (by intro w; go_simp)⟩) ?_
          simp only [List.setIfInBounds_toArray, List.set_cons_zero, List.set_cons_succ]
          refine any_take (i := 9) (d := 30) (v := (.pointer (some ⟨g, 0, none⟩))) rfl rfl (by kernel_rfl) (by kernel_rfl) (by kernel_rfl) (fun _ _ _ h => h) (Or.inl ⟨by rfl, (by intro w; go_simp)⟩) ?_
          simp only [List.setIfInBounds_toArray, List.set_cons_zero, List.set_cons_succ]
          refine any_one (i := 10) (by kernel_rfl) ?_
          refine wpOp_step rfl (fun K hK => ?_)
          go_simp
          refine hK _ _ ?_
          clear hK K
          refine wpAny_done (by kernel_rfl) ?_ _
          clear ca' cb' cc' cR' cV cF
          obtain ⟨wr, hwr⟩ : ∃ wr, w3.setCell ⟨g, 0, none⟩ (.slice A4 n4 c4) = wr := ⟨_, rfl⟩
          rw [hwr] at HN ⊢
          clear hwr
          obtain ⟨v0, hv0⟩ : ∃ v0, Value.slice A4 n4 c4 = v0 := ⟨_, rfl⟩
          rw [hv0] at HN
          clear hv0
          have HM := Lib.hid HN.out
          clear HN
          go_wp2
          have hd := HM.out.below ((Below.refl _ _).drew)
          obtain ⟨v', w3, cf, ⟨ca, cb, cc⟩, cR, cV, cF, cN⟩ := zput1 hd (by omega) HZ.out
          obtain ⟨A4, n4, c4, rfl⟩ := cf
          have ca' : wr.cell? ⟨g, 1, none⟩ = some v1 := ca
          have cb' : (wr.alloc (.cells Z 5)).cell? ⟨g, 1, none⟩ = some v1 := cb
          have cc' : ((wr.alloc (.cells Z 5)).alloc (.cells #[.slice (some ⟨wr.heap.size, 0, none⟩) 64 64] 23)).cell? ⟨g, 1, none⟩ = some v1 := cc
          have cR' : (Builtin.append_ #[65, 65] 65 #[v1, .slice (some ⟨wr.heap.size + 1, 0, none⟩) 1 1]).run Try.prog (((wr.alloc (.cells Z 5)).alloc (.cells #[.slice (some ⟨wr.heap.size, 0, none⟩) 64 64] 23)).drew) = .ok (.slice A4 n4 c4) w3 := by have e := cR; rw [World.size_alloc] at e; exact e
          clear cR ca cb cc
          have HN := Lib.hid cN
          clear cN hd
          refine wp_region_any (by kernel_rfl) ?_
          change wpAny _ _ _ _ _ _ _ (World.drew _)
          refine any_take (i := 0) (d := 31) (v := (.pointer (some ⟨g, 0, none⟩))) rfl rfl (by kernel_rfl) (by kernel_rfl) (by kernel_rfl) (fun _ _ _ h => h) (Or.inl ⟨by rfl, (by intro w; go_simp)⟩) ?_
          simp only [List.setIfInBounds_toArray, List.set_cons_zero, List.set_cons_succ]
          refine any_take (i := 1) (d := 32) (v := (.pointer (some ⟨g, 0, none⟩))) rfl rfl (by kernel_rfl) (by kernel_rfl) (by kernel_rfl) (fun _ _ _ h => h) (Or.inl ⟨by rfl, (by intro w; go_simp)⟩) ?_
          simp only [List.setIfInBounds_toArray, List.set_cons_zero, List.set_cons_succ]
          refine any_take (i := 2) (d := 33) (v := (.pointer (some ⟨g, 0, none⟩))) rfl rfl (by kernel_rfl) (by kernel_rfl) (by kernel_rfl) (fun _ _ _ h => h) (Or.inl ⟨by rfl, (by intro w; go_simp)⟩) ?_
          simp only [List.setIfInBounds_toArray, List.set_cons_zero, List.set_cons_succ]
          refine any_take (i := 3) (d := 34) (v := (.pointer (some ⟨g, 1, none⟩))) rfl rfl (by kernel_rfl) (by kernel_rfl) (by kernel_rfl) (fun _ _ _ h => h) (Or.inl ⟨by rfl, (by intro w; go_simp)⟩) ?_
          simp only [List.setIfInBounds_toArray, List.set_cons_zero, List.set_cons_succ]
          refine any_two (i := 4) (j := 5) (by kernel_rfl) ?_ ?_
          · refine wpOp_step rfl (fun K hK => ?_)
            go_simp
            refine hK _ _ ?_
            clear hK K
            refine any_one (i := 5) (by kernel_rfl) ?_
            refine wpOp_step rfl (fun K hK => ?_)
            go_simp
            refine hK _ _ ?_
            clear hK K
            refine any_one (i := 6) (by kernel_rfl) ?_
            refine wpOp_step rfl (fun K hK => ?_)
            go_simp
            refine hK _ _ ?_
            clear hK K
            refine any_one (i := 7) (by kernel_rfl) ?_
            refine op_appendS (d := 38) rfl rfl rfl _ _ rfl _ _ _ w3 rfl rfl cR' ?_
            simp only [List.setIfInBounds_toArray, List.set_cons_zero, List.set_cons_succ]
            refine any_take (i := 8) (d := 39) (v := (.pointer (some ⟨g, 0, none⟩))) rfl rfl (by kernel_rfl) (by kernel_rfl) (by kernel_rfl) (fun _ _ _ h => h) (Or.inl ⟨by rfl, (by intro w; go_simp)⟩) ?_
            simp only [List.setIfInBounds_toArray, List.set_cons_zero, List.set_cons_succ]
            refine any_take (i := 9) (d := 40) (v := (.pointer (some ⟨g, 1, none⟩))) rfl rfl (by kernel_rfl) (by kernel_rfl) (by kernel_rfl) (fun _ _ _ h => h) (Or.inl ⟨by rfl, (by intro w; go_simp)⟩) ?_
            simp only [List.setIfInBounds_toArray, List.set_cons_zero, List.set_cons_succ]
            refine any_one (i := 10) (by kernel_rfl) ?_
            refine wpOp_step rfl (fun K hK => ?_)
            go_simp
            refine hK _ _ ?_
            clear hK K
            refine wpAny_done (by kernel_rfl) ?_ _
            clear ca' cb' cc' cR' cV cF
            go_wp2
            go_roundw
            case rel => exact ⟨j + 1, by omega, by go_num, _, _, HN.out⟩
            case measure => simp [intOf]; omega
          · refine wpOp_step rfl (fun K hK => ?_)
            go_simp
            refine hK _ _ ?_
            clear hK K
            refine any_two (i := 4) (j := 6) (by kernel_rfl) ?_ ?_
            · refine wpOp_step rfl (fun K hK => ?_)
              go_simp
              refine hK _ _ ?_
              clear hK K
              refine any_one (i := 6) (by kernel_rfl) ?_
              refine wpOp_step rfl (fun K hK => ?_)
              go_simp
              refine hK _ _ ?_
              clear hK K
              refine any_one (i := 7) (by kernel_rfl) ?_
              refine op_appendS (d := 38) rfl rfl rfl _ _ rfl _ _ _ w3 rfl rfl cR' ?_
              simp only [List.setIfInBounds_toArray, List.set_cons_zero, List.set_cons_succ]
              refine any_take (i := 8) (d := 39) (v := (.pointer (some ⟨g, 0, none⟩))) rfl rfl (by kernel_rfl) (by kernel_rfl) (by kernel_rfl) (fun _ _ _ h => h) (Or.inl ⟨by rfl, (by intro w; go_simp)⟩) ?_
              simp only [List.setIfInBounds_toArray, List.set_cons_zero, List.set_cons_succ]
              refine any_take (i := 9) (d := 40) (v := (.pointer (some ⟨g, 1, none⟩))) rfl rfl (by kernel_rfl) (by kernel_rfl) (by kernel_rfl) (fun _ _ _ h => h) (Or.inl ⟨by rfl, (by intro w; go_simp)⟩) ?_
              simp only [List.setIfInBounds_toArray, List.set_cons_zero, List.set_cons_succ]
              refine any_one (i := 10) (by kernel_rfl) ?_
              refine wpOp_step rfl (fun K hK => ?_)
              go_simp
              refine hK _ _ ?_
              clear hK K
              refine wpAny_done (by kernel_rfl) ?_ _
              clear ca' cb' cc' cR' cV cF
              go_wp2
              go_roundw
              case rel => exact ⟨j + 1, by omega, by go_num, _, _, HN.out⟩
              case measure => simp [intOf]; omega
            · refine wpOp_step rfl (fun K hK => ?_)
              go_simp
              refine hK _ _ ?_
              clear hK K
              refine any_one (i := 4) (by kernel_rfl) ?_
              refine wpOp_step rfl (fun K hK => ?_)
              go_simp
              refine hK _ _ ?_
              clear hK K
              refine any_one (i := 7) (by kernel_rfl) ?_
              refine op_appendS (d := 38) rfl rfl rfl _ _ rfl _ _ _ w3 rfl rfl cR' ?_
              simp only [List.setIfInBounds_toArray, List.set_cons_zero, List.set_cons_succ]
              refine any_take (i := 8) (d := 39) (v := (.pointer (some ⟨g, 0, none⟩))) rfl rfl (by kernel_rfl) (by kernel_rfl) (by kernel_rfl) (fun _ _ _ h => h) (Or.inl ⟨by rfl, (by intro w; go_simp)⟩) ?_
              simp only [List.setIfInBounds_toArray, List.set_cons_zero, List.set_cons_succ]
              refine any_take (i := 9) (d := 40) (v := (.pointer (some ⟨g, 1, none⟩))) rfl rfl (by kernel_rfl) (by kernel_rfl) (by kernel_rfl) (fun _ _ _ h => h) (Or.inl ⟨by rfl, (by intro w; go_simp)⟩) ?_
              simp only [List.setIfInBounds_toArray, List.set_cons_zero, List.set_cons_succ]
              refine any_one (i := 10) (by kernel_rfl) ?_
              refine wpOp_step rfl (fun K hK => ?_)
              go_simp
              refine hK _ _ ?_
              clear hK K
              refine wpAny_done (by kernel_rfl) ?_ _
              clear ca' cb' cc' cR' cV cF
              go_wp2
              go_roundw
              case rel => exact ⟨j + 1, by omega, by go_num, _, _, HN.out⟩
              case measure => simp [intOf]; omega
    · have hi1 : ¬ (j : Int) < n := by omega
      obtain rfl : j = n := by omega
      obtain ⟨rs, rn, q1, q2, q3⟩ := hN.done h1 h2 M0 HM0.out
      have Hz := Lib.hid (And.intro q1 (And.intro q2 (And.intro q3 (And.intro hN.bel hN.hg))))
      clear hN q1 q2 q3
      go_wp2
      go_ret2
      exact ⟨g, rs, rn, w.heap.size, rfl, Hz.out.2.2.2.2, Hz.out.1, Hz.out.2.1, Nat.le_refl _, Hz.out.2.2.1, Hz.out.2.2.2.1⟩
end Go.Proofs.Ytmcbjcopipafdaa
