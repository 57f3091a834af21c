/-
  A list of deeds that a statement makes: append, and what memory shows of it; the order of deeds.
-/
import Derived.Test.YtoidiacofgmigaaMade
namespace Go.Proofs.Ytoidiacofgmigaa
open Go.RowKit
set_option linter.unusedVariables false

/-- A deed and the slice of its readers, as memory has it. -/
abbrev DH := DeedL × Option Addr × Nat × Nat
def dcs (y : DH) : List Value := [.int .i64 y.1.kind, .int .i64 y.1.frm, .int .i64 y.1.to_, .slice y.2.1 y.2.2.1 y.2.2.2, cb y.1.d, .int .i64 y.1.askF, .int .i64 y.1.askT]
def dxs (ys : List DH) : List Value := (ys.map dcs).flatten
theorem dcs_len (y : DH) : (dcs y).length = 7 := rfl
theorem dxs_cons (y : DH) (ys : List DH) : dxs (y :: ys) = dcs y ++ dxs ys := by simp [dxs]
theorem dxs_snoc (ys : List DH) (y : DH) : dxs (ys ++ [y]) = dxs ys ++ dcs y := by simp [dxs]
theorem dxs_at : ∀ (ys : List DH) (j i : Nat) (y : DH), ys[j]? = some y → i < 7 → (dxs ys)[j * 7 + i]? = (dcs y)[i]?
  | [], j, i, y, h, _ => by simp at h
  | z :: ys, 0, i, y, h, hi => by
    simp at h
    subst h
    rw [dxs_cons, Nat.zero_mul, Nat.zero_add, List.getElem?_append_left (by rw [dcs_len]; exact hi)]
  | z :: ys, j + 1, i, y, h, hi => by
    rw [dxs_cons, List.getElem?_append_right (by rw [dcs_len]; omega), dcs_len]
    have e : (j + 1) * 7 + i - 7 = j * 7 + i := by omega
    rw [e]
    exact dxs_at ys j i y (by simpa using h) hi
theorem dcs_one (y : DH) : ∀ u ∈ dcs y, u.oneCell' = true := by
  intro u hu
  simp [dcs] at hu
  rcases hu with rfl | rfl | rfl | rfl | rfl | rfl | rfl <;> rfl

theorem deed_info : (Try.prog.info? 32).map (fun i => (i.zero, i.size, i.bytes)) = some (some (.agg #[.int .i64 0, .int .i64 0, .int .i64 0, .slice none 0 0, .int .u8 0, .int .i64 0, .int .i64 0]), 7, 72) := by kernel_rfl

set_option maxRecDepth 100000 in
theorem run_appendD (w : World) (base : Nat) (v : Value) (ys : List DH) (n : Nat) (hn : ys.length = n) (hown : w.ownsRow base 32 7 v n (dxs ys)) (g : Nat) (y : DH) (hg : Blk w g 32 (dcs y))
    (h1000 : n < 1000) (hbase : base ≤ w.heap.size) (ty : TypeId) :
    ∃ v' w', (Builtin.append_ #[22, 22] ty #[v, .slice (some ⟨g, 0, none⟩) 1 1]).run Try.prog w = .ok v' w' ∧ w'.ownsRow base 32 7 v' (n + 1) (dxs (ys ++ [y])) ∧ w.grownBy w' v.ownBlock ∧
      (v'.ownBlock = v.ownBlock ∨ v'.ownBlock = some w.heap.size) := by
  obtain ⟨i0, hi, hz0, hz1, hz2⟩ := info_parts deed_info
  have hcells : ∀ j u, (dcs y)[j]? = some u → w.cell? ((⟨g, 0, none⟩ : Addr).add j) = some u := fun j u hu => by
    rw [add_mk, Nat.zero_add]; exact hg.cell hu
  obtain ⟨v', w', h1, h2, h3, _, h5⟩ := run_append_own_at (P := Try.prog) w base 22 ty 32 i0 _ 7 72 Try.underlying22 hi hz0 hz1 hz2 rfl (by decide) v n (dxs ys) hown ⟨g, 0, none⟩ 1 1 (dcs y)
    (by rw [dcs_len]) hcells (dcs_one y) (by simp only [maxLen]; omega) (by omega) hbase
  exact ⟨v', w', h1, by rw [dxs_snoc]; exact h2, h3, h5⟩

theorem wp_appendD {w : World} {ops : Array Oper} {rest : List Oper} {o : Oper} {a : Act} {Q : Exit → Act → World → Prop} (hgd : o.guard = none) (s x : Operand)
    (ho : o.op = .call { callee := .builtin .append, args := #[s, x], argTypes := #[22, 22] })
    (base : Nat) (v : Value) (ys : List DH) (n : Nat) (hs : a.eval s = v) (hn : ys.length = n) (hown : w.ownsRow base 32 7 v n (dxs ys)) (g : Nat) (y : DH) (hx : a.eval x = .slice (some ⟨g, 0, none⟩) 1 1) (hg : Blk w g 32 (dcs y))
    (h1000 : n < 1000) (hbase : base ≤ w.heap.size)
    (h : ∀ v' w', w'.ownsRow base 32 7 v' (n + 1) (dxs (ys ++ [y])) → w.grownBy w' v.ownBlock → (v'.ownBlock = v.ownBlock ∨ v'.ownBlock = some w.heap.size) → wpList Try.prog ops Q rest (a.put o.dst v') w') :
    wpList Try.prog ops Q (o :: rest) a w := by
  obtain ⟨v', w', hrun, h2, h3, h4⟩ := run_appendD w base v ys n hn hown g y hg h1000 hbase o.type
  refine wpList_plain hgd fun K hK => ?_
  unfold Oper.wp execOp
  simp only [ho, resolve, invoke, builtin, Sem.run_bind, Sem.run_pure, Result.andThen_ok, List.map_toArray, List.map_cons, List.map_nil, hs, hx, hrun]
  exact hK _ _ (h v' w' h2 h3 h4)

theorem row_form {w : World} {base n k : Nat} {e : TypeId} {v : Value} {xs : List Value} (h : w.ownsRow base e k v n xs) : ∃ A c, v = .slice A n c := by
  obtain ⟨h1, ⟨e, e0⟩ | ⟨g, cap, cur, e, _⟩⟩ := h
  · exact ⟨none, 0, by rw [e, e0]⟩
  · exact ⟨_, cap, e⟩
/-- What memory shows of such a list. -/
theorem ArgD.ofOwn {w0 w : World} {base n c : Nat} {A : Option Addr} {ys : List DH} (hown : w.ownsRow base 32 7 (.slice A n c) n (dxs ys)) (hn : ys.length = n) (hb : Below w0.heap.size w0 w)
    (hy : ∀ y ∈ ys, y.1.wf ∧ ArgI w0 y.2.1 y.2.2.1 y.2.2.2 y.1.rs) : ArgD w A n c (ys.map (·.1)) := by
  have hown' := hown
  obtain ⟨h1, ⟨e, e0⟩ | ⟨g, cap, cur, e, hbg, hg, hc, hm, _⟩⟩ := hown
  · injection e with e1 e2 e3
    subst e1; subst e2; subst e3
    have : ys = [] := List.eq_nil_of_length_eq_zero hn
    subst this
    exact ⟨rfl, Nat.le_refl _, by simp [maxLen], fun h => absurd rfl h⟩
  · injection e with e1 e2 e3
    subst e1; subst e3
    refine ⟨by rw [List.length_map, hn], hc, hm, fun hne => ⟨g, 0, rfl, ?_, fun j hj => ?_⟩⟩
    · exact (Array.getElem?_eq_some_iff.1 hg).1
    · rw [List.length_map] at hj
      have hyj : ys[j]? = some ys[j] := List.getElem?_eq_getElem hj
      have hc7 : ∀ i, i < 7 → w.cell? ⟨g, 0 + j * 7 + i, none⟩ = (dcs ys[j])[i]? := fun i hi => by
        have hl7 : i < (dcs ys[j]).length := hi
        obtain ⟨u, hu⟩ : ∃ u, (dcs ys[j])[i]? = some u := ⟨_, List.getElem?_eq_getElem hl7⟩
        have := hown'.cells (g := g) rfl (j * 7 + i) u (by rw [dxs_at ys j i _ hyj hi]; exact hu)
        rw [add_mk] at this
        rw [hu, Nat.zero_add]
        rw [Nat.zero_add] at this
        exact this
      obtain ⟨hw, ha⟩ := hy _ (List.getElem_mem hj)
      rw [List.getElem_map]
      exact ⟨hw, hc7 0 (by omega), hc7 1 (by omega), hc7 2 (by omega), ⟨_, _, _, hc7 3 (by omega), ha.after hb⟩, hc7 4 (by omega), hc7 5 (by omega), hc7 6 (by omega)⟩

/-! ### The order of deeds -/
theorem order_len (l : List DeedL) : (madeL l).length = (madeL l.reverse).length := by
  refine nodup_len (fold_nodup l List.nodup_nil) (fold_nodup l.reverse List.nodup_nil) fun y => ?_
  unfold madeL
  rw [fold_mem, fold_mem]
  simp
theorem order_in (l : List DeedL) (f t : Int) (d : List UInt8) : chk (madeL l.reverse) f t d = chk (madeL l) f t d := by
  have h : ∀ y, y ∈ madeL l.reverse ↔ y ∈ madeL l := fun y => by
    unfold madeL
    rw [fold_mem, fold_mem]
    simp
  unfold chk inT
  congr 1
  · exact decide_eq_decide.2 (h _)
  · exact decide_eq_decide.2 (h _)
end Go.Proofs.Ytoidiacofgmigaa
