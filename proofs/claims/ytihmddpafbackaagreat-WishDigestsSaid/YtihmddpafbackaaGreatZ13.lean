/-
  Laid together for a hand-in: Ls11, Rule, Rule3.
-/
import Derived.Test.YtihmddpafbackaaGreatZ12
import Derived.Test.YtihmddpafbackaaGreatZ10
import Derived.Below

namespace Go.Proofs.YtihmddpafbackaaGreat

open Go.RowKit Go.Maps

set_option linter.unusedVariables false

set_option linter.unusedSimpArgs false

/-- A wish and the slices of its lists, as memory has them. -/
structure WH where
  x : Wl
  D : Option Addr
  nd : Nat
  cd : Nat
  N : Option Addr
  nn : Nat
  cn : Nat

def whc (y : WH) : List Value := [.int .i64 y.x.cl, .int .i64 y.x.sp, .int .i64 y.x.gr, .int .i64 y.x.ep, .int .i64 y.x.kd, .int .i64 y.x.bl, .slice y.D y.nd y.cd, .int .i64 y.x.od, .int .i64 y.x.nw, .slice y.N y.nn y.cn]

def whs (ys : List WH) : List Value := (ys.map whc).flatten

theorem whc_len (y : WH) : (whc y).length = 10 := rfl

theorem whs_cons (y : WH) (ys : List WH) : whs (y :: ys) = whc y ++ whs ys := by simp [whs]

theorem whs_snoc (ys : List WH) (y : WH) : whs (ys ++ [y]) = whs ys ++ whc y := by simp [whs]

theorem whs_at : ∀ (ys : List WH) (j i : Nat) (y : WH), ys[j]? = some y → i < 10 → (whs ys)[j * 10 + i]? = (whc y)[i]?
  | [], j, i, y, h, _ => by simp at h
  | z :: ys, 0, i, y, h, hi => by
    simp at h
    subst h
    rw [whs_cons, Nat.zero_mul, Nat.zero_add, List.getElem?_append_left (by rw [whc_len]; exact hi)]
  | z :: ys, j + 1, i, y, h, hi => by
    rw [whs_cons, List.getElem?_append_right (by rw [whc_len]; omega), whc_len]
    have e : (j + 1) * 10 + i - 10 = j * 10 + i := by omega
    rw [e]
    exact whs_at ys j i y (by simpa using h) hi

theorem whc_one (y : WH) : ∀ u ∈ whc y, u.oneCell' = true := by
  intro u hu
  simp [whc] at hu
  rcases hu with rfl | rfl | rfl | rfl | rfl | rfl | rfl | rfl | rfl | rfl <;> rfl

/-- A list of wishes that is shown. -/
def ArgL (w : World) (A : Option Addr) (n c : Nat) (l : List Wl) : Prop := l.length = n ∧ n ≤ c ∧ c ≤ maxLen ∧
  (l ≠ [] → ∃ b off, A = some ⟨b, off, none⟩ ∧ b < w.heap.size ∧ ∀ j (hj : j < l.length), ∃ (D : Option Addr) (nd cd : Nat) (N : Option Addr) (nn cn : Nat), w.rangeAt b (off + j * 10) (whc ⟨l[j], D, nd, cd, N, nn, cn⟩) ∧ ArgW w l[j] D nd cd N nn cn)

theorem range_on {w w' : World} {b o B : Nat} {cs : List Value} (h : w.rangeAt b o cs) (hb : Below B w w') (hlt : b < B) : w'.rangeAt b o cs := fun j v hv => (hb.cell (p := ⟨b, o + j, none⟩) hlt).trans (h j v hv)

theorem ArgL.after {w w' : World} {A : Option Addr} {n c : Nat} {l : List Wl} (h : ArgL w A n c l) (hb : Below w.heap.size w w') : ArgL w' A n c l :=
  ⟨h.1, h.2.1, h.2.2.1, fun hn => let ⟨b, off, e, hlt, hd⟩ := h.2.2.2 hn; ⟨b, off, e, Nat.lt_of_lt_of_le hlt hb.size, fun j hj => let ⟨D, nd, cd, N, nn, cn, h1, h2⟩ := hd j hj; ⟨D, nd, cd, N, nn, cn, range_on h1 hb hlt, h2.after hb⟩⟩⟩

theorem ArgL.at_ {w : World} {A : Option Addr} {n c : Nat} {l : List Wl} (h : ArgL w A n c l) {j : Nat} (hj : j < l.length) :
    ∃ b off D nd cd N nn cn, A = some ⟨b, off, none⟩ ∧ b < w.heap.size ∧ w.rangeAt b (off + j * 10) (whc ⟨l[j], D, nd, cd, N, nn, cn⟩) ∧ ArgW w l[j] D nd cd N nn cn := by
  obtain ⟨b, off, e, hlt, hd⟩ := h.2.2.2 (fun e => by rw [e] at hj; simp at hj)
  obtain ⟨D, nd, cd, N, nn, cn, h1, h2⟩ := hd j hj
  exact ⟨b, off, D, nd, cd, N, nn, cn, e, hlt, h1, h2⟩

theorem range_ks {w : World} {b o : Nat} {y : WH} (h : w.rangeAt b o (whc y)) : (w.cell? ⟨b, o, none⟩ = some (.int .i64 y.x.cl) ∧ w.cell? ⟨b, o + 1, none⟩ = some (.int .i64 y.x.sp) ∧ w.cell? ⟨b, o + 2, none⟩ = some (.int .i64 y.x.gr) ∧ w.cell? ⟨b, o + 3, none⟩ = some (.int .i64 y.x.ep) ∧ w.cell? ⟨b, o + 4, none⟩ = some (.int .i64 y.x.kd)) ∧
    w.cell? ⟨b, o + 5, none⟩ = some (.int .i64 y.x.bl) ∧ w.cell? ⟨b, o + 6, none⟩ = some (.slice y.D y.nd y.cd) ∧ w.cell? ⟨b, o + 7, none⟩ = some (.int .i64 y.x.od) ∧ w.cell? ⟨b, o + 8, none⟩ = some (.int .i64 y.x.nw) ∧ w.cell? ⟨b, o + 9, none⟩ = some (.slice y.N y.nn y.cn) :=
  ⟨⟨h 0 _ rfl, h 1 _ rfl, h 2 _ rfl, h 3 _ rfl, h 4 _ rfl⟩, h 5 _ rfl, h 6 _ rfl, h 7 _ rfl, h 8 _ rfl, h 9 _ rfl⟩

/-- The lists of such a wish lie in rows made from 'base' on. -/
def WHo (w : World) (base : Nat) (y : WH) : Prop := (Mine w base 5 (.slice y.D y.nd y.cd) y.x.da ∧ y.x.da.length = y.nd) ∧ (OwnI w base (.slice y.N y.nn y.cn) y.x.nx ∧ y.x.nx.length = y.nn)

theorem WHo.out {S : Nat → Prop} {w w' : World} {base : Nat} {y : WH} (h : WHo w base y) (ho : Out S w w') (hS : ∀ i, S i → i < base) : WHo w' base y :=
  ⟨⟨own_out h.1.1 ho (fun i hi e => by have := (World.ownsRow.lt h.1.1 i hi).1; have := hS i e; omega), h.1.2⟩, own_out h.2.1 ho (fun i hi e => by have := (World.ownsRow.lt h.2.1 i hi).1; have := hS i e; omega), h.2.2⟩

theorem WHo.on {w w' : World} {base : Nat} {y : WH} (h : WHo w base y) (hb : Below w.heap.size w w') : WHo w' base y := h.out (Out.ofBelow (fun _ => False) hb) (fun _ e => e.elim)

theorem WHo.base {w : World} {b b' : Nat} {y : WH} (h : WHo w b y) (hb : b' ≤ b) : WHo w b' y := ⟨⟨Mine.base h.1.1 hb, h.1.2⟩, own_base h.2.1 hb, h.2.2⟩

/-- A list of wishes that a call made, its lists, too: rows from 'base' on. -/
def OwnL (w : World) (base : Nat) (v : Value) (ys : List WH) : Prop := w.ownsRow base 25 10 v ys.length (whs ys) ∧ ∀ y ∈ ys, WHo w base y

theorem OwnL.nil (w : World) (base : Nat) : OwnL w base (.slice none 0 0) [] := ⟨World.ownsRow_nil _ _ _ _, fun y hy => by simp at hy⟩

theorem OwnL.out {S : Nat → Prop} {w w' : World} {base : Nat} {v : Value} {ys : List WH} (h : OwnL w base v ys) (ho : Out S w w') (hS : ∀ i, S i → i < base) : OwnL w' base v ys :=
  ⟨own_out h.1 ho (fun i hi e => by have := (World.ownsRow.lt h.1 i hi).1; have := hS i e; omega), fun y hy => (h.2 y hy).out ho hS⟩

theorem OwnL.on {w w' : World} {base : Nat} {v : Value} {ys : List WH} (h : OwnL w base v ys) (hb : Below w.heap.size w w') : OwnL w' base v ys := h.out (Out.ofBelow (fun _ => False) hb) (fun _ e => e.elim)

theorem OwnL.base {w : World} {b b' : Nat} {v : Value} {ys : List WH} (h : OwnL w b v ys) (hb : b' ≤ b) : OwnL w b' v ys := ⟨own_base h.1 hb, fun y hy => (h.2 y hy).base hb⟩

theorem row_form {w : World} {base n k : Nat} {e : TypeId} {v : Value} {xs : List Value} (h : w.ownsRow base e k v n xs) : ∃ A c, v = .slice A n c := by
  obtain ⟨h1, ⟨e, e0⟩ | ⟨g, cap, cur, e, _⟩⟩ := h
  · exact ⟨none, 0, by rw [e, e0]⟩
  · exact ⟨_, cap, e⟩

theorem WHo.arg {w : World} {base : Nat} {y : WH} (h : WHo w base y) (hx : WNm y.x) : ArgW w y.x y.D y.nd y.cd y.N y.nn y.cn := by
  have hv : WV w base y.x (.agg (whc y).toArray) := ⟨y.D, y.nd, y.cd, y.N, y.nn, y.cn, rfl, h.1, h.2.1, h.2.2⟩
  obtain ⟨D', nd', cd', N', nn', cn', e, ha, _⟩ := hv.arg hx
  have e := congrArg (fun v => match v with | Value.agg a => (a[6]?, a[9]?) | _ => (none, none)) e
  simp only [whc, List.getElem?_toArray, List.getElem?_cons_succ, List.getElem?_cons_zero, Prod.mk.injEq, Option.some.injEq, Value.slice.injEq] at e
  obtain ⟨⟨rfl, rfl, rfl⟩, rfl, rfl, rfl⟩ := e
  exact ha

/-- What is known of a wish's lists that bounds them. -/
theorem OwnL.arg {w : World} {base n c : Nat} {A : Option Addr} {ys : List WH} (h : OwnL w base (.slice A n c) ys) (hn : ys.length = n) (hx : ∀ y ∈ ys, ArgW w y.x y.D y.nd y.cd y.N y.nn y.cn) : ArgL w A n c (ys.map (·.x)) := by
  have hown' := h.1
  obtain ⟨h1, ⟨e, e0⟩ | ⟨g, cap, cur, e, hbg, hg, hc, hm, _⟩⟩ := h.1
  · injection e with e1 e2 e3
    subst e1; subst e2; subst e3
    have : ys = [] := List.eq_nil_of_length_eq_zero hn
    subst this
    exact ⟨rfl, Nat.le_refl _, by simp [maxLen], fun h => absurd rfl h⟩
  · injection e with e1 e2 e3
    subst e1; subst e3
    refine ⟨by rw [List.length_map, hn], by omega, hm, fun hne => ⟨g, 0, rfl, ?_, fun j hj => ?_⟩⟩
    · exact (Array.getElem?_eq_some_iff.1 hg).1
    · rw [List.length_map] at hj
      have hyj : ys[j]? = some ys[j] := List.getElem?_eq_getElem hj
      rw [List.getElem_map]
      refine ⟨ys[j].D, ys[j].nd, ys[j].cd, ys[j].N, ys[j].nn, ys[j].cn, fun i u hu => ?_, hx _ (List.getElem_mem hj)⟩
      have hi : i < 10 := by
        rcases Nat.lt_or_ge i 10 with h | h
        · exact h
        · rw [List.getElem?_eq_none (by rw [whc_len]; exact h)] at hu; cases hu
      have hsub : n = ys.length := hn.symm
      have := hown'.cells (g := g) rfl (j * 10 + i) u (by rw [whs_at ys j i _ hyj hi]; exact hu)
      rw [add_mk] at this
      rw [Nat.zero_add] at this ⊢
      exact this

theorem wish_info : (Tryz.prog.info? 25).map (fun i => (i.zero, i.size, i.bytes)) = some (some (.agg #[.int .i64 0, .int .i64 0, .int .i64 0, .int .i64 0, .int .i64 0, .int .i64 0, .slice none 0 0, .int .i64 0, .int .i64 0, .slice none 0 0]), 10, 112) := by kernel_rfl

set_option maxRecDepth 100000 in
theorem run_appendW (w : World) (base : Nat) (v : Value) (ys : List WH) (hown : w.ownsRow base 25 10 v ys.length (whs ys)) (g : Nat) (y : WH) (hg : Blk w g 25 (whc y))
    (h40 : ys.length < 1256584717458) (hbase : base ≤ w.heap.size) (ty : TypeId) :
    ∃ v' w', (Builtin.append_ #[26, 26] ty #[v, .slice (some ⟨g, 0, none⟩) 1 1]).run Tryz.prog w = .ok v' w' ∧ w'.ownsRow base 25 10 v' (ys ++ [y]).length (whs (ys ++ [y])) ∧ w.grownBy w' v.ownBlock := by
  obtain ⟨i0, hi, hz0, hz1, hz2⟩ := info_parts wish_info
  have hcells : ∀ j u, (whc y)[j]? = some u → w.cell? ((⟨g, 0, none⟩ : Addr).add j) = some u := fun j u hu => by
    rw [add_mk, Nat.zero_add]; exact hg.cell hu
  obtain ⟨v', w', h1, h2, h3, _, h5⟩ := run_append_own_at (P := Tryz.prog) w base 26 ty 25 i0 _ 10 112 Tryz.underlying26 hi hz0 hz1 hz2 rfl (by decide) v ys.length (whs ys) hown ⟨g, 0, none⟩ 1 1 (whc y)
    (by rw [whc_len]) hcells (whc_one y) (by simp only [maxLen]; omega) (by omega) hbase
  exact ⟨v', w', h1, by rw [whs_snoc, List.length_append]; exact h2, h3⟩

theorem wp_appendW {w : World} {ops : Array Oper} {rest : List Oper} {o : Oper} {a : Act} {Q : Exit → Act → World → Prop} (hgd : o.guard = none) (s x : Operand)
    (ho : o.op = .call { callee := .builtin .append, args := #[s, x], argTypes := #[26, 26] })
    (base : Nat) (v : Value) (ys : List WH) (hs : a.eval s = v) (hown : OwnL w base v ys) (g : Nat) (y : WH) (hx : a.eval x = .slice (some ⟨g, 0, none⟩) 1 1) (hg : Blk w g 25 (whc y)) (hy : WHo w base y)
    (h40 : ys.length < 1256584717458) (hbase : base ≤ w.heap.size)
    (h : ∀ v' w', OwnL w' base v' (ys ++ [y]) → Out (fun i => Nu base w i) w w' → wpList Tryz.prog ops Q rest (a.put o.dst v') w') :
    wpList Tryz.prog ops Q (o :: rest) a w := by
  obtain ⟨v', w', hrun, h2, h3⟩ := run_appendW w base v ys hown.1 g y hg h40 hbase o.type
  refine wpList_plain hgd fun K hK => ?_
  unfold Oper.wp execOp
  simp only [ho, resolve, invoke, builtin, Sem.run_bind, Sem.run_pure, Result.andThen_ok, List.map_toArray, List.map_cons, List.map_nil, hs, hx, hrun]
  have hgo := grown_out h3
  have hb : Out (fun i => Nu base w i) w w' := ⟨hgo.os, hgo.tape, hgo.output, hgo.size, fun i hi hn => hgo.block i hi fun e => hn (Nu.own hown.1 (Nat.le_refl _) wish_u8 i e)⟩
  refine hK _ _ (h v' w' ⟨h2, fun z hz => ?_⟩ hb)
  have hz' : WHo w base z := by
    rcases List.mem_append.1 hz with h | h
    · exact hown.2 z h
    · rw [List.mem_singleton] at h; rw [h]; exact hy
  -- the row of wishes is none of bytes, or of numbers
  have key : ∀ i, v.ownBlock = some i → ∀ (t : TypeId) (u : Value) (k m : Nat) (xs : List Value), w.ownsRow base t k u m xs → t ≠ 25 → u.ownBlock ≠ some i := fun i hi t u k m xs hu ht e => by
    obtain ⟨_, ⟨rfl, _⟩ | ⟨g1, cap1, cur1, rfl, _, b1, _⟩⟩ := hown.1
    · simp [Value.ownBlock] at hi
    · obtain ⟨_, ⟨rfl, _⟩ | ⟨g2, cap2, cur2, rfl, _, b2, _⟩⟩ := hu
      · simp [Value.ownBlock] at e
      · simp [Value.ownBlock] at hi e
        subst hi; subst e
        rw [b1] at b2
        injection b2 with b2
        injection b2 with _ b2 _
        exact ht b2.symm
  exact ⟨⟨own_out hz'.1.1 hgo (fun i hi e => key i e _ _ _ _ _ hz'.1.1 (by decide) hi), hz'.1.2⟩, own_out hz'.2.1 hgo (fun i hi e => key i e _ _ _ _ _ hz'.2.1 (by decide) hi), hz'.2.2⟩

end Go.Proofs.YtihmddpafbackaaGreat

namespace Go.Proofs.YtihmddpafbackaaGreat

open Go.RowKit Go.Maps

set_option linter.unusedVariables false

theorem countP_lt {α : Type} {p q : α → Bool} : ∀ (l : List α), (∀ x ∈ l, q x = true → p x = true) → (∃ x ∈ l, p x = true ∧ q x = false) → l.countP q < l.countP p
  | [], _, ⟨x, hx, _⟩ => by simp at hx
  | y :: l, h, ⟨x, hx, h1, h2⟩ => by
    have hle : l.countP q ≤ l.countP p := List.countP_mono_left fun z hz hq => h z (List.mem_cons_of_mem _ hz) hq
    rw [List.countP_cons, List.countP_cons]
    rcases List.mem_cons.1 hx with rfl | hx
    · rw [if_pos h1, if_neg (by rw [h2]; simp)]; omega
    · have ih := countP_lt l (fun z hz hq => h z (List.mem_cons_of_mem _ hz) hq) ⟨x, hx, h1, h2⟩
      have hy := h y List.mem_cons_self
      by_cases hq : q y = true
      · rw [if_pos hq, if_pos (hy hq)]; omega
      · rw [if_neg hq]; split <;> omega

/-- Slot 'd i' has a value that is as 'R i' says. -/
def Has (d : Nat → Nat) (R : Nat → Value → World → Prop) (i : Nat) (a : Act) (w : World) : Prop := ∃ v, a.tmps[d i]? = some v ∧ R i v w

/-- The slots that the region doesn't write are as they were. -/
def Base (d : Nat → Nat) (n : Nat) (a0 a : Act) : Prop := a.tmps.size = a0.tmps.size ∧ a.defers = a0.defers ∧ ∀ s, (∀ i, i < n → d i ≠ s) → a.tmps[s]? = a0.tmps[s]?

section

variable {P : Program} {ops : Array Oper} {Q : Exit → Act → World → Prop} {md : Region.Mode}

theorem ready_mem {listed : Array Bool} {i : Nat} (h : i ∈ Region.ready md ops listed) : ∃ o, ops[i]? = some o ∧ i < ops.size ∧ listed.getD i true = false ∧ ∀ e ∈ o.after, Region.binds md e = true → listed.getD e.on false = true := by
  unfold Region.ready at h
  rw [List.mem_filter, List.mem_range] at h
  obtain ⟨hi, h2⟩ := h
  rw [Bool.and_eq_true] at h2
  obtain ⟨h3, h4⟩ := h2
  refine ⟨ops[i], by simp [hi], hi, by simpa using h3, ?_⟩
  intro e he hb
  rw [Array.getElem?_eq_getElem hi] at h4
  simp only [Option.map_some, Option.getD_some] at h4
  have := (Array.all_eq_true_iff_forall_mem.1 h4) e he
  rw [hb] at this
  simpa using this

theorem ready_nil {listed : Array Bool} (hs : listed.size = ops.size) (hback : ∀ i o, ops[i]? = some o → ∀ e ∈ o.after, Region.binds md e = true → e.on < i) (h : Region.ready md ops listed = []) :
    ∀ i, i < ops.size → listed.getD i false = true := by
  intro i
  induction i using Nat.strongRecOn with
  | ind i ih =>
    intro hi
    cases hl : listed.getD i false with
    | true => rfl
    | false =>
      exfalso
      have hmem : i ∈ Region.ready md ops listed := by
        unfold Region.ready
        rw [List.mem_filter, List.mem_range]
        refine ⟨hi, ?_⟩
        rw [Bool.and_eq_true]
        have hil : i < listed.size := by omega
        constructor
        · simp [Array.getD, hil] at hl ⊢; exact hl
        · rw [Array.getElem?_eq_getElem hi]
          simp only [Option.map_some, Option.getD_some]
          rw [Array.all_eq_true_iff_forall_mem]
          intro e he
          cases hb : Region.binds md e with
          | false => rfl
          | true =>
            have hlt := hback i ops[i] (by simp [hi]) e he hb
            rw [ih e.on hlt (by omega)]
            rfl
      rw [h] at hmem
      simp at hmem

theorem any_rule (d : Nat → Nat) (R : Nat → Value → World → Prop) (a0 : Act) (w0 : World)
    (hd : ∀ i o, ops[i]? = some o → o.dst = some (d i) ∧ d i < a0.tmps.size)
    (hinj : ∀ i j, i < ops.size → j < ops.size → d i = d j → i = j)
    (hback : ∀ i o, ops[i]? = some o → ∀ e ∈ o.after, Region.binds md e = true → e.on < i)
    (hstab : ∀ i v w w', R i v w → Below w.heap.size w w' → R i v w')
    (hstep : ∀ i o, ops[i]? = some o → ∀ a w, Base d ops.size a0 a → Below w0.heap.size w0 w → (∀ e ∈ o.after, Region.binds md e = true → Has d R e.on a w) →
      ∀ K : Act → World → Prop, (∀ v w', R i v w' → Below w.heap.size w w' → K (a.put (some (d i)) v) w') → wpOp P ops Q i K a w)
    (hend : ∀ a w, Base d ops.size a0 a → Below w0.heap.size w0 w → (∀ i, i < ops.size → Has d R i a w) → Q .normal a w) :
    ∀ fuel listed a w, listed.size = ops.size → Base d ops.size a0 a → Below w0.heap.size w0 w → (∀ i, i < ops.size → listed.getD i false = true → Has d R i a w) →
      (List.range ops.size).countP (fun i => !listed.getD i true) ≤ fuel → wpAny P md ops Q fuel listed a w := by
  intro fuel
  induction fuel with
  | zero =>
    intro listed a w hs hb hw hl hc
    have hnone : Region.ready md ops listed = [] := by
      cases hr : Region.ready md ops listed with
      | nil => rfl
      | cons x xs =>
        exfalso
        obtain ⟨o, _, hx, hx2, _⟩ := ready_mem (md := md) (ops := ops) (listed := listed) (i := x) (by rw [hr]; exact List.mem_cons_self)
        have hp : 0 < (List.range ops.size).countP (fun i => !listed.getD i true) := List.countP_pos_iff.2 ⟨x, List.mem_range.2 hx, by rw [hx2]; rfl⟩
        omega
    exact ⟨hnone, hend a w hb hw fun i hi => hl i hi (ready_nil hs hback hnone i hi)⟩
  | succ fuel ih =>
    intro listed a w hs hb hw hl hc
    refine ⟨fun hr => hend a w hb hw fun i hi => hl i hi (ready_nil hs hback hr i hi), fun i hi => ?_⟩
    obtain ⟨o, ho, hi1, hi2, hi3⟩ := ready_mem hi
    have hon : ∀ e ∈ o.after, Region.binds md e = true → Has d R e.on a w := fun e he hb => hl e.on (by have := hback i o ho e he hb; omega) (hi3 e he hb)
    refine hstep i o ho a w hb hw hon _ fun v w' hv hbel => ?_
    obtain ⟨_, hdi⟩ := hd i o ho
    have hput : (a.put (some (d i)) v).tmps = a.tmps.setIfInBounds (d i) v := rfl
    refine ih (listed.setIfInBounds i true) (a.put (some (d i)) v) w' (by simpa using hs) ⟨?_, hb.2.1, ?_⟩ (hw.trans (hbel.mono hw.size)) ?_ ?_
    · rw [hput]; simpa using hb.1
    · intro s hsn
      rw [hput, Array.getElem?_setIfInBounds_ne (hsn i hi1)]
      exact hb.2.2 s hsn
    · intro j hj hjl
      by_cases e : j = i
      · subst e
        exact ⟨v, by rw [hput, Array.getElem?_setIfInBounds_self_of_lt (by rw [hb.1]; exact hdi)], hv⟩
      · have hj2 : listed.getD j false = true := by
          have : (listed.setIfInBounds i true)[j]? = listed[j]? := Array.getElem?_setIfInBounds_ne (fun h => e h.symm)
          rw [Array.getD_eq_getD_getElem?] at hjl ⊢
          rwa [this] at hjl
        obtain ⟨u, hu, hru⟩ := hl j hj hj2
        exact ⟨u, by rw [hput, Array.getElem?_setIfInBounds_ne (fun h => e (hinj i j hi1 hj h).symm)]; exact hu, hstab j u w w' hru hbel⟩
    · have hlt : (List.range ops.size).countP (fun k => !(listed.setIfInBounds i true).getD k true) < (List.range ops.size).countP (fun k => !listed.getD k true) := by
        refine countP_lt _ (fun k hk hq => ?_) ⟨i, List.mem_range.2 hi1, by rw [hi2]; rfl, ?_⟩
        · by_cases e : k = i
          · subst e
            rw [Array.getD_eq_getD_getElem?, Array.getElem?_setIfInBounds_self_of_lt (by omega)] at hq
            simp at hq
          · have : (listed.setIfInBounds i true)[k]? = listed[k]? := Array.getElem?_setIfInBounds_ne (fun h => e h.symm)
            rw [Array.getD_eq_getD_getElem?] at hq ⊢
            rwa [this] at hq
        · rw [Array.getD_eq_getD_getElem?, Array.getElem?_setIfInBounds_self_of_lt (by omega)]
          rfl
      omega

/-- From the beginning. -/
theorem region_rule {id : Nat} (d : Nat → Nat) (R : Nat → Value → World → Prop) (a0 : Act) (w0 : World) (hm : P.follows .mixedOrders = true)
    (hd : ∀ i o, ops[i]? = some o → o.dst = some (d i) ∧ d i < a0.tmps.size)
    (hinj : ∀ i j, i < ops.size → j < ops.size → d i = d j → i = j)
    (hback : ∀ i o, ops[i]? = some o → ∀ e ∈ o.after, Region.binds .any e = true → e.on < i)
    (hstab : ∀ i v w w', R i v w → Below w.heap.size w w' → R i v w')
    (hstep : ∀ i o, ops[i]? = some o → ∀ a w, Base d ops.size a0 a → Below w0.heap.size w0 w → (∀ e ∈ o.after, Region.binds .any e = true → Has d R e.on a w) →
      ∀ K : Act → World → Prop, (∀ v w', R i v w' → Below w.heap.size w w' → K (a.put (some (d i)) v) w') → wpOp P ops Q i K a w)
    (hend : ∀ a w, Base d ops.size a0 a → Below w0.heap.size w0 w → (∀ i, i < ops.size → Has d R i a w) → Q .normal a w) : (Code.region id ops true).wp P Q a0 w0 := by
  refine wp_region_any hm (any_rule (P := P) (md := .any) d R a0 w0 hd hinj hback hstab hstep hend ops.size _ a0 _ (by simp) ⟨rfl, rfl, fun _ _ => rfl⟩ ?_ ?_ ?_)
  · exact (Below.refl _ _).drew
  · intro i hi h
    rw [Array.getD_eq_getD_getElem?] at h
    simp [hi] at h
  · exact Nat.le_trans List.countP_le_length (by simp)

/-- The same, what is asked of the table by computing. -/
theorem region_rule2 {id : Nat} (n N : Nat) (d : Nat → Nat) (R : Nat → Value → World → Prop) (a0 : Act) (w0 : World) (hm : P.follows .mixedOrders = true) (hn : ops.size = n) (hN : a0.tmps.size = N)
    (ht : ((List.range n).all fun i => ((ops[i]?).map fun o => (o.dst == some (d i)) && decide (d i < N) && o.guard.isNone && o.after.all fun e => !Region.binds .any e || decide (e.on < i)).getD false) = true)
    (hinj : ((List.range n).all fun i => (List.range n).all fun j => !(d i == d j) || (i == j)) = true)
    (hstab : ∀ i v w w', R i v w → Below w.heap.size w w' → R i v w')
    (hstep : ∀ i o, i < n → ops[i]? = some o → o.guard = none → o.dst = some (d i) → ∀ a w, Base d n a0 a → Below w0.heap.size w0 w →
      (∀ j, (o.after.any fun e => Region.binds .any e && (e.on == j)) = true → Has d R j a w) →
      ∀ K : Act → World → Prop, (∀ v w', R i v w' → Below w.heap.size w w' → K (a.put o.dst v) w') → wpOp P ops Q i K a w)
    (hend : ∀ a w, Base d n a0 a → Below w0.heap.size w0 w → (∀ i, i < n → Has d R i a w) → Q .normal a w) : (Code.region id ops true).wp P Q a0 w0 := by
  subst hn
  subst hN
  have hlt : ∀ i o, ops[i]? = some o → i < ops.size := fun i o h => by
    rcases Nat.lt_or_ge i ops.size with hl | hl
    · exact hl
    · rw [Array.getElem?_eq_none hl] at h; cases h
  have key : ∀ i o, ops[i]? = some o → o.dst = some (d i) ∧ d i < a0.tmps.size ∧ o.guard = none ∧ ∀ e ∈ o.after, Region.binds .any e = true → e.on < i := by
    intro i o ho
    have h := List.all_eq_true.1 ht i (List.mem_range.2 (hlt i o ho))
    rw [ho] at h
    simp only [Option.map_some, Option.getD_some, Bool.and_eq_true, beq_iff_eq, decide_eq_true_eq, Option.isNone_iff_eq_none] at h
    obtain ⟨⟨⟨h1, h2⟩, h3⟩, h4⟩ := h
    refine ⟨h1, h2, h3, fun e he hb => ?_⟩
    have := Array.all_eq_true_iff_forall_mem.1 h4 e he
    rw [hb] at this
    simpa using this
  refine region_rule (P := P) d R a0 w0 hm (fun i o ho => ⟨(key i o ho).1, (key i o ho).2.1⟩) (fun i j hi hj e => ?_) (fun i o ho => (key i o ho).2.2.2) hstab (fun i o ho a w hb hw hdep K hK => ?_) hend
  · have h := List.all_eq_true.1 (List.all_eq_true.1 hinj i (List.mem_range.2 hi)) j (List.mem_range.2 hj)
    rw [e] at h
    simpa using h
  · refine hstep i o (hlt i o ho) ho (key i o ho).2.2.1 (key i o ho).1 a w hb hw (fun j hj => ?_) K (fun v w' h1 h2 => by rw [(key i o ho).1]; exact hK v w' h1 h2)
    rw [Array.any_eq_true] at hj
    obtain ⟨k, hk, h2⟩ := hj
    simp only [Bool.and_eq_true, beq_iff_eq] at h2
    obtain ⟨h2, h3⟩ := h2
    rw [← h3]
    exact hdep _ (Array.getElem_mem hk) h2

theorem op_of {α : Type} {i : Nat} {o : Oper} (f : Oper → α) (ho : ops[i]? = some o) {v : α} (h : (ops[i]?).map f = some v) : f o = v := by
  rw [ho] at h
  exact Option.some.inj h

theorem ev_tmp {a : Act} {s : Nat} {v : Value} (h : a.tmps[s]? = some v) : a.eval (.tmp s) = v := by
  show a.tmps.getD s undef = v
  rw [Array.getD_eq_getD_getElem?, h]; rfl

theorem st_plain {i : Nat} {o : Oper} {a : Act} {w w' : World} {K : Act → World → Prop} {v : Value} (ho : ops[i]? = some o) (hg : o.guard = none)
    (hrun : Sem.run P (execOp a.eval o) w = .ok (Next.value v) w') (hK : K (a.put o.dst v) w') : wpOp P ops Q i K a w := by
  refine wpOp_step ho (fun K' hK' => ?_)
  have hw : Region.wanted o (yielded ops a.tmps) = true := by unfold Region.wanted; rw [hg]
  rw [if_pos hw]
  unfold Oper.wp
  rw [hrun]
  exact hK' _ _ hK

theorem st_move {i s : Nat} {o : Oper} {a : Act} {w : World} {K : Act → World → Prop} {v : Value} (ho : ops[i]? = some o) (hg : o.guard = none) (hop : o.op = .move (.tmp s)) (hv : a.tmps[s]? = some v)
    (hK : K (a.put o.dst v) w) : wpOp P ops Q i K a w := by
  refine st_plain ho hg ?_ hK
  unfold execOp
  rw [hop, ← ev_tmp hv]
  rfl

theorem st_assign {i s : Nat} {o : Oper} {a : Act} {w : World} {K : Act → World → Prop} {v : Value} (ho : ops[i]? = some o) (hg : o.guard = none) (hop : o.op = .assign (.tmp s)) (hv : a.tmps[s]? = some v)
    (hK : K (a.put o.dst v) w) : wpOp P ops Q i K a w := by
  refine st_plain ho hg ?_ hK
  unfold execOp
  rw [hop, ← ev_tmp hv]
  rfl

theorem st_build {i : Nat} {o : Oper} {a : Act} {w : World} {K : Act → World → Prop} (ho : ops[i]? = some o) (hg : o.guard = none) (t : TypeId) (parts : Array (Nat × Operand)) (hop : o.op = .build t parts) (cells : Array Value)
    (he : P.built t (parts.toList.map fun p => (p.1, a.eval p.2)) = some cells) (hK : K (a.put o.dst (.agg cells)) w) : wpOp P ops Q i K a w :=
  st_plain ho hg (exec_build t parts hop cells he w) hK

theorem st_row {i n : Nat} {o : Oper} {a : Act} {w : World} {K : Act → World → Prop} (ho : ops[i]? = some o) (hg : o.guard = none) (t e : TypeId) (parts : Array (Nat × Operand)) (hop : o.op = .buildSlice t n parts) (cells : Array Value)
    (he : (Instr.buildSlice t n (parts.map fun p => (p.1, a.eval p.2))).run P w = .ok (.slice (some ⟨w.heap.size, 0, none⟩) n n) (w.alloc (.cells cells e)))
    (hK : K (a.put o.dst (.slice (some ⟨w.heap.size, 0, none⟩) n n)) (w.alloc (.cells cells e))) : wpOp P ops Q i K a w := by
  refine st_plain ho hg ?_ hK
  have he' : (Instr.buildSlice t n (parts.map fun (i, x) => (i, a.eval x))).run P w = .ok (.slice (some ⟨w.heap.size, 0, none⟩) n n) (w.alloc (.cells cells e)) := he
  unfold execOp
  simp only [hop, Sem.run_bind, he', Result.andThen_ok]
  rfl

theorem st_slice {i : Nat} {o : Oper} {a : Act} {w : World} {K : Act → World → Prop} {v : Value} (ho : ops[i]? = some o) (hg : o.guard = none) (t : TypeId) (x : Operand) (k : Value) (hop : o.op = .slice t x none (some (.const k)) none)
    (he : (Instr.sliceAt t (a.eval x) none (some k) none).run P w = .ok v w) (hK : K (a.put o.dst v) w) : wpOp P ops Q i K a w := by
  refine st_plain ho hg ?_ hK
  have he' : (Instr.sliceAt t (a.eval x) (Option.map a.eval none) (Option.map a.eval (some (.const k))) (Option.map a.eval none)).run P w = .ok v w := he
  unfold execOp
  simp only [hop, Sem.run_bind, he', Result.andThen_ok]
  rfl

end

end Go.Proofs.YtihmddpafbackaaGreat

namespace Go.Proofs.YtihmddpafbackaaGreat

open Go.RowKit Go.Maps

set_option linter.unusedVariables false

section

variable {P : Program} {ops : Array Oper} {Q : Exit → Act → World → Prop}

/-- What is asked of the table by computing: guards are met where they come up ('gb' tells which answer each guard gives). -/
theorem region_rule3 {id : Nat} (n N : Nat) (d : Nat → Nat) (gb : Nat → Bool) (R : Nat → Value → World → Prop) (a0 : Act) (w0 : World) (hm : P.follows .mixedOrders = true) (hn : ops.size = n) (hN : a0.tmps.size = N)
    (ht : ((List.range n).all fun i => ((ops[i]?).map fun o => (o.dst == some (d i)) && decide (d i < N) && (match o.guard with | none => true | some (g, b) => b && gb g && decide (g < n) && o.after.any fun e => Region.binds .any e && (e.on == g)) && o.after.all fun e => !Region.binds .any e || decide (e.on < i)).getD false) = true)
    (hinj : ((List.range n).all fun i => (List.range n).all fun j => !(d i == d j) || (i == j)) = true)
    (hgb : ∀ i v w, gb i = true → R i v w → v = .bool true)
    (hstab : ∀ i v w w', R i v w → Below w.heap.size w w' → R i v w')
    (hstep : ∀ i o, i < n → ops[i]? = some o → o.dst = some (d i) → ∀ a w, Base d n a0 a → Below w0.heap.size w0 w → Region.wanted o (yielded ops a.tmps) = true →
      (∀ j, (o.after.any fun e => Region.binds .any e && (e.on == j)) = true → Has d R j a w) →
      ∀ K : Act → World → Prop, (∀ v w', R i v w' → Below w.heap.size w w' → K (a.put o.dst v) w') → wpOp P ops Q i K a w)
    (hend : ∀ a w, Base d n a0 a → Below w0.heap.size w0 w → (∀ i, i < n → Has d R i a w) → Q .normal a w) : (Code.region id ops true).wp P Q a0 w0 := by
  subst hn
  subst hN
  have hlt : ∀ i o, ops[i]? = some o → i < ops.size := fun i o h => by
    rcases Nat.lt_or_ge i ops.size with hl | hl
    · exact hl
    · rw [Array.getElem?_eq_none hl] at h; cases h
  have key : ∀ i o, ops[i]? = some o → o.dst = some (d i) ∧ d i < a0.tmps.size ∧ (∀ g b, o.guard = some (g, b) → b = true ∧ gb g = true ∧ g < ops.size ∧ (o.after.any fun e => Region.binds .any e && (e.on == g)) = true) ∧ ∀ e ∈ o.after, Region.binds .any e = true → e.on < i := by
    intro i o ho
    have h := List.all_eq_true.1 ht i (List.mem_range.2 (hlt i o ho))
    rw [ho] at h
    simp only [Option.map_some, Option.getD_some, Bool.and_eq_true, beq_iff_eq, decide_eq_true_eq] at h
    obtain ⟨⟨⟨h1, h2⟩, h3⟩, h4⟩ := h
    refine ⟨h1, h2, fun g b hg => ?_, fun e he hb => ?_⟩
    · rw [hg] at h3
      simp only [Bool.and_eq_true, decide_eq_true_eq] at h3
      exact ⟨h3.1.1.1, h3.1.1.2, h3.1.2, h3.2⟩
    · have := Array.all_eq_true_iff_forall_mem.1 h4 e he
      rw [hb] at this
      simpa using this
  refine region_rule (P := P) d R a0 w0 hm (fun i o ho => ⟨(key i o ho).1, (key i o ho).2.1⟩) (fun i j hi hj e => ?_) (fun i o ho => (key i o ho).2.2.2) hstab (fun i o ho a w hb hw hdep K hK => ?_) hend
  · have h := List.all_eq_true.1 (List.all_eq_true.1 hinj i (List.mem_range.2 hi)) j (List.mem_range.2 hj)
    rw [e] at h
    simpa using h
  · have hdep' : ∀ j, (o.after.any fun e => Region.binds .any e && (e.on == j)) = true → Has d R j a w := fun j hj => by
      rw [Array.any_eq_true] at hj
      obtain ⟨k, hk, h2⟩ := hj
      simp only [Bool.and_eq_true, beq_iff_eq] at h2
      obtain ⟨h2, h3⟩ := h2
      rw [← h3]
      exact hdep _ (Array.getElem_mem hk) h2
    refine hstep i o (hlt i o ho) ho (key i o ho).1 a w hb hw ?_ hdep' K (fun v w' h1 h2 => by rw [(key i o ho).1]; exact hK v w' h1 h2)
    unfold Region.wanted
    cases hg : o.guard with
    | none => rfl
    | some gp =>
      obtain ⟨g, b⟩ := gp
      obtain ⟨h1, h2, h3, h4⟩ := (key i o ho).2.2.1 g b hg
      obtain ⟨v, hv, hR⟩ := hdep' g h4
      have ev := hgb g v w h2 hR
      subst ev
      subst h1
      have hog : ops[g]? = some ops[g] := Array.getElem?_eq_getElem h3
      have hdg := (key g _ hog).1
      show (yielded ops a.tmps g == some true) = true
      unfold yielded
      rw [hog, Option.bind_some, hdg, Option.bind_some, hv]
      rfl

/-- The same, where some guards may not be met: 'gb' tells what each guard answers, 'sk' which operations are passed over so. -/
theorem region_rule4 {id : Nat} (n N : Nat) (d : Nat → Nat) (gb : Nat → Option Bool) (sk : Nat → Bool) (R : Nat → Value → World → Prop) (a0 : Act) (w0 : World) (hm : P.follows .mixedOrders = true) (hn : ops.size = n) (hN : a0.tmps.size = N)
    (ht : ((List.range n).all fun i => ((ops[i]?).map fun o => (o.dst == some (d i)) && decide (d i < N) && (match o.guard with | none => !sk i | some (g, b) => (gb g).isSome && (sk i == !(gb g == some b)) && decide (g < n) && o.after.any fun e => Region.binds .any e && (e.on == g)) && o.after.all fun e => !Region.binds .any e || decide (e.on < i)).getD false) = true)
    (hinj : ((List.range n).all fun i => (List.range n).all fun j => !(d i == d j) || (i == j)) = true)
    (hgb : ∀ i b v w, gb i = some b → R i v w → v = .bool b)
    (hsk : ∀ i w, sk i = true → R i undef w)
    (hstab : ∀ i v w w', R i v w → Below w.heap.size w w' → R i v w')
    (hstep : ∀ i o, i < n → sk i = false → ops[i]? = some o → o.dst = some (d i) → ∀ a w, Base d n a0 a → Below w0.heap.size w0 w → Region.wanted o (yielded ops a.tmps) = true →
      (∀ j, (o.after.any fun e => Region.binds .any e && (e.on == j)) = true → Has d R j a w) →
      ∀ K : Act → World → Prop, (∀ v w', R i v w' → Below w.heap.size w w' → K (a.put o.dst v) w') → wpOp P ops Q i K a w)
    (hend : ∀ a w, Base d n a0 a → Below w0.heap.size w0 w → (∀ i, i < n → Has d R i a w) → Q .normal a w) : (Code.region id ops true).wp P Q a0 w0 := by
  subst hn
  subst hN
  have hlt : ∀ i o, ops[i]? = some o → i < ops.size := fun i o h => by
    rcases Nat.lt_or_ge i ops.size with hl | hl
    · exact hl
    · rw [Array.getElem?_eq_none hl] at h; cases h
  have key : ∀ i o, ops[i]? = some o → o.dst = some (d i) ∧ d i < a0.tmps.size ∧ (o.guard = none → sk i = false) ∧ (∀ g b, o.guard = some (g, b) → (gb g).isSome = true ∧ sk i = !(gb g == some b) ∧ g < ops.size ∧ (o.after.any fun e => Region.binds .any e && (e.on == g)) = true) ∧ ∀ e ∈ o.after, Region.binds .any e = true → e.on < i := by
    intro i o ho
    have h := List.all_eq_true.1 ht i (List.mem_range.2 (hlt i o ho))
    rw [ho] at h
    simp only [Option.map_some, Option.getD_some, Bool.and_eq_true, beq_iff_eq, decide_eq_true_eq] at h
    obtain ⟨⟨⟨h1, h2⟩, h3⟩, h4⟩ := h
    refine ⟨h1, h2, fun hg => ?_, fun g b hg => ?_, fun e he hb => ?_⟩
    · rw [hg] at h3
      simpa using h3
    · rw [hg] at h3
      simp only [Bool.and_eq_true, decide_eq_true_eq, beq_iff_eq] at h3
      exact ⟨h3.1.1.1, h3.1.1.2, h3.1.2, h3.2⟩
    · have := Array.all_eq_true_iff_forall_mem.1 h4 e he
      rw [hb] at this
      simpa using this
  refine region_rule (P := P) d R a0 w0 hm (fun i o ho => ⟨(key i o ho).1, (key i o ho).2.1⟩) (fun i j hi hj e => ?_) (fun i o ho => (key i o ho).2.2.2.2) hstab (fun i o ho a w hb hw hdep K hK => ?_) hend
  · have h := List.all_eq_true.1 (List.all_eq_true.1 hinj i (List.mem_range.2 hi)) j (List.mem_range.2 hj)
    rw [e] at h
    simpa using h
  · have hdep' : ∀ j, (o.after.any fun e => Region.binds .any e && (e.on == j)) = true → Has d R j a w := fun j hj => by
      rw [Array.any_eq_true] at hj
      obtain ⟨k, hk, h2⟩ := hj
      simp only [Bool.and_eq_true, beq_iff_eq] at h2
      obtain ⟨h2, h3⟩ := h2
      rw [← h3]
      exact hdep _ (Array.getElem_mem hk) h2
    have hwant : Region.wanted o (yielded ops a.tmps) = !sk i := by
      unfold Region.wanted
      cases hg : o.guard with
      | none => rw [(key i o ho).2.2.1 hg]; rfl
      | some gp =>
        obtain ⟨g, b⟩ := gp
        obtain ⟨h1, h2, h3, h4⟩ := (key i o ho).2.2.2.1 g b hg
        obtain ⟨v, hv, hR⟩ := hdep' g h4
        obtain ⟨b', hb'⟩ := Option.isSome_iff_exists.1 h1
        have ev := hgb g b' v w hb' hR
        subst ev
        have hog : ops[g]? = some ops[g] := Array.getElem?_eq_getElem h3
        have hdg := (key g _ hog).1
        rw [h2, hb']
        show (yielded ops a.tmps g == some b) = _
        unfold yielded
        rw [hog, Option.bind_some, hdg, Option.bind_some, hv]
        cases b' <;> cases b <;> rfl
    cases hs : sk i with
    | false => exact hstep i o (hlt i o ho) hs ho (key i o ho).1 a w hb hw (by rw [hwant, hs]; rfl) hdep' K (fun v w' h1 h2 => by rw [(key i o ho).1]; exact hK v w' h1 h2)
    | true =>
      refine wpOp_step ho (fun K' hK' => ?_)
      rw [if_neg (by rw [hwant, hs]; simp)]
      refine hK' _ _ ?_
      rw [(key i o ho).1]
      exact hK undef w (hsk i w hs) (Below.refl _ _)

/-- A step whose run is known. -/
theorem st3 {i : Nat} {o : Oper} {a : Act} {w w' : World} {K : Act → World → Prop} {v : Value} (ho : ops[i]? = some o) (hw : Region.wanted o (yielded ops a.tmps) = true)
    (hrun : Sem.run P (execOp a.eval o) w = .ok (Next.value v) w') (hK : K (a.put o.dst v) w') : wpOp P ops Q i K a w := by
  refine wpOp_step ho (fun K' hK' => ?_)
  rw [if_pos hw]
  unfold Oper.wp
  rw [hrun]
  exact hK' _ _ hK

/-- A step that is a call of a function of the program. -/
theorem st3_call {i f : Nat} {o : Oper} {a : Act} {w : World} {K : Act → World → Prop} {vals : Array Value} {Z : Value → World → Prop} (ho : ops[i]? = some o) (hw : Region.wanted o (yielded ops a.tmps) = true)
    (hrun : Sem.run P (execOp a.eval o) w = .ok (Next.enter f vals) w) (hc : Calls P f vals w fun e w' => ∃ v, e = .returned v ∧ Z v w') (hK : ∀ v w', Z v w' → K (a.put o.dst v) w') : wpOp P ops Q i K a w := by
  refine wpOp_step ho (fun K' hK' => ?_)
  rw [if_pos hw]
  unfold Oper.wp
  rw [hrun]
  refine hc.mono ?_
  rintro e w' ⟨v, rfl, hz⟩
  exact hK' _ _ (hK v w' hz)

end

theorem fold_set (g : Nat → Value) : ∀ (ds : List Nat) (t0 : Array Value), (ds.foldl (fun t s => t.setIfInBounds s (g s)) t0).size = t0.size ∧
    ∀ s, (ds.foldl (fun t s => t.setIfInBounds s (g s)) t0)[s]? = if s ∈ ds ∧ s < t0.size then some (g s) else t0[s]?
  | [], t0 => ⟨rfl, fun s => by simp⟩
  | x :: ds, t0 => by
    obtain ⟨h1, h2⟩ := fold_set g ds (t0.setIfInBounds x (g x))
    rw [List.foldl_cons]
    refine ⟨by rw [h1]; simp, fun s => ?_⟩
    rw [h2]
    simp only [Array.size_setIfInBounds, List.mem_cons]
    by_cases hs : s < t0.size
    · by_cases hm : s ∈ ds
      · simp [hm, hs]
      · by_cases hx : s = x
        · subst hx
          simp [hm, hs]
        · simp [hm, hx, Array.getElem?_setIfInBounds_ne (fun e => hx e.symm)]
    · rw [if_neg (fun h => hs h.2), if_neg (fun h => hs h.2), Array.getElem?_eq_none (by simp; omega), Array.getElem?_eq_none (by omega)]

/-- Behind a region: the act is as it was but for the slots that the region writes. -/
theorem base_lit {d : Nat → Nat} {n : Nat} {a0 a : Act} (hb : Base d n a0 a) (ds : List Nat) (hds : (List.range n).map d = ds) :
    ∃ g : Nat → Value, (∀ s v, a.tmps[s]? = some v → g s = v) ∧ a = { tmps := ds.foldl (fun t s => t.setIfInBounds s (g s)) a0.tmps, defers := a0.defers } := by
  refine ⟨fun s => a.tmps.getD s undef, fun s v hv => by simp only [Array.getD_eq_getD_getElem?, hv]; rfl, ?_⟩
  obtain ⟨h1, h2⟩ := fold_set (fun s => a.tmps.getD s undef) ds a0.tmps
  have e : a.tmps = ds.foldl (fun t s => t.setIfInBounds s (a.tmps.getD s undef)) a0.tmps := by
    apply Array.ext_getElem?
    intro s
    rw [h2]
    by_cases hs : s < a0.tmps.size
    · by_cases hm : s ∈ ds
      · rw [if_pos ⟨hm, hs⟩]
        have hs' : s < a.tmps.size := by rw [hb.1]; exact hs
        simp [hs']
      · rw [if_neg (fun h => hm h.1)]
        refine hb.2.2 s fun i hi e => hm ?_
        rw [← hds]
        exact List.mem_map.2 ⟨i, List.mem_range.2 hi, e⟩
    · rw [if_neg (fun h => hs h.2), Array.getElem?_eq_none (by rw [hb.1]; omega), Array.getElem?_eq_none (by omega)]
  cases a with
  | mk t df =>
    have hd : df = a0.defers := hb.2.1
    subst hd
    simp only [Act.mk.injEq, and_true]
    exact e

end Go.Proofs.YtihmddpafbackaaGreat
