/-
  Laid together for a hand-in: Ls11, Pk11, Un11, Rule.
-/
import Derived.Test.YtihmddpafbackaaZ06
import Derived.Test.YtihmddpafbackaaZ04
import Derived.Below

namespace Go.Proofs.Ytihmddpafbackaa

open Go.RowKit Go.Maps

set_option linter.unusedVariables false

set_option linter.unusedSimpArgs false

/-- A wish and the slices of its lists, as memory has them. -/
structure WH where
  x : Wl
  D : Option Addr
  nd : Nat
  cd : Nat
  N : Option Addr
  nn : Nat
  cn : Nat

def whc (y : WH) : List Value := [.int .i64 y.x.cl, .int .i64 y.x.sp, .int .i64 y.x.gr, .int .i64 y.x.ep, .int .i64 y.x.kd, .int .i64 y.x.bl, .slice y.D y.nd y.cd, .int .i64 y.x.od, .int .i64 y.x.nw, .slice y.N y.nn y.cn]

def whs (ys : List WH) : List Value := (ys.map whc).flatten

theorem whc_len (y : WH) : (whc y).length = 10 := rfl

theorem whs_cons (y : WH) (ys : List WH) : whs (y :: ys) = whc y ++ whs ys := by simp [whs]

theorem whs_snoc (ys : List WH) (y : WH) : whs (ys ++ [y]) = whs ys ++ whc y := by simp [whs]

theorem whs_at : ∀ (ys : List WH) (j i : Nat) (y : WH), ys[j]? = some y → i < 10 → (whs ys)[j * 10 + i]? = (whc y)[i]?
  | [], j, i, y, h, _ => by simp at h
  | z :: ys, 0, i, y, h, hi => by
    simp at h
    subst h
    rw [whs_cons, Nat.zero_mul, Nat.zero_add, List.getElem?_append_left (by rw [whc_len]; exact hi)]
  | z :: ys, j + 1, i, y, h, hi => by
    rw [whs_cons, List.getElem?_append_right (by rw [whc_len]; omega), whc_len]
    have e : (j + 1) * 10 + i - 10 = j * 10 + i := by omega
    rw [e]
    exact whs_at ys j i y (by simpa using h) hi

theorem whc_one (y : WH) : ∀ u ∈ whc y, u.oneCell' = true := by
  intro u hu
  simp [whc] at hu
  rcases hu with rfl | rfl | rfl | rfl | rfl | rfl | rfl | rfl | rfl | rfl <;> rfl

/-- A list of wishes that is shown. -/
def ArgL (w : World) (A : Option Addr) (n c : Nat) (l : List Wl) : Prop := l.length = n ∧ n ≤ c ∧ c ≤ maxLen ∧
  (l ≠ [] → ∃ b off, A = some ⟨b, off, none⟩ ∧ b < w.heap.size ∧ ∀ j (hj : j < l.length), ∃ (D : Option Addr) (nd cd : Nat) (N : Option Addr) (nn cn : Nat), w.rangeAt b (off + j * 10) (whc ⟨l[j], D, nd, cd, N, nn, cn⟩) ∧ ArgW w l[j] D nd cd N nn cn)

theorem range_on {w w' : World} {b o B : Nat} {cs : List Value} (h : w.rangeAt b o cs) (hb : Below B w w') (hlt : b < B) : w'.rangeAt b o cs := fun j v hv => (hb.cell (p := ⟨b, o + j, none⟩) hlt).trans (h j v hv)

theorem ArgL.after {w w' : World} {A : Option Addr} {n c : Nat} {l : List Wl} (h : ArgL w A n c l) (hb : Below w.heap.size w w') : ArgL w' A n c l :=
  ⟨h.1, h.2.1, h.2.2.1, fun hn => let ⟨b, off, e, hlt, hd⟩ := h.2.2.2 hn; ⟨b, off, e, Nat.lt_of_lt_of_le hlt hb.size, fun j hj => let ⟨D, nd, cd, N, nn, cn, h1, h2⟩ := hd j hj; ⟨D, nd, cd, N, nn, cn, range_on h1 hb hlt, h2.after hb⟩⟩⟩

theorem ArgL.at_ {w : World} {A : Option Addr} {n c : Nat} {l : List Wl} (h : ArgL w A n c l) {j : Nat} (hj : j < l.length) :
    ∃ b off D nd cd N nn cn, A = some ⟨b, off, none⟩ ∧ b < w.heap.size ∧ w.rangeAt b (off + j * 10) (whc ⟨l[j], D, nd, cd, N, nn, cn⟩) ∧ ArgW w l[j] D nd cd N nn cn := by
  obtain ⟨b, off, e, hlt, hd⟩ := h.2.2.2 (fun e => by rw [e] at hj; simp at hj)
  obtain ⟨D, nd, cd, N, nn, cn, h1, h2⟩ := hd j hj
  exact ⟨b, off, D, nd, cd, N, nn, cn, e, hlt, h1, h2⟩

theorem range_ks {w : World} {b o : Nat} {y : WH} (h : w.rangeAt b o (whc y)) : (w.cell? ⟨b, o, none⟩ = some (.int .i64 y.x.cl) ∧ w.cell? ⟨b, o + 1, none⟩ = some (.int .i64 y.x.sp) ∧ w.cell? ⟨b, o + 2, none⟩ = some (.int .i64 y.x.gr) ∧ w.cell? ⟨b, o + 3, none⟩ = some (.int .i64 y.x.ep) ∧ w.cell? ⟨b, o + 4, none⟩ = some (.int .i64 y.x.kd)) ∧
    w.cell? ⟨b, o + 5, none⟩ = some (.int .i64 y.x.bl) ∧ w.cell? ⟨b, o + 6, none⟩ = some (.slice y.D y.nd y.cd) ∧ w.cell? ⟨b, o + 7, none⟩ = some (.int .i64 y.x.od) ∧ w.cell? ⟨b, o + 8, none⟩ = some (.int .i64 y.x.nw) ∧ w.cell? ⟨b, o + 9, none⟩ = some (.slice y.N y.nn y.cn) :=
  ⟨⟨h 0 _ rfl, h 1 _ rfl, h 2 _ rfl, h 3 _ rfl, h 4 _ rfl⟩, h 5 _ rfl, h 6 _ rfl, h 7 _ rfl, h 8 _ rfl, h 9 _ rfl⟩

/-- The lists of such a wish lie in rows made from 'base' on. -/
def WHo (w : World) (base : Nat) (y : WH) : Prop := (Mine w base 5 (.slice y.D y.nd y.cd) y.x.da ∧ y.x.da.length = y.nd) ∧ (OwnI w base (.slice y.N y.nn y.cn) y.x.nx ∧ y.x.nx.length = y.nn)

theorem WHo.out {S : Nat → Prop} {w w' : World} {base : Nat} {y : WH} (h : WHo w base y) (ho : Out S w w') (hS : ∀ i, S i → i < base) : WHo w' base y :=
  ⟨⟨own_out h.1.1 ho (fun i hi e => by have := (World.ownsRow.lt h.1.1 i hi).1; have := hS i e; omega), h.1.2⟩, own_out h.2.1 ho (fun i hi e => by have := (World.ownsRow.lt h.2.1 i hi).1; have := hS i e; omega), h.2.2⟩

theorem WHo.on {w w' : World} {base : Nat} {y : WH} (h : WHo w base y) (hb : Below w.heap.size w w') : WHo w' base y := h.out (Out.ofBelow (fun _ => False) hb) (fun _ e => e.elim)

theorem WHo.base {w : World} {b b' : Nat} {y : WH} (h : WHo w b y) (hb : b' ≤ b) : WHo w b' y := ⟨⟨Mine.base h.1.1 hb, h.1.2⟩, own_base h.2.1 hb, h.2.2⟩

/-- A list of wishes that a call made, its lists, too: rows from 'base' on. -/
def OwnL (w : World) (base : Nat) (v : Value) (ys : List WH) : Prop := w.ownsRow base 25 10 v ys.length (whs ys) ∧ ∀ y ∈ ys, WHo w base y

theorem OwnL.nil (w : World) (base : Nat) : OwnL w base (.slice none 0 0) [] := ⟨World.ownsRow_nil _ _ _ _, fun y hy => by simp at hy⟩

theorem OwnL.out {S : Nat → Prop} {w w' : World} {base : Nat} {v : Value} {ys : List WH} (h : OwnL w base v ys) (ho : Out S w w') (hS : ∀ i, S i → i < base) : OwnL w' base v ys :=
  ⟨own_out h.1 ho (fun i hi e => by have := (World.ownsRow.lt h.1 i hi).1; have := hS i e; omega), fun y hy => (h.2 y hy).out ho hS⟩

theorem OwnL.on {w w' : World} {base : Nat} {v : Value} {ys : List WH} (h : OwnL w base v ys) (hb : Below w.heap.size w w') : OwnL w' base v ys := h.out (Out.ofBelow (fun _ => False) hb) (fun _ e => e.elim)

theorem OwnL.base {w : World} {b b' : Nat} {v : Value} {ys : List WH} (h : OwnL w b v ys) (hb : b' ≤ b) : OwnL w b' v ys := ⟨own_base h.1 hb, fun y hy => (h.2 y hy).base hb⟩

theorem row_form {w : World} {base n k : Nat} {e : TypeId} {v : Value} {xs : List Value} (h : w.ownsRow base e k v n xs) : ∃ A c, v = .slice A n c := by
  obtain ⟨h1, ⟨e, e0⟩ | ⟨g, cap, cur, e, _⟩⟩ := h
  · exact ⟨none, 0, by rw [e, e0]⟩
  · exact ⟨_, cap, e⟩

theorem WHo.arg {w : World} {base : Nat} {y : WH} (h : WHo w base y) (hx : WNm y.x) : ArgW w y.x y.D y.nd y.cd y.N y.nn y.cn := by
  have hv : WV w base y.x (.agg (whc y).toArray) := ⟨y.D, y.nd, y.cd, y.N, y.nn, y.cn, rfl, h.1, h.2.1, h.2.2⟩
  obtain ⟨D', nd', cd', N', nn', cn', e, ha, _⟩ := hv.arg hx
  have e := congrArg (fun v => match v with | Value.agg a => (a[6]?, a[9]?) | _ => (none, none)) e
  simp only [whc, List.getElem?_toArray, List.getElem?_cons_succ, List.getElem?_cons_zero, Prod.mk.injEq, Option.some.injEq, Value.slice.injEq] at e
  obtain ⟨⟨rfl, rfl, rfl⟩, rfl, rfl, rfl⟩ := e
  exact ha

/-- What is known of a wish's lists that bounds them. -/
theorem OwnL.arg {w : World} {base n c : Nat} {A : Option Addr} {ys : List WH} (h : OwnL w base (.slice A n c) ys) (hn : ys.length = n) (hx : ∀ y ∈ ys, ArgW w y.x y.D y.nd y.cd y.N y.nn y.cn) : ArgL w A n c (ys.map (·.x)) := by
  have hown' := h.1
  obtain ⟨h1, ⟨e, e0⟩ | ⟨g, cap, cur, e, hbg, hg, hc, hm, _⟩⟩ := h.1
  · injection e with e1 e2 e3
    subst e1; subst e2; subst e3
    have : ys = [] := List.eq_nil_of_length_eq_zero hn
    subst this
    exact ⟨rfl, Nat.le_refl _, by simp [maxLen], fun h => absurd rfl h⟩
  · injection e with e1 e2 e3
    subst e1; subst e3
    refine ⟨by rw [List.length_map, hn], by omega, hm, fun hne => ⟨g, 0, rfl, ?_, fun j hj => ?_⟩⟩
    · exact (Array.getElem?_eq_some_iff.1 hg).1
    · rw [List.length_map] at hj
      have hyj : ys[j]? = some ys[j] := List.getElem?_eq_getElem hj
      rw [List.getElem_map]
      refine ⟨ys[j].D, ys[j].nd, ys[j].cd, ys[j].N, ys[j].nn, ys[j].cn, fun i u hu => ?_, hx _ (List.getElem_mem hj)⟩
      have hi : i < 10 := by
        rcases Nat.lt_or_ge i 10 with h | h
        · exact h
        · rw [List.getElem?_eq_none (by rw [whc_len]; exact h)] at hu; cases hu
      have hsub : n = ys.length := hn.symm
      have := hown'.cells (g := g) rfl (j * 10 + i) u (by rw [whs_at ys j i _ hyj hi]; exact hu)
      rw [add_mk] at this
      rw [Nat.zero_add] at this ⊢
      exact this

theorem wish_info : (Try.prog.info? 25).map (fun i => (i.zero, i.size, i.bytes)) = some (some (.agg #[.int .i64 0, .int .i64 0, .int .i64 0, .int .i64 0, .int .i64 0, .int .i64 0, .slice none 0 0, .int .i64 0, .int .i64 0, .slice none 0 0]), 10, 112) := by kernel_rfl

set_option maxRecDepth 100000 in
theorem run_appendW (w : World) (base : Nat) (v : Value) (ys : List WH) (hown : w.ownsRow base 25 10 v ys.length (whs ys)) (g : Nat) (y : WH) (hg : Blk w g 25 (whc y))
    (h40 : ys.length < 1256584717458) (hbase : base ≤ w.heap.size) (ty : TypeId) :
    ∃ v' w', (Builtin.append_ #[39, 39] ty #[v, .slice (some ⟨g, 0, none⟩) 1 1]).run Try.prog w = .ok v' w' ∧ w'.ownsRow base 25 10 v' (ys ++ [y]).length (whs (ys ++ [y])) ∧ w.grownBy w' v.ownBlock := by
  obtain ⟨i0, hi, hz0, hz1, hz2⟩ := info_parts wish_info
  have hcells : ∀ j u, (whc y)[j]? = some u → w.cell? ((⟨g, 0, none⟩ : Addr).add j) = some u := fun j u hu => by
    rw [add_mk, Nat.zero_add]; exact hg.cell hu
  obtain ⟨v', w', h1, h2, h3, _, h5⟩ := run_append_own_at (P := Try.prog) w base 39 ty 25 i0 _ 10 112 Try.underlying39 hi hz0 hz1 hz2 rfl (by decide) v ys.length (whs ys) hown ⟨g, 0, none⟩ 1 1 (whc y)
    (by rw [whc_len]) hcells (whc_one y) (by simp only [maxLen]; omega) (by omega) hbase
  exact ⟨v', w', h1, by rw [whs_snoc, List.length_append]; exact h2, h3⟩

theorem wp_appendW {w : World} {ops : Array Oper} {rest : List Oper} {o : Oper} {a : Act} {Q : Exit → Act → World → Prop} (hgd : o.guard = none) (s x : Operand)
    (ho : o.op = .call { callee := .builtin .append, args := #[s, x], argTypes := #[39, 39] })
    (base : Nat) (v : Value) (ys : List WH) (hs : a.eval s = v) (hown : OwnL w base v ys) (g : Nat) (y : WH) (hx : a.eval x = .slice (some ⟨g, 0, none⟩) 1 1) (hg : Blk w g 25 (whc y)) (hy : WHo w base y)
    (h40 : ys.length < 1256584717458) (hbase : base ≤ w.heap.size)
    (h : ∀ v' w', OwnL w' base v' (ys ++ [y]) → Out (fun i => Nu base w i) w w' → wpList Try.prog ops Q rest (a.put o.dst v') w') :
    wpList Try.prog ops Q (o :: rest) a w := by
  obtain ⟨v', w', hrun, h2, h3⟩ := run_appendW w base v ys hown.1 g y hg h40 hbase o.type
  refine wpList_plain hgd fun K hK => ?_
  unfold Oper.wp execOp
  simp only [ho, resolve, invoke, builtin, Sem.run_bind, Sem.run_pure, Result.andThen_ok, List.map_toArray, List.map_cons, List.map_nil, hs, hx, hrun]
  have hgo := grown_out h3
  have hb : Out (fun i => Nu base w i) w w' := ⟨hgo.os, hgo.tape, hgo.output, hgo.size, fun i hi hn => hgo.block i hi fun e => hn (Nu.own hown.1 (Nat.le_refl _) wish_u8 i e)⟩
  refine hK _ _ (h v' w' ⟨h2, fun z hz => ?_⟩ hb)
  have hz' : WHo w base z := by
    rcases List.mem_append.1 hz with h | h
    · exact hown.2 z h
    · rw [List.mem_singleton] at h; rw [h]; exact hy
  -- the row of wishes is none of bytes, or of numbers
  have key : ∀ i, v.ownBlock = some i → ∀ (t : TypeId) (u : Value) (k m : Nat) (xs : List Value), w.ownsRow base t k u m xs → t ≠ 25 → u.ownBlock ≠ some i := fun i hi t u k m xs hu ht e => by
    obtain ⟨_, ⟨rfl, _⟩ | ⟨g1, cap1, cur1, rfl, _, b1, _⟩⟩ := hown.1
    · simp [Value.ownBlock] at hi
    · obtain ⟨_, ⟨rfl, _⟩ | ⟨g2, cap2, cur2, rfl, _, b2, _⟩⟩ := hu
      · simp [Value.ownBlock] at e
      · simp [Value.ownBlock] at hi e
        subst hi; subst e
        rw [b1] at b2
        injection b2 with b2
        injection b2 with _ b2 _
        exact ht b2.symm
  exact ⟨⟨own_out hz'.1.1 hgo (fun i hi e => key i e _ _ _ _ _ hz'.1.1 (by decide) hi), hz'.1.2⟩, own_out hz'.2.1 hgo (fun i hi e => key i e _ _ _ _ _ hz'.2.1 (by decide) hi), hz'.2.2⟩

end Go.Proofs.Ytihmddpafbackaa

namespace Go.Proofs.Ytihmddpafbackaa

open Go.RowKit Go.Maps

set_option linter.unusedVariables false

set_option linter.unusedSimpArgs false

theorem W0_nm : WNm W0 := by
  unfold WNm W0 Nm
  simp

theorem parse_nm (l : List UInt8) : WNm (parse l).1 := by
  by_cases h1 : ren (rdw (l, 0)).2 ≠ 0
  · have e : parse l = (W0, ren (rdw (l, 0)).2) := by unfold parse; rw [if_pos h1]
    rw [e]; exact W0_nm
  · by_cases h2 : May (rdw (l, 0)).1
    · have e : parse l = ((rdw (l, 0)).1, 0) := by unfold parse; rw [if_neg h1, if_pos h2]
      rw [e]
      show WNm (rdw (l, 0)).1
      exact rdw_nm (l, 0)
    · have e : parse l = (W0, 2) := by unfold parse; rw [if_neg h1, if_neg h2]
      rw [e]; exact W0_nm

set_option maxRecDepth 100000 in
set_option maxHeartbeats 3200000 in
theorem packed_rd (B0 g : Nat) (s : Rd) (w : World) (h : RdP B0 w g s) : Calls Try.prog 55 #[.pointer (some ⟨g, 0, none⟩)] w (RetW 60 B0 g w (rp s)) := by
  have hglt := h.lt
  obtain ⟨b, s1, e1⟩ : ∃ a b, rt 256 s = (a, b) := ⟨_, _, rfl⟩
  obtain ⟨x, z, e2⟩ : ∃ a c, parse b = (a, c) := ⟨_, _, (Prod.eta (parse b)).symm⟩
  have hxn : WNm x := by have := parse_nm b; rw [e2] at this; exact this
  have hbl : b.length ≤ 65536 := by have := rt_len 256 s; rw [e1] at this; exact this
  have hr : Hid (rp s = if s1.2 ≠ 0 then (W0, s1) else (x, (s1.1, z))) := by show _ = _; unfold rp; simp only [e1, e2]
  have hB0 := h.1
  have hb0 : Below w.heap.size w (w.alloc (.cells #[.int .i64 0, .int .i64 0, .int .i64 0, .int .i64 0, .int .i64 0, .int .i64 0, .slice none 0 0, .int .i64 0, .int .i64 0, .slice none 0 0] 25)) := (Below.refl _ _).alloc (Nat.le_refl _) _
  have hz0 : Blk (w.alloc (.cells #[.int .i64 0, .int .i64 0, .int .i64 0, .int .i64 0, .int .i64 0, .int .i64 0, .slice none 0 0, .int .i64 0, .int .i64 0, .slice none 0 0] 25)) w.heap.size 25 zWish := Blk.new rfl rfl
  obtain ⟨W1, hW1⟩ : ∃ W, w.alloc (.cells #[.int .i64 0, .int .i64 0, .int .i64 0, .int .i64 0, .int .i64 0, .int .i64 0, .slice none 0 0, .int .i64 0, .int .i64 0, .slice none 0 0] 25) = W := ⟨_, rfl⟩
  rw [hW1] at hb0 hz0
  have H1 := Lib.hid (And.intro (h.bel hb0) (And.intro hz0 (And.intro hb0 hz0.lt)))
  have HW := Lib.hid hW1
  have HE := Lib.hid (And.intro e1 (And.intro e2 (And.intro hxn hbl)))
  clear h hb0 hz0 hW1 e1 e2 hxn hbl
  generalize rp s = r at *
  go_enter Try.func55, Try.ntmps55
  go_wp2_with fail
  rw [HW.out]
  have hc := text_rd B0 g 256 s _ H1.out.1 (by omega)
  rw [HE.out.1] at hc
  refine hc.mono ?_
  clear hc
  rintro e w2 ⟨v, rfl, hM, hR, hO⟩
  obtain ⟨A2, c2, rfl, hl2, hc2, hB2⟩ := Mine.form hM
  have hr2 := hO.blk H1.out.2.1 (by omega)
  obtain ⟨hBg, A, n, c, hbk, g1, g2, g3, g4⟩ := id hR
  have k1 : w2.cell? ⟨g, 1, none⟩ = some (.int .i64 (s1.2 : Int)) := hbk.cell rfl
  have hOw : Og g w w2 := (Out.ofBelow _ H1.out.2.2.1).trans hO (fun _ _ e => e)
  have hsz := Nat.lt_of_lt_of_le H1.out.2.2.2 hO.size
  have H2 := Lib.hid (And.intro hR (And.intro hr2 (And.intro hOw (And.intro hbk (And.intro hB2 hsz)))))
  clear hM hR hO hr2 hOw hbk hB2 g4 hsz
  simp only at hl2 ⊢
  obtain ⟨n2, hn2⟩ : ∃ n, b.length = n := ⟨_, rfl⟩
  rw [hn2] at hl2 ⊢
  have hn6 : n2 ≤ 65536 := by rw [← hn2]; exact HE.out.2.2.2
  have Hn2 := Lib.hid hn2
  clear hn2
  by_cases hz : s1.2 ≠ 0
  · have hzz : (((s1.2 : Nat) : Int) != 0) = true := by simp [hz]
    have Hr : Hid (r = (W0, s1)) := by show _ = _; rw [hr.out, if_pos hz]
    clear hz
    obtain ⟨t1, t2, t3⟩ := store_facts (vs := [.int .i64 0, .int .i64 0, .int .i64 0, .int .i64 0, .int .i64 0, .int .i64 0, .slice none 0 0, .int .i64 0, .int .i64 0, .slice none 0 0]) H2.out.2.1 rfl rfl
    obtain ⟨wF, hwF0⟩ : ∃ W, w2.setCells w.heap.size 0 [.int .i64 0, .int .i64 0, .int .i64 0, .int .i64 0, .int .i64 0, .int .i64 0, .slice none 0 0, .int .i64 0, .int .i64 0, .slice none 0 0] = W := ⟨_, rfl⟩
    have hwF : w2.setCells w.heap.size 0 ([.int .i64 0, .int .i64 0, .int .i64 0, .int .i64 0, .int .i64 0, .int .i64 0, .slice none 0 0, .int .i64 0, .int .i64 0, .slice none 0 0] : List Value).toArray.toList = wF := hwF0
    have hone : ([.int .i64 0, .int .i64 0, .int .i64 0, .int .i64 0, .int .i64 0, .int .i64 0, .slice none 0 0, .int .i64 0, .int .i64 0, .slice none 0 0] : List Value).toArray.all (·.oneCell') = true := by simp [Value.oneCell']
    rw [hwF0] at t2 t3
    have hRF : RdP B0 wF g s1 := H2.out.1.out t3 (by omega) (fun i _ e => by subst e; exact Nu.blk H2.out.2.1 (by omega) wish_u8)
    have hOF : Og g w wF := H2.out.2.2.1.trans t3 (fun i hi e => by omega)
    have HS := Lib.hid (And.intro t1 (And.intro t2 (And.intro hRF (And.intro hOF (And.intro hone hwF)))))
    clear t1 t2 t3 hRF hOF hone hwF hwF0
    go_upto_region 3 with fail
    go_wp2_with (first
      | (refine wpList_build_g (by rfl) 25 _ rfl ([.int .i64 0, .int .i64 0, .int .i64 0, .int .i64 0, .int .i64 0, .int .i64 0, .slice none 0 0, .int .i64 0, .int .i64 0, .slice none 0 0] : List Value).toArray built0 ?_; simp only [Act.put])
      | (refine wpList_store_mid rfl 25 _ _ rfl w.heap.size 0 ([.int .i64 0, .int .i64 0, .int .i64 0, .int .i64 0, .int .i64 0, .int .i64 0, .slice none 0 0, .int .i64 0, .int .i64 0, .slice none 0 0] : List Value).toArray rfl rfl HS.out.1 wish_size HS.out.2.2.2.2.1 ?_; simp only [Act.put]; refine cast (congrArg (fun z => wpList _ _ _ _ _ z) HS.out.2.2.2.2.2.symm) ?_))
    refine bodyPost_ret (results_row rfl _ _ w.heap.size 25 _ _ rfl HS.out.2.1 Try.underlying25 rfl wish_size) rfl ?_
    rw [Hr.out]
    exact ⟨_, rfl, WV.zero _ _, HS.out.2.2.1, HS.out.2.2.2.1⟩
  · have hzz : (((s1.2 : Nat) : Int) != 0) = false := by simpa using hz
    have Hr : Hid (r = (x, (s1.1, z))) := by show _ = _; rw [hr.out, if_neg hz]
    clear hz
    go_wp2_with fail
    have hc := parse_any A2 n2 c2 b w2 H2.out.2.2.2.2.1 Hn2.out hl2 hc2 (by omega)
    rw [HE.out.2.1] at hc
    refine hc.mono ?_
    clear hc
    rintro e w3 ⟨v, rfl, hV, hb3⟩
    obtain ⟨Dx, ndx, cdx, Nx, nnx, cnx, rfl, hAW, hM, hN⟩ := hV.arg HE.out.2.2.1
    have hb4 : Below w3.heap.size w3 (w3.alloc (.cells #[.int .i64 x.cl, .int .i64 x.sp, .int .i64 x.gr, .int .i64 x.ep, .int .i64 x.kd, .int .i64 x.bl, .slice Dx ndx cdx, .int .i64 x.od, .int .i64 x.nw, .slice Nx nnx cnx] 25)) := (Below.refl _ _).alloc (Nat.le_refl _) _
    have hk4 : Blk (w3.alloc (.cells #[.int .i64 x.cl, .int .i64 x.sp, .int .i64 x.gr, .int .i64 x.ep, .int .i64 x.kd, .int .i64 x.bl, .slice Dx ndx cdx, .int .i64 x.od, .int .i64 x.nw, .slice Nx nnx cnx] 25)) w3.heap.size 25 [.int .i64 x.cl, .int .i64 x.sp, .int .i64 x.gr, .int .i64 x.ep, .int .i64 x.kd, .int .i64 x.bl, .slice Dx ndx cdx, .int .i64 x.od, .int .i64 x.nw, .slice Nx nnx cnx] := Blk.new rfl rfl
    obtain ⟨W4, hW4⟩ : ∃ W, w3.alloc (.cells #[.int .i64 x.cl, .int .i64 x.sp, .int .i64 x.gr, .int .i64 x.ep, .int .i64 x.kd, .int .i64 x.bl, .slice Dx ndx cdx, .int .i64 x.od, .int .i64 x.nw, .slice Nx nnx cnx] 25) = W := ⟨_, rfl⟩
    rw [hW4] at hb4 hk4
    obtain ⟨bx, hbx⟩ : ∃ b, w3.heap.size = b := ⟨_, rfl⟩
    rw [hbx] at hk4
    have hb24 : Below w2.heap.size w2 W4 := hb3.trans (hb4.mono hb3.size)
    have hbxg : w2.heap.size ≤ bx := by rw [← hbx]; exact hb3.size
    have hbr := H2.out.2.2.2.1.below hb24 H2.out.2.2.2.1.lt
    have kg : W4.cell? ⟨g, 1, none⟩ = some (.int .i64 (s1.2 : Int)) := hbr.cell rfl
    have fg := hbr.free 1
    have hrb := H2.out.2.1.below hb24 H2.out.2.1.lt
    have hst : Out (fun i => i = g) W4 (W4.setCell ⟨g, 1, none⟩ (.int .i64 (z : Int))) := (Out.refl (fun i => i = g) W4).setCell (p := ⟨g, 1, none⟩) (fun _ => rfl) _
    have hR5 : RdP B0 (W4.setCell ⟨g, 1, none⟩ (.int .i64 (z : Int))) g (s1.1, z) := by
      obtain ⟨_, A', n', c', hbk', q1, q2, q3, q4⟩ := H2.out.1.bel hb24
      have e0 : s1.2 = 0 := by simpa using hzz
      refine ⟨hB0, A', n', c', hbk'.set_ 1 _, q1, q2, q3, fun _ => ⟨(q4 e0).1, (q4 e0).2.out hst (fun i _ e => by subst e; exact Nu.blk hbr hB0 rd_u8)⟩⟩
    have hk5 := hst.blk hk4 (by have := H2.out.1.lt; omega)
    have hr5 := hst.blk hrb (by omega)
    have hM5 : Mine (W4.setCell ⟨g, 1, none⟩ (.int .i64 (z : Int))) w2.heap.size 5 (.slice Dx ndx cdx) x.da := own_out (own_below hM hb4) hst (fun i hi e => by have := (World.ownsRow.lt hM i hi).1; have := H2.out.2.2.2.2.2; have := H2.out.1.lt; omega)
    have hN5 : OwnI (W4.setCell ⟨g, 1, none⟩ (.int .i64 (z : Int))) w2.heap.size (.slice Nx nnx cnx) x.nx := own_out (own_below hN hb4) hst (fun i hi e => by have := (World.ownsRow.lt hN i hi).1; have := H2.out.2.2.2.2.2; have := H2.out.1.lt; omega)
    have hO5 : Og g w (W4.setCell ⟨g, 1, none⟩ (.int .i64 (z : Int))) := (H2.out.2.2.1.then_below hb24).trans hst (fun _ _ e => e)
    obtain ⟨W5, hW5⟩ : ∃ W, W4.setCell ⟨g, 1, none⟩ (.int .i64 (z : Int)) = W := ⟨_, rfl⟩
    rw [hW5] at hR5 hk5 hr5 hM5 hN5 hO5
    obtain ⟨t1, t2, t3⟩ := store_facts (vs := [.int .i64 x.cl, .int .i64 x.sp, .int .i64 x.gr, .int .i64 x.ep, .int .i64 x.kd, .int .i64 x.bl, .slice Dx ndx cdx, .int .i64 x.od, .int .i64 x.nw, .slice Nx nnx cnx]) hr5 rfl rfl
    obtain ⟨wF, hwF0⟩ : ∃ W, W5.setCells w.heap.size 0 [.int .i64 x.cl, .int .i64 x.sp, .int .i64 x.gr, .int .i64 x.ep, .int .i64 x.kd, .int .i64 x.bl, .slice Dx ndx cdx, .int .i64 x.od, .int .i64 x.nw, .slice Nx nnx cnx] = W := ⟨_, rfl⟩
    have hwF : W5.setCells w.heap.size 0 ([.int .i64 x.cl, .int .i64 x.sp, .int .i64 x.gr, .int .i64 x.ep, .int .i64 x.kd, .int .i64 x.bl, .slice Dx ndx cdx, .int .i64 x.od, .int .i64 x.nw, .slice Nx nnx cnx] : List Value).toArray.toList = wF := hwF0
    have hone : ([.int .i64 x.cl, .int .i64 x.sp, .int .i64 x.gr, .int .i64 x.ep, .int .i64 x.kd, .int .i64 x.bl, .slice Dx ndx cdx, .int .i64 x.od, .int .i64 x.nw, .slice Nx nnx cnx] : List Value).toArray.all (·.oneCell') = true := by simp [Value.oneCell']
    rw [hwF0] at t2 t3
    have hw2 := H2.out.2.2.2.2.2
    have hRF : RdP B0 wF g (s1.1, z) := hR5.out t3 (by omega) (fun i _ e => by subst e; exact Nu.blk hr5 (by omega) wish_u8)
    have hMF : Mine wF w.heap.size 5 (.slice Dx ndx cdx) x.da := Mine.base (own_out hM5 t3 (fun i hi e => by have := (World.ownsRow.lt hM5 i hi).1; omega)) (by omega)
    have hNF : OwnI wF w.heap.size (.slice Nx nnx cnx) x.nx := own_base (own_out hN5 t3 (fun i hi e => by have := (World.ownsRow.lt hN5 i hi).1; omega)) (by omega)
    have hOF : Og g w wF := hO5.trans t3 (fun i hi e => by omega)
    have k0' : W5.cell? ⟨bx, 0, none⟩ = some (.int .i64 x.cl) := hk5.cell rfl
    have k1' : W5.cell? ⟨bx, 1, none⟩ = some (.int .i64 x.sp) := hk5.cell rfl
    have k2' : W5.cell? ⟨bx, 2, none⟩ = some (.int .i64 x.gr) := hk5.cell rfl
    have k3' : W5.cell? ⟨bx, 3, none⟩ = some (.int .i64 x.ep) := hk5.cell rfl
    have k4' : W5.cell? ⟨bx, 4, none⟩ = some (.int .i64 x.kd) := hk5.cell rfl
    have k5' : W5.cell? ⟨bx, 5, none⟩ = some (.int .i64 x.bl) := hk5.cell rfl
    have k6' : W5.cell? ⟨bx, 6, none⟩ = some (.slice Dx ndx cdx) := hk5.cell rfl
    have k7' : W5.cell? ⟨bx, 7, none⟩ = some (.int .i64 x.od) := hk5.cell rfl
    have k8' : W5.cell? ⟨bx, 8, none⟩ = some (.int .i64 x.nw) := hk5.cell rfl
    have k9' : W5.cell? ⟨bx, 9, none⟩ = some (.slice Nx nnx cnx) := hk5.cell rfl
    have HS := Lib.hid (And.intro t1 (And.intro t2 (And.intro hRF (And.intro hOF (And.intro hone (And.intro hwF (And.intro hMF (And.intro hNF (And.intro hAW.1.1 hAW.2.1.1.1)))))))))
    have HW := Lib.hid hW4
    have HW5 := Lib.hid hW5
    have Hbx := Lib.hid hbx
    clear hV hb3 hAW hM hN hb4 hk4 hW4 hbx hb24 hbxg hbr hrb hst hR5 hk5 hr5 hM5 hN5 hO5 hW5 t1 t2 t3 hwF hwF0 hone hRF hMF hNF hOF
    go_upto_region 5 with fail
    rw [HW.out, Hbx.out]
    go_upto_region 6 with fail
    rw [HW5.out]
    go_wp2_with (refine wpList_store_mid rfl 25 _ _ rfl w.heap.size 0 ([.int .i64 x.cl, .int .i64 x.sp, .int .i64 x.gr, .int .i64 x.ep, .int .i64 x.kd, .int .i64 x.bl, .slice Dx ndx cdx, .int .i64 x.od, .int .i64 x.nw, .slice Nx nnx cnx] : List Value).toArray rfl rfl HS.out.1 wish_size HS.out.2.2.2.2.1 ?_; simp only [Act.put]; refine cast (congrArg (fun z => wpList _ _ _ _ _ z) HS.out.2.2.2.2.2.1.symm) ?_)
    refine bodyPost_ret (results_row rfl _ _ w.heap.size 25 _ _ rfl HS.out.2.1 Try.underlying25 rfl wish_size) rfl ?_
    rw [Hr.out]
    exact ⟨_, rfl, ⟨Dx, ndx, cdx, Nx, nnx, cnx, rfl, ⟨HS.out.2.2.2.2.2.2.1, HS.out.2.2.2.2.2.2.2.2.1⟩, HS.out.2.2.2.2.2.2.2.1, HS.out.2.2.2.2.2.2.2.2.2⟩, HS.out.2.2.1, HS.out.2.2.2.1⟩

end Go.Proofs.Ytihmddpafbackaa

namespace Go.Proofs.Ytihmddpafbackaa

open Go.RowKit Go.Maps

set_option linter.unusedVariables false

set_option linter.unusedSimpArgs false

/-- What Unbatch answers. -/
def RetU (w : World) (r : List Wl × Nat) (e : Ending) (w' : World) : Prop := ∃ v ys, e = .returned (.tuple #[v, .int .i64 (r.2 : Int)]) ∧ OwnL w' w.heap.size v ys ∧ ys.map (·.x) = r.1 ∧ (∀ y ∈ ys, WNm y.x) ∧ Below w.heap.size w w'

theorem rp_nm (s : Rd) : WNm (rp s).1 := by
  by_cases h1 : (rt 256 s).2.2 ≠ 0
  · have e : rp s = (W0, (rt 256 s).2) := by unfold rp; rw [if_pos h1]
    rw [e]
    show WNm W0
    exact W0_nm
  · have e : rp s = ((parse (rt 256 s).1).1, ((rt 256 s).2.1, (parse (rt 256 s).1).2)) := by unfold rp; rw [if_neg h1]
    rw [e]
    dsimp only
    exact parse_nm (rt 256 s).1

theorem Nu.less {B0 B1 : Nat} {w : World} {i : Nat} (h : Nu B1 w i) (hb : B0 ≤ B1) : Nu B0 w i := ⟨Nat.le_trans hb h.1, h.2⟩

set_option maxRecDepth 100000 in
set_option maxHeartbeats 3200000 in
theorem unbatch_any (A : Option Addr) (n c : Nat) (l : List UInt8) (w : World) (hA : Bs w A l) (hn : l.length = n) (hnc : n ≤ c) (hc : c ≤ maxLen) (hl : n ≤ 140737488355328) : Calls Try.prog 27 #[.slice A n c] w (RetU w (unb l)) := by
  obtain ⟨m, s, hms⟩ : ∃ a b, rc 4 (l, 0) = (a, b) := ⟨_, _, (Prod.eta _).symm⟩
  have hm4 : m ≤ 4 := by have := rc_le 4 (l, 0); rw [hms] at this; exact this
  have hp : Hid (unb l = if ren (rps m s).2 ≠ 0 then ([], ren (rps m s).2) else ((rps m s).1, 0)) := by show _ = _; unfold unb; rw [hms]
  have hbr : Blk (w.alloc (.cells #[.slice A n c, .int .i64 0] 60)) w.heap.size 60 [.slice A n c, .int .i64 ((0 : Nat) : Int)] := Blk.new rfl rfl
  have hb1 : Below w.heap.size w (w.alloc (.cells #[.slice A n c, .int .i64 0] 60)) := (Below.refl _ _).alloc (Nat.le_refl _) _
  obtain ⟨W1, hW1⟩ : ∃ W, w.alloc (.cells #[.slice A n c, .int .i64 0] 60) = W := ⟨_, rfl⟩
  rw [hW1] at hbr hb1
  have hR1 : RdP w.heap.size W1 w.heap.size (l, 0) := ⟨Nat.le_refl _, A, n, c, hbr, hnc, hc, hl, fun _ => ⟨hn, (Bn.old hA (Nat.le_refl _)).bel hb1⟩⟩
  have H1 := Lib.hid (And.intro hR1 (And.intro hb1 (And.intro hms hbr.lt)))
  have HW := Lib.hid hW1
  clear hbr hb1 hW1 hR1 hA hn hms
  generalize unb l = r at *
  go_enter Try.func27, Try.ntmps27
  go_wp2_with fail
  rw [HW.out]
  have hc := count_rd w.heap.size w.heap.size 4 (l, 0) _ H1.out.1 (by omega)
  rw [H1.out.2.2.1] at hc
  refine hc.mono ?_
  clear hc
  rintro e w2 ⟨rfl, hR, hO⟩
  have H2 := Lib.hid (And.intro hR (And.intro hO (Nat.lt_of_lt_of_le H1.out.2.2.2 hO.size)))
  clear hR hO
  go_wp2
  go_loopw [5, 9] (fun v i wr => ∃ (k : Nat) (ys : List WH), k ≤ m ∧ i = .int .i64 k ∧ Hid (RdP w.heap.size wr w.heap.size (rps k s).2 ∧ OwnL wr w2.heap.size v ys ∧ ys.map (·.x) = (rps k s).1 ∧ (∀ y ∈ ys, WNm y.x) ∧ Og w.heap.size w2 wr)) (fun _ i _ => m - (intOf i).toNat)
  case atStart => exact ⟨0, [], Nat.zero_le _, rfl, H2.out.1, OwnL.nil _ _, rfl, fun y hy => by simp at hy, Out.refl _ _⟩
  case round =>
    obtain ⟨k, ys, hk, rfl, hI⟩ := hrel
    by_cases hlt : k < m
    · have hlt' : (k : Int) < m := by omega
      obtain ⟨L, q, hLq⟩ : ∃ a b, rps k s = (a, b) := ⟨_, _, rfl⟩
      obtain ⟨x, q', hxq⟩ : ∃ a b, rp q = (a, b) := ⟨_, _, (Prod.eta _).symm⟩
      have hxn : WNm x := by have := rp_nm q; rw [hxq] at this; exact this
      have hst : rps (k + 1) s = (L ++ [x], q') := by unfold rps; simp only [hLq, hxq]
      have hLl : L.length = k := by have := rps_len k s; rw [hLq] at this; exact this
      have hI2 := hI.out
      rw [hLq] at hI2
      have HI := Lib.hid (And.intro hI2 (And.intro hxq (And.intro hxn (And.intro hst hLl))))
      clear hI hI2 hxq hxn hst hLl hLq
      have hsz2 : w2.heap.size ≤ wr.heap.size := HI.out.1.2.2.2.2.size
      go_wp2_with fail
      have hc := packed_rd w.heap.size w.heap.size q _ HI.out.1.1
      rw [HI.out.2.1] at hc
      refine hc.mono ?_
      clear hc
      rintro e w3 ⟨vx, rfl, ⟨Dx, ndx, cdx, Nx, nnx, cnx, rfl, hW⟩, hR3, hO3⟩
      have hal : Below w3.heap.size w3 (w3.alloc (.cells #[.int .i64 x.cl, .int .i64 x.sp, .int .i64 x.gr, .int .i64 x.ep, .int .i64 x.kd, .int .i64 x.bl, .slice Dx ndx cdx, .int .i64 x.od, .int .i64 x.nw, .slice Nx nnx cnx] 25)) := (Below.refl _ _).alloc (Nat.le_refl _) _
      have hWo : WHo w3 wr.heap.size ⟨x, Dx, ndx, cdx, Nx, nnx, cnx⟩ := ⟨hW.1, hW.2⟩
      have hOw : OwnL w3 w2.heap.size u5 ys := HI.out.1.2.1.out hO3 (fun i e => by have := H2.out.2.2; omega)
      have H3 := Lib.hid (And.intro (hR3.bel hal) (And.intro (hOw.on hal) (And.intro ((hWo.on hal).base hsz2) (And.intro (hO3.then_below hal) (Nat.le_trans hsz2 (Nat.le_trans hO3.size hal.size))))))
      clear hW hR3 hO3 hal hWo hOw
      have hy4 : ys.length < 1256584717458 := by have h1 := HI.out.1.2.2.1; have h2 := congrArg List.length h1; simp only [List.length_map] at h2; have := HI.out.2.2.2.2; omega
      go_wp2_with (at_builtin; refine wp_appendW rfl _ _ rfl w2.heap.size _ ys rfl H3.out.2.1 _ ⟨x, Dx, ndx, cdx, Nx, nnx, cnx⟩ rfl (Blk.new rfl rfl) H3.out.2.2.1 hy4 H3.out.2.2.2.2 ?_; intro v4 w4 hO4 hS4)
      go_roundw
      case rel =>
        refine ⟨k + 1, ys ++ [⟨x, Dx, ndx, cdx, Nx, nnx, cnx⟩], by omega, by go_num, ?_⟩
        rw [HI.out.2.2.2.1]
        have hb02 : w.heap.size < w2.heap.size := H2.out.2.2
        refine ⟨H3.out.1.out hS4 (fun e => by have := e.1; omega) (fun i _ e => e.less (by omega)), hO4, ?_, ?_, ?_⟩
        · rw [List.map_append, HI.out.1.2.2.1]; rfl
        · intro y hy
          rcases List.mem_append.1 hy with h | h
          · exact HI.out.1.2.2.2.1 y h
          · rw [List.mem_singleton] at h; rw [h]; exact HI.out.2.2.1
        · exact (HI.out.1.2.2.2.2.trans H3.out.2.2.2.1 (fun _ _ e => e)).trans hS4 (fun i hi e => by have := e.1; omega)
      case measure => simp [intOf]; omega
    · have hlt' : ¬ (k : Int) < m := by omega
      have hkm : k = m := by omega
      subst hkm
      have HI := Lib.hid hI.out
      clear hI
      go_wp2_with fail
      refine (end_rd w.heap.size w.heap.size (rps k s).2 _ HI.out.1).mono ?_
      rintro e w5 ⟨rfl, ⟨A5, n5, c5, hb5⟩, hO5⟩
      obtain ⟨z, hz⟩ : ∃ z, ren (rps k s).2 = z := ⟨_, rfl⟩
      rw [hz] at hb5
      have k1 : w5.cell? ⟨w.heap.size, 1, none⟩ = some (.int .i64 (z : Int)) := hb5.cell rfl
      have hbF : Below w.heap.size w w5 := H1.out.2.1.trans (((H2.out.2.1.trans HI.out.2.2.2.2 (fun _ _ e => e)).trans hO5 (fun _ _ e => e)).above (B := w.heap.size) (fun i e => by omega) (by have := H1.out.2.2.2; omega))
      have hOw : OwnL w5 w.heap.size u5 ys := (HI.out.2.1.out hO5 (fun i e => by have := H2.out.2.2; omega)).base (by have := H2.out.2.2; omega)
      have H5 := Lib.hid (And.intro hbF (And.intro hOw hz))
      clear hb5 hO5 hbF hOw hz
      by_cases hz0 : z ≠ 0
      · have hzz : ((z : Int) != 0) = true := by simp [hz0]
        have Hr : Hid (r = ([], z)) := by show _ = _; rw [hp.out, H5.out.2.2, if_pos hz0]
        clear hz0
        have k1d : w5.drew.cell? ⟨w.heap.size, 1, none⟩ = some (.int .i64 (z : Int)) := k1
        go_wp2
        go_quiet (fail)
        go_wp2
        go_ret2
        rw [Hr.out]
        exact ⟨_, [], rfl, OwnL.nil _ _, rfl, fun y hy => by simp at hy, below_drewN H5.out.1 _⟩
      · have hzz : ((z : Int) != 0) = false := by simpa using hz0
        have Hr : Hid (r = ((rps k s).1, 0)) := by show _ = _; rw [hp.out, H5.out.2.2, if_neg hz0]
        clear hz0
        go_wp2
        go_ret2
        rw [Hr.out]
        exact ⟨_, ys, rfl, H5.out.2.1, HI.out.2.2.1, HI.out.2.2.2.1, H5.out.1⟩

end Go.Proofs.Ytihmddpafbackaa

namespace Go.Proofs.Ytihmddpafbackaa

open Go.RowKit Go.Maps

set_option linter.unusedVariables false

theorem countP_lt {α : Type} {p q : α → Bool} : ∀ (l : List α), (∀ x ∈ l, q x = true → p x = true) → (∃ x ∈ l, p x = true ∧ q x = false) → l.countP q < l.countP p
  | [], _, ⟨x, hx, _⟩ => by simp at hx
  | y :: l, h, ⟨x, hx, h1, h2⟩ => by
    have hle : l.countP q ≤ l.countP p := List.countP_mono_left fun z hz hq => h z (List.mem_cons_of_mem _ hz) hq
    rw [List.countP_cons, List.countP_cons]
    rcases List.mem_cons.1 hx with rfl | hx
    · rw [if_pos h1, if_neg (by rw [h2]; simp)]; omega
    · have ih := countP_lt l (fun z hz hq => h z (List.mem_cons_of_mem _ hz) hq) ⟨x, hx, h1, h2⟩
      have hy := h y List.mem_cons_self
      by_cases hq : q y = true
      · rw [if_pos hq, if_pos (hy hq)]; omega
      · rw [if_neg hq]; split <;> omega

/-- Slot 'd i' has a value that is as 'R i' says. -/
def Has (d : Nat → Nat) (R : Nat → Value → World → Prop) (i : Nat) (a : Act) (w : World) : Prop := ∃ v, a.tmps[d i]? = some v ∧ R i v w

/-- The slots that the region doesn't write are as they were. -/
def Base (d : Nat → Nat) (n : Nat) (a0 a : Act) : Prop := a.tmps.size = a0.tmps.size ∧ a.defers = a0.defers ∧ ∀ s, (∀ i, i < n → d i ≠ s) → a.tmps[s]? = a0.tmps[s]?

section

variable {P : Program} {ops : Array Oper} {Q : Exit → Act → World → Prop} {md : Region.Mode}

theorem ready_mem {listed : Array Bool} {i : Nat} (h : i ∈ Region.ready md ops listed) : ∃ o, ops[i]? = some o ∧ i < ops.size ∧ listed.getD i true = false ∧ ∀ e ∈ o.after, Region.binds md e = true → listed.getD e.on false = true := by
  unfold Region.ready at h
  rw [List.mem_filter, List.mem_range] at h
  obtain ⟨hi, h2⟩ := h
  rw [Bool.and_eq_true] at h2
  obtain ⟨h3, h4⟩ := h2
  refine ⟨ops[i], by simp [hi], hi, by simpa using h3, ?_⟩
  intro e he hb
  rw [Array.getElem?_eq_getElem hi] at h4
  simp only [Option.map_some, Option.getD_some] at h4
  have := (Array.all_eq_true_iff_forall_mem.1 h4) e he
  rw [hb] at this
  simpa using this

theorem ready_nil {listed : Array Bool} (hs : listed.size = ops.size) (hback : ∀ i o, ops[i]? = some o → ∀ e ∈ o.after, Region.binds md e = true → e.on < i) (h : Region.ready md ops listed = []) :
    ∀ i, i < ops.size → listed.getD i false = true := by
  intro i
  induction i using Nat.strongRecOn with
  | ind i ih =>
    intro hi
    cases hl : listed.getD i false with
    | true => rfl
    | false =>
      exfalso
      have hmem : i ∈ Region.ready md ops listed := by
        unfold Region.ready
        rw [List.mem_filter, List.mem_range]
        refine ⟨hi, ?_⟩
        rw [Bool.and_eq_true]
        have hil : i < listed.size := by omega
        constructor
        · simp [Array.getD, hil] at hl ⊢; exact hl
        · rw [Array.getElem?_eq_getElem hi]
          simp only [Option.map_some, Option.getD_some]
          rw [Array.all_eq_true_iff_forall_mem]
          intro e he
          cases hb : Region.binds md e with
          | false => rfl
          | true =>
            have hlt := hback i ops[i] (by simp [hi]) e he hb
            rw [ih e.on hlt (by omega)]
            rfl
      rw [h] at hmem
      simp at hmem

theorem any_rule (d : Nat → Nat) (R : Nat → Value → World → Prop) (a0 : Act) (w0 : World)
    (hd : ∀ i o, ops[i]? = some o → o.dst = some (d i) ∧ d i < a0.tmps.size)
    (hinj : ∀ i j, i < ops.size → j < ops.size → d i = d j → i = j)
    (hback : ∀ i o, ops[i]? = some o → ∀ e ∈ o.after, Region.binds md e = true → e.on < i)
    (hstab : ∀ i v w w', R i v w → Below w.heap.size w w' → R i v w')
    (hstep : ∀ i o, ops[i]? = some o → ∀ a w, Base d ops.size a0 a → Below w0.heap.size w0 w → (∀ e ∈ o.after, Region.binds md e = true → Has d R e.on a w) →
      ∀ K : Act → World → Prop, (∀ v w', R i v w' → Below w.heap.size w w' → K (a.put (some (d i)) v) w') → wpOp P ops Q i K a w)
    (hend : ∀ a w, Base d ops.size a0 a → Below w0.heap.size w0 w → (∀ i, i < ops.size → Has d R i a w) → Q .normal a w) :
    ∀ fuel listed a w, listed.size = ops.size → Base d ops.size a0 a → Below w0.heap.size w0 w → (∀ i, i < ops.size → listed.getD i false = true → Has d R i a w) →
      (List.range ops.size).countP (fun i => !listed.getD i true) ≤ fuel → wpAny P md ops Q fuel listed a w := by
  intro fuel
  induction fuel with
  | zero =>
    intro listed a w hs hb hw hl hc
    have hnone : Region.ready md ops listed = [] := by
      cases hr : Region.ready md ops listed with
      | nil => rfl
      | cons x xs =>
        exfalso
        obtain ⟨o, _, hx, hx2, _⟩ := ready_mem (md := md) (ops := ops) (listed := listed) (i := x) (by rw [hr]; exact List.mem_cons_self)
        have hp : 0 < (List.range ops.size).countP (fun i => !listed.getD i true) := List.countP_pos_iff.2 ⟨x, List.mem_range.2 hx, by rw [hx2]; rfl⟩
        omega
    exact ⟨hnone, hend a w hb hw fun i hi => hl i hi (ready_nil hs hback hnone i hi)⟩
  | succ fuel ih =>
    intro listed a w hs hb hw hl hc
    refine ⟨fun hr => hend a w hb hw fun i hi => hl i hi (ready_nil hs hback hr i hi), fun i hi => ?_⟩
    obtain ⟨o, ho, hi1, hi2, hi3⟩ := ready_mem hi
    have hon : ∀ e ∈ o.after, Region.binds md e = true → Has d R e.on a w := fun e he hb => hl e.on (by have := hback i o ho e he hb; omega) (hi3 e he hb)
    refine hstep i o ho a w hb hw hon _ fun v w' hv hbel => ?_
    obtain ⟨_, hdi⟩ := hd i o ho
    have hput : (a.put (some (d i)) v).tmps = a.tmps.setIfInBounds (d i) v := rfl
    refine ih (listed.setIfInBounds i true) (a.put (some (d i)) v) w' (by simpa using hs) ⟨?_, hb.2.1, ?_⟩ (hw.trans (hbel.mono hw.size)) ?_ ?_
    · rw [hput]; simpa using hb.1
    · intro s hsn
      rw [hput, Array.getElem?_setIfInBounds_ne (hsn i hi1)]
      exact hb.2.2 s hsn
    · intro j hj hjl
      by_cases e : j = i
      · subst e
        exact ⟨v, by rw [hput, Array.getElem?_setIfInBounds_self_of_lt (by rw [hb.1]; exact hdi)], hv⟩
      · have hj2 : listed.getD j false = true := by
          have : (listed.setIfInBounds i true)[j]? = listed[j]? := Array.getElem?_setIfInBounds_ne (fun h => e h.symm)
          rw [Array.getD_eq_getD_getElem?] at hjl ⊢
          rwa [this] at hjl
        obtain ⟨u, hu, hru⟩ := hl j hj hj2
        exact ⟨u, by rw [hput, Array.getElem?_setIfInBounds_ne (fun h => e (hinj i j hi1 hj h).symm)]; exact hu, hstab j u w w' hru hbel⟩
    · have hlt : (List.range ops.size).countP (fun k => !(listed.setIfInBounds i true).getD k true) < (List.range ops.size).countP (fun k => !listed.getD k true) := by
        refine countP_lt _ (fun k hk hq => ?_) ⟨i, List.mem_range.2 hi1, by rw [hi2]; rfl, ?_⟩
        · by_cases e : k = i
          · subst e
            rw [Array.getD_eq_getD_getElem?, Array.getElem?_setIfInBounds_self_of_lt (by omega)] at hq
            simp at hq
          · have : (listed.setIfInBounds i true)[k]? = listed[k]? := Array.getElem?_setIfInBounds_ne (fun h => e h.symm)
            rw [Array.getD_eq_getD_getElem?] at hq ⊢
            rwa [this] at hq
        · rw [Array.getD_eq_getD_getElem?, Array.getElem?_setIfInBounds_self_of_lt (by omega)]
          rfl
      omega

/-- From the beginning. -/
theorem region_rule {id : Nat} (d : Nat → Nat) (R : Nat → Value → World → Prop) (a0 : Act) (w0 : World) (hm : P.follows .mixedOrders = true)
    (hd : ∀ i o, ops[i]? = some o → o.dst = some (d i) ∧ d i < a0.tmps.size)
    (hinj : ∀ i j, i < ops.size → j < ops.size → d i = d j → i = j)
    (hback : ∀ i o, ops[i]? = some o → ∀ e ∈ o.after, Region.binds .any e = true → e.on < i)
    (hstab : ∀ i v w w', R i v w → Below w.heap.size w w' → R i v w')
    (hstep : ∀ i o, ops[i]? = some o → ∀ a w, Base d ops.size a0 a → Below w0.heap.size w0 w → (∀ e ∈ o.after, Region.binds .any e = true → Has d R e.on a w) →
      ∀ K : Act → World → Prop, (∀ v w', R i v w' → Below w.heap.size w w' → K (a.put (some (d i)) v) w') → wpOp P ops Q i K a w)
    (hend : ∀ a w, Base d ops.size a0 a → Below w0.heap.size w0 w → (∀ i, i < ops.size → Has d R i a w) → Q .normal a w) : (Code.region id ops true).wp P Q a0 w0 := by
  refine wp_region_any hm (any_rule (P := P) (md := .any) d R a0 w0 hd hinj hback hstab hstep hend ops.size _ a0 _ (by simp) ⟨rfl, rfl, fun _ _ => rfl⟩ ?_ ?_ ?_)
  · exact (Below.refl _ _).drew
  · intro i hi h
    rw [Array.getD_eq_getD_getElem?] at h
    simp [hi] at h
  · exact Nat.le_trans List.countP_le_length (by simp)

/-- The same, what is asked of the table by computing. -/
theorem region_rule2 {id : Nat} (n N : Nat) (d : Nat → Nat) (R : Nat → Value → World → Prop) (a0 : Act) (w0 : World) (hm : P.follows .mixedOrders = true) (hn : ops.size = n) (hN : a0.tmps.size = N)
    (ht : ((List.range n).all fun i => ((ops[i]?).map fun o => (o.dst == some (d i)) && decide (d i < N) && o.guard.isNone && o.after.all fun e => !Region.binds .any e || decide (e.on < i)).getD false) = true)
    (hinj : ((List.range n).all fun i => (List.range n).all fun j => !(d i == d j) || (i == j)) = true)
    (hstab : ∀ i v w w', R i v w → Below w.heap.size w w' → R i v w')
    (hstep : ∀ i o, i < n → ops[i]? = some o → o.guard = none → o.dst = some (d i) → ∀ a w, Base d n a0 a → Below w0.heap.size w0 w →
      (∀ j, (o.after.any fun e => Region.binds .any e && (e.on == j)) = true → Has d R j a w) →
      ∀ K : Act → World → Prop, (∀ v w', R i v w' → Below w.heap.size w w' → K (a.put o.dst v) w') → wpOp P ops Q i K a w)
    (hend : ∀ a w, Base d n a0 a → Below w0.heap.size w0 w → (∀ i, i < n → Has d R i a w) → Q .normal a w) : (Code.region id ops true).wp P Q a0 w0 := by
  subst hn
  subst hN
  have hlt : ∀ i o, ops[i]? = some o → i < ops.size := fun i o h => by
    rcases Nat.lt_or_ge i ops.size with hl | hl
    · exact hl
    · rw [Array.getElem?_eq_none hl] at h; cases h
  have key : ∀ i o, ops[i]? = some o → o.dst = some (d i) ∧ d i < a0.tmps.size ∧ o.guard = none ∧ ∀ e ∈ o.after, Region.binds .any e = true → e.on < i := by
    intro i o ho
    have h := List.all_eq_true.1 ht i (List.mem_range.2 (hlt i o ho))
    rw [ho] at h
    simp only [Option.map_some, Option.getD_some, Bool.and_eq_true, beq_iff_eq, decide_eq_true_eq, Option.isNone_iff_eq_none] at h
    obtain ⟨⟨⟨h1, h2⟩, h3⟩, h4⟩ := h
    refine ⟨h1, h2, h3, fun e he hb => ?_⟩
    have := Array.all_eq_true_iff_forall_mem.1 h4 e he
    rw [hb] at this
    simpa using this
  refine region_rule (P := P) d R a0 w0 hm (fun i o ho => ⟨(key i o ho).1, (key i o ho).2.1⟩) (fun i j hi hj e => ?_) (fun i o ho => (key i o ho).2.2.2) hstab (fun i o ho a w hb hw hdep K hK => ?_) hend
  · have h := List.all_eq_true.1 (List.all_eq_true.1 hinj i (List.mem_range.2 hi)) j (List.mem_range.2 hj)
    rw [e] at h
    simpa using h
  · refine hstep i o (hlt i o ho) ho (key i o ho).2.2.1 (key i o ho).1 a w hb hw (fun j hj => ?_) K (fun v w' h1 h2 => by rw [(key i o ho).1]; exact hK v w' h1 h2)
    rw [Array.any_eq_true] at hj
    obtain ⟨k, hk, h2⟩ := hj
    simp only [Bool.and_eq_true, beq_iff_eq] at h2
    obtain ⟨h2, h3⟩ := h2
    rw [← h3]
    exact hdep _ (Array.getElem_mem hk) h2

theorem op_of {α : Type} {i : Nat} {o : Oper} (f : Oper → α) (ho : ops[i]? = some o) {v : α} (h : (ops[i]?).map f = some v) : f o = v := by
  rw [ho] at h
  exact Option.some.inj h

theorem ev_tmp {a : Act} {s : Nat} {v : Value} (h : a.tmps[s]? = some v) : a.eval (.tmp s) = v := by
  show a.tmps.getD s undef = v
  rw [Array.getD_eq_getD_getElem?, h]; rfl

theorem st_plain {i : Nat} {o : Oper} {a : Act} {w w' : World} {K : Act → World → Prop} {v : Value} (ho : ops[i]? = some o) (hg : o.guard = none)
    (hrun : Sem.run P (execOp a.eval o) w = .ok (Next.value v) w') (hK : K (a.put o.dst v) w') : wpOp P ops Q i K a w := by
  refine wpOp_step ho (fun K' hK' => ?_)
  have hw : Region.wanted o (yielded ops a.tmps) = true := by unfold Region.wanted; rw [hg]
  rw [if_pos hw]
  unfold Oper.wp
  rw [hrun]
  exact hK' _ _ hK

theorem st_move {i s : Nat} {o : Oper} {a : Act} {w : World} {K : Act → World → Prop} {v : Value} (ho : ops[i]? = some o) (hg : o.guard = none) (hop : o.op = .move (.tmp s)) (hv : a.tmps[s]? = some v)
    (hK : K (a.put o.dst v) w) : wpOp P ops Q i K a w := by
  refine st_plain ho hg ?_ hK
  unfold execOp
  rw [hop, ← ev_tmp hv]
  rfl

theorem st_assign {i s : Nat} {o : Oper} {a : Act} {w : World} {K : Act → World → Prop} {v : Value} (ho : ops[i]? = some o) (hg : o.guard = none) (hop : o.op = .assign (.tmp s)) (hv : a.tmps[s]? = some v)
    (hK : K (a.put o.dst v) w) : wpOp P ops Q i K a w := by
  refine st_plain ho hg ?_ hK
  unfold execOp
  rw [hop, ← ev_tmp hv]
  rfl

theorem st_build {i : Nat} {o : Oper} {a : Act} {w : World} {K : Act → World → Prop} (ho : ops[i]? = some o) (hg : o.guard = none) (t : TypeId) (parts : Array (Nat × Operand)) (hop : o.op = .build t parts) (cells : Array Value)
    (he : P.built t (parts.toList.map fun p => (p.1, a.eval p.2)) = some cells) (hK : K (a.put o.dst (.agg cells)) w) : wpOp P ops Q i K a w :=
  st_plain ho hg (exec_build t parts hop cells he w) hK

theorem st_row {i n : Nat} {o : Oper} {a : Act} {w : World} {K : Act → World → Prop} (ho : ops[i]? = some o) (hg : o.guard = none) (t e : TypeId) (parts : Array (Nat × Operand)) (hop : o.op = .buildSlice t n parts) (cells : Array Value)
    (he : (Instr.buildSlice t n (parts.map fun p => (p.1, a.eval p.2))).run P w = .ok (.slice (some ⟨w.heap.size, 0, none⟩) n n) (w.alloc (.cells cells e)))
    (hK : K (a.put o.dst (.slice (some ⟨w.heap.size, 0, none⟩) n n)) (w.alloc (.cells cells e))) : wpOp P ops Q i K a w := by
  refine st_plain ho hg ?_ hK
  have he' : (Instr.buildSlice t n (parts.map fun (i, x) => (i, a.eval x))).run P w = .ok (.slice (some ⟨w.heap.size, 0, none⟩) n n) (w.alloc (.cells cells e)) := he
  unfold execOp
  simp only [hop, Sem.run_bind, he', Result.andThen_ok]
  rfl

theorem st_slice {i : Nat} {o : Oper} {a : Act} {w : World} {K : Act → World → Prop} {v : Value} (ho : ops[i]? = some o) (hg : o.guard = none) (t : TypeId) (x : Operand) (k : Value) (hop : o.op = .slice t x none (some (.const k)) none)
    (he : (Instr.sliceAt t (a.eval x) none (some k) none).run P w = .ok v w) (hK : K (a.put o.dst v) w) : wpOp P ops Q i K a w := by
  refine st_plain ho hg ?_ hK
  have he' : (Instr.sliceAt t (a.eval x) (Option.map a.eval none) (Option.map a.eval (some (.const k))) (Option.map a.eval none)).run P w = .ok v w := he
  unfold execOp
  simp only [hop, Sem.run_bind, he', Result.andThen_ok]
  rfl

end

end Go.Proofs.Ytihmddpafbackaa
