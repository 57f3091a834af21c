/-
  Laid together for a hand-in: En16, Sv16, Do16, Lk16, Nu16, AnyOrderH.
-/
import Derived.Test.YtfaeechidjpjbaaGreatZ10
import Derived.Test.YtfaeechidjpjbaaGreatZ02
import Derived.Test.YtfaeechidjpjbaaGreatZ07
import Derived.Deep.RegionHeld3

namespace Go.Proofs.YtfaeechidjpjbaaGreat
open Go.RowKit
set_option linter.unusedVariables false
set_option linter.unusedSimpArgs false

def ownV (d : Value) (b : Nat) : Prop := ∃ A n c, d = .slice A n c ∧ inA A b
/-- An answer's value, and the vault as it stands behind it. -/
def Done (w : World) (U : Nat → Prop) (g : Nat) (bk : Value) (v : Va) (a : An) (u : Value) (w' : World) : Prop :=
  ∃ d U' cs, u = .agg #[.int .i64 a.er, d, .int .i64 a.ep, .slice none 0 0] ∧ Mine w' w.heap.size 5 d a.da ∧ (∀ b, ownV d b → ¬ U' b) ∧ VaIn w' U' g bk v cs ∧ (∀ i, U i → U' i) ∧ (∀ i, U' i → U i ∨ w.heap.size ≤ i) ∧ Out (fun i => i = g) w w'
theorem out_set4 {S : Nat → Prop} {a w : World} {g : Nat} (h : Out S a w) (hg : g < a.heap.size → S g) (a' b' c' d' : Value) : Out S a ((((w.setCell ⟨g, 0, none⟩ a').setCell ⟨g, 1, none⟩ b').setCell ⟨g, 2, none⟩ c').setCell ⟨g, 3, none⟩ d') :=
  (((h.setCell (p := ⟨g, 0, none⟩) hg _).setCell (p := ⟨g, 1, none⟩) hg _).setCell (p := ⟨g, 2, none⟩) hg _).setCell (p := ⟨g, 3, none⟩) hg _
section
variable {w w' : World} {U S : Nat → Prop} {g : Nat} {bk : Value} {v : Va} {cs : List Value}
/-- Nothing was done: an answer without data. -/
theorem Done.plain (h : VaIn w U g bk v cs) {a : An} (ha : a.da = []) (hb : Below w.heap.size w w') : Done w U g bk v a (.agg #[.int .i64 a.er, .slice none 0 0, .int .i64 a.ep, .slice none 0 0]) w' :=
  ⟨_, U, cs, rfl, by rw [ha]; exact World.ownsRow_nil _ _ _ _, fun b ⟨A, n, c, e, a, e2, _⟩ => (by injection e with e; rw [← e] at e2; cases e2), h.below hb, fun _ e => e, fun _ e => .inl e, Out.ofBelow _ hb⟩
set_option maxRecDepth 100000 in
set_option maxHeartbeats 3200000 in
theorem end_in (h : VaIn w U g bk v cs) {x : Wl} {Dx : Option Addr} {ndx cdx : Nat} {Nx : Option Addr} {nnx cnx : Nat} (hx : ArgW w x Dx ndx cdx Nx nnx cnx) (hm : May x) (hk : x.kd = 5) :
    Calls Tryz.prog 57 #[.pointer (some ⟨g, 0, none⟩), .agg #[.int .i64 x.cl, .int .i64 x.sp, .int .i64 x.gr, .int .i64 x.ep, .int .i64 x.kd, .int .i64 x.bl, .slice Dx ndx cdx, .int .i64 x.od, .int .i64 x.nw, .slice Nx nnx cnx]] w fun e w' => ∃ u, e = .returned u ∧ Done w U g bk (endS v x).1 (endS v x).2 u w' := by
  have hbx : Below w.heap.size w (w.alloc (.cells #[.int .i64 x.cl, .int .i64 x.sp, .int .i64 x.gr, .int .i64 x.ep, .int .i64 x.kd, .int .i64 x.bl, .slice Dx ndx cdx, .int .i64 x.od, .int .i64 x.nw, .slice Nx nnx cnx] 45)) := (Below.refl _ _).alloc (Nat.le_refl _) _
  have X1 : Blk ((w.alloc (.cells #[.int .i64 x.cl, .int .i64 x.sp, .int .i64 x.gr, .int .i64 x.ep, .int .i64 x.kd, .int .i64 x.bl, .slice Dx ndx cdx, .int .i64 x.od, .int .i64 x.nw, .slice Nx nnx cnx] 45)).alloc (.cells #[.int .i64 0, .slice none 0 0, .int .i64 0, .slice none 0 0] 48)) w.heap.size 45 [.int .i64 x.cl, .int .i64 x.sp, .int .i64 x.gr, .int .i64 x.ep, .int .i64 x.kd, .int .i64 x.bl, .slice Dx ndx cdx, .int .i64 x.od, .int .i64 x.nw, .slice Nx nnx cnx] := Blk.old (Blk.new rfl rfl) _
  have A1 : Blk ((w.alloc (.cells #[.int .i64 x.cl, .int .i64 x.sp, .int .i64 x.gr, .int .i64 x.ep, .int .i64 x.kd, .int .i64 x.bl, .slice Dx ndx cdx, .int .i64 x.od, .int .i64 x.nw, .slice Nx nnx cnx] 45)).alloc (.cells #[.int .i64 0, .slice none 0 0, .int .i64 0, .slice none 0 0] 48)) (w.heap.size + 1) 48 [.int .i64 0, .slice none 0 0, .int .i64 0, .slice none 0 0] := Blk.new rfl (by simp)
  have hb2 : Below w.heap.size w ((w.alloc (.cells #[.int .i64 x.cl, .int .i64 x.sp, .int .i64 x.gr, .int .i64 x.ep, .int .i64 x.kd, .int .i64 x.bl, .slice Dx ndx cdx, .int .i64 x.od, .int .i64 x.nw, .slice Nx nnx cnx] 45)).alloc (.cells #[.int .i64 0, .slice none 0 0, .int .i64 0, .slice none 0 0] 48)) := hbx.alloc (by simp) _
  have h1 := h.below hb2
  have hsz : w.heap.size + 1 < ((w.alloc (.cells #[.int .i64 x.cl, .int .i64 x.sp, .int .i64 x.gr, .int .i64 x.ep, .int .i64 x.kd, .int .i64 x.bl, .slice Dx ndx cdx, .int .i64 x.od, .int .i64 x.nw, .slice Nx nnx cnx] 45)).alloc (.cells #[.int .i64 0, .slice none 0 0, .int .i64 0, .slice none 0 0] 48)).heap.size := by simp
  have Hsz := Lib.hid hsz
  have Hr := Lib.hid (refuse_in h1 (hx.after hb2))
  have H := Lib.hid (And.intro hb2 (And.intro X1 (And.intro A1 h1)))
  have Hx := Lib.hid (And.intro hx hm)
  have Hk := Lib.hid hk
  have H0 := Lib.hid h
  have hg := h.lt g h.u
  clear h h1 X1 A1 hb2 hbx hx hm hk hsz
  cases hr : refS v x with
  | some a =>
    have e1 : endS v x = (v, a) := by unfold endS; rw [hr]
    have ha : a.da = [] := by
      unfold refS at hr
      split at hr
      · injection hr with hr; rw [← hr]
      · split at hr
        · injection hr with hr; rw [← hr]
        · cases hr
    have Ha := Lib.hid ha
    clear ha
    rw [e1]
    rw [hr] at Hr
    clear e1 hr
    go_enter Tryz.func57, Tryz.ntmps57
    go_wp2_with (go_at_call 84; go_loud (refine Hr.out.mono ?_; rintro e w1 ⟨he, hb⟩; replace he : e = .returned (.tuple #[.agg #[.int .i64 a.er, .slice none 0 0, .int .i64 a.ep, .slice none 0 0], .bool true]) := he; subst he; have Z := (H.out.2.2.1.below hb Hsz.out).old (.cells #[.int .i64 a.er, .slice none 0 0, .int .i64 a.ep, .slice none 0 0] 48); have z0 := Z.cell (i := 0) rfl; have z1 := Z.cell (i := 1) rfl; have z2 := Z.cell (i := 2) rfl; have z3 := Z.cell (i := 3) rfl; have f0 := Z.free 0; have f1 := Z.free 1; have f2 := Z.free 2; have f3 := Z.free 3; have hb := Lib.hid (And.intro hb Z); clear Z))
    have hb3 := H.out.1.trans (hb.out.1.mono (by simp; omega))
    refine bodyPost_ret (res_a rfl (hb.out.2.set4 _ _ _ _) rfl) rfl ?_
    exact ⟨_, rfl, Done.plain H0.out Ha.out (below_set4 (hb3.alloc hb3.size _) (by omega) _ _ _ _)⟩
  | none =>
    rw [hr] at Hr
    by_cases he : v.ep = 1048576
    · have e1 : endS v x = (v, ⟨5, [], 0⟩) := by unfold endS; rw [hr]; simp [he]
      rw [e1]
      have he' : (v.ep == 1048576) = true := by simp [he]
      have he0 := Lib.hid he
      clear e1 hr he
      go_enter Tryz.func57, Tryz.ntmps57
      go_wp2_with (go_at_call 84; go_loud (refine Hr.out.mono ?_; rintro e w1 ⟨he, hb⟩; replace he : e = .returned (.tuple #[.agg #[.int .i64 0, .slice none 0 0, .int .i64 0, .slice none 0 0], .bool false]) := he; subst he; have Z := (H.out.2.2.1.below hb Hsz.out).old (.cells #[.int .i64 0, .slice none 0 0, .int .i64 0, .slice none 0 0] 48); have z0 := Z.cell (i := 0) rfl; have z1 := Z.cell (i := 1) rfl; have z2 := Z.cell (i := 2) rfl; have z3 := Z.cell (i := 3) rfl; have f0 := Z.free 0; have f1 := Z.free 1; have f2 := Z.free 2; have f3 := Z.free 3; have c2 := ((H.out.2.2.2.below hb).blk.old (.cells #[.int .i64 0, .slice none 0 0, .int .i64 0, .slice none 0 0] 48)).cell H.out.2.2.2.c2; have hb := Lib.hid (And.intro hb Z); clear Z))
      have hb3 := H.out.1.trans (hb.out.1.mono (by simp; omega))
      refine bodyPost_ret (res_a rfl (hb.out.2.set4 _ _ _ _) rfl) rfl ?_
      exact ⟨_, rfl, Done.plain H0.out rfl (below_set4 (hb3.alloc hb3.size _) (by omega) _ _ _ _)⟩
    · have e1 : endS v x = ({ v with sea := x.nx }, an0) := by unfold endS; rw [hr]; simp [he]
      rw [e1]
      have he' : (v.ep == 1048576) = false := by simp [he]
      have hnx : 0 < nnx ∧ nnx ≤ 1000 := by
        have := Hx.out.1.2.1.1.1
        obtain ⟨h2, _⟩ := may_seal Hx.out.2 Hk.out
        omega
      have Hnx := Lib.hid (may_seal Hx.out.2 Hk.out)
      clear e1 hr he
      have Hn := Lib.hid hnx
      clear hnx
      go_enter Tryz.func57, Tryz.ntmps57
      go_wp2_with
        first
        | (go_at_call 84; go_loud (refine Hr.out.mono ?_; rintro e w1 ⟨he, hb⟩; replace he : e = .returned (.tuple #[.agg #[.int .i64 0, .slice none 0 0, .int .i64 0, .slice none 0 0], .bool false]) := he; subst he; have hl := (H.out.2.2.2.below hb).lt g (H.out.2.2.2.u); have c2 := ((H.out.2.2.2.below hb).blk.old (.cells #[.int .i64 0, .slice none 0 0, .int .i64 0, .slice none 0 0] 48)).cell H.out.2.2.2.c2; have q9 := ((H.out.2.1.below hb (Nat.lt_of_succ_lt Hsz.out)).old (.cells #[.int .i64 0, .slice none 0 0, .int .i64 0, .slice none 0 0] 48)).cell (i := 9) rfl; have hb := Lib.hid hb))
        | (go_at_call 64; go_loud (have hbW : Below w.heap.size w (w1.alloc (.cells #[.int .i64 0, .slice none 0 0, .int .i64 0, .slice none 0 0] 48)) := (H.out.1.trans (hb.out.mono (by simp; omega))).alloc (H.out.1.trans (hb.out.mono (by simp; omega))).size _; refine (clone_ints (Hx.out.1.2.1.1.after hbW) Hn.out.1 Hn.out.2).mono ?_; rintro e w2 ⟨ga, ca, rfl, hga, hN, hb2⟩; have V3 := ((H.out.2.2.2.below hb.out).below ((Below.refl _ w1).alloc (Nat.le_refl _) (.cells #[.int .i64 0, .slice none 0 0, .int .i64 0, .slice none 0 0] 48))).below hb2; obtain ⟨As, ns, cs', sl1, sl2⟩ := V3.sl; have y := V3.blk.cell sl1; have yf := V3.blk.free 139; have Z := ((((H.out.2.2.1.below hb.out Hsz.out).old (.cells #[.int .i64 0, .slice none 0 0, .int .i64 0, .slice none 0 0] 48)).below hb2 (Nat.lt_of_lt_of_le (Nat.lt_of_lt_of_le Hsz.out hb.out.size) (by simp))).far (p := ⟨g, 139, none⟩) (by show w.heap.size + 1 ≠ g; omega) (.slice (some ⟨ga, 0, none⟩) nnx ca)); have z0 := Z.cell (i := 0) rfl; have z1 := Z.cell (i := 1) rfl; have z2 := Z.cell (i := 2) rfl; have z3 := Z.cell (i := 3) rfl; have f0 := Z.free 0; have f1 := Z.free 1; have f2 := Z.free 2; have f3 := Z.free 3; have K := Lib.hid (And.intro hbW (And.intro hga (And.intro hN (And.intro hb2 (And.intro V3 Z))))); clear hbW hga hN hb2 V3 Z sl1 sl2))
      refine bodyPost_ret (res_a rfl (K.out.2.2.2.2.2.set4 _ _ _ _) rfl) rfl ?_
      obtain ⟨hbW, hga, hN, hb2, V3, Z⟩ := K.out
      have hW : w.heap.size + 1 < ga := Nat.lt_of_lt_of_le (Nat.lt_of_lt_of_le Hsz.out hb.out.size) (Nat.le_trans (by simp) hga)
      have hga2 : ga < w2.heap.size := by
        obtain ⟨b, off, e, h2, _⟩ := hN.2.2.2.1.at_ (i := 0) (by have := hN.1; have := Hn.out; omega)
        injection e with e; injection e with e _; omega
      have V4 := (V3.wide (U' := fun i => U i ∨ i = ga) (fun _ e => .inl e) (fun i e => by rcases e with e | e; exact V3.lt i e; omega)).seal_ (A := some ⟨ga, 0, none⟩) (n := nnx) (c := ca) (l := x.nx) ⟨hN, fun b ⟨a, e1, e2⟩ => by
        injection e1 with e1
        rw [← e1] at e2
        have e2 : ga = b := e2
        exact ⟨.inr e2.symm, by omega⟩⟩ (.inr Hnx.out)
      refine ⟨_, rfl, .slice none 0 0, _, _, rfl, World.ownsRow_nil _ _ _ _, fun b ⟨A, n, c, e, a, e2, _⟩ => (by injection e with e; rw [← e] at e2; cases e2), V4.out (S := fun i => i = w.heap.size + 1) (out_set4 (S := fun i => i = w.heap.size + 1) (g := w.heap.size + 1) (Out.refl _ _) (fun _ => rfl) _ _ _ _) ?_, fun _ e => .inl e, ?_, ?_⟩
      · intro i e
        rcases e with e | e
        · have := H0.out.lt i e; omega
        · omega
      · intro i e
        rcases e with e | e
        · exact .inl e
        · right; omega
      · refine out_set4 (S := fun i => i = g) (((Out.ofBelow (fun i => i = g) (hbW.trans (hb2.mono hbW.size))).setCell (p := ⟨g, 139, none⟩) (fun _ => rfl) _)) (fun e => ?_) _ _ _ _
        omega
end
end Go.Proofs.YtfaeechidjpjbaaGreat

namespace Go.Proofs.YtfaeechidjpjbaaGreat
open Go.RowKit
set_option linter.unusedVariables false
set_option linter.unusedSimpArgs false
section
variable {w w' : World} {U S : Nat → Prop} {g : Nat} {bk : Value} {v : Va} {cs : List Value}
theorem VaIn.drewN_ (h : VaIn w U g bk v cs) (q : Nat) : VaIn (w.drewN q) U g bk v cs := h.below (below_drewN (Below.refl _ _) q)
theorem mine_own {e : TypeId} {base b : Nat} {d : Value} {l : List UInt8} (h : Mine w base e d l) (ho : ownV d b) : base ≤ b := by
  obtain ⟨A, n, c, rfl, a, rfl, rfl⟩ := ho
  obtain ⟨h1, ⟨h2, _⟩ | ⟨g, cap, cur, h3, h4, _⟩⟩ := h
  · cases h2
  · injection h3 with h3; injection h3 with h3; rw [h3]; exact h4
theorem mine_lt {e : TypeId} {base b : Nat} {d : Value} {l : List UInt8} (h : Mine w base e d l) (ho : ownV d b) : b < w.heap.size := by
  obtain ⟨A, n, c, rfl, a, rfl, rfl⟩ := ho
  obtain ⟨h1, ⟨h2, _⟩ | ⟨g, cap, cur, h3, h4, h5, _⟩⟩ := h
  · cases h2
  · injection h3 with h3; injection h3 with h3; rw [h3]
    exact (Array.getElem?_eq_some_iff.1 h5).1
theorem VaIn.whoD (h : VaIn w U g bk v cs) {k : Nat} (hk : k < 4) {A : Option Addr} {n c : Nat} {x : C16} (hr : ByV w (fun b => U b ∧ b ≠ g) A n c x.da) (hx : (x.da.length = 0 ∨ x.da.length = 16) ∧ 0 ≤ x.st ∧ x.st ≤ 9007199254740991) :
    VaIn (((w.setCell ⟨g, 131 + k * 2, none⟩ (.int .i64 x.st)).setCell ⟨g, 131 + k * 2 + 1, none⟩ (.slice A n c)).drew) U g bk (v.who k x) ((cs.set (131 + 2 * k) (.int .i64 x.st)).set (132 + 2 * k) (.slice A n c)) := by
  have := (h.who_ hk hr hx).drewN_ 1
  rw [show 131 + 2 * k = 131 + k * 2 by omega, show 132 + 2 * k = 131 + k * 2 + 1 by omega] at this ⊢
  exact this
/-- 'copy(block, data)' at the operation. -/
theorem wp_put {ops : Array Oper} {rest : List Oper} {o : Oper} {a : Act} {Q : Exit → Act → World → Prop} (h : VaIn w U g bk v cs) {k : Nat} (hk : k < 8) (hgd : o.guard = none) (d s : Operand)
    (ho : o.op = .call { callee := .builtin .copy, args := #[d, s], argTypes := #[22, 22] }) {ab ao cd : Nat} (hx : a.eval d = .slice (some ⟨g, 3 + k * 16, none⟩) 16 16) (hy : a.eval s = .slice (some ⟨ab, ao, none⟩) 16 cd)
    (l : List UInt8) (hl : l.length = 16) (hc : ∀ j u, (cbs l)[j]? = some u → w.cell? ⟨ab, ao + j, none⟩ = some u)
    (K : ∀ w2 cs2, Hid (VaIn w2 U g bk (v.put k l) cs2 ∧ Out (fun i => i = g) w w2) → wpList Tryz.prog ops Q rest (a.put o.dst (.int .i64 16)) w2) : wpList Tryz.prog ops Q (o :: rest) a w := by
  have hll : (cbs l).length = 16 := by rw [cbs_length]; exact hl
  refine wpList_copy_own hgd d s 22 22 ho 5 Tryz.underlying22 info1_ g (3 + k * 16) 16 16 ⟨ab, ao, none⟩ 16 cd hx hy cs.toArray 83 h.blk (cbs l) (by rw [hll]; rfl) (fun j u hu => by rw [add_mk]; exact hc j u hu) (by have := h.len; simp; omega) (cbs_one _) ?_
  rw [hll]
  refine K _ _ (Lib.hid ⟨h.put_ hk hl ?_ (out_row _ _ _), out_row _ _ _⟩)
  unfold Blk
  rw [setRow_heap _ g _ _ _ _ h.blk]
  simp [Nat.mul_comm, hll]
/-- The end: the answer's data is a copy of l, made behind the vault's world W. -/
theorem Done.finish {W w3 : World} {U' : Nat → Prop} (hO : Out (fun i => i = g) w W) (hV : VaIn W U' g bk v cs) (hU : ∀ i, U i → U' i) (hU' : ∀ i, U' i → U i ∨ w.heap.size ≤ i) (hne : ¬ U' (w.heap.size + 1)) {l : List UInt8} {A9 : Option Addr} {c9 : Nat} (hd : NewB W l (.slice A9 l.length c9) w3) (hs : w.heap.size + 1 < W.heap.size) :
    Done w U g bk v ⟨0, l, 0⟩ (.agg #[.int .i64 0, .slice A9 l.length c9, .int .i64 0, .slice none 0 0]) ((((w3.setCell ⟨w.heap.size + 1, 0, none⟩ (.int .i64 0)).setCell ⟨w.heap.size + 1, 1, none⟩ (.slice A9 l.length c9)).setCell ⟨w.heap.size + 1, 2, none⟩ (.int .i64 0)).setCell ⟨w.heap.size + 1, 3, none⟩ (.slice none 0 0)) := by
  refine ⟨_, U', cs, rfl, mine_far hd.1 hO.size fun i hi => heap_set4 (by omega) _ _ _ _, fun b ho hu => ?_, (hV.below hd.2).out (S := fun i => i = w.heap.size + 1) (out_set4 (S := fun i => i = w.heap.size + 1) (g := w.heap.size + 1) (Out.refl _ _) (fun _ => rfl) _ _ _ _) (fun i hi e => hne (e ▸ hi)), hU, hU', out_set4 (S := fun i => i = g) (hO.then_below hd.2) (fun e => ?_) _ _ _ _⟩
  · have := mine_own hd.1 ho
    have := hV.lt b hu
    omega
  · omega
set_option maxRecDepth 100000 in
set_option maxHeartbeats 3200000 in
theorem serve_in (h : VaIn w U g bk v cs) {x : Wl} {Dx : Option Addr} {ndx cdx : Nat} {Nx : Option Addr} {nnx cnx : Nat} (hx : ArgW w x Dx ndx cdx Nx nnx cnx) (hm : May x) (hk : x.kd ≠ 5) (hg1 : x.gr = v.gr) :
    Calls Tryz.prog 59 #[.pointer (some ⟨g, 0, none⟩), .agg #[.int .i64 x.cl, .int .i64 x.sp, .int .i64 x.gr, .int .i64 x.ep, .int .i64 x.kd, .int .i64 x.bl, .slice Dx ndx cdx, .int .i64 x.od, .int .i64 x.nw, .slice Nx nnx cnx]] w fun e w' => ∃ u, e = .returned u ∧ Done w U g bk (srvS v x).1 (srvS v x).2 u w' := by
  have hbx : Below w.heap.size w (w.alloc (.cells #[.int .i64 x.cl, .int .i64 x.sp, .int .i64 x.gr, .int .i64 x.ep, .int .i64 x.kd, .int .i64 x.bl, .slice Dx ndx cdx, .int .i64 x.od, .int .i64 x.nw, .slice Nx nnx cnx] 45)) := (Below.refl _ _).alloc (Nat.le_refl _) _
  have X1 : Blk ((w.alloc (.cells #[.int .i64 x.cl, .int .i64 x.sp, .int .i64 x.gr, .int .i64 x.ep, .int .i64 x.kd, .int .i64 x.bl, .slice Dx ndx cdx, .int .i64 x.od, .int .i64 x.nw, .slice Nx nnx cnx] 45)).alloc (.cells #[.int .i64 0, .slice none 0 0, .int .i64 0, .slice none 0 0] 48)) w.heap.size 45 [.int .i64 x.cl, .int .i64 x.sp, .int .i64 x.gr, .int .i64 x.ep, .int .i64 x.kd, .int .i64 x.bl, .slice Dx ndx cdx, .int .i64 x.od, .int .i64 x.nw, .slice Nx nnx cnx] := Blk.old (Blk.new rfl rfl) _
  have A1 : Blk ((w.alloc (.cells #[.int .i64 x.cl, .int .i64 x.sp, .int .i64 x.gr, .int .i64 x.ep, .int .i64 x.kd, .int .i64 x.bl, .slice Dx ndx cdx, .int .i64 x.od, .int .i64 x.nw, .slice Nx nnx cnx] 45)).alloc (.cells #[.int .i64 0, .slice none 0 0, .int .i64 0, .slice none 0 0] 48)) (w.heap.size + 1) 48 [.int .i64 0, .slice none 0 0, .int .i64 0, .slice none 0 0] := Blk.new rfl (by simp)
  have hb2 : Below w.heap.size w ((w.alloc (.cells #[.int .i64 x.cl, .int .i64 x.sp, .int .i64 x.gr, .int .i64 x.ep, .int .i64 x.kd, .int .i64 x.bl, .slice Dx ndx cdx, .int .i64 x.od, .int .i64 x.nw, .slice Nx nnx cnx] 45)).alloc (.cells #[.int .i64 0, .slice none 0 0, .int .i64 0, .slice none 0 0] 48)) := hbx.alloc (by simp) _
  have h1 := h.below hb2
  have hsz : w.heap.size + 1 < ((w.alloc (.cells #[.int .i64 x.cl, .int .i64 x.sp, .int .i64 x.gr, .int .i64 x.ep, .int .i64 x.kd, .int .i64 x.bl, .slice Dx ndx cdx, .int .i64 x.od, .int .i64 x.nw, .slice Nx nnx cnx] 45)).alloc (.cells #[.int .i64 0, .slice none 0 0, .int .i64 0, .slice none 0 0] 48)).heap.size := by simp
  have Hsz := Lib.hid hsz
  have Hr := Lib.hid (refuse_in h1 (hx.after hb2))
  have H := Lib.hid (And.intro hb2 (And.intro X1 (And.intro A1 h1)))
  have Hx := Lib.hid (And.intro hx hm)
  have Hk := Lib.hid hk
  have H0 := Lib.hid h
  have hg := h.lt g h.u
  have hmc := may_client hm hk (by have := h.ok.gr; omega)
  obtain ⟨⟨m1, m2⟩, m3, ⟨m4, m5⟩, m6, m7⟩ := hmc
  have hw : IntKind.i64.wrap (x.cl - 31) = x.cl - 31 := by rw [IntWalk.i64_in _ (by omega)]
  have i0 : 0 ≤ x.cl - 31 := by omega
  have i4 : x.cl - 31 < 4 := by omega
  have hcn : (x.cl - 31).toNat = cN x := rfl
  have hbn : x.bl.toNat = bN x := rfl
  have b0 : 0 ≤ x.bl := m4
  have b8 : x.bl < 8 := by omega
  have hnb : bN x < 8 := by unfold bN; omega
  have hnc : cN x < 4 := by unfold cN; omega
  have Hm := Lib.hid (And.intro m3 (And.intro m6 m7))
  have mixed : Tryz.prog.follows Departure.mixedOrders = true := by kernel_rfl
  clear h h1 X1 A1 hb2 hbx hx hm hk hsz m1 m2 m3 m4 m5 m6 m7 hg1
  cases hr : refS v x with
  | some a =>
    have e1 : srvS v x = (v, a) := by unfold srvS; rw [hr]
    have ha : a.da = [] := by
      unfold refS at hr
      split at hr
      · injection hr with hr; rw [← hr]
      · split at hr
        · injection hr with hr; rw [← hr]
        · cases hr
    have Ha := Lib.hid ha
    clear ha
    rw [e1]
    rw [hr] at Hr
    clear e1 hr
    go_enter Tryz.func59, Tryz.ntmps59
    go_wp2_with (go_at_call 84; go_loud (refine Hr.out.mono ?_; rintro e w1 ⟨he, hb⟩; replace he : e = .returned (.tuple #[.agg #[.int .i64 a.er, .slice none 0 0, .int .i64 a.ep, .slice none 0 0], .bool true]) := he; subst he; have Z := (H.out.2.2.1.below hb Hsz.out).old (.cells #[.int .i64 a.er, .slice none 0 0, .int .i64 a.ep, .slice none 0 0] 48); have z0 := Z.cell (i := 0) rfl; have z1 := Z.cell (i := 1) rfl; have z2 := Z.cell (i := 2) rfl; have z3 := Z.cell (i := 3) rfl; have f0 := Z.free 0; have f1 := Z.free 1; have f2 := Z.free 2; have f3 := Z.free 3; have hb := Lib.hid (And.intro hb Z); clear Z))
    have hb3 := H.out.1.trans (hb.out.1.mono (by simp; omega))
    refine bodyPost_ret (res_a rfl (hb.out.2.set4 _ _ _ _) rfl) rfl ?_
    exact ⟨_, rfl, Done.plain H0.out Ha.out (below_set4 (hb3.alloc hb3.size _) (by omega) _ _ _ _)⟩
  | none =>
    rw [hr] at Hr
    by_cases hk2 : x.kd = 2
    · have e1 : srvS v x = ((v.put (bN x) x.da).who (cN x) ⟨x.sp, []⟩, an0) := by unfold srvS; rw [hr]; simp [hk2]
      rw [e1]
      have he' : (x.kd == 2) = true := by simp [hk2]
      have hda := Hm.out.2.2 hk2
      have Hk2 := Lib.hid (And.intro hk2 hda)
      obtain ⟨ab, ao, eD, hD2, hD3⟩ := Hx.out.1.1.2.2.2.1.2 (by omega)
      have HD := Lib.hid hD3
      have hndl : ndx = 16 := by have := Hx.out.1.1.1; omega
      subst eD
      subst hndl
      clear e1 hr hk2 hda hD3
      go_enter Tryz.func59, Tryz.ntmps59
      go_upto_region 5 with (go_at_call 84; go_loud (refine Hr.out.mono ?_; rintro e w1 ⟨he, hb⟩; replace he : e = .returned (.tuple #[.agg #[.int .i64 0, .slice none 0 0, .int .i64 0, .slice none 0 0], .bool false]) := he; subst he; have hl := (H.out.2.2.2.below hb).lt g (H.out.2.2.2.u); have X9 := (H.out.2.1.below hb (Nat.lt_of_succ_lt Hsz.out)).old (.cells #[.int .i64 0, .slice none 0 0, .int .i64 0, .slice none 0 0] 48); have p1 := X9.cell (i := 1) rfl; have X10 := X9.old (.cells #[.int .i64 x.sp, .slice none 0 0] 80); have p0 := X10.cell (i := 0) rfl; have p4 := X10.cell (i := 4) rfl; have p5 := X10.cell (i := 5) rfl; have p6 := X10.cell (i := 6) rfl; have hbw1 := H.out.1.trans (hb.mono (by simp; omega)); have hbX := ((hbw1.alloc hbw1.size (.cells #[.int .i64 0, .slice none 0 0, .int .i64 0, .slice none 0 0] 48)).alloc (hbw1.alloc hbw1.size (.cells #[.int .i64 0, .slice none 0 0, .int .i64 0, .slice none 0 0] 48)).size (.cells #[.int .i64 x.sp, .slice none 0 0] 80)); have HbX := Lib.hid hbX; have hcx := Lib.hid (fun (q : Nat) (j : Nat) (u : Value) (hu : (cbs x.da)[j]? = some u) => (((below_drewN hbX q).cell (p := ⟨ab, ao + j, none⟩) hD2).trans (HD.out j u hu))); clear hbw1 hbX; have V10 := ((((H.out.2.2.2.below hb).below ((Below.refl _ w1).alloc (Nat.le_refl _) (.cells #[.int .i64 0, .slice none 0 0, .int .i64 0, .slice none 0 0] 48)))).below ((Below.refl _ _).alloc (Nat.le_refl _) (.cells #[.int .i64 x.sp, .slice none 0 0] 80))); have hb := Lib.hid (And.intro hb (And.intro X10 V10)); clear X9 X10 V10))
      go_quiet (fail)
      go_wp2_with (refine wp_put (hb.out.2.2.drewN_ _) hnb rfl _ _ rfl rfl rfl x.da Hk2.out.2 (hcx.out _) ?_; intro w2 cs2 K2; simp only [Act.put, List.setIfInBounds_toArray, List.set_cons_succ, List.set_cons_zero])
      have hg1 : g < w1.heap.size := hl
      have hng : w.heap.size ≠ g := by omega
      have hng2 : w1.heap.size + 1 ≠ g := by omega
      have X12 := K2.out.2.blk (hb.out.2.1.drewN_ _) hng
      have C10 : Blk ((w1.alloc (.cells #[.int .i64 0, .slice none 0 0, .int .i64 0, .slice none 0 0] 48)).alloc (.cells #[.int .i64 x.sp, .slice none 0 0] 80)) (w1.heap.size + 1) 80 [.int .i64 x.sp, .slice none 0 0] := Blk.new rfl (by simp)
      have C12 := K2.out.2.blk (C10.drewN_ _) hng2
      have t0 := X12.cell (i := 0) rfl
      have t1 := C12.cell (i := 0) rfl
      have t2 := C12.cell (i := 1) rfl
      obtain ⟨d1, Ad, nd, cd, d2, d3⟩ := K2.out.1.cl (cN x) hnc
      have r1 := K2.out.1.blk.cell d1
      have r2 := K2.out.1.blk.cell d2
      have g1 := K2.out.1.blk.free (131 + 2 * cN x)
      have g2 := K2.out.1.blk.free (132 + 2 * cN x)
      rw [show 131 + 2 * cN x = 131 + cN x * 2 by omega] at r1 g1
      rw [show 132 + 2 * cN x = 131 + cN x * 2 + 1 by omega] at r2 g2
      have KC := Lib.hid (And.intro X12 (And.intro C12 (And.intro d1 (And.intro d2 d3))))
      clear X12 C10 C12 d1 d2 d3
      have A10 : Blk ((w1.alloc (.cells #[.int .i64 0, .slice none 0 0, .int .i64 0, .slice none 0 0] 48)).alloc (.cells #[.int .i64 x.sp, .slice none 0 0] 80)) (w.heap.size + 1) 48 [.int .i64 0, .slice none 0 0, .int .i64 0, .slice none 0 0] := Blk.old (Blk.old (H.out.2.2.1.below hb.out.1 Hsz.out) _) _
      have A13 : Blk (((w2.setCell ⟨g, 131 + cN x * 2, none⟩ (.int .i64 x.sp)).setCell ⟨g, 131 + cN x * 2 + 1, none⟩ (.slice none 0 0)).drew) (w.heap.size + 1) 48 [.int .i64 0, .slice none 0 0, .int .i64 0, .slice none 0 0] := blk_drew (((K2.out.2.blk (A10.drewN_ _) (by omega)).far (p := ⟨g, 131 + cN x * 2, none⟩) (by show w.heap.size + 1 ≠ g; omega) _).far (p := ⟨g, 131 + cN x * 2 + 1, none⟩) (by show w.heap.size + 1 ≠ g; omega) _)
      have C13 : Blk (((w2.setCell ⟨g, 131 + cN x * 2, none⟩ (.int .i64 x.sp)).setCell ⟨g, 131 + cN x * 2 + 1, none⟩ (.slice none 0 0)).drew) (w1.heap.size + 1) 80 [.int .i64 x.sp, .slice none 0 0] := blk_drew ((KC.out.2.1.far (p := ⟨g, 131 + cN x * 2, none⟩) hng2 _).far (p := ⟨g, 131 + cN x * 2 + 1, none⟩) hng2 _)
      have V13 := K2.out.1.whoD hnc (A := none) (n := 0) (c := 0) (x := ⟨x.sp, []⟩) ⟨rfl, Nat.le_refl _, by decide, Bs.nil _ _, fun b ⟨a, e, _⟩ => by cases e⟩ ⟨.inl rfl, by have := Hm.out.1; show 0 ≤ x.sp; omega, Hm.out.1.2⟩
      have u1 := C13.cell (i := 1) rfl
      have HW := Lib.hid (And.intro A13 V13)
      clear A10 A13 C13 V13
      go_region
      go_wp2_with (go_at_call 61; go_loud (refine (clone_any none 0 0 [] _ (Bs.nil _ _) rfl (by omega)).mono ?_; rintro e w3 ⟨d, rfl, hd⟩; obtain ⟨A9, c9, rfl, _, _, _⟩ := hd.form; have Z := HW.out.1.below hd.2 HW.out.1.lt; have z0 := Z.cell (i := 0) rfl; have z1 := Z.cell (i := 1) rfl; have z2 := Z.cell (i := 2) rfl; have z3 := Z.cell (i := 3) rfl; have f0 := Z.free 0; have f1 := Z.free 1; have f2 := Z.free 2; have f3 := Z.free 3; have hd2 := Lib.hid (And.intro hd Z); clear hd Z))
      refine bodyPost_ret (res_a rfl (hd2.out.2.set4 _ _ _ _) rfl) rfl ?_
      have hO := ((((Out.ofBelow (fun i => i = g) (below_drewN HbX.out nq)).trans K2.out.2 (fun _ _ e => e)).setCell (p := ⟨g, 131 + cN x * 2, none⟩) (fun _ => rfl) (.int .i64 x.sp)).setCell (p := ⟨g, 131 + cN x * 2 + 1, none⟩) (fun _ => rfl) (.slice none 0 0)).drewN 1
      exact ⟨_, rfl, Done.finish hO HW.out.2 (fun _ e => e) (fun _ e => .inl e) (fun e => absurd (H0.out.lt _ e) (by omega)) hd2.out.1 HW.out.1.lt⟩
    · have hk1 : x.kd = 1 := by have := Hm.out.2.1; omega
      have e1 : srvS v x = (v.who (cN x) ⟨x.sp, v.bl (bN x)⟩, ⟨0, v.bl (bN x), 0⟩) := by unfold srvS; rw [hr]; simp [hk2]
      rw [e1]
      have he' : (x.kd == 2) = false := by simp [hk2]
      have hbl := H0.out.ok.bl _ hnb
      have Hbl := Lib.hid hbl
      clear e1 hr hk2 hk1 hbl
      go_enter Tryz.func59, Tryz.ntmps59
      go_upto_region 5 with (go_at_call 84; go_loud (refine Hr.out.mono ?_; rintro e w1 ⟨he, hb⟩; replace he : e = .returned (.tuple #[.agg #[.int .i64 0, .slice none 0 0, .int .i64 0, .slice none 0 0], .bool false]) := he; subst he; have hl := (H.out.2.2.2.below hb).lt g (H.out.2.2.2.u); have X9 := (H.out.2.1.below hb (Nat.lt_of_succ_lt Hsz.out)).old (.cells #[.int .i64 0, .slice none 0 0, .int .i64 0, .slice none 0 0] 48); have p1 := X9.cell (i := 1) rfl; have X10 := X9.old (.cells #[.int .i64 x.sp, .slice none 0 0] 80); have p0 := X10.cell (i := 0) rfl; have p4 := X10.cell (i := 4) rfl; have p5 := X10.cell (i := 5) rfl; have p6 := X10.cell (i := 6) rfl; have hbw1 := H.out.1.trans (hb.mono (by simp; omega)); have hbX := ((hbw1.alloc hbw1.size (.cells #[.int .i64 0, .slice none 0 0, .int .i64 0, .slice none 0 0] 48)).alloc (hbw1.alloc hbw1.size (.cells #[.int .i64 0, .slice none 0 0, .int .i64 0, .slice none 0 0] 48)).size (.cells #[.int .i64 x.sp, .slice none 0 0] 80)); have HbX := Lib.hid hbX; clear hbw1 hbX; have V10 := ((((H.out.2.2.2.below hb).below ((Below.refl _ w1).alloc (Nat.le_refl _) (.cells #[.int .i64 0, .slice none 0 0, .int .i64 0, .slice none 0 0] 48)))).below ((Below.refl _ _).alloc (Nat.le_refl _) (.cells #[.int .i64 x.sp, .slice none 0 0] 80))); have hb := Lib.hid (And.intro hb (And.intro X10 V10)); clear X9 X10 V10))
      have C10 : Blk ((w1.alloc (.cells #[.int .i64 0, .slice none 0 0, .int .i64 0, .slice none 0 0] 48)).alloc (.cells #[.int .i64 x.sp, .slice none 0 0] 80)) (w1.heap.size + 1) 80 [.int .i64 x.sp, .slice none 0 0] := Blk.new rfl (by simp)
      have hsz10 : ((w1.alloc (.cells #[.int .i64 0, .slice none 0 0, .int .i64 0, .slice none 0 0] 48)).alloc (.cells #[.int .i64 x.sp, .slice none 0 0] 80)).heap.size = w1.heap.size + 2 := by simp
      have HC := Lib.hid (And.intro C10 hsz10)
      clear C10 hsz10
      go_quiet (fail)
      go_upto_region 9 with (go_at_call 61; go_loud (refine (clone_any _ 16 16 (v.bl (bN x)) _ (by have := (hb.out.2.2.drewN_ nq).bs hnb; rw [show 3 + 16 * bN x = 3 + bN x * 16 by omega] at this; exact this) Hbl.out (by omega)).mono ?_; rintro e w2 ⟨d, rfl, hd⟩; obtain ⟨A8, c8, rfl, _, _, _⟩ := hd.form; have Z := (HC.out.1.drewN_ nq).below hd.2 HC.out.1.lt; have z1 := Z.cell (i := 1) rfl; have f1 := Z.free 1; have hd1 := Lib.hid (And.intro hd Z); clear hd Z))
      have hg1 : g < w1.heap.size := hl
      have hng : w.heap.size ≠ g := by omega
      have hng2 : w1.heap.size + 1 ≠ g := by omega
      have hs1 : w.heap.size + 1 < w1.heap.size := Nat.lt_of_lt_of_le Hsz.out hb.out.1.size
      have hs2 : ((w1.alloc (.cells #[.int .i64 0, .slice none 0 0, .int .i64 0, .slice none 0 0] 48)).alloc (.cells #[.int .i64 x.sp, .slice none 0 0] 80)).heap.size = w1.heap.size + 2 := HC.out.2
      obtain ⟨hd, Z⟩ := hd1.out
      have oC : Out (fun i => i = w1.heap.size + 1) w2 (w2.setCell ⟨w1.heap.size + 1, 1, none⟩ (.slice A8 (v.bl (bN x)).length c8)) := Out.setCell (S := fun i => i = w1.heap.size + 1) (p := ⟨w1.heap.size + 1, 1, none⟩) (Out.refl _ _) (fun _ => rfl) _
      have X11 := oC.blk ((hb.out.2.1.drewN_ nq).below hd.2 (by show w.heap.size < ((w1.alloc (.cells #[.int .i64 0, .slice none 0 0, .int .i64 0, .slice none 0 0] 48)).alloc (.cells #[.int .i64 x.sp, .slice none 0 0] 80)).heap.size; omega)) (by show w.heap.size ≠ w1.heap.size + 1; omega)
      have C11 : Blk (w2.setCell ⟨w1.heap.size + 1, 1, none⟩ (.slice A8 (v.bl (bN x)).length c8)) (w1.heap.size + 1) 80 [.int .i64 x.sp, (.slice A8 (v.bl (bN x)).length c8)] := Z.set_ 1 _
      have t0 := X11.cell (i := 0) rfl
      have t1 := C11.cell (i := 0) rfl
      have t2 := C11.cell (i := 1) rfl
      have V2 := ((hb.out.2.2.drewN_ nq).below hd.2)
      have hown : ∀ b, ownV (.slice A8 (v.bl (bN x)).length c8) b → w1.heap.size + 2 ≤ b ∧ b < w2.heap.size := fun b ho => ⟨by have := mine_own hd.1 ho; have : ((w1.alloc (.cells #[.int .i64 0, .slice none 0 0, .int .i64 0, .slice none 0 0] 48)).alloc (.cells #[.int .i64 x.sp, .slice none 0 0] 80)).heap.size ≤ b := this; omega, mine_lt hd.1 ho⟩
      have V11 := (V2.wide (U' := fun i => U i ∨ ownV (.slice A8 (v.bl (bN x)).length c8) i) (fun _ e => .inl e) (fun i e => by rcases e with e | e; exact V2.lt i e; exact (hown i e).2)).out oC (fun i e => by
        rcases e with e | e
        · have := H0.out.lt i e; show ¬ i = w1.heap.size + 1; omega
        · have := (hown i e).1; show ¬ i = w1.heap.size + 1; omega)
      obtain ⟨AA, cc, hq, hcap, hmax, hBs⟩ := hd.form
      injection hq with hq1 hq2 hq3
      subst hq1
      subst hq3
      have hr : ByV (w2.setCell ⟨w1.heap.size + 1, 1, none⟩ (.slice A8 (v.bl (bN x)).length c8)) (fun b => (U b ∨ ownV (.slice A8 (v.bl (bN x)).length c8) b) ∧ b ≠ g) A8 (v.bl (bN x)).length c8 (v.bl (bN x)) := ⟨rfl, hcap, hmax, bs_out hBs oC (fun b ho => by have := (hown b ⟨_, _, _, rfl, ho⟩).1; show ¬ b = w1.heap.size + 1; omega), fun b ho => ⟨.inr ⟨_, _, _, rfl, ho⟩, by have := (hown b ⟨_, _, _, rfl, ho⟩).1; omega⟩⟩
      have V13 := V11.whoD hnc (x := ⟨x.sp, v.bl (bN x)⟩) hr ⟨.inr Hbl.out, by have := Hm.out.1; show 0 ≤ x.sp; omega, Hm.out.1.2⟩
      have oG : Out (fun i => i = g) (w2.setCell ⟨w1.heap.size + 1, 1, none⟩ (.slice A8 (v.bl (bN x)).length c8)) ((((w2.setCell ⟨w1.heap.size + 1, 1, none⟩ (.slice A8 (v.bl (bN x)).length c8)).setCell ⟨g, 131 + cN x * 2, none⟩ (.int .i64 x.sp)).setCell ⟨g, 131 + cN x * 2 + 1, none⟩ (.slice A8 (v.bl (bN x)).length c8)).drew) := (((Out.refl _ _).setCell (S := fun i => i = g) (p := ⟨g, 131 + cN x * 2, none⟩) (fun _ => rfl) (.int .i64 x.sp)).setCell (p := ⟨g, 131 + cN x * 2 + 1, none⟩) (fun _ => rfl) (.slice A8 (v.bl (bN x)).length c8)).drewN 1
      have hr13 := hr.out oG (fun b hb => hb.2)
      have A11 := oC.blk ((((Blk.old (Blk.old (H.out.2.2.1.below hb.out.1 Hsz.out) (.cells #[.int .i64 0, .slice none 0 0, .int .i64 0, .slice none 0 0] 48)) (.cells #[.int .i64 x.sp, .slice none 0 0] 80)).drewN_ nq).below hd.2 (by show w.heap.size + 1 < ((w1.alloc (.cells #[.int .i64 0, .slice none 0 0, .int .i64 0, .slice none 0 0] 48)).alloc (.cells #[.int .i64 x.sp, .slice none 0 0] 80)).heap.size; omega))) (by show w.heap.size + 1 ≠ w1.heap.size + 1; omega)
      have A13 := oG.blk A11 (by show w.heap.size + 1 ≠ g; omega)
      have C13 := oG.blk C11 hng2
      have u1 := C13.cell (i := 1) rfl
      obtain ⟨d1, Ad, nd, cd, d2, d3⟩ := V11.cl (cN x) hnc
      have r1 := V11.blk.cell d1
      have r2 := V11.blk.cell d2
      have g1 := V11.blk.free (131 + 2 * cN x)
      have g2 := V11.blk.free (132 + 2 * cN x)
      rw [show 131 + 2 * cN x = 131 + cN x * 2 by omega] at r1 g1
      rw [show 132 + 2 * cN x = 131 + cN x * 2 + 1 by omega] at r2 g2
      have hO : Out (fun i => i = g) w ((((w2.setCell ⟨w1.heap.size + 1, 1, none⟩ (.slice A8 (v.bl (bN x)).length c8)).setCell ⟨g, 131 + cN x * 2, none⟩ (.int .i64 x.sp)).setCell ⟨g, 131 + cN x * 2 + 1, none⟩ (.slice A8 (v.bl (bN x)).length c8)).drew) := ((Out.ofBelow (fun i => i = g) (((below_drewN HbX.out nq).trans (hd.2.mono (below_drewN HbX.out nq).size)).setCell (p := ⟨w1.heap.size + 1, 1, none⟩) (by show w.heap.size ≤ w1.heap.size + 1; omega) (.slice A8 (v.bl (bN x)).length c8))).trans oG (fun _ _ e => e))
      have HW := Lib.hid (And.intro hO (And.intro A13 (And.intro V13 (And.intro hr13 hown))))
      clear hd Z oC X11 C11 V2 V11 hr V13 oG hr13 A11 A13 C13 d1 d2 d3 hO hown hcap hmax hBs
      go_region
      go_wp2_with (go_at_call 61; go_loud (refine (clone_any _ _ _ (v.bl (bN x)) _ HW.out.2.2.2.1.bs rfl (by have := Hbl.out; omega)).mono ?_; rintro e w3 ⟨d, rfl, hd⟩; obtain ⟨A9, c9, rfl, _, _, _⟩ := hd.form; have Z := HW.out.2.1.below hd.2 HW.out.2.1.lt; have z0 := Z.cell (i := 0) rfl; have z1 := Z.cell (i := 1) rfl; have z2 := Z.cell (i := 2) rfl; have z3 := Z.cell (i := 3) rfl; have f0 := Z.free 0; have f1 := Z.free 1; have f2 := Z.free 2; have f3 := Z.free 3; have hd2 := Lib.hid (And.intro hd Z); clear hd Z))
      refine bodyPost_ret (res_a rfl (hd2.out.2.set4 _ _ _ _) rfl) rfl ?_
      exact ⟨_, rfl, Done.finish HW.out.1 HW.out.2.2.1 (fun _ e => .inl e) (fun i e => by
        rcases e with e | e
        · exact .inl e
        · have := (HW.out.2.2.2.2 i e).1; right; omega) (fun e => by
        rcases e with e | e
        · have := H0.out.lt _ e; omega
        · have := (HW.out.2.2.2.2 _ e).1; omega) hd2.out.1 HW.out.2.1.lt⟩
end
end Go.Proofs.YtfaeechidjpjbaaGreat

namespace Go.Proofs.YtfaeechidjpjbaaGreat
open Go.RowKit
set_option linter.unusedVariables false
set_option linter.unusedSimpArgs false
section
variable {w w' : World} {U S : Nat → Prop} {g : Nat} {bk : Value} {v : Va} {cs : List Value}
/-- What a callee did, told by the caller: its answer lies in the caller's box. -/
theorem Done.lift {W : World} {a : An} {d : Value} {U' : Nat → Prop} (hb : Below w.heap.size w W) (hs : w.heap.size + 1 < W.heap.size) (hlt : ∀ i, U i → i < w.heap.size)
    (h1 : Mine w' W.heap.size 5 d a.da) (h2 : ∀ b, ownV d b → ¬ U' b) (h3 : VaIn w' U' g bk v cs) (h4 : ∀ i, U i → U' i) (h5 : ∀ i, U' i → U i ∨ W.heap.size ≤ i) (h6 : Out (fun i => i = g) W w') :
    Done w U g bk v a (.agg #[.int .i64 a.er, d, .int .i64 a.ep, .slice none 0 0]) ((((w'.setCell ⟨w.heap.size + 1, 0, none⟩ (.int .i64 a.er)).setCell ⟨w.heap.size + 1, 1, none⟩ d).setCell ⟨w.heap.size + 1, 2, none⟩ (.int .i64 a.ep)).setCell ⟨w.heap.size + 1, 3, none⟩ (.slice none 0 0)) := by
  refine ⟨d, U', cs, rfl, mine_far h1 hb.size fun i hi => heap_set4 (by omega) _ _ _ _, h2, h3.out (S := fun i => i = w.heap.size + 1) (out_set4 (S := fun i => i = w.heap.size + 1) (g := w.heap.size + 1) (Out.refl _ _) (fun _ => rfl) _ _ _ _) (fun i hi e => ?_), h4, fun i hi => ?_, out_set4 (S := fun i => i = g) ((Out.ofBelow (fun i => i = g) hb).trans h6 (fun _ _ e => e)) (fun e => ?_) _ _ _ _⟩
  · rcases h5 i hi with e2 | e2
    · have := hlt i e2; have e : i = w.heap.size + 1 := e; omega
    · have e : i = w.heap.size + 1 := e; omega
  · rcases h5 i hi with e2 | e2
    · exact .inl e2
    · right; have := hb.size; omega
  · omega
set_option maxRecDepth 100000 in
set_option maxHeartbeats 3200000 in
theorem do_in (h : VaIn w U g bk v cs) {x : Wl} {Dx : Option Addr} {ndx cdx : Nat} {Nx : Option Addr} {nnx cnx : Nat} (hx : ArgW w x Dx ndx cdx Nx nnx cnx) (hm : May x) (hgr : x.gr = v.gr) :
    Calls Tryz.prog 22 #[.pointer (some ⟨g, 0, none⟩), .agg #[.int .i64 x.cl, .int .i64 x.sp, .int .i64 x.gr, .int .i64 x.ep, .int .i64 x.kd, .int .i64 x.bl, .slice Dx ndx cdx, .int .i64 x.od, .int .i64 x.nw, .slice Nx nnx cnx]] w fun e w' => ∃ u, e = .returned (.tuple #[u, .int .i64 0]) ∧ Done w U g bk (doS v x).1 (doS v x).2 u w' := by
  have hbx : Below w.heap.size w (w.alloc (.cells #[.int .i64 x.cl, .int .i64 x.sp, .int .i64 x.gr, .int .i64 x.ep, .int .i64 x.kd, .int .i64 x.bl, .slice Dx ndx cdx, .int .i64 x.od, .int .i64 x.nw, .slice Nx nnx cnx] 45)) := (Below.refl _ _).alloc (Nat.le_refl _) _
  have X1 : Blk ((w.alloc (.cells #[.int .i64 x.cl, .int .i64 x.sp, .int .i64 x.gr, .int .i64 x.ep, .int .i64 x.kd, .int .i64 x.bl, .slice Dx ndx cdx, .int .i64 x.od, .int .i64 x.nw, .slice Nx nnx cnx] 45)).alloc (.cells #[.int .i64 0, .slice none 0 0, .int .i64 0, .slice none 0 0] 48)) w.heap.size 45 [.int .i64 x.cl, .int .i64 x.sp, .int .i64 x.gr, .int .i64 x.ep, .int .i64 x.kd, .int .i64 x.bl, .slice Dx ndx cdx, .int .i64 x.od, .int .i64 x.nw, .slice Nx nnx cnx] := Blk.old (Blk.new rfl rfl) _
  have A1 : Blk ((w.alloc (.cells #[.int .i64 x.cl, .int .i64 x.sp, .int .i64 x.gr, .int .i64 x.ep, .int .i64 x.kd, .int .i64 x.bl, .slice Dx ndx cdx, .int .i64 x.od, .int .i64 x.nw, .slice Nx nnx cnx] 45)).alloc (.cells #[.int .i64 0, .slice none 0 0, .int .i64 0, .slice none 0 0] 48)) (w.heap.size + 1) 48 [.int .i64 0, .slice none 0 0, .int .i64 0, .slice none 0 0] := Blk.new rfl (by simp)
  have hb2 : Below w.heap.size w ((w.alloc (.cells #[.int .i64 x.cl, .int .i64 x.sp, .int .i64 x.gr, .int .i64 x.ep, .int .i64 x.kd, .int .i64 x.bl, .slice Dx ndx cdx, .int .i64 x.od, .int .i64 x.nw, .slice Nx nnx cnx] 45)).alloc (.cells #[.int .i64 0, .slice none 0 0, .int .i64 0, .slice none 0 0] 48)) := hbx.alloc (by simp) _
  have h1 := h.below hb2
  have hsz : w.heap.size + 1 < ((w.alloc (.cells #[.int .i64 x.cl, .int .i64 x.sp, .int .i64 x.gr, .int .i64 x.ep, .int .i64 x.kd, .int .i64 x.bl, .slice Dx ndx cdx, .int .i64 x.od, .int .i64 x.nw, .slice Nx nnx cnx] 45)).alloc (.cells #[.int .i64 0, .slice none 0 0, .int .i64 0, .slice none 0 0] 48)).heap.size := by simp
  have Hn := Lib.hid (vnone_in h1)
  have hlk : lookB v x = true := by unfold lookB; simp [hm, hgr]
  have Hlk := looks_in h1 (hx.after hb2) hm
  rw [hlk] at Hlk
  have Hlk := Lib.hid Hlk
  have H := Lib.hid (And.intro hb2 (And.intro X1 (And.intro A1 (And.intro h1 hsz))))
  have Hx := Lib.hid (And.intro hx hm)
  have H0 := Lib.hid h
  have Hgr := Lib.hid hgr
  clear h h1 X1 A1 hb2 hbx hx hm hsz hgr
  by_cases hk : x.kd = 5
  · have hd : doS v x = endS v x := by unfold doS; rw [hlk]; simp [hk]
    have hk' : (x.kd == 5) = true := by simp [hk]
    have Hk := Lib.hid hk
    rw [hd]
    clear hd hlk hk
    go_enter Tryz.func22, Tryz.ntmps22
    go_upto_region 5 with first
      | (go_at_call 55; refine Hn.out.mono ?_; rintro e w' ⟨rfl, hww⟩; have hww2 := hww.symm; subst hww2; clear hww)
      | (go_at_call 56; refine Hlk.out.mono ?_; rintro e w1 ⟨rfl, hb⟩; have X9 := H.out.2.1.below hb (Nat.lt_of_succ_lt H.out.2.2.2.2); have q0 := X9.cell (i := 0) rfl; have q1 := X9.cell (i := 1) rfl; have q2 := X9.cell (i := 2) rfl; have q3 := X9.cell (i := 3) rfl; have q4 := X9.cell (i := 4) rfl; have q5 := X9.cell (i := 5) rfl; have q6 := X9.cell (i := 6) rfl; have q7 := X9.cell (i := 7) rfl; have q8 := X9.cell (i := 8) rfl; have q9 := X9.cell (i := 9) rfl; have hb := Lib.hid hb; clear X9)
    have hbw := H.out.1.trans (hb.out.mono H.out.1.size)
    have hs1 : w.heap.size + 1 < w1.heap.size := Nat.lt_of_lt_of_le H.out.2.2.2.2 hb.out.size
    have A9 := H.out.2.2.1.below hb.out H.out.2.2.2.2
    have He := Lib.hid (end_in (H.out.2.2.2.1.below hb.out) (Hx.out.1.after hbw) Hx.out.2 Hk.out)
    have HB := Lib.hid (And.intro hbw (And.intro hs1 A9))
    clear hbw hs1 A9
    have hg := Lib.hid (H0.out.lt g H0.out.u)
    go_wp2_with (go_at_call 57; go_loud (refine He.out.mono ?_; rintro e w2 ⟨u, rfl, hD⟩; obtain ⟨d, U', cs', rfl, D1, D2, D3, D4, D5, D6⟩ := hD; obtain ⟨Ad, cd2, rfl, _⟩ := D1.form; have Z := D6.blk HB.out.2.2 (by have := hg.out; show w.heap.size + 1 ≠ g; omega); have kz0 := Z.cell (i := 0) rfl; have kf0 := Z.free 0; have kz1 := Z.cell (i := 1) rfl; have kf1 := Z.free 1; have kz2 := Z.cell (i := 2) rfl; have kf2 := Z.free 2; have kz3 := Z.cell (i := 3) rfl; have kf3 := Z.free 3; have HD := Lib.hid (And.intro Z (And.intro D1 (And.intro D2 (And.intro D3 (And.intro D4 (And.intro D5 D6)))))); clear Z D1 D2 D3 D4 D5 D6))
    refine bodyPost_ret (res_at rfl (HD.out.1.set4 _ _ _ _) rfl) rfl ?_
    obtain ⟨_, D1, D2, D3, D4, D5, D6⟩ := HD.out
    exact ⟨_, rfl, Done.lift HB.out.1 HB.out.2.1 H0.out.lt D1 D2 D3 D4 D5 D6⟩
  · have hk' : (x.kd == 5) = false := by simp [hk]
    have hcl : 31 ≤ x.cl ∧ x.cl ≤ 34 := by have := may_client Hx.out.2 hk (by have := Hgr.out; have := H0.out.ok.gr; omega); exact this.1
    have Hcl := Lib.hid hcl
    have Hk := Lib.hid hk
    cases hag : agS v x with
    | some a =>
      have hd : doS v x = (v, a) := by unfold doS; rw [hlk, hag]; simp [hk]
      have Hag := Lib.hid hag
      rw [hd]
      clear hd hlk hk hcl hag
      go_enter Tryz.func22, Tryz.ntmps22
      go_upto_region 7 with first
        | (go_at_call 55; refine Hn.out.mono ?_; rintro e w' ⟨rfl, hww⟩; have hww2 := hww.symm; subst hww2; clear hww)
        | (go_at_call 56; refine Hlk.out.mono ?_; rintro e w1 ⟨rfl, hb⟩; have X9 := H.out.2.1.below hb (Nat.lt_of_succ_lt H.out.2.2.2.2); have q0 := X9.cell (i := 0) rfl; have q1 := X9.cell (i := 1) rfl; have q2 := X9.cell (i := 2) rfl; have q3 := X9.cell (i := 3) rfl; have q4 := X9.cell (i := 4) rfl; have q5 := X9.cell (i := 5) rfl; have q6 := X9.cell (i := 6) rfl; have q7 := X9.cell (i := 7) rfl; have q8 := X9.cell (i := 8) rfl; have q9 := X9.cell (i := 9) rfl; have hb := Lib.hid hb; clear X9)
      have hbw := H.out.1.trans (hb.out.mono H.out.1.size)
      have hs1 : w.heap.size + 1 < w1.heap.size := Nat.lt_of_lt_of_le H.out.2.2.2.2 hb.out.size
      have A9 := H.out.2.2.1.below hb.out H.out.2.2.2.2
      have V9 := H.out.2.2.2.1.below hb.out
      have He := again_in V9 (Hx.out.1.after hbw) Hcl.out
      rw [Hag.out] at He
      have He := Lib.hid He
      have HB := Lib.hid (And.intro hbw (And.intro hs1 (And.intro A9 V9)))
      clear hbw hs1 A9 V9
      go_wp2_with (go_at_call 58; go_loud (refine He.out.mono ?_; rintro e w2 ⟨u, rfl, hD⟩; obtain ⟨d, rfl, D1, D2⟩ := hD; obtain ⟨Ad, cd2, hde, _⟩ := D1.form; replace hde : d = .slice Ad a.da.length cd2 := hde; subst hde; have Z := (HB.out.2.2.1.below D2 HB.out.2.1).old (.cells #[.int .i64 a.er, .slice Ad a.da.length cd2, .int .i64 a.ep, .slice none 0 0] 48); have kz0 := Z.cell (i := 0) rfl; have kf0 := Z.free 0; have kz1 := Z.cell (i := 1) rfl; have kf1 := Z.free 1; have kz2 := Z.cell (i := 2) rfl; have kf2 := Z.free 2; have kz3 := Z.cell (i := 3) rfl; have kf3 := Z.free 3; have HD := Lib.hid (And.intro Z (And.intro D1 D2)); clear Z D1 D2))
      refine bodyPost_ret (res_at rfl (HD.out.1.set4 _ _ _ _) rfl) rfl ?_
      obtain ⟨_, D1, D2⟩ := HD.out
      have ba := (Below.refl _ w2).alloc (Nat.le_refl _) (.cells #[.int .i64 a.er, .slice Ad a.da.length cd2, .int .i64 a.ep, .slice none 0 0] 48)
      exact ⟨_, rfl, Done.lift (U' := U) HB.out.1 HB.out.2.1 H0.out.lt (D1.after ba) (fun b ho hu => by have := mine_own D1 ho; have := H0.out.lt b hu; have := HB.out.2.1; omega) ((HB.out.2.2.2.below D2).below ba) (fun _ e => e) (fun _ e => .inl e) (Out.ofBelow _ (D2.trans (ba.mono D2.size)))⟩
    | none =>
      have hd : doS v x = srvS v x := by unfold doS; rw [hlk, hag]; simp [hk]
      have Hag := Lib.hid hag
      rw [hd]
      clear hd hlk hk hcl hag
      go_enter Tryz.func22, Tryz.ntmps22
      go_upto_region 7 with first
        | (go_at_call 55; refine Hn.out.mono ?_; rintro e w' ⟨rfl, hww⟩; have hww2 := hww.symm; subst hww2; clear hww)
        | (go_at_call 56; refine Hlk.out.mono ?_; rintro e w1 ⟨rfl, hb⟩; have X9 := H.out.2.1.below hb (Nat.lt_of_succ_lt H.out.2.2.2.2); have q0 := X9.cell (i := 0) rfl; have q1 := X9.cell (i := 1) rfl; have q2 := X9.cell (i := 2) rfl; have q3 := X9.cell (i := 3) rfl; have q4 := X9.cell (i := 4) rfl; have q5 := X9.cell (i := 5) rfl; have q6 := X9.cell (i := 6) rfl; have q7 := X9.cell (i := 7) rfl; have q8 := X9.cell (i := 8) rfl; have q9 := X9.cell (i := 9) rfl; have hb := Lib.hid hb; clear X9)
      have hbw := H.out.1.trans (hb.out.mono H.out.1.size)
      have hs1 : w.heap.size + 1 < w1.heap.size := Nat.lt_of_lt_of_le H.out.2.2.2.2 hb.out.size
      have A9 := H.out.2.2.1.below hb.out H.out.2.2.2.2
      have X9 := H.out.2.1.below hb.out (Nat.lt_of_succ_lt H.out.2.2.2.2)
      have V9 := H.out.2.2.2.1.below hb.out
      have He := again_in V9 (Hx.out.1.after hbw) Hcl.out
      rw [Hag.out] at He
      have He := Lib.hid He
      have HB := Lib.hid (And.intro hbw (And.intro hs1 (And.intro A9 (And.intro X9 V9))))
      have hg := Lib.hid (H0.out.lt g H0.out.u)
      clear hbw hs1 A9 V9 X9
      go_upto_region 10 with (go_at_call 58; go_loud (refine He.out.mono ?_; rintro e w2 ⟨u, rfl, hD⟩; obtain ⟨d, rfl, D1, D2⟩ := hD; obtain ⟨Ad, cd2, hde, _⟩ := D1.form; replace hde : d = .slice Ad 0 cd2 := hde; subst hde; have X2 := (HB.out.2.2.2.1.below D2 (Nat.lt_of_succ_lt HB.out.2.1)).old (.cells #[.int .i64 an0.er, .slice Ad 0 cd2, .int .i64 an0.ep, .slice none 0 0] 48); have r0 := X2.cell (i := 0) rfl; have r1 := X2.cell (i := 1) rfl; have r2 := X2.cell (i := 2) rfl; have r3 := X2.cell (i := 3) rfl; have r4 := X2.cell (i := 4) rfl; have r5 := X2.cell (i := 5) rfl; have r6 := X2.cell (i := 6) rfl; have r7 := X2.cell (i := 7) rfl; have r8 := X2.cell (i := 8) rfl; have r9 := X2.cell (i := 9) rfl; have HD := Lib.hid D2; clear X2 D1 D2))
      have ba := (Below.refl _ w2).alloc (Nat.le_refl _) (.cells #[.int .i64 an0.er, .slice Ad 0 cd2, .int .i64 an0.ep, .slice none 0 0] 48)
      have bw := HD.out.trans (ba.mono HD.out.size)
      have bW := HB.out.1.trans (bw.mono HB.out.1.size)
      have Hs := Lib.hid (serve_in (HB.out.2.2.2.2.below bw) (Hx.out.1.after bW) Hx.out.2 Hk.out Hgr.out)
      have HE := Lib.hid (And.intro bW (And.intro (Nat.lt_of_lt_of_le HB.out.2.1 bw.size) (HB.out.2.2.1.below bw HB.out.2.1)))
      clear ba bw bW
      go_wp2_with (go_at_call 59; go_loud (refine Hs.out.mono ?_; rintro e w3 ⟨u, rfl, hD⟩; obtain ⟨d, U', cs', rfl, D1, D2, D3, D4, D5, D6⟩ := hD; obtain ⟨Ad2, cd3, rfl, _⟩ := D1.form; have Z := D6.blk HE.out.2.2 (by have := hg.out; show w.heap.size + 1 ≠ g; omega); have kz0 := Z.cell (i := 0) rfl; have kf0 := Z.free 0; have kz1 := Z.cell (i := 1) rfl; have kf1 := Z.free 1; have kz2 := Z.cell (i := 2) rfl; have kf2 := Z.free 2; have kz3 := Z.cell (i := 3) rfl; have kf3 := Z.free 3; have HF := Lib.hid (And.intro Z (And.intro D1 (And.intro D2 (And.intro D3 (And.intro D4 (And.intro D5 D6)))))); clear Z D1 D2 D3 D4 D5 D6))
      refine bodyPost_ret (res_at rfl (HF.out.1.set4 _ _ _ _) rfl) rfl ?_
      obtain ⟨_, D1, D2, D3, D4, D5, D6⟩ := HF.out
      exact ⟨_, rfl, Done.lift HE.out.1 HE.out.2.1 H0.out.lt D1 D2 D3 D4 D5 D6⟩
end
end Go.Proofs.YtfaeechidjpjbaaGreat

namespace Go.Proofs.YtfaeechidjpjbaaGreat
open Go.RowKit
set_option linter.unusedVariables false
set_option linter.unusedSimpArgs false
section
variable {w w' : World} {U S : Nat → Prop} {g : Nat} {bk : Value} {v : Va} {cs : List Value}
set_option maxRecDepth 100000 in
set_option maxHeartbeats 3200000 in
theorem look_in (h : VaIn w U g bk v cs) {b : Int} (hb : 0 ≤ b ∧ b < 8) :
    Calls Tryz.prog 26 #[.pointer (some ⟨g, 0, none⟩), .int .i64 b] w fun e w' => ∃ d, e = .returned (.tuple #[d, .int .i64 0]) ∧ NewB w (v.bl b.toNat) d w' := by
  obtain ⟨k, rfl⟩ : ∃ k : Nat, b = k := ⟨b.toNat, by omega⟩
  have hk : k < 8 := by omega
  have hl := h.ok.bl k hk
  have hB := h.bs hk
  rw [show 3 + 16 * k = 3 + k * 16 by omega] at hB
  have HB := Lib.hid (And.intro hB hl)
  have Hn := Lib.hid (vnone_in h)
  have b0 : decide ((k : Int) < 0) = false := decide_eq_false (by omega)
  have b1 : decide ((k : Int) ≥ 8) = false := decide_eq_false (by omega)
  have i0 : 0 ≤ (k : Int) := hb.1
  have i8 : (k : Int) < 8 := hb.2
  clear h hB hb hl
  show Calls _ _ _ _ fun e w' => ∃ d, e = .returned (.tuple #[d, .int .i64 0]) ∧ NewB w (v.bl k) d w'
  go_enter Tryz.func26, Tryz.ntmps26
  go_wp2_with first
    | (go_at_call 55; refine Hn.out.mono ?_; rintro e w' ⟨rfl, hww⟩; have hww2 := hww.symm; subst hww2; clear hww)
    | (go_at_call 61; go_loud (refine (clone_any _ 16 16 (v.bl k) _ HB.out.1 HB.out.2 (by omega)).mono ?_; rintro e w2 ⟨d, rfl, hd⟩; have hd := Lib.hid hd))
  go_ret2
  exact ⟨d, rfl, hd.out⟩
set_option maxRecDepth 100000 in
set_option maxHeartbeats 3200000 in
theorem turn_in (h : VaIn w U g bk v cs) :
    Calls Tryz.prog 25 #[.pointer (some ⟨g, 0, none⟩)] w fun e w' => e = .returned (.int .i64 (turnE v)) ∧ (∃ cs', VaIn w' U g bk (turnS v) cs') ∧ Out (fun i => i = g) w w' := by
  have Hn := Lib.hid (vnone_in h)
  have Hs := vsealed_in h
  have H0 := Lib.hid h
  have c2 := h.blk.cell h.c2
  have f2 := h.blk.free 2
  have hep := h.ok.ep
  obtain ⟨A, n, c, e1, e2⟩ := h.sl
  have c9 := h.blk.cell e1
  have f9 := h.blk.free 139
  have hnil : VaIn w U g bk v cs → InV (w.setCell ⟨g, 2, none⟩ (.int .i64 (v.ep + 1))) (fun b => U b ∧ b ≠ g) none 0 0 [] := fun _ => ⟨⟨rfl, Nat.le_refl _, by decide, ⟨by rfl, fun hp => absurd hp (by simp)⟩, fun x hx => by cases hx⟩, fun b ⟨a, e, _⟩ => by cases e⟩
  by_cases hs : v.sea = []
  · have ht : turnE v = 171 := by unfold turnE; rw [if_pos hs]
    have ht2 : turnS v = v := by unfold turnS; rw [ht]; rfl
    rw [ht, ht2]
    rw [show decide (v.sea ≠ []) = false by simp [hs]] at Hs
    have Hs := Lib.hid Hs
    clear h ht ht2 hs e1 e2 hnil
    go_enter Tryz.func25, Tryz.ntmps25
    go_wp2_with first
      | (go_at_call 55; refine Hn.out.mono ?_; rintro e w' ⟨rfl, hww⟩; have hww2 := hww.symm; subst hww2; clear hww)
      | (go_at_call 60; refine Hs.out.mono ?_; rintro e w' ⟨rfl, hww⟩; have hww2 := hww.symm; subst hww2; clear hww)
    go_ret
    exact ⟨rfl, ⟨_, H0.out⟩, Out.refl _ _⟩
  · rw [show decide (v.sea ≠ []) = true by simp [hs]] at Hs
    have Hs := Lib.hid Hs
    by_cases he : v.ep = 1048576
    · have ht : turnE v = 5 := by unfold turnE; rw [if_neg hs, if_pos he]
      have ht2 : turnS v = v := by unfold turnS; rw [ht]; rfl
      rw [ht, ht2]
      have he' : (v.ep == 1048576) = true := by simp [he]
      clear h ht ht2 hs e1 e2 hnil he
      go_enter Tryz.func25, Tryz.ntmps25
      go_wp2_with first
        | (go_at_call 55; refine Hn.out.mono ?_; rintro e w' ⟨rfl, hww⟩; have hww2 := hww.symm; subst hww2; clear hww)
        | (go_at_call 60; refine Hs.out.mono ?_; rintro e w' ⟨rfl, hww⟩; have hww2 := hww.symm; subst hww2; clear hww)
      go_ret
      exact ⟨rfl, ⟨_, H0.out⟩, Out.refl _ _⟩
    · have ht : turnE v = 0 := by unfold turnE; rw [if_neg hs, if_neg he]
      have ht2 : turnS v = { v with ep := v.ep + 1, sea := [] } := by unfold turnS; rw [ht]; rfl
      rw [ht, ht2]
      have he' : (v.ep == 1048576) = false := by simp [he]
      have hw : IntKind.i64.wrap (v.ep + 1) = v.ep + 1 := by rw [IntWalk.i64_in _ (by omega)]
      have V1 := h.epoch_ (e := v.ep + 1) (by omega)
      have V2 := V1.seal_ (hnil h) (.inl rfl)
      have s9 := V1.blk.free 139
      have s8 := (h.blk.set_ 2 (.int .i64 (v.ep + 1))).cell (i := 139) ((set_k (by omega)).trans e1)
      have HV := Lib.hid V2
      clear h ht ht2 hs e1 e2 hnil he V1 V2
      go_enter Tryz.func25, Tryz.ntmps25
      go_wp2_with first
        | (go_at_call 55; refine Hn.out.mono ?_; rintro e w' ⟨rfl, hww⟩; have hww2 := hww.symm; subst hww2; clear hww)
        | (go_at_call 60; refine Hs.out.mono ?_; rintro e w' ⟨rfl, hww⟩; have hww2 := hww.symm; subst hww2; clear hww)
      go_ret
      exact ⟨rfl, ⟨_, HV.out⟩, ((Out.refl _ _).setCell (S := fun i => i = g) (p := ⟨g, 2, none⟩) (fun _ => rfl) _).setCell (p := ⟨g, 139, none⟩) (fun _ => rfl) _⟩
end
end Go.Proofs.YtfaeechidjpjbaaGreat

namespace Go.Proofs.YtfaeechidjpjbaaGreat
open Go.RowKit
set_option linter.unusedVariables false
set_option linter.unusedSimpArgs false
theorem is_new16 (w : World) (l : List Int) : Is (w.alloc (.cells (cis l).toArray 3)) (some ⟨w.heap.size, 0, none⟩) l := by
  refine ⟨by rw [cis_length]; omega, fun _ => ⟨_, 0, rfl, by simp, fun j u hu => ?_⟩⟩
  rw [Nat.zero_add]
  exact (Blk.new (l := cis l) rfl rfl).cell hu
theorem argI_new (w : World) (l : List Int) (hl : l.length ≤ 1000) (hw : ∀ x ∈ l, Wf x) : ArgI (w.alloc (.cells (cis l).toArray 3)) (some ⟨w.heap.size, 0, none⟩) l.length l.length l :=
  ⟨rfl, Nat.le_refl _, by unfold maxLen; omega, is_new16 w l, hw⟩
theorem wf_in {x : Int} (h : 0 ≤ x ∧ x ≤ 9007199254740991) : Wf x := by
  simp [Wf, Lit.wf, IntKind.min, IntKind.max, IntKind.signed, IntKind.bits]; omega
/-- A client's leaf. -/
def clB (c : C16) : List UInt8 := ibs [c.st] ++ sb c.da
def IntV (w : World) (l : List Int) (v : Value) : Prop := ∃ A n c, v = .slice A n c ∧ ArgI w A n c l
def BtV (w : World) (l : List UInt8) (v : Value) : Prop := ∃ A c, v = .slice A l.length c ∧ Bs w A l
def Bs1V (w : World) (l : List UInt8) (v : Value) : Prop := ∃ A, v = .slice A 1 1 ∧ Bss w A [l]
def BssV (w : World) (l1 l2 : List UInt8) (v : Value) : Prop := ∃ A, v = .slice A 2 2 ∧ Bss w A [l1, l2]
def OwnB (w : World) (base : Nat) (l : List UInt8) (v : Value) : Prop := Mine w base 5 v l
/-- A row of three numbers that fills its block. -/
def Row3 (w : World) (l : List Int) (v : Value) : Prop := ∃ b, v = .slice (some ⟨b, 0, none⟩) 3 3 ∧ Blk w b 3 (cis l)
section
variable {w w' : World} {l : List Int} {b l1 l2 : List UInt8} {base : Nat} {v : Value}
theorem IntV.below (h : IntV w l v) (hb : Below w.heap.size w w') : IntV w' l v := let ⟨A, n, c, e, h⟩ := h; ⟨A, n, c, e, h.after hb⟩
theorem BtV.below (h : BtV w b v) (hb : Below w.heap.size w w') : BtV w' b v := let ⟨A, c, e, h⟩ := h; ⟨A, c, e, h.on hb⟩
theorem Bs1V.below (h : Bs1V w b v) (hb : Below w.heap.size w w') : Bs1V w' b v := let ⟨A, e, h⟩ := h; ⟨A, e, h.after hb⟩
theorem BssV.below (h : BssV w l1 l2 v) (hb : Below w.heap.size w w') : BssV w' l1 l2 v := let ⟨A, e, h⟩ := h; ⟨A, e, h.after hb⟩
theorem OwnB.below (h : OwnB w base b v) (hb : Below w.heap.size w w') : OwnB w' base b v := Mine.after h hb
theorem Row3.below (h : Row3 w l v) (hb : Below w.heap.size w w') : Row3 w' l v := let ⟨b, e, h⟩ := h; ⟨b, e, h.below hb h.lt⟩
end
theorem ibs_app (l m : List Int) : ibs (l ++ m) = ibs l ++ ibs m := by unfold ibs; rw [List.map_append, List.flatten_append]
end Go.Proofs.YtfaeechidjpjbaaGreat

namespace Go.Proofs.YtfaeechidjpjbaaGreat

open Go.RowKit

set_option linter.unusedVariables false

section

variable {P : Program} {ops : Array Oper} {Q : Exit → Act → World → Prop} {md : Region.Mode} {S : World → Prop}

theorem anyH_take {i d : Nat} {oi : Oper} {v : Value} {fuel : Nat} {listed : Array Bool} {a : Act} {w : World} (hi : ops[i]? = some oi) (hd : oi.dst = some d)
    (hs : Region.noSelect ops = true) (hf : Region.free md ops listed i = true) (hr : (Region.ready md ops listed).contains i = true)
    (hQ : ∀ c a w, Q (.panic c) (a.put oi.dst v) w → Q (.panic c) a w) (hy : Yields P ops oi v a) (hS : S w)
    (h : wpAnyH P md ops Q S fuel (listed.setIfInBounds i true) { a with tmps := a.tmps.setIfInBounds d v } w) : wpAnyH P md ops Q S (fuel + 1) listed a w :=
  wpAnyH_take hi hs hf hr hQ hy.yieldsIf hS (by unfold Act.put; rw [hd]; exact h)

theorem anyH_load {i d : Nat} {oi : Oper} {fuel : Nat} {listed : Array Bool} {a : Act} {w : World} (hi : ops[i]? = some oi) (hd : oi.dst = some d)
    (hs : Region.noSelect ops = true) (hf : Region.free md ops listed i = true) (hr : (Region.ready md ops listed).contains i = true)
    (hw : Region.wanted oi (yielded ops a.tmps) = true) (ty : TypeId) (x : Operand) (ho : oi.op = .load ty x)
    (b o : Nat) (hx : a.eval x = .pointer (some ⟨b, o, none⟩)) (cs : List Value) (t : TypeDesc) (hR : ∀ w, S w → w.rangeAt b o cs)
    (hu : P.underlying ty = some t) (ht : t.isRow = true) (hn : (P.info? ty).map (·.size) = some cs.length)
    (hQ : ∀ c a w, Q (.panic c) (a.put oi.dst (.agg cs.toArray)) w → Q (.panic c) a w) (hS : S w)
    (h : wpAnyH P md ops Q S fuel (listed.setIfInBounds i true) { a with tmps := a.tmps.setIfInBounds d (.agg cs.toArray) } w) : wpAnyH P md ops Q S (fuel + 1) listed a w :=
  wpAnyH_take hi hs hf hr hQ (yieldsIf_load_mid hw ty x ho b o hx cs t hR hu ht hn) hS (by unfold Act.put; rw [hd]; exact h)

theorem anyH_one {i : Nat} {fuel : Nat} {listed : Array Bool} {a : Act} {w : World} (hr : Region.ready md ops listed = [i])
    (h : wpOp P ops Q i (fun a' w' => S w' ∧ wpAnyH P md ops Q S fuel (listed.setIfInBounds i true) a' w') a w) : wpAnyH P md ops Q S (fuel + 1) listed a w :=
  wpAnyH_all hr (by simp) (fun j hj => by simp at hj; subst hj; exact h)

end

end Go.Proofs.YtfaeechidjpjbaaGreat
