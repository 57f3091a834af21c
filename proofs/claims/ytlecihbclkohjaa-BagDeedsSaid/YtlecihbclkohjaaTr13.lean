/-
  Three bags side by side: the program's, the document's, and another one.
-/
import Derived.Test.YtlecihbclkohjaaFr13
namespace Go.Proofs.Ytlecihbclkohjaa
open Go.RowKit Go.Maps
set_option linter.unusedVariables false
set_option linter.unusedSimpArgs false

structure TriIn (w0 w : World) (N : Nat → Prop) (ga gb go : Nat) (ba bb : Bg) (k : Nat) (U V O : Nat → Prop) (bo : Bg) : Prop where
  a : BagAt w U ga ba
  b : RbAt w V gb bb
  o : BagAt w O go bo
  uv : ∀ i, U i → ¬ V i
  uo : ∀ i, U i → ¬ O i
  vo : ∀ i, V i → ¬ O i
  un : ∀ i, U i → w0.heap.size ≤ i ∧ ¬ N i
  vn : ∀ i, V i → w0.heap.size ≤ i ∧ ¬ N i
  on : ∀ i, O i → w0.heap.size ≤ i ∧ ¬ N i
  bel : Below w0.heap.size w0 w
  nlt : ∀ i, N i → i < w.heap.size
  so : bo.sent ≤ k
def Tri (w0 w : World) (N : Nat → Prop) (ga gb go : Nat) (ba bb : Bg) (k : Nat) : Prop := ∃ U V O bo, TriIn w0 w N ga gb go ba bb k U V O bo
section
variable {w0 w w' : World} {N N' M S K U' : Nat → Prop} {ga gb go : Nat} {ba bb ba' bb' : Bg} {k : Nat} {E : Int}
theorem Tri.bel (h : Tri w0 w N ga gb go ba bb k) : Below w0.heap.size w0 w := let ⟨_, _, _, _, q⟩ := h; q.bel
theorem Tri.nlt (h : Tri w0 w N ga gb go ba bb k) : ∀ i, N i → i < w.heap.size := let ⟨_, _, _, _, q⟩ := h; q.nlt
/-- Other blocks turn, or are new. -/
theorem Tri.other (h : Tri w0 w N ga gb go ba bb k) (ho : Out S w w') (hS : ∀ i, S i → N i ∧ w0.heap.size ≤ i) (hN : ∀ i, N' i → N i ∨ (w.heap.size ≤ i ∧ i < w'.heap.size)) : Tri w0 w' N' ga gb go ba bb k := by
  obtain ⟨U, V, O, bo, q⟩ := h
  have hz := ho.size
  have hn : ∀ i, i < w.heap.size → ¬ N i → ¬ N' i := fun i hi hn e => (hN i e).elim hn fun h => by omega
  refine ⟨U, V, O, bo, q.a.out ho fun i hi e => (q.un i hi).2 (hS i e).1, q.b.out ho fun i hi e => (q.vn i hi).2 (hS i e).1, q.o.out ho fun i hi e => (q.on i hi).2 (hS i e).1, q.uv, q.uo, q.vo, fun i hi => ⟨(q.un i hi).1, hn i (q.a.lt i hi) (q.un i hi).2⟩, fun i hi => ⟨(q.vn i hi).1, hn i (q.b.lt i hi) (q.vn i hi).2⟩, fun i hi => ⟨(q.on i hi).1, hn i (q.o.lt i hi) (q.on i hi).2⟩, q.bel.trans (ho.above (fun i hi => (hS i hi).2) q.bel.size), fun i hi => ?_, q.so⟩
  rcases hN i hi with h4 | h4
  · have := q.nlt i h4; omega
  · exact h4.2
theorem Tri.keep (h : Tri w0 w N ga gb go ba bb k) (hb : Below w.heap.size w w') (hN : ∀ i, N' i → N i ∨ (w.heap.size ≤ i ∧ i < w'.heap.size)) : Tri w0 w' N' ga gb go ba bb k :=
  h.other (S := fun _ => False) (Out.ofBelow _ hb) (fun i h => h.elim) hN
theorem Tri.below (h : Tri w0 w N ga gb go ba bb k) (hb : Below w.heap.size w w') : Tri w0 w' N ga gb go ba bb k := h.keep hb fun i hi => .inl hi
theorem Tri.less (h : Tri w0 w N ga gb go ba bb k) (hN : ∀ i, N' i → N i) : Tri w0 w N' ga gb go ba bb k := h.keep (Below.refl _ _) fun i hi => .inl (hN i hi)
theorem Tri.stepA {U V O : Nat → Prop} {bo : Bg} (q : TriIn w0 w N ga gb go ba bb k U V O bo) (hB : BagAt w' U' ga ba') (hO : Out U w w') (hU : ∀ i, U' i → U i ∨ (w.heap.size ≤ i ∧ i < w'.heap.size ∧ ¬ M i)) (hM : ∀ i, M i → w.heap.size ≤ i ∧ i < w'.heap.size) :
    Tri w0 w' (fun i => N i ∨ M i) ga gb go ba' bb k ∧ Out (fun i => ¬ N i) w w' := by
  have hz := hO.size
  have hb0 := q.bel.size
  refine ⟨⟨U', V, O, bo, hB, q.b.out hO fun i hi e => q.uv i e hi, q.o.out hO fun i hi e => q.uo i e hi, fun i hi e => ?_, fun i hi e => ?_, q.vo, fun i hi => ?_, fun i hi => ⟨(q.vn i hi).1, fun e => e.elim (q.vn i hi).2 fun e => by have := hM i e; have := q.b.lt i hi; omega⟩, fun i hi => ⟨(q.on i hi).1, fun e => e.elim (q.on i hi).2 fun e => by have := hM i e; have := q.o.lt i hi; omega⟩, q.bel.trans (hO.above (fun i hi => (q.un i hi).1) hb0), fun i hi => ?_, q.so⟩, ⟨hO.os, hO.tape, hO.output, hO.size, fun i hi hn => hO.block i hi fun e => hn (q.un i e).2⟩⟩
  · rcases hU i hi with h | h
    · exact q.uv i h e
    · have := q.b.lt i e; omega
  · rcases hU i hi with h | h
    · exact q.uo i h e
    · have := q.o.lt i e; omega
  · rcases hU i hi with h | h
    · exact ⟨(q.un i h).1, fun e => e.elim (q.un i h).2 fun e => by have := hM i e; have := q.a.lt i h; omega⟩
    · exact ⟨by omega, fun e => e.elim (fun e => by have := q.nlt i e; omega) h.2.2⟩
  · rcases hi with h | h
    · have := q.nlt i h; omega
    · exact (hM i h).2
theorem Tri.stepB {U V O : Nat → Prop} {bo : Bg} (q : TriIn w0 w N ga gb go ba bb k U V O bo) (hB : RbAt w' U' gb bb') (hO : Out V w w') (hU : ∀ i, U' i → V i ∨ (w.heap.size ≤ i ∧ i < w'.heap.size ∧ ¬ M i)) (hM : ∀ i, M i → w.heap.size ≤ i ∧ i < w'.heap.size) :
    Tri w0 w' (fun i => N i ∨ M i) ga gb go ba bb' k ∧ Out (fun i => ¬ N i) w w' := by
  have hz := hO.size
  have hb0 := q.bel.size
  refine ⟨⟨U, U', O, bo, q.a.out hO fun i hi e => q.uv i hi e, hB, q.o.out hO fun i hi e => q.vo i e hi, fun i hi e => ?_, q.uo, fun i hi e => ?_, fun i hi => ⟨(q.un i hi).1, fun e => e.elim (q.un i hi).2 fun e => by have := hM i e; have := q.a.lt i hi; omega⟩, fun i hi => ?_, fun i hi => ⟨(q.on i hi).1, fun e => e.elim (q.on i hi).2 fun e => by have := hM i e; have := q.o.lt i hi; omega⟩, q.bel.trans (hO.above (fun i hi => (q.vn i hi).1) hb0), fun i hi => ?_, q.so⟩, ⟨hO.os, hO.tape, hO.output, hO.size, fun i hi hn => hO.block i hi fun e => hn (q.vn i e).2⟩⟩
  · rcases hU i e with h | h
    · exact q.uv i hi h
    · have := q.a.lt i hi; omega
  · rcases hU i hi with h | h
    · exact q.vo i h e
    · have := q.o.lt i e; omega
  · rcases hU i hi with h | h
    · exact ⟨(q.vn i h).1, fun e => e.elim (q.vn i h).2 fun e => by have := hM i e; have := q.b.lt i h; omega⟩
    · exact ⟨by omega, fun e => e.elim (fun e => by have := q.nlt i e; omega) h.2.2⟩
  · rcases hi with h | h
    · have := q.nlt i h; omega
    · exact (hM i h).2
theorem none_m {P : Nat → Prop} {Q : Prop} (h : Tri w0 w' (fun i => N i ∨ False) ga gb go ba bb k ∧ Q) : Tri w0 w' N ga gb go ba bb k ∧ Q := ⟨h.1.less fun i hi => .inl hi, h.2⟩
theorem gr_of {U : Nat → Prop} (i : Nat) (h : Gr U w w' i) : U i ∨ (w.heap.size ≤ i ∧ i < w'.heap.size ∧ ¬ (fun _ : Nat => False) i) := h.imp_right fun h => ⟨h.1, h.2, fun h => h⟩
theorem ta_put (h : Tri w0 w N ga gb go ba bb k) (x : EnH) (hx : ByP w K x) (hse : ba.sent < 1000000) (hxl : x.n ≤ 140737488355328) (hE : putE ba x.x = E) (hb' : putB ba x.x = ba') :
    Calls Try.prog 13 #[.pointer (some ⟨ga, 0, none⟩), .agg #[.int .i64 x.x.fr, .int .i64 x.x.to, .slice x.a x.n x.c]] w fun e w' => e = .returned (.int .i64 E) ∧ Tri w0 w' N ga gb go ba' bb k ∧ Out (fun i => ¬ N i) w w' := by
  subst hE; subst hb'
  obtain ⟨U, V, O, bo, q⟩ := h
  refine (put_any q.a x hx hse hxl).mono ?_
  rintro e w' ⟨rfl, hB, hO⟩
  exact ⟨rfl, none_m (P := N) (Tri.stepA q hB hO gr_of fun i h => h.elim)⟩
theorem ta_drop (h : Tri w0 w N ga gb go ba bb k) (i : Int) (hlo : ba.lost < 1000000) (hE : lackE ba i = E) (hb' : dropB ba i = ba') :
    Calls Try.prog 22 #[.pointer (some ⟨ga, 0, none⟩), .int .i64 i] w fun e w' => e = .returned (.int .i64 E) ∧ Tri w0 w' N ga gb go ba' bb k ∧ Out (fun i => ¬ N i) w w' := by
  subst hE; subst hb'
  obtain ⟨U, V, O, bo, q⟩ := h
  refine (drop_any q.a i hlo).mono ?_
  rintro e w' ⟨rfl, hB, hO⟩
  exact ⟨rfl, none_m (P := N) (Tri.stepA q hB hO gr_of fun i h => h.elim)⟩
theorem ta_dbl (h : Tri w0 w N ga gb go ba bb k) (i : Int) (hse : ba.sent < 1000000) (hE : dblE ba i = E) (hb' : dblB ba i = ba') :
    Calls Try.prog 24 #[.pointer (some ⟨ga, 0, none⟩), .int .i64 i] w fun e w' => e = .returned (.int .i64 E) ∧ Tri w0 w' N ga gb go ba' bb k ∧ Out (fun i => ¬ N i) w w' := by
  subst hE; subst hb'
  obtain ⟨U, V, O, bo, q⟩ := h
  refine (dbl_any q.a i hse).mono ?_
  rintro e w' ⟨rfl, hB, hO⟩
  exact ⟨rfl, none_m (P := N) (Tri.stepA q hB hO gr_of fun i h => h.elim)⟩
theorem tb_put (h : Tri w0 w N ga gb go ba bb k) (x : EnH) (hx : ByP w K x) (hse : bb.sent < 1000000) (hxl : x.n ≤ 140737488355328) (hE : putE bb x.x = E) (hb' : putB bb x.x = bb') :
    Calls Try.prog 16 #[.pointer (some ⟨gb, 0, none⟩), .agg #[.int .i64 x.x.fr, .int .i64 x.x.to, .slice x.a x.n x.c]] w fun e w' => e = .returned (.int .i64 E) ∧ Tri w0 w' N ga gb go ba bb' k ∧ Out (fun i => ¬ N i) w w' := by
  subst hE; subst hb'
  obtain ⟨U, V, O, bo, q⟩ := h
  refine (rput_any q.b x hx hse hxl).mono ?_
  rintro e w' ⟨rfl, hB, hO⟩
  exact ⟨rfl, none_m (P := N) (Tri.stepB q hB hO gr_of fun i h => h.elim)⟩
theorem tb_drop (h : Tri w0 w N ga gb go ba bb k) (i : Int) (hlo : bb.lost < 1000000) (hE : lackE bb i = E) (hb' : dropB bb i = bb') :
    Calls Try.prog 23 #[.pointer (some ⟨gb, 0, none⟩), .int .i64 i] w fun e w' => e = .returned (.int .i64 E) ∧ Tri w0 w' N ga gb go ba bb' k ∧ Out (fun i => ¬ N i) w w' := by
  subst hE; subst hb'
  obtain ⟨U, V, O, bo, q⟩ := h
  refine (rdrop_any q.b i hlo).mono ?_
  rintro e w' ⟨rfl, hB, hO⟩
  exact ⟨rfl, none_m (P := N) (Tri.stepB q hB hO gr_of fun i h => h.elim)⟩
theorem tb_dbl (h : Tri w0 w N ga gb go ba bb k) (i : Int) (hse : bb.sent < 1000000) (hE : dblE bb i = E) (hb' : dblB bb i = bb') :
    Calls Try.prog 25 #[.pointer (some ⟨gb, 0, none⟩), .int .i64 i] w fun e w' => e = .returned (.int .i64 E) ∧ Tri w0 w' N ga gb go ba bb' k ∧ Out (fun i => ¬ N i) w w' := by
  subst hE; subst hb'
  obtain ⟨U, V, O, bo, q⟩ := h
  refine (rdbl_any q.b i hse).mono ?_
  rintro e w' ⟨rfl, hB, hO⟩
  exact ⟨rfl, none_m (P := N) (Tri.stepB q hB hO gr_of fun i h => h.elim)⟩
/-- The other bag takes one more. -/
theorem to_put (h : Tri w0 w N ga gb go ba bb k) (hk : k < 1000000) : Calls Try.prog 13 #[.pointer (some ⟨go, 0, none⟩), .agg #[.int .i64 1, .int .i64 2, .slice none 0 0]] w fun e w' => (∃ v, e = .returned v) ∧ Tri w0 w' N ga gb go ba bb (k + 1) ∧ Out (fun i => ¬ N i) w w' := by
  obtain ⟨U, V, O, bo, q⟩ := h
  refine (put_any q.o ⟨⟨1, 2, []⟩, none, 0, 0⟩ (show ByP w (fun _ => False) ⟨⟨1, 2, []⟩, none, 0, 0⟩ from ⟨rfl, Nat.le_refl _, by simp [maxLen], by decide, by decide, fun h => absurd h (Nat.lt_irrefl 0)⟩) (by have := q.so; omega) (by decide)).mono ?_
  rintro e w' ⟨rfl, hB, hO⟩
  have hz := hO.size
  have hb0 := q.bel.size
  refine ⟨⟨_, rfl⟩, ⟨U, V, _, _, q.a.out hO fun i hi e => q.uo i hi e, q.b.out hO fun i hi e => q.vo i hi e, hB, q.uv, fun i hi e => ?_, fun i hi e => ?_, q.un, q.vn, fun i hi => ?_, q.bel.trans (hO.above (fun i hi => (q.on i hi).1) hb0), fun i hi => Nat.lt_of_lt_of_le (q.nlt i hi) hz, ?_⟩, ⟨hO.os, hO.tape, hO.output, hO.size, fun i hi hn => hO.block i hi fun e => hn (q.on i e).2⟩⟩
  · rcases e with h | h
    · exact q.uo i hi h
    · have := q.a.lt i hi; omega
  · rcases e with h | h
    · exact q.vo i hi h
    · have := q.b.lt i hi; omega
  · rcases hi with h | h
    · exact q.on i h
    · exact ⟨by omega, fun e => by have := q.nlt i e; omega⟩
  · have := q.so
    unfold putB
    split
    · show bo.sent + 1 ≤ _; omega
    · omega
/-- A note that is answered, in new blocks of M. -/
def TA (w0 w : World) (N : Nat → Prop) (ga gb go : Nat) (ba bb : Bg) (k : Nat) (x : En) (E : Int) (e : Ending) (w' : World) : Prop :=
  ∃ (a : Option Addr) (n c : Nat) (M : Nat → Prop), e = .returned (.tuple #[.agg #[.int .i64 x.fr, .int .i64 x.to, .slice a n c], .int .i64 E]) ∧ Tri w0 w' (fun i => N i ∨ M i) ga gb go ba bb k ∧ ByP w' M ⟨x, a, n, c⟩ ∧ FrP w' M ⟨x, a, n, c⟩ ∧ Out (fun i => ¬ N i) w w' ∧ ∀ i, M i → w.heap.size ≤ i
def TB (w0 w : World) (N : Nat → Prop) (ga gb go : Nat) (ba bb : Bg) (k : Nat) (x : En) (E : Int) (e : Ending) (w' : World) : Prop :=
  ∃ (a : Option Addr) (n c : Nat) (M : Nat → Prop), e = .returned (.tuple #[.agg #[.int .i64 x.fr, .int .i64 x.to, .slice a n c], .int .i64 E]) ∧ Tri w0 w' (fun i => N i ∨ M i) ga gb go ba bb k ∧ ByP w' M ⟨x, a, n, c⟩ ∧ Out (fun i => ¬ N i) w w' ∧ ∀ i, M i → w.heap.size ≤ i
theorem fr_in {w : World} {P : Nat → Prop} {h : EnH} (k : FrP w P h) : FrP w (fun i => P i ∧ i < w.heap.size) h := fun hn => let ⟨b, off, cs, e, h1, h2, h3⟩ := k hn; ⟨b, off, cs, e, ⟨h1, h2.lt⟩, h2, h3⟩
theorem by_in {w : World} {P : Nat → Prop} {h : EnH} (k : ByP w P h) : ByP w (fun i => P i ∧ i < w.heap.size) h := ⟨k.1, k.2.1, k.2.2.1, k.2.2.2.1, k.2.2.2.2.1, fun hn => let ⟨b', off, e, h1, h2, h3⟩ := k.2.2.2.2.2 hn; ⟨b', off, e, ⟨h1, h2⟩, h2, h3⟩⟩
theorem ta_tookF {U V O : Nat → Prop} {bo : Bg} {x : En} {e : Ending} (q : TriIn w0 w N ga gb go ba bb k U V O bo) (hT : TookF w U ga x E ba' e w') : TA w0 w N ga gb go ba' bb k x E e w' := by
  obtain ⟨⟨_, a, n, c⟩, Nn, rfl, rfl, hM, hM2, hB, hO, hby, hfr⟩ := hT
  obtain ⟨h1, h2⟩ := Tri.stepA (M := fun i => Nn ≤ i ∧ i < w'.heap.size) q hB hO (fun i hi => hi.imp_right fun h => ⟨h.1, by omega, by omega⟩) fun i hi => ⟨by omega, hi.2⟩
  exact ⟨a, n, c, _, rfl, h1, by_in hby, fr_in hfr, h2, fun i hi => by omega⟩
theorem ta_look (h : Tri w0 w N ga gb go ba bb k) (i : Int) (x : En) (hE : lackE ba i = E) (hx : lookB ba i = x) : Calls Try.prog 18 #[.pointer (some ⟨ga, 0, none⟩), .int .i64 i] w (TA w0 w N ga gb go ba bb k x E) := by
  subst hE; subst hx
  obtain ⟨U, V, O, bo, q⟩ := h
  exact (lookF_any q.a i).mono fun e w' hT => ta_tookF q hT
theorem ta_take (h : Tri w0 w N ga gb go ba bb k) (i : Int) (x : En) (hE : lackE ba i = E) (hx : lookB ba i = x) (hb' : takeB ba i = ba') : Calls Try.prog 20 #[.pointer (some ⟨ga, 0, none⟩), .int .i64 i] w (TA w0 w N ga gb go ba' bb k x E) := by
  subst hE; subst hx; subst hb'
  obtain ⟨U, V, O, bo, q⟩ := h
  exact (takeF_any q.a i).mono fun e w' hT => ta_tookF q hT
theorem tb_look (h : Tri w0 w N ga gb go ba bb k) (i : Int) (x : En) (hE : lackE bb i = E) (hx : lookB bb i = x) : Calls Try.prog 19 #[.pointer (some ⟨gb, 0, none⟩), .int .i64 i] w (TB w0 w N ga gb go ba bb k x E) := by
  subst hE; subst hx
  have h0 := h
  obtain ⟨U, V, O, bo, q⟩ := h
  refine (rlook_any q.b i).mono ?_
  rintro e w' ⟨⟨_, a, n, c⟩, rfl, rfl, hby, hb⟩
  exact ⟨a, n, c, fun i => w.heap.size ≤ i ∧ i < w'.heap.size, rfl, h0.keep hb fun i hi => hi, by_in hby, Out.ofBelow _ hb, fun i hi => hi.1⟩
theorem tb_take (h : Tri w0 w N ga gb go ba bb k) (i : Int) (x : En) (hE : lackE bb i = E) (hx : lookB bb i = x) (hb' : takeB bb i = bb') : Calls Try.prog 21 #[.pointer (some ⟨gb, 0, none⟩), .int .i64 i] w (TB w0 w N ga gb go ba bb' k x E) := by
  subst hE; subst hx; subst hb'
  obtain ⟨U, V, O, bo, q⟩ := h
  refine (rtake_any q.b i).mono ?_
  rintro e w' ⟨⟨_, a, n, c⟩, M, rfl, rfl, hB, hO, hby, hM⟩
  obtain ⟨h1, h2⟩ := Tri.stepB (M := M) q hB hO (fun i hi => hi) hM
  exact ⟨a, n, c, M, rfl, h1, hby, h2, fun i hi => (hM i hi).1⟩
end
end Go.Proofs.Ytlecihbclkohjaa
