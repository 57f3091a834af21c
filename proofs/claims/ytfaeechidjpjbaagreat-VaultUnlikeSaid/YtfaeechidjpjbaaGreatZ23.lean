/-
  Laid together for a hand-in: Vr16.
-/
import Derived.Test.YtfaeechidjpjbaaGreatZ22

namespace Go.Proofs.YtfaeechidjpjbaaGreat
open Go.RowKit Go.Maps
set_option linter.unusedVariables false
set_option linter.unusedSimpArgs false
/-- A vault whose blocks are none of K. -/
structure Vc (w0 : World) (g : Nat) (bk : Value) (K : Nat → Prop) (v : Va) (w : World) : Prop where
  va : ∃ U cs, VaIn w U g bk v cs ∧ ∀ i, U i → w0.heap.size ≤ i ∧ ¬ K i
  bel : Below w0.heap.size w0 w
  kl : ∀ i, K i → i < w.heap.size
section
variable {w0 w w' : World} {g : Nat} {bk : Value} {K : Nat → Prop} {v : Va}
theorem Vc.below (h : Vc w0 g bk K v w) (hb : Below w.heap.size w w') : Vc w0 g bk K v w' :=
  ⟨let ⟨U, cs, h1, h2⟩ := h.va; ⟨U, cs, h1.below hb, h2⟩, h.bel.trans (hb.mono h.bel.size), fun i hi => Nat.lt_of_lt_of_le (h.kl i hi) hb.size⟩
theorem Vc.gone (h : Vc w0 g bk K v w) {U : Nat → Prop} {cs : List Value} {v' : Va} (hU : ∀ i, U i → w0.heap.size ≤ i ∧ ¬ K i) (hg : U g) (hd : DoneV w U g bk v' w') : Vc w0 g bk K v' w' := by
  obtain ⟨U', cs', h1, h2, h3, h4⟩ := hd
  refine ⟨⟨U', cs', h1, fun i hi => ?_⟩, h.bel.trans (h4.above (fun i hi => by subst hi; exact (hU _ hg).1) h.bel.size), fun i hi => Nat.lt_of_lt_of_le (h.kl i hi) h4.size⟩
  rcases h3 i hi with e | e
  · exact hU i e
  · exact ⟨Nat.le_trans h.bel.size e, fun hk => by have := h.kl i hk; omega⟩
/-- What a call of Do leaves: the answer, the vault, and what is kept of others. -/
def DoneK (w0 : World) (g : Nat) (bk : Value) (K : Nat → Prop) (v : Va) (a : An) (w : World) (u : Value) (w' : World) : Prop :=
  ∃ A m c, a.da.length = m ∧ u = .agg #[.int .i64 a.er, .slice A m c, .int .i64 a.ep, .slice none 0 0] ∧ Bs w' A a.da ∧ (∀ b, inA A b → w.heap.size ≤ b) ∧ (∀ b, inA A b → b ≠ g) ∧ Vc w0 g bk K v w' ∧ Out (fun i => i = g) w w' ∧ (∀ i, K i → i ≠ g)
theorem Vc.do_ (h : Vc w0 g bk K v w) {x : Wl} {Dx : Option Addr} {ndx cdx : Nat} {Nx : Option Addr} {nnx cnx : Nat} (hx : ArgW w x Dx ndx cdx Nx nnx cnx) (hm : May x) (hgr : x.gr = v.gr) :
    Calls Tryz.prog 22 #[.pointer (some ⟨g, 0, none⟩), .agg #[.int .i64 x.cl, .int .i64 x.sp, .int .i64 x.gr, .int .i64 x.ep, .int .i64 x.kd, .int .i64 x.bl, .slice Dx ndx cdx, .int .i64 x.od, .int .i64 x.nw, .slice Nx nnx cnx]] w fun e w' => ∃ u, e = .returned (.tuple #[u, .int .i64 0]) ∧ DoneK w0 g bk K (doS v x).1 (doS v x).2 w u w' := by
  have h0 := h
  obtain ⟨U, cs, h1, h2⟩ := h.va
  refine (do_in h1 hx hm hgr).mono fun e w' ⟨u, he, d, U', cs', hu, hM, hown, hV, hU1, hU2, ho⟩ => ⟨u, he, ?_⟩
  obtain ⟨A, c, rfl, hl, hc, hB⟩ := Mine.form hM
  have hlt := h1.lt g h1.u
  have hge : ∀ b, inA A b → w.heap.size ≤ b := own_new (w' := w') hM
  exact ⟨A, _, c, rfl, hu, hB, hge, fun b hb e => by have := hge b hb; omega, h0.gone (cs := cs) h2 h1.u ⟨U', cs', hV, hU1, hU2, ho⟩, ho, fun i hi e => (h2 g h1.u).2 (e ▸ hi)⟩
theorem Vc.wish (h : Vc w0 g bk K v w) (n sp : Int) (hn : -9223372036854775808 ≤ n ∧ n ≤ 9223372036854775807) (hsp : 1 ≤ sp ∧ sp ≤ 9007199254740991) : Calls Tryz.prog 21 #[.pointer (some ⟨g, 0, none⟩), .int .i64 n, .int .i64 sp] w
    (RetW (fun x => WishV v.ep sp x ∧ (x.kd = 5 ↔ n % 12 = 0)) w) := by
  obtain ⟨U, cs, h1, h2⟩ := h.va
  exact vwish_in h1 n sp hn hsp
theorem Vc.turn (h : Vc w0 g bk K v w) : Calls Tryz.prog 25 #[.pointer (some ⟨g, 0, none⟩)] w fun e w' => e = .returned (.int .i64 (turnE v)) ∧ Vc w0 g bk K (turnS v) w' ∧ Out (fun i => i = g) w w' ∧ (∀ i, K i → i ≠ g) := by
  have h0 := h
  obtain ⟨U, cs, h1, h2⟩ := h.va
  exact (turn_in h1).mono fun e w' ⟨he, ⟨cs', hv⟩, ho⟩ => ⟨he, h0.gone (cs := cs) h2 h1.u ⟨U, cs', hv, fun _ e => e, fun _ e => .inl e, ho⟩, ho, fun i hi e => (h2 g h1.u).2 (e ▸ hi)⟩
theorem Vc.look (h : Vc w0 g bk K v w) {b : Int} (hb : 0 ≤ b ∧ b < 8) : Calls Tryz.prog 26 #[.pointer (some ⟨g, 0, none⟩), .int .i64 b] w fun e w' => ∃ d, e = .returned (.tuple #[d, .int .i64 0]) ∧ NewB w (v.bl b.toNat) d w' := by
  obtain ⟨U, cs, h1, h2⟩ := h.va
  exact look_in h1 hb
theorem Vc.gr1 (h : Vc w0 g bk K v w) : v.ok := by obtain ⟨U, cs, h1, h2⟩ := h.va; exact h1.ok
/-- A store into a block of K. -/
theorem Vc.put (h : Vc w0 g bk K v w) {b o : Nat} (hb : K b) (hB : w0.heap.size ≤ b) (u : Value) : Vc w0 g bk K v (w.setCell ⟨b, o, none⟩ u) := by
  obtain ⟨U, cs, h1, h2⟩ := h.va
  have ho : Out (fun i => i = b) w (w.setCell ⟨b, o, none⟩ u) := Out.setCell (S := fun i => i = b) (p := ⟨b, o, none⟩) (Out.refl _ _) (fun _ => rfl) u
  exact ⟨⟨U, cs, h1.out ho (fun i hi e => (h2 i hi).2 (e ▸ hb)), h2⟩, h.bel.setCell (p := ⟨b, o, none⟩) hB u, fun i hi => Nat.lt_of_lt_of_le (h.kl i hi) ho.size⟩
end
end Go.Proofs.YtfaeechidjpjbaaGreat
