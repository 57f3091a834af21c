/-
  A bag that is carried along beside blocks that are kept; the statements' works over the code.
-/
import Derived.Test.YtlecihbclkohjaaHs13
namespace Go.Proofs.Ytlecihbclkohjaa
open Go.RowKit Go.Maps
set_option linter.unusedVariables false
set_option linter.unusedSimpArgs false

theorem u8_small {j : Nat} (h : j < 256) : IntKind.u8.wrap (j : Int) = (j : Int) := by
  have e : (j : Int) % 2 ^ 8 = j := Int.emod_eq_of_lt (by omega) (by omega)
  simp only [IntKind.wrap, IntKind.bits, IntKind.signed, e]
  simp
/-- A bag that was made behind w0, none of whose blocks is one of N. -/
def BK (w0 w : World) (N : Nat → Prop) (g : Nat) (b : Bg) : Prop := (∃ U, BagAt w U g b ∧ ∀ i, U i → w0.heap.size ≤ i ∧ ¬ N i) ∧ Below w0.heap.size w0 w ∧ ∀ i, N i → i < w.heap.size
section
variable {w0 w w' : World} {N N' K : Nat → Prop} {g : Nat} {b b' : Bg} {E : Int}
theorem BK.bel (h : BK w0 w N g b) : Below w0.heap.size w0 w := h.2.1
theorem BK.ok (h : BK w0 w N g b) : b.ok := let ⟨U, k, _⟩ := h.1; k.ok
theorem BK.keep (h : BK w0 w N g b) (hb : Below w.heap.size w w') (hN : ∀ i, N' i → N i ∨ (w.heap.size ≤ i ∧ i < w'.heap.size)) : BK w0 w' N' g b := by
  obtain ⟨⟨U, k, hU⟩, h2, h3⟩ := h
  have hz := hb.size
  refine ⟨⟨U, k.below hb, fun i hi => ⟨(hU i hi).1, fun e => ?_⟩⟩, h2.trans (hb.mono h2.size), fun i hi => ?_⟩
  · rcases hN i e with h4 | h4
    · exact (hU i hi).2 h4
    · have := k.lt i hi; omega
  · rcases hN i hi with h4 | h4
    · have := h3 i h4; omega
    · exact h4.2
theorem BK.below (h : BK w0 w N g b) (hb : Below w.heap.size w w') : BK w0 w' N g b := h.keep hb fun i hi => .inl hi
theorem BK.less (h : BK w0 w N g b) (hN : ∀ i, N' i → N i) : BK w0 w N' g b := h.keep (Below.refl _ _) fun i hi => .inl (hN i hi)
/-- What a call of the bag's leaves of others. -/
theorem BK.stays {U : Nat → Prop} (hU : ∀ i, U i → w0.heap.size ≤ i ∧ ¬ N i) (hO : Out U w w') : Out (fun i => ¬ N i) w w' := ⟨hO.os, hO.tape, hO.output, hO.size, fun i hi hn => hO.block i hi fun e => hn (hU i e).2⟩
theorem BK.step {U : Nat → Prop} (h2 : Below w0.heap.size w0 w) (h3 : ∀ i, N i → i < w.heap.size) (hU : ∀ i, U i → w0.heap.size ≤ i ∧ ¬ N i) (hB : BagAt w' (Gr U w w') g b') (hO : Out U w w') : BK w0 w' N g b' ∧ Out (fun i => ¬ N i) w w' := by
  have hz := h2.size
  refine ⟨⟨⟨_, hB, fun i hi => ?_⟩, h2.trans (hO.above (fun i hi => (hU i hi).1) hz), fun i hi => Nat.lt_of_lt_of_le (h3 i hi) hO.size⟩, BK.stays hU hO⟩
  rcases hi with h | h
  · exact hU i h
  · exact ⟨by omega, fun e => by have := h3 i e; omega⟩
theorem ByP.stays {h : EnH} (k : ByP w K h) (ho : Out (fun i => ¬ N i) w w') (hK : ∀ i, K i → N i) : ByP w' K h := k.out ho fun i hi e => e (hK i hi)
theorem k_new (hb : Below w0.heap.size w0 w) (N : Nat → Prop) (hN : ∀ i, N i → i < w.heap.size) : Calls Try.prog 11 #[] w fun e w' => ∃ g, e = .returned (.pointer (some ⟨g, 0, none⟩)) ∧ BK w0 w' N g newB ∧ Below w.heap.size w w' := by
  refine (new_any w).mono ?_
  rintro e w' ⟨g, rfl, h1, h2, h3⟩
  have hz := hb.size
  exact ⟨g, rfl, ⟨⟨_, h2, fun i hi => by subst hi; exact ⟨by omega, fun e => by have := hN _ e; omega⟩⟩, hb.trans (h3.mono hz), fun i hi => Nat.lt_of_lt_of_le (hN i hi) h3.size⟩, h3⟩
theorem k_put (h : BK w0 w N g b) (x : EnH) (hx : ByP w K x) (hse : b.sent < 1000000) (hxl : x.n ≤ 140737488355328) (hE : putE b x.x = E) (hb' : putB b x.x = b') :
    Calls Try.prog 13 #[.pointer (some ⟨g, 0, none⟩), .agg #[.int .i64 x.x.fr, .int .i64 x.x.to, .slice x.a x.n x.c]] w fun e w' => e = .returned (.int .i64 E) ∧ BK w0 w' N g b' ∧ Out (fun i => ¬ N i) w w' := by
  subst hE; subst hb'
  obtain ⟨⟨U, k, hU⟩, h2, h3⟩ := h
  refine (put_any k x hx hse hxl).mono ?_
  rintro e w' ⟨rfl, hB, hO⟩
  exact ⟨rfl, BK.step h2 h3 hU hB hO⟩
theorem k_drop (h : BK w0 w N g b) (i : Int) (hlo : b.lost < 1000000) (hE : lackE b i = E) (hb' : dropB b i = b') :
    Calls Try.prog 22 #[.pointer (some ⟨g, 0, none⟩), .int .i64 i] w fun e w' => e = .returned (.int .i64 E) ∧ BK w0 w' N g b' ∧ Out (fun i => ¬ N i) w w' := by
  subst hE; subst hb'
  obtain ⟨⟨U, k, hU⟩, h2, h3⟩ := h
  refine (drop_any k i hlo).mono ?_
  rintro e w' ⟨rfl, hB, hO⟩
  exact ⟨rfl, BK.step h2 h3 hU hB hO⟩
theorem k_dbl (h : BK w0 w N g b) (i : Int) (hse : b.sent < 1000000) (hE : dblE b i = E) (hb' : dblB b i = b') :
    Calls Try.prog 24 #[.pointer (some ⟨g, 0, none⟩), .int .i64 i] w fun e w' => e = .returned (.int .i64 E) ∧ BK w0 w' N g b' ∧ Out (fun i => ¬ N i) w w' := by
  subst hE; subst hb'
  obtain ⟨⟨U, k, hU⟩, h2, h3⟩ := h
  refine (dbl_any k i hse).mono ?_
  rintro e w' ⟨rfl, hB, hO⟩
  exact ⟨rfl, BK.step h2 h3 hU hB hO⟩
/-- A note that is answered, its bytes in new blocks of M. -/
def TookK (w0 w : World) (N : Nat → Prop) (g : Nat) (x : En) (E : Int) (b' : Bg) (e : Ending) (w' : World) : Prop :=
  ∃ (a : Option Addr) (n c : Nat) (M : Nat → Prop), e = .returned (.tuple #[.agg #[.int .i64 x.fr, .int .i64 x.to, .slice a n c], .int .i64 E]) ∧ BK w0 w' (fun i => N i ∨ M i) g b' ∧ ByP w' M ⟨x, a, n, c⟩ ∧ Out (fun i => ¬ N i) w w' ∧ ∀ i, M i → w.heap.size ≤ i
theorem took_k {U : Nat → Prop} {x : En} {e : Ending} (h2 : Below w0.heap.size w0 w) (h3 : ∀ i, N i → i < w.heap.size) (hU : ∀ i, U i → w0.heap.size ≤ i ∧ ¬ N i) (hlt : ∀ i, U i → i < w.heap.size) (hT : Took w U g x E b' e w') : TookK w0 w N g x E b' e w' := by
  obtain ⟨⟨_, a, n, c⟩, M, rfl, rfl, hM, hM2, hB, hO, hby⟩ := hT
  have hz := h2.size
  have hz2 := hO.size
  refine ⟨a, n, c, fun i => M ≤ i ∧ i < w'.heap.size, rfl, ⟨⟨_, hB, fun i hi => ?_⟩, h2.trans (hO.above (fun i hi => (hU i hi).1) hz), fun i hi => ?_⟩, ⟨hby.1, hby.2.1, hby.2.2.1, hby.2.2.2.1, hby.2.2.2.2.1, fun hn => let ⟨b', off, e, h1, h2, h3⟩ := hby.2.2.2.2.2 hn; ⟨b', off, e, ⟨h1, h2⟩, h2, h3⟩⟩, BK.stays hU hO, fun i hi => by omega⟩
  · rcases hi with h | h
    · exact ⟨(hU i h).1, fun e => e.elim (hU i h).2 fun e => by have := hlt i h; omega⟩
    · exact ⟨by omega, fun e => e.elim (fun e => by have := h3 i e; omega) fun e => by omega⟩
  · rcases hi with h | h
    · have := h3 i h; omega
    · exact h.2
theorem k_look (h : BK w0 w N g b) (i : Int) (x : En) (hE : lackE b i = E) (hx : lookB b i = x) : Calls Try.prog 18 #[.pointer (some ⟨g, 0, none⟩), .int .i64 i] w (TookK w0 w N g x E b) := by
  subst hE; subst hx
  obtain ⟨⟨U, k, hU⟩, h2, h3⟩ := h
  exact (look_any k i).mono fun e w' hT => took_k h2 h3 hU k.lt hT
theorem k_take (h : BK w0 w N g b) (i : Int) (x : En) (hE : lackE b i = E) (hx : lookB b i = x) (hb' : takeB b i = b') : Calls Try.prog 20 #[.pointer (some ⟨g, 0, none⟩), .int .i64 i] w (TookK w0 w N g x E b') := by
  subst hE; subst hx; subst hb'
  obtain ⟨⟨U, k, hU⟩, h2, h3⟩ := h
  exact (take_any k i).mono fun e w' hT => took_k h2 h3 hU k.lt hT
theorem k_next (h : BK w0 w N g b) (s : Int) (hE : nextB b s = E) : Calls Try.prog 26 #[.pointer (some ⟨g, 0, none⟩), .int .i64 s] w fun e w' => e = .returned (.int .i64 E) ∧ Below w.heap.size w w' := by
  subst hE
  obtain ⟨⟨U, k, hU⟩, _⟩ := h
  exact next_any k s
theorem k_len (h : BK w0 w N g b) (n : Nat) (hn : b.l.length = n) : Calls Try.prog 28 #[.pointer (some ⟨g, 0, none⟩)] w fun e w' => e = .returned (.int .i64 (n : Int)) ∧ w' = w := by
  obtain ⟨⟨U, k, hU⟩, _⟩ := h
  exact blen_any k n hn
theorem k_sent (h : BK w0 w N g b) (n : Nat) (hn : b.sent = n) : Calls Try.prog 30 #[.pointer (some ⟨g, 0, none⟩)] w fun e w' => e = .returned (.int .i64 (n : Int)) ∧ w' = w := by
  subst hn
  obtain ⟨⟨U, k, hU⟩, _⟩ := h
  exact bsent_any k
theorem k_lost (h : BK w0 w N g b) (n : Nat) (hn : b.lost = n) : Calls Try.prog 32 #[.pointer (some ⟨g, 0, none⟩)] w fun e w' => e = .returned (.int .i64 (n : Int)) ∧ w' = w := by
  subst hn
  obtain ⟨⟨U, k, hU⟩, _⟩ := h
  exact blost_any k
/-- note, of a byte that is told as a number. -/
theorem k_note (f t v : Int) (hf : Wf f) (ht : Wf t) (x : UInt8) (hv : v = (x.toNat : Int)) (w : World) : Calls Try.prog 37 #[.int .i64 f, .int .i64 t, .int .u8 v] w fun e w' =>
    ∃ (a : Option Addr) (n c : Nat), e = .returned (.agg #[.int .i64 f, .int .i64 t, .slice a n c]) ∧ ByP w' (fun i => w.heap.size ≤ i ∧ i < w'.heap.size) ⟨⟨f, t, [x]⟩, a, n, c⟩ ∧ Below w.heap.size w w' := by
  subst hv
  refine (note_any f t hf ht x w).mono ?_
  rintro e w' ⟨⟨zx, a, n, c⟩, hz, rfl, hby, hb⟩
  obtain rfl : zx = _ := hz
  exact ⟨a, n, c, rfl, ⟨hby.1, hby.2.1, hby.2.2.1, hby.2.2.2.1, hby.2.2.2.2.1, fun hn => let ⟨b', off, e, h1, h2, h3⟩ := hby.2.2.2.2.2 hn; ⟨b', off, e, ⟨h1, h2⟩, h2, h3⟩⟩, hb⟩
theorem is_at (y : EnH) (hy : ByP w K y) (E f t v : Int) (hf : Wf f) (ht : Wf t) (x : UInt8) (hv : v = (x.toNat : Int)) (B : Bool) (hB : (decide (E = 0) && decide (y.x = ⟨f, t, [x]⟩)) = B) :
    Calls Try.prog 38 #[.agg #[.int .i64 y.x.fr, .int .i64 y.x.to, .slice y.a y.n y.c], .int .i64 E, .int .i64 f, .int .i64 t, .int .u8 v] w fun e w' => e = .returned (.bool B) ∧ Below w.heap.size w w' := by
  subst hv
  exact is_any y hy E f t hf ht x B hB
end
end Go.Proofs.Ytlecihbclkohjaa
