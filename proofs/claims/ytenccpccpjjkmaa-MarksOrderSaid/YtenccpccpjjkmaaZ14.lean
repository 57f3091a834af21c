/-
  Laid together for a hand-in: Or15.
-/
import Derived.Test.YtenccpccpjjkmaaZ13

namespace Go.Proofs.Ytenccpccpjjkmaa
open Go.RowKit Go.Shelf Go.Sort Go.Maps CrewP
set_option linter.unusedVariables false
set_option linter.unusedSimpArgs false

def mkW (x : WdL) : Mk := mkI x.sq x.b
/-- A word of a node and a number from 1 to 4. -/
def WOk (x : WdL) : Prop := 1 ≤ x.nd ∧ x.nd ≤ 4 ∧ 1 ≤ x.sq ∧ x.sq ≤ 4
theorem WOk.s {x : WdL} (h : WOk x) : (mkW x).s = x.sq := mkI_s (by have := h.2.2.1; omega) (by have := h.2.2.2; omega) x.b
theorem srt_few {hi : Int} : ∀ (l : List Mk) (lo : Int), Srt l → (∀ y ∈ l, lo ≤ y.s ∧ y.s ≤ hi) → lo ≤ hi + 1 → (l.length : Int) ≤ hi - lo + 1
  | [], lo, _, _, h => by simp; omega
  | a :: l, lo, hs, hb, h => by
    have h1 := List.pairwise_cons.1 hs
    have ha := hb a (by simp)
    have h2 := srt_few l (lo + 1) h1.2 (fun y hy => ⟨by have := h1.1 y hy; omega, (hb y (by simp [hy])).2⟩) (by omega)
    rw [List.length_cons]
    push_cast
    omega
/-- Of a crew of four without a fault's excuse, each node told what stands in fit. -/
structure OrI (m : Ms) (fit : List WdL) : Prop where
  rs : RsI m
  told : ∀ k y, y ∈ m.told k ↔ ∃ x ∈ fit, x.nd = k ∧ mkW x = y
  ok : ∀ x ∈ fit, WOk x
theorem OrI.fresh : OrI (fr 1) [] := ⟨RsI.fresh, fun k y => ⟨fun h => absurd h (by simp [fr, newM]), fun ⟨x, hx, _⟩ => absurd hx (by simp)⟩, fun x hx => absurd hx (by simp)⟩
theorem nd_in {k : Int} (h1 : 1 ≤ k) (h2 : k ≤ 4) : k ∈ ndL 4 := by
  have : k = 1 ∨ k = 2 ∨ k = 3 ∨ k = 4 := by omega
  rcases this with rfl | rfl | rfl | rfl <;> decide
theorem OrI.vote {m : Ms} {fit : List WdL} (h : OrI m fit) {x : WdL} (hx : WOk x) (hE : voteE m x.nd (mkW x) = 0) {fit' : List WdL} (hf : ∀ y, y ∈ fit' ↔ y ∈ fit ∨ y = x) : OrI (voteS m x.nd (mkW x)) fit' := by
  have hok' : ∀ y ∈ fit', WOk y := fun y hy => by
    rcases (hf y).1 hy with e | rfl
    · exact h.ok y e
    · exact hx
  refine ⟨h.rs.vote _ _, fun k y => ?_, hok'⟩
  have hcase : ∀ P : Prop, (P ↔ (y ∈ m.told k ∨ (k = x.nd ∧ y = mkW x))) → (P ↔ ∃ z ∈ fit', z.nd = k ∧ mkW z = y) := fun P hP => by
    rw [hP]
    constructor
    · rintro (e | ⟨rfl, rfl⟩)
      · obtain ⟨z, hz, h1, h2⟩ := (h.told k y).1 e
        exact ⟨z, (hf z).2 (.inl hz), h1, h2⟩
      · exact ⟨x, (hf x).2 (.inr rfl), rfl, rfl⟩
    · rintro ⟨z, hz, h1, h2⟩
      rcases (hf z).1 hz with e | rfl
      · exact .inl ((h.told k y).2 ⟨z, e, h1, h2⟩)
      · exact .inr ⟨h1.symm, h2.symm⟩
  apply hcase
  cases hfd : findM (m.told x.nd) (mkW x).s with
  | none =>
    unfold voteS
    rw [if_pos ⟨hE, hfd⟩]
    have hsrt := insM_srt (h.rs.ok.srt x.nd) hfd
    have hbd : ∀ z ∈ insM (m.told x.nd) (mkW x), 1 ≤ z.s ∧ z.s ≤ 4 := fun z hz => by
      rcases insM_mem.1 hz with e | rfl
      · obtain ⟨q, hq, _, rfl⟩ := (h.told x.nd z).1 e
        have := h.ok q hq
        rw [this.s]
        exact this.2.2
      · rw [hx.s]; exact hx.2.2
    have hl := srt_few _ 1 hsrt hbd (by omega)
    rw [cutM_few (by omega)]
    show y ∈ (if k = x.nd then insM (m.told x.nd) (mkW x) else m.told k) ↔ _
    by_cases e : k = x.nd
    · subst e
      rw [if_pos rfl, insM_mem]
      simp
    · rw [if_neg e]
      simp [e]
  | some z =>
    have hz : z = mkW x := by
      obtain ⟨h1, h2, h3⟩ : x.nd ∈ m.ns ∧ ¬ ((mkW x).s ≤ m.lo.s ∨ 9007199254740991 < (mkW x).s) ∧ (if z = mkW x then (0 : Int) else 151) = 0 := by
        unfold voteE at hE
        by_cases e1 : x.nd ∉ m.ns
        · rw [if_pos e1] at hE; cases hE
        · rw [if_neg e1] at hE
          by_cases e2 : (mkW x).s ≤ m.lo.s ∨ 9007199254740991 < (mkW x).s
          · rw [if_pos e2] at hE; cases hE
          · rw [if_neg e2, hfd] at hE
            exact ⟨Classical.not_not.1 e1, e2, hE⟩
      by_cases e : z = mkW x
      · exact e
      · rw [if_neg e] at h3; cases h3
    have hm : voteS m x.nd (mkW x) = m := by unfold voteS; rw [if_neg (by rw [hfd]; simp)]
    rw [hm]
    have hin := (findM_some hfd).1
    rw [hz] at hin
    constructor
    · exact .inl
    · rintro (e | ⟨rfl, rfl⟩)
      · exact e
      · exact hin
/-- What was taken once is taken again, of marks that have less. -/
theorem OrI.again {a b : Ms} {fa fb : List WdL} (ha : OrI a fa) (hb : OrI b fb) (hs : ∀ y ∈ fb, y ∈ fa) {x : WdL} (hx : x ∈ fa) : voteE b x.nd (mkW x) = 0 := by
  have hok := ha.ok x hx
  unfold voteE
  rw [hb.rs.ns, if_neg (fun h => h (nd_in hok.1 hok.2.1)), hb.rs.lo, hok.s, if_neg (by have := hok.2.2; show ¬ (x.sq ≤ 0 ∨ _); omega)]
  cases hfd : findM (b.told x.nd) x.sq with
  | none => rfl
  | some z =>
    obtain ⟨h1, h2⟩ := findM_some hfd
    obtain ⟨q, hq, h3, h4⟩ := (hb.told x.nd z).1 h1
    have h5 : z ∈ a.told x.nd := (ha.told x.nd z).2 ⟨q, hs q hq, h3, h4⟩
    have h6 : mkW x ∈ a.told x.nd := (ha.told x.nd _).2 ⟨x, hx, rfl, rfl⟩
    have e := srt_inj (ha.rs.ok.srt x.nd) h5 h6 (by rw [h2, hok.s])
    show (if z = mkW x then (0 : Int) else 151) = 0
    rw [if_pos e]
theorem OrI.eq {a b : Ms} {fa fb : List WdL} (ha : OrI a fa) (hb : OrI b fb) (hs : ∀ y, y ∈ fb ↔ y ∈ fa) : a = b := by
  have ht : a.told = b.told := by
    funext k
    refine srt_ext (ha.rs.ok.srt k) (hb.rs.ok.srt k) fun y => ?_
    rw [ha.told, hb.told]
    exact ⟨fun ⟨x, h1, h2⟩ => ⟨x, (hs x).2 h1, h2⟩, fun ⟨x, h1, h2⟩ => ⟨x, (hs x).1 h1, h2⟩⟩
  obtain ⟨f1, n1, l1, t1⟩ := a
  obtain ⟨f2, n2, l2, t2⟩ := b
  obtain ⟨e1, e2, e3⟩ : f1 = f2 ∧ n1 = n2 ∧ l1 = l2 := ⟨ha.rs.f.trans hb.rs.f.symm, ha.rs.ns.trans hb.rs.ns.symm, ha.rs.lo.trans hb.rs.lo.symm⟩
  have e4 : t1 = t2 := ht
  subst e1 e2 e3 e4
  rfl

/-! ### Two of them, and blocks beside -/
abbrev BlkL := List (Nat × TypeId × List Value)
def Aw2 (w0 w : World) (g h : Nat) (a b : Ms) (V : BlkL) : Prop :=
  ∃ U U' : Nat → Prop, MsAt w U g a ∧ MsAt w U' h b ∧ (∀ i, U i → ¬ U' i) ∧ (∀ i, U i → w0.heap.size ≤ i) ∧ (∀ i, U' i → w0.heap.size ≤ i) ∧ Below w0.heap.size w0 w ∧ ∀ p ∈ V, Blk w p.1 p.2.1 p.2.2 ∧ ¬ U p.1 ∧ ¬ U' p.1 ∧ w0.heap.size ≤ p.1
section
variable {w0 w w' : World} {g h : Nat} {a b : Ms} {V : BlkL}
theorem Aw2.bel (k : Aw2 w0 w g h a b V) : Below w0.heap.size w0 w := let ⟨_, _, _, _, _, _, _, k, _⟩ := k; k
theorem Aw2.swap (k : Aw2 w0 w g h a b V) : Aw2 w0 w h g b a V := let ⟨U, U', h1, h2, h3, h4, h5, h6, h7⟩ := k; ⟨U', U, h2, h1, fun i h8 h9 => h3 i h9 h8, h5, h4, h6, fun p hp => ⟨(h7 p hp).1, (h7 p hp).2.2.1, (h7 p hp).2.1, (h7 p hp).2.2.2⟩⟩
theorem Aw2.below (k : Aw2 w0 w g h a b V) (hb : Below w.heap.size w w') : Aw2 w0 w' g h a b V :=
  let ⟨U, U', h1, h2, h3, h4, h5, h6, h7⟩ := k; ⟨U, U', h1.below hb, h2.below hb, h3, h4, h5, h6.trans (hb.mono h6.size), fun p hp => ⟨(h7 p hp).1.below hb (h7 p hp).1.lt, (h7 p hp).2⟩⟩
theorem Aw2.left (k : Aw2 w0 w g h a b V) : Aw w0 w g a [] := let ⟨U, U', h1, h2, h3, h4, h5, h6, h7⟩ := k; ⟨U, h1, h4, h6, fun p hp => by cases hp⟩
theorem Aw2.vote (k : Aw2 w0 w g h a b V) {n : Int} (hn : Wf n) (x : Mk) {E : Int} (hE : voteE a n x = E) :
    Calls Try.prog 12 #[.pointer (some ⟨g, 0, none⟩), .int .i64 n, .agg (mkC x).toArray] w fun e w' => e = .returned (.int .i64 E) ∧ Aw2 w0 w' g h (voteS a n x) b V := by
  obtain ⟨U, U', ⟨_, _, _, _, _, h1⟩, h2, h3, h4, h5, h6, h7⟩ := k
  refine (vote_in h1 hn x E hE).mono fun e w' ⟨he, k5, k6⟩ => ⟨he, Gr U w w', U', k5, h2.out k6 (fun i hi hu => h3 i hu hi), ?_, ?_, h5, ?_, ?_⟩
  · rintro i (hi | hi) hu
    · exact h3 i hi hu
    · have := h2.lt i hu; omega
  · rintro i (hi | hi)
    · exact h4 i hi
    · have := h6.size; omega
  · exact h6.trans (k6.above h4 h6.size)
  · intro p hp
    obtain ⟨q1, q2, q3, q4⟩ := h7 p hp
    exact ⟨k6.blk q1 q2, fun hi => hi.elim q2 fun hi => by have := q1.lt; omega, q3, q4⟩
theorem Aw2.blk (k : Aw2 w0 w g h a b V) {r : Nat} {t : TypeId} {cs : List Value} (hp : (r, t, cs) ∈ V) : Blk w r t cs := let ⟨_, _, _, _, _, _, _, _, h7⟩ := k; (h7 _ hp).1
theorem Aw2.base (k : Aw2 w0 w g h a b V) {r : Nat} {t : TypeId} {cs : List Value} (hp : (r, t, cs) ∈ V) : w0.heap.size ≤ r := let ⟨_, _, _, _, _, _, _, _, h7⟩ := k; (h7 _ hp).2.2.2
/-- A block that is new. -/
theorem Aw2.add (k : Aw2 w0 w g h a b V) (hb : Below w.heap.size w w') {r : Nat} {t : TypeId} {cs : List Value} (hr : w.heap.size ≤ r) (hB : Blk w' r t cs) : Aw2 w0 w' g h a b ((r, t, cs) :: V) := by
  obtain ⟨U, U', h1, h2, h3, h4, h5, h6, h7⟩ := k.below hb
  obtain ⟨U1, U2, q1, q2, q3, q4, q5, q6, q7⟩ := k
  refine ⟨U1, U2, q1.below hb, q2.below hb, q3, q4, q5, h6, fun p hp => ?_⟩
  rcases List.mem_cons.1 hp with rfl | hp
  · exact ⟨hB, fun hi => by have := q1.lt _ hi; simp at this; omega, fun hi => by have := q2.lt _ hi; simp at this; omega, by have := q6.size; simp; omega⟩
  · exact ⟨(q7 p hp).1.below hb (q7 p hp).1.lt, (q7 p hp).2⟩
/-- What was written at blocks beside. -/
theorem Aw2.turn (k : Aw2 w0 w g h a b V) {S : Nat → Prop} (ho : Out S w w') (hS : ∀ i, S i → ∃ t cs, (i, t, cs) ∈ V) {V' : BlkL} (hV : ∀ p ∈ V', Blk w' p.1 p.2.1 p.2.2 ∧ ((∃ t cs, (p.1, t, cs) ∈ V) ∨ w.heap.size ≤ p.1)) : Aw2 w0 w' g h a b V' := by
  obtain ⟨U, U', h1, h2, h3, h4, h5, h6, h7⟩ := k
  refine ⟨U, U', h1.out ho (fun i hi hs => by obtain ⟨t, cs, hp⟩ := hS i hs; exact (h7 _ hp).2.1 hi), h2.out ho (fun i hi hs => by obtain ⟨t, cs, hp⟩ := hS i hs; exact (h7 _ hp).2.2.1 hi), h3, h4, h5, h6.trans (ho.above (fun i hs => by obtain ⟨t, cs, hp⟩ := hS i hs; exact (h7 _ hp).2.2.2) h6.size), fun p hp => ?_⟩
  obtain ⟨q1, q2⟩ := hV p hp
  refine ⟨q1, ?_, ?_, ?_⟩
  · rcases q2 with ⟨t, cs, q⟩ | q
    · exact (h7 _ q).2.1
    · intro hi; have := h1.lt _ hi; omega
  · rcases q2 with ⟨t, cs, q⟩ | q
    · exact (h7 _ q).2.2.1
    · intro hi; have := h2.lt _ hi; omega
  · rcases q2 with ⟨t, cs, q⟩ | q
    · exact (h7 _ q).2.2.2
    · have := h6.size; omega
theorem Aw2.less (k : Aw2 w0 w g h a b V) {V' : BlkL} (hs : ∀ p ∈ V', p ∈ V) : Aw2 w0 w g h a b V' := let ⟨U, U', h1, h2, h3, h4, h5, h6, h7⟩ := k; ⟨U, U', h1, h2, h3, h4, h5, h6, fun p hp => h7 p (hs p hp)⟩
theorem Aw2.new {w1 w2 : World} (h1 : MsAt w1 (fun i => w.heap.size ≤ i ∧ i < w1.heap.size) g a) (hb1 : Below w.heap.size w w1) (h2 : MsAt w2 (fun i => w1.heap.size ≤ i ∧ i < w2.heap.size) h b) (hb2 : Below w1.heap.size w1 w2) : Aw2 w w2 g h a b [] :=
  ⟨_, _, h1.below hb2, h2, fun i hi hu => by omega, fun i hi => hi.1, fun i hi => by have := hb1.size; omega, hb1.trans (hb2.mono hb1.size), fun p hp => by cases hp⟩
end

/-! ### Words in memory -/
def wcs (l : List WdL) : List Value := l.flatMap fun x => [.int .i64 x.nd, .int .i64 x.sq, .int .u8 (x.b.toNat : Int)]
theorem wcs_len (l : List WdL) : (wcs l).length = l.length * 3 := by
  induction l with
  | nil => rfl
  | cons x l ih => rw [wcs, List.flatMap_cons, List.length_append]; unfold wcs at ih; rw [ih, List.length_cons]; simp; omega
theorem wcs_append (l m : List WdL) : wcs (l ++ m) = wcs l ++ wcs m := by simp [wcs]
theorem wcs_at : ∀ {l : List WdL} {i : Nat} (hi : i < l.length), (wcs l)[i * 3]? = some (.int .i64 l[i].nd) ∧ (wcs l)[i * 3 + 1]? = some (.int .i64 l[i].sq) ∧ (wcs l)[i * 3 + 2]? = some (.int .u8 (l[i].b.toNat : Int))
  | x :: l, 0, _ => ⟨rfl, rfl, rfl⟩
  | x :: l, i + 1, hi => by
    have ih := wcs_at (l := l) (i := i) (by simpa using hi)
    have e : wcs (x :: l) = [.int .i64 x.nd, .int .i64 x.sq, .int .u8 (x.b.toNat : Int)] ++ wcs l := by simp [wcs]
    rw [e]
    refine ⟨?_, ?_, ?_⟩
    · rw [List.getElem?_append_right (by simp; omega)]; simpa [show (i + 1) * 3 - 3 = i * 3 by omega] using ih.1
    · rw [List.getElem?_append_right (by simp; omega)]; simpa [show (i + 1) * 3 + 1 - 3 = i * 3 + 1 by omega] using ih.2.1
    · rw [List.getElem?_append_right (by simp; omega)]; simpa [show (i + 1) * 3 + 2 - 3 = i * 3 + 2 by omega] using ih.2.2
theorem word_info : (Try.prog.info? 48).map (fun i => (i.zero, i.size, i.bytes)) = some (some (.agg #[.int .i64 0, .int .i64 0, .int .u8 0]), 3, 24) := by kernel_rfl
theorem word_info1 : (Try.prog.info? 48).map (·.size) = some 3 := by kernel_rfl
theorem row_word (a b c : Value) (w : World) : (Instr.buildSlice 45 1 #[(0, .agg #[a, b, c])]).run Try.prog w = .ok (.slice (some ⟨w.heap.size, 0, none⟩) 1 1) (w.alloc (.cells #[a, b, c] 48)) := by kernel_rfl
theorem built_word (a b : Int) (c : UInt8) : Try.prog.built 48 [(0, .int .i64 a), (1, .int .i64 b), (2, .int .u8 (c.toNat : Int))] = some #[.int .i64 a, .int .i64 b, .int .u8 (c.toNat : Int)] := by kernel_rfl
theorem app_word {w : World} {A : Option Addr} {n cap r : Nat} {l : List WdL} {x : WdL} (h : RowK w 48 3 A n cap (wcs l)) (hl : l.length = n) (hB : Blk w r 48 (wcs [x])) (hn : n ≤ 100000) (ty : TypeId) :
    ∃ A' cap' w', (Builtin.append_ #[45, 45] ty #[.slice A n cap, .slice (some ⟨r, 0, none⟩) 1 1]).run Try.prog w = .ok (.slice A' (n + 1) cap') w' ∧ RowK w' 48 3 A' (n + 1) cap' (wcs (l ++ [x])) ∧ Out (blkOf A) w w' ∧ (∀ b, blkOf A' b → blkOf A b ∨ b = w.heap.size) := by
  obtain ⟨i0, hi, hz0, hz1, hz2⟩ := info_parts word_info
  obtain ⟨A', cap', w', r1, r2, r3, r4, _⟩ := run_append_rowK 45 ty 48 i0 _ 3 24 Try.underlying45 hi hz0 hz1 hz2 rfl h ⟨r, 0, none⟩ 1 1 (wcs [x]) rfl (fun j u hu => by rw [add_mk, Nat.zero_add]; exact hB.cell hu) (fun u hu => by simp [wcs] at hu; rcases hu with rfl | rfl | rfl <;> rfl) (by unfold maxLen; omega) (by omega)
  exact ⟨A', cap', w', r1, by rw [wcs_append]; exact r2, r3, r4⟩
/-- A row of words among the blocks beside. -/
def FitV (A : Option Addr) (cap : Nat) (l : List WdL) (V : BlkL) : Prop := l.length ≤ cap ∧ cap ≤ maxLen ∧ ((A = none ∧ cap = 0) ∨ ∃ r cur, A = some ⟨r, 0, none⟩ ∧ (r, 48, cur) ∈ V ∧ cap * 3 ≤ cur.length ∧ cur.take (l.length * 3) = wcs l)
theorem FitV.nil (V : BlkL) : FitV none 0 [] V := ⟨Nat.le_refl _, by simp [maxLen], .inl ⟨rfl, rfl⟩⟩
theorem FitV.row {A : Option Addr} {cap : Nat} {l : List WdL} {V : BlkL} (h : FitV A cap l V) {w0 w : World} {g k : Nat} {a b : Ms} (hA : Aw2 w0 w g k a b V) : RowK w 48 3 A l.length cap (wcs l) :=
  ⟨wcs_len l, h.1, h.2.1, h.2.2.imp id fun ⟨r, cur, e, hp, h1, h2⟩ => ⟨r, cur, e, hA.blk hp, h1, h2⟩⟩
theorem FitV.mem {A : Option Addr} {cap : Nat} {l : List WdL} {V : BlkL} (h : FitV A cap l V) : ∀ r, blkOf A r → ∃ t cs, (r, t, cs) ∈ V := fun r ⟨ad, e, hr⟩ => by
  rcases h.2.2 with ⟨rfl, _⟩ | ⟨r', cur, rfl, hp, _⟩
  · cases e
  · cases e; subst hr; exact ⟨_, _, hp⟩
theorem FitV.more {A : Option Addr} {cap : Nat} {l : List WdL} {V V' : BlkL} (h : FitV A cap l V) (hV : ∀ p ∈ V, p ∈ V') : FitV A cap l V' := ⟨h.1, h.2.1, h.2.2.imp id fun ⟨r, cur, e, hp, h12⟩ => ⟨r, cur, e, hV _ hp, h12⟩⟩
theorem FitV.of {w : World} {A : Option Addr} {cap n : Nat} {l : List WdL} (h : RowK w 48 3 A n cap (wcs l)) (hl : l.length = n) : ∃ V : BlkL, FitV A cap l V ∧ ∀ p ∈ V, Blk w p.1 p.2.1 p.2.2 ∧ blkOf A p.1 := by
  subst hl
  rcases h.2.2.2 with ⟨rfl, rfl⟩ | ⟨r, cur, rfl, hB, h1, h2⟩
  · exact ⟨[], ⟨h.2.1, h.2.2.1, .inl ⟨rfl, rfl⟩⟩, fun p hp => absurd hp (by simp)⟩
  · exact ⟨[(r, 48, cur)], ⟨h.2.1, h.2.2.1, .inr ⟨r, cur, rfl, by simp, h1, h2⟩⟩, fun p hp => by rw [List.mem_singleton] at hp; subst hp; exact ⟨hB, _, rfl, rfl⟩⟩
/-- One of the words, where it stands. -/
theorem FitV.cells {A : Option Addr} {cap : Nat} {l : List WdL} {V : BlkL} (h : FitV A cap l V) {i : Nat} (hi : i < l.length) : ∃ r cur, A = some ⟨r, 0, none⟩ ∧ (r, 48, cur) ∈ V ∧ cur[i * 3]? = some (.int .i64 l[i].nd) ∧ cur[i * 3 + 1]? = some (.int .i64 l[i].sq) ∧ cur[i * 3 + 2]? = some (.int .u8 (l[i].b.toNat : Int)) := by
  rcases h.2.2 with ⟨rfl, e⟩ | ⟨r, cur, rfl, hp, h1, h2⟩
  · have := h.1; omega
  · have e : ∀ j, j < l.length * 3 → cur[j]? = (wcs l)[j]? := fun j hj => by rw [← h2, List.getElem?_take, if_pos hj]
    obtain ⟨k0, k1, k2⟩ := wcs_at hi
    exact ⟨r, cur, rfl, hp, (e _ (by omega)).trans k0, (e _ (by omega)).trans k1, (e _ (by omega)).trans k2⟩
theorem Aw.knownB {w0 w : World} {g : Nat} {m : Ms} {V : List (Nat × Mk)} (h : Aw w0 w g m V) {G : Option Mk} (hG : greatS m (m.f + 1) = G) :
    Calls Try.prog 21 #[.pointer (some ⟨g, 0, none⟩)] w fun e w' => e = .returned (.tuple #[.agg (mkC (G.getD mk0)).toArray, .bool G.isSome]) ∧ Below w.heap.size w w' := by
  obtain ⟨U, ⟨_, _, _, _, _, h1⟩, h2, h3, h4⟩ := h
  subst hG
  exact known_in h1
/-- A variable that holds a mark. -/
theorem Aw2.var {w0 w : World} {g k : Nat} {a b : Ms} {V : BlkL} (h : Aw2 w0 w g k a b V) (x : Mk) {X : List Value} (hX : mkC x = X) : ∃ wS, (w.alloc (.cells (mkC mk0).toArray 28)).setCells w.heap.size 0 X = wS ∧
    ((w.alloc (.cells (mkC mk0).toArray 28)).there w.heap.size 0 X.toArray.size ∧ (Try.prog.info? 28).map (·.size) = some X.toArray.size ∧ X.toArray.all (·.oneCell') = true) ∧ Aw2 w0 wS g k a b ((w.heap.size, 28, X) :: V) := by
  subst hX
  obtain ⟨wS, hwS, ⟨hth, hin⟩, hbS, hbe, hsS⟩ := row_local w 28 (mkC mk0) (mkC x) (by rw [mkC_len, mkC_len]) (by rw [mkC_len]; exact mark_info1)
  exact ⟨wS, hwS, ⟨hth, hin, mkC_oneA x⟩, h.add hbe (Nat.le_refl _) hbS⟩
theorem word_keep {w : World} {r gw : Nat} {x y z x0 y0 z0 : Value} (hC : Blk w r 48 [x, y, z]) (hB : Blk w gw 48 [x0, y0, z0]) (ws : List Value) (hl : ws.length = 3) : ∃ x' y' z', Blk (w.setCells gw 0 ws) r 48 [x', y', z'] := by
  by_cases e : r = gw
  · subst e
    have := hB.setAll (vs := ws) hl
    match ws, hl, this with
    | [a, b, c], _, this => exact ⟨a, b, c, this⟩
  · exact ⟨x, y, z, Blk.farAll e ws hC⟩
set_option maxRecDepth 100000 in
theorem alloc_word {a : Act} {o : Oper} (w : World) (hop : o.op = .alloc 48) : Sem.run Try.prog (execOp a.eval o) w = .ok (.value (.pointer (some ⟨w.heap.size, 0, none⟩))) (w.alloc (.cells #[.int .i64 0, .int .i64 0, .int .u8 0] 48)) := by
  unfold execOp
  simp only [hop]
  go_simp
end Go.Proofs.Ytenccpccpjjkmaa
