/-
  Laid together for a hand-in: On16, Oc16.
-/
import Derived.Test.YtfaeechidjpjbaaGreatZ23
import Derived.Test.YtfaeechidjpjbaaGreatZ14

namespace Go.Proofs.YtfaeechidjpjbaaGreat
open Go.RowKit Go.Maps
set_option linter.unusedVariables false
set_option linter.unusedSimpArgs false
/-- A vault, its book, and blocks that are none of either's. -/
def Vb (w0 : World) (g gk bm : Nat) (K : Nat → Prop) (v : Va) (s : Bk) (w : World) : Prop :=
  Below w0.heap.size w0 w ∧ ∃ U N cs, VaIn w U g (.pointer (some ⟨gk, 0, none⟩)) v cs ∧ (∀ i, U i → w0.heap.size ≤ i ∧ ¬ K i) ∧ (∀ i, U i → N i) ∧ (∀ i, K i → N i) ∧ Kb w0.heap.size w gk bm s N
/-- What a call leaves of the blocks K. -/
def Kept (K : Nat → Prop) (w w' : World) : Prop := w.heap.size ≤ w'.heap.size ∧ ∀ i, K i → i < w.heap.size → w'.heap[i]? = w.heap[i]?
section
variable {w0 w w' : World} {g gk bm : Nat} {K K' : Nat → Prop} {v : Va} {s : Bk}
theorem Vb.bel (h : Vb w0 g gk bm K v s w) : Below w0.heap.size w0 w := h.1
theorem Vb.glt (h : Vb w0 g gk bm K v s w) : g < w.heap.size ∧ ¬ K g ∧ w0.heap.size ≤ g := by
  obtain ⟨_, U, N, cs, h1, h2, _⟩ := h
  exact ⟨h1.lt g h1.u, (h2 g h1.u).2, (h2 g h1.u).1⟩
theorem Vb.klt (h : Vb w0 g gk bm K v s w) : ∀ i, K i → i < w.heap.size := by
  obtain ⟨_, U, N, cs, h1, h2, h3, h4, h5⟩ := h
  exact fun i hi => h5.lt (h4 i hi)
theorem Vb.ok (h : Vb w0 g gk bm K v s w) : v.ok := by obtain ⟨_, U, N, cs, h1, _⟩ := h; exact h1.ok
theorem Vb.below (h : Vb w0 g gk bm K v s w) (hb : Below w.heap.size w w') (hK : ∀ i, K' i → K i ∨ (w.heap.size ≤ i ∧ i < w'.heap.size)) : Vb w0 g gk bm K' v s w' := by
  obtain ⟨h0, U, N, cs, h1, h2, h3, h4, h5⟩ := h
  refine ⟨h0.trans (hb.mono h0.size), U, fun i => N i ∨ (w.heap.size ≤ i ∧ i < w'.heap.size), cs, h1.below hb, fun i hi => ⟨(h2 i hi).1, fun e => ?_⟩, fun i hi => .inl (h3 i hi), fun i hi => (hK i hi).imp (h4 i) id, h5.belowN hb fun i hi => hi⟩
  rcases hK i e with e | e
  · exact (h2 i hi).2 e
  · have := h1.lt i hi; omega
theorem Vb.gone (h : Vb w0 g gk bm K v s w) {v' : Va} (hd : ∀ U cs, VaIn w U g (.pointer (some ⟨gk, 0, none⟩)) v cs → DoneV w U g (.pointer (some ⟨gk, 0, none⟩)) v' w') : Vb w0 g gk bm K v' s w' ∧ Out (fun i => i = g) w w' := by
  obtain ⟨h0, U, N, cs, h1, h2, h3, h4, h5⟩ := h
  obtain ⟨U', cs', q1, q2, q3, q4⟩ := hd U cs h1
  have hgb := (h2 g h1.u).1
  refine ⟨⟨h0.trans (q4.above (fun i hi => by subst hi; exact hgb) h0.size), U', fun i => N i ∨ U' i, cs', q1, fun i hi => ?_, fun i hi => .inr hi, fun i hi => .inl (h4 i hi), h5.other q4.size (fun i hi hn => q4.block i hi fun e => hn (by rw [e]; exact h3 g h1.u)) (fun i hi => ?_)⟩, q4⟩
  · rcases q3 i hi with e | e
    · exact h2 i e
    · exact ⟨Nat.le_trans h0.size e, fun hk => by have := h5.lt (h4 i hk); omega⟩
  · rcases hi with hi | hi
    · exact .inl hi
    · rcases q3 i hi with e | e
      · exact .inl (h3 i e)
      · exact .inr ⟨e, q1.lt i hi⟩
theorem Vb.do_ (h : Vb w0 g gk bm K v s w) {x : Wl} {Dx : Option Addr} {ndx cdx : Nat} {Nx : Option Addr} {nnx cnx : Nat} (hx : ArgW w x Dx ndx cdx Nx nnx cnx) (hm : May x) (hgr : x.gr = v.gr) :
    Calls Tryz.prog 22 #[.pointer (some ⟨g, 0, none⟩), .agg #[.int .i64 x.cl, .int .i64 x.sp, .int .i64 x.gr, .int .i64 x.ep, .int .i64 x.kd, .int .i64 x.bl, .slice Dx ndx cdx, .int .i64 x.od, .int .i64 x.nw, .slice Nx nnx cnx]] w fun e w' => ∃ A m c, e = .returned (.tuple #[.agg #[.int .i64 (doS v x).2.er, .slice A m c, .int .i64 (doS v x).2.ep, .slice none 0 0], .int .i64 0]) ∧ (doS v x).2.da.length = m ∧ Bs w' A (doS v x).2.da ∧ (∀ b, inA A b → w.heap.size ≤ b ∧ b < w'.heap.size) ∧ Vb w0 g gk bm (fun i => K i ∨ inA A i) (doS v x).1 s w' ∧ Out (fun i => i = g) w w' := by
  have h0 := h
  obtain ⟨hbel, U, N, cs, h1, h2, h3, h4, h5⟩ := h
  refine (do_in h1 hx hm hgr).mono fun e w' ⟨u, he, d, U', cs', hu, hM, hown, hV, hU1, hU2, ho⟩ => ?_
  obtain ⟨A, c, rfl, hl, hc, hB⟩ := Mine.form hM
  have hge : ∀ b, inA A b → w.heap.size ≤ b := own_new (w' := w') hM
  have hlt : ∀ b, inA A b → b < w'.heap.size := fun b hb => mine_lt hM ⟨A, _, c, rfl, hb⟩
  have hgb := (h2 g h1.u).1
  refine ⟨A, _, c, by rw [he, hu], rfl, hB, fun b hb => ⟨hge b hb, hlt b hb⟩, ⟨hbel.trans (ho.above (fun i hi => by subst hi; exact hgb) hbel.size), U', fun i => (N i ∨ U' i) ∨ inA A i, cs', hV, fun i hi => ?_, fun i hi => .inl (.inr hi), fun i hi => ?_, h5.other ho.size (fun i hi hn => ho.block i hi fun e => hn (by rw [e]; exact h3 g h1.u)) (fun i hi => ?_)⟩, ho⟩
  · refine ⟨?_, fun hk => ?_⟩
    · rcases hU2 i hi with e | e
      · exact (h2 i e).1
      · exact Nat.le_trans hbel.size e
    · rcases hk with hk | hk
      · rcases hU2 i hi with e | e
        · exact (h2 i e).2 hk
        · have := h5.lt (h4 i hk); omega
      · exact hown i ⟨A, _, c, rfl, hk⟩ hi
  · rcases hi with hi | hi
    · exact .inl (.inl (h4 i hi))
    · exact .inr hi
  · rcases hi with (hi | hi) | hi
    · exact .inl hi
    · rcases hU2 i hi with e | e
      · exact .inl (h3 i e)
      · exact .inr ⟨e, hV.lt i hi⟩
    · exact .inr ⟨hge i hi, hlt i hi⟩
theorem Vb.wish (h : Vb w0 g gk bm K v s w) (n sp : Int) (hn : -9223372036854775808 ≤ n ∧ n ≤ 9223372036854775807) (hsp : 1 ≤ sp ∧ sp ≤ 9007199254740991) : Calls Tryz.prog 21 #[.pointer (some ⟨g, 0, none⟩), .int .i64 n, .int .i64 sp] w
    (RetW (fun x => WishV v.ep sp x ∧ (x.kd = 5 ↔ n % 12 = 0)) w) := by
  obtain ⟨_, U, N, cs, h1, _⟩ := h
  exact vwish_in h1 n sp hn hsp
def rootB (v : Va) : List UInt8 := rootD (lows (leavesL v))
theorem rootB_len (v : Va) : (rootB v).length = 32 := root_len (by rw [lows_len, leavesL_len]; decide) (all32_lows _)
def rootS (v : Va) (s : Bk) : Bk := noteAll s (insTo (leavesL v) (dep 13 - 1))
theorem rootS_len (v : Va) (s : Bk) : (rootS v s).1.length ≤ s.1.length + 200 ∧ (rootS v s).2.2 ≤ s.2.2 + 200 := by
  have h3 := noteAll_len s (insTo (leavesL v) (dep 13 - 1))
  have h4 := insTo_len (leavesL v) (by rw [leavesL_len]; decide) (dep 13 - 1)
  have h5 : dep 13 ≤ 6 := dep_le (by decide)
  have h6 := dep_pos 13
  rw [leavesL_len] at h4
  have h7 : 13 * (dep 13 - 1 + 1) ≤ 13 * 6 := Nat.mul_le_mul_left _ (by omega)
  unfold rootS
  omega
theorem Vb.root (h : Vb w0 g gk bm K v s w) (hs : s.1.length + 20000 < 1000000 ∧ s.2.2 + 20000 < 1000000) :
    Calls Tryz.prog 40 #[.pointer (some ⟨g, 0, none⟩)] w fun e w' => e = .returned (.tuple #[.agg (cbs (rootB v)).toArray, .int .i64 0]) ∧ Vb w0 g gk bm K v (rootS v s) w' ∧ Kept K w w' := by
  obtain ⟨h0, U, N, cs, h1, h2, h3, h4, h5⟩ := h
  refine (root_in h5 h0.size hs h1 h3).mono fun e w' ⟨he, hk, ho⟩ => ⟨he, ⟨h0.trans (ho.above (fun i hi => hi.1) h0.size), U, N, cs, h1.out ho (fun i hi e => e.2.1 (h3 i hi)), h2, h3, h4, hk⟩, ho.size, fun i hi hlt => ho.block i hlt fun e => e.2.1 (h4 i hi)⟩
theorem Vb.setK (h : Vb w0 g gk bm K v s w) {x : Nat} (hx : K x ∧ w0.heap.size ≤ x) (vs : List Value) : Vb w0 g gk bm K v s (w.setCells x 0 vs) := by
  obtain ⟨h0, U, N, cs, h1, h2, h3, h4, h5⟩ := h
  exact ⟨Below.setCells hx.2 vs h0, U, N, cs, h1.out (S := fun i => i = x) (out_set (S := fun i => i = x) (Out.refl _ _) rfl vs) (fun i hi e => (h2 i hi).2 (e ▸ hx.1)), h2, h3, h4, kb_set h5 (h4 x hx.1) vs⟩
set_option maxRecDepth 100000 in
set_option maxHeartbeats 1600000 in
theorem Vb.rooted (h : Vb w0 g gk bm K v s w) (hs : s.1.length + 20000 < 1000000 ∧ s.2.2 + 20000 < 1000000) :
    Calls Tryz.prog 27 #[.pointer (some ⟨g, 0, none⟩)] w fun e w' => e = .returned (.tuple #[.agg (cbs (rootB v)).toArray, .bool true]) ∧ Vb w0 g gk bm K v (rootS v s) w' ∧ Kept K w w' := by
  obtain ⟨w1, hw1⟩ : ∃ w1, w.alloc (.cells (cbs (List.replicate 32 0)).toArray 59) = w1 := ⟨_, rfl⟩
  have hb1 : Below w.heap.size w w1 := by rw [← hw1]; exact (Below.refl _ _).alloc (Nat.le_refl _) _
  have hz1 : w1.heap.size = w.heap.size + 1 := by rw [← hw1]; simp
  have hZ : Blk w1 w.heap.size 59 (cbs (List.replicate 32 0)) := by rw [← hw1]; exact Blk.new rfl rfl
  have h1 : Vb w0 g gk bm (fun i => K i ∨ i = w.heap.size) v s w1 := h.below hb1 fun i hi => hi.imp id fun e => by omega
  have hklt := h.klt
  have hbz := h.bel.size
  have Hr := h1.root hs
  obtain ⟨D, hD⟩ : ∃ D, cbs (rootB v) = D := ⟨_, rfl⟩
  have hD32 : D.length = 32 := by rw [← hD, cbs_length, rootB_len]
  have hD1 : D.toArray.all (·.oneCell') = true := by rw [← hD]; exact cbs_one' _
  rw [hD] at Hr ⊢
  have Hr' := Lib.hid Hr
  rw [← hw1] at Hr'
  have H := Lib.hid (And.intro hb1 (And.intro hz1 (And.intro hZ (And.intro hklt (And.intro hD32 (And.intro hD1 hbz))))))
  have Hw := Lib.hid hw1
  clear h hs hw1 hb1 hz1 hZ h1 hklt Hr hD hD32 hD1 hbz
  go_enter Tryz.func27, Tryz.ntmps27
  go_wp2_with fail
  refine Hr'.out.mono ?_
  rintro e w2 ⟨rfl, hv2, hk2⟩
  obtain ⟨hb1, hz1, hZ, hklt, hD32, hD1, hbz⟩ := H.out
  rw [Hw.out] at hk2
  have hZ2 : Blk w2 w.heap.size 59 (cbs (List.replicate 32 0)) := (hk2.2 _ (.inr rfl) (by omega)).trans hZ
  have hzz : w1.heap.size ≤ w2.heap.size := hk2.1
  have hY : Blk (w2.alloc (.cells (cbs (List.replicate 32 0)).toArray 59)) w2.heap.size 59 (cbs (List.replicate 32 0)) := Blk.new rfl rfl
  have hsD : D.toArray.size = 32 := by rw [List.size_toArray]; exact hD32
  have hth1 : (w2.alloc (.cells (cbs (List.replicate 32 0)).toArray 59)).there w2.heap.size 0 D.toArray.size := by
    have e := hY.there
    rw [cbs_length, List.length_replicate] at e
    rw [hsD]; exact e
  have hi : (Tryz.prog.info? 59).map (·.size) = some D.toArray.size := by rw [hsD]; exact info32b
  have hi' : (Tryz.prog.info? 59).map (·.size) = some D.length := by rw [hD32]; exact info32b
  have hY4 := hY.setAll (vs := D) (by rw [hD32, cbs_length, List.length_replicate])
  have hb4 : Below w2.heap.size w2 ((w2.alloc (.cells (cbs (List.replicate 32 0)).toArray 59)).setCells w2.heap.size 0 D) := Below.setCells (Nat.le_refl _) D ((Below.refl _ _).alloc (Nat.le_refl _) _)
  obtain ⟨w4, hw4⟩ : ∃ w4, (w2.alloc (.cells (cbs (List.replicate 32 0)).toArray 59)).setCells w2.heap.size 0 D = w4 := ⟨_, rfl⟩
  rw [hw4] at hY4 hb4
  have hZ4 := hZ2.below hb4 hZ2.lt
  have hth2 : w4.there w.heap.size 0 D.toArray.size := by
    have e := hZ4.there
    rw [cbs_length, List.length_replicate] at e
    rw [hsD]; exact e
  have hZ5 := hZ4.setAll (vs := D) (by rw [hD32, cbs_length, List.length_replicate])
  have hv4 : Vb w0 g gk bm (fun i => K i ∨ i = w.heap.size) v (rootS v s) w4 := hv2.below hb4 fun i hi => .inl hi
  have hv5 := (hv4.setK (x := w.heap.size) ⟨.inr rfl, hbz⟩ D).below (K' := K) (Below.refl _ _) fun i hi => .inl (.inl hi)
  have hk5 : Kept K w (w4.setCells w.heap.size 0 D) := ⟨by have h1 := hb4.size; have h2 := size_cells D w4 w.heap.size 0; omega, fun i hi hlt => by
    have h1 : i ≠ w.heap.size := by have := hklt i hi; omega
    rw [block_setCells h1 D, hb4.block i (by omega), hk2.2 i (.inl hi) (by omega), hb1.block i hlt]⟩
  have H5 := Lib.hid (And.intro hth1 (And.intro hi (And.intro hD1 (And.intro hw4 (And.intro hth2 (And.intro hZ5 (And.intro hv5 (And.intro hk5 (And.intro hY4.range hi')))))))))
  clear hb1 hz1 hZ hklt hD32 hD1 hbz hv2 hk2 hZ2 hzz hY hsD hth1 hi hi' hY4 hb4 hw4 hZ4 hth2 hZ5 hv4 hv5 hk5
  go_wp2_with (first
    | (refine wpList_store_mid rfl 59 _ _ rfl w2.heap.size 0 D.toArray rfl rfl H5.out.1 H5.out.2.1 H5.out.2.2.1 ?_; simp only [Act.put]; refine cast (congrArg (fun z => wpList _ _ _ _ _ z) H5.out.2.2.2.1.symm) ?_)
    | (refine wpList_load_mid rfl 59 _ rfl w2.heap.size 0 rfl D _ H5.out.2.2.2.2.2.2.2.2.1 Tryz.underlying59 rfl H5.out.2.2.2.2.2.2.2.2.2 ?_; simp only [Act.put])
    | (refine wpList_store_mid rfl 59 _ _ rfl w.heap.size 0 D.toArray rfl rfl H5.out.2.2.2.2.1 H5.out.2.1 H5.out.2.2.1 ?_; simp only [Act.put]))
  refine bodyPost_ret (results_row_tmp3 rfl _ _ w.heap.size 59 D.toArray (0, 0) _ rfl H5.out.2.2.2.2.2.1 Tryz.underlying59 rfl H5.out.2.1) rfl ?_
  exact ⟨rfl, H5.out.2.2.2.2.2.2.1, H5.out.2.2.2.2.2.2.2.1⟩
end
end Go.Proofs.YtfaeechidjpjbaaGreat

namespace Go.Proofs.YtfaeechidjpjbaaGreat
open Go.RowKit Go.Maps
set_option linter.unusedVariables false
set_option linter.unusedSimpArgs false
def On (w0 : World) (g gk bm : Nat) (v : Va) (s : Bk) (Vs : List (Nat × TypeId × List Value)) (Bl : List (Option Addr × List UInt8)) (w : World) : Prop :=
  ∃ K : Nat → Prop, Vb w0 g gk bm K v s w ∧ (∀ p ∈ Vs, Blk w p.1 p.2.1 p.2.2 ∧ K p.1) ∧ ∀ q ∈ Bl, Bs w q.1 q.2 ∧ ∀ b, inA q.1 b → K b
section
variable {w0 w w' : World} {g gk bm : Nat} {v v' : Va} {s s' : Bk} {Vs : List (Nat × TypeId × List Value)} {Bl : List (Option Addr × List UInt8)}
theorem bs_kept {K : Nat → Prop} {A : Option Addr} {l : List UInt8} (h : Bs w A l) (hk : Kept K w w') (hK : ∀ b, inA A b → K b) : Bs w' A l := by
  refine ⟨h.1, fun hp => ?_⟩
  obtain ⟨b, off, e, hb, hc⟩ := h.2 hp
  exact ⟨b, off, e, Nat.lt_of_lt_of_le hb hk.1, fun j u hu => (World.cell?_of_block (hk.2 b (hK b ⟨_, e, rfl⟩) hb)).trans (hc j u hu)⟩
theorem none_in2 {P : Prop} {b : Nat} (h : inA none b) : P := by obtain ⟨a, e, _⟩ := h; cases e
theorem On.bel (h : On w0 g gk bm v s Vs Bl w) : Below w0.heap.size w0 w := let ⟨_, h, _⟩ := h; h.bel
theorem On.ok (h : On w0 g gk bm v s Vs Bl w) : v.ok := let ⟨_, h, _⟩ := h; h.ok
theorem On.blk (h : On w0 g gk bm v s Vs Bl w) {b : Nat} {t : TypeId} {cs : List Value} (hp : (b, t, cs) ∈ Vs) : Blk w b t cs := let ⟨_, _, h, _⟩ := h; (h _ hp).1
theorem On.get (h : On w0 g gk bm v s Vs Bl w) {A : Option Addr} {l : List UInt8} (hp : (A, l) ∈ Bl) : Bs w A l := let ⟨_, _, _, h⟩ := h; (h _ hp).1
theorem Vb.kept_below {K : Nat → Prop} (h : Vb w0 g gk bm K v s w) (hb : Below w.heap.size w w') : Kept K w w' := ⟨hb.size, fun i _ hlt => hb.block i hlt⟩
theorem On.below (h : On w0 g gk bm v s Vs Bl w) (hb : Below w.heap.size w w') : On w0 g gk bm v s Vs Bl w' := by
  obtain ⟨K, h1, h2, h3⟩ := h
  refine ⟨fun i => K i ∨ (w.heap.size ≤ i ∧ i < w'.heap.size), h1.below hb fun i hi => hi, fun p hp => ⟨(h2 p hp).1.below hb (h2 p hp).1.lt, .inl (h2 p hp).2⟩, fun q hq => ⟨(h3 q hq).1.on hb, fun b hbA => .inl ((h3 q hq).2 b hbA)⟩⟩
theorem On.var (h : On w0 g gk bm v s Vs Bl w) (hb : Below w.heap.size w w') {b : Nat} {t : TypeId} {cs : List Value} (hB : Blk w' b t cs) (hge : w.heap.size ≤ b) : On w0 g gk bm v s ((b, t, cs) :: Vs) Bl w' := by
  obtain ⟨K, h1, h2, h3⟩ := h
  refine ⟨fun i => K i ∨ (w.heap.size ≤ i ∧ i < w'.heap.size), h1.below hb fun i hi => hi, fun p hp => ?_, fun q hq => ⟨(h3 q hq).1.on hb, fun b hbA => .inl ((h3 q hq).2 b hbA)⟩⟩
  rcases List.mem_cons.1 hp with rfl | hp
  · exact ⟨hB, .inr ⟨hge, hB.lt⟩⟩
  · exact ⟨(h2 p hp).1.below hb (h2 p hp).1.lt, .inl (h2 p hp).2⟩
theorem On.bytes (h : On w0 g gk bm v s Vs Bl w) (hb : Below w.heap.size w w') {A : Option Addr} {l : List UInt8} (hB : Bs w' A l) (hge : ∀ b, inA A b → w.heap.size ≤ b ∧ b < w'.heap.size) : On w0 g gk bm v s Vs ((A, l) :: Bl) w' := by
  obtain ⟨K, h1, h2, h3⟩ := h
  refine ⟨fun i => K i ∨ (w.heap.size ≤ i ∧ i < w'.heap.size), h1.below hb fun i hi => hi, fun p hp => ⟨(h2 p hp).1.below hb (h2 p hp).1.lt, .inl (h2 p hp).2⟩, fun q hq => ?_⟩
  rcases List.mem_cons.1 hq with rfl | hq
  · exact ⟨hB, fun b hbA => .inr (hge b hbA)⟩
  · exact ⟨(h3 q hq).1.on hb, fun b hbA => .inl ((h3 q hq).2 b hbA)⟩
theorem On.do_ (h : On w0 g gk bm v s Vs Bl w) {x : Wl} {Dx : Option Addr} {ndx cdx : Nat} {Nx : Option Addr} {nnx cnx : Nat} (hx : ArgW w x Dx ndx cdx Nx nnx cnx) (hm : May x) (hgr : x.gr = v.gr) :
    Calls Tryz.prog 22 #[.pointer (some ⟨g, 0, none⟩), .agg #[.int .i64 x.cl, .int .i64 x.sp, .int .i64 x.gr, .int .i64 x.ep, .int .i64 x.kd, .int .i64 x.bl, .slice Dx ndx cdx, .int .i64 x.od, .int .i64 x.nw, .slice Nx nnx cnx]] w fun e w' => ∃ A m c, e = .returned (.tuple #[.agg #[.int .i64 (doS v x).2.er, .slice A m c, .int .i64 (doS v x).2.ep, .slice none 0 0], .int .i64 0]) ∧ (doS v x).2.da.length = m ∧ w.heap.size ≤ w'.heap.size ∧ On w0 g gk bm (doS v x).1 s Vs ((A, (doS v x).2.da) :: Bl) w' := by
  obtain ⟨K, h1, h2, h3⟩ := h
  refine (h1.do_ hx hm hgr).mono fun e w' ⟨A, m, c, he, hl, hB, hA, hv, ho⟩ => ⟨A, m, c, he, hl, ho.size, fun i => K i ∨ inA A i, hv, fun p hp => ?_, fun q hq => ?_⟩
  · have hne : p.1 ≠ g := fun e => h1.glt.2.1 (e ▸ (h2 p hp).2)
    exact ⟨ho.blk (h2 p hp).1 hne, .inl (h2 p hp).2⟩
  · rcases List.mem_cons.1 hq with rfl | hq
    · exact ⟨hB, fun b hb => .inr hb⟩
    · refine ⟨bs_kept (h3 q hq).1 ⟨ho.size, fun i hi hlt => ho.block i hlt fun e => h1.glt.2.1 (e ▸ hi)⟩ (h3 q hq).2, fun b hb => .inl ((h3 q hq).2 b hb)⟩
theorem On.rooted (h : On w0 g gk bm v s Vs Bl w) (hs : s.1.length + 20000 < 1000000 ∧ s.2.2 + 20000 < 1000000) :
    Calls Tryz.prog 27 #[.pointer (some ⟨g, 0, none⟩)] w fun e w' => e = .returned (.tuple #[.agg (cbs (rootB v)).toArray, .bool true]) ∧ w.heap.size ≤ w'.heap.size ∧ On w0 g gk bm v (rootS v s) Vs Bl w' := by
  obtain ⟨K, h1, h2, h3⟩ := h
  refine (h1.rooted hs).mono fun e w' ⟨he, hv, hk⟩ => ⟨he, hk.1, K, hv, fun p hp => ⟨(hk.2 p.1 (h2 p hp).2 (h2 p hp).1.lt).trans (h2 p hp).1, (h2 p hp).2⟩, fun q hq => ⟨bs_kept (h3 q hq).1 hk (h3 q hq).2, (h3 q hq).2⟩⟩
theorem On.heard (h : On w0 g gk bm v s Vs Bl w) {x : Wl} {Dx : Option Addr} {ndx cdx : Nat} {Nx : Option Addr} {nnx cnx : Nat} (hx : ArgW w x Dx ndx cdx Nx nnx cnx) (hm : May x) (hgr : x.gr = v.gr) (hk : x.kd ≠ 5) {a : An} (ha : agS v x = some a) :
    Calls Tryz.prog 29 #[.pointer (some ⟨g, 0, none⟩), .agg #[.int .i64 x.cl, .int .i64 x.sp, .int .i64 x.gr, .int .i64 x.ep, .int .i64 x.kd, .int .i64 x.bl, .slice Dx ndx cdx, .int .i64 x.od, .int .i64 x.nw, .slice Nx nnx cnx]] w fun e w' => ∃ A m c, e = .returned (.tuple #[.agg #[.int .i64 a.er, .slice A m c, .int .i64 a.ep, .slice none 0 0], .bool true]) ∧ a.da.length = m ∧ w.heap.size ≤ w'.heap.size ∧ On w0 g gk bm v s Vs ((A, a.da) :: Bl) w' := by
  have h0 := h
  obtain ⟨K, ⟨_, U, N, cs, h1, _⟩, _⟩ := h
  have hc := heard_in h1 hx hm hgr hk
  rw [ha] at hc
  refine hc.mono fun e w' ⟨u, he, d, hu, hN⟩ => ?_
  obtain ⟨A, c, rfl, hl, hc2, hB⟩ := hN.form
  refine ⟨A, _, c, by rw [he, hu]; rfl, rfl, hN.2.size, h0.bytes hN.2 hB fun b hb => ⟨own_new (w' := w') hN.1 b hb, mine_lt hN.1 ⟨A, _, c, rfl, hb⟩⟩⟩
theorem d_alt {w w0 : World} {D : Option Addr} {l : List UInt8} (h : Bs w D l) (hD : ∀ b, inA D b → w0.heap.size ≤ b) : ∃ D', Bs w D' l ∧ (∀ b, inA D' b → w0.heap.size ≤ b ∧ b < w.heap.size) ∧ ∀ w', Bs w' D' l → Bs w' D l := by
  by_cases e : l = []
  · subst e
    exact ⟨none, Bs.nil _ _, fun b hb => none_in2 hb, fun w' _ => Bs.nil _ _⟩
  · refine ⟨D, h, fun b hb => ⟨hD b hb, ?_⟩, fun _ h => h⟩
    obtain ⟨b', off, e2, hlt, _⟩ := h.2 (by cases l with | nil => exact absurd rfl e | cons a t => simp)
    obtain ⟨a, e3, e4⟩ := hb
    rw [e2] at e3
    injection e3 with e3
    rw [← e4, ← e3]; exact hlt
theorem On.wish (h : On w0 g gk bm v s Vs Bl w) (n sp : Int) (hn : -9223372036854775808 ≤ n ∧ n ≤ 9223372036854775807) (hsp : 1 ≤ sp ∧ sp ≤ 9007199254740991) : Calls Tryz.prog 21 #[.pointer (some ⟨g, 0, none⟩), .int .i64 n, .int .i64 sp] w
    (RetW (fun x => WishV v.ep sp x ∧ (x.kd = 5 ↔ n % 12 = 0)) w) := by
  obtain ⟨K, h1, _⟩ := h
  exact h1.wish n sp hn hsp
theorem On.drop (h : On w0 g gk bm v s Vs Bl w) : On w0 g gk bm v s [] [] w := by
  obtain ⟨K, h1, _⟩ := h
  refine ⟨K, h1, ?_, ?_⟩ <;> intro p hp <;> simp at hp
theorem On.glt (h : On w0 g gk bm v s Vs Bl w) : g < w.heap.size := let ⟨_, h, _⟩ := h; h.glt.1
/-- What is known of the vault and of the book. -/
structure OnP (v : Va) (s : Bk) (k : Nat) : Prop where
  gr : v.gr = 1
  ep : v.ep = 0
  st : StL v (k : Int)
  s1 : s.1.length ≤ 400 * k + 200
  s2 : s.2.2 ≤ 400 * k + 200
theorem OnP.step {v : Va} {s : Bk} {k : Nat} {x : Wl} (h : OnP v s k) (hx : WishV v.ep (1 + (k : Int)) x) : OnP (doS v x).1 s (k + 1) :=
  ⟨doS_keep.1.trans h.gr, doS_keep.2.trans h.ep, by have := h.st.doS h.gr hx (by omega); rwa [show ((k + 1 : Nat) : Int) = 1 + k by omega], by have := h.s1; omega, by have := h.s2; omega⟩
theorem OnP.roots {v : Va} {s : Bk} {k : Nat} (h : OnP v s (k + 1)) (h1 : s.1.length ≤ 400 * k + 200) (h2 : s.2.2 ≤ 400 * k + 200) : OnP v (rootS v (rootS v s)) (k + 1) := by
  have a := rootS_len v s
  have b := rootS_len v (rootS v s)
  exact ⟨h.gr, h.ep, h.st, by omega, by omega⟩
/-- What was done is known. -/
theorem once_da {v : Va} {x : Wl} {an : An} (hv : v.ok) (hc : 31 ≤ x.cl ∧ x.cl ≤ 34) (h : agS v x = some an) (he : an.er = 0) : an.da.length ≤ 16 := by
  unfold agS at h
  have := (hv.cl (cN x) (cN_lt hc)).1
  split at h
  · cases h; simp only; omega
  · split at h
    · cases h; simp at he
    · cases h
/-- A digest in a variable of its own. -/
theorem dg_var (w : World) {D : List Value} (h : D.length = 32) : ∃ w', (w.alloc (.cells (cbs (List.replicate 32 0)).toArray 59)).setCells w.heap.size 0 D = w' ∧ (w.alloc (.cells (cbs (List.replicate 32 0)).toArray 59)).there w.heap.size 0 D.toArray.size ∧
    (Tryz.prog.info? 59).map (·.size) = some D.toArray.size ∧ (Tryz.prog.info? 59).map (·.size) = some D.length ∧ Blk w' w.heap.size 59 D ∧ Below w.heap.size w w' := by
  have hY : Blk (w.alloc (.cells (cbs (List.replicate 32 0)).toArray 59)) w.heap.size 59 (cbs (List.replicate 32 0)) := Blk.new rfl rfl
  have hsD : D.toArray.size = 32 := by rw [List.size_toArray]; exact h
  refine ⟨_, rfl, ?_, by rw [hsD]; exact info32b, by rw [h]; exact info32b, hY.setAll (vs := D) (by rw [h, cbs_length, List.length_replicate]), Below.setCells (Nat.le_refl _) D ((Below.refl _ _).alloc (Nat.le_refl _) _)⟩
  have e := hY.there
  rw [cbs_length, List.length_replicate] at e
  rw [hsD]; exact e
/-- A client's wish later on. -/
theorem argW_of {w w' : World} {x : Wl} {Dx : Option Addr} {ndx cdx : Nat} {Nx : Option Addr} {nnx cnx : Nat} (h : ArgW w x Dx ndx cdx Nx nnx cnx) (hn : x.nx = []) (hB : Bs w' Dx x.da) : ArgW w' x Dx ndx cdx Nx nnx cnx := by
  obtain ⟨⟨a1, a2, a3, _, a5⟩, ⟨⟨b1, b2, b3, _, b5⟩, b6⟩, h3⟩ := h
  refine ⟨⟨a1, a2, a3, hB, a5⟩, ⟨⟨b1, b2, b3, ?_, b5⟩, b6⟩, h3⟩
  rw [hn]
  exact ⟨rfl, fun hp => absurd hp (by simp)⟩
end
end Go.Proofs.YtfaeechidjpjbaaGreat
