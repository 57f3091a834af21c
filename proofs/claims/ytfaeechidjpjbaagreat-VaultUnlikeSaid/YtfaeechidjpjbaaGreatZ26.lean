/-
  Laid together for a hand-in: Un16, Ap16.
-/
import Derived.Test.YtfaeechidjpjbaaGreatZ25
import Derived.Test.YtfaeechidjpjbaaGreatZ24
import Derived.Test.YtfaeechidjpjbaaGreatZ18

namespace Go.Proofs.YtfaeechidjpjbaaGreat
open Go.RowKit Go.Maps
set_option linter.unusedVariables false
set_option linter.unusedSimpArgs false
section
variable {w w' : World} {U : Nat → Prop} {g : Nat} {bk : Value} {v : Va} {cs : List Value}
theorem argI_kept {K : Nat → Prop} {A : Option Addr} {n c : Nat} {l : List Int} (h : ArgI w A n c l) (hk : Kept K w w') (hK : ∀ b, inA A b → K b) : ArgI w' A n c l := by
  obtain ⟨h1, h2, h3, h4, h5⟩ := h
  refine ⟨h1, h2, h3, ⟨h4.1, fun hp => ?_⟩, h5⟩
  obtain ⟨b, off, e, hb, hc⟩ := h4.2 hp
  exact ⟨b, off, e, Nat.lt_of_lt_of_le hb hk.1, fun j u hu => (World.cell?_of_block (hk.2 b (hK b ⟨_, e, rfl⟩) hb)).trans (hc j u hu)⟩
theorem VaIn.kept (h : VaIn w U g bk v cs) (hk : Kept U w w') : VaIn w' U g bk v cs :=
  ⟨h.ok, (hk.2 g h.u (h.lt g h.u)).trans h.blk, h.len, h.c0, h.c1, h.c2, h.bl, fun i hi => let ⟨e1, A, n, c, e2, e3⟩ := h.cl i hi; ⟨e1, A, n, c, e2, ⟨e3.len, e3.cap, e3.max, bs_kept e3.bs hk fun b hb => (e3.own b hb).1, e3.own⟩⟩, let ⟨A, n, c, e2, e3⟩ := h.sl; ⟨A, n, c, e2, ⟨argI_kept e3.arg hk fun b hb => (e3.own b hb).1, e3.own⟩⟩, h.u, fun i hi => Nat.lt_of_lt_of_le (h.lt i hi) hk.1⟩
end
/-- Two vaults over one book. -/
def V2 (w0 : World) (ga gb gk bm : Nat) (va vb : Va) (s : Bk) (w : World) : Prop :=
  ∃ Ub cb, Vb w0 ga gk bm Ub va s w ∧ VaIn w Ub gb (.pointer (some ⟨gk, 0, none⟩)) vb cb ∧ ∀ i, Ub i → w0.heap.size ≤ i
section
variable {w0 w w' : World} {ga gb gk bm : Nat} {va vb : Va} {s : Bk}
theorem V2.bel (h : V2 w0 ga gb gk bm va vb s w) : Below w0.heap.size w0 w := let ⟨_, _, h, _⟩ := h; h.bel
theorem V2.swap (h : V2 w0 ga gb gk bm va vb s w) : V2 w0 gb ga gk bm vb va s w := by
  obtain ⟨Ub, cb, ⟨h0, Ua, N, ca, h1, h2, h3, h4, h5⟩, h6, h7⟩ := h
  exact ⟨Ua, ca, ⟨h0, Ub, N, cb, h6, fun i hi => ⟨h7 i hi, fun e => (h2 i e).2 hi⟩, h4, h3, h5⟩, h1, fun i hi => (h2 i hi).1⟩
theorem V2.below (h : V2 w0 ga gb gk bm va vb s w) (hb : Below w.heap.size w w') : V2 w0 ga gb gk bm va vb s w' := by
  obtain ⟨Ub, cb, h1, h2, h3⟩ := h
  exact ⟨Ub, cb, h1.below hb fun i hi => .inl hi, h2.below hb, h3⟩
theorem V2.ok (h : V2 w0 ga gb gk bm va vb s w) : va.ok := let ⟨_, _, h, _⟩ := h; h.ok
theorem V2.glt (h : V2 w0 ga gb gk bm va vb s w) : ga < w.heap.size := let ⟨_, _, h, _⟩ := h; h.glt.1
theorem V2.wish (h : V2 w0 ga gb gk bm va vb s w) (n sp : Int) (hn : -9223372036854775808 ≤ n ∧ n ≤ 9223372036854775807) (hsp : 1 ≤ sp ∧ sp ≤ 9007199254740991) : Calls Tryz.prog 21 #[.pointer (some ⟨ga, 0, none⟩), .int .i64 n, .int .i64 sp] w
    (RetW (fun x => WishV va.ep sp x ∧ (x.kd = 5 ↔ n % 12 = 0)) w) := by
  obtain ⟨Ub, cb, h1, _⟩ := h
  exact h1.wish n sp hn hsp
theorem V2.do_ (h : V2 w0 ga gb gk bm va vb s w) {x : Wl} {Dx : Option Addr} {ndx cdx : Nat} {Nx : Option Addr} {nnx cnx : Nat} (hx : ArgW w x Dx ndx cdx Nx nnx cnx) (hm : May x) (hgr : x.gr = va.gr) :
    Calls Tryz.prog 22 #[.pointer (some ⟨ga, 0, none⟩), .agg #[.int .i64 x.cl, .int .i64 x.sp, .int .i64 x.gr, .int .i64 x.ep, .int .i64 x.kd, .int .i64 x.bl, .slice Dx ndx cdx, .int .i64 x.od, .int .i64 x.nw, .slice Nx nnx cnx]] w fun e w' => ∃ A m c, e = .returned (.tuple #[.agg #[.int .i64 (doS va x).2.er, .slice A m c, .int .i64 (doS va x).2.ep, .slice none 0 0], .int .i64 0]) ∧ V2 w0 ga gb gk bm (doS va x).1 vb s w' := by
  obtain ⟨Ub, cb, h1, h2, h3⟩ := h
  refine (h1.do_ hx hm hgr).mono fun e w' ⟨A, m, c, he, _, _, _, hv, ho⟩ => ⟨A, m, c, he, Ub, cb, hv.below (Below.refl _ _) fun i hi => .inl (.inl hi), h2.out ho fun i hi e => h1.glt.2.1 (e ▸ hi), h3⟩
theorem V2.rooted (h : V2 w0 ga gb gk bm va vb s w) (hs : s.1.length + 20000 < 1000000 ∧ s.2.2 + 20000 < 1000000) :
    Calls Tryz.prog 27 #[.pointer (some ⟨ga, 0, none⟩)] w fun e w' => e = .returned (.tuple #[.agg (cbs (rootB va)).toArray, .bool true]) ∧ V2 w0 ga gb gk bm va vb (rootS va s) w' := by
  obtain ⟨Ub, cb, h1, h2, h3⟩ := h
  exact (h1.rooted hs).mono fun e w' ⟨he, hv, hk⟩ => ⟨he, Ub, cb, hv, h2.kept hk, h3⟩
theorem V2.rootedK (h : V2 w0 ga gb gk bm va vb s w) (hb : Below w.heap.size w w') {b : Nat} {t : TypeId} {cs : List Value} (hB : Blk w' b t cs) (hge : w.heap.size ≤ b) (hs : s.1.length + 20000 < 1000000 ∧ s.2.2 + 20000 < 1000000) :
    Calls Tryz.prog 27 #[.pointer (some ⟨ga, 0, none⟩)] w' fun e w2 => e = .returned (.tuple #[.agg (cbs (rootB va)).toArray, .bool true]) ∧ V2 w0 ga gb gk bm va vb (rootS va s) w2 ∧ Blk w2 b t cs := by
  obtain ⟨Ub, cb, h1, h2, h3⟩ := h
  have h1' : Vb w0 ga gk bm (fun i => Ub i ∨ (w.heap.size ≤ i ∧ i < w'.heap.size)) va s w' := h1.below hb fun i hi => hi
  exact (h1'.rooted hs).mono fun e w2 ⟨he, hv, hk⟩ => ⟨he, ⟨Ub, cb, hv.below (Below.refl _ _) fun i hi => .inl (.inl hi), (h2.below hb).kept ⟨hk.1, fun i hi => hk.2 i (.inl hi)⟩, h3⟩, (hk.2 b (.inr ⟨hge, hB.lt⟩) hB.lt).trans hB⟩
theorem V2.leaves (h : V2 w0 ga gb gk bm va vb s w) : Calls Tryz.prog 31 #[.pointer (some ⟨ga, 0, none⟩)] w fun e w' => ∃ A c, e = .returned (.slice A 13 c) ∧ LvsAt w' (fun j => w.heap.size ≤ j ∧ j < w'.heap.size) A (leavesL va) ∧ Below w.heap.size w w' := by
  obtain ⟨Ub, cb, ⟨_, U, N, cs, h1, _⟩, _⟩ := h
  exact (leaves_in h1).mono fun e w' ⟨u, vs, he, hL, hb⟩ => let ⟨A, c, e1, hl⟩ := hL.lvs h1.ok; ⟨A, c, by rw [he, e1], hl, hb⟩
theorem V2.clash (h : V2 w0 ga gb gk bm va vb s w) : Calls Tryz.prog 38 #[.pointer (some ⟨gk, 0, none⟩)] w fun e w' => e = .returned (.bool s.2.1) ∧ w' = w := by
  obtain ⟨Ub, cb, ⟨_, U, N, cs, _, _, _, _, hk⟩, _⟩ := h
  exact kb_clash hk
end
/-! ### Leaves that may differ -/
set_option maxRecDepth 100000 in
set_option maxHeartbeats 1600000 in
theorem same_lvs2 {w : World} {K K' : Nat → Prop} {A A' : Option Addr} {n c c' : Nat} {ls ls' : List (List UInt8)} (h1 : LvsAt w K A ls) (h2 : LvsAt w K' A' ls') (hK : ∀ j, K j → j < w.heap.size) (hK' : ∀ j, K' j → j < w.heap.size) (hn : ls.length = n) (hn' : ls'.length = n) (hn2 : n ≤ 1000) (hl : ∀ x ∈ ls, x.length ≤ 65535) (hl' : ∀ x ∈ ls', x.length ≤ 65535) :
    Calls Tryz.prog 17 #[.slice A n c, .slice A' n c'] w fun e w' => e = .returned (.bool (decide (ls = ls'))) ∧ Below w.heap.size w w' := by
  obtain ⟨b, off, rfl, hb, hc⟩ := h1
  obtain ⟨b', off', rfl, hb', hc'⟩ := h2
  have hnn : ((n : Int) != n) = false := by simp
  obtain ⟨R, hR⟩ : ∃ R, decide (ls = ls') = R := ⟨_, rfl⟩
  rw [hR]
  have H := Lib.hid (And.intro hc (And.intro hc' (And.intro (hK b hb) (And.intro (hK' b' hb') (And.intro hn (And.intro hn' (And.intro hl (And.intro hl' hR))))))))
  clear hc hc' hb hb' hK hK' hn hn' hl hl' hR
  go_enter Tryz.func17, Tryz.ntmps17
  go_wp2
  go_loopw [5] (fun iv wr => ∃ k : Nat, k ≤ n ∧ iv = .int .i64 (k : Int) ∧ Hid (Below w.heap.size w wr ∧ ls.take k = ls'.take k)) (fun iv _ => n - (intOf iv).toNat)
  case atStart => exact ⟨0, by omega, rfl, Lib.hid ⟨Below.refl _ _, rfl⟩⟩
  case round =>
    obtain ⟨k, hk, rfl, hB⟩ := hrel
    have i0 : (0 : Int) ≤ (k : Int) := by omega
    by_cases hlt : k < n
    · have p1 : (k : Int) < (n : Int) := by omega
      have hkl : k < ls.length := by rw [H.out.2.2.2.2.1]; exact hlt
      have hkl' : k < ls'.length := by rw [H.out.2.2.2.2.2.1]; exact hlt
      obtain ⟨Aj, cj, q1, q2, q3, q4, _⟩ := H.out.1 k hkl
      obtain ⟨Ak, ck, r1, r2, r3, r4, _⟩ := H.out.2.1 k hkl'
      have hm := H.out.2.2.2.2.2.2.1 _ (List.getElem_mem hkl)
      have hm' := H.out.2.2.2.2.2.2.2.1 _ (List.getElem_mem hkl')
      have hstep : ls[k] = ls'[k] → ls.take (k + 1) = ls'.take (k + 1) := fun e => by rw [List.take_succ_eq_append_getElem hkl, List.take_succ_eq_append_getElem hkl', hB.out.2, e]
      have hdiff : ls[k] ≠ ls'[k] → R = false := fun e => by
        rw [← H.out.2.2.2.2.2.2.2.2]
        refine decide_eq_false fun e2 => e ?_
        subst e2
        rfl
      have Hs := Lib.hid (And.intro hstep hdiff)
      clear hstep hdiff
      generalize ls[k] = x at *
      generalize ls'[k] = x' at *
      obtain ⟨m, hm2⟩ : ∃ m, x.length = m := ⟨_, rfl⟩
      obtain ⟨m', hm2'⟩ : ∃ m', x'.length = m' := ⟨_, rfl⟩
      rw [hm2] at q1 hm
      rw [hm2'] at r1 hm'
      have c1 := (hB.out.1.cell (p := ⟨b, off + k, none⟩) H.out.2.2.1).trans q1
      have c2 := (hB.out.1.cell (p := ⟨b', off' + k, none⟩) H.out.2.2.2.1).trans r1
      obtain ⟨E, hE⟩ : ∃ E, (x == x') = E := ⟨_, rfl⟩
      have HE : Hid (∀ W, Below w.heap.size w W → Calls Tryz.prog 16 #[.slice Aj m cj, .slice Ak m' ck] W fun e w' => e = .returned (.bool E) ∧ Below W.heap.size W w') := Lib.hid fun W hb => by
        have := eqBytes Aj Ak cj ck m m' x x' W (q4.on hb) (r4.on hb) hm2 hm2' (by unfold maxLen; omega) (by unfold maxLen; omega)
        rwa [hE] at this
      have HEE := Lib.hid hE
      clear q1 q2 q3 q4 r1 r2 r3 r4 hm hm' hm2 hm2' hkl hkl' hE
      go_upto_region 6 with fail
      go_region_with (go_at_call 16; go_loud (refine (HE.out _ (by first | exact hB.out.1 | exact below_drewN hB.out.1 _)).mono ?_; rintro e w2 ⟨rfl, hb2⟩; have H2 := Lib.hid (show Below w.heap.size w w2 from (by first | exact hB.out.1.trans (hb2.mono hB.out.1.size) | exact (below_drewN hB.out.1 _).trans (hb2.mono (below_drewN hB.out.1 _).size))); clear hb2))
      all_goals (
        clear c1 c2
        cases E
        · have hf : R = false := Hs.out.2 (fun e => by have := HEE.out; rw [e] at this; simp at this)
          subst hf
          go_wp2
          go_ret
          exact ⟨rfl, by first | exact H2.out | exact below_drewN H2.out _⟩
        · go_wp2
          go_roundw
          case rel => exact ⟨k + 1, by omega, by go_num, Lib.hid ⟨by first | exact H2.out | exact below_drewN H2.out _, Hs.out.1 (by simpa using HEE.out)⟩⟩
          case measure => simp [intOf]; omega)
    · have p1 : ¬ (k : Int) < (n : Int) := by omega
      have hT : R = true := by
        rw [← H.out.2.2.2.2.2.2.2.2]
        refine decide_eq_true ?_
        have := hB.out.2
        rwa [List.take_of_length_le (by rw [H.out.2.2.2.2.1]; omega), List.take_of_length_le (by rw [H.out.2.2.2.2.2.1]; omega)] at this
      subst hT
      go_wp2
      go_ret
      exact ⟨rfl, hB.out.1⟩
theorem lvk_same2 {w : World} {g g' : Nat} {A A' : Option Addr} {c c' : Nat} {ls ls' : List (List UInt8)} (h : LvK g A ls w) (h' : LvK g' A' ls' w) (hn : ls.length = 13) (hn' : ls'.length = 13) (hl : ∀ x ∈ ls, x.length ≤ 65535) (hl' : ∀ x ∈ ls', x.length ≤ 65535) :
    Calls Tryz.prog 17 #[.slice A 13 c, .slice A' 13 c'] w fun e w' => e = .returned (.bool (decide (ls = ls'))) ∧ Below w.heap.size w w' := by
  obtain ⟨K, h1, h2, _⟩ := h
  obtain ⟨K', h1', h2', _⟩ := h'
  exact same_lvs2 h1 h1' h2 h2' hn hn' (by decide) hl hl'
end Go.Proofs.YtfaeechidjpjbaaGreat

namespace Go.Proofs.YtfaeechidjpjbaaGreat
set_option linter.unusedVariables false

theorem noteAll_mem (s : Bk) (ls : List (List UInt8)) (y : List UInt8) : y ∈ (noteAll s ls).1 ↔ y ∈ s.1 ∨ (y ∈ ls ∧ y.length ≤ 65536) := by
  induction ls generalizing s with
  | nil => simp [noteAll]
  | cons x ls ih =>
    have e : noteAll s (x :: ls) = noteAll (stepL s x) ls := rfl
    rw [e, ih, stepL_mem, List.mem_cons]
    constructor
    · rintro ((h | ⟨rfl, h⟩) | h)
      · exact .inl h
      · exact .inr ⟨.inl rfl, h⟩
      · exact .inr ⟨.inr h.1, h.2⟩
    · rintro (h | ⟨rfl | h, h2⟩)
      · exact .inl (.inl h)
      · exact .inl (.inr ⟨rfl, h2⟩)
      · exact .inr ⟨h, h2⟩
theorem noteAll_good (s : Bk) (ls : List (List UInt8)) (h : Unmixed s) : Unmixed (noteAll s ls) := by
  induction ls generalizing s with
  | nil => exact h
  | cons x ls ih => exact ih _ (stepL_good s x h)
theorem flat_inj {l l' : List Dg} (h : All32 l) (h' : All32 l') (hl : l.length = l'.length) (e : l.flatten = l'.flatten) : l = l' := by
  apply List.ext_getElem hl
  intro i h1 h2
  rw [← flat_get h h1, ← flat_get h' h2, e]
theorem ups_mem {ls : List (List UInt8)} {n k : Nat} (hk : k < n) {x : List UInt8} (hx : x ∈ ups (lvl (lows ls) k)) : x ∈ insTo ls n := by
  induction n with
  | zero => omega
  | succ n ih =>
    rw [insTo_succ, List.mem_append]
    by_cases h : k < n
    · exact .inl (ih h)
    · have : k = n := by omega
      subst this
      exact .inr hx
theorem leaf_mem {ls : List (List UInt8)} (n : Nat) {x : List UInt8} (hx : x ∈ ls) : leafIn x ∈ insTo ls n := by
  induction n with
  | zero => exact List.mem_map.2 ⟨x, hx, rfl⟩
  | succ n ih => rw [insTo_succ, List.mem_append]; exact .inl ih
theorem upIn_small {l : List Dg} (h : All32 l) (j : Nat) : (upIn (four l j)).length ≤ 65536 := by
  unfold upIn
  rw [List.length_cons, flat_len (h.four j), four_len]
  omega
theorem ups_at {l : List Dg} {j : Nat} (hj : j < (l.length + 3) / 4) : upIn (four l j) ∈ ups l := List.mem_map.2 ⟨j, List.mem_range.2 hj, rfl⟩

section
variable {L : List (List UInt8)} {ls ls' : List (List UInt8)} {n : Nat}
/-- One level down. -/
theorem next_inj (hU : ∀ x ∈ L, ∀ y ∈ L, digest x = digest y → x = y) {l l' : List Dg} (h : All32 l) (h' : All32 l') (hl : l.length = l'.length) (hm : ∀ x ∈ ups l, x.length ≤ 65536 → x ∈ L) (hm' : ∀ x ∈ ups l', x.length ≤ 65536 → x ∈ L) (e : next l = next l') : l = l' := by
  apply List.ext_getElem hl
  intro i h1 h2
  have hj : i / 4 < (l.length + 3) / 4 := by omega
  have e1 := next_get l (i / 4)
  have e2 := next_get l' (i / 4)
  rw [if_pos hj] at e1
  rw [if_pos (by omega), ← e, e1] at e2
  have e3 := hU _ (hm _ (ups_at hj) (upIn_small h _)) _ (hm' _ (ups_at (by omega)) (upIn_small h' _)) (Option.some.inj e2)
  unfold upIn at e3
  injection e3 with _ e3
  have e4 := flat_inj (h.four (i / 4)) (h'.four (i / 4)) (by rw [four_len, four_len, hl]) e3
  have g1 := four_get l (i / 4) (i % 4) (by omega)
  have g2 := four_get l' (i / 4) (i % 4) (by omega)
  rw [show 4 * (i / 4) + i % 4 = i by omega] at g1 g2
  rw [e4, g2, List.getElem?_eq_getElem h1, List.getElem?_eq_getElem h2] at g1
  exact (Option.some.inj g1).symm
theorem lvl_inj (hU : ∀ x ∈ L, ∀ y ∈ L, digest x = digest y → x = y) (hl : ls.length = ls'.length) (hm : ∀ x ∈ insTo ls n, x.length ≤ 65536 → x ∈ L) (hm' : ∀ x ∈ insTo ls' n, x.length ≤ 65536 → x ∈ L) :
    ∀ k, k ≤ n → lvl (lows ls) k = lvl (lows ls') k → lows ls = lows ls'
  | 0, _, e => e
  | k + 1, hk, e => lvl_inj hU hl hm hm' k (by omega) (next_inj hU (all32_lvl (all32_lows _) k) (all32_lvl (all32_lows _) k) (by rw [lvl_len, lvl_len, lows_len, lows_len, hl]) (fun x hx => hm x (ups_mem (by omega) hx)) (fun x hx => hm' x (ups_mem (by omega) hx)) e)
theorem lows_inj (hU : ∀ x ∈ L, ∀ y ∈ L, digest x = digest y → x = y) (hl : ls.length = ls'.length) (hm : ∀ x ∈ insTo ls n, x.length ≤ 65536 → x ∈ L) (hm' : ∀ x ∈ insTo ls' n, x.length ≤ 65536 → x ∈ L) (h : ∀ x ∈ ls, x.length ≤ 65535) (h' : ∀ x ∈ ls', x.length ≤ 65535) (e : lows ls = lows ls') : ls = ls' := by
  apply List.ext_getElem hl
  intro i h1 h2
  have e1 : (lows ls)[i]? = (lows ls')[i]? := by rw [e]
  unfold lows at e1
  rw [List.getElem?_map, List.getElem?_map, List.getElem?_eq_getElem h1, List.getElem?_eq_getElem h2] at e1
  have e2 : digest (leafIn ls[i]) = digest (leafIn ls'[i]) := Option.some.inj e1
  have l1 := h _ (List.getElem_mem h1)
  have l2 := h' _ (List.getElem_mem h2)
  have e3 := hU _ (hm _ (leaf_mem n (List.getElem_mem h1)) (by rw [leafIn_len]; omega)) _ (hm' _ (leaf_mem n (List.getElem_mem h2)) (by rw [leafIn_len]; omega)) e2
  unfold leafIn at e3
  injection e3
end
/-- As long as there is no clash, like roots are of like leaves. -/
theorem roots_apart16 (s : Bk) (hs : Unmixed s) (ls ls' : List (List UInt8)) (m : Nat) (hl : ls.length = m) (hl' : ls'.length = m) (h1 : 1 ≤ m) (h : ∀ x ∈ ls, x.length ≤ 65535) (h' : ∀ x ∈ ls', x.length ≤ 65535)
    (hc : (noteAll (noteAll s (insTo ls (dep m - 1))) (insTo ls' (dep m - 1))).2.1 = false) (e : rootD (lows ls) = rootD (lows ls')) : ls = ls' := by
  have hU := noteAll_good _ (insTo ls' (dep m - 1)) (noteAll_good s (insTo ls (dep m - 1)) hs) hc
  have hm : ∀ x ∈ insTo ls (dep m - 1), x.length ≤ 65536 → x ∈ (noteAll (noteAll s (insTo ls (dep m - 1))) (insTo ls' (dep m - 1))).1 := fun x hx hs => by
    rw [noteAll_mem, noteAll_mem]; exact .inl (.inr ⟨hx, hs⟩)
  have hm' : ∀ x ∈ insTo ls' (dep m - 1), x.length ≤ 65536 → x ∈ (noteAll (noteAll s (insTo ls (dep m - 1))) (insTo ls' (dep m - 1))).1 := fun x hx hs => by
    rw [noteAll_mem]; exact .inr ⟨hx, hs⟩
  have r1 := root_one (low := lows ls) (by rw [lows_len]; omega)
  have r2 := root_one (low := lows ls') (by rw [lows_len]; omega)
  rw [lows_len, hl] at r1
  rw [lows_len, hl'] at r2
  exact lows_inj hU (by omega) hm hm' h h' (lvl_inj hU (by omega) hm hm' (dep m - 1) (Nat.le_refl _) (by rw [r1, r2, e]))
end Go.Proofs.YtfaeechidjpjbaaGreat
