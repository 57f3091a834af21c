/-
  A bag's Put, Look, Take, Drop, Double over the code. (Written by tools/gen_pt13.py.)
-/
import Derived.Test.YtlecihbclkohjaaOf13
namespace Go.Proofs.Ytlecihbclkohjaa
open Go.RowKit Go.Maps
set_option linter.unusedVariables false
set_option linter.unusedSimpArgs false

def zE : En := ⟨0, 0, []⟩
def atB (b : Bg) (i : Int) : En := b.l[i.toNat]?.getD zE
def lookB (b : Bg) (i : Int) : En := if lackE b i = 0 then atB b i else zE
def takeB (b : Bg) (i : Int) : Bg := if lackE b i = 0 then offB b i.toNat else b
def dropB (b : Bg) (i : Int) : Bg := if lackE b i = 0 then ⟨b.l.eraseIdx i.toNat, b.sent, b.lost + 1⟩ else b
def dblE (b : Bg) (i : Int) : Int := if lackE b i = 0 then (if 4096 ≤ b.l.length then 7 else 0) else lackE b i
def dblB (b : Bg) (i : Int) : Bg := if dblE b i = 0 then sendB b (atB b i) else b
/-- The blocks of U, and new ones below N. -/
def GrN (U : Nat → Prop) (w : World) (N : Nat) (i : Nat) : Prop := U i ∨ (w.heap.size ≤ i ∧ i < N)
/-- A note that is answered, in memory of its own, and what becomes of the bag. -/
def Took (w : World) (U : Nat → Prop) (g : Nat) (x : En) (E : Int) (b' : Bg) (e : Ending) (w' : World) : Prop :=
  ∃ (h : EnH) (N : Nat), h.x = x ∧ e = .returned (.tuple #[.agg #[.int .i64 h.x.fr, .int .i64 h.x.to, .slice h.a h.n h.c], .int .i64 E]) ∧ w.heap.size ≤ N ∧ N ≤ w'.heap.size ∧ BagAt w' (GrN U w N) g b' ∧ Out U w w' ∧ ByP w' (fun j => N ≤ j) h
theorem lack0 {b : Bg} {i : Int} (h : lackE b i = 0) : ∃ n : Nat, i = n ∧ n < b.l.length := by
  unfold lackE at h
  split at h
  · cases h
  · split at h
    · cases h
    · exact ⟨i.toNat, by omega, by omega⟩
theorem lack_wf (b : Bg) (i : Int) : lackE b i = 0 ∨ lackE b i = 9 := by
  unfold lackE
  split
  · right; rfl
  · split
    · right; rfl
    · left; rfl
section
variable {w w' : World} {U : Nat → Prop} {g : Nat} {b : Bg} {A : Option Addr} {cap : Nat} {hs : List EnH} {K : Nat → Prop}
theorem ByP.zero (w : World) (K : Nat → Prop) : ByP w K ⟨zE, none, 0, 0⟩ := ⟨rfl, Nat.le_refl _, by simp [maxLen], by decide, by decide, fun h => absurd h (Nat.lt_irrefl 0)⟩
theorem outs {w1 w2 w3 : World} (h1 : Below w.heap.size w w1) (h2 : Below w1.heap.size w1 w2) (q : Out (fun i => i = w.heap.size) w2 w3) : Out U w w3 := by
  have h12 := h1.trans (h2.mono h1.size)
  have hz := h12.size
  exact ⟨q.os.trans h12.os, q.tape.trans h12.tape, q.output.trans h12.output, Nat.le_trans hz q.size, fun i hi hn => (q.block i (by omega) (by omega)).trans (h12.block i hi)⟩
theorem BagAt.grn {N : Nat} (h : BagAt w' U g b) (hN : N ≤ w'.heap.size) : BagAt w' (GrN U w N) g b := h.mono (fun i hi => .inl hi) fun i hi => by
  rcases hi with h1 | h1
  · exact h.lt i h1
  · omega
set_option maxRecDepth 100000 in
set_option maxHeartbeats 1600000 in
theorem put_any (h : BagAt w U g b) (x : EnH) {K' : Nat → Prop} (hx : ByP w K' x) (hse : b.sent < 1000000) (hxl : x.n ≤ 140737488355328) : Calls Try.prog 13 #[.pointer (some ⟨g, 0, none⟩), .agg #[.int .i64 x.x.fr, .int .i64 x.x.to, .slice x.a x.n x.c]] w fun e w' => e = .returned (.int .i64 (putE b x.x)) ∧ BagAt w' (Gr U w w') g (putB b x.x) ∧ Out U w w' := by
  obtain ⟨x0, a, n, c⟩ := x
  obtain ⟨f, t, bs⟩ := x0
  dsimp only at *
  obtain ⟨w1, hw1⟩ : ∃ w1, w.alloc (.cells #[.int .i64 f, .int .i64 t, .slice a n c] 29) = w1 := ⟨_, rfl⟩
  have b1 : Below w.heap.size w w1 := by rw [← hw1]; exact (Below.refl _ _).alloc (Nat.le_refl _) _
  have B1 : Blk w1 w.heap.size 29 [.int .i64 f, .int .i64 t, .slice a n c] := by rw [← hw1]; exact Blk.new rfl rfl
  have c0 := B1.cell (i := 0) rfl
  have c1 := B1.cell (i := 1) rfl
  have c2 := B1.cell (i := 2) rfl
  obtain ⟨A, cap, hs, K, h⟩ := h
  have h1 := h.below b1
  have hx1 : ByP w1 (fun i => i < w.heap.size) ⟨⟨f, t, bs⟩, a, n, c⟩ := (show ByP w (fun i => i < w.heap.size) ⟨⟨f, t, bs⟩, a, n, c⟩ from ⟨hx.1, hx.2.1, hx.2.2.1, hx.2.2.2.1, hx.2.2.2.2.1, fun hn => let ⟨b', off, e, _, h2, h3⟩ := hx.2.2.2.2.2 hn; ⟨b', off, e, h2, h2, h3⟩⟩).below b1 (fun i hi => hi) (Nat.le_refl _)
  have z1 := b1.size
  have hbl : bs.length = n := hx.1
  have HN := Lib.hid (isName_any)
  have HS := Lib.hid (And.intro h (And.intro h1 (And.intro hx1 (And.intro b1 (And.intro hse (And.intro hbl (BagAt.mono (U' := Gr U w w1) ⟨A, cap, hs, K, h1⟩ (fun i hi => .inl hi) fun i hi => hi.elim (fun h2 => h1.lt i h2) fun h2 => h2.2)))))))
  have OU := Out.ofBelow U b1
  clear h h1 hx1 b1 B1 hx hse hbl
  unfold putE putB
  unfold putE
  dsimp only
  cases hnf : nmE f with
  | false =>
    rw [if_pos rfl, if_neg (by decide)]
    have HF := Lib.hid (show ∀ w, Calls Try.prog 40 #[.int .i64 f] w fun e w' => e = .returned (.bool false) ∧ w' = w from fun w => by have := isName_any f w; rw [hnf] at this; exact this)
    clear hnf
    go_enter Try.func13, Try.ntmps13
    go_wp2_with (first
      | (go_at_call 39; refine (none_in HS.out.2.1).mono ?_; rintro e w1 ⟨rfl, rfl⟩)
      | (go_at_call 40; refine (HF.out _).mono ?_; rintro e w1 ⟨rfl, rfl⟩))
    go_ret
    exact ⟨rfl, HS.out.2.2.2.2.2.2, OU⟩
  | true =>
    rw [if_neg (by decide)]
    have HF := Lib.hid (show ∀ w, Calls Try.prog 40 #[.int .i64 f] w fun e w' => e = .returned (.bool true) ∧ w' = w from fun w => by have := isName_any f w; rw [hnf] at this; exact this)
    cases hnt : nmE t with
    | false =>
      rw [if_pos rfl, if_neg (by decide)]
      have HT := Lib.hid (show ∀ w, Calls Try.prog 40 #[.int .i64 t] w fun e w' => e = .returned (.bool false) ∧ w' = w from fun w => by have := isName_any t w; rw [hnt] at this; exact this)
      clear hnf hnt
      go_enter Try.func13, Try.ntmps13
      go_wp2_with fail
      refine (none_in HS.out.2.1).mono ?_; rintro e w1 ⟨rfl, rfl⟩
      go_wp2_with fail
      refine (HF.out _).mono ?_; rintro e w1 ⟨rfl, rfl⟩
      go_wp2_with fail
      refine (HT.out _).mono ?_; rintro e w1 ⟨rfl, rfl⟩
      go_wp2
      go_ret
      exact ⟨rfl, HS.out.2.2.2.2.2.2, OU⟩
    | true =>
      rw [if_neg (by decide)]
      have HT := Lib.hid (show ∀ w, Calls Try.prog 40 #[.int .i64 t] w fun e w' => e = .returned (.bool true) ∧ w' = w from fun w => by have := isName_any t w; rw [hnt] at this; exact this)
      by_cases hn : 65536 < bs.length
      · rw [if_pos hn, if_neg (by decide)]
        have hn1 : (n : Int) > 65536 := by have := HS.out.2.2.2.2.2.1; omega
        clear hnf hnt hn
        go_enter Try.func13, Try.ntmps13
        go_wp2_with fail
        refine (none_in HS.out.2.1).mono ?_; rintro e w1 ⟨rfl, rfl⟩
        go_wp2_with fail
        refine (HF.out _).mono ?_; rintro e w1 ⟨rfl, rfl⟩
        go_wp2_with fail
        refine (HT.out _).mono ?_; rintro e w1 ⟨rfl, rfl⟩
        go_wp2
        go_ret
        exact ⟨rfl, HS.out.2.2.2.2.2.2, OU⟩
      · rw [if_neg hn]
        have hn1 : ¬ (n : Int) > 65536 := by have := HS.out.2.2.2.2.2.1; omega
        by_cases hf : 4096 ≤ b.l.length
        · rw [if_pos hf, if_neg (by decide)]
          have HL := Lib.hid (full_in HS.out.2.1 true (decide_eq_true hf))
          clear hnf hnt hn
          go_enter Try.func13, Try.ntmps13
          go_wp2_with fail
          refine (none_in HS.out.2.1).mono ?_; rintro e w1 ⟨rfl, rfl⟩
          go_wp2_with fail
          refine (HF.out _).mono ?_; rintro e w1 ⟨rfl, rfl⟩
          go_wp2_with fail
          refine (HT.out _).mono ?_; rintro e w1 ⟨rfl, rfl⟩
          go_wp2_with fail
          refine HL.out.mono ?_; rintro e w1 ⟨rfl, rfl⟩
          go_wp2
          go_ret
          exact ⟨rfl, HS.out.2.2.2.2.2.2, OU⟩
        · rw [if_neg hf, if_pos rfl]
          have HL := Lib.hid (full_in HS.out.2.1 false (decide_eq_false hf))
          have HP := Lib.hid (show OkE ⟨f, t, bs⟩ from ⟨hnf, hnt, by show bs.length ≤ 65536; omega⟩)
          have hn2 : n ≤ 65536 := by omega
          clear hnf hnt hn
          go_enter Try.func13, Try.ntmps13
          go_wp2_with fail
          refine (none_in HS.out.2.1).mono ?_; rintro e w1 ⟨rfl, rfl⟩
          go_wp2_with fail
          refine (HF.out _).mono ?_; rintro e w1 ⟨rfl, rfl⟩
          go_wp2_with fail
          refine (HT.out _).mono ?_; rintro e w1 ⟨rfl, rfl⟩
          go_wp2_with fail
          refine HL.out.mono ?_; rintro e w1 ⟨rfl, rfl⟩
          go_wp2_with fail
          refine (copyOf_any _ ⟨⟨f, t, bs⟩, a, n, c⟩ HS.out.2.2.1 (by dsimp only; omega)).mono ?_
          rintro e w2 ⟨y, hy, rfl, hby, hb2⟩
          have hw2 : BagIn w2 (GrN U w w2.heap.size) g b A cap hs (fun i => K i ∨ (w1.heap.size ≤ i ∧ i < w2.heap.size)) := by
            have hz2 := hb2.size
            refine (HS.out.2.1.below hb2).wide (fun i hi => .inl hi) (fun i hi => .inl hi) (fun i hi => ?_) (fun i hi => ?_) fun i hi => ?_
            · rcases hi with h1 | h1
              · exact .inl (HS.out.1.ku i h1)
              · exact .inr ⟨by omega, h1.2⟩
            · rcases hi with h1 | h1
              · exact .inl h1
              · exact .inr fun e => by have := HS.out.2.1.lt i e; omega
            · rcases hi with h1 | h1
              · exact (HS.out.2.1.below hb2).lt i h1
              · exact h1.2
          have hby2 : ByP w2 (fun i => K i ∨ (w1.heap.size ≤ i ∧ i < w2.heap.size)) y := ⟨hby.1, hby.2.1, hby.2.2.1, hby.2.2.2.1, hby.2.2.2.2.1, fun hn => let ⟨b', off, e, h1, h2, h3⟩ := hby.2.2.2.2.2 hn; ⟨b', off, e, .inr ⟨h1, h2⟩, h2, h3⟩⟩
          have hsend := send_in hw2 y hby2 (by rw [hy]; exact HP.out) (by omega) HS.out.2.2.2.2.1
          rw [hy] at hsend
          have b2 := HS.out.2.2.2.1.trans (hb2.mono z1)
          have H2 := Lib.hid (And.intro hsend (And.intro hw2 b2))
          rw [hy]
          clear hsend hw2 hby hby2 hb2 b2
          go_wp2_with fail
          refine H2.out.1.mono ?_
          rintro e w3 ⟨rfl, hB, hO⟩
          have hz2 := H2.out.2.2.size
          have hz3 := hO.size
          have hB' : BagAt w3 (Gr U w w3) g (sendB b ⟨f, t, bs⟩) := hB.mono (fun i hi => by
            rcases hi with (h1 | h1) | h1
            · exact .inl h1
            · exact .inr ⟨h1.1, by omega⟩
            · exact .inr ⟨by omega, h1.2⟩) (fun i hi => hi.elim (fun h2 => hB.lt i (.inl (.inl h2))) fun h2 => h2.2)
          have hO' : Out U w w3 := ⟨hO.os.trans H2.out.2.2.os, hO.tape.trans H2.out.2.2.tape, hO.output.trans H2.out.2.2.output, by omega, fun i hi hn => (hO.block i (by omega) fun e => e.elim hn fun e => by omega).trans (H2.out.2.2.block i hi)⟩
          have H3 := Lib.hid (And.intro hB' hO')
          clear hB hO hB' hO'
          go_wp2
          go_ret
          exact ⟨rfl, H3.out⟩
theorem lacks_h (h : BagIn w U g b A cap hs K) (i E : Int) (hE : lackE b i = E) : Hid (∀ W, Below w.heap.size w W → Calls Try.prog 47 #[.pointer (some ⟨g, 0, none⟩), .int .i64 i] W fun e w' => e = .returned (.int .i64 E) ∧ w' = W) :=
  Lib.hid fun W hb => lacks_in (h.below hb) i E hE
theorem atB_hs (h : BagIn w U g b A cap hs K) {i : Nat} (hi : i < hs.length) : atB b (i : Int) = hs[i].x := by
  have hl := h.len
  unfold atB
  rw [show ((i : Int)).toNat = i by omega, List.getElem?_eq_getElem (by omega)]
  simp [← h.xs]
set_option maxRecDepth 100000 in
set_option maxHeartbeats 1600000 in
theorem look_any (h : BagAt w U g b) (i : Int) : Calls Try.prog 18 #[.pointer (some ⟨g, 0, none⟩), .int .i64 i] w (Took w U g (lookB b i) (lackE b i) b) := by
  obtain ⟨A, cap, hs, K, h⟩ := h
  obtain ⟨w1, hw1⟩ : ∃ w1, w.alloc (.cells #[.int .i64 0, .int .i64 0, .slice none 0 0] 29) = w1 := ⟨_, rfl⟩
  have b1 : Below w.heap.size w w1 := by rw [← hw1]; exact (Below.refl _ _).alloc (Nat.le_refl _) _
  have B1 : Blk w1 w.heap.size 29 [.int .i64 0, .int .i64 0, .slice none 0 0] := by rw [← hw1]; exact Blk.new rfl rfl
  have z1 := b1.size
  have h1 := h.below b1
  rcases lack_wf b i with hE | hE
  · have hel : lookB b i = atB b i := by unfold lookB; rw [if_pos hE]
    rw [hel, hE]
    obtain ⟨n, rfl, hn⟩ := lack0 hE
    have hnl : n < hs.length := by have := h.len; omega
    have hat := atB_hs h hnl
    obtain ⟨r, rfl, hr, c0, c1, c2⟩ := h1.at_ hnl
    have g1 := h1.blk.cell (i := 1) rfl
    have i0 : (0 : Int) ≤ (n : Int) := by omega
    obtain ⟨m, hm⟩ : ∃ m, b.l.length = m := ⟨_, rfl⟩
    rw [hm] at g1
    have i1 : (n : Int) < m := by omega
    have HL := lacks_h h n 0 hE
    have hmem := h1.bys _ (List.getElem_mem hnl)
    have hok := (h.ok.2.2.2 (hs[n].x) (by rw [← h.xs]; exact List.mem_map_of_mem (List.getElem_mem hnl))).2.2
    obtain ⟨y, hy⟩ : ∃ y, hs[n] = y := ⟨_, rfl⟩
    rw [hy] at c0 c1 c2 hmem hok hat
    rw [hat]
    have hyn : y.n ≤ 65536 := by rw [← hmem.1]; exact hok
    have HU := Lib.hid h.lt
    have HS := Lib.hid (And.intro h1 (And.intro B1 (And.intro b1 (And.intro hmem hyn))))
    clear h h1 B1 hm hE hel hmem hok hy hat
    go_enter Try.func18, Try.ntmps18
    go_wp2_with fail
    refine (HL.out w1 b1).mono ?_; rintro e w1 ⟨rfl, rfl⟩
    go_wp2_with fail
    refine (copyOf_any _ y HS.out.2.2.2.1 (by have := HS.out.2.2.2.2; omega)).mono ?_
    rintro e w2 ⟨z, hz, rfl, hby, hb2⟩
    have B2 := HS.out.2.1.below hb2 HS.out.2.1.lt
    have e0 := B2.cell (i := 0) rfl
    have e1 := B2.cell (i := 1) rfl
    have e2 := B2.cell (i := 2) rfl
    have f0 := B2.free 0
    have f1 := B2.free 1
    have f2 := B2.free 2
    have H2 := Lib.hid (And.intro B2 (And.intro hby (And.intro hb2 hz)))
    clear B2 hby hb2 hz
    go_wp2
    obtain ⟨q1, q2⟩ := three (K := K) (.int .i64 z.x.fr) (.int .i64 z.x.to) (.slice z.a z.n z.c) H2.out.1
    refine bodyPost_ret (results_row_tmp rfl _ _ w.heap.size 29 _ _ _ rfl rfl q1 Try.underlying29 rfl env_size) rfl ?_
    have hz1 := HS.out.2.1.lt
    have hz2 := H2.out.2.2.1.size
    have hz3 := q2.size
    have hU := HU.out
    exact ⟨z, w1.heap.size, H2.out.2.2.2, rfl, z1, by omega, (((HS.out.1.below H2.out.2.2.1).out q2 fun i hi e => by have := hU i hi; omega) |> fun k => BagAt.grn ⟨_, _, _, _, k⟩ (by omega)), outs HS.out.2.2.1 H2.out.2.2.1 q2, H2.out.2.1.out q2 fun i hi e => by omega⟩
  · have hel : lookB b i = zE := by unfold lookB; rw [if_neg (by rw [hE]; decide)]
    rw [hel, hE]
    have HL := lacks_h h i 9 hE
    have HU := Lib.hid h.lt
    have HS := Lib.hid (And.intro h1 (And.intro B1 b1))
    have e0 := B1.cell (i := 0) rfl
    have e1 := B1.cell (i := 1) rfl
    have e2 := B1.cell (i := 2) rfl
    have f0 := B1.free 0
    have f1 := B1.free 1
    have f2 := B1.free 2
    clear h h1 B1 hE hel
    go_enter Try.func18, Try.ntmps18
    go_wp2_with fail
    refine (HL.out w1 b1).mono ?_; rintro e w1 ⟨rfl, rfl⟩
    go_wp2
    obtain ⟨q1, q2⟩ := three (K := K) (.int .i64 0) (.int .i64 0) (.slice none 0 0) HS.out.2.1
    refine bodyPost_ret (results_row_tmp rfl _ _ w.heap.size 29 _ _ _ rfl rfl q1 Try.underlying29 rfl env_size) rfl ?_
    have hz1 := HS.out.2.1.lt
    have hz3 := q2.size
    exact ⟨⟨zE, none, 0, 0⟩, w1.heap.size, rfl, rfl, z1, by omega, ((HS.out.1.out q2 fun i hi e => by have := HU.out i hi; omega) |> fun k => BagAt.grn ⟨_, _, _, _, k⟩ (by omega)), outs HS.out.2.2 (Below.refl _ _) q2, ByP.zero _ _⟩
end
end Go.Proofs.Ytlecihbclkohjaa
