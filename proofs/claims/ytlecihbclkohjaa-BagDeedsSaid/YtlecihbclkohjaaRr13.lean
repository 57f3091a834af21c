/-
  The document's Take, Drop and Double over the code.
-/
import Derived.Test.YtlecihbclkohjaaRq13
namespace Go.Proofs.Ytlecihbclkohjaa
open Go.RowKit Go.Maps
set_option linter.unusedVariables false
set_option linter.unusedSimpArgs false

def wantH (hs : List EnH) (a q : Nat) : List EnH := (hs.take q).eraseIdx a
theorem wantH_skip {l : List EnH} {a : Nat} (h : a < l.length) : wantH l a (a + 1) = wantH l a a := by
  unfold wantH
  rw [List.take_succ_eq_append_getElem h, List.eraseIdx_append_of_length_le (by rw [List.length_take]; omega), List.length_take, Nat.min_eq_left (by omega), Nat.sub_self]
  rw [List.eraseIdx_of_length_le (l := l.take a) (by rw [List.length_take]; omega)]
  simp
theorem wantH_more {l : List EnH} {a q : Nat} (h : q < l.length) (hne : q ≠ a) : wantH l a (q + 1) = wantH l a q ++ [l[q]] := by
  unfold wantH
  rw [List.take_succ_eq_append_getElem h]
  by_cases hlt : a < q
  · rw [List.eraseIdx_append_of_lt_length (by rw [List.length_take]; omega)]
  · rw [List.eraseIdx_of_length_le (l := l.take q ++ [l[q]]) (by rw [List.length_append, List.length_take]; simp; omega), List.eraseIdx_of_length_le (l := l.take q) (by rw [List.length_take]; omega)]
theorem wantH_all (l : List EnH) (a : Nat) : wantH l a l.length = l.eraseIdx a := by
  unfold wantH
  rw [List.take_length]
theorem wantH_len {l : List EnH} {a q : Nat} : (wantH l a q).length ≤ q := by
  unfold wantH
  exact Nat.le_trans (List.length_eraseIdx_le _ _) (by rw [List.length_take]; omega)
/-- A note that is answered, and what becomes of the document's bag. -/
def RTook (w : World) (U : Nat → Prop) (g : Nat) (x : En) (E : Int) (b' : Bg) (e : Ending) (w' : World) : Prop :=
  ∃ (h : EnH) (N : Nat → Prop), h.x = x ∧ e = .returned (.tuple #[.agg #[.int .i64 h.x.fr, .int .i64 h.x.to, .slice h.a h.n h.c], .int .i64 E]) ∧ RbAt w' (fun i => U i ∨ (w.heap.size ≤ i ∧ i < w'.heap.size ∧ ¬ N i)) g b' ∧ Out U w w' ∧ ByP w' N h ∧ ∀ i, N i → w.heap.size ≤ i ∧ i < w'.heap.size
section
variable {w w' : World} {U : Nat → Prop} {g : Nat} {b : Bg} {A : Option Addr} {cap : Nat} {hs : List EnH} {K : Nat → Prop}
set_option maxRecDepth 100000 in
set_option maxHeartbeats 3200000 in
theorem rtake_any (h : RbAt w U g b) (i : Int) : Calls Try.prog 21 #[.pointer (some ⟨g, 0, none⟩), .int .i64 i] w (RTook w U g (lookB b i) (lackE b i) (takeB b i)) := by
  have h0 := h
  obtain ⟨A, cap, hs, K, h⟩ := h
  obtain ⟨w1, hw1⟩ : ∃ w1, w.alloc (.cells #[.int .i64 0, .int .i64 0, .slice none 0 0] 29) = w1 := ⟨_, rfl⟩
  have b1 : Below w.heap.size w w1 := by rw [← hw1]; exact (Below.refl _ _).alloc (Nat.le_refl _) _
  have B1 : Blk w1 w.heap.size 29 [.int .i64 0, .int .i64 0, .slice none 0 0] := by rw [← hw1]; exact Blk.new rfl rfl
  have z1 : w1.heap.size = w.heap.size + 1 := by rw [← hw1]; simp
  have h1 := h.below b1
  obtain ⟨y, hy⟩ : ∃ y, lookB b i = y := ⟨_, rfl⟩
  have hlk := rlook_any ⟨_, _, _, _, h1⟩ i
  rw [hy] at hlk ⊢
  obtain ⟨E, hE⟩ : ∃ E, lackE b i = E := ⟨_, rfl⟩
  rw [hE] at hlk ⊢
  have HS := Lib.hid (And.intro h1 (And.intro B1 (And.intro b1 (And.intro hlk (And.intro hy (And.intro hE h))))))
  clear h0 h h1 B1 b1 hlk hy hE
  go_enter Try.func21, Try.ntmps21
  go_wp2_with fail
  refine HS.out.2.2.2.1.mono ?_
  rintro e w2 ⟨⟨zx, za, zn, zc⟩, hz, rfl, hby, hb2⟩
  obtain rfl : zx = y := hz
  obtain ⟨w3, hw3⟩ : ∃ w3, w2.alloc (.cells #[.int .i64 zx.fr, .int .i64 zx.to, .slice za zn zc] 29) = w3 := ⟨_, rfl⟩
  have b3 : Below w2.heap.size w2 w3 := by rw [← hw3]; exact (Below.refl _ _).alloc (Nat.le_refl _) _
  have B3 : Blk w3 w2.heap.size 29 [.int .i64 zx.fr, .int .i64 zx.to, .slice za zn zc] := by rw [← hw3]; exact Blk.new rfl rfl
  have z3 : w3.heap.size = w2.heap.size + 1 := by rw [← hw3]; simp
  have z2 := hb2.size
  have b13 : Below w1.heap.size w1 w3 := hb2.trans (b3.mono z2)
  have R3 := HS.out.2.1.below b13 HS.out.2.1.lt
  have h3 := HS.out.1.below b13
  have hby3 : ByP w3 (fun i => w1.heap.size ≤ i ∧ i < w2.heap.size) ⟨zx, za, zn, zc⟩ := (show ByP w2 (fun i => w1.heap.size ≤ i ∧ i < w2.heap.size) ⟨zx, za, zn, zc⟩ from ⟨hby.1, hby.2.1, hby.2.2.1, hby.2.2.2.1, hby.2.2.2.2.1, fun hn => let ⟨b', off, e, h1, h2, h3⟩ := hby.2.2.2.2.2 hn; ⟨b', off, e, ⟨h1, h2⟩, h2, h3⟩⟩).below b3 (fun i hi => hi.2) (Nat.le_refl _)
  have H3 := Lib.hid (And.intro h3 (And.intro R3 (And.intro B3 (And.intro hby3 (And.intro b13 (HS.out.2.2.1.trans (b13.mono (by omega))))))))
  have e0 := R3.cell (i := 0) rfl
  have e1 := R3.cell (i := 1) rfl
  have e2 := R3.cell (i := 2) rfl
  have f0 := R3.free 0
  have f1 := R3.free 1
  have f2 := R3.free 2
  clear h3 R3 B3 hby3 b13 b3 hby hb2
  by_cases hE0 : E = 0
  · subst hE0
    obtain ⟨n, rfl, hn⟩ := lack0 HS.out.2.2.2.2.2.1
    have htk : takeB b (n : Int) = offB b n := by unfold takeB; rw [if_pos HS.out.2.2.2.2.2.1, show ((n : Int)).toNat = n by omega]
    have Htk := Lib.hid htk
    clear htk
    have g1 := H3.out.1.blk.cell (i := 0) rfl
    have hnl : n < hs.length := by have := H3.out.1.len; omega
    obtain ⟨m, hm⟩ : ∃ m, b.l.length = m := ⟨_, rfl⟩
    rw [hm] at g1
    have hm4 : m ≤ 4096 := by rw [← hm]; exact H3.out.1.ok.1
    have Hm := Lib.hid hm
    have hnm : n < m := by omega
    clear hm e0 e1 e2 f0 f1 f2 hn
    go_wp2
    go_loopw [9, 8] (fun i p wr => ∃ (q : Nat) (A' : Option Addr) (n' c' : Nat), q ≤ m ∧ i = .int .i64 q ∧ p = .slice A' n' c' ∧ (wantH hs n q).length = n' ∧ RowK wr 29 3 A' n' c' (encs (wantH hs n q)) ∧ (∀ j, blkOf A' j → w3.heap.size ≤ j) ∧ Below w3.heap.size w3 wr) (fun i _ _ => m - (intOf i).toNat)
    case atStart => exact ⟨0, none, 0, 0, by omega, rfl, rfl, by simp [wantH], by rw [show wantH hs n 0 = [] by simp [wantH]]; exact RowK.nil _ _ _, (fun j hj => absurd hj fun ⟨a, ha, _⟩ => by cases ha), Below.refl _ _⟩
    case round =>
      obtain ⟨q, A', n', c', hq, rfl, rfl, hwl, hrow, hAb, hB⟩ := hrel
      have q0 : (0 : Int) ≤ q := by omega
      have hr := H3.out.1.below hB
      have gq := hr.blk.cell (i := 0) rfl
      rw [Hm.out] at gq
      have hn4 : n' ≤ 4096 := by have := wantH_len (l := hs) (a := n) (q := q); omega
      by_cases hlq : q < m
      · have q1 : (q : Int) < m := by omega
        have hql : q < hs.length := by rw [hr.len, Hm.out]; exact hlq
        by_cases hqn : q = n
        · subst hqn
          have HQ := Lib.hid (And.intro hwl (And.intro hrow (And.intro hAb hB)))
          clear hwl hrow hAb hB hr
          go_wp2
          go_roundw
          case rel => exact ⟨q + 1, A', n', c', by omega, by go_num, rfl, by rw [wantH_skip hnl]; exact HQ.out.1, by rw [wantH_skip hnl]; exact HQ.out.2.1, HQ.out.2.2.1, HQ.out.2.2.2⟩
          case measure => simp [intOf]; omega
        · have hq2 : ((q : Int) != (n : Int)) = true := by simp; omega
          have hq3 : ((q : Int) == (n : Int)) = false := by simp; omega
          obtain ⟨r, rfl, hrr, c0, c1, c2⟩ := hr.at_ hql
          have hwm := wantH_more (a := n) hql hqn
          obtain ⟨v, hv⟩ : ∃ v, hs[q] = v := ⟨_, rfl⟩
          rw [hv] at c0 c1 c2 hwm
          obtain ⟨w4, hw4⟩ : ∃ w4, wr.alloc (.cells #[.int .i64 v.x.fr, .int .i64 v.x.to, .slice v.a v.n v.c] 29) = w4 := ⟨_, rfl⟩
          have b4 : Below wr.heap.size wr w4 := by rw [← hw4]; exact (Below.refl _ _).alloc (Nat.le_refl _) _
          have B4 : Blk w4 wr.heap.size 29 (enc v) := by rw [← hw4]; exact Blk.new rfl rfl
          have hrow4 := hrow.below b4 hrow.lt
          obtain ⟨A2, c2', w5, hap, hR, hO, hA2, _⟩ := run_appendE w4 45 hrow4 ⟨wr.heap.size, 0, none⟩ 1 1 (enc v) rfl (fun j u hu => by rw [add_mk, Nat.zero_add]; exact B4.cell hu) (fun u hu => enc_cell [v] u (by rw [encs_one]; exact hu)) (by omega)
          have zB := hB.size
          have z4 := b4.size
          have hB5 : Below w3.heap.size w3 w5 := (hB.trans (b4.mono zB)).trans (hO.above (fun j hj => hAb j hj) (by omega))
          have hA5 : ∀ j, blkOf A2 j → w3.heap.size ≤ j := fun j hj => (hA2 j hj).elim (hAb j) fun e => by omega
          have hR5 : RowK w5 29 3 A2 (n' + 1) c2' (encs (wantH hs n (q + 1))) := by rw [hwm, encs_append, encs_one]; exact hR
          have hl5 : (wantH hs n (q + 1)).length = n' + 1 := by rw [hwm, List.length_append, hwl]; rfl
          have HQ := Lib.hid (And.intro hap (And.intro hl5 (And.intro hR5 (And.intro hA5 hB5))))
          clear hwl hrow hAb hB hr hap hl5 hR5 hA5 hB5 hR hO hA2 hrow4 B4 b4 hwm hv
          go_wp2_with (refine wpList_app rfl _ _ _ _ rfl _ _ _ _ rfl rfl HQ.out.1 ?_)
          go_roundw
          case rel => exact ⟨q + 1, A2, n' + 1, c2', by omega, by go_num, rfl, HQ.out.2.1, HQ.out.2.2.1, HQ.out.2.2.2.1, HQ.out.2.2.2.2⟩
          case measure => simp [intOf]; omega
      · have hqe : q = m := by omega
        have q1 : ¬ (q : Int) < m := by omega
        have hwa : wantH hs n q = hs.eraseIdx n := by rw [hqe, ← Hm.out, ← H3.out.1.len]; exact wantH_all _ _
        rw [hwa] at hwl hrow
        have G4 := hr.blk
        have R4 := H3.out.2.1.below hB H3.out.2.1.lt
        have B4 := H3.out.2.2.1.below hB H3.out.2.2.1.lt
        have hgl := HS.out.2.2.2.2.2.2.lt g HS.out.2.2.2.2.2.2.ug
        obtain ⟨w6, hw6⟩ : ∃ w6, wr.setCell ⟨g, 0, none⟩ (.slice A' n' c') = w6 := ⟨_, rfl⟩
        have o6 : Out (fun i => i = g) wr w6 := by rw [← hw6]; exact out_set wr g 0 _
        have G6 : Blk w6 g 63 [.slice A' n' c', .int .i64 (b.sent : Int), .int .i64 (b.lost : Int)] := by rw [← hw6]; exact G4.set_ 0 _
        have R6 := o6.blk R4 (fun e => by omega)
        have B6 := o6.blk B4 (fun e => by omega)
        have gf := G4.free 0
        have e0 := R6.cell (i := 0) rfl
        have e1 := R6.cell (i := 1) rfl
        have e2 := R6.cell (i := 2) rfl
        have f0 := R6.free 0
        have f1 := R6.free 1
        have f2 := R6.free 2
        have d0 := B6.cell (i := 0) rfl
        have d1 := B6.cell (i := 1) rfl
        have d2 := B6.cell (i := 2) rfl
        have HQ := Lib.hid (And.intro hwl (And.intro hrow (And.intro hAb (And.intro hB (And.intro o6 (And.intro G6 (And.intro R6 hr)))))))
        clear hwl hrow hAb hB hr o6 G6 R6 B6 G4 R4 B4 hwa
        go_wp2
        obtain ⟨p1, p2⟩ := three (K := K) (.int .i64 zx.fr) (.int .i64 zx.to) (.slice za zn zc) HQ.out.2.2.2.2.2.2.1
        refine bodyPost_ret (results_row_tmp rfl _ _ w.heap.size 29 _ _ _ rfl rfl p1 Try.underlying29 rfl env_size) rfl ?_
        obtain ⟨w7, hw7⟩ : ∃ w7, ((w6.setCell ⟨w.heap.size, 0, none⟩ (.int .i64 zx.fr)).setCell ⟨w.heap.size, 1, none⟩ (.int .i64 zx.to)).setCell ⟨w.heap.size, 2, none⟩ (.slice za zn zc) = w7 := ⟨_, rfl⟩
        rw [hw7] at p1 p2 ⊢
        have hU := HS.out.2.2.2.2.2.2.lt
        have hK := HS.out.2.2.2.2.2.2.ku
        have zr := HQ.out.2.2.2.1.size
        have z6 := HQ.out.2.2.2.2.1.size
        have z7 := p2.size
        have o67 : Out (fun i => i = g ∨ i = w.heap.size) wr w7 := ⟨p2.os.trans HQ.out.2.2.2.2.1.os, p2.tape.trans HQ.out.2.2.2.2.1.tape, p2.output.trans HQ.out.2.2.2.2.1.output, by omega, fun j hj hn => (p2.block j (by omega) fun e => hn (.inr e)).trans (HQ.out.2.2.2.2.1.block j hj fun e => hn (.inl e))⟩
        have hgU := HS.out.2.2.2.2.2.2.ug
        have hkg := HS.out.2.2.2.2.2.2.kg
        have hgl := hU g hgU
        have hel : (offB b n).l.length = n' := by
          show (b.l.eraseIdx n).length = n'
          rw [← HQ.out.1, List.length_eraseIdx, List.length_eraseIdx, HQ.out.2.2.2.2.2.2.2.len]
        have bw := H3.out.2.2.2.2.2.trans (HQ.out.2.2.2.1.mono H3.out.2.2.2.2.2.size)
        have zw := bw.size
        rw [Htk.out]
        refine ⟨⟨zx, za, zn, zc⟩, fun i => w1.heap.size ≤ i ∧ i < w2.heap.size, rfl, rfl, ⟨A', c', hs.eraseIdx n, K, by rw [hel]; exact p2.blk HQ.out.2.2.2.2.2.1 (fun e => by omega), ?_, ?_, fun e he => (HQ.out.2.2.2.2.2.2.2.bys e (List.mem_of_mem_eraseIdx he)).out o67 (fun j hj e2 => ?_), ?_, hkg, fun j hj => .inl (hK j hj), .inl hgU, ?_, offB_ok HS.out.2.2.2.2.2.2.ok⟩, ?_, ?_, fun j hj => by omega⟩
        · show _ = b.l.eraseIdx n
          rw [← H3.out.1.xs, List.eraseIdx_eq_take_drop_succ, List.eraseIdx_eq_take_drop_succ, List.map_append, List.map_take, List.map_drop]
        · rw [hel]
          exact HQ.out.2.1.out o67 fun j hj e2 => by have := HQ.out.2.2.1 j hj; omega
        · rcases e2 with e2 | e2
          · exact hkg (e2 ▸ hj)
          · have := hU j (hK j hj); omega
        · intro j hj
          have h5 := HQ.out.2.2.1 j hj
          have h6 := HQ.out.2.1.lt j hj
          exact ⟨.inr ⟨by omega, by omega, by omega⟩, by omega, fun e => by have := hU j (hK j e); omega⟩
        · intro j hj
          rcases hj with h5 | h5
          · have := hU j h5; omega
          · exact h5.2.1
        · exact ⟨o67.os.trans bw.os, o67.tape.trans bw.tape, o67.output.trans bw.output, by omega, fun j hj hn => (o67.block j (by omega) fun e => e.elim (fun e => hn (e ▸ hgU)) fun e => by omega).trans (bw.block j hj)⟩
        · exact (H3.out.2.2.2.1.below HQ.out.2.2.2.1 (fun j hj => by omega) (Nat.le_refl _)).out o67 fun j hj e => by omega
  · have hE9 : E = 9 := by
      have := lack_wf b i
      rw [HS.out.2.2.2.2.2.1] at this
      exact this.resolve_left hE0
    subst hE9
    have htk : takeB b i = b := by unfold takeB; rw [HS.out.2.2.2.2.2.1]; rfl
    have hyz : zx = zE := by rw [← HS.out.2.2.2.2.1]; unfold lookB; rw [HS.out.2.2.2.2.2.1]; rfl
    have Htk := Lib.hid (And.intro htk hyz)
    clear htk hyz
    have hU := HS.out.2.2.2.2.2.2.lt
    go_wp2
    obtain ⟨p1, p2⟩ := three (K := K) (.int .i64 0) (.int .i64 0) (.slice none 0 0) H3.out.2.1
    refine bodyPost_ret (results_row_tmp rfl _ _ w.heap.size 29 _ _ _ rfl rfl p1 Try.underlying29 rfl env_size) rfl ?_
    have bw := H3.out.2.2.2.2.2
    have zw := bw.size
    have z7 := p2.size
    have k7 := H3.out.1.out p2 fun j hj e => by have := hU j hj; omega
    rw [Htk.out.1, Htk.out.2]
    exact ⟨⟨zE, none, 0, 0⟩, fun _ => False, rfl, rfl, RbAt.mono ⟨_, _, _, _, k7⟩ (fun j hj => .inl hj) (fun j hj => hj.elim (fun h => by have := hU j h; omega) fun h => h.2.1), ⟨p2.os.trans bw.os, p2.tape.trans bw.tape, p2.output.trans bw.output, by omega, fun j hj hn => (p2.block j (by omega) (by omega)).trans (bw.block j hj)⟩, ByP.zero _ _, fun j hj => hj.elim⟩
set_option maxRecDepth 100000 in
set_option maxHeartbeats 1600000 in
theorem rdrop_any (h : RbAt w U g b) (i : Int) (hlo : b.lost < 1000000) : Calls Try.prog 23 #[.pointer (some ⟨g, 0, none⟩), .int .i64 i] w fun e w' => e = .returned (.int .i64 (lackE b i)) ∧ RbAt w' (Gr U w w') g (dropB b i) ∧ Out U w w' := by
  obtain ⟨y, hy⟩ : ∃ y, lookB b i = y := ⟨_, rfl⟩
  obtain ⟨b1, hb1⟩ : ∃ b1, takeB b i = b1 := ⟨_, rfl⟩
  have htk := rtake_any h i
  rw [hy, hb1] at htk
  have hUl := h.lt
  obtain ⟨E, hE⟩ : ∃ E, lackE b i = E := ⟨_, rfl⟩
  rw [hE] at htk ⊢
  have HS := Lib.hid (And.intro htk (And.intro hb1 (And.intro hE hlo)))
  clear h htk hb1 hE hlo hy
  go_enter Try.func23, Try.ntmps23
  go_wp2_with fail
  refine HS.out.1.mono ?_
  rintro e w2 ⟨⟨zx, za, zn, zc⟩, N, hz, rfl, hR, hO, hby, hN⟩
  obtain rfl : zx = y := hz
  obtain ⟨w3, hw3⟩ : ∃ w3, w2.alloc (.cells #[.int .i64 zx.fr, .int .i64 zx.to, .slice za zn zc] 29) = w3 := ⟨_, rfl⟩
  have b3 : Below w2.heap.size w2 w3 := by rw [← hw3]; exact (Below.refl _ _).alloc (Nat.le_refl _) _
  have z3 := b3.size
  have zo := hO.size
  have R3 := (hR.below b3).mono (U' := Gr U w w3) (fun j hj => hj.imp_right fun h => ⟨h.1, by omega⟩) (fun j hj => hj.elim (fun h => by have := hUl j h; omega) fun h => h.2)
  obtain ⟨A, cap, hs, K, h3⟩ := R3
  have O3 : Out U w w3 := hO.then_below b3
  have c2 := h3.blk.cell (i := 2) rfl
  have f2 := h3.blk.free 2
  have H3 := Lib.hid (And.intro h3 O3)
  clear h3 O3 hR hO hby hN b3
  by_cases hE0 : E = 0
  · subst hE0
    have hl1 : b1.lost = b.lost := by rw [← HS.out.2.1]; unfold takeB; rw [if_pos HS.out.2.2.1]; rfl
    have hdr : dropB b i = ⟨b1.l, b1.sent, b1.lost + 1⟩ := by
      rw [← HS.out.2.1]
      unfold dropB takeB
      rw [if_pos HS.out.2.2.1, if_pos HS.out.2.2.1]
      rfl
    have Hdr := Lib.hid hdr
    have hwi : IntKind.i64.wrap ((b1.lost : Int) + 1) = ((b1.lost + 1 : Nat) : Int) := by rw [IntWalk.i64_in _ (by have := HS.out.2.2.2; omega)]; omega
    obtain ⟨sv, hsv⟩ : ∃ sv : Int, ((b1.lost + 1 : Nat) : Int) = sv := ⟨_, rfl⟩
    obtain ⟨w4, hw4⟩ : ∃ w4, w3.setCell ⟨g, 2, none⟩ (.int .i64 sv) = w4 := ⟨_, rfl⟩
    have o4 : Out (fun j => j = g) w3 w4 := by rw [← hw4]; exact out_set w3 g 2 _
    have z4 : w4.heap.size = w3.heap.size := by rw [← hw4]; simp [World.setCell]
    have G4 : Blk w4 g 63 [.slice A b1.l.length cap, .int .i64 (b1.sent : Int), .int .i64 ((b1.lost + 1 : Nat) : Int)] := by rw [← hw4, hsv]; exact H3.out.1.blk.set_ 2 _
    rw [hsv] at hwi
    have HQ := Lib.hid (And.intro o4 (And.intro G4 (And.intro z4 hl1)))
    clear o4 G4 z4 hsv hl1 hdr
    go_wp2
    go_ret
    have h1 := H3.out.1
    rw [Hdr.out]
    refine ⟨rfl, ⟨A, cap, hs, K, HQ.out.2.1, h1.xs, h1.row.out HQ.out.1 fun j hj => (h1.rg j hj).2.1, fun e he => (h1.bys e he).out HQ.out.1 fun j hj e => h1.kg (e ▸ hj), fun j hj => ⟨?_, (h1.rg j hj).2⟩, h1.kg, fun j hj => ?_, ?_, fun j hj => ?_, ?_⟩, H3.out.2.trans HQ.out.1 fun j hj e => ?_⟩
    · have := (h1.rg j hj).1; unfold Gr at this ⊢; rw [HQ.out.2.2.1]; exact this
    · have := h1.ku j hj; unfold Gr at this ⊢; rw [HQ.out.2.2.1]; exact this
    · have := h1.ug; unfold Gr at this ⊢; rw [HQ.out.2.2.1]; exact this
    · rw [HQ.out.2.2.1]; refine h1.lt j ?_; unfold Gr at hj ⊢; rw [HQ.out.2.2.1] at hj; exact hj
    · obtain ⟨k1, k2, k3, k4⟩ := h1.ok
      exact ⟨k1, k2, by have := HS.out.2.2.2; have := HQ.out.2.2.2; show b1.lost + 1 ≤ _; omega, k4⟩
    · subst e
      rcases h1.ug with h | h
      · exact h
      · omega
  · have hd : dropB b i = b1 := by
      rw [← HS.out.2.1]
      unfold dropB takeB
      rw [if_neg (by rw [HS.out.2.2.1]; exact hE0), if_neg (by rw [HS.out.2.2.1]; exact hE0)]
    have Hd := Lib.hid hd
    have he0 : (E == 0) = false := by simp [hE0]
    have he1 : (E != 0) = true := by simp [hE0]
    clear hd
    go_wp2
    go_ret
    rw [Hd.out]
    exact ⟨rfl, ⟨A, cap, hs, K, H3.out.1⟩, H3.out.2⟩
theorem dbl_put {i : Int} (hok : b.ok) (hE : lackE b i = 0) : putE b (atB b i) = dblE b i ∧ putB b (atB b i) = dblB b i := by
  have hp : putE b (atB b i) = dblE b i := by
    have hm : atB b i ∈ b.l := by
      obtain ⟨n, rfl, hn⟩ := lack0 hE
      unfold atB
      rw [show ((n : Int)).toNat = n by omega, List.getElem?_eq_getElem hn]
      exact List.getElem_mem hn
    obtain ⟨h1, h2, h3⟩ := hok.2.2.2 _ hm
    unfold putE dblE
    rw [if_pos hE, h1, h2, if_neg (by decide), if_neg (by decide), if_neg (by omega)]
  refine ⟨hp, ?_⟩
  unfold putB dblB
  rw [hp]
set_option maxRecDepth 100000 in
set_option maxHeartbeats 1600000 in
theorem rdbl_any (h : RbAt w U g b) (i : Int) (hse : b.sent < 1000000) : Calls Try.prog 25 #[.pointer (some ⟨g, 0, none⟩), .int .i64 i] w fun e w' => e = .returned (.int .i64 (dblE b i)) ∧ RbAt w' (Gr U w w') g (dblB b i) ∧ Out U w w' := by
  obtain ⟨y, hy⟩ : ∃ y, lookB b i = y := ⟨_, rfl⟩
  have hlk := rlook_any h i
  rw [hy] at hlk
  obtain ⟨E, hE⟩ : ∃ E, lackE b i = E := ⟨_, rfl⟩
  rw [hE] at hlk
  have hUl := h.lt
  have hok := h.ok
  have HS := Lib.hid (And.intro hlk (And.intro h (And.intro hE (And.intro hse (And.intro hok hy)))))
  clear h hlk hE hse hy
  go_enter Try.func25, Try.ntmps25
  go_wp2_with fail
  refine HS.out.1.mono ?_
  rintro e w2 ⟨⟨zx, za, zn, zc⟩, hz, rfl, hby, hb2⟩
  obtain rfl : zx = y := hz
  obtain ⟨w3, hw3⟩ : ∃ w3, w2.alloc (.cells #[.int .i64 zx.fr, .int .i64 zx.to, .slice za zn zc] 29) = w3 := ⟨_, rfl⟩
  have b3 : Below w2.heap.size w2 w3 := by rw [← hw3]; exact (Below.refl _ _).alloc (Nat.le_refl _) _
  have B3 : Blk w3 w2.heap.size 29 [.int .i64 zx.fr, .int .i64 zx.to, .slice za zn zc] := by rw [← hw3]; exact Blk.new rfl rfl
  have z2 := hb2.size
  have z3 := b3.size
  have b13 : Below w.heap.size w w3 := hb2.trans (b3.mono z2)
  have h3 := HS.out.2.1.below b13
  have d0 := B3.cell (i := 0) rfl
  have d1 := B3.cell (i := 1) rfl
  have d2 := B3.cell (i := 2) rfl
  by_cases hE0 : E = 0
  · subst hE0
    have hxa : zx = atB b i := by rw [← HS.out.2.2.2.2.2]; unfold lookB; rw [if_pos HS.out.2.2.1]
    have hdp := dbl_put HS.out.2.2.2.2.1 HS.out.2.2.1
    rw [← hxa] at hdp
    have hzn : zn ≤ 140737488355328 := by
      have e1 : zx.bs.length = zn := hby.1
      have hm : zx ∈ b.l := by
        obtain ⟨n, rfl, hn⟩ := lack0 HS.out.2.2.1
        rw [hxa]; unfold atB
        rw [show ((n : Int)).toNat = n by omega, List.getElem?_eq_getElem hn]
        exact List.getElem_mem hn
      have := (hok.2.2.2 _ hm).2.2
      omega
    have hby3 := (show ByP w2 (fun i => i < w2.heap.size) ⟨zx, za, zn, zc⟩ from ⟨hby.1, hby.2.1, hby.2.2.1, hby.2.2.2.1, hby.2.2.2.2.1, fun hn => let ⟨b', off, e, h1, h2, h3⟩ := hby.2.2.2.2.2 hn; ⟨b', off, e, h2, h2, h3⟩⟩).below b3 (fun i hi => hi) (Nat.le_refl _)
    have hput := rput_any h3 ⟨zx, za, zn, zc⟩ hby3 HS.out.2.2.2.1 hzn
    dsimp only at hput
    rw [hdp.1, hdp.2] at hput
    have H3 := Lib.hid (And.intro hput b13)
    clear hput hby3 hby hb2 b3 b13 h3 hdp hxa B3 hok
    go_wp2_with fail
    refine H3.out.1.mono ?_
    rintro e w4 ⟨rfl, hR, hO⟩
    have z4 := hO.size
    have z13 := H3.out.2.size
    have H4 := Lib.hid (And.intro (hR.mono (U' := Gr U w w4) (fun j hj => hj.imp_right fun h => ⟨by omega, h.2⟩) (fun j hj => hj.elim (fun h => by have := hUl j h; omega) fun h => h.2)) ((Out.ofBelow U H3.out.2).trans hO fun _ _ h => h))
    clear hR hO
    go_wp2
    go_ret
    exact ⟨rfl, H4.out⟩
  · have hd : dblE b i = E := by unfold dblE; rw [if_neg (by rw [HS.out.2.2.1]; exact hE0)]; exact HS.out.2.2.1
    have hd2 : dblB b i = b := by unfold dblB; rw [if_neg (by rw [hd]; exact hE0)]
    have Hd := Lib.hid (And.intro hd hd2)
    have he0 : (E == 0) = false := by simp [hE0]
    have he1 : (E != 0) = true := by simp [hE0]
    have H3 := Lib.hid (And.intro (h3.mono (U' := Gr U w w3) (fun j hj => .inl hj) (fun j hj => hj.elim (fun h => h3.lt j h) fun h => h.2)) (Out.ofBelow U b13))
    clear hd hd2 hby hb2 b3 b13 h3 B3 hok
    go_wp2
    go_ret
    rw [Hd.out.1, Hd.out.2]
    exact ⟨rfl, H3.out⟩
end
end Go.Proofs.Ytlecihbclkohjaa
