/-
  A bag's Take, Drop, Double over the code. (Written by tools/gen_tk13.py.)
-/
import Derived.Test.YtlecihbclkohjaaPt13
namespace Go.Proofs.Ytlecihbclkohjaa
open Go.RowKit Go.Maps
set_option linter.unusedVariables false
set_option linter.unusedSimpArgs false

section
variable {w w' : World} {U : Nat → Prop} {g : Nat} {b : Bg} {A : Option Addr} {cap : Nat} {hs : List EnH} {K : Nat → Prop}
theorem tk_bag {w1 wo w2 w3 : World} {r : Nat} (hr : r < w1.heap.size) (hU : ∀ i, U i → i < r) (k : BagAt wo (Gr U w1 wo) g b) (h2 : Below wo.heap.size wo w2) (q : Out (fun i => i = r) w2 w3) : BagAt w3 (GrN U w1 wo.heap.size) g b := by
  have k1 : BagAt w3 (Gr U w1 wo) g b := (k.below h2).out q fun i hi e => by
    rcases hi with h | h
    · have := hU i h; omega
    · omega
  exact k1
theorem tk_out {w1 wo w2 w3 : World} (hU : ∀ i, U i → i < w.heap.size) (h1 : Below w.heap.size w w1) (ho : Out U w1 wo) (h2 : Below wo.heap.size wo w2) (q : Out (fun i => i = w.heap.size) w2 w3) : Out U w w3 := by
  have o := ((Out.ofBelow U h1).trans ho fun _ _ h => h).then_below h2
  have hz := o.size
  exact ⟨q.os.trans o.os, q.tape.trans o.tape, q.output.trans o.output, Nat.le_trans hz q.size, fun i hi hn => (q.block i (by omega) (by omega)).trans (o.block i hi hn)⟩
set_option maxRecDepth 100000 in
set_option maxHeartbeats 1600000 in
theorem take_any (h : BagAt w U g b) (i : Int) : Calls Try.prog 20 #[.pointer (some ⟨g, 0, none⟩), .int .i64 i] w (Took w U g (lookB b i) (lackE b i) (takeB b i)) := by
  obtain ⟨A, cap, hs, K, h⟩ := h
  obtain ⟨w1, hw1⟩ : ∃ w1, w.alloc (.cells #[.int .i64 0, .int .i64 0, .slice none 0 0] 29) = w1 := ⟨_, rfl⟩
  have b1 : Below w.heap.size w w1 := by rw [← hw1]; exact (Below.refl _ _).alloc (Nat.le_refl _) _
  have B1 : Blk w1 w.heap.size 29 [.int .i64 0, .int .i64 0, .slice none 0 0] := by rw [← hw1]; exact Blk.new rfl rfl
  have z1 := b1.size
  have h1 := h.below b1
  rcases lack_wf b i with hE | hE
  · have hel : lookB b i = atB b i := by unfold lookB; rw [if_pos hE]
    have htk : takeB b i = offB b i.toNat := by unfold takeB; rw [if_pos hE]
    rw [hel, hE, htk]
    obtain ⟨n, rfl, hn⟩ := lack0 hE
    have hnl : n < hs.length := by have := h.len; omega
    have hat := atB_hs h hnl
    obtain ⟨r, rfl, hr, c0, c1, c2⟩ := h1.at_ hnl
    have g1 := h1.blk.cell (i := 1) rfl
    have i0 : (0 : Int) ≤ (n : Int) := by omega
    obtain ⟨m, hm⟩ : ∃ m, b.l.length = m := ⟨_, rfl⟩
    rw [hm] at g1
    have i1 : (n : Int) < m := by omega
    have HL := lacks_h h n 0 hE
    have hmem := h1.bys _ (List.getElem_mem hnl)
    have hok := (h.ok.2.2.2 (hs[n].x) (by rw [← h.xs]; exact List.mem_map_of_mem (List.getElem_mem hnl))).2.2
    obtain ⟨y, hy⟩ : ∃ y, hs[n] = y := ⟨_, rfl⟩
    rw [hy] at c0 c1 c2 hmem hok hat
    rw [hat, show ((n : Int)).toNat = n by omega]
    have hoff := off_in h1 n hnl
    rw [hy] at hoff
    have hyn : y.n ≤ 65536 := by rw [← hmem.1]; exact hok
    have HU := Lib.hid h.lt
    have HS := Lib.hid (And.intro h1 (And.intro B1 (And.intro b1 (And.intro hoff hyn))))
    clear h h1 B1 hm hE hel hmem hok hy hat hoff htk c0 c1 c2 g1
    go_enter Try.func20, Try.ntmps20
    go_wp2_with fail
    refine (HL.out w1 b1).mono ?_; rintro e w1 ⟨rfl, rfl⟩
    go_wp2_with fail
    refine HS.out.2.2.2.1.mono ?_
    rintro e wo ⟨rfl, hB, hO, hyo⟩
    have Ho := Lib.hid (And.intro hB (And.intro hO (And.intro hyo (hO.blk HS.out.2.1 fun e => by have := HU.out _ e; omega))))
    clear hB hO hyo
    go_wp2_with fail
    refine (copyOf_any _ y Ho.out.2.2.1 (by have := HS.out.2.2.2.2; omega)).mono ?_
    rintro e w2 ⟨z, hz, rfl, hby, hb2⟩
    have B2 := Ho.out.2.2.2.below hb2 Ho.out.2.2.2.lt
    have e0 := B2.cell (i := 0) rfl
    have e1 := B2.cell (i := 1) rfl
    have e2 := B2.cell (i := 2) rfl
    have f0 := B2.free 0
    have f1 := B2.free 1
    have f2 := B2.free 2
    have H2 := Lib.hid (And.intro B2 (And.intro hby (And.intro hb2 hz)))
    clear B2 hby hb2 hz
    go_wp2
    obtain ⟨q1, q2⟩ := three (K := K) (.int .i64 z.x.fr) (.int .i64 z.x.to) (.slice z.a z.n z.c) H2.out.1
    refine bodyPost_ret (results_row_tmp rfl _ _ w.heap.size 29 _ _ _ rfl rfl q1 Try.underlying29 rfl env_size) rfl ?_
    have hz1 := HS.out.2.1.lt
    have hz2 := H2.out.2.2.1.size
    have hz3 := q2.size
    have hU := HU.out
    have hzo := Ho.out.2.1.size
    have b1 := HS.out.2.2.1
    have k1 := tk_bag hz1 hU Ho.out.1 H2.out.2.2.1 q2
    have k2 := tk_out hU b1 Ho.out.2.1 H2.out.2.2.1 q2
    exact ⟨z, wo.heap.size, H2.out.2.2.2, rfl, by omega, by omega, k1.mono (fun i hi => hi.imp_right fun h => ⟨by omega, h.2⟩) (fun i hi => hi.elim (fun h => k1.lt i (.inl h)) fun h => by omega), k2, H2.out.2.1.out q2 fun i hi e => by omega⟩
  · have hel : lookB b i = zE := by unfold lookB; rw [if_neg (by rw [hE]; decide)]
    have htk : takeB b i = b := by unfold takeB; rw [if_neg (by rw [hE]; decide)]
    rw [hel, hE, htk]
    have HL := lacks_h h i 9 hE
    have HU := Lib.hid h.lt
    have HS := Lib.hid (And.intro h1 (And.intro B1 b1))
    have e0 := B1.cell (i := 0) rfl
    have e1 := B1.cell (i := 1) rfl
    have e2 := B1.cell (i := 2) rfl
    have f0 := B1.free 0
    have f1 := B1.free 1
    have f2 := B1.free 2
    clear h h1 B1 hE hel
    go_enter Try.func20, Try.ntmps20
    go_wp2_with fail
    refine (HL.out w1 b1).mono ?_; rintro e w1 ⟨rfl, rfl⟩
    go_wp2
    obtain ⟨q1, q2⟩ := three (K := K) (.int .i64 0) (.int .i64 0) (.slice none 0 0) HS.out.2.1
    refine bodyPost_ret (results_row_tmp rfl _ _ w.heap.size 29 _ _ _ rfl rfl q1 Try.underlying29 rfl env_size) rfl ?_
    have hz1 := HS.out.2.1.lt
    have hz3 := q2.size
    exact ⟨⟨zE, none, 0, 0⟩, w1.heap.size, rfl, rfl, z1, by omega, ((HS.out.1.out q2 fun i hi e => by have := HU.out i hi; omega) |> fun k => BagAt.grn ⟨_, _, _, _, k⟩ (by omega)), outs HS.out.2.2 (Below.refl _ _) q2, ByP.zero _ _⟩
set_option maxRecDepth 100000 in
set_option maxHeartbeats 1600000 in
theorem drop_any (h : BagAt w U g b) (i : Int) (hlo : b.lost < 1000000) : Calls Try.prog 22 #[.pointer (some ⟨g, 0, none⟩), .int .i64 i] w fun e w' => e = .returned (.int .i64 (lackE b i)) ∧ BagAt w' (Gr U w w') g (dropB b i) ∧ Out U w w' := by
  have h0 := h
  obtain ⟨A, cap, hs, K, h⟩ := h
  rcases lack_wf b i with hE | hE
  · have hdr : dropB b i = ⟨b.l.eraseIdx i.toNat, b.sent, b.lost + 1⟩ := by unfold dropB; rw [if_pos hE]
    rw [hE, hdr]
    obtain ⟨n, rfl, hn⟩ := lack0 hE
    rw [show ((n : Int)).toNat = n by omega]
    have HL := lacks_h h n 0 hE
    have hnl : n < hs.length := by have := h.len; omega
    have HS := Lib.hid (And.intro (off_in h n hnl) hlo)
    clear h h0 hE hdr hlo
    go_enter Try.func22, Try.ntmps22
    go_wp2_with fail
    refine (HL.out w (Below.refl _ _)).mono ?_; rintro e w ⟨rfl, rfl⟩
    go_wp2_with fail
    refine HS.out.1.mono ?_
    rintro e w1 ⟨rfl, hB, hO, _⟩
    obtain ⟨A1, cap1, hs1, K1, h1⟩ := hB
    have c3 := h1.blk.cell (i := 3) rfl
    have f3 := h1.blk.free 3
    have H1 := Lib.hid (And.intro h1 hO)
    clear h1 hO
    go_wp2_with (go_at_call 49; refine (add64 g 3 b.lost w1 (by have := HS.out.2; omega) c3 f3).mono ?_; rintro e w2 ⟨⟨v, rfl⟩, hw2⟩; replace hw2 := Lib.hid hw2)
    go_ret
    have o2 : Out (fun i => i = g) w1 w2 := by rw [hw2.out]; exact out_set w1 g 3 _
    have e2 : w2.heap.size = w1.heap.size := by rw [hw2.out]; simp [World.setCell]
    have G2 : Blk w2 g 61 [.bool true, .slice A1 (offB b n).l.length cap1, .int .i64 (b.sent : Int), .int .i64 ((b.lost + 1 : Nat) : Int)] := by rw [hw2.out]; exact H1.out.1.blk.set_ 3 _
    have h1 := H1.out.1
    refine ⟨rfl, ⟨A1, cap1, hs1, K1, G2, h1.xs, h1.row.out o2 fun j hj => (h1.rg j hj).2.1, fun e he => (h1.bys e he).out o2 fun j hj e => h1.kg (e ▸ hj), fun j hj => ⟨?_, (h1.rg j hj).2⟩, h1.kg, fun j hj => ?_, ?_, fun j hj => ?_, ?_⟩, H1.out.2.trans o2 fun j hj e => ?_⟩
    · have := (h1.rg j hj).1; unfold Gr at this ⊢; rw [e2]; exact this
    · have := h1.ku j hj; unfold Gr at this ⊢; rw [e2]; exact this
    · have := h1.ug; unfold Gr at this ⊢; rw [e2]; exact this
    · rw [e2]; refine h1.lt j ?_; unfold Gr at hj ⊢; rw [e2] at hj; exact hj
    · obtain ⟨k1, k2, k3, k4⟩ := h1.ok
      exact ⟨k1, k2, by have := HS.out.2; show b.lost + 1 ≤ _; omega, k4⟩
    · subst e
      rcases h1.ug with h | h
      · exact h
      · omega
  · have hdr : dropB b i = b := by unfold dropB; rw [if_neg (by rw [hE]; decide)]
    rw [hE, hdr]
    have HL := lacks_h h i 9 hE
    have HS := Lib.hid h0
    clear h h0 hE hdr hlo
    go_enter Try.func22, Try.ntmps22
    go_wp2_with fail
    refine (HL.out w (Below.refl _ _)).mono ?_; rintro e w ⟨rfl, rfl⟩
    go_wp2
    go_ret
    exact ⟨rfl, HS.out.mono (fun i hi => .inl hi) (fun i hi => hi.elim (fun h => HS.out.lt i h) fun h => h.2), Out.refl _ _⟩
set_option maxRecDepth 100000 in
set_option maxHeartbeats 1600000 in
theorem dbl_any (h : BagAt w U g b) (i : Int) (hse : b.sent < 1000000) : Calls Try.prog 24 #[.pointer (some ⟨g, 0, none⟩), .int .i64 i] w fun e w' => e = .returned (.int .i64 (dblE b i)) ∧ BagAt w' (Gr U w w') g (dblB b i) ∧ Out U w w' := by
  have h0 := h
  obtain ⟨A, cap, hs, K, h⟩ := h
  unfold dblB
  unfold dblE
  rcases lack_wf b i with hE | hE
  · rw [if_pos hE]
    obtain ⟨n, rfl, hn⟩ := lack0 hE
    have HL := lacks_h h n 0 hE
    by_cases hf : 4096 ≤ b.l.length
    · rw [if_pos hf, if_neg (by decide)]
      have HF := Lib.hid (full_in h true (decide_eq_true hf))
      have HS := Lib.hid h0
      clear h h0 hE hse hf hn
      go_enter Try.func24, Try.ntmps24
      go_wp2_with fail
      refine (HL.out w (Below.refl _ _)).mono ?_; rintro e w ⟨rfl, rfl⟩
      go_wp2_with fail
      refine HF.out.mono ?_; rintro e w ⟨rfl, rfl⟩
      go_wp2
      go_ret
      exact ⟨rfl, HS.out.mono (fun i hi => .inl hi) (fun i hi => hi.elim (fun h => HS.out.lt i h) fun h => h.2), Out.refl _ _⟩
    · rw [if_neg hf, if_pos rfl]
      have HF := Lib.hid (full_in h false (decide_eq_false hf))
      have hnl : n < hs.length := by have := h.len; omega
      have hat := atB_hs h hnl
      obtain ⟨r, rfl, hr, c0, c1, c2⟩ := h.at_ hnl
      have g1 := h.blk.cell (i := 1) rfl
      have i0 : (0 : Int) ≤ (n : Int) := by omega
      have hmem := h.bys _ (List.getElem_mem hnl)
      have hok := h.ok.2.2.2 (hs[n].x) (by rw [← h.xs]; exact List.mem_map_of_mem (List.getElem_mem hnl))
      have hsd := send_in h hs[n] hmem hok (by omega) hse
      obtain ⟨y, hy⟩ : ∃ y, hs[n] = y := ⟨_, rfl⟩
      rw [hy] at c0 c1 c2 hsd hat
      rw [hat]
      obtain ⟨m, hm⟩ : ∃ m, b.l.length = m := ⟨_, rfl⟩
      rw [hm] at g1
      have i1 : (n : Int) < m := by omega
      have HS := Lib.hid hsd
      clear h h0 hE hse hf hn hmem hok hsd hm hy hat
      go_enter Try.func24, Try.ntmps24
      go_wp2_with fail
      refine (HL.out w (Below.refl _ _)).mono ?_; rintro e w ⟨rfl, rfl⟩
      go_wp2_with fail
      refine HF.out.mono ?_; rintro e w ⟨rfl, rfl⟩
      go_wp2_with fail
      refine HS.out.mono ?_
      rintro e w1 ⟨rfl, hB, hO⟩
      have H1 := Lib.hid (And.intro hB hO)
      clear hB hO
      go_wp2
      go_ret
      exact ⟨rfl, H1.out⟩
  · have hne : ¬ lackE b i = 0 := by rw [hE]; decide
    rw [if_neg hne, hE, if_neg (by decide)]
    have HL := lacks_h h i 9 hE
    have HS := Lib.hid h0
    clear h h0 hE hne hse
    go_enter Try.func24, Try.ntmps24
    go_wp2_with fail
    refine (HL.out w (Below.refl _ _)).mono ?_; rintro e w ⟨rfl, rfl⟩
    go_wp2
    go_ret
    exact ⟨rfl, HS.out.mono (fun i hi => .inl hi) (fun i hi => hi.elim (fun h => HS.out.lt i h) fun h => h.2), Out.refl _ _⟩
end
end Go.Proofs.Ytlecihbclkohjaa
