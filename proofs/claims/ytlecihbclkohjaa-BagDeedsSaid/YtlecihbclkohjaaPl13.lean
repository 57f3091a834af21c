/-
  The statements' played over the code. (Written by tools/gen_pl13.py.)
-/
import Derived.Test.YtlecihbclkohjaaWk13
import Derived.Test.YtlecihbclkohjaaBr13
namespace Go.Proofs.Ytlecihbclkohjaa
open Go.RowKit Go.Maps
set_option linter.unusedVariables false
set_option linter.unusedSimpArgs false

/-- What holds of a bag to which things happened, of what was put, and of what was taken. -/
structure Inv (k : Nat) (b : Bg) (put taken : List En) : Prop where
  tk : ∀ x ∈ taken, x ∈ put
  th : ∀ x ∈ b.l, x ∈ put
  sum : b.sent = b.lost + taken.length + b.l.length
  sk : b.sent ≤ k
  pk : put.length ≤ k
theorem inv_new : Inv 0 newB [] [] := ⟨fun _ h => by simp at h, fun _ h => by simp [newB] at h, rfl, Nat.le_refl _, Nat.le_refl _⟩
section
variable {k : Nat} {b : Bg} {put taken : List En} {e : En} {i : Int}
theorem Inv.more (h : Inv k b put taken) : Inv (k + 1) b put taken := ⟨h.tk, h.th, h.sum, by have := h.sk; omega, by have := h.pk; omega⟩
theorem Inv.put0 (h : Inv k b put taken) (hE : putE b e = 0) : Inv (k + 1) (putB b e) (put ++ [e]) taken := by
  unfold putB
  rw [if_pos hE]
  refine ⟨fun x hx => List.mem_append_left _ (h.tk x hx), fun x hx => ?_, ?_, by have := h.sk; show b.sent + 1 ≤ _; omega, by rw [List.length_append]; have := h.pk; show _ + 1 ≤ _; omega⟩
  · rcases List.mem_append.1 hx with h1 | h1
    · exact List.mem_append_left _ (h.th x h1)
    · exact List.mem_append_right _ h1
  · have := h.sum
    show b.sent + 1 = b.lost + taken.length + (b.l ++ [e]).length
    rw [List.length_append]
    show _ = _ + (_ + 1)
    omega
theorem Inv.put1 (h : Inv k b put taken) (hE : ¬ putE b e = 0) : Inv (k + 1) (putB b e) put taken := by
  unfold putB
  rw [if_neg hE]
  exact h.more
theorem at_mem (hE : lackE b i = 0) : atB b i ∈ b.l := by
  obtain ⟨n, rfl, hn⟩ := lack0 hE
  unfold atB
  rw [show ((n : Int)).toNat = n by omega, List.getElem?_eq_getElem hn]
  exact List.getElem_mem hn
theorem Inv.take0 (h : Inv k b put taken) (hE : lackE b i = 0) : Inv (k + 1) (takeB b i) put (taken ++ [lookB b i]) := by
  have hm := at_mem hE
  obtain ⟨n, rfl, hn⟩ := lack0 hE
  unfold takeB lookB
  rw [if_pos hE, if_pos hE]
  refine ⟨fun x hx => ?_, fun x hx => h.th x (List.mem_of_mem_eraseIdx hx), ?_, by have := h.sk; show b.sent ≤ _; omega, by have := h.pk; omega⟩
  · rcases List.mem_append.1 hx with h1 | h1
    · exact h.tk x h1
    · rw [List.mem_singleton.1 h1]; exact h.th _ hm
  · have := h.sum
    show b.sent = b.lost + (taken ++ [_]).length + (b.l.eraseIdx _).length
    rw [List.length_append, show ((n : Int)).toNat = n by omega, List.length_eraseIdx, if_pos hn]
    show _ = _ + (_ + 1) + _
    omega
theorem Inv.take1 (h : Inv k b put taken) (hE : ¬ lackE b i = 0) : Inv (k + 1) (takeB b i) put taken := by
  unfold takeB
  rw [if_neg hE]
  exact h.more
theorem Inv.drop (h : Inv k b put taken) (i : Int) : Inv (k + 1) (dropB b i) put taken := by
  unfold dropB
  by_cases hE : lackE b i = 0
  · rw [if_pos hE]
    obtain ⟨n, rfl, hn⟩ := lack0 hE
    refine ⟨h.tk, fun x hx => h.th x (List.mem_of_mem_eraseIdx hx), ?_, by have := h.sk; show b.sent ≤ _; omega, by have := h.pk; omega⟩
    have := h.sum
    show b.sent = (b.lost + 1) + taken.length + (b.l.eraseIdx _).length
    rw [show ((n : Int)).toNat = n by omega, List.length_eraseIdx, if_pos hn]
    omega
  · rw [if_neg hE]; exact h.more
theorem Inv.dbl (h : Inv k b put taken) (i : Int) : Inv (k + 1) (dblB b i) put taken := by
  unfold dblB
  by_cases hE : dblE b i = 0
  · rw [if_pos hE]
    have hl : lackE b i = 0 := by
      unfold dblE at hE
      by_cases h1 : lackE b i = 0
      · exact h1
      · rw [if_neg h1] at hE; exact hE
    refine ⟨h.tk, fun x hx => ?_, ?_, by have := h.sk; show b.sent + 1 ≤ _; omega, by have := h.pk; omega⟩
    · rcases List.mem_append.1 hx with h1 | h1
      · exact h.th x h1
      · rw [List.mem_singleton.1 h1]; exact h.th _ (at_mem hl)
    · have := h.sum
      show b.sent + 1 = b.lost + taken.length + (b.l ++ [_]).length
      rw [List.length_append]
      show _ = _ + (_ + 1)
      omega
  · rw [if_neg hE]; exact h.more
end

/-- A bag, what was put, what was taken, each in blocks of its own. -/
structure PlyIn (w0 w : World) (g : Nat) (b : Bg) (A1 : Option Addr) (n1 c1 : Nat) (put : List En) (A2 : Option Addr) (n2 c2 : Nat) (taken : List En) (N V W : Nat → Prop) : Prop where
  bk : BK w0 w N g b
  p : EnL w V A1 n1 c1 put
  t : EnL w W A2 n2 c2 taken
  vn : ∀ i, V i → N i ∧ w0.heap.size ≤ i
  wn : ∀ i, W i → N i ∧ w0.heap.size ≤ i
  vw : ∀ i, V i → ¬ W i
def Ply (w0 w : World) (g : Nat) (b : Bg) (A1 : Option Addr) (n1 c1 : Nat) (put : List En) (A2 : Option Addr) (n2 c2 : Nat) (taken : List En) : Prop := ∃ N V W, PlyIn w0 w g b A1 n1 c1 put A2 n2 c2 taken N V W
section
variable {w0 w w' : World} {g : Nat} {b b' : Bg} {A1 A2 : Option Addr} {n1 c1 n2 c2 : Nat} {put taken : List En} {N V W M : Nat → Prop}
theorem BK.other {N' S : Nat → Prop} (h : BK w0 w N g b) (ho : Out S w w') (hS : ∀ i, S i → N i ∧ w0.heap.size ≤ i) (hN : ∀ i, N' i → N i ∨ (w.heap.size ≤ i ∧ i < w'.heap.size)) : BK w0 w' N' g b := by
  obtain ⟨⟨U, k, hU⟩, h2, h3⟩ := h
  have hz := ho.size
  refine ⟨⟨U, k.out ho fun i hi e => (hU i hi).2 (hS i e).1, fun i hi => ⟨(hU i hi).1, fun e => ?_⟩⟩, h2.trans (ho.above (fun i hi => (hS i hi).2) h2.size), fun i hi => ?_⟩
  · rcases hN i e with h4 | h4
    · exact (hU i hi).2 h4
    · have := k.lt i hi; omega
  · rcases hN i hi with h4 | h4
    · have := h3 i h4; omega
    · exact h4.2
theorem Ply.bel (h : Ply w0 w g b A1 n1 c1 put A2 n2 c2 taken) : Below w0.heap.size w0 w := let ⟨N, V, W, k⟩ := h; k.bk.bel
theorem Ply.below (h : Ply w0 w g b A1 n1 c1 put A2 n2 c2 taken) (hb : Below w.heap.size w w') : Ply w0 w' g b A1 n1 c1 put A2 n2 c2 taken :=
  let ⟨N, V, W, k⟩ := h; ⟨N, V, W, k.bk.below hb, k.p.below hb, k.t.below hb, k.vn, k.wn, k.vw⟩
/-- Behind a call of the bag's. -/
theorem PlyIn.call {N' : Nat → Prop} (k : PlyIn w0 w g b A1 n1 c1 put A2 n2 c2 taken N V W) (hB : BK w0 w' N' g b') (hN : ∀ i, N i → N' i) (hO : Out (fun i => ¬ N i) w w') : PlyIn w0 w' g b' A1 n1 c1 put A2 n2 c2 taken N' V W :=
  ⟨hB, k.p.out hO fun i hi e => e (k.vn i hi).1, k.t.out hO fun i hi e => e (k.wn i hi).1, fun i hi => ⟨hN i (k.vn i hi).1, (k.vn i hi).2⟩, fun i hi => ⟨hN i (k.wn i hi).1, (k.wn i hi).2⟩, k.vw⟩
/-- A note that was put is noted. -/
theorem PlyIn.pushP (k : PlyIn w0 w g b A1 n1 c1 put A2 n2 c2 taken N V W) (x : EnH) (hx : ByP w M x) (hM : ∀ i, M i → N i ∧ ¬ V i ∧ ¬ W i ∧ w0.heap.size ≤ i) (hn : n1 ≤ 10000) (w2 : World) (hw2 : w.alloc (.cells #[.int .i64 x.x.fr, .int .i64 x.x.to, .slice x.a x.n x.c] 29) = w2) :
    ∃ A' c' w3, (Builtin.append_ #[45, 45] 45 #[.slice A1 n1 c1, .slice (some ⟨w.heap.size, 0, none⟩) 1 1]).run Try.prog w2 = .ok (.slice A' (n1 + 1) c') w3 ∧ Ply w0 w3 g b A' (n1 + 1) c' (put ++ [x.x]) A2 n2 c2 taken := by
  obtain ⟨A', c', w3, hr, hL, hO⟩ := k.p.push x hx (fun i hi => (hM i hi).2.1) (fun i hi => k.bk.2.2 i (hM i hi).1) hn w2 hw2
  have hz := k.bk.bel.size
  refine ⟨A', c', w3, hr, fun i => N i ∨ (w.heap.size ≤ i ∧ i < w3.heap.size), _, W, k.bk.other hO k.vn fun i hi => hi, hL, k.t.out hO fun i hi e => k.vw i e hi, fun i hi => ?_, fun i hi => ⟨.inl (k.wn i hi).1, (k.wn i hi).2⟩, fun i hi e => ?_⟩
  · rcases hi with (h | h) | h
    · exact ⟨.inl (k.vn i h).1, (k.vn i h).2⟩
    · exact ⟨.inl (hM i h).1, (hM i h).2.2.2⟩
    · exact ⟨.inr h, by omega⟩
  · rcases hi with (h | h) | h
    · exact k.vw i h e
    · exact (hM i h).2.2.1 e
    · have := k.t.lt i e; omega
theorem PlyIn.swap (k : PlyIn w0 w g b A1 n1 c1 put A2 n2 c2 taken N V W) : PlyIn w0 w g b A2 n2 c2 taken A1 n1 c1 put N W V := ⟨k.bk, k.t, k.p, k.wn, k.vn, fun i hi e => k.vw i e hi⟩
theorem Ply.swap (h : Ply w0 w g b A1 n1 c1 put A2 n2 c2 taken) : Ply w0 w g b A2 n2 c2 taken A1 n1 c1 put := let ⟨N, V, W, k⟩ := h; ⟨N, W, V, k.swap⟩
/-- A box just made beside. -/
theorem PlyIn.box (k : PlyIn w0 w g b A1 n1 c1 put A2 n2 c2 taken N V W) (hb : Below w.heap.size w w') : PlyIn w0 w' g b A1 n1 c1 put A2 n2 c2 taken (fun i => N i ∨ (w.heap.size ≤ i ∧ i < w'.heap.size)) V W :=
  ⟨k.bk.keep hb fun i hi => hi, k.p.below hb, k.t.below hb, fun i hi => ⟨.inl (k.vn i hi).1, (k.vn i hi).2⟩, fun i hi => ⟨.inl (k.wn i hi).1, (k.wn i hi).2⟩, k.vw⟩
end
/-- What played answers. -/
def PlayR (w : World) (e : Ending) (w' : World) : Prop := ∃ (g : Nat) (b : Bg) (A1 : Option Addr) (n1 c1 : Nat) (put : List En) (A2 : Option Addr) (n2 c2 : Nat) (taken : List En),
  e = .returned (.tuple #[.pointer (some ⟨g, 0, none⟩), .slice A1 n1 c1, .slice A2 n2 c2]) ∧ Ply w w' g b A1 n1 c1 put A2 n2 c2 taken ∧ Inv 60 b put taken
set_option maxRecDepth 100000 in
set_option maxHeartbeats 3200000 in
theorem played_any (A : Option Addr) (n c : Nat) (l : List Int) (w : World) (hl : ArgI w A n c l) : Calls Try.prog 35 #[.slice A n c] w (PlayR w) := by
  have Hl := Lib.hid hl
  clear hl
  go_enter Try.func35, Try.ntmps35
  go_wp2_with fail
  refine (k_new (Below.refl w.heap.size w) (fun _ => False) (fun i hi => hi.elim)).mono ?_
  rintro e w1 ⟨g, rfl, hk, -⟩
  have K := Lib.hid hk
  clear hk
  go_wp2
  go_loopw [8, 6, 7] (fun i p t wr => ∃ (k : Nat) (b : Bg) (A1 : Option Addr) (n1 c1 : Nat) (put : List En) (A2 : Option Addr) (n2 c2 : Nat) (taken : List En), k ≤ n ∧ k ≤ 60 ∧ i = .int .i64 k ∧ p = .slice A1 n1 c1 ∧ t = .slice A2 n2 c2 ∧ Ply w wr g b A1 n1 c1 put A2 n2 c2 taken ∧ Inv k b put taken) (fun i _ _ _ => 60 - (intOf i).toNat)
  case atStart => exact ⟨0, newB, none, 0, 0, [], none, 0, 0, [], by omega, by omega, rfl, rfl, rfl, ⟨fun _ => False, fun _ => False, fun _ => False, K.out, EnL.nil _, EnL.nil _, fun i h => h.elim, fun i h => h.elim, fun i h => h.elim⟩, inv_new⟩
  case round =>
    obtain ⟨k, b, A1, n1, c1, put, A2, n2, c2, taken, hk1, hk2, rfl, rfl, rfl, hP, hI⟩ := hrel
    have k0 : (0 : Int) ≤ k := by omega
    have hlenP : put.length = n1 := let ⟨_, _, _, q⟩ := hP; let ⟨_, _, q⟩ := q.p; q.len
    have hlenT : taken.length = n2 := let ⟨_, _, _, q⟩ := hP; let ⟨_, _, q⟩ := q.t; q.len
    have HP := Lib.hid (And.intro hP hI)
    have hn1 : n1 ≤ 60 := by have := hI.pk; omega
    have hn2 : n2 ≤ 60 := by have := hI.sum; have := hI.sk; omega
    have hbl : b.l.length ≤ 60 := by have := hI.sum; have := hI.sk; omega
    have hse : b.sent ≤ 60 := by have := hI.sk; omega
    have hlo : b.lost ≤ 60 := by have := hI.sum; have := hI.sk; omega
    clear hP hI hlenP hlenT K
    by_cases hlt : k < n ∧ k < 60
    · obtain ⟨hlt1, hlt2⟩ := hlt
      have k1 : (k : Int) < n := by omega
      have k2 : (k : Int) < 60 := by omega
      have hkl : k < l.length := by rw [Hl.out.1]; omega
      obtain ⟨bl, ol, rfl, hbk, hcl⟩ := (Hl.out.after HP.out.1.bel).2.2.2.1.at_ hkl
      have cl := hcl k hkl
      have hwf := bounds_i64 (Hl.out.2.2.2.2 _ (List.getElem_mem hkl))
      clear hcl hbk
      obtain ⟨x, hx⟩ : ∃ x, l[k] = x := ⟨_, rfl⟩
      rw [hx] at cl hwf
      clear hx
      obtain ⟨N, V, W, kp⟩ := HP.out.1
      have HK := Lib.hid (And.intro kp HP.out.2)
      obtain ⟨m, hm⟩ : ∃ m, b.l.length = m := ⟨_, rfl⟩
      have Hm := Lib.hid hm
      have q0 := Int.emod_nonneg (x / 8) (by decide : (64 : Int) ≠ 0)
      have q1 := Int.emod_lt_of_pos (x / 8) (by decide : (0 : Int) < 64)
      have p0 := Int.emod_nonneg x (by decide : (6 : Int) ≠ 0)
      have p1 := Int.emod_lt_of_pos x (by decide : (0 : Int) < 6)
      obtain ⟨r, hr⟩ : ∃ r, x % 6 = r := ⟨_, rfl⟩
      have HB6 := Lib.hid (show ∀ W, Calls Try.prog 14 #[.int .i64 x, .int .i64 6] W fun e w' => e = .returned (.int .i64 r) ∧ w' = W from fun W => by have := bringF_any x 6 W (by decide) (by decide) hwf.1 hwf.2; rw [hr] at this; exact this)
      rw [hr] at p0 p1
      clear kp hr HP
      rw [hm] at hbl
      clear hm
      go_wp2_with fail
      refine (bringF_any (x / 8) 64 wr (by decide) (by decide) (by omega) (by omega)).mono ?_
      rintro e wr ⟨rfl, rfl⟩
      obtain ⟨r8, hr8⟩ : ∃ r8, x / 8 % 64 = r8 := ⟨_, rfl⟩
      rw [hr8] at q0 q1 ⊢
      clear hr8 hwf
      go_wp2_with fail
      refine (k_len HK.out.1.bk m Hm.out).mono ?_; rintro e wr ⟨rfl, rfl⟩
      by_cases hm0 : m = 0
      · subst hm0
        go_wp2_with fail
        refine (HB6.out wr).mono ?_; rintro e wr ⟨rfl, rfl⟩
        rcases (show r = 0 ∨ r = 1 ∨ r = 2 ∨ r = 3 ∨ r = 4 ∨ r = 5 by omega) with rfl | rfl | rfl | rfl | rfl | rfl
        · have a0 := Int.emod_nonneg r8 (by decide : (34 : Int) ≠ 0)
          have a1 := Int.emod_lt_of_pos r8 (by decide : (0 : Int) < 34)
          have a2 := Int.emod_nonneg (r8 / 2) (by decide : (34 : Int) ≠ 0)
          have a3 := Int.emod_lt_of_pos (r8 / 2) (by decide : (0 : Int) < 34)
          go_wp2_with fail
          obtain ⟨f, hf⟩ : ∃ f, 1 + r8 % 34 = f := ⟨_, rfl⟩
          obtain ⟨t, ht⟩ : ∃ t, 1 + r8 / 2 % 34 = t := ⟨_, rfl⟩
          have wf : Wf f := by rw [← hf]; simp [Wf, Lit.wf, IntKind.min, IntKind.max, IntKind.signed, IntKind.bits]; omega
          have wt : Wf t := by rw [← ht]; simp [Wf, Lit.wf, IntKind.min, IntKind.max, IntKind.signed, IntKind.bits]; omega
          rw [hf, ht]
          clear hf ht a0 a1 a2 a3
          refine (k_note f t k wf wt (UInt8.ofNat k) (by rw [UInt8.toNat_ofNat', Nat.mod_eq_of_lt (by omega)]) wr).mono ?_
          rintro e w3 ⟨xa, xn, xc, rfl, hby, hb⟩
          obtain ⟨en, hen⟩ : ∃ en : En, (⟨f, t, [UInt8.ofNat k]⟩ : En) = en := ⟨_, rfl⟩
          have hef : en.fr = f := by rw [← hen]
          have het : en.to = t := by rw [← hen]
          have heb : en.bs.length = 1 := by rw [← hen]; rfl
          rw [hen] at hby
          clear hen
          obtain ⟨w4, hw4⟩ : ∃ w4, w3.alloc (.cells #[.int .i64 f, .int .i64 t, .slice xa xn xc] 29) = w4 := ⟨_, rfl⟩
          have B4 : Blk w4 w3.heap.size 29 [.int .i64 f, .int .i64 t, .slice xa xn xc] := by rw [← hw4]; exact Blk.new rfl rfl
          have b4 : Below w3.heap.size w3 w4 := by rw [← hw4]; exact (Below.refl _ _).alloc (Nat.le_refl _) _
          have z4 : w4.heap.size = w3.heap.size + 1 := by rw [← hw4]; simp
          have z3 := hb.size
          have k4 := HK.out.1.box (hb.trans (b4.mono hb.size))
          have hby4 := hby.below b4 (fun i hi => hi.2) (Nat.le_refl _)
          have d0 := B4.cell (i := 0) rfl
          have d1 := B4.cell (i := 1) rfl
          have d2 := B4.cell (i := 2) rfl
          have H4 := Lib.hid (And.intro k4 (And.intro hby4 (And.intro B4 (And.intro hef (And.intro het heb)))))
          clear b4 k4 hby4 hby hb B4 hef het heb
          go_wp2_with fail
          have hput := k_put (E := putE b en) (b' := putB b en) H4.out.1.bk ⟨en, xa, xn, xc⟩ H4.out.2.1 (by omega) (by have h := H4.out.2.1.1; have e : en.bs.length = xn := h; have := H4.out.2.2.2.2.2; show xn ≤ _; omega) rfl rfl
          dsimp only at hput
          rw [H4.out.2.2.2.1, H4.out.2.2.2.2.1] at hput
          refine hput.mono ?_
          rintro e w5 ⟨rfl, hk, ho⟩
          have k5 := H4.out.1.call hk (fun i hi => hi) ho
          have hby5 := H4.out.2.1.stays ho fun i hi => .inr ⟨hi.1, by omega⟩
          have B5 := ho.blk H4.out.2.2.1 fun e => e (.inr ⟨by omega, by omega⟩)
          have e0 := B5.cell (i := 0) rfl
          have e1 := B5.cell (i := 1) rfl
          have e2 := B5.cell (i := 2) rfl
          clear hput hk ho d0 d1 d2
          by_cases hE : putE b en = 0
          · have hE0 : (putE b en == 0) = true := by rw [hE]; rfl
            have hI := HK.out.2.put0 hE
            obtain ⟨w6, hw6⟩ : ∃ w6, w5.alloc (.cells #[.int .i64 f, .int .i64 t, .slice xa xn xc] 29) = w6 := ⟨_, rfl⟩
            obtain ⟨A', c', w7, hap, hP7⟩ := k5.pushP ⟨en, xa, xn, xc⟩ hby5 (fun i hi => ⟨.inr ⟨hi.1, by omega⟩, fun e => by have := HK.out.1.p.lt i e; omega, fun e => by have := HK.out.1.t.lt i e; omega, by have := HK.out.1.bk.bel.size; omega⟩) (by omega) w6 (by dsimp only; rw [H4.out.2.2.2.1, H4.out.2.2.2.2.1]; exact hw6)
            have H7 := Lib.hid (And.intro hap (And.intro hP7 hI))
            clear hap hP7 hI k5 hby5 B5
            go_wp2_with (refine wpList_app rfl _ _ _ _ rfl _ _ _ _ rfl rfl H7.out.1 ?_)
            go_roundw
            case rel => exact ⟨k + 1, _, A', n1 + 1, c', _, A2, n2, c2, taken, by omega, by omega, by go_num, rfl, rfl, H7.out.2.1, H7.out.2.2⟩
            case measure => simp [intOf]; omega
          · have hE0 : (putE b en == 0) = false := by simp [hE]
            have hI := HK.out.2.put1 hE
            have H7 := Lib.hid (And.intro k5 hI)
            clear k5 hI hby5 B5
            go_wp2
            go_roundw
            case rel => exact ⟨k + 1, _, A1, n1, c1, _, A2, n2, c2, taken, by omega, by omega, by go_num, rfl, rfl, ⟨_, _, _, H7.out.1⟩, H7.out.2⟩
            case measure => simp [intOf]; omega
        · have a0 := Int.emod_nonneg r8 (by decide : (34 : Int) ≠ 0)
          have a1 := Int.emod_lt_of_pos r8 (by decide : (0 : Int) < 34)
          have a2 := Int.emod_nonneg (r8 / 2) (by decide : (34 : Int) ≠ 0)
          have a3 := Int.emod_lt_of_pos (r8 / 2) (by decide : (0 : Int) < 34)
          go_wp2_with fail
          obtain ⟨f, hf⟩ : ∃ f, 1 + r8 % 34 = f := ⟨_, rfl⟩
          obtain ⟨t, ht⟩ : ∃ t, 1 + r8 / 2 % 34 = t := ⟨_, rfl⟩
          have wf : Wf f := by rw [← hf]; simp [Wf, Lit.wf, IntKind.min, IntKind.max, IntKind.signed, IntKind.bits]; omega
          have wt : Wf t := by rw [← ht]; simp [Wf, Lit.wf, IntKind.min, IntKind.max, IntKind.signed, IntKind.bits]; omega
          rw [hf, ht]
          clear hf ht a0 a1 a2 a3
          refine (k_note f t k wf wt (UInt8.ofNat k) (by rw [UInt8.toNat_ofNat', Nat.mod_eq_of_lt (by omega)]) wr).mono ?_
          rintro e w3 ⟨xa, xn, xc, rfl, hby, hb⟩
          obtain ⟨en, hen⟩ : ∃ en : En, (⟨f, t, [UInt8.ofNat k]⟩ : En) = en := ⟨_, rfl⟩
          have hef : en.fr = f := by rw [← hen]
          have het : en.to = t := by rw [← hen]
          have heb : en.bs.length = 1 := by rw [← hen]; rfl
          rw [hen] at hby
          clear hen
          obtain ⟨w4, hw4⟩ : ∃ w4, w3.alloc (.cells #[.int .i64 f, .int .i64 t, .slice xa xn xc] 29) = w4 := ⟨_, rfl⟩
          have B4 : Blk w4 w3.heap.size 29 [.int .i64 f, .int .i64 t, .slice xa xn xc] := by rw [← hw4]; exact Blk.new rfl rfl
          have b4 : Below w3.heap.size w3 w4 := by rw [← hw4]; exact (Below.refl _ _).alloc (Nat.le_refl _) _
          have z4 : w4.heap.size = w3.heap.size + 1 := by rw [← hw4]; simp
          have z3 := hb.size
          have k4 := HK.out.1.box (hb.trans (b4.mono hb.size))
          have hby4 := hby.below b4 (fun i hi => hi.2) (Nat.le_refl _)
          have d0 := B4.cell (i := 0) rfl
          have d1 := B4.cell (i := 1) rfl
          have d2 := B4.cell (i := 2) rfl
          have H4 := Lib.hid (And.intro k4 (And.intro hby4 (And.intro B4 (And.intro hef (And.intro het heb)))))
          clear b4 k4 hby4 hby hb B4 hef het heb
          go_wp2_with fail
          have hput := k_put (E := putE b en) (b' := putB b en) H4.out.1.bk ⟨en, xa, xn, xc⟩ H4.out.2.1 (by omega) (by have h := H4.out.2.1.1; have e : en.bs.length = xn := h; have := H4.out.2.2.2.2.2; show xn ≤ _; omega) rfl rfl
          dsimp only at hput
          rw [H4.out.2.2.2.1, H4.out.2.2.2.2.1] at hput
          refine hput.mono ?_
          rintro e w5 ⟨rfl, hk, ho⟩
          have k5 := H4.out.1.call hk (fun i hi => hi) ho
          have hby5 := H4.out.2.1.stays ho fun i hi => .inr ⟨hi.1, by omega⟩
          have B5 := ho.blk H4.out.2.2.1 fun e => e (.inr ⟨by omega, by omega⟩)
          have e0 := B5.cell (i := 0) rfl
          have e1 := B5.cell (i := 1) rfl
          have e2 := B5.cell (i := 2) rfl
          clear hput hk ho d0 d1 d2
          by_cases hE : putE b en = 0
          · have hE0 : (putE b en == 0) = true := by rw [hE]; rfl
            have hI := HK.out.2.put0 hE
            obtain ⟨w6, hw6⟩ : ∃ w6, w5.alloc (.cells #[.int .i64 f, .int .i64 t, .slice xa xn xc] 29) = w6 := ⟨_, rfl⟩
            obtain ⟨A', c', w7, hap, hP7⟩ := k5.pushP ⟨en, xa, xn, xc⟩ hby5 (fun i hi => ⟨.inr ⟨hi.1, by omega⟩, fun e => by have := HK.out.1.p.lt i e; omega, fun e => by have := HK.out.1.t.lt i e; omega, by have := HK.out.1.bk.bel.size; omega⟩) (by omega) w6 (by dsimp only; rw [H4.out.2.2.2.1, H4.out.2.2.2.2.1]; exact hw6)
            have H7 := Lib.hid (And.intro hap (And.intro hP7 hI))
            clear hap hP7 hI k5 hby5 B5
            go_wp2_with (refine wpList_app rfl _ _ _ _ rfl _ _ _ _ rfl rfl H7.out.1 ?_)
            go_roundw
            case rel => exact ⟨k + 1, _, A', n1 + 1, c', _, A2, n2, c2, taken, by omega, by omega, by go_num, rfl, rfl, H7.out.2.1, H7.out.2.2⟩
            case measure => simp [intOf]; omega
          · have hE0 : (putE b en == 0) = false := by simp [hE]
            have hI := HK.out.2.put1 hE
            have H7 := Lib.hid (And.intro k5 hI)
            clear k5 hI hby5 B5
            go_wp2
            go_roundw
            case rel => exact ⟨k + 1, _, A1, n1, c1, _, A2, n2, c2, taken, by omega, by omega, by go_num, rfl, rfl, ⟨_, _, _, H7.out.1⟩, H7.out.2⟩
            case measure => simp [intOf]; omega
        · have a0 := Int.emod_nonneg r8 (by decide : (34 : Int) ≠ 0)
          have a1 := Int.emod_lt_of_pos r8 (by decide : (0 : Int) < 34)
          have a2 := Int.emod_nonneg (r8 / 2) (by decide : (34 : Int) ≠ 0)
          have a3 := Int.emod_lt_of_pos (r8 / 2) (by decide : (0 : Int) < 34)
          go_wp2_with fail
          obtain ⟨f, hf⟩ : ∃ f, 1 + r8 % 34 = f := ⟨_, rfl⟩
          obtain ⟨t, ht⟩ : ∃ t, 1 + r8 / 2 % 34 = t := ⟨_, rfl⟩
          have wf : Wf f := by rw [← hf]; simp [Wf, Lit.wf, IntKind.min, IntKind.max, IntKind.signed, IntKind.bits]; omega
          have wt : Wf t := by rw [← ht]; simp [Wf, Lit.wf, IntKind.min, IntKind.max, IntKind.signed, IntKind.bits]; omega
          rw [hf, ht]
          clear hf ht a0 a1 a2 a3
          refine (k_note f t k wf wt (UInt8.ofNat k) (by rw [UInt8.toNat_ofNat', Nat.mod_eq_of_lt (by omega)]) wr).mono ?_
          rintro e w3 ⟨xa, xn, xc, rfl, hby, hb⟩
          obtain ⟨en, hen⟩ : ∃ en : En, (⟨f, t, [UInt8.ofNat k]⟩ : En) = en := ⟨_, rfl⟩
          have hef : en.fr = f := by rw [← hen]
          have het : en.to = t := by rw [← hen]
          have heb : en.bs.length = 1 := by rw [← hen]; rfl
          rw [hen] at hby
          clear hen
          obtain ⟨w4, hw4⟩ : ∃ w4, w3.alloc (.cells #[.int .i64 f, .int .i64 t, .slice xa xn xc] 29) = w4 := ⟨_, rfl⟩
          have B4 : Blk w4 w3.heap.size 29 [.int .i64 f, .int .i64 t, .slice xa xn xc] := by rw [← hw4]; exact Blk.new rfl rfl
          have b4 : Below w3.heap.size w3 w4 := by rw [← hw4]; exact (Below.refl _ _).alloc (Nat.le_refl _) _
          have z4 : w4.heap.size = w3.heap.size + 1 := by rw [← hw4]; simp
          have z3 := hb.size
          have k4 := HK.out.1.box (hb.trans (b4.mono hb.size))
          have hby4 := hby.below b4 (fun i hi => hi.2) (Nat.le_refl _)
          have d0 := B4.cell (i := 0) rfl
          have d1 := B4.cell (i := 1) rfl
          have d2 := B4.cell (i := 2) rfl
          have H4 := Lib.hid (And.intro k4 (And.intro hby4 (And.intro B4 (And.intro hef (And.intro het heb)))))
          clear b4 k4 hby4 hby hb B4 hef het heb
          go_wp2_with fail
          have hput := k_put (E := putE b en) (b' := putB b en) H4.out.1.bk ⟨en, xa, xn, xc⟩ H4.out.2.1 (by omega) (by have h := H4.out.2.1.1; have e : en.bs.length = xn := h; have := H4.out.2.2.2.2.2; show xn ≤ _; omega) rfl rfl
          dsimp only at hput
          rw [H4.out.2.2.2.1, H4.out.2.2.2.2.1] at hput
          refine hput.mono ?_
          rintro e w5 ⟨rfl, hk, ho⟩
          have k5 := H4.out.1.call hk (fun i hi => hi) ho
          have hby5 := H4.out.2.1.stays ho fun i hi => .inr ⟨hi.1, by omega⟩
          have B5 := ho.blk H4.out.2.2.1 fun e => e (.inr ⟨by omega, by omega⟩)
          have e0 := B5.cell (i := 0) rfl
          have e1 := B5.cell (i := 1) rfl
          have e2 := B5.cell (i := 2) rfl
          clear hput hk ho d0 d1 d2
          by_cases hE : putE b en = 0
          · have hE0 : (putE b en == 0) = true := by rw [hE]; rfl
            have hI := HK.out.2.put0 hE
            obtain ⟨w6, hw6⟩ : ∃ w6, w5.alloc (.cells #[.int .i64 f, .int .i64 t, .slice xa xn xc] 29) = w6 := ⟨_, rfl⟩
            obtain ⟨A', c', w7, hap, hP7⟩ := k5.pushP ⟨en, xa, xn, xc⟩ hby5 (fun i hi => ⟨.inr ⟨hi.1, by omega⟩, fun e => by have := HK.out.1.p.lt i e; omega, fun e => by have := HK.out.1.t.lt i e; omega, by have := HK.out.1.bk.bel.size; omega⟩) (by omega) w6 (by dsimp only; rw [H4.out.2.2.2.1, H4.out.2.2.2.2.1]; exact hw6)
            have H7 := Lib.hid (And.intro hap (And.intro hP7 hI))
            clear hap hP7 hI k5 hby5 B5
            go_wp2_with (refine wpList_app rfl _ _ _ _ rfl _ _ _ _ rfl rfl H7.out.1 ?_)
            go_roundw
            case rel => exact ⟨k + 1, _, A', n1 + 1, c', _, A2, n2, c2, taken, by omega, by omega, by go_num, rfl, rfl, H7.out.2.1, H7.out.2.2⟩
            case measure => simp [intOf]; omega
          · have hE0 : (putE b en == 0) = false := by simp [hE]
            have hI := HK.out.2.put1 hE
            have H7 := Lib.hid (And.intro k5 hI)
            clear k5 hI hby5 B5
            go_wp2
            go_roundw
            case rel => exact ⟨k + 1, _, A1, n1, c1, _, A2, n2, c2, taken, by omega, by omega, by go_num, rfl, rfl, ⟨_, _, _, H7.out.1⟩, H7.out.2⟩
            case measure => simp [intOf]; omega
        · go_wp2_with fail
          refine (k_take (E := lackE b 0) (b' := takeB b 0) HK.out.1.bk 0 (lookB b 0) rfl rfl rfl).mono ?_
          rintro e w3 ⟨xa, xn, xc, M, rfl, hk, hby, ho, hM⟩
          have k3 := HK.out.1.call hk (fun i hi => .inl hi) ho
          obtain ⟨y, hy⟩ : ∃ y, lookB b 0 = y := ⟨_, rfl⟩
          rw [hy] at hby ⊢
          obtain ⟨w4, hw4⟩ : ∃ w4, w3.alloc (.cells #[.int .i64 y.fr, .int .i64 y.to, .slice xa xn xc] 29) = w4 := ⟨_, rfl⟩
          have B4 : Blk w4 w3.heap.size 29 [.int .i64 y.fr, .int .i64 y.to, .slice xa xn xc] := by rw [← hw4]; exact Blk.new rfl rfl
          have b4 : Below w3.heap.size w3 w4 := by rw [← hw4]; exact (Below.refl _ _).alloc (Nat.le_refl _) _
          have k4 := k3.box b4
          have hby4 := hby.below b4 (fun i hi => hk.2.2 i (.inr hi)) (Nat.le_refl _)
          have e0 := B4.cell (i := 0) rfl
          have e1 := B4.cell (i := 1) rfl
          have e2 := B4.cell (i := 2) rfl
          clear hk ho k3 b4 hby
          by_cases hE : lackE b 0 = 0
          · have hE0 : (lackE b 0 == 0) = true := by rw [hE]; rfl
            have hI := HK.out.2.take0 hE
            rw [hy] at hI
            clear hy
            obtain ⟨w6, hw6⟩ : ∃ w6, w4.alloc (.cells #[.int .i64 y.fr, .int .i64 y.to, .slice xa xn xc] 29) = w6 := ⟨_, rfl⟩
            obtain ⟨A', c', w7, hap, hP7⟩ := k4.swap.pushP ⟨y, xa, xn, xc⟩ hby4 (fun i hi => ⟨.inl (.inr hi), fun e => by have := HK.out.1.t.lt i e; have := hM i hi; omega, fun e => by have := HK.out.1.p.lt i e; have := hM i hi; omega, by have := HK.out.1.bk.bel.size; have := hM i hi; omega⟩) (by omega) w6 hw6
            have H7 := Lib.hid (And.intro hap (And.intro hP7.swap hI))
            clear hap hP7 hI k4 hby4 B4
            go_wp2_with (refine wpList_app rfl _ _ _ _ rfl _ _ _ _ rfl rfl H7.out.1 ?_)
            go_roundw
            case rel => exact ⟨k + 1, _, A1, n1, c1, _, A', n2 + 1, c', _, by omega, by omega, by go_num, rfl, rfl, H7.out.2.1, H7.out.2.2⟩
            case measure => simp [intOf]; omega
          · have hE0 : (lackE b 0 == 0) = false := by simp [hE]
            have hI := HK.out.2.take1 hE
            have H7 := Lib.hid (And.intro k4 hI)
            clear k4 hI hby4 B4 hy
            go_wp2
            go_roundw
            case rel => exact ⟨k + 1, _, A1, n1, c1, _, A2, n2, c2, _, by omega, by omega, by go_num, rfl, rfl, ⟨_, _, _, H7.out.1⟩, H7.out.2⟩
            case measure => simp [intOf]; omega
        · go_wp2_with fail
          refine (k_drop (E := lackE b 0) (b' := dropB b 0) HK.out.1.bk 0 (by omega) rfl rfl).mono ?_
          rintro e w3 ⟨rfl, hk, ho⟩
          have k3 := HK.out.1.call hk (fun i hi => hi) ho
          have hI := HK.out.2.drop 0
          have H7 := Lib.hid (And.intro k3 hI)
          clear hk ho k3 hI
          go_wp2
          go_roundw
          case rel => exact ⟨k + 1, _, A1, n1, c1, _, A2, n2, c2, _, by omega, by omega, by go_num, rfl, rfl, ⟨_, _, _, H7.out.1⟩, H7.out.2⟩
          case measure => simp [intOf]; omega
        · go_wp2_with fail
          refine (k_dbl (E := dblE b 0) (b' := dblB b 0) HK.out.1.bk 0 (by omega) rfl rfl).mono ?_
          rintro e w3 ⟨rfl, hk, ho⟩
          have k3 := HK.out.1.call hk (fun i hi => hi) ho
          have hI := HK.out.2.dbl 0
          have H7 := Lib.hid (And.intro k3 hI)
          clear hk ho k3 hI
          go_wp2
          go_roundw
          case rel => exact ⟨k + 1, _, A1, n1, c1, _, A2, n2, c2, _, by omega, by omega, by go_num, rfl, rfl, ⟨_, _, _, H7.out.1⟩, H7.out.2⟩
          case measure => simp [intOf]; omega
      · have hm1 : (m : Int) > 0 := by omega
        have hmz : ((m : Int) == 0) = false := by simp; omega
        go_wp2_with fail
        refine (k_len HK.out.1.bk m Hm.out).mono ?_; rintro e wr ⟨rfl, rfl⟩
        have hrm0 := Int.emod_nonneg r8 (by omega : (m : Int) ≠ 0)
        have hrm1 := Int.emod_lt_of_pos r8 (show (0 : Int) < m by omega)
        have htm : r8.tmod m = r8 % m := Int.tmod_eq_emod_of_nonneg q0
        go_wp2_with fail
        refine (HB6.out wr).mono ?_; rintro e wr ⟨rfl, rfl⟩
        rw [htm] at *
        obtain ⟨at_, hat⟩ : ∃ a, r8 % m = a := ⟨_, rfl⟩
        rw [hat] at hrm0 hrm1 ⊢
        clear hat htm
        rcases (show r = 0 ∨ r = 1 ∨ r = 2 ∨ r = 3 ∨ r = 4 ∨ r = 5 by omega) with rfl | rfl | rfl | rfl | rfl | rfl
        · have a0 := Int.emod_nonneg r8 (by decide : (34 : Int) ≠ 0)
          have a1 := Int.emod_lt_of_pos r8 (by decide : (0 : Int) < 34)
          have a2 := Int.emod_nonneg (r8 / 2) (by decide : (34 : Int) ≠ 0)
          have a3 := Int.emod_lt_of_pos (r8 / 2) (by decide : (0 : Int) < 34)
          go_wp2_with fail
          obtain ⟨f, hf⟩ : ∃ f, 1 + r8 % 34 = f := ⟨_, rfl⟩
          obtain ⟨t, ht⟩ : ∃ t, 1 + r8 / 2 % 34 = t := ⟨_, rfl⟩
          have wf : Wf f := by rw [← hf]; simp [Wf, Lit.wf, IntKind.min, IntKind.max, IntKind.signed, IntKind.bits]; omega
          have wt : Wf t := by rw [← ht]; simp [Wf, Lit.wf, IntKind.min, IntKind.max, IntKind.signed, IntKind.bits]; omega
          rw [hf, ht]
          clear hf ht a0 a1 a2 a3
          refine (k_note f t k wf wt (UInt8.ofNat k) (by rw [UInt8.toNat_ofNat', Nat.mod_eq_of_lt (by omega)]) wr).mono ?_
          rintro e w3 ⟨xa, xn, xc, rfl, hby, hb⟩
          obtain ⟨en, hen⟩ : ∃ en : En, (⟨f, t, [UInt8.ofNat k]⟩ : En) = en := ⟨_, rfl⟩
          have hef : en.fr = f := by rw [← hen]
          have het : en.to = t := by rw [← hen]
          have heb : en.bs.length = 1 := by rw [← hen]; rfl
          rw [hen] at hby
          clear hen
          obtain ⟨w4, hw4⟩ : ∃ w4, w3.alloc (.cells #[.int .i64 f, .int .i64 t, .slice xa xn xc] 29) = w4 := ⟨_, rfl⟩
          have B4 : Blk w4 w3.heap.size 29 [.int .i64 f, .int .i64 t, .slice xa xn xc] := by rw [← hw4]; exact Blk.new rfl rfl
          have b4 : Below w3.heap.size w3 w4 := by rw [← hw4]; exact (Below.refl _ _).alloc (Nat.le_refl _) _
          have z4 : w4.heap.size = w3.heap.size + 1 := by rw [← hw4]; simp
          have z3 := hb.size
          have k4 := HK.out.1.box (hb.trans (b4.mono hb.size))
          have hby4 := hby.below b4 (fun i hi => hi.2) (Nat.le_refl _)
          have d0 := B4.cell (i := 0) rfl
          have d1 := B4.cell (i := 1) rfl
          have d2 := B4.cell (i := 2) rfl
          have H4 := Lib.hid (And.intro k4 (And.intro hby4 (And.intro B4 (And.intro hef (And.intro het heb)))))
          clear b4 k4 hby4 hby hb B4 hef het heb
          go_wp2_with fail
          have hput := k_put (E := putE b en) (b' := putB b en) H4.out.1.bk ⟨en, xa, xn, xc⟩ H4.out.2.1 (by omega) (by have h := H4.out.2.1.1; have e : en.bs.length = xn := h; have := H4.out.2.2.2.2.2; show xn ≤ _; omega) rfl rfl
          dsimp only at hput
          rw [H4.out.2.2.2.1, H4.out.2.2.2.2.1] at hput
          refine hput.mono ?_
          rintro e w5 ⟨rfl, hk, ho⟩
          have k5 := H4.out.1.call hk (fun i hi => hi) ho
          have hby5 := H4.out.2.1.stays ho fun i hi => .inr ⟨hi.1, by omega⟩
          have B5 := ho.blk H4.out.2.2.1 fun e => e (.inr ⟨by omega, by omega⟩)
          have e0 := B5.cell (i := 0) rfl
          have e1 := B5.cell (i := 1) rfl
          have e2 := B5.cell (i := 2) rfl
          clear hput hk ho d0 d1 d2
          by_cases hE : putE b en = 0
          · have hE0 : (putE b en == 0) = true := by rw [hE]; rfl
            have hI := HK.out.2.put0 hE
            obtain ⟨w6, hw6⟩ : ∃ w6, w5.alloc (.cells #[.int .i64 f, .int .i64 t, .slice xa xn xc] 29) = w6 := ⟨_, rfl⟩
            obtain ⟨A', c', w7, hap, hP7⟩ := k5.pushP ⟨en, xa, xn, xc⟩ hby5 (fun i hi => ⟨.inr ⟨hi.1, by omega⟩, fun e => by have := HK.out.1.p.lt i e; omega, fun e => by have := HK.out.1.t.lt i e; omega, by have := HK.out.1.bk.bel.size; omega⟩) (by omega) w6 (by dsimp only; rw [H4.out.2.2.2.1, H4.out.2.2.2.2.1]; exact hw6)
            have H7 := Lib.hid (And.intro hap (And.intro hP7 hI))
            clear hap hP7 hI k5 hby5 B5
            go_wp2_with (refine wpList_app rfl _ _ _ _ rfl _ _ _ _ rfl rfl H7.out.1 ?_)
            go_roundw
            case rel => exact ⟨k + 1, _, A', n1 + 1, c', _, A2, n2, c2, taken, by omega, by omega, by go_num, rfl, rfl, H7.out.2.1, H7.out.2.2⟩
            case measure => simp [intOf]; omega
          · have hE0 : (putE b en == 0) = false := by simp [hE]
            have hI := HK.out.2.put1 hE
            have H7 := Lib.hid (And.intro k5 hI)
            clear k5 hI hby5 B5
            go_wp2
            go_roundw
            case rel => exact ⟨k + 1, _, A1, n1, c1, _, A2, n2, c2, taken, by omega, by omega, by go_num, rfl, rfl, ⟨_, _, _, H7.out.1⟩, H7.out.2⟩
            case measure => simp [intOf]; omega
        · have a0 := Int.emod_nonneg r8 (by decide : (34 : Int) ≠ 0)
          have a1 := Int.emod_lt_of_pos r8 (by decide : (0 : Int) < 34)
          have a2 := Int.emod_nonneg (r8 / 2) (by decide : (34 : Int) ≠ 0)
          have a3 := Int.emod_lt_of_pos (r8 / 2) (by decide : (0 : Int) < 34)
          go_wp2_with fail
          obtain ⟨f, hf⟩ : ∃ f, 1 + r8 % 34 = f := ⟨_, rfl⟩
          obtain ⟨t, ht⟩ : ∃ t, 1 + r8 / 2 % 34 = t := ⟨_, rfl⟩
          have wf : Wf f := by rw [← hf]; simp [Wf, Lit.wf, IntKind.min, IntKind.max, IntKind.signed, IntKind.bits]; omega
          have wt : Wf t := by rw [← ht]; simp [Wf, Lit.wf, IntKind.min, IntKind.max, IntKind.signed, IntKind.bits]; omega
          rw [hf, ht]
          clear hf ht a0 a1 a2 a3
          refine (k_note f t k wf wt (UInt8.ofNat k) (by rw [UInt8.toNat_ofNat', Nat.mod_eq_of_lt (by omega)]) wr).mono ?_
          rintro e w3 ⟨xa, xn, xc, rfl, hby, hb⟩
          obtain ⟨en, hen⟩ : ∃ en : En, (⟨f, t, [UInt8.ofNat k]⟩ : En) = en := ⟨_, rfl⟩
          have hef : en.fr = f := by rw [← hen]
          have het : en.to = t := by rw [← hen]
          have heb : en.bs.length = 1 := by rw [← hen]; rfl
          rw [hen] at hby
          clear hen
          obtain ⟨w4, hw4⟩ : ∃ w4, w3.alloc (.cells #[.int .i64 f, .int .i64 t, .slice xa xn xc] 29) = w4 := ⟨_, rfl⟩
          have B4 : Blk w4 w3.heap.size 29 [.int .i64 f, .int .i64 t, .slice xa xn xc] := by rw [← hw4]; exact Blk.new rfl rfl
          have b4 : Below w3.heap.size w3 w4 := by rw [← hw4]; exact (Below.refl _ _).alloc (Nat.le_refl _) _
          have z4 : w4.heap.size = w3.heap.size + 1 := by rw [← hw4]; simp
          have z3 := hb.size
          have k4 := HK.out.1.box (hb.trans (b4.mono hb.size))
          have hby4 := hby.below b4 (fun i hi => hi.2) (Nat.le_refl _)
          have d0 := B4.cell (i := 0) rfl
          have d1 := B4.cell (i := 1) rfl
          have d2 := B4.cell (i := 2) rfl
          have H4 := Lib.hid (And.intro k4 (And.intro hby4 (And.intro B4 (And.intro hef (And.intro het heb)))))
          clear b4 k4 hby4 hby hb B4 hef het heb
          go_wp2_with fail
          have hput := k_put (E := putE b en) (b' := putB b en) H4.out.1.bk ⟨en, xa, xn, xc⟩ H4.out.2.1 (by omega) (by have h := H4.out.2.1.1; have e : en.bs.length = xn := h; have := H4.out.2.2.2.2.2; show xn ≤ _; omega) rfl rfl
          dsimp only at hput
          rw [H4.out.2.2.2.1, H4.out.2.2.2.2.1] at hput
          refine hput.mono ?_
          rintro e w5 ⟨rfl, hk, ho⟩
          have k5 := H4.out.1.call hk (fun i hi => hi) ho
          have hby5 := H4.out.2.1.stays ho fun i hi => .inr ⟨hi.1, by omega⟩
          have B5 := ho.blk H4.out.2.2.1 fun e => e (.inr ⟨by omega, by omega⟩)
          have e0 := B5.cell (i := 0) rfl
          have e1 := B5.cell (i := 1) rfl
          have e2 := B5.cell (i := 2) rfl
          clear hput hk ho d0 d1 d2
          by_cases hE : putE b en = 0
          · have hE0 : (putE b en == 0) = true := by rw [hE]; rfl
            have hI := HK.out.2.put0 hE
            obtain ⟨w6, hw6⟩ : ∃ w6, w5.alloc (.cells #[.int .i64 f, .int .i64 t, .slice xa xn xc] 29) = w6 := ⟨_, rfl⟩
            obtain ⟨A', c', w7, hap, hP7⟩ := k5.pushP ⟨en, xa, xn, xc⟩ hby5 (fun i hi => ⟨.inr ⟨hi.1, by omega⟩, fun e => by have := HK.out.1.p.lt i e; omega, fun e => by have := HK.out.1.t.lt i e; omega, by have := HK.out.1.bk.bel.size; omega⟩) (by omega) w6 (by dsimp only; rw [H4.out.2.2.2.1, H4.out.2.2.2.2.1]; exact hw6)
            have H7 := Lib.hid (And.intro hap (And.intro hP7 hI))
            clear hap hP7 hI k5 hby5 B5
            go_wp2_with (refine wpList_app rfl _ _ _ _ rfl _ _ _ _ rfl rfl H7.out.1 ?_)
            go_roundw
            case rel => exact ⟨k + 1, _, A', n1 + 1, c', _, A2, n2, c2, taken, by omega, by omega, by go_num, rfl, rfl, H7.out.2.1, H7.out.2.2⟩
            case measure => simp [intOf]; omega
          · have hE0 : (putE b en == 0) = false := by simp [hE]
            have hI := HK.out.2.put1 hE
            have H7 := Lib.hid (And.intro k5 hI)
            clear k5 hI hby5 B5
            go_wp2
            go_roundw
            case rel => exact ⟨k + 1, _, A1, n1, c1, _, A2, n2, c2, taken, by omega, by omega, by go_num, rfl, rfl, ⟨_, _, _, H7.out.1⟩, H7.out.2⟩
            case measure => simp [intOf]; omega
        · have a0 := Int.emod_nonneg r8 (by decide : (34 : Int) ≠ 0)
          have a1 := Int.emod_lt_of_pos r8 (by decide : (0 : Int) < 34)
          have a2 := Int.emod_nonneg (r8 / 2) (by decide : (34 : Int) ≠ 0)
          have a3 := Int.emod_lt_of_pos (r8 / 2) (by decide : (0 : Int) < 34)
          go_wp2_with fail
          obtain ⟨f, hf⟩ : ∃ f, 1 + r8 % 34 = f := ⟨_, rfl⟩
          obtain ⟨t, ht⟩ : ∃ t, 1 + r8 / 2 % 34 = t := ⟨_, rfl⟩
          have wf : Wf f := by rw [← hf]; simp [Wf, Lit.wf, IntKind.min, IntKind.max, IntKind.signed, IntKind.bits]; omega
          have wt : Wf t := by rw [← ht]; simp [Wf, Lit.wf, IntKind.min, IntKind.max, IntKind.signed, IntKind.bits]; omega
          rw [hf, ht]
          clear hf ht a0 a1 a2 a3
          refine (k_note f t k wf wt (UInt8.ofNat k) (by rw [UInt8.toNat_ofNat', Nat.mod_eq_of_lt (by omega)]) wr).mono ?_
          rintro e w3 ⟨xa, xn, xc, rfl, hby, hb⟩
          obtain ⟨en, hen⟩ : ∃ en : En, (⟨f, t, [UInt8.ofNat k]⟩ : En) = en := ⟨_, rfl⟩
          have hef : en.fr = f := by rw [← hen]
          have het : en.to = t := by rw [← hen]
          have heb : en.bs.length = 1 := by rw [← hen]; rfl
          rw [hen] at hby
          clear hen
          obtain ⟨w4, hw4⟩ : ∃ w4, w3.alloc (.cells #[.int .i64 f, .int .i64 t, .slice xa xn xc] 29) = w4 := ⟨_, rfl⟩
          have B4 : Blk w4 w3.heap.size 29 [.int .i64 f, .int .i64 t, .slice xa xn xc] := by rw [← hw4]; exact Blk.new rfl rfl
          have b4 : Below w3.heap.size w3 w4 := by rw [← hw4]; exact (Below.refl _ _).alloc (Nat.le_refl _) _
          have z4 : w4.heap.size = w3.heap.size + 1 := by rw [← hw4]; simp
          have z3 := hb.size
          have k4 := HK.out.1.box (hb.trans (b4.mono hb.size))
          have hby4 := hby.below b4 (fun i hi => hi.2) (Nat.le_refl _)
          have d0 := B4.cell (i := 0) rfl
          have d1 := B4.cell (i := 1) rfl
          have d2 := B4.cell (i := 2) rfl
          have H4 := Lib.hid (And.intro k4 (And.intro hby4 (And.intro B4 (And.intro hef (And.intro het heb)))))
          clear b4 k4 hby4 hby hb B4 hef het heb
          go_wp2_with fail
          have hput := k_put (E := putE b en) (b' := putB b en) H4.out.1.bk ⟨en, xa, xn, xc⟩ H4.out.2.1 (by omega) (by have h := H4.out.2.1.1; have e : en.bs.length = xn := h; have := H4.out.2.2.2.2.2; show xn ≤ _; omega) rfl rfl
          dsimp only at hput
          rw [H4.out.2.2.2.1, H4.out.2.2.2.2.1] at hput
          refine hput.mono ?_
          rintro e w5 ⟨rfl, hk, ho⟩
          have k5 := H4.out.1.call hk (fun i hi => hi) ho
          have hby5 := H4.out.2.1.stays ho fun i hi => .inr ⟨hi.1, by omega⟩
          have B5 := ho.blk H4.out.2.2.1 fun e => e (.inr ⟨by omega, by omega⟩)
          have e0 := B5.cell (i := 0) rfl
          have e1 := B5.cell (i := 1) rfl
          have e2 := B5.cell (i := 2) rfl
          clear hput hk ho d0 d1 d2
          by_cases hE : putE b en = 0
          · have hE0 : (putE b en == 0) = true := by rw [hE]; rfl
            have hI := HK.out.2.put0 hE
            obtain ⟨w6, hw6⟩ : ∃ w6, w5.alloc (.cells #[.int .i64 f, .int .i64 t, .slice xa xn xc] 29) = w6 := ⟨_, rfl⟩
            obtain ⟨A', c', w7, hap, hP7⟩ := k5.pushP ⟨en, xa, xn, xc⟩ hby5 (fun i hi => ⟨.inr ⟨hi.1, by omega⟩, fun e => by have := HK.out.1.p.lt i e; omega, fun e => by have := HK.out.1.t.lt i e; omega, by have := HK.out.1.bk.bel.size; omega⟩) (by omega) w6 (by dsimp only; rw [H4.out.2.2.2.1, H4.out.2.2.2.2.1]; exact hw6)
            have H7 := Lib.hid (And.intro hap (And.intro hP7 hI))
            clear hap hP7 hI k5 hby5 B5
            go_wp2_with (refine wpList_app rfl _ _ _ _ rfl _ _ _ _ rfl rfl H7.out.1 ?_)
            go_roundw
            case rel => exact ⟨k + 1, _, A', n1 + 1, c', _, A2, n2, c2, taken, by omega, by omega, by go_num, rfl, rfl, H7.out.2.1, H7.out.2.2⟩
            case measure => simp [intOf]; omega
          · have hE0 : (putE b en == 0) = false := by simp [hE]
            have hI := HK.out.2.put1 hE
            have H7 := Lib.hid (And.intro k5 hI)
            clear k5 hI hby5 B5
            go_wp2
            go_roundw
            case rel => exact ⟨k + 1, _, A1, n1, c1, _, A2, n2, c2, taken, by omega, by omega, by go_num, rfl, rfl, ⟨_, _, _, H7.out.1⟩, H7.out.2⟩
            case measure => simp [intOf]; omega
        · go_wp2_with fail
          refine (k_take (E := lackE b at_) (b' := takeB b at_) HK.out.1.bk at_ (lookB b at_) rfl rfl rfl).mono ?_
          rintro e w3 ⟨xa, xn, xc, M, rfl, hk, hby, ho, hM⟩
          have k3 := HK.out.1.call hk (fun i hi => .inl hi) ho
          obtain ⟨y, hy⟩ : ∃ y, lookB b at_ = y := ⟨_, rfl⟩
          rw [hy] at hby ⊢
          obtain ⟨w4, hw4⟩ : ∃ w4, w3.alloc (.cells #[.int .i64 y.fr, .int .i64 y.to, .slice xa xn xc] 29) = w4 := ⟨_, rfl⟩
          have B4 : Blk w4 w3.heap.size 29 [.int .i64 y.fr, .int .i64 y.to, .slice xa xn xc] := by rw [← hw4]; exact Blk.new rfl rfl
          have b4 : Below w3.heap.size w3 w4 := by rw [← hw4]; exact (Below.refl _ _).alloc (Nat.le_refl _) _
          have k4 := k3.box b4
          have hby4 := hby.below b4 (fun i hi => hk.2.2 i (.inr hi)) (Nat.le_refl _)
          have e0 := B4.cell (i := 0) rfl
          have e1 := B4.cell (i := 1) rfl
          have e2 := B4.cell (i := 2) rfl
          clear hk ho k3 b4 hby
          by_cases hE : lackE b at_ = 0
          · have hE0 : (lackE b at_ == 0) = true := by rw [hE]; rfl
            have hI := HK.out.2.take0 hE
            rw [hy] at hI
            clear hy
            obtain ⟨w6, hw6⟩ : ∃ w6, w4.alloc (.cells #[.int .i64 y.fr, .int .i64 y.to, .slice xa xn xc] 29) = w6 := ⟨_, rfl⟩
            obtain ⟨A', c', w7, hap, hP7⟩ := k4.swap.pushP ⟨y, xa, xn, xc⟩ hby4 (fun i hi => ⟨.inl (.inr hi), fun e => by have := HK.out.1.t.lt i e; have := hM i hi; omega, fun e => by have := HK.out.1.p.lt i e; have := hM i hi; omega, by have := HK.out.1.bk.bel.size; have := hM i hi; omega⟩) (by omega) w6 hw6
            have H7 := Lib.hid (And.intro hap (And.intro hP7.swap hI))
            clear hap hP7 hI k4 hby4 B4
            go_wp2_with (refine wpList_app rfl _ _ _ _ rfl _ _ _ _ rfl rfl H7.out.1 ?_)
            go_roundw
            case rel => exact ⟨k + 1, _, A1, n1, c1, _, A', n2 + 1, c', _, by omega, by omega, by go_num, rfl, rfl, H7.out.2.1, H7.out.2.2⟩
            case measure => simp [intOf]; omega
          · have hE0 : (lackE b at_ == 0) = false := by simp [hE]
            have hI := HK.out.2.take1 hE
            have H7 := Lib.hid (And.intro k4 hI)
            clear k4 hI hby4 B4 hy
            go_wp2
            go_roundw
            case rel => exact ⟨k + 1, _, A1, n1, c1, _, A2, n2, c2, _, by omega, by omega, by go_num, rfl, rfl, ⟨_, _, _, H7.out.1⟩, H7.out.2⟩
            case measure => simp [intOf]; omega
        · go_wp2_with fail
          refine (k_drop (E := lackE b at_) (b' := dropB b at_) HK.out.1.bk at_ (by omega) rfl rfl).mono ?_
          rintro e w3 ⟨rfl, hk, ho⟩
          have k3 := HK.out.1.call hk (fun i hi => hi) ho
          have hI := HK.out.2.drop at_
          have H7 := Lib.hid (And.intro k3 hI)
          clear hk ho k3 hI
          go_wp2
          go_roundw
          case rel => exact ⟨k + 1, _, A1, n1, c1, _, A2, n2, c2, _, by omega, by omega, by go_num, rfl, rfl, ⟨_, _, _, H7.out.1⟩, H7.out.2⟩
          case measure => simp [intOf]; omega
        · go_wp2_with fail
          refine (k_dbl (E := dblE b at_) (b' := dblB b at_) HK.out.1.bk at_ (by omega) rfl rfl).mono ?_
          rintro e w3 ⟨rfl, hk, ho⟩
          have k3 := HK.out.1.call hk (fun i hi => hi) ho
          have hI := HK.out.2.dbl at_
          have H7 := Lib.hid (And.intro k3 hI)
          clear hk ho k3 hI
          go_wp2
          go_roundw
          case rel => exact ⟨k + 1, _, A1, n1, c1, _, A2, n2, c2, _, by omega, by omega, by go_num, rfl, rfl, ⟨_, _, _, H7.out.1⟩, H7.out.2⟩
          case measure => simp [intOf]; omega
    · have hc : ¬ ((k : Int) < n) ∨ ((k : Int) < n ∧ ¬ (k : Int) < 60) := by omega
      rcases hc with hc | ⟨hc, hc2⟩
      · go_wp2
        go_ret3
        exact ⟨g, b, A1, n1, c1, put, A2, n2, c2, taken, rfl, HP.out.1, HP.out.2.tk, HP.out.2.th, HP.out.2.sum, by have := HP.out.2.sk; omega, by have := HP.out.2.pk; omega⟩
      · go_wp2
        go_ret3
        exact ⟨g, b, A1, n1, c1, put, A2, n2, c2, taken, rfl, HP.out.1, HP.out.2.tk, HP.out.2.th, HP.out.2.sum, by have := HP.out.2.sk; omega, by have := HP.out.2.pk; omega⟩
end Go.Proofs.Ytlecihbclkohjaa
