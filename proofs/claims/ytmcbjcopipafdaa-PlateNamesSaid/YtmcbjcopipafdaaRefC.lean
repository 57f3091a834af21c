/-
  Read, Write, Flush, Fail, Waits, over the reference's text.
-/
import Derived.Test.YtmcbjcopipafdaaRefG
namespace Go.Proofs.Ytmcbjcopipafdaa
open Go.RowKit Go.Maps
set_option linter.unusedVariables false

theorem Mine.low {w : World} {base : Nat} {e : TypeId} {A : Option Addr} {n c : Nat} {l : List UInt8} (h : Mine w base e (.slice A n c) l) (hl : 0 < l.length) {b off : Nat} (hA : A = some ⟨b, off, none⟩) : base ≤ b := by
  obtain ⟨_, ⟨e1, hz⟩ | ⟨g, cap, cur, e1, hb, _⟩⟩ := h
  · omega
  · injection e1 with e1
    rw [hA] at e1
    injection e1 with e1
    injection e1 with e1
    omega
theorem BOff.bs {w : World} {M : Nat → Prop} {A : Option Addr} {l : List UInt8} (h : BOff w M A l) : Bs w A l := ⟨by rw [cbs_length]; simp, fun hl => let ⟨b, off, e, hb, _, hc⟩ := h hl; ⟨b, off, e, hb, hc⟩⟩
section
variable {w w' : World} {M : Nat → Prop} {g rs rn rw : Nat} {R : Rm} {l : List UInt8} {k : List Bool}
def readR (R : Rm) (x : Int) : Int × List UInt8 := if R.dead = true then (50, []) else if thereR R x = false then (9, []) else (0, R.V[x.toNat]?.getD [])
/-- An answer of new bytes. -/
def NewR (w : World) (E : Int) (l : List UInt8) (e : Ending) (w' : World) : Prop := ∃ A c, e = .returned (.tuple #[.slice A l.length c, .int .i64 E]) ∧ l.length ≤ c ∧ c ≤ maxLen ∧ Bs w' A l ∧ Below w.heap.size w w'
set_option maxRecDepth 100000 in
set_option maxHeartbeats 800000 in
theorem rread_any (h : RefM w M g rs rn rw R) (x : Int) : Calls Try.prog 38 #[.pointer (some ⟨g, 0, none⟩), .int .i64 x] w (NewR w (readR R x).1 (readR R x).2) := by
  have hnot : ∀ (x : Bool) (w : World), (Op.unary .not (.bool x)).run Try.prog w = .ok (.bool (!x)) w := fun _ _ => rfl
  obtain ⟨nn, hnn⟩ : ∃ nn, R.S.length = nn := ⟨_, rfl⟩
  obtain ⟨cs, cn, cw, kv, a1, a2, a3, a4, a5, a6, hb, _⟩ := h.blk
  have c3 : w.cell? ⟨g, 3, none⟩ = some (.bool R.dead) := hb.cell rfl
  have c1 : w.cell? ⟨g, 1, none⟩ = some (.slice (some ⟨rn, 0, none⟩) nn cn) := by have := hb.cell (i := 1) rfl; rw [hnn] at this; exact this
  have hth := rthere_any h x
  have hn2 := h.n2
  have hlv := h.lv
  unfold readR
  by_cases hd : R.dead = true
  · rw [if_pos hd]
    rw [hd] at c3
    clear h hb hd hth
    go_enter Try.func38, Try.ntmps38
    go_wp2
    go_ret2
    exact ⟨none, 0, rfl, Nat.le_refl _, by simp [maxLen], Bs.nil _ _, Below.refl _ _⟩
  · rw [if_neg hd]
    have hd2 : R.dead = false := by simpa using hd
    rw [hd2] at c3
    by_cases ht : thereR R x = false
    · rw [if_pos ht]
      rw [ht] at hth
      have Hth := Lib.hid hth
      clear h hb hd hd2 hth ht
      go_enter Try.func38, Try.ntmps38
      go_wp2_with (go_at_call 49; refine Hth.out.mono ?_; rintro e w' ⟨rfl, rfl⟩)
      go_ret2
      exact ⟨none, 0, rfl, Nat.le_refl _, by simp [maxLen], Bs.nil _ _, Below.refl _ _⟩
    · rw [if_neg ht]
      have ht2 : thereR R x = true := by simpa using ht
      rw [ht2] at hth
      have hin : 0 ≤ x ∧ x < R.S.length := by unfold thereR at ht2; simpa using ht2
      obtain ⟨i, rfl⟩ : ∃ i : Nat, x = (i : Int) := ⟨x.toNat, by omega⟩
      rw [Int.toNat_natCast]
      have hiV : i < R.V.length := by omega
      obtain ⟨Ax, cx, q1, q2, q3, q4, q5, q6⟩ := h.rowV.at_ (i := i) hiV
      rw [List.getElem?_eq_getElem hiV]
      have i0 : (0 : Int) ≤ i := by omega
      have i1 : (i : Int) < nn := by omega
      have Hth := Lib.hid hth
      have Hc := Lib.hid (copyBytes Ax cx 64 R.V[i] w q4.bs q5 (by omega))
      have H5 := Lib.hid q5
      clear h hb hd hd2 hth ht ht2 hin q4 q5 hnn
      simp only [Option.getD_some]
      go_enter Try.func38, Try.ntmps38
      go_wp2_with (go_at_call 49; refine Hth.out.mono ?_; rintro e w' ⟨rfl, rfl⟩)
      refine Hc.out.mono ?_
      rintro e w1 ⟨v, rfl, hMi, hbv⟩
      obtain ⟨A2, c2, rfl, hc2, hcm2, hBs2⟩ := Mine.form hMi
      have H2 := Lib.hid (And.intro hc2 (And.intro hcm2 (And.intro hBs2 hbv)))
      clear hMi hc2 hcm2 hBs2 hbv
      go_wp2
      go_ret2
      exact ⟨A2, c2, rfl, H2.out.1, H2.out.2.1, H2.out.2.2.1, H2.out.2.2.2⟩

def writeR (R : Rm) (x : Int) (b : List UInt8) : Int × Rm := if R.dead = true then (50, R) else if thereR R x = false then (9, R) else if b.length ≠ 64 then (2, R) else
  if (failsR R).1 = true then (50, (failsR R).2) else (0, { (failsR R).2 with V := (failsR R).2.V.set x.toNat b, B := (failsR R).2.B.set x.toNat true })
theorem failsR_same (R : Rm) : (failsR R).2.S.length = R.S.length := by
  unfold failsR
  split
  · rfl
  · split
    · rfl
    · exact (goneN_same R R.K R.S.length).1
set_option maxRecDepth 100000 in
set_option maxHeartbeats 1600000 in
theorem rwrite_any (h : RefM w M g rs rn rw R) (x : Int) (A : Option Addr) (n c : Nat) (hn : l.length = n) (hnm : n ≤ maxLen) (hb : BOff w M A l) :
    Calls Try.prog 35 #[.pointer (some ⟨g, 0, none⟩), .int .i64 x, .slice A n c] w fun e w' => e = .returned (.int .i64 (writeR R x l).1) ∧ RefM w' M g rs rn rw (writeR R x l).2 ∧ Out (G4 g rs rn rw) w w' := by
  have hnot : ∀ (x : Bool) (w : World), (Op.unary .not (.bool x)).run Try.prog w = .ok (.bool (!x)) w := fun _ _ => rfl
  unfold maxLen at hnm
  obtain ⟨cs, cn, cw, kv, a1, a2, a3, a4, a5, a6, hbk, _⟩ := h.blk
  have c3 : w.cell? ⟨g, 3, none⟩ = some (.bool R.dead) := hbk.cell rfl
  have hth := rthere_any h x
  have hfa := rfails_any h
  have hn2 := h.n2
  have Hh := Lib.hid (And.intro h (And.intro hb hn))
  unfold writeR
  by_cases hd : R.dead = true
  · rw [if_pos hd]
    rw [hd] at c3
    clear h hb hbk hd hth hfa hn
    go_enter Try.func35, Try.ntmps35
    go_wp2
    go_ret
    exact ⟨rfl, Hh.out.1, Out.refl _ _⟩
  · rw [if_neg hd]
    have hd2 : R.dead = false := by simpa using hd
    rw [hd2] at c3
    by_cases ht : thereR R x = false
    · rw [if_pos ht]
      rw [ht] at hth
      have Hth := Lib.hid hth
      clear h hb hbk hd hd2 hth ht hfa hn
      go_enter Try.func35, Try.ntmps35
      go_wp2_with (go_at_call 49; refine Hth.out.mono ?_; rintro e w' ⟨rfl, rfl⟩)
      go_ret
      exact ⟨rfl, Hh.out.1, Out.refl _ _⟩
    · rw [if_neg ht]
      have ht2 : thereR R x = true := by simpa using ht
      rw [ht2] at hth
      have hin : 0 ≤ x ∧ x < R.S.length := by unfold thereR at ht2; simpa using ht2
      obtain ⟨i, rfl⟩ : ∃ i : Nat, x = (i : Int) := ⟨x.toNat, by omega⟩
      rw [Int.toNat_natCast]
      have Hth := Lib.hid hth
      have hiS : i < R.S.length := by omega
      clear hth ht ht2 hd hd2 hbk
      by_cases h64 : n = 64
      rotate_left
      · rw [if_pos (by rw [hn]; exact h64)]
        have b64 : ((n : Int) != 64) = true := by simp; omega
        clear hfa hn h hb
        go_enter Try.func35, Try.ntmps35
        go_wp2_with (go_at_call 49; refine Hth.out.mono ?_; rintro e w' ⟨rfl, rfl⟩)
        go_ret
        exact ⟨rfl, Hh.out.1, Out.refl _ _⟩
      · subst h64
        rw [if_neg (by rw [hn]; decide)]
        have hsame := failsR_same R
        obtain ⟨F, hF⟩ : ∃ F, failsR R = F := ⟨_, rfl⟩
        rw [hF] at hfa hsame ⊢
        by_cases hf : F.1 = true
        · rw [if_pos hf]
          rw [hf] at hfa
          have Hfa := Lib.hid hfa
          clear hfa hf hn h hb hF hsame
          go_enter Try.func35, Try.ntmps35
          go_wp2_with (first
            | (go_at_call 49; refine Hth.out.mono ?_; rintro e w' ⟨rfl, rfl⟩)
            | (go_at_call 50; refine Hfa.out.mono ?_; rintro e w1 ⟨rfl, h1, h2⟩))
          go_ret
          exact ⟨rfl, h1, h2⟩
        rw [if_neg hf]
        have hf2 : F.1 = false := by simpa using hf
        rw [hf2] at hfa
        have Hfa := Lib.hid hfa
        have hiS2 : i < F.2.S.length := by omega
        clear hfa hf hf2 hn h hb hF
        go_enter Try.func35, Try.ntmps35
        go_wp2_with (first
          | (go_at_call 49; refine Hth.out.mono ?_; rintro e w' ⟨rfl, rfl⟩)
          | (go_at_call 50; refine Hfa.out.mono ?_; rintro e w1 ⟨rfl, h1, h2⟩))
        have Hf := Lib.hid (And.intro h1 h2)
        have hbs := ((Hh.out.2.1.out h2 Hh.out.1.grm).below ((Below.refl _ _).drew)).bs
        have Hc := Lib.hid (And.intro hbs Hh.out.2.2)
        obtain ⟨nn, hnn⟩ : ∃ nn, F.2.S.length = nn := ⟨_, rfl⟩
        obtain ⟨cs, cn, cw, kv, _, _, _, _, _, _, hbk, _⟩ := h1.drew.blk
        have c1 : w1.drew.cell? ⟨g, 1, none⟩ = some (.slice (some ⟨rn, 0, none⟩) nn cn) := by have := hbk.cell (i := 1) rfl; rw [hnn] at this; exact this
        have hglt : g < w1.drew.heap.size := hbk.lt
        have i0 : (0 : Int) ≤ i := by omega
        have i1 : (i : Int) < nn := by omega
        have Hnn := Lib.hid hnn
        clear h1 h2 hbs hbk hnn hsame
        go_wp2
        have Q0 : w1.drew.cell? ⟨g, 1, none⟩ = some (.slice (some ⟨rn, 0, none⟩) nn cn) := c1
        refine wp_region_held_drew (S := fun W' => W'.cell? ⟨g, 1, none⟩ = some (.slice (some ⟨rn, 0, none⟩) nn cn)) (by kernel_rfl) Q0 (fun _ => ?_)
        refine anyH_take (i := 0) (d := 20) (v := ?v0) rfl rfl (by kernel_rfl) (by kernel_rfl) (by kernel_rfl) (fun _ _ _ h => h) (Or.inl ⟨by rfl, ?y0⟩) Q0 ?r0
        case y0 => (intro w; go_simp; try with_reducible rfl)
        simp only [List.setIfInBounds_toArray, List.set_cons_zero, List.set_cons_succ]
        refine anyH_take (i := 1) (d := 21) (v := ?v1) rfl rfl (by kernel_rfl) (by kernel_rfl) (by kernel_rfl) (fun _ _ _ h => h) (Or.inl ⟨by rfl, ?y1⟩) Q0 ?r1
        case y1 => (intro w; go_simp; try with_reducible rfl)
        simp only [List.setIfInBounds_toArray, List.set_cons_zero, List.set_cons_succ]
        refine anyH_take (i := 2) (d := 22) (v := ?v2) rfl rfl (by kernel_rfl) (by kernel_rfl) (by kernel_rfl) (fun _ _ _ h => h) (Or.inl ⟨by rfl, ?y2⟩) Q0 ?r2
        case y2 => (intro w; go_simp; try with_reducible rfl)
        simp only [List.setIfInBounds_toArray, List.set_cons_zero, List.set_cons_succ]
        refine wpAnyH_take' (i := 3) (d := 23) (v := ?v3) rfl rfl (by kernel_rfl) (by kernel_rfl) (by kernel_rfl) (fun _ _ _ h => h) (Or.inl ⟨by rfl, ?y3⟩) Q0 ?r3
        case y3 => (intro w hSw; go_split_ands; go_simp; try with_reducible rfl)
        simp only [List.setIfInBounds_toArray, List.set_cons_zero, List.set_cons_succ]
        refine anyH_take (i := 4) (d := 24) (v := ?v4) rfl rfl (by kernel_rfl) (by kernel_rfl) (by kernel_rfl) (fun _ _ _ h => h) (Or.inl ⟨by rfl, ?y4⟩) Q0 ?r4
        case y4 => (intro w; go_simp; try with_reducible rfl)
        simp only [List.setIfInBounds_toArray, List.set_cons_zero, List.set_cons_succ]
        refine anyH_take (i := 5) (d := 25) (v := ?v5) rfl rfl (by kernel_rfl) (by kernel_rfl) (by kernel_rfl) (fun _ _ _ h => h) (Or.inl ⟨by rfl, ?y5⟩) Q0 ?r5
        case y5 => (intro w; go_simp; try with_reducible rfl)
        simp only [List.setIfInBounds_toArray, List.set_cons_zero, List.set_cons_succ]
        refine anyH_one (i := 6) (by kernel_rfl) ?_
        refine wpOp_step rfl (fun K hK => ?_)
        go_simp
        refine (copyBytes A c 64 l w1.drew Hc.out.1 Hc.out.2 (by omega)).mono ?_
        rintro e w2 ⟨v, rfl, hMi, hbv⟩
        have hR2 := Hf.out.1.drew.below hbv
        obtain ⟨A2, c2, rfl, hc2, hcm2, hBs2⟩ := Mine.form hMi
        have hn64 := Hc.out.2
        rw [hn64] at hc2 ⊢
        have hoff : BOff w2 M A2 l := BOff.ofBs hBs2 (fun b off e hm => by
          have h1 := Mine.low hMi (by rw [hn64]; decide) e
          have h2 := Hf.out.1.drew.lt b hm
          omega)
        obtain ⟨Ad, cd0, d1, _, _, _, _, fd⟩ := hR2.rowV.at_ (i := i) (by have := hR2.lv; have := hiS2; omega)
        obtain ⟨hPn, hOn⟩ := hR2.putV i hc2 hcm2 hoff hn64
        obtain ⟨cs5, cn5, cw5, kv5, _, _, _, _, _, _, hbk5, _⟩ := hR2.blk
        have Q1 : w2.cell? ⟨g, 1, none⟩ = some (.slice (some ⟨rn, 0, none⟩) nn cn) := (hbv.cell (p := ⟨g, 1, none⟩) hglt).trans c1
        have Q2 : (w2.setCell ⟨rn, i, none⟩ (.slice A2 64 c2)).cell? ⟨g, 1, none⟩ = some (.slice (some ⟨rn, 0, none⟩) nn cn) := (hOn.cell (o := 1) hbk5.lt hR2.nes.2.1).trans Q1
        have Hn := Lib.hid (And.intro hPn (And.intro hOn hbv))
        clear hPn hOn hbk5 hoff hc2 hcm2 hBs2 hMi hbv hn64
        refine hK _ _ ⟨Q1, ?_⟩
        clear hK K
        refine anyH_take (i := 7) (d := 27) (v := ?v7) rfl rfl (by kernel_rfl) (by kernel_rfl) (by kernel_rfl) (fun _ _ _ h => h) (Or.inl ⟨by rfl, ?y7⟩) Q1 ?r7
        case y7 => (intro w; go_simp; try with_reducible rfl)
        simp only [List.setIfInBounds_toArray, List.set_cons_zero, List.set_cons_succ]
        refine anyH_one (i := 8) (by kernel_rfl) ?_
        refine wpOp_step rfl (fun K hK => ?_)
        go_simp
        refine hK _ _ ⟨Q2, ?_⟩
        clear hK K
        refine wpAnyH_done (by kernel_rfl) ?_ _
        clear Q0 Q1 Q2 c1 d1 fd
        have hR3 := Hn.out.1
        obtain ⟨cs6, cn6, cw6, kv6, _, _, _, _, _, _, hbk6, _⟩ := hR3.drew.blk
        obtain ⟨w3, hw3⟩ : ∃ w3, w2.setCell ⟨rn, i, none⟩ (.slice A2 64 c2) = w3 := ⟨_, rfl⟩
        rw [hw3] at hR3 ⊢
        obtain ⟨cs7, cn7, cw7, kv7, _, _, _, _, _, _, hbk7, _⟩ := hR3.blk
        have c2w : w3.cell? ⟨g, 2, none⟩ = some (.slice (some ⟨rw, 0, none⟩) nn cw7) := by have := hbk7.cell (i := 2) rfl; rw [show ({ F.2 with V := F.2.V.set i l } : Rm).S.length = nn from Hnn.out] at this; exact this
        have hib : i < ({ F.2 with V := F.2.V.set i l } : Rm).B.length := by rw [hR3.lb]; exact (show i < F.2.S.length by have := Hnn.out; omega)
        obtain ⟨uW, cW, fW⟩ : ∃ u, w3.cell? ⟨rw, i, none⟩ = some u ∧ w3.frozen? ⟨rw, i, none⟩ = false := ⟨_, (hR3.rowW.at_ hib).1, (hR3.rowW.at_ hib).2⟩
        obtain ⟨hPn, hOn⟩ := hR3.putB i true
        have hO1 := Hn.out.2.1
        rw [hw3] at hO1
        have Hz := Lib.hid (And.intro hPn ((((Hf.out.2.then_below ((Below.refl _ _).drew)).then_below Hn.out.2.2).trans hO1 fun j _ e => .inr (.inr (.inl e))).trans hOn fun j _ e => .inr (.inr (.inr e))))
        clear hR3 hbk6 hbk7 hPn hOn hw3 hO1 hib
        go_wp2
        go_ret
        exact ⟨rfl, Hz.out⟩
end
end Go.Proofs.Ytmcbjcopipafdaa
