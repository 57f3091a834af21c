/-
  The document's plate: Fail, over the document's text.
-/
import Derived.Test.YtmcbjcopipafdaaRefD
import Derived.Test.YtmcbjcopipafdaaTurnP
namespace Go.Proofs.Ytmcbjcopipafdaa
open Go.RowKit Go.Maps
set_option linter.unusedVariables false
theorem Out.wider' {S S' : Nat → Prop} {a b : World} (h : Out S a b) (hs : ∀ i, S i → S' i) : Out S' a b := ⟨h.os, h.tape, h.output, h.size, fun i hi hn => h.block i hi fun e => hn (hs i e)⟩
section
variable {w w' : World} {M : Nat → Prop} {g rs rn rw : Nat} {R : Rm} {k : List Bool} {l : List UInt8}

set_option maxRecDepth 100000 in
set_option maxHeartbeats 1600000 in
theorem rfail_any (h : RefM w M g rs rn rw R) (x : Int) (hx : Wf x) (A : Option Addr) (n c : Nat) (hn : k.length = n) (hk : KOff w M (.slice A n c) k) (h47 : n ≤ 140737488355328) :
    Calls Try.prog 41 #[.pointer (some ⟨g, 0, none⟩), .int .i64 x, .slice A n c] w fun e w' => e = .returned (.int .i64 (failR R x k).1) ∧ RefM w' M g rs rn rw (failR R x k).2 ∧ Out (G4 g rs rn rw) w w' := by
  obtain ⟨cs, cn, cw, kv, a1, a2, a3, a4, a5, a6, hbk, hko⟩ := h.blk
  have c3 : w.cell? ⟨g, 3, none⟩ = some (.bool R.dead) := hbk.cell rfl
  have Hh := Lib.hid (And.intro h (And.intro hk hn))
  unfold failR
  by_cases hd : R.dead = true
  · rw [if_pos hd]
    rw [hd] at c3
    clear h hbk hko hd hn hk
    go_enter Try.func41, Try.ntmps41
    go_wp2
    go_ret
    exact ⟨rfl, Hh.out.1, Out.refl _ _⟩
  · rw [if_neg hd]
    have hd2 : R.dead = false := by simpa using hd
    have hcc := c3
    rw [hd2] at c3
    have c4 : w.cell? ⟨g, 4, none⟩ = some (.bool R.fails) := hbk.cell rfl
    have c5 : w.cell? ⟨g, 5, none⟩ = some (.int .i64 R.left) := hbk.cell rfl
    have f4 : w.frozen? ⟨g, 4, none⟩ = false := hbk.free 4
    have f5 : w.frozen? ⟨g, 5, none⟩ = false := hbk.free 5
    obtain ⟨bb, hbb⟩ : ∃ bb, decide (0 ≤ x) = bb := ⟨_, rfl⟩
    have ho2 : Out (fun j => j = g) w ((w.setCell ⟨g, 4, none⟩ (.bool bb)).setCell ⟨g, 5, none⟩ (.int .i64 x)) := ((Out.refl (fun j => j = g) w).setCell (fun _ => rfl) _).setCell (fun _ => rfl) _
    have hR2 := h.celled ho2 R.dead bb x R.K hx (fun cs cn cw kv hb hk => ⟨kv, (hb.set_ 4 _).set_ 5 _, hk.out ho2 fun j e => by rw [e]; exact h.mg⟩)
    have hk2 := hk.out ho2 (fun j e => by rw [e]; exact h.mg)
    have H2 := Lib.hid (And.intro hR2 (And.intro ho2 (And.intro hk2 hbb)))
    clear h hbk hko hd hd2 hn hk hcc ho2 hR2 hk2
    go_enter Try.func41, Try.ntmps41
    go_wp2_with (at_builtin; refine wp_appendK rfl _ _ rfl w.heap.size (.slice none 0 0) rfl (World.ownsRow_nil _ _ _ _) A c n rfl Hh.out.2.2 H2.out.2.2.1 h47 H2.out.2.1.size ?_; intro v1 w1 hm1 hg1
                 have hb21 := (Below.refl _ _).grown hg1 (Nat.le_refl _) (by simp [Value.ownBlock])
                 have H3 := Lib.hid (And.intro (H2.out.1.below hb21) (And.intro (KOff.ofRow hm1 Hh.out.1.lt) hb21))
                 obtain ⟨cs3, cn3, cw3, kv3, b1, b2, b3, b4, b5, b6, hbk3, hko3⟩ := H3.out.1.blk
                 have c6 : w1.cell? ⟨g, 6, none⟩ = some kv3 := hbk3.cell rfl
                 have f6 : w1.frozen? ⟨g, 6, none⟩ = false := hbk3.free 6
                 obtain ⟨A3, n3, c3', hv3⟩ : ∃ A3 n3 c3', v1 = .slice A3 n3 c3' := by obtain ⟨A3, c3', e, _⟩ := H3.out.2.1; exact ⟨A3, _, c3', e⟩
                 subst hv3
                 clear hm1 hg1 hb21 hbk3 hko3)
    have ho3 : Out (fun j => j = g) w1 (w1.setCell ⟨g, 6, none⟩ (.slice A3 n3 c3')) := (Out.refl (fun j => j = g) w1).setCell (fun _ => rfl) _
    have hR4 := H3.out.1.celled ho3 R.dead bb x k hx (fun cs cn cw kv hb hk => ⟨_, hb.set_ 6 _, H3.out.2.1.out ho3 fun j e => by rw [e]; exact Hh.out.1.mg⟩)
    have Hz := Lib.hid (And.intro hR4 (((H2.out.2.1.then_below H3.out.2.2).trans ho3 fun _ _ e => e).wider' fun i e => (show G4 g rs rn rw i from Or.inl e)))
    clear ho3 hR4
    go_ret
    exact ⟨rfl, Hz.out.1, Hz.out.2⟩

set_option maxRecDepth 100000 in
set_option maxHeartbeats 3200000 in
theorem rturn_any (h : RefM w M g rs rn rw R) (x bit : Int) (hbw : Wf bit) :
    Calls Try.prog 42 #[.pointer (some ⟨g, 0, none⟩), .int .i64 x, .int .i64 bit] w fun e w' => e = .returned (.int .i64 (turnR R x bit).1) ∧ RefM w' M g rs rn rw (turnR R x bit).2 ∧ Out (G4 g rs rn rw) w w' := by
  have hnot : ∀ (x : Bool) (w : World), (Op.unary .not (.bool x)).run Try.prog w = .ok (.bool (!x)) w := fun _ _ => rfl
  obtain ⟨nn, hnn⟩ : ∃ nn, R.S.length = nn := ⟨_, rfl⟩
  obtain ⟨cs, cn, cw, kv, a1, a2, a3, a4, a5, a6, hb, _⟩ := h.blk
  have c3 : w.cell? ⟨g, 3, none⟩ = some (.bool R.dead) := hb.cell rfl
  have c1 : w.cell? ⟨g, 1, none⟩ = some (.slice (some ⟨rn, 0, none⟩) nn cn) := by have := hb.cell (i := 1) rfl; rw [hnn] at this; exact this
  have hth := rthere_any h x
  have hn2 := h.n2
  have hlv := h.lv
  have Hh := Lib.hid h
  unfold turnR
  by_cases hd : R.dead = true
  · rw [if_pos hd]
    rw [hd] at c3
    clear h hb hd hth
    go_enter Try.func42, Try.ntmps42
    go_wp2
    go_ret
    exact ⟨rfl, Hh.out, Out.refl _ _⟩
  · rw [if_neg hd]
    have hd2 : R.dead = false := by simpa using hd
    rw [hd2] at c3
    by_cases ht : thereR R x = false
    · rw [if_pos (.inl ht)]
      rw [ht] at hth
      have Hth := Lib.hid hth
      clear h hb hd hd2 hth ht
      go_enter Try.func42, Try.ntmps42
      go_wp2_with (go_at_call 49; refine Hth.out.mono ?_; rintro e w' ⟨rfl, hw⟩; obtain rfl : w = w' := hw.symm)
      go_ret
      exact ⟨rfl, Hh.out, Out.refl _ _⟩
    · have ht2 : thereR R x = true := by simpa using ht
      rw [ht2] at hth
      have Hth := Lib.hid hth
      by_cases hlo : bit < 0
      · rw [if_pos (.inr (.inl hlo))]
        clear h hb hd hd2 hth ht
        go_enter Try.func42, Try.ntmps42
        go_wp2_with (go_at_call 49; refine Hth.out.mono ?_; rintro e w' ⟨rfl, hw⟩; obtain rfl : w = w' := hw.symm)
        go_ret
        exact ⟨rfl, Hh.out, Out.refl _ _⟩
      by_cases hhi : 511 < bit
      · rw [if_pos (.inr (.inr hhi))]
        clear h hb hd hd2 hth ht
        go_enter Try.func42, Try.ntmps42
        go_wp2_with (go_at_call 49; refine Hth.out.mono ?_; rintro e w' ⟨rfl, hw⟩; obtain rfl : w = w' := hw.symm)
        go_ret
        exact ⟨rfl, Hh.out, Out.refl _ _⟩
      rw [if_neg (by rintro (h | h | h); exact ht h; exact hlo h; exact hhi h)]
      have hin : 0 ≤ x ∧ x < R.S.length := by unfold thereR at ht2; simpa using ht2
      obtain ⟨i, rfl⟩ : ∃ i : Nat, x = (i : Int) := ⟨x.toNat, by omega⟩
      obtain ⟨q, rfl⟩ : ∃ q : Nat, bit = (q : Int) := ⟨bit.toNat, by omega⟩
      rw [Int.toNat_natCast, Int.toNat_natCast]
      have hq5 : q < 512 := by omega
      have hiV : i < R.V.length := by omega
      obtain ⟨Ax, cx, p1, p2, p3, p4, p5, p6⟩ := h.rowV.at_ (i := i) hiV
      rw [List.getElem?_eq_getElem hiV]
      simp only [Option.getD_some]
      have i0 : (0 : Int) ≤ i := by omega
      have i1 : (i : Int) < nn := by omega
      have hc := copyBytes Ax cx 64 R.V[i] w p4.bs p5 (by omega)
      obtain ⟨x, hl⟩ : ∃ x, R.V[i] = x := ⟨_, rfl⟩
      rw [hl] at hc p5 ⊢
      have Hc := Lib.hid hc
      have H5 := Lib.hid (And.intro p5 hnn)
      have q0 : (0 : Int) ≤ q := by omega
      have q1 : (q : Int) ≤ 511 := by omega
      clear h hb hd hd2 hth ht ht2 hin p4 p5 hl hlo hhi hc hbw
      go_enter Try.func42, Try.ntmps42
      go_wp2_with (go_at_call 49; refine Hth.out.mono ?_; rintro e w' ⟨rfl, hw⟩; obtain rfl : w = w' := hw.symm)
      refine Hc.out.mono ?_
      rintro e w1 ⟨v, rfl, hMi, hbv⟩
      have hxl : x.length = 64 := H5.out.1
      have hM : w1.ownsRow w.heap.size 5 1 v 64 (cbs x) := by have := hMi; unfold Mine at this; rw [hxl] at this; exact this
      obtain ⟨gx, c2, hv, hgx, hgl⟩ := hM.form (by omega)
      subst hv
      obtain ⟨kb, hkb⟩ : ∃ kb, q / 8 = kb := ⟨_, rfl⟩
      obtain ⟨kr, hkr⟩ : ∃ kr, q % 8 = kr := ⟨_, rfl⟩
      have hkb64 : kb < 64 := by omega
      have hkr8 : kr < 8 := by omega
      have e1 : (q : Int) / 8 = (kb : Int) := by omega
      have e2 : (q : Int) % 8 = (kr : Int) := by omega
      have e1' : Int.tdiv (q : Int) 8 = (kb : Int) := by rw [Int.tdiv_eq_ediv_of_nonneg (by omega)]; exact e1
      have e2' : Int.tmod (q : Int) 8 = (kr : Int) := by rw [Int.tmod_eq_emod_of_nonneg (by omega)]; exact e2
      have j0 : (0 : Int) ≤ kb := by omega
      have j1 : (kb : Int) < 64 := by omega
      have j2 : (0 : Int) ≤ kr := by omega
      have j3 : (kr : Int) < 8 := by omega
      have ew1 : IntKind.i64.wrap (kb : Int) = (kb : Int) := IntWalk.i64_in _ (by omega)
      have ew2 : IntKind.i64.wrap (kr : Int) = (kr : Int) := IntWalk.i64_in _ (by omega)
      obtain ⟨z, hz⟩ : ∃ z : UInt8, 1 <<< UInt8.ofNat kr = z := ⟨_, rfl⟩
      have hshl : IntKind.u8.wrap (2 ^ kr) = (z.toNat : Int) := by
        subst hz
        clear e1 e1' e2 e2' ew1 ew2 j2 j3 hkr
        rcases kr with _ | _ | _ | _ | _ | _ | _ | _ | k
        all_goals first | rfl | decide | omega
      have hkl : kb < x.length := by rw [hxl]; exact hkb64
      have hxor : bits .xor .u8 (x[kb].toNat : Int) (z.toNat : Int) = ((x[kb].toNat ^^^ z.toNat : Nat) : Int) := u8_xor_nat x[kb].toNat z.toNat x[kb].toNat_lt z.toNat_lt
      have hflip : flipB x q = x.set kb (x[kb] ^^^ z) := by unfold flipB; rw [hkb, hkr, hz, List.getElem?_eq_getElem hkl]; rfl
      have hM1 := Mine.set_ hM kb (x[kb] ^^^ z) (.int .u8 ((x[kb].toNat ^^^ z.toNat : Nat) : Int)) (by unfold cb; rw [UInt8.toNat_xor])
      rw [← hflip] at hM1
      have hfl : (flipB x q).length = 64 := by rw [hflip, List.length_set]; exact hxl
      have hM2 : Mine ((w1.setCell ⟨gx, kb, none⟩ (.int .u8 ((x[kb].toNat ^^^ z.toNat : Nat) : Int))).drew) w.heap.size 5 (.slice (some ⟨gx, 0, none⟩) 64 c2) (flipB x q) := by
        unfold Mine
        rw [hfl]
        exact hM1
      have hgxw : w.heap.size ≤ gx := (World.ownsRow.lt hM gx rfl).1
      have hb9 : Below w.heap.size w ((w1.setCell ⟨gx, kb, none⟩ (.int .u8 ((x[kb].toNat ^^^ z.toNat : Nat) : Int))).drew) := (hbv.setCell (p := ⟨gx, kb, none⟩) hgxw _).drew
      have ck : w1.drew.cell? ⟨gx, kb, none⟩ = some (.int .u8 (x[kb].toNat : Int)) := Mine.cell hM (j := kb) hkl
      have fk : w1.drew.frozen? ⟨gx, kb, none⟩ = false := hM.frozenAt kb
      have HF := Lib.hid (And.intro hM2 (And.intro hb9 hfl))
      clear hM hM1 hM2 hfl hflip hkb hkr hMi hbv hb9 hgxw hgx hgl
      go_wp2
      refine wp_region_any (by kernel_rfl) ?_
      change wpAny _ _ _ _ _ _ _ (World.drew _)
      refine any_take (i := 0) (d := 32) (v := .slice (some ⟨gx, 0, none⟩) 64 c2) rfl rfl (by kernel_rfl) (by kernel_rfl) (by kernel_rfl) (fun _ _ _ h => h) (Or.inl ⟨by rfl, (by intro w; go_simp)⟩) ?_
      simp only [List.setIfInBounds_toArray, List.set_cons_zero, List.set_cons_succ]
      refine any_take (i := 1) (d := 33) (v := .int .i64 (q : Int)) rfl rfl (by kernel_rfl) (by kernel_rfl) (by kernel_rfl) (fun _ _ _ h => h) (Or.inl ⟨by rfl, (by intro w; go_simp)⟩) ?_
      simp only [List.setIfInBounds_toArray, List.set_cons_zero, List.set_cons_succ]
      refine any_take (i := 2) (d := 34) (v := .int .i64 (kb : Int)) rfl rfl (by kernel_rfl) (by kernel_rfl) (by kernel_rfl) (fun _ _ _ h => h) (Or.inl ⟨by rfl, (by intro w; go_simp)⟩) ?_
      simp only [List.setIfInBounds_toArray, List.set_cons_zero, List.set_cons_succ]
      refine any_take (i := 3) (d := 35) (v := .slice (some ⟨gx, 0, none⟩) 64 c2) rfl rfl (by kernel_rfl) (by kernel_rfl) (by kernel_rfl) (fun _ _ _ h => h) (Or.inl ⟨by rfl, (by intro w; go_simp)⟩) ?_
      simp only [List.setIfInBounds_toArray, List.set_cons_zero, List.set_cons_succ]
      refine any_take (i := 4) (d := 36) (v := .int .i64 (q : Int)) rfl rfl (by kernel_rfl) (by kernel_rfl) (by kernel_rfl) (fun _ _ _ h => h) (Or.inl ⟨by rfl, (by intro w; go_simp)⟩) ?_
      simp only [List.setIfInBounds_toArray, List.set_cons_zero, List.set_cons_succ]
      refine any_take (i := 5) (d := 37) (v := .int .i64 (kb : Int)) rfl rfl (by kernel_rfl) (by kernel_rfl) (by kernel_rfl) (fun _ _ _ h => h) (Or.inl ⟨by rfl, (by intro w; go_simp)⟩) ?_
      simp only [List.setIfInBounds_toArray, List.set_cons_zero, List.set_cons_succ]
      refine any_take (i := 6) (d := 38) (v := .pointer (some ⟨gx, kb, none⟩)) rfl rfl (by kernel_rfl) (by kernel_rfl) (by kernel_rfl) (fun _ _ _ h => h) (Or.inl ⟨by rfl, (by intro w; go_simp)⟩) ?_
      simp only [List.setIfInBounds_toArray, List.set_cons_zero, List.set_cons_succ]
      refine any_take (i := 8) (d := 40) (v := .int .i64 (q : Int)) rfl rfl (by kernel_rfl) (by kernel_rfl) (by kernel_rfl) (fun _ _ _ h => h) (Or.inl ⟨by rfl, (by intro w; go_simp)⟩) ?_
      simp only [List.setIfInBounds_toArray, List.set_cons_zero, List.set_cons_succ]
      refine any_take (i := 9) (d := 41) (v := .int .i64 (kr : Int)) rfl rfl (by kernel_rfl) (by kernel_rfl) (by kernel_rfl) (fun _ _ _ h => h) (Or.inl ⟨by rfl, (by intro w; go_simp)⟩) ?_
      simp only [List.setIfInBounds_toArray, List.set_cons_zero, List.set_cons_succ]
      refine any_take (i := 10) (d := 42) (v := .int .u8 (z.toNat : Int)) rfl rfl (by kernel_rfl) (by kernel_rfl) (by kernel_rfl) (fun _ _ _ h => h) (Or.inl ⟨by rfl, (by intro w; go_simp)⟩) ?_
      simp only [List.setIfInBounds_toArray, List.set_cons_zero, List.set_cons_succ]
      refine any_one (i := 7) (by kernel_rfl) ?_
      refine wpOp_step rfl (fun K hK => ?_)
      go_simp
      refine hK _ _ ?_
      clear hK K
      refine any_take (i := 11) (d := 43) (v := .int .u8 ((x[kb].toNat ^^^ z.toNat : Nat) : Int)) rfl rfl (by kernel_rfl) (by kernel_rfl) (by kernel_rfl) (fun _ _ _ h => h) (Or.inl ⟨by rfl, (by intro w; go_simp)⟩) ?_
      simp only [List.setIfInBounds_toArray, List.set_cons_zero, List.set_cons_succ]
      refine any_take (i := 12) (d := 44) (v := .pointer (some ⟨gx, kb, none⟩)) rfl rfl (by kernel_rfl) (by kernel_rfl) (by kernel_rfl) (fun _ _ _ h => h) (Or.inl ⟨by rfl, (by intro w; go_simp)⟩) ?_
      simp only [List.setIfInBounds_toArray, List.set_cons_zero, List.set_cons_succ]
      refine any_one (i := 13) (by kernel_rfl) ?_
      refine wpOp_step rfl (fun K hK => ?_)
      go_simp
      refine hK _ _ ?_
      clear hK K
      refine wpAny_done (by kernel_rfl) ?_ _
      clear ck fk hxor hshl e1 e2 e1' e2' ew1 ew2 j0 j1 j2 j3 hz c1 c3 p1 p6
      obtain ⟨w9, hw9⟩ : ∃ w9, (w1.setCell ⟨gx, kb, none⟩ (.int .u8 ((x[kb].toNat ^^^ z.toNat : Nat) : Int))).drew = w9 := ⟨_, rfl⟩
      rw [hw9] at HF ⊢
      clear hw9
      obtain ⟨hM2, hb9, hfl⟩ := HF.out
      have hR9 := Hh.out.below hb9
      obtain ⟨A9, c9, e9, f1, f2, f3⟩ := Mine.form hM2
      rw [hfl] at e9 f1
      injection e9 with e91 _ e93
      subst e91
      subst e93
      have hlow := Mine.low hM2 (by rw [hfl]; decide) rfl
      have hoff : BOff w9 M (some ⟨gx, 0, none⟩) (flipB x q) := BOff.ofBs f3 (fun b off e hm => by
        injection e with e
        injection e with e _
        have h2 := Hh.out.lt b hm
        omega)
      obtain ⟨y, hy⟩ : ∃ y, flipB x q = y := ⟨_, rfl⟩
      rw [hy] at hoff hfl
      have hi0 : i < R.S.length := by have := H5.out.2; omega
      obtain ⟨cs1, cn1, cw1, kv1, _, _, _, _, _, _, hbk1, _⟩ := hR9.blk
      have c1 : w9.cell? ⟨g, 1, none⟩ = some (.slice (some ⟨rn, 0, none⟩) nn cn1) := by have := hbk1.cell (i := 1) rfl; rw [H5.out.2] at this; exact this
      obtain ⟨Ad, cd0, d1, _, _, _, _, fd⟩ := hR9.rowV.at_ (i := i) (by have := hR9.lv; omega)
      obtain ⟨hPV, hOV⟩ := hR9.putV i f1 f2 hoff hfl
      have hoV := hoff.out hOV (fun j e => by rw [e]; exact hR9.mn)
      obtain ⟨wa, hwa⟩ : ∃ wa, w9.setCell ⟨rn, i, none⟩ (.slice (some ⟨gx, 0, none⟩) 64 c2) = wa := ⟨_, rfl⟩
      rw [hwa] at hPV hOV hoV
      obtain ⟨cs2, cn2, cw2, kv2, _, _, _, _, _, _, hbk2, _⟩ := hPV.blk
      have c2s : wa.cell? ⟨g, 0, none⟩ = some (.slice (some ⟨rs, 0, none⟩) nn cs2) := by have := hbk2.cell (i := 0) rfl; rw [show ({ R with V := R.V.set i y } : Rm).S.length = nn from H5.out.2] at this; exact this
      obtain ⟨Ae, ce0, d2, _, _, _, _, fe⟩ := hPV.rowS.at_ (i := i) hi0
      obtain ⟨hPS, hOS⟩ := hPV.putS i f1 f2 hoV hfl
      obtain ⟨wb, hwb⟩ : ∃ wb, wa.setCell ⟨rs, i, none⟩ (.slice (some ⟨gx, 0, none⟩) 64 c2) = wb := ⟨_, rfl⟩
      rw [hwb] at hPS hOS
      obtain ⟨cs3, cn3, cw3, kv3, _, _, _, _, _, _, hbk3, _⟩ := hPS.blk
      have hnS : ({ R with V := R.V.set i y, S := R.S.set i y } : Rm).S.length = nn := by show (R.S.set i y).length = nn; rw [List.length_set]; exact H5.out.2
      have c3w : wb.cell? ⟨g, 2, none⟩ = some (.slice (some ⟨rw, 0, none⟩) nn cw3) := by have := hbk3.cell (i := 2) rfl; rw [hnS] at this; exact this
      obtain ⟨uW, cW, fW⟩ : ∃ u, wb.cell? ⟨rw, i, none⟩ = some u ∧ wb.frozen? ⟨rw, i, none⟩ = false := ⟨_, (hPS.rowW.at_ (i := i) (by have := hR9.lb; show i < R.B.length; omega)).1, (hPS.rowW.at_ (i := i) (by have := hR9.lb; show i < R.B.length; omega)).2⟩
      obtain ⟨hPB, hOB⟩ := hPS.putB i false
      have Hz := Lib.hid (And.intro hPB ((((Out.ofBelow (G4 g rs rn rw) hb9).trans hOV fun j _ e => .inr (.inr (.inl e))).trans hOS fun j _ e => .inr (.inl e)).trans hOB fun j _ e => .inr (.inr (.inr e))))
      have Hwa := Lib.hid hwa
      have Hwb := Lib.hid hwb
      have Hy := Lib.hid hy
      clear hPB hOB hOS hOV hoV hoff hbk1 hbk2 hbk3 hnS hlow hM2 hb9 f1 f2 f3 hwa hwb hy
      go_wp2_with (first | (rw [Hwa.out]) | (rw [Hwb.out]))
      go_ret
      rw [Hy.out]
      exact ⟨rfl, Hz.out⟩
end
end Go.Proofs.Ytmcbjcopipafdaa
