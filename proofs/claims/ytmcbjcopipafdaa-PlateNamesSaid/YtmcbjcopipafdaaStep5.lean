/-
  A call of both plates: step, over the statement's own text.
-/
import Derived.Test.YtmcbjcopipafdaaDuo
namespace Go.Proofs.Ytmcbjcopipafdaa
open Go.RowKit Go.Maps
set_option linter.unusedVariables false

theorem boff_arg {w0 w : World} {M : Nat → Prop} {A : Option Addr} {l : List UInt8} (h : Bs w0 A l) (hb : Below w0.heap.size w0 w) (hM : ∀ i, M i → w0.heap.size ≤ i) : BOff w M A l := fun hl => by
  obtain ⟨b, off, e, hlt, hc⟩ := h.2 hl
  exact ⟨b, off, e, Nat.lt_of_lt_of_le hlt hb.size, fun hm => by have := hM b hm; omega, fun j u hu => (hb.cell (p := ⟨b, off + j, none⟩) hlt).trans (hc j u hu)⟩
theorem news_form {w w' : World} {l : List UInt8} {v : Value} (h : NewS w l v w') : ∃ Av nv cv b0, v = .slice Av nv cv ∧ l.length = nv ∧ nv ≤ cv ∧ cv ≤ maxLen ∧ Bs w' Av l ∧ (0 < nv → Av = some ⟨b0, 0, none⟩ ∧ w.heap.size ≤ b0 ∧ b0 < w'.heap.size ∧ Blk w' b0 48 (cbs l)) := by
  rcases h.2 with ⟨rfl, rfl⟩ | ⟨b, rfl, hb, hl, hB⟩
  · exact ⟨none, 0, 0, 0, rfl, rfl, Nat.le_refl _, by simp [maxLen], Bs.nil _ _, fun h => absurd h (Nat.lt_irrefl _)⟩
  · exact ⟨_, 64, 64, b, rfl, hl, Nat.le_refl _, by simp [maxLen], Bs.ofBlk hB, fun _ => ⟨rfl, hb, hB.lt, hB⟩⟩
def Duos (w0 : World) (M : Nat → Prop) (g r m gr rs rn rw : Nat) (w : World) : Prop := ∃ P R, Duo w0 w M g r m gr rs rn rw P R
/-- What stands once step has its locals: 'gb' the box of the call's own words, the bytes' and the list's copies. -/
structure StepS (w0 wb w : World) (M : Nat → Prop) (g r m gr rs rn rw : Nat) (P : Pl) (R : Rm) (kind a bit : Int) (AB : Option Addr) (nB cB : Nat) (b : List UInt8) (AK : Option Addr) (nK cK : Nat) (k : List Bool) (Ai : Option Addr) (ci : Nat) (Ak : Option Addr) (ck : Nat) : Prop where
  duo : Duo w0 wb M g r m gr rs rn rw P R
  bel : Below wb.heap.size wb w
  box : Blk w wb.heap.size 43 [.int .i64 kind, .int .i64 a, .int .i64 bit, .slice AB nB cB, .slice AK nK cK]
  inp : w.ownsRow (wb.heap.size + 1) 5 1 (.slice Ai nB ci) nB (cbs b)
  keep : w.ownsRow (wb.heap.size + 1) 4 1 (.slice Ak nK ck) nK (cbls k)

set_option maxRecDepth 100000 in
set_option maxHeartbeats 3200000 in
theorem step_any {w0 w : World} {M : Nat → Prop} {g r m gr rs rn rw : Nat} {P : Pl} {R : Rm} (h : Duo w0 w M g r m gr rs rn rw P R) (kind a bit : Int) (hk : Wf kind) (ha : Wf a) (hbit : Wf bit) (AB : Option Addr) (nB cB : Nat) (b : List UInt8)
    (hB : Bs w0 AB b) (hnB : b.length = nB) (hcB : nB ≤ cB) (hmB : nB ≤ 140737488351232) (hcBm : cB ≤ maxLen) (AK : Option Addr) (nK cK : Nat) (k : List Bool) (hK : ArgK w0 AK nK cK k) (hmK : nK ≤ 140737488351232) :
    Calls Try.prog 28 #[.pointer (some ⟨g, 0, none⟩), .pointer (some ⟨gr, 0, none⟩), .agg #[.int .i64 kind, .int .i64 a, .int .i64 bit, .slice AB nB cB, .slice AK nK cK]] w fun e w' => e = .returned (.bool true) ∧ Duos w0 M g r m gr rs rn rw w' := by
  have hb1 : Below w.heap.size w (w.alloc (.cells #[.int .i64 kind, .int .i64 a, .int .i64 bit, .slice AB nB cB, .slice AK nK cK] 43)) := (Below.refl _ _).alloc (Nat.le_refl _) _
  have hbx : Blk (w.alloc (.cells #[.int .i64 kind, .int .i64 a, .int .i64 bit, .slice AB nB cB, .slice AK nK cK] 43)) w.heap.size 43 [.int .i64 kind, .int .i64 a, .int .i64 bit, .slice AB nB cB, .slice AK nK cK] := Blk.new rfl rfl
  have c3 := hbx.cell (i := 3) rfl
  have hcp := copyBytes AB cB nB b _ (hB.after (h.k.bel.trans (hb1.mono h.k.bel.size))) hnB (by omega)
  have Hcp := Lib.hid hcp
  have Hb := Lib.hid (And.intro h (And.intro hb1 (And.intro hbx (And.intro hB (And.intro hnB (And.intro hcB (And.intro hcBm hK)))))))
  have Hbr := Lib.hid (fun w => bringN_any kind 7 w (by decide) (by decide) hk)
  clear h hb1 hbx hcp hB hnB hcB hcBm hK
  go_enter Try.func28, Try.ntmps28
  go_wp2_with fail
  refine Hcp.out.mono ?_
  rintro e w2 ⟨vi, rfl, hMi, hbi⟩
  obtain ⟨Ai, ci, rfl, hi1, hi2, hi3⟩ := Mine.form hMi
  have hMi' : w2.ownsRow (w.heap.size + 1) 5 1 (.slice Ai nB ci) nB (cbs b) := by have := hMi; unfold Mine at this; rw [Hb.out.2.2.2.2.1, World.size_alloc] at this; exact this
  rw [Hb.out.2.2.2.2.1] at hi1 ⊢
  have hbw : Below w.heap.size w w2 := Hb.out.2.1.trans (hbi.mono (by simp))
  have hbx2 := Hb.out.2.2.1.below hbi Hb.out.2.2.1.lt
  have c4 := hbx2.cell (i := 4) rfl
  have hkk : KOff w2 M (.slice AK nK cK) k := Hb.out.2.2.2.2.2.2.2.koff (Hb.out.1.k.bel.trans (hbw.mono Hb.out.1.k.bel.size)) Hb.out.1.k.2.1
  have hz2 : w.heap.size + 1 ≤ w2.heap.size := by have := hbi.size; rw [World.size_alloc] at this; exact this
  have H2 := Lib.hid (And.intro hMi' (And.intro hbw (And.intro hbx2 (And.intro hkk hz2))))
  clear hMi hMi' hbw hbx2 hkk hbi c3 Hcp hi3 hz2
  go_wp2_with (at_builtin; refine wp_appendK rfl _ _ rfl (w.heap.size + 1) (.slice none 0 0) rfl (World.ownsRow_nil _ _ _ _) AK cK nK rfl Hb.out.2.2.2.2.2.2.2.1 H2.out.2.2.2.1 (by omega) H2.out.2.2.2.2 ?_; intro v1 w3 hm1 hg1
               have hb3 := (Below.refl _ _).grown hg1 (Nat.le_refl _) (by simp [Value.ownBlock])
               obtain ⟨Ak, ck, hv1⟩ : ∃ Ak ck, v1 = .slice Ak nK ck := by
                 obtain ⟨_, ⟨e, e0⟩ | ⟨gg, cap, cur, e, _⟩⟩ := hm1
                 · exact ⟨none, 0, by rw [e, ← Hb.out.2.2.2.2.2.2.2.1, e0]⟩
                 · exact ⟨_, cap, by rw [e, Hb.out.2.2.2.2.2.2.2.1]⟩
               subst hv1
               have hbx3 := H2.out.2.2.1.below hb3 H2.out.2.2.1.lt
               have d0 := hbx3.cell (i := 0) rfl
               have H3 := Lib.hid (And.intro hm1 (And.intro hb3 hbx3))
               clear hm1 hg1 hb3 hbx3)
  refine (Hbr.out w3).mono ?_
  rintro e w' ⟨rfl, hw⟩
  obtain rfl : w3 = w' := hw.symm
  have hkeep : w3.ownsRow (w.heap.size + 1) 4 1 (.slice Ak nK ck) nK (cbls k) := by have := H3.out.1; rw [Hb.out.2.2.2.2.2.2.2.1] at this; exact this
  have hS : StepS w0 w w3 M g r m gr rs rn rw P R kind a bit AB nB cB b AK nK cK k Ai ci Ak ck :=
    ⟨Hb.out.1, H2.out.2.1.trans (H3.out.2.1.mono (by have := H2.out.2.2.2.2; omega)), H3.out.2.2, row_kept H2.out.1 fun i _ hlt => H3.out.2.1.block i hlt, hkeep⟩
  have HS := Lib.hid hS
  have h7 : kind % 7 = 0 ∨ kind % 7 = 1 ∨ kind % 7 = 2 ∨ kind % 7 = 3 ∨ kind % 7 = 4 ∨ kind % 7 = 5 ∨ kind % 7 = 6 := by omega
  clear hS hkeep H2 H3 d0 c4 Hbr
  have h0 := hk
  rcases h7 with h7 | h7 | h7 | h7 | h7 | h7 | h7
  · rw [h7]
    clear h7 h0
    have K3 := HS.out.duo.k.grow (M' := (fun i => M i ∨ (w.heap.size ≤ i ∧ i < w3.heap.size))) HS.out.bel (fun i e => .inl e) (fun i e => e)
    have F3 := HS.out.duo.f.grow (M' := (fun i => M i ∨ (w.heap.size ≤ i ∧ i < w3.heap.size))) HS.out.bel (fun i e => .inl e) (fun i e => e)
    have s3 := HS.out.duo.s
    have ap := HS.out.duo.ap
    have nb : ∀ i, w.heap.size ≤ i → ¬ M i := fun i hi => HS.out.duo.k.notM hi
    have Hnb := Lib.hid (And.intro (fun i (hi : w.heap.size ≤ i) e => nb i hi (HS.out.duo.k.grm i e)) (fun i (hi : w.heap.size ≤ i) e => nb i hi (HS.out.duo.f.grm i e)))
    have hss := same_write K3.1.wl s3 a b
    have H3 := Lib.hid (And.intro K3 (And.intro F3 (And.intro hss ap)))
    have hBi : Bs w3 Ai b := by
      have hm : Mine w3 (w.heap.size + 1) 5 (.slice Ai nB ci) b := by unfold Mine; rw [Hb.out.2.2.2.2.1]; exact HS.out.inp
      obtain ⟨A', c', e', _, _, hb'⟩ := Mine.form hm
      injection e' with e1 e2 e3
      rw [e1]; exact hb'
    have hlow : ∀ i, (Value.slice Ai nB ci).ownBlock = some i → w.heap.size + 1 ≤ i ∧ i < w3.heap.size := fun i hi => HS.out.inp.lt i hi
    have hoff : BOff w3 (GRM g r m) Ai b := BOff.ofBs hBi (fun b1 off e hm => by
      have := hlow b1 (by rw [e]; rfl)
      exact Hnb.out.1 b1 (by omega) hm)
    have d1 := HS.out.box.cell (i := 1) rfl
    have Hoff := Lib.hid (And.intro hoff hlow)
    clear K3 F3 s3 ap hss nb hBi hoff hlow
    go_wp2_with fail
    refine (write_free H3.out.1.1 a ha nB ci Hb.out.2.2.2.2.1 (by simp only [maxLen]; omega) Hoff.out.1).mono ?_
    rintro e w4 ⟨rfl, hl4, ho4⟩
    have hk4 := H3.out.1.step hl4 ho4
    have F4 := H3.out.2.1.aside ho4 H3.out.1.grm H3.out.2.2.2
    have box4 := ho4.blk HS.out.box (Hnb.out.1 _ (Nat.le_refl _))
    have inp4 := row_kept HS.out.inp (fun i hle hlt => ho4.block i hlt (Hnb.out.1 i (by omega)))
    clear d1
    have d1 := box4.cell (i := 1) rfl
    have d3 := box4.cell (i := 3) rfl
    have hoB := boff_arg Hb.out.2.2.2.1 hk4.bel hk4.2.1
    have H4 := Lib.hid (And.intro hk4 (And.intro F4 (And.intro box4 (And.intro inp4 hoB))))
    clear hk4 hl4 ho4 F4 box4 inp4 hoB
    go_wp2_with fail
    refine (rwrite_any H4.out.2.1 a AB nB cB Hb.out.2.2.2.2.1 (by simp only [maxLen]; omega) H4.out.2.2.2.2).mono ?_
    rintro e w5 ⟨rfl, hf5, ho5⟩
    have K5 := H4.out.1.aside ho5 H4.out.2.1.grm H3.out.2.2.2
    have D5 : Duo w0 w5 (fun i => M i ∨ (w.heap.size ≤ i ∧ i < w3.heap.size)) g r m gr rs rn rw (writeP P a b).2 (writeR R a b).2 := ⟨K5, hf5, H3.out.2.2.1.2, H3.out.2.2.2⟩
    have box5 := ho5.blk H4.out.2.2.1 (Hnb.out.2 _ (Nat.le_refl _))
    have inp5 := row_kept H4.out.2.2.2.1 (fun i hle hlt => ho5.block i hlt (Hnb.out.2 i (by omega)))
    have d3 := box5.cell (i := 3) rfl
    have H5 := Lib.hid (And.intro D5 (And.intro inp5 box5))
    clear K5 hf5 ho5 D5 inp5 box5
    rw [H3.out.2.2.1.1]
    obtain ⟨E, hE⟩ : ∃ E, (writeP P a b).1 = E := ⟨_, rfl⟩
    rw [hE]
    clear hE
    go_wp2_with fail
    refine (eqBytes Ai AB ci cB nB nB b b w5 (by
      have hm : Mine w5 (w.heap.size + 1) 5 (.slice Ai nB ci) b := by unfold Mine; rw [Hb.out.2.2.2.2.1]; exact H5.out.2.1
      obtain ⟨A', c', e', _, _, hb'⟩ := Mine.form hm
      injection e' with e1 e2 e3
      rw [e1]; exact hb') (Hb.out.2.2.2.1.after H5.out.1.k.bel) Hb.out.2.2.2.2.1 Hb.out.2.2.2.2.1 (by simp only [maxLen]; omega) (by simp only [maxLen]; omega)).mono ?_
    rintro e w6 ⟨rfl, hb6⟩
    have H6 := Lib.hid (And.intro (H5.out.1.below hb6) (row_kept H5.out.2.1 (fun i _ hlt => hb6.block i hlt)))
    clear hb6
    rw [show (b == b) = true from by simp]
    go_wp2_with fail
    go_loopw [11] (fun v wr => ∃ q : Nat, q ≤ nB ∧ v = .int .i64 q ∧ (∃ ys : List UInt8, ys.length = nB ∧ wr.ownsRow (w.heap.size + 1) 5 1 (.slice Ai nB ci) nB (cbs ys)) ∧ Duo w0 wr (fun i => M i ∨ (w.heap.size ≤ i ∧ i < w3.heap.size)) g r m gr rs rn rw (writeP P a b).2 (writeR R a b).2) (fun v _ => nB - (intOf v).toNat)
    case atStart => exact ⟨0, Nat.zero_le _, rfl, ⟨b, Hb.out.2.2.2.2.1, H6.out.2⟩, H6.out.1⟩
    case round =>
      obtain ⟨q, hq, rfl, ⟨ys, hy, hown⟩, hT⟩ := hrel
      have hq0 : (0 : Int) ≤ q := by omega
      by_cases hqn : q < nB
      · have hq1 : (q : Int) < nB := by omega
        obtain ⟨gi, cap, hv, hg, hgl⟩ := hown.form (by omega)
        simp only [Value.slice.injEq] at hv
        obtain ⟨rfl, _, rfl⟩ := hv
        have hc := Mine.cell hown (j := q) (by omega)
        have hf := hown.frozenAt q
        have hgi := Hoff.out.2 gi rfl
        have hxor : bits .xor .u8 (ys[q].toNat : Int) 90 = ((ys[q].toNat ^^^ 90 : Nat) : Int) := u8_xor_nat ys[q].toNat 90 ys[q].toNat_lt (by decide)
        generalize hold : ys[q] = old at *
        have Hr := Lib.hid (And.intro hy (And.intro hown (And.intro hT hgi)))
        clear hy hold hown hT hgi hg hgl
        go_wp2
        go_roundw
        case rel =>
          refine ⟨q + 1, by omega, by go_num, ⟨ys.set q (old ^^^ 90), by rw [List.length_set]; exact Hr.out.1, Mine.set_ Hr.out.2.1 q (old ^^^ 90) _ ?_⟩, Hr.out.2.2.1.set (p := ⟨gi, q, none⟩) (.inr ⟨by show _ ≤ gi; have := Hr.out.2.2.2.1; omega, Hr.out.2.2.2.2⟩) (Hnb.out.1 gi (by have := Hr.out.2.2.2.1; omega)) (Hnb.out.2 gi (by have := Hr.out.2.2.2.1; omega)) _⟩
          unfold cb
          rw [UInt8.toNat_xor]
          rfl
        case measure => simp [intOf]; omega
      · have hqe : q = nB := by omega
        have hq1 : ¬ (q : Int) < nB := by omega
        have DZ := hT
        clear hown hy hT
        obtain ⟨Pz, hPz⟩ : ∃ Pz : Pl, (writeP P a b).2 = Pz := ⟨_, rfl⟩
        obtain ⟨Rz, hRz⟩ : ∃ Rz : Rm, (writeR R a b).2 = Rz := ⟨_, rfl⟩
        rw [hPz, hRz] at DZ
        clear hPz hRz
        have hzw := same_waits DZ.k.1.wl DZ.s
        have hzs := same_size DZ.s
        obtain ⟨dd, hdd⟩ : ∃ dd, Pz.dead = dd := ⟨_, rfl⟩
        obtain ⟨ll, hll⟩ : ∃ ll, zs Pz.wt = ll := ⟨_, rfl⟩
        have t1 := pk_dead DZ.k dd hdd
        have t2 := rdead_any DZ.f
        rw [DZ.s.d, hdd] at t2
        have t3 := pk_waits DZ.k ll hll
        have hzl : waitsN Rz Rz.S.length = ll := hzw.trans hll
        have HZ := Lib.hid (And.intro DZ (And.intro hzl hzs))
        have T1 := Lib.hid t1
        have T2 := Lib.hid t2
        have T3 := Lib.hid t3
        clear DZ hzw hzs hdd hll t1 t2 t3 hzl
        go_wp2_with (first
          | (go_at_call 12; refine T1.out.mono ?_; rintro e wq ⟨rfl, hw⟩; obtain rfl := hw.symm)
          | (go_at_call 43; refine T2.out.mono ?_; rintro e wq ⟨rfl, hw⟩; obtain rfl := hw.symm)
          | (go_at_call 8; refine T3.out.mono ?_; rintro e wp ⟨Ap, cp, rfl, hIp, hbp, _⟩; have HP := Lib.hid (And.intro hIp (HZ.out.1.below hbp)); clear hIp hbp)
          | (go_at_call 44; refine (rwaits_any HP.out.2.f).mono ?_; rintro e wo ⟨vo, rfl, hro, hbo⟩; rw [HZ.out.2.1] at hro; obtain ⟨Ao, co, rfl, hIo⟩ := IsL.ofOwn hro; have HO := Lib.hid (And.intro hIo (And.intro (HP.out.1.after hbo) (HP.out.2.below hbo))); clear hro hbo hIo)
          | (go_at_call 29; refine (eqInts_same Ap Ao ll.length cp co ll wo HO.out.2.1 HO.out.1).mono ?_; rintro e wn ⟨rfl, hbn⟩; have HN := Lib.hid (HO.out.2.2.below hbn); clear hbn)
          | (go_at_call 5; refine (size_any HN.out.k.1).mono ?_; rintro e wq ⟨rfl, hw⟩; obtain rfl := hw.symm)
          | (go_at_call 45; refine (rsize_any HN.out.f).mono ?_; rintro e wq ⟨rfl, hw⟩; obtain rfl := hw.symm; rw [HZ.out.2.2]; simp only [Pl.n]))
        go_ret
        exact ⟨by first | rfl | simp, _, _, HN.out.shrink (fun i e => .inl e) (fun i e => HS.out.duo.k.grm i e) (fun i e => HS.out.duo.f.grm i e)⟩
  · rw [h7]
    clear h7 h0
    have K3 := HS.out.duo.k.below HS.out.bel
    have F3 := HS.out.duo.f.below HS.out.bel
    have s3 := HS.out.duo.s
    have ap := HS.out.duo.ap
    have hss := same_flush K3.1.wl s3
    have H3 := Lib.hid (And.intro K3 (And.intro F3 (And.intro hss ap)))
    clear K3 F3 s3 ap hss
    go_wp2_with fail
    refine (pk_flush H3.out.1 _ _ rfl rfl).mono ?_
    rintro e w4 ⟨rfl, hk4, ho4⟩
    have F4 := H3.out.2.1.aside ho4 H3.out.1.grm H3.out.2.2.2
    have H4 := Lib.hid (And.intro hk4 F4)
    clear hk4 ho4 F4
    go_wp2_with fail
    refine (rflush_any H4.out.2).mono ?_
    rintro e w5 ⟨rfl, hf5, ho5⟩
    have K5 := H4.out.1.aside ho5 H4.out.2.grm H3.out.2.2.2
    have DZ : Duo w0 w5 M g r m gr rs rn rw (flushP P).2 (flushR R).2 := ⟨K5, hf5, H3.out.2.2.1.2, H3.out.2.2.2⟩
    clear K5 hf5 ho5
    rw [H3.out.2.2.1.1]
    obtain ⟨E, hE⟩ : ∃ E, (flushP P).1 = E := ⟨_, rfl⟩
    rw [hE]
    clear hE
    obtain ⟨Pz, hPz⟩ : ∃ Pz : Pl, (flushP P).2 = Pz := ⟨_, rfl⟩
    obtain ⟨Rz, hRz⟩ : ∃ Rz : Rm, (flushR R).2 = Rz := ⟨_, rfl⟩
    rw [hPz, hRz] at DZ
    clear hPz hRz
    have hzw := same_waits DZ.k.1.wl DZ.s
    have hzs := same_size DZ.s
    obtain ⟨dd, hdd⟩ : ∃ dd, Pz.dead = dd := ⟨_, rfl⟩
    obtain ⟨ll, hll⟩ : ∃ ll, zs Pz.wt = ll := ⟨_, rfl⟩
    have t1 := pk_dead DZ.k dd hdd
    have t2 := rdead_any DZ.f
    rw [DZ.s.d, hdd] at t2
    have t3 := pk_waits DZ.k ll hll
    have hzl : waitsN Rz Rz.S.length = ll := hzw.trans hll
    have HZ := Lib.hid (And.intro DZ (And.intro hzl hzs))
    have T1 := Lib.hid t1
    have T2 := Lib.hid t2
    have T3 := Lib.hid t3
    clear DZ hzw hzs hdd hll t1 t2 t3 hzl
    go_wp2_with (first
      | (go_at_call 12; refine T1.out.mono ?_; rintro e wq ⟨rfl, hw⟩; obtain rfl := hw.symm)
      | (go_at_call 43; refine T2.out.mono ?_; rintro e wq ⟨rfl, hw⟩; obtain rfl := hw.symm)
      | (go_at_call 8; refine T3.out.mono ?_; rintro e wp ⟨Ap, cp, rfl, hIp, hbp, _⟩; have HP := Lib.hid (And.intro hIp (HZ.out.1.below hbp)); clear hIp hbp)
      | (go_at_call 44; refine (rwaits_any HP.out.2.f).mono ?_; rintro e wo ⟨vo, rfl, hro, hbo⟩; rw [HZ.out.2.1] at hro; obtain ⟨Ao, co, rfl, hIo⟩ := IsL.ofOwn hro; have HO := Lib.hid (And.intro hIo (And.intro (HP.out.1.after hbo) (HP.out.2.below hbo))); clear hro hbo hIo)
      | (go_at_call 29; refine (eqInts_same Ap Ao ll.length cp co ll wo HO.out.2.1 HO.out.1).mono ?_; rintro e wn ⟨rfl, hbn⟩; have HN := Lib.hid (HO.out.2.2.below hbn); clear hbn)
      | (go_at_call 5; refine (size_any HN.out.k.1).mono ?_; rintro e wq ⟨rfl, hw⟩; obtain rfl := hw.symm)
      | (go_at_call 45; refine (rsize_any HN.out.f).mono ?_; rintro e wq ⟨rfl, hw⟩; obtain rfl := hw.symm; rw [HZ.out.2.2]; simp only [Pl.n]))
    go_ret
    exact ⟨by first | rfl | simp, _, _, HN.out⟩
  · rw [h7]
    clear h7 h0
    have K3 := HS.out.duo.k.below HS.out.bel
    have F3 := HS.out.duo.f.below HS.out.bel
    have s3 := HS.out.duo.s
    have ap := HS.out.duo.ap
    have nb : ¬ M w.heap.size := HS.out.duo.k.notM (Nat.le_refl _)
    have nb2 := Lib.hid (fun i (hi : w.heap.size ≤ i) => HS.out.duo.k.notM hi)
    have hss := same_read s3 a
    have H3 := Lib.hid (And.intro K3 (And.intro F3 (And.intro s3 ap)))
    have d1 := HS.out.box.cell (i := 1) rfl
    obtain ⟨E, l, hEl⟩ : ∃ E l, readP P a = (E, l) := ⟨_, _, rfl⟩
    have hra := read_any K3.1 a ha
    rw [hEl] at hra hss
    have Hra := Lib.hid hra
    have Hss := Lib.hid hss
    clear K3 F3 s3 ap hss hra hEl
    go_wp2_with fail
    refine Hra.out.mono ?_
    rintro e w4 ⟨v, rfl, hv⟩
    obtain ⟨Av, nv, cv, b0, rfl, hlv, hv1, hv2, hv3, hv4⟩ := news_form hv
    have hb4 := hv.1
    have box4 := HS.out.box.below hb4 HS.out.box.lt
    clear d1
    have d1 := box4.cell (i := 1) rfl
    have hrr := rread_any (H3.out.2.1.below hb4) a
    rw [Hss.out] at hrr
    have Hrr := Lib.hid hrr
    have H4 := Lib.hid (And.intro hb4 (And.intro hlv (And.intro hv1 (And.intro hv2 (And.intro hv3 hv4)))))
    clear hv hlv hv1 hv2 hv3 hv4 hb4 box4 hrr
    go_wp2_with fail
    refine Hrr.out.mono ?_
    rintro e w5 ⟨Ar, cr, rfl, hr1, hr2, hr3, hb5⟩
    simp only
    have hb35 : Below w3.heap.size w3 w5 := H4.out.1.trans (hb5.mono H4.out.1.size)
    have D5 : Duo w0 w5 (fun i => M i ∨ (w3.heap.size ≤ i ∧ i < w5.heap.size)) g r m gr rs rn rw P R := ⟨H3.out.1.grow hb35 (fun i e => .inl e) (fun i e => e), H3.out.2.1.grow hb35 (fun i e => .inl e) (fun i e => e), H3.out.2.2.1, H3.out.2.2.2⟩
    have h45 := hb5.size
    have H5 := Lib.hid (And.intro D5 (And.intro (H4.out.2.2.2.2.1.after hb5) (And.intro hr3 (And.intro hr1 (And.intro hr2 (And.intro hb5 h45))))))
    clear D5 hb35 hr1 hr2 hr3 hb5 h45 d1
    simp only [H4.out.2.1]
    go_wp2_with fail
    refine (eqBytes Av Ar cv cr nv nv l l w5 H5.out.2.1 H5.out.2.2.1 H4.out.2.1 H4.out.2.1 (Nat.le_trans H4.out.2.2.1 H4.out.2.2.2.1) (Nat.le_trans (by have := H5.out.2.2.2.1; rw [H4.out.2.1] at this; exact this) H5.out.2.2.2.2.1)).mono ?_
    rintro e w6 ⟨rfl, hb6⟩
    rw [show (l == l) = true from by simp]
    have H6 := Lib.hid (And.intro (H5.out.1.below hb6) (And.intro (fun h0 : 0 < nv => ((H4.out.2.2.2.2.2 h0).2.2.2.below H5.out.2.2.2.2.2.1 (H4.out.2.2.2.2.2 h0).2.2.1).below hb6 (Nat.lt_of_lt_of_le (H4.out.2.2.2.2.2 h0).2.2.1 H5.out.2.2.2.2.2.2)) hb6.size))
    clear hb6
    have hnot : ∀ (x : Bool) (w : World), (Op.unary .not (.bool x)).run Try.prog w = .ok (.bool (!x)) w := fun _ _ => rfl
    have hnv : nv ≤ 9223372036854775807 := by have h1 := H4.out.2.2.1; have h2 := H4.out.2.2.2.1; simp only [maxLen] at h2; omega
    go_wp2_with fail
    go_loopw [16] (fun v wr => ∃ q : Nat, q ≤ nv ∧ v = .int .i64 q ∧ (0 < nv → ∃ ys : List UInt8, ys.length = nv ∧ Blk wr b0 48 (cbs ys)) ∧ Duo w0 wr (fun i => M i ∨ (w3.heap.size ≤ i ∧ i < w5.heap.size)) g r m gr rs rn rw P R) (fun v _ => nv - (intOf v).toNat)
    case atStart => exact ⟨0, Nat.zero_le _, rfl, fun h0 => ⟨l, H4.out.2.1, H6.out.2.1 h0⟩, H6.out.1⟩
    case round =>
      obtain ⟨q, hq, rfl, hys, hT⟩ := hrel
      have hq0 : (0 : Int) ≤ q := by omega
      by_cases hqn : q < nv
      · have hq1 : (q : Int) < nv := by omega
        obtain ⟨ys, hy, hBy⟩ := hys (by omega)
        obtain ⟨rfl, g1, g2, _⟩ := H4.out.2.2.2.2.2 (by omega)
        have hqy : q < ys.length := by omega
        have hc : wr.cell? ⟨b0, q, none⟩ = some (.int .u8 (ys[q].toNat : Int)) := by refine hBy.cell ?_; rw [cbs_get, List.getElem?_eq_getElem hqy]; rfl
        have hf := hBy.free q
        have hxor : bits .xor .u8 (ys[q].toNat : Int) 90 = ((ys[q].toNat ^^^ 90 : Nat) : Int) := u8_xor_nat ys[q].toNat 90 ys[q].toNat_lt (by decide)
        generalize hold : ys[q] = old at *
        have Hr := Lib.hid (And.intro hy (And.intro hBy (And.intro hT (And.intro g1 g2))))
        have h35 := H5.out.2.2.2.2.2.2
        have hw3 := HS.out.bel.size
        clear hy hold hBy hT g1 g2 hqy hys
        go_wp2
        go_roundw
        case rel =>
          refine ⟨q + 1, by omega, by go_num, fun _ => ⟨ys.set q (old ^^^ 90), by rw [List.length_set]; exact Hr.out.1, ?_⟩, Hr.out.2.2.1.set (p := ⟨b0, q, none⟩) (.inr ⟨Hr.out.2.2.2.1, by show b0 < _; have := Hr.out.2.2.2.2; omega⟩) (fun e => nb2.out b0 (by have := Hr.out.2.2.2.1; omega) (HS.out.duo.k.grm _ e)) (fun e => nb2.out b0 (by have := Hr.out.2.2.2.1; omega) (HS.out.duo.f.grm _ e)) _⟩
          have := Hr.out.2.1.set_ q (.int .u8 ((old.toNat ^^^ 90 : Nat) : Int))
          have e9 : (cbs ys).set q (.int .u8 ((old.toNat ^^^ 90 : Nat) : Int)) = cbs (ys.set q (old ^^^ 90)) := by
            unfold cbs; rw [List.map_set]; unfold cb; rw [UInt8.toNat_xor]; rfl
          rw [← e9]; exact this
        case measure => simp [intOf]; omega
      · have hqe : q = nv := by omega
        have hq1 : ¬ (q : Int) < nv := by omega
        have DZ := hT
        clear hys hT
        obtain ⟨Pz, hPz⟩ : ∃ Pz : Pl, P = Pz := ⟨_, rfl⟩
        obtain ⟨Rz, hRz⟩ : ∃ Rz : Rm, R = Rz := ⟨_, rfl⟩
        rw [hPz, hRz] at DZ
        clear hPz hRz
        have hzw := same_waits DZ.k.1.wl DZ.s
        have hzs := same_size DZ.s
        obtain ⟨dd, hdd⟩ : ∃ dd, Pz.dead = dd := ⟨_, rfl⟩
        obtain ⟨ll, hll⟩ : ∃ ll, zs Pz.wt = ll := ⟨_, rfl⟩
        have t1 := pk_dead DZ.k dd hdd
        have t2 := rdead_any DZ.f
        rw [DZ.s.d, hdd] at t2
        have t3 := pk_waits DZ.k ll hll
        have hzl : waitsN Rz Rz.S.length = ll := hzw.trans hll
        have HZ := Lib.hid (And.intro DZ (And.intro hzl hzs))
        have T1 := Lib.hid t1
        have T2 := Lib.hid t2
        have T3 := Lib.hid t3
        clear DZ hzw hzs hdd hll t1 t2 t3 hzl
        go_wp2_with (first
          | (go_at_call 12; refine T1.out.mono ?_; rintro e wq ⟨rfl, hw⟩; obtain rfl := hw.symm)
          | (go_at_call 43; refine T2.out.mono ?_; rintro e wq ⟨rfl, hw⟩; obtain rfl := hw.symm)
          | (go_at_call 8; refine T3.out.mono ?_; rintro e wp ⟨Ap, cp, rfl, hIp, hbp, _⟩; have HP := Lib.hid (And.intro hIp (HZ.out.1.below hbp)); clear hIp hbp)
          | (go_at_call 44; refine (rwaits_any HP.out.2.f).mono ?_; rintro e wo ⟨vo, rfl, hro, hbo⟩; rw [HZ.out.2.1] at hro; obtain ⟨Ao, co, rfl, hIo⟩ := IsL.ofOwn hro; have HO := Lib.hid (And.intro hIo (And.intro (HP.out.1.after hbo) (HP.out.2.below hbo))); clear hro hbo hIo)
          | (go_at_call 29; refine (eqInts_same Ap Ao ll.length cp co ll wo HO.out.2.1 HO.out.1).mono ?_; rintro e wn ⟨rfl, hbn⟩; have HN := Lib.hid (HO.out.2.2.below hbn); clear hbn)
          | (go_at_call 5; refine (size_any HN.out.k.1).mono ?_; rintro e wq ⟨rfl, hw⟩; obtain rfl := hw.symm)
          | (go_at_call 45; refine (rsize_any HN.out.f).mono ?_; rintro e wq ⟨rfl, hw⟩; obtain rfl := hw.symm; rw [HZ.out.2.2]; simp only [Pl.n]))
        go_ret
        exact ⟨by first | rfl | simp, _, _, HN.out.shrink (fun i e => .inl e) (fun i e => HS.out.duo.k.grm i e) (fun i e => HS.out.duo.f.grm i e)⟩
  · rw [h7]
    clear h7 h0
    have K3 := HS.out.duo.k.below HS.out.bel
    have F3 := HS.out.duo.f.below HS.out.bel
    have s3 := HS.out.duo.s
    have ap := HS.out.duo.ap
    have nb : ¬ M w.heap.size := HS.out.duo.k.notM (Nat.le_refl _)
    have hss := same_crash K3.1.wl s3 k
    have H3 := Lib.hid (And.intro K3 (And.intro F3 (And.intro hss ap)))
    have Hkw := Lib.hid (KOff.ofRow (M := M) (by rw [Hb.out.2.2.2.2.2.2.2.1]; exact HS.out.keep : w3.ownsRow (w.heap.size + 1) _ 1 (.slice Ak nK ck) k.length (cbls k)) (fun i hi => Nat.lt_succ_of_lt (HS.out.duo.k.1.lt i hi)))
    clear K3 F3 s3 ap hss
    go_wp2_with fail
    refine (pk_crash H3.out.1 nK ck Hb.out.2.2.2.2.2.2.2.1 Hkw.out _ _ rfl rfl).mono ?_
    rintro e w4 ⟨rfl, hk4, ho4⟩
    have F4 := H3.out.2.1.aside ho4 H3.out.1.grm H3.out.2.2.2
    have box4 := ho4.blk HS.out.box (fun e => nb (HS.out.duo.k.grm _ e))
    have d4 := box4.cell (i := 4) rfl
    have Hkr := Lib.hid (Hb.out.2.2.2.2.2.2.2.koff hk4.bel hk4.2.1)
    have H4 := Lib.hid (And.intro hk4 F4)
    clear hk4 ho4 F4 box4
    go_wp2_with fail
    refine (rcrash_any H4.out.2 AK nK cK Hb.out.2.2.2.2.2.2.2.1 Hkr.out).mono ?_
    rintro e w5 ⟨rfl, hf5, ho5⟩
    have K5 := H4.out.1.aside ho5 H4.out.2.grm H3.out.2.2.2
    have DZ : Duo w0 w5 M g r m gr rs rn rw (crashP P k).2 (crashR R k).2 := ⟨K5, hf5, H3.out.2.2.1.2, H3.out.2.2.2⟩
    clear K5 hf5 ho5
    rw [H3.out.2.2.1.1]
    obtain ⟨E, hE⟩ : ∃ E, (crashP P k).1 = E := ⟨_, rfl⟩
    rw [hE]
    clear hE
    obtain ⟨Pz, hPz⟩ : ∃ Pz : Pl, (crashP P k).2 = Pz := ⟨_, rfl⟩
    obtain ⟨Rz, hRz⟩ : ∃ Rz : Rm, (crashR R k).2 = Rz := ⟨_, rfl⟩
    rw [hPz, hRz] at DZ
    clear hPz hRz
    have hzw := same_waits DZ.k.1.wl DZ.s
    have hzs := same_size DZ.s
    obtain ⟨dd, hdd⟩ : ∃ dd, Pz.dead = dd := ⟨_, rfl⟩
    obtain ⟨ll, hll⟩ : ∃ ll, zs Pz.wt = ll := ⟨_, rfl⟩
    have t1 := pk_dead DZ.k dd hdd
    have t2 := rdead_any DZ.f
    rw [DZ.s.d, hdd] at t2
    have t3 := pk_waits DZ.k ll hll
    have hzl : waitsN Rz Rz.S.length = ll := hzw.trans hll
    have HZ := Lib.hid (And.intro DZ (And.intro hzl hzs))
    have T1 := Lib.hid t1
    have T2 := Lib.hid t2
    have T3 := Lib.hid t3
    clear DZ hzw hzs hdd hll t1 t2 t3 hzl
    go_wp2_with (first
      | (go_at_call 12; refine T1.out.mono ?_; rintro e wq ⟨rfl, hw⟩; obtain rfl := hw.symm)
      | (go_at_call 43; refine T2.out.mono ?_; rintro e wq ⟨rfl, hw⟩; obtain rfl := hw.symm)
      | (go_at_call 8; refine T3.out.mono ?_; rintro e wp ⟨Ap, cp, rfl, hIp, hbp, _⟩; have HP := Lib.hid (And.intro hIp (HZ.out.1.below hbp)); clear hIp hbp)
      | (go_at_call 44; refine (rwaits_any HP.out.2.f).mono ?_; rintro e wo ⟨vo, rfl, hro, hbo⟩; rw [HZ.out.2.1] at hro; obtain ⟨Ao, co, rfl, hIo⟩ := IsL.ofOwn hro; have HO := Lib.hid (And.intro hIo (And.intro (HP.out.1.after hbo) (HP.out.2.below hbo))); clear hro hbo hIo)
      | (go_at_call 29; refine (eqInts_same Ap Ao ll.length cp co ll wo HO.out.2.1 HO.out.1).mono ?_; rintro e wn ⟨rfl, hbn⟩; have HN := Lib.hid (HO.out.2.2.below hbn); clear hbn)
      | (go_at_call 5; refine (size_any HN.out.k.1).mono ?_; rintro e wq ⟨rfl, hw⟩; obtain rfl := hw.symm)
      | (go_at_call 45; refine (rsize_any HN.out.f).mono ?_; rintro e wq ⟨rfl, hw⟩; obtain rfl := hw.symm; rw [HZ.out.2.2]; simp only [Pl.n]))
    go_ret
    exact ⟨by first | rfl | simp, _, _, HN.out⟩
  · rw [h7]
    clear h7 h0
    have K3 := HS.out.duo.k.below HS.out.bel
    have F3 := HS.out.duo.f.below HS.out.bel
    have s3 := HS.out.duo.s
    have ap := HS.out.duo.ap
    have nb : ¬ M w.heap.size := HS.out.duo.k.notM (Nat.le_refl _)
    have hss := same_boot s3
    have H3 := Lib.hid (And.intro K3 (And.intro F3 (And.intro hss ap)))
    clear K3 F3 s3 ap hss
    go_wp2_with fail
    refine (pk_boot H3.out.1 _ rfl).mono ?_
    rintro e w4 ⟨rfl, hk4, ho4⟩
    have F4 := H3.out.2.1.aside ho4 H3.out.1.grm H3.out.2.2.2
    have box4 := ho4.blk HS.out.box (fun e => nb (HS.out.duo.k.grm _ e))
    have H4 := Lib.hid (And.intro hk4 F4)
    clear hk4 ho4 F4 box4
    go_wp2_with fail
    refine (rboot_any H4.out.2).mono ?_
    rintro e w5 ⟨rfl, hf5, ho5⟩
    have K5 := H4.out.1.aside ho5 H4.out.2.grm H3.out.2.2.2
    have DZ : Duo w0 w5 M g r m gr rs rn rw (bootP P) ({ R with dead := false, fails := false }) := ⟨K5, hf5, H3.out.2.2.1, H3.out.2.2.2⟩
    clear K5 hf5 ho5
    obtain ⟨Pz, hPz⟩ : ∃ Pz : Pl, (bootP P) = Pz := ⟨_, rfl⟩
    obtain ⟨Rz, hRz⟩ : ∃ Rz : Rm, ({ R with dead := false, fails := false }) = Rz := ⟨_, rfl⟩
    rw [hPz, hRz] at DZ
    clear hPz hRz
    have hzw := same_waits DZ.k.1.wl DZ.s
    have hzs := same_size DZ.s
    obtain ⟨dd, hdd⟩ : ∃ dd, Pz.dead = dd := ⟨_, rfl⟩
    obtain ⟨ll, hll⟩ : ∃ ll, zs Pz.wt = ll := ⟨_, rfl⟩
    have t1 := pk_dead DZ.k dd hdd
    have t2 := rdead_any DZ.f
    rw [DZ.s.d, hdd] at t2
    have t3 := pk_waits DZ.k ll hll
    have hzl : waitsN Rz Rz.S.length = ll := hzw.trans hll
    have HZ := Lib.hid (And.intro DZ (And.intro hzl hzs))
    have T1 := Lib.hid t1
    have T2 := Lib.hid t2
    have T3 := Lib.hid t3
    clear DZ hzw hzs hdd hll t1 t2 t3 hzl
    go_wp2_with (first
      | (go_at_call 12; refine T1.out.mono ?_; rintro e wq ⟨rfl, hw⟩; obtain rfl := hw.symm)
      | (go_at_call 43; refine T2.out.mono ?_; rintro e wq ⟨rfl, hw⟩; obtain rfl := hw.symm)
      | (go_at_call 8; refine T3.out.mono ?_; rintro e wp ⟨Ap, cp, rfl, hIp, hbp, _⟩; have HP := Lib.hid (And.intro hIp (HZ.out.1.below hbp)); clear hIp hbp)
      | (go_at_call 44; refine (rwaits_any HP.out.2.f).mono ?_; rintro e wo ⟨vo, rfl, hro, hbo⟩; rw [HZ.out.2.1] at hro; obtain ⟨Ao, co, rfl, hIo⟩ := IsL.ofOwn hro; have HO := Lib.hid (And.intro hIo (And.intro (HP.out.1.after hbo) (HP.out.2.below hbo))); clear hro hbo hIo)
      | (go_at_call 29; refine (eqInts_same Ap Ao ll.length cp co ll wo HO.out.2.1 HO.out.1).mono ?_; rintro e wn ⟨rfl, hbn⟩; have HN := Lib.hid (HO.out.2.2.below hbn); clear hbn)
      | (go_at_call 5; refine (size_any HN.out.k.1).mono ?_; rintro e wq ⟨rfl, hw⟩; obtain rfl := hw.symm)
      | (go_at_call 45; refine (rsize_any HN.out.f).mono ?_; rintro e wq ⟨rfl, hw⟩; obtain rfl := hw.symm; rw [HZ.out.2.2]; simp only [Pl.n]))
    go_ret
    exact ⟨by first | rfl | simp, _, _, HN.out⟩
  · rw [h7]
    clear h7 h0
    have K3 := HS.out.duo.k.grow (M' := (fun i => M i ∨ (w.heap.size ≤ i ∧ i < w3.heap.size))) HS.out.bel (fun i e => .inl e) (fun i e => e)
    have F3 := HS.out.duo.f.grow (M' := (fun i => M i ∨ (w.heap.size ≤ i ∧ i < w3.heap.size))) HS.out.bel (fun i e => .inl e) (fun i e => e)
    have s3 := HS.out.duo.s
    have ap := HS.out.duo.ap
    have nb : ∀ i, w.heap.size ≤ i → ¬ M i := fun i hi => HS.out.duo.k.notM hi
    have Hnb := Lib.hid (And.intro (fun i (hi : w.heap.size ≤ i) e => nb i hi (HS.out.duo.k.grm i e)) (fun i (hi : w.heap.size ≤ i) e => nb i hi (HS.out.duo.f.grm i e)))
    have hss := same_fail s3 a k
    have H3 := Lib.hid (And.intro K3 (And.intro F3 (And.intro hss ap)))
    have hlow : ∀ i, (Value.slice Ak nK ck).ownBlock = some i → w.heap.size + 1 ≤ i ∧ i < w3.heap.size := fun i hi => HS.out.keep.lt i hi
    have hoff : KOff w3 (GRM g r m) (.slice Ak nK ck) k := KOff.ofRow (by rw [Hb.out.2.2.2.2.2.2.2.1]; exact HS.out.keep : w3.ownsRow (w.heap.size + 1) _ 1 (.slice Ak nK ck) k.length (cbls k)) (fun i hi => Nat.lt_succ_of_lt (HS.out.duo.k.1.lt i (HS.out.duo.k.grm i hi)))
    have d1 := HS.out.box.cell (i := 1) rfl
    have Hoff := Lib.hid (And.intro hoff hlow)
    clear K3 F3 s3 ap hss nb hoff hlow
    go_wp2_with fail
    refine (fail_free H3.out.1.1 a ha Ak nK ck Hb.out.2.2.2.2.2.2.2.1 Hoff.out.1).mono ?_
    rintro e w4 ⟨rfl, hl4, ho4⟩
    have hk4 := H3.out.1.step hl4 ho4
    have F4 := H3.out.2.1.aside ho4 H3.out.1.grm H3.out.2.2.2
    have box4 := ho4.blk HS.out.box (Hnb.out.1 _ (Nat.le_refl _))
    have inp4 := row_kept HS.out.keep (fun i hle hlt => ho4.block i hlt (Hnb.out.1 i (by omega)))
    clear d1
    have d1 := box4.cell (i := 1) rfl
    have d4 := box4.cell (i := 4) rfl
    have H4 := Lib.hid (And.intro hk4 (And.intro F4 (And.intro inp4 (Hb.out.2.2.2.2.2.2.2.koff hk4.bel hk4.2.1))))
    clear hk4 hl4 ho4 F4 box4 inp4
    go_wp2_with fail
    refine (rfail_any H4.out.2.1 a ha AK nK cK Hb.out.2.2.2.2.2.2.2.1 H4.out.2.2.2 (by omega)).mono ?_
    rintro e w5 ⟨rfl, hf5, ho5⟩
    have K5 := H4.out.1.aside ho5 H4.out.2.1.grm H3.out.2.2.2
    have D5 : Duo w0 w5 (fun i => M i ∨ (w.heap.size ≤ i ∧ i < w3.heap.size)) g r m gr rs rn rw (failP P a k).2 (failR R a k).2 := ⟨K5, hf5, H3.out.2.2.1.2, H3.out.2.2.2⟩
    have inp5 := row_kept H4.out.2.2.1 (fun i hle hlt => ho5.block i hlt (Hnb.out.2 i (by omega)))
    have H6 := Lib.hid (And.intro D5 inp5)
    clear K5 hf5 ho5 D5 inp5 d1 d4
    rw [H3.out.2.2.1.1]
    obtain ⟨E, hE⟩ : ∃ E, (failP P a k).1 = E := ⟨_, rfl⟩
    rw [hE]
    clear hE
    have hnot : ∀ (x : Bool) (w : World), (Op.unary .not (.bool x)).run Try.prog w = .ok (.bool (!x)) w := fun _ _ => rfl
    go_wp2_with fail
    go_loopw [17] (fun v wr => ∃ q : Nat, q ≤ nK ∧ v = .int .i64 q ∧ (∃ ys : List Bool, ys.length = nK ∧ wr.ownsRow (w.heap.size + 1) 4 1 (.slice Ak nK ck) nK (cbls ys)) ∧ Duo w0 wr (fun i => M i ∨ (w.heap.size ≤ i ∧ i < w3.heap.size)) g r m gr rs rn rw (failP P a k).2 (failR R a k).2) (fun v _ => nK - (intOf v).toNat)
    case atStart => exact ⟨0, Nat.zero_le _, rfl, ⟨k, Hb.out.2.2.2.2.2.2.2.1, H6.out.2⟩, H6.out.1⟩
    case round =>
      obtain ⟨q, hq, rfl, ⟨ys, hy, hown⟩, hT⟩ := hrel
      have hq0 : (0 : Int) ≤ q := by omega
      by_cases hqn : q < nK
      · have hq1 : (q : Int) < nK := by omega
        obtain ⟨gi, cap, hv, hg, hgl⟩ := hown.form (by omega)
        simp only [Value.slice.injEq] at hv
        obtain ⟨rfl, _, rfl⟩ := hv
        have hqy : q < ys.length := by omega
        have hc : wr.cell? ⟨gi, q, none⟩ = some (.bool ys[q]) := by
          have := World.ownsRow.cells (w := wr) hown (g := gi) rfl q (.bool ys[q]) (by unfold cbls; rw [List.getElem?_map, List.getElem?_eq_getElem hqy]; rfl)
          rw [add_mk, Nat.zero_add] at this
          exact this
        have hf := hown.frozenAt q
        have hgi := Hoff.out.2 gi rfl
        generalize hold : ys[q] = old at *
        have Hr := Lib.hid (And.intro hy (And.intro hown (And.intro hT hgi)))
        clear hy hold hown hT hgi hg hgl hqy
        go_wp2
        go_roundw
        case rel =>
          refine ⟨q + 1, by omega, by go_num, ⟨ys.set q (!old), by rw [List.length_set]; exact Hr.out.1, ?_⟩, Hr.out.2.2.1.set (p := ⟨gi, q, none⟩) (.inr ⟨by show _ ≤ gi; have := Hr.out.2.2.2.1; omega, Hr.out.2.2.2.2⟩) (Hnb.out.1 gi (by have := Hr.out.2.2.2.1; omega)) (Hnb.out.2 gi (by have := Hr.out.2.2.2.1; omega)) _⟩
          have := (World.ownsRow.stored Hr.out.2.1 q (.bool (!old))).1
          unfold cbls at this ⊢
          rw [List.map_set]
          exact this
        case measure => simp [intOf]; omega
      · have hqe : q = nK := by omega
        have hq1 : ¬ (q : Int) < nK := by omega
        have DZ := hT
        clear hown hy hT
        obtain ⟨Pz, hPz⟩ : ∃ Pz : Pl, (failP P a k).2 = Pz := ⟨_, rfl⟩
        obtain ⟨Rz, hRz⟩ : ∃ Rz : Rm, (failR R a k).2 = Rz := ⟨_, rfl⟩
        rw [hPz, hRz] at DZ
        clear hPz hRz
        have hzw := same_waits DZ.k.1.wl DZ.s
        have hzs := same_size DZ.s
        obtain ⟨dd, hdd⟩ : ∃ dd, Pz.dead = dd := ⟨_, rfl⟩
        obtain ⟨ll, hll⟩ : ∃ ll, zs Pz.wt = ll := ⟨_, rfl⟩
        have t1 := pk_dead DZ.k dd hdd
        have t2 := rdead_any DZ.f
        rw [DZ.s.d, hdd] at t2
        have t3 := pk_waits DZ.k ll hll
        have hzl : waitsN Rz Rz.S.length = ll := hzw.trans hll
        have HZ := Lib.hid (And.intro DZ (And.intro hzl hzs))
        have T1 := Lib.hid t1
        have T2 := Lib.hid t2
        have T3 := Lib.hid t3
        clear DZ hzw hzs hdd hll t1 t2 t3 hzl
        go_wp2_with (first
          | (go_at_call 12; refine T1.out.mono ?_; rintro e wq ⟨rfl, hw⟩; obtain rfl := hw.symm)
          | (go_at_call 43; refine T2.out.mono ?_; rintro e wq ⟨rfl, hw⟩; obtain rfl := hw.symm)
          | (go_at_call 8; refine T3.out.mono ?_; rintro e wp ⟨Ap, cp, rfl, hIp, hbp, _⟩; have HP := Lib.hid (And.intro hIp (HZ.out.1.below hbp)); clear hIp hbp)
          | (go_at_call 44; refine (rwaits_any HP.out.2.f).mono ?_; rintro e wo ⟨vo, rfl, hro, hbo⟩; rw [HZ.out.2.1] at hro; obtain ⟨Ao, co, rfl, hIo⟩ := IsL.ofOwn hro; have HO := Lib.hid (And.intro hIo (And.intro (HP.out.1.after hbo) (HP.out.2.below hbo))); clear hro hbo hIo)
          | (go_at_call 29; refine (eqInts_same Ap Ao ll.length cp co ll wo HO.out.2.1 HO.out.1).mono ?_; rintro e wn ⟨rfl, hbn⟩; have HN := Lib.hid (HO.out.2.2.below hbn); clear hbn)
          | (go_at_call 5; refine (size_any HN.out.k.1).mono ?_; rintro e wq ⟨rfl, hw⟩; obtain rfl := hw.symm)
          | (go_at_call 45; refine (rsize_any HN.out.f).mono ?_; rintro e wq ⟨rfl, hw⟩; obtain rfl := hw.symm; rw [HZ.out.2.2]; simp only [Pl.n]))
        go_ret
        exact ⟨by first | rfl | simp, _, _, HN.out.shrink (fun i e => .inl e) (fun i e => HS.out.duo.k.grm i e) (fun i e => HS.out.duo.f.grm i e)⟩
  · rw [h7]
    clear h7 h0
    have K3 := HS.out.duo.k.below HS.out.bel
    have F3 := HS.out.duo.f.below HS.out.bel
    have s3 := HS.out.duo.s
    have ap := HS.out.duo.ap
    have nb : ¬ M w.heap.size := HS.out.duo.k.notM (Nat.le_refl _)
    have hss := same_turn K3.1.wl s3 a bit
    have H3 := Lib.hid (And.intro K3 (And.intro F3 (And.intro hss ap)))
    have d1 := HS.out.box.cell (i := 1) rfl
    have d2 := HS.out.box.cell (i := 2) rfl
    clear K3 F3 s3 ap hss
    go_wp2_with fail
    refine (pk_turn H3.out.1 a bit ha hbit _ _ rfl rfl).mono ?_
    rintro e w4 ⟨rfl, hk4, ho4⟩
    have F4 := H3.out.2.1.aside ho4 H3.out.1.grm H3.out.2.2.2
    have box4 := ho4.blk HS.out.box (fun e => nb (HS.out.duo.k.grm _ e))
    clear d1 d2
    have d1 := box4.cell (i := 1) rfl
    have d2 := box4.cell (i := 2) rfl
    have H4 := Lib.hid (And.intro hk4 F4)
    clear hk4 ho4 F4 box4
    go_wp2_with fail
    refine (rturn_any H4.out.2 a bit hbit).mono ?_
    rintro e w5 ⟨rfl, hf5, ho5⟩
    have K5 := H4.out.1.aside ho5 H4.out.2.grm H3.out.2.2.2
    have DZ : Duo w0 w5 M g r m gr rs rn rw (turnP P a bit).2 (turnR R a bit).2 := ⟨K5, hf5, H3.out.2.2.1.2, H3.out.2.2.2⟩
    clear K5 hf5 ho5
    rw [H3.out.2.2.1.1]
    obtain ⟨E, hE⟩ : ∃ E, (turnP P a bit).1 = E := ⟨_, rfl⟩
    rw [hE]
    clear hE
    obtain ⟨Pz, hPz⟩ : ∃ Pz : Pl, (turnP P a bit).2 = Pz := ⟨_, rfl⟩
    obtain ⟨Rz, hRz⟩ : ∃ Rz : Rm, (turnR R a bit).2 = Rz := ⟨_, rfl⟩
    rw [hPz, hRz] at DZ
    clear hPz hRz
    have hzw := same_waits DZ.k.1.wl DZ.s
    have hzs := same_size DZ.s
    obtain ⟨dd, hdd⟩ : ∃ dd, Pz.dead = dd := ⟨_, rfl⟩
    obtain ⟨ll, hll⟩ : ∃ ll, zs Pz.wt = ll := ⟨_, rfl⟩
    have t1 := pk_dead DZ.k dd hdd
    have t2 := rdead_any DZ.f
    rw [DZ.s.d, hdd] at t2
    have t3 := pk_waits DZ.k ll hll
    have hzl : waitsN Rz Rz.S.length = ll := hzw.trans hll
    have HZ := Lib.hid (And.intro DZ (And.intro hzl hzs))
    have T1 := Lib.hid t1
    have T2 := Lib.hid t2
    have T3 := Lib.hid t3
    clear DZ hzw hzs hdd hll t1 t2 t3 hzl
    go_wp2_with (first
      | (go_at_call 12; refine T1.out.mono ?_; rintro e wq ⟨rfl, hw⟩; obtain rfl := hw.symm)
      | (go_at_call 43; refine T2.out.mono ?_; rintro e wq ⟨rfl, hw⟩; obtain rfl := hw.symm)
      | (go_at_call 8; refine T3.out.mono ?_; rintro e wp ⟨Ap, cp, rfl, hIp, hbp, _⟩; have HP := Lib.hid (And.intro hIp (HZ.out.1.below hbp)); clear hIp hbp)
      | (go_at_call 44; refine (rwaits_any HP.out.2.f).mono ?_; rintro e wo ⟨vo, rfl, hro, hbo⟩; rw [HZ.out.2.1] at hro; obtain ⟨Ao, co, rfl, hIo⟩ := IsL.ofOwn hro; have HO := Lib.hid (And.intro hIo (And.intro (HP.out.1.after hbo) (HP.out.2.below hbo))); clear hro hbo hIo)
      | (go_at_call 29; refine (eqInts_same Ap Ao ll.length cp co ll wo HO.out.2.1 HO.out.1).mono ?_; rintro e wn ⟨rfl, hbn⟩; have HN := Lib.hid (HO.out.2.2.below hbn); clear hbn)
      | (go_at_call 5; refine (size_any HN.out.k.1).mono ?_; rintro e wq ⟨rfl, hw⟩; obtain rfl := hw.symm)
      | (go_at_call 45; refine (rsize_any HN.out.f).mono ?_; rintro e wq ⟨rfl, hw⟩; obtain rfl := hw.symm; rw [HZ.out.2.2]; simp only [Pl.n]))
    go_ret
    exact ⟨by first | rfl | simp, _, _, HN.out⟩
end Go.Proofs.Ytmcbjcopipafdaa
