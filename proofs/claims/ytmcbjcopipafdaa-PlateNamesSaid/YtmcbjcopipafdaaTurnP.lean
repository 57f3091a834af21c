/-
  Turn of a plate, over the code.
-/
import Derived.Test.YtmcbjcopipafdaaNewP
import Derived.Laws.BitsAllLaws
namespace Go.Proofs.Ytmcbjcopipafdaa
open Go.RowKit Go.Maps
set_option linter.unusedVariables false

section
variable {w : World} {M : Nat → Prop} {g r m : Nat} {P : Pl}
set_option maxRecDepth 100000 in
set_option maxHeartbeats 1600000 in
theorem turn_any (h : PlAt w M g r m P) (x bit : Int) (hx : Wf x) (hbit : Wf bit) : Calls Try.prog 13 #[.pointer (some ⟨g, 0, none⟩), .int .i64 x, .int .i64 bit] w fun e w' =>
    e = .returned (.int .i64 (turnP P x bit).1) ∧ PlAt w' M g r m (turnP P x bit).2 ∧ Out (GRM g r m) w w' := by
  have hla := lacks_any h x
  unfold turnP
  by_cases h0 : lackE P x = 0
  rotate_left
  · rw [if_pos h0]
    obtain ⟨E, hE⟩ : ∃ E, lackE P x = E := ⟨_, rfl⟩
    rw [hE] at hla h0 ⊢
    have hE0 : (E != 0) = true := by simpa using h0
    have Hla := Lib.hid hla
    have Hh := Lib.hid h
    clear hla hE h0 h
    go_enter Try.func13, Try.ntmps13
    go_wp2_with (go_at_call 17; refine Hla.out.mono ?_; rintro e w' ⟨rfl, rfl⟩)
    go_ret
    exact ⟨rfl, Hh.out, Out.refl _ _⟩
  · have hin : 0 ≤ x ∧ x < P.st.length := by
      unfold lackE Pl.n at h0
      split at h0
      · cases h0
      · split at h0
        · assumption
        · cases h0
    obtain ⟨i, rfl⟩ : ∃ i : Nat, x = (i : Int) := ⟨x.toNat, by omega⟩
    have hi : i < P.st.length := by omega
    rw [if_neg (by rw [h0]; decide), Int.toNat_natCast]
    rw [h0] at hla
    have Hla := Lib.hid hla
    have Hh := Lib.hid h
    by_cases hb : 0 ≤ bit ∧ bit < 512
    rotate_left
    · rw [if_neg hb]
      clear hla h0 hin h
      by_cases hb0 : bit < 0
      · clear hb
        go_enter Try.func13, Try.ntmps13
        go_wp2_with (go_at_call 17; refine Hla.out.mono ?_; rintro e w' ⟨rfl, rfl⟩)
        go_ret
        exact ⟨rfl, Hh.out, Out.refl _ _⟩
      · have hb1 : 512 ≤ bit := by omega
        have hb2 : 0 ≤ bit := by omega
        clear hb
        go_enter Try.func13, Try.ntmps13
        go_wp2_with (go_at_call 17; refine Hla.out.mono ?_; rintro e w' ⟨rfl, rfl⟩)
        go_ret
        exact ⟨rfl, Hh.out, Out.refl _ _⟩
    · rw [if_pos hb]
      obtain ⟨hb0, hb1⟩ := hb
      obtain ⟨q, rfl⟩ : ∃ q : Nat, bit = (q : Int) := ⟨bit.toNat, by omega⟩
      have hq : q < 512 := by omega
      rw [Int.toNat_natCast]
      have Hse := Lib.hid (seen_any h hi)
      have h64 := h.wl.seen hi
      have hn2 := h.wl.n2
      clear hla h0 hin h
      obtain ⟨s, hs⟩ : ∃ s, seenAt P.st P.wt i = s := ⟨_, rfl⟩
      rw [hs] at Hse h64 ⊢
      obtain ⟨D, hD, hDl, hDa⟩ : ∃ D, cbs s = D ∧ D.length = 64 ∧ D.toArray.all (·.oneCell') = true := ⟨_, rfl, by rw [cbs_length]; exact h64, cbs_all _⟩
      unfold agg64 at Hse
      rw [hD] at Hse
      have HD := Lib.hid (And.intro hD h64)
      clear hD h64 hs
      go_enter Try.func13, Try.ntmps13
      go_wp2_with (go_at_call 17; refine Hla.out.mono ?_; rintro e w' ⟨rfl, rfl⟩)
      refine Hse.out.mono ?_
      rintro e w1 ⟨rfl, hb1⟩
      obtain ⟨wS, eS, t1, i1, B1, bS, _⟩ := sec_local w1 D hDl
      have H := Lib.hid (And.intro eS (And.intro t1 (And.intro i1 (And.intro B1 (And.intro bS hb1)))))
      clear eS t1 i1 B1 bS hb1
      go_wp2_with (refine wpList_store_mid rfl 48 _ _ rfl w1.heap.size 0 D.toArray rfl rfl H.out.2.1 H.out.2.2.1 hDa ?_; simp only [Act.put]; refine cast (congrArg (fun z => wpList _ _ _ _ _ z) H.out.1.symm) ?_)
      -- REGION
      obtain ⟨kb, hkb⟩ : ∃ kb, q / 8 = kb := ⟨_, rfl⟩
      obtain ⟨kr, hkr⟩ : ∃ kr, q % 8 = kr := ⟨_, rfl⟩
      have hkb64 : kb < 64 := by omega
      have hkr8 : kr < 8 := by omega
      have e1 : (q : Int) / 8 = (kb : Int) := by omega
      have e2 : (q : Int) % 8 = (kr : Int) := by omega
      have e1' : Int.tdiv (q : Int) 8 = (kb : Int) := by rw [Int.tdiv_eq_ediv_of_nonneg (by omega)]; exact e1
      have e2' : Int.tmod (q : Int) 8 = (kr : Int) := by rw [Int.tmod_eq_emod_of_nonneg (by omega)]; exact e2
      have j0 : (0 : Int) ≤ kb := by omega
      have j1 : (kb : Int) < 64 := by omega
      have j2 : (0 : Int) ≤ kr := by omega
      have j3 : (kr : Int) < 8 := by omega
      have ew1 : IntKind.i64.wrap (kb : Int) = (kb : Int) := IntWalk.i64_in _ (by omega)
      have ew2 : IntKind.i64.wrap (kr : Int) = (kr : Int) := IntWalk.i64_in _ (by omega)
      obtain ⟨z, hz⟩ : ∃ z : UInt8, 1 <<< UInt8.ofNat kr = z := ⟨_, rfl⟩
      have hshl : IntKind.u8.wrap (2 ^ kr) = (z.toNat : Int) := by
        subst hz
        clear e1 e1' e2 e2' ew1 ew2 j2 j3 hkr
        rcases kr with _ | _ | _ | _ | _ | _ | _ | _ | k
        all_goals first | rfl | decide | omega
      have hkl : kb < s.length := by rw [HD.out.2]; exact hkb64
      have hxor : bits .xor .u8 (s[kb].toNat : Int) (z.toNat : Int) = ((s[kb].toNat ^^^ z.toNat : Nat) : Int) := u8_xor_nat s[kb].toNat z.toNat s[kb].toNat_lt z.toNat_lt
      have hflip : flipB s q = s.set kb (s[kb] ^^^ z) := by unfold flipB; rw [hkb, hkr, hz, List.getElem?_eq_getElem hkl]; rfl
      have hB2 : Blk ((wS.setCell ⟨w1.heap.size, kb, none⟩ (.int .u8 ((s[kb].toNat ^^^ z.toNat : Nat) : Int))).drew) w1.heap.size 48 (cbs (flipB s q)) := by
        rw [hflip]
        have h1 := (H.out.2.2.2.1 : Blk wS _ _ D).set_ kb (.int .u8 ((s[kb].toNat ^^^ z.toNat : Nat) : Int))
        have h2 : D.set kb (.int .u8 ((s[kb].toNat ^^^ z.toNat : Nat) : Int)) = cbs (s.set kb (s[kb] ^^^ z)) := by
          rw [← HD.out.1]; unfold cbs; rw [List.map_set]; unfold cb; rw [UInt8.toNat_xor]
        rw [← h2]; exact h1
      have hlow2 : Below w'.heap.size w' ((wS.setCell ⟨w1.heap.size, kb, none⟩ (.int .u8 ((s[kb].toNat ^^^ z.toNat : Nat) : Int))).drew) :=
        ((H.out.2.2.2.2.2.trans (H.out.2.2.2.2.1.mono H.out.2.2.2.2.2.size)).setCell H.out.2.2.2.2.2.size _).drew
      have HF := Lib.hid (And.intro hB2 (And.intro hlow2 hflip))
      clear hB2 hlow2 hflip
      have hkl9 : kb < s.length := by rw [HD.out.2]; exact hkb64
      have ck : wS.drew.cell? ⟨w1.heap.size, kb, none⟩ = some (.int .u8 (s[kb].toNat : Int)) := by
        refine (H.out.2.2.2.1 : Blk wS _ _ D).cell ?_
        rw [← HD.out.1, cbs_get, List.getElem?_eq_getElem hkl]; rfl
      have fk : wS.drew.frozen? ⟨w1.heap.size, kb, none⟩ = false := (H.out.2.2.2.1 : Blk wS _ _ D).free kb
      clear hkb hkr
      go_wp2
      refine wp_region_any (by kernel_rfl) ?_
      change wpAny _ _ _ _ _ _ _ (World.drew _)
      refine any_take (i := 0) (d := 24) (v := .int .i64 (q : Int)) rfl rfl (by kernel_rfl) (by kernel_rfl) (by kernel_rfl) (fun _ _ _ h => h) (Or.inl ⟨by rfl, (by intro w; go_simp)⟩) ?_
      simp only [List.setIfInBounds_toArray, List.set_cons_zero, List.set_cons_succ]
      refine any_take (i := 1) (d := 25) (v := .int .i64 (kb : Int)) rfl rfl (by kernel_rfl) (by kernel_rfl) (by kernel_rfl) (fun _ _ _ h => h) (Or.inl ⟨by rfl, (by intro w; go_simp)⟩) ?_
      simp only [List.setIfInBounds_toArray, List.set_cons_zero, List.set_cons_succ]
      refine any_take (i := 2) (d := 26) (v := .pointer (some ⟨w1.heap.size, kb, none⟩)) rfl rfl (by kernel_rfl) (by kernel_rfl) (by kernel_rfl) (fun _ _ _ h => h) (Or.inl ⟨by rfl, (by intro w; go_simp)⟩) ?_
      simp only [List.setIfInBounds_toArray, List.set_cons_zero, List.set_cons_succ]
      refine any_take (i := 4) (d := 28) (v := .int .i64 (q : Int)) rfl rfl (by kernel_rfl) (by kernel_rfl) (by kernel_rfl) (fun _ _ _ h => h) (Or.inl ⟨by rfl, (by intro w; go_simp)⟩) ?_
      simp only [List.setIfInBounds_toArray, List.set_cons_zero, List.set_cons_succ]
      refine any_take (i := 5) (d := 29) (v := .int .i64 (kr : Int)) rfl rfl (by kernel_rfl) (by kernel_rfl) (by kernel_rfl) (fun _ _ _ h => h) (Or.inl ⟨by rfl, (by intro w; go_simp)⟩) ?_
      simp only [List.setIfInBounds_toArray, List.set_cons_zero, List.set_cons_succ]
      refine any_take (i := 6) (d := 30) (v := .int .u8 (z.toNat : Int)) rfl rfl (by kernel_rfl) (by kernel_rfl) (by kernel_rfl) (fun _ _ _ h => h) (Or.inl ⟨by rfl, (by intro w; go_simp)⟩) ?_
      simp only [List.setIfInBounds_toArray, List.set_cons_zero, List.set_cons_succ]
      refine any_one (i := 3) (by kernel_rfl) ?_
      refine wpOp_step rfl (fun K hK => ?_)
      go_simp
      refine hK _ _ ?_
      clear hK K
      refine any_take (i := 7) (d := 31) (v := .int .u8 ((s[kb] ^^^ z).toNat : Int)) rfl rfl (by kernel_rfl) (by kernel_rfl) (by kernel_rfl) (fun _ _ _ h => h) (Or.inl ⟨by rfl, (by intro w; go_simp)⟩) ?_
      simp only [List.setIfInBounds_toArray, List.set_cons_zero, List.set_cons_succ]
      refine any_take (i := 8) (d := 32) (v := .pointer (some ⟨w1.heap.size, kb, none⟩)) rfl rfl (by kernel_rfl) (by kernel_rfl) (by kernel_rfl) (fun _ _ _ h => h) (Or.inl ⟨by rfl, (by intro w; go_simp)⟩) ?_
      simp only [List.setIfInBounds_toArray, List.set_cons_zero, List.set_cons_succ]
      refine any_one (i := 9) (by kernel_rfl) ?_
      refine wpOp_step rfl (fun K hK => ?_)
      go_simp
      refine hK _ _ ?_
      clear hK K
      refine wpAny_done (by kernel_rfl) ?_ _
      clear ck fk hxor hshl e1 e2 e1' e2' ew1 ew2 j0 j1 j2 j3 hz
      go_wp2
      generalize (wS.setCell ⟨w1.heap.size, kb, none⟩ (.int .u8 ((s[kb].toNat ^^^ z.toNat : Nat) : Int))).drew = W2 at *
      have hP2 := Hh.out.below HF.out.2.1
      obtain ⟨F, hF, hFl, hFa⟩ : ∃ F, cbs (flipB s q) = F ∧ F.length = 64 ∧ F.toArray.all (·.oneCell') = true := ⟨_, rfl, by rw [cbs_length]; unfold flipB; rw [List.length_set]; exact HD.out.2, cbs_all _⟩
      have hfl64 : (flipB s q).length = 64 := by rw [← cbs_length, hF]; exact hFl
      obtain ⟨hP3, hO3⟩ := hP2.drew.store hi (flipB s q) hfl64 F hF
      obtain ⟨kv2, hb2, _⟩ := hP2.drew.blk
      obtain ⟨kv3, hb3, _⟩ := hP3.blk
      have hBF : Blk W2.drew w1.heap.size 48 F := by have := HF.out.1; rw [hF] at this; exact this
      have hBr : w1.heap.size ≠ r := by have := Hh.out.row.lt; have := H.out.2.2.2.2.2.size; omega
      have hst3 : ({ P with st := P.st.set i (flipB s q) } : Pl).st.length = P.st.length := List.length_set
      have c0 : W2.drew.cell? ⟨g, 0, none⟩ = some (.slice (some ⟨r, 0, none⟩) P.st.length P.st.length) := hb2.cell rfl
      have c0' : (W2.drew.setCells r (i * 64) F).cell? ⟨g, 0, none⟩ = some (.slice (some ⟨r, 0, none⟩) P.st.length P.st.length) := by have := hb3.cell (i := 0) rfl; rw [hst3] at this; exact this
      have c1' : (W2.drew.setCells r (i * 64) F).cell? ⟨g, 1, none⟩ = some (.map (some m)) := hb3.cell rfl
      have hR2 : W2.drew.rangeAt w1.heap.size 0 F := hBF.range
      have hR2' : (W2.drew.setCells r (i * 64) F).rangeAt w1.heap.size 0 F := (hO3.blk hBF hBr).range
      have hth : W2.drew.there r (i * 64) F.toArray.size := by
        refine hP2.drew.row.thereAt ?_
        rw [List.size_toArray, hFl, flat_length hP2.wl.st64]
        omega
      have hinf : (Try.prog.info? 48).map (·.size) = some F.toArray.size := by rw [List.size_toArray, hFl]; exact info64
      have hinf2 : (Try.prog.info? 48).map (·.size) = some F.length := by rw [hFl]; exact info64
      have i0 : (0 : Int) ≤ i := by omega
      have i1 : (i : Int) < P.st.length := by omega
      have hwt3 : i < ({ P with st := P.st.set i (flipB s q) } : Pl).wt.length := by rw [show ({ P with st := P.st.set i (flipB s q) } : Pl).wt = P.wt from rfl, hP2.wl.wt]; exact hi
      have H9 := Lib.hid (And.intro hP3 (And.intro ((Out.ofBelow (GRM g r m) (HF.out.2.1.drew)).trans hO3 fun j _ e => .inr (.inl e)) (And.intro hfl64 hwt3)))
      clear hP2 hF hFl hP3 hO3 hb2 hb3 hBF hBr hst3 hfl64 hwt3
      have Q0 : W2.drew.cell? ⟨g, 0, none⟩ = some (.slice (some ⟨r, 0, none⟩) P.st.length P.st.length) ∧ W2.drew.rangeAt w1.heap.size 0 F := ⟨c0, hR2⟩
      refine wp_region_held_drew (S := fun W' => W'.cell? ⟨g, 0, none⟩ = some (.slice (some ⟨r, 0, none⟩) P.st.length P.st.length) ∧ W'.rangeAt w1.heap.size 0 F) (by kernel_rfl) Q0 (fun _ => ?_)
      refine anyH_take (i := 0) (d := 33) (v := ?v0) rfl rfl (by kernel_rfl) (by kernel_rfl) (by kernel_rfl) (fun _ _ _ h => h) (Or.inl ⟨by rfl, ?y0⟩) Q0 ?r0
      case y0 => (intro w; go_simp; try with_reducible rfl)
      simp only [List.setIfInBounds_toArray, List.set_cons_zero, List.set_cons_succ]
      refine anyH_take (i := 1) (d := 34) (v := ?v1) rfl rfl (by kernel_rfl) (by kernel_rfl) (by kernel_rfl) (fun _ _ _ h => h) (Or.inl ⟨by rfl, ?y1⟩) Q0 ?r1
      case y1 => (intro w; go_simp; try with_reducible rfl)
      simp only [List.setIfInBounds_toArray, List.set_cons_zero, List.set_cons_succ]
      refine anyH_take (i := 2) (d := 35) (v := ?v2) rfl rfl (by kernel_rfl) (by kernel_rfl) (by kernel_rfl) (fun _ _ _ h => h) (Or.inl ⟨by rfl, ?y2⟩) Q0 ?r2
      case y2 => (intro w; go_simp; try with_reducible rfl)
      simp only [List.setIfInBounds_toArray, List.set_cons_zero, List.set_cons_succ]
      refine wpAnyH_take' (i := 3) (d := 36) (v := ?v3) rfl rfl (by kernel_rfl) (by kernel_rfl) (by kernel_rfl) (fun _ _ _ h => h) (Or.inl ⟨by rfl, ?y3⟩) Q0 ?r3
      case y3 => (intro w hSw; go_split_ands; go_simp; try with_reducible rfl)
      simp only [List.setIfInBounds_toArray, List.set_cons_zero, List.set_cons_succ]
      refine anyH_take (i := 4) (d := 37) (v := ?v4) rfl rfl (by kernel_rfl) (by kernel_rfl) (by kernel_rfl) (fun _ _ _ h => h) (Or.inl ⟨by rfl, ?y4⟩) Q0 ?r4
      case y4 => (intro w; go_simp; try with_reducible rfl)
      simp only [List.setIfInBounds_toArray, List.set_cons_zero, List.set_cons_succ]
      refine anyH_load (i := 5) (d := 38) rfl rfl (by kernel_rfl) (by kernel_rfl) (by kernel_rfl) (by rfl) 48 _ rfl w1.heap.size 0 rfl F _ (fun _ h => h.2) Try.underlying48 rfl hinf2 (fun _ _ _ h => h) Q0 ?_
      simp only [List.setIfInBounds_toArray, List.set_cons_zero, List.set_cons_succ]
      refine anyH_take (i := 6) (d := 39) (v := ?v6) rfl rfl (by kernel_rfl) (by kernel_rfl) (by kernel_rfl) (fun _ _ _ h => h) (Or.inl ⟨by rfl, ?y6⟩) Q0 ?r6
      case y6 => (intro w; go_simp; try with_reducible rfl)
      simp only [List.setIfInBounds_toArray, List.set_cons_zero, List.set_cons_succ]
      refine anyH_one (i := 7) (by kernel_rfl) ?_
      refine op_store rfl rfl rfl 48 _ _ rfl r (i * 64) F.toArray rfl rfl hth hinf hFa ?_
      refine ⟨⟨c0', hR2'⟩, ?_⟩
      refine wpAnyH_done (by kernel_rfl) ?_ _
      clear c0 c0' hR2 hR2' hth hinf hinf2 hFa Q0
      go_wp2_with (refine wp_dropW rfl _ _ rfl m P.wt i rfl rfl H9.out.1.map H9.out.2.2.2 H9.out.1.size ?_; intro w9 ht9 hm9)
      obtain ⟨hP9, hO9⟩ := H9.out.1.mapped ht9 hm9 (Hh.out.wl.turn i (flipB s q) H9.out.2.2.1)
      go_ret
      exact ⟨rfl, hP9, H9.out.2.1.trans hO9 fun j _ e => .inr (.inr e)⟩
end
end Go.Proofs.Ytmcbjcopipafdaa
