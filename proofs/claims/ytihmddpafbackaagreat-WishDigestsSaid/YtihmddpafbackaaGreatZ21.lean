/-
  Laid together for a hand-in: Rvc, Rv11.
-/
import Derived.Test.YtihmddpafbackaaGreatZ20
import Derived.Deep.DeepCutAuto

namespace Go.Proofs.YtihmddpafbackaaGreat

open Go.RowKit Go.Maps

set_option linter.unusedVariables false

set_option linter.unusedSimpArgs false

set_option maxRecDepth 100000 in
set_option maxHeartbeats 6400000 in
theorem rcheck_5 (x : Wl) (Dx : Option Addr) (ndx cdx : Nat) (Nx : Option Addr) (nnx cnx : Nat) (w : World) (h : ArgW w x Dx ndx cdx Nx nnx cnx) (hk : x.kd = 5) : Calls Tryz.prog 54 #[.agg #[.int .i64 x.cl, .int .i64 x.sp, .int .i64 x.gr, .int .i64 x.ep, .int .i64 x.kd, .int .i64 x.bl, .slice Dx ndx cdx, .int .i64 x.od, .int .i64 x.nw, .slice Nx nnx cnx]] w fun e w' => e = .returned (.int .i64 (chk x)) ∧ Below w.heap.size w w' := by
  have hb0 : Below w.heap.size w (w.alloc (.cells #[.int .i64 x.cl, .int .i64 x.sp, .int .i64 x.gr, .int .i64 x.ep, .int .i64 x.kd, .int .i64 x.bl, .slice Dx ndx cdx, .int .i64 x.od, .int .i64 x.nw, .slice Nx nnx cnx] 25)) := (Below.refl _ _).alloc (Nat.le_refl _) _
  have hB0 : Blk (w.alloc (.cells #[.int .i64 x.cl, .int .i64 x.sp, .int .i64 x.gr, .int .i64 x.ep, .int .i64 x.kd, .int .i64 x.bl, .slice Dx ndx cdx, .int .i64 x.od, .int .i64 x.nw, .slice Nx nnx cnx] 25)) w.heap.size 25 [.int .i64 x.cl, .int .i64 x.sp, .int .i64 x.gr, .int .i64 x.ep, .int .i64 x.kd, .int .i64 x.bl, .slice Dx ndx cdx, .int .i64 x.od, .int .i64 x.nw, .slice Nx nnx cnx] := Blk.new rfl rfl
  have hlen := h.1.1
  have H := Lib.hid (And.intro hB0 (And.intro hb0 (h.after hb0)))
  clear hB0 hb0 h
  have HT : (0 ≤ x.ep ∧ x.ep ≤ 1048576) → x = ownW x → Hid ((chk x = 0 ∨ chk x = 2) ∧ (chk x = 0 ↔ (1 ≤ x.gr ∧ x.gr ≤ 2) ∧ Nxt x.nx)) := fun he ho => ⟨chk02 x, chk_5 hk he ho⟩
  have e1 : (x.kd == 1) = false := by simp [hk]
  have e2 : (x.kd == 2) = false := by simp [hk]
  have e3 : (x.kd == 3) = false := by simp [hk]
  have e4 : (x.kd == 4) = false := by simp [hk]
  have e5 : (x.kd == 5) = true := by simp [hk]
  have n5 : (x.kd != 5) = false := by simp [hk]
  have HK := Lib.hid hk
  clear hk
  go_enter Tryz.func54, Tryz.ntmps54
  go_wp2_with fail
  rename_i Q0 K0 hK0
  have key : ∀ (m : Bool) (a : Act) (W : World), a.tmps.size = 117 → a.defers = [] → a.tmps[1]? = some (.pointer (some ⟨w.heap.size, 0, none⟩)) → a.tmps[3]? = some (.bool m) → Below (w.alloc (.cells #[.int .i64 x.cl, .int .i64 x.sp, .int .i64 x.gr, .int .i64 x.ep, .int .i64 x.kd, .int .i64 x.bl, .slice Dx ndx cdx, .int .i64 x.od, .int .i64 x.nw, .slice Nx nnx cnx] 25)).heap.size (w.alloc (.cells #[.int .i64 x.cl, .int .i64 x.sp, .int .i64 x.gr, .int .i64 x.ep, .int .i64 x.kd, .int .i64 x.bl, .slice Dx ndx cdx, .int .i64 x.od, .int .i64 x.nw, .slice Nx nnx cnx] 25)) W → (m = true → (0 ≤ x.ep ∧ x.ep ≤ 1048576) ∧ x = ownW x) → (m = false → chk x = 2) → K0 a W := by
    intro m a W hs hd h1 h3 hb hmt hmf
    obtain ⟨g, hg, hge⟩ := lit117 a hs
    have q1 := hge 1 _ h1
    have q3 := hge 3 _ h3
    rw [hd, q1, q3] at hg
    rw [hg]
    clear hg hge q1 q3 h1 h3 hs hd
    have hB := H.out.1.below hb H.out.1.lt
    have k0 : W.cell? ⟨w.heap.size, 0, none⟩ = some (.int .i64 x.cl) := hB.cell rfl
    have k1 : W.cell? ⟨w.heap.size, 1, none⟩ = some (.int .i64 x.sp) := hB.cell rfl
    have k2 : W.cell? ⟨w.heap.size, 2, none⟩ = some (.int .i64 x.gr) := hB.cell rfl
    have k3 : W.cell? ⟨w.heap.size, 3, none⟩ = some (.int .i64 x.ep) := hB.cell rfl
    have k4 : W.cell? ⟨w.heap.size, 4, none⟩ = some (.int .i64 x.kd) := hB.cell rfl
    have k5 : W.cell? ⟨w.heap.size, 5, none⟩ = some (.int .i64 x.bl) := hB.cell rfl
    have k6 : W.cell? ⟨w.heap.size, 6, none⟩ = some (.slice Dx ndx cdx) := hB.cell rfl
    have k7 : W.cell? ⟨w.heap.size, 7, none⟩ = some (.int .i64 x.od) := hB.cell rfl
    have k8 : W.cell? ⟨w.heap.size, 8, none⟩ = some (.int .i64 x.nw) := hB.cell rfl
    have k9 : W.cell? ⟨w.heap.size, 9, none⟩ = some (.slice Nx nnx cnx) := hB.cell rfl
    have HB := Lib.hid (And.intro (H.out.2.1.trans (hb.mono H.out.2.1.size)) (H.out.2.2.after hb))
    clear hb hB
    refine hK0 _ _ ?_
    clear hK0
    cases m with
    | false =>
      have hc2 := Lib.hid (hmf rfl)
      clear hmf hmt
      go_wp2_with (first | (go_at_call 78; refine (rwithin_any _ _ _ _).mono ?_; rintro e w' ⟨rfl, rfl⟩))
      all_goals go_ret
      all_goals exact ⟨fin2 hc2.out, HB.out.1⟩
    | true =>
      have hcc := HT (hmt rfl).1 (hmt rfl).2
      clear hmt hmf HT
      obtain ⟨nb, hnb⟩ : ∃ b, decide (Nxt x.nx) = b := ⟨_, rfl⟩
      have hnb' : Hid (nb = true ↔ Nxt x.nx) := by show _ ↔ _; rw [← hnb, decide_eq_true_eq]
      have HN := Lib.hid hnb
      clear hnb
      cases nb with
      | true =>
        have hnx : Hid (Nxt x.nx) := by show _; exact hnb'.out.1 rfl
        go_wp2_with (first | (go_at_call 78; refine (rwithin_any _ _ _ _).mono ?_; rintro e w' ⟨rfl, rfl⟩) | (go_at_call 80; refine (rnext_any Nx nnx cnx x.nx _ HB.out.2.2.1.1).mono ?_; rintro e w' ⟨rfl, hbn⟩; rw [HN.out]; have hbn := Lib.hid hbn))
        all_goals go_ret
        all_goals (try simp only [Bool.not_eq_true', Bool.not_eq_false', decide_eq_false_iff_not, decide_eq_true_eq, beq_iff_eq, beq_eq_false_iff_ne, bne_iff_ne, bne_eq_false_iff_eq, ne_eq, Bool.and_eq_true, Bool.and_eq_false_iff, Bool.or_eq_true] at *)
        all_goals first | exact ⟨fin2 (c5no hcc.out (fun hh => absurd hh.2 hnx.out)), HB.out.1⟩ | exact ⟨fin2 (c5no hcc.out (fun hh => absurd hh.2 hnx.out)), HB.out.1.trans (hbn.out.mono HB.out.1.size)⟩ | exact ⟨fin2 (c5no hcc.out (fun hh => by have := hh.1; omega)), HB.out.1⟩ | exact ⟨fin2 (c5no hcc.out (fun hh => by have := hh.1; omega)), HB.out.1.trans (hbn.out.mono HB.out.1.size)⟩ | exact ⟨fin0 (hcc.out.2.2 ⟨by omega, hnx.out⟩), HB.out.1⟩ | exact ⟨fin0 (hcc.out.2.2 ⟨by omega, hnx.out⟩), HB.out.1.trans (hbn.out.mono HB.out.1.size)⟩
      | false =>
        have hnx : Hid (¬ Nxt x.nx) := by show _; intro hh; exact absurd (hnb'.out.2 hh) (by simp)
        go_wp2_with (first | (go_at_call 78; refine (rwithin_any _ _ _ _).mono ?_; rintro e w' ⟨rfl, rfl⟩) | (go_at_call 80; refine (rnext_any Nx nnx cnx x.nx _ HB.out.2.2.1.1).mono ?_; rintro e w' ⟨rfl, hbn⟩; rw [HN.out]; have hbn := Lib.hid hbn))
        all_goals go_ret
        all_goals (try simp only [Bool.not_eq_true', Bool.not_eq_false', decide_eq_false_iff_not, decide_eq_true_eq, beq_iff_eq, beq_eq_false_iff_ne, bne_iff_ne, bne_eq_false_iff_eq, ne_eq, Bool.and_eq_true, Bool.and_eq_false_iff, Bool.or_eq_true] at *)
        all_goals first | exact ⟨fin2 (c5no hcc.out (fun hh => absurd hh.2 hnx.out)), HB.out.1⟩ | exact ⟨fin2 (c5no hcc.out (fun hh => absurd hh.2 hnx.out)), HB.out.1.trans (hbn.out.mono HB.out.1.size)⟩ | exact ⟨fin2 (c5no hcc.out (fun hh => by have := hh.1; omega)), HB.out.1⟩ | exact ⟨fin2 (c5no hcc.out (fun hh => by have := hh.1; omega)), HB.out.1.trans (hbn.out.mono HB.out.1.size)⟩ | exact ⟨fin0 (hcc.out.2.2 ⟨by omega, hnx.out⟩), HB.out.1⟩ | exact ⟨fin0 (hcc.out.2.2 ⟨by omega, hnx.out⟩), HB.out.1.trans (hbn.out.mono HB.out.1.size)⟩
  cases hp : decide (0 ≤ x.ep ∧ x.ep ≤ 1048576) with
  | true =>
    refine region_rule4 (P := Tryz.prog) 10 117 caD caG caS (caR w.heap.size (sameB x (ownW x)) x Dx ndx cdx Nx nnx cnx) _ _ (by kernel_rfl) rfl rfl (by kernel_rfl) (by decide +kernel) (ca_gb w.heap.size (sameB x (ownW x)) x Dx ndx cdx Nx nnx cnx) (ca_sk w.heap.size (sameB x (ownW x)) x Dx ndx cdx Nx nnx cnx) (ca_on w.heap.size (sameB x (ownW x)) x Dx ndx cdx Nx nnx cnx) (ca_step w.heap.size (sameB x (ownW x)) x Dx ndx cdx Nx nnx cnx (by rfl) (by kernel_rfl) rfl H.out.1 H.out.2.2 rfl hp) ?fin
    case fin =>
      intro a w6 hbase hbl hall
      obtain ⟨v3, hv3, hR3⟩ := hall 9 (by decide)
      have hR3' : v3 = .bool (sameB x (ownW x)) := hR3
      subst hR3'
      exact key (sameB x (ownW x)) a w6 hbase.1 hbase.2.1 ((hbase.2.2 1 (by decide)).trans rfl) hv3 hbl (fun h => ⟨of_decide_eq_true hp, (eqW_iff _ _).1 ((sameB_iff _ _).1 h)⟩) (fun h => chk_bad (fun hh => by rw [← hh.2, sameB_self] at h; cases h))
  | false =>
    refine region_rule4 (P := Tryz.prog) 10 117 cbD cbG cbS (cbR w.heap.size (sameB x (ownW x)) x Dx ndx cdx Nx nnx cnx) _ _ (by kernel_rfl) rfl rfl (by kernel_rfl) (by decide +kernel) (cb_gb w.heap.size (sameB x (ownW x)) x Dx ndx cdx Nx nnx cnx) (cb_sk w.heap.size (sameB x (ownW x)) x Dx ndx cdx Nx nnx cnx) (cb_on w.heap.size (sameB x (ownW x)) x Dx ndx cdx Nx nnx cnx) (cb_step w.heap.size (sameB x (ownW x)) x Dx ndx cdx Nx nnx cnx (by rfl) (by kernel_rfl) rfl H.out.1 H.out.2.2 rfl hp) ?fin
    case fin =>
      intro a w6 hbase hbl hall
      obtain ⟨v3, hv3, hR3⟩ := hall 9 (by decide)
      have hR3' : v3 = .bool false := hR3
      subst hR3'
      exact key false a w6 hbase.1 hbase.2.1 ((hbase.2.2 1 (by decide)).trans rfl) hv3 hbl (fun h => by cases h) (fun _ => chk_bad (fun hh => of_decide_eq_false hp hh.1))

set_option maxRecDepth 100000 in
set_option maxHeartbeats 6400000 in
theorem rcheck_6 (x : Wl) (Dx : Option Addr) (ndx cdx : Nat) (Nx : Option Addr) (nnx cnx : Nat) (w : World) (h : ArgW w x Dx ndx cdx Nx nnx cnx) (h1 : x.kd ≠ 1) (h2 : x.kd ≠ 2) (h3 : x.kd ≠ 3) (h4 : x.kd ≠ 4) (h5 : x.kd ≠ 5) : Calls Tryz.prog 54 #[.agg #[.int .i64 x.cl, .int .i64 x.sp, .int .i64 x.gr, .int .i64 x.ep, .int .i64 x.kd, .int .i64 x.bl, .slice Dx ndx cdx, .int .i64 x.od, .int .i64 x.nw, .slice Nx nnx cnx]] w fun e w' => e = .returned (.int .i64 (chk x)) ∧ Below w.heap.size w w' := by
  have hb0 : Below w.heap.size w (w.alloc (.cells #[.int .i64 x.cl, .int .i64 x.sp, .int .i64 x.gr, .int .i64 x.ep, .int .i64 x.kd, .int .i64 x.bl, .slice Dx ndx cdx, .int .i64 x.od, .int .i64 x.nw, .slice Nx nnx cnx] 25)) := (Below.refl _ _).alloc (Nat.le_refl _) _
  have hB0 : Blk (w.alloc (.cells #[.int .i64 x.cl, .int .i64 x.sp, .int .i64 x.gr, .int .i64 x.ep, .int .i64 x.kd, .int .i64 x.bl, .slice Dx ndx cdx, .int .i64 x.od, .int .i64 x.nw, .slice Nx nnx cnx] 25)) w.heap.size 25 [.int .i64 x.cl, .int .i64 x.sp, .int .i64 x.gr, .int .i64 x.ep, .int .i64 x.kd, .int .i64 x.bl, .slice Dx ndx cdx, .int .i64 x.od, .int .i64 x.nw, .slice Nx nnx cnx] := Blk.new rfl rfl
  have hlen := h.1.1
  have H := Lib.hid (And.intro hB0 (And.intro hb0 (h.after hb0)))
  clear hB0 hb0 h
  have H6 := Lib.hid (chk_6 h1 h2 h3 h4 h5)
  have e1 : (x.kd == 1) = false := by simp; omega
  have e2 : (x.kd == 2) = false := by simp; omega
  have e3 : (x.kd == 3) = false := by simp; omega
  have e4 : (x.kd == 4) = false := by simp; omega
  have e5 : (x.kd == 5) = false := by simp; omega
  have n5 : (x.kd != 5) = true := by simp; omega
  clear h1 h2 h3 h4 h5
  go_enter Tryz.func54, Tryz.ntmps54
  go_wp2_with fail
  rename_i Q0 K0 hK0
  have key : ∀ (m : Bool) (a : Act) (W : World), a.tmps.size = 117 → a.defers = [] → a.tmps[1]? = some (.pointer (some ⟨w.heap.size, 0, none⟩)) → a.tmps[3]? = some (.bool m) → Below (w.alloc (.cells #[.int .i64 x.cl, .int .i64 x.sp, .int .i64 x.gr, .int .i64 x.ep, .int .i64 x.kd, .int .i64 x.bl, .slice Dx ndx cdx, .int .i64 x.od, .int .i64 x.nw, .slice Nx nnx cnx] 25)).heap.size (w.alloc (.cells #[.int .i64 x.cl, .int .i64 x.sp, .int .i64 x.gr, .int .i64 x.ep, .int .i64 x.kd, .int .i64 x.bl, .slice Dx ndx cdx, .int .i64 x.od, .int .i64 x.nw, .slice Nx nnx cnx] 25)) W → (m = true → (0 ≤ x.ep ∧ x.ep ≤ 1048576) ∧ x = ownW x) → (m = false → chk x = 2) → K0 a W := by
    intro m a W hs hd h1 h3 hb hmt hmf
    obtain ⟨g, hg, hge⟩ := lit117 a hs
    have q1 := hge 1 _ h1
    have q3 := hge 3 _ h3
    rw [hd, q1, q3] at hg
    rw [hg]
    clear hg hge q1 q3 h1 h3 hs hd
    have hB := H.out.1.below hb H.out.1.lt
    have k0 : W.cell? ⟨w.heap.size, 0, none⟩ = some (.int .i64 x.cl) := hB.cell rfl
    have k1 : W.cell? ⟨w.heap.size, 1, none⟩ = some (.int .i64 x.sp) := hB.cell rfl
    have k2 : W.cell? ⟨w.heap.size, 2, none⟩ = some (.int .i64 x.gr) := hB.cell rfl
    have k3 : W.cell? ⟨w.heap.size, 3, none⟩ = some (.int .i64 x.ep) := hB.cell rfl
    have k4 : W.cell? ⟨w.heap.size, 4, none⟩ = some (.int .i64 x.kd) := hB.cell rfl
    have k5 : W.cell? ⟨w.heap.size, 5, none⟩ = some (.int .i64 x.bl) := hB.cell rfl
    have k6 : W.cell? ⟨w.heap.size, 6, none⟩ = some (.slice Dx ndx cdx) := hB.cell rfl
    have k7 : W.cell? ⟨w.heap.size, 7, none⟩ = some (.int .i64 x.od) := hB.cell rfl
    have k8 : W.cell? ⟨w.heap.size, 8, none⟩ = some (.int .i64 x.nw) := hB.cell rfl
    have k9 : W.cell? ⟨w.heap.size, 9, none⟩ = some (.slice Nx nnx cnx) := hB.cell rfl
    have HB := Lib.hid (And.intro (H.out.2.1.trans (hb.mono H.out.2.1.size)) (H.out.2.2.after hb))
    clear hb hB
    refine hK0 _ _ ?_
    clear hK0
    cases m with
    | false =>
      have hc2 := Lib.hid (hmf rfl)
      clear hmf hmt
      go_wp2_with (first | (go_at_call 78; refine (rwithin_any _ _ _ _).mono ?_; rintro e w' ⟨rfl, rfl⟩))
      all_goals go_ret
      all_goals exact ⟨fin2 hc2.out, HB.out.1⟩
    | true =>
      clear hmt hmf
      go_wp2_with (first | (go_at_call 78; refine (rwithin_any _ _ _ _).mono ?_; rintro e w' ⟨rfl, rfl⟩))
      all_goals go_ret
      all_goals exact ⟨fin2 H6.out, HB.out.1⟩
  cases hp : decide (0 ≤ x.ep ∧ x.ep ≤ 1048576) with
  | true =>
    refine region_rule4 (P := Tryz.prog) 10 117 caD caG caS (caR w.heap.size (sameB x (ownW x)) x Dx ndx cdx Nx nnx cnx) _ _ (by kernel_rfl) rfl rfl (by kernel_rfl) (by decide +kernel) (ca_gb w.heap.size (sameB x (ownW x)) x Dx ndx cdx Nx nnx cnx) (ca_sk w.heap.size (sameB x (ownW x)) x Dx ndx cdx Nx nnx cnx) (ca_on w.heap.size (sameB x (ownW x)) x Dx ndx cdx Nx nnx cnx) (ca_step w.heap.size (sameB x (ownW x)) x Dx ndx cdx Nx nnx cnx (by rfl) (by kernel_rfl) rfl H.out.1 H.out.2.2 rfl hp) ?fin
    case fin =>
      intro a w6 hbase hbl hall
      obtain ⟨v3, hv3, hR3⟩ := hall 9 (by decide)
      have hR3' : v3 = .bool (sameB x (ownW x)) := hR3
      subst hR3'
      exact key (sameB x (ownW x)) a w6 hbase.1 hbase.2.1 ((hbase.2.2 1 (by decide)).trans rfl) hv3 hbl (fun h => ⟨of_decide_eq_true hp, (eqW_iff _ _).1 ((sameB_iff _ _).1 h)⟩) (fun h => chk_bad (fun hh => by rw [← hh.2, sameB_self] at h; cases h))
  | false =>
    refine region_rule4 (P := Tryz.prog) 10 117 cbD cbG cbS (cbR w.heap.size (sameB x (ownW x)) x Dx ndx cdx Nx nnx cnx) _ _ (by kernel_rfl) rfl rfl (by kernel_rfl) (by decide +kernel) (cb_gb w.heap.size (sameB x (ownW x)) x Dx ndx cdx Nx nnx cnx) (cb_sk w.heap.size (sameB x (ownW x)) x Dx ndx cdx Nx nnx cnx) (cb_on w.heap.size (sameB x (ownW x)) x Dx ndx cdx Nx nnx cnx) (cb_step w.heap.size (sameB x (ownW x)) x Dx ndx cdx Nx nnx cnx (by rfl) (by kernel_rfl) rfl H.out.1 H.out.2.2 rfl hp) ?fin
    case fin =>
      intro a w6 hbase hbl hall
      obtain ⟨v3, hv3, hR3⟩ := hall 9 (by decide)
      have hR3' : v3 = .bool false := hR3
      subst hR3'
      exact key false a w6 hbase.1 hbase.2.1 ((hbase.2.2 1 (by decide)).trans rfl) hv3 hbl (fun h => by cases h) (fun _ => chk_bad (fun hh => of_decide_eq_false hp hh.1))

end Go.Proofs.YtihmddpafbackaaGreat

namespace Go.Proofs.YtihmddpafbackaaGreat

open Go.RowKit Go.Maps

set_option linter.unusedVariables false

set_option linter.unusedSimpArgs false

theorem rcheck_any (x : Wl) (Dx : Option Addr) (ndx cdx : Nat) (Nx : Option Addr) (nnx cnx : Nat) (w : World) (h : ArgW w x Dx ndx cdx Nx nnx cnx) : Calls Tryz.prog 54 #[.agg #[.int .i64 x.cl, .int .i64 x.sp, .int .i64 x.gr, .int .i64 x.ep, .int .i64 x.kd, .int .i64 x.bl, .slice Dx ndx cdx, .int .i64 x.od, .int .i64 x.nw, .slice Nx nnx cnx]] w fun e w' => e = .returned (.int .i64 (chk x)) ∧ Below w.heap.size w w' := by
  by_cases h1 : x.kd = 1
  · exact rcheck_1 x Dx ndx cdx Nx nnx cnx w h h1
  by_cases h2 : x.kd = 2
  · exact rcheck_2 x Dx ndx cdx Nx nnx cnx w h h2
  by_cases h3 : x.kd = 3
  · exact rcheck_3 x Dx ndx cdx Nx nnx cnx w h h3
  by_cases h4 : x.kd = 4
  · exact rcheck_4 x Dx ndx cdx Nx nnx cnx w h h4
  by_cases h5 : x.kd = 5
  · exact rcheck_5 x Dx ndx cdx Nx nnx cnx w h h5
  exact rcheck_6 x Dx ndx cdx Nx nnx cnx w h h1 h2 h3 h4 h5

end Go.Proofs.YtihmddpafbackaaGreat
