/-
  For all arrays of numbers l and all numbers view: each node of the crew that l makes leads in just one of 3f + 1 views that follow each other; CrewTurns returns true; no condition.
-/
import Derived.Test.YtjibbbfpbflgmaaTn8
namespace Go.Proofs.Ytjibbbfpbflgmaa.crewTurns
open Go.ChangeShapes Go.WideShapes Go.ChangeAt Go.RowKit Go.Shelf CrewP
set_option linter.unusedVariables false

set_option maxRecDepth 100000 in
set_option maxHeartbeats 6400000 in
theorem walk (l : List Int) (view : Int) (w : World) (hl : l.length = 8 ∧ ∀ y ∈ l, Wf y) (hview : (Lit.int .i64 view).wf = true) :
    Calls Try.prog 10 #[.agg (cis l).toArray, .int .i64 view] w fun e w' => e = .returned (.bool true) ∧ Below w.heap.size w w' := by
  obtain ⟨hl8, hlw⟩ := hl
  have hS := fun W => some_of l hl8 hlw W
  obtain ⟨a0, a1, a2, a3, a4, a5, a6, a7, rfl⟩ := eight hl8
  change Calls _ _ #[.agg #[.int .i64 a0, .int .i64 a1, .int .i64 a2, .int .i64 a3, .int .i64 a4, .int .i64 a5, .int .i64 a6, .int .i64 a7], .int .i64 view] _ _
  have hB0 : Blk (w.alloc (.cells #[.int .i64 a0, .int .i64 a1, .int .i64 a2, .int .i64 a3, .int .i64 a4, .int .i64 a5, .int .i64 a6, .int .i64 a7] 45)) w.heap.size 45 (cis [a0, a1, a2, a3, a4, a5, a6, a7]) := Blk.new rfl rfl
  have hbx : Below w.heap.size w (w.alloc (.cells #[.int .i64 a0, .int .i64 a1, .int .i64 a2, .int .i64 a3, .int .i64 a4, .int .i64 a5, .int .i64 a6, .int .i64 a7] 45)) := (Below.refl _ _).alloc (Nat.le_refl _) _
  have H := Lib.hid (And.intro hbx (And.intro hS hB0))
  clear hS hbx hl8 hlw hB0 
  go_enter Try.func10, Try.ntmps10
  go_wp2_with fail
  refine (works_any _).mono ?_
  rintro e w1 ⟨rfl, hb1⟩
  have hB0 := H.out.2.2.below hb1 H.out.2.2.lt
  have hbw1 := H.out.1.trans (hb1.mono H.out.1.size)
  have k0 : w1.cell? ⟨w.heap.size, 0, none⟩ = some (.int .i64 a0) := hB0.cell rfl
  have k1 : w1.cell? ⟨w.heap.size, 1, none⟩ = some (.int .i64 a1) := hB0.cell rfl
  have k2 : w1.cell? ⟨w.heap.size, 2, none⟩ = some (.int .i64 a2) := hB0.cell rfl
  have k3 : w1.cell? ⟨w.heap.size, 3, none⟩ = some (.int .i64 a3) := hB0.cell rfl
  have k4 : w1.cell? ⟨w.heap.size, 4, none⟩ = some (.int .i64 a4) := hB0.cell rfl
  have k5 : w1.cell? ⟨w.heap.size, 5, none⟩ = some (.int .i64 a5) := hB0.cell rfl
  have k6 : w1.cell? ⟨w.heap.size, 6, none⟩ = some (.int .i64 a6) := hB0.cell rfl
  have k7 : w1.cell? ⟨w.heap.size, 7, none⟩ = some (.int .i64 a7) := hB0.cell rfl
  have HB1 := Lib.hid (And.intro hbw1 hB0)
  have hw1s : w.heap.size + 1 ≤ w1.heap.size := by have := hb1.size; simp at this; omega
  clear hb1 hbw1 hB0
  go_wp2_with fail
  refine (H.out.2.1 w1).mono ?_
  rintro e w2 ⟨f, ns, v, hok, rfl, hO, hb2⟩
  clear k0 k1 k2 k3 k4 k5 k6 k7
  obtain ⟨A, c, rfl, hA⟩ := hO.arg (ok_wf hok)
  have hAb : ∀ b o, A = some ⟨b, o, none⟩ → w1.heap.size ≤ b := fun b o h => by subst h; exact (hO.lt b rfl).1
  obtain ⟨n, hn⟩ : ∃ n, ns.length = n := ⟨_, rfl⟩
  rw [hn] at hA
  rw [hn]
  have hbw2 := HB1.out.1.trans (hb2.mono HB1.out.1.size)
  have hBc : Blk (w2.alloc (.cells #[.int .i64 f, .slice A n c] 24)) w2.heap.size 24 [.int .i64 f, .slice A n c] := Blk.new rfl rfl
  have hbn : Below w2.heap.size w2 (w2.alloc (.cells #[.int .i64 f, .slice A n c] 24)) := (Below.refl _ _).alloc (Nat.le_refl _) _
  have hbs := hb2.trans (hbn.mono hb2.size)
  have hB0 := HB1.out.2.below hbs HB1.out.2.lt
  have H2 := Lib.hid (And.intro hBc (And.intro (hA.after hbn) (And.intro (hbw2.trans (hbn.mono hbw2.size)) (And.intro hok (And.intro hn (And.intro (And.intro hA (And.intro hbn (And.intro hbw2 (And.intro hAb hw1s)))) hB0))))))
  clear hO hA hAb hw1s hbw2 hBc hbn hbs hb2 hok hn HB1 H hB0
  have hnl := H2.out.2.2.2.2.1
  obtain ⟨⟨hf0, hf1⟩, hl3, hasc⟩ := ok_len H2.out.2.2.2.1
  rw [hnl] at hl3
  have hn7 : n ≤ 7 := by omega
  have hn1 : 0 < n := by omega
  obtain ⟨vv, hv0, hv1, hbr⟩ := bring_ex view 1099511627776 (by decide) (by decide) hview
  have HBR := Lib.hid hbr
  have hbc : w2.heap.size + 1 ≤ (w2.alloc (.cells #[.int .i64 f, .slice A n c] 24)).heap.size := by simp
  have Hb := Lib.hid hbc
  clear hbr hl3 hasc hnl hbc
  go_wp2_with fail
  refine (HBR.out _).mono ?_
  rintro e w3 ⟨rfl, hw3⟩
  have hC := H2.out.1
  have hA3 := H2.out.2.1
  have hb3 := H2.out.2.2.1
  have hs3 := Hb.out
  have hbo := H2.out.2.2.2.2.2.1.2.1
  have hbo2 := H2.out.2.2.2.2.2.1.2.2.1.size
  rw [← hw3] at hC hA3 hb3 hs3 hbo
  have Ho := Lib.hid (And.intro H2.out.2.2.2.2.2.1.1 hbo)
  have H3 := Lib.hid (And.intro hC (And.intro hA3 (And.intro hb3 hs3)))
  clear hC hA3 hb3 hs3 hw3 HBR hbo
  go_wp2
  go_loopw [6, 7] (fun v6 v7 wr => ∃ j : Nat, j ≤ n ∧ v7 = .int .i64 j ∧ OwnI wr (w2.heap.size + 1) v6 (leads f ns vv j) ∧ Blk wr w2.heap.size 24 [.int .i64 f, .slice A n c] ∧ ArgI wr A n c ns ∧ Below w.heap.size w wr ∧ w2.heap.size + 1 ≤ wr.heap.size ∧ Below (w2.heap.size + 1) w3 wr) (fun _ v _ => n - (intOf v).toNat)
  case atStart => exact ⟨0, Nat.zero_le _, rfl, OwnI.nil _ _, H3.out.1, H3.out.2.1, H3.out.2.2.1, H3.out.2.2.2, Below.refl _ _⟩
  case round =>
    obtain ⟨j, hj, rfl, hO, hC, hA, hb, hs, hbw⟩ := hrel
    have hi0 : (0 : Int) ≤ j := by omega
    have k0 : wr.cell? ⟨w2.heap.size, 0, none⟩ = some (.int .i64 f) := hC.cell rfl
    have k1 : wr.cell? ⟨w2.heap.size, 1, none⟩ = some (.slice A n c) := hC.cell rfl
    have hll := leads_len f ns vv j
    have hwl : ∀ x ∈ leads f ns vv j, Wf x := fun x hx => ok_wf H2.out.2.2.2.1 x (leads_mem H2.out.2.2.2.1 hv0 j x hx)
    have hvo := leads_votes H2.out.2.2.2.1 hv0 j (by rw [H2.out.2.2.2.2.1]; exact hj)
    obtain ⟨A6, c6, rfl, hA6⟩ := hO.arg hwl
    rw [hll] at hA6
    rw [hll]
    by_cases hlt : j < n
    · have hi1 : (j : Int) < n := by omega
      have hw1 : IntKind.i64.wrap (vv + (j : Int)) = vv + j := IntWalk.i64_in _ (by omega)
      have hwf : Wf (vv + (j : Int)) := by simp only [Wf, Lit.wf, IntKind.min, IntKind.max, IntKind.signed, IntKind.bits]; simp; omega
      have hL := leader_any f A n c ns wr hA (vv + j) hwf
      have hsu := leads_succ f ns vv j
      have hme := lead_mem H2.out.2.2.2.1 (v := vv + (j : Int)) (by omega)
      obtain ⟨x, hx⟩ : ∃ x, leaderR f ns (vv + (j : Int)) = x := ⟨_, rfl⟩
      rw [hx] at hL hsu hme
      have hj0 : ((j : Int) != (j : Int)) = false := by simp
      obtain ⟨sl, hsl⟩ : ∃ sl, leads f ns vv j = sl := ⟨_, rfl⟩
      rw [hsl] at hO hA6 hsu hvo hll
      have Hr := Lib.hid (And.intro hL (And.intro hO (And.intro hC (And.intro hA (And.intro hb (And.intro hA6 (And.intro hsu (And.intro hme (And.intro hvo (And.intro hbw hll))))))))))
      clear hL hO hC hA hb hA6 hsu hme hvo hll hx hsl hwl hwf hbw
      go_wp2_with fail
      refine Hr.out.1.mono ?_
      rintro e w4 ⟨rfl, hb4⟩
      have hV := votes_any f A n c ns w4 (Hr.out.2.2.2.1.after hb4) A6 j c6 sl (Hr.out.2.2.2.2.2.1.after hb4)
      rw [Hr.out.2.2.2.2.2.2.2.2.1] at hV
      have HV := Lib.hid hV
      have hC4 := Hr.out.2.2.1.below hb4 Hr.out.2.2.1.lt
      have m0 : w4.cell? ⟨w2.heap.size, 0, none⟩ = some (.int .i64 f) := hC4.cell rfl
      have m1 : w4.cell? ⟨w2.heap.size, 1, none⟩ = some (.slice A n c) := hC4.cell rfl
      have hs4 := hb4.size
      have H4 := Lib.hid hb4
      clear hV hC4 hb4 k0 k1
      go_wp2_with fail
      refine HV.out.mono ?_
      rintro e w5 ⟨rfl, hb5⟩
      have hbb := H4.out.trans (hb5.mono H4.out.size)
      have hH := has_any f A n c ns w5 (Hr.out.2.2.2.1.after hbb) x
      rw [show hasR f ns x = true by simp [hasR, H2.out.2.2.2.1, Hr.out.2.2.2.2.2.2.2.1]] at hH
      have HH := Lib.hid hH
      have hC5 := Hr.out.2.2.1.below hbb Hr.out.2.2.1.lt
      have l0 : w5.cell? ⟨w2.heap.size, 0, none⟩ = some (.int .i64 f) := hC5.cell rfl
      have l1 : w5.cell? ⟨w2.heap.size, 1, none⟩ = some (.slice A n c) := hC5.cell rfl
      have H5 := Lib.hid hbb
      clear hH hC5 hb5 hbb m0 m1 HV
      go_wp2_with fail
      refine HH.out.mono ?_
      rintro e w6 ⟨rfl, hb6⟩
      have hbb := H5.out.trans (hb6.mono H5.out.size)
      have hbn : Below w6.heap.size w6 (w6.alloc (.cells #[.int .i64 x] 3)) := (Below.refl _ _).alloc (Nat.le_refl _) _
      have hbs := hbb.trans (hbn.mono hbb.size)
      have hO6 : OwnI (w6.alloc (.cells #[.int .i64 x] 3)) (w2.heap.size + 1) (.slice A6 j c6) sl := by
        have := own_below Hr.out.2.1 hbs
        rw [Hr.out.2.2.2.2.2.2.2.2.2.2] at this
        unfold OwnI
        rw [Hr.out.2.2.2.2.2.2.2.2.2.2]
        exact this
      have hIs := is_new w6 [x]
      have hz6 := hbs.size
      have hrow := fun i hi => (hO6.lt i hi).1
      have hslj := Hr.out.2.2.2.2.2.2.2.2.2.2
      have hsl7 : sl.length ≤ 7 := by omega
      have H6 := Lib.hid (And.intro hO6 (And.intro hIs (And.intro hrow hbs)))
      clear hb6 hbb hbn hbs hO6 hIs hrow l0 l1 HH hslj
      go_wp2_with (at_builtin; refine wp_appendI rfl _ _ rfl (w2.heap.size + 1) _ sl rfl H6.out.1 (some ⟨w6.heap.size, 0, none⟩) 1 1 [x] rfl H6.out.2.1 rfl (by omega) (by omega) ?_; intro v2 w7 hO7 hg7 ho7; replace hO7 := Lib.hid hO7; replace hg7 := Lib.hid hg7)
      have hbx := H6.out.2.2.2
      have hb7 : Below (w2.heap.size + 1) w3 w7 := (Hr.out.2.2.2.2.2.2.2.2.2.1.trans (hbx.mono (by omega))).grown hg7.out (by omega) (fun i hi => H6.out.2.2.1 i hi)
      refine ⟨⟨j + 1, by omega, by go_num, by rw [Hr.out.2.2.2.2.2.2.1]; exact hO7.out, H3.out.1.below hb7 (by omega), ?_, ?_, by have := hb7.size; have := H3.out.2.2.2; omega, hb7⟩, by simp [intOf]; omega⟩
      · exact Ho.out.1.after (Ho.out.2.trans (hb7.mono (by omega)))
      · exact H3.out.2.2.1.trans (hb7.mono (by omega))
    · have hjn : j = n := by omega
      have hi1 : ¬ (j : Int) < n := by omega
      subst hjn
      obtain ⟨m, hm⟩ : ∃ m, vv + (j : Int) = m := ⟨_, rfl⟩
      have hw1 : IntKind.i64.wrap (vv + (j : Int)) = m := by rw [IntWalk.i64_in _ (by omega)]; exact hm
      have hmw : Wf m := by rw [← hm]; simp only [Wf, Lit.wf, IntKind.min, IntKind.max, IntKind.signed, IntKind.bits]; simp; omega
      have hle : leaderR f ns m = leaderR f ns vv := by
        have := lead_turn H2.out.2.2.2.1 (v := vv) hv0
        rw [H2.out.2.2.2.2.1, hm] at this
        exact this
      have hfi := leads_first (f := f) (ns := ns) (v := vv) hn1
      obtain ⟨b6, o6, e6, hlt6, hc6⟩ := hA6.2.2.2.1.at_ (i := 0) (by rw [hll]; omega)
      rcases own_blk hO with ⟨e, _⟩ | ⟨g6, cap, cs6, e, _⟩
      · injection e with e1 _ _
        rw [e6] at e1
        cases e1
      injection e with e7 _ e9
      subst e9
      rw [e6] at e7
      injection e7 with e7
      injection e7 with e7 e8
      subst e6; subst e8
      have h60 : wr.cell? ⟨b6, 0, none⟩ = some (.int .i64 (leaderR f ns vv)) := by
        have := hc6 0 (by rw [hll]; omega)
        rw [List.getElem?_eq_getElem (by rw [hll]; omega)] at hfi
        injection hfi with hfi
        rw [hfi] at this
        exact this
      have hvo' : ((votesR f ns (leads f ns vv j) : Nat) : Int) = j := by rw [hvo]
      clear hc6 hfi e7
      go_wp2_with fail
      refine region_rule4 (P := Try.prog) 21 62 tnD tnG tnS (tnR w2.heap.size f A j c b6 c6 (leaderR f ns vv) vv m) _ _ (by kernel_rfl) rfl rfl (by kernel_rfl) (by decide +kernel) (tn_gb w2.heap.size f A j c b6 c6 (leaderR f ns vv) vv m) (tn_sk w2.heap.size f A j c b6 c6 (leaderR f ns vv) vv m) (tn_on w2.heap.size f A j c b6 c6 (leaderR f ns vv) vv m) (tn_step w2.heap.size f A j c b6 c6 (leaderR f ns vv) vv m (by rfl) (by kernel_rfl) ns (leads f ns vv j) rfl rfl rfl hC hA H2.out.2.2.2.1 hA6 hvo' hw1 hmw hle (by omega) hlt6 h60) ?fin
      case fin =>
        intro a w6 hbase hbl hall
        obtain ⟨v0, hv0, hR0⟩ := hall 20 (by decide)
        have hR0' : v0 = .bool true := hR0
        subst hR0'
        have hres : a.tmps[4]? = some (.bool true) := hv0
        have hdf : a.defers = [] := hbase.2.1
        have hBB := hb.trans (hbl.mono hb.size)
        go_wp2
        refine bodyPost_ret (results_tmp rfl _ _ _) hdf ?_
        refine ⟨?_, hBB⟩
        have e0 : a.tmps.getD 4 undef = .bool true := by rw [Array.getD_eq_getD_getElem?, hres]; rfl
        rw [e0]

end Go.Proofs.Ytjibbbfpbflgmaa.crewTurns
