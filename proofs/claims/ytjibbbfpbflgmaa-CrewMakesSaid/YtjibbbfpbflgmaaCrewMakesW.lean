/-
  For all crews and lists: Check and Make answer as the chapter says, what is handed in stays, what is answered is memory of its own; CrewMakes returns true; no condition.
-/
import Derived.Test.YtjibbbfpbflgmaaZm8
namespace Go.Proofs.Ytjibbbfpbflgmaa.crewMakes
open Go.ChangeShapes Go.WideShapes Go.ChangeAt Go.RowKit Go.Shelf CrewP
set_option linter.unusedVariables false

theorem lit68 (a : Act) (h : a.tmps.size = 68) : ∃ f : Nat → Value, a = { tmps := #[f 0, f 1, f 2, f 3, f 4, f 5, f 6, f 7, f 8, f 9, f 10, f 11, f 12, f 13, f 14, f 15, f 16, f 17, f 18, f 19, f 20, f 21, f 22, f 23, f 24, f 25, f 26, f 27, f 28, f 29, f 30, f 31, f 32, f 33, f 34, f 35, f 36, f 37, f 38, f 39, f 40, f 41, f 42, f 43, f 44, f 45, f 46, f 47, f 48, f 49, f 50, f 51, f 52, f 53, f 54, f 55, f 56, f 57, f 58, f 59, f 60, f 61, f 62, f 63, f 64, f 65, f 66, f 67], defers := a.defers } ∧ ∀ i v, a.tmps[i]? = some v → f i = v := by
  refine ⟨fun i => a.tmps.getD i undef, ?_, fun i v hv => by simp only [Array.getD_eq_getD_getElem?, hv]; rfl⟩
  have e : a.tmps = ((List.range 68).map fun i => a.tmps.getD i undef).toArray := by
    apply Array.ext
    · simp [h]
    · intro i h1 h2
      simp [Array.getD_eq_getD_getElem?, h1]
  cases a with
  | mk t d =>
    simp only [Act.mk.injEq, and_true]
    exact e

set_option maxRecDepth 100000 in
set_option maxHeartbeats 6400000 in
theorem walk (fu : Int) (Au : Option Addr) (nu cu : Nat) (u : List Int) (fa : Int) (Al : Option Addr) (nl cl : Nat) (l : List Int) (w : World) (hu : ArgC w fu Au nu cu u) (hfa : (Lit.int .i64 fa).wf = true) (hl : ArgI w Al nl cl l ∧ l.length ≤ 17592186043904) :
    Calls Try.prog 3 #[.agg #[.int .i64 fu, .slice Au nu cu], .int .i64 fa, .slice Al nl cl] w fun e w' => e = .returned (.bool true) ∧ Below w.heap.size w w' := by
  obtain ⟨hfu, hAu, hlu⟩ := hu
  obtain ⟨hAl, hll⟩ := hl
  have hnu := hAu.1
  have hnl := hAl.1
  have hcm := hAu.2.2.1
  unfold maxLen at hcm
  have hnc := hAu.2.1
  have hcm2 := hAl.2.2.1
  unfold maxLen at hcm2
  have hnc2 := hAl.2.1
  have hwu := hAu.2.2.2.2
  have hwl := hAl.2.2.2.2
  have hBc : Blk (w.alloc (.cells #[.int .i64 fu, .slice Au nu cu] 24)) w.heap.size 24 [.int .i64 fu, .slice Au nu cu] := Blk.new rfl rfl
  have hb0 : Below w.heap.size w (w.alloc (.cells #[.int .i64 fu, .slice Au nu cu] 24)) := (Below.refl _ _).alloc (Nat.le_refl _) _
  have hA0 := hAu.after hb0
  have hcp := copy_any fu Au nu cu u _ hA0 (by omega)
  have H := Lib.hid (And.intro hBc (And.intro hb0 (And.intro hA0 (And.intro hcp (And.intro hwu (And.intro hwl (hAl.after hb0)))))))
  clear hBc hb0 hA0 hcp hAu hwu hAl hwl
  go_enter Try.func3, Try.ntmps3
  go_wp2_with fail
  refine H.out.2.2.2.1.mono ?_
  rintro e w1 ⟨v, rfl, hN⟩
  obtain ⟨A2, c2, rfl, hA2⟩ := hN.own.arg H.out.2.2.2.2.1
  rw [hnu] at hA2
  rw [hnu]
  have hci := copyInts_any Al nl cl l w1 (H.out.2.2.2.2.2.2.after hN.2) (by omega)
  have H1 := Lib.hid (And.intro hA2 (And.intro hN.2 hci))
  clear hA2 hN hci
  go_wp2_with fail
  refine H1.out.2.2.mono ?_
  rintro e w2 ⟨v, rfl, hN⟩
  obtain ⟨A3, c3, rfl, hA3⟩ := hN.own.arg H.out.2.2.2.2.2.1
  rw [hnl] at hA3
  rw [hnl]
  have hbn : Below w2.heap.size w2 (w2.alloc (.cells #[.int .i64 fu, .slice A2 nu c2] 24)) := (Below.refl _ _).alloc (Nat.le_refl _) _
  have hBi : Blk (w2.alloc (.cells #[.int .i64 fu, .slice A2 nu c2] 24)) w2.heap.size 24 [.int .i64 fu, .slice A2 nu c2] := Blk.new rfl rfl
  obtain ⟨W2, hW2⟩ : ∃ W, w2.alloc (.cells #[.int .i64 fu, .slice A2 nu c2] 24) = W := ⟨_, rfl⟩
  rw [hW2] at hbn hBi
  have hbs := hN.2.trans (hbn.mono hN.2.size)
  have hb1 := H1.out.2.1.trans (hbs.mono H1.out.2.1.size)
  have hbw := H.out.2.1.trans (hb1.mono H.out.2.1.size)
  obtain ⟨F, L, E, hM⟩ : ∃ F L E, makeR fa l = (F, L, E) := ⟨_, _, _, rfl⟩
  have hwL : ∀ x ∈ L, Wf x := by have := make_wf (f := fa) H.out.2.2.2.2.2.1; rw [hM] at this; exact this
  have hmk := make_any fa A3 nl c3 l W2 (hA3.after hbn) hfa
  rw [hM] at hmk
  have H2 := Lib.hid (And.intro (H.out.1.below hb1 H.out.1.lt) (And.intro hBi (And.intro (H.out.2.2.1.after hb1) (And.intro (H1.out.1.after hbs) (And.intro (hA3.after hbn) (And.intro (H.out.2.2.2.2.2.2.after hb1) (And.intro hbw (And.intro hmk (And.intro hM hwL)))))))))
  have HW := Lib.hid hW2
  clear hbn hBi hW2 hbs hb1 hbw hmk hM hwL hN hA3
  go_wp2_with fail
  rw [HW.out]
  refine H2.out.2.2.2.2.2.2.2.1.mono ?_
  rintro e w3 ⟨v, rfl, hN⟩
  obtain ⟨Ax, cx, rfl, hAx⟩ := hN.own.arg H2.out.2.2.2.2.2.2.2.2.2
  have hOx := hN.own
  obtain ⟨m, hm⟩ : ∃ k, L.length = k := ⟨_, rfl⟩
  have hmk2 := rmake_any fa Al nl cl l
  have hbn : Below w3.heap.size w3 (w3.alloc (.cells #[.int .i64 F, .slice Ax L.length cx] 24)) := (Below.refl _ _).alloc (Nat.le_refl _) _
  have hBx : Blk (w3.alloc (.cells #[.int .i64 F, .slice Ax L.length cx] 24)) w3.heap.size 24 [.int .i64 F, .slice Ax L.length cx] := Blk.new rfl rfl
  rw [hm] at hAx hbn hBx
  rw [hm]
  obtain ⟨W3, hW3⟩ : ∃ W, w3.alloc (.cells #[.int .i64 F, .slice Ax m cx] 24) = W := ⟨_, rfl⟩
  rw [hW3] at hbn hBx
  have hbs := hN.2.trans (hbn.mono hN.2.size)
  have hOx3 : OwnI W3 W2.heap.size (.slice Ax m cx) L := by have h := own_below hOx hbn; unfold OwnI; rw [hm] at h ⊢; exact h
  have hmk3 := hmk2 W3 (H2.out.2.2.2.2.2.1.after hbs)
  rw [make_same, H2.out.2.2.2.2.2.2.2.2.1] at hmk3
  have hgx : W2.heap.size ≤ w3.heap.size := hN.2.size
  have H3 := Lib.hid (And.intro hbs (And.intro hBx (And.intro (hAx.after hbn) (And.intro hOx3 (And.intro hmk3 (And.intro hm hgx))))))
  have HW3 := Lib.hid hW3
  clear hbn hBx hW3 hbs hOx3 hmk3 hmk2 hm hN hAx hOx hgx
  go_wp2_with fail
  rw [HW3.out]
  refine H3.out.2.2.2.2.1.mono ?_
  rintro e w4 ⟨v, rfl, hN⟩
  obtain ⟨Ay, cy, rfl, hAy⟩ := hN.own.arg H2.out.2.2.2.2.2.2.2.2.2
  rw [H3.out.2.2.2.2.2.1] at hAy
  rw [H3.out.2.2.2.2.2.1]
  have hbn : Below w4.heap.size w4 (w4.alloc (.cells #[.int .i64 F, .slice Ay m cy] 24)) := (Below.refl _ _).alloc (Nat.le_refl _) _
  have hBy : Blk (w4.alloc (.cells #[.int .i64 F, .slice Ay m cy] 24)) w4.heap.size 24 [.int .i64 F, .slice Ay m cy] := Blk.new rfl rfl
  obtain ⟨W4, hW4⟩ : ∃ W, w4.alloc (.cells #[.int .i64 F, .slice Ay m cy] 24) = W := ⟨_, rfl⟩
  rw [hW4] at hbn hBy
  have hbs := hN.2.trans (hbn.mono hN.2.size)
  have h24 := H3.out.1.trans (hbs.mono H3.out.1.size)
  have H4 := Lib.hid (And.intro h24 (And.intro hBy (And.intro (hAy.after hbn) (And.intro (H3.out.2.1.below hbs H3.out.2.1.lt) (And.intro (H3.out.2.2.1.after hbs) (own_below H3.out.2.2.2.1 hbs))))))
  have HW4 := Lib.hid hW4
  clear hbn hBy hW4 hbs h24 hN hAy
  have hmc := H4.out.2.2.2.2.1.2.1
  have hmm := H4.out.2.2.2.2.1.2.2.1
  unfold maxLen at hmm
  go_wp2_with fail
  rw [HW4.out]
  refine region_rule4 (P := Try.prog) 16 68 zaD zaG zaS (zaR w2.heap.size w.heap.size w3.heap.size w4.heap.size fu A2 Au nu c2 cu u F Ax Ay m cx cy L E (chkE fu u)) _ _ (by kernel_rfl) rfl rfl (by kernel_rfl) (by decide +kernel) (za_gb w2.heap.size w.heap.size w3.heap.size w4.heap.size fu A2 Au nu c2 cu u F Ax Ay m cx cy L E (chkE fu u)) (za_sk w2.heap.size w.heap.size w3.heap.size w4.heap.size fu A2 Au nu c2 cu u F Ax Ay m cx cy L E (chkE fu u)) (za_on w2.heap.size w.heap.size w3.heap.size w4.heap.size fu A2 Au nu c2 cu u F Ax Ay m cx cy L E (chkE fu u)) (za_step w2.heap.size w.heap.size w3.heap.size w4.heap.size fu A2 Au nu c2 cu u F Ax Ay m cx cy L E (chkE fu u) (by rfl) (by kernel_rfl) rfl rfl rfl rfl rfl rfl (H2.out.2.1.below H4.out.1 H2.out.2.1.lt) (H2.out.1.below H4.out.1 H2.out.1.lt) H4.out.2.2.2.1 H4.out.2.1 (H2.out.2.2.2.1.after H4.out.1) (H2.out.2.2.1.after H4.out.1) H4.out.2.2.2.2.1 H4.out.2.2.1 rfl) ?fin
  case fin =>
    intro a w6 hbase hbl hall
    obtain ⟨v45, hv45, hR45⟩ := hall 15 (by decide)
    have hR45' : v45 = .bool false := hR45
    subst hR45'
    obtain ⟨g, hg, hge⟩ := lit68 a hbase.1
    have q7 : g 7 = .pointer (some ⟨w2.heap.size, 0, none⟩) := hge 7 _ ((hbase.2.2 7 (by decide)).trans rfl)
    have q3 : g 3 = .pointer (some ⟨w.heap.size, 0, none⟩) := hge 3 _ ((hbase.2.2 3 (by decide)).trans rfl)
    have q9 : g 9 = .pointer (some ⟨w3.heap.size, 0, none⟩) := hge 9 _ ((hbase.2.2 9 (by decide)).trans rfl)
    have q8 : g 8 = .slice A3 nl c3 := hge 8 _ ((hbase.2.2 8 (by decide)).trans rfl)
    have q2 : g 2 = .slice Al nl cl := hge 2 _ ((hbase.2.2 2 (by decide)).trans rfl)
    have q45 : g 45 = .bool false := hge 45 _ hv45
    have hdf : a.defers = [] := hbase.2.1
    rw [hdf, q7, q3, q9, q8, q2, q45] at hg
    rw [hg]
    have hO6 : OwnI w6 W2.heap.size (.slice Ax m cx) L := own_below H4.out.2.2.2.2.2 hbl
    have hb6 := H4.out.1.trans (hbl.mono H4.out.1.size)
    have hBx6 := H4.out.2.2.2.1.below hbl H4.out.2.2.2.1.lt
    have H6 := Lib.hid (And.intro hO6 (And.intro hb6 hBx6))
    clear hall hbase hbl hv45 hR45 hge q7 q3 q9 q8 q2 q45 hdf hg hO6 hb6 hBx6 a
    go_wp2
    go_loopw [13] (fun v13 wr => ∃ (j : Nat) (L' : List Int), j ≤ m ∧ v13 = .int .i64 j ∧ L'.length = m ∧ OwnI wr W2.heap.size (.slice Ax m cx) L' ∧ Below W2.heap.size W2 wr ∧ Blk wr w3.heap.size 24 [.int .i64 F, .slice Ax m cx]) (fun v _ => m - (intOf v).toNat)
    case atStart => exact ⟨0, L, Nat.zero_le _, rfl, H3.out.2.2.2.2.2.1, H6.out.1, H6.out.2.1, H6.out.2.2⟩
    case round =>
      obtain ⟨j, L', hj, rfl, hL, hO, hb, hBx⟩ := hrel
      have hi0 : (0 : Int) ≤ j := by omega
      have x1 : wr.cell? ⟨w3.heap.size, 1, none⟩ = some (.slice Ax m cx) := hBx.cell rfl
      by_cases hjm : j < m
      · have hi1 : (j : Int) < m := by omega
        obtain ⟨g, rfl, hg, ⟨y, hy⟩, hfr, hO2⟩ := own_blank hO hL hjm
        have hne : w3.heap.size ≠ g := fun e => (own_not_crew hO hBx) (by rw [e]; rfl)
        have H7 := Lib.hid (And.intro hO2 (And.intro (hb.setCell (p := ⟨g, j, none⟩) hg (.int .i64 0)) (hBx.far (p := ⟨g, j, none⟩) hne (.int .i64 0))))
        clear hO hb hO2 hBx
        go_wp2
        refine ⟨⟨j + 1, L'.set j 0, by omega, by go_num, by rw [List.length_set]; exact hL, H7.out.1, H7.out.2.1, H7.out.2.2⟩, by simp [intOf]; omega⟩
      · have hi1 : ¬ (j : Int) < m := by omega
        have hBc := H2.out.1.below hb H2.out.1.lt
        have hBi := H2.out.2.1.below hb H2.out.2.1.lt
        have hS := same_any fu fu A2 Au nu nu c2 cu u u wr (H2.out.2.2.2.1.after hb) (H2.out.2.2.1.after hb)
        rw [show decide (fu = fu ∧ u = u) = true by simp] at hS
        have d0 : wr.cell? ⟨w2.heap.size, 0, none⟩ = some (.int .i64 fu) := hBi.cell rfl
        have d1 : wr.cell? ⟨w2.heap.size, 1, none⟩ = some (.slice A2 nu c2) := hBi.cell rfl
        have d2 : wr.cell? ⟨w.heap.size, 0, none⟩ = some (.int .i64 fu) := hBc.cell rfl
        have d3 : wr.cell? ⟨w.heap.size, 1, none⟩ = some (.slice Au nu cu) := hBc.cell rfl
        have H8 := Lib.hid (And.intro hS (And.intro (H2.out.2.2.2.2.2.2.1.trans (hb.mono H2.out.2.2.2.2.2.2.1.size)) hb))
        clear hO hb hBc hBi hS hBx
        go_wp2_with fail
        refine H8.out.1.mono ?_
        rintro e w7 ⟨rfl, hb7⟩
        clear d0 d1 d2 d3 x1
        have hb27 := H8.out.2.2.trans (hb7.mono H8.out.2.2.size)
        have hQ := eqInts_any A3 Al nl nl c3 cl l l w7 (H2.out.2.2.2.2.1.after hb27) (H2.out.2.2.2.2.2.1.after hb27)
        rw [show decide (l = l) = true by simp] at hQ
        have H9 := Lib.hid (And.intro (H8.out.2.1.trans (hb7.mono H8.out.2.1.size)) hQ)
        clear hb7 hb27 hQ
        go_wp2_with fail
        refine H9.out.2.mono ?_
        rintro e w8 ⟨rfl, hb8⟩
        have H10 := Lib.hid (H9.out.1.trans (hb8.mono H9.out.1.size))
        clear hb8
        go_wp2_with fail
        refine (works_any _).mono ?_
        rintro e w9 ⟨rfl, hb9⟩
        go_wp2
        go_ret
        exact ⟨rfl, H10.out.trans (hb9.mono H10.out.size)⟩

end Go.Proofs.Ytjibbbfpbflgmaa.crewMakes
