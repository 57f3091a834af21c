/-
  For all crews and numbers: Most, Some, Leader, Has and Others answer as the chapter says, what is handed in stays, what is answered is memory of its own; CrewTells returns true; no condition.
-/
import Derived.Test.YtjibbbfpbflgmaaTl8
namespace Go.Proofs.Ytjibbbfpbflgmaa.crewTells
open Go.ChangeShapes Go.WideShapes Go.ChangeAt Go.RowKit Go.Shelf CrewP
set_option linter.unusedVariables false

theorem lit68 (a : Act) (h : a.tmps.size = 68) : ∃ f : Nat → Value, a = { tmps := #[f 0, f 1, f 2, f 3, f 4, f 5, f 6, f 7, f 8, f 9, f 10, f 11, f 12, f 13, f 14, f 15, f 16, f 17, f 18, f 19, f 20, f 21, f 22, f 23, f 24, f 25, f 26, f 27, f 28, f 29, f 30, f 31, f 32, f 33, f 34, f 35, f 36, f 37, f 38, f 39, f 40, f 41, f 42, f 43, f 44, f 45, f 46, f 47, f 48, f 49, f 50, f 51, f 52, f 53, f 54, f 55, f 56, f 57, f 58, f 59, f 60, f 61, f 62, f 63, f 64, f 65, f 66, f 67], defers := a.defers } ∧ ∀ i v, a.tmps[i]? = some v → f i = v := by
  refine ⟨fun i => a.tmps.getD i undef, ?_, fun i v hv => by simp only [Array.getD_eq_getD_getElem?, hv]; rfl⟩
  have e : a.tmps = ((List.range 68).map fun i => a.tmps.getD i undef).toArray := by
    apply Array.ext
    · simp [h]
    · intro i h1 h2
      simp [Array.getD_eq_getD_getElem?, h1]
  cases a with
  | mk t d =>
    simp only [Act.mk.injEq, and_true]
    exact e
theorem others_wf {f : Int} {l : List Int} (h : ∀ x ∈ l, Wf x) (x : Int) : ∀ y ∈ othersR f l x, Wf y := fun y hy => by
  unfold othersR at hy
  split at hy
  · exact h y ((others_mem l x y).1 hy).1
  · cases hy

set_option maxRecDepth 100000 in
set_option maxHeartbeats 6400000 in
theorem walk (fu : Int) (Au : Option Addr) (nu cu : Nat) (u : List Int) (vw : Int) (x : Int) (w : World) (hu : ArgC w fu Au nu cu u) (hvw : (Lit.int .i64 vw).wf = true) (hx : (Lit.int .i64 x).wf = true) :
    Calls Try.prog 4 #[.agg #[.int .i64 fu, .slice Au nu cu], .int .i64 vw, .int .i64 x] w fun e w' => e = .returned (.bool true) ∧ Below w.heap.size w w' := by
  obtain ⟨hfu, hAu, hlu⟩ := hu
  have hnu := hAu.1
  have hcm := hAu.2.2.1
  unfold maxLen at hcm
  have hnc := hAu.2.1
  have hwu := hAu.2.2.2.2
  have hBc : Blk (w.alloc (.cells #[.int .i64 fu, .slice Au nu cu] 24)) w.heap.size 24 [.int .i64 fu, .slice Au nu cu] := Blk.new rfl rfl
  have hb0 : Below w.heap.size w (w.alloc (.cells #[.int .i64 fu, .slice Au nu cu] 24)) := (Below.refl _ _).alloc (Nat.le_refl _) _
  have hA0 := hAu.after hb0
  have hcp := copy_any fu Au nu cu u _ hA0 (by omega)
  have H := Lib.hid (And.intro hBc (And.intro hb0 (And.intro hA0 (And.intro hcp hwu))))
  clear hBc hb0 hA0 hcp hAu hwu
  go_enter Try.func4, Try.ntmps4
  go_wp2_with fail
  refine H.out.2.2.2.1.mono ?_
  rintro e w1 ⟨v, rfl, hN⟩
  obtain ⟨A2, c2, rfl, hA2⟩ := hN.own.arg H.out.2.2.2.2
  rw [hnu] at hA2
  rw [hnu]
  have hbn : Below w1.heap.size w1 (w1.alloc (.cells #[.int .i64 fu, .slice A2 nu c2] 24)) := (Below.refl _ _).alloc (Nat.le_refl _) _
  have hBi : Blk (w1.alloc (.cells #[.int .i64 fu, .slice A2 nu c2] 24)) w1.heap.size 24 [.int .i64 fu, .slice A2 nu c2] := Blk.new rfl rfl
  obtain ⟨W1, hW1⟩ : ∃ W, w1.alloc (.cells #[.int .i64 fu, .slice A2 nu c2] 24) = W := ⟨_, rfl⟩
  rw [hW1] at hbn hBi
  have hbs := hN.2.trans (hbn.mono hN.2.size)
  have hB1 := H.out.1.below hbs H.out.1.lt
  have hb1 := H.out.2.1.trans (hbs.mono H.out.2.1.size)
  have hA1 := H.out.2.2.1.after hbs
  have hAi := hA2.after hbn
  have hot := others_any fu A2 nu c2 u W1 hAi x
  have k0 : W1.cell? ⟨w1.heap.size, 0, none⟩ = some (.int .i64 fu) := hBi.cell rfl
  have k1 : W1.cell? ⟨w1.heap.size, 1, none⟩ = some (.slice A2 nu c2) := hBi.cell rfl
  have H1 := Lib.hid (And.intro hB1 (And.intro hBi (And.intro hA1 (And.intro hAi (And.intro hb1 hot)))))
  have HW := Lib.hid hW1
  clear hbn hBi hW1 hbs hB1 hb1 hA1 hAi hot hN hA2 k0 k1
  go_wp2_with fail
  rw [HW.out]
  refine H1.out.2.2.2.2.2.mono ?_
  rintro e w3 ⟨v3, rfl, hN3⟩
  obtain ⟨Ao, co, rfl, hAo⟩ := hN3.own.arg (others_wf H.out.2.2.2.2 x)
  obtain ⟨m, hm⟩ : ∃ m, (othersR fu u x).length = m := ⟨_, rfl⟩
  have hO3 := hN3.own
  rw [hm] at hAo hO3
  rw [hm]
  have hmc := hAo.2.1
  have hmm := hAo.2.2.1
  unfold maxLen at hmm
  have hb3 := hN3.2
  have H3 := Lib.hid (And.intro (H1.out.1.below hb3 H1.out.1.lt) (And.intro (H1.out.2.1.below hb3 H1.out.2.1.lt) (And.intro (H1.out.2.2.1.after hb3) (And.intro (H1.out.2.2.2.1.after hb3) (And.intro hAo (And.intro hO3 (And.intro hb3 hm)))))))
  clear hN3 hAo hO3 hb3 hm
  go_wp2_with fail
  refine region_rule4 (P := Try.prog) 38 68 saD saG saS (saR w1.heap.size w.heap.size fu A2 Au nu c2 cu u Ao m co vw x (mostR fu u) (someR fu u) (leaderR fu u vw) (hasR fu u x)) _ _ (by kernel_rfl) rfl rfl (by kernel_rfl) (by decide +kernel) (sa_gb w1.heap.size w.heap.size fu A2 Au nu c2 cu u Ao m co vw x (mostR fu u) (someR fu u) (leaderR fu u vw) (hasR fu u x)) (sa_sk w1.heap.size w.heap.size fu A2 Au nu c2 cu u Ao m co vw x (mostR fu u) (someR fu u) (leaderR fu u vw) (hasR fu u x)) (sa_on w1.heap.size w.heap.size fu A2 Au nu c2 cu u Ao m co vw x (mostR fu u) (someR fu u) (leaderR fu u vw) (hasR fu u x)) (sa_step w1.heap.size w.heap.size fu A2 Au nu c2 cu u Ao m co vw x (mostR fu u) (someR fu u) (leaderR fu u vw) (hasR fu u x) (by rfl) (by kernel_rfl) rfl rfl rfl rfl rfl H3.out.2.1 H3.out.1 H3.out.2.2.2.1 H3.out.2.2.1 H3.out.2.2.2.2.1 hvw (others_wf H.out.2.2.2.2 x) rfl rfl rfl rfl) ?fin
  case fin =>
    intro a w6 hbase hbl hall
    obtain ⟨v52, hv52, hR52⟩ := hall 37 (by decide)
    have hR52' : v52 = .bool false := hR52
    subst hR52'
    obtain ⟨g, hg, hge⟩ := lit68 a hbase.1
    have q7 : g 7 = .pointer (some ⟨w1.heap.size, 0, none⟩) := hge 7 _ ((hbase.2.2 7 (by decide)).trans rfl)
    have q3 : g 3 = .pointer (some ⟨w.heap.size, 0, none⟩) := hge 3 _ ((hbase.2.2 3 (by decide)).trans rfl)
    have q8 : g 8 = .slice Ao m co := hge 8 _ ((hbase.2.2 8 (by decide)).trans rfl)
    have q52 : g 52 = .bool false := hge 52 _ hv52
    have hdf : a.defers = [] := hbase.2.1
    rw [hdf, q7, q3, q8, q52] at hg
    rw [hg]
    have hB6 := own_below H3.out.2.2.2.2.2.1 hbl
    have hb6 := H3.out.2.2.2.2.2.2.1.trans (hbl.mono H3.out.2.2.2.2.2.2.1.size)
    have H6 := Lib.hid (And.intro hB6 hb6)
    clear hall hbase hbl hv52 hR52 hge q7 q3 q8 q52 hdf hg hB6 hb6 a
    go_wp2
    go_loopw [9] (fun v9 wr => ∃ (j : Nat) (L : List Int), j ≤ m ∧ v9 = .int .i64 j ∧ L.length = m ∧ OwnI wr W1.heap.size (.slice Ao m co) L ∧ Below W1.heap.size W1 wr) (fun v _ => m - (intOf v).toNat)
    case atStart => exact ⟨0, _, Nat.zero_le _, rfl, H3.out.2.2.2.2.2.2.2, by have := H6.out.1; rw [← H3.out.2.2.2.2.2.2.2]; rw [← H3.out.2.2.2.2.2.2.2] at this; exact this, H6.out.2⟩
    case round =>
      obtain ⟨j, L, hj, rfl, hL, hO, hb⟩ := hrel
      have hi0 : (0 : Int) ≤ j := by omega
      by_cases hjm : j < m
      · have hi1 : (j : Int) < m := by omega
        obtain ⟨g, rfl, hg, ⟨y, hy⟩, hfr, hO2⟩ := own_blank hO hL hjm
        have H7 := Lib.hid (And.intro hO2 (hb.setCell (p := ⟨g, j, none⟩) hg (.int .i64 0)))
        clear hO hb hO2
        go_wp2
        refine ⟨⟨j + 1, L.set j 0, by omega, by go_num, by rw [List.length_set]; exact hL, H7.out.1, H7.out.2⟩, by simp [intOf]; omega⟩
      · have hi1 : ¬ (j : Int) < m := by omega
        have hBc := H1.out.1.below hb H1.out.1.lt
        have hBi := H1.out.2.1.below hb H1.out.2.1.lt
        have hS := same_any fu fu A2 Au nu nu c2 cu u u wr (H1.out.2.2.2.1.after hb) (H1.out.2.2.1.after hb)
        rw [show decide (fu = fu ∧ u = u) = true by simp] at hS
        have d0 : wr.cell? ⟨w1.heap.size, 0, none⟩ = some (.int .i64 fu) := hBi.cell rfl
        have d1 : wr.cell? ⟨w1.heap.size, 1, none⟩ = some (.slice A2 nu c2) := hBi.cell rfl
        have d2 : wr.cell? ⟨w.heap.size, 0, none⟩ = some (.int .i64 fu) := hBc.cell rfl
        have d3 : wr.cell? ⟨w.heap.size, 1, none⟩ = some (.slice Au nu cu) := hBc.cell rfl
        have H8 := Lib.hid (And.intro hS (H1.out.2.2.2.2.1.trans (hb.mono H1.out.2.2.2.2.1.size)))
        clear hO hb hBc hBi hS
        go_wp2_with fail
        refine H8.out.1.mono ?_
        rintro e w7 ⟨rfl, hb7⟩
        clear d0 d1 d2 d3
        have H9 := Lib.hid (H8.out.2.trans (hb7.mono H8.out.2.size))
        clear hb7
        go_wp2_with fail
        refine (works_any _).mono ?_
        rintro e w8 ⟨rfl, hb8⟩
        go_wp2
        go_ret
        exact ⟨rfl, H9.out.trans (hb8.mono H9.out.size)⟩

end Go.Proofs.Ytjibbbfpbflgmaa.crewTells
