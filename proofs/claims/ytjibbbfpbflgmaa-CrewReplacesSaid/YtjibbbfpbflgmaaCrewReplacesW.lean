/-
  For all crews and numbers: Replace answers as the chapter says, what is handed in stays, what is answered is memory of its own; CrewReplaces returns true; no condition.
-/
import Derived.Test.YtjibbbfpbflgmaaRw8
namespace Go.Proofs.Ytjibbbfpbflgmaa.crewReplaces
open Go.ChangeShapes Go.WideShapes Go.ChangeAt Go.RowKit Go.Shelf CrewP
set_option linter.unusedVariables false

theorem replace_wf {f : Int} {l : List Int} {o x : Int} (h : ∀ y ∈ l, Wf y) (hx : Wf x) : ∀ y ∈ (replaceR f l o x).2.1, Wf y := by
  unfold replaceR
  split
  · intro y hy; cases hy
  · split
    · intro y hy; cases hy
    · split
      · intro y hy; cases hy
      · intro y hy
        rcases (rep_mem l o x y).1 hy with h1 | h1
        · exact h y h1.1
        · rw [h1]; exact hx

set_option maxRecDepth 100000 in
set_option maxHeartbeats 6400000 in
theorem walk (fu : Int) (Au : Option Addr) (nu cu : Nat) (u : List Int) (od : Int) (x : Int) (w : World) (hu : ArgC w fu Au nu cu u) (hod : (Lit.int .i64 od).wf = true) (hx : (Lit.int .i64 x).wf = true) :
    Calls Try.prog 5 #[.agg #[.int .i64 fu, .slice Au nu cu], .int .i64 od, .int .i64 x] w fun e w' => e = .returned (.bool true) ∧ Below w.heap.size w w' := by
  obtain ⟨hfu, hAu, hlu⟩ := hu
  have hnu := hAu.1
  have hcm := hAu.2.2.1
  unfold maxLen at hcm
  have hnc := hAu.2.1
  have hwu := hAu.2.2.2.2
  have hBc : Blk (w.alloc (.cells #[.int .i64 fu, .slice Au nu cu] 24)) w.heap.size 24 [.int .i64 fu, .slice Au nu cu] := Blk.new rfl rfl
  have hb0 : Below w.heap.size w (w.alloc (.cells #[.int .i64 fu, .slice Au nu cu] 24)) := (Below.refl _ _).alloc (Nat.le_refl _) _
  have hA0 := hAu.after hb0
  have hcp := copy_any fu Au nu cu u _ hA0 (by omega)
  have H := Lib.hid (And.intro hBc (And.intro hb0 (And.intro hA0 (And.intro hcp hwu))))
  clear hBc hb0 hA0 hcp hAu hwu
  go_enter Try.func5, Try.ntmps5
  go_wp2_with fail
  refine H.out.2.2.2.1.mono ?_
  rintro e w2 ⟨v, rfl, hN⟩
  obtain ⟨A2, c2, rfl, hA2⟩ := hN.own.arg H.out.2.2.2.2
  rw [hnu] at hA2
  rw [hnu]
  have hbn : Below w2.heap.size w2 (w2.alloc (.cells #[.int .i64 fu, .slice A2 nu c2] 24)) := (Below.refl _ _).alloc (Nat.le_refl _) _
  have hBi : Blk (w2.alloc (.cells #[.int .i64 fu, .slice A2 nu c2] 24)) w2.heap.size 24 [.int .i64 fu, .slice A2 nu c2] := Blk.new rfl rfl
  obtain ⟨W2, hW2⟩ : ∃ W, w2.alloc (.cells #[.int .i64 fu, .slice A2 nu c2] 24) = W := ⟨_, rfl⟩
  rw [hW2] at hbn hBi
  have hb1 := hN.2.trans (hbn.mono hN.2.size)
  have hbw := H.out.2.1.trans (hb1.mono H.out.2.1.size)
  obtain ⟨F, L, E, hM⟩ : ∃ F L E, replaceR fu u od x = (F, L, E) := ⟨_, _, _, rfl⟩
  have hwL : ∀ y ∈ L, Wf y := by have := replace_wf (f := fu) (o := od) H.out.2.2.2.2 hx; rw [hM] at this; exact this
  have hmk := replace_any fu A2 nu c2 u W2 (hA2.after hbn) H.out.2.2.2.2 od x hx
  rw [hM] at hmk
  have k0 : W2.cell? ⟨w2.heap.size, 0, none⟩ = some (.int .i64 fu) := hBi.cell rfl
  have k1 : W2.cell? ⟨w2.heap.size, 1, none⟩ = some (.slice A2 nu c2) := hBi.cell rfl
  have H2 := Lib.hid (And.intro (H.out.1.below hb1 H.out.1.lt) (And.intro hBi (And.intro (H.out.2.2.1.after hb1) (And.intro (hA2.after hbn) (And.intro hbw (And.intro hmk (And.intro hM hwL)))))))
  have HW := Lib.hid hW2
  clear hbn hBi hW2 hb1 hbw hmk hM hwL hN hA2 k0 k1
  go_wp2_with fail
  rw [HW.out]
  refine H2.out.2.2.2.2.2.1.mono ?_
  rintro e w3 ⟨v, rfl, hN⟩
  obtain ⟨Ax, cx, rfl, hAx⟩ := hN.own.arg H2.out.2.2.2.2.2.2.2
  have hOx := hN.own
  obtain ⟨m, hm⟩ : ∃ k, L.length = k := ⟨_, rfl⟩
  have hmk2 := rreplace_any fu Au nu cu u
  have hbn : Below w3.heap.size w3 (w3.alloc (.cells #[.int .i64 F, .slice Ax L.length cx] 24)) := (Below.refl _ _).alloc (Nat.le_refl _) _
  have hBx : Blk (w3.alloc (.cells #[.int .i64 F, .slice Ax L.length cx] 24)) w3.heap.size 24 [.int .i64 F, .slice Ax L.length cx] := Blk.new rfl rfl
  rw [hm] at hAx hbn hBx
  rw [hm]
  obtain ⟨W3, hW3⟩ : ∃ W, w3.alloc (.cells #[.int .i64 F, .slice Ax m cx] 24) = W := ⟨_, rfl⟩
  rw [hW3] at hbn hBx
  have hbs := hN.2.trans (hbn.mono hN.2.size)
  have hOx3 : OwnI W3 W2.heap.size (.slice Ax m cx) L := by have h := own_below hOx hbn; unfold OwnI; rw [hm] at h ⊢; exact h
  have hmk3 := hmk2 W3 (H2.out.2.2.1.after hbs) H.out.2.2.2.2 od x hx
  rw [H2.out.2.2.2.2.2.2.1] at hmk3
  have hBc3 := H2.out.1.below hbs H2.out.1.lt
  have k0 : W3.cell? ⟨w.heap.size, 0, none⟩ = some (.int .i64 fu) := hBc3.cell rfl
  have k1 : W3.cell? ⟨w.heap.size, 1, none⟩ = some (.slice Au nu cu) := hBc3.cell rfl
  have hBc3' := H2.out.1.below hN.2 H2.out.1.lt
  have l0 : w3.cell? ⟨w.heap.size, 0, none⟩ = some (.int .i64 fu) := hBc3'.cell rfl
  have l1 : w3.cell? ⟨w.heap.size, 1, none⟩ = some (.slice Au nu cu) := hBc3'.cell rfl
  have hlt3 : w.heap.size < w3.heap.size := hBc3'.lt
  have H3 := Lib.hid (And.intro hbs (And.intro hBx (And.intro (hAx.after hbn) (And.intro hOx3 (And.intro hmk3 hm)))))
  have HW3 := Lib.hid hW3
  clear hbn hBx hW3 hbs hOx3 hmk3 hmk2 hm hN hAx hOx hBc3 hBc3'
  go_wp2_with fail
  rw [HW3.out]
  refine H3.out.2.2.2.2.1.mono ?_
  rintro e w4 ⟨v, rfl, hN⟩
  clear k0 k1 l0 l1 hlt3
  obtain ⟨Ay, cy, rfl, hAy⟩ := hN.own.arg H2.out.2.2.2.2.2.2.2
  rw [H3.out.2.2.2.2.2] at hAy
  rw [H3.out.2.2.2.2.2]
  have hbn : Below w4.heap.size w4 (w4.alloc (.cells #[.int .i64 F, .slice Ay m cy] 24)) := (Below.refl _ _).alloc (Nat.le_refl _) _
  have hBy : Blk (w4.alloc (.cells #[.int .i64 F, .slice Ay m cy] 24)) w4.heap.size 24 [.int .i64 F, .slice Ay m cy] := Blk.new rfl rfl
  obtain ⟨W4, hW4⟩ : ∃ W, w4.alloc (.cells #[.int .i64 F, .slice Ay m cy] 24) = W := ⟨_, rfl⟩
  rw [hW4] at hbn hBy
  have hbs := hN.2.trans (hbn.mono hN.2.size)
  have h24 := H3.out.1.trans (hbs.mono H3.out.1.size)
  have hBx4 := H3.out.2.1.below hbs H3.out.2.1.lt
  have hBx4' := H3.out.2.1.below hN.2 H3.out.2.1.lt
  have l0 : w4.cell? ⟨w3.heap.size, 0, none⟩ = some (.int .i64 F) := hBx4'.cell rfl
  have l1 : w4.cell? ⟨w3.heap.size, 1, none⟩ = some (.slice Ax m cx) := hBx4'.cell rfl
  have hlt4 : w3.heap.size < w4.heap.size := hBx4'.lt
  have hS := same_any F F Ax Ay m m cx cy L L W4 (H3.out.2.2.1.after hbs) (hAy.after hbn)
  rw [show decide (F = F ∧ L = L) = true by simp] at hS
  have k0 : W4.cell? ⟨w3.heap.size, 0, none⟩ = some (.int .i64 F) := hBx4.cell rfl
  have k1 : W4.cell? ⟨w3.heap.size, 1, none⟩ = some (.slice Ax m cx) := hBx4.cell rfl
  have k2 : W4.cell? ⟨w4.heap.size, 0, none⟩ = some (.int .i64 F) := hBy.cell rfl
  have k3 : W4.cell? ⟨w4.heap.size, 1, none⟩ = some (.slice Ay m cy) := hBy.cell rfl
  have H4 := Lib.hid (And.intro h24 (And.intro hBx4 (And.intro (H3.out.2.2.1.after hbs) (And.intro (own_below H3.out.2.2.2.1 hbs) hS))))
  have HW4 := Lib.hid hW4
  clear hbn hBy hW4 hbs h24 hN hAy hBx4 hS hBx4'
  have hmc := H4.out.2.2.1.2.1
  have hmm := H4.out.2.2.1.2.2.1
  unfold maxLen at hmm
  go_wp2_with fail
  rw [HW4.out]
  refine H4.out.2.2.2.2.mono ?_
  rintro e w6 ⟨rfl, hbl⟩
  clear k0 k1 k2 k3 l0 l1 hlt4
  have hO6 : OwnI w6 W2.heap.size (.slice Ax m cx) L := own_below H4.out.2.2.2.1 hbl
  have hb6 := H4.out.1.trans (hbl.mono H4.out.1.size)
  have hBx6 := H4.out.2.1.below hbl H4.out.2.1.lt
  have H6 := Lib.hid (And.intro hO6 (And.intro hb6 hBx6))
  clear hbl hO6 hb6 hBx6
  go_wp2
  go_loopw [12] (fun v12 wr => ∃ (j : Nat) (L' : List Int), j ≤ m ∧ v12 = .int .i64 j ∧ L'.length = m ∧ OwnI wr W2.heap.size (.slice Ax m cx) L' ∧ Below W2.heap.size W2 wr ∧ Blk wr w3.heap.size 24 [.int .i64 F, .slice Ax m cx]) (fun v _ => m - (intOf v).toNat)
  case atStart => exact ⟨0, L, Nat.zero_le _, rfl, H3.out.2.2.2.2.2, H6.out.1, H6.out.2.1, H6.out.2.2⟩
  case round =>
    obtain ⟨j, L', hj, rfl, hL, hO, hb, hBx⟩ := hrel
    have hi0 : (0 : Int) ≤ j := by omega
    have x1 : wr.cell? ⟨w3.heap.size, 1, none⟩ = some (.slice Ax m cx) := hBx.cell rfl
    by_cases hjm : j < m
    · have hi1 : (j : Int) < m := by omega
      obtain ⟨g, rfl, hg, ⟨y, hy⟩, hfr, hO2⟩ := own_blank hO hL hjm
      have hne : w3.heap.size ≠ g := fun e => (own_not_crew hO hBx) (by rw [e]; rfl)
      have H7 := Lib.hid (And.intro hO2 (And.intro (hb.setCell (p := ⟨g, j, none⟩) hg (.int .i64 0)) (hBx.far (p := ⟨g, j, none⟩) hne (.int .i64 0))))
      clear hO hb hO2 hBx
      go_wp2
      refine ⟨⟨j + 1, L'.set j 0, by omega, by go_num, by rw [List.length_set]; exact hL, H7.out.1, H7.out.2.1, H7.out.2.2⟩, by simp [intOf]; omega⟩
    · have hi1 : ¬ (j : Int) < m := by omega
      have hBc := H2.out.1.below hb H2.out.1.lt
      have hBi := H2.out.2.1.below hb H2.out.2.1.lt
      have hS := same_any fu fu A2 Au nu nu c2 cu u u wr (H2.out.2.2.2.1.after hb) (H2.out.2.2.1.after hb)
      rw [show decide (fu = fu ∧ u = u) = true by simp] at hS
      have d0 : wr.cell? ⟨w2.heap.size, 0, none⟩ = some (.int .i64 fu) := hBi.cell rfl
      have d1 : wr.cell? ⟨w2.heap.size, 1, none⟩ = some (.slice A2 nu c2) := hBi.cell rfl
      have d2 : wr.cell? ⟨w.heap.size, 0, none⟩ = some (.int .i64 fu) := hBc.cell rfl
      have d3 : wr.cell? ⟨w.heap.size, 1, none⟩ = some (.slice Au nu cu) := hBc.cell rfl
      have H8 := Lib.hid (And.intro hS (H2.out.2.2.2.2.1.trans (hb.mono H2.out.2.2.2.2.1.size)))
      clear hO hb hBc hBi hS hBx
      go_wp2_with fail
      refine H8.out.1.mono ?_
      rintro e w7 ⟨rfl, hb7⟩
      clear d0 d1 d2 d3 x1
      have H9 := Lib.hid (H8.out.2.trans (hb7.mono H8.out.2.size))
      clear hb7
      go_wp2_with fail
      refine (works_any _).mono ?_
      rintro e w9 ⟨rfl, hb9⟩
      go_wp2
      go_ret
      exact ⟨rfl, H9.out.trans (hb9.mono H9.out.size)⟩

end Go.Proofs.Ytjibbbfpbflgmaa.crewReplaces
