/-
  For all arrays of numbers l, r and m: as numbers rise what is ranked does not fall, and for more of them it does not rise; CrewRises returns true; no condition.
-/
import Derived.Test.YtjibbbfpbflgmaaRi8
import Derived.Deep.RegionWith
namespace Go.Proofs.Ytjibbbfpbflgmaa.crewRises
open Go.ChangeShapes Go.WideShapes Go.ChangeAt Go.RowKit Go.Shelf CrewP
set_option linter.unusedVariables false

theorem wf50 {x : Int} (h0 : 0 ≤ x) (h1 : x < 9007199254740992) : Wf x := by
  simp only [Wf, Lit.wf, IntKind.min, IntKind.max, IntKind.signed, IntKind.bits]
  simp
  omega

theorem arg_out {S : Nat → Prop} {w w' : World} {A : Option Addr} {n c : Nat} {l : List Int} (h : ArgI w A n c l) (ho : Out S w w') (hS : ∀ b o, A = some ⟨b, o, none⟩ → b < w.heap.size → ¬ S b) : ArgI w' A n c l := by
  obtain ⟨h1, h2, h3, h4, h5⟩ := h
  refine ⟨h1, h2, h3, ⟨h4.1, fun hn => ?_⟩, h5⟩
  obtain ⟨b, o, e, hlt, hc⟩ := h4.2 hn
  refine ⟨b, o, e, Nat.lt_of_lt_of_le hlt ho.size, fun j u hu => ?_⟩
  have := ho.block b hlt (hS b o e hlt)
  rw [← hc j u hu]
  unfold World.cell?
  rw [this]

set_option maxRecDepth 100000 in
set_option maxHeartbeats 12800000 in
theorem walk (l : List Int) (r : List Int) (m : List Int) (w : World) (hl : l.length = 8 ∧ ∀ y ∈ l, Wf y) (hr : r.length = 7 ∧ ∀ y ∈ r, Wf y) (hm : m.length = 7 ∧ ∀ y ∈ m, Wf y) :
    Calls Try.prog 14 #[.agg (cis l).toArray, .agg (cis r).toArray, .agg (cis m).toArray] w fun e w' => e = .returned (.bool true) ∧ Below w.heap.size w w' := by
  obtain ⟨hl8, hlw⟩ := hl
  have hS := fun W => some_of l hl8 hlw W
  obtain ⟨a0, a1, a2, a3, a4, a5, a6, a7, rfl⟩ := eight hl8
  obtain ⟨hr8, hrw⟩ := hr
  obtain ⟨r0, r1, r2, r3, r4, r5, r6, rfl⟩ := seven hr8
  obtain ⟨hm8, hmw⟩ := hm
  obtain ⟨m0, m1, m2, m3, m4, m5, m6, rfl⟩ := seven hm8
  change Calls _ _ #[.agg #[.int .i64 a0, .int .i64 a1, .int .i64 a2, .int .i64 a3, .int .i64 a4, .int .i64 a5, .int .i64 a6, .int .i64 a7], .agg #[.int .i64 r0, .int .i64 r1, .int .i64 r2, .int .i64 r3, .int .i64 r4, .int .i64 r5, .int .i64 r6], .agg #[.int .i64 m0, .int .i64 m1, .int .i64 m2, .int .i64 m3, .int .i64 m4, .int .i64 m5, .int .i64 m6]] _ _
  have hB0 : Blk (((w.alloc (.cells #[.int .i64 a0, .int .i64 a1, .int .i64 a2, .int .i64 a3, .int .i64 a4, .int .i64 a5, .int .i64 a6, .int .i64 a7] 45)).alloc (.cells #[.int .i64 r0, .int .i64 r1, .int .i64 r2, .int .i64 r3, .int .i64 r4, .int .i64 r5, .int .i64 r6] 53)).alloc (.cells #[.int .i64 m0, .int .i64 m1, .int .i64 m2, .int .i64 m3, .int .i64 m4, .int .i64 m5, .int .i64 m6] 53)) w.heap.size 45 (cis [a0, a1, a2, a3, a4, a5, a6, a7]) := ((Blk.new rfl rfl).old _).old _
  have hB1 : Blk (((w.alloc (.cells #[.int .i64 a0, .int .i64 a1, .int .i64 a2, .int .i64 a3, .int .i64 a4, .int .i64 a5, .int .i64 a6, .int .i64 a7] 45)).alloc (.cells #[.int .i64 r0, .int .i64 r1, .int .i64 r2, .int .i64 r3, .int .i64 r4, .int .i64 r5, .int .i64 r6] 53)).alloc (.cells #[.int .i64 m0, .int .i64 m1, .int .i64 m2, .int .i64 m3, .int .i64 m4, .int .i64 m5, .int .i64 m6] 53)) (w.heap.size + 1) 53 (cis [r0, r1, r2, r3, r4, r5, r6]) := (Blk.new rfl (by simp <;> omega)).old _
  have hB2 : Blk (((w.alloc (.cells #[.int .i64 a0, .int .i64 a1, .int .i64 a2, .int .i64 a3, .int .i64 a4, .int .i64 a5, .int .i64 a6, .int .i64 a7] 45)).alloc (.cells #[.int .i64 r0, .int .i64 r1, .int .i64 r2, .int .i64 r3, .int .i64 r4, .int .i64 r5, .int .i64 r6] 53)).alloc (.cells #[.int .i64 m0, .int .i64 m1, .int .i64 m2, .int .i64 m3, .int .i64 m4, .int .i64 m5, .int .i64 m6] 53)) (w.heap.size + 2) 53 (cis [m0, m1, m2, m3, m4, m5, m6]) := Blk.new rfl (by simp <;> omega)
  have hbx : Below w.heap.size w (((w.alloc (.cells #[.int .i64 a0, .int .i64 a1, .int .i64 a2, .int .i64 a3, .int .i64 a4, .int .i64 a5, .int .i64 a6, .int .i64 a7] 45)).alloc (.cells #[.int .i64 r0, .int .i64 r1, .int .i64 r2, .int .i64 r3, .int .i64 r4, .int .i64 r5, .int .i64 r6] 53)).alloc (.cells #[.int .i64 m0, .int .i64 m1, .int .i64 m2, .int .i64 m3, .int .i64 m4, .int .i64 m5, .int .i64 m6] 53)) := (((Below.refl _ _).alloc (Nat.le_refl _) _).alloc (by simp <;> omega) _).alloc (by simp <;> omega) _
  have H := Lib.hid (And.intro hbx (And.intro hS (And.intro hB0 (And.intro hB1 hB2))))
  clear hS hbx hl8 hlw hB0 hB1 hB2 hr8 hm8
  go_enter Try.func14, Try.ntmps14
  go_wp2_with fail
  refine (works_any _).mono ?_
  rintro e w1 ⟨rfl, hb1⟩
  have hB0 := H.out.2.2.1.below hb1 H.out.2.2.1.lt
  have hB1 := H.out.2.2.2.1.below hb1 H.out.2.2.2.1.lt
  have hB2 := H.out.2.2.2.2.below hb1 H.out.2.2.2.2.lt
  have hbw1 := H.out.1.trans (hb1.mono H.out.1.size)
  have k0 : w1.cell? ⟨w.heap.size, 0, none⟩ = some (.int .i64 a0) := hB0.cell rfl
  have k1 : w1.cell? ⟨w.heap.size, 1, none⟩ = some (.int .i64 a1) := hB0.cell rfl
  have k2 : w1.cell? ⟨w.heap.size, 2, none⟩ = some (.int .i64 a2) := hB0.cell rfl
  have k3 : w1.cell? ⟨w.heap.size, 3, none⟩ = some (.int .i64 a3) := hB0.cell rfl
  have k4 : w1.cell? ⟨w.heap.size, 4, none⟩ = some (.int .i64 a4) := hB0.cell rfl
  have k5 : w1.cell? ⟨w.heap.size, 5, none⟩ = some (.int .i64 a5) := hB0.cell rfl
  have k6 : w1.cell? ⟨w.heap.size, 6, none⟩ = some (.int .i64 a6) := hB0.cell rfl
  have k7 : w1.cell? ⟨w.heap.size, 7, none⟩ = some (.int .i64 a7) := hB0.cell rfl
  have HB1 := Lib.hid (And.intro hbw1 (And.intro hB0 (And.intro hB1 hB2)))
  have hw1s : w.heap.size + 3 ≤ w1.heap.size := by have := hb1.size; simp at this; omega
  clear hb1 hbw1 hB0 hB1 hB2
  go_wp2_with fail
  refine (H.out.2.1 w1).mono ?_
  rintro e w2 ⟨f, ns, v, hok, rfl, hO, hb2⟩
  clear k0 k1 k2 k3 k4 k5 k6 k7
  obtain ⟨A, c, rfl, hA⟩ := hO.arg (ok_wf hok)
  have hAb : ∀ b o, A = some ⟨b, o, none⟩ → w1.heap.size ≤ b := fun b o h => by subst h; exact (hO.lt b rfl).1
  obtain ⟨n, hn⟩ : ∃ n, ns.length = n := ⟨_, rfl⟩
  rw [hn] at hA
  rw [hn]
  have hbw2 := HB1.out.1.trans (hb2.mono HB1.out.1.size)
  have hBc : Blk (w2.alloc (.cells #[.int .i64 f, .slice A n c] 24)) w2.heap.size 24 [.int .i64 f, .slice A n c] := Blk.new rfl rfl
  have hbn : Below w2.heap.size w2 (w2.alloc (.cells #[.int .i64 f, .slice A n c] 24)) := (Below.refl _ _).alloc (Nat.le_refl _) _
  have hbs := hb2.trans (hbn.mono hb2.size)
  have hB0 := HB1.out.2.1.below hbs HB1.out.2.1.lt
  have hB1 := HB1.out.2.2.1.below hbs HB1.out.2.2.1.lt
  have hB2 := HB1.out.2.2.2.below hbs HB1.out.2.2.2.lt
  have H2 := Lib.hid (And.intro hBc (And.intro (hA.after hbn) (And.intro (hbw2.trans (hbn.mono hbw2.size)) (And.intro hok (And.intro hn (And.intro (And.intro hA (And.intro hbn (And.intro hbw2 (And.intro hAb hw1s)))) (And.intro hB0 (And.intro hB1 hB2))))))))
  clear hO hA hAb hw1s hbw2 hBc hbn hbs hb2 hok hn HB1 H hB0 hB1 hB2
  have hnl := H2.out.2.2.2.2.1
  obtain ⟨⟨hf0, hf1⟩, hl3, hasc⟩ := ok_len H2.out.2.2.2.1
  rw [hnl] at hl3
  have hn7 : (n : Int) ≤ 7 := by omega
  have hn1 : (0 : Int) < n := by omega
  have hBr := H2.out.2.2.2.2.2.2.2.1
  have hBm := H2.out.2.2.2.2.2.2.2.2
  have kr0 : (w2.alloc (.cells #[.int .i64 f, .slice A n c] 24)).cell? ⟨w.heap.size + 1, 0, none⟩ = some (.int .i64 r0) := hBr.cell rfl
  have kr1 : (w2.alloc (.cells #[.int .i64 f, .slice A n c] 24)).cell? ⟨w.heap.size + 1, 1, none⟩ = some (.int .i64 r1) := hBr.cell rfl
  have kr2 : (w2.alloc (.cells #[.int .i64 f, .slice A n c] 24)).cell? ⟨w.heap.size + 1, 2, none⟩ = some (.int .i64 r2) := hBr.cell rfl
  have kr3 : (w2.alloc (.cells #[.int .i64 f, .slice A n c] 24)).cell? ⟨w.heap.size + 1, 3, none⟩ = some (.int .i64 r3) := hBr.cell rfl
  have kr4 : (w2.alloc (.cells #[.int .i64 f, .slice A n c] 24)).cell? ⟨w.heap.size + 1, 4, none⟩ = some (.int .i64 r4) := hBr.cell rfl
  have kr5 : (w2.alloc (.cells #[.int .i64 f, .slice A n c] 24)).cell? ⟨w.heap.size + 1, 5, none⟩ = some (.int .i64 r5) := hBr.cell rfl
  have kr6 : (w2.alloc (.cells #[.int .i64 f, .slice A n c] 24)).cell? ⟨w.heap.size + 1, 6, none⟩ = some (.int .i64 r6) := hBr.cell rfl
  have k0 : (w2.alloc (.cells #[.int .i64 f, .slice A n c] 24)).cell? ⟨w2.heap.size, 0, none⟩ = some (.int .i64 f) := H2.out.1.cell rfl
  have k1 : (w2.alloc (.cells #[.int .i64 f, .slice A n c] 24)).cell? ⟨w2.heap.size, 1, none⟩ = some (.slice A n c) := H2.out.1.cell rfl
  obtain ⟨W3, hW3⟩ : ∃ W, w2.alloc (.cells #[.int .i64 f, .slice A n c] 24) = W := ⟨_, rfl⟩
  have hs3 : W3.heap.size = w2.heap.size + 1 := by rw [← hW3]; simp
  have hbn : Below W3.heap.size W3 (W3.alloc (.cells #[.int .i64 r0, .int .i64 r1, .int .i64 r2, .int .i64 r3, .int .i64 r4, .int .i64 r5, .int .i64 r6] 53)) := (Below.refl _ _).alloc (Nat.le_refl _) _
  have hBu : Blk (W3.alloc (.cells #[.int .i64 r0, .int .i64 r1, .int .i64 r2, .int .i64 r3, .int .i64 r4, .int .i64 r5, .int .i64 r6] 53)) (w2.heap.size + 1) 53 (cis [r0, r1, r2, r3, r4, r5, r6]) := Blk.new rfl hs3
  have hC := H2.out.1
  have hA := H2.out.2.1
  have hb := H2.out.2.2.1
  rw [hW3] at hC hA hb hBr hBm
  have hwlt : w.heap.size + 2 < w2.heap.size := by
    have h1 := hBm.lt
    have h2 := H2.out.2.2.2.2.2.1.2.2.1.size
    have h3 := H2.out.2.2.2.2.2.2.2.2.lt
    rw [hW3] at h3
    have h4 : w.heap.size + 2 ≠ w2.heap.size := fun e => by
      have hc1 := hC.cell (i := 1) rfl
      have hm1 := hBm.cell (i := 1) (v := .int .i64 m1) rfl
      rw [e, hc1] at hm1
      cases hm1
    omega
  have H3 := Lib.hid (And.intro (hC.below hbn hC.lt) (And.intro (hA.after hbn) (And.intro (hb.trans (hbn.mono hb.size)) (And.intro (hBr.below hbn hBr.lt) (And.intro (hBm.below hbn hBm.lt) hBu)))))
  have HW := Lib.hid hW3
  have Hold := Lib.hid (And.intro H2.out.2.2.2.2.2.1.1 (show Below w2.heap.size w2 (W3.alloc (.cells #[.int .i64 r0, .int .i64 r1, .int .i64 r2, .int .i64 r3, .int .i64 r4, .int .i64 r5, .int .i64 r6] 53)) by
    have := H2.out.2.2.2.2.2.1.2.1
    rw [hW3] at this
    exact this.trans (hbn.mono this.size)))
  clear hC hA hb hBr hBm hbn hBu hW3 hl3 hasc
  go_wp2
  rw [HW.out]
  clear kr0 kr1 kr2 kr3 kr4 kr5 kr6 k0 k1
  go_loopw [10] (fun v10 wr => ∃ (j : Nat) (R U : List Int), j ≤ 7 ∧ v10 = .int .i64 j ∧ R.length = 7 ∧ U.length = 7 ∧ (∀ i, i < j → ∀ (h1 : i < R.length) (h2 : i < U.length), 0 ≤ R[i] ∧ R[i] ≤ U[i] ∧ U[i] < 9007199254740992) ∧ (∀ x ∈ R, Wf x) ∧
    Blk wr w2.heap.size 24 [.int .i64 f, .slice A n c] ∧ Blk wr (w.heap.size + 1) 53 (cis R) ∧ Blk wr (w.heap.size + 2) 53 (cis [m0, m1, m2, m3, m4, m5, m6]) ∧ Blk wr (w2.heap.size + 1) 53 (cis U) ∧ Below w.heap.size w wr ∧ Out (fun i => i = w.heap.size + 1 ∨ i = w2.heap.size + 1) w2 wr) (fun v _ => 7 - (intOf v).toNat)
  case atStart => exact ⟨0, _, _, by omega, rfl, rfl, rfl, fun i h => absurd h (by omega), hrw, H3.out.1, H3.out.2.2.2.1, H3.out.2.2.2.2.1, H3.out.2.2.2.2.2, H3.out.2.2.1, Out.ofBelow _ Hold.out.2⟩
  case round =>
    obtain ⟨j, R, U, hj, rfl, hR7, hU7, hRU, hRw, hC, hBR, hBM, hBU, hb, ho⟩ := hrel
    have hi0 : (0 : Int) ≤ j := by omega
    by_cases hlt : j < 7
    · have hi1 : (j : Int) < 7 := by omega
      have hjR : j < R.length := by omega
      have hjM : j < [m0, m1, m2, m3, m4, m5, m6].length := hlt
      have hcR : wr.cell? ⟨w.heap.size + 1, j, none⟩ = some (.int .i64 R[j]) := hBR.cell (by rw [cis_get, List.getElem?_eq_getElem hjR]; rfl)
      obtain ⟨r, hr0, hr1, hbr⟩ := bring_ex R[j] 1125899906842624 (by decide) (by decide) (hRw _ (List.getElem_mem hjR))
      obtain ⟨y, hy⟩ : ∃ y, [m0, m1, m2, m3, m4, m5, m6][j]'hjM = y := ⟨_, rfl⟩
      have hyw : Wf y := by rw [← hy]; exact hmw _ (List.getElem_mem hjM)
      obtain ⟨s, hs0, hs1, hbs⟩ := bring_ex y 1125899906842624 (by decide) (by decide) hyw
      have hqR := hBR.free
      generalize R[j] = z at hcR hbr
      have hBR' := hBR.set_ j (.int .i64 r)
      have hBM' := hBM.far (p := ⟨w.heap.size + 1, j, none⟩) (by show w.heap.size + 2 ≠ w.heap.size + 1; omega) (.int .i64 r)
      have hBU' := hBU.far (p := ⟨w.heap.size + 1, j, none⟩) (by show w2.heap.size + 1 ≠ w.heap.size + 1; omega) (.int .i64 r)
      have hC' := hC.far (p := ⟨w.heap.size + 1, j, none⟩) (by show w2.heap.size ≠ w.heap.size + 1; omega) (.int .i64 r)
      have hb' := hb.setCell (p := ⟨w.heap.size + 1, j, none⟩) (by show w.heap.size ≤ w.heap.size + 1; omega) (.int .i64 r)
      have ho' := ho.setCell (p := ⟨w.heap.size + 1, j, none⟩) (fun _ => .inl rfl) (.int .i64 r)
      obtain ⟨W4, hW4⟩ : ∃ W, wr.setCell ⟨w.heap.size + 1, j, none⟩ (.int .i64 r) = W := ⟨_, rfl⟩
      rw [hW4] at hBR' hBM' hBU' hC' hb' ho'
      have hset : (cis R).set j (.int .i64 r) = cis (R.set j r) := by simp [cis, List.map_set]; rfl
      rw [hset] at hBR'
      have hjU : j < U.length := by omega
      have c1 : W4.cell? ⟨w.heap.size + 1, j, none⟩ = some (.int .i64 r) := hBR'.cell (by rw [cis_get, List.getElem?_set_self (by omega)]; rfl)
      have c2 : W4.cell? ⟨w.heap.size + 2, j, none⟩ = some (.int .i64 y) := hBM'.cell (by rw [cis_get, List.getElem?_eq_getElem hjM, ← hy]; rfl)
      have c3 : W4.cell? ⟨w2.heap.size + 1, j, none⟩ = some (.int .i64 U[j]) := hBU'.cell (by rw [cis_get, List.getElem?_eq_getElem hjU]; rfl)
      generalize U[j] = u at c3
      have hqU := hBU'.free
      have hw1 : IntKind.i64.wrap (r + s) = r + s := IntWalk.i64_in _ (by omega)
      have hBR2 := hBR'.far (p := ⟨w2.heap.size + 1, j, none⟩) (by show w.heap.size + 1 ≠ w2.heap.size + 1; omega) (.int .i64 (r + s))
      have hBM2 := hBM'.far (p := ⟨w2.heap.size + 1, j, none⟩) (by show w.heap.size + 2 ≠ w2.heap.size + 1; omega) (.int .i64 (r + s))
      have hBU2 := hBU'.set_ j (.int .i64 (r + s))
      have hset2 : (cis U).set j (.int .i64 (r + s)) = cis (U.set j (r + s)) := by simp [cis, List.map_set]; rfl
      rw [hset2] at hBU2
      have hC2 := hC'.far (p := ⟨w2.heap.size + 1, j, none⟩) (by show w2.heap.size ≠ w2.heap.size + 1; omega) (.int .i64 (r + s))
      have hb2 := hb'.setCell (p := ⟨w2.heap.size + 1, j, none⟩) (by show w.heap.size ≤ w2.heap.size + 1; omega) (.int .i64 (r + s))
      have ho2 := ho'.setCell (p := ⟨w2.heap.size + 1, j, none⟩) (fun _ => .inr rfl) (.int .i64 (r + s))
      have H4 := Lib.hid (And.intro hbr (And.intro hbs (And.intro hW4 (And.intro hBR2 (And.intro hBM2 (And.intro hBU2 (And.intro hC2 (And.intro hb2 ho2))))))))
      clear hbr hbs hW4 hBR hBM hBU hC hb ho hBR' hBM' hBU' hC' hb' ho' hBR2 hBM2 hBU2 hC2 hb2 ho2 hset hset2 hy hyw hjM hjU hjR
      go_wp2_with fail
      refine (H4.out.1 _).mono ?_
      rintro e w4 ⟨rfl, hw4⟩
      subst hw4
      go_wp2_with fail
      rw [H4.out.2.2.1]
      clear hcR hqR
      go_region_with (go_at_call 43; refine (H4.out.2.1 _).mono ?_; rintro e w5 ⟨rfl, rfl⟩)
      all_goals go_wp2
      all_goals (refine ⟨⟨j + 1, R.set j r, U.set j (r + s), by omega, by go_num, by rw [List.length_set, hR7], by rw [List.length_set, hU7], ?_, ?_, H4.out.2.2.2.2.2.2.1, H4.out.2.2.2.1, H4.out.2.2.2.2.1, H4.out.2.2.2.2.2.1, H4.out.2.2.2.2.2.2.2.1.drew, H4.out.2.2.2.2.2.2.2.2.drewN 1⟩, by simp [intOf]; omega⟩)
      all_goals first
        | (intro i hi h1 h2
           rw [List.getElem_set, List.getElem_set]
           by_cases e : j = i
           · rw [if_pos e, if_pos e]; omega
           · rw [if_neg e, if_neg e]
             rw [List.length_set] at h1 h2
             exact hRU i (by omega) h1 h2)
        | (intro x hx
           rcases List.mem_or_eq_of_mem_set hx with h | h
           · exact hRw x h
           · subst h; exact wf50 hr0 (by omega))
    · have hj7 : j = 7 := by omega
      subst hj7
      have hi1 : ¬ ((7 : Nat) : Int) < 7 := by omega
      have hi2 : ((7 : Nat) : Int) = 7 := rfl
      have hUw : ∀ x ∈ U, Wf x := fun x hx => by
        obtain ⟨i, hi, rfl⟩ := List.mem_iff_getElem.1 hx
        have := hRU i (by omega) (by omega) hi
        exact wf50 (by omega) (by omega)
      have hAr := arg_out Hold.out.1 ho (fun b o e hlt h => by
        have h1 := H2.out.2.2.2.2.2.1.2.2.2.1 b o e
        have h2 := H2.out.2.2.2.2.2.1.2.2.2.2
        rcases h with h | h <;> omega)
      have hRA := arr_arg hBR hRw (n := n) (by omega) (by omega)
      have hUA := arr_arg hBU hUw (n := n) (by omega) (by omega)
      rw [hR7] at hRA
      rw [hU7] at hUA
      have hRl : (R.take n).length = n := by rw [List.length_take]; omega
      have hUl : (U.take n).length = n := by rw [List.length_take]; omega
      have hle : ∀ i (h1 : i < (R.take n).length) (h2 : i < (U.take n).length), (R.take n)[i] ≤ (U.take n)[i] := fun i h1 h2 => by
        rw [List.getElem_take, List.getElem_take]
        exact (hRU i (by omega) (by omega) (by omega)).2.1
      obtain ⟨Rn, hRn⟩ : ∃ Rn, R.take n = Rn := ⟨_, rfl⟩
      obtain ⟨Un, hUn⟩ : ∃ Un, U.take n = Un := ⟨_, rfl⟩
      rw [hRn] at hRA hRl
      rw [hUn] at hUA hUl
      have hle' : ∀ i (h1 : i < Rn.length) (h2 : i < Un.length), Rn[i] ≤ Un[i] := by subst hRn; subst hUn; exact hle
      have hrank : ∀ q, 1 ≤ q → q ≤ n → rankR f ns Rn q = (rankL Rn q, 0) := fun q h1 h2 => rank_val H2.out.2.2.2.1 (by rw [hRl]; exact hnl.symm) h1 (by rw [hnl]; exact h2)
      have hranku : ∀ q, 1 ≤ q → q ≤ n → rankR f ns Un q = (rankL Un q, 0) := fun q h1 h2 => rank_val H2.out.2.2.2.1 (by rw [hUl]; exact hnl.symm) h1 (by rw [hnl]; exact h2)
      have hrises : ∀ q, 1 ≤ q → q ≤ n → rankL Rn q ≤ rankL Un q := fun q h1 h2 => rank_rises (by rw [hRl, hUl]) hle' h1 (by rw [hRl]; exact h2)
      have hfalls : ∀ q, 1 ≤ q → q + 1 ≤ n → rankL Rn (q + 1) ≤ rankL Rn q := fun q h1 h2 => rank_falls h1 (by rw [hRl]; exact h2)
      have H5 := Lib.hid (And.intro hC (And.intro hAr (And.intro hRA (And.intro hUA hb))))
      have Hk := Lib.hid (And.intro hrank (And.intro hranku (And.intro hrises hfalls)))
      have hnN : 0 < n := by omega
      clear hC hAr hRA hUA hb hrank hranku hrises hfalls hle hle' hRl hUl hRn hUn hUw hRw hRU hBR hBM hBU ho hnl
      go_wp2_with fail
      refine region_rule4 (P := Try.prog) 9 91 raD raG raS (raR w2.heap.size (w.heap.size + 1) f A n c 1 (rankL Rn 1)) _ _ (by kernel_rfl) rfl rfl (by kernel_rfl) (by decide +kernel) (ra_gb w2.heap.size (w.heap.size + 1) f A n c 1 (rankL Rn 1)) (ra_sk w2.heap.size (w.heap.size + 1) f A n c 1 (rankL Rn 1)) (ra_on w2.heap.size (w.heap.size + 1) f A n c 1 (rankL Rn 1)) (ra_step w2.heap.size (w.heap.size + 1) f A n c 1 (rankL Rn 1) (by rfl) (by kernel_rfl) ns Rn rfl rfl rfl H5.out.1 H5.out.2.1 H5.out.2.2.1 hn7 (by decide) (Hk.out.1 1 (by omega) (by omega))) ?fin
      case fin =>
        intro a6 w6 hbase hbl hall
        obtain ⟨v11, hv11, hR11⟩ := hall 7 (by decide)
        have hR11' : v11 = .int .i64 (rankL Rn 1) := hR11
        subst hR11'
        obtain ⟨v12, hv12, hR12⟩ := hall 8 (by decide)
        have hR12' : v12 = .int .i64 0 := hR12
        subst hR12'
        obtain ⟨g, hge, hg⟩ := base_lit hbase [47, 48, 49, 50, 46, 51, 52, 11, 12] (by rfl)
        have q11 : g 11 = .int .i64 (rankL Rn 1) := hge 11 _ hv11
        have q12 : g 12 = .int .i64 0 := hge 12 _ hv12
        simp only [List.foldl_cons, List.foldl_nil, List.setIfInBounds_toArray, List.set_cons_zero, List.set_cons_succ, q11, q12] at hg
        rw [hg]
        have H6 := Lib.hid (And.intro (H5.out.1.below hbl H5.out.1.lt) (And.intro (H5.out.2.1.after hbl) (And.intro (H5.out.2.2.1.after hbl) (And.intro (H5.out.2.2.2.1.after hbl) (H5.out.2.2.2.2.trans (hbl.mono H5.out.2.2.2.2.size))))))
        clear hall hbase hbl hv11 hR11 hv12 hR12 hge q11 q12 hg H5 a6
        go_wp2
        go_loopw [11, 13] (fun v11 v13 wr => ∃ k : Nat, 1 ≤ k ∧ k ≤ n + 1 ∧ v13 = .int .i64 k ∧ v11 = .int .i64 (rankL Rn (if k = 1 then 1 else k - 1)) ∧ Blk wr w2.heap.size 24 [.int .i64 f, .slice A n c] ∧ ArgI wr A n c ns ∧ ArgI wr (some ⟨w.heap.size + 1, 0, none⟩) n 7 Rn ∧ ArgI wr (some ⟨w2.heap.size + 1, 0, none⟩) n 7 Un ∧ Below w.heap.size w wr) (fun _ v _ => n + 1 - (intOf v).toNat)
        case atStart => exact ⟨1, by omega, by omega, rfl, rfl, H6.out.1, H6.out.2.1, H6.out.2.2.1, H6.out.2.2.2.1, H6.out.2.2.2.2⟩
        case round =>
          obtain ⟨k, hk1, hkn, rfl, rfl, hC, hA, hRA, hUA, hb⟩ := hrel
          have H7 := Lib.hid (And.intro hC (And.intro hA (And.intro hRA (And.intro hUA hb))))
          clear hC hA hRA hUA hb
          by_cases hle : k ≤ n
          · have hi1 : (k : Int) ≤ n := by omega
            have hkw : Wf (k : Int) := wf50 (by omega) (by omega)
            obtain ⟨la, hla⟩ : ∃ x, rankL Rn (if k = 1 then 1 else k - 1) = x := ⟨_, rfl⟩
            have hxl : rankL Rn k ≤ la := by
              rw [← hla]
              by_cases h1 : k = 1
              · rw [if_pos h1, h1]; exact Int.le_refl _
              · rw [if_neg h1]
                have := Hk.out.2.2.2 (k - 1) (by omega) (by omega)
                rwa [Nat.sub_add_cancel hk1] at this
            have hxu := Hk.out.2.2.1 k hk1 hle
            have e1 := Hk.out.1 k hk1 hle
            have e2 := Hk.out.2.1 k hk1 hle
            have hnx : rankL Rn (if k + 1 = 1 then 1 else k + 1 - 1) = rankL Rn k := by rw [if_neg (by omega), Nat.add_sub_cancel]
            obtain ⟨x, hx⟩ : ∃ x, rankL Rn k = x := ⟨_, rfl⟩
            obtain ⟨y, hy⟩ : ∃ y, rankL Un k = y := ⟨_, rfl⟩
            rw [hx] at hxl hxu e1 hnx
            rw [hy] at hxu e2
            have hz1 : ¬ y < x := by omega
            have hz1' : x ≤ y := by omega
            have hz2 : ¬ la < x := by omega
            have hz2' : x ≤ la := by omega
            have hws : IntKind.i64.wrap ((k : Int) + 1) = (k : Int) + 1 := IntWalk.i64_in _ (by omega)
            have He := Lib.hid (And.intro e1 (And.intro e2 hnx))
            rw [hla]
            clear hla hx hy e1 e2 hxl hxu hnx
            go_wp2_with fail
            refine region_rule4 (P := Try.prog) 10 91 rbD rbG rbS (rbR w2.heap.size (w.heap.size + 1) f A n c k x) _ _ (by kernel_rfl) rfl rfl (by kernel_rfl) (by decide +kernel) (rb_gb w2.heap.size (w.heap.size + 1) f A n c k x) (rb_sk w2.heap.size (w.heap.size + 1) f A n c k x) (rb_on w2.heap.size (w.heap.size + 1) f A n c k x) (rb_step w2.heap.size (w.heap.size + 1) f A n c k x (by rfl) (by kernel_rfl) ns Rn rfl rfl rfl rfl H7.out.1 H7.out.2.1 H7.out.2.2.1 hn7 hkw He.out.1) ?fin
            case fin =>
              intro a7 w7 hbase hbl hall
              obtain ⟨v14, hv14, hR14⟩ := hall 8 (by decide)
              have hR14' : v14 = .int .i64 x := hR14
              subst hR14'
              obtain ⟨v15, hv15, hR15⟩ := hall 9 (by decide)
              have hR15' : v15 = .int .i64 0 := hR15
              subst hR15'
              obtain ⟨p, hpe, hp⟩ := base_lit hbase [59, 60, 61, 62, 63, 58, 64, 65, 14, 15] (by rfl)
              have q14 : p 14 = .int .i64 x := hpe 14 _ hv14
              have q15 : p 15 = .int .i64 0 := hpe 15 _ hv15
              simp only [List.foldl_cons, List.foldl_nil, List.setIfInBounds_toArray, List.set_cons_zero, List.set_cons_succ, q14, q15] at hp
              rw [hp]
              have H8 := Lib.hid (And.intro (H7.out.1.below hbl H7.out.1.lt) (And.intro (H7.out.2.1.after hbl) (And.intro (H7.out.2.2.1.after hbl) (And.intro (H7.out.2.2.2.1.after hbl) (H7.out.2.2.2.2.trans (hbl.mono H7.out.2.2.2.2.size))))))
              clear hall hbase hbl hv14 hR14 hv15 hR15 hpe q14 q15 hp H7 a7
              go_wp2_with fail
              refine region_rule4 (P := Try.prog) 10 91 rcD rcG rcS (rcR w2.heap.size (w2.heap.size + 1) f A n c k y) _ _ (by kernel_rfl) rfl rfl (by kernel_rfl) (by decide +kernel) (rc_gb w2.heap.size (w2.heap.size + 1) f A n c k y) (rc_sk w2.heap.size (w2.heap.size + 1) f A n c k y) (rc_on w2.heap.size (w2.heap.size + 1) f A n c k y) (rc_step w2.heap.size (w2.heap.size + 1) f A n c k y (by rfl) (by kernel_rfl) ns Un rfl rfl rfl rfl H8.out.1 H8.out.2.1 H8.out.2.2.2.1 hn7 hkw He.out.2.1) ?fin
              case fin =>
                intro a8 w8 hbase hbl hall
                obtain ⟨v16, hv16, hR16⟩ := hall 8 (by decide)
                have hR16' : v16 = .int .i64 y := hR16
                subst hR16'
                obtain ⟨v17, hv17, hR17⟩ := hall 9 (by decide)
                have hR17' : v17 = .int .i64 0 := hR17
                subst hR17'
                obtain ⟨o, hoe, ho⟩ := base_lit hbase [67, 68, 69, 70, 71, 66, 72, 73, 16, 17] (by rfl)
                have q16 : o 16 = .int .i64 y := hoe 16 _ hv16
                have q17 : o 17 = .int .i64 0 := hoe 17 _ hv17
                simp only [List.foldl_cons, List.foldl_nil, List.setIfInBounds_toArray, List.set_cons_zero, List.set_cons_succ, q16, q17] at ho
                rw [ho]
                have H9 := Lib.hid (And.intro (H8.out.1.below hbl H8.out.1.lt) (And.intro (H8.out.2.1.after hbl) (And.intro (H8.out.2.2.1.after hbl) (And.intro (H8.out.2.2.2.1.after hbl) (H8.out.2.2.2.2.trans (hbl.mono H8.out.2.2.2.2.size))))))
                clear hall hbase hbl hv16 hR16 hv17 hR17 hoe q16 q17 ho H8 a8
                go_wp2
                exact ⟨⟨k + 1, by omega, by omega, by go_num, by rw [He.out.2.2], H9.out.1, H9.out.2.1, H9.out.2.2.1, H9.out.2.2.2.1, H9.out.2.2.2.2⟩, by simp [intOf]; omega⟩
          · have hi1 : ¬ (k : Int) ≤ n := by omega
            have hi2 : (n : Int) < k := by omega
            go_wp2
            go_ret
            exact ⟨rfl, H7.out.2.2.2.2⟩

end Go.Proofs.Ytjibbbfpbflgmaa.crewRises
