/-
  For all arrays of numbers l and r and all numbers many: what Rank answers of the crew that l makes is reached by so many, and nothing above it is; CrewRanked returns true; no condition.
-/
import Derived.Test.YtjibbbfpbflgmaaRk8
namespace Go.Proofs.Ytjibbbfpbflgmaa.crewRanked
open Go.ChangeShapes Go.WideShapes Go.ChangeAt Go.RowKit Go.Shelf CrewP
set_option linter.unusedVariables false

theorem lit64 (a : Act) (h : a.tmps.size = 64) : ∃ f : Nat → Value, a = { tmps := #[f 0, f 1, f 2, f 3, f 4, f 5, f 6, f 7, f 8, f 9, f 10, f 11, f 12, f 13, f 14, f 15, f 16, f 17, f 18, f 19, f 20, f 21, f 22, f 23, f 24, f 25, f 26, f 27, f 28, f 29, f 30, f 31, f 32, f 33, f 34, f 35, f 36, f 37, f 38, f 39, f 40, f 41, f 42, f 43, f 44, f 45, f 46, f 47, f 48, f 49, f 50, f 51, f 52, f 53, f 54, f 55, f 56, f 57, f 58, f 59, f 60, f 61, f 62, f 63], defers := a.defers } ∧ ∀ i v, a.tmps[i]? = some v → f i = v := by
  refine ⟨fun i => a.tmps.getD i undef, ?_, fun i v hv => by simp only [Array.getD_eq_getD_getElem?, hv]; rfl⟩
  have e : a.tmps = ((List.range 64).map fun i => a.tmps.getD i undef).toArray := by
    apply Array.ext
    · simp [h]
    · intro i h1 h2
      simp [Array.getD_eq_getD_getElem?, h1]
  cases a with
  | mk t d =>
    simp only [Act.mk.injEq, and_true]
    exact e

set_option maxRecDepth 100000 in
set_option maxHeartbeats 6400000 in
theorem walk (l : List Int) (r : List Int) (many : Int) (w : World) (hl : l.length = 8 ∧ ∀ y ∈ l, Wf y) (hr : r.length = 7 ∧ ∀ y ∈ r, Wf y) (hmany : (Lit.int .i64 many).wf = true) :
    Calls Try.prog 13 #[.agg (cis l).toArray, .agg (cis r).toArray, .int .i64 many] w fun e w' => e = .returned (.bool true) ∧ Below w.heap.size w w' := by
  obtain ⟨hl8, hlw⟩ := hl
  have hS := fun W => some_of l hl8 hlw W
  obtain ⟨a0, a1, a2, a3, a4, a5, a6, a7, rfl⟩ := eight hl8
  obtain ⟨hr8, hrw⟩ := hr
  obtain ⟨r0, r1, r2, r3, r4, r5, r6, rfl⟩ := seven hr8
  change Calls _ _ #[.agg #[.int .i64 a0, .int .i64 a1, .int .i64 a2, .int .i64 a3, .int .i64 a4, .int .i64 a5, .int .i64 a6, .int .i64 a7], .agg #[.int .i64 r0, .int .i64 r1, .int .i64 r2, .int .i64 r3, .int .i64 r4, .int .i64 r5, .int .i64 r6], .int .i64 many] _ _
  have hB0 : Blk ((w.alloc (.cells #[.int .i64 a0, .int .i64 a1, .int .i64 a2, .int .i64 a3, .int .i64 a4, .int .i64 a5, .int .i64 a6, .int .i64 a7] 45)).alloc (.cells #[.int .i64 r0, .int .i64 r1, .int .i64 r2, .int .i64 r3, .int .i64 r4, .int .i64 r5, .int .i64 r6] 53)) w.heap.size 45 (cis [a0, a1, a2, a3, a4, a5, a6, a7]) := (Blk.new rfl rfl).old _
  have hB1 : Blk ((w.alloc (.cells #[.int .i64 a0, .int .i64 a1, .int .i64 a2, .int .i64 a3, .int .i64 a4, .int .i64 a5, .int .i64 a6, .int .i64 a7] 45)).alloc (.cells #[.int .i64 r0, .int .i64 r1, .int .i64 r2, .int .i64 r3, .int .i64 r4, .int .i64 r5, .int .i64 r6] 53)) (w.heap.size + 1) 53 (cis [r0, r1, r2, r3, r4, r5, r6]) := Blk.new rfl (by simp <;> omega)
  have hbx : Below w.heap.size w ((w.alloc (.cells #[.int .i64 a0, .int .i64 a1, .int .i64 a2, .int .i64 a3, .int .i64 a4, .int .i64 a5, .int .i64 a6, .int .i64 a7] 45)).alloc (.cells #[.int .i64 r0, .int .i64 r1, .int .i64 r2, .int .i64 r3, .int .i64 r4, .int .i64 r5, .int .i64 r6] 53)) := ((Below.refl _ _).alloc (Nat.le_refl _) _).alloc (by simp <;> omega) _
  have H := Lib.hid (And.intro hbx (And.intro hS (And.intro hB0 hB1)))
  clear hS hbx hl8 hlw hB0 hB1 hr8
  go_enter Try.func13, Try.ntmps13
  go_wp2_with fail
  refine (works_any _).mono ?_
  rintro e w1 ⟨rfl, hb1⟩
  have hB0 := H.out.2.2.1.below hb1 H.out.2.2.1.lt
  have hB1 := H.out.2.2.2.below hb1 H.out.2.2.2.lt
  have hbw1 := H.out.1.trans (hb1.mono H.out.1.size)
  have k0 : w1.cell? ⟨w.heap.size, 0, none⟩ = some (.int .i64 a0) := hB0.cell rfl
  have k1 : w1.cell? ⟨w.heap.size, 1, none⟩ = some (.int .i64 a1) := hB0.cell rfl
  have k2 : w1.cell? ⟨w.heap.size, 2, none⟩ = some (.int .i64 a2) := hB0.cell rfl
  have k3 : w1.cell? ⟨w.heap.size, 3, none⟩ = some (.int .i64 a3) := hB0.cell rfl
  have k4 : w1.cell? ⟨w.heap.size, 4, none⟩ = some (.int .i64 a4) := hB0.cell rfl
  have k5 : w1.cell? ⟨w.heap.size, 5, none⟩ = some (.int .i64 a5) := hB0.cell rfl
  have k6 : w1.cell? ⟨w.heap.size, 6, none⟩ = some (.int .i64 a6) := hB0.cell rfl
  have k7 : w1.cell? ⟨w.heap.size, 7, none⟩ = some (.int .i64 a7) := hB0.cell rfl
  have HB1 := Lib.hid (And.intro hbw1 (And.intro hB0 hB1))
  have hw1s : w.heap.size + 2 ≤ w1.heap.size := by have := hb1.size; simp at this; omega
  clear hb1 hbw1 hB0 hB1
  go_wp2_with fail
  refine (H.out.2.1 w1).mono ?_
  rintro e w2 ⟨f, ns, v, hok, rfl, hO, hb2⟩
  clear k0 k1 k2 k3 k4 k5 k6 k7
  obtain ⟨A, c, rfl, hA⟩ := hO.arg (ok_wf hok)
  have hAb : ∀ b o, A = some ⟨b, o, none⟩ → w1.heap.size ≤ b := fun b o h => by subst h; exact (hO.lt b rfl).1
  obtain ⟨n, hn⟩ : ∃ n, ns.length = n := ⟨_, rfl⟩
  rw [hn] at hA
  rw [hn]
  have hbw2 := HB1.out.1.trans (hb2.mono HB1.out.1.size)
  have hBc : Blk (w2.alloc (.cells #[.int .i64 f, .slice A n c] 24)) w2.heap.size 24 [.int .i64 f, .slice A n c] := Blk.new rfl rfl
  have hbn : Below w2.heap.size w2 (w2.alloc (.cells #[.int .i64 f, .slice A n c] 24)) := (Below.refl _ _).alloc (Nat.le_refl _) _
  have hbs := hb2.trans (hbn.mono hb2.size)
  have hB0 := HB1.out.2.1.below hbs HB1.out.2.1.lt
  have hB1 := HB1.out.2.2.below hbs HB1.out.2.2.lt
  have H2 := Lib.hid (And.intro hBc (And.intro (hA.after hbn) (And.intro (hbw2.trans (hbn.mono hbw2.size)) (And.intro hok (And.intro hn (And.intro (And.intro hA (And.intro hbn (And.intro hbw2 (And.intro hAb hw1s)))) (And.intro hB0 hB1)))))))
  clear hO hA hAb hw1s hbw2 hBc hbn hbs hb2 hok hn HB1 H hB0 hB1
  have hnl := H2.out.2.2.2.2.1
  obtain ⟨⟨hf0, hf1⟩, hl3, hasc⟩ := ok_len H2.out.2.2.2.1
  rw [hnl] at hl3
  have hn7 : (n : Int) ≤ 7 := by omega
  have hn1 : (0 : Int) < n := by omega
  obtain ⟨r, hr0, hr1, hbr⟩ := bring_ex many n hn1 (by omega) hmany
  obtain ⟨q, hq⟩ : ∃ q : Nat, 1 + r = (q : Int) := ⟨(1 + r).toNat, by omega⟩
  have hw1 : IntKind.i64.wrap (1 + r) = (q : Int) := by rw [IntWalk.i64_in _ (by omega)]; exact hq
  have hq1 : 1 ≤ q := by omega
  have hqn : q ≤ n := by omega
  obtain ⟨rl, hrl⟩ : ∃ rl, [r0, r1, r2, r3, r4, r5, r6] = rl := ⟨_, rfl⟩
  have hrl7 : rl.length = 7 := by rw [← hrl]; rfl
  have hBr := H2.out.2.2.2.2.2.2.2
  rw [hrl] at hrw
  rw [hrl] at hBr
  have hRA := arr_arg hBr hrw (n := n) (by omega) (by omega)
  rw [hrl7] at hRA
  have hql : (rl.take n).length = ns.length := by rw [List.length_take, hnl]; omega
  have hrk := rank_val H2.out.2.2.2.1 hql hq1 (by rw [hnl]; exact hqn)
  have hre := rank_reached (l := rl.take n) hq1 (by rw [hql, hnl]; exact hqn)
  have hab := rank_above (l := rl.take n) hq1 (by rw [hql, hnl]; exact hqn)
  obtain ⟨x, hx⟩ : ∃ x, rankL (rl.take n) q = x := ⟨_, rfl⟩
  rw [hx] at hrk hre hab
  have k0 : (w2.alloc (.cells #[.int .i64 f, .slice A n c] 24)).cell? ⟨w2.heap.size, 0, none⟩ = some (.int .i64 f) := H2.out.1.cell rfl
  have Hr := Lib.hid (And.intro hbr (And.intro hBr (And.intro hRA (And.intro hrk (And.intro hre (And.intro hab hrl7))))))
  clear hbr hBr hRA hrk hre hab hql hx hl3 hasc hnl hrw hrl hq k0
  go_wp2_with fail
  refine (Hr.out.1 _).mono ?_
  rintro e w3 ⟨rfl, hw3⟩
  subst hw3
  have hqw : Wf (q : Int) := by simp only [Wf, Lit.wf, IntKind.min, IntKind.max, IntKind.signed, IntKind.bits]; simp; omega
  have Hq := Lib.hid hqw
  clear hqw
  go_wp2_with fail
  refine region_rule4 (P := Try.prog) 10 64 rkD rkG rkS (rkR w2.heap.size (w.heap.size + 1) f A n c q x) _ _ (by kernel_rfl) rfl rfl (by kernel_rfl) (by decide +kernel) (rk_gb w2.heap.size (w.heap.size + 1) f A n c q x) (rk_sk w2.heap.size (w.heap.size + 1) f A n c q x) (rk_on w2.heap.size (w.heap.size + 1) f A n c q x) (rk_step w2.heap.size (w.heap.size + 1) f A n c q x (by rfl) (by kernel_rfl) ns (rl.take n) rfl rfl rfl rfl H2.out.1 H2.out.2.1 Hr.out.2.2.1 hn7 Hq.out Hr.out.2.2.2.1) ?fin
  case fin =>
    intro a6 w6 hbase hbl hall
    obtain ⟨v9, hv9, hR9⟩ := hall 8 (by decide)
    have hR9' : v9 = .int .i64 x := hR9
    subst hR9'
    obtain ⟨v10, hv10, hR10⟩ := hall 9 (by decide)
    have hR10' : v10 = .int .i64 0 := hR10
    subst hR10'
    obtain ⟨g, hg, hge⟩ := lit64 a6 hbase.1
    have q7 : g 7 = .pointer (some ⟨w2.heap.size, 0, none⟩) := hge 7 _ ((hbase.2.2 7 (by decide)).trans rfl)
    have q2 : g 2 = .int .i64 q := hge 2 _ ((hbase.2.2 2 (by decide)).trans rfl)
    have q4 : g 4 = .pointer (some ⟨w.heap.size + 1, 0, none⟩) := hge 4 _ ((hbase.2.2 4 (by decide)).trans rfl)
    have q8 : g 8 = .int .i64 n := hge 8 _ ((hbase.2.2 8 (by decide)).trans rfl)
    have q9 : g 9 = .int .i64 x := hge 9 _ hv9
    have q10 : g 10 = .int .i64 0 := hge 10 _ hv10
    have hdf : a6.defers = [] := hbase.2.1
    rw [hdf, q7, q2, q4, q8, q9, q10] at hg
    rw [hg]
    have hB4 := Hr.out.2.1.below hbl Hr.out.2.1.lt
    have hb4 := H2.out.2.2.1.trans (hbl.mono H2.out.2.2.1.size)
    have H4 := Lib.hid (And.intro hB4 hb4)
    clear hall hbase hbl hv9 hR9 hv10 hR10 hge q2 q4 q7 q8 q9 q10 hdf hg hB4 hb4 a6
    go_wp2
    go_loopw [11, 12, 13] (fun v11 v12 v13 wr => ∃ j : Nat, j ≤ n ∧ v13 = .int .i64 j ∧ v11 = .int .i64 (((rl.take j).countP (fun y => decide (x ≤ y)) : Nat)) ∧ v12 = .int .i64 (((rl.take j).countP (fun y => decide (x < y)) : Nat)) ∧ wr = w6) (fun _ _ v _ => n - (intOf v).toNat)
    case atStart => exact ⟨0, Nat.zero_le _, rfl, rfl, rfl, rfl⟩
    case round =>
      obtain ⟨j, hj, rfl, rfl, rfl, hw6⟩ := hrel
      have hw6 := hw6.symm
      subst hw6
      have hi0 : (0 : Int) ≤ j := by omega
      have hc1 := List.countP_le_length (p := fun y => decide (x ≤ y)) (l := rl.take j)
      have hc2 := List.countP_le_length (p := fun y => decide (x < y)) (l := rl.take j)
      have hlt := List.length_take_le j rl
      by_cases hjn : j < n
      · have hi1 : (j : Int) < n := by omega
        have hi7 : (j : Int) < 7 := by omega
        have hjl : j < rl.length := by have := Hr.out.2.2.2.2.2.2; omega
        have hcell : w6.cell? ⟨w.heap.size + 1, j, none⟩ = some (.int .i64 rl[j]) := H4.out.1.cell (by rw [cis_get, List.getElem?_eq_getElem hjl]; rfl)
        have hs1 : (rl.take (j + 1)).countP (fun y => decide (x ≤ y)) = (rl.take j).countP (fun y => decide (x ≤ y)) + (if x ≤ rl[j] then 1 else 0) := by
          rw [List.take_succ_eq_append_getElem hjl, List.countP_append, List.countP_singleton]; simp
        have hs2 : (rl.take (j + 1)).countP (fun y => decide (x < y)) = (rl.take j).countP (fun y => decide (x < y)) + (if x < rl[j] then 1 else 0) := by
          rw [List.take_succ_eq_append_getElem hjl, List.countP_append, List.countP_singleton]; simp
        generalize rl[j] = y at *
        obtain ⟨p1, hp1⟩ : ∃ k, (rl.take j).countP (fun y => decide (x ≤ y)) = k := ⟨_, rfl⟩
        obtain ⟨p2, hp2⟩ : ∃ k, (rl.take j).countP (fun y => decide (x < y)) = k := ⟨_, rfl⟩
        rw [hp1] at hs1 hc1 ⊢
        rw [hp2] at hs2 hc2 ⊢
        have hb1 : p1 ≤ 7 := by omega
        have hb2 : p2 ≤ 7 := by omega
        have hv1 : IntKind.i64.wrap ((p1 : Int) + 1) = (p1 : Int) + 1 := IntWalk.i64_in _ (by omega)
        have hv2 : IntKind.i64.wrap ((p2 : Int) + 1) = (p2 : Int) + 1 := IntWalk.i64_in _ (by omega)
        have Hs := Lib.hid (And.intro hs1 hs2)
        clear hs1 hs2 hc1 hc2 hlt hjl hp1 hp2
        by_cases hy1 : x ≤ y
        · by_cases hy2 : x < y
          · go_wp2
            refine ⟨⟨j + 1, by omega, by go_num, by rw [Hs.out.1, if_pos hy1]; go_num, by rw [Hs.out.2, if_pos hy2]; go_num, trivial⟩, by simp [intOf]; omega⟩
          · have hy3 : y ≤ x := by omega
            go_wp2
            refine ⟨⟨j + 1, by omega, by go_num, by rw [Hs.out.1, if_pos hy1]; go_num, by rw [Hs.out.2, if_neg hy2]; go_num, trivial⟩, by simp [intOf]; omega⟩
        · have hy2 : ¬ x < y := by omega
          have hy3 : y < x := by omega
          have hy4 : y ≤ x := by omega
          go_wp2
          refine ⟨⟨j + 1, by omega, by go_num, by rw [Hs.out.1, if_neg hy1]; go_num, by rw [Hs.out.2, if_neg hy2]; go_num, trivial⟩, by simp [intOf]; omega⟩
      · have hjn' : j = n := by omega
        subst hjn'
        have hi1 : ¬ (j : Int) < j := by omega
        have hre := Hr.out.2.2.2.2.1
        have hab := Hr.out.2.2.2.2.2.1
        generalize (rl.take j).countP (fun y => decide (x ≤ y)) = p1 at *
        generalize (rl.take j).countP (fun y => decide (x < y)) = p2 at *
        have z1 : (q : Int) ≤ p1 := by omega
        have z2 : (p2 : Int) < q := by omega
        clear hre hab hc1 hc2
        go_wp2
        go_ret
        exact ⟨rfl, H4.out.2⟩

end Go.Proofs.Ytjibbbfpbflgmaa.crewRanked
