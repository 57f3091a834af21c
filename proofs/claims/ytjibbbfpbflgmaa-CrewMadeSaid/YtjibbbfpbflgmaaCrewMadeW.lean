/-
  For all arrays of numbers l and all numbers at: in whichever order the nodes of the crew that l makes are told, it is the same crew; CrewMade returns true; no condition.
-/
import Derived.Test.YtjibbbfpbflgmaaQm8
namespace Go.Proofs.Ytjibbbfpbflgmaa.crewMade
open Go.ChangeShapes Go.WideShapes Go.ChangeAt Go.RowKit Go.Shelf CrewP
set_option linter.unusedVariables false

theorem lit62 (a : Act) (h : a.tmps.size = 62) : ∃ f : Nat → Value, a = { tmps := #[f 0, f 1, f 2, f 3, f 4, f 5, f 6, f 7, f 8, f 9, f 10, f 11, f 12, f 13, f 14, f 15, f 16, f 17, f 18, f 19, f 20, f 21, f 22, f 23, f 24, f 25, f 26, f 27, f 28, f 29, f 30, f 31, f 32, f 33, f 34, f 35, f 36, f 37, f 38, f 39, f 40, f 41, f 42, f 43, f 44, f 45, f 46, f 47, f 48, f 49, f 50, f 51, f 52, f 53, f 54, f 55, f 56, f 57, f 58, f 59, f 60, f 61], defers := a.defers } ∧ ∀ i v, a.tmps[i]? = some v → f i = v := by
  refine ⟨fun i => a.tmps.getD i undef, ?_, fun i v hv => by simp only [Array.getD_eq_getD_getElem?, hv]; rfl⟩
  have e : a.tmps = ((List.range 62).map fun i => a.tmps.getD i undef).toArray := by
    apply Array.ext
    · simp [h]
    · intro i h1 h2
      simp [Array.getD_eq_getD_getElem?, h1]
  cases a with
  | mk t d =>
    simp only [Act.mk.injEq, and_true]
    exact e
theorem nthI {w : World} {A : Option Addr} {n c : Nat} {l : List Int} (h : ArgI w A n c l) {k : Nat} (hk : k < n) : ∃ b o, ∃ hl : k < l.length, A = some ⟨b, o, none⟩ ∧ b < w.heap.size ∧ w.cell? ⟨b, o + k, none⟩ = some (.int .i64 l[k]) := by
  have hl : k < l.length := by rw [h.1]; exact hk
  obtain ⟨b, o, e, hlt, hc⟩ := h.2.2.2.1.at_ hl
  exact ⟨b, o, hl, e, hlt, hc k hl⟩
theorem wf_small {f : Int} (h0 : 0 ≤ f) (h1 : f ≤ 2) : Wf f := by
  simp only [Wf, Lit.wf, IntKind.min, IntKind.max, IntKind.signed, IntKind.bits]
  simp
  omega
theorem own_row_lt {W : World} {base : Nat} {v : Value} {l : List Int} (h : OwnI W base v l) (g : Nat) (e : v.ownBlock = some g) : g < W.heap.size := by
  rcases own_blk h with ⟨e', _, _⟩ | ⟨g', cap, cs, e', hg, hBr, _⟩
  · subst e'; simp [Value.ownBlock] at e
  · subst e'
    have e2 : g' = g := by simpa [Value.ownBlock] using e
    subst e2
    exact hBr.lt

set_option maxRecDepth 100000 in
set_option maxHeartbeats 6400000 in
theorem walk (l : List Int) (ati : Int) (w : World) (hl : l.length = 8 ∧ ∀ y ∈ l, Wf y) (hati : (Lit.int .i64 ati).wf = true) :
    Calls Try.prog 12 #[.agg (cis l).toArray, .int .i64 ati] w fun e w' => e = .returned (.bool true) ∧ Below w.heap.size w w' := by
  obtain ⟨hl8, hlw⟩ := hl
  have hS := fun W => some_of l hl8 hlw W
  obtain ⟨a0, a1, a2, a3, a4, a5, a6, a7, rfl⟩ := eight hl8
  change Calls _ _ #[.agg #[.int .i64 a0, .int .i64 a1, .int .i64 a2, .int .i64 a3, .int .i64 a4, .int .i64 a5, .int .i64 a6, .int .i64 a7], .int .i64 ati] _ _
  have hB0 : Blk (w.alloc (.cells #[.int .i64 a0, .int .i64 a1, .int .i64 a2, .int .i64 a3, .int .i64 a4, .int .i64 a5, .int .i64 a6, .int .i64 a7] 45)) w.heap.size 45 (cis [a0, a1, a2, a3, a4, a5, a6, a7]) := Blk.new rfl rfl
  have hbx : Below w.heap.size w (w.alloc (.cells #[.int .i64 a0, .int .i64 a1, .int .i64 a2, .int .i64 a3, .int .i64 a4, .int .i64 a5, .int .i64 a6, .int .i64 a7] 45)) := (Below.refl _ _).alloc (Nat.le_refl _) _
  have H := Lib.hid (And.intro hbx (And.intro hS hB0))
  clear hS hbx hl8 hlw hB0 
  go_enter Try.func12, Try.ntmps12
  go_wp2_with fail
  refine (works_any _).mono ?_
  rintro e w1 ⟨rfl, hb1⟩
  have hB0 := H.out.2.2.below hb1 H.out.2.2.lt
  have hbw1 := H.out.1.trans (hb1.mono H.out.1.size)
  have k0 : w1.cell? ⟨w.heap.size, 0, none⟩ = some (.int .i64 a0) := hB0.cell rfl
  have k1 : w1.cell? ⟨w.heap.size, 1, none⟩ = some (.int .i64 a1) := hB0.cell rfl
  have k2 : w1.cell? ⟨w.heap.size, 2, none⟩ = some (.int .i64 a2) := hB0.cell rfl
  have k3 : w1.cell? ⟨w.heap.size, 3, none⟩ = some (.int .i64 a3) := hB0.cell rfl
  have k4 : w1.cell? ⟨w.heap.size, 4, none⟩ = some (.int .i64 a4) := hB0.cell rfl
  have k5 : w1.cell? ⟨w.heap.size, 5, none⟩ = some (.int .i64 a5) := hB0.cell rfl
  have k6 : w1.cell? ⟨w.heap.size, 6, none⟩ = some (.int .i64 a6) := hB0.cell rfl
  have k7 : w1.cell? ⟨w.heap.size, 7, none⟩ = some (.int .i64 a7) := hB0.cell rfl
  have HB1 := Lib.hid (And.intro hbw1 hB0)
  have hw1s : w.heap.size + 1 ≤ w1.heap.size := by have := hb1.size; simp at this; omega
  clear hb1 hbw1 hB0
  go_wp2_with fail
  refine (H.out.2.1 w1).mono ?_
  rintro e w2 ⟨f, ns, v, hok, rfl, hO, hb2⟩
  clear k0 k1 k2 k3 k4 k5 k6 k7
  obtain ⟨A, c, rfl, hA⟩ := hO.arg (ok_wf hok)
  have hAb : ∀ b o, A = some ⟨b, o, none⟩ → w1.heap.size ≤ b := fun b o h => by subst h; exact (hO.lt b rfl).1
  obtain ⟨n, hn⟩ : ∃ n, ns.length = n := ⟨_, rfl⟩
  rw [hn] at hA
  rw [hn]
  have hbw2 := HB1.out.1.trans (hb2.mono HB1.out.1.size)
  have hBc : Blk (w2.alloc (.cells #[.int .i64 f, .slice A n c] 24)) w2.heap.size 24 [.int .i64 f, .slice A n c] := Blk.new rfl rfl
  have hbn : Below w2.heap.size w2 (w2.alloc (.cells #[.int .i64 f, .slice A n c] 24)) := (Below.refl _ _).alloc (Nat.le_refl _) _
  have hbs := hb2.trans (hbn.mono hb2.size)
  have hB0 := HB1.out.2.below hbs HB1.out.2.lt
  have H2 := Lib.hid (And.intro hBc (And.intro (hA.after hbn) (And.intro (hbw2.trans (hbn.mono hbw2.size)) (And.intro hok (And.intro hn (And.intro (And.intro hA (And.intro hbn (And.intro hbw2 (And.intro hAb hw1s)))) hB0))))))
  clear hO hA hAb hw1s hbw2 hBc hbn hbs hb2 hok hn HB1 H hB0
  have hnl := H2.out.2.2.2.2.1
  obtain ⟨⟨hf0, hf1⟩, hl3, hasc⟩ := ok_len H2.out.2.2.2.1
  rw [hnl] at hl3
  have hn7 : n ≤ 7 := by omega
  have hn1 : (0 : Int) < n := by omega
  obtain ⟨r, hr0, hr1, hbr⟩ := bring_ex ati n hn1 (by omega) hati
  obtain ⟨k, rfl⟩ : ∃ k : Nat, r = (k : Int) := ⟨r.toNat, by omega⟩
  have hkn : k ≤ n := by omega
  have Hr := Lib.hid (And.intro hbr (And.intro hl3 hnl))
  have k1 : (w2.alloc (.cells #[.int .i64 f, .slice A n c] 24)).cell? ⟨w2.heap.size, 1, none⟩ = some (.slice A n c) := H2.out.1.cell rfl
  clear hbr hnl hl3 hasc
  go_wp2_with fail
  refine (Hr.out.1 _).mono ?_
  rintro e w3 ⟨rfl, hw3⟩
  have hC : Blk w3 w2.heap.size 24 [.int .i64 f, .slice A n c] := by rw [hw3]; exact H2.out.1
  have hA : ArgI w3 A n c ns := by rw [hw3]; exact H2.out.2.1
  have hb : Below w.heap.size w w3 := by rw [hw3]; exact H2.out.2.2.1
  have hnc := hA.2.1
  have H3 := Lib.hid (And.intro hC (And.intro hA (And.intro hb hnc)))
  clear hw3 hC hA hb k1 hnc
  go_wp2_with fail
  refine region_rule6 (P := Try.prog) 11 62 0 qaK qaD (qaR w3 w2.heap.size f A n c k ns) (fun w => Below (w3).heap.size (w3) w ∧ qaX w3 w2.heap.size f A n c k ns w) _ _ (by kernel_rfl) rfl rfl (by kernel_rfl) (by decide +kernel) (by decide +kernel) ⟨(Below.refl _ _).drew, trivial⟩ (fun x h1 h2 => absurd h2 (by omega)) (qa_step w3 w2.heap.size f A n c k ns (by rfl) (by rfl) (by decide +kernel) (by kernel_rfl) rfl rfl H3.out.1 H3.out.2.1 hkn hn7 H3.out.2.2.2) ?fin
  case fin =>
    intro a6 w6 hbase hI hall
    have hbl := hI.1
    obtain ⟨v7, hv7, hR7⟩ := hall 10 (by decide) (by decide)
    have hR7' : OwnI w6 w3.heap.size v7 (ns.drop k ++ ns.take k) := hR7
    have hperm : (ns.drop k ++ ns.take k).Perm ns := List.perm_append_comm.trans (by rw [List.take_append_drop])
    have htl : (ns.drop k ++ ns.take k).length = n := hperm.length_eq.trans Hr.out.2.2
    obtain ⟨tl, et⟩ : ∃ tl, ns.drop k ++ ns.take k = tl := ⟨_, rfl⟩
    rw [et] at hR7' hperm htl
    have hwt : ∀ x ∈ tl, Wf x := fun x hx => ok_wf H2.out.2.2.2.1 x (hperm.mem_iff.1 hx)
    obtain ⟨At, ct, rfl, hAt⟩ := hR7'.arg hwt
    rw [htl] at hR7' hAt
    obtain ⟨g, hg, hge⟩ := lit62 a6 hbase.1
    have q5 : g 5 = .pointer (some ⟨w2.heap.size, 0, none⟩) := hge 5 _ ((hbase.2.2 5 (by decide)).trans rfl)
    have q7 := hge 7 _ hv7
    have hdf : a6.defers = [] := hbase.2.1
    rw [htl] at hv7 q7
    rw [hdf, q5, q7] at hg
    rw [hg]
    have hC := H3.out.1.below hbl H3.out.1.lt
    have hAA := H3.out.2.1.after hbl
    have hb := H3.out.2.2.1.trans (hbl.mono H3.out.2.2.1.size)
    have hM := make_any f At n ct tl w6 hAt (wf_small hf0 hf1)
    rw [make_ex hperm H2.out.2.2.2.1] at hM
    have hlt6 : ∀ g, Value.ownBlock (.slice At n ct) = some g → g < w6.heap.size := fun g e => (own_row_lt hR7' g e)
    have k0 : w6.cell? ⟨w2.heap.size, 0, none⟩ = some (.int .i64 f) := hC.cell rfl
    have H4 := Lib.hid (And.intro hC (And.intro hAA (And.intro hb (And.intro hM (And.intro hbl (And.intro hR7' (And.intro hlt6 (And.intro hperm (And.intro htl hwt)))))))))
    clear hall hbase hbl hI hv7 hR7 hge q7 q5 hdf hg hC hAA hb hM hR7' hlt6 hAt hperm htl hwt et a6
    go_wp2_with fail
    refine H4.out.2.2.2.1.mono ?_
    rintro e w7 ⟨v8, he, hN⟩
    subst he
    obtain ⟨Ad, cd, rfl, hAd⟩ := hN.own.arg (ok_wf H2.out.2.2.2.1)
    have hOd := hN.own
    rw [Hr.out.2.2] at hAd hOd
    rw [Hr.out.2.2]
    have hbn : Below w7.heap.size w7 (w7.alloc (.cells #[.int .i64 f, .slice Ad n cd] 24)) := (Below.refl _ _).alloc (Nat.le_refl _) _
    have hBd : Blk (w7.alloc (.cells #[.int .i64 f, .slice Ad n cd] 24)) w7.heap.size 24 [.int .i64 f, .slice Ad n cd] := Blk.new rfl rfl
    have hbs := hN.2.trans (hbn.mono hN.2.size)
    have h36 := H4.out.2.2.2.2.1
    have h38 := h36.trans (hbs.mono h36.size)
    have hOt := own_below H4.out.2.2.2.2.2.1 hbs
    obtain ⟨bA, oA, hl0, hA0, hltA, hcA⟩ := nthI H3.out.2.1 (k := 0) (by omega)
    subst hA0
    obtain ⟨x0, hx0⟩ : ∃ x, ns[0] = x := ⟨_, rfl⟩
    rw [hx0, Nat.add_zero] at hcA
    have hwf8 : ∀ x ∈ tl ++ [x0], Wf x := fun x hx => by
      rcases List.mem_append.1 hx with h | h
      · exact H4.out.2.2.2.2.2.2.2.2.2 x h
      · rw [List.mem_singleton.1 h, ← hx0]; exact ok_wf H2.out.2.2.2.1 _ (List.getElem_mem hl0)
    have hmk : makeR f (tl ++ [x0]) = (0, [], 2) := by
      have h1 := H4.out.2.2.2.2.2.2.2.2.1
      have h2 := Hr.out.2.1
      unfold makeR
      rw [if_neg]
      rw [Bool.and_eq_true, sizeOk_iff, List.length_append, h1]
      rintro ⟨⟨_, _, h⟩, _⟩
      simp at h
      omega
    have hs67 := hN.2.size
    obtain ⟨W8, hW8⟩ : ∃ W, w7.alloc (.cells #[.int .i64 f, .slice Ad n cd] 24) = W := ⟨_, rfl⟩
    have hs8 : w7.heap.size < W8.heap.size := by rw [← hW8]; simp
    rw [hW8] at hbn hBd hbs h38 hOt
    have hOd8 := own_below hOd hbn
    have h3s : w3.heap.size ≤ W8.heap.size := h38.size
    have H5 := Lib.hid (And.intro hBd (And.intro hOd8 (And.intro h38 (And.intro hOt (And.intro hltA (And.intro hcA (And.intro hwf8 (And.intro hmk (And.intro hs8 h3s)))))))))
    have HW := Lib.hid hW8
    clear hN hAd hOd hbn hBd hbs h36 h38 hOt hltA hcA hx0 hl0 hwf8 hmk hs67 hW8 hOd8 hs8 h3s k0
    go_wp2_with fail
    rw [HW.out]
    have hE16 := Lib.hid (show OwnI W8.drew w3.heap.size (.slice At n ct) tl from own_below H5.out.2.2.2.1 (Below.refl _ _).drew)
    have hE17 := Lib.hid (show OwnI W8.drew w6.heap.size (.slice Ad n cd) ns ∧ Blk W8.drew w7.heap.size 24 [.int .i64 f, .slice Ad n cd] from ⟨own_below H5.out.2.1 (Below.refl _ _).drew, H5.out.1.below (Below.refl _ _).drew H5.out.1.lt⟩)
    refine region_rule6 (P := Try.prog) 16 62 2 qbK qbD (qbR w3 w2.heap.size f bA oA n c At ct tl x0 W8.heap.size w7.heap.size w6.heap.size Ad cd ns) (fun w => Below (w3).heap.size (w3) w ∧ qbX w3 w2.heap.size f bA oA n c At ct tl x0 W8.heap.size w7.heap.size w6.heap.size Ad cd ns w) _ _ (by kernel_rfl) rfl rfl (by kernel_rfl) (by decide +kernel) (by decide +kernel) ⟨H5.out.2.2.1.drew, Nat.le_refl _⟩ (fun x h1 h2 => by
      have hx : x = 16 ∨ x = 17 := by omega
      rcases hx with rfl | rfl
      · exact ⟨_, rfl, hE16.out, rfl⟩
      · exact ⟨_, rfl, hE17.out⟩) (qb_step w3 w2.heap.size f bA oA n c At ct tl x0 W8.heap.size w7.heap.size w6.heap.size Ad cd ns (by rfl) (by rfl) (by decide +kernel) rfl rfl H3.out.1 hn1 H5.out.2.2.2.2.1 H5.out.2.2.2.2.2.1 hn7 H4.out.2.2.2.2.2.2.2.2.1 H5.out.2.2.2.2.2.2.1 (wf_small hf0 hf1) H5.out.2.2.2.2.2.2.2.1 H4.out.2.2.2.2.2.2.1 H5.out.2.2.2.2.2.2.2.2.1 H5.out.2.2.2.2.2.2.2.2.2) ?fin
    case fin =>
      intro a8 w8 hbase hI hall
      have hbl := hI.1
      obtain ⟨v17, hv17, hOd, hBd⟩ := hall 17 (by decide) (by decide)
      obtain ⟨v11, hv11, hR11⟩ := hall 15 (by decide) (by decide)
      have hR11' : v11 = .int .i64 2 := hR11
      subst hR11'
      obtain ⟨g, hg, hge⟩ := lit62 a8 hbase.1
      have q5 : g 5 = .pointer (some ⟨w2.heap.size, 0, none⟩) := hge 5 _ ((hbase.2.2 5 (by decide)).trans rfl)
      have q8 : g 8 = .pointer (some ⟨w7.heap.size, 0, none⟩) := hge 8 _ ((hbase.2.2 8 (by decide)).trans rfl)
      have q9 : g 9 = .int .i64 0 := hge 9 _ ((hbase.2.2 9 (by decide)).trans rfl)
      have q11 : g 11 = .int .i64 2 := hge 11 _ hv11
      have hdf : a8.defers = [] := hbase.2.1
      rw [hdf, q5, q8, q9, q11] at hg
      rw [hg]
      obtain ⟨A9, c9, e9, hA9⟩ := OwnI.arg hOd (ok_wf H2.out.2.2.2.1)
      rw [Hr.out.2.2] at e9 hA9
      injection e9 with e91 e92 e93
      subst e91 e93
      have H6 := Lib.hid (And.intro (H3.out.1.below hbl H3.out.1.lt) (And.intro hBd (And.intro (H3.out.2.1.after hbl) (And.intro hA9 (H3.out.2.2.1.trans (hbl.mono H3.out.2.2.1.size))))))
      clear hall hbase hbl hI hv17 hv11 hR11 hge q5 q8 q9 q11 hdf hg hOd hBd hA9 a8
      have d0 : w8.cell? ⟨w2.heap.size, 0, none⟩ = some (.int .i64 f) := H6.out.1.cell rfl
      have d1 : w8.cell? ⟨w2.heap.size, 1, none⟩ = some (.slice (some ⟨bA, oA, none⟩) n c) := H6.out.1.cell rfl
      have d2 : w8.cell? ⟨w7.heap.size, 0, none⟩ = some (.int .i64 f) := H6.out.2.1.cell rfl
      have d3 : w8.cell? ⟨w7.heap.size, 1, none⟩ = some (.slice Ad n cd) := H6.out.2.1.cell rfl
      have hS := same_any f f (some ⟨bA, oA, none⟩) Ad n n c cd ns ns w8 H6.out.2.2.1 H6.out.2.2.2.1
      rw [show decide (f = f ∧ ns = ns) = true by simp] at hS
      have HS := Lib.hid hS
      clear hS
      go_wp2_with fail
      refine HS.out.mono ?_
      rintro e w9 ⟨rfl, hb9⟩
      clear d0 d1 d2 d3
      go_wp2
      go_ret
      exact ⟨rfl, H6.out.2.2.2.2.trans (hb9.mono H6.out.2.2.2.2.size)⟩

end Go.Proofs.Ytjibbbfpbflgmaa.crewMade
