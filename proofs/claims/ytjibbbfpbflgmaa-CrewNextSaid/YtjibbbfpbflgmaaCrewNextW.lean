/-
  For all arrays of numbers l and b and all numbers a: most of the crew that l makes, and most of the crew with another node, have f in common at least; CrewNext returns true; no condition.
-/
import Derived.Test.YtjibbbfpbflgmaaNx8
namespace Go.Proofs.Ytjibbbfpbflgmaa.crewNext
open Go.ChangeShapes Go.WideShapes Go.ChangeAt Go.RowKit Go.Shelf CrewP
set_option linter.unusedVariables false

theorem lit92 (a : Act) (h : a.tmps.size = 92) : ∃ f : Nat → Value, a = { tmps := #[f 0, f 1, f 2, f 3, f 4, f 5, f 6, f 7, f 8, f 9, f 10, f 11, f 12, f 13, f 14, f 15, f 16, f 17, f 18, f 19, f 20, f 21, f 22, f 23, f 24, f 25, f 26, f 27, f 28, f 29, f 30, f 31, f 32, f 33, f 34, f 35, f 36, f 37, f 38, f 39, f 40, f 41, f 42, f 43, f 44, f 45, f 46, f 47, f 48, f 49, f 50, f 51, f 52, f 53, f 54, f 55, f 56, f 57, f 58, f 59, f 60, f 61, f 62, f 63, f 64, f 65, f 66, f 67, f 68, f 69, f 70, f 71, f 72, f 73, f 74, f 75, f 76, f 77, f 78, f 79, f 80, f 81, f 82, f 83, f 84, f 85, f 86, f 87, f 88, f 89, f 90, f 91], defers := a.defers } ∧ ∀ i v, a.tmps[i]? = some v → f i = v := by
  refine ⟨fun i => a.tmps.getD i undef, ?_, fun i v hv => by simp only [Array.getD_eq_getD_getElem?, hv]; rfl⟩
  have e : a.tmps = ((List.range 92).map fun i => a.tmps.getD i undef).toArray := by
    apply Array.ext
    · simp [h]
    · intro i h1 h2
      simp [Array.getD_eq_getD_getElem?, h1]
  cases a with
  | mk t d =>
    simp only [Act.mk.injEq, and_true]
    exact e
theorem nthI {w : World} {A : Option Addr} {n c : Nat} {l : List Int} (h : ArgI w A n c l) {k : Nat} (hk : k < n) : ∃ b o, ∃ hl : k < l.length, A = some ⟨b, o, none⟩ ∧ b < w.heap.size ∧ w.cell? ⟨b, o + k, none⟩ = some (.int .i64 l[k]) := by
  have hl : k < l.length := by rw [h.1]; exact hk
  obtain ⟨b, o, e, hlt, hc⟩ := h.2.2.2.1.at_ hl
  exact ⟨b, o, hl, e, hlt, hc k hl⟩
theorem take_cnt (X Y : List Int) {i : Nat} (h : i < X.length) : (X.take (i + 1)).countP (fun z => decide (z ∈ Y)) = (X.take i).countP (fun z => decide (z ∈ Y)) + (if X[i] ∈ Y then 1 else 0) := by
  rw [List.take_succ_eq_append_getElem h, List.countP_append, List.countP_singleton]
  simp
theorem take_has (Y : List Int) {k : Nat} (h : k < Y.length) (x : Int) : x ∈ Y.take (k + 1) ↔ x ∈ Y.take k ∨ x = Y[k] := by
  rw [List.take_succ_eq_append_getElem h, List.mem_append, List.mem_singleton]

set_option maxRecDepth 100000 in
set_option maxHeartbeats 6400000 in
theorem walk (l : List Int) (a : Int) (b : List Int) (w : World) (hl : l.length = 8 ∧ ∀ y ∈ l, Wf y) (ha : (Lit.int .i64 a).wf = true) (hb : b.length = 3 ∧ ∀ y ∈ b, Wf y) :
    Calls Try.prog 9 #[.agg (cis l).toArray, .int .i64 a, .agg (cis b).toArray] w fun e w' => e = .returned (.bool true) ∧ Below w.heap.size w w' := by
  obtain ⟨hl8, hlw⟩ := hl
  have hS := fun W => some_of l hl8 hlw W
  obtain ⟨a0, a1, a2, a3, a4, a5, a6, a7, rfl⟩ := eight hl8
  obtain ⟨hb8, hbw⟩ := hb
  obtain ⟨b0, b1, b2, rfl⟩ := three hb8
  change Calls _ _ #[.agg #[.int .i64 a0, .int .i64 a1, .int .i64 a2, .int .i64 a3, .int .i64 a4, .int .i64 a5, .int .i64 a6, .int .i64 a7], .int .i64 a, .agg #[.int .i64 b0, .int .i64 b1, .int .i64 b2]] _ _
  have hB0 : Blk ((w.alloc (.cells #[.int .i64 a0, .int .i64 a1, .int .i64 a2, .int .i64 a3, .int .i64 a4, .int .i64 a5, .int .i64 a6, .int .i64 a7] 45)).alloc (.cells #[.int .i64 b0, .int .i64 b1, .int .i64 b2] 49)) w.heap.size 45 (cis [a0, a1, a2, a3, a4, a5, a6, a7]) := (Blk.new rfl rfl).old _
  have hB1 : Blk ((w.alloc (.cells #[.int .i64 a0, .int .i64 a1, .int .i64 a2, .int .i64 a3, .int .i64 a4, .int .i64 a5, .int .i64 a6, .int .i64 a7] 45)).alloc (.cells #[.int .i64 b0, .int .i64 b1, .int .i64 b2] 49)) (w.heap.size + 1) 49 (cis [b0, b1, b2]) := Blk.new rfl (by simp <;> omega)
  have hbx : Below w.heap.size w ((w.alloc (.cells #[.int .i64 a0, .int .i64 a1, .int .i64 a2, .int .i64 a3, .int .i64 a4, .int .i64 a5, .int .i64 a6, .int .i64 a7] 45)).alloc (.cells #[.int .i64 b0, .int .i64 b1, .int .i64 b2] 49)) := ((Below.refl _ _).alloc (Nat.le_refl _) _).alloc (by simp <;> omega) _
  have H := Lib.hid (And.intro hbx (And.intro hS (And.intro hB0 hB1)))
  clear hS hbx hl8 hlw hB0 hB1 hb8
  go_enter Try.func9, Try.ntmps9
  go_wp2_with fail
  refine (works_any _).mono ?_
  rintro e w1 ⟨rfl, hb1⟩
  have hB0 := H.out.2.2.1.below hb1 H.out.2.2.1.lt
  have hB1 := H.out.2.2.2.below hb1 H.out.2.2.2.lt
  have hbw1 := H.out.1.trans (hb1.mono H.out.1.size)
  have k0 : w1.cell? ⟨w.heap.size, 0, none⟩ = some (.int .i64 a0) := hB0.cell rfl
  have k1 : w1.cell? ⟨w.heap.size, 1, none⟩ = some (.int .i64 a1) := hB0.cell rfl
  have k2 : w1.cell? ⟨w.heap.size, 2, none⟩ = some (.int .i64 a2) := hB0.cell rfl
  have k3 : w1.cell? ⟨w.heap.size, 3, none⟩ = some (.int .i64 a3) := hB0.cell rfl
  have k4 : w1.cell? ⟨w.heap.size, 4, none⟩ = some (.int .i64 a4) := hB0.cell rfl
  have k5 : w1.cell? ⟨w.heap.size, 5, none⟩ = some (.int .i64 a5) := hB0.cell rfl
  have k6 : w1.cell? ⟨w.heap.size, 6, none⟩ = some (.int .i64 a6) := hB0.cell rfl
  have k7 : w1.cell? ⟨w.heap.size, 7, none⟩ = some (.int .i64 a7) := hB0.cell rfl
  have HB1 := Lib.hid (And.intro hbw1 (And.intro hB0 hB1))
  have hw1s : w.heap.size + 2 ≤ w1.heap.size := by have := hb1.size; simp at this; omega
  clear hb1 hbw1 hB0 hB1
  go_wp2_with fail
  refine (H.out.2.1 w1).mono ?_
  rintro e w2 ⟨f, ns, v, hok, rfl, hO, hb2⟩
  clear k0 k1 k2 k3 k4 k5 k6 k7
  obtain ⟨A, c, rfl, hA⟩ := hO.arg (ok_wf hok)
  have hAb : ∀ b o, A = some ⟨b, o, none⟩ → w1.heap.size ≤ b := fun b o h => by subst h; exact (hO.lt b rfl).1
  obtain ⟨n, hn⟩ : ∃ n, ns.length = n := ⟨_, rfl⟩
  rw [hn] at hA
  rw [hn]
  have hbw2 := HB1.out.1.trans (hb2.mono HB1.out.1.size)
  have hBc : Blk (w2.alloc (.cells #[.int .i64 f, .slice A n c] 24)) w2.heap.size 24 [.int .i64 f, .slice A n c] := Blk.new rfl rfl
  have hbn : Below w2.heap.size w2 (w2.alloc (.cells #[.int .i64 f, .slice A n c] 24)) := (Below.refl _ _).alloc (Nat.le_refl _) _
  have hbs := hb2.trans (hbn.mono hb2.size)
  have hB0 := HB1.out.2.1.below hbs HB1.out.2.1.lt
  have hB1 := HB1.out.2.2.below hbs HB1.out.2.2.lt
  have H2 := Lib.hid (And.intro hBc (And.intro (hA.after hbn) (And.intro (hbw2.trans (hbn.mono hbw2.size)) (And.intro hok (And.intro hn (And.intro (And.intro hA (And.intro hbn (And.intro hbw2 (And.intro hAb hw1s)))) (And.intro hB0 hB1)))))))
  clear hO hA hAb hw1s hbw2 hBc hbn hbs hb2 hok hn HB1 H hB0 hB1
  have hnl := H2.out.2.2.2.2.1
  obtain ⟨⟨hf0, hf1⟩, hl3, hasc⟩ := ok_len H2.out.2.2.2.1
  rw [hnl] at hl3
  have hn7 : n ≤ 7 := by omega
  have hn1 : (0 : Int) < n := by omega
  have hb0w : Wf b0 := hbw _ (by simp)
  have hb2w : Wf b2 := hbw _ (by simp)
  obtain ⟨r, hr0, hr1, hbr⟩ := bring_ex b1 n hn1 (by omega) (hbw _ (by simp))
  obtain ⟨k, rfl⟩ : ∃ k : Nat, r = (k : Int) := ⟨r.toNat, by omega⟩
  obtain ⟨bA, oA, hkl, rfl, hltA, hcA⟩ := nthI H2.out.2.1 (k := k) (by omega)
  have hold := List.getElem_mem hkl
  obtain ⟨old, hod⟩ : ∃ x, ns[k] = x := ⟨_, rfl⟩
  rw [hod] at hcA hold
  have Hr := Lib.hid (And.intro hbr (And.intro hltA (And.intro hcA (And.intro hold (And.intro hl3 (And.intro hasc (And.intro hb0w hb2w)))))))
  clear hbr hltA hcA hod hold hkl hnl hl3 hasc hb0w hb2w hbw
  go_wp2_with fail
  refine region_rule4 (P := Try.prog) 11 92 naD naG naS (naR w2.heap.size (w.heap.size + 1) f bA oA n c k b0 b1 b2 old) _ _ (by kernel_rfl) rfl rfl (by kernel_rfl) (by decide +kernel) (na_gb w2.heap.size (w.heap.size + 1) f bA oA n c k b0 b1 b2 old) (na_sk w2.heap.size (w.heap.size + 1) f bA oA n c k b0 b1 b2 old) (na_on w2.heap.size (w.heap.size + 1) f bA oA n c k b0 b1 b2 old) (na_step w2.heap.size (w.heap.size + 1) f bA oA n c k b0 b1 b2 old (by rfl) (by kernel_rfl) rfl rfl H2.out.1 H2.out.2.2.2.2.2.2.2 Hr.out.1 hr0 hr1 Hr.out.2.1 Hr.out.2.2.1) ?fin
  case fin =>
    intro a6 w6 hbase hbl hall
    obtain ⟨v8, hv8, hR8⟩ := hall 10 (by decide)
    have hR8' : v8 = .int .i64 old := hR8
    subst hR8'
    obtain ⟨g, hg, hge⟩ := lit92 a6 hbase.1
    have q7 : g 7 = .pointer (some ⟨w2.heap.size, 0, none⟩) := hge 7 _ ((hbase.2.2 7 (by decide)).trans rfl)
    have q5 : g 5 = .pointer (some ⟨w.heap.size + 1, 0, none⟩) := hge 5 _ ((hbase.2.2 5 (by decide)).trans rfl)
    have q1 : g 1 = .int .i64 a := hge 1 _ ((hbase.2.2 1 (by decide)).trans rfl)
    have q8 : g 8 = .int .i64 old := hge 8 _ hv8
    have hdf : a6.defers = [] := hbase.2.1
    rw [hdf, q7, q5, q1, q8] at hg
    rw [hg]
    have hC := H2.out.1.below hbl H2.out.1.lt
    have hA := H2.out.2.1.after hbl
    have hbb := H2.out.2.2.1.trans (hbl.mono H2.out.2.2.1.size)
    have hBx := H2.out.2.2.2.2.2.2.2.below hbl H2.out.2.2.2.2.2.2.2.lt
    obtain ⟨r2, hs0, hs1, hbr2⟩ := bring_ex b2 28 (by decide) (by decide) Hr.out.2.2.2.2.2.2.2
    obtain ⟨x, hx⟩ : ∃ x, 1 + r2 = x := ⟨_, rfl⟩
    have hw1 : IntKind.i64.wrap (1 + r2) = x := by rw [IntWalk.i64_in _ (by omega)]; exact hx
    have hxw : Wf x := by simp only [Wf, Lit.wf, IntKind.min, IntKind.max, IntKind.signed, IntKind.bits]; simp; omega
    have hxN : isN x = true := (isN_iff x).2 ⟨by omega, by omega⟩
    have H3 := Lib.hid (And.intro hC (And.intro hA (And.intro hbb (And.intro hBx (And.intro hbr2 (And.intro hxN (And.intro hxw hw1)))))))
    clear hall hbase hbl hv8 hR8 hge q7 q5 q1 q8 hdf hg hC hA hbb hBx hbr2 hxN hxw hw1 a6 hx
    obtain ⟨F, L, E, hrr⟩ : ∃ F L E, replaceR f ns old x = (F, L, E) := ⟨_, _, _, rfl⟩
    have Hrr := Lib.hid hrr
    clear hrr
    go_wp2_with fail
    refine region_rule5 (P := Try.prog) 13 92 nbD (nbR w6 w2.heap.size (w.heap.size + 1) f (some ⟨bA, oA, none⟩) n c b0 b1 b2 old r2 x F E L) (fun w => Below (w6).heap.size (w6) w ∧ nbX w6 w2.heap.size (w.heap.size + 1) f (some ⟨bA, oA, none⟩) n c b0 b1 b2 old r2 x F E L w) _ _ (by kernel_rfl) rfl rfl (by kernel_rfl) (by decide +kernel) ⟨(Below.refl _ _).drew, trivial⟩ (nb_step w6 w2.heap.size (w.heap.size + 1) f (some ⟨bA, oA, none⟩) n c b0 b1 b2 old r2 x F E L (by rfl) (by rfl) (by kernel_rfl) rfl rfl rfl ns H3.out.1 H3.out.2.2.2.1 H3.out.2.1 (ok_wf H2.out.2.2.2.1) H3.out.2.2.2.2.2.2.1 H3.out.2.2.2.2.1 H3.out.2.2.2.2.2.2.2 Hrr.out) ?fin
    case fin =>
      intro a7 w7 hbase hI hall
      have hbl := hI.1
      obtain ⟨v9, hv9, hR9⟩ := hall 11 (by decide)
      obtain ⟨gd, V, hR9', hBd, hOd, hgd⟩ : ∃ g V, v9 = .pointer (some ⟨g, 0, none⟩) ∧ Blk w7 g 24 [.int .i64 F, V] ∧ OwnI w7 w6.heap.size V L ∧ w6.heap.size ≤ g := hR9
      subst hR9'
      obtain ⟨v10, hv10, hR10⟩ := hall 12 (by decide)
      have hR10' : v10 = .int .i64 E := hR10
      subst hR10'
      obtain ⟨g, hg, hge⟩ := lit92 a7 hbase.1
      have q7 : g 7 = .pointer (some ⟨w2.heap.size, 0, none⟩) := hge 7 _ ((hbase.2.2 7 (by decide)).trans rfl)
      have q5 : g 5 = .pointer (some ⟨w.heap.size + 1, 0, none⟩) := hge 5 _ ((hbase.2.2 5 (by decide)).trans rfl)
      have q1 : g 1 = .int .i64 a := hge 1 _ ((hbase.2.2 1 (by decide)).trans rfl)
      have q9 : g 9 = .pointer (some ⟨gd, 0, none⟩) := hge 9 _ hv9
      have q10 : g 10 = .int .i64 E := hge 10 _ hv10
      have hdf : a7.defers = [] := hbase.2.1
      rw [hdf, q7, q5, q1, q9, q10] at hg
      rw [hg]
      have hC := H3.out.1.below hbl H3.out.1.lt
      have hA := H3.out.2.1.after hbl
      have hbb := H3.out.2.2.1.trans (hbl.mono H3.out.2.2.1.size)
      have hBx := H3.out.2.2.2.1.below hbl H3.out.2.2.2.1.lt
      have H4 := Lib.hid (And.intro hC (And.intro hA (And.intro hbb (And.intro hBx (And.intro hBd hOd)))))
      clear hall hbase hbl hI hv9 hv10 hR10 hge q7 q5 q1 q9 q10 hdf hg hC hA hbb hBx hBd hOd hgd a7
      by_cases hxn : x ∈ ns
      · have e : replaceR f ns old x = (0, [], 110) := by simp [replaceR, H2.out.2.2.2.1, H3.out.2.2.2.2.2.1, hxn]
        rw [Hrr.out] at e
        have hE : E = 110 := congrArg (fun t => t.2.2) e
        clear e
        subst hE
        go_wp2
        go_ret
        exact ⟨rfl, H4.out.2.2.1⟩
      · have hrr : replaceR f ns old x = (f, repL ns old x, 0) := by simp [replaceR, H2.out.2.2.2.1, H3.out.2.2.2.2.2.1, hxn, Hr.out.2.2.2.1]
        rw [Hrr.out] at hrr
        have hF : F = f := congrArg (fun t => t.1) hrr
        have hL : L = repL ns old x := congrArg (fun t => t.2.1) hrr
        have hE : E = 0 := congrArg (fun t => t.2.2) hrr
        clear hrr
        subst hF hE
        have hokd : okC F L = true := by rw [hL]; exact rep_ok H2.out.2.2.2.1 Hr.out.2.2.2.1 hxn H3.out.2.2.2.2.2.1
        have hdl : L.length = n := by rw [hL, rep_len Hr.out.2.2.2.2.2.1 Hr.out.2.2.2.1 hxn]; exact H2.out.2.2.2.2.1
        obtain ⟨Ad, cd, rfl, hAd⟩ := H4.out.2.2.2.2.2.arg (ok_wf hokd)
        rw [hdl] at hAd
        have hBd := H4.out.2.2.2.2.1
        rw [hdl] at hBd
        have hmo : mostR F ns = 2 * F + 1 := by unfold mostR; rw [if_pos H2.out.2.2.2.1]
        have hmd : mostR F L = 2 * F + 1 := by unfold mostR; rw [if_pos hokd]
        have hv1 : ∀ l, votesR F ns l = votesL ns l := fun l => by unfold votesR; rw [if_pos H2.out.2.2.2.1]
        have hv2 : ∀ l, votesR F L l = votesL L l := fun l => by unfold votesR; rw [if_pos hokd]
        have hmeet := meet_next Hr.out.2.2.2.2.2.1 Hr.out.2.2.2.1 hxn (x := pick (bitB a) ns n) (y := pick (bitB b0) L n) (pick_asc _ Hr.out.2.2.2.2.2.1 n (by rw [H2.out.2.2.2.2.1]; omega)) (pick_mem _ ns n (by rw [H2.out.2.2.2.2.1]; omega))
        rw [← hL, H2.out.2.2.2.2.1, ← hv1, ← hv2] at hmeet
        have H5 := Lib.hid (And.intro hBd (And.intro hAd (And.intro hokd (And.intro hdl (And.intro hmo (And.intro hmd hmeet))))))
        clear hBd hAd hokd hdl hmo hmd hmeet hv1 hv2 hL hxn
        go_wp2_with fail
        refine region_rule4 (P := Try.prog) 9 92 ncD ncG ncS (ncR w2.heap.size gd (w.heap.size + 1) F (some ⟨bA, oA, none⟩) Ad n c cd ns L a b0 b1 b2) _ _ (by kernel_rfl) rfl rfl (by kernel_rfl) (by decide +kernel) (nc_gb w2.heap.size gd (w.heap.size + 1) F (some ⟨bA, oA, none⟩) Ad n c cd ns L a b0 b1 b2) (nc_sk w2.heap.size gd (w.heap.size + 1) F (some ⟨bA, oA, none⟩) Ad n c cd ns L a b0 b1 b2) (nc_on w2.heap.size gd (w.heap.size + 1) F (some ⟨bA, oA, none⟩) Ad n c cd ns L a b0 b1 b2) (nc_step w2.heap.size gd (w.heap.size + 1) F (some ⟨bA, oA, none⟩) Ad n c cd ns L a b0 b1 b2 (by rfl) (by kernel_rfl) rfl rfl rfl rfl H4.out.1 H5.out.1 H4.out.2.1 H5.out.2.1 H2.out.2.2.2.1 H5.out.2.2.1 hn7 H4.out.2.2.2.1 ha Hr.out.2.2.2.2.2.2.1) ?fin
        case fin =>
          intro a8 w8 hbase hbl hall
          obtain ⟨v11, hv11, hR11⟩ := hall 7 (by decide)
          have hR11' : ListV w8 v11 (pick (bitB a) ns n) := hR11
          obtain ⟨A11, c11, rfl, hA11⟩ := hR11'
          have hn11 := pick_le (bitB a) ns n
          obtain ⟨v12, hv12, hR12⟩ := hall 8 (by decide)
          have hR12' : ListV w8 v12 (pick (bitB b0) L n) := hR12
          obtain ⟨A12, c12, rfl, hA12⟩ := hR12'
          have hn12 := pick_le (bitB b0) L n
          obtain ⟨g, hg, hge⟩ := lit92 a8 hbase.1
          have q7 : g 7 = .pointer (some ⟨w2.heap.size, 0, none⟩) := hge 7 _ ((hbase.2.2 7 (by decide)).trans rfl)
          have q9 : g 9 = .pointer (some ⟨gd, 0, none⟩) := hge 9 _ ((hbase.2.2 9 (by decide)).trans rfl)
          have q11 : g 11 = .slice A11 _ c11 := hge 11 _ hv11
          have q12 : g 12 = .slice A12 _ c12 := hge 12 _ hv12
          have hdf : a8.defers = [] := hbase.2.1
          rw [hdf, q7, q9, q11, q12] at hg
          rw [hg]
          have H6 := Lib.hid (And.intro (H4.out.1.below hbl H4.out.1.lt) (And.intro (H4.out.2.1.after hbl) (And.intro (H4.out.2.2.1.trans (hbl.mono H4.out.2.2.1.size)) (And.intro (H5.out.1.below hbl H5.out.1.lt) (And.intro (H5.out.2.1.after hbl) (And.intro hA11 hA12))))))
          obtain ⟨X, hX⟩ : ∃ X, pick (bitB a) ns n = X := ⟨_, rfl⟩
          obtain ⟨Y, hY⟩ : ∃ Y, pick (bitB b0) L n = Y := ⟨_, rfl⟩
          have hmeet := H5.out.2.2.2.2.2.2
          rw [hX, hY] at H6 hmeet
          rw [hX] at hn11 ⊢
          rw [hY] at hn12 ⊢
          obtain ⟨nx, ex⟩ : ∃ k, X.length = k := ⟨_, rfl⟩
          obtain ⟨ny, ey⟩ : ∃ k, Y.length = k := ⟨_, rfl⟩
          rw [ex, ey] at H6
          rw [ex] at hn11 ⊢
          rw [ey] at hn12 ⊢
          obtain ⟨m, hm⟩ : ∃ m : Nat, mostR F ns = m := ⟨(mostR F ns).toNat, by have := H5.out.2.2.2.2.1; omega⟩
          have hmd : mostR F L = m := by rw [← hm, H5.out.2.2.2.2.1, H5.out.2.2.2.2.2.1]
          have hmF : (m : Int) = 2 * F + 1 := by rw [← hm]; exact H5.out.2.2.2.2.1
          obtain ⟨p, hp⟩ : ∃ p, votesR F ns X = p := ⟨_, rfl⟩
          obtain ⟨q, hq⟩ : ∃ q, votesR F L Y = q := ⟨_, rfl⟩
          rw [hp, hq] at hmeet
          have Hv := Lib.hid (And.intro hm (And.intro hmd (And.intro hp (And.intro hq (And.intro hmeet (And.intro hmF (And.intro ex ey)))))))
          have hx7 : nx ≤ 7 := by omega
          have hy7 : ny ≤ 7 := by omega
          clear hall hbase hbl hv11 hv12 hR11 hR12 hge q7 q9 q11 q12 hdf hA11 hA12 hn11 hn12 hg a8 hX hY ex ey hm hmd hmF hp hq hmeet
          go_wp2_with fail
          by_cases z1 : (p : Int) < m
          · refine region_rule4 (P := Try.prog) 14 92 ndD ndG ndS (ndR w2.heap.size gd F (some ⟨bA, oA, none⟩) Ad n c cd ns L A11 A12 nx c11 ny c12 m p q) _ _ (by kernel_rfl) rfl rfl (by kernel_rfl) (by decide +kernel) (nd_gb w2.heap.size gd F (some ⟨bA, oA, none⟩) Ad n c cd ns L A11 A12 nx c11 ny c12 m p q) (nd_sk w2.heap.size gd F (some ⟨bA, oA, none⟩) Ad n c cd ns L A11 A12 nx c11 ny c12 m p q) (nd_on w2.heap.size gd F (some ⟨bA, oA, none⟩) Ad n c cd ns L A11 A12 nx c11 ny c12 m p q) (nd_step w2.heap.size gd F (some ⟨bA, oA, none⟩) Ad n c cd ns L A11 A12 nx c11 ny c12 m p q (by rfl) (by kernel_rfl) rfl rfl rfl rfl X Y H6.out.1 H6.out.2.2.2.1 H6.out.2.1 H6.out.2.2.2.2.1 H2.out.2.2.2.1 H5.out.2.2.1 hn7 H6.out.2.2.2.2.2.1 H6.out.2.2.2.2.2.2 Hv.out.1 Hv.out.2.1 (by rw [Hv.out.2.2.1]) (by rw [Hv.out.2.2.2.1]) z1) ?fin
            case fin =>
              intro a9 w9 hbase hbl hall
              obtain ⟨v64, hv64, hR64⟩ := hall 13 (by decide)
              have hR64' : v64 = .bool true := hR64
              subst hR64'
              obtain ⟨kk, hkk, hkke⟩ := lit92 a9 hbase.1
              have q7 : kk 7 = .pointer (some ⟨w2.heap.size, 0, none⟩) := hkke 7 _ ((hbase.2.2 7 (by decide)).trans rfl)
              have q11 : kk 11 = .slice A11 nx c11 := hkke 11 _ ((hbase.2.2 11 (by decide)).trans rfl)
              have q12 : kk 12 = .slice A12 ny c12 := hkke 12 _ ((hbase.2.2 12 (by decide)).trans rfl)
              have q64 : kk 64 = .bool true := hkke 64 _ hv64
              have hdf : a9.defers = [] := hbase.2.1
              rw [hdf, q7, q11, q12, q64] at hkk
              rw [hkk]
              clear hkk hkke
              go_wp2
              go_ret
              exact ⟨rfl, H6.out.2.2.1.trans (hbl.mono H6.out.2.2.1.size)⟩
          · by_cases z2 : (q : Int) < m
            · refine region_rule4 (P := Try.prog) 14 92 neD neG neS (neR w2.heap.size gd F (some ⟨bA, oA, none⟩) Ad n c cd ns L A11 A12 nx c11 ny c12 m p q) _ _ (by kernel_rfl) rfl rfl (by kernel_rfl) (by decide +kernel) (ne_gb w2.heap.size gd F (some ⟨bA, oA, none⟩) Ad n c cd ns L A11 A12 nx c11 ny c12 m p q) (ne_sk w2.heap.size gd F (some ⟨bA, oA, none⟩) Ad n c cd ns L A11 A12 nx c11 ny c12 m p q) (ne_on w2.heap.size gd F (some ⟨bA, oA, none⟩) Ad n c cd ns L A11 A12 nx c11 ny c12 m p q) (ne_step w2.heap.size gd F (some ⟨bA, oA, none⟩) Ad n c cd ns L A11 A12 nx c11 ny c12 m p q (by rfl) (by kernel_rfl) rfl rfl rfl rfl X Y H6.out.1 H6.out.2.2.2.1 H6.out.2.1 H6.out.2.2.2.2.1 H2.out.2.2.2.1 H5.out.2.2.1 hn7 H6.out.2.2.2.2.2.1 H6.out.2.2.2.2.2.2 Hv.out.1 Hv.out.2.1 (by rw [Hv.out.2.2.1]) (by rw [Hv.out.2.2.2.1]) z1 z2) ?fin
              case fin =>
                intro a9 w9 hbase hbl hall
                obtain ⟨v64, hv64, hR64⟩ := hall 13 (by decide)
                have hR64' : v64 = .bool true := hR64
                subst hR64'
                obtain ⟨kk, hkk, hkke⟩ := lit92 a9 hbase.1
                have q7 : kk 7 = .pointer (some ⟨w2.heap.size, 0, none⟩) := hkke 7 _ ((hbase.2.2 7 (by decide)).trans rfl)
                have q11 : kk 11 = .slice A11 nx c11 := hkke 11 _ ((hbase.2.2 11 (by decide)).trans rfl)
                have q12 : kk 12 = .slice A12 ny c12 := hkke 12 _ ((hbase.2.2 12 (by decide)).trans rfl)
                have q64 : kk 64 = .bool true := hkke 64 _ hv64
                have hdf : a9.defers = [] := hbase.2.1
                rw [hdf, q7, q11, q12, q64] at hkk
                rw [hkk]
                clear hkk hkke
                go_wp2
                go_ret
                exact ⟨rfl, H6.out.2.2.1.trans (hbl.mono H6.out.2.2.1.size)⟩
            · refine region_rule4 (P := Try.prog) 14 92 nfD nfG nfS (nfR w2.heap.size gd F (some ⟨bA, oA, none⟩) Ad n c cd ns L A11 A12 nx c11 ny c12 m p q) _ _ (by kernel_rfl) rfl rfl (by kernel_rfl) (by decide +kernel) (nf_gb w2.heap.size gd F (some ⟨bA, oA, none⟩) Ad n c cd ns L A11 A12 nx c11 ny c12 m p q) (nf_sk w2.heap.size gd F (some ⟨bA, oA, none⟩) Ad n c cd ns L A11 A12 nx c11 ny c12 m p q) (nf_on w2.heap.size gd F (some ⟨bA, oA, none⟩) Ad n c cd ns L A11 A12 nx c11 ny c12 m p q) (nf_step w2.heap.size gd F (some ⟨bA, oA, none⟩) Ad n c cd ns L A11 A12 nx c11 ny c12 m p q (by rfl) (by kernel_rfl) rfl rfl rfl rfl X Y H6.out.1 H6.out.2.2.2.1 H6.out.2.1 H6.out.2.2.2.2.1 H2.out.2.2.2.1 H5.out.2.2.1 hn7 H6.out.2.2.2.2.2.1 H6.out.2.2.2.2.2.2 Hv.out.1 Hv.out.2.1 (by rw [Hv.out.2.2.1]) (by rw [Hv.out.2.2.2.1]) z1 z2) ?fin
              case fin =>
                intro a9 w9 hbase hbl hall
                obtain ⟨v64, hv64, hR64⟩ := hall 13 (by decide)
                have hR64' : v64 = .bool false := hR64
                subst hR64'
                obtain ⟨kk, hkk, hkke⟩ := lit92 a9 hbase.1
                have q7 : kk 7 = .pointer (some ⟨w2.heap.size, 0, none⟩) := hkke 7 _ ((hbase.2.2 7 (by decide)).trans rfl)
                have q11 : kk 11 = .slice A11 nx c11 := hkke 11 _ ((hbase.2.2 11 (by decide)).trans rfl)
                have q12 : kk 12 = .slice A12 ny c12 := hkke 12 _ ((hbase.2.2 12 (by decide)).trans rfl)
                have q64 : kk 64 = .bool false := hkke 64 _ hv64
                have hdf : a9.defers = [] := hbase.2.1
                rw [hdf, q7, q11, q12, q64] at hkk
                rw [hkk]
                have hmF := Hv.out.2.2.2.2.2.1
                have hl3 := Hr.out.2.2.2.2.1
                have hme := Hv.out.2.2.2.2.1
                obtain ⟨cnt, hcnt⟩ : ∃ k, X.countP (fun z => decide (z ∈ Y)) = k := ⟨_, rfl⟩
                rw [hcnt] at hme
                have hfin : F ≤ cnt := by omega
                have H7 := Lib.hid (And.intro (H6.out.1.below hbl H6.out.1.lt) (And.intro (H6.out.2.2.1.trans (hbl.mono H6.out.2.2.1.size)) (And.intro (H6.out.2.2.2.2.2.1.after hbl) (And.intro (H6.out.2.2.2.2.2.2.after hbl) (And.intro hcnt hfin)))))
                clear hkk hkke hbl hbase hall hmF hl3 hme hcnt hfin z1 z2 hv64 hR64 hdf q7 q11 q12 q64 a9
                go_wp2
                go_loopw [13, 14] (fun v13 v14 wr => ∃ i t : Nat, i ≤ nx ∧ v14 = .int .i64 i ∧ v13 = .int .i64 t ∧ t ≤ i * 7 ∧ (X.take i).countP (fun z => decide (z ∈ Y)) ≤ t ∧ Below w9.heap.size w9 wr) (fun _ v _ => nx - (intOf v).toNat)
                case atStart => exact ⟨0, 0, Nat.zero_le _, rfl, rfl, by omega, by simp, Below.refl _ _⟩
                case round =>
                  obtain ⟨i, t, hi, rfl, rfl, ht, hct, hbw⟩ := hrel
                  have hi0 : (0 : Int) ≤ i := by omega
                  by_cases hin : i < nx
                  · have hi1 : (i : Int) < nx := by omega
                    obtain ⟨bX, oX, hiX, hAX, hltX, hcX⟩ := nthI H7.out.2.2.1 (k := i) hin
                    subst hAX
                    have hcs := take_cnt X Y hiX
                    obtain ⟨xi, hxi⟩ : ∃ xi, X[i] = xi := ⟨_, rfl⟩
                    rw [hxi] at hcX hcs
                    have hcX9 := Lib.hid hcX
                    clear hcX
                    have Hc := Lib.hid (And.intro hcs (And.intro hct hxi))
                    clear hcs hct hxi
                    go_wp2
                    go_loopw [13, 15] (fun v13 v15 ws => ∃ j s : Nat, j ≤ ny ∧ v15 = .int .i64 j ∧ v13 = .int .i64 s ∧ s ≤ t + j ∧ t + (if xi ∈ Y.take j then 1 else 0) ≤ s ∧ Below w9.heap.size w9 ws) (fun _ v _ => ny - (intOf v).toNat)
                    case atStart => exact ⟨0, t, Nat.zero_le _, rfl, rfl, by omega, by simp, hbw⟩
                    case round =>
                      obtain ⟨j, s, hj, rfl, rfl, hs, hcs, hbs⟩ := hrel
                      have hcX := (hbs.cell (p := ⟨bX, oX + i, none⟩) hltX).trans hcX9.out
                      have hj0 : (0 : Int) ≤ j := by omega
                      by_cases hjn : j < ny
                      · have hj1 : (j : Int) < ny := by omega
                        obtain ⟨bY, oY, hjY, rfl, hltY, hcY⟩ := nthI (H7.out.2.2.2.1.after hbs) (k := j) hjn
                        have hth := take_has Y hjY xi
                        obtain ⟨yj, hyj⟩ : ∃ yj, Y[j] = yj := ⟨_, rfl⟩
                        rw [hyj] at hcY hth
                        have hws : IntKind.i64.wrap ((s : Int) + 1) = (s : Int) + 1 := IntWalk.i64_in _ (by omega)
                        have Hy := Lib.hid (And.intro hth (And.intro hs hcs))
                        clear hth hyj hltY hs hcs
                        by_cases hxy : xi = yj
                        · go_wp2_with fail
                          go_quiet (fail)
                          go_wp2
                          refine ⟨⟨j + 1, s + 1, by omega, by go_num, by go_num, by have := Hy.out.2.1; omega, by have := Hy.out.2.2; have := Hy.out.2.1; split <;> (split at * <;> omega), below_drewN hbs _⟩, by simp [intOf]; omega⟩
                        · go_wp2_with fail
                          go_quiet (fail)
                          go_wp2
                          refine ⟨⟨j + 1, s, by omega, by go_num, rfl, by have := Hy.out.2.1; omega, by
                            have h1 := Hy.out.2.2
                            have h2 : (xi ∈ Y.take (j + 1)) ↔ xi ∈ Y.take j := Hy.out.1.trans ⟨fun h => h.resolve_right hxy, .inl⟩
                            simp only [h2]
                            exact h1, below_drewN hbs _⟩, by simp [intOf]; omega⟩
                      · have hjn' : j = ny := by omega
                        subst hjn'
                        have hj1 : ¬ (j : Int) < j := by omega
                        have hYj : Y.take j = Y := by rw [← Hv.out.2.2.2.2.2.2.2]; exact List.take_length
                        rw [hYj] at hcs
                        have h1 := Hc.out.1
                        have h2 := Hc.out.2.1
                        have hnew : (X.take (i + 1)).countP (fun z => decide (z ∈ Y)) ≤ s := by omega
                        clear hYj h1 h2 hcs
                        go_wp2
                        exact ⟨⟨i + 1, s, by omega, by go_num, rfl, by omega, hnew, hbs⟩, by simp [intOf]; omega⟩
                  · have hin' : i = nx := by omega
                    subst hin'
                    have hi1 : ¬ (i : Int) < i := by omega
                    have hXi : X.take i = X := by rw [← Hv.out.2.2.2.2.2.2.1]; exact List.take_length
                    rw [hXi, H7.out.2.2.2.2.1] at hct
                    have hge : F ≤ (t : Int) := by have := H7.out.2.2.2.2.2; omega
                    have k0 : wr.cell? ⟨w2.heap.size, 0, none⟩ = some (.int .i64 F) := (H7.out.1.below hbw H7.out.1.lt).cell rfl
                    clear hct hXi ht
                    go_wp2
                    go_ret
                    exact ⟨rfl, H7.out.2.1.trans (hbw.mono H7.out.2.1.size)⟩

end Go.Proofs.Ytjibbbfpbflgmaa.crewNext
