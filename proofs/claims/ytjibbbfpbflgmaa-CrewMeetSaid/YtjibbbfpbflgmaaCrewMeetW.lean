/-
  For all arrays of numbers l and numbers a, b: two sets of most of the crew that l makes have some in common; CrewMeet returns true; no condition.
-/
import Derived.Test.YtjibbbfpbflgmaaMt8
namespace Go.Proofs.Ytjibbbfpbflgmaa.crewMeet
open Go.ChangeShapes Go.WideShapes Go.ChangeAt Go.RowKit Go.Shelf CrewP
set_option linter.unusedVariables false

theorem lit54 (a : Act) (h : a.tmps.size = 54) : ∃ f : Nat → Value, a = { tmps := #[f 0, f 1, f 2, f 3, f 4, f 5, f 6, f 7, f 8, f 9, f 10, f 11, f 12, f 13, f 14, f 15, f 16, f 17, f 18, f 19, f 20, f 21, f 22, f 23, f 24, f 25, f 26, f 27, f 28, f 29, f 30, f 31, f 32, f 33, f 34, f 35, f 36, f 37, f 38, f 39, f 40, f 41, f 42, f 43, f 44, f 45, f 46, f 47, f 48, f 49, f 50, f 51, f 52, f 53], defers := a.defers } ∧ ∀ i v, a.tmps[i]? = some v → f i = v := by
  refine ⟨fun i => a.tmps.getD i undef, ?_, fun i v hv => by simp only [Array.getD_eq_getD_getElem?, hv]; rfl⟩
  have e : a.tmps = ((List.range 54).map fun i => a.tmps.getD i undef).toArray := by
    apply Array.ext
    · simp [h]
    · intro i h1 h2
      simp [Array.getD_eq_getD_getElem?, h1]
  cases a with
  | mk t d =>
    simp only [Act.mk.injEq, and_true]
    exact e
theorem pick_same {p q : Nat → Bool} (l : List Int) (n : Nat) (h : ∀ i, i < n → p i = q i) : pick p l n = pick q l n := by
  unfold pick
  congr 1
  exact List.filter_congr fun i hi => h i (List.mem_range.1 hi)
theorem wf_bits (x y : Int) : Wf (bits .and .i64 x y) := by
  have h1 := bits_lo_i64 .and x y
  have h2 := bits_hi_i64 .and x y
  simp only [Wf, Lit.wf, IntKind.min, IntKind.max, IntKind.signed, IntKind.bits]
  simp
  omega

set_option maxRecDepth 100000 in
set_option maxHeartbeats 6400000 in
theorem walk (l : List Int) (a : Int) (b : Int) (w : World) (hl : l.length = 8 ∧ ∀ y ∈ l, Wf y) (ha : (Lit.int .i64 a).wf = true) (hb : (Lit.int .i64 b).wf = true) :
    Calls Try.prog 7 #[.agg (cis l).toArray, .int .i64 a, .int .i64 b] w fun e w' => e = .returned (.bool true) ∧ Below w.heap.size w w' := by
  obtain ⟨hl8, hlw⟩ := hl
  have hS := fun W => some_of l hl8 hlw W
  obtain ⟨a0, a1, a2, a3, a4, a5, a6, a7, rfl⟩ := eight hl8
  change Calls _ _ #[.agg #[.int .i64 a0, .int .i64 a1, .int .i64 a2, .int .i64 a3, .int .i64 a4, .int .i64 a5, .int .i64 a6, .int .i64 a7], .int .i64 a, .int .i64 b] _ _
  have hB0 : Blk (w.alloc (.cells #[.int .i64 a0, .int .i64 a1, .int .i64 a2, .int .i64 a3, .int .i64 a4, .int .i64 a5, .int .i64 a6, .int .i64 a7] 45)) w.heap.size 45 (cis [a0, a1, a2, a3, a4, a5, a6, a7]) := Blk.new rfl rfl
  have hbx : Below w.heap.size w (w.alloc (.cells #[.int .i64 a0, .int .i64 a1, .int .i64 a2, .int .i64 a3, .int .i64 a4, .int .i64 a5, .int .i64 a6, .int .i64 a7] 45)) := (Below.refl _ _).alloc (Nat.le_refl _) _
  have H := Lib.hid (And.intro hbx (And.intro hS hB0))
  clear hS hbx hl8 hlw hB0 
  go_enter Try.func7, Try.ntmps7
  go_wp2_with fail
  refine (works_any _).mono ?_
  rintro e w1 ⟨rfl, hb1⟩
  have hB0 := H.out.2.2.below hb1 H.out.2.2.lt
  have hbw1 := H.out.1.trans (hb1.mono H.out.1.size)
  have k0 : w1.cell? ⟨w.heap.size, 0, none⟩ = some (.int .i64 a0) := hB0.cell rfl
  have k1 : w1.cell? ⟨w.heap.size, 1, none⟩ = some (.int .i64 a1) := hB0.cell rfl
  have k2 : w1.cell? ⟨w.heap.size, 2, none⟩ = some (.int .i64 a2) := hB0.cell rfl
  have k3 : w1.cell? ⟨w.heap.size, 3, none⟩ = some (.int .i64 a3) := hB0.cell rfl
  have k4 : w1.cell? ⟨w.heap.size, 4, none⟩ = some (.int .i64 a4) := hB0.cell rfl
  have k5 : w1.cell? ⟨w.heap.size, 5, none⟩ = some (.int .i64 a5) := hB0.cell rfl
  have k6 : w1.cell? ⟨w.heap.size, 6, none⟩ = some (.int .i64 a6) := hB0.cell rfl
  have k7 : w1.cell? ⟨w.heap.size, 7, none⟩ = some (.int .i64 a7) := hB0.cell rfl
  have HB1 := Lib.hid (And.intro hbw1 hB0)
  have hw1s : w.heap.size + 1 ≤ w1.heap.size := by have := hb1.size; simp at this; omega
  clear hb1 hbw1 hB0
  go_wp2_with fail
  refine (H.out.2.1 w1).mono ?_
  rintro e w2 ⟨f, ns, v, hok, rfl, hO, hb2⟩
  clear k0 k1 k2 k3 k4 k5 k6 k7
  obtain ⟨A, c, rfl, hA⟩ := hO.arg (ok_wf hok)
  have hAb : ∀ b o, A = some ⟨b, o, none⟩ → w1.heap.size ≤ b := fun b o h => by subst h; exact (hO.lt b rfl).1
  obtain ⟨n, hn⟩ : ∃ n, ns.length = n := ⟨_, rfl⟩
  rw [hn] at hA
  rw [hn]
  have hbw2 := HB1.out.1.trans (hb2.mono HB1.out.1.size)
  have hBc : Blk (w2.alloc (.cells #[.int .i64 f, .slice A n c] 24)) w2.heap.size 24 [.int .i64 f, .slice A n c] := Blk.new rfl rfl
  have hbn : Below w2.heap.size w2 (w2.alloc (.cells #[.int .i64 f, .slice A n c] 24)) := (Below.refl _ _).alloc (Nat.le_refl _) _
  have hbs := hb2.trans (hbn.mono hb2.size)
  have hB0 := HB1.out.2.below hbs HB1.out.2.lt
  have H2 := Lib.hid (And.intro hBc (And.intro (hA.after hbn) (And.intro (hbw2.trans (hbn.mono hbw2.size)) (And.intro hok (And.intro hn (And.intro (And.intro hA (And.intro hbn (And.intro hbw2 (And.intro hAb hw1s)))) hB0))))))
  clear hO hA hAb hw1s hbw2 hBc hbn hbs hb2 hok hn HB1 H hB0
  have hnl := H2.out.2.2.2.2.1
  obtain ⟨⟨hf0, hf1⟩, hl3, hasc⟩ := ok_len H2.out.2.2.2.1
  rw [hnl] at hl3
  have hn7 : n ≤ 7 := by omega
  obtain ⟨z, hz⟩ : ∃ z, bits .and .i64 a b = z := ⟨_, rfl⟩
  have hmo : mostR f ns = 2 * f + 1 := by unfold mostR; rw [if_pos H2.out.2.2.2.1]
  have hso : someR f ns = f + 1 := by unfold someR; rw [if_pos H2.out.2.2.2.1]
  have hvo : ∀ l, votesR f ns l = votesL ns l := fun l => by unfold votesR; rw [if_pos H2.out.2.2.2.1]
  have hmeet := meet hasc (bitB a) (bitB b)
  have hps : pick (bitB z) ns n = pick (fun i => bitB a i && bitB b i) ns n := pick_same ns n (fun i hi => by rw [← hz]; exact bit_and a b (by omega))
  rw [hnl, ← hps] at hmeet
  have hlen := pick_len (bitB z) ns n
  have hvz := votes_pick (bitB z) hasc
  rw [hnl, ← hlen] at hvz
  have Hz := Lib.hid (And.intro hz (And.intro hmo (And.intro hso (And.intro hvo (And.intro hmeet hvz)))))
  have Hl := Lib.hid (And.intro hl3 hnl)
  clear hps hz hmo hso hvo hmeet hvz hlen hasc hnl hl3
  go_wp2_with fail
  refine region_rule4 (P := Try.prog) 14 54 maD maG maS (maR w2.heap.size f A n c ns a b z) _ _ (by kernel_rfl) rfl rfl (by kernel_rfl) (by decide +kernel) (ma_gb w2.heap.size f A n c ns a b z) (ma_sk w2.heap.size f A n c ns a b z) (ma_on w2.heap.size f A n c ns a b z) (ma_step w2.heap.size f A n c ns a b z (by rfl) (by kernel_rfl) rfl rfl rfl H2.out.1 H2.out.2.1 H2.out.2.2.2.1 hn7 ha hb (by rw [← Hz.out.1]; exact wf_bits a b) Hz.out.1) ?fin
  case fin =>
    intro a6 w6 hbase hbl hall
    obtain ⟨v8, hv8, hR8⟩ := hall 11 (by decide)
    have hR8' : ListV w6 v8 (pick (bitB a) ns n) := hR8
    obtain ⟨A8, c8, rfl, hA8⟩ := hR8'
    have hn8 := pick_le (bitB a) ns n
    obtain ⟨v9, hv9, hR9⟩ := hall 12 (by decide)
    have hR9' : ListV w6 v9 (pick (bitB b) ns n) := hR9
    obtain ⟨A9, c9, rfl, hA9⟩ := hR9'
    have hn9 := pick_le (bitB b) ns n
    obtain ⟨v10, hv10, hR10⟩ := hall 13 (by decide)
    have hR10' : ListV w6 v10 (pick (bitB z) ns n) := hR10
    obtain ⟨A10, c10, rfl, hA10⟩ := hR10'
    have hn10 := pick_le (bitB z) ns n
    obtain ⟨g, hg, hge⟩ := lit54 a6 hbase.1
    have q7 : g 7 = .pointer (some ⟨w2.heap.size, 0, none⟩) := hge 7 _ ((hbase.2.2 7 (by decide)).trans rfl)
    have q8 : g 8 = .slice A8 _ c8 := hge 8 _ hv8
    have q9 : g 9 = .slice A9 _ c9 := hge 9 _ hv9
    have q10 : g 10 = .slice A10 _ c10 := hge 10 _ hv10
    have hdf : a6.defers = [] := hbase.2.1
    rw [hdf, q7, q8, q9, q10] at hg
    rw [hg]
    have H3 := Lib.hid (And.intro (H2.out.1.below hbl H2.out.1.lt) (And.intro (H2.out.2.1.after hbl) (And.intro (H2.out.2.2.1.trans (hbl.mono H2.out.2.2.1.size)) (And.intro hA8 (And.intro hA9 hA10)))))
    have HL := Lib.hid (show (pick (bitB a) ns n).length ≤ n ∧ (pick (bitB b) ns n).length ≤ n ∧ (pick (bitB z) ns n).length ≤ n from ⟨hn8, hn9, hn10⟩)
    obtain ⟨n8, e8⟩ : ∃ k, (pick (bitB a) ns n).length = k := ⟨_, rfl⟩
    obtain ⟨n9, e9⟩ : ∃ k, (pick (bitB b) ns n).length = k := ⟨_, rfl⟩
    obtain ⟨n10, e10⟩ : ∃ k, (pick (bitB z) ns n).length = k := ⟨_, rfl⟩
    rw [e8, e9, e10] at H3
    rw [e8, e9, e10]
    rw [e10] at Hz
    obtain ⟨m, hm⟩ : ∃ m : Nat, mostR f ns = m := ⟨(mostR f ns).toNat, by rw [Hz.out.2.1]; omega⟩
    obtain ⟨m2, hm2⟩ : ∃ m : Nat, someR f ns = m := ⟨(someR f ns).toNat, by rw [Hz.out.2.2.1]; omega⟩
    have Hm := Lib.hid (And.intro hm hm2)
    obtain ⟨p, hp⟩ : ∃ p, votesR f ns (pick (bitB a) ns n) = p := ⟨_, rfl⟩
    obtain ⟨q, hq⟩ : ∃ q, votesR f ns (pick (bitB b) ns n) = q := ⟨_, rfl⟩
    obtain ⟨r, hr⟩ : ∃ r, votesR f ns (pick (bitB z) ns n) = r := ⟨_, rfl⟩
    have Hv := Lib.hid (And.intro hp (And.intro hq hr))
    clear hall hbase hbl hv8 hv9 hv10 hR8 hR9 hR10 hge q7 q8 q9 q10 hdf hA8 hA9 hA10 hn8 hn9 hn10 hg a6 e8 e9 e10 hm hm2 hp hq hr
    go_wp2_with fail
    by_cases z1 : (p : Int) < m
    · refine region_rule4 (P := Try.prog) 14 54 mbD mbG mbS (mbR w2.heap.size f A n c ns A8 A9 n8 c8 n9 c9 m p q) _ _ (by kernel_rfl) rfl rfl (by kernel_rfl) (by decide +kernel) (mb_gb w2.heap.size f A n c ns A8 A9 n8 c8 n9 c9 m p q) (mb_sk w2.heap.size f A n c ns A8 A9 n8 c8 n9 c9 m p q) (mb_on w2.heap.size f A n c ns A8 A9 n8 c8 n9 c9 m p q) (mb_step w2.heap.size f A n c ns A8 A9 n8 c8 n9 c9 m p q (by rfl) (by kernel_rfl) rfl rfl rfl (pick (bitB a) ns n) (pick (bitB b) ns n) H3.out.1 H3.out.2.1 H2.out.2.2.2.1 hn7 H3.out.2.2.2.1 H3.out.2.2.2.2.1 Hm.out.1 (by rw [Hv.out.1]) (by rw [Hv.out.2.1]) z1) ?fin
      case fin =>
        intro a' w7 hbase hbl hall
        obtain ⟨v39, hv39, hR39⟩ := hall 13 (by decide)
        have hR39' : v39 = .bool true := hR39
        subst hR39'
        obtain ⟨k, hk, hke⟩ := lit54 a' hbase.1
        have q7 : k 7 = .pointer (some ⟨w2.heap.size, 0, none⟩) := hke 7 _ ((hbase.2.2 7 (by decide)).trans rfl)
        have q10 : k 10 = .slice A10 n10 c10 := hke 10 _ ((hbase.2.2 10 (by decide)).trans rfl)
        have q39 : k 39 = .bool true := hke 39 _ hv39
        have hdf : a'.defers = [] := hbase.2.1
        rw [hdf, q7, q10, q39] at hk
        rw [hk]
        clear hk hke
        go_wp2
        go_ret
        exact ⟨rfl, H3.out.2.2.1.trans (hbl.mono H3.out.2.2.1.size)⟩
    · by_cases z2 : (q : Int) < m
      · refine region_rule4 (P := Try.prog) 14 54 mcD mcG mcS (mcR w2.heap.size f A n c ns A8 A9 n8 c8 n9 c9 m p q) _ _ (by kernel_rfl) rfl rfl (by kernel_rfl) (by decide +kernel) (mc_gb w2.heap.size f A n c ns A8 A9 n8 c8 n9 c9 m p q) (mc_sk w2.heap.size f A n c ns A8 A9 n8 c8 n9 c9 m p q) (mc_on w2.heap.size f A n c ns A8 A9 n8 c8 n9 c9 m p q) (mc_step w2.heap.size f A n c ns A8 A9 n8 c8 n9 c9 m p q (by rfl) (by kernel_rfl) rfl rfl rfl (pick (bitB a) ns n) (pick (bitB b) ns n) H3.out.1 H3.out.2.1 H2.out.2.2.2.1 hn7 H3.out.2.2.2.1 H3.out.2.2.2.2.1 Hm.out.1 (by rw [Hv.out.1]) (by rw [Hv.out.2.1]) z1 z2) ?fin
        case fin =>
          intro a' w7 hbase hbl hall
          obtain ⟨v39, hv39, hR39⟩ := hall 13 (by decide)
          have hR39' : v39 = .bool true := hR39
          subst hR39'
          obtain ⟨k, hk, hke⟩ := lit54 a' hbase.1
          have q7 : k 7 = .pointer (some ⟨w2.heap.size, 0, none⟩) := hke 7 _ ((hbase.2.2 7 (by decide)).trans rfl)
          have q10 : k 10 = .slice A10 n10 c10 := hke 10 _ ((hbase.2.2 10 (by decide)).trans rfl)
          have q39 : k 39 = .bool true := hke 39 _ hv39
          have hdf : a'.defers = [] := hbase.2.1
          rw [hdf, q7, q10, q39] at hk
          rw [hk]
          clear hk hke
          go_wp2
          go_ret
          exact ⟨rfl, H3.out.2.2.1.trans (hbl.mono H3.out.2.2.1.size)⟩
      · refine region_rule4 (P := Try.prog) 14 54 mdD mdG mdS (mdR w2.heap.size f A n c ns A8 A9 n8 c8 n9 c9 m p q) _ _ (by kernel_rfl) rfl rfl (by kernel_rfl) (by decide +kernel) (md_gb w2.heap.size f A n c ns A8 A9 n8 c8 n9 c9 m p q) (md_sk w2.heap.size f A n c ns A8 A9 n8 c8 n9 c9 m p q) (md_on w2.heap.size f A n c ns A8 A9 n8 c8 n9 c9 m p q) (md_step w2.heap.size f A n c ns A8 A9 n8 c8 n9 c9 m p q (by rfl) (by kernel_rfl) rfl rfl rfl (pick (bitB a) ns n) (pick (bitB b) ns n) H3.out.1 H3.out.2.1 H2.out.2.2.2.1 hn7 H3.out.2.2.2.1 H3.out.2.2.2.2.1 Hm.out.1 (by rw [Hv.out.1]) (by rw [Hv.out.2.1]) z1 z2) ?fin
        case fin =>
          intro a' w7 hbase hbl hall
          obtain ⟨v39, hv39, hR39⟩ := hall 13 (by decide)
          have hR39' : v39 = .bool false := hR39
          subst hR39'
          obtain ⟨k, hk, hke⟩ := lit54 a' hbase.1
          have q7 : k 7 = .pointer (some ⟨w2.heap.size, 0, none⟩) := hke 7 _ ((hbase.2.2 7 (by decide)).trans rfl)
          have q10 : k 10 = .slice A10 n10 c10 := hke 10 _ ((hbase.2.2 10 (by decide)).trans rfl)
          have q39 : k 39 = .bool false := hke 39 _ hv39
          have hdf : a'.defers = [] := hbase.2.1
          rw [hdf, q7, q10, q39] at hk
          rw [hk]
          have H4 := Lib.hid (And.intro (H3.out.1.below hbl H3.out.1.lt) (And.intro (H3.out.2.1.after hbl) (And.intro (H3.out.2.2.1.trans (hbl.mono H3.out.2.2.1.size)) (H3.out.2.2.2.2.2.after hbl))))
          have hz1 : (m2 : Int) ≤ r := by
            have h1 := Hz.out.2.1
            have h2 := Hz.out.2.2.1
            have h3 := Hz.out.2.2.2.2.1
            have h4 := Hl.out.1
            rw [Hm.out.1] at h1
            rw [Hm.out.2] at h2
            have v1 := Hz.out.2.2.2.1 (pick (bitB a) ns n)
            have v2 := Hz.out.2.2.2.1 (pick (bitB b) ns n)
            have v3 := Hz.out.2.2.2.1 (pick (bitB z) ns n)
            rw [Hv.out.1] at v1
            rw [Hv.out.2.1] at v2
            rw [Hv.out.2.2] at v3
            omega
          have hz2 : (n10 : Int) = r := by
            have h3 := Hz.out.2.2.2.2.2
            have v3 := Hz.out.2.2.2.1 (pick (bitB z) ns n)
            rw [Hv.out.2.2] at v3
            omega
          clear hk hke hbl hbase hall
          go_wp2_with fail
          refine region_rule4 (P := Try.prog) 15 54 meD meG meS (meR w2.heap.size f A n c ns A10 n10 c10 m2 r) _ _ (by kernel_rfl) rfl rfl (by kernel_rfl) (by decide +kernel) (me_gb w2.heap.size f A n c ns A10 n10 c10 m2 r) (me_sk w2.heap.size f A n c ns A10 n10 c10 m2 r) (me_on w2.heap.size f A n c ns A10 n10 c10 m2 r) (me_step w2.heap.size f A n c ns A10 n10 c10 m2 r (by rfl) (by kernel_rfl) rfl rfl (pick (bitB z) ns n) H4.out.1 H4.out.2.1 H2.out.2.2.2.1 hn7 H4.out.2.2.2 Hm.out.2 (by rw [Hv.out.2.2]) hz1 hz2) ?fin
          case fin =>
            intro a9 w9 hbase hbl hall
            obtain ⟨v0, hv0, hR0⟩ := hall 14 (by decide)
            have hR0' : v0 = .bool true := hR0
            subst hR0'
            have hres : a9.tmps[6]? = some (.bool true) := hv0
            have hdf : a9.defers = [] := hbase.2.1
            have hB := H4.out.2.2.1.trans (hbl.mono H4.out.2.2.1.size)
            go_wp2
            refine bodyPost_ret (results_tmp rfl _ _ _) hdf ?_
            refine ⟨?_, hB⟩
            have e0 : a9.tmps.getD 6 undef = .bool true := by rw [Array.getD_eq_getD_getElem?, hres]; rfl
            rw [e0]

end Go.Proofs.Ytjibbbfpbflgmaa.crewMeet
