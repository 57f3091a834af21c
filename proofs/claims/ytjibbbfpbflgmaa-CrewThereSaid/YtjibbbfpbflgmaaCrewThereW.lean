/-
  For all arrays of numbers l and all numbers at and next: Replace there and back is the same crew as l makes; CrewThere returns true; no condition.
-/
import Derived.Test.YtjibbbfpbflgmaaTh8
namespace Go.Proofs.Ytjibbbfpbflgmaa.crewThere
open Go.ChangeShapes Go.WideShapes Go.ChangeAt Go.RowKit Go.Shelf CrewP
set_option linter.unusedVariables false

theorem lit86 (a : Act) (h : a.tmps.size = 86) : ∃ f : Nat → Value, a = { tmps := #[f 0, f 1, f 2, f 3, f 4, f 5, f 6, f 7, f 8, f 9, f 10, f 11, f 12, f 13, f 14, f 15, f 16, f 17, f 18, f 19, f 20, f 21, f 22, f 23, f 24, f 25, f 26, f 27, f 28, f 29, f 30, f 31, f 32, f 33, f 34, f 35, f 36, f 37, f 38, f 39, f 40, f 41, f 42, f 43, f 44, f 45, f 46, f 47, f 48, f 49, f 50, f 51, f 52, f 53, f 54, f 55, f 56, f 57, f 58, f 59, f 60, f 61, f 62, f 63, f 64, f 65, f 66, f 67, f 68, f 69, f 70, f 71, f 72, f 73, f 74, f 75, f 76, f 77, f 78, f 79, f 80, f 81, f 82, f 83, f 84, f 85], defers := a.defers } ∧ ∀ i v, a.tmps[i]? = some v → f i = v := by
  refine ⟨fun i => a.tmps.getD i undef, ?_, fun i v hv => by simp only [Array.getD_eq_getD_getElem?, hv]; rfl⟩
  have e : a.tmps = ((List.range 86).map fun i => a.tmps.getD i undef).toArray := by
    apply Array.ext
    · simp [h]
    · intro i h1 h2
      simp [Array.getD_eq_getD_getElem?, h1]
  cases a with
  | mk t d =>
    simp only [Act.mk.injEq, and_true]
    exact e
theorem nthI {w : World} {A : Option Addr} {n c : Nat} {l : List Int} (h : ArgI w A n c l) {k : Nat} (hk : k < n) : ∃ b o, ∃ hl : k < l.length, A = some ⟨b, o, none⟩ ∧ b < w.heap.size ∧ w.cell? ⟨b, o + k, none⟩ = some (.int .i64 l[k]) := by
  have hl : k < l.length := by rw [h.1]; exact hk
  obtain ⟨b, o, e, hlt, hc⟩ := h.2.2.2.1.at_ hl
  exact ⟨b, o, hl, e, hlt, hc k hl⟩

set_option maxRecDepth 100000 in
set_option maxHeartbeats 6400000 in
theorem walk (l : List Int) (ati : Int) (next : Int) (w : World) (hl : l.length = 8 ∧ ∀ y ∈ l, Wf y) (hati : (Lit.int .i64 ati).wf = true) (hnext : (Lit.int .i64 next).wf = true) :
    Calls Try.prog 11 #[.agg (cis l).toArray, .int .i64 ati, .int .i64 next] w fun e w' => e = .returned (.bool true) ∧ Below w.heap.size w w' := by
  obtain ⟨hl8, hlw⟩ := hl
  have hS := fun W => some_of l hl8 hlw W
  obtain ⟨a0, a1, a2, a3, a4, a5, a6, a7, rfl⟩ := eight hl8
  change Calls _ _ #[.agg #[.int .i64 a0, .int .i64 a1, .int .i64 a2, .int .i64 a3, .int .i64 a4, .int .i64 a5, .int .i64 a6, .int .i64 a7], .int .i64 ati, .int .i64 next] _ _
  have hB0 : Blk (w.alloc (.cells #[.int .i64 a0, .int .i64 a1, .int .i64 a2, .int .i64 a3, .int .i64 a4, .int .i64 a5, .int .i64 a6, .int .i64 a7] 45)) w.heap.size 45 (cis [a0, a1, a2, a3, a4, a5, a6, a7]) := Blk.new rfl rfl
  have hbx : Below w.heap.size w (w.alloc (.cells #[.int .i64 a0, .int .i64 a1, .int .i64 a2, .int .i64 a3, .int .i64 a4, .int .i64 a5, .int .i64 a6, .int .i64 a7] 45)) := (Below.refl _ _).alloc (Nat.le_refl _) _
  have H := Lib.hid (And.intro hbx (And.intro hS hB0))
  clear hS hbx hl8 hlw hB0 
  go_enter Try.func11, Try.ntmps11
  go_wp2_with fail
  refine (works_any _).mono ?_
  rintro e w1 ⟨rfl, hb1⟩
  have hB0 := H.out.2.2.below hb1 H.out.2.2.lt
  have hbw1 := H.out.1.trans (hb1.mono H.out.1.size)
  have k0 : w1.cell? ⟨w.heap.size, 0, none⟩ = some (.int .i64 a0) := hB0.cell rfl
  have k1 : w1.cell? ⟨w.heap.size, 1, none⟩ = some (.int .i64 a1) := hB0.cell rfl
  have k2 : w1.cell? ⟨w.heap.size, 2, none⟩ = some (.int .i64 a2) := hB0.cell rfl
  have k3 : w1.cell? ⟨w.heap.size, 3, none⟩ = some (.int .i64 a3) := hB0.cell rfl
  have k4 : w1.cell? ⟨w.heap.size, 4, none⟩ = some (.int .i64 a4) := hB0.cell rfl
  have k5 : w1.cell? ⟨w.heap.size, 5, none⟩ = some (.int .i64 a5) := hB0.cell rfl
  have k6 : w1.cell? ⟨w.heap.size, 6, none⟩ = some (.int .i64 a6) := hB0.cell rfl
  have k7 : w1.cell? ⟨w.heap.size, 7, none⟩ = some (.int .i64 a7) := hB0.cell rfl
  have HB1 := Lib.hid (And.intro hbw1 hB0)
  have hw1s : w.heap.size + 1 ≤ w1.heap.size := by have := hb1.size; simp at this; omega
  clear hb1 hbw1 hB0
  go_wp2_with fail
  refine (H.out.2.1 w1).mono ?_
  rintro e w2 ⟨f, ns, v, hok, rfl, hO, hb2⟩
  clear k0 k1 k2 k3 k4 k5 k6 k7
  obtain ⟨A, c, rfl, hA⟩ := hO.arg (ok_wf hok)
  have hAb : ∀ b o, A = some ⟨b, o, none⟩ → w1.heap.size ≤ b := fun b o h => by subst h; exact (hO.lt b rfl).1
  obtain ⟨n, hn⟩ : ∃ n, ns.length = n := ⟨_, rfl⟩
  rw [hn] at hA
  rw [hn]
  have hbw2 := HB1.out.1.trans (hb2.mono HB1.out.1.size)
  have hBc : Blk (w2.alloc (.cells #[.int .i64 f, .slice A n c] 24)) w2.heap.size 24 [.int .i64 f, .slice A n c] := Blk.new rfl rfl
  have hbn : Below w2.heap.size w2 (w2.alloc (.cells #[.int .i64 f, .slice A n c] 24)) := (Below.refl _ _).alloc (Nat.le_refl _) _
  have hbs := hb2.trans (hbn.mono hb2.size)
  have hB0 := HB1.out.2.below hbs HB1.out.2.lt
  have H2 := Lib.hid (And.intro hBc (And.intro (hA.after hbn) (And.intro (hbw2.trans (hbn.mono hbw2.size)) (And.intro hok (And.intro hn (And.intro (And.intro hA (And.intro hbn (And.intro hbw2 (And.intro hAb hw1s)))) hB0))))))
  clear hO hA hAb hw1s hbw2 hBc hbn hbs hb2 hok hn HB1 H hB0
  have hnl := H2.out.2.2.2.2.1
  obtain ⟨⟨hf0, hf1⟩, hl3, hasc⟩ := ok_len H2.out.2.2.2.1
  rw [hnl] at hl3
  have hn7 : n ≤ 7 := by omega
  have hn1 : (0 : Int) < n := by omega
  obtain ⟨r, hr0, hr1, hbr⟩ := bring_ex ati n hn1 (by omega) hati
  obtain ⟨k, rfl⟩ : ∃ k : Nat, r = (k : Int) := ⟨r.toNat, by omega⟩
  obtain ⟨bA, oA, hkl, rfl, hltA, hcA⟩ := nthI H2.out.2.1 (k := k) (by omega)
  have hold := List.getElem_mem hkl
  obtain ⟨old, hod⟩ : ∃ x, ns[k] = x := ⟨_, rfl⟩
  rw [hod] at hcA hold
  have Hr := Lib.hid (And.intro hbr (And.intro hltA (And.intro hcA (And.intro hold (And.intro hl3 hasc)))))
  clear hbr hltA hcA hod hold hkl hnl hl3 hasc
  go_wp2_with fail
  refine region_rule4 (P := Try.prog) 10 86 taD taG taS (taR w2.heap.size f bA oA n c k ati old) _ _ (by kernel_rfl) rfl rfl (by kernel_rfl) (by decide +kernel) (ta_gb w2.heap.size f bA oA n c k ati old) (ta_sk w2.heap.size f bA oA n c k ati old) (ta_on w2.heap.size f bA oA n c k ati old) (ta_step w2.heap.size f bA oA n c k ati old (by rfl) (by kernel_rfl) rfl rfl H2.out.1 Hr.out.1 hr0 hr1 Hr.out.2.1 Hr.out.2.2.1) ?fin
  case fin =>
    intro a6 w6 hbase hbl hall
    obtain ⟨v8, hv8, hR8⟩ := hall 9 (by decide)
    have hR8' : v8 = .int .i64 old := hR8
    subst hR8'
    obtain ⟨g, hg, hge⟩ := lit86 a6 hbase.1
    have q7 : g 7 = .pointer (some ⟨w2.heap.size, 0, none⟩) := hge 7 _ ((hbase.2.2 7 (by decide)).trans rfl)
    have q2 : g 2 = .int .i64 next := hge 2 _ ((hbase.2.2 2 (by decide)).trans rfl)
    have q8 : g 8 = .int .i64 old := hge 8 _ hv8
    have hdf : a6.defers = [] := hbase.2.1
    rw [hdf, q7, q2, q8] at hg
    rw [hg]
    have hC := H2.out.1.below hbl H2.out.1.lt
    have hA := H2.out.2.1.after hbl
    have hb := H2.out.2.2.1.trans (hbl.mono H2.out.2.2.1.size)
    obtain ⟨r2, hs0, hs1, hbr2⟩ := bring_ex next 28 (by decide) (by decide) hnext
    have k0 : w6.cell? ⟨w2.heap.size, 0, none⟩ = some (.int .i64 f) := hC.cell rfl
    have k1 : w6.cell? ⟨w2.heap.size, 1, none⟩ = some (.slice (some ⟨bA, oA, none⟩) n c) := hC.cell rfl
    obtain ⟨x, hx⟩ : ∃ x, 1 + r2 = x := ⟨_, rfl⟩
    have hw1 : IntKind.i64.wrap (1 + r2) = x := by rw [IntWalk.i64_in _ (by omega)]; exact hx
    have hxw : Wf x := by simp only [Wf, Lit.wf, IntKind.min, IntKind.max, IntKind.signed, IntKind.bits]; simp; omega
    have hxN : isN x = true := (isN_iff x).2 ⟨by omega, by omega⟩
    have hR := replace_any f (some ⟨bA, oA, none⟩) n c ns w6 hA (ok_wf H2.out.2.2.2.1) old x hxw
    have hRb := hbr2
    have H3 := Lib.hid (And.intro hC (And.intro hA (And.intro hb (And.intro hR (And.intro hRb (And.intro hxN hxw))))))
    clear hall hbase hbl hv8 hR8 hge q7 q2 q8 hdf hg hC hA hb hR hbr2 hRb hxN hxw a6
    go_wp2_with fail
    refine (H3.out.2.2.2.2.1 _).mono ?_
    rintro e w7 ⟨rfl, hw7⟩
    subst hw7
    go_wp2_with fail
    refine H3.out.2.2.2.1.mono ?_
    rintro e w8 hr8
    by_cases hxn : x ∈ ns
    · have hrr : replaceR f ns old x = (0, [], 110) := by simp [replaceR, H2.out.2.2.2.1, H3.out.2.2.2.2.2.1, hxn]
      obtain ⟨A8, c8, rfl, ha8, hb8⟩ := hr8.open_ hrr (by simp)
      have hbn : Below w8.heap.size w8 (w8.alloc (.cells #[.int .i64 0, .slice A8 0 c8] 24)) := (Below.refl _ _).alloc (Nat.le_refl _) _
      have hbs := hb8.trans (hbn.mono hb8.size)
      have hC9 := H3.out.1.below hbs H3.out.1.lt
      have hH := has_any f (some ⟨bA, oA, none⟩) n c ns _ (H3.out.2.1.after hbs) x
      rw [show hasR f ns x = true by simp [hasR, H2.out.2.2.2.1, hxn]] at hH
      have m0 : (w8.alloc (.cells #[.int .i64 0, .slice A8 0 c8] 24)).cell? ⟨w2.heap.size, 0, none⟩ = some (.int .i64 f) := hC9.cell rfl
      have m1 : (w8.alloc (.cells #[.int .i64 0, .slice A8 0 c8] 24)).cell? ⟨w2.heap.size, 1, none⟩ = some (.slice (some ⟨bA, oA, none⟩) n c) := hC9.cell rfl
      have hlt8 : w2.heap.size < w8.heap.size := Nat.lt_of_lt_of_le H3.out.1.lt hb8.size
      have n0 : w8.cell? ⟨w2.heap.size, 0, none⟩ = some (.int .i64 f) := (H3.out.1.below hb8 H3.out.1.lt).cell rfl
      have n1 : w8.cell? ⟨w2.heap.size, 1, none⟩ = some (.slice (some ⟨bA, oA, none⟩) n c) := (H3.out.1.below hb8 H3.out.1.lt).cell rfl
      have HH := Lib.hid (And.intro hH (H3.out.2.2.1.trans (hbs.mono H3.out.2.2.1.size)))
      clear hr8 ha8 hb8 hbn hbs hC9 hH k0 k1
      go_wp2_with fail
      refine HH.out.1.mono ?_
      rintro e w9 ⟨rfl, hb9⟩
      clear m0 m1 n0 n1
      go_wp2
      go_ret
      exact ⟨rfl, HH.out.2.trans (hb9.mono HH.out.2.size)⟩
    · have hrr : replaceR f ns old x = (f, repL ns old x, 0) := by simp [replaceR, H2.out.2.2.2.1, H3.out.2.2.2.2.2.1, hxn, Hr.out.2.2.2.1]
      have hokd : okC f (repL ns old x) = true := rep_ok H2.out.2.2.2.1 Hr.out.2.2.2.1 hxn H3.out.2.2.2.2.2.1
      obtain ⟨Ad, cd, rfl, had, hbd⟩ := hr8.open_ hrr (ok_wf hokd)
      have hdl : (repL ns old x).length = n := by rw [rep_len Hr.out.2.2.2.2.2 Hr.out.2.2.2.1 hxn]; exact H2.out.2.2.2.2.1
      have hne : old ≠ x := by rintro rfl; exact hxn Hr.out.2.2.2.1
      have hod : old ∉ repL ns old x := fun e => by
        rcases (rep_mem ns old x old).1 e with h | h
        · exact h.2 rfl
        · exact hne h
      have hxd : x ∈ repL ns old x := (rep_mem ns old x x).2 (.inr rfl)
      have hvo : votesR f (repL ns old x) ns = n - 1 := by
        unfold votesR
        rw [if_pos hokd, votes_old Hr.out.2.2.2.2.2 Hr.out.2.2.2.1 hxn, H2.out.2.2.2.2.1]
      have hoN : isN old = true := (isN_iff old).2 (((okC_iff f ns).1 H2.out.2.2.2.1).2.1 old Hr.out.2.2.2.1)
      have hrr2 : replaceR f (repL ns old x) x old = (f, ns, 0) := by
        unfold replaceR
        rw [if_neg (by rw [hokd]; simp), if_neg (by rw [hoN]; simp), if_neg (by rintro (h | h); exact h hxd; exact hod h), there Hr.out.2.2.2.2.2 Hr.out.2.2.2.1 hxn]
      rw [hdl] at had
      rw [hdl]
      have hh1 : hasR f (repL ns old x) x = true := by simp [hasR, hokd, hxd]
      have hh2 : hasR f (repL ns old x) old = false := by simp [hasR, hod]
      obtain ⟨ds, hds⟩ : ∃ ds, repL ns old x = ds := ⟨_, rfl⟩
      rw [hds] at had hokd hvo hrr2 hh1 hh2 hdl
      have hbn : Below w8.heap.size w8 (w8.alloc (.cells #[.int .i64 f, .slice Ad n cd] 24)) := (Below.refl _ _).alloc (Nat.le_refl _) _
      have hBd : Blk (w8.alloc (.cells #[.int .i64 f, .slice Ad n cd] 24)) w8.heap.size 24 [.int .i64 f, .slice Ad n cd] := Blk.new rfl rfl
      have hbs := hbd.trans (hbn.mono hbd.size)
      have hR2 := replace_any f Ad n cd ds _ (had.after hbn) (ok_wf hokd) x old (ok_wf H2.out.2.2.2.1 old Hr.out.2.2.2.1)
      have H4 := Lib.hid (And.intro (H3.out.1.below hbs H3.out.1.lt) (And.intro (H3.out.2.1.after hbs) (And.intro hBd (And.intro (had.after hbn) (And.intro (H3.out.2.2.1.trans (hbs.mono H3.out.2.2.1.size)) hR2)))))
      have Hd := Lib.hid (And.intro hokd (And.intro hvo (And.intro hrr2 (And.intro hh1 hh2))))
      clear hr8 hrr had hbd hokd hdl hne hod hxd hvo hoN hrr2 hh1 hh2 hds hbn hBd hbs hR2 k0 k1 hxn
      go_wp2_with fail
      refine H4.out.2.2.2.2.2.mono ?_
      rintro e w9 hr9
      obtain ⟨Ab, cb, rfl, hab, hbb⟩ := hr9.open_ Hd.out.2.2.1 (ok_wf H2.out.2.2.2.1)
      rw [H2.out.2.2.2.2.1] at hab
      rw [H2.out.2.2.2.2.1]
      have hbn : Below w9.heap.size w9 (w9.alloc (.cells #[.int .i64 f, .slice Ab n cb] 24)) := (Below.refl _ _).alloc (Nat.le_refl _) _
      have hBb : Blk (w9.alloc (.cells #[.int .i64 f, .slice Ab n cb] 24)) w9.heap.size 24 [.int .i64 f, .slice Ab n cb] := Blk.new rfl rfl
      have hbs := hbb.trans (hbn.mono hbb.size)
      have H5 := Lib.hid (And.intro (H4.out.1.below hbs H4.out.1.lt) (And.intro (H4.out.2.1.after hbs) (And.intro (H4.out.2.2.1.below hbs H4.out.2.2.1.lt) (And.intro (H4.out.2.2.2.1.after hbs) (And.intro hBb (And.intro (hab.after hbn) (H4.out.2.2.2.2.1.trans (hbs.mono H4.out.2.2.2.2.1.size))))))))
      clear hr9 hab hbb hbn hBb hbs
      have hm : IntKind.i64.wrap ((n : Int) - 1) = ((n - 1 : Nat) : Int) := by rw [IntWalk.i64_in _ (by omega)]; omega
      go_wp2_with fail
      refine region_rule4 (P := Try.prog) 35 86 tbD tbG tbS (tbR w2.heap.size w8.heap.size w9.heap.size f (some ⟨bA, oA, none⟩) Ad Ab n c cd cb (n - 1) x old) _ _ (by kernel_rfl) rfl rfl (by kernel_rfl) (by decide +kernel) (tb_gb w2.heap.size w8.heap.size w9.heap.size f (some ⟨bA, oA, none⟩) Ad Ab n c cd cb (n - 1) x old) (tb_sk w2.heap.size w8.heap.size w9.heap.size f (some ⟨bA, oA, none⟩) Ad Ab n c cd cb (n - 1) x old) (tb_on w2.heap.size w8.heap.size w9.heap.size f (some ⟨bA, oA, none⟩) Ad Ab n c cd cb (n - 1) x old) (tb_step w2.heap.size w8.heap.size w9.heap.size f (some ⟨bA, oA, none⟩) Ad Ab n c cd cb (n - 1) x old (by rfl) (by kernel_rfl) ns ds rfl rfl rfl rfl rfl rfl H5.out.1 H5.out.2.1 H5.out.2.2.1 H5.out.2.2.2.1 H5.out.2.2.2.2.1 H5.out.2.2.2.2.2.1 Hd.out.1 Hd.out.2.2.2.1 Hd.out.2.2.2.2 (by rw [Hd.out.2.1]) hm) ?fin
      case fin =>
        intro a9 w10 hbase hbl hall
        obtain ⟨v0, hv0, hR0⟩ := hall 34 (by decide)
        have hR0' : v0 = .bool true := hR0
        subst hR0'
        have hres : a9.tmps[6]? = some (.bool true) := hv0
        have hdf : a9.defers = [] := hbase.2.1
        have hB := H5.out.2.2.2.2.2.2.trans (hbl.mono H5.out.2.2.2.2.2.2.size)
        go_wp2
        refine bodyPost_ret (results_tmp rfl _ _ _) hdf ?_
        refine ⟨?_, hB⟩
        have e0 : a9.tmps.getD 6 undef = .bool true := by rw [Array.getD_eq_getD_getElem?, hres]; rfl
        rw [e0]

end Go.Proofs.Ytjibbbfpbflgmaa.crewThere
