/-
  The document's Votes and Rank over the reference's code.
-/
import Derived.Test.YtjibbbfpbflgmaaRt8
import Derived.Test.YtjibbbfpbflgmaaMak8
namespace Go.Proofs.Ytjibbbfpbflgmaa
open Go.RowKit Go.Shelf CrewP
set_option linter.unusedVariables false

theorem cnt_take (l : List Int) (p : Int → Bool) {i : Nat} (h : i < l.length) : (l.take (i + 1)).countP p = (l.take i).countP p + (if p l[i] then 1 else 0) := by
  rw [List.take_succ_eq_append_getElem h, List.countP_append, List.countP_singleton]
section
variable (f : Int) (A : Option Addr) (n c : Nat) (l : List Int) (w : World)
set_option maxRecDepth 100000 in
set_option maxHeartbeats 1600000 in
theorem rvotes_any (h : ArgI w A n c l) (A2 : Option Addr) (n2 c2 : Nat) (ns : List Int) (h2 : ArgI w A2 n2 c2 ns) :
    Calls Try.prog 40 #[.agg #[.int .i64 f, .slice A n c], .slice A2 n2 c2] w fun e w' => e = .returned (.int .i64 (votesR f l ns : Nat)) ∧ Below w.heap.size w w' := by
  have hln := h.1
  have hcm := h.2.2.1
  unfold maxLen at hcm
  have hnc := h.2.1
  have hx := Lib.hid (Bx.new (f := f) h)
  have HA := Lib.hid h2
  cases hok : okC f l with
  | false =>
    have e : votesR f l ns = 0 := by simp [votesR, hok]
    rw [e]
    have HC := Lib.hid (fun W (hW : Bx w W f A n c l) => rcheck_bx f A n c l w W hW 110 (chk1 hok))
    clear e hok h h2
    go_enter Try.func40, Try.ntmps40
    go_wp2
    go_loopw [5, 6] (fun v5 v6 wr => v5 = .int .i64 0 ∧ v6 = .int .i64 0 ∧ Bx w wr f A n c l) (fun _ v _ => 0)
    case atStart => exact ⟨rfl, rfl, hx.out⟩
    case round =>
      obtain ⟨rfl, rfl, hxr⟩ := hrel
      have k0 := hxr.k0
      have k1 := hxr.k1
      have Hxr := Lib.hid hxr
      by_cases hn0 : 0 < n
      · have hi1 : (0 : Int) < n := by omega
        clear hxr
        go_wp2_with fail
        refine (HC.out _ Hxr.out).mono ?_
        rintro e w1 ⟨rfl, hx1, _⟩
        have Hx1 := Lib.hid hx1
        clear hx1 k0 k1
        go_wp2
        go_ret
        exact ⟨rfl, Hx1.out.bel⟩
      · have hi1 : ¬ (0 : Int) < n := by omega
        clear hxr
        go_wp2
        go_ret
        exact ⟨rfl, Hxr.out.bel⟩
  | true =>
    obtain ⟨hf, hl, hasc⟩ := ok_len hok
    obtain ⟨r, hr⟩ : ∃ r, votesL l ns = r := ⟨_, rfl⟩
    have e : votesR f l ns = r := by rw [← hr]; simp [votesR, hok]
    rw [e]
    have Hr := Lib.hid hr
    clear hr
    have HC := Lib.hid (fun W (hW : Bx w W f A n c l) => rcheck_bx f A n c l w W hW 0 (chk0 hok))
    have hn7 : n ≤ 7 := by omega
    clear e hok h h2 hf hl hasc
    go_enter Try.func40, Try.ntmps40
    go_wp2
    go_loopw [5, 6] (fun v5 v6 wr => ∃ j q : Nat, j ≤ n ∧ v6 = .int .i64 j ∧ v5 = .int .i64 q ∧ q = (l.take j).countP (fun y => decide (y ∈ ns)) ∧ Bx w wr f A n c l) (fun _ v _ => n - (intOf v).toNat)
    case atStart => exact ⟨0, 0, Nat.zero_le _, rfl, rfl, rfl, hx.out⟩
    case round =>
      obtain ⟨j, q, hj, rfl, rfl, hq, hxr⟩ := hrel
      have hi0 : (0 : Int) ≤ j := by omega
      have k0 := hxr.k0
      have k1 := hxr.k1
      have Hxr := Lib.hid hxr
      have hq7 : q ≤ 7 := by rw [hq]; exact Nat.le_trans List.countP_le_length (by rw [List.length_take]; omega)
      have hwq : IntKind.i64.wrap ((q : Int) + 1) = (q : Int) + 1 := IntWalk.i64_in _ (by omega)
      by_cases hlt : j < n
      · have hi1 : (j : Int) < n := by omega
        have hjl : j < l.length := by omega
        have hct := cnt_take l (fun y => decide (y ∈ ns)) hjl
        rw [← hq] at hct
        clear hxr
        go_wp2_with fail
        refine (HC.out _ Hxr.out).mono ?_
        rintro e w1 ⟨rfl, hx1, hb1⟩
        have k0 := hx1.k0
        have k1 := hx1.k1
        obtain ⟨b1, o1, rfl, l1, q1⟩ := hx1.arg.2.2.2.1.at_ hjl
        have c1 := q1 j hjl
        have hIn := rin_any A2 n2 c2 ns l[j] w1 (HA.out.after hx1.bel)
        generalize l[j] = y at *
        have Hx1 := Lib.hid hx1
        clear hx1 hb1 q1
        by_cases hm : y ∈ ns
        · rw [decide_eq_true hm] at hIn
          rw [decide_eq_true hm, if_pos rfl] at hct
          have Hi := Lib.hid (And.intro hIn hct)
          clear hIn hct hq
          go_wp2_with fail
          refine Hi.out.1.mono ?_
          rintro e w2 ⟨rfl, hw2⟩
          subst hw2
          go_wp2
          exact ⟨⟨j + 1, q + 1, by omega, by go_num, by go_num, Hi.out.2.symm, Hx1.out⟩, by simp [intOf]; omega⟩
        · rw [decide_eq_false hm] at hIn
          rw [decide_eq_false hm, if_neg (by simp), Nat.add_zero] at hct
          have Hi := Lib.hid (And.intro hIn hct)
          clear hIn hct hq
          go_wp2_with fail
          refine Hi.out.1.mono ?_
          rintro e w2 ⟨rfl, hw2⟩
          subst hw2
          go_wp2
          exact ⟨⟨j + 1, q, by omega, by go_num, rfl, Hi.out.2.symm, Hx1.out⟩, by simp [intOf]; omega⟩
      · have hi1 : ¬ (j : Int) < n := by omega
        rw [List.take_of_length_le (by omega)] at hq
        have hqv : r = q := Hr.out.symm.trans hq.symm
        subst hqv
        clear hxr hq
        go_wp2
        go_ret
        exact ⟨rfl, Hxr.out.bel⟩
set_option maxRecDepth 100000 in
set_option maxHeartbeats 1600000 in
theorem rrank_any (h : ArgI w A n c l) (A2 : Option Addr) (n2 c2 : Nat) (rs : List Int) (h2 : ArgI w A2 n2 c2 rs) (m : Int) (hm : Wf m) :
    Calls Try.prog 38 #[.agg #[.int .i64 f, .slice A n c], .slice A2 n2 c2, .int .i64 m] w fun e w' => e = .returned (.tuple #[.int .i64 (rankR f l rs m).1, .int .i64 (rankR f l rs m).2]) ∧ Below w.heap.size w w' := by
  have hln := h.1
  have hln2 := h2.1
  have hmb := bounds_i64 hm
  have hcm2 := h2.2.2.1
  have hnc2 := h2.2.1
  unfold maxLen at hcm2
  have hcm := h.2.2.1
  have hnc := h.2.1
  unfold maxLen at hcm
  clear hm
  cases hok : okC f l with
  | false =>
    have H := Lib.hid (rcheck2 f A n c l w h 110 (chk1 hok))
    have e : rankR f l rs m = (0, 110) := by simp [rankR, hok]
    rw [e]; clear e hok h h2
    go_enter Try.func38, Try.ntmps38
    go_wp2_with (go_at_call 21; refine H.out.mono ?_; rintro e w' ⟨rfl, hx⟩; replace hx := Lib.hid hx)
    go_ret2
    exact ⟨rfl, hx.out.bel⟩
  | true =>
    obtain ⟨hf, hl, hasc⟩ := ok_len hok
    have H := Lib.hid (rcheck2 f A n c l w h 0 (chk0 hok))
    have hbad : (rs.length ≠ l.length ∨ m < 1 ∨ (l.length : Int) < m) → rankR f l rs m = (0, 2) := fun hh => by unfold rankR; rw [if_neg (by simp [hok]), if_pos hh]
    by_cases h1 : n2 = n
    · subst h1
      have hne : ((n2 : Int) != (n2 : Int)) = false := by simp
      by_cases h3 : m < 1
      · rw [hbad (.inr (.inl h3))]
        clear hok h h2 hasc hbad hl
        go_enter Try.func38, Try.ntmps38
        go_wp2_with (go_at_call 21; refine H.out.mono ?_; rintro e w' ⟨rfl, hx⟩; have k0 := hx.k0; have k1 := hx.k1; replace hx := Lib.hid hx)
        go_ret2
        exact ⟨rfl, hx.out.bel⟩
      · by_cases h4 : (n2 : Int) < m
        · rw [hbad (.inr (.inr (by omega)))]
          clear hok h h2 hasc hbad hl
          go_enter Try.func38, Try.ntmps38
          go_wp2_with (go_at_call 21; refine H.out.mono ?_; rintro e w' ⟨rfl, hx⟩; have k0 := hx.k0; have k1 := hx.k1; replace hx := Lib.hid hx)
          go_ret2
          exact ⟨rfl, hx.out.bel⟩
        · obtain ⟨q, rfl⟩ : ∃ q : Nat, m = (q : Int) := ⟨m.toNat, by omega⟩
          have e : rankR f l rs q = (rankL rs q, 0) := by unfold rankR; rw [if_neg (by simp [hok]), if_neg (by omega)]; rfl
          have hq1 : 1 ≤ q := by omega
          have hqn : q ≤ rs.length := by omega
          obtain ⟨r, hr⟩ : ∃ r, rankL rs q = r := ⟨_, rfl⟩
          rw [e, hr]
          have hrm := rank_mem hq1 hqn
          have hrc := rank_reached hq1 hqn
          have hmost := fun x => rank_most hq1 hqn (x := x)
          rw [hr] at hrm hrc hmost
          have hn7 : n2 ≤ 7 := by omega
          have Hr := Lib.hid (And.intro hrm (And.intro hrc hmost))
          have H2 := Lib.hid h2
          clear e hr hok h h2 hasc hbad hl hf hrm hrc hmost
          go_enter Try.func38, Try.ntmps38
          go_wp2_with fail
          refine H.out.mono ?_
          rintro e w1 ⟨rfl, hx⟩
          have k0 := hx.k0
          have k1 := hx.k1
          have Hx := Lib.hid (And.intro hx.bel (H2.out.after hx.bel))
          clear hx
          go_wp2
          clear k0 k1
          have e4 : decide (n2 < q) = false := decide_eq_false (by omega)
          have e3 : decide ((q : Int) < 1) = false := decide_eq_false (by omega)
          try simp only [e4, e3, Bool.or_false]
          clear e4 e3
          go_loopw [8, 9, 10] (fun v8 v9 v10 wr => ∃ (i : Nat) (best : Int) (fd : Bool), i ≤ n2 ∧ v10 = .int .i64 i ∧ v8 = .int .i64 best ∧ v9 = .bool fd ∧ (fd = true → q ≤ rs.countP (fun y => decide (best ≤ y))) ∧ (∀ k (hk : k < rs.length), k < i → q ≤ rs.countP (fun y => decide (rs[k] ≤ y)) → fd = true ∧ rs[k] ≤ best) ∧ Below w1.heap.size w1 wr) (fun _ _ v _ => n2 - (intOf v).toNat)
          case atStart => exact ⟨0, 0, false, Nat.zero_le _, rfl, rfl, rfl, (fun h => by cases h), fun k _ h => absurd h (by omega), Below.refl _ _⟩
          case round =>
            obtain ⟨i, best, fd, hi, rfl, rfl, rfl, hfd, hall, hbw⟩ := hrel
            have hi0 : (0 : Int) ≤ i := by omega
            by_cases hin : i < n2
            · have hi1 : (i : Int) < n2 := by omega
              have hil : i < rs.length := by omega
              obtain ⟨b2, o2, hA2, hlt2, q2⟩ := Hx.out.2.2.2.2.1.at_ hil
              subst hA2
              have hcX := q2 i hil
              obtain ⟨x, hxx⟩ : ∃ x, rs[i] = x := ⟨_, rfl⟩
              rw [hxx] at hcX
              have Ha := Lib.hid (And.intro hfd (And.intro hall (And.intro hxx (And.intro q2 hcX))))
              clear hfd hall hxx q2 hcX
              go_wp2
              go_loopw [11, 12] (fun v11 v12 ws => ∃ j t : Nat, j ≤ n2 ∧ v12 = .int .i64 j ∧ v11 = .int .i64 t ∧ t = (rs.take j).countP (fun y => decide (x ≤ y)) ∧ Below w1.heap.size w1 ws) (fun _ v _ => n2 - (intOf v).toNat)
              case atStart => exact ⟨0, 0, Nat.zero_le _, rfl, rfl, rfl, hbw⟩
              case round =>
                obtain ⟨j, t, hj, rfl, rfl, ht, hbs⟩ := hrel
                have hj0 : (0 : Int) ≤ j := by omega
                have ht7 : t ≤ 7 := by rw [ht]; exact Nat.le_trans List.countP_le_length (by rw [List.length_take]; omega)
                have hwt : IntKind.i64.wrap ((t : Int) + 1) = (t : Int) + 1 := IntWalk.i64_in _ (by omega)
                have hcX := (hbs.cell (p := ⟨b2, o2 + i, none⟩) hlt2).trans Ha.out.2.2.2.2
                by_cases hjn : j < n2
                · have hj1 : (j : Int) < n2 := by omega
                  have hjl : j < rs.length := by omega
                  have hcY := (hbs.cell (p := ⟨b2, o2 + j, none⟩) hlt2).trans (Ha.out.2.2.2.1 j hjl)
                  have hct := cnt_take rs (fun y => decide (x ≤ y)) hjl
                  rw [← ht] at hct
                  generalize rs[j] = y at *
                  by_cases hxy : x ≤ y
                  · rw [decide_eq_true hxy, if_pos rfl] at hct
                    have Hc := Lib.hid hct
                    clear hct ht
                    go_wp2_with fail
                    go_quiet (fail)
                    go_wp2
                    exact ⟨⟨j + 1, t + 1, by omega, by go_num, by go_num, Hc.out.symm, below_drewN hbs _⟩, by simp [intOf]; omega⟩
                  · have hyx : y < x := by omega
                    rw [decide_eq_false hxy, if_neg (by simp), Nat.add_zero] at hct
                    have Hc := Lib.hid hct
                    clear hct ht
                    go_wp2_with fail
                    go_quiet (fail)
                    go_wp2
                    exact ⟨⟨j + 1, t, by omega, by go_num, rfl, Hc.out.symm, below_drewN hbs _⟩, by simp [intOf]; omega⟩
                · have hj1 : ¬ (j : Int) < n2 := by omega
                  rw [List.take_of_length_le (by omega)] at ht
                  have Ht := Lib.hid ht
                  clear ht
                  by_cases hqt : q ≤ t
                  · have hqt1 : (q : Int) ≤ t := by omega
                    cases fd with
                    | false =>
                      go_wp2
                      refine ⟨⟨i + 1, x, true, by omega, by go_num, rfl, rfl, fun _ => by rw [← Ht.out]; exact hqt, fun k hk hki hc => ?_, hbs⟩, by simp [intOf]; omega⟩
                      refine ⟨rfl, ?_⟩
                      by_cases e : k = i
                      · subst e; rw [Ha.out.2.2.1]; exact Int.le_refl _
                      · have := (Ha.out.2.1 k hk (by omega) hc).1; cases this
                    | true =>
                      by_cases hbx : best < x
                      · go_wp2
                        refine ⟨⟨i + 1, x, true, by omega, by go_num, rfl, rfl, fun _ => by rw [← Ht.out]; exact hqt, fun k hk hki hc => ?_, hbs⟩, by simp [intOf]; omega⟩
                        refine ⟨rfl, ?_⟩
                        by_cases e : k = i
                        · subst e; rw [Ha.out.2.2.1]; exact Int.le_refl _
                        · have := (Ha.out.2.1 k hk (by omega) hc).2; omega
                      · go_wp2
                        refine ⟨⟨i + 1, best, true, by omega, by go_num, rfl, rfl, Ha.out.1, fun k hk hki hc => ?_, hbs⟩, by simp [intOf]; omega⟩
                        refine ⟨rfl, ?_⟩
                        by_cases e : k = i
                        · subst e; rw [Ha.out.2.2.1]; omega
                        · exact (Ha.out.2.1 k hk (by omega) hc).2
                  · have hqt1 : ¬ (q : Int) ≤ t := by omega
                    go_wp2
                    refine ⟨⟨i + 1, best, fd, by omega, by go_num, rfl, rfl, Ha.out.1, fun k hk hki hc => ?_, hbs⟩, by simp [intOf]; omega⟩
                    by_cases e : k = i
                    · subst e
                      rw [Ha.out.2.2.1, ← Ht.out] at hc
                      exact absurd hc hqt
                    · exact Ha.out.2.1 k hk (by omega) hc
            · have hi1 : ¬ (i : Int) < n2 := by omega
              have hbr : best = r := by
                obtain ⟨k, hk, e⟩ := List.mem_iff_getElem.1 Hr.out.1
                have h1 := hall k hk (by omega) (by rw [e]; exact Hr.out.2.1)
                have h2 := Hr.out.2.2 best (hfd h1.1)
                have h3 := h1.2
                rw [e] at h3
                omega
              subst hbr
              have Hb := Lib.hid (Hx.out.1.trans (hbw.mono Hx.out.1.size))
              clear hfd hall hbw
              go_wp2
              go_ret2
              exact ⟨rfl, Hb.out⟩
    · rw [hbad (.inl (by omega))]
      have hne : ((n2 : Int) != (n : Int)) = true := by simp; omega
      clear hok h h2 hasc hbad hl
      go_enter Try.func38, Try.ntmps38
      go_wp2_with (go_at_call 21; refine H.out.mono ?_; rintro e w' ⟨rfl, hx⟩; have k0 := hx.k0; have k1 := hx.k1; replace hx := Lib.hid hx)
      go_ret2
      exact ⟨rfl, hx.out.bel⟩
end
end Go.Proofs.Ytjibbbfpbflgmaa
