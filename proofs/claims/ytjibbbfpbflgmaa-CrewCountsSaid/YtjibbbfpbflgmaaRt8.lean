/-
  The document's crew over the reference's code: Most, Some, Leader, Has, Others, Votes.
-/
import Derived.Test.YtjibbbfpbflgmaaRf8
import Derived.Test.YtjibbbfpbflgmaaSome8
import Derived.Test.YtjibbbfpbflgmaaVot8
namespace Go.Proofs.Ytjibbbfpbflgmaa
open Go.RowKit Go.Shelf CrewP
set_option linter.unusedVariables false

theorem rcheck2 (f : Int) (A : Option Addr) (n c : Nat) (l : List Int) (w : World) (h : ArgI w A n c l) (z : Int) (hz : chkE f l = z) :
    Calls Try.prog 21 #[.agg #[.int .i64 f, .slice A n c]] (w.alloc (.cells #[.int .i64 f, .slice A n c] 24)) fun e w' => e = .returned (.int .i64 z) ∧ Bx w w' f A n c l := by
  subst hz
  have hb := Bx.new (f := f) h
  exact (rcheck_any f A n c l _ hb.arg).mono fun e w' ⟨he, hw⟩ => ⟨he, hb.on hw⟩
theorem rcheck_bx (f : Int) (A : Option Addr) (n c : Nat) (l : List Int) (w W : World) (h : Bx w W f A n c l) (z : Int) (hz : chkE f l = z) :
    Calls Try.prog 21 #[.agg #[.int .i64 f, .slice A n c]] W fun e w' => e = .returned (.int .i64 z) ∧ Bx w w' f A n c l ∧ Below W.heap.size W w' := by
  subst hz
  exact (rcheck_any f A n c l _ h.arg).mono fun e w' ⟨he, hw⟩ => ⟨he, h.on hw, hw⟩
section
variable (f : Int) (A : Option Addr) (n c : Nat) (l : List Int) (w : World)
theorem rmost_any (h : ArgI w A n c l) : Calls Try.prog 27 #[.agg #[.int .i64 f, .slice A n c]] w fun e w' => e = .returned (.int .i64 (mostR f l)) ∧ Below w.heap.size w w' := by
  cases hok : okC f l with
  | false =>
    have H := Lib.hid (rcheck2 f A n c l w h 110 (chk1 hok))
    have e : mostR f l = 0 := by simp [mostR, hok]
    rw [e]; clear e hok h
    go_enter Try.func27, Try.ntmps27
    go_wp2_with (go_at_call 21; refine H.out.mono ?_; rintro e w' ⟨rfl, hx⟩)
    go_ret
    exact ⟨rfl, hx.bel⟩
  | true =>
    have hf := (ok_len hok).1
    obtain ⟨hf0, hf1⟩ := hf
    have H := Lib.hid (rcheck2 f A n c l w h 0 (chk0 hok))
    have e : mostR f l = 2 * f + 1 := by simp [mostR, hok]
    rw [e]; clear e hok h
    have hm : IntKind.i64.wrap (2 * f) = 2 * f := IntWalk.i64_in _ (by omega)
    have ha : IntKind.i64.wrap (2 * f + 1) = 2 * f + 1 := IntWalk.i64_in _ (by omega)
    go_enter Try.func27, Try.ntmps27
    go_wp2_with (go_at_call 21; refine H.out.mono ?_; rintro e w' ⟨rfl, hx⟩; have k0 := hx.k0; have k1 := hx.k1; replace hx := Lib.hid hx)
    go_ret
    exact ⟨rfl, hx.out.bel⟩

theorem rsome_any (h : ArgI w A n c l) : Calls Try.prog 29 #[.agg #[.int .i64 f, .slice A n c]] w fun e w' => e = .returned (.int .i64 (someR f l)) ∧ Below w.heap.size w w' := by
  cases hok : okC f l with
  | false =>
    have H := Lib.hid (rcheck2 f A n c l w h 110 (chk1 hok))
    have e : someR f l = 0 := by simp [someR, hok]
    rw [e]; clear e hok h
    go_enter Try.func29, Try.ntmps29
    go_wp2_with (go_at_call 21; refine H.out.mono ?_; rintro e w' ⟨rfl, hx⟩)
    go_ret
    exact ⟨rfl, hx.bel⟩
  | true =>
    obtain ⟨hf0, hf1⟩ := (ok_len hok).1
    have H := Lib.hid (rcheck2 f A n c l w h 0 (chk0 hok))
    have e : someR f l = f + 1 := by simp [someR, hok]
    rw [e]; clear e hok h
    have ha : IntKind.i64.wrap (f + 1) = f + 1 := IntWalk.i64_in _ (by omega)
    go_enter Try.func29, Try.ntmps29
    go_wp2_with (go_at_call 21; refine H.out.mono ?_; rintro e w' ⟨rfl, hx⟩; have k0 := hx.k0; have k1 := hx.k1; replace hx := Lib.hid hx)
    go_ret
    exact ⟨rfl, hx.out.bel⟩

theorem rhas_any (h : ArgI w A n c l) (x : Int) : Calls Try.prog 33 #[.agg #[.int .i64 f, .slice A n c], .int .i64 x] w fun e w' => e = .returned (.bool (hasR f l x)) ∧ Below w.heap.size w w' := by
  cases hok : okC f l with
  | false =>
    have H := Lib.hid (rcheck2 f A n c l w h 110 (chk1 hok))
    have e : hasR f l x = false := by simp [hasR, hok]
    rw [e]; clear e hok h
    go_enter Try.func33, Try.ntmps33
    go_wp2_with (go_at_call 21; refine H.out.mono ?_; rintro e w' ⟨rfl, hx⟩)
    go_ret
    exact ⟨rfl, hx.bel⟩
  | true =>
    have H := Lib.hid (rcheck2 f A n c l w h 0 (chk0 hok))
    have e : hasR f l x = decide (x ∈ l) := by simp [hasR, hok]
    rw [e]; clear e hok h
    have HF := Lib.hid (fun W (hW : ArgI W A n c l) => rin_any A n c l x W hW)
    generalize decide (x ∈ l) = b at *
    go_enter Try.func33, Try.ntmps33
    go_wp2_with (first
      | (go_at_call 21; refine H.out.mono ?_; rintro e w' ⟨rfl, hx⟩; have k0 := hx.k0; have k1 := hx.k1; replace hx := Lib.hid hx)
      | (go_at_call 53; refine (HF.out _ hx.out.arg).mono ?_; rintro e w'' ⟨rfl, rfl⟩))
    go_ret
    exact ⟨rfl, hx.out.bel⟩

theorem rleader_any (h : ArgI w A n c l) (v : Int) (hv : Wf v) : Calls Try.prog 31 #[.agg #[.int .i64 f, .slice A n c], .int .i64 v] w fun e w' => e = .returned (.int .i64 (leaderR f l v)) ∧ Below w.heap.size w w' := by
  have hln := h.1
  have hvb := bounds_i64 hv
  clear hv
  cases hok : okC f l with
  | false =>
    have H := Lib.hid (rcheck2 f A n c l w h 110 (chk1 hok))
    have e : leaderR f l v = 0 := by simp [leaderR, hok]
    rw [e]; clear e hok h
    go_enter Try.func31, Try.ntmps31
    go_wp2_with (go_at_call 21; refine H.out.mono ?_; rintro e w' ⟨rfl, hx⟩; replace hx := Lib.hid hx)
    go_ret
    exact ⟨rfl, hx.out.bel⟩
  | true =>
    obtain ⟨hf, hl, hasc⟩ := ok_len hok
    have H := Lib.hid (rcheck2 f A n c l w h 0 (chk0 hok))
    clear hasc
    by_cases hv0 : v < 0
    · have e : leaderR f l v = 0 := by unfold leaderR; rw [if_neg]; omega
      rw [e]; clear e hok h
      go_enter Try.func31, Try.ntmps31
      go_wp2_with (go_at_call 21; refine H.out.mono ?_; rintro e w' ⟨rfl, hx⟩; replace hx := Lib.hid hx)
      go_ret
      exact ⟨rfl, hx.out.bel⟩
    · have hn0 : (0 : Int) < n := by omega
      have hm0 := Int.emod_nonneg v (show (n : Int) ≠ 0 by omega)
      have hm1 := Int.emod_lt_of_pos v hn0
      obtain ⟨k, hk⟩ : ∃ k : Nat, v % (n : Int) = (k : Int) := ⟨(v % (n : Int)).toNat, by omega⟩
      have ht : v.tmod (n : Int) = (k : Int) := by rw [Int.tmod_eq_emod_of_nonneg (by omega), hk]
      have hkn : k < l.length := by omega
      have e : leaderR f l v = l[k] := by
        unfold leaderR
        rw [if_pos ⟨hok, by omega⟩, hln, hk]
        simp [List.getD, List.getElem?_eq_getElem hkn]
      rw [e]
      have hcell : ∀ W, ArgI W A n c l → ∃ b off, A = some ⟨b, off, none⟩ ∧ W.cell? ⟨b, off + k, none⟩ = some (.int .i64 l[k]) := fun W hW => by
        obtain ⟨b, off, e, _, hc⟩ := hW.2.2.2.1.at_ hkn
        exact ⟨b, off, e, hc k hkn⟩
      obtain ⟨b, off, rfl, _⟩ := hcell w h
      have HC := Lib.hid (fun W (hW : ArgI W (some ⟨b, off, none⟩) n c l) => show W.cell? ⟨b, off + k, none⟩ = some (.int .i64 l[k]) from by
        obtain ⟨b', off', e, hc⟩ := hcell W hW
        injection e with e
        injection e with e1 e2
        subst e1; subst e2
        exact hc)
      clear e hok h hcell
      generalize l[k] = y at *
      have hk0 : (0 : Int) ≤ k := by omega
      have hk1 : (k : Int) < n := by omega
      have hnz : (n == 0) = false := by simp; omega
      have hnz2 : ¬ (n : Int) = 0 := by omega
      clear hm0 hm1 hk hkn
      go_enter Try.func31, Try.ntmps31
      go_wp2_with (go_at_call 21; refine H.out.mono ?_; rintro e w' ⟨rfl, hx⟩; have k0 := hx.k0; have k1 := hx.k1; have k2 := HC.out _ hx.arg; replace hx := Lib.hid hx)
      go_quiet (fail)
      go_wp2
      go_ret
      exact ⟨rfl, below_drewN hx.out.bel _⟩


theorem others_take (l : List Int) (x : Int) {j : Nat} (h : j < l.length) : othersL (l.take (j + 1)) x = othersL (l.take j) x ++ (if l[j] = x then [] else [l[j]]) := by
  unfold othersL
  rw [List.take_succ_eq_append_getElem h, List.filter_append]
  congr 1
  by_cases e : l[j] = x <;> simp [e]
set_option maxRecDepth 100000 in
set_option maxHeartbeats 1600000 in
theorem rothers_any (h : ArgI w A n c l) (x : Int) : Calls Try.prog 34 #[.agg #[.int .i64 f, .slice A n c], .int .i64 x] w fun e w' => ∃ v, e = .returned v ∧ NewI w (othersR f l x) v w' := by
  have hln := h.1
  have hcm := h.2.2.1
  unfold maxLen at hcm
  have hnc := h.2.1
  have hx := Lib.hid (Bx.new (f := f) h)
  cases hok : okC f l with
  | false =>
    have e : othersR f l x = [] := by simp [othersR, hok]
    rw [e]
    have HC := Lib.hid (fun W (hW : Bx w W f A n c l) => rcheck_bx f A n c l w W hW 110 (chk1 hok))
    clear e hok h
    go_enter Try.func34, Try.ntmps34
    go_wp2
    go_loopw [5, 6] (fun v5 v6 wr => v5 = .slice none 0 0 ∧ v6 = .int .i64 0 ∧ Bx w wr f A n c l) (fun _ v _ => 0)
    case atStart => exact ⟨rfl, rfl, hx.out⟩
    case round =>
      obtain ⟨rfl, rfl, hxr⟩ := hrel
      have k0 := hxr.k0
      have k1 := hxr.k1
      have Hxr := Lib.hid hxr
      by_cases hn0 : 0 < n
      · have hi1 : (0 : Int) < n := by omega
        clear hxr
        go_wp2_with fail
        refine (HC.out _ Hxr.out).mono ?_
        rintro e w1 ⟨rfl, hx1, _⟩
        have Hx1 := Lib.hid hx1
        clear hx1 k0 k1
        go_wp2
        go_ret
        exact ⟨_, rfl, OwnI.nil _ _, Hx1.out.bel⟩
      · have hi1 : ¬ (0 : Int) < n := by omega
        clear hxr
        go_wp2
        go_ret
        exact ⟨_, rfl, OwnI.nil _ _, Hxr.out.bel⟩
  | true =>
    obtain ⟨hf, hl, hasc⟩ := ok_len hok
    have e : othersR f l x = othersL l x := by simp [othersR, hok]
    rw [e]
    have HC := Lib.hid (fun W (hW : Bx w W f A n c l) => rcheck_bx f A n c l w W hW 0 (chk0 hok))
    have hn7 : n ≤ 7 := by omega
    have HA := Lib.hid h
    clear e hok h hf hl hasc
    go_enter Try.func34, Try.ntmps34
    go_wp2
    go_loopw [5, 6] (fun v5 v6 wr => ∃ j : Nat, j ≤ n ∧ v6 = .int .i64 j ∧ Bx w wr f A n c l ∧ OwnI wr (w.heap.size + 1) v5 (othersL (l.take j) x)) (fun _ v _ => n - (intOf v).toNat)
    case atStart => exact ⟨0, Nat.zero_le _, rfl, hx.out, OwnI.nil _ _⟩
    case round =>
      obtain ⟨j, hj, rfl, hxr, hO⟩ := hrel
      have hi0 : (0 : Int) ≤ j := by omega
      have k0 := hxr.k0
      have k1 := hxr.k1
      have Hxr := Lib.hid hxr
      by_cases hlt : j < n
      · have hi1 : (j : Int) < n := by omega
        have hjl : j < l.length := by omega
        have hot := others_take l x hjl
        have hol : (othersL (l.take j) x).length ≤ 7 := Nat.le_trans (List.length_filter_le ..) (by rw [List.length_take]; omega)
        have HO := Lib.hid hO
        clear hxr hO
        go_wp2_with fail
        refine (HC.out _ Hxr.out).mono ?_
        rintro e w1 ⟨rfl, hx1, hb1⟩
        have k0 := hx1.k0
        have k1 := hx1.k1
        have hO := own_below HO.out hb1
        have hsz : w.heap.size + 1 ≤ w1.heap.size := hx1.blk.lt
        obtain ⟨b1, o1, rfl, l1, q1⟩ := hx1.arg.2.2.2.1.at_ hjl
        have c1 := q1 j hjl
        generalize l[j] = y at *
        obtain ⟨pk, hpk⟩ : ∃ pk, othersL (l.take j) x = pk := ⟨_, rfl⟩
        rw [hpk] at hO hot hol
        by_cases hyx : y = x
        · have hq : (y == x) = true := by simp [hyx]
          rw [if_pos hyx, List.append_nil] at hot
          have H2 := Lib.hid (And.intro hO (And.intro hx1 hot))
          clear hO hx1 hot q1 hjl hpk HO hb1
          go_wp2
          exact ⟨⟨j + 1, by omega, by go_num, H2.out.2.1, by rw [H2.out.2.2]; exact H2.out.1⟩, by simp [intOf]; omega⟩
        · have hq : (y == x) = false := by simp [hyx]
          rw [if_neg hyx] at hot
          obtain ⟨A5, c5, rfl, _⟩ := OwnI.form hO
          have hbn : Below w1.heap.size w1 (w1.alloc (.cells #[.int .i64 y] 3)) := (Below.refl _ _).alloc (Nat.le_refl _) _
          have hO2 := own_below hO hbn
          have hrow := fun i hi => (hO2.lt i hi).1
          have hIs := is_new w1 [y]
          have H2 := Lib.hid (And.intro hO2 (And.intro hIs (And.intro (hx1.on hbn) (And.intro hrow hot))))
          have hs2 : w.heap.size + 1 ≤ (w1.alloc (.cells #[.int .i64 y] 3)).heap.size := by simp; omega
          clear hO hx1 q1 hjl hpk hbn hO2 hrow hIs hot HO hb1
          go_wp2_with (at_builtin; refine wp_appendI rfl _ _ rfl (w.heap.size + 1) _ pk rfl H2.out.1 (some ⟨w1.heap.size, 0, none⟩) 1 1 [y] rfl H2.out.2.1 rfl (by omega) hs2 ?_; intro v2 w3 hO3 hg3 ho3; replace hO3 := Lib.hid hO3; replace hg3 := Lib.hid hg3)
          have hne : ∀ i, Value.ownBlock (.slice A5 pk.length c5) = some i → w.heap.size + 1 ≤ i := fun i hi => H2.out.2.2.2.1 i hi
          have hb3 : Below w.heap.size w w3 := (H2.out.2.2.1.bel.grown hg3.out (by omega) (fun i hi => by have := hne i hi; omega))
          have hx3 : Bx w w3 f (some ⟨b1, o1, none⟩) n c l := ⟨H2.out.2.2.1.blk.grown hg3.out (fun e => by have := hne _ e; omega), hb3, HA.out.after hb3⟩
          exact ⟨⟨j + 1, by omega, by go_num, hx3, by rw [H2.out.2.2.2.2]; exact hO3.out⟩, by simp [intOf]; omega⟩
      · have hi1 : ¬ (j : Int) < n := by omega
        rw [List.take_of_length_le (by omega)] at hO
        have HO := Lib.hid hO
        clear hxr hO
        go_wp2
        go_ret
        exact ⟨_, rfl, own_base HO.out (by omega), Hxr.out.bel⟩
end
end Go.Proofs.Ytjibbbfpbflgmaa
