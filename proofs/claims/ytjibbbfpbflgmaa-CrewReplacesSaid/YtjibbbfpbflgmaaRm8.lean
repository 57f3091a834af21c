/-
  The document's Make over the reference's code: of, Make.
-/
import Derived.Test.YtjibbbfpbflgmaaRt8
import Derived.Test.YtjibbbfpbflgmaaMak8
namespace Go.Proofs.Ytjibbbfpbflgmaa
open Go.RowKit Go.Shelf CrewP
set_option linter.unusedVariables false

theorem ofTo_at (l : List Int) {j : Nat} {y : Int} (hy : y = (j : Int) + 1) : ofTo l (j + 1) = ofTo l j ++ (if y ∈ l then [y] else []) := by
  subst hy; exact ofTo_succ l j
section
variable (f : Int) (A : Option Addr) (n c : Nat) (l : List Int) (w : World)
set_option maxRecDepth 100000 in
set_option maxHeartbeats 1600000 in
theorem rof_any (h : ArgI w A n c l) : Calls Try.prog 48 #[.int .i64 f, .slice A n c] w fun e w' => ∃ v, e = .returned (.agg #[.int .i64 f, v]) ∧ NewI w (ofTo l 28) v w' := by
  obtain ⟨W0, hW0⟩ : ∃ W, w.alloc (.cells #[.int .i64 0, .slice none 0 0] 24) = W := ⟨_, rfl⟩
  have hs0 : W0.heap.size = w.heap.size + 1 := by rw [← hW0]; simp
  have hR0 : Blk W0 w.heap.size 24 [.int .i64 0, .slice none 0 0] := by rw [← hW0]; exact Blk.new rfl rfl
  have hb0 : Below w.heap.size w W0 := by rw [← hW0]; exact (Below.refl _ _).alloc (Nat.le_refl _) _
  have hbn : Below W0.heap.size W0 (W0.alloc (.cells #[.int .i64 f, .slice none 0 0] 24)) := (Below.refl _ _).alloc (Nat.le_refl _) _
  have hC : Blk (W0.alloc (.cells #[.int .i64 f, .slice none 0 0] 24)) (w.heap.size + 1) 24 [.int .i64 f, .slice none 0 0] := Blk.new rfl hs0
  have hR := hR0.below hbn hR0.lt
  have hb := hb0.trans (hbn.mono hb0.size)
  have H1 := Lib.hid (And.intro hC (And.intro hR (And.intro hb h)))
  have HW := Lib.hid hW0
  clear hR0 hb0 hbn hC hR hb h hW0
  go_enter Try.func48, Try.ntmps48
  go_wp2
  rw [HW.out]
  go_loopw [6] (fun v6 wr => ∃ (j : Nat) (v : Value), j ≤ 28 ∧ v6 = .int .i64 ((j : Int) + 1) ∧ Blk wr (w.heap.size + 1) 24 [.int .i64 f, v] ∧ OwnI wr (w.heap.size + 2) v (ofTo l j) ∧ Blk wr w.heap.size 24 [.int .i64 0, .slice none 0 0] ∧ Below w.heap.size w wr) (fun v _ => 29 - (intOf v).toNat)
  case atStart => exact ⟨0, _, Nat.zero_le _, rfl, H1.out.1, OwnI.nil _ _, H1.out.2.1, H1.out.2.2.1⟩
  case round =>
    obtain ⟨j, v, hj, rfl, hC, hO, hR, hb⟩ := hrel
    have hsz : w.heap.size + 2 ≤ wr.heap.size := hC.lt
    obtain ⟨y, hy⟩ : ∃ y, (j : Int) + 1 = y := ⟨_, rfl⟩
    have hot := ofTo_at l hy.symm
    have hol := ofTo_len l j
    have hw3 : IntKind.i64.wrap (y + 1) = y + 1 := IntWalk.i64_in _ (by omega)
    rw [hy]
    by_cases hlt : j < 28
    · have hi1 : y ≤ 28 := by omega
      have hIn := rin_any A n c l y wr (H1.out.2.2.2.after hb)
      by_cases hm : y ∈ l
      · rw [if_pos hm] at hot
        rw [decide_eq_true hm] at hIn
        obtain ⟨pk, hpk⟩ : ∃ pk, ofTo l j = pk := ⟨_, rfl⟩
        rw [hpk] at hO hot hol
        obtain ⟨A5, c5, rfl, _⟩ := OwnI.form hO
        have hc1 : wr.cell? ⟨w.heap.size + 1, 1, none⟩ = some (.slice A5 pk.length c5) := hC.cell rfl
        have hbn : Below wr.heap.size wr (wr.alloc (.cells #[.int .i64 y] 3)) := (Below.refl _ _).alloc (Nat.le_refl _) _
        have hO2 := own_below hO hbn
        have hrow := fun i hi => (hO2.lt i hi).1
        have hIs := is_new wr [y]
        have hsz2 := hbn.size
        have Hi := Lib.hid hIn
        have H2 := Lib.hid (And.intro (hC.below hbn hC.lt) (And.intro hO2 (And.intro (hR.below hbn hR.lt) (And.intro (hb.trans (hbn.mono hb.size)) (And.intro hrow (And.intro hIs hot))))))
        clear hC hO hR hb hbn hO2 hrow hIs hot hIn hpk
        go_wp2_with fail
        refine Hi.out.mono ?_
        rintro e w2 ⟨rfl, hw2⟩
        subst hw2
        have ehl : (pk ++ [y]).length = pk.length + 1 := by simp
        go_wp2_with (at_builtin; refine wp_appendI rfl _ _ rfl (w.heap.size + 2) _ pk rfl H2.out.2.1 (some ⟨w2.heap.size, 0, none⟩) 1 1 [y] rfl H2.out.2.2.2.2.2.1 rfl (by omega) (by omega) ?_; intro v2 w3 hO3 hg3 ho3; obtain ⟨A6, c6, rfl, _⟩ := hO3.form; rw [ehl] at hO3; have hC3 := H2.out.1.grown hg3 (fun e => by have := H2.out.2.2.2.2.1 _ e; omega); have hc3 : w3.cell? ⟨w.heap.size + 1, 1, none⟩ = some (.slice A5 pk.length c5) := hC3.cell rfl; have hq3 := hC3.free; replace hC3 := Lib.hid hC3; replace hg3 := Lib.hid hg3; replace hO3 := Lib.hid hO3)
        have hC4 := hC3.out.set_ 1 (.slice A6 (pk.length + 1) c6)
        have hO4 := own_set hO3.out (g := w.heap.size + 1) (by omega) 1 (.slice A6 (pk.length + 1) c6)
        have hR4 := (H2.out.2.2.1.grown hg3.out (fun e => by have := H2.out.2.2.2.2.1 _ e; omega)).far (p := ⟨w.heap.size + 1, 1, none⟩) (by show w.heap.size ≠ w.heap.size + 1; omega) (.slice A6 (pk.length + 1) c6)
        have hb4 := (below_append H2.out.2.2.2.1 H2.out.2.1 hg3.out (by omega) (by omega)).setCell (p := ⟨w.heap.size + 1, 1, none⟩) (by show w.heap.size ≤ w.heap.size + 1; omega) (.slice A6 (pk.length + 1) c6)
        refine ⟨⟨j + 1, .slice A6 (pk.length + 1) c6, by omega, by rw [← hy]; go_num, hC4, by rw [H2.out.2.2.2.2.2.2]; exact hO4, hR4, hb4⟩, by simp [intOf]; omega⟩
      · rw [if_neg hm, List.append_nil] at hot
        rw [decide_eq_false hm] at hIn
        have H2 := Lib.hid (And.intro hC (And.intro hO (And.intro hR (And.intro hb (And.intro hIn hot)))))
        clear hC hO hR hb hIn hot
        go_wp2_with fail
        refine H2.out.2.2.2.2.1.mono ?_
        rintro e w2 ⟨rfl, hw2⟩
        subst hw2
        go_wp2
        exact ⟨⟨j + 1, v, by omega, by rw [← hy]; go_num, H2.out.1, by rw [H2.out.2.2.2.2.2]; exact H2.out.2.1, H2.out.2.2.1, H2.out.2.2.2.1⟩, by simp [intOf]; omega⟩
    · have hi1 : ¬ y ≤ 28 := by omega
      have hj28 : j = 28 := by omega
      subst hj28
      obtain ⟨A5, c5, rfl, _⟩ := OwnI.form hO
      have c0 : wr.cell? ⟨w.heap.size + 1, 0, none⟩ = some (.int .i64 f) := hC.cell rfl
      have c1 : wr.cell? ⟨w.heap.size + 1, 1, none⟩ = some (.slice A5 (ofTo l 28).length c5) := hC.cell rfl
      have r0 : wr.cell? ⟨w.heap.size, 0, none⟩ = some (.int .i64 0) := hR.cell rfl
      have r1 : wr.cell? ⟨w.heap.size, 1, none⟩ = some (.slice none 0 0) := hR.cell rfl
      have q0 := hR.free
      obtain ⟨hb1, hb2⟩ := out0 hR hb (Nat.le_refl _) f (.slice A5 (ofTo l 28).length c5)
      have hO5 := own_set (own_set hO (g := w.heap.size) (by omega) 0 (.int .i64 f)) (g := w.heap.size) (by omega) 1 (.slice A5 (ofTo l 28).length c5)
      have H5 := Lib.hid (And.intro hb1 (And.intro hb2 hO5))
      clear hC hO hR hb hb1 hb2 hO5 hot hol
      go_wp2
      refine bodyPost_ret (results_row rfl _ _ w.heap.size 24 _ _ rfl H5.out.1 Try.underlying24 rfl crew_size) rfl ?_
      exact ⟨_, rfl, own_base H5.out.2.2 (by omega), H5.out.2.1⟩
set_option maxRecDepth 100000 in
set_option maxHeartbeats 1600000 in
theorem rmake_any (h : ArgI w A n c l) : Calls Try.prog 19 #[.int .i64 f, .slice A n c] w (RetC w (makeD f l)) := by
  have hln := h.1
  have hcm := h.2.2.1
  unfold maxLen at hcm
  have hnc := h.2.1
  have hwl := h.2.2.2.2
  obtain ⟨W0, hW0⟩ : ∃ W, w.alloc (.cells #[.int .i64 0, .slice none 0 0] 24) = W := ⟨_, rfl⟩
  have hR0 : Blk W0 w.heap.size 24 [.int .i64 0, .slice none 0 0] := by rw [← hW0]; exact Blk.new rfl rfl
  have hb0 : Below w.heap.size w W0 := by rw [← hW0]; exact (Below.refl _ _).alloc (Nat.le_refl _) _
  have hof := rof_any f A n c l W0 (h.after hb0)
  have H := Lib.hid (And.intro hR0 (And.intro hb0 (And.intro hof hwl)))
  have HW := Lib.hid hW0
  clear hR0 hb0 hof hW0 h hwl
  obtain ⟨r, hr⟩ : ∃ r, makeD f l = r := ⟨_, rfl⟩
  rw [hr]
  have Hr := Lib.hid hr
  clear hr
  go_enter Try.func19, Try.ntmps19
  go_wp2_with fail
  rw [HW.out]
  refine H.out.2.2.1.mono ?_
  rintro e w1 ⟨v, rfl, hN⟩
  obtain ⟨A1, c1, rfl, hA1⟩ := hN.own.arg (fun x hx => H.out.2.2.2 x ((ofTo_mem l 28 x).1 hx).2)
  have hmd : makeD f l = if okC f (ofTo l 28) = false ∨ (ofTo l 28).length ≠ l.length then (0, [], 2) else (f, ofTo l 28, 0) := rfl
  rw [Hr.out, hln] at hmd
  obtain ⟨pk, hpk⟩ : ∃ pk, ofTo l 28 = pk := ⟨_, rfl⟩
  have hO1 := hN.own
  rw [hpk] at hA1 hmd hO1
  rw [hpk]
  obtain ⟨n1, hn1⟩ : ∃ k, pk.length = k := ⟨_, rfl⟩
  rw [hn1] at hA1 hmd
  rw [hn1]
  have hbn : Below w1.heap.size w1 (w1.alloc (.cells #[.int .i64 f, .slice A1 n1 c1] 24)) := (Below.refl _ _).alloc (Nat.le_refl _) _
  have hbs := hN.2.trans (hbn.mono hN.2.size)
  have hC : Blk (w1.alloc (.cells #[.int .i64 f, .slice A1 n1 c1] 24)) w1.heap.size 24 [.int .i64 f, .slice A1 n1 c1] := Blk.new rfl rfl
  have hR := H.out.1.below hbs H.out.1.lt
  have hb := H.out.2.1.trans (hbs.mono H.out.2.1.size)
  have hO : OwnI (w1.alloc (.cells #[.int .i64 f, .slice A1 pk.length c1] 24)) W0.heap.size (.slice A1 pk.length c1) pk := own_below hO1 (by rw [hn1]; exact hbn)
  have hk := rcheck_any f A1 n1 c1 pk _ (hA1.after hbn)
  have hwg : w.heap.size + 1 ≤ W0.heap.size := H.out.1.lt
  have hwg1 : w.heap.size < w1.heap.size := Nat.lt_of_lt_of_le hwg hN.2.size
  rw [hn1] at hO
  have H1 := Lib.hid (And.intro hC (And.intro hR (And.intro hb (And.intro hO (And.intro hk (And.intro hmd hn1))))))
  clear hbn hbs hC hR hb hO hk hmd hn1 hpk hO1 hA1 hN
  have fin2 : ∀ W, Blk W w.heap.size 24 [.int .i64 0, .slice none 0 0] → Below w.heap.size w W → r = (0, [], 2) → Blk ((W.setCell ⟨w.heap.size, 0, none⟩ (.int .i64 0)).setCell ⟨w.heap.size, 1, none⟩ (.slice none 0 0)) w.heap.size 24 [.int .i64 0, .slice none 0 0] ∧ RetC w r (.returned (.tuple #[.agg #[.int .i64 0, .slice none 0 0], .int .i64 2])) ((W.setCell ⟨w.heap.size, 0, none⟩ (.int .i64 0)).setCell ⟨w.heap.size, 1, none⟩ (.slice none 0 0)) := fun W h1 h2 h3 => by
    subst h3
    obtain ⟨h4, h5⟩ := out0 h1 h2 (Nat.le_refl _) 0 (.slice none 0 0)
    exact ⟨h4, _, rfl, OwnI.nil _ _, h5⟩
  have HF := Lib.hid fin2
  clear fin2
  cases hok : okC f pk with
  | false =>
    have hk := H1.out.2.2.2.2.1
    rw [chk1 hok] at hk
    have hr : r = (0, [], 2) := by rw [H1.out.2.2.2.2.2.1, if_pos (.inl hok)]
    have Hk := Lib.hid hk
    clear hk hok
    go_wp2_with fail
    refine Hk.out.mono ?_
    rintro e w3 ⟨rfl, hb3⟩
    have hR3 := H1.out.2.1.below hb3 H1.out.2.1.lt
    have r0 : w3.cell? ⟨w.heap.size, 0, none⟩ = some (.int .i64 0) := hR3.cell rfl
    have r1 : w3.cell? ⟨w.heap.size, 1, none⟩ = some (.slice none 0 0) := hR3.cell rfl
    have q0 := hR3.free
    have H5 := Lib.hid (HF.out w3 hR3 (H1.out.2.2.1.trans (hb3.mono H1.out.2.2.1.size)) hr)
    clear hR3 hb3 hr
    go_wp2
    refine bodyPost_ret (results_row_tmp rfl _ _ w.heap.size 24 _ _ _ rfl rfl H5.out.1 Try.underlying24 rfl crew_size) rfl ?_
    exact H5.out.2
  | true =>
    have hk := H1.out.2.2.2.2.1
    rw [chk0 hok] at hk
    have Hk := Lib.hid hk
    by_cases hne : n1 = n
    · have hr : r = (f, pk, 0) := by rw [H1.out.2.2.2.2.2.1, if_neg]; rintro (h | h); rw [hok] at h; cases h; exact h hne
      subst hne
      subst hr
      have Ho := Lib.hid hok
      clear hk hok
      have k0 : (w1.alloc (.cells #[.int .i64 f, .slice A1 n1 c1] 24)).cell? ⟨w1.heap.size, 1, none⟩ = some (.slice A1 n1 c1) := H1.out.1.cell rfl
      go_wp2_with fail
      refine Hk.out.mono ?_
      rintro e w3 ⟨rfl, hb3⟩
      have hC3 := H1.out.1.below hb3 H1.out.1.lt
      have hR3 := H1.out.2.1.below hb3 H1.out.2.1.lt
      have hb := H1.out.2.2.1.trans (hb3.mono H1.out.2.2.1.size)
      have hO : OwnI w3 W0.heap.size (.slice A1 n1 c1) pk := own_below H1.out.2.2.2.1 hb3
      have c0 : w3.cell? ⟨w1.heap.size, 0, none⟩ = some (.int .i64 f) := hC3.cell rfl
      have c1' : w3.cell? ⟨w1.heap.size, 1, none⟩ = some (.slice A1 n1 c1) := hC3.cell rfl
      have r0 : w3.cell? ⟨w.heap.size, 0, none⟩ = some (.int .i64 0) := hR3.cell rfl
      have r1 : w3.cell? ⟨w.heap.size, 1, none⟩ = some (.slice none 0 0) := hR3.cell rfl
      have q0 := hR3.free
      obtain ⟨h4, h5⟩ := out0 hR3 hb (Nat.le_refl _) f (.slice A1 n1 c1)
      have hO5 := own_set (own_set hO (g := w.heap.size) (by omega) 0 (.int .i64 f)) (g := w.heap.size) (by omega) 1 (.slice A1 n1 c1)
      have H5 := Lib.hid (And.intro h4 (And.intro h5 hO5))
      clear hC3 hR3 hb hO hb3 h4 h5 hO5 k0
      go_wp2
      refine bodyPost_ret (results_row_tmp rfl _ _ w.heap.size 24 _ _ _ rfl rfl H5.out.1 Try.underlying24 rfl crew_size) rfl ?_
      exact ⟨_, rfl, own_base H5.out.2.2 (by omega), H5.out.2.1⟩
    · have hr : r = (0, [], 2) := by rw [H1.out.2.2.2.2.2.1, if_pos (.inr hne)]
      have hq : ((n1 : Int) == (n : Int)) = false := by simp; omega
      have hnei : ¬ (n1 : Int) = n := by omega
      clear hk hok
      have k0 : (w1.alloc (.cells #[.int .i64 f, .slice A1 n1 c1] 24)).cell? ⟨w1.heap.size, 1, none⟩ = some (.slice A1 n1 c1) := H1.out.1.cell rfl
      go_wp2_with fail
      refine Hk.out.mono ?_
      rintro e w3 ⟨rfl, hb3⟩
      have hC3 := H1.out.1.below hb3 H1.out.1.lt
      have c1' : w3.cell? ⟨w1.heap.size, 1, none⟩ = some (.slice A1 n1 c1) := hC3.cell rfl
      have hR3 := H1.out.2.1.below hb3 H1.out.2.1.lt
      have r0 : w3.cell? ⟨w.heap.size, 0, none⟩ = some (.int .i64 0) := hR3.cell rfl
      have r1 : w3.cell? ⟨w.heap.size, 1, none⟩ = some (.slice none 0 0) := hR3.cell rfl
      have q0 := hR3.free
      have H5 := Lib.hid (HF.out w3 hR3 (H1.out.2.2.1.trans (hb3.mono H1.out.2.2.1.size)) hr)
      clear hR3 hb3 hr hC3 k0
      go_wp2
      refine bodyPost_ret (results_row_tmp rfl _ _ w.heap.size 24 _ _ _ rfl rfl H5.out.1 Try.underlying24 rfl crew_size) rfl ?_
      exact H5.out.2
end
end Go.Proofs.Ytjibbbfpbflgmaa
