/-
  The statements' helper works over the code.
-/
import Derived.Test.YtjibbbfpbflgmaaWk8
namespace Go.Proofs.Ytjibbbfpbflgmaa
open Go.RowKit Go.Shelf CrewP
set_option linter.unusedVariables false

theorem RetC.open_ {w w' : World} {F E : Int} {L : List Int} {r : Int × List Int × Int} {e : Ending} (h : RetC w r e w') (hr : r = (F, L, E)) (hw : ∀ x ∈ L, Wf x) : ∃ A c, e = .returned (.tuple #[.agg #[.int .i64 F, .slice A L.length c], .int .i64 E]) ∧ ArgI w' A L.length c L ∧ Below w.heap.size w w' := by
  subst hr
  obtain ⟨v, he, hN⟩ := h
  obtain ⟨A, c, e, h1⟩ := hN.own.arg hw
  subst e
  exact ⟨A, c, he, h1, hN.2⟩

theorem rank_eq {l : List Int} {m : Nat} (h1 : 1 ≤ m) (h2 : m ≤ l.length) {r : Int} (hr : m ≤ l.countP (fun x => decide (r ≤ x))) (ha : l.countP (fun x => decide (r < x)) < m) : rankL l m = r := by
  have h3 := rank_most h1 h2 hr
  rcases Int.lt_or_le r (rankL l m) with h | h
  · have h4 := rank_reached h1 h2
    have h5 : l.countP (fun y => decide (rankL l m ≤ y)) ≤ l.countP (fun y => decide (r < y)) := List.countP_mono_left fun y _ hy => by simp at hy ⊢; omega
    omega
  · omega
theorem make_ex {f : Int} {l m : List Int} (hp : l.Perm m) (hk : okC f m = true) : makeR f l = (f, m, 0) := by
  have hs := sort_of hp ((okC_iff f m).1 hk).2.2
  unfold makeR
  rw [hs, if_pos]
  unfold okC at hk
  rwa [hp.length_eq]
theorem rank_ex {f : Int} {l rs : List Int} {m : Nat} {r : Int} (hk : okC f l = true) (hl : rs.length = l.length) (h1 : 1 ≤ m) (h2 : m ≤ l.length) (hr : m ≤ rs.countP (fun x => decide (r ≤ x))) (ha : rs.countP (fun x => decide (r < x)) < m) : rankR f l rs m = (r, 0) := by
  unfold rankR
  rw [if_neg (by simp [hk]), if_neg (by omega), Int.toNat_natCast, rank_eq h1 (by omega) hr ha]
set_option maxRecDepth 100000 in
set_option maxHeartbeats 3200000 in
theorem works_any (w : World) : Calls Try.prog 24 #[] w fun e w' => e = .returned (.bool true) ∧ Below w.heap.size w w' := by
  have hb0 : Below w.heap.size w (w.alloc (.cells (cis [7, 2, 5, 3]).toArray 3)) := (Below.refl _ _).alloc (Nat.le_refl _) _
  have hM := make_any 1 (some ⟨w.heap.size, 0, none⟩) 4 4 [7, 2, 5, 3] _ (list_new w [7, 2, 5, 3] (by decide) (by decide)) (by decide)
  have H0 := Lib.hid (And.intro hM hb0)
  clear hM hb0
  go_enter Try.func24, Try.ntmps24
  go_wp2_with fail
  refine H0.out.1.mono ?_
  rintro e w1 hr1
  obtain ⟨A1, c1, rfl, ha1, hb1⟩ := hr1.open_ (F := 1) (L := [2, 3, 5, 7]) (E := 0) (make_ex (by decide) (by decide)) (by decide)
  have hbw1 := H0.out.2.trans (hb1.mono H0.out.2.size)
  have hB1 : Blk (w1.alloc (.cells #[.int .i64 1, .slice A1 4 c1] 24)) w1.heap.size 24 [.int .i64 1, .slice A1 4 c1] := Blk.new rfl rfl
  have hbn : Below w1.heap.size w1 (w1.alloc (.cells #[.int .i64 1, .slice A1 4 c1] 24)) := (Below.refl _ _).alloc (Nat.le_refl _) _
  have H1 := Lib.hid (And.intro hB1 (And.intro (ha1.after hbn) (hbw1.trans (hbn.mono hbw1.size))))
  clear hr1 ha1 hb1 hbw1 hB1 hbn H0
  go_wp2_with fail
  refine (chapter_any _).mono ?_
  rintro e w2 ⟨v2, rfl, ⟨A2, c2, rfl, ha2⟩, hb2⟩
  have H2 := Lib.hid (And.intro (H1.out.1.below hb2 H1.out.1.lt) (And.intro (H1.out.2.1.after hb2) (And.intro (H1.out.2.2.trans (hb2.mono H1.out.2.2.size)) (replace_any 1 A2 4 c2 [2, 3, 5, 7] w2 ha2 (by decide) 3 4 (by decide)))))
  clear ha2 hb2 H1
  go_wp2_with fail
  refine H2.out.2.2.2.mono ?_
  rintro e w3 hr3
  obtain ⟨A3, c3, rfl, ha3, hb3⟩ := hr3.open_ (F := 1) (L := [2, 4, 5, 7]) (E := 0) (by decide +kernel) (by decide)
  have hB3 : Blk (w3.alloc (.cells #[.int .i64 1, .slice A3 4 c3] 24)) w3.heap.size 24 [.int .i64 1, .slice A3 4 c3] := Blk.new rfl rfl
  have hbn : Below w3.heap.size w3 (w3.alloc (.cells #[.int .i64 1, .slice A3 4 c3] 24)) := (Below.refl _ _).alloc (Nat.le_refl _) _
  have hbs := hb3.trans (hbn.mono hb3.size)
  have H3 := Lib.hid (And.intro hB3 (And.intro (ha3.after hbn) (And.intro (H2.out.1.below hbs H2.out.1.lt) (And.intro (H2.out.2.1.after hbs) (H2.out.2.2.1.trans (hbs.mono H2.out.2.2.1.size))))))
  clear hr3 ha3 hb3 hB3 hbn hbs H2
  go_wp2_with fail
  refine (chapter_any _).mono ?_
  rintro e w4 ⟨v4, rfl, ⟨A4, c4, rfl, ha4⟩, hb4⟩
  have hbn : Below w4.heap.size w4 (w4.alloc (.cells (cis [4, 9, 1, 6]).toArray 3)) := (Below.refl _ _).alloc (Nat.le_refl _) _
  have hbs := hb4.trans (hbn.mono hb4.size)
  have hR := rank_any 1 A4 4 c4 [2, 3, 5, 7] _ (ha4.after hbn) (some ⟨w4.heap.size, 0, none⟩) 4 4 [4, 9, 1, 6] (list_new w4 [4, 9, 1, 6] (by decide) (by decide)) 2 (by decide)
  rw [show rankR 1 [2, 3, 5, 7] [4, 9, 1, 6] 2 = (6, 0) from rank_ex (m := 2) (by decide) (by decide) (by decide) (by decide) (by decide) (by decide)] at hR
  have H4 := Lib.hid (And.intro (H3.out.1.below hbs H3.out.1.lt) (And.intro (H3.out.2.1.after hbs) (And.intro (H3.out.2.2.1.below hbs H3.out.2.2.1.lt) (And.intro (H3.out.2.2.2.1.after hbs) (And.intro (H3.out.2.2.2.2.trans (hbs.mono H3.out.2.2.2.2.size)) hR)))))
  clear ha4 hb4 hbn hbs hR H3
  go_wp2_with fail
  refine H4.out.2.2.2.2.2.mono ?_
  rintro e w5 ⟨rfl, hb5⟩
  have hB3 := H4.out.1.below hb5 H4.out.1.lt
  have hA3 := H4.out.2.1.after hb5
  have hB1 := H4.out.2.2.1.below hb5 H4.out.2.2.1.lt
  have hA1 := H4.out.2.2.2.1.after hb5
  have hbw := H4.out.2.2.2.2.1.trans (hb5.mono H4.out.2.2.2.2.1.size)
  have H5 := Lib.hid (And.intro hB1 (And.intro hA1 (And.intro hB3 (And.intro hA3 hbw))))
  clear hB3 hA3 hB1 hA1 hbw hb5 H4
  go_wp2_with fail
  refine region_rule4 (P := Try.prog) 53 75 wkD wkG wkS (wkR w1.heap.size w3.heap.size A1 A3 c1 c3) _ _ (by kernel_rfl) rfl rfl (by kernel_rfl) (by decide +kernel) (wk_gb w1.heap.size w3.heap.size A1 A3 c1 c3) (wk_sk w1.heap.size w3.heap.size A1 A3 c1 c3) (wk_on w1.heap.size w3.heap.size A1 A3 c1 c3) (wk_step w1.heap.size w3.heap.size A1 A3 c1 c3 (by rfl) (by kernel_rfl) rfl rfl rfl rfl rfl rfl H5.out.1 H5.out.2.1 H5.out.2.2.1 H5.out.2.2.2.1) ?fin
  case fin =>
    intro a w6 hbase hbl hall
    obtain ⟨v0, hv0, hR0⟩ := hall 52 (by decide)
    have hR0' : v0 = .bool true := hR0
    subst hR0'
    have hres : a.tmps[0]? = some (.bool true) := hv0
    have hdf : a.defers = [] := hbase.2.1
    have hB := H5.out.2.2.2.2.trans (hbl.mono H5.out.2.2.2.2.size)
    go_wp2
    refine bodyPost_ret (results_tmp rfl _ _ _) hdf ?_
    refine ⟨?_, hB⟩
    have e0 : a.tmps.getD 0 undef = .bool true := by rw [Array.getD_eq_getD_getElem?, hres]; rfl
    rw [e0]
end Go.Proofs.Ytjibbbfpbflgmaa
