/-
  The crew's Make, Rank and Votes over the code.
-/
import Derived.Test.YtjibbbfpbflgmaaSort8
namespace Go.Proofs.Ytjibbbfpbflgmaa
open Go.RowKit Go.Shelf CrewP
set_option linter.unusedVariables false

theorem out0 {w W : World} {u0 u1 : Value} {g : Nat} (h : Blk W g 24 [u0, u1]) (hb : Below w.heap.size w W) (hg : w.heap.size ≤ g) (F : Int) (v : Value) : Blk ((W.setCell ⟨g, 0, none⟩ (.int .i64 F)).setCell ⟨g, 1, none⟩ v) g 24 [.int .i64 F, v] ∧
    Below w.heap.size w ((W.setCell ⟨g, 0, none⟩ (.int .i64 F)).setCell ⟨g, 1, none⟩ v) :=
  ⟨(h.set_ 0 _).set_ 1 _, (hb.setCell hg _).setCell hg _⟩
theorem sort_wf {l : List Int} (h : ∀ x ∈ l, Wf x) : ∀ x ∈ sortL l, Wf x := fun x hx => h x ((sort_perm l).mem_iff.1 hx)
theorem down_wf {l : List Int} (h : ∀ x ∈ l, Wf x) : ∀ x ∈ downL l, Wf x := fun x hx => h x ((down_perm l).mem_iff.1 hx)

section
variable (f : Int) (A : Option Addr) (n c : Nat) (l : List Int) (w : World)
set_option maxRecDepth 100000 in
set_option maxHeartbeats 1600000 in
theorem make_any (h : ArgI w A n c l) (hf : Wf f) : Calls Try.prog 18 #[.int .i64 f, .slice A n c] w (RetC w (makeR f l)) := by
  have hln := h.1
  have hcm := h.2.2.1
  have hnc := h.2.1
  unfold maxLen at hcm
  have hwl := h.2.2.2.2
  have hB0 : Blk (w.alloc (.cells #[.int .i64 0, .slice none 0 0] 24)) w.heap.size 24 [.int .i64 0, .slice none 0 0] := Blk.new rfl rfl
  have hb0 : Below w.heap.size w (w.alloc (.cells #[.int .i64 0, .slice none 0 0] 24)) := (Below.refl _ _).alloc (Nat.le_refl _) _
  have HS := Lib.hid (isSize_any f n (w.alloc (.cells #[.int .i64 0, .slice none 0 0] 24)))
  cases hs : sizeOk f n with
  | false =>
    have e : makeR f l = (0, [], 2) := by unfold makeR; rw [hln, hs]; rfl
    rw [hs] at HS
    rw [e]
    have H := Lib.hid (And.intro hB0 hb0)
    clear e h hB0 hb0 hwl
    go_enter Try.func18, Try.ntmps18
    go_wp2_with (go_at_call 45; refine HS.out.mono ?_; rintro e w' ⟨rfl, rfl⟩)
    have hb3 := Blk.new (w := w) (g := w.heap.size) (t := 24) (cs := #[.int .i64 0, .slice none 0 0]) (l := [.int .i64 0, .slice none 0 0]) rfl rfl
    refine bodyPost_ret (results_row_tmp rfl _ _ w.heap.size 24 _ _ _ rfl rfl hb3 Try.underlying24 rfl crew_size) rfl ?_
    exact ⟨_, rfl, World.ownsRow_nil _ _ _ _, H.out.2⟩
  | true =>
    obtain ⟨hs0, hs1, hs2⟩ := (sizeOk_iff f n).1 hs
    have hn7 : n ≤ 7 := by omega
    have hn1 : 0 < n := by omega
    have hC := clone_any A n c l _ (h.after hb0) (by omega)
    have H := Lib.hid (And.intro hB0 (And.intro hb0 (And.intro hC hwl)))
    have em : makeR f l = if rise 0 (sortL l) then (f, sortL l, 0) else (0, [], 2) := by unfold makeR; rw [hln, hs, Bool.true_and]
    have hok : okC f (sortL l) = rise 0 (sortL l) := by unfold okC; rw [sort_len, hln, hs, Bool.true_and]
    have Hm := Lib.hid (And.intro em hok)
    rw [hs] at HS
    clear h hB0 hb0 hC hwl hs em hok hs2
    go_enter Try.func18, Try.ntmps18
    go_wp2_with fail
    refine HS.out.mono ?_
    rintro e w' ⟨rfl, rfl⟩
    go_wp2_with fail
    refine H.out.2.2.1.mono ?_
    rintro e w2 ⟨v2, rfl, hN2⟩
    have hB2 := H.out.1.below hN2.2 (by simp)
    have hb2 := H.out.2.1.trans (hN2.2.mono (by simp))
    have hO2 := hN2.1
    rw [hln] at hO2
    rcases own_blk hO2 with ⟨_, e, _⟩ | ⟨g, cap, cs, e, hg, hBr, hn, hm, hcl, ht⟩
    · omega
    have hgs : w.heap.size + 1 ≤ g := by simpa using hg
    subst e
    have hgl := hBr.lt
    have hsz2 := hN2.2.size
    obtain ⟨gc, hgc⟩ : ∃ gc, w2.heap.size = gc := ⟨_, rfl⟩
    have hBc : Blk (w2.alloc (.cells #[.int .i64 f, .slice (some ⟨g, 0, none⟩) n cap] 24)) gc 24 [.int .i64 f, .slice (some ⟨g, 0, none⟩) n cap] := Blk.new rfl hgc
    have hbw : Below w2.heap.size w2 (w2.alloc (.cells #[.int .i64 f, .slice (some ⟨g, 0, none⟩) n cap] 24)) := (Below.refl _ _).alloc (Nat.le_refl _) _
    have hO3 : OwnI (w2.alloc (.cells #[.int .i64 f, .slice (some ⟨g, 0, none⟩) n cap] 24)) (w.heap.size + 1) (.slice (some ⟨g, 0, none⟩) n cap) l := by
      unfold OwnI
      rw [hln]
      exact own_base (own_below hO2 hbw) (by simp)
    have hB3 := hB2.below hbw (by simp at hsz2; omega)
    have hb3 := hb2.trans (hbw.mono (by simp at hsz2; omega))
    have hS := sort_any _ (w.heap.size + 1) g n cap l hO3 hln (by omega)
    have H2 := Lib.hid (And.intro hBc (And.intro hB3 (And.intro hb3 hS)))
    have k1 : (w2.alloc (.cells #[.int .i64 f, .slice (some ⟨g, 0, none⟩) n cap] 24)).cell? ⟨gc, 1, none⟩ = some (.slice (some ⟨g, 0, none⟩) n cap) := hBc.cell rfl
    have hgcg : gc ≠ g := by omega
    have hgcr : w.heap.size < gc := by omega
    clear hN2 hB2 hb2 hO2 hBr hcl ht hBc hbw hO3 hB3 hb3 hS hg hgl hsz2
    go_wp2_with fail
    refine H2.out.2.2.2.mono ?_
    rintro e w4 ⟨rfl, hO4, ho4⟩
    have hBc4 := ho4.blk H2.out.1 hgcg
    have hB4 := ho4.blk H2.out.2.1 (show ¬ w.heap.size = g by omega)
    have hb4 := H2.out.2.2.1.trans (ho4.above (B := w.heap.size) (fun i e => by subst e; omega) (by simp; omega))
    have ha4 : ArgI w4 (some ⟨g, 0, none⟩) n cap (sortL l) := by
      obtain ⟨A', c', e, h1, h2, h3⟩ := hO4.form
      injection e with e1 e2 e3
      subst e1; subst e3
      exact ⟨by rw [sort_len, hln], hn, hm, h3, sort_wf H.out.2.2.2⟩
    have d0 : w4.cell? ⟨gc, 0, none⟩ = some (.int .i64 f) := hBc4.cell rfl
    have d1 : w4.cell? ⟨gc, 1, none⟩ = some (.slice (some ⟨g, 0, none⟩) n cap) := hBc4.cell rfl
    have hC := check_any f (some ⟨g, 0, none⟩) n cap (sortL l) w4 ha4
    have hsl : (sortL l).length = n := by rw [sort_len, hln]
    have H4 := Lib.hid (And.intro hBc4 (And.intro hB4 (And.intro hb4 (And.intro hO4 hsl))))
    clear hBc4 hB4 hb4 ha4 hO4 ho4 k1 hsl
    cases hr : rise 0 (sortL l) with
    | true =>
      rw [chk0 (by rw [Hm.out.2, hr])] at hC
      have HC := Lib.hid hC
      have Hr2 := Lib.hid hr
      clear hC hr
      generalize sortL l = sl at *
      go_wp2_with fail
      refine HC.out.mono ?_
      rintro e w5 ⟨rfl, hb⟩
      have hBc5 := H4.out.1.below hb H4.out.1.lt
      have hB5 := H4.out.2.1.below hb H4.out.2.1.lt
      have hb5 := H4.out.2.2.1.trans (hb.mono H4.out.2.2.1.size)
      have e0 : w5.cell? ⟨gc, 0, none⟩ = some (.int .i64 f) := hBc5.cell rfl
      have e1 : w5.cell? ⟨gc, 1, none⟩ = some (.slice (some ⟨g, 0, none⟩) n cap) := hBc5.cell rfl
      have r0 : w5.cell? ⟨w.heap.size, 0, none⟩ = some (.int .i64 0) := hB5.cell rfl
      have r1 : w5.cell? ⟨w.heap.size, 1, none⟩ = some (.slice none 0 0) := hB5.cell rfl
      have q0 := hB5.free
      obtain ⟨hb1, hb2⟩ := out0 hB5 hb5 (Nat.le_refl _) f (.slice (some ⟨g, 0, none⟩) n cap)
      have hO5 := own_set (own_set (own_below H4.out.2.2.2.1 hb) (g := w.heap.size) (by omega) 0 (.int .i64 f)) (g := w.heap.size) (by omega) 1 (.slice (some ⟨g, 0, none⟩) n cap)
      have H5 := Lib.hid (And.intro hb1 (And.intro hb2 hO5))
      clear hBc5 hB5 hb5 hb1 hb2 hO5 hb d0 d1
      go_wp2
      refine bodyPost_ret (results_row_tmp rfl _ _ w.heap.size 24 _ _ _ rfl rfl H5.out.1 Try.underlying24 rfl crew_size) rfl ?_
      rw [Hm.out.1, Hr2.out, if_pos rfl]
      have hl5 := H4.out.2.2.2.2
      refine ⟨_, rfl, ?_, H5.out.2.1⟩
      exact own_base H5.out.2.2 (by omega)
    | false =>
      rw [chk1 (by rw [Hm.out.2, hr])] at hC
      have HC := Lib.hid hC
      have Hr2 := Lib.hid hr
      clear hC hr
      generalize sortL l = sl at *
      go_wp2_with fail
      refine HC.out.mono ?_
      rintro e w5 ⟨rfl, hb⟩
      have hB5 := H4.out.2.1.below hb H4.out.2.1.lt
      have hb5 := H4.out.2.2.1.trans (hb.mono H4.out.2.2.1.size)
      have r0 : w5.cell? ⟨w.heap.size, 0, none⟩ = some (.int .i64 0) := hB5.cell rfl
      have r1 : w5.cell? ⟨w.heap.size, 1, none⟩ = some (.slice none 0 0) := hB5.cell rfl
      have q0 := hB5.free
      obtain ⟨hb1, hb2⟩ := out0 hB5 hb5 (Nat.le_refl _) 0 (.slice none 0 0)
      have H5 := Lib.hid (And.intro hb1 hb2)
      clear hB5 hb5 hb1 hb2 hb d0 d1
      go_wp2
      refine bodyPost_ret (results_row_tmp rfl _ _ w.heap.size 24 _ _ _ rfl rfl H5.out.1 Try.underlying24 rfl crew_size) rfl ?_
      rw [Hm.out.1, Hr2.out, if_neg (by simp)]
      exact ⟨_, rfl, World.ownsRow_nil _ _ _ _, H5.out.2⟩

set_option maxRecDepth 100000 in
set_option maxHeartbeats 1600000 in
theorem rank_any (h : ArgI w A n c l) (A2 : Option Addr) (n2 c2 : Nat) (rs : List Int) (h2 : ArgI w A2 n2 c2 rs) (m : Int) (hm : Wf m) :
    Calls Try.prog 37 #[.agg #[.int .i64 f, .slice A n c], .slice A2 n2 c2, .int .i64 m] w fun e w' => e = .returned (.tuple #[.int .i64 (rankR f l rs m).1, .int .i64 (rankR f l rs m).2]) ∧ Below w.heap.size w w' := by
  have hln := h.1
  have hln2 := h2.1
  have hmb := bounds_i64 hm
  have hcm2 := h2.2.2.1
  have hnc2 := h2.2.1
  unfold maxLen at hcm2
  have hcm := h.2.2.1
  have hnc := h.2.1
  unfold maxLen at hcm
  clear hm
  cases hok : okC f l with
  | false =>
    have H := Lib.hid (check2 f A n c l w h 110 (chk1 hok))
    have e : rankR f l rs m = (0, 110) := by simp [rankR, hok]
    rw [e]; clear e hok h h2
    go_enter Try.func37, Try.ntmps37
    go_wp2_with (go_at_call 20; refine H.out.mono ?_; rintro e w' ⟨rfl, hx⟩; replace hx := Lib.hid hx)
    go_ret2
    exact ⟨rfl, hx.out.bel⟩
  | true =>
    obtain ⟨hf, hl, hasc⟩ := ok_len hok
    have H := Lib.hid (check2 f A n c l w h 0 (chk0 hok))
    have hbad : (rs.length ≠ l.length ∨ m < 1 ∨ (l.length : Int) < m) → rankR f l rs m = (0, 2) := fun hh => by unfold rankR; rw [if_neg (by simp [hok]), if_pos hh]
    by_cases h1 : n2 = n
    · subst h1
      have hne : ((n2 : Int) != (n2 : Int)) = false := by simp
      by_cases h3 : m < 1
      · rw [hbad (.inr (.inl h3))]
        clear hok h h2 hasc hbad hl
        go_enter Try.func37, Try.ntmps37
        go_wp2_with (go_at_call 20; refine H.out.mono ?_; rintro e w' ⟨rfl, hx⟩; have k0 := hx.k0; have k1 := hx.k1; replace hx := Lib.hid hx)
        go_ret2
        exact ⟨rfl, hx.out.bel⟩
      · by_cases h4 : (n2 : Int) < m
        · rw [hbad (.inr (.inr (by omega)))]
          clear hok h h2 hasc hbad hl
          go_enter Try.func37, Try.ntmps37
          go_wp2_with (go_at_call 20; refine H.out.mono ?_; rintro e w' ⟨rfl, hx⟩; have k0 := hx.k0; have k1 := hx.k1; replace hx := Lib.hid hx)
          go_ret2
          exact ⟨rfl, hx.out.bel⟩
        · obtain ⟨q, rfl⟩ : ∃ q : Nat, m = (q : Int) := ⟨m.toNat, by omega⟩
          have e : rankR f l rs q = (rankL rs q, 0) := by unfold rankR; rw [if_neg (by simp [hok]), if_neg (by omega)]; rfl
          have hr := rank_at (l := rs) (m := q) (by omega) (by omega)
          rw [e]
          have hn7 : n2 ≤ 7 := by omega
          have HA := Lib.hid h2
          clear e hok h h2 hasc hbad hl
          have Hr := Lib.hid hr
          clear hr
          generalize rankL rs q = y at *
          have hs : IntKind.i64.wrap ((q : Int) - 1) = (q : Int) - 1 := IntWalk.i64_in _ (by omega)
          have hs' : (q : Int) - 1 = ((q - 1 : Nat) : Int) := by omega
          have hi0 : (0 : Int) ≤ (q : Int) - 1 := by omega
          have hi1 : (q : Int) - 1 < n2 := by omega
          go_enter Try.func37, Try.ntmps37
          go_wp2_with fail
          refine H.out.mono ?_
          rintro e w1 ⟨rfl, hx⟩
          have k0 := hx.k0
          have k1 := hx.k1
          have hb1 := hx.bel
          replace hx := Lib.hid hx
          have HC := Lib.hid (clone_any A2 n2 c2 rs w1 (HA.out.after hb1) (by omega))
          clear hb1
          go_wp2_with fail
          refine HC.out.mono ?_
          rintro e w2 ⟨v2, rfl, hN2⟩
          have hO2 := hN2.1
          rw [hln2] at hO2
          rcases own_blk hO2 with ⟨_, e, _⟩ | ⟨g, cap, cs, e, hg, hBr, hn, hm, hcl, ht⟩
          · omega
          subst e
          have hO3 : OwnI w2 w1.heap.size (.slice (some ⟨g, 0, none⟩) n2 cap) rs := by unfold OwnI; rw [hln2]; exact hO2
          have HS := Lib.hid (sortFunc_any w2 w1.heap.size g n2 cap rs hO3 hln2 (by omega))
          have hb2 := hx.out.bel.trans (hN2.2.mono hx.out.bel.size)
          have hgw : w.heap.size ≤ g := Nat.le_trans hx.out.bel.size hg
          have Hb2 := Lib.hid (And.intro hb2 hgw)
          clear hO2 hO3 hN2 hBr hcl ht hb2 k0 k1 hg hgw
          go_wp2_with fail
          refine HS.out.mono ?_
          rintro e w3 ⟨rfl, hO3, ho3⟩
          have hb3 := Hb2.out.1.trans (ho3.above (B := w.heap.size) (fun i e => by subst e; exact Hb2.out.2) Hb2.out.1.size)
          have hc3 : w3.cell? ⟨g, q - 1, none⟩ = some (.int .i64 y) := by
            rcases own_blk hO3 with ⟨e, _⟩ | ⟨g', cap', cs', e', _, hB', hn', _, hcl', ht'⟩
            · cases e
            · injection e' with e1 e2 e3
              injection e1 with e1
              injection e1 with e1
              subst e1
              refine hB'.cell ?_
              have hlt : q - 1 < (downL rs).length := by rw [down_len]; omega
              have e4 : (cs'.take (downL rs).length)[q - 1]? = cs'[q - 1]? := by rw [List.getElem?_take, if_pos hlt]
              rw [← e4, ht', cis_get, Hr.out]
              rfl
          have H3 := Lib.hid hb3
          clear hO3 ho3 hb3 HS
          go_wp2
          go_ret2
          exact ⟨rfl, H3.out⟩
    · rw [hbad (.inl (by omega))]
      have hne : ((n2 : Int) != (n : Int)) = true := by simp; omega
      clear hok h h2 hasc hbad hl
      go_enter Try.func37, Try.ntmps37
      go_wp2_with (go_at_call 20; refine H.out.mono ?_; rintro e w' ⟨rfl, hx⟩; have k0 := hx.k0; have k1 := hx.k1; replace hx := Lib.hid hx)
      go_ret2
      exact ⟨rfl, hx.out.bel⟩
end
end Go.Proofs.Ytjibbbfpbflgmaa
