/-
  For all lists of leaves (40 at most, cut to 100 bytes), a place ati and bytes leaf: trees of as many leaves, of which one is another one, have the same root just if it is the same leaf, as long as the book tells of no clash; TreeUnlike returns true; no condition.
-/
import Derived.Test.YtbdocaohnigekaaZ01
import Derived.Test.YtbdocaohnigekaaZ13
import Derived.Test.YtbdocaohnigekaaZ07
import Derived.Test.YtbdocaohnigekaaZ14
import Derived.Deep.RegionHeld3
import Derived.Deep.RegionWith
import Derived.Deep.DeepCutAuto
namespace Go.Proofs.Ytbdocaohnigekaa.treeUnlike
open Go.ChangeShapes Go.WideShapes Go.ChangeAt Go.RowKit
set_option linter.unusedVariables false

theorem kb_lowN {B g m : Nat} {w : World} {s : Bk} {N N' : Nat → Prop} (h : Kb B w g m s N) (hN : ∀ i, N' i → N i ∨ (i < B ∧ i < w.heap.size)) : Kb B w g m s N' := by
  obtain ⟨S', h1, h2, h3⟩ := h
  exact ⟨S', h1, h2, fun i hi => by
    rcases hN i hi with h | h
    · exact h3 i h
    · exact ⟨h.2, fun e => by have := (h2 i e).1; omega⟩⟩
theorem insTo_le (ls : List (List UInt8)) (h1 : 1 ≤ ls.length) (h2 : ls.length ≤ 40) : (insTo ls (dep ls.length - 1)).length ≤ 240 := by
  have h3 := insTo_len ls h1 (dep ls.length - 1)
  have h5 := dep_le (m := ls.length) (by omega)
  have h6 := dep_pos ls.length
  have : ls.length * (dep ls.length - 1 + 1) ≤ 40 * 6 := Nat.mul_le_mul h2 (by omega)
  omega
theorem same_or (xs : List (List UInt8)) (a m : Nat) (y : List UInt8) (hm : xs.length = m) (ha : a < m) (h : ∀ x ∈ xs, x.length ≤ 100) (hy : y.length ≤ 100)
    (hc : (noteAll (noteAll ([], false, 0) (insTo xs (dep m - 1))) (insTo (xs.set a y) (dep m - 1))).2.1 = false) : (rootD (lows xs) == rootD (lows (xs.set a y))) = (xs[a]'(by omega) == y) := by
  have hset : ∀ x ∈ xs.set a y, x.length ≤ 65535 := fun x hx => by
    rcases List.mem_or_eq_of_mem_set hx with h' | h'
    · have := h x h'; omega
    · subst h'; omega
  by_cases e : xs[a]'(by omega) = y
  · have e2 : xs.set a y = xs := by
      apply List.ext_getElem (by simp)
      intro i h1 h2
      by_cases hi : a = i
      · subst hi; rw [List.getElem_set_self]; exact e.symm
      · rw [List.getElem_set_ne hi]
    rw [e2, e]; simp
  · have e2 : rootD (lows xs) ≠ rootD (lows (xs.set a y)) := fun e2 => e (by
      have e3 := roots_apart xs (xs.set a y) m hm (by simp [hm]) (by omega) (fun x hx => by have := h x hx; omega) hset hc e2
      have e4 : (xs.set a y)[a]'(by simp; omega) = y := List.getElem_set_self ..
      have e5 : xs[a]? = (xs.set a y)[a]? := by rw [← e3]
      rw [List.getElem?_eq_getElem (by omega), List.getElem?_eq_getElem (by simp; omega), e4] at e5
      exact Option.some.inj e5)
    have b1 : (rootD (lows xs) == rootD (lows (xs.set a y))) = false := by simpa using e2
    have b2 : (xs[a]'(by omega) == y) = false := by simpa using e
    rw [b1, b2]

set_option maxRecDepth 100000 in
set_option maxHeartbeats 6400000 in
theorem walk (Al : Option Addr) (nl cl : Nat) (l : List (List UInt8)) (ati : Int) (Aleaf : Option Addr) (nleaf cleaf : Nat) (leaf : List UInt8) (w : World) (hl : ArgL w Al nl cl l) (hati : (Lit.int .i64 ati).wf = true) (hleaf : ArgB w Aleaf nleaf cleaf leaf) :
    Calls Try.prog 4 #[.slice Al nl cl, .int .i64 ati, .slice Aleaf nleaf cleaf] w fun e w' => e = .returned (.bool true) ∧ Below w.heap.size w w' := by
  have hab := bounds_i64 hati
  obtain ⟨my, y, hyl, hy100, hyc, hycm, hBy, hmin, hsl⟩ := cutUp 100 100 rfl hleaf
  have hnl : nleaf ≤ 9223372036854775807 := by have := hleaf.2.1; have := hleaf.2.2.1; omega
  have Hab := Lib.hid hab
  have Hl := Lib.hid hl
  have Hy := Lib.hid (And.intro hBy (And.intro hyl (And.intro hy100 (And.intro hyc hycm))))
  have hnot : ∀ (x : Bool) (w : World), (Op.unary .not (.bool x)).run Try.prog w = .ok (.bool (!x)) w := fun _ _ => rfl
  clear hab hati hleaf hl hyl hy100 hyc hycm hBy
  go_enter Try.func4, Try.ntmps4
  go_wp2_with (go_at_call 10; refine (works9_any _).mono ?_; rintro e w0 ⟨rfl, hb0⟩)
  have Hb0 := Lib.hid hb0
  have Hcut := Lib.hid (cut_any Al nl cl l w0 ⟨Hl.out.1, Hl.out.2.1, Hl.out.2.2.1, Hl.out.2.2.2.after hb0⟩)
  clear hb0
  refine Hcut.out.mono ?_
  rintro e w1 ⟨xs, v, rfl, hx40, hx100, hb1, hH⟩
  have Hb1 := Lib.hid hb1
  by_cases hne : xs = []
  · subst hne
    obtain ⟨vs, hrow, _⟩ := hH
    rcases hrow.2 with ⟨rfl, _⟩ | ⟨b, c, cur, rfl, _⟩
    all_goals
      go_wp2
      go_ret
      exact ⟨rfl, Hb0.out.trans (Hb1.out.mono Hb0.out.size)⟩
  · obtain ⟨b, c, rfl, hb0, hbl, hLv, hfr, hlow⟩ := hH.lvs hb1 hne
    have hpos : 1 ≤ xs.length := List.length_pos_iff.2 hne
    obtain ⟨m, hm⟩ : ∃ m, xs.length = m := ⟨_, rfl⟩
    have hil := insTo_le xs hpos hx40
    rw [hm] at hpos hx40 hil ⊢
    have hz : ((m : Int) == 0) = false := by simp; omega
    have H1 := Lib.hid (And.intro hx100 (And.intro hLv (And.intro hfr (And.intro hlow (And.intro hb0 (And.intro hbl (And.intro hm hil)))))))
    clear hH hx100 hLv hfr hlow hb0 hbl hm hb1 hne hil Hcut
    go_wp2_with fail
    refine (bring_any ati m w1 (by omega) (by omega) (by have := Hab.out; omega) (by have := Hab.out; omega)).mono ?_
    rintro e w1 ⟨a, ha, rfl, rfl⟩
    go_wp2_with fail
    refine (bnew_any _).mono ?_
    rintro e w2 ⟨S, g, bm, rfl, hS, hb, hb2⟩
    obtain ⟨hx100, hLv, hfr, hlow, hb0, hbl, hm, hil⟩ := H1.out
    have hk2 : Kb w1.heap.size w2 g bm ([], false, 0) (fun i => i = b) := kb_lowN (kb_new hS hb) fun i hi => .inr (by subst hi; exact ⟨hbl, Nat.lt_of_lt_of_le hbl hb2.size⟩)
    have hz01 := Hb1.out.size
    have hst2 : Stays (fun j => j = b ∨ j < w0.heap.size) w1 w2 := ⟨hb2.size, fun j hj => hb2.block j (by rcases hj with rfl | hj; exact hbl; omega)⟩
    have hL2 := hLv.stays hst2
    have hof1 := tof_any w1.heap.size g bm _ (fun i => i = b) w2 hk2 hb2.size (by decide) (by decide) (fun j => j = b ∨ j < w0.heap.size) (some ⟨b, 0, none⟩) m c xs hm hpos (by omega) (fun x hx => by have := hx100 x hx; omega) hL2 (fun j hj => by
      have := hb2.size
      rcases hj with rfl | hj
      · exact ⟨by omega, .inr rfl⟩
      · exact ⟨by omega, .inl (by omega)⟩)
    obtain ⟨D1, hD1⟩ : ∃ D, cbs (rootD (lows xs)) = D := ⟨_, rfl⟩
    rw [hD1] at hof1
    have hr1 : (rootD (lows xs)).length = 32 := root_len (by rw [lows_len]; omega) (all32_lows _)
    have hr2 : (rootD (lows (xs.set a y))).length = 32 := root_len (by rw [lows_len, List.length_set]; omega) (all32_lows _)
    have D132 : D1.length = 32 := by rw [← hD1, cbs_length, hr1]
    have D11 : D1.toArray.all (·.oneCell') = true := by rw [← hD1]; exact cbs_one' _
    obtain ⟨D2, hD2⟩ : ∃ D, cbs (rootD (lows (xs.set a y))) = D := ⟨_, rfl⟩
    have D232 : D2.length = 32 := by rw [← hD2, cbs_length, hr2]
    have D21 : D2.toArray.all (·.oneCell') = true := by rw [← hD2]; exact cbs_one' _
    obtain ⟨s1, hs1⟩ : ∃ s, noteAll ([], false, 0) (insTo xs (dep m - 1)) = s := ⟨_, rfl⟩
    rw [hs1] at hof1
    have hsl1 : s1.1.length ≤ 240 ∧ s1.2.2 ≤ 240 := by
      have := noteAll_len ([], false, 0) (insTo xs (dep m - 1))
      rw [hs1] at this
      simp only [List.length_nil] at this
      omega
    obtain ⟨s2, hs2⟩ : ∃ s, noteAll s1 (insTo (xs.set a y) (dep m - 1)) = s := ⟨_, rfl⟩
    obtain ⟨q1, hq1⟩ : ∃ q, (rootD (lows xs) == rootD (lows (xs.set a y))) = q := ⟨_, rfl⟩
    have ham : a < xs.length := by omega
    obtain ⟨q2, hq2⟩ : ∃ q, (xs[a] == y) = q := ⟨_, rfl⟩
    have hcl : s2.2.1 = false → q1 = q2 := fun hc => by
      rw [← hq1, ← hq2]
      exact same_or xs a m y hm (by omega) hx100 (by have := Hy.out.2.1; have := Hy.out.2.2.1; omega) (by rw [hs1, hs2]; exact hc)
    obtain ⟨cl, hcl2⟩ : ∃ c, s2.2.1 = c := ⟨_, rfl⟩
    have heq : ∀ w', (Op.equalIn 10000 38 (.agg D1.toArray) (.agg D2.toArray)).run Try.prog w' = .ok q1 w' := fun w' => by rw [← hD1, ← hD2, ← hq1]; exact eq_digests w' _ _ hr1 hr2
    have HD := Lib.hid (And.intro D132 (And.intro D11 (And.intro D232 (And.intro D21 (And.intro hD1 hD2)))))
    have HDi := Lib.hid (show (Try.prog.info? 38).map (·.size) = some D1.length ∧ (Try.prog.info? 38).map (·.size) = some D2.length from by rw [D132, D232]; exact ⟨info32b, info32b⟩)
    have Hq := Lib.hid (And.intro hq1 (And.intro hq2 (And.intro hcl (And.intro hcl2 (And.intro hs1 (And.intro hs2 hsl1))))))
    have Hof1 := Lib.hid hof1
    have H2 := Lib.hid (And.intro hb2 (And.intro hL2 (And.intro hz01 ham)))
    clear hS hb hk2 hst2 hL2 hof1 hx100 hLv hfr hlow hb0 hbl hm hil D132 D11 D232 D21 hD1 hD2 hr1 hr2 hq1 hq2 hcl hcl2 hs1 hs2 hsl1 hb2 hz01
    go_wp2_with fail
    refine Hof1.out.mono ?_
    rintro e w3 ⟨rfl, hK3, hO3⟩
    obtain ⟨hx100, hLv, hfr, hlow, hb0, hbl, hm, hil⟩ := H1.out
    obtain ⟨hb2, hL2, hz01, _⟩ := H2.out
    obtain ⟨w4, hw4, ⟨hth, hi4⟩, hbS4, hbel4, hsz4⟩ := dig_local w3 D1 HD.out.1
    have hb13 : Below w1.heap.size w1 w3 := hb2.trans (hO3.above (fun i hi => hi.1) hb2.size)
    have hb14 : Below w1.heap.size w1 w4 := hb13.trans (hbel4.mono hb13.size)
    have hst4 : Stays (fun j => j = b ∨ j < w0.heap.size) w1 w4 := ⟨hb14.size, fun j hj => hb14.block j (by rcases hj with rfl | hj; exact hbl; omega)⟩
    have hL4 := hLv.stays hst4
    obtain ⟨b', off, e1, _, hcc⟩ := id hL4
    cases e1
    obtain ⟨Aj, cj, hc1, hc2, hc3, hc4, _⟩ := hcc a ham
    rw [Nat.zero_add] at hc1
    have hf4 : w4.frozen? ⟨b, a, none⟩ = false := by
      have h5 := hfr a
      have h6 : w4.heap[b]? = w1.heap[b]? := hb14.block b hbl
      unfold World.frozen? at h5 ⊢
      simp only [h6]
      exact h5
    have hBy4 : Bs w4 Aleaf y := (Hy.out.1.after (Hb0.out.trans (Hb1.out.mono Hb0.out.size))).after hb14
    obtain ⟨nj, hnj⟩ : ∃ n, (xs[a]).length = n := ⟨_, rfl⟩
    rw [hnj] at hc1 hc2
    have heqb := eqBytes Aj Aleaf cj cleaf nj my (xs[a]) y w4 hc4 hBy4 hnj Hy.out.2.1 (Nat.le_trans hc2 hc3) (Nat.le_trans Hy.out.2.2.2.1 Hy.out.2.2.2.2)
    rw [Hq.out.2.1] at heqb
    have Heqb := Lib.hid heqb
    have Hw4 := Lib.hid hw4
    have Hs4 := Lib.hid (And.intro hth hi4)
    have H4 := Lib.hid (And.intro hb14 (And.intro hL4 (And.intro (show Kb w1.heap.size w4 g bm s1 (fun i => i = b ∨ i = w3.heap.size) from hK3.belowN hbel4 fun i hi => by
      rcases hi with rfl | rfl
      · exact .inl rfl
      · exact .inr ⟨Nat.le_refl _, by omega⟩) (And.intro hbS4 (And.intro hbel4.size (And.intro hb13.size hsz4))))))
    have Hc4 := Lib.hid (And.intro hc1 hf4)
    have i0 : (0 : Int) ≤ (a : Int) := by omega
    have i1 : (a : Int) < (m : Int) := by omega
    have c4 : w4.cell? ⟨b, a, none⟩ = some (.slice Aj nj cj) := hc1
    clear hx100 hLv hfr hlow hb0 hbl hm hil hb2 hL2 hz01 hw4 hth hi4 hbS4 hbel4 hsz4 hb13 hb14 hst4 hL4 hcc hc1 hc2 hc3 hc4 hf4 hBy4 heqb hK3 hO3 Hof1 hnj
    go_wp2_with (refine wpList_store_mid rfl 38 _ _ rfl w3.heap.size 0 D1.toArray rfl rfl Hs4.out.1 Hs4.out.2 HD.out.2.1 ?_; simp only [Act.put]; refine cast (congrArg (fun z => wpList _ _ _ _ _ z) Hw4.out.symm) ?_)
    refine Heqb.out.mono ?_
    rintro e w5 ⟨rfl, hb5⟩
    obtain ⟨hx100, hLv, hfr, hlow, hb0, hbl, hm, hil⟩ := H1.out
    obtain ⟨hb2, hL2, hz01, _⟩ := H2.out
    obtain ⟨hb14, hL4, hK4, hbS4, hsz34, hsz13, hsz4⟩ := H4.out
    have hbl4 : b < w4.heap.size := Nat.lt_of_lt_of_le hbl hb14.size
    have c5 : w5.cell? ⟨b, a, none⟩ = some (.slice Aj nj cj) := (hb5.cell hbl4).trans Hc4.out.1
    have f5 : w5.frozen? ⟨b, a, none⟩ = false := by
      have h5 := Hc4.out.2
      have h6 : w5.heap[b]? = w4.heap[b]? := hb5.block b hbl4
      unfold World.frozen? at h5 ⊢
      simp only [h6]
      exact h5
    have hst5 : Stays (fun j => j = b ∨ j < w0.heap.size) w4 w5 := ⟨hb5.size, fun j hj => hb5.block j (by rcases hj with rfl | hj; exact hbl4; have := hb14.size; omega)⟩
    have hL5 := hL4.stays hst5
    have hb15 : Below w1.heap.size w1 w5 := hb14.trans (hb5.mono hb14.size)
    have hBy5 : Bs w5 Aleaf y := (Hy.out.1.after (Hb0.out.trans (Hb1.out.mono Hb0.out.size))).after hb15
    have hyblk : ∀ p, Aleaf = some p → y ≠ [] → p.block < w0.heap.size := fun p hp hn => by
      obtain ⟨b2, off, e, hlt, _⟩ := Hy.out.1.2 (by
        cases hx : y with
        | nil => exact absurd hx hn
        | cons z zs => simp)
      rw [hp] at e
      cases e
      exact Nat.lt_of_lt_of_le hlt Hb0.out.size
    obtain ⟨w6, hw6⟩ : ∃ w6, w5.setCell ⟨b, a, none⟩ (.slice Aleaf my cleaf) = w6 := ⟨_, rfl⟩
    have hL6 : LvsAt w6 (fun j => j = b ∨ j < w0.heap.size) (some ⟨b, 0, none⟩) (xs.set a y) := by
      rw [← hw6]
      refine hL5.set ham hBy5 Hy.out.2.1 Hy.out.2.2.2.1 Hy.out.2.2.2.2 (fun p hp hn => .inr (hyblk p hp hn)) (fun _ _ _ => trivial) (fun j hj p hc hn => ?_) (fun p hp hn => by have := hyblk p hp hn; omega)
      obtain ⟨c', hc'⟩ := hc
      have := hlow j hj p ⟨c', by rw [← hc']; exact ((hb15.cell hbl).symm)⟩ hn
      omega
    have hK5 : Kb w1.heap.size w5 g bm s1 (fun i => i = b ∨ i = w3.heap.size) := hK4.below hb5
    have hK6 : Kb w1.heap.size w6 g bm s1 (fun i => i = b ∨ i = w3.heap.size) := by rw [← hw6]; exact hK5.setN (.inl rfl) a _
    have hz6 : w6.heap.size = w5.heap.size := by rw [← hw6]; simp [World.setCell]
    have hmm : (xs.set a y).length = m := by rw [List.length_set]; exact hm
    have hz15 := hb15.size
    have hz5 := hb5.size
    have hsl := Hq.out.2.2.2.2.2.2
    have hof2 := tof_any w1.heap.size g bm s1 (fun i => i = b ∨ i = w3.heap.size) w6 hK6 (by omega) (by omega) (by omega) (fun j => j = b ∨ j < w0.heap.size) (some ⟨b, 0, none⟩) m c (xs.set a y) hmm (by omega) (by omega) (fun x hx => by
      rcases List.mem_or_eq_of_mem_set hx with h' | h'
      · have := hx100 x h'; omega
      · subst h'; have := Hy.out.2.1; have := Hy.out.2.2.1; omega) hL6 (fun j hj => by
      rcases hj with rfl | hj
      · exact ⟨by omega, .inr (.inl rfl)⟩
      · exact ⟨by omega, .inl (by omega)⟩)
    rw [HD.out.2.2.2.2.2, Hq.out.2.2.2.2.2.1] at hof2
    have hB6 : Blk w6 w3.heap.size 38 D1 := by
      rw [← hw6]
      exact Blk.far (hbS4.below hb5 (by omega)) (show w3.heap.size ≠ b by omega) _
    have hb06 : Below w0.heap.size w0 w6 := by
      rw [← hw6]
      exact (Hb1.out.trans (hb15.mono hz01)).setCell hb0 _
    have Hof2 : Hid (Calls Try.prog 17 #[.pointer (some ⟨g, 0, none⟩), .slice (some ⟨b, 0, none⟩) m c] (w5.setCell ⟨b, a, none⟩ (.slice Aleaf my cleaf)) fun e w' => e = .returned (.tuple #[.agg D2.toArray, .int .i64 0]) ∧ Kb w1.heap.size w' g bm s2 (fun i => i = b ∨ i = w3.heap.size) ∧ Out (Tn w1.heap.size bm w6 (fun i => i = b ∨ i = w3.heap.size)) w6 w') := by
      rw [hw6]; exact Lib.hid hof2
    have H6 := Lib.hid (And.intro hB6 (And.intro hb06 (And.intro hz01 (show w1.heap.size ≤ w6.heap.size by omega))))
    clear hx100 hLv hfr hlow hb0 hbl hm hil hb2 hL2 hz01 hb14 hL4 hK4 hbS4 hsz34 hsz13 hsz4 hbl4 hst5 hL5 hb15 hBy5 hyblk hL6 hK5 hK6 hz6 hmm hz15 hz5 hsl hof2 hB6 hb06 hb5 Heqb hw6
    go_wp2_with fail
    refine Hof2.out.mono ?_
    rintro e w7 ⟨rfl, hK7, hO7⟩
    obtain ⟨hB6, hb06, hz01, hz16⟩ := H6.out
    obtain ⟨w8, hw8, ⟨hth, hi8⟩, hbS8, hbel8, hsz8⟩ := dig_local w7 D2 HD.out.2.2.1
    have hb07 := hb06.trans (hO7.above (fun i hi => Nat.le_trans hz01 hi.1) hb06.size)
    have hb08 := hb07.trans (hbel8.mono hb07.size)
    have hr1 : w8.rangeAt w3.heap.size 0 D1 := ((hO7.blk hB6 (Tn.keep (.inr rfl))).below hbel8 (by have := hB6.lt; have := hO7.size; omega)).range
    have hcla := kb_clash (hK7.below hbel8)
    rw [Hq.out.2.2.2.1] at hcla
    have Hcla := Lib.hid hcla
    have Hw8 := Lib.hid hw8
    have Hs8 := Lib.hid (And.intro hth hi8)
    have H8 := Lib.hid (And.intro hb08 (And.intro hr1 hbS8.range))
    clear hK7 hO7 hB6 hb06 hz01 hz16 hw8 hth hi8 hbS8 hbel8 hsz8 hb07 hb08 hr1 hcla Hof2
    have hcq : cl = false → q1 = q2 := fun h => Hq.out.2.2.1 (Hq.out.2.2.2.1.trans h)
    cases cl with
    | false =>
      obtain rfl := hcq rfl
      go_wp2_with (first
        | (refine wpList_store_mid rfl 38 _ _ rfl w7.heap.size 0 D2.toArray rfl rfl Hs8.out.1 Hs8.out.2 HD.out.2.2.2.1 ?_; simp only [Act.put]; refine cast (congrArg (fun z => wpList _ _ _ _ _ z) Hw8.out.symm) ?_)
        | (refine load_mid_g (by rfl) 38 _ rfl w3.heap.size 0 rfl D1 _ H8.out.2.1 Try.underlying38 rfl HDi.out.1 ?_; simp only [Act.put])
        | (refine load_mid_g (by rfl) 38 _ rfl w7.heap.size 0 rfl D2 _ H8.out.2.2 Try.underlying38 rfl HDi.out.2 ?_; simp only [Act.put])
        | (go_at_call 19; refine Hcla.out.mono ?_; rintro e w8 ⟨rfl, rfl⟩))
      go_ret
      exact ⟨rfl, Hb0.out.trans (H8.out.1.mono Hb0.out.size)⟩
    | true =>
      clear hcq
      go_wp2_with (first
        | (refine wpList_store_mid rfl 38 _ _ rfl w7.heap.size 0 D2.toArray rfl rfl Hs8.out.1 Hs8.out.2 HD.out.2.2.2.1 ?_; simp only [Act.put]; refine cast (congrArg (fun z => wpList _ _ _ _ _ z) Hw8.out.symm) ?_)
        | (go_at_call 19; refine Hcla.out.mono ?_; rintro e w8 ⟨rfl, rfl⟩))
      go_ret
      exact ⟨rfl, Hb0.out.trans (H8.out.1.mono Hb0.out.size)⟩

end Go.Proofs.Ytbdocaohnigekaa.treeUnlike
