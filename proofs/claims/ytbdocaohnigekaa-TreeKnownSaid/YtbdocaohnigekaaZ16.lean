/-
  Laid together for a hand-in: OfB9, Oh9, Kw9.
-/
import Derived.Test.YtbdocaohnigekaaZ14
import Derived.Test.YtbdocaohnigekaaZ15
import Derived.Test.YtbdocaohnigekaaZ13

namespace Go.Proofs.Ytbdocaohnigekaa
open Go.RowKit Go.Maps
set_option linter.unusedVariables false
set_option maxRecDepth 100000

theorem first_long (ls : List (List UInt8)) : (∀ x ∈ ls, x.length ≤ 65535) ∨ ∃ k, ∃ h : k < ls.length, 65535 < ls[k].length ∧ ∀ j (hj : j < k), (ls[j]'(by omega)).length ≤ 65535 := by
  induction ls with
  | nil => exact .inl fun x hx => by simp at hx
  | cons y ys ih =>
    by_cases hy : y.length ≤ 65535
    · rcases ih with ih | ⟨k, h, h1, h2⟩
      · refine .inl fun x hx => ?_
        rcases List.mem_cons.1 hx with rfl | hx
        · exact hy
        · exact ih x hx
      · refine .inr ⟨k + 1, by simp; omega, by simpa using h1, fun j hj => ?_⟩
        cases j with
        | zero => simpa using hy
        | succ j => simpa using h2 j (by omega)
    · exact .inr ⟨0, by simp, by simp; omega, fun j hj => by omega⟩

set_option maxRecDepth 100000 in
theorem idx_some {w : World} {n c : Nat} {A : Option Addr} {K : Nat → Prop} {ls : List (List UInt8)} (hl : LvsAt w K A ls) (hn : ls.length = n) (q : Nat) (hq : q < ls.length) (hlong : 65535 < (ls[q]'hq).length) (hls : ∀ j (hj : j < q), (ls[j]'(by omega)).length ≤ 65535) (hn2 : n ≤ 1024) :
    Calls Try.prog 46 #[.slice A n c, .func (.func 34) #[] #[]] w fun e w' => e = .returned (.int .i64 (q : Int)) ∧ w' = w := by
  obtain ⟨b, off, rfl, hkb, hc⟩ := hl
  have H := Lib.hid hc
  have Hls := Lib.hid (And.intro hls hlong)
  have Hqn := Lib.hid (show q < n by omega)
  clear hc hls hkb hlong
  go_enter Try.func46, Try.ntmps46
  go_wp2
  go_loopw [5, 8] (fun _ iv wr => ∃ k : Nat, k ≤ q ∧ iv = .int .i64 (k : Int) ∧ wr = w) (fun _ iv _ => n - (intOf iv).toNat)
  case atStart => exact ⟨0, Nat.zero_le _, rfl, rfl⟩
  case round =>
    obtain ⟨k, hk, rfl, rfl⟩ := hrel
    obtain ⟨Aj, cj, h1, h2, h3, h4, h5⟩ := H.out k (by omega)
    by_cases hlt : k < q
    · have hx : (ls[k]'(by omega)).length ≤ 65535 := Hls.out.1 k hlt
      obtain ⟨m, hm⟩ : ∃ m, (ls[k]'(by omega)).length = m := ⟨_, rfl⟩
      rw [hm] at h1 hx
      have Hno := Lib.hid (isLong_no Aj m cj wr hx)
      have i0 : (0 : Int) ≤ (k : Int) := by omega
      have i1 : (k : Int) < (n : Int) := by have := Hqn.out; omega
      clear h2 h3 h4 h5 hx hm
      go_wp2_with (go_at_call 34; refine Hno.out.mono ?_; rintro e w' ⟨rfl, rfl⟩)
      go_roundw
      case rel => exact ⟨k + 1, by omega, by go_num, trivial⟩
      case measure => have := Hqn.out; simp [intOf]; omega
    · obtain rfl : k = q := by omega
      have hx : 65535 < (ls[k]'(by omega)).length := Hls.out.2
      obtain ⟨m, hm⟩ : ∃ m, (ls[k]'(by omega)).length = m := ⟨_, rfl⟩
      rw [hm] at h1 hx
      have Hno := Lib.hid (isLong_yes Aj m cj wr hx)
      have i0 : (0 : Int) ≤ (k : Int) := by omega
      have i1 : (k : Int) < (n : Int) := by have := Hqn.out; omega
      clear h2 h3 h4 h5 hx hm
      go_wp2_with (go_at_call 34; refine Hno.out.mono ?_; rintro e w' ⟨rfl, rfl⟩)
      go_ret
      exact ⟨rfl, rfl⟩
theorem contains_some {w : World} {n c : Nat} {A : Option Addr} {K : Nat → Prop} {ls : List (List UInt8)} (hl : LvsAt w K A ls) (hn : ls.length = n) (q : Nat) (hq : q < ls.length) (hlong : 65535 < (ls[q]'hq).length) (hls : ∀ j (hj : j < q), (ls[j]'(by omega)).length ≤ 65535) (hn2 : n ≤ 1024) :
    Calls Try.prog 33 #[.slice A n c, .func (.func 34) #[] #[]] w fun e w' => e = .returned (.bool true) ∧ w' = w := by
  have Hi := Lib.hid (idx_some (c := c) hl hn q hq hlong hls hn2)
  have q0 : (0 : Int) ≤ (q : Int) := by omega
  clear hl hls hlong
  go_enter Try.func33, Try.ntmps33
  go_wp2_with (go_at_call 46; refine Hi.out.mono ?_; rintro e w' ⟨rfl, rfl⟩)
  go_ret
  exact ⟨rfl, rfl⟩

section
variable (v : Value) (A : Option Addr) (n c : Nat) (w : World)
theorem two_box : Below w.heap.size w ((w.alloc (.cells #[.slice A n c] 22)).alloc (.cells (cbs (List.replicate 32 0)).toArray 38)) ∧ ((w.alloc (.cells #[.slice A n c] 22)).alloc (.cells (cbs (List.replicate 32 0)).toArray 38)).there (w.heap.size + 1) 0 (cbs (List.replicate 32 0)).toArray.size ∧
    (((w.alloc (.cells #[.slice A n c] 22)).alloc (.cells (cbs (List.replicate 32 0)).toArray 38)).setCells (w.heap.size + 1) 0 (cbs (List.replicate 32 0))).heap[w.heap.size + 1]? = some (.cells (cbs (List.replicate 32 0)).toArray 38 (0, 0)) ∧ Below w.heap.size w (((w.alloc (.cells #[.slice A n c] 22)).alloc (.cells (cbs (List.replicate 32 0)).toArray 38)).setCells (w.heap.size + 1) 0 (cbs (List.replicate 32 0))) := by
  have hb : Below w.heap.size w ((w.alloc (.cells #[.slice A n c] 22)).alloc (.cells (cbs (List.replicate 32 0)).toArray 38)) := ((Below.refl _ _).alloc (Nat.le_refl _) _).alloc (by simp) _
  have hZ : Blk ((w.alloc (.cells #[.slice A n c] 22)).alloc (.cells (cbs (List.replicate 32 0)).toArray 38)) (w.heap.size + 1) 38 (cbs (List.replicate 32 0)) := Blk.new rfl (by simp)
  exact ⟨hb, hZ.there, hZ.setAll (vs := cbs (List.replicate 32 0)) rfl, Below.setCells (by omega) _ hb⟩
theorem tof_zero (h : n < 1 ∨ 1024 < n) :
    Calls Try.prog 17 #[v, .slice A n c] w fun e w' => e = .returned (.tuple #[.agg (cbs (List.replicate 32 0)).toArray, .int .i64 2]) ∧ Below w.heap.size w w' := by
  obtain ⟨hb, hth, hR, hb1⟩ := two_box A n c w
  have hnot : ∀ (x : Bool) (w : World), (Op.unary .not (.bool x)).run Try.prog w = .ok (.bool (!x)) w := fun _ _ => rfl
  have Hb := Lib.hid (And.intro hth (And.intro hR hb1))
  clear hb hth hR hb1
  go_enter Try.func17, Try.ntmps17
  go_wp2_with (first
    | (go_at_call 28; refine (isCount_no _ _ (by omega)).mono ?_; rintro e wx ⟨rfl, rfl⟩)
    | (refine wpList_store_mid rfl 38 _ _ rfl (w.heap.size + 1) 0 (cbs (List.replicate 32 0)).toArray rfl rfl Hb.out.1 info32b (cbs_one' _) ?_))
  refine bodyPost_ret (results_row_tmp rfl _ _ (w.heap.size + 1) 38 (cbs (List.replicate 32 0)).toArray (0, 0) _ rfl Hb.out.2.1 Try.underlying38 rfl info32b) rfl ?_
  exact ⟨rfl, Hb.out.2.2⟩
set_option maxHeartbeats 800000 in
theorem tof_long {K : Nat → Prop} {ls : List (List UInt8)} (hl : LvsAt w K A ls) (hn : ls.length = n) (h1 : 1 ≤ n) (hn2 : n ≤ 1024) (hK : ∀ j, K j → j < w.heap.size) (q : Nat) (hq : q < ls.length) (hlong : 65535 < (ls[q]'hq).length) (hls : ∀ j (hj : j < q), (ls[j]'(by omega)).length ≤ 65535) :
    Calls Try.prog 17 #[v, .slice A n c] w fun e w' => e = .returned (.tuple #[.agg (cbs (List.replicate 32 0)).toArray, .int .i64 5]) ∧ Below w.heap.size w w' := by
  obtain ⟨hb, hth, hR, hb1⟩ := two_box A n c w
  have hnot : ∀ (x : Bool) (w : World), (Op.unary .not (.bool x)).run Try.prog w = .ok (.bool (!x)) w := fun _ _ => rfl
  have hl1 : LvsAt ((w.alloc (.cells #[.slice A n c] 22)).alloc (.cells (cbs (List.replicate 32 0)).toArray 38)) K A ls := hl.stays ⟨hb.size, fun j hj => hb.block j (hK j hj)⟩
  have Hc : Hid (Calls Try.prog 33 #[.slice A n c, .func (.func 34) #[] #[]] ((w.alloc (.cells #[.slice A n c] 22)).alloc (.cells (cbs (List.replicate 32 0)).toArray 38)) fun e w' => e = .returned (.bool true) ∧ w' = ((w.alloc (.cells #[.slice A n c] 22)).alloc (.cells (cbs (List.replicate 32 0)).toArray 38))) := by
    exact Lib.hid (contains_some (c := c) hl1 hn q hq hlong hls hn2)
  have c1 : (1 : Int) ≤ (n : Int) := by omega
  have c2 : (n : Int) ≤ 1024 := by omega
  have Hb := Lib.hid (And.intro hth (And.intro hR hb1))
  clear hb hth hR hb1 hl hl1 hn hK hlong hls
  go_enter Try.func17, Try.ntmps17
  go_wp2_with (first
    | (go_at_call 28; refine (isCount_yes _ _ c1 c2).mono ?_; rintro e wx ⟨rfl, rfl⟩)
    | (go_at_call 33; refine Hc.out.mono ?_; rintro e wx ⟨rfl, rfl⟩)
    | (refine wpList_store_mid rfl 38 _ _ rfl (w.heap.size + 1) 0 (cbs (List.replicate 32 0)).toArray rfl rfl Hb.out.1 info32b (cbs_one' _) ?_))
  refine bodyPost_ret (results_row_tmp rfl _ _ (w.heap.size + 1) 38 (cbs (List.replicate 32 0)).toArray (0, 0) _ rfl Hb.out.2.1 Try.underlying38 rfl info32b) rfl ?_
  exact ⟨rfl, Hb.out.2.2⟩
end
end Go.Proofs.Ytbdocaohnigekaa

namespace Go.Proofs.Ytbdocaohnigekaa
open Go.RowKit Go.Maps
set_option linter.unusedVariables false

theorem botO_at {w : World} {bv : Value} {lv lb r c : Nat} {w1 w2 : World} (h : Pl1 w bv (.func (.func 36) #[] #[.pointer (some ⟨lb, 0, none⟩)]) lv w1) (hNB : NoBook w bv) (hL : Blk w lb 22 [.slice (some ⟨r, 0, none⟩) 1 c]) (hr : w.cell? ⟨r, 0, none⟩ = some (.slice none 0 0)) (hb : Below w1.heap.size w1 w2) :
    ∀ w', Below w2.heap.size w2 w' → ∀ wp, wp = w'.setCell ⟨(lvB w.heap.size).p, 1, none⟩ (.int .i32 1) → Calls Try.prog 55 #[.pointer (some ⟨(lvB w.heap.size).x, 0, none⟩), .pointer (some ⟨(lvB w.heap.size).y, 0, none⟩), .pointer (some ⟨(lvB w.heap.size).z, 0, none⟩)] wp fun e w' => e = .returned (.tuple #[.slice none 0 0, .int .i64 1]) ∧ Below wp.heap.size wp w' := fun w' hb' wp hwp => by
  have hb1 : Below w1.heap.size w1 w' := hb.trans (hb'.mono hb.size)
  have hbw : Below w.heap.size w w' := h.bel.trans (hb1.mono h.bel.size)
  have hP : Blk w' (lvB w.heap.size).p 105 once0 := h.un.p.below hb1 h.un.p.lt
  have hX : Blk w' (lvB w.heap.size).x 3 [.int .i64 ((1 : Nat) : Int)] := h.caps.1.below hb1 h.caps.1.lt
  have hY : Blk w' (lvB w.heap.size).y 26 [bv] := h.caps.2.1.below hb1 h.caps.2.1.lt
  have hZ : Blk w' (lvB w.heap.size).z 72 [.func (.func 36) #[] #[.pointer (some ⟨lb, 0, none⟩)]] := h.caps.2.2.below hb1 h.caps.2.2.lt
  have hwP : Below w.heap.size w wp := by
    rw [hwp]
    exact hbw.setCell (p := ⟨(lvB w.heap.size).p, 1, none⟩) (by show w.heap.size ≤ _; unfold lvB lvAt; simp only; omega) _
  refine botEO bv (lvB w.heap.size) lb wp ?_ ?_ ?_ (hNB.below hwP) fun w3 hb3 => ?_
  · rw [hwp]; exact (hX.far (p := ⟨(lvB w.heap.size).p, 1, none⟩) (hX.ne hP (by decide)) (.int .i32 1)).cell rfl
  · rw [hwp]; exact (hY.far (p := ⟨(lvB w.heap.size).p, 1, none⟩) (hY.ne hP (by decide)) (.int .i32 1)).cell rfl
  · rw [hwp]; exact (hZ.far (p := ⟨(lvB w.heap.size).p, 1, none⟩) (hZ.ne hP (by decide)) (.int .i32 1)).cell rfl
  · have hb4 : Below w.heap.size w w3 := hwP.trans (hb3.mono hwP.size)
    exact ofLeaf_any (i := 0) (hL.below hb4 hL.lt) rfl (by decide) (by decide) ((hb4.cell (World.block_lt_of_cell? w _ hr)).trans hr)

set_option maxRecDepth 100000 in
set_option maxHeartbeats 1600000 in
theorem tof_none (pv : Option Addr) (r c : Nat) (w : World) (h : NoBook w (.pointer pv)) (hr : w.cell? ⟨r, 0, none⟩ = some (.slice none 0 0)) :
    Calls Try.prog 17 #[.pointer pv, .slice (some ⟨r, 0, none⟩) 1 c] w fun e w' =>
      e = .returned (.tuple #[.agg (cbs (List.replicate 32 0)).toArray, .int .i64 1]) ∧ Below w.heap.size w w' := by
  obtain ⟨w1, hw1⟩ : ∃ w1, (w.alloc (.cells #[.slice (some ⟨r, 0, none⟩) 1 c] 22)).alloc (.cells (cbs (List.replicate 32 0)).toArray 38) = w1 := ⟨_, rfl⟩
  have hbA : Below w.heap.size w w1 := by rw [← hw1]; exact ((Below.refl _ _).alloc (Nat.le_refl _) _).alloc (by simp) _
  have hz1 : w1.heap.size = w.heap.size + 2 := by rw [← hw1]; simp
  have hX : Blk w1 w.heap.size 22 [.slice (some ⟨r, 0, none⟩) 1 c] := by rw [← hw1]; exact (Blk.new rfl rfl).old _
  have hZ : Blk w1 (w.heap.size + 1) 38 (cbs (List.replicate 32 0)) := by rw [← hw1]; exact Blk.new rfl (by simp)
  have hr1 : w1.cell? ⟨r, 0, none⟩ = some (.slice none 0 0) := (hbA.cell (World.block_lt_of_cell? w _ hr)).trans hr
  have hl1 : LvsAt w1 (fun j => j = r) (some ⟨r, 0, none⟩) [[]] := ⟨r, 0, rfl, rfl, fun j hj => by
    obtain rfl : j = 0 := by simpa using hj
    exact ⟨none, 0, hr1, Nat.le_refl _, by unfold maxLen; omega, Shows.empty _, fun a e => by simp at e⟩⟩
  have Hc : Hid (Calls Try.prog 33 #[.slice (some ⟨r, 0, none⟩) 1 c, .func (.func 34) #[] #[]] ((w.alloc (.cells #[.slice (some ⟨r, 0, none⟩) 1 c] 22)).alloc (.cells (cbs (List.replicate 32 0)).toArray 38)) fun e w' => e = .returned (.bool false) ∧ w' = ((w.alloc (.cells #[.slice (some ⟨r, 0, none⟩) 1 c] 22)).alloc (.cells (cbs (List.replicate 32 0)).toArray 38))) := by
    rw [hw1]; exact Lib.hid (contains_none (c := c) hl1 rfl (by decide) (by simp))
  have Hp : Hid (Calls Try.prog 30 #[.pointer pv, .int .i64 1, .func (.func 36) #[] #[.pointer (some ⟨w.heap.size, 0, none⟩)]] ((w.alloc (.cells #[.slice (some ⟨r, 0, none⟩) 1 c] 22)).alloc (.cells (cbs (List.replicate 32 0)).toArray 38)) fun e w' => ∃ lv, e = .returned (.slice (some ⟨lv, 0, none⟩) 1 1) ∧ Pl1 w1 (.pointer pv) (.func (.func 36) #[] #[.pointer (some ⟨w.heap.size, 0, none⟩)]) lv w') := by
    rw [hw1]; exact Lib.hid (pile1_v pv 36 #[.pointer (some ⟨w.heap.size, 0, none⟩)] w1)
  obtain ⟨D, hD⟩ : ∃ D, cbs (List.replicate 32 0) = D := ⟨_, rfl⟩
  have hD32 : D.length = 32 := by rw [← hD]; rfl
  have hD1 : D.toArray.all (·.oneCell') = true := by rw [← hD]; exact cbs_one' _
  have hnot : ∀ (x : Bool) (w : World), (Op.unary .not (.bool x)).run Try.prog w = .ok (.bool (!x)) w := fun _ _ => rfl
  have H := Lib.hid (And.intro (h.below hbA) (And.intro hbA (And.intro hz1 (And.intro hX (And.intro hZ (And.intro hr1 (And.intro hD32 (And.intro hD1 hD))))))))
  have hgoal : Calls Try.prog 17 #[.pointer pv, .slice (some ⟨r, 0, none⟩) 1 c] w fun e w' =>
      e = .returned (.tuple #[.agg D.toArray, .int .i64 1]) ∧ Below w.heap.size w w' := by
    clear h hr hw1 hbA hz1 hX hZ hr1 hl1 hD hD32 hD1
    go_enter Try.func17, Try.ntmps17
    go_wp2_with (first | (go_at_call 28; refine (isCount_yes _ _ (by decide) (by decide)).mono ?_; rintro e wx ⟨rfl, rfl⟩) | (go_at_call 33; refine Hc.out.mono ?_; rintro e wx ⟨rfl, rfl⟩))
    refine Hp.out.mono ?_
    rintro e w2 ⟨lv, rfl, hP⟩
    obtain ⟨hNB, hbA, hz1, hX, hZ, hr1, hD32, hD1, hD⟩ := H.out
    have hro := pileE hP w2 (Below.refl _ _) (botO_at hP hNB hX hr1 (Below.refl _ _))
    rw [hD] at hro
    have Hro := Lib.hid hro
    have HP := Lib.hid hP
    clear hNB hbA hz1 hX hZ hr1 hD32 hD1 hD hro hP
    go_wp2_with fail
    refine Hro.out.mono ?_
    rintro e w3 ⟨rfl, hO⟩
    obtain ⟨hNB, hbA, hz1, hX, hZ, hr1, hD32, hD1, hD⟩ := H.out
    have hb2 := HP.out.bel
    have hZ3 : Blk w3 (w.heap.size + 1) 38 (cbs (List.replicate 32 0)) := hO.blk (hZ.below hb2 (by omega)) fun e => by omega
    have hsD : D.toArray.size = 32 := by rw [List.size_toArray]; exact hD32
    have hth : w3.there (w.heap.size + 1) 0 D.toArray.size := by
      have e := hZ3.there
      rw [cbs_length, List.length_replicate] at e
      rw [hsD]; exact e
    have hi : (Try.prog.info? 38).map (·.size) = some D.toArray.size := by rw [hsD]; exact info32b
    have hR := hZ3.setAll (vs := D) (by rw [hD32, cbs_length, List.length_replicate])
    have hb3 : Below w.heap.size w w3 := (hbA.trans (hb2.mono hbA.size)).trans (hO.above (fun i hi => by omega) (Nat.le_trans hbA.size hb2.size))
    have hf : Below w.heap.size w (w3.setCells (w.heap.size + 1) 0 D) := Below.setCells (by omega) D hb3
    have Hth := Lib.hid (And.intro hth (And.intro hi (And.intro hD1 (And.intro hR hf))))
    clear hNB hbA hz1 hX hZ hr1 hD32 hD1 hD hb2 hZ3 hsD hth hi hR hb3 hf hO
    go_wp2_with (refine wpList_store_mid rfl 38 _ _ rfl (w.heap.size + 1) 0 D.toArray rfl rfl Hth.out.1 Hth.out.2.1 Hth.out.2.2.1 ?_)
    refine bodyPost_ret (results_row_tmp rfl _ _ (w.heap.size + 1) 38 D.toArray (0, 0) _ rfl Hth.out.2.2.2.1 Try.underlying38 rfl Hth.out.2.1) rfl ?_
    exact ⟨rfl, Hth.out.2.2.2.2⟩
  rw [hD]
  exact hgoal
end Go.Proofs.Ytbdocaohnigekaa

namespace Go.Proofs.Ytbdocaohnigekaa
open Go.RowKit Go.Maps
set_option linter.unusedVariables false
set_option maxRecDepth 100000

/-- A book in some state that is not full, none of whose blocks is among N. -/
def KS (w0 : World) (g bm : Nat) (N : Nat → Prop) (bnd : Nat) (w : World) : Prop := ∃ s, Kb w0.heap.size w g bm s N ∧ s.1.length ≤ bnd ∧ s.2.2 ≤ bnd ∧ Below w0.heap.size w0 w
section
variable {w0 w w' : World} {g bm bnd : Nat} {N : Nat → Prop}
theorem KS.below (h : KS w0 g bm N bnd w) (hb : Below w.heap.size w w') : KS w0 g bm N bnd w' := by
  obtain ⟨s, h1, h2, h3, h4⟩ := h
  exact ⟨s, h1.below hb, h2, h3, h4.trans (hb.mono h4.size)⟩
theorem KS.keep {N' : Nat → Prop} (h : KS w0 g bm N bnd w) (hb : Below w.heap.size w w') (hN : ∀ i, N' i → N i ∨ (w.heap.size ≤ i ∧ i < w'.heap.size)) : KS w0 g bm N' bnd w' := by
  obtain ⟨s, h1, h2, h3, h4⟩ := h
  exact ⟨s, h1.belowN hb hN, h2, h3, h4.trans (hb.mono h4.size)⟩
theorem KS.less {N' : Nat → Prop} (h : KS w0 g bm N bnd w) (hN : ∀ i, N' i → N i) : KS w0 g bm N' bnd w := by
  obtain ⟨s, h1, h2, h3, h4⟩ := h
  exact ⟨s, h1.less hN, h2, h3, h4⟩
theorem KS.bel (h : KS w0 g bm N bnd w) : Below w0.heap.size w0 w := by
  obtain ⟨s, h1, h2, h3, h4⟩ := h
  exact h4
theorem KS.more {b' : Nat} (h : KS w0 g bm N bnd w) (hb : bnd ≤ b') : KS w0 g bm N b' w := by
  obtain ⟨s, h1, h2, h3, h4⟩ := h
  exact ⟨s, h1, Nat.le_trans h2 hb, Nat.le_trans h3 hb, h4⟩
theorem KS.new (h : KS w0 g bm N bnd w) (hb : bnd ≤ 100000) (many : Nat) (h1 : 1 ≤ many) (h2 : many ≤ 1024) :
    Calls Try.prog 13 #[.pointer (some ⟨g, 0, none⟩), .int .i64 (many : Int)] w fun e w' => ∃ t M, e = .returned (.tuple #[.pointer (some ⟨t, 0, none⟩), .int .i64 0]) ∧ TreeAt w' M t g (lows (empties many)) ∧ KS w0 g bm N (bnd + 6144) w' ∧ ∀ i, N i → w'.heap[i]? = w.heap[i]? := by
  obtain ⟨s, hk, b1, b2, hbel⟩ := h
  refine (tnew_any w0.heap.size g bm s many N w hk hbel.size (by omega) (by omega) h1 h2).mono ?_
  rintro e w' ⟨t, M, rfl, hT, hM, hk2, hO⟩
  have hbnd := new_bound many h1 h2 s
  exact ⟨t, M, rfl, hT, ⟨_, hk2.less fun i hi => .inl hi, by omega, by omega, hbel.trans (hO.above (fun i hi => hi.1) hbel.size)⟩, fun i hi => hO.block i (hk.lt hi) fun e => e.2.1 hi⟩
theorem KS.leaf (h : KS w0 g bm N bnd w) (hb : bnd ≤ 100000) (A : Option Addr) (n cp : Nat) (x : List UInt8) (hB : Bs w A x) (hn : x.length = n) (hc : n ≤ cp) (hcm : cp ≤ maxLen) (hs : n ≤ 65535) :
    Calls Try.prog 23 #[.pointer (some ⟨g, 0, none⟩), .slice A n cp] w fun e w' => e = .returned (.tuple #[.agg (cbs (digest (leafIn x))).toArray, .int .i64 0]) ∧ KS w0 g bm N (bnd + 1) w' := by
  obtain ⟨s, hk, b1, b2, hbel⟩ := h
  refine (leaf_kb w0.heap.size g bm s N A n cp x w hk hbel.size (by omega) (by omega) hB hn hc hcm hs).mono ?_
  rintro e w' ⟨rfl, hk2, hO⟩
  have h3 := stepL_len s (leafIn x)
  exact ⟨rfl, _, hk2, by omega, by omega, hbel.trans (hO.above (fun i hi => hi.1) hbel.size)⟩
end

/-- A tree's depth and how many leaves it has. -/
theorem tdl {w : World} {M : Nat → Prop} {t g : Nat} {low : List Dg} (h : TreeAt w M t g low) : ∀ w', Below w.heap.size w w' →
    Calls Try.prog 21 #[.pointer (some ⟨t, 0, none⟩)] w' (fun e w'' => e = .returned (.int .i64 (dep low.length : Int)) ∧ w'' = w') ∧
    Calls Try.prog 26 #[.pointer (some ⟨t, 0, none⟩)] w' (fun e w'' => e = .returned (.int .i64 (low.length : Int)) ∧ w'' = w') := fun w' hb => by
  obtain ⟨L, R, lv, c, hT⟩ := h
  have hblk := hT.blk.below hb hT.blk.lt
  exact ⟨tdepth_any t g low.length lv _ c w' hblk (dep_pos _), tleaves_any t g low.length lv _ c w' hblk (dep_pos _)⟩

/-- make([][]byte, 1025). -/
theorem made_lists (n : Nat) (hn : n < 1000000) : ∃ Z : Array Value, ∀ w : World, (Instr.makeSlice 22 (.int .i64 (n : Int)) (.int .i64 (n : Int))).run Try.prog w = .ok (.slice (some ⟨w.heap.size, 0, none⟩) n n) (w.alloc (.cells Z 34)) := by
  refine ⟨madeCells #[.slice none 0 0] n, fun w => ?_⟩
  exact run_make_row' 22 34 (.slice none 0 0) 24 Try.underlying22 (by kernel_rfl) rfl .i64 .i64 n (by omega) (by omega) w
/-- make([]api.Digest, n). -/
theorem made_digs1 : ∀ w : World, (Instr.makeSlice 46 (.int .i64 1) (.int .i64 1)).run Try.prog w = .ok (.slice (some ⟨w.heap.size, 0, none⟩) 1 1) (w.alloc (.cells (cbs (List.replicate 32 0)).toArray 38)) := fun w => by kernel_rfl
theorem made_digs5 : ∃ Z : Array Value, ∀ w : World, (Instr.makeSlice 46 (.int .i64 5) (.int .i64 5)).run Try.prog w = .ok (.slice (some ⟨w.heap.size, 0, none⟩) 5 5) (w.alloc (.cells Z 38)) := ⟨(cbs (List.replicate 160 0)).toArray, fun w => by kernel_rfl⟩
theorem ds_one (w : World) (g : Nat) (h : Blk w g 38 (cbs (List.replicate 32 0))) : Ds w (some ⟨g, 0, none⟩) [List.replicate 32 0] :=
  ⟨by simp [cbs_length], fun _ => ⟨g, 0, rfl, h.lt, fun j u hu => by
    rw [Nat.zero_add]
    exact h.cell (by simpa using hu)⟩⟩
/-- Two cells by value. -/
theorem range_two {w : World} {g o : Nat} {u v : Value} (h0 : w.cell? ⟨g, o, none⟩ = some u) (h1 : w.cell? ⟨g, o + 1, none⟩ = some v) : w.rangeAt g o [u, v] := fun j x hx => by
  rcases j with _ | _ | j
  · simp only [List.getElem?_cons_zero, Option.some.injEq] at hx; subst hx; exact h0
  · simp only [List.getElem?_cons_succ, List.getElem?_cons_zero, Option.some.injEq] at hx; subst hx; exact h1
  · simp at hx
theorem two_local (w1 : World) (a b : Nat) : ∃ wS, (w1.alloc (.cells #[.int .i64 0, .int .i64 0] 57)).setCells w1.heap.size 0 [.int .i64 (a : Int), .int .i64 (b : Int)] = wS ∧
    (w1.alloc (.cells #[.int .i64 0, .int .i64 0] 57)).there w1.heap.size 0 [Value.int .i64 (a : Int), Value.int .i64 (b : Int)].toArray.size ∧ Blk wS w1.heap.size 57 [.int .i64 (a : Int), .int .i64 (b : Int)] ∧ Below w1.heap.size w1 wS ∧ wS.heap.size = w1.heap.size + 1 := by
  have hB : Blk (w1.alloc (.cells #[.int .i64 0, .int .i64 0] 57)) w1.heap.size 57 [.int .i64 0, .int .i64 0] := Blk.new rfl rfl
  exact ⟨_, rfl, hB.there, hB.setAll (vs := [.int .i64 (a : Int), .int .i64 (b : Int)]) rfl, Below.setCells (Nat.le_refl _) _ ((Below.refl _ _).alloc (Nat.le_refl _) _), by rw [size_cells, World.size_alloc]⟩
theorem info_two : (Try.prog.info? 57).map (·.size) = some 2 := by kernel_rfl

section
variable {D : List Value} (hD : cbs (List.replicate 32 0) = D) (v : Value) (A : Option Addr) (n c : Nat) (w : World)
include hD
theorem k_of0 (h : n < 1 ∨ 1024 < n) : Calls Try.prog 17 #[v, .slice A n c] w fun e w' => e = .returned (.tuple #[.agg D.toArray, .int .i64 2]) ∧ Below w.heap.size w w' := hD ▸ tof_zero v A n c w h
theorem k_ofl (x : List UInt8) (hx : x.length = 65536) (r q : Nat) (hr : w.cell? ⟨r, 0, none⟩ = some (.slice (some ⟨q, 0, none⟩) 65536 65536)) (hB : Bs w (some ⟨q, 0, none⟩) x) (hq : q < w.heap.size) :
    Calls Try.prog 17 #[v, .slice (some ⟨r, 0, none⟩) 1 1] w fun e w' => e = .returned (.tuple #[.agg D.toArray, .int .i64 5]) ∧ Below w.heap.size w w' :=
  hD ▸ tof_long v _ 1 1 w (K := fun j => j = r ∨ j = q) (ls := [x]) ⟨r, 0, rfl, .inl rfl, fun j hj => by
    obtain rfl : j = 0 := by simpa using hj
    exact ⟨some ⟨q, 0, none⟩, 65536, by simpa [hx] using hr, by simp [hx], by unfold maxLen; omega, hB, fun a e _ => by injection e with e; subst e; exact .inr rfl⟩⟩ rfl (by decide) (by decide) (fun j hj => by
      rcases hj with rfl | rfl
      · exact World.block_lt_of_cell? w _ hr
      · exact hq) 0 (by simp) (by simp [hx]) (fun j hj => by omega)
theorem k_ofn (r : Nat) (hr : w.cell? ⟨r, 0, none⟩ = some (.slice none 0 0)) : Calls Try.prog 17 #[.pointer none, .slice (some ⟨r, 0, none⟩) 1 1] w fun e w' => e = .returned (.tuple #[.agg D.toArray, .int .i64 1]) ∧ Below w.heap.size w w' := hD ▸ tof_none none r 1 w (.inl rfl) hr
theorem k_leafl (h : 65535 < n) : Calls Try.prog 23 #[v, .slice A n c] w fun e w' => e = .returned (.tuple #[.agg D.toArray, .int .i64 5]) ∧ Below w.heap.size w w' := hD ▸ leaf_long v A n c w h
theorem k_leafn : Calls Try.prog 23 #[.pointer none, .slice none 0 0] w fun e w' => e = .returned (.tuple #[.agg D.toArray, .int .i64 1]) ∧ Below w.heap.size w w' := hD ▸ leaf_none (.pointer none) none 0 0 [] w (.inl rfl) (Bs.nil w none) rfl (Nat.le_refl _) (by unfold maxLen; omega) (by decide)
theorem k_upo (h : n < 1 ∨ 4 < n) : Calls Try.prog 22 #[v, .slice A n c] w fun e w' => e = .returned (.tuple #[.agg D.toArray, .int .i64 2]) ∧ Below w.heap.size w w' := hD ▸ up_off v A n c w h
theorem k_upn (r : Nat) (hr : Blk w r 38 (cbs (List.replicate 32 0))) : Calls Try.prog 22 #[.pointer none, .slice (some ⟨r, 0, none⟩) 1 1] w fun e w' => e = .returned (.tuple #[.agg D.toArray, .int .i64 1]) ∧ Below w.heap.size w w' :=
  hD ▸ up_none (.pointer none) _ 1 1 [List.replicate 32 0] w (.inl rfl) (ds_one w r hr) (fun x hx => by simp at hx; subst hx; rfl) rfl (by decide) (by decide)
theorem k_root (h : NoTree w v) : Calls Try.prog 27 #[v] w fun e w' => e = .returned (.tuple #[.agg D.toArray, .int .i64 1]) ∧ Below w.heap.size w w' := hD ▸ troot_none v w h
end
end Go.Proofs.Ytbdocaohnigekaa
