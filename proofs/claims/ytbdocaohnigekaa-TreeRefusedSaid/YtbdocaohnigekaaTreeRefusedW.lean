/-
  For all numbers leaves (brought to 1 to 100) and at: to set a leaf that is none changes nothing of the tree and the book and answers ErrRange, to set one that is there answers OK; TreeRefused returns true; no condition.
-/
import Derived.Test.YtbdocaohnigekaaZ01
import Derived.Test.YtbdocaohnigekaaZ13
import Derived.Deep.RegionHeld3
import Derived.Deep.RegionWith
import Derived.Deep.DeepCutAuto
namespace Go.Proofs.Ytbdocaohnigekaa.treeRefused
open Go.ChangeShapes Go.WideShapes Go.ChangeAt Go.RowKit
set_option linter.unusedVariables false

set_option maxRecDepth 100000 in
set_option maxHeartbeats 3200000 in
theorem walk (leaves : Int) (ati : Int) (w : World) (hleaves : (Lit.int .i64 leaves).wf = true) (hati : (Lit.int .i64 ati).wf = true) :
    Calls Try.prog 8 #[.int .i64 leaves, .int .i64 ati] w fun e w' => e = .returned (.bool true) ∧ Below w.heap.size w w' := by
  have hlb := bounds_i64 hleaves
  have hab := bounds_i64 hati
  have Hlb := Lib.hid (And.intro hlb hab)
  have hnot : ∀ (x : Bool) (w : World), (Op.unary .not (.bool x)).run Try.prog w = .ok (.bool (!x)) w := fun _ _ => rfl
  clear hlb hab hleaves hati
  go_enter Try.func8, Try.ntmps8
  go_wp2_with (go_at_call 10; refine (works9_any _).mono ?_; rintro e w0 ⟨rfl, hb0⟩)
  have Hb0 := Lib.hid hb0
  clear hb0
  refine (bring_any leaves 100 w0 (by decide) (by decide) (by have := Hlb.out; omega) (by have := Hlb.out; omega)).mono ?_
  rintro e w0 ⟨r, hr, rfl, rfl⟩
  obtain ⟨many, hmany⟩ : ∃ many : Nat, (1 : Int) + (r : Int) = (many : Int) := ⟨1 + r, by omega⟩
  have hm1 : 1 ≤ many := by omega
  have hm2 : many ≤ 100 := by omega
  go_wp2_with (go_at_call 12; refine (bnew_any _).mono ?_; rintro e w1 ⟨S, g, bm, rfl, hS, hb, hb1⟩)
  have hk1 := kb_new hS hb
  have Hn := Lib.hid (tnew_any w0.heap.size g bm _ many (fun _ => False) w1 hk1 hb1.size (by decide) (by decide) hm1 (by omega))
  have H1 := Lib.hid hb1
  clear hS hb hk1 hb1
  go_wp2_with (go_at_call 13; refine Hn.out.mono ?_; rintro e w2 ⟨t, M, rfl, hT, hM, hk2, hO2⟩)
  have hbnd := new_bound many hm1 (by omega) ([], false, 0)
  have hb2 : Below w0.heap.size w0 w2 := H1.out.trans (hO2.above (fun i hi => hi.1) H1.out.size)
  have hll : (lows (empties many)).length = many := by rw [lows_len, empties_len]
  obtain ⟨low, hlow⟩ : ∃ low, lows (empties many) = low := ⟨_, rfl⟩
  rw [hlow] at hT hll
  obtain ⟨sk, hsk⟩ : ∃ sk : Bk, noteAll ([], false, 0) (insTo (empties many) (dep many - 1)) = sk := ⟨_, rfl⟩
  rw [hsk] at hk2 hbnd
  have hrl : (rootD low).length = 32 := by obtain ⟨_, _, _, _, hs⟩ := hT; exact root_len hs.l1 hs.all
  obtain ⟨D, hD⟩ : ∃ D, cbs (rootD low) = D := ⟨_, rfl⟩
  have hD32 : D.length = 32 := by rw [← hD, cbs_length, hrl]
  have hD1 : D.toArray.all (·.oneCell') = true := by rw [← hD]; exact cbs_one' _
  have hrt := hroot_any hT
  rw [hD] at hrt
  have Hrt := Lib.hid hrt
  have heq := fun w' => eq_self D (rootD low) hD hrl w'
  have H2 := Lib.hid (And.intro hT (And.intro hM (And.intro hk2 (And.intro hb2 (And.intro hll (And.intro hD32 (And.intro hD1 (And.intro hD hbnd))))))))
  clear hT hM hk2 hb2 hll hD32 hD1 hrt hD hrl hlow hsk hbnd hO2 Hn
  go_wp2_with fail
  refine Hrt.out.mono ?_
  rintro e w3 ⟨rfl, hb3⟩
  obtain ⟨hT, hM, hk2, hb2, hll, hD32, hD1, hD, hbnd⟩ := H2.out
  obtain ⟨w4, hw4, ⟨hth, hi⟩, hbS, hbel, hsz⟩ := dig_local w3 D hD32
  have hb24 : Below w2.heap.size w2 w4 := hb3.trans (hbel.mono hb3.size)
  have hk4 := hk2.below hb24
  have hT4 := hT.below hb24
  have hb5 : Below w4.heap.size w4 (w4.alloc (.cells #[.int .u8 1] 5)) := (Below.refl _ _).alloc (Nat.le_refl _) _
  have Hlen := Lib.hid (kb_len hk4)
  have hDi : (Try.prog.info? 38).map (·.size) = some D.length := by rw [hD32]; exact info32b
  have Hw4 := Lib.hid hw4
  have Hs := Lib.hid (And.intro hth (And.intro hi (And.intro hD1 hDi)))
  have H4 := Lib.hid (And.intro hb24 (And.intro hbS (And.intro hb5 (And.intro hk4 hT4))))
  clear hb3 hw4 hth hi hbS hbel hsz hb24 hk4 hT4 hb5 hT hM hk2 hb2 hll hD32 hD1 hD hbnd hDi
  go_wp2_with (first
    | (refine wpList_store_mid rfl 38 _ _ rfl w3.heap.size 0 D.toArray rfl rfl Hs.out.1 Hs.out.2.1 Hs.out.2.2.1 ?_; simp only [Act.put]; refine cast (congrArg (fun z => wpList _ _ _ _ _ z) Hw4.out.symm) ?_)
    | (go_at_call 25; refine Hlen.out.mono ?_; rintro e w4 ⟨rfl, rfl⟩))
  by_cases hin : 0 ≤ ati ∧ ati < (many : Int)
  · obtain ⟨h0, h1⟩ := hin
    obtain ⟨a, rfl⟩ : ∃ a : Nat, ati = (a : Int) := ⟨ati.toNat, by omega⟩
    obtain ⟨hT, hM, hk2, hb2, hll, hD32, hD1, hD, hbnd⟩ := H2.out
    obtain ⟨hb24, hbS, hb5, hk4, hT4⟩ := H4.out
    have hset := tset_any w0.heap.size bm sk (fun i => False ∨ M i) (hT4.below hb5) (hk4.below hb5) (Nat.le_trans hb2.size (Nat.le_trans hb24.size hb5.size)) (fun j hj => .inr hj) (by simp only [List.length_nil] at hbnd; omega) (by omega) a (by omega) (some ⟨w4.heap.size, 0, none⟩) 1 1 [1] (Bs.made w4 _ _ _ [1] rfl) rfl (Nat.le_refl _) (by decide) (by decide)
    refine hset.mono ?_
    rintro e w6 ⟨rfl, hT6, hk6, hO6⟩
    have H6 := Lib.hid hO6
    have h0' : decide ((0 : Int) ≤ (a : Int)) = true := by simp
    clear hset hT6 hk6 hO6 hT hM hk2 hb2 hll hD32 hD1 hD hbnd hb24 hbS hb5 hk4 hT4
    go_wp2
    go_ret
    have q : Below w0.heap.size w0 (w4.alloc (.cells #[.int .u8 1] 5)) := (H2.out.2.2.2.1.trans (H4.out.1.mono H2.out.2.2.2.1.size)).trans (H4.out.2.2.1.mono (Nat.le_trans H2.out.2.2.2.1.size H4.out.1.size))
    exact ⟨rfl, Hb0.out.trans ((q.trans (H6.out.above (fun i hi => by
      rcases hi with hi | hi
      · exact hi.1
      · exact Nat.le_trans H1.out.size (H2.out.2.1 i hi)) q.size)).mono Hb0.out.size)⟩
  · have hoff := tset_off (H4.out.2.2.2.2.below H4.out.2.2.1) ati (by have := H2.out.2.2.2.2.1; omega) (some ⟨w4.heap.size, 0, none⟩) 1 1
    refine hoff.mono ?_
    rintro e w5 ⟨rfl, hw5⟩
    rw [← hw5] at H4
    have hrt := hroot_any (H4.out.2.2.2.2.below H4.out.2.2.1)
    rw [H2.out.2.2.2.2.2.2.2.1] at hrt
    have Hrt2 := Lib.hid hrt
    clear hrt hoff hw5
    obtain ⟨hc0, hc1⟩ : ((decide ((0 : Int) ≤ ati) = false) ∨ (decide ((0 : Int) ≤ ati) = true ∧ decide (ati < (many : Int)) = false)) ∧ True := ⟨by
      by_cases h0 : 0 ≤ ati
      · exact .inr ⟨by simp [h0], by simp; omega⟩
      · exact .inl (by simp; omega), trivial⟩
    rcases hc0 with hc0 | ⟨hc0, hc2⟩
    all_goals
      go_wp2_with fail
      refine Hrt2.out.mono ?_
      rintro e w6 ⟨rfl, hb6⟩
      obtain ⟨hT, hM, hk2, hb2, hll, hD32, hD1, hD, hbnd⟩ := H2.out
      obtain ⟨hb24, hbS, hb5, hk4, hT4⟩ := H4.out
      obtain ⟨w7, hw7, ⟨hth, hi⟩, hbS7, hbel, hsz⟩ := dig_local w6 D hD32
      have hb57 := hb6.trans (hbel.mono hb6.size)
      have hb47 := hb5.trans (hb57.mono hb5.size)
      have Hlen7 := Lib.hid (kb_len (hk4.below hb47))
      have hr3 : w7.rangeAt w3.heap.size 0 D := range_below hb47 hbS.range
      have Hw7 := Lib.hid hw7
      have Hs7 := Lib.hid (And.intro hth (And.intro hi (And.intro hr3 hbS7.range)))
      have H7 := Lib.hid ((hb2.trans (hb24.mono hb2.size)).trans (hb47.mono (Nat.le_trans hb2.size hb24.size)))
      clear hT hM hk2 hb2 hll hD32 hD1 hD hbnd hb24 hbS hb5 hk4 hT4 hw7 hth hi hbS7 hbel hsz hb57 hb47 hr3 hb6
      go_wp2_with (first
        | (refine wpList_store_mid rfl 38 _ _ rfl w6.heap.size 0 D.toArray rfl rfl Hs7.out.1 Hs7.out.2.1 Hs.out.2.2.1 ?_; simp only [Act.put]; refine cast (congrArg (fun z => wpList _ _ _ _ _ z) Hw7.out.symm) ?_)
        | (refine load_mid_g (by rfl) 38 _ rfl w3.heap.size 0 rfl D _ Hs7.out.2.2.1 Try.underlying38 rfl Hs.out.2.2.2 ?_; simp only [Act.put])
        | (refine load_mid_g (by rfl) 38 _ rfl w6.heap.size 0 rfl D _ Hs7.out.2.2.2 Try.underlying38 rfl Hs.out.2.2.2 ?_; simp only [Act.put])
        | (go_at_call 25; refine Hlen7.out.mono ?_; rintro e w7 ⟨rfl, rfl⟩))
      go_ret
      exact ⟨rfl, Hb0.out.trans (H7.out.mono Hb0.out.size)⟩

end Go.Proofs.Ytbdocaohnigekaa.treeRefused
