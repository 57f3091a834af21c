/-
  For all numbers leaves (brought to 1 to 200), a place at and bytes leaf (100 at most are looked at): where one leaf is set, in each level only the node above it changes; TreePath returns true; no condition.
-/
import Derived.Test.YtbdocaohnigekaaZ01
import Derived.Test.YtbdocaohnigekaaZ13
import Derived.Test.YtbdocaohnigekaaZ07
import Derived.Deep.RegionHeld3
import Derived.Deep.RegionWith
import Derived.Deep.DeepCutAuto
namespace Go.Proofs.Ytbdocaohnigekaa.treePath
open Go.ChangeShapes Go.WideShapes Go.ChangeAt Go.RowKit
set_option linter.unusedVariables false

set_option maxRecDepth 100000 in
set_option maxHeartbeats 6400000 in
theorem walk (leaves : Int) (ati : Int) (Aleaf : Option Addr) (nleaf cleaf : Nat) (leaf : List UInt8) (w : World) (hleaves : (Lit.int .i64 leaves).wf = true) (hati : (Lit.int .i64 ati).wf = true) (hleaf : ArgB w Aleaf nleaf cleaf leaf) :
    Calls Try.prog 6 #[.int .i64 leaves, .int .i64 ati, .slice Aleaf nleaf cleaf] w fun e w' => e = .returned (.bool true) ∧ Below w.heap.size w w' := by
  have hlb := bounds_i64 hleaves
  have hab := bounds_i64 hati
  obtain ⟨mx, x, hxl, hxm, hxc, hcm, hBx, hmin, hsl⟩ := cutUp 100 100 rfl hleaf
  have Hlb := Lib.hid (And.intro hlb hab)
  have Hx := Lib.hid (And.intro hxl (And.intro hxm (And.intro hxc (And.intro hcm hBx))))
  have hnot : ∀ (x : Bool) (w : World), (Op.unary .not (.bool x)).run Try.prog w = .ok (.bool (!x)) w := fun _ _ => rfl
  have hcl1 : nleaf ≤ 9223372036854775807 := by have := hleaf.2.1; have := hleaf.2.2.1; omega
  clear hlb hab hleaves hati hxl hxm hxc hcm hBx hleaf
  go_enter Try.func6, Try.ntmps6
  go_wp2_with (go_at_call 10; refine (works9_any _).mono ?_; rintro e w0 ⟨rfl, hb0⟩)
  have Hb0 := Lib.hid hb0
  clear hb0
  refine (bring_any leaves 200 w0 (by decide) (by decide) (by have := Hlb.out; omega) (by have := Hlb.out; omega)).mono ?_
  rintro e w0 ⟨r, hr, rfl, rfl⟩
  obtain ⟨many, hmany⟩ : ∃ many : Nat, (1 : Int) + (r : Int) = (many : Int) := ⟨1 + r, by omega⟩
  have hm1 : 1 ≤ many := by omega
  have hm2 : many ≤ 200 := by omega
  go_wp2_with fail
  refine (bring_any ati many w0 (by omega) (by omega) (by have := Hlb.out; omega) (by have := Hlb.out; omega)).mono ?_
  rintro e w0 ⟨a, ha, rfl, rfl⟩
  go_wp2_with fail
  refine (bnew_any _).mono ?_
  rintro e w1 ⟨S, g, bm, rfl, hS, hb, hb1⟩
  have hk1 := kb_new hS hb
  have Hn := Lib.hid (tnew_any w0.heap.size g bm _ many (fun _ => False) w1 hk1 hb1.size (by decide) (by decide) hm1 (by omega))
  have H1 := Lib.hid hb1
  clear hS hb hk1 hb1
  go_wp2_with fail
  refine Hn.out.mono ?_
  rintro e w2 ⟨t, M, rfl, hT, hM, hk2, hO2⟩
  have hbnd := new_bound many hm1 (by omega) ([], false, 0)
  have hb2 : Below w0.heap.size w0 w2 := H1.out.trans (hO2.above (fun i hi => hi.1) H1.out.size)
  have hll : (lows (empties many)).length = many := by rw [lows_len, empties_len]
  obtain ⟨low, hlow⟩ : ∃ low, lows (empties many) = low := ⟨_, rfl⟩
  rw [hlow] at hT hll
  obtain ⟨sk, hsk⟩ : ∃ sk : Bk, noteAll ([], false, 0) (insTo (empties many) (dep many - 1)) = sk := ⟨_, rfl⟩
  rw [hsk] at hk2 hbnd
  simp only [List.length_nil] at hbnd
  have Hn2 := Lib.hid (tnew_any w0.heap.size g bm sk many (fun i => False ∨ M i) w2 hk2 hb2.size (by omega) (by omega) hm1 (by omega))
  have H2 := Lib.hid (And.intro hT (And.intro hM (And.intro hb2 (And.intro hll hbnd))))
  have Hlow := Lib.hid hlow
  clear hT hM hk2 hb2 hll hlow hsk hbnd hO2 Hn
  go_wp2_with fail
  refine Hn2.out.mono ?_
  rintro e w3 ⟨u, M2, rfl, hT2, hM2, hk3, hO3⟩
  obtain ⟨hT, hM, hb2, hll, hbnd⟩ := H2.out
  rw [Hlow.out] at hT2
  have hT3 := hT.out hO3 fun i hi => Tn.keep (.inr hi)
  have hb3 : Below w0.heap.size w0 w3 := hb2.trans (hO3.above (fun i hi => hi.1) hb2.size)
  have hbn2 := new_bound many hm1 (by omega) sk
  have hset := tset_any w0.heap.size bm _ (fun i => (False ∨ M i) ∨ M2 i) hT3 hk3 hb3.size (fun j hj => .inl (.inr hj)) (by omega) (by omega) a (by omega) Aleaf mx cleaf x (Hx.out.2.2.2.2.after ((Hb0.out.trans (hb3.mono Hb0.out.size)))) Hx.out.1 Hx.out.2.2.1 Hx.out.2.2.2.1 (by have := Hx.out.2.1; omega)
  have hdisj : ∀ i, M2 i → ¬ (Tn w0.heap.size bm w3 (fun i => (False ∨ M i) ∨ M2 i) i ∨ M i) := fun i hi e => by
    rcases e with e | e
    · exact e.2.1 (.inr hi)
    · have := hM2 i hi
      obtain ⟨_, _, _, _, h⟩ := hT
      have := h.ltM i e
      omega
  have Hset := Lib.hid hset
  have H3 := Lib.hid (And.intro hT2 (And.intro hb3 (And.intro hdisj (And.intro hll (And.intro hM (And.intro H1.out.size hb2))))))
  clear hset hT hM hb2 hll hbnd hT2 hM2 hk3 hO3 hT3 hb3 hbn2 hdisj Hn2
  go_wp2_with fail
  refine Hset.out.mono ?_
  rintro e w4 ⟨rfl, hT4, hk4, hO4⟩
  have hU4 := H3.out.1.out hO4 H3.out.2.2.1
  have hb4 : Below w0.heap.size w0 w4 := H3.out.2.1.trans (hO4.above (fun i hi => by
    rcases hi with hi | hi
    · exact hi.1
    · exact Nat.le_trans H3.out.2.2.2.2.2.1 (H3.out.2.2.2.2.1 i hi)) H3.out.2.1.size)
  obtain ⟨low2, hlow2⟩ : ∃ low2, lowSet low a x = low2 := ⟨_, rfl⟩
  rw [hlow2] at hT4
  have hl2 : low2.length = many := by rw [← hlow2, lowSet_len]; exact H3.out.2.2.2.1
  have hset : ∀ k j, j ≠ a / 4 ^ k → (lvl low k)[j]? = (lvl low2 k)[j]? := fun k j hj => by
    rw [← hlow2]
    exact lvl_set (by rw [lowSet_len]) (fun i hi => by rw [lowSet, List.getElem?_set_ne (fun e => hi e.symm)]) k j hj
  have hd1 := dep_pos many
  have hd6 := dep_le (m := many) (by omega)
  have hll := H3.out.2.2.2.1
  have hall : All32 low ∧ All32 low2 := by
    obtain ⟨_, _, _, _, h1⟩ := hU4
    obtain ⟨_, _, _, _, h2⟩ := hT4
    exact ⟨h1.all, h2.all⟩
  obtain ⟨d, hd⟩ : ∃ d, dep many = d := ⟨_, rfl⟩
  rw [hd] at hd1 hd6
  have H4 := Lib.hid (And.intro hT4 (And.intro hU4 (And.intro hb4 (And.intro hl2 (And.intro hll (And.intro hset (And.intro hall hd)))))))
  have Ha := Lib.hid ha
  clear hT4 hk4 hO4 hU4 hb4 hlow2 hl2 hset hll hall Hset hd
  go_wp2
  go_loopw [1, 12, 13, 14, 15, 16, 17] (fun av n _ _ _ _ _ wr => ∃ k : Nat, k ≤ d ∧ av = .int .i64 ((a / 4 ^ k : Nat) : Int) ∧ n = .int .i64 (k : Int) ∧ Below w4.heap.size w4 wr) (fun _ n _ _ _ _ _ _ => d - (intOf n).toNat)
  case atStart => exact ⟨0, Nat.zero_le _, by simp, rfl, Below.refl _ _⟩
  case round =>
    obtain ⟨k, hk, rfl, rfl, hB⟩ := hrel
    obtain ⟨hT4, hU4, hb4, hl2, hll, hset, hall, hd⟩ := H4.out
    obtain ⟨L1, R1, lv1, c1, h1⟩ := hT4.below hB
    have hblk := h1.blk
    rw [hl2, hd] at hblk
    have Hd1 := Lib.hid (tdepth_any t g many lv1 d c1 wr hblk hd1)
    obtain ⟨ak, hak⟩ : ∃ ak, a / 4 ^ k = ak := ⟨_, rfl⟩
    have hak2 : a / 4 ^ (k + 1) = ak / 4 := by rw [div_pow, hak]
    have hak3 : ak ≤ a := by rw [← hak]; exact Nat.div_le_self _ _
    have ham := Ha.out
    rw [hak]
    by_cases hlt : k < d
    · have hx1 := tlevel_in (hT4.below hB) k (by rw [hl2, hd]; exact hlt)
      have Hx1 := Lib.hid hx1
      have Hak := Lib.hid (And.intro hak hak2)
      have hkd : (k : Int) < (d : Int) := by omega
      have HB := Lib.hid hB
      clear h1 hblk hT4 hU4 hb4 hl2 hll hset hall hd hx1 hB hak hak2
      go_wp2_with (go_at_call 21; refine Hd1.out.mono ?_; rintro e wr ⟨rfl, rfl⟩)
      refine Hx1.out.mono ?_
      rintro e w5 ⟨v1, rfl, hN1⟩
      obtain ⟨hT4, hU4, hb4, hl2, hll, hset, hall, hd⟩ := H4.out
      have hw1 : 1 ≤ wid many k ∧ wid many k ≤ 200 := ⟨wid_pos hm1 k, Nat.le_trans (wid_le _ k hm1) hm2⟩
      have hn1 : (lvl low2 k).length = wid many k := by rw [lvl_len, hl2]
      have hn2 : (lvl low k).length = wid many k := by rw [lvl_len, hll]
      obtain ⟨r1, cr1, rfl, hc1, hcm1, hr1, hr1b, hDs1, _⟩ := hN1.form (fun e => by rw [e] at hn1; simp at hn1; omega)
      have hB5 := HB.out.trans (hN1.2.mono HB.out.size)
      have hy1 := tlevel_in (hU4.below hB5) k (by rw [hll, hd]; exact hlt)
      rw [hn1]
      rw [hn1] at hc1
      have Hy1 := Lib.hid hy1
      have H5 := Lib.hid (And.intro hB5 (And.intro hDs1 (And.intro hc1 (And.intro hcm1 (And.intro hn1 hn2)))))
      obtain ⟨q, hq⟩ : ∃ q, wid many k = q := ⟨_, rfl⟩
      rw [hq] at hw1 ⊢
      clear hT4 hU4 hb4 hl2 hll hset hall hd hN1 hc1 hcm1 hr1 hr1b hDs1 hB5 hy1 hn1 hn2
      go_wp2_with fail
      refine Hy1.out.mono ?_
      rintro e w6 ⟨v2, rfl, hN2⟩
      obtain ⟨hB5, hDs1, hc1, hcm1, hn1, hn2⟩ := H5.out
      obtain ⟨r2, cr2, rfl, hc2, hcm2, hr2, hr2b, hDs2, _⟩ := hN2.form (fun e => by rw [e] at hn2; simp at hn2; omega)
      have hB6 := hB5.trans (hN2.2.mono hB5.size)
      rw [hn2] at hc2 ⊢
      rw [hq] at hc1 hc2 hn1 hn2 ⊢
      have H6 := Lib.hid (And.intro hB6 (And.intro (hDs1.after hN2.2) (And.intro hDs2 (And.intro hn1 hn2))))
      clear hB5 hDs1 hn1 hn2 hN2 hcm2 hr2 hr2b hDs2 hB6 hq hcm1
      go_wp2
      go_loopw [17] (fun iv wi => ∃ j : Nat, j ≤ q ∧ iv = .int .i64 (j : Int) ∧ Below w6.heap.size w6 wi) (fun iv _ => q - (intOf iv).toNat)
      case atStart => exact ⟨0, Nat.zero_le _, rfl, Below.refl _ _⟩
      case round =>
        obtain ⟨j, hj, rfl, hBi⟩ := hrel
        by_cases hjq : j < q
        · obtain ⟨hB6, hDs1, hDs2, hn1, hn2⟩ := H6.out
          obtain ⟨hT4, hU4, hb4, hl2, hll, hset, hall, hd⟩ := H4.out
          have hg1 : j < (lvl low2 k).length := by omega
          have hg2 : j < (lvl low k).length := by omega
          obtain ⟨_, _, e1, _, hra⟩ := (hDs1.after hBi).at_ (all32_lvl hall.2 k) hg1
          obtain ⟨_, _, e2, _, hrb⟩ := (hDs2.after hBi).at_ (all32_lvl hall.1 k) hg2
          cases e1
          cases e2
          rw [Nat.zero_add] at hra hrb
          have hp0 : (0 : Int) ≤ (j : Int) := by omega
          have hp1 : (j : Int) < (q : Int) := by omega
          have HBi := Lib.hid hBi
          by_cases hja : j = ak
          · have hp2 : ((j : Int) != (ak : Int)) = false := by simp; omega
            have hp3 : ((j : Int) == (ak : Int)) = true := by simp; omega
            clear hB6 hDs1 hDs2 hn1 hn2 hT4 hU4 hb4 hl2 hll hset hall hd hg1 hg2 hra hrb hBi
            have Q0 : True ∧ True := ⟨trivial, trivial⟩
            go_wp2
            refine wp_region_held_drew (S := fun W' => True ∧ True) (by kernel_rfl) Q0 (fun _ => ?_)
            refine anyH_take (i := 0) (d := 93) (v := ?u0) rfl rfl (by kernel_rfl) (by kernel_rfl) (by kernel_rfl) (fun _ _ _ h => h) (Or.inl ⟨by rfl, ?uy0⟩) Q0 ?ur0
            case uy0 => (intro w; go_simp; try with_reducible rfl)
            simp only [List.setIfInBounds_toArray, List.set_cons_zero, List.set_cons_succ]
            refine anyH_take (i := 1) (d := 94) (v := ?u1) rfl rfl (by kernel_rfl) (by kernel_rfl) (by kernel_rfl) (fun _ _ _ h => h) (Or.inl ⟨by rfl, ?uy1⟩) Q0 ?ur1
            case uy1 => (intro w; go_simp; try with_reducible rfl)
            simp only [List.setIfInBounds_toArray, List.set_cons_zero, List.set_cons_succ]
            refine anyH_take (i := 2) (d := 95) (v := ?u2) rfl rfl (by kernel_rfl) (by kernel_rfl) (by kernel_rfl) (fun _ _ _ h => h) (Or.inl ⟨by rfl, ?uy2⟩) Q0 ?ur2
            case uy2 => (intro w; go_simp; try with_reducible rfl)
            simp only [List.setIfInBounds_toArray, List.set_cons_zero, List.set_cons_succ]
            refine anyH_take (i := 3) (d := 96) (v := ?u3) rfl rfl (by kernel_rfl) (by kernel_rfl) (by kernel_rfl) (fun _ _ _ h => h) (Or.inl ⟨by rfl, ?uy3⟩) Q0 ?ur3
            case uy3 => (intro w; go_simp; try with_reducible rfl)
            simp only [List.setIfInBounds_toArray, List.set_cons_zero, List.set_cons_succ]
            refine anyH_take (i := 4) (d := 97) (v := undef) rfl rfl (by kernel_rfl) (by kernel_rfl) (by kernel_rfl) (fun _ _ _ h => h) (Or.inr ⟨by rfl, rfl⟩) Q0 ?_
            simp only [List.setIfInBounds_toArray, List.set_cons_zero, List.set_cons_succ]
            refine anyH_take (i := 5) (d := 98) (v := undef) rfl rfl (by kernel_rfl) (by kernel_rfl) (by kernel_rfl) (fun _ _ _ h => h) (Or.inr ⟨by rfl, rfl⟩) Q0 ?_
            simp only [List.setIfInBounds_toArray, List.set_cons_zero, List.set_cons_succ]
            refine anyH_take (i := 6) (d := 99) (v := undef) rfl rfl (by kernel_rfl) (by kernel_rfl) (by kernel_rfl) (fun _ _ _ h => h) (Or.inr ⟨by rfl, rfl⟩) Q0 ?_
            simp only [List.setIfInBounds_toArray, List.set_cons_zero, List.set_cons_succ]
            refine anyH_take (i := 7) (d := 100) (v := undef) rfl rfl (by kernel_rfl) (by kernel_rfl) (by kernel_rfl) (fun _ _ _ h => h) (Or.inr ⟨by rfl, rfl⟩) Q0 ?_
            simp only [List.setIfInBounds_toArray, List.set_cons_zero, List.set_cons_succ]
            refine anyH_take (i := 8) (d := 101) (v := undef) rfl rfl (by kernel_rfl) (by kernel_rfl) (by kernel_rfl) (fun _ _ _ h => h) (Or.inr ⟨by rfl, rfl⟩) Q0 ?_
            simp only [List.setIfInBounds_toArray, List.set_cons_zero, List.set_cons_succ]
            refine anyH_take (i := 9) (d := 102) (v := undef) rfl rfl (by kernel_rfl) (by kernel_rfl) (by kernel_rfl) (fun _ _ _ h => h) (Or.inr ⟨by rfl, rfl⟩) Q0 ?_
            simp only [List.setIfInBounds_toArray, List.set_cons_zero, List.set_cons_succ]
            refine anyH_take (i := 10) (d := 103) (v := undef) rfl rfl (by kernel_rfl) (by kernel_rfl) (by kernel_rfl) (fun _ _ _ h => h) (Or.inr ⟨by rfl, rfl⟩) Q0 ?_
            simp only [List.setIfInBounds_toArray, List.set_cons_zero, List.set_cons_succ]
            refine anyH_take (i := 11) (d := 104) (v := undef) rfl rfl (by kernel_rfl) (by kernel_rfl) (by kernel_rfl) (fun _ _ _ h => h) (Or.inr ⟨by rfl, rfl⟩) Q0 ?_
            simp only [List.setIfInBounds_toArray, List.set_cons_zero, List.set_cons_succ]
            refine anyH_take (i := 12) (d := 105) (v := undef) rfl rfl (by kernel_rfl) (by kernel_rfl) (by kernel_rfl) (fun _ _ _ h => h) (Or.inr ⟨by rfl, rfl⟩) Q0 ?_
            simp only [List.setIfInBounds_toArray, List.set_cons_zero, List.set_cons_succ]
            refine anyH_take (i := 13) (d := 106) (v := ?u13) rfl rfl (by kernel_rfl) (by kernel_rfl) (by kernel_rfl) (fun _ _ _ h => h) (Or.inl ⟨by rfl, ?uy13⟩) Q0 ?ur13
            case uy13 => (intro w; go_simp; try with_reducible rfl)
            simp only [List.setIfInBounds_toArray, List.set_cons_zero, List.set_cons_succ]
            refine wpAnyH_done (by kernel_rfl) ?_ _

            go_wp2
            go_roundw
            case rel => exact ⟨j + 1, by omega, by go_num, HBi.out.drew⟩
            case measure => simp [intOf]; omega
          · have heq : (lvl low k)[j] = (lvl low2 k)[j] := by
              have := hset k j (by rw [Hak.out.1]; exact hja)
              rw [List.getElem?_eq_getElem hg1, List.getElem?_eq_getElem hg2] at this
              exact Option.some.inj this
            rw [heq] at hrb
            have hx32 : ((lvl low2 k)[j]).length = 32 := all32_lvl hall.2 k _ (List.getElem_mem _)
            generalize (lvl low2 k)[j] = dd at *
            obtain ⟨D, hD⟩ : ∃ D, cbs dd = D := ⟨_, rfl⟩
            rw [hD] at hra hrb
            have hself := fun w' => eq_self D dd hD hx32 w'
            have hDi : (Try.prog.info? 38).map (·.size) = some D.length := by rw [← hD, cbs_length, hx32]; exact info32b
            have Hd := Lib.hid (And.intro hD hDi)
            have hp2 : ((j : Int) != (ak : Int)) = true := by simp; omega
            have hp3 : ((j : Int) == (ak : Int)) = false := by simp; omega
            have Q0 : wr.drew.rangeAt r1 (j * 32) D ∧ wr.drew.rangeAt r2 (j * 32) D := ⟨hra, hrb⟩
            clear hB6 hDs1 hDs2 hn1 hn2 hT4 hU4 hb4 hl2 hll hset hall hd hg1 hg2 hra hrb hBi heq hD hDi hx32
            go_wp2
            refine wp_region_held_drew (S := fun W' => W'.rangeAt r1 (j * 32) D ∧ W'.rangeAt r2 (j * 32) D) (by kernel_rfl) Q0 (fun _ => ?_)
            refine anyH_take (i := 0) (d := 93) (v := ?v0) rfl rfl (by kernel_rfl) (by kernel_rfl) (by kernel_rfl) (fun _ _ _ h => h) (Or.inl ⟨by rfl, ?vy0⟩) Q0 ?vr0
            case vy0 => (intro w; go_simp; try with_reducible rfl)
            simp only [List.setIfInBounds_toArray, List.set_cons_zero, List.set_cons_succ]
            refine anyH_take (i := 1) (d := 94) (v := ?v1) rfl rfl (by kernel_rfl) (by kernel_rfl) (by kernel_rfl) (fun _ _ _ h => h) (Or.inl ⟨by rfl, ?vy1⟩) Q0 ?vr1
            case vy1 => (intro w; go_simp; try with_reducible rfl)
            simp only [List.setIfInBounds_toArray, List.set_cons_zero, List.set_cons_succ]
            refine anyH_take (i := 2) (d := 95) (v := ?v2) rfl rfl (by kernel_rfl) (by kernel_rfl) (by kernel_rfl) (fun _ _ _ h => h) (Or.inl ⟨by rfl, ?vy2⟩) Q0 ?vr2
            case vy2 => (intro w; go_simp; try with_reducible rfl)
            simp only [List.setIfInBounds_toArray, List.set_cons_zero, List.set_cons_succ]
            refine anyH_take (i := 3) (d := 96) (v := ?v3) rfl rfl (by kernel_rfl) (by kernel_rfl) (by kernel_rfl) (fun _ _ _ h => h) (Or.inl ⟨by rfl, ?vy3⟩) Q0 ?vr3
            case vy3 => (intro w; go_simp; try with_reducible rfl)
            simp only [List.setIfInBounds_toArray, List.set_cons_zero, List.set_cons_succ]
            refine anyH_take (i := 4) (d := 97) (v := ?v4) rfl rfl (by kernel_rfl) (by kernel_rfl) (by kernel_rfl) (fun _ _ _ h => h) (Or.inl ⟨by rfl, ?vy4⟩) Q0 ?vr4
            case vy4 => (intro w; go_simp; try with_reducible rfl)
            simp only [List.setIfInBounds_toArray, List.set_cons_zero, List.set_cons_succ]
            refine anyH_take (i := 5) (d := 98) (v := ?v5) rfl rfl (by kernel_rfl) (by kernel_rfl) (by kernel_rfl) (fun _ _ _ h => h) (Or.inl ⟨by rfl, ?vy5⟩) Q0 ?vr5
            case vy5 => (intro w; go_simp; try with_reducible rfl)
            simp only [List.setIfInBounds_toArray, List.set_cons_zero, List.set_cons_succ]
            refine anyH_take (i := 6) (d := 99) (v := ?v6) rfl rfl (by kernel_rfl) (by kernel_rfl) (by kernel_rfl) (fun _ _ _ h => h) (Or.inl ⟨by rfl, ?vy6⟩) Q0 ?vr6
            case vy6 => (intro w; go_simp; try with_reducible rfl)
            simp only [List.setIfInBounds_toArray, List.set_cons_zero, List.set_cons_succ]
            refine anyH_load (i := 7) (d := 100) rfl rfl (by kernel_rfl) (by kernel_rfl) (by kernel_rfl) (by rfl) 38 _ rfl r1 (j * 32) rfl D _ (fun _ h => h.1) Try.underlying38 rfl Hd.out.2 (fun _ _ _ h => h) Q0 ?_
            simp only [List.setIfInBounds_toArray, List.set_cons_zero, List.set_cons_succ]
            refine anyH_take (i := 8) (d := 101) (v := ?v8) rfl rfl (by kernel_rfl) (by kernel_rfl) (by kernel_rfl) (fun _ _ _ h => h) (Or.inl ⟨by rfl, ?vy8⟩) Q0 ?vr8
            case vy8 => (intro w; go_simp; try with_reducible rfl)
            simp only [List.setIfInBounds_toArray, List.set_cons_zero, List.set_cons_succ]
            refine anyH_take (i := 9) (d := 102) (v := ?v9) rfl rfl (by kernel_rfl) (by kernel_rfl) (by kernel_rfl) (fun _ _ _ h => h) (Or.inl ⟨by rfl, ?vy9⟩) Q0 ?vr9
            case vy9 => (intro w; go_simp; try with_reducible rfl)
            simp only [List.setIfInBounds_toArray, List.set_cons_zero, List.set_cons_succ]
            refine anyH_take (i := 10) (d := 103) (v := ?v10) rfl rfl (by kernel_rfl) (by kernel_rfl) (by kernel_rfl) (fun _ _ _ h => h) (Or.inl ⟨by rfl, ?vy10⟩) Q0 ?vr10
            case vy10 => (intro w; go_simp; try with_reducible rfl)
            simp only [List.setIfInBounds_toArray, List.set_cons_zero, List.set_cons_succ]
            refine anyH_load (i := 11) (d := 104) rfl rfl (by kernel_rfl) (by kernel_rfl) (by kernel_rfl) (by rfl) 38 _ rfl r2 (j * 32) rfl D _ (fun _ h => h.2) Try.underlying38 rfl Hd.out.2 (fun _ _ _ h => h) Q0 ?_
            simp only [List.setIfInBounds_toArray, List.set_cons_zero, List.set_cons_succ]
            refine anyH_take (i := 12) (d := 105) (v := ?v12) rfl rfl (by kernel_rfl) (by kernel_rfl) (by kernel_rfl) (fun _ _ _ h => h) (Or.inl ⟨by rfl, ?vy12⟩) Q0 ?vr12
            case vy12 => (intro w; go_simp; try with_reducible rfl)
            simp only [List.setIfInBounds_toArray, List.set_cons_zero, List.set_cons_succ]
            refine anyH_take (i := 13) (d := 106) (v := ?v13) rfl rfl (by kernel_rfl) (by kernel_rfl) (by kernel_rfl) (fun _ _ _ h => h) (Or.inl ⟨by rfl, ?vy13⟩) Q0 ?vr13
            case vy13 => (intro w; go_simp; try with_reducible rfl)
            simp only [List.setIfInBounds_toArray, List.set_cons_zero, List.set_cons_succ]
            refine wpAnyH_done (by kernel_rfl) ?_ _

            go_wp2
            go_roundw
            case rel => exact ⟨j + 1, by omega, by go_num, HBi.out.drew⟩
            case measure => simp [intOf]; omega
        · have hp1 : ¬ (j : Int) < (q : Int) := by omega
          have HBi := Lib.hid hBi
          clear hBi
          go_wp2
          go_roundw
          case rel => exact ⟨k + 1, by omega, by rw [Hak.out.2]; go_num, by go_num, H6.out.1.trans (HBi.out.mono H6.out.1.size)⟩
          case measure => simp [intOf]; omega
    · obtain rfl : k = d := by omega
      obtain ⟨L2, R2, lv2, c2, h2⟩ := hU4.below hB
      have hblk2 := h2.blk
      rw [hll, hd] at hblk2
      have Hd2 := Lib.hid (tdepth_any u g many lv2 k c2 wr hblk2 hd1)
      have HB := Lib.hid (hb4.trans (hB.mono hb4.size))
      have hp1 : ¬ (k : Int) < (k : Int) := by omega
      clear h1 hblk hT4 hU4 hb4 hl2 hll hset hall hd hB hak hak2 h2 hblk2
      go_wp2_with (first
        | (go_at_call 21; refine Hd1.out.mono ?_; rintro e wr ⟨rfl, rfl⟩)
        | (go_at_call 21; refine Hd2.out.mono ?_; rintro e wr ⟨rfl, rfl⟩))
      go_ret
      exact ⟨rfl, Hb0.out.trans (HB.out.mono Hb0.out.size)⟩

end Go.Proofs.Ytbdocaohnigekaa.treePath
