/-
  For all lists of leaves (40 at most, cut to 100 bytes) and a number leaf (brought to the tree's leaves): what Build answers fits; ProofBack returns true; no condition.
-/
import Derived.Test.YtcamgldilknanaaZ07
import Derived.Test.YtcamgldilknanaaZ16
import Derived.Test.YtcamgldilknanaaZ12
import Derived.Deep.RegionHeld3
import Derived.Deep.RegionWith
import Derived.Deep.DeepCutAuto
namespace Go.Proofs.Ytcamgldilknanaa.proofBack
open Go.ChangeShapes Go.WideShapes Go.ChangeAt Go.RowKit
set_option linter.unusedVariables false

set_option maxRecDepth 100000 in
set_option maxHeartbeats 6400000 in
theorem walk (Al : Option Addr) (nl cl : Nat) (l : List (List UInt8)) (leaf : Int) (w : World) (hl : ArgL w Al nl cl l) (hleaf : (Lit.int .i64 leaf).wf = true) :
    Calls Try.prog 3 #[.slice Al nl cl, .int .i64 leaf] w fun e w' => e = .returned (.bool true) ∧ Below w.heap.size w w' := by
  have hlb := bounds_i64 hleaf
  have Hlb := Lib.hid hlb
  clear hlb hleaf
  have Hl := Lib.hid hl
  have hnot : ∀ (x : Bool) (w : World), (Op.unary .not (.bool x)).run Try.prog w = .ok (.bool (!x)) w := fun _ _ => rfl
  clear hl
  go_enter Try.func3, Try.ntmps3
  go_wp2_with (go_at_call 8; refine (works10_any _).mono ?_; rintro e w0 ⟨rfl, hb0⟩)
  have Hb0 := Lib.hid (show Below w.heap.size w w0 from (Below.refl w.heap.size w).trans (hb0.mono (Below.refl w.heap.size w).size))
  clear hb0
  refine (bnew_any _).mono ?_
  rintro e w1 ⟨S, g, bm, rfl, hS, hb, hb1⟩
  have hk1 := kb_new hS hb
  have Hk1 := Lib.hid (And.intro hk1 (And.intro hb1 (show Below w.heap.size w w1 from Hb0.out.trans (hb1.mono Hb0.out.size))))
  clear hS hb hk1 hb1
  by_cases hne : l = []
  · have h0 : nl = 0 := by have := Hl.out.1; rw [hne] at this; simpa using this.symm
    subst h0
    go_wp2_with (go_at_call 10; refine (made_none _ _ _ _).mono ?_; rintro e w' ⟨rfl, rfl⟩)
    go_ret
    exact ⟨rfl, Hk1.out.2.2⟩
  · have hmd := made_any w0.heap.size g bm ([], false, 0) _ 0 w1 Hk1.out.1 Hk1.out.2.1.size (by decide) (Nat.zero_le _) (Nat.zero_le _) _ Al nl cl l ((lvs_of_arg Hl.out hne).stays ⟨Hk1.out.2.2.size, fun j hj => Hk1.out.2.2.block j hj⟩) Hl.out.1 (by have := Hl.out.1; have := List.length_pos_iff.2 hne; omega) (by have := Hl.out.2.1; have := Hl.out.2.2.1; omega) (fun j hj => ⟨by have := Hk1.out.2.2.size; omega, .inl (by have := Hb0.out.size; omega)⟩)
    have hln := Hl.out.1
    have hpos := List.length_pos_iff.2 hne
    have hmx := cut40_len l
    have hsm := cut40_sm l
    have hgt := cut40_get l
    generalize cut40 l = xs at *
    obtain ⟨m, hm⟩ : ∃ m, xs.length = m := ⟨_, rfl⟩
    rw [hm] at hmx
    have Hmd := Lib.hid hmd
    have Hx := Lib.hid (And.intro hm (And.intro hmx (And.intro hsm (And.intro hgt (And.intro (lvs_of_arg Hl.out hne) (And.intro hln hpos))))))
    have hnz : ((nl : Int) == 0) = false := by simp; omega
    clear hmd hln hpos hmx hsm hgt hm hne
    go_wp2_with fail
    refine Hmd.out.mono ?_
    rintro e w2 ⟨t, M, s2, rfl, hT2⟩
    rw [Hx.out.1] at hT2
    have HT2 := Lib.hid hT2
    clear hT2 Hmd
    have hlv := tleaves_at HT2.out.tree
    rw [lows_len, Hx.out.1] at hlv
    have Hlv := Lib.hid hlv
    have Hm := Lib.hid HT2.out.m1
    clear hlv
    go_wp2_with (go_at_call 12; refine Hlv.out.mono ?_; rintro e w2 ⟨rfl, rfl⟩)
    refine (bring_any leaf m _ (by have := Hm.out.1; omega) (by have := Hm.out.2; omega) Hlb.out.1 Hlb.out.2).mono ?_
    rintro e w2 ⟨i, hi, rfl, rfl⟩
    have Hi := Lib.hid (show i < m from by omega)
    clear hi
    have hr := troot_at HT2.out.tree
    obtain ⟨D, hD⟩ : ∃ D, cbs (rootD (lows xs)) = D := ⟨_, rfl⟩
    have hrl : (rootD (lows xs)).length = 32 := root_len HT2.out.tree.l1 HT2.out.tree.all
    have hD32 : D.length = 32 := by rw [← hD, cbs_length, hrl]
    have hD1 : D.toArray.all (·.oneCell') = true := by rw [← hD]; exact cbs_one' _
    rw [hD] at hr
    have Hr := Lib.hid hr
    have HD := Lib.hid (And.intro hD32 (And.intro hD1 (And.intro hD (And.intro hrl (show (Try.prog.info? 31).map (·.size) = some D.length from by rw [hD32]; exact info32b)))))
    clear hD hrl hD32 hD1 hr
    go_wp2_with fail
    refine Hr.out.mono ?_
    rintro e w4 ⟨rfl, hb4⟩
    obtain ⟨w5, hw5, ⟨hth5, hi5⟩, hbS5, hbel5, hsz5⟩ := dig_local w4 D HD.out.1
    have hb25 : Below w2.heap.size w2 w5 := hb4.trans (hbel5.mono hb4.size)
    have Hw5 := Lib.hid hw5
    have Hs5 := Lib.hid (And.intro hth5 (And.intro hi5 HD.out.2.1))
    have H5 := Lib.hid (And.intro hb25 (And.intro hbS5 (And.intro hb4.size hsz5)))
    clear hb4 hw5 hth5 hi5 hbS5 hbel5 hsz5 hb25 Hr
    have hbd := build_in (HT2.out.below H5.out.1).tree i (by rw [lows_len, Hx.out.1]; exact Hi.out)
    have Hbd := Lib.hid hbd
    clear hbd
    go_wp2_with (refine wpList_store_mid rfl 31 _ _ rfl w4.heap.size 0 D.toArray rfl rfl Hs5.out.1 Hs5.out.2.1 Hs5.out.2.2 ?_; simp only [Act.put]; refine cast (congrArg (fun z => wpList _ _ _ _ _ z) Hw5.out.symm) ?_)
    refine Hbd.out.mono ?_
    rintro e w6 ⟨v, rfl, hP6, hb6⟩
    obtain ⟨A, pc, rfl, hc1, hc2, hPf⟩ := hP6.at_ (pf_all (all32_lows _) i) (pf_four _ i)
    obtain ⟨np, hnp⟩ : ∃ n, (pf (lows xs) i).length = n := ⟨_, rfl⟩
    rw [hnp] at hc1 ⊢
    obtain ⟨hm, hmx, hsm, hgt, hLv, hln, hpos⟩ := Hx.out
    have hi := Hi.out
    have hil : i < l.length := by omega
    obtain ⟨lb, off, rfl, hkb, hcc⟩ := hLv
    obtain ⟨AB, cB, g1, g2, g3, g4, g5⟩ := hcc i hil
    have hgx := hgt i (by omega) hil
    obtain ⟨nj, hnj⟩ : ∃ n, (l[i]).length = n := ⟨_, rfl⟩
    obtain ⟨m1, q1, q2, q3, q4, hmin2, hsl⟩ := cutT 100 100 rfl g2 g3 g4
    rw [hnj] at g1 hmin2 hsl
    obtain ⟨x, hx⟩ : ∃ x, (l[i]).take 100 = x := ⟨_, rfl⟩
    rw [hx] at q1 q4 hgx
    have hb26 : Below w2.heap.size w2 w6 := H5.out.1.trans (hb6.mono H5.out.1.size)
    have hbd6 : Below w6.heap.size w6 w6.drew := (Below.refl _ _).drew
    have hT6 := (HT2.out.keep (N' := fun j => w2.heap.size ≤ j ∧ j < w6.heap.size) hb26 (fun j hj => .inr hj)).below hbd6
    have hbw : Below w.heap.size w w6.drew := Hb0.out.trans ((hT6.bel Hk1.out.2.1).mono Hb0.out.size)
    have hz5 := H5.out.1.size
    have hz6 := hb6.size
    have hx5 := H5.out.2.2
    have hfit : fits (rootD (lows xs)) m i x (pf (lows xs) i) = true := by
      have h1 : i < xs.length := by omega
      have h2 : xs[i] = x := by rw [List.getElem?_eq_getElem h1] at hgx; exact Option.some.inj hgx
      have := pf_back h1
      rw [h2, hm] at this
      exact this
    have hck := hT6.check (by decide) (rootD (lows xs)) HD.out.2.2.2.1 i (by omega) AB m1 cB x (q4.after hbw) q1 q3 g3 (by omega) (fun j => w2.heap.size ≤ j ∧ j < w6.heap.size) A np pc (pf (lows xs) i)
      ((hPf.more (K' := fun j => w2.heap.size ≤ j ∧ j < w6.heap.size) fun j hj => ⟨by have := hj.1; omega, hj.2⟩).stays ⟨hbd6.size, fun j hj => hbd6.block j hj.2⟩) hnp (by omega) (fun j hj => ⟨hj.2, .inr (.inl hj)⟩)
    rw [hfit, HD.out.2.2.1] at hck
    have hr6 : Blk w6.drew w4.heap.size 31 D := (H5.out.2.1.below hb6 H5.out.2.1.lt).below hbd6 (by omega)
    have hlo : lb < w1.heap.size := by have := Hk1.out.2.2.size; omega
    have hgg : w6.drew.cell? ⟨lb, off + i, none⟩ = some (.slice AB nj cB) := (hbw.cell hkb).trans g1
    have Hck := Lib.hid hck
    have HQ := Lib.hid (show ∀ W' : World, Out (Tn w0.heap.size bm w6.drew (fun j => (w2.heap.size ≤ j ∧ j < w6.heap.size) ∨ M j)) w6.drew W' → Tb w1 w0.heap.size g bm t m M (fun j => w2.heap.size ≤ j ∧ j < w6.heap.size) (0 + 6500 + 6) xs ([], false, 0) (noteAll s2 (chkIn m i x (pf (lows xs) i))) W' → W'.rangeAt w4.heap.size 0 D ∧ W'.cell? ⟨lb, off + i, none⟩ = some (.slice AB nj cB) ∧ TreeAt W' M t g (lows xs) from fun W' hO hT =>
      ⟨(hO.blk hr6 (Tn.keep (.inl ⟨hx5.1, by omega⟩))).range, (World.cell?_of_block (hO.block lb (by have := hbw.size; omega) (Tn.low (by have := Hb0.out.size; omega)))).trans hgg, hT.tree⟩)
    have hQ6 : w6.drew.rangeAt w4.heap.size 0 D ∧ w6.drew.cell? ⟨lb, off + i, none⟩ = some (.slice AB nj cB) ∧ TreeAt w6.drew M t g (lows xs) := ⟨hr6.range, hgg, hT6.tree⟩
    have i0 : (0 : Int) ≤ (i : Int) := by omega
    have i1 : (i : Int) < (nl : Int) := by omega
    clear hP6 hb6 hc1 hc2 hPf hnp hm hmx hsm hgt hln hpos hi hil hkb hcc g1 g2 g3 g4 g5 hgx hnj q1 q2 q3 q4 hx hb26 hbd6 hT6 hbw hz5 hz6 hx5 hfit hck hr6 hlo hgg Hbd
    go_wp2
    have Q0 : w6.drew.rangeAt w4.heap.size 0 D ∧ w6.drew.cell? ⟨lb, off + i, none⟩ = some (.slice AB nj cB) ∧ TreeAt w6.drew M t g (lows xs) := hQ6
    refine wp_region_held_drew (S := fun W' => W'.rangeAt w4.heap.size 0 D ∧ W'.cell? ⟨lb, off + i, none⟩ = some (.slice AB nj cB) ∧ TreeAt W' M t g (lows xs)) (by kernel_rfl) Q0 (fun _ => ?_)
    refine anyH_take (i := 0) (d := 37) (v := ?v0) rfl rfl (by kernel_rfl) (by kernel_rfl) (by kernel_rfl) (fun _ _ _ h => h) (Or.inl ⟨by rfl, ?vy0⟩) Q0 ?vr0
    case vy0 => (intro w; go_simp; try with_reducible rfl)
    simp only [List.setIfInBounds_toArray, List.set_cons_zero, List.set_cons_succ]
    refine anyH_take (i := 1) (d := 38) (v := ?v1) rfl rfl (by kernel_rfl) (by kernel_rfl) (by kernel_rfl) (fun _ _ _ h => h) (Or.inl ⟨by rfl, ?vy1⟩) Q0 ?vr1
    case vy1 => (intro w; go_simp; try with_reducible rfl)
    simp only [List.setIfInBounds_toArray, List.set_cons_zero, List.set_cons_succ]
    refine anyH_take (i := 2) (d := 39) (v := ?v2) rfl rfl (by kernel_rfl) (by kernel_rfl) (by kernel_rfl) (fun _ _ _ h => h) (Or.inl ⟨by rfl, ?vy2⟩) Q0 ?vr2
    case vy2 => (intro w; go_simp; try with_reducible rfl)
    simp only [List.setIfInBounds_toArray, List.set_cons_zero, List.set_cons_succ]
    refine anyH_take (i := 3) (d := 40) (v := ?v3) rfl rfl (by kernel_rfl) (by kernel_rfl) (by kernel_rfl) (fun _ _ _ h => h) (Or.inl ⟨by rfl, ?vy3⟩) Q0 ?vr3
    case vy3 => (intro w; go_simp; try with_reducible rfl)
    simp only [List.setIfInBounds_toArray, List.set_cons_zero, List.set_cons_succ]
    refine anyH_take (i := 4) (d := 41) (v := ?v4) rfl rfl (by kernel_rfl) (by kernel_rfl) (by kernel_rfl) (fun _ _ _ h => h) (Or.inl ⟨by rfl, ?vy4⟩) Q0 ?vr4
    case vy4 => (intro w; go_simp; try with_reducible rfl)
    simp only [List.setIfInBounds_toArray, List.set_cons_zero, List.set_cons_succ]
    refine anyH_take (i := 5) (d := 42) (v := ?v5) rfl rfl (by kernel_rfl) (by kernel_rfl) (by kernel_rfl) (fun _ _ _ h => h) (Or.inl ⟨by rfl, ?vy5⟩) Q0 ?vr5
    case vy5 => (intro w; go_simp; try with_reducible rfl)
    simp only [List.setIfInBounds_toArray, List.set_cons_zero, List.set_cons_succ]
    refine anyH_take (i := 6) (d := 43) (v := ?v6) rfl rfl (by kernel_rfl) (by kernel_rfl) (by kernel_rfl) (fun _ _ _ h => h) (Or.inl ⟨by rfl, ?vy6⟩) Q0 ?vr6
    case vy6 => (intro w; go_simp; try with_reducible rfl)
    simp only [List.setIfInBounds_toArray, List.set_cons_zero, List.set_cons_succ]
    refine anyH_take (i := 7) (d := 44) (v := ?v7) rfl rfl (by kernel_rfl) (by kernel_rfl) (by kernel_rfl) (fun _ _ _ h => h) (Or.inl ⟨by rfl, ?vy7⟩) Q0 ?vr7
    case vy7 => (intro w; go_simp; try with_reducible rfl)
    simp only [List.setIfInBounds_toArray, List.set_cons_zero, List.set_cons_succ]
    refine anyH_load (i := 8) (d := 45) rfl rfl (by kernel_rfl) (by kernel_rfl) (by kernel_rfl) (by rfl) 31 _ rfl w4.heap.size 0 rfl D _ (fun _ h => h.1) Try.underlying31 rfl HD.out.2.2.2.2 (fun _ _ _ h => h) Q0 ?_
    simp only [List.setIfInBounds_toArray, List.set_cons_zero, List.set_cons_succ]
    refine anyH_take (i := 9) (d := 46) (v := ?v9) rfl rfl (by kernel_rfl) (by kernel_rfl) (by kernel_rfl) (fun _ _ _ h => h) (Or.inl ⟨by rfl, ?vy9⟩) Q0 ?vr9
    case vy9 => (intro w; go_simp; try with_reducible rfl)
    simp only [List.setIfInBounds_toArray, List.set_cons_zero, List.set_cons_succ]
    refine anyH_call (i := 10) (d := 47) (v := (.int .i64 (m : Int))) rfl rfl (by kernel_rfl) (by kernel_rfl) (by kernel_rfl) (fun _ _ _ h => h) ⟨by rfl, fun W hW => ⟨12, #[.pointer (some ⟨t, 0, none⟩)], ?vy10, by have := tleaves_at hW.2.2; rw [lows_len, Hx.out.1] at this; exact this⟩⟩ Q0 ?vr10
    case vy10 => (go_simp; try with_reducible rfl)
    simp only [List.setIfInBounds_toArray, List.set_cons_zero, List.set_cons_succ]
    refine anyH_take (i := 11) (d := 48) (v := ?v11) rfl rfl (by kernel_rfl) (by kernel_rfl) (by kernel_rfl) (fun _ _ _ h => h) (Or.inl ⟨by rfl, ?vy11⟩) Q0 ?vr11
    case vy11 => (intro w; go_simp; try with_reducible rfl)
    simp only [List.setIfInBounds_toArray, List.set_cons_zero, List.set_cons_succ]
    refine anyH_take (i := 12) (d := 49) (v := ?v12) rfl rfl (by kernel_rfl) (by kernel_rfl) (by kernel_rfl) (fun _ _ _ h => h) (Or.inl ⟨by rfl, ?vy12⟩) Q0 ?vr12
    case vy12 => (intro w; go_simp; try with_reducible rfl)
    simp only [List.setIfInBounds_toArray, List.set_cons_zero, List.set_cons_succ]
    refine anyH_take (i := 13) (d := 50) (v := ?v13) rfl rfl (by kernel_rfl) (by kernel_rfl) (by kernel_rfl) (fun _ _ _ h => h) (Or.inl ⟨by rfl, ?vy13⟩) Q0 ?vr13
    case vy13 => (intro w; go_simp; try with_reducible rfl)
    simp only [List.setIfInBounds_toArray, List.set_cons_zero, List.set_cons_succ]
    refine anyH_take (i := 14) (d := 51) (v := ?v14) rfl rfl (by kernel_rfl) (by kernel_rfl) (by kernel_rfl) (fun _ _ _ h => h) (Or.inl ⟨by rfl, ?vy14⟩) Q0 ?vr14
    case vy14 => (intro w; go_simp; try with_reducible rfl)
    simp only [List.setIfInBounds_toArray, List.set_cons_zero, List.set_cons_succ]
    refine wpAnyH_take' (i := 15) (d := 52) (v := ?v15) rfl rfl (by kernel_rfl) (by kernel_rfl) (by kernel_rfl) (fun _ _ _ h => h) (Or.inl ⟨by rfl, ?vy15⟩) Q0 ?vr15
    case vy15 => (intro w hSw; go_split_ands; go_simp; try with_reducible rfl)
    simp only [List.setIfInBounds_toArray, List.set_cons_zero, List.set_cons_succ]
    refine anyH_take (i := 16) (d := 53) (v := ?v16) rfl rfl (by kernel_rfl) (by kernel_rfl) (by kernel_rfl) (fun _ _ _ h => h) (Or.inl ⟨by rfl, ?vy16⟩) Q0 ?vr16
    case vy16 => (intro w; go_simp; try with_reducible rfl)
    simp only [List.setIfInBounds_toArray, List.set_cons_zero, List.set_cons_succ]
    refine anyH_take (i := 17) (d := 54) (v := ?v17) rfl rfl (by kernel_rfl) (by kernel_rfl) (by kernel_rfl) (fun _ _ _ h => h) (Or.inl ⟨by rfl, ?vy17⟩) Q0 ?vr17
    case vy17 => (intro w; go_simp; try with_reducible rfl)
    simp only [List.setIfInBounds_toArray, List.set_cons_zero, List.set_cons_succ]
    refine anyH_take (i := 18) (d := 55) (v := ?v18) rfl rfl (by kernel_rfl) (by kernel_rfl) (by kernel_rfl) (fun _ _ _ h => h) (Or.inl ⟨by rfl, ?vy18⟩) Q0 ?vr18
    case vy18 => (intro w; go_simp; try with_reducible rfl)
    simp only [List.setIfInBounds_toArray, List.set_cons_zero, List.set_cons_succ]
    refine wpAnyH_take' (i := 19) (d := 56) (v := ?v19) rfl rfl (by kernel_rfl) (by kernel_rfl) (by kernel_rfl) (fun _ _ _ h => h) (Or.inl ⟨by rfl, ?vy19⟩) Q0 ?vr19
    case vy19 => (intro w hSw; go_split_ands; go_simp; try with_reducible rfl)
    simp only [List.setIfInBounds_toArray, List.set_cons_zero, List.set_cons_succ]
    refine anyH_take (i := 20) (d := 57) (v := ?v20) rfl rfl (by kernel_rfl) (by kernel_rfl) (by kernel_rfl) (fun _ _ _ h => h) (Or.inl ⟨by rfl, ?vy20⟩) Q0 ?vr20
    case vy20 => (intro w; go_simp; try with_reducible rfl)
    simp only [List.setIfInBounds_toArray, List.set_cons_zero, List.set_cons_succ]
    refine anyH_take (i := 21) (d := 58) (v := ?v21) rfl rfl (by kernel_rfl) (by kernel_rfl) (by kernel_rfl) (fun _ _ _ h => h) (Or.inl ⟨by rfl, ?vy21⟩) Q0 ?vr21
    case vy21 => (intro w; go_simp; try with_reducible rfl)
    simp only [List.setIfInBounds_toArray, List.set_cons_zero, List.set_cons_succ]
    refine anyH_take (i := 22) (d := 59) (v := ?v22) rfl rfl (by kernel_rfl) (by kernel_rfl) (by kernel_rfl) (fun _ _ _ h => h) (Or.inl ⟨by rfl, ?vy22⟩) Q0 ?vr22
    case vy22 => (intro w; go_simp; try with_reducible rfl)
    simp only [List.setIfInBounds_toArray, List.set_cons_zero, List.set_cons_succ]
    refine anyH_take (i := 23) (d := 60) (v := ?v23) rfl rfl (by kernel_rfl) (by kernel_rfl) (by kernel_rfl) (fun _ _ _ h => h) (Or.inl ⟨by rfl, ?vy23⟩) Q0 ?vr23
    case vy23 => (intro w; go_simp; try with_reducible rfl)
    simp only [List.setIfInBounds_toArray, List.set_cons_zero, List.set_cons_succ]
    refine anyH_one (i := 24) (by kernel_rfl) ?_
    refine wpOp_step rfl (fun K hK => ?_)
    go_simp
    refine Hck.out.mono ?_
    rintro e wb ⟨rfl, hTb, hOb⟩
    have HTb := Lib.hid hTb
    have HOb := Lib.hid hOb
    clear hTb hOb Hck
    refine hK _ _ ⟨(HQ.out _ HOb.out HTb.out), ?_⟩
    clear hK K
    refine anyH_take (i := 25) (d := 62) (v := ?v25) rfl rfl (by kernel_rfl) (by kernel_rfl) (by kernel_rfl) (fun _ _ _ h => h) (Or.inl ⟨by rfl, ?vy25⟩) (HQ.out _ HOb.out HTb.out) ?vr25
    case vy25 => (intro w; go_simp; try with_reducible rfl)
    simp only [List.setIfInBounds_toArray, List.set_cons_zero, List.set_cons_succ]
    refine anyH_take (i := 26) (d := 63) (v := ?v26) rfl rfl (by kernel_rfl) (by kernel_rfl) (by kernel_rfl) (fun _ _ _ h => h) (Or.inl ⟨by rfl, ?vy26⟩) (HQ.out _ HOb.out HTb.out) ?vr26
    case vy26 => (intro w; go_simp; try with_reducible rfl)
    simp only [List.setIfInBounds_toArray, List.set_cons_zero, List.set_cons_succ]
    refine anyH_take (i := 27) (d := 4) (v := ?v27) rfl rfl (by kernel_rfl) (by kernel_rfl) (by kernel_rfl) (fun _ _ _ h => h) (Or.inl ⟨by rfl, ?vy27⟩) (HQ.out _ HOb.out HTb.out) ?vr27
    case vy27 => (intro w; go_simp; try with_reducible rfl)
    simp only [List.setIfInBounds_toArray, List.set_cons_zero, List.set_cons_succ]
    refine wpAnyH_done (by kernel_rfl) ?_ _
    have HF := Lib.hid (HTb.out.bel Hk1.out.2.1)
    clear HTb HOb
    go_wp2
    go_ret
    exact ⟨rfl, Hb0.out.trans (HF.out.mono Hb0.out.size)⟩

end Go.Proofs.Ytcamgldilknanaa.proofBack
