/-
  For all lists of leaves (40 at most, cut to 100 bytes): a tree's parts fit what they are made into, and its leaves theirs; ProofParts returns true; no condition.
-/
import Derived.Test.YtcamgldilknanaaZ07
import Derived.Test.YtcamgldilknanaaZ16
import Derived.Deep.RegionHeld3
import Derived.Deep.RegionWith
import Derived.Deep.DeepCutAuto
namespace Go.Proofs.Ytcamgldilknanaa.proofParts
open Go.ChangeShapes Go.WideShapes Go.ChangeAt Go.RowKit
set_option linter.unusedVariables false

set_option maxRecDepth 100000 in
set_option maxHeartbeats 6400000 in
theorem walk (Al : Option Addr) (nl cl : Nat) (l : List (List UInt8)) (w : World) (hl : ArgL w Al nl cl l) :
    Calls Try.prog 5 #[.slice Al nl cl] w fun e w' => e = .returned (.bool true) ∧ Below w.heap.size w w' := by
  have Hl := Lib.hid hl
  have hnot : ∀ (x : Bool) (w : World), (Op.unary .not (.bool x)).run Try.prog w = .ok (.bool (!x)) w := fun _ _ => rfl
  clear hl
  go_enter Try.func5, Try.ntmps5
  go_wp2_with (go_at_call 8; refine (works10_any _).mono ?_; rintro e w0 ⟨rfl, hb0⟩)
  have Hb0 := Lib.hid (show Below w.heap.size w w0 from (Below.refl w.heap.size w).trans (hb0.mono (Below.refl w.heap.size w).size))
  clear hb0
  refine (bnew_any _).mono ?_
  rintro e w1 ⟨S, g, bm, rfl, hS, hb, hb1⟩
  have hk1 := kb_new hS hb
  have Hk1 := Lib.hid (And.intro hk1 (And.intro hb1 (show Below w.heap.size w w1 from Hb0.out.trans (hb1.mono Hb0.out.size))))
  clear hS hb hk1 hb1
  by_cases hne : l = []
  · have h0 : nl = 0 := by have := Hl.out.1; rw [hne] at this; simpa using this.symm
    subst h0
    go_wp2_with (go_at_call 10; refine (made_none _ _ _ _).mono ?_; rintro e w' ⟨rfl, rfl⟩)
    go_ret
    exact ⟨rfl, Hk1.out.2.2⟩
  · have hmd := made_any w0.heap.size g bm ([], false, 0) _ 0 w1 Hk1.out.1 Hk1.out.2.1.size (by decide) (Nat.zero_le _) (Nat.zero_le _) _ Al nl cl l ((lvs_of_arg Hl.out hne).stays ⟨Hk1.out.2.2.size, fun j hj => Hk1.out.2.2.block j hj⟩) Hl.out.1 (by have := Hl.out.1; have := List.length_pos_iff.2 hne; omega) (by have := Hl.out.2.1; have := Hl.out.2.2.1; omega) (fun j hj => ⟨by have := Hk1.out.2.2.size; omega, .inl (by have := Hb0.out.size; omega)⟩)
    have hln := Hl.out.1
    have hpos := List.length_pos_iff.2 hne
    have hmx := cut40_len l
    have hsm := cut40_sm l
    have hgt := cut40_get l
    generalize cut40 l = xs at *
    obtain ⟨m, hm⟩ : ∃ m, xs.length = m := ⟨_, rfl⟩
    rw [hm] at hmx
    have Hmd := Lib.hid hmd
    have Hx := Lib.hid (And.intro hm (And.intro hmx (And.intro hsm (And.intro hgt (And.intro (lvs_of_arg Hl.out hne) (And.intro hln hpos))))))
    have hnz : ((nl : Int) == 0) = false := by simp; omega
    clear hmd hln hpos hmx hsm hgt hm hne
    go_wp2_with fail
    refine Hmd.out.mono ?_
    rintro e w2 ⟨t, M, s2, rfl, hT2⟩
    rw [Hx.out.1] at hT2
    have HT2 := Lib.hid hT2
    clear hT2 Hmd
    obtain ⟨d, hd⟩ : ∃ d, dep m = d := ⟨_, rfl⟩
    have hm12 := HT2.out.m1
    have hd1 := dep_pos m
    have hd6 := dep_le hm12.2
    rw [hd] at hd1 hd6
    have hm40 : m ≤ 40 := by have := Hx.out.2.1; omega
    have Hd := Lib.hid (And.intro hd (And.intro hm12 hm40))
    have HT0 := Lib.hid (HT2.out.keep (N' := fun _ => False) (Below.refl _ _) (fun i hi => hi.elim))
    clear hd hm12 HT2 hm40
    go_wp2
    go_loopw [5] (fun nv wr => ∃ (n : Nat) (s : Bk), n ≤ d ∧ nv = .int .i64 (n : Int) ∧ Tb w1 w0.heap.size g bm t m M (fun _ => False) (6500 + 50 * n) xs ([], false, 0) s wr) (fun nv _ => d - (intOf nv).toNat)
    case atStart => exact ⟨0, s2, Nat.zero_le _, rfl, HT0.out.more (by omega)⟩
    case round =>
      obtain ⟨n, s, hn, rfl, hT⟩ := hrel
      have hdr := tdepth_at hT.tree
      rw [lows_len, hT.len, Hd.out.1] at hdr
      have Hdr := Lib.hid hdr
      clear hdr
      by_cases hin : n < d
      · have hlv := tlevel_in hT.tree n (by rw [lows_len, hT.len, Hd.out.1]; exact hin)
        have hll : (lvl (lows xs) n).length = wid m n := by rw [lvl_len, lows_len, Hx.out.1]
        have hw1 := wid_pos Hd.out.2.1.1 n
        have hw2 := wid_le m n Hd.out.2.1.1
        obtain ⟨q, hq⟩ : ∃ q, wid m n = q := ⟨_, rfl⟩
        rw [hq] at hll hw1 hw2
        have h32 := all32_lvl (all32_lows xs) n
        obtain ⟨ds, hds⟩ : ∃ ds, lvl (lows xs) n = ds := ⟨_, rfl⟩
        rw [hds] at hlv hll h32
        have Hlv := Lib.hid hlv
        have HT := Lib.hid hT
        have Hn := Lib.hid (And.intro hll (And.intro h32 (And.intro hds (And.intro hq (And.intro hw1 hw2)))))
        have n1 : (n : Int) < (d : Int) := by omega
        have n0 : (0 : Int) ≤ (n : Int) := by omega
        clear hlv hll h32 hds hT hq hw1 hw2
        go_wp2_with (go_at_call 18; refine Hdr.out.mono ?_; rintro e wr ⟨rfl, rfl⟩)
        refine Hlv.out.mono ?_
        rintro e w5 ⟨v, rfl, hN⟩
        obtain ⟨r, c, rfl, hc1, hc2, hr1, hr2, hDs, _⟩ := hN.form (by rintro rfl; have := Hn.out.1; have := Hn.out.2.2.2.2.1; simp at *; omega)
        rw [Hn.out.1] at hc1 ⊢
        have hT5 := HT.out.keep (N' := fun j => j = r) hN.2 (fun i hi => .inr (by subst hi; exact ⟨hr1, hr2⟩))
        have H5 := Lib.hid (And.intro hT5 (And.intro hDs (And.intro hc1 hc2)))
        clear hc1 hc2 hr1 hr2 hDs hT5 hN Hlv
        go_wp2
        go_loopw [8] (fun iv wi => ∃ (i : Nat) (s : Bk), i ≤ q ∧ iv = .int .i64 (i : Int) ∧ Tb w1 w0.heap.size g bm t m M (fun j => j = r) (6500 + 50 * n + i) xs ([], false, 0) s wi ∧ Ds wi (some ⟨r, 0, none⟩) ds) (fun iv _ => q - (intOf iv).toNat)
        case atStart => exact ⟨0, s, Nat.zero_le _, rfl, H5.out.1, H5.out.2.1⟩
        case round =>
          obtain ⟨i, sk, hi, rfl, hT, hDs⟩ := hrel
          by_cases hiq : i < q
          · have hil2 : i < ds.length := by have := Hn.out.1; omega
            obtain ⟨_, _, ea, hrlt, hra⟩ := hDs.at_ Hn.out.2.1 hil2
            cases ea
            rw [Nat.zero_add] at hra
            have hdl : (ds[i]).length = 32 := Hn.out.2.1 _ (List.getElem_mem _)
            have hdg : ds[i]? = some ds[i] := List.getElem?_eq_getElem hil2
            generalize ds[i] = dd at hra hdl hdg
            have hDD : ∃ D, cbs dd = D := ⟨_, rfl⟩
            obtain ⟨DD, hDD⟩ := hDD
            have hDi : (Try.prog.info? 31).map (·.size) = some DD.length := by rw [← hDD, cbs_length, hdl]; exact info32b
            have i0 : (0 : Int) ≤ (i : Int) := by omega
            have i1 : (i : Int) < (q : Int) := by omega
            have i3 : (i : Int) ≤ 1000 := by have := Hn.out.2.2.2.2.2; have := Hd.out.2.2; omega
            by_cases hn0 : n = 0
            · have hn0' : ((n : Int) == 0) = true := by simp [hn0]
              obtain ⟨hm, hmx, hsm, hgt, hLv, hln, hpos⟩ := Hx.out
              have hqm : q = m := by rw [← Hn.out.2.2.2.1, hn0]; rfl
              have hil : i < l.length := by omega
              obtain ⟨lb, off, rfl, hkb, hcc⟩ := hLv
              obtain ⟨AB, cB, g1, g2, g3, g4, g5⟩ := hcc i hil
              have hgx := hgt i (by omega) hil
              obtain ⟨nj, hnj⟩ : ∃ n, (l[i]).length = n := ⟨_, rfl⟩
              obtain ⟨m1, q1, q2, q3, q4, hmin2, hsl⟩ := cutT 100 100 rfl g2 g3 g4
              rw [hnj] at g1 hmin2 hsl
              obtain ⟨x, hx⟩ : ∃ x, (l[i]).take 100 = x := ⟨_, rfl⟩
              rw [hx] at q1 q4 hgx
              have hde : digest (leafIn x) = dd := by
                have h1 := Hn.out.2.2.1
                rw [hn0] at h1
                have h2 : ds[i]? = some (digest (leafIn x)) := by
                  rw [← h1]
                  show (lows xs)[i]? = _
                  unfold lows
                  rw [List.getElem?_map, hgx]; rfl
                rw [h2] at hdg
                exact Option.some.inj hdg
              have hTd := hT.below (Below.refl wr.heap.size wr).drew
              have hbw : Below w.heap.size w wr.drew := Hb0.out.trans ((hTd.bel Hk1.out.2.1).mono Hb0.out.size)
              have hlf := hTd.leaffits (by omega) AB m1 cB dd hdl x (q4.after hbw) q1 q3 g3 (by omega)
              rw [if_pos hde, hDD] at hlf
              have hDsd := hDs.after (Below.refl wr.heap.size wr).drew
              have hgg : wr.drew.cell? ⟨lb, off + i, none⟩ = some (.slice AB nj cB) := (hbw.cell hkb).trans g1
              rw [hDD] at hra
              have Hlf := Lib.hid hlf
              have HQ := Lib.hid (show ∀ (W' : World) {b' : Nat} {s' : Bk}, Out (Tn w0.heap.size bm wr.drew (fun j => j = r ∨ M j)) wr.drew W' → Tb w1 w0.heap.size g bm t m M (fun j => j = r) b' xs ([], false, 0) s' W' → W'.rangeAt r (i * 32) DD ∧ W'.cell? ⟨lb, off + i, none⟩ = some (.slice AB nj cB) from fun W' {_ _} hO hT' =>
                ⟨range_out hO (Tn.keep (.inl rfl)) (show wr.drew.rangeAt r (i * 32) DD from hra), (World.cell?_of_block (hO.block lb (by have := hbw.size; omega) (Tn.low (by have := Hb0.out.size; omega)))).trans hgg⟩)
              have HD2 := Lib.hid hDsd
              have HDi := Lib.hid hDi
              have hQ : wr.drew.rangeAt r (i * 32) DD ∧ wr.drew.cell? ⟨lb, off + i, none⟩ = some (.slice AB nj cB) := ⟨hra, hgg⟩
              have j1 : (i : Int) < (nl : Int) := by omega
              clear hm hmx hsm hgt hln hpos hqm hil hkb hcc g1 g2 g3 g4 g5 hgx hnj q1 q2 q3 q4 hx hde hTd hbw hlf hDsd hgg hra hDi hdl hdg hDD hT hDs hil2 hrlt hn0
              go_wp2
              have Q0 : wr.drew.rangeAt r (i * 32) DD ∧ wr.drew.cell? ⟨lb, off + i, none⟩ = some (.slice AB nj cB) := hQ
              refine wp_region_held_drew (S := fun W' => W'.rangeAt r (i * 32) DD ∧ W'.cell? ⟨lb, off + i, none⟩ = some (.slice AB nj cB)) (by kernel_rfl) Q0 (fun _ => ?_)
              refine anyH_take (i := 0) (d := 44) (v := ?v0) rfl rfl (by kernel_rfl) (by kernel_rfl) (by kernel_rfl) (fun _ _ _ h => h) (Or.inl ⟨by rfl, ?vy0⟩) Q0 ?vr0
              case vy0 => (intro w; go_simp; try with_reducible rfl)
              simp only [List.setIfInBounds_toArray, List.set_cons_zero, List.set_cons_succ]
              refine anyH_take (i := 1) (d := 45) (v := ?v1) rfl rfl (by kernel_rfl) (by kernel_rfl) (by kernel_rfl) (fun _ _ _ h => h) (Or.inl ⟨by rfl, ?vy1⟩) Q0 ?vr1
              case vy1 => (intro w; go_simp; try with_reducible rfl)
              simp only [List.setIfInBounds_toArray, List.set_cons_zero, List.set_cons_succ]
              refine anyH_take (i := 2) (d := 46) (v := ?v2) rfl rfl (by kernel_rfl) (by kernel_rfl) (by kernel_rfl) (fun _ _ _ h => h) (Or.inl ⟨by rfl, ?vy2⟩) Q0 ?vr2
              case vy2 => (intro w; go_simp; try with_reducible rfl)
              simp only [List.setIfInBounds_toArray, List.set_cons_zero, List.set_cons_succ]
              refine anyH_take (i := 3) (d := 47) (v := ?v3) rfl rfl (by kernel_rfl) (by kernel_rfl) (by kernel_rfl) (fun _ _ _ h => h) (Or.inl ⟨by rfl, ?vy3⟩) Q0 ?vr3
              case vy3 => (intro w; go_simp; try with_reducible rfl)
              simp only [List.setIfInBounds_toArray, List.set_cons_zero, List.set_cons_succ]
              refine anyH_load (i := 4) (d := 48) rfl rfl (by kernel_rfl) (by kernel_rfl) (by kernel_rfl) (by rfl) 31 _ rfl r (i * 32) rfl DD _ (fun _ h => h.1) Try.underlying31 rfl HDi.out (fun _ _ _ h => h) Q0 ?_
              simp only [List.setIfInBounds_toArray, List.set_cons_zero, List.set_cons_succ]
              refine anyH_take (i := 5) (d := 49) (v := ?v5) rfl rfl (by kernel_rfl) (by kernel_rfl) (by kernel_rfl) (fun _ _ _ h => h) (Or.inl ⟨by rfl, ?vy5⟩) Q0 ?vr5
              case vy5 => (intro w; go_simp; try with_reducible rfl)
              simp only [List.setIfInBounds_toArray, List.set_cons_zero, List.set_cons_succ]
              refine anyH_take (i := 6) (d := 50) (v := ?v6) rfl rfl (by kernel_rfl) (by kernel_rfl) (by kernel_rfl) (fun _ _ _ h => h) (Or.inl ⟨by rfl, ?vy6⟩) Q0 ?vr6
              case vy6 => (intro w; go_simp; try with_reducible rfl)
              simp only [List.setIfInBounds_toArray, List.set_cons_zero, List.set_cons_succ]
              refine anyH_take (i := 7) (d := 51) (v := ?v7) rfl rfl (by kernel_rfl) (by kernel_rfl) (by kernel_rfl) (fun _ _ _ h => h) (Or.inl ⟨by rfl, ?vy7⟩) Q0 ?vr7
              case vy7 => (intro w; go_simp; try with_reducible rfl)
              simp only [List.setIfInBounds_toArray, List.set_cons_zero, List.set_cons_succ]
              refine wpAnyH_take' (i := 8) (d := 52) (v := ?v8) rfl rfl (by kernel_rfl) (by kernel_rfl) (by kernel_rfl) (fun _ _ _ h => h) (Or.inl ⟨by rfl, ?vy8⟩) Q0 ?vr8
              case vy8 => (intro w hSw; go_split_ands; go_simp; try with_reducible rfl)
              simp only [List.setIfInBounds_toArray, List.set_cons_zero, List.set_cons_succ]
              refine anyH_take (i := 9) (d := 53) (v := ?v9) rfl rfl (by kernel_rfl) (by kernel_rfl) (by kernel_rfl) (fun _ _ _ h => h) (Or.inl ⟨by rfl, ?vy9⟩) Q0 ?vr9
              case vy9 => (intro w; go_simp; try with_reducible rfl)
              simp only [List.setIfInBounds_toArray, List.set_cons_zero, List.set_cons_succ]
              refine anyH_take (i := 10) (d := 54) (v := ?v10) rfl rfl (by kernel_rfl) (by kernel_rfl) (by kernel_rfl) (fun _ _ _ h => h) (Or.inl ⟨by rfl, ?vy10⟩) Q0 ?vr10
              case vy10 => (intro w; go_simp; try with_reducible rfl)
              simp only [List.setIfInBounds_toArray, List.set_cons_zero, List.set_cons_succ]
              refine anyH_take (i := 11) (d := 55) (v := ?v11) rfl rfl (by kernel_rfl) (by kernel_rfl) (by kernel_rfl) (fun _ _ _ h => h) (Or.inl ⟨by rfl, ?vy11⟩) Q0 ?vr11
              case vy11 => (intro w; go_simp; try with_reducible rfl)
              simp only [List.setIfInBounds_toArray, List.set_cons_zero, List.set_cons_succ]
              refine wpAnyH_take' (i := 12) (d := 56) (v := ?v12) rfl rfl (by kernel_rfl) (by kernel_rfl) (by kernel_rfl) (fun _ _ _ h => h) (Or.inl ⟨by rfl, ?vy12⟩) Q0 ?vr12
              case vy12 => (intro w hSw; go_split_ands; go_simp; try with_reducible rfl)
              simp only [List.setIfInBounds_toArray, List.set_cons_zero, List.set_cons_succ]
              refine anyH_take (i := 13) (d := 57) (v := ?v13) rfl rfl (by kernel_rfl) (by kernel_rfl) (by kernel_rfl) (fun _ _ _ h => h) (Or.inl ⟨by rfl, ?vy13⟩) Q0 ?vr13
              case vy13 => (intro w; go_simp; try with_reducible rfl)
              simp only [List.setIfInBounds_toArray, List.set_cons_zero, List.set_cons_succ]
              refine anyH_take (i := 14) (d := 58) (v := ?v14) rfl rfl (by kernel_rfl) (by kernel_rfl) (by kernel_rfl) (fun _ _ _ h => h) (Or.inl ⟨by rfl, ?vy14⟩) Q0 ?vr14
              case vy14 => (intro w; go_simp; try with_reducible rfl)
              simp only [List.setIfInBounds_toArray, List.set_cons_zero, List.set_cons_succ]
              refine anyH_take (i := 15) (d := 59) (v := ?v15) rfl rfl (by kernel_rfl) (by kernel_rfl) (by kernel_rfl) (fun _ _ _ h => h) (Or.inl ⟨by rfl, ?vy15⟩) Q0 ?vr15
              case vy15 => (intro w; go_simp; try with_reducible rfl)
              simp only [List.setIfInBounds_toArray, List.set_cons_zero, List.set_cons_succ]
              refine anyH_one (i := 16) (by kernel_rfl) ?_
              refine wpOp_step rfl (fun K hK => ?_)
              go_simp
              refine Hlf.out.mono ?_
              rintro e wb ⟨rfl, hTb, hOb⟩
              have HTb := Lib.hid hTb
              have HOb := Lib.hid hOb
              clear hTb hOb Hlf
              refine hK _ _ ⟨(HQ.out _ HOb.out HTb.out), ?_⟩
              clear hK K
              refine anyH_take (i := 17) (d := 61) (v := ?v17) rfl rfl (by kernel_rfl) (by kernel_rfl) (by kernel_rfl) (fun _ _ _ h => h) (Or.inl ⟨by rfl, ?vy17⟩) (HQ.out _ HOb.out HTb.out) ?vr17
              case vy17 => (intro w; go_simp; try with_reducible rfl)
              simp only [List.setIfInBounds_toArray, List.set_cons_zero, List.set_cons_succ]
              refine wpAnyH_done (by kernel_rfl) ?_ _
              go_wp2
              go_roundw
              case rel => exact ⟨i + 1, _, by omega, by go_num, HTb.out.more (by omega), HD2.out.out HOb.out (fun a e _ => by cases e; exact Tn.keep (.inl rfl))⟩
              case measure => simp [intOf]; omega
            · have hn0' : ((n : Int) == 0) = false := by simp; omega
              obtain ⟨k, hk⟩ : ∃ k, n = k + 1 := ⟨n - 1, by omega⟩
              have hpt := parts_in hT.tree k (by rw [lows_len, hT.len, Hd.out.1]; omega) i (by rw [lows_len, hT.len, ← hk, Hn.out.2.2.2.1]; exact hiq)
              rw [← hk] at hpt
              obtain ⟨fs, hfs⟩ : ∃ f, four (lvl (lows xs) k) i = f := ⟨_, rfl⟩
              rw [hfs] at hpt
              have hde : digest (upIn fs) = dd := by
                have h1 := Hn.out.2.2.1
                rw [hk] at h1
                have h2 := next_get (lvl (lows xs) k) i
                have h3 : (next (lvl (lows xs) k)) = ds := h1
                rw [h3, hdg, hfs] at h2
                split at h2
                · exact (Option.some.inj h2).symm
                · cases h2
              have hf32 : All32 fs := by rw [← hfs]; exact (all32_lvl (all32_lows xs) k).four i
              have hf4 : fs.length ≤ 4 := by rw [← hfs, four_len]; omega
              have hf1 : 1 ≤ fs.length := by
                have h5 := Hn.out.2.2.2.1
                rw [hk, wid] at h5
                rw [← hfs, four_len, lvl_len, lows_len, Hx.out.1]
                omega
              have Hpt := Lib.hid hpt
              have HT := Lib.hid hT
              have Hf := Lib.hid (And.intro hde (And.intro hf32 (And.intro hf4 (And.intro hf1 (And.intro hdl (And.intro hDD (And.intro hra (And.intro hDs hrlt))))))))
              have HDi := Lib.hid hDi
              clear hpt hde hf32 hf4 hf1 hdl hDD hra hDs hDi hdg hil2 hrlt hT hfs hk hn0
              go_wp2_with fail
              refine Hpt.out.mono ?_
              rintro e w6 ⟨pr, po, rfl, hp1, hp2, hpD, hpth, _, hb6⟩
              obtain ⟨hde, hf32, hf4, hf1, hdl, hDD, hra, hDs, hrlt⟩ := Hf.out
              have hT6 := HT.out.below hb6
              obtain ⟨fl, hfl⟩ : ∃ n, fs.length = n := ⟨_, rfl⟩
              have hft := hT6.fits (by omega) (some ⟨pr, po, none⟩) fl fl dd hdl fs hpD hf32 hfl (by omega) (by omega)
              rw [if_pos hde, hDD] at hft
              have hr6 : w6.rangeAt r (i * 32) DD := by
                rw [hDD] at hra
                exact fun j v hv => (hb6.cell (p := ⟨r, i * 32 + j, none⟩) hrlt).trans (hra j v hv)
              have Hft := Lib.hid hft
              have H6 := Lib.hid (And.intro hr6 (hDs.after hb6))
              rw [hfl]
              clear hp1 hp2 hpD hpth hb6 hde hf32 hf4 hf1 hdl hDD hra hDs hT6 hft hr6 hfl Hpt hrlt
              go_wp2_with (refine load_mid_g (by rfl) 31 _ rfl r (i * 32) (by first | rfl | simp) DD _ H6.out.1 Try.underlying31 rfl HDi.out ?_; simp only [Act.put])
              refine Hft.out.mono ?_
              rintro e wb ⟨rfl, hTb, hOb⟩
              have HTb := Lib.hid (And.intro hTb (H6.out.2.out hOb (fun a e _ => by cases e; exact Tn.keep (.inl rfl))))
              clear hTb hOb Hft
              go_wp2
              go_roundw
              case rel => exact ⟨i + 1, _, by omega, by go_num, HTb.out.1.more (by omega), HTb.out.2⟩
              case measure => simp [intOf]; omega
          · obtain rfl : i = q := by omega
            have HT := Lib.hid (hT.keep (N' := fun _ => False) (Below.refl _ _) (fun i hi => hi.elim))
            have hi1 : ¬ (i : Int) < (i : Int) := by omega
            have hi40 : i ≤ 40 := by have := Hn.out.2.2.2.2.2; have := Hd.out.2.2; omega
            clear hT hDs
            go_wp2
            go_roundw
            case rel => exact ⟨n + 1, _, by omega, by go_num, HT.out.more (by omega)⟩
            case measure => simp [intOf]; omega
      · have n1 : ¬ (n : Int) < (d : Int) := by omega
        have HT := Lib.hid hT
        clear hT
        go_wp2_with (go_at_call 18; refine Hdr.out.mono ?_; rintro e wr ⟨rfl, rfl⟩)
        go_ret
        exact ⟨rfl, Hb0.out.trans ((HT.out.bel Hk1.out.2.1).mono Hb0.out.size)⟩

end Go.Proofs.Ytcamgldilknanaa.proofParts
