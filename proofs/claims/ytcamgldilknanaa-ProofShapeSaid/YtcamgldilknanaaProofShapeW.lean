/-
  For all lists of leaves (40 at most, cut to 100 bytes), a number leaf (brought to the tree's leaves) and how: a proof with one list more, or one less, fits nothing, nor one with a digest more, or one less; ProofShape returns true; no condition.
-/
import Derived.Test.YtcamgldilknanaaZ07
import Derived.Test.YtcamgldilknanaaZ16
import Derived.Test.YtcamgldilknanaaZ12
import Derived.Deep.RegionHeld3
import Derived.Deep.RegionWith
import Derived.Deep.DeepCutAuto
namespace Go.Proofs.Ytcamgldilknanaa.proofShape
open Go.ChangeShapes Go.WideShapes Go.ChangeAt Go.RowKit
set_option linter.unusedVariables false

set_option maxRecDepth 100000 in
set_option maxHeartbeats 12800000 in
theorem walk (Al : Option Addr) (nl cl : Nat) (l : List (List UInt8)) (leaf : Int) (how : Int) (w : World) (hl : ArgL w Al nl cl l) (hleaf : (Lit.int .i64 leaf).wf = true) (hhow : (Lit.int .i64 how).wf = true) :
    Calls Try.prog 6 #[.slice Al nl cl, .int .i64 leaf, .int .i64 how] w fun e w' => e = .returned (.bool true) ∧ Below w.heap.size w w' := by
  have Hlb := Lib.hid (bounds_i64 hleaf)
  have Hhb := Lib.hid (bounds_i64 hhow)
  clear hleaf hhow
  have Hl := Lib.hid hl
  have hnot : ∀ (x : Bool) (w : World), (Op.unary .not (.bool x)).run Try.prog w = .ok (.bool (!x)) w := fun _ _ => rfl
  clear hl
  go_enter Try.func6, Try.ntmps6
  go_wp2_with (go_at_call 8; refine (works10_any _).mono ?_; rintro e w0 ⟨rfl, hb0⟩)
  have Hb0 := Lib.hid (show Below w.heap.size w w0 from (Below.refl w.heap.size w).trans (hb0.mono (Below.refl w.heap.size w).size))
  clear hb0
  refine (bnew_any _).mono ?_
  rintro e w1 ⟨S, g, bm, rfl, hS, hb, hb1⟩
  have hk1 := kb_new hS hb
  have Hk1 := Lib.hid (And.intro hk1 (And.intro hb1 (show Below w.heap.size w w1 from Hb0.out.trans (hb1.mono Hb0.out.size))))
  clear hS hb hk1 hb1
  by_cases hne : l = []
  · have h0 : nl = 0 := by have := Hl.out.1; rw [hne] at this; simpa using this.symm
    subst h0
    go_wp2_with (go_at_call 10; refine (made_none _ _ _ _).mono ?_; rintro e w' ⟨rfl, rfl⟩)
    go_ret
    exact ⟨rfl, Hk1.out.2.2⟩
  · have hmd := made_any w0.heap.size g bm ([], false, 0) _ 0 w1 Hk1.out.1 Hk1.out.2.1.size (by decide) (Nat.zero_le _) (Nat.zero_le _) _ Al nl cl l ((lvs_of_arg Hl.out hne).stays ⟨Hk1.out.2.2.size, fun j hj => Hk1.out.2.2.block j hj⟩) Hl.out.1 (by have := Hl.out.1; have := List.length_pos_iff.2 hne; omega) (by have := Hl.out.2.1; have := Hl.out.2.2.1; omega) (fun j hj => ⟨by have := Hk1.out.2.2.size; omega, .inl (by have := Hb0.out.size; omega)⟩)
    have hln := Hl.out.1
    have hpos := List.length_pos_iff.2 hne
    have hmx := cut40_len l
    have hsm := cut40_sm l
    have hgt := cut40_get l
    generalize cut40 l = xs at *
    obtain ⟨m, hm⟩ : ∃ m, xs.length = m := ⟨_, rfl⟩
    rw [hm] at hmx
    have Hmd := Lib.hid hmd
    have Hx := Lib.hid (And.intro hm (And.intro hmx (And.intro hsm (And.intro hgt (And.intro (lvs_of_arg Hl.out hne) (And.intro hln hpos))))))
    have hnz : ((nl : Int) == 0) = false := by simp; omega
    clear hmd hln hpos hmx hsm hgt hm hne
    go_wp2_with fail
    refine Hmd.out.mono ?_
    rintro e w2 ⟨t, M, s2, rfl, hT2⟩
    rw [Hx.out.1] at hT2
    have HT2 := Lib.hid hT2
    clear hT2 Hmd
    have hlv := tleaves_at HT2.out.tree
    rw [lows_len, Hx.out.1] at hlv
    have Hlv := Lib.hid hlv
    have Hm := Lib.hid HT2.out.m1
    clear hlv
    by_cases hm2 : m < 2
    · have p1 : decide ((m : Int) < 2) = true := by simp; omega
      have p2 : decide ((nl : Int) < 2) = true := by have := Hx.out.2.1; have := Hx.out.2.2.2.2.2.1; have := Hm.out.1; simp; omega
      have HF := Lib.hid (HT2.out.bel Hk1.out.2.1)
      go_wp2_with (go_at_call 12; refine Hlv.out.mono ?_; rintro e w2 ⟨rfl, rfl⟩)
      go_ret
      exact ⟨rfl, Hb0.out.trans (HF.out.mono Hb0.out.size)⟩
    have p1 : decide ((m : Int) < 2) = false := by simp; omega
    go_wp2_with (go_at_call 12; refine Hlv.out.mono ?_; rintro e w2 ⟨rfl, rfl⟩)
    refine (bring_any leaf m _ (by have := Hm.out.1; omega) (by have := Hm.out.2; omega) Hlb.out.1 Hlb.out.2).mono ?_
    rintro e w2 ⟨i, hi, rfl, rfl⟩
    have Hi := Lib.hid (show i < m from by omega)
    have Hm2 := Lib.hid hm2
    clear hi hm2
    have hr := troot_at HT2.out.tree
    obtain ⟨D, hD⟩ : ∃ D, cbs (rootD (lows xs)) = D := ⟨_, rfl⟩
    have hrl : (rootD (lows xs)).length = 32 := root_len HT2.out.tree.l1 HT2.out.tree.all
    have hD32 : D.length = 32 := by rw [← hD, cbs_length, hrl]
    have hD1 : D.toArray.all (·.oneCell') = true := by rw [← hD]; exact cbs_one' _
    rw [hD] at hr
    have Hr := Lib.hid hr
    have HD := Lib.hid (And.intro hD32 (And.intro hD1 (And.intro hD (And.intro hrl (show (Try.prog.info? 31).map (·.size) = some D.length from by rw [hD32]; exact info32b)))))
    clear hD hrl hD32 hD1 hr
    go_wp2_with fail
    refine Hr.out.mono ?_
    rintro e w4 ⟨rfl, hb4⟩
    obtain ⟨w5, hw5, ⟨hth5, hi5⟩, hbS5, hbel5, hsz5⟩ := dig_local w4 D HD.out.1
    have hb25 : Below w2.heap.size w2 w5 := hb4.trans (hbel5.mono hb4.size)
    have Hw5 := Lib.hid hw5
    have Hs5 := Lib.hid (And.intro hth5 (And.intro hi5 HD.out.2.1))
    have H5 := Lib.hid (And.intro hb25 (And.intro hbS5 (And.intro hb4.size hsz5)))
    clear hb4 hw5 hth5 hi5 hbS5 hbel5 hsz5 hb25 Hr
    have hbd := build_in (HT2.out.below H5.out.1).tree i (by rw [lows_len, Hx.out.1]; exact Hi.out)
    have Hbd := Lib.hid hbd
    clear hbd
    go_wp2_with (refine wpList_store_mid rfl 31 _ _ rfl w4.heap.size 0 D.toArray rfl rfl Hs5.out.1 Hs5.out.2.1 Hs5.out.2.2 ?_; simp only [Act.put]; refine cast (congrArg (fun z => wpList _ _ _ _ _ z) Hw5.out.symm) ?_)
    refine Hbd.out.mono ?_
    rintro e w6 ⟨v, rfl, hP6, hb6⟩
    have hplen : (pf (lows xs) i).length + 1 = dep m := by
      have := pf_len (lows xs) i
      rw [lows_len, Hx.out.1] at this
      have := dep_pos m
      omega
    have hd2 : 2 ≤ dep m := by
      have := Hm2.out
      rw [dep_more (by omega)]
      have := dep_pos ((m + 3) / 4)
      omega
    have hd6 := dep_le Hm.out.2
    obtain ⟨pb, pc, rfl, hc1, hc2, hpb1, hpb2, _, hPf⟩ := hP6.cells (pf_all (all32_lows _) i) (pf_four _ i) (by intro e; rw [e] at hplen; simp at hplen; omega)
    obtain ⟨np, hnp⟩ : ∃ n, (pf (lows xs) i).length = n := ⟨_, rfl⟩
    rw [hnp] at hc1 hplen ⊢
    have hcp := copy_any (some ⟨pb, 0, none⟩) np pc (pf (lows xs) i) _ w6 hPf (fun j hj => hj.2) hnp (by omega) (fun p hp => by have := pf_four _ i p hp; omega)
    have Hcp := Lib.hid hcp
    have H6 := Lib.hid (And.intro (show Below w2.heap.size w2 w6 from H5.out.1.trans (hb6.mono H5.out.1.size)) (And.intro (H5.out.2.1.below hb6 H5.out.2.1.lt) (And.intro hPf (And.intro hnp (And.intro hplen hd2)))))
    have H6z := Lib.hid (show w4.heap.size < w6.heap.size from by have := hb6.size; have := H5.out.2.2.2; omega)
    -- the leaf
    have hx1 : ∃ (lb off : Nat) (AB : Option Addr) (nj cB m1 : Nat) (x : List UInt8), Al = some ⟨lb, off, none⟩ ∧ (Bs w AB x ∧ x.length = m1 ∧ m1 ≤ cB ∧ cB ≤ maxLen ∧ m1 ≤ 65535 ∧ (w.cell? ⟨lb, off + i, none⟩ = some (.slice AB nj cB) ∧ lb < w.heap.size) ∧ fits (rootD (lows xs)) m i x (pf (lows xs) i) = true) ∧
        (∀ ts t w, (Builtin.min_ ts t #[.int .i64 (nj : Int), .int .i64 100]).run Try.prog w = .ok (.int .i64 (m1 : Int)) w) ∧ (∀ w, (Instr.sliceAt 39 (.slice AB nj cB) none (some (.int .i64 (m1 : Int))) none).run Try.prog w = .ok (.slice AB m1 cB) w) := by
      obtain ⟨hm, hmx, hsm, hgt, hLv, hln, hpos⟩ := Hx.out
      have hi := Hi.out
      have hil : i < l.length := by omega
      obtain ⟨lb, off, e1, hkb, hcc⟩ := hLv
      obtain ⟨AB, cB, g1, g2, g3, g4, g5⟩ := hcc i hil
      have hgx := hgt i (by omega) hil
      obtain ⟨m1, q1, q2, q3, q4, hmin2, hsl⟩ := cutT 100 100 rfl g2 g3 g4
      refine ⟨lb, off, AB, _, cB, m1, _, e1, ⟨q4, q1, q3, g3, by omega, ⟨g1, hkb⟩, ?_⟩, hmin2, hsl⟩
      have h1 : i < xs.length := by omega
      have h2 : xs[i] = (l[i]).take 100 := by rw [List.getElem?_eq_getElem h1] at hgx; exact Option.some.inj hgx
      have := pf_back h1
      rw [h2, hm] at this
      exact this
    obtain ⟨lb, off, AB, nj, cB, m1, x, rfl, hx1, hmin2, hsl⟩ := hx1
    have Hx1 := Lib.hid hx1
    have i0 : (0 : Int) ≤ (i : Int) := by omega
    have i1 : (i : Int) < (nl : Int) := by have := Hi.out; have := Hx.out.2.1; have := Hx.out.2.2.2.2.2.1; omega
    have np0 : ((np : Int) == 0) = false := by simp; omega
    obtain ⟨la, hla⟩ : ∃ la, np = la + 1 := ⟨np - 1, by omega⟩
    have hla2 : (np : Int) - 1 = (la : Int) := by omega
    have Hla := Lib.hid (And.intro hla (show la ≤ 5 from by omega))
    have la0 : (0 : Int) ≤ (la : Int) := by omega
    have la1 : (la : Int) < (np : Int) := by omega
    have np5 : (np : Int) ≤ 6 := by omega
    clear hP6 hb6 hplen hd2 hd6 hc1 hc2 hpb1 hpb2 hPf hnp hcp hx1 hla Hbd
    go_wp2_with fail
    refine Hcp.out.mono ?_
    rintro e w7 ⟨v, rfl, ⟨vs, hrow, hcs, hds⟩, hb7⟩
    rw [H6.out.2.2.2.1] at hrow
    obtain ⟨g7, oc, rfl, hg0, hnoc, hocm⟩ : ∃ g c, v = .slice (some ⟨g, 0, none⟩) np c ∧ w6.heap.size ≤ g ∧ np ≤ c ∧ c ≤ maxLen := by
      rcases hrow.2 with ⟨_, e⟩ | ⟨g, c, cur, rfl, hg0, _, hnoc, hocm, _⟩
      · have := Hla.out.1; omega
      · exact ⟨g, c, rfl, hg0, hnoc, hocm⟩
    have H7 := Lib.hid (And.intro hrow (And.intro hcs (And.intro hds (And.intro hb7 (And.intro hg0 (And.intro hnoc hocm))))))
    clear hrow hcs hds hb7 hg0 hnoc hocm Hcp
    go_wp2_with fail
    refine (bring_any how 4 _ (by decide) (by decide) Hhb.out.1 Hhb.out.2).mono ?_
    rintro e w7 ⟨a, ha, rfl, rfl⟩
    have hwl : pwhole m i (pf (lows xs) i) = true := by
      have := Hx1.out.2.2.2.2.2.2
      unfold fits at this
      simp only [Bool.and_eq_true] at this
      exact this.1
    have Hwl := Lib.hid (And.intro hwl (show a < 4 from by omega))
    clear hwl ha
    have hsp := fun w => sl_frontP g7 np oc la (by have := Hla.out.1; have := H7.out.2.2.2.2.2.1; omega) (by have := Hla.out.1; have := H7.out.2.2.2.2.2.1; omega) w
    by_cases ha0 : a = 0
    · have p0 : ((a : Int) == 0) = true := by simp [ha0]
      have HO := Lib.hid (show PfAt w7 (fun j => w2.heap.size ≤ j ∧ j < w7.heap.size) (some ⟨g7, 0, none⟩) ((pf (lows xs) i).take la) ∧ ((pf (lows xs) i).take la).length = la ∧ la ≤ maxLen ∧ pwhole m i ((pf (lows xs) i).take la) = false ∧ Below w6.heap.size w6 w7 from by
        obtain ⟨hrow, hcs, hds, hb7, hg0, hnoc, hocm⟩ := H7.out
        obtain ⟨A, c, e, k1, k2, k3⟩ := CpNew.at_ (v := .slice (some ⟨g7, 0, none⟩) np oc) (ps := pf (lows xs) i) ⟨vs, by rw [H6.out.2.2.2.1]; exact hrow, hcs, hds⟩ (pf_all (all32_lows _) i)
        injection e with e _ _
        subst e
        have e3 : ((pf (lows xs) i).take la).length = la := by rw [List.length_take, H6.out.2.2.2.1]; have := Hla.out.1; omega
        exact ⟨(k3.take la).more fun j hj => ⟨by have := hj.1; have := H6.out.1.size; omega, hj.2⟩, e3, by have := Hla.out.2; simp only [maxLen]; omega, pwhole_not _ _ Hm.out.1 Hwl.out.1 (by rw [e3, H6.out.2.2.2.1]; have := Hla.out.1; omega), hb7⟩)
      obtain ⟨wd, hwd⟩ : ∃ wd, w7.drew = wd := ⟨_, rfl⟩
      obtain ⟨wf, hwf⟩ : ∃ wf, wd.drew = wf := ⟨_, rfl⟩
      have hbd : Below w7.heap.size w7 wd := by rw [← hwd]; exact (Below.refl _ _).drew
      have hbf : Below w7.heap.size w7 wf := by rw [← hwf]; exact hbd.drew
      have hb28 : Below w2.heap.size w2 w7 := H6.out.1.trans (HO.out.2.2.2.2.mono H6.out.1.size)
      have hT8 := (HT2.out.keep (N' := fun j => w2.heap.size ≤ j ∧ j < w7.heap.size) hb28 (fun j hj => .inr hj)).below hbf
      have hbw8 : Below w.heap.size w wf := Hb0.out.trans ((hT8.bel Hk1.out.2.1).mono Hb0.out.size)
      have hbwd : Below w.heap.size w wd := Hb0.out.trans ((((HT2.out.keep (N' := fun j => w2.heap.size ≤ j ∧ j < w7.heap.size) hb28 (fun j hj => .inr hj)).below hbd).bel Hk1.out.2.1).mono Hb0.out.size)
      have hr8 : Blk wf w4.heap.size 31 D := ((H6.out.2.1.below HO.out.2.2.2.2 (by have := H6.out.2.1.lt; exact this)).below hbf (by have := HO.out.2.2.2.2.size; have := H6.out.2.1.lt; omega))
      have hPp : PfAt wf (fun j => w2.heap.size ≤ j ∧ j < w7.heap.size) (some ⟨pb, 0, none⟩) (pf (lows xs) i) := ((H6.out.2.2.1.stays ⟨HO.out.2.2.2.2.size, fun j hj => HO.out.2.2.2.2.block j hj.2⟩).stays ⟨by have := HO.out.2.2.2.2.size; have := hbf.size; omega, fun j hj => hbf.block j (by have := HO.out.2.2.2.2.size; have := hj.2; omega)⟩).more fun j hj => ⟨by have := hj.1; have := H5.out.1.size; omega, by have := HO.out.2.2.2.2.size; have := hj.2; omega⟩
      have hck1 := hT8.check (by decide) (rootD (lows xs)) HD.out.2.2.2.1 i Hi.out AB m1 cB x (Hx1.out.1.after hbw8) Hx1.out.2.1 Hx1.out.2.2.1 Hx1.out.2.2.2.1 Hx1.out.2.2.2.2.1 (fun j => w2.heap.size ≤ j ∧ j < w7.heap.size) (some ⟨pb, 0, none⟩) np pc (pf (lows xs) i) hPp H6.out.2.2.2.1 (by have := H6.out.2.2.2.1; have := pf_len (lows xs) i; have := dep_le HT2.out.tree.l2; simp only [maxLen]; omega) (fun j hj => ⟨by have := hbf.size; have := hj.2; omega, .inr (.inl hj)⟩)
      rw [Hx1.out.2.2.2.2.2.2, HD.out.2.2.1] at hck1
      have Hck1 := Lib.hid hck1
      have HB2 := Lib.hid hbf
      have HR2 := Lib.hid hr8
      have Hwd := Lib.hid hwd
      have Hwf := Lib.hid hwf
      have hQ0 : wd.cell? ⟨lb, off + i, none⟩ = some (.slice AB nj cB) := (hbwd.cell Hx1.out.2.2.2.2.2.1.2).trans Hx1.out.2.2.2.2.2.1.1
      have hQ1 : wf.rangeAt w4.heap.size 0 D ∧ TreeAt wf M t g (lows xs) := ⟨hr8.range, hT8.tree⟩
      have HQ := Lib.hid (And.intro hQ0 hQ1)
      clear hbd hbf hb28 hT8 hbw8 hbwd hr8 hPp hck1 hwd hwf hQ0 hQ1
      go_wp2
      have Q0 : wd.cell? ⟨lb, off + i, none⟩ = some (.slice AB nj cB) := HQ.out.1
      refine wp_region_held_drew (S := fun W' => W'.cell? ⟨lb, off + i, none⟩ = some (.slice AB nj cB)) (by kernel_rfl) (show w7.drew.cell? ⟨lb, off + i, none⟩ = some (.slice AB nj cB) from by rw [Hwd.out]; exact Q0) (fun _ => ?_)
      rw [Hwd.out]
      refine anyH_take (i := 0) (d := 100) (v := ?xa0) rfl rfl (by kernel_rfl) (by kernel_rfl) (by kernel_rfl) (fun _ _ _ h => h) (Or.inl ⟨by rfl, ?xay0⟩) Q0 ?xar0
      case xay0 => (intro w; go_simp; try with_reducible rfl)
      simp only [List.setIfInBounds_toArray, List.set_cons_zero, List.set_cons_succ]
      refine anyH_take (i := 1) (d := 101) (v := ?xa1) rfl rfl (by kernel_rfl) (by kernel_rfl) (by kernel_rfl) (fun _ _ _ h => h) (Or.inl ⟨by rfl, ?xay1⟩) Q0 ?xar1
      case xay1 => (intro w; go_simp; try with_reducible rfl)
      simp only [List.setIfInBounds_toArray, List.set_cons_zero, List.set_cons_succ]
      refine anyH_take (i := 2) (d := 102) (v := ?xa2) rfl rfl (by kernel_rfl) (by kernel_rfl) (by kernel_rfl) (fun _ _ _ h => h) (Or.inl ⟨by rfl, ?xay2⟩) Q0 ?xar2
      case xay2 => (intro w; go_simp; try with_reducible rfl)
      simp only [List.setIfInBounds_toArray, List.set_cons_zero, List.set_cons_succ]
      refine wpAnyH_take' (i := 3) (d := 103) (v := ?xa3) rfl rfl (by kernel_rfl) (by kernel_rfl) (by kernel_rfl) (fun _ _ _ h => h) (Or.inl ⟨by rfl, ?xay3⟩) Q0 ?xar3
      case xay3 => (intro w hSw; go_split_ands; go_simp; try with_reducible rfl)
      simp only [List.setIfInBounds_toArray, List.set_cons_zero, List.set_cons_succ]
      refine anyH_take (i := 4) (d := 104) (v := ?xa4) rfl rfl (by kernel_rfl) (by kernel_rfl) (by kernel_rfl) (fun _ _ _ h => h) (Or.inl ⟨by rfl, ?xay4⟩) Q0 ?xar4
      case xay4 => (intro w; go_simp; try with_reducible rfl)
      simp only [List.setIfInBounds_toArray, List.set_cons_zero, List.set_cons_succ]
      refine anyH_take (i := 5) (d := 105) (v := ?xa5) rfl rfl (by kernel_rfl) (by kernel_rfl) (by kernel_rfl) (fun _ _ _ h => h) (Or.inl ⟨by rfl, ?xay5⟩) Q0 ?xar5
      case xay5 => (intro w; go_simp; try with_reducible rfl)
      simp only [List.setIfInBounds_toArray, List.set_cons_zero, List.set_cons_succ]
      refine anyH_take (i := 6) (d := 106) (v := ?xa6) rfl rfl (by kernel_rfl) (by kernel_rfl) (by kernel_rfl) (fun _ _ _ h => h) (Or.inl ⟨by rfl, ?xay6⟩) Q0 ?xar6
      case xay6 => (intro w; go_simp; try with_reducible rfl)
      simp only [List.setIfInBounds_toArray, List.set_cons_zero, List.set_cons_succ]
      refine wpAnyH_take' (i := 7) (d := 107) (v := ?xa7) rfl rfl (by kernel_rfl) (by kernel_rfl) (by kernel_rfl) (fun _ _ _ h => h) (Or.inl ⟨by rfl, ?xay7⟩) Q0 ?xar7
      case xay7 => (intro w hSw; go_split_ands; go_simp; try with_reducible rfl)
      simp only [List.setIfInBounds_toArray, List.set_cons_zero, List.set_cons_succ]
      refine anyH_take (i := 8) (d := 108) (v := ?xa8) rfl rfl (by kernel_rfl) (by kernel_rfl) (by kernel_rfl) (fun _ _ _ h => h) (Or.inl ⟨by rfl, ?xay8⟩) Q0 ?xar8
      case xay8 => (intro w; go_simp; try with_reducible rfl)
      simp only [List.setIfInBounds_toArray, List.set_cons_zero, List.set_cons_succ]
      refine anyH_take (i := 9) (d := 109) (v := ?xa9) rfl rfl (by kernel_rfl) (by kernel_rfl) (by kernel_rfl) (fun _ _ _ h => h) (Or.inl ⟨by rfl, ?xay9⟩) Q0 ?xar9
      case xay9 => (intro w; go_simp; try with_reducible rfl)
      simp only [List.setIfInBounds_toArray, List.set_cons_zero, List.set_cons_succ]
      refine anyH_take (i := 10) (d := 110) (v := ?xa10) rfl rfl (by kernel_rfl) (by kernel_rfl) (by kernel_rfl) (fun _ _ _ h => h) (Or.inl ⟨by rfl, ?xay10⟩) Q0 ?xar10
      case xay10 => (intro w; go_simp; try with_reducible rfl)
      simp only [List.setIfInBounds_toArray, List.set_cons_zero, List.set_cons_succ]
      refine anyH_take (i := 11) (d := 15) (v := ?xa11) rfl rfl (by kernel_rfl) (by kernel_rfl) (by kernel_rfl) (fun _ _ _ h => h) (Or.inl ⟨by rfl, ?xay11⟩) Q0 ?xar11
      case xay11 => (intro w; go_simp; try with_reducible rfl)
      simp only [List.setIfInBounds_toArray, List.set_cons_zero, List.set_cons_succ]
      refine wpAnyH_done (by kernel_rfl) ?_ _
      go_wp2
      have Q1 : wf.rangeAt w4.heap.size 0 D ∧ TreeAt wf M t g (lows xs) := HQ.out.2
      refine wp_region_held_drew (S := fun W' => W'.rangeAt w4.heap.size 0 D ∧ TreeAt W' M t g (lows xs)) (by kernel_rfl) (show wd.drew.rangeAt w4.heap.size 0 D ∧ TreeAt wd.drew M t g (lows xs) from by rw [Hwf.out]; exact Q1) (fun _ => ?_)
      rw [Hwf.out]
      refine anyH_take (i := 0) (d := 111) (v := ?xb0) rfl rfl (by kernel_rfl) (by kernel_rfl) (by kernel_rfl) (fun _ _ _ h => h) (Or.inl ⟨by rfl, ?xby0⟩) Q1 ?xbr0
      case xby0 => (intro w; go_simp; try with_reducible rfl)
      simp only [List.setIfInBounds_toArray, List.set_cons_zero, List.set_cons_succ]
      refine anyH_load (i := 1) (d := 112) rfl rfl (by kernel_rfl) (by kernel_rfl) (by kernel_rfl) (by rfl) 31 _ rfl w4.heap.size 0 rfl D _ (fun _ h => h.1) Try.underlying31 rfl HD.out.2.2.2.2 (fun _ _ _ h => h) Q1 ?_
      simp only [List.setIfInBounds_toArray, List.set_cons_zero, List.set_cons_succ]
      refine anyH_take (i := 2) (d := 113) (v := ?xb2) rfl rfl (by kernel_rfl) (by kernel_rfl) (by kernel_rfl) (fun _ _ _ h => h) (Or.inl ⟨by rfl, ?xby2⟩) Q1 ?xbr2
      case xby2 => (intro w; go_simp; try with_reducible rfl)
      simp only [List.setIfInBounds_toArray, List.set_cons_zero, List.set_cons_succ]
      refine anyH_call (i := 3) (d := 114) (v := (.int .i64 (m : Int))) rfl rfl (by kernel_rfl) (by kernel_rfl) (by kernel_rfl) (fun _ _ _ h => h) ⟨by rfl, fun W hW => ⟨12, #[.pointer (some ⟨t, 0, none⟩)], ?xby3, by have := tleaves_at hW.2; rw [lows_len, Hx.out.1] at this; exact this⟩⟩ Q1 ?xbr3
      case xby3 => (go_simp; try with_reducible rfl)
      simp only [List.setIfInBounds_toArray, List.set_cons_zero, List.set_cons_succ]
      refine anyH_take (i := 4) (d := 115) (v := ?xb4) rfl rfl (by kernel_rfl) (by kernel_rfl) (by kernel_rfl) (fun _ _ _ h => h) (Or.inl ⟨by rfl, ?xby4⟩) Q1 ?xbr4
      case xby4 => (intro w; go_simp; try with_reducible rfl)
      simp only [List.setIfInBounds_toArray, List.set_cons_zero, List.set_cons_succ]
      refine anyH_take (i := 5) (d := 116) (v := ?xb5) rfl rfl (by kernel_rfl) (by kernel_rfl) (by kernel_rfl) (fun _ _ _ h => h) (Or.inl ⟨by rfl, ?xby5⟩) Q1 ?xbr5
      case xby5 => (intro w; go_simp; try with_reducible rfl)
      simp only [List.setIfInBounds_toArray, List.set_cons_zero, List.set_cons_succ]
      refine anyH_take (i := 6) (d := 117) (v := ?xb6) rfl rfl (by kernel_rfl) (by kernel_rfl) (by kernel_rfl) (fun _ _ _ h => h) (Or.inl ⟨by rfl, ?xby6⟩) Q1 ?xbr6
      case xby6 => (intro w; go_simp; try with_reducible rfl)
      simp only [List.setIfInBounds_toArray, List.set_cons_zero, List.set_cons_succ]
      refine anyH_one (i := 7) (by kernel_rfl) ?_
      refine wpOp_step rfl (fun K hK => ?_)
      go_simp
      refine Hck1.out.mono ?_
      rintro e wb ⟨rfl, hTb, hOb⟩
      have hPo := (HO.out.1.stays ⟨HB2.out.size, fun j hj => HB2.out.block j hj.2⟩).stays ⟨hOb.size, fun j hj => hOb.block j (by have := HB2.out.size; have := hj.2; omega) (Tn.keep (.inl hj))⟩
      have hBx2 := Hx1.out.1.after (Hb0.out.trans ((hTb.bel Hk1.out.2.1).mono Hb0.out.size))
      have hck2 := hTb.check (by decide) (rootD (lows xs)) HD.out.2.2.2.1 i Hi.out AB m1 cB x hBx2 Hx1.out.2.1 Hx1.out.2.2.1 Hx1.out.2.2.2.1 Hx1.out.2.2.2.2.1 (fun j => w2.heap.size ≤ j ∧ j < w7.heap.size) (some ⟨g7, 0, none⟩) la oc ((pf (lows xs) i).take la) hPo HO.out.2.1 HO.out.2.2.1 (fun j hj => ⟨by have := hOb.size; have := HB2.out.size; have := hj.2; omega, .inr (.inl hj)⟩)
      rw [fits_not HO.out.2.2.2.1, HD.out.2.2.1] at hck2
      have Hck2 := Lib.hid hck2
      have hrb := hOb.blk HR2.out (Tn.keep (.inl ⟨H5.out.2.2.1, by have := HO.out.2.2.2.2.size; have := H6z.out; omega⟩))
      have HRb := Lib.hid (And.intro hrb hTb.tree)
      clear hTb hOb hPo hBx2 hck2 hrb Hck1
      refine hK _ _ ⟨⟨HRb.out.1.range, HRb.out.2⟩, ?_⟩
      clear hK K
      refine anyH_take (i := 8) (d := 119) (v := ?xb8) rfl rfl (by kernel_rfl) (by kernel_rfl) (by kernel_rfl) (fun _ _ _ h => h) (Or.inl ⟨by rfl, ?xby8⟩) ⟨HRb.out.1.range, HRb.out.2⟩ ?xbr8
      case xby8 => (intro w; go_simp; try with_reducible rfl)
      simp only [List.setIfInBounds_toArray, List.set_cons_zero, List.set_cons_succ]
      refine anyH_take (i := 9) (d := 120) (v := ?xb9) rfl rfl (by kernel_rfl) (by kernel_rfl) (by kernel_rfl) (fun _ _ _ h => h) (Or.inl ⟨by rfl, ?xby9⟩) ⟨HRb.out.1.range, HRb.out.2⟩ ?xbr9
      case xby9 => (intro w; go_simp; try with_reducible rfl)
      simp only [List.setIfInBounds_toArray, List.set_cons_zero, List.set_cons_succ]
      refine anyH_take (i := 10) (d := 121) (v := ?xb10) rfl rfl (by kernel_rfl) (by kernel_rfl) (by kernel_rfl) (fun _ _ _ h => h) (Or.inl ⟨by rfl, ?xby10⟩) ⟨HRb.out.1.range, HRb.out.2⟩ ?xbr10
      case xby10 => (intro w; go_simp; try with_reducible rfl)
      simp only [List.setIfInBounds_toArray, List.set_cons_zero, List.set_cons_succ]
      refine anyH_load (i := 11) (d := 122) rfl rfl (by kernel_rfl) (by kernel_rfl) (by kernel_rfl) (by rfl) 31 _ rfl w4.heap.size 0 rfl D _ (fun _ h => h.1) Try.underlying31 rfl HD.out.2.2.2.2 (fun _ _ _ h => h) ⟨HRb.out.1.range, HRb.out.2⟩ ?_
      simp only [List.setIfInBounds_toArray, List.set_cons_zero, List.set_cons_succ]
      refine anyH_take (i := 12) (d := 123) (v := ?xb12) rfl rfl (by kernel_rfl) (by kernel_rfl) (by kernel_rfl) (fun _ _ _ h => h) (Or.inl ⟨by rfl, ?xby12⟩) ⟨HRb.out.1.range, HRb.out.2⟩ ?xbr12
      case xby12 => (intro w; go_simp; try with_reducible rfl)
      simp only [List.setIfInBounds_toArray, List.set_cons_zero, List.set_cons_succ]
      refine anyH_call (i := 13) (d := 124) (v := (.int .i64 (m : Int))) rfl rfl (by kernel_rfl) (by kernel_rfl) (by kernel_rfl) (fun _ _ _ h => h) ⟨by rfl, fun W hW => ⟨12, #[.pointer (some ⟨t, 0, none⟩)], ?xby13, by have := tleaves_at hW.2; rw [lows_len, Hx.out.1] at this; exact this⟩⟩ ⟨HRb.out.1.range, HRb.out.2⟩ ?xbr13
      case xby13 => (go_simp; try with_reducible rfl)
      simp only [List.setIfInBounds_toArray, List.set_cons_zero, List.set_cons_succ]
      refine anyH_take (i := 14) (d := 125) (v := ?xb14) rfl rfl (by kernel_rfl) (by kernel_rfl) (by kernel_rfl) (fun _ _ _ h => h) (Or.inl ⟨by rfl, ?xby14⟩) ⟨HRb.out.1.range, HRb.out.2⟩ ?xbr14
      case xby14 => (intro w; go_simp; try with_reducible rfl)
      simp only [List.setIfInBounds_toArray, List.set_cons_zero, List.set_cons_succ]
      refine anyH_take (i := 15) (d := 126) (v := ?xb15) rfl rfl (by kernel_rfl) (by kernel_rfl) (by kernel_rfl) (fun _ _ _ h => h) (Or.inl ⟨by rfl, ?xby15⟩) ⟨HRb.out.1.range, HRb.out.2⟩ ?xbr15
      case xby15 => (intro w; go_simp; try with_reducible rfl)
      simp only [List.setIfInBounds_toArray, List.set_cons_zero, List.set_cons_succ]
      refine anyH_take (i := 16) (d := 127) (v := ?xb16) rfl rfl (by kernel_rfl) (by kernel_rfl) (by kernel_rfl) (fun _ _ _ h => h) (Or.inl ⟨by rfl, ?xby16⟩) ⟨HRb.out.1.range, HRb.out.2⟩ ?xbr16
      case xby16 => (intro w; go_simp; try with_reducible rfl)
      simp only [List.setIfInBounds_toArray, List.set_cons_zero, List.set_cons_succ]
      refine anyH_one (i := 17) (by kernel_rfl) ?_
      refine wpOp_step rfl (fun K hK => ?_)
      go_simp
      refine Hck2.out.mono ?_
      rintro e wc ⟨rfl, hTc, hOc⟩
      have HTc := Lib.hid hTc
      have HRc := Lib.hid (And.intro (hOc.blk HRb.out.1 (Tn.keep (.inl ⟨H5.out.2.2.1, by have := HO.out.2.2.2.2.size; have := H6z.out; omega⟩))) hTc.tree)
      clear hTc hOc Hck2
      refine hK _ _ ⟨⟨HRc.out.1.range, HRc.out.2⟩, ?_⟩
      clear hK K
      refine anyH_take (i := 18) (d := 129) (v := ?xb18) rfl rfl (by kernel_rfl) (by kernel_rfl) (by kernel_rfl) (fun _ _ _ h => h) (Or.inl ⟨by rfl, ?xby18⟩) ⟨HRc.out.1.range, HRc.out.2⟩ ?xbr18
      case xby18 => (intro w; go_simp; try with_reducible rfl)
      simp only [List.setIfInBounds_toArray, List.set_cons_zero, List.set_cons_succ]
      refine anyH_take (i := 19) (d := 130) (v := ?xb19) rfl rfl (by kernel_rfl) (by kernel_rfl) (by kernel_rfl) (fun _ _ _ h => h) (Or.inl ⟨by rfl, ?xby19⟩) ⟨HRc.out.1.range, HRc.out.2⟩ ?xbr19
      case xby19 => (intro w; go_simp; try with_reducible rfl)
      simp only [List.setIfInBounds_toArray, List.set_cons_zero, List.set_cons_succ]
      refine anyH_take (i := 20) (d := 6) (v := ?xb20) rfl rfl (by kernel_rfl) (by kernel_rfl) (by kernel_rfl) (fun _ _ _ h => h) (Or.inl ⟨by rfl, ?xby20⟩) ⟨HRc.out.1.range, HRc.out.2⟩ ?xbr20
      case xby20 => (intro w; go_simp; try with_reducible rfl)
      simp only [List.setIfInBounds_toArray, List.set_cons_zero, List.set_cons_succ]
      refine wpAnyH_done (by kernel_rfl) ?_ _
      go_wp2
      go_ret
      exact ⟨rfl, Hb0.out.trans ((HTc.out.bel Hk1.out.2.1).mono Hb0.out.size)⟩
    have q0 : ((a : Int) == 0) = false := by simp; omega
    by_cases ha1 : a = 1
    · have p0 : ((a : Int) == 1) = true := by simp [ha1]
      obtain ⟨hrow, hcs, hds, hb7, hg0, hnoc, hocm⟩ := H7.out
      have hr7 : Blk w7 w4.heap.size 31 D := H6.out.2.1.below hb7 H6.out.2.1.lt
      -- the row of the root, and its header
      have hbA : Below w7.heap.size w7 (w7.alloc (.cells D.toArray 31)) := (Below.refl _ _).alloc (Nat.le_refl _) _
      have hrD := row_dg w7 w6.heap.size D HD.out.1 hb7.size
      obtain ⟨wA, hwA⟩ : ∃ wA, w7.alloc (.cells D.toArray 31) = wA := ⟨_, rfl⟩
      rw [hwA] at hbA hrD
      have hzA : wA.heap.size = w7.heap.size + 1 := by rw [← hwA]; simp
      obtain ⟨wB, hwB⟩ : ∃ wB, wA.alloc (.cells #[.slice (some ⟨w7.heap.size, 0, none⟩) 1 1] 45) = wB := ⟨_, rfl⟩
      have hbB : Below wA.heap.size wA wB := by rw [← hwB]; exact (Below.refl _ _).alloc (Nat.le_refl _) _
      have hgB : Blk wB wA.heap.size 45 [.slice (some ⟨w7.heap.size, 0, none⟩) 1 1] := by rw [← hwB]; exact Blk.new rfl rfl
      have hzB := hbB.size
      have kB : ∀ {e : TypeId} {sz n : Nat} {u : Value} {us : List Value}, w7.ownsRow w6.heap.size e sz u n us → wB.ownsRow w6.heap.size e sz u n us := fun {e sz n u us} hu => row_stay hu fun b cs hb _ => (hbB.block b (by have := (World.ownsRow.lt hu b hb).2; omega)).trans (hbA.block b (World.ownsRow.lt hu b hb).2)
      have hrDB : wB.ownsRow w6.heap.size 31 32 (.slice (some ⟨w7.heap.size, 0, none⟩) 1 1) 1 D := row_stay hrD fun b cs hb _ => hbB.block b (World.ownsRow.lt hrD b hb).2
      obtain ⟨v8, w8, hap, hr8, hg8⟩ := run_appendPz wB w6.heap.size (.slice (some ⟨g7, 0, none⟩) np oc) np vs (kB hrow) wA.heap.size (.slice (some ⟨w7.heap.size, 0, none⟩) 1 1) rfl hgB (by have := Hla.out; omega) (by have := hb7.size; omega) 35
      have hz8 := hg8.size
      have hC8 : CpNew w6 w8 v8 (pf (lows xs) i ++ [[rootD (lows xs)]]) := by
        refine CpNew.push (by rw [H6.out.2.2.2.1]; exact kB hrow) (fun j hj => by
          obtain ⟨vj, h1, h2⟩ := hcs j hj
          exact ⟨vj, h1, kB h2⟩) (by
            have e : cbs ([rootD (lows xs)] : List Dg).flatten = D := by rw [← HD.out.2.2.1]; simp
            rw [e]; exact hrDB) (by rw [H6.out.2.2.2.1]; exact hr8) hg8 hds (fun j u b' hj hb' e => by
          have hjk : j < (pf (lows xs) i).length := by
            rcases Nat.lt_or_ge j vs.length with h | h
            · have := hrow.1; rw [H6.out.2.2.2.1]; omega
            · rw [List.getElem?_eq_none h] at hj; cases hj
          obtain ⟨vj, h1, h2⟩ := hcs j hjk
          rw [hj] at h1
          injection h1 with h1
          subst h1
          have h3 := (World.ownsRow.lt h2 b' hb').2
          simp [Value.ownBlock] at e
          omega)
      have hb78 : Below w6.heap.size w6 w8 := ((hb7.trans (hbA.mono hb7.size)).trans (hbB.mono (by have := hb7.size; omega))).grown hg8 (by have := hb7.size; omega) (fun j hj => (World.ownsRow.lt (kB hrow) j hj).1)
      obtain ⟨A8, c8, rfl, k1, k2, k3⟩ := hC8.at_ (fun p hp => by
        rcases List.mem_append.1 hp with h | h
        · exact pf_all (all32_lows _) i p h
        · rw [List.mem_singleton.1 h]
          intro d hd
          rw [List.mem_singleton.1 hd]
          exact HD.out.2.2.2.1)
      obtain ⟨n8, hn8⟩ : ∃ n, (pf (lows xs) i ++ [[rootD (lows xs)]]).length = n := ⟨_, rfl⟩
      rw [hn8] at hap
      have HO := Lib.hid (show PfAt w8 (fun j => w2.heap.size ≤ j ∧ j < w8.heap.size) A8 (pf (lows xs) i ++ [[rootD (lows xs)]]) ∧ (pf (lows xs) i ++ [[rootD (lows xs)]]).length = n8 ∧ n8 ≤ maxLen ∧ pwhole m i (pf (lows xs) i ++ [[rootD (lows xs)]]) = false ∧ Below w6.heap.size w6 w8 from
        ⟨k3.more fun j hj => ⟨by have := hj.1; have := H6.out.1.size; omega, hj.2⟩, hn8, by omega, pwhole_not _ _ Hm.out.1 Hwl.out.1 (by simp), hb78⟩)
      rw [← hwB] at hap
      have Hap := Lib.hid hap
      have HA := Lib.hid hwA
      have Hbu := Lib.hid (run_buildDg D HD.out.1 w7)
      have HR7 := Lib.hid hr7.range
      clear hrow hcs hds hb7 hg0 hnoc hocm hr7 hbA hrD hwA hzA hwB hbB hgB hzB kB hrDB hap hr8 hg8 hz8 hC8 hb78 k1 k2 k3 hn8
      go_wp2_with (first
        | (refine load_mid_g (by rfl) 31 _ rfl w4.heap.size 0 rfl D _ HR7.out Try.underlying31 rfl HD.out.2.2.2.2 ?_; simp only [Act.put])
        | (refine wpList_rowS rfl 45 1 _ rfl (.slice (some ⟨w7.heap.size, 0, none⟩) 1 1) (w7.alloc (.cells D.toArray 31)) (by simp only [List.map_toArray, List.map_cons, List.map_nil]; exact Hbu.out) ?_; simp only [Act.put]; refine cast (congrArg (fun z => wpList _ _ _ _ _ z) HA.out.symm) ?_)
        | (at_builtin; refine Lib.wpList_append_run _ rfl _ _ _ _ rfl _ _ rfl rfl _ _ Hap.out ?_))
      obtain ⟨wd, hwd⟩ : ∃ wd, w8.drew = wd := ⟨_, rfl⟩
      obtain ⟨wf, hwf⟩ : ∃ wf, wd.drew = wf := ⟨_, rfl⟩
      have hbd : Below w8.heap.size w8 wd := by rw [← hwd]; exact (Below.refl _ _).drew
      have hbf : Below w8.heap.size w8 wf := by rw [← hwf]; exact hbd.drew
      have hb28 : Below w2.heap.size w2 w8 := H6.out.1.trans (HO.out.2.2.2.2.mono H6.out.1.size)
      have hT8 := (HT2.out.keep (N' := fun j => w2.heap.size ≤ j ∧ j < w8.heap.size) hb28 (fun j hj => .inr hj)).below hbf
      have hbw8 : Below w.heap.size w wf := Hb0.out.trans ((hT8.bel Hk1.out.2.1).mono Hb0.out.size)
      have hbwd : Below w.heap.size w wd := Hb0.out.trans ((((HT2.out.keep (N' := fun j => w2.heap.size ≤ j ∧ j < w8.heap.size) hb28 (fun j hj => .inr hj)).below hbd).bel Hk1.out.2.1).mono Hb0.out.size)
      have hr8 : Blk wf w4.heap.size 31 D := ((H6.out.2.1.below HO.out.2.2.2.2 (by have := H6.out.2.1.lt; exact this)).below hbf (by have := HO.out.2.2.2.2.size; have := H6.out.2.1.lt; omega))
      have hPp : PfAt wf (fun j => w2.heap.size ≤ j ∧ j < w8.heap.size) (some ⟨pb, 0, none⟩) (pf (lows xs) i) := ((H6.out.2.2.1.stays ⟨HO.out.2.2.2.2.size, fun j hj => HO.out.2.2.2.2.block j hj.2⟩).stays ⟨by have := HO.out.2.2.2.2.size; have := hbf.size; omega, fun j hj => hbf.block j (by have := HO.out.2.2.2.2.size; have := hj.2; omega)⟩).more fun j hj => ⟨by have := hj.1; have := H5.out.1.size; omega, by have := HO.out.2.2.2.2.size; have := hj.2; omega⟩
      have hck1 := hT8.check (by decide) (rootD (lows xs)) HD.out.2.2.2.1 i Hi.out AB m1 cB x (Hx1.out.1.after hbw8) Hx1.out.2.1 Hx1.out.2.2.1 Hx1.out.2.2.2.1 Hx1.out.2.2.2.2.1 (fun j => w2.heap.size ≤ j ∧ j < w8.heap.size) (some ⟨pb, 0, none⟩) np pc (pf (lows xs) i) hPp H6.out.2.2.2.1 (by have := H6.out.2.2.2.1; have := pf_len (lows xs) i; have := dep_le HT2.out.tree.l2; simp only [maxLen]; omega) (fun j hj => ⟨by have := hbf.size; have := hj.2; omega, .inr (.inl hj)⟩)
      rw [Hx1.out.2.2.2.2.2.2, HD.out.2.2.1] at hck1
      have Hck1 := Lib.hid hck1
      have HB2 := Lib.hid hbf
      have HR2 := Lib.hid hr8
      have Hwd := Lib.hid hwd
      have Hwf := Lib.hid hwf
      have hQ0 : wd.cell? ⟨lb, off + i, none⟩ = some (.slice AB nj cB) := (hbwd.cell Hx1.out.2.2.2.2.2.1.2).trans Hx1.out.2.2.2.2.2.1.1
      have hQ1 : wf.rangeAt w4.heap.size 0 D ∧ TreeAt wf M t g (lows xs) := ⟨hr8.range, hT8.tree⟩
      have HQ := Lib.hid (And.intro hQ0 hQ1)
      clear hbd hbf hb28 hT8 hbw8 hbwd hr8 hPp hck1 hwd hwf hQ0 hQ1
      go_wp2
      have Q0 : wd.cell? ⟨lb, off + i, none⟩ = some (.slice AB nj cB) := HQ.out.1
      refine wp_region_held_drew (S := fun W' => W'.cell? ⟨lb, off + i, none⟩ = some (.slice AB nj cB)) (by kernel_rfl) (show w8.drew.cell? ⟨lb, off + i, none⟩ = some (.slice AB nj cB) from by rw [Hwd.out]; exact Q0) (fun _ => ?_)
      rw [Hwd.out]
      refine anyH_take (i := 0) (d := 100) (v := ?ya0) rfl rfl (by kernel_rfl) (by kernel_rfl) (by kernel_rfl) (fun _ _ _ h => h) (Or.inl ⟨by rfl, ?yay0⟩) Q0 ?yar0
      case yay0 => (intro w; go_simp; try with_reducible rfl)
      simp only [List.setIfInBounds_toArray, List.set_cons_zero, List.set_cons_succ]
      refine anyH_take (i := 1) (d := 101) (v := ?ya1) rfl rfl (by kernel_rfl) (by kernel_rfl) (by kernel_rfl) (fun _ _ _ h => h) (Or.inl ⟨by rfl, ?yay1⟩) Q0 ?yar1
      case yay1 => (intro w; go_simp; try with_reducible rfl)
      simp only [List.setIfInBounds_toArray, List.set_cons_zero, List.set_cons_succ]
      refine anyH_take (i := 2) (d := 102) (v := ?ya2) rfl rfl (by kernel_rfl) (by kernel_rfl) (by kernel_rfl) (fun _ _ _ h => h) (Or.inl ⟨by rfl, ?yay2⟩) Q0 ?yar2
      case yay2 => (intro w; go_simp; try with_reducible rfl)
      simp only [List.setIfInBounds_toArray, List.set_cons_zero, List.set_cons_succ]
      refine wpAnyH_take' (i := 3) (d := 103) (v := ?ya3) rfl rfl (by kernel_rfl) (by kernel_rfl) (by kernel_rfl) (fun _ _ _ h => h) (Or.inl ⟨by rfl, ?yay3⟩) Q0 ?yar3
      case yay3 => (intro w hSw; go_split_ands; go_simp; try with_reducible rfl)
      simp only [List.setIfInBounds_toArray, List.set_cons_zero, List.set_cons_succ]
      refine anyH_take (i := 4) (d := 104) (v := ?ya4) rfl rfl (by kernel_rfl) (by kernel_rfl) (by kernel_rfl) (fun _ _ _ h => h) (Or.inl ⟨by rfl, ?yay4⟩) Q0 ?yar4
      case yay4 => (intro w; go_simp; try with_reducible rfl)
      simp only [List.setIfInBounds_toArray, List.set_cons_zero, List.set_cons_succ]
      refine anyH_take (i := 5) (d := 105) (v := ?ya5) rfl rfl (by kernel_rfl) (by kernel_rfl) (by kernel_rfl) (fun _ _ _ h => h) (Or.inl ⟨by rfl, ?yay5⟩) Q0 ?yar5
      case yay5 => (intro w; go_simp; try with_reducible rfl)
      simp only [List.setIfInBounds_toArray, List.set_cons_zero, List.set_cons_succ]
      refine anyH_take (i := 6) (d := 106) (v := ?ya6) rfl rfl (by kernel_rfl) (by kernel_rfl) (by kernel_rfl) (fun _ _ _ h => h) (Or.inl ⟨by rfl, ?yay6⟩) Q0 ?yar6
      case yay6 => (intro w; go_simp; try with_reducible rfl)
      simp only [List.setIfInBounds_toArray, List.set_cons_zero, List.set_cons_succ]
      refine wpAnyH_take' (i := 7) (d := 107) (v := ?ya7) rfl rfl (by kernel_rfl) (by kernel_rfl) (by kernel_rfl) (fun _ _ _ h => h) (Or.inl ⟨by rfl, ?yay7⟩) Q0 ?yar7
      case yay7 => (intro w hSw; go_split_ands; go_simp; try with_reducible rfl)
      simp only [List.setIfInBounds_toArray, List.set_cons_zero, List.set_cons_succ]
      refine anyH_take (i := 8) (d := 108) (v := ?ya8) rfl rfl (by kernel_rfl) (by kernel_rfl) (by kernel_rfl) (fun _ _ _ h => h) (Or.inl ⟨by rfl, ?yay8⟩) Q0 ?yar8
      case yay8 => (intro w; go_simp; try with_reducible rfl)
      simp only [List.setIfInBounds_toArray, List.set_cons_zero, List.set_cons_succ]
      refine anyH_take (i := 9) (d := 109) (v := ?ya9) rfl rfl (by kernel_rfl) (by kernel_rfl) (by kernel_rfl) (fun _ _ _ h => h) (Or.inl ⟨by rfl, ?yay9⟩) Q0 ?yar9
      case yay9 => (intro w; go_simp; try with_reducible rfl)
      simp only [List.setIfInBounds_toArray, List.set_cons_zero, List.set_cons_succ]
      refine anyH_take (i := 10) (d := 110) (v := ?ya10) rfl rfl (by kernel_rfl) (by kernel_rfl) (by kernel_rfl) (fun _ _ _ h => h) (Or.inl ⟨by rfl, ?yay10⟩) Q0 ?yar10
      case yay10 => (intro w; go_simp; try with_reducible rfl)
      simp only [List.setIfInBounds_toArray, List.set_cons_zero, List.set_cons_succ]
      refine anyH_take (i := 11) (d := 15) (v := ?ya11) rfl rfl (by kernel_rfl) (by kernel_rfl) (by kernel_rfl) (fun _ _ _ h => h) (Or.inl ⟨by rfl, ?yay11⟩) Q0 ?yar11
      case yay11 => (intro w; go_simp; try with_reducible rfl)
      simp only [List.setIfInBounds_toArray, List.set_cons_zero, List.set_cons_succ]
      refine wpAnyH_done (by kernel_rfl) ?_ _
      go_wp2
      have Q1 : wf.rangeAt w4.heap.size 0 D ∧ TreeAt wf M t g (lows xs) := HQ.out.2
      refine wp_region_held_drew (S := fun W' => W'.rangeAt w4.heap.size 0 D ∧ TreeAt W' M t g (lows xs)) (by kernel_rfl) (show wd.drew.rangeAt w4.heap.size 0 D ∧ TreeAt wd.drew M t g (lows xs) from by rw [Hwf.out]; exact Q1) (fun _ => ?_)
      rw [Hwf.out]
      refine anyH_take (i := 0) (d := 111) (v := ?yb0) rfl rfl (by kernel_rfl) (by kernel_rfl) (by kernel_rfl) (fun _ _ _ h => h) (Or.inl ⟨by rfl, ?yby0⟩) Q1 ?ybr0
      case yby0 => (intro w; go_simp; try with_reducible rfl)
      simp only [List.setIfInBounds_toArray, List.set_cons_zero, List.set_cons_succ]
      refine anyH_load (i := 1) (d := 112) rfl rfl (by kernel_rfl) (by kernel_rfl) (by kernel_rfl) (by rfl) 31 _ rfl w4.heap.size 0 rfl D _ (fun _ h => h.1) Try.underlying31 rfl HD.out.2.2.2.2 (fun _ _ _ h => h) Q1 ?_
      simp only [List.setIfInBounds_toArray, List.set_cons_zero, List.set_cons_succ]
      refine anyH_take (i := 2) (d := 113) (v := ?yb2) rfl rfl (by kernel_rfl) (by kernel_rfl) (by kernel_rfl) (fun _ _ _ h => h) (Or.inl ⟨by rfl, ?yby2⟩) Q1 ?ybr2
      case yby2 => (intro w; go_simp; try with_reducible rfl)
      simp only [List.setIfInBounds_toArray, List.set_cons_zero, List.set_cons_succ]
      refine anyH_call (i := 3) (d := 114) (v := (.int .i64 (m : Int))) rfl rfl (by kernel_rfl) (by kernel_rfl) (by kernel_rfl) (fun _ _ _ h => h) ⟨by rfl, fun W hW => ⟨12, #[.pointer (some ⟨t, 0, none⟩)], ?yby3, by have := tleaves_at hW.2; rw [lows_len, Hx.out.1] at this; exact this⟩⟩ Q1 ?ybr3
      case yby3 => (go_simp; try with_reducible rfl)
      simp only [List.setIfInBounds_toArray, List.set_cons_zero, List.set_cons_succ]
      refine anyH_take (i := 4) (d := 115) (v := ?yb4) rfl rfl (by kernel_rfl) (by kernel_rfl) (by kernel_rfl) (fun _ _ _ h => h) (Or.inl ⟨by rfl, ?yby4⟩) Q1 ?ybr4
      case yby4 => (intro w; go_simp; try with_reducible rfl)
      simp only [List.setIfInBounds_toArray, List.set_cons_zero, List.set_cons_succ]
      refine anyH_take (i := 5) (d := 116) (v := ?yb5) rfl rfl (by kernel_rfl) (by kernel_rfl) (by kernel_rfl) (fun _ _ _ h => h) (Or.inl ⟨by rfl, ?yby5⟩) Q1 ?ybr5
      case yby5 => (intro w; go_simp; try with_reducible rfl)
      simp only [List.setIfInBounds_toArray, List.set_cons_zero, List.set_cons_succ]
      refine anyH_take (i := 6) (d := 117) (v := ?yb6) rfl rfl (by kernel_rfl) (by kernel_rfl) (by kernel_rfl) (fun _ _ _ h => h) (Or.inl ⟨by rfl, ?yby6⟩) Q1 ?ybr6
      case yby6 => (intro w; go_simp; try with_reducible rfl)
      simp only [List.setIfInBounds_toArray, List.set_cons_zero, List.set_cons_succ]
      refine anyH_one (i := 7) (by kernel_rfl) ?_
      refine wpOp_step rfl (fun K hK => ?_)
      go_simp
      refine Hck1.out.mono ?_
      rintro e wb ⟨rfl, hTb, hOb⟩
      have hPo := (HO.out.1.stays ⟨HB2.out.size, fun j hj => HB2.out.block j hj.2⟩).stays ⟨hOb.size, fun j hj => hOb.block j (by have := HB2.out.size; have := hj.2; omega) (Tn.keep (.inl hj))⟩
      have hBx2 := Hx1.out.1.after (Hb0.out.trans ((hTb.bel Hk1.out.2.1).mono Hb0.out.size))
      have hck2 := hTb.check (by decide) (rootD (lows xs)) HD.out.2.2.2.1 i Hi.out AB m1 cB x hBx2 Hx1.out.2.1 Hx1.out.2.2.1 Hx1.out.2.2.2.1 Hx1.out.2.2.2.2.1 (fun j => w2.heap.size ≤ j ∧ j < w8.heap.size) A8 n8 c8 (pf (lows xs) i ++ [[rootD (lows xs)]]) hPo HO.out.2.1 HO.out.2.2.1 (fun j hj => ⟨by have := hOb.size; have := HB2.out.size; have := hj.2; omega, .inr (.inl hj)⟩)
      rw [fits_not HO.out.2.2.2.1, HD.out.2.2.1] at hck2
      have Hck2 := Lib.hid hck2
      have hrb := hOb.blk HR2.out (Tn.keep (.inl ⟨H5.out.2.2.1, by have := HO.out.2.2.2.2.size; have := H6z.out; omega⟩))
      have HRb := Lib.hid (And.intro hrb hTb.tree)
      clear hTb hOb hPo hBx2 hck2 hrb Hck1
      refine hK _ _ ⟨⟨HRb.out.1.range, HRb.out.2⟩, ?_⟩
      clear hK K
      refine anyH_take (i := 8) (d := 119) (v := ?yb8) rfl rfl (by kernel_rfl) (by kernel_rfl) (by kernel_rfl) (fun _ _ _ h => h) (Or.inl ⟨by rfl, ?yby8⟩) ⟨HRb.out.1.range, HRb.out.2⟩ ?ybr8
      case yby8 => (intro w; go_simp; try with_reducible rfl)
      simp only [List.setIfInBounds_toArray, List.set_cons_zero, List.set_cons_succ]
      refine anyH_take (i := 9) (d := 120) (v := ?yb9) rfl rfl (by kernel_rfl) (by kernel_rfl) (by kernel_rfl) (fun _ _ _ h => h) (Or.inl ⟨by rfl, ?yby9⟩) ⟨HRb.out.1.range, HRb.out.2⟩ ?ybr9
      case yby9 => (intro w; go_simp; try with_reducible rfl)
      simp only [List.setIfInBounds_toArray, List.set_cons_zero, List.set_cons_succ]
      refine anyH_take (i := 10) (d := 121) (v := ?yb10) rfl rfl (by kernel_rfl) (by kernel_rfl) (by kernel_rfl) (fun _ _ _ h => h) (Or.inl ⟨by rfl, ?yby10⟩) ⟨HRb.out.1.range, HRb.out.2⟩ ?ybr10
      case yby10 => (intro w; go_simp; try with_reducible rfl)
      simp only [List.setIfInBounds_toArray, List.set_cons_zero, List.set_cons_succ]
      refine anyH_load (i := 11) (d := 122) rfl rfl (by kernel_rfl) (by kernel_rfl) (by kernel_rfl) (by rfl) 31 _ rfl w4.heap.size 0 rfl D _ (fun _ h => h.1) Try.underlying31 rfl HD.out.2.2.2.2 (fun _ _ _ h => h) ⟨HRb.out.1.range, HRb.out.2⟩ ?_
      simp only [List.setIfInBounds_toArray, List.set_cons_zero, List.set_cons_succ]
      refine anyH_take (i := 12) (d := 123) (v := ?yb12) rfl rfl (by kernel_rfl) (by kernel_rfl) (by kernel_rfl) (fun _ _ _ h => h) (Or.inl ⟨by rfl, ?yby12⟩) ⟨HRb.out.1.range, HRb.out.2⟩ ?ybr12
      case yby12 => (intro w; go_simp; try with_reducible rfl)
      simp only [List.setIfInBounds_toArray, List.set_cons_zero, List.set_cons_succ]
      refine anyH_call (i := 13) (d := 124) (v := (.int .i64 (m : Int))) rfl rfl (by kernel_rfl) (by kernel_rfl) (by kernel_rfl) (fun _ _ _ h => h) ⟨by rfl, fun W hW => ⟨12, #[.pointer (some ⟨t, 0, none⟩)], ?yby13, by have := tleaves_at hW.2; rw [lows_len, Hx.out.1] at this; exact this⟩⟩ ⟨HRb.out.1.range, HRb.out.2⟩ ?ybr13
      case yby13 => (go_simp; try with_reducible rfl)
      simp only [List.setIfInBounds_toArray, List.set_cons_zero, List.set_cons_succ]
      refine anyH_take (i := 14) (d := 125) (v := ?yb14) rfl rfl (by kernel_rfl) (by kernel_rfl) (by kernel_rfl) (fun _ _ _ h => h) (Or.inl ⟨by rfl, ?yby14⟩) ⟨HRb.out.1.range, HRb.out.2⟩ ?ybr14
      case yby14 => (intro w; go_simp; try with_reducible rfl)
      simp only [List.setIfInBounds_toArray, List.set_cons_zero, List.set_cons_succ]
      refine anyH_take (i := 15) (d := 126) (v := ?yb15) rfl rfl (by kernel_rfl) (by kernel_rfl) (by kernel_rfl) (fun _ _ _ h => h) (Or.inl ⟨by rfl, ?yby15⟩) ⟨HRb.out.1.range, HRb.out.2⟩ ?ybr15
      case yby15 => (intro w; go_simp; try with_reducible rfl)
      simp only [List.setIfInBounds_toArray, List.set_cons_zero, List.set_cons_succ]
      refine anyH_take (i := 16) (d := 127) (v := ?yb16) rfl rfl (by kernel_rfl) (by kernel_rfl) (by kernel_rfl) (fun _ _ _ h => h) (Or.inl ⟨by rfl, ?yby16⟩) ⟨HRb.out.1.range, HRb.out.2⟩ ?ybr16
      case yby16 => (intro w; go_simp; try with_reducible rfl)
      simp only [List.setIfInBounds_toArray, List.set_cons_zero, List.set_cons_succ]
      refine anyH_one (i := 17) (by kernel_rfl) ?_
      refine wpOp_step rfl (fun K hK => ?_)
      go_simp
      refine Hck2.out.mono ?_
      rintro e wc ⟨rfl, hTc, hOc⟩
      have HTc := Lib.hid hTc
      have HRc := Lib.hid (And.intro (hOc.blk HRb.out.1 (Tn.keep (.inl ⟨H5.out.2.2.1, by have := HO.out.2.2.2.2.size; have := H6z.out; omega⟩))) hTc.tree)
      clear hTc hOc Hck2
      refine hK _ _ ⟨⟨HRc.out.1.range, HRc.out.2⟩, ?_⟩
      clear hK K
      refine anyH_take (i := 18) (d := 129) (v := ?yb18) rfl rfl (by kernel_rfl) (by kernel_rfl) (by kernel_rfl) (fun _ _ _ h => h) (Or.inl ⟨by rfl, ?yby18⟩) ⟨HRc.out.1.range, HRc.out.2⟩ ?ybr18
      case yby18 => (intro w; go_simp; try with_reducible rfl)
      simp only [List.setIfInBounds_toArray, List.set_cons_zero, List.set_cons_succ]
      refine anyH_take (i := 19) (d := 130) (v := ?yb19) rfl rfl (by kernel_rfl) (by kernel_rfl) (by kernel_rfl) (fun _ _ _ h => h) (Or.inl ⟨by rfl, ?yby19⟩) ⟨HRc.out.1.range, HRc.out.2⟩ ?ybr19
      case yby19 => (intro w; go_simp; try with_reducible rfl)
      simp only [List.setIfInBounds_toArray, List.set_cons_zero, List.set_cons_succ]
      refine anyH_take (i := 20) (d := 6) (v := ?yb20) rfl rfl (by kernel_rfl) (by kernel_rfl) (by kernel_rfl) (fun _ _ _ h => h) (Or.inl ⟨by rfl, ?yby20⟩) ⟨HRc.out.1.range, HRc.out.2⟩ ?ybr20
      case yby20 => (intro w; go_simp; try with_reducible rfl)
      simp only [List.setIfInBounds_toArray, List.set_cons_zero, List.set_cons_succ]
      refine wpAnyH_done (by kernel_rfl) ?_ _
      go_wp2
      go_ret
      exact ⟨rfl, Hb0.out.trans ((HTc.out.bel Hk1.out.2.1).mono Hb0.out.size)⟩
    have q1 : ((a : Int) == 1) = false := by simp; omega
    by_cases ha2 : a = 2
    · have p0 : ((a : Int) == 2) = true := by simp [ha2]
      obtain ⟨hrow, hcs, hds, hb7, hg0, hnoc, hocm⟩ := H7.out
      have hlal : la < (pf (lows xs) i).length := by rw [H6.out.2.2.2.1]; have := Hla.out.1; omega
      obtain ⟨vj, hvj, hrj⟩ := hcs la hlal
      have hp4 := pf_four _ i _ (List.getElem_mem hlal)
      have hp32 := pf_all (all32_lows xs) i _ (List.getElem_mem hlal)
      obtain ⟨q, hq⟩ : ∃ q, (pf (lows xs) i)[la] = q := ⟨_, rfl⟩
      rw [hq] at hrj hp4 hp32
      obtain ⟨lj, hlj⟩ : ∃ n, q.length = n := ⟨_, rfl⟩
      rw [hlj] at hrj hp4
      obtain ⟨Aj, cj, rfl⟩ := own_form hrj
      have hcl : w7.cell? ⟨g7, la, none⟩ = some (.slice Aj lj cj) := by rw [World.ownsRow.cellAt hrow la (by have := Hla.out.1; omega)]; exact hvj
      have hbA : Below w7.heap.size w7 (w7.alloc (.cells (cbs (List.replicate 32 0)).toArray 31)) := (Below.refl _ _).alloc (Nat.le_refl _) _
      have hZ := row_ds w7 (cbs (List.replicate 32 0)) (List.replicate 32 0) rfl rfl
      obtain ⟨wA, hwA⟩ : ∃ wA, w7.alloc (.cells (cbs (List.replicate 32 0)).toArray 31) = wA := ⟨_, rfl⟩
      rw [hwA] at hbA hZ
      have hzA := hbA.size
      have kA : ∀ {e : TypeId} {sz n : Nat} {u : Value} {us : List Value}, w7.ownsRow w6.heap.size e sz u n us → wA.ownsRow w6.heap.size e sz u n us := fun {e sz n u us} hu => row_stay hu fun b cs hb _ => hbA.block b (World.ownsRow.lt hu b hb).2
      obtain ⟨v8, wP, hap, hr8, hg8, ho8⟩ := run_appendDs wA w6.heap.size (.slice Aj lj cj) lj q (kA hrj) (some ⟨w7.heap.size, 0, none⟩) 1 1 [List.replicate 32 0] hZ (fun d hd => by rw [List.mem_singleton.1 hd]; rfl) rfl (by omega) (by have := hb7.size; omega) 45
      obtain ⟨A8, c8, rfl⟩ := own_form hr8
      have hr1 : wP.ownsRow w6.heap.size 45 1 (.slice (some ⟨g7, 0, none⟩) np oc) np vs := row_stay (kA hrow) fun b cs hb _ => hg8.block b (World.ownsRow.lt (kA hrow) b hb).2 fun e => own_ne (kA hrow) (kA hrj) (by decide) hb e.symm
      have hP1 : wP.cell? ⟨g7, la, none⟩ = some (.slice Aj lj cj) := by rw [World.ownsRow.cellAt hr1 la (by have := Hla.out.1; omega)]; exact hvj
      have hP2 : wP.frozen? ⟨g7, la, none⟩ = false := World.ownsRow.frozenAt hr1 _
      have hC8 : CpNew w6 (wP.setCell ⟨g7, la, none⟩ (.slice A8 (lj + 1) c8)) (.slice (some ⟨g7, 0, none⟩) np oc) ((pf (lows xs) i).set la (q ++ [List.replicate 32 0])) :=
        CpNew.set (by rw [H6.out.2.2.2.1]; exact kA hrow) H6.out.2.2.2.1 (fun j hj => by
          obtain ⟨vj, h1, h2⟩ := hcs j hj
          exact ⟨vj, h1, kA h2⟩) hds hlal hvj hg8 (by rw [List.length_append, hlj]; exact hr8) (fun b hb => by
          rcases ho8 with h | h
          · exact .inl (h ▸ hb)
          · rw [h] at hb; injection hb with hb; exact .inr (by omega))
      have hb8 : Below w6.heap.size w6 (wP.setCell ⟨g7, la, none⟩ (.slice A8 (lj + 1) c8)) := Below.setCells (g := g7) (o := la) hg0 [.slice A8 (lj + 1) c8] (((hb7.trans (hbA.mono hb7.size))).grown hg8 (by have := hb7.size; omega) (fun j hj => (World.ownsRow.lt (kA hrj) j hj).1))
      have e3 : ((pf (lows xs) i).set la (q ++ [List.replicate 32 0])).length = np := by rw [List.length_set]; exact H6.out.2.2.2.1
      obtain ⟨A9, c9, e9, k1, k2, k3⟩ := hC8.at_ (fun p hp => by
        rcases List.mem_or_eq_of_mem_set hp with h | rfl
        · exact pf_all (all32_lows _) i p h
        · intro d hd
          rcases List.mem_append.1 hd with h | h
          · exact hp32 d h
          · rw [List.mem_singleton.1 h]; rfl)
      injection e9 with e9 e11 e10
      subst e9 e10
      clear e11
      have HO := Lib.hid (show PfAt (wP.setCell ⟨g7, la, none⟩ (.slice A8 (lj + 1) c8)) (fun j => w2.heap.size ≤ j ∧ j < (wP.setCell ⟨g7, la, none⟩ (.slice A8 (lj + 1) c8)).heap.size) (some ⟨g7, 0, none⟩) ((pf (lows xs) i).set la (q ++ [List.replicate 32 0])) ∧ ((pf (lows xs) i).set la (q ++ [List.replicate 32 0])).length = np ∧ np ≤ maxLen ∧ pwhole m i ((pf (lows xs) i).set la (q ++ [List.replicate 32 0])) = false ∧ Below w6.heap.size w6 (wP.setCell ⟨g7, la, none⟩ (.slice A8 (lj + 1) c8)) from
        ⟨k3.more fun j hj => ⟨by have := hj.1; have := H6.out.1.size; omega, hj.2⟩, e3, by have := Hla.out; simp only [maxLen]; omega, pwhole_at _ _ Hwl.out.1 hlal (by rw [hq, List.length_append]; simp), hb8⟩)
      rw [← hwA] at hap
      have Hap := Lib.hid hap
      clear hrow hcs hds hb7 hg0 hnoc hocm hlal hvj hrj hp4 hp32 hq hlj hbA hZ hwA hzA kA hap hr8 hg8 ho8 hr1 hC8 hb8 e3 k1 k2 k3
      go_wp2_with (at_builtin; refine Lib.wpList_append_run _ rfl _ _ _ _ rfl _ _ rfl rfl _ _ Hap.out ?_)
      generalize wP.setCell ⟨g7, la, none⟩ (.slice A8 (lj + 1) c8) = w8 at *
      obtain ⟨wd, hwd⟩ : ∃ wd, w8.drew = wd := ⟨_, rfl⟩
      obtain ⟨wf, hwf⟩ : ∃ wf, wd.drew = wf := ⟨_, rfl⟩
      have hbd : Below w8.heap.size w8 wd := by rw [← hwd]; exact (Below.refl _ _).drew
      have hbf : Below w8.heap.size w8 wf := by rw [← hwf]; exact hbd.drew
      have hb28 : Below w2.heap.size w2 w8 := H6.out.1.trans (HO.out.2.2.2.2.mono H6.out.1.size)
      have hT8 := (HT2.out.keep (N' := fun j => w2.heap.size ≤ j ∧ j < w8.heap.size) hb28 (fun j hj => .inr hj)).below hbf
      have hbw8 : Below w.heap.size w wf := Hb0.out.trans ((hT8.bel Hk1.out.2.1).mono Hb0.out.size)
      have hbwd : Below w.heap.size w wd := Hb0.out.trans ((((HT2.out.keep (N' := fun j => w2.heap.size ≤ j ∧ j < w8.heap.size) hb28 (fun j hj => .inr hj)).below hbd).bel Hk1.out.2.1).mono Hb0.out.size)
      have hr8 : Blk wf w4.heap.size 31 D := ((H6.out.2.1.below HO.out.2.2.2.2 (by have := H6.out.2.1.lt; exact this)).below hbf (by have := HO.out.2.2.2.2.size; have := H6.out.2.1.lt; omega))
      have hPp : PfAt wf (fun j => w2.heap.size ≤ j ∧ j < w8.heap.size) (some ⟨pb, 0, none⟩) (pf (lows xs) i) := ((H6.out.2.2.1.stays ⟨HO.out.2.2.2.2.size, fun j hj => HO.out.2.2.2.2.block j hj.2⟩).stays ⟨by have := HO.out.2.2.2.2.size; have := hbf.size; omega, fun j hj => hbf.block j (by have := HO.out.2.2.2.2.size; have := hj.2; omega)⟩).more fun j hj => ⟨by have := hj.1; have := H5.out.1.size; omega, by have := HO.out.2.2.2.2.size; have := hj.2; omega⟩
      have hck1 := hT8.check (by decide) (rootD (lows xs)) HD.out.2.2.2.1 i Hi.out AB m1 cB x (Hx1.out.1.after hbw8) Hx1.out.2.1 Hx1.out.2.2.1 Hx1.out.2.2.2.1 Hx1.out.2.2.2.2.1 (fun j => w2.heap.size ≤ j ∧ j < w8.heap.size) (some ⟨pb, 0, none⟩) np pc (pf (lows xs) i) hPp H6.out.2.2.2.1 (by have := H6.out.2.2.2.1; have := pf_len (lows xs) i; have := dep_le HT2.out.tree.l2; simp only [maxLen]; omega) (fun j hj => ⟨by have := hbf.size; have := hj.2; omega, .inr (.inl hj)⟩)
      rw [Hx1.out.2.2.2.2.2.2, HD.out.2.2.1] at hck1
      have Hck1 := Lib.hid hck1
      have HB2 := Lib.hid hbf
      have HR2 := Lib.hid hr8
      have Hwd := Lib.hid hwd
      have Hwf := Lib.hid hwf
      have hQ0 : wd.cell? ⟨lb, off + i, none⟩ = some (.slice AB nj cB) := (hbwd.cell Hx1.out.2.2.2.2.2.1.2).trans Hx1.out.2.2.2.2.2.1.1
      have hQ1 : wf.rangeAt w4.heap.size 0 D ∧ TreeAt wf M t g (lows xs) := ⟨hr8.range, hT8.tree⟩
      have HQ := Lib.hid (And.intro hQ0 hQ1)
      clear hbd hbf hb28 hT8 hbw8 hbwd hr8 hPp hck1 hwd hwf hQ0 hQ1
      go_wp2
      have Q0 : wd.cell? ⟨lb, off + i, none⟩ = some (.slice AB nj cB) := HQ.out.1
      refine wp_region_held_drew (S := fun W' => W'.cell? ⟨lb, off + i, none⟩ = some (.slice AB nj cB)) (by kernel_rfl) (show w8.drew.cell? ⟨lb, off + i, none⟩ = some (.slice AB nj cB) from by rw [Hwd.out]; exact Q0) (fun _ => ?_)
      rw [Hwd.out]
      refine anyH_take (i := 0) (d := 100) (v := ?za0) rfl rfl (by kernel_rfl) (by kernel_rfl) (by kernel_rfl) (fun _ _ _ h => h) (Or.inl ⟨by rfl, ?zay0⟩) Q0 ?zar0
      case zay0 => (intro w; go_simp; try with_reducible rfl)
      simp only [List.setIfInBounds_toArray, List.set_cons_zero, List.set_cons_succ]
      refine anyH_take (i := 1) (d := 101) (v := ?za1) rfl rfl (by kernel_rfl) (by kernel_rfl) (by kernel_rfl) (fun _ _ _ h => h) (Or.inl ⟨by rfl, ?zay1⟩) Q0 ?zar1
      case zay1 => (intro w; go_simp; try with_reducible rfl)
      simp only [List.setIfInBounds_toArray, List.set_cons_zero, List.set_cons_succ]
      refine anyH_take (i := 2) (d := 102) (v := ?za2) rfl rfl (by kernel_rfl) (by kernel_rfl) (by kernel_rfl) (fun _ _ _ h => h) (Or.inl ⟨by rfl, ?zay2⟩) Q0 ?zar2
      case zay2 => (intro w; go_simp; try with_reducible rfl)
      simp only [List.setIfInBounds_toArray, List.set_cons_zero, List.set_cons_succ]
      refine wpAnyH_take' (i := 3) (d := 103) (v := ?za3) rfl rfl (by kernel_rfl) (by kernel_rfl) (by kernel_rfl) (fun _ _ _ h => h) (Or.inl ⟨by rfl, ?zay3⟩) Q0 ?zar3
      case zay3 => (intro w hSw; go_split_ands; go_simp; try with_reducible rfl)
      simp only [List.setIfInBounds_toArray, List.set_cons_zero, List.set_cons_succ]
      refine anyH_take (i := 4) (d := 104) (v := ?za4) rfl rfl (by kernel_rfl) (by kernel_rfl) (by kernel_rfl) (fun _ _ _ h => h) (Or.inl ⟨by rfl, ?zay4⟩) Q0 ?zar4
      case zay4 => (intro w; go_simp; try with_reducible rfl)
      simp only [List.setIfInBounds_toArray, List.set_cons_zero, List.set_cons_succ]
      refine anyH_take (i := 5) (d := 105) (v := ?za5) rfl rfl (by kernel_rfl) (by kernel_rfl) (by kernel_rfl) (fun _ _ _ h => h) (Or.inl ⟨by rfl, ?zay5⟩) Q0 ?zar5
      case zay5 => (intro w; go_simp; try with_reducible rfl)
      simp only [List.setIfInBounds_toArray, List.set_cons_zero, List.set_cons_succ]
      refine anyH_take (i := 6) (d := 106) (v := ?za6) rfl rfl (by kernel_rfl) (by kernel_rfl) (by kernel_rfl) (fun _ _ _ h => h) (Or.inl ⟨by rfl, ?zay6⟩) Q0 ?zar6
      case zay6 => (intro w; go_simp; try with_reducible rfl)
      simp only [List.setIfInBounds_toArray, List.set_cons_zero, List.set_cons_succ]
      refine wpAnyH_take' (i := 7) (d := 107) (v := ?za7) rfl rfl (by kernel_rfl) (by kernel_rfl) (by kernel_rfl) (fun _ _ _ h => h) (Or.inl ⟨by rfl, ?zay7⟩) Q0 ?zar7
      case zay7 => (intro w hSw; go_split_ands; go_simp; try with_reducible rfl)
      simp only [List.setIfInBounds_toArray, List.set_cons_zero, List.set_cons_succ]
      refine anyH_take (i := 8) (d := 108) (v := ?za8) rfl rfl (by kernel_rfl) (by kernel_rfl) (by kernel_rfl) (fun _ _ _ h => h) (Or.inl ⟨by rfl, ?zay8⟩) Q0 ?zar8
      case zay8 => (intro w; go_simp; try with_reducible rfl)
      simp only [List.setIfInBounds_toArray, List.set_cons_zero, List.set_cons_succ]
      refine anyH_take (i := 9) (d := 109) (v := ?za9) rfl rfl (by kernel_rfl) (by kernel_rfl) (by kernel_rfl) (fun _ _ _ h => h) (Or.inl ⟨by rfl, ?zay9⟩) Q0 ?zar9
      case zay9 => (intro w; go_simp; try with_reducible rfl)
      simp only [List.setIfInBounds_toArray, List.set_cons_zero, List.set_cons_succ]
      refine anyH_take (i := 10) (d := 110) (v := ?za10) rfl rfl (by kernel_rfl) (by kernel_rfl) (by kernel_rfl) (fun _ _ _ h => h) (Or.inl ⟨by rfl, ?zay10⟩) Q0 ?zar10
      case zay10 => (intro w; go_simp; try with_reducible rfl)
      simp only [List.setIfInBounds_toArray, List.set_cons_zero, List.set_cons_succ]
      refine anyH_take (i := 11) (d := 15) (v := ?za11) rfl rfl (by kernel_rfl) (by kernel_rfl) (by kernel_rfl) (fun _ _ _ h => h) (Or.inl ⟨by rfl, ?zay11⟩) Q0 ?zar11
      case zay11 => (intro w; go_simp; try with_reducible rfl)
      simp only [List.setIfInBounds_toArray, List.set_cons_zero, List.set_cons_succ]
      refine wpAnyH_done (by kernel_rfl) ?_ _
      go_wp2
      have Q1 : wf.rangeAt w4.heap.size 0 D ∧ TreeAt wf M t g (lows xs) := HQ.out.2
      refine wp_region_held_drew (S := fun W' => W'.rangeAt w4.heap.size 0 D ∧ TreeAt W' M t g (lows xs)) (by kernel_rfl) (show wd.drew.rangeAt w4.heap.size 0 D ∧ TreeAt wd.drew M t g (lows xs) from by rw [Hwf.out]; exact Q1) (fun _ => ?_)
      rw [Hwf.out]
      refine anyH_take (i := 0) (d := 111) (v := ?zb0) rfl rfl (by kernel_rfl) (by kernel_rfl) (by kernel_rfl) (fun _ _ _ h => h) (Or.inl ⟨by rfl, ?zby0⟩) Q1 ?zbr0
      case zby0 => (intro w; go_simp; try with_reducible rfl)
      simp only [List.setIfInBounds_toArray, List.set_cons_zero, List.set_cons_succ]
      refine anyH_load (i := 1) (d := 112) rfl rfl (by kernel_rfl) (by kernel_rfl) (by kernel_rfl) (by rfl) 31 _ rfl w4.heap.size 0 rfl D _ (fun _ h => h.1) Try.underlying31 rfl HD.out.2.2.2.2 (fun _ _ _ h => h) Q1 ?_
      simp only [List.setIfInBounds_toArray, List.set_cons_zero, List.set_cons_succ]
      refine anyH_take (i := 2) (d := 113) (v := ?zb2) rfl rfl (by kernel_rfl) (by kernel_rfl) (by kernel_rfl) (fun _ _ _ h => h) (Or.inl ⟨by rfl, ?zby2⟩) Q1 ?zbr2
      case zby2 => (intro w; go_simp; try with_reducible rfl)
      simp only [List.setIfInBounds_toArray, List.set_cons_zero, List.set_cons_succ]
      refine anyH_call (i := 3) (d := 114) (v := (.int .i64 (m : Int))) rfl rfl (by kernel_rfl) (by kernel_rfl) (by kernel_rfl) (fun _ _ _ h => h) ⟨by rfl, fun W hW => ⟨12, #[.pointer (some ⟨t, 0, none⟩)], ?zby3, by have := tleaves_at hW.2; rw [lows_len, Hx.out.1] at this; exact this⟩⟩ Q1 ?zbr3
      case zby3 => (go_simp; try with_reducible rfl)
      simp only [List.setIfInBounds_toArray, List.set_cons_zero, List.set_cons_succ]
      refine anyH_take (i := 4) (d := 115) (v := ?zb4) rfl rfl (by kernel_rfl) (by kernel_rfl) (by kernel_rfl) (fun _ _ _ h => h) (Or.inl ⟨by rfl, ?zby4⟩) Q1 ?zbr4
      case zby4 => (intro w; go_simp; try with_reducible rfl)
      simp only [List.setIfInBounds_toArray, List.set_cons_zero, List.set_cons_succ]
      refine anyH_take (i := 5) (d := 116) (v := ?zb5) rfl rfl (by kernel_rfl) (by kernel_rfl) (by kernel_rfl) (fun _ _ _ h => h) (Or.inl ⟨by rfl, ?zby5⟩) Q1 ?zbr5
      case zby5 => (intro w; go_simp; try with_reducible rfl)
      simp only [List.setIfInBounds_toArray, List.set_cons_zero, List.set_cons_succ]
      refine anyH_take (i := 6) (d := 117) (v := ?zb6) rfl rfl (by kernel_rfl) (by kernel_rfl) (by kernel_rfl) (fun _ _ _ h => h) (Or.inl ⟨by rfl, ?zby6⟩) Q1 ?zbr6
      case zby6 => (intro w; go_simp; try with_reducible rfl)
      simp only [List.setIfInBounds_toArray, List.set_cons_zero, List.set_cons_succ]
      refine anyH_one (i := 7) (by kernel_rfl) ?_
      refine wpOp_step rfl (fun K hK => ?_)
      go_simp
      refine Hck1.out.mono ?_
      rintro e wb ⟨rfl, hTb, hOb⟩
      have hPo := (HO.out.1.stays ⟨HB2.out.size, fun j hj => HB2.out.block j hj.2⟩).stays ⟨hOb.size, fun j hj => hOb.block j (by have := HB2.out.size; have := hj.2; omega) (Tn.keep (.inl hj))⟩
      have hBx2 := Hx1.out.1.after (Hb0.out.trans ((hTb.bel Hk1.out.2.1).mono Hb0.out.size))
      have hck2 := hTb.check (by decide) (rootD (lows xs)) HD.out.2.2.2.1 i Hi.out AB m1 cB x hBx2 Hx1.out.2.1 Hx1.out.2.2.1 Hx1.out.2.2.2.1 Hx1.out.2.2.2.2.1 (fun j => w2.heap.size ≤ j ∧ j < w8.heap.size) (some ⟨g7, 0, none⟩) np oc ((pf (lows xs) i).set la (q ++ [List.replicate 32 0])) hPo HO.out.2.1 HO.out.2.2.1 (fun j hj => ⟨by have := hOb.size; have := HB2.out.size; have := hj.2; omega, .inr (.inl hj)⟩)
      rw [fits_not HO.out.2.2.2.1, HD.out.2.2.1] at hck2
      have Hck2 := Lib.hid hck2
      have hrb := hOb.blk HR2.out (Tn.keep (.inl ⟨H5.out.2.2.1, by have := HO.out.2.2.2.2.size; have := H6z.out; omega⟩))
      have HRb := Lib.hid (And.intro hrb hTb.tree)
      clear hTb hOb hPo hBx2 hck2 hrb Hck1
      refine hK _ _ ⟨⟨HRb.out.1.range, HRb.out.2⟩, ?_⟩
      clear hK K
      refine anyH_take (i := 8) (d := 119) (v := ?zb8) rfl rfl (by kernel_rfl) (by kernel_rfl) (by kernel_rfl) (fun _ _ _ h => h) (Or.inl ⟨by rfl, ?zby8⟩) ⟨HRb.out.1.range, HRb.out.2⟩ ?zbr8
      case zby8 => (intro w; go_simp; try with_reducible rfl)
      simp only [List.setIfInBounds_toArray, List.set_cons_zero, List.set_cons_succ]
      refine anyH_take (i := 9) (d := 120) (v := ?zb9) rfl rfl (by kernel_rfl) (by kernel_rfl) (by kernel_rfl) (fun _ _ _ h => h) (Or.inl ⟨by rfl, ?zby9⟩) ⟨HRb.out.1.range, HRb.out.2⟩ ?zbr9
      case zby9 => (intro w; go_simp; try with_reducible rfl)
      simp only [List.setIfInBounds_toArray, List.set_cons_zero, List.set_cons_succ]
      refine anyH_take (i := 10) (d := 121) (v := ?zb10) rfl rfl (by kernel_rfl) (by kernel_rfl) (by kernel_rfl) (fun _ _ _ h => h) (Or.inl ⟨by rfl, ?zby10⟩) ⟨HRb.out.1.range, HRb.out.2⟩ ?zbr10
      case zby10 => (intro w; go_simp; try with_reducible rfl)
      simp only [List.setIfInBounds_toArray, List.set_cons_zero, List.set_cons_succ]
      refine anyH_load (i := 11) (d := 122) rfl rfl (by kernel_rfl) (by kernel_rfl) (by kernel_rfl) (by rfl) 31 _ rfl w4.heap.size 0 rfl D _ (fun _ h => h.1) Try.underlying31 rfl HD.out.2.2.2.2 (fun _ _ _ h => h) ⟨HRb.out.1.range, HRb.out.2⟩ ?_
      simp only [List.setIfInBounds_toArray, List.set_cons_zero, List.set_cons_succ]
      refine anyH_take (i := 12) (d := 123) (v := ?zb12) rfl rfl (by kernel_rfl) (by kernel_rfl) (by kernel_rfl) (fun _ _ _ h => h) (Or.inl ⟨by rfl, ?zby12⟩) ⟨HRb.out.1.range, HRb.out.2⟩ ?zbr12
      case zby12 => (intro w; go_simp; try with_reducible rfl)
      simp only [List.setIfInBounds_toArray, List.set_cons_zero, List.set_cons_succ]
      refine anyH_call (i := 13) (d := 124) (v := (.int .i64 (m : Int))) rfl rfl (by kernel_rfl) (by kernel_rfl) (by kernel_rfl) (fun _ _ _ h => h) ⟨by rfl, fun W hW => ⟨12, #[.pointer (some ⟨t, 0, none⟩)], ?zby13, by have := tleaves_at hW.2; rw [lows_len, Hx.out.1] at this; exact this⟩⟩ ⟨HRb.out.1.range, HRb.out.2⟩ ?zbr13
      case zby13 => (go_simp; try with_reducible rfl)
      simp only [List.setIfInBounds_toArray, List.set_cons_zero, List.set_cons_succ]
      refine anyH_take (i := 14) (d := 125) (v := ?zb14) rfl rfl (by kernel_rfl) (by kernel_rfl) (by kernel_rfl) (fun _ _ _ h => h) (Or.inl ⟨by rfl, ?zby14⟩) ⟨HRb.out.1.range, HRb.out.2⟩ ?zbr14
      case zby14 => (intro w; go_simp; try with_reducible rfl)
      simp only [List.setIfInBounds_toArray, List.set_cons_zero, List.set_cons_succ]
      refine anyH_take (i := 15) (d := 126) (v := ?zb15) rfl rfl (by kernel_rfl) (by kernel_rfl) (by kernel_rfl) (fun _ _ _ h => h) (Or.inl ⟨by rfl, ?zby15⟩) ⟨HRb.out.1.range, HRb.out.2⟩ ?zbr15
      case zby15 => (intro w; go_simp; try with_reducible rfl)
      simp only [List.setIfInBounds_toArray, List.set_cons_zero, List.set_cons_succ]
      refine anyH_take (i := 16) (d := 127) (v := ?zb16) rfl rfl (by kernel_rfl) (by kernel_rfl) (by kernel_rfl) (fun _ _ _ h => h) (Or.inl ⟨by rfl, ?zby16⟩) ⟨HRb.out.1.range, HRb.out.2⟩ ?zbr16
      case zby16 => (intro w; go_simp; try with_reducible rfl)
      simp only [List.setIfInBounds_toArray, List.set_cons_zero, List.set_cons_succ]
      refine anyH_one (i := 17) (by kernel_rfl) ?_
      refine wpOp_step rfl (fun K hK => ?_)
      go_simp
      refine Hck2.out.mono ?_
      rintro e wc ⟨rfl, hTc, hOc⟩
      have HTc := Lib.hid hTc
      have HRc := Lib.hid (And.intro (hOc.blk HRb.out.1 (Tn.keep (.inl ⟨H5.out.2.2.1, by have := HO.out.2.2.2.2.size; have := H6z.out; omega⟩))) hTc.tree)
      clear hTc hOc Hck2
      refine hK _ _ ⟨⟨HRc.out.1.range, HRc.out.2⟩, ?_⟩
      clear hK K
      refine anyH_take (i := 18) (d := 129) (v := ?zb18) rfl rfl (by kernel_rfl) (by kernel_rfl) (by kernel_rfl) (fun _ _ _ h => h) (Or.inl ⟨by rfl, ?zby18⟩) ⟨HRc.out.1.range, HRc.out.2⟩ ?zbr18
      case zby18 => (intro w; go_simp; try with_reducible rfl)
      simp only [List.setIfInBounds_toArray, List.set_cons_zero, List.set_cons_succ]
      refine anyH_take (i := 19) (d := 130) (v := ?zb19) rfl rfl (by kernel_rfl) (by kernel_rfl) (by kernel_rfl) (fun _ _ _ h => h) (Or.inl ⟨by rfl, ?zby19⟩) ⟨HRc.out.1.range, HRc.out.2⟩ ?zbr19
      case zby19 => (intro w; go_simp; try with_reducible rfl)
      simp only [List.setIfInBounds_toArray, List.set_cons_zero, List.set_cons_succ]
      refine anyH_take (i := 20) (d := 6) (v := ?zb20) rfl rfl (by kernel_rfl) (by kernel_rfl) (by kernel_rfl) (fun _ _ _ h => h) (Or.inl ⟨by rfl, ?zby20⟩) ⟨HRc.out.1.range, HRc.out.2⟩ ?zbr20
      case zby20 => (intro w; go_simp; try with_reducible rfl)
      simp only [List.setIfInBounds_toArray, List.set_cons_zero, List.set_cons_succ]
      refine wpAnyH_done (by kernel_rfl) ?_ _
      go_wp2
      go_ret
      exact ⟨rfl, Hb0.out.trans ((HTc.out.bel Hk1.out.2.1).mono Hb0.out.size)⟩
    have q2 : ((a : Int) == 2) = false := by simp; omega
    obtain ⟨hrow, hcs, hds, hb7, hg0, hnoc, hocm⟩ := H7.out
    have hlal : 0 < (pf (lows xs) i).length := by rw [H6.out.2.2.2.1]; have := Hla.out.1; omega
    obtain ⟨vj, hvj, hrj⟩ := hcs 0 hlal
    have hp4 := pf_four _ i _ (List.getElem_mem hlal)
    have hp1 : 1 ≤ ((pf (lows xs) i)[0]).length := by
      have h1 := pf_get (lows xs) i 0 (by rw [← pf_len (lows xs) i]; exact hlal)
      rw [List.getElem?_eq_getElem hlal] at h1
      rw [Option.some.inj h1, four_len]
      have h2 : lvl (lows xs) 0 = lows xs := rfl
      have h3 := Hi.out
      rw [h2, lows_len, Hx.out.1]
      simp only [Nat.zero_add, Nat.pow_one]
      omega
    have hp32 := pf_all (all32_lows xs) i _ (List.getElem_mem hlal)
    obtain ⟨q, hq⟩ : ∃ q, (pf (lows xs) i)[0] = q := ⟨_, rfl⟩
    rw [hq] at hrj hp4 hp32 hp1
    obtain ⟨lj, hlj⟩ : ∃ n, q.length = n := ⟨_, rfl⟩
    rw [hlj] at hrj hp4 hp1
    obtain ⟨gj, cj, rfl, hgj1, hgj2⟩ : ∃ g c, vj = .slice (some ⟨g, 0, none⟩) lj c ∧ lj ≤ c ∧ c ≤ maxLen := by
      rcases hrj.2 with ⟨_, e⟩ | ⟨g, c, cur, rfl, _, _, h1, h2, _⟩
      · omega
      · exact ⟨g, c, rfl, h1, h2⟩
    have hcl : w7.cell? ⟨g7, 0, none⟩ = some (.slice (some ⟨gj, 0, none⟩) lj cj) := by rw [World.ownsRow.cellAt hrow 0 (by have := Hla.out.1; omega)]; exact hvj
    have hfz : w7.frozen? ⟨g7, 0, none⟩ = false := World.ownsRow.frozenAt hrow _
    obtain ⟨kj, hkj⟩ : ∃ k, lj = k + 1 := ⟨lj - 1, by omega⟩
    have hkj2 : (lj : Int) - 1 = (kj : Int) := by omega
    clear hkj
    have kj0 : (0 : Int) ≤ (kj : Int) := by omega
    have kj1 : (kj : Int) < (lj : Int) := by omega
    have kj4 : (lj : Int) ≤ 4 := by omega
    have hsd := fun w => sl_frontD gj lj cj kj (by omega) (by omega) w
    have hC8 : CpNew w6 (w7.setCell ⟨g7, 0, none⟩ (.slice (some ⟨gj, 0, none⟩) kj cj)) (.slice (some ⟨g7, 0, none⟩) np oc) ((pf (lows xs) i).set 0 (q.take kj)) :=
      CpNew.set (by rw [H6.out.2.2.2.1]; exact hrow) H6.out.2.2.2.1 hcs hds hlal hvj (World.grownBy.refl _ _) (by
        rw [List.length_take, hlj, Nat.min_eq_left (by omega)]
        exact own_take hrj hp32 (by omega)) (fun b hb => .inl hb)
    have hb8 : Below w6.heap.size w6 (w7.setCell ⟨g7, 0, none⟩ (.slice (some ⟨gj, 0, none⟩) kj cj)) := Below.setCells (g := g7) (o := 0) hg0 [.slice (some ⟨gj, 0, none⟩) kj cj] hb7
    have hbD : Below (w7.setCell ⟨g7, 0, none⟩ (.slice (some ⟨gj, 0, none⟩) kj cj)).heap.size (w7.setCell ⟨g7, 0, none⟩ (.slice (some ⟨gj, 0, none⟩) kj cj)) (w7.setCell ⟨g7, 0, none⟩ (.slice (some ⟨gj, 0, none⟩) kj cj)).drew := (Below.refl _ _).drew
    replace hC8 := hC8.below hbD
    replace hb8 := hb8.trans (hbD.mono hb8.size)
    have e3 : ((pf (lows xs) i).set 0 (q.take kj)).length = np := by rw [List.length_set]; exact H6.out.2.2.2.1
    obtain ⟨A9, c9, e9, k1, k2, k3⟩ := hC8.at_ (fun p hp => by
      rcases List.mem_or_eq_of_mem_set hp with h | rfl
      · exact pf_all (all32_lows _) i p h
      · exact fun d hd => hp32 d (List.mem_of_mem_take hd))
    injection e9 with e9 e11 e10
    subst e9 e10
    clear e11
    have HO := Lib.hid (show PfAt (w7.setCell ⟨g7, 0, none⟩ (.slice (some ⟨gj, 0, none⟩) kj cj)).drew (fun j => w2.heap.size ≤ j ∧ j < (w7.setCell ⟨g7, 0, none⟩ (.slice (some ⟨gj, 0, none⟩) kj cj)).drew.heap.size) (some ⟨g7, 0, none⟩) ((pf (lows xs) i).set 0 (q.take kj)) ∧ ((pf (lows xs) i).set 0 (q.take kj)).length = np ∧ np ≤ maxLen ∧ pwhole m i ((pf (lows xs) i).set 0 (q.take kj)) = false ∧ Below w6.heap.size w6 (w7.setCell ⟨g7, 0, none⟩ (.slice (some ⟨gj, 0, none⟩) kj cj)).drew from
      ⟨k3.more fun j hj => ⟨by have := hj.1; have := H6.out.1.size; omega, hj.2⟩, e3, by have := Hla.out; simp only [maxLen]; omega, pwhole_at _ _ Hwl.out.1 hlal (by rw [hq, List.length_take, hlj]; omega), hb8⟩)
    clear hrow hcs hds hb7 hg0 hnoc hocm hlal hvj hrj hp4 hp1 hp32 hq hlj hC8 hb8 hbD e3 k1 k2 k3 hgj1 hgj2
    go_wp2
    go_region
    go_wp2
    generalize (w7.setCell ⟨g7, 0, none⟩ (.slice (some ⟨gj, 0, none⟩) kj cj)).drew = w8 at *
    obtain ⟨wd, hwd⟩ : ∃ wd, w8.drew = wd := ⟨_, rfl⟩
    obtain ⟨wf, hwf⟩ : ∃ wf, wd.drew = wf := ⟨_, rfl⟩
    have hbd : Below w8.heap.size w8 wd := by rw [← hwd]; exact (Below.refl _ _).drew
    have hbf : Below w8.heap.size w8 wf := by rw [← hwf]; exact hbd.drew
    have hb28 : Below w2.heap.size w2 w8 := H6.out.1.trans (HO.out.2.2.2.2.mono H6.out.1.size)
    have hT8 := (HT2.out.keep (N' := fun j => w2.heap.size ≤ j ∧ j < w8.heap.size) hb28 (fun j hj => .inr hj)).below hbf
    have hbw8 : Below w.heap.size w wf := Hb0.out.trans ((hT8.bel Hk1.out.2.1).mono Hb0.out.size)
    have hbwd : Below w.heap.size w wd := Hb0.out.trans ((((HT2.out.keep (N' := fun j => w2.heap.size ≤ j ∧ j < w8.heap.size) hb28 (fun j hj => .inr hj)).below hbd).bel Hk1.out.2.1).mono Hb0.out.size)
    have hr8 : Blk wf w4.heap.size 31 D := ((H6.out.2.1.below HO.out.2.2.2.2 (by have := H6.out.2.1.lt; exact this)).below hbf (by have := HO.out.2.2.2.2.size; have := H6.out.2.1.lt; omega))
    have hPp : PfAt wf (fun j => w2.heap.size ≤ j ∧ j < w8.heap.size) (some ⟨pb, 0, none⟩) (pf (lows xs) i) := ((H6.out.2.2.1.stays ⟨HO.out.2.2.2.2.size, fun j hj => HO.out.2.2.2.2.block j hj.2⟩).stays ⟨by have := HO.out.2.2.2.2.size; have := hbf.size; omega, fun j hj => hbf.block j (by have := HO.out.2.2.2.2.size; have := hj.2; omega)⟩).more fun j hj => ⟨by have := hj.1; have := H5.out.1.size; omega, by have := HO.out.2.2.2.2.size; have := hj.2; omega⟩
    have hck1 := hT8.check (by decide) (rootD (lows xs)) HD.out.2.2.2.1 i Hi.out AB m1 cB x (Hx1.out.1.after hbw8) Hx1.out.2.1 Hx1.out.2.2.1 Hx1.out.2.2.2.1 Hx1.out.2.2.2.2.1 (fun j => w2.heap.size ≤ j ∧ j < w8.heap.size) (some ⟨pb, 0, none⟩) np pc (pf (lows xs) i) hPp H6.out.2.2.2.1 (by have := H6.out.2.2.2.1; have := pf_len (lows xs) i; have := dep_le HT2.out.tree.l2; simp only [maxLen]; omega) (fun j hj => ⟨by have := hbf.size; have := hj.2; omega, .inr (.inl hj)⟩)
    rw [Hx1.out.2.2.2.2.2.2, HD.out.2.2.1] at hck1
    have Hck1 := Lib.hid hck1
    have HB2 := Lib.hid hbf
    have HR2 := Lib.hid hr8
    have Hwd := Lib.hid hwd
    have Hwf := Lib.hid hwf
    have hQ0 : wd.cell? ⟨lb, off + i, none⟩ = some (.slice AB nj cB) := (hbwd.cell Hx1.out.2.2.2.2.2.1.2).trans Hx1.out.2.2.2.2.2.1.1
    have hQ1 : wf.rangeAt w4.heap.size 0 D ∧ TreeAt wf M t g (lows xs) := ⟨hr8.range, hT8.tree⟩
    have HQ := Lib.hid (And.intro hQ0 hQ1)
    clear hbd hbf hb28 hT8 hbw8 hbwd hr8 hPp hck1 hwd hwf hQ0 hQ1
    go_wp2
    have Q0 : wd.cell? ⟨lb, off + i, none⟩ = some (.slice AB nj cB) := HQ.out.1
    refine wp_region_held_drew (S := fun W' => W'.cell? ⟨lb, off + i, none⟩ = some (.slice AB nj cB)) (by kernel_rfl) (show w8.drew.cell? ⟨lb, off + i, none⟩ = some (.slice AB nj cB) from by rw [Hwd.out]; exact Q0) (fun _ => ?_)
    rw [Hwd.out]
    refine anyH_take (i := 0) (d := 100) (v := ?ra0) rfl rfl (by kernel_rfl) (by kernel_rfl) (by kernel_rfl) (fun _ _ _ h => h) (Or.inl ⟨by rfl, ?ray0⟩) Q0 ?rar0
    case ray0 => (intro w; go_simp; try with_reducible rfl)
    simp only [List.setIfInBounds_toArray, List.set_cons_zero, List.set_cons_succ]
    refine anyH_take (i := 1) (d := 101) (v := ?ra1) rfl rfl (by kernel_rfl) (by kernel_rfl) (by kernel_rfl) (fun _ _ _ h => h) (Or.inl ⟨by rfl, ?ray1⟩) Q0 ?rar1
    case ray1 => (intro w; go_simp; try with_reducible rfl)
    simp only [List.setIfInBounds_toArray, List.set_cons_zero, List.set_cons_succ]
    refine anyH_take (i := 2) (d := 102) (v := ?ra2) rfl rfl (by kernel_rfl) (by kernel_rfl) (by kernel_rfl) (fun _ _ _ h => h) (Or.inl ⟨by rfl, ?ray2⟩) Q0 ?rar2
    case ray2 => (intro w; go_simp; try with_reducible rfl)
    simp only [List.setIfInBounds_toArray, List.set_cons_zero, List.set_cons_succ]
    refine wpAnyH_take' (i := 3) (d := 103) (v := ?ra3) rfl rfl (by kernel_rfl) (by kernel_rfl) (by kernel_rfl) (fun _ _ _ h => h) (Or.inl ⟨by rfl, ?ray3⟩) Q0 ?rar3
    case ray3 => (intro w hSw; go_split_ands; go_simp; try with_reducible rfl)
    simp only [List.setIfInBounds_toArray, List.set_cons_zero, List.set_cons_succ]
    refine anyH_take (i := 4) (d := 104) (v := ?ra4) rfl rfl (by kernel_rfl) (by kernel_rfl) (by kernel_rfl) (fun _ _ _ h => h) (Or.inl ⟨by rfl, ?ray4⟩) Q0 ?rar4
    case ray4 => (intro w; go_simp; try with_reducible rfl)
    simp only [List.setIfInBounds_toArray, List.set_cons_zero, List.set_cons_succ]
    refine anyH_take (i := 5) (d := 105) (v := ?ra5) rfl rfl (by kernel_rfl) (by kernel_rfl) (by kernel_rfl) (fun _ _ _ h => h) (Or.inl ⟨by rfl, ?ray5⟩) Q0 ?rar5
    case ray5 => (intro w; go_simp; try with_reducible rfl)
    simp only [List.setIfInBounds_toArray, List.set_cons_zero, List.set_cons_succ]
    refine anyH_take (i := 6) (d := 106) (v := ?ra6) rfl rfl (by kernel_rfl) (by kernel_rfl) (by kernel_rfl) (fun _ _ _ h => h) (Or.inl ⟨by rfl, ?ray6⟩) Q0 ?rar6
    case ray6 => (intro w; go_simp; try with_reducible rfl)
    simp only [List.setIfInBounds_toArray, List.set_cons_zero, List.set_cons_succ]
    refine wpAnyH_take' (i := 7) (d := 107) (v := ?ra7) rfl rfl (by kernel_rfl) (by kernel_rfl) (by kernel_rfl) (fun _ _ _ h => h) (Or.inl ⟨by rfl, ?ray7⟩) Q0 ?rar7
    case ray7 => (intro w hSw; go_split_ands; go_simp; try with_reducible rfl)
    simp only [List.setIfInBounds_toArray, List.set_cons_zero, List.set_cons_succ]
    refine anyH_take (i := 8) (d := 108) (v := ?ra8) rfl rfl (by kernel_rfl) (by kernel_rfl) (by kernel_rfl) (fun _ _ _ h => h) (Or.inl ⟨by rfl, ?ray8⟩) Q0 ?rar8
    case ray8 => (intro w; go_simp; try with_reducible rfl)
    simp only [List.setIfInBounds_toArray, List.set_cons_zero, List.set_cons_succ]
    refine anyH_take (i := 9) (d := 109) (v := ?ra9) rfl rfl (by kernel_rfl) (by kernel_rfl) (by kernel_rfl) (fun _ _ _ h => h) (Or.inl ⟨by rfl, ?ray9⟩) Q0 ?rar9
    case ray9 => (intro w; go_simp; try with_reducible rfl)
    simp only [List.setIfInBounds_toArray, List.set_cons_zero, List.set_cons_succ]
    refine anyH_take (i := 10) (d := 110) (v := ?ra10) rfl rfl (by kernel_rfl) (by kernel_rfl) (by kernel_rfl) (fun _ _ _ h => h) (Or.inl ⟨by rfl, ?ray10⟩) Q0 ?rar10
    case ray10 => (intro w; go_simp; try with_reducible rfl)
    simp only [List.setIfInBounds_toArray, List.set_cons_zero, List.set_cons_succ]
    refine anyH_take (i := 11) (d := 15) (v := ?ra11) rfl rfl (by kernel_rfl) (by kernel_rfl) (by kernel_rfl) (fun _ _ _ h => h) (Or.inl ⟨by rfl, ?ray11⟩) Q0 ?rar11
    case ray11 => (intro w; go_simp; try with_reducible rfl)
    simp only [List.setIfInBounds_toArray, List.set_cons_zero, List.set_cons_succ]
    refine wpAnyH_done (by kernel_rfl) ?_ _
    go_wp2
    have Q1 : wf.rangeAt w4.heap.size 0 D ∧ TreeAt wf M t g (lows xs) := HQ.out.2
    refine wp_region_held_drew (S := fun W' => W'.rangeAt w4.heap.size 0 D ∧ TreeAt W' M t g (lows xs)) (by kernel_rfl) (show wd.drew.rangeAt w4.heap.size 0 D ∧ TreeAt wd.drew M t g (lows xs) from by rw [Hwf.out]; exact Q1) (fun _ => ?_)
    rw [Hwf.out]
    refine anyH_take (i := 0) (d := 111) (v := ?rb0) rfl rfl (by kernel_rfl) (by kernel_rfl) (by kernel_rfl) (fun _ _ _ h => h) (Or.inl ⟨by rfl, ?rby0⟩) Q1 ?rbr0
    case rby0 => (intro w; go_simp; try with_reducible rfl)
    simp only [List.setIfInBounds_toArray, List.set_cons_zero, List.set_cons_succ]
    refine anyH_load (i := 1) (d := 112) rfl rfl (by kernel_rfl) (by kernel_rfl) (by kernel_rfl) (by rfl) 31 _ rfl w4.heap.size 0 rfl D _ (fun _ h => h.1) Try.underlying31 rfl HD.out.2.2.2.2 (fun _ _ _ h => h) Q1 ?_
    simp only [List.setIfInBounds_toArray, List.set_cons_zero, List.set_cons_succ]
    refine anyH_take (i := 2) (d := 113) (v := ?rb2) rfl rfl (by kernel_rfl) (by kernel_rfl) (by kernel_rfl) (fun _ _ _ h => h) (Or.inl ⟨by rfl, ?rby2⟩) Q1 ?rbr2
    case rby2 => (intro w; go_simp; try with_reducible rfl)
    simp only [List.setIfInBounds_toArray, List.set_cons_zero, List.set_cons_succ]
    refine anyH_call (i := 3) (d := 114) (v := (.int .i64 (m : Int))) rfl rfl (by kernel_rfl) (by kernel_rfl) (by kernel_rfl) (fun _ _ _ h => h) ⟨by rfl, fun W hW => ⟨12, #[.pointer (some ⟨t, 0, none⟩)], ?rby3, by have := tleaves_at hW.2; rw [lows_len, Hx.out.1] at this; exact this⟩⟩ Q1 ?rbr3
    case rby3 => (go_simp; try with_reducible rfl)
    simp only [List.setIfInBounds_toArray, List.set_cons_zero, List.set_cons_succ]
    refine anyH_take (i := 4) (d := 115) (v := ?rb4) rfl rfl (by kernel_rfl) (by kernel_rfl) (by kernel_rfl) (fun _ _ _ h => h) (Or.inl ⟨by rfl, ?rby4⟩) Q1 ?rbr4
    case rby4 => (intro w; go_simp; try with_reducible rfl)
    simp only [List.setIfInBounds_toArray, List.set_cons_zero, List.set_cons_succ]
    refine anyH_take (i := 5) (d := 116) (v := ?rb5) rfl rfl (by kernel_rfl) (by kernel_rfl) (by kernel_rfl) (fun _ _ _ h => h) (Or.inl ⟨by rfl, ?rby5⟩) Q1 ?rbr5
    case rby5 => (intro w; go_simp; try with_reducible rfl)
    simp only [List.setIfInBounds_toArray, List.set_cons_zero, List.set_cons_succ]
    refine anyH_take (i := 6) (d := 117) (v := ?rb6) rfl rfl (by kernel_rfl) (by kernel_rfl) (by kernel_rfl) (fun _ _ _ h => h) (Or.inl ⟨by rfl, ?rby6⟩) Q1 ?rbr6
    case rby6 => (intro w; go_simp; try with_reducible rfl)
    simp only [List.setIfInBounds_toArray, List.set_cons_zero, List.set_cons_succ]
    refine anyH_one (i := 7) (by kernel_rfl) ?_
    refine wpOp_step rfl (fun K hK => ?_)
    go_simp
    refine Hck1.out.mono ?_
    rintro e wb ⟨rfl, hTb, hOb⟩
    have hPo := (HO.out.1.stays ⟨HB2.out.size, fun j hj => HB2.out.block j hj.2⟩).stays ⟨hOb.size, fun j hj => hOb.block j (by have := HB2.out.size; have := hj.2; omega) (Tn.keep (.inl hj))⟩
    have hBx2 := Hx1.out.1.after (Hb0.out.trans ((hTb.bel Hk1.out.2.1).mono Hb0.out.size))
    have hck2 := hTb.check (by decide) (rootD (lows xs)) HD.out.2.2.2.1 i Hi.out AB m1 cB x hBx2 Hx1.out.2.1 Hx1.out.2.2.1 Hx1.out.2.2.2.1 Hx1.out.2.2.2.2.1 (fun j => w2.heap.size ≤ j ∧ j < w8.heap.size) (some ⟨g7, 0, none⟩) np oc ((pf (lows xs) i).set 0 (q.take kj)) hPo HO.out.2.1 HO.out.2.2.1 (fun j hj => ⟨by have := hOb.size; have := HB2.out.size; have := hj.2; omega, .inr (.inl hj)⟩)
    rw [fits_not HO.out.2.2.2.1, HD.out.2.2.1] at hck2
    have Hck2 := Lib.hid hck2
    have hrb := hOb.blk HR2.out (Tn.keep (.inl ⟨H5.out.2.2.1, by have := HO.out.2.2.2.2.size; have := H6z.out; omega⟩))
    have HRb := Lib.hid (And.intro hrb hTb.tree)
    clear hTb hOb hPo hBx2 hck2 hrb Hck1
    refine hK _ _ ⟨⟨HRb.out.1.range, HRb.out.2⟩, ?_⟩
    clear hK K
    refine anyH_take (i := 8) (d := 119) (v := ?rb8) rfl rfl (by kernel_rfl) (by kernel_rfl) (by kernel_rfl) (fun _ _ _ h => h) (Or.inl ⟨by rfl, ?rby8⟩) ⟨HRb.out.1.range, HRb.out.2⟩ ?rbr8
    case rby8 => (intro w; go_simp; try with_reducible rfl)
    simp only [List.setIfInBounds_toArray, List.set_cons_zero, List.set_cons_succ]
    refine anyH_take (i := 9) (d := 120) (v := ?rb9) rfl rfl (by kernel_rfl) (by kernel_rfl) (by kernel_rfl) (fun _ _ _ h => h) (Or.inl ⟨by rfl, ?rby9⟩) ⟨HRb.out.1.range, HRb.out.2⟩ ?rbr9
    case rby9 => (intro w; go_simp; try with_reducible rfl)
    simp only [List.setIfInBounds_toArray, List.set_cons_zero, List.set_cons_succ]
    refine anyH_take (i := 10) (d := 121) (v := ?rb10) rfl rfl (by kernel_rfl) (by kernel_rfl) (by kernel_rfl) (fun _ _ _ h => h) (Or.inl ⟨by rfl, ?rby10⟩) ⟨HRb.out.1.range, HRb.out.2⟩ ?rbr10
    case rby10 => (intro w; go_simp; try with_reducible rfl)
    simp only [List.setIfInBounds_toArray, List.set_cons_zero, List.set_cons_succ]
    refine anyH_load (i := 11) (d := 122) rfl rfl (by kernel_rfl) (by kernel_rfl) (by kernel_rfl) (by rfl) 31 _ rfl w4.heap.size 0 rfl D _ (fun _ h => h.1) Try.underlying31 rfl HD.out.2.2.2.2 (fun _ _ _ h => h) ⟨HRb.out.1.range, HRb.out.2⟩ ?_
    simp only [List.setIfInBounds_toArray, List.set_cons_zero, List.set_cons_succ]
    refine anyH_take (i := 12) (d := 123) (v := ?rb12) rfl rfl (by kernel_rfl) (by kernel_rfl) (by kernel_rfl) (fun _ _ _ h => h) (Or.inl ⟨by rfl, ?rby12⟩) ⟨HRb.out.1.range, HRb.out.2⟩ ?rbr12
    case rby12 => (intro w; go_simp; try with_reducible rfl)
    simp only [List.setIfInBounds_toArray, List.set_cons_zero, List.set_cons_succ]
    refine anyH_call (i := 13) (d := 124) (v := (.int .i64 (m : Int))) rfl rfl (by kernel_rfl) (by kernel_rfl) (by kernel_rfl) (fun _ _ _ h => h) ⟨by rfl, fun W hW => ⟨12, #[.pointer (some ⟨t, 0, none⟩)], ?rby13, by have := tleaves_at hW.2; rw [lows_len, Hx.out.1] at this; exact this⟩⟩ ⟨HRb.out.1.range, HRb.out.2⟩ ?rbr13
    case rby13 => (go_simp; try with_reducible rfl)
    simp only [List.setIfInBounds_toArray, List.set_cons_zero, List.set_cons_succ]
    refine anyH_take (i := 14) (d := 125) (v := ?rb14) rfl rfl (by kernel_rfl) (by kernel_rfl) (by kernel_rfl) (fun _ _ _ h => h) (Or.inl ⟨by rfl, ?rby14⟩) ⟨HRb.out.1.range, HRb.out.2⟩ ?rbr14
    case rby14 => (intro w; go_simp; try with_reducible rfl)
    simp only [List.setIfInBounds_toArray, List.set_cons_zero, List.set_cons_succ]
    refine anyH_take (i := 15) (d := 126) (v := ?rb15) rfl rfl (by kernel_rfl) (by kernel_rfl) (by kernel_rfl) (fun _ _ _ h => h) (Or.inl ⟨by rfl, ?rby15⟩) ⟨HRb.out.1.range, HRb.out.2⟩ ?rbr15
    case rby15 => (intro w; go_simp; try with_reducible rfl)
    simp only [List.setIfInBounds_toArray, List.set_cons_zero, List.set_cons_succ]
    refine anyH_take (i := 16) (d := 127) (v := ?rb16) rfl rfl (by kernel_rfl) (by kernel_rfl) (by kernel_rfl) (fun _ _ _ h => h) (Or.inl ⟨by rfl, ?rby16⟩) ⟨HRb.out.1.range, HRb.out.2⟩ ?rbr16
    case rby16 => (intro w; go_simp; try with_reducible rfl)
    simp only [List.setIfInBounds_toArray, List.set_cons_zero, List.set_cons_succ]
    refine anyH_one (i := 17) (by kernel_rfl) ?_
    refine wpOp_step rfl (fun K hK => ?_)
    go_simp
    refine Hck2.out.mono ?_
    rintro e wc ⟨rfl, hTc, hOc⟩
    have HTc := Lib.hid hTc
    have HRc := Lib.hid (And.intro (hOc.blk HRb.out.1 (Tn.keep (.inl ⟨H5.out.2.2.1, by have := HO.out.2.2.2.2.size; have := H6z.out; omega⟩))) hTc.tree)
    clear hTc hOc Hck2
    refine hK _ _ ⟨⟨HRc.out.1.range, HRc.out.2⟩, ?_⟩
    clear hK K
    refine anyH_take (i := 18) (d := 129) (v := ?rb18) rfl rfl (by kernel_rfl) (by kernel_rfl) (by kernel_rfl) (fun _ _ _ h => h) (Or.inl ⟨by rfl, ?rby18⟩) ⟨HRc.out.1.range, HRc.out.2⟩ ?rbr18
    case rby18 => (intro w; go_simp; try with_reducible rfl)
    simp only [List.setIfInBounds_toArray, List.set_cons_zero, List.set_cons_succ]
    refine anyH_take (i := 19) (d := 130) (v := ?rb19) rfl rfl (by kernel_rfl) (by kernel_rfl) (by kernel_rfl) (fun _ _ _ h => h) (Or.inl ⟨by rfl, ?rby19⟩) ⟨HRc.out.1.range, HRc.out.2⟩ ?rbr19
    case rby19 => (intro w; go_simp; try with_reducible rfl)
    simp only [List.setIfInBounds_toArray, List.set_cons_zero, List.set_cons_succ]
    refine anyH_take (i := 20) (d := 6) (v := ?rb20) rfl rfl (by kernel_rfl) (by kernel_rfl) (by kernel_rfl) (fun _ _ _ h => h) (Or.inl ⟨by rfl, ?rby20⟩) ⟨HRc.out.1.range, HRc.out.2⟩ ?rbr20
    case rby20 => (intro w; go_simp; try with_reducible rfl)
    simp only [List.setIfInBounds_toArray, List.set_cons_zero, List.set_cons_succ]
    refine wpAnyH_done (by kernel_rfl) ?_ _
    go_wp2
    go_ret
    exact ⟨rfl, Hb0.out.trans ((HTc.out.bel Hk1.out.2.1).mono Hb0.out.size)⟩

end Go.Proofs.Ytcamgldilknanaa.proofShape
