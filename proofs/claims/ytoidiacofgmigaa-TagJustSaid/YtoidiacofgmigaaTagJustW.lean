/-
  For all lists of deeds l (60 at most are done), all pairs of numbers k and all bytes d: what Check tells was tagged, by that writer, for that reader or for everybody; TagJust returns true; no condition.
-/
import Derived.Test.YtoidiacofgmigaaTwo
import Derived.Test.YtoidiacofgmigaaMade
import Derived.Test.YtoidiacofgmigaaJustP
import Derived.Deep.RegionHeld3
import Derived.Deep.RegionWith
import Derived.Deep.DeepCutAuto
namespace Go.Proofs.Ytoidiacofgmigaa.tagJust
open Go.ChangeShapes Go.WideShapes Go.ChangeAt Go.RowKit
set_option linter.unusedVariables false

set_option maxRecDepth 100000 in
set_option maxHeartbeats 6400000 in
theorem walk (Al : Option Addr) (nl cl : Nat) (l : List DeedL) (k0 k1 : Int) (d : Int) (w : World) (hl : ArgD w Al nl cl l) (hk : Wf k0 ∧ Wf k1) (hd : (Lit.int .u8 d).wf = true) :
    Calls Try.prog 4 #[.slice Al nl cl, .agg #[.int .i64 k0, .int .i64 k1], .int .u8 d] w fun e w' => e = .returned (.bool true) ∧ Below w.heap.size w w' := by
  have hdb := bounds_u8 hd
  obtain ⟨d, rfl⟩ : ∃ q : UInt8, d = (q.toNat : Int) := ⟨_, wf_u8 hd⟩
  obtain ⟨D, hD, hDl, hD1, hdig⟩ := ku_digest d w
  have HD := Lib.hid hD
  have Hdig := Lib.hid hdig
  have HA := Lib.hid hl
  have hcm := hl.2.2.1
  unfold maxLen at hcm
  have hnc := hl.2.1
  obtain ⟨hk0, hk1⟩ := hk
  have Hk := Lib.hid (And.intro hk0 hk1)
  clear hD hdig hl hd hdb hk0 hk1
  have hnot : ∀ (x : Bool) (w : World), (Op.unary .not (.bool x)).run Try.prog w = .ok (.bool (!x)) w := fun _ _ => rfl
  have hba : Below w.heap.size w (w.alloc (.cells #[.int .i64 k0, .int .i64 k1] 43)) := (Below.refl _ _).alloc (Nat.le_refl _) _
  have hBa : Blk (w.alloc (.cells #[.int .i64 k0, .int .i64 k1] 43)) w.heap.size 43 [.int .i64 k0, .int .i64 k1] := Blk.new rfl rfl
  have Hba := Lib.hid (And.intro hba hBa)
  clear hba hBa
  go_enter Try.func4, Try.ntmps4
  go_wp2_with (go_at_call 27; refine (works4_any _).mono ?_; rintro e w0 ⟨rfl, hb0⟩)
  have hB0 := Hba.out.2.below hb0 Hba.out.2.lt
  have H0 := Lib.hid (Hba.out.1.trans (hb0.mono Hba.out.1.size))
  have a0 : w0.cell? ⟨w.heap.size, 0, none⟩ = some (.int .i64 k0) := hB0.cell (i := 0) rfl
  have a1 : w0.cell? ⟨w.heap.size, 1, none⟩ = some (.int .i64 k1) := hB0.cell (i := 1) rfl
  have a0d : w0.drew.cell? ⟨w.heap.size, 0, none⟩ = some (.int .i64 k0) := hB0.cell (i := 0) rfl
  have a1d : w0.drew.cell? ⟨w.heap.size, 1, none⟩ = some (.int .i64 k1) := hB0.cell (i := 1) rfl
  clear hb0 hB0
  go_quiet (fail)
  clear a0 a1 a0d a1d
  go_wp2
  go_loopw [9, 10] (fun bv v wr => ∃ j : Nat, j ≤ nl ∧ j ≤ 60 ∧ v = .int .i64 j ∧ bv = .bool (wantL (l.take j) k0 k1 d) ∧ Below w.heap.size w wr) (fun _ v _ => 60 - (intOf v).toNat)
  case atStart => exact ⟨0, Nat.zero_le _, by omega, rfl, rfl, by exact below_drewN H0.out _⟩
  case round =>
    obtain ⟨j, hj, hj60, rfl, rfl, hB⟩ := hrel
    have hi0 : (0 : Int) ≤ j := by omega
    by_cases hlt : j < nl
    · have hi1 : (j : Int) < nl := by omega
      by_cases hlt6 : j < 60
      · have hi6 : (j : Int) < 60 := by omega
        have hjl : j < l.length := by rw [HA.out.1]; exact hlt
        obtain ⟨b, off, rfl, hlow, hdeed⟩ := HA.out.at_ hjl
        have hsucc := wantL_succ l j hjl k0 k1 d
        obtain ⟨x, hx⟩ : ∃ x, l[j] = x := ⟨_, rfl⟩
        rw [hx] at hdeed hsucc
        have hdw := hdeed.after hB hlow
        obtain ⟨⟨hxk, hxf, hxt, _, _⟩, c0, c1, c2, ⟨Ar, nr, cr, c3, hAr⟩, c4, c5, c6⟩ := hdw
        have hbr := bring3_any x.kind
        have Hx := Lib.hid (And.intro hxk hAr)
        have HB := Lib.hid hB
        have c4' : wr.cell? ⟨b, off + j * 7 + 4, none⟩ = some (.int .u8 (x.d.toNat : Int)) := c4
        clear hdeed hxk hxf hxt hAr hB hlow hx c4
        obtain ⟨z, hz⟩ : ∃ z, wantL (l.take j) k0 k1 d = z := ⟨_, rfl⟩
        rw [hz] at hsucc ⊢
        clear hz
        by_cases hf : x.frm = k0
        rotate_left
        · have hs : wantL (l.take (j + 1)) k0 k1 d = z := by rw [hsucc]; simp [givesB, hf]
          have Hs := Lib.hid hs
          have hfb : (x.frm == k0) = false := by simp [hf]
          clear hs hsucc hbr
          go_wp2
          all_goals (refine ⟨⟨j + 1, by omega, by omega, by go_num, by rw [Hs.out], HB.out.alloc HB.out.size _⟩, by simp [intOf]; omega⟩)
        by_cases hd : x.d = d
        rotate_left
        · have hs : wantL (l.take (j + 1)) k0 k1 d = z := by rw [hsucc]; simp [givesB, hd]
          have Hs := Lib.hid hs
          have hdn : ¬ ((x.d.toNat : Int) = (d.toNat : Int)) := fun e => hd (UInt8.toNat_inj.1 (by omega))
          have hdb : ((x.d.toNat : Int) == (d.toNat : Int)) = false := by simp only [beq_eq_false_iff_ne]; exact hdn
          clear hs hsucc hbr
          go_wp2
          all_goals (refine ⟨⟨j + 1, by omega, by omega, by go_num, by rw [Hs.out], HB.out.alloc HB.out.size _⟩, by simp [intOf]; omega⟩)
        by_cases hn1 : 1 ≤ x.frm
        rotate_left
        · have hs : wantL (l.take (j + 1)) k0 k1 d = z := by rw [hsucc]; simp [givesB, isN, hn1]
          have Hs := Lib.hid hs
          clear hs hsucc hbr
          subst hf
          subst hd
          go_wp2
          all_goals (refine ⟨⟨j + 1, by omega, by omega, by go_num, by rw [Hs.out], HB.out.alloc HB.out.size _⟩, by simp [intOf]; omega⟩)
        by_cases hn2 : x.frm ≤ 34
        rotate_left
        · have hs : wantL (l.take (j + 1)) k0 k1 d = z := by rw [hsucc]; simp [givesB, isN, hn2]
          have Hs := Lib.hid hs
          clear hs hsucc hbr
          subst hf
          subst hd
          go_wp2
          all_goals (refine ⟨⟨j + 1, by omega, by omega, by go_num, by rw [Hs.out], HB.out.alloc HB.out.size _⟩, by simp [intOf]; omega⟩)
        have hgiv : givesB x k0 k1 d = (if x.kind % 3 = 0 then (decide (x.to_ = k1) || decide (x.to_ = 0)) && (decide (0 ≤ x.to_) && decide (x.to_ ≤ 34)) else if x.kind % 3 = 1 then allN x.rs && x.rs.any (fun r => decide (r = k1)) else false) := by
          unfold givesB isN; rw [hf] at hn1 hn2; simp [hf, hd, hn1, hn2]
        rw [hgiv] at hsucc
        clear hgiv
        subst hf
        subst hd
        obtain ⟨r, hr⟩ : ∃ r, x.kind % 3 = r := ⟨_, rfl⟩
        rw [hr] at hsucc
        have hbr' := fun w' => hbr w' Hx.out.1
        rw [hr] at hbr'
        have Hbr := Lib.hid hbr'
        clear hbr hbr' hr
        by_cases h0 : r = 0
        · subst h0
          rw [if_pos rfl] at hsucc
          cases z with
          | true =>
            have hs : wantL (l.take (j + 1)) x.frm k1 x.d = true := by rw [hsucc]; rfl
            have Hs := Lib.hid hs
            clear hs hsucc
            go_wp2_with (go_at_call 15; refine (Hbr.out _).mono ?_; rintro e wq ⟨rfl, rfl⟩)
            all_goals (refine ⟨⟨j + 1, by omega, by omega, by go_num, by rw [Hs.out], HB.out.alloc HB.out.size _⟩, by simp [intOf]; omega⟩)
          | false =>
            by_cases t1 : x.to_ = k1 <;> by_cases t2 : x.to_ = 0 <;> by_cases t3 : 0 ≤ x.to_ <;> by_cases t4 : x.to_ ≤ 34 <;>
            (have Hs := Lib.hid hsucc
             clear hsucc
             go_wp2_with (go_at_call 15; refine (Hbr.out _).mono ?_; rintro e wq ⟨rfl, rfl⟩)
             all_goals (first | (exfalso; omega) | (refine ⟨⟨j + 1, by omega, by omega, by go_num, ?_, HB.out.alloc HB.out.size _⟩, by simp [intOf]; omega⟩; rw [Hs.out]; congr 1; rw [Bool.eq_iff_iff]; first | (simp [t1, t2, t3, t4]; done) | (simp; omega))))
        rw [if_neg h0] at hsucc
        by_cases h1 : r = 1
        · subst h1
          rw [if_pos rfl] at hsucc
          have Hs := Lib.hid hsucc
          clear hsucc
          go_wp2_with (go_at_call 15; refine (Hbr.out _).mono ?_; rintro e wq ⟨rfl, rfl⟩)
          have hb1 := HB.out.alloc HB.out.size (.cells #[.int .i64 x.kind, .int .i64 x.frm, .int .i64 x.to_, .slice Ar nr cr, .int .u8 (x.d.toNat : Int), .int .i64 x.askF, .int .i64 x.askT] 32)
          have hA1 := Hx.out.2.after ((Below.refl wr.heap.size wr).alloc (Nat.le_refl _) (.cells #[.int .i64 x.kind, .int .i64 x.frm, .int .i64 x.to_, .slice Ar nr cr, .int .u8 (x.d.toNat : Int), .int .i64 x.askF, .int .i64 x.askT] 32))
          have e3 : (wr.alloc (.cells #[.int .i64 x.kind, .int .i64 x.frm, .int .i64 x.to_, .slice Ar nr cr, .int .u8 (x.d.toNat : Int), .int .i64 x.askF, .int .i64 x.askT] 32)).cell? ⟨wr.heap.size, 3, none⟩ = some (.slice Ar nr cr) := (Blk.new (l := [.int .i64 x.kind, .int .i64 x.frm, .int .i64 x.to_, .slice Ar nr cr, .int .u8 (x.d.toNat : Int), .int .i64 x.askF, .int .i64 x.askT]) rfl rfl : Blk (wr.alloc (.cells #[.int .i64 x.kind, .int .i64 x.frm, .int .i64 x.to_, .slice Ar nr cr, .int .u8 (x.d.toNat : Int), .int .i64 x.askF, .int .i64 x.askT] 32)) wr.heap.size 32 _).cell rfl
          generalize hW1 : (wr.alloc (.cells #[.int .i64 x.kind, .int .i64 x.frm, .int .i64 x.to_, .slice Ar nr cr, .int .u8 (x.d.toNat : Int), .int .i64 x.askF, .int .i64 x.askT] 32)) = W1 at *
          have H1 := Lib.hid (And.intro hb1 hA1)
          have hAcm := hA1.2.2.1
          unfold maxLen at hAcm
          have hAnc := hA1.2.1
          clear hb1 hA1 hW1 c0 c1 c2 c3 c5 c6 c4'
          go_loopw [13, 14, 15] (fun fv iv v w2 => ∃ q : Nat, q ≤ nr ∧ v = .int .i64 q ∧ fv = .bool (decide (nr ≤ 34) && (x.rs.take q).all isN) ∧ iv = .bool ((x.rs.take q).any fun r => decide (r = k1)) ∧ w2 = W1) (fun _ _ v _ => nr - (intOf v).toNat)
          case atStart => exact ⟨0, Nat.zero_le _, rfl, by simp; omega, by simp, rfl⟩
          case round =>
            obtain ⟨q, hq, rfl, rfl, rfl, rfl⟩ := hrel
            have hq0 : (0 : Int) ≤ q := by omega
            by_cases hqn : q < nr
            · have hq1 : (q : Int) < nr := by omega
              have hql : q < x.rs.length := by rw [H1.out.2.1]; exact hqn
              obtain ⟨b2, off2, rfl, hb2, hcells⟩ := H1.out.2.2.2.2.1.at_ hql
              have hcy := hcells q hql
              have h3 : (x.rs.take (q + 1)).all isN = ((x.rs.take q).all isN && isN x.rs[q]) := by rw [List.take_succ_eq_append_getElem hql, List.all_append]; simp
              have h4 : ((x.rs.take (q + 1)).any fun r => decide (r = k1)) = (((x.rs.take q).any fun r => decide (r = k1)) || decide (x.rs[q] = k1)) := by rw [List.take_succ_eq_append_getElem hql, List.any_append]; simp
              obtain ⟨y, hy⟩ : ∃ y, x.rs[q] = y := ⟨_, rfl⟩
              rw [hy] at hcy h3 h4
              have h3' : (decide (nr ≤ 34) && (x.rs.take (q + 1)).all isN) = ((decide (nr ≤ 34) && (x.rs.take q).all isN) && isN y) := by rw [h3, Bool.and_assoc]
              obtain ⟨fb, hfb⟩ : ∃ fb, (decide (nr ≤ 34) && (x.rs.take q).all isN) = fb := ⟨_, rfl⟩
              obtain ⟨ib, hib⟩ : ∃ ib, ((x.rs.take q).any fun r => decide (r = k1)) = ib := ⟨_, rfl⟩
              rw [hfb] at h3' ⊢
              rw [hib] at h4 ⊢
              have H3 := Lib.hid (And.intro h3' h4)
              clear h3 h4 h3' hfb hib hcells hb2 hy
              cases fb <;> cases ib <;>
              (go_wp2
               all_goals (first | (exfalso; omega) | (refine ⟨⟨q + 1, by omega, by go_num, ?_, ?_, trivial⟩, by simp [intOf]; omega⟩
                                                      · congr 1; refine Eq.trans ?_ H3.out.1.symm; first | rfl | (rw [Bool.eq_iff_iff]; first | (simp [isN]; done) | (simp [isN]; omega))
                                                      · congr 1; refine Eq.trans ?_ H3.out.2.symm; first | rfl | (rw [Bool.eq_iff_iff]; first | (simp; done) | (simp; omega)))))
            · have hq1 : ¬ (q : Int) < nr := by omega
              have htk : x.rs.take q = x.rs := List.take_of_length_le (by rw [H1.out.2.1]; omega)
              have hal : (decide (nr ≤ 34) && (x.rs.take q).all isN) = allN x.rs := by rw [htk]; unfold allN; rw [H1.out.2.1]
              rw [hal, htk]
              obtain ⟨fb, hfb⟩ : ∃ fb, allN x.rs = fb := ⟨_, rfl⟩
              obtain ⟨ib, hib⟩ : ∃ ib, (x.rs.any fun r => decide (r = k1)) = ib := ⟨_, rfl⟩
              rw [hfb, hib] at Hs ⊢
              clear hfb hib hal htk
              cases z <;> cases fb <;> cases ib <;>
              (go_wp2
               all_goals (refine ⟨⟨j + 1, by omega, by omega, by go_num, by rw [Hs.out]; rfl, H1.out.1⟩, by simp [intOf]; omega⟩))
        · rw [if_neg h1, Bool.or_false] at hsucc
          have Hs := Lib.hid hsucc
          have hb0 : (r == 0) = false := by simp [h0]
          have hb1 : (r == 1) = false := by simp [h1]
          clear hsucc
          go_wp2_with (go_at_call 15; refine (Hbr.out _).mono ?_; rintro e wq ⟨rfl, rfl⟩)
          all_goals (refine ⟨⟨j + 1, by omega, by omega, by go_num, by rw [Hs.out], HB.out.alloc HB.out.size _⟩, by simp [intOf]; omega⟩)
      · have hi6 : ¬ (j : Int) < 60 := by omega
        have hj6 : j = 60 := by omega
        have hwant : chk (madeL (l.take 60)) k0 k1 (dg d) = wantL (l.take j) k0 k1 d := by rw [want_iff, hj6]
        obtain ⟨z, hz⟩ : ∃ z, wantL (l.take j) k0 k1 d = z := ⟨_, rfl⟩
        rw [hz] at hwant ⊢
        have Hw := Lib.hid hwant
        have HB := Lib.hid hB
        clear hwant hz hB
        go_wp2_with fail
        refine (made_any Al nl cl l wr (HA.out.after HB.out)).mono ?_
        rintro e w2 ⟨g, m, rfl, hg, hm, hL, hb⟩
        have hs1 := HB.out.size
        have hK2 : Ku w w2 g m (madeL (l.take 60)) 0 := ⟨hL, by omega, by omega, HB.out.trans (hb.mono hs1)⟩
        have K2 := Lib.hid hK2
        clear hK2
        clear hg hm hL hb hs1 HB
        go_wp2_with fail
        refine (Hdig.out w2).mono ?_
        rintro e w3 ⟨rfl, hb3⟩
        have K3 := Lib.hid (K2.out.below hb3)
        clear hb3 K2
        go_wp2_with fail
        refine (ku_checkE k0 k1 (dg d) D z K3.out (by decide) Hk.out.1 Hk.out.2 (dg_len d) HD.out Hw.out).mono ?_
        rintro e w4 ⟨rfl, hk4, ho4⟩
        have K4 := Lib.hid hk4.bel
        clear hk4 ho4 K3
        go_wp2_with fail
        go_ret
        exact ⟨by cases z <;> rfl, K4.out⟩
    · have hi1 : ¬ (j : Int) < nl := by omega
      have hall : l.take j = l.take 60 := by
        have := HA.out.1
        rw [List.take_of_length_le (by omega), List.take_of_length_le (by omega)]
      have hwant : chk (madeL (l.take 60)) k0 k1 (dg d) = wantL (l.take j) k0 k1 d := by rw [want_iff, hall]
      obtain ⟨z, hz⟩ : ∃ z, wantL (l.take j) k0 k1 d = z := ⟨_, rfl⟩
      rw [hz] at hwant ⊢
      have Hw := Lib.hid hwant
      have HB := Lib.hid hB
      clear hwant hz hB
      go_wp2_with fail
      refine (made_any Al nl cl l wr (HA.out.after HB.out)).mono ?_
      rintro e w2 ⟨g, m, rfl, hg, hm, hL, hb⟩
      have hs1 := HB.out.size
      have hK2 : Ku w w2 g m (madeL (l.take 60)) 0 := ⟨hL, by omega, by omega, HB.out.trans (hb.mono hs1)⟩
      have K2 := Lib.hid hK2
      clear hK2
      clear hg hm hL hb hs1 HB
      go_wp2_with fail
      refine (Hdig.out w2).mono ?_
      rintro e w3 ⟨rfl, hb3⟩
      have K3 := Lib.hid (K2.out.below hb3)
      clear hb3 K2
      go_wp2_with fail
      refine (ku_checkE k0 k1 (dg d) D z K3.out (by decide) Hk.out.1 Hk.out.2 (dg_len d) HD.out Hw.out).mono ?_
      rintro e w4 ⟨rfl, hk4, ho4⟩
      have K4 := Lib.hid hk4.bel
      clear hk4 ho4 K3
      go_wp2_with fail
      go_ret
      exact ⟨by cases z <;> rfl, K4.out⟩

end Go.Proofs.Ytoidiacofgmigaa.tagJust
