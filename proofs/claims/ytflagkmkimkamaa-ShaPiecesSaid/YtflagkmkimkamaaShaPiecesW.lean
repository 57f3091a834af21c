/-
  For all pieces (64 at most, of 1000 bytes each): a hash answers as the document's own answer does; ShaPieces returns true; no condition.
-/
import Derived.Test.YtflagkmkimkamaaOpen
import Derived.Test.YtflagkmkimkamaaRefOf
import Derived.Test.YtflagkmkimkamaaApi
import Derived.Test.YtflagkmkimkamaaHex
import Derived.Test.YtflagkmkimkamaaAnyOrderH
import Derived.Test.YtflagkmkimkamaaPieces
import Derived.Test.YtflagkmkimkamaaSt
import Derived.Test.YtflagkmkimkamaaPieces2
import Derived.Deep.RegionHeld3
import Derived.Deep.RegionWith
import Derived.Deep.DeepCutAuto
namespace Go.Proofs.Ytflagkmkimkamaa.shaPieces
open Go.ChangeShapes Go.WideShapes Go.ChangeAt Go.RowKit
set_option linter.unusedVariables false

set_option maxRecDepth 100000 in
set_option maxHeartbeats 3200000 in
theorem walk (Aq : Option Addr) (nq cq : Nat) (q : List (List UInt8)) (w : World) (hq : ArgL w Aq nq cq q) :
    Calls Try.prog 3 #[.slice Aq nq cq] w fun e w' => e = .returned (.bool true) ∧ Below w.heap.size w w' := by
  obtain ⟨hqn, hqc, hqm, hqL⟩ := hq
  unfold maxLen at hqm
  have Hl := Lib.hid (And.intro hqn (And.intro hqc hqL))
  have hn63 : nq ≤ 9223372036854775807 := by omega
  clear hqn hqL
  have hnot : ∀ (x : Bool) (w : World), (Op.unary .not (.bool x)).run Try.prog w = .ok (.bool (!x)) w := fun _ _ => rfl
  go_enter Try.func3, Try.ntmps3
  go_wp2_with fail
  refine (new_any _).mono ?_
  rintro e w1 ⟨g, rfl, hgg, hH1, b1⟩
  have H1 := Lib.hid (And.intro hgg (And.intro hH1 b1))
  clear hgg hH1 b1
  go_wp2_with fail
  refine (new_any _).mono ?_
  rintro e w2 ⟨h, rfl, hhh, hH2, b2⟩
  have hgl := H1.out.2.1.lt
  have s2 : St w w2 g h [] [] [] := ⟨H1.out.2.1.below b2, hH2, H1.out.1, by have := H1.out.2.2.size; omega, by omega, H1.out.2.2.trans (b2.mono H1.out.2.2.size), fun p hp => absurd hp (by simp)⟩
  have S2 := Lib.hid s2
  clear s2 hH2 b2 hhh hgl
  go_wp2_with fail
  go_loopw [5, 6] (fun v i wr => ∃ j : Nat, j ≤ nq ∧ j ≤ 64 ∧ i = .int .i64 j ∧ ∃ all lo : List UInt8, all = allB q j ∧ all.length ≤ 1000 * j ∧ lo.length = j ∧ Mine wr w2.heap.size 5 v all ∧ w2.heap.size ≤ wr.heap.size ∧ St w wr g h all lo []) (fun _ i _ => 64 - (intOf i).toNat)
  case atStart => exact ⟨0, Nat.zero_le _, by omega, rfl, [], [], rfl, by simp, rfl, ⟨rfl, Or.inl ⟨rfl, rfl⟩⟩, Nat.le_refl _, S2.out⟩
  case round =>
    obtain ⟨j, hj, hj64, rfl, all, lo, hall, hal, hlol, hma, hsz, hst⟩ := hrel
    obtain ⟨Aa, ca, rfl, hca, hcma, hBa⟩ := hma.form
    have hi0 : (0 : Int) ≤ j := by omega
    have hi64 : (j : Int) ≤ 64 := by omega
    have hnx : Below w.heap.size w wr := hst.2.2.2.2.2.1
    by_cases hin : j < nq ∧ j < 64
    · obtain ⟨hlt, hl4⟩ := hin
      have hi1 : (j : Int) < nq := by omega
      have hi2 : (j : Int) < 64 := by omega
      have hjl : j < q.length := by rw [Hl.out.1]; exact hlt
      obtain ⟨b, off, Aj, cj, rfl, hb, hcell, hlx, hcx, hBx⟩ := Hl.out.2.2.at_ hjl
      have hcw := (hnx.cell hb).trans hcell
      obtain ⟨x, hx⟩ : ∃ x, q[j] = x := ⟨_, rfl⟩
      rw [hx] at hcell hcw hlx hBx
      obtain ⟨nx, hnx'⟩ : ∃ nx, x.length = nx := ⟨_, rfl⟩
      rw [hnx'] at hcell hcw hlx
      obtain ⟨m, hmm, hy, hm, hmc, hBy, hmin, hcut⟩ := cutL hnx' hlx hcx hBx
      obtain ⟨y, hyx⟩ : ∃ y, x.take 1000 = y := ⟨_, rfl⟩
      rw [hyx] at hy hBy
      clear hmm
      have H := Lib.hid (And.intro hst (And.intro hma (And.intro hsz (And.intro hBa (And.intro hBx (And.intro hcell (And.intro hnx (And.intro hBy (And.intro hy hcx)))))))))
      have hsucc : allB q (j + 1) = all ++ y := by rw [allB_succ q j hjl, hall, hx, hyx]
      have Hsucc := Lib.hid hsucc
      clear hst hma hBa hBx hcell hnx hsz hx hBy hy hall hsucc hyx
      go_upto_region 6 with fail
      go_cut [7] (fun p wx => p = .slice Aj m cj ∧ wx = wr.drew)
      case first =>
        go_region_with fail
        all_goals
          go_wp2_with fail
          go_meet
          exact ⟨rfl, rfl⟩
      case rest =>
        obtain ⟨rfl, rfl⟩ := hcut
        have st1 : St w wr.drew g h all lo [] := H.out.1.below (Below.refl _ _).drew
        have ma1 : Mine wr.drew w2.heap.size 5 (.slice Aa all.length ca) all := H.out.2.1
        have By1 : Bs wr.drew Aj y := H.out.2.2.2.2.2.2.2.1.on st1.2.2.2.2.2.1
        have hcp := copyBytes Aj cj m y wr.drew By1 H.out.2.2.2.2.2.2.2.2.1 (by omega)
        have Hcp := Lib.hid hcp
        have H2 := Lib.hid (And.intro st1 (And.intro ma1 By1))
        clear hcp st1 ma1 By1 hmin hcut hcw
        go_wp2_with fail
        refine Hcp.out.mono ?_
        rintro e w3 ⟨v3, rfl, hN3⟩
        obtain ⟨A3, c3, rfl, hc3, hcm3, hB3⟩ := hN3.form
        have st3 : St w w3 g h all lo [] := H2.out.1.below hN3.2
        have Hj := Lib.hid hj64
        have z3 := hN3.2.size
        have hh3 : h < w3.heap.size := st3.2.1.lt
        obtain ⟨xb, hxb⟩ : ∃ xb : UInt8, Value.int .u8 (j : Int) = cb xb := ⟨UInt8.ofNat j, by rw [← cb_mod]; congr 1; omega⟩
        have hwo := write_any h lo [xb] (some ⟨w3.heap.size, 0, none⟩) 1 1 (w3.alloc (.cells #[cb xb] 5)) rfl (Nat.le_refl _) (by unfold maxLen; omega) (by omega) (st3.2.1.alloc _) (Bs.made _ _ _ _ _ rfl) (fun _ a ha => by cases ha; show w3.heap.size ≠ h; omega)
        have Hwo := Lib.hid hwo
        have H3 := Lib.hid (And.intro st3 (And.intro hN3 hB3))
        have Hxb := Lib.hid hxb
        clear hwo st3 hN3 hB3 hxb
        go_wp2_with fail
        rw [Hxb.out]
        refine Hwo.out.mono ?_
        rintro e w4 ⟨rfl, hH4, bu4⟩
        have st4 : St w w4 g h all (lo ++ [xb]) [] := (H3.out.1.below ((Below.refl _ _).alloc (Nat.le_refl _) (.cells #[cb xb] 5))).touched2 bu4 hH4
        have hgw : g < wr.heap.size := H.out.1.1.lt
        have hhw : h < wr.heap.size := H.out.1.2.1.lt
        have hga : w.heap.size ≤ g := H.out.1.2.2.1
        have hha : w.heap.size ≤ h := H.out.1.2.2.2.1
        have ga2 : g < w2.heap.size := S2.out.1.lt
        have ha2 : h < w2.heap.size := S2.out.2.1.lt
        have hal1 : Below w3.heap.size w3 (w3.alloc (.cells #[cb xb] 5)) := (Below.refl _ _).alloc (Nat.le_refl _) _
        have cp3 : Mine (w3.alloc (.cells #[cb xb] 5)) wr.drew.heap.size 5 (.slice A3 y.length c3) y := H3.out.2.1.1.after hal1
        have ma3 : Mine (w3.alloc (.cells #[cb xb] 5)) w2.heap.size 5 (.slice Aa all.length ca) all := (H2.out.2.1.after H3.out.2.1.2).after hal1
        have cp4 : Mine w4 wr.drew.heap.size 5 (.slice A3 y.length c3) y := cp3.far bu4 (fun b hb e => by have := (cp3.lt_ hb).1; injection e with e; have : wr.drew.heap.size = wr.heap.size := rfl; omega)
        have ma4 : Mine w4 w2.heap.size 5 (.slice Aa all.length ca) all := ma3.far bu4 (fun b hb e => by have := (ma3.lt_ hb).1; injection e with e; omega)
        have hs4 : wr.heap.size ≤ w4.heap.size := by
          have h1 : wr.heap.size ≤ w3.heap.size := z3
          have h2 := hal1.size
          have h3 := bu4.size
          omega
        have Hs4 := Lib.hid hs4
        have hab : ∀ b, (Value.slice Aa all.length ca).ownBlock = some b → w2.heap.size ≤ b ∧ b < wr.heap.size := fun b hb => H2.out.2.1.lt_ hb
        have hBy0 : Bs wr Aj y := H.out.2.2.2.2.2.2.2.1.on H.out.1.bel
        obtain ⟨A4, c4, e4, hc4, hcm4, hB4⟩ := cp4.form
        injection e4 with e41 e42 e43
        subst e41; subst e43
        have hym : y.length = m := H.out.2.2.2.2.2.2.2.2.1
        rw [hym] at cp4 hc4
        have hw9 := write_any g all y A3 m c3 w4 hym hc4 hcm4 (by omega) st4.1 hB4 (cp4.away_ (show g < wr.heap.size from hgw))
        have Hw9 := Lib.hid hw9
        have H4 := Lib.hid (And.intro st4 (And.intro cp4 (And.intro ma4 (And.intro H.out.2.2.2.2.2.2.2.1 (And.intro hab (And.intro (show wr.drew.heap.size = wr.heap.size from rfl) (And.intro hc4 hcm4)))))))
        have Hgh := Lib.hid (And.intro hgw (And.intro hhw (And.intro hga (And.intro hha (And.intro ga2 ha2)))))
        have Hym := Lib.hid hym
        clear hw9 st4 cp3 cp4 ma3 ma4 hB4 hal1 hBy0 hab hH4 bu4 hgw hhw hga hha ga2 ha2 hc4 hcm4 Hwo
        go_wp2_with fail
        refine Hw9.out.mono ?_
        rintro e w5 ⟨rfl, hH5, bu5⟩
        dsimp only
        go_wp2_with fail
        have st5 : St w w5 g h (all ++ y) (lo ++ [xb]) [] := H4.out.1.touched1 bu5 hH5
        have cp5 := H4.out.2.1.far bu5 (fun b hb e => by have := (H4.out.2.1.lt_ hb).1; have := H4.out.2.2.2.2.2.1; have := Hgh.out.1; injection e with e; omega)
        have ma5 := H4.out.2.2.1.far bu5 (fun b hb e => by have := (H4.out.2.2.1.lt_ hb).1; have := Hgh.out.2.2.2.2.1; injection e with e; omega)
        obtain ⟨A5, c5, e5, hc5, hcm5, hB5⟩ := cp5.form
        injection e5 with e51 e52 e53
        clear e52
        subst e51
        subst e53
        have heq := eqBytes A3 Aj c3 cj m m y y w5 hB5 (H4.out.2.2.2.1.on st5.bel) hym hym (by unfold maxLen; omega) (by unfold maxLen; omega)
        rw [beq_self_eq_true] at heq
        have Heq := Lib.hid heq
        have hs5 : wr.heap.size ≤ w5.heap.size := Nat.le_trans Hs4.out bu5.size
        have H5 := Lib.hid (And.intro st5 (And.intro cp5 (And.intro ma5 hs5)))
        have HBy := Lib.hid H4.out.2.2.2.1
        have Hab := Lib.hid H4.out.2.2.2.2.1
        clear st5 cp5 ma5 hs5 heq hB5 hc5 hcm5 hH5 bu5 H3 H2 Hxb
        refine Heq.out.mono ?_
        rintro e w6 ⟨rfl, hb6⟩
        dsimp only
        go_wp2_with fail
        have H6 := Lib.hid (And.intro (H5.out.1.below hb6) (And.intro (H5.out.2.1.after hb6) (And.intro (H5.out.2.2.1.after hb6) (Nat.le_trans H5.out.2.2.2 hb6.size))))
        clear hb6 H5 Heq Hw9 H4 Hs4
        have hm63 : m ≤ 9223372036854775807 := by omega
        obtain ⟨B0, hB0⟩ : ∃ B0, wr.heap.size = B0 := ⟨_, rfl⟩
        have HabB := Lib.hid (fun b hb => (by have := Hab.out b hb; omega : w2.heap.size ≤ b ∧ b < B0))
        have HghB := Lib.hid (by have := Hgh.out; omega : g < B0 ∧ h < B0 ∧ w.heap.size ≤ g ∧ w.heap.size ≤ h ∧ g < w2.heap.size ∧ h < w2.heap.size)
        have HszB := Lib.hid (by have := H.out.2.2.1; omega : w2.heap.size ≤ B0)
        have cp6 : Mine w6 B0 5 (.slice A3 m c3) y := by rw [← hB0]; exact H6.out.2.1
        have hs6 : B0 ≤ w6.heap.size := by rw [← hB0]; exact H6.out.2.2.2
        have H6' := Lib.hid (And.intro cp6 hs6)
        clear cp6 hs6
        go_loopw [9] (fun v wx => ∃ k : Nat, k ≤ m ∧ v = .int .i64 k ∧ ∃ ks : List UInt8, ks.length = m ∧ Mine wx B0 5 (.slice A3 m c3) ks ∧ Mine wx w2.heap.size 5 (.slice Aa all.length ca) all ∧ St w wx g h (all ++ y) (lo ++ [xb]) [] ∧ B0 ≤ wx.heap.size) (fun v _ => m - (intOf v).toNat)
        case atStart => exact ⟨0, Nat.zero_le _, rfl, y, hym, H6'.out.1, H6.out.2.2.1, H6.out.1, H6'.out.2⟩
        case round =>
          obtain ⟨k, hk, rfl, ks, hks, hcp, hma6, hst6, hs6⟩ := hrel
          have k0 : (0 : Int) ≤ k := by omega
          by_cases hkm : k < m
          · have k1 : (k : Int) < m := by omega
            have hkl : k < ks.length := by omega
            obtain ⟨gb, rfl⟩ := mine_some hcp (by omega)
            have f0 := mine_free hcp k
            have hrow : World.ownsRow wr B0 5 1 (.slice (some ⟨gb, 0, none⟩) m c3) m (cbs ks) := by have := hcp; unfold Mine at this; rwa [hks] at this
            have c0 := Mine.cell hrow hkl
            have hgb : B0 ≤ gb := (hcp.lt_ rfl).1
            obtain ⟨xk, hxk⟩ : ∃ xk, ks[k] = xk := ⟨_, rfl⟩
            rw [hxk] at c0
            have hx1 := xk.toNat_lt
            have r1 := Mine.set_ hrow k (xk + 1) (.int .u8 (((xk.toNat : Int) + 1) % 256)) (cb_add1 xk)
            have hbut := fun (W0 : World) => (But.refl gb W0).setCell (p := ⟨gb, k, none⟩) (.inl rfl) (.int .u8 (((xk.toNat : Int) + 1) % 256))
            have r2 := hma6.far (hbut wr) (fun b hb e => by have := HabB.out b hb; injection e with e; omega)
            have r3 := hst6.row_ (hbut wr) (fun b e => by injection e with e; have := HghB.out; omega)
            have r4 := (hbut wr).size
            have r5 := Nat.le_trans hs6 r4
            have hl2 : (ks.set k (xk + 1)).length = m := by rw [List.length_set]; exact hks
            have r1' : Mine (wr.setCell ⟨gb, k, none⟩ (.int .u8 (((xk.toNat : Int) + 1) % 256))) B0 5 (.slice (some ⟨gb, 0, none⟩) m c3) (ks.set k (xk + 1)) := by unfold Mine; rw [hl2]; exact r1
            have R := Lib.hid (And.intro r1' (And.intro r2 (And.intro r3 r5)))
            have Hl2 := Lib.hid hl2
            clear r1 r1' r2 r3 r4 r5 hbut hrow hcp hma6 hst6 hs6 hks hl2 hxk hgb
            go_wp2
            go_roundw
            case rel => exact ⟨k + 1, by omega, by go_num, _, Hl2.out, R.out.1, R.out.2.1, R.out.2.2.1, R.out.2.2.2⟩
            case measure => simp [intOf]; omega
          · have k1 : ¬ (k : Int) < m := by omega
            have H7 := Lib.hid (And.intro hst6 (And.intro hma6 (HBy.out.on hst6.bel)))
            have hw2x : w2.heap.size ≤ wr.heap.size := Nat.le_trans HszB.out hs6
            have Hw2 := Lib.hid hw2x
            have Hj2 := Lib.hid hal
            clear hst6 hma6 hs6 hcp hks H6 H6' hw2x
            go_wp2_with (at_builtin; refine wp_appendB rfl _ _ rfl w2.heap.size (.slice Aa all.length ca) all rfl H7.out.2.1 Aj cj m y rfl H7.out.2.2 hym (by have := Hj2.out; omega) Hw2.out ?_; intro v8 w8 hm8 hg8 ho8)
            have st8 := H7.out.1.row_ hg8 (fun b e => by have := HabB.out b e; have := HghB.out; omega)
            obtain ⟨al, hal8⟩ : ∃ al, all ++ y = al := ⟨_, rfl⟩
            have hall : al.length ≤ 1000 * (j + 1) := by rw [← hal8, List.length_append, hym]; have := Hj2.out; omega
            rw [hal8] at hm8 st8
            obtain ⟨D, hD32, hDv, hD1⟩ : ∃ D : List Value, D.length = 32 ∧ cbs (digest al) = D ∧ D.toArray.all (·.oneCell') = true := ⟨cbs (digest al), by rw [cbs_length, dlen], rfl, cbs_one' _⟩
            have hsum := sum_any g al w8 (by omega) st8.1
            rw [hDv] at hsum
            have Hsum := Lib.hid hsum
            obtain ⟨A8, c8, rfl, hc8, hcm8, hB8⟩ := hm8.form
            obtain ⟨n8, hn8⟩ : ∃ n8, al.length = n8 := ⟨_, rfl⟩
            rw [hn8] at hm8 hc8 hall ⊢
            have hs8 := hg8.size
            have H8 := Lib.hid (And.intro st8 (And.intro hm8 (And.intro hal8 (And.intro hn8 (Nat.le_trans Hw2.out hs8)))))
            have HDv := Lib.hid (And.intro hD32 (And.intro hDv hD1))
            have Hhall := Lib.hid hall
            have hn63' : n8 ≤ 9223372036854775807 := by omega
            clear st8 hm8 hsum hg8 ho8 H7 hB8 hal8 hD32 hDv hD1 hs8 Hw2 hn8 Hj2 hall
            go_wp2_with fail
            refine Hsum.out.mono ?_
            rintro e w9 ⟨rfl, hH9, bu9⟩
            dsimp only
            have st9 := H8.out.1.touched1 bu9 hH9
            have ma9 := H8.out.2.1.far bu9 (fun b hb e => by have := (H8.out.2.1.lt_ hb).1; have := HghB.out; injection e with e; omega)
            obtain ⟨wS, hwS, th, hi, hBd, hbS⟩ := lay_digest w9 D HDv.out.1
            have hs9 := bu9.size
            have H9 := Lib.hid (And.intro (st9.below hbS) (And.intro (ma9.after hbS) (And.intro hBd (Nat.le_trans (Nat.le_trans H8.out.2.2.2.2 hs9) hbS.size))))
            have Hst := Lib.hid (And.intro th (And.intro hi hwS))
            have hid : (Try.prog.info? 31).map (·.size) = some D.length := by rw [HDv.out.1]; exact info32b
            have hud := Try.underlying31
            have he := eq_same D al HDv.out.2.1.symm
            have r0 : wS.drew.rangeAt w9.heap.size 0 D := hBd.range
            obtain ⟨A9, c9, e9, hc9, hcm9, hB9⟩ := H9.out.2.1.form
            rw [H8.out.2.2.2.1] at e9
            injection e9 with e91 e92 e93
            clear e92
            subst e91
            subst e93
            have hB9d : Bs wS.drew A8 al := hB9
            have href := refOf_any A8 c8 n8 al wS.drew hB9d H8.out.2.2.2.1 (by have := Hhall.out; omega)
            rw [HDv.out.2.1] at href
            have Href := Lib.hid href
            have Hlen := Lib.hid (fun w' (hb : Below wS.drew.heap.size wS.drew w') => len_any g al w' ((H9.out.1.below (Below.refl _ _).drew).below hb).1)
            clear hH9 bu9 st9 ma9 hwS th hi hBd hbS hs9 href hB9 hB9d hc9 hcm9 Hsum
            go_wp2_with (refine wpList_store_mid rfl 31 _ _ rfl w9.heap.size 0 D.toArray rfl rfl Hst.out.1 Hst.out.2.1 HDv.out.2.2 ?_; simp only [Act.put]; refine cast (congrArg (fun z => wpList _ _ _ _ _ z) Hst.out.2.2.symm) ?_)
            go_region_held3 (fun W' => W'.rangeAt w9.heap.size 0 D) (first | with_reducible exact r0 | with_reducible exact r2)
              (first
              | (go_at_call 10; refine Href.out.mono ?_; rintro e w10 ⟨rfl, hb10⟩; have r2 := range_below hb10 r0)
              | (go_at_call 11; have hl10 := Hlen.out w10 hb10; rw [H8.out.2.2.2.1] at hl10; refine hl10.mono ?_; clear hl10; rintro e w' ⟨rfl, rfl⟩))
            have hbT := (Below.refl wS.heap.size wS).drew.trans (hb10.mono (Nat.le_refl _))
            have HT := Lib.hid (And.intro (H9.out.1.below hbT) (And.intro (H9.out.2.1.after hbT) (Nat.le_trans H9.out.2.2.2 hbT.size)))
            clear hb10 r2 r0 hbT
            go_wp2
            go_roundw
            case rel => exact ⟨j + 1, by omega, by omega, by go_num, al, lo ++ [xb], by rw [Hsucc.out, H8.out.2.2.1], by rw [H8.out.2.2.2.1]; exact Hhall.out, by rw [List.length_append, hlol]; rfl, HT.out.2.1, HT.out.2.2, by rw [← H8.out.2.2.1]; exact H8.out.2.2.1.symm ▸ HT.out.1⟩
            case measure => simp [intOf]; omega
    · have H3 := Lib.hid hst.bel
      clear hma hsz hst hBa hall
      by_cases hlt : j < nq
      · have hi1 : (j : Int) < nq := by omega
        have hi2 : ¬ (j : Int) < 64 := by omega
        go_wp2_with (go_at_call 12; refine (works_any _).mono ?_; rintro e wz ⟨rfl, hbz⟩)
        go_ret
        exact ⟨rfl, H3.out.trans (hbz.mono H3.out.size)⟩
      · have hi1 : ¬ (j : Int) < nq := by omega
        go_wp2_with (go_at_call 12; refine (works_any _).mono ?_; rintro e wz ⟨rfl, hbz⟩)
        go_ret
        exact ⟨rfl, H3.out.trans (hbz.mono H3.out.size)⟩

end Go.Proofs.Ytflagkmkimkamaa.shaPieces
