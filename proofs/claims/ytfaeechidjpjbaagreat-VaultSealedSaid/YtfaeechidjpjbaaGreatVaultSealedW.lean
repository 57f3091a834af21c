/-
  For all lists l and m (20 wishes at most are done ahead of a seal, 20 behind it): behind a seal nothing is done till the epoch turns, and what was there is there behind that; VaultSealed returns true; no condition.
-/
import Derived.Test.YtfaeechidjpjbaaGreatZ24
import Derived.Test.YtfaeechidjpjbaaGreatZ01
namespace Go.Proofs.YtfaeechidjpjbaaGreat.vaultSealed
open Go.ChangeShapes Go.WideShapes Go.ChangeAt Go.RowKit Go.Maps
set_option linter.unusedVariables false

set_option maxRecDepth 100000 in
set_option maxHeartbeats 6400000 in
theorem walk (Al : Option Addr) (nl cl : Nat) (l : List Int) (Am : Option Addr) (nm cm : Nat) (m : List Int) (w : World) (hl : ArgI w Al nl cl l) (hm : ArgI w Am nm cm m) :
    Calls Tryz.prog 7 #[.slice Al nl cl, .slice Am nm cm] w fun e w' => e = .returned (.bool true) ∧ Below w.heap.size w w' := by
  have hnot : ∀ (x : Bool) (w : World), (Op.unary .not (.bool x)).run Tryz.prog w = .ok (.bool (!x)) w := fun _ _ => rfl
  have Hl := Lib.hid hl
  have Hln := Lib.hid hl.1
  have Hm := Lib.hid hm
  have Hmn := Lib.hid hm.1
  clear hl hm
  go_enter Tryz.func7, Tryz.ntmps7
  go_wp2_with fail
  refine (works_any _).mono ?_
  rintro e w1 ⟨rfl, hb1⟩
  go_wp2_with fail
  refine (bnew_any _).mono ?_
  rintro e w2 ⟨S, gk, bm, rfl, hS, hb, hb2⟩
  have hk2 := kb_new hS hb
  have Hn := Lib.hid (vnew_any hk2 hb2.size (by decide) (gr := 1) (by decide))
  have H2 := Lib.hid (And.intro hb1 hb2)
  clear hS hb hk2 hb1 hb2
  go_wp2_with fail
  refine Hn.out.mono ?_
  rintro e w3 ⟨rfl, ⟨cs, hV⟩, _, hO⟩
  have hb3 : Below w.heap.size w w3 := H2.out.1.trans ((H2.out.2.trans (hO.above (fun i hi => hi.1) H2.out.2.size)).mono H2.out.1.size)
  have hgz : w.heap.size ≤ w2.heap.size := Nat.le_trans H2.out.1.size H2.out.2.size
  have HI0 : Hid (Vc w w2.heap.size (.pointer (some ⟨gk, 0, none⟩)) (fun _ => False) (newV 1) w3) := Lib.hid ⟨⟨_, cs, hV, fun i hi => by subst hi; exact ⟨hgz, id⟩⟩, hb3, fun i hi => hi.elim⟩
  clear hV hO hb3 hgz Hn H2
  generalize w2.heap.size = gv at *
  go_wp2
  go_loopw [7] (fun iv wr => ∃ k : Nat, k ≤ 20 ∧ k ≤ nl ∧ iv = .int .i64 (k : Int) ∧ Hid (∃ v, Vc w gv (.pointer (some ⟨gk, 0, none⟩)) (fun _ => False) v wr ∧ SeS v (k : Int))) (fun iv _ => 20 - (intOf iv).toNat)
  case atStart => exact ⟨0, by omega, by omega, rfl, Lib.hid ⟨_, HI0.out, SeS.new⟩⟩
  case round =>
    obtain ⟨k, hk, hkn, rfl, hE⟩ := hrel
    obtain ⟨v, hI, hS⟩ := hE.out
    clear hE
    have HI := Lib.hid (And.intro hI hS)
    clear hI hS
    have p0 : (0 : Int) ≤ (k : Int) := by omega
    by_cases hin : k < nl
    · by_cases h60 : k < 20
      · have p1 : (k : Int) < (nl : Int) := by omega
        have p2 : (k : Int) < 20 := by omega
        have hkl : k < l.length := by rw [Hln.out]; exact hin
        obtain ⟨sb, so, rfl, hlt, hc⟩ := Hl.out.2.2.2.1.at_ hkl
        have hwf := Hl.out.2.2.2.2 _ (List.getElem_mem hkl)
        have c0 := (HI.out.1.bel.cell (p := ⟨sb, so + k, none⟩) hlt).trans (hc k hkl)
        obtain ⟨n, hn⟩ : ∃ n, l[k] = n := ⟨_, rfl⟩
        rw [hn] at hwf c0
        have hnb := bounds_i64 hwf
        have Hwi := Lib.hid (HI.out.1.wish n ((1 : Int) + k) hnb (by omega))
        have hw1 : IntKind.i64.wrap ((1 : Int) + k) = 1 + k := by rw [IntWalk.i64_in _ (by omega)]
        obtain ⟨r, hr⟩ : ∃ r, n % 12 = r := ⟨_, rfl⟩
        have Hq : Hid (∀ W, Calls Tryz.prog 24 #[.int .i64 n, .int .i64 12] W fun e w' => e = .returned (.int .i64 r) ∧ w' = W) := Lib.hid fun W => by rw [← hr]; exact bringF_any _ _ _ (by decide) (by decide) (by omega) (by omega)
        have hr0 : 0 ≤ r := by omega
        have Hr := Lib.hid hr
        rw [hr] at Hwi
        clear hlt hc hn hwf hnb hr hkl
        by_cases q0 : r > 0
        · have q1 : decide (r > 0) = true := decide_eq_true q0
          go_wp2_with (go_at_call 24; refine (Hq.out _).mono ?_; rintro e w' ⟨rfl, hww⟩; have hww2 := hww.symm; subst hww2; clear hww)
          refine Hwi.out.mono ?_
          rintro e w5 ⟨x, D, nd, cd, N, nn, cn, rfl, hA, ⟨hx, hx5⟩, _, _, hb5⟩
          have hd := Lib.hid ((HI.out.1.below hb5).do_ hA hx.may (hx.gr.trans HI.out.2.gr.symm))
          have hst := Lib.hid (HI.out.2.step hx (by omega) (fun e => by have := hx5.1 e; omega))
          clear hA hx hx5 hb5 Hwi c0
          go_wp2_with fail
          refine hd.out.mono ?_
          rintro e w7 ⟨u, rfl, A, m', c, _, rfl, _, _, _, hvc, _, _⟩
          have HV := Lib.hid hvc
          clear hvc
          go_wp2
          go_roundw
          case rel => exact ⟨k + 1, by omega, by omega, by go_num, Lib.hid ⟨_, HV.out, by rw [show ((k + 1 : Nat) : Int) = 1 + k by omega]; exact hst.out⟩⟩
          case measure => simp [intOf]; omega
        · have q1 : decide (r > 0) = false := decide_eq_false q0
          go_wp2_with (go_at_call 24; refine (Hq.out _).mono ?_; rintro e w' ⟨rfl, hww⟩; have hww2 := hww.symm; subst hww2; clear hww)
          go_roundw
          case rel => exact ⟨k + 1, by omega, by omega, by go_num, Lib.hid ⟨v, HI.out.1, HI.out.2.mono (by omega)⟩⟩
          case measure => simp [intOf]; omega
      · have p1 : (k : Int) < (nl : Int) := by omega
        have p2 : ¬ (k : Int) < 20 := by omega
        have hS := HI.out.2
        have ho := turnE_open hS.sea
        have Ht := HI.out.1.turn
        rw [ho.1, ho.2] at Ht
        have Ht' := Lib.hid Ht
        have HS := Lib.hid (hS.mono (k := 20) (by omega))
        have hse := hS.sealed0
        obtain ⟨vs, hvs⟩ : ∃ vs : Va, { v with sea := [1, 2, 3, 4] } = vs := ⟨_, rfl⟩
        rw [hvs] at hse
        have Hse := Lib.hid hse
        have Hvs : Hid (vs.gr = 1 ∧ vs.ep = 0 ∧ vs.sea = [1, 2, 3, 4] ∧ StL vs 20) := Lib.hid (by rw [← hvs]; exact ⟨hS.gr, hS.ep, rfl, HS.out.st⟩)
        clear hS ho Ht hse hvs
        go_wp2_with fail
        refine Ht'.out.mono ?_
        rintro e wt ⟨rfl, hT, _, _⟩
        have HT := Lib.hid hT
        clear hT Ht'
        go_wp2_with fail
        refine (cx6 _).mono ?_
        rintro e wa ⟨_, rfl, D, nd, cd, N, nn, cn, rfl, hA, hba⟩
        have Hd := (HT.out.below hba).does0 hA mx6 (HS.out.gr.symm) (er := 0) (ep := 0) (by rw [Hse.out]; rfl)
        rw [Hse.out] at Hd
        have Hd' := Lib.hid Hd
        clear Hd hA hba
        go_wp2_with fail
        refine Hd'.out.mono ?_
        rintro e wb ⟨rfl, hT, _⟩
        have HB := Lib.hid hT
        have Hsl := Lib.hid hT.sealed
        clear hT Hd'
        go_wp2_with fail
        refine Hsl.out.mono ?_
        rintro e wc ⟨As, ns, cs', rfl, hs1, hs2, hbc⟩
        rw [Hvs.out.2.2.1] at hs1 hs2
        have hns : ns = 4 := hs1.symm
        subst hns
        obtain ⟨wd, hwd⟩ : ∃ wd, wc.alloc (.cells #[.int .i64 1, .int .i64 2, .int .i64 3, .int .i64 4] 3) = wd := ⟨_, rfl⟩
        have hbd : Below wc.heap.size wc wd := by rw [← hwd]; exact (Below.refl _ _).alloc (Nat.le_refl _) _
        have hAd : ArgI wd (some ⟨wc.heap.size, 0, none⟩) 4 4 [1, 2, 3, 4] := by rw [← hwd]; exact argI_new wc [1, 2, 3, 4] (by simp) (fun y hy => wf_in (by simp at hy; omega))
        have he := eqInts_any As (some ⟨wc.heap.size, 0, none⟩) 4 4 cs' 4 [1, 2, 3, 4] [1, 2, 3, 4] wd ((hs2 (by decide)).after hbd) hAd
        rw [decide_eq_true rfl] at he
        have HE := Lib.hid he
        have HD := Lib.hid (HB.out.below (hbc.trans (hbd.mono hbc.size)))
        have Hwd := Lib.hid hwd
        rw [← hwd] at HE
        clear hs1 hs2 hbc hbd hAd he hwd
        go_wp2_with fail
        refine HE.out.mono ?_
        rintro e we ⟨rfl, hbe⟩
        rw [Hwd.out] at hbe
        have HF := Lib.hid (HD.out.below hbe)
        have Hlv := Lib.hid HF.out.leaves
        clear hbe HE HD HB HT
        go_wp2_with fail
        refine Hlv.out.mono ?_
        rintro e wf ⟨A8, c8, rfl, hc8, hL8, hbf⟩
        have HL8 := Lib.hid (LvK.new hL8 HF.out.glt)
        have HG := Lib.hid (HF.out.below hbf)
        clear hL8 hbf Hlv HF
        go_wp2
        go_loopw [9, 10] (fun iv _ wr => ∃ k : Nat, k ≤ 20 ∧ k ≤ nm ∧ iv = .int .i64 (k : Int) ∧ Hid (Vc w gv (.pointer (some ⟨gk, 0, none⟩)) (fun _ => False) vs wr ∧ LvK gv A8 (leavesL vs) wr)) (fun iv _ _ => 20 - (intOf iv).toNat)
        case atStart => exact ⟨0, by omega, by omega, rfl, Lib.hid ⟨HG.out, HL8.out⟩⟩
        case round =>
          obtain ⟨k, hk, hkn, rfl, hJ⟩ := hrel
          have p0 : (0 : Int) ≤ (k : Int) := by omega
          by_cases hin : k < nm
          · by_cases h60 : k < 20
            · have p1 : (k : Int) < (nm : Int) := by omega
              have p2 : (k : Int) < 20 := by omega
              have hkl : k < m.length := by rw [Hmn.out]; exact hin
              obtain ⟨sb, so, rfl, hlt, hc⟩ := Hm.out.2.2.2.1.at_ hkl
              have hwf := Hm.out.2.2.2.2 _ (List.getElem_mem hkl)
              have c0 := (hJ.out.1.bel.cell (p := ⟨sb, so + k, none⟩) hlt).trans (hc k hkl)
              obtain ⟨n, hn⟩ : ∃ n, m[k] = n := ⟨_, rfl⟩
              rw [hn] at hwf c0
              have Hwi := Lib.hid (hJ.out.1.wish n ((100 : Int) + k) (bounds_i64 hwf) (by omega))
              have hw1 : IntKind.i64.wrap ((100 : Int) + k) = 100 + k := by rw [IntWalk.i64_in _ (by omega)]
              clear hlt hc hn hwf hkl
              go_wp2_with fail
              refine Hwi.out.mono ?_
              rintro e w5 ⟨x, D, nd, cd, N, nn, cn, rfl, hA, ⟨hx, _⟩, _, _, hb5⟩
              have hbA : Below w5.heap.size w5 (w5.alloc (.cells #[.int .i64 x.cl, .int .i64 x.sp, .int .i64 x.gr, .int .i64 x.ep, .int .i64 x.kd, .int .i64 x.bl, .slice D nd cd, .int .i64 x.od, .int .i64 x.nw, .slice N nn cn] 45)) := (Below.refl _ _).alloc (Nat.le_refl _) _
              have hdo := sealed_do Hvs.out.1 Hvs.out.2.2.2 hx (by omega) (by rw [Hvs.out.2.2.1]; simp) Hvs.out.2.1
              rw [Hvs.out.2.1] at hdo
              have hbb := hb5.trans (hbA.mono hb5.size)
              have Hd := (hJ.out.1.below hbb).does0 (hA.after hbA) hx.may (hx.gr.trans Hvs.out.1.symm) (er := 171) (ep := 1) (by rw [hdo]; rfl)
              rw [hdo] at Hd
              have Hd' := Lib.hid Hd
              have HLb := Lib.hid (hJ.out.2.below hbb)
              clear hA hx hb5 hbA hdo hbb Hd Hwi c0
              go_wp2_with fail
              refine Hd'.out.mono ?_
              rintro e w7 ⟨rfl, hvc, ho⟩
              have HV := Lib.hid (And.intro hvc (HLb.out.out ho))
              clear hvc ho
              go_wp2
              go_roundw
              case rel => exact ⟨k + 1, by omega, by omega, by go_num, Lib.hid ⟨HV.out.1, HV.out.2⟩⟩
              case measure => simp [intOf]; omega
            · have p1 : (k : Int) < (nm : Int) := by omega
              have p2 : ¬ (k : Int) < 20 := by omega
              have Hlv := Lib.hid hJ.out.1.leaves
              have hok := hJ.out.1.gr1
              have Hmx := Lib.hid (leaves_max hok)
              have hts := turnE_sealed (v := vs) (by rw [Hvs.out.2.2.1]; simp) (by rw [Hvs.out.2.1]; decide)
              obtain ⟨vt, hvt⟩ : ∃ vt : Va, { vs with ep := vs.ep + 1, sea := [] } = vt := ⟨_, rfl⟩
              rw [hvt] at hts
              have Hts := Lib.hid hts
              have Hvt : Hid (vt.ep = 1 ∧ vt.sea = [] ∧ (leavesL vt).take 12 = (leavesL vs).take 12) := Lib.hid (by rw [← hvt]; exact ⟨by show vs.ep + 1 = 1; rw [Hvs.out.2.1]; rfl, rfl, leaves_turn⟩)
              have hto := turnE_open Hvt.out.2.1
              have Hto := Lib.hid hto
              clear hok hts hvt hto
              go_wp2_with fail
              refine Hlv.out.mono ?_
              rintro e wg ⟨A11, c11, rfl, _, hL, hbg⟩
              have H11 := Lib.hid (LvK.new hL hJ.out.1.glt)
              have H8g := Lib.hid (hJ.out.2.below hbg)
              have HJ := Lib.hid (hJ.out.1.below hbg)
              have Hsm := Lib.hid (H8g.out.same (c := c8) (c' := c11) H11.out (leavesL_len vs) (by decide) Hmx.out)
              clear hL hbg Hlv
              go_wp2_with fail
              refine Hsm.out.mono ?_
              rintro e wh ⟨rfl, hbh⟩
              have H8h := Lib.hid (H8g.out.below hbh)
              have Ht := (HJ.out.below hbh).turn
              rw [Hts.out.1, Hts.out.2] at Ht
              have Ht' := Lib.hid Ht
              clear hbh Ht Hsm H11
              go_wp2_with fail
              refine Ht'.out.mono ?_
              rintro e wi ⟨rfl, hT, ho, _⟩
              have HT := Lib.hid hT
              have H8i := Lib.hid (H8h.out.out ho)
              have HEp := hT.epoch
              rw [Hvt.out.1] at HEp
              have HEp' := Lib.hid HEp
              have Hsl := Lib.hid hT.sealed
              clear hT ho HEp Ht'
              go_wp2_with (go_at_call 33; refine HEp'.out.mono ?_; rintro e w' ⟨rfl, hww⟩; have hww2 := hww.symm; subst hww2; clear hww)
              refine Hsl.out.mono ?_
              rintro e wj ⟨As, ns, cs', rfl, hs1, _, hbj⟩
              rw [Hvt.out.2.1] at hs1
              have hns : ns = 0 := hs1.symm
              subst hns
              have HTj := Lib.hid (HT.out.below hbj)
              have H8j := Lib.hid (H8i.out.below hbj)
              have Hlw := Lib.hid HTj.out.leaves
              clear hs1 hbj Hsl
              go_wp2_with fail
              refine Hlw.out.mono ?_
              rintro e wk ⟨A12, c12, rfl, hc12, hL, hbk⟩
              have hL12 := (LvK.new hL HTj.out.glt).take 12
              rw [Hvt.out.2.2] at hL12
              have H12 := Lib.hid hL12
              have H8k := Lib.hid ((H8j.out.below hbk).take 12)
              have HTk := Lib.hid (HTj.out.below hbk)
              have hm12 : ∀ x ∈ (leavesL vs).take 12, x.length ≤ 65535 := fun x hx => Hmx.out x (List.mem_of_mem_take hx)
              have hl12 : ((leavesL vs).take 12).length = 12 := by rw [List.length_take, leavesL_len]; rfl
              have HSM : Hid (∀ W, Below wk.heap.size wk W → Calls Tryz.prog 17 #[.slice A8 12 c8, .slice A12 12 c12] W fun e w' => e = .returned (.bool true) ∧ Below W.heap.size W w') := Lib.hid fun W hb => (H8k.out.below hb).same (H12.out.below hb) hl12 (by decide) hm12
              have HTU : Hid (∀ W, Below wk.heap.size wk W → Calls Tryz.prog 25 #[.pointer (some ⟨gv, 0, none⟩)] W fun e w' => e = .returned (.int .i64 171) ∧ Below w.heap.size w w') := Lib.hid fun W hb => by have h := (HTk.out.below hb).turn; rw [Hto.out.1, Hto.out.2] at h; exact h.mono fun e w' ⟨he, h1, _, _⟩ => ⟨he, h1.bel⟩
              obtain ⟨b8, o8, rfl⟩ := H8k.out.at_
              obtain ⟨b12, o12, rfl⟩ := H12.out.at_
              have q8 : (12 : Int) ≤ (c8 : Int) := by omega
              have q12 : (12 : Int) ≤ (c12 : Int) := by omega
              have r8 : (12 : Nat) ≤ c8 := by omega
              have r12 : (12 : Nat) ≤ c12 := by omega
              clear hL hbk hL12 Hlw hm12 hl12
              go_upto_region 24 with fail
              go_region_with first
                | (go_at_call 17; go_loud (refine (HSM.out _ (by first | exact Below.refl _ _ | exact below_drewN (Below.refl _ _) _)).mono ?_; rintro e wx ⟨rfl, hbx⟩; have Hbx := Lib.hid (show Below wk.heap.size wk wx from (by first | exact hbx | exact (below_drewN (Below.refl _ _) _).trans hbx)); clear hbx))
                | (go_at_call 25; go_loud (refine (HTU.out _ (by first | exact Hbx.out | exact below_drewN Hbx.out _)).mono ?_; rintro e wy ⟨rfl, hby⟩; have Hby := Lib.hid hby; clear hby))
              all_goals (
                go_wp2
                go_ret
                exact ⟨rfl, by first | exact Hby.out | exact below_drewN Hby.out _⟩)
          · have p1 : ¬ (k : Int) < (nm : Int) := by omega
            have Hlv := Lib.hid hJ.out.1.leaves
            have hok := hJ.out.1.gr1
            have Hmx := Lib.hid (leaves_max hok)
            have hts := turnE_sealed (v := vs) (by rw [Hvs.out.2.2.1]; simp) (by rw [Hvs.out.2.1]; decide)
            obtain ⟨vt, hvt⟩ : ∃ vt : Va, { vs with ep := vs.ep + 1, sea := [] } = vt := ⟨_, rfl⟩
            rw [hvt] at hts
            have Hts := Lib.hid hts
            have Hvt : Hid (vt.ep = 1 ∧ vt.sea = [] ∧ (leavesL vt).take 12 = (leavesL vs).take 12) := Lib.hid (by rw [← hvt]; exact ⟨by show vs.ep + 1 = 1; rw [Hvs.out.2.1]; rfl, rfl, leaves_turn⟩)
            have hto := turnE_open Hvt.out.2.1
            have Hto := Lib.hid hto
            clear hok hts hvt hto
            go_wp2_with fail
            refine Hlv.out.mono ?_
            rintro e wg ⟨A11, c11, rfl, _, hL, hbg⟩
            have H11 := Lib.hid (LvK.new hL hJ.out.1.glt)
            have H8g := Lib.hid (hJ.out.2.below hbg)
            have HJ := Lib.hid (hJ.out.1.below hbg)
            have Hsm := Lib.hid (H8g.out.same (c := c8) (c' := c11) H11.out (leavesL_len vs) (by decide) Hmx.out)
            clear hL hbg Hlv
            go_wp2_with fail
            refine Hsm.out.mono ?_
            rintro e wh ⟨rfl, hbh⟩
            have H8h := Lib.hid (H8g.out.below hbh)
            have Ht := (HJ.out.below hbh).turn
            rw [Hts.out.1, Hts.out.2] at Ht
            have Ht' := Lib.hid Ht
            clear hbh Ht Hsm H11
            go_wp2_with fail
            refine Ht'.out.mono ?_
            rintro e wi ⟨rfl, hT, ho, _⟩
            have HT := Lib.hid hT
            have H8i := Lib.hid (H8h.out.out ho)
            have HEp := hT.epoch
            rw [Hvt.out.1] at HEp
            have HEp' := Lib.hid HEp
            have Hsl := Lib.hid hT.sealed
            clear hT ho HEp Ht'
            go_wp2_with (go_at_call 33; refine HEp'.out.mono ?_; rintro e w' ⟨rfl, hww⟩; have hww2 := hww.symm; subst hww2; clear hww)
            refine Hsl.out.mono ?_
            rintro e wj ⟨As, ns, cs', rfl, hs1, _, hbj⟩
            rw [Hvt.out.2.1] at hs1
            have hns : ns = 0 := hs1.symm
            subst hns
            have HTj := Lib.hid (HT.out.below hbj)
            have H8j := Lib.hid (H8i.out.below hbj)
            have Hlw := Lib.hid HTj.out.leaves
            clear hs1 hbj Hsl
            go_wp2_with fail
            refine Hlw.out.mono ?_
            rintro e wk ⟨A12, c12, rfl, hc12, hL, hbk⟩
            have hL12 := (LvK.new hL HTj.out.glt).take 12
            rw [Hvt.out.2.2] at hL12
            have H12 := Lib.hid hL12
            have H8k := Lib.hid ((H8j.out.below hbk).take 12)
            have HTk := Lib.hid (HTj.out.below hbk)
            have hm12 : ∀ x ∈ (leavesL vs).take 12, x.length ≤ 65535 := fun x hx => Hmx.out x (List.mem_of_mem_take hx)
            have hl12 : ((leavesL vs).take 12).length = 12 := by rw [List.length_take, leavesL_len]; rfl
            have HSM : Hid (∀ W, Below wk.heap.size wk W → Calls Tryz.prog 17 #[.slice A8 12 c8, .slice A12 12 c12] W fun e w' => e = .returned (.bool true) ∧ Below W.heap.size W w') := Lib.hid fun W hb => (H8k.out.below hb).same (H12.out.below hb) hl12 (by decide) hm12
            have HTU : Hid (∀ W, Below wk.heap.size wk W → Calls Tryz.prog 25 #[.pointer (some ⟨gv, 0, none⟩)] W fun e w' => e = .returned (.int .i64 171) ∧ Below w.heap.size w w') := Lib.hid fun W hb => by have h := (HTk.out.below hb).turn; rw [Hto.out.1, Hto.out.2] at h; exact h.mono fun e w' ⟨he, h1, _, _⟩ => ⟨he, h1.bel⟩
            obtain ⟨b8, o8, rfl⟩ := H8k.out.at_
            obtain ⟨b12, o12, rfl⟩ := H12.out.at_
            have q8 : (12 : Int) ≤ (c8 : Int) := by omega
            have q12 : (12 : Int) ≤ (c12 : Int) := by omega
            have r8 : (12 : Nat) ≤ c8 := by omega
            have r12 : (12 : Nat) ≤ c12 := by omega
            clear hL hbk hL12 Hlw hm12 hl12
            go_upto_region 24 with fail
            go_region_with first
              | (go_at_call 17; go_loud (refine (HSM.out _ (by first | exact Below.refl _ _ | exact below_drewN (Below.refl _ _) _)).mono ?_; rintro e wx ⟨rfl, hbx⟩; have Hbx := Lib.hid (show Below wk.heap.size wk wx from (by first | exact hbx | exact (below_drewN (Below.refl _ _) _).trans hbx)); clear hbx))
              | (go_at_call 25; go_loud (refine (HTU.out _ (by first | exact Hbx.out | exact below_drewN Hbx.out _)).mono ?_; rintro e wy ⟨rfl, hby⟩; have Hby := Lib.hid hby; clear hby))
            all_goals (
              go_wp2
              go_ret
              exact ⟨rfl, by first | exact Hby.out | exact below_drewN Hby.out _⟩)
    · have p1 : ¬ (k : Int) < (nl : Int) := by omega
      have hS := HI.out.2
      have ho := turnE_open hS.sea
      have Ht := HI.out.1.turn
      rw [ho.1, ho.2] at Ht
      have Ht' := Lib.hid Ht
      have HS := Lib.hid (hS.mono (k := 20) (by omega))
      have hse := hS.sealed0
      obtain ⟨vs, hvs⟩ : ∃ vs : Va, { v with sea := [1, 2, 3, 4] } = vs := ⟨_, rfl⟩
      rw [hvs] at hse
      have Hse := Lib.hid hse
      have Hvs : Hid (vs.gr = 1 ∧ vs.ep = 0 ∧ vs.sea = [1, 2, 3, 4] ∧ StL vs 20) := Lib.hid (by rw [← hvs]; exact ⟨hS.gr, hS.ep, rfl, HS.out.st⟩)
      clear hS ho Ht hse hvs
      go_wp2_with fail
      refine Ht'.out.mono ?_
      rintro e wt ⟨rfl, hT, _, _⟩
      have HT := Lib.hid hT
      clear hT Ht'
      go_wp2_with fail
      refine (cx6 _).mono ?_
      rintro e wa ⟨_, rfl, D, nd, cd, N, nn, cn, rfl, hA, hba⟩
      have Hd := (HT.out.below hba).does0 hA mx6 (HS.out.gr.symm) (er := 0) (ep := 0) (by rw [Hse.out]; rfl)
      rw [Hse.out] at Hd
      have Hd' := Lib.hid Hd
      clear Hd hA hba
      go_wp2_with fail
      refine Hd'.out.mono ?_
      rintro e wb ⟨rfl, hT, _⟩
      have HB := Lib.hid hT
      have Hsl := Lib.hid hT.sealed
      clear hT Hd'
      go_wp2_with fail
      refine Hsl.out.mono ?_
      rintro e wc ⟨As, ns, cs', rfl, hs1, hs2, hbc⟩
      rw [Hvs.out.2.2.1] at hs1 hs2
      have hns : ns = 4 := hs1.symm
      subst hns
      obtain ⟨wd, hwd⟩ : ∃ wd, wc.alloc (.cells #[.int .i64 1, .int .i64 2, .int .i64 3, .int .i64 4] 3) = wd := ⟨_, rfl⟩
      have hbd : Below wc.heap.size wc wd := by rw [← hwd]; exact (Below.refl _ _).alloc (Nat.le_refl _) _
      have hAd : ArgI wd (some ⟨wc.heap.size, 0, none⟩) 4 4 [1, 2, 3, 4] := by rw [← hwd]; exact argI_new wc [1, 2, 3, 4] (by simp) (fun y hy => wf_in (by simp at hy; omega))
      have he := eqInts_any As (some ⟨wc.heap.size, 0, none⟩) 4 4 cs' 4 [1, 2, 3, 4] [1, 2, 3, 4] wd ((hs2 (by decide)).after hbd) hAd
      rw [decide_eq_true rfl] at he
      have HE := Lib.hid he
      have HD := Lib.hid (HB.out.below (hbc.trans (hbd.mono hbc.size)))
      have Hwd := Lib.hid hwd
      rw [← hwd] at HE
      clear hs1 hs2 hbc hbd hAd he hwd
      go_wp2_with fail
      refine HE.out.mono ?_
      rintro e we ⟨rfl, hbe⟩
      rw [Hwd.out] at hbe
      have HF := Lib.hid (HD.out.below hbe)
      have Hlv := Lib.hid HF.out.leaves
      clear hbe HE HD HB HT
      go_wp2_with fail
      refine Hlv.out.mono ?_
      rintro e wf ⟨A8, c8, rfl, hc8, hL8, hbf⟩
      have HL8 := Lib.hid (LvK.new hL8 HF.out.glt)
      have HG := Lib.hid (HF.out.below hbf)
      clear hL8 hbf Hlv HF
      go_wp2
      go_loopw [9, 10] (fun iv _ wr => ∃ k : Nat, k ≤ 20 ∧ k ≤ nm ∧ iv = .int .i64 (k : Int) ∧ Hid (Vc w gv (.pointer (some ⟨gk, 0, none⟩)) (fun _ => False) vs wr ∧ LvK gv A8 (leavesL vs) wr)) (fun iv _ _ => 20 - (intOf iv).toNat)
      case atStart => exact ⟨0, by omega, by omega, rfl, Lib.hid ⟨HG.out, HL8.out⟩⟩
      case round =>
        obtain ⟨k, hk, hkn, rfl, hJ⟩ := hrel
        have p0 : (0 : Int) ≤ (k : Int) := by omega
        by_cases hin : k < nm
        · by_cases h60 : k < 20
          · have p1 : (k : Int) < (nm : Int) := by omega
            have p2 : (k : Int) < 20 := by omega
            have hkl : k < m.length := by rw [Hmn.out]; exact hin
            obtain ⟨sb, so, rfl, hlt, hc⟩ := Hm.out.2.2.2.1.at_ hkl
            have hwf := Hm.out.2.2.2.2 _ (List.getElem_mem hkl)
            have c0 := (hJ.out.1.bel.cell (p := ⟨sb, so + k, none⟩) hlt).trans (hc k hkl)
            obtain ⟨n, hn⟩ : ∃ n, m[k] = n := ⟨_, rfl⟩
            rw [hn] at hwf c0
            have Hwi := Lib.hid (hJ.out.1.wish n ((100 : Int) + k) (bounds_i64 hwf) (by omega))
            have hw1 : IntKind.i64.wrap ((100 : Int) + k) = 100 + k := by rw [IntWalk.i64_in _ (by omega)]
            clear hlt hc hn hwf hkl
            go_wp2_with fail
            refine Hwi.out.mono ?_
            rintro e w5 ⟨x, D, nd, cd, N, nn, cn, rfl, hA, ⟨hx, _⟩, _, _, hb5⟩
            have hbA : Below w5.heap.size w5 (w5.alloc (.cells #[.int .i64 x.cl, .int .i64 x.sp, .int .i64 x.gr, .int .i64 x.ep, .int .i64 x.kd, .int .i64 x.bl, .slice D nd cd, .int .i64 x.od, .int .i64 x.nw, .slice N nn cn] 45)) := (Below.refl _ _).alloc (Nat.le_refl _) _
            have hdo := sealed_do Hvs.out.1 Hvs.out.2.2.2 hx (by omega) (by rw [Hvs.out.2.2.1]; simp) Hvs.out.2.1
            rw [Hvs.out.2.1] at hdo
            have hbb := hb5.trans (hbA.mono hb5.size)
            have Hd := (hJ.out.1.below hbb).does0 (hA.after hbA) hx.may (hx.gr.trans Hvs.out.1.symm) (er := 171) (ep := 1) (by rw [hdo]; rfl)
            rw [hdo] at Hd
            have Hd' := Lib.hid Hd
            have HLb := Lib.hid (hJ.out.2.below hbb)
            clear hA hx hb5 hbA hdo hbb Hd Hwi c0
            go_wp2_with fail
            refine Hd'.out.mono ?_
            rintro e w7 ⟨rfl, hvc, ho⟩
            have HV := Lib.hid (And.intro hvc (HLb.out.out ho))
            clear hvc ho
            go_wp2
            go_roundw
            case rel => exact ⟨k + 1, by omega, by omega, by go_num, Lib.hid ⟨HV.out.1, HV.out.2⟩⟩
            case measure => simp [intOf]; omega
          · have p1 : (k : Int) < (nm : Int) := by omega
            have p2 : ¬ (k : Int) < 20 := by omega
            have Hlv := Lib.hid hJ.out.1.leaves
            have hok := hJ.out.1.gr1
            have Hmx := Lib.hid (leaves_max hok)
            have hts := turnE_sealed (v := vs) (by rw [Hvs.out.2.2.1]; simp) (by rw [Hvs.out.2.1]; decide)
            obtain ⟨vt, hvt⟩ : ∃ vt : Va, { vs with ep := vs.ep + 1, sea := [] } = vt := ⟨_, rfl⟩
            rw [hvt] at hts
            have Hts := Lib.hid hts
            have Hvt : Hid (vt.ep = 1 ∧ vt.sea = [] ∧ (leavesL vt).take 12 = (leavesL vs).take 12) := Lib.hid (by rw [← hvt]; exact ⟨by show vs.ep + 1 = 1; rw [Hvs.out.2.1]; rfl, rfl, leaves_turn⟩)
            have hto := turnE_open Hvt.out.2.1
            have Hto := Lib.hid hto
            clear hok hts hvt hto
            go_wp2_with fail
            refine Hlv.out.mono ?_
            rintro e wg ⟨A11, c11, rfl, _, hL, hbg⟩
            have H11 := Lib.hid (LvK.new hL hJ.out.1.glt)
            have H8g := Lib.hid (hJ.out.2.below hbg)
            have HJ := Lib.hid (hJ.out.1.below hbg)
            have Hsm := Lib.hid (H8g.out.same (c := c8) (c' := c11) H11.out (leavesL_len vs) (by decide) Hmx.out)
            clear hL hbg Hlv
            go_wp2_with fail
            refine Hsm.out.mono ?_
            rintro e wh ⟨rfl, hbh⟩
            have H8h := Lib.hid (H8g.out.below hbh)
            have Ht := (HJ.out.below hbh).turn
            rw [Hts.out.1, Hts.out.2] at Ht
            have Ht' := Lib.hid Ht
            clear hbh Ht Hsm H11
            go_wp2_with fail
            refine Ht'.out.mono ?_
            rintro e wi ⟨rfl, hT, ho, _⟩
            have HT := Lib.hid hT
            have H8i := Lib.hid (H8h.out.out ho)
            have HEp := hT.epoch
            rw [Hvt.out.1] at HEp
            have HEp' := Lib.hid HEp
            have Hsl := Lib.hid hT.sealed
            clear hT ho HEp Ht'
            go_wp2_with (go_at_call 33; refine HEp'.out.mono ?_; rintro e w' ⟨rfl, hww⟩; have hww2 := hww.symm; subst hww2; clear hww)
            refine Hsl.out.mono ?_
            rintro e wj ⟨As, ns, cs', rfl, hs1, _, hbj⟩
            rw [Hvt.out.2.1] at hs1
            have hns : ns = 0 := hs1.symm
            subst hns
            have HTj := Lib.hid (HT.out.below hbj)
            have H8j := Lib.hid (H8i.out.below hbj)
            have Hlw := Lib.hid HTj.out.leaves
            clear hs1 hbj Hsl
            go_wp2_with fail
            refine Hlw.out.mono ?_
            rintro e wk ⟨A12, c12, rfl, hc12, hL, hbk⟩
            have hL12 := (LvK.new hL HTj.out.glt).take 12
            rw [Hvt.out.2.2] at hL12
            have H12 := Lib.hid hL12
            have H8k := Lib.hid ((H8j.out.below hbk).take 12)
            have HTk := Lib.hid (HTj.out.below hbk)
            have hm12 : ∀ x ∈ (leavesL vs).take 12, x.length ≤ 65535 := fun x hx => Hmx.out x (List.mem_of_mem_take hx)
            have hl12 : ((leavesL vs).take 12).length = 12 := by rw [List.length_take, leavesL_len]; rfl
            have HSM : Hid (∀ W, Below wk.heap.size wk W → Calls Tryz.prog 17 #[.slice A8 12 c8, .slice A12 12 c12] W fun e w' => e = .returned (.bool true) ∧ Below W.heap.size W w') := Lib.hid fun W hb => (H8k.out.below hb).same (H12.out.below hb) hl12 (by decide) hm12
            have HTU : Hid (∀ W, Below wk.heap.size wk W → Calls Tryz.prog 25 #[.pointer (some ⟨gv, 0, none⟩)] W fun e w' => e = .returned (.int .i64 171) ∧ Below w.heap.size w w') := Lib.hid fun W hb => by have h := (HTk.out.below hb).turn; rw [Hto.out.1, Hto.out.2] at h; exact h.mono fun e w' ⟨he, h1, _, _⟩ => ⟨he, h1.bel⟩
            obtain ⟨b8, o8, rfl⟩ := H8k.out.at_
            obtain ⟨b12, o12, rfl⟩ := H12.out.at_
            have q8 : (12 : Int) ≤ (c8 : Int) := by omega
            have q12 : (12 : Int) ≤ (c12 : Int) := by omega
            have r8 : (12 : Nat) ≤ c8 := by omega
            have r12 : (12 : Nat) ≤ c12 := by omega
            clear hL hbk hL12 Hlw hm12 hl12
            go_upto_region 24 with fail
            go_region_with first
              | (go_at_call 17; go_loud (refine (HSM.out _ (by first | exact Below.refl _ _ | exact below_drewN (Below.refl _ _) _)).mono ?_; rintro e wx ⟨rfl, hbx⟩; have Hbx := Lib.hid (show Below wk.heap.size wk wx from (by first | exact hbx | exact (below_drewN (Below.refl _ _) _).trans hbx)); clear hbx))
              | (go_at_call 25; go_loud (refine (HTU.out _ (by first | exact Hbx.out | exact below_drewN Hbx.out _)).mono ?_; rintro e wy ⟨rfl, hby⟩; have Hby := Lib.hid hby; clear hby))
            all_goals (
              go_wp2
              go_ret
              exact ⟨rfl, by first | exact Hby.out | exact below_drewN Hby.out _⟩)
        · have p1 : ¬ (k : Int) < (nm : Int) := by omega
          have Hlv := Lib.hid hJ.out.1.leaves
          have hok := hJ.out.1.gr1
          have Hmx := Lib.hid (leaves_max hok)
          have hts := turnE_sealed (v := vs) (by rw [Hvs.out.2.2.1]; simp) (by rw [Hvs.out.2.1]; decide)
          obtain ⟨vt, hvt⟩ : ∃ vt : Va, { vs with ep := vs.ep + 1, sea := [] } = vt := ⟨_, rfl⟩
          rw [hvt] at hts
          have Hts := Lib.hid hts
          have Hvt : Hid (vt.ep = 1 ∧ vt.sea = [] ∧ (leavesL vt).take 12 = (leavesL vs).take 12) := Lib.hid (by rw [← hvt]; exact ⟨by show vs.ep + 1 = 1; rw [Hvs.out.2.1]; rfl, rfl, leaves_turn⟩)
          have hto := turnE_open Hvt.out.2.1
          have Hto := Lib.hid hto
          clear hok hts hvt hto
          go_wp2_with fail
          refine Hlv.out.mono ?_
          rintro e wg ⟨A11, c11, rfl, _, hL, hbg⟩
          have H11 := Lib.hid (LvK.new hL hJ.out.1.glt)
          have H8g := Lib.hid (hJ.out.2.below hbg)
          have HJ := Lib.hid (hJ.out.1.below hbg)
          have Hsm := Lib.hid (H8g.out.same (c := c8) (c' := c11) H11.out (leavesL_len vs) (by decide) Hmx.out)
          clear hL hbg Hlv
          go_wp2_with fail
          refine Hsm.out.mono ?_
          rintro e wh ⟨rfl, hbh⟩
          have H8h := Lib.hid (H8g.out.below hbh)
          have Ht := (HJ.out.below hbh).turn
          rw [Hts.out.1, Hts.out.2] at Ht
          have Ht' := Lib.hid Ht
          clear hbh Ht Hsm H11
          go_wp2_with fail
          refine Ht'.out.mono ?_
          rintro e wi ⟨rfl, hT, ho, _⟩
          have HT := Lib.hid hT
          have H8i := Lib.hid (H8h.out.out ho)
          have HEp := hT.epoch
          rw [Hvt.out.1] at HEp
          have HEp' := Lib.hid HEp
          have Hsl := Lib.hid hT.sealed
          clear hT ho HEp Ht'
          go_wp2_with (go_at_call 33; refine HEp'.out.mono ?_; rintro e w' ⟨rfl, hww⟩; have hww2 := hww.symm; subst hww2; clear hww)
          refine Hsl.out.mono ?_
          rintro e wj ⟨As, ns, cs', rfl, hs1, _, hbj⟩
          rw [Hvt.out.2.1] at hs1
          have hns : ns = 0 := hs1.symm
          subst hns
          have HTj := Lib.hid (HT.out.below hbj)
          have H8j := Lib.hid (H8i.out.below hbj)
          have Hlw := Lib.hid HTj.out.leaves
          clear hs1 hbj Hsl
          go_wp2_with fail
          refine Hlw.out.mono ?_
          rintro e wk ⟨A12, c12, rfl, hc12, hL, hbk⟩
          have hL12 := (LvK.new hL HTj.out.glt).take 12
          rw [Hvt.out.2.2] at hL12
          have H12 := Lib.hid hL12
          have H8k := Lib.hid ((H8j.out.below hbk).take 12)
          have HTk := Lib.hid (HTj.out.below hbk)
          have hm12 : ∀ x ∈ (leavesL vs).take 12, x.length ≤ 65535 := fun x hx => Hmx.out x (List.mem_of_mem_take hx)
          have hl12 : ((leavesL vs).take 12).length = 12 := by rw [List.length_take, leavesL_len]; rfl
          have HSM : Hid (∀ W, Below wk.heap.size wk W → Calls Tryz.prog 17 #[.slice A8 12 c8, .slice A12 12 c12] W fun e w' => e = .returned (.bool true) ∧ Below W.heap.size W w') := Lib.hid fun W hb => (H8k.out.below hb).same (H12.out.below hb) hl12 (by decide) hm12
          have HTU : Hid (∀ W, Below wk.heap.size wk W → Calls Tryz.prog 25 #[.pointer (some ⟨gv, 0, none⟩)] W fun e w' => e = .returned (.int .i64 171) ∧ Below w.heap.size w w') := Lib.hid fun W hb => by have h := (HTk.out.below hb).turn; rw [Hto.out.1, Hto.out.2] at h; exact h.mono fun e w' ⟨he, h1, _, _⟩ => ⟨he, h1.bel⟩
          obtain ⟨b8, o8, rfl⟩ := H8k.out.at_
          obtain ⟨b12, o12, rfl⟩ := H12.out.at_
          have q8 : (12 : Int) ≤ (c8 : Int) := by omega
          have q12 : (12 : Int) ≤ (c12 : Int) := by omega
          have r8 : (12 : Nat) ≤ c8 := by omega
          have r12 : (12 : Nat) ≤ c12 := by omega
          clear hL hbk hL12 Hlw hm12 hl12
          go_upto_region 24 with fail
          go_region_with first
            | (go_at_call 17; go_loud (refine (HSM.out _ (by first | exact Below.refl _ _ | exact below_drewN (Below.refl _ _) _)).mono ?_; rintro e wx ⟨rfl, hbx⟩; have Hbx := Lib.hid (show Below wk.heap.size wk wx from (by first | exact hbx | exact (below_drewN (Below.refl _ _) _).trans hbx)); clear hbx))
            | (go_at_call 25; go_loud (refine (HTU.out _ (by first | exact Hbx.out | exact below_drewN Hbx.out _)).mono ?_; rintro e wy ⟨rfl, hby⟩; have Hby := Lib.hid hby; clear hby))
          all_goals (
            go_wp2
            go_ret
            exact ⟨rfl, by first | exact Hby.out | exact below_drewN Hby.out _⟩)

end Go.Proofs.YtfaeechidjpjbaaGreat.vaultSealed
