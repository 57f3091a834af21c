/-
  For all words l (60 at most are looked at) and all that is proposed: nothing hangs on the order in which nodes are heard; SlotsOrder returns true; no condition.
-/
import Derived.Test.YtmdgcimjmmnbjaaZ01
import Derived.Test.YtmdgcimjmmnbjaaZ16
import Derived.Test.YtmdgcimjmmnbjaaZ14
namespace Go.Proofs.Ytmdgcimjmmnbjaa.slotsOrder
open Go.ChangeShapes Go.WideShapes Go.ChangeAt Go.RowKit Go.Maps Go.Shelf Go.Sort CrewP
set_option linter.unusedVariables false

set_option linter.unusedSimpArgs false
set_option maxRecDepth 100000 in
set_option maxHeartbeats 64000000 in
theorem walk (Al : Option Addr) (nl cl : Nat) (l : List WdS) (Aproposed : Option Addr) (nproposed cproposed : Nat) (proposed : List UInt8) (w : World) (hl : ArgWs w Al nl cl l) (hproposed : ArgB w Aproposed nproposed cproposed proposed) :
    Calls Try.prog 3 #[.slice Al nl cl, .slice Aproposed nproposed cproposed] w fun e w' => e = .returned (.bool true) ∧ Below w.heap.size w w' := by
  have HL := Lib.hid hl
  have hlen := hl.1
  have hnl : (nl : Int) ≤ 9223372036854775807 := by have := hl.2.1; have := hl.2.2.1; unfold maxLen at this; omega
  clear hl
  have HPb := Lib.hid hproposed
  clear hproposed
  have HF : Hid (∀ W, Calls Try.prog 8 #[.int .i64 1, .int .i64 1] W fun e w' => ∃ g, e = .returned (.pointer (some ⟨g, 0, none⟩)) ∧ StAt w' (fun b => W.heap.size ≤ b ∧ b < w'.heap.size) g (fr 1) ∧ Below W.heap.size W w') := Lib.hid fun W => fresh_any 1 (by omega) (by omega) 1 (by omega) (by omega) W
  have HAw : Hid (∀ W, Calls Try.prog 16 #[] W fun e w' => e = .returned (.bool true) ∧ Below W.heap.size W w') := Lib.hid fun W => awake_any W
  go_enter Try.func3, Try.ntmps3
  go_wp2_with fail
  refine (HF.out _).mono ?_
  rintro e w1 ⟨g, rfl, hst, hb1⟩
  have H1 := Lib.hid (And.intro hst hb1)
  clear hst hb1
  go_wp2_with fail
  refine (HF.out _).mono ?_
  rintro e w2 ⟨h, rfl, hst, hb1⟩
  have H2 := Lib.hid (As2.new H1.out.1 H1.out.2 hst hb1)
  clear hst hb1 H1
  go_upto_region 4 with fail
  go_loopw [7, 8] (fun v7 v8 wr => ∃ (i : Nat) (m : St) (fit : List WdS) (A : Option Addr) (cap : Nat) (V : BlkL), i ≤ nl ∧ i ≤ 60 ∧ v8 = .int .i64 (i : Int) ∧ v7 = .slice A fit.length cap ∧ fit.length ≤ i ∧ OrS m (fun _ => none) fit ∧ (∀ y ∈ fit, Wf y.nd ∧ Wf y.sq ∧ y.vw = 0) ∧ FitV A cap fit V ∧ As2 w wr g h m (fr 1) V) (fun _ v _ => 100 - (intOf v).toNat)
  case atStart => exact ⟨0, fr 1, [], none, 0, [], by omega, by omega, rfl, rfl, by simp, OrS.fresh, (fun y hy => by cases hy), FitV.nil _, H2.out⟩
  case round =>
    rename World => wo
    obtain ⟨i, m, fit, A, cap, V, hi, hi60, rfl, rfl, hfl, hT, hW, hV, hA⟩ := hrel
    have HT := Lib.hid (And.intro hT hW)
    have HA := Lib.hid hA
    have HVf := Lib.hid hV
    clear hT hA hV hW
    by_cases hc : i < nl ∧ i < 60
    · obtain ⟨hc1, hc2⟩ := hc
      have hd1 : (i : Int) < (nl : Int) := by omega
      have hd2 : (i : Int) < 60 := by omega
      have hwi : IntKind.i64.wrap ((i : Int) + 1) = (i : Int) + 1 := IntWalk.i64_in _ (by omega)
      obtain ⟨bl, ol, hAl, hbl0, hW⟩ := (HL.out.after HA.out.bel).at_ (j := i) (by omega)
      obtain ⟨k1, k2, c0⟩ := hW
      generalize l[i] = x at *
      subst hAl
      have ix := fun W => word_at W bl ol nl cl i hc1
      obtain ⟨W2, e4, e5, e6, e7⟩ := HA.out.word x
      obtain ⟨V2, hV2⟩ : ∃ V2 : BlkL, (wo.heap.size, 27, wcW (zv x)) :: V = V2 := ⟨_, rfl⟩
      rw [hV2] at e7
      have hmem : (wo.heap.size, 27, wcW (zv x)) ∈ V2 := by rw [← hV2]; simp
      have hmemV : ∀ p ∈ V, p ∈ V2 := by rw [← hV2]; exact fun p hp => by simp [hp]
      have HW := Lib.hid (And.intro e4 (And.intro e5 (And.intro e6 e7)))
      have HC := Lib.hid (And.intro k1 (And.intro k2 c0))
      clear e4 e5 e6 e7 k1 k2 c0 hV2
      obtain ⟨E, hE⟩ : ∃ E, wE 1 m x = E := ⟨_, rfl⟩
      have HS := HW.out.2.2.2.says 1 (by omega) (zv x) HC.out.1 HC.out.2.1 (E := E) hE
      rw [show wS (1 : Nat) m (zv x) = wS 1 m x from rfl] at HS
      obtain ⟨m', hm'⟩ : ∃ m', wS 1 m x = m' := ⟨_, rfl⟩
      rw [hm'] at HS
      have HSy := Lib.hid HS
      have HG := Lib.hid (And.intro hm' hE)
      clear HS hm' hE
      have hi5 : Hid ((Try.prog.info? 27).map (·.size) = some ([.int .i64 x.nd, .int .i64 0, .int .i64 x.sq, .bool x.c, .int .u8 (x.b.toNat : Int)] : List Value).length) := Lib.hid word_info1
      go_upto_region 6 with fail
      go_upto_region 8 with (refine load_mid_g rfl 27 _ rfl bl (ol + i * 5) rfl [.int .i64 x.nd, .int .i64 x.vw, .int .i64 x.sq, .bool x.c, .int .u8 (x.b.toNat : Int)] _ HC.out.2.2 Try.underlying27 rfl hi5.out ?_; simp only [Act.put])
      clear ix
      rw [HW.out.1]
      have LD := Lib.hid HW.out.2.1.range
      go_wp2_with (refine load_mid_g rfl 27 _ rfl wo.heap.size 0 rfl [.int .i64 x.nd, .int .i64 0, .int .i64 x.sq, .bool x.c, .int .u8 (x.b.toNat : Int)] _ LD.out Try.underlying27 rfl hi5.out ?_; simp only [Act.put])
      refine HSy.out.mono ?_
      rintro e wv ⟨rfl, hA4⟩
      have H4 := Lib.hid hA4
      clear hA4 LD
      by_cases hE0 : E = 0
      · subst hE0
        have hT' : OrS m' (fun _ => none) (fit ++ [zv x]) := by rw [← HG.out.1]; exact HT.out.1.say (x := zv x) HG.out.2 (fun z => by simp)
        have hW' : ∀ y ∈ fit ++ [zv x], Wf y.nd ∧ Wf y.sq ∧ y.vw = 0 := fun y hy => by
          rcases List.mem_append.1 hy with hy | hy
          · exact HT.out.2 y hy
          · rw [List.mem_singleton] at hy; subst hy; exact ⟨HC.out.1, HC.out.2.1, rfl⟩
        have hBv := H4.out.blk hmem
        have hrow0 := HVf.out.row (H4.out.less hmemV)
        have eC : wcW (zv x) = wcs [zv x] := by simp [wcs]
        obtain ⟨w7, hw7⟩ : ∃ W, wv.alloc (.cells [.int .i64 x.nd, .int .i64 0, .int .i64 x.sq, .bool x.c, .int .u8 (x.b.toNat : Int)].toArray 27) = W := ⟨_, rfl⟩
        have hb7 : Below wv.heap.size wv w7 := by rw [← hw7]; exact (Below.refl _ _).alloc (Nat.le_refl _) _
        have hB7 : Blk w7 wv.heap.size 27 (wcs [zv x]) := by rw [← hw7, ← eC]; exact Blk.new rfl rfl
        have hr7 := row_word (.int .i64 x.nd) (.int .i64 0) (.int .i64 x.sq) (.bool x.c) (.int .u8 (x.b.toNat : Int)) wv
        rw [hw7] at hr7
        obtain ⟨A2, c2, w8, hr8, hrow8, hO8, hA8⟩ := app_word (x := zv x) (hrow0.below hb7 hrow0.lt) rfl hB7 (by omega) 22
        have hO7 : Out (blkOf A) wv w8 := (Out.ofBelow _ hb7).trans hO8 fun _ _ e => e
        obtain ⟨V3, hV3, hV3b⟩ := FitV.of hrow8 (by simp)
        have hA9 : As2 w w8 g h m' (fr 1) V3 := H4.out.turn hO7 (fun r hr => by obtain ⟨t, cs, hp⟩ := HVf.out.mem r hr; exact ⟨t, cs, hmemV _ hp⟩) (fun p hp => ⟨(hV3b p hp).1, by
          rcases hA8 p.1 (hV3b p hp).2 with e | e
          · obtain ⟨t, cs, hq⟩ := HVf.out.mem _ e
            exact .inl ⟨t, cs, hmemV _ hq⟩
          · right; rw [e]; exact hb7.size⟩)
        have hln : (fit ++ [zv x]).length = fit.length + 1 := by simp
        have HN := Lib.hid (And.intro hr7 (And.intro hr8 (And.intro hV3 (And.intro hA9 (And.intro hT' (And.intro hln (And.intro hBv.range hW')))))))
        clear hr7 hr8 hrow8 hO8 hA8 hO7 hV3 hV3b hA9 hT' hln hw7 hb7 hB7 hBv hrow0 eC hW'
        generalize hwl : fit.length = wl at *
        go_wp2_with (first
          | (refine load_mid_g rfl 27 _ rfl wo.heap.size 0 rfl [.int .i64 x.nd, .int .i64 0, .int .i64 x.sq, .bool x.c, .int .u8 (x.b.toNat : Int)] _ HN.out.2.2.2.2.2.2.1 Try.underlying27 rfl hi5.out ?_; simp only [Act.put])
          | (refine row_g rfl 22 1 _ rfl (.slice (some ⟨wv.heap.size, 0, none⟩) 1 1) w7 (by simp only [List.map_toArray, List.map_cons, List.map_nil]; exact HN.out.1) ?_; simp only [Act.put])
          | (refine app_g rfl _ _ _ _ rfl _ _ _ w8 rfl rfl HN.out.2.1 ?_; simp only [Act.put]))
        go_roundw
        case rel => exact ⟨i + 1, m', fit ++ [zv x], A2, c2, V3, by omega, by omega, by first | rfl | (push_cast; rfl), by rw [HN.out.2.2.2.2.2.1], by rw [HN.out.2.2.2.2.2.1]; omega, HN.out.2.2.2.2.1, HN.out.2.2.2.2.2.2.2, HN.out.2.2.1, HN.out.2.2.2.1⟩
        case measure => simp [intOf]; omega
      · have hE1 : (E == 0) = false := by simp [hE0]
        have hsame : m' = m := by rw [← HG.out.1]; exact off_wS (by have := HG.out.2; intro e; exact hE0 (this.symm.trans e))
        have H5 := Lib.hid (H4.out.less hmemV)
        rw [hsame] at H5
        clear hsame hmem
        go_wp2
        go_roundw
        case rel => exact ⟨i + 1, m, fit, A, cap, V, by omega, by omega, by first | rfl | (push_cast; rfl), rfl, by omega, HT.out.1, HT.out.2, HVf.out, H5.out⟩
        case measure => simp [intOf]; omega
    · have hd : ¬ ((i : Int) < (nl : Int)) ∨ ((i : Int) < (nl : Int) ∧ ¬ ((i : Int) < 60)) := by omega
      have hpl : nproposed ≤ 9223372036854775807 := by have := HPb.out.2.1; have := HPb.out.2.2.1; omega
      have hp1 := HA.out.swap.proposes (c := cproposed) HPb.out.1 hpl (fun U hU hlow _ => ByO.of_bs HPb.out.2.2.2 HA.out.bel hlow)
      have HP1 := Lib.hid hp1
      clear hp1
      have hTa := HT.out.1.props proposed 8 (Nat.le_refl _)
      have hTb := OrS.fresh.props proposed 8 (Nat.le_refl _)
      obtain ⟨ma, hma⟩ : ∃ z, prS m 0 proposed 8 = z := ⟨_, rfl⟩
      obtain ⟨mb, hmb⟩ : ∃ z, prS (fr 1) 0 proposed 8 = z := ⟨_, rfl⟩
      obtain ⟨pp, hpp⟩ : ∃ z, (fun j => if j < 8 then some (dg ((proposed.getD j 0) &&& 3)) else none) = z := ⟨_, rfl⟩
      rw [hma, hpp] at hTa
      rw [hmb, hpp] at hTb
      rw [hmb] at HP1
      have HTT := Lib.hid (And.intro hTa (And.intro hTb hma))
      clear hTa hTb hma hmb hpp
      have hws : IntKind.i64.wrap ((fit.length : Int) - 1) = (fit.length : Int) - 1 := IntWalk.i64_in _ (by omega)
      rcases hd with hd | ⟨hd, hd2⟩
      · skip
        go_wp2_with fail
        refine HP1.out.mono ?_
        rintro e w3 ⟨rfl, hA3⟩
        have hp2 := hA3.swap.proposes (c := cproposed) HPb.out.1 hpl (fun U hU hlow _ => ByO.of_bs HPb.out.2.2.2 hA3.bel hlow)
        rw [HTT.out.2.2] at hp2
        have HP2 := Lib.hid hp2
        clear hp2 hA3
        go_wp2_with fail
        refine HP2.out.mono ?_
        rintro e w4 ⟨rfl, hA4⟩
        have H4 := Lib.hid hA4
        clear hA4
        obtain ⟨N, hN⟩ : ∃ N, fit.length = N := ⟨_, rfl⟩
        rw [hN] at hws ⊢
        have HNl := Lib.hid hN
        have hN60 : N ≤ 60 := by omega
        clear hN hfl
        go_upto_region 13 with fail
        go_loopw [10] (fun v10 wr => ∃ (k : Nat) (n : St) (fb : List WdS), k ≤ N ∧ v10 = .int .i64 ((k : Int) - 1) ∧ OrS n pp fb ∧ (∀ y, y ∈ fb ↔ y ∈ fit.drop k) ∧ As2 w wr g h ma n V) (fun v _ => (intOf v + 1).toNat)
        case atStart => exact ⟨N, mb, [], Nat.le_refl _, rfl, HTT.out.2.1, (fun y => by rw [List.drop_of_length_le (by rw [HNl.out]; exact Nat.le_refl _)]), H4.out⟩
        case round =>
          rename World => wx
          obtain ⟨k, n, fb, hk, rfl, hn, hfb, hA⟩ := hrel
          have HX := Lib.hid (And.intro hn (And.intro hfb hA))
          clear hn hfb hA
          by_cases hk0 : 0 < k
          · have hk1 : (k : Int) - 1 ≥ 0 := by omega
            obtain ⟨q, rfl⟩ : ∃ q, k = q + 1 := ⟨k - 1, by omega⟩
            have hqe : ((q + 1 : Nat) : Int) - 1 = (q : Int) := by omega
            rw [hqe] at hk1 ⊢
            have hql : q < fit.length := by rw [HNl.out]; omega
            have hqN : (q : Int) < (N : Int) := by omega
            have hwq : IntKind.i64.wrap ((q : Int) - 1) = (q : Int) - 1 := IntWalk.i64_in _ (by omega)
            obtain ⟨rr, cur, hAr, hpm, hcur⟩ := HVf.out.cells hql
            have hB := HX.out.2.2.blk hpm
            have hrng := hB.rangeFrom (o := q * 5) (n := 5) hcur
            have hdr : fit.drop q = fit[q] :: fit.drop (q + 1) := List.drop_eq_getElem_cons hql
            have hyf : fit[q] ∈ fit := List.getElem_mem hql
            obtain ⟨y, hy⟩ : ∃ y, fit[q] = y := ⟨_, rfl⟩
            rw [hy] at hrng hdr hyf
            obtain ⟨y1, y2, y3⟩ := HT.out.2 y hyf
            have hag : wE 1 n y = 0 := HTT.out.1.again HX.out.1 (fun z hz => List.mem_of_mem_drop ((HX.out.2.1 z).1 hz)) hyf
            have hsy := HX.out.2.2.swap.says 1 (by omega) y y1 y2 (E := 0) hag
            have hn' := HX.out.1.say (fit' := y :: fb) hag (fun z => by rw [List.mem_cons]; exact or_comm)
            have hfb' : ∀ z, z ∈ y :: fb ↔ z ∈ fit.drop q := fun z => by rw [hdr, List.mem_cons, List.mem_cons, HX.out.2.1]
            have eY : wcW y = [.int .i64 y.nd, .int .i64 0, .int .i64 y.sq, .bool y.c, .int .u8 (y.b.toNat : Int)] := by unfold wcW; rw [y3]
            rw [eY] at hrng
            rw [show wS (1 : Nat) n y = wS 1 n y from rfl] at hsy
            have HY := Lib.hid (And.intro hrng (And.intro hsy (And.intro hn' hfb')))
            have ix := fun W => word_at W rr 0 N cap q (by omega)
            simp only [Nat.zero_add] at ix
            subst hAr
            have hi5 : Hid ((Try.prog.info? 27).map (·.size) = some ([.int .i64 y.nd, .int .i64 0, .int .i64 y.sq, .bool y.c, .int .u8 (y.b.toNat : Int)] : List Value).length) := Lib.hid word_info1
            clear hrng hsy hn' hfb' hag hdr hB hpm hcur hyf hy y1 y2 y3 eY
            go_wp2_with (refine load_mid_g rfl 27 _ rfl rr (q * 5) rfl [.int .i64 y.nd, .int .i64 0, .int .i64 y.sq, .bool y.c, .int .u8 (y.b.toNat : Int)] _ HY.out.1 Try.underlying27 rfl hi5.out ?_; simp only [Act.put])
            refine HY.out.2.1.mono ?_
            rintro e w5 ⟨rfl, hA5⟩
            have H5 := Lib.hid hA5.swap
            clear hA5 ix
            go_wp2
            go_roundw
            case rel => exact ⟨q, _, y :: fb, by omega, by first | rfl | (push_cast; rfl), HY.out.2.2.1, HY.out.2.2.2, H5.out⟩
            case measure => simp [intOf]; try omega
          · have hk1 : ¬ (k : Int) - 1 ≥ 0 := by omega
            obtain rfl : k = 0 := by omega
            have hsm := HTT.out.1.eq HX.out.1 (fun z => by rw [HX.out.2.1, List.drop_zero])
            have hps := fun seq => same_pre hsm seq
            have hal := same_all hsm
            obtain ⟨lp, hlp⟩ : ∃ z, (List.range 8).flatMap (pTs n) = z := ⟨_, rfl⟩
            obtain ⟨lq, hlq⟩ : ∃ z, (List.range 8).flatMap (qTs n) = z := ⟨_, rfl⟩
            rw [hlp, hlq] at hal
            have h32 : lp.length ≤ 32 := by rw [← hlp]; refine flat8 _ fun j hj => ?_; unfold pTs pT; split <;> simp
            have h33 : lq.length ≤ 32 := by rw [← hlq]; refine flat8 _ fun j hj => ?_; unfold qTs; rw [qT_len, HX.out.1.q j hj]; cases pp j <;> simp
            have HZ := Lib.hid (And.intro hps (And.intro hal (And.intro hlp hlq)))
            clear hsm hps hal hlp hlq
            go_upto_region 18 with fail
            go_loopw [11] (fun v11 wr => ∃ s : Nat, 1 ≤ s ∧ s ≤ 9 ∧ v11 = .int .i64 (s : Int) ∧ Below wx.heap.size wx wr) (fun v _ => 20 - (intOf v).toNat)
            case atStart => exact ⟨1, by omega, by omega, rfl, Below.refl _ _⟩
            case round =>
              obtain ⟨s, hs1, hs9, rfl, hb⟩ := hrel
              have HB := Lib.hid (HX.out.2.2.below hb)
              have Hb := Lib.hid hb
              clear hb
              by_cases hs : s < 9
              · have hs' : (s : Int) < 9 := by omega
                have hwsq : IntKind.i64.wrap ((s : Int) + 1) = (s : Int) + 1 := IntWalk.i64_in _ (by omega)
                have hwf : Wf (s : Int) := wf_b (by omega) (by omega)
                obtain ⟨B, hB⟩ : ∃ B, preS n (s : Int) = B := ⟨_, rfl⟩
                obtain ⟨C, hC⟩ : ∃ C, comS n (s : Int) = C := ⟨_, rfl⟩
                have P1 : Hid (∀ W, Below wx.heap.size wx W → Calls Try.prog 11 #[.pointer (some ⟨g, 0, none⟩), .int .i64 (s : Int)] W fun e w' => e = .returned (.bool B) ∧ Below wx.heap.size wx w') := Lib.hid fun W hb => ((HX.out.2.2.below hb).pre hwf ((HZ.out.1 _).1.trans hB)).mono fun e w' ⟨he, hw⟩ => ⟨he, hb.trans (hw.mono hb.size)⟩
                have P2 : Hid (∀ W, Below wx.heap.size wx W → Calls Try.prog 11 #[.pointer (some ⟨h, 0, none⟩), .int .i64 (s : Int)] W fun e w' => e = .returned (.bool B) ∧ Below wx.heap.size wx w') := Lib.hid fun W hb => ((HX.out.2.2.below hb).swap.pre hwf hB).mono fun e w' ⟨he, hw⟩ => ⟨he, hb.trans (hw.mono hb.size)⟩
                have P3 : Hid (∀ W, Below wx.heap.size wx W → Calls Try.prog 12 #[.pointer (some ⟨g, 0, none⟩), .int .i64 (s : Int)] W fun e w' => e = .returned (.bool C) ∧ Below wx.heap.size wx w') := Lib.hid fun W hb => ((HX.out.2.2.below hb).com hwf ((HZ.out.1 _).2.trans hC)).mono fun e w' ⟨he, hw⟩ => ⟨he, hb.trans (hw.mono hb.size)⟩
                have P4 : Hid (∀ W, Below wx.heap.size wx W → Calls Try.prog 12 #[.pointer (some ⟨h, 0, none⟩), .int .i64 (s : Int)] W fun e w' => e = .returned (.bool C) ∧ Below wx.heap.size wx w') := Lib.hid fun W hb => ((HX.out.2.2.below hb).swap.com hwf hC).mono fun e w' ⟨he, hw⟩ => ⟨he, hb.trans (hw.mono hb.size)⟩
                clear hB hC
                go_wp2_with fail
                refine (P1.out _ Hb.out).mono ?_
                rintro e x1 ⟨rfl, hb⟩
                have Q1 := Lib.hid hb
                clear hb
                go_wp2_with fail
                refine (P2.out _ Q1.out).mono ?_
                rintro e x2 ⟨rfl, hb⟩
                have Q2 := Lib.hid hb
                clear hb
                go_wp2_with fail
                refine (P3.out _ Q2.out).mono ?_
                rintro e x3 ⟨rfl, hb⟩
                have Q3 := Lib.hid hb
                clear hb
                go_wp2_with fail
                refine (P4.out _ Q3.out).mono ?_
                rintro e x4 ⟨rfl, hb⟩
                have Q4 := Lib.hid hb
                clear hb
                go_wp2
                go_roundw
                case rel => exact ⟨s + 1, by omega, by omega, by first | rfl | (push_cast; rfl), Q4.out⟩
                case measure => simp [intOf]; omega
              · have hs' : ¬ (s : Int) < 9 := by omega
                go_wp2_with fail
                refine (HB.out.ps HZ.out.2.1.1).mono ?_
                rintro e x1 ⟨A1, c1, rfl, hsh, hb⟩
                have Q1 := Lib.hid (And.intro hsh (HB.out.below hb))
                clear hsh hb
                go_wp2_with fail
                refine (Q1.out.2.swap.ps HZ.out.2.2.1).mono ?_
                rintro e x2 ⟨A2, c2, rfl, hsh, hb⟩
                have Q2 := Lib.hid (And.intro (stands_any (c := c1) (c' := c2) (Q1.out.1.below hb) hsh rfl rfl (by omega) (by omega)) (Q1.out.2.below hb))
                clear hsh hb
                simp only [decide_true] at Q2
                go_wp2_with fail
                refine Q2.out.1.mono ?_
                rintro e x3 ⟨rfl, hb⟩
                have Q3 := Lib.hid (Q2.out.2.below hb)
                clear hb
                go_wp2_with fail
                refine (Q3.out.qs HZ.out.2.1.2).mono ?_
                rintro e x4 ⟨A3, c3, rfl, hsh, hb⟩
                have Q4 := Lib.hid (And.intro hsh (Q3.out.below hb))
                clear hsh hb
                go_wp2_with fail
                refine (Q4.out.2.swap.qs HZ.out.2.2.2).mono ?_
                rintro e x5 ⟨A4, c4, rfl, hsh, hb⟩
                have Q5 := Lib.hid (And.intro (stands_any (c := c3) (c' := c4) (Q4.out.1.below hb) hsh rfl rfl (by omega) (by omega)) (Q4.out.2.below hb))
                clear hsh hb
                simp only [decide_true] at Q5
                go_wp2_with fail
                refine Q5.out.1.mono ?_
                rintro e x6 ⟨rfl, hb⟩
                have Q6 := Lib.hid (Q5.out.2.below hb)
                clear hb
                go_wp2_with fail
                refine (HAw.out _).mono ?_
                rintro e x7 ⟨rfl, hb⟩
                have Q7 := Lib.hid (Q6.out.below hb)
                clear hb
                go_wp2
                go_ret
                exact ⟨rfl, Q7.out.bel⟩
      · skip
        go_wp2_with fail
        refine HP1.out.mono ?_
        rintro e w3 ⟨rfl, hA3⟩
        have hp2 := hA3.swap.proposes (c := cproposed) HPb.out.1 hpl (fun U hU hlow _ => ByO.of_bs HPb.out.2.2.2 hA3.bel hlow)
        rw [HTT.out.2.2] at hp2
        have HP2 := Lib.hid hp2
        clear hp2 hA3
        go_wp2_with fail
        refine HP2.out.mono ?_
        rintro e w4 ⟨rfl, hA4⟩
        have H4 := Lib.hid hA4
        clear hA4
        obtain ⟨N, hN⟩ : ∃ N, fit.length = N := ⟨_, rfl⟩
        rw [hN] at hws ⊢
        have HNl := Lib.hid hN
        have hN60 : N ≤ 60 := by omega
        clear hN hfl
        go_upto_region 13 with fail
        go_loopw [10] (fun v10 wr => ∃ (k : Nat) (n : St) (fb : List WdS), k ≤ N ∧ v10 = .int .i64 ((k : Int) - 1) ∧ OrS n pp fb ∧ (∀ y, y ∈ fb ↔ y ∈ fit.drop k) ∧ As2 w wr g h ma n V) (fun v _ => (intOf v + 1).toNat)
        case atStart => exact ⟨N, mb, [], Nat.le_refl _, rfl, HTT.out.2.1, (fun y => by rw [List.drop_of_length_le (by rw [HNl.out]; exact Nat.le_refl _)]), H4.out⟩
        case round =>
          rename World => wx
          obtain ⟨k, n, fb, hk, rfl, hn, hfb, hA⟩ := hrel
          have HX := Lib.hid (And.intro hn (And.intro hfb hA))
          clear hn hfb hA
          by_cases hk0 : 0 < k
          · have hk1 : (k : Int) - 1 ≥ 0 := by omega
            obtain ⟨q, rfl⟩ : ∃ q, k = q + 1 := ⟨k - 1, by omega⟩
            have hqe : ((q + 1 : Nat) : Int) - 1 = (q : Int) := by omega
            rw [hqe] at hk1 ⊢
            have hql : q < fit.length := by rw [HNl.out]; omega
            have hqN : (q : Int) < (N : Int) := by omega
            have hwq : IntKind.i64.wrap ((q : Int) - 1) = (q : Int) - 1 := IntWalk.i64_in _ (by omega)
            obtain ⟨rr, cur, hAr, hpm, hcur⟩ := HVf.out.cells hql
            have hB := HX.out.2.2.blk hpm
            have hrng := hB.rangeFrom (o := q * 5) (n := 5) hcur
            have hdr : fit.drop q = fit[q] :: fit.drop (q + 1) := List.drop_eq_getElem_cons hql
            have hyf : fit[q] ∈ fit := List.getElem_mem hql
            obtain ⟨y, hy⟩ : ∃ y, fit[q] = y := ⟨_, rfl⟩
            rw [hy] at hrng hdr hyf
            obtain ⟨y1, y2, y3⟩ := HT.out.2 y hyf
            have hag : wE 1 n y = 0 := HTT.out.1.again HX.out.1 (fun z hz => List.mem_of_mem_drop ((HX.out.2.1 z).1 hz)) hyf
            have hsy := HX.out.2.2.swap.says 1 (by omega) y y1 y2 (E := 0) hag
            have hn' := HX.out.1.say (fit' := y :: fb) hag (fun z => by rw [List.mem_cons]; exact or_comm)
            have hfb' : ∀ z, z ∈ y :: fb ↔ z ∈ fit.drop q := fun z => by rw [hdr, List.mem_cons, List.mem_cons, HX.out.2.1]
            have eY : wcW y = [.int .i64 y.nd, .int .i64 0, .int .i64 y.sq, .bool y.c, .int .u8 (y.b.toNat : Int)] := by unfold wcW; rw [y3]
            rw [eY] at hrng
            rw [show wS (1 : Nat) n y = wS 1 n y from rfl] at hsy
            have HY := Lib.hid (And.intro hrng (And.intro hsy (And.intro hn' hfb')))
            have ix := fun W => word_at W rr 0 N cap q (by omega)
            simp only [Nat.zero_add] at ix
            subst hAr
            have hi5 : Hid ((Try.prog.info? 27).map (·.size) = some ([.int .i64 y.nd, .int .i64 0, .int .i64 y.sq, .bool y.c, .int .u8 (y.b.toNat : Int)] : List Value).length) := Lib.hid word_info1
            clear hrng hsy hn' hfb' hag hdr hB hpm hcur hyf hy y1 y2 y3 eY
            go_wp2_with (refine load_mid_g rfl 27 _ rfl rr (q * 5) rfl [.int .i64 y.nd, .int .i64 0, .int .i64 y.sq, .bool y.c, .int .u8 (y.b.toNat : Int)] _ HY.out.1 Try.underlying27 rfl hi5.out ?_; simp only [Act.put])
            refine HY.out.2.1.mono ?_
            rintro e w5 ⟨rfl, hA5⟩
            have H5 := Lib.hid hA5.swap
            clear hA5 ix
            go_wp2
            go_roundw
            case rel => exact ⟨q, _, y :: fb, by omega, by first | rfl | (push_cast; rfl), HY.out.2.2.1, HY.out.2.2.2, H5.out⟩
            case measure => simp [intOf]; try omega
          · have hk1 : ¬ (k : Int) - 1 ≥ 0 := by omega
            obtain rfl : k = 0 := by omega
            have hsm := HTT.out.1.eq HX.out.1 (fun z => by rw [HX.out.2.1, List.drop_zero])
            have hps := fun seq => same_pre hsm seq
            have hal := same_all hsm
            obtain ⟨lp, hlp⟩ : ∃ z, (List.range 8).flatMap (pTs n) = z := ⟨_, rfl⟩
            obtain ⟨lq, hlq⟩ : ∃ z, (List.range 8).flatMap (qTs n) = z := ⟨_, rfl⟩
            rw [hlp, hlq] at hal
            have h32 : lp.length ≤ 32 := by rw [← hlp]; refine flat8 _ fun j hj => ?_; unfold pTs pT; split <;> simp
            have h33 : lq.length ≤ 32 := by rw [← hlq]; refine flat8 _ fun j hj => ?_; unfold qTs; rw [qT_len, HX.out.1.q j hj]; cases pp j <;> simp
            have HZ := Lib.hid (And.intro hps (And.intro hal (And.intro hlp hlq)))
            clear hsm hps hal hlp hlq
            go_upto_region 18 with fail
            go_loopw [11] (fun v11 wr => ∃ s : Nat, 1 ≤ s ∧ s ≤ 9 ∧ v11 = .int .i64 (s : Int) ∧ Below wx.heap.size wx wr) (fun v _ => 20 - (intOf v).toNat)
            case atStart => exact ⟨1, by omega, by omega, rfl, Below.refl _ _⟩
            case round =>
              obtain ⟨s, hs1, hs9, rfl, hb⟩ := hrel
              have HB := Lib.hid (HX.out.2.2.below hb)
              have Hb := Lib.hid hb
              clear hb
              by_cases hs : s < 9
              · have hs' : (s : Int) < 9 := by omega
                have hwsq : IntKind.i64.wrap ((s : Int) + 1) = (s : Int) + 1 := IntWalk.i64_in _ (by omega)
                have hwf : Wf (s : Int) := wf_b (by omega) (by omega)
                obtain ⟨B, hB⟩ : ∃ B, preS n (s : Int) = B := ⟨_, rfl⟩
                obtain ⟨C, hC⟩ : ∃ C, comS n (s : Int) = C := ⟨_, rfl⟩
                have P1 : Hid (∀ W, Below wx.heap.size wx W → Calls Try.prog 11 #[.pointer (some ⟨g, 0, none⟩), .int .i64 (s : Int)] W fun e w' => e = .returned (.bool B) ∧ Below wx.heap.size wx w') := Lib.hid fun W hb => ((HX.out.2.2.below hb).pre hwf ((HZ.out.1 _).1.trans hB)).mono fun e w' ⟨he, hw⟩ => ⟨he, hb.trans (hw.mono hb.size)⟩
                have P2 : Hid (∀ W, Below wx.heap.size wx W → Calls Try.prog 11 #[.pointer (some ⟨h, 0, none⟩), .int .i64 (s : Int)] W fun e w' => e = .returned (.bool B) ∧ Below wx.heap.size wx w') := Lib.hid fun W hb => ((HX.out.2.2.below hb).swap.pre hwf hB).mono fun e w' ⟨he, hw⟩ => ⟨he, hb.trans (hw.mono hb.size)⟩
                have P3 : Hid (∀ W, Below wx.heap.size wx W → Calls Try.prog 12 #[.pointer (some ⟨g, 0, none⟩), .int .i64 (s : Int)] W fun e w' => e = .returned (.bool C) ∧ Below wx.heap.size wx w') := Lib.hid fun W hb => ((HX.out.2.2.below hb).com hwf ((HZ.out.1 _).2.trans hC)).mono fun e w' ⟨he, hw⟩ => ⟨he, hb.trans (hw.mono hb.size)⟩
                have P4 : Hid (∀ W, Below wx.heap.size wx W → Calls Try.prog 12 #[.pointer (some ⟨h, 0, none⟩), .int .i64 (s : Int)] W fun e w' => e = .returned (.bool C) ∧ Below wx.heap.size wx w') := Lib.hid fun W hb => ((HX.out.2.2.below hb).swap.com hwf hC).mono fun e w' ⟨he, hw⟩ => ⟨he, hb.trans (hw.mono hb.size)⟩
                clear hB hC
                go_wp2_with fail
                refine (P1.out _ Hb.out).mono ?_
                rintro e x1 ⟨rfl, hb⟩
                have Q1 := Lib.hid hb
                clear hb
                go_wp2_with fail
                refine (P2.out _ Q1.out).mono ?_
                rintro e x2 ⟨rfl, hb⟩
                have Q2 := Lib.hid hb
                clear hb
                go_wp2_with fail
                refine (P3.out _ Q2.out).mono ?_
                rintro e x3 ⟨rfl, hb⟩
                have Q3 := Lib.hid hb
                clear hb
                go_wp2_with fail
                refine (P4.out _ Q3.out).mono ?_
                rintro e x4 ⟨rfl, hb⟩
                have Q4 := Lib.hid hb
                clear hb
                go_wp2
                go_roundw
                case rel => exact ⟨s + 1, by omega, by omega, by first | rfl | (push_cast; rfl), Q4.out⟩
                case measure => simp [intOf]; omega
              · have hs' : ¬ (s : Int) < 9 := by omega
                go_wp2_with fail
                refine (HB.out.ps HZ.out.2.1.1).mono ?_
                rintro e x1 ⟨A1, c1, rfl, hsh, hb⟩
                have Q1 := Lib.hid (And.intro hsh (HB.out.below hb))
                clear hsh hb
                go_wp2_with fail
                refine (Q1.out.2.swap.ps HZ.out.2.2.1).mono ?_
                rintro e x2 ⟨A2, c2, rfl, hsh, hb⟩
                have Q2 := Lib.hid (And.intro (stands_any (c := c1) (c' := c2) (Q1.out.1.below hb) hsh rfl rfl (by omega) (by omega)) (Q1.out.2.below hb))
                clear hsh hb
                simp only [decide_true] at Q2
                go_wp2_with fail
                refine Q2.out.1.mono ?_
                rintro e x3 ⟨rfl, hb⟩
                have Q3 := Lib.hid (Q2.out.2.below hb)
                clear hb
                go_wp2_with fail
                refine (Q3.out.qs HZ.out.2.1.2).mono ?_
                rintro e x4 ⟨A3, c3, rfl, hsh, hb⟩
                have Q4 := Lib.hid (And.intro hsh (Q3.out.below hb))
                clear hsh hb
                go_wp2_with fail
                refine (Q4.out.2.swap.qs HZ.out.2.2.2).mono ?_
                rintro e x5 ⟨A4, c4, rfl, hsh, hb⟩
                have Q5 := Lib.hid (And.intro (stands_any (c := c3) (c' := c4) (Q4.out.1.below hb) hsh rfl rfl (by omega) (by omega)) (Q4.out.2.below hb))
                clear hsh hb
                simp only [decide_true] at Q5
                go_wp2_with fail
                refine Q5.out.1.mono ?_
                rintro e x6 ⟨rfl, hb⟩
                have Q6 := Lib.hid (Q5.out.2.below hb)
                clear hb
                go_wp2_with fail
                refine (HAw.out _).mono ?_
                rintro e x7 ⟨rfl, hb⟩
                have Q7 := Lib.hid (Q6.out.below hb)
                clear hb
                go_wp2
                go_ret
                exact ⟨rfl, Q7.out.bel⟩

end Go.Proofs.Ytmdgcimjmmnbjaa.slotsOrder
