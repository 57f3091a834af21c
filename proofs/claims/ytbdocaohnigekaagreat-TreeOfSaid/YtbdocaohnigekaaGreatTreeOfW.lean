/-
  For all leaves (of more than 60 nothing is asked) and children: Of, Leaf and Up answer as the document's do, note as many inputs, and leave what is handed in; TreeOf returns true; no condition.
-/
import Derived.Test.YtbdocaohnigekaaGreatZ01
import Derived.Test.YtbdocaohnigekaaGreatZ17
import Derived.Deep.RegionHeld3
import Derived.Deep.RegionWith
import Derived.Deep.DeepCutAuto
namespace Go.Proofs.YtbdocaohnigekaaGreat.treeOf
open Go.ChangeShapes Go.WideShapes Go.ChangeAt Go.RowKit
set_option linter.unusedVariables false

set_option maxRecDepth 100000 in
set_option maxHeartbeats 6400000 in
theorem walk (Al : Option Addr) (nl cl : Nat) (l : List (List UInt8)) (Ach : Option Addr) (nch cch : Nat) (ch : List Dg) (w : World) (hl : ArgL w Al nl cl l ∧ ∀ x ∈ l, x.length ≤ 140737488351232) (hch : ArgG w Ach nch cch ch) :
    Calls Tryz.prog 4 #[.slice Al nl cl, .slice Ach nch cch] w fun e w' => e = .returned (.bool true) ∧ Below w.heap.size w w' := by
  have hll : l.length = nl := hl.1.1
  have hcl : nl ≤ cl := hl.1.2.1
  have hcm : cl ≤ maxLen := hl.1.2.2.1
  unfold maxLen at hcm
  have Hl := Lib.hid hl
  have Hch := Lib.hid hch
  have hnot : ∀ (x : Bool) (w : World), (Op.unary .not (.bool x)).run Tryz.prog w = .ok (.bool (!x)) w := fun _ _ => rfl
  clear hl hch
  go_enter Tryz.func4, Tryz.ntmps4
  go_wp2_with fail
  refine (bnew_any _).mono ?_
  rintro e w1 ⟨S, g, bm, rfl, hS, hb, hb1⟩
  have H0 := Lib.hid (And.intro hS (And.intro hb hb1))
  clear hS hb hb1
  go_wp2_with fail
  refine (rbnew_any _).mono ?_
  rintro e w2 ⟨gr, rfl, hgr, hr, hb2⟩
  have H2 := Lib.hid (And.intro (duo_new H0.out.1 H0.out.2.1 H0.out.2.2 hr hgr hb2) (H0.out.2.2.trans (hb2.mono H0.out.2.2.size)))
  clear hgr hr hb2 H0
  by_cases h60 : 60 < nl
  · have g1 : (60 : Int) < (nl : Int) := by omega
    go_wp2_with (go_at_call 8; refine (works9_any _).mono ?_; rintro e w3 ⟨rfl, hb3⟩)
    go_ret
    exact ⟨rfl, H2.out.2.trans (hb3.mono H2.out.2.size)⟩
  · have g1 : ¬ (60 : Int) < (nl : Int) := by omega
    have Hll := Lib.hid hll
    clear hll
    go_wp2
    go_loopw [7, 8] (fun v iv wr => ∃ k : Nat, k ≤ nl ∧ iv = .int .i64 (k : Int) ∧ CopyS w2.heap.size v (l.take k) wr ∧ Below w2.heap.size w2 wr) (fun _ iv _ => nl - (intOf iv).toNat)
    case atStart => exact ⟨0, Nat.zero_le _, rfl, CopyS.nil _ _, Below.refl _ _⟩
    case round =>
      obtain ⟨k, hk, rfl, hC, hB⟩ := hrel
      by_cases hlt : k < nl
      · have hkl : k < l.length := by rw [Hll.out]; exact hlt
        obtain ⟨sb, so, Aj, cj, rfl, hsb, hc, hle, hcmj, hBx⟩ := Hl.out.1.2.2.2.at_ (j := k) hkl
        have hx47 := Hl.out.2 _ (List.getElem_mem hkl)
        have hbw : Below w.heap.size w wr := H2.out.2.trans (hB.mono H2.out.2.size)
        have hcw : wr.cell? ⟨sb, so + k, none⟩ = some (.slice Aj (l[k]'hkl).length cj) := (hbw.cell hsb).trans hc
        have hst : l.take (k + 1) = l.take k ++ [l[k]'hkl] := List.take_succ_eq_append_getElem hkl
        generalize (l[k]'hkl) = x at *
        obtain ⟨nx, hnx⟩ : ∃ a, x.length = a := ⟨_, rfl⟩
        rw [hnx] at hcw hx47
        have Hcb := Lib.hid (copyBytes Aj cj nx x wr (hBx.after hbw) hnx (by omega))
        have H3 := Lib.hid (And.intro hC (And.intro hB (And.intro hst hnx)))
        have k0 : (0 : Int) ≤ (k : Int) := by omega
        have k1 : (k : Int) < (nl : Int) := by omega
        clear hC hB hst hnx hbw hc hle hcmj hBx hx47 hsb hkl
        go_wp2_with fail
        refine Hcb.out.mono ?_
        rintro e w3 ⟨hd, rfl, hN⟩
        obtain ⟨hC, hB, hst, hnx⟩ := H3.out
        have hNm := hN.1
        obtain ⟨A3, c3, rfl, h31, h32, h33⟩ := hN.form
        rw [hnx] at hNm ⊢
        obtain ⟨vs, hr, hvs⟩ := hC
        have hr3 := row_stay hr fun b cs hb _ => hN.2.block b (row_ltv hr hb).2
        have hvs3 : ∀ j (hj : j < (l.take k).length), ∃ h, vs[j]? = some h ∧ Mine w3 w2.heap.size 5 h (l.take k)[j] := fun j hj => by
          obtain ⟨h, e, hm⟩ := hvs j hj
          exact ⟨h, e, hm.after hN.2⟩
        have htl : (l.take k).length = k := by rw [List.length_take, Hll.out]; omega
        have hsz := Nat.le_trans hB.size hN.2.size
        obtain ⟨v', w', hap, hr', hg'⟩ := push_sb w3 w2.heap.size _ (l.take k).length vs hr3 (.slice A3 nx c3) rfl (by omega) hsz
        have hC' : CopyS w2.heap.size v' (l.take (k + 1)) w' := by rw [hst]; exact CopyS.step hr3 hvs3 (row_base hNm hB.size) hr' hg'
        have hB' : Below w2.heap.size w2 w' := (hB.trans (hN.2.mono hB.size)).grown hg' hsz fun j hj => (row_ltv hr3 hj).1
        have H4 := Lib.hid (And.intro hC' hB')
        have Hap := Lib.hid hap
        clear hB hst hnx hNm h31 h32 h33 hr hvs hr3 hvs3 htl hsz hap hr' hg' hC' hB' hN hcw
        go_wp2_with (at_builtin; refine wp_appendG rfl _ _ _ _ rfl _ _ v' w' rfl rfl Hap.out ?_)
        go_roundw
        case rel => exact ⟨k + 1, by omega, by go_num, H4.out.1, H4.out.2⟩
        case measure => simp [intOf]; omega
      · obtain rfl : k = nl := by omega
        rw [List.take_of_length_le (by rw [Hll.out]; omega)] at hC
        obtain ⟨w3, hw3⟩ : ∃ w3, w3 = wr := ⟨_, rfl⟩
        subst hw3
        obtain ⟨Ain, cin, rfl, hcin, hcim, hIn⟩ := hC.form Hll.out
        obtain ⟨d1, c1, s1, hd1, hs1, hs1', hOf, hROf⟩ := duo_of l k Hll.out (by omega) ([], false, 0) (by decide) (by decide)
        obtain ⟨d2, c2, s2, hd2, hs2, hs2', hUp, hRUp⟩ := duo_up ch nch Hch.out.1 Hch.out.2.2.2.1 s1 (by simp at hs1; omega) (by simp at hs1'; omega)
        have hD3 : Duo9 w.heap.size w3 g bm ([], false, 0) gr ([], 0) (fun j => w2.heap.size ≤ j ∧ j < w3.heap.size) := H2.out.1.belowN hB fun i hi => .inr hi
        have hb3 : Below w.heap.size w w3 := H2.out.2.trans (hB.mono H2.out.2.size)
        have Hof := Lib.hid (hOf _ _ _ _ _ _ _ _ _ cin hD3 hb3.size hIn (fun j hj => ⟨hj.2, .inr hj⟩))
        obtain ⟨D1, hD1⟩ : ∃ D, cbs d1 = D := ⟨_, rfl⟩
        obtain ⟨D2, hD2⟩ : ∃ D, cbs d2 = D := ⟨_, rfl⟩
        have h132 : D1.length = 32 := by rw [← hD1, cbs_length, hd1]
        have h232 : D2.length = 32 := by rw [← hD2, cbs_length, hd2]
        have h11 : D1.toArray.all (·.oneCell') = true := by rw [← hD1]; exact cbs_one' _
        have h21 : D2.toArray.all (·.oneCell') = true := by rw [← hD2]; exact cbs_one' _
        have heq1 := fun w' => eq_self D1 d1 hD1 hd1 w'
        have heq2 := fun w' => eq_self D2 d2 hD2 hd2 w'
        have HDi := Lib.hid (show (Tryz.prog.info? 46).map (·.size) = some D1.length ∧ (Tryz.prog.info? 46).map (·.size) = some D2.length from by rw [h132, h232]; exact ⟨info32b, info32b⟩)
        have HD := Lib.hid (And.intro h132 (And.intro h11 (And.intro h232 (And.intro h21 (And.intro hD1 hD2)))))
        have HF := Lib.hid (And.intro hs1 (And.intro hs1' (And.intro hs2 hs2')))
        have HO := Lib.hid hROf
        have HU := Lib.hid hUp
        have HR := Lib.hid hRUp
        have H3 := Lib.hid (And.intro hb3 (And.intro hcin (And.intro hcim (And.intro hIn (hB.size : w2.heap.size ≤ w3.heap.size)))))
        have k1 : ¬ (k : Int) < (k : Int) := by omega
        clear hC hB hcin hcim hIn hD3 hb3 hd1 hd2 hs1 hs1' hs2 hs2' hOf hROf hUp hRUp hD1 hD2 h132 h232 h11 h21
        go_wp2_with fail
        refine Hof.out.mono ?_
        rintro e w4 ⟨hsaid, hD4, hO4⟩
        unfold Said at hsaid
        subst hsaid
        rw [HD.out.2.2.2.2.1]
        obtain ⟨w5, hw5, ⟨hth5, hi5⟩, hbS5, hbel5, hsz5⟩ := dig_local w4 D1 HD.out.1
        have hb5 : Below w.heap.size w w5 := (H3.out.1.trans (hO4.above (fun i hi => hi.1) H3.out.1.size)).trans (hbel5.mono (Nat.le_trans H3.out.1.size hO4.size))
        have hD5 := hD4.belowN (N' := fun j => (w2.heap.size ≤ j ∧ j < w3.heap.size) ∨ j = w4.heap.size) hbel5 (fun i hi => by
          rcases hi with hi | rfl
          · exact .inl hi
          · exact .inr ⟨Nat.le_refl _, by omega⟩)
        have hLv5 : k ≠ 0 → LvsAt w5 (fun j => j < w.heap.size) Al l := fun h0 => (Hl.out.1.lvs h0).stays ⟨hb5.size, fun j hj => hb5.block j hj⟩
        have Hrof := Lib.hid (HO.out _ _ _ _ _ _ _ _ _ cl hD5 hb5.size hLv5 (fun j hj => ⟨Nat.lt_of_lt_of_le hj hb5.size, .inl hj⟩))
        have Hw5 := Lib.hid hw5
        have Hs5 := Lib.hid (And.intro hth5 hi5)
        have H5 := Lib.hid (And.intro hb5 (And.intro hbS5 (And.intro (hO4.then_below hbel5) (And.intro hsz5 hO4.size))))
        clear hD4 hO4 hw5 hth5 hi5 hbS5 hbel5 hsz5 hb5 hD5 hLv5 Hof HO
        go_wp2_with (refine wpList_store_mid rfl 46 _ _ rfl w4.heap.size 0 D1.toArray rfl rfl Hs5.out.1 Hs5.out.2 HD.out.2.1 ?_; simp only [Act.put]; refine cast (congrArg (fun z => wpList _ _ _ _ _ z) Hw5.out.symm) ?_)
        refine Hrof.out.mono ?_
        rintro e w6 ⟨hsaid, hD6, hO6⟩
        unfold Said at hsaid
        subst hsaid
        rw [HD.out.2.2.2.2.1]
        obtain ⟨w7, hw7, ⟨hth7, hi7⟩, hbS7, hbel7, hsz7⟩ := dig_local w6 D1 HD.out.1
        have hb7 : Below w.heap.size w w7 := (H5.out.1.trans (hO6.above (fun i hi => hi.1) H5.out.1.size)).trans (hbel7.mono (Nat.le_trans H5.out.1.size hO6.size))
        have hD7 := hD6.belowN (N' := fun j => ((w2.heap.size ≤ j ∧ j < w3.heap.size) ∨ j = w4.heap.size) ∨ j = w6.heap.size) hbel7 (fun i hi => by
          rcases hi with hi | rfl
          · exact .inl hi
          · exact .inr ⟨Nat.le_refl _, by omega⟩)
        have hDs7 : Ds w7 Ach ch := Hch.out.2.2.2.2.after hb7
        have hX7 : Blk w7 w4.heap.size 46 D1 := (hO6.blk H5.out.2.1 (Ab.keep (.inr rfl))).below hbel7 (by have := H5.out.2.2.2.1; have := hO6.size; omega)
        have Hup := Lib.hid (HU.out _ _ _ _ _ _ _ _ cch hD7 hb7.size hDs7 Hch.out.2.1 Hch.out.2.2.1)
        have Hw7 := Lib.hid hw7
        have Hs7 := Lib.hid (And.intro hth7 hi7)
        have H7 := Lib.hid (And.intro hb7 (And.intro hX7 (And.intro hbS7 (And.intro (H5.out.2.2.1.ab (hO6.then_below hbel7) fun i _ h => .inl h) hsz7))))
        clear hD6 hO6 hw7 hth7 hi7 hbS7 hbel7 hsz7 hb7 hD7 hDs7 hX7 Hrof HU
        go_wp2_with (refine wpList_store_mid rfl 46 _ _ rfl w6.heap.size 0 D1.toArray rfl rfl Hs7.out.1 Hs7.out.2 HD.out.2.1 ?_; simp only [Act.put]; refine cast (congrArg (fun z => wpList _ _ _ _ _ z) Hw7.out.symm) ?_)
        refine Hup.out.mono ?_
        rintro e w8 ⟨hsaid, hD8, hO8⟩
        unfold Said at hsaid
        subst hsaid
        rw [HD.out.2.2.2.2.2]
        obtain ⟨w9, hw9, ⟨hth9, hi9⟩, hbS9, hbel9, hsz9⟩ := dig_local w8 D2 HD.out.2.2.1
        have hz8 := hO8.size
        have hb9 : Below w.heap.size w w9 := (H7.out.1.trans (hO8.above (fun i hi => hi.1) H7.out.1.size)).trans (hbel9.mono (Nat.le_trans H7.out.1.size hO8.size))
        have hD9 := hD8.belowN (N' := fun j => (((w2.heap.size ≤ j ∧ j < w3.heap.size) ∨ j = w4.heap.size) ∨ j = w6.heap.size) ∨ j = w8.heap.size) hbel9 (fun i hi => by
          rcases hi with hi | rfl
          · exact .inl hi
          · exact .inr ⟨Nat.le_refl _, by omega⟩)
        have hDs9 : Ds w9 Ach ch := Hch.out.2.2.2.2.after hb9
        have hX9 : Blk w9 w4.heap.size 46 D1 := (hO8.blk H7.out.2.1 (Ab.keep (.inl (.inr rfl)))).below hbel9 (by have := H7.out.2.1.lt; omega)
        have hY9 : Blk w9 w6.heap.size 46 D1 := (hO8.blk H7.out.2.2.1 (Ab.keep (.inr rfl))).below hbel9 (by have := H7.out.2.2.1.lt; omega)
        have Hrup := Lib.hid (HR.out _ _ _ _ _ _ _ _ cch hD9 hb9.size hDs9 Hch.out.2.1 Hch.out.2.2.1)
        have Hw9 := Lib.hid hw9
        have Hs9 := Lib.hid (And.intro hth9 hi9)
        have H9 := Lib.hid (And.intro hb9 (And.intro hX9 (And.intro hY9 (And.intro hbS9 (H7.out.2.2.2.1.ab (hO8.then_below hbel9) fun i _ h => .inl (.inl h))))))
        clear hD8 hO8 hw9 hth9 hi9 hbS9 hbel9 hsz9 hz8 hb9 hD9 hDs9 hX9 hY9 Hup HR
        go_wp2_with (refine wpList_store_mid rfl 46 _ _ rfl w8.heap.size 0 D2.toArray rfl rfl Hs9.out.1 Hs9.out.2 HD.out.2.2.2.1 ?_; simp only [Act.put]; refine cast (congrArg (fun z => wpList _ _ _ _ _ z) Hw9.out.symm) ?_)
        refine Hrup.out.mono ?_
        rintro e w10 ⟨hsaid, hDA, hOA⟩
        unfold Said at hsaid
        subst hsaid
        rw [HD.out.2.2.2.2.2]
        obtain ⟨wB, hwB, ⟨hthB, hiB⟩, hbSB, hbelB, hszB⟩ := dig_local w10 D2 HD.out.2.2.1
        have hzA := hOA.size
        have hbB : Below w.heap.size w wB := (H9.out.1.trans (hOA.above (fun i hi => hi.1) H9.out.1.size)).trans (hbelB.mono (Nat.le_trans H9.out.1.size hOA.size))
        have hDB : Duo9 w.heap.size wB g bm s2 gr (lk s2) (fun j => w2.heap.size ≤ j ∧ j < w3.heap.size) := (hDA.below hbelB).less fun i hi => .inl (.inl (.inl hi))
        have hXB : Blk wB w4.heap.size 46 D1 := (hOA.blk H9.out.2.1 (Ab.keep (.inl (.inl (.inr rfl))))).below hbelB (by have := H9.out.2.1.lt; omega)
        have hYB : Blk wB w6.heap.size 46 D1 := (hOA.blk H9.out.2.2.1 (Ab.keep (.inl (.inr rfl)))).below hbelB (by have := H9.out.2.2.1.lt; omega)
        have hUB : Blk wB w8.heap.size 46 D2 := (hOA.blk H9.out.2.2.2.1 (Ab.keep (.inr rfl))).below hbelB (by have := H9.out.2.2.2.1.lt; omega)
        have Hlen := Lib.hid (duo_len hDB)
        have Hrlen := Lib.hid (duo_rlen hDB)
        obtain ⟨ln, hln⟩ : ∃ ln, s2.1.length = ln := ⟨_, rfl⟩
        have hln2 : (lk s2).1.length = ln := hln
        rw [hln] at Hlen
        rw [hln2] at Hrlen
        have HwB := Lib.hid hwB
        have HsB := Lib.hid (And.intro hthB hiB)
        have HB := Lib.hid (And.intro hbB (And.intro hXB.range (And.intro hYB.range (And.intro hUB.range (And.intro hbSB.range (And.intro hDB (H9.out.2.2.2.2.ab (hOA.then_below hbelB) fun i _ h => .inl (.inl (.inl h)))))))))
        clear hDA hOA hwB hthB hiB hbSB hbelB hszB hzA hbB hDB hXB hYB hUB hln hln2 Hrup
        go_wp2_with (first
          | (refine wpList_store_mid rfl 46 _ _ rfl w10.heap.size 0 D2.toArray rfl rfl HsB.out.1 HsB.out.2 HD.out.2.2.2.1 ?_; simp only [Act.put]; refine cast (congrArg (fun z => wpList _ _ _ _ _ z) HwB.out.symm) ?_)
          | (refine load_mid_g (by rfl) 46 _ rfl w4.heap.size 0 rfl D1 _ HB.out.2.1 Tryz.underlying46 rfl HDi.out.1 ?_; simp only [Act.put])
          | (refine load_mid_g (by rfl) 46 _ rfl w6.heap.size 0 rfl D1 _ HB.out.2.2.1 Tryz.underlying46 rfl HDi.out.1 ?_; simp only [Act.put])
          | (refine load_mid_g (by rfl) 46 _ rfl w8.heap.size 0 rfl D2 _ HB.out.2.2.2.1 Tryz.underlying46 rfl HDi.out.2 ?_; simp only [Act.put])
          | (refine load_mid_g (by rfl) 46 _ rfl w10.heap.size 0 rfl D2 _ HB.out.2.2.2.2.1 Tryz.underlying46 rfl HDi.out.2 ?_; simp only [Act.put])
          | (go_at_call 23; refine Hlen.out.mono ?_; rintro e wB ⟨rfl, rfl⟩)
          | (go_at_call 24; refine Hrlen.out.mono ?_; rintro e wB ⟨rfl, rfl⟩))
        go_loopw [17, 18, 19, 20, 21] (fun iv _ _ _ _ wr => ∃ (i : Nat) (s : Bk), i ≤ k ∧ iv = .int .i64 (i : Int) ∧ Duo9 w.heap.size wr g bm s gr (lk s) (fun j => w2.heap.size ≤ j ∧ j < w3.heap.size) ∧ s.1.length ≤ 7000 + i ∧ s.2.2 ≤ 7000 + i ∧ Out (Ab w.heap.size (fun j => w2.heap.size ≤ j ∧ j < w3.heap.size)) w3 wr) (fun iv _ _ _ _ _ => k - (intOf iv).toNat)
        case atStart =>
          obtain ⟨hs1, hs1', hs2, hs2'⟩ := HF.out
          simp only [List.length_nil] at hs1 hs1'
          exact ⟨0, s2, Nat.zero_le _, rfl, HB.out.2.2.2.2.2.1, by omega, by omega, HB.out.2.2.2.2.2.2⟩
        case round =>
          obtain ⟨i, s, hi, rfl, hD, hs, hs', hO⟩ := hrel
          have hbr : Below w.heap.size w wr := H3.out.1.trans (hO.above (fun j hj => hj.1) H3.out.1.size)
          by_cases hlt : i < k
          · have hil : i < l.length := by rw [Hll.out]; exact hlt
            obtain ⟨sb, so, Aj, cj, rfl, hsb, hc, hle, hcmj, hBx⟩ := Hl.out.1.2.2.2.at_ (j := i) hil
            obtain ⟨ib, io, rfl, hkb, hcc⟩ := H3.out.2.2.2.1 (by omega)
            obtain ⟨Ai, ci, hci, hlei, hcmi, hBi, hKi⟩ := hcc i hil
            generalize (l[i]'hil) = x at *
            obtain ⟨nx, hnx⟩ : ∃ a, x.length = a := ⟨_, rfl⟩
            rw [hnx] at hc hle hci hlei
            have Hin := Lib.hid (show ∀ w', Out (Ab w.heap.size (fun j => w2.heap.size ≤ j ∧ j < w3.heap.size)) w3 w' → (w'.cell? ⟨ib, io + i, none⟩ = some (.slice Ai nx ci) ∧ Bs w' Ai x) ∧ (w'.cell? ⟨sb, so + i, none⟩ = some (.slice Aj nx cj) ∧ Bs w' Aj x) from fun w' hO' => by
              have hbe : Below w.heap.size w w' := H3.out.1.trans (hO'.above (fun j hj => hj.1) H3.out.1.size)
              have hst : Stays (fun j => w2.heap.size ≤ j ∧ j < w3.heap.size) w3 w' := ⟨hO'.size, fun j hj => hO'.block j hj.2 (Ab.keep hj)⟩
              exact ⟨⟨(World.cell?_of_block (hst.2 ib hkb)).trans hci, hBi.stays hst hKi⟩, (hbe.cell hsb).trans hc, hBx.after hbe⟩)
            obtain ⟨d, c, s', hd, hq1, hq2, hLf, hRLf⟩ := duo_leaf x nx hnx s (by omega) (by omega)
            obtain ⟨D, hDd⟩ : ∃ D, cbs d = D := ⟨_, rfl⟩
            have hD32 : D.length = 32 := by rw [← hDd, cbs_length, hd]
            have hD1 : D.toArray.all (·.oneCell') = true := by rw [← hDd]; exact cbs_one' _
            have hDi : (Tryz.prog.info? 46).map (·.size) = some D.length := by rw [hD32]; exact info32b
            have heq := fun w' => eq_self D d hDd hd w'
            have h18 := hLf _ _ _ _ _ _ _ Ai ci hD hbr.size (Hin.out wr hO).1.2 hlei hcmi
            have c1 := (Hin.out wr hO).1.1
            have H18 := Lib.hid h18
            have HRL := Lib.hid hRLf
            have HDl := Lib.hid (And.intro hDd (And.intro hD32 hD1))
            have HDi' := Lib.hid hDi
            have Hnx := Lib.hid (And.intro hnx (And.intro hle (And.intro hcmj (And.intro hlei hcmi))))
            have Hr := Lib.hid (And.intro hO (And.intro hbr (And.intro (show s'.1.length ≤ 7000 + (i + 1) by omega) (show s'.2.2 ≤ 7000 + (i + 1) by omega))))
            have i0 : (0 : Int) ≤ (i : Int) := by omega
            have i1 : (i : Int) < (k : Int) := by omega
            clear hsb hc hle hcmj hBx hkb hcc hci hlei hcmi hBi hKi hnx hd hq1 hq2 hLf hRLf hDd hD32 hD1 hDi h18 hD hO hbr hs hs' hil
            go_wp2_with fail
            refine H18.out.mono ?_
            rintro e wp ⟨hsaid, hDp, hOp⟩
            unfold Said at hsaid
            subst hsaid
            rw [HDl.out.1]
            obtain ⟨w5', hw5, ⟨hth5, hi5⟩, hbS5, hbel5, hsz5⟩ := dig_local wp D HDl.out.2.1
            obtain ⟨hO, hbr, _, _⟩ := Hr.out
            have hO5 : Out (Ab w.heap.size (fun j => w2.heap.size ≤ j ∧ j < w3.heap.size)) w3 w5' := hO.ab (hOp.then_below hbel5) fun _ _ h => h
            have hb5 : Below w.heap.size w w5' := H3.out.1.trans (hO5.above (fun j hj => hj.1) H3.out.1.size)
            have hD5 := hDp.belowN (N' := fun j => (w2.heap.size ≤ j ∧ j < w3.heap.size) ∨ j = wp.heap.size) hbel5 (fun j hj => by
              rcases hj with hj | rfl
              · exact .inl hj
              · exact .inr ⟨Nat.le_refl _, by omega⟩)
            have h19 := HRL.out _ _ _ _ _ _ _ Aj cj hD5 hb5.size (Hin.out w5' hO5).2.2 Hnx.out.2.1 Hnx.out.2.2.1
            have c2 := (Hin.out w5' hO5).2.1
            have H19 := Lib.hid h19
            have Hw5' := Lib.hid hw5
            have Hs5' := Lib.hid (And.intro hth5 hi5)
            have H5' := Lib.hid (And.intro hO5 (And.intro hbS5 hb5))
            clear hDp hOp hw5 hth5 hi5 hbS5 hbel5 hsz5 hO hbr hO5 hb5 hD5 h19 H18 HRL c1
            go_wp2_with (refine wpList_store_mid rfl 46 _ _ rfl wp.heap.size 0 D.toArray rfl rfl Hs5'.out.1 Hs5'.out.2 HDl.out.2.2 ?_; simp only [Act.put]; refine cast (congrArg (fun z => wpList _ _ _ _ _ z) Hw5'.out.symm) ?_)
            refine H19.out.mono ?_
            rintro e wq ⟨hsaid, hDq, hOq⟩
            unfold Said at hsaid
            subst hsaid
            rw [HDl.out.1]
            obtain ⟨wt, hwt, ⟨htht, hit⟩, hbSt, hbelt, hszt⟩ := dig_local wq D HDl.out.2.1
            obtain ⟨hO5, hbS5, hb5⟩ := H5'.out
            have hOt : Out (Ab w.heap.size (fun j => w2.heap.size ≤ j ∧ j < w3.heap.size)) w3 wt := hO5.ab (hOq.then_below hbelt) fun _ _ h => .inl h
            have hDt : Duo9 w.heap.size wt g bm s' gr (lk s') (fun j => w2.heap.size ≤ j ∧ j < w3.heap.size) := (hDq.below hbelt).less fun _ h => .inl h
            have hPt : Blk wt wp.heap.size 46 D := (hOq.blk hbS5 (Ab.keep (.inr rfl))).below hbelt (by have := hbS5.lt; have := hOq.size; omega)
            have hin := Hin.out wt hOt
            have heb := eqBytesQ Ai Aj ci cj nx nx x x wt.drew (hin.1.2.after ((Below.refl _ _).drew)) (hin.2.2.after ((Below.refl _ _).drew)) Hnx.out.1 Hnx.out.1 (Nat.le_trans Hnx.out.2.2.2.1 Hnx.out.2.2.2.2) (Nat.le_trans Hnx.out.2.1 Hnx.out.2.2.1)
            have hxx : (x == x) = true := by simp
            rw [hxx] at heb
            have Heqb := Lib.hid heb
            have Q0 : wt.drew.rangeAt wp.heap.size 0 D ∧ wt.drew.rangeAt wq.heap.size 0 D ∧ wt.drew.cell? ⟨ib, io + i, none⟩ = some (.slice Ai nx ci) ∧ wt.drew.cell? ⟨sb, so + i, none⟩ = some (.slice Aj nx cj) := ⟨hPt.range, hbSt.range, hin.1.1, hin.2.1⟩
            have HDi := HDi'
            have Hwt := Lib.hid hwt
            have Hst := Lib.hid (And.intro htht hit)
            have Ht := Lib.hid (And.intro hOt hDt)
            clear hDq hOq hwt htht hit hbSt hbelt hszt hO5 hbS5 hb5 hOt hDt hPt hin heb H19 c2
            go_wp2_with (refine wpList_store_mid rfl 46 _ _ rfl wq.heap.size 0 D.toArray rfl rfl Hst.out.1 Hst.out.2 HDl.out.2.2 ?_; simp only [Act.put]; refine cast (congrArg (fun z => wpList _ _ _ _ _ z) Hwt.out.symm) ?_)
            refine wp_region_held_drew (S := fun W' => W'.rangeAt wp.heap.size 0 D ∧ W'.rangeAt wq.heap.size 0 D ∧ W'.cell? ⟨ib, io + i, none⟩ = some (.slice Ai nx ci) ∧ W'.cell? ⟨sb, so + i, none⟩ = some (.slice Aj nx cj)) (by kernel_rfl) Q0 (fun _ => ?_)
            refine anyH_load (i := 0) (d := 115) rfl rfl (by kernel_rfl) (by kernel_rfl) (by kernel_rfl) (by rfl) 46 _ rfl wp.heap.size 0 rfl D _ (fun _ h => h.1) Tryz.underlying46 rfl HDi.out (fun _ _ _ h => h) Q0 ?_
            simp only [List.setIfInBounds_toArray, List.set_cons_zero, List.set_cons_succ]
            refine anyH_load (i := 1) (d := 116) rfl rfl (by kernel_rfl) (by kernel_rfl) (by kernel_rfl) (by rfl) 46 _ rfl wq.heap.size 0 rfl D _ (fun _ h => h.2.1) Tryz.underlying46 rfl HDi.out (fun _ _ _ h => h) Q0 ?_
            simp only [List.setIfInBounds_toArray, List.set_cons_zero, List.set_cons_succ]
            refine anyH_take (i := 2) (d := 117) (v := ?v2) rfl rfl (by kernel_rfl) (by kernel_rfl) (by kernel_rfl) (fun _ _ _ h => h) (Or.inl ⟨by rfl, ?vy2⟩) Q0 ?vr2
            case vy2 => (intro w; go_simp; try with_reducible rfl)
            simp only [List.setIfInBounds_toArray, List.set_cons_zero, List.set_cons_succ]
            refine anyH_take (i := 3) (d := 118) (v := ?v3) rfl rfl (by kernel_rfl) (by kernel_rfl) (by kernel_rfl) (fun _ _ _ h => h) (Or.inl ⟨by rfl, ?vy3⟩) Q0 ?vr3
            case vy3 => (intro w; go_simp; try with_reducible rfl)
            simp only [List.setIfInBounds_toArray, List.set_cons_zero, List.set_cons_succ]
            refine anyH_take (i := 4) (d := 119) (v := ?v4) rfl rfl (by kernel_rfl) (by kernel_rfl) (by kernel_rfl) (fun _ _ _ h => h) (Or.inl ⟨by rfl, ?vy4⟩) Q0 ?vr4
            case vy4 => (intro w; go_simp; try with_reducible rfl)
            simp only [List.setIfInBounds_toArray, List.set_cons_zero, List.set_cons_succ]
            refine anyH_take (i := 5) (d := 120) (v := ?v5) rfl rfl (by kernel_rfl) (by kernel_rfl) (by kernel_rfl) (fun _ _ _ h => h) (Or.inl ⟨by rfl, ?vy5⟩) Q0 ?vr5
            case vy5 => (intro w; go_simp; try with_reducible rfl)
            simp only [List.setIfInBounds_toArray, List.set_cons_zero, List.set_cons_succ]
            refine anyH_take (i := 6) (d := 121) (v := ?v6) rfl rfl (by kernel_rfl) (by kernel_rfl) (by kernel_rfl) (fun _ _ _ h => h) (Or.inl ⟨by rfl, ?vy6⟩) Q0 ?vr6
            case vy6 => (intro w; go_simp; try with_reducible rfl)
            simp only [List.setIfInBounds_toArray, List.set_cons_zero, List.set_cons_succ]
            refine anyH_take (i := 7) (d := 122) (v := ?v7) rfl rfl (by kernel_rfl) (by kernel_rfl) (by kernel_rfl) (fun _ _ _ h => h) (Or.inl ⟨by rfl, ?vy7⟩) Q0 ?vr7
            case vy7 => (intro w; go_simp; try with_reducible rfl)
            simp only [List.setIfInBounds_toArray, List.set_cons_zero, List.set_cons_succ]
            refine anyH_take (i := 8) (d := 123) (v := ?v8) rfl rfl (by kernel_rfl) (by kernel_rfl) (by kernel_rfl) (fun _ _ _ h => h) (Or.inl ⟨by rfl, ?vy8⟩) Q0 ?vr8
            case vy8 => (intro w; go_simp; try with_reducible rfl)
            simp only [List.setIfInBounds_toArray, List.set_cons_zero, List.set_cons_succ]
            refine anyH_take (i := 9) (d := 124) (v := ?v9) rfl rfl (by kernel_rfl) (by kernel_rfl) (by kernel_rfl) (fun _ _ _ h => h) (Or.inl ⟨by rfl, ?vy9⟩) Q0 ?vr9
            case vy9 => (intro w; go_simp; try with_reducible rfl)
            simp only [List.setIfInBounds_toArray, List.set_cons_zero, List.set_cons_succ]
            refine anyH_take (i := 10) (d := 125) (v := ?v10) rfl rfl (by kernel_rfl) (by kernel_rfl) (by kernel_rfl) (fun _ _ _ h => h) (Or.inl ⟨by rfl, ?vy10⟩) Q0 ?vr10
            case vy10 => (intro w; go_simp; try with_reducible rfl)
            simp only [List.setIfInBounds_toArray, List.set_cons_zero, List.set_cons_succ]
            refine anyH_take (i := 11) (d := 126) (v := ?v11) rfl rfl (by kernel_rfl) (by kernel_rfl) (by kernel_rfl) (fun _ _ _ h => h) (Or.inl ⟨by rfl, ?vy11⟩) Q0 ?vr11
            case vy11 => (intro w; go_simp; try with_reducible rfl)
            simp only [List.setIfInBounds_toArray, List.set_cons_zero, List.set_cons_succ]
            refine wpAnyH_take' (i := 12) (d := 127) (v := ?v12) rfl rfl (by kernel_rfl) (by kernel_rfl) (by kernel_rfl) (fun _ _ _ h => h) (Or.inl ⟨by rfl, ?vy12⟩) Q0 ?vr12
            case vy12 => (intro w hSw; go_split_ands; go_simp; try with_reducible rfl)
            simp only [List.setIfInBounds_toArray, List.set_cons_zero, List.set_cons_succ]
            refine anyH_take (i := 13) (d := 128) (v := ?v13) rfl rfl (by kernel_rfl) (by kernel_rfl) (by kernel_rfl) (fun _ _ _ h => h) (Or.inl ⟨by rfl, ?vy13⟩) Q0 ?vr13
            case vy13 => (intro w; go_simp; try with_reducible rfl)
            simp only [List.setIfInBounds_toArray, List.set_cons_zero, List.set_cons_succ]
            refine anyH_take (i := 14) (d := 129) (v := ?v14) rfl rfl (by kernel_rfl) (by kernel_rfl) (by kernel_rfl) (fun _ _ _ h => h) (Or.inl ⟨by rfl, ?vy14⟩) Q0 ?vr14
            case vy14 => (intro w; go_simp; try with_reducible rfl)
            simp only [List.setIfInBounds_toArray, List.set_cons_zero, List.set_cons_succ]
            refine anyH_take (i := 15) (d := 130) (v := ?v15) rfl rfl (by kernel_rfl) (by kernel_rfl) (by kernel_rfl) (fun _ _ _ h => h) (Or.inl ⟨by rfl, ?vy15⟩) Q0 ?vr15
            case vy15 => (intro w; go_simp; try with_reducible rfl)
            simp only [List.setIfInBounds_toArray, List.set_cons_zero, List.set_cons_succ]
            refine wpAnyH_take' (i := 16) (d := 131) (v := ?v16) rfl rfl (by kernel_rfl) (by kernel_rfl) (by kernel_rfl) (fun _ _ _ h => h) (Or.inl ⟨by rfl, ?vy16⟩) Q0 ?vr16
            case vy16 => (intro w hSw; go_split_ands; go_simp; try with_reducible rfl)
            simp only [List.setIfInBounds_toArray, List.set_cons_zero, List.set_cons_succ]
            refine anyH_one (i := 17) (by kernel_rfl) ?_
            refine wpOp_step rfl (fun K hK => ?_)
            go_simp
            refine Heqb.out.mono ?_
            rintro e wz ⟨rfl, q, rfl⟩
            refine hK _ _ ⟨(show (wt.drew.drewN q).rangeAt wp.heap.size 0 D ∧ (wt.drew.drewN q).rangeAt wq.heap.size 0 D ∧ (wt.drew.drewN q).cell? ⟨ib, io + i, none⟩ = some (.slice Ai nx ci) ∧ (wt.drew.drewN q).cell? ⟨sb, so + i, none⟩ = some (.slice Aj nx cj) from Q0), ?_⟩
            clear hK K
            refine anyH_take (i := 18) (d := 133) (v := ?v18) rfl rfl (by kernel_rfl) (by kernel_rfl) (by kernel_rfl) (fun _ _ _ h => h) (Or.inl ⟨by rfl, ?vy18⟩) (show (wt.drew.drewN q).rangeAt wp.heap.size 0 D ∧ (wt.drew.drewN q).rangeAt wq.heap.size 0 D ∧ (wt.drew.drewN q).cell? ⟨ib, io + i, none⟩ = some (.slice Ai nx ci) ∧ (wt.drew.drewN q).cell? ⟨sb, so + i, none⟩ = some (.slice Aj nx cj) from Q0) ?vr18
            case vy18 => (intro w; go_simp; try with_reducible rfl)
            simp only [List.setIfInBounds_toArray, List.set_cons_zero, List.set_cons_succ]
            refine anyH_take (i := 19) (d := 134) (v := ?v19) rfl rfl (by kernel_rfl) (by kernel_rfl) (by kernel_rfl) (fun _ _ _ h => h) (Or.inl ⟨by rfl, ?vy19⟩) (show (wt.drew.drewN q).rangeAt wp.heap.size 0 D ∧ (wt.drew.drewN q).rangeAt wq.heap.size 0 D ∧ (wt.drew.drewN q).cell? ⟨ib, io + i, none⟩ = some (.slice Ai nx ci) ∧ (wt.drew.drewN q).cell? ⟨sb, so + i, none⟩ = some (.slice Aj nx cj) from Q0) ?vr19
            case vy19 => (intro w; go_simp; try with_reducible rfl)
            simp only [List.setIfInBounds_toArray, List.set_cons_zero, List.set_cons_succ]
            refine wpAnyH_done (by kernel_rfl) ?_ _
            go_wp2
            go_roundw
            case rel =>
              have hbd : Below wt.heap.size wt (wt.drewN (1 + q)) := below_drewN (Below.refl _ _) (1 + q)
              exact ⟨i + 1, s', by omega, by go_num, Ht.out.2.below hbd, Hr.out.2.2.1, Hr.out.2.2.2, Ht.out.1.then_below hbd⟩
            case measure => simp [intOf]; omega
          · have i1 : ¬ (i : Int) < (k : Int) := by omega
            have Hbr := Lib.hid hbr
            clear hD hs hs' hO hbr
            go_wp2_with (go_at_call 8; refine (works9_any _).mono ?_; rintro e wz ⟨rfl, hbz⟩)
            go_ret
            exact ⟨rfl, Hbr.out.trans (hbz.mono Hbr.out.size)⟩

end Go.Proofs.YtbdocaohnigekaaGreat.treeOf
