/-
  For all numbers leaves (60 at most; of more whether they are refused) and settings l (30 at most are made): a tree is as the document's, all its levels and what is noted; what is handed in is not kept, what is answered is memory of its own; TreeSets returns true; no condition.
-/
import Derived.Test.YtbdocaohnigekaaGreatZ01
import Derived.Test.YtbdocaohnigekaaGreatZ19
import Derived.Test.YtbdocaohnigekaaGreatZ17
import Derived.Deep.RegionHeld3
import Derived.Deep.RegionWith
import Derived.Deep.DeepCutAuto
namespace Go.Proofs.YtbdocaohnigekaaGreat.treeSets
open Go.ChangeShapes Go.WideShapes Go.ChangeAt Go.RowKit
set_option linter.unusedVariables false

theorem Mine.bs {w : World} {base n c : Nat} {A : Option Addr} {x : List UInt8} (h : w.ownsRow base 5 1 (.slice A n c) x.length (cbs x)) : Bs w A x := by
  obtain ⟨A', c', e, _, _, hB⟩ := Mine.form (w := w) (base := base) (e := 5) (v := .slice A n c) (l := x) h
  cases e
  exact hB
theorem kb0 {B g bm gr : Nat} {w : World} {s : Bk} {r : Lk} (h : Duo9 B w g bm s gr r (fun _ => False)) : Kb B w g bm s (fun _ => False) := by
  obtain ⟨Sa, Sr, v, h1, _, h3, _⟩ := h
  exact ⟨Sa, h1, h3, fun i hi => hi.elim⟩
section
variable {w0 w : World} {g bm t gr u n bs br : Nat} {Mp Mr N : Nat → Prop} {xs : List (List UInt8)} {s : Bk} {r : Lk}
theorem tdep9 (h : St9 w0 g bm t gr u n Mp Mr N bs br xs s r w) : Calls Tryz.prog 19 #[.pointer (some ⟨t, 0, none⟩)] w fun e w' => e = .returned (.int .i64 (dep n : Int)) ∧ w' = w := by
  obtain ⟨L, R, lv, c, hT⟩ := h.one
  have hb := hT.blk
  have hl : (lows xs).length = n := by rw [lows_len, h.len]
  rw [hl] at hb
  exact tdepth_any t g n lv (dep n) c w hb (dep_pos n)
theorem tlv9 (h : St9 w0 g bm t gr u n Mp Mr N bs br xs s r w) : Calls Tryz.prog 21 #[.pointer (some ⟨t, 0, none⟩)] w fun e w' => e = .returned (.int .i64 (n : Int)) ∧ w' = w := by
  obtain ⟨L, R, lv, c, hT⟩ := h.one
  have hb := hT.blk
  have hl : (lows xs).length = n := by rw [lows_len, h.len]
  rw [hl] at hb
  exact tleaves_any t g n lv (dep n) c w hb (dep_pos n)
end

set_option maxRecDepth 100000 in
set_option maxHeartbeats 12800000 in
theorem walk (leaves : Int) (Al : Option Addr) (nl cl : Nat) (l : List SetL) (w : World) (hleaves : (Lit.int .i64 leaves).wf = true) (hl : ArgT w Al nl cl l ∧ ∀ x ∈ l, x.leaf.length ≤ 140737488351232) :
    Calls Tryz.prog 3 #[.int .i64 leaves, .slice Al nl cl] w fun e w' => e = .returned (.bool true) ∧ Below w.heap.size w w' := by
  have hlb := bounds_i64 hleaves
  have Hlb := Lib.hid hlb
  have Hl := Lib.hid hl
  have hln : l.length = nl := hl.1.1
  have Hln := Lib.hid hln
  have hnot : ∀ (x : Bool) (w : World), (Op.unary .not (.bool x)).run Tryz.prog w = .ok (.bool (!x)) w := fun _ _ => rfl
  clear hlb hleaves hl hln
  go_enter Tryz.func3, Tryz.ntmps3
  go_wp2_with fail
  refine (bnew_any _).mono ?_
  rintro e w1 ⟨S, g, bm, rfl, hS, hb, hb1⟩
  have H0 := Lib.hid (And.intro hS (And.intro hb hb1))
  clear hS hb hb1
  go_wp2_with fail
  refine (rbnew_any _).mono ?_
  rintro e w2 ⟨gr, rfl, hgr, hr, hb2⟩
  have H2 := Lib.hid (And.intro (duo_new H0.out.1 H0.out.2.1 H0.out.2.2 hr hgr hb2) (H0.out.2.2.trans (hb2.mono H0.out.2.2.size)))
  clear hgr hr hb2 H0
  by_cases h60 : 60 < leaves
  · by_cases h24 : leaves ≤ 1024
    · obtain ⟨many, rfl⟩ : ∃ many : Nat, leaves = (many : Int) := ⟨leaves.toNat, by omega⟩
      have Hn := Lib.hid (tnew_any w.heap.size g bm _ many (fun _ => False) w2 (kb0 H2.out.1) H2.out.2.size (by decide) (by decide) (by omega) (by omega))
      go_wp2_with fail
      refine Hn.out.mono ?_
      rintro e w3 ⟨t, M, rfl, _, _, _, hO3⟩
      have hb3 : Below w.heap.size w w3 := H2.out.2.trans (hO3.above (fun i hi => hi.1) H2.out.2.size)
      have Hb3 := Lib.hid hb3
      clear hb3 hO3 Hn
      go_wp2_with (go_at_call 8; refine (works9_any _).mono ?_; rintro e w4 ⟨rfl, hb4⟩)
      go_ret
      exact ⟨rfl, Hb3.out.trans (hb4.mono Hb3.out.size)⟩
    · have h24' : decide (leaves ≤ 1024) = false := by simp; omega
      go_wp2_with (first
        | (go_at_call 7; refine (tnew_bad _ leaves _ (by omega)).mono ?_; rintro e w3 ⟨rfl, rfl⟩)
        | (go_at_call 8; refine (works9_any _).mono ?_; rintro e w4 ⟨rfl, hb4⟩))
      go_ret
      exact ⟨rfl, H2.out.2.trans (hb4.mono H2.out.2.size)⟩
  · by_cases hbad : leaves < 1
    · go_wp2_with (first
        | (go_at_call 7; refine (tnew_bad _ leaves _ (by omega)).mono ?_; rintro e w3 ⟨rfl, rfl⟩)
        | (go_at_call 9; refine (rtnew_bad _ leaves _ (by omega)).mono ?_; rintro e w3 ⟨rfl, rfl⟩)
        | (go_at_call 8; refine (works9_any _).mono ?_; rintro e w4 ⟨rfl, hb4⟩))
      go_ret
      exact ⟨rfl, H2.out.2.trans (hb4.mono H2.out.2.size)⟩
    · obtain ⟨n, rfl⟩ : ∃ n : Nat, leaves = (n : Int) := ⟨leaves.toNat, by omega⟩
      have hn1 : 1 ≤ n := by omega
      have hn2 : n ≤ 60 := by omega
      have Hn := Lib.hid (And.intro hn1 hn2)
      have hg60 : ¬ (60 : Int) < (n : Int) := by omega
      have Hnew := Lib.hid (duo_tnew H2.out.1 H2.out.2.size n hn1 (by omega) (by decide) (by decide))
      clear h60 hbad hn1 hn2
      go_wp2_with fail
      refine Hnew.out.mono ?_
      rintro e w3 ⟨Mp, ⟨t, rfl, hT⟩, hMp, hD3, hO3⟩
      have hb3 : Below w.heap.size w w3 := H2.out.2.trans (hO3.above (fun i hi => hi.1) H2.out.2.size)
      have Hrn := Lib.hid (duo_rtnew hD3 hb3.size n Hn.out.1 (by have := Hn.out.2; omega) (by decide) (by decide))
      have H3 := Lib.hid (And.intro hT (And.intro hMp hO3))
      clear hT hMp hD3 hO3 hb3 Hnew
      go_wp2_with fail
      refine Hrn.out.mono ?_
      rintro e w4 ⟨Mr, ⟨u, rfl, hR⟩, hMr, hD4, hO4⟩
      obtain ⟨s0, r0, hS0⟩ := st9_new H2.out.1 H2.out.2 Hn.out.1 Hn.out.2 H3.out.2.2 H3.out.1 H3.out.2.1 hO4 hR hMr hD4
      have HS0 := Lib.hid hS0
      clear hR hMr hD4 hO4 hS0 Hrn H3
      go_upto_region 11 with fail
      rename_i Kf af
      have Af := Lib.hid af
      clear af
      go_wp2
      refine Af.out _ _ ?_
      clear Af
      go_cut [13, 14, 15] (fun _ _ _ wx => ∃ (Mr : Nat → Prop) (xs : List (List UInt8)) (s : Bk) (r : Lk), St9 w g bm t gr u n Mp Mr (fun i => Mp i ∨ Mr i) 1000 13000 xs s r wx)
      case first =>
        go_wp2
        go_loopw [13, 14, 15] (fun kv _ _ wr => ∃ (k : Nat) (Mr : Nat → Prop) (xs : List (List UInt8)) (s : Bk) (r : Lk), k ≤ 30 ∧ k ≤ nl ∧ kv = .int .i64 (k : Int) ∧ St9 w g bm t gr u n Mp Mr (fun i => Mp i ∨ Mr i) (400 + 8 * k) (400 + 400 * k) xs s r wr) (fun kv _ _ _ => 30 - (intOf kv).toNat)
        case atStart => exact ⟨0, Mr, _, s0, r0, Nat.zero_le _, Nat.zero_le _, rfl, HS0.out⟩
        case round =>
          obtain ⟨k, Mr, xs, s, r, hk, hkn, rfl, hS⟩ := hrel
          by_cases hin : k < nl
          · by_cases h30 : k < 30
            · have hkl : k < l.length := by rw [Hln.out]; exact hin
              obtain ⟨sb, so, rfl, hlt, hwf, hc0, AB, cB, hc1, hle, hcm, hBx⟩ := Hl.out.1.at_ (j := k) hkl
              have hx47 := Hl.out.2 _ (List.getElem_mem hkl)
              obtain ⟨at_, hat⟩ : ∃ a, (l[k]'hkl).at_ = a := ⟨_, rfl⟩
              obtain ⟨x, hx⟩ : ∃ x, (l[k]'hkl).leaf = x := ⟨_, rfl⟩
              rw [hx] at hc1 hle hBx hx47
              obtain ⟨nx, hnx⟩ : ∃ a, x.length = a := ⟨_, rfl⟩
              rw [hat] at hc0 hwf
              rw [hnx] at hc1 hle hx47
              have hbw := hS.bel
              have Hcb := Lib.hid (copyBytes AB cB nx x wr (hBx.after hbw) hnx (by omega))
              have Hcc := Lib.hid (show ∀ w', Below w.heap.size w w' → w'.cell? ⟨sb, so + k * 2, none⟩ = some (.int .i64 at_) ∧ w'.cell? ⟨sb, so + k * 2 + 1, none⟩ = some (.slice AB nx cB) from fun w' hb => ⟨(hb.cell hlt).trans hc0, (hb.cell hlt).trans hc1⟩)
              have Hx := Lib.hid (show (∀ w', Below w.heap.size w w' → Bs w' AB x) ∧ nx ≤ cB ∧ cB ≤ maxLen ∧ x.length = nx from ⟨fun w' hb => hBx.after hb, hle, hcm, hnx⟩)
              have hcw := (Hcc.out _ hbw).2
              have Hx47 := Lib.hid hx47
              have HS := Lib.hid hS
              have p0 : (0 : Int) ≤ (k : Int) := by omega
              have p1 : (k : Int) < (nl : Int) := by omega
              have p2 : (k : Int) < 30 := by omega
              clear hlt hwf hc0 hc1 hle hcm hBx hx47 hat hx hnx hbw hS hkl
              go_wp2_with fail
              refine Hcb.out.mono ?_
              rintro e w5 ⟨v, rfl, hN⟩
              have hNm := hN.1
              obtain ⟨Ain, cin, rfl, hN1, hN2, _⟩ := hN.form
              rw [Hx.out.2.2.2] at hN1 ⊢
              have hrow : w5.ownsRow wr.heap.size 5 1 (.slice Ain nx cin) x.length (cbs x) := by rw [Hx.out.2.2.2] at hNm; exact hNm
              have hS5 : St9 w g bm t gr u n Mp Mr (fun i => (Mp i ∨ Mr i) ∨ (Value.slice Ain nx cin).ownBlock = some i) (400 + 8 * k) (400 + 400 * k) xs s r w5.drew := (HS.out.belowN hN.2 (fun i hi => by
                rcases hi with hi | hi
                · exact .inl hi
                · exact .inr (row_ltv hrow hi)) (fun i hi => .inl (.inl hi)) (fun i hi => .inl (.inr hi))).below ((Below.refl _ _).drew)
              obtain ⟨cc, xs', s', r', hA, hB2⟩ := st9_set hS5 Hn.out.1 Hn.out.2 (by omega) (by omega) at_ x nx Hx.out.2.2.2
              have hown : ∀ b, (Value.slice Ain nx cin).ownBlock = some b → wr.heap.size ≤ b := fun b hb => (row_ltv hrow hb).1
              have hMlt : ∀ j, Mp j ∨ Mr j → j < wr.heap.size := fun j hj => HS.out.duo.lt hj
              have Hset := Lib.hid (hA Ain cin (Mine.bs (w := w5.drew) (row_stay hrow fun _ _ _ _ => rfl)) hN1 hN2)
              have HB2 := Lib.hid hB2
              have HN := Lib.hid (And.intro hN1 hN2)
              have Hin := Lib.hid (show w5.drew.ownsRow wr.heap.size 5 1 (.slice Ain nx cin) x.length (cbs x) ∧ (∀ b, (Value.slice Ain nx cin).ownBlock = some b → ¬ (Ab w.heap.size (fun i => (Mp i ∨ Mr i) ∨ (Value.slice Ain nx cin).ownBlock = some i) b ∨ Mp b)) ∧ (∀ b, (Value.slice Ain nx cin).ownBlock = some b → ¬ (Ab w.heap.size (fun i => (Mp i ∨ Mr i) ∨ (Value.slice Ain nx cin).ownBlock = some i) b ∨ Mr b)) from
                ⟨row_stay hrow fun _ _ _ _ => rfl, fun b hb e => by
                  rcases e with e | e
                  · exact Ab.keep (.inr hb) e
                  · have := hown b hb; have := hMlt b (.inl e); omega, fun b hb e => by
                  rcases e with e | e
                  · exact Ab.keep (.inr hb) e
                  · have := hown b hb; have := hMlt b (.inr e); omega⟩)
              have Hown := Lib.hid (And.intro hown hMlt)
              have Q0 : w5.drew.cell? ⟨sb, so + k * 2, none⟩ = some (.int .i64 at_) ∧ w5.drew.cell? ⟨sb, so + k * 2 + 1, none⟩ = some (.slice AB nx cB) := Hcc.out _ hS5.bel
              have Hz5 := Lib.hid (And.intro hN.2.size HS.out.bel.size)
              clear hNm hN1 hN2 hN hrow hS5 hA hB2 hown hMlt hcw Hcb
              go_wp2
              refine wp_region_held_drew (S := fun W' => W'.cell? ⟨sb, so + k * 2, none⟩ = some (.int .i64 at_) ∧ W'.cell? ⟨sb, so + k * 2 + 1, none⟩ = some (.slice AB nx cB)) (by kernel_rfl) Q0 (fun _ => ?_)
              refine anyH_take (i := 0) (d := 91) (v := ?v0) rfl rfl (by kernel_rfl) (by kernel_rfl) (by kernel_rfl) (fun _ _ _ h => h) (Or.inl ⟨by rfl, ?vy0⟩) Q0 ?vr0
              case vy0 => (intro w; go_simp; try with_reducible rfl)
              simp only [List.setIfInBounds_toArray, List.set_cons_zero, List.set_cons_succ]
              refine anyH_take (i := 1) (d := 92) (v := ?v1) rfl rfl (by kernel_rfl) (by kernel_rfl) (by kernel_rfl) (fun _ _ _ h => h) (Or.inl ⟨by rfl, ?vy1⟩) Q0 ?vr1
              case vy1 => (intro w; go_simp; try with_reducible rfl)
              simp only [List.setIfInBounds_toArray, List.set_cons_zero, List.set_cons_succ]
              refine anyH_take (i := 2) (d := 93) (v := ?v2) rfl rfl (by kernel_rfl) (by kernel_rfl) (by kernel_rfl) (fun _ _ _ h => h) (Or.inl ⟨by rfl, ?vy2⟩) Q0 ?vr2
              case vy2 => (intro w; go_simp; try with_reducible rfl)
              simp only [List.setIfInBounds_toArray, List.set_cons_zero, List.set_cons_succ]
              refine anyH_take (i := 3) (d := 94) (v := ?v3) rfl rfl (by kernel_rfl) (by kernel_rfl) (by kernel_rfl) (fun _ _ _ h => h) (Or.inl ⟨by rfl, ?vy3⟩) Q0 ?vr3
              case vy3 => (intro w; go_simp; try with_reducible rfl)
              simp only [List.setIfInBounds_toArray, List.set_cons_zero, List.set_cons_succ]
              refine anyH_take (i := 4) (d := 95) (v := ?v4) rfl rfl (by kernel_rfl) (by kernel_rfl) (by kernel_rfl) (fun _ _ _ h => h) (Or.inl ⟨by rfl, ?vy4⟩) Q0 ?vr4
              case vy4 => (intro w; go_simp; try with_reducible rfl)
              simp only [List.setIfInBounds_toArray, List.set_cons_zero, List.set_cons_succ]
              refine wpAnyH_take' (i := 5) (d := 96) (v := ?v5) rfl rfl (by kernel_rfl) (by kernel_rfl) (by kernel_rfl) (fun _ _ _ h => h) (Or.inl ⟨by rfl, ?vy5⟩) Q0 ?vr5
              case vy5 => (intro w hSw; go_split_ands; go_simp; try with_reducible rfl)
              simp only [List.setIfInBounds_toArray, List.set_cons_zero, List.set_cons_succ]
              refine anyH_take (i := 6) (d := 97) (v := ?v6) rfl rfl (by kernel_rfl) (by kernel_rfl) (by kernel_rfl) (fun _ _ _ h => h) (Or.inl ⟨by rfl, ?vy6⟩) Q0 ?vr6
              case vy6 => (intro w; go_simp; try with_reducible rfl)
              simp only [List.setIfInBounds_toArray, List.set_cons_zero, List.set_cons_succ]
              refine anyH_take (i := 8) (d := 99) (v := ?v8) rfl rfl (by kernel_rfl) (by kernel_rfl) (by kernel_rfl) (fun _ _ _ h => h) (Or.inl ⟨by rfl, ?vy8⟩) Q0 ?vr8
              case vy8 => (intro w; go_simp; try with_reducible rfl)
              simp only [List.setIfInBounds_toArray, List.set_cons_zero, List.set_cons_succ]
              refine anyH_take (i := 9) (d := 100) (v := ?v9) rfl rfl (by kernel_rfl) (by kernel_rfl) (by kernel_rfl) (fun _ _ _ h => h) (Or.inl ⟨by rfl, ?vy9⟩) Q0 ?vr9
              case vy9 => (intro w; go_simp; try with_reducible rfl)
              simp only [List.setIfInBounds_toArray, List.set_cons_zero, List.set_cons_succ]
              refine anyH_take (i := 10) (d := 101) (v := ?v10) rfl rfl (by kernel_rfl) (by kernel_rfl) (by kernel_rfl) (fun _ _ _ h => h) (Or.inl ⟨by rfl, ?vy10⟩) Q0 ?vr10
              case vy10 => (intro w; go_simp; try with_reducible rfl)
              simp only [List.setIfInBounds_toArray, List.set_cons_zero, List.set_cons_succ]
              refine anyH_take (i := 11) (d := 102) (v := ?v11) rfl rfl (by kernel_rfl) (by kernel_rfl) (by kernel_rfl) (fun _ _ _ h => h) (Or.inl ⟨by rfl, ?vy11⟩) Q0 ?vr11
              case vy11 => (intro w; go_simp; try with_reducible rfl)
              simp only [List.setIfInBounds_toArray, List.set_cons_zero, List.set_cons_succ]
              refine anyH_take (i := 12) (d := 103) (v := ?v12) rfl rfl (by kernel_rfl) (by kernel_rfl) (by kernel_rfl) (fun _ _ _ h => h) (Or.inl ⟨by rfl, ?vy12⟩) Q0 ?vr12
              case vy12 => (intro w; go_simp; try with_reducible rfl)
              simp only [List.setIfInBounds_toArray, List.set_cons_zero, List.set_cons_succ]
              refine wpAnyH_take' (i := 13) (d := 104) (v := ?v13) rfl rfl (by kernel_rfl) (by kernel_rfl) (by kernel_rfl) (fun _ _ _ h => h) (Or.inl ⟨by rfl, ?vy13⟩) Q0 ?vr13
              case vy13 => (intro w hSw; go_split_ands; go_simp; try with_reducible rfl)
              simp only [List.setIfInBounds_toArray, List.set_cons_zero, List.set_cons_succ]
              refine anyH_take (i := 14) (d := 105) (v := ?v14) rfl rfl (by kernel_rfl) (by kernel_rfl) (by kernel_rfl) (fun _ _ _ h => h) (Or.inl ⟨by rfl, ?vy14⟩) Q0 ?vr14
              case vy14 => (intro w; go_simp; try with_reducible rfl)
              simp only [List.setIfInBounds_toArray, List.set_cons_zero, List.set_cons_succ]
              refine anyH_take (i := 15) (d := 106) (v := ?v15) rfl rfl (by kernel_rfl) (by kernel_rfl) (by kernel_rfl) (fun _ _ _ h => h) (Or.inl ⟨by rfl, ?vy15⟩) Q0 ?vr15
              case vy15 => (intro w; go_simp; try with_reducible rfl)
              simp only [List.setIfInBounds_toArray, List.set_cons_zero, List.set_cons_succ]
              refine anyH_take (i := 16) (d := 107) (v := ?v16) rfl rfl (by kernel_rfl) (by kernel_rfl) (by kernel_rfl) (fun _ _ _ h => h) (Or.inl ⟨by rfl, ?vy16⟩) Q0 ?vr16
              case vy16 => (intro w; go_simp; try with_reducible rfl)
              simp only [List.setIfInBounds_toArray, List.set_cons_zero, List.set_cons_succ]
              refine anyH_take (i := 17) (d := 108) (v := ?v17) rfl rfl (by kernel_rfl) (by kernel_rfl) (by kernel_rfl) (fun _ _ _ h => h) (Or.inl ⟨by rfl, ?vy17⟩) Q0 ?vr17
              case vy17 => (intro w; go_simp; try with_reducible rfl)
              simp only [List.setIfInBounds_toArray, List.set_cons_zero, List.set_cons_succ]
              refine wpAnyH_take' (i := 18) (d := 109) (v := ?v18) rfl rfl (by kernel_rfl) (by kernel_rfl) (by kernel_rfl) (fun _ _ _ h => h) (Or.inl ⟨by rfl, ?vy18⟩) Q0 ?vr18
              case vy18 => (intro w hSw; go_split_ands; go_simp; try with_reducible rfl)
              simp only [List.setIfInBounds_toArray, List.set_cons_zero, List.set_cons_succ]
              refine anyH_one (i := 7) (by kernel_rfl) ?_
              refine wpOp_step rfl (fun K hK => ?_)
              go_simp
              refine Hset.out.mono ?_
              rintro e wa ⟨rfl, hm⟩
              have HM := Lib.hid hm
              have Hset2 := Lib.hid (HB2.out wa AB cB hm (Hx.out.1 wa hm.bel) Hx.out.2.1 Hx.out.2.2.1)
              clear hm Hset
              refine hK _ _ ⟨(Hcc.out _ HM.out.bel), ?_⟩
              clear hK K
              refine anyH_one (i := 19) (by kernel_rfl) ?_
              refine wpOp_step rfl (fun K hK => ?_)
              go_simp
              refine Hset2.out.mono ?_
              rintro e wb ⟨rfl, Mr', hMr', hS', hO'⟩
              have hrB := row_outv (row_outv Hin.out.1 HM.out.out Hin.out.2.1) hO' Hin.out.2.2
              have heb := eqBytesQ Ain AB cin cB nx nx x x wb (Mine.bs hrB) (Hx.out.1 wb hS'.bel) Hx.out.2.2.2 Hx.out.2.2.2 (Nat.le_trans HN.out.1 HN.out.2) (Nat.le_trans Hx.out.2.1 Hx.out.2.2.1)
              have hxx : (x == x) = true := by simp
              rw [hxx] at heb
              have Heqb := Lib.hid heb
              have HS' := Lib.hid (And.intro hS' (And.intro hrB (And.intro hMr' (Nat.le_trans HM.out.out.size hO'.size))))
              clear hS' hO' hrB heb hxx hMr' Hset2 HB2
              refine hK _ _ ⟨(Hcc.out _ HS'.out.1.bel), ?_⟩
              clear hK K
              refine anyH_take (i := 20) (d := 111) (v := ?v20) rfl rfl (by kernel_rfl) (by kernel_rfl) (by kernel_rfl) (fun _ _ _ h => h) (Or.inl ⟨by rfl, ?vy20⟩) (Hcc.out _ HS'.out.1.bel) ?vr20
              case vy20 => (intro w; go_simp; try with_reducible rfl)
              simp only [List.setIfInBounds_toArray, List.set_cons_zero, List.set_cons_succ]
              refine anyH_take (i := 21) (d := 112) (v := ?v21) rfl rfl (by kernel_rfl) (by kernel_rfl) (by kernel_rfl) (fun _ _ _ h => h) (Or.inl ⟨by rfl, ?vy21⟩) (Hcc.out _ HS'.out.1.bel) ?vr21
              case vy21 => (intro w; go_simp; try with_reducible rfl)
              simp only [List.setIfInBounds_toArray, List.set_cons_zero, List.set_cons_succ]
              refine anyH_take (i := 22) (d := 113) (v := ?v22) rfl rfl (by kernel_rfl) (by kernel_rfl) (by kernel_rfl) (fun _ _ _ h => h) (Or.inl ⟨by rfl, ?vy22⟩) (Hcc.out _ HS'.out.1.bel) ?vr22
              case vy22 => (intro w; go_simp; try with_reducible rfl)
              simp only [List.setIfInBounds_toArray, List.set_cons_zero, List.set_cons_succ]
              refine anyH_take (i := 23) (d := 114) (v := ?v23) rfl rfl (by kernel_rfl) (by kernel_rfl) (by kernel_rfl) (fun _ _ _ h => h) (Or.inl ⟨by rfl, ?vy23⟩) (Hcc.out _ HS'.out.1.bel) ?vr23
              case vy23 => (intro w; go_simp; try with_reducible rfl)
              simp only [List.setIfInBounds_toArray, List.set_cons_zero, List.set_cons_succ]
              refine anyH_take (i := 24) (d := 115) (v := ?v24) rfl rfl (by kernel_rfl) (by kernel_rfl) (by kernel_rfl) (fun _ _ _ h => h) (Or.inl ⟨by rfl, ?vy24⟩) (Hcc.out _ HS'.out.1.bel) ?vr24
              case vy24 => (intro w; go_simp; try with_reducible rfl)
              simp only [List.setIfInBounds_toArray, List.set_cons_zero, List.set_cons_succ]
              refine anyH_take (i := 25) (d := 116) (v := ?v25) rfl rfl (by kernel_rfl) (by kernel_rfl) (by kernel_rfl) (fun _ _ _ h => h) (Or.inl ⟨by rfl, ?vy25⟩) (Hcc.out _ HS'.out.1.bel) ?vr25
              case vy25 => (intro w; go_simp; try with_reducible rfl)
              simp only [List.setIfInBounds_toArray, List.set_cons_zero, List.set_cons_succ]
              refine anyH_take (i := 26) (d := 117) (v := ?v26) rfl rfl (by kernel_rfl) (by kernel_rfl) (by kernel_rfl) (fun _ _ _ h => h) (Or.inl ⟨by rfl, ?vy26⟩) (Hcc.out _ HS'.out.1.bel) ?vr26
              case vy26 => (intro w; go_simp; try with_reducible rfl)
              simp only [List.setIfInBounds_toArray, List.set_cons_zero, List.set_cons_succ]
              refine wpAnyH_take' (i := 27) (d := 118) (v := ?v27) rfl rfl (by kernel_rfl) (by kernel_rfl) (by kernel_rfl) (fun _ _ _ h => h) (Or.inl ⟨by rfl, ?vy27⟩) (Hcc.out _ HS'.out.1.bel) ?vr27
              case vy27 => (intro w hSw; go_split_ands; go_simp; try with_reducible rfl)
              simp only [List.setIfInBounds_toArray, List.set_cons_zero, List.set_cons_succ]
              refine anyH_one (i := 28) (by kernel_rfl) ?_
              refine wpOp_step rfl (fun K hK => ?_)
              go_simp
              refine Heqb.out.mono ?_
              rintro e wc ⟨rfl, q, rfl⟩
              refine hK _ _ ⟨(Hcc.out _ (below_drewN HS'.out.1.bel q)), ?_⟩
              clear hK K
              refine anyH_take (i := 29) (d := 120) (v := ?v29) rfl rfl (by kernel_rfl) (by kernel_rfl) (by kernel_rfl) (fun _ _ _ h => h) (Or.inl ⟨by rfl, ?vy29⟩) (Hcc.out _ (below_drewN HS'.out.1.bel q)) ?vr29
              case vy29 => (intro w; go_simp; try with_reducible rfl)
              simp only [List.setIfInBounds_toArray, List.set_cons_zero, List.set_cons_succ]
              refine anyH_take (i := 30) (d := 121) (v := ?v30) rfl rfl (by kernel_rfl) (by kernel_rfl) (by kernel_rfl) (fun _ _ _ h => h) (Or.inl ⟨by rfl, ?vy30⟩) (Hcc.out _ (below_drewN HS'.out.1.bel q)) ?vr30
              case vy30 => (intro w; go_simp; try with_reducible rfl)
              simp only [List.setIfInBounds_toArray, List.set_cons_zero, List.set_cons_succ]
              refine wpAnyH_done (by kernel_rfl) ?_ _

              obtain ⟨wD, hwD⟩ : ∃ wD, wb.drewN q = wD := ⟨_, rfl⟩
              have hbD : Below wb.heap.size wb wD := by rw [← hwD]; exact below_drewN (Below.refl _ _) q
              have HSD := Lib.hid (And.intro (HS'.out.1.below hbD) (show wD.ownsRow wr.heap.size 5 1 (.slice Ain nx cin) nx (cbs x) from by
                have h2 := HS'.out.2.1
                rw [Hx.out.2.2.2] at h2
                exact row_stay h2 fun b cs hb _ => hbD.block b (row_ltv h2 hb).2))
              rw [hwD]
              clear hwD hbD
              obtain ⟨wo, hwo⟩ : ∃ wo, wo = wr := ⟨_, rfl⟩
              subst hwo
              go_wp2
              go_loopw [15] (fun iv wi => ∃ (i : Nat) (zs : List Value), i ≤ nx ∧ iv = .int .i64 (i : Int) ∧ wi.ownsRow wo.heap.size 5 1 (.slice Ain nx cin) nx zs ∧ (∀ z ∈ zs, ∃ m : Int, z = .int .u8 m) ∧ Out (fun j => (Value.slice Ain nx cin).ownBlock = some j) wD wi) (fun iv _ => nx - (intOf iv).toNat)
              case atStart => exact ⟨0, cbs x, Nat.zero_le _, rfl, HSD.out.2, fun z hz => by
                obtain ⟨j, hj, rfl⟩ := List.mem_iff_getElem.1 hz
                rw [cbs_length] at hj
                refine ⟨(x[j].toNat : Int), ?_⟩
                have := cbs_get x j
                rw [List.getElem?_eq_getElem (by rw [cbs_length]; exact hj), List.getElem?_eq_getElem hj] at this
                exact Option.some.inj this, Out.refl _ _⟩
              case round =>
                obtain ⟨i, zs, hi, rfl, hrow, hzs, hO⟩ := hrel
                by_cases hlt : i < nx
                · obtain ⟨ib, ic, e1, hib, _, _⟩ := row_form hrow (by omega)
                  injection e1 with e1 e2 e3
                  subst e1
                  have hil : i < zs.length := by have := hrow.1; omega
                  obtain ⟨mz, hmz⟩ := hzs _ (List.getElem_mem hil)
                  have hcz : wr.cell? ⟨ib, i, none⟩ = some (.int .u8 mz) := by
                    rw [World.ownsRow.cellAt hrow i (by omega), List.getElem?_eq_getElem hil, hmz]
                  have hfz : wr.frozen? ⟨ib, i, none⟩ = false := World.ownsRow.frozenAt hrow _
                  have HR := Lib.hid (And.intro hrow (And.intro hzs hO))
                  have i0 : (0 : Int) ≤ (i : Int) := by omega
                  have i1 : (i : Int) < (nx : Int) := by omega
                  have i2 : (i : Int) ≤ 140737488351232 := by have := Hx47.out; omega
                  clear hrow hzs hO hmz hib e2 e3 hil
                  go_wp2
                  go_roundw
                  case rel =>
                    refine ⟨i + 1, zs.set i _, by omega, by go_num, (World.ownsRow.stored HR.out.1 i _).1, fun z hz => ?_, Out.setCell (p := ⟨ib, i, none⟩) HR.out.2.2 (fun _ => by simp [Value.ownBlock]) _⟩
                    rcases List.mem_or_eq_of_mem_set hz with h | h
                    · exact HR.out.2.1 z h
                    · exact ⟨_, h⟩
                  case measure => simp [intOf]; omega
                · have i1 : ¬ (i : Int) < (nx : Int) := by omega
                  have HO := Lib.hid hO
                  clear hrow hzs hO
                  go_wp2
                  go_roundw
                  case rel =>
                    refine ⟨k + 1, Mr', xs', s', r', by omega, by omega, by go_num, (HSD.out.1.other HO.out (N' := fun i => Mp i ∨ Mr' i) (fun j hj hs => ⟨.inl (.inr hs), fun e => ?_, fun e => ?_, ?_⟩) (fun j hj => ?_) (fun j hj => .inl hj) (fun j hj => .inr hj)).more (by omega) (by omega)⟩
                    · have := Hown.out.1 j hs; have := Hown.out.2 j (.inl e); omega
                    · rcases HS'.out.2.2.1 j e with h | h
                      · have := Hown.out.1 j hs; have := Hown.out.2 j (.inr h); omega
                      · have h3 := row_ltv Hin.out.1 hs
                        have h4 := HM.out.out.size
                        omega
                    · have := Hown.out.1 j hs; have := Hz5.out.2; omega
                    · rcases hj with hj | hj
                      · exact .inl (.inl (.inl (.inl hj)))
                      · exact .inl (.inr hj)
                  case measure => simp [intOf]; omega
            · have p1 : decide ((k : Int) < (nl : Int)) = true := by simp; omega
              have p2 : decide ((k : Int) < 30) = false := by simp; omega
              have HS := Lib.hid hS
              clear hS
              go_wp2
              go_meet
              exact ⟨Mr, xs, s, r, HS.out.more (by omega) (by omega)⟩
          · have p1 : decide ((k : Int) < (nl : Int)) = false := by simp; omega
            have HS := Lib.hid hS
            clear hS
            go_wp2
            go_meet
            exact ⟨Mr, xs, s, r, HS.out.more (by omega) (by omega)⟩
      case rest =>
        obtain ⟨Mr, xs, s, r1, hS⟩ := hcut
        have HS1 := Lib.hid hS
        clear hS
        go_wp2
        go_loopw [16, 17, 18, 19, 20, 21] (fun nv _ _ _ _ _ wr => ∃ (q : Nat) (r : Lk), q ≤ 6 ∧ nv = .int .i64 ((q : Int) - 1) ∧ St9 w g bm t gr u n Mp Mr (fun i => Mp i ∨ Mr i) 1000 (13000 + 400 * q) xs s r wr) (fun nv _ _ _ _ _ _ => (5 - intOf nv).toNat)
        case atStart => exact ⟨0, r1, Nat.zero_le _, rfl, HS1.out⟩
        case round =>
          obtain ⟨q, r, hq, rfl, hS⟩ := hrel
          obtain ⟨li, hli⟩ : ∃ li : Int, (q : Int) - 1 = li := ⟨_, rfl⟩
          rw [hli]
          by_cases h4 : li ≤ 4
          · obtain ⟨c, ds, mx, hds, hmx, h32, hLa, hLb⟩ := st9_level hS Hn.out.1 Hn.out.2 (by omega) (by omega) li
            have Hla := Lib.hid hLa
            have HLb := Lib.hid hLb
            have HS := Lib.hid hS
            have Hd := Lib.hid (And.intro hds (And.intro hmx h32))
            have Hq := Lib.hid (And.intro hq hli)
            have l1 : (-1 : Int) ≤ li := by omega
            obtain ⟨wo, hwo⟩ : ∃ wo, wo = wr := ⟨_, rfl⟩
            subst hwo
            clear hds hmx h32 hLa hLb hS hq hli
            go_wp2_with fail
            refine Hla.out.mono ?_
            rintro e w5 ⟨Ax, cx, rfl, hrow, hDs, hb5⟩
            have hS5 : St9 w g bm t gr u n Mp Mr (fun i => (Mp i ∨ Mr i) ∨ (Value.slice Ax mx cx).ownBlock = some i) 1000 (13000 + 400 * q) xs s r w5 := HS.out.belowN hb5 (fun i hi => by
              rcases hi with hi | hi
              · exact .inl hi
              · exact .inr (row_ltv hrow hi)) (fun i hi => .inl (.inl hi)) (fun i hi => .inl (.inr hi))
            have Hlb3 := Lib.hid (HLb.out w5 _ hS5)
            have H5 := Lib.hid (And.intro hrow (And.intro hDs hb5.size))
            clear hrow hDs hb5 hS5 Hla HLb
            go_wp2_with fail
            refine Hlb3.out.mono ?_
            rintro e w6 ⟨⟨Ay, cy, rfl, hDy⟩, hS6, hO6⟩
            have hrow6 := row_outv H5.out.1 hO6 fun b hb => Ab.keep (.inr hb)
            have hDx6 : Ds w6 Ax ds := H5.out.2.1.out hO6 fun a e _ => Ab.keep (.inr (by subst e; simp [Value.ownBlock]))
            have Hsame := Lib.hid (same_any Ax Ay mx cx cy ds w6 hDx6 hDy Hd.out.2.2 Hd.out.1 (by have := Hd.out.2.1; omega))
            have H6 := Lib.hid (And.intro hS6 (And.intro hrow6 hO6.size))
            clear hDy hS6 hO6 hrow6 hDx6 Hlb3
            go_wp2_with (go_at_call 16; refine Hsame.out.mono ?_; rintro e w7 ⟨rfl, hb7⟩)
            have H7 := Lib.hid (And.intro (H6.out.1.below hb7) (row_stay H6.out.2.1 fun b cs hb _ => hb7.block b (row_ltv H6.out.2.1 hb).2))
            clear hb7
            have hm60 : (mx : Int) ≤ 60 := by have := Hd.out.2.1; omega
            go_loopw [21] (fun iv wi => ∃ (i : Nat) (zs : List Value), i ≤ mx ∧ iv = .int .i64 (i : Int) ∧ wi.ownsRow wo.heap.size 46 32 (.slice Ax mx cx) mx zs ∧ Out (fun j => (Value.slice Ax mx cx).ownBlock = some j) w7 wi) (fun iv _ => mx - (intOf iv).toNat)
            case atStart => exact ⟨0, _, Nat.zero_le _, rfl, H7.out.2, Out.refl _ _⟩
            case round =>
              obtain ⟨i, zs, hi, rfl, hrow, hO⟩ := hrel
              by_cases hlt : i < mx
              · obtain ⟨rx, rc, e1, _, _, _⟩ := row_form hrow (by omega)
                injection e1 with e1 e2 e3
                subst e1
                have hzl : zs.length = mx * 32 := hrow.1
                have hth := row_there hrow (o := i * 32) (k := 32) (by omega)
                obtain ⟨wz, hwz⟩ : ∃ wz, wr.setCells rx (i * 32) (cbs (List.replicate 32 0)) = wz := ⟨_, rfl⟩
                have hrowz := row_put (cbs (List.replicate 32 0)) hrow (o := i * 32) (by rw [cbs_length, List.length_replicate]; omega)
                have hOz : Out (fun j => (Value.slice (some ⟨rx, 0, none⟩) mx cx).ownBlock = some j) w7 (wr.setCells rx (i * 32) (cbs (List.replicate 32 0))) := Out.setRow (by simp [Value.ownBlock]) _ hO
                rw [hwz] at hrowz hOz
                have Hwz := Lib.hid hwz
                have HR := Lib.hid (And.intro hth (And.intro hrowz hOz))
                clear hwz hrowz hOz
                have i0 : (0 : Int) ≤ (i : Int) := by omega
                have i1 : (i : Int) < (mx : Int) := by omega
                clear hrow hO hth e2 e3 hzl
                go_wp2_with (refine wpList_store_mid rfl 46 _ _ rfl rx (i * 32) (cbs (List.replicate 32 0)).toArray rfl rfl HR.out.1 info32b (cbs_one' _) ?_; simp only [Act.put]; refine cast (congrArg (fun z => wpList _ _ _ _ _ z) Hwz.out.symm) ?_)
                go_roundw
                case rel => exact ⟨i + 1, _, by omega, by go_num, HR.out.2.1, HR.out.2.2⟩
                case measure => simp [intOf]; omega
              · have i1 : ¬ (i : Int) < (mx : Int) := by omega
                have HO := Lib.hid hO
                clear hrow hO
                go_wp2
                go_roundw
                case rel =>
                  obtain ⟨hq, hli⟩ := Hq.out
                  refine ⟨q + 1, _, by omega, by rw [show (((q + 1 : Nat) : Int) - 1) = li + 1 from by omega], (H7.out.1.other HO.out (N' := fun i => Mp i ∨ Mr i) (fun j hj hs => ⟨.inr hs, fun e => ?_, fun e => ?_, ?_⟩) (fun j hj => .inl (.inl hj)) (fun j hj => .inl hj) (fun j hj => .inr hj)).more (by omega) (by omega)⟩
                  · have := (row_ltv H5.out.1 hs).1; have := HS.out.duo.lt (.inl e); omega
                  · have := (row_ltv H5.out.1 hs).1; have := HS.out.duo.lt (.inr e); omega
                  · have := (row_ltv H5.out.1 hs).1; have := HS.out.bel.size; omega
                case measure => have := Hq.out; simp [intOf]; omega
          · have h4' : decide (li ≤ 4) = false := by simp; omega
            have hrl : (rootD (lows xs)).length = 32 := root_len (by rw [lows_len, hS.len]; exact Hn.out.1) (all32_lows _)
            obtain ⟨D, hD⟩ : ∃ D, cbs (rootD (lows xs)) = D := ⟨_, rfl⟩
            have hD32 : D.length = 32 := by rw [← hD, cbs_length, hrl]
            have hD1 : D.toArray.all (·.oneCell') = true := by rw [← hD]; exact cbs_one' _
            have hDi : (Tryz.prog.info? 46).map (·.size) = some D.length := by rw [hD32]; exact info32b
            have heq := fun w' => eq_self D (rootD (lows xs)) hD hrl w'
            have hrt := troot_at hS.one
            rw [hD] at hrt
            have Hrt := Lib.hid hrt
            have HD := Lib.hid (And.intro hD (And.intro hD32 (And.intro hD1 hDi)))
            have HS := Lib.hid (hS.more (Nat.le_refl _) (show 13000 + 400 * q ≤ 20000 by omega))
            clear hq hli hS hrl hD hD32 hD1 hDi hrt
            go_wp2_with fail
            refine Hrt.out.mono ?_
            rintro e wl ⟨rfl, hbl⟩
            obtain ⟨wt, hwt, ⟨htht, hit⟩, hbSt, hbelt, hszt⟩ := dig_local wl D HD.out.2.1
            have hbt : Below wr.heap.size wr wt := hbl.trans (hbelt.mono hbl.size)
            have hzl := hbl.size
            have hSt : St9 w g bm t gr u n Mp Mr (fun i => (Mp i ∨ Mr i) ∨ i = wl.heap.size) 1000 20000 xs s r wt.drew := (HS.out.belowN hbt (fun i hi => by
              rcases hi with hi | rfl
              · exact .inl hi
              · exact .inr ⟨hzl, by omega⟩) (fun i hi => .inl (.inl hi)) (fun i hi => .inl (.inr hi))).below ((Below.refl _ _).drew)
            have hBl : Blk wt.drew wl.heap.size 46 D := hbSt
            have hrr := st9_root hSt Hn.out.1 Hn.out.2 (by omega) (by omega)
            rw [HD.out.1] at hrr
            have Hrr := Lib.hid hrr
            have HL := Lib.hid (And.intro hBl trivial)
            have Hwt := Lib.hid hwt
            have Hst := Lib.hid (And.intro htht hit)
            have Q0 : wt.drew.rangeAt wl.heap.size 0 D := hBl.range
            clear hwt htht hit hbSt hbelt hszt hbt hzl hSt hBl hrr hbl Hrt
            go_wp2_with (refine wpList_store_mid rfl 46 _ _ rfl wl.heap.size 0 D.toArray rfl rfl Hst.out.1 Hst.out.2 HD.out.2.2.1 ?_; simp only [Act.put]; refine cast (congrArg (fun z => wpList _ _ _ _ _ z) Hwt.out.symm) ?_)
            refine wp_region_held_drew (S := fun W' => W'.rangeAt wl.heap.size 0 D) (by kernel_rfl) Q0 (fun _ => ?_)
            refine anyH_take (i := 0) (d := 176) (v := ?z0) rfl rfl (by kernel_rfl) (by kernel_rfl) (by kernel_rfl) (fun _ _ _ h => h) (Or.inl ⟨by rfl, ?zy0⟩) Q0 ?zr0
            case zy0 => (intro w; go_simp; try with_reducible rfl)
            simp only [List.setIfInBounds_toArray, List.set_cons_zero, List.set_cons_succ]
            refine anyH_take (i := 1) (d := 177) (v := ?z1) rfl rfl (by kernel_rfl) (by kernel_rfl) (by kernel_rfl) (fun _ _ _ h => h) (Or.inl ⟨by rfl, ?zy1⟩) Q0 ?zr1
            case zy1 => (intro w; go_simp; try with_reducible rfl)
            simp only [List.setIfInBounds_toArray, List.set_cons_zero, List.set_cons_succ]
            refine anyH_take (i := 2) (d := 178) (v := ?z2) rfl rfl (by kernel_rfl) (by kernel_rfl) (by kernel_rfl) (fun _ _ _ h => h) (Or.inl ⟨by rfl, ?zy2⟩) Q0 ?zr2
            case zy2 => (intro w; go_simp; try with_reducible rfl)
            simp only [List.setIfInBounds_toArray, List.set_cons_zero, List.set_cons_succ]
            refine anyH_load (i := 3) (d := 179) rfl rfl (by kernel_rfl) (by kernel_rfl) (by kernel_rfl) (by rfl) 46 _ rfl wl.heap.size 0 rfl D _ (fun _ h => h) Tryz.underlying46 rfl HD.out.2.2.2 (fun _ _ _ h => h) Q0 ?_
            simp only [List.setIfInBounds_toArray, List.set_cons_zero, List.set_cons_succ]
            refine anyH_take (i := 4) (d := 180) (v := ?z4) rfl rfl (by kernel_rfl) (by kernel_rfl) (by kernel_rfl) (fun _ _ _ h => h) (Or.inl ⟨by rfl, ?zy4⟩) Q0 ?zr4
            case zy4 => (intro w; go_simp; try with_reducible rfl)
            simp only [List.setIfInBounds_toArray, List.set_cons_zero, List.set_cons_succ]
            refine anyH_one (i := 5) (by kernel_rfl) ?_
            refine wpOp_step rfl (fun K hK => ?_)
            go_simp
            refine Hrr.out.mono ?_
            rintro e wa ⟨rfl, hSa, hOa⟩
            have hra := (hOa.blk HL.out.1 (Ab.keep (.inr rfl)))
            have Hdp := Lib.hid (tdep9 hSa)
            have Hrd := Lib.hid (st9_depth hSa Hn.out.1 Hn.out.2 (by omega) (by omega))
            have HA := Lib.hid (And.intro hSa hra)
            clear hSa hOa hra Hrr
            refine hK _ _ ⟨HA.out.2.range, ?_⟩
            clear hK K
            refine anyH_take (i := 6) (d := 182) (v := ?z6) rfl rfl (by kernel_rfl) (by kernel_rfl) (by kernel_rfl) (fun _ _ _ h => h) (Or.inl ⟨by rfl, ?zy6⟩) HA.out.2.range ?zr6
            case zy6 => (intro w; go_simp; try with_reducible rfl)
            simp only [List.setIfInBounds_toArray, List.set_cons_zero, List.set_cons_succ]
            refine anyH_take (i := 7) (d := 183) (v := ?z7) rfl rfl (by kernel_rfl) (by kernel_rfl) (by kernel_rfl) (fun _ _ _ h => h) (Or.inl ⟨by rfl, ?zy7⟩) HA.out.2.range ?zr7
            case zy7 => (intro w; go_simp; try with_reducible rfl)
            simp only [List.setIfInBounds_toArray, List.set_cons_zero, List.set_cons_succ]
            refine anyH_take (i := 8) (d := 184) (v := ?z8) rfl rfl (by kernel_rfl) (by kernel_rfl) (by kernel_rfl) (fun _ _ _ h => h) (Or.inl ⟨by rfl, ?zy8⟩) HA.out.2.range ?zr8
            case zy8 => (intro w; go_simp; try with_reducible rfl)
            simp only [List.setIfInBounds_toArray, List.set_cons_zero, List.set_cons_succ]
            refine anyH_take (i := 9) (d := 185) (v := ?z9) rfl rfl (by kernel_rfl) (by kernel_rfl) (by kernel_rfl) (fun _ _ _ h => h) (Or.inl ⟨by rfl, ?zy9⟩) HA.out.2.range ?zr9
            case zy9 => (intro w; go_simp; try with_reducible rfl)
            simp only [List.setIfInBounds_toArray, List.set_cons_zero, List.set_cons_succ]
            refine anyH_take (i := 11) (d := 187) (v := ?z11) rfl rfl (by kernel_rfl) (by kernel_rfl) (by kernel_rfl) (fun _ _ _ h => h) (Or.inl ⟨by rfl, ?zy11⟩) HA.out.2.range ?zr11
            case zy11 => (intro w; go_simp; try with_reducible rfl)
            simp only [List.setIfInBounds_toArray, List.set_cons_zero, List.set_cons_succ]
            refine anyH_one (i := 10) (by kernel_rfl) ?_
            refine wpOp_step rfl (fun K hK => ?_)
            go_simp
            refine Hdp.out.mono ?_
            rintro e wa' ⟨rfl, rfl⟩
            refine hK _ _ ⟨HA.out.2.range, ?_⟩
            clear hK K
            refine anyH_one (i := 12) (by kernel_rfl) ?_
            refine wpOp_step rfl (fun K hK => ?_)
            go_simp
            refine Hrd.out.mono ?_
            rintro e wb ⟨rfl, hSb, hOb⟩
            have hrb := hOb.blk HA.out.2 (Ab.keep (.inr rfl))
            have Hlv := Lib.hid (tlv9 hSb)
            have Hrl := Lib.hid (rtleaves_any hSb.two)
            have Hk := Lib.hid (duo_len hSb.duo)
            have Hm := Lib.hid (duo_rlen hSb.duo)
            rw [hSb.same] at Hm
            rw [hSb.len] at Hrl
            have HB := Lib.hid (And.intro hSb hrb)
            clear hSb hOb hrb Hrd Hdp
            refine hK _ _ ⟨HB.out.2.range, ?_⟩
            clear hK K
            refine anyH_take (i := 13) (d := 189) (v := ?z13) rfl rfl (by kernel_rfl) (by kernel_rfl) (by kernel_rfl) (fun _ _ _ h => h) (Or.inl ⟨by rfl, ?zy13⟩) HB.out.2.range ?zr13
            case zy13 => (intro w; go_simp; try with_reducible rfl)
            simp only [List.setIfInBounds_toArray, List.set_cons_zero, List.set_cons_succ]
            refine anyH_take (i := 14) (d := 190) (v := ?z14) rfl rfl (by kernel_rfl) (by kernel_rfl) (by kernel_rfl) (fun _ _ _ h => h) (Or.inl ⟨by rfl, ?zy14⟩) HB.out.2.range ?zr14
            case zy14 => (intro w; go_simp; try with_reducible rfl)
            simp only [List.setIfInBounds_toArray, List.set_cons_zero, List.set_cons_succ]
            refine anyH_take (i := 15) (d := 191) (v := ?z15) rfl rfl (by kernel_rfl) (by kernel_rfl) (by kernel_rfl) (fun _ _ _ h => h) (Or.inl ⟨by rfl, ?zy15⟩) HB.out.2.range ?zr15
            case zy15 => (intro w; go_simp; try with_reducible rfl)
            simp only [List.setIfInBounds_toArray, List.set_cons_zero, List.set_cons_succ]
            refine anyH_take (i := 16) (d := 192) (v := ?z16) rfl rfl (by kernel_rfl) (by kernel_rfl) (by kernel_rfl) (fun _ _ _ h => h) (Or.inl ⟨by rfl, ?zy16⟩) HB.out.2.range ?zr16
            case zy16 => (intro w; go_simp; try with_reducible rfl)
            simp only [List.setIfInBounds_toArray, List.set_cons_zero, List.set_cons_succ]
            refine anyH_take (i := 18) (d := 194) (v := ?z18) rfl rfl (by kernel_rfl) (by kernel_rfl) (by kernel_rfl) (fun _ _ _ h => h) (Or.inl ⟨by rfl, ?zy18⟩) HB.out.2.range ?zr18
            case zy18 => (intro w; go_simp; try with_reducible rfl)
            simp only [List.setIfInBounds_toArray, List.set_cons_zero, List.set_cons_succ]
            refine anyH_one (i := 17) (by kernel_rfl) ?_
            refine wpOp_step rfl (fun K hK => ?_)
            go_simp
            refine Hlv.out.mono ?_
            rintro e wq ⟨rfl, rfl⟩
            refine hK _ _ ⟨HB.out.2.range, ?_⟩
            clear hK K
            refine anyH_one (i := 19) (by kernel_rfl) ?_
            refine wpOp_step rfl (fun K hK => ?_)
            go_simp
            refine Hrl.out.mono ?_
            rintro e wq ⟨rfl, rfl⟩
            refine hK _ _ ⟨HB.out.2.range, ?_⟩
            clear hK K
            refine anyH_take (i := 20) (d := 196) (v := ?z20) rfl rfl (by kernel_rfl) (by kernel_rfl) (by kernel_rfl) (fun _ _ _ h => h) (Or.inl ⟨by rfl, ?zy20⟩) HB.out.2.range ?zr20
            case zy20 => (intro w; go_simp; try with_reducible rfl)
            simp only [List.setIfInBounds_toArray, List.set_cons_zero, List.set_cons_succ]
            refine anyH_take (i := 21) (d := 197) (v := ?z21) rfl rfl (by kernel_rfl) (by kernel_rfl) (by kernel_rfl) (fun _ _ _ h => h) (Or.inl ⟨by rfl, ?zy21⟩) HB.out.2.range ?zr21
            case zy21 => (intro w; go_simp; try with_reducible rfl)
            simp only [List.setIfInBounds_toArray, List.set_cons_zero, List.set_cons_succ]
            refine anyH_take (i := 22) (d := 198) (v := ?z22) rfl rfl (by kernel_rfl) (by kernel_rfl) (by kernel_rfl) (fun _ _ _ h => h) (Or.inl ⟨by rfl, ?zy22⟩) HB.out.2.range ?zr22
            case zy22 => (intro w; go_simp; try with_reducible rfl)
            simp only [List.setIfInBounds_toArray, List.set_cons_zero, List.set_cons_succ]
            refine anyH_take (i := 23) (d := 199) (v := ?z23) rfl rfl (by kernel_rfl) (by kernel_rfl) (by kernel_rfl) (fun _ _ _ h => h) (Or.inl ⟨by rfl, ?zy23⟩) HB.out.2.range ?zr23
            case zy23 => (intro w; go_simp; try with_reducible rfl)
            simp only [List.setIfInBounds_toArray, List.set_cons_zero, List.set_cons_succ]
            refine anyH_take (i := 25) (d := 201) (v := ?z25) rfl rfl (by kernel_rfl) (by kernel_rfl) (by kernel_rfl) (fun _ _ _ h => h) (Or.inl ⟨by rfl, ?zy25⟩) HB.out.2.range ?zr25
            case zy25 => (intro w; go_simp; try with_reducible rfl)
            simp only [List.setIfInBounds_toArray, List.set_cons_zero, List.set_cons_succ]
            refine anyH_one (i := 24) (by kernel_rfl) ?_
            refine wpOp_step rfl (fun K hK => ?_)
            go_simp
            refine Hk.out.mono ?_
            rintro e wq ⟨rfl, rfl⟩
            refine hK _ _ ⟨HB.out.2.range, ?_⟩
            clear hK K
            refine anyH_one (i := 26) (by kernel_rfl) ?_
            refine wpOp_step rfl (fun K hK => ?_)
            go_simp
            refine Hm.out.mono ?_
            rintro e wq ⟨rfl, rfl⟩
            refine hK _ _ ⟨HB.out.2.range, ?_⟩
            clear hK K
            refine anyH_take (i := 27) (d := 203) (v := ?z27) rfl rfl (by kernel_rfl) (by kernel_rfl) (by kernel_rfl) (fun _ _ _ h => h) (Or.inl ⟨by rfl, ?zy27⟩) HB.out.2.range ?zr27
            case zy27 => (intro w; go_simp; try with_reducible rfl)
            simp only [List.setIfInBounds_toArray, List.set_cons_zero, List.set_cons_succ]
            refine anyH_take (i := 28) (d := 204) (v := ?z28) rfl rfl (by kernel_rfl) (by kernel_rfl) (by kernel_rfl) (fun _ _ _ h => h) (Or.inl ⟨by rfl, ?zy28⟩) HB.out.2.range ?zr28
            case zy28 => (intro w; go_simp; try with_reducible rfl)
            simp only [List.setIfInBounds_toArray, List.set_cons_zero, List.set_cons_succ]
            refine anyH_take (i := 29) (d := 205) (v := ?z29) rfl rfl (by kernel_rfl) (by kernel_rfl) (by kernel_rfl) (fun _ _ _ h => h) (Or.inl ⟨by rfl, ?zy29⟩) HB.out.2.range ?zr29
            case zy29 => (intro w; go_simp; try with_reducible rfl)
            simp only [List.setIfInBounds_toArray, List.set_cons_zero, List.set_cons_succ]
            refine anyH_one (i := 30) (by kernel_rfl) ?_
            refine wpOp_step rfl (fun K hK => ?_)
            go_simp
            refine (works9_any _).mono ?_
            rintro e wz ⟨rfl, hbz⟩
            have HZ := Lib.hid hbz
            clear hbz
            refine hK _ _ ⟨(HB.out.2.below HZ.out HB.out.2.lt).range, ?_⟩
            clear hK K
            refine anyH_take (i := 31) (d := 207) (v := ?z31) rfl rfl (by kernel_rfl) (by kernel_rfl) (by kernel_rfl) (fun _ _ _ h => h) (Or.inl ⟨by rfl, ?zy31⟩) (HB.out.2.below HZ.out HB.out.2.lt).range ?zr31
            case zy31 => (intro w; go_simp; try with_reducible rfl)
            simp only [List.setIfInBounds_toArray, List.set_cons_zero, List.set_cons_succ]
            refine anyH_take (i := 32) (d := 4) (v := ?z32) rfl rfl (by kernel_rfl) (by kernel_rfl) (by kernel_rfl) (fun _ _ _ h => h) (Or.inl ⟨by rfl, ?zy32⟩) (HB.out.2.below HZ.out HB.out.2.lt).range ?zr32
            case zy32 => (intro w; go_simp; try with_reducible rfl)
            simp only [List.setIfInBounds_toArray, List.set_cons_zero, List.set_cons_succ]
            refine wpAnyH_done (by kernel_rfl) ?_ _

            go_wp2
            go_ret
            exact ⟨rfl, HB.out.1.bel.trans (HZ.out.mono HB.out.1.bel.size)⟩

end Go.Proofs.YtbdocaohnigekaaGreat.treeSets
