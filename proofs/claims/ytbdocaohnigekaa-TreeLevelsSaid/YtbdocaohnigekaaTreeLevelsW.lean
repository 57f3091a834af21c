/-
  For all numbers leaves (brought to 1 to 200) and settings l (20 at most are made, of 100 bytes each): each level is made of the one below it by fours, the last one has one, which is the root; TreeLevels returns true; no condition.
-/
import Derived.Test.YtbdocaohnigekaaZ01
import Derived.Test.YtbdocaohnigekaaZ13
import Derived.Test.YtbdocaohnigekaaZ07
import Derived.Deep.RegionHeld3
import Derived.Deep.RegionWith
import Derived.Deep.DeepCutAuto
namespace Go.Proofs.Ytbdocaohnigekaa.treeLevels
open Go.ChangeShapes Go.WideShapes Go.ChangeAt Go.RowKit
set_option linter.unusedVariables false

/-- A tree and a book as they stand while a statement goes on. -/
structure St (w0 : World) (g bm t many : Nat) (M N : Nat → Prop) (bnd : Nat) (low : List Dg) (s : Bk) (w : World) : Prop where
  tree : TreeAt w M t g low
  kb : Kb w0.heap.size w g bm s N
  sub : ∀ i, M i → N i
  len : low.length = many
  b1 : s.1.length ≤ bnd
  b2 : s.2.2 ≤ bnd
  bel : Below w0.heap.size w0 w
section
variable {w0 w w' : World} {g bm t many bnd : Nat} {M N : Nat → Prop} {low : List Dg} {s : Bk}
theorem St.below (h : St w0 g bm t many M N bnd low s w) (hb : Below w.heap.size w w') : St w0 g bm t many M N bnd low s w' :=
  ⟨h.tree.below hb, h.kb.below hb, h.sub, h.len, h.b1, h.b2, h.bel.trans (hb.mono h.bel.size)⟩
theorem St.drew (h : St w0 g bm t many M N bnd low s w) : St w0 g bm t many M N bnd low s w.drew := h.below ((Below.refl _ _).drew)
theorem St.more {b' : Nat} (h : St w0 g bm t many M N bnd low s w) (hb : bnd ≤ b') : St w0 g bm t many M N b' low s w := ⟨h.tree, h.kb, h.sub, h.len, Nat.le_trans h.b1 hb, Nat.le_trans h.b2 hb, h.bel⟩
theorem St.set (h : St w0 g bm t many M N bnd low s w) (hb : bnd ≤ 20000) (hd : many ≤ 1024) (hM : ∀ i, M i → w0.heap.size ≤ i) (i : Nat) (hi : i < many) (A : Option Addr) (nx cp : Nat) (x : List UInt8) (hBx : Bs w A x) (hnx : x.length = nx) (hcx : nx ≤ cp) (hcm : cp ≤ maxLen) (hx : nx ≤ 65535) :
    Calls Try.prog 14 #[.pointer (some ⟨t, 0, none⟩), .int .i64 (i : Int), .slice A nx cp] w fun e w' =>
      e = .returned (.int .i64 0) ∧ St w0 g bm t many M N (bnd + 8) (lowSet low i x) (noteAll s (setIns low i x (dep low.length - 1))) w' := by
  have hb1 := h.b1
  have hb2 := h.b2
  have hl := h.len
  refine (tset_any w0.heap.size bm s N h.tree h.kb h.bel.size h.sub (by omega) (by omega) i (by omega) A nx cp x hBx hnx hcx hcm hx).mono ?_
  rintro e w' ⟨rfl, hT, hK, hO⟩
  have h3 := noteAll_len s (setIns low i x (dep low.length - 1))
  have h4 := setIns_len low i x (dep low.length - 1)
  have h5 : dep low.length ≤ 6 := dep_le (by omega)
  have h6 := dep_pos low.length
  exact ⟨rfl, hT, hK, h.sub, by rw [lowSet_len]; exact hl, by omega, by omega, h.bel.trans (hO.above (fun j hj => by
    rcases hj with hj | hj
    · exact hj.1
    · exact hM j hj) h.bel.size)⟩
end

set_option maxRecDepth 100000 in
set_option maxHeartbeats 6400000 in
theorem walk (leaves : Int) (Al : Option Addr) (nl cl : Nat) (l : List SetL) (w : World) (hleaves : (Lit.int .i64 leaves).wf = true) (hl : ArgT w Al nl cl l) :
    Calls Try.prog 5 #[.int .i64 leaves, .slice Al nl cl] w fun e w' => e = .returned (.bool true) ∧ Below w.heap.size w w' := by
  have hlb := bounds_i64 hleaves
  have Hlb := Lib.hid hlb
  have Hl := Lib.hid hl
  have hln : l.length = nl := hl.1
  have hnot : ∀ (x : Bool) (w : World), (Op.unary .not (.bool x)).run Try.prog w = .ok (.bool (!x)) w := fun _ _ => rfl
  clear hlb hleaves hl
  go_enter Try.func5, Try.ntmps5
  go_wp2_with (go_at_call 10; refine (works9_any _).mono ?_; rintro e w0 ⟨rfl, hb0⟩)
  have Hb0 := Lib.hid hb0
  clear hb0
  refine (bring_any leaves 200 w0 (by decide) (by decide) (by have := Hlb.out; omega) (by have := Hlb.out; omega)).mono ?_
  rintro e w0 ⟨r, hr, rfl, rfl⟩
  obtain ⟨many, hmany⟩ : ∃ many : Nat, (1 : Int) + (r : Int) = (many : Int) := ⟨1 + r, by omega⟩
  have hm1 : 1 ≤ many := by omega
  have hm2 : many ≤ 200 := by omega
  go_wp2_with fail
  refine (bnew_any _).mono ?_
  rintro e w1 ⟨S, g, bm, rfl, hS, hb, hb1⟩
  have hk1 := kb_new hS hb
  have Hn := Lib.hid (tnew_any w0.heap.size g bm _ many (fun _ => False) w1 hk1 hb1.size (by decide) (by decide) hm1 (by omega))
  have H1 := Lib.hid hb1
  clear hS hb hk1 hb1
  go_wp2_with fail
  refine Hn.out.mono ?_
  rintro e w2 ⟨t, M, rfl, hT, hM, hk2, hO2⟩
  have hb2 : Below w0.heap.size w0 w2 := H1.out.trans (hO2.above (fun i hi => hi.1) H1.out.size)
  have hbnd := new_bound many hm1 (by omega) ([], false, 0)
  obtain ⟨low0, hlow⟩ : ∃ low, lows (empties many) = low := ⟨_, rfl⟩
  have hll : low0.length = many := by rw [← hlow, lows_len, empties_len]
  obtain ⟨s0, hsk⟩ : ∃ sk : Bk, noteAll ([], false, 0) (insTo (empties many) (dep many - 1)) = sk := ⟨_, rfl⟩
  rw [hsk] at hk2 hbnd
  rw [hlow] at hT
  simp only [List.length_nil] at hbnd
  have HS0 := Lib.hid (show St w0 g bm t many M (fun i => False ∨ M i) 6200 low0 s0 w2 from ⟨hT, hk2, fun i hi => .inr hi, hll, by omega, by omega, hb2⟩)
  have HM := Lib.hid (show ∀ i, M i → w0.heap.size ≤ i from fun i hi => Nat.le_trans H1.out.size (hM i hi))
  clear hT hM hk2 hb2 hbnd hlow hll hsk hO2 Hn
  obtain ⟨d, hd⟩ : ∃ d, dep many = d := ⟨_, rfl⟩
  have hd1 := dep_pos many
  have hd6 := dep_le (m := many) (by omega)
  rw [hd] at hd1 hd6
  have Hd := Lib.hid hd
  clear hd
  go_upto_region 8 with fail
  rename_i Kf af
  have Af := Lib.hid af
  clear af
  go_wp2
  refine Af.out _ _ ?_
  clear Af
  go_cut [8] (fun _ wx => ∃ (low : List Dg) (s : Bk), St w0 g bm t many M (fun i => False ∨ M i) 7000 low s wx)
  case first =>
    go_wp2
    go_loopw [8] (fun kv wr => ∃ (k : Nat) (low : List Dg) (s : Bk), k ≤ 20 ∧ k ≤ nl ∧ kv = .int .i64 (k : Int) ∧ St w0 g bm t many M (fun i => False ∨ M i) (6200 + 8 * k) low s wr) (fun kv _ => 20 - (intOf kv).toNat)
    case atStart => exact ⟨0, low0, s0, Nat.zero_le _, Nat.zero_le _, rfl, HS0.out⟩
    case round =>
      obtain ⟨k, low, s, hk, hkn, rfl, hS⟩ := hrel
      have HS := Lib.hid hS
      by_cases hin : k < nl
      · by_cases h20 : k < 20
        · have hbw : Below w.heap.size w wr := Hb0.out.trans (hS.bel.mono Hb0.out.size)
          obtain ⟨sb, so, rfl, hlt, hwf, hc0, AB, cB, hc1, hle, hcm, hBx⟩ := Hl.out.at_ (j := k) (by omega)
          obtain ⟨m, x, hxl, hxm, hxc, hBx2, hmin, hsl⟩ := cutF 100 100 rfl hle hcm hBx
          obtain ⟨at_, hat⟩ : ∃ a, (l[k]).at_ = a := ⟨_, rfl⟩
          obtain ⟨nl1, hnl1⟩ : ∃ a, (l[k]).leaf.length = a := ⟨_, rfl⟩
          rw [hat] at hc0 hwf
          rw [hnl1] at hc1 hmin hsl
          have Hat := Lib.hid (bounds_i64 hwf)
          have Hx := Lib.hid (And.intro hBx2 (And.intro hxl (And.intro hxc (And.intro hcm hxm))))
          have p1 : (k : Int) < (nl : Int) := by omega
          have p2 : (k : Int) < 20 := by omega
          have p0 : (0 : Int) ≤ (k : Int) := by omega
          have Hcc := Lib.hid (show ∀ w', Below w.heap.size w w' → w'.cell? ⟨sb, so + k * 2, none⟩ = some (.int .i64 at_) ∧ w'.cell? ⟨sb, so + k * 2 + 1, none⟩ = some (.slice AB nl1 cB) from fun w' hb => ⟨(hb.cell hlt).trans hc0, (hb.cell hlt).trans hc1⟩)
          have Hbw := Lib.hid hbw
          clear hbw hlt hwf hc0 hc1 hle hcm hBx hxl hxc hBx2 hat hnl1 hS
          go_wp2
          have Q0 : wr.drew.cell? ⟨sb, so + k * 2, none⟩ = some (.int .i64 at_) ∧ wr.drew.cell? ⟨sb, so + k * 2 + 1, none⟩ = some (.slice AB nl1 cB) := Hcc.out _ Hbw.out.drew
          refine wp_region_held_drew (S := fun W' => W'.cell? ⟨sb, so + k * 2, none⟩ = some (.int .i64 at_) ∧ W'.cell? ⟨sb, so + k * 2 + 1, none⟩ = some (.slice AB nl1 cB)) (by kernel_rfl) Q0 (fun _ => ?_)
          refine anyH_take (i := 0) (d := 43) (v := ?v0) rfl rfl (by kernel_rfl) (by kernel_rfl) (by kernel_rfl) (fun _ _ _ h => h) (Or.inl ⟨by rfl, ?vy0⟩) Q0 ?vr0
          case vy0 => (intro w; go_simp; try with_reducible rfl)
          simp only [List.setIfInBounds_toArray, List.set_cons_zero, List.set_cons_succ]
          refine anyH_take (i := 1) (d := 44) (v := ?v1) rfl rfl (by kernel_rfl) (by kernel_rfl) (by kernel_rfl) (fun _ _ _ h => h) (Or.inl ⟨by rfl, ?vy1⟩) Q0 ?vr1
          case vy1 => (intro w; go_simp; try with_reducible rfl)
          simp only [List.setIfInBounds_toArray, List.set_cons_zero, List.set_cons_succ]
          refine anyH_take (i := 2) (d := 45) (v := ?v2) rfl rfl (by kernel_rfl) (by kernel_rfl) (by kernel_rfl) (fun _ _ _ h => h) (Or.inl ⟨by rfl, ?vy2⟩) Q0 ?vr2
          case vy2 => (intro w; go_simp; try with_reducible rfl)
          simp only [List.setIfInBounds_toArray, List.set_cons_zero, List.set_cons_succ]
          refine anyH_take (i := 3) (d := 46) (v := ?v3) rfl rfl (by kernel_rfl) (by kernel_rfl) (by kernel_rfl) (fun _ _ _ h => h) (Or.inl ⟨by rfl, ?vy3⟩) Q0 ?vr3
          case vy3 => (intro w; go_simp; try with_reducible rfl)
          simp only [List.setIfInBounds_toArray, List.set_cons_zero, List.set_cons_succ]
          refine anyH_take (i := 4) (d := 47) (v := ?v4) rfl rfl (by kernel_rfl) (by kernel_rfl) (by kernel_rfl) (fun _ _ _ h => h) (Or.inl ⟨by rfl, ?vy4⟩) Q0 ?vr4
          case vy4 => (intro w; go_simp; try with_reducible rfl)
          simp only [List.setIfInBounds_toArray, List.set_cons_zero, List.set_cons_succ]
          refine wpAnyH_take' (i := 5) (d := 48) (v := ?v5) rfl rfl (by kernel_rfl) (by kernel_rfl) (by kernel_rfl) (fun _ _ _ h => h) (Or.inl ⟨by rfl, ?vy5⟩) Q0 ?vr5
          case vy5 => (intro w hSw; go_split_ands; go_simp; try with_reducible rfl)
          simp only [List.setIfInBounds_toArray, List.set_cons_zero, List.set_cons_succ]
          refine anyH_take (i := 6) (d := 49) (v := ?v6) rfl rfl (by kernel_rfl) (by kernel_rfl) (by kernel_rfl) (fun _ _ _ h => h) (Or.inl ⟨by rfl, ?vy6⟩) Q0 ?vr6
          case vy6 => (intro w; go_simp; try with_reducible rfl)
          simp only [List.setIfInBounds_toArray, List.set_cons_zero, List.set_cons_succ]
          refine anyH_take (i := 8) (d := 51) (v := ?v8) rfl rfl (by kernel_rfl) (by kernel_rfl) (by kernel_rfl) (fun _ _ _ h => h) (Or.inl ⟨by rfl, ?vy8⟩) Q0 ?vr8
          case vy8 => (intro w; go_simp; try with_reducible rfl)
          simp only [List.setIfInBounds_toArray, List.set_cons_zero, List.set_cons_succ]
          refine anyH_take (i := 9) (d := 52) (v := ?v9) rfl rfl (by kernel_rfl) (by kernel_rfl) (by kernel_rfl) (fun _ _ _ h => h) (Or.inl ⟨by rfl, ?vy9⟩) Q0 ?vr9
          case vy9 => (intro w; go_simp; try with_reducible rfl)
          simp only [List.setIfInBounds_toArray, List.set_cons_zero, List.set_cons_succ]
          refine anyH_take (i := 10) (d := 53) (v := ?v10) rfl rfl (by kernel_rfl) (by kernel_rfl) (by kernel_rfl) (fun _ _ _ h => h) (Or.inl ⟨by rfl, ?vy10⟩) Q0 ?vr10
          case vy10 => (intro w; go_simp; try with_reducible rfl)
          simp only [List.setIfInBounds_toArray, List.set_cons_zero, List.set_cons_succ]
          refine anyH_take (i := 11) (d := 54) (v := ?v11) rfl rfl (by kernel_rfl) (by kernel_rfl) (by kernel_rfl) (fun _ _ _ h => h) (Or.inl ⟨by rfl, ?vy11⟩) Q0 ?vr11
          case vy11 => (intro w; go_simp; try with_reducible rfl)
          simp only [List.setIfInBounds_toArray, List.set_cons_zero, List.set_cons_succ]
          refine wpAnyH_take' (i := 12) (d := 55) (v := ?v12) rfl rfl (by kernel_rfl) (by kernel_rfl) (by kernel_rfl) (fun _ _ _ h => h) (Or.inl ⟨by rfl, ?vy12⟩) Q0 ?vr12
          case vy12 => (intro w hSw; go_split_ands; go_simp; try with_reducible rfl)
          simp only [List.setIfInBounds_toArray, List.set_cons_zero, List.set_cons_succ]
          refine anyH_take (i := 13) (d := 56) (v := ?v13) rfl rfl (by kernel_rfl) (by kernel_rfl) (by kernel_rfl) (fun _ _ _ h => h) (Or.inl ⟨by rfl, ?vy13⟩) Q0 ?vr13
          case vy13 => (intro w; go_simp; try with_reducible rfl)
          simp only [List.setIfInBounds_toArray, List.set_cons_zero, List.set_cons_succ]
          refine anyH_take (i := 14) (d := 57) (v := ?v14) rfl rfl (by kernel_rfl) (by kernel_rfl) (by kernel_rfl) (fun _ _ _ h => h) (Or.inl ⟨by rfl, ?vy14⟩) Q0 ?vr14
          case vy14 => (intro w; go_simp; try with_reducible rfl)
          simp only [List.setIfInBounds_toArray, List.set_cons_zero, List.set_cons_succ]
          refine anyH_take (i := 15) (d := 58) (v := ?v15) rfl rfl (by kernel_rfl) (by kernel_rfl) (by kernel_rfl) (fun _ _ _ h => h) (Or.inl ⟨by rfl, ?vy15⟩) Q0 ?vr15
          case vy15 => (intro w; go_simp; try with_reducible rfl)
          simp only [List.setIfInBounds_toArray, List.set_cons_zero, List.set_cons_succ]
          refine anyH_take (i := 16) (d := 59) (v := ?v16) rfl rfl (by kernel_rfl) (by kernel_rfl) (by kernel_rfl) (fun _ _ _ h => h) (Or.inl ⟨by rfl, ?vy16⟩) Q0 ?vr16
          case vy16 => (intro w; go_simp; try with_reducible rfl)
          simp only [List.setIfInBounds_toArray, List.set_cons_zero, List.set_cons_succ]
          refine wpAnyH_take' (i := 17) (d := 60) (v := ?v17) rfl rfl (by kernel_rfl) (by kernel_rfl) (by kernel_rfl) (fun _ _ _ h => h) (Or.inl ⟨by rfl, ?vy17⟩) Q0 ?vr17
          case vy17 => (intro w hSw; go_split_ands; go_simp; try with_reducible rfl)
          simp only [List.setIfInBounds_toArray, List.set_cons_zero, List.set_cons_succ]
          refine anyH_take (i := 18) (d := 61) (v := ?v18) rfl rfl (by kernel_rfl) (by kernel_rfl) (by kernel_rfl) (fun _ _ _ h => h) (Or.inl ⟨by rfl, ?vy18⟩) Q0 ?vr18
          case vy18 => (intro w; go_simp; try with_reducible rfl)
          simp only [List.setIfInBounds_toArray, List.set_cons_zero, List.set_cons_succ]
          refine anyH_take (i := 19) (d := 62) (v := ?v19) rfl rfl (by kernel_rfl) (by kernel_rfl) (by kernel_rfl) (fun _ _ _ h => h) (Or.inl ⟨by rfl, ?vy19⟩) Q0 ?vr19
          case vy19 => (intro w; go_simp; try with_reducible rfl)
          simp only [List.setIfInBounds_toArray, List.set_cons_zero, List.set_cons_succ]
          refine anyH_take (i := 20) (d := 63) (v := ?v20) rfl rfl (by kernel_rfl) (by kernel_rfl) (by kernel_rfl) (fun _ _ _ h => h) (Or.inl ⟨by rfl, ?vy20⟩) Q0 ?vr20
          case vy20 => (intro w; go_simp; try with_reducible rfl)
          simp only [List.setIfInBounds_toArray, List.set_cons_zero, List.set_cons_succ]
          refine anyH_one (i := 7) (by kernel_rfl) ?_
          refine wpOp_step rfl (fun K hK => ?_)
          go_simp
          refine (bring_any at_ many _ (by omega) (by omega) Hat.out.1 Hat.out.2).mono ?_
          rintro e wa ⟨p, hp, rfl, rfl⟩
          have Hset := Lib.hid (HS.out.drew.set (by omega) (by omega) HM.out p (by omega) AB m cB x (Hx.out.1.after Hbw.out.drew) Hx.out.2.1 Hx.out.2.2.1 Hx.out.2.2.2.1 (by have := Hx.out.2.2.2.2; omega))
          refine hK _ _ ⟨Q0, ?_⟩
          clear hK K
          refine anyH_one (i := 21) (by kernel_rfl) ?_
          refine wpOp_step rfl (fun K hK => ?_)
          go_simp
          refine Hset.out.mono ?_
          rintro e wb ⟨rfl, hS2⟩
          have HS2 := Lib.hid hS2
          clear hS2 Hset
          refine hK _ _ ⟨(Hcc.out _ (Hb0.out.trans (HS2.out.bel.mono Hb0.out.size))), ?_⟩
          clear hK K
          refine wpAnyH_done (by kernel_rfl) ?_ _

          go_wp2
          go_roundw
          case rel => exact ⟨k + 1, _, _, by omega, by omega, by go_num, HS2.out.more (by omega)⟩
          case measure => simp [intOf]; omega
        · have p1 : decide ((k : Int) < (nl : Int)) = true := by simp; omega
          have p2 : decide ((k : Int) < 20) = false := by simp; omega
          clear hS
          go_wp2
          go_meet
          exact ⟨low, s, HS.out.more (by omega)⟩
      · have p1 : decide ((k : Int) < (nl : Int)) = false := by simp; omega
        clear hS
        go_wp2
        go_meet
        exact ⟨low, s, HS.out.more (by omega)⟩
  case rest =>
    obtain ⟨low, s, hS⟩ := hcut
    have Hv := Lib.hid (tlevel_in hS.tree 0 (by rw [hS.len, Hd.out]; omega))
    have HS := Lib.hid hS
    clear hS
    go_wp2_with fail
    refine Hv.out.mono ?_
    rintro e w3 ⟨v, rfl, hN⟩
    have hlv : (lvl low 0).length = many := by rw [lvl_len, HS.out.len]; rfl
    obtain ⟨r1, c1, rfl, hc1, hcm1, hr1, hr1b, hDs1, _⟩ := hN.form (fun e => by rw [e] at hlv; simp at hlv; omega)
    rw [hlv] at hc1 ⊢
    have hS3 := HS.out.below hN.2
    have hb3 : St w0 g bm t many M (fun i => (False ∨ M i) ∨ i = r1) 7000 low s w3 := ⟨hS3.tree, HS.out.kb.belowN hN.2 (fun i hi => by
      rcases hi with hi | rfl
      · exact .inl hi
      · exact .inr ⟨hr1, hr1b⟩), fun i hi => .inl (.inr hi), hS3.len, hS3.b1, hS3.b2, hS3.bel⟩
    have H3 := Lib.hid (And.intro hb3 (And.intro hDs1 (And.intro hc1 hcm1)))
    clear hlv hN hc1 hcm1 hr1 hr1b hDs1 hS3 hb3 Hv
    go_wp2
    go_loopw [9, 11, 12, 13, 14, 15, 16] (fun v9 v11 _ _ _ _ _ wr => ∃ (k r c : Nat) (N : Nat → Prop) (s : Bk), k < d ∧ v11 = .int .i64 ((k + 1 : Nat) : Int) ∧ v9 = .slice (some ⟨r, 0, none⟩) (wid many k) c ∧ wid many k ≤ c ∧ c ≤ maxLen ∧ Ds wr (some ⟨r, 0, none⟩) (lvl low k) ∧ N r ∧ St w0 g bm t many M N (7000 + 300 * k) low s wr) (fun _ n _ _ _ _ _ _ => d - (intOf n).toNat)
    case atStart => exact ⟨0, r1, c1, _, s, hd1, rfl, rfl, H3.out.2.2.1, H3.out.2.2.2, H3.out.2.1, .inr rfl, H3.out.1⟩
    case round =>
      obtain ⟨k, r0, c0, N, s', hk, rfl, rfl, hc0, hcm0, hDs0, hNr, hS⟩ := hrel
      obtain ⟨n, hn⟩ : ∃ n, k + 1 = n := ⟨_, rfl⟩
      obtain ⟨L1, R1, lv1, cc1, h1⟩ := hS.tree
      have hblk := h1.blk
      rw [hS.len, Hd.out] at hblk
      have Hd1 := Lib.hid (tdepth_any t g many lv1 d cc1 wr hblk hd1)
      clear h1 hblk
      have hp := wid_pos hm1 k
      have hpl := wid_le many k hm1
      obtain ⟨q1, hq1⟩ : ∃ q, wid many k = q := ⟨_, rfl⟩
      rw [hq1] at hc0 hp hpl ⊢
      rw [hn]
      by_cases hlt : n < d
      · have Hv := Lib.hid (tlevel_in hS.tree n (by rw [hS.len, Hd.out]; exact hlt))
        have HS := Lib.hid hS
        have H0 := Lib.hid (And.intro hDs0 (And.intro hc0 (And.intro hcm0 (And.intro hNr (And.intro hq1 hn)))))
        have p1 : (n : Int) < (d : Int) := by omega
        clear hS hDs0 hcm0 hNr hq1 hn
        go_wp2_with (go_at_call 21; refine Hd1.out.mono ?_; rintro e wr ⟨rfl, rfl⟩)
        refine Hv.out.mono ?_
        rintro e w5 ⟨v, rfl, hN⟩
        obtain ⟨hDs0, hc0, hcm0, hNr, hq1, hn⟩ := H0.out
        obtain ⟨q2, hq2⟩ : ∃ q, wid many n = q := ⟨_, rfl⟩
        have hq12 : q2 = (q1 + 3) / 4 := by rw [← hq2, ← hq1, ← hn]; rfl
        have hlv : (lvl low n).length = q2 := by rw [lvl_len, HS.out.len, hq2]
        have hl1 : (lvl low k).length = q1 := by rw [lvl_len, HS.out.len, hq1]
        obtain ⟨r2, c2, rfl, hc2, hcm2, hr2, hr2b, hDs2, _⟩ := hN.form (fun e => by rw [e] at hlv; simp at hlv; omega)
        rw [hlv] at hc2 ⊢
        have hS5 := HS.out.below hN.2
        have hK5 : Kb w0.heap.size w5 g bm s' (fun i => N i ∨ i = r2) := HS.out.kb.belowN hN.2 (fun i hi => by
          rcases hi with hi | rfl
          · exact .inl hi
          · exact .inr ⟨hr2, hr2b⟩)
        have H5 := Lib.hid (And.intro hS5 (And.intro hK5 (And.intro (hDs0.after hN.2) (And.intro hDs2 (And.intro hlv (And.intro hl1 (And.intro hc2 (And.intro hcm2 hq2))))))))
        have hqa : ((q1 : Int) + 3) / 4 = (q2 : Int) := by omega
        have hqb : ((q1 : Int) + 3).tdiv 4 = (q2 : Int) := by rw [Int.tdiv_eq_ediv_of_nonneg (by omega)]; omega
        have hqc : (0 : Int) ≤ (q1 : Int) + 3 := by omega
        have hqd : ((q1 : Int) + 3) ≤ 203 := by omega
        have Hq := Lib.hid hq12
        clear hq12
        clear hDs0 hc0 hNr hq1 hn hN hcm2 hr2 hr2b hDs2 hS5 hK5 hlv hl1 hc2 hq2 Hv
        go_wp2
        go_loopw [14, 15, 16] (fun iv _ _ wi => ∃ (i : Nat) (s : Bk), i ≤ q2 ∧ iv = .int .i64 (i : Int) ∧ Kb w0.heap.size wi g bm s (fun i => N i ∨ i = r2) ∧ Out (Tn w0.heap.size bm w5 (fun i => N i ∨ i = r2)) w5 wi ∧ s.1.length ≤ 7000 + 300 * k + i ∧ s.2.2 ≤ 7000 + 300 * k + i) (fun iv _ _ _ => q2 - (intOf iv).toNat)
        case atStart => exact ⟨0, s', Nat.zero_le _, rfl, H5.out.2.1, Out.refl _ _, HS.out.b1, HS.out.b2⟩
        case round =>
          obtain ⟨i, sk, hi, rfl, hK, hO, hb1, hb2⟩ := hrel
          by_cases hiq : i < q2
          · obtain ⟨hS5, hK5, hDa, hDb, hlv, hl1, hc2, hcm2, hq2⟩ := H5.out
            have hq12 := Hq.out
            have hgi : i < (lvl low n).length := by omega
            have hall : All32 low := by obtain ⟨_, _, _, _, h⟩ := hS5.tree; exact h.all
            have hDa' := hDa.out hO (fun a e _ => by cases e; exact Tn.keep (.inl H0.out.2.2.2.1))
            have hDb' := hDb.out hO (fun a e _ => by cases e; exact Tn.keep (.inr rfl))
            obtain ⟨hF, hFl⟩ := ds_four hDa' (all32_lvl hall k) i (by omega)
            have hget : (lvl low n)[i]? = some (digest (upIn (four (lvl low k) i))) := by
              have h2 : lvl low n = next (lvl low k) := by rw [← H0.out.2.2.2.2.2]; rfl
              have h3 := next_get (lvl low k) i
              rw [if_pos (by omega), ← h2] at h3
              exact h3
            obtain ⟨f, hf⟩ : ∃ f, 4 * i = f := ⟨_, rfl⟩
            obtain ⟨fe, hfe⟩ : ∃ fe, min (f + 4) q1 = fe := ⟨_, rfl⟩
            have hsl0 := fun w => sl_two r0 q1 c0 f fe (by omega) (by have := H0.out.2.1; omega) w
            have hfi : (f : Int) = 4 * (i : Int) := by omega
            rw [hfi] at hsl0
            have hmin : ∀ ts t w, (Builtin.min_ ts t #[.int .i64 (4 * (i : Int) + 4), .int .i64 (q1 : Int)]).run Try.prog w = .ok (.int .i64 (fe : Int)) w := fun ts t w => by
              rw [run_min_int2]; congr 2; split <;> omega
            have hup := up_kb w0.heap.size g bm sk (fun i => N i ∨ i = r2) (some ⟨r0, f * 32, none⟩) (fe - f) (c0 - f) (four (lvl low k) i) wr hK (Nat.le_trans hS5.bel.size hO.size) (by omega) (by omega)
              (by rw [← hf, Nat.mul_comm 4 i]; exact hF) ((all32_lvl hall k).four i) (by rw [hFl, hl1]; omega) (by omega) (by omega)
            obtain ⟨D, hD⟩ : ∃ D, cbs (digest (upIn (four (lvl low k) i))) = D := ⟨_, rfl⟩
            have hD32 : D.length = 32 := by rw [← hD, cbs_length, dlen]
            have hD1 : D.toArray.all (·.oneCell') = true := by rw [← hD]; exact cbs_one' _
            have hDi : (Try.prog.info? 38).map (·.size) = some D.length := by rw [hD32]; exact info32b
            have heq := fun w' => eq_self D _ hD (dlen _) w'
            rw [hD] at hup
            have Hup := Lib.hid hup
            have H6 := Lib.hid (And.intro hDb' (And.intro hgi (And.intro hget (And.intro hall (And.intro hO (And.intro hb1 hb2))))))
            have HD := Lib.hid (And.intro hD (And.intro hD32 hD1))
            have Hdi := Lib.hid (And.intro hDi hD32)
            have b1 : (0 : Int) ≤ (i : Int) := by omega
            have b2 : (i : Int) < (q2 : Int) := by omega
            have b3 : (i : Int) ≤ 200 := by omega
            clear hq12
            clear hS5 hK5 hDa hDb hlv hl1 hc2 hcm2 hq2 hgi hall hDa' hDb' hF hFl hget hf hfe hfi hup hD hD32 hD1 hDi hK hO hb1 hb2
            go_wp2_with fail
            refine Hup.out.mono ?_
            rintro e w6 ⟨rfl, hK6, hO6⟩
            obtain ⟨w7, hw7, ⟨hth, hi7⟩, hbS7, hbel, hsz⟩ := dig_local w6 D HD.out.2.1
            have Hw7 := Lib.hid hw7
            have Hs7 := Lib.hid (And.intro hth hi7)
            have H7 := Lib.hid (And.intro hK6 (And.intro hO6 (And.intro hbS7 hbel)))
            clear hth hi7 hbS7 hbel hsz hK6 hO6 hw7 Hup
            go_wp2_with (refine wpList_store_mid rfl 38 _ _ rfl w6.heap.size 0 D.toArray rfl rfl Hs7.out.1 Hs7.out.2 HD.out.2.2 ?_; simp only [Act.put]; refine cast (congrArg (fun z => wpList _ _ _ _ _ z) Hw7.out.symm) ?_)
            have Q0 : w7.drew.rangeAt w6.heap.size 0 D ∧ w7.drew.rangeAt r2 (i * 32) D := by
              obtain ⟨hK6, hO6, hbS7, hbel⟩ := H7.out
              obtain ⟨hDb', hgi, hget, hall, hO, hb1, hb2⟩ := H6.out
              have h1 := (hDb'.out hO6 (fun a e _ => by cases e; exact Tn.keep (.inr rfl))).after hbel
              obtain ⟨_, _, e1, _, hra⟩ := h1.at_ (all32_lvl hall n) hgi
              cases e1
              have hge : (lvl low n)[i] = digest (upIn (four (lvl low k) i)) := by
                rw [List.getElem?_eq_getElem hgi] at hget
                exact Option.some.inj hget
              rw [Nat.zero_add, hge, HD.out.1] at hra
              exact ⟨hbS7.range, hra⟩
            refine wp_region_held_drew (S := fun W' => W'.rangeAt w6.heap.size 0 D ∧ W'.rangeAt r2 (i * 32) D) (by kernel_rfl) Q0 (fun _ => ?_)
            refine anyH_take (i := 0) (d := 122) (v := ?u0) rfl rfl (by kernel_rfl) (by kernel_rfl) (by kernel_rfl) (fun _ _ _ h => h) (Or.inl ⟨by rfl, ?uy0⟩) Q0 ?ur0
            case uy0 => (intro w; go_simp; try with_reducible rfl)
            simp only [List.setIfInBounds_toArray, List.set_cons_zero, List.set_cons_succ]
            refine anyH_take (i := 1) (d := 123) (v := ?u1) rfl rfl (by kernel_rfl) (by kernel_rfl) (by kernel_rfl) (fun _ _ _ h => h) (Or.inl ⟨by rfl, ?uy1⟩) Q0 ?ur1
            case uy1 => (intro w; go_simp; try with_reducible rfl)
            simp only [List.setIfInBounds_toArray, List.set_cons_zero, List.set_cons_succ]
            refine anyH_take (i := 2) (d := 124) (v := ?u2) rfl rfl (by kernel_rfl) (by kernel_rfl) (by kernel_rfl) (fun _ _ _ h => h) (Or.inl ⟨by rfl, ?uy2⟩) Q0 ?ur2
            case uy2 => (intro w; go_simp; try with_reducible rfl)
            simp only [List.setIfInBounds_toArray, List.set_cons_zero, List.set_cons_succ]
            refine anyH_load (i := 3) (d := 125) rfl rfl (by kernel_rfl) (by kernel_rfl) (by kernel_rfl) (by rfl) 38 _ rfl w6.heap.size 0 rfl D _ (fun _ h => h.1) Try.underlying38 rfl Hdi.out.1 (fun _ _ _ h => h) Q0 ?_
            simp only [List.setIfInBounds_toArray, List.set_cons_zero, List.set_cons_succ]
            refine anyH_take (i := 4) (d := 126) (v := ?u4) rfl rfl (by kernel_rfl) (by kernel_rfl) (by kernel_rfl) (fun _ _ _ h => h) (Or.inl ⟨by rfl, ?uy4⟩) Q0 ?ur4
            case uy4 => (intro w; go_simp; try with_reducible rfl)
            simp only [List.setIfInBounds_toArray, List.set_cons_zero, List.set_cons_succ]
            refine anyH_take (i := 5) (d := 127) (v := ?u5) rfl rfl (by kernel_rfl) (by kernel_rfl) (by kernel_rfl) (fun _ _ _ h => h) (Or.inl ⟨by rfl, ?uy5⟩) Q0 ?ur5
            case uy5 => (intro w; go_simp; try with_reducible rfl)
            simp only [List.setIfInBounds_toArray, List.set_cons_zero, List.set_cons_succ]
            refine anyH_take (i := 6) (d := 128) (v := ?u6) rfl rfl (by kernel_rfl) (by kernel_rfl) (by kernel_rfl) (fun _ _ _ h => h) (Or.inl ⟨by rfl, ?uy6⟩) Q0 ?ur6
            case uy6 => (intro w; go_simp; try with_reducible rfl)
            simp only [List.setIfInBounds_toArray, List.set_cons_zero, List.set_cons_succ]
            refine anyH_load (i := 7) (d := 129) rfl rfl (by kernel_rfl) (by kernel_rfl) (by kernel_rfl) (by rfl) 38 _ rfl r2 (i * 32) rfl D _ (fun _ h => h.2) Try.underlying38 rfl Hdi.out.1 (fun _ _ _ h => h) Q0 ?_
            simp only [List.setIfInBounds_toArray, List.set_cons_zero, List.set_cons_succ]
            refine anyH_take (i := 8) (d := 130) (v := ?u8) rfl rfl (by kernel_rfl) (by kernel_rfl) (by kernel_rfl) (fun _ _ _ h => h) (Or.inl ⟨by rfl, ?uy8⟩) Q0 ?ur8
            case uy8 => (intro w; go_simp; try with_reducible rfl)
            simp only [List.setIfInBounds_toArray, List.set_cons_zero, List.set_cons_succ]
            refine anyH_take (i := 9) (d := 131) (v := ?u9) rfl rfl (by kernel_rfl) (by kernel_rfl) (by kernel_rfl) (fun _ _ _ h => h) (Or.inl ⟨by rfl, ?uy9⟩) Q0 ?ur9
            case uy9 => (intro w; go_simp; try with_reducible rfl)
            simp only [List.setIfInBounds_toArray, List.set_cons_zero, List.set_cons_succ]
            refine wpAnyH_done (by kernel_rfl) ?_ _

            go_wp2
            go_roundw
            case rel =>
              obtain ⟨hK6, hO6, hbS7, hbel⟩ := H7.out
              obtain ⟨hDb', hgi, hget, hall, hO, hb1, hb2⟩ := H6.out
              have hbd := hbel.drew
              have hln := noteAll_len sk [upIn (four (lvl low k) i)]
              refine ⟨i + 1, _, by omega, by go_num, hK6.below hbd, (hO.tn hO6 (fun _ _ e => e)).then_below hbd, ?_, ?_⟩
              · have : (stepL sk (upIn (four (lvl low k) i))).1.length ≤ sk.1.length + 1 := hln.1
                omega
              · have : (stepL sk (upIn (four (lvl low k) i))).2.2 ≤ sk.2.2 + 1 := hln.2
                omega
            case measure => simp [intOf]; omega
          · have b2 : ¬ (i : Int) < (q2 : Int) := by omega
            have HK := Lib.hid (And.intro hK (And.intro hO (And.intro hb1 hb2)))
            clear hK hO hb1 hb2
            go_wp2
            go_roundw
            case rel =>
              obtain ⟨hK, hO, hb1, hb2⟩ := HK.out
              obtain ⟨hS5, hK5, hDa, hDb, hlv, hl1, hc2, hcm2, hq2⟩ := H5.out
              have hq12 := Hq.out
              have hnn := H0.out.2.2.2.2.2
              refine ⟨n, r2, c2, _, sk, hlt, by go_num, by rw [hq2], by rw [hq2]; exact hc2, hcm2, hDb.out hO (fun a e _ => by cases e; exact Tn.keep (.inr rfl)), .inr rfl, hS5.tree.out hO (fun j hj => Tn.keep (.inl (hS5.sub j hj))), hK, fun j hj => .inl (hS5.sub j hj), hS5.len, by omega, by omega, hS5.bel.trans (hO.above (fun j hj => hj.1) hS5.bel.size)⟩
            case measure => simp [intOf]; omega
      · obtain rfl : n = d := by omega
        have hl32 : All32 low := by obtain ⟨_, _, _, _, h⟩ := hS.tree; exact h.all
        have hr1 : lvl low k = [rootD low] := by
          have := root_one (low := low) (by rw [hS.len]; exact hm1)
          rwa [hS.len, Hd.out, show n - 1 = k by omega] at this
        have hq : q1 = 1 := by
          have := lvl_len low k
          rw [hr1, hS.len, hq1] at this
          simpa using this.symm
        subst hq
        rw [hr1] at hDs0
        have hrl : (rootD low).length = 32 := root_len (by rw [hS.len]; exact hm1) hl32
        obtain ⟨D, hD⟩ : ∃ D, cbs (rootD low) = D := ⟨_, rfl⟩
        have hD32 : D.length = 32 := by rw [← hD, cbs_length, hrl]
        have hD1 : D.toArray.all (·.oneCell') = true := by rw [← hD]; exact cbs_one' _
        have hDi : (Try.prog.info? 38).map (·.size) = some D.length := by rw [hD32]; exact info32b
        have heq := fun w' => eq_self D (rootD low) hD hrl w'
        have hrt := hroot_any hS.tree
        rw [hD] at hrt
        have Hrt := Lib.hid hrt
        have HD := Lib.hid (And.intro hD (And.intro hD32 (And.intro hD1 (And.intro hDs0 hS.bel))))
        have Hdi := Lib.hid (And.intro hDi hrl)
        have p1 : ¬ (n : Int) < (n : Int) := by omega
        clear hDs0 hS hl32 hr1 hrl hD hD32 hD1 hDi hrt hq1
        go_wp2_with (go_at_call 21; refine Hd1.out.mono ?_; rintro e wr ⟨rfl, rfl⟩)
        refine Hrt.out.mono ?_
        rintro e w6 ⟨rfl, hb6⟩
        obtain ⟨w7, hw7, ⟨hth, hi7⟩, hbS7, hbel, hsz⟩ := dig_local w6 D HD.out.2.1
        have Hw7 := Lib.hid hw7
        have Hs7 := Lib.hid (And.intro hth hi7)
        have H7 := Lib.hid (And.intro hb6 (And.intro hbS7 hbel))
        clear hth hi7 hbS7 hbel hsz hb6 hw7
        go_wp2_with (refine wpList_store_mid rfl 38 _ _ rfl w6.heap.size 0 D.toArray rfl rfl Hs7.out.1 Hs7.out.2 HD.out.2.2.1 ?_; simp only [Act.put]; refine cast (congrArg (fun z => wpList _ _ _ _ _ z) Hw7.out.symm) ?_)
        have hb67 := H7.out.1.trans (H7.out.2.2.mono H7.out.1.size)
        have Q0 : w7.drew.rangeAt w6.heap.size 0 D ∧ w7.drew.rangeAt r0 0 D := by
          obtain ⟨_, _, e1, _, hra⟩ := (HD.out.2.2.2.1.after hb67).at_ (fun d hd => by simp at hd; rw [hd]; exact Hdi.out.2) (i := 0) (by simp)
          cases e1
          exact ⟨H7.out.2.1.range, by simpa [HD.out.1] using hra⟩
        have Hz := Lib.hid hb67
        clear hb67
        refine wp_region_held_drew (S := fun W' => W'.rangeAt w6.heap.size 0 D ∧ W'.rangeAt r0 0 D) (by kernel_rfl) Q0 (fun _ => ?_)
        refine anyH_take (i := 0) (d := 138) (v := ?xc0) rfl rfl (by kernel_rfl) (by kernel_rfl) (by kernel_rfl) (fun _ _ _ h => h) (Or.inl ⟨by rfl, ?xcy0⟩) Q0 ?xcr0
        case xcy0 => (intro w; go_simp; try with_reducible rfl)
        simp only [List.setIfInBounds_toArray, List.set_cons_zero, List.set_cons_succ]
        refine anyH_take (i := 1) (d := 139) (v := ?xc1) rfl rfl (by kernel_rfl) (by kernel_rfl) (by kernel_rfl) (fun _ _ _ h => h) (Or.inl ⟨by rfl, ?xcy1⟩) Q0 ?xcr1
        case xcy1 => (intro w; go_simp; try with_reducible rfl)
        simp only [List.setIfInBounds_toArray, List.set_cons_zero, List.set_cons_succ]
        refine anyH_take (i := 2) (d := 140) (v := ?xc2) rfl rfl (by kernel_rfl) (by kernel_rfl) (by kernel_rfl) (fun _ _ _ h => h) (Or.inl ⟨by rfl, ?xcy2⟩) Q0 ?xcr2
        case xcy2 => (intro w; go_simp; try with_reducible rfl)
        simp only [List.setIfInBounds_toArray, List.set_cons_zero, List.set_cons_succ]
        refine anyH_take (i := 3) (d := 141) (v := ?xc3) rfl rfl (by kernel_rfl) (by kernel_rfl) (by kernel_rfl) (fun _ _ _ h => h) (Or.inl ⟨by rfl, ?xcy3⟩) Q0 ?xcr3
        case xcy3 => (intro w; go_simp; try with_reducible rfl)
        simp only [List.setIfInBounds_toArray, List.set_cons_zero, List.set_cons_succ]
        refine anyH_take (i := 4) (d := 142) (v := ?xc4) rfl rfl (by kernel_rfl) (by kernel_rfl) (by kernel_rfl) (fun _ _ _ h => h) (Or.inl ⟨by rfl, ?xcy4⟩) Q0 ?xcr4
        case xcy4 => (intro w; go_simp; try with_reducible rfl)
        simp only [List.setIfInBounds_toArray, List.set_cons_zero, List.set_cons_succ]
        refine anyH_take (i := 5) (d := 143) (v := ?xc5) rfl rfl (by kernel_rfl) (by kernel_rfl) (by kernel_rfl) (fun _ _ _ h => h) (Or.inl ⟨by rfl, ?xcy5⟩) Q0 ?xcr5
        case xcy5 => (intro w; go_simp; try with_reducible rfl)
        simp only [List.setIfInBounds_toArray, List.set_cons_zero, List.set_cons_succ]
        refine anyH_take (i := 6) (d := 144) (v := ?xc6) rfl rfl (by kernel_rfl) (by kernel_rfl) (by kernel_rfl) (fun _ _ _ h => h) (Or.inl ⟨by rfl, ?xcy6⟩) Q0 ?xcr6
        case xcy6 => (intro w; go_simp; try with_reducible rfl)
        simp only [List.setIfInBounds_toArray, List.set_cons_zero, List.set_cons_succ]
        refine anyH_load (i := 7) (d := 145) rfl rfl (by kernel_rfl) (by kernel_rfl) (by kernel_rfl) (by rfl) 38 _ rfl w6.heap.size 0 rfl D _ (fun _ h => h.1) Try.underlying38 rfl Hdi.out.1 (fun _ _ _ h => h) Q0 ?_
        simp only [List.setIfInBounds_toArray, List.set_cons_zero, List.set_cons_succ]
        refine anyH_take (i := 8) (d := 146) (v := ?xc8) rfl rfl (by kernel_rfl) (by kernel_rfl) (by kernel_rfl) (fun _ _ _ h => h) (Or.inl ⟨by rfl, ?xcy8⟩) Q0 ?xcr8
        case xcy8 => (intro w; go_simp; try with_reducible rfl)
        simp only [List.setIfInBounds_toArray, List.set_cons_zero, List.set_cons_succ]
        refine anyH_take (i := 9) (d := 147) (v := ?xc9) rfl rfl (by kernel_rfl) (by kernel_rfl) (by kernel_rfl) (fun _ _ _ h => h) (Or.inl ⟨by rfl, ?xcy9⟩) Q0 ?xcr9
        case xcy9 => (intro w; go_simp; try with_reducible rfl)
        simp only [List.setIfInBounds_toArray, List.set_cons_zero, List.set_cons_succ]
        refine anyH_load (i := 10) (d := 148) rfl rfl (by kernel_rfl) (by kernel_rfl) (by kernel_rfl) (by rfl) 38 _ rfl r0 0 rfl D _ (fun _ h => h.2) Try.underlying38 rfl Hdi.out.1 (fun _ _ _ h => h) Q0 ?_
        simp only [List.setIfInBounds_toArray, List.set_cons_zero, List.set_cons_succ]
        refine anyH_take (i := 11) (d := 149) (v := ?xc11) rfl rfl (by kernel_rfl) (by kernel_rfl) (by kernel_rfl) (fun _ _ _ h => h) (Or.inl ⟨by rfl, ?xcy11⟩) Q0 ?xcr11
        case xcy11 => (intro w; go_simp; try with_reducible rfl)
        simp only [List.setIfInBounds_toArray, List.set_cons_zero, List.set_cons_succ]
        refine anyH_take (i := 12) (d := 150) (v := ?xc12) rfl rfl (by kernel_rfl) (by kernel_rfl) (by kernel_rfl) (fun _ _ _ h => h) (Or.inl ⟨by rfl, ?xcy12⟩) Q0 ?xcr12
        case xcy12 => (intro w; go_simp; try with_reducible rfl)
        simp only [List.setIfInBounds_toArray, List.set_cons_zero, List.set_cons_succ]
        refine anyH_take (i := 13) (d := 4) (v := ?xc13) rfl rfl (by kernel_rfl) (by kernel_rfl) (by kernel_rfl) (fun _ _ _ h => h) (Or.inl ⟨by rfl, ?xcy13⟩) Q0 ?xcr13
        case xcy13 => (intro w; go_simp; try with_reducible rfl)
        simp only [List.setIfInBounds_toArray, List.set_cons_zero, List.set_cons_succ]
        refine wpAnyH_done (by kernel_rfl) ?_ _

        go_wp2
        go_ret
        exact ⟨rfl, Hb0.out.trans (((HD.out.2.2.2.2.trans (Hz.out.mono HD.out.2.2.2.2.size)).drew).mono Hb0.out.size)⟩

end Go.Proofs.Ytbdocaohnigekaa.treeLevels
