/-
  For all lists of leaves (40 at most, cut to 100 bytes) and any claim: as long as the book tells of no clash, what fits a tree's root is a leaf of it, as it is there; ProofJust returns true; no condition.
-/
import Derived.Test.YtcamgldilknanaaZ07
import Derived.Test.YtcamgldilknanaaZ16
import Derived.Test.YtcamgldilknanaaZ01
import Derived.Deep.RegionHeld3
import Derived.Deep.RegionWith
import Derived.Deep.DeepCutAuto
namespace Go.Proofs.Ytcamgldilknanaa.proofJust
open Go.ChangeShapes Go.WideShapes Go.ChangeAt Go.RowKit
set_option linter.unusedVariables false

set_option maxRecDepth 100000 in
set_option maxHeartbeats 6400000 in
theorem walk (Al : Option Addr) (nl cl : Nat) (l : List (List UInt8)) (rc : Dg) (vc fc : Int) (Bc : Option Addr) (nc cc : Nat) (bc : List UInt8) (Pc : Option Addr) (mc dc : Nat) (c : List (List Dg)) (w : World) (hl : ArgL w Al nl cl l) (hc : ArgCl w rc vc fc Bc nc cc bc Pc mc dc c) :
    Calls Try.prog 4 #[.slice Al nl cl, .agg (clCells rc vc fc Bc nc cc Pc mc dc).toArray] w fun e w' => e = .returned (.bool true) ∧ Below w.heap.size w w' := by
  obtain ⟨hrc, hvc, hfc, ⟨hbc1, hbc2, hbc3, hbc4⟩, hpc1, hpc2, hpc3, hpc4⟩ := hc
  have Hc := Lib.hid (And.intro hrc (And.intro hbc1 (And.intro hbc2 (And.intro hbc3 (And.intro hbc4 (And.intro hpc1 (And.intro hpc2 (And.intro hpc3 hpc4))))))))
  obtain ⟨C, hC⟩ : ∃ C, clCells rc vc fc Bc nc cc Pc mc dc = C := ⟨_, rfl⟩
  have hbox : Blk (w.alloc (.cells C.toArray 42)) w.heap.size 42 C := Blk.new rfl rfl
  have cl : (cbs rc).length = 32 := by rw [cbs_length, hrc]
  have hcell : (w.alloc (.cells C.toArray 42)).cell? ⟨w.heap.size, 33, none⟩ = some (.int .i64 fc) ∧ (w.alloc (.cells C.toArray 42)).cell? ⟨w.heap.size, 34, none⟩ = some (.slice Bc nc cc) ∧ (w.alloc (.cells C.toArray 42)).cell? ⟨w.heap.size, 35, none⟩ = some (.slice Pc mc dc) := by
    refine ⟨hbox.cell ?_, hbox.cell ?_, hbox.cell ?_⟩
    all_goals
      rw [← hC]
      unfold clCells
      rw [List.getElem?_append_right (by omega), cl]
      rfl
  have Hcell := Lib.hid hcell
  have hbel : Below w.heap.size w (w.alloc (.cells C.toArray 42)) := (Below.refl _ _).alloc (Nat.le_refl _) _
  have hlt : w.heap.size < (w.alloc (.cells C.toArray 42)).heap.size := by simp
  have Hbel := Lib.hid (And.intro hbel hlt)
  rw [hC]
  clear hrc hvc hfc hbc1 hbc2 hbc3 hbc4 hpc1 hpc2 hpc3 hpc4 hC hbox cl hcell hbel hlt
  have Hl := Lib.hid hl
  have hnot : ∀ (x : Bool) (w : World), (Op.unary .not (.bool x)).run Try.prog w = .ok (.bool (!x)) w := fun _ _ => rfl
  clear hl
  go_enter Try.func4, Try.ntmps4
  go_wp2_with (go_at_call 8; refine (works10_any _).mono ?_; rintro e w0 ⟨rfl, hb0⟩)
  have Hb0 := Lib.hid (show Below w.heap.size w w0 from (Hbel.out.1).trans (hb0.mono (Hbel.out.1).size))
  have Hcl := Lib.hid (show ∀ W' : World, Below w0.heap.size w0 W' → W'.cell? ⟨w.heap.size, 33, none⟩ = some (.int .i64 fc) ∧ W'.cell? ⟨w.heap.size, 34, none⟩ = some (.slice Bc nc cc) ∧ W'.cell? ⟨w.heap.size, 35, none⟩ = some (.slice Pc mc dc) from fun W' hb => by
    have hz := Hbel.out.2
    have hz0 := hb0.size
    have e : ∀ o, W'.cell? ⟨w.heap.size, o, none⟩ = (w.alloc (.cells C.toArray 42)).cell? ⟨w.heap.size, o, none⟩ := fun o => (hb.cell (p := ⟨w.heap.size, o, none⟩) (by show w.heap.size < _; omega)).trans (hb0.cell (p := ⟨w.heap.size, o, none⟩) hz)
    rw [e, e, e]; exact Hcell.out)
  clear hb0
  refine (bnew_any _).mono ?_
  rintro e w1 ⟨S, g, bm, rfl, hS, hb, hb1⟩
  have hk1 := kb_new hS hb
  have Hk1 := Lib.hid (And.intro hk1 (And.intro hb1 (show Below w.heap.size w w1 from Hb0.out.trans (hb1.mono Hb0.out.size))))
  clear hS hb hk1 hb1
  by_cases hne : l = []
  · have h0 : nl = 0 := by have := Hl.out.1; rw [hne] at this; simpa using this.symm
    subst h0
    go_wp2_with (go_at_call 10; refine (made_none _ _ _ _).mono ?_; rintro e w' ⟨rfl, rfl⟩)
    go_ret
    exact ⟨rfl, Hk1.out.2.2⟩
  · have hmd := made_any w0.heap.size g bm ([], false, 0) _ 0 w1 Hk1.out.1 Hk1.out.2.1.size (by decide) (Nat.zero_le _) (Nat.zero_le _) _ Al nl cl l ((lvs_of_arg Hl.out hne).stays ⟨Hk1.out.2.2.size, fun j hj => Hk1.out.2.2.block j hj⟩) Hl.out.1 (by have := Hl.out.1; have := List.length_pos_iff.2 hne; omega) (by have := Hl.out.2.1; have := Hl.out.2.2.1; omega) (fun j hj => ⟨by have := Hk1.out.2.2.size; omega, .inl (by have := Hb0.out.size; omega)⟩)
    have hln := Hl.out.1
    have hpos := List.length_pos_iff.2 hne
    have hmx := cut40_len l
    have hsm := cut40_sm l
    have hgt := cut40_get l
    generalize cut40 l = xs at *
    obtain ⟨m, hm⟩ : ∃ m, xs.length = m := ⟨_, rfl⟩
    rw [hm] at hmx
    have Hmd := Lib.hid hmd
    have Hx := Lib.hid (And.intro hm (And.intro hmx (And.intro hsm (And.intro hgt (And.intro (lvs_of_arg Hl.out hne) (And.intro hln hpos))))))
    have hnz : ((nl : Int) == 0) = false := by simp; omega
    clear hmd hln hpos hmx hsm hgt hm hne
    go_wp2_with fail
    refine Hmd.out.mono ?_
    rintro e w2 ⟨t, M, s2, rfl, hT2⟩
    rw [Hx.out.1] at hT2
    have HT2 := Lib.hid hT2
    clear hT2 Hmd
    have hr := troot_at HT2.out.tree
    obtain ⟨D, hD⟩ : ∃ D, cbs (rootD (lows xs)) = D := ⟨_, rfl⟩
    have hrl : (rootD (lows xs)).length = 32 := root_len HT2.out.tree.l1 HT2.out.tree.all
    have hD32 : D.length = 32 := by rw [← hD, cbs_length, hrl]
    have hD1 : D.toArray.all (·.oneCell') = true := by rw [← hD]; exact cbs_one' _
    rw [hD] at hr
    have Hr := Lib.hid hr
    have HD := Lib.hid (And.intro hD32 (And.intro hD1 (And.intro hD (And.intro hrl (show (Try.prog.info? 31).map (·.size) = some D.length from by rw [hD32]; exact info32b)))))
    clear hD hrl hD32 hD1 hr
    go_wp2_with fail
    refine Hr.out.mono ?_
    rintro e w4 ⟨rfl, hb4⟩
    obtain ⟨w5, hw5, ⟨hth5, hi5⟩, hbS5, hbel5, hsz5⟩ := dig_local w4 D HD.out.1
    have hb25 : Below w2.heap.size w2 w5 := hb4.trans (hbel5.mono hb4.size)
    have Hw5 := Lib.hid hw5
    have Hs5 := Lib.hid (And.intro hth5 (And.intro hi5 HD.out.2.1))
    have H5 := Lib.hid (And.intro hb25 (And.intro hbS5 (And.intro hb4.size hsz5)))
    clear hb4 hw5 hth5 hi5 hbS5 hbel5 hsz5 hb25 Hr
    have hbd5 : Below w5.heap.size w5 w5.drew := (Below.refl _ _).drew
    have hT5 := (HT2.out.keep (N' := fun j => w2.heap.size ≤ j ∧ j < w5.heap.size) H5.out.1 (fun j hj => .inr hj)).below hbd5
    have hb0d := hT5.bel Hk1.out.2.1
    have hbw : Below w.heap.size w w5.drew := Hb0.out.trans (hb0d.mono Hb0.out.size)
    have hck := hT5.checkAll (by decide) (rootD (lows xs)) HD.out.2.2.2.1 fc Bc nc cc bc (Hc.out.2.2.2.2.1.after hbw) Hc.out.2.1 Hc.out.2.2.1 Hc.out.2.2.2.1 (fun j => j < w.heap.size) Pc mc dc c
      (Hc.out.2.2.2.2.2.2.2.2.stays ⟨hbw.size, fun j hj => hbw.block j hj⟩) Hc.out.2.2.2.2.2.1 (by have := Hc.out.2.2.2.2.2.2.1; have := Hc.out.2.2.2.2.2.2.2.1; omega) (fun j hj => ⟨by have := hbw.size; omega, .inl (by have := Hb0.out.size; omega)⟩)
    rw [HD.out.2.2.1] at hck
    have hr5 : Blk w5.drew w4.heap.size 31 D := H5.out.2.1.below hbd5 H5.out.2.1.lt
    have hz5 := H5.out.2.2
    have Hck := Lib.hid hck
    have HQ := Lib.hid (show ∀ (W' : World) {bnd : Nat} {s3 : Bk}, Out (Tn w0.heap.size bm w5.drew (fun j => (w2.heap.size ≤ j ∧ j < w5.heap.size) ∨ M j)) w5.drew W' → Tb w1 w0.heap.size g bm t m M (fun j => w2.heap.size ≤ j ∧ j < w5.heap.size) bnd xs ([], false, 0) s3 W' → W'.rangeAt w4.heap.size 0 D ∧ (W'.cell? ⟨w.heap.size, 33, none⟩ = some (.int .i64 fc) ∧ W'.cell? ⟨w.heap.size, 34, none⟩ = some (.slice Bc nc cc) ∧ W'.cell? ⟨w.heap.size, 35, none⟩ = some (.slice Pc mc dc)) ∧ TreeAt W' M t g (lows xs) from fun W' {_ _} hO hT =>
      ⟨(hO.blk hr5 (Tn.keep (.inl ⟨hz5.1, by omega⟩))).range, Hcl.out _ (hT.bel Hk1.out.2.1), hT.tree⟩)
    have hQ5 : w5.drew.rangeAt w4.heap.size 0 D ∧ (w5.drew.cell? ⟨w.heap.size, 33, none⟩ = some (.int .i64 fc) ∧ w5.drew.cell? ⟨w.heap.size, 34, none⟩ = some (.slice Bc nc cc) ∧ w5.drew.cell? ⟨w.heap.size, 35, none⟩ = some (.slice Pc mc dc)) ∧ TreeAt w5.drew M t g (lows xs) := ⟨hr5.range, Hcl.out _ hb0d, hT5.tree⟩
    clear hbd5 hT5 hb0d hbw hck hr5 hz5
    go_wp2_with (refine wpList_store_mid rfl 31 _ _ rfl w4.heap.size 0 D.toArray rfl rfl Hs5.out.1 Hs5.out.2.1 Hs5.out.2.2 ?_; simp only [Act.put]; refine cast (congrArg (fun z => wpList _ _ _ _ _ z) Hw5.out.symm) ?_)
    have Q0 : w5.drew.rangeAt w4.heap.size 0 D ∧ (w5.drew.cell? ⟨w.heap.size, 33, none⟩ = some (.int .i64 fc) ∧ w5.drew.cell? ⟨w.heap.size, 34, none⟩ = some (.slice Bc nc cc) ∧ w5.drew.cell? ⟨w.heap.size, 35, none⟩ = some (.slice Pc mc dc)) ∧ TreeAt w5.drew M t g (lows xs) := hQ5
    refine wp_region_held_drew (S := fun W' => W'.rangeAt w4.heap.size 0 D ∧ (W'.cell? ⟨w.heap.size, 33, none⟩ = some (.int .i64 fc) ∧ W'.cell? ⟨w.heap.size, 34, none⟩ = some (.slice Bc nc cc) ∧ W'.cell? ⟨w.heap.size, 35, none⟩ = some (.slice Pc mc dc)) ∧ TreeAt W' M t g (lows xs)) (by kernel_rfl) Q0 (fun _ => ?_)
    refine anyH_take (i := 0) (d := 26) (v := ?v0) rfl rfl (by kernel_rfl) (by kernel_rfl) (by kernel_rfl) (fun _ _ _ h => h) (Or.inl ⟨by rfl, ?vy0⟩) Q0 ?vr0
    case vy0 => (intro w; go_simp; try with_reducible rfl)
    simp only [List.setIfInBounds_toArray, List.set_cons_zero, List.set_cons_succ]
    refine anyH_load (i := 1) (d := 27) rfl rfl (by kernel_rfl) (by kernel_rfl) (by kernel_rfl) (by rfl) 31 _ rfl w4.heap.size 0 rfl D _ (fun _ h => h.1) Try.underlying31 rfl HD.out.2.2.2.2 (fun _ _ _ h => h) Q0 ?_
    simp only [List.setIfInBounds_toArray, List.set_cons_zero, List.set_cons_succ]
    refine anyH_take (i := 2) (d := 28) (v := ?v2) rfl rfl (by kernel_rfl) (by kernel_rfl) (by kernel_rfl) (fun _ _ _ h => h) (Or.inl ⟨by rfl, ?vy2⟩) Q0 ?vr2
    case vy2 => (intro w; go_simp; try with_reducible rfl)
    simp only [List.setIfInBounds_toArray, List.set_cons_zero, List.set_cons_succ]
    refine anyH_call (i := 3) (d := 29) (v := (.int .i64 (m : Int))) rfl rfl (by kernel_rfl) (by kernel_rfl) (by kernel_rfl) (fun _ _ _ h => h) ⟨by rfl, fun W hW => ⟨12, #[.pointer (some ⟨t, 0, none⟩)], ?vy3, by have := tleaves_at hW.2.2; rw [lows_len, Hx.out.1] at this; exact this⟩⟩ Q0 ?vr3
    case vy3 => (go_simp; try with_reducible rfl)
    simp only [List.setIfInBounds_toArray, List.set_cons_zero, List.set_cons_succ]
    refine anyH_take (i := 4) (d := 30) (v := ?v4) rfl rfl (by kernel_rfl) (by kernel_rfl) (by kernel_rfl) (fun _ _ _ h => h) (Or.inl ⟨by rfl, ?vy4⟩) Q0 ?vr4
    case vy4 => (intro w; go_simp; try with_reducible rfl)
    simp only [List.setIfInBounds_toArray, List.set_cons_zero, List.set_cons_succ]
    refine wpAnyH_take' (i := 5) (d := 31) (v := ?v5) rfl rfl (by kernel_rfl) (by kernel_rfl) (by kernel_rfl) (fun _ _ _ h => h) (Or.inl ⟨by rfl, ?vy5⟩) Q0 ?vr5
    case vy5 => (intro w hSw; go_split_ands; go_simp; try with_reducible rfl)
    simp only [List.setIfInBounds_toArray, List.set_cons_zero, List.set_cons_succ]
    refine anyH_take (i := 6) (d := 32) (v := ?v6) rfl rfl (by kernel_rfl) (by kernel_rfl) (by kernel_rfl) (fun _ _ _ h => h) (Or.inl ⟨by rfl, ?vy6⟩) Q0 ?vr6
    case vy6 => (intro w; go_simp; try with_reducible rfl)
    simp only [List.setIfInBounds_toArray, List.set_cons_zero, List.set_cons_succ]
    refine wpAnyH_take' (i := 7) (d := 33) (v := ?v7) rfl rfl (by kernel_rfl) (by kernel_rfl) (by kernel_rfl) (fun _ _ _ h => h) (Or.inl ⟨by rfl, ?vy7⟩) Q0 ?vr7
    case vy7 => (intro w hSw; go_split_ands; go_simp; try with_reducible rfl)
    simp only [List.setIfInBounds_toArray, List.set_cons_zero, List.set_cons_succ]
    refine anyH_take (i := 8) (d := 34) (v := ?v8) rfl rfl (by kernel_rfl) (by kernel_rfl) (by kernel_rfl) (fun _ _ _ h => h) (Or.inl ⟨by rfl, ?vy8⟩) Q0 ?vr8
    case vy8 => (intro w; go_simp; try with_reducible rfl)
    simp only [List.setIfInBounds_toArray, List.set_cons_zero, List.set_cons_succ]
    refine wpAnyH_take' (i := 9) (d := 35) (v := ?v9) rfl rfl (by kernel_rfl) (by kernel_rfl) (by kernel_rfl) (fun _ _ _ h => h) (Or.inl ⟨by rfl, ?vy9⟩) Q0 ?vr9
    case vy9 => (intro w hSw; go_split_ands; go_simp; try with_reducible rfl)
    simp only [List.setIfInBounds_toArray, List.set_cons_zero, List.set_cons_succ]
    refine anyH_one (i := 10) (by kernel_rfl) ?_
    refine wpOp_step rfl (fun K hK => ?_)
    go_simp
    refine Hck.out.mono ?_
    rintro e wb ⟨cE, s3, rfl, hTb, hOb, hcE⟩
    have HTb := Lib.hid hTb
    have HOb := Lib.hid hOb
    have HcE := Lib.hid hcE
    clear hTb hOb hcE Hck
    refine hK _ _ ⟨(HQ.out _ HOb.out HTb.out), ?_⟩
    clear hK K
    refine anyH_take (i := 11) (d := 9) (v := ?v11) rfl rfl (by kernel_rfl) (by kernel_rfl) (by kernel_rfl) (fun _ _ _ h => h) (Or.inl ⟨by rfl, ?vy11⟩) (HQ.out _ HOb.out HTb.out) ?vr11
    case vy11 => (intro w; go_simp; try with_reducible rfl)
    simp only [List.setIfInBounds_toArray, List.set_cons_zero, List.set_cons_succ]
    refine wpAnyH_done (by kernel_rfl) ?_ _
    clear hQ5 Q0
    by_cases h0 : cE = 0
    · subst h0
      have hcl := kb_clash HTb.out.kb
      obtain ⟨i, hi, him, hbl, hs3, hfit⟩ := HcE.out rfl
      obtain ⟨cf, hcf⟩ : ∃ cf, s3.2.1 = cf := ⟨_, rfl⟩
      rw [hcf] at hcl
      have Hcl2 := Lib.hid hcl
      have Hf := Lib.hid (And.intro hi (And.intro him (And.intro hbl (And.intro hs3 (And.intro hfit hcf)))))
      clear hcl hi him hbl hs3 hfit hcf HcE
      cases cf with
      | true =>
        go_wp2_with (go_at_call 16; refine Hcl2.out.mono ?_; rintro e wb ⟨rfl, rfl⟩)
        go_ret
        exact ⟨rfl, Hb0.out.trans ((HTb.out.bel Hk1.out.2.1).mono Hb0.out.size)⟩
      | false =>
        obtain ⟨hi, him, hbl, hs3, hfit, hcf⟩ := Hf.out
        obtain ⟨hm, hmx, hsm, hgt, hLv, hln, hpos⟩ := Hx.out
        have hil : i < l.length := by omega
        obtain ⟨lb, off, rfl, hkb, hcc⟩ := hLv
        obtain ⟨AB, cB, g1, g2, g3, g4, g5⟩ := hcc i hil
        have hgx := hgt i (by omega) hil
        obtain ⟨nj, hnj⟩ : ∃ n, (l[i]).length = n := ⟨_, rfl⟩
        obtain ⟨m1, q1, q2, q3, q4, hmin2, hsl⟩ := cutT 100 100 rfl g2 g3 g4
        rw [hnj] at g1 hmin2 hsl
        obtain ⟨x, hx⟩ : ∃ x, (l[i]).take 100 = x := ⟨_, rfl⟩
        rw [hx] at q1 q4 hgx
        have hxe : x = bc := by
          have h1 : i < xs.length := by omega
          have h2 : xs[i] = x := by rw [List.getElem?_eq_getElem h1] at hgx; exact Option.some.inj hgx
          rw [← h2]
          refine fits_just hm him hbl (fun y hy => by have := hsm y hy; omega) Hc.out.2.2.2.2.2.2.2.2.all (HT2.out.good (fun _ x hx => by simp at hx)) (fun y hy hl => HT2.out.has y (by rw [hm]; exact hy) hl) (by rw [← hs3]; exact hcf) hfit
        have hbb : Below w.heap.size w wb.drew := (Hb0.out.trans ((HTb.out.bel Hk1.out.2.1).mono Hb0.out.size)).drew
        have heq := eqBytes AB Bc cB cc m1 nc x bc wb.drew (q4.after hbb) (Hc.out.2.2.2.2.1.after hbb) q1 Hc.out.2.1 (by omega) (by have := Hc.out.2.2.1; have := Hc.out.2.2.2.1; omega)
        rw [show (x == bc) = true from by rw [hxe]; simp] at heq
        have Heq := Lib.hid heq
        have hS0 : wb.drew.cell? ⟨lb, off + i, none⟩ = some (.slice AB nj cB) ∧ wb.drew.cell? ⟨w.heap.size, 33, none⟩ = some (.int .i64 (i : Int)) ∧ wb.drew.cell? ⟨w.heap.size, 34, none⟩ = some (.slice Bc nc cc) := by
          have k := Hcl.out _ (HTb.out.bel Hk1.out.2.1).drew
          exact ⟨(hbb.cell hkb).trans g1, by rw [← hi]; exact k.1, k.2.1⟩
        have HS2 := Lib.hid (show ∀ W' : World, Below wb.drew.heap.size wb.drew W' → W'.cell? ⟨lb, off + i, none⟩ = some (.slice AB nj cB) ∧ W'.cell? ⟨w.heap.size, 33, none⟩ = some (.int .i64 (i : Int)) ∧ W'.cell? ⟨w.heap.size, 34, none⟩ = some (.slice Bc nc cc) from fun W' hb => by
          have hz0 := (HTb.out.bel Hk1.out.2.1).size
          have hz1 := Hb0.out.size
          have hz2 := Hbel.out.2
          have hz3 := hbb.size
          have k0 := World.block_lt_of_cell? wb.drew _ hS0.2.1
          exact ⟨(hb.cell (World.block_lt_of_cell? wb.drew _ hS0.1)).trans hS0.1, (hb.cell (World.block_lt_of_cell? wb.drew _ hS0.2.1)).trans hS0.2.1, (hb.cell (World.block_lt_of_cell? wb.drew _ hS0.2.2)).trans hS0.2.2⟩)
        have i0 : (0 : Int) ≤ (i : Int) := by omega
        have i1 : (i : Int) < (nl : Int) := by omega
        have HF := Lib.hid hbb
        clear hi him hbl hs3 hfit hcf hm hmx hsm hgt hln hpos hil hkb hcc g1 g2 g3 g4 g5 hgx hnj q1 q2 q3 q4 hx hxe hbb heq
        go_wp2_with (go_at_call 16; refine Hcl2.out.mono ?_; rintro e wb ⟨rfl, rfl⟩)
        have Q1 : wb.drew.cell? ⟨lb, off + i, none⟩ = some (.slice AB nj cB) ∧ wb.drew.cell? ⟨w.heap.size, 33, none⟩ = some (.int .i64 (i : Int)) ∧ wb.drew.cell? ⟨w.heap.size, 34, none⟩ = some (.slice Bc nc cc) := hS0
        refine wp_region_held_drew (S := fun W' => W'.cell? ⟨lb, off + i, none⟩ = some (.slice AB nj cB) ∧ W'.cell? ⟨w.heap.size, 33, none⟩ = some (.int .i64 (i : Int)) ∧ W'.cell? ⟨w.heap.size, 34, none⟩ = some (.slice Bc nc cc)) (by kernel_rfl) Q1 (fun _ => ?_)
        refine anyH_take (i := 0) (d := 49) (v := ?u0) rfl rfl (by kernel_rfl) (by kernel_rfl) (by kernel_rfl) (fun _ _ _ h => h) (Or.inl ⟨by rfl, ?uy0⟩) Q1 ?ur0
        case uy0 => (intro w; go_simp; try with_reducible rfl)
        simp only [List.setIfInBounds_toArray, List.set_cons_zero, List.set_cons_succ]
        refine anyH_take (i := 1) (d := 50) (v := ?u1) rfl rfl (by kernel_rfl) (by kernel_rfl) (by kernel_rfl) (fun _ _ _ h => h) (Or.inl ⟨by rfl, ?uy1⟩) Q1 ?ur1
        case uy1 => (intro w; go_simp; try with_reducible rfl)
        simp only [List.setIfInBounds_toArray, List.set_cons_zero, List.set_cons_succ]
        refine wpAnyH_take' (i := 2) (d := 51) (v := ?u2) rfl rfl (by kernel_rfl) (by kernel_rfl) (by kernel_rfl) (fun _ _ _ h => h) (Or.inl ⟨by rfl, ?uy2⟩) Q1 ?ur2
        case uy2 => (intro w hSw; go_split_ands; go_simp; try with_reducible rfl)
        simp only [List.setIfInBounds_toArray, List.set_cons_zero, List.set_cons_succ]
        refine anyH_take (i := 3) (d := 52) (v := ?u3) rfl rfl (by kernel_rfl) (by kernel_rfl) (by kernel_rfl) (fun _ _ _ h => h) (Or.inl ⟨by rfl, ?uy3⟩) Q1 ?ur3
        case uy3 => (intro w; go_simp; try with_reducible rfl)
        simp only [List.setIfInBounds_toArray, List.set_cons_zero, List.set_cons_succ]
        refine wpAnyH_take' (i := 4) (d := 53) (v := ?u4) rfl rfl (by kernel_rfl) (by kernel_rfl) (by kernel_rfl) (fun _ _ _ h => h) (Or.inl ⟨by rfl, ?uy4⟩) Q1 ?ur4
        case uy4 => (intro w hSw; go_split_ands; go_simp; try with_reducible rfl)
        simp only [List.setIfInBounds_toArray, List.set_cons_zero, List.set_cons_succ]
        refine anyH_take (i := 5) (d := 54) (v := ?u5) rfl rfl (by kernel_rfl) (by kernel_rfl) (by kernel_rfl) (fun _ _ _ h => h) (Or.inl ⟨by rfl, ?uy5⟩) Q1 ?ur5
        case uy5 => (intro w; go_simp; try with_reducible rfl)
        simp only [List.setIfInBounds_toArray, List.set_cons_zero, List.set_cons_succ]
        refine anyH_take (i := 6) (d := 55) (v := ?u6) rfl rfl (by kernel_rfl) (by kernel_rfl) (by kernel_rfl) (fun _ _ _ h => h) (Or.inl ⟨by rfl, ?uy6⟩) Q1 ?ur6
        case uy6 => (intro w; go_simp; try with_reducible rfl)
        simp only [List.setIfInBounds_toArray, List.set_cons_zero, List.set_cons_succ]
        refine wpAnyH_take' (i := 7) (d := 56) (v := ?u7) rfl rfl (by kernel_rfl) (by kernel_rfl) (by kernel_rfl) (fun _ _ _ h => h) (Or.inl ⟨by rfl, ?uy7⟩) Q1 ?ur7
        case uy7 => (intro w hSw; go_split_ands; go_simp; try with_reducible rfl)
        simp only [List.setIfInBounds_toArray, List.set_cons_zero, List.set_cons_succ]
        refine anyH_take (i := 8) (d := 57) (v := ?u8) rfl rfl (by kernel_rfl) (by kernel_rfl) (by kernel_rfl) (fun _ _ _ h => h) (Or.inl ⟨by rfl, ?uy8⟩) Q1 ?ur8
        case uy8 => (intro w; go_simp; try with_reducible rfl)
        simp only [List.setIfInBounds_toArray, List.set_cons_zero, List.set_cons_succ]
        refine wpAnyH_take' (i := 9) (d := 58) (v := ?u9) rfl rfl (by kernel_rfl) (by kernel_rfl) (by kernel_rfl) (fun _ _ _ h => h) (Or.inl ⟨by rfl, ?uy9⟩) Q1 ?ur9
        case uy9 => (intro w hSw; go_split_ands; go_simp; try with_reducible rfl)
        simp only [List.setIfInBounds_toArray, List.set_cons_zero, List.set_cons_succ]
        refine anyH_take (i := 10) (d := 59) (v := ?u10) rfl rfl (by kernel_rfl) (by kernel_rfl) (by kernel_rfl) (fun _ _ _ h => h) (Or.inl ⟨by rfl, ?uy10⟩) Q1 ?ur10
        case uy10 => (intro w; go_simp; try with_reducible rfl)
        simp only [List.setIfInBounds_toArray, List.set_cons_zero, List.set_cons_succ]
        refine anyH_take (i := 11) (d := 60) (v := ?u11) rfl rfl (by kernel_rfl) (by kernel_rfl) (by kernel_rfl) (fun _ _ _ h => h) (Or.inl ⟨by rfl, ?uy11⟩) Q1 ?ur11
        case uy11 => (intro w; go_simp; try with_reducible rfl)
        simp only [List.setIfInBounds_toArray, List.set_cons_zero, List.set_cons_succ]
        refine anyH_take (i := 12) (d := 61) (v := ?u12) rfl rfl (by kernel_rfl) (by kernel_rfl) (by kernel_rfl) (fun _ _ _ h => h) (Or.inl ⟨by rfl, ?uy12⟩) Q1 ?ur12
        case uy12 => (intro w; go_simp; try with_reducible rfl)
        simp only [List.setIfInBounds_toArray, List.set_cons_zero, List.set_cons_succ]
        refine anyH_take (i := 13) (d := 62) (v := ?u13) rfl rfl (by kernel_rfl) (by kernel_rfl) (by kernel_rfl) (fun _ _ _ h => h) (Or.inl ⟨by rfl, ?uy13⟩) Q1 ?ur13
        case uy13 => (intro w; go_simp; try with_reducible rfl)
        simp only [List.setIfInBounds_toArray, List.set_cons_zero, List.set_cons_succ]
        refine wpAnyH_take' (i := 14) (d := 63) (v := ?u14) rfl rfl (by kernel_rfl) (by kernel_rfl) (by kernel_rfl) (fun _ _ _ h => h) (Or.inl ⟨by rfl, ?uy14⟩) Q1 ?ur14
        case uy14 => (intro w hSw; go_split_ands; go_simp; try with_reducible rfl)
        simp only [List.setIfInBounds_toArray, List.set_cons_zero, List.set_cons_succ]
        refine anyH_one (i := 15) (by kernel_rfl) ?_
        refine wpOp_step rfl (fun K hK => ?_)
        go_simp
        refine Heq.out.mono ?_
        rintro e wz ⟨rfl, hbz⟩
        have Hbz := Lib.hid hbz
        clear hbz Heq
        refine hK _ _ ⟨(HS2.out _ Hbz.out), ?_⟩
        clear hK K
        refine anyH_take (i := 16) (d := 4) (v := ?u16) rfl rfl (by kernel_rfl) (by kernel_rfl) (by kernel_rfl) (fun _ _ _ h => h) (Or.inl ⟨by rfl, ?uy16⟩) (HS2.out _ Hbz.out) ?ur16
        case uy16 => (intro w; go_simp; try with_reducible rfl)
        simp only [List.setIfInBounds_toArray, List.set_cons_zero, List.set_cons_succ]
        refine wpAnyH_done (by kernel_rfl) ?_ _
        go_wp2
        go_ret
        exact ⟨rfl, HF.out.trans (Hbz.out.mono HF.out.size)⟩
    · have h1 : (cE != 0) = true := by simp [h0]
      clear h0 HcE
      go_wp2
      go_ret
      exact ⟨rfl, Hb0.out.trans ((HTb.out.bel Hk1.out.2.1).mono Hb0.out.size)⟩

end Go.Proofs.Ytcamgldilknanaa.proofJust
