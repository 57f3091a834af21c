/-
  For all bytes d (64 at most are taken) and all numbers p (brought to a bit of a sector): a bit that is turned is turned alone, and stays so; PlateTurned returns true; no condition.
-/
import Derived.Test.YtmncfbkeepnaiaaOpen
import Derived.Test.YtmncfbkeepnaiaaTurnedP
import Derived.Test.YtmncfbkeepnaiaaAwake
import Derived.Deep.RegionHeld3
import Derived.Deep.RegionWith
import Derived.Deep.DeepCutAuto
namespace Go.Proofs.Ytmncfbkeepnaiaa.plateTurned
open Go.ChangeShapes Go.WideShapes Go.ChangeAt Go.RowKit
set_option linter.unusedVariables false

set_option maxRecDepth 100000 in
set_option maxHeartbeats 6400000 in
theorem walk (Ad : Option Addr) (nd cd : Nat) (d : List UInt8) (p : Int) (w : World) (hd : ArgB w Ad nd cd d) (hp : (Lit.int .i64 p).wf = true) :
    Calls Try.prog 7 #[.slice Ad nd cd, .int .i64 p] w fun e w' => e = .returned (.bool true) ∧ Below w.heap.size w w' := by
  have hnot : ∀ (x : Bool) (w : World), (Op.unary .not (.bool x)).run Try.prog w = .ok (.bool (!x)) w := fun _ _ => rfl
  have hbc := hd.2.2.1
  have hbn := hd.2.1
  have Hb := Lib.hid hd
  clear hd
  obtain ⟨q, hq, hq5⟩ : ∃ q : Nat, p % 512 = (q : Int) ∧ q < 512 := ⟨(p % 512).toNat, by omega, by omega⟩
  have Hbr := Lib.hid (fun w => bringN_any p 512 w (by decide) (by decide) hp)
  have Hq := Lib.hid hq
  clear hq
  obtain ⟨x, hx⟩ : ∃ x, over64 d = x := ⟨_, rfl⟩
  have hxl : x.length = 64 := by rw [← hx]; exact over64_len d
  have Hx := Lib.hid (And.intro hx hxl)
  clear hx hxl
  go_enter Try.func7, Try.ntmps7
  go_wp2_with fail
  refine (pk_new (w0 := w) 3 (by decide) (by decide) (Below.refl _ _)).mono ?_
  rintro e w1 ⟨g, r, m, rfl, q1, q2, q3, hkk, hbb⟩
  have K1 := Lib.hid hkk
  clear hkk hbb q1 q2 q3
  go_wp2_with fail
  refine (full_any 0 w1).mono ?_
  rintro e w2 ⟨gx, rfl, hgx, hBx, hbx⟩
  have hgw : w.heap.size ≤ gx := Nat.le_trans K1.out.bel.size hgx
  have HG := Lib.hid hgw
  have Hc := Lib.hid (And.intro (K1.out.below hbx) (And.intro hBx hbx))
  clear hgw hBx hbx
  go_wp2_with (refine wp_copyX rfl _ _ rfl gx Ad nd cd d rfl rfl Hc.out.2.1 Hb.out Hc.out.1.bel ?_; intro w3 hB3 hb3 kz)
  have hB3 : Blk w3 gx 5 (cbs x) := by rw [← Hx.out.1]; exact hB3
  have hb13 := Hc.out.2.2.trans (hb3.mono hgx)
  have K3 := Lib.hid (And.intro (K1.out.below hb13) (And.intro hB3 (K1.out.notM hgx)))
  clear hB3 hb13 hb3 K1 Hc
  refine (Hbr.out w3).mono ?_
  rintro e w' ⟨rfl, hw⟩
  obtain rfl : w3 = w' := hw.symm
  rw [Hq.out]
  have i0 : (0 : Int) ≤ q := by omega
  have i1 : (q : Int) < 512 := by omega
  go_wp2_with fail
  refine (pk_write (l := x) K3.out.1 1 (by decide) 64 64 Hx.out.2 (by simp [maxLen]) (BOff.ofBlk K3.out.2.1 K3.out.2.2) 0 (tp1 x) (tp_write x Hx.out.2).1 (tp_write x Hx.out.2).2).mono ?_
  rintro e w4 ⟨rfl, hkk, ho⟩
  have K4 := Lib.hid (And.intro hkk (And.intro (ho.blk K3.out.2.1 K3.out.2.2) K3.out.2.2))
  clear hkk ho K3
  go_wp2_with fail
  refine (pk_turn K4.out.1 1 (q : Int) (by decide) (wf_nat (by omega)) 0 (tp2 (flipB x q)) (tp_turn x q hq5).1 (tp_turn x q hq5).2).mono ?_
  rintro e w5 ⟨rfl, hkk, ho⟩
  have K5 := Lib.hid (And.intro hkk (And.intro (ho.blk K4.out.2.1 K4.out.2.2) K4.out.2.2))
  clear hkk ho K4
  go_wp2_with fail
  refine (pk_waits K5.out.1 [] (tp_waits _)).mono ?_
  rintro e w6 ⟨Aw, cw, rfl, hI, hbb, _⟩
  have K6 := Lib.hid (And.intro (K5.out.1.below hbb) (And.intro (K5.out.2.1.below hbb K5.out.2.1.lt) K5.out.2.2))
  clear hI hbb K5
  go_wp2_with fail
  refine (pk_crash (k := []) K6.out.1 0 0 rfl (KOff.nil _ _) 0 (tp3 (flipB x q)) (tp_crash _).1 (tp_crash _).2).mono ?_
  rintro e w7 ⟨rfl, hkk, ho⟩
  have K7 := Lib.hid (And.intro hkk (And.intro (ho.blk K6.out.2.1 K6.out.2.2) K6.out.2.2))
  clear hkk ho K6
  go_wp2_with fail
  refine (pk_boot K7.out.1 (tp2 (flipB x q)) (tp_boot _)).mono ?_
  rintro e w8 ⟨rfl, hkk, ho⟩
  have K8 := Lib.hid (And.intro hkk (And.intro (ho.blk K7.out.2.1 K7.out.2.2) K7.out.2.2))
  clear hkk ho K7
  obtain ⟨kb, hkb⟩ : ∃ kb, q / 8 = kb := ⟨_, rfl⟩
  obtain ⟨kr, hkr⟩ : ∃ kr, q % 8 = kr := ⟨_, rfl⟩
  have hkb64 : kb < 64 := by omega
  have hkr8 : kr < 8 := by omega
  have e1 : (q : Int) / 8 = (kb : Int) := by omega
  have e2 : (q : Int) % 8 = (kr : Int) := by omega
  have e1' : Int.tdiv (q : Int) 8 = (kb : Int) := by rw [Int.tdiv_eq_ediv_of_nonneg (by omega)]; exact e1
  have e2' : Int.tmod (q : Int) 8 = (kr : Int) := by rw [Int.tmod_eq_emod_of_nonneg (by omega)]; exact e2
  have j0 : (0 : Int) ≤ kb := by omega
  have j1 : (kb : Int) < 64 := by omega
  have j2 : (0 : Int) ≤ kr := by omega
  have j3 : (kr : Int) < 8 := by omega
  have ew1 : IntKind.i64.wrap (kb : Int) = (kb : Int) := IntWalk.i64_in _ (by omega)
  have ew2 : IntKind.i64.wrap (kr : Int) = (kr : Int) := IntWalk.i64_in _ (by omega)
  obtain ⟨z, hz⟩ : ∃ z : UInt8, 1 <<< UInt8.ofNat kr = z := ⟨_, rfl⟩
  have hshl : IntKind.u8.wrap (2 ^ kr) = (z.toNat : Int) := by
    subst hz
    clear e1 e1' e2 e2' ew1 ew2 j2 j3 hkr
    rcases kr with _ | _ | _ | _ | _ | _ | _ | _ | k
    all_goals first | rfl | decide | omega
  have hkl : kb < x.length := by rw [Hx.out.2]; exact hkb64
  have hxor : bits .xor .u8 (x[kb].toNat : Int) (z.toNat : Int) = ((x[kb].toNat ^^^ z.toNat : Nat) : Int) := u8_xor_nat x[kb].toNat z.toNat x[kb].toNat_lt z.toNat_lt
  have hflip : flipB x q = x.set kb (x[kb] ^^^ z) := by unfold flipB; rw [hkb, hkr, hz, List.getElem?_eq_getElem hkl]; rfl
  have hB9 : Blk ((w8.setCell ⟨gx, kb, none⟩ (.int .u8 ((x[kb].toNat ^^^ z.toNat : Nat) : Int))).drew) gx 5 (cbs (flipB x q)) := by
    rw [hflip]
    have h1 := K8.out.2.1.set_ kb (.int .u8 ((x[kb].toNat ^^^ z.toNat : Nat) : Int))
    have h2 : (cbs x).set kb (.int .u8 ((x[kb].toNat ^^^ z.toNat : Nat) : Int)) = cbs (x.set kb (x[kb] ^^^ z)) := by
      unfold cbs; rw [List.map_set]; unfold cb; rw [UInt8.toNat_xor]
    rw [← h2]; exact h1
  have hO9 : Out (fun i => i = gx) w8 ((w8.setCell ⟨gx, kb, none⟩ (.int .u8 ((x[kb].toNat ^^^ z.toNat : Nat) : Int))).drew) := ((Out.refl (fun i => i = gx) w8).setCell (fun _ => rfl) _).drewN 1
  have hK9 : Pk w ((w8.setCell ⟨gx, kb, none⟩ (.int .u8 ((x[kb].toNat ^^^ z.toNat : Nat) : Int))).drew) (GRM g r m) g r m (tp2 (flipB x q)) := by
    have hx1 := K8.out.2.2
    exact K8.out.1.outK rfl hO9 (fun i e => by have := K8.out.1.bel.size; have := HG.out; omega) (fun e => hx1 (e ▸ .inl rfl)) (fun e => hx1 (e ▸ .inr (.inl rfl))) (fun e => hx1 (e ▸ .inr (.inr rfl)))
  have ck : w8.drew.cell? ⟨gx, kb, none⟩ = some (.int .u8 (x[kb].toNat : Int)) := by
    refine (K8.out.2.1.below ((Below.refl w8.heap.size w8).drew) K8.out.2.1.lt).cell ?_
    rw [cbs_get, List.getElem?_eq_getElem hkl]; rfl
  have fk : w8.drew.frozen? ⟨gx, kb, none⟩ = false := (K8.out.2.1.below ((Below.refl w8.heap.size w8).drew) K8.out.2.1.lt).free kb
  have HF := Lib.hid (And.intro hB9 hK9)
  clear hB9 hO9 hK9 hflip hkb hkr
  go_wp2
  refine wp_region_any (by kernel_rfl) ?_
  change wpAny _ _ _ _ _ _ _ (World.drew _)
  refine any_take (i := 0) (d := 45) (v := .slice (some ⟨gx, 0, none⟩) 64 64) rfl rfl (by kernel_rfl) (by kernel_rfl) (by kernel_rfl) (fun _ _ _ h => h) (Or.inl ⟨by rfl, (by intro w; go_simp)⟩) ?_
  simp only [List.setIfInBounds_toArray, List.set_cons_zero, List.set_cons_succ]
  refine any_take (i := 1) (d := 46) (v := .int .i64 (q : Int)) rfl rfl (by kernel_rfl) (by kernel_rfl) (by kernel_rfl) (fun _ _ _ h => h) (Or.inl ⟨by rfl, (by intro w; go_simp)⟩) ?_
  simp only [List.setIfInBounds_toArray, List.set_cons_zero, List.set_cons_succ]
  refine any_take (i := 2) (d := 47) (v := .int .i64 (kb : Int)) rfl rfl (by kernel_rfl) (by kernel_rfl) (by kernel_rfl) (fun _ _ _ h => h) (Or.inl ⟨by rfl, (by intro w; go_simp)⟩) ?_
  simp only [List.setIfInBounds_toArray, List.set_cons_zero, List.set_cons_succ]
  refine any_take (i := 3) (d := 48) (v := .slice (some ⟨gx, 0, none⟩) 64 64) rfl rfl (by kernel_rfl) (by kernel_rfl) (by kernel_rfl) (fun _ _ _ h => h) (Or.inl ⟨by rfl, (by intro w; go_simp)⟩) ?_
  simp only [List.setIfInBounds_toArray, List.set_cons_zero, List.set_cons_succ]
  refine any_take (i := 4) (d := 49) (v := .int .i64 (q : Int)) rfl rfl (by kernel_rfl) (by kernel_rfl) (by kernel_rfl) (fun _ _ _ h => h) (Or.inl ⟨by rfl, (by intro w; go_simp)⟩) ?_
  simp only [List.setIfInBounds_toArray, List.set_cons_zero, List.set_cons_succ]
  refine any_take (i := 5) (d := 50) (v := .int .i64 (kb : Int)) rfl rfl (by kernel_rfl) (by kernel_rfl) (by kernel_rfl) (fun _ _ _ h => h) (Or.inl ⟨by rfl, (by intro w; go_simp)⟩) ?_
  simp only [List.setIfInBounds_toArray, List.set_cons_zero, List.set_cons_succ]
  refine any_take (i := 6) (d := 51) (v := .pointer (some ⟨gx, kb, none⟩)) rfl rfl (by kernel_rfl) (by kernel_rfl) (by kernel_rfl) (fun _ _ _ h => h) (Or.inl ⟨by rfl, (by intro w; go_simp)⟩) ?_
  simp only [List.setIfInBounds_toArray, List.set_cons_zero, List.set_cons_succ]
  refine any_take (i := 8) (d := 53) (v := .int .i64 (q : Int)) rfl rfl (by kernel_rfl) (by kernel_rfl) (by kernel_rfl) (fun _ _ _ h => h) (Or.inl ⟨by rfl, (by intro w; go_simp)⟩) ?_
  simp only [List.setIfInBounds_toArray, List.set_cons_zero, List.set_cons_succ]
  refine any_take (i := 9) (d := 54) (v := .int .i64 (kr : Int)) rfl rfl (by kernel_rfl) (by kernel_rfl) (by kernel_rfl) (fun _ _ _ h => h) (Or.inl ⟨by rfl, (by intro w; go_simp)⟩) ?_
  simp only [List.setIfInBounds_toArray, List.set_cons_zero, List.set_cons_succ]
  refine any_take (i := 10) (d := 55) (v := .int .u8 (z.toNat : Int)) rfl rfl (by kernel_rfl) (by kernel_rfl) (by kernel_rfl) (fun _ _ _ h => h) (Or.inl ⟨by rfl, (by intro w; go_simp)⟩) ?_
  simp only [List.setIfInBounds_toArray, List.set_cons_zero, List.set_cons_succ]
  refine any_one (i := 7) (by kernel_rfl) ?_
  refine wpOp_step rfl (fun K hK => ?_)
  go_simp
  refine hK _ _ ?_
  clear hK K
  refine any_take (i := 11) (d := 56) (v := .int .u8 ((x[kb].toNat ^^^ z.toNat : Nat) : Int)) rfl rfl (by kernel_rfl) (by kernel_rfl) (by kernel_rfl) (fun _ _ _ h => h) (Or.inl ⟨by rfl, (by intro w; go_simp)⟩) ?_
  simp only [List.setIfInBounds_toArray, List.set_cons_zero, List.set_cons_succ]
  refine any_take (i := 12) (d := 57) (v := .pointer (some ⟨gx, kb, none⟩)) rfl rfl (by kernel_rfl) (by kernel_rfl) (by kernel_rfl) (fun _ _ _ h => h) (Or.inl ⟨by rfl, (by intro w; go_simp)⟩) ?_
  simp only [List.setIfInBounds_toArray, List.set_cons_zero, List.set_cons_succ]
  refine any_one (i := 13) (by kernel_rfl) ?_
  refine wpOp_step rfl (fun K hK => ?_)
  go_simp
  refine hK _ _ ?_
  clear hK K
  refine wpAny_done (by kernel_rfl) ?_ _
  clear ck fk hxor hshl e1 e2 e1' e2' ew1 ew2 j0 j1 j2 j3 hz
  go_wp2_with fail
  generalize (w8.setCell ⟨gx, kb, none⟩ (.int .u8 ((x[kb].toNat ^^^ z.toNat : Nat) : Int))).drew = w9 at *
  obtain ⟨f, hf, hfl⟩ : ∃ f, flipB x q = f ∧ f.length = 64 := ⟨_, rfl, by unfold flipB; rw [List.length_set]; exact Hx.out.2⟩
  have HF2 : Hid (Blk w9 gx 5 (cbs f) ∧ Pk w w9 (GRM g r m) g r m (tp2 f)) := by rw [← hf]; exact HF
  have hr := read_any HF2.out.2.1 1 (by decide)
  rw [tp_read] at hr
  have Hr := Lib.hid hr
  have Hfl := Lib.hid hfl
  clear hr hf hfl HF K8 Hx
  refine Hr.out.mono ?_
  rintro e w10 ⟨v, rfl, hbb, hv⟩
  have hv2 : ∃ b0, v = .slice (some ⟨b0, 0, none⟩) 64 64 ∧ Blk w10 b0 74 (cbs f) := by
    rcases hv with ⟨_, hn⟩ | ⟨b0, e, _, _, hB⟩
    · have hn2 : f = [] := hn
      have := Hfl.out
      rw [hn2] at this
      cases this
    · exact ⟨b0, e, hB⟩
  obtain ⟨b0, rfl, hB0⟩ := hv2
  have Ka := Lib.hid (And.intro (HF2.out.2.below hbb) (And.intro (HF2.out.1.below hbb HF2.out.1.lt) hB0))
  clear hbb hv hB0 Hr
  go_wp2_with fail
  refine (eqBytes (some ⟨gx, 0, none⟩) (some ⟨b0, 0, none⟩) 64 64 64 64 f f w10 (Bs.ofBlk Ka.out.2.1) (Bs.ofBlk Ka.out.2.2) Hfl.out Hfl.out (by simp [maxLen]) (by simp [maxLen])).mono ?_
  rintro e w11 ⟨he, hbb⟩
  have he2 : e = .returned (.bool true) := by rw [he]; simp
  subst he2
  have Kc := Lib.hid (Ka.out.1.below hbb)
  clear hbb he Ka HF2
  go_wp2_with fail
  refine (pk_has Kc.out 0 (by decide) 0 true (tp_has0 f)).mono ?_
  rintro e w12 ⟨rfl, hbb⟩
  have Kd := Lib.hid (Kc.out.below hbb)
  clear hbb Kc
  go_wp2_with fail
  refine (pk_has Kd.out 2 (by decide) 0 true (tp_has2 f)).mono ?_
  rintro e w13 ⟨rfl, hbb⟩
  have Ke := Lib.hid (Kd.out.below hbb).bel
  clear hbb Kd
  go_wp2_with (go_at_call 12; refine (awake_any _).mono ?_; rintro e w14 ⟨rfl, hb14⟩)
  go_ret
  exact ⟨rfl, Ke.out.trans (hb14.mono Ke.out.size)⟩

end Go.Proofs.Ytmncfbkeepnaiaa.plateTurned
