/-
  Laid together for a hand-in: Ch10, Pg10, OfA9, Two9, Nt9.
-/
import Derived.Test.YtkkcjkelijlmbaaZ12
import Derived.Test.YtkkcjkelijlmbaaZ11

namespace Go.Proofs.Ytkkcjkelijlmbaa

open Go.RowKit Go.Maps

set_option linter.unusedVariables false

/-- What stands while Check goes on: the digest reached, the book, the root. -/
structure Ck (B g bm z0 z1 : Nat) (root : Dg) (N : Nat → Prop) (w : World) (dk : Dg) (sk : Bk) (wr : World) : Prop where
  kb : Kb B wr g bm sk (fun j => (N j ∨ j = z0) ∨ j = z1)
  out : Out (Tn B bm w N) w wr
  rb : Blk wr z0 30 (cbs root)
  db : Blk wr z1 30 (cbs dk)
  hd : dk.length = 32
  g0 : w.heap.size ≤ z0
  g1 : w.heap.size ≤ z1
  ne : z0 ≠ z1
  hB : B ≤ w.heap.size

section

variable {B g bm z0 z1 : Nat} {root dk : Dg} {N : Nat → Prop} {w wr : World} {sk : Bk}

theorem Ck.below {w' : World} (h : Ck B g bm z0 z1 root N w dk sk wr) (hb : Below wr.heap.size wr w') : Ck B g bm z0 z1 root N w dk sk w' :=
  ⟨h.kb.below hb, h.out.then_below hb, h.rb.below hb h.rb.lt, h.db.below hb h.db.lt, h.hd, h.g0, h.g1, h.ne, h.hB⟩

theorem Ck.up {p : List Dg} (h : Ck B g bm z0 z1 root N w dk sk wr) (hL : sk.1.length < 1000000) (hs : sk.2.2 < 1000000) (A : Option Addr) (m cp : Nat) (hD : Ds wr A p) (h32 : All32 p) (hm : p.length = m) (h1 : 1 ≤ m) (h4 : m ≤ 4) :
    Calls Try.prog 25 #[.pointer (some ⟨g, 0, none⟩), .slice A m cp] wr fun e w' =>
      e = .returned (.tuple #[.agg (cbs (digest (upIn p))).toArray, .int .i64 0]) ∧ w'.there z1 0 32 ∧ Ck B g bm z0 z1 root N w (digest (upIn p)) (stepL sk (upIn p)) (w'.setCells z1 0 (cbs (digest (upIn p)))) := by
  refine (up_kb B g bm sk _ A m cp p wr h.kb (Nat.le_trans h.hB h.out.size) hL hs hD h32 hm h1 h4).mono ?_
  rintro e w' ⟨rfl, hK, hO⟩
  have hd2 : Blk w' z1 30 (cbs dk) := hO.blk h.db (Tn.keep (.inr rfl))
  have hr2 : Blk w' z0 30 (cbs root) := hO.blk h.rb (Tn.keep (.inl (.inr rfl)))
  have hdl : (digest (upIn p)).length = 32 := dlen _
  refine ⟨rfl, ?_, ?_⟩
  · have e := hd2.there
    rw [cbs_length, h.hd] at e
    exact e
  · exact ⟨hK.store (.inr rfl) 0 _, (h.out.tn hO (fun i hi hn => .inl (.inl hn))).store h.g1 0 _, hr2.farAll (fun e => h.ne e) _, hd2.setAll (by rw [cbs_length, cbs_length, hdl, h.hd]), hdl, h.g0, h.g1, h.ne, h.hB⟩

end

set_option maxRecDepth 100000 in
set_option maxHeartbeats 4000000 in
theorem check_any (B g bm : Nat) (s : Bk) (N : Nat → Prop) (w : World) (hk : Kb B w g bm s N) (hB : B ≤ w.heap.size) (hL : s.1.length + 100 < 1000000) (hs : s.2.2 + 100 < 1000000) (root : Dg) (hr : root.length = 32) (many i : Nat) (h1 : 1 ≤ many) (h2 : many ≤ 1024) (hi : i < many)
    (Ax : Option Addr) (nx cx : Nat) (x : List UInt8) (hBx : Bs w Ax x) (hnx : x.length = nx) (hcx : nx ≤ cx) (hcm : cx ≤ maxLen) (hx : nx ≤ 65535)
    (K : Nat → Prop) (A : Option Addr) (n c : Nat) (ps : List (List Dg)) (hP : PfAt w K A ps) (hn : ps.length = n) (hnm : n ≤ maxLen) (hK : ∀ j, K j → j < w.heap.size ∧ (j < B ∨ N j)) :
    Calls Try.prog 10 #[.pointer (some ⟨g, 0, none⟩), .agg (cbs root).toArray, .int .i64 (many : Int), .int .i64 (i : Int), .slice Ax nx cx, .slice A n c] w fun e w' =>
      e = .returned (.int .i64 (if fits root many i x ps then 0 else 100)) ∧ Kb B w' g bm (noteAll s (chkIn many i x ps)) N ∧ Out (Tn B bm w N) w w' := by
  obtain ⟨R, hR⟩ : ∃ R, cbs root = R := ⟨_, rfl⟩
  have hR32 : R.length = 32 := by rw [← hR, cbs_length, hr]
  obtain ⟨D0, hD0⟩ : ∃ D, cbs (digest (leafIn x)) = D := ⟨_, rfl⟩
  have hD32 : D0.length = 32 := by rw [← hD0, cbs_length, dlen]
  have hD1 : D0.toArray.all (·.oneCell') = true := by rw [← hD0]; exact cbs_one' _
  have hbA : Below w.heap.size w (w.alloc (.cells R.toArray 30)) := (Below.refl _ _).alloc (Nat.le_refl _) _
  have hkA : Kb B (w.alloc (.cells R.toArray 30)) g bm s (fun j => N j ∨ j = w.heap.size) := hk.belowN hbA fun j hj => by
    rcases hj with hj | rfl
    · exact .inl hj
    · exact .inr ⟨Nat.le_refl _, by simp⟩
  have hrA : Blk (w.alloc (.cells R.toArray 30)) w.heap.size 30 R := Blk.new rfl rfl
  have hlf := leaf_kb B g bm s _ Ax nx cx x _ hkA (Nat.le_trans hB hbA.size) (by omega) (by omega) (hBx.after hbA) hnx hcx hcm hx
  rw [hD0] at hlf
  have Hlf := Lib.hid hlf
  have HP := Lib.hid (And.intro hP (And.intro hn (And.intro hnm hK)))
  have HD0 := Lib.hid (And.intro hD32 (And.intro hD1 (And.intro hR hD0)))
  have HA := Lib.hid (And.intro hk (And.intro hB (And.intro hL (And.intro hs (And.intro hr (And.intro hbA (And.intro hrA hi)))))))
  have hnm2 : (n : Int) ≤ 9223372036854775807 := by simp only [maxLen] at hnm; omega
  have b1 : decide ((many : Int) < 1) = false := by simp; omega
  have b2 : decide ((1024 : Int) < (many : Int)) = false := by simp; omega
  have b3 : decide ((i : Int) < 0) = false := by simp
  have b4 : decide (many ≤ i) = false := by simp; omega
  have HI := Lib.hid (And.intro h1 (And.intro h2 hi))
  rw [hR]
  obtain ⟨F, hF⟩ : ∃ F, fits root many i x ps = F := ⟨_, rfl⟩
  obtain ⟨W, hW⟩ : ∃ W, pwhole many i ps = W := ⟨_, rfl⟩
  obtain ⟨SF, hSF⟩ : ∃ S, noteAll s (chkIn many i x ps) = S := ⟨_, rfl⟩
  rw [hF, hSF]
  have HF := Lib.hid (And.intro hF (And.intro hW hSF))
  clear hk hB hL hs hr h1 h2 hi hBx hnx hcx hcm hx hP hn hnm hK hD32 hD1 hbA hkA hrA hlf hR32 hR hD0 hF hW hSF
  go_enter Try.func10, Try.ntmps10
  go_wp2_with fail
  refine Hlf.out.mono ?_
  rintro e w1 ⟨rfl, hK1, hO1⟩
  obtain ⟨hk, hB, hL, hs, hr, hbA, hrA, hi⟩ := HA.out
  obtain ⟨wS, hwS, ⟨hth, hiS⟩, hbS, hbel, hszS⟩ := dig_local w1 D0 HD0.out.1
  have hsz1 := hO1.size
  have hCk : Ck B g bm w.heap.size (w1.heap.size) root N w (digest (leafIn x)) (stepL s (leafIn x)) wS := by
    refine ⟨hK1.belowN hbel fun j hj => ?_, ((Out.ofBelow _ hbA).tn hO1 fun i _ hn => .inl hn).then_below hbel, ?_, ?_, dlen _, Nat.le_refl _, ?_, ?_, hB⟩
    · rcases hj with hj | rfl
      · exact .inl hj
      · exact .inr ⟨by omega, by omega⟩
    · have := (hO1.blk hrA (Tn.keep (.inr rfl))).below hbel (by have := hbA.size; simp at hsz1; omega)
      rw [HD0.out.2.2.1]; exact this
    · rw [HD0.out.2.2.2]; exact hbS
    · simp at hsz1; omega
    · simp at hsz1; omega
  have hst : Stays K w wS := (Stays.refl K w).out (fun j hj => ⟨(HP.out.2.2.2 j hj).1, fun e => by
      rcases (HP.out.2.2.2 j hj).2 with h | h
      · exact Tn.low h e
      · exact Tn.keep h e⟩) hCk.out
  have hwh := pwhole_any A n c ps K many i wS (HP.out.1.stays hst) HP.out.2.1 HP.out.2.2.1 HI.out.1 HI.out.2.1 HI.out.2.2
  rw [HF.out.2.1] at hwh
  have Hwh := Lib.hid hwh
  have HwS := Lib.hid hwS
  have Hs := Lib.hid (And.intro hth (And.intro hiS HD0.out.2.1))
  have HCk := Lib.hid hCk
  have hlen := stepL_len s (leafIn x)
  have HL := Lib.hid (show (stepL s (leafIn x)).1.length ≤ s.1.length + 1 ∧ (stepL s (leafIn x)).2.2 ≤ s.2.2 + 1 from by omega)
  have hnot : ∀ (x : Bool) (w : World), (Op.unary .not (.bool x)).run Try.prog w = .ok (.bool (!x)) w := fun _ _ => rfl
  clear hk hB hL hs hr hbA hrA hi hK1 hO1 hwS hth hiS hbS hbel hszS hsz1 hCk hst hwh hlen
  go_wp2_with (refine wpList_store_mid rfl 30 _ _ rfl w1.heap.size 0 D0.toArray rfl rfl Hs.out.1 Hs.out.2.1 Hs.out.2.2 ?_; simp only [Act.put]; refine cast (congrArg (fun z => wpList _ _ _ _ _ z) HwS.out.symm) ?_)
  refine Hwh.out.mono ?_
  rintro e w2 ⟨rfl, q, rfl⟩
  have HC2 := Lib.hid (HCk.out.below (below_drewN (Below.refl _ _) q))
  generalize wS.drewN q = w2 at *
  clear HCk Hwh HwS Hs
  cases W with
  | false =>
    have hf : F = false := by rw [← HF.out.1]; exact fits_not HF.out.2.1
    have hsf : SF = stepL s (leafIn x) := by rw [← HF.out.2.2]; unfold chkIn; rw [HF.out.2.1]; rfl
    subst hf
    subst hsf
    go_wp2
    go_ret
    exact ⟨rfl, HC2.out.kb.less fun j hj => .inl (.inl hj), HC2.out.out⟩
  | true =>
    have hF2 : F = (climb (digest (leafIn x)) i ps == some root) := by rw [← HF.out.1]; unfold fits; rw [HF.out.2.1]; rfl
    have hSF2 : SF = noteAll (stepL s (leafIn x)) (climbIn (digest (leafIn x)) i ps) := by rw [← HF.out.2.2]; unfold chkIn; rw [HF.out.2.1]; rfl
    have HF2 := Lib.hid (And.intro hF2 hSF2)
    have hn5 : n ≤ 5 := by
      have a1 := pwhole_len HF.out.2.1 HI.out.1
      have a2 := dep_le HI.out.2.1
      have a3 := HP.out.2.1
      omega
    clear hF2 hSF2
    go_wp2
    go_loopw [15, 48] (fun pv kv wr => ∃ (k m j : Nat) (dk : Dg) (sk : Bk), k ≤ n ∧ 1 ≤ m ∧ m ≤ 1024 ∧ j < m ∧ kv = .int .i64 (k : Int) ∧ pv = .int .i64 (j : Int) ∧ pwhole m j (ps.drop k) = true ∧ climb dk j (ps.drop k) = climb (digest (leafIn x)) i ps ∧ noteAll sk (climbIn dk j (ps.drop k)) = SF ∧ sk.1.length ≤ s.1.length + 1 + k ∧ sk.2.2 ≤ s.2.2 + 1 + k ∧ Ck B g bm w.heap.size (w1.heap.size) root N w dk sk wr) (fun _ kv _ => n - (intOf kv).toNat)
    case atStart => exact ⟨0, many, i, _, _, Nat.zero_le _, HI.out.1, HI.out.2.1, HI.out.2.2, rfl, rfl, HF.out.2.1, rfl, HF2.out.2.symm, HL.out.1, HL.out.2, HC2.out⟩
    case round =>
      obtain ⟨k, m, j, dk, sk, hk, hm1, hm2, hj, rfl, rfl, hwr, hcl, hsk, hb1, hb2, hC⟩ := hrel
      by_cases hin : k < n
      · have hkl : k < ps.length := by have := HP.out.2.1; omega
        have hst : Stays K w wr := (Stays.refl K w).out (fun j hj => ⟨(HP.out.2.2.2 j hj).1, fun e => by
          rcases (HP.out.2.2.2 j hj).2 with h | h
          · exact Tn.low h e
          · exact Tn.keep h e⟩) hC.out
        obtain ⟨b, off, rfl, hb, hc⟩ := HP.out.1.stays hst (by rintro rfl; simp at hkl)
        obtain ⟨Aj, cj, g1, g2, g3, g4, g5, g6⟩ := hc k hkl
        obtain ⟨p, hp⟩ : ∃ p, ps[k] = p := ⟨_, rfl⟩
        rw [← List.getElem_cons_drop hkl, hp] at hwr hcl hsk
        rw [hp] at g1 g4 g5
        simp only [pwhole, Bool.and_eq_true, bne_iff_ne, ne_eq, beq_iff_eq] at hwr
        obtain ⟨w1', w2', w3'⟩ := hwr
        obtain ⟨l, hl⟩ : ∃ l, p.length = l := ⟨_, rfl⟩
        rw [hl] at g1 w2'
        obtain ⟨r4, hr4⟩ : ∃ r, j % 4 = r := ⟨_, rfl⟩
        have hrl : r4 < p.length := by omega
        obtain ⟨bA, oA, rfl, hbA, hra⟩ := g5.at_ g4 hrl
        obtain ⟨j', hj'⟩ : ∃ j', j / 4 = j' := ⟨_, rfl⟩
        have hrem : (j : Int) % 4 = (r4 : Int) := by omega
        have hrem2 : (j : Int).tmod 4 = (r4 : Int) := by rw [Int.tmod_eq_emod_of_nonneg (by omega)]; exact hrem
        have hdiv : (j : Int) / 4 = (j' : Int) := by omega
        have hpd : p[j % 4]? = some p[r4] := by rw [hr4, List.getElem?_eq_getElem hrl]
        have hp32 : (p[r4]).length = 32 := g4 _ (List.getElem_mem _)
        generalize p[r4] = dd at hpd hp32 hra
        obtain ⟨eqd, heqd⟩ : ∃ q, (dd == dk) = q := ⟨_, rfl⟩
        obtain ⟨DD, hDD⟩ : ∃ D, cbs dd = D := ⟨_, rfl⟩
        obtain ⟨DK, hDK⟩ : ∃ D, cbs dk = D := ⟨_, rfl⟩
        have heq : ∀ w', (Op.equalIn 10000 30 (.agg DD.toArray) (.agg DK.toArray)).run Try.prog w' = .ok eqd w' := fun w' => by rw [← hDD, ← hDK, ← heqd]; exact eq_digests w' _ _ hp32 hC.hd
        have hDDi : (Try.prog.info? 30).map (·.size) = some DD.length := by rw [← hDD, cbs_length, hp32]; exact info32b
        have hDKi : (Try.prog.info? 30).map (·.size) = some DK.length := by rw [← hDK, cbs_length, hC.hd]; exact info32b
        have HD := Lib.hid (And.intro hDDi (And.intro hDKi (show ∀ W' : World, W'.heap = wr.heap → W'.rangeAt bA (oA + r4 * 32) DD ∧ W'.rangeAt w1.heap.size 0 DK from fun W' hh => by
          have k1 := hra
          have k2 := hC.db.range
          rw [hDD] at k1
          rw [hDK] at k2
          exact ⟨fun a v hv => (World.cell?_of_block (by rw [hh])).trans (k1 a v hv), fun a v hv => (World.cell?_of_block (by rw [hh])).trans (k2 a v hv)⟩)))
        have i0 : (0 : Int) ≤ (k : Int) := by omega
        have i1 : (k : Int) < (n : Int) := by omega
        have j0 : (0 : Int) ≤ (j : Int) := by omega
        have j1 : (j : Int) ≤ 1024 := by omega
        have r0 : (0 : Int) ≤ (r4 : Int) := by omega
        have r1 : (r4 : Int) < (l : Int) := by omega
        have Hp := Lib.hid (And.intro hpd (And.intro heqd (And.intro hcl (And.intro hsk (And.intro hb1 (And.intro hb2 (And.intro w3' (And.intro g4 (And.intro g5 hl)))))))))
        have HC := Lib.hid hC
        have Hj := Lib.hid (And.intro hm1 (And.intro hm2 (And.intro hj (And.intro w1' (And.intro w2' hj')))))
        clear hb hc g2 g3 g4 g5 g6 hst hcl hsk hb1 hb2 hC w1' w2' w3' hra hpd hp32 heqd hDD hDK hDDi hDKi hp hbA hrl hr4 hl hj hm1 hm2 hj'
        cases eqd with
        | false =>
          have hcn : climb dk j (p :: ps.drop (k + 1)) = none := by
            rw [climb, if_neg]
            rw [Hp.out.1]
            intro e
            injection e with e
            have := Hp.out.2.1
            rw [e] at this; simp at this
          have hsn : climbIn dk j (p :: ps.drop (k + 1)) = [] := by
            rw [climbIn, if_neg]
            rw [Hp.out.1]
            intro e
            injection e with e
            have := Hp.out.2.1
            rw [e] at this; simp at this
          have hf : F = false := by rw [HF2.out.1, ← Hp.out.2.2.1, hcn]; rfl
          have hsf : SF = sk := by rw [← Hp.out.2.2.2.1, hsn]; rfl
          subst hf
          subst hsf
          clear hcn hsn
          go_wp2
          have Q0 : wr.drew.rangeAt bA (oA + r4 * 32) DD ∧ wr.drew.rangeAt w1.heap.size 0 DK := HD.out.2.2 _ rfl
          refine wp_region_held_drew (S := fun W' => W'.rangeAt bA (oA + r4 * 32) DD ∧ W'.rangeAt w1.heap.size 0 DK) (by kernel_rfl) Q0 (fun _ => ?_)
          refine anyH_take (i := 0) (d := 52) (v := ?u0) rfl rfl (by kernel_rfl) (by kernel_rfl) (by kernel_rfl) (fun _ _ _ h => h) (Or.inl ⟨by rfl, ?uy0⟩) Q0 ?ur0
          case uy0 => (intro w; go_simp; try with_reducible rfl)
          simp only [List.setIfInBounds_toArray, List.set_cons_zero, List.set_cons_succ]
          refine anyH_take (i := 1) (d := 53) (v := ?u1) rfl rfl (by kernel_rfl) (by kernel_rfl) (by kernel_rfl) (fun _ _ _ h => h) (Or.inl ⟨by rfl, ?uy1⟩) Q0 ?ur1
          case uy1 => (intro w; go_simp; try with_reducible rfl)
          simp only [List.setIfInBounds_toArray, List.set_cons_zero, List.set_cons_succ]
          refine anyH_take (i := 2) (d := 54) (v := ?u2) rfl rfl (by kernel_rfl) (by kernel_rfl) (by kernel_rfl) (fun _ _ _ h => h) (Or.inl ⟨by rfl, ?uy2⟩) Q0 ?ur2
          case uy2 => (intro w; go_simp; try with_reducible rfl)
          simp only [List.setIfInBounds_toArray, List.set_cons_zero, List.set_cons_succ]
          refine anyH_take (i := 3) (d := 55) (v := ?u3) rfl rfl (by kernel_rfl) (by kernel_rfl) (by kernel_rfl) (fun _ _ _ h => h) (Or.inl ⟨by rfl, ?uy3⟩) Q0 ?ur3
          case uy3 => (intro w; go_simp; try with_reducible rfl)
          simp only [List.setIfInBounds_toArray, List.set_cons_zero, List.set_cons_succ]
          refine anyH_load (i := 4) (d := 56) rfl rfl (by kernel_rfl) (by kernel_rfl) (by kernel_rfl) (by rfl) 30 _ rfl bA (oA + r4 * 32) rfl DD _ (fun _ h => h.1) Try.underlying30 rfl HD.out.1 (fun _ _ _ h => h) Q0 ?_
          simp only [List.setIfInBounds_toArray, List.set_cons_zero, List.set_cons_succ]
          refine anyH_load (i := 5) (d := 57) rfl rfl (by kernel_rfl) (by kernel_rfl) (by kernel_rfl) (by rfl) 30 _ rfl w1.heap.size 0 rfl DK _ (fun _ h => h.2) Try.underlying30 rfl HD.out.2.1 (fun _ _ _ h => h) Q0 ?_
          simp only [List.setIfInBounds_toArray, List.set_cons_zero, List.set_cons_succ]
          refine anyH_take (i := 6) (d := 58) (v := ?u6) rfl rfl (by kernel_rfl) (by kernel_rfl) (by kernel_rfl) (fun _ _ _ h => h) (Or.inl ⟨by rfl, ?uy6⟩) Q0 ?ur6
          case uy6 => (intro w; go_simp; try with_reducible rfl)
          simp only [List.setIfInBounds_toArray, List.set_cons_zero, List.set_cons_succ]
          refine wpAnyH_done (by kernel_rfl) ?_ _
          go_wp2
          go_ret
          exact ⟨rfl, (HC.out.below (Below.refl _ _).drew).kb.less fun j hj => .inl (.inl hj), (HC.out.below (Below.refl _ _).drew).out⟩
        | true =>
          have hpe : p[j % 4]? = some dk := by rw [Hp.out.1, beq_iff_eq.1 Hp.out.2.1]
          have hcy : climb (digest (upIn p)) j' (ps.drop (k + 1)) = climb (digest (leafIn x)) i ps := by
            rw [← Hp.out.2.2.1, climb, if_pos hpe, Hj.out.2.2.2.2.2]
          have hsy : noteAll (stepL sk (upIn p)) (climbIn (digest (upIn p)) j' (ps.drop (k + 1))) = SF := by
            rw [← Hp.out.2.2.2.1, climbIn, if_pos hpe, Hj.out.2.2.2.2.2]; rfl
          obtain ⟨hpd, heqd, hcl, hsk, hb1, hb2, w3', g4, g5, hl⟩ := Hp.out
          obtain ⟨hm1, hm2, hj, w1', w2', hj'⟩ := Hj.out
          have hup := (HC.out.below (Below.refl _ _).drew).up (p := p) (by have := HA.out.2.2.1; omega) (by have := HA.out.2.2.2.1; omega) (some ⟨bA, oA, none⟩) l cj (g5.after (Below.refl _ _).drew) g4 hl (by omega) (by omega)
          obtain ⟨E, hE⟩ : ∃ E, cbs (digest (upIn p)) = E := ⟨_, rfl⟩
          have hE32 : E.length = 32 := by rw [← hE, cbs_length, dlen]
          have hE1 : E.toArray.all (·.oneCell') = true := by rw [← hE]; exact cbs_one' _
          rw [hE] at hup
          have Hup := Lib.hid hup
          have hst2 := stepL_len sk (upIn p)
          have HY := Lib.hid (And.intro hcy (And.intro hsy (And.intro (show (stepL sk (upIn p)).1.length ≤ s.1.length + 1 + (k + 1) ∧ (stepL sk (upIn p)).2.2 ≤ s.2.2 + 1 + (k + 1) from by omega) (And.intro w3' (And.intro hj' hj)))))
          have Hm := Lib.hid (And.intro hm1 hm2)
          have HE := Lib.hid (And.intro hE32 hE1)
          clear hpe hcy hsy hpd heqd hcl hsk hb1 hb2 w3' g4 g5 hl hm1 hm2 hj w1' w2' hj' hup hE hE32 hE1 hst2 Hp Hj
          go_wp2
          have Q0 : wr.drew.rangeAt bA (oA + r4 * 32) DD ∧ wr.drew.rangeAt w1.heap.size 0 DK := HD.out.2.2 _ rfl
          refine wp_region_held_drew (S := fun W' => W'.rangeAt bA (oA + r4 * 32) DD ∧ W'.rangeAt w1.heap.size 0 DK) (by kernel_rfl) Q0 (fun _ => ?_)
          refine anyH_take (i := 0) (d := 52) (v := ?v0) rfl rfl (by kernel_rfl) (by kernel_rfl) (by kernel_rfl) (fun _ _ _ h => h) (Or.inl ⟨by rfl, ?vy0⟩) Q0 ?vr0
          case vy0 => (intro w; go_simp; try with_reducible rfl)
          simp only [List.setIfInBounds_toArray, List.set_cons_zero, List.set_cons_succ]
          refine anyH_take (i := 1) (d := 53) (v := ?v1) rfl rfl (by kernel_rfl) (by kernel_rfl) (by kernel_rfl) (fun _ _ _ h => h) (Or.inl ⟨by rfl, ?vy1⟩) Q0 ?vr1
          case vy1 => (intro w; go_simp; try with_reducible rfl)
          simp only [List.setIfInBounds_toArray, List.set_cons_zero, List.set_cons_succ]
          refine anyH_take (i := 2) (d := 54) (v := ?v2) rfl rfl (by kernel_rfl) (by kernel_rfl) (by kernel_rfl) (fun _ _ _ h => h) (Or.inl ⟨by rfl, ?vy2⟩) Q0 ?vr2
          case vy2 => (intro w; go_simp; try with_reducible rfl)
          simp only [List.setIfInBounds_toArray, List.set_cons_zero, List.set_cons_succ]
          refine anyH_take (i := 3) (d := 55) (v := ?v3) rfl rfl (by kernel_rfl) (by kernel_rfl) (by kernel_rfl) (fun _ _ _ h => h) (Or.inl ⟨by rfl, ?vy3⟩) Q0 ?vr3
          case vy3 => (intro w; go_simp; try with_reducible rfl)
          simp only [List.setIfInBounds_toArray, List.set_cons_zero, List.set_cons_succ]
          refine anyH_load (i := 4) (d := 56) rfl rfl (by kernel_rfl) (by kernel_rfl) (by kernel_rfl) (by rfl) 30 _ rfl bA (oA + r4 * 32) rfl DD _ (fun _ h => h.1) Try.underlying30 rfl HD.out.1 (fun _ _ _ h => h) Q0 ?_
          simp only [List.setIfInBounds_toArray, List.set_cons_zero, List.set_cons_succ]
          refine anyH_load (i := 5) (d := 57) rfl rfl (by kernel_rfl) (by kernel_rfl) (by kernel_rfl) (by rfl) 30 _ rfl w1.heap.size 0 rfl DK _ (fun _ h => h.2) Try.underlying30 rfl HD.out.2.1 (fun _ _ _ h => h) Q0 ?_
          simp only [List.setIfInBounds_toArray, List.set_cons_zero, List.set_cons_succ]
          refine anyH_take (i := 6) (d := 58) (v := ?v6) rfl rfl (by kernel_rfl) (by kernel_rfl) (by kernel_rfl) (fun _ _ _ h => h) (Or.inl ⟨by rfl, ?vy6⟩) Q0 ?vr6
          case vy6 => (intro w; go_simp; try with_reducible rfl)
          simp only [List.setIfInBounds_toArray, List.set_cons_zero, List.set_cons_succ]
          refine wpAnyH_done (by kernel_rfl) ?_ _
          go_wp2_with fail
          refine Hup.out.mono ?_
          rintro e w3 ⟨rfl, hth, hC3⟩
          obtain ⟨w4, hw4⟩ : ∃ w4, w3.setCells w1.heap.size 0 E = w4 := ⟨_, rfl⟩
          rw [hw4] at hC3
          have hsE : E.toArray.size = 32 := by rw [List.size_toArray]; exact HE.out.1
          have H3 := Lib.hid (show w3.there w1.heap.size 0 E.toArray.size ∧ (Try.prog.info? 30).map (·.size) = some E.toArray.size from ⟨by rw [hsE]; exact hth, by rw [hsE]; exact info32b⟩)
          have Hw4 := Lib.hid hw4
          have HC3 := Lib.hid hC3
          have k0 : (0 : Int) ≤ (j' : Int) := by omega
          clear hth hC3 hw4 hsE Hup
          go_wp2_with (refine wpList_store_mid rfl 30 _ _ rfl w1.heap.size 0 E.toArray rfl rfl H3.out.1 H3.out.2 HE.out.2 ?_; simp only [Act.put]; refine cast (congrArg (fun z => wpList _ _ _ _ _ z) Hw4.out.symm) ?_)
          go_roundw
          case rel =>
            obtain ⟨a1, a2, a3, a4, a5, a6⟩ := HY.out
            have hm1 := Hm.out.1
            have hm2 := Hm.out.2
            exact ⟨k + 1, (m + 3) / 4, j', _, _, by omega, by omega, by omega, by omega, by go_num, rfl, by rw [← a5]; exact a4, a1, a2, a3.1, a3.2, HC3.out⟩
          case measure => simp [intOf]; omega
      · obtain rfl : k = n := by omega
        rw [List.drop_of_length_le (by have := HP.out.2.1; omega)] at hcl hsk
        have hf : F = decide (dk = root) := by rw [HF2.out.1, ← hcl, climb]; by_cases e : dk = root <;> simp [e]
        have hsf : SF = sk := by rw [← hsk]; rfl
        have hsm := psame_any dk root hC.hd HA.out.2.2.2.2.1 wr
        have hif : (if dk = root then (0 : Int) else 100) = if F then 0 else 100 := by rw [hf]; by_cases e : dk = root <;> simp [e]
        rw [hif] at hsm
        obtain ⟨DK, hDK⟩ : ∃ D, cbs dk = D := ⟨_, rfl⟩
        rw [hDK, HD0.out.2.2.1] at hsm
        have hDKi : (Try.prog.info? 30).map (·.size) = some DK.length := by rw [← hDK, cbs_length, hC.hd]; exact info32b
        have hRi : (Try.prog.info? 30).map (·.size) = some R.length := by rw [← HD0.out.2.2.1, cbs_length, HA.out.2.2.2.2.1]; exact info32b
        have k1 := hC.db.range
        rw [hDK] at k1
        have k2 := hC.rb.range
        rw [HD0.out.2.2.1] at k2
        have H5 := Lib.hid (And.intro k1 (And.intro k2 (And.intro hDKi hRi)))
        have Hsm := Lib.hid hsm
        have HC := Lib.hid hC
        have i1 : ¬ ((k : Int) < (k : Int)) := by omega
        subst hsf
        clear hcl hsk hf hsm hif hDK hDKi hRi k1 k2 hC hb1 hb2 hwr hj hm1 hm2
        cases F
        all_goals
          go_wp2_with (first
            | (refine load_mid_g (by rfl) 30 _ rfl w1.heap.size 0 rfl DK _ H5.out.1 Try.underlying30 rfl H5.out.2.2.1 ?_; simp only [Act.put])
            | (refine load_mid_g (by rfl) 30 _ rfl w.heap.size 0 rfl R _ H5.out.2.1 Try.underlying30 rfl H5.out.2.2.2 ?_; simp only [Act.put])
            | fail)
          refine Hsm.out.mono ?_
          rintro e w5 ⟨rfl, hb5⟩
          have HC5 := Lib.hid (HC.out.below hb5)
          clear hb5 Hsm HC H5
          go_wp2
          go_ret
          exact ⟨rfl, HC5.out.kb.less fun j hj => .inl (.inl hj), HC5.out.out⟩

end Go.Proofs.Ytkkcjkelijlmbaa

namespace Go.Proofs.Ytkkcjkelijlmbaa

set_option linter.unusedVariables false

theorem insTo_mem {ls : List (List UInt8)} {n : Nat} {y : List UInt8} : y ∈ insTo ls n ↔ (∃ x ∈ ls, leafIn x = y) ∨ ∃ k, k < n ∧ y ∈ ups (lvl (lows ls) k) := by
  induction n with
  | zero =>
    unfold insTo
    rw [List.mem_map]
    constructor
    · exact fun h => .inl h
    · rintro (h | ⟨k, hk, _⟩)
      · exact h
      · omega
  | succ n ih =>
    rw [insTo_succ, List.mem_append, ih]
    constructor
    · rintro ((h | ⟨k, hk, h⟩) | h)
      · exact .inl h
      · exact .inr ⟨k, by omega, h⟩
      · exact .inr ⟨n, by omega, h⟩
    · rintro (h | ⟨k, hk, h⟩)
      · exact .inl (.inl h)
      · by_cases e : k = n
        · subst e; exact .inr h
        · exact .inl (.inr ⟨k, by omega, h⟩)

theorem lowSet_lows (cur : List (List UInt8)) (i : Nat) (x : List UInt8) : lowSet (lows cur) i x = lows (cur.set i x) := by
  unfold lowSet lows
  rw [List.map_set]

/-- The book s has all that a tree of these leaves asks. -/
def Has (cur : List (List UInt8)) (s : Bk) : Prop := ∀ y ∈ insTo cur (dep cur.length - 1), y.length ≤ 65536 → y ∈ s.1

theorem has_new (cur : List (List UInt8)) (s : Bk) : Has cur (noteAll s (insTo cur (dep cur.length - 1))) := fun y hy hl => (noteAll_mem _ _ _).2 (.inr ⟨hy, hl⟩)

theorem Has.more {cur : List (List UInt8)} {s : Bk} (h : Has cur s) (ls : List (List UInt8)) : Has cur (noteAll s ls) := fun y hy hl => (noteAll_mem _ _ _).2 (.inl (h y hy hl))

theorem Has.set {cur : List (List UInt8)} {s : Bk} (h : Has cur s) (i : Nat) (hi : i < cur.length) (x : List UInt8) : Has (cur.set i x) (noteAll s (setIns (lows cur) i x (dep cur.length - 1))) := fun y hy hl => by
  rw [noteAll_mem]
  rw [List.length_set, insTo_mem] at hy
  rcases hy with ⟨z, hz, rfl⟩ | ⟨k, hk, hu⟩
  · rcases List.mem_or_eq_of_mem_set hz with h1 | rfl
    · exact .inl (h _ (leaf_mem _ h1) hl)
    · exact .inr ⟨by unfold setIns; simp, hl⟩
  · unfold ups at hu
    obtain ⟨j, hj, rfl⟩ := List.mem_map.1 hu
    rw [List.mem_range, lvl_len, lows_len, List.length_set] at hj
    rw [← lowSet_lows] at hl ⊢
    by_cases e : j = i / 4 ^ k / 4
    · refine .inr ⟨?_, hl⟩
      unfold setIns
      refine List.mem_cons_of_mem _ (List.mem_map.2 ⟨k, List.mem_range.2 hk, ?_⟩)
      rw [e]
    · have e2 : four (lvl (lowSet (lows cur) i x) k) j = four (lvl (lows cur) k) j := four_congr (by rw [lvl_len, lvl_len, lowSet_len]) fun q hq => lvl_set (i := i) (lowSet_len _ _ _) (fun j hj => by unfold lowSet; rw [List.getElem?_set_ne fun e => hj e.symm]) k _ (by omega)
      rw [e2] at hl ⊢
      exact .inl (h _ (ups_mem hk (ups_at (by rw [lvl_len, lows_len]; exact hj))) hl)

end Go.Proofs.Ytkkcjkelijlmbaa

namespace Go.Proofs.Ytkkcjkelijlmbaa

open Go.RowKit Go.Maps

set_option linter.unusedVariables false

end Go.Proofs.Ytkkcjkelijlmbaa

namespace Go.Proofs.Ytkkcjkelijlmbaa

open Go.RowKit Go.Maps

set_option linter.unusedVariables false

theorem leaf_long (v : Value) (A : Option Addr) (n c : Nat) (w : World) (h : 65535 < n) :
    Calls Try.prog 23 #[v, .slice A n c] w fun e w' => e = .returned (.tuple #[.agg (cbs (List.replicate 32 0)).toArray, .int .i64 5]) ∧ Below w.heap.size w w' := by
  have b0 : Below w.heap.size w (w.alloc (.cells (cbs (List.replicate 32 0)).toArray 30)) := (Below.refl _ _).alloc (Nat.le_refl _) _
  have hZ : Blk (w.alloc (.cells (cbs (List.replicate 32 0)).toArray 30)) w.heap.size 30 (cbs (List.replicate 32 0)) := Blk.new rfl rfl
  have hth : (w.alloc (.cells (cbs (List.replicate 32 0)).toArray 30)).there w.heap.size 0 (cbs (List.replicate 32 0)).toArray.size := hZ.there
  have hR := hZ.setAll (vs := cbs (List.replicate 32 0)) rfl
  have hb1 : Below w.heap.size w ((w.alloc (.cells (cbs (List.replicate 32 0)).toArray 30)).setCells w.heap.size 0 (cbs (List.replicate 32 0))) := Below.setCells (Nat.le_refl _) _ b0
  have Hb := Lib.hid (And.intro hth (And.intro hR hb1))
  clear b0 hZ hth hR hb1
  go_enter Try.func23, Try.ntmps23
  go_wp2_with (first | (go_at_call 32; refine (isLong_yes A n c _ h).mono ?_; rintro e w' ⟨rfl, rfl⟩) | (refine wpList_store_mid rfl 30 _ _ rfl w.heap.size 0 (cbs (List.replicate 32 0)).toArray rfl rfl Hb.out.1 info32b (cbs_one' _) ?_))
  refine bodyPost_ret (results_row_tmp rfl _ _ w.heap.size 30 (cbs (List.replicate 32 0)).toArray (0, 0) _ rfl Hb.out.2.1 Try.underlying30 rfl info32b) rfl ?_
  exact ⟨rfl, Hb.out.2.2⟩

set_option maxRecDepth 100000 in
set_option maxHeartbeats 800000 in
theorem tset_long {w : World} {M : Nat → Prop} {t g : Nat} {low : List Dg} (h : TreeAt w M t g low) (i : Nat) (hi : i < low.length) (A : Option Addr) (n c : Nat) (hn : 65535 < n) :
    Calls Try.prog 15 #[.pointer (some ⟨t, 0, none⟩), .int .i64 (i : Int), .slice A n c] w fun e w' => e = .returned (.int .i64 5) ∧ Below w.heap.size w w' := by
  obtain ⟨L, R, lv, cc, hT⟩ := h
  have hd1 := dep_pos low.length
  have hblk := hT.blk
  have hd6 := dep_le hT.l2
  obtain ⟨d, hd⟩ : ∃ d, dep low.length = d := ⟨_, rfl⟩
  rw [hd] at hblk hd1 hd6
  have c0 : w.cell? ⟨t, 0, none⟩ = some (.pointer (some ⟨g, 0, none⟩)) := hblk.cell rfl
  have c1 : w.cell? ⟨t, 1, none⟩ = some (.int .i64 (low.length : Int)) := hblk.cell rfl
  have Hno := Lib.hid (tnone_no t g low.length lv d cc w hblk hd1)
  obtain ⟨D, hD⟩ : ∃ D, cbs (List.replicate 32 0) = D := ⟨_, rfl⟩
  have hD32 : D.length = 32 := by rw [← hD]; rfl
  have hD1 : D.toArray.all (·.oneCell') = true := by rw [← hD]; exact cbs_one' _
  have hlf := leaf_long (.pointer (some ⟨g, 0, none⟩)) A n c w hn
  rw [hD] at hlf
  have Hlf := Lib.hid hlf
  have HD := Lib.hid (And.intro hD32 hD1)
  have Ht := Lib.hid (And.intro hblk hblk.lt)
  have hi0 : 0 ≤ (i : Int) := by omega
  have hi1 : (i : Int) < (low.length : Int) := by omega
  have hi2 : ¬ ((i : Int) ≥ (low.length : Int)) := by omega
  have hi3 : decide ((i : Int) < 0) = false := by simp
  clear hlf hT hD hD32 hD1 hblk hi hd
  go_enter Try.func15, Try.ntmps15
  go_wp2_with (go_at_call 16; refine Hno.out.mono ?_; rintro e w ⟨rfl, rfl⟩)
  refine Hlf.out.mono ?_
  rintro e w1 ⟨rfl, hb1⟩
  obtain ⟨wS, hwS, ⟨hth, hiS⟩, hbS, hbel, hszS⟩ := dig_local w1 D HD.out.1
  have hb2 : Below w.heap.size w wS := hb1.trans (hbel.mono hb1.size)
  have hts : Blk wS t 45 (tcells g low.length lv d cc) := (hb2.block t Ht.out.2).trans Ht.out.1
  have c2 : wS.cell? ⟨t, 2, none⟩ = some (.slice (some ⟨lv, 0, none⟩) d cc) := hts.cell rfl
  have HwS := Lib.hid hwS
  have Hs := Lib.hid (And.intro hth (And.intro hiS HD.out.2))
  have H2 := Lib.hid hb2
  clear hwS hth hiS hbS hbel hszS hts hb1 hb2 c0 c1
  go_wp2_with (refine wpList_store_mid rfl 30 _ _ rfl w1.heap.size 0 D.toArray rfl rfl Hs.out.1 Hs.out.2.1 Hs.out.2.2 ?_; simp only [Act.put]; refine cast (congrArg (fun z => wpList _ _ _ _ _ z) HwS.out.symm) ?_)
  clear c2 HwS
  go_loopw [1, 8, 10, 11, 12] (fun a e n _ _ wr => e = .int .i64 5 ∧ n = .int .i64 0 ∧ wr = wS) (fun _ _ n _ _ _ => 0)
  case atStart => exact ⟨rfl, rfl, rfl⟩
  case round =>
    obtain ⟨rfl, rfl, rfl⟩ := hrel
    have hp : (0 : Int) ≤ (d : Int) - 1 := by omega
    go_wp2
    go_ret
    exact ⟨rfl, H2.out⟩

/-- Two trees over one book. -/
structure St2 (w0 : World) (g bm t u many : Nat) (M1 M2 N : Nat → Prop) (bnd : Nat) (lt lu : List Dg) (s : Bk) (w : World) : Prop where
  one : TreeAt w M1 t g lt
  two : TreeAt w M2 u g lu
  kb : Kb w0.heap.size w g bm s N
  sub1 : ∀ i, M1 i → N i
  sub2 : ∀ i, M2 i → N i
  dis : ∀ i, M1 i → ¬ M2 i
  ge1 : ∀ i, M1 i → w0.heap.size ≤ i
  ge2 : ∀ i, M2 i → w0.heap.size ≤ i
  len1 : lt.length = many
  len2 : lu.length = many
  b1 : s.1.length ≤ bnd
  b2 : s.2.2 ≤ bnd
  bel : Below w0.heap.size w0 w

section

variable {w0 w w' : World} {g bm t u many bnd : Nat} {M1 M2 N : Nat → Prop} {lt lu : List Dg} {s : Bk}

theorem St2.below (h : St2 w0 g bm t u many M1 M2 N bnd lt lu s w) (hb : Below w.heap.size w w') : St2 w0 g bm t u many M1 M2 N bnd lt lu s w' :=
  ⟨h.one.below hb, h.two.below hb, h.kb.below hb, h.sub1, h.sub2, h.dis, h.ge1, h.ge2, h.len1, h.len2, h.b1, h.b2, h.bel.trans (hb.mono h.bel.size)⟩

theorem St2.drew (h : St2 w0 g bm t u many M1 M2 N bnd lt lu s w) : St2 w0 g bm t u many M1 M2 N bnd lt lu s w.drew := h.below ((Below.refl _ _).drew)

theorem St2.more {b' : Nat} (h : St2 w0 g bm t u many M1 M2 N bnd lt lu s w) (hb : bnd ≤ b') : St2 w0 g bm t u many M1 M2 N b' lt lu s w :=
  ⟨h.one, h.two, h.kb, h.sub1, h.sub2, h.dis, h.ge1, h.ge2, h.len1, h.len2, Nat.le_trans h.b1 hb, Nat.le_trans h.b2 hb, h.bel⟩

theorem St2.swap (h : St2 w0 g bm t u many M1 M2 N bnd lt lu s w) : St2 w0 g bm u t many M2 M1 N bnd lu lt s w :=
  ⟨h.two, h.one, h.kb, h.sub2, h.sub1, fun i h1 h2 => h.dis i h2 h1, h.ge2, h.ge1, h.len2, h.len1, h.b1, h.b2, h.bel⟩

theorem St2.set (h : St2 w0 g bm t u many M1 M2 N bnd lt lu s w) (hb : bnd ≤ 20000) (hd : many ≤ 1024) (i : Nat) (hi : i < many) (A : Option Addr) (nx cp : Nat) (x : List UInt8) (hBx : Bs w A x) (hnx : x.length = nx) (hcx : nx ≤ cp) (hcm : cp ≤ maxLen) (hx : nx ≤ 65535) :
    Calls Try.prog 15 #[.pointer (some ⟨t, 0, none⟩), .int .i64 (i : Int), .slice A nx cp] w fun e w' =>
      e = .returned (.int .i64 0) ∧ St2 w0 g bm t u many M1 M2 N (bnd + 8) (lowSet lt i x) lu (noteAll s (setIns lt i x (dep lt.length - 1))) w' := by
  have hb1 := h.b1
  have hb2 := h.b2
  have hl := h.len1
  refine (tset_any w0.heap.size bm s N h.one h.kb h.bel.size h.sub1 (by omega) (by omega) i (by omega) A nx cp x hBx hnx hcx hcm hx).mono ?_
  rintro e w' ⟨rfl, hT, hK, hO⟩
  have h3 := noteAll_len s (setIns lt i x (dep lt.length - 1))
  have h4 := setIns_len lt i x (dep lt.length - 1)
  have h5 : dep lt.length ≤ 6 := dep_le (by omega)
  have h6 := dep_pos lt.length
  refine ⟨rfl, hT, h.two.out hO (fun j hj hs => ?_), hK, h.sub1, h.sub2, h.dis, h.ge1, h.ge2, by rw [lowSet_len]; exact hl, h.len2, by omega, by omega, h.bel.trans (hO.above (fun j hj => by
    rcases hj with hj | hj
    · exact hj.1
    · exact h.ge1 j hj) h.bel.size)⟩
  rcases hs with hs | hs
  · exact Tn.keep (h.sub2 j hj) hs
  · exact h.dis j hs hj

/-- Whatever the leaf. -/
theorem St2.sets (h : St2 w0 g bm t u many M1 M2 N bnd lt lu s w) (hb : bnd ≤ 20000) (hd : many ≤ 1024) (i : Nat) (hi : i < many) (A : Option Addr) (nx cp : Nat) (x : List UInt8) (hBx : Bs w A x) (hnx : x.length = nx) (hcx : nx ≤ cp) (hcm : cp ≤ maxLen) :
    Calls Try.prog 15 #[.pointer (some ⟨t, 0, none⟩), .int .i64 (i : Int), .slice A nx cp] w fun e w' =>
      ∃ (c : Int) (lt' : List Dg) (s' : Bk), e = .returned (.int .i64 c) ∧ St2 w0 g bm t u many M1 M2 N (bnd + 8) lt' lu s' w' := by
  by_cases hx : nx ≤ 65535
  · refine (h.set hb hd i hi A nx cp x hBx hnx hcx hcm hx).mono ?_
    rintro e w' ⟨rfl, hS⟩
    exact ⟨0, _, _, rfl, hS⟩
  · refine (tset_long h.one i (by rw [h.len1]; exact hi) A nx cp (by omega)).mono ?_
    rintro e w' ⟨rfl, hb⟩
    exact ⟨5, _, _, rfl, (h.below hb).more (by omega)⟩

end

theorem low_done (xs : List (List UInt8)) (low : List Dg) (h : low.length = xs.length) (he : ∀ j (hj : j < xs.length), low[j]? = some (digest (leafIn xs[j]))) : low = lows xs := by
  apply List.ext_getElem?
  intro j
  by_cases hj : j < xs.length
  · rw [he j hj]
    unfold lows
    rw [List.getElem?_map, List.getElem?_eq_getElem hj]; rfl
  · rw [List.getElem?_eq_none (by omega), List.getElem?_eq_none (by rw [lows_len]; omega)]

theorem lowSet_at (low : List Dg) (i : Nat) (x : List UInt8) (hi : i < low.length) : (lowSet low i x)[i]? = some (digest (leafIn x)) := by
  unfold lowSet; rw [List.getElem?_set_self hi]

theorem lowSet_ne (low : List Dg) (i j : Nat) (x : List UInt8) (h : i ≠ j) : (lowSet low i x)[j]? = low[j]? := by
  unfold lowSet; rw [List.getElem?_set_ne h]

end Go.Proofs.Ytkkcjkelijlmbaa

namespace Go.Proofs.Ytkkcjkelijlmbaa

open Go.RowKit Go.Maps

set_option linter.unusedVariables false

set_option maxRecDepth 100000 in
set_option maxHeartbeats 800000 in
theorem leaf_none (bv : Value) (A : Option Addr) (n cp : Nat) (x : List UInt8) (w : World) (h : NoBook w bv)
    (hB : Bs w A x) (hn : x.length = n) (hc : n ≤ cp) (hcm : cp ≤ maxLen) (hs : n ≤ 65535) :
    Calls Try.prog 23 #[bv, .slice A n cp] w fun e w' => e = .returned (.tuple #[.agg (cbs (List.replicate 32 0)).toArray, .int .i64 1]) ∧ Below w.heap.size w w' := by
  obtain ⟨D, hD32, hDv, hD1⟩ : ∃ D : List Value, D.length = 32 ∧ cbs (List.replicate 32 0) = D ∧ D.toArray.all (·.oneCell') = true := ⟨cbs (List.replicate 32 0), rfl, rfl, cbs_one' _⟩
  have hb1 : Below w.heap.size w (w.alloc (.cells (cbs (List.replicate 32 0)).toArray 30)) := (Below.refl _ _).alloc (Nat.le_refl _) _
  have hZ1 : Blk (w.alloc (.cells (cbs (List.replicate 32 0)).toArray 30)) w.heap.size 30 (cbs (List.replicate 32 0)) := Blk.new rfl rfl
  have hls := two_lss (w.alloc (.cells (cbs (List.replicate 32 0)).toArray 30)) A n cp x (hB.after hb1) hn hc hcm 5 28
  rw [World.size_alloc] at hls
  have hfl : ([[0], x] : List (List UInt8)).flatten = leafIn x := by simp [leafIn]
  have hcat := concat_any (some ⟨w.heap.size + 1 + 1, 0, none⟩) 2 2 [[0], x] _ hls rfl (by omega) (by rw [hfl, leafIn_len]; omega)
  rw [hfl] at hcat
  have Hcat := Lib.hid hcat
  have H1 := Lib.hid (And.intro hb1 hZ1)
  have Ho := Lib.hid (And.intro hD32 (And.intro hDv hD1))
  have Hh := Lib.hid h
  clear hcat hls hb1 hZ1 hD32 hDv hD1 h hB hn hc hcm hfl
  have hgoal := Ho.out.2.1
  rw [hgoal]
  clear hgoal
  go_enter Try.func23, Try.ntmps23
  go_wp2_with (go_at_call 32; refine (isLong_no A n cp _ hs).mono ?_; rintro e w' ⟨rfl, rfl⟩)
  refine Hcat.out.mono ?_
  rintro e w2 ⟨v, rfl, hm2, hb2⟩
  have hbA : Below w.heap.size w w2 := ((H1.out.1.alloc (by simp) _).alloc (by simp; omega) _).trans (hb2.mono (by simp; omega))
  have hbB : Below (w.heap.size + 1) (w.alloc (.cells (cbs (List.replicate 32 0)).toArray 30)) w2 := (((Below.refl _ _).alloc (by simp) _).alloc (by simp) _).trans (hb2.mono (by simp))
  have hZ2 : Blk w2 w.heap.size 30 (cbs (List.replicate 32 0)) := H1.out.2.below hbB (by omega)
  obtain ⟨Av, cv, rfl, hcv, hcvm, hBv⟩ := Mine.form hm2
  have hof := bof_none bv Av (leafIn x).length cv w2 (Hh.out.below hbA)
  rw [Ho.out.2.1] at hof
  have Hof := Lib.hid hof
  have H2 := Lib.hid (And.intro hbA hZ2)
  have hlt2 := hZ2.lt
  clear hof hm2 hb2 hbA hbB hZ2 hcv hcvm hBv
  go_wp2_with fail
  refine Hof.out.mono ?_
  rintro e w3 ⟨rfl, hG3⟩
  have hZ3 := H2.out.2.below hG3 hlt2
  have hsD : D.toArray.size = 32 := by rw [List.size_toArray]; exact Ho.out.1
  have hth : w3.there w.heap.size 0 D.toArray.size := by
    have e := hZ3.there
    rw [cbs_length, List.length_replicate] at e
    rw [hsD]; exact e
  have hi : (Try.prog.info? 30).map (·.size) = some D.toArray.size := by rw [hsD]; exact info32b
  have hR := hZ3.setAll (vs := D) (by rw [Ho.out.1, cbs_length, List.length_replicate])
  have hGf : Below w.heap.size w (w3.setCells w.heap.size 0 D) := Below.setCells (Nat.le_refl _) D (H2.out.1.trans (hG3.mono H2.out.1.size))
  have Hth := Lib.hid hth
  have Hi := Lib.hid hi
  have H3 := Lib.hid (And.intro hR hGf)
  clear hZ3 hsD hth hi hR hGf hG3 hlt2
  go_wp2_with (refine wpList_store_mid rfl 30 _ _ rfl w.heap.size 0 D.toArray rfl rfl Hth.out Hi.out Ho.out.2.2 ?_)
  refine bodyPost_ret (results_row_tmp rfl _ _ w.heap.size 30 D.toArray (0, 0) _ rfl H3.out.1 Try.underlying30 rfl Hi.out) rfl ?_
  exact ⟨rfl, H3.out.2⟩


set_option maxRecDepth 100000 in
set_option maxHeartbeats 1600000 in
theorem up_none (bv : Value) (A : Option Addr) (m cp : Nat) (ds : List Dg) (w : World) (h : NoBook w bv)
    (hD : Ds w A ds) (h32 : All32 ds) (hm : ds.length = m) (h1 : 1 ≤ m) (h4 : m ≤ 4) :
    Calls Try.prog 25 #[bv, .slice A m cp] w fun e w' => e = .returned (.tuple #[.agg (cbs (List.replicate 32 0)).toArray, .int .i64 1]) ∧ Below w.heap.size w w' := by
  obtain ⟨D, hD32, hDv, hD1⟩ : ∃ D : List Value, D.length = 32 ∧ cbs (List.replicate 32 0) = D ∧ D.toArray.all (·.oneCell') = true := ⟨cbs (List.replicate 32 0), rfl, rfl, cbs_one' _⟩
  have hb1 : Below w.heap.size w (w.alloc (.cells (cbs (List.replicate 32 0)).toArray 30)) := (Below.refl _ _).alloc (Nat.le_refl _) _
  have hZ1 : Blk (w.alloc (.cells (cbs (List.replicate 32 0)).toArray 30)) w.heap.size 30 (cbs (List.replicate 32 0)) := Blk.new rfl rfl
  have hM1 : Mine ((w.alloc (.cells (cbs (List.replicate 32 0)).toArray 30)).alloc (.cells #[.int .u8 1] 5)) (w.heap.size + 1) 5 (.slice (some ⟨w.heap.size + 1, 0, none⟩) 1 1) (1 :: (ds.take 0).flatten) := Mine.one (x := 1) (by simp) (Nat.le_refl _) rfl
  have hb2 := hb1.alloc (by simp) (.cells #[.int .u8 1] 5)
  have hb3 : Below (w.heap.size + 1) (w.alloc (.cells (cbs (List.replicate 32 0)).toArray 30)) ((w.alloc (.cells (cbs (List.replicate 32 0)).toArray 30)).alloc (.cells #[.int .u8 1] 5)) := (Below.refl _ _).alloc (by simp) _
  have H1 := Lib.hid (And.intro hb1 (And.intro hZ1 (And.intro hM1 (And.intro hb2 hb3))))
  have Ho := Lib.hid (And.intro hD32 (And.intro hDv hD1))
  have Hh := Lib.hid (And.intro h (And.intro trivial (And.intro trivial (And.intro hm (And.intro hD h32)))))
  have hm1 : ¬ ((m : Int) < 1) := by omega
  have hm4 : ¬ ((4 : Int) < m) := by omega
  clear hb1 hZ1 hM1 hb2 hb3 hD32 hDv hD1 h hm hD h32
  rw [Ho.out.2.1]
  go_enter Try.func25, Try.ntmps25
  go_wp2
  go_loopw [6, 8, 21] (fun v _ i wr => ∃ k : Nat, k ≤ m ∧ i = .int .i64 k ∧ Mine wr (w.heap.size + 1) 5 v (1 :: (ds.take k).flatten) ∧ Below w.heap.size w wr ∧ Blk wr w.heap.size 30 (cbs (List.replicate 32 0))) (fun _ _ i _ => m - (intOf i).toNat)
  case atStart => exact ⟨0, Nat.zero_le _, rfl, H1.out.2.2.1, H1.out.2.2.2.1, H1.out.2.1.below H1.out.2.2.2.2 (by omega)⟩
  case round =>
    obtain ⟨k, hk, rfl, hM, hB, hZ⟩ := hrel
    by_cases hlt : k < m
    · obtain ⟨b, off, rfl, hb, hr⟩ := (Hh.out.2.2.2.2.1.after hB).at_ Hh.out.2.2.2.2.2 (i := k) (by rw [Hh.out.2.2.2.1]; exact hlt)
      have hx32 : (ds[k]'(by rw [Hh.out.2.2.2.1]; exact hlt)).length = 32 := Hh.out.2.2.2.2.2 _ (List.getElem_mem _)
      have hst := flat_step9 ds k (by rw [Hh.out.2.2.2.1]; exact hlt)
      have hlen : (1 :: (ds.take k).flatten).length + 32 ≤ 140737488355328 := by
        have := flat_len (l := ds.take k) (fun x hx => Hh.out.2.2.2.2.2 x (List.mem_of_mem_take hx))
        rw [List.length_cons, this, List.length_take]; omega
      generalize (ds[k]'(by rw [Hh.out.2.2.2.1]; exact hlt)) = x at *
      obtain ⟨X, hX⟩ : ∃ X, cbs x = X := ⟨_, rfl⟩
      have hX32 : X.length = 32 := by rw [← hX, cbs_length, hx32]
      have hX1 : X.toArray.all (·.oneCell') = true := by rw [← hX]; exact cbs_one' _
      rw [hX] at hr
      have hXi : (Try.prog.info? 30).map (·.size) = some X.length := by rw [hX32]; exact info32b
      obtain ⟨wS, hwS, ⟨hth, hi⟩, hbS, hbel, hszS⟩ := dig_local wr X hX32
      have hBx : Bs wS (some ⟨wr.heap.size, 0, none⟩) x := Bs.ofBlk (by rw [hX]; exact hbS)
      have hMS : Mine wS (w.heap.size + 1) 5 _ (1 :: (ds.take k).flatten) := hM.after hbel
      have hBS : Below w.heap.size w wS := hB.trans (hbel.mono hB.size)
      have hZS : Blk wS w.heap.size 30 (cbs (List.replicate 32 0)) := hZ.below hbel hZ.lt
      have hgeS : w.heap.size + 1 ≤ wS.heap.size := by have := hZS.lt; omega
      have HwS := Lib.hid hwS
      have Hst := Lib.hid hst
      have Hl := Lib.hid (And.intro hx32 hlen)
      have Hr := Lib.hid (And.intro hr hXi)
      have Hs := Lib.hid (And.intro hth (And.intro hi hX1))
      have Hm := Lib.hid (And.intro hMS (And.intro hBx (And.intro hBS (And.intro hZS hgeS))))
      clear hwS hst hx32 hlen hr hXi hth hi hX1 hMS hBx hBS hZS hbS hbel hM hZ hX32 hX hszS hgeS
      go_wp2_with (first
        | (refine wpList_load_mid rfl 30 _ rfl b (off + k * 32) rfl X _ Hr.out.1 Try.underlying30 rfl Hr.out.2 ?_; simp only [Act.put])
        | (refine wpList_store_mid rfl 30 _ _ rfl wr.heap.size 0 X.toArray rfl rfl Hs.out.1 Hs.out.2.1 Hs.out.2.2 ?_; simp only [Act.put]; refine cast (congrArg (fun z => wpList _ _ _ _ _ z) HwS.out.symm) ?_)
        | (at_builtin; refine wp_appendB rfl _ _ rfl (w.heap.size + 1) _ _ rfl Hm.out.1 (some ⟨wr.heap.size, 0, none⟩) 32 32 x rfl Hm.out.2.1 Hl.out.1 Hl.out.2 Hm.out.2.2.2.2 ?_; intro v2 w2 hm2 hg2 ho2))
      go_roundw
      case rel =>
        have hw2 : Below w.heap.size w w2 := Hm.out.2.2.1.grown hg2 Hm.out.2.2.1.size fun j hj => by have := (World.ownsRow.lt Hm.out.1 j hj).1; omega
        have hz2 : Blk w2 w.heap.size 30 (cbs (List.replicate 32 0)) := (hg2.block _ Hm.out.2.2.2.1.lt fun e => by have := (World.ownsRow.lt Hm.out.1 _ e.symm).1; omega).trans Hm.out.2.2.2.1
        exact ⟨k + 1, by omega, by go_num, by rw [Hst.out]; exact hm2, hw2, hz2⟩
      case measure => simp [intOf]; omega
    · obtain rfl : k = m := by omega
      have Hst : Hid (1 :: (ds.take k).flatten = upIn ds) := by
        show _ = _; rw [List.take_of_length_le (by rw [Hh.out.2.2.2.1]; omega)]; rfl
      rw [Hst.out] at hM
      obtain ⟨Av, cv, rfl, hcv, hcvm, hBv⟩ := Mine.form hM
      have hof := bof_none bv Av (upIn ds).length cv wr (Hh.out.1.below hB)
      rw [Ho.out.2.1] at hof
      have Hof := Lib.hid hof
      have H2 := Lib.hid (And.intro hB hZ)
      have hlt2 := hZ.lt
      clear hof hM hB hZ hcv hcvm hBv
      go_wp2_with fail
      refine Hof.out.mono ?_
      rintro e w3 ⟨rfl, hG3⟩
      have hZ3 := H2.out.2.below hG3 hlt2
      have hsD : D.toArray.size = 32 := by rw [List.size_toArray]; exact Ho.out.1
      have hth : w3.there w.heap.size 0 D.toArray.size := by
        have e := hZ3.there
        rw [cbs_length, List.length_replicate] at e
        rw [hsD]; exact e
      have hi : (Try.prog.info? 30).map (·.size) = some D.toArray.size := by rw [hsD]; exact info32b
      have hR := hZ3.setAll (vs := D) (by rw [Ho.out.1, cbs_length, List.length_replicate])
      have hGf : Below w.heap.size w (w3.setCells w.heap.size 0 D) := Below.setCells (Nat.le_refl _) D (H2.out.1.trans (hG3.mono H2.out.1.size))
      have Hth := Lib.hid hth
      have Hi := Lib.hid hi
      have H3 := Lib.hid (And.intro hR hGf)
      clear hZ3 hsD hth hi hR hGf hG3 hlt2
      go_wp2_with (refine wpList_store_mid rfl 30 _ _ rfl w.heap.size 0 D.toArray rfl rfl Hth.out Hi.out Ho.out.2.2 ?_)
      refine bodyPost_ret (results_row_tmp rfl _ _ w.heap.size 30 D.toArray (0, 0) _ rfl H3.out.1 Try.underlying30 rfl Hi.out) rfl ?_
      exact ⟨rfl, H3.out.2⟩


def NoTree (w : World) (v : Value) : Prop := v = .pointer none ∨ ∃ t, v = .pointer (some ⟨t, 0, none⟩) ∧ t < w.heap.size ∧ w.cell? ⟨t, 2, none⟩ = some (.slice none 0 0)

theorem NoTree.below {w w' : World} {v : Value} (h : NoTree w v) (hb : Below w.heap.size w w') : NoTree w' v := by
  rcases h with rfl | ⟨g, rfl, hlt, h⟩
  · exact .inl rfl
  · exact .inr ⟨g, rfl, Nat.lt_of_lt_of_le hlt hb.size, (hb.cell hlt).trans h⟩

set_option maxRecDepth 100000 in
theorem tnone_yes (v : Value) (w : World) (h : NoTree w v) : Calls Try.prog 16 #[v] w fun e w' => e = .returned (.bool true) ∧ w' = w := by
  rcases h with rfl | ⟨g, rfl, _hlt, h⟩
  · go_enter Try.func16, Try.ntmps16
    go_wp2
    go_ret
    exact ⟨rfl, rfl⟩
  · go_enter Try.func16, Try.ntmps16
    go_wp2
    go_ret
    exact ⟨rfl, rfl⟩

theorem tdepth_none (v : Value) (w : World) (h : NoTree w v) : Calls Try.prog 18 #[v] w fun e w' => e = .returned (.int .i64 0) ∧ w' = w := by
  have Hno := Lib.hid (tnone_yes v w h)
  clear h
  go_enter Try.func18, Try.ntmps18
  go_wp2_with (go_at_call 16; refine Hno.out.mono ?_; rintro e w' ⟨rfl, rfl⟩)
  go_ret
  exact ⟨rfl, rfl⟩

theorem tleaves_none (v : Value) (w : World) (h : NoTree w v) : Calls Try.prog 19 #[v] w fun e w' => e = .returned (.int .i64 0) ∧ w' = w := by
  have Hno := Lib.hid (tnone_yes v w h)
  clear h
  go_enter Try.func19, Try.ntmps19
  go_wp2_with (go_at_call 16; refine Hno.out.mono ?_; rintro e w' ⟨rfl, rfl⟩)
  go_ret
  exact ⟨rfl, rfl⟩

theorem tlevel_none (v : Value) (i : Int) (w : World) (h : NoTree w v) : Calls Try.prog 20 #[v, .int .i64 i] w fun e w' => e = .returned (.tuple #[.slice none 0 0, .int .i64 1]) ∧ w' = w := by
  have Hno := Lib.hid (tnone_yes v w h)
  clear h
  go_enter Try.func20, Try.ntmps20
  go_wp2_with (go_at_call 16; refine Hno.out.mono ?_; rintro e w' ⟨rfl, rfl⟩)
  go_ret2
  exact ⟨rfl, rfl⟩

theorem tset_none (v : Value) (i : Int) (w : World) (h : NoTree w v) : Calls Try.prog 15 #[v, .int .i64 i, .slice none 0 0] w fun e w' => e = .returned (.int .i64 1) ∧ w' = w := by
  have Hno := Lib.hid (tnone_yes v w h)
  clear h
  go_enter Try.func15, Try.ntmps15
  go_wp2_with (go_at_call 16; refine Hno.out.mono ?_; rintro e w' ⟨rfl, rfl⟩)
  go_ret
  exact ⟨rfl, rfl⟩

set_option maxRecDepth 100000 in
theorem troot_none (v : Value) (w : World) (h : NoTree w v) : Calls Try.prog 7 #[v] w fun e w' => e = .returned (.tuple #[.agg (cbs (List.replicate 32 0)).toArray, .int .i64 1]) ∧ Below w.heap.size w w' := by
  have b0 : Below w.heap.size w (w.alloc (.cells (cbs (List.replicate 32 0)).toArray 30)) := (Below.refl _ _).alloc (Nat.le_refl _) _
  have Hno := Lib.hid (tnone_yes v _ (h.below b0))
  have hZ : Blk (w.alloc (.cells (cbs (List.replicate 32 0)).toArray 30)) w.heap.size 30 (cbs (List.replicate 32 0)) := Blk.new rfl rfl
  have hth : (w.alloc (.cells (cbs (List.replicate 32 0)).toArray 30)).there w.heap.size 0 (cbs (List.replicate 32 0)).toArray.size := hZ.there
  have hR := hZ.setAll (vs := cbs (List.replicate 32 0)) rfl
  have hb1 : Below w.heap.size w ((w.alloc (.cells (cbs (List.replicate 32 0)).toArray 30)).setCells w.heap.size 0 (cbs (List.replicate 32 0))) := Below.setCells (Nat.le_refl _) _ b0
  have Hb := Lib.hid (And.intro hth (And.intro hR hb1))
  clear h b0 hZ hth hR hb1
  go_enter Try.func7, Try.ntmps7
  go_wp2_with (first | (go_at_call 16; refine Hno.out.mono ?_; rintro e w' ⟨rfl, rfl⟩) | (refine wpList_store_mid rfl 30 _ _ rfl w.heap.size 0 (cbs (List.replicate 32 0)).toArray rfl rfl Hb.out.1 info32b (cbs_one' _) ?_))
  refine bodyPost_ret (results_row_tmp rfl _ _ w.heap.size 30 (cbs (List.replicate 32 0)).toArray (0, 0) _ rfl Hb.out.2.1 Try.underlying30 rfl info32b) rfl ?_
  exact ⟨rfl, Hb.out.2.2⟩

theorem tnew_bad9 (v : Value) (n : Int) (w : World) (h : n < 1 ∨ 1024 < n) : Calls Try.prog 14 #[v, .int .i64 n] w fun e w' => e = .returned (.tuple #[.pointer none, .int .i64 2]) ∧ w' = w := by
  have hnot : ∀ (x : Bool) (w : World), (Op.unary .not (.bool x)).run Try.prog w = .ok (.bool (!x)) w := fun _ _ => rfl
  go_enter Try.func14, Try.ntmps14
  go_wp2_with (go_at_call 27; refine (isCount_no _ _ h).mono ?_; rintro e w ⟨rfl, rfl⟩)
  go_ret2
  exact ⟨rfl, rfl⟩

end Go.Proofs.Ytkkcjkelijlmbaa
