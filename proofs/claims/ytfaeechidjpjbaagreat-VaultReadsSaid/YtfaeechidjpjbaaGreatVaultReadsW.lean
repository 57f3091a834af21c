/-
  For all lists l (60 wishes at most are done, between them the epoch turns if it is sealed): a read answers what the last write ahead of it wrote into that block, noughts if there was none; VaultReads returns true; no condition.
-/
import Derived.Test.YtfaeechidjpjbaaGreatZ23
import Derived.Test.YtfaeechidjpjbaaGreatZ01
import Derived.Test.YtfaeechidjpjbaaGreatZ10
import Derived.Deep.RegionHeld3
namespace Go.Proofs.YtfaeechidjpjbaaGreat.vaultReads
open Go.ChangeShapes Go.WideShapes Go.ChangeAt Go.RowKit Go.Maps
set_option linter.unusedVariables false

def bsL (B : Nat → UInt8) : List UInt8 := (List.range 8).map B
theorem bsL_len (B : Nat → UInt8) : (cbs (bsL B)).length = 8 := by rw [cbs_length]; simp [bsL]
theorem bsL_get (B : Nat → UInt8) {k : Nat} (h : k < 8) : (cbs (bsL B))[k]? = some (.int .u8 ((B k).toNat : Int)) := by
  unfold cbs bsL
  simp [h]
  rfl
theorem bsL_set (B : Nat → UInt8) (k : Nat) (b : UInt8) (h : k < 8) : (cbs (bsL B)).set k (.int .u8 (b.toNat : Int)) = cbs (bsL (upd B k b)) := by
  refine List.ext_getElem? fun j => ?_
  rcases Nat.lt_or_ge j 8 with hj | hj
  · rw [bsL_get _ hj]
    by_cases e : k = j
    · subst e
      rw [List.getElem?_set_self (by rw [bsL_len]; exact hj)]
      simp [upd]
    · rw [List.getElem?_set_ne e, bsL_get _ hj]
      simp [upd, show ¬ j = k from fun h => e h.symm]
  · rw [List.getElem?_eq_none (by rw [List.length_set, bsL_len]; exact hj), List.getElem?_eq_none (by rw [bsL_len]; exact hj)]
theorem cell_lt {w : World} {b o : Nat} {v : Value} (h : w.cell? ⟨b, o, none⟩ = some v) : b < w.heap.size := by
  rcases Nat.lt_or_ge b w.heap.size with hl | hl
  · exact hl
  · exfalso
    simp [World.cell?, Array.getElem?_eq_none hl] at h
theorem bs_on5 {w w' : World} {x : Wl} {D : Option Addr} {nd cd : Nat} {N : Option Addr} {nn cn : Nat} (h : ArgW w x D nd cd N nn cn) (hb : Below w.heap.size w w') : Bs w' D x.da := (h.after hb).1.2.2.2.1
/-- The state between two rounds. -/
structure RdI (w0 : World) (g bb : Nat) (bk : Value) (k : Nat) (v : Va) (B : Nat → UInt8) (w : World) : Prop where
  vc : Vc w0 g bk (fun i => i = bb) v w
  rd : RdS v (k : Int) B
  blk : Blk w bb 43 (cbs (bsL B))
  lb : w0.heap.size ≤ bb
section
variable {w0 w w' : World} {g bb k : Nat} {bk : Value} {v : Va} {B : Nat → UInt8}
theorem RdI.below (h : RdI w0 g bb bk k v B w) (hb : Below w.heap.size w w') : RdI w0 g bb bk k v B w' := ⟨h.vc.below hb, h.rd, h.blk.below hb h.blk.lt, h.lb⟩
theorem RdI.mono {k' : Nat} (h : RdI w0 g bb bk k v B w) (hk : k ≤ k') : RdI w0 g bb bk k' v B w := ⟨h.vc, h.rd.mono (by omega), h.blk, h.lb⟩
theorem RdI.turn (h : RdI w0 g bb bk k v B w) : Calls Tryz.prog 25 #[.pointer (some ⟨g, 0, none⟩)] w fun e w' => e = .returned (.int .i64 (turnE v)) ∧ RdI w0 g bb bk k (turnS v) B w' :=
  h.vc.turn.mono fun e w' ⟨he, h1, h2, h3⟩ => ⟨he, h1, h.rd.turn, h2.blk h.blk (h3 bb rfl), h.lb⟩
theorem RdI.put (hv : Vc w0 g bk (fun i => i = bb) v w) (hB : Blk w bb 43 (cbs (bsL B))) (lb : w0.heap.size ≤ bb) {j : Nat} (hj : j < 8) {b : UInt8} (hr : RdS v (k : Int) (upd B j b)) : RdI w0 g bb bk k v (upd B j b) (w.setCell ⟨bb, j, none⟩ (.int .u8 (b.toNat : Int))) := by
  refine ⟨hv.put rfl lb _, hr, ?_, lb⟩
  have := hB.set_ j (.int .u8 (b.toNat : Int))
  rwa [bsL_set B j b hj] at this
theorem da_at {w : World} {D : Option Addr} {l : List UInt8} {b : UInt8} (h : Bs w D l) (hl : l = List.replicate 16 b) : ∃ db off, D = some ⟨db, off, none⟩ ∧ w.cell? ⟨db, off, none⟩ = some (.int .u8 (b.toNat : Int)) := by
  subst hl
  obtain ⟨db, off, e, hd, hc⟩ := h.2 (by simp)
  exact ⟨db, off, e, hc 0 _ rfl⟩
end

set_option maxRecDepth 100000 in
set_option maxHeartbeats 6400000 in
theorem walk (Al : Option Addr) (nl cl : Nat) (l : List Int) (w : World) (hl : ArgI w Al nl cl l) :
    Calls Tryz.prog 4 #[.slice Al nl cl] w fun e w' => e = .returned (.bool true) ∧ Below w.heap.size w w' := by
  have hnot : ∀ (x : Bool) (w : World), (Op.unary .not (.bool x)).run Tryz.prog w = .ok (.bool (!x)) w := fun _ _ => rfl
  have Hl := Lib.hid hl
  have hln := hl.1
  have Hln := Lib.hid hln
  have Hmx := Lib.hid hl.2.1
  have hsx : ∀ (b : UInt8) (W : World), Calls Tryz.prog 23 #[.int .u8 (b.toNat : Int)] W (RetB W (List.replicate 16 b)) := sixteen_any
  have Hsx := Lib.hid hsx
  clear hl hln hsx
  go_enter Tryz.func4, Tryz.ntmps4
  go_wp2_with fail
  refine (works_any _).mono ?_
  rintro e w1 ⟨rfl, hb1⟩
  go_wp2_with fail
  refine (bnew_any _).mono ?_
  rintro e w2 ⟨S, gk, bm, rfl, hS, hb, hb2⟩
  have hk2 := kb_new hS hb
  have Hn := Lib.hid (vnew_any hk2 hb2.size (by decide) (gr := 1) (by decide))
  have H2 := Lib.hid (And.intro hb1 hb2)
  clear hS hb hk2 hb1 hb2
  go_wp2_with fail
  refine Hn.out.mono ?_
  rintro e w3 ⟨rfl, ⟨cs, hV⟩, _, hO⟩
  have hb3 : Below w.heap.size w w3 := H2.out.1.trans ((H2.out.2.trans (hO.above (fun i hi => hi.1) H2.out.2.size)).mono H2.out.1.size)
  have hgz : w.heap.size ≤ w2.heap.size := Nat.le_trans H2.out.1.size H2.out.2.size
  obtain ⟨w4, hw4⟩ : ∃ w4, w3.alloc (.cells #[.int .u8 0, .int .u8 0, .int .u8 0, .int .u8 0, .int .u8 0, .int .u8 0, .int .u8 0, .int .u8 0] 43) = w4 := ⟨_, rfl⟩
  have hb4 : Below w3.heap.size w3 w4 := by rw [← hw4]; exact (Below.refl _ _).alloc (Nat.le_refl _) _
  have hI0 : RdI w w2.heap.size w3.heap.size (.pointer (some ⟨gk, 0, none⟩)) 0 (newV 1) (fun _ => 0) w4 := by
    have hlt := hV.lt _ rfl
    refine ⟨⟨⟨_, cs, hV.below hb4, fun i hi => by subst hi; exact ⟨hgz, by omega⟩⟩, hb3.trans (hb4.mono hb3.size), fun i hi => by subst hi; rw [← hw4]; simp⟩, RdS.new, ?_, hb3.size⟩
    rw [← hw4]; exact Blk.new rfl rfl
  have HI0 := Lib.hid hI0
  have Hw4 := Lib.hid hw4
  clear hV hO hb3 hgz hb4 hI0 hw4 Hn H2
  go_upto_region 7 with fail
  rw [Hw4.out]
  generalize w2.heap.size = gv at *
  generalize w3.heap.size = bb at *
  clear Hw4
  go_wp2
  go_loopw [6] (fun iv wr => ∃ k : Nat, k ≤ 60 ∧ k ≤ nl ∧ iv = .int .i64 (k : Int) ∧ Hid (∃ v B, RdI w gv bb (.pointer (some ⟨gk, 0, none⟩)) k v B wr)) (fun iv _ => 60 - (intOf iv).toNat)
  case atStart => exact ⟨0, by omega, by omega, rfl, Lib.hid ⟨_, _, HI0.out⟩⟩
  case round =>
    obtain ⟨k, hk, hkn, rfl, hE⟩ := hrel
    obtain ⟨v, B, hI⟩ := hE.out
    clear hE
    have HI := Lib.hid hI
    have p0 : (0 : Int) ≤ (k : Int) := by omega
    by_cases hin : k < nl
    · by_cases h60 : k < 60
      · have p1 : (k : Int) < (nl : Int) := by omega
        have p2 : (k : Int) < 60 := by omega
        have hkl : k < l.length := by rw [Hln.out]; exact hin
        obtain ⟨sb, so, rfl, hlt, hc⟩ := Hl.out.2.2.2.1.at_ hkl
        have hbw := HI.out.vc.bel
        have hwf := Hl.out.2.2.2.2 _ (List.getElem_mem hkl)
        have Hc0 : Hid (∀ W, Below w.heap.size w W → W.cell? ⟨sb, so + k, none⟩ = some (.int .i64 l[k])) := Lib.hid fun W hb => (hb.cell (p := ⟨sb, so + k, none⟩) hlt).trans (hc k hkl)
        obtain ⟨n, hn⟩ : ∃ n, l[k] = n := ⟨_, rfl⟩
        rw [hn] at hwf Hc0
        have hnb := bounds_i64 hwf
        have Hnb := Lib.hid hnb
        have c0 := Hc0.out _ hbw
        have Hwi := Lib.hid (HI.out.vc.wish n ((1 : Int) + k) hnb (by omega))
        have hw1 : IntKind.i64.wrap ((1 : Int) + k) = 1 + k := by rw [IntWalk.i64_in _ (by omega)]
        clear hlt hc hn hwf hnb hbw hI
        go_wp2_with fail
        refine Hwi.out.mono ?_
        rintro e w5 ⟨x, D, nd, cd, N, nn, cn, rfl, hA, ⟨hx, _⟩, hDn, _, hb5⟩
        obtain ⟨j, hj⟩ : ∃ j : Nat, x.bl = (j : Int) := ⟨x.bl.toNat, by have := hx.may.nums.2.2.2.2.2.1.1; omega⟩
        have hbA : Below w5.heap.size w5 (w5.alloc (.cells #[.int .i64 x.cl, .int .i64 x.sp, .int .i64 x.gr, .int .i64 x.ep, .int .i64 x.kd, .int .i64 x.bl, .slice D nd cd, .int .i64 x.od, .int .i64 x.nw, .slice N nn cn] 45)) := (Below.refl _ _).alloc (Nat.le_refl _) _
        have I6 := HI.out.below (hb5.trans (hbA.mono hb5.size))
        have Hnd := Lib.hid hA.1.1
        have hd0 := I6.vc.do_ (hA.after hbA) hx.may (hx.gr.trans I6.rd.gr.symm)
        have BX : Blk (w5.alloc (.cells #[.int .i64 x.cl, .int .i64 x.sp, .int .i64 x.gr, .int .i64 x.ep, .int .i64 x.kd, .int .i64 x.bl, .slice D nd cd, .int .i64 x.od, .int .i64 x.nw, .slice N nn cn] 45)) w5.heap.size 45 [.int .i64 x.cl, .int .i64 x.sp, .int .i64 x.gr, .int .i64 x.ep, .int .i64 x.kd, .int .i64 x.bl, .slice D nd cd, .int .i64 x.od, .int .i64 x.nw, .slice N nn cn] := Blk.new rfl rfl
        have hgv5 : w5.heap.size ≠ gv ∧ w5.heap.size ≠ bb := by have h1 := I6.vc.kl bb rfl; obtain ⟨U, cs, h2, _⟩ := (HI.out.below hb5).vc.va; have h3 := h2.lt _ h2.u; have h4 := (HI.out.below hb5).blk.lt; omega
        have hDg : ∀ b, inA D b → b ≠ gv := fun b hb e => by have h1 := hDn b hb; obtain ⟨U, cs, h2, _⟩ := HI.out.vc.va; have h3 := h2.lt _ h2.u; omega
        have hst := HI.out.rd.step hx (by omega)
        have hjb : bN x = j := by unfold bN; omega
        rw [hjb] at hst
        obtain ⟨v', hv'⟩ : ∃ v', (doS v x).1 = v' := ⟨_, rfl⟩
        obtain ⟨an, han⟩ : ∃ an, (doS v x).2 = an := ⟨_, rfl⟩
        rw [hv', han] at hst hd0
        have Hd := Lib.hid hd0
        have hm8 := (may_blk hx.may)
        have Hx := Lib.hid (And.intro hx (And.intro (bs_on5 hA hbA) (And.intro hj (And.intro BX (And.intro I6 (And.intro hgv5 (And.intro hDg hst)))))))
        clear hj hb5 hbA hx hA BX I6 hgv5 Hwi c0 hDn hDg hst hm8 hjb hd0 hv' han
        go_wp2_with fail
        refine Hd.out.mono ?_
        rintro e w7 ⟨u, rfl, A, m, c, hm, rfl, hB, hAw, hAg, hvc, ho, hKg⟩
        have hst := Hx.out.2.2.2.2.2.2.2
        obtain ⟨w8, hw8⟩ : ∃ w8, w7.alloc (.cells #[.int .i64 an.er, .slice A m c, .int .i64 an.ep, .slice none 0 0] 48) = w8 := ⟨_, rfl⟩
        have hb8 : Below w7.heap.size w7 w8 := by rw [← hw8]; exact (Below.refl _ _).alloc (Nat.le_refl _) _
        have BX8 := (ho.blk Hx.out.2.2.2.1 Hx.out.2.2.2.2.2.1.1).below hb8 (ho.blk Hx.out.2.2.2.1 Hx.out.2.2.2.2.2.1.1).lt
        have BA8 : Blk w8 w7.heap.size 48 [.int .i64 an.er, .slice A m c, .int .i64 an.ep, .slice none 0 0] := by rw [← hw8]; exact Blk.new rfl rfl
        have BB8 := (ho.blk Hx.out.2.2.2.2.1.blk (hKg bb rfl)).below hb8 (ho.blk Hx.out.2.2.2.2.1.blk (hKg bb rfl)).lt
        have V8 := hvc.below hb8
        have D8 := (bs_out Hx.out.2.1 ho Hx.out.2.2.2.2.2.2.1).on hb8
        have hBn := hB.on hb8
        skip
        have x4 := BX8.cell (i := 4) rfl
        have x5 := BX8.cell (i := 5) rfl
        have x6 := BX8.cell (i := 6) rfl
        rw [Hx.out.2.2.1] at x5
        have y0 := BA8.cell (i := 0) rfl
        have y1 := BA8.cell (i := 1) rfl
        have hb0 := HI.out.lb
        have hkd := Hx.out.1.kd
        have hmay := may_blk Hx.out.1.may
        have H8 := Lib.hid (And.intro V8 (And.intro BB8 (And.intro D8 (And.intro hBn (And.intro hm (And.intro hst (And.intro hkd (And.intro hmay hb0))))))))
        have Hw8 := Lib.hid hw8
        clear hm hw8 hb8 BX8 BA8 BB8 V8 D8 hBn hb0 hst ho hKg hvc hB hAw hAg Hd hkd hmay
        go_upto_region 12 with fail
        rw [Hw8.out]
        generalize w7.heap.size = bA at *
        generalize w5.heap.size = bX at *
        clear Hw8
        by_cases e1 : x.kd = 1
        · have k1 : (x.kd == 1) = true := by simpa using e1
          have k2 : (x.kd == 2) = false := by simp [e1]
          by_cases e0 : an.er = 0
          · have z0 : (an.er == 0) = true := by simpa using e0
            have hr8 := H8.out.2.2.2.2.2.1.2.1 (.inl (by omega))
            have HR : Hid (∀ W, Below w8.heap.size w8 W → RdI w gv bb (.pointer (some ⟨gk, 0, none⟩)) (k + 1) v' B W) := Lib.hid fun W hb => RdI.below (w := w8) (hb := hb) ⟨H8.out.1, (by rw [show ((k + 1 : Nat) : Int) = 1 + k by omega]; exact hr8), H8.out.2.1, H8.out.2.2.2.2.2.2.2.2⟩
            have hda := H8.out.2.2.2.2.2.1.2.2 e1 e0
            have hj8 := (H8.out.2.2.2.2.2.2.2.1 (.inl e1)).2.1
            have hj' : j < 8 := by have := Hx.out.2.2.1; omega
            have z1 := H8.out.2.1.cell (bsL_get B hj')
            have j0 : (0 : Int) ≤ (j : Int) := by omega
            have j8 : (j : Int) < 8 := by omega
            obtain ⟨bt, hbt⟩ : ∃ bt, B j = bt := ⟨_, rfl⟩
            rw [hbt] at hda z1
            have hm16 : m = 16 := by rw [← H8.out.2.2.2.2.1, hda]; simp
            subst hm16
            obtain ⟨L, hL⟩ : ∃ L, List.replicate 16 bt = L := ⟨_, rfl⟩
            have hsL := Hsx.out bt
            rw [hL] at hsL hda
            have hbA := H8.out.2.2.2.1
            rw [hda] at hbA
            have hll : L.length = 16 := by rw [← hL]; simp
            have ltA : bA < w8.heap.size := cell_lt y1
            have HD := Lib.hid (And.intro hsL (And.intro hbA (And.intro hll ltA)))
            clear hda hj8 hj' hbt hr8 hL hsL hbA hll ltA
            go_upto_region 14 with fail
            go_region_with first
              | (go_at_call 23; go_loud (refine (HD.out.1 _).mono ?_; rintro e w9 ⟨s9, rfl, hs⟩; obtain ⟨A9, c9, rfl, hl9, hc9, hB9⟩ := hs.form; rw [HD.out.2.2.1] at hs ⊢; have b9 := (below_drewN (Below.refl w8.heap.size w8) _).trans hs.2; have y9 := (b9.cell (p := ⟨bA, 1, none⟩) HD.out.2.2.2).trans y1; have H9 := Lib.hid (And.intro b9 hB9); clear hs hl9 hc9 hB9 b9))
              | (go_at_call 16; go_loud (refine (eqBytes _ _ _ _ 16 16 L L _ (Bs.on HD.out.2.1 (by first | exact H9.out.1 | exact below_drewN H9.out.1 _)) (by first | exact H9.out.2 | exact Bs.on H9.out.2 (below_drewN (Below.refl _ _) _)) HD.out.2.2.1 HD.out.2.2.1 (by decide) (by decide)).mono ?_; rintro e w10 ⟨he10, hb10⟩; rw [beq_self_eq_true] at he10; subst he10; have H10 := Lib.hid (show Below w8.heap.size w8 w10 from (by first | exact H9.out.1.trans (hb10.mono H9.out.1.size) | exact (below_drewN H9.out.1 _).trans (hb10.mono (below_drewN H9.out.1 _).size))); clear hb10))
            all_goals have x4' := (H10.out.cell (p := ⟨bX, 4, none⟩) (cell_lt x4)).trans x4
            all_goals clear x5 x6 y0 y1 y9 z1
            all_goals go_upto_region 18 with fail
            all_goals (
              have c0 := Hc0.out _ (HR.out _ H10.out).vc.bel
              obtain ⟨q, hq⟩ : ∃ q, n / 4096 % 2 = q := ⟨_, rfl⟩
              have Hq : Hid (∀ W, Calls Tryz.prog 24 #[.int .i64 (n / 4096), .int .i64 2] W fun e w' => e = .returned (.int .i64 q) ∧ w' = W) := Lib.hid fun W => by have h1 := Hnb.out; rw [← hq]; exact bringF_any _ _ _ (by decide) (by decide) (by omega) (by omega)
              clear hq
              by_cases q0 : q = 0
              · have q1 : (q == 0) = true := by simpa using q0
                have Ht := Lib.hid (fun W hb => (HR.out W hb).turn)
                go_wp2_with (first | (go_at_call 24; refine (Hq.out _).mono ?_; rintro e w' ⟨rfl, hww⟩; have hww2 := hww.symm; subst hww2; clear hww) | (go_at_call 25; refine (Ht.out _ (by first | exact H10.out | exact below_drewN H10.out _)).mono ?_; rintro e wt ⟨rfl, hT⟩; have HT := Lib.hid hT; clear hT))
                go_roundw
                case rel => exact ⟨k + 1, by omega, by omega, by go_num, Lib.hid ⟨_, _, HT.out⟩⟩
                case measure => simp [intOf]; omega
              · have q1 : (q == 0) = false := by simpa using q0
                go_wp2_with (go_at_call 24; refine (Hq.out _).mono ?_; rintro e w' ⟨rfl, hww⟩; have hww2 := hww.symm; subst hww2; clear hww)
                go_roundw
                case rel => exact ⟨k + 1, by omega, by omega, by go_num, Lib.hid ⟨_, _, HR.out _ (by first | exact H10.out | exact below_drewN H10.out _)⟩⟩
                case measure => simp [intOf]; omega)
          · have z0 : (an.er == 0) = false := by simpa using e0
            skip
            have hr8 := H8.out.2.2.2.2.2.1.2.1 (.inl (by omega))
            have HR : Hid (∀ W, Below w8.heap.size w8 W → RdI w gv bb (.pointer (some ⟨gk, 0, none⟩)) (k + 1) v' B W) := Lib.hid fun W hb => RdI.below (w := w8) (hb := hb) ⟨H8.out.1, (by rw [show ((k + 1 : Nat) : Int) = 1 + k by omega]; exact hr8), H8.out.2.1, H8.out.2.2.2.2.2.2.2.2⟩
            clear hr8
            go_upto_region 14 with fail
            go_quiet (fail)
            go_upto_region 18 with fail
            have c0 := Hc0.out _ (HR.out _ (Below.refl _ _)).vc.bel
            obtain ⟨q, hq⟩ : ∃ q, n / 4096 % 2 = q := ⟨_, rfl⟩
            have Hq : Hid (∀ W, Calls Tryz.prog 24 #[.int .i64 (n / 4096), .int .i64 2] W fun e w' => e = .returned (.int .i64 q) ∧ w' = W) := Lib.hid fun W => by have h1 := Hnb.out; rw [← hq]; exact bringF_any _ _ _ (by decide) (by decide) (by omega) (by omega)
            clear hq
            by_cases q0 : q = 0
            · have q1 : (q == 0) = true := by simpa using q0
              have Ht := Lib.hid (fun W hb => (HR.out W hb).turn)
              go_wp2_with (first | (go_at_call 24; refine (Hq.out _).mono ?_; rintro e w' ⟨rfl, hww⟩; have hww2 := hww.symm; subst hww2; clear hww) | (go_at_call 25; refine (Ht.out _ (below_drewN (Below.refl _ _) _)).mono ?_; rintro e wt ⟨rfl, hT⟩; have HT := Lib.hid hT; clear hT))
              go_roundw
              case rel => exact ⟨k + 1, by omega, by omega, by go_num, Lib.hid ⟨_, _, HT.out⟩⟩
              case measure => simp [intOf]; omega
            · have q1 : (q == 0) = false := by simpa using q0
              go_wp2_with (go_at_call 24; refine (Hq.out _).mono ?_; rintro e w' ⟨rfl, hww⟩; have hww2 := hww.symm; subst hww2; clear hww)
              go_roundw
              case rel => exact ⟨k + 1, by omega, by omega, by go_num, Lib.hid ⟨_, _, HR.out _ (below_drewN (Below.refl _ _) _)⟩⟩
              case measure => simp [intOf]; omega
        · have k1 : (x.kd == 1) = false := by simpa using e1
          by_cases e2 : x.kd = 2
          · have k2 : (x.kd == 2) = true := by simpa using e2
            by_cases e0 : an.er = 0
            · have z0 : (an.er == 0) = true := by simpa using e0
              obtain ⟨b, hb, hr⟩ := H8.out.2.2.2.2.2.1.1 e2 e0
              obtain ⟨db, off, hDe, d0⟩ := da_at H8.out.2.2.1 hb
              have hnd : nd = 16 := by rw [← Hnd.out, hb]; simp
              have hj8 := (H8.out.2.2.2.2.2.2.2.1 (.inr e2)).2.1
              have hj' : j < 8 := by have := Hx.out.2.2.1; omega
              have z1 := H8.out.2.1.cell (bsL_get B hj')
              have f1 := H8.out.2.1.free j
              have j0 : (0 : Int) ≤ (j : Int) := by omega
              have j8 : (j : Int) < 8 := by omega
              have HR : Hid (∀ W, Below w8.heap.size w8 W → RdI w gv bb (.pointer (some ⟨gk, 0, none⟩)) (k + 1) v' (upd B j b) (W.setCell ⟨bb, j, none⟩ (.int .u8 (b.toNat : Int)))) := Lib.hid fun W hW => RdI.put (H8.out.1.below hW) (H8.out.2.1.below hW H8.out.2.1.lt) H8.out.2.2.2.2.2.2.2.2 hj' (by rw [show ((k + 1 : Nat) : Int) = 1 + k by omega]; exact hr)
              clear hj8 hj' hr hb
              subst hDe
              subst hnd
              go_upto_region 14 with fail
              go_quiet (fail)
              go_upto_region 17 with fail
              go_region_with fail
              all_goals (
                generalize hW : World.setCell (World.drewN _ _) _ _ = wz
                have HZ : RdI w gv bb (.pointer (some ⟨gk, 0, none⟩)) (k + 1) v' (upd B j b) wz := by rw [← hW]; exact HR.out _ (below_drewN (Below.refl _ _) _)
                have HR2 : Hid (∀ W, Below wz.heap.size wz W → RdI w gv bb (.pointer (some ⟨gk, 0, none⟩)) (k + 1) v' (upd B j b) W) := Lib.hid fun W hb => HZ.below hb
                clear hW HZ HR x4 x5 x6 y0 y1 z1 f1 d0
                go_upto_region 18 with fail
                have c0 := Hc0.out _ (HR2.out _ (Below.refl _ _)).vc.bel
                obtain ⟨q, hq⟩ : ∃ q, n / 4096 % 2 = q := ⟨_, rfl⟩
                have Hq : Hid (∀ W, Calls Tryz.prog 24 #[.int .i64 (n / 4096), .int .i64 2] W fun e w' => e = .returned (.int .i64 q) ∧ w' = W) := Lib.hid fun W => by have h1 := Hnb.out; rw [← hq]; exact bringF_any _ _ _ (by decide) (by decide) (by omega) (by omega)
                clear hq
                by_cases q0 : q = 0
                · have q1 : (q == 0) = true := by simpa using q0
                  have Ht := Lib.hid (fun W hb => (HR2.out W hb).turn)
                  go_wp2_with (first | (go_at_call 24; refine (Hq.out _).mono ?_; rintro e w' ⟨rfl, hww⟩; have hww2 := hww.symm; subst hww2; clear hww) | (go_at_call 25; refine (Ht.out _ (by first | exact Below.refl _ _ | exact below_drewN (Below.refl _ _) _)).mono ?_; rintro e wt ⟨rfl, hT⟩; have HT := Lib.hid hT; clear hT))
                  go_roundw
                  case rel => exact ⟨k + 1, by omega, by omega, by go_num, Lib.hid ⟨_, _, HT.out⟩⟩
                  case measure => simp [intOf]; omega
                · have q1 : (q == 0) = false := by simpa using q0
                  go_wp2_with (go_at_call 24; refine (Hq.out _).mono ?_; rintro e w' ⟨rfl, hww⟩; have hww2 := hww.symm; subst hww2; clear hww)
                  go_roundw
                  case rel => exact ⟨k + 1, by omega, by omega, by go_num, Lib.hid ⟨_, _, HR2.out _ (by first | exact Below.refl _ _ | exact below_drewN (Below.refl _ _) _)⟩⟩
                  case measure => simp [intOf]; omega)
            · have z0 : (an.er == 0) = false := by simpa using e0
              skip
              have hr8 := H8.out.2.2.2.2.2.1.2.1 (.inr e0)
              have HR : Hid (∀ W, Below w8.heap.size w8 W → RdI w gv bb (.pointer (some ⟨gk, 0, none⟩)) (k + 1) v' B W) := Lib.hid fun W hb => RdI.below (w := w8) (hb := hb) ⟨H8.out.1, (by rw [show ((k + 1 : Nat) : Int) = 1 + k by omega]; exact hr8), H8.out.2.1, H8.out.2.2.2.2.2.2.2.2⟩
              clear hr8
              go_upto_region 14 with fail
              go_quiet (fail)
              go_upto_region 18 with fail
              have c0 := Hc0.out _ (HR.out _ (Below.refl _ _)).vc.bel
              obtain ⟨q, hq⟩ : ∃ q, n / 4096 % 2 = q := ⟨_, rfl⟩
              have Hq : Hid (∀ W, Calls Tryz.prog 24 #[.int .i64 (n / 4096), .int .i64 2] W fun e w' => e = .returned (.int .i64 q) ∧ w' = W) := Lib.hid fun W => by have h1 := Hnb.out; rw [← hq]; exact bringF_any _ _ _ (by decide) (by decide) (by omega) (by omega)
              clear hq
              by_cases q0 : q = 0
              · have q1 : (q == 0) = true := by simpa using q0
                have Ht := Lib.hid (fun W hb => (HR.out W hb).turn)
                go_wp2_with (first | (go_at_call 24; refine (Hq.out _).mono ?_; rintro e w' ⟨rfl, hww⟩; have hww2 := hww.symm; subst hww2; clear hww) | (go_at_call 25; refine (Ht.out _ (below_drewN (Below.refl _ _) _)).mono ?_; rintro e wt ⟨rfl, hT⟩; have HT := Lib.hid hT; clear hT))
                go_roundw
                case rel => exact ⟨k + 1, by omega, by omega, by go_num, Lib.hid ⟨_, _, HT.out⟩⟩
                case measure => simp [intOf]; omega
              · have q1 : (q == 0) = false := by simpa using q0
                go_wp2_with (go_at_call 24; refine (Hq.out _).mono ?_; rintro e w' ⟨rfl, hww⟩; have hww2 := hww.symm; subst hww2; clear hww)
                go_roundw
                case rel => exact ⟨k + 1, by omega, by omega, by go_num, Lib.hid ⟨_, _, HR.out _ (below_drewN (Below.refl _ _) _)⟩⟩
                case measure => simp [intOf]; omega
          · have k2 : (x.kd == 2) = false := by simpa using e2
            skip
            have hr8 := H8.out.2.2.2.2.2.1.2.1 (.inl e2)
            have HR : Hid (∀ W, Below w8.heap.size w8 W → RdI w gv bb (.pointer (some ⟨gk, 0, none⟩)) (k + 1) v' B W) := Lib.hid fun W hb => RdI.below (w := w8) (hb := hb) ⟨H8.out.1, (by rw [show ((k + 1 : Nat) : Int) = 1 + k by omega]; exact hr8), H8.out.2.1, H8.out.2.2.2.2.2.2.2.2⟩
            clear hr8
            go_upto_region 14 with fail
            go_quiet (fail)
            go_upto_region 18 with fail
            have c0 := Hc0.out _ (HR.out _ (Below.refl _ _)).vc.bel
            obtain ⟨q, hq⟩ : ∃ q, n / 4096 % 2 = q := ⟨_, rfl⟩
            have Hq : Hid (∀ W, Calls Tryz.prog 24 #[.int .i64 (n / 4096), .int .i64 2] W fun e w' => e = .returned (.int .i64 q) ∧ w' = W) := Lib.hid fun W => by have h1 := Hnb.out; rw [← hq]; exact bringF_any _ _ _ (by decide) (by decide) (by omega) (by omega)
            clear hq
            by_cases q0 : q = 0
            · have q1 : (q == 0) = true := by simpa using q0
              have Ht := Lib.hid (fun W hb => (HR.out W hb).turn)
              go_wp2_with (first | (go_at_call 24; refine (Hq.out _).mono ?_; rintro e w' ⟨rfl, hww⟩; have hww2 := hww.symm; subst hww2; clear hww) | (go_at_call 25; refine (Ht.out _ (below_drewN (Below.refl _ _) _)).mono ?_; rintro e wt ⟨rfl, hT⟩; have HT := Lib.hid hT; clear hT))
              go_roundw
              case rel => exact ⟨k + 1, by omega, by omega, by go_num, Lib.hid ⟨_, _, HT.out⟩⟩
              case measure => simp [intOf]; omega
            · have q1 : (q == 0) = false := by simpa using q0
              go_wp2_with (go_at_call 24; refine (Hq.out _).mono ?_; rintro e w' ⟨rfl, hww⟩; have hww2 := hww.symm; subst hww2; clear hww)
              go_roundw
              case rel => exact ⟨k + 1, by omega, by omega, by go_num, Lib.hid ⟨_, _, HR.out _ (below_drewN (Below.refl _ _) _)⟩⟩
              case measure => simp [intOf]; omega
      · have p1 : (k : Int) < (nl : Int) := by omega
        have p2 : ¬ (k : Int) < 60 := by omega
        go_wp2
        go_loopw [10] (fun iv wz => ∃ i : Nat, i ≤ 8 ∧ iv = .int .i64 (i : Int) ∧ Hid (RdI w gv bb (.pointer (some ⟨gk, 0, none⟩)) k v B wz)) (fun iv _ => 8 - (intOf iv).toNat)
        case atStart => exact ⟨0, by omega, rfl, Lib.hid (HI.out.below (by first | exact Below.refl _ _ | exact below_drewN (Below.refl _ _) _))⟩
        case round =>
          obtain ⟨i, hi, rfl, hZ⟩ := hrel
          have i0 : (0 : Int) ≤ (i : Int) := by omega
          by_cases h8 : i < 8
          · have i8 : (i : Int) < 8 := by omega
            have Hlk := hZ.out.vc.look (b := (i : Int)) ⟨i0, i8⟩
            rw [Int.toNat_natCast, hZ.out.rd.bl i h8] at Hlk
            obtain ⟨bt, hbt⟩ : ∃ bt, B i = bt := ⟨_, rfl⟩
            rw [hbt] at Hlk
            obtain ⟨L, hL⟩ : ∃ L, List.replicate 16 bt = L := ⟨_, rfl⟩
            have hsL := Hsx.out bt
            rw [hL] at hsL Hlk
            have hll : L.length = 16 := by rw [← hL]; simp
            have HLk := Lib.hid Hlk
            have HD := Lib.hid (And.intro hsL (And.intro hll hbt))
            clear Hlk hbt hL hsL hll
            go_wp2_with fail
            refine HLk.out.mono ?_
            rintro e w6 ⟨d, rfl, hd⟩
            obtain ⟨A6, c6, rfl, hl6, hc6, hB6⟩ := hd.form
            rw [HD.out.2.1] at hd ⊢
            have z1 := (hZ.out.below hd.2).blk.cell (bsL_get B h8)
            rw [HD.out.2.2] at z1
            have H6 := Lib.hid (And.intro hd.2 hB6)
            clear hd hl6 hc6 hB6
            go_wp2_with first
              | (go_at_call 23; refine (HD.out.1 _).mono ?_; rintro e w9 ⟨s9, rfl, hs⟩; obtain ⟨A9, c9, rfl, hl9, hc9, hB9⟩ := hs.form; rw [HD.out.2.1] at hs ⊢; have H9 := Lib.hid (And.intro hs.2 hB9); clear hs hl9 hc9 hB9)
              | (go_at_call 16; refine (eqBytes _ _ _ _ 16 16 L L _ (Bs.on H6.out.2 H9.out.1) H9.out.2 HD.out.2.1 HD.out.2.1 (by decide) (by decide)).mono ?_; rintro e w10 ⟨he10, hb10⟩; rw [beq_self_eq_true] at he10; subst he10; have H10 := Lib.hid (H6.out.1.trans ((H9.out.1.trans (hb10.mono H9.out.1.size)).mono H6.out.1.size)); clear hb10)
            go_roundw
            case rel => exact ⟨i + 1, by omega, by go_num, Lib.hid (hZ.out.below H10.out)⟩
            case measure => simp [intOf]; omega
          · have i8 : ¬ (i : Int) < 8 := by omega
            go_wp2
            go_ret
            exact ⟨rfl, hZ.out.vc.bel⟩
    · have p1 : ¬ (k : Int) < (nl : Int) := by omega
      go_wp2
      go_loopw [10] (fun iv wz => ∃ i : Nat, i ≤ 8 ∧ iv = .int .i64 (i : Int) ∧ Hid (RdI w gv bb (.pointer (some ⟨gk, 0, none⟩)) k v B wz)) (fun iv _ => 8 - (intOf iv).toNat)
      case atStart => exact ⟨0, by omega, rfl, Lib.hid (HI.out.below (by first | exact Below.refl _ _ | exact below_drewN (Below.refl _ _) _))⟩
      case round =>
        obtain ⟨i, hi, rfl, hZ⟩ := hrel
        have i0 : (0 : Int) ≤ (i : Int) := by omega
        by_cases h8 : i < 8
        · have i8 : (i : Int) < 8 := by omega
          have Hlk := hZ.out.vc.look (b := (i : Int)) ⟨i0, i8⟩
          rw [Int.toNat_natCast, hZ.out.rd.bl i h8] at Hlk
          obtain ⟨bt, hbt⟩ : ∃ bt, B i = bt := ⟨_, rfl⟩
          rw [hbt] at Hlk
          obtain ⟨L, hL⟩ : ∃ L, List.replicate 16 bt = L := ⟨_, rfl⟩
          have hsL := Hsx.out bt
          rw [hL] at hsL Hlk
          have hll : L.length = 16 := by rw [← hL]; simp
          have HLk := Lib.hid Hlk
          have HD := Lib.hid (And.intro hsL (And.intro hll hbt))
          clear Hlk hbt hL hsL hll
          go_wp2_with fail
          refine HLk.out.mono ?_
          rintro e w6 ⟨d, rfl, hd⟩
          obtain ⟨A6, c6, rfl, hl6, hc6, hB6⟩ := hd.form
          rw [HD.out.2.1] at hd ⊢
          have z1 := (hZ.out.below hd.2).blk.cell (bsL_get B h8)
          rw [HD.out.2.2] at z1
          have H6 := Lib.hid (And.intro hd.2 hB6)
          clear hd hl6 hc6 hB6
          go_wp2_with first
            | (go_at_call 23; refine (HD.out.1 _).mono ?_; rintro e w9 ⟨s9, rfl, hs⟩; obtain ⟨A9, c9, rfl, hl9, hc9, hB9⟩ := hs.form; rw [HD.out.2.1] at hs ⊢; have H9 := Lib.hid (And.intro hs.2 hB9); clear hs hl9 hc9 hB9)
            | (go_at_call 16; refine (eqBytes _ _ _ _ 16 16 L L _ (Bs.on H6.out.2 H9.out.1) H9.out.2 HD.out.2.1 HD.out.2.1 (by decide) (by decide)).mono ?_; rintro e w10 ⟨he10, hb10⟩; rw [beq_self_eq_true] at he10; subst he10; have H10 := Lib.hid (H6.out.1.trans ((H9.out.1.trans (hb10.mono H9.out.1.size)).mono H6.out.1.size)); clear hb10)
          go_roundw
          case rel => exact ⟨i + 1, by omega, by go_num, Lib.hid (hZ.out.below H10.out)⟩
          case measure => simp [intOf]; omega
        · have i8 : ¬ (i : Int) < 8 := by omega
          go_wp2
          go_ret
          exact ⟨rfl, hZ.out.vc.bel⟩

end Go.Proofs.YtfaeechidjpjbaaGreat.vaultReads
