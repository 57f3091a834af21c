/-
  For all lists l (40 wishes at most are done): a wish that was done is done once, again at once it gets the same answer, and changes nothing; VaultOnce returns true; no condition.
-/
import Derived.Test.YtfaeechidjpjbaaGreatZ25
import Derived.Test.YtfaeechidjpjbaaGreatZ01
import Derived.Test.YtfaeechidjpjbaaGreatZ18
namespace Go.Proofs.YtfaeechidjpjbaaGreat.vaultOnce
open Go.ChangeShapes Go.WideShapes Go.ChangeAt Go.RowKit Go.Maps
set_option linter.unusedVariables false

set_option maxRecDepth 100000 in
set_option maxHeartbeats 6400000 in
theorem walk (Al : Option Addr) (nl cl : Nat) (l : List Int) (w : World) (hl : ArgI w Al nl cl l) :
    Calls Tryz.prog 5 #[.slice Al nl cl] w fun e w' => e = .returned (.bool true) ∧ Below w.heap.size w w' := by
  have hnot : ∀ (x : Bool) (w : World), (Op.unary .not (.bool x)).run Tryz.prog w = .ok (.bool (!x)) w := fun _ _ => rfl
  have Hl := Lib.hid hl
  have Hln := Lib.hid hl.1
  clear hl
  go_enter Tryz.func5, Tryz.ntmps5
  go_wp2_with fail
  refine (works_any _).mono ?_
  rintro e w1 ⟨rfl, hb1⟩
  go_wp2_with fail
  refine (bnew_any _).mono ?_
  rintro e w2 ⟨S, gk, bm, rfl, hS, hb, hb2⟩
  have hk2 := kb_new hS hb
  have Hn := Lib.hid (vnew_any hk2 hb2.size (by decide) (gr := 1) (by decide))
  have H2 := Lib.hid (And.intro hb1 hb2)
  clear hS hb hk2 hb1 hb2
  go_wp2_with fail
  refine Hn.out.mono ?_
  rintro e w3 ⟨rfl, ⟨cs, hV⟩, hK, hO⟩
  have hb3 : Below w.heap.size w w3 := H2.out.1.trans ((H2.out.2.trans (hO.above (fun i hi => hi.1) H2.out.2.size)).mono H2.out.1.size)
  have hgz : w.heap.size ≤ w2.heap.size := Nat.le_trans H2.out.1.size H2.out.2.size
  have hsl := rootS_len (newV 1) ([], false, 0)
  have HI0 : Hid (On w w2.heap.size gk bm (newV 1) (rootS (newV 1) ([], false, 0)) [] [] w3 ∧ OnP (newV 1) (rootS (newV 1) ([], false, 0)) 0) := Lib.hid ⟨⟨fun _ => False, ⟨hb3, _, _, cs, hV, fun i hi => by subst hi; exact ⟨hgz, id⟩, fun i hi => .inr hi, fun i hi => hi.elim, hK.mono H2.out.1.size⟩, fun p hp => absurd hp List.not_mem_nil, fun q hq => absurd hq List.not_mem_nil⟩, rfl, rfl, fun j hj => Int.le_refl 0, by have := hsl.1; simp at this ⊢; omega, by have := hsl.2; simp at this ⊢; omega⟩
  clear hV hK hO hb3 hgz hsl Hn H2
  generalize w2.heap.size = gv at *
  generalize rootS (newV 1) ([], false, 0) = s0 at *
  go_wp2
  go_loopw [5] (fun iv wr => ∃ k : Nat, k ≤ 40 ∧ k ≤ nl ∧ iv = .int .i64 (k : Int) ∧ Hid (∃ v s, On w gv gk bm v s [] [] wr ∧ OnP v s k)) (fun iv _ => 40 - (intOf iv).toNat)
  case atStart => exact ⟨0, by omega, by omega, rfl, Lib.hid ⟨_, _, HI0.out⟩⟩
  case round =>
    obtain ⟨k, hk, hkn, rfl, hE⟩ := hrel
    obtain ⟨v, s, hI, hS⟩ := hE.out
    clear hE
    have HI := Lib.hid (And.intro hI hS)
    clear hI hS
    have p0 : (0 : Int) ≤ (k : Int) := by omega
    by_cases hin : k < nl
    · by_cases h60 : k < 40
      · have p1 : (k : Int) < (nl : Int) := by omega
        have p2 : (k : Int) < 40 := by omega
        have hkl : k < l.length := by rw [Hln.out]; exact hin
        obtain ⟨sb, so, rfl, hlt, hc⟩ := Hl.out.2.2.2.1.at_ hkl
        have hwf := Hl.out.2.2.2.2 _ (List.getElem_mem hkl)
        have c0 := (HI.out.1.bel.cell (p := ⟨sb, so + k, none⟩) hlt).trans (hc k hkl)
        obtain ⟨n, hn⟩ : ∃ n, l[k] = n := ⟨_, rfl⟩
        rw [hn] at hwf c0
        have Hwi := Lib.hid (HI.out.1.wish n ((1 : Int) + k) (bounds_i64 hwf) (by omega))
        have hw1 : IntKind.i64.wrap ((1 : Int) + k) = 1 + k := by rw [IntWalk.i64_in _ (by omega)]
        clear hlt hc hn hwf hkl
        go_wp2_with fail
        refine Hwi.out.mono ?_
        rintro e w5 ⟨x, D, nd, cd, N, nn, cn, rfl, hA, ⟨hx, _⟩, hDn, _, hb5⟩
        obtain ⟨CX, hCX⟩ : ∃ CX : List Value, [.int .i64 x.cl, .int .i64 x.sp, .int .i64 x.gr, .int .i64 x.ep, .int .i64 x.kd, .int .i64 x.bl, .slice D nd cd, .int .i64 x.od, .int .i64 x.nw, .slice N nn cn] = CX := ⟨_, rfl⟩
        obtain ⟨w6, hw6⟩ : ∃ w6, w5.alloc (.cells #[.int .i64 x.cl, .int .i64 x.sp, .int .i64 x.gr, .int .i64 x.ep, .int .i64 x.kd, .int .i64 x.bl, .slice D nd cd, .int .i64 x.od, .int .i64 x.nw, .slice N nn cn] 45) = w6 := ⟨_, rfl⟩
        have hb6 : Below w5.heap.size w5 w6 := by rw [← hw6]; exact (Below.refl _ _).alloc (Nat.le_refl _) _
        have BX : Blk w6 w5.heap.size 45 CX := by rw [← hw6, ← hCX]; exact Blk.new rfl rfl
        obtain ⟨D', hD1, hD2, hD3⟩ := d_alt hA.1.2.2.2.1 hDn
        have O6 := (HI.out.1.bytes hb5 hD1 hD2).var hb6 BX (Nat.le_refl _)
        have hA6 := hA.after hb6
        have hg6 := hx.gr.trans HI.out.2.gr.symm
        have hd0 := O6.do_ hA6 hx.may hg6
        have hP := HI.out.2.step hx
        have hon := once HI.out.2.gr HI.out.2.st hx (by omega)
        obtain ⟨v', hv'⟩ : ∃ v', (doS v x).1 = v' := ⟨_, rfl⟩
        obtain ⟨an, han⟩ : ∃ an, (doS v x).2 = an := ⟨_, rfl⟩
        rw [hv', han] at hd0 hon
        rw [hv'] at hP
        have hep0 : x.ep = 0 := by have h1 := hx.ep; rw [HI.out.2.ep] at h1; omega
        have hnx : x.kd ≠ 5 → x.nx = [] := fun e => by have h1 := hx.kd; obtain ⟨_, h2 | h2 | h2 | h2 | h2⟩ := hx.may; all_goals first | exact List.eq_nil_of_length_eq_zero h2.2.2.2.2.2 | exact absurd h2.1 e
        have Hd := Lib.hid hd0
        have Hx := Lib.hid (And.intro hx (And.intro hA6 (And.intro hD3 (And.intro hCX (And.intro hon (And.intro hP (And.intro hep0 hnx)))))))
        have Hw6 := Lib.hid hw6
        rw [← hw6] at Hd
        clear hA hx hDn hb5 hb6 BX hD1 hD2 hD3 O6 hA6 hg6 hd0 hP hon hv' han hep0 hnx hw6 hCX Hwi c0
        go_wp2_with fail
        refine Hd.out.mono ?_
        rintro e w7 ⟨A, m, c, rfl, hm, hz7, hO7⟩
        obtain ⟨w8, hw8⟩ : ∃ w8, w7.alloc (.cells #[.int .i64 an.er, .slice A m c, .int .i64 an.ep, .slice none 0 0] 48) = w8 := ⟨_, rfl⟩
        have hb8 : Below w7.heap.size w7 w8 := by rw [← hw8]; exact (Below.refl _ _).alloc (Nat.le_refl _) _
        have BA : Blk w8 w7.heap.size 48 [.int .i64 an.er, .slice A m c, .int .i64 an.ep, .slice none 0 0] := by rw [← hw8]; exact Blk.new rfl rfl
        have O8 := hO7.var hb8 BA (Nat.le_refl _)
        have BX8 := O8.blk (List.mem_cons_of_mem _ List.mem_cons_self)
        rw [← Hx.out.2.2.2.1] at BX8
        have x4 := BX8.cell (i := 4) rfl
        have y0 := BA.cell (i := 0) rfl
        have H8 := Lib.hid (And.intro O8 hm)
        have Hw8 := Lib.hid hw8
        clear hb8 BA BX8 O8 hw8 hO7 hz7 Hd hm
        go_upto_region 11 with fail
        rw [Hw8.out]
        generalize w7.heap.size = bA at *
        generalize w5.heap.size = bX at *
        clear Hw8 Hw6
        by_cases e5 : x.kd = 5
        · have k5 : (x.kd == 5) = true := by simpa using e5
          go_wp2
          go_roundw
          case rel => exact ⟨k + 1, by omega, by omega, by go_num, Lib.hid ⟨v', s, H8.out.1.drop, Hx.out.2.2.2.2.2.1⟩⟩
          case measure => simp [intOf]; omega
        have k5 : (x.kd == 5) = false := by simpa using e5
        by_cases e0 : an.er = 0
        rotate_left
        · have z0 : (an.er != 0) = true := by simpa using e0
          go_wp2
          go_roundw
          case rel => exact ⟨k + 1, by omega, by omega, by go_num, Lib.hid ⟨v', s, H8.out.1.drop, Hx.out.2.2.2.2.2.1⟩⟩
          case measure => simp [intOf]; omega
        have z0 : (an.er != 0) = false := by simpa using e0
        obtain ⟨hox, hoy⟩ := Hx.out.2.2.2.2.1 e5 e0
        have hP := Hx.out.2.2.2.2.2.1
        have hs1 := HI.out.2.s1
        have hs2 := HI.out.2.s2
        have hmb := may_blk Hx.out.1.may (by rcases Hx.out.1.kd with h | h | h; all_goals first | exact absurd h.1 e5 | exact .inl h.1 | exact .inr h.1)
        have hm16 : m ≤ 16 := by rw [← H8.out.2]; exact once_da H8.out.1.ok hmb.1 (hoy x rfl rfl) e0
        have hspx : x.sp ≤ 9007199254740991 := Hx.out.1.may.nums.2.2.1.2
        have Hr := H8.out.1.rooted (by omega)
        obtain ⟨DD, hDD⟩ : ∃ DD, cbs (rootB v') = DD := ⟨_, rfl⟩
        rw [hDD] at Hr
        have hl32 : DD.length = 32 := by rw [← hDD, cbs_length, rootB_len]
        have hone : DD.toArray.all (·.oneCell') = true := by rw [← hDD]; exact cbs_one' _
        have Hr' := Lib.hid Hr
        have HD := Lib.hid (And.intro hDD (And.intro hl32 hone))
        have HM := Lib.hid (And.intro hox (And.intro hoy (And.intro hP (And.intro hs1 (And.intro hs2 (And.intro hmb (And.intro hm16 hspx)))))))
        clear hox hoy hP hs1 hs2 hmb hm16 Hr hDD hl32 hone hspx
        go_wp2_with fail
        refine Hr'.out.mono ?_
        rintro e w9 ⟨rfl, hz9, hO9⟩
        clear x4 y0 e0 z0
        obtain ⟨w10, hw10, q1, q2, q2', q3, hb10⟩ := dg_var w9 HD.out.2.1
        have O10 := hO9.var hb10 q3 (Nat.le_refl _)
        have BX10 := O10.blk (List.mem_cons_of_mem _ (List.mem_cons_of_mem _ List.mem_cons_self))
        rw [← Hx.out.2.2.2.1] at BX10
        have x0 := BX10.cell (i := 0) rfl
        have x1 := BX10.cell (i := 1) rfl
        have x3 := BX10.cell (i := 3) rfl
        rw [Hx.out.2.2.2.2.2.2.1] at x3
        have H10 := Lib.hid (And.intro O10 (And.intro hw10 (And.intro q1 (And.intro q2 q2'))))
        clear O10 hw10 q1 q2 q2' q3 hb10 BX10 hO9 hz9 Hr'
        go_wp2_with (refine wpList_store_mid rfl 59 _ _ rfl w9.heap.size 0 DD.toArray rfl rfl H10.out.2.2.1 H10.out.2.2.2.1 HD.out.2.2 ?_; simp only [Act.put]; refine cast (congrArg (fun z => wpList _ _ _ _ _ z) H10.out.2.1.symm) ?_)
        refine (rd_x x.cl x.sp 1 0 HM.out.2.2.2.2.2.1.1 ⟨HM.out.2.2.2.2.2.1.2.2, HM.out.2.2.2.2.2.2.2⟩ (by decide) (by decide) _).mono ?_
        intro e w11 hR
        obtain ⟨y, Dy, ndy, cdy, Ny, nny, cny, rfl, hAy, ⟨hym, hy⟩, _, _, hb11⟩ := hR.ret
        clear hR x0 x1 x3
        obtain ⟨CY, hCY⟩ : ∃ CY : List Value, [.int .i64 y.cl, .int .i64 y.sp, .int .i64 y.gr, .int .i64 y.ep, .int .i64 y.kd, .int .i64 y.bl, .slice Dy ndy cdy, .int .i64 y.od, .int .i64 y.nw, .slice Ny nny cny] = CY := ⟨_, rfl⟩
        obtain ⟨w12, hw12⟩ : ∃ w12, w11.alloc (.cells #[.int .i64 y.cl, .int .i64 y.sp, .int .i64 y.gr, .int .i64 y.ep, .int .i64 y.kd, .int .i64 y.bl, .slice Dy ndy cdy, .int .i64 y.od, .int .i64 y.nw, .slice Ny nny cny] 45) = w12 := ⟨_, rfl⟩
        have hb12 : Below w11.heap.size w11 w12 := by rw [← hw12]; exact (Below.refl _ _).alloc (Nat.le_refl _) _
        have BY : Blk w12 w11.heap.size 45 CY := by rw [← hw12, ← hCY]; exact Blk.new rfl rfl
        have O12 := (H10.out.1.below hb11).var hb12 BY (Nat.le_refl _)
        have hAx := argW_of Hx.out.2.1 (Hx.out.2.2.2.2.2.2.2 e5) (Hx.out.2.2.1 _ (O12.get (List.mem_cons_of_mem _ List.mem_cons_self)))
        have hgx := Hx.out.1.gr.trans HM.out.2.2.1.gr.symm
        have Hh := O12.heard hAx Hx.out.1.may hgx e5 (HM.out.2.1 x rfl rfl)
        rw [show (#[.int .i64 x.cl, .int .i64 x.sp, .int .i64 x.gr, .int .i64 x.ep, .int .i64 x.kd, .int .i64 x.bl, .slice D nd cd, .int .i64 x.od, .int .i64 x.nw, .slice N nn cn] : Array Value) = CX.toArray by rw [← Hx.out.2.2.2.1]] at Hh
        have RX := (O12.blk (List.mem_cons_of_mem _ (List.mem_cons_of_mem _ (List.mem_cons_of_mem _ List.mem_cons_self)))).range
        have hix : (Tryz.prog.info? 45).map (·.size) = some CX.length := by rw [← Hx.out.2.2.2.1]; exact wish_size
        have hiy : (Tryz.prog.info? 45).map (·.size) = some CY.length := by rw [← hCY]; exact wish_size
        have Hy := Lib.hid (And.intro (hAy.after hb12) (And.intro hym (And.intro hy (And.intro hCY (And.intro hiy (And.intro hix hgx))))))
        have Hh' := Lib.hid Hh
        have HRX := Lib.hid RX
        rw [← hw12] at Hh' HRX
        have H12 := Lib.hid O12
        clear hAy hym hy hb11 hb12 BY O12 hAx Hh RX hix hiy hw12 hCY hgx
        go_wp2_with (refine wpList_load_mid rfl 45 _ rfl bX 0 rfl CX _ HRX.out Tryz.underlying45 rfl Hy.out.2.2.2.2.2.1 ?_; simp only [Act.put])
        refine Hh'.out.mono ?_
        rintro e w13 ⟨Ah, mh, ch, rfl, hlh, hz13, hO13⟩
        have hmh : m = mh := by rw [← hlh, H8.out.2]
        subst hmh
        obtain ⟨w14, hw14⟩ : ∃ W, w13.alloc (.cells #[.int .i64 an.er, .slice Ah m ch, .int .i64 an.ep, .slice none 0 0] 48) = W := ⟨_, rfl⟩
        have hb14 : Below w13.heap.size w13 w14 := by rw [← hw14]; exact (Below.refl _ _).alloc (Nat.le_refl _) _
        have B14 : Blk w14 w13.heap.size 48 [.int .i64 an.er, .slice Ah m ch, .int .i64 an.ep, .slice none 0 0] := by rw [← hw14]; exact Blk.new rfl rfl
        have O14 := hO13.var hb14 B14 (Nat.le_refl _)
        have Y14 := O14.blk (List.mem_cons_of_mem _ (List.mem_cons_of_mem _ (List.mem_cons_of_mem _ List.mem_cons_self)))
        have ya0 := Y14.cell (i := 0) rfl
        have ya1 := Y14.cell (i := 1) rfl
        have ya2 := Y14.cell (i := 2) rfl
        have ya3 := Y14.cell (i := 3) rfl
        have hs := same_ans (er := an.er) (ep := an.ep) (n := m) (c := c) (c' := ch) (O14.get (List.mem_cons_of_mem _ List.mem_cons_self)) (O14.get List.mem_cons_self) H8.out.2 HM.out.2.2.2.2.2.2.1
        have HS := Lib.hid hs
        have H14 := Lib.hid O14
        rw [← hw14] at ya0 ya1 ya2 ya3 HS
        have Hw14 := Lib.hid hw14
        clear hw14 hb14 B14 O14 Y14 hs hO13 hlh hz13
        go_wp2_with fail
        refine HS.out.mono ?_
        rintro e w15 ⟨rfl, hb15⟩
        rw [Hw14.out] at hb15
        have O15 := H14.out.below hb15
        have e2 := doS_again (v := v') (y := x) (by unfold lookB; simp [Hx.out.1.may, Hy.out.2.2.2.2.2.2]) e5 (HM.out.2.1 x rfl rfl)
        have hd := O15.do_ (argW_of Hx.out.2.1 (Hx.out.2.2.2.2.2.2.2 e5) (Hx.out.2.2.1 _ (O15.get (List.mem_cons_of_mem _ (List.mem_cons_of_mem _ List.mem_cons_self))))) Hx.out.1.may Hy.out.2.2.2.2.2.2
        rw [e2, show (#[.int .i64 x.cl, .int .i64 x.sp, .int .i64 x.gr, .int .i64 x.ep, .int .i64 x.kd, .int .i64 x.bl, .slice D nd cd, .int .i64 x.od, .int .i64 x.nw, .slice N nn cn] : Array Value) = CX.toArray by rw [← Hx.out.2.2.2.1]] at hd
        dsimp only at hd
        have Hd2 := Lib.hid hd
        have RX15 := Lib.hid (O15.blk (List.mem_cons_of_mem _ (List.mem_cons_of_mem _ (List.mem_cons_of_mem _ (List.mem_cons_of_mem _ List.mem_cons_self))))).range
        clear ya0 ya1 ya2 ya3 hb15 hd e2 O15
        go_wp2_with (refine wpList_load_mid rfl 45 _ rfl bX 0 rfl CX _ RX15.out Tryz.underlying45 rfl Hy.out.2.2.2.2.2.1 ?_; simp only [Act.put])
        refine Hd2.out.mono ?_
        rintro e w16 ⟨A2, m2, c2, rfl, hl2, hz16, hO16⟩
        have hm2 : m = m2 := by rw [← hl2, H8.out.2]
        subst hm2
        obtain ⟨w17, hw17⟩ : ∃ W, w16.alloc (.cells #[.int .i64 an.er, .slice A2 m c2, .int .i64 an.ep, .slice none 0 0] 48) = W := ⟨_, rfl⟩
        have hb17 : Below w16.heap.size w16 w17 := by rw [← hw17]; exact (Below.refl _ _).alloc (Nat.le_refl _) _
        have B17 : Blk w17 w16.heap.size 48 [.int .i64 an.er, .slice A2 m c2, .int .i64 an.ep, .slice none 0 0] := by rw [← hw17]; exact Blk.new rfl rfl
        have O17 := hO16.var hb17 B17 (Nat.le_refl _)
        have hyk : y.kd ≠ 5 ∧ y.gr = v'.gr ∧ y.nx = [] ∧ y.da = [] ∧ y.cl = x.cl ∧ y.sp = x.sp := by rw [Hy.out.2.2.1]; exact ⟨by simp, HM.out.2.2.1.gr.symm, rfl, rfl, rfl, rfl⟩
        have e3 := doS_again (v := v') (y := y) (by unfold lookB; simp [Hy.out.2.1, hyk.2.1]) hyk.1 (HM.out.2.1 y hyk.2.2.2.2.1 hyk.2.2.2.2.2)
        have hd := O17.do_ (argW_of Hy.out.1 hyk.2.2.1 (by rw [hyk.2.2.2.1]; exact Bs.nil _ _)) Hy.out.2.1 hyk.2.1
        rw [e3, show (#[.int .i64 y.cl, .int .i64 y.sp, .int .i64 y.gr, .int .i64 y.ep, .int .i64 y.kd, .int .i64 y.bl, .slice Dy ndy cdy, .int .i64 y.od, .int .i64 y.nw, .slice Ny nny cny] : Array Value) = CY.toArray by rw [← Hy.out.2.2.2.1]] at hd
        dsimp only at hd
        have RY := Lib.hid (O17.blk (List.mem_cons_of_mem _ (List.mem_cons_of_mem _ List.mem_cons_self))).range
        have Hd3 := Lib.hid hd
        rw [← hw17] at Hd3 RY
        have H17 := Lib.hid O17
        clear hw17 hb17 B17 O17 hd e3 hyk hO16 hl2 hz16
        go_wp2_with (refine wpList_load_mid rfl 45 _ rfl w11.heap.size 0 rfl CY _ RY.out Tryz.underlying45 rfl Hy.out.2.2.2.2.1 ?_; simp only [Act.put])
        refine Hd3.out.mono ?_
        rintro e w18 ⟨A3, m3, c3, rfl, hl3, hz18, hO18⟩
        have hm3 : m = m3 := by rw [← hl3, H8.out.2]
        subst hm3
        obtain ⟨w19, hw19⟩ : ∃ W, w18.alloc (.cells #[.int .i64 an.er, .slice A3 m c3, .int .i64 an.ep, .slice none 0 0] 48) = W := ⟨_, rfl⟩
        have hb19 : Below w18.heap.size w18 w19 := by rw [← hw19]; exact (Below.refl _ _).alloc (Nat.le_refl _) _
        have B19 : Blk w19 w18.heap.size 48 [.int .i64 an.er, .slice A3 m c3, .int .i64 an.ep, .slice none 0 0] := by rw [← hw19]; exact Blk.new rfl rfl
        have O19 := hO18.var hb19 B19 (Nat.le_refl _)
        have hrl := rootS_len v' s
        have Hr := O19.rooted (by have := HM.out.2.2.2.1; have := HM.out.2.2.2.2.1; omega)
        rw [HD.out.1] at Hr
        have Hr2 := Lib.hid Hr
        rw [← hw19] at Hr2
        clear hw19 hb19 B19 O19 hO18 hl3 hz18 Hr hrl
        go_wp2_with fail
        refine Hr2.out.mono ?_
        rintro e w20 ⟨rfl, hz20, hO20⟩
        obtain ⟨w21, hw21, q1, q2, q2', q3, hb21⟩ := dg_var w20 HD.out.2.1
        have O21 := hO20.var hb21 q3 (Nat.le_refl _)
        have heq := fun w' => eq_self DD (rootB v') HD.out.1 (rootB_len v') w'
        have RD1 := (O21.blk (List.mem_cons_of_mem _ (List.mem_cons_of_mem _ (List.mem_cons_of_mem _ (List.mem_cons_of_mem _ (List.mem_cons_of_mem _ List.mem_cons_self)))))).range
        have RD2 := (O21.blk List.mem_cons_self).range
        have YA := O21.blk (List.mem_cons_of_mem _ (List.mem_cons_of_mem _ (List.mem_cons_of_mem _ (List.mem_cons_of_mem _ (List.mem_cons_of_mem _ (List.mem_cons_of_mem _ List.mem_cons_self))))))
        have YB := O21.blk (List.mem_cons_of_mem _ (List.mem_cons_of_mem _ List.mem_cons_self))
        have YC := O21.blk (List.mem_cons_of_mem _ List.mem_cons_self)
        have a0 := YA.cell (i := 0) rfl
        have a1 := YA.cell (i := 1) rfl
        have a2 := YA.cell (i := 2) rfl
        have a3 := YA.cell (i := 3) rfl
        have b0 := YB.cell (i := 0) rfl
        have b1 := YB.cell (i := 1) rfl
        have b2 := YB.cell (i := 2) rfl
        have b3 := YB.cell (i := 3) rfl
        have HS2 := Lib.hid (same_ans (er := an.er) (ep := an.ep) (n := m) (c := c) (c' := c2) (O21.get (List.mem_cons_of_mem _ (List.mem_cons_of_mem _ (List.mem_cons_of_mem _ List.mem_cons_self)))) (O21.get (List.mem_cons_of_mem _ List.mem_cons_self)) H8.out.2 HM.out.2.2.2.2.2.2.1)
        have HR := Lib.hid (And.intro RD1 RD2)
        have HYC := Lib.hid YC
        have HYA := Lib.hid YA
        have H21 := Lib.hid (And.intro O21 (And.intro hw21 (And.intro q1 (And.intro q2 q2'))))
        clear RD1 RD2 YA YB YC O21 hw21 q1 q2 q2' q3 hb21 hO20 hz20
        go_wp2_with (first
          | (refine wpList_store_mid rfl 59 _ _ rfl w20.heap.size 0 DD.toArray rfl rfl H21.out.2.2.1 H21.out.2.2.2.1 HD.out.2.2 ?_; simp only [Act.put]; refine cast (congrArg (fun z => wpList _ _ _ _ _ z) H21.out.2.1.symm) ?_)
          | (refine load_mid_g rfl 59 _ rfl w9.heap.size 0 rfl DD _ HR.out.1 Tryz.underlying59 rfl H21.out.2.2.2.2 ?_; simp only [Act.put])
          | (refine load_mid_g rfl 59 _ rfl w20.heap.size 0 rfl DD _ HR.out.2 Tryz.underlying59 rfl H21.out.2.2.2.2 ?_; simp only [Act.put]))
        refine HS2.out.mono ?_
        rintro e w22 ⟨rfl, hb22⟩
        have O22 := H21.out.1.below hb22
        have YA := HYA.out.below hb22 HYA.out.lt
        have YC := HYC.out.below hb22 HYC.out.lt
        clear a0 a1 a2 a3 b0 b1 b2 b3
        have a0 := YA.cell (i := 0) rfl
        have a1 := YA.cell (i := 1) rfl
        have a2 := YA.cell (i := 2) rfl
        have a3 := YA.cell (i := 3) rfl
        have b0 := YC.cell (i := 0) rfl
        have b1 := YC.cell (i := 1) rfl
        have b2 := YC.cell (i := 2) rfl
        have b3 := YC.cell (i := 3) rfl
        have HS3 := Lib.hid (same_ans (er := an.er) (ep := an.ep) (n := m) (c := c) (c' := c3) (O22.get (List.mem_cons_of_mem _ (List.mem_cons_of_mem _ (List.mem_cons_of_mem _ List.mem_cons_self)))) (O22.get List.mem_cons_self) H8.out.2 HM.out.2.2.2.2.2.2.1)
        have H22 := Lib.hid O22
        clear YA YC O22 hb22
        go_wp2_with fail
        refine HS3.out.mono ?_
        rintro e w23 ⟨rfl, hb23⟩
        have H23 := Lib.hid (H22.out.below hb23)
        clear a0 a1 a2 a3 b0 b1 b2 b3 hb23
        go_wp2
        go_roundw
        case rel => exact ⟨k + 1, by omega, by omega, by go_num, Lib.hid ⟨v', _, H23.out.drop, HM.out.2.2.1.roots HM.out.2.2.2.1 HM.out.2.2.2.2.1⟩⟩
        case measure => simp [intOf]; omega
      · have p1 : (k : Int) < (nl : Int) := by omega
        have p2 : ¬ (k : Int) < 40 := by omega
        go_wp2
        go_ret
        exact ⟨rfl, HI.out.1.bel⟩
    · have p1 : ¬ (k : Int) < (nl : Int) := by omega
      go_wp2
      go_ret
      exact ⟨rfl, HI.out.1.bel⟩

end Go.Proofs.YtfaeechidjpjbaaGreat.vaultOnce
