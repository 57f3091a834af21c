/-
  For all lists l and m (30 wishes at most each): as long as the book tells of no clash, vaults have the same root just if they have the same leaves; VaultUnlike returns true; no condition.
-/
import Derived.Test.YtfaeechidjpjbaaGreatZ26
import Derived.Test.YtfaeechidjpjbaaGreatZ01
import Derived.Deep.RegionHeld3
namespace Go.Proofs.YtfaeechidjpjbaaGreat.vaultUnlike
open Go.ChangeShapes Go.WideShapes Go.ChangeAt Go.RowKit Go.Maps
set_option linter.unusedVariables false

theorem root_same (s : Bk) (hs : Unmixed s) (a b : Va) (ha : a.ok) (hb : b.ok) (hc : (rootS b (rootS a s)).2.1 = false) : (rootB a == rootB b) = decide (leavesL a = leavesL b) := by
  by_cases e : leavesL a = leavesL b
  · rw [decide_eq_true e]
    unfold rootB
    rw [e]
    exact beq_self_eq_true _
  · rw [decide_eq_false e]
    have : rootB a ≠ rootB b := fun e2 => e (roots_apart16 s hs (leavesL a) (leavesL b) 13 (leavesL_len a) (leavesL_len b) (by decide) (leaves_max ha) (leaves_max hb) hc e2)
    simpa using this
theorem unm0 : Unmixed ([], false, 0) := fun _ x hx => by simp at hx
theorem rootS_good (v : Va) (s : Bk) (h : Unmixed s) : Unmixed (rootS v s) := noteAll_good s _ h

set_option maxRecDepth 100000 in
set_option maxHeartbeats 6400000 in
theorem walk (Al : Option Addr) (nl cl : Nat) (l : List Int) (Am : Option Addr) (nm cm : Nat) (m : List Int) (w : World) (hl : ArgI w Al nl cl l) (hm : ArgI w Am nm cm m) :
    Calls Tryz.prog 8 #[.slice Al nl cl, .slice Am nm cm] w fun e w' => e = .returned (.bool true) ∧ Below w.heap.size w w' := by
  have hnot : ∀ (x : Bool) (w : World), (Op.unary .not (.bool x)).run Tryz.prog w = .ok (.bool (!x)) w := fun _ _ => rfl
  have Hl := Lib.hid hl
  have Hln := Lib.hid hl.1
  have Hm := Lib.hid hm
  have Hmn := Lib.hid hm.1
  clear hl hm
  go_enter Tryz.func8, Tryz.ntmps8
  go_wp2_with fail
  refine (works_any _).mono ?_
  rintro e w1 ⟨rfl, hb1⟩
  go_wp2_with fail
  refine (bnew_any _).mono ?_
  rintro e w2 ⟨S, gk, bm, rfl, hS, hb, hb2⟩
  have hk2 := (kb_new hS hb).mono (B' := w.heap.size) hb1.size
  have hbw2 := hb1.trans (hb2.mono hb1.size)
  have Hn := Lib.hid (vnew_any hk2 hbw2.size (by decide) (gr := 1) (by decide))
  have H2 := Lib.hid hbw2
  clear hS hb hk2 hb1 hb2 hbw2
  go_wp2_with fail
  refine Hn.out.mono ?_
  rintro e w3 ⟨rfl, hVa, hK, hO⟩
  have hb3 : Below w.heap.size w w3 := H2.out.trans (hO.above (fun i hi => hi.1) H2.out.size)
  have hsl := rootS_len (newV 1) ([], false, 0)
  obtain ⟨s1, hs1⟩ : ∃ s1 : Bk, rootS (newV 1) ([], false, 0) = s1 := ⟨_, rfl⟩
  have hu1 : Unmixed s1 := by rw [← hs1]; exact rootS_good _ _ unm0
  have hK' : Kb w.heap.size w3 gk bm s1 (fun i => False ∨ i = w2.heap.size) := by rw [← hs1]; exact hK
  rw [hs1] at hsl
  have hs1l : s1.1.length ≤ 200 ∧ s1.2.2 ≤ 200 := by have h1 := hsl.1; have h2 := hsl.2; simp at h1 h2; exact ⟨h1, h2⟩
  have Hn2 := Lib.hid (vnew_any hK' hb3.size (by omega) (gr := 1) (by decide))
  have H3 := Lib.hid (And.intro hVa (And.intro hb3 (And.intro hu1 (And.intro hs1l H2.out.size))))
  clear hVa hK hK' hO hb3 hsl hs1 hu1 hs1l Hn H2
  go_wp2_with fail
  refine Hn2.out.mono ?_
  rintro e w4 ⟨rfl, ⟨cb, hVb⟩, hK, hO⟩
  have hb4 : Below w.heap.size w w4 := H3.out.2.1.trans (hO.above (fun i hi => hi.1) H3.out.2.1.size)
  obtain ⟨ca, hVa⟩ := H3.out.1
  have hlt := hVa.lt _ rfl
  have hVa4 := hVa.out hO fun i hi e => e.2.1 (.inr hi)
  have hsl := rootS_len (newV 1) s1
  obtain ⟨s2, hs2⟩ : ∃ s2 : Bk, rootS (newV 1) s1 = s2 := ⟨_, rfl⟩
  have hu2 : Unmixed s2 := by rw [← hs2]; exact rootS_good _ _ H3.out.2.2.1
  rw [hs2] at hsl
  have HI0 : Hid (V2 w w2.heap.size w3.heap.size gk bm (newV 1) (newV 1) s2 w4 ∧ Unmixed s2 ∧ s2.1.length ≤ 400 ∧ s2.2.2 ≤ 400) := Lib.hid ⟨⟨fun i => i = w3.heap.size, cb, ⟨hb4, fun i => i = w2.heap.size, fun i => (False ∨ i = w2.heap.size) ∨ i = w3.heap.size, ca, hVa4, fun i hi => by subst hi; exact ⟨H3.out.2.2.2.2, by omega⟩, fun i hi => .inl (.inr hi), fun i hi => .inr hi, by rw [← hs2]; exact hK⟩, hVb, fun i hi => by subst hi; exact H3.out.2.1.size⟩, hu2, by have := hsl.1; have := H3.out.2.2.2.1; omega, by have := hsl.2; have := H3.out.2.2.2.1; omega⟩
  clear hVa hVb hVa4 hK hO hb4 hlt hsl hs2 hu2 Hn2 H3
  generalize w2.heap.size = ga at *
  generalize w3.heap.size = gb at *
  go_wp2
  go_loopw [10] (fun iv wr => ∃ k : Nat, k ≤ 30 ∧ k ≤ nl ∧ iv = .int .i64 (k : Int) ∧ Hid (∃ va, V2 w ga gb gk bm va (newV 1) s2 wr ∧ va.gr = 1)) (fun iv _ => 30 - (intOf iv).toNat)
  case atStart => exact ⟨0, by omega, by omega, rfl, Lib.hid ⟨_, HI0.out.1, rfl⟩⟩
  case round =>
    obtain ⟨k, hk, hkn, rfl, hE⟩ := hrel
    obtain ⟨va, hI, hS⟩ := hE.out
    clear hE
    have HI := Lib.hid (And.intro hI hS)
    clear hI hS
    have p0 : (0 : Int) ≤ (k : Int) := by omega
    by_cases hin : k < nl
    · by_cases h60 : k < 30
      · skip
        have p1 : (k : Int) < (nl : Int) := by omega
        have p2 : (k : Int) < 30 := by omega
        have hkl : k < l.length := by rw [Hln.out]; exact hin
        obtain ⟨sb, so, rfl, hlt, hc⟩ := Hl.out.2.2.2.1.at_ hkl
        have hwf := Hl.out.2.2.2.2 _ (List.getElem_mem hkl)
        have c0 := (HI.out.1.bel.cell (p := ⟨sb, so + k, none⟩) hlt).trans (hc k hkl)
        obtain ⟨n, hn⟩ : ∃ n, l[k] = n := ⟨_, rfl⟩
        rw [hn] at hwf c0
        have Hwi := Lib.hid (HI.out.1.wish n ((1 : Int) + k) (bounds_i64 hwf) (by omega))
        have hw1 : IntKind.i64.wrap ((1 : Int) + k) = 1 + k := by rw [IntWalk.i64_in _ (by omega)]
        clear hlt hc hn hwf hkl
        go_wp2_with fail
        refine Hwi.out.mono ?_
        rintro e w5 ⟨x, D, nd, cd, N, nn, cn, rfl, hA, ⟨hx, _⟩, _, _, hb5⟩
        have hd := Lib.hid ((HI.out.1.below hb5).do_ hA hx.may (hx.gr.trans HI.out.2.symm))
        clear hA hx hb5 Hwi c0
        go_wp2_with fail
        refine hd.out.mono ?_
        rintro e w7 ⟨A, m', c, rfl, hv⟩
        have HV := Lib.hid hv
        clear hv hd
        go_wp2
        go_roundw
        case rel => exact ⟨k + 1, by omega, by omega, by go_num, Lib.hid ⟨_, HV.out, doS_keep.1.trans HI.out.2⟩⟩
        case measure => simp [intOf]; omega
      · have p1 : (k : Int) < (nl : Int) := by omega
        have p2 : ¬ (k : Int) < 30 := by omega
        have HA := HI
        clear HI
        go_wp2
        go_loopw [11] (fun iv wr => ∃ k : Nat, k ≤ 30 ∧ k ≤ nm ∧ iv = .int .i64 (k : Int) ∧ Hid (∃ vb, V2 w ga gb gk bm va vb s2 wr ∧ vb.gr = 1)) (fun iv _ => 30 - (intOf iv).toNat)
        case atStart => exact ⟨0, by omega, by omega, rfl, Lib.hid ⟨_, HA.out.1, rfl⟩⟩
        case round =>
          obtain ⟨k, hk, hkn, rfl, hE⟩ := hrel
          obtain ⟨vb, hI, hS⟩ := hE.out
          clear hE
          have HI := Lib.hid (And.intro hI hS)
          clear hI hS
          have p0 : (0 : Int) ≤ (k : Int) := by omega
          by_cases hin : k < nm
          · by_cases h60 : k < 30
            · skip
              have p1 : (k : Int) < (nm : Int) := by omega
              have p2 : (k : Int) < 30 := by omega
              have hkl : k < m.length := by rw [Hmn.out]; exact hin
              obtain ⟨sb, so, rfl, hlt, hc⟩ := Hm.out.2.2.2.1.at_ hkl
              have hwf := Hm.out.2.2.2.2 _ (List.getElem_mem hkl)
              have c0 := (HI.out.1.bel.cell (p := ⟨sb, so + k, none⟩) hlt).trans (hc k hkl)
              obtain ⟨n, hn⟩ : ∃ n, m[k] = n := ⟨_, rfl⟩
              rw [hn] at hwf c0
              have Hwi := Lib.hid (HI.out.1.swap.wish n ((1 : Int) + k) (bounds_i64 hwf) (by omega))
              have hw1 : IntKind.i64.wrap ((1 : Int) + k) = 1 + k := by rw [IntWalk.i64_in _ (by omega)]
              clear hlt hc hn hwf hkl
              go_wp2_with fail
              refine Hwi.out.mono ?_
              rintro e w5 ⟨x, D, nd, cd, N, nn, cn, rfl, hA, ⟨hx, _⟩, _, _, hb5⟩
              have hd := Lib.hid ((HI.out.1.swap.below hb5).do_ hA hx.may (hx.gr.trans HI.out.2.symm))
              clear hA hx hb5 Hwi c0
              go_wp2_with fail
              refine hd.out.mono ?_
              rintro e w7 ⟨A, m', c, rfl, hv⟩
              have HV := Lib.hid hv
              clear hv hd
              go_wp2
              go_roundw
              case rel => exact ⟨k + 1, by omega, by omega, by go_num, Lib.hid ⟨_, HV.out.swap, doS_keep.1.trans HI.out.2⟩⟩
              case measure => simp [intOf]; omega
            · have p1 : (k : Int) < (nm : Int) := by omega
              have p2 : ¬ (k : Int) < 30 := by omega
              have Hok := Lib.hid (And.intro HI.out.1.ok HI.out.1.swap.ok)
              have hr1 := HI.out.1.rooted (by have := HI0.out.2.2; omega)
              obtain ⟨DA, hDA⟩ : ∃ DA, cbs (rootB va) = DA := ⟨_, rfl⟩
              obtain ⟨DB, hDB⟩ : ∃ DB, cbs (rootB vb) = DB := ⟨_, rfl⟩
              rw [hDA] at hr1
              have hlA : DA.length = 32 := by rw [← hDA, cbs_length, rootB_len]
              have hlB : DB.length = 32 := by rw [← hDB, cbs_length, rootB_len]
              have hoA : DA.toArray.all (·.oneCell') = true := by rw [← hDA]; exact cbs_one' _
              have hoB : DB.toArray.all (·.oneCell') = true := by rw [← hDB]; exact cbs_one' _
              have hsl1 := rootS_len va s2
              have heq0 : ∀ w', (Op.equalIn 10000 59 (.agg DA.toArray) (.agg DB.toArray)).run Tryz.prog w' = .ok (rootB va == rootB vb) w' := fun w' => by rw [← hDA, ← hDB]; exact eq_digests w' _ _ (rootB_len va) (rootB_len vb)
              have Hr1 := Lib.hid hr1
              have HD := Lib.hid (And.intro hDB (And.intro hlA (And.intro hlB (And.intro hoA (And.intro hoB (And.intro heq0 hsl1))))))
              clear hr1 hDA hDB hlA hlB hoA hoB hsl1 heq0
              go_wp2_with fail
              refine Hr1.out.mono ?_
              rintro e w5 ⟨rfl, hv⟩
              obtain ⟨w6, hw6, q1, q2, q2', q3, hb6⟩ := dg_var w5 HD.out.2.1
              have hr2 := hv.swap.rootedK hb6 q3 (Nat.le_refl _) (by have := HI0.out.2.2; have := HD.out.2.2.2.2.2.2; omega)
              rw [HD.out.1] at hr2
              have Hr2 := Lib.hid hr2
              have H6 := Lib.hid (And.intro hw6 (And.intro q1 (And.intro q2 q2')))
              clear hv hw6 q1 q2 q2' q3 hb6 hr2 Hr1
              go_wp2_with (refine wpList_store_mid rfl 59 _ _ rfl w5.heap.size 0 DA.toArray rfl rfl H6.out.2.1 H6.out.2.2.1 HD.out.2.2.2.1 ?_; simp only [Act.put]; refine cast (congrArg (fun z => wpList _ _ _ _ _ z) H6.out.1.symm) ?_)
              refine Hr2.out.mono ?_
              rintro e w7 ⟨rfl, hv, hBA⟩
              obtain ⟨w8, hw8, q1, q2, q3', q3, hb8⟩ := dg_var w7 HD.out.2.2.1
              have V8 := hv.swap.below hb8
              have BA8 := hBA.below hb8 hBA.lt
              obtain ⟨cl, hcl⟩ : ∃ cl : Bool, (rootS vb (rootS va s2)).2.1 = cl := ⟨_, rfl⟩
              obtain ⟨E1, hE1⟩ : ∃ E1, (rootB va == rootB vb) = E1 := ⟨_, rfl⟩
              have hsame : cl = false → decide (leavesL va = leavesL vb) = E1 := fun e => by rw [← hE1]; exact (root_same s2 HI0.out.2.1 va vb Hok.out.1 Hok.out.2 (by rw [hcl, e])).symm
              have heq : ∀ w', (Op.equalIn 10000 59 (.agg DA.toArray) (.agg DB.toArray)).run Tryz.prog w' = .ok E1 w' := fun w' => by rw [← hE1]; exact HD.out.2.2.2.2.2.1 w'
              have HQ := Lib.hid (And.intro hw8 (And.intro q1 (And.intro q2 (And.intro H6.out.2.2.2 q3'))))
              have HV := Lib.hid (And.intro V8 (And.intro BA8 (And.intro q3 (And.intro hsame hcl))))
              clear hw8 q1 q2 q3' q3 hb8 V8 BA8 hcl hE1 hsame hv hBA Hr2
              generalize w5.heap.size = bD at *
              go_wp2_with (refine wpList_store_mid rfl 59 _ _ rfl w7.heap.size 0 DB.toArray rfl rfl HQ.out.2.1 HQ.out.2.2.1 HD.out.2.2.2.2.1 ?_; simp only [Act.put]; refine cast (congrArg (fun z => wpList _ _ _ _ _ z) HQ.out.1.symm) ?_)
              generalize w7.heap.size = bE at *
              obtain ⟨w9, hw9⟩ : ∃ W, w8.drew = W := ⟨_, rfl⟩
              have hd9 : Below w8.heap.size w8 w9 := by rw [← hw9]; exact (Below.refl _ _).drew
              have HW := Lib.hid (HV.out.1.below hd9)
              have HR := Lib.hid (And.intro (HV.out.2.1.below hd9 HV.out.2.1.lt) (HV.out.2.2.1.below hd9 HV.out.2.2.1.lt))
              have R1 := (HV.out.2.1.below hd9 HV.out.2.1.lt).range
              have R2 := (HV.out.2.2.1.below hd9 HV.out.2.2.1.lt).range
              have s0 := And.intro R1 R2
              refine wp_region_held_drew (S := (fun W : World => W.rangeAt bD 0 DA ∧ W.rangeAt bE 0 DB)) (by kernel_rfl) (by rw [hw9]; exact s0) (fun _ => ?_)
              rw [hw9]
              clear hw9 hd9 R1 R2
              refine anyH_take (i := 0) (d := 85) (v := ?k1a0) rfl rfl (by kernel_rfl) (by kernel_rfl) (by kernel_rfl) (fun _ _ _ h => h) (Or.inl ⟨by rfl, ?k1ay0⟩) s0 ?k1ar0
              case k1ay0 => (intro w; go_simp; try with_reducible rfl)
              simp only [List.setIfInBounds_toArray, List.set_cons_zero, List.set_cons_succ]
              refine anyH_take (i := 1) (d := 86) (v := ?k1a1) rfl rfl (by kernel_rfl) (by kernel_rfl) (by kernel_rfl) (fun _ _ _ h => h) (Or.inl ⟨by rfl, ?k1ay1⟩) s0 ?k1ar1
              case k1ay1 => (intro w; go_simp; try with_reducible rfl)
              simp only [List.setIfInBounds_toArray, List.set_cons_zero, List.set_cons_succ]
              refine anyH_take (i := 2) (d := 87) (v := ?k1a2) rfl rfl (by kernel_rfl) (by kernel_rfl) (by kernel_rfl) (fun _ _ _ h => h) (Or.inl ⟨by rfl, ?k1ay2⟩) s0 ?k1ar2
              case k1ay2 => (intro w; go_simp; try with_reducible rfl)
              simp only [List.setIfInBounds_toArray, List.set_cons_zero, List.set_cons_succ]
              refine anyH_take (i := 3) (d := 88) (v := ?k1a3) rfl rfl (by kernel_rfl) (by kernel_rfl) (by kernel_rfl) (fun _ _ _ h => h) (Or.inl ⟨by rfl, ?k1ay3⟩) s0 ?k1ar3
              case k1ay3 => (intro w; go_simp; try with_reducible rfl)
              simp only [List.setIfInBounds_toArray, List.set_cons_zero, List.set_cons_succ]
              refine anyH_take (i := 4) (d := 89) (v := ?k1a4) rfl rfl (by kernel_rfl) (by kernel_rfl) (by kernel_rfl) (fun _ _ _ h => h) (Or.inl ⟨by rfl, ?k1ay4⟩) s0 ?k1ar4
              case k1ay4 => (intro w; go_simp; try with_reducible rfl)
              simp only [List.setIfInBounds_toArray, List.set_cons_zero, List.set_cons_succ]
              refine anyH_take (i := 5) (d := 90) (v := ?k1a5) rfl rfl (by kernel_rfl) (by kernel_rfl) (by kernel_rfl) (fun _ _ _ h => h) (Or.inl ⟨by rfl, ?k1ay5⟩) s0 ?k1ar5
              case k1ay5 => (intro w; go_simp; try with_reducible rfl)
              simp only [List.setIfInBounds_toArray, List.set_cons_zero, List.set_cons_succ]
              refine anyH_one (i := 6) (by kernel_rfl) ?_
              refine st3_call rfl (by rfl) (f := 38) (vals := #[.pointer (some ⟨gk, 0, none⟩)]) (Z := fun v w' => v = .bool cl ∧ w' = w9) ?_ ?_ ?_
              · unfold execOp
                simp only [List.getElem_toArray, List.getElem_cons_succ, List.getElem_cons_zero, resolve, invoke, Sem.run_bind, List.map_toArray, List.map_cons, List.map_nil]
                first | rfl | exact enters_of Tryz.func38 (by kernel_rfl) rfl _ _
              · exact (HW.out.clash).mono fun e w' ⟨he, h2⟩ => ⟨_, by rw [he, HV.out.2.2.2.2], rfl, h2⟩
              rintro v w' ⟨rfl, hww⟩
              have hww2 := hww.symm
              subst hww2
              clear hww
              refine ⟨s0, ?_⟩
              simp only [List.getElem_toArray, List.getElem_cons_succ, List.getElem_cons_zero, Act.put, List.setIfInBounds_toArray, List.set_cons_zero, List.set_cons_succ]
              cases cl
              · skip
                skip
                refine anyH_take (i := 7) (d := 92) (v := ?k1b7) rfl rfl (by kernel_rfl) (by kernel_rfl) (by kernel_rfl) (fun _ _ _ h => h) (Or.inl ⟨by rfl, ?k1by7⟩) s0 ?k1br7
                case k1by7 => (intro w; go_simp; try with_reducible rfl)
                simp only [List.setIfInBounds_toArray, List.set_cons_zero, List.set_cons_succ]
                refine anyH_load (i := 8) (d := 93) rfl rfl (by kernel_rfl) (by kernel_rfl) (by kernel_rfl) (by rfl) 59 _ rfl bD 0 rfl DA _ (fun W hSW => hSW.1) Tryz.underlying59 rfl HQ.out.2.2.2.1 (fun _ _ _ h => h) s0 ?_
                simp only [List.setIfInBounds_toArray, List.set_cons_zero, List.set_cons_succ]
                refine anyH_load (i := 9) (d := 94) rfl rfl (by kernel_rfl) (by kernel_rfl) (by kernel_rfl) (by rfl) 59 _ rfl bE 0 rfl DB _ (fun W hSW => hSW.2) Tryz.underlying59 rfl HQ.out.2.2.2.2 (fun _ _ _ h => h) s0 ?_
                simp only [List.setIfInBounds_toArray, List.set_cons_zero, List.set_cons_succ]
                refine anyH_take (i := 10) (d := 95) (v := ?k1b10) rfl rfl (by kernel_rfl) (by kernel_rfl) (by kernel_rfl) (fun _ _ _ h => h) (Or.inl ⟨by rfl, ?k1by10⟩) s0 ?k1br10
                case k1by10 => (intro w; have hq0 := heq w; go_simp; try with_reducible rfl)
                simp only [List.setIfInBounds_toArray, List.set_cons_zero, List.set_cons_succ]
                refine anyH_take (i := 11) (d := 96) (v := ?k1b11) rfl rfl (by kernel_rfl) (by kernel_rfl) (by kernel_rfl) (fun _ _ _ h => h) (Or.inl ⟨by rfl, ?k1by11⟩) s0 ?k1br11
                case k1by11 => (intro w; go_simp; try with_reducible rfl)
                simp only [List.setIfInBounds_toArray, List.set_cons_zero, List.set_cons_succ]
                refine anyH_take (i := 13) (d := 98) (v := ?k1b13) rfl rfl (by kernel_rfl) (by kernel_rfl) (by kernel_rfl) (fun _ _ _ h => h) (Or.inl ⟨by rfl, ?k1by13⟩) s0 ?k1br13
                case k1by13 => (intro w; go_simp; try with_reducible rfl)
                simp only [List.setIfInBounds_toArray, List.set_cons_zero, List.set_cons_succ]
                refine anyH_one (i := 12) (by kernel_rfl) ?_
                refine st3_call rfl (by rfl) (f := 31) (vals := #[.pointer (some ⟨ga, 0, none⟩)]) (Z := fun v w' => ∃ A c, v = .slice A 13 c ∧ LvK ga A (leavesL va) w' ∧ Below w9.heap.size w9 w') ?_ ?_ ?_
                · unfold execOp
                  simp only [List.getElem_toArray, List.getElem_cons_succ, List.getElem_cons_zero, resolve, invoke, Sem.run_bind, List.map_toArray, List.map_cons, List.map_nil]
                  first | rfl | exact enters_of Tryz.func31 (by kernel_rfl) rfl _ _
                · exact (HW.out.leaves).mono fun e w' ⟨A, c, he, h1, h2⟩ => ⟨_, he, A, c, rfl, LvK.new h1 HW.out.glt, h2⟩
                rintro v wa ⟨A1, c1, rfl, hL1, hba⟩
                have HWa := Lib.hid (HW.out.below hba)
                have sa : wa.rangeAt bD 0 DA ∧ wa.rangeAt bE 0 DB := ⟨(HR.out.1.below hba HR.out.1.lt).range, (HR.out.2.below hba HR.out.2.lt).range⟩
                have HL1 := Lib.hid hL1
                have HRa := Lib.hid (And.intro (HR.out.1.below hba HR.out.1.lt) (HR.out.2.below hba HR.out.2.lt))
                clear hL1 hba
                refine ⟨sa, ?_⟩
                simp only [List.getElem_toArray, List.getElem_cons_succ, List.getElem_cons_zero, Act.put, List.setIfInBounds_toArray, List.set_cons_zero, List.set_cons_succ]
                refine anyH_one (i := 14) (by kernel_rfl) ?_
                refine st3_call rfl (by rfl) (f := 31) (vals := #[.pointer (some ⟨gb, 0, none⟩)]) (Z := fun v w' => ∃ A c, v = .slice A 13 c ∧ LvK gb A (leavesL vb) w' ∧ Below wa.heap.size wa w') ?_ ?_ ?_
                · unfold execOp
                  simp only [List.getElem_toArray, List.getElem_cons_succ, List.getElem_cons_zero, resolve, invoke, Sem.run_bind, List.map_toArray, List.map_cons, List.map_nil]
                  first | rfl | exact enters_of Tryz.func31 (by kernel_rfl) rfl _ _
                · exact (HWa.out.swap.leaves).mono fun e w' ⟨A, c, he, h1, h2⟩ => ⟨_, he, A, c, rfl, LvK.new h1 HWa.out.swap.glt, h2⟩
                rintro v wb ⟨A2, c2, rfl, hL2, hbb⟩
                have HWb := Lib.hid (HWa.out.below hbb)
                have sb : wb.rangeAt bD 0 DA ∧ wb.rangeAt bE 0 DB := ⟨(HRa.out.1.below hbb HRa.out.1.lt).range, (HRa.out.2.below hbb HRa.out.2.lt).range⟩
                have HLL := Lib.hid (And.intro (HL1.out.below hbb) hL2)
                have HRb := Lib.hid (And.intro (HRa.out.1.below hbb HRa.out.1.lt) (HRa.out.2.below hbb HRa.out.2.lt))
                clear hL2 hbb
                refine ⟨sb, ?_⟩
                simp only [List.getElem_toArray, List.getElem_cons_succ, List.getElem_cons_zero, Act.put, List.setIfInBounds_toArray, List.set_cons_zero, List.set_cons_succ]
                refine anyH_one (i := 15) (by kernel_rfl) ?_
                refine st3_call rfl (by rfl) (f := 17) (vals := #[.slice A1 13 c1, .slice A2 13 c2]) (Z := fun v w' => v = .bool E1 ∧ Below wb.heap.size wb w') ?_ ?_ ?_
                · unfold execOp
                  simp only [List.getElem_toArray, List.getElem_cons_succ, List.getElem_cons_zero, resolve, invoke, Sem.run_bind, List.map_toArray, List.map_cons, List.map_nil]
                  first | rfl | exact enters_of Tryz.func17 (by kernel_rfl) rfl _ _
                · exact (lvk_same2 HLL.out.1 HLL.out.2 (leavesL_len va) (leavesL_len vb) (leaves_max Hok.out.1) (leaves_max Hok.out.2)).mono fun e w' ⟨he, h2⟩ => ⟨_, he, by rw [HV.out.2.2.2.1 rfl], h2⟩
                rintro v wc ⟨rfl, hbc⟩
                have HWc := Lib.hid (HWb.out.below hbc)
                have sc : wc.rangeAt bD 0 DA ∧ wc.rangeAt bE 0 DB := ⟨(HRb.out.1.below hbc HRb.out.1.lt).range, (HRb.out.2.below hbc HRb.out.2.lt).range⟩
                clear hbc
                refine ⟨sc, ?_⟩
                simp only [List.getElem_toArray, List.getElem_cons_succ, List.getElem_cons_zero, Act.put, List.setIfInBounds_toArray, List.set_cons_zero, List.set_cons_succ]
                have hEE : (E1 == E1) = true := beq_self_eq_true E1
                refine anyH_take (i := 16) (d := 101) (v := ?k1c16) rfl rfl (by kernel_rfl) (by kernel_rfl) (by kernel_rfl) (fun _ _ _ h => h) (Or.inl ⟨by rfl, ?k1cy16⟩) sc ?k1cr16
                case k1cy16 => (intro w; have hq0 := hEE; go_simp; try with_reducible rfl)
                simp only [List.setIfInBounds_toArray, List.set_cons_zero, List.set_cons_succ]
                refine anyH_take (i := 17) (d := 102) (v := ?k1c17) rfl rfl (by kernel_rfl) (by kernel_rfl) (by kernel_rfl) (fun _ _ _ h => h) (Or.inl ⟨by rfl, ?k1cy17⟩) sc ?k1cr17
                case k1cy17 => (intro w; go_simp; try with_reducible rfl)
                simp only [List.setIfInBounds_toArray, List.set_cons_zero, List.set_cons_succ]
                refine anyH_take (i := 18) (d := 103) (v := ?k1c18) rfl rfl (by kernel_rfl) (by kernel_rfl) (by kernel_rfl) (fun _ _ _ h => h) (Or.inl ⟨by rfl, ?k1cy18⟩) sc ?k1cr18
                case k1cy18 => (intro w; go_simp; try with_reducible rfl)
                simp only [List.setIfInBounds_toArray, List.set_cons_zero, List.set_cons_succ]
                refine anyH_take (i := 19) (d := 4) (v := ?k1c19) rfl rfl (by kernel_rfl) (by kernel_rfl) (by kernel_rfl) (fun _ _ _ h => h) (Or.inl ⟨by rfl, ?k1cy19⟩) sc ?k1cr19
                case k1cy19 => (intro w; go_simp; try with_reducible rfl)
                simp only [List.setIfInBounds_toArray, List.set_cons_zero, List.set_cons_succ]
                refine wpAnyH_done (by kernel_rfl) ?_ _
                go_wp2
                go_ret
                exact ⟨rfl, HWc.out.bel⟩
              · skip
                skip
                refine anyH_take (i := 7) (d := 92) (v := ?k1d7) rfl rfl (by kernel_rfl) (by kernel_rfl) (by kernel_rfl) (fun _ _ _ h => h) (Or.inl ⟨by rfl, ?k1dy7⟩) s0 ?k1dr7
                case k1dy7 => (intro w; go_simp; try with_reducible rfl)
                simp only [List.setIfInBounds_toArray, List.set_cons_zero, List.set_cons_succ]
                refine anyH_take (i := 8) (d := 93) (v := undef) rfl rfl (by kernel_rfl) (by kernel_rfl) (by kernel_rfl) (fun _ _ _ h => h) (Or.inr ⟨by rfl, rfl⟩) s0 ?_
                simp only [List.setIfInBounds_toArray, List.set_cons_zero, List.set_cons_succ]
                refine anyH_take (i := 9) (d := 94) (v := undef) rfl rfl (by kernel_rfl) (by kernel_rfl) (by kernel_rfl) (fun _ _ _ h => h) (Or.inr ⟨by rfl, rfl⟩) s0 ?_
                simp only [List.setIfInBounds_toArray, List.set_cons_zero, List.set_cons_succ]
                refine anyH_take (i := 10) (d := 95) (v := undef) rfl rfl (by kernel_rfl) (by kernel_rfl) (by kernel_rfl) (fun _ _ _ h => h) (Or.inr ⟨by rfl, rfl⟩) s0 ?_
                simp only [List.setIfInBounds_toArray, List.set_cons_zero, List.set_cons_succ]
                refine anyH_take (i := 11) (d := 96) (v := undef) rfl rfl (by kernel_rfl) (by kernel_rfl) (by kernel_rfl) (fun _ _ _ h => h) (Or.inr ⟨by rfl, rfl⟩) s0 ?_
                simp only [List.setIfInBounds_toArray, List.set_cons_zero, List.set_cons_succ]
                refine anyH_take (i := 12) (d := 97) (v := undef) rfl rfl (by kernel_rfl) (by kernel_rfl) (by kernel_rfl) (fun _ _ _ h => h) (Or.inr ⟨by rfl, rfl⟩) s0 ?_
                simp only [List.setIfInBounds_toArray, List.set_cons_zero, List.set_cons_succ]
                refine anyH_take (i := 13) (d := 98) (v := undef) rfl rfl (by kernel_rfl) (by kernel_rfl) (by kernel_rfl) (fun _ _ _ h => h) (Or.inr ⟨by rfl, rfl⟩) s0 ?_
                simp only [List.setIfInBounds_toArray, List.set_cons_zero, List.set_cons_succ]
                refine anyH_take (i := 14) (d := 99) (v := undef) rfl rfl (by kernel_rfl) (by kernel_rfl) (by kernel_rfl) (fun _ _ _ h => h) (Or.inr ⟨by rfl, rfl⟩) s0 ?_
                simp only [List.setIfInBounds_toArray, List.set_cons_zero, List.set_cons_succ]
                refine anyH_take (i := 15) (d := 100) (v := undef) rfl rfl (by kernel_rfl) (by kernel_rfl) (by kernel_rfl) (fun _ _ _ h => h) (Or.inr ⟨by rfl, rfl⟩) s0 ?_
                simp only [List.setIfInBounds_toArray, List.set_cons_zero, List.set_cons_succ]
                refine anyH_take (i := 16) (d := 101) (v := undef) rfl rfl (by kernel_rfl) (by kernel_rfl) (by kernel_rfl) (fun _ _ _ h => h) (Or.inr ⟨by rfl, rfl⟩) s0 ?_
                simp only [List.setIfInBounds_toArray, List.set_cons_zero, List.set_cons_succ]
                refine anyH_take (i := 17) (d := 102) (v := ?k1d17) rfl rfl (by kernel_rfl) (by kernel_rfl) (by kernel_rfl) (fun _ _ _ h => h) (Or.inl ⟨by rfl, ?k1dy17⟩) s0 ?k1dr17
                case k1dy17 => (intro w; go_simp; try with_reducible rfl)
                simp only [List.setIfInBounds_toArray, List.set_cons_zero, List.set_cons_succ]
                refine anyH_take (i := 18) (d := 103) (v := ?k1d18) rfl rfl (by kernel_rfl) (by kernel_rfl) (by kernel_rfl) (fun _ _ _ h => h) (Or.inl ⟨by rfl, ?k1dy18⟩) s0 ?k1dr18
                case k1dy18 => (intro w; go_simp; try with_reducible rfl)
                simp only [List.setIfInBounds_toArray, List.set_cons_zero, List.set_cons_succ]
                refine anyH_take (i := 19) (d := 4) (v := ?k1d19) rfl rfl (by kernel_rfl) (by kernel_rfl) (by kernel_rfl) (fun _ _ _ h => h) (Or.inl ⟨by rfl, ?k1dy19⟩) s0 ?k1dr19
                case k1dy19 => (intro w; go_simp; try with_reducible rfl)
                simp only [List.setIfInBounds_toArray, List.set_cons_zero, List.set_cons_succ]
                refine wpAnyH_done (by kernel_rfl) ?_ _
                go_wp2
                go_ret
                exact ⟨rfl, HW.out.bel⟩
          · have p1 : ¬ (k : Int) < (nm : Int) := by omega
            have Hok := Lib.hid (And.intro HI.out.1.ok HI.out.1.swap.ok)
            have hr1 := HI.out.1.rooted (by have := HI0.out.2.2; omega)
            obtain ⟨DA, hDA⟩ : ∃ DA, cbs (rootB va) = DA := ⟨_, rfl⟩
            obtain ⟨DB, hDB⟩ : ∃ DB, cbs (rootB vb) = DB := ⟨_, rfl⟩
            rw [hDA] at hr1
            have hlA : DA.length = 32 := by rw [← hDA, cbs_length, rootB_len]
            have hlB : DB.length = 32 := by rw [← hDB, cbs_length, rootB_len]
            have hoA : DA.toArray.all (·.oneCell') = true := by rw [← hDA]; exact cbs_one' _
            have hoB : DB.toArray.all (·.oneCell') = true := by rw [← hDB]; exact cbs_one' _
            have hsl1 := rootS_len va s2
            have heq0 : ∀ w', (Op.equalIn 10000 59 (.agg DA.toArray) (.agg DB.toArray)).run Tryz.prog w' = .ok (rootB va == rootB vb) w' := fun w' => by rw [← hDA, ← hDB]; exact eq_digests w' _ _ (rootB_len va) (rootB_len vb)
            have Hr1 := Lib.hid hr1
            have HD := Lib.hid (And.intro hDB (And.intro hlA (And.intro hlB (And.intro hoA (And.intro hoB (And.intro heq0 hsl1))))))
            clear hr1 hDA hDB hlA hlB hoA hoB hsl1 heq0
            go_wp2_with fail
            refine Hr1.out.mono ?_
            rintro e w5 ⟨rfl, hv⟩
            obtain ⟨w6, hw6, q1, q2, q2', q3, hb6⟩ := dg_var w5 HD.out.2.1
            have hr2 := hv.swap.rootedK hb6 q3 (Nat.le_refl _) (by have := HI0.out.2.2; have := HD.out.2.2.2.2.2.2; omega)
            rw [HD.out.1] at hr2
            have Hr2 := Lib.hid hr2
            have H6 := Lib.hid (And.intro hw6 (And.intro q1 (And.intro q2 q2')))
            clear hv hw6 q1 q2 q2' q3 hb6 hr2 Hr1
            go_wp2_with (refine wpList_store_mid rfl 59 _ _ rfl w5.heap.size 0 DA.toArray rfl rfl H6.out.2.1 H6.out.2.2.1 HD.out.2.2.2.1 ?_; simp only [Act.put]; refine cast (congrArg (fun z => wpList _ _ _ _ _ z) H6.out.1.symm) ?_)
            refine Hr2.out.mono ?_
            rintro e w7 ⟨rfl, hv, hBA⟩
            obtain ⟨w8, hw8, q1, q2, q3', q3, hb8⟩ := dg_var w7 HD.out.2.2.1
            have V8 := hv.swap.below hb8
            have BA8 := hBA.below hb8 hBA.lt
            obtain ⟨cl, hcl⟩ : ∃ cl : Bool, (rootS vb (rootS va s2)).2.1 = cl := ⟨_, rfl⟩
            obtain ⟨E1, hE1⟩ : ∃ E1, (rootB va == rootB vb) = E1 := ⟨_, rfl⟩
            have hsame : cl = false → decide (leavesL va = leavesL vb) = E1 := fun e => by rw [← hE1]; exact (root_same s2 HI0.out.2.1 va vb Hok.out.1 Hok.out.2 (by rw [hcl, e])).symm
            have heq : ∀ w', (Op.equalIn 10000 59 (.agg DA.toArray) (.agg DB.toArray)).run Tryz.prog w' = .ok E1 w' := fun w' => by rw [← hE1]; exact HD.out.2.2.2.2.2.1 w'
            have HQ := Lib.hid (And.intro hw8 (And.intro q1 (And.intro q2 (And.intro H6.out.2.2.2 q3'))))
            have HV := Lib.hid (And.intro V8 (And.intro BA8 (And.intro q3 (And.intro hsame hcl))))
            clear hw8 q1 q2 q3' q3 hb8 V8 BA8 hcl hE1 hsame hv hBA Hr2
            generalize w5.heap.size = bD at *
            go_wp2_with (refine wpList_store_mid rfl 59 _ _ rfl w7.heap.size 0 DB.toArray rfl rfl HQ.out.2.1 HQ.out.2.2.1 HD.out.2.2.2.2.1 ?_; simp only [Act.put]; refine cast (congrArg (fun z => wpList _ _ _ _ _ z) HQ.out.1.symm) ?_)
            generalize w7.heap.size = bE at *
            obtain ⟨w9, hw9⟩ : ∃ W, w8.drew = W := ⟨_, rfl⟩
            have hd9 : Below w8.heap.size w8 w9 := by rw [← hw9]; exact (Below.refl _ _).drew
            have HW := Lib.hid (HV.out.1.below hd9)
            have HR := Lib.hid (And.intro (HV.out.2.1.below hd9 HV.out.2.1.lt) (HV.out.2.2.1.below hd9 HV.out.2.2.1.lt))
            have R1 := (HV.out.2.1.below hd9 HV.out.2.1.lt).range
            have R2 := (HV.out.2.2.1.below hd9 HV.out.2.2.1.lt).range
            have s0 := And.intro R1 R2
            refine wp_region_held_drew (S := (fun W : World => W.rangeAt bD 0 DA ∧ W.rangeAt bE 0 DB)) (by kernel_rfl) (by rw [hw9]; exact s0) (fun _ => ?_)
            rw [hw9]
            clear hw9 hd9 R1 R2
            refine anyH_take (i := 0) (d := 85) (v := ?k2a0) rfl rfl (by kernel_rfl) (by kernel_rfl) (by kernel_rfl) (fun _ _ _ h => h) (Or.inl ⟨by rfl, ?k2ay0⟩) s0 ?k2ar0
            case k2ay0 => (intro w; go_simp; try with_reducible rfl)
            simp only [List.setIfInBounds_toArray, List.set_cons_zero, List.set_cons_succ]
            refine anyH_take (i := 1) (d := 86) (v := ?k2a1) rfl rfl (by kernel_rfl) (by kernel_rfl) (by kernel_rfl) (fun _ _ _ h => h) (Or.inl ⟨by rfl, ?k2ay1⟩) s0 ?k2ar1
            case k2ay1 => (intro w; go_simp; try with_reducible rfl)
            simp only [List.setIfInBounds_toArray, List.set_cons_zero, List.set_cons_succ]
            refine anyH_take (i := 2) (d := 87) (v := ?k2a2) rfl rfl (by kernel_rfl) (by kernel_rfl) (by kernel_rfl) (fun _ _ _ h => h) (Or.inl ⟨by rfl, ?k2ay2⟩) s0 ?k2ar2
            case k2ay2 => (intro w; go_simp; try with_reducible rfl)
            simp only [List.setIfInBounds_toArray, List.set_cons_zero, List.set_cons_succ]
            refine anyH_take (i := 3) (d := 88) (v := ?k2a3) rfl rfl (by kernel_rfl) (by kernel_rfl) (by kernel_rfl) (fun _ _ _ h => h) (Or.inl ⟨by rfl, ?k2ay3⟩) s0 ?k2ar3
            case k2ay3 => (intro w; go_simp; try with_reducible rfl)
            simp only [List.setIfInBounds_toArray, List.set_cons_zero, List.set_cons_succ]
            refine anyH_take (i := 4) (d := 89) (v := ?k2a4) rfl rfl (by kernel_rfl) (by kernel_rfl) (by kernel_rfl) (fun _ _ _ h => h) (Or.inl ⟨by rfl, ?k2ay4⟩) s0 ?k2ar4
            case k2ay4 => (intro w; go_simp; try with_reducible rfl)
            simp only [List.setIfInBounds_toArray, List.set_cons_zero, List.set_cons_succ]
            refine anyH_take (i := 5) (d := 90) (v := ?k2a5) rfl rfl (by kernel_rfl) (by kernel_rfl) (by kernel_rfl) (fun _ _ _ h => h) (Or.inl ⟨by rfl, ?k2ay5⟩) s0 ?k2ar5
            case k2ay5 => (intro w; go_simp; try with_reducible rfl)
            simp only [List.setIfInBounds_toArray, List.set_cons_zero, List.set_cons_succ]
            refine anyH_one (i := 6) (by kernel_rfl) ?_
            refine st3_call rfl (by rfl) (f := 38) (vals := #[.pointer (some ⟨gk, 0, none⟩)]) (Z := fun v w' => v = .bool cl ∧ w' = w9) ?_ ?_ ?_
            · unfold execOp
              simp only [List.getElem_toArray, List.getElem_cons_succ, List.getElem_cons_zero, resolve, invoke, Sem.run_bind, List.map_toArray, List.map_cons, List.map_nil]
              first | rfl | exact enters_of Tryz.func38 (by kernel_rfl) rfl _ _
            · exact (HW.out.clash).mono fun e w' ⟨he, h2⟩ => ⟨_, by rw [he, HV.out.2.2.2.2], rfl, h2⟩
            rintro v w' ⟨rfl, hww⟩
            have hww2 := hww.symm
            subst hww2
            clear hww
            refine ⟨s0, ?_⟩
            simp only [List.getElem_toArray, List.getElem_cons_succ, List.getElem_cons_zero, Act.put, List.setIfInBounds_toArray, List.set_cons_zero, List.set_cons_succ]
            cases cl
            · skip
              skip
              refine anyH_take (i := 7) (d := 92) (v := ?k2b7) rfl rfl (by kernel_rfl) (by kernel_rfl) (by kernel_rfl) (fun _ _ _ h => h) (Or.inl ⟨by rfl, ?k2by7⟩) s0 ?k2br7
              case k2by7 => (intro w; go_simp; try with_reducible rfl)
              simp only [List.setIfInBounds_toArray, List.set_cons_zero, List.set_cons_succ]
              refine anyH_load (i := 8) (d := 93) rfl rfl (by kernel_rfl) (by kernel_rfl) (by kernel_rfl) (by rfl) 59 _ rfl bD 0 rfl DA _ (fun W hSW => hSW.1) Tryz.underlying59 rfl HQ.out.2.2.2.1 (fun _ _ _ h => h) s0 ?_
              simp only [List.setIfInBounds_toArray, List.set_cons_zero, List.set_cons_succ]
              refine anyH_load (i := 9) (d := 94) rfl rfl (by kernel_rfl) (by kernel_rfl) (by kernel_rfl) (by rfl) 59 _ rfl bE 0 rfl DB _ (fun W hSW => hSW.2) Tryz.underlying59 rfl HQ.out.2.2.2.2 (fun _ _ _ h => h) s0 ?_
              simp only [List.setIfInBounds_toArray, List.set_cons_zero, List.set_cons_succ]
              refine anyH_take (i := 10) (d := 95) (v := ?k2b10) rfl rfl (by kernel_rfl) (by kernel_rfl) (by kernel_rfl) (fun _ _ _ h => h) (Or.inl ⟨by rfl, ?k2by10⟩) s0 ?k2br10
              case k2by10 => (intro w; have hq0 := heq w; go_simp; try with_reducible rfl)
              simp only [List.setIfInBounds_toArray, List.set_cons_zero, List.set_cons_succ]
              refine anyH_take (i := 11) (d := 96) (v := ?k2b11) rfl rfl (by kernel_rfl) (by kernel_rfl) (by kernel_rfl) (fun _ _ _ h => h) (Or.inl ⟨by rfl, ?k2by11⟩) s0 ?k2br11
              case k2by11 => (intro w; go_simp; try with_reducible rfl)
              simp only [List.setIfInBounds_toArray, List.set_cons_zero, List.set_cons_succ]
              refine anyH_take (i := 13) (d := 98) (v := ?k2b13) rfl rfl (by kernel_rfl) (by kernel_rfl) (by kernel_rfl) (fun _ _ _ h => h) (Or.inl ⟨by rfl, ?k2by13⟩) s0 ?k2br13
              case k2by13 => (intro w; go_simp; try with_reducible rfl)
              simp only [List.setIfInBounds_toArray, List.set_cons_zero, List.set_cons_succ]
              refine anyH_one (i := 12) (by kernel_rfl) ?_
              refine st3_call rfl (by rfl) (f := 31) (vals := #[.pointer (some ⟨ga, 0, none⟩)]) (Z := fun v w' => ∃ A c, v = .slice A 13 c ∧ LvK ga A (leavesL va) w' ∧ Below w9.heap.size w9 w') ?_ ?_ ?_
              · unfold execOp
                simp only [List.getElem_toArray, List.getElem_cons_succ, List.getElem_cons_zero, resolve, invoke, Sem.run_bind, List.map_toArray, List.map_cons, List.map_nil]
                first | rfl | exact enters_of Tryz.func31 (by kernel_rfl) rfl _ _
              · exact (HW.out.leaves).mono fun e w' ⟨A, c, he, h1, h2⟩ => ⟨_, he, A, c, rfl, LvK.new h1 HW.out.glt, h2⟩
              rintro v wa ⟨A1, c1, rfl, hL1, hba⟩
              have HWa := Lib.hid (HW.out.below hba)
              have sa : wa.rangeAt bD 0 DA ∧ wa.rangeAt bE 0 DB := ⟨(HR.out.1.below hba HR.out.1.lt).range, (HR.out.2.below hba HR.out.2.lt).range⟩
              have HL1 := Lib.hid hL1
              have HRa := Lib.hid (And.intro (HR.out.1.below hba HR.out.1.lt) (HR.out.2.below hba HR.out.2.lt))
              clear hL1 hba
              refine ⟨sa, ?_⟩
              simp only [List.getElem_toArray, List.getElem_cons_succ, List.getElem_cons_zero, Act.put, List.setIfInBounds_toArray, List.set_cons_zero, List.set_cons_succ]
              refine anyH_one (i := 14) (by kernel_rfl) ?_
              refine st3_call rfl (by rfl) (f := 31) (vals := #[.pointer (some ⟨gb, 0, none⟩)]) (Z := fun v w' => ∃ A c, v = .slice A 13 c ∧ LvK gb A (leavesL vb) w' ∧ Below wa.heap.size wa w') ?_ ?_ ?_
              · unfold execOp
                simp only [List.getElem_toArray, List.getElem_cons_succ, List.getElem_cons_zero, resolve, invoke, Sem.run_bind, List.map_toArray, List.map_cons, List.map_nil]
                first | rfl | exact enters_of Tryz.func31 (by kernel_rfl) rfl _ _
              · exact (HWa.out.swap.leaves).mono fun e w' ⟨A, c, he, h1, h2⟩ => ⟨_, he, A, c, rfl, LvK.new h1 HWa.out.swap.glt, h2⟩
              rintro v wb ⟨A2, c2, rfl, hL2, hbb⟩
              have HWb := Lib.hid (HWa.out.below hbb)
              have sb : wb.rangeAt bD 0 DA ∧ wb.rangeAt bE 0 DB := ⟨(HRa.out.1.below hbb HRa.out.1.lt).range, (HRa.out.2.below hbb HRa.out.2.lt).range⟩
              have HLL := Lib.hid (And.intro (HL1.out.below hbb) hL2)
              have HRb := Lib.hid (And.intro (HRa.out.1.below hbb HRa.out.1.lt) (HRa.out.2.below hbb HRa.out.2.lt))
              clear hL2 hbb
              refine ⟨sb, ?_⟩
              simp only [List.getElem_toArray, List.getElem_cons_succ, List.getElem_cons_zero, Act.put, List.setIfInBounds_toArray, List.set_cons_zero, List.set_cons_succ]
              refine anyH_one (i := 15) (by kernel_rfl) ?_
              refine st3_call rfl (by rfl) (f := 17) (vals := #[.slice A1 13 c1, .slice A2 13 c2]) (Z := fun v w' => v = .bool E1 ∧ Below wb.heap.size wb w') ?_ ?_ ?_
              · unfold execOp
                simp only [List.getElem_toArray, List.getElem_cons_succ, List.getElem_cons_zero, resolve, invoke, Sem.run_bind, List.map_toArray, List.map_cons, List.map_nil]
                first | rfl | exact enters_of Tryz.func17 (by kernel_rfl) rfl _ _
              · exact (lvk_same2 HLL.out.1 HLL.out.2 (leavesL_len va) (leavesL_len vb) (leaves_max Hok.out.1) (leaves_max Hok.out.2)).mono fun e w' ⟨he, h2⟩ => ⟨_, he, by rw [HV.out.2.2.2.1 rfl], h2⟩
              rintro v wc ⟨rfl, hbc⟩
              have HWc := Lib.hid (HWb.out.below hbc)
              have sc : wc.rangeAt bD 0 DA ∧ wc.rangeAt bE 0 DB := ⟨(HRb.out.1.below hbc HRb.out.1.lt).range, (HRb.out.2.below hbc HRb.out.2.lt).range⟩
              clear hbc
              refine ⟨sc, ?_⟩
              simp only [List.getElem_toArray, List.getElem_cons_succ, List.getElem_cons_zero, Act.put, List.setIfInBounds_toArray, List.set_cons_zero, List.set_cons_succ]
              have hEE : (E1 == E1) = true := beq_self_eq_true E1
              refine anyH_take (i := 16) (d := 101) (v := ?k2c16) rfl rfl (by kernel_rfl) (by kernel_rfl) (by kernel_rfl) (fun _ _ _ h => h) (Or.inl ⟨by rfl, ?k2cy16⟩) sc ?k2cr16
              case k2cy16 => (intro w; have hq0 := hEE; go_simp; try with_reducible rfl)
              simp only [List.setIfInBounds_toArray, List.set_cons_zero, List.set_cons_succ]
              refine anyH_take (i := 17) (d := 102) (v := ?k2c17) rfl rfl (by kernel_rfl) (by kernel_rfl) (by kernel_rfl) (fun _ _ _ h => h) (Or.inl ⟨by rfl, ?k2cy17⟩) sc ?k2cr17
              case k2cy17 => (intro w; go_simp; try with_reducible rfl)
              simp only [List.setIfInBounds_toArray, List.set_cons_zero, List.set_cons_succ]
              refine anyH_take (i := 18) (d := 103) (v := ?k2c18) rfl rfl (by kernel_rfl) (by kernel_rfl) (by kernel_rfl) (fun _ _ _ h => h) (Or.inl ⟨by rfl, ?k2cy18⟩) sc ?k2cr18
              case k2cy18 => (intro w; go_simp; try with_reducible rfl)
              simp only [List.setIfInBounds_toArray, List.set_cons_zero, List.set_cons_succ]
              refine anyH_take (i := 19) (d := 4) (v := ?k2c19) rfl rfl (by kernel_rfl) (by kernel_rfl) (by kernel_rfl) (fun _ _ _ h => h) (Or.inl ⟨by rfl, ?k2cy19⟩) sc ?k2cr19
              case k2cy19 => (intro w; go_simp; try with_reducible rfl)
              simp only [List.setIfInBounds_toArray, List.set_cons_zero, List.set_cons_succ]
              refine wpAnyH_done (by kernel_rfl) ?_ _
              go_wp2
              go_ret
              exact ⟨rfl, HWc.out.bel⟩
            · skip
              skip
              refine anyH_take (i := 7) (d := 92) (v := ?k2d7) rfl rfl (by kernel_rfl) (by kernel_rfl) (by kernel_rfl) (fun _ _ _ h => h) (Or.inl ⟨by rfl, ?k2dy7⟩) s0 ?k2dr7
              case k2dy7 => (intro w; go_simp; try with_reducible rfl)
              simp only [List.setIfInBounds_toArray, List.set_cons_zero, List.set_cons_succ]
              refine anyH_take (i := 8) (d := 93) (v := undef) rfl rfl (by kernel_rfl) (by kernel_rfl) (by kernel_rfl) (fun _ _ _ h => h) (Or.inr ⟨by rfl, rfl⟩) s0 ?_
              simp only [List.setIfInBounds_toArray, List.set_cons_zero, List.set_cons_succ]
              refine anyH_take (i := 9) (d := 94) (v := undef) rfl rfl (by kernel_rfl) (by kernel_rfl) (by kernel_rfl) (fun _ _ _ h => h) (Or.inr ⟨by rfl, rfl⟩) s0 ?_
              simp only [List.setIfInBounds_toArray, List.set_cons_zero, List.set_cons_succ]
              refine anyH_take (i := 10) (d := 95) (v := undef) rfl rfl (by kernel_rfl) (by kernel_rfl) (by kernel_rfl) (fun _ _ _ h => h) (Or.inr ⟨by rfl, rfl⟩) s0 ?_
              simp only [List.setIfInBounds_toArray, List.set_cons_zero, List.set_cons_succ]
              refine anyH_take (i := 11) (d := 96) (v := undef) rfl rfl (by kernel_rfl) (by kernel_rfl) (by kernel_rfl) (fun _ _ _ h => h) (Or.inr ⟨by rfl, rfl⟩) s0 ?_
              simp only [List.setIfInBounds_toArray, List.set_cons_zero, List.set_cons_succ]
              refine anyH_take (i := 12) (d := 97) (v := undef) rfl rfl (by kernel_rfl) (by kernel_rfl) (by kernel_rfl) (fun _ _ _ h => h) (Or.inr ⟨by rfl, rfl⟩) s0 ?_
              simp only [List.setIfInBounds_toArray, List.set_cons_zero, List.set_cons_succ]
              refine anyH_take (i := 13) (d := 98) (v := undef) rfl rfl (by kernel_rfl) (by kernel_rfl) (by kernel_rfl) (fun _ _ _ h => h) (Or.inr ⟨by rfl, rfl⟩) s0 ?_
              simp only [List.setIfInBounds_toArray, List.set_cons_zero, List.set_cons_succ]
              refine anyH_take (i := 14) (d := 99) (v := undef) rfl rfl (by kernel_rfl) (by kernel_rfl) (by kernel_rfl) (fun _ _ _ h => h) (Or.inr ⟨by rfl, rfl⟩) s0 ?_
              simp only [List.setIfInBounds_toArray, List.set_cons_zero, List.set_cons_succ]
              refine anyH_take (i := 15) (d := 100) (v := undef) rfl rfl (by kernel_rfl) (by kernel_rfl) (by kernel_rfl) (fun _ _ _ h => h) (Or.inr ⟨by rfl, rfl⟩) s0 ?_
              simp only [List.setIfInBounds_toArray, List.set_cons_zero, List.set_cons_succ]
              refine anyH_take (i := 16) (d := 101) (v := undef) rfl rfl (by kernel_rfl) (by kernel_rfl) (by kernel_rfl) (fun _ _ _ h => h) (Or.inr ⟨by rfl, rfl⟩) s0 ?_
              simp only [List.setIfInBounds_toArray, List.set_cons_zero, List.set_cons_succ]
              refine anyH_take (i := 17) (d := 102) (v := ?k2d17) rfl rfl (by kernel_rfl) (by kernel_rfl) (by kernel_rfl) (fun _ _ _ h => h) (Or.inl ⟨by rfl, ?k2dy17⟩) s0 ?k2dr17
              case k2dy17 => (intro w; go_simp; try with_reducible rfl)
              simp only [List.setIfInBounds_toArray, List.set_cons_zero, List.set_cons_succ]
              refine anyH_take (i := 18) (d := 103) (v := ?k2d18) rfl rfl (by kernel_rfl) (by kernel_rfl) (by kernel_rfl) (fun _ _ _ h => h) (Or.inl ⟨by rfl, ?k2dy18⟩) s0 ?k2dr18
              case k2dy18 => (intro w; go_simp; try with_reducible rfl)
              simp only [List.setIfInBounds_toArray, List.set_cons_zero, List.set_cons_succ]
              refine anyH_take (i := 19) (d := 4) (v := ?k2d19) rfl rfl (by kernel_rfl) (by kernel_rfl) (by kernel_rfl) (fun _ _ _ h => h) (Or.inl ⟨by rfl, ?k2dy19⟩) s0 ?k2dr19
              case k2dy19 => (intro w; go_simp; try with_reducible rfl)
              simp only [List.setIfInBounds_toArray, List.set_cons_zero, List.set_cons_succ]
              refine wpAnyH_done (by kernel_rfl) ?_ _
              go_wp2
              go_ret
              exact ⟨rfl, HW.out.bel⟩
    · have p1 : ¬ (k : Int) < (nl : Int) := by omega
      have HA := HI
      clear HI
      go_wp2
      go_loopw [11] (fun iv wr => ∃ k : Nat, k ≤ 30 ∧ k ≤ nm ∧ iv = .int .i64 (k : Int) ∧ Hid (∃ vb, V2 w ga gb gk bm va vb s2 wr ∧ vb.gr = 1)) (fun iv _ => 30 - (intOf iv).toNat)
      case atStart => exact ⟨0, by omega, by omega, rfl, Lib.hid ⟨_, HA.out.1, rfl⟩⟩
      case round =>
        obtain ⟨k, hk, hkn, rfl, hE⟩ := hrel
        obtain ⟨vb, hI, hS⟩ := hE.out
        clear hE
        have HI := Lib.hid (And.intro hI hS)
        clear hI hS
        have p0 : (0 : Int) ≤ (k : Int) := by omega
        by_cases hin : k < nm
        · by_cases h60 : k < 30
          · skip
            have p1 : (k : Int) < (nm : Int) := by omega
            have p2 : (k : Int) < 30 := by omega
            have hkl : k < m.length := by rw [Hmn.out]; exact hin
            obtain ⟨sb, so, rfl, hlt, hc⟩ := Hm.out.2.2.2.1.at_ hkl
            have hwf := Hm.out.2.2.2.2 _ (List.getElem_mem hkl)
            have c0 := (HI.out.1.bel.cell (p := ⟨sb, so + k, none⟩) hlt).trans (hc k hkl)
            obtain ⟨n, hn⟩ : ∃ n, m[k] = n := ⟨_, rfl⟩
            rw [hn] at hwf c0
            have Hwi := Lib.hid (HI.out.1.swap.wish n ((1 : Int) + k) (bounds_i64 hwf) (by omega))
            have hw1 : IntKind.i64.wrap ((1 : Int) + k) = 1 + k := by rw [IntWalk.i64_in _ (by omega)]
            clear hlt hc hn hwf hkl
            go_wp2_with fail
            refine Hwi.out.mono ?_
            rintro e w5 ⟨x, D, nd, cd, N, nn, cn, rfl, hA, ⟨hx, _⟩, _, _, hb5⟩
            have hd := Lib.hid ((HI.out.1.swap.below hb5).do_ hA hx.may (hx.gr.trans HI.out.2.symm))
            clear hA hx hb5 Hwi c0
            go_wp2_with fail
            refine hd.out.mono ?_
            rintro e w7 ⟨A, m', c, rfl, hv⟩
            have HV := Lib.hid hv
            clear hv hd
            go_wp2
            go_roundw
            case rel => exact ⟨k + 1, by omega, by omega, by go_num, Lib.hid ⟨_, HV.out.swap, doS_keep.1.trans HI.out.2⟩⟩
            case measure => simp [intOf]; omega
          · have p1 : (k : Int) < (nm : Int) := by omega
            have p2 : ¬ (k : Int) < 30 := by omega
            have Hok := Lib.hid (And.intro HI.out.1.ok HI.out.1.swap.ok)
            have hr1 := HI.out.1.rooted (by have := HI0.out.2.2; omega)
            obtain ⟨DA, hDA⟩ : ∃ DA, cbs (rootB va) = DA := ⟨_, rfl⟩
            obtain ⟨DB, hDB⟩ : ∃ DB, cbs (rootB vb) = DB := ⟨_, rfl⟩
            rw [hDA] at hr1
            have hlA : DA.length = 32 := by rw [← hDA, cbs_length, rootB_len]
            have hlB : DB.length = 32 := by rw [← hDB, cbs_length, rootB_len]
            have hoA : DA.toArray.all (·.oneCell') = true := by rw [← hDA]; exact cbs_one' _
            have hoB : DB.toArray.all (·.oneCell') = true := by rw [← hDB]; exact cbs_one' _
            have hsl1 := rootS_len va s2
            have heq0 : ∀ w', (Op.equalIn 10000 59 (.agg DA.toArray) (.agg DB.toArray)).run Tryz.prog w' = .ok (rootB va == rootB vb) w' := fun w' => by rw [← hDA, ← hDB]; exact eq_digests w' _ _ (rootB_len va) (rootB_len vb)
            have Hr1 := Lib.hid hr1
            have HD := Lib.hid (And.intro hDB (And.intro hlA (And.intro hlB (And.intro hoA (And.intro hoB (And.intro heq0 hsl1))))))
            clear hr1 hDA hDB hlA hlB hoA hoB hsl1 heq0
            go_wp2_with fail
            refine Hr1.out.mono ?_
            rintro e w5 ⟨rfl, hv⟩
            obtain ⟨w6, hw6, q1, q2, q2', q3, hb6⟩ := dg_var w5 HD.out.2.1
            have hr2 := hv.swap.rootedK hb6 q3 (Nat.le_refl _) (by have := HI0.out.2.2; have := HD.out.2.2.2.2.2.2; omega)
            rw [HD.out.1] at hr2
            have Hr2 := Lib.hid hr2
            have H6 := Lib.hid (And.intro hw6 (And.intro q1 (And.intro q2 q2')))
            clear hv hw6 q1 q2 q2' q3 hb6 hr2 Hr1
            go_wp2_with (refine wpList_store_mid rfl 59 _ _ rfl w5.heap.size 0 DA.toArray rfl rfl H6.out.2.1 H6.out.2.2.1 HD.out.2.2.2.1 ?_; simp only [Act.put]; refine cast (congrArg (fun z => wpList _ _ _ _ _ z) H6.out.1.symm) ?_)
            refine Hr2.out.mono ?_
            rintro e w7 ⟨rfl, hv, hBA⟩
            obtain ⟨w8, hw8, q1, q2, q3', q3, hb8⟩ := dg_var w7 HD.out.2.2.1
            have V8 := hv.swap.below hb8
            have BA8 := hBA.below hb8 hBA.lt
            obtain ⟨cl, hcl⟩ : ∃ cl : Bool, (rootS vb (rootS va s2)).2.1 = cl := ⟨_, rfl⟩
            obtain ⟨E1, hE1⟩ : ∃ E1, (rootB va == rootB vb) = E1 := ⟨_, rfl⟩
            have hsame : cl = false → decide (leavesL va = leavesL vb) = E1 := fun e => by rw [← hE1]; exact (root_same s2 HI0.out.2.1 va vb Hok.out.1 Hok.out.2 (by rw [hcl, e])).symm
            have heq : ∀ w', (Op.equalIn 10000 59 (.agg DA.toArray) (.agg DB.toArray)).run Tryz.prog w' = .ok E1 w' := fun w' => by rw [← hE1]; exact HD.out.2.2.2.2.2.1 w'
            have HQ := Lib.hid (And.intro hw8 (And.intro q1 (And.intro q2 (And.intro H6.out.2.2.2 q3'))))
            have HV := Lib.hid (And.intro V8 (And.intro BA8 (And.intro q3 (And.intro hsame hcl))))
            clear hw8 q1 q2 q3' q3 hb8 V8 BA8 hcl hE1 hsame hv hBA Hr2
            generalize w5.heap.size = bD at *
            go_wp2_with (refine wpList_store_mid rfl 59 _ _ rfl w7.heap.size 0 DB.toArray rfl rfl HQ.out.2.1 HQ.out.2.2.1 HD.out.2.2.2.2.1 ?_; simp only [Act.put]; refine cast (congrArg (fun z => wpList _ _ _ _ _ z) HQ.out.1.symm) ?_)
            generalize w7.heap.size = bE at *
            obtain ⟨w9, hw9⟩ : ∃ W, w8.drew = W := ⟨_, rfl⟩
            have hd9 : Below w8.heap.size w8 w9 := by rw [← hw9]; exact (Below.refl _ _).drew
            have HW := Lib.hid (HV.out.1.below hd9)
            have HR := Lib.hid (And.intro (HV.out.2.1.below hd9 HV.out.2.1.lt) (HV.out.2.2.1.below hd9 HV.out.2.2.1.lt))
            have R1 := (HV.out.2.1.below hd9 HV.out.2.1.lt).range
            have R2 := (HV.out.2.2.1.below hd9 HV.out.2.2.1.lt).range
            have s0 := And.intro R1 R2
            refine wp_region_held_drew (S := (fun W : World => W.rangeAt bD 0 DA ∧ W.rangeAt bE 0 DB)) (by kernel_rfl) (by rw [hw9]; exact s0) (fun _ => ?_)
            rw [hw9]
            clear hw9 hd9 R1 R2
            refine anyH_take (i := 0) (d := 85) (v := ?k3a0) rfl rfl (by kernel_rfl) (by kernel_rfl) (by kernel_rfl) (fun _ _ _ h => h) (Or.inl ⟨by rfl, ?k3ay0⟩) s0 ?k3ar0
            case k3ay0 => (intro w; go_simp; try with_reducible rfl)
            simp only [List.setIfInBounds_toArray, List.set_cons_zero, List.set_cons_succ]
            refine anyH_take (i := 1) (d := 86) (v := ?k3a1) rfl rfl (by kernel_rfl) (by kernel_rfl) (by kernel_rfl) (fun _ _ _ h => h) (Or.inl ⟨by rfl, ?k3ay1⟩) s0 ?k3ar1
            case k3ay1 => (intro w; go_simp; try with_reducible rfl)
            simp only [List.setIfInBounds_toArray, List.set_cons_zero, List.set_cons_succ]
            refine anyH_take (i := 2) (d := 87) (v := ?k3a2) rfl rfl (by kernel_rfl) (by kernel_rfl) (by kernel_rfl) (fun _ _ _ h => h) (Or.inl ⟨by rfl, ?k3ay2⟩) s0 ?k3ar2
            case k3ay2 => (intro w; go_simp; try with_reducible rfl)
            simp only [List.setIfInBounds_toArray, List.set_cons_zero, List.set_cons_succ]
            refine anyH_take (i := 3) (d := 88) (v := ?k3a3) rfl rfl (by kernel_rfl) (by kernel_rfl) (by kernel_rfl) (fun _ _ _ h => h) (Or.inl ⟨by rfl, ?k3ay3⟩) s0 ?k3ar3
            case k3ay3 => (intro w; go_simp; try with_reducible rfl)
            simp only [List.setIfInBounds_toArray, List.set_cons_zero, List.set_cons_succ]
            refine anyH_take (i := 4) (d := 89) (v := ?k3a4) rfl rfl (by kernel_rfl) (by kernel_rfl) (by kernel_rfl) (fun _ _ _ h => h) (Or.inl ⟨by rfl, ?k3ay4⟩) s0 ?k3ar4
            case k3ay4 => (intro w; go_simp; try with_reducible rfl)
            simp only [List.setIfInBounds_toArray, List.set_cons_zero, List.set_cons_succ]
            refine anyH_take (i := 5) (d := 90) (v := ?k3a5) rfl rfl (by kernel_rfl) (by kernel_rfl) (by kernel_rfl) (fun _ _ _ h => h) (Or.inl ⟨by rfl, ?k3ay5⟩) s0 ?k3ar5
            case k3ay5 => (intro w; go_simp; try with_reducible rfl)
            simp only [List.setIfInBounds_toArray, List.set_cons_zero, List.set_cons_succ]
            refine anyH_one (i := 6) (by kernel_rfl) ?_
            refine st3_call rfl (by rfl) (f := 38) (vals := #[.pointer (some ⟨gk, 0, none⟩)]) (Z := fun v w' => v = .bool cl ∧ w' = w9) ?_ ?_ ?_
            · unfold execOp
              simp only [List.getElem_toArray, List.getElem_cons_succ, List.getElem_cons_zero, resolve, invoke, Sem.run_bind, List.map_toArray, List.map_cons, List.map_nil]
              first | rfl | exact enters_of Tryz.func38 (by kernel_rfl) rfl _ _
            · exact (HW.out.clash).mono fun e w' ⟨he, h2⟩ => ⟨_, by rw [he, HV.out.2.2.2.2], rfl, h2⟩
            rintro v w' ⟨rfl, hww⟩
            have hww2 := hww.symm
            subst hww2
            clear hww
            refine ⟨s0, ?_⟩
            simp only [List.getElem_toArray, List.getElem_cons_succ, List.getElem_cons_zero, Act.put, List.setIfInBounds_toArray, List.set_cons_zero, List.set_cons_succ]
            cases cl
            · skip
              skip
              refine anyH_take (i := 7) (d := 92) (v := ?k3b7) rfl rfl (by kernel_rfl) (by kernel_rfl) (by kernel_rfl) (fun _ _ _ h => h) (Or.inl ⟨by rfl, ?k3by7⟩) s0 ?k3br7
              case k3by7 => (intro w; go_simp; try with_reducible rfl)
              simp only [List.setIfInBounds_toArray, List.set_cons_zero, List.set_cons_succ]
              refine anyH_load (i := 8) (d := 93) rfl rfl (by kernel_rfl) (by kernel_rfl) (by kernel_rfl) (by rfl) 59 _ rfl bD 0 rfl DA _ (fun W hSW => hSW.1) Tryz.underlying59 rfl HQ.out.2.2.2.1 (fun _ _ _ h => h) s0 ?_
              simp only [List.setIfInBounds_toArray, List.set_cons_zero, List.set_cons_succ]
              refine anyH_load (i := 9) (d := 94) rfl rfl (by kernel_rfl) (by kernel_rfl) (by kernel_rfl) (by rfl) 59 _ rfl bE 0 rfl DB _ (fun W hSW => hSW.2) Tryz.underlying59 rfl HQ.out.2.2.2.2 (fun _ _ _ h => h) s0 ?_
              simp only [List.setIfInBounds_toArray, List.set_cons_zero, List.set_cons_succ]
              refine anyH_take (i := 10) (d := 95) (v := ?k3b10) rfl rfl (by kernel_rfl) (by kernel_rfl) (by kernel_rfl) (fun _ _ _ h => h) (Or.inl ⟨by rfl, ?k3by10⟩) s0 ?k3br10
              case k3by10 => (intro w; have hq0 := heq w; go_simp; try with_reducible rfl)
              simp only [List.setIfInBounds_toArray, List.set_cons_zero, List.set_cons_succ]
              refine anyH_take (i := 11) (d := 96) (v := ?k3b11) rfl rfl (by kernel_rfl) (by kernel_rfl) (by kernel_rfl) (fun _ _ _ h => h) (Or.inl ⟨by rfl, ?k3by11⟩) s0 ?k3br11
              case k3by11 => (intro w; go_simp; try with_reducible rfl)
              simp only [List.setIfInBounds_toArray, List.set_cons_zero, List.set_cons_succ]
              refine anyH_take (i := 13) (d := 98) (v := ?k3b13) rfl rfl (by kernel_rfl) (by kernel_rfl) (by kernel_rfl) (fun _ _ _ h => h) (Or.inl ⟨by rfl, ?k3by13⟩) s0 ?k3br13
              case k3by13 => (intro w; go_simp; try with_reducible rfl)
              simp only [List.setIfInBounds_toArray, List.set_cons_zero, List.set_cons_succ]
              refine anyH_one (i := 12) (by kernel_rfl) ?_
              refine st3_call rfl (by rfl) (f := 31) (vals := #[.pointer (some ⟨ga, 0, none⟩)]) (Z := fun v w' => ∃ A c, v = .slice A 13 c ∧ LvK ga A (leavesL va) w' ∧ Below w9.heap.size w9 w') ?_ ?_ ?_
              · unfold execOp
                simp only [List.getElem_toArray, List.getElem_cons_succ, List.getElem_cons_zero, resolve, invoke, Sem.run_bind, List.map_toArray, List.map_cons, List.map_nil]
                first | rfl | exact enters_of Tryz.func31 (by kernel_rfl) rfl _ _
              · exact (HW.out.leaves).mono fun e w' ⟨A, c, he, h1, h2⟩ => ⟨_, he, A, c, rfl, LvK.new h1 HW.out.glt, h2⟩
              rintro v wa ⟨A1, c1, rfl, hL1, hba⟩
              have HWa := Lib.hid (HW.out.below hba)
              have sa : wa.rangeAt bD 0 DA ∧ wa.rangeAt bE 0 DB := ⟨(HR.out.1.below hba HR.out.1.lt).range, (HR.out.2.below hba HR.out.2.lt).range⟩
              have HL1 := Lib.hid hL1
              have HRa := Lib.hid (And.intro (HR.out.1.below hba HR.out.1.lt) (HR.out.2.below hba HR.out.2.lt))
              clear hL1 hba
              refine ⟨sa, ?_⟩
              simp only [List.getElem_toArray, List.getElem_cons_succ, List.getElem_cons_zero, Act.put, List.setIfInBounds_toArray, List.set_cons_zero, List.set_cons_succ]
              refine anyH_one (i := 14) (by kernel_rfl) ?_
              refine st3_call rfl (by rfl) (f := 31) (vals := #[.pointer (some ⟨gb, 0, none⟩)]) (Z := fun v w' => ∃ A c, v = .slice A 13 c ∧ LvK gb A (leavesL vb) w' ∧ Below wa.heap.size wa w') ?_ ?_ ?_
              · unfold execOp
                simp only [List.getElem_toArray, List.getElem_cons_succ, List.getElem_cons_zero, resolve, invoke, Sem.run_bind, List.map_toArray, List.map_cons, List.map_nil]
                first | rfl | exact enters_of Tryz.func31 (by kernel_rfl) rfl _ _
              · exact (HWa.out.swap.leaves).mono fun e w' ⟨A, c, he, h1, h2⟩ => ⟨_, he, A, c, rfl, LvK.new h1 HWa.out.swap.glt, h2⟩
              rintro v wb ⟨A2, c2, rfl, hL2, hbb⟩
              have HWb := Lib.hid (HWa.out.below hbb)
              have sb : wb.rangeAt bD 0 DA ∧ wb.rangeAt bE 0 DB := ⟨(HRa.out.1.below hbb HRa.out.1.lt).range, (HRa.out.2.below hbb HRa.out.2.lt).range⟩
              have HLL := Lib.hid (And.intro (HL1.out.below hbb) hL2)
              have HRb := Lib.hid (And.intro (HRa.out.1.below hbb HRa.out.1.lt) (HRa.out.2.below hbb HRa.out.2.lt))
              clear hL2 hbb
              refine ⟨sb, ?_⟩
              simp only [List.getElem_toArray, List.getElem_cons_succ, List.getElem_cons_zero, Act.put, List.setIfInBounds_toArray, List.set_cons_zero, List.set_cons_succ]
              refine anyH_one (i := 15) (by kernel_rfl) ?_
              refine st3_call rfl (by rfl) (f := 17) (vals := #[.slice A1 13 c1, .slice A2 13 c2]) (Z := fun v w' => v = .bool E1 ∧ Below wb.heap.size wb w') ?_ ?_ ?_
              · unfold execOp
                simp only [List.getElem_toArray, List.getElem_cons_succ, List.getElem_cons_zero, resolve, invoke, Sem.run_bind, List.map_toArray, List.map_cons, List.map_nil]
                first | rfl | exact enters_of Tryz.func17 (by kernel_rfl) rfl _ _
              · exact (lvk_same2 HLL.out.1 HLL.out.2 (leavesL_len va) (leavesL_len vb) (leaves_max Hok.out.1) (leaves_max Hok.out.2)).mono fun e w' ⟨he, h2⟩ => ⟨_, he, by rw [HV.out.2.2.2.1 rfl], h2⟩
              rintro v wc ⟨rfl, hbc⟩
              have HWc := Lib.hid (HWb.out.below hbc)
              have sc : wc.rangeAt bD 0 DA ∧ wc.rangeAt bE 0 DB := ⟨(HRb.out.1.below hbc HRb.out.1.lt).range, (HRb.out.2.below hbc HRb.out.2.lt).range⟩
              clear hbc
              refine ⟨sc, ?_⟩
              simp only [List.getElem_toArray, List.getElem_cons_succ, List.getElem_cons_zero, Act.put, List.setIfInBounds_toArray, List.set_cons_zero, List.set_cons_succ]
              have hEE : (E1 == E1) = true := beq_self_eq_true E1
              refine anyH_take (i := 16) (d := 101) (v := ?k3c16) rfl rfl (by kernel_rfl) (by kernel_rfl) (by kernel_rfl) (fun _ _ _ h => h) (Or.inl ⟨by rfl, ?k3cy16⟩) sc ?k3cr16
              case k3cy16 => (intro w; have hq0 := hEE; go_simp; try with_reducible rfl)
              simp only [List.setIfInBounds_toArray, List.set_cons_zero, List.set_cons_succ]
              refine anyH_take (i := 17) (d := 102) (v := ?k3c17) rfl rfl (by kernel_rfl) (by kernel_rfl) (by kernel_rfl) (fun _ _ _ h => h) (Or.inl ⟨by rfl, ?k3cy17⟩) sc ?k3cr17
              case k3cy17 => (intro w; go_simp; try with_reducible rfl)
              simp only [List.setIfInBounds_toArray, List.set_cons_zero, List.set_cons_succ]
              refine anyH_take (i := 18) (d := 103) (v := ?k3c18) rfl rfl (by kernel_rfl) (by kernel_rfl) (by kernel_rfl) (fun _ _ _ h => h) (Or.inl ⟨by rfl, ?k3cy18⟩) sc ?k3cr18
              case k3cy18 => (intro w; go_simp; try with_reducible rfl)
              simp only [List.setIfInBounds_toArray, List.set_cons_zero, List.set_cons_succ]
              refine anyH_take (i := 19) (d := 4) (v := ?k3c19) rfl rfl (by kernel_rfl) (by kernel_rfl) (by kernel_rfl) (fun _ _ _ h => h) (Or.inl ⟨by rfl, ?k3cy19⟩) sc ?k3cr19
              case k3cy19 => (intro w; go_simp; try with_reducible rfl)
              simp only [List.setIfInBounds_toArray, List.set_cons_zero, List.set_cons_succ]
              refine wpAnyH_done (by kernel_rfl) ?_ _
              go_wp2
              go_ret
              exact ⟨rfl, HWc.out.bel⟩
            · skip
              skip
              refine anyH_take (i := 7) (d := 92) (v := ?k3d7) rfl rfl (by kernel_rfl) (by kernel_rfl) (by kernel_rfl) (fun _ _ _ h => h) (Or.inl ⟨by rfl, ?k3dy7⟩) s0 ?k3dr7
              case k3dy7 => (intro w; go_simp; try with_reducible rfl)
              simp only [List.setIfInBounds_toArray, List.set_cons_zero, List.set_cons_succ]
              refine anyH_take (i := 8) (d := 93) (v := undef) rfl rfl (by kernel_rfl) (by kernel_rfl) (by kernel_rfl) (fun _ _ _ h => h) (Or.inr ⟨by rfl, rfl⟩) s0 ?_
              simp only [List.setIfInBounds_toArray, List.set_cons_zero, List.set_cons_succ]
              refine anyH_take (i := 9) (d := 94) (v := undef) rfl rfl (by kernel_rfl) (by kernel_rfl) (by kernel_rfl) (fun _ _ _ h => h) (Or.inr ⟨by rfl, rfl⟩) s0 ?_
              simp only [List.setIfInBounds_toArray, List.set_cons_zero, List.set_cons_succ]
              refine anyH_take (i := 10) (d := 95) (v := undef) rfl rfl (by kernel_rfl) (by kernel_rfl) (by kernel_rfl) (fun _ _ _ h => h) (Or.inr ⟨by rfl, rfl⟩) s0 ?_
              simp only [List.setIfInBounds_toArray, List.set_cons_zero, List.set_cons_succ]
              refine anyH_take (i := 11) (d := 96) (v := undef) rfl rfl (by kernel_rfl) (by kernel_rfl) (by kernel_rfl) (fun _ _ _ h => h) (Or.inr ⟨by rfl, rfl⟩) s0 ?_
              simp only [List.setIfInBounds_toArray, List.set_cons_zero, List.set_cons_succ]
              refine anyH_take (i := 12) (d := 97) (v := undef) rfl rfl (by kernel_rfl) (by kernel_rfl) (by kernel_rfl) (fun _ _ _ h => h) (Or.inr ⟨by rfl, rfl⟩) s0 ?_
              simp only [List.setIfInBounds_toArray, List.set_cons_zero, List.set_cons_succ]
              refine anyH_take (i := 13) (d := 98) (v := undef) rfl rfl (by kernel_rfl) (by kernel_rfl) (by kernel_rfl) (fun _ _ _ h => h) (Or.inr ⟨by rfl, rfl⟩) s0 ?_
              simp only [List.setIfInBounds_toArray, List.set_cons_zero, List.set_cons_succ]
              refine anyH_take (i := 14) (d := 99) (v := undef) rfl rfl (by kernel_rfl) (by kernel_rfl) (by kernel_rfl) (fun _ _ _ h => h) (Or.inr ⟨by rfl, rfl⟩) s0 ?_
              simp only [List.setIfInBounds_toArray, List.set_cons_zero, List.set_cons_succ]
              refine anyH_take (i := 15) (d := 100) (v := undef) rfl rfl (by kernel_rfl) (by kernel_rfl) (by kernel_rfl) (fun _ _ _ h => h) (Or.inr ⟨by rfl, rfl⟩) s0 ?_
              simp only [List.setIfInBounds_toArray, List.set_cons_zero, List.set_cons_succ]
              refine anyH_take (i := 16) (d := 101) (v := undef) rfl rfl (by kernel_rfl) (by kernel_rfl) (by kernel_rfl) (fun _ _ _ h => h) (Or.inr ⟨by rfl, rfl⟩) s0 ?_
              simp only [List.setIfInBounds_toArray, List.set_cons_zero, List.set_cons_succ]
              refine anyH_take (i := 17) (d := 102) (v := ?k3d17) rfl rfl (by kernel_rfl) (by kernel_rfl) (by kernel_rfl) (fun _ _ _ h => h) (Or.inl ⟨by rfl, ?k3dy17⟩) s0 ?k3dr17
              case k3dy17 => (intro w; go_simp; try with_reducible rfl)
              simp only [List.setIfInBounds_toArray, List.set_cons_zero, List.set_cons_succ]
              refine anyH_take (i := 18) (d := 103) (v := ?k3d18) rfl rfl (by kernel_rfl) (by kernel_rfl) (by kernel_rfl) (fun _ _ _ h => h) (Or.inl ⟨by rfl, ?k3dy18⟩) s0 ?k3dr18
              case k3dy18 => (intro w; go_simp; try with_reducible rfl)
              simp only [List.setIfInBounds_toArray, List.set_cons_zero, List.set_cons_succ]
              refine anyH_take (i := 19) (d := 4) (v := ?k3d19) rfl rfl (by kernel_rfl) (by kernel_rfl) (by kernel_rfl) (fun _ _ _ h => h) (Or.inl ⟨by rfl, ?k3dy19⟩) s0 ?k3dr19
              case k3dy19 => (intro w; go_simp; try with_reducible rfl)
              simp only [List.setIfInBounds_toArray, List.set_cons_zero, List.set_cons_succ]
              refine wpAnyH_done (by kernel_rfl) ?_ _
              go_wp2
              go_ret
              exact ⟨rfl, HW.out.bel⟩
        · have p1 : ¬ (k : Int) < (nm : Int) := by omega
          have Hok := Lib.hid (And.intro HI.out.1.ok HI.out.1.swap.ok)
          have hr1 := HI.out.1.rooted (by have := HI0.out.2.2; omega)
          obtain ⟨DA, hDA⟩ : ∃ DA, cbs (rootB va) = DA := ⟨_, rfl⟩
          obtain ⟨DB, hDB⟩ : ∃ DB, cbs (rootB vb) = DB := ⟨_, rfl⟩
          rw [hDA] at hr1
          have hlA : DA.length = 32 := by rw [← hDA, cbs_length, rootB_len]
          have hlB : DB.length = 32 := by rw [← hDB, cbs_length, rootB_len]
          have hoA : DA.toArray.all (·.oneCell') = true := by rw [← hDA]; exact cbs_one' _
          have hoB : DB.toArray.all (·.oneCell') = true := by rw [← hDB]; exact cbs_one' _
          have hsl1 := rootS_len va s2
          have heq0 : ∀ w', (Op.equalIn 10000 59 (.agg DA.toArray) (.agg DB.toArray)).run Tryz.prog w' = .ok (rootB va == rootB vb) w' := fun w' => by rw [← hDA, ← hDB]; exact eq_digests w' _ _ (rootB_len va) (rootB_len vb)
          have Hr1 := Lib.hid hr1
          have HD := Lib.hid (And.intro hDB (And.intro hlA (And.intro hlB (And.intro hoA (And.intro hoB (And.intro heq0 hsl1))))))
          clear hr1 hDA hDB hlA hlB hoA hoB hsl1 heq0
          go_wp2_with fail
          refine Hr1.out.mono ?_
          rintro e w5 ⟨rfl, hv⟩
          obtain ⟨w6, hw6, q1, q2, q2', q3, hb6⟩ := dg_var w5 HD.out.2.1
          have hr2 := hv.swap.rootedK hb6 q3 (Nat.le_refl _) (by have := HI0.out.2.2; have := HD.out.2.2.2.2.2.2; omega)
          rw [HD.out.1] at hr2
          have Hr2 := Lib.hid hr2
          have H6 := Lib.hid (And.intro hw6 (And.intro q1 (And.intro q2 q2')))
          clear hv hw6 q1 q2 q2' q3 hb6 hr2 Hr1
          go_wp2_with (refine wpList_store_mid rfl 59 _ _ rfl w5.heap.size 0 DA.toArray rfl rfl H6.out.2.1 H6.out.2.2.1 HD.out.2.2.2.1 ?_; simp only [Act.put]; refine cast (congrArg (fun z => wpList _ _ _ _ _ z) H6.out.1.symm) ?_)
          refine Hr2.out.mono ?_
          rintro e w7 ⟨rfl, hv, hBA⟩
          obtain ⟨w8, hw8, q1, q2, q3', q3, hb8⟩ := dg_var w7 HD.out.2.2.1
          have V8 := hv.swap.below hb8
          have BA8 := hBA.below hb8 hBA.lt
          obtain ⟨cl, hcl⟩ : ∃ cl : Bool, (rootS vb (rootS va s2)).2.1 = cl := ⟨_, rfl⟩
          obtain ⟨E1, hE1⟩ : ∃ E1, (rootB va == rootB vb) = E1 := ⟨_, rfl⟩
          have hsame : cl = false → decide (leavesL va = leavesL vb) = E1 := fun e => by rw [← hE1]; exact (root_same s2 HI0.out.2.1 va vb Hok.out.1 Hok.out.2 (by rw [hcl, e])).symm
          have heq : ∀ w', (Op.equalIn 10000 59 (.agg DA.toArray) (.agg DB.toArray)).run Tryz.prog w' = .ok E1 w' := fun w' => by rw [← hE1]; exact HD.out.2.2.2.2.2.1 w'
          have HQ := Lib.hid (And.intro hw8 (And.intro q1 (And.intro q2 (And.intro H6.out.2.2.2 q3'))))
          have HV := Lib.hid (And.intro V8 (And.intro BA8 (And.intro q3 (And.intro hsame hcl))))
          clear hw8 q1 q2 q3' q3 hb8 V8 BA8 hcl hE1 hsame hv hBA Hr2
          generalize w5.heap.size = bD at *
          go_wp2_with (refine wpList_store_mid rfl 59 _ _ rfl w7.heap.size 0 DB.toArray rfl rfl HQ.out.2.1 HQ.out.2.2.1 HD.out.2.2.2.2.1 ?_; simp only [Act.put]; refine cast (congrArg (fun z => wpList _ _ _ _ _ z) HQ.out.1.symm) ?_)
          generalize w7.heap.size = bE at *
          obtain ⟨w9, hw9⟩ : ∃ W, w8.drew = W := ⟨_, rfl⟩
          have hd9 : Below w8.heap.size w8 w9 := by rw [← hw9]; exact (Below.refl _ _).drew
          have HW := Lib.hid (HV.out.1.below hd9)
          have HR := Lib.hid (And.intro (HV.out.2.1.below hd9 HV.out.2.1.lt) (HV.out.2.2.1.below hd9 HV.out.2.2.1.lt))
          have R1 := (HV.out.2.1.below hd9 HV.out.2.1.lt).range
          have R2 := (HV.out.2.2.1.below hd9 HV.out.2.2.1.lt).range
          have s0 := And.intro R1 R2
          refine wp_region_held_drew (S := (fun W : World => W.rangeAt bD 0 DA ∧ W.rangeAt bE 0 DB)) (by kernel_rfl) (by rw [hw9]; exact s0) (fun _ => ?_)
          rw [hw9]
          clear hw9 hd9 R1 R2
          refine anyH_take (i := 0) (d := 85) (v := ?k4a0) rfl rfl (by kernel_rfl) (by kernel_rfl) (by kernel_rfl) (fun _ _ _ h => h) (Or.inl ⟨by rfl, ?k4ay0⟩) s0 ?k4ar0
          case k4ay0 => (intro w; go_simp; try with_reducible rfl)
          simp only [List.setIfInBounds_toArray, List.set_cons_zero, List.set_cons_succ]
          refine anyH_take (i := 1) (d := 86) (v := ?k4a1) rfl rfl (by kernel_rfl) (by kernel_rfl) (by kernel_rfl) (fun _ _ _ h => h) (Or.inl ⟨by rfl, ?k4ay1⟩) s0 ?k4ar1
          case k4ay1 => (intro w; go_simp; try with_reducible rfl)
          simp only [List.setIfInBounds_toArray, List.set_cons_zero, List.set_cons_succ]
          refine anyH_take (i := 2) (d := 87) (v := ?k4a2) rfl rfl (by kernel_rfl) (by kernel_rfl) (by kernel_rfl) (fun _ _ _ h => h) (Or.inl ⟨by rfl, ?k4ay2⟩) s0 ?k4ar2
          case k4ay2 => (intro w; go_simp; try with_reducible rfl)
          simp only [List.setIfInBounds_toArray, List.set_cons_zero, List.set_cons_succ]
          refine anyH_take (i := 3) (d := 88) (v := ?k4a3) rfl rfl (by kernel_rfl) (by kernel_rfl) (by kernel_rfl) (fun _ _ _ h => h) (Or.inl ⟨by rfl, ?k4ay3⟩) s0 ?k4ar3
          case k4ay3 => (intro w; go_simp; try with_reducible rfl)
          simp only [List.setIfInBounds_toArray, List.set_cons_zero, List.set_cons_succ]
          refine anyH_take (i := 4) (d := 89) (v := ?k4a4) rfl rfl (by kernel_rfl) (by kernel_rfl) (by kernel_rfl) (fun _ _ _ h => h) (Or.inl ⟨by rfl, ?k4ay4⟩) s0 ?k4ar4
          case k4ay4 => (intro w; go_simp; try with_reducible rfl)
          simp only [List.setIfInBounds_toArray, List.set_cons_zero, List.set_cons_succ]
          refine anyH_take (i := 5) (d := 90) (v := ?k4a5) rfl rfl (by kernel_rfl) (by kernel_rfl) (by kernel_rfl) (fun _ _ _ h => h) (Or.inl ⟨by rfl, ?k4ay5⟩) s0 ?k4ar5
          case k4ay5 => (intro w; go_simp; try with_reducible rfl)
          simp only [List.setIfInBounds_toArray, List.set_cons_zero, List.set_cons_succ]
          refine anyH_one (i := 6) (by kernel_rfl) ?_
          refine st3_call rfl (by rfl) (f := 38) (vals := #[.pointer (some ⟨gk, 0, none⟩)]) (Z := fun v w' => v = .bool cl ∧ w' = w9) ?_ ?_ ?_
          · unfold execOp
            simp only [List.getElem_toArray, List.getElem_cons_succ, List.getElem_cons_zero, resolve, invoke, Sem.run_bind, List.map_toArray, List.map_cons, List.map_nil]
            first | rfl | exact enters_of Tryz.func38 (by kernel_rfl) rfl _ _
          · exact (HW.out.clash).mono fun e w' ⟨he, h2⟩ => ⟨_, by rw [he, HV.out.2.2.2.2], rfl, h2⟩
          rintro v w' ⟨rfl, hww⟩
          have hww2 := hww.symm
          subst hww2
          clear hww
          refine ⟨s0, ?_⟩
          simp only [List.getElem_toArray, List.getElem_cons_succ, List.getElem_cons_zero, Act.put, List.setIfInBounds_toArray, List.set_cons_zero, List.set_cons_succ]
          cases cl
          · skip
            skip
            refine anyH_take (i := 7) (d := 92) (v := ?k4b7) rfl rfl (by kernel_rfl) (by kernel_rfl) (by kernel_rfl) (fun _ _ _ h => h) (Or.inl ⟨by rfl, ?k4by7⟩) s0 ?k4br7
            case k4by7 => (intro w; go_simp; try with_reducible rfl)
            simp only [List.setIfInBounds_toArray, List.set_cons_zero, List.set_cons_succ]
            refine anyH_load (i := 8) (d := 93) rfl rfl (by kernel_rfl) (by kernel_rfl) (by kernel_rfl) (by rfl) 59 _ rfl bD 0 rfl DA _ (fun W hSW => hSW.1) Tryz.underlying59 rfl HQ.out.2.2.2.1 (fun _ _ _ h => h) s0 ?_
            simp only [List.setIfInBounds_toArray, List.set_cons_zero, List.set_cons_succ]
            refine anyH_load (i := 9) (d := 94) rfl rfl (by kernel_rfl) (by kernel_rfl) (by kernel_rfl) (by rfl) 59 _ rfl bE 0 rfl DB _ (fun W hSW => hSW.2) Tryz.underlying59 rfl HQ.out.2.2.2.2 (fun _ _ _ h => h) s0 ?_
            simp only [List.setIfInBounds_toArray, List.set_cons_zero, List.set_cons_succ]
            refine anyH_take (i := 10) (d := 95) (v := ?k4b10) rfl rfl (by kernel_rfl) (by kernel_rfl) (by kernel_rfl) (fun _ _ _ h => h) (Or.inl ⟨by rfl, ?k4by10⟩) s0 ?k4br10
            case k4by10 => (intro w; have hq0 := heq w; go_simp; try with_reducible rfl)
            simp only [List.setIfInBounds_toArray, List.set_cons_zero, List.set_cons_succ]
            refine anyH_take (i := 11) (d := 96) (v := ?k4b11) rfl rfl (by kernel_rfl) (by kernel_rfl) (by kernel_rfl) (fun _ _ _ h => h) (Or.inl ⟨by rfl, ?k4by11⟩) s0 ?k4br11
            case k4by11 => (intro w; go_simp; try with_reducible rfl)
            simp only [List.setIfInBounds_toArray, List.set_cons_zero, List.set_cons_succ]
            refine anyH_take (i := 13) (d := 98) (v := ?k4b13) rfl rfl (by kernel_rfl) (by kernel_rfl) (by kernel_rfl) (fun _ _ _ h => h) (Or.inl ⟨by rfl, ?k4by13⟩) s0 ?k4br13
            case k4by13 => (intro w; go_simp; try with_reducible rfl)
            simp only [List.setIfInBounds_toArray, List.set_cons_zero, List.set_cons_succ]
            refine anyH_one (i := 12) (by kernel_rfl) ?_
            refine st3_call rfl (by rfl) (f := 31) (vals := #[.pointer (some ⟨ga, 0, none⟩)]) (Z := fun v w' => ∃ A c, v = .slice A 13 c ∧ LvK ga A (leavesL va) w' ∧ Below w9.heap.size w9 w') ?_ ?_ ?_
            · unfold execOp
              simp only [List.getElem_toArray, List.getElem_cons_succ, List.getElem_cons_zero, resolve, invoke, Sem.run_bind, List.map_toArray, List.map_cons, List.map_nil]
              first | rfl | exact enters_of Tryz.func31 (by kernel_rfl) rfl _ _
            · exact (HW.out.leaves).mono fun e w' ⟨A, c, he, h1, h2⟩ => ⟨_, he, A, c, rfl, LvK.new h1 HW.out.glt, h2⟩
            rintro v wa ⟨A1, c1, rfl, hL1, hba⟩
            have HWa := Lib.hid (HW.out.below hba)
            have sa : wa.rangeAt bD 0 DA ∧ wa.rangeAt bE 0 DB := ⟨(HR.out.1.below hba HR.out.1.lt).range, (HR.out.2.below hba HR.out.2.lt).range⟩
            have HL1 := Lib.hid hL1
            have HRa := Lib.hid (And.intro (HR.out.1.below hba HR.out.1.lt) (HR.out.2.below hba HR.out.2.lt))
            clear hL1 hba
            refine ⟨sa, ?_⟩
            simp only [List.getElem_toArray, List.getElem_cons_succ, List.getElem_cons_zero, Act.put, List.setIfInBounds_toArray, List.set_cons_zero, List.set_cons_succ]
            refine anyH_one (i := 14) (by kernel_rfl) ?_
            refine st3_call rfl (by rfl) (f := 31) (vals := #[.pointer (some ⟨gb, 0, none⟩)]) (Z := fun v w' => ∃ A c, v = .slice A 13 c ∧ LvK gb A (leavesL vb) w' ∧ Below wa.heap.size wa w') ?_ ?_ ?_
            · unfold execOp
              simp only [List.getElem_toArray, List.getElem_cons_succ, List.getElem_cons_zero, resolve, invoke, Sem.run_bind, List.map_toArray, List.map_cons, List.map_nil]
              first | rfl | exact enters_of Tryz.func31 (by kernel_rfl) rfl _ _
            · exact (HWa.out.swap.leaves).mono fun e w' ⟨A, c, he, h1, h2⟩ => ⟨_, he, A, c, rfl, LvK.new h1 HWa.out.swap.glt, h2⟩
            rintro v wb ⟨A2, c2, rfl, hL2, hbb⟩
            have HWb := Lib.hid (HWa.out.below hbb)
            have sb : wb.rangeAt bD 0 DA ∧ wb.rangeAt bE 0 DB := ⟨(HRa.out.1.below hbb HRa.out.1.lt).range, (HRa.out.2.below hbb HRa.out.2.lt).range⟩
            have HLL := Lib.hid (And.intro (HL1.out.below hbb) hL2)
            have HRb := Lib.hid (And.intro (HRa.out.1.below hbb HRa.out.1.lt) (HRa.out.2.below hbb HRa.out.2.lt))
            clear hL2 hbb
            refine ⟨sb, ?_⟩
            simp only [List.getElem_toArray, List.getElem_cons_succ, List.getElem_cons_zero, Act.put, List.setIfInBounds_toArray, List.set_cons_zero, List.set_cons_succ]
            refine anyH_one (i := 15) (by kernel_rfl) ?_
            refine st3_call rfl (by rfl) (f := 17) (vals := #[.slice A1 13 c1, .slice A2 13 c2]) (Z := fun v w' => v = .bool E1 ∧ Below wb.heap.size wb w') ?_ ?_ ?_
            · unfold execOp
              simp only [List.getElem_toArray, List.getElem_cons_succ, List.getElem_cons_zero, resolve, invoke, Sem.run_bind, List.map_toArray, List.map_cons, List.map_nil]
              first | rfl | exact enters_of Tryz.func17 (by kernel_rfl) rfl _ _
            · exact (lvk_same2 HLL.out.1 HLL.out.2 (leavesL_len va) (leavesL_len vb) (leaves_max Hok.out.1) (leaves_max Hok.out.2)).mono fun e w' ⟨he, h2⟩ => ⟨_, he, by rw [HV.out.2.2.2.1 rfl], h2⟩
            rintro v wc ⟨rfl, hbc⟩
            have HWc := Lib.hid (HWb.out.below hbc)
            have sc : wc.rangeAt bD 0 DA ∧ wc.rangeAt bE 0 DB := ⟨(HRb.out.1.below hbc HRb.out.1.lt).range, (HRb.out.2.below hbc HRb.out.2.lt).range⟩
            clear hbc
            refine ⟨sc, ?_⟩
            simp only [List.getElem_toArray, List.getElem_cons_succ, List.getElem_cons_zero, Act.put, List.setIfInBounds_toArray, List.set_cons_zero, List.set_cons_succ]
            have hEE : (E1 == E1) = true := beq_self_eq_true E1
            refine anyH_take (i := 16) (d := 101) (v := ?k4c16) rfl rfl (by kernel_rfl) (by kernel_rfl) (by kernel_rfl) (fun _ _ _ h => h) (Or.inl ⟨by rfl, ?k4cy16⟩) sc ?k4cr16
            case k4cy16 => (intro w; have hq0 := hEE; go_simp; try with_reducible rfl)
            simp only [List.setIfInBounds_toArray, List.set_cons_zero, List.set_cons_succ]
            refine anyH_take (i := 17) (d := 102) (v := ?k4c17) rfl rfl (by kernel_rfl) (by kernel_rfl) (by kernel_rfl) (fun _ _ _ h => h) (Or.inl ⟨by rfl, ?k4cy17⟩) sc ?k4cr17
            case k4cy17 => (intro w; go_simp; try with_reducible rfl)
            simp only [List.setIfInBounds_toArray, List.set_cons_zero, List.set_cons_succ]
            refine anyH_take (i := 18) (d := 103) (v := ?k4c18) rfl rfl (by kernel_rfl) (by kernel_rfl) (by kernel_rfl) (fun _ _ _ h => h) (Or.inl ⟨by rfl, ?k4cy18⟩) sc ?k4cr18
            case k4cy18 => (intro w; go_simp; try with_reducible rfl)
            simp only [List.setIfInBounds_toArray, List.set_cons_zero, List.set_cons_succ]
            refine anyH_take (i := 19) (d := 4) (v := ?k4c19) rfl rfl (by kernel_rfl) (by kernel_rfl) (by kernel_rfl) (fun _ _ _ h => h) (Or.inl ⟨by rfl, ?k4cy19⟩) sc ?k4cr19
            case k4cy19 => (intro w; go_simp; try with_reducible rfl)
            simp only [List.setIfInBounds_toArray, List.set_cons_zero, List.set_cons_succ]
            refine wpAnyH_done (by kernel_rfl) ?_ _
            go_wp2
            go_ret
            exact ⟨rfl, HWc.out.bel⟩
          · skip
            skip
            refine anyH_take (i := 7) (d := 92) (v := ?k4d7) rfl rfl (by kernel_rfl) (by kernel_rfl) (by kernel_rfl) (fun _ _ _ h => h) (Or.inl ⟨by rfl, ?k4dy7⟩) s0 ?k4dr7
            case k4dy7 => (intro w; go_simp; try with_reducible rfl)
            simp only [List.setIfInBounds_toArray, List.set_cons_zero, List.set_cons_succ]
            refine anyH_take (i := 8) (d := 93) (v := undef) rfl rfl (by kernel_rfl) (by kernel_rfl) (by kernel_rfl) (fun _ _ _ h => h) (Or.inr ⟨by rfl, rfl⟩) s0 ?_
            simp only [List.setIfInBounds_toArray, List.set_cons_zero, List.set_cons_succ]
            refine anyH_take (i := 9) (d := 94) (v := undef) rfl rfl (by kernel_rfl) (by kernel_rfl) (by kernel_rfl) (fun _ _ _ h => h) (Or.inr ⟨by rfl, rfl⟩) s0 ?_
            simp only [List.setIfInBounds_toArray, List.set_cons_zero, List.set_cons_succ]
            refine anyH_take (i := 10) (d := 95) (v := undef) rfl rfl (by kernel_rfl) (by kernel_rfl) (by kernel_rfl) (fun _ _ _ h => h) (Or.inr ⟨by rfl, rfl⟩) s0 ?_
            simp only [List.setIfInBounds_toArray, List.set_cons_zero, List.set_cons_succ]
            refine anyH_take (i := 11) (d := 96) (v := undef) rfl rfl (by kernel_rfl) (by kernel_rfl) (by kernel_rfl) (fun _ _ _ h => h) (Or.inr ⟨by rfl, rfl⟩) s0 ?_
            simp only [List.setIfInBounds_toArray, List.set_cons_zero, List.set_cons_succ]
            refine anyH_take (i := 12) (d := 97) (v := undef) rfl rfl (by kernel_rfl) (by kernel_rfl) (by kernel_rfl) (fun _ _ _ h => h) (Or.inr ⟨by rfl, rfl⟩) s0 ?_
            simp only [List.setIfInBounds_toArray, List.set_cons_zero, List.set_cons_succ]
            refine anyH_take (i := 13) (d := 98) (v := undef) rfl rfl (by kernel_rfl) (by kernel_rfl) (by kernel_rfl) (fun _ _ _ h => h) (Or.inr ⟨by rfl, rfl⟩) s0 ?_
            simp only [List.setIfInBounds_toArray, List.set_cons_zero, List.set_cons_succ]
            refine anyH_take (i := 14) (d := 99) (v := undef) rfl rfl (by kernel_rfl) (by kernel_rfl) (by kernel_rfl) (fun _ _ _ h => h) (Or.inr ⟨by rfl, rfl⟩) s0 ?_
            simp only [List.setIfInBounds_toArray, List.set_cons_zero, List.set_cons_succ]
            refine anyH_take (i := 15) (d := 100) (v := undef) rfl rfl (by kernel_rfl) (by kernel_rfl) (by kernel_rfl) (fun _ _ _ h => h) (Or.inr ⟨by rfl, rfl⟩) s0 ?_
            simp only [List.setIfInBounds_toArray, List.set_cons_zero, List.set_cons_succ]
            refine anyH_take (i := 16) (d := 101) (v := undef) rfl rfl (by kernel_rfl) (by kernel_rfl) (by kernel_rfl) (fun _ _ _ h => h) (Or.inr ⟨by rfl, rfl⟩) s0 ?_
            simp only [List.setIfInBounds_toArray, List.set_cons_zero, List.set_cons_succ]
            refine anyH_take (i := 17) (d := 102) (v := ?k4d17) rfl rfl (by kernel_rfl) (by kernel_rfl) (by kernel_rfl) (fun _ _ _ h => h) (Or.inl ⟨by rfl, ?k4dy17⟩) s0 ?k4dr17
            case k4dy17 => (intro w; go_simp; try with_reducible rfl)
            simp only [List.setIfInBounds_toArray, List.set_cons_zero, List.set_cons_succ]
            refine anyH_take (i := 18) (d := 103) (v := ?k4d18) rfl rfl (by kernel_rfl) (by kernel_rfl) (by kernel_rfl) (fun _ _ _ h => h) (Or.inl ⟨by rfl, ?k4dy18⟩) s0 ?k4dr18
            case k4dy18 => (intro w; go_simp; try with_reducible rfl)
            simp only [List.setIfInBounds_toArray, List.set_cons_zero, List.set_cons_succ]
            refine anyH_take (i := 19) (d := 4) (v := ?k4d19) rfl rfl (by kernel_rfl) (by kernel_rfl) (by kernel_rfl) (fun _ _ _ h => h) (Or.inl ⟨by rfl, ?k4dy19⟩) s0 ?k4dr19
            case k4dy19 => (intro w; go_simp; try with_reducible rfl)
            simp only [List.setIfInBounds_toArray, List.set_cons_zero, List.set_cons_succ]
            refine wpAnyH_done (by kernel_rfl) ?_ _
            go_wp2
            go_ret
            exact ⟨rfl, HW.out.bel⟩

end Go.Proofs.YtfaeechidjpjbaaGreat.vaultUnlike
