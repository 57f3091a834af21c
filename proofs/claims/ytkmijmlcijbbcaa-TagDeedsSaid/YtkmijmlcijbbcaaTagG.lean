/-
  Vector of a ledger, over the code.
-/
import Derived.Test.YtkmijmlcijbbcaaTagF
namespace Go.Proofs.Ytkmijmlcijbbcaa
open Go.RowKit Go.Maps
set_option linter.unusedVariables false

set_option maxRecDepth 100000 in
set_option maxHeartbeats 1600000 in
theorem vec_any (g m k : Nat) (T : List Tg) (f : Int) (A : Option Addr) (n c : Nat) (rs : List Int) (d : List UInt8) (D : List Value) (w : World) (h : LedAt w g m T k) (hT : T.length < 900000) (hf : Wf f) (hA : ArgI w A n c rs) (hd : d.length = 32) (hD : cbs d = D) :
    Calls Try.prog 11 #[.pointer (some ⟨g, 0, none⟩), .int .i64 f, .slice A n c, .agg D.toArray] w fun e w' =>
      e = .returned (.int .i64 (errOf (okVec f rs))) ∧ LedAt w' g m (vecL T f rs d) k ∧ Out (fun i => i = m) w w' := by
  have ba : Below w.heap.size w (w.alloc (.cells D.toArray 28)) := (Below.refl _ _).alloc (Nat.le_refl _) _
  have hDl : D.length = 32 := by rw [← hD, cbs_length, hd]
  have Hno := Lib.hid (none_any g m k _ (h.below ba).1)
  have Hf := Lib.hid (isn_any f (w.alloc (.cells D.toArray 28)))
  have Hn := Lib.hid (names_any A n c rs _ (hA.after ba))
  have hnot : ∀ (x : Bool) (w : World), (Op.unary .not (.bool x)).run Try.prog w = .ok (.bool (!x)) w := fun _ _ => rfl
  cases hf1 : isN f with
  | false =>
    have e1 : okVec f rs = false := by unfold okVec; rw [hf1]; rfl
    have e2 : vecL T f rs d = T := by unfold vecL; rw [e1]; rfl
    rw [hf1] at Hf
    rw [e1, e2]
    have H := Lib.hid (And.intro (h.below ba) ((Out.ofBelow (fun i => i = m) ba)))
    clear h hD hDl ba hA e1 e2 hf1
    go_enter Try.func11, Try.ntmps11
    go_wp2_with (first
      | (go_at_call 21; refine Hno.out.mono ?_; rintro e w' ⟨rfl, rfl⟩)
      | (go_at_call 22; refine Hf.out.mono ?_; rintro e w' ⟨rfl, rfl⟩))
    go_ret
    exact ⟨rfl, H.out⟩
  | true =>
  cases hn1 : allN rs with
  | false =>
    have e1 : okVec f rs = false := by unfold okVec; rw [hn1, hf1]; rfl
    have e2 : vecL T f rs d = T := by unfold vecL; rw [e1]; rfl
    rw [hf1] at Hf
    rw [hn1] at Hn
    rw [e1, e2]
    have H := Lib.hid (And.intro (h.below ba) ((Out.ofBelow (fun i => i = m) ba)))
    clear h hD hDl ba hA e1 e2 hf1 hn1
    go_enter Try.func11, Try.ntmps11
    go_wp2_with (first
      | (go_at_call 21; refine Hno.out.mono ?_; rintro e w' ⟨rfl, rfl⟩)
      | (go_at_call 22; refine Hf.out.mono ?_; rintro e w' ⟨rfl, rfl⟩)
      | (go_at_call 25; refine Hn.out.mono ?_; rintro e w' ⟨rfl, rfl⟩))
    go_ret
    exact ⟨rfl, H.out⟩
  | true =>
    have e1 : okVec f rs = true := by unfold okVec; rw [hn1, hf1]; rfl
    have e2 : vecL T f rs d = putAll T f d rs := by unfold vecL; rw [if_pos e1]
    have h34 : n ≤ 34 := by
      have := hA.1
      unfold allN at hn1
      simp at hn1
      omega
    rw [hf1] at Hf
    rw [hn1] at Hn
    rw [e1, e2]
    have hcm := hA.2.2.1
    unfold maxLen at hcm
    have hnc := hA.2.1
    have hdB : Blk (w.alloc (.cells D.toArray 28)) w.heap.size 28 D := Blk.new rfl rfl
    have hid : (Try.prog.info? 28).map (·.size) = some D.length := by rw [hDl]; exact info32b
    have Hbu := Lib.hid built_unit
    have H := Lib.hid (And.intro (h.below ba) (And.intro hdB (And.intro (Out.ofBelow (fun i => i = m) ba) (And.intro hA (And.intro h.2.lt (And.intro h.2 (And.intro hd hD)))))))
    have hne := h.ne
    clear h hD hDl ba hA e1 e2 hf1 hn1 hdB hd
    go_enter Try.func11, Try.ntmps11
    go_wp2_with (first
      | (go_at_call 21; refine Hno.out.mono ?_; rintro e w' ⟨rfl, rfl⟩)
      | (go_at_call 22; refine Hf.out.mono ?_; rintro e w' ⟨rfl, rfl⟩)
      | (go_at_call 25; refine Hn.out.mono ?_; rintro e w' ⟨rfl, rfl⟩))
    clear Hno Hf Hn
    go_loopw [23] (fun v wr => ∃ j : Nat, j ≤ n ∧ v = .int .i64 j ∧ LedAt wr g m (putAll T f d (rs.take j)) k ∧ Blk wr w.heap.size 28 D ∧ Out (fun i => i = m) w wr) (fun v _ => n - (intOf v).toNat)
    case atStart => exact ⟨0, Nat.zero_le _, rfl, H.out.1, H.out.2.1, H.out.2.2.1⟩
    case round =>
      obtain ⟨j, hj, rfl, hL, hdB, hO⟩ := hrel
      by_cases hlt : j < n
      · have hjl : j < rs.length := by rw [H.out.2.2.2.1.1]; exact hlt
        obtain ⟨b, off, rfl, hb, hcell⟩ := H.out.2.2.2.1.2.2.2.1.at_ hjl
        have hcj0 := hcell j hjl
        have hcj : wr.cell? ⟨b, off + j, none⟩ = some (.int .i64 rs[j]) := (hO.cell hb (H.out.2.2.2.2.2.1.off hcj0)).trans hcj0
        have hxw : Wf rs[j] := H.out.2.2.2.1.2.2.2.2 _ (List.getElem_mem hjl)
        have hsucc : putAll T f d (rs.take (j + 1)) = putT (putAll T f d (rs.take j)) (f, rs[j], d) := by rw [List.take_succ_eq_append_getElem hjl, putAll_snoc]
        have hTl : (putAll T f d (rs.take j)).length < 1000000 := by
          have h1 := putAll_len (f := f) (d := d) (rs.take j) (T := T)
          rw [List.length_take] at h1
          omega
        obtain ⟨x, hx⟩ : ∃ x, rs[j] = x := ⟨_, rfl⟩
        rw [hx] at hcj hxw hsucc
        have hLd : LedAt wr.drew g m (putAll T f d (rs.take j)) k := hL
        obtain ⟨w3, hrun, hgr, hsz, hled⟩ := hLd.2.put hTl f x d hf hxw H.out.2.2.2.2.2.2.1
        have e0 : tcells f x d = tv f x D := by unfold tcells tv ci; rw [H.out.2.2.2.2.2.2.2]
        rw [e0] at hrun
        have c0 : wr.drew.cell? ⟨g, 0, none⟩ = some (.map (some m)) := hLd.1.cell rfl
        have hdBd : Blk wr.drew w.heap.size 28 D := hdB
        have hrd : wr.drew.rangeAt w.heap.size 0 D := hdBd.range
        have hbt := built_triple f x d H.out.2.2.2.2.2.2.1 D H.out.2.2.2.2.2.2.2
        have c3 : w3.cell? ⟨g, 0, none⟩ = some (.map (some m)) := by
          rw [World.cell?_of_block (a := ⟨g, 0, none⟩) (hgr.block g (hLd.1.lt) (fun e => hne (Option.some.inj e)))]; exact c0
        have hb3 : Blk w3 w.heap.size 28 D := (hgr.block _ hdBd.lt (fun e => by injection e with e; have := H.out.2.2.2.2.1; omega)).trans hdBd
        have r3 : w3.rangeAt w.heap.size 0 D := hb3.range
        have hL3 : LedAt w3 g m (putAll T f d (rs.take (j + 1))) k := ⟨(hgr.block g hLd.1.lt (fun e => hne (Option.some.inj e))).trans hLd.1, by rw [hsucc]; exact hled⟩
        have hO3 : Out (fun i => i = m) w w3 := (hO.drewN 1).then_grown hgr fun i hi _ => by injection hi with hi; exact hi.symm
        have H3 := Lib.hid (And.intro hL3 (And.intro hb3 hO3))
        generalize hV : tv f x D = V at *
        have Hbt := Lib.hid hbt
        have hi0 : (0 : Int) ≤ j := by omega
        have hi1 : (j : Int) < n := by omega
        clear hL hdB hO hcell hcj0 hxw hsucc hTl hLd hgr hsz hled e0 hdBd hb3 hL3 hO3 hV hbt hx
        go_wp2
        have Q0 : wr.drew.cell? ⟨g, 0, none⟩ = some (.map (some m)) ∧ wr.drew.rangeAt w.heap.size 0 D := ⟨c0, hrd⟩
        have Q1 : w3.cell? ⟨g, 0, none⟩ = some (.map (some m)) ∧ w3.rangeAt w.heap.size 0 D := ⟨c3, r3⟩
        refine wp_region_held_drew (S := fun W' => W'.cell? ⟨g, 0, none⟩ = some (.map (some m)) ∧ W'.rangeAt w.heap.size 0 D) (by kernel_rfl) Q0 (fun _ => ?_)
        refine anyH_take (i := 0) (d := 27) (v := ?v0) rfl rfl (by kernel_rfl) (by kernel_rfl) (by kernel_rfl) (fun _ _ _ h => h) (Or.inl ⟨by rfl, ?y0⟩) Q0 ?r0
        case y0 => (intro w; go_simp; try with_reducible rfl)
        simp only [List.setIfInBounds_toArray, List.set_cons_zero, List.set_cons_succ]
        refine anyH_take (i := 1) (d := 28) (v := ?v1) rfl rfl (by kernel_rfl) (by kernel_rfl) (by kernel_rfl) (fun _ _ _ h => h) (Or.inl ⟨by rfl, ?y1⟩) Q0 ?r1
        case y1 => (intro w; go_simp; try with_reducible rfl)
        simp only [List.setIfInBounds_toArray, List.set_cons_zero, List.set_cons_succ]
        refine anyH_take (i := 2) (d := 29) (v := ?v2) rfl rfl (by kernel_rfl) (by kernel_rfl) (by kernel_rfl) (fun _ _ _ h => h) (Or.inl ⟨by rfl, ?y2⟩) Q0 ?r2
        case y2 => (intro w; go_simp; try with_reducible rfl)
        simp only [List.setIfInBounds_toArray, List.set_cons_zero, List.set_cons_succ]
        refine wpAnyH_take' (i := 3) (d := 30) (v := ?v3) rfl rfl (by kernel_rfl) (by kernel_rfl) (by kernel_rfl) (fun _ _ _ h => h) (Or.inl ⟨by rfl, ?y3⟩) Q0 ?r3
        case y3 => (intro w hSw; go_split_ands; go_simp; try with_reducible rfl)
        simp only [List.setIfInBounds_toArray, List.set_cons_zero, List.set_cons_succ]
        refine anyH_take (i := 4) (d := 31) (v := ?v4) rfl rfl (by kernel_rfl) (by kernel_rfl) (by kernel_rfl) (fun _ _ _ h => h) (Or.inl ⟨by rfl, ?y4⟩) Q0 ?r4
        case y4 => (intro w; go_simp; try with_reducible rfl)
        simp only [List.setIfInBounds_toArray, List.set_cons_zero, List.set_cons_succ]
        refine anyH_take (i := 5) (d := 32) (v := ?v5) rfl rfl (by kernel_rfl) (by kernel_rfl) (by kernel_rfl) (fun _ _ _ h => h) (Or.inl ⟨by rfl, ?y5⟩) Q0 ?r5
        case y5 => (intro w; go_simp; try with_reducible rfl)
        simp only [List.setIfInBounds_toArray, List.set_cons_zero, List.set_cons_succ]
        refine anyH_load (i := 6) (d := 33) rfl rfl (by kernel_rfl) (by kernel_rfl) (by kernel_rfl) (by rfl) 28 _ rfl w.heap.size 0 rfl D _ (fun _ h => h.2) Try.underlying28 rfl hid (fun _ _ _ h => h) Q0 ?_
        simp only [List.setIfInBounds_toArray, List.set_cons_zero, List.set_cons_succ]
        refine anyH_take (i := 7) (d := 34) (v := .agg V.toArray) rfl rfl (by kernel_rfl) (by kernel_rfl) (by kernel_rfl) (fun _ _ _ h => h) (Or.inl ⟨by rfl, fun w => exec_build 56 _ rfl V.toArray Hbt.out w⟩) Q0 ?_
        simp only [List.setIfInBounds_toArray, List.set_cons_zero, List.set_cons_succ]
        refine anyH_take (i := 8) (d := 35) (v := .agg #[]) rfl rfl (by kernel_rfl) (by kernel_rfl) (by kernel_rfl) (fun _ _ _ h => h) (Or.inl ⟨by rfl, fun w => exec_build 44 _ rfl #[] Hbu.out w⟩) Q0 ?_
        simp only [List.setIfInBounds_toArray, List.set_cons_zero, List.set_cons_succ]
        refine anyH_one (i := 9) (by kernel_rfl) ?_
        refine wpOp_step rfl (fun K hK => ?_)
        go_simp
        refine hK _ _ ⟨Q1, ?_⟩
        clear hK K
        refine wpAnyH_done (by kernel_rfl) ?_ _
        go_wp2
        go_roundw
        case rel => exact ⟨j + 1, by omega, by go_num, H3.out.1, H3.out.2.1, H3.out.2.2⟩
        case measure => simp [intOf]; omega
      · have hjn : j = n := by omega
        have hall : rs.take j = rs := List.take_of_length_le (by rw [H.out.2.2.2.1.1]; omega)
        rw [hall] at hL
        have Hf := Lib.hid (And.intro hL hO)
        clear hL hdB hO hall
        have hi1 : ¬ (j : Int) < n := by omega
        go_wp2
        go_ret
        exact ⟨rfl, Hf.out⟩
end Go.Proofs.Ytkmijmlcijbbcaa
