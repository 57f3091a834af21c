/-
  The reference's ledger: Vector, over the reference's text.
-/
import Derived.Test.YtkmijmlcijbbcaaTagT
namespace Go.Proofs.Ytkmijmlcijbbcaa
open Go.RowKit Go.Maps
set_option linter.unusedVariables false

set_option maxRecDepth 100000 in
set_option maxHeartbeats 3200000 in
theorem rvec_any (w0 w : World) (g k : Nat) (v : Value) (T : List Tg) (f : Int) (A : Option Addr) (n c : Nat) (rs : List Int) (d : List UInt8) (D : List Value) (h : RefAt w0 w g v T k) (hT : T.length < 800000) (hA : ArgI w0 A n c rs) (hd : d.length = 32) (hD : cbs d = D) :
    Calls Try.prog 12 #[.pointer (some ⟨g, 0, none⟩), .int .i64 f, .slice A n c, .agg D.toArray] w fun e w' =>
      e = .returned (.int .i64 (errOf (okVec f rs))) ∧ (∃ v', RefAt w0 w' g v' (vecL T f rs d) k ∧ RefLoc w v v') ∧ Out (RefS g v) w w' := by
  have ba : Below w.heap.size w (w.alloc (.cells D.toArray 28)) := (Below.refl _ _).alloc (Nat.le_refl _) _
  have hDl : D.length = 32 := by rw [← hD, cbs_length, hd]
  have hF := name_any f (w.alloc (.cells D.toArray 28))
  have hnot : ∀ (x : Bool) (w : World), (Op.unary .not (.bool x)).run Try.prog w = .ok (.bool (!x)) w := fun _ _ => rfl
  have hB : Blk (w.alloc (.cells D.toArray 28)) w.heap.size 28 D := Blk.new rfl rfl
  have hid : (Try.prog.info? 28).map (·.size) = some D.length := by rw [hDl]; exact info32b
  have hw0 := h.2.2.2.2.size
  have hcm := hA.2.2.1
  unfold maxLen at hcm
  have hnc := hA.2.1
  have hn63 : n ≤ 9223372036854775807 := by omega
  have H := Lib.hid (And.intro (h.below ba) (And.intro ba (And.intro hB (And.intro hA (And.intro hd (And.intro hD (And.intro hw0 h.1.lt)))))))
  clear h ba hB hA hDl hd hD hw0
  cases hf1 : isN f with
  | false =>
    have e1 : okVec f rs = false := by unfold okVec; rw [hf1]; rfl
    have e2 : vecL T f rs d = T := by unfold vecL; rw [e1]; rfl
    rw [hf1] at hF
    rw [e1, e2]
    have Hf := Lib.hid hF
    clear hF e1 e2 hf1
    go_enter Try.func12, Try.ntmps12
    go_wp2_with (go_at_call 23; refine Hf.out.mono ?_; rintro e w' ⟨rfl, rfl⟩)
    go_ret
    exact ⟨rfl, ⟨v, H.out.1, .inl rfl⟩, Out.ofBelow _ H.out.2.1⟩
  | true =>
  rw [hf1] at hF
  have Hf := Lib.hid hF
  clear hF
  by_cases h34 : n ≤ 34
  rotate_left
  · have e1 : okVec f rs = false := by unfold okVec allN; rw [H.out.2.2.2.1.1]; simp [h34]
    have e2 : vecL T f rs d = T := by unfold vecL; rw [e1]; rfl
    rw [e1, e2]
    have hi35 : (34 : Int) < n := by omega
    clear e1 e2 hf1 h34
    go_enter Try.func12, Try.ntmps12
    go_wp2_with (go_at_call 23; refine Hf.out.mono ?_; rintro e w' ⟨rfl, rfl⟩)
    go_ret
    exact ⟨rfl, ⟨v, H.out.1, .inl rfl⟩, Out.ofBelow _ H.out.2.1⟩
  have hi34 : (n : Int) ≤ 34 := by omega
  have hd34 : decide ((34 : Int) < n) = false := by simp; omega
  go_enter Try.func12, Try.ntmps12
  go_wp2_with (go_at_call 23; refine Hf.out.mono ?_; rintro e w' ⟨rfl, rfl⟩)
  clear Hf
  go_loopw [9] (fun iv wr => ∃ j : Nat, j ≤ n ∧ iv = .int .i64 j ∧ (∀ x ∈ rs.take j, isN x = true) ∧ wr = w.alloc (.cells D.toArray 28)) (fun iv _ => n - (intOf iv).toNat)
  case atStart => exact ⟨0, Nat.zero_le _, rfl, by simp, rfl⟩
  case round =>
    obtain ⟨j, hj, rfl, hall, hwr⟩ := hrel
    have hRr : RefAt w0 wr g v T k := by rw [hwr]; exact H.out.1
    have hbw : Below w.heap.size w wr := by rw [hwr]; exact H.out.2.1
    have hBr : Blk wr w.heap.size 28 D := by rw [hwr]; exact H.out.2.2.1
    have Hr := Lib.hid (And.intro hRr (And.intro hbw (And.intro hBr (And.intro hall hwr))))
    have hi0 : (0 : Int) ≤ j := by omega
    clear hRr hbw hBr hall hwr
    by_cases hlt : j < n
    · have hi1 : (j : Int) < n := by omega
      have hjl : j < rs.length := by rw [H.out.2.2.2.1.1]; exact hlt
      obtain ⟨b, off, rfl, hlow, hcell⟩ := H.out.2.2.2.1.2.2.2.1.at_ hjl
      have c0 : wr.cell? ⟨b, off + j, none⟩ = some (.int .i64 rs[j]) := (Hr.out.1.2.2.2.2.cell (p := ⟨b, off + j, none⟩) hlow).trans (hcell j hjl)
      obtain ⟨x, hx⟩ : ∃ x, rs[j] = x := ⟨_, rfl⟩
      rw [hx] at c0
      have Hx := Lib.hid (And.intro hx hjl)
      clear hx hcell hlow
      have hnx := name_any x wr
      cases hN : isN x with
      | true =>
        rw [hN] at hnx
        have Hnx := Lib.hid hnx
        clear hnx
        go_wp2_with (go_at_call 23; refine Hnx.out.mono ?_; rintro e w' ⟨rfl, rfl⟩)
        go_roundw
        case rel =>
          refine ⟨j + 1, by omega, by go_num, ?_, Hr.out.2.2.2.2⟩
          rw [List.take_succ_eq_append_getElem Hx.out.2]
          intro z hz
          rcases List.mem_append.1 hz with hz | hz
          · exact Hr.out.2.2.2.1 z hz
          · simp at hz; rw [hz, Hx.out.1]; exact hN
        case measure => simp [intOf]; omega
      | false =>
        rw [hN] at hnx
        have Hnx := Lib.hid hnx
        have e1 : okVec f rs = false := by
          unfold okVec allN
          have : rs.all isN = false := by
            rw [List.all_eq_false]
            exact ⟨x, by rw [← Hx.out.1]; exact List.getElem_mem Hx.out.2, by rw [hN]; decide⟩
          rw [this]; simp
        have e2 : vecL T f rs d = T := by unfold vecL; rw [e1]; rfl
        have He := Lib.hid (And.intro e1 e2)
        clear hnx e1 e2
        go_wp2_with (go_at_call 23; refine Hnx.out.mono ?_; rintro e w' ⟨rfl, rfl⟩)
        go_ret
        exact ⟨by rw [He.out.1]; rfl, ⟨v, by rw [He.out.2]; exact Hr.out.1, .inl rfl⟩, Out.ofBelow _ Hr.out.2.1⟩
    · have hi1 : ¬ (j : Int) < n := by omega
      have hallN : ∀ x ∈ rs, isN x = true := fun x hx => Hr.out.2.2.2.1 x (by rw [List.take_of_length_le (by rw [H.out.2.2.2.1.1]; omega)]; exact hx)
      have e1 : okVec f rs = true := by
        unfold okVec allN
        rw [hf1, H.out.2.2.2.1.1]
        have : rs.all isN = true := List.all_eq_true.2 hallN
        rw [this]; simp [h34]
      have e2 : vecL T f rs d = putAll T f d rs := by unfold vecL; rw [if_pos e1]
      have He := Lib.hid (And.intro e1 e2)
      clear hallN e1 e2
      go_wp2
      go_loopw [10] (fun iv wx => ∃ (j : Nat) (v' : Value), j ≤ n ∧ iv = .int .i64 j ∧ RefAt w0 wx g v' (putAll T f d (rs.take j)) k ∧ RefLoc w v v' ∧ Blk wx w.heap.size 28 D ∧ Out (RefS g v) w wx) (fun iv _ => n - (intOf iv).toNat)
      case atStart => exact ⟨0, v, Nat.zero_le _, rfl, Hr.out.1, .inl rfl, Hr.out.2.2.1, Out.ofBelow _ Hr.out.2.1⟩
      case round =>
        obtain ⟨j, v', hj, rfl, hR, hL, hBd, hO⟩ := hrel
        have hi0 : (0 : Int) ≤ j := by omega
        by_cases hlt : j < n
        · have hi1 : (j : Int) < n := by omega
          have hjl : j < rs.length := by rw [H.out.2.2.2.1.1]; exact hlt
          obtain ⟨b, off, rfl, hlow, hcell⟩ := H.out.2.2.2.1.2.2.2.1.at_ hjl
          have hRd := hR.below (Below.refl _ _).drew
          have c0d : wr.drew.cell? ⟨b, off + j, none⟩ = some (.int .i64 rs[j]) := (hRd.2.2.2.2.cell (p := ⟨b, off + j, none⟩) hlow).trans (hcell j hjl)
          have hsucc : putAll T f d (rs.take (j + 1)) = putT (putAll T f d (rs.take j)) (f, rs[j], d) := by rw [List.take_succ_eq_append_getElem hjl, putAll_snoc]
          have hTl : (putAll T f d (rs.take j)).length < 900000 := by
            have h1 := putAll_len (f := f) (d := d) (rs.take j) (T := T)
            rw [List.length_take] at h1
            omega
          obtain ⟨x, hx⟩ : ∃ x, rs[j] = x := ⟨_, rfl⟩
          rw [hx] at c0d hsucc
          have hV : tcells f x d = tv f x D := by unfold tcells tv ci; rw [H.out.2.2.2.2.2.1]
          have Hput := Lib.hid (rput_any w0 wr.drew g k v' (putAll T f d (rs.take j)) f x d (tv f x D) hRd hTl H.out.2.2.2.2.1 hV)
          have hbt := built_rtag f x d H.out.2.2.2.2.1 D H.out.2.2.2.2.2.1
          generalize tv f x D = V at *
          have Hbt := Lib.hid hbt
          have hBdd : Blk wr.drew w.heap.size 28 D := hBd
          have hr0 := hBdd.range
          have hblt : b < wr.drew.heap.size := Nat.lt_of_lt_of_le hlow hRd.2.2.2.2.size
          have Hblt := Lib.hid hblt
          have hnb : ¬ RefS g v' b := fun e => by
            rcases e with e | e
            · have := hR.2.2.2.1; omega
            · have := (hR.2.1.lt b e).1; omega
          have hnd : ¬ RefS g v' w.heap.size := fun e => by
            rcases e with e | e
            · have := H.out.2.2.2.2.2.2.2; omega
            · obtain ⟨cs, hc⟩ : ∃ cs, wr.heap[w.heap.size]? = some (.cells cs 59 (0, 0)) := by
                obtain ⟨_, ⟨e0, _⟩ | ⟨b', cap, cur, e0, _, hh, _⟩⟩ := hR.2.1
                · rw [e0] at e; simp [Value.ownBlock] at e
                · rw [e0] at e
                  simp [Value.ownBlock] at e
                  subst e
                  exact ⟨_, hh⟩
              unfold Blk at hBd
              rw [hc] at hBd
              injection hBd with e1
              injection e1 with _ e1
              revert e1
              decide
          have Hnb := Lib.hid hnb
          have Hnd := Lib.hid hnd
          have Hbd := Lib.hid hBdd
          have He2 := Lib.hid (And.intro hsucc (And.intro hL (And.intro (hO.drewN 1) hO.size)))
          clear hR hL hBd hO hcell hRd hsucc hTl hV hbt hBdd hblt hnb hnd hx hlow
          go_wp2
          have Q0 : wr.drew.cell? ⟨b, off + j, none⟩ = some (.int .i64 x) ∧ wr.drew.rangeAt w.heap.size 0 D := ⟨c0d, hr0⟩
          refine wp_region_held_drew (S := fun W' => W'.cell? ⟨b, off + j, none⟩ = some (.int .i64 x) ∧ W'.rangeAt w.heap.size 0 D) (by kernel_rfl) Q0 (fun _ => ?_)
          refine anyH_take (i := 0) (d := 37) (v := ?v0) rfl rfl (by kernel_rfl) (by kernel_rfl) (by kernel_rfl) (fun _ _ _ h => h) (Or.inl ⟨by rfl, ?y0⟩) Q0 ?r0
          case y0 => (intro w; go_simp; try with_reducible rfl)
          simp only [List.setIfInBounds_toArray, List.set_cons_zero, List.set_cons_succ]
          refine anyH_take (i := 1) (d := 38) (v := ?v1) rfl rfl (by kernel_rfl) (by kernel_rfl) (by kernel_rfl) (fun _ _ _ h => h) (Or.inl ⟨by rfl, ?y1⟩) Q0 ?r1
          case y1 => (intro w; go_simp; try with_reducible rfl)
          simp only [List.setIfInBounds_toArray, List.set_cons_zero, List.set_cons_succ]
          refine anyH_take (i := 2) (d := 39) (v := ?v2) rfl rfl (by kernel_rfl) (by kernel_rfl) (by kernel_rfl) (fun _ _ _ h => h) (Or.inl ⟨by rfl, ?y2⟩) Q0 ?r2
          case y2 => (intro w; go_simp; try with_reducible rfl)
          simp only [List.setIfInBounds_toArray, List.set_cons_zero, List.set_cons_succ]
          refine anyH_take (i := 3) (d := 40) (v := ?v3) rfl rfl (by kernel_rfl) (by kernel_rfl) (by kernel_rfl) (fun _ _ _ h => h) (Or.inl ⟨by rfl, ?y3⟩) Q0 ?r3
          case y3 => (intro w; go_simp; try with_reducible rfl)
          simp only [List.setIfInBounds_toArray, List.set_cons_zero, List.set_cons_succ]
          refine anyH_take (i := 4) (d := 41) (v := ?v4) rfl rfl (by kernel_rfl) (by kernel_rfl) (by kernel_rfl) (fun _ _ _ h => h) (Or.inl ⟨by rfl, ?y4⟩) Q0 ?r4
          case y4 => (intro w; go_simp; try with_reducible rfl)
          simp only [List.setIfInBounds_toArray, List.set_cons_zero, List.set_cons_succ]
          refine wpAnyH_take' (i := 5) (d := 42) (v := ?v5) rfl rfl (by kernel_rfl) (by kernel_rfl) (by kernel_rfl) (fun _ _ _ h => h) (Or.inl ⟨by rfl, ?y5⟩) Q0 ?r5
          case y5 => (intro w hSw; go_split_ands; go_simp; try with_reducible rfl)
          simp only [List.setIfInBounds_toArray, List.set_cons_zero, List.set_cons_succ]
          refine anyH_load (i := 6) (d := 43) rfl rfl (by kernel_rfl) (by kernel_rfl) (by kernel_rfl) (by rfl) 28 _ rfl w.heap.size 0 rfl D _ (fun _ h => h.2) Try.underlying28 rfl hid (fun _ _ _ h => h) Q0 ?_
          simp only [List.setIfInBounds_toArray, List.set_cons_zero, List.set_cons_succ]
          refine anyH_take (i := 7) (d := 44) (v := .agg V.toArray) rfl rfl (by kernel_rfl) (by kernel_rfl) (by kernel_rfl) (fun _ _ _ h => h) (Or.inl ⟨by rfl, fun w => exec_build 59 _ rfl V.toArray Hbt.out w⟩) Q0 ?_
          simp only [List.setIfInBounds_toArray, List.set_cons_zero, List.set_cons_succ]
          refine anyH_one (i := 8) (by kernel_rfl) ?_
          refine wpOp_step rfl (fun K hK => ?_)
          go_simp
          refine Hput.out.mono ?_
          rintro e w5 ⟨rfl, hp5, ho5⟩
          have Q1 : w5.cell? ⟨b, off + j, none⟩ = some (.int .i64 x) ∧ w5.rangeAt w.heap.size 0 D := ⟨(ho5.cell Hblt.out Hnb.out).trans c0d, (ho5.blk Hbd.out Hnd.out).range⟩
          refine hK _ _ ⟨Q1, ?_⟩
          clear hK K
          refine wpAnyH_done (by kernel_rfl) ?_ _
          go_wp2
          go_roundw
          case rel =>
            obtain ⟨v2, hR2, hL2⟩ := hp5
            exact ⟨j + 1, v2, by omega, by go_num, by rw [He2.out.1]; exact hR2, He2.out.2.1.trans hL2 He2.out.2.2.2, ho5.blk Hbd.out Hnd.out, He2.out.2.1.out He2.out.2.2.1 ho5⟩
          case measure => simp [intOf]; omega
        · have hi1 : ¬ (j : Int) < n := by omega
          have hall : rs.take j = rs := List.take_of_length_le (by rw [H.out.2.2.2.1.1]; omega)
          rw [hall] at hR
          have Hz := Lib.hid (And.intro hR (And.intro hL hO))
          clear hR hL hBd hO hall
          go_wp2
          go_ret
          exact ⟨by rw [He.out.1]; rfl, ⟨v', by rw [He.out.2]; exact Hz.out.1, Hz.out.2.1⟩, Hz.out.2.2⟩
end Go.Proofs.Ytkmijmlcijbbcaa
