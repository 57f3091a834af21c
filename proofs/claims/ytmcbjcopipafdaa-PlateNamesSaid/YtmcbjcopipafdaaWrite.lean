/-
  Write of a plate, over the code.
-/
import Derived.Test.YtmcbjcopipafdaaCalls
namespace Go.Proofs.Ytmcbjcopipafdaa
open Go.RowKit Go.Maps
set_option linter.unusedVariables false

/-- Bytes in a slice, in no block of M. -/
def BOff (w : World) (M : Nat → Prop) (A : Option Addr) (l : List UInt8) : Prop := 0 < l.length → ∃ b off, A = some ⟨b, off, none⟩ ∧ b < w.heap.size ∧ ¬ M b ∧ ∀ (j : Nat) u, (cbs l)[j]? = some u → w.cell? ⟨b, off + j, none⟩ = some u
section
variable {w w' : World} {M : Nat → Prop} {g r m : Nat} {P : Pl} {l : List UInt8} {A : Option Addr}
theorem BOff.stay (h : BOff w M A l) (hz : w.heap.size ≤ w'.heap.size) (hk : ∀ i, i < w.heap.size → ¬ M i → w'.heap[i]? = w.heap[i]?) : BOff w' M A l := fun hl => by
  obtain ⟨b, off, eA, hb, hM, hc⟩ := h hl
  exact ⟨b, off, eA, by omega, hM, fun j u hu => by rw [World.cell?_of_block (hk b hb hM)]; exact hc j u hu⟩
theorem BOff.out {S : Nat → Prop} (h : BOff w M A l) (ho : Out S w w') (hS : ∀ i, S i → M i) : BOff w' M A l := h.stay ho.size fun i hi hM => ho.block i hi fun e => hM (hS i e)
theorem BOff.below (h : BOff w M A l) (hb : Below w.heap.size w w') : BOff w' M A l := h.stay hb.size fun i hi _ => hb.block i hi
theorem BOff.ofBs (h : Bs w A l) (hM : ∀ b off, A = some ⟨b, off, none⟩ → ¬ M b) : BOff w M A l := fun hl => by
  obtain ⟨b, off, e, hb, hc⟩ := h.2 hl
  exact ⟨b, off, e, hb, hM b off e, hc⟩

theorem run_arrayAt (A : Option Addr) (n c : Nat) (h : 64 ≤ n) (w : World) : (Instr.arrayAt 48 (.slice A n c)).run Try.prog w = .ok (.pointer A) w := by
  have hn : ¬ n < 64 := by omega
  simp [Instr.arrayAt, run_underlying Try.underlying48, hn, Result.andThen]

set_option maxRecDepth 100000 in
set_option maxHeartbeats 1600000 in
theorem write_any (h : PlAt w M g r m P) (x : Int) (hx : Wf x) (n c : Nat) (hn : l.length = n) (hnm : n ≤ maxLen) (hb : BOff w M A l) :
    Calls Try.prog 6 #[.pointer (some ⟨g, 0, none⟩), .int .i64 x, .slice A n c] w fun e w' => e = .returned (.int .i64 (writeP P x l).1) ∧ PlAt w' M g r m (writeP P x l).2 ∧ Out (GRM g r m) w w' := by
  unfold maxLen at hnm
  have hla := lacks_any h x
  have hfa := fails_any h
  have hn2 := h.wl.n2
  have hwl := h.wl.wt
  have Hh := Lib.hid (And.intro h (And.intro hb hn))
  clear h hb
  unfold writeP
  by_cases h0 : lackE P x = 0
  rotate_left
  · rw [if_pos h0]
    obtain ⟨E, hE⟩ : ∃ E, lackE P x = E := ⟨_, rfl⟩
    rw [hE] at hla h0 ⊢
    have hE0 : (E != 0) = true := by simpa using h0
    have Hla := Lib.hid hla
    clear hla hE hfa hn h0
    go_enter Try.func6, Try.ntmps6
    go_wp2_with (go_at_call 17; refine Hla.out.mono ?_; rintro e w' ⟨rfl, rfl⟩)
    go_ret
    exact ⟨rfl, Hh.out.1, Out.refl _ _⟩
  · have hin : 0 ≤ x ∧ x < P.st.length := by
      unfold lackE Pl.n at h0
      split at h0
      · cases h0
      · split at h0
        · assumption
        · cases h0
    obtain ⟨i, rfl⟩ : ∃ i : Nat, x = (i : Int) := ⟨x.toNat, by omega⟩
    have hi : i < P.st.length := by omega
    rw [if_neg (by rw [h0]; decide)]
    rw [h0] at hla
    have Hla := Lib.hid hla
    clear hla h0 hin
    by_cases h64 : n = 64
    rotate_left
    · rw [if_pos (by rw [hn]; exact h64)]
      have b64 : ((n : Int) != 64) = true := by simp; omega
      clear hfa hn
      go_enter Try.func6, Try.ntmps6
      go_wp2_with (go_at_call 17; refine Hla.out.mono ?_; rintro e w' ⟨rfl, rfl⟩)
      go_ret
      exact ⟨rfl, Hh.out.1, Out.refl _ _⟩
    · subst h64
      rw [if_neg (by rw [hn]; decide)]
      by_cases ha : P.ah = 0
      · rw [if_pos ha] at hfa ⊢
        have e2 : decide (P.ah = 0) = true := by simp [ha]
        rw [e2] at hfa
        have Hfa := Lib.hid hfa
        clear hfa e2 ha hn
        go_enter Try.func6, Try.ntmps6
        go_wp2_with (first
          | (go_at_call 17; refine Hla.out.mono ?_; rintro e w' ⟨rfl, rfl⟩)
          | (go_at_call 20; refine Hfa.out.mono ?_; rintro e w1 ⟨rfl, h1, h2⟩))
        go_ret
        exact ⟨rfl, h1, h2⟩
      · rw [if_neg ha] at hfa ⊢
        have e2 : decide (P.ah = 0) = false := by simp [ha]
        rw [e2] at hfa
        obtain ⟨R, hR, est, ewt⟩ : ∃ R, count P = R ∧ R.st = P.st ∧ R.wt = P.wt := ⟨_, rfl, count_st P, count_wt P⟩
        have efin : (⟨(count P).st, P.wt.set i (some l), (count P).dead, (count P).ah, (count P).kp⟩ : Pl) = { R with wt := R.wt.set i (some l) } := by rw [hR, ewt]
        change Calls _ _ _ _ (fun e w' => e = .returned (.int .i64 0) ∧ PlAt w' M g r m ⟨(count P).st, P.wt.set (i : Int).toNat (some l), (count P).dead, (count P).ah, (count P).kp⟩ ∧ Out (GRM g r m) w w')
        rw [Int.toNat_natCast, efin]
        rw [hR] at hfa
        have hiR : i < R.wt.length := by rw [ewt, hwl]; exact hi
        have Hfa := Lib.hid hfa
        clear hfa e2 ha hR est ewt efin hwl
        go_enter Try.func6, Try.ntmps6
        go_wp2_with (first
          | (go_at_call 17; refine Hla.out.mono ?_; rintro e w' ⟨rfl, rfl⟩)
          | (go_at_call 20; refine Hfa.out.mono ?_; rintro e w1 ⟨rfl, h1, h2⟩))
        have hM : ∀ i, GRM g r m i → M i := fun i e => by
          rcases e with rfl | rfl | rfl
          · exact h1.mg
          · exact h1.mr
          · exact h1.mm
        obtain ⟨b, off, rfl, hblt, hMb, hc⟩ := (((Hh.out.2.1).out h2 hM).below ((Below.refl _ _).drew)) (by rw [hn]; decide)
        obtain ⟨D, hD, hDl, hDa⟩ : ∃ D, cbs l = D ∧ D.length = 64 ∧ D.toArray.all (·.oneCell') = true := ⟨_, rfl, by rw [cbs_length]; exact hn, cbs_all _⟩
        have hinf : (Try.prog.info? 48).map (·.size) = some D.length := by rw [hDl]; exact info64
        have hR : w1.drew.rangeAt b off D := fun j v hv => hc j v (by rw [hD]; exact hv)
        obtain ⟨w3, hrun, hturn, hm3⟩ := h1.drew.map.put h1.drew.size hiR l
        obtain ⟨hP3, hO3⟩ := h1.drew.mapped hturn hm3 (h1.wl.put i l hn)
        have hrun' : (Instr.mapUpdate 37 (.map (some m)) (.int .i64 (i : Int)) (.agg D.toArray)).run Try.prog w1.drew = .ok () w3 := by rw [← hD]; exact hrun
        obtain ⟨kv1, hb1, _⟩ := h1.drew.blk
        obtain ⟨kv3, hb3, _⟩ := hP3.blk
        have c1 : w1.drew.cell? ⟨g, 1, none⟩ = some (.map (some m)) := hb1.cell rfl
        have c3 : w3.cell? ⟨g, 1, none⟩ = some (.map (some m)) := hb3.cell rfl
        have hR3 : w3.rangeAt b off D := fun j v hv => by
          rw [World.cell?_of_block (hO3.block b hblt fun e => hMb (by rw [e]; exact h1.mm))]
          exact hR j v hv
        have harr := run_arrayAt (some ⟨b, off, none⟩) 64 c (Nat.le_refl _)
        have H := Lib.hid (And.intro hP3 ((h2.then_below ((Below.refl _ _).drew)).trans hO3 fun i _ e => .inr (.inr e)))
        clear h1 h2 hM hblt hMb hc hD hDl hDa hturn hm3 hP3 hO3 hrun hb1 hb3 hn hiR hi
        go_wp2
        have Q0 : w1.drew.cell? ⟨g, 1, none⟩ = some (.map (some m)) ∧ w1.drew.rangeAt b off D := ⟨c1, hR⟩
        have Q1 : w3.cell? ⟨g, 1, none⟩ = some (.map (some m)) ∧ w3.rangeAt b off D := ⟨c3, hR3⟩
        refine wp_region_held_drew (S := fun W' => W'.cell? ⟨g, 1, none⟩ = some (.map (some m)) ∧ W'.rangeAt b off D) (by kernel_rfl) Q0 (fun _ => ?_)
        refine anyH_take (i := 0) (d := 19) (v := ?v0) rfl rfl (by kernel_rfl) (by kernel_rfl) (by kernel_rfl) (fun _ _ _ h => h) (Or.inl ⟨by rfl, ?y0⟩) Q0 ?r0
        case y0 => (intro w; go_simp; try with_reducible rfl)
        simp only [List.setIfInBounds_toArray, List.set_cons_zero, List.set_cons_succ]
        refine anyH_take (i := 1) (d := 20) (v := ?v1) rfl rfl (by kernel_rfl) (by kernel_rfl) (by kernel_rfl) (fun _ _ _ h => h) (Or.inl ⟨by rfl, ?y1⟩) Q0 ?r1
        case y1 => (intro w; go_simp; try with_reducible rfl)
        simp only [List.setIfInBounds_toArray, List.set_cons_zero, List.set_cons_succ]
        refine anyH_take (i := 2) (d := 21) (v := ?v2) rfl rfl (by kernel_rfl) (by kernel_rfl) (by kernel_rfl) (fun _ _ _ h => h) (Or.inl ⟨by rfl, ?y2⟩) Q0 ?r2
        case y2 => (intro w; go_simp; try with_reducible rfl)
        simp only [List.setIfInBounds_toArray, List.set_cons_zero, List.set_cons_succ]
        refine wpAnyH_take' (i := 3) (d := 22) (v := ?v3) rfl rfl (by kernel_rfl) (by kernel_rfl) (by kernel_rfl) (fun _ _ _ h => h) (Or.inl ⟨by rfl, ?y3⟩) Q0 ?r3
        case y3 => (intro w hSw; go_split_ands; go_simp; try with_reducible rfl)
        simp only [List.setIfInBounds_toArray, List.set_cons_zero, List.set_cons_succ]
        refine anyH_take (i := 4) (d := 23) (v := ?v4) rfl rfl (by kernel_rfl) (by kernel_rfl) (by kernel_rfl) (fun _ _ _ h => h) (Or.inl ⟨by rfl, ?y4⟩) Q0 ?r4
        case y4 => (intro w; go_simp; try with_reducible rfl)
        simp only [List.setIfInBounds_toArray, List.set_cons_zero, List.set_cons_succ]
        refine anyH_take (i := 5) (d := 24) (v := ?v5) rfl rfl (by kernel_rfl) (by kernel_rfl) (by kernel_rfl) (fun _ _ _ h => h) (Or.inl ⟨by rfl, ?y5⟩) Q0 ?r5
        case y5 => (intro w; go_simp; try with_reducible rfl)
        simp only [List.setIfInBounds_toArray, List.set_cons_zero, List.set_cons_succ]
        refine anyH_take (i := 6) (d := 25) (v := ?v6) rfl rfl (by kernel_rfl) (by kernel_rfl) (by kernel_rfl) (fun _ _ _ h => h) (Or.inl ⟨by rfl, ?y6⟩) Q0 ?r6
        case y6 => (intro w; go_simp; try with_reducible rfl)
        simp only [List.setIfInBounds_toArray, List.set_cons_zero, List.set_cons_succ]
        refine anyH_load (i := 7) (d := 26) rfl rfl (by kernel_rfl) (by kernel_rfl) (by kernel_rfl) (by rfl) 48 _ rfl b off rfl D _ (fun _ h => h.2) Try.underlying48 rfl hinf (fun _ _ _ h => h) Q0 ?_
        simp only [List.setIfInBounds_toArray, List.set_cons_zero, List.set_cons_succ]
        refine anyH_one (i := 8) (by kernel_rfl) ?_
        refine wpOp_step rfl (fun K hK => ?_)
        go_simp
        refine hK _ _ ⟨Q1, ?_⟩
        clear hK K
        refine wpAnyH_done (by kernel_rfl) ?_ _
        go_wp2
        go_ret
        exact ⟨rfl, H.out⟩
end
end Go.Proofs.Ytmcbjcopipafdaa
