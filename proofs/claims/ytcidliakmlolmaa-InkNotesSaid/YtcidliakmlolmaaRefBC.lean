/-
  The document's book: Clash, over the document's text.
-/
import Derived.Test.YtcidliakmlolmaaRefB
import Derived.Test.YtcidliakmlolmaaClash3
namespace Go.Proofs.Ytcidliakmlolmaa
open Go.RowKit Go.Maps
set_option linter.unusedVariables false

/-- Two of the inputs have one digest, or one has that of noughts alone. -/
def Clashed (L : List (List UInt8)) : Prop := ∃ i, ∃ hi : i < L.length, digest L[i] = List.replicate 32 0 ∨ ∃ k, ∃ hk : k < i, digest L[i] = digest (L[k]'(by omega))
def Clear (L : List (List UInt8)) (n : Nat) : Prop := ∀ i (hi : i < L.length), i < n → digest L[i] ≠ List.replicate 32 0 ∧ ∀ k (hk : k < i), digest L[i] ≠ digest (L[k]'(by omega))
theorem Clear.all {L : List (List UInt8)} {n : Nat} (h : Clear L n) (hn : L.length ≤ n) : ¬ Clashed L := by
  rintro ⟨i, hi, h1 | ⟨k, hk, h2⟩⟩
  · exact (h i hi (by omega)).1 h1
  · exact (h i hi (by omega)).2 k hk h2

theorem held_next {W W' wr : World} {a b c : Addr} {x y z : Value} (h : Below wr.heap.size wr W ∧ W.cell? a = some x ∧ W.cell? b = some y ∧ W.cell? c = some z) (hb : Below W.heap.size W W') :
    Below wr.heap.size wr W' ∧ W'.cell? a = some x ∧ W'.cell? b = some y ∧ W'.cell? c = some z :=
  ⟨h.1.trans (hb.mono h.1.size), (hb.cell (World.block_lt_of_cell? _ _ h.2.1)).trans h.2.1, (hb.cell (World.block_lt_of_cell? _ _ h.2.2.1)).trans h.2.2.1, (hb.cell (World.block_lt_of_cell? _ _ h.2.2.2)).trans h.2.2.2⟩

set_option maxRecDepth 100000 in
set_option maxHeartbeats 3200000 in
theorem rclash_any {w : World} {S : Nat → Prop} {g k : Nat} {v : Value} {L : List (List UInt8)} (h : RefBk w S g v L k) (hL : L.length < 1000000) (h6 : ∀ x ∈ L, x.length ≤ 65536) (c : Bool) (hc : c = true ↔ Clashed L) :
    Calls Try.prog 15 #[.pointer (some ⟨g, 0, none⟩)] w fun e w' => e = .returned (.bool c) ∧ Below w.heap.size w w' := by
  obtain ⟨Ar, cr, rfl, _, _⟩ := h.row.form
  obtain ⟨N, hN⟩ : ∃ N, L.length = N := ⟨_, rfl⟩
  have H := Lib.hid (And.intro h (And.intro h6 (And.intro hc hN)))
  have hN1 := Lib.hid hL
  clear h h6 hc hL
  go_enter Try.func15, Try.ntmps15
  go_wp2_with fail
  go_loopw [3] (fun v wr => ∃ i : Nat, i ≤ N ∧ v = .int .i64 i ∧ Clear L i ∧ Below w.heap.size w wr) (fun v _ => N - (intOf v).toNat)
  case atStart => exact ⟨0, Nat.zero_le _, rfl, fun i hi h0 => absurd h0 (Nat.not_lt_zero _), Below.refl _ _⟩
  case round =>
    obtain ⟨i, hi, rfl, hcl, hnx⟩ := hrel
    have hR := H.out.1.below hnx
    have c0 : wr.cell? ⟨g, 0, none⟩ = some (.slice Ar L.length cr) := hR.blk.cell rfl
    rw [hN] at c0
    have hi0 : (0 : Int) ≤ i := by omega
    by_cases hlt : i < N
    · have hiL : i < L.length := by omega
      obtain ⟨b, Ax, cx, cr', hv, hcell, hlx, hcx, hBx⟩ := hR.row.at_ (j := i) hiL
      injection hv with hv1 _ hv3
      subst hv1
      subst hv3
      have hi1 : (i : Int) < N := by omega
      obtain ⟨x, hx⟩ : ∃ x, L[i] = x := ⟨_, rfl⟩
      rw [hx] at hcell hlx hBx
      obtain ⟨nx, hnxx⟩ : ∃ nx, x.length = nx := ⟨_, rfl⟩
      rw [hnxx] at hcell hlx
      have hx6 : nx ≤ 65536 := by rw [← hnxx, ← hx]; exact H.out.2.1 _ (List.getElem_mem hiL)
      have hro := refOf_any Ax cx nx x wr hBx hnxx (by omega)
      obtain ⟨D, hD32, hDv⟩ : ∃ D : List Value, D.length = 32 ∧ cbs (digest x) = D := ⟨cbs (digest x), by rw [cbs_length, dlen], rfl⟩
      rw [hDv] at hro
      have Hro := Lib.hid hro
      have hz := eq_zero32 D x hDv
      have Hx := Lib.hid (And.intro hx (And.intro hcl (And.intro hnx (And.intro hR (And.intro hDv (And.intro hcell (And.intro hBx hnxx)))))))
      clear hro hx hcl hnx hR hDv hlx hcx hBx hnxx
      cases hzb : (digest x == List.replicate 32 0) with
      | true =>
        rw [hzb] at hz
        have hct : c = true := H.out.2.2.1.2 ⟨i, hiL, .inl (by rw [Hx.out.1]; exact beq_iff_eq.1 hzb)⟩
        clear hzb
        go_wp2_with fail
        refine Hro.out.mono ?_
        rintro e w1 ⟨rfl, hb1⟩
        have Hb := Lib.hid (Hx.out.2.2.1.trans (hb1.mono Hx.out.2.2.1.size))
        clear hb1
        go_wp2
        go_ret
        exact ⟨by first | rfl | exact ret_bool hct.symm, Hb.out⟩
      | false =>
        rw [hzb] at hz
        have Hzb := Lib.hid hzb
        clear hzb
        go_wp2_with fail
        refine Hro.out.mono ?_
        rintro e w1 ⟨rfl, hb1⟩
        have hb1' : Below w.heap.size w w1 := Hx.out.2.2.1.trans (hb1.mono Hx.out.2.2.1.size)
        have Hb := Lib.hid hb1'
        clear hb1 hb1' c0 hcell
        go_wp2
        go_loopw [4] (fun v wr => ∃ q : Nat, q ≤ i ∧ v = .int .i64 q ∧ (∀ p (hp : p < L.length), p < q → digest x ≠ digest L[p]) ∧ Below w.heap.size w wr) (fun v _ => i - (intOf v).toNat)
        case atStart => exact ⟨0, Nat.zero_le _, rfl, fun p hp h0 => absurd h0 (Nat.not_lt_zero _), Hb.out⟩
        case round =>
          obtain ⟨q, hq, rfl, hne, hnx⟩ := hrel
          have hq0 : (0 : Int) ≤ q := by omega
          by_cases hqi : q < i
          · have hqL : q < L.length := by omega
            have hq1 : (q : Int) < i := by omega
            have hq2 : (q : Int) < N := by omega
            have hbd : Below w.heap.size w wr.drew := hnx.drew
            have hRd := H.out.1.below hbd
            have c0 : wr.drew.cell? ⟨g, 0, none⟩ = some (.slice (some ⟨b, 0, none⟩) L.length cr) := hRd.blk.cell rfl
            obtain ⟨b1, A1, c1, cr1, hv1, hcell1, hl1, hc1, hB1⟩ := hRd.row.at_ (j := i) hiL
            obtain ⟨b2, A2, c2, cr2, hv2, hcell2, hl2, hc2, hB2⟩ := hRd.row.at_ (j := q) hqL
            cases hv1
            cases hv2
            obtain ⟨y, hy⟩ : ∃ y, L[q] = y := ⟨_, rfl⟩
            rw [Hx.out.1, Hx.out.2.2.2.2.2.2.2] at hcell1
            rw [Hx.out.1] at hB1
            rw [hy] at hcell2 hB2
            obtain ⟨ny, hny⟩ : ∃ ny, y.length = ny := ⟨_, rfl⟩
            rw [hny] at hcell2
            have hy6 : ny ≤ 65536 := by rw [← hny, ← hy]; exact H.out.2.1 _ (List.getElem_mem hqL)
            obtain ⟨E, hE32, hEv⟩ : ∃ E : List Value, E.length = 32 ∧ cbs (digest y) = E := ⟨cbs (digest y), by rw [cbs_length, dlen], rfl⟩
            have hoA := fun W (hW : Below wr.drew.heap.size wr.drew W) => refOf_any A1 c1 nx x W (hB1.after hW) Hx.out.2.2.2.2.2.2.2 (by omega)
            have hoB := fun W (hW : Below wr.drew.heap.size wr.drew W) => refOf_any A2 c2 ny y W (hB2.after hW) hny (by omega)
            rw [Hx.out.2.2.2.2.1] at hoA
            rw [hEv] at hoB
            have heq := fun W => eq_digests W (digest x) (digest y) (dlen x) (dlen y)
            rw [Hx.out.2.2.2.2.1, hEv] at heq
            rw [hN] at c0
            have q0 : Below wr.drew.heap.size wr.drew wr.drew ∧ wr.drew.cell? ⟨g, 0, none⟩ = some (.slice (some ⟨b, 0, none⟩) N cr) ∧ wr.drew.cell? ((⟨b, 0, none⟩ : Addr).add i) = some (.slice A1 nx c1) ∧ wr.drew.cell? ((⟨b, 0, none⟩ : Addr).add q) = some (.slice A2 ny c2) :=
              ⟨Below.refl _ _, c0, by rw [add_mk, Nat.zero_add]; exact hcell1, by rw [add_mk, Nat.zero_add]; exact hcell2⟩
            rw [add_mk, add_mk, Nat.zero_add, Nat.zero_add] at q0
            have HoA := Lib.hid hoA
            have HoB := Lib.hid hoB
            have Hq := Lib.hid (And.intro hne (And.intro hbd (And.intro hy hnx)))
            clear hoA hoB hcell1 hcell2 c0 hB1 hB2 hl1 hl2 hc1 hc2 hRd hne hbd hy hny hnx hE32 hEv
            cases hxy : (digest x == digest y) with
            | true =>
              rw [hxy] at heq
              have hct : c = true := H.out.2.2.1.2 ⟨i, hiL, .inr ⟨q, hqi, by rw [Hx.out.1, Hq.out.2.2.1]; exact beq_iff_eq.1 hxy⟩⟩
              clear hxy
              go_wp2
              refine wp_region_held_drew (S := (fun W' => Below wr.drew.heap.size wr.drew W' ∧ W'.cell? ⟨g, 0, none⟩ = some (.slice (some ⟨b, 0, none⟩) N cr) ∧ W'.cell? ⟨b, i, none⟩ = some (.slice A1 nx c1) ∧ W'.cell? ⟨b, q, none⟩ = some (.slice A2 ny c2))) (by kernel_rfl) q0 (fun _ => ?_)
              refine anyH_take (i := 0) (d := 29) (v := ?v0h) rfl rfl (by kernel_rfl) (by kernel_rfl) (by kernel_rfl) (fun _ _ _ h => h) (Or.inl ⟨by rfl, ?y0h⟩) q0 ?r0h
              case y0h => (intro w; go_simp; try with_reducible rfl)
              simp only [List.setIfInBounds_toArray, List.set_cons_zero, List.set_cons_succ]
              refine anyH_take (i := 1) (d := 30) (v := ?v1h) rfl rfl (by kernel_rfl) (by kernel_rfl) (by kernel_rfl) (fun _ _ _ h => h) (Or.inl ⟨by rfl, ?y1h⟩) q0 ?r1h
              case y1h => (intro w; go_simp; try with_reducible rfl)
              simp only [List.setIfInBounds_toArray, List.set_cons_zero, List.set_cons_succ]
              refine anyH_take (i := 2) (d := 31) (v := ?v2h) rfl rfl (by kernel_rfl) (by kernel_rfl) (by kernel_rfl) (fun _ _ _ h => h) (Or.inl ⟨by rfl, ?y2h⟩) q0 ?r2h
              case y2h => (intro w; go_simp; try with_reducible rfl)
              simp only [List.setIfInBounds_toArray, List.set_cons_zero, List.set_cons_succ]
              refine wpAnyH_take' (i := 3) (d := 32) (v := ?v3h) rfl rfl (by kernel_rfl) (by kernel_rfl) (by kernel_rfl) (fun _ _ _ h => h) (Or.inl ⟨by rfl, ?y3h⟩) q0 ?r3h
              case y3h => (intro w hSw; go_split_ands; go_simp; try with_reducible rfl)
              simp only [List.setIfInBounds_toArray, List.set_cons_zero, List.set_cons_succ]
              refine anyH_take (i := 4) (d := 33) (v := ?v4h) rfl rfl (by kernel_rfl) (by kernel_rfl) (by kernel_rfl) (fun _ _ _ h => h) (Or.inl ⟨by rfl, ?y4h⟩) q0 ?r4h
              case y4h => (intro w; go_simp; try with_reducible rfl)
              simp only [List.setIfInBounds_toArray, List.set_cons_zero, List.set_cons_succ]
              refine anyH_take (i := 5) (d := 34) (v := ?v5h) rfl rfl (by kernel_rfl) (by kernel_rfl) (by kernel_rfl) (fun _ _ _ h => h) (Or.inl ⟨by rfl, ?y5h⟩) q0 ?r5h
              case y5h => (intro w; go_simp; try with_reducible rfl)
              simp only [List.setIfInBounds_toArray, List.set_cons_zero, List.set_cons_succ]
              refine wpAnyH_take' (i := 6) (d := 35) (v := ?v6h) rfl rfl (by kernel_rfl) (by kernel_rfl) (by kernel_rfl) (fun _ _ _ h => h) (Or.inl ⟨by rfl, ?y6h⟩) q0 ?r6h
              case y6h => (intro w hSw; go_split_ands; go_simp; try with_reducible rfl)
              simp only [List.setIfInBounds_toArray, List.set_cons_zero, List.set_cons_succ]
              refine anyH_take (i := 8) (d := 37) (v := ?v8h) rfl rfl (by kernel_rfl) (by kernel_rfl) (by kernel_rfl) (fun _ _ _ h => h) (Or.inl ⟨by rfl, ?y8h⟩) q0 ?r8h
              case y8h => (intro w; go_simp; try with_reducible rfl)
              simp only [List.setIfInBounds_toArray, List.set_cons_zero, List.set_cons_succ]
              refine anyH_take (i := 9) (d := 38) (v := ?v9h) rfl rfl (by kernel_rfl) (by kernel_rfl) (by kernel_rfl) (fun _ _ _ h => h) (Or.inl ⟨by rfl, ?y9h⟩) q0 ?r9h
              case y9h => (intro w; go_simp; try with_reducible rfl)
              simp only [List.setIfInBounds_toArray, List.set_cons_zero, List.set_cons_succ]
              refine anyH_take (i := 10) (d := 39) (v := ?v10h) rfl rfl (by kernel_rfl) (by kernel_rfl) (by kernel_rfl) (fun _ _ _ h => h) (Or.inl ⟨by rfl, ?y10h⟩) q0 ?r10h
              case y10h => (intro w; go_simp; try with_reducible rfl)
              simp only [List.setIfInBounds_toArray, List.set_cons_zero, List.set_cons_succ]
              refine wpAnyH_take' (i := 11) (d := 40) (v := ?v11h) rfl rfl (by kernel_rfl) (by kernel_rfl) (by kernel_rfl) (fun _ _ _ h => h) (Or.inl ⟨by rfl, ?y11h⟩) q0 ?r11h
              case y11h => (intro w hSw; go_split_ands; go_simp; try with_reducible rfl)
              simp only [List.setIfInBounds_toArray, List.set_cons_zero, List.set_cons_succ]
              refine anyH_take (i := 12) (d := 41) (v := ?v12h) rfl rfl (by kernel_rfl) (by kernel_rfl) (by kernel_rfl) (fun _ _ _ h => h) (Or.inl ⟨by rfl, ?y12h⟩) q0 ?r12h
              case y12h => (intro w; go_simp; try with_reducible rfl)
              simp only [List.setIfInBounds_toArray, List.set_cons_zero, List.set_cons_succ]
              refine anyH_take (i := 13) (d := 42) (v := ?v13h) rfl rfl (by kernel_rfl) (by kernel_rfl) (by kernel_rfl) (fun _ _ _ h => h) (Or.inl ⟨by rfl, ?y13h⟩) q0 ?r13h
              case y13h => (intro w; go_simp; try with_reducible rfl)
              simp only [List.setIfInBounds_toArray, List.set_cons_zero, List.set_cons_succ]
              refine wpAnyH_take' (i := 14) (d := 43) (v := ?v14h) rfl rfl (by kernel_rfl) (by kernel_rfl) (by kernel_rfl) (fun _ _ _ h => h) (Or.inl ⟨by rfl, ?y14h⟩) q0 ?r14h
              case y14h => (intro w hSw; go_split_ands; go_simp; try with_reducible rfl)
              simp only [List.setIfInBounds_toArray, List.set_cons_zero, List.set_cons_succ]
              refine anyH_one (i := 7) (by kernel_rfl) ?_
              refine wpOp_step rfl (fun K hK => ?_)
              go_simp
              refine (HoA.out _ q0.1).mono ?_
              rintro e wA ⟨rfl, hbwA⟩
              have qA := held_next q0 hbwA
              refine hK _ _ ⟨qA, ?_⟩
              clear hK K
              refine anyH_one (i := 15) (by kernel_rfl) ?_
              refine wpOp_step rfl (fun K hK => ?_)
              go_simp
              refine (HoB.out _ qA.1).mono ?_
              rintro e wB ⟨rfl, hbwB⟩
              have qB := held_next qA hbwB
              refine hK _ _ ⟨qB, ?_⟩
              clear hK K
              refine anyH_take (i := 16) (d := 45) (v := ?v16h15x) rfl rfl (by kernel_rfl) (by kernel_rfl) (by kernel_rfl) (fun _ _ _ h => h) (Or.inl ⟨by rfl, ?y16h15x⟩) qB ?r16h15x
              case y16h15x => (intro w; go_simp; try with_reducible rfl)
              simp only [List.setIfInBounds_toArray, List.set_cons_zero, List.set_cons_succ]
              refine wpAnyH_done (by kernel_rfl) ?_ _
              have Hz := Lib.hid (Hq.out.2.1.trans (qB.1.mono Hq.out.2.1.size))
              clear qA qB hbwA hbwB q0
              go_wp2
              go_ret
              exact ⟨by first | rfl | exact ret_bool hct.symm, Hz.out⟩
            | false =>
              rw [hxy] at heq
              have Hxy := Lib.hid hxy
              clear hxy
              go_wp2
              refine wp_region_held_drew (S := (fun W' => Below wr.drew.heap.size wr.drew W' ∧ W'.cell? ⟨g, 0, none⟩ = some (.slice (some ⟨b, 0, none⟩) N cr) ∧ W'.cell? ⟨b, i, none⟩ = some (.slice A1 nx c1) ∧ W'.cell? ⟨b, q, none⟩ = some (.slice A2 ny c2))) (by kernel_rfl) q0 (fun _ => ?_)
              refine anyH_take (i := 0) (d := 29) (v := ?v0m) rfl rfl (by kernel_rfl) (by kernel_rfl) (by kernel_rfl) (fun _ _ _ h => h) (Or.inl ⟨by rfl, ?y0m⟩) q0 ?r0m
              case y0m => (intro w; go_simp; try with_reducible rfl)
              simp only [List.setIfInBounds_toArray, List.set_cons_zero, List.set_cons_succ]
              refine anyH_take (i := 1) (d := 30) (v := ?v1m) rfl rfl (by kernel_rfl) (by kernel_rfl) (by kernel_rfl) (fun _ _ _ h => h) (Or.inl ⟨by rfl, ?y1m⟩) q0 ?r1m
              case y1m => (intro w; go_simp; try with_reducible rfl)
              simp only [List.setIfInBounds_toArray, List.set_cons_zero, List.set_cons_succ]
              refine anyH_take (i := 2) (d := 31) (v := ?v2m) rfl rfl (by kernel_rfl) (by kernel_rfl) (by kernel_rfl) (fun _ _ _ h => h) (Or.inl ⟨by rfl, ?y2m⟩) q0 ?r2m
              case y2m => (intro w; go_simp; try with_reducible rfl)
              simp only [List.setIfInBounds_toArray, List.set_cons_zero, List.set_cons_succ]
              refine wpAnyH_take' (i := 3) (d := 32) (v := ?v3m) rfl rfl (by kernel_rfl) (by kernel_rfl) (by kernel_rfl) (fun _ _ _ h => h) (Or.inl ⟨by rfl, ?y3m⟩) q0 ?r3m
              case y3m => (intro w hSw; go_split_ands; go_simp; try with_reducible rfl)
              simp only [List.setIfInBounds_toArray, List.set_cons_zero, List.set_cons_succ]
              refine anyH_take (i := 4) (d := 33) (v := ?v4m) rfl rfl (by kernel_rfl) (by kernel_rfl) (by kernel_rfl) (fun _ _ _ h => h) (Or.inl ⟨by rfl, ?y4m⟩) q0 ?r4m
              case y4m => (intro w; go_simp; try with_reducible rfl)
              simp only [List.setIfInBounds_toArray, List.set_cons_zero, List.set_cons_succ]
              refine anyH_take (i := 5) (d := 34) (v := ?v5m) rfl rfl (by kernel_rfl) (by kernel_rfl) (by kernel_rfl) (fun _ _ _ h => h) (Or.inl ⟨by rfl, ?y5m⟩) q0 ?r5m
              case y5m => (intro w; go_simp; try with_reducible rfl)
              simp only [List.setIfInBounds_toArray, List.set_cons_zero, List.set_cons_succ]
              refine wpAnyH_take' (i := 6) (d := 35) (v := ?v6m) rfl rfl (by kernel_rfl) (by kernel_rfl) (by kernel_rfl) (fun _ _ _ h => h) (Or.inl ⟨by rfl, ?y6m⟩) q0 ?r6m
              case y6m => (intro w hSw; go_split_ands; go_simp; try with_reducible rfl)
              simp only [List.setIfInBounds_toArray, List.set_cons_zero, List.set_cons_succ]
              refine anyH_take (i := 8) (d := 37) (v := ?v8m) rfl rfl (by kernel_rfl) (by kernel_rfl) (by kernel_rfl) (fun _ _ _ h => h) (Or.inl ⟨by rfl, ?y8m⟩) q0 ?r8m
              case y8m => (intro w; go_simp; try with_reducible rfl)
              simp only [List.setIfInBounds_toArray, List.set_cons_zero, List.set_cons_succ]
              refine anyH_take (i := 9) (d := 38) (v := ?v9m) rfl rfl (by kernel_rfl) (by kernel_rfl) (by kernel_rfl) (fun _ _ _ h => h) (Or.inl ⟨by rfl, ?y9m⟩) q0 ?r9m
              case y9m => (intro w; go_simp; try with_reducible rfl)
              simp only [List.setIfInBounds_toArray, List.set_cons_zero, List.set_cons_succ]
              refine anyH_take (i := 10) (d := 39) (v := ?v10m) rfl rfl (by kernel_rfl) (by kernel_rfl) (by kernel_rfl) (fun _ _ _ h => h) (Or.inl ⟨by rfl, ?y10m⟩) q0 ?r10m
              case y10m => (intro w; go_simp; try with_reducible rfl)
              simp only [List.setIfInBounds_toArray, List.set_cons_zero, List.set_cons_succ]
              refine wpAnyH_take' (i := 11) (d := 40) (v := ?v11m) rfl rfl (by kernel_rfl) (by kernel_rfl) (by kernel_rfl) (fun _ _ _ h => h) (Or.inl ⟨by rfl, ?y11m⟩) q0 ?r11m
              case y11m => (intro w hSw; go_split_ands; go_simp; try with_reducible rfl)
              simp only [List.setIfInBounds_toArray, List.set_cons_zero, List.set_cons_succ]
              refine anyH_take (i := 12) (d := 41) (v := ?v12m) rfl rfl (by kernel_rfl) (by kernel_rfl) (by kernel_rfl) (fun _ _ _ h => h) (Or.inl ⟨by rfl, ?y12m⟩) q0 ?r12m
              case y12m => (intro w; go_simp; try with_reducible rfl)
              simp only [List.setIfInBounds_toArray, List.set_cons_zero, List.set_cons_succ]
              refine anyH_take (i := 13) (d := 42) (v := ?v13m) rfl rfl (by kernel_rfl) (by kernel_rfl) (by kernel_rfl) (fun _ _ _ h => h) (Or.inl ⟨by rfl, ?y13m⟩) q0 ?r13m
              case y13m => (intro w; go_simp; try with_reducible rfl)
              simp only [List.setIfInBounds_toArray, List.set_cons_zero, List.set_cons_succ]
              refine wpAnyH_take' (i := 14) (d := 43) (v := ?v14m) rfl rfl (by kernel_rfl) (by kernel_rfl) (by kernel_rfl) (fun _ _ _ h => h) (Or.inl ⟨by rfl, ?y14m⟩) q0 ?r14m
              case y14m => (intro w hSw; go_split_ands; go_simp; try with_reducible rfl)
              simp only [List.setIfInBounds_toArray, List.set_cons_zero, List.set_cons_succ]
              refine anyH_one (i := 7) (by kernel_rfl) ?_
              refine wpOp_step rfl (fun K hK => ?_)
              go_simp
              refine (HoA.out _ q0.1).mono ?_
              rintro e wA ⟨rfl, hbwA⟩
              have qA := held_next q0 hbwA
              refine hK _ _ ⟨qA, ?_⟩
              clear hK K
              refine anyH_one (i := 15) (by kernel_rfl) ?_
              refine wpOp_step rfl (fun K hK => ?_)
              go_simp
              refine (HoB.out _ qA.1).mono ?_
              rintro e wB ⟨rfl, hbwB⟩
              have qB := held_next qA hbwB
              refine hK _ _ ⟨qB, ?_⟩
              clear hK K
              refine anyH_take (i := 16) (d := 45) (v := ?v16m15x) rfl rfl (by kernel_rfl) (by kernel_rfl) (by kernel_rfl) (fun _ _ _ h => h) (Or.inl ⟨by rfl, ?y16m15x⟩) qB ?r16m15x
              case y16m15x => (intro w; go_simp; try with_reducible rfl)
              simp only [List.setIfInBounds_toArray, List.set_cons_zero, List.set_cons_succ]
              refine wpAnyH_done (by kernel_rfl) ?_ _
              have Hz := Lib.hid (Hq.out.2.1.trans (qB.1.mono Hq.out.2.1.size))
              clear qA qB hbwA hbwB q0
              have hq9 : (q : Int) ≤ 140737488355328 := by have := hN1.out; omega
              go_wp2
              go_roundw
              case rel =>
                refine ⟨q + 1, by omega, by go_num, fun p hp hpq => ?_, Hz.out⟩
                by_cases hpe : p = q
                · subst hpe
                  rw [Hq.out.2.2.1]
                  exact beq_eq_false_iff_ne.1 Hxy.out
                · exact Hq.out.1 p hp (by omega)
              case measure => simp [intOf]; omega
          · have hqe : q = i := by omega
            subst hqe
            have hq1 : ¬ (q : Int) < q := by omega
            have Hz := Lib.hid (And.intro hne hnx)
            have Hzz := Lib.hid Hzb.out
            clear hne hnx
            have hq9 : (q : Int) ≤ 140737488355328 := by have := hN1.out; omega
            go_wp2
            go_roundw
            case rel =>
              refine ⟨q + 1, by omega, by go_num, fun p hp hpq => ?_, Hz.out.2⟩
              by_cases hpe : p = q
              · subst hpe
                rw [Hx.out.1]
                exact ⟨beq_eq_false_iff_ne.1 Hzz.out, fun k' hk' => Hz.out.1 k' (by omega) hk'⟩
              · exact Hx.out.2.1 p hp (by omega)
            case measure => simp [intOf]; omega
    · have hie : i = N := by omega
      subst hie
      have hi1 : ¬ (i : Int) < i := by omega
      have hcf : c = false := by
        cases c with
        | false => rfl
        | true => exact absurd (H.out.2.2.1.1 rfl) (hcl.all (by omega))
      have Hb := Lib.hid hnx
      clear hcl hnx hR
      go_wp2
      go_ret
      exact ⟨by first | rfl | exact ret_bool hcf.symm, Hb.out⟩
end Go.Proofs.Ytcidliakmlolmaa
