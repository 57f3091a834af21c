/-
  The reference's ledger: a list of tags in memory; Name, has, Len, Asked.
-/
import Derived.Test.YtkmijmlcijbbcaaTagEq
import Derived.Test.YtkmijmlcijbbcaaTagE
import Derived.Test.YtkmijmlcijbbcaaTagK
namespace Go.Proofs.Ytkmijmlcijbbcaa
open Go.RowKit Go.Maps
set_option linter.unusedVariables false

def xcells (x : Tg) : List Value := tcells x.1 x.2.1 x.2.2
def txs (T : List Tg) : List Value := (T.map xcells).flatten
def okT (T : List Tg) : Prop := ∀ x ∈ T, x.2.2.length = 32
theorem xcells_len {x : Tg} (h : x.2.2.length = 32) : (xcells x).length = 34 := tcells_len _ _ _ h
theorem txs_cons (x : Tg) (T : List Tg) : txs (x :: T) = xcells x ++ txs T := by simp [txs]
theorem txs_snoc (T : List Tg) (x : Tg) : txs (T ++ [x]) = txs T ++ xcells x := by simp [txs]
theorem txs_at : ∀ (T : List Tg) (j i : Nat) (x : Tg), okT T → T[j]? = some x → i < 34 → (txs T)[j * 34 + i]? = (xcells x)[i]?
  | [], j, i, y, _, h, _ => by simp at h
  | z :: T, 0, i, y, hk, h, hi => by
    simp at h
    subst h
    rw [txs_cons, Nat.zero_mul, Nat.zero_add, List.getElem?_append_left (by rw [xcells_len (hk z (by simp))]; exact hi)]
  | z :: T, j + 1, i, y, hk, h, hi => by
    have hz := xcells_len (hk z (by simp))
    rw [txs_cons, List.getElem?_append_right (by rw [hz]; omega), hz]
    have e : (j + 1) * 34 + i - 34 = j * 34 + i := by omega
    rw [e]
    exact txs_at T j i y (fun x hx => hk x (by simp [hx])) (by simpa using h) hi

/-- The reference's ledger in memory. -/
def RefAt (w0 w : World) (g : Nat) (v : Value) (T : List Tg) (k : Nat) : Prop :=
  Blk w g 53 [v, .int .i64 (k : Int)] ∧ w.ownsRow w0.heap.size 59 34 v T.length (txs T) ∧ okT T ∧ w0.heap.size ≤ g ∧ Below w0.heap.size w0 w
section
variable {w0 w w' : World} {g k : Nat} {v : Value} {T : List Tg}
theorem row_kept {w w' : World} {base n s : Nat} {e : TypeId} {v : Value} {xs : List Value} (h : w.ownsRow base e s v n xs) (hk : ∀ b, v.ownBlock = some b → b < w.heap.size → w'.heap[b]? = w.heap[b]?) : w'.ownsRow base e s v n xs := by
  have hl := h
  obtain ⟨h1, h2 | ⟨g, cap, cur, h3, h4, h5, h6⟩⟩ := h
  · exact ⟨h1, .inl h2⟩
  · exact ⟨h1, .inr ⟨g, cap, cur, h3, h4, (hk g (by rw [h3]; rfl) (hl.lt g (by rw [h3]; rfl)).2).trans h5, h6⟩⟩
theorem RefAt.below (h : RefAt w0 w g v T k) (hb : Below w.heap.size w w') : RefAt w0 w' g v T k :=
  ⟨h.1.below hb h.1.lt, row_kept h.2.1 fun b _ hl => hb.block b hl, h.2.2.1, h.2.2.2.1, h.2.2.2.2.trans (hb.mono h.2.2.2.2.size)⟩
theorem row_at {base s : Nat} {e : TypeId} {n : Nat} {xs : List Value} (h : w.ownsRow base e s v n xs) (hn : 0 < n) : ∃ b c, v = .slice (some ⟨b, 0, none⟩) n c ∧ base ≤ b ∧ b < w.heap.size ∧ n ≤ c ∧ c ≤ maxLen ∧ ∀ j u, xs[j]? = some u → w.cell? ⟨b, j, none⟩ = some u := by
  have hl := h
  obtain ⟨h1, ⟨_, e0⟩ | ⟨b, cap, cur, h3, h4, h5, h6, h7, _⟩⟩ := h
  · omega
  · refine ⟨b, cap, h3, h4, (hl.lt b (by rw [h3]; rfl)).2, h6, h7, fun j u hu => ?_⟩
    have := hl.cells (g := b) (by rw [h3]; rfl) j u hu
    rw [add_mk, Nat.zero_add] at this
    exact this
theorem row_form' {base s : Nat} {e : TypeId} {n : Nat} {xs : List Value} (h : w.ownsRow base e s v n xs) : ∃ A c, v = .slice A n c ∧ n ≤ c ∧ c ≤ maxLen := by
  obtain ⟨h1, ⟨e, e0⟩ | ⟨g, cap, cur, e, _, _, h6, h7, _⟩⟩ := h
  · exact ⟨none, 0, by rw [e, e0], by omega, by simp [maxLen]⟩
  · exact ⟨_, cap, e, h6, h7⟩
end

theorem name_any (x : Int) (w : World) : Calls Try.prog 23 #[.int .i64 x] w fun e w' => e = .returned (.bool (isN x)) ∧ w' = w := by
  by_cases h1 : 1 ≤ x
  · by_cases h2 : x ≤ 34
    · have e : isN x = true := by simp [isN, h1, h2]
      rw [e]
      clear e
      go_enter Try.func23, Try.ntmps23
      go_wp2
      go_ret
      exact ⟨rfl, rfl⟩
    · have e : isN x = false := by simp [isN, h2]
      rw [e]
      clear e
      go_enter Try.func23, Try.ntmps23
      go_wp2
      go_ret
      exact ⟨rfl, rfl⟩
  · have e : isN x = false := by simp [isN, h1]
    rw [e]
    clear e
    go_enter Try.func23, Try.ntmps23
    go_wp2
    go_ret
    exact ⟨rfl, rfl⟩

theorem rlen_any (w0 w : World) (g k : Nat) (v : Value) (T : List Tg) (h : RefAt w0 w g v T k) (hT : T.length < 1000000) : Calls Try.prog 17 #[.pointer (some ⟨g, 0, none⟩)] w fun e w' => e = .returned (.int .i64 (T.length : Int)) ∧ w' = w := by
  have c0 : w.cell? ⟨g, 0, none⟩ = some v := h.1.cell rfl
  obtain ⟨A, c, rfl, hc, hcm⟩ := row_form' h.2.1
  unfold maxLen at hcm
  have hn : T.length ≤ 9223372036854775807 := by omega
  clear h
  generalize T.length = n at *
  go_enter Try.func17, Try.ntmps17
  go_wp2
  go_ret
  exact ⟨rfl, rfl⟩
theorem rasked_any (w0 w : World) (g k : Nat) (v : Value) (T : List Tg) (h : RefAt w0 w g v T k) : Calls Try.prog 19 #[.pointer (some ⟨g, 0, none⟩)] w fun e w' => e = .returned (.int .i64 (k : Int)) ∧ w' = w := by
  have c1 : w.cell? ⟨g, 1, none⟩ = some (.int .i64 (k : Int)) := h.1.cell rfl
  clear h
  go_enter Try.func19, Try.ntmps19
  go_wp2
  go_ret
  exact ⟨rfl, rfl⟩

theorem info34r : (Try.prog.info? 59).map (·.size) = some 34 := by kernel_rfl

set_option maxRecDepth 100000 in
set_option maxHeartbeats 1600000 in
theorem rhas_any (w0 w : World) (g k : Nat) (v : Value) (T : List Tg) (f t : Int) (d : List UInt8) (V : List Value) (h : RefAt w0 w g v T k) (hT : T.length < 1000000) (hd : d.length = 32) (hV : tcells f t d = V) :
    Calls Try.prog 28 #[.pointer (some ⟨g, 0, none⟩), .agg V.toArray] w fun e w' => e = .returned (.bool (inT T f t d)) ∧ Below w.heap.size w w' := by
  have hVl : V.length = 34 := by rw [← hV]; exact tcells_len f t d hd
  have b0 : Below w.heap.size w (w.alloc (.cells V.toArray 59)) := (Below.refl _ _).alloc (Nat.le_refl _) _
  have hB : Blk (w.alloc (.cells V.toArray 59)) w.heap.size 59 V := Blk.new rfl rfl
  obtain ⟨A, c, rfl, hc, hcm⟩ := row_form' h.2.1
  unfold maxLen at hcm
  have H := Lib.hid (And.intro h (And.intro b0 (And.intro hB (And.intro hVl (And.intro hV hd)))))
  obtain ⟨n, hn⟩ : ∃ n, T.length = n := ⟨_, rfl⟩
  have Hn := Lib.hid hn
  rw [hn] at hc hT H
  have hn63 : n ≤ 9223372036854775807 := by omega
  clear h b0 hB hVl hV hd hn
  go_enter Try.func28, Try.ntmps28
  go_wp2
  go_loopw [5] (fun iv wr => ∃ j : Nat, j ≤ n ∧ iv = .int .i64 j ∧ (∀ x ∈ T.take j, x ≠ (f, t, d)) ∧ Below w.heap.size w wr ∧ Blk wr w.heap.size 59 V) (fun iv _ => n - (intOf iv).toNat)
  case atStart => exact ⟨0, Nat.zero_le _, rfl, by simp, H.out.2.1, H.out.2.2.1⟩
  case round =>
    obtain ⟨j, hj, rfl, hne, hbw, hBr⟩ := hrel
    have hRr := H.out.1.below hbw
    have c0 : wr.cell? ⟨g, 0, none⟩ = some (.slice A n c) := by have := hRr.1.cell (i := 0) rfl; exact this
    have hi0 : (0 : Int) ≤ j := by omega
    by_cases hlt : j < n
    · have hi1 : (j : Int) < n := by omega
      have hjl : j < T.length := by rw [Hn.out]; exact hlt
      obtain ⟨b, c', hv, hlow, hbl, _, _, hcells⟩ := row_at hRr.2.1 (by omega)
      injection hv with hv1 hv2 hv3
      subst hv1
      subst hv3
      clear hv2
      obtain ⟨x, hx⟩ : ∃ x, T[j] = x := ⟨_, rfl⟩
      have hxl : x.2.2.length = 32 := hRr.2.2.1 x (by rw [← hx]; exact List.getElem_mem hjl)
      have hxj : T[j]? = some x := by rw [List.getElem?_eq_getElem hjl, hx]
      have hX : wr.drew.rangeAt b (j * 34) (xcells x) := fun i u hu => by
        have hi34 : i < 34 := by
          rcases Nat.lt_or_ge i (xcells x).length with h | h
          · rw [xcells_len hxl] at h; exact h
          · rw [List.getElem?_eq_none h] at hu; cases hu
        exact hcells _ u (by rw [txs_at T j i x hRr.2.2.1 hxj hi34]; exact hu)
      have heq := eq_tags x.1 x.2.1 f t x.2.2 d hxl H.out.2.2.2.2.2
      rw [H.out.2.2.2.2.1] at heq
      have hXl : (xcells x).length = 34 := xcells_len hxl
      have hidX : (Try.prog.info? 59).map (·.size) = some (xcells x).length := by rw [hXl]; exact info34r
      have hidV : (Try.prog.info? 59).map (·.size) = some V.length := by rw [H.out.2.2.2.1]; exact info34r
      have hr2 : wr.drew.rangeAt w.heap.size 0 V := hBr.range
      have c0d : wr.drew.cell? ⟨g, 0, none⟩ = some (.slice (some ⟨b, 0, none⟩) n c) := c0
      obtain ⟨X, hXX⟩ : ∃ X, xcells x = X := ⟨_, rfl⟩
      have hXX' : tcells x.1 x.2.1 x.2.2 = X := hXX
      rw [hXX] at hX hidX
      rw [hXX'] at heq
      have Hend := Lib.hid (And.intro hne (And.intro hbw (And.intro hBr (And.intro hx hjl))))
      clear hne hbw hBr hRr hcells hxl hxj hXl hXX hXX' hlow hbl hx
      by_cases he : x = (f, t, d)
      · have hed : decide (((x.1, x.2.1, x.2.2) : Tg) = (f, t, d)) = true := by rw [← he]; simp
        rw [hed] at heq
        clear hed
        go_wp2
        have Q0 : wr.drew.cell? ⟨g, 0, none⟩ = some (.slice (some ⟨b, 0, none⟩) n c) ∧ wr.drew.rangeAt b (j * 34) X ∧ wr.drew.rangeAt w.heap.size 0 V := ⟨c0d, hX, hr2⟩
        refine wp_region_held_drew (S := fun W' => W'.cell? ⟨g, 0, none⟩ = some (.slice (some ⟨b, 0, none⟩) n c) ∧ W'.rangeAt b (j * 34) X ∧ W'.rangeAt w.heap.size 0 V) (by kernel_rfl) Q0 (fun _ => ?_)
        refine anyH_take (i := 0) (d := 15) (v := ?v0) rfl rfl (by kernel_rfl) (by kernel_rfl) (by kernel_rfl) (fun _ _ _ h => h) (Or.inl ⟨by rfl, ?y0⟩) Q0 ?r0
        case y0 => (intro w; go_simp; try with_reducible rfl)
        simp only [List.setIfInBounds_toArray, List.set_cons_zero, List.set_cons_succ]
        refine anyH_take (i := 1) (d := 16) (v := ?v1) rfl rfl (by kernel_rfl) (by kernel_rfl) (by kernel_rfl) (fun _ _ _ h => h) (Or.inl ⟨by rfl, ?y1⟩) Q0 ?r1
        case y1 => (intro w; go_simp; try with_reducible rfl)
        simp only [List.setIfInBounds_toArray, List.set_cons_zero, List.set_cons_succ]
        refine anyH_take (i := 2) (d := 17) (v := ?v2) rfl rfl (by kernel_rfl) (by kernel_rfl) (by kernel_rfl) (fun _ _ _ h => h) (Or.inl ⟨by rfl, ?y2⟩) Q0 ?r2
        case y2 => (intro w; go_simp; try with_reducible rfl)
        simp only [List.setIfInBounds_toArray, List.set_cons_zero, List.set_cons_succ]
        refine wpAnyH_take' (i := 3) (d := 18) (v := ?v3) rfl rfl (by kernel_rfl) (by kernel_rfl) (by kernel_rfl) (fun _ _ _ h => h) (Or.inl ⟨by rfl, ?y3⟩) Q0 ?r3
        case y3 => (intro w hSw; go_split_ands; go_simp; try with_reducible rfl)
        simp only [List.setIfInBounds_toArray, List.set_cons_zero, List.set_cons_succ]
        refine anyH_take (i := 4) (d := 19) (v := ?v4) rfl rfl (by kernel_rfl) (by kernel_rfl) (by kernel_rfl) (fun _ _ _ h => h) (Or.inl ⟨by rfl, ?y4⟩) Q0 ?r4
        case y4 => (intro w; go_simp; try with_reducible rfl)
        simp only [List.setIfInBounds_toArray, List.set_cons_zero, List.set_cons_succ]
        refine anyH_take (i := 5) (d := 20) (v := ?v5) rfl rfl (by kernel_rfl) (by kernel_rfl) (by kernel_rfl) (fun _ _ _ h => h) (Or.inl ⟨by rfl, ?y5⟩) Q0 ?r5
        case y5 => (intro w; go_simp; try with_reducible rfl)
        simp only [List.setIfInBounds_toArray, List.set_cons_zero, List.set_cons_succ]
        refine anyH_load (i := 6) (d := 21) rfl rfl (by kernel_rfl) (by kernel_rfl) (by kernel_rfl) (by rfl) 59 _ rfl b (j * 34) rfl X _ (fun _ h => h.2.1) Try.underlying59 rfl hidX (fun _ _ _ h => h) Q0 ?_
        simp only [List.setIfInBounds_toArray, List.set_cons_zero, List.set_cons_succ]
        refine anyH_load (i := 7) (d := 22) rfl rfl (by kernel_rfl) (by kernel_rfl) (by kernel_rfl) (by rfl) 59 _ rfl w.heap.size 0 rfl V _ (fun _ h => h.2.2) Try.underlying59 rfl hidV (fun _ _ _ h => h) Q0 ?_
        simp only [List.setIfInBounds_toArray, List.set_cons_zero, List.set_cons_succ]
        refine anyH_take (i := 8) (d := 23) (v := ?v8) rfl rfl (by kernel_rfl) (by kernel_rfl) (by kernel_rfl) (fun _ _ _ h => h) (Or.inl ⟨by rfl, ?y8⟩) Q0 ?r8
        case y8 => (intro w; go_simp; try with_reducible rfl)
        simp only [List.setIfInBounds_toArray, List.set_cons_zero, List.set_cons_succ]
        refine wpAnyH_done (by kernel_rfl) ?_ _
        go_wp2
        go_ret
        have hmem : (f, t, d) ∈ T := by rw [← he, ← Hend.out.2.2.2.1]; exact List.getElem_mem Hend.out.2.2.2.2
        exact ⟨by rw [show inT T f t d = true from by unfold inT; simp [hmem]]; rfl, Hend.out.2.1.drew⟩
      · have hed : decide (((x.1, x.2.1, x.2.2) : Tg) = (f, t, d)) = false := decide_eq_false (fun e => he e)
        rw [hed] at heq
        clear hed
        go_wp2
        have Q0 : wr.drew.cell? ⟨g, 0, none⟩ = some (.slice (some ⟨b, 0, none⟩) n c) ∧ wr.drew.rangeAt b (j * 34) X ∧ wr.drew.rangeAt w.heap.size 0 V := ⟨c0d, hX, hr2⟩
        refine wp_region_held_drew (S := fun W' => W'.cell? ⟨g, 0, none⟩ = some (.slice (some ⟨b, 0, none⟩) n c) ∧ W'.rangeAt b (j * 34) X ∧ W'.rangeAt w.heap.size 0 V) (by kernel_rfl) Q0 (fun _ => ?_)
        refine anyH_take (i := 0) (d := 15) (v := ?vb0) rfl rfl (by kernel_rfl) (by kernel_rfl) (by kernel_rfl) (fun _ _ _ h => h) (Or.inl ⟨by rfl, ?yb0⟩) Q0 ?rb0
        case yb0 => (intro w; go_simp; try with_reducible rfl)
        simp only [List.setIfInBounds_toArray, List.set_cons_zero, List.set_cons_succ]
        refine anyH_take (i := 1) (d := 16) (v := ?vb1) rfl rfl (by kernel_rfl) (by kernel_rfl) (by kernel_rfl) (fun _ _ _ h => h) (Or.inl ⟨by rfl, ?yb1⟩) Q0 ?rb1
        case yb1 => (intro w; go_simp; try with_reducible rfl)
        simp only [List.setIfInBounds_toArray, List.set_cons_zero, List.set_cons_succ]
        refine anyH_take (i := 2) (d := 17) (v := ?vb2) rfl rfl (by kernel_rfl) (by kernel_rfl) (by kernel_rfl) (fun _ _ _ h => h) (Or.inl ⟨by rfl, ?yb2⟩) Q0 ?rb2
        case yb2 => (intro w; go_simp; try with_reducible rfl)
        simp only [List.setIfInBounds_toArray, List.set_cons_zero, List.set_cons_succ]
        refine wpAnyH_take' (i := 3) (d := 18) (v := ?vb3) rfl rfl (by kernel_rfl) (by kernel_rfl) (by kernel_rfl) (fun _ _ _ h => h) (Or.inl ⟨by rfl, ?yb3⟩) Q0 ?rb3
        case yb3 => (intro w hSw; go_split_ands; go_simp; try with_reducible rfl)
        simp only [List.setIfInBounds_toArray, List.set_cons_zero, List.set_cons_succ]
        refine anyH_take (i := 4) (d := 19) (v := ?vb4) rfl rfl (by kernel_rfl) (by kernel_rfl) (by kernel_rfl) (fun _ _ _ h => h) (Or.inl ⟨by rfl, ?yb4⟩) Q0 ?rb4
        case yb4 => (intro w; go_simp; try with_reducible rfl)
        simp only [List.setIfInBounds_toArray, List.set_cons_zero, List.set_cons_succ]
        refine anyH_take (i := 5) (d := 20) (v := ?vb5) rfl rfl (by kernel_rfl) (by kernel_rfl) (by kernel_rfl) (fun _ _ _ h => h) (Or.inl ⟨by rfl, ?yb5⟩) Q0 ?rb5
        case yb5 => (intro w; go_simp; try with_reducible rfl)
        simp only [List.setIfInBounds_toArray, List.set_cons_zero, List.set_cons_succ]
        refine anyH_load (i := 6) (d := 21) rfl rfl (by kernel_rfl) (by kernel_rfl) (by kernel_rfl) (by rfl) 59 _ rfl b (j * 34) rfl X _ (fun _ h => h.2.1) Try.underlying59 rfl hidX (fun _ _ _ h => h) Q0 ?_
        simp only [List.setIfInBounds_toArray, List.set_cons_zero, List.set_cons_succ]
        refine anyH_load (i := 7) (d := 22) rfl rfl (by kernel_rfl) (by kernel_rfl) (by kernel_rfl) (by rfl) 59 _ rfl w.heap.size 0 rfl V _ (fun _ h => h.2.2) Try.underlying59 rfl hidV (fun _ _ _ h => h) Q0 ?_
        simp only [List.setIfInBounds_toArray, List.set_cons_zero, List.set_cons_succ]
        refine anyH_take (i := 8) (d := 23) (v := ?vb8) rfl rfl (by kernel_rfl) (by kernel_rfl) (by kernel_rfl) (fun _ _ _ h => h) (Or.inl ⟨by rfl, ?yb8⟩) Q0 ?rb8
        case yb8 => (intro w; go_simp; try with_reducible rfl)
        simp only [List.setIfInBounds_toArray, List.set_cons_zero, List.set_cons_succ]
        refine wpAnyH_done (by kernel_rfl) ?_ _
        go_wp2
        go_roundw
        case rel =>
          refine ⟨j + 1, by omega, by go_num, fun y hy => ?_, Hend.out.2.1.drew, Hend.out.2.2.1⟩
          rw [List.take_succ_eq_append_getElem Hend.out.2.2.2.2] at hy
          rcases List.mem_append.1 hy with hy | hy
          · exact Hend.out.1 y hy
          · simp at hy; rw [hy, Hend.out.2.2.2.1]; exact he
        case measure => simp [intOf]; omega
    · have hi1 : ¬ (j : Int) < n := by omega
      have hall : T.take j = T := List.take_of_length_le (by rw [Hn.out]; omega)
      rw [hall] at hne
      have Hend := Lib.hid (And.intro hne hbw)
      clear hne hbw hBr hRr hall
      go_wp2
      go_ret
      exact ⟨by rw [show inT T f t d = false from by unfold inT; simp; intro hm; exact Hend.out.1 _ hm rfl]; rfl, Hend.out.2⟩
end Go.Proofs.Ytkmijmlcijbbcaa
