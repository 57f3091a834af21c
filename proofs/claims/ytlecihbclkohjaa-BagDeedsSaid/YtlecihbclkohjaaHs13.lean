/-
  Lists of envelopes that a statement keeps; has over the code. (Written by tools/gen_hs13.py.)
-/
import Derived.Test.YtlecihbclkohjaaIs13
namespace Go.Proofs.Ytlecihbclkohjaa
open Go.RowKit Go.Maps
set_option linter.unusedVariables false
set_option linter.unusedSimpArgs false

/-- A list of envelopes in a row of its own, all its blocks of V. -/
structure EnIn (w : World) (V : Nat → Prop) (A : Option Addr) (n c : Nat) (l : List En) (hs : List EnH) (K : Nat → Prop) : Prop where
  xs : hs.map EnH.x = l
  len : l.length = n
  row : RowK w 29 3 A n c (encs hs)
  bys : ∀ h ∈ hs, ByP w K h
  rg : ∀ i, blkOf A i → V i ∧ ¬ K i
  kv : ∀ i, K i → V i
  lt : ∀ i, V i → i < w.heap.size
def EnL (w : World) (V : Nat → Prop) (A : Option Addr) (n c : Nat) (l : List En) : Prop := ∃ hs K, EnIn w V A n c l hs K
section
variable {w w' : World} {S V V' K K' : Nat → Prop} {A : Option Addr} {n c : Nat} {l : List En} {hs : List EnH}
theorem EnIn.out (h : EnIn w V A n c l hs K) (ho : Out S w w') (hS : ∀ i, V i → ¬ S i) : EnIn w' V A n c l hs K :=
  ⟨h.xs, h.len, h.row.out ho fun i hi => hS i (h.rg i hi).1, fun e he => (h.bys e he).out ho fun i hi => hS i (h.kv i hi), h.rg, h.kv, fun i hi => Nat.lt_of_lt_of_le (h.lt i hi) ho.size⟩
theorem EnL.out (h : EnL w V A n c l) (ho : Out S w w') (hS : ∀ i, V i → ¬ S i) : EnL w' V A n c l := let ⟨hs, K, k⟩ := h; ⟨hs, K, k.out ho hS⟩
theorem EnL.lt (h : EnL w V A n c l) : ∀ i, V i → i < w.heap.size := let ⟨hs, K, k⟩ := h; k.lt
theorem EnL.below (h : EnL w V A n c l) (hb : Below w.heap.size w w') : EnL w' V A n c l :=
  h.out (S := fun i => w.heap.size ≤ i) (Out.ofBelow _ hb) fun i hi => by have := h.lt i hi; omega
theorem EnL.mono (h : EnL w V A n c l) (hV : ∀ i, V i → V' i) (hlt : ∀ i, V' i → i < w.heap.size) : EnL w V' A n c l :=
  let ⟨hs, K, k⟩ := h; ⟨hs, K, k.xs, k.len, k.row, k.bys, fun i hi => ⟨hV i (k.rg i hi).1, (k.rg i hi).2⟩, fun i hi => hV i (k.kv i hi), hlt⟩
theorem EnL.nil (w : World) : EnL w (fun _ => False) none 0 0 [] := ⟨[], fun _ => False, rfl, rfl, RowK.nil _ _ _, fun h hh => by simp at hh, fun i hi => absurd hi (fun ⟨a, ha, _⟩ => by cases ha), fun i (h : False) => h.elim, fun i (h : False) => h.elim⟩
theorem EnIn.at_ (h : EnIn w V A n c l hs K) {i : Nat} (hi : i < hs.length) : ∃ r, A = some ⟨r, 0, none⟩ ∧ r < w.heap.size ∧ w.cell? ⟨r, i * 3, none⟩ = some (.int .i64 hs[i].x.fr) ∧ w.cell? ⟨r, i * 3 + 1, none⟩ = some (.int .i64 hs[i].x.to) ∧ w.cell? ⟨r, i * 3 + 2, none⟩ = some (.slice hs[i].a hs[i].n hs[i].c) := by
  obtain ⟨r, e, hr, hc, _⟩ := h.row.cells (by have := h.len; rw [← h.xs, List.length_map] at this; omega)
  exact ⟨r, e, hr, hc _ _ (by have := encs_at hi (j := 0) rfl; rwa [Nat.add_zero] at this), hc _ _ (encs_at hi (j := 1) rfl), hc _ _ (encs_at hi (j := 2) rfl)⟩
/-- append of one. -/
theorem EnL.push (h : EnL w V A n c l) (x : EnH) (hx : ByP w K' x) (hK : ∀ i, K' i → ¬ V i) (hlt : ∀ i, K' i → i < w.heap.size) (hn : n ≤ 10000) (w2 : World) (hw2 : w.alloc (.cells #[.int .i64 x.x.fr, .int .i64 x.x.to, .slice x.a x.n x.c] 29) = w2) :
    ∃ A' c' w3, (Builtin.append_ #[45, 45] 45 #[.slice A n c, .slice (some ⟨w.heap.size, 0, none⟩) 1 1]).run Try.prog w2 = .ok (.slice A' (n + 1) c') w3 ∧
      EnL w3 (fun i => (V i ∨ K' i) ∨ (w.heap.size ≤ i ∧ i < w3.heap.size)) A' (n + 1) c' (l ++ [x.x]) ∧ Out V w w3 := by
  obtain ⟨hs, K, h⟩ := h
  have b2 : Below w.heap.size w w2 := by rw [← hw2]; exact (Below.refl _ _).alloc (Nat.le_refl _) _
  have B2 : Blk w2 w.heap.size 29 (enc x) := by rw [← hw2]; exact Blk.new rfl rfl
  have z2 : w2.heap.size = w.heap.size + 1 := by rw [← hw2]; simp
  have o2 : Out (fun i => w.heap.size ≤ i) w w2 := Out.ofBelow _ b2
  have h2 := h.out o2 fun i hi e => by have := h.lt i hi; omega
  obtain ⟨A', cap', w3, hap, hR, hO, hA, _⟩ := run_appendE w2 45 h2.row ⟨w.heap.size, 0, none⟩ 1 1 (enc x) rfl (fun j u hu => by rw [add_mk, Nat.zero_add]; exact B2.cell hu) (fun u hu => enc_cell [x] u (by rw [encs_one]; exact hu)) (by omega)
  have z3 := hO.size
  have hA' : ∀ i, blkOf A' i → (V i ∧ ¬ K i) ∨ i = w2.heap.size := fun i e => (hA i e).imp (fun e => h2.rg i e) fun e => e
  refine ⟨A', cap', w3, hap, ⟨hs ++ [x], fun i => K i ∨ K' i, by simp [h.xs], by simp [h.len], by rw [encs_append, encs_one]; exact hR, ?_, ?_, fun i hi => .inl (hi.imp_left (h.kv i)), ?_⟩, (Out.ofBelow V b2).trans hO fun i _ e => (h2.rg i e).1⟩
  · intro y hy
    rcases List.mem_append.1 hy with h1 | h1
    · exact ((h2.bys y h1).out hO fun i hi e => (h2.rg i e).2 hi).mono fun i hi => .inl hi
    · rw [List.mem_singleton.1 h1]
      exact ((hx.below b2 hlt (Nat.le_refl _)).out hO fun i hi e => hK i hi (h2.rg i e).1).mono fun i hi => .inr hi
  · intro i hi
    rcases hA' i hi with h1 | h1
    · exact ⟨.inl (.inl h1.1), fun e => e.elim h1.2 fun e => hK i e h1.1⟩
    · have hlt3 := hR.lt _ hi
      refine ⟨.inr ⟨by omega, hlt3⟩, fun e => ?_⟩
      rcases e with e | e
      · have := h.lt _ (h.kv _ e); omega
      · have := hlt _ e; omega
  · intro i hi
    rcases hi with (h1 | h1) | h1
    · have := h.lt i h1; omega
    · have := hlt i h1; omega
    · exact h1.2
set_option maxRecDepth 100000 in
set_option maxHeartbeats 1600000 in
theorem has_any (h : EnL w V A n c l) (y : EnH) (hy : ByP w K' y) (hn : n ≤ 10000) (B : Bool) (hB : decide (y.x ∈ l) = B) : Calls Try.prog 36 #[.slice A n c, .agg #[.int .i64 y.x.fr, .int .i64 y.x.to, .slice y.a y.n y.c]] w fun e w' => e = .returned (.bool B) ∧ Below w.heap.size w w' := by
  obtain ⟨hs, K, h⟩ := h
  obtain ⟨⟨f0, t0, bs⟩, a, m, d⟩ := y
  dsimp only at *
  obtain ⟨w1, hw1⟩ : ∃ w1, w.alloc (.cells #[.int .i64 f0, .int .i64 t0, .slice a m d] 29) = w1 := ⟨_, rfl⟩
  have b1 : Below w.heap.size w w1 := by rw [← hw1]; exact (Below.refl _ _).alloc (Nat.le_refl _) _
  have B1 : Blk w1 w.heap.size 29 [.int .i64 f0, .int .i64 t0, .slice a m d] := by rw [← hw1]; exact Blk.new rfl rfl
  have h1 := h.out (S := fun i => w.heap.size ≤ i) (Out.ofBelow _ b1) fun i hi => by have := h.lt i hi; omega
  have hy1 : ByP w1 (fun i => i < w.heap.size) ⟨⟨f0, t0, bs⟩, a, m, d⟩ := (show ByP w (fun i => i < w.heap.size) ⟨⟨f0, t0, bs⟩, a, m, d⟩ from ⟨hy.1, hy.2.1, hy.2.2.1, hy.2.2.2.1, hy.2.2.2.2.1, fun hn => let ⟨b', off, e, _, h2, h3⟩ := hy.2.2.2.2.2 hn; ⟨b', off, e, h2, h2, h3⟩⟩).below b1 (fun i hi => hi) (Nat.le_refl _)
  have hln : hs.length = n := by rw [← h.len, ← h.xs, List.length_map]
  have hz1 := B1.lt
  have HS := Lib.hid (And.intro h1 (And.intro B1 (And.intro hy1 (And.intro b1 (And.intro hln hB)))))
  clear h h1 hy hy1 b1 B1 hln hB
  go_enter Try.func36, Try.ntmps36
  go_wp2
  go_loopw [5] (fun i wr => ∃ k : Nat, k ≤ n ∧ i = .int .i64 k ∧ (∀ j (hj : j < hs.length), j < k → ¬ hs[j].x = ⟨f0, t0, bs⟩) ∧ Below w1.heap.size w1 wr) (fun i _ => n - (intOf i).toNat)
  case atStart => exact ⟨0, by omega, rfl, fun j _ h => by omega, Below.refl _ _⟩
  case round =>
    obtain ⟨k, hk1, rfl, hall, hb⟩ := hrel
    have k0 : (0 : Int) ≤ k := by omega
    have hr := HS.out.1.out (S := fun i => w1.heap.size ≤ i) (Out.ofBelow _ hb) fun i hi => by have := HS.out.1.lt i hi; omega
    by_cases hlt : k < n
    · have hkl : k < hs.length := by rw [HS.out.2.2.2.2.1]; exact hlt
      obtain ⟨r, rfl, hrr, c0, c1, c2⟩ := hr.at_ hkl
      have k1 : (k : Int) < n := by omega
      have hbd : Below w1.heap.size w1 wr.drew := hb.drew
      have Bd := HS.out.2.1.below hbd hz1
      have s1 : wr.drew.cell? ⟨w.heap.size, 0, none⟩ = some (.int .i64 f0) ∧ wr.drew.cell? ⟨w.heap.size, 1, none⟩ = some (.int .i64 t0) ∧ wr.drew.cell? ⟨w.heap.size, 2, none⟩ = some (.slice a m d) ∧ wr.drew.cell? ⟨r, k * 3, none⟩ = some (.int .i64 hs[k].x.fr) ∧ wr.drew.cell? ⟨r, k * 3 + 1, none⟩ = some (.int .i64 hs[k].x.to) ∧ wr.drew.cell? ⟨r, k * 3 + 2, none⟩ = some (.slice hs[k].a hs[k].n hs[k].c) := ⟨Bd.cell rfl, Bd.cell rfl, Bd.cell rfl, c0, c1, c2⟩
      obtain ⟨B0, hB0⟩ : ∃ B0, decide (hs[k].x = ⟨f0, t0, bs⟩) = B0 := ⟨_, rfl⟩
      have hsm := same_any hs[k] ⟨⟨f0, t0, bs⟩, a, m, d⟩ (hr.bys _ (List.getElem_mem hkl) |> fun z => z.out (w' := wr.drew) (S := fun _ => False) (Out.ofBelow _ ((Below.refl _ _).drew)) fun _ _ h => h) (HS.out.2.2.1.below hbd (fun i hi => Nat.lt_trans hi hz1) (Nat.le_refl _)) B0 hB0
      dsimp only at hsm
      obtain ⟨y, hy⟩ : ∃ y, hs[k] = y := ⟨_, rfl⟩
      obtain ⟨r0, hr0⟩ : ∃ r0, k * 3 = r0 := ⟨_, rfl⟩
      rw [hy] at s1 hsm hB0
      have hzr := hb.size
      have HR := Lib.hid (And.intro hall (And.intro hbd (And.intro hsm (And.intro hB0 (And.intro hy (And.intro s1 Bd))))))
      clear hall hb hsm hB0 hy hr hbd c0 c1 c2 hr0 Bd
      go_wp2
      refine wp_region_held_drew (S := fun W => W.cell? ⟨w.heap.size, 0, none⟩ = some (.int .i64 f0) ∧ W.cell? ⟨w.heap.size, 1, none⟩ = some (.int .i64 t0) ∧ W.cell? ⟨w.heap.size, 2, none⟩ = some (.slice a m d) ∧ W.cell? ⟨r, k * 3, none⟩ = some (.int .i64 y.x.fr) ∧ W.cell? ⟨r, k * 3 + 1, none⟩ = some (.int .i64 y.x.to) ∧ W.cell? ⟨r, k * 3 + 2, none⟩ = some (.slice y.a y.n y.c)) (by kernel_rfl) s1 (fun _ => ?_)
      refine anyH_take (i := 0) (d := 12) (v := ?a0) rfl rfl (by kernel_rfl) (by kernel_rfl) (by kernel_rfl) (fun _ _ _ h => h) (Or.inl ⟨by rfl, ?ay0⟩) s1 ?ar0
      case ay0 => (intro w; go_simp; try with_reducible rfl)
      simp only [List.setIfInBounds_toArray, List.set_cons_zero, List.set_cons_succ]
      refine anyH_take (i := 1) (d := 13) (v := ?a1) rfl rfl (by kernel_rfl) (by kernel_rfl) (by kernel_rfl) (fun _ _ _ h => h) (Or.inl ⟨by rfl, ?ay1⟩) s1 ?ar1
      case ay1 => (intro w; go_simp; try with_reducible rfl)
      simp only [List.setIfInBounds_toArray, List.set_cons_zero, List.set_cons_succ]
      refine anyH_take (i := 2) (d := 14) (v := ?a2) rfl rfl (by kernel_rfl) (by kernel_rfl) (by kernel_rfl) (fun _ _ _ h => h) (Or.inl ⟨by rfl, ?ay2⟩) s1 ?ar2
      case ay2 => (intro w; go_simp; try with_reducible rfl)
      simp only [List.setIfInBounds_toArray, List.set_cons_zero, List.set_cons_succ]
      refine wpAnyH_take' (i := 3) (d := 15) (v := ?a3) rfl rfl (by kernel_rfl) (by kernel_rfl) (by kernel_rfl) (fun _ _ _ h => h) (Or.inl ⟨by rfl, ?ay3⟩) s1 ?ar3
      case ay3 => (intro w hSw; go_split_ands; go_simp; try with_reducible rfl)
      simp only [List.setIfInBounds_toArray, List.set_cons_zero, List.set_cons_succ]
      refine wpAnyH_take' (i := 4) (d := 16) (v := ?a4) rfl rfl (by kernel_rfl) (by kernel_rfl) (by kernel_rfl) (fun _ _ _ h => h) (Or.inl ⟨by rfl, ?ay4⟩) s1 ?ar4
      case ay4 => (intro w hSw; go_split_ands; go_simp; try with_reducible rfl)
      simp only [List.setIfInBounds_toArray, List.set_cons_zero, List.set_cons_succ]
      refine anyH_one (i := 5) (by kernel_rfl) ?_
      refine wpOp_step rfl (fun K hK => ?_)
      go_simp
      refine HR.out.2.2.1.mono ?_
      rintro e w3 ⟨rfl, hb3⟩
      have b3 : Below w1.heap.size w1 w3 := HR.out.2.1.trans (hb3.mono hzr)
      have B3 := HS.out.2.1.below b3 hz1
      have hr3 := HS.out.1.out (S := fun i => w1.heap.size ≤ i) (Out.ofBelow _ b3) fun i hi => by have := HS.out.1.lt i hi; omega
      obtain ⟨r', er, _, c0, c1, c2⟩ := hr3.at_ hkl
      obtain rfl : r = r' := by injection er with er; injection er
      rw [HR.out.2.2.2.2.1] at c0 c1 c2
      have s3 : w3.cell? ⟨w.heap.size, 0, none⟩ = some (.int .i64 f0) ∧ w3.cell? ⟨w.heap.size, 1, none⟩ = some (.int .i64 t0) ∧ w3.cell? ⟨w.heap.size, 2, none⟩ = some (.slice a m d) ∧ w3.cell? ⟨r, k * 3, none⟩ = some (.int .i64 y.x.fr) ∧ w3.cell? ⟨r, k * 3 + 1, none⟩ = some (.int .i64 y.x.to) ∧ w3.cell? ⟨r, k * 3 + 2, none⟩ = some (.slice y.a y.n y.c) := ⟨B3.cell rfl, B3.cell rfl, B3.cell rfl, c0, c1, c2⟩
      have H3 := Lib.hid (And.intro b3 B3)
      clear b3 B3 hb3 hr3 er c0 c1 c2
      refine hK _ _ ⟨s3, ?_⟩
      clear hK K s3
      refine wpAnyH_done (by kernel_rfl) ?_ _
      cases B0 with
      | true =>
        go_wp2
        go_ret
        refine ⟨?_, HS.out.2.2.2.1.trans (H3.out.1.mono HS.out.2.2.2.1.size)⟩
        rw [← HS.out.2.2.2.2.2, ← HS.out.1.xs]
        have e : hs[k].x = ⟨f0, t0, bs⟩ := by rw [HR.out.2.2.2.2.1]; exact of_decide_eq_true HR.out.2.2.2.1
        rw [decide_eq_true (show (⟨f0, t0, bs⟩ : En) ∈ hs.map EnH.x by rw [← e]; exact List.mem_map_of_mem (List.getElem_mem hkl))]
        rfl
      | false =>
        go_wp2
        go_roundw
        case rel =>
          refine ⟨k + 1, by omega, by go_num, fun j hj hjk => ?_, H3.out.1⟩
          by_cases e : j = k
          · subst e; rw [HR.out.2.2.2.2.1]; exact of_decide_eq_false HR.out.2.2.2.1
          · exact HR.out.1 j hj (by omega)
        case measure => simp [intOf]; omega
    · have hke : k = n := by omega
      have k1 : ¬ (k : Int) < n := by omega
      have HR := Lib.hid (And.intro hall hb)
      clear hall hb hr
      go_wp2
      go_ret
      refine ⟨?_, HS.out.2.2.2.1.trans (HR.out.2.mono HS.out.2.2.2.1.size)⟩
      rw [← HS.out.2.2.2.2.2, ← HS.out.1.xs]
      rw [decide_eq_false (show ¬ (⟨f0, t0, bs⟩ : En) ∈ hs.map EnH.x from fun hm => by
        obtain ⟨z, hz, e⟩ := List.mem_map.1 hm
        obtain ⟨j, hj, rfl⟩ := List.mem_iff_getElem.1 hz
        exact HR.out.1 j hj (by rw [hke, ← HS.out.2.2.2.2.1]; exact hj) e)]
      rfl
end
end Go.Proofs.Ytlecihbclkohjaa
