/-
  What CrewKnown stands on. (Written by tools/gen_known8.py.)
-/
import Derived.Test.YtjibbbfpbflgmaaArgs8
import Derived.Test.YtjibbbfpbflgmaaWorks8
namespace Go.Proofs.Ytjibbbfpbflgmaa
open Go.RowKit Go.Shelf CrewP
set_option linter.unusedVariables false
set_option linter.unusedSimpArgs false

theorem blk_arg {W : World} {g : Nat} {l : List Int} (h : Blk W g 3 (cis l)) (hw : ∀ x ∈ l, Wf x) (hl : l.length ≤ 1000) : ArgI W (some ⟨g, 0, none⟩) l.length l.length l := by
  refine ⟨rfl, Nat.le_refl _, by unfold maxLen; omega, ⟨by rw [cis_length]; simp, fun _ => ⟨g, 0, rfl, h.lt, fun j u hu => ?_⟩⟩, hw⟩
  rw [Nat.zero_add]
  exact h.cell hu
theorem nil_arg (W : World) : ArgI W none 0 0 [] := ⟨rfl, Nat.le_refl _, by unfold maxLen; omega, Shows.empty _, by simp⟩
def kbR (wB : World) (gb jj : Nat) (F : Int) (A : Option Addr) (n c : Nat) (l : List Int) : Nat → Value → World → Prop
  | 0 => fun v w => v = .slice (some ⟨gb, 0, none⟩) 9 9
  | 1 => fun v w => v = .int .i64 jj
  | 2 => fun v w => v = .pointer (some ⟨gb, jj * 2, none⟩)
  | 3 => fun v w => v = .agg #[.int .i64 F, .slice A n c]
  | 4 => fun v w => v = .slice (some ⟨gb, 0, none⟩) 9 9
  | 5 => fun v w => v = .int .i64 jj
  | 6 => fun v w => v = .pointer (some ⟨gb, jj * 2, none⟩)
  | 7 => fun v w => v = .pointer (some ⟨gb, jj * 2 + 1, none⟩)
  | 8 => fun v w => v = .slice A n c
  | 9 => fun v w => v = .tuple #[.int .i64 0, .int .i64 110]
  | 10 => fun v w => v = .tuple #[.int .i64 0, .int .i64 110]
  | 11 => fun v w => v = .int .i64 0
  | 12 => fun v w => v = .int .i64 110
  | 13 => fun v w => v = .int .i64 0
  | 14 => fun v w => v = .int .i64 110
  | _ => fun _ _ => True
def kbD (i : Nat) : Nat := ([161, 162, 163, 164, 165, 166, 167, 168, 169, 170, 160, 171, 172, 20, 21] : List Nat).getD i 0
def kbG : Nat → Option Bool
  | _ => none
def kbS (i : Nat) : Bool := ([] : List Nat).contains i
theorem kb_gb (wB : World) (gb jj : Nat) (F : Int) (A : Option Addr) (n c : Nat) (l : List Int) : ∀ i b v w, kbG i = some b → kbR wB gb jj F A n c l i v w → v = .bool b := by
  intro i b v w h hR
  unfold kbG at h
  split at h
  all_goals first | (injection h with h; subst h; exact hR) | cases h
theorem kb_sk (wB : World) (gb jj : Nat) (F : Int) (A : Option Addr) (n c : Nat) (l : List Int) : ∀ i w, kbS i = true → kbR wB gb jj F A n c l i undef w := by
  intro i w h
  simp [kbS] at h
theorem kb_on (wB : World) (gb jj : Nat) (F : Int) (A : Option Addr) (n c : Nat) (l : List Int) : ∀ i v w w', kbR wB gb jj F A n c l i v w → Below w.heap.size w w' → kbR wB gb jj F A n c l i v w'
  | 0, v, w, w', h, _ => h
  | 1, v, w, w', h, _ => h
  | 2, v, w, w', h, _ => h
  | 3, v, w, w', h, _ => h
  | 4, v, w, w', h, _ => h
  | 5, v, w, w', h, _ => h
  | 6, v, w, w', h, _ => h
  | 7, v, w, w', h, _ => h
  | 8, v, w, w', h, _ => h
  | 9, v, w, w', h, _ => h
  | 10, v, w, w', h, _ => h
  | 11, v, w, w', h, _ => h
  | 12, v, w, w', h, _ => h
  | 13, v, w, w', h, _ => h
  | 14, v, w, w', h, _ => h
  | i + 15, v, w, w', h, hb => trivial
def kbOps : List Op := [.move (.tmp 16),
  .move (.tmp 17),
  .indexAddr 56 (.tmp 161) (.tmp 162),
  .load 24 (.tmp 163),
  .move (.tmp 16),
  .move (.tmp 17),
  .indexAddr 56 (.tmp 165) (.tmp 166),
  .fieldAddr 24 (.tmp 167) 1,
  .load 22 (.tmp 168),
  .call { callee := .value (.func 37), args := #[.tmp 164, .tmp 169, .const (.int .i64 0)], argTypes := #[24, 22, 3] },
  .move (.tmp 170),
  .extract (.tmp 160) 0,
  .extract (.tmp 160) 1,
  .assign (.tmp 171),
  .assign (.tmp 172)]
def kbNeeds : Nat → List Nat
  | 0 => []
  | 1 => []
  | 2 => [0, 1]
  | 3 => [2]
  | 4 => []
  | 5 => []
  | 6 => [4, 5]
  | 7 => [6]
  | 8 => [7]
  | 9 => [3, 8]
  | 10 => [9]
  | 11 => [10]
  | 12 => [10]
  | 13 => [11]
  | 14 => [12]
  | _ => []
set_option maxRecDepth 100000 in
set_option maxHeartbeats 3200000 in
theorem kb_step {ops : Array Oper} {Q : Exit → Act → World → Prop} {a0 : Act} {w0 : World} (wB : World) (gb jj : Nat) (F : Int) (A : Option Addr) (n c : Nat) (l : List Int) (hops : ((List.range 15).map fun i => (ops[i]?).map Oper.op) = kbOps.map some)
    (hnd : ((List.range 15).all fun i => (kbNeeds i).all fun j => ((ops[i]?).map fun o => o.after.any fun e => Region.binds .any e && (e.on == j)).getD false) = true)
    (x16 : a0.tmps[16]? = some (.slice (some ⟨gb, 0, none⟩) 9 9)) (x17 : a0.tmps[17]? = some (.int .i64 jj)) (hi1 : (jj : Int) < 9)
    (hBk : ∀ W, Below wB.heap.size wB W → W.cell? ⟨gb, jj * 2, none⟩ = some (.int .i64 F) ∧ W.cell? ⟨gb, jj * 2 + 1, none⟩ = some (.slice A n c)) (hA : ArgI wB A n c l) (hbB : Below wB.heap.size wB w0) (hrk : rankR F l l 0 = (0, 110)) :
    ∀ i o, i < 15 → kbS i = false → ops[i]? = some o → o.dst = some (kbD i) → ∀ a w, Base kbD 15 a0 a → Below w0.heap.size w0 w → Region.wanted o (yielded ops a.tmps) = true →
      (∀ j, (o.after.any fun e => Region.binds .any e && (e.on == j)) = true → Has kbD (kbR wB gb jj F A n c l) j a w) →
      ∀ K : Act → World → Prop, (∀ v w', kbR wB gb jj F A n c l i v w' → Below w.heap.size w w' → K (a.put o.dst v) w') → wpOp Try.prog ops Q i K a w := by
  intro i o hi hs ho hds a w hbase hbl hwt hdep0 K hK
  have hop : some o.op = kbOps[i]? := by
    have h1 : ((List.range 15).map fun i => (ops[i]?).map Oper.op)[i]? = some (some o.op) := by
      rw [List.getElem?_map, List.getElem?_range hi]; simp only [Option.map_some, ho]
    rw [hops, List.getElem?_map] at h1
    cases h2 : kbOps[i]? with
    | none => rw [h2] at h1; cases h1
    | some y => rw [h2] at h1; simp only [Option.map_some, Option.some.injEq] at h1; rw [h1]
  have hdep : ∀ j, j ∈ kbNeeds i → Has kbD (kbR wB gb jj F A n c l) j a w := fun j hj => by
    have h1 := List.all_eq_true.1 (List.all_eq_true.1 hnd i (List.mem_range.2 hi)) j hj
    rw [ho] at h1
    exact hdep0 j h1
  clear hdep0 hops hnd
  match i, hi, hs, ho, hop, hds, hdep, hK with
  | 0, _, hs, ho, hop, hds, hdep, hK =>
    have hop : o.op = .move (.tmp 16) := Option.some.inj hop
    have hu16 : a.tmps[16]? = some (.slice (some ⟨gb, 0, none⟩) 9 9) := (hbase.2.2 16 (by decide)).trans x16
    have e16 : a.eval (.tmp 16) = _ := ev_tmp hu16
    refine st3 ho hwt (v := _) (w' := w) ?_ (hK _ w rfl (Below.refl _ _))
    unfold execOp
    rw [hop, ← e16]
    rfl
  | 1, _, hs, ho, hop, hds, hdep, hK =>
    have hop : o.op = .move (.tmp 17) := Option.some.inj hop
    have hu17 : a.tmps[17]? = some (.int .i64 jj) := (hbase.2.2 17 (by decide)).trans x17
    have e17 : a.eval (.tmp 17) = _ := ev_tmp hu17
    refine st3 ho hwt (v := _) (w' := w) ?_ (hK _ w rfl (Below.refl _ _))
    unfold execOp
    rw [hop, ← e17]
    rfl
  | 2, _, hs, ho, hop, hds, hdep, hK =>
    have hop : o.op = .indexAddr 56 (.tmp 161) (.tmp 162) := Option.some.inj hop
    obtain ⟨u161, hu161, hv161⟩ := hdep 0 (by decide)
    have hv161' : u161 = .slice (some ⟨gb, 0, none⟩) 9 9 := hv161
    subst hv161'
    have e161 : a.eval (.tmp 161) = _ := ev_tmp hu161
    obtain ⟨u162, hu162, hv162⟩ := hdep 1 (by decide)
    have hv162' : u162 = .int .i64 jj := hv162
    subst hv162'
    have e162 : a.eval (.tmp 162) = _ := ev_tmp hu162
    refine st3 ho hwt (v := .pointer (some ⟨gb, jj * 2, none⟩)) (w' := w) ?_ (hK _ w rfl (Below.refl _ _))
    have hj9 := hi1
    have hj0 : (0 : Int) ≤ jj := by omega
    unfold execOp
    simp only [hop, Option.map_some, Option.map_none, e161, e162]
    first | rfl | (go_simp; done) | (go_simp; simp; done) | (go_simp; intro h; omega)
  | 3, _, hs, ho, hop, hds, hdep, hK =>
    have hop : o.op = .load 24 (.tmp 163) := Option.some.inj hop
    obtain ⟨u163, hu163, hv163⟩ := hdep 2 (by decide)
    have hv163' : u163 = .pointer (some ⟨gb, jj * 2, none⟩) := hv163
    subst hv163'
    have e163 : a.eval (.tmp 163) = _ := ev_tmp hu163
    refine st3 ho hwt (v := .agg #[.int .i64 F, .slice A n c]) (w' := w) ?_ (hK _ w rfl (Below.refl _ _))
    have hbw := hbB.trans (hbl.mono hbB.size)
    obtain ⟨b0, b1⟩ := hBk w hbw
    unfold execOp
    simp only [hop, Option.map_some, Option.map_none, e163]
    first | rfl | (go_simp; done) | (go_simp; simp; done) | (go_simp; intro h; omega)
  | 4, _, hs, ho, hop, hds, hdep, hK =>
    have hop : o.op = .move (.tmp 16) := Option.some.inj hop
    have hu16 : a.tmps[16]? = some (.slice (some ⟨gb, 0, none⟩) 9 9) := (hbase.2.2 16 (by decide)).trans x16
    have e16 : a.eval (.tmp 16) = _ := ev_tmp hu16
    refine st3 ho hwt (v := _) (w' := w) ?_ (hK _ w rfl (Below.refl _ _))
    unfold execOp
    rw [hop, ← e16]
    rfl
  | 5, _, hs, ho, hop, hds, hdep, hK =>
    have hop : o.op = .move (.tmp 17) := Option.some.inj hop
    have hu17 : a.tmps[17]? = some (.int .i64 jj) := (hbase.2.2 17 (by decide)).trans x17
    have e17 : a.eval (.tmp 17) = _ := ev_tmp hu17
    refine st3 ho hwt (v := _) (w' := w) ?_ (hK _ w rfl (Below.refl _ _))
    unfold execOp
    rw [hop, ← e17]
    rfl
  | 6, _, hs, ho, hop, hds, hdep, hK =>
    have hop : o.op = .indexAddr 56 (.tmp 165) (.tmp 166) := Option.some.inj hop
    obtain ⟨u165, hu165, hv165⟩ := hdep 4 (by decide)
    have hv165' : u165 = .slice (some ⟨gb, 0, none⟩) 9 9 := hv165
    subst hv165'
    have e165 : a.eval (.tmp 165) = _ := ev_tmp hu165
    obtain ⟨u166, hu166, hv166⟩ := hdep 5 (by decide)
    have hv166' : u166 = .int .i64 jj := hv166
    subst hv166'
    have e166 : a.eval (.tmp 166) = _ := ev_tmp hu166
    refine st3 ho hwt (v := .pointer (some ⟨gb, jj * 2, none⟩)) (w' := w) ?_ (hK _ w rfl (Below.refl _ _))
    have hj9 := hi1
    have hj0 : (0 : Int) ≤ jj := by omega
    unfold execOp
    simp only [hop, Option.map_some, Option.map_none, e165, e166]
    first | rfl | (go_simp; done) | (go_simp; simp; done) | (go_simp; intro h; omega)
  | 7, _, hs, ho, hop, hds, hdep, hK =>
    have hop : o.op = .fieldAddr 24 (.tmp 167) 1 := Option.some.inj hop
    obtain ⟨u167, hu167, hv167⟩ := hdep 6 (by decide)
    have hv167' : u167 = .pointer (some ⟨gb, jj * 2, none⟩) := hv167
    subst hv167'
    have e167 : a.eval (.tmp 167) = _ := ev_tmp hu167
    refine st3 ho hwt (v := .pointer (some ⟨gb, jj * 2 + 1, none⟩)) (w' := w) ?_ (hK _ w rfl (Below.refl _ _))
    unfold execOp
    simp only [hop, Option.map_some, Option.map_none, e167]
    first | rfl | (go_simp; done) | (go_simp; simp; done) | (go_simp; intro h; omega)
  | 8, _, hs, ho, hop, hds, hdep, hK =>
    have hop : o.op = .load 22 (.tmp 168) := Option.some.inj hop
    obtain ⟨u168, hu168, hv168⟩ := hdep 7 (by decide)
    have hv168' : u168 = .pointer (some ⟨gb, jj * 2 + 1, none⟩) := hv168
    subst hv168'
    have e168 : a.eval (.tmp 168) = _ := ev_tmp hu168
    refine st3 ho hwt (v := .slice A n c) (w' := w) ?_ (hK _ w rfl (Below.refl _ _))
    have hbw := hbB.trans (hbl.mono hbB.size)
    obtain ⟨b0, b1⟩ := hBk w hbw
    unfold execOp
    simp only [hop, Option.map_some, Option.map_none, e168]
    first | rfl | (go_simp; done) | (go_simp; simp; done) | (go_simp; intro h; omega)
  | 9, _, hs, ho, hop, hds, hdep, hK =>
    have hop : o.op = .call { callee := .value (.func 37), args := #[.tmp 164, .tmp 169, .const (.int .i64 0)], argTypes := #[24, 22, 3] } := Option.some.inj hop
    obtain ⟨u164, hu164, hv164⟩ := hdep 3 (by decide)
    have hv164' : u164 = .agg #[.int .i64 F, .slice A n c] := hv164
    subst hv164'
    have e164 : a.eval (.tmp 164) = _ := ev_tmp hu164
    obtain ⟨u169, hu169, hv169⟩ := hdep 8 (by decide)
    have hv169' : u169 = .slice A n c := hv169
    subst hv169'
    have e169 : a.eval (.tmp 169) = _ := ev_tmp hu169
    refine st3_call ho hwt (f := 37) (vals := #[.agg #[.int .i64 F, .slice A n c], .slice A n c, .int .i64 0]) (Z := fun v w' => v = .tuple #[.int .i64 0, .int .i64 110] ∧ Below w.heap.size w w') ?_ ?_ ?_
    · unfold execOp
      simp only [hop, e164, e169, resolve, invoke, Sem.run_bind, Sem.run_pure, Result.andThen_ok, List.map_toArray, List.map_cons, List.map_nil]
      first | rfl | exact enters_of Try.func37 (by kernel_rfl) rfl _ _
    · exact (rank_any F A n c l w (hA.after (hbB.trans (hbl.mono hbB.size))) A n c l (hA.after (hbB.trans (hbl.mono hbB.size))) 0 (by decide)).mono fun e w' ⟨he, h2⟩ => ⟨_, he, by rw [hrk], h2⟩
    · rintro v w' ⟨h1, h2⟩
      exact hK v w' h1 h2
  | 10, _, hs, ho, hop, hds, hdep, hK =>
    have hop : o.op = .move (.tmp 170) := Option.some.inj hop
    obtain ⟨u170, hu170, hv170⟩ := hdep 9 (by decide)
    have hv170' : u170 = .tuple #[.int .i64 0, .int .i64 110] := hv170
    subst hv170'
    have e170 : a.eval (.tmp 170) = _ := ev_tmp hu170
    refine st3 ho hwt (v := _) (w' := w) ?_ (hK _ w rfl (Below.refl _ _))
    unfold execOp
    rw [hop, ← e170]
    rfl
  | 11, _, hs, ho, hop, hds, hdep, hK =>
    have hop : o.op = .extract (.tmp 160) 0 := Option.some.inj hop
    obtain ⟨u160, hu160, hv160⟩ := hdep 10 (by decide)
    have hv160' : u160 = .tuple #[.int .i64 0, .int .i64 110] := hv160
    subst hv160'
    have e160 : a.eval (.tmp 160) = _ := ev_tmp hu160
    refine st3 ho hwt (v := .int .i64 0) (w' := w) ?_ (hK _ w rfl (Below.refl _ _))
    unfold execOp
    simp only [hop, Option.map_some, Option.map_none, e160]
    first | rfl | (go_simp; done) | (go_simp; simp; done) | (go_simp; intro h; omega)
  | 12, _, hs, ho, hop, hds, hdep, hK =>
    have hop : o.op = .extract (.tmp 160) 1 := Option.some.inj hop
    obtain ⟨u160, hu160, hv160⟩ := hdep 10 (by decide)
    have hv160' : u160 = .tuple #[.int .i64 0, .int .i64 110] := hv160
    subst hv160'
    have e160 : a.eval (.tmp 160) = _ := ev_tmp hu160
    refine st3 ho hwt (v := .int .i64 110) (w' := w) ?_ (hK _ w rfl (Below.refl _ _))
    unfold execOp
    simp only [hop, Option.map_some, Option.map_none, e160]
    first | rfl | (go_simp; done) | (go_simp; simp; done) | (go_simp; intro h; omega)
  | 13, _, hs, ho, hop, hds, hdep, hK =>
    have hop : o.op = .assign (.tmp 171) := Option.some.inj hop
    obtain ⟨u171, hu171, hv171⟩ := hdep 11 (by decide)
    have hv171' : u171 = .int .i64 0 := hv171
    subst hv171'
    have e171 : a.eval (.tmp 171) = _ := ev_tmp hu171
    refine st3 ho hwt (v := _) (w' := w) ?_ (hK _ w rfl (Below.refl _ _))
    unfold execOp
    rw [hop, ← e171]
    rfl
  | 14, _, hs, ho, hop, hds, hdep, hK =>
    have hop : o.op = .assign (.tmp 172) := Option.some.inj hop
    obtain ⟨u172, hu172, hv172⟩ := hdep 12 (by decide)
    have hv172' : u172 = .int .i64 110 := hv172
    subst hv172'
    have e172 : a.eval (.tmp 172) = _ := ev_tmp hu172
    refine st3 ho hwt (v := _) (w' := w) ?_ (hK _ w rfl (Below.refl _ _))
    unfold execOp
    rw [hop, ← e172]
    rfl
  | i + 15, hi, _, _, _, _, _, _ => exact absurd hi (by omega)
end Go.Proofs.Ytjibbbfpbflgmaa
