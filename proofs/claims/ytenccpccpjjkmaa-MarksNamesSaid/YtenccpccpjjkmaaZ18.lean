/-
  Laid together for a hand-in: Pl15.
-/
import Derived.Test.YtenccpccpjjkmaaZ01
import Derived.Test.YtenccpccpjjkmaaZ17

namespace Go.Proofs.Ytenccpccpjjkmaa.marksPlays
open Go.ChangeShapes Go.WideShapes Go.ChangeAt Go.RowKit Go.Maps Go.Shelf Go.Sort CrewP
set_option linter.unusedVariables false

set_option linter.unusedSimpArgs false
/-- What Vote says, and the marks behind it. -/
def VoD (wB : World) (g r : Nat) (m n : Ms) (E : Int) (v : Value) (w : World) : Prop := v = .int .i64 E ∧ D15 wB w g r m n
theorem VoD.below {wB w w' : World} {g r : Nat} {m n : Ms} {E : Int} {v : Value} (h : VoD wB g r m n E v w) (hb : Below w.heap.size w w') : VoD wB g r m n E v w' := ⟨h.1, h.2.below hb⟩
def paR (wB : World) (g r bl off oo nl cl : Nat) (iv nd E : Int) (m m2 n n2 : Ms) (X : List Value) : Nat → Value → World → Prop
  | 0 => fun v w => v = .pointer (some ⟨g, 0, none⟩)
  | 1 => fun v w => v = .slice (some ⟨bl, off, none⟩) nl cl
  | 2 => fun v w => v = .int .i64 iv
  | 3 => fun v w => v = .pointer (some ⟨bl, oo, none⟩)
  | 4 => fun v w => v = .pointer (some ⟨bl, oo + 1, none⟩)
  | 5 => fun v w => v = .int .i64 nd
  | 6 => fun v w => v = .slice (some ⟨bl, off, none⟩) nl cl
  | 7 => fun v w => v = .int .i64 iv
  | 8 => fun v w => v = .pointer (some ⟨bl, oo, none⟩)
  | 9 => fun v w => v = .pointer (some ⟨bl, oo + 2, none⟩)
  | 10 => fun v w => v = .agg X.toArray
  | 11 => fun v w => VoD wB g r m2 n E v w
  | 12 => fun v w => v = .int .i64 E
  | 13 => fun v w => D15 wB w g r m n
  | _ => fun _ _ => True
def paD (i : Nat) : Nat := ([57, 58, 59, 60, 61, 62, 63, 64, 65, 66, 67, 68, 12, 7] : List Nat).getD i 0
def paK (i j : Nat) : Bool := ([(11, 13)] : List (Nat × Nat)).contains (i, j)
theorem pa_on (wB : World) (g r bl off oo nl cl : Nat) (iv nd E : Int) (m m2 n n2 : Ms) (X : List Value) : ∀ i v w w', paR wB g r bl off oo nl cl iv nd E m m2 n n2 X i v w → Below w.heap.size w w' → paR wB g r bl off oo nl cl iv nd E m m2 n n2 X i v w'
  | 0, v, w, w', h, _ => h
  | 1, v, w, w', h, _ => h
  | 2, v, w, w', h, _ => h
  | 3, v, w, w', h, _ => h
  | 4, v, w, w', h, _ => h
  | 5, v, w, w', h, _ => h
  | 6, v, w, w', h, _ => h
  | 7, v, w, w', h, _ => h
  | 8, v, w, w', h, _ => h
  | 9, v, w, w', h, _ => h
  | 10, v, w, w', h, _ => h
  | 11, v, w, w', h, hb => VoD.below h hb
  | 12, v, w, w', h, _ => h
  | 13, v, w, w', h, hb => D15.below h hb
  | i + 14, v, w, w', h, hb => trivial
theorem pa_keep11 (wB : World) (g r bl off oo nl cl : Nat) (iv nd E : Int) (m m2 n n2 : Ms) (X : List Value) {w w' : World} : ∀ j u, j ≠ 11 → paK 11 j = false → paR wB g r bl off oo nl cl iv nd E m m2 n n2 X j u w → paR wB g r bl off oo nl cl iv nd E m m2 n n2 X j u w'
  | 0, u, e, _, h => h
  | 1, u, e, _, h => h
  | 2, u, e, _, h => h
  | 3, u, e, _, h => h
  | 4, u, e, _, h => h
  | 5, u, e, _, h => h
  | 6, u, e, _, h => h
  | 7, u, e, _, h => h
  | 8, u, e, _, h => h
  | 9, u, e, _, h => h
  | 10, u, e, _, h => h
  | 11, u, e, _, h => absurd rfl e
  | 12, u, e, _, h => h
  | 13, u, e, hk, h => absurd hk (by decide)
  | j + 14, u, e, _, h => trivial
def paX (wB : World) (g r bl off oo nl cl : Nat) (iv nd E : Int) (m m2 n n2 : Ms) (X : List Value) (w : World) : Prop := True
def paOps : List Op := [.move (.tmp 7),
  .move (.tmp 2),
  .move (.tmp 11),
  .indexAddr 29 (.tmp 58) (.tmp 59),
  .fieldAddr 39 (.tmp 60) 1,
  .load 3 (.tmp 61),
  .move (.tmp 2),
  .move (.tmp 11),
  .indexAddr 29 (.tmp 63) (.tmp 64),
  .fieldAddr 39 (.tmp 65) 2,
  .load 28 (.tmp 66),
  .call { callee := .value (.func 12), args := #[.tmp 57, .tmp 62, .tmp 67], argTypes := #[30, 3, 28] },
  .assign (.tmp 68)]
def paNeeds : Nat → List Nat
  | 0 => []
  | 1 => []
  | 2 => []
  | 3 => [1, 2]
  | 4 => [3]
  | 5 => [4]
  | 6 => []
  | 7 => []
  | 8 => [6, 7]
  | 9 => [8]
  | 10 => [9]
  | 11 => [0, 5, 10, 13]
  | 12 => [11]
  | _ => []
set_option maxRecDepth 100000 in
set_option maxHeartbeats 3200000 in
theorem pa_step {ops : Array Oper} {Q : Exit → Act → World → Prop} {a0 : Act} (wB : World) (g r bl off oo nl cl : Nat) (iv nd E : Int) (m m2 n n2 : Ms) (X : List Value) (hops : ((List.range 13).map fun i => (ops[i]?).map Oper.op) = paOps.map some)
    (hdsl : ((List.range 13).map fun i => (ops[i]?).map Oper.dst) = ([some 57, some 58, some 59, some 60, some 61, some 62, some 63, some 64, some 65, some 66, some 67, some 68, some 12] : List (Option Tmp)).map some)
    (hnd : ((List.range 13).all fun i => (paNeeds i).all fun j => (((ops[i]?).map fun o => (o.after.any fun e => Region.binds .any e && (e.on == j)) || (decide (13 ≤ j) && decide (j < 13 + 1))).getD false) && ((List.range 13).all fun q => !(paK q j) || (q == i) || ((ops[q]?).map fun o => o.after.any fun e => Region.binds .any e && (e.on == i)).getD false)) = true)
     (x2 : a0.tmps[2]? = some (.slice (some ⟨bl, off, none⟩) nl cl)) (x7 : a0.tmps[7]? = some (.pointer (some ⟨g, 0, none⟩))) (x11 : a0.tmps[11]? = some (.int .i64 iv))
    (hix : ∀ w, (Instr.indexAt 29 (.slice (some ⟨bl, off, none⟩) nl cl) (.int .i64 iv)).run Try.prog w = .ok (.pointer (some ⟨bl, oo, none⟩)) w) (hlt : bl < wB.heap.size)
    (c1 : wB.cell? ⟨bl, oo + 1, none⟩ = some (.int .i64 nd)) (c2 : wB.rangeAt bl (oo + 2) X) (hXi : (Try.prog.info? 28).map (·.size) = some X.length)
    (hV : ∀ W, D15 wB W g r m n → Calls Try.prog 12 #[.pointer (some ⟨g, 0, none⟩), .int .i64 nd, .agg X.toArray] W fun e w' => e = .returned (.int .i64 E) ∧ D15 wB w' g r m2 n) :
    ∀ i o, i < 13 → ops[i]? = some o → o.guard = none → (o.dst = some (paD i) ∨ o.dst = none) → ∀ a w, Base paD 13 a0 a → (Below wB.heap.size wB w ∧ paX wB g r bl off oo nl cl iv nd E m m2 n n2 X w) →
      (∀ j, ((o.after.any fun e => Region.binds .any e && (e.on == j)) || (decide (13 ≤ j) && decide (j < 13 + 1))) = true → ((List.range 13).all fun q => !(paK q j) || (q == i) || ((ops[q]?).map fun o => o.after.any fun e => Region.binds .any e && (e.on == i)).getD false) = true → Has paD (paR wB g r bl off oo nl cl iv nd E m m2 n n2 X) j a w) →
      ∀ K : Act → World → Prop, (∀ v w', (Below wB.heap.size wB w' ∧ paX wB g r bl off oo nl cl iv nd E m m2 n n2 X w') → (o.dst = some (paD i) → paR wB g r bl off oo nl cl iv nd E m m2 n n2 X i v w') → (o.dst = none → ∃ u, a.tmps[paD i]? = some u ∧ paR wB g r bl off oo nl cl iv nd E m m2 n n2 X i u w') → (∀ j u, j ≠ i → paK i j = false → ((ops[j]?).map fun o => o.after.any fun e => Region.binds .any e && (e.on == i)).getD false = false → paR wB g r bl off oo nl cl iv nd E m m2 n n2 X j u w → paR wB g r bl off oo nl cl iv nd E m m2 n n2 X j u w') → K (a.put o.dst v) w') → wpOp Try.prog ops Q i K a w := by
  intro i o hi ho hgd hdst a w hbase hI hdep0 K hK5
  obtain ⟨hbl, hX⟩ := hI
  have hwt : Region.wanted o (yielded ops a.tmps) = true := by unfold Region.wanted; rw [hgd]
  have hop : some o.op = paOps[i]? := by
    have h1 : ((List.range 13).map fun i => (ops[i]?).map Oper.op)[i]? = some (some o.op) := by
      rw [List.getElem?_map, List.getElem?_range hi]; simp only [Option.map_some, ho]
    rw [hops, List.getElem?_map] at h1
    cases h2 : paOps[i]? with
    | none => rw [h2] at h1; cases h1
    | some y => rw [h2] at h1; simp only [Option.map_some, Option.some.injEq] at h1; rw [h1]
  have hds : some o.dst = ([some 57, some 58, some 59, some 60, some 61, some 62, some 63, some 64, some 65, some 66, some 67, some 68, some 12] : List (Option Tmp))[i]? := by
    have h1 : ((List.range 13).map fun i => (ops[i]?).map Oper.dst)[i]? = some (some o.dst) := by
      rw [List.getElem?_map, List.getElem?_range hi]; simp only [Option.map_some, ho]
    rw [hdsl, List.getElem?_map] at h1
    cases h2 : ([some 57, some 58, some 59, some 60, some 61, some 62, some 63, some 64, some 65, some 66, some 67, some 68, some 12] : List (Option Tmp))[i]? with
    | none => rw [h2] at h1; cases h1
    | some y => rw [h2] at h1; simp only [Option.map_some, Option.some.injEq] at h1; rw [h1]
  have hdep : ∀ j, j ∈ paNeeds i → Has paD (paR wB g r bl off oo nl cl iv nd E m m2 n n2 X) j a w := fun j hj => by
    have h1 := List.all_eq_true.1 (List.all_eq_true.1 hnd i (List.mem_range.2 hi)) j hj
    rw [ho, Bool.and_eq_true] at h1
    exact hdep0 j h1.1 h1.2
  have hK : o.dst = some (paD i) → ∀ v w', paR wB g r bl off oo nl cl iv nd E m m2 n n2 X i v w' → Below w.heap.size w w' → K (a.put o.dst v) w' := fun e v w' h1 h2 => hK5 v w' ⟨hbl.trans (h2.mono hbl.size), trivial⟩ (fun _ => h1) (fun e' => by rw [e] at e'; cases e') (fun j u _ _ _ hj => pa_on wB g r bl off oo nl cl iv nd E m m2 n n2 X j u w w' hj h2)
  clear hdep0 hops hnd hdsl hdst
  match i, hi, ho, hop, hds, hdep, hK, hK5 with
  | 0, _, ho, hop, hds, hdep, hK, hK5 =>
    have hop : o.op = .move (.tmp 7) := Option.some.inj hop
    have hu7 : a.tmps[7]? = some (.pointer (some ⟨g, 0, none⟩)) := (hbase.2.2 7 (by decide)).trans x7
    have e7 : a.eval (.tmp 7) = _ := ev_tmp hu7
    have hK := hK (Option.some.inj hds)
    refine st3 ho hwt (v := _) (w' := w) ?_ (hK _ w rfl (Below.refl _ _))
    unfold execOp
    rw [hop, ← e7]
    rfl
  | 1, _, ho, hop, hds, hdep, hK, hK5 =>
    have hop : o.op = .move (.tmp 2) := Option.some.inj hop
    have hu2 : a.tmps[2]? = some (.slice (some ⟨bl, off, none⟩) nl cl) := (hbase.2.2 2 (by decide)).trans x2
    have e2 : a.eval (.tmp 2) = _ := ev_tmp hu2
    have hK := hK (Option.some.inj hds)
    refine st3 ho hwt (v := _) (w' := w) ?_ (hK _ w rfl (Below.refl _ _))
    unfold execOp
    rw [hop, ← e2]
    rfl
  | 2, _, ho, hop, hds, hdep, hK, hK5 =>
    have hop : o.op = .move (.tmp 11) := Option.some.inj hop
    have hu11 : a.tmps[11]? = some (.int .i64 iv) := (hbase.2.2 11 (by decide)).trans x11
    have e11 : a.eval (.tmp 11) = _ := ev_tmp hu11
    have hK := hK (Option.some.inj hds)
    refine st3 ho hwt (v := _) (w' := w) ?_ (hK _ w rfl (Below.refl _ _))
    unfold execOp
    rw [hop, ← e11]
    rfl
  | 3, _, ho, hop, hds, hdep, hK, hK5 =>
    have hop : o.op = .indexAddr 29 (.tmp 58) (.tmp 59) := Option.some.inj hop
    obtain ⟨u58, hu58, hv58⟩ := hdep 1 (by decide)
    have hv58' : u58 = .slice (some ⟨bl, off, none⟩) nl cl := hv58
    subst hv58'
    have e58 : a.eval (.tmp 58) = _ := ev_tmp hu58
    obtain ⟨u59, hu59, hv59⟩ := hdep 2 (by decide)
    have hv59' : u59 = .int .i64 iv := hv59
    subst hv59'
    have e59 : a.eval (.tmp 59) = _ := ev_tmp hu59
    have hK := hK (Option.some.inj hds)
    refine st3 ho hwt (v := .pointer (some ⟨bl, oo, none⟩)) (w' := w) ?_ (hK _ w rfl (Below.refl _ _))
    have hq := hix w
    unfold execOp
    simp only [hop, e58, e59, Sem.run_bind, hq, Result.andThen_ok]
    rfl
  | 4, _, ho, hop, hds, hdep, hK, hK5 =>
    have hop : o.op = .fieldAddr 39 (.tmp 60) 1 := Option.some.inj hop
    obtain ⟨u60, hu60, hv60⟩ := hdep 3 (by decide)
    have hv60' : u60 = .pointer (some ⟨bl, oo, none⟩) := hv60
    subst hv60'
    have e60 : a.eval (.tmp 60) = _ := ev_tmp hu60
    have hK := hK (Option.some.inj hds)
    refine st3 ho hwt (v := .pointer (some ⟨bl, oo + 1, none⟩)) (w' := w) ?_ (hK _ w rfl (Below.refl _ _))
    unfold execOp
    simp only [hop, Option.map_some, Option.map_none, e60]
    first | rfl | (go_simp; done) | (go_simp; simp; done) | (go_simp; intro h; omega)
  | 5, _, ho, hop, hds, hdep, hK, hK5 =>
    have hop : o.op = .load 3 (.tmp 61) := Option.some.inj hop
    obtain ⟨u61, hu61, hv61⟩ := hdep 4 (by decide)
    have hv61' : u61 = .pointer (some ⟨bl, oo + 1, none⟩) := hv61
    subst hv61'
    have e61 : a.eval (.tmp 61) = _ := ev_tmp hu61
    have hK := hK (Option.some.inj hds)
    have k0 : w.cell? ⟨bl, oo + 1, none⟩ = some (.int .i64 nd) := (hbl.cell hlt).trans c1
    refine st3 ho hwt (v := .int .i64 nd) (w' := w) ?_ (hK _ w rfl (Below.refl _ _))
    unfold execOp
    simp only [hop, Option.map_some, Option.map_none, e61]
    first | rfl | (go_simp; done) | (go_simp; simp; done) | (go_simp; intro h; omega)
  | 6, _, ho, hop, hds, hdep, hK, hK5 =>
    have hop : o.op = .move (.tmp 2) := Option.some.inj hop
    have hu2 : a.tmps[2]? = some (.slice (some ⟨bl, off, none⟩) nl cl) := (hbase.2.2 2 (by decide)).trans x2
    have e2 : a.eval (.tmp 2) = _ := ev_tmp hu2
    have hK := hK (Option.some.inj hds)
    refine st3 ho hwt (v := _) (w' := w) ?_ (hK _ w rfl (Below.refl _ _))
    unfold execOp
    rw [hop, ← e2]
    rfl
  | 7, _, ho, hop, hds, hdep, hK, hK5 =>
    have hop : o.op = .move (.tmp 11) := Option.some.inj hop
    have hu11 : a.tmps[11]? = some (.int .i64 iv) := (hbase.2.2 11 (by decide)).trans x11
    have e11 : a.eval (.tmp 11) = _ := ev_tmp hu11
    have hK := hK (Option.some.inj hds)
    refine st3 ho hwt (v := _) (w' := w) ?_ (hK _ w rfl (Below.refl _ _))
    unfold execOp
    rw [hop, ← e11]
    rfl
  | 8, _, ho, hop, hds, hdep, hK, hK5 =>
    have hop : o.op = .indexAddr 29 (.tmp 63) (.tmp 64) := Option.some.inj hop
    obtain ⟨u63, hu63, hv63⟩ := hdep 6 (by decide)
    have hv63' : u63 = .slice (some ⟨bl, off, none⟩) nl cl := hv63
    subst hv63'
    have e63 : a.eval (.tmp 63) = _ := ev_tmp hu63
    obtain ⟨u64, hu64, hv64⟩ := hdep 7 (by decide)
    have hv64' : u64 = .int .i64 iv := hv64
    subst hv64'
    have e64 : a.eval (.tmp 64) = _ := ev_tmp hu64
    have hK := hK (Option.some.inj hds)
    refine st3 ho hwt (v := .pointer (some ⟨bl, oo, none⟩)) (w' := w) ?_ (hK _ w rfl (Below.refl _ _))
    have hq := hix w
    unfold execOp
    simp only [hop, e63, e64, Sem.run_bind, hq, Result.andThen_ok]
    rfl
  | 9, _, ho, hop, hds, hdep, hK, hK5 =>
    have hop : o.op = .fieldAddr 39 (.tmp 65) 2 := Option.some.inj hop
    obtain ⟨u65, hu65, hv65⟩ := hdep 8 (by decide)
    have hv65' : u65 = .pointer (some ⟨bl, oo, none⟩) := hv65
    subst hv65'
    have e65 : a.eval (.tmp 65) = _ := ev_tmp hu65
    have hK := hK (Option.some.inj hds)
    refine st3 ho hwt (v := .pointer (some ⟨bl, oo + 2, none⟩)) (w' := w) ?_ (hK _ w rfl (Below.refl _ _))
    unfold execOp
    simp only [hop, Option.map_some, Option.map_none, e65]
    first | rfl | (go_simp; done) | (go_simp; simp; done) | (go_simp; intro h; omega)
  | 10, _, ho, hop, hds, hdep, hK, hK5 =>
    have hop : o.op = .load 28 (.tmp 66) := Option.some.inj hop
    obtain ⟨u66, hu66, hv66⟩ := hdep 9 (by decide)
    have hv66' : u66 = .pointer (some ⟨bl, oo + 2, none⟩) := hv66
    subst hv66'
    have e66 : a.eval (.tmp 66) = _ := ev_tmp hu66
    have hK := hK (Option.some.inj hds)
    have hrg : w.rangeAt bl (oo + 2) X := fun j u hu => (hbl.cell (p := ⟨bl, oo + 2 + j, none⟩) hlt).trans (c2 j u hu)
    refine st3 ho hwt (v := .agg X.toArray) (w' := w) ?_ (hK _ w rfl (Below.refl _ _))
    unfold execOp
    simp only [hop, e66, Instr.loadAt, Instr.sureAddr, Sem.run_bind, Sem.run_pure, Result.andThen_ok, run_loadVar_mid w bl (oo + 2) 28 X _ (hrg) Try.underlying28 rfl hXi]
  | 11, _, ho, hop, hds, hdep, hK, hK5 =>
    have hop : o.op = .call { callee := .value (.func 12), args := #[.tmp 57, .tmp 62, .tmp 67], argTypes := #[30, 3, 28] } := Option.some.inj hop
    obtain ⟨u57, hu57, hv57⟩ := hdep 0 (by decide)
    have hv57' : u57 = .pointer (some ⟨g, 0, none⟩) := hv57
    subst hv57'
    have e57 : a.eval (.tmp 57) = _ := ev_tmp hu57
    obtain ⟨u62, hu62, hv62⟩ := hdep 5 (by decide)
    have hv62' : u62 = .int .i64 nd := hv62
    subst hv62'
    have e62 : a.eval (.tmp 62) = _ := ev_tmp hu62
    obtain ⟨u67, hu67, hv67⟩ := hdep 10 (by decide)
    have hv67' : u67 = .agg X.toArray := hv67
    subst hv67'
    have e67 : a.eval (.tmp 67) = _ := ev_tmp hu67
    have hK := hK (Option.some.inj hds)
    obtain ⟨uE, huE, hvE⟩ := hdep 13 (by decide)
    refine st3_call ho hwt (f := 12) (vals := #[.pointer (some ⟨g, 0, none⟩), .int .i64 nd, .agg X.toArray]) (Z := fun v w' => v = .int .i64 E ∧ D15 wB w' g r m2 n) ?_ ?_ ?_
    · unfold execOp
      simp only [hop, e57, e62, e67, resolve, invoke, Sem.run_bind, Sem.run_pure, Result.andThen_ok, List.map_toArray, List.map_cons, List.map_nil]
      first | rfl | exact enters_of Try.func12 (by kernel_rfl) rfl _ _
    · exact (hV w hvE).mono fun e w' ⟨he, h2⟩ => ⟨_, he, rfl, h2⟩
    · rintro v w' ⟨h1, h2⟩
      exact hK5 v w' ⟨h2.bel, trivial⟩ (fun _ => ⟨h1, h2⟩) (fun e => by rw [Option.some.inj hds] at e; cases e) (fun j u a1 a2 _ a4 => pa_keep11 wB g r bl off oo nl cl iv nd E m m2 n n2 X j u a1 a2 a4)
  | 12, _, ho, hop, hds, hdep, hK, hK5 =>
    have hop : o.op = .assign (.tmp 68) := Option.some.inj hop
    obtain ⟨u68, hu68, hv68⟩ := hdep 11 (by decide)
    have hv68' : VoD wB g r m2 n E u68 w := hv68
    have e68 : a.eval (.tmp 68) = _ := ev_tmp hu68
    have hK := hK (Option.some.inj hds)
    have hz := hv68'.1
    subst hz
    refine st3 ho hwt (v := .int .i64 E) (w' := w) ?_ (hK _ w rfl (Below.refl _ _))
    unfold execOp
    simp only [hop, Option.map_some, Option.map_none, e68]
    first | rfl | (go_simp; done) | (go_simp; simp; done) | (go_simp; intro h; omega)
  | i + 13, hi, _, _, _, _, _, _ => exact absurd hi (by omega)
def pbR (wB : World) (g r bl off oo nl cl : Nat) (iv nd E : Int) (m m2 n n2 : Ms) (X : List Value) : Nat → Value → World → Prop
  | 0 => fun v w => v = .pointer (some ⟨r, 0, none⟩)
  | 1 => fun v w => v = .slice (some ⟨bl, off, none⟩) nl cl
  | 2 => fun v w => v = .int .i64 iv
  | 3 => fun v w => v = .pointer (some ⟨bl, oo, none⟩)
  | 4 => fun v w => v = .pointer (some ⟨bl, oo + 1, none⟩)
  | 5 => fun v w => v = .int .i64 nd
  | 6 => fun v w => v = .slice (some ⟨bl, off, none⟩) nl cl
  | 7 => fun v w => v = .int .i64 iv
  | 8 => fun v w => v = .pointer (some ⟨bl, oo, none⟩)
  | 9 => fun v w => v = .pointer (some ⟨bl, oo + 2, none⟩)
  | 10 => fun v w => v = .agg X.toArray
  | 11 => fun v w => VoD wB g r m n2 E v w
  | 12 => fun v w => v = .int .i64 E
  | 13 => fun v w => D15 wB w g r m n
  | _ => fun _ _ => True
def pbD (i : Nat) : Nat := ([69, 70, 71, 72, 73, 74, 75, 76, 77, 78, 79, 80, 13, 9] : List Nat).getD i 0
def pbK (i j : Nat) : Bool := ([(11, 13)] : List (Nat × Nat)).contains (i, j)
theorem pb_on (wB : World) (g r bl off oo nl cl : Nat) (iv nd E : Int) (m m2 n n2 : Ms) (X : List Value) : ∀ i v w w', pbR wB g r bl off oo nl cl iv nd E m m2 n n2 X i v w → Below w.heap.size w w' → pbR wB g r bl off oo nl cl iv nd E m m2 n n2 X i v w'
  | 0, v, w, w', h, _ => h
  | 1, v, w, w', h, _ => h
  | 2, v, w, w', h, _ => h
  | 3, v, w, w', h, _ => h
  | 4, v, w, w', h, _ => h
  | 5, v, w, w', h, _ => h
  | 6, v, w, w', h, _ => h
  | 7, v, w, w', h, _ => h
  | 8, v, w, w', h, _ => h
  | 9, v, w, w', h, _ => h
  | 10, v, w, w', h, _ => h
  | 11, v, w, w', h, hb => VoD.below h hb
  | 12, v, w, w', h, _ => h
  | 13, v, w, w', h, hb => D15.below h hb
  | i + 14, v, w, w', h, hb => trivial
theorem pb_keep11 (wB : World) (g r bl off oo nl cl : Nat) (iv nd E : Int) (m m2 n n2 : Ms) (X : List Value) {w w' : World} : ∀ j u, j ≠ 11 → pbK 11 j = false → pbR wB g r bl off oo nl cl iv nd E m m2 n n2 X j u w → pbR wB g r bl off oo nl cl iv nd E m m2 n n2 X j u w'
  | 0, u, e, _, h => h
  | 1, u, e, _, h => h
  | 2, u, e, _, h => h
  | 3, u, e, _, h => h
  | 4, u, e, _, h => h
  | 5, u, e, _, h => h
  | 6, u, e, _, h => h
  | 7, u, e, _, h => h
  | 8, u, e, _, h => h
  | 9, u, e, _, h => h
  | 10, u, e, _, h => h
  | 11, u, e, _, h => absurd rfl e
  | 12, u, e, _, h => h
  | 13, u, e, hk, h => absurd hk (by decide)
  | j + 14, u, e, _, h => trivial
def pbX (wB : World) (g r bl off oo nl cl : Nat) (iv nd E : Int) (m m2 n n2 : Ms) (X : List Value) (w : World) : Prop := True
def pbOps : List Op := [.move (.tmp 9),
  .move (.tmp 2),
  .move (.tmp 11),
  .indexAddr 29 (.tmp 70) (.tmp 71),
  .fieldAddr 39 (.tmp 72) 1,
  .load 3 (.tmp 73),
  .move (.tmp 2),
  .move (.tmp 11),
  .indexAddr 29 (.tmp 75) (.tmp 76),
  .fieldAddr 39 (.tmp 77) 2,
  .load 28 (.tmp 78),
  .call { callee := .value (.func 13), args := #[.tmp 69, .tmp 74, .tmp 79], argTypes := #[34, 3, 28] },
  .assign (.tmp 80)]
def pbNeeds : Nat → List Nat
  | 0 => []
  | 1 => []
  | 2 => []
  | 3 => [1, 2]
  | 4 => [3]
  | 5 => [4]
  | 6 => []
  | 7 => []
  | 8 => [6, 7]
  | 9 => [8]
  | 10 => [9]
  | 11 => [0, 5, 10, 13]
  | 12 => [11]
  | _ => []
set_option maxRecDepth 100000 in
set_option maxHeartbeats 3200000 in
theorem pb_step {ops : Array Oper} {Q : Exit → Act → World → Prop} {a0 : Act} (wB : World) (g r bl off oo nl cl : Nat) (iv nd E : Int) (m m2 n n2 : Ms) (X : List Value) (hops : ((List.range 13).map fun i => (ops[i]?).map Oper.op) = pbOps.map some)
    (hdsl : ((List.range 13).map fun i => (ops[i]?).map Oper.dst) = ([some 69, some 70, some 71, some 72, some 73, some 74, some 75, some 76, some 77, some 78, some 79, some 80, some 13] : List (Option Tmp)).map some)
    (hnd : ((List.range 13).all fun i => (pbNeeds i).all fun j => (((ops[i]?).map fun o => (o.after.any fun e => Region.binds .any e && (e.on == j)) || (decide (13 ≤ j) && decide (j < 13 + 1))).getD false) && ((List.range 13).all fun q => !(pbK q j) || (q == i) || ((ops[q]?).map fun o => o.after.any fun e => Region.binds .any e && (e.on == i)).getD false)) = true)
     (x2 : a0.tmps[2]? = some (.slice (some ⟨bl, off, none⟩) nl cl)) (x9 : a0.tmps[9]? = some (.pointer (some ⟨r, 0, none⟩))) (x11 : a0.tmps[11]? = some (.int .i64 iv))
    (hix : ∀ w, (Instr.indexAt 29 (.slice (some ⟨bl, off, none⟩) nl cl) (.int .i64 iv)).run Try.prog w = .ok (.pointer (some ⟨bl, oo, none⟩)) w) (hlt : bl < wB.heap.size)
    (c1 : wB.cell? ⟨bl, oo + 1, none⟩ = some (.int .i64 nd)) (c2 : wB.rangeAt bl (oo + 2) X) (hXi : (Try.prog.info? 28).map (·.size) = some X.length)
    (hV : ∀ W, D15 wB W g r m n → Calls Try.prog 13 #[.pointer (some ⟨r, 0, none⟩), .int .i64 nd, .agg X.toArray] W fun e w' => e = .returned (.int .i64 E) ∧ D15 wB w' g r m n2) :
    ∀ i o, i < 13 → ops[i]? = some o → o.guard = none → (o.dst = some (pbD i) ∨ o.dst = none) → ∀ a w, Base pbD 13 a0 a → (Below wB.heap.size wB w ∧ pbX wB g r bl off oo nl cl iv nd E m m2 n n2 X w) →
      (∀ j, ((o.after.any fun e => Region.binds .any e && (e.on == j)) || (decide (13 ≤ j) && decide (j < 13 + 1))) = true → ((List.range 13).all fun q => !(pbK q j) || (q == i) || ((ops[q]?).map fun o => o.after.any fun e => Region.binds .any e && (e.on == i)).getD false) = true → Has pbD (pbR wB g r bl off oo nl cl iv nd E m m2 n n2 X) j a w) →
      ∀ K : Act → World → Prop, (∀ v w', (Below wB.heap.size wB w' ∧ pbX wB g r bl off oo nl cl iv nd E m m2 n n2 X w') → (o.dst = some (pbD i) → pbR wB g r bl off oo nl cl iv nd E m m2 n n2 X i v w') → (o.dst = none → ∃ u, a.tmps[pbD i]? = some u ∧ pbR wB g r bl off oo nl cl iv nd E m m2 n n2 X i u w') → (∀ j u, j ≠ i → pbK i j = false → ((ops[j]?).map fun o => o.after.any fun e => Region.binds .any e && (e.on == i)).getD false = false → pbR wB g r bl off oo nl cl iv nd E m m2 n n2 X j u w → pbR wB g r bl off oo nl cl iv nd E m m2 n n2 X j u w') → K (a.put o.dst v) w') → wpOp Try.prog ops Q i K a w := by
  intro i o hi ho hgd hdst a w hbase hI hdep0 K hK5
  obtain ⟨hbl, hX⟩ := hI
  have hwt : Region.wanted o (yielded ops a.tmps) = true := by unfold Region.wanted; rw [hgd]
  have hop : some o.op = pbOps[i]? := by
    have h1 : ((List.range 13).map fun i => (ops[i]?).map Oper.op)[i]? = some (some o.op) := by
      rw [List.getElem?_map, List.getElem?_range hi]; simp only [Option.map_some, ho]
    rw [hops, List.getElem?_map] at h1
    cases h2 : pbOps[i]? with
    | none => rw [h2] at h1; cases h1
    | some y => rw [h2] at h1; simp only [Option.map_some, Option.some.injEq] at h1; rw [h1]
  have hds : some o.dst = ([some 69, some 70, some 71, some 72, some 73, some 74, some 75, some 76, some 77, some 78, some 79, some 80, some 13] : List (Option Tmp))[i]? := by
    have h1 : ((List.range 13).map fun i => (ops[i]?).map Oper.dst)[i]? = some (some o.dst) := by
      rw [List.getElem?_map, List.getElem?_range hi]; simp only [Option.map_some, ho]
    rw [hdsl, List.getElem?_map] at h1
    cases h2 : ([some 69, some 70, some 71, some 72, some 73, some 74, some 75, some 76, some 77, some 78, some 79, some 80, some 13] : List (Option Tmp))[i]? with
    | none => rw [h2] at h1; cases h1
    | some y => rw [h2] at h1; simp only [Option.map_some, Option.some.injEq] at h1; rw [h1]
  have hdep : ∀ j, j ∈ pbNeeds i → Has pbD (pbR wB g r bl off oo nl cl iv nd E m m2 n n2 X) j a w := fun j hj => by
    have h1 := List.all_eq_true.1 (List.all_eq_true.1 hnd i (List.mem_range.2 hi)) j hj
    rw [ho, Bool.and_eq_true] at h1
    exact hdep0 j h1.1 h1.2
  have hK : o.dst = some (pbD i) → ∀ v w', pbR wB g r bl off oo nl cl iv nd E m m2 n n2 X i v w' → Below w.heap.size w w' → K (a.put o.dst v) w' := fun e v w' h1 h2 => hK5 v w' ⟨hbl.trans (h2.mono hbl.size), trivial⟩ (fun _ => h1) (fun e' => by rw [e] at e'; cases e') (fun j u _ _ _ hj => pb_on wB g r bl off oo nl cl iv nd E m m2 n n2 X j u w w' hj h2)
  clear hdep0 hops hnd hdsl hdst
  match i, hi, ho, hop, hds, hdep, hK, hK5 with
  | 0, _, ho, hop, hds, hdep, hK, hK5 =>
    have hop : o.op = .move (.tmp 9) := Option.some.inj hop
    have hu9 : a.tmps[9]? = some (.pointer (some ⟨r, 0, none⟩)) := (hbase.2.2 9 (by decide)).trans x9
    have e9 : a.eval (.tmp 9) = _ := ev_tmp hu9
    have hK := hK (Option.some.inj hds)
    refine st3 ho hwt (v := _) (w' := w) ?_ (hK _ w rfl (Below.refl _ _))
    unfold execOp
    rw [hop, ← e9]
    rfl
  | 1, _, ho, hop, hds, hdep, hK, hK5 =>
    have hop : o.op = .move (.tmp 2) := Option.some.inj hop
    have hu2 : a.tmps[2]? = some (.slice (some ⟨bl, off, none⟩) nl cl) := (hbase.2.2 2 (by decide)).trans x2
    have e2 : a.eval (.tmp 2) = _ := ev_tmp hu2
    have hK := hK (Option.some.inj hds)
    refine st3 ho hwt (v := _) (w' := w) ?_ (hK _ w rfl (Below.refl _ _))
    unfold execOp
    rw [hop, ← e2]
    rfl
  | 2, _, ho, hop, hds, hdep, hK, hK5 =>
    have hop : o.op = .move (.tmp 11) := Option.some.inj hop
    have hu11 : a.tmps[11]? = some (.int .i64 iv) := (hbase.2.2 11 (by decide)).trans x11
    have e11 : a.eval (.tmp 11) = _ := ev_tmp hu11
    have hK := hK (Option.some.inj hds)
    refine st3 ho hwt (v := _) (w' := w) ?_ (hK _ w rfl (Below.refl _ _))
    unfold execOp
    rw [hop, ← e11]
    rfl
  | 3, _, ho, hop, hds, hdep, hK, hK5 =>
    have hop : o.op = .indexAddr 29 (.tmp 70) (.tmp 71) := Option.some.inj hop
    obtain ⟨u70, hu70, hv70⟩ := hdep 1 (by decide)
    have hv70' : u70 = .slice (some ⟨bl, off, none⟩) nl cl := hv70
    subst hv70'
    have e70 : a.eval (.tmp 70) = _ := ev_tmp hu70
    obtain ⟨u71, hu71, hv71⟩ := hdep 2 (by decide)
    have hv71' : u71 = .int .i64 iv := hv71
    subst hv71'
    have e71 : a.eval (.tmp 71) = _ := ev_tmp hu71
    have hK := hK (Option.some.inj hds)
    refine st3 ho hwt (v := .pointer (some ⟨bl, oo, none⟩)) (w' := w) ?_ (hK _ w rfl (Below.refl _ _))
    have hq := hix w
    unfold execOp
    simp only [hop, e70, e71, Sem.run_bind, hq, Result.andThen_ok]
    rfl
  | 4, _, ho, hop, hds, hdep, hK, hK5 =>
    have hop : o.op = .fieldAddr 39 (.tmp 72) 1 := Option.some.inj hop
    obtain ⟨u72, hu72, hv72⟩ := hdep 3 (by decide)
    have hv72' : u72 = .pointer (some ⟨bl, oo, none⟩) := hv72
    subst hv72'
    have e72 : a.eval (.tmp 72) = _ := ev_tmp hu72
    have hK := hK (Option.some.inj hds)
    refine st3 ho hwt (v := .pointer (some ⟨bl, oo + 1, none⟩)) (w' := w) ?_ (hK _ w rfl (Below.refl _ _))
    unfold execOp
    simp only [hop, Option.map_some, Option.map_none, e72]
    first | rfl | (go_simp; done) | (go_simp; simp; done) | (go_simp; intro h; omega)
  | 5, _, ho, hop, hds, hdep, hK, hK5 =>
    have hop : o.op = .load 3 (.tmp 73) := Option.some.inj hop
    obtain ⟨u73, hu73, hv73⟩ := hdep 4 (by decide)
    have hv73' : u73 = .pointer (some ⟨bl, oo + 1, none⟩) := hv73
    subst hv73'
    have e73 : a.eval (.tmp 73) = _ := ev_tmp hu73
    have hK := hK (Option.some.inj hds)
    have k0 : w.cell? ⟨bl, oo + 1, none⟩ = some (.int .i64 nd) := (hbl.cell hlt).trans c1
    refine st3 ho hwt (v := .int .i64 nd) (w' := w) ?_ (hK _ w rfl (Below.refl _ _))
    unfold execOp
    simp only [hop, Option.map_some, Option.map_none, e73]
    first | rfl | (go_simp; done) | (go_simp; simp; done) | (go_simp; intro h; omega)
  | 6, _, ho, hop, hds, hdep, hK, hK5 =>
    have hop : o.op = .move (.tmp 2) := Option.some.inj hop
    have hu2 : a.tmps[2]? = some (.slice (some ⟨bl, off, none⟩) nl cl) := (hbase.2.2 2 (by decide)).trans x2
    have e2 : a.eval (.tmp 2) = _ := ev_tmp hu2
    have hK := hK (Option.some.inj hds)
    refine st3 ho hwt (v := _) (w' := w) ?_ (hK _ w rfl (Below.refl _ _))
    unfold execOp
    rw [hop, ← e2]
    rfl
  | 7, _, ho, hop, hds, hdep, hK, hK5 =>
    have hop : o.op = .move (.tmp 11) := Option.some.inj hop
    have hu11 : a.tmps[11]? = some (.int .i64 iv) := (hbase.2.2 11 (by decide)).trans x11
    have e11 : a.eval (.tmp 11) = _ := ev_tmp hu11
    have hK := hK (Option.some.inj hds)
    refine st3 ho hwt (v := _) (w' := w) ?_ (hK _ w rfl (Below.refl _ _))
    unfold execOp
    rw [hop, ← e11]
    rfl
  | 8, _, ho, hop, hds, hdep, hK, hK5 =>
    have hop : o.op = .indexAddr 29 (.tmp 75) (.tmp 76) := Option.some.inj hop
    obtain ⟨u75, hu75, hv75⟩ := hdep 6 (by decide)
    have hv75' : u75 = .slice (some ⟨bl, off, none⟩) nl cl := hv75
    subst hv75'
    have e75 : a.eval (.tmp 75) = _ := ev_tmp hu75
    obtain ⟨u76, hu76, hv76⟩ := hdep 7 (by decide)
    have hv76' : u76 = .int .i64 iv := hv76
    subst hv76'
    have e76 : a.eval (.tmp 76) = _ := ev_tmp hu76
    have hK := hK (Option.some.inj hds)
    refine st3 ho hwt (v := .pointer (some ⟨bl, oo, none⟩)) (w' := w) ?_ (hK _ w rfl (Below.refl _ _))
    have hq := hix w
    unfold execOp
    simp only [hop, e75, e76, Sem.run_bind, hq, Result.andThen_ok]
    rfl
  | 9, _, ho, hop, hds, hdep, hK, hK5 =>
    have hop : o.op = .fieldAddr 39 (.tmp 77) 2 := Option.some.inj hop
    obtain ⟨u77, hu77, hv77⟩ := hdep 8 (by decide)
    have hv77' : u77 = .pointer (some ⟨bl, oo, none⟩) := hv77
    subst hv77'
    have e77 : a.eval (.tmp 77) = _ := ev_tmp hu77
    have hK := hK (Option.some.inj hds)
    refine st3 ho hwt (v := .pointer (some ⟨bl, oo + 2, none⟩)) (w' := w) ?_ (hK _ w rfl (Below.refl _ _))
    unfold execOp
    simp only [hop, Option.map_some, Option.map_none, e77]
    first | rfl | (go_simp; done) | (go_simp; simp; done) | (go_simp; intro h; omega)
  | 10, _, ho, hop, hds, hdep, hK, hK5 =>
    have hop : o.op = .load 28 (.tmp 78) := Option.some.inj hop
    obtain ⟨u78, hu78, hv78⟩ := hdep 9 (by decide)
    have hv78' : u78 = .pointer (some ⟨bl, oo + 2, none⟩) := hv78
    subst hv78'
    have e78 : a.eval (.tmp 78) = _ := ev_tmp hu78
    have hK := hK (Option.some.inj hds)
    have hrg : w.rangeAt bl (oo + 2) X := fun j u hu => (hbl.cell (p := ⟨bl, oo + 2 + j, none⟩) hlt).trans (c2 j u hu)
    refine st3 ho hwt (v := .agg X.toArray) (w' := w) ?_ (hK _ w rfl (Below.refl _ _))
    unfold execOp
    simp only [hop, e78, Instr.loadAt, Instr.sureAddr, Sem.run_bind, Sem.run_pure, Result.andThen_ok, run_loadVar_mid w bl (oo + 2) 28 X _ (hrg) Try.underlying28 rfl hXi]
  | 11, _, ho, hop, hds, hdep, hK, hK5 =>
    have hop : o.op = .call { callee := .value (.func 13), args := #[.tmp 69, .tmp 74, .tmp 79], argTypes := #[34, 3, 28] } := Option.some.inj hop
    obtain ⟨u69, hu69, hv69⟩ := hdep 0 (by decide)
    have hv69' : u69 = .pointer (some ⟨r, 0, none⟩) := hv69
    subst hv69'
    have e69 : a.eval (.tmp 69) = _ := ev_tmp hu69
    obtain ⟨u74, hu74, hv74⟩ := hdep 5 (by decide)
    have hv74' : u74 = .int .i64 nd := hv74
    subst hv74'
    have e74 : a.eval (.tmp 74) = _ := ev_tmp hu74
    obtain ⟨u79, hu79, hv79⟩ := hdep 10 (by decide)
    have hv79' : u79 = .agg X.toArray := hv79
    subst hv79'
    have e79 : a.eval (.tmp 79) = _ := ev_tmp hu79
    have hK := hK (Option.some.inj hds)
    obtain ⟨uE, huE, hvE⟩ := hdep 13 (by decide)
    refine st3_call ho hwt (f := 13) (vals := #[.pointer (some ⟨r, 0, none⟩), .int .i64 nd, .agg X.toArray]) (Z := fun v w' => v = .int .i64 E ∧ D15 wB w' g r m n2) ?_ ?_ ?_
    · unfold execOp
      simp only [hop, e69, e74, e79, resolve, invoke, Sem.run_bind, Sem.run_pure, Result.andThen_ok, List.map_toArray, List.map_cons, List.map_nil]
      first | rfl | exact enters_of Try.func13 (by kernel_rfl) rfl _ _
    · exact (hV w hvE).mono fun e w' ⟨he, h2⟩ => ⟨_, he, rfl, h2⟩
    · rintro v w' ⟨h1, h2⟩
      exact hK5 v w' ⟨h2.bel, trivial⟩ (fun _ => ⟨h1, h2⟩) (fun e => by rw [Option.some.inj hds] at e; cases e) (fun j u a1 a2 _ a4 => pb_keep11 wB g r bl off oo nl cl iv nd E m m2 n n2 X j u a1 a2 a4)
  | 12, _, ho, hop, hds, hdep, hK, hK5 =>
    have hop : o.op = .assign (.tmp 80) := Option.some.inj hop
    obtain ⟨u80, hu80, hv80⟩ := hdep 11 (by decide)
    have hv80' : VoD wB g r m n2 E u80 w := hv80
    have e80 : a.eval (.tmp 80) = _ := ev_tmp hu80
    have hK := hK (Option.some.inj hds)
    have hz := hv80'.1
    subst hz
    refine st3 ho hwt (v := .int .i64 E) (w' := w) ?_ (hK _ w rfl (Below.refl _ _))
    unfold execOp
    simp only [hop, Option.map_some, Option.map_none, e80]
    first | rfl | (go_simp; done) | (go_simp; simp; done) | (go_simp; intro h; omega)
  | i + 13, hi, _, _, _, _, _, _ => exact absurd hi (by omega)
set_option maxRecDepth 100000 in
set_option maxHeartbeats 64000000 in
theorem plays (fc : Int) (Ac : Option Addr) (nc cc : Nat) (c : List Int) (low : Mk) (Al : Option Addr) (nl cl : Nat) (l : List DoM) (w : World) (hc : ArgC w fc Ac nc cc c) (hl : ArgDm w Al nl cl l) :
    Calls Try.prog 3 #[.agg #[.int .i64 fc, .slice Ac nc cc], .agg (mkC low).toArray, .slice Al nl cl] w fun e w' => e = .returned (.bool true) ∧ Below w.heap.size w w' := by
  obtain ⟨hfw, hcA, hcl⟩ := hc
  have HB : Hid (∀ z, Wf z → ∀ n : Int, 0 < n → n ≤ 100 → ∀ W, Calls Try.prog 11 #[.int .i64 z, .int .i64 n] W fun e w' => e = .returned (.int .i64 (z % n)) ∧ w' = W) := Lib.hid fun z hz n h0 h1 W => bring_w z n W h0 (by omega) hz
  have HL := Lib.hid hl
  have hlen := hl.1
  have hnl : (nl : Int) ≤ 9223372036854775807 := by have := hl.2.1; have := hl.2.2.1; unfold maxLen at this; omega
  clear hl
  have HAw : Hid (∀ W, Calls Try.prog 17 #[] W fun e w' => e = .returned (.bool true) ∧ Below W.heap.size W w') := Lib.hid fun W => awake_any W
  have hb0 : Below w.heap.size w (w.alloc (.cells #[.int .i64 fc, .slice Ac nc cc] 24)) := (Below.refl _ _).alloc (Nat.le_refl _) _
  have hb1 : Below (w.alloc (.cells #[.int .i64 fc, .slice Ac nc cc] 24)).heap.size (w.alloc (.cells #[.int .i64 fc, .slice Ac nc cc] 24)) ((w.alloc (.cells #[.int .i64 fc, .slice Ac nc cc] 24)).alloc (.cells (mkC low).toArray 28)) := (Below.refl _ _).alloc (Nat.le_refl _) _
  have X0 : Blk ((w.alloc (.cells #[.int .i64 fc, .slice Ac nc cc] 24)).alloc (.cells (mkC low).toArray 28)) w.heap.size 24 [.int .i64 fc, .slice Ac nc cc] := Blk.old (Blk.new rfl rfl) _
  have M0 : Blk ((w.alloc (.cells #[.int .i64 fc, .slice Ac nc cc] 24)).alloc (.cells (mkC low).toArray 28)) (w.heap.size + 1) 28 (mkC low) := Blk.new rfl (by simp)
  have A0 := (hcA.after hb0).after hb1
  have hb01 := hb0.trans (hb1.mono hb0.size)
  have N0 := new_any (f := fc) A0 low
  obtain ⟨W0, hW0⟩ : ∃ W0, (w.alloc (.cells #[.int .i64 fc, .slice Ac nc cc] 24)).alloc (.cells (mkC low).toArray 28) = W0 := ⟨_, rfl⟩
  rw [hW0] at hb01 X0 M0 A0 N0
  obtain ⟨E, hE⟩ : ∃ E, newE fc c low = E := ⟨_, rfl⟩
  rw [hE] at N0
  have R0 : ∀ W, Below W0.heap.size W0 W → Calls Try.prog 10 #[.agg #[.int .i64 fc, .slice Ac nc cc], .agg (mkC low).toArray] W (RNewR W E fc c low) := fun W hb => by rw [← hE]; exact rnew_any (f := fc) (A0.after hb) low
  have H := Lib.hid (And.intro hb01 (And.intro X0 (And.intro M0 (And.intro N0 R0))))
  have HW := Lib.hid hW0
  have hCi := mark_infoL low
  clear hb0 hb1 X0 M0 A0 hb01 N0 R0 hcA hcl hE hW0
  obtain ⟨C, hC⟩ : ∃ C, mkC low = C := ⟨_, rfl⟩
  rw [hC] at H HW hCi ⊢
  have HCi := Lib.hid hCi
  clear hC hCi
  go_enter Try.func3, Try.ntmps3
  go_upto_region 1 with fail
  rw [HW.out]
  go_wp2_with (first
    | (show wpList _ _ _ ({ dst := some 15, op := _, type := _, pos := _, after := _, guard := none } :: _) _ _; refine load_mid_g rfl 24 _ rfl w.heap.size 0 rfl [.int .i64 fc, .slice Ac nc cc] _ H.out.2.1.range Try.underlying24 rfl crew_info ?_; simp only [Act.put])
    | (show wpList _ _ _ ({ dst := some 16, op := _, type := _, pos := _, after := _, guard := none } :: _) _ _; refine load_mid_g rfl 28 _ rfl (w.heap.size + 1) 0 rfl C _ H.out.2.2.1.range Try.underlying28 rfl HCi.out ?_; simp only [Act.put]))
  refine H.out.2.2.2.1.mono ?_
  rintro e w1 ⟨hb1, hcase⟩
  have X1 := H.out.2.1.below hb1 H.out.2.1.lt
  have M1 := H.out.2.2.1.below hb1 H.out.2.2.1.lt
  have R1 := H.out.2.2.2.2 w1 hb1
  have H1 := Lib.hid (And.intro hb1 (And.intro X1.range (And.intro M1.range R1)))
  clear hb1 X1 M1 R1
  rcases hcase with ⟨hE, rfl⟩ | ⟨hE, g, rfl, hst⟩
  · have hEb : (E == 0) = false := by simp [hE]
    have hEc : (E != 0) = true := by simp [hE]
    go_wp2_with (first
      | (show wpList _ _ _ ({ dst := some 21, op := _, type := _, pos := _, after := _, guard := none } :: _) _ _; refine load_mid_g rfl 24 _ rfl w.heap.size 0 rfl [.int .i64 fc, .slice Ac nc cc] _ H1.out.2.1 Try.underlying24 rfl crew_info ?_; simp only [Act.put])
      | (show wpList _ _ _ ({ dst := some 22, op := _, type := _, pos := _, after := _, guard := none } :: _) _ _; refine load_mid_g rfl 28 _ rfl (w.heap.size + 1) 0 rfl C _ H1.out.2.2.1 Try.underlying28 rfl HCi.out ?_; simp only [Act.put]))
    refine H1.out.2.2.2.mono ?_
    rintro e w2 ⟨hb2, hcase⟩
    have hbw := Lib.hid ((H.out.1.trans (H1.out.1.mono H.out.1.size)).trans (hb2.mono (Nat.le_trans H.out.1.size H1.out.1.size)))
    clear hb2
    rcases hcase with ⟨_, rfl⟩ | ⟨hE2, _⟩
    rotate_left
    · exact absurd hE2 hE
    go_upto_region 6 with fail
    go_loopw [11] (fun v11 wr => v11 = .int .i64 0 ∧ Below w.heap.size w wr) (fun _ _ => 0)
    case atStart => exact ⟨rfl, hbw.out⟩
    case round =>
      obtain ⟨rfl, hb⟩ := hrel
      have Hb := Lib.hid hb
      clear hb
      by_cases hn0 : (0 : Int) < (nl : Int)
      · go_wp2_with (go_at_call 17; refine (HAw.out _).mono ?_; rintro e w3 ⟨rfl, hb3⟩; replace hb3 := Lib.hid hb3)
        go_ret
        exact ⟨rfl, Hb.out.trans (hb3.out.mono Hb.out.size)⟩
      · go_wp2_with (go_at_call 17; refine (HAw.out _).mono ?_; rintro e w3 ⟨rfl, hb3⟩; replace hb3 := Lib.hid hb3)
        go_ret
        exact ⟨rfl, Hb.out.trans (hb3.out.mono Hb.out.size)⟩
  · subst hE
    have hst2 := Lib.hid hst
    clear hst
    go_wp2_with (first
      | (show wpList _ _ _ ({ dst := some 21, op := _, type := _, pos := _, after := _, guard := none } :: _) _ _; refine load_mid_g rfl 24 _ rfl w.heap.size 0 rfl [.int .i64 fc, .slice Ac nc cc] _ H1.out.2.1 Try.underlying24 rfl crew_info ?_; simp only [Act.put])
      | (show wpList _ _ _ ({ dst := some 22, op := _, type := _, pos := _, after := _, guard := none } :: _) _ _; refine load_mid_g rfl 28 _ rfl (w.heap.size + 1) 0 rfl C _ H1.out.2.2.1 Try.underlying28 rfl HCi.out ?_; simp only [Act.put]))
    refine H1.out.2.2.2.mono ?_
    rintro e w2 ⟨hb2, hcase⟩
    rcases hcase with ⟨hE2, _⟩ | ⟨_, r, rfl, hrt⟩
    · exact absurd rfl hE2
    have H2 := Lib.hid (D15.new H.out.1 hst2.out H1.out.1 hrt hb2)
    clear hb2 hrt
    go_upto_region 6 with fail
    go_loopw [11] (fun v11 wr => ∃ (i : Nat) (m : Ms), i ≤ nl ∧ i ≤ 100 ∧ v11 = .int .i64 (i : Int) ∧ D15 w wr g r m m) (fun v _ => 200 - (intOf v).toNat)
    case atStart => exact ⟨0, _, by omega, by omega, rfl, H2.out⟩
    case round =>
      rename World => wo
      obtain ⟨i, m, hi, hi100, rfl, hD⟩ := hrel
      have HD := Lib.hid hD
      clear hD
      by_cases hc : i < nl ∧ i < 100
      · obtain ⟨hc1, hc2⟩ := hc
        have hd1 : (i : Int) < (nl : Int) := by omega
        have hd2 : (i : Int) < 100 := by omega
        obtain ⟨bl, ol, hAl, hbl0, hW⟩ := HL.out.at_ (j := i) (by omega)
        obtain ⟨q1, q2, c0, c1, c2⟩ := hW
        generalize l[i] = x at *
        subst hAl
        have HC := Lib.hid (And.intro q1 (And.intro q2 (And.intro c0 (And.intro c1 (And.intro c2 hbl0)))))
        clear q1 q2 c0 c1 c2 hbl0
        obtain ⟨kd, hkd⟩ : ∃ z, x.kd % 2 = z := ⟨_, rfl⟩
        have B1 : Hid (∀ W, Calls Try.prog 11 #[.int .i64 x.kd, .int .i64 2] W fun e w' => e = .returned (.int .i64 kd) ∧ w' = W) := Lib.hid fun W => by rw [← hkd]; exact HB.out x.kd HC.out.1 2 (by omega) (by omega) W
        have hkd0 : 0 ≤ kd := by omega
        have hkd1 : kd < 2 := by omega
        clear hkd
        have ix := fun W => do_at W bl ol nl cl i hc1
        have ck : wo.cell? ⟨bl, ol + i * 35, none⟩ = some (.int .i64 x.kd) := (HD.out.bel.cell HC.out.2.2.2.2.2).trans HC.out.2.2.1
        obtain ⟨X, hX⟩ : ∃ X, mkC x.x = X := ⟨_, rfl⟩
        have hXi := mark_infoL x.x
        rw [hX] at HC hXi
        have HXi := Lib.hid hXi
        clear hXi
        have hwi : IntKind.i64.wrap ((i : Int) + 1) = (i : Int) + 1 := IntWalk.i64_in _ (by omega)
        by_cases hk0 : kd = 0
        · subst hk0
          obtain ⟨m', hm'⟩ : ∃ m', voteS m x.nd x.x = m' := ⟨_, rfl⟩
          obtain ⟨E, hE⟩ : ∃ E, voteE m x.nd x.x = E := ⟨_, rfl⟩
          have HV : Hid (∀ W, D15 w W g r m m → Calls Try.prog 12 #[.pointer (some ⟨g, 0, none⟩), .int .i64 x.nd, .agg X.toArray] W fun e w' => e = .returned (.int .i64 E) ∧ D15 w w' g r m' m) := Lib.hid fun W k => by rw [← hX, ← hm']; exact k.vote HC.out.2.1 _ hE
          have HR : Hid (∀ W, D15 w W g r m' m → Calls Try.prog 13 #[.pointer (some ⟨r, 0, none⟩), .int .i64 x.nd, .agg X.toArray] W fun e w' => e = .returned (.int .i64 E) ∧ D15 w w' g r m' m') := Lib.hid fun W k => by rw [← hX]; have := k.rvote x.nd x.x hE; rw [hm'] at this; exact this
          clear hX hm' hE
          have HAd := Lib.hid (HD.out.below (Below.refl _ _).drew)
          go_upto_region 10 with (go_at_call 11; refine (B1.out _).mono ?_; rintro e w3 ⟨rfl, hww⟩; have hww2 := hww.symm; subst hww2; clear hww)
          clear ck
          go_wp2_with fail
          refine region_rule6 (P := Try.prog) 13 105 1 paK paD (paR w g r bl ol (ol + i * 35) nl cl (i : Int) x.nd E m m' m m X) (fun W6 => Below (w).heap.size (w) W6 ∧ paX w g r bl ol (ol + i * 35) nl cl (i : Int) x.nd E m m' m m X W6) _ _ (by kernel_rfl) rfl rfl (by kernel_rfl) (by decide +kernel) (by decide +kernel) ⟨HAd.out.bel, trivial⟩ (fun y h1 h2 => by
            obtain rfl : y = 13 := by omega
            exact ⟨_, rfl, HAd.out⟩) (pa_step w g r bl ol (ol + i * 35) nl cl (i : Int) x.nd E m m' m m X (by rfl) (by rfl) (by decide +kernel) rfl rfl rfl ix HC.out.2.2.2.2.2 HC.out.2.2.2.1 HC.out.2.2.2.2.1 HXi.out HV.out) ?fin
          case fin =>
            intro a w6 hbase hI hall
            obtain ⟨v68, hv68, hR68⟩ := hall 11 (by decide) (by decide)
            have hR68' : VoD w g r m' m E v68 w6 := hR68
            obtain ⟨hv, hA2⟩ := hR68'
            subst hv
            obtain ⟨v12, hv12, hR12⟩ := hall 12 (by decide) (by decide)
            have hR12' : v12 = .int .i64 E := hR12
            subst hR12'
            obtain ⟨ga, hgae, hga⟩ := base_lit hbase [57, 58, 59, 60, 61, 62, 63, 64, 65, 66, 67, 68, 12] (by rfl)
            have q68 : ga 68 = .int .i64 E := hgae 68 _ hv68
            have q12 : ga 12 = .int .i64 E := hgae 12 _ hv12
            simp only [List.foldl_cons, List.foldl_nil, List.setIfInBounds_toArray, List.set_cons_zero, List.set_cons_succ, q68, q12] at hga
            rw [hga]
            have H4 := Lib.hid hA2
            clear hv68 hR68 hv12 hR12 hgae hga q68 q12 hA2 hI hall hbase
            have HAe := Lib.hid (H4.out.below (Below.refl _ _).drew)
            go_upto_region 11 with fail
            go_wp2_with fail
            refine region_rule6 (P := Try.prog) 13 105 1 pbK pbD (pbR w g r bl ol (ol + i * 35) nl cl (i : Int) x.nd E m' m m m' X) (fun W6 => Below (w).heap.size (w) W6 ∧ pbX w g r bl ol (ol + i * 35) nl cl (i : Int) x.nd E m' m m m' X W6) _ _ (by kernel_rfl) rfl rfl (by kernel_rfl) (by decide +kernel) (by decide +kernel) ⟨HAe.out.bel, trivial⟩ (fun y h1 h2 => by
              obtain rfl : y = 13 := by omega
              exact ⟨_, rfl, HAe.out⟩) (pb_step w g r bl ol (ol + i * 35) nl cl (i : Int) x.nd E m' m m m' X (by rfl) (by rfl) (by decide +kernel) rfl rfl rfl ix HC.out.2.2.2.2.2 HC.out.2.2.2.1 HC.out.2.2.2.2.1 HXi.out HR.out) ?fin8
            case fin8 =>
              intro a2 w7 hbase hI hall
              obtain ⟨v80, hv80, hR80⟩ := hall 11 (by decide) (by decide)
              have hR80' : VoD w g r m' m' E v80 w7 := hR80
              obtain ⟨hv, hA2⟩ := hR80'
              subst hv
              obtain ⟨v13, hv13, hR13⟩ := hall 12 (by decide) (by decide)
              have hR13' : v13 = .int .i64 E := hR13
              subst hR13'
              obtain ⟨gb, hgbe, hgb⟩ := base_lit hbase [69, 70, 71, 72, 73, 74, 75, 76, 77, 78, 79, 80, 13] (by rfl)
              have q80 : gb 80 = .int .i64 E := hgbe 80 _ hv80
              have q13 : gb 13 = .int .i64 E := hgbe 13 _ hv13
              simp only [List.foldl_cons, List.foldl_nil, List.setIfInBounds_toArray, List.set_cons_zero, List.set_cons_succ, q80, q13] at hgb
              rw [hgb]
              have H5 := Lib.hid hA2
              clear hv80 hR80 hv13 hR13 hgbe hgb q80 q13 hA2 hI hall hbase
              go_upto_region 14 with fail
              go_wp2_with (go_at_call 16; refine H5.out.tells.mono ?_; rintro e w8 ⟨rfl, h8⟩; replace h8 := Lib.hid h8)
              go_roundw
              case rel => exact ⟨i + 1, _, by omega, by omega, by first | rfl | (push_cast; rfl), h8.out⟩
              case measure => simp [intOf]; omega
        · have hkd2 : (kd == 0) = false := by simp [hk0]
          obtain ⟨m', hm'⟩ : ∃ m', riseS m x.x = m' := ⟨_, rfl⟩
          obtain ⟨E, hE⟩ : ∃ E, riseE m x.x = E := ⟨_, rfl⟩
          have hV := HD.out.raise x.x hE
          rw [hX, hm'] at hV
          have HV := Lib.hid hV
          have HR : Hid (∀ W, D15 w W g r m' m → Calls Try.prog 15 #[.pointer (some ⟨r, 0, none⟩), .agg X.toArray] W fun e w' => e = .returned (.int .i64 E) ∧ D15 w w' g r m' m') := Lib.hid fun W k => by rw [← hX]; have := k.rraise x.x hE; rw [hm'] at this; exact this
          have hr0 : wo.rangeAt bl (ol + i * 35 + 2) X := fun j u hu => (HD.out.bel.cell (p := ⟨bl, ol + i * 35 + 2 + j, none⟩) HC.out.2.2.2.2.2).trans (HC.out.2.2.2.2.1 j u hu)
          have Hr0 := Lib.hid hr0
          clear hX hm' hE hV hr0
          go_upto_region 12 with (go_at_call 11; refine (B1.out _).mono ?_; rintro e w3 ⟨rfl, hww⟩; have hww2 := hww.symm; subst hww2; clear hww)
          clear ck
          go_upto_region 13 with (first
            | (refine load_mid_g rfl 28 _ rfl bl (ol + i * 35 + 2) rfl X _ Hr0.out Try.underlying28 rfl HXi.out ?_; simp only [Act.put])
            | (go_at_call 14; refine HV.out.mono ?_; rintro e w4 ⟨rfl, h4⟩; replace h4 := Lib.hid h4))
          have hr1 : w4.rangeAt bl (ol + i * 35 + 2) X := fun j u hu => (h4.out.bel.cell (p := ⟨bl, ol + i * 35 + 2 + j, none⟩) HC.out.2.2.2.2.2).trans (HC.out.2.2.2.2.1 j u hu)
          have Hr1 := Lib.hid hr1
          clear hr1
          go_upto_region 14 with (first
            | (refine load_mid_g rfl 28 _ rfl bl (ol + i * 35 + 2) rfl X _ Hr1.out Try.underlying28 rfl HXi.out ?_; simp only [Act.put])
            | (go_at_call 15; refine (HR.out _ h4.out).mono ?_; rintro e w5 ⟨rfl, h5⟩; replace h5 := Lib.hid h5))
          go_upto_region 14 with fail
          go_wp2_with (go_at_call 16; refine h5.out.tells.mono ?_; rintro e w8 ⟨rfl, h8⟩; replace h8 := Lib.hid h8)
          go_roundw
          case rel => exact ⟨i + 1, _, by omega, by omega, by first | rfl | (push_cast; rfl), h8.out⟩
          case measure => simp [intOf]; omega
      · have hd : ¬ ((i : Int) < (nl : Int)) ∨ ((i : Int) < (nl : Int) ∧ ¬ ((i : Int) < 100)) := by omega
        rcases hd with hd | ⟨hd, hd2⟩
        · go_wp2_with (go_at_call 17; refine (HAw.out _).mono ?_; rintro e w3 ⟨rfl, hb3⟩; replace hb3 := Lib.hid hb3)
          go_ret
          exact ⟨rfl, HD.out.bel.trans (hb3.out.mono HD.out.bel.size)⟩
        · go_wp2_with (go_at_call 17; refine (HAw.out _).mono ?_; rintro e w3 ⟨rfl, hb3⟩; replace hb3 := Lib.hid hb3)
          go_ret
          exact ⟨rfl, HD.out.bel.trans (hb3.out.mono HD.out.bel.size)⟩

end Go.Proofs.Ytenccpccpjjkmaa.marksPlays
