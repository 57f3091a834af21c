/-
  The document's Replace over the reference's code. (Written by tools/gen_rrep8.py.)
-/
import Derived.Test.YtjibbbfpbflgmaaRm8
import Derived.Test.YtjibbbfpbflgmaaRep8
import Derived.Test.YtjibbbfpbflgmaaNx8
import Derived.Test.YtjibbbfpbflgmaaRule6
namespace Go.Proofs.Ytjibbbfpbflgmaa
open Go.RowKit Go.Shelf CrewP
set_option linter.unusedVariables false
set_option linter.unusedSimpArgs false

theorem own_off_crew {W : World} {base g : Nat} {v : Value} {l : List Int} {cs : List Value} (h : OwnI W base v l) (hB : Blk W g 24 cs) : v.ownBlock ≠ some g := by
  rcases own_blk h with ⟨e, _, _⟩ | ⟨g', cap, cs', e, hg, hBr, _⟩
  · subst e; simp [Value.ownBlock]
  · subst e
    intro e
    have e' : g' = g := by simpa [Value.ownBlock] using e
    subst e'
    unfold Blk at hB hBr
    rw [hB] at hBr
    have := Option.some.inj hBr
    injection this with _ h2 _
    exact absurd h2 (by decide)
def rbR (wB : World) (gc gr : Nat) (f : Int) (A : Option Addr) (n c : Nat) (old x : Int) (ot : List Int) : Nat → Value → World → Prop
  | 0 => fun v w => v = .pointer (some ⟨gc, 0, none⟩)
  | 1 => fun v w => v = .int .i64 f
  | 2 => fun v w => v = .agg #[.int .i64 f, .slice A n c]
  | 3 => fun v w => v = .int .i64 old
  | 4 => fun v w => OwnI w wB.heap.size v ot
  | 5 => fun v w => v = .int .i64 x
  | 6 => fun v w => OwnI w wB.heap.size v [x]
  | 7 => fun v w => OwnI w wB.heap.size v (ot ++ [x])
  | 8 => fun v w => ∃ V, v = .agg #[.int .i64 f, V] ∧ OwnI w wB.heap.size V (ofTo (ot ++ [x]) 28)
  | 9 => fun v w => ∃ V, v = .agg #[.int .i64 f, V] ∧ Blk w gr 24 [.int .i64 f, V]
  | 10 => fun v w => v = (.int .i64 0)
  | 11 => fun v w => ∃ p q, Blk w gr 24 [p, q] ∧ v = .pointer (some ⟨gr, 0, none⟩)
  | _ => fun _ _ => True
def rbD (i : Nat) : Nat := ([28, 29, 30, 31, 32, 33, 34, 35, 36, 36, 7, 6] : List Nat).getD i 0
def rbK (i j : Nat) : Bool := ([(7, 4), (7, 6)] : List (Nat × Nat)).contains (i, j)
theorem rb_on (wB : World) (gc gr : Nat) (f : Int) (A : Option Addr) (n c : Nat) (old x : Int) (ot : List Int) : ∀ i v w w', rbR wB gc gr f A n c old x ot i v w → Below w.heap.size w w' → rbR wB gc gr f A n c old x ot i v w'
  | 0, v, w, w', h, _ => h
  | 1, v, w, w', h, _ => h
  | 2, v, w, w', h, _ => h
  | 3, v, w, w', h, _ => h
  | 4, v, w, w', h, hb => own_below h hb
  | 5, v, w, w', h, _ => h
  | 6, v, w, w', h, hb => own_below h hb
  | 7, v, w, w', h, hb => own_below h hb
  | 8, v, w, w', h, hb => let ⟨V, e, hO⟩ := h; ⟨V, e, own_below hO hb⟩
  | 9, v, w, w', h, hb => let ⟨V, e, hB⟩ := h; ⟨V, e, hB.below hb hB.lt⟩
  | 10, v, w, w', h, _ => h
  | 11, v, w, w', h, hb => let ⟨p, q, hB, e⟩ := h; ⟨p, q, hB.below hb hB.lt, e⟩
  | i + 12, v, w, w', h, hb => trivial
theorem rb_keep7 (wB : World) (gc gr : Nat) (f : Int) (A : Option Addr) (n c : Nat) (old x : Int) (ot : List Int) {w w' : World} {u0 : Value} (hO : OwnI w wB.heap.size u0 ot) (hgr : w.grownBy w' u0.ownBlock) : ∀ j u, j ≠ 7 → rbK 7 j = false → j ≠ 8 → rbR wB gc gr f A n c old x ot j u w → rbR wB gc gr f A n c old x ot j u w'
  | 0, u, e, _, _, h => h
  | 1, u, e, _, _, h => h
  | 2, u, e, _, _, h => h
  | 3, u, e, _, _, h => h
  | 4, u, e, hk, _, h => absurd hk (by decide)
  | 5, u, e, _, _, h => h
  | 6, u, e, hk, _, h => absurd hk (by decide)
  | 7, u, e, _, _, h => absurd rfl e
  | 8, u, e, _, e8, h => absurd rfl e8
  | 9, u, e, _, _, h => let ⟨V, e, hB⟩ := h; ⟨V, e, Blk.grown hB hgr (own_off_crew hO hB)⟩
  | 10, u, e, _, _, h => h
  | 11, u, e, _, _, h => let ⟨p, q, hB, e⟩ := h; ⟨p, q, Blk.grown hB hgr (own_off_crew hO hB), e⟩
  | j + 12, u, e, _, _, h => trivial
theorem rb_keep9 (wB : World) (gc gr : Nat) (f : Int) (A : Option Addr) (n c : Nat) (old x : Int) (ot : List Int) {w : World} {z0 y0 : Value} (hB : Blk w gr 24 [z0, y0]) (ws : List Value) (hl : ws.length = 2) : ∀ j u, j ≠ 9 → rbK 9 j = false → rbR wB gc gr f A n c old x ot j u w → rbR wB gc gr f A n c old x ot j u (w.setCells gr 0 ws)
  | 0, u, e, _, h => h
  | 1, u, e, _, h => h
  | 2, u, e, _, h => h
  | 3, u, e, _, h => h
  | 4, u, e, _, h => own_cells h hB ws
  | 5, u, e, _, h => h
  | 6, u, e, _, h => own_cells h hB ws
  | 7, u, e, _, h => own_cells h hB ws
  | 8, u, e, _, h => let ⟨V, e, hO⟩ := h; ⟨V, e, own_cells hO hB ws⟩
  | 9, u, e, _, h => absurd rfl e
  | 10, u, e, _, h => h
  | 11, u, e, _, h => let ⟨p, q, hC, e⟩ := h; ⟨_, _, (crew_keep hC hB ws hl).2, e⟩
  | j + 12, u, e, _, h => trivial
def rbX (wB : World) (gc gr : Nat) (f : Int) (A : Option Addr) (n c : Nat) (old x : Int) (ot : List Int) (w : World) : Prop := True
def rbOps : List Op := [.fieldAddr 24 (.tmp 3) 0,
  .load 3 (.tmp 28),
  .load 24 (.tmp 3),
  .move (.tmp 1),
  .call { callee := .value (.func 34), args := #[.tmp 30, .tmp 31], argTypes := #[24, 3] },
  .move (.tmp 2),
  .buildSlice 22 1 #[(0, .tmp 33)],
  .call { callee := .builtin .append, args := #[.tmp 32, .tmp 34], argTypes := #[22, 22] },
  .call { callee := .value (.func 48), args := #[.tmp 29, .tmp 35], argTypes := #[3, 22] },
  .store 24 (.tmp 6) (.tmp 36),
  .assign (.const (.int .i64 0))]
def rbNeeds : Nat → List Nat
  | 0 => []
  | 1 => [0]
  | 2 => []
  | 3 => []
  | 4 => [2, 3]
  | 5 => []
  | 6 => [5]
  | 7 => [4, 6]
  | 8 => [1, 7]
  | 9 => [8, 11]
  | 10 => []
  | _ => []
set_option maxRecDepth 100000 in
set_option maxHeartbeats 3200000 in
theorem rb_step {ops : Array Oper} {Q : Exit → Act → World → Prop} {a0 : Act} (wB : World) (gc gr : Nat) (f : Int) (A : Option Addr) (n c : Nat) (old x : Int) (ot : List Int) (hops : ((List.range 11).map fun i => (ops[i]?).map Oper.op) = rbOps.map some)
    (hdsl : ((List.range 11).map fun i => (ops[i]?).map Oper.dst) = ([some 28, some 29, some 30, some 31, some 32, some 33, some 34, some 35, some 36, none, some 7] : List (Option Tmp)).map some)
    (hnd : ((List.range 11).all fun i => (rbNeeds i).all fun j => (((ops[i]?).map fun o => (o.after.any fun e => Region.binds .any e && (e.on == j)) || (decide (11 ≤ j) && decide (j < 11 + 1))).getD false) && ((List.range 11).all fun q => !(rbK q j) || (q == i) || ((ops[q]?).map fun o => o.after.any fun e => Region.binds .any e && (e.on == i)).getD false)) = true)
    (hl7_8 : ((ops[8]?).map fun o => o.after.any fun e => Region.binds .any e && (e.on == 7)).getD false = true) (x3 : a0.tmps[3]? = some (.pointer (some ⟨gc, 0, none⟩))) (x1 : a0.tmps[1]? = some (.int .i64 old)) (x2 : a0.tmps[2]? = some (.int .i64 x)) (x6 : a0.tmps[6]? = some (.pointer (some ⟨gr, 0, none⟩))) (ns : List Int)
    (hB : Blk wB gc 24 [.int .i64 f, .slice A n c]) (hA : ArgI wB A n c ns) (hot : othersR f ns old = ot) (hol : ot.length ≤ 1000) (hwf8 : ∀ y ∈ ot ++ [x], Wf y) (hgr : wB.heap.size ≤ gr) :
    ∀ i o, i < 11 → ops[i]? = some o → o.guard = none → (o.dst = some (rbD i) ∨ o.dst = none) → ∀ a w, Base rbD 11 a0 a → (Below wB.heap.size wB w ∧ rbX wB gc gr f A n c old x ot w) →
      (∀ j, ((o.after.any fun e => Region.binds .any e && (e.on == j)) || (decide (11 ≤ j) && decide (j < 11 + 1))) = true → ((List.range 11).all fun q => !(rbK q j) || (q == i) || ((ops[q]?).map fun o => o.after.any fun e => Region.binds .any e && (e.on == i)).getD false) = true → Has rbD (rbR wB gc gr f A n c old x ot) j a w) →
      ∀ K : Act → World → Prop, (∀ v w', (Below wB.heap.size wB w' ∧ rbX wB gc gr f A n c old x ot w') → (o.dst = some (rbD i) → rbR wB gc gr f A n c old x ot i v w') → (o.dst = none → ∃ u, a.tmps[rbD i]? = some u ∧ rbR wB gc gr f A n c old x ot i u w') → (∀ j u, j ≠ i → rbK i j = false → ((ops[j]?).map fun o => o.after.any fun e => Region.binds .any e && (e.on == i)).getD false = false → rbR wB gc gr f A n c old x ot j u w → rbR wB gc gr f A n c old x ot j u w') → K (a.put o.dst v) w') → wpOp Try.prog ops Q i K a w := by
  intro i o hi ho hgd hdst a w hbase hI hdep0 K hK5
  obtain ⟨hbl, hX⟩ := hI
  have hwt : Region.wanted o (yielded ops a.tmps) = true := by unfold Region.wanted; rw [hgd]
  have hop : some o.op = rbOps[i]? := by
    have h1 : ((List.range 11).map fun i => (ops[i]?).map Oper.op)[i]? = some (some o.op) := by
      rw [List.getElem?_map, List.getElem?_range hi]; simp only [Option.map_some, ho]
    rw [hops, List.getElem?_map] at h1
    cases h2 : rbOps[i]? with
    | none => rw [h2] at h1; cases h1
    | some y => rw [h2] at h1; simp only [Option.map_some, Option.some.injEq] at h1; rw [h1]
  have hds : some o.dst = ([some 28, some 29, some 30, some 31, some 32, some 33, some 34, some 35, some 36, none, some 7] : List (Option Tmp))[i]? := by
    have h1 : ((List.range 11).map fun i => (ops[i]?).map Oper.dst)[i]? = some (some o.dst) := by
      rw [List.getElem?_map, List.getElem?_range hi]; simp only [Option.map_some, ho]
    rw [hdsl, List.getElem?_map] at h1
    cases h2 : ([some 28, some 29, some 30, some 31, some 32, some 33, some 34, some 35, some 36, none, some 7] : List (Option Tmp))[i]? with
    | none => rw [h2] at h1; cases h1
    | some y => rw [h2] at h1; simp only [Option.map_some, Option.some.injEq] at h1; rw [h1]
  have hdep : ∀ j, j ∈ rbNeeds i → Has rbD (rbR wB gc gr f A n c old x ot) j a w := fun j hj => by
    have h1 := List.all_eq_true.1 (List.all_eq_true.1 hnd i (List.mem_range.2 hi)) j hj
    rw [ho, Bool.and_eq_true] at h1
    exact hdep0 j h1.1 h1.2
  have hK : o.dst = some (rbD i) → ∀ v w', rbR wB gc gr f A n c old x ot i v w' → Below w.heap.size w w' → K (a.put o.dst v) w' := fun e v w' h1 h2 => hK5 v w' ⟨hbl.trans (h2.mono hbl.size), trivial⟩ (fun _ => h1) (fun e' => by rw [e] at e'; cases e') (fun j u _ _ _ hj => rb_on wB gc gr f A n c old x ot j u w w' hj h2)
  clear hdep0 hops hnd hdsl hdst
  match i, hi, ho, hop, hds, hdep, hK, hK5 with
  | 0, _, ho, hop, hds, hdep, hK, hK5 =>
    have hop : o.op = .fieldAddr 24 (.tmp 3) 0 := Option.some.inj hop
    have hu3 : a.tmps[3]? = some (.pointer (some ⟨gc, 0, none⟩)) := (hbase.2.2 3 (by decide)).trans x3
    have e3 : a.eval (.tmp 3) = _ := ev_tmp hu3
    have hK := hK (Option.some.inj hds)
    refine st3 ho hwt (v := .pointer (some ⟨gc, 0, none⟩)) (w' := w) ?_ (hK _ w rfl (Below.refl _ _))
    unfold execOp
    simp only [hop, Option.map_some, Option.map_none, e3]
    first | rfl | (go_simp; done) | (go_simp; simp; done) | (go_simp; intro h; omega)
  | 1, _, ho, hop, hds, hdep, hK, hK5 =>
    have hop : o.op = .load 3 (.tmp 28) := Option.some.inj hop
    obtain ⟨u28, hu28, hv28⟩ := hdep 0 (by decide)
    have hv28' : u28 = .pointer (some ⟨gc, 0, none⟩) := hv28
    subst hv28'
    have e28 : a.eval (.tmp 28) = _ := ev_tmp hu28
    have hK := hK (Option.some.inj hds)
    refine st3 ho hwt (v := .int .i64 f) (w' := w) ?_ (hK _ w rfl (Below.refl _ _))
    have k0 : w.cell? ⟨gc, 0, none⟩ = some (.int .i64 f) := (hB.below hbl hB.lt).cell rfl
    unfold execOp
    simp only [hop, Option.map_some, Option.map_none, e28]
    first | rfl | (go_simp; done) | (go_simp; simp; done) | (go_simp; intro h; omega)
  | 2, _, ho, hop, hds, hdep, hK, hK5 =>
    have hop : o.op = .load 24 (.tmp 3) := Option.some.inj hop
    have hu3 : a.tmps[3]? = some (.pointer (some ⟨gc, 0, none⟩)) := (hbase.2.2 3 (by decide)).trans x3
    have e3 : a.eval (.tmp 3) = _ := ev_tmp hu3
    have hK := hK (Option.some.inj hds)
    refine st3 ho hwt (v := .agg #[.int .i64 f, .slice A n c]) (w' := w) ?_ (hK _ w rfl (Below.refl _ _))
    have k0 : w.cell? ⟨gc, 0, none⟩ = some (.int .i64 f) := (hB.below hbl hB.lt).cell rfl
    have k1 : w.cell? ⟨gc, 1, none⟩ = some (.slice A n c) := (hB.below hbl hB.lt).cell rfl
    unfold execOp
    simp only [hop, Option.map_some, Option.map_none, e3]
    first | rfl | (go_simp; done) | (go_simp; simp; done) | (go_simp; intro h; omega)
  | 3, _, ho, hop, hds, hdep, hK, hK5 =>
    have hop : o.op = .move (.tmp 1) := Option.some.inj hop
    have hu1 : a.tmps[1]? = some (.int .i64 old) := (hbase.2.2 1 (by decide)).trans x1
    have e1 : a.eval (.tmp 1) = _ := ev_tmp hu1
    have hK := hK (Option.some.inj hds)
    refine st3 ho hwt (v := _) (w' := w) ?_ (hK _ w rfl (Below.refl _ _))
    unfold execOp
    rw [hop, ← e1]
    rfl
  | 4, _, ho, hop, hds, hdep, hK, hK5 =>
    have hop : o.op = .call { callee := .value (.func 34), args := #[.tmp 30, .tmp 31], argTypes := #[24, 3] } := Option.some.inj hop
    obtain ⟨u30, hu30, hv30⟩ := hdep 2 (by decide)
    have hv30' : u30 = .agg #[.int .i64 f, .slice A n c] := hv30
    subst hv30'
    have e30 : a.eval (.tmp 30) = _ := ev_tmp hu30
    obtain ⟨u31, hu31, hv31⟩ := hdep 3 (by decide)
    have hv31' : u31 = .int .i64 old := hv31
    subst hv31'
    have e31 : a.eval (.tmp 31) = _ := ev_tmp hu31
    have hK := hK (Option.some.inj hds)
    refine st3_call ho hwt (f := 34) (vals := #[.agg #[.int .i64 f, .slice A n c], .int .i64 old]) (Z := fun v w' => OwnI w' wB.heap.size v ot ∧ Below w.heap.size w w') ?_ ?_ ?_
    · unfold execOp
      simp only [hop, e30, e31, resolve, invoke, Sem.run_bind, Sem.run_pure, Result.andThen_ok, List.map_toArray, List.map_cons, List.map_nil]
      first | rfl | exact enters_of Try.func34 (by kernel_rfl) rfl _ _
    · exact (rothers_any f A n c ns w (hA.after hbl) old).mono fun e w' ⟨v, he, hN⟩ => by rw [hot] at hN; exact ⟨v, he, own_base hN.1 hbl.size, hN.2⟩
    · rintro v w' ⟨h1, h2⟩
      exact hK v w' h1 h2
  | 5, _, ho, hop, hds, hdep, hK, hK5 =>
    have hop : o.op = .move (.tmp 2) := Option.some.inj hop
    have hu2 : a.tmps[2]? = some (.int .i64 x) := (hbase.2.2 2 (by decide)).trans x2
    have e2 : a.eval (.tmp 2) = _ := ev_tmp hu2
    have hK := hK (Option.some.inj hds)
    refine st3 ho hwt (v := _) (w' := w) ?_ (hK _ w rfl (Below.refl _ _))
    unfold execOp
    rw [hop, ← e2]
    rfl
  | 6, _, ho, hop, hds, hdep, hK, hK5 =>
    have hop : o.op = .buildSlice 22 1 #[(0, .tmp 33)] := Option.some.inj hop
    obtain ⟨u33, hu33, hv33⟩ := hdep 5 (by decide)
    have hv33' : u33 = .int .i64 x := hv33
    subst hv33'
    have e33 : a.eval (.tmp 33) = _ := ev_tmp hu33
    have hK := hK (Option.some.inj hds)
    refine st3 ho hwt (v := .slice (some ⟨w.heap.size, 0, none⟩) 1 1) (w' := w.alloc (.cells #[.int .i64 x] 3)) ?_ (hK _ _ (blk_own (xs := cis [x]) hbl.size (Blk.new (l := cis [x]) rfl rfl) (Nat.le_refl _) (by decide) rfl rfl) ((Below.refl _ _).alloc (Nat.le_refl _) _))
    unfold execOp
    simp only [hop, List.map_toArray, List.map_cons, List.map_nil, e33, Sem.run_bind, row1, Result.andThen_ok]
    rfl
  | 7, _, ho, hop, hds, hdep, hK, hK5 =>
    have hop : o.op = .call { callee := .builtin .append, args := #[.tmp 32, .tmp 34], argTypes := #[22, 22] } := Option.some.inj hop
    obtain ⟨u32, hu32, hv32⟩ := hdep 4 (by decide)
    have hv32' : OwnI w wB.heap.size u32 ot := hv32
    have e32 : a.eval (.tmp 32) = _ := ev_tmp hu32
    obtain ⟨u34, hu34, hv34⟩ := hdep 6 (by decide)
    have hv34' : OwnI w wB.heap.size u34 [x] := hv34
    have e34 : a.eval (.tmp 34) = _ := ev_tmp hu34
    have hK := hK (Option.some.inj hds)
    obtain ⟨A7, c7, eA7, hc7, hm7, hI7⟩ := OwnI.form (show OwnI w wB.heap.size u34 [x] from hv34')
    subst eA7
    obtain ⟨v', w', hrun, h2, h3, h4⟩ := run_appendI w wB.heap.size u32 ot hv32' A7 c7 [x].length [x] hI7 rfl (by simp; omega) hbl.size o.type
    have hrun2 : Sem.run Try.prog (execOp a.eval o) w = .ok (Next.value v') w' := by
      unfold execOp
      simp only [hop, resolve, invoke, builtin, Sem.run_bind, Sem.run_pure, Result.andThen_ok, List.map_toArray, List.map_cons, List.map_nil, e32, e34, hrun]
    exact st3 ho hwt hrun2 (hK5 v' w' ⟨below_append hbl hv32' h3 (Nat.le_refl _) hbl.size, trivial⟩ (fun _ => h2) (fun e => by rw [Option.some.inj hds] at e; cases e) (fun j u hj hkk hl hR => rb_keep7 wB gc gr f A n c old x ot hv32' h3 j u hj hkk (fun e => by subst e; rw [hl7_8] at hl; cases hl) hR))
  | 8, _, ho, hop, hds, hdep, hK, hK5 =>
    have hop : o.op = .call { callee := .value (.func 48), args := #[.tmp 29, .tmp 35], argTypes := #[3, 22] } := Option.some.inj hop
    obtain ⟨u29, hu29, hv29⟩ := hdep 1 (by decide)
    have hv29' : u29 = .int .i64 f := hv29
    subst hv29'
    have e29 : a.eval (.tmp 29) = _ := ev_tmp hu29
    obtain ⟨u35, hu35, hv35⟩ := hdep 7 (by decide)
    have hv35' : OwnI w wB.heap.size u35 (ot ++ [x]) := hv35
    have e35 : a.eval (.tmp 35) = _ := ev_tmp hu35
    have hK := hK (Option.some.inj hds)
    obtain ⟨A8, c8, eA8, hA8⟩ := OwnI.arg (show OwnI w wB.heap.size u35 (ot ++ [x]) from hv35') hwf8
    subst eA8
    refine st3_call ho hwt (f := 48) (vals := #[.int .i64 f, .slice A8 (ot ++ [x]).length c8]) (Z := fun v w' => (∃ V, v = .agg #[.int .i64 f, V] ∧ OwnI w' wB.heap.size V (ofTo (ot ++ [x]) 28)) ∧ Below w.heap.size w w') ?_ ?_ ?_
    · unfold execOp
      simp only [hop, e29, e35, resolve, invoke, Sem.run_bind, Sem.run_pure, Result.andThen_ok, List.map_toArray, List.map_cons, List.map_nil]
      first | rfl | exact enters_of Try.func48 (by kernel_rfl) rfl _ _
    · exact (rof_any f A8 _ c8 (ot ++ [x]) w hA8).mono fun e w' ⟨v, he, hN⟩ => ⟨_, he, ⟨_, rfl, own_base hN.1 hbl.size⟩, hN.2⟩
    · rintro v w' ⟨h1, h2⟩
      exact hK v w' h1 h2
  | 9, _, ho, hop, hds, hdep, hK, hK5 =>
    have hop : o.op = .store 24 (.tmp 6) (.tmp 36) := Option.some.inj hop
    have hu6 : a.tmps[6]? = some (.pointer (some ⟨gr, 0, none⟩)) := (hbase.2.2 6 (by decide)).trans x6
    have e6 : a.eval (.tmp 6) = _ := ev_tmp hu6
    obtain ⟨u36, hu36, hv36⟩ := hdep 8 (by decide)
    have hv36' : ∃ V, u36 = .agg #[.int .i64 f, V] ∧ OwnI w wB.heap.size V (ofTo (ot ++ [x]) 28) := hv36
    have e36 : a.eval (.tmp 36) = _ := ev_tmp hu36
    obtain ⟨V, rfl, hO⟩ := hv36'
    obtain ⟨u6, hu6, p0, q0, hB0, e6'⟩ := hdep 11 (by decide)
    subst e6'
    have e6 : a.eval (.tmp 6) = _ := ev_tmp hu6
    refine op_storeE ho (Option.some.inj hds) hgd 24 _ _ (by rw [hop]) gr 0 [.int .i64 f, V] e6 e36 hB0.there crew_size (by obtain ⟨A1, c1, e1, _⟩ := hO.form; subst e1; simp [Value.oneCell']) rfl ?_
    have hK6 := hK5 undef (w.setCells gr 0 [.int .i64 f, V]) ⟨Below.setCells hgr _ hbl, trivial⟩ (fun e => by rw [Option.some.inj hds] at e; cases e) (fun _ => ⟨_, hu36, ⟨V, rfl, hB0.setAll rfl⟩⟩) (fun j u hj hkk hl hR => rb_keep9 wB gc gr f A n c old x ot hB0 _ rfl j u hj hkk hR)
    rw [Option.some.inj hds] at hK6
    exact hK6
  | 10, _, ho, hop, hds, hdep, hK, hK5 =>
    have hop : o.op = .assign (.const (.int .i64 0)) := Option.some.inj hop
    have hK := hK (Option.some.inj hds)
    refine st3 ho hwt (v := (.int .i64 0)) (w' := w) ?_ (hK _ w rfl (Below.refl _ _))
    unfold execOp
    rw [hop]
    rfl
  | i + 11, hi, _, _, _, _, _, _ => exact absurd hi (by omega)
end Go.Proofs.Ytjibbbfpbflgmaa
