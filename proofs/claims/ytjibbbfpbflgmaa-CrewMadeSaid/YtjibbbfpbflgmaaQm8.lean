/-
  What the regions of CrewMade do, in whichever order their operations come up. (Written by tools/gen_made8.py.)
-/
import Derived.Test.YtjibbbfpbflgmaaNx8
import Derived.Test.YtjibbbfpbflgmaaRule6
namespace Go.Proofs.Ytjibbbfpbflgmaa
open Go.RowKit Go.Shelf CrewP
set_option linter.unusedVariables false
set_option linter.unusedSimpArgs false

theorem own_ne_crew {W : World} {base g : Nat} {v : Value} {l : List Int} {cs : List Value} (h : OwnI W base v l) (hB : Blk W g 24 cs) : v.ownBlock ≠ some g := by
  rcases own_blk h with ⟨e, _, _⟩ | ⟨g', cap, cs', e, hg, hBr, _⟩
  · subst e; simp [Value.ownBlock]
  · subst e
    intro e
    have e' : g' = g := by simpa [Value.ownBlock] using e
    subst e'
    unfold Blk at hB hBr
    rw [hB] at hBr
    have := Option.some.inj hBr
    injection this with _ h2 _
    exact absurd h2 (by decide)
theorem own_grown {w w' : World} {B : Nat} {v : Value} {l : List Int} {row : Option Nat} (h : OwnI w B v l) (hg : w.grownBy w' row) (hr : ∀ g, row = some g → g < B) : OwnI w' B v l :=
  own_stay h hg.size fun i hi hB => hg.block i hi fun e => absurd (hr i e.symm) (by omega)
def qaR (wB : World) (gc : Nat) (f : Int) (A : Option Addr) (n c k : Nat) (ns : List Int) : Nat → Value → World → Prop
  | 0 => fun v w => v = .pointer (some ⟨gc, 1, none⟩)
  | 1 => fun v w => v = .slice A n c
  | 2 => fun v w => v = .int .i64 k
  | 3 => fun v w => v = .slice (cutAt A 1 k c) (n - k) (c - k)
  | 4 => fun v w => OwnI w wB.heap.size v (ns.drop k)
  | 5 => fun v w => v = .pointer (some ⟨gc, 1, none⟩)
  | 6 => fun v w => v = .slice A n c
  | 7 => fun v w => v = .int .i64 k
  | 8 => fun v w => v = .slice A k c
  | 9 => fun v w => OwnI w wB.heap.size v (ns.drop k ++ ns.take k)
  | 10 => fun v w => OwnI w wB.heap.size v (ns.drop k ++ ns.take k)
  | _ => fun _ _ => True
def qaD (i : Nat) : Nat := ([21, 22, 23, 24, 25, 26, 27, 28, 29, 30, 7] : List Nat).getD i 0
def qaK (i j : Nat) : Bool := ([(9, 4)] : List (Nat × Nat)).contains (i, j)
theorem qa_on (wB : World) (gc : Nat) (f : Int) (A : Option Addr) (n c k : Nat) (ns : List Int) : ∀ i v w w', qaR wB gc f A n c k ns i v w → Below w.heap.size w w' → qaR wB gc f A n c k ns i v w'
  | 0, v, w, w', h, _ => h
  | 1, v, w, w', h, _ => h
  | 2, v, w, w', h, _ => h
  | 3, v, w, w', h, _ => h
  | 4, v, w, w', h, hb => own_below h hb
  | 5, v, w, w', h, _ => h
  | 6, v, w, w', h, _ => h
  | 7, v, w, w', h, _ => h
  | 8, v, w, w', h, _ => h
  | 9, v, w, w', h, hb => own_below h hb
  | 10, v, w, w', h, hb => own_below h hb
  | i + 11, v, w, w', h, hb => trivial
theorem qa_keep9 (wB : World) (gc : Nat) (f : Int) (A : Option Addr) (n c k : Nat) (ns : List Int) {w w' : World} : ∀ j u, j ≠ 9 → qaK 9 j = false → j ≠ 10 → qaR wB gc f A n c k ns j u w → qaR wB gc f A n c k ns j u w'
  | 0, u, e, _, _, h => h
  | 1, u, e, _, _, h => h
  | 2, u, e, _, _, h => h
  | 3, u, e, _, _, h => h
  | 4, u, e, hk, _, h => absurd hk (by decide)
  | 5, u, e, _, _, h => h
  | 6, u, e, _, _, h => h
  | 7, u, e, _, _, h => h
  | 8, u, e, _, _, h => h
  | 9, u, e, _, _, h => absurd rfl e
  | 10, u, e, _, e10, h => absurd rfl e10
  | j + 11, u, e, _, _, h => trivial
def qaX (wB : World) (gc : Nat) (f : Int) (A : Option Addr) (n c k : Nat) (ns : List Int) (w : World) : Prop := True
def qaOps : List Op := [.fieldAddr 24 (.tmp 5) 1,
  .load 22 (.tmp 21),
  .move (.tmp 6),
  .slice 22 (.tmp 22) (some (.tmp 23)) none none,
  .call { callee := .value (.func 17), args := #[.tmp 24], argTypes := #[22] },
  .fieldAddr 24 (.tmp 5) 1,
  .load 22 (.tmp 26),
  .move (.tmp 6),
  .slice 22 (.tmp 27) none (some (.tmp 28)) none,
  .call { callee := .builtin .append, args := #[.tmp 25, .tmp 29], argTypes := #[22, 22] },
  .assign (.tmp 30)]
def qaNeeds : Nat → List Nat
  | 0 => []
  | 1 => [0]
  | 2 => []
  | 3 => [1, 2]
  | 4 => [3]
  | 5 => []
  | 6 => [5]
  | 7 => []
  | 8 => [6, 7]
  | 9 => [4, 8]
  | 10 => [9]
  | _ => []
set_option maxRecDepth 100000 in
set_option maxHeartbeats 3200000 in
theorem qa_step {ops : Array Oper} {Q : Exit → Act → World → Prop} {a0 : Act} (wB : World) (gc : Nat) (f : Int) (A : Option Addr) (n c k : Nat) (ns : List Int) (hops : ((List.range 11).map fun i => (ops[i]?).map Oper.op) = qaOps.map some)
    (hdsl : ((List.range 11).map fun i => (ops[i]?).map Oper.dst) = ([some 21, some 22, some 23, some 24, some 25, some 26, some 27, some 28, some 29, some 30, some 7] : List (Option Tmp)).map some)
    (hnd : ((List.range 11).all fun i => (qaNeeds i).all fun j => (((ops[i]?).map fun o => (o.after.any fun e => Region.binds .any e && (e.on == j)) || (decide (11 ≤ j) && decide (j < 11 + 0))).getD false) && ((List.range 11).all fun q => !(qaK q j) || (q == i) || ((ops[q]?).map fun o => o.after.any fun e => Region.binds .any e && (e.on == i)).getD false)) = true)
    (hl9_10 : ((ops[10]?).map fun o => o.after.any fun e => Region.binds .any e && (e.on == 9)).getD false = true) (x5 : a0.tmps[5]? = some (.pointer (some ⟨gc, 0, none⟩))) (x6 : a0.tmps[6]? = some (.int .i64 k))
    (hB : Blk wB gc 24 [.int .i64 f, .slice A n c]) (hA : ArgI wB A n c ns) (hk : k ≤ n) (hn7 : n ≤ 7) (hnc : n ≤ c) :
    ∀ i o, i < 11 → ops[i]? = some o → o.guard = none → (o.dst = some (qaD i) ∨ o.dst = none) → ∀ a w, Base qaD 11 a0 a → (Below wB.heap.size wB w ∧ qaX wB gc f A n c k ns w) →
      (∀ j, ((o.after.any fun e => Region.binds .any e && (e.on == j)) || (decide (11 ≤ j) && decide (j < 11 + 0))) = true → ((List.range 11).all fun q => !(qaK q j) || (q == i) || ((ops[q]?).map fun o => o.after.any fun e => Region.binds .any e && (e.on == i)).getD false) = true → Has qaD (qaR wB gc f A n c k ns) j a w) →
      ∀ K : Act → World → Prop, (∀ v w', (Below wB.heap.size wB w' ∧ qaX wB gc f A n c k ns w') → (o.dst = some (qaD i) → qaR wB gc f A n c k ns i v w') → (o.dst = none → ∃ u, a.tmps[qaD i]? = some u ∧ qaR wB gc f A n c k ns i u w') → (∀ j u, j ≠ i → qaK i j = false → ((ops[j]?).map fun o => o.after.any fun e => Region.binds .any e && (e.on == i)).getD false = false → qaR wB gc f A n c k ns j u w → qaR wB gc f A n c k ns j u w') → K (a.put o.dst v) w') → wpOp Try.prog ops Q i K a w := by
  intro i o hi ho hgd hdst a w hbase hI hdep0 K hK5
  obtain ⟨hbl, hX⟩ := hI
  have hwt : Region.wanted o (yielded ops a.tmps) = true := by unfold Region.wanted; rw [hgd]
  have hop : some o.op = qaOps[i]? := by
    have h1 : ((List.range 11).map fun i => (ops[i]?).map Oper.op)[i]? = some (some o.op) := by
      rw [List.getElem?_map, List.getElem?_range hi]; simp only [Option.map_some, ho]
    rw [hops, List.getElem?_map] at h1
    cases h2 : qaOps[i]? with
    | none => rw [h2] at h1; cases h1
    | some y => rw [h2] at h1; simp only [Option.map_some, Option.some.injEq] at h1; rw [h1]
  have hds : some o.dst = ([some 21, some 22, some 23, some 24, some 25, some 26, some 27, some 28, some 29, some 30, some 7] : List (Option Tmp))[i]? := by
    have h1 : ((List.range 11).map fun i => (ops[i]?).map Oper.dst)[i]? = some (some o.dst) := by
      rw [List.getElem?_map, List.getElem?_range hi]; simp only [Option.map_some, ho]
    rw [hdsl, List.getElem?_map] at h1
    cases h2 : ([some 21, some 22, some 23, some 24, some 25, some 26, some 27, some 28, some 29, some 30, some 7] : List (Option Tmp))[i]? with
    | none => rw [h2] at h1; cases h1
    | some y => rw [h2] at h1; simp only [Option.map_some, Option.some.injEq] at h1; rw [h1]
  have hdep : ∀ j, j ∈ qaNeeds i → Has qaD (qaR wB gc f A n c k ns) j a w := fun j hj => by
    have h1 := List.all_eq_true.1 (List.all_eq_true.1 hnd i (List.mem_range.2 hi)) j hj
    rw [ho, Bool.and_eq_true] at h1
    exact hdep0 j h1.1 h1.2
  have hK : o.dst = some (qaD i) → ∀ v w', qaR wB gc f A n c k ns i v w' → Below w.heap.size w w' → K (a.put o.dst v) w' := fun e v w' h1 h2 => hK5 v w' ⟨hbl.trans (h2.mono hbl.size), trivial⟩ (fun _ => h1) (fun e' => by rw [e] at e'; cases e') (fun j u _ _ _ hj => qa_on wB gc f A n c k ns j u w w' hj h2)
  clear hdep0 hops hnd hdsl hdst
  match i, hi, ho, hop, hds, hdep, hK, hK5 with
  | 0, _, ho, hop, hds, hdep, hK, hK5 =>
    have hop : o.op = .fieldAddr 24 (.tmp 5) 1 := Option.some.inj hop
    have hu5 : a.tmps[5]? = some (.pointer (some ⟨gc, 0, none⟩)) := (hbase.2.2 5 (by decide)).trans x5
    have e5 : a.eval (.tmp 5) = _ := ev_tmp hu5
    have hK := hK (Option.some.inj hds)
    refine st3 ho hwt (v := .pointer (some ⟨gc, 1, none⟩)) (w' := w) ?_ (hK _ w rfl (Below.refl _ _))
    unfold execOp
    simp only [hop, Option.map_some, Option.map_none, e5]
    first | rfl | (go_simp; done) | (go_simp; simp; done) | (go_simp; intro h; omega)
  | 1, _, ho, hop, hds, hdep, hK, hK5 =>
    have hop : o.op = .load 22 (.tmp 21) := Option.some.inj hop
    obtain ⟨u21, hu21, hv21⟩ := hdep 0 (by decide)
    have hv21' : u21 = .pointer (some ⟨gc, 1, none⟩) := hv21
    subst hv21'
    have e21 : a.eval (.tmp 21) = _ := ev_tmp hu21
    have hK := hK (Option.some.inj hds)
    refine st3 ho hwt (v := .slice A n c) (w' := w) ?_ (hK _ w rfl (Below.refl _ _))
    have k1 : w.cell? ⟨gc, 1, none⟩ = some (.slice A n c) := (hB.below hbl hB.lt).cell rfl
    unfold execOp
    simp only [hop, Option.map_some, Option.map_none, e21]
    first | rfl | (go_simp; done) | (go_simp; simp; done) | (go_simp; intro h; omega)
  | 2, _, ho, hop, hds, hdep, hK, hK5 =>
    have hop : o.op = .move (.tmp 6) := Option.some.inj hop
    have hu6 : a.tmps[6]? = some (.int .i64 k) := (hbase.2.2 6 (by decide)).trans x6
    have e6 : a.eval (.tmp 6) = _ := ev_tmp hu6
    have hK := hK (Option.some.inj hds)
    refine st3 ho hwt (v := _) (w' := w) ?_ (hK _ w rfl (Below.refl _ _))
    unfold execOp
    rw [hop, ← e6]
    rfl
  | 3, _, ho, hop, hds, hdep, hK, hK5 =>
    have hop : o.op = .slice 22 (.tmp 22) (some (.tmp 23)) none none := Option.some.inj hop
    obtain ⟨u22, hu22, hv22⟩ := hdep 1 (by decide)
    have hv22' : u22 = .slice A n c := hv22
    subst hv22'
    have e22 : a.eval (.tmp 22) = _ := ev_tmp hu22
    obtain ⟨u23, hu23, hv23⟩ := hdep 2 (by decide)
    have hv23' : u23 = .int .i64 k := hv23
    subst hv23'
    have e23 : a.eval (.tmp 23) = _ := ev_tmp hu23
    have hK := hK (Option.some.inj hds)
    refine st3 ho hwt (v := .slice (cutAt A 1 k c) (n - k) (c - k)) (w' := w) ?_ (hK _ w rfl (Below.refl _ _))
    unfold execOp
    simp only [hop, e22, e23, Option.map_some, Option.map_none, Sem.run_bind, run_cutI A n c k hk, Result.andThen_ok]
    rfl
  | 4, _, ho, hop, hds, hdep, hK, hK5 =>
    have hop : o.op = .call { callee := .value (.func 17), args := #[.tmp 24], argTypes := #[22] } := Option.some.inj hop
    obtain ⟨u24, hu24, hv24⟩ := hdep 3 (by decide)
    have hv24' : u24 = .slice (cutAt A 1 k c) (n - k) (c - k) := hv24
    subst hv24'
    have e24 : a.eval (.tmp 24) = _ := ev_tmp hu24
    have hK := hK (Option.some.inj hds)
    refine st3_call ho hwt (f := 17) (vals := #[.slice (cutAt A 1 k c) (n - k) (c - k)]) (Z := fun v w' => OwnI w' wB.heap.size v (ns.drop k) ∧ Below w.heap.size w w') ?_ ?_ ?_
    · unfold execOp
      simp only [hop, e24, resolve, invoke, Sem.run_bind, Sem.run_pure, Result.andThen_ok, List.map_toArray, List.map_cons, List.map_nil]
      first | rfl | exact enters_of Try.func17 (by kernel_rfl) rfl _ _
    · exact (copyInts_any _ _ _ _ w ((hA.cut hk).after hbl) (by omega)).mono fun e w' ⟨v, he, hN⟩ => ⟨v, he, own_base hN.own hbl.size, hN.2⟩
    · rintro v w' ⟨h1, h2⟩
      exact hK v w' h1 h2
  | 5, _, ho, hop, hds, hdep, hK, hK5 =>
    have hop : o.op = .fieldAddr 24 (.tmp 5) 1 := Option.some.inj hop
    have hu5 : a.tmps[5]? = some (.pointer (some ⟨gc, 0, none⟩)) := (hbase.2.2 5 (by decide)).trans x5
    have e5 : a.eval (.tmp 5) = _ := ev_tmp hu5
    have hK := hK (Option.some.inj hds)
    refine st3 ho hwt (v := .pointer (some ⟨gc, 1, none⟩)) (w' := w) ?_ (hK _ w rfl (Below.refl _ _))
    unfold execOp
    simp only [hop, Option.map_some, Option.map_none, e5]
    first | rfl | (go_simp; done) | (go_simp; simp; done) | (go_simp; intro h; omega)
  | 6, _, ho, hop, hds, hdep, hK, hK5 =>
    have hop : o.op = .load 22 (.tmp 26) := Option.some.inj hop
    obtain ⟨u26, hu26, hv26⟩ := hdep 5 (by decide)
    have hv26' : u26 = .pointer (some ⟨gc, 1, none⟩) := hv26
    subst hv26'
    have e26 : a.eval (.tmp 26) = _ := ev_tmp hu26
    have hK := hK (Option.some.inj hds)
    refine st3 ho hwt (v := .slice A n c) (w' := w) ?_ (hK _ w rfl (Below.refl _ _))
    have k1 : w.cell? ⟨gc, 1, none⟩ = some (.slice A n c) := (hB.below hbl hB.lt).cell rfl
    unfold execOp
    simp only [hop, Option.map_some, Option.map_none, e26]
    first | rfl | (go_simp; done) | (go_simp; simp; done) | (go_simp; intro h; omega)
  | 7, _, ho, hop, hds, hdep, hK, hK5 =>
    have hop : o.op = .move (.tmp 6) := Option.some.inj hop
    have hu6 : a.tmps[6]? = some (.int .i64 k) := (hbase.2.2 6 (by decide)).trans x6
    have e6 : a.eval (.tmp 6) = _ := ev_tmp hu6
    have hK := hK (Option.some.inj hds)
    refine st3 ho hwt (v := _) (w' := w) ?_ (hK _ w rfl (Below.refl _ _))
    unfold execOp
    rw [hop, ← e6]
    rfl
  | 8, _, ho, hop, hds, hdep, hK, hK5 =>
    have hop : o.op = .slice 22 (.tmp 27) none (some (.tmp 28)) none := Option.some.inj hop
    obtain ⟨u27, hu27, hv27⟩ := hdep 6 (by decide)
    have hv27' : u27 = .slice A n c := hv27
    subst hv27'
    have e27 : a.eval (.tmp 27) = _ := ev_tmp hu27
    obtain ⟨u28, hu28, hv28⟩ := hdep 7 (by decide)
    have hv28' : u28 = .int .i64 k := hv28
    subst hv28'
    have e28 : a.eval (.tmp 28) = _ := ev_tmp hu28
    have hK := hK (Option.some.inj hds)
    refine st3 ho hwt (v := .slice A k c) (w' := w) ?_ (hK _ w rfl (Below.refl _ _))
    unfold execOp
    simp only [hop, e27, e28, Option.map_some, Option.map_none, Sem.run_bind, run_frontI A n c k (by omega), Result.andThen_ok]
    rfl
  | 9, _, ho, hop, hds, hdep, hK, hK5 =>
    have hop : o.op = .call { callee := .builtin .append, args := #[.tmp 25, .tmp 29], argTypes := #[22, 22] } := Option.some.inj hop
    obtain ⟨u25, hu25, hv25⟩ := hdep 4 (by decide)
    have hv25' : OwnI w wB.heap.size u25 (ns.drop k) := hv25
    have e25 : a.eval (.tmp 25) = _ := ev_tmp hu25
    obtain ⟨u29, hu29, hv29⟩ := hdep 8 (by decide)
    have hv29' : u29 = .slice A k c := hv29
    subst hv29'
    have e29 : a.eval (.tmp 29) = _ := ev_tmp hu29
    have hK := hK (Option.some.inj hds)
    obtain ⟨v', w', hrun, h2, h3, h4⟩ := run_appendI w wB.heap.size u25 (ns.drop k) hv25' A c k (ns.take k) ((hA.front hk).after hbl).2.2.2.1 (hA.front hk).1 (by rw [List.length_drop, hA.1]; omega) hbl.size o.type
    have hrun2 : Sem.run Try.prog (execOp a.eval o) w = .ok (Next.value v') w' := by
      unfold execOp
      simp only [hop, resolve, invoke, builtin, Sem.run_bind, Sem.run_pure, Result.andThen_ok, List.map_toArray, List.map_cons, List.map_nil, e25, e29, hrun]
    exact st3 ho hwt hrun2 (hK5 v' w' ⟨below_append hbl hv25' h3 (Nat.le_refl _) hbl.size, by first | trivial | exact Nat.le_trans hX h3.size⟩ (fun _ => h2) (fun e => by rw [Option.some.inj hds] at e; cases e) (fun j u hj hkk hl hR => qa_keep9 wB gc f A n c k ns j u hj hkk (fun e => by subst e; rw [hl9_10] at hl; cases hl) hR))
  | 10, _, ho, hop, hds, hdep, hK, hK5 =>
    have hop : o.op = .assign (.tmp 30) := Option.some.inj hop
    obtain ⟨u30, hu30, hv30⟩ := hdep 9 (by decide)
    have hv30' : OwnI w wB.heap.size u30 (ns.drop k ++ ns.take k) := hv30
    have e30 : a.eval (.tmp 30) = _ := ev_tmp hu30
    have hK := hK (Option.some.inj hds)
    refine st3 ho hwt (v := _) (w' := w) ?_ (hK _ w hv30 (Below.refl _ _))
    unfold execOp
    rw [hop, ← e30]
    rfl
  | i + 11, hi, _, _, _, _, _, _ => exact absurd hi (by omega)
def qbR (wB : World) (gc : Nat) (f : Int) (bA oA n c : Nat) (At : Option Addr) (ct : Nat) (tl : List Int) (x0 : Int) (w0s gd Bd : Nat) (Ad : Option Addr) (cd : Nat) (ns : List Int) : Nat → Value → World → Prop
  | 0 => fun v w => v = .pointer (some ⟨gc, 0, none⟩)
  | 1 => fun v w => v = .int .i64 f
  | 2 => fun v w => v = .slice At n ct
  | 3 => fun v w => v = .pointer (some ⟨gc, 1, none⟩)
  | 4 => fun v w => v = .slice (some ⟨bA, oA, none⟩) n c
  | 5 => fun v w => v = .pointer (some ⟨bA, oA, none⟩)
  | 6 => fun v w => v = .int .i64 x0
  | 7 => fun v w => OwnI w wB.heap.size v [x0]
  | 8 => fun v w => OwnI w wB.heap.size v (tl ++ [x0])
  | 9 => fun v w => ∃ F A m q, v = .tuple #[.agg #[.int .i64 F, .slice A m q], .int .i64 2]
  | 10 => fun v w => ∃ F A m q, v = .tuple #[.agg #[.int .i64 F, .slice A m q], .int .i64 2]
  | 11 => fun v w => ∃ F A m q, v = .agg #[.int .i64 F, .slice A m q]
  | 12 => fun v w => v = .int .i64 2
  | 13 => fun v w => ∃ g x y, v = .pointer (some ⟨g, 0, none⟩) ∧ Blk w g 24 [x, y] ∧ w0s ≤ g
  | 14 => fun v w => True
  | 15 => fun v w => v = .int .i64 2
  | 16 => fun v w => OwnI w wB.heap.size v tl ∧ v = .slice At n ct
  | 17 => fun v w => OwnI w Bd (.slice Ad n cd) ns ∧ Blk w gd 24 [.int .i64 f, .slice Ad n cd]
  | _ => fun _ _ => True
def qbD (i : Nat) : Nat := ([39, 40, 41, 42, 43, 44, 45, 46, 47, 48, 38, 49, 50, 10, 10, 11, 7, 8] : List Nat).getD i 0
def qbK (i j : Nat) : Bool := ([(8, 7), (8, 16)] : List (Nat × Nat)).contains (i, j)
theorem qb_on (wB : World) (gc : Nat) (f : Int) (bA oA n c : Nat) (At : Option Addr) (ct : Nat) (tl : List Int) (x0 : Int) (w0s gd Bd : Nat) (Ad : Option Addr) (cd : Nat) (ns : List Int) : ∀ i v w w', qbR wB gc f bA oA n c At ct tl x0 w0s gd Bd Ad cd ns i v w → Below w.heap.size w w' → qbR wB gc f bA oA n c At ct tl x0 w0s gd Bd Ad cd ns i v w'
  | 0, v, w, w', h, _ => h
  | 1, v, w, w', h, _ => h
  | 2, v, w, w', h, _ => h
  | 3, v, w, w', h, _ => h
  | 4, v, w, w', h, _ => h
  | 5, v, w, w', h, _ => h
  | 6, v, w, w', h, _ => h
  | 7, v, w, w', h, hb => own_below h hb
  | 8, v, w, w', h, hb => own_below h hb
  | 9, v, w, w', h, hb => h
  | 10, v, w, w', h, hb => h
  | 11, v, w, w', h, hb => h
  | 12, v, w, w', h, _ => h
  | 13, v, w, w', h, hb => let ⟨g, x, y, e, hB, hg⟩ := h; ⟨g, x, y, e, hB.below hb hB.lt, hg⟩
  | 14, v, w, w', h, hb => trivial
  | 15, v, w, w', h, _ => h
  | 16, v, w, w', h, hb => ⟨own_below h.1 hb, h.2⟩
  | 17, v, w, w', h, hb => ⟨own_below h.1 hb, h.2.below hb h.2.lt⟩
  | i + 18, v, w, w', h, hb => trivial
theorem qb_keep8 (wB : World) (gc : Nat) (f : Int) (bA oA n c : Nat) (At : Option Addr) (ct : Nat) (tl : List Int) (x0 : Int) (w0s gd Bd : Nat) (Ad : Option Addr) (cd : Nat) (ns : List Int) {w w' : World} (hO : OwnI w wB.heap.size (.slice At n ct) tl) (hgr : w.grownBy w' (Value.ownBlock (.slice At n ct))) (hAt : ∀ g, Value.ownBlock (.slice At n ct) = some g → g < Bd) : ∀ j u, j ≠ 8 → qbK 8 j = false → qbR wB gc f bA oA n c At ct tl x0 w0s gd Bd Ad cd ns j u w → qbR wB gc f bA oA n c At ct tl x0 w0s gd Bd Ad cd ns j u w'
  | 0, u, e, _, h => h
  | 1, u, e, _, h => h
  | 2, u, e, _, h => h
  | 3, u, e, _, h => h
  | 4, u, e, _, h => h
  | 5, u, e, _, h => h
  | 6, u, e, _, h => h
  | 7, u, e, hk, h => absurd hk (by decide)
  | 8, u, e, _, h => absurd rfl e
  | 9, u, e, _, h => h
  | 10, u, e, _, h => h
  | 11, u, e, _, h => h
  | 12, u, e, _, h => h
  | 13, u, e, _, h => let ⟨g, x, y, e, hB, hg⟩ := h; ⟨g, x, y, e, Blk.grown hB hgr (own_ne_crew hO hB), hg⟩
  | 14, u, e, _, h => trivial
  | 15, u, e, _, h => h
  | 16, u, e, hk, h => absurd hk (by decide)
  | 17, u, e, _, h => ⟨own_grown h.1 hgr hAt, Blk.grown h.2 hgr (own_ne_crew hO h.2)⟩
  | j + 18, u, e, _, h => trivial
theorem qb_keep14 (wB : World) (gc : Nat) (f : Int) (bA oA n c : Nat) (At : Option Addr) (ct : Nat) (tl : List Int) (x0 : Int) (w0s gd Bd : Nat) (Ad : Option Addr) (cd : Nat) (ns : List Int) {w : World} {gw : Nat} {z0 y0 : Value} (hB : Blk w gw 24 [z0, y0]) (hgw : w0s ≤ gw) (hgd : gd < w0s) (ws : List Value) (hl : ws.length = 2) : ∀ j u, j ≠ 14 → qbK 14 j = false → qbR wB gc f bA oA n c At ct tl x0 w0s gd Bd Ad cd ns j u w → qbR wB gc f bA oA n c At ct tl x0 w0s gd Bd Ad cd ns j u (w.setCells gw 0 ws)
  | 0, u, e, _, h => h
  | 1, u, e, _, h => h
  | 2, u, e, _, h => h
  | 3, u, e, _, h => h
  | 4, u, e, _, h => h
  | 5, u, e, _, h => h
  | 6, u, e, _, h => h
  | 7, u, e, _, h => own_cells h hB ws
  | 8, u, e, _, h => own_cells h hB ws
  | 9, u, e, _, h => h
  | 10, u, e, _, h => h
  | 11, u, e, _, h => h
  | 12, u, e, _, h => h
  | 13, u, e, _, h => let ⟨g, x, y, e, hC, hg⟩ := h; ⟨g, _, _, e, (crew_keep hC hB ws hl).2, hg⟩
  | 14, u, e, _, h => absurd rfl e
  | 15, u, e, _, h => h
  | 16, u, e, _, h => ⟨own_cells h.1 hB ws, h.2⟩
  | 17, u, e, _, h => ⟨own_cells h.1 hB ws, Blk.farAll (by omega) ws h.2⟩
  | j + 18, u, e, _, h => trivial
def qbX (wB : World) (gc : Nat) (f : Int) (bA oA n c : Nat) (At : Option Addr) (ct : Nat) (tl : List Int) (x0 : Int) (w0s gd Bd : Nat) (Ad : Option Addr) (cd : Nat) (ns : List Int) (w : World) : Prop := w0s ≤ w.heap.size
def qbOps : List Op := [.fieldAddr 24 (.tmp 5) 0,
  .load 3 (.tmp 39),
  .move (.tmp 7),
  .fieldAddr 24 (.tmp 5) 1,
  .load 22 (.tmp 42),
  .indexAddr 22 (.tmp 43) (.const (.int .i64 0)),
  .load 3 (.tmp 44),
  .buildSlice 22 1 #[(0, .tmp 45)],
  .call { callee := .builtin .append, args := #[.tmp 41, .tmp 46], argTypes := #[22, 22] },
  .call { callee := .value (.func 18), args := #[.tmp 40, .tmp 47], argTypes := #[3, 22] },
  .move (.tmp 48),
  .extract (.tmp 38) 0,
  .extract (.tmp 38) 1,
  .alloc 24,
  .store 24 (.tmp 10) (.tmp 49),
  .assign (.tmp 50)]
def qbNeeds : Nat → List Nat
  | 0 => []
  | 1 => [0]
  | 2 => []
  | 3 => []
  | 4 => [3]
  | 5 => [4]
  | 6 => [5]
  | 7 => [6]
  | 8 => [2, 7, 16]
  | 9 => [1, 8]
  | 10 => [9]
  | 11 => [10]
  | 12 => [10]
  | 13 => []
  | 14 => [11, 13]
  | 15 => [12]
  | _ => []
set_option maxRecDepth 100000 in
set_option maxHeartbeats 3200000 in
theorem qb_step {ops : Array Oper} {Q : Exit → Act → World → Prop} {a0 : Act} (wB : World) (gc : Nat) (f : Int) (bA oA n c : Nat) (At : Option Addr) (ct : Nat) (tl : List Int) (x0 : Int) (w0s gd Bd : Nat) (Ad : Option Addr) (cd : Nat) (ns : List Int) (hops : ((List.range 16).map fun i => (ops[i]?).map Oper.op) = qbOps.map some)
    (hdsl : ((List.range 16).map fun i => (ops[i]?).map Oper.dst) = ([some 39, some 40, some 41, some 42, some 43, some 44, some 45, some 46, some 47, some 48, some 38, some 49, some 50, some 10, none, some 11] : List (Option Tmp)).map some)
    (hnd : ((List.range 16).all fun i => (qbNeeds i).all fun j => (((ops[i]?).map fun o => (o.after.any fun e => Region.binds .any e && (e.on == j)) || (decide (16 ≤ j) && decide (j < 16 + 2))).getD false) && ((List.range 16).all fun q => !(qbK q j) || (q == i) || ((ops[q]?).map fun o => o.after.any fun e => Region.binds .any e && (e.on == i)).getD false)) = true)
     (x5 : a0.tmps[5]? = some (.pointer (some ⟨gc, 0, none⟩))) (x7 : a0.tmps[7]? = some (.slice At n ct))
    (hB : Blk wB gc 24 [.int .i64 f, .slice (some ⟨bA, oA, none⟩) n c]) (hn1 : (0 : Int) < n) (hltA : bA < wB.heap.size) (hcA : wB.cell? ⟨bA, oA, none⟩ = some (.int .i64 x0)) (hn7 : n ≤ 7) (htl : tl.length = n) (hwf8 : ∀ x ∈ tl ++ [x0], Wf x) (hwf : Wf f) (hmk : makeR f (tl ++ [x0]) = (0, [], 2)) (hAt : ∀ g, Value.ownBlock (.slice At n ct) = some g → g < Bd) (hgdl : gd < w0s) (hw0s : wB.heap.size ≤ w0s) :
    ∀ i o, i < 16 → ops[i]? = some o → o.guard = none → (o.dst = some (qbD i) ∨ o.dst = none) → ∀ a w, Base qbD 16 a0 a → (Below wB.heap.size wB w ∧ qbX wB gc f bA oA n c At ct tl x0 w0s gd Bd Ad cd ns w) →
      (∀ j, ((o.after.any fun e => Region.binds .any e && (e.on == j)) || (decide (16 ≤ j) && decide (j < 16 + 2))) = true → ((List.range 16).all fun q => !(qbK q j) || (q == i) || ((ops[q]?).map fun o => o.after.any fun e => Region.binds .any e && (e.on == i)).getD false) = true → Has qbD (qbR wB gc f bA oA n c At ct tl x0 w0s gd Bd Ad cd ns) j a w) →
      ∀ K : Act → World → Prop, (∀ v w', (Below wB.heap.size wB w' ∧ qbX wB gc f bA oA n c At ct tl x0 w0s gd Bd Ad cd ns w') → (o.dst = some (qbD i) → qbR wB gc f bA oA n c At ct tl x0 w0s gd Bd Ad cd ns i v w') → (o.dst = none → ∃ u, a.tmps[qbD i]? = some u ∧ qbR wB gc f bA oA n c At ct tl x0 w0s gd Bd Ad cd ns i u w') → (∀ j u, j ≠ i → qbK i j = false → ((ops[j]?).map fun o => o.after.any fun e => Region.binds .any e && (e.on == i)).getD false = false → qbR wB gc f bA oA n c At ct tl x0 w0s gd Bd Ad cd ns j u w → qbR wB gc f bA oA n c At ct tl x0 w0s gd Bd Ad cd ns j u w') → K (a.put o.dst v) w') → wpOp Try.prog ops Q i K a w := by
  intro i o hi ho hgd hdst a w hbase hI hdep0 K hK5
  obtain ⟨hbl, hX⟩ := hI
  have hwt : Region.wanted o (yielded ops a.tmps) = true := by unfold Region.wanted; rw [hgd]
  have hop : some o.op = qbOps[i]? := by
    have h1 : ((List.range 16).map fun i => (ops[i]?).map Oper.op)[i]? = some (some o.op) := by
      rw [List.getElem?_map, List.getElem?_range hi]; simp only [Option.map_some, ho]
    rw [hops, List.getElem?_map] at h1
    cases h2 : qbOps[i]? with
    | none => rw [h2] at h1; cases h1
    | some y => rw [h2] at h1; simp only [Option.map_some, Option.some.injEq] at h1; rw [h1]
  have hds : some o.dst = ([some 39, some 40, some 41, some 42, some 43, some 44, some 45, some 46, some 47, some 48, some 38, some 49, some 50, some 10, none, some 11] : List (Option Tmp))[i]? := by
    have h1 : ((List.range 16).map fun i => (ops[i]?).map Oper.dst)[i]? = some (some o.dst) := by
      rw [List.getElem?_map, List.getElem?_range hi]; simp only [Option.map_some, ho]
    rw [hdsl, List.getElem?_map] at h1
    cases h2 : ([some 39, some 40, some 41, some 42, some 43, some 44, some 45, some 46, some 47, some 48, some 38, some 49, some 50, some 10, none, some 11] : List (Option Tmp))[i]? with
    | none => rw [h2] at h1; cases h1
    | some y => rw [h2] at h1; simp only [Option.map_some, Option.some.injEq] at h1; rw [h1]
  have hdep : ∀ j, j ∈ qbNeeds i → Has qbD (qbR wB gc f bA oA n c At ct tl x0 w0s gd Bd Ad cd ns) j a w := fun j hj => by
    have h1 := List.all_eq_true.1 (List.all_eq_true.1 hnd i (List.mem_range.2 hi)) j hj
    rw [ho, Bool.and_eq_true] at h1
    exact hdep0 j h1.1 h1.2
  have hK : o.dst = some (qbD i) → ∀ v w', qbR wB gc f bA oA n c At ct tl x0 w0s gd Bd Ad cd ns i v w' → Below w.heap.size w w' → K (a.put o.dst v) w' := fun e v w' h1 h2 => hK5 v w' ⟨hbl.trans (h2.mono hbl.size), Nat.le_trans hX h2.size⟩ (fun _ => h1) (fun e' => by rw [e] at e'; cases e') (fun j u _ _ _ hj => qb_on wB gc f bA oA n c At ct tl x0 w0s gd Bd Ad cd ns j u w w' hj h2)
  clear hdep0 hops hnd hdsl hdst
  match i, hi, ho, hop, hds, hdep, hK, hK5 with
  | 0, _, ho, hop, hds, hdep, hK, hK5 =>
    have hop : o.op = .fieldAddr 24 (.tmp 5) 0 := Option.some.inj hop
    have hu5 : a.tmps[5]? = some (.pointer (some ⟨gc, 0, none⟩)) := (hbase.2.2 5 (by decide)).trans x5
    have e5 : a.eval (.tmp 5) = _ := ev_tmp hu5
    have hK := hK (Option.some.inj hds)
    refine st3 ho hwt (v := .pointer (some ⟨gc, 0, none⟩)) (w' := w) ?_ (hK _ w rfl (Below.refl _ _))
    unfold execOp
    simp only [hop, Option.map_some, Option.map_none, e5]
    first | rfl | (go_simp; done) | (go_simp; simp; done) | (go_simp; intro h; omega)
  | 1, _, ho, hop, hds, hdep, hK, hK5 =>
    have hop : o.op = .load 3 (.tmp 39) := Option.some.inj hop
    obtain ⟨u39, hu39, hv39⟩ := hdep 0 (by decide)
    have hv39' : u39 = .pointer (some ⟨gc, 0, none⟩) := hv39
    subst hv39'
    have e39 : a.eval (.tmp 39) = _ := ev_tmp hu39
    have hK := hK (Option.some.inj hds)
    refine st3 ho hwt (v := .int .i64 f) (w' := w) ?_ (hK _ w rfl (Below.refl _ _))
    have k0 : w.cell? ⟨gc, 0, none⟩ = some (.int .i64 f) := (hB.below hbl hB.lt).cell rfl
    unfold execOp
    simp only [hop, Option.map_some, Option.map_none, e39]
    first | rfl | (go_simp; done) | (go_simp; simp; done) | (go_simp; intro h; omega)
  | 2, _, ho, hop, hds, hdep, hK, hK5 =>
    have hop : o.op = .move (.tmp 7) := Option.some.inj hop
    have hu7 : a.tmps[7]? = some (.slice At n ct) := (hbase.2.2 7 (by decide)).trans x7
    have e7 : a.eval (.tmp 7) = _ := ev_tmp hu7
    have hK := hK (Option.some.inj hds)
    refine st3 ho hwt (v := _) (w' := w) ?_ (hK _ w rfl (Below.refl _ _))
    unfold execOp
    rw [hop, ← e7]
    rfl
  | 3, _, ho, hop, hds, hdep, hK, hK5 =>
    have hop : o.op = .fieldAddr 24 (.tmp 5) 1 := Option.some.inj hop
    have hu5 : a.tmps[5]? = some (.pointer (some ⟨gc, 0, none⟩)) := (hbase.2.2 5 (by decide)).trans x5
    have e5 : a.eval (.tmp 5) = _ := ev_tmp hu5
    have hK := hK (Option.some.inj hds)
    refine st3 ho hwt (v := .pointer (some ⟨gc, 1, none⟩)) (w' := w) ?_ (hK _ w rfl (Below.refl _ _))
    unfold execOp
    simp only [hop, Option.map_some, Option.map_none, e5]
    first | rfl | (go_simp; done) | (go_simp; simp; done) | (go_simp; intro h; omega)
  | 4, _, ho, hop, hds, hdep, hK, hK5 =>
    have hop : o.op = .load 22 (.tmp 42) := Option.some.inj hop
    obtain ⟨u42, hu42, hv42⟩ := hdep 3 (by decide)
    have hv42' : u42 = .pointer (some ⟨gc, 1, none⟩) := hv42
    subst hv42'
    have e42 : a.eval (.tmp 42) = _ := ev_tmp hu42
    have hK := hK (Option.some.inj hds)
    refine st3 ho hwt (v := .slice (some ⟨bA, oA, none⟩) n c) (w' := w) ?_ (hK _ w rfl (Below.refl _ _))
    have k1 : w.cell? ⟨gc, 1, none⟩ = some (.slice (some ⟨bA, oA, none⟩) n c) := (hB.below hbl hB.lt).cell rfl
    unfold execOp
    simp only [hop, Option.map_some, Option.map_none, e42]
    first | rfl | (go_simp; done) | (go_simp; simp; done) | (go_simp; intro h; omega)
  | 5, _, ho, hop, hds, hdep, hK, hK5 =>
    have hop : o.op = .indexAddr 22 (.tmp 43) (.const (.int .i64 0)) := Option.some.inj hop
    obtain ⟨u43, hu43, hv43⟩ := hdep 4 (by decide)
    have hv43' : u43 = .slice (some ⟨bA, oA, none⟩) n c := hv43
    subst hv43'
    have e43 : a.eval (.tmp 43) = _ := ev_tmp hu43
    have hK := hK (Option.some.inj hds)
    refine st3 ho hwt (v := .pointer (some ⟨bA, oA, none⟩)) (w' := w) ?_ (hK _ w rfl (Below.refl _ _))
    have hnn : (0 : Int) < n := hn1
    unfold execOp
    simp only [hop, Option.map_some, Option.map_none, e43]
    first | rfl | (go_simp; done) | (go_simp; simp; done) | (go_simp; intro h; omega)
  | 6, _, ho, hop, hds, hdep, hK, hK5 =>
    have hop : o.op = .load 3 (.tmp 44) := Option.some.inj hop
    obtain ⟨u44, hu44, hv44⟩ := hdep 5 (by decide)
    have hv44' : u44 = .pointer (some ⟨bA, oA, none⟩) := hv44
    subst hv44'
    have e44 : a.eval (.tmp 44) = _ := ev_tmp hu44
    have hK := hK (Option.some.inj hds)
    refine st3 ho hwt (v := .int .i64 x0) (w' := w) ?_ (hK _ w rfl (Below.refl _ _))
    have hc : w.cell? ⟨bA, oA, none⟩ = some (.int .i64 x0) := (hbl.cell (p := ⟨bA, oA, none⟩) hltA).trans hcA
    unfold execOp
    simp only [hop, Option.map_some, Option.map_none, e44]
    first | rfl | (go_simp; done) | (go_simp; simp; done) | (go_simp; intro h; omega)
  | 7, _, ho, hop, hds, hdep, hK, hK5 =>
    have hop : o.op = .buildSlice 22 1 #[(0, .tmp 45)] := Option.some.inj hop
    obtain ⟨u45, hu45, hv45⟩ := hdep 6 (by decide)
    have hv45' : u45 = .int .i64 x0 := hv45
    subst hv45'
    have e45 : a.eval (.tmp 45) = _ := ev_tmp hu45
    have hK := hK (Option.some.inj hds)
    refine st3 ho hwt (v := .slice (some ⟨w.heap.size, 0, none⟩) 1 1) (w' := w.alloc (.cells #[.int .i64 x0] 3)) ?_ (hK _ _ (blk_own (xs := cis [x0]) hbl.size (Blk.new (l := cis [x0]) rfl rfl) (Nat.le_refl _) (by decide) rfl rfl) ((Below.refl _ _).alloc (Nat.le_refl _) _))
    unfold execOp
    simp only [hop, List.map_toArray, List.map_cons, List.map_nil, e45, Sem.run_bind, row1, Result.andThen_ok]
    rfl
  | 8, _, ho, hop, hds, hdep, hK, hK5 =>
    have hop : o.op = .call { callee := .builtin .append, args := #[.tmp 41, .tmp 46], argTypes := #[22, 22] } := Option.some.inj hop
    obtain ⟨u41, hu41, hv41⟩ := hdep 2 (by decide)
    have hv41' : u41 = .slice At n ct := hv41
    subst hv41'
    have e41 : a.eval (.tmp 41) = _ := ev_tmp hu41
    obtain ⟨u46, hu46, hv46⟩ := hdep 7 (by decide)
    have hv46' : OwnI w wB.heap.size u46 [x0] := hv46
    have e46 : a.eval (.tmp 46) = _ := ev_tmp hu46
    have hK := hK (Option.some.inj hds)
    obtain ⟨uE, huE, hvE2, hvE1⟩ := hdep 16 (by decide)
    have huE' : uE = .slice At n ct := hvE1
    subst huE'
    obtain ⟨A7, c7, eA7, hc7, hm7, hI7⟩ := OwnI.form (show OwnI w wB.heap.size u46 [x0] from hv46')
    subst eA7
    obtain ⟨v', w', hrun, h2, h3, h4⟩ := run_appendI w wB.heap.size (.slice At n ct) tl hvE2 A7 c7 [x0].length [x0] hI7 rfl (by rw [htl]; simp; omega) hbl.size o.type
    have hrun2 : Sem.run Try.prog (execOp a.eval o) w = .ok (Next.value v') w' := by
      unfold execOp
      simp only [hop, resolve, invoke, builtin, Sem.run_bind, Sem.run_pure, Result.andThen_ok, List.map_toArray, List.map_cons, List.map_nil, e41, e46, hrun]
    exact st3 ho hwt hrun2 (hK5 v' w' ⟨below_append hbl hvE2 h3 (Nat.le_refl _) hbl.size, by first | trivial | exact Nat.le_trans hX h3.size⟩ (fun _ => h2) (fun e => by rw [Option.some.inj hds] at e; cases e) (fun j u hj hkk hl hR => qb_keep8 wB gc f bA oA n c At ct tl x0 w0s gd Bd Ad cd ns hvE2 h3 hAt j u hj hkk hR))
  | 9, _, ho, hop, hds, hdep, hK, hK5 =>
    have hop : o.op = .call { callee := .value (.func 18), args := #[.tmp 40, .tmp 47], argTypes := #[3, 22] } := Option.some.inj hop
    obtain ⟨u40, hu40, hv40⟩ := hdep 1 (by decide)
    have hv40' : u40 = .int .i64 f := hv40
    subst hv40'
    have e40 : a.eval (.tmp 40) = _ := ev_tmp hu40
    obtain ⟨u47, hu47, hv47⟩ := hdep 8 (by decide)
    have hv47' : OwnI w wB.heap.size u47 (tl ++ [x0]) := hv47
    have e47 : a.eval (.tmp 47) = _ := ev_tmp hu47
    have hK := hK (Option.some.inj hds)
    obtain ⟨A8, c8, eA8, hA8⟩ := OwnI.arg (show OwnI w wB.heap.size u47 (tl ++ [x0]) from hv47') hwf8
    subst eA8
    refine st3_call ho hwt (f := 18) (vals := #[.int .i64 f, .slice A8 (tl ++ [x0]).length c8]) (Z := fun v w' => (∃ F A m q, v = .tuple #[.agg #[.int .i64 F, .slice A m q], .int .i64 2]) ∧ Below w.heap.size w w') ?_ ?_ ?_
    · unfold execOp
      simp only [hop, e40, e47, resolve, invoke, Sem.run_bind, Sem.run_pure, Result.andThen_ok, List.map_toArray, List.map_cons, List.map_nil]
      first | rfl | exact enters_of Try.func18 (by kernel_rfl) rfl _ _
    · exact (make_any f A8 _ c8 (tl ++ [x0]) w hA8 hwf).mono fun e w' ⟨v, he, hN⟩ => by rw [hmk] at he hN; obtain ⟨A9, c9, e9, _⟩ := hN.own.form; subst e9; exact ⟨_, he, ⟨_, _, _, _, rfl⟩, hN.2⟩
    · rintro v w' ⟨h1, h2⟩
      exact hK v w' h1 h2
  | 10, _, ho, hop, hds, hdep, hK, hK5 =>
    have hop : o.op = .move (.tmp 48) := Option.some.inj hop
    obtain ⟨u48, hu48, hv48⟩ := hdep 9 (by decide)
    have hv48' : ∃ F A m q, u48 = .tuple #[.agg #[.int .i64 F, .slice A m q], .int .i64 2] := hv48
    have e48 : a.eval (.tmp 48) = _ := ev_tmp hu48
    have hK := hK (Option.some.inj hds)
    refine st3 ho hwt (v := _) (w' := w) ?_ (hK _ w hv48 (Below.refl _ _))
    unfold execOp
    rw [hop, ← e48]
    rfl
  | 11, _, ho, hop, hds, hdep, hK, hK5 =>
    have hop : o.op = .extract (.tmp 38) 0 := Option.some.inj hop
    obtain ⟨u38, hu38, hv38⟩ := hdep 10 (by decide)
    have hv38' : ∃ F A m q, u38 = .tuple #[.agg #[.int .i64 F, .slice A m q], .int .i64 2] := hv38
    have e38 : a.eval (.tmp 38) = _ := ev_tmp hu38
    have hK := hK (Option.some.inj hds)
    obtain ⟨F9, A9, m9, q9, rfl⟩ := hv38'
    refine st3 ho hwt (v := .agg #[.int .i64 F9, .slice A9 m9 q9]) (w' := w) ?_ (hK _ w ⟨_, _, _, _, rfl⟩ (Below.refl _ _))
    unfold execOp
    simp only [hop, e38]
    first | rfl | (go_simp; done) | (go_simp; simp; done)
  | 12, _, ho, hop, hds, hdep, hK, hK5 =>
    have hop : o.op = .extract (.tmp 38) 1 := Option.some.inj hop
    obtain ⟨u38, hu38, hv38⟩ := hdep 10 (by decide)
    have hv38' : ∃ F A m q, u38 = .tuple #[.agg #[.int .i64 F, .slice A m q], .int .i64 2] := hv38
    have e38 : a.eval (.tmp 38) = _ := ev_tmp hu38
    have hK := hK (Option.some.inj hds)
    obtain ⟨F9, A9, m9, q9, rfl⟩ := hv38'
    refine st3 ho hwt (v := .int .i64 2) (w' := w) ?_ (hK _ w rfl (Below.refl _ _))
    unfold execOp
    simp only [hop, e38]
    first | rfl | (go_simp; done) | (go_simp; simp; done)
  | 13, _, ho, hop, hds, hdep, hK, hK5 =>
    have hop : o.op = .alloc 24 := Option.some.inj hop
    have hK := hK (Option.some.inj hds)
    refine st3 ho hwt (v := .pointer (some ⟨w.heap.size, 0, none⟩)) (w' := w.alloc (.cells #[.int .i64 0, .slice none 0 0] 24)) ?_ (hK _ _ ⟨_, _, _, rfl, Blk.new rfl rfl, hX⟩ ((Below.refl _ _).alloc (Nat.le_refl _) _))
    exact alloc_crew w hop
  | 14, _, ho, hop, hds, hdep, hK, hK5 =>
    have hop : o.op = .store 24 (.tmp 10) (.tmp 49) := Option.some.inj hop
    obtain ⟨u10, hu10, hv10⟩ := hdep 13 (by decide)
    have hv10' : ∃ g x y, u10 = .pointer (some ⟨g, 0, none⟩) ∧ Blk w g 24 [x, y] ∧ w0s ≤ g := hv10
    have e10 : a.eval (.tmp 10) = _ := ev_tmp hu10
    obtain ⟨u49, hu49, hv49⟩ := hdep 11 (by decide)
    have hv49' : ∃ F A m q, u49 = .agg #[.int .i64 F, .slice A m q] := hv49
    have e49 : a.eval (.tmp 49) = _ := ev_tmp hu49
    obtain ⟨F9, A9, m9, q9, rfl⟩ := hv49'
    obtain ⟨g, x1, y1, rfl, hB0, hg⟩ := hv10'
    refine op_storeE ho (Option.some.inj hds) hgd 24 _ _ (by rw [hop]) g 0 [.int .i64 F9, .slice A9 m9 q9] e10 e49 hB0.there crew_size (by simp [Value.oneCell']) rfl ?_
    have hK6 := hK5 undef (w.setCells g 0 [.int .i64 F9, .slice A9 m9 q9]) ⟨Below.setCells (Nat.le_trans hw0s hg) _ hbl, by unfold qbX; rw [size_cells]; exact hX⟩ (fun e => by rw [Option.some.inj hds] at e; cases e) (fun _ => ⟨_, hu10, trivial⟩) (fun j u hj hkk hl hR => qb_keep14 wB gc f bA oA n c At ct tl x0 w0s gd Bd Ad cd ns hB0 hg hgdl _ rfl j u hj hkk hR)
    rw [Option.some.inj hds] at hK6
    exact hK6
  | 15, _, ho, hop, hds, hdep, hK, hK5 =>
    have hop : o.op = .assign (.tmp 50) := Option.some.inj hop
    obtain ⟨u50, hu50, hv50⟩ := hdep 12 (by decide)
    have hv50' : u50 = .int .i64 2 := hv50
    subst hv50'
    have e50 : a.eval (.tmp 50) = _ := ev_tmp hu50
    have hK := hK (Option.some.inj hds)
    refine st3 ho hwt (v := _) (w' := w) ?_ (hK _ w rfl (Below.refl _ _))
    unfold execOp
    rw [hop, ← e50]
    rfl
  | i + 16, hi, _, _, _, _, _, _ => exact absurd hi (by omega)
end Go.Proofs.Ytjibbbfpbflgmaa
