/-
  What the regions of CrewNext do, in whichever order their operations come up. (Written by tools/gen_next8.py.)
-/
import Derived.Test.YtjibbbfpbflgmaaMt8
import Derived.Test.YtjibbbfpbflgmaaRule5
import Derived.Test.YtjibbbfpbflgmaaReg8
namespace Go.Proofs.Ytjibbbfpbflgmaa
open Go.RowKit Go.Shelf CrewP
set_option linter.unusedVariables false
set_option linter.unusedSimpArgs false

theorem own_cells {W : World} {base g : Nat} {v : Value} {l : List Int} {cs : List Value} (h : OwnI W base v l) (hB : Blk W g 24 cs) (vs : List Value) : OwnI (W.setCells g 0 vs) base v l := by
  rcases own_blk h with ⟨e, h1, h2⟩ | ⟨g', cap, cs', e, hg, hBr, hn, hm, hcl, ht⟩
  · subst e
    have : l = [] := List.eq_nil_of_length_eq_zero h1
    subst this
    exact OwnI.nil _ _
  · subst e
    refine blk_own hg (Blk.farAll (fun e => ?_) vs hBr) hn hm hcl ht
    subst e
    unfold Blk at hB hBr
    rw [hB] at hBr
    have := Option.some.inj hBr
    injection this with _ h2 _
    exact absurd h2 (by decide)
theorem crew_keep {w : World} {g gw : Nat} {x y x0 y0 : Value} (hC : Blk w g 24 [x, y]) (hB : Blk w gw 24 [x0, y0]) (ws : List Value) (hl : ws.length = 2) : True ∧ Blk (w.setCells gw 0 ws) g 24 [if g = gw then ws.getD 0 undef else x, if g = gw then ws.getD 1 undef else y] := by
  refine ⟨trivial, ?_⟩
  by_cases e : g = gw
  · subst e
    rw [if_pos rfl, if_pos rfl]
    have := hB.setAll (vs := ws) hl
    match ws, hl, this with
    | [a, b], _, this => exact this
  · rw [if_neg e, if_neg e]
    exact Blk.farAll e ws hC
set_option maxRecDepth 100000 in
theorem alloc_crew {o : Oper} {ev : Operand → Value} (w : World) (h : o.op = .alloc 24) : Sem.run Try.prog (execOp ev o) w = .ok (Next.value (.pointer (some ⟨w.heap.size, 0, none⟩))) (w.alloc (.cells #[.int .i64 0, .slice none 0 0] 24)) := by
  unfold execOp
  simp only [h]
  first | rfl | kernel_rfl | (go_simp; done) | (go_simp; rfl)

def naR (gc gb : Nat) (f : Int) (bA oA n c k : Nat) (b0 b1 b2 old : Int) : Nat → Value → World → Prop
  | 0 => fun v w => v = .pointer (some ⟨gc, 1, none⟩)
  | 1 => fun v w => v = .slice (some ⟨bA, oA, none⟩) n c
  | 2 => fun v w => v = .pointer (some ⟨gb, 1, none⟩)
  | 3 => fun v w => v = .int .i64 b1
  | 4 => fun v w => v = .pointer (some ⟨gc, 1, none⟩)
  | 5 => fun v w => v = .slice (some ⟨bA, oA, none⟩) n c
  | 6 => fun v w => v = .int .i64 n
  | 7 => fun v w => v = .int .i64 k
  | 8 => fun v w => v = .pointer (some ⟨bA, oA + k, none⟩)
  | 9 => fun v w => v = .int .i64 old
  | 10 => fun v w => v = .int .i64 old
  | _ => fun _ _ => True
def naD (i : Nat) : Nat := ([20, 21, 22, 23, 24, 25, 26, 27, 28, 29, 8] : List Nat).getD i 0
def naG : Nat → Option Bool
  | _ => none
def naS (i : Nat) : Bool := ([] : List Nat).contains i
theorem na_gb (gc gb : Nat) (f : Int) (bA oA n c k : Nat) (b0 b1 b2 old : Int) : ∀ i b v w, naG i = some b → naR gc gb f bA oA n c k b0 b1 b2 old i v w → v = .bool b := by
  intro i b v w h hR
  unfold naG at h
  split at h
  all_goals first | (injection h with h; subst h; exact hR) | cases h
theorem na_sk (gc gb : Nat) (f : Int) (bA oA n c k : Nat) (b0 b1 b2 old : Int) : ∀ i w, naS i = true → naR gc gb f bA oA n c k b0 b1 b2 old i undef w := by
  intro i w h
  simp [naS] at h
theorem na_on (gc gb : Nat) (f : Int) (bA oA n c k : Nat) (b0 b1 b2 old : Int) : ∀ i v w w', naR gc gb f bA oA n c k b0 b1 b2 old i v w → Below w.heap.size w w' → naR gc gb f bA oA n c k b0 b1 b2 old i v w'
  | 0, v, w, w', h, _ => h
  | 1, v, w, w', h, _ => h
  | 2, v, w, w', h, _ => h
  | 3, v, w, w', h, _ => h
  | 4, v, w, w', h, _ => h
  | 5, v, w, w', h, _ => h
  | 6, v, w, w', h, _ => h
  | 7, v, w, w', h, _ => h
  | 8, v, w, w', h, _ => h
  | 9, v, w, w', h, _ => h
  | 10, v, w, w', h, _ => h
  | i + 11, v, w, w', h, hb => trivial
def naOps : List Op := [.fieldAddr 24 (.tmp 7) 1,
  .load 22 (.tmp 20),
  .indexAddr 49 (.tmp 5) (.const (.int .i64 1)),
  .load 3 (.tmp 22),
  .fieldAddr 24 (.tmp 7) 1,
  .load 22 (.tmp 24),
  .call { callee := .builtin .len, args := #[.tmp 25], argTypes := #[22] },
  .call { callee := .value (.func 43), args := #[.tmp 23, .tmp 26], argTypes := #[3, 3] },
  .indexAddr 22 (.tmp 21) (.tmp 27),
  .load 3 (.tmp 28),
  .assign (.tmp 29)]
def naNeeds : Nat → List Nat
  | 0 => []
  | 1 => [0]
  | 2 => []
  | 3 => [2]
  | 4 => []
  | 5 => [4]
  | 6 => [5]
  | 7 => [3, 6]
  | 8 => [1, 7]
  | 9 => [8]
  | 10 => [9]
  | _ => []
set_option maxRecDepth 100000 in
set_option maxHeartbeats 3200000 in
theorem na_step {ops : Array Oper} {Q : Exit → Act → World → Prop} {a0 : Act} {w0 : World} (gc gb : Nat) (f : Int) (bA oA n c k : Nat) (b0 b1 b2 old : Int) (hops : ((List.range 11).map fun i => (ops[i]?).map Oper.op) = naOps.map some)
    (hnd : ((List.range 11).all fun i => (naNeeds i).all fun j => ((ops[i]?).map fun o => o.after.any fun e => Region.binds .any e && (e.on == j)).getD false) = true)
    (x7 : a0.tmps[7]? = some (.pointer (some ⟨gc, 0, none⟩))) (x5 : a0.tmps[5]? = some (.pointer (some ⟨gb, 0, none⟩)))
    (hB : Blk w0 gc 24 [.int .i64 f, .slice (some ⟨bA, oA, none⟩) n c]) (hBb : Blk w0 gb 49 (cis [b0, b1, b2])) (hbr : ∀ w, Calls Try.prog 43 #[.int .i64 b1, .int .i64 n] w fun e w' => e = .returned (.int .i64 k) ∧ w' = w) (hk0 : (0 : Int) ≤ k) (hk1 : (k : Int) < n) (hltA : bA < w0.heap.size) (hcA : w0.cell? ⟨bA, oA + k, none⟩ = some (.int .i64 old)) :
    ∀ i o, i < 11 → naS i = false → ops[i]? = some o → o.dst = some (naD i) → ∀ a w, Base naD 11 a0 a → Below w0.heap.size w0 w → Region.wanted o (yielded ops a.tmps) = true →
      (∀ j, (o.after.any fun e => Region.binds .any e && (e.on == j)) = true → Has naD (naR gc gb f bA oA n c k b0 b1 b2 old) j a w) →
      ∀ K : Act → World → Prop, (∀ v w', naR gc gb f bA oA n c k b0 b1 b2 old i v w' → Below w.heap.size w w' → K (a.put o.dst v) w') → wpOp Try.prog ops Q i K a w := by
  intro i o hi hs ho hds a w hbase hbl hwt hdep0 K hK
  have hop : some o.op = naOps[i]? := by
    have h1 : ((List.range 11).map fun i => (ops[i]?).map Oper.op)[i]? = some (some o.op) := by
      rw [List.getElem?_map, List.getElem?_range hi]; simp only [Option.map_some, ho]
    rw [hops, List.getElem?_map] at h1
    cases h2 : naOps[i]? with
    | none => rw [h2] at h1; cases h1
    | some y => rw [h2] at h1; simp only [Option.map_some, Option.some.injEq] at h1; rw [h1]
  have hdep : ∀ j, j ∈ naNeeds i → Has naD (naR gc gb f bA oA n c k b0 b1 b2 old) j a w := fun j hj => by
    have h1 := List.all_eq_true.1 (List.all_eq_true.1 hnd i (List.mem_range.2 hi)) j hj
    rw [ho] at h1
    exact hdep0 j h1
  clear hdep0 hops hnd
  match i, hi, hs, ho, hop, hds, hdep, hK with
  | 0, _, hs, ho, hop, hds, hdep, hK =>
    have hop : o.op = .fieldAddr 24 (.tmp 7) 1 := Option.some.inj hop
    have hu7 : a.tmps[7]? = some (.pointer (some ⟨gc, 0, none⟩)) := (hbase.2.2 7 (by decide)).trans x7
    have e7 : a.eval (.tmp 7) = _ := ev_tmp hu7
    refine st3 ho hwt (v := .pointer (some ⟨gc, 1, none⟩)) (w' := w) ?_ (hK _ w rfl (Below.refl _ _))
    unfold execOp
    simp only [hop, Option.map_some, Option.map_none, e7]
    first | rfl | (go_simp; done) | (go_simp; simp; done) | (go_simp; intro h; omega)
  | 1, _, hs, ho, hop, hds, hdep, hK =>
    have hop : o.op = .load 22 (.tmp 20) := Option.some.inj hop
    obtain ⟨u20, hu20, hv20⟩ := hdep 0 (by decide)
    have hv20' : u20 = .pointer (some ⟨gc, 1, none⟩) := hv20
    subst hv20'
    have e20 : a.eval (.tmp 20) = _ := ev_tmp hu20
    refine st3 ho hwt (v := .slice (some ⟨bA, oA, none⟩) n c) (w' := w) ?_ (hK _ w rfl (Below.refl _ _))
    have k1 : w.cell? ⟨gc, 1, none⟩ = some (.slice (some ⟨bA, oA, none⟩) n c) := (hB.below hbl hB.lt).cell rfl
    unfold execOp
    simp only [hop, Option.map_some, Option.map_none, e20]
    first | rfl | (go_simp; done) | (go_simp; simp; done) | (go_simp; intro h; omega)
  | 2, _, hs, ho, hop, hds, hdep, hK =>
    have hop : o.op = .indexAddr 49 (.tmp 5) (.const (.int .i64 1)) := Option.some.inj hop
    have hu5 : a.tmps[5]? = some (.pointer (some ⟨gb, 0, none⟩)) := (hbase.2.2 5 (by decide)).trans x5
    have e5 : a.eval (.tmp 5) = _ := ev_tmp hu5
    refine st3 ho hwt (v := .pointer (some ⟨gb, 1, none⟩)) (w' := w) ?_ (hK _ w rfl (Below.refl _ _))
    unfold execOp
    simp only [hop, Option.map_some, Option.map_none, e5]
    first | rfl | (go_simp; done) | (go_simp; simp; done) | (go_simp; intro h; omega)
  | 3, _, hs, ho, hop, hds, hdep, hK =>
    have hop : o.op = .load 3 (.tmp 22) := Option.some.inj hop
    obtain ⟨u22, hu22, hv22⟩ := hdep 2 (by decide)
    have hv22' : u22 = .pointer (some ⟨gb, 1, none⟩) := hv22
    subst hv22'
    have e22 : a.eval (.tmp 22) = _ := ev_tmp hu22
    refine st3 ho hwt (v := .int .i64 b1) (w' := w) ?_ (hK _ w rfl (Below.refl _ _))
    have k1 : w.cell? ⟨gb, 1, none⟩ = some (.int .i64 b1) := (hBb.below hbl hBb.lt).cell rfl
    unfold execOp
    simp only [hop, Option.map_some, Option.map_none, e22]
    first | rfl | (go_simp; done) | (go_simp; simp; done) | (go_simp; intro h; omega)
  | 4, _, hs, ho, hop, hds, hdep, hK =>
    have hop : o.op = .fieldAddr 24 (.tmp 7) 1 := Option.some.inj hop
    have hu7 : a.tmps[7]? = some (.pointer (some ⟨gc, 0, none⟩)) := (hbase.2.2 7 (by decide)).trans x7
    have e7 : a.eval (.tmp 7) = _ := ev_tmp hu7
    refine st3 ho hwt (v := .pointer (some ⟨gc, 1, none⟩)) (w' := w) ?_ (hK _ w rfl (Below.refl _ _))
    unfold execOp
    simp only [hop, Option.map_some, Option.map_none, e7]
    first | rfl | (go_simp; done) | (go_simp; simp; done) | (go_simp; intro h; omega)
  | 5, _, hs, ho, hop, hds, hdep, hK =>
    have hop : o.op = .load 22 (.tmp 24) := Option.some.inj hop
    obtain ⟨u24, hu24, hv24⟩ := hdep 4 (by decide)
    have hv24' : u24 = .pointer (some ⟨gc, 1, none⟩) := hv24
    subst hv24'
    have e24 : a.eval (.tmp 24) = _ := ev_tmp hu24
    refine st3 ho hwt (v := .slice (some ⟨bA, oA, none⟩) n c) (w' := w) ?_ (hK _ w rfl (Below.refl _ _))
    have k1 : w.cell? ⟨gc, 1, none⟩ = some (.slice (some ⟨bA, oA, none⟩) n c) := (hB.below hbl hB.lt).cell rfl
    unfold execOp
    simp only [hop, Option.map_some, Option.map_none, e24]
    first | rfl | (go_simp; done) | (go_simp; simp; done) | (go_simp; intro h; omega)
  | 6, _, hs, ho, hop, hds, hdep, hK =>
    have hop : o.op = .call { callee := .builtin .len, args := #[.tmp 25], argTypes := #[22] } := Option.some.inj hop
    obtain ⟨u25, hu25, hv25⟩ := hdep 5 (by decide)
    have hv25' : u25 = .slice (some ⟨bA, oA, none⟩) n c := hv25
    subst hv25'
    have e25 : a.eval (.tmp 25) = _ := ev_tmp hu25
    refine st3 ho hwt (v := .int .i64 n) (w' := w) ?_ (hK _ w rfl (Below.refl _ _))
    unfold execOp
    simp only [hop, resolve, invoke, builtin, Sem.run_bind, Sem.run_pure, Result.andThen_ok, List.map_toArray, List.map_cons, List.map_nil, e25]
    first | rfl | (go_simp; done) | (go_simp; simp; done) | (go_simp; intro h; omega)
  | 7, _, hs, ho, hop, hds, hdep, hK =>
    have hop : o.op = .call { callee := .value (.func 43), args := #[.tmp 23, .tmp 26], argTypes := #[3, 3] } := Option.some.inj hop
    obtain ⟨u23, hu23, hv23⟩ := hdep 3 (by decide)
    have hv23' : u23 = .int .i64 b1 := hv23
    subst hv23'
    have e23 : a.eval (.tmp 23) = _ := ev_tmp hu23
    obtain ⟨u26, hu26, hv26⟩ := hdep 6 (by decide)
    have hv26' : u26 = .int .i64 n := hv26
    subst hv26'
    have e26 : a.eval (.tmp 26) = _ := ev_tmp hu26
    refine st3_call ho hwt (f := 43) (vals := #[.int .i64 b1, .int .i64 n]) (Z := fun v w' => v = .int .i64 k ∧ Below w.heap.size w w') ?_ ?_ ?_
    · unfold execOp
      simp only [hop, e23, e26, resolve, invoke, Sem.run_bind, Sem.run_pure, Result.andThen_ok, List.map_toArray, List.map_cons, List.map_nil]
      first | rfl | exact enters_of Try.func43 (by kernel_rfl) rfl _ _
    · exact (hbr w).mono fun e w' ⟨he, h2⟩ => ⟨_, he, rfl, by rw [h2]; exact Below.refl _ _⟩
    · rintro v w' ⟨h1, h2⟩
      exact hK v w' h1 h2
  | 8, _, hs, ho, hop, hds, hdep, hK =>
    have hop : o.op = .indexAddr 22 (.tmp 21) (.tmp 27) := Option.some.inj hop
    obtain ⟨u21, hu21, hv21⟩ := hdep 1 (by decide)
    have hv21' : u21 = .slice (some ⟨bA, oA, none⟩) n c := hv21
    subst hv21'
    have e21 : a.eval (.tmp 21) = _ := ev_tmp hu21
    obtain ⟨u27, hu27, hv27⟩ := hdep 7 (by decide)
    have hv27' : u27 = .int .i64 k := hv27
    subst hv27'
    have e27 : a.eval (.tmp 27) = _ := ev_tmp hu27
    refine st3 ho hwt (v := .pointer (some ⟨bA, oA + k, none⟩)) (w' := w) ?_ (hK _ w rfl (Below.refl _ _))
    unfold execOp
    simp only [hop, Option.map_some, Option.map_none, e21, e27]
    first | rfl | (go_simp; done) | (go_simp; simp; done) | (go_simp; intro h; omega)
  | 9, _, hs, ho, hop, hds, hdep, hK =>
    have hop : o.op = .load 3 (.tmp 28) := Option.some.inj hop
    obtain ⟨u28, hu28, hv28⟩ := hdep 8 (by decide)
    have hv28' : u28 = .pointer (some ⟨bA, oA + k, none⟩) := hv28
    subst hv28'
    have e28 : a.eval (.tmp 28) = _ := ev_tmp hu28
    refine st3 ho hwt (v := .int .i64 old) (w' := w) ?_ (hK _ w rfl (Below.refl _ _))
    have hc : w.cell? ⟨bA, oA + k, none⟩ = some (.int .i64 old) := (hbl.cell (p := ⟨bA, oA + k, none⟩) hltA).trans hcA
    unfold execOp
    simp only [hop, Option.map_some, Option.map_none, e28]
    first | rfl | (go_simp; done) | (go_simp; simp; done) | (go_simp; intro h; omega)
  | 10, _, hs, ho, hop, hds, hdep, hK =>
    have hop : o.op = .assign (.tmp 29) := Option.some.inj hop
    obtain ⟨u29, hu29, hv29⟩ := hdep 9 (by decide)
    have hv29' : u29 = .int .i64 old := hv29
    subst hv29'
    have e29 : a.eval (.tmp 29) = _ := ev_tmp hu29
    refine st3 ho hwt (v := _) (w' := w) ?_ (hK _ w rfl (Below.refl _ _))
    unfold execOp
    rw [hop, ← e29]
    rfl
  | i + 11, hi, _, _, _, _, _, _ => exact absurd hi (by omega)
def nbR (wB : World) (gc gb : Nat) (f : Int) (A : Option Addr) (n c : Nat) (b0 b1 b2 old r2 x F E : Int) (L : List Int) : Nat → Value → World → Prop
  | 0 => fun v w => v = .agg #[.int .i64 f, .slice A n c]
  | 1 => fun v w => v = .int .i64 old
  | 2 => fun v w => v = .pointer (some ⟨gb, 2, none⟩)
  | 3 => fun v w => v = .int .i64 b2
  | 4 => fun v w => v = .int .i64 r2
  | 5 => fun v w => v = .int .i64 x
  | 6 => fun v w => ∃ V, v = .tuple #[.agg #[.int .i64 F, V], .int .i64 E] ∧ OwnI w wB.heap.size V L
  | 7 => fun v w => ∃ V, v = .tuple #[.agg #[.int .i64 F, V], .int .i64 E] ∧ OwnI w wB.heap.size V L
  | 8 => fun v w => ∃ V, v = .agg #[.int .i64 F, V] ∧ OwnI w wB.heap.size V L
  | 9 => fun v w => v = .int .i64 E
  | 10 => fun v w => ∃ g x y, v = .pointer (some ⟨g, 0, none⟩) ∧ Blk w g 24 [x, y] ∧ wB.heap.size ≤ g
  | 11 => fun v w => ∃ g V, v = .pointer (some ⟨g, 0, none⟩) ∧ Blk w g 24 [.int .i64 F, V] ∧ OwnI w wB.heap.size V L ∧ wB.heap.size ≤ g
  | 12 => fun v w => v = .int .i64 E
  | _ => fun _ _ => True
def nbD (i : Nat) : Nat := ([31, 32, 33, 34, 35, 36, 37, 30, 38, 39, 9, 9, 10] : List Nat).getD i 0
theorem nb_on (wB : World) (gc gb : Nat) (f : Int) (A : Option Addr) (n c : Nat) (b0 b1 b2 old r2 x F E : Int) (L : List Int) : ∀ i v w w', nbR wB gc gb f A n c b0 b1 b2 old r2 x F E L i v w → Below w.heap.size w w' → nbR wB gc gb f A n c b0 b1 b2 old r2 x F E L i v w'
  | 0, v, w, w', h, _ => h
  | 1, v, w, w', h, _ => h
  | 2, v, w, w', h, _ => h
  | 3, v, w, w', h, _ => h
  | 4, v, w, w', h, _ => h
  | 5, v, w, w', h, _ => h
  | 6, v, w, w', h, hb => let ⟨V, e, hO⟩ := h; ⟨V, e, own_below hO hb⟩
  | 7, v, w, w', h, hb => let ⟨V, e, hO⟩ := h; ⟨V, e, own_below hO hb⟩
  | 8, v, w, w', h, hb => let ⟨V, e, hO⟩ := h; ⟨V, e, own_below hO hb⟩
  | 9, v, w, w', h, _ => h
  | 10, v, w, w', h, hb => let ⟨g, x, y, e, hB, hg⟩ := h; ⟨g, x, y, e, hB.below hb hB.lt, hg⟩
  | 11, v, w, w', h, hb => let ⟨g, V, e, hB, hO, hg⟩ := h; ⟨g, V, e, hB.below hb hB.lt, own_below hO hb, hg⟩
  | 12, v, w, w', h, _ => h
  | i + 13, v, w, w', h, hb => trivial
theorem nb_keep11 (wB : World) (gc gb : Nat) (f : Int) (A : Option Addr) (n c : Nat) (b0 b1 b2 old r2 x F E : Int) (L : List Int) {w : World} {gw : Nat} {x0 y0 : Value} (hB : Blk w gw 24 [x0, y0]) (ws : List Value) (hl : ws.length = 2) : ∀ j u, j ≠ 11 → nbR wB gc gb f A n c b0 b1 b2 old r2 x F E L j u w → nbR wB gc gb f A n c b0 b1 b2 old r2 x F E L j u (w.setCells gw 0 ws)
  | 0, u, e, h => h
  | 1, u, e, h => h
  | 2, u, e, h => h
  | 3, u, e, h => h
  | 4, u, e, h => h
  | 5, u, e, h => h
  | 6, u, e, h => let ⟨V, e, hO⟩ := h; ⟨V, e, own_cells hO hB ws⟩
  | 7, u, e, h => let ⟨V, e, hO⟩ := h; ⟨V, e, own_cells hO hB ws⟩
  | 8, u, e, h => let ⟨V, e, hO⟩ := h; ⟨V, e, own_cells hO hB ws⟩
  | 9, u, e, h => h
  | 10, u, e, h => let ⟨g, x, y, e, hC, hg⟩ := h; (by have := crew_keep hC hB ws hl; exact ⟨g, _, _, e, this.2, hg⟩)
  | 11, u, e, h => absurd rfl e
  | 12, u, e, h => h
  | j + 13, u, e, h => trivial
def nbX (wB : World) (gc gb : Nat) (f : Int) (A : Option Addr) (n c : Nat) (b0 b1 b2 old r2 x F E : Int) (L : List Int) (w : World) : Prop := True
def nbOps : List Op := [.load 24 (.tmp 7),
  .move (.tmp 8),
  .indexAddr 49 (.tmp 5) (.const (.int .i64 2)),
  .load 3 (.tmp 33),
  .call { callee := .value (.func 43), args := #[.tmp 34, .const (.int .i64 28)], argTypes := #[3, 3] },
  .binOp .add 3 (.const (.int .i64 1)) (.tmp 35) 3,
  .call { callee := .value (.func 35), args := #[.tmp 31, .tmp 32, .tmp 36], argTypes := #[24, 3, 3] },
  .move (.tmp 37),
  .extract (.tmp 30) 0,
  .extract (.tmp 30) 1,
  .alloc 24,
  .store 24 (.tmp 9) (.tmp 38),
  .assign (.tmp 39)]
def nbNeeds : Nat → List Nat
  | 0 => []
  | 1 => []
  | 2 => []
  | 3 => [2]
  | 4 => [3]
  | 5 => [4]
  | 6 => [0, 1, 5]
  | 7 => [6]
  | 8 => [7]
  | 9 => [7]
  | 10 => []
  | 11 => [8, 10]
  | 12 => [9]
  | _ => []
set_option maxRecDepth 100000 in
set_option maxHeartbeats 3200000 in
theorem nb_step {ops : Array Oper} {Q : Exit → Act → World → Prop} {a0 : Act} (wB : World) (gc gb : Nat) (f : Int) (A : Option Addr) (n c : Nat) (b0 b1 b2 old r2 x F E : Int) (L : List Int) (hops : ((List.range 13).map fun i => (ops[i]?).map Oper.op) = nbOps.map some)
    (hdsl : ((List.range 13).map fun i => (ops[i]?).map Oper.dst) = ([some 31, some 32, some 33, some 34, some 35, some 36, some 37, some 30, some 38, some 39, some 9, none, some 10] : List (Option Tmp)).map some)
    (hnd : ((List.range 13).all fun i => (nbNeeds i).all fun j => ((ops[i]?).map fun o => o.after.any fun e => Region.binds .any e && (e.on == j)).getD false) = true)
    (x7 : a0.tmps[7]? = some (.pointer (some ⟨gc, 0, none⟩))) (x5 : a0.tmps[5]? = some (.pointer (some ⟨gb, 0, none⟩))) (x8 : a0.tmps[8]? = some (.int .i64 old)) (ns : List Int)
    (hB : Blk wB gc 24 [.int .i64 f, .slice A n c]) (hBb : Blk wB gb 49 (cis [b0, b1, b2])) (hA : ArgI wB A n c ns) (hwl : ∀ x ∈ ns, Wf x) (hxw : Wf x) (hbr : ∀ w, Calls Try.prog 43 #[.int .i64 b2, .int .i64 28] w fun e w' => e = .returned (.int .i64 r2) ∧ w' = w) (hwx : IntKind.i64.wrap (1 + r2) = x) (hrr : replaceR f ns old x = (F, L, E)) :
    ∀ i o, i < 13 → ops[i]? = some o → o.guard = none → (o.dst = some (nbD i) ∨ o.dst = none) → ∀ a w, Base nbD 13 a0 a → (Below wB.heap.size wB w ∧ nbX wB gc gb f A n c b0 b1 b2 old r2 x F E L w) →
      (∀ j, (o.after.any fun e => Region.binds .any e && (e.on == j)) = true → Has nbD (nbR wB gc gb f A n c b0 b1 b2 old r2 x F E L) j a w) →
      ∀ K : Act → World → Prop, (∀ v w', (Below wB.heap.size wB w' ∧ nbX wB gc gb f A n c b0 b1 b2 old r2 x F E L w') → (o.dst = some (nbD i) → nbR wB gc gb f A n c b0 b1 b2 old r2 x F E L i v w') → (o.dst = none → ∃ u, a.tmps[nbD i]? = some u ∧ nbR wB gc gb f A n c b0 b1 b2 old r2 x F E L i u w') → (∀ j u, j ≠ i → nbR wB gc gb f A n c b0 b1 b2 old r2 x F E L j u w → nbR wB gc gb f A n c b0 b1 b2 old r2 x F E L j u w') → K (a.put o.dst v) w') → wpOp Try.prog ops Q i K a w := by
  intro i o hi ho hgd hdst a w hbase hI hdep0 K hK5
  obtain ⟨hbl, hX⟩ := hI
  have hwt : Region.wanted o (yielded ops a.tmps) = true := by unfold Region.wanted; rw [hgd]
  have hop : some o.op = nbOps[i]? := by
    have h1 : ((List.range 13).map fun i => (ops[i]?).map Oper.op)[i]? = some (some o.op) := by
      rw [List.getElem?_map, List.getElem?_range hi]; simp only [Option.map_some, ho]
    rw [hops, List.getElem?_map] at h1
    cases h2 : nbOps[i]? with
    | none => rw [h2] at h1; cases h1
    | some y => rw [h2] at h1; simp only [Option.map_some, Option.some.injEq] at h1; rw [h1]
  have hds : some o.dst = ([some 31, some 32, some 33, some 34, some 35, some 36, some 37, some 30, some 38, some 39, some 9, none, some 10] : List (Option Tmp))[i]? := by
    have h1 : ((List.range 13).map fun i => (ops[i]?).map Oper.dst)[i]? = some (some o.dst) := by
      rw [List.getElem?_map, List.getElem?_range hi]; simp only [Option.map_some, ho]
    rw [hdsl, List.getElem?_map] at h1
    cases h2 : ([some 31, some 32, some 33, some 34, some 35, some 36, some 37, some 30, some 38, some 39, some 9, none, some 10] : List (Option Tmp))[i]? with
    | none => rw [h2] at h1; cases h1
    | some y => rw [h2] at h1; simp only [Option.map_some, Option.some.injEq] at h1; rw [h1]
  have hdep : ∀ j, j ∈ nbNeeds i → Has nbD (nbR wB gc gb f A n c b0 b1 b2 old r2 x F E L) j a w := fun j hj => by
    have h1 := List.all_eq_true.1 (List.all_eq_true.1 hnd i (List.mem_range.2 hi)) j hj
    rw [ho] at h1
    exact hdep0 j h1
  have hK : o.dst = some (nbD i) → ∀ v w', nbR wB gc gb f A n c b0 b1 b2 old r2 x F E L i v w' → Below w.heap.size w w' → K (a.put o.dst v) w' := fun e v w' h1 h2 => hK5 v w' ⟨hbl.trans (h2.mono hbl.size), trivial⟩ (fun _ => h1) (fun e' => by rw [e] at e'; cases e') (fun j u _ hj => nb_on wB gc gb f A n c b0 b1 b2 old r2 x F E L j u w w' hj h2)
  clear hdep0 hops hnd hdsl hdst
  match i, hi, ho, hop, hds, hdep, hK, hK5 with
  | 0, _, ho, hop, hds, hdep, hK, hK5 =>
    have hop : o.op = .load 24 (.tmp 7) := Option.some.inj hop
    have hu7 : a.tmps[7]? = some (.pointer (some ⟨gc, 0, none⟩)) := (hbase.2.2 7 (by decide)).trans x7
    have e7 : a.eval (.tmp 7) = _ := ev_tmp hu7
    have hK := hK (Option.some.inj hds)
    refine st3 ho hwt (v := .agg #[.int .i64 f, .slice A n c]) (w' := w) ?_ (hK _ w rfl (Below.refl _ _))
    have k0 : w.cell? ⟨gc, 0, none⟩ = some (.int .i64 f) := (hB.below hbl hB.lt).cell rfl
    have k1 : w.cell? ⟨gc, 1, none⟩ = some (.slice A n c) := (hB.below hbl hB.lt).cell rfl
    unfold execOp
    simp only [hop, Option.map_some, Option.map_none, e7]
    first | rfl | (go_simp; done) | (go_simp; simp; done) | (go_simp; intro h; omega)
  | 1, _, ho, hop, hds, hdep, hK, hK5 =>
    have hop : o.op = .move (.tmp 8) := Option.some.inj hop
    have hu8 : a.tmps[8]? = some (.int .i64 old) := (hbase.2.2 8 (by decide)).trans x8
    have e8 : a.eval (.tmp 8) = _ := ev_tmp hu8
    have hK := hK (Option.some.inj hds)
    refine st3 ho hwt (v := _) (w' := w) ?_ (hK _ w rfl (Below.refl _ _))
    unfold execOp
    rw [hop, ← e8]
    rfl
  | 2, _, ho, hop, hds, hdep, hK, hK5 =>
    have hop : o.op = .indexAddr 49 (.tmp 5) (.const (.int .i64 2)) := Option.some.inj hop
    have hu5 : a.tmps[5]? = some (.pointer (some ⟨gb, 0, none⟩)) := (hbase.2.2 5 (by decide)).trans x5
    have e5 : a.eval (.tmp 5) = _ := ev_tmp hu5
    have hK := hK (Option.some.inj hds)
    refine st3 ho hwt (v := .pointer (some ⟨gb, 2, none⟩)) (w' := w) ?_ (hK _ w rfl (Below.refl _ _))
    unfold execOp
    simp only [hop, Option.map_some, Option.map_none, e5]
    first | rfl | (go_simp; done) | (go_simp; simp; done) | (go_simp; intro h; omega)
  | 3, _, ho, hop, hds, hdep, hK, hK5 =>
    have hop : o.op = .load 3 (.tmp 33) := Option.some.inj hop
    obtain ⟨u33, hu33, hv33⟩ := hdep 2 (by decide)
    have hv33' : u33 = .pointer (some ⟨gb, 2, none⟩) := hv33
    subst hv33'
    have e33 : a.eval (.tmp 33) = _ := ev_tmp hu33
    have hK := hK (Option.some.inj hds)
    refine st3 ho hwt (v := .int .i64 b2) (w' := w) ?_ (hK _ w rfl (Below.refl _ _))
    have k2 : w.cell? ⟨gb, 2, none⟩ = some (.int .i64 b2) := (hBb.below hbl hBb.lt).cell rfl
    unfold execOp
    simp only [hop, Option.map_some, Option.map_none, e33]
    first | rfl | (go_simp; done) | (go_simp; simp; done) | (go_simp; intro h; omega)
  | 4, _, ho, hop, hds, hdep, hK, hK5 =>
    have hop : o.op = .call { callee := .value (.func 43), args := #[.tmp 34, .const (.int .i64 28)], argTypes := #[3, 3] } := Option.some.inj hop
    obtain ⟨u34, hu34, hv34⟩ := hdep 3 (by decide)
    have hv34' : u34 = .int .i64 b2 := hv34
    subst hv34'
    have e34 : a.eval (.tmp 34) = _ := ev_tmp hu34
    have hK := hK (Option.some.inj hds)
    refine st3_call ho hwt (f := 43) (vals := #[.int .i64 b2, .int .i64 28]) (Z := fun v w' => v = .int .i64 r2 ∧ Below w.heap.size w w') ?_ ?_ ?_
    · unfold execOp
      simp only [hop, e34, resolve, invoke, Sem.run_bind, Sem.run_pure, Result.andThen_ok, List.map_toArray, List.map_cons, List.map_nil]
      first | rfl | exact enters_of Try.func43 (by kernel_rfl) rfl _ _
    · exact (hbr w).mono fun e w' ⟨he, h2⟩ => ⟨_, he, rfl, by rw [h2]; exact Below.refl _ _⟩
    · rintro v w' ⟨h1, h2⟩
      exact hK v w' h1 h2
  | 5, _, ho, hop, hds, hdep, hK, hK5 =>
    have hop : o.op = .binOp .add 3 (.const (.int .i64 1)) (.tmp 35) 3 := Option.some.inj hop
    obtain ⟨u35, hu35, hv35⟩ := hdep 4 (by decide)
    have hv35' : u35 = .int .i64 r2 := hv35
    subst hv35'
    have e35 : a.eval (.tmp 35) = _ := ev_tmp hu35
    have hK := hK (Option.some.inj hds)
    refine st3 ho hwt (v := .int .i64 x) (w' := w) ?_ (hK _ w rfl (Below.refl _ _))
    unfold execOp
    simp only [hop, Option.map_some, Option.map_none, e35]
    first | rfl | (go_simp; done) | (go_simp; simp; done) | (go_simp; intro h; omega)
  | 6, _, ho, hop, hds, hdep, hK, hK5 =>
    have hop : o.op = .call { callee := .value (.func 35), args := #[.tmp 31, .tmp 32, .tmp 36], argTypes := #[24, 3, 3] } := Option.some.inj hop
    obtain ⟨u31, hu31, hv31⟩ := hdep 0 (by decide)
    have hv31' : u31 = .agg #[.int .i64 f, .slice A n c] := hv31
    subst hv31'
    have e31 : a.eval (.tmp 31) = _ := ev_tmp hu31
    obtain ⟨u32, hu32, hv32⟩ := hdep 1 (by decide)
    have hv32' : u32 = .int .i64 old := hv32
    subst hv32'
    have e32 : a.eval (.tmp 32) = _ := ev_tmp hu32
    obtain ⟨u36, hu36, hv36⟩ := hdep 5 (by decide)
    have hv36' : u36 = .int .i64 x := hv36
    subst hv36'
    have e36 : a.eval (.tmp 36) = _ := ev_tmp hu36
    have hK := hK (Option.some.inj hds)
    refine st3_call ho hwt (f := 35) (vals := #[.agg #[.int .i64 f, .slice A n c], .int .i64 old, .int .i64 x]) (Z := fun v w' => (∃ V, v = .tuple #[.agg #[.int .i64 F, V], .int .i64 E] ∧ OwnI w' wB.heap.size V L) ∧ Below w.heap.size w w') ?_ ?_ ?_
    · unfold execOp
      simp only [hop, e31, e32, e36, resolve, invoke, Sem.run_bind, Sem.run_pure, Result.andThen_ok, List.map_toArray, List.map_cons, List.map_nil]
      first | rfl | exact enters_of Try.func35 (by kernel_rfl) rfl _ _
    · exact (replace_any f A n c ns w (hA.after hbl) hwl old x hxw).mono fun e w' ⟨v, he, hN⟩ => by rw [hrr] at he hN; exact ⟨_, he, ⟨_, rfl, own_base hN.1 hbl.size⟩, hN.2⟩
    · rintro v w' ⟨h1, h2⟩
      exact hK v w' h1 h2
  | 7, _, ho, hop, hds, hdep, hK, hK5 =>
    have hop : o.op = .move (.tmp 37) := Option.some.inj hop
    obtain ⟨u37, hu37, hv37⟩ := hdep 6 (by decide)
    have hv37' : ∃ V, u37 = .tuple #[.agg #[.int .i64 F, V], .int .i64 E] ∧ OwnI w wB.heap.size V L := hv37
    have e37 : a.eval (.tmp 37) = _ := ev_tmp hu37
    have hK := hK (Option.some.inj hds)
    refine st3 ho hwt (v := _) (w' := w) ?_ (hK _ w hv37 (Below.refl _ _))
    unfold execOp
    rw [hop, ← e37]
    rfl
  | 8, _, ho, hop, hds, hdep, hK, hK5 =>
    have hop : o.op = .extract (.tmp 30) 0 := Option.some.inj hop
    obtain ⟨u30, hu30, hv30⟩ := hdep 7 (by decide)
    have hv30' : ∃ V, u30 = .tuple #[.agg #[.int .i64 F, V], .int .i64 E] ∧ OwnI w wB.heap.size V L := hv30
    have e30 : a.eval (.tmp 30) = _ := ev_tmp hu30
    have hK := hK (Option.some.inj hds)
    obtain ⟨V, rfl, hO⟩ := hv30'
    refine st3 ho hwt (v := .agg #[.int .i64 F, V]) (w' := w) ?_ (hK _ w ⟨V, rfl, hO⟩ (Below.refl _ _))
    unfold execOp
    simp only [hop, e30]
    first | rfl | (go_simp; done) | (go_simp; simp; done)
  | 9, _, ho, hop, hds, hdep, hK, hK5 =>
    have hop : o.op = .extract (.tmp 30) 1 := Option.some.inj hop
    obtain ⟨u30, hu30, hv30⟩ := hdep 7 (by decide)
    have hv30' : ∃ V, u30 = .tuple #[.agg #[.int .i64 F, V], .int .i64 E] ∧ OwnI w wB.heap.size V L := hv30
    have e30 : a.eval (.tmp 30) = _ := ev_tmp hu30
    have hK := hK (Option.some.inj hds)
    obtain ⟨V, rfl, hO⟩ := hv30'
    refine st3 ho hwt (v := .int .i64 E) (w' := w) ?_ (hK _ w rfl (Below.refl _ _))
    unfold execOp
    simp only [hop, e30]
    first | rfl | (go_simp; done) | (go_simp; simp; done)
  | 10, _, ho, hop, hds, hdep, hK, hK5 =>
    have hop : o.op = .alloc 24 := Option.some.inj hop
    have hK := hK (Option.some.inj hds)
    refine st3 ho hwt (v := .pointer (some ⟨w.heap.size, 0, none⟩)) (w' := w.alloc (.cells #[.int .i64 0, .slice none 0 0] 24)) ?_ (hK _ _ ⟨_, _, _, rfl, Blk.new rfl rfl, hbl.size⟩ ((Below.refl _ _).alloc (Nat.le_refl _) _))
    exact alloc_crew w hop
  | 11, _, ho, hop, hds, hdep, hK, hK5 =>
    have hop : o.op = .store 24 (.tmp 9) (.tmp 38) := Option.some.inj hop
    obtain ⟨u9, hu9, hv9⟩ := hdep 10 (by decide)
    have hv9' : ∃ g x y, u9 = .pointer (some ⟨g, 0, none⟩) ∧ Blk w g 24 [x, y] ∧ wB.heap.size ≤ g := hv9
    have e9 : a.eval (.tmp 9) = _ := ev_tmp hu9
    obtain ⟨u38, hu38, hv38⟩ := hdep 8 (by decide)
    have hv38' : ∃ V, u38 = .agg #[.int .i64 F, V] ∧ OwnI w wB.heap.size V L := hv38
    have e38 : a.eval (.tmp 38) = _ := ev_tmp hu38
    obtain ⟨V, rfl, hO⟩ := hv38'
    obtain ⟨g, x0, y0, rfl, hB0, hg⟩ := hv9'
    refine op_storeE ho (Option.some.inj hds) hgd 24 _ _ (by rw [hop]) g 0 [.int .i64 F, V] e9 e38 hB0.there crew_size (by obtain ⟨A1, c1, e1, _⟩ := hO.form; subst e1; simp [Value.oneCell']) rfl ?_
    have hK6 := hK5 undef (w.setCells g 0 [.int .i64 F, V]) ⟨Below.setCells hg _ hbl, trivial⟩ (fun e => by rw [Option.some.inj hds] at e; cases e) (fun _ => ⟨_, hu9, ⟨g, V, rfl, hB0.setAll rfl, own_cells hO hB0 _, hg⟩⟩) (nb_keep11 wB gc gb f A n c b0 b1 b2 old r2 x F E L hB0 _ rfl)
    rw [Option.some.inj hds] at hK6
    exact hK6
  | 12, _, ho, hop, hds, hdep, hK, hK5 =>
    have hop : o.op = .assign (.tmp 39) := Option.some.inj hop
    obtain ⟨u39, hu39, hv39⟩ := hdep 9 (by decide)
    have hv39' : u39 = .int .i64 E := hv39
    subst hv39'
    have e39 : a.eval (.tmp 39) = _ := ev_tmp hu39
    have hK := hK (Option.some.inj hds)
    refine st3 ho hwt (v := _) (w' := w) ?_ (hK _ w rfl (Below.refl _ _))
    unfold execOp
    rw [hop, ← e39]
    rfl
  | i + 13, hi, _, _, _, _, _, _ => exact absurd hi (by omega)
def ncR (gc gd gb : Nat) (f : Int) (A Ad : Option Addr) (n c cd : Nat) (ns ds : List Int) (y b0 b1 b2 : Int) : Nat → Value → World → Prop
  | 0 => fun v w => v = .agg #[.int .i64 f, .slice A n c]
  | 1 => fun v w => v = .int .i64 y
  | 2 => fun v w => ListV w v (pick (bitB y) ns n)
  | 3 => fun v w => v = .agg #[.int .i64 f, .slice Ad n cd]
  | 4 => fun v w => v = .pointer (some ⟨gb, 0, none⟩)
  | 5 => fun v w => v = .int .i64 b0
  | 6 => fun v w => ListV w v (pick (bitB b0) ds n)
  | 7 => fun v w => ListV w v (pick (bitB y) ns n)
  | 8 => fun v w => ListV w v (pick (bitB b0) ds n)
  | _ => fun _ _ => True
def ncD (i : Nat) : Nat := ([44, 45, 46, 47, 48, 49, 50, 11, 12] : List Nat).getD i 0
def ncG : Nat → Option Bool
  | _ => none
def ncS (i : Nat) : Bool := ([] : List Nat).contains i
theorem nc_gb (gc gd gb : Nat) (f : Int) (A Ad : Option Addr) (n c cd : Nat) (ns ds : List Int) (y b0 b1 b2 : Int) : ∀ i b v w, ncG i = some b → ncR gc gd gb f A Ad n c cd ns ds y b0 b1 b2 i v w → v = .bool b := by
  intro i b v w h hR
  unfold ncG at h
  split at h
  all_goals first | (injection h with h; subst h; exact hR) | cases h
theorem nc_sk (gc gd gb : Nat) (f : Int) (A Ad : Option Addr) (n c cd : Nat) (ns ds : List Int) (y b0 b1 b2 : Int) : ∀ i w, ncS i = true → ncR gc gd gb f A Ad n c cd ns ds y b0 b1 b2 i undef w := by
  intro i w h
  simp [ncS] at h
theorem nc_on (gc gd gb : Nat) (f : Int) (A Ad : Option Addr) (n c cd : Nat) (ns ds : List Int) (y b0 b1 b2 : Int) : ∀ i v w w', ncR gc gd gb f A Ad n c cd ns ds y b0 b1 b2 i v w → Below w.heap.size w w' → ncR gc gd gb f A Ad n c cd ns ds y b0 b1 b2 i v w'
  | 0, v, w, w', h, _ => h
  | 1, v, w, w', h, _ => h
  | 2, v, w, w', h, hb => ListV.on (show ListV w v (pick (bitB y) ns n) from h) hb
  | 3, v, w, w', h, _ => h
  | 4, v, w, w', h, _ => h
  | 5, v, w, w', h, _ => h
  | 6, v, w, w', h, hb => ListV.on (show ListV w v (pick (bitB b0) ds n) from h) hb
  | 7, v, w, w', h, hb => ListV.on (show ListV w v (pick (bitB y) ns n) from h) hb
  | 8, v, w, w', h, hb => ListV.on (show ListV w v (pick (bitB b0) ds n) from h) hb
  | i + 9, v, w, w', h, hb => trivial
def ncOps : List Op := [.load 24 (.tmp 7),
  .move (.tmp 1),
  .call { callee := .value (.func 42), args := #[.tmp 44, .tmp 45], argTypes := #[24, 3] },
  .load 24 (.tmp 9),
  .indexAddr 49 (.tmp 5) (.const (.int .i64 0)),
  .load 3 (.tmp 48),
  .call { callee := .value (.func 42), args := #[.tmp 47, .tmp 49], argTypes := #[24, 3] },
  .assign (.tmp 46),
  .assign (.tmp 50)]
def ncNeeds : Nat → List Nat
  | 0 => []
  | 1 => []
  | 2 => [0, 1]
  | 3 => []
  | 4 => []
  | 5 => [4]
  | 6 => [3, 5]
  | 7 => [2]
  | 8 => [6]
  | _ => []
set_option maxRecDepth 100000 in
set_option maxHeartbeats 3200000 in
theorem nc_step {ops : Array Oper} {Q : Exit → Act → World → Prop} {a0 : Act} {w0 : World} (gc gd gb : Nat) (f : Int) (A Ad : Option Addr) (n c cd : Nat) (ns ds : List Int) (y b0 b1 b2 : Int) (hops : ((List.range 9).map fun i => (ops[i]?).map Oper.op) = ncOps.map some)
    (hnd : ((List.range 9).all fun i => (ncNeeds i).all fun j => ((ops[i]?).map fun o => o.after.any fun e => Region.binds .any e && (e.on == j)).getD false) = true)
    (x7 : a0.tmps[7]? = some (.pointer (some ⟨gc, 0, none⟩))) (x9 : a0.tmps[9]? = some (.pointer (some ⟨gd, 0, none⟩))) (x5 : a0.tmps[5]? = some (.pointer (some ⟨gb, 0, none⟩))) (x1 : a0.tmps[1]? = some (.int .i64 y))
    (hB : Blk w0 gc 24 [.int .i64 f, .slice A n c]) (hBd : Blk w0 gd 24 [.int .i64 f, .slice Ad n cd]) (hA : ArgI w0 A n c ns) (hAd : ArgI w0 Ad n cd ds) (hok : okC f ns = true) (hokd : okC f ds = true) (hn : n ≤ 7) (hBb : Blk w0 gb 49 (cis [b0, b1, b2])) (hy : Wf y) (hb0 : Wf b0) :
    ∀ i o, i < 9 → ncS i = false → ops[i]? = some o → o.dst = some (ncD i) → ∀ a w, Base ncD 9 a0 a → Below w0.heap.size w0 w → Region.wanted o (yielded ops a.tmps) = true →
      (∀ j, (o.after.any fun e => Region.binds .any e && (e.on == j)) = true → Has ncD (ncR gc gd gb f A Ad n c cd ns ds y b0 b1 b2) j a w) →
      ∀ K : Act → World → Prop, (∀ v w', ncR gc gd gb f A Ad n c cd ns ds y b0 b1 b2 i v w' → Below w.heap.size w w' → K (a.put o.dst v) w') → wpOp Try.prog ops Q i K a w := by
  intro i o hi hs ho hds a w hbase hbl hwt hdep0 K hK
  have hop : some o.op = ncOps[i]? := by
    have h1 : ((List.range 9).map fun i => (ops[i]?).map Oper.op)[i]? = some (some o.op) := by
      rw [List.getElem?_map, List.getElem?_range hi]; simp only [Option.map_some, ho]
    rw [hops, List.getElem?_map] at h1
    cases h2 : ncOps[i]? with
    | none => rw [h2] at h1; cases h1
    | some y => rw [h2] at h1; simp only [Option.map_some, Option.some.injEq] at h1; rw [h1]
  have hdep : ∀ j, j ∈ ncNeeds i → Has ncD (ncR gc gd gb f A Ad n c cd ns ds y b0 b1 b2) j a w := fun j hj => by
    have h1 := List.all_eq_true.1 (List.all_eq_true.1 hnd i (List.mem_range.2 hi)) j hj
    rw [ho] at h1
    exact hdep0 j h1
  clear hdep0 hops hnd
  match i, hi, hs, ho, hop, hds, hdep, hK with
  | 0, _, hs, ho, hop, hds, hdep, hK =>
    have hop : o.op = .load 24 (.tmp 7) := Option.some.inj hop
    have hu7 : a.tmps[7]? = some (.pointer (some ⟨gc, 0, none⟩)) := (hbase.2.2 7 (by decide)).trans x7
    have e7 : a.eval (.tmp 7) = _ := ev_tmp hu7
    refine st3 ho hwt (v := .agg #[.int .i64 f, .slice A n c]) (w' := w) ?_ (hK _ w rfl (Below.refl _ _))
    have k0 : w.cell? ⟨gc, 0, none⟩ = some (.int .i64 f) := (hB.below hbl hB.lt).cell rfl
    have k1 : w.cell? ⟨gc, 1, none⟩ = some (.slice A n c) := (hB.below hbl hB.lt).cell rfl
    unfold execOp
    simp only [hop, Option.map_some, Option.map_none, e7]
    first | rfl | (go_simp; done) | (go_simp; simp; done) | (go_simp; intro h; omega)
  | 1, _, hs, ho, hop, hds, hdep, hK =>
    have hop : o.op = .move (.tmp 1) := Option.some.inj hop
    have hu1 : a.tmps[1]? = some (.int .i64 y) := (hbase.2.2 1 (by decide)).trans x1
    have e1 : a.eval (.tmp 1) = _ := ev_tmp hu1
    refine st3 ho hwt (v := _) (w' := w) ?_ (hK _ w rfl (Below.refl _ _))
    unfold execOp
    rw [hop, ← e1]
    rfl
  | 2, _, hs, ho, hop, hds, hdep, hK =>
    have hop : o.op = .call { callee := .value (.func 42), args := #[.tmp 44, .tmp 45], argTypes := #[24, 3] } := Option.some.inj hop
    obtain ⟨u44, hu44, hv44⟩ := hdep 0 (by decide)
    have hv44' : u44 = .agg #[.int .i64 f, .slice A n c] := hv44
    subst hv44'
    have e44 : a.eval (.tmp 44) = _ := ev_tmp hu44
    obtain ⟨u45, hu45, hv45⟩ := hdep 1 (by decide)
    have hv45' : u45 = .int .i64 y := hv45
    subst hv45'
    have e45 : a.eval (.tmp 45) = _ := ev_tmp hu45
    refine st3_call ho hwt (f := 42) (vals := #[.agg #[.int .i64 f, .slice A n c], .int .i64 y]) (Z := fun v w' => ListV w' v (pick (bitB y) ns n) ∧ Below w.heap.size w w') ?_ ?_ ?_
    · unfold execOp
      simp only [hop, e44, e45, resolve, invoke, Sem.run_bind, Sem.run_pure, Result.andThen_ok, List.map_toArray, List.map_cons, List.map_nil]
      first | rfl | exact enters_of Try.func42 (by kernel_rfl) rfl _ _
    · exact (of_any f A n c ns w (hA.after hbl) hn y hy).mono fun e w' ⟨v, he, hN⟩ => ⟨v, he, hN.list (pick_wf hok (by have := hA.1; omega)), hN.2⟩
    · rintro v w' ⟨h1, h2⟩
      exact hK v w' h1 h2
  | 3, _, hs, ho, hop, hds, hdep, hK =>
    have hop : o.op = .load 24 (.tmp 9) := Option.some.inj hop
    have hu9 : a.tmps[9]? = some (.pointer (some ⟨gd, 0, none⟩)) := (hbase.2.2 9 (by decide)).trans x9
    have e9 : a.eval (.tmp 9) = _ := ev_tmp hu9
    refine st3 ho hwt (v := .agg #[.int .i64 f, .slice Ad n cd]) (w' := w) ?_ (hK _ w rfl (Below.refl _ _))
    have k0 : w.cell? ⟨gd, 0, none⟩ = some (.int .i64 f) := (hBd.below hbl hBd.lt).cell rfl
    have k1 : w.cell? ⟨gd, 1, none⟩ = some (.slice Ad n cd) := (hBd.below hbl hBd.lt).cell rfl
    unfold execOp
    simp only [hop, Option.map_some, Option.map_none, e9]
    first | rfl | (go_simp; done) | (go_simp; simp; done) | (go_simp; intro h; omega)
  | 4, _, hs, ho, hop, hds, hdep, hK =>
    have hop : o.op = .indexAddr 49 (.tmp 5) (.const (.int .i64 0)) := Option.some.inj hop
    have hu5 : a.tmps[5]? = some (.pointer (some ⟨gb, 0, none⟩)) := (hbase.2.2 5 (by decide)).trans x5
    have e5 : a.eval (.tmp 5) = _ := ev_tmp hu5
    refine st3 ho hwt (v := .pointer (some ⟨gb, 0, none⟩)) (w' := w) ?_ (hK _ w rfl (Below.refl _ _))
    unfold execOp
    simp only [hop, Option.map_some, Option.map_none, e5]
    first | rfl | (go_simp; done) | (go_simp; simp; done) | (go_simp; intro h; omega)
  | 5, _, hs, ho, hop, hds, hdep, hK =>
    have hop : o.op = .load 3 (.tmp 48) := Option.some.inj hop
    obtain ⟨u48, hu48, hv48⟩ := hdep 4 (by decide)
    have hv48' : u48 = .pointer (some ⟨gb, 0, none⟩) := hv48
    subst hv48'
    have e48 : a.eval (.tmp 48) = _ := ev_tmp hu48
    refine st3 ho hwt (v := .int .i64 b0) (w' := w) ?_ (hK _ w rfl (Below.refl _ _))
    have k0 : w.cell? ⟨gb, 0, none⟩ = some (.int .i64 b0) := (hBb.below hbl hBb.lt).cell rfl
    unfold execOp
    simp only [hop, Option.map_some, Option.map_none, e48]
    first | rfl | (go_simp; done) | (go_simp; simp; done) | (go_simp; intro h; omega)
  | 6, _, hs, ho, hop, hds, hdep, hK =>
    have hop : o.op = .call { callee := .value (.func 42), args := #[.tmp 47, .tmp 49], argTypes := #[24, 3] } := Option.some.inj hop
    obtain ⟨u47, hu47, hv47⟩ := hdep 3 (by decide)
    have hv47' : u47 = .agg #[.int .i64 f, .slice Ad n cd] := hv47
    subst hv47'
    have e47 : a.eval (.tmp 47) = _ := ev_tmp hu47
    obtain ⟨u49, hu49, hv49⟩ := hdep 5 (by decide)
    have hv49' : u49 = .int .i64 b0 := hv49
    subst hv49'
    have e49 : a.eval (.tmp 49) = _ := ev_tmp hu49
    refine st3_call ho hwt (f := 42) (vals := #[.agg #[.int .i64 f, .slice Ad n cd], .int .i64 b0]) (Z := fun v w' => ListV w' v (pick (bitB b0) ds n) ∧ Below w.heap.size w w') ?_ ?_ ?_
    · unfold execOp
      simp only [hop, e47, e49, resolve, invoke, Sem.run_bind, Sem.run_pure, Result.andThen_ok, List.map_toArray, List.map_cons, List.map_nil]
      first | rfl | exact enters_of Try.func42 (by kernel_rfl) rfl _ _
    · exact (of_any f Ad n cd ds w (hAd.after hbl) hn b0 hb0).mono fun e w' ⟨v, he, hN⟩ => ⟨v, he, hN.list (pick_wf hokd (by have := hAd.1; omega)), hN.2⟩
    · rintro v w' ⟨h1, h2⟩
      exact hK v w' h1 h2
  | 7, _, hs, ho, hop, hds, hdep, hK =>
    have hop : o.op = .assign (.tmp 46) := Option.some.inj hop
    obtain ⟨u46, hu46, hv46⟩ := hdep 2 (by decide)
    have hv46' : ListV w u46 (pick (bitB y) ns n) := hv46
    have e46 : a.eval (.tmp 46) = _ := ev_tmp hu46
    refine st3 ho hwt (v := _) (w' := w) ?_ (hK _ w hv46 (Below.refl _ _))
    unfold execOp
    rw [hop, ← e46]
    rfl
  | 8, _, hs, ho, hop, hds, hdep, hK =>
    have hop : o.op = .assign (.tmp 50) := Option.some.inj hop
    obtain ⟨u50, hu50, hv50⟩ := hdep 6 (by decide)
    have hv50' : ListV w u50 (pick (bitB b0) ds n) := hv50
    have e50 : a.eval (.tmp 50) = _ := ev_tmp hu50
    refine st3 ho hwt (v := _) (w' := w) ?_ (hK _ w hv50 (Below.refl _ _))
    unfold execOp
    rw [hop, ← e50]
    rfl
  | i + 9, hi, _, _, _, _, _, _ => exact absurd hi (by omega)
def ndR (gc gd : Nat) (f : Int) (A Ad : Option Addr) (n c cd : Nat) (ns ds : List Int) (A8 A9 : Option Addr) (n8 c8 n9 c9 : Nat) (m p q : Nat) : Nat → Value → World → Prop
  | 0 => fun v w => v = .agg #[.int .i64 f, .slice A n c]
  | 1 => fun v w => v = .slice A8 n8 c8
  | 2 => fun v w => v = .int .i64 p
  | 3 => fun v w => v = .agg #[.int .i64 f, .slice A n c]
  | 4 => fun v w => v = .int .i64 m
  | 5 => fun v w => v = .bool true
  | 6 => fun v w => v = .bool true
  | 7 => fun v w => v = undef
  | 8 => fun v w => v = undef
  | 9 => fun v w => v = undef
  | 10 => fun v w => v = undef
  | 11 => fun v w => v = undef
  | 12 => fun v w => v = undef
  | 13 => fun v w => v = (.bool true)
  | _ => fun _ _ => True
def ndD (i : Nat) : Nat := ([51, 52, 53, 54, 55, 56, 57, 58, 59, 60, 61, 62, 63, 64] : List Nat).getD i 0
def ndG : Nat → Option Bool
  | 6 => some true
  | _ => none
def ndS (i : Nat) : Bool := ([7, 8, 9, 10, 11, 12] : List Nat).contains i
theorem nd_gb (gc gd : Nat) (f : Int) (A Ad : Option Addr) (n c cd : Nat) (ns ds : List Int) (A8 A9 : Option Addr) (n8 c8 n9 c9 : Nat) (m p q : Nat) : ∀ i b v w, ndG i = some b → ndR gc gd f A Ad n c cd ns ds A8 A9 n8 c8 n9 c9 m p q i v w → v = .bool b := by
  intro i b v w h hR
  unfold ndG at h
  split at h
  all_goals first | (injection h with h; subst h; exact hR) | cases h
theorem nd_sk (gc gd : Nat) (f : Int) (A Ad : Option Addr) (n c cd : Nat) (ns ds : List Int) (A8 A9 : Option Addr) (n8 c8 n9 c9 : Nat) (m p q : Nat) : ∀ i w, ndS i = true → ndR gc gd f A Ad n c cd ns ds A8 A9 n8 c8 n9 c9 m p q i undef w := by
  intro i w h
  have hm : i ∈ ([7, 8, 9, 10, 11, 12] : List Nat) := by simpa [ndS] using h
  simp only [List.mem_cons, List.not_mem_nil, or_false] at hm
  rcases hm with rfl | rfl | rfl | rfl | rfl | rfl
  all_goals rfl
theorem nd_on (gc gd : Nat) (f : Int) (A Ad : Option Addr) (n c cd : Nat) (ns ds : List Int) (A8 A9 : Option Addr) (n8 c8 n9 c9 : Nat) (m p q : Nat) : ∀ i v w w', ndR gc gd f A Ad n c cd ns ds A8 A9 n8 c8 n9 c9 m p q i v w → Below w.heap.size w w' → ndR gc gd f A Ad n c cd ns ds A8 A9 n8 c8 n9 c9 m p q i v w'
  | 0, v, w, w', h, _ => h
  | 1, v, w, w', h, _ => h
  | 2, v, w, w', h, _ => h
  | 3, v, w, w', h, _ => h
  | 4, v, w, w', h, _ => h
  | 5, v, w, w', h, _ => h
  | 6, v, w, w', h, _ => h
  | 7, v, w, w', h, _ => h
  | 8, v, w, w', h, _ => h
  | 9, v, w, w', h, _ => h
  | 10, v, w, w', h, _ => h
  | 11, v, w, w', h, _ => h
  | 12, v, w, w', h, _ => h
  | 13, v, w, w', h, _ => h
  | i + 14, v, w, w', h, hb => trivial
def ndOps : List Op := [.load 24 (.tmp 7),
  .move (.tmp 11),
  .call { callee := .value (.func 39), args := #[.tmp 51, .tmp 52], argTypes := #[24, 22] },
  .load 24 (.tmp 7),
  .call { callee := .value (.func 26), args := #[.tmp 54], argTypes := #[24] },
  .binOp .lss 3 (.tmp 53) (.tmp 55) 3,
  .move (.tmp 56),
  .load 24 (.tmp 9),
  .move (.tmp 12),
  .call { callee := .value (.func 39), args := #[.tmp 58, .tmp 59], argTypes := #[24, 22] },
  .load 24 (.tmp 9),
  .call { callee := .value (.func 26), args := #[.tmp 61], argTypes := #[24] },
  .binOp .lss 3 (.tmp 60) (.tmp 62) 3,
  .pick (.tmp 57) (.const (.bool true)) (.tmp 63)]
def ndNeeds : Nat → List Nat
  | 0 => []
  | 1 => []
  | 2 => [0, 1]
  | 3 => []
  | 4 => [3]
  | 5 => [2, 4]
  | 6 => [5]
  | 7 => []
  | 8 => []
  | 9 => []
  | 10 => []
  | 11 => []
  | 12 => []
  | 13 => [6, 12]
  | _ => []
set_option maxRecDepth 100000 in
set_option maxHeartbeats 3200000 in
theorem nd_step {ops : Array Oper} {Q : Exit → Act → World → Prop} {a0 : Act} {w0 : World} (gc gd : Nat) (f : Int) (A Ad : Option Addr) (n c cd : Nat) (ns ds : List Int) (A8 A9 : Option Addr) (n8 c8 n9 c9 : Nat) (m p q : Nat) (hops : ((List.range 14).map fun i => (ops[i]?).map Oper.op) = ndOps.map some)
    (hnd : ((List.range 14).all fun i => (ndNeeds i).all fun j => ((ops[i]?).map fun o => o.after.any fun e => Region.binds .any e && (e.on == j)).getD false) = true)
    (x7 : a0.tmps[7]? = some (.pointer (some ⟨gc, 0, none⟩))) (x9 : a0.tmps[9]? = some (.pointer (some ⟨gd, 0, none⟩))) (x11 : a0.tmps[11]? = some (.slice A8 n8 c8)) (x12 : a0.tmps[12]? = some (.slice A9 n9 c9)) (l8 l9 : List Int)
    (hB : Blk w0 gc 24 [.int .i64 f, .slice A n c]) (hBd : Blk w0 gd 24 [.int .i64 f, .slice Ad n cd]) (hA : ArgI w0 A n c ns) (hAd : ArgI w0 Ad n cd ds) (hok : okC f ns = true) (hokd : okC f ds = true) (hn : n ≤ 7) (h8 : ArgI w0 A8 n8 c8 l8) (h9 : ArgI w0 A9 n9 c9 l9) (hm : mostR f ns = m) (hmd : mostR f ds = m) (hp : ((votesR f ns l8 : Nat) : Int) = p) (hq : ((votesR f ds l9 : Nat) : Int) = q) (z1 : (p : Int) < m) :
    ∀ i o, i < 14 → ndS i = false → ops[i]? = some o → o.dst = some (ndD i) → ∀ a w, Base ndD 14 a0 a → Below w0.heap.size w0 w → Region.wanted o (yielded ops a.tmps) = true →
      (∀ j, (o.after.any fun e => Region.binds .any e && (e.on == j)) = true → Has ndD (ndR gc gd f A Ad n c cd ns ds A8 A9 n8 c8 n9 c9 m p q) j a w) →
      ∀ K : Act → World → Prop, (∀ v w', ndR gc gd f A Ad n c cd ns ds A8 A9 n8 c8 n9 c9 m p q i v w' → Below w.heap.size w w' → K (a.put o.dst v) w') → wpOp Try.prog ops Q i K a w := by
  intro i o hi hs ho hds a w hbase hbl hwt hdep0 K hK
  have hop : some o.op = ndOps[i]? := by
    have h1 : ((List.range 14).map fun i => (ops[i]?).map Oper.op)[i]? = some (some o.op) := by
      rw [List.getElem?_map, List.getElem?_range hi]; simp only [Option.map_some, ho]
    rw [hops, List.getElem?_map] at h1
    cases h2 : ndOps[i]? with
    | none => rw [h2] at h1; cases h1
    | some y => rw [h2] at h1; simp only [Option.map_some, Option.some.injEq] at h1; rw [h1]
  have hdep : ∀ j, j ∈ ndNeeds i → Has ndD (ndR gc gd f A Ad n c cd ns ds A8 A9 n8 c8 n9 c9 m p q) j a w := fun j hj => by
    have h1 := List.all_eq_true.1 (List.all_eq_true.1 hnd i (List.mem_range.2 hi)) j hj
    rw [ho] at h1
    exact hdep0 j h1
  clear hdep0 hops hnd
  match i, hi, hs, ho, hop, hds, hdep, hK with
  | 0, _, hs, ho, hop, hds, hdep, hK =>
    have hop : o.op = .load 24 (.tmp 7) := Option.some.inj hop
    have hu7 : a.tmps[7]? = some (.pointer (some ⟨gc, 0, none⟩)) := (hbase.2.2 7 (by decide)).trans x7
    have e7 : a.eval (.tmp 7) = _ := ev_tmp hu7
    refine st3 ho hwt (v := .agg #[.int .i64 f, .slice A n c]) (w' := w) ?_ (hK _ w rfl (Below.refl _ _))
    have k0 : w.cell? ⟨gc, 0, none⟩ = some (.int .i64 f) := (hB.below hbl hB.lt).cell rfl
    have k1 : w.cell? ⟨gc, 1, none⟩ = some (.slice A n c) := (hB.below hbl hB.lt).cell rfl
    unfold execOp
    simp only [hop, Option.map_some, Option.map_none, e7]
    first | rfl | (go_simp; done) | (go_simp; simp; done) | (go_simp; intro h; omega)
  | 1, _, hs, ho, hop, hds, hdep, hK =>
    have hop : o.op = .move (.tmp 11) := Option.some.inj hop
    have hu11 : a.tmps[11]? = some (.slice A8 n8 c8) := (hbase.2.2 11 (by decide)).trans x11
    have e11 : a.eval (.tmp 11) = _ := ev_tmp hu11
    refine st3 ho hwt (v := _) (w' := w) ?_ (hK _ w rfl (Below.refl _ _))
    unfold execOp
    rw [hop, ← e11]
    rfl
  | 2, _, hs, ho, hop, hds, hdep, hK =>
    have hop : o.op = .call { callee := .value (.func 39), args := #[.tmp 51, .tmp 52], argTypes := #[24, 22] } := Option.some.inj hop
    obtain ⟨u51, hu51, hv51⟩ := hdep 0 (by decide)
    have hv51' : u51 = .agg #[.int .i64 f, .slice A n c] := hv51
    subst hv51'
    have e51 : a.eval (.tmp 51) = _ := ev_tmp hu51
    obtain ⟨u52, hu52, hv52⟩ := hdep 1 (by decide)
    have hv52' : u52 = .slice A8 n8 c8 := hv52
    subst hv52'
    have e52 : a.eval (.tmp 52) = _ := ev_tmp hu52
    refine st3_call ho hwt (f := 39) (vals := #[.agg #[.int .i64 f, .slice A n c], .slice A8 n8 c8]) (Z := fun v w' => v = .int .i64 p ∧ Below w.heap.size w w') ?_ ?_ ?_
    · unfold execOp
      simp only [hop, e51, e52, resolve, invoke, Sem.run_bind, Sem.run_pure, Result.andThen_ok, List.map_toArray, List.map_cons, List.map_nil]
      first | rfl | exact enters_of Try.func39 (by kernel_rfl) rfl _ _
    · exact (votes_any f A n c ns w (hA.after hbl) A8 n8 c8 _ (h8.after hbl)).mono fun e w' ⟨he, h2⟩ => ⟨_, he, congrArg (Value.int .i64) hp, h2⟩
    · rintro v w' ⟨h1, h2⟩
      exact hK v w' h1 h2
  | 3, _, hs, ho, hop, hds, hdep, hK =>
    have hop : o.op = .load 24 (.tmp 7) := Option.some.inj hop
    have hu7 : a.tmps[7]? = some (.pointer (some ⟨gc, 0, none⟩)) := (hbase.2.2 7 (by decide)).trans x7
    have e7 : a.eval (.tmp 7) = _ := ev_tmp hu7
    refine st3 ho hwt (v := .agg #[.int .i64 f, .slice A n c]) (w' := w) ?_ (hK _ w rfl (Below.refl _ _))
    have k0 : w.cell? ⟨gc, 0, none⟩ = some (.int .i64 f) := (hB.below hbl hB.lt).cell rfl
    have k1 : w.cell? ⟨gc, 1, none⟩ = some (.slice A n c) := (hB.below hbl hB.lt).cell rfl
    unfold execOp
    simp only [hop, Option.map_some, Option.map_none, e7]
    first | rfl | (go_simp; done) | (go_simp; simp; done) | (go_simp; intro h; omega)
  | 4, _, hs, ho, hop, hds, hdep, hK =>
    have hop : o.op = .call { callee := .value (.func 26), args := #[.tmp 54], argTypes := #[24] } := Option.some.inj hop
    obtain ⟨u54, hu54, hv54⟩ := hdep 3 (by decide)
    have hv54' : u54 = .agg #[.int .i64 f, .slice A n c] := hv54
    subst hv54'
    have e54 : a.eval (.tmp 54) = _ := ev_tmp hu54
    refine st3_call ho hwt (f := 26) (vals := #[.agg #[.int .i64 f, .slice A n c]]) (Z := fun v w' => v = .int .i64 m ∧ Below w.heap.size w w') ?_ ?_ ?_
    · unfold execOp
      simp only [hop, e54, resolve, invoke, Sem.run_bind, Sem.run_pure, Result.andThen_ok, List.map_toArray, List.map_cons, List.map_nil]
      first | rfl | exact enters_of Try.func26 (by kernel_rfl) rfl _ _
    · exact (most_any f A n c ns w (hA.after hbl)).mono fun e w' ⟨he, h2⟩ => ⟨_, he, congrArg (Value.int .i64) hm, h2⟩
    · rintro v w' ⟨h1, h2⟩
      exact hK v w' h1 h2
  | 5, _, hs, ho, hop, hds, hdep, hK =>
    have hop : o.op = .binOp .lss 3 (.tmp 53) (.tmp 55) 3 := Option.some.inj hop
    obtain ⟨u53, hu53, hv53⟩ := hdep 2 (by decide)
    have hv53' : u53 = .int .i64 p := hv53
    subst hv53'
    have e53 : a.eval (.tmp 53) = _ := ev_tmp hu53
    obtain ⟨u55, hu55, hv55⟩ := hdep 4 (by decide)
    have hv55' : u55 = .int .i64 m := hv55
    subst hv55'
    have e55 : a.eval (.tmp 55) = _ := ev_tmp hu55
    refine st3 ho hwt (v := .bool true) (w' := w) ?_ (hK _ w rfl (Below.refl _ _))
    unfold execOp
    simp only [hop, e53, e55]
    first | rfl | (go_simp; done) | (go_simp; simp; done) | (go_simp; intro h; omega)
  | 6, _, hs, ho, hop, hds, hdep, hK =>
    have hop : o.op = .move (.tmp 56) := Option.some.inj hop
    obtain ⟨u56, hu56, hv56⟩ := hdep 5 (by decide)
    have hv56' : u56 = .bool true := hv56
    subst hv56'
    have e56 : a.eval (.tmp 56) = _ := ev_tmp hu56
    refine st3 ho hwt (v := _) (w' := w) ?_ (hK _ w rfl (Below.refl _ _))
    unfold execOp
    rw [hop, ← e56]
    rfl
  | 7, _, hs, ho, hop, hds, hdep, hK =>
    exact absurd hs (by decide)
  | 8, _, hs, ho, hop, hds, hdep, hK =>
    exact absurd hs (by decide)
  | 9, _, hs, ho, hop, hds, hdep, hK =>
    exact absurd hs (by decide)
  | 10, _, hs, ho, hop, hds, hdep, hK =>
    exact absurd hs (by decide)
  | 11, _, hs, ho, hop, hds, hdep, hK =>
    exact absurd hs (by decide)
  | 12, _, hs, ho, hop, hds, hdep, hK =>
    exact absurd hs (by decide)
  | 13, _, hs, ho, hop, hds, hdep, hK =>
    have hop : o.op = .pick (.tmp 57) (.const (.bool true)) (.tmp 63) := Option.some.inj hop
    obtain ⟨u57, hu57, hv57⟩ := hdep 6 (by decide)
    have hv57' : u57 = .bool true := hv57
    subst hv57'
    have e57 : a.eval (.tmp 57) = _ := ev_tmp hu57
    obtain ⟨u63, hu63, hv63⟩ := hdep 12 (by decide)
    have hv63' : u63 = undef := hv63
    subst hv63'
    have e63 : a.eval (.tmp 63) = _ := ev_tmp hu63
    refine st3 ho hwt (v := (.bool true)) (w' := w) ?_ (hK _ w rfl (Below.refl _ _))
    unfold execOp
    simp only [hop, e57, e63]
    first | rfl | (go_simp; done) | (go_simp; simp; done) | (go_simp; intro h; omega)
  | i + 14, hi, _, _, _, _, _, _ => exact absurd hi (by omega)
def neR (gc gd : Nat) (f : Int) (A Ad : Option Addr) (n c cd : Nat) (ns ds : List Int) (A8 A9 : Option Addr) (n8 c8 n9 c9 : Nat) (m p q : Nat) : Nat → Value → World → Prop
  | 0 => fun v w => v = .agg #[.int .i64 f, .slice A n c]
  | 1 => fun v w => v = .slice A8 n8 c8
  | 2 => fun v w => v = .int .i64 p
  | 3 => fun v w => v = .agg #[.int .i64 f, .slice A n c]
  | 4 => fun v w => v = .int .i64 m
  | 5 => fun v w => v = .bool false
  | 6 => fun v w => v = .bool false
  | 7 => fun v w => v = .agg #[.int .i64 f, .slice Ad n cd]
  | 8 => fun v w => v = .slice A9 n9 c9
  | 9 => fun v w => v = .int .i64 q
  | 10 => fun v w => v = .agg #[.int .i64 f, .slice Ad n cd]
  | 11 => fun v w => v = .int .i64 m
  | 12 => fun v w => v = .bool true
  | 13 => fun v w => v = .bool true
  | _ => fun _ _ => True
def neD (i : Nat) : Nat := ([51, 52, 53, 54, 55, 56, 57, 58, 59, 60, 61, 62, 63, 64] : List Nat).getD i 0
def neG : Nat → Option Bool
  | 6 => some false
  | _ => none
def neS (i : Nat) : Bool := ([] : List Nat).contains i
theorem ne_gb (gc gd : Nat) (f : Int) (A Ad : Option Addr) (n c cd : Nat) (ns ds : List Int) (A8 A9 : Option Addr) (n8 c8 n9 c9 : Nat) (m p q : Nat) : ∀ i b v w, neG i = some b → neR gc gd f A Ad n c cd ns ds A8 A9 n8 c8 n9 c9 m p q i v w → v = .bool b := by
  intro i b v w h hR
  unfold neG at h
  split at h
  all_goals first | (injection h with h; subst h; exact hR) | cases h
theorem ne_sk (gc gd : Nat) (f : Int) (A Ad : Option Addr) (n c cd : Nat) (ns ds : List Int) (A8 A9 : Option Addr) (n8 c8 n9 c9 : Nat) (m p q : Nat) : ∀ i w, neS i = true → neR gc gd f A Ad n c cd ns ds A8 A9 n8 c8 n9 c9 m p q i undef w := by
  intro i w h
  simp [neS] at h
theorem ne_on (gc gd : Nat) (f : Int) (A Ad : Option Addr) (n c cd : Nat) (ns ds : List Int) (A8 A9 : Option Addr) (n8 c8 n9 c9 : Nat) (m p q : Nat) : ∀ i v w w', neR gc gd f A Ad n c cd ns ds A8 A9 n8 c8 n9 c9 m p q i v w → Below w.heap.size w w' → neR gc gd f A Ad n c cd ns ds A8 A9 n8 c8 n9 c9 m p q i v w'
  | 0, v, w, w', h, _ => h
  | 1, v, w, w', h, _ => h
  | 2, v, w, w', h, _ => h
  | 3, v, w, w', h, _ => h
  | 4, v, w, w', h, _ => h
  | 5, v, w, w', h, _ => h
  | 6, v, w, w', h, _ => h
  | 7, v, w, w', h, _ => h
  | 8, v, w, w', h, _ => h
  | 9, v, w, w', h, _ => h
  | 10, v, w, w', h, _ => h
  | 11, v, w, w', h, _ => h
  | 12, v, w, w', h, _ => h
  | 13, v, w, w', h, _ => h
  | i + 14, v, w, w', h, hb => trivial
def neOps : List Op := [.load 24 (.tmp 7),
  .move (.tmp 11),
  .call { callee := .value (.func 39), args := #[.tmp 51, .tmp 52], argTypes := #[24, 22] },
  .load 24 (.tmp 7),
  .call { callee := .value (.func 26), args := #[.tmp 54], argTypes := #[24] },
  .binOp .lss 3 (.tmp 53) (.tmp 55) 3,
  .move (.tmp 56),
  .load 24 (.tmp 9),
  .move (.tmp 12),
  .call { callee := .value (.func 39), args := #[.tmp 58, .tmp 59], argTypes := #[24, 22] },
  .load 24 (.tmp 9),
  .call { callee := .value (.func 26), args := #[.tmp 61], argTypes := #[24] },
  .binOp .lss 3 (.tmp 60) (.tmp 62) 3,
  .pick (.tmp 57) (.const (.bool true)) (.tmp 63)]
def neNeeds : Nat → List Nat
  | 0 => []
  | 1 => []
  | 2 => [0, 1]
  | 3 => []
  | 4 => [3]
  | 5 => [2, 4]
  | 6 => [5]
  | 7 => []
  | 8 => []
  | 9 => [7, 8]
  | 10 => []
  | 11 => [10]
  | 12 => [9, 11]
  | 13 => [6, 12]
  | _ => []
set_option maxRecDepth 100000 in
set_option maxHeartbeats 3200000 in
theorem ne_step {ops : Array Oper} {Q : Exit → Act → World → Prop} {a0 : Act} {w0 : World} (gc gd : Nat) (f : Int) (A Ad : Option Addr) (n c cd : Nat) (ns ds : List Int) (A8 A9 : Option Addr) (n8 c8 n9 c9 : Nat) (m p q : Nat) (hops : ((List.range 14).map fun i => (ops[i]?).map Oper.op) = neOps.map some)
    (hnd : ((List.range 14).all fun i => (neNeeds i).all fun j => ((ops[i]?).map fun o => o.after.any fun e => Region.binds .any e && (e.on == j)).getD false) = true)
    (x7 : a0.tmps[7]? = some (.pointer (some ⟨gc, 0, none⟩))) (x9 : a0.tmps[9]? = some (.pointer (some ⟨gd, 0, none⟩))) (x11 : a0.tmps[11]? = some (.slice A8 n8 c8)) (x12 : a0.tmps[12]? = some (.slice A9 n9 c9)) (l8 l9 : List Int)
    (hB : Blk w0 gc 24 [.int .i64 f, .slice A n c]) (hBd : Blk w0 gd 24 [.int .i64 f, .slice Ad n cd]) (hA : ArgI w0 A n c ns) (hAd : ArgI w0 Ad n cd ds) (hok : okC f ns = true) (hokd : okC f ds = true) (hn : n ≤ 7) (h8 : ArgI w0 A8 n8 c8 l8) (h9 : ArgI w0 A9 n9 c9 l9) (hm : mostR f ns = m) (hmd : mostR f ds = m) (hp : ((votesR f ns l8 : Nat) : Int) = p) (hq : ((votesR f ds l9 : Nat) : Int) = q) (z1 : ¬ (p : Int) < m) (z2 : (q : Int) < m) :
    ∀ i o, i < 14 → neS i = false → ops[i]? = some o → o.dst = some (neD i) → ∀ a w, Base neD 14 a0 a → Below w0.heap.size w0 w → Region.wanted o (yielded ops a.tmps) = true →
      (∀ j, (o.after.any fun e => Region.binds .any e && (e.on == j)) = true → Has neD (neR gc gd f A Ad n c cd ns ds A8 A9 n8 c8 n9 c9 m p q) j a w) →
      ∀ K : Act → World → Prop, (∀ v w', neR gc gd f A Ad n c cd ns ds A8 A9 n8 c8 n9 c9 m p q i v w' → Below w.heap.size w w' → K (a.put o.dst v) w') → wpOp Try.prog ops Q i K a w := by
  intro i o hi hs ho hds a w hbase hbl hwt hdep0 K hK
  have hop : some o.op = neOps[i]? := by
    have h1 : ((List.range 14).map fun i => (ops[i]?).map Oper.op)[i]? = some (some o.op) := by
      rw [List.getElem?_map, List.getElem?_range hi]; simp only [Option.map_some, ho]
    rw [hops, List.getElem?_map] at h1
    cases h2 : neOps[i]? with
    | none => rw [h2] at h1; cases h1
    | some y => rw [h2] at h1; simp only [Option.map_some, Option.some.injEq] at h1; rw [h1]
  have hdep : ∀ j, j ∈ neNeeds i → Has neD (neR gc gd f A Ad n c cd ns ds A8 A9 n8 c8 n9 c9 m p q) j a w := fun j hj => by
    have h1 := List.all_eq_true.1 (List.all_eq_true.1 hnd i (List.mem_range.2 hi)) j hj
    rw [ho] at h1
    exact hdep0 j h1
  clear hdep0 hops hnd
  match i, hi, hs, ho, hop, hds, hdep, hK with
  | 0, _, hs, ho, hop, hds, hdep, hK =>
    have hop : o.op = .load 24 (.tmp 7) := Option.some.inj hop
    have hu7 : a.tmps[7]? = some (.pointer (some ⟨gc, 0, none⟩)) := (hbase.2.2 7 (by decide)).trans x7
    have e7 : a.eval (.tmp 7) = _ := ev_tmp hu7
    refine st3 ho hwt (v := .agg #[.int .i64 f, .slice A n c]) (w' := w) ?_ (hK _ w rfl (Below.refl _ _))
    have k0 : w.cell? ⟨gc, 0, none⟩ = some (.int .i64 f) := (hB.below hbl hB.lt).cell rfl
    have k1 : w.cell? ⟨gc, 1, none⟩ = some (.slice A n c) := (hB.below hbl hB.lt).cell rfl
    unfold execOp
    simp only [hop, Option.map_some, Option.map_none, e7]
    first | rfl | (go_simp; done) | (go_simp; simp; done) | (go_simp; intro h; omega)
  | 1, _, hs, ho, hop, hds, hdep, hK =>
    have hop : o.op = .move (.tmp 11) := Option.some.inj hop
    have hu11 : a.tmps[11]? = some (.slice A8 n8 c8) := (hbase.2.2 11 (by decide)).trans x11
    have e11 : a.eval (.tmp 11) = _ := ev_tmp hu11
    refine st3 ho hwt (v := _) (w' := w) ?_ (hK _ w rfl (Below.refl _ _))
    unfold execOp
    rw [hop, ← e11]
    rfl
  | 2, _, hs, ho, hop, hds, hdep, hK =>
    have hop : o.op = .call { callee := .value (.func 39), args := #[.tmp 51, .tmp 52], argTypes := #[24, 22] } := Option.some.inj hop
    obtain ⟨u51, hu51, hv51⟩ := hdep 0 (by decide)
    have hv51' : u51 = .agg #[.int .i64 f, .slice A n c] := hv51
    subst hv51'
    have e51 : a.eval (.tmp 51) = _ := ev_tmp hu51
    obtain ⟨u52, hu52, hv52⟩ := hdep 1 (by decide)
    have hv52' : u52 = .slice A8 n8 c8 := hv52
    subst hv52'
    have e52 : a.eval (.tmp 52) = _ := ev_tmp hu52
    refine st3_call ho hwt (f := 39) (vals := #[.agg #[.int .i64 f, .slice A n c], .slice A8 n8 c8]) (Z := fun v w' => v = .int .i64 p ∧ Below w.heap.size w w') ?_ ?_ ?_
    · unfold execOp
      simp only [hop, e51, e52, resolve, invoke, Sem.run_bind, Sem.run_pure, Result.andThen_ok, List.map_toArray, List.map_cons, List.map_nil]
      first | rfl | exact enters_of Try.func39 (by kernel_rfl) rfl _ _
    · exact (votes_any f A n c ns w (hA.after hbl) A8 n8 c8 _ (h8.after hbl)).mono fun e w' ⟨he, h2⟩ => ⟨_, he, congrArg (Value.int .i64) hp, h2⟩
    · rintro v w' ⟨h1, h2⟩
      exact hK v w' h1 h2
  | 3, _, hs, ho, hop, hds, hdep, hK =>
    have hop : o.op = .load 24 (.tmp 7) := Option.some.inj hop
    have hu7 : a.tmps[7]? = some (.pointer (some ⟨gc, 0, none⟩)) := (hbase.2.2 7 (by decide)).trans x7
    have e7 : a.eval (.tmp 7) = _ := ev_tmp hu7
    refine st3 ho hwt (v := .agg #[.int .i64 f, .slice A n c]) (w' := w) ?_ (hK _ w rfl (Below.refl _ _))
    have k0 : w.cell? ⟨gc, 0, none⟩ = some (.int .i64 f) := (hB.below hbl hB.lt).cell rfl
    have k1 : w.cell? ⟨gc, 1, none⟩ = some (.slice A n c) := (hB.below hbl hB.lt).cell rfl
    unfold execOp
    simp only [hop, Option.map_some, Option.map_none, e7]
    first | rfl | (go_simp; done) | (go_simp; simp; done) | (go_simp; intro h; omega)
  | 4, _, hs, ho, hop, hds, hdep, hK =>
    have hop : o.op = .call { callee := .value (.func 26), args := #[.tmp 54], argTypes := #[24] } := Option.some.inj hop
    obtain ⟨u54, hu54, hv54⟩ := hdep 3 (by decide)
    have hv54' : u54 = .agg #[.int .i64 f, .slice A n c] := hv54
    subst hv54'
    have e54 : a.eval (.tmp 54) = _ := ev_tmp hu54
    refine st3_call ho hwt (f := 26) (vals := #[.agg #[.int .i64 f, .slice A n c]]) (Z := fun v w' => v = .int .i64 m ∧ Below w.heap.size w w') ?_ ?_ ?_
    · unfold execOp
      simp only [hop, e54, resolve, invoke, Sem.run_bind, Sem.run_pure, Result.andThen_ok, List.map_toArray, List.map_cons, List.map_nil]
      first | rfl | exact enters_of Try.func26 (by kernel_rfl) rfl _ _
    · exact (most_any f A n c ns w (hA.after hbl)).mono fun e w' ⟨he, h2⟩ => ⟨_, he, congrArg (Value.int .i64) hm, h2⟩
    · rintro v w' ⟨h1, h2⟩
      exact hK v w' h1 h2
  | 5, _, hs, ho, hop, hds, hdep, hK =>
    have hop : o.op = .binOp .lss 3 (.tmp 53) (.tmp 55) 3 := Option.some.inj hop
    obtain ⟨u53, hu53, hv53⟩ := hdep 2 (by decide)
    have hv53' : u53 = .int .i64 p := hv53
    subst hv53'
    have e53 : a.eval (.tmp 53) = _ := ev_tmp hu53
    obtain ⟨u55, hu55, hv55⟩ := hdep 4 (by decide)
    have hv55' : u55 = .int .i64 m := hv55
    subst hv55'
    have e55 : a.eval (.tmp 55) = _ := ev_tmp hu55
    refine st3 ho hwt (v := .bool false) (w' := w) ?_ (hK _ w rfl (Below.refl _ _))
    unfold execOp
    simp only [hop, e53, e55]
    first | rfl | (go_simp; done) | (go_simp; simp; done) | (go_simp; intro h; omega)
  | 6, _, hs, ho, hop, hds, hdep, hK =>
    have hop : o.op = .move (.tmp 56) := Option.some.inj hop
    obtain ⟨u56, hu56, hv56⟩ := hdep 5 (by decide)
    have hv56' : u56 = .bool false := hv56
    subst hv56'
    have e56 : a.eval (.tmp 56) = _ := ev_tmp hu56
    refine st3 ho hwt (v := _) (w' := w) ?_ (hK _ w rfl (Below.refl _ _))
    unfold execOp
    rw [hop, ← e56]
    rfl
  | 7, _, hs, ho, hop, hds, hdep, hK =>
    have hop : o.op = .load 24 (.tmp 9) := Option.some.inj hop
    have hu9 : a.tmps[9]? = some (.pointer (some ⟨gd, 0, none⟩)) := (hbase.2.2 9 (by decide)).trans x9
    have e9 : a.eval (.tmp 9) = _ := ev_tmp hu9
    refine st3 ho hwt (v := .agg #[.int .i64 f, .slice Ad n cd]) (w' := w) ?_ (hK _ w rfl (Below.refl _ _))
    have k0 : w.cell? ⟨gd, 0, none⟩ = some (.int .i64 f) := (hBd.below hbl hBd.lt).cell rfl
    have k1 : w.cell? ⟨gd, 1, none⟩ = some (.slice Ad n cd) := (hBd.below hbl hBd.lt).cell rfl
    unfold execOp
    simp only [hop, Option.map_some, Option.map_none, e9]
    first | rfl | (go_simp; done) | (go_simp; simp; done) | (go_simp; intro h; omega)
  | 8, _, hs, ho, hop, hds, hdep, hK =>
    have hop : o.op = .move (.tmp 12) := Option.some.inj hop
    have hu12 : a.tmps[12]? = some (.slice A9 n9 c9) := (hbase.2.2 12 (by decide)).trans x12
    have e12 : a.eval (.tmp 12) = _ := ev_tmp hu12
    refine st3 ho hwt (v := _) (w' := w) ?_ (hK _ w rfl (Below.refl _ _))
    unfold execOp
    rw [hop, ← e12]
    rfl
  | 9, _, hs, ho, hop, hds, hdep, hK =>
    have hop : o.op = .call { callee := .value (.func 39), args := #[.tmp 58, .tmp 59], argTypes := #[24, 22] } := Option.some.inj hop
    obtain ⟨u58, hu58, hv58⟩ := hdep 7 (by decide)
    have hv58' : u58 = .agg #[.int .i64 f, .slice Ad n cd] := hv58
    subst hv58'
    have e58 : a.eval (.tmp 58) = _ := ev_tmp hu58
    obtain ⟨u59, hu59, hv59⟩ := hdep 8 (by decide)
    have hv59' : u59 = .slice A9 n9 c9 := hv59
    subst hv59'
    have e59 : a.eval (.tmp 59) = _ := ev_tmp hu59
    refine st3_call ho hwt (f := 39) (vals := #[.agg #[.int .i64 f, .slice Ad n cd], .slice A9 n9 c9]) (Z := fun v w' => v = .int .i64 q ∧ Below w.heap.size w w') ?_ ?_ ?_
    · unfold execOp
      simp only [hop, e58, e59, resolve, invoke, Sem.run_bind, Sem.run_pure, Result.andThen_ok, List.map_toArray, List.map_cons, List.map_nil]
      first | rfl | exact enters_of Try.func39 (by kernel_rfl) rfl _ _
    · exact (votes_any f Ad n cd ds w (hAd.after hbl) A9 n9 c9 _ (h9.after hbl)).mono fun e w' ⟨he, h2⟩ => ⟨_, he, congrArg (Value.int .i64) hq, h2⟩
    · rintro v w' ⟨h1, h2⟩
      exact hK v w' h1 h2
  | 10, _, hs, ho, hop, hds, hdep, hK =>
    have hop : o.op = .load 24 (.tmp 9) := Option.some.inj hop
    have hu9 : a.tmps[9]? = some (.pointer (some ⟨gd, 0, none⟩)) := (hbase.2.2 9 (by decide)).trans x9
    have e9 : a.eval (.tmp 9) = _ := ev_tmp hu9
    refine st3 ho hwt (v := .agg #[.int .i64 f, .slice Ad n cd]) (w' := w) ?_ (hK _ w rfl (Below.refl _ _))
    have k0 : w.cell? ⟨gd, 0, none⟩ = some (.int .i64 f) := (hBd.below hbl hBd.lt).cell rfl
    have k1 : w.cell? ⟨gd, 1, none⟩ = some (.slice Ad n cd) := (hBd.below hbl hBd.lt).cell rfl
    unfold execOp
    simp only [hop, Option.map_some, Option.map_none, e9]
    first | rfl | (go_simp; done) | (go_simp; simp; done) | (go_simp; intro h; omega)
  | 11, _, hs, ho, hop, hds, hdep, hK =>
    have hop : o.op = .call { callee := .value (.func 26), args := #[.tmp 61], argTypes := #[24] } := Option.some.inj hop
    obtain ⟨u61, hu61, hv61⟩ := hdep 10 (by decide)
    have hv61' : u61 = .agg #[.int .i64 f, .slice Ad n cd] := hv61
    subst hv61'
    have e61 : a.eval (.tmp 61) = _ := ev_tmp hu61
    refine st3_call ho hwt (f := 26) (vals := #[.agg #[.int .i64 f, .slice Ad n cd]]) (Z := fun v w' => v = .int .i64 m ∧ Below w.heap.size w w') ?_ ?_ ?_
    · unfold execOp
      simp only [hop, e61, resolve, invoke, Sem.run_bind, Sem.run_pure, Result.andThen_ok, List.map_toArray, List.map_cons, List.map_nil]
      first | rfl | exact enters_of Try.func26 (by kernel_rfl) rfl _ _
    · exact (most_any f Ad n cd ds w (hAd.after hbl)).mono fun e w' ⟨he, h2⟩ => ⟨_, he, congrArg (Value.int .i64) hmd, h2⟩
    · rintro v w' ⟨h1, h2⟩
      exact hK v w' h1 h2
  | 12, _, hs, ho, hop, hds, hdep, hK =>
    have hop : o.op = .binOp .lss 3 (.tmp 60) (.tmp 62) 3 := Option.some.inj hop
    obtain ⟨u60, hu60, hv60⟩ := hdep 9 (by decide)
    have hv60' : u60 = .int .i64 q := hv60
    subst hv60'
    have e60 : a.eval (.tmp 60) = _ := ev_tmp hu60
    obtain ⟨u62, hu62, hv62⟩ := hdep 11 (by decide)
    have hv62' : u62 = .int .i64 m := hv62
    subst hv62'
    have e62 : a.eval (.tmp 62) = _ := ev_tmp hu62
    refine st3 ho hwt (v := .bool true) (w' := w) ?_ (hK _ w rfl (Below.refl _ _))
    unfold execOp
    simp only [hop, e60, e62]
    first | rfl | (go_simp; done) | (go_simp; simp; done) | (go_simp; intro h; omega)
  | 13, _, hs, ho, hop, hds, hdep, hK =>
    have hop : o.op = .pick (.tmp 57) (.const (.bool true)) (.tmp 63) := Option.some.inj hop
    obtain ⟨u57, hu57, hv57⟩ := hdep 6 (by decide)
    have hv57' : u57 = .bool false := hv57
    subst hv57'
    have e57 : a.eval (.tmp 57) = _ := ev_tmp hu57
    obtain ⟨u63, hu63, hv63⟩ := hdep 12 (by decide)
    have hv63' : u63 = .bool true := hv63
    subst hv63'
    have e63 : a.eval (.tmp 63) = _ := ev_tmp hu63
    refine st3 ho hwt (v := .bool true) (w' := w) ?_ (hK _ w rfl (Below.refl _ _))
    unfold execOp
    simp only [hop, e57, e63]
    first | rfl | (go_simp; done) | (go_simp; simp; done) | (go_simp; intro h; omega)
  | i + 14, hi, _, _, _, _, _, _ => exact absurd hi (by omega)
def nfR (gc gd : Nat) (f : Int) (A Ad : Option Addr) (n c cd : Nat) (ns ds : List Int) (A8 A9 : Option Addr) (n8 c8 n9 c9 : Nat) (m p q : Nat) : Nat → Value → World → Prop
  | 0 => fun v w => v = .agg #[.int .i64 f, .slice A n c]
  | 1 => fun v w => v = .slice A8 n8 c8
  | 2 => fun v w => v = .int .i64 p
  | 3 => fun v w => v = .agg #[.int .i64 f, .slice A n c]
  | 4 => fun v w => v = .int .i64 m
  | 5 => fun v w => v = .bool false
  | 6 => fun v w => v = .bool false
  | 7 => fun v w => v = .agg #[.int .i64 f, .slice Ad n cd]
  | 8 => fun v w => v = .slice A9 n9 c9
  | 9 => fun v w => v = .int .i64 q
  | 10 => fun v w => v = .agg #[.int .i64 f, .slice Ad n cd]
  | 11 => fun v w => v = .int .i64 m
  | 12 => fun v w => v = .bool false
  | 13 => fun v w => v = .bool false
  | _ => fun _ _ => True
def nfD (i : Nat) : Nat := ([51, 52, 53, 54, 55, 56, 57, 58, 59, 60, 61, 62, 63, 64] : List Nat).getD i 0
def nfG : Nat → Option Bool
  | 6 => some false
  | _ => none
def nfS (i : Nat) : Bool := ([] : List Nat).contains i
theorem nf_gb (gc gd : Nat) (f : Int) (A Ad : Option Addr) (n c cd : Nat) (ns ds : List Int) (A8 A9 : Option Addr) (n8 c8 n9 c9 : Nat) (m p q : Nat) : ∀ i b v w, nfG i = some b → nfR gc gd f A Ad n c cd ns ds A8 A9 n8 c8 n9 c9 m p q i v w → v = .bool b := by
  intro i b v w h hR
  unfold nfG at h
  split at h
  all_goals first | (injection h with h; subst h; exact hR) | cases h
theorem nf_sk (gc gd : Nat) (f : Int) (A Ad : Option Addr) (n c cd : Nat) (ns ds : List Int) (A8 A9 : Option Addr) (n8 c8 n9 c9 : Nat) (m p q : Nat) : ∀ i w, nfS i = true → nfR gc gd f A Ad n c cd ns ds A8 A9 n8 c8 n9 c9 m p q i undef w := by
  intro i w h
  simp [nfS] at h
theorem nf_on (gc gd : Nat) (f : Int) (A Ad : Option Addr) (n c cd : Nat) (ns ds : List Int) (A8 A9 : Option Addr) (n8 c8 n9 c9 : Nat) (m p q : Nat) : ∀ i v w w', nfR gc gd f A Ad n c cd ns ds A8 A9 n8 c8 n9 c9 m p q i v w → Below w.heap.size w w' → nfR gc gd f A Ad n c cd ns ds A8 A9 n8 c8 n9 c9 m p q i v w'
  | 0, v, w, w', h, _ => h
  | 1, v, w, w', h, _ => h
  | 2, v, w, w', h, _ => h
  | 3, v, w, w', h, _ => h
  | 4, v, w, w', h, _ => h
  | 5, v, w, w', h, _ => h
  | 6, v, w, w', h, _ => h
  | 7, v, w, w', h, _ => h
  | 8, v, w, w', h, _ => h
  | 9, v, w, w', h, _ => h
  | 10, v, w, w', h, _ => h
  | 11, v, w, w', h, _ => h
  | 12, v, w, w', h, _ => h
  | 13, v, w, w', h, _ => h
  | i + 14, v, w, w', h, hb => trivial
def nfOps : List Op := [.load 24 (.tmp 7),
  .move (.tmp 11),
  .call { callee := .value (.func 39), args := #[.tmp 51, .tmp 52], argTypes := #[24, 22] },
  .load 24 (.tmp 7),
  .call { callee := .value (.func 26), args := #[.tmp 54], argTypes := #[24] },
  .binOp .lss 3 (.tmp 53) (.tmp 55) 3,
  .move (.tmp 56),
  .load 24 (.tmp 9),
  .move (.tmp 12),
  .call { callee := .value (.func 39), args := #[.tmp 58, .tmp 59], argTypes := #[24, 22] },
  .load 24 (.tmp 9),
  .call { callee := .value (.func 26), args := #[.tmp 61], argTypes := #[24] },
  .binOp .lss 3 (.tmp 60) (.tmp 62) 3,
  .pick (.tmp 57) (.const (.bool true)) (.tmp 63)]
def nfNeeds : Nat → List Nat
  | 0 => []
  | 1 => []
  | 2 => [0, 1]
  | 3 => []
  | 4 => [3]
  | 5 => [2, 4]
  | 6 => [5]
  | 7 => []
  | 8 => []
  | 9 => [7, 8]
  | 10 => []
  | 11 => [10]
  | 12 => [9, 11]
  | 13 => [6, 12]
  | _ => []
set_option maxRecDepth 100000 in
set_option maxHeartbeats 3200000 in
theorem nf_step {ops : Array Oper} {Q : Exit → Act → World → Prop} {a0 : Act} {w0 : World} (gc gd : Nat) (f : Int) (A Ad : Option Addr) (n c cd : Nat) (ns ds : List Int) (A8 A9 : Option Addr) (n8 c8 n9 c9 : Nat) (m p q : Nat) (hops : ((List.range 14).map fun i => (ops[i]?).map Oper.op) = nfOps.map some)
    (hnd : ((List.range 14).all fun i => (nfNeeds i).all fun j => ((ops[i]?).map fun o => o.after.any fun e => Region.binds .any e && (e.on == j)).getD false) = true)
    (x7 : a0.tmps[7]? = some (.pointer (some ⟨gc, 0, none⟩))) (x9 : a0.tmps[9]? = some (.pointer (some ⟨gd, 0, none⟩))) (x11 : a0.tmps[11]? = some (.slice A8 n8 c8)) (x12 : a0.tmps[12]? = some (.slice A9 n9 c9)) (l8 l9 : List Int)
    (hB : Blk w0 gc 24 [.int .i64 f, .slice A n c]) (hBd : Blk w0 gd 24 [.int .i64 f, .slice Ad n cd]) (hA : ArgI w0 A n c ns) (hAd : ArgI w0 Ad n cd ds) (hok : okC f ns = true) (hokd : okC f ds = true) (hn : n ≤ 7) (h8 : ArgI w0 A8 n8 c8 l8) (h9 : ArgI w0 A9 n9 c9 l9) (hm : mostR f ns = m) (hmd : mostR f ds = m) (hp : ((votesR f ns l8 : Nat) : Int) = p) (hq : ((votesR f ds l9 : Nat) : Int) = q) (z1 : ¬ (p : Int) < m) (z2 : ¬ (q : Int) < m) :
    ∀ i o, i < 14 → nfS i = false → ops[i]? = some o → o.dst = some (nfD i) → ∀ a w, Base nfD 14 a0 a → Below w0.heap.size w0 w → Region.wanted o (yielded ops a.tmps) = true →
      (∀ j, (o.after.any fun e => Region.binds .any e && (e.on == j)) = true → Has nfD (nfR gc gd f A Ad n c cd ns ds A8 A9 n8 c8 n9 c9 m p q) j a w) →
      ∀ K : Act → World → Prop, (∀ v w', nfR gc gd f A Ad n c cd ns ds A8 A9 n8 c8 n9 c9 m p q i v w' → Below w.heap.size w w' → K (a.put o.dst v) w') → wpOp Try.prog ops Q i K a w := by
  intro i o hi hs ho hds a w hbase hbl hwt hdep0 K hK
  have hop : some o.op = nfOps[i]? := by
    have h1 : ((List.range 14).map fun i => (ops[i]?).map Oper.op)[i]? = some (some o.op) := by
      rw [List.getElem?_map, List.getElem?_range hi]; simp only [Option.map_some, ho]
    rw [hops, List.getElem?_map] at h1
    cases h2 : nfOps[i]? with
    | none => rw [h2] at h1; cases h1
    | some y => rw [h2] at h1; simp only [Option.map_some, Option.some.injEq] at h1; rw [h1]
  have hdep : ∀ j, j ∈ nfNeeds i → Has nfD (nfR gc gd f A Ad n c cd ns ds A8 A9 n8 c8 n9 c9 m p q) j a w := fun j hj => by
    have h1 := List.all_eq_true.1 (List.all_eq_true.1 hnd i (List.mem_range.2 hi)) j hj
    rw [ho] at h1
    exact hdep0 j h1
  clear hdep0 hops hnd
  match i, hi, hs, ho, hop, hds, hdep, hK with
  | 0, _, hs, ho, hop, hds, hdep, hK =>
    have hop : o.op = .load 24 (.tmp 7) := Option.some.inj hop
    have hu7 : a.tmps[7]? = some (.pointer (some ⟨gc, 0, none⟩)) := (hbase.2.2 7 (by decide)).trans x7
    have e7 : a.eval (.tmp 7) = _ := ev_tmp hu7
    refine st3 ho hwt (v := .agg #[.int .i64 f, .slice A n c]) (w' := w) ?_ (hK _ w rfl (Below.refl _ _))
    have k0 : w.cell? ⟨gc, 0, none⟩ = some (.int .i64 f) := (hB.below hbl hB.lt).cell rfl
    have k1 : w.cell? ⟨gc, 1, none⟩ = some (.slice A n c) := (hB.below hbl hB.lt).cell rfl
    unfold execOp
    simp only [hop, Option.map_some, Option.map_none, e7]
    first | rfl | (go_simp; done) | (go_simp; simp; done) | (go_simp; intro h; omega)
  | 1, _, hs, ho, hop, hds, hdep, hK =>
    have hop : o.op = .move (.tmp 11) := Option.some.inj hop
    have hu11 : a.tmps[11]? = some (.slice A8 n8 c8) := (hbase.2.2 11 (by decide)).trans x11
    have e11 : a.eval (.tmp 11) = _ := ev_tmp hu11
    refine st3 ho hwt (v := _) (w' := w) ?_ (hK _ w rfl (Below.refl _ _))
    unfold execOp
    rw [hop, ← e11]
    rfl
  | 2, _, hs, ho, hop, hds, hdep, hK =>
    have hop : o.op = .call { callee := .value (.func 39), args := #[.tmp 51, .tmp 52], argTypes := #[24, 22] } := Option.some.inj hop
    obtain ⟨u51, hu51, hv51⟩ := hdep 0 (by decide)
    have hv51' : u51 = .agg #[.int .i64 f, .slice A n c] := hv51
    subst hv51'
    have e51 : a.eval (.tmp 51) = _ := ev_tmp hu51
    obtain ⟨u52, hu52, hv52⟩ := hdep 1 (by decide)
    have hv52' : u52 = .slice A8 n8 c8 := hv52
    subst hv52'
    have e52 : a.eval (.tmp 52) = _ := ev_tmp hu52
    refine st3_call ho hwt (f := 39) (vals := #[.agg #[.int .i64 f, .slice A n c], .slice A8 n8 c8]) (Z := fun v w' => v = .int .i64 p ∧ Below w.heap.size w w') ?_ ?_ ?_
    · unfold execOp
      simp only [hop, e51, e52, resolve, invoke, Sem.run_bind, Sem.run_pure, Result.andThen_ok, List.map_toArray, List.map_cons, List.map_nil]
      first | rfl | exact enters_of Try.func39 (by kernel_rfl) rfl _ _
    · exact (votes_any f A n c ns w (hA.after hbl) A8 n8 c8 _ (h8.after hbl)).mono fun e w' ⟨he, h2⟩ => ⟨_, he, congrArg (Value.int .i64) hp, h2⟩
    · rintro v w' ⟨h1, h2⟩
      exact hK v w' h1 h2
  | 3, _, hs, ho, hop, hds, hdep, hK =>
    have hop : o.op = .load 24 (.tmp 7) := Option.some.inj hop
    have hu7 : a.tmps[7]? = some (.pointer (some ⟨gc, 0, none⟩)) := (hbase.2.2 7 (by decide)).trans x7
    have e7 : a.eval (.tmp 7) = _ := ev_tmp hu7
    refine st3 ho hwt (v := .agg #[.int .i64 f, .slice A n c]) (w' := w) ?_ (hK _ w rfl (Below.refl _ _))
    have k0 : w.cell? ⟨gc, 0, none⟩ = some (.int .i64 f) := (hB.below hbl hB.lt).cell rfl
    have k1 : w.cell? ⟨gc, 1, none⟩ = some (.slice A n c) := (hB.below hbl hB.lt).cell rfl
    unfold execOp
    simp only [hop, Option.map_some, Option.map_none, e7]
    first | rfl | (go_simp; done) | (go_simp; simp; done) | (go_simp; intro h; omega)
  | 4, _, hs, ho, hop, hds, hdep, hK =>
    have hop : o.op = .call { callee := .value (.func 26), args := #[.tmp 54], argTypes := #[24] } := Option.some.inj hop
    obtain ⟨u54, hu54, hv54⟩ := hdep 3 (by decide)
    have hv54' : u54 = .agg #[.int .i64 f, .slice A n c] := hv54
    subst hv54'
    have e54 : a.eval (.tmp 54) = _ := ev_tmp hu54
    refine st3_call ho hwt (f := 26) (vals := #[.agg #[.int .i64 f, .slice A n c]]) (Z := fun v w' => v = .int .i64 m ∧ Below w.heap.size w w') ?_ ?_ ?_
    · unfold execOp
      simp only [hop, e54, resolve, invoke, Sem.run_bind, Sem.run_pure, Result.andThen_ok, List.map_toArray, List.map_cons, List.map_nil]
      first | rfl | exact enters_of Try.func26 (by kernel_rfl) rfl _ _
    · exact (most_any f A n c ns w (hA.after hbl)).mono fun e w' ⟨he, h2⟩ => ⟨_, he, congrArg (Value.int .i64) hm, h2⟩
    · rintro v w' ⟨h1, h2⟩
      exact hK v w' h1 h2
  | 5, _, hs, ho, hop, hds, hdep, hK =>
    have hop : o.op = .binOp .lss 3 (.tmp 53) (.tmp 55) 3 := Option.some.inj hop
    obtain ⟨u53, hu53, hv53⟩ := hdep 2 (by decide)
    have hv53' : u53 = .int .i64 p := hv53
    subst hv53'
    have e53 : a.eval (.tmp 53) = _ := ev_tmp hu53
    obtain ⟨u55, hu55, hv55⟩ := hdep 4 (by decide)
    have hv55' : u55 = .int .i64 m := hv55
    subst hv55'
    have e55 : a.eval (.tmp 55) = _ := ev_tmp hu55
    refine st3 ho hwt (v := .bool false) (w' := w) ?_ (hK _ w rfl (Below.refl _ _))
    unfold execOp
    simp only [hop, e53, e55]
    first | rfl | (go_simp; done) | (go_simp; simp; done) | (go_simp; intro h; omega)
  | 6, _, hs, ho, hop, hds, hdep, hK =>
    have hop : o.op = .move (.tmp 56) := Option.some.inj hop
    obtain ⟨u56, hu56, hv56⟩ := hdep 5 (by decide)
    have hv56' : u56 = .bool false := hv56
    subst hv56'
    have e56 : a.eval (.tmp 56) = _ := ev_tmp hu56
    refine st3 ho hwt (v := _) (w' := w) ?_ (hK _ w rfl (Below.refl _ _))
    unfold execOp
    rw [hop, ← e56]
    rfl
  | 7, _, hs, ho, hop, hds, hdep, hK =>
    have hop : o.op = .load 24 (.tmp 9) := Option.some.inj hop
    have hu9 : a.tmps[9]? = some (.pointer (some ⟨gd, 0, none⟩)) := (hbase.2.2 9 (by decide)).trans x9
    have e9 : a.eval (.tmp 9) = _ := ev_tmp hu9
    refine st3 ho hwt (v := .agg #[.int .i64 f, .slice Ad n cd]) (w' := w) ?_ (hK _ w rfl (Below.refl _ _))
    have k0 : w.cell? ⟨gd, 0, none⟩ = some (.int .i64 f) := (hBd.below hbl hBd.lt).cell rfl
    have k1 : w.cell? ⟨gd, 1, none⟩ = some (.slice Ad n cd) := (hBd.below hbl hBd.lt).cell rfl
    unfold execOp
    simp only [hop, Option.map_some, Option.map_none, e9]
    first | rfl | (go_simp; done) | (go_simp; simp; done) | (go_simp; intro h; omega)
  | 8, _, hs, ho, hop, hds, hdep, hK =>
    have hop : o.op = .move (.tmp 12) := Option.some.inj hop
    have hu12 : a.tmps[12]? = some (.slice A9 n9 c9) := (hbase.2.2 12 (by decide)).trans x12
    have e12 : a.eval (.tmp 12) = _ := ev_tmp hu12
    refine st3 ho hwt (v := _) (w' := w) ?_ (hK _ w rfl (Below.refl _ _))
    unfold execOp
    rw [hop, ← e12]
    rfl
  | 9, _, hs, ho, hop, hds, hdep, hK =>
    have hop : o.op = .call { callee := .value (.func 39), args := #[.tmp 58, .tmp 59], argTypes := #[24, 22] } := Option.some.inj hop
    obtain ⟨u58, hu58, hv58⟩ := hdep 7 (by decide)
    have hv58' : u58 = .agg #[.int .i64 f, .slice Ad n cd] := hv58
    subst hv58'
    have e58 : a.eval (.tmp 58) = _ := ev_tmp hu58
    obtain ⟨u59, hu59, hv59⟩ := hdep 8 (by decide)
    have hv59' : u59 = .slice A9 n9 c9 := hv59
    subst hv59'
    have e59 : a.eval (.tmp 59) = _ := ev_tmp hu59
    refine st3_call ho hwt (f := 39) (vals := #[.agg #[.int .i64 f, .slice Ad n cd], .slice A9 n9 c9]) (Z := fun v w' => v = .int .i64 q ∧ Below w.heap.size w w') ?_ ?_ ?_
    · unfold execOp
      simp only [hop, e58, e59, resolve, invoke, Sem.run_bind, Sem.run_pure, Result.andThen_ok, List.map_toArray, List.map_cons, List.map_nil]
      first | rfl | exact enters_of Try.func39 (by kernel_rfl) rfl _ _
    · exact (votes_any f Ad n cd ds w (hAd.after hbl) A9 n9 c9 _ (h9.after hbl)).mono fun e w' ⟨he, h2⟩ => ⟨_, he, congrArg (Value.int .i64) hq, h2⟩
    · rintro v w' ⟨h1, h2⟩
      exact hK v w' h1 h2
  | 10, _, hs, ho, hop, hds, hdep, hK =>
    have hop : o.op = .load 24 (.tmp 9) := Option.some.inj hop
    have hu9 : a.tmps[9]? = some (.pointer (some ⟨gd, 0, none⟩)) := (hbase.2.2 9 (by decide)).trans x9
    have e9 : a.eval (.tmp 9) = _ := ev_tmp hu9
    refine st3 ho hwt (v := .agg #[.int .i64 f, .slice Ad n cd]) (w' := w) ?_ (hK _ w rfl (Below.refl _ _))
    have k0 : w.cell? ⟨gd, 0, none⟩ = some (.int .i64 f) := (hBd.below hbl hBd.lt).cell rfl
    have k1 : w.cell? ⟨gd, 1, none⟩ = some (.slice Ad n cd) := (hBd.below hbl hBd.lt).cell rfl
    unfold execOp
    simp only [hop, Option.map_some, Option.map_none, e9]
    first | rfl | (go_simp; done) | (go_simp; simp; done) | (go_simp; intro h; omega)
  | 11, _, hs, ho, hop, hds, hdep, hK =>
    have hop : o.op = .call { callee := .value (.func 26), args := #[.tmp 61], argTypes := #[24] } := Option.some.inj hop
    obtain ⟨u61, hu61, hv61⟩ := hdep 10 (by decide)
    have hv61' : u61 = .agg #[.int .i64 f, .slice Ad n cd] := hv61
    subst hv61'
    have e61 : a.eval (.tmp 61) = _ := ev_tmp hu61
    refine st3_call ho hwt (f := 26) (vals := #[.agg #[.int .i64 f, .slice Ad n cd]]) (Z := fun v w' => v = .int .i64 m ∧ Below w.heap.size w w') ?_ ?_ ?_
    · unfold execOp
      simp only [hop, e61, resolve, invoke, Sem.run_bind, Sem.run_pure, Result.andThen_ok, List.map_toArray, List.map_cons, List.map_nil]
      first | rfl | exact enters_of Try.func26 (by kernel_rfl) rfl _ _
    · exact (most_any f Ad n cd ds w (hAd.after hbl)).mono fun e w' ⟨he, h2⟩ => ⟨_, he, congrArg (Value.int .i64) hmd, h2⟩
    · rintro v w' ⟨h1, h2⟩
      exact hK v w' h1 h2
  | 12, _, hs, ho, hop, hds, hdep, hK =>
    have hop : o.op = .binOp .lss 3 (.tmp 60) (.tmp 62) 3 := Option.some.inj hop
    obtain ⟨u60, hu60, hv60⟩ := hdep 9 (by decide)
    have hv60' : u60 = .int .i64 q := hv60
    subst hv60'
    have e60 : a.eval (.tmp 60) = _ := ev_tmp hu60
    obtain ⟨u62, hu62, hv62⟩ := hdep 11 (by decide)
    have hv62' : u62 = .int .i64 m := hv62
    subst hv62'
    have e62 : a.eval (.tmp 62) = _ := ev_tmp hu62
    refine st3 ho hwt (v := .bool false) (w' := w) ?_ (hK _ w rfl (Below.refl _ _))
    unfold execOp
    simp only [hop, e60, e62]
    first | rfl | (go_simp; done) | (go_simp; simp; done) | (go_simp; intro h; omega)
  | 13, _, hs, ho, hop, hds, hdep, hK =>
    have hop : o.op = .pick (.tmp 57) (.const (.bool true)) (.tmp 63) := Option.some.inj hop
    obtain ⟨u57, hu57, hv57⟩ := hdep 6 (by decide)
    have hv57' : u57 = .bool false := hv57
    subst hv57'
    have e57 : a.eval (.tmp 57) = _ := ev_tmp hu57
    obtain ⟨u63, hu63, hv63⟩ := hdep 12 (by decide)
    have hv63' : u63 = .bool false := hv63
    subst hv63'
    have e63 : a.eval (.tmp 63) = _ := ev_tmp hu63
    refine st3 ho hwt (v := .bool false) (w' := w) ?_ (hK _ w rfl (Below.refl _ _))
    unfold execOp
    simp only [hop, e57, e63]
    first | rfl | (go_simp; done) | (go_simp; simp; done) | (go_simp; intro h; omega)
  | i + 14, hi, _, _, _, _, _, _ => exact absurd hi (by omega)
end Go.Proofs.Ytjibbbfpbflgmaa
