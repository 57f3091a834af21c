/-
  What CrewRises' calls of Rank do, in whichever order its operations come up. (Written by tools/gen_ranked8.py.)
-/
import Derived.Test.YtjibbbfpbflgmaaRk8
namespace Go.Proofs.Ytjibbbfpbflgmaa
open Go.RowKit Go.Shelf CrewP
set_option linter.unusedVariables false
set_option linter.unusedSimpArgs false

def raR (gc gr : Nat) (f : Int) (A : Option Addr) (n c : Nat) (q : Nat) (x : Int) : Nat → Value → World → Prop
  | 0 => fun v w => v = .agg #[.int .i64 f, .slice A n c]
  | 1 => fun v w => v = .int .i64 n
  | 2 => fun v w => v = .slice (some ⟨gr, 0, none⟩) n 7
  | 3 => fun v w => v = .tuple #[.int .i64 x, .int .i64 0]
  | 4 => fun v w => v = .tuple #[.int .i64 x, .int .i64 0]
  | 5 => fun v w => v = .int .i64 x
  | 6 => fun v w => v = .int .i64 0
  | 7 => fun v w => v = .int .i64 x
  | 8 => fun v w => v = .int .i64 0
  | _ => fun _ _ => True
def raD (i : Nat) : Nat := ([47, 48, 49, 50, 46, 51, 52, 11, 12] : List Nat).getD i 0
def raG : Nat → Option Bool
  | _ => none
def raS (i : Nat) : Bool := ([] : List Nat).contains i
theorem ra_gb (gc gr : Nat) (f : Int) (A : Option Addr) (n c : Nat) (q : Nat) (x : Int) : ∀ i b v w, raG i = some b → raR gc gr f A n c q x i v w → v = .bool b := by
  intro i b v w h hR
  unfold raG at h
  split at h
  all_goals first | (injection h with h; subst h; exact hR) | cases h
theorem ra_sk (gc gr : Nat) (f : Int) (A : Option Addr) (n c : Nat) (q : Nat) (x : Int) : ∀ i w, raS i = true → raR gc gr f A n c q x i undef w := by
  intro i w h
  simp [raS] at h
theorem ra_on (gc gr : Nat) (f : Int) (A : Option Addr) (n c : Nat) (q : Nat) (x : Int) : ∀ i v w w', raR gc gr f A n c q x i v w → Below w.heap.size w w' → raR gc gr f A n c q x i v w'
  | 0, v, w, w', h, _ => h
  | 1, v, w, w', h, _ => h
  | 2, v, w, w', h, _ => h
  | 3, v, w, w', h, _ => h
  | 4, v, w, w', h, _ => h
  | 5, v, w, w', h, _ => h
  | 6, v, w, w', h, _ => h
  | 7, v, w, w', h, _ => h
  | 8, v, w, w', h, _ => h
  | i + 9, v, w, w', h, hb => trivial
def raOps : List Op := [.load 24 (.tmp 7),
  .move (.tmp 8),
  .slice 53 (.tmp 4) none (some (.tmp 48)) none,
  .call { callee := .value (.func 37), args := #[.tmp 47, .tmp 49, .const (.int .i64 1)], argTypes := #[24, 22, 3] },
  .move (.tmp 50),
  .extract (.tmp 46) 0,
  .extract (.tmp 46) 1,
  .assign (.tmp 51),
  .assign (.tmp 52)]
def raNeeds : Nat → List Nat
  | 0 => []
  | 1 => []
  | 2 => [1]
  | 3 => [0, 2]
  | 4 => [3]
  | 5 => [4]
  | 6 => [4]
  | 7 => [5]
  | 8 => [6]
  | _ => []
set_option maxRecDepth 100000 in
set_option maxHeartbeats 3200000 in
theorem ra_step {ops : Array Oper} {Q : Exit → Act → World → Prop} {a0 : Act} {w0 : World} (gc gr : Nat) (f : Int) (A : Option Addr) (n c : Nat) (q : Nat) (x : Int) (hops : ((List.range 9).map fun i => (ops[i]?).map Oper.op) = raOps.map some)
    (hnd : ((List.range 9).all fun i => (raNeeds i).all fun j => ((ops[i]?).map fun o => o.after.any fun e => Region.binds .any e && (e.on == j)).getD false) = true)
    (ns rs : List Int) (x7 : a0.tmps[7]? = some (.pointer (some ⟨gc, 0, none⟩))) (x4 : a0.tmps[4]? = some (.pointer (some ⟨gr, 0, none⟩))) (x8 : a0.tmps[8]? = some (.int .i64 n))
    (hB : Blk w0 gc 24 [.int .i64 f, .slice A n c]) (hA : ArgI w0 A n c ns) (hR : ArgI w0 (some ⟨gr, 0, none⟩) n 7 rs) (hn7 : (n : Int) ≤ 7) (hqw : Wf 1) (hrk : rankR f ns rs 1 = (x, 0)) :
    ∀ i o, i < 9 → raS i = false → ops[i]? = some o → o.dst = some (raD i) → ∀ a w, Base raD 9 a0 a → Below w0.heap.size w0 w → Region.wanted o (yielded ops a.tmps) = true →
      (∀ j, (o.after.any fun e => Region.binds .any e && (e.on == j)) = true → Has raD (raR gc gr f A n c q x) j a w) →
      ∀ K : Act → World → Prop, (∀ v w', raR gc gr f A n c q x i v w' → Below w.heap.size w w' → K (a.put o.dst v) w') → wpOp Try.prog ops Q i K a w := by
  intro i o hi hs ho hds a w hbase hbl hwt hdep0 K hK
  have hop : some o.op = raOps[i]? := by
    have h1 : ((List.range 9).map fun i => (ops[i]?).map Oper.op)[i]? = some (some o.op) := by
      rw [List.getElem?_map, List.getElem?_range hi]; simp only [Option.map_some, ho]
    rw [hops, List.getElem?_map] at h1
    cases h2 : raOps[i]? with
    | none => rw [h2] at h1; cases h1
    | some y => rw [h2] at h1; simp only [Option.map_some, Option.some.injEq] at h1; rw [h1]
  have hdep : ∀ j, j ∈ raNeeds i → Has raD (raR gc gr f A n c q x) j a w := fun j hj => by
    have h1 := List.all_eq_true.1 (List.all_eq_true.1 hnd i (List.mem_range.2 hi)) j hj
    rw [ho] at h1
    exact hdep0 j h1
  clear hdep0 hops hnd
  match i, hi, hs, ho, hop, hds, hdep, hK with
  | 0, _, hs, ho, hop, hds, hdep, hK =>
    have hop : o.op = .load 24 (.tmp 7) := Option.some.inj hop
    have hu7 : a.tmps[7]? = some (.pointer (some ⟨gc, 0, none⟩)) := (hbase.2.2 7 (by decide)).trans x7
    have e7 : a.eval (.tmp 7) = _ := ev_tmp hu7
    refine st3 ho hwt (v := .agg #[.int .i64 f, .slice A n c]) (w' := w) ?_ (hK _ w rfl (Below.refl _ _))
    have k0 : w.cell? ⟨gc, 0, none⟩ = some (.int .i64 f) := (hB.below hbl hB.lt).cell rfl
    have k1 : w.cell? ⟨gc, 1, none⟩ = some (.slice A n c) := (hB.below hbl hB.lt).cell rfl
    unfold execOp
    simp only [hop, Option.map_some, Option.map_none, e7]
    first | rfl | (go_simp; done) | (go_simp; simp; done) | (go_simp; intro h; omega)
  | 1, _, hs, ho, hop, hds, hdep, hK =>
    have hop : o.op = .move (.tmp 8) := Option.some.inj hop
    have hu8 : a.tmps[8]? = some (.int .i64 n) := (hbase.2.2 8 (by decide)).trans x8
    have e8 : a.eval (.tmp 8) = _ := ev_tmp hu8
    refine st3 ho hwt (v := _) (w' := w) ?_ (hK _ w rfl (Below.refl _ _))
    unfold execOp
    rw [hop, ← e8]
    rfl
  | 2, _, hs, ho, hop, hds, hdep, hK =>
    have hop : o.op = .slice 53 (.tmp 4) none (some (.tmp 48)) none := Option.some.inj hop
    have hu4 : a.tmps[4]? = some (.pointer (some ⟨gr, 0, none⟩)) := (hbase.2.2 4 (by decide)).trans x4
    have e4 : a.eval (.tmp 4) = _ := ev_tmp hu4
    obtain ⟨u48, hu48, hv48⟩ := hdep 1 (by decide)
    have hv48' : u48 = .int .i64 n := hv48
    subst hv48'
    have e48 : a.eval (.tmp 48) = _ := ev_tmp hu48
    refine st3 ho hwt (v := .slice (some ⟨gr, 0, none⟩) n 7) (w' := w) ?_ (hK _ w rfl (Below.refl _ _))
    have hn7' := hn7
    unfold execOp
    simp only [hop, Option.map_some, Option.map_none, e4, e48]
    first | rfl | (go_simp; done) | (go_simp; simp; done) | (go_simp; intro h; omega)
  | 3, _, hs, ho, hop, hds, hdep, hK =>
    have hop : o.op = .call { callee := .value (.func 37), args := #[.tmp 47, .tmp 49, .const (.int .i64 1)], argTypes := #[24, 22, 3] } := Option.some.inj hop
    obtain ⟨u47, hu47, hv47⟩ := hdep 0 (by decide)
    have hv47' : u47 = .agg #[.int .i64 f, .slice A n c] := hv47
    subst hv47'
    have e47 : a.eval (.tmp 47) = _ := ev_tmp hu47
    obtain ⟨u49, hu49, hv49⟩ := hdep 2 (by decide)
    have hv49' : u49 = .slice (some ⟨gr, 0, none⟩) n 7 := hv49
    subst hv49'
    have e49 : a.eval (.tmp 49) = _ := ev_tmp hu49
    refine st3_call ho hwt (f := 37) (vals := #[.agg #[.int .i64 f, .slice A n c], .slice (some ⟨gr, 0, none⟩) n 7, .int .i64 1]) (Z := fun v w' => v = .tuple #[.int .i64 x, .int .i64 0] ∧ Below w.heap.size w w') ?_ ?_ ?_
    · unfold execOp
      simp only [hop, e47, e49, resolve, invoke, Sem.run_bind, Sem.run_pure, Result.andThen_ok, List.map_toArray, List.map_cons, List.map_nil]
      first | rfl | exact enters_of Try.func37 (by kernel_rfl) rfl _ _
    · exact (rank_any f A n c ns w (hA.after hbl) _ n 7 rs (hR.after hbl) 1 hqw).mono fun e w' ⟨he, h2⟩ => ⟨_, he, by rw [hrk], h2⟩
    · rintro v w' ⟨h1, h2⟩
      exact hK v w' h1 h2
  | 4, _, hs, ho, hop, hds, hdep, hK =>
    have hop : o.op = .move (.tmp 50) := Option.some.inj hop
    obtain ⟨u50, hu50, hv50⟩ := hdep 3 (by decide)
    have hv50' : u50 = .tuple #[.int .i64 x, .int .i64 0] := hv50
    subst hv50'
    have e50 : a.eval (.tmp 50) = _ := ev_tmp hu50
    refine st3 ho hwt (v := _) (w' := w) ?_ (hK _ w rfl (Below.refl _ _))
    unfold execOp
    rw [hop, ← e50]
    rfl
  | 5, _, hs, ho, hop, hds, hdep, hK =>
    have hop : o.op = .extract (.tmp 46) 0 := Option.some.inj hop
    obtain ⟨u46, hu46, hv46⟩ := hdep 4 (by decide)
    have hv46' : u46 = .tuple #[.int .i64 x, .int .i64 0] := hv46
    subst hv46'
    have e46 : a.eval (.tmp 46) = _ := ev_tmp hu46
    refine st3 ho hwt (v := .int .i64 x) (w' := w) ?_ (hK _ w rfl (Below.refl _ _))
    unfold execOp
    simp only [hop, Option.map_some, Option.map_none, e46]
    first | rfl | (go_simp; done) | (go_simp; simp; done) | (go_simp; intro h; omega)
  | 6, _, hs, ho, hop, hds, hdep, hK =>
    have hop : o.op = .extract (.tmp 46) 1 := Option.some.inj hop
    obtain ⟨u46, hu46, hv46⟩ := hdep 4 (by decide)
    have hv46' : u46 = .tuple #[.int .i64 x, .int .i64 0] := hv46
    subst hv46'
    have e46 : a.eval (.tmp 46) = _ := ev_tmp hu46
    refine st3 ho hwt (v := .int .i64 0) (w' := w) ?_ (hK _ w rfl (Below.refl _ _))
    unfold execOp
    simp only [hop, Option.map_some, Option.map_none, e46]
    first | rfl | (go_simp; done) | (go_simp; simp; done) | (go_simp; intro h; omega)
  | 7, _, hs, ho, hop, hds, hdep, hK =>
    have hop : o.op = .assign (.tmp 51) := Option.some.inj hop
    obtain ⟨u51, hu51, hv51⟩ := hdep 5 (by decide)
    have hv51' : u51 = .int .i64 x := hv51
    subst hv51'
    have e51 : a.eval (.tmp 51) = _ := ev_tmp hu51
    refine st3 ho hwt (v := _) (w' := w) ?_ (hK _ w rfl (Below.refl _ _))
    unfold execOp
    rw [hop, ← e51]
    rfl
  | 8, _, hs, ho, hop, hds, hdep, hK =>
    have hop : o.op = .assign (.tmp 52) := Option.some.inj hop
    obtain ⟨u52, hu52, hv52⟩ := hdep 6 (by decide)
    have hv52' : u52 = .int .i64 0 := hv52
    subst hv52'
    have e52 : a.eval (.tmp 52) = _ := ev_tmp hu52
    refine st3 ho hwt (v := _) (w' := w) ?_ (hK _ w rfl (Below.refl _ _))
    unfold execOp
    rw [hop, ← e52]
    rfl
  | i + 9, hi, _, _, _, _, _, _ => exact absurd hi (by omega)
def rbR (gc gr : Nat) (f : Int) (A : Option Addr) (n c : Nat) (q : Nat) (x : Int) : Nat → Value → World → Prop
  | 0 => fun v w => v = .agg #[.int .i64 f, .slice A n c]
  | 1 => fun v w => v = .int .i64 n
  | 2 => fun v w => v = .slice (some ⟨gr, 0, none⟩) n 7
  | 3 => fun v w => v = .int .i64 q
  | 4 => fun v w => v = .tuple #[.int .i64 x, .int .i64 0]
  | 5 => fun v w => v = .tuple #[.int .i64 x, .int .i64 0]
  | 6 => fun v w => v = .int .i64 x
  | 7 => fun v w => v = .int .i64 0
  | 8 => fun v w => v = .int .i64 x
  | 9 => fun v w => v = .int .i64 0
  | _ => fun _ _ => True
def rbD (i : Nat) : Nat := ([59, 60, 61, 62, 63, 58, 64, 65, 14, 15] : List Nat).getD i 0
def rbG : Nat → Option Bool
  | _ => none
def rbS (i : Nat) : Bool := ([] : List Nat).contains i
theorem rb_gb (gc gr : Nat) (f : Int) (A : Option Addr) (n c : Nat) (q : Nat) (x : Int) : ∀ i b v w, rbG i = some b → rbR gc gr f A n c q x i v w → v = .bool b := by
  intro i b v w h hR
  unfold rbG at h
  split at h
  all_goals first | (injection h with h; subst h; exact hR) | cases h
theorem rb_sk (gc gr : Nat) (f : Int) (A : Option Addr) (n c : Nat) (q : Nat) (x : Int) : ∀ i w, rbS i = true → rbR gc gr f A n c q x i undef w := by
  intro i w h
  simp [rbS] at h
theorem rb_on (gc gr : Nat) (f : Int) (A : Option Addr) (n c : Nat) (q : Nat) (x : Int) : ∀ i v w w', rbR gc gr f A n c q x i v w → Below w.heap.size w w' → rbR gc gr f A n c q x i v w'
  | 0, v, w, w', h, _ => h
  | 1, v, w, w', h, _ => h
  | 2, v, w, w', h, _ => h
  | 3, v, w, w', h, _ => h
  | 4, v, w, w', h, _ => h
  | 5, v, w, w', h, _ => h
  | 6, v, w, w', h, _ => h
  | 7, v, w, w', h, _ => h
  | 8, v, w, w', h, _ => h
  | 9, v, w, w', h, _ => h
  | i + 10, v, w, w', h, hb => trivial
def rbOps : List Op := [.load 24 (.tmp 7),
  .move (.tmp 8),
  .slice 53 (.tmp 4) none (some (.tmp 60)) none,
  .move (.tmp 13),
  .call { callee := .value (.func 37), args := #[.tmp 59, .tmp 61, .tmp 62], argTypes := #[24, 22, 3] },
  .move (.tmp 63),
  .extract (.tmp 58) 0,
  .extract (.tmp 58) 1,
  .assign (.tmp 64),
  .assign (.tmp 65)]
def rbNeeds : Nat → List Nat
  | 0 => []
  | 1 => []
  | 2 => [1]
  | 3 => []
  | 4 => [0, 2, 3]
  | 5 => [4]
  | 6 => [5]
  | 7 => [5]
  | 8 => [6]
  | 9 => [7]
  | _ => []
set_option maxRecDepth 100000 in
set_option maxHeartbeats 3200000 in
theorem rb_step {ops : Array Oper} {Q : Exit → Act → World → Prop} {a0 : Act} {w0 : World} (gc gr : Nat) (f : Int) (A : Option Addr) (n c : Nat) (q : Nat) (x : Int) (hops : ((List.range 10).map fun i => (ops[i]?).map Oper.op) = rbOps.map some)
    (hnd : ((List.range 10).all fun i => (rbNeeds i).all fun j => ((ops[i]?).map fun o => o.after.any fun e => Region.binds .any e && (e.on == j)).getD false) = true)
    (ns rs : List Int) (x7 : a0.tmps[7]? = some (.pointer (some ⟨gc, 0, none⟩))) (x4 : a0.tmps[4]? = some (.pointer (some ⟨gr, 0, none⟩))) (x8 : a0.tmps[8]? = some (.int .i64 n)) (x2 : a0.tmps[13]? = some (.int .i64 q))
    (hB : Blk w0 gc 24 [.int .i64 f, .slice A n c]) (hA : ArgI w0 A n c ns) (hR : ArgI w0 (some ⟨gr, 0, none⟩) n 7 rs) (hn7 : (n : Int) ≤ 7) (hqw : Wf (q : Int)) (hrk : rankR f ns rs (q : Int) = (x, 0)) :
    ∀ i o, i < 10 → rbS i = false → ops[i]? = some o → o.dst = some (rbD i) → ∀ a w, Base rbD 10 a0 a → Below w0.heap.size w0 w → Region.wanted o (yielded ops a.tmps) = true →
      (∀ j, (o.after.any fun e => Region.binds .any e && (e.on == j)) = true → Has rbD (rbR gc gr f A n c q x) j a w) →
      ∀ K : Act → World → Prop, (∀ v w', rbR gc gr f A n c q x i v w' → Below w.heap.size w w' → K (a.put o.dst v) w') → wpOp Try.prog ops Q i K a w := by
  intro i o hi hs ho hds a w hbase hbl hwt hdep0 K hK
  have hop : some o.op = rbOps[i]? := by
    have h1 : ((List.range 10).map fun i => (ops[i]?).map Oper.op)[i]? = some (some o.op) := by
      rw [List.getElem?_map, List.getElem?_range hi]; simp only [Option.map_some, ho]
    rw [hops, List.getElem?_map] at h1
    cases h2 : rbOps[i]? with
    | none => rw [h2] at h1; cases h1
    | some y => rw [h2] at h1; simp only [Option.map_some, Option.some.injEq] at h1; rw [h1]
  have hdep : ∀ j, j ∈ rbNeeds i → Has rbD (rbR gc gr f A n c q x) j a w := fun j hj => by
    have h1 := List.all_eq_true.1 (List.all_eq_true.1 hnd i (List.mem_range.2 hi)) j hj
    rw [ho] at h1
    exact hdep0 j h1
  clear hdep0 hops hnd
  match i, hi, hs, ho, hop, hds, hdep, hK with
  | 0, _, hs, ho, hop, hds, hdep, hK =>
    have hop : o.op = .load 24 (.tmp 7) := Option.some.inj hop
    have hu7 : a.tmps[7]? = some (.pointer (some ⟨gc, 0, none⟩)) := (hbase.2.2 7 (by decide)).trans x7
    have e7 : a.eval (.tmp 7) = _ := ev_tmp hu7
    refine st3 ho hwt (v := .agg #[.int .i64 f, .slice A n c]) (w' := w) ?_ (hK _ w rfl (Below.refl _ _))
    have k0 : w.cell? ⟨gc, 0, none⟩ = some (.int .i64 f) := (hB.below hbl hB.lt).cell rfl
    have k1 : w.cell? ⟨gc, 1, none⟩ = some (.slice A n c) := (hB.below hbl hB.lt).cell rfl
    unfold execOp
    simp only [hop, Option.map_some, Option.map_none, e7]
    first | rfl | (go_simp; done) | (go_simp; simp; done) | (go_simp; intro h; omega)
  | 1, _, hs, ho, hop, hds, hdep, hK =>
    have hop : o.op = .move (.tmp 8) := Option.some.inj hop
    have hu8 : a.tmps[8]? = some (.int .i64 n) := (hbase.2.2 8 (by decide)).trans x8
    have e8 : a.eval (.tmp 8) = _ := ev_tmp hu8
    refine st3 ho hwt (v := _) (w' := w) ?_ (hK _ w rfl (Below.refl _ _))
    unfold execOp
    rw [hop, ← e8]
    rfl
  | 2, _, hs, ho, hop, hds, hdep, hK =>
    have hop : o.op = .slice 53 (.tmp 4) none (some (.tmp 60)) none := Option.some.inj hop
    have hu4 : a.tmps[4]? = some (.pointer (some ⟨gr, 0, none⟩)) := (hbase.2.2 4 (by decide)).trans x4
    have e4 : a.eval (.tmp 4) = _ := ev_tmp hu4
    obtain ⟨u60, hu60, hv60⟩ := hdep 1 (by decide)
    have hv60' : u60 = .int .i64 n := hv60
    subst hv60'
    have e60 : a.eval (.tmp 60) = _ := ev_tmp hu60
    refine st3 ho hwt (v := .slice (some ⟨gr, 0, none⟩) n 7) (w' := w) ?_ (hK _ w rfl (Below.refl _ _))
    have hn7' := hn7
    unfold execOp
    simp only [hop, Option.map_some, Option.map_none, e4, e60]
    first | rfl | (go_simp; done) | (go_simp; simp; done) | (go_simp; intro h; omega)
  | 3, _, hs, ho, hop, hds, hdep, hK =>
    have hop : o.op = .move (.tmp 13) := Option.some.inj hop
    have hu13 : a.tmps[13]? = some (.int .i64 q) := (hbase.2.2 13 (by decide)).trans x2
    have e13 : a.eval (.tmp 13) = _ := ev_tmp hu13
    refine st3 ho hwt (v := _) (w' := w) ?_ (hK _ w rfl (Below.refl _ _))
    unfold execOp
    rw [hop, ← e13]
    rfl
  | 4, _, hs, ho, hop, hds, hdep, hK =>
    have hop : o.op = .call { callee := .value (.func 37), args := #[.tmp 59, .tmp 61, .tmp 62], argTypes := #[24, 22, 3] } := Option.some.inj hop
    obtain ⟨u59, hu59, hv59⟩ := hdep 0 (by decide)
    have hv59' : u59 = .agg #[.int .i64 f, .slice A n c] := hv59
    subst hv59'
    have e59 : a.eval (.tmp 59) = _ := ev_tmp hu59
    obtain ⟨u61, hu61, hv61⟩ := hdep 2 (by decide)
    have hv61' : u61 = .slice (some ⟨gr, 0, none⟩) n 7 := hv61
    subst hv61'
    have e61 : a.eval (.tmp 61) = _ := ev_tmp hu61
    obtain ⟨u62, hu62, hv62⟩ := hdep 3 (by decide)
    have hv62' : u62 = .int .i64 q := hv62
    subst hv62'
    have e62 : a.eval (.tmp 62) = _ := ev_tmp hu62
    refine st3_call ho hwt (f := 37) (vals := #[.agg #[.int .i64 f, .slice A n c], .slice (some ⟨gr, 0, none⟩) n 7, .int .i64 q]) (Z := fun v w' => v = .tuple #[.int .i64 x, .int .i64 0] ∧ Below w.heap.size w w') ?_ ?_ ?_
    · unfold execOp
      simp only [hop, e59, e61, e62, resolve, invoke, Sem.run_bind, Sem.run_pure, Result.andThen_ok, List.map_toArray, List.map_cons, List.map_nil]
      first | rfl | exact enters_of Try.func37 (by kernel_rfl) rfl _ _
    · exact (rank_any f A n c ns w (hA.after hbl) _ n 7 rs (hR.after hbl) q hqw).mono fun e w' ⟨he, h2⟩ => ⟨_, he, by rw [hrk], h2⟩
    · rintro v w' ⟨h1, h2⟩
      exact hK v w' h1 h2
  | 5, _, hs, ho, hop, hds, hdep, hK =>
    have hop : o.op = .move (.tmp 63) := Option.some.inj hop
    obtain ⟨u63, hu63, hv63⟩ := hdep 4 (by decide)
    have hv63' : u63 = .tuple #[.int .i64 x, .int .i64 0] := hv63
    subst hv63'
    have e63 : a.eval (.tmp 63) = _ := ev_tmp hu63
    refine st3 ho hwt (v := _) (w' := w) ?_ (hK _ w rfl (Below.refl _ _))
    unfold execOp
    rw [hop, ← e63]
    rfl
  | 6, _, hs, ho, hop, hds, hdep, hK =>
    have hop : o.op = .extract (.tmp 58) 0 := Option.some.inj hop
    obtain ⟨u58, hu58, hv58⟩ := hdep 5 (by decide)
    have hv58' : u58 = .tuple #[.int .i64 x, .int .i64 0] := hv58
    subst hv58'
    have e58 : a.eval (.tmp 58) = _ := ev_tmp hu58
    refine st3 ho hwt (v := .int .i64 x) (w' := w) ?_ (hK _ w rfl (Below.refl _ _))
    unfold execOp
    simp only [hop, Option.map_some, Option.map_none, e58]
    first | rfl | (go_simp; done) | (go_simp; simp; done) | (go_simp; intro h; omega)
  | 7, _, hs, ho, hop, hds, hdep, hK =>
    have hop : o.op = .extract (.tmp 58) 1 := Option.some.inj hop
    obtain ⟨u58, hu58, hv58⟩ := hdep 5 (by decide)
    have hv58' : u58 = .tuple #[.int .i64 x, .int .i64 0] := hv58
    subst hv58'
    have e58 : a.eval (.tmp 58) = _ := ev_tmp hu58
    refine st3 ho hwt (v := .int .i64 0) (w' := w) ?_ (hK _ w rfl (Below.refl _ _))
    unfold execOp
    simp only [hop, Option.map_some, Option.map_none, e58]
    first | rfl | (go_simp; done) | (go_simp; simp; done) | (go_simp; intro h; omega)
  | 8, _, hs, ho, hop, hds, hdep, hK =>
    have hop : o.op = .assign (.tmp 64) := Option.some.inj hop
    obtain ⟨u64, hu64, hv64⟩ := hdep 6 (by decide)
    have hv64' : u64 = .int .i64 x := hv64
    subst hv64'
    have e64 : a.eval (.tmp 64) = _ := ev_tmp hu64
    refine st3 ho hwt (v := _) (w' := w) ?_ (hK _ w rfl (Below.refl _ _))
    unfold execOp
    rw [hop, ← e64]
    rfl
  | 9, _, hs, ho, hop, hds, hdep, hK =>
    have hop : o.op = .assign (.tmp 65) := Option.some.inj hop
    obtain ⟨u65, hu65, hv65⟩ := hdep 7 (by decide)
    have hv65' : u65 = .int .i64 0 := hv65
    subst hv65'
    have e65 : a.eval (.tmp 65) = _ := ev_tmp hu65
    refine st3 ho hwt (v := _) (w' := w) ?_ (hK _ w rfl (Below.refl _ _))
    unfold execOp
    rw [hop, ← e65]
    rfl
  | i + 10, hi, _, _, _, _, _, _ => exact absurd hi (by omega)
def rcR (gc gr : Nat) (f : Int) (A : Option Addr) (n c : Nat) (q : Nat) (x : Int) : Nat → Value → World → Prop
  | 0 => fun v w => v = .agg #[.int .i64 f, .slice A n c]
  | 1 => fun v w => v = .int .i64 n
  | 2 => fun v w => v = .slice (some ⟨gr, 0, none⟩) n 7
  | 3 => fun v w => v = .int .i64 q
  | 4 => fun v w => v = .tuple #[.int .i64 x, .int .i64 0]
  | 5 => fun v w => v = .tuple #[.int .i64 x, .int .i64 0]
  | 6 => fun v w => v = .int .i64 x
  | 7 => fun v w => v = .int .i64 0
  | 8 => fun v w => v = .int .i64 x
  | 9 => fun v w => v = .int .i64 0
  | _ => fun _ _ => True
def rcD (i : Nat) : Nat := ([67, 68, 69, 70, 71, 66, 72, 73, 16, 17] : List Nat).getD i 0
def rcG : Nat → Option Bool
  | _ => none
def rcS (i : Nat) : Bool := ([] : List Nat).contains i
theorem rc_gb (gc gr : Nat) (f : Int) (A : Option Addr) (n c : Nat) (q : Nat) (x : Int) : ∀ i b v w, rcG i = some b → rcR gc gr f A n c q x i v w → v = .bool b := by
  intro i b v w h hR
  unfold rcG at h
  split at h
  all_goals first | (injection h with h; subst h; exact hR) | cases h
theorem rc_sk (gc gr : Nat) (f : Int) (A : Option Addr) (n c : Nat) (q : Nat) (x : Int) : ∀ i w, rcS i = true → rcR gc gr f A n c q x i undef w := by
  intro i w h
  simp [rcS] at h
theorem rc_on (gc gr : Nat) (f : Int) (A : Option Addr) (n c : Nat) (q : Nat) (x : Int) : ∀ i v w w', rcR gc gr f A n c q x i v w → Below w.heap.size w w' → rcR gc gr f A n c q x i v w'
  | 0, v, w, w', h, _ => h
  | 1, v, w, w', h, _ => h
  | 2, v, w, w', h, _ => h
  | 3, v, w, w', h, _ => h
  | 4, v, w, w', h, _ => h
  | 5, v, w, w', h, _ => h
  | 6, v, w, w', h, _ => h
  | 7, v, w, w', h, _ => h
  | 8, v, w, w', h, _ => h
  | 9, v, w, w', h, _ => h
  | i + 10, v, w, w', h, hb => trivial
def rcOps : List Op := [.load 24 (.tmp 7),
  .move (.tmp 8),
  .slice 53 (.tmp 9) none (some (.tmp 68)) none,
  .move (.tmp 13),
  .call { callee := .value (.func 37), args := #[.tmp 67, .tmp 69, .tmp 70], argTypes := #[24, 22, 3] },
  .move (.tmp 71),
  .extract (.tmp 66) 0,
  .extract (.tmp 66) 1,
  .assign (.tmp 72),
  .assign (.tmp 73)]
def rcNeeds : Nat → List Nat
  | 0 => []
  | 1 => []
  | 2 => [1]
  | 3 => []
  | 4 => [0, 2, 3]
  | 5 => [4]
  | 6 => [5]
  | 7 => [5]
  | 8 => [6]
  | 9 => [7]
  | _ => []
set_option maxRecDepth 100000 in
set_option maxHeartbeats 3200000 in
theorem rc_step {ops : Array Oper} {Q : Exit → Act → World → Prop} {a0 : Act} {w0 : World} (gc gr : Nat) (f : Int) (A : Option Addr) (n c : Nat) (q : Nat) (x : Int) (hops : ((List.range 10).map fun i => (ops[i]?).map Oper.op) = rcOps.map some)
    (hnd : ((List.range 10).all fun i => (rcNeeds i).all fun j => ((ops[i]?).map fun o => o.after.any fun e => Region.binds .any e && (e.on == j)).getD false) = true)
    (ns rs : List Int) (x7 : a0.tmps[7]? = some (.pointer (some ⟨gc, 0, none⟩))) (x4 : a0.tmps[9]? = some (.pointer (some ⟨gr, 0, none⟩))) (x8 : a0.tmps[8]? = some (.int .i64 n)) (x2 : a0.tmps[13]? = some (.int .i64 q))
    (hB : Blk w0 gc 24 [.int .i64 f, .slice A n c]) (hA : ArgI w0 A n c ns) (hR : ArgI w0 (some ⟨gr, 0, none⟩) n 7 rs) (hn7 : (n : Int) ≤ 7) (hqw : Wf (q : Int)) (hrk : rankR f ns rs (q : Int) = (x, 0)) :
    ∀ i o, i < 10 → rcS i = false → ops[i]? = some o → o.dst = some (rcD i) → ∀ a w, Base rcD 10 a0 a → Below w0.heap.size w0 w → Region.wanted o (yielded ops a.tmps) = true →
      (∀ j, (o.after.any fun e => Region.binds .any e && (e.on == j)) = true → Has rcD (rcR gc gr f A n c q x) j a w) →
      ∀ K : Act → World → Prop, (∀ v w', rcR gc gr f A n c q x i v w' → Below w.heap.size w w' → K (a.put o.dst v) w') → wpOp Try.prog ops Q i K a w := by
  intro i o hi hs ho hds a w hbase hbl hwt hdep0 K hK
  have hop : some o.op = rcOps[i]? := by
    have h1 : ((List.range 10).map fun i => (ops[i]?).map Oper.op)[i]? = some (some o.op) := by
      rw [List.getElem?_map, List.getElem?_range hi]; simp only [Option.map_some, ho]
    rw [hops, List.getElem?_map] at h1
    cases h2 : rcOps[i]? with
    | none => rw [h2] at h1; cases h1
    | some y => rw [h2] at h1; simp only [Option.map_some, Option.some.injEq] at h1; rw [h1]
  have hdep : ∀ j, j ∈ rcNeeds i → Has rcD (rcR gc gr f A n c q x) j a w := fun j hj => by
    have h1 := List.all_eq_true.1 (List.all_eq_true.1 hnd i (List.mem_range.2 hi)) j hj
    rw [ho] at h1
    exact hdep0 j h1
  clear hdep0 hops hnd
  match i, hi, hs, ho, hop, hds, hdep, hK with
  | 0, _, hs, ho, hop, hds, hdep, hK =>
    have hop : o.op = .load 24 (.tmp 7) := Option.some.inj hop
    have hu7 : a.tmps[7]? = some (.pointer (some ⟨gc, 0, none⟩)) := (hbase.2.2 7 (by decide)).trans x7
    have e7 : a.eval (.tmp 7) = _ := ev_tmp hu7
    refine st3 ho hwt (v := .agg #[.int .i64 f, .slice A n c]) (w' := w) ?_ (hK _ w rfl (Below.refl _ _))
    have k0 : w.cell? ⟨gc, 0, none⟩ = some (.int .i64 f) := (hB.below hbl hB.lt).cell rfl
    have k1 : w.cell? ⟨gc, 1, none⟩ = some (.slice A n c) := (hB.below hbl hB.lt).cell rfl
    unfold execOp
    simp only [hop, Option.map_some, Option.map_none, e7]
    first | rfl | (go_simp; done) | (go_simp; simp; done) | (go_simp; intro h; omega)
  | 1, _, hs, ho, hop, hds, hdep, hK =>
    have hop : o.op = .move (.tmp 8) := Option.some.inj hop
    have hu8 : a.tmps[8]? = some (.int .i64 n) := (hbase.2.2 8 (by decide)).trans x8
    have e8 : a.eval (.tmp 8) = _ := ev_tmp hu8
    refine st3 ho hwt (v := _) (w' := w) ?_ (hK _ w rfl (Below.refl _ _))
    unfold execOp
    rw [hop, ← e8]
    rfl
  | 2, _, hs, ho, hop, hds, hdep, hK =>
    have hop : o.op = .slice 53 (.tmp 9) none (some (.tmp 68)) none := Option.some.inj hop
    have hu9 : a.tmps[9]? = some (.pointer (some ⟨gr, 0, none⟩)) := (hbase.2.2 9 (by decide)).trans x4
    have e9 : a.eval (.tmp 9) = _ := ev_tmp hu9
    obtain ⟨u68, hu68, hv68⟩ := hdep 1 (by decide)
    have hv68' : u68 = .int .i64 n := hv68
    subst hv68'
    have e68 : a.eval (.tmp 68) = _ := ev_tmp hu68
    refine st3 ho hwt (v := .slice (some ⟨gr, 0, none⟩) n 7) (w' := w) ?_ (hK _ w rfl (Below.refl _ _))
    have hn7' := hn7
    unfold execOp
    simp only [hop, Option.map_some, Option.map_none, e9, e68]
    first | rfl | (go_simp; done) | (go_simp; simp; done) | (go_simp; intro h; omega)
  | 3, _, hs, ho, hop, hds, hdep, hK =>
    have hop : o.op = .move (.tmp 13) := Option.some.inj hop
    have hu13 : a.tmps[13]? = some (.int .i64 q) := (hbase.2.2 13 (by decide)).trans x2
    have e13 : a.eval (.tmp 13) = _ := ev_tmp hu13
    refine st3 ho hwt (v := _) (w' := w) ?_ (hK _ w rfl (Below.refl _ _))
    unfold execOp
    rw [hop, ← e13]
    rfl
  | 4, _, hs, ho, hop, hds, hdep, hK =>
    have hop : o.op = .call { callee := .value (.func 37), args := #[.tmp 67, .tmp 69, .tmp 70], argTypes := #[24, 22, 3] } := Option.some.inj hop
    obtain ⟨u67, hu67, hv67⟩ := hdep 0 (by decide)
    have hv67' : u67 = .agg #[.int .i64 f, .slice A n c] := hv67
    subst hv67'
    have e67 : a.eval (.tmp 67) = _ := ev_tmp hu67
    obtain ⟨u69, hu69, hv69⟩ := hdep 2 (by decide)
    have hv69' : u69 = .slice (some ⟨gr, 0, none⟩) n 7 := hv69
    subst hv69'
    have e69 : a.eval (.tmp 69) = _ := ev_tmp hu69
    obtain ⟨u70, hu70, hv70⟩ := hdep 3 (by decide)
    have hv70' : u70 = .int .i64 q := hv70
    subst hv70'
    have e70 : a.eval (.tmp 70) = _ := ev_tmp hu70
    refine st3_call ho hwt (f := 37) (vals := #[.agg #[.int .i64 f, .slice A n c], .slice (some ⟨gr, 0, none⟩) n 7, .int .i64 q]) (Z := fun v w' => v = .tuple #[.int .i64 x, .int .i64 0] ∧ Below w.heap.size w w') ?_ ?_ ?_
    · unfold execOp
      simp only [hop, e67, e69, e70, resolve, invoke, Sem.run_bind, Sem.run_pure, Result.andThen_ok, List.map_toArray, List.map_cons, List.map_nil]
      first | rfl | exact enters_of Try.func37 (by kernel_rfl) rfl _ _
    · exact (rank_any f A n c ns w (hA.after hbl) _ n 7 rs (hR.after hbl) q hqw).mono fun e w' ⟨he, h2⟩ => ⟨_, he, by rw [hrk], h2⟩
    · rintro v w' ⟨h1, h2⟩
      exact hK v w' h1 h2
  | 5, _, hs, ho, hop, hds, hdep, hK =>
    have hop : o.op = .move (.tmp 71) := Option.some.inj hop
    obtain ⟨u71, hu71, hv71⟩ := hdep 4 (by decide)
    have hv71' : u71 = .tuple #[.int .i64 x, .int .i64 0] := hv71
    subst hv71'
    have e71 : a.eval (.tmp 71) = _ := ev_tmp hu71
    refine st3 ho hwt (v := _) (w' := w) ?_ (hK _ w rfl (Below.refl _ _))
    unfold execOp
    rw [hop, ← e71]
    rfl
  | 6, _, hs, ho, hop, hds, hdep, hK =>
    have hop : o.op = .extract (.tmp 66) 0 := Option.some.inj hop
    obtain ⟨u66, hu66, hv66⟩ := hdep 5 (by decide)
    have hv66' : u66 = .tuple #[.int .i64 x, .int .i64 0] := hv66
    subst hv66'
    have e66 : a.eval (.tmp 66) = _ := ev_tmp hu66
    refine st3 ho hwt (v := .int .i64 x) (w' := w) ?_ (hK _ w rfl (Below.refl _ _))
    unfold execOp
    simp only [hop, Option.map_some, Option.map_none, e66]
    first | rfl | (go_simp; done) | (go_simp; simp; done) | (go_simp; intro h; omega)
  | 7, _, hs, ho, hop, hds, hdep, hK =>
    have hop : o.op = .extract (.tmp 66) 1 := Option.some.inj hop
    obtain ⟨u66, hu66, hv66⟩ := hdep 5 (by decide)
    have hv66' : u66 = .tuple #[.int .i64 x, .int .i64 0] := hv66
    subst hv66'
    have e66 : a.eval (.tmp 66) = _ := ev_tmp hu66
    refine st3 ho hwt (v := .int .i64 0) (w' := w) ?_ (hK _ w rfl (Below.refl _ _))
    unfold execOp
    simp only [hop, Option.map_some, Option.map_none, e66]
    first | rfl | (go_simp; done) | (go_simp; simp; done) | (go_simp; intro h; omega)
  | 8, _, hs, ho, hop, hds, hdep, hK =>
    have hop : o.op = .assign (.tmp 72) := Option.some.inj hop
    obtain ⟨u72, hu72, hv72⟩ := hdep 6 (by decide)
    have hv72' : u72 = .int .i64 x := hv72
    subst hv72'
    have e72 : a.eval (.tmp 72) = _ := ev_tmp hu72
    refine st3 ho hwt (v := _) (w' := w) ?_ (hK _ w rfl (Below.refl _ _))
    unfold execOp
    rw [hop, ← e72]
    rfl
  | 9, _, hs, ho, hop, hds, hdep, hK =>
    have hop : o.op = .assign (.tmp 73) := Option.some.inj hop
    obtain ⟨u73, hu73, hv73⟩ := hdep 7 (by decide)
    have hv73' : u73 = .int .i64 0 := hv73
    subst hv73'
    have e73 : a.eval (.tmp 73) = _ := ev_tmp hu73
    refine st3 ho hwt (v := _) (w' := w) ?_ (hK _ w rfl (Below.refl _ _))
    unfold execOp
    rw [hop, ← e73]
    rfl
  | i + 10, hi, _, _, _, _, _, _ => exact absurd hi (by omega)
end Go.Proofs.Ytjibbbfpbflgmaa
