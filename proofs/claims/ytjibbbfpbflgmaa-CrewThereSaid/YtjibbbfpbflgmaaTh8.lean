/-
  What the regions of CrewThere do, in whichever order their operations come up. (Written by tools/gen_there8.py.)
-/
import Derived.Test.YtjibbbfpbflgmaaArgs8
namespace Go.Proofs.Ytjibbbfpbflgmaa
open Go.RowKit Go.Shelf CrewP
set_option linter.unusedVariables false
set_option linter.unusedSimpArgs false

def taR (gc : Nat) (f : Int) (bA oA n c k : Nat) (at_ old : Int) : Nat → Value → World → Prop
  | 0 => fun v w => v = .pointer (some ⟨gc, 1, none⟩)
  | 1 => fun v w => v = .slice (some ⟨bA, oA, none⟩) n c
  | 2 => fun v w => v = .int .i64 at_
  | 3 => fun v w => v = .pointer (some ⟨gc, 1, none⟩)
  | 4 => fun v w => v = .slice (some ⟨bA, oA, none⟩) n c
  | 5 => fun v w => v = .int .i64 n
  | 6 => fun v w => v = .int .i64 k
  | 7 => fun v w => v = .pointer (some ⟨bA, oA + k, none⟩)
  | 8 => fun v w => v = .int .i64 old
  | 9 => fun v w => v = .int .i64 old
  | _ => fun _ _ => True
def taD (i : Nat) : Nat := ([17, 18, 19, 20, 21, 22, 23, 24, 25, 8] : List Nat).getD i 0
def taG : Nat → Option Bool
  | _ => none
def taS (i : Nat) : Bool := ([] : List Nat).contains i
theorem ta_gb (gc : Nat) (f : Int) (bA oA n c k : Nat) (at_ old : Int) : ∀ i b v w, taG i = some b → taR gc f bA oA n c k at_ old i v w → v = .bool b := by
  intro i b v w h hR
  unfold taG at h
  split at h
  all_goals first | (injection h with h; subst h; exact hR) | cases h
theorem ta_sk (gc : Nat) (f : Int) (bA oA n c k : Nat) (at_ old : Int) : ∀ i w, taS i = true → taR gc f bA oA n c k at_ old i undef w := by
  intro i w h
  simp [taS] at h
theorem ta_on (gc : Nat) (f : Int) (bA oA n c k : Nat) (at_ old : Int) : ∀ i v w w', taR gc f bA oA n c k at_ old i v w → Below w.heap.size w w' → taR gc f bA oA n c k at_ old i v w'
  | 0, v, w, w', h, _ => h
  | 1, v, w, w', h, _ => h
  | 2, v, w, w', h, _ => h
  | 3, v, w, w', h, _ => h
  | 4, v, w, w', h, _ => h
  | 5, v, w, w', h, _ => h
  | 6, v, w, w', h, _ => h
  | 7, v, w, w', h, _ => h
  | 8, v, w, w', h, _ => h
  | 9, v, w, w', h, _ => h
  | i + 10, v, w, w', h, hb => trivial
def taOps : List Op := [.fieldAddr 24 (.tmp 7) 1,
  .load 22 (.tmp 17),
  .move (.tmp 1),
  .fieldAddr 24 (.tmp 7) 1,
  .load 22 (.tmp 20),
  .call { callee := .builtin .len, args := #[.tmp 21], argTypes := #[22] },
  .call { callee := .value (.func 43), args := #[.tmp 19, .tmp 22], argTypes := #[3, 3] },
  .indexAddr 22 (.tmp 18) (.tmp 23),
  .load 3 (.tmp 24),
  .assign (.tmp 25)]
def taNeeds : Nat → List Nat
  | 0 => []
  | 1 => [0]
  | 2 => []
  | 3 => []
  | 4 => [3]
  | 5 => [4]
  | 6 => [2, 5]
  | 7 => [1, 6]
  | 8 => [7]
  | 9 => [8]
  | _ => []
set_option maxRecDepth 100000 in
set_option maxHeartbeats 3200000 in
theorem ta_step {ops : Array Oper} {Q : Exit → Act → World → Prop} {a0 : Act} {w0 : World} (gc : Nat) (f : Int) (bA oA n c k : Nat) (at_ old : Int) (hops : ((List.range 10).map fun i => (ops[i]?).map Oper.op) = taOps.map some)
    (hnd : ((List.range 10).all fun i => (taNeeds i).all fun j => ((ops[i]?).map fun o => o.after.any fun e => Region.binds .any e && (e.on == j)).getD false) = true)
    (x7 : a0.tmps[7]? = some (.pointer (some ⟨gc, 0, none⟩))) (x1 : a0.tmps[1]? = some (.int .i64 at_))
    (hB : Blk w0 gc 24 [.int .i64 f, .slice (some ⟨bA, oA, none⟩) n c]) (hbr : ∀ w, Calls Try.prog 43 #[.int .i64 at_, .int .i64 n] w fun e w' => e = .returned (.int .i64 k) ∧ w' = w) (hk0 : (0 : Int) ≤ k) (hk1 : (k : Int) < n) (hltA : bA < w0.heap.size) (hcA : w0.cell? ⟨bA, oA + k, none⟩ = some (.int .i64 old)) :
    ∀ i o, i < 10 → taS i = false → ops[i]? = some o → o.dst = some (taD i) → ∀ a w, Base taD 10 a0 a → Below w0.heap.size w0 w → Region.wanted o (yielded ops a.tmps) = true →
      (∀ j, (o.after.any fun e => Region.binds .any e && (e.on == j)) = true → Has taD (taR gc f bA oA n c k at_ old) j a w) →
      ∀ K : Act → World → Prop, (∀ v w', taR gc f bA oA n c k at_ old i v w' → Below w.heap.size w w' → K (a.put o.dst v) w') → wpOp Try.prog ops Q i K a w := by
  intro i o hi hs ho hds a w hbase hbl hwt hdep0 K hK
  have hop : some o.op = taOps[i]? := by
    have h1 : ((List.range 10).map fun i => (ops[i]?).map Oper.op)[i]? = some (some o.op) := by
      rw [List.getElem?_map, List.getElem?_range hi]; simp only [Option.map_some, ho]
    rw [hops, List.getElem?_map] at h1
    cases h2 : taOps[i]? with
    | none => rw [h2] at h1; cases h1
    | some y => rw [h2] at h1; simp only [Option.map_some, Option.some.injEq] at h1; rw [h1]
  have hdep : ∀ j, j ∈ taNeeds i → Has taD (taR gc f bA oA n c k at_ old) j a w := fun j hj => by
    have h1 := List.all_eq_true.1 (List.all_eq_true.1 hnd i (List.mem_range.2 hi)) j hj
    rw [ho] at h1
    exact hdep0 j h1
  clear hdep0 hops hnd
  match i, hi, hs, ho, hop, hds, hdep, hK with
  | 0, _, hs, ho, hop, hds, hdep, hK =>
    have hop : o.op = .fieldAddr 24 (.tmp 7) 1 := Option.some.inj hop
    have hu7 : a.tmps[7]? = some (.pointer (some ⟨gc, 0, none⟩)) := (hbase.2.2 7 (by decide)).trans x7
    have e7 : a.eval (.tmp 7) = _ := ev_tmp hu7
    refine st3 ho hwt (v := .pointer (some ⟨gc, 1, none⟩)) (w' := w) ?_ (hK _ w rfl (Below.refl _ _))
    unfold execOp
    simp only [hop, Option.map_some, Option.map_none, e7]
    first | rfl | (go_simp; done) | (go_simp; simp; done) | (go_simp; intro h; omega)
  | 1, _, hs, ho, hop, hds, hdep, hK =>
    have hop : o.op = .load 22 (.tmp 17) := Option.some.inj hop
    obtain ⟨u17, hu17, hv17⟩ := hdep 0 (by decide)
    have hv17' : u17 = .pointer (some ⟨gc, 1, none⟩) := hv17
    subst hv17'
    have e17 : a.eval (.tmp 17) = _ := ev_tmp hu17
    refine st3 ho hwt (v := .slice (some ⟨bA, oA, none⟩) n c) (w' := w) ?_ (hK _ w rfl (Below.refl _ _))
    have k1 : w.cell? ⟨gc, 1, none⟩ = some (.slice (some ⟨bA, oA, none⟩) n c) := (hB.below hbl hB.lt).cell rfl
    unfold execOp
    simp only [hop, Option.map_some, Option.map_none, e17]
    first | rfl | (go_simp; done) | (go_simp; simp; done) | (go_simp; intro h; omega)
  | 2, _, hs, ho, hop, hds, hdep, hK =>
    have hop : o.op = .move (.tmp 1) := Option.some.inj hop
    have hu1 : a.tmps[1]? = some (.int .i64 at_) := (hbase.2.2 1 (by decide)).trans x1
    have e1 : a.eval (.tmp 1) = _ := ev_tmp hu1
    refine st3 ho hwt (v := _) (w' := w) ?_ (hK _ w rfl (Below.refl _ _))
    unfold execOp
    rw [hop, ← e1]
    rfl
  | 3, _, hs, ho, hop, hds, hdep, hK =>
    have hop : o.op = .fieldAddr 24 (.tmp 7) 1 := Option.some.inj hop
    have hu7 : a.tmps[7]? = some (.pointer (some ⟨gc, 0, none⟩)) := (hbase.2.2 7 (by decide)).trans x7
    have e7 : a.eval (.tmp 7) = _ := ev_tmp hu7
    refine st3 ho hwt (v := .pointer (some ⟨gc, 1, none⟩)) (w' := w) ?_ (hK _ w rfl (Below.refl _ _))
    unfold execOp
    simp only [hop, Option.map_some, Option.map_none, e7]
    first | rfl | (go_simp; done) | (go_simp; simp; done) | (go_simp; intro h; omega)
  | 4, _, hs, ho, hop, hds, hdep, hK =>
    have hop : o.op = .load 22 (.tmp 20) := Option.some.inj hop
    obtain ⟨u20, hu20, hv20⟩ := hdep 3 (by decide)
    have hv20' : u20 = .pointer (some ⟨gc, 1, none⟩) := hv20
    subst hv20'
    have e20 : a.eval (.tmp 20) = _ := ev_tmp hu20
    refine st3 ho hwt (v := .slice (some ⟨bA, oA, none⟩) n c) (w' := w) ?_ (hK _ w rfl (Below.refl _ _))
    have k1 : w.cell? ⟨gc, 1, none⟩ = some (.slice (some ⟨bA, oA, none⟩) n c) := (hB.below hbl hB.lt).cell rfl
    unfold execOp
    simp only [hop, Option.map_some, Option.map_none, e20]
    first | rfl | (go_simp; done) | (go_simp; simp; done) | (go_simp; intro h; omega)
  | 5, _, hs, ho, hop, hds, hdep, hK =>
    have hop : o.op = .call { callee := .builtin .len, args := #[.tmp 21], argTypes := #[22] } := Option.some.inj hop
    obtain ⟨u21, hu21, hv21⟩ := hdep 4 (by decide)
    have hv21' : u21 = .slice (some ⟨bA, oA, none⟩) n c := hv21
    subst hv21'
    have e21 : a.eval (.tmp 21) = _ := ev_tmp hu21
    refine st3 ho hwt (v := .int .i64 n) (w' := w) ?_ (hK _ w rfl (Below.refl _ _))
    unfold execOp
    simp only [hop, resolve, invoke, builtin, Sem.run_bind, Sem.run_pure, Result.andThen_ok, List.map_toArray, List.map_cons, List.map_nil, e21]
    first | rfl | (go_simp; done) | (go_simp; simp; done) | (go_simp; intro h; omega)
  | 6, _, hs, ho, hop, hds, hdep, hK =>
    have hop : o.op = .call { callee := .value (.func 43), args := #[.tmp 19, .tmp 22], argTypes := #[3, 3] } := Option.some.inj hop
    obtain ⟨u19, hu19, hv19⟩ := hdep 2 (by decide)
    have hv19' : u19 = .int .i64 at_ := hv19
    subst hv19'
    have e19 : a.eval (.tmp 19) = _ := ev_tmp hu19
    obtain ⟨u22, hu22, hv22⟩ := hdep 5 (by decide)
    have hv22' : u22 = .int .i64 n := hv22
    subst hv22'
    have e22 : a.eval (.tmp 22) = _ := ev_tmp hu22
    refine st3_call ho hwt (f := 43) (vals := #[.int .i64 at_, .int .i64 n]) (Z := fun v w' => v = .int .i64 k ∧ Below w.heap.size w w') ?_ ?_ ?_
    · unfold execOp
      simp only [hop, e19, e22, resolve, invoke, Sem.run_bind, Sem.run_pure, Result.andThen_ok, List.map_toArray, List.map_cons, List.map_nil]
      first | rfl | exact enters_of Try.func43 (by kernel_rfl) rfl _ _
    · exact (hbr w).mono fun e w' ⟨he, h2⟩ => ⟨_, he, rfl, by rw [h2]; exact Below.refl _ _⟩
    · rintro v w' ⟨h1, h2⟩
      exact hK v w' h1 h2
  | 7, _, hs, ho, hop, hds, hdep, hK =>
    have hop : o.op = .indexAddr 22 (.tmp 18) (.tmp 23) := Option.some.inj hop
    obtain ⟨u18, hu18, hv18⟩ := hdep 1 (by decide)
    have hv18' : u18 = .slice (some ⟨bA, oA, none⟩) n c := hv18
    subst hv18'
    have e18 : a.eval (.tmp 18) = _ := ev_tmp hu18
    obtain ⟨u23, hu23, hv23⟩ := hdep 6 (by decide)
    have hv23' : u23 = .int .i64 k := hv23
    subst hv23'
    have e23 : a.eval (.tmp 23) = _ := ev_tmp hu23
    refine st3 ho hwt (v := .pointer (some ⟨bA, oA + k, none⟩)) (w' := w) ?_ (hK _ w rfl (Below.refl _ _))
    unfold execOp
    simp only [hop, Option.map_some, Option.map_none, e18, e23]
    first | rfl | (go_simp; done) | (go_simp; simp; done) | (go_simp; intro h; omega)
  | 8, _, hs, ho, hop, hds, hdep, hK =>
    have hop : o.op = .load 3 (.tmp 24) := Option.some.inj hop
    obtain ⟨u24, hu24, hv24⟩ := hdep 7 (by decide)
    have hv24' : u24 = .pointer (some ⟨bA, oA + k, none⟩) := hv24
    subst hv24'
    have e24 : a.eval (.tmp 24) = _ := ev_tmp hu24
    refine st3 ho hwt (v := .int .i64 old) (w' := w) ?_ (hK _ w rfl (Below.refl _ _))
    have hc : w.cell? ⟨bA, oA + k, none⟩ = some (.int .i64 old) := (hbl.cell (p := ⟨bA, oA + k, none⟩) hltA).trans hcA
    unfold execOp
    simp only [hop, Option.map_some, Option.map_none, e24]
    first | rfl | (go_simp; done) | (go_simp; simp; done) | (go_simp; intro h; omega)
  | 9, _, hs, ho, hop, hds, hdep, hK =>
    have hop : o.op = .assign (.tmp 25) := Option.some.inj hop
    obtain ⟨u25, hu25, hv25⟩ := hdep 8 (by decide)
    have hv25' : u25 = .int .i64 old := hv25
    subst hv25'
    have e25 : a.eval (.tmp 25) = _ := ev_tmp hu25
    refine st3 ho hwt (v := _) (w' := w) ?_ (hK _ w rfl (Below.refl _ _))
    unfold execOp
    rw [hop, ← e25]
    rfl
  | i + 10, hi, _, _, _, _, _, _ => exact absurd hi (by omega)
def tbR (gc gd gb : Nat) (f : Int) (A Ad Ab : Option Addr) (n c cd cb m : Nat) (x old : Int) : Nat → Value → World → Prop
  | 0 => fun v w => v = .agg #[.int .i64 f, .slice Ad n cd]
  | 1 => fun v w => v = .int .i64 0
  | 2 => fun v w => v = .bool true
  | 3 => fun v w => v = .bool true
  | 4 => fun v w => v = .agg #[.int .i64 f, .slice Ad n cd]
  | 5 => fun v w => v = .int .i64 x
  | 6 => fun v w => v = .bool true
  | 7 => fun v w => v = .bool true
  | 8 => fun v w => v = .bool true
  | 9 => fun v w => v = .agg #[.int .i64 f, .slice Ad n cd]
  | 10 => fun v w => v = .int .i64 old
  | 11 => fun v w => v = .bool false
  | 12 => fun v w => v = .bool true
  | 13 => fun v w => v = .bool true
  | 14 => fun v w => v = .bool true
  | 15 => fun v w => v = .agg #[.int .i64 f, .slice Ad n cd]
  | 16 => fun v w => v = .pointer (some ⟨gc, 1, none⟩)
  | 17 => fun v w => v = .slice A n c
  | 18 => fun v w => v = .int .i64 m
  | 19 => fun v w => v = .pointer (some ⟨gc, 1, none⟩)
  | 20 => fun v w => v = .slice A n c
  | 21 => fun v w => v = .int .i64 n
  | 22 => fun v w => v = .int .i64 m
  | 23 => fun v w => v = .bool true
  | 24 => fun v w => v = .bool true
  | 25 => fun v w => v = .bool true
  | 26 => fun v w => v = .int .i64 0
  | 27 => fun v w => v = .bool true
  | 28 => fun v w => v = .bool true
  | 29 => fun v w => v = .bool true
  | 30 => fun v w => v = .agg #[.int .i64 f, .slice Ab n cb]
  | 31 => fun v w => v = .agg #[.int .i64 f, .slice A n c]
  | 32 => fun v w => v = .bool true
  | 33 => fun v w => v = .bool true
  | 34 => fun v w => v = .bool true
  | _ => fun _ _ => True
def tbD (i : Nat) : Nat := ([52, 53, 54, 55, 56, 57, 58, 59, 60, 61, 62, 63, 64, 65, 66, 67, 68, 69, 70, 71, 72, 73, 74, 75, 76, 77, 78, 79, 80, 81, 82, 83, 84, 85, 6] : List Nat).getD i 0
def tbG : Nat → Option Bool
  | 3 => some true
  | 8 => some true
  | 14 => some true
  | 25 => some true
  | 29 => some true
  | _ => none
def tbS (i : Nat) : Bool := ([] : List Nat).contains i
theorem tb_gb (gc gd gb : Nat) (f : Int) (A Ad Ab : Option Addr) (n c cd cb m : Nat) (x old : Int) : ∀ i b v w, tbG i = some b → tbR gc gd gb f A Ad Ab n c cd cb m x old i v w → v = .bool b := by
  intro i b v w h hR
  unfold tbG at h
  split at h
  all_goals first | (injection h with h; subst h; exact hR) | cases h
theorem tb_sk (gc gd gb : Nat) (f : Int) (A Ad Ab : Option Addr) (n c cd cb m : Nat) (x old : Int) : ∀ i w, tbS i = true → tbR gc gd gb f A Ad Ab n c cd cb m x old i undef w := by
  intro i w h
  simp [tbS] at h
theorem tb_on (gc gd gb : Nat) (f : Int) (A Ad Ab : Option Addr) (n c cd cb m : Nat) (x old : Int) : ∀ i v w w', tbR gc gd gb f A Ad Ab n c cd cb m x old i v w → Below w.heap.size w w' → tbR gc gd gb f A Ad Ab n c cd cb m x old i v w'
  | 0, v, w, w', h, _ => h
  | 1, v, w, w', h, _ => h
  | 2, v, w, w', h, _ => h
  | 3, v, w, w', h, _ => h
  | 4, v, w, w', h, _ => h
  | 5, v, w, w', h, _ => h
  | 6, v, w, w', h, _ => h
  | 7, v, w, w', h, _ => h
  | 8, v, w, w', h, _ => h
  | 9, v, w, w', h, _ => h
  | 10, v, w, w', h, _ => h
  | 11, v, w, w', h, _ => h
  | 12, v, w, w', h, _ => h
  | 13, v, w, w', h, _ => h
  | 14, v, w, w', h, _ => h
  | 15, v, w, w', h, _ => h
  | 16, v, w, w', h, _ => h
  | 17, v, w, w', h, _ => h
  | 18, v, w, w', h, _ => h
  | 19, v, w, w', h, _ => h
  | 20, v, w, w', h, _ => h
  | 21, v, w, w', h, _ => h
  | 22, v, w, w', h, _ => h
  | 23, v, w, w', h, _ => h
  | 24, v, w, w', h, _ => h
  | 25, v, w, w', h, _ => h
  | 26, v, w, w', h, _ => h
  | 27, v, w, w', h, _ => h
  | 28, v, w, w', h, _ => h
  | 29, v, w, w', h, _ => h
  | 30, v, w, w', h, _ => h
  | 31, v, w, w', h, _ => h
  | 32, v, w, w', h, _ => h
  | 33, v, w, w', h, _ => h
  | 34, v, w, w', h, _ => h
  | i + 35, v, w, w', h, hb => trivial
def tbOps : List Op := [.load 24 (.tmp 9),
  .call { callee := .value (.func 20), args := #[.tmp 52], argTypes := #[24] },
  .binOp .eql 27 (.tmp 53) (.const (.int .i64 0)) 27,
  .move (.tmp 54),
  .load 24 (.tmp 9),
  .move (.tmp 2),
  .call { callee := .value (.func 32), args := #[.tmp 56, .tmp 57], argTypes := #[24, 3] },
  .pick (.tmp 55) (.tmp 58) (.const (.bool false)),
  .move (.tmp 59),
  .load 24 (.tmp 9),
  .move (.tmp 8),
  .call { callee := .value (.func 32), args := #[.tmp 61, .tmp 62], argTypes := #[24, 3] },
  .unOp .not 4 (.tmp 63),
  .pick (.tmp 60) (.tmp 64) (.const (.bool false)),
  .move (.tmp 65),
  .load 24 (.tmp 9),
  .fieldAddr 24 (.tmp 7) 1,
  .load 22 (.tmp 68),
  .call { callee := .value (.func 39), args := #[.tmp 67, .tmp 69], argTypes := #[24, 22] },
  .fieldAddr 24 (.tmp 7) 1,
  .load 22 (.tmp 71),
  .call { callee := .builtin .len, args := #[.tmp 72], argTypes := #[22] },
  .binOp .sub 3 (.tmp 73) (.const (.int .i64 1)) 3,
  .binOp .eql 3 (.tmp 70) (.tmp 74) 3,
  .pick (.tmp 66) (.tmp 75) (.const (.bool false)),
  .move (.tmp 76),
  .move (.tmp 12),
  .binOp .eql 27 (.tmp 78) (.const (.int .i64 0)) 27,
  .pick (.tmp 77) (.tmp 79) (.const (.bool false)),
  .move (.tmp 80),
  .load 24 (.tmp 11),
  .load 24 (.tmp 7),
  .call { callee := .value (.func 22), args := #[.tmp 82, .tmp 83], argTypes := #[24, 24] },
  .pick (.tmp 81) (.tmp 84) (.const (.bool false)),
  .assign (.tmp 85)]
def tbNeeds : Nat → List Nat
  | 0 => []
  | 1 => [0]
  | 2 => [1]
  | 3 => [2]
  | 4 => []
  | 5 => []
  | 6 => [4, 5]
  | 7 => [3, 6]
  | 8 => [7]
  | 9 => []
  | 10 => []
  | 11 => [9, 10]
  | 12 => [11]
  | 13 => [8, 12]
  | 14 => [13]
  | 15 => []
  | 16 => []
  | 17 => [16]
  | 18 => [15, 17]
  | 19 => []
  | 20 => [19]
  | 21 => [20]
  | 22 => [21]
  | 23 => [18, 22]
  | 24 => [14, 23]
  | 25 => [24]
  | 26 => []
  | 27 => [26]
  | 28 => [25, 27]
  | 29 => [28]
  | 30 => []
  | 31 => []
  | 32 => [30, 31]
  | 33 => [29, 32]
  | 34 => [33]
  | _ => []
set_option maxRecDepth 100000 in
set_option maxHeartbeats 3200000 in
theorem tb_step {ops : Array Oper} {Q : Exit → Act → World → Prop} {a0 : Act} {w0 : World} (gc gd gb : Nat) (f : Int) (A Ad Ab : Option Addr) (n c cd cb m : Nat) (x old : Int) (hops : ((List.range 35).map fun i => (ops[i]?).map Oper.op) = tbOps.map some)
    (hnd : ((List.range 35).all fun i => (tbNeeds i).all fun j => ((ops[i]?).map fun o => o.after.any fun e => Region.binds .any e && (e.on == j)).getD false) = true)
    (ns ds : List Int) (x7 : a0.tmps[7]? = some (.pointer (some ⟨gc, 0, none⟩))) (x9 : a0.tmps[9]? = some (.pointer (some ⟨gd, 0, none⟩))) (x11 : a0.tmps[11]? = some (.pointer (some ⟨gb, 0, none⟩))) (x2 : a0.tmps[2]? = some (.int .i64 x)) (x8 : a0.tmps[8]? = some (.int .i64 old)) (x12 : a0.tmps[12]? = some (.int .i64 0))
    (hB : Blk w0 gc 24 [.int .i64 f, .slice A n c]) (hA : ArgI w0 A n c ns) (hBd : Blk w0 gd 24 [.int .i64 f, .slice Ad n cd]) (hAd : ArgI w0 Ad n cd ds) (hBb : Blk w0 gb 24 [.int .i64 f, .slice Ab n cb]) (hAb : ArgI w0 Ab n cb ns)
    (hokd : okC f ds = true) (hx : hasR f ds x = true) (hold : hasR f ds old = false) (hvo : ((votesR f ds ns : Nat) : Int) = m) (hm : IntKind.i64.wrap ((n : Int) - 1) = m) :
    ∀ i o, i < 35 → tbS i = false → ops[i]? = some o → o.dst = some (tbD i) → ∀ a w, Base tbD 35 a0 a → Below w0.heap.size w0 w → Region.wanted o (yielded ops a.tmps) = true →
      (∀ j, (o.after.any fun e => Region.binds .any e && (e.on == j)) = true → Has tbD (tbR gc gd gb f A Ad Ab n c cd cb m x old) j a w) →
      ∀ K : Act → World → Prop, (∀ v w', tbR gc gd gb f A Ad Ab n c cd cb m x old i v w' → Below w.heap.size w w' → K (a.put o.dst v) w') → wpOp Try.prog ops Q i K a w := by
  intro i o hi hs ho hds a w hbase hbl hwt hdep0 K hK
  have hop : some o.op = tbOps[i]? := by
    have h1 : ((List.range 35).map fun i => (ops[i]?).map Oper.op)[i]? = some (some o.op) := by
      rw [List.getElem?_map, List.getElem?_range hi]; simp only [Option.map_some, ho]
    rw [hops, List.getElem?_map] at h1
    cases h2 : tbOps[i]? with
    | none => rw [h2] at h1; cases h1
    | some y => rw [h2] at h1; simp only [Option.map_some, Option.some.injEq] at h1; rw [h1]
  have hdep : ∀ j, j ∈ tbNeeds i → Has tbD (tbR gc gd gb f A Ad Ab n c cd cb m x old) j a w := fun j hj => by
    have h1 := List.all_eq_true.1 (List.all_eq_true.1 hnd i (List.mem_range.2 hi)) j hj
    rw [ho] at h1
    exact hdep0 j h1
  clear hdep0 hops hnd
  match i, hi, hs, ho, hop, hds, hdep, hK with
  | 0, _, hs, ho, hop, hds, hdep, hK =>
    have hop : o.op = .load 24 (.tmp 9) := Option.some.inj hop
    have hu9 : a.tmps[9]? = some (.pointer (some ⟨gd, 0, none⟩)) := (hbase.2.2 9 (by decide)).trans x9
    have e9 : a.eval (.tmp 9) = _ := ev_tmp hu9
    refine st3 ho hwt (v := .agg #[.int .i64 f, .slice Ad n cd]) (w' := w) ?_ (hK _ w rfl (Below.refl _ _))
    have k0 : w.cell? ⟨gd, 0, none⟩ = some (.int .i64 f) := (hBd.below hbl hBd.lt).cell rfl
    have k1 : w.cell? ⟨gd, 1, none⟩ = some (.slice Ad n cd) := (hBd.below hbl hBd.lt).cell rfl
    unfold execOp
    simp only [hop, Option.map_some, Option.map_none, e9]
    first | rfl | (go_simp; done) | (go_simp; simp; done) | (go_simp; intro h; omega)
  | 1, _, hs, ho, hop, hds, hdep, hK =>
    have hop : o.op = .call { callee := .value (.func 20), args := #[.tmp 52], argTypes := #[24] } := Option.some.inj hop
    obtain ⟨u52, hu52, hv52⟩ := hdep 0 (by decide)
    have hv52' : u52 = .agg #[.int .i64 f, .slice Ad n cd] := hv52
    subst hv52'
    have e52 : a.eval (.tmp 52) = _ := ev_tmp hu52
    refine st3_call ho hwt (f := 20) (vals := #[.agg #[.int .i64 f, .slice Ad n cd]]) (Z := fun v w' => v = .int .i64 0 ∧ Below w.heap.size w w') ?_ ?_ ?_
    · unfold execOp
      simp only [hop, e52, resolve, invoke, Sem.run_bind, Sem.run_pure, Result.andThen_ok, List.map_toArray, List.map_cons, List.map_nil]
      first | rfl | exact enters_of Try.func20 (by kernel_rfl) rfl _ _
    · exact (check_any f Ad n cd ds w (hAd.after hbl)).mono fun e w' ⟨he, h2⟩ => ⟨_, he, congrArg (Value.int .i64) (chk0 hokd), h2⟩
    · rintro v w' ⟨h1, h2⟩
      exact hK v w' h1 h2
  | 2, _, hs, ho, hop, hds, hdep, hK =>
    have hop : o.op = .binOp .eql 27 (.tmp 53) (.const (.int .i64 0)) 27 := Option.some.inj hop
    obtain ⟨u53, hu53, hv53⟩ := hdep 1 (by decide)
    have hv53' : u53 = .int .i64 0 := hv53
    subst hv53'
    have e53 : a.eval (.tmp 53) = _ := ev_tmp hu53
    refine st3 ho hwt (v := .bool true) (w' := w) ?_ (hK _ w rfl (Below.refl _ _))
    unfold execOp
    simp only [hop, e53]
    first | rfl | (go_simp; done) | (go_simp; simp; done) | (go_simp; intro h; omega)
  | 3, _, hs, ho, hop, hds, hdep, hK =>
    have hop : o.op = .move (.tmp 54) := Option.some.inj hop
    obtain ⟨u54, hu54, hv54⟩ := hdep 2 (by decide)
    have hv54' : u54 = .bool true := hv54
    subst hv54'
    have e54 : a.eval (.tmp 54) = _ := ev_tmp hu54
    refine st3 ho hwt (v := _) (w' := w) ?_ (hK _ w rfl (Below.refl _ _))
    unfold execOp
    rw [hop, ← e54]
    rfl
  | 4, _, hs, ho, hop, hds, hdep, hK =>
    have hop : o.op = .load 24 (.tmp 9) := Option.some.inj hop
    have hu9 : a.tmps[9]? = some (.pointer (some ⟨gd, 0, none⟩)) := (hbase.2.2 9 (by decide)).trans x9
    have e9 : a.eval (.tmp 9) = _ := ev_tmp hu9
    refine st3 ho hwt (v := .agg #[.int .i64 f, .slice Ad n cd]) (w' := w) ?_ (hK _ w rfl (Below.refl _ _))
    have k0 : w.cell? ⟨gd, 0, none⟩ = some (.int .i64 f) := (hBd.below hbl hBd.lt).cell rfl
    have k1 : w.cell? ⟨gd, 1, none⟩ = some (.slice Ad n cd) := (hBd.below hbl hBd.lt).cell rfl
    unfold execOp
    simp only [hop, Option.map_some, Option.map_none, e9]
    first | rfl | (go_simp; done) | (go_simp; simp; done) | (go_simp; intro h; omega)
  | 5, _, hs, ho, hop, hds, hdep, hK =>
    have hop : o.op = .move (.tmp 2) := Option.some.inj hop
    have hu2 : a.tmps[2]? = some (.int .i64 x) := (hbase.2.2 2 (by decide)).trans x2
    have e2 : a.eval (.tmp 2) = _ := ev_tmp hu2
    refine st3 ho hwt (v := _) (w' := w) ?_ (hK _ w rfl (Below.refl _ _))
    unfold execOp
    rw [hop, ← e2]
    rfl
  | 6, _, hs, ho, hop, hds, hdep, hK =>
    have hop : o.op = .call { callee := .value (.func 32), args := #[.tmp 56, .tmp 57], argTypes := #[24, 3] } := Option.some.inj hop
    obtain ⟨u56, hu56, hv56⟩ := hdep 4 (by decide)
    have hv56' : u56 = .agg #[.int .i64 f, .slice Ad n cd] := hv56
    subst hv56'
    have e56 : a.eval (.tmp 56) = _ := ev_tmp hu56
    obtain ⟨u57, hu57, hv57⟩ := hdep 5 (by decide)
    have hv57' : u57 = .int .i64 x := hv57
    subst hv57'
    have e57 : a.eval (.tmp 57) = _ := ev_tmp hu57
    refine st3_call ho hwt (f := 32) (vals := #[.agg #[.int .i64 f, .slice Ad n cd], .int .i64 x]) (Z := fun v w' => v = .bool true ∧ Below w.heap.size w w') ?_ ?_ ?_
    · unfold execOp
      simp only [hop, e56, e57, resolve, invoke, Sem.run_bind, Sem.run_pure, Result.andThen_ok, List.map_toArray, List.map_cons, List.map_nil]
      first | rfl | exact enters_of Try.func32 (by kernel_rfl) rfl _ _
    · exact (has_any f Ad n cd ds w (hAd.after hbl) x).mono fun e w' ⟨he, h2⟩ => ⟨_, he, congrArg Value.bool hx, h2⟩
    · rintro v w' ⟨h1, h2⟩
      exact hK v w' h1 h2
  | 7, _, hs, ho, hop, hds, hdep, hK =>
    have hop : o.op = .pick (.tmp 55) (.tmp 58) (.const (.bool false)) := Option.some.inj hop
    obtain ⟨u55, hu55, hv55⟩ := hdep 3 (by decide)
    have hv55' : u55 = .bool true := hv55
    subst hv55'
    have e55 : a.eval (.tmp 55) = _ := ev_tmp hu55
    obtain ⟨u58, hu58, hv58⟩ := hdep 6 (by decide)
    have hv58' : u58 = .bool true := hv58
    subst hv58'
    have e58 : a.eval (.tmp 58) = _ := ev_tmp hu58
    refine st3 ho hwt (v := .bool true) (w' := w) ?_ (hK _ w rfl (Below.refl _ _))
    unfold execOp
    simp only [hop, e55, e58]
    first | rfl | (go_simp; done) | (go_simp; simp; done) | (go_simp; intro h; omega)
  | 8, _, hs, ho, hop, hds, hdep, hK =>
    have hop : o.op = .move (.tmp 59) := Option.some.inj hop
    obtain ⟨u59, hu59, hv59⟩ := hdep 7 (by decide)
    have hv59' : u59 = .bool true := hv59
    subst hv59'
    have e59 : a.eval (.tmp 59) = _ := ev_tmp hu59
    refine st3 ho hwt (v := _) (w' := w) ?_ (hK _ w rfl (Below.refl _ _))
    unfold execOp
    rw [hop, ← e59]
    rfl
  | 9, _, hs, ho, hop, hds, hdep, hK =>
    have hop : o.op = .load 24 (.tmp 9) := Option.some.inj hop
    have hu9 : a.tmps[9]? = some (.pointer (some ⟨gd, 0, none⟩)) := (hbase.2.2 9 (by decide)).trans x9
    have e9 : a.eval (.tmp 9) = _ := ev_tmp hu9
    refine st3 ho hwt (v := .agg #[.int .i64 f, .slice Ad n cd]) (w' := w) ?_ (hK _ w rfl (Below.refl _ _))
    have k0 : w.cell? ⟨gd, 0, none⟩ = some (.int .i64 f) := (hBd.below hbl hBd.lt).cell rfl
    have k1 : w.cell? ⟨gd, 1, none⟩ = some (.slice Ad n cd) := (hBd.below hbl hBd.lt).cell rfl
    unfold execOp
    simp only [hop, Option.map_some, Option.map_none, e9]
    first | rfl | (go_simp; done) | (go_simp; simp; done) | (go_simp; intro h; omega)
  | 10, _, hs, ho, hop, hds, hdep, hK =>
    have hop : o.op = .move (.tmp 8) := Option.some.inj hop
    have hu8 : a.tmps[8]? = some (.int .i64 old) := (hbase.2.2 8 (by decide)).trans x8
    have e8 : a.eval (.tmp 8) = _ := ev_tmp hu8
    refine st3 ho hwt (v := _) (w' := w) ?_ (hK _ w rfl (Below.refl _ _))
    unfold execOp
    rw [hop, ← e8]
    rfl
  | 11, _, hs, ho, hop, hds, hdep, hK =>
    have hop : o.op = .call { callee := .value (.func 32), args := #[.tmp 61, .tmp 62], argTypes := #[24, 3] } := Option.some.inj hop
    obtain ⟨u61, hu61, hv61⟩ := hdep 9 (by decide)
    have hv61' : u61 = .agg #[.int .i64 f, .slice Ad n cd] := hv61
    subst hv61'
    have e61 : a.eval (.tmp 61) = _ := ev_tmp hu61
    obtain ⟨u62, hu62, hv62⟩ := hdep 10 (by decide)
    have hv62' : u62 = .int .i64 old := hv62
    subst hv62'
    have e62 : a.eval (.tmp 62) = _ := ev_tmp hu62
    refine st3_call ho hwt (f := 32) (vals := #[.agg #[.int .i64 f, .slice Ad n cd], .int .i64 old]) (Z := fun v w' => v = .bool false ∧ Below w.heap.size w w') ?_ ?_ ?_
    · unfold execOp
      simp only [hop, e61, e62, resolve, invoke, Sem.run_bind, Sem.run_pure, Result.andThen_ok, List.map_toArray, List.map_cons, List.map_nil]
      first | rfl | exact enters_of Try.func32 (by kernel_rfl) rfl _ _
    · exact (has_any f Ad n cd ds w (hAd.after hbl) old).mono fun e w' ⟨he, h2⟩ => ⟨_, he, congrArg Value.bool hold, h2⟩
    · rintro v w' ⟨h1, h2⟩
      exact hK v w' h1 h2
  | 12, _, hs, ho, hop, hds, hdep, hK =>
    have hop : o.op = .unOp .not 4 (.tmp 63) := Option.some.inj hop
    obtain ⟨u63, hu63, hv63⟩ := hdep 11 (by decide)
    have hv63' : u63 = .bool false := hv63
    subst hv63'
    have e63 : a.eval (.tmp 63) = _ := ev_tmp hu63
    refine st3 ho hwt (v := .bool true) (w' := w) ?_ (hK _ w rfl (Below.refl _ _))
    unfold execOp
    simp only [hop, e63]
    first | rfl | (go_simp; done) | (go_simp; simp; done) | (go_simp; intro h; omega)
  | 13, _, hs, ho, hop, hds, hdep, hK =>
    have hop : o.op = .pick (.tmp 60) (.tmp 64) (.const (.bool false)) := Option.some.inj hop
    obtain ⟨u60, hu60, hv60⟩ := hdep 8 (by decide)
    have hv60' : u60 = .bool true := hv60
    subst hv60'
    have e60 : a.eval (.tmp 60) = _ := ev_tmp hu60
    obtain ⟨u64, hu64, hv64⟩ := hdep 12 (by decide)
    have hv64' : u64 = .bool true := hv64
    subst hv64'
    have e64 : a.eval (.tmp 64) = _ := ev_tmp hu64
    refine st3 ho hwt (v := .bool true) (w' := w) ?_ (hK _ w rfl (Below.refl _ _))
    unfold execOp
    simp only [hop, e60, e64]
    first | rfl | (go_simp; done) | (go_simp; simp; done) | (go_simp; intro h; omega)
  | 14, _, hs, ho, hop, hds, hdep, hK =>
    have hop : o.op = .move (.tmp 65) := Option.some.inj hop
    obtain ⟨u65, hu65, hv65⟩ := hdep 13 (by decide)
    have hv65' : u65 = .bool true := hv65
    subst hv65'
    have e65 : a.eval (.tmp 65) = _ := ev_tmp hu65
    refine st3 ho hwt (v := _) (w' := w) ?_ (hK _ w rfl (Below.refl _ _))
    unfold execOp
    rw [hop, ← e65]
    rfl
  | 15, _, hs, ho, hop, hds, hdep, hK =>
    have hop : o.op = .load 24 (.tmp 9) := Option.some.inj hop
    have hu9 : a.tmps[9]? = some (.pointer (some ⟨gd, 0, none⟩)) := (hbase.2.2 9 (by decide)).trans x9
    have e9 : a.eval (.tmp 9) = _ := ev_tmp hu9
    refine st3 ho hwt (v := .agg #[.int .i64 f, .slice Ad n cd]) (w' := w) ?_ (hK _ w rfl (Below.refl _ _))
    have k0 : w.cell? ⟨gd, 0, none⟩ = some (.int .i64 f) := (hBd.below hbl hBd.lt).cell rfl
    have k1 : w.cell? ⟨gd, 1, none⟩ = some (.slice Ad n cd) := (hBd.below hbl hBd.lt).cell rfl
    unfold execOp
    simp only [hop, Option.map_some, Option.map_none, e9]
    first | rfl | (go_simp; done) | (go_simp; simp; done) | (go_simp; intro h; omega)
  | 16, _, hs, ho, hop, hds, hdep, hK =>
    have hop : o.op = .fieldAddr 24 (.tmp 7) 1 := Option.some.inj hop
    have hu7 : a.tmps[7]? = some (.pointer (some ⟨gc, 0, none⟩)) := (hbase.2.2 7 (by decide)).trans x7
    have e7 : a.eval (.tmp 7) = _ := ev_tmp hu7
    refine st3 ho hwt (v := .pointer (some ⟨gc, 1, none⟩)) (w' := w) ?_ (hK _ w rfl (Below.refl _ _))
    unfold execOp
    simp only [hop, Option.map_some, Option.map_none, e7]
    first | rfl | (go_simp; done) | (go_simp; simp; done) | (go_simp; intro h; omega)
  | 17, _, hs, ho, hop, hds, hdep, hK =>
    have hop : o.op = .load 22 (.tmp 68) := Option.some.inj hop
    obtain ⟨u68, hu68, hv68⟩ := hdep 16 (by decide)
    have hv68' : u68 = .pointer (some ⟨gc, 1, none⟩) := hv68
    subst hv68'
    have e68 : a.eval (.tmp 68) = _ := ev_tmp hu68
    refine st3 ho hwt (v := .slice A n c) (w' := w) ?_ (hK _ w rfl (Below.refl _ _))
    have k1 : w.cell? ⟨gc, 1, none⟩ = some (.slice A n c) := (hB.below hbl hB.lt).cell rfl
    unfold execOp
    simp only [hop, Option.map_some, Option.map_none, e68]
    first | rfl | (go_simp; done) | (go_simp; simp; done) | (go_simp; intro h; omega)
  | 18, _, hs, ho, hop, hds, hdep, hK =>
    have hop : o.op = .call { callee := .value (.func 39), args := #[.tmp 67, .tmp 69], argTypes := #[24, 22] } := Option.some.inj hop
    obtain ⟨u67, hu67, hv67⟩ := hdep 15 (by decide)
    have hv67' : u67 = .agg #[.int .i64 f, .slice Ad n cd] := hv67
    subst hv67'
    have e67 : a.eval (.tmp 67) = _ := ev_tmp hu67
    obtain ⟨u69, hu69, hv69⟩ := hdep 17 (by decide)
    have hv69' : u69 = .slice A n c := hv69
    subst hv69'
    have e69 : a.eval (.tmp 69) = _ := ev_tmp hu69
    refine st3_call ho hwt (f := 39) (vals := #[.agg #[.int .i64 f, .slice Ad n cd], .slice A n c]) (Z := fun v w' => v = .int .i64 m ∧ Below w.heap.size w w') ?_ ?_ ?_
    · unfold execOp
      simp only [hop, e67, e69, resolve, invoke, Sem.run_bind, Sem.run_pure, Result.andThen_ok, List.map_toArray, List.map_cons, List.map_nil]
      first | rfl | exact enters_of Try.func39 (by kernel_rfl) rfl _ _
    · exact (votes_any f Ad n cd ds w (hAd.after hbl) A n c ns (hA.after hbl)).mono fun e w' ⟨he, h2⟩ => ⟨_, he, congrArg (Value.int .i64) hvo, h2⟩
    · rintro v w' ⟨h1, h2⟩
      exact hK v w' h1 h2
  | 19, _, hs, ho, hop, hds, hdep, hK =>
    have hop : o.op = .fieldAddr 24 (.tmp 7) 1 := Option.some.inj hop
    have hu7 : a.tmps[7]? = some (.pointer (some ⟨gc, 0, none⟩)) := (hbase.2.2 7 (by decide)).trans x7
    have e7 : a.eval (.tmp 7) = _ := ev_tmp hu7
    refine st3 ho hwt (v := .pointer (some ⟨gc, 1, none⟩)) (w' := w) ?_ (hK _ w rfl (Below.refl _ _))
    unfold execOp
    simp only [hop, Option.map_some, Option.map_none, e7]
    first | rfl | (go_simp; done) | (go_simp; simp; done) | (go_simp; intro h; omega)
  | 20, _, hs, ho, hop, hds, hdep, hK =>
    have hop : o.op = .load 22 (.tmp 71) := Option.some.inj hop
    obtain ⟨u71, hu71, hv71⟩ := hdep 19 (by decide)
    have hv71' : u71 = .pointer (some ⟨gc, 1, none⟩) := hv71
    subst hv71'
    have e71 : a.eval (.tmp 71) = _ := ev_tmp hu71
    refine st3 ho hwt (v := .slice A n c) (w' := w) ?_ (hK _ w rfl (Below.refl _ _))
    have k1 : w.cell? ⟨gc, 1, none⟩ = some (.slice A n c) := (hB.below hbl hB.lt).cell rfl
    unfold execOp
    simp only [hop, Option.map_some, Option.map_none, e71]
    first | rfl | (go_simp; done) | (go_simp; simp; done) | (go_simp; intro h; omega)
  | 21, _, hs, ho, hop, hds, hdep, hK =>
    have hop : o.op = .call { callee := .builtin .len, args := #[.tmp 72], argTypes := #[22] } := Option.some.inj hop
    obtain ⟨u72, hu72, hv72⟩ := hdep 20 (by decide)
    have hv72' : u72 = .slice A n c := hv72
    subst hv72'
    have e72 : a.eval (.tmp 72) = _ := ev_tmp hu72
    refine st3 ho hwt (v := .int .i64 n) (w' := w) ?_ (hK _ w rfl (Below.refl _ _))
    unfold execOp
    simp only [hop, resolve, invoke, builtin, Sem.run_bind, Sem.run_pure, Result.andThen_ok, List.map_toArray, List.map_cons, List.map_nil, e72]
    first | rfl | (go_simp; done) | (go_simp; simp; done) | (go_simp; intro h; omega)
  | 22, _, hs, ho, hop, hds, hdep, hK =>
    have hop : o.op = .binOp .sub 3 (.tmp 73) (.const (.int .i64 1)) 3 := Option.some.inj hop
    obtain ⟨u73, hu73, hv73⟩ := hdep 21 (by decide)
    have hv73' : u73 = .int .i64 n := hv73
    subst hv73'
    have e73 : a.eval (.tmp 73) = _ := ev_tmp hu73
    refine st3 ho hwt (v := .int .i64 m) (w' := w) ?_ (hK _ w rfl (Below.refl _ _))
    unfold execOp
    simp only [hop, Option.map_some, Option.map_none, e73]
    first | rfl | (go_simp; done) | (go_simp; simp; done) | (go_simp; intro h; omega)
  | 23, _, hs, ho, hop, hds, hdep, hK =>
    have hop : o.op = .binOp .eql 3 (.tmp 70) (.tmp 74) 3 := Option.some.inj hop
    obtain ⟨u70, hu70, hv70⟩ := hdep 18 (by decide)
    have hv70' : u70 = .int .i64 m := hv70
    subst hv70'
    have e70 : a.eval (.tmp 70) = _ := ev_tmp hu70
    obtain ⟨u74, hu74, hv74⟩ := hdep 22 (by decide)
    have hv74' : u74 = .int .i64 m := hv74
    subst hv74'
    have e74 : a.eval (.tmp 74) = _ := ev_tmp hu74
    refine st3 ho hwt (v := .bool true) (w' := w) ?_ (hK _ w rfl (Below.refl _ _))
    unfold execOp
    simp only [hop, e70, e74]
    first | rfl | (go_simp; done) | (go_simp; simp; done) | (go_simp; intro h; omega)
  | 24, _, hs, ho, hop, hds, hdep, hK =>
    have hop : o.op = .pick (.tmp 66) (.tmp 75) (.const (.bool false)) := Option.some.inj hop
    obtain ⟨u66, hu66, hv66⟩ := hdep 14 (by decide)
    have hv66' : u66 = .bool true := hv66
    subst hv66'
    have e66 : a.eval (.tmp 66) = _ := ev_tmp hu66
    obtain ⟨u75, hu75, hv75⟩ := hdep 23 (by decide)
    have hv75' : u75 = .bool true := hv75
    subst hv75'
    have e75 : a.eval (.tmp 75) = _ := ev_tmp hu75
    refine st3 ho hwt (v := .bool true) (w' := w) ?_ (hK _ w rfl (Below.refl _ _))
    unfold execOp
    simp only [hop, e66, e75]
    first | rfl | (go_simp; done) | (go_simp; simp; done) | (go_simp; intro h; omega)
  | 25, _, hs, ho, hop, hds, hdep, hK =>
    have hop : o.op = .move (.tmp 76) := Option.some.inj hop
    obtain ⟨u76, hu76, hv76⟩ := hdep 24 (by decide)
    have hv76' : u76 = .bool true := hv76
    subst hv76'
    have e76 : a.eval (.tmp 76) = _ := ev_tmp hu76
    refine st3 ho hwt (v := _) (w' := w) ?_ (hK _ w rfl (Below.refl _ _))
    unfold execOp
    rw [hop, ← e76]
    rfl
  | 26, _, hs, ho, hop, hds, hdep, hK =>
    have hop : o.op = .move (.tmp 12) := Option.some.inj hop
    have hu12 : a.tmps[12]? = some (.int .i64 0) := (hbase.2.2 12 (by decide)).trans x12
    have e12 : a.eval (.tmp 12) = _ := ev_tmp hu12
    refine st3 ho hwt (v := _) (w' := w) ?_ (hK _ w rfl (Below.refl _ _))
    unfold execOp
    rw [hop, ← e12]
    rfl
  | 27, _, hs, ho, hop, hds, hdep, hK =>
    have hop : o.op = .binOp .eql 27 (.tmp 78) (.const (.int .i64 0)) 27 := Option.some.inj hop
    obtain ⟨u78, hu78, hv78⟩ := hdep 26 (by decide)
    have hv78' : u78 = .int .i64 0 := hv78
    subst hv78'
    have e78 : a.eval (.tmp 78) = _ := ev_tmp hu78
    refine st3 ho hwt (v := .bool true) (w' := w) ?_ (hK _ w rfl (Below.refl _ _))
    unfold execOp
    simp only [hop, e78]
    first | rfl | (go_simp; done) | (go_simp; simp; done) | (go_simp; intro h; omega)
  | 28, _, hs, ho, hop, hds, hdep, hK =>
    have hop : o.op = .pick (.tmp 77) (.tmp 79) (.const (.bool false)) := Option.some.inj hop
    obtain ⟨u77, hu77, hv77⟩ := hdep 25 (by decide)
    have hv77' : u77 = .bool true := hv77
    subst hv77'
    have e77 : a.eval (.tmp 77) = _ := ev_tmp hu77
    obtain ⟨u79, hu79, hv79⟩ := hdep 27 (by decide)
    have hv79' : u79 = .bool true := hv79
    subst hv79'
    have e79 : a.eval (.tmp 79) = _ := ev_tmp hu79
    refine st3 ho hwt (v := .bool true) (w' := w) ?_ (hK _ w rfl (Below.refl _ _))
    unfold execOp
    simp only [hop, e77, e79]
    first | rfl | (go_simp; done) | (go_simp; simp; done) | (go_simp; intro h; omega)
  | 29, _, hs, ho, hop, hds, hdep, hK =>
    have hop : o.op = .move (.tmp 80) := Option.some.inj hop
    obtain ⟨u80, hu80, hv80⟩ := hdep 28 (by decide)
    have hv80' : u80 = .bool true := hv80
    subst hv80'
    have e80 : a.eval (.tmp 80) = _ := ev_tmp hu80
    refine st3 ho hwt (v := _) (w' := w) ?_ (hK _ w rfl (Below.refl _ _))
    unfold execOp
    rw [hop, ← e80]
    rfl
  | 30, _, hs, ho, hop, hds, hdep, hK =>
    have hop : o.op = .load 24 (.tmp 11) := Option.some.inj hop
    have hu11 : a.tmps[11]? = some (.pointer (some ⟨gb, 0, none⟩)) := (hbase.2.2 11 (by decide)).trans x11
    have e11 : a.eval (.tmp 11) = _ := ev_tmp hu11
    refine st3 ho hwt (v := .agg #[.int .i64 f, .slice Ab n cb]) (w' := w) ?_ (hK _ w rfl (Below.refl _ _))
    have k0 : w.cell? ⟨gb, 0, none⟩ = some (.int .i64 f) := (hBb.below hbl hBb.lt).cell rfl
    have k1 : w.cell? ⟨gb, 1, none⟩ = some (.slice Ab n cb) := (hBb.below hbl hBb.lt).cell rfl
    unfold execOp
    simp only [hop, Option.map_some, Option.map_none, e11]
    first | rfl | (go_simp; done) | (go_simp; simp; done) | (go_simp; intro h; omega)
  | 31, _, hs, ho, hop, hds, hdep, hK =>
    have hop : o.op = .load 24 (.tmp 7) := Option.some.inj hop
    have hu7 : a.tmps[7]? = some (.pointer (some ⟨gc, 0, none⟩)) := (hbase.2.2 7 (by decide)).trans x7
    have e7 : a.eval (.tmp 7) = _ := ev_tmp hu7
    refine st3 ho hwt (v := .agg #[.int .i64 f, .slice A n c]) (w' := w) ?_ (hK _ w rfl (Below.refl _ _))
    have k0 : w.cell? ⟨gc, 0, none⟩ = some (.int .i64 f) := (hB.below hbl hB.lt).cell rfl
    have k1 : w.cell? ⟨gc, 1, none⟩ = some (.slice A n c) := (hB.below hbl hB.lt).cell rfl
    unfold execOp
    simp only [hop, Option.map_some, Option.map_none, e7]
    first | rfl | (go_simp; done) | (go_simp; simp; done) | (go_simp; intro h; omega)
  | 32, _, hs, ho, hop, hds, hdep, hK =>
    have hop : o.op = .call { callee := .value (.func 22), args := #[.tmp 82, .tmp 83], argTypes := #[24, 24] } := Option.some.inj hop
    obtain ⟨u82, hu82, hv82⟩ := hdep 30 (by decide)
    have hv82' : u82 = .agg #[.int .i64 f, .slice Ab n cb] := hv82
    subst hv82'
    have e82 : a.eval (.tmp 82) = _ := ev_tmp hu82
    obtain ⟨u83, hu83, hv83⟩ := hdep 31 (by decide)
    have hv83' : u83 = .agg #[.int .i64 f, .slice A n c] := hv83
    subst hv83'
    have e83 : a.eval (.tmp 83) = _ := ev_tmp hu83
    refine st3_call ho hwt (f := 22) (vals := #[.agg #[.int .i64 f, .slice Ab n cb], .agg #[.int .i64 f, .slice A n c]]) (Z := fun v w' => v = .bool true ∧ Below w.heap.size w w') ?_ ?_ ?_
    · unfold execOp
      simp only [hop, e82, e83, resolve, invoke, Sem.run_bind, Sem.run_pure, Result.andThen_ok, List.map_toArray, List.map_cons, List.map_nil]
      first | rfl | exact enters_of Try.func22 (by kernel_rfl) rfl _ _
    · exact (same_any f f Ab A n n cb c ns ns w (hAb.after hbl) (hA.after hbl)).mono fun e w' ⟨he, h2⟩ => ⟨_, he, congrArg Value.bool (by simp), h2⟩
    · rintro v w' ⟨h1, h2⟩
      exact hK v w' h1 h2
  | 33, _, hs, ho, hop, hds, hdep, hK =>
    have hop : o.op = .pick (.tmp 81) (.tmp 84) (.const (.bool false)) := Option.some.inj hop
    obtain ⟨u81, hu81, hv81⟩ := hdep 29 (by decide)
    have hv81' : u81 = .bool true := hv81
    subst hv81'
    have e81 : a.eval (.tmp 81) = _ := ev_tmp hu81
    obtain ⟨u84, hu84, hv84⟩ := hdep 32 (by decide)
    have hv84' : u84 = .bool true := hv84
    subst hv84'
    have e84 : a.eval (.tmp 84) = _ := ev_tmp hu84
    refine st3 ho hwt (v := .bool true) (w' := w) ?_ (hK _ w rfl (Below.refl _ _))
    unfold execOp
    simp only [hop, e81, e84]
    first | rfl | (go_simp; done) | (go_simp; simp; done) | (go_simp; intro h; omega)
  | 34, _, hs, ho, hop, hds, hdep, hK =>
    have hop : o.op = .assign (.tmp 85) := Option.some.inj hop
    obtain ⟨u85, hu85, hv85⟩ := hdep 33 (by decide)
    have hv85' : u85 = .bool true := hv85
    subst hv85'
    have e85 : a.eval (.tmp 85) = _ := ev_tmp hu85
    refine st3 ho hwt (v := _) (w' := w) ?_ (hK _ w rfl (Below.refl _ _))
    unfold execOp
    rw [hop, ← e85]
    rfl
  | i + 35, hi, _, _, _, _, _, _ => exact absurd hi (by omega)
end Go.Proofs.Ytjibbbfpbflgmaa
