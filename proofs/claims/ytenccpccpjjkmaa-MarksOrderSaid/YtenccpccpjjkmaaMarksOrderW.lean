/-
  For all words l (60 at most are looked at, numbers from 1 to 4): what is taken from the first word on is taken from the last one on, and what is stable and known is the same; MarksOrder returns true; no condition.
-/
import Derived.Test.YtenccpccpjjkmaaZ01
import Derived.Test.YtenccpccpjjkmaaZ14
namespace Go.Proofs.Ytenccpccpjjkmaa.marksOrder
open Go.ChangeShapes Go.WideShapes Go.ChangeAt Go.RowKit Go.Maps Go.Shelf Go.Sort CrewP
set_option linter.unusedVariables false

set_option linter.unusedSimpArgs false
/-- What Vote says, and both marks behind it. -/
def VoR2 (wB : World) (g h : Nat) (a b : Ms) (V : BlkL) (E : Int) (v : Value) (w : World) : Prop := v = .int .i64 E ∧ Aw2 wB w g h a b V
theorem VoR2.below {wB w w' : World} {g h : Nat} {a b : Ms} {V : BlkL} {E : Int} {v : Value} (k : VoR2 wB g h a b V E v w) (hb : Below w.heap.size w w') : VoR2 wB g h a b V E v w' := ⟨k.1, k.2.below hb⟩
def woR (wB : World) (bl off oo nl cl : Nat) (iv nd sq n1 n2 q1 q2 : Int) (b c : UInt8) : Nat → Value → World → Prop
  | 0 => fun v w => v = .slice (some ⟨bl, off, none⟩) nl cl
  | 1 => fun v w => v = .int .i64 iv
  | 2 => fun v w => v = .pointer (some ⟨bl, oo, none⟩)
  | 3 => fun v w => v = .pointer (some ⟨bl, oo, none⟩)
  | 4 => fun v w => v = .int .i64 nd
  | 5 => fun v w => v = .int .i64 n1
  | 6 => fun v w => v = .int .i64 n2
  | 7 => fun v w => v = .slice (some ⟨bl, off, none⟩) nl cl
  | 8 => fun v w => v = .int .i64 iv
  | 9 => fun v w => v = .pointer (some ⟨bl, oo, none⟩)
  | 10 => fun v w => v = .pointer (some ⟨bl, oo + 1, none⟩)
  | 11 => fun v w => v = .int .i64 sq
  | 12 => fun v w => v = .int .i64 q1
  | 13 => fun v w => v = .int .i64 q2
  | 14 => fun v w => v = .slice (some ⟨bl, off, none⟩) nl cl
  | 15 => fun v w => v = .int .i64 iv
  | 16 => fun v w => v = .pointer (some ⟨bl, oo, none⟩)
  | 17 => fun v w => v = .pointer (some ⟨bl, oo + 2, none⟩)
  | 18 => fun v w => v = .int .u8 (b.toNat : Int)
  | 19 => fun v w => v = .int .u8 (c.toNat : Int)
  | 20 => fun v w => v = .agg #[.int .i64 n2, .int .i64 q2, .int .u8 (c.toNat : Int)]
  | 21 => fun v w => ∃ r x y z, v = .pointer (some ⟨r, 0, none⟩) ∧ Blk w r 48 [x, y, z] ∧ wB.heap.size ≤ r
  | 22 => fun v w => ∃ r, v = .pointer (some ⟨r, 0, none⟩) ∧ Blk w r 48 [.int .i64 n2, .int .i64 q2, .int .u8 (c.toNat : Int)] ∧ wB.heap.size ≤ r
  | _ => fun _ _ => True
def woD (i : Nat) : Nat := ([29, 30, 31, 32, 33, 34, 35, 36, 37, 38, 39, 40, 41, 42, 43, 44, 45, 46, 47, 48, 49, 7, 7] : List Nat).getD i 0
theorem wo_on (wB : World) (bl off oo nl cl : Nat) (iv nd sq n1 n2 q1 q2 : Int) (b c : UInt8) : ∀ i v w w', woR wB bl off oo nl cl iv nd sq n1 n2 q1 q2 b c i v w → Below w.heap.size w w' → woR wB bl off oo nl cl iv nd sq n1 n2 q1 q2 b c i v w'
  | 0, v, w, w', h, _ => h
  | 1, v, w, w', h, _ => h
  | 2, v, w, w', h, _ => h
  | 3, v, w, w', h, _ => h
  | 4, v, w, w', h, _ => h
  | 5, v, w, w', h, _ => h
  | 6, v, w, w', h, _ => h
  | 7, v, w, w', h, _ => h
  | 8, v, w, w', h, _ => h
  | 9, v, w, w', h, _ => h
  | 10, v, w, w', h, _ => h
  | 11, v, w, w', h, _ => h
  | 12, v, w, w', h, _ => h
  | 13, v, w, w', h, _ => h
  | 14, v, w, w', h, _ => h
  | 15, v, w, w', h, _ => h
  | 16, v, w, w', h, _ => h
  | 17, v, w, w', h, _ => h
  | 18, v, w, w', h, _ => h
  | 19, v, w, w', h, _ => h
  | 20, v, w, w', h, _ => h
  | 21, v, w, w', h, hb => let ⟨r, x, y, z, e, hB, hg⟩ := h; ⟨r, x, y, z, e, hB.below hb hB.lt, hg⟩
  | 22, v, w, w', h, hb => let ⟨r, e, hB, hg⟩ := h; ⟨r, e, hB.below hb hB.lt, hg⟩
  | i + 23, v, w, w', h, hb => trivial
theorem wo_keep22 (wB : World) (bl off oo nl cl : Nat) (iv nd sq n1 n2 q1 q2 : Int) (b c : UInt8) {w : World} {gw : Nat} {x0 y0 z0 : Value} (hB : Blk w gw 48 [x0, y0, z0]) (ws : List Value) (hl : ws.length = 3) : ∀ j u, j ≠ 22 → woR wB bl off oo nl cl iv nd sq n1 n2 q1 q2 b c j u w → woR wB bl off oo nl cl iv nd sq n1 n2 q1 q2 b c j u (w.setCells gw 0 ws)
  | 0, u, e, h => h
  | 1, u, e, h => h
  | 2, u, e, h => h
  | 3, u, e, h => h
  | 4, u, e, h => h
  | 5, u, e, h => h
  | 6, u, e, h => h
  | 7, u, e, h => h
  | 8, u, e, h => h
  | 9, u, e, h => h
  | 10, u, e, h => h
  | 11, u, e, h => h
  | 12, u, e, h => h
  | 13, u, e, h => h
  | 14, u, e, h => h
  | 15, u, e, h => h
  | 16, u, e, h => h
  | 17, u, e, h => h
  | 18, u, e, h => h
  | 19, u, e, h => h
  | 20, u, e, h => h
  | 21, u, e, h => let ⟨r, x, y, z, e, hC, hg⟩ := h; let ⟨x', y', z', hD⟩ := word_keep hC hB ws hl; ⟨r, x', y', z', e, hD, hg⟩
  | 22, u, e, h => absurd rfl e
  | j + 23, u, e, h => trivial
def woX (wB : World) (bl off oo nl cl : Nat) (iv nd sq n1 n2 q1 q2 : Int) (b c : UInt8) (w : World) : Prop := True
def woOps : List Op := [.move (.tmp 0),
  .move (.tmp 6),
  .indexAddr 45 (.tmp 29) (.tmp 30),
  .fieldAddr 48 (.tmp 31) 0,
  .load 3 (.tmp 32),
  .call { callee := .value (.func 11), args := #[.tmp 33, .const (.int .i64 4)], argTypes := #[3, 3] },
  .binOp .add 3 (.const (.int .i64 1)) (.tmp 34) 3,
  .move (.tmp 0),
  .move (.tmp 6),
  .indexAddr 45 (.tmp 36) (.tmp 37),
  .fieldAddr 48 (.tmp 38) 1,
  .load 3 (.tmp 39),
  .call { callee := .value (.func 11), args := #[.tmp 40, .const (.int .i64 4)], argTypes := #[3, 3] },
  .binOp .add 3 (.const (.int .i64 1)) (.tmp 41) 3,
  .move (.tmp 0),
  .move (.tmp 6),
  .indexAddr 45 (.tmp 43) (.tmp 44),
  .fieldAddr 48 (.tmp 45) 2,
  .load 5 (.tmp 46),
  .binOp .and 5 (.tmp 47) (.const (.int .u8 1)) 5,
  .build 48 #[(0, .tmp 35), (1, .tmp 42), (2, .tmp 48)],
  .alloc 48,
  .store 48 (.tmp 7) (.tmp 49)]
def woNeeds : Nat → List Nat
  | 0 => []
  | 1 => []
  | 2 => [0, 1]
  | 3 => [2]
  | 4 => [3]
  | 5 => [4]
  | 6 => [5]
  | 7 => []
  | 8 => []
  | 9 => [7, 8]
  | 10 => [9]
  | 11 => [10]
  | 12 => [11]
  | 13 => [12]
  | 14 => []
  | 15 => []
  | 16 => [14, 15]
  | 17 => [16]
  | 18 => [17]
  | 19 => [18]
  | 20 => [6, 13, 19]
  | 21 => []
  | 22 => [20, 21]
  | _ => []
set_option maxRecDepth 100000 in
set_option maxHeartbeats 3200000 in
theorem wo_step {ops : Array Oper} {Q : Exit → Act → World → Prop} {a0 : Act} (wB : World) (bl off oo nl cl : Nat) (iv nd sq n1 n2 q1 q2 : Int) (b c : UInt8) (hops : ((List.range 23).map fun i => (ops[i]?).map Oper.op) = woOps.map some)
    (hdsl : ((List.range 23).map fun i => (ops[i]?).map Oper.dst) = ([some 29, some 30, some 31, some 32, some 33, some 34, some 35, some 36, some 37, some 38, some 39, some 40, some 41, some 42, some 43, some 44, some 45, some 46, some 47, some 48, some 49, some 7, none] : List (Option Tmp)).map some)
    (hnd : ((List.range 23).all fun i => (woNeeds i).all fun j => ((ops[i]?).map fun o => o.after.any fun e => Region.binds .any e && (e.on == j)).getD false) = true)
    (x0 : a0.tmps[0]? = some (.slice (some ⟨bl, off, none⟩) nl cl)) (x6 : a0.tmps[6]? = some (.int .i64 iv))
    (hix : ∀ w, (Instr.indexAt 45 (.slice (some ⟨bl, off, none⟩) nl cl) (.int .i64 iv)).run Try.prog w = .ok (.pointer (some ⟨bl, oo, none⟩)) w) (hlt : bl < wB.heap.size)
    (c0 : wB.cell? ⟨bl, oo, none⟩ = some (.int .i64 nd)) (c1 : wB.cell? ⟨bl, oo + 1, none⟩ = some (.int .i64 sq)) (c2 : wB.cell? ⟨bl, oo + 2, none⟩ = some (.int .u8 (b.toNat : Int)))
    (hB1 : ∀ w, Calls Try.prog 11 #[.int .i64 nd, .int .i64 4] w fun e w' => e = .returned (.int .i64 n1) ∧ w' = w) (hB2 : ∀ w, Calls Try.prog 11 #[.int .i64 sq, .int .i64 4] w fun e w' => e = .returned (.int .i64 q1) ∧ w' = w)
    (hn2 : IntKind.i64.wrap (1 + n1) = n2) (hq2 : IntKind.i64.wrap (1 + q1) = q2) (hc : bits BinOp.and IntKind.u8 (b.toNat : Int) 1 = (c.toNat : Int)) :
    ∀ i o, i < 23 → ops[i]? = some o → o.guard = none → (o.dst = some (woD i) ∨ o.dst = none) → ∀ a w, Base woD 23 a0 a → (Below wB.heap.size wB w ∧ woX wB bl off oo nl cl iv nd sq n1 n2 q1 q2 b c w) →
      (∀ j, (o.after.any fun e => Region.binds .any e && (e.on == j)) = true → Has woD (woR wB bl off oo nl cl iv nd sq n1 n2 q1 q2 b c) j a w) →
      ∀ K : Act → World → Prop, (∀ v w', (Below wB.heap.size wB w' ∧ woX wB bl off oo nl cl iv nd sq n1 n2 q1 q2 b c w') → (o.dst = some (woD i) → woR wB bl off oo nl cl iv nd sq n1 n2 q1 q2 b c i v w') → (o.dst = none → ∃ u, a.tmps[woD i]? = some u ∧ woR wB bl off oo nl cl iv nd sq n1 n2 q1 q2 b c i u w') → (∀ j u, j ≠ i → woR wB bl off oo nl cl iv nd sq n1 n2 q1 q2 b c j u w → woR wB bl off oo nl cl iv nd sq n1 n2 q1 q2 b c j u w') → K (a.put o.dst v) w') → wpOp Try.prog ops Q i K a w := by
  intro i o hi ho hgd hdst a w hbase hI hdep0 K hK5
  obtain ⟨hbl, hX⟩ := hI
  have hwt : Region.wanted o (yielded ops a.tmps) = true := by unfold Region.wanted; rw [hgd]
  have hop : some o.op = woOps[i]? := by
    have h1 : ((List.range 23).map fun i => (ops[i]?).map Oper.op)[i]? = some (some o.op) := by
      rw [List.getElem?_map, List.getElem?_range hi]; simp only [Option.map_some, ho]
    rw [hops, List.getElem?_map] at h1
    cases h2 : woOps[i]? with
    | none => rw [h2] at h1; cases h1
    | some y => rw [h2] at h1; simp only [Option.map_some, Option.some.injEq] at h1; rw [h1]
  have hds : some o.dst = ([some 29, some 30, some 31, some 32, some 33, some 34, some 35, some 36, some 37, some 38, some 39, some 40, some 41, some 42, some 43, some 44, some 45, some 46, some 47, some 48, some 49, some 7, none] : List (Option Tmp))[i]? := by
    have h1 : ((List.range 23).map fun i => (ops[i]?).map Oper.dst)[i]? = some (some o.dst) := by
      rw [List.getElem?_map, List.getElem?_range hi]; simp only [Option.map_some, ho]
    rw [hdsl, List.getElem?_map] at h1
    cases h2 : ([some 29, some 30, some 31, some 32, some 33, some 34, some 35, some 36, some 37, some 38, some 39, some 40, some 41, some 42, some 43, some 44, some 45, some 46, some 47, some 48, some 49, some 7, none] : List (Option Tmp))[i]? with
    | none => rw [h2] at h1; cases h1
    | some y => rw [h2] at h1; simp only [Option.map_some, Option.some.injEq] at h1; rw [h1]
  have hdep : ∀ j, j ∈ woNeeds i → Has woD (woR wB bl off oo nl cl iv nd sq n1 n2 q1 q2 b c) j a w := fun j hj => by
    have h1 := List.all_eq_true.1 (List.all_eq_true.1 hnd i (List.mem_range.2 hi)) j hj
    rw [ho] at h1
    exact hdep0 j h1
  have hK : o.dst = some (woD i) → ∀ v w', woR wB bl off oo nl cl iv nd sq n1 n2 q1 q2 b c i v w' → Below w.heap.size w w' → K (a.put o.dst v) w' := fun e v w' h1 h2 => hK5 v w' ⟨hbl.trans (h2.mono hbl.size), trivial⟩ (fun _ => h1) (fun e' => by rw [e] at e'; cases e') (fun j u _ hj => wo_on wB bl off oo nl cl iv nd sq n1 n2 q1 q2 b c j u w w' hj h2)
  clear hdep0 hops hnd hdsl hdst
  match i, hi, ho, hop, hds, hdep, hK, hK5 with
  | 0, _, ho, hop, hds, hdep, hK, hK5 =>
    have hop : o.op = .move (.tmp 0) := Option.some.inj hop
    have hu0 : a.tmps[0]? = some (.slice (some ⟨bl, off, none⟩) nl cl) := (hbase.2.2 0 (by decide)).trans x0
    have e0 : a.eval (.tmp 0) = _ := ev_tmp hu0
    have hK := hK (Option.some.inj hds)
    refine st3 ho hwt (v := _) (w' := w) ?_ (hK _ w rfl (Below.refl _ _))
    unfold execOp
    rw [hop, ← e0]
    rfl
  | 1, _, ho, hop, hds, hdep, hK, hK5 =>
    have hop : o.op = .move (.tmp 6) := Option.some.inj hop
    have hu6 : a.tmps[6]? = some (.int .i64 iv) := (hbase.2.2 6 (by decide)).trans x6
    have e6 : a.eval (.tmp 6) = _ := ev_tmp hu6
    have hK := hK (Option.some.inj hds)
    refine st3 ho hwt (v := _) (w' := w) ?_ (hK _ w rfl (Below.refl _ _))
    unfold execOp
    rw [hop, ← e6]
    rfl
  | 2, _, ho, hop, hds, hdep, hK, hK5 =>
    have hop : o.op = .indexAddr 45 (.tmp 29) (.tmp 30) := Option.some.inj hop
    obtain ⟨u29, hu29, hv29⟩ := hdep 0 (by decide)
    have hv29' : u29 = .slice (some ⟨bl, off, none⟩) nl cl := hv29
    subst hv29'
    have e29 : a.eval (.tmp 29) = _ := ev_tmp hu29
    obtain ⟨u30, hu30, hv30⟩ := hdep 1 (by decide)
    have hv30' : u30 = .int .i64 iv := hv30
    subst hv30'
    have e30 : a.eval (.tmp 30) = _ := ev_tmp hu30
    have hK := hK (Option.some.inj hds)
    refine st3 ho hwt (v := .pointer (some ⟨bl, oo, none⟩)) (w' := w) ?_ (hK _ w rfl (Below.refl _ _))
    have hq := hix w
    unfold execOp
    simp only [hop, e29, e30, Sem.run_bind, hq, Result.andThen_ok]
    rfl
  | 3, _, ho, hop, hds, hdep, hK, hK5 =>
    have hop : o.op = .fieldAddr 48 (.tmp 31) 0 := Option.some.inj hop
    obtain ⟨u31, hu31, hv31⟩ := hdep 2 (by decide)
    have hv31' : u31 = .pointer (some ⟨bl, oo, none⟩) := hv31
    subst hv31'
    have e31 : a.eval (.tmp 31) = _ := ev_tmp hu31
    have hK := hK (Option.some.inj hds)
    refine st3 ho hwt (v := .pointer (some ⟨bl, oo, none⟩)) (w' := w) ?_ (hK _ w rfl (Below.refl _ _))
    unfold execOp
    simp only [hop, Option.map_some, Option.map_none, e31]
    first | rfl | (go_simp; done) | (go_simp; simp; done) | (go_simp; intro h; omega)
  | 4, _, ho, hop, hds, hdep, hK, hK5 =>
    have hop : o.op = .load 3 (.tmp 32) := Option.some.inj hop
    obtain ⟨u32, hu32, hv32⟩ := hdep 3 (by decide)
    have hv32' : u32 = .pointer (some ⟨bl, oo, none⟩) := hv32
    subst hv32'
    have e32 : a.eval (.tmp 32) = _ := ev_tmp hu32
    have hK := hK (Option.some.inj hds)
    have k0 : w.cell? ⟨bl, oo, none⟩ = some (.int .i64 nd) := (hbl.cell hlt).trans c0
    refine st3 ho hwt (v := .int .i64 nd) (w' := w) ?_ (hK _ w rfl (Below.refl _ _))
    unfold execOp
    simp only [hop, Option.map_some, Option.map_none, e32]
    first | rfl | (go_simp; done) | (go_simp; simp; done) | (go_simp; intro h; omega)
  | 5, _, ho, hop, hds, hdep, hK, hK5 =>
    have hop : o.op = .call { callee := .value (.func 11), args := #[.tmp 33, .const (.int .i64 4)], argTypes := #[3, 3] } := Option.some.inj hop
    obtain ⟨u33, hu33, hv33⟩ := hdep 4 (by decide)
    have hv33' : u33 = .int .i64 nd := hv33
    subst hv33'
    have e33 : a.eval (.tmp 33) = _ := ev_tmp hu33
    have hK := hK (Option.some.inj hds)
    refine st3_call ho hwt (f := 11) (vals := #[.int .i64 nd, .int .i64 4]) (Z := fun v w' => v = .int .i64 n1 ∧ Below w.heap.size w w') ?_ ?_ ?_
    · unfold execOp
      simp only [hop, e33, resolve, invoke, Sem.run_bind, Sem.run_pure, Result.andThen_ok, List.map_toArray, List.map_cons, List.map_nil]
      first | rfl | exact enters_of Try.func11 (by kernel_rfl) rfl _ _
    · exact (hB1 w).mono fun e w' ⟨he, hw⟩ => ⟨_, he, rfl, by subst hw; exact Below.refl _ _⟩
    · rintro v w' ⟨h1, h2⟩
      exact hK v w' h1 h2
  | 6, _, ho, hop, hds, hdep, hK, hK5 =>
    have hop : o.op = .binOp .add 3 (.const (.int .i64 1)) (.tmp 34) 3 := Option.some.inj hop
    obtain ⟨u34, hu34, hv34⟩ := hdep 5 (by decide)
    have hv34' : u34 = .int .i64 n1 := hv34
    subst hv34'
    have e34 : a.eval (.tmp 34) = _ := ev_tmp hu34
    have hK := hK (Option.some.inj hds)
    refine st3 ho hwt (v := .int .i64 n2) (w' := w) ?_ (hK _ w rfl (Below.refl _ _))
    have hq := hn2
    unfold execOp
    simp only [hop, Option.map_some, Option.map_none, e34]
    first | rfl | (go_simp; done) | (go_simp; simp; done) | (go_simp; intro h; omega)
  | 7, _, ho, hop, hds, hdep, hK, hK5 =>
    have hop : o.op = .move (.tmp 0) := Option.some.inj hop
    have hu0 : a.tmps[0]? = some (.slice (some ⟨bl, off, none⟩) nl cl) := (hbase.2.2 0 (by decide)).trans x0
    have e0 : a.eval (.tmp 0) = _ := ev_tmp hu0
    have hK := hK (Option.some.inj hds)
    refine st3 ho hwt (v := _) (w' := w) ?_ (hK _ w rfl (Below.refl _ _))
    unfold execOp
    rw [hop, ← e0]
    rfl
  | 8, _, ho, hop, hds, hdep, hK, hK5 =>
    have hop : o.op = .move (.tmp 6) := Option.some.inj hop
    have hu6 : a.tmps[6]? = some (.int .i64 iv) := (hbase.2.2 6 (by decide)).trans x6
    have e6 : a.eval (.tmp 6) = _ := ev_tmp hu6
    have hK := hK (Option.some.inj hds)
    refine st3 ho hwt (v := _) (w' := w) ?_ (hK _ w rfl (Below.refl _ _))
    unfold execOp
    rw [hop, ← e6]
    rfl
  | 9, _, ho, hop, hds, hdep, hK, hK5 =>
    have hop : o.op = .indexAddr 45 (.tmp 36) (.tmp 37) := Option.some.inj hop
    obtain ⟨u36, hu36, hv36⟩ := hdep 7 (by decide)
    have hv36' : u36 = .slice (some ⟨bl, off, none⟩) nl cl := hv36
    subst hv36'
    have e36 : a.eval (.tmp 36) = _ := ev_tmp hu36
    obtain ⟨u37, hu37, hv37⟩ := hdep 8 (by decide)
    have hv37' : u37 = .int .i64 iv := hv37
    subst hv37'
    have e37 : a.eval (.tmp 37) = _ := ev_tmp hu37
    have hK := hK (Option.some.inj hds)
    refine st3 ho hwt (v := .pointer (some ⟨bl, oo, none⟩)) (w' := w) ?_ (hK _ w rfl (Below.refl _ _))
    have hq := hix w
    unfold execOp
    simp only [hop, e36, e37, Sem.run_bind, hq, Result.andThen_ok]
    rfl
  | 10, _, ho, hop, hds, hdep, hK, hK5 =>
    have hop : o.op = .fieldAddr 48 (.tmp 38) 1 := Option.some.inj hop
    obtain ⟨u38, hu38, hv38⟩ := hdep 9 (by decide)
    have hv38' : u38 = .pointer (some ⟨bl, oo, none⟩) := hv38
    subst hv38'
    have e38 : a.eval (.tmp 38) = _ := ev_tmp hu38
    have hK := hK (Option.some.inj hds)
    refine st3 ho hwt (v := .pointer (some ⟨bl, oo + 1, none⟩)) (w' := w) ?_ (hK _ w rfl (Below.refl _ _))
    unfold execOp
    simp only [hop, Option.map_some, Option.map_none, e38]
    first | rfl | (go_simp; done) | (go_simp; simp; done) | (go_simp; intro h; omega)
  | 11, _, ho, hop, hds, hdep, hK, hK5 =>
    have hop : o.op = .load 3 (.tmp 39) := Option.some.inj hop
    obtain ⟨u39, hu39, hv39⟩ := hdep 10 (by decide)
    have hv39' : u39 = .pointer (some ⟨bl, oo + 1, none⟩) := hv39
    subst hv39'
    have e39 : a.eval (.tmp 39) = _ := ev_tmp hu39
    have hK := hK (Option.some.inj hds)
    have k0 : w.cell? ⟨bl, oo + 1, none⟩ = some (.int .i64 sq) := (hbl.cell hlt).trans c1
    refine st3 ho hwt (v := .int .i64 sq) (w' := w) ?_ (hK _ w rfl (Below.refl _ _))
    unfold execOp
    simp only [hop, Option.map_some, Option.map_none, e39]
    first | rfl | (go_simp; done) | (go_simp; simp; done) | (go_simp; intro h; omega)
  | 12, _, ho, hop, hds, hdep, hK, hK5 =>
    have hop : o.op = .call { callee := .value (.func 11), args := #[.tmp 40, .const (.int .i64 4)], argTypes := #[3, 3] } := Option.some.inj hop
    obtain ⟨u40, hu40, hv40⟩ := hdep 11 (by decide)
    have hv40' : u40 = .int .i64 sq := hv40
    subst hv40'
    have e40 : a.eval (.tmp 40) = _ := ev_tmp hu40
    have hK := hK (Option.some.inj hds)
    refine st3_call ho hwt (f := 11) (vals := #[.int .i64 sq, .int .i64 4]) (Z := fun v w' => v = .int .i64 q1 ∧ Below w.heap.size w w') ?_ ?_ ?_
    · unfold execOp
      simp only [hop, e40, resolve, invoke, Sem.run_bind, Sem.run_pure, Result.andThen_ok, List.map_toArray, List.map_cons, List.map_nil]
      first | rfl | exact enters_of Try.func11 (by kernel_rfl) rfl _ _
    · exact (hB2 w).mono fun e w' ⟨he, hw⟩ => ⟨_, he, rfl, by subst hw; exact Below.refl _ _⟩
    · rintro v w' ⟨h1, h2⟩
      exact hK v w' h1 h2
  | 13, _, ho, hop, hds, hdep, hK, hK5 =>
    have hop : o.op = .binOp .add 3 (.const (.int .i64 1)) (.tmp 41) 3 := Option.some.inj hop
    obtain ⟨u41, hu41, hv41⟩ := hdep 12 (by decide)
    have hv41' : u41 = .int .i64 q1 := hv41
    subst hv41'
    have e41 : a.eval (.tmp 41) = _ := ev_tmp hu41
    have hK := hK (Option.some.inj hds)
    refine st3 ho hwt (v := .int .i64 q2) (w' := w) ?_ (hK _ w rfl (Below.refl _ _))
    have hq := hq2
    unfold execOp
    simp only [hop, Option.map_some, Option.map_none, e41]
    first | rfl | (go_simp; done) | (go_simp; simp; done) | (go_simp; intro h; omega)
  | 14, _, ho, hop, hds, hdep, hK, hK5 =>
    have hop : o.op = .move (.tmp 0) := Option.some.inj hop
    have hu0 : a.tmps[0]? = some (.slice (some ⟨bl, off, none⟩) nl cl) := (hbase.2.2 0 (by decide)).trans x0
    have e0 : a.eval (.tmp 0) = _ := ev_tmp hu0
    have hK := hK (Option.some.inj hds)
    refine st3 ho hwt (v := _) (w' := w) ?_ (hK _ w rfl (Below.refl _ _))
    unfold execOp
    rw [hop, ← e0]
    rfl
  | 15, _, ho, hop, hds, hdep, hK, hK5 =>
    have hop : o.op = .move (.tmp 6) := Option.some.inj hop
    have hu6 : a.tmps[6]? = some (.int .i64 iv) := (hbase.2.2 6 (by decide)).trans x6
    have e6 : a.eval (.tmp 6) = _ := ev_tmp hu6
    have hK := hK (Option.some.inj hds)
    refine st3 ho hwt (v := _) (w' := w) ?_ (hK _ w rfl (Below.refl _ _))
    unfold execOp
    rw [hop, ← e6]
    rfl
  | 16, _, ho, hop, hds, hdep, hK, hK5 =>
    have hop : o.op = .indexAddr 45 (.tmp 43) (.tmp 44) := Option.some.inj hop
    obtain ⟨u43, hu43, hv43⟩ := hdep 14 (by decide)
    have hv43' : u43 = .slice (some ⟨bl, off, none⟩) nl cl := hv43
    subst hv43'
    have e43 : a.eval (.tmp 43) = _ := ev_tmp hu43
    obtain ⟨u44, hu44, hv44⟩ := hdep 15 (by decide)
    have hv44' : u44 = .int .i64 iv := hv44
    subst hv44'
    have e44 : a.eval (.tmp 44) = _ := ev_tmp hu44
    have hK := hK (Option.some.inj hds)
    refine st3 ho hwt (v := .pointer (some ⟨bl, oo, none⟩)) (w' := w) ?_ (hK _ w rfl (Below.refl _ _))
    have hq := hix w
    unfold execOp
    simp only [hop, e43, e44, Sem.run_bind, hq, Result.andThen_ok]
    rfl
  | 17, _, ho, hop, hds, hdep, hK, hK5 =>
    have hop : o.op = .fieldAddr 48 (.tmp 45) 2 := Option.some.inj hop
    obtain ⟨u45, hu45, hv45⟩ := hdep 16 (by decide)
    have hv45' : u45 = .pointer (some ⟨bl, oo, none⟩) := hv45
    subst hv45'
    have e45 : a.eval (.tmp 45) = _ := ev_tmp hu45
    have hK := hK (Option.some.inj hds)
    refine st3 ho hwt (v := .pointer (some ⟨bl, oo + 2, none⟩)) (w' := w) ?_ (hK _ w rfl (Below.refl _ _))
    unfold execOp
    simp only [hop, Option.map_some, Option.map_none, e45]
    first | rfl | (go_simp; done) | (go_simp; simp; done) | (go_simp; intro h; omega)
  | 18, _, ho, hop, hds, hdep, hK, hK5 =>
    have hop : o.op = .load 5 (.tmp 46) := Option.some.inj hop
    obtain ⟨u46, hu46, hv46⟩ := hdep 17 (by decide)
    have hv46' : u46 = .pointer (some ⟨bl, oo + 2, none⟩) := hv46
    subst hv46'
    have e46 : a.eval (.tmp 46) = _ := ev_tmp hu46
    have hK := hK (Option.some.inj hds)
    have k0 : w.cell? ⟨bl, oo + 2, none⟩ = some (.int .u8 (b.toNat : Int)) := (hbl.cell hlt).trans c2
    refine st3 ho hwt (v := .int .u8 (b.toNat : Int)) (w' := w) ?_ (hK _ w rfl (Below.refl _ _))
    unfold execOp
    simp only [hop, Option.map_some, Option.map_none, e46]
    first | rfl | (go_simp; done) | (go_simp; simp; done) | (go_simp; intro h; omega)
  | 19, _, ho, hop, hds, hdep, hK, hK5 =>
    have hop : o.op = .binOp .and 5 (.tmp 47) (.const (.int .u8 1)) 5 := Option.some.inj hop
    obtain ⟨u47, hu47, hv47⟩ := hdep 18 (by decide)
    have hv47' : u47 = .int .u8 (b.toNat : Int) := hv47
    subst hv47'
    have e47 : a.eval (.tmp 47) = _ := ev_tmp hu47
    have hK := hK (Option.some.inj hds)
    refine st3 ho hwt (v := .int .u8 (c.toNat : Int)) (w' := w) ?_ (hK _ w rfl (Below.refl _ _))
    have hq := hc
    unfold execOp
    simp only [hop, Option.map_some, Option.map_none, e47]
    first | rfl | (go_simp; done) | (go_simp; simp; done) | (go_simp; intro h; omega)
  | 20, _, ho, hop, hds, hdep, hK, hK5 =>
    have hop : o.op = .build 48 #[(0, .tmp 35), (1, .tmp 42), (2, .tmp 48)] := Option.some.inj hop
    obtain ⟨u35, hu35, hv35⟩ := hdep 6 (by decide)
    have hv35' : u35 = .int .i64 n2 := hv35
    subst hv35'
    have e35 : a.eval (.tmp 35) = _ := ev_tmp hu35
    obtain ⟨u42, hu42, hv42⟩ := hdep 13 (by decide)
    have hv42' : u42 = .int .i64 q2 := hv42
    subst hv42'
    have e42 : a.eval (.tmp 42) = _ := ev_tmp hu42
    obtain ⟨u48, hu48, hv48⟩ := hdep 19 (by decide)
    have hv48' : u48 = .int .u8 (c.toNat : Int) := hv48
    subst hv48'
    have e48 : a.eval (.tmp 48) = _ := ev_tmp hu48
    have hK := hK (Option.some.inj hds)
    exact st3 ho hwt (exec_build 48 _ hop _ (show (Try.prog).built 48 [(0, a.eval (.tmp 35)), (1, a.eval (.tmp 42)), (2, a.eval (.tmp 48))] = _ from (by rw [e35, e42, e48]; exact built_word _ _ _)) w) (hK _ w rfl (Below.refl _ _))
  | 21, _, ho, hop, hds, hdep, hK, hK5 =>
    have hop : o.op = .alloc 48 := Option.some.inj hop
    have hK := hK (Option.some.inj hds)
    refine st3 ho hwt (v := .pointer (some ⟨w.heap.size, 0, none⟩)) (w' := w.alloc (.cells #[.int .i64 0, .int .i64 0, .int .u8 0] 48)) ?_ (hK _ _ ⟨_, _, _, _, rfl, Blk.new rfl rfl, hbl.size⟩ ((Below.refl _ _).alloc (Nat.le_refl _) _))
    exact alloc_word w hop
  | 22, _, ho, hop, hds, hdep, hK, hK5 =>
    have hop : o.op = .store 48 (.tmp 7) (.tmp 49) := Option.some.inj hop
    obtain ⟨u7, hu7, hv7⟩ := hdep 21 (by decide)
    have hv7' : ∃ r x y z, u7 = .pointer (some ⟨r, 0, none⟩) ∧ Blk w r 48 [x, y, z] ∧ wB.heap.size ≤ r := hv7
    have e7 : a.eval (.tmp 7) = _ := ev_tmp hu7
    obtain ⟨u49, hu49, hv49⟩ := hdep 20 (by decide)
    have hv49' : u49 = .agg #[.int .i64 n2, .int .i64 q2, .int .u8 (c.toNat : Int)] := hv49
    subst hv49'
    have e49 : a.eval (.tmp 49) = _ := ev_tmp hu49
    obtain ⟨r, x0, y0, z0, hr, hB0, hg⟩ := hv7'
    rw [hr] at e7
    refine op_storeE ho (Option.some.inj hds) hgd 48 _ _ (by rw [hop]) r 0 [.int .i64 n2, .int .i64 q2, .int .u8 (c.toNat : Int)] e7 e49 hB0.there word_info1 (by simp [Value.oneCell']) rfl ?_
    have hK6 := hK5 undef (w.setCells r 0 [.int .i64 n2, .int .i64 q2, .int .u8 (c.toNat : Int)]) ⟨Below.setCells hg _ hbl, trivial⟩ (fun e => by rw [Option.some.inj hds] at e; cases e) (fun _ => ⟨_, hu7, ⟨r, hr, hB0.setAll rfl, hg⟩⟩) (wo_keep22 wB bl off oo nl cl iv nd sq n1 n2 q1 q2 b c hB0 _ rfl)
    rw [Option.some.inj hds] at hK6
    exact hK6
  | i + 23, hi, _, _, _, _, _, _ => exact absurd hi (by omega)
def wpR (wB : World) (g h bl : Nat) (n2 q2 E : Int) (c : UInt8) (B : Bool) (a1 a2 b : Ms) (V : BlkL) (X cur : List Value) : Nat → Value → World → Prop
  | 0 => fun v w => v = .pointer (some ⟨g, 0, none⟩)
  | 1 => fun v w => v = .pointer (some ⟨bl, 0, none⟩)
  | 2 => fun v w => v = .int .i64 n2
  | 3 => fun v w => v = .pointer (some ⟨bl, 1, none⟩)
  | 4 => fun v w => v = .int .i64 q2
  | 5 => fun v w => v = .pointer (some ⟨bl, 2, none⟩)
  | 6 => fun v w => v = .int .u8 (c.toNat : Int)
  | 7 => fun v w => v = .agg X.toArray
  | 8 => fun v w => VoR2 wB g h a2 b V E v w
  | 9 => fun v w => v = .bool B
  | 10 => fun v w => Aw2 wB w g h a1 b V
  | _ => fun _ _ => True
def wpD (i : Nat) : Nat := ([50, 51, 52, 53, 54, 55, 56, 57, 58, 59, 0] : List Nat).getD i 0
def wpK (i j : Nat) : Bool := ([(8, 10)] : List (Nat × Nat)).contains (i, j)
theorem wp_on (wB : World) (g h bl : Nat) (n2 q2 E : Int) (c : UInt8) (B : Bool) (a1 a2 b : Ms) (V : BlkL) (X cur : List Value) : ∀ i v w w', wpR wB g h bl n2 q2 E c B a1 a2 b V X cur i v w → Below w.heap.size w w' → wpR wB g h bl n2 q2 E c B a1 a2 b V X cur i v w'
  | 0, v, w, w', h, _ => h
  | 1, v, w, w', h, _ => h
  | 2, v, w, w', h, _ => h
  | 3, v, w, w', h, _ => h
  | 4, v, w, w', h, _ => h
  | 5, v, w, w', h, _ => h
  | 6, v, w, w', h, _ => h
  | 7, v, w, w', h, _ => h
  | 8, v, w, w', h, hb => VoR2.below h hb
  | 9, v, w, w', h, _ => h
  | 10, v, w, w', h, hb => Aw2.below h hb
  | i + 11, v, w, w', h, hb => trivial
theorem wp_keep8 (wB : World) (g h bl : Nat) (n2 q2 E : Int) (c : UInt8) (B : Bool) (a1 a2 b : Ms) (V : BlkL) (X cur : List Value) {w w' : World} : ∀ j u, j ≠ 8 → wpK 8 j = false → wpR wB g h bl n2 q2 E c B a1 a2 b V X cur j u w → wpR wB g h bl n2 q2 E c B a1 a2 b V X cur j u w'
  | 0, u, e, _, h => h
  | 1, u, e, _, h => h
  | 2, u, e, _, h => h
  | 3, u, e, _, h => h
  | 4, u, e, _, h => h
  | 5, u, e, _, h => h
  | 6, u, e, _, h => h
  | 7, u, e, _, h => h
  | 8, u, e, _, h => absurd rfl e
  | 9, u, e, _, h => h
  | 10, u, e, hk, h => absurd hk (by decide)
  | j + 11, u, e, _, h => trivial
def wpX (wB : World) (g h bl : Nat) (n2 q2 E : Int) (c : UInt8) (B : Bool) (a1 a2 b : Ms) (V : BlkL) (X cur : List Value) (w : World) : Prop := Blk w bl 48 cur
def wpOps : List Op := [.move (.tmp 3),
  .fieldAddr 48 (.tmp 7) 0,
  .load 3 (.tmp 51),
  .fieldAddr 48 (.tmp 7) 1,
  .load 3 (.tmp 53),
  .fieldAddr 48 (.tmp 7) 2,
  .load 5 (.tmp 55),
  .call { callee := .value (.func 19), args := #[.tmp 54, .tmp 56], argTypes := #[3, 5] },
  .call { callee := .value (.func 12), args := #[.tmp 50, .tmp 52, .tmp 57], argTypes := #[30, 3, 28] },
  .binOp .eql 31 (.tmp 58) (.const (.int .i64 0)) 31]
def wpNeeds : Nat → List Nat
  | 0 => []
  | 1 => []
  | 2 => [1]
  | 3 => []
  | 4 => [3]
  | 5 => []
  | 6 => [5]
  | 7 => [4, 6]
  | 8 => [0, 2, 7, 10]
  | 9 => [8]
  | _ => []
set_option maxRecDepth 100000 in
set_option maxHeartbeats 3200000 in
theorem wp_step {ops : Array Oper} {Q : Exit → Act → World → Prop} {a0 : Act} (wB : World) (g h bl : Nat) (n2 q2 E : Int) (c : UInt8) (B : Bool) (a1 a2 b : Ms) (V : BlkL) (X cur : List Value) (hops : ((List.range 10).map fun i => (ops[i]?).map Oper.op) = wpOps.map some)
    (hdsl : ((List.range 10).map fun i => (ops[i]?).map Oper.dst) = ([some 50, some 51, some 52, some 53, some 54, some 55, some 56, some 57, some 58, some 59] : List (Option Tmp)).map some)
    (hnd : ((List.range 10).all fun i => (wpNeeds i).all fun j => (((ops[i]?).map fun o => (o.after.any fun e => Region.binds .any e && (e.on == j)) || (decide (10 ≤ j) && decide (j < 10 + 1))).getD false) && ((List.range 10).all fun q => !(wpK q j) || (q == i) || ((ops[q]?).map fun o => o.after.any fun e => Region.binds .any e && (e.on == i)).getD false)) = true)
     (x3 : a0.tmps[3]? = some (.pointer (some ⟨g, 0, none⟩))) (x7 : a0.tmps[7]? = some (.pointer (some ⟨bl, 0, none⟩)))
    (hbV : (bl, 48, cur) ∈ V) (hc0 : cur[0]? = some (.int .i64 n2)) (hc1 : cur[1]? = some (.int .i64 q2)) (hc2 : cur[2]? = some (.int .u8 (c.toNat : Int))) (hEB : (E == 0) = B)
    (hM : ∀ w, Calls Try.prog 19 #[.int .i64 q2, .int .u8 (c.toNat : Int)] w fun e w' => e = .returned (.agg X.toArray) ∧ Below w.heap.size w w')
    (hV : ∀ W, Aw2 wB W g h a1 b V → Calls Try.prog 12 #[.pointer (some ⟨g, 0, none⟩), .int .i64 n2, .agg X.toArray] W fun e w' => e = .returned (.int .i64 E) ∧ Aw2 wB w' g h a2 b V) :
    ∀ i o, i < 10 → ops[i]? = some o → o.guard = none → (o.dst = some (wpD i) ∨ o.dst = none) → ∀ a w, Base wpD 10 a0 a → (Below wB.heap.size wB w ∧ wpX wB g h bl n2 q2 E c B a1 a2 b V X cur w) →
      (∀ j, ((o.after.any fun e => Region.binds .any e && (e.on == j)) || (decide (10 ≤ j) && decide (j < 10 + 1))) = true → ((List.range 10).all fun q => !(wpK q j) || (q == i) || ((ops[q]?).map fun o => o.after.any fun e => Region.binds .any e && (e.on == i)).getD false) = true → Has wpD (wpR wB g h bl n2 q2 E c B a1 a2 b V X cur) j a w) →
      ∀ K : Act → World → Prop, (∀ v w', (Below wB.heap.size wB w' ∧ wpX wB g h bl n2 q2 E c B a1 a2 b V X cur w') → (o.dst = some (wpD i) → wpR wB g h bl n2 q2 E c B a1 a2 b V X cur i v w') → (o.dst = none → ∃ u, a.tmps[wpD i]? = some u ∧ wpR wB g h bl n2 q2 E c B a1 a2 b V X cur i u w') → (∀ j u, j ≠ i → wpK i j = false → ((ops[j]?).map fun o => o.after.any fun e => Region.binds .any e && (e.on == i)).getD false = false → wpR wB g h bl n2 q2 E c B a1 a2 b V X cur j u w → wpR wB g h bl n2 q2 E c B a1 a2 b V X cur j u w') → K (a.put o.dst v) w') → wpOp Try.prog ops Q i K a w := by
  intro i o hi ho hgd hdst a w hbase hI hdep0 K hK5
  obtain ⟨hbl, hX⟩ := hI
  have hwt : Region.wanted o (yielded ops a.tmps) = true := by unfold Region.wanted; rw [hgd]
  have hop : some o.op = wpOps[i]? := by
    have h1 : ((List.range 10).map fun i => (ops[i]?).map Oper.op)[i]? = some (some o.op) := by
      rw [List.getElem?_map, List.getElem?_range hi]; simp only [Option.map_some, ho]
    rw [hops, List.getElem?_map] at h1
    cases h2 : wpOps[i]? with
    | none => rw [h2] at h1; cases h1
    | some y => rw [h2] at h1; simp only [Option.map_some, Option.some.injEq] at h1; rw [h1]
  have hds : some o.dst = ([some 50, some 51, some 52, some 53, some 54, some 55, some 56, some 57, some 58, some 59] : List (Option Tmp))[i]? := by
    have h1 : ((List.range 10).map fun i => (ops[i]?).map Oper.dst)[i]? = some (some o.dst) := by
      rw [List.getElem?_map, List.getElem?_range hi]; simp only [Option.map_some, ho]
    rw [hdsl, List.getElem?_map] at h1
    cases h2 : ([some 50, some 51, some 52, some 53, some 54, some 55, some 56, some 57, some 58, some 59] : List (Option Tmp))[i]? with
    | none => rw [h2] at h1; cases h1
    | some y => rw [h2] at h1; simp only [Option.map_some, Option.some.injEq] at h1; rw [h1]
  have hdep : ∀ j, j ∈ wpNeeds i → Has wpD (wpR wB g h bl n2 q2 E c B a1 a2 b V X cur) j a w := fun j hj => by
    have h1 := List.all_eq_true.1 (List.all_eq_true.1 hnd i (List.mem_range.2 hi)) j hj
    rw [ho, Bool.and_eq_true] at h1
    exact hdep0 j h1.1 h1.2
  have hK : o.dst = some (wpD i) → ∀ v w', wpR wB g h bl n2 q2 E c B a1 a2 b V X cur i v w' → Below w.heap.size w w' → K (a.put o.dst v) w' := fun e v w' h1 h2 => hK5 v w' ⟨hbl.trans (h2.mono hbl.size), Blk.below hX h2 (Blk.lt hX)⟩ (fun _ => h1) (fun e' => by rw [e] at e'; cases e') (fun j u _ _ _ hj => wp_on wB g h bl n2 q2 E c B a1 a2 b V X cur j u w w' hj h2)
  clear hdep0 hops hnd hdsl hdst
  match i, hi, ho, hop, hds, hdep, hK, hK5 with
  | 0, _, ho, hop, hds, hdep, hK, hK5 =>
    have hop : o.op = .move (.tmp 3) := Option.some.inj hop
    have hu3 : a.tmps[3]? = some (.pointer (some ⟨g, 0, none⟩)) := (hbase.2.2 3 (by decide)).trans x3
    have e3 : a.eval (.tmp 3) = _ := ev_tmp hu3
    have hK := hK (Option.some.inj hds)
    refine st3 ho hwt (v := _) (w' := w) ?_ (hK _ w rfl (Below.refl _ _))
    unfold execOp
    rw [hop, ← e3]
    rfl
  | 1, _, ho, hop, hds, hdep, hK, hK5 =>
    have hop : o.op = .fieldAddr 48 (.tmp 7) 0 := Option.some.inj hop
    have hu7 : a.tmps[7]? = some (.pointer (some ⟨bl, 0, none⟩)) := (hbase.2.2 7 (by decide)).trans x7
    have e7 : a.eval (.tmp 7) = _ := ev_tmp hu7
    have hK := hK (Option.some.inj hds)
    refine st3 ho hwt (v := .pointer (some ⟨bl, 0, none⟩)) (w' := w) ?_ (hK _ w rfl (Below.refl _ _))
    unfold execOp
    simp only [hop, Option.map_some, Option.map_none, e7]
    first | rfl | (go_simp; done) | (go_simp; simp; done) | (go_simp; intro h; omega)
  | 2, _, ho, hop, hds, hdep, hK, hK5 =>
    have hop : o.op = .load 3 (.tmp 51) := Option.some.inj hop
    obtain ⟨u51, hu51, hv51⟩ := hdep 1 (by decide)
    have hv51' : u51 = .pointer (some ⟨bl, 0, none⟩) := hv51
    subst hv51'
    have e51 : a.eval (.tmp 51) = _ := ev_tmp hu51
    have hK := hK (Option.some.inj hds)
    have k0 : w.cell? ⟨bl, 0, none⟩ = some (.int .i64 n2) := (show Blk w bl 48 cur from hX).cell hc0
    refine st3 ho hwt (v := .int .i64 n2) (w' := w) ?_ (hK _ w rfl (Below.refl _ _))
    unfold execOp
    simp only [hop, Option.map_some, Option.map_none, e51]
    first | rfl | (go_simp; done) | (go_simp; simp; done) | (go_simp; intro h; omega)
  | 3, _, ho, hop, hds, hdep, hK, hK5 =>
    have hop : o.op = .fieldAddr 48 (.tmp 7) 1 := Option.some.inj hop
    have hu7 : a.tmps[7]? = some (.pointer (some ⟨bl, 0, none⟩)) := (hbase.2.2 7 (by decide)).trans x7
    have e7 : a.eval (.tmp 7) = _ := ev_tmp hu7
    have hK := hK (Option.some.inj hds)
    refine st3 ho hwt (v := .pointer (some ⟨bl, 1, none⟩)) (w' := w) ?_ (hK _ w rfl (Below.refl _ _))
    unfold execOp
    simp only [hop, Option.map_some, Option.map_none, e7]
    first | rfl | (go_simp; done) | (go_simp; simp; done) | (go_simp; intro h; omega)
  | 4, _, ho, hop, hds, hdep, hK, hK5 =>
    have hop : o.op = .load 3 (.tmp 53) := Option.some.inj hop
    obtain ⟨u53, hu53, hv53⟩ := hdep 3 (by decide)
    have hv53' : u53 = .pointer (some ⟨bl, 1, none⟩) := hv53
    subst hv53'
    have e53 : a.eval (.tmp 53) = _ := ev_tmp hu53
    have hK := hK (Option.some.inj hds)
    have k0 : w.cell? ⟨bl, 1, none⟩ = some (.int .i64 q2) := (show Blk w bl 48 cur from hX).cell hc1
    refine st3 ho hwt (v := .int .i64 q2) (w' := w) ?_ (hK _ w rfl (Below.refl _ _))
    unfold execOp
    simp only [hop, Option.map_some, Option.map_none, e53]
    first | rfl | (go_simp; done) | (go_simp; simp; done) | (go_simp; intro h; omega)
  | 5, _, ho, hop, hds, hdep, hK, hK5 =>
    have hop : o.op = .fieldAddr 48 (.tmp 7) 2 := Option.some.inj hop
    have hu7 : a.tmps[7]? = some (.pointer (some ⟨bl, 0, none⟩)) := (hbase.2.2 7 (by decide)).trans x7
    have e7 : a.eval (.tmp 7) = _ := ev_tmp hu7
    have hK := hK (Option.some.inj hds)
    refine st3 ho hwt (v := .pointer (some ⟨bl, 2, none⟩)) (w' := w) ?_ (hK _ w rfl (Below.refl _ _))
    unfold execOp
    simp only [hop, Option.map_some, Option.map_none, e7]
    first | rfl | (go_simp; done) | (go_simp; simp; done) | (go_simp; intro h; omega)
  | 6, _, ho, hop, hds, hdep, hK, hK5 =>
    have hop : o.op = .load 5 (.tmp 55) := Option.some.inj hop
    obtain ⟨u55, hu55, hv55⟩ := hdep 5 (by decide)
    have hv55' : u55 = .pointer (some ⟨bl, 2, none⟩) := hv55
    subst hv55'
    have e55 : a.eval (.tmp 55) = _ := ev_tmp hu55
    have hK := hK (Option.some.inj hds)
    have k0 : w.cell? ⟨bl, 2, none⟩ = some (.int .u8 (c.toNat : Int)) := (show Blk w bl 48 cur from hX).cell hc2
    refine st3 ho hwt (v := .int .u8 (c.toNat : Int)) (w' := w) ?_ (hK _ w rfl (Below.refl _ _))
    unfold execOp
    simp only [hop, Option.map_some, Option.map_none, e55]
    first | rfl | (go_simp; done) | (go_simp; simp; done) | (go_simp; intro h; omega)
  | 7, _, ho, hop, hds, hdep, hK, hK5 =>
    have hop : o.op = .call { callee := .value (.func 19), args := #[.tmp 54, .tmp 56], argTypes := #[3, 5] } := Option.some.inj hop
    obtain ⟨u54, hu54, hv54⟩ := hdep 4 (by decide)
    have hv54' : u54 = .int .i64 q2 := hv54
    subst hv54'
    have e54 : a.eval (.tmp 54) = _ := ev_tmp hu54
    obtain ⟨u56, hu56, hv56⟩ := hdep 6 (by decide)
    have hv56' : u56 = .int .u8 (c.toNat : Int) := hv56
    subst hv56'
    have e56 : a.eval (.tmp 56) = _ := ev_tmp hu56
    have hK := hK (Option.some.inj hds)
    refine st3_call ho hwt (f := 19) (vals := #[.int .i64 q2, .int .u8 (c.toNat : Int)]) (Z := fun v w' => v = .agg X.toArray ∧ Below w.heap.size w w') ?_ ?_ ?_
    · unfold execOp
      simp only [hop, e54, e56, resolve, invoke, Sem.run_bind, Sem.run_pure, Result.andThen_ok, List.map_toArray, List.map_cons, List.map_nil]
      first | rfl | exact enters_of Try.func19 (by kernel_rfl) rfl _ _
    · exact (hM w).mono fun e w' ⟨he, h2⟩ => ⟨_, he, rfl, h2⟩
    · rintro v w' ⟨h1, h2⟩
      exact hK v w' h1 h2
  | 8, _, ho, hop, hds, hdep, hK, hK5 =>
    have hop : o.op = .call { callee := .value (.func 12), args := #[.tmp 50, .tmp 52, .tmp 57], argTypes := #[30, 3, 28] } := Option.some.inj hop
    obtain ⟨u50, hu50, hv50⟩ := hdep 0 (by decide)
    have hv50' : u50 = .pointer (some ⟨g, 0, none⟩) := hv50
    subst hv50'
    have e50 : a.eval (.tmp 50) = _ := ev_tmp hu50
    obtain ⟨u52, hu52, hv52⟩ := hdep 2 (by decide)
    have hv52' : u52 = .int .i64 n2 := hv52
    subst hv52'
    have e52 : a.eval (.tmp 52) = _ := ev_tmp hu52
    obtain ⟨u57, hu57, hv57⟩ := hdep 7 (by decide)
    have hv57' : u57 = .agg X.toArray := hv57
    subst hv57'
    have e57 : a.eval (.tmp 57) = _ := ev_tmp hu57
    have hK := hK (Option.some.inj hds)
    obtain ⟨uE, huE, hvE⟩ := hdep 10 (by decide)
    refine st3_call ho hwt (f := 12) (vals := #[.pointer (some ⟨g, 0, none⟩), .int .i64 n2, .agg X.toArray]) (Z := fun v w' => v = .int .i64 E ∧ Aw2 wB w' g h a2 b V) ?_ ?_ ?_
    · unfold execOp
      simp only [hop, e50, e52, e57, resolve, invoke, Sem.run_bind, Sem.run_pure, Result.andThen_ok, List.map_toArray, List.map_cons, List.map_nil]
      first | rfl | exact enters_of Try.func12 (by kernel_rfl) rfl _ _
    · exact (hV w hvE).mono fun e w' ⟨he, h2⟩ => ⟨_, he, rfl, h2⟩
    · rintro v w' ⟨h1, h2⟩
      exact hK5 v w' ⟨h2.bel, h2.blk hbV⟩ (fun _ => ⟨h1, h2⟩) (fun e => by rw [Option.some.inj hds] at e; cases e) (fun j u k1 k2 _ k4 => wp_keep8 wB g h bl n2 q2 E c B a1 a2 b V X cur j u k1 k2 k4)
  | 9, _, ho, hop, hds, hdep, hK, hK5 =>
    have hop : o.op = .binOp .eql 31 (.tmp 58) (.const (.int .i64 0)) 31 := Option.some.inj hop
    obtain ⟨u58, hu58, hv58⟩ := hdep 8 (by decide)
    have hv58' : VoR2 wB g h a2 b V E u58 w := hv58
    have e58 : a.eval (.tmp 58) = _ := ev_tmp hu58
    have hK := hK (Option.some.inj hds)
    have hz := hv58'.1
    subst hz
    refine st3 ho hwt (v := .bool B) (w' := w) ?_ (hK _ w rfl (Below.refl _ _))
    have hq := hEB
    unfold execOp
    simp only [hop, Option.map_some, Option.map_none, e58]
    first | rfl | (go_simp; done) | (go_simp; simp; done) | (go_simp; intro h; omega)
  | i + 10, hi, _, _, _, _, _, _ => exact absurd hi (by omega)
def wqR (wB : World) (g h bl oo nl cl : Nat) (iv nd sq E : Int) (c : UInt8) (a1 a2 b : Ms) (V : BlkL) (X cur : List Value) : Nat → Value → World → Prop
  | 0 => fun v w => v = .pointer (some ⟨g, 0, none⟩)
  | 1 => fun v w => v = .slice (some ⟨bl, 0, none⟩) nl cl
  | 2 => fun v w => v = .int .i64 iv
  | 3 => fun v w => v = .pointer (some ⟨bl, oo, none⟩)
  | 4 => fun v w => v = .pointer (some ⟨bl, oo, none⟩)
  | 5 => fun v w => v = .int .i64 nd
  | 6 => fun v w => v = .slice (some ⟨bl, 0, none⟩) nl cl
  | 7 => fun v w => v = .int .i64 iv
  | 8 => fun v w => v = .pointer (some ⟨bl, oo, none⟩)
  | 9 => fun v w => v = .pointer (some ⟨bl, oo + 1, none⟩)
  | 10 => fun v w => v = .int .i64 sq
  | 11 => fun v w => v = .slice (some ⟨bl, 0, none⟩) nl cl
  | 12 => fun v w => v = .int .i64 iv
  | 13 => fun v w => v = .pointer (some ⟨bl, oo, none⟩)
  | 14 => fun v w => v = .pointer (some ⟨bl, oo + 2, none⟩)
  | 15 => fun v w => v = .int .u8 (c.toNat : Int)
  | 16 => fun v w => v = .agg X.toArray
  | 17 => fun v w => VoR2 wB g h a2 b V E v w
  | 18 => fun v w => v = .bool false
  | 19 => fun v w => Aw2 wB w g h a1 b V
  | _ => fun _ _ => True
def wqD (i : Nat) : Nat := ([71, 72, 73, 74, 75, 76, 77, 78, 79, 80, 81, 82, 83, 84, 85, 86, 87, 88, 89, 0] : List Nat).getD i 0
def wqK (i j : Nat) : Bool := ([(17, 19)] : List (Nat × Nat)).contains (i, j)
theorem wq_on (wB : World) (g h bl oo nl cl : Nat) (iv nd sq E : Int) (c : UInt8) (a1 a2 b : Ms) (V : BlkL) (X cur : List Value) : ∀ i v w w', wqR wB g h bl oo nl cl iv nd sq E c a1 a2 b V X cur i v w → Below w.heap.size w w' → wqR wB g h bl oo nl cl iv nd sq E c a1 a2 b V X cur i v w'
  | 0, v, w, w', h, _ => h
  | 1, v, w, w', h, _ => h
  | 2, v, w, w', h, _ => h
  | 3, v, w, w', h, _ => h
  | 4, v, w, w', h, _ => h
  | 5, v, w, w', h, _ => h
  | 6, v, w, w', h, _ => h
  | 7, v, w, w', h, _ => h
  | 8, v, w, w', h, _ => h
  | 9, v, w, w', h, _ => h
  | 10, v, w, w', h, _ => h
  | 11, v, w, w', h, _ => h
  | 12, v, w, w', h, _ => h
  | 13, v, w, w', h, _ => h
  | 14, v, w, w', h, _ => h
  | 15, v, w, w', h, _ => h
  | 16, v, w, w', h, _ => h
  | 17, v, w, w', h, hb => VoR2.below h hb
  | 18, v, w, w', h, _ => h
  | 19, v, w, w', h, hb => Aw2.below h hb
  | i + 20, v, w, w', h, hb => trivial
theorem wq_keep17 (wB : World) (g h bl oo nl cl : Nat) (iv nd sq E : Int) (c : UInt8) (a1 a2 b : Ms) (V : BlkL) (X cur : List Value) {w w' : World} : ∀ j u, j ≠ 17 → wqK 17 j = false → wqR wB g h bl oo nl cl iv nd sq E c a1 a2 b V X cur j u w → wqR wB g h bl oo nl cl iv nd sq E c a1 a2 b V X cur j u w'
  | 0, u, e, _, h => h
  | 1, u, e, _, h => h
  | 2, u, e, _, h => h
  | 3, u, e, _, h => h
  | 4, u, e, _, h => h
  | 5, u, e, _, h => h
  | 6, u, e, _, h => h
  | 7, u, e, _, h => h
  | 8, u, e, _, h => h
  | 9, u, e, _, h => h
  | 10, u, e, _, h => h
  | 11, u, e, _, h => h
  | 12, u, e, _, h => h
  | 13, u, e, _, h => h
  | 14, u, e, _, h => h
  | 15, u, e, _, h => h
  | 16, u, e, _, h => h
  | 17, u, e, _, h => absurd rfl e
  | 18, u, e, _, h => h
  | 19, u, e, hk, h => absurd hk (by decide)
  | j + 20, u, e, _, h => trivial
def wqX (wB : World) (g h bl oo nl cl : Nat) (iv nd sq E : Int) (c : UInt8) (a1 a2 b : Ms) (V : BlkL) (X cur : List Value) (w : World) : Prop := Blk w bl 48 cur
def wqOps : List Op := [.move (.tmp 4),
  .move (.tmp 5),
  .move (.tmp 8),
  .indexAddr 45 (.tmp 72) (.tmp 73),
  .fieldAddr 48 (.tmp 74) 0,
  .load 3 (.tmp 75),
  .move (.tmp 5),
  .move (.tmp 8),
  .indexAddr 45 (.tmp 77) (.tmp 78),
  .fieldAddr 48 (.tmp 79) 1,
  .load 3 (.tmp 80),
  .move (.tmp 5),
  .move (.tmp 8),
  .indexAddr 45 (.tmp 82) (.tmp 83),
  .fieldAddr 48 (.tmp 84) 2,
  .load 5 (.tmp 85),
  .call { callee := .value (.func 19), args := #[.tmp 81, .tmp 86], argTypes := #[3, 5] },
  .call { callee := .value (.func 12), args := #[.tmp 71, .tmp 76, .tmp 87], argTypes := #[30, 3, 28] },
  .binOp .neq 31 (.tmp 88) (.const (.int .i64 0)) 31]
def wqNeeds : Nat → List Nat
  | 0 => []
  | 1 => []
  | 2 => []
  | 3 => [1, 2]
  | 4 => [3]
  | 5 => [4]
  | 6 => []
  | 7 => []
  | 8 => [6, 7]
  | 9 => [8]
  | 10 => [9]
  | 11 => []
  | 12 => []
  | 13 => [11, 12]
  | 14 => [13]
  | 15 => [14]
  | 16 => [10, 15]
  | 17 => [0, 5, 16, 19]
  | 18 => [17]
  | _ => []
set_option maxRecDepth 100000 in
set_option maxHeartbeats 3200000 in
theorem wq_step {ops : Array Oper} {Q : Exit → Act → World → Prop} {a0 : Act} (wB : World) (g h bl oo nl cl : Nat) (iv nd sq E : Int) (c : UInt8) (a1 a2 b : Ms) (V : BlkL) (X cur : List Value) (hops : ((List.range 19).map fun i => (ops[i]?).map Oper.op) = wqOps.map some)
    (hdsl : ((List.range 19).map fun i => (ops[i]?).map Oper.dst) = ([some 71, some 72, some 73, some 74, some 75, some 76, some 77, some 78, some 79, some 80, some 81, some 82, some 83, some 84, some 85, some 86, some 87, some 88, some 89] : List (Option Tmp)).map some)
    (hnd : ((List.range 19).all fun i => (wqNeeds i).all fun j => (((ops[i]?).map fun o => (o.after.any fun e => Region.binds .any e && (e.on == j)) || (decide (19 ≤ j) && decide (j < 19 + 1))).getD false) && ((List.range 19).all fun q => !(wqK q j) || (q == i) || ((ops[q]?).map fun o => o.after.any fun e => Region.binds .any e && (e.on == i)).getD false)) = true)
     (x4 : a0.tmps[4]? = some (.pointer (some ⟨g, 0, none⟩))) (x5 : a0.tmps[5]? = some (.slice (some ⟨bl, 0, none⟩) nl cl)) (x8 : a0.tmps[8]? = some (.int .i64 iv))
    (hix : ∀ w, (Instr.indexAt 45 (.slice (some ⟨bl, 0, none⟩) nl cl) (.int .i64 iv)).run Try.prog w = .ok (.pointer (some ⟨bl, oo, none⟩)) w)
    (hbV : (bl, 48, cur) ∈ V) (hc0 : cur[oo]? = some (.int .i64 nd)) (hc1 : cur[oo + 1]? = some (.int .i64 sq)) (hc2 : cur[oo + 2]? = some (.int .u8 (c.toNat : Int))) (hE0 : E = 0)
    (hM : ∀ w, Calls Try.prog 19 #[.int .i64 sq, .int .u8 (c.toNat : Int)] w fun e w' => e = .returned (.agg X.toArray) ∧ Below w.heap.size w w')
    (hV : ∀ W, Aw2 wB W g h a1 b V → Calls Try.prog 12 #[.pointer (some ⟨g, 0, none⟩), .int .i64 nd, .agg X.toArray] W fun e w' => e = .returned (.int .i64 E) ∧ Aw2 wB w' g h a2 b V) :
    ∀ i o, i < 19 → ops[i]? = some o → o.guard = none → (o.dst = some (wqD i) ∨ o.dst = none) → ∀ a w, Base wqD 19 a0 a → (Below wB.heap.size wB w ∧ wqX wB g h bl oo nl cl iv nd sq E c a1 a2 b V X cur w) →
      (∀ j, ((o.after.any fun e => Region.binds .any e && (e.on == j)) || (decide (19 ≤ j) && decide (j < 19 + 1))) = true → ((List.range 19).all fun q => !(wqK q j) || (q == i) || ((ops[q]?).map fun o => o.after.any fun e => Region.binds .any e && (e.on == i)).getD false) = true → Has wqD (wqR wB g h bl oo nl cl iv nd sq E c a1 a2 b V X cur) j a w) →
      ∀ K : Act → World → Prop, (∀ v w', (Below wB.heap.size wB w' ∧ wqX wB g h bl oo nl cl iv nd sq E c a1 a2 b V X cur w') → (o.dst = some (wqD i) → wqR wB g h bl oo nl cl iv nd sq E c a1 a2 b V X cur i v w') → (o.dst = none → ∃ u, a.tmps[wqD i]? = some u ∧ wqR wB g h bl oo nl cl iv nd sq E c a1 a2 b V X cur i u w') → (∀ j u, j ≠ i → wqK i j = false → ((ops[j]?).map fun o => o.after.any fun e => Region.binds .any e && (e.on == i)).getD false = false → wqR wB g h bl oo nl cl iv nd sq E c a1 a2 b V X cur j u w → wqR wB g h bl oo nl cl iv nd sq E c a1 a2 b V X cur j u w') → K (a.put o.dst v) w') → wpOp Try.prog ops Q i K a w := by
  intro i o hi ho hgd hdst a w hbase hI hdep0 K hK5
  obtain ⟨hbl, hX⟩ := hI
  have hwt : Region.wanted o (yielded ops a.tmps) = true := by unfold Region.wanted; rw [hgd]
  have hop : some o.op = wqOps[i]? := by
    have h1 : ((List.range 19).map fun i => (ops[i]?).map Oper.op)[i]? = some (some o.op) := by
      rw [List.getElem?_map, List.getElem?_range hi]; simp only [Option.map_some, ho]
    rw [hops, List.getElem?_map] at h1
    cases h2 : wqOps[i]? with
    | none => rw [h2] at h1; cases h1
    | some y => rw [h2] at h1; simp only [Option.map_some, Option.some.injEq] at h1; rw [h1]
  have hds : some o.dst = ([some 71, some 72, some 73, some 74, some 75, some 76, some 77, some 78, some 79, some 80, some 81, some 82, some 83, some 84, some 85, some 86, some 87, some 88, some 89] : List (Option Tmp))[i]? := by
    have h1 : ((List.range 19).map fun i => (ops[i]?).map Oper.dst)[i]? = some (some o.dst) := by
      rw [List.getElem?_map, List.getElem?_range hi]; simp only [Option.map_some, ho]
    rw [hdsl, List.getElem?_map] at h1
    cases h2 : ([some 71, some 72, some 73, some 74, some 75, some 76, some 77, some 78, some 79, some 80, some 81, some 82, some 83, some 84, some 85, some 86, some 87, some 88, some 89] : List (Option Tmp))[i]? with
    | none => rw [h2] at h1; cases h1
    | some y => rw [h2] at h1; simp only [Option.map_some, Option.some.injEq] at h1; rw [h1]
  have hdep : ∀ j, j ∈ wqNeeds i → Has wqD (wqR wB g h bl oo nl cl iv nd sq E c a1 a2 b V X cur) j a w := fun j hj => by
    have h1 := List.all_eq_true.1 (List.all_eq_true.1 hnd i (List.mem_range.2 hi)) j hj
    rw [ho, Bool.and_eq_true] at h1
    exact hdep0 j h1.1 h1.2
  have hK : o.dst = some (wqD i) → ∀ v w', wqR wB g h bl oo nl cl iv nd sq E c a1 a2 b V X cur i v w' → Below w.heap.size w w' → K (a.put o.dst v) w' := fun e v w' h1 h2 => hK5 v w' ⟨hbl.trans (h2.mono hbl.size), Blk.below hX h2 (Blk.lt hX)⟩ (fun _ => h1) (fun e' => by rw [e] at e'; cases e') (fun j u _ _ _ hj => wq_on wB g h bl oo nl cl iv nd sq E c a1 a2 b V X cur j u w w' hj h2)
  clear hdep0 hops hnd hdsl hdst
  match i, hi, ho, hop, hds, hdep, hK, hK5 with
  | 0, _, ho, hop, hds, hdep, hK, hK5 =>
    have hop : o.op = .move (.tmp 4) := Option.some.inj hop
    have hu4 : a.tmps[4]? = some (.pointer (some ⟨g, 0, none⟩)) := (hbase.2.2 4 (by decide)).trans x4
    have e4 : a.eval (.tmp 4) = _ := ev_tmp hu4
    have hK := hK (Option.some.inj hds)
    refine st3 ho hwt (v := _) (w' := w) ?_ (hK _ w rfl (Below.refl _ _))
    unfold execOp
    rw [hop, ← e4]
    rfl
  | 1, _, ho, hop, hds, hdep, hK, hK5 =>
    have hop : o.op = .move (.tmp 5) := Option.some.inj hop
    have hu5 : a.tmps[5]? = some (.slice (some ⟨bl, 0, none⟩) nl cl) := (hbase.2.2 5 (by decide)).trans x5
    have e5 : a.eval (.tmp 5) = _ := ev_tmp hu5
    have hK := hK (Option.some.inj hds)
    refine st3 ho hwt (v := _) (w' := w) ?_ (hK _ w rfl (Below.refl _ _))
    unfold execOp
    rw [hop, ← e5]
    rfl
  | 2, _, ho, hop, hds, hdep, hK, hK5 =>
    have hop : o.op = .move (.tmp 8) := Option.some.inj hop
    have hu8 : a.tmps[8]? = some (.int .i64 iv) := (hbase.2.2 8 (by decide)).trans x8
    have e8 : a.eval (.tmp 8) = _ := ev_tmp hu8
    have hK := hK (Option.some.inj hds)
    refine st3 ho hwt (v := _) (w' := w) ?_ (hK _ w rfl (Below.refl _ _))
    unfold execOp
    rw [hop, ← e8]
    rfl
  | 3, _, ho, hop, hds, hdep, hK, hK5 =>
    have hop : o.op = .indexAddr 45 (.tmp 72) (.tmp 73) := Option.some.inj hop
    obtain ⟨u72, hu72, hv72⟩ := hdep 1 (by decide)
    have hv72' : u72 = .slice (some ⟨bl, 0, none⟩) nl cl := hv72
    subst hv72'
    have e72 : a.eval (.tmp 72) = _ := ev_tmp hu72
    obtain ⟨u73, hu73, hv73⟩ := hdep 2 (by decide)
    have hv73' : u73 = .int .i64 iv := hv73
    subst hv73'
    have e73 : a.eval (.tmp 73) = _ := ev_tmp hu73
    have hK := hK (Option.some.inj hds)
    refine st3 ho hwt (v := .pointer (some ⟨bl, oo, none⟩)) (w' := w) ?_ (hK _ w rfl (Below.refl _ _))
    have hq := hix w
    unfold execOp
    simp only [hop, e72, e73, Sem.run_bind, hq, Result.andThen_ok]
    rfl
  | 4, _, ho, hop, hds, hdep, hK, hK5 =>
    have hop : o.op = .fieldAddr 48 (.tmp 74) 0 := Option.some.inj hop
    obtain ⟨u74, hu74, hv74⟩ := hdep 3 (by decide)
    have hv74' : u74 = .pointer (some ⟨bl, oo, none⟩) := hv74
    subst hv74'
    have e74 : a.eval (.tmp 74) = _ := ev_tmp hu74
    have hK := hK (Option.some.inj hds)
    refine st3 ho hwt (v := .pointer (some ⟨bl, oo, none⟩)) (w' := w) ?_ (hK _ w rfl (Below.refl _ _))
    unfold execOp
    simp only [hop, Option.map_some, Option.map_none, e74]
    first | rfl | (go_simp; done) | (go_simp; simp; done) | (go_simp; intro h; omega)
  | 5, _, ho, hop, hds, hdep, hK, hK5 =>
    have hop : o.op = .load 3 (.tmp 75) := Option.some.inj hop
    obtain ⟨u75, hu75, hv75⟩ := hdep 4 (by decide)
    have hv75' : u75 = .pointer (some ⟨bl, oo, none⟩) := hv75
    subst hv75'
    have e75 : a.eval (.tmp 75) = _ := ev_tmp hu75
    have hK := hK (Option.some.inj hds)
    have k0 : w.cell? ⟨bl, oo, none⟩ = some (.int .i64 nd) := (show Blk w bl 48 cur from hX).cell hc0
    refine st3 ho hwt (v := .int .i64 nd) (w' := w) ?_ (hK _ w rfl (Below.refl _ _))
    unfold execOp
    simp only [hop, Option.map_some, Option.map_none, e75]
    first | rfl | (go_simp; done) | (go_simp; simp; done) | (go_simp; intro h; omega)
  | 6, _, ho, hop, hds, hdep, hK, hK5 =>
    have hop : o.op = .move (.tmp 5) := Option.some.inj hop
    have hu5 : a.tmps[5]? = some (.slice (some ⟨bl, 0, none⟩) nl cl) := (hbase.2.2 5 (by decide)).trans x5
    have e5 : a.eval (.tmp 5) = _ := ev_tmp hu5
    have hK := hK (Option.some.inj hds)
    refine st3 ho hwt (v := _) (w' := w) ?_ (hK _ w rfl (Below.refl _ _))
    unfold execOp
    rw [hop, ← e5]
    rfl
  | 7, _, ho, hop, hds, hdep, hK, hK5 =>
    have hop : o.op = .move (.tmp 8) := Option.some.inj hop
    have hu8 : a.tmps[8]? = some (.int .i64 iv) := (hbase.2.2 8 (by decide)).trans x8
    have e8 : a.eval (.tmp 8) = _ := ev_tmp hu8
    have hK := hK (Option.some.inj hds)
    refine st3 ho hwt (v := _) (w' := w) ?_ (hK _ w rfl (Below.refl _ _))
    unfold execOp
    rw [hop, ← e8]
    rfl
  | 8, _, ho, hop, hds, hdep, hK, hK5 =>
    have hop : o.op = .indexAddr 45 (.tmp 77) (.tmp 78) := Option.some.inj hop
    obtain ⟨u77, hu77, hv77⟩ := hdep 6 (by decide)
    have hv77' : u77 = .slice (some ⟨bl, 0, none⟩) nl cl := hv77
    subst hv77'
    have e77 : a.eval (.tmp 77) = _ := ev_tmp hu77
    obtain ⟨u78, hu78, hv78⟩ := hdep 7 (by decide)
    have hv78' : u78 = .int .i64 iv := hv78
    subst hv78'
    have e78 : a.eval (.tmp 78) = _ := ev_tmp hu78
    have hK := hK (Option.some.inj hds)
    refine st3 ho hwt (v := .pointer (some ⟨bl, oo, none⟩)) (w' := w) ?_ (hK _ w rfl (Below.refl _ _))
    have hq := hix w
    unfold execOp
    simp only [hop, e77, e78, Sem.run_bind, hq, Result.andThen_ok]
    rfl
  | 9, _, ho, hop, hds, hdep, hK, hK5 =>
    have hop : o.op = .fieldAddr 48 (.tmp 79) 1 := Option.some.inj hop
    obtain ⟨u79, hu79, hv79⟩ := hdep 8 (by decide)
    have hv79' : u79 = .pointer (some ⟨bl, oo, none⟩) := hv79
    subst hv79'
    have e79 : a.eval (.tmp 79) = _ := ev_tmp hu79
    have hK := hK (Option.some.inj hds)
    refine st3 ho hwt (v := .pointer (some ⟨bl, oo + 1, none⟩)) (w' := w) ?_ (hK _ w rfl (Below.refl _ _))
    unfold execOp
    simp only [hop, Option.map_some, Option.map_none, e79]
    first | rfl | (go_simp; done) | (go_simp; simp; done) | (go_simp; intro h; omega)
  | 10, _, ho, hop, hds, hdep, hK, hK5 =>
    have hop : o.op = .load 3 (.tmp 80) := Option.some.inj hop
    obtain ⟨u80, hu80, hv80⟩ := hdep 9 (by decide)
    have hv80' : u80 = .pointer (some ⟨bl, oo + 1, none⟩) := hv80
    subst hv80'
    have e80 : a.eval (.tmp 80) = _ := ev_tmp hu80
    have hK := hK (Option.some.inj hds)
    have k0 : w.cell? ⟨bl, oo + 1, none⟩ = some (.int .i64 sq) := (show Blk w bl 48 cur from hX).cell hc1
    refine st3 ho hwt (v := .int .i64 sq) (w' := w) ?_ (hK _ w rfl (Below.refl _ _))
    unfold execOp
    simp only [hop, Option.map_some, Option.map_none, e80]
    first | rfl | (go_simp; done) | (go_simp; simp; done) | (go_simp; intro h; omega)
  | 11, _, ho, hop, hds, hdep, hK, hK5 =>
    have hop : o.op = .move (.tmp 5) := Option.some.inj hop
    have hu5 : a.tmps[5]? = some (.slice (some ⟨bl, 0, none⟩) nl cl) := (hbase.2.2 5 (by decide)).trans x5
    have e5 : a.eval (.tmp 5) = _ := ev_tmp hu5
    have hK := hK (Option.some.inj hds)
    refine st3 ho hwt (v := _) (w' := w) ?_ (hK _ w rfl (Below.refl _ _))
    unfold execOp
    rw [hop, ← e5]
    rfl
  | 12, _, ho, hop, hds, hdep, hK, hK5 =>
    have hop : o.op = .move (.tmp 8) := Option.some.inj hop
    have hu8 : a.tmps[8]? = some (.int .i64 iv) := (hbase.2.2 8 (by decide)).trans x8
    have e8 : a.eval (.tmp 8) = _ := ev_tmp hu8
    have hK := hK (Option.some.inj hds)
    refine st3 ho hwt (v := _) (w' := w) ?_ (hK _ w rfl (Below.refl _ _))
    unfold execOp
    rw [hop, ← e8]
    rfl
  | 13, _, ho, hop, hds, hdep, hK, hK5 =>
    have hop : o.op = .indexAddr 45 (.tmp 82) (.tmp 83) := Option.some.inj hop
    obtain ⟨u82, hu82, hv82⟩ := hdep 11 (by decide)
    have hv82' : u82 = .slice (some ⟨bl, 0, none⟩) nl cl := hv82
    subst hv82'
    have e82 : a.eval (.tmp 82) = _ := ev_tmp hu82
    obtain ⟨u83, hu83, hv83⟩ := hdep 12 (by decide)
    have hv83' : u83 = .int .i64 iv := hv83
    subst hv83'
    have e83 : a.eval (.tmp 83) = _ := ev_tmp hu83
    have hK := hK (Option.some.inj hds)
    refine st3 ho hwt (v := .pointer (some ⟨bl, oo, none⟩)) (w' := w) ?_ (hK _ w rfl (Below.refl _ _))
    have hq := hix w
    unfold execOp
    simp only [hop, e82, e83, Sem.run_bind, hq, Result.andThen_ok]
    rfl
  | 14, _, ho, hop, hds, hdep, hK, hK5 =>
    have hop : o.op = .fieldAddr 48 (.tmp 84) 2 := Option.some.inj hop
    obtain ⟨u84, hu84, hv84⟩ := hdep 13 (by decide)
    have hv84' : u84 = .pointer (some ⟨bl, oo, none⟩) := hv84
    subst hv84'
    have e84 : a.eval (.tmp 84) = _ := ev_tmp hu84
    have hK := hK (Option.some.inj hds)
    refine st3 ho hwt (v := .pointer (some ⟨bl, oo + 2, none⟩)) (w' := w) ?_ (hK _ w rfl (Below.refl _ _))
    unfold execOp
    simp only [hop, Option.map_some, Option.map_none, e84]
    first | rfl | (go_simp; done) | (go_simp; simp; done) | (go_simp; intro h; omega)
  | 15, _, ho, hop, hds, hdep, hK, hK5 =>
    have hop : o.op = .load 5 (.tmp 85) := Option.some.inj hop
    obtain ⟨u85, hu85, hv85⟩ := hdep 14 (by decide)
    have hv85' : u85 = .pointer (some ⟨bl, oo + 2, none⟩) := hv85
    subst hv85'
    have e85 : a.eval (.tmp 85) = _ := ev_tmp hu85
    have hK := hK (Option.some.inj hds)
    have k0 : w.cell? ⟨bl, oo + 2, none⟩ = some (.int .u8 (c.toNat : Int)) := (show Blk w bl 48 cur from hX).cell hc2
    refine st3 ho hwt (v := .int .u8 (c.toNat : Int)) (w' := w) ?_ (hK _ w rfl (Below.refl _ _))
    unfold execOp
    simp only [hop, Option.map_some, Option.map_none, e85]
    first | rfl | (go_simp; done) | (go_simp; simp; done) | (go_simp; intro h; omega)
  | 16, _, ho, hop, hds, hdep, hK, hK5 =>
    have hop : o.op = .call { callee := .value (.func 19), args := #[.tmp 81, .tmp 86], argTypes := #[3, 5] } := Option.some.inj hop
    obtain ⟨u81, hu81, hv81⟩ := hdep 10 (by decide)
    have hv81' : u81 = .int .i64 sq := hv81
    subst hv81'
    have e81 : a.eval (.tmp 81) = _ := ev_tmp hu81
    obtain ⟨u86, hu86, hv86⟩ := hdep 15 (by decide)
    have hv86' : u86 = .int .u8 (c.toNat : Int) := hv86
    subst hv86'
    have e86 : a.eval (.tmp 86) = _ := ev_tmp hu86
    have hK := hK (Option.some.inj hds)
    refine st3_call ho hwt (f := 19) (vals := #[.int .i64 sq, .int .u8 (c.toNat : Int)]) (Z := fun v w' => v = .agg X.toArray ∧ Below w.heap.size w w') ?_ ?_ ?_
    · unfold execOp
      simp only [hop, e81, e86, resolve, invoke, Sem.run_bind, Sem.run_pure, Result.andThen_ok, List.map_toArray, List.map_cons, List.map_nil]
      first | rfl | exact enters_of Try.func19 (by kernel_rfl) rfl _ _
    · exact (hM w).mono fun e w' ⟨he, h2⟩ => ⟨_, he, rfl, h2⟩
    · rintro v w' ⟨h1, h2⟩
      exact hK v w' h1 h2
  | 17, _, ho, hop, hds, hdep, hK, hK5 =>
    have hop : o.op = .call { callee := .value (.func 12), args := #[.tmp 71, .tmp 76, .tmp 87], argTypes := #[30, 3, 28] } := Option.some.inj hop
    obtain ⟨u71, hu71, hv71⟩ := hdep 0 (by decide)
    have hv71' : u71 = .pointer (some ⟨g, 0, none⟩) := hv71
    subst hv71'
    have e71 : a.eval (.tmp 71) = _ := ev_tmp hu71
    obtain ⟨u76, hu76, hv76⟩ := hdep 5 (by decide)
    have hv76' : u76 = .int .i64 nd := hv76
    subst hv76'
    have e76 : a.eval (.tmp 76) = _ := ev_tmp hu76
    obtain ⟨u87, hu87, hv87⟩ := hdep 16 (by decide)
    have hv87' : u87 = .agg X.toArray := hv87
    subst hv87'
    have e87 : a.eval (.tmp 87) = _ := ev_tmp hu87
    have hK := hK (Option.some.inj hds)
    obtain ⟨uE, huE, hvE⟩ := hdep 19 (by decide)
    refine st3_call ho hwt (f := 12) (vals := #[.pointer (some ⟨g, 0, none⟩), .int .i64 nd, .agg X.toArray]) (Z := fun v w' => v = .int .i64 E ∧ Aw2 wB w' g h a2 b V) ?_ ?_ ?_
    · unfold execOp
      simp only [hop, e71, e76, e87, resolve, invoke, Sem.run_bind, Sem.run_pure, Result.andThen_ok, List.map_toArray, List.map_cons, List.map_nil]
      first | rfl | exact enters_of Try.func12 (by kernel_rfl) rfl _ _
    · exact (hV w hvE).mono fun e w' ⟨he, h2⟩ => ⟨_, he, rfl, h2⟩
    · rintro v w' ⟨h1, h2⟩
      exact hK5 v w' ⟨h2.bel, h2.blk hbV⟩ (fun _ => ⟨h1, h2⟩) (fun e => by rw [Option.some.inj hds] at e; cases e) (fun j u k1 k2 _ k4 => wq_keep17 wB g h bl oo nl cl iv nd sq E c a1 a2 b V X cur j u k1 k2 k4)
  | 18, _, ho, hop, hds, hdep, hK, hK5 =>
    have hop : o.op = .binOp .neq 31 (.tmp 88) (.const (.int .i64 0)) 31 := Option.some.inj hop
    obtain ⟨u88, hu88, hv88⟩ := hdep 17 (by decide)
    have hv88' : VoR2 wB g h a2 b V E u88 w := hv88
    have e88 : a.eval (.tmp 88) = _ := ev_tmp hu88
    have hK := hK (Option.some.inj hds)
    have hz := hv88'.1
    subst hz
    subst hE0
    refine st3 ho hwt (v := .bool false) (w' := w) ?_ (hK _ w rfl (Below.refl _ _))
    unfold execOp
    simp only [hop, Option.map_some, Option.map_none, e88]
    first | rfl | (go_simp; done) | (go_simp; simp; done) | (go_simp; intro h; omega)
  | i + 19, hi, _, _, _, _, _, _ => exact absurd hi (by omega)
set_option maxRecDepth 100000 in
set_option maxHeartbeats 64000000 in
theorem walk (Al : Option Addr) (nl cl : Nat) (l : List WdL) (w : World) (hl : ArgWd w Al nl cl l) :
    Calls Try.prog 5 #[.slice Al nl cl] w fun e w' => e = .returned (.bool true) ∧ Below w.heap.size w w' := by
  have HB : Hid (∀ z, Wf z → ∀ n : Int, 0 < n → n ≤ 100 → ∀ W, Calls Try.prog 11 #[.int .i64 z, .int .i64 n] W fun e w' => e = .returned (.int .i64 (z % n)) ∧ w' = W) := Lib.hid fun z hz n h0 h1 W => bring_w z n W h0 (by omega) hz
  have HL := Lib.hid hl
  have hlen := hl.1
  have hnl : (nl : Int) ≤ 9223372036854775807 := by have := hl.2.1; have := hl.2.2.1; unfold maxLen at this; omega
  clear hl
  have HF : Hid (∀ W, Calls Try.prog 18 #[.int .i64 1] W fun e w' => ∃ g, e = .returned (.pointer (some ⟨g, 0, none⟩)) ∧ MsAt w' (fun b => W.heap.size ≤ b ∧ b < w'.heap.size) g (fr 1) ∧ Below W.heap.size W w') := Lib.hid fun W => fresh_any 1 (by omega) (by omega) W
  go_enter Try.func5, Try.ntmps5
  go_wp2_with fail
  refine (HF.out _).mono ?_
  rintro e w1 ⟨g, rfl, hst, hb1⟩
  have H1 := Lib.hid (And.intro hst hb1)
  clear hst hb1
  go_wp2_with fail
  refine (HF.out _).mono ?_
  rintro e w2 ⟨h, rfl, hst, hb1⟩
  have H2 := Lib.hid (Aw2.new H1.out.1 H1.out.2 hst hb1)
  clear hst hb1
  go_wp2
  go_loopw [5, 6] (fun v5 v6 wr => ∃ (i : Nat) (m : Ms) (fit : List WdL) (A : Option Addr) (cap : Nat) (V : BlkL), i ≤ nl ∧ i ≤ 60 ∧ v6 = .int .i64 (i : Int) ∧ v5 = .slice A fit.length cap ∧ fit.length ≤ i ∧ OrI m fit ∧ FitV A cap fit V ∧ Aw2 w wr g h m (fr 1) V) (fun _ v _ => 100 - (intOf v).toNat)
  case atStart => exact ⟨0, fr 1, [], none, 0, [], by omega, by omega, rfl, rfl, by simp, OrI.fresh, FitV.nil _, H2.out⟩
  case round =>
    rename World => wo
    obtain ⟨i, m, fit, A, cap, V, hi, hi80, rfl, rfl, hfl, hT, hV, hA⟩ := hrel
    have HT := Lib.hid hT
    have HA := Lib.hid hA
    have HVf := Lib.hid hV
    clear hT hA hV
    by_cases hc : i < nl ∧ i < 60
    · obtain ⟨hc1, hc2⟩ := hc
      have hd1 : (i : Int) < (nl : Int) := by omega
      have hd2 : (i : Int) < 60 := by omega
      have hdw := (Below.refl wo.heap.size wo).drew
      obtain ⟨bl, ol, hAl, hbl0, hW⟩ := ((HL.out.after HA.out.bel).after hdw).at_ (j := i) (by omega)
      obtain ⟨k1, k2, c0, c1, c2⟩ := hW
      generalize l[i] = x at *
      subst hAl
      have HC := Lib.hid (And.intro k1 (And.intro k2 (And.intro c0 (And.intro c1 (And.intro c2 hbl0)))))
      clear k1 k2 c0 c1 c2 hbl0
      obtain ⟨n1, hn1⟩ : ∃ z, x.nd % 4 = z := ⟨_, rfl⟩
      obtain ⟨q1, hq1⟩ : ∃ z, x.sq % 4 = z := ⟨_, rfl⟩
      obtain ⟨c, hc⟩ : ∃ z, x.b &&& 1 = z := ⟨_, rfl⟩
      have B1 : Hid (∀ W, Calls Try.prog 11 #[.int .i64 x.nd, .int .i64 4] W fun e w' => e = .returned (.int .i64 n1) ∧ w' = W) := Lib.hid fun W => by rw [← hn1]; exact HB.out x.nd HC.out.1 4 (by omega) (by omega) W
      have B2 : Hid (∀ W, Calls Try.prog 11 #[.int .i64 x.sq, .int .i64 4] W fun e w' => e = .returned (.int .i64 q1) ∧ w' = W) := Lib.hid fun W => by rw [← hq1]; exact HB.out x.sq HC.out.2.1 4 (by omega) (by omega) W
      have n0 : 0 ≤ n1 := by omega
      have n4 : n1 < 4 := by omega
      have q0 : 0 ≤ q1 := by omega
      have q6 : q1 < 4 := by omega
      clear hn1 hq1
      have hw1 : IntKind.i64.wrap (1 + n1) = 1 + n1 := IntWalk.i64_in _ (by omega)
      have hw2 : IntKind.i64.wrap (1 + q1) = 1 + q1 := IntWalk.i64_in _ (by omega)
      have Hc := Lib.hid (show bits BinOp.and IntKind.u8 (x.b.toNat : Int) 1 = (c.toNat : Int) by rw [← hc]; exact bits_one x.b)
      obtain ⟨y, hy⟩ : ∃ y : WdL, y = ⟨1 + n1, 1 + q1, c⟩ := ⟨_, rfl⟩
      have hyk : WOk y := by rw [hy]; exact ⟨by show 1 ≤ 1 + n1; omega, by show 1 + n1 ≤ 4; omega, by show 1 ≤ 1 + q1; omega, by show 1 + q1 ≤ 4; omega⟩
      obtain ⟨X, hX⟩ : ∃ X, mkC (mkW y) = X := ⟨_, rfl⟩
      have HM : Hid (∀ W, Calls Try.prog 19 #[.int .i64 (1 + q1), .int .u8 (c.toNat : Int)] W fun e w' => e = .returned (.agg X.toArray) ∧ Below W.heap.size W w') := Lib.hid fun W => by rw [← hX, hy]; exact mkI_any (s := 1 + q1) (by omega) (by omega) c W
      have HXw := Lib.hid (fun W => word_at W bl ol nl cl i hc1)
      clear hc
      go_wp2_with fail
      refine region_rule5 (P := Try.prog) 23 131 woD (woR wo.drew bl ol (ol + i * 3) nl cl (i : Int) x.nd x.sq n1 (1 + n1) q1 (1 + q1) x.b c) (fun w => Below (wo.drew).heap.size (wo.drew) w ∧ woX wo.drew bl ol (ol + i * 3) nl cl (i : Int) x.nd x.sq n1 (1 + n1) q1 (1 + q1) x.b c w) _ _ (by kernel_rfl) rfl rfl (by kernel_rfl) (by decide +kernel) ⟨Below.refl _ _, trivial⟩ (wo_step wo.drew bl ol (ol + i * 3) nl cl (i : Int) x.nd x.sq n1 (1 + n1) q1 (1 + q1) x.b c (by rfl) (by rfl) (by kernel_rfl) rfl rfl HXw.out HC.out.2.2.2.2.2 HC.out.2.2.1 HC.out.2.2.2.1 HC.out.2.2.2.2.1 B1.out B2.out hw1 hw2 Hc.out) ?fin
      case fin =>
        intro a w6 hbase hI hall
        obtain ⟨v7, hv7, hR7⟩ := hall 22 (by decide)
        have hR7' : ∃ r, v7 = .pointer (some ⟨r, 0, none⟩) ∧ Blk w6 r 48 [.int .i64 (1 + n1), .int .i64 (1 + q1), .int .u8 (c.toNat : Int)] ∧ wo.drew.heap.size ≤ r := hR7
        obtain ⟨bv, hv, hBv, hbv⟩ := hR7'
        subst hv
        obtain ⟨gf, hgfe, hgf⟩ := base_lit hbase [29, 30, 31, 32, 33, 34, 35, 36, 37, 38, 39, 40, 41, 42, 43, 44, 45, 46, 47, 48, 49, 7, 7] (by rfl)
        have q7 : gf 7 = .pointer (some ⟨bv, 0, none⟩) := hgfe 7 _ hv7
        simp only [List.foldl_cons, List.foldl_nil, List.setIfInBounds_toArray, List.set_cons_zero, List.set_cons_succ, q7] at hgf
        rw [hgf]
        have hbw := hI.1
        have hA2 := ((HA.out.below hdw).add hbw hbv hBv)
        have H3 := Lib.hid hA2
        clear hv7 hR7 hgfe hgf hA2 hI hall hbase hbw hbv hBv hdw
        obtain ⟨m', hm'⟩ : ∃ m', voteS m (1 + n1) (mkW y) = m' := ⟨_, rfl⟩
        obtain ⟨E, hE⟩ : ∃ E, voteE m (1 + n1) (mkW y) = E := ⟨_, rfl⟩
        obtain ⟨V2, hV2⟩ : ∃ V2 : BlkL, (bv, 48, [Value.int .i64 (1 + n1), .int .i64 (1 + q1), .int .u8 (c.toNat : Int)]) :: V = V2 := ⟨_, rfl⟩
        rw [hV2] at H3
        have hmem : (bv, 48, [Value.int .i64 (1 + n1), .int .i64 (1 + q1), .int .u8 (c.toNat : Int)]) ∈ V2 := by rw [← hV2]; simp
        have hmemV : ∀ p ∈ V, p ∈ V2 := by rw [← hV2]; exact fun p hp => by simp [hp]
        clear hV2
        have HV : Hid (∀ W, Aw2 w W g h m (fr 1) V2 → Calls Try.prog 12 #[.pointer (some ⟨g, 0, none⟩), .int .i64 (1 + n1), .agg X.toArray] W fun e w' => e = .returned (.int .i64 E) ∧ Aw2 w w' g h m' (fr 1) V2) := Lib.hid fun W k => by rw [← hX, ← hm']; exact Aw2.vote k (wf_b (by omega) (by omega)) _ hE
        have HAd := Lib.hid (H3.out.below (Below.refl _ _).drew)
        obtain ⟨B, hB⟩ : ∃ B, (E == 0) = B := ⟨_, rfl⟩
        have HG := Lib.hid (And.intro hm' (And.intro hE (And.intro hy hyk)))
        clear hm' hE hy hX
        go_wp2_with fail
        refine region_rule6 (P := Try.prog) 10 131 1 wpK wpD (wpR w g h bv (1 + n1) (1 + q1) E c B m m' (fr 1) V2 X [.int .i64 (1 + n1), .int .i64 (1 + q1), .int .u8 (c.toNat : Int)]) (fun W6 => Below (w).heap.size (w) W6 ∧ wpX w g h bv (1 + n1) (1 + q1) E c B m m' (fr 1) V2 X [.int .i64 (1 + n1), .int .i64 (1 + q1), .int .u8 (c.toNat : Int)] W6) _ _ (by kernel_rfl) rfl rfl (by kernel_rfl) (by decide +kernel) (by decide +kernel) ⟨HAd.out.bel, HAd.out.blk hmem⟩ (fun y h1 h2 => by
            obtain rfl : y = 10 := by omega
            exact ⟨_, rfl, HAd.out⟩) (wp_step w g h bv (1 + n1) (1 + q1) E c B m m' (fr 1) V2 X [.int .i64 (1 + n1), .int .i64 (1 + q1), .int .u8 (c.toNat : Int)] (by rfl) (by rfl) (by decide +kernel) rfl rfl hmem rfl rfl rfl hB HM.out HV.out) ?fin7
        case fin7 =>
          intro a w6 hbase hI hall
          obtain ⟨v58, hv58, hR58⟩ := hall 8 (by decide) (by decide)
          have hR58' : VoR2 w g h m' (fr 1) V2 E v58 w6 := hR58
          obtain ⟨hv, hA2⟩ := hR58'
          subst hv
          obtain ⟨v59, hv59, hR59⟩ := hall 9 (by decide) (by decide)
          have hR59' : v59 = .bool B := hR59
          subst hR59'
          obtain ⟨gg, hgge, hgg⟩ := base_lit hbase [50, 51, 52, 53, 54, 55, 56, 57, 58, 59] (by rfl)
          have q58 : gg 58 = .int .i64 E := hgge 58 _ hv58
          have q59 : gg 59 = .bool B := hgge 59 _ hv59
          simp only [List.foldl_cons, List.foldl_nil, List.setIfInBounds_toArray, List.set_cons_zero, List.set_cons_succ, q58, q59] at hgg
          rw [hgg]
          have H4 := Lib.hid hA2
          clear hv58 hR58 hv59 hR59 hgge hgg q58 q59 hA2 hI hall hbase
          have hwi : IntKind.i64.wrap ((i : Int) + 1) = (i : Int) + 1 := IntWalk.i64_in _ (by omega)
          cases B with
          | false =>
            have hE0 : E ≠ 0 := by simpa using hB
            have hsame : m' = m := by rw [← HG.out.1]; unfold voteS; rw [if_neg (fun hh => hE0 (HG.out.2.1.symm.trans hh.1))]
            have H5 := Lib.hid (H4.out.less hmemV)
            rw [hsame] at H5
            clear hE0 hsame hmem
            go_wp2
            go_roundw
            case rel => exact ⟨i + 1, m, fit, A, cap, V, by omega, by omega, by first | rfl | (push_cast; rfl), rfl, by omega, HT.out, HVf.out, H5.out⟩
            case measure => simp [intOf]; omega
          | true =>
            have hE0 : E = 0 := by simpa using hB
            have hT' : OrI m' (fit ++ [y]) := by
              have e1 : y.nd = 1 + n1 := by rw [HG.out.2.2.1]
              have := HT.out.vote (x := y) HG.out.2.2.2 (by rw [e1, HG.out.2.1, hE0]) (fit' := fit ++ [y]) (fun z => by simp)
              rw [e1, HG.out.1] at this
              exact this
            rename World => wv
            have hBv := H4.out.blk hmem
            have hrow0 := HVf.out.row (H4.out.less hmemV)
            have eC : ([.int .i64 (1 + n1), .int .i64 (1 + q1), .int .u8 (c.toNat : Int)] : List Value) = wcs [y] := by rw [HG.out.2.2.1]; rfl
            obtain ⟨w7, hw7⟩ : ∃ W, wv.alloc (.cells #[.int .i64 (1 + n1), .int .i64 (1 + q1), .int .u8 (c.toNat : Int)] 48) = W := ⟨_, rfl⟩
            have hb7 : Below wv.heap.size wv w7 := by rw [← hw7]; exact (Below.refl _ _).alloc (Nat.le_refl _) _
            have hB7 : Blk w7 wv.heap.size 48 (wcs [y]) := by rw [← hw7, ← eC]; exact Blk.new rfl rfl
            have hr7 := row_word (.int .i64 (1 + n1)) (.int .i64 (1 + q1)) (.int .u8 (c.toNat : Int)) wv
            rw [hw7] at hr7
            obtain ⟨A2, c2, w8, hr8, hrow8, hO8, hA8⟩ := app_word (x := y) (hrow0.below hb7 hrow0.lt) rfl hB7 (by omega) 45
            have hO7 : Out (blkOf A) wv w8 := (Out.ofBelow _ hb7).trans hO8 fun _ _ e => e
            obtain ⟨V3, hV3, hV3b⟩ := FitV.of hrow8 (by simp)
            have hA9 : Aw2 w w8 g h m' (fr 1) V3 := H4.out.turn hO7 (fun r hr => by obtain ⟨t, cs, hp⟩ := HVf.out.mem r hr; exact ⟨t, cs, hmemV _ hp⟩) (fun p hp => ⟨(hV3b p hp).1, by
              rcases hA8 p.1 (hV3b p hp).2 with e | e
              · obtain ⟨t, cs, hq⟩ := HVf.out.mem _ e
                exact .inl ⟨t, cs, hmemV _ hq⟩
              · right; rw [e]; exact hb7.size⟩)
            have hln : (fit ++ [y]).length = fit.length + 1 := by simp
            have HN := Lib.hid (And.intro hr7 (And.intro hr8 (And.intro hV3 (And.intro hA9 (And.intro hT' (And.intro hln (And.intro hBv.range (show (Try.prog.info? 48).map (·.size) = some ([.int .i64 (1 + n1), .int .i64 (1 + q1), .int .u8 (c.toNat : Int)] : List Value).length from word_info1))))))))
            clear hr7 hr8 hrow8 hO8 hA8 hO7 hV3 hV3b hA9 hT' hln hw7 hb7 hB7 hBv hrow0 eC hE0 hmem
            generalize hwl : fit.length = wl at *
            go_wp2_with (first
              | (refine load_mid_g rfl 48 _ rfl bv 0 rfl [.int .i64 (1 + n1), .int .i64 (1 + q1), .int .u8 (c.toNat : Int)] _ HN.out.2.2.2.2.2.2.1 Try.underlying48 rfl HN.out.2.2.2.2.2.2.2 ?_; simp only [Act.put])
              | (refine row_g rfl 45 1 _ rfl (.slice (some ⟨wv.heap.size, 0, none⟩) 1 1) w7 (by simp only [List.map_toArray, List.map_cons, List.map_nil]; exact HN.out.1) ?_; simp only [Act.put])
              | (refine app_g rfl _ _ _ _ rfl _ _ _ w8 rfl rfl HN.out.2.1 ?_; simp only [Act.put]))
            go_roundw
            case rel => exact ⟨i + 1, m', fit ++ [y], A2, c2, V3, by omega, by omega, by first | rfl | (push_cast; rfl), by rw [HN.out.2.2.2.2.2.1], by rw [HN.out.2.2.2.2.2.1]; omega, HN.out.2.2.2.2.1, HN.out.2.2.1, HN.out.2.2.2.1⟩
            case measure => simp [intOf]; omega
    · have hd : ¬ ((i : Int) < (nl : Int)) ∨ ((i : Int) < (nl : Int) ∧ ¬ ((i : Int) < 60)) := by omega
      rcases hd with hd | ⟨hd, hd2⟩
      · skip
        have hwl : IntKind.i64.wrap ((fit.length : Int) - 1) = (fit.length : Int) - 1 := IntWalk.i64_in _ (by omega)
        go_wp2
        go_loopw [8] (fun v8 wx => ∃ (k : Nat) (m2 : Ms), k ≤ fit.length ∧ v8 = .int .i64 ((k : Int) - 1) ∧ OrI m2 (fit.drop k) ∧ Aw2 w wx g h m m2 V) (fun v _ => (intOf v + 1).toNat)
        case atStart => exact ⟨fit.length, fr 1, Nat.le_refl _, rfl, by rw [List.drop_length]; exact OrI.fresh, HA.out⟩
        case round =>
          rename World => wp
          obtain ⟨k, m2, hk, rfl, hT2, hA2⟩ := hrel
          have HT2 := Lib.hid hT2
          have HA2 := Lib.hid hA2
          clear hT2 hA2
          by_cases hk0 : 0 < k
          · have hge : (k : Int) - 1 ≥ 0 := by omega
            have hge2 : (0 : Int) ≤ (k : Int) - 1 := by omega
            obtain ⟨r, cur, rfl, hmem, hc0, hc1, hc2⟩ := HVf.out.cells (i := k - 1) (by omega)
            have hin : fit[k - 1] ∈ fit := List.getElem_mem _
            have hdr : fit.drop (k - 1) = fit[k - 1] :: fit.drop k := by rw [List.drop_eq_getElem_cons (by omega), show k - 1 + 1 = k by omega]
            generalize fit[k - 1] = x at *
            have hok := HT.out.ok x hin
            have hE := HT.out.again HT2.out (fun z hz => List.mem_of_mem_drop hz) hin
            obtain ⟨X, hX⟩ : ∃ X, mkC (mkW x) = X := ⟨_, rfl⟩
            obtain ⟨m3, hm3⟩ : ∃ m3, voteS m2 x.nd (mkW x) = m3 := ⟨_, rfl⟩
            have hT3 : OrI m3 (fit.drop (k - 1)) := by rw [← hm3]; exact HT2.out.vote hok hE (fun z => by rw [hdr, List.mem_cons]; exact or_comm)
            have HM : Hid (∀ W, Calls Try.prog 19 #[.int .i64 x.sq, .int .u8 (x.b.toNat : Int)] W fun e w' => e = .returned (.agg X.toArray) ∧ Below W.heap.size W w') := Lib.hid fun W => by rw [← hX]; exact mkI_any (s := x.sq) (by have := hok.2.2.1; omega) (by have := hok.2.2.2; omega) x.b W
            have HV : Hid (∀ W, Aw2 w W h g m2 m V → Calls Try.prog 12 #[.pointer (some ⟨h, 0, none⟩), .int .i64 x.nd, .agg X.toArray] W fun e w' => e = .returned (.int .i64 0) ∧ Aw2 w w' h g m3 m V) := Lib.hid fun W q => by rw [← hX, ← hm3]; exact Aw2.vote q (wf_b (by have := hok.1; omega) (by have := hok.2.1; omega)) _ hE
            have HT3 := Lib.hid hT3
            have HXw : Hid (∀ W, (Instr.indexAt 45 (.slice (some ⟨r, 0, none⟩) fit.length cap) (.int .i64 ((k : Int) - 1))).run Try.prog W = .ok (.pointer (some ⟨r, (k - 1) * 3, none⟩)) W) := Lib.hid fun W => by have := word_at W r 0 fit.length cap (k - 1) (by omega); rw [show ((k - 1 : Nat) : Int) = (k : Int) - 1 by omega, Nat.zero_add] at this; exact this
            clear hX hm3 hT3 hE hok hin hdr
            have HAd := Lib.hid (HA2.out.swap.below (Below.refl _ _).drew)
            have HCu := Lib.hid (And.intro hmem (And.intro hc0 (And.intro hc1 hc2)))
            clear hmem hc0 hc1 hc2
            go_wp2_with fail
            refine region_rule6 (P := Try.prog) 19 131 1 wqK wqD (wqR w h g r ((k - 1) * 3) fit.length cap ((k : Int) - 1) x.nd x.sq 0 x.b m2 m3 m V X cur) (fun W6 => Below (w).heap.size (w) W6 ∧ wqX w h g r ((k - 1) * 3) fit.length cap ((k : Int) - 1) x.nd x.sq 0 x.b m2 m3 m V X cur W6) _ _ (by kernel_rfl) rfl rfl (by kernel_rfl) (by decide +kernel) (by decide +kernel) ⟨HAd.out.bel, HAd.out.blk HCu.out.1⟩ (fun y h1 h2 => by
                obtain rfl : y = 19 := by omega
                exact ⟨_, rfl, HAd.out⟩) (wq_step w h g r ((k - 1) * 3) fit.length cap ((k : Int) - 1) x.nd x.sq 0 x.b m2 m3 m V X cur (by rfl) (by rfl) (by decide +kernel) rfl rfl rfl HXw.out HCu.out.1 HCu.out.2.1 HCu.out.2.2.1 HCu.out.2.2.2 rfl HM.out HV.out) ?fin12
            case fin12 =>
              intro a w6 hbase hI hall
              obtain ⟨v88, hv88, hR88⟩ := hall 17 (by decide) (by decide)
              have hR88' : VoR2 w h g m3 m V 0 v88 w6 := hR88
              obtain ⟨hv, hA3⟩ := hR88'
              subst hv
              obtain ⟨v89, hv89, hR89⟩ := hall 18 (by decide) (by decide)
              have hR89' : v89 = .bool false := hR89
              subst hR89'
              obtain ⟨gh, hghe, hgh⟩ := base_lit hbase [71, 72, 73, 74, 75, 76, 77, 78, 79, 80, 81, 82, 83, 84, 85, 86, 87, 88, 89] (by rfl)
              have q88 : gh 88 = .int .i64 0 := hghe 88 _ hv88
              have q89 : gh 89 = .bool false := hghe 89 _ hv89
              simp only [List.foldl_cons, List.foldl_nil, List.setIfInBounds_toArray, List.set_cons_zero, List.set_cons_succ, q88, q89] at hgh
              rw [hgh]
              have H4 := Lib.hid hA3.swap
              clear hv88 hR88 hv89 hR89 hghe hgh q88 q89 hA3 hI hall hbase
              have hwi : IntKind.i64.wrap ((k : Int) - 1 - 1) = (k : Int) - 1 - 1 := IntWalk.i64_in _ (by omega)
              go_wp2
              go_roundw
              case rel => exact ⟨k - 1, m3, by omega, by first | rfl | (congr 1; omega) | (simp; omega), HT3.out, H4.out⟩
              case measure => simp [intOf]; omega
          · obtain rfl : k = 0 := by omega
            have hge : ¬ ((((0 : Nat) : Int)) - 1 ≥ 0) := by omega
            have heq : m2 = m := (HT.out.eq HT2.out (fun z => by rw [List.drop_zero])).symm
            rw [heq] at HA2
            clear heq
            obtain ⟨x1, hx1⟩ : ∃ z, (greatS m (2 * m.f + 1)).getD mk0 = z := ⟨_, rfl⟩
            obtain ⟨s1, hs1⟩ : ∃ z, (greatS m (2 * m.f + 1)).isSome = z := ⟨_, rfl⟩
            obtain ⟨X1, hX1⟩ : ∃ z, mkC x1 = z := ⟨_, rfl⟩
            obtain ⟨y1, hy1⟩ : ∃ z, (greatS m (m.f + 1)).getD mk0 = z := ⟨_, rfl⟩
            obtain ⟨s2, hs2⟩ : ∃ z, (greatS m (m.f + 1)).isSome = z := ⟨_, rfl⟩
            obtain ⟨Y1, hY1⟩ : ∃ z, mkC y1 = z := ⟨_, rfl⟩
            have SA : Hid (∀ W V, Aw2 w W g h m m V → Calls Try.prog 20 #[.pointer (some ⟨g, 0, none⟩)] W fun e w' => e = .returned (.tuple #[.agg X1.toArray, .bool s1]) ∧ Below W.heap.size W w') := Lib.hid fun W V k => by have := k.left.stableB rfl; rw [hx1, hs1, hX1] at this; exact this
            have SB : Hid (∀ W V, Aw2 w W g h m m V → Calls Try.prog 20 #[.pointer (some ⟨h, 0, none⟩)] W fun e w' => e = .returned (.tuple #[.agg X1.toArray, .bool s1]) ∧ Below W.heap.size W w') := Lib.hid fun W V k => by have := k.swap.left.stableB rfl; rw [hx1, hs1, hX1] at this; exact this
            have KA : Hid (∀ W V, Aw2 w W g h m m V → Calls Try.prog 21 #[.pointer (some ⟨g, 0, none⟩)] W fun e w' => e = .returned (.tuple #[.agg Y1.toArray, .bool s2]) ∧ Below W.heap.size W w') := Lib.hid fun W V k => by have := k.left.knownB rfl; rw [hy1, hs2, hY1] at this; exact this
            have KB : Hid (∀ W V, Aw2 w W g h m m V → Calls Try.prog 21 #[.pointer (some ⟨h, 0, none⟩)] W fun e w' => e = .returned (.tuple #[.agg Y1.toArray, .bool s2]) ∧ Below W.heap.size W w') := Lib.hid fun W V k => by have := k.swap.left.knownB rfl; rw [hy1, hs2, hY1] at this; exact this
            have hqx : Hid (∀ W, (Op.equalIn 10000 28 (.agg X1.toArray) (.agg X1.toArray)).run Try.prog W = .ok true W) := Lib.hid fun W => by rw [← hX1]; have := eq_mark x1 x1 W; simpa using this
            have hqy : Hid (∀ W, (Op.equalIn 10000 28 (.agg Y1.toArray) (.agg Y1.toArray)).run Try.prog W = .ok true W) := Lib.hid fun W => by rw [← hY1]; have := eq_mark y1 y1 W; simpa using this
            have iX : Hid ((Try.prog.info? 28).map (·.size) = some X1.length) := Lib.hid (by rw [← hX1]; exact mark_infoL x1)
            have iY : Hid ((Try.prog.info? 28).map (·.size) = some Y1.length) := Lib.hid (by rw [← hY1]; exact mark_infoL y1)
            have vX := Lib.hid hX1
            have vY := Lib.hid hY1
            clear hx1 hs1 hX1 hy1 hs2 hY1 hwl
            go_wp2_with fail
            refine (SA.out _ _ HA2.out).mono ?_
            rintro e u0 ⟨rfl, hb⟩
            obtain ⟨z0, hz, hs, hA3⟩ := Aw2.var (HA2.out.below hb) x1 vX.out
            have HV0 := Lib.hid (And.intro hz hs)
            have HW0 := Lib.hid hA3
            clear hz hs hA3 hb
            go_wp2_with (refine wpList_store_mid rfl 28 _ _ rfl u0.heap.size 0 X1.toArray rfl rfl HV0.out.2.1 HV0.out.2.2.1 HV0.out.2.2.2 ?_; simp only [Act.put]; refine cast (congrArg (fun z => wpList _ _ _ _ _ z) HV0.out.1.symm) ?_)
            refine (SB.out _ _ HW0.out).mono ?_
            rintro e u1 ⟨rfl, hb⟩
            obtain ⟨z1, hz, hs, hA3⟩ := Aw2.var (HW0.out.below hb) x1 vX.out
            have HV1 := Lib.hid (And.intro hz hs)
            have HW1 := Lib.hid hA3
            clear hz hs hA3 hb
            go_wp2_with (refine wpList_store_mid rfl 28 _ _ rfl u1.heap.size 0 X1.toArray rfl rfl HV1.out.2.1 HV1.out.2.2.1 HV1.out.2.2.2 ?_; simp only [Act.put]; refine cast (congrArg (fun z => wpList _ _ _ _ _ z) HV1.out.1.symm) ?_)
            refine (KA.out _ _ HW1.out).mono ?_
            rintro e u2 ⟨rfl, hb⟩
            obtain ⟨z2, hz, hs, hA3⟩ := Aw2.var (HW1.out.below hb) y1 vY.out
            have HV2 := Lib.hid (And.intro hz hs)
            have HW2 := Lib.hid hA3
            clear hz hs hA3 hb
            go_wp2_with (refine wpList_store_mid rfl 28 _ _ rfl u2.heap.size 0 Y1.toArray rfl rfl HV2.out.2.1 HV2.out.2.2.1 HV2.out.2.2.2 ?_; simp only [Act.put]; refine cast (congrArg (fun z => wpList _ _ _ _ _ z) HV2.out.1.symm) ?_)
            refine (KB.out _ _ HW2.out).mono ?_
            rintro e u3 ⟨rfl, hb⟩
            obtain ⟨z3, hz, hs, hA3⟩ := Aw2.var (HW2.out.below hb) y1 vY.out
            have HV3 := Lib.hid (And.intro hz hs)
            have HW3 := Lib.hid hA3
            clear hz hs hA3 hb
            have r0 := Lib.hid ((HW3.out.blk (r := u0.heap.size) (t := 28) (cs := X1) (by simp)).range)
            have r1 := Lib.hid ((HW3.out.blk (r := u1.heap.size) (t := 28) (cs := X1) (by simp)).range)
            have r2 := Lib.hid ((HW3.out.blk (r := u2.heap.size) (t := 28) (cs := Y1) (by simp)).range)
            have r3 := Lib.hid ((HW3.out.blk (r := u3.heap.size) (t := 28) (cs := Y1) (by simp)).range)
            have hq1 := hqx.out
            have hq2 := hqy.out
            go_wp2_with (first | (refine wpList_store_mid rfl 28 _ _ rfl u3.heap.size 0 Y1.toArray rfl rfl HV3.out.2.1 HV3.out.2.2.1 HV3.out.2.2.2 ?_; simp only [Act.put]; refine cast (congrArg (fun z => wpList _ _ _ _ _ z) HV3.out.1.symm) ?_) | (refine load_mid_g rfl 28 _ rfl u0.heap.size 0 rfl X1 _ r0.out Try.underlying28 rfl iX.out ?_; simp only [Act.put]) | (refine load_mid_g rfl 28 _ rfl u1.heap.size 0 rfl X1 _ r1.out Try.underlying28 rfl iX.out ?_; simp only [Act.put]) | (refine load_mid_g rfl 28 _ rfl u2.heap.size 0 rfl Y1 _ r2.out Try.underlying28 rfl iY.out ?_; simp only [Act.put]) | (refine load_mid_g rfl 28 _ rfl u3.heap.size 0 rfl Y1 _ r3.out Try.underlying28 rfl iY.out ?_; simp only [Act.put]))
            clear hq1 hq2
            refine (awake_any _).mono ?_
            rintro e w11 ⟨rfl, hb11⟩
            have H11 := Lib.hid (HW3.out.bel.trans (hb11.mono HW3.out.bel.size))
            clear hb11
            go_wp2
            go_ret
            exact ⟨rfl, H11.out⟩
      · skip
        have hwl : IntKind.i64.wrap ((fit.length : Int) - 1) = (fit.length : Int) - 1 := IntWalk.i64_in _ (by omega)
        go_wp2
        go_loopw [8] (fun v8 wx => ∃ (k : Nat) (m2 : Ms), k ≤ fit.length ∧ v8 = .int .i64 ((k : Int) - 1) ∧ OrI m2 (fit.drop k) ∧ Aw2 w wx g h m m2 V) (fun v _ => (intOf v + 1).toNat)
        case atStart => exact ⟨fit.length, fr 1, Nat.le_refl _, rfl, by rw [List.drop_length]; exact OrI.fresh, HA.out⟩
        case round =>
          rename World => wp
          obtain ⟨k, m2, hk, rfl, hT2, hA2⟩ := hrel
          have HT2 := Lib.hid hT2
          have HA2 := Lib.hid hA2
          clear hT2 hA2
          by_cases hk0 : 0 < k
          · have hge : (k : Int) - 1 ≥ 0 := by omega
            have hge2 : (0 : Int) ≤ (k : Int) - 1 := by omega
            obtain ⟨r, cur, rfl, hmem, hc0, hc1, hc2⟩ := HVf.out.cells (i := k - 1) (by omega)
            have hin : fit[k - 1] ∈ fit := List.getElem_mem _
            have hdr : fit.drop (k - 1) = fit[k - 1] :: fit.drop k := by rw [List.drop_eq_getElem_cons (by omega), show k - 1 + 1 = k by omega]
            generalize fit[k - 1] = x at *
            have hok := HT.out.ok x hin
            have hE := HT.out.again HT2.out (fun z hz => List.mem_of_mem_drop hz) hin
            obtain ⟨X, hX⟩ : ∃ X, mkC (mkW x) = X := ⟨_, rfl⟩
            obtain ⟨m3, hm3⟩ : ∃ m3, voteS m2 x.nd (mkW x) = m3 := ⟨_, rfl⟩
            have hT3 : OrI m3 (fit.drop (k - 1)) := by rw [← hm3]; exact HT2.out.vote hok hE (fun z => by rw [hdr, List.mem_cons]; exact or_comm)
            have HM : Hid (∀ W, Calls Try.prog 19 #[.int .i64 x.sq, .int .u8 (x.b.toNat : Int)] W fun e w' => e = .returned (.agg X.toArray) ∧ Below W.heap.size W w') := Lib.hid fun W => by rw [← hX]; exact mkI_any (s := x.sq) (by have := hok.2.2.1; omega) (by have := hok.2.2.2; omega) x.b W
            have HV : Hid (∀ W, Aw2 w W h g m2 m V → Calls Try.prog 12 #[.pointer (some ⟨h, 0, none⟩), .int .i64 x.nd, .agg X.toArray] W fun e w' => e = .returned (.int .i64 0) ∧ Aw2 w w' h g m3 m V) := Lib.hid fun W q => by rw [← hX, ← hm3]; exact Aw2.vote q (wf_b (by have := hok.1; omega) (by have := hok.2.1; omega)) _ hE
            have HT3 := Lib.hid hT3
            have HXw : Hid (∀ W, (Instr.indexAt 45 (.slice (some ⟨r, 0, none⟩) fit.length cap) (.int .i64 ((k : Int) - 1))).run Try.prog W = .ok (.pointer (some ⟨r, (k - 1) * 3, none⟩)) W) := Lib.hid fun W => by have := word_at W r 0 fit.length cap (k - 1) (by omega); rw [show ((k - 1 : Nat) : Int) = (k : Int) - 1 by omega, Nat.zero_add] at this; exact this
            clear hX hm3 hT3 hE hok hin hdr
            have HAd := Lib.hid (HA2.out.swap.below (Below.refl _ _).drew)
            have HCu := Lib.hid (And.intro hmem (And.intro hc0 (And.intro hc1 hc2)))
            clear hmem hc0 hc1 hc2
            go_wp2_with fail
            refine region_rule6 (P := Try.prog) 19 131 1 wqK wqD (wqR w h g r ((k - 1) * 3) fit.length cap ((k : Int) - 1) x.nd x.sq 0 x.b m2 m3 m V X cur) (fun W6 => Below (w).heap.size (w) W6 ∧ wqX w h g r ((k - 1) * 3) fit.length cap ((k : Int) - 1) x.nd x.sq 0 x.b m2 m3 m V X cur W6) _ _ (by kernel_rfl) rfl rfl (by kernel_rfl) (by decide +kernel) (by decide +kernel) ⟨HAd.out.bel, HAd.out.blk HCu.out.1⟩ (fun y h1 h2 => by
                obtain rfl : y = 19 := by omega
                exact ⟨_, rfl, HAd.out⟩) (wq_step w h g r ((k - 1) * 3) fit.length cap ((k : Int) - 1) x.nd x.sq 0 x.b m2 m3 m V X cur (by rfl) (by rfl) (by decide +kernel) rfl rfl rfl HXw.out HCu.out.1 HCu.out.2.1 HCu.out.2.2.1 HCu.out.2.2.2 rfl HM.out HV.out) ?fin12
            case fin12 =>
              intro a w6 hbase hI hall
              obtain ⟨v88, hv88, hR88⟩ := hall 17 (by decide) (by decide)
              have hR88' : VoR2 w h g m3 m V 0 v88 w6 := hR88
              obtain ⟨hv, hA3⟩ := hR88'
              subst hv
              obtain ⟨v89, hv89, hR89⟩ := hall 18 (by decide) (by decide)
              have hR89' : v89 = .bool false := hR89
              subst hR89'
              obtain ⟨gh, hghe, hgh⟩ := base_lit hbase [71, 72, 73, 74, 75, 76, 77, 78, 79, 80, 81, 82, 83, 84, 85, 86, 87, 88, 89] (by rfl)
              have q88 : gh 88 = .int .i64 0 := hghe 88 _ hv88
              have q89 : gh 89 = .bool false := hghe 89 _ hv89
              simp only [List.foldl_cons, List.foldl_nil, List.setIfInBounds_toArray, List.set_cons_zero, List.set_cons_succ, q88, q89] at hgh
              rw [hgh]
              have H4 := Lib.hid hA3.swap
              clear hv88 hR88 hv89 hR89 hghe hgh q88 q89 hA3 hI hall hbase
              have hwi : IntKind.i64.wrap ((k : Int) - 1 - 1) = (k : Int) - 1 - 1 := IntWalk.i64_in _ (by omega)
              go_wp2
              go_roundw
              case rel => exact ⟨k - 1, m3, by omega, by first | rfl | (congr 1; omega) | (simp; omega), HT3.out, H4.out⟩
              case measure => simp [intOf]; omega
          · obtain rfl : k = 0 := by omega
            have hge : ¬ ((((0 : Nat) : Int)) - 1 ≥ 0) := by omega
            have heq : m2 = m := (HT.out.eq HT2.out (fun z => by rw [List.drop_zero])).symm
            rw [heq] at HA2
            clear heq
            obtain ⟨x1, hx1⟩ : ∃ z, (greatS m (2 * m.f + 1)).getD mk0 = z := ⟨_, rfl⟩
            obtain ⟨s1, hs1⟩ : ∃ z, (greatS m (2 * m.f + 1)).isSome = z := ⟨_, rfl⟩
            obtain ⟨X1, hX1⟩ : ∃ z, mkC x1 = z := ⟨_, rfl⟩
            obtain ⟨y1, hy1⟩ : ∃ z, (greatS m (m.f + 1)).getD mk0 = z := ⟨_, rfl⟩
            obtain ⟨s2, hs2⟩ : ∃ z, (greatS m (m.f + 1)).isSome = z := ⟨_, rfl⟩
            obtain ⟨Y1, hY1⟩ : ∃ z, mkC y1 = z := ⟨_, rfl⟩
            have SA : Hid (∀ W V, Aw2 w W g h m m V → Calls Try.prog 20 #[.pointer (some ⟨g, 0, none⟩)] W fun e w' => e = .returned (.tuple #[.agg X1.toArray, .bool s1]) ∧ Below W.heap.size W w') := Lib.hid fun W V k => by have := k.left.stableB rfl; rw [hx1, hs1, hX1] at this; exact this
            have SB : Hid (∀ W V, Aw2 w W g h m m V → Calls Try.prog 20 #[.pointer (some ⟨h, 0, none⟩)] W fun e w' => e = .returned (.tuple #[.agg X1.toArray, .bool s1]) ∧ Below W.heap.size W w') := Lib.hid fun W V k => by have := k.swap.left.stableB rfl; rw [hx1, hs1, hX1] at this; exact this
            have KA : Hid (∀ W V, Aw2 w W g h m m V → Calls Try.prog 21 #[.pointer (some ⟨g, 0, none⟩)] W fun e w' => e = .returned (.tuple #[.agg Y1.toArray, .bool s2]) ∧ Below W.heap.size W w') := Lib.hid fun W V k => by have := k.left.knownB rfl; rw [hy1, hs2, hY1] at this; exact this
            have KB : Hid (∀ W V, Aw2 w W g h m m V → Calls Try.prog 21 #[.pointer (some ⟨h, 0, none⟩)] W fun e w' => e = .returned (.tuple #[.agg Y1.toArray, .bool s2]) ∧ Below W.heap.size W w') := Lib.hid fun W V k => by have := k.swap.left.knownB rfl; rw [hy1, hs2, hY1] at this; exact this
            have hqx : Hid (∀ W, (Op.equalIn 10000 28 (.agg X1.toArray) (.agg X1.toArray)).run Try.prog W = .ok true W) := Lib.hid fun W => by rw [← hX1]; have := eq_mark x1 x1 W; simpa using this
            have hqy : Hid (∀ W, (Op.equalIn 10000 28 (.agg Y1.toArray) (.agg Y1.toArray)).run Try.prog W = .ok true W) := Lib.hid fun W => by rw [← hY1]; have := eq_mark y1 y1 W; simpa using this
            have iX : Hid ((Try.prog.info? 28).map (·.size) = some X1.length) := Lib.hid (by rw [← hX1]; exact mark_infoL x1)
            have iY : Hid ((Try.prog.info? 28).map (·.size) = some Y1.length) := Lib.hid (by rw [← hY1]; exact mark_infoL y1)
            have vX := Lib.hid hX1
            have vY := Lib.hid hY1
            clear hx1 hs1 hX1 hy1 hs2 hY1 hwl
            go_wp2_with fail
            refine (SA.out _ _ HA2.out).mono ?_
            rintro e u0 ⟨rfl, hb⟩
            obtain ⟨z0, hz, hs, hA3⟩ := Aw2.var (HA2.out.below hb) x1 vX.out
            have HV0 := Lib.hid (And.intro hz hs)
            have HW0 := Lib.hid hA3
            clear hz hs hA3 hb
            go_wp2_with (refine wpList_store_mid rfl 28 _ _ rfl u0.heap.size 0 X1.toArray rfl rfl HV0.out.2.1 HV0.out.2.2.1 HV0.out.2.2.2 ?_; simp only [Act.put]; refine cast (congrArg (fun z => wpList _ _ _ _ _ z) HV0.out.1.symm) ?_)
            refine (SB.out _ _ HW0.out).mono ?_
            rintro e u1 ⟨rfl, hb⟩
            obtain ⟨z1, hz, hs, hA3⟩ := Aw2.var (HW0.out.below hb) x1 vX.out
            have HV1 := Lib.hid (And.intro hz hs)
            have HW1 := Lib.hid hA3
            clear hz hs hA3 hb
            go_wp2_with (refine wpList_store_mid rfl 28 _ _ rfl u1.heap.size 0 X1.toArray rfl rfl HV1.out.2.1 HV1.out.2.2.1 HV1.out.2.2.2 ?_; simp only [Act.put]; refine cast (congrArg (fun z => wpList _ _ _ _ _ z) HV1.out.1.symm) ?_)
            refine (KA.out _ _ HW1.out).mono ?_
            rintro e u2 ⟨rfl, hb⟩
            obtain ⟨z2, hz, hs, hA3⟩ := Aw2.var (HW1.out.below hb) y1 vY.out
            have HV2 := Lib.hid (And.intro hz hs)
            have HW2 := Lib.hid hA3
            clear hz hs hA3 hb
            go_wp2_with (refine wpList_store_mid rfl 28 _ _ rfl u2.heap.size 0 Y1.toArray rfl rfl HV2.out.2.1 HV2.out.2.2.1 HV2.out.2.2.2 ?_; simp only [Act.put]; refine cast (congrArg (fun z => wpList _ _ _ _ _ z) HV2.out.1.symm) ?_)
            refine (KB.out _ _ HW2.out).mono ?_
            rintro e u3 ⟨rfl, hb⟩
            obtain ⟨z3, hz, hs, hA3⟩ := Aw2.var (HW2.out.below hb) y1 vY.out
            have HV3 := Lib.hid (And.intro hz hs)
            have HW3 := Lib.hid hA3
            clear hz hs hA3 hb
            have r0 := Lib.hid ((HW3.out.blk (r := u0.heap.size) (t := 28) (cs := X1) (by simp)).range)
            have r1 := Lib.hid ((HW3.out.blk (r := u1.heap.size) (t := 28) (cs := X1) (by simp)).range)
            have r2 := Lib.hid ((HW3.out.blk (r := u2.heap.size) (t := 28) (cs := Y1) (by simp)).range)
            have r3 := Lib.hid ((HW3.out.blk (r := u3.heap.size) (t := 28) (cs := Y1) (by simp)).range)
            have hq1 := hqx.out
            have hq2 := hqy.out
            go_wp2_with (first | (refine wpList_store_mid rfl 28 _ _ rfl u3.heap.size 0 Y1.toArray rfl rfl HV3.out.2.1 HV3.out.2.2.1 HV3.out.2.2.2 ?_; simp only [Act.put]; refine cast (congrArg (fun z => wpList _ _ _ _ _ z) HV3.out.1.symm) ?_) | (refine load_mid_g rfl 28 _ rfl u0.heap.size 0 rfl X1 _ r0.out Try.underlying28 rfl iX.out ?_; simp only [Act.put]) | (refine load_mid_g rfl 28 _ rfl u1.heap.size 0 rfl X1 _ r1.out Try.underlying28 rfl iX.out ?_; simp only [Act.put]) | (refine load_mid_g rfl 28 _ rfl u2.heap.size 0 rfl Y1 _ r2.out Try.underlying28 rfl iY.out ?_; simp only [Act.put]) | (refine load_mid_g rfl 28 _ rfl u3.heap.size 0 rfl Y1 _ r3.out Try.underlying28 rfl iY.out ?_; simp only [Act.put]))
            clear hq1 hq2
            refine (awake_any _).mono ?_
            rintro e w11 ⟨rfl, hb11⟩
            have H11 := Lib.hid (HW3.out.bel.trans (hb11.mono HW3.out.bel.size))
            clear hb11
            go_wp2
            go_ret
            exact ⟨rfl, H11.out⟩

end Go.Proofs.Ytenccpccpjjkmaa.marksOrder
