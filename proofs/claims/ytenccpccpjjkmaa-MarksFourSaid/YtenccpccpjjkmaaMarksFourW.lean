/-
  For all numbers many: a node that tells ever greater marks, 40 at most, has the last four; what the others tell stays; MarksFour returns true; no condition.
-/
import Derived.Test.YtenccpccpjjkmaaZ01
import Derived.Test.YtenccpccpjjkmaaZ12
namespace Go.Proofs.Ytenccpccpjjkmaa.marksFour
open Go.ChangeShapes Go.WideShapes Go.ChangeAt Go.RowKit Go.Maps Go.Shelf Go.Sort CrewP
set_option linter.unusedVariables false

set_option linter.unusedSimpArgs false
def faR (bs b8 o8 : Nat) (n : Int) (k cO : Nat) (A8 : Option Addr) (C D : List Value) : Nat → Value → World → Prop
  | 0 => fun v w => v = .agg C.toArray
  | 1 => fun v w => v = .bool true
  | 2 => fun v w => v = .agg C.toArray
  | 3 => fun v w => v = .bool true
  | 4 => fun v w => v = .bool true
  | 5 => fun v w => v = .slice A8 k cO
  | 6 => fun v w => v = .int .i64 k
  | 7 => fun v w => v = .int .i64 n
  | 8 => fun v w => v = .int .i64 (k : Int)
  | 9 => fun v w => v = .bool true
  | 10 => fun v w => v = .bool true
  | 11 => fun v w => v = .bool true
  | 12 => fun v w => v = .int .i64 n
  | 13 => fun v w => v = .bool true
  | 14 => fun v w => v = .bool true
  | 15 => fun v w => v = undef
  | 16 => fun v w => v = undef
  | 17 => fun v w => v = undef
  | 18 => fun v w => v = undef
  | 19 => fun v w => v = undef
  | 20 => fun v w => v = undef
  | 21 => fun v w => v = undef
  | 22 => fun v w => v = undef
  | 23 => fun v w => v = undef
  | 24 => fun v w => v = .bool true
  | 25 => fun v w => v = .bool true
  | 26 => fun v w => v = .bool true
  | 27 => fun v w => v = .bool true
  | 28 => fun v w => v = .bool true
  | 29 => fun v w => v = .bool true
  | _ => fun _ _ => True
def faD (i : Nat) : Nat := ([44, 45, 46, 47, 48, 49, 50, 51, 52, 53, 54, 55, 56, 57, 58, 59, 60, 61, 62, 63, 64, 65, 66, 67, 68, 69, 70, 71, 72, 2] : List Nat).getD i 0
def faG : Nat → Option Bool
  | 4 => some true
  | 11 => some true
  | 14 => some true
  | 26 => some true
  | _ => none
def faS (i : Nat) : Bool := ([15, 16, 17, 18, 19, 20, 21, 22, 23] : List Nat).contains i
theorem fa_gb (bs b8 o8 : Nat) (n : Int) (k cO : Nat) (A8 : Option Addr) (C D : List Value) : ∀ i b v w, faG i = some b → faR bs b8 o8 n k cO A8 C D i v w → v = .bool b := by
  intro i b v w h hR
  unfold faG at h
  split at h
  all_goals first | (injection h with h; subst h; exact hR) | cases h
theorem fa_sk (bs b8 o8 : Nat) (n : Int) (k cO : Nat) (A8 : Option Addr) (C D : List Value) : ∀ i w, faS i = true → faR bs b8 o8 n k cO A8 C D i undef w := by
  intro i w h
  have hm : i ∈ ([15, 16, 17, 18, 19, 20, 21, 22, 23] : List Nat) := by simpa [faS] using h
  simp only [List.mem_cons, List.not_mem_nil, or_false] at hm
  rcases hm with rfl | rfl | rfl | rfl | rfl | rfl | rfl | rfl | rfl
  all_goals rfl
theorem fa_on (bs b8 o8 : Nat) (n : Int) (k cO : Nat) (A8 : Option Addr) (C D : List Value) : ∀ i v w w', faR bs b8 o8 n k cO A8 C D i v w → Below w.heap.size w w' → faR bs b8 o8 n k cO A8 C D i v w'
  | 0, v, w, w', h, _ => h
  | 1, v, w, w', h, _ => h
  | 2, v, w, w', h, _ => h
  | 3, v, w, w', h, _ => h
  | 4, v, w, w', h, _ => h
  | 5, v, w, w', h, _ => h
  | 6, v, w, w', h, _ => h
  | 7, v, w, w', h, _ => h
  | 8, v, w, w', h, _ => h
  | 9, v, w, w', h, _ => h
  | 10, v, w, w', h, _ => h
  | 11, v, w, w', h, _ => h
  | 12, v, w, w', h, _ => h
  | 13, v, w, w', h, _ => h
  | 14, v, w, w', h, _ => h
  | 15, v, w, w', h, _ => h
  | 16, v, w, w', h, _ => h
  | 17, v, w, w', h, _ => h
  | 18, v, w, w', h, _ => h
  | 19, v, w, w', h, _ => h
  | 20, v, w, w', h, _ => h
  | 21, v, w, w', h, _ => h
  | 22, v, w, w', h, _ => h
  | 23, v, w, w', h, _ => h
  | 24, v, w, w', h, _ => h
  | 25, v, w, w', h, _ => h
  | 26, v, w, w', h, _ => h
  | 27, v, w, w', h, _ => h
  | 28, v, w, w', h, _ => h
  | 29, v, w, w', h, _ => h
  | i + 30, v, w, w', h, hb => trivial
def faOps : List Op := [.load 28 (.tmp 6),
  .move (.tmp 7),
  .call { callee := .value (.func 19), args := #[.const (.int .i64 1), .const (.int .u8 0)], argTypes := #[3, 5] },
  .call { callee := .value (.func 25), args := #[.tmp 44, .tmp 45, .tmp 46], argTypes := #[28, 4, 28] },
  .move (.tmp 47),
  .move (.tmp 8),
  .call { callee := .builtin .len, args := #[.tmp 49], argTypes := #[54] },
  .move (.tmp 4),
  .call { callee := .builtin .min, args := #[.tmp 51, .const (.int .i64 4)], argTypes := #[3, 3] },
  .binOp .eql 3 (.tmp 50) (.tmp 52) 3,
  .pick (.tmp 48) (.tmp 53) (.const (.bool false)),
  .move (.tmp 54),
  .move (.tmp 4),
  .binOp .eql 3 (.tmp 56) (.const (.int .i64 0)) 3,
  .move (.tmp 57),
  .move (.tmp 8),
  .move (.tmp 8),
  .call { callee := .builtin .len, args := #[.tmp 60], argTypes := #[54] },
  .binOp .sub 3 (.tmp 61) (.const (.int .i64 1)) 3,
  .indexAddr 54 (.tmp 59) (.tmp 62),
  .load 28 (.tmp 63),
  .move (.tmp 4),
  .call { callee := .value (.func 19), args := #[.tmp 65, .const (.int .u8 0)], argTypes := #[3, 5] },
  .binOp .eql 28 (.tmp 64) (.tmp 66) 28,
  .pick (.tmp 58) (.const (.bool true)) (.tmp 67),
  .pick (.tmp 55) (.tmp 68) (.const (.bool false)),
  .move (.tmp 69),
  .call { callee := .value (.func 17), args := #[], argTypes := #[] },
  .pick (.tmp 70) (.tmp 71) (.const (.bool false)),
  .assign (.tmp 72)]
def faNeeds : Nat → List Nat
  | 0 => []
  | 1 => []
  | 2 => []
  | 3 => [0, 1, 2]
  | 4 => [3]
  | 5 => []
  | 6 => [5]
  | 7 => []
  | 8 => [7]
  | 9 => [6, 8]
  | 10 => [4, 9]
  | 11 => [10]
  | 12 => []
  | 13 => [12]
  | 14 => [13]
  | 15 => []
  | 16 => []
  | 17 => []
  | 18 => []
  | 19 => []
  | 20 => []
  | 21 => []
  | 22 => []
  | 23 => []
  | 24 => [14, 23]
  | 25 => [11, 24]
  | 26 => [25]
  | 27 => []
  | 28 => [26, 27]
  | 29 => [28]
  | _ => []
set_option maxRecDepth 100000 in
set_option maxHeartbeats 3200000 in
theorem fa_step {ops : Array Oper} {Q : Exit → Act → World → Prop} {a0 : Act} {w0 : World} (bs b8 o8 : Nat) (n : Int) (k cO : Nat) (A8 : Option Addr) (C D : List Value) (hops : ((List.range 30).map fun i => (ops[i]?).map Oper.op) = faOps.map some)
    (hnd : ((List.range 30).all fun i => (faNeeds i).all fun j => ((ops[i]?).map fun o => o.after.any fun e => Region.binds .any e && (e.on == j)).getD false) = true)
    (x4 : a0.tmps[4]? = some (.int .i64 n)) (x6 : a0.tmps[6]? = some (.pointer (some ⟨bs, 0, none⟩))) (x7 : a0.tmps[7]? = some (.bool true)) (x8 : a0.tmps[8]? = some (.slice A8 k cO))
    (lx : ∀ w, Below w0.heap.size w0 w → w.rangeAt bs 0 C) (iC : (Try.prog.info? 28).map (·.size) = some C.length) (hmn : (if (4 : Int) < n then 4 else n) = (k : Int))
    (hM1 : ∀ w, Calls Try.prog 19 #[.int .i64 1, .int .u8 0] w fun e w' => e = .returned (.agg C.toArray) ∧ Below w.heap.size w w')
    (hIs : ∀ w, Calls Try.prog 25 #[.agg C.toArray, .bool true, .agg C.toArray] w fun e w' => e = .returned (.bool true) ∧ Below w.heap.size w w')
    (hAw : ∀ w, Calls Try.prog 17 #[] w fun e w' => e = .returned (.bool true) ∧ Below w.heap.size w w')
    (hz : n = 0) :
    ∀ i o, i < 30 → faS i = false → ops[i]? = some o → o.dst = some (faD i) → ∀ a w, Base faD 30 a0 a → Below w0.heap.size w0 w → Region.wanted o (yielded ops a.tmps) = true →
      (∀ j, (o.after.any fun e => Region.binds .any e && (e.on == j)) = true → Has faD (faR bs b8 o8 n k cO A8 C D) j a w) →
      ∀ K : Act → World → Prop, (∀ v w', faR bs b8 o8 n k cO A8 C D i v w' → Below w.heap.size w w' → K (a.put o.dst v) w') → wpOp Try.prog ops Q i K a w := by
  intro i o hi hs ho hds a w hbase hbl hwt hdep0 K hK
  have hop : some o.op = faOps[i]? := by
    have h1 : ((List.range 30).map fun i => (ops[i]?).map Oper.op)[i]? = some (some o.op) := by
      rw [List.getElem?_map, List.getElem?_range hi]; simp only [Option.map_some, ho]
    rw [hops, List.getElem?_map] at h1
    cases h2 : faOps[i]? with
    | none => rw [h2] at h1; cases h1
    | some y => rw [h2] at h1; simp only [Option.map_some, Option.some.injEq] at h1; rw [h1]
  have hdep : ∀ j, j ∈ faNeeds i → Has faD (faR bs b8 o8 n k cO A8 C D) j a w := fun j hj => by
    have h1 := List.all_eq_true.1 (List.all_eq_true.1 hnd i (List.mem_range.2 hi)) j hj
    rw [ho] at h1
    exact hdep0 j h1
  clear hdep0 hops hnd
  match i, hi, hs, ho, hop, hds, hdep, hK with
  | 0, _, hs, ho, hop, hds, hdep, hK =>
    have hop : o.op = .load 28 (.tmp 6) := Option.some.inj hop
    have hu6 : a.tmps[6]? = some (.pointer (some ⟨bs, 0, none⟩)) := (hbase.2.2 6 (by decide)).trans x6
    have e6 : a.eval (.tmp 6) = _ := ev_tmp hu6
    refine st3 ho hwt (v := .agg C.toArray) (w' := w) ?_ (hK _ w rfl (Below.refl _ _))
    unfold execOp
    simp only [hop, e6, Instr.loadAt, Instr.sureAddr, Sem.run_bind, Sem.run_pure, Result.andThen_ok, run_loadVar_mid w bs 0 28 C _ (lx w hbl) Try.underlying28 rfl iC]
  | 1, _, hs, ho, hop, hds, hdep, hK =>
    have hop : o.op = .move (.tmp 7) := Option.some.inj hop
    have hu7 : a.tmps[7]? = some (.bool true) := (hbase.2.2 7 (by decide)).trans x7
    have e7 : a.eval (.tmp 7) = _ := ev_tmp hu7
    refine st3 ho hwt (v := _) (w' := w) ?_ (hK _ w rfl (Below.refl _ _))
    unfold execOp
    rw [hop, ← e7]
    rfl
  | 2, _, hs, ho, hop, hds, hdep, hK =>
    have hop : o.op = .call { callee := .value (.func 19), args := #[.const (.int .i64 1), .const (.int .u8 0)], argTypes := #[3, 5] } := Option.some.inj hop
    refine st3_call ho hwt (f := 19) (vals := #[.int .i64 1, .int .u8 0]) (Z := fun v w' => v = .agg C.toArray ∧ Below w.heap.size w w') ?_ ?_ ?_
    · unfold execOp
      simp only [hop, resolve, invoke, Sem.run_bind, Sem.run_pure, Result.andThen_ok, List.map_toArray, List.map_cons, List.map_nil]
      first | rfl | exact enters_of Try.func19 (by kernel_rfl) rfl _ _
    · exact (hM1 w).mono fun e w' ⟨he, h2⟩ => ⟨_, he, rfl, h2⟩
    · rintro v w' ⟨h1, h2⟩
      exact hK v w' h1 h2
  | 3, _, hs, ho, hop, hds, hdep, hK =>
    have hop : o.op = .call { callee := .value (.func 25), args := #[.tmp 44, .tmp 45, .tmp 46], argTypes := #[28, 4, 28] } := Option.some.inj hop
    obtain ⟨u44, hu44, hv44⟩ := hdep 0 (by decide)
    have hv44' : u44 = .agg C.toArray := hv44
    subst hv44'
    have e44 : a.eval (.tmp 44) = _ := ev_tmp hu44
    obtain ⟨u45, hu45, hv45⟩ := hdep 1 (by decide)
    have hv45' : u45 = .bool true := hv45
    subst hv45'
    have e45 : a.eval (.tmp 45) = _ := ev_tmp hu45
    obtain ⟨u46, hu46, hv46⟩ := hdep 2 (by decide)
    have hv46' : u46 = .agg C.toArray := hv46
    subst hv46'
    have e46 : a.eval (.tmp 46) = _ := ev_tmp hu46
    refine st3_call ho hwt (f := 25) (vals := #[.agg C.toArray, .bool true, .agg C.toArray]) (Z := fun v w' => v = .bool true ∧ Below w.heap.size w w') ?_ ?_ ?_
    · unfold execOp
      simp only [hop, e44, e45, e46, resolve, invoke, Sem.run_bind, Sem.run_pure, Result.andThen_ok, List.map_toArray, List.map_cons, List.map_nil]
      first | rfl | exact enters_of Try.func25 (by kernel_rfl) rfl _ _
    · exact (hIs w).mono fun e w' ⟨he, h2⟩ => ⟨_, he, rfl, h2⟩
    · rintro v w' ⟨h1, h2⟩
      exact hK v w' h1 h2
  | 4, _, hs, ho, hop, hds, hdep, hK =>
    have hop : o.op = .move (.tmp 47) := Option.some.inj hop
    obtain ⟨u47, hu47, hv47⟩ := hdep 3 (by decide)
    have hv47' : u47 = .bool true := hv47
    subst hv47'
    have e47 : a.eval (.tmp 47) = _ := ev_tmp hu47
    refine st3 ho hwt (v := _) (w' := w) ?_ (hK _ w rfl (Below.refl _ _))
    unfold execOp
    rw [hop, ← e47]
    rfl
  | 5, _, hs, ho, hop, hds, hdep, hK =>
    have hop : o.op = .move (.tmp 8) := Option.some.inj hop
    have hu8 : a.tmps[8]? = some (.slice A8 k cO) := (hbase.2.2 8 (by decide)).trans x8
    have e8 : a.eval (.tmp 8) = _ := ev_tmp hu8
    refine st3 ho hwt (v := _) (w' := w) ?_ (hK _ w rfl (Below.refl _ _))
    unfold execOp
    rw [hop, ← e8]
    rfl
  | 6, _, hs, ho, hop, hds, hdep, hK =>
    have hop : o.op = .call { callee := .builtin .len, args := #[.tmp 49], argTypes := #[54] } := Option.some.inj hop
    obtain ⟨u49, hu49, hv49⟩ := hdep 5 (by decide)
    have hv49' : u49 = .slice A8 k cO := hv49
    subst hv49'
    have e49 : a.eval (.tmp 49) = _ := ev_tmp hu49
    refine st3 ho hwt (v := .int .i64 k) (w' := w) ?_ (hK _ w rfl (Below.refl _ _))
    unfold execOp
    simp only [hop, resolve, invoke, builtin, Sem.run_bind, Sem.run_pure, Result.andThen_ok, List.map_toArray, List.map_cons, List.map_nil, e49]
    first | rfl | (go_simp; done) | (go_simp; simp; done) | (go_simp; intro h; omega)
  | 7, _, hs, ho, hop, hds, hdep, hK =>
    have hop : o.op = .move (.tmp 4) := Option.some.inj hop
    have hu4 : a.tmps[4]? = some (.int .i64 n) := (hbase.2.2 4 (by decide)).trans x4
    have e4 : a.eval (.tmp 4) = _ := ev_tmp hu4
    refine st3 ho hwt (v := _) (w' := w) ?_ (hK _ w rfl (Below.refl _ _))
    unfold execOp
    rw [hop, ← e4]
    rfl
  | 8, _, hs, ho, hop, hds, hdep, hK =>
    have hop : o.op = .call { callee := .builtin .min, args := #[.tmp 51, .const (.int .i64 4)], argTypes := #[3, 3] } := Option.some.inj hop
    obtain ⟨u51, hu51, hv51⟩ := hdep 7 (by decide)
    have hv51' : u51 = .int .i64 n := hv51
    subst hv51'
    have e51 : a.eval (.tmp 51) = _ := ev_tmp hu51
    refine st3 ho hwt (v := .int .i64 (k : Int)) (w' := w) ?_ (hK _ w rfl (Below.refl _ _))
    have ec : a.eval (.const (.int .i64 4)) = .int .i64 4 := rfl
    unfold execOp
    simp only [hop, resolve, invoke, builtin, Sem.run_bind, Sem.run_pure, Result.andThen_ok, List.map_toArray, List.map_cons, List.map_nil, e51, ec, run_min_int2, hmn]
  | 9, _, hs, ho, hop, hds, hdep, hK =>
    have hop : o.op = .binOp .eql 3 (.tmp 50) (.tmp 52) 3 := Option.some.inj hop
    obtain ⟨u50, hu50, hv50⟩ := hdep 6 (by decide)
    have hv50' : u50 = .int .i64 k := hv50
    subst hv50'
    have e50 : a.eval (.tmp 50) = _ := ev_tmp hu50
    obtain ⟨u52, hu52, hv52⟩ := hdep 8 (by decide)
    have hv52' : u52 = .int .i64 (k : Int) := hv52
    subst hv52'
    have e52 : a.eval (.tmp 52) = _ := ev_tmp hu52
    refine st3 ho hwt (v := .bool true) (w' := w) ?_ (hK _ w rfl (Below.refl _ _))
    unfold execOp
    simp only [hop, Option.map_some, Option.map_none, e50, e52]
    first | rfl | (go_simp; done) | (go_simp; simp; done) | (go_simp; intro h; omega)
  | 10, _, hs, ho, hop, hds, hdep, hK =>
    have hop : o.op = .pick (.tmp 48) (.tmp 53) (.const (.bool false)) := Option.some.inj hop
    obtain ⟨u48, hu48, hv48⟩ := hdep 4 (by decide)
    have hv48' : u48 = .bool true := hv48
    subst hv48'
    have e48 : a.eval (.tmp 48) = _ := ev_tmp hu48
    obtain ⟨u53, hu53, hv53⟩ := hdep 9 (by decide)
    have hv53' : u53 = .bool true := hv53
    subst hv53'
    have e53 : a.eval (.tmp 53) = _ := ev_tmp hu53
    refine st3 ho hwt (v := .bool true) (w' := w) ?_ (hK _ w rfl (Below.refl _ _))
    unfold execOp
    simp only [hop, e48, e53]
    first | rfl | (go_simp; done) | (go_simp; simp; done) | (go_simp; intro h; omega)
  | 11, _, hs, ho, hop, hds, hdep, hK =>
    have hop : o.op = .move (.tmp 54) := Option.some.inj hop
    obtain ⟨u54, hu54, hv54⟩ := hdep 10 (by decide)
    have hv54' : u54 = .bool true := hv54
    subst hv54'
    have e54 : a.eval (.tmp 54) = _ := ev_tmp hu54
    refine st3 ho hwt (v := _) (w' := w) ?_ (hK _ w rfl (Below.refl _ _))
    unfold execOp
    rw [hop, ← e54]
    rfl
  | 12, _, hs, ho, hop, hds, hdep, hK =>
    have hop : o.op = .move (.tmp 4) := Option.some.inj hop
    have hu4 : a.tmps[4]? = some (.int .i64 n) := (hbase.2.2 4 (by decide)).trans x4
    have e4 : a.eval (.tmp 4) = _ := ev_tmp hu4
    refine st3 ho hwt (v := _) (w' := w) ?_ (hK _ w rfl (Below.refl _ _))
    unfold execOp
    rw [hop, ← e4]
    rfl
  | 13, _, hs, ho, hop, hds, hdep, hK =>
    have hop : o.op = .binOp .eql 3 (.tmp 56) (.const (.int .i64 0)) 3 := Option.some.inj hop
    obtain ⟨u56, hu56, hv56⟩ := hdep 12 (by decide)
    have hv56' : u56 = .int .i64 n := hv56
    subst hv56'
    have e56 : a.eval (.tmp 56) = _ := ev_tmp hu56
    refine st3 ho hwt (v := .bool true) (w' := w) ?_ (hK _ w rfl (Below.refl _ _))
    have hq := hz
    unfold execOp
    simp only [hop, Option.map_some, Option.map_none, e56]
    first | rfl | (go_simp; done) | (go_simp; simp; done) | (go_simp; intro h; omega)
  | 14, _, hs, ho, hop, hds, hdep, hK =>
    have hop : o.op = .move (.tmp 57) := Option.some.inj hop
    obtain ⟨u57, hu57, hv57⟩ := hdep 13 (by decide)
    have hv57' : u57 = .bool true := hv57
    subst hv57'
    have e57 : a.eval (.tmp 57) = _ := ev_tmp hu57
    refine st3 ho hwt (v := _) (w' := w) ?_ (hK _ w rfl (Below.refl _ _))
    unfold execOp
    rw [hop, ← e57]
    rfl
  | 15, _, hs, ho, hop, hds, hdep, hK =>
    exact absurd hs (by decide)
  | 16, _, hs, ho, hop, hds, hdep, hK =>
    exact absurd hs (by decide)
  | 17, _, hs, ho, hop, hds, hdep, hK =>
    exact absurd hs (by decide)
  | 18, _, hs, ho, hop, hds, hdep, hK =>
    exact absurd hs (by decide)
  | 19, _, hs, ho, hop, hds, hdep, hK =>
    exact absurd hs (by decide)
  | 20, _, hs, ho, hop, hds, hdep, hK =>
    exact absurd hs (by decide)
  | 21, _, hs, ho, hop, hds, hdep, hK =>
    exact absurd hs (by decide)
  | 22, _, hs, ho, hop, hds, hdep, hK =>
    exact absurd hs (by decide)
  | 23, _, hs, ho, hop, hds, hdep, hK =>
    exact absurd hs (by decide)
  | 24, _, hs, ho, hop, hds, hdep, hK =>
    have hop : o.op = .pick (.tmp 58) (.const (.bool true)) (.tmp 67) := Option.some.inj hop
    obtain ⟨u58, hu58, hv58⟩ := hdep 14 (by decide)
    have hv58' : u58 = .bool true := hv58
    subst hv58'
    have e58 : a.eval (.tmp 58) = _ := ev_tmp hu58
    obtain ⟨u67, hu67, hv67⟩ := hdep 23 (by decide)
    have hv67' : u67 = undef := hv67
    subst hv67'
    have e67 : a.eval (.tmp 67) = _ := ev_tmp hu67
    refine st3 ho hwt (v := .bool true) (w' := w) ?_ (hK _ w rfl (Below.refl _ _))
    unfold execOp
    simp only [hop, e58, e67]
    first | rfl | (go_simp; done) | (go_simp; simp; done) | (go_simp; intro h; omega)
  | 25, _, hs, ho, hop, hds, hdep, hK =>
    have hop : o.op = .pick (.tmp 55) (.tmp 68) (.const (.bool false)) := Option.some.inj hop
    obtain ⟨u55, hu55, hv55⟩ := hdep 11 (by decide)
    have hv55' : u55 = .bool true := hv55
    subst hv55'
    have e55 : a.eval (.tmp 55) = _ := ev_tmp hu55
    obtain ⟨u68, hu68, hv68⟩ := hdep 24 (by decide)
    have hv68' : u68 = .bool true := hv68
    subst hv68'
    have e68 : a.eval (.tmp 68) = _ := ev_tmp hu68
    refine st3 ho hwt (v := .bool true) (w' := w) ?_ (hK _ w rfl (Below.refl _ _))
    unfold execOp
    simp only [hop, e55, e68]
    first | rfl | (go_simp; done) | (go_simp; simp; done) | (go_simp; intro h; omega)
  | 26, _, hs, ho, hop, hds, hdep, hK =>
    have hop : o.op = .move (.tmp 69) := Option.some.inj hop
    obtain ⟨u69, hu69, hv69⟩ := hdep 25 (by decide)
    have hv69' : u69 = .bool true := hv69
    subst hv69'
    have e69 : a.eval (.tmp 69) = _ := ev_tmp hu69
    refine st3 ho hwt (v := _) (w' := w) ?_ (hK _ w rfl (Below.refl _ _))
    unfold execOp
    rw [hop, ← e69]
    rfl
  | 27, _, hs, ho, hop, hds, hdep, hK =>
    have hop : o.op = .call { callee := .value (.func 17), args := #[], argTypes := #[] } := Option.some.inj hop
    refine st3_call ho hwt (f := 17) (vals := #[]) (Z := fun v w' => v = .bool true ∧ Below w.heap.size w w') ?_ ?_ ?_
    · unfold execOp
      simp only [hop, resolve, invoke, Sem.run_bind, Sem.run_pure, Result.andThen_ok, List.map_toArray, List.map_cons, List.map_nil]
      first | rfl | exact enters_of Try.func17 (by kernel_rfl) rfl _ _
    · exact (hAw w).mono fun e w' ⟨he, h2⟩ => ⟨_, he, rfl, h2⟩
    · rintro v w' ⟨h1, h2⟩
      exact hK v w' h1 h2
  | 28, _, hs, ho, hop, hds, hdep, hK =>
    have hop : o.op = .pick (.tmp 70) (.tmp 71) (.const (.bool false)) := Option.some.inj hop
    obtain ⟨u70, hu70, hv70⟩ := hdep 26 (by decide)
    have hv70' : u70 = .bool true := hv70
    subst hv70'
    have e70 : a.eval (.tmp 70) = _ := ev_tmp hu70
    obtain ⟨u71, hu71, hv71⟩ := hdep 27 (by decide)
    have hv71' : u71 = .bool true := hv71
    subst hv71'
    have e71 : a.eval (.tmp 71) = _ := ev_tmp hu71
    refine st3 ho hwt (v := .bool true) (w' := w) ?_ (hK _ w rfl (Below.refl _ _))
    unfold execOp
    simp only [hop, e70, e71]
    first | rfl | (go_simp; done) | (go_simp; simp; done) | (go_simp; intro h; omega)
  | 29, _, hs, ho, hop, hds, hdep, hK =>
    have hop : o.op = .assign (.tmp 72) := Option.some.inj hop
    obtain ⟨u72, hu72, hv72⟩ := hdep 28 (by decide)
    have hv72' : u72 = .bool true := hv72
    subst hv72'
    have e72 : a.eval (.tmp 72) = _ := ev_tmp hu72
    refine st3 ho hwt (v := _) (w' := w) ?_ (hK _ w rfl (Below.refl _ _))
    unfold execOp
    rw [hop, ← e72]
    rfl
  | i + 30, hi, _, _, _, _, _, _ => exact absurd hi (by omega)
def fbR (bs b8 o8 : Nat) (n : Int) (k cO : Nat) (A8 : Option Addr) (C D : List Value) : Nat → Value → World → Prop
  | 0 => fun v w => v = .agg C.toArray
  | 1 => fun v w => v = .bool true
  | 2 => fun v w => v = .agg C.toArray
  | 3 => fun v w => v = .bool true
  | 4 => fun v w => v = .bool true
  | 5 => fun v w => v = .slice A8 k cO
  | 6 => fun v w => v = .int .i64 k
  | 7 => fun v w => v = .int .i64 n
  | 8 => fun v w => v = .int .i64 (k : Int)
  | 9 => fun v w => v = .bool true
  | 10 => fun v w => v = .bool true
  | 11 => fun v w => v = .bool true
  | 12 => fun v w => v = .int .i64 n
  | 13 => fun v w => v = .bool false
  | 14 => fun v w => v = .bool false
  | 15 => fun v w => v = .slice A8 k cO
  | 16 => fun v w => v = .slice A8 k cO
  | 17 => fun v w => v = .int .i64 k
  | 18 => fun v w => v = .int .i64 ((k : Int) - 1)
  | 19 => fun v w => v = .pointer (some ⟨b8, o8, none⟩)
  | 20 => fun v w => v = .agg D.toArray
  | 21 => fun v w => v = .int .i64 n
  | 22 => fun v w => v = .agg D.toArray
  | 23 => fun v w => v = .bool true
  | 24 => fun v w => v = .bool true
  | 25 => fun v w => v = .bool true
  | 26 => fun v w => v = .bool true
  | 27 => fun v w => v = .bool true
  | 28 => fun v w => v = .bool true
  | 29 => fun v w => v = .bool true
  | _ => fun _ _ => True
def fbD (i : Nat) : Nat := ([44, 45, 46, 47, 48, 49, 50, 51, 52, 53, 54, 55, 56, 57, 58, 59, 60, 61, 62, 63, 64, 65, 66, 67, 68, 69, 70, 71, 72, 2] : List Nat).getD i 0
def fbG : Nat → Option Bool
  | 4 => some true
  | 11 => some true
  | 14 => some false
  | 26 => some true
  | _ => none
def fbS (i : Nat) : Bool := ([] : List Nat).contains i
theorem fb_gb (bs b8 o8 : Nat) (n : Int) (k cO : Nat) (A8 : Option Addr) (C D : List Value) : ∀ i b v w, fbG i = some b → fbR bs b8 o8 n k cO A8 C D i v w → v = .bool b := by
  intro i b v w h hR
  unfold fbG at h
  split at h
  all_goals first | (injection h with h; subst h; exact hR) | cases h
theorem fb_sk (bs b8 o8 : Nat) (n : Int) (k cO : Nat) (A8 : Option Addr) (C D : List Value) : ∀ i w, fbS i = true → fbR bs b8 o8 n k cO A8 C D i undef w := by
  intro i w h
  simp [fbS] at h
theorem fb_on (bs b8 o8 : Nat) (n : Int) (k cO : Nat) (A8 : Option Addr) (C D : List Value) : ∀ i v w w', fbR bs b8 o8 n k cO A8 C D i v w → Below w.heap.size w w' → fbR bs b8 o8 n k cO A8 C D i v w'
  | 0, v, w, w', h, _ => h
  | 1, v, w, w', h, _ => h
  | 2, v, w, w', h, _ => h
  | 3, v, w, w', h, _ => h
  | 4, v, w, w', h, _ => h
  | 5, v, w, w', h, _ => h
  | 6, v, w, w', h, _ => h
  | 7, v, w, w', h, _ => h
  | 8, v, w, w', h, _ => h
  | 9, v, w, w', h, _ => h
  | 10, v, w, w', h, _ => h
  | 11, v, w, w', h, _ => h
  | 12, v, w, w', h, _ => h
  | 13, v, w, w', h, _ => h
  | 14, v, w, w', h, _ => h
  | 15, v, w, w', h, _ => h
  | 16, v, w, w', h, _ => h
  | 17, v, w, w', h, _ => h
  | 18, v, w, w', h, _ => h
  | 19, v, w, w', h, _ => h
  | 20, v, w, w', h, _ => h
  | 21, v, w, w', h, _ => h
  | 22, v, w, w', h, _ => h
  | 23, v, w, w', h, _ => h
  | 24, v, w, w', h, _ => h
  | 25, v, w, w', h, _ => h
  | 26, v, w, w', h, _ => h
  | 27, v, w, w', h, _ => h
  | 28, v, w, w', h, _ => h
  | 29, v, w, w', h, _ => h
  | i + 30, v, w, w', h, hb => trivial
def fbOps : List Op := [.load 28 (.tmp 6),
  .move (.tmp 7),
  .call { callee := .value (.func 19), args := #[.const (.int .i64 1), .const (.int .u8 0)], argTypes := #[3, 5] },
  .call { callee := .value (.func 25), args := #[.tmp 44, .tmp 45, .tmp 46], argTypes := #[28, 4, 28] },
  .move (.tmp 47),
  .move (.tmp 8),
  .call { callee := .builtin .len, args := #[.tmp 49], argTypes := #[54] },
  .move (.tmp 4),
  .call { callee := .builtin .min, args := #[.tmp 51, .const (.int .i64 4)], argTypes := #[3, 3] },
  .binOp .eql 3 (.tmp 50) (.tmp 52) 3,
  .pick (.tmp 48) (.tmp 53) (.const (.bool false)),
  .move (.tmp 54),
  .move (.tmp 4),
  .binOp .eql 3 (.tmp 56) (.const (.int .i64 0)) 3,
  .move (.tmp 57),
  .move (.tmp 8),
  .move (.tmp 8),
  .call { callee := .builtin .len, args := #[.tmp 60], argTypes := #[54] },
  .binOp .sub 3 (.tmp 61) (.const (.int .i64 1)) 3,
  .indexAddr 54 (.tmp 59) (.tmp 62),
  .load 28 (.tmp 63),
  .move (.tmp 4),
  .call { callee := .value (.func 19), args := #[.tmp 65, .const (.int .u8 0)], argTypes := #[3, 5] },
  .binOp .eql 28 (.tmp 64) (.tmp 66) 28,
  .pick (.tmp 58) (.const (.bool true)) (.tmp 67),
  .pick (.tmp 55) (.tmp 68) (.const (.bool false)),
  .move (.tmp 69),
  .call { callee := .value (.func 17), args := #[], argTypes := #[] },
  .pick (.tmp 70) (.tmp 71) (.const (.bool false)),
  .assign (.tmp 72)]
def fbNeeds : Nat → List Nat
  | 0 => []
  | 1 => []
  | 2 => []
  | 3 => [0, 1, 2]
  | 4 => [3]
  | 5 => []
  | 6 => [5]
  | 7 => []
  | 8 => [7]
  | 9 => [6, 8]
  | 10 => [4, 9]
  | 11 => [10]
  | 12 => []
  | 13 => [12]
  | 14 => [13]
  | 15 => []
  | 16 => []
  | 17 => [16]
  | 18 => [17]
  | 19 => [15, 18]
  | 20 => [19]
  | 21 => []
  | 22 => [21]
  | 23 => [20, 22]
  | 24 => [14, 23]
  | 25 => [11, 24]
  | 26 => [25]
  | 27 => []
  | 28 => [26, 27]
  | 29 => [28]
  | _ => []
set_option maxRecDepth 100000 in
set_option maxHeartbeats 3200000 in
theorem fb_step {ops : Array Oper} {Q : Exit → Act → World → Prop} {a0 : Act} {w0 : World} (bs b8 o8 : Nat) (n : Int) (k cO : Nat) (A8 : Option Addr) (C D : List Value) (hops : ((List.range 30).map fun i => (ops[i]?).map Oper.op) = fbOps.map some)
    (hnd : ((List.range 30).all fun i => (fbNeeds i).all fun j => ((ops[i]?).map fun o => o.after.any fun e => Region.binds .any e && (e.on == j)).getD false) = true)
    (x4 : a0.tmps[4]? = some (.int .i64 n)) (x6 : a0.tmps[6]? = some (.pointer (some ⟨bs, 0, none⟩))) (x7 : a0.tmps[7]? = some (.bool true)) (x8 : a0.tmps[8]? = some (.slice A8 k cO))
    (lx : ∀ w, Below w0.heap.size w0 w → w.rangeAt bs 0 C) (iC : (Try.prog.info? 28).map (·.size) = some C.length) (hmn : (if (4 : Int) < n then 4 else n) = (k : Int))
    (hM1 : ∀ w, Calls Try.prog 19 #[.int .i64 1, .int .u8 0] w fun e w' => e = .returned (.agg C.toArray) ∧ Below w.heap.size w w')
    (hIs : ∀ w, Calls Try.prog 25 #[.agg C.toArray, .bool true, .agg C.toArray] w fun e w' => e = .returned (.bool true) ∧ Below w.heap.size w w')
    (hAw : ∀ w, Calls Try.prog 17 #[] w fun e w' => e = .returned (.bool true) ∧ Below w.heap.size w w')
    (hz : ¬ n = 0) (hk1 : IntKind.i64.wrap ((k : Int) - 1) = (k : Int) - 1) (hix : ∀ w, (Instr.indexAt 54 (.slice A8 k cO) (.int .i64 ((k : Int) - 1))).run Try.prog w = .ok (.pointer (some ⟨b8, o8, none⟩)) w)
    (ll : ∀ w, Below w0.heap.size w0 w → w.rangeAt b8 o8 D) (iD : (Try.prog.info? 28).map (·.size) = some D.length)
    (hMn : ∀ w, Calls Try.prog 19 #[.int .i64 n, .int .u8 0] w fun e w' => e = .returned (.agg D.toArray) ∧ Below w.heap.size w w')
    (heq : ∀ w, (Op.equalIn 10000 28 (.agg D.toArray) (.agg D.toArray)).run Try.prog w = .ok true w) :
    ∀ i o, i < 30 → fbS i = false → ops[i]? = some o → o.dst = some (fbD i) → ∀ a w, Base fbD 30 a0 a → Below w0.heap.size w0 w → Region.wanted o (yielded ops a.tmps) = true →
      (∀ j, (o.after.any fun e => Region.binds .any e && (e.on == j)) = true → Has fbD (fbR bs b8 o8 n k cO A8 C D) j a w) →
      ∀ K : Act → World → Prop, (∀ v w', fbR bs b8 o8 n k cO A8 C D i v w' → Below w.heap.size w w' → K (a.put o.dst v) w') → wpOp Try.prog ops Q i K a w := by
  intro i o hi hs ho hds a w hbase hbl hwt hdep0 K hK
  have hop : some o.op = fbOps[i]? := by
    have h1 : ((List.range 30).map fun i => (ops[i]?).map Oper.op)[i]? = some (some o.op) := by
      rw [List.getElem?_map, List.getElem?_range hi]; simp only [Option.map_some, ho]
    rw [hops, List.getElem?_map] at h1
    cases h2 : fbOps[i]? with
    | none => rw [h2] at h1; cases h1
    | some y => rw [h2] at h1; simp only [Option.map_some, Option.some.injEq] at h1; rw [h1]
  have hdep : ∀ j, j ∈ fbNeeds i → Has fbD (fbR bs b8 o8 n k cO A8 C D) j a w := fun j hj => by
    have h1 := List.all_eq_true.1 (List.all_eq_true.1 hnd i (List.mem_range.2 hi)) j hj
    rw [ho] at h1
    exact hdep0 j h1
  clear hdep0 hops hnd
  match i, hi, hs, ho, hop, hds, hdep, hK with
  | 0, _, hs, ho, hop, hds, hdep, hK =>
    have hop : o.op = .load 28 (.tmp 6) := Option.some.inj hop
    have hu6 : a.tmps[6]? = some (.pointer (some ⟨bs, 0, none⟩)) := (hbase.2.2 6 (by decide)).trans x6
    have e6 : a.eval (.tmp 6) = _ := ev_tmp hu6
    refine st3 ho hwt (v := .agg C.toArray) (w' := w) ?_ (hK _ w rfl (Below.refl _ _))
    unfold execOp
    simp only [hop, e6, Instr.loadAt, Instr.sureAddr, Sem.run_bind, Sem.run_pure, Result.andThen_ok, run_loadVar_mid w bs 0 28 C _ (lx w hbl) Try.underlying28 rfl iC]
  | 1, _, hs, ho, hop, hds, hdep, hK =>
    have hop : o.op = .move (.tmp 7) := Option.some.inj hop
    have hu7 : a.tmps[7]? = some (.bool true) := (hbase.2.2 7 (by decide)).trans x7
    have e7 : a.eval (.tmp 7) = _ := ev_tmp hu7
    refine st3 ho hwt (v := _) (w' := w) ?_ (hK _ w rfl (Below.refl _ _))
    unfold execOp
    rw [hop, ← e7]
    rfl
  | 2, _, hs, ho, hop, hds, hdep, hK =>
    have hop : o.op = .call { callee := .value (.func 19), args := #[.const (.int .i64 1), .const (.int .u8 0)], argTypes := #[3, 5] } := Option.some.inj hop
    refine st3_call ho hwt (f := 19) (vals := #[.int .i64 1, .int .u8 0]) (Z := fun v w' => v = .agg C.toArray ∧ Below w.heap.size w w') ?_ ?_ ?_
    · unfold execOp
      simp only [hop, resolve, invoke, Sem.run_bind, Sem.run_pure, Result.andThen_ok, List.map_toArray, List.map_cons, List.map_nil]
      first | rfl | exact enters_of Try.func19 (by kernel_rfl) rfl _ _
    · exact (hM1 w).mono fun e w' ⟨he, h2⟩ => ⟨_, he, rfl, h2⟩
    · rintro v w' ⟨h1, h2⟩
      exact hK v w' h1 h2
  | 3, _, hs, ho, hop, hds, hdep, hK =>
    have hop : o.op = .call { callee := .value (.func 25), args := #[.tmp 44, .tmp 45, .tmp 46], argTypes := #[28, 4, 28] } := Option.some.inj hop
    obtain ⟨u44, hu44, hv44⟩ := hdep 0 (by decide)
    have hv44' : u44 = .agg C.toArray := hv44
    subst hv44'
    have e44 : a.eval (.tmp 44) = _ := ev_tmp hu44
    obtain ⟨u45, hu45, hv45⟩ := hdep 1 (by decide)
    have hv45' : u45 = .bool true := hv45
    subst hv45'
    have e45 : a.eval (.tmp 45) = _ := ev_tmp hu45
    obtain ⟨u46, hu46, hv46⟩ := hdep 2 (by decide)
    have hv46' : u46 = .agg C.toArray := hv46
    subst hv46'
    have e46 : a.eval (.tmp 46) = _ := ev_tmp hu46
    refine st3_call ho hwt (f := 25) (vals := #[.agg C.toArray, .bool true, .agg C.toArray]) (Z := fun v w' => v = .bool true ∧ Below w.heap.size w w') ?_ ?_ ?_
    · unfold execOp
      simp only [hop, e44, e45, e46, resolve, invoke, Sem.run_bind, Sem.run_pure, Result.andThen_ok, List.map_toArray, List.map_cons, List.map_nil]
      first | rfl | exact enters_of Try.func25 (by kernel_rfl) rfl _ _
    · exact (hIs w).mono fun e w' ⟨he, h2⟩ => ⟨_, he, rfl, h2⟩
    · rintro v w' ⟨h1, h2⟩
      exact hK v w' h1 h2
  | 4, _, hs, ho, hop, hds, hdep, hK =>
    have hop : o.op = .move (.tmp 47) := Option.some.inj hop
    obtain ⟨u47, hu47, hv47⟩ := hdep 3 (by decide)
    have hv47' : u47 = .bool true := hv47
    subst hv47'
    have e47 : a.eval (.tmp 47) = _ := ev_tmp hu47
    refine st3 ho hwt (v := _) (w' := w) ?_ (hK _ w rfl (Below.refl _ _))
    unfold execOp
    rw [hop, ← e47]
    rfl
  | 5, _, hs, ho, hop, hds, hdep, hK =>
    have hop : o.op = .move (.tmp 8) := Option.some.inj hop
    have hu8 : a.tmps[8]? = some (.slice A8 k cO) := (hbase.2.2 8 (by decide)).trans x8
    have e8 : a.eval (.tmp 8) = _ := ev_tmp hu8
    refine st3 ho hwt (v := _) (w' := w) ?_ (hK _ w rfl (Below.refl _ _))
    unfold execOp
    rw [hop, ← e8]
    rfl
  | 6, _, hs, ho, hop, hds, hdep, hK =>
    have hop : o.op = .call { callee := .builtin .len, args := #[.tmp 49], argTypes := #[54] } := Option.some.inj hop
    obtain ⟨u49, hu49, hv49⟩ := hdep 5 (by decide)
    have hv49' : u49 = .slice A8 k cO := hv49
    subst hv49'
    have e49 : a.eval (.tmp 49) = _ := ev_tmp hu49
    refine st3 ho hwt (v := .int .i64 k) (w' := w) ?_ (hK _ w rfl (Below.refl _ _))
    unfold execOp
    simp only [hop, resolve, invoke, builtin, Sem.run_bind, Sem.run_pure, Result.andThen_ok, List.map_toArray, List.map_cons, List.map_nil, e49]
    first | rfl | (go_simp; done) | (go_simp; simp; done) | (go_simp; intro h; omega)
  | 7, _, hs, ho, hop, hds, hdep, hK =>
    have hop : o.op = .move (.tmp 4) := Option.some.inj hop
    have hu4 : a.tmps[4]? = some (.int .i64 n) := (hbase.2.2 4 (by decide)).trans x4
    have e4 : a.eval (.tmp 4) = _ := ev_tmp hu4
    refine st3 ho hwt (v := _) (w' := w) ?_ (hK _ w rfl (Below.refl _ _))
    unfold execOp
    rw [hop, ← e4]
    rfl
  | 8, _, hs, ho, hop, hds, hdep, hK =>
    have hop : o.op = .call { callee := .builtin .min, args := #[.tmp 51, .const (.int .i64 4)], argTypes := #[3, 3] } := Option.some.inj hop
    obtain ⟨u51, hu51, hv51⟩ := hdep 7 (by decide)
    have hv51' : u51 = .int .i64 n := hv51
    subst hv51'
    have e51 : a.eval (.tmp 51) = _ := ev_tmp hu51
    refine st3 ho hwt (v := .int .i64 (k : Int)) (w' := w) ?_ (hK _ w rfl (Below.refl _ _))
    have ec : a.eval (.const (.int .i64 4)) = .int .i64 4 := rfl
    unfold execOp
    simp only [hop, resolve, invoke, builtin, Sem.run_bind, Sem.run_pure, Result.andThen_ok, List.map_toArray, List.map_cons, List.map_nil, e51, ec, run_min_int2, hmn]
  | 9, _, hs, ho, hop, hds, hdep, hK =>
    have hop : o.op = .binOp .eql 3 (.tmp 50) (.tmp 52) 3 := Option.some.inj hop
    obtain ⟨u50, hu50, hv50⟩ := hdep 6 (by decide)
    have hv50' : u50 = .int .i64 k := hv50
    subst hv50'
    have e50 : a.eval (.tmp 50) = _ := ev_tmp hu50
    obtain ⟨u52, hu52, hv52⟩ := hdep 8 (by decide)
    have hv52' : u52 = .int .i64 (k : Int) := hv52
    subst hv52'
    have e52 : a.eval (.tmp 52) = _ := ev_tmp hu52
    refine st3 ho hwt (v := .bool true) (w' := w) ?_ (hK _ w rfl (Below.refl _ _))
    unfold execOp
    simp only [hop, Option.map_some, Option.map_none, e50, e52]
    first | rfl | (go_simp; done) | (go_simp; simp; done) | (go_simp; intro h; omega)
  | 10, _, hs, ho, hop, hds, hdep, hK =>
    have hop : o.op = .pick (.tmp 48) (.tmp 53) (.const (.bool false)) := Option.some.inj hop
    obtain ⟨u48, hu48, hv48⟩ := hdep 4 (by decide)
    have hv48' : u48 = .bool true := hv48
    subst hv48'
    have e48 : a.eval (.tmp 48) = _ := ev_tmp hu48
    obtain ⟨u53, hu53, hv53⟩ := hdep 9 (by decide)
    have hv53' : u53 = .bool true := hv53
    subst hv53'
    have e53 : a.eval (.tmp 53) = _ := ev_tmp hu53
    refine st3 ho hwt (v := .bool true) (w' := w) ?_ (hK _ w rfl (Below.refl _ _))
    unfold execOp
    simp only [hop, e48, e53]
    first | rfl | (go_simp; done) | (go_simp; simp; done) | (go_simp; intro h; omega)
  | 11, _, hs, ho, hop, hds, hdep, hK =>
    have hop : o.op = .move (.tmp 54) := Option.some.inj hop
    obtain ⟨u54, hu54, hv54⟩ := hdep 10 (by decide)
    have hv54' : u54 = .bool true := hv54
    subst hv54'
    have e54 : a.eval (.tmp 54) = _ := ev_tmp hu54
    refine st3 ho hwt (v := _) (w' := w) ?_ (hK _ w rfl (Below.refl _ _))
    unfold execOp
    rw [hop, ← e54]
    rfl
  | 12, _, hs, ho, hop, hds, hdep, hK =>
    have hop : o.op = .move (.tmp 4) := Option.some.inj hop
    have hu4 : a.tmps[4]? = some (.int .i64 n) := (hbase.2.2 4 (by decide)).trans x4
    have e4 : a.eval (.tmp 4) = _ := ev_tmp hu4
    refine st3 ho hwt (v := _) (w' := w) ?_ (hK _ w rfl (Below.refl _ _))
    unfold execOp
    rw [hop, ← e4]
    rfl
  | 13, _, hs, ho, hop, hds, hdep, hK =>
    have hop : o.op = .binOp .eql 3 (.tmp 56) (.const (.int .i64 0)) 3 := Option.some.inj hop
    obtain ⟨u56, hu56, hv56⟩ := hdep 12 (by decide)
    have hv56' : u56 = .int .i64 n := hv56
    subst hv56'
    have e56 : a.eval (.tmp 56) = _ := ev_tmp hu56
    refine st3 ho hwt (v := .bool false) (w' := w) ?_ (hK _ w rfl (Below.refl _ _))
    have hq := hz
    unfold execOp
    simp only [hop, Option.map_some, Option.map_none, e56]
    first | rfl | (go_simp; done) | (go_simp; simp; done) | (go_simp; intro h; omega)
  | 14, _, hs, ho, hop, hds, hdep, hK =>
    have hop : o.op = .move (.tmp 57) := Option.some.inj hop
    obtain ⟨u57, hu57, hv57⟩ := hdep 13 (by decide)
    have hv57' : u57 = .bool false := hv57
    subst hv57'
    have e57 : a.eval (.tmp 57) = _ := ev_tmp hu57
    refine st3 ho hwt (v := _) (w' := w) ?_ (hK _ w rfl (Below.refl _ _))
    unfold execOp
    rw [hop, ← e57]
    rfl
  | 15, _, hs, ho, hop, hds, hdep, hK =>
    have hop : o.op = .move (.tmp 8) := Option.some.inj hop
    have hu8 : a.tmps[8]? = some (.slice A8 k cO) := (hbase.2.2 8 (by decide)).trans x8
    have e8 : a.eval (.tmp 8) = _ := ev_tmp hu8
    refine st3 ho hwt (v := _) (w' := w) ?_ (hK _ w rfl (Below.refl _ _))
    unfold execOp
    rw [hop, ← e8]
    rfl
  | 16, _, hs, ho, hop, hds, hdep, hK =>
    have hop : o.op = .move (.tmp 8) := Option.some.inj hop
    have hu8 : a.tmps[8]? = some (.slice A8 k cO) := (hbase.2.2 8 (by decide)).trans x8
    have e8 : a.eval (.tmp 8) = _ := ev_tmp hu8
    refine st3 ho hwt (v := _) (w' := w) ?_ (hK _ w rfl (Below.refl _ _))
    unfold execOp
    rw [hop, ← e8]
    rfl
  | 17, _, hs, ho, hop, hds, hdep, hK =>
    have hop : o.op = .call { callee := .builtin .len, args := #[.tmp 60], argTypes := #[54] } := Option.some.inj hop
    obtain ⟨u60, hu60, hv60⟩ := hdep 16 (by decide)
    have hv60' : u60 = .slice A8 k cO := hv60
    subst hv60'
    have e60 : a.eval (.tmp 60) = _ := ev_tmp hu60
    refine st3 ho hwt (v := .int .i64 k) (w' := w) ?_ (hK _ w rfl (Below.refl _ _))
    unfold execOp
    simp only [hop, resolve, invoke, builtin, Sem.run_bind, Sem.run_pure, Result.andThen_ok, List.map_toArray, List.map_cons, List.map_nil, e60]
    first | rfl | (go_simp; done) | (go_simp; simp; done) | (go_simp; intro h; omega)
  | 18, _, hs, ho, hop, hds, hdep, hK =>
    have hop : o.op = .binOp .sub 3 (.tmp 61) (.const (.int .i64 1)) 3 := Option.some.inj hop
    obtain ⟨u61, hu61, hv61⟩ := hdep 17 (by decide)
    have hv61' : u61 = .int .i64 k := hv61
    subst hv61'
    have e61 : a.eval (.tmp 61) = _ := ev_tmp hu61
    refine st3 ho hwt (v := .int .i64 ((k : Int) - 1)) (w' := w) ?_ (hK _ w rfl (Below.refl _ _))
    have hq := hk1
    unfold execOp
    simp only [hop, Option.map_some, Option.map_none, e61]
    first | rfl | (go_simp; done) | (go_simp; simp; done) | (go_simp; intro h; omega)
  | 19, _, hs, ho, hop, hds, hdep, hK =>
    have hop : o.op = .indexAddr 54 (.tmp 59) (.tmp 62) := Option.some.inj hop
    obtain ⟨u59, hu59, hv59⟩ := hdep 15 (by decide)
    have hv59' : u59 = .slice A8 k cO := hv59
    subst hv59'
    have e59 : a.eval (.tmp 59) = _ := ev_tmp hu59
    obtain ⟨u62, hu62, hv62⟩ := hdep 18 (by decide)
    have hv62' : u62 = .int .i64 ((k : Int) - 1) := hv62
    subst hv62'
    have e62 : a.eval (.tmp 62) = _ := ev_tmp hu62
    refine st3 ho hwt (v := .pointer (some ⟨b8, o8, none⟩)) (w' := w) ?_ (hK _ w rfl (Below.refl _ _))
    unfold execOp
    simp only [hop, e59, e62]
    have hq := hix w
    simp only [Sem.run_bind, hq, Result.andThen_ok]
    rfl
  | 20, _, hs, ho, hop, hds, hdep, hK =>
    have hop : o.op = .load 28 (.tmp 63) := Option.some.inj hop
    obtain ⟨u63, hu63, hv63⟩ := hdep 19 (by decide)
    have hv63' : u63 = .pointer (some ⟨b8, o8, none⟩) := hv63
    subst hv63'
    have e63 : a.eval (.tmp 63) = _ := ev_tmp hu63
    refine st3 ho hwt (v := .agg D.toArray) (w' := w) ?_ (hK _ w rfl (Below.refl _ _))
    unfold execOp
    simp only [hop, e63, Instr.loadAt, Instr.sureAddr, Sem.run_bind, Sem.run_pure, Result.andThen_ok, run_loadVar_mid w b8 o8 28 D _ (ll w hbl) Try.underlying28 rfl iD]
  | 21, _, hs, ho, hop, hds, hdep, hK =>
    have hop : o.op = .move (.tmp 4) := Option.some.inj hop
    have hu4 : a.tmps[4]? = some (.int .i64 n) := (hbase.2.2 4 (by decide)).trans x4
    have e4 : a.eval (.tmp 4) = _ := ev_tmp hu4
    refine st3 ho hwt (v := _) (w' := w) ?_ (hK _ w rfl (Below.refl _ _))
    unfold execOp
    rw [hop, ← e4]
    rfl
  | 22, _, hs, ho, hop, hds, hdep, hK =>
    have hop : o.op = .call { callee := .value (.func 19), args := #[.tmp 65, .const (.int .u8 0)], argTypes := #[3, 5] } := Option.some.inj hop
    obtain ⟨u65, hu65, hv65⟩ := hdep 21 (by decide)
    have hv65' : u65 = .int .i64 n := hv65
    subst hv65'
    have e65 : a.eval (.tmp 65) = _ := ev_tmp hu65
    refine st3_call ho hwt (f := 19) (vals := #[.int .i64 n, .int .u8 0]) (Z := fun v w' => v = .agg D.toArray ∧ Below w.heap.size w w') ?_ ?_ ?_
    · unfold execOp
      simp only [hop, e65, resolve, invoke, Sem.run_bind, Sem.run_pure, Result.andThen_ok, List.map_toArray, List.map_cons, List.map_nil]
      first | rfl | exact enters_of Try.func19 (by kernel_rfl) rfl _ _
    · exact (hMn w).mono fun e w' ⟨he, h2⟩ => ⟨_, he, rfl, h2⟩
    · rintro v w' ⟨h1, h2⟩
      exact hK v w' h1 h2
  | 23, _, hs, ho, hop, hds, hdep, hK =>
    have hop : o.op = .binOp .eql 28 (.tmp 64) (.tmp 66) 28 := Option.some.inj hop
    obtain ⟨u64, hu64, hv64⟩ := hdep 20 (by decide)
    have hv64' : u64 = .agg D.toArray := hv64
    subst hv64'
    have e64 : a.eval (.tmp 64) = _ := ev_tmp hu64
    obtain ⟨u66, hu66, hv66⟩ := hdep 22 (by decide)
    have hv66' : u66 = .agg D.toArray := hv66
    subst hv66'
    have e66 : a.eval (.tmp 66) = _ := ev_tmp hu66
    refine st3 ho hwt (v := .bool true) (w' := w) ?_ (hK _ w rfl (Below.refl _ _))
    have hq := heq w
    unfold execOp
    simp only [hop, e64, e66]
    first | rfl | (go_simp; done) | (go_simp; rfl)
  | 24, _, hs, ho, hop, hds, hdep, hK =>
    have hop : o.op = .pick (.tmp 58) (.const (.bool true)) (.tmp 67) := Option.some.inj hop
    obtain ⟨u58, hu58, hv58⟩ := hdep 14 (by decide)
    have hv58' : u58 = .bool false := hv58
    subst hv58'
    have e58 : a.eval (.tmp 58) = _ := ev_tmp hu58
    obtain ⟨u67, hu67, hv67⟩ := hdep 23 (by decide)
    have hv67' : u67 = .bool true := hv67
    subst hv67'
    have e67 : a.eval (.tmp 67) = _ := ev_tmp hu67
    refine st3 ho hwt (v := .bool true) (w' := w) ?_ (hK _ w rfl (Below.refl _ _))
    unfold execOp
    simp only [hop, e58, e67]
    first | rfl | (go_simp; done) | (go_simp; simp; done) | (go_simp; intro h; omega)
  | 25, _, hs, ho, hop, hds, hdep, hK =>
    have hop : o.op = .pick (.tmp 55) (.tmp 68) (.const (.bool false)) := Option.some.inj hop
    obtain ⟨u55, hu55, hv55⟩ := hdep 11 (by decide)
    have hv55' : u55 = .bool true := hv55
    subst hv55'
    have e55 : a.eval (.tmp 55) = _ := ev_tmp hu55
    obtain ⟨u68, hu68, hv68⟩ := hdep 24 (by decide)
    have hv68' : u68 = .bool true := hv68
    subst hv68'
    have e68 : a.eval (.tmp 68) = _ := ev_tmp hu68
    refine st3 ho hwt (v := .bool true) (w' := w) ?_ (hK _ w rfl (Below.refl _ _))
    unfold execOp
    simp only [hop, e55, e68]
    first | rfl | (go_simp; done) | (go_simp; simp; done) | (go_simp; intro h; omega)
  | 26, _, hs, ho, hop, hds, hdep, hK =>
    have hop : o.op = .move (.tmp 69) := Option.some.inj hop
    obtain ⟨u69, hu69, hv69⟩ := hdep 25 (by decide)
    have hv69' : u69 = .bool true := hv69
    subst hv69'
    have e69 : a.eval (.tmp 69) = _ := ev_tmp hu69
    refine st3 ho hwt (v := _) (w' := w) ?_ (hK _ w rfl (Below.refl _ _))
    unfold execOp
    rw [hop, ← e69]
    rfl
  | 27, _, hs, ho, hop, hds, hdep, hK =>
    have hop : o.op = .call { callee := .value (.func 17), args := #[], argTypes := #[] } := Option.some.inj hop
    refine st3_call ho hwt (f := 17) (vals := #[]) (Z := fun v w' => v = .bool true ∧ Below w.heap.size w w') ?_ ?_ ?_
    · unfold execOp
      simp only [hop, resolve, invoke, Sem.run_bind, Sem.run_pure, Result.andThen_ok, List.map_toArray, List.map_cons, List.map_nil]
      first | rfl | exact enters_of Try.func17 (by kernel_rfl) rfl _ _
    · exact (hAw w).mono fun e w' ⟨he, h2⟩ => ⟨_, he, rfl, h2⟩
    · rintro v w' ⟨h1, h2⟩
      exact hK v w' h1 h2
  | 28, _, hs, ho, hop, hds, hdep, hK =>
    have hop : o.op = .pick (.tmp 70) (.tmp 71) (.const (.bool false)) := Option.some.inj hop
    obtain ⟨u70, hu70, hv70⟩ := hdep 26 (by decide)
    have hv70' : u70 = .bool true := hv70
    subst hv70'
    have e70 : a.eval (.tmp 70) = _ := ev_tmp hu70
    obtain ⟨u71, hu71, hv71⟩ := hdep 27 (by decide)
    have hv71' : u71 = .bool true := hv71
    subst hv71'
    have e71 : a.eval (.tmp 71) = _ := ev_tmp hu71
    refine st3 ho hwt (v := .bool true) (w' := w) ?_ (hK _ w rfl (Below.refl _ _))
    unfold execOp
    simp only [hop, e70, e71]
    first | rfl | (go_simp; done) | (go_simp; simp; done) | (go_simp; intro h; omega)
  | 29, _, hs, ho, hop, hds, hdep, hK =>
    have hop : o.op = .assign (.tmp 72) := Option.some.inj hop
    obtain ⟨u72, hu72, hv72⟩ := hdep 28 (by decide)
    have hv72' : u72 = .bool true := hv72
    subst hv72'
    have e72 : a.eval (.tmp 72) = _ := ev_tmp hu72
    refine st3 ho hwt (v := _) (w' := w) ?_ (hK _ w rfl (Below.refl _ _))
    unfold execOp
    rw [hop, ← e72]
    rfl
  | i + 30, hi, _, _, _, _, _, _ => exact absurd hi (by omega)
set_option maxRecDepth 100000 in
set_option maxHeartbeats 64000000 in
theorem walk (many : Int) (w : World) (hmany : (Lit.int .i64 many).wf = true) :
    Calls Try.prog 7 #[.int .i64 many] w fun e w' => e = .returned (.bool true) ∧ Below w.heap.size w w' := by
  have HB : Hid (∀ W, Calls Try.prog 11 #[.int .i64 many, .int .i64 41] W (SomeNat 41 W)) := Lib.hid fun W => bring_s many 41 W (by omega) (by omega) hmany
  clear hmany
  obtain ⟨X1, h1⟩ : ∃ X, mkC (mkI 1 0) = X := ⟨_, rfl⟩
  have HF : Hid (∀ W, Calls Try.prog 18 #[.int .i64 1] W fun e w' => ∃ g, e = .returned (.pointer (some ⟨g, 0, none⟩)) ∧ MsAt w' (fun b => W.heap.size ≤ b ∧ b < w'.heap.size) g (fr 1) ∧ Below W.heap.size W w') := Lib.hid fun W => fresh_any 1 (by omega) (by omega) W
  have M1 : Hid (∀ W, Calls Try.prog 19 #[.int .i64 1, .int .u8 0] W fun e w' => e = .returned (.agg X1.toArray) ∧ Below W.heap.size W w') := Lib.hid fun W => by rw [← h1]; exact mkI_any (s := 1) (by decide) (by decide) 0 W
  have V1 : Hid (∀ W g V, Aw w W g (fr 1) V → Calls Try.prog 12 #[.pointer (some ⟨g, 0, none⟩), .int .i64 1, .agg X1.toArray] W fun e w' => e = .returned (.int .i64 0) ∧ Aw w w' g (voteS (fr 1) 1 (mkI 1 0)) V) := Lib.hid fun W g V h => by rw [← h1]; exact Aw.vote (m := (fr 1)) h (by decide) (mkI 1 0) fo_1
  have V2 : Hid (∀ W g V, Aw w W g (voteS (fr 1) 1 (mkI 1 0)) V → Calls Try.prog 12 #[.pointer (some ⟨g, 0, none⟩), .int .i64 2, .agg X1.toArray] W fun e w' => e = .returned (.int .i64 0) ∧ Aw w w' g (voteS (voteS (fr 1) 1 (mkI 1 0)) 2 (mkI 1 0)) V) := Lib.hid fun W g V h => by rw [← h1]; exact Aw.vote (m := (voteS (fr 1) 1 (mkI 1 0))) h (by decide) (mkI 1 0) fo_2
  have V3 : Hid (∀ W g V, Aw w W g (voteS (voteS (fr 1) 1 (mkI 1 0)) 2 (mkI 1 0)) V → Calls Try.prog 12 #[.pointer (some ⟨g, 0, none⟩), .int .i64 4, .agg X1.toArray] W fun e w' => e = .returned (.int .i64 0) ∧ Aw w w' g (sF 0) V) := Lib.hid fun W g V h => by rw [← h1, fo_0]; exact Aw.vote (m := (voteS (voteS (fr 1) 1 (mkI 1 0)) 2 (mkI 1 0))) h (by decide) (mkI 1 0) fo_3
  have VN : Hid (∀ (i : Nat), i < 41 → ∀ W g V X, mkC (mkI ((i : Int) + 1) 0) = X → Aw w W g (sF i) V → Calls Try.prog 12 #[.pointer (some ⟨g, 0, none⟩), .int .i64 3, .agg X.toArray] W fun e w' => e = .returned (.int .i64 0) ∧ Aw w w' g (sF (i + 1)) V) := Lib.hid fun i hi W g V X hX h => by rw [← hX, ← fo_s hi]; exact Aw.vote (m := sF i) h (by decide) _ (fo_e i hi)
  have OF : Hid (∀ (i : Nat), i < 41 → ∀ W g V, Aw w W g (sF i) V → Calls Try.prog 22 #[.pointer (some ⟨g, 0, none⟩), .int .i64 3] W fun e w' => ∃ A k c, e = .returned (.slice A k c) ∧ (lF i).length = k ∧ k ≤ 4 ∧ ShM w' A (lF i) ∧ Aw w w' g (sF i) V) := Lib.hid fun i hi W g V h => (Aw.of (m := sF i) h (n := 3) (by decide)).mono fun e w' ⟨A, k, c, he, h1, h2, h3⟩ => by rw [fo_t] at h1 h2; exact ⟨A, k, c, he, h2, by have := lF_len i; split at this <;> omega, h1, h3⟩
  have SG : Hid (∀ (i : Nat), i < 41 → ∀ W g V, Aw w W g (sF i) V → Calls Try.prog 20 #[.pointer (some ⟨g, 0, none⟩)] W fun e w' => e = .returned (.tuple #[.agg X1.toArray, .bool true]) ∧ Aw w w' g (sF i) V) := Lib.hid fun i hi W g V h => by rw [← h1]; exact Aw.stable (m := sF i) h (fo_g i hi)
  have I1 : Hid (∀ W, Calls Try.prog 25 #[.agg X1.toArray, .bool true, .agg X1.toArray] W fun e w' => e = .returned (.bool true) ∧ Below W.heap.size W w') := Lib.hid fun W => by rw [← h1]; exact is_any (mkI 1 0) (mkI 1 0) true W true (by simp)
  have i1 : Hid ((Try.prog.info? 28).map (·.size) = some X1.length) := Lib.hid (by rw [← h1]; exact mark_infoL _)
  have r1 : Hid (∀ W g m V b, Aw w W g m V → (b, mkI 1 0) ∈ V → W.rangeAt b 0 X1) := Lib.hid fun W g m V b h hp => by rw [← h1]; exact h.load hp
  have v1 := Lib.hid h1
  clear h1
  go_enter Try.func7, Try.ntmps7
  go_wp2_with fail
  refine (HF.out _).mono ?_
  rintro e w1 ⟨g, rfl, hst, hb1⟩
  have H1 := Lib.hid (Aw.new (Below.refl _ _) hst hb1)
  clear hst hb1
  go_wp2_with fail
  refine (M1.out _).mono ?_
  rintro e w2 ⟨rfl, hb⟩
  have H2 := Lib.hid (H1.out.below hb)
  clear hb H1
  go_wp2_with fail
  refine (V1.out _ _ _ H2.out).mono ?_
  rintro e w3 ⟨rfl, h⟩
  have H3 := Lib.hid h
  clear h H2
  go_wp2_with fail
  refine (M1.out _).mono ?_
  rintro e w4 ⟨rfl, hb⟩
  have H4 := Lib.hid (H3.out.below hb)
  clear hb H3
  go_wp2_with fail
  refine (V2.out _ _ _ H4.out).mono ?_
  rintro e w5 ⟨rfl, h⟩
  have H5 := Lib.hid h
  clear h H4
  go_wp2_with fail
  refine (M1.out _).mono ?_
  rintro e w6 ⟨rfl, hb⟩
  have H6 := Lib.hid (H5.out.below hb)
  clear hb H5
  go_wp2_with fail
  refine (V3.out _ _ _ H6.out).mono ?_
  rintro e w7 ⟨rfl, h⟩
  have H7 := Lib.hid h
  clear h H6
  go_wp2_with fail
  refine (HB.out _).mono ?_
  rintro e wB ⟨n, hn, rfl, hww⟩
  subst hww
  have hn41 : n ≤ 40 := by omega
  go_wp2
  go_loopw [5] (fun v5 wr => ∃ i : Nat, i ≤ n ∧ v5 = .int .i64 ((i : Int) + 1) ∧ Aw w wr g (sF i) []) (fun v _ => 50 - (intOf v).toNat)
  case atStart => exact ⟨0, by omega, rfl, H7.out⟩
  case round =>
    obtain ⟨i, hi, rfl, hAw⟩ := hrel
    have HA := Lib.hid hAw
    clear hAw
    by_cases hlt : i < n
    · have hd1 : (i : Int) + 1 ≤ (n : Int) := by omega
      obtain ⟨X, hX⟩ : ∃ X, mkC (mkI ((i : Int) + 1) 0) = X := ⟨_, rfl⟩
      have hwi : IntKind.i64.wrap ((i : Int) + 1 + 1) = (i : Int) + 1 + 1 := IntWalk.i64_in _ (by omega)
      have MI := Lib.hid (mkI_any (s := (i : Int) + 1) (by omega) (by omega) 0 wr)
      rw [hX] at MI
      have VI := Lib.hid (VN.out i (by omega) · g [] X hX)
      clear hX
      go_wp2_with fail
      refine MI.out.mono ?_
      rintro e u1 ⟨rfl, hb⟩
      have J1 := Lib.hid (HA.out.below hb)
      clear hb MI
      go_wp2_with fail
      refine (VI.out _ J1.out).mono ?_
      rintro e u2 ⟨rfl, h⟩
      have J2 := Lib.hid h
      clear h VI
      go_wp2_with fail
      refine (OF.out (i + 1) (by omega) _ _ _ J2.out).mono ?_
      rintro e u3 ⟨A, k, c, rfl, hk, hk4, hsh, h⟩
      have J3 := Lib.hid h
      clear h hsh hk
      have hk5 : ¬ (k : Int) > 4 := by omega
      have hk6 : ¬ (4 : Int) < (k : Int) := by omega
      go_wp2
      go_roundw
      case rel => exact ⟨i + 1, by omega, by first | rfl | (push_cast; rfl), J3.out⟩
      case measure => simp [intOf]; omega
    · have hin : i = n := by omega
      subst hin
      have hd1 : ¬ (i : Int) + 1 ≤ (i : Int) := by omega
      go_wp2_with fail
      refine (SG.out i (by omega) _ _ _ HA.out).mono ?_
      rintro e u1 ⟨rfl, h⟩
      obtain ⟨wV, hwV, hsV, hV, hVb⟩ := Aw.var' h (mkI 1 0) v1.out
      have HV := Lib.hid (And.intro hwV hsV)
      have H2 := Lib.hid hV
      clear hwV hsV hV hVb h
      go_wp2_with (refine wpList_store_mid rfl 28 _ _ rfl u1.heap.size 0 X1.toArray rfl rfl HV.out.2.1 HV.out.2.2.1 HV.out.2.2.2 ?_; simp only [Act.put]; refine cast (congrArg (fun z => wpList _ _ _ _ _ z) HV.out.1.symm) ?_)
      refine (OF.out i (by omega) _ _ _ H2.out).mono ?_
      rintro e u3 ⟨A, k, cO, rfl, hk, hk4, hsh, h⟩
      have H3 := Lib.hid h
      clear h
      have hmn : (if (4 : Int) < (i : Int) then 4 else (i : Int)) = (k : Int) := by have := lF_len i; split at this <;> split <;> omega
      go_wp2
      by_cases hz : (i : Int) = 0
      · clear hsh hk HF V1 V2 V3 VN OF SG HA HV H2
        refine region_rule4 (P := Try.prog) 30 73 faD faG faS (faR u1.heap.size 0 0 (i : Int) k cO A X1 []) _ _ (by kernel_rfl) rfl rfl (by kernel_rfl) (by decide +kernel) (fa_gb u1.heap.size 0 0 (i : Int) k cO A X1 []) (fa_sk u1.heap.size 0 0 (i : Int) k cO A X1 []) (fa_on u1.heap.size 0 0 (i : Int) k cO A X1 []) (fa_step u1.heap.size 0 0 (i : Int) k cO A X1 [] (by rfl) (by kernel_rfl) rfl rfl rfl rfl (fun W hb => r1.out _ _ _ _ _ (H3.out.below hb) (by simp)) i1.out hmn M1.out I1.out awake_any hz) ?fina
        case fina =>
          intro a w6 hbase hbl hall
          obtain ⟨v2, hv2, hR2⟩ := hall 29 (by decide)
          have hR2' : v2 = .bool true := hR2
          subst hR2'
          obtain ⟨gf, hgfe, hgf⟩ := base_lit hbase [44, 45, 46, 47, 48, 49, 50, 51, 52, 53, 54, 55, 56, 57, 58, 59, 60, 61, 62, 63, 64, 65, 66, 67, 68, 69, 70, 71, 72, 2] (by rfl)
          have q2 : gf 2 = .bool true := hgfe 2 _ hv2
          simp only [List.foldl_cons, List.foldl_nil, List.setIfInBounds_toArray, List.set_cons_zero, List.set_cons_succ, q2] at hgf
          rw [hgf]
          clear hv2 hR2 hgfe q2 hgf
          have H9 := Lib.hid (H3.out.bel.trans (hbl.mono H3.out.bel.size))
          clear hbl hall hbase
          go_wp2
          go_ret
          exact ⟨rfl, H9.out⟩
      · have hpos : 0 < (lF i).length := by have := lF_len i; split at this <;> omega
        obtain ⟨b8, o8, hA8, hrg⟩ := hsh.at_ (i := (lF i).length - 1) (by omega)
        have hlast := lF_last i (by omega) (by omega)
        rw [List.getElem?_eq_getElem (by omega)] at hlast
        rw [Option.some.inj hlast] at hrg
        obtain ⟨D, hD⟩ : ∃ D, mkC (mkI (i : Int) 0) = D := ⟨_, rfl⟩
        rw [hD, hk] at hrg
        have HL : Hid (∀ W, Below u3.heap.size u3 W → W.rangeAt b8 (o8 + (k - 1) * 33) D) := Lib.hid fun W hb => by
          obtain ⟨b9, o9, hA9, hrg9⟩ := (hsh.below hb).at_ (i := (lF i).length - 1) (by omega)
          rw [Option.some.inj hlast, hD, hk] at hrg9
          rw [hA8] at hA9
          injection hA9 with hA9
          injection hA9 with hA9 hA10
          subst hA9 hA10
          exact hrg9
        have iD : Hid ((Try.prog.info? 28).map (·.size) = some D.length) := Lib.hid (by rw [← hD]; exact mark_infoL _)
        have MN : Hid (∀ W, Calls Try.prog 19 #[.int .i64 (i : Int), .int .u8 0] W fun e w' => e = .returned (.agg D.toArray) ∧ Below W.heap.size W w') := Lib.hid fun W => by rw [← hD]; exact mkI_any (s := (i : Int)) (by omega) (by omega) 0 W
        have EQ : Hid (∀ W, (Op.equalIn 10000 28 (.agg D.toArray) (.agg D.toArray)).run Try.prog W = .ok true W) := Lib.hid fun W => by rw [← hD]; have := eq_mark (mkI (i : Int) 0) (mkI (i : Int) 0) W; simpa using this
        have hk1 : IntKind.i64.wrap ((k : Int) - 1) = (k : Int) - 1 := IntWalk.i64_in _ (by omega)
        have hkp : 0 < k := by omega
        subst hA8
        have HX : Hid (∀ w, (Instr.indexAt 54 (.slice (some ⟨b8, o8, none⟩) k cO) (.int .i64 ((k : Int) - 1))).run Try.prog w = .ok (.pointer (some ⟨b8, o8 + (k - 1) * 33, none⟩)) w) := Lib.hid fun w => by
          have hr := run_indexAt_slice (P := Try.prog) (w := w) 54 ⟨b8, o8, none⟩ k cO .i64 ((k : Int) - 1) (by kernel_rfl)
          rw [if_pos (by omega)] at hr
          refine hr.trans ?_
          have h33 : (sizeOf (Try.prog.elem 54)).run Try.prog w = .ok 33 w := by kernel_rfl
          have ht : ((k : Int) - 1).toNat = k - 1 := by omega
          rw [h33, ht]
          simp only [Result.andThen_ok, add_mk]
        clear hsh hk HF V1 V2 V3 VN OF SG HA HV H2 hpos hrg hlast hD hkp
        refine region_rule4 (P := Try.prog) 30 73 fbD fbG fbS (fbR u1.heap.size b8 (o8 + (k - 1) * 33) (i : Int) k cO (some ⟨b8, o8, none⟩) X1 D) _ _ (by kernel_rfl) rfl rfl (by kernel_rfl) (by decide +kernel) (fb_gb u1.heap.size b8 (o8 + (k - 1) * 33) (i : Int) k cO (some ⟨b8, o8, none⟩) X1 D) (fb_sk u1.heap.size b8 (o8 + (k - 1) * 33) (i : Int) k cO (some ⟨b8, o8, none⟩) X1 D) (fb_on u1.heap.size b8 (o8 + (k - 1) * 33) (i : Int) k cO (some ⟨b8, o8, none⟩) X1 D) (fb_step u1.heap.size b8 (o8 + (k - 1) * 33) (i : Int) k cO (some ⟨b8, o8, none⟩) X1 D (by rfl) (by kernel_rfl) rfl rfl rfl rfl (fun W hb => r1.out _ _ _ _ _ (H3.out.below hb) (by simp)) i1.out hmn M1.out I1.out awake_any hz hk1 HX.out HL.out iD.out MN.out EQ.out) ?finb
        case finb =>
          intro a w6 hbase hbl hall
          obtain ⟨v2, hv2, hR2⟩ := hall 29 (by decide)
          have hR2' : v2 = .bool true := hR2
          subst hR2'
          obtain ⟨gf, hgfe, hgf⟩ := base_lit hbase [44, 45, 46, 47, 48, 49, 50, 51, 52, 53, 54, 55, 56, 57, 58, 59, 60, 61, 62, 63, 64, 65, 66, 67, 68, 69, 70, 71, 72, 2] (by rfl)
          have q2 : gf 2 = .bool true := hgfe 2 _ hv2
          simp only [List.foldl_cons, List.foldl_nil, List.setIfInBounds_toArray, List.set_cons_zero, List.set_cons_succ, q2] at hgf
          rw [hgf]
          clear hv2 hR2 hgfe q2 hgf
          have H9 := Lib.hid (H3.out.bel.trans (hbl.mono H3.out.bel.size))
          clear hbl hall hbase
          go_wp2
          go_ret
          exact ⟨rfl, H9.out⟩

end Go.Proofs.Ytenccpccpjjkmaa.marksFour
