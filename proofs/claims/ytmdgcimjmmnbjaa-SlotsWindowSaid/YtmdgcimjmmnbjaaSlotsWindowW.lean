/-
  For all numbers x, y, z: above the window, and up to the low mark, nothing is taken; what is in the window behind Raise stays; SlotsWindow returns true; no condition.
-/
import Derived.Test.YtmdgcimjmmnbjaaZ01
import Derived.Test.YtmdgcimjmmnbjaaZ16
namespace Go.Proofs.Ytmdgcimjmmnbjaa.slotsWindow
open Go.ChangeShapes Go.WideShapes Go.ChangeAt Go.RowKit Go.Maps Go.Shelf Go.Sort CrewP
set_option linter.unusedVariables false

set_option linter.unusedSimpArgs false
def waR (bx : Nat) (n lo up lu : Int) (C D X : List Value) : Nat → Value → World → Prop
  | 0 => fun v w => v = .bool true
  | 1 => fun v w => v = .bool true
  | 2 => fun v w => v = .bool true
  | 3 => fun v w => v = .int .i64 n
  | 4 => fun v w => v = .int .i64 lo
  | 5 => fun v w => v = .int .i64 up
  | 6 => fun v w => v = .int .i64 lu
  | 7 => fun v w => v = .bool true
  | 8 => fun v w => v = .bool true
  | 9 => fun v w => v = .bool true
  | 10 => fun v w => v = .bool true
  | 11 => fun v w => v = .bool true
  | 12 => fun v w => v = .bool false
  | 13 => fun v w => v = .bool false
  | 14 => fun v w => v = .agg C.toArray
  | 15 => fun v w => v = .int .i64 n
  | 16 => fun v w => v = .agg D.toArray
  | 17 => fun v w => v = .agg C.toArray
  | 18 => fun v w => v = .bool true
  | 19 => fun v w => v = .bool true
  | 20 => fun v w => v = .bool true
  | 21 => fun v w => v = .bool true
  | 22 => fun v w => v = .bool true
  | 23 => fun v w => v = .bool true
  | 24 => fun v w => v = .bool true
  | _ => fun _ _ => True
def waD (i : Nat) : Nat := ([91, 92, 93, 94, 95, 96, 97, 98, 99, 100, 101, 102, 103, 104, 105, 106, 107, 108, 109, 110, 111, 112, 113, 114, 6] : List Nat).getD i 0
def waG : Nat → Option Bool
  | 2 => some true
  | 10 => some true
  | 13 => some false
  | 21 => some true
  | _ => none
def waS (i : Nat) : Bool := ([] : List Nat).contains i
theorem wa_gb (bx : Nat) (n lo up lu : Int) (C D X : List Value) : ∀ i b v w, waG i = some b → waR bx n lo up lu C D X i v w → v = .bool b := by
  intro i b v w h hR
  unfold waG at h
  split at h
  all_goals first | (injection h with h; subst h; exact hR) | cases h
theorem wa_sk (bx : Nat) (n lo up lu : Int) (C D X : List Value) : ∀ i w, waS i = true → waR bx n lo up lu C D X i undef w := by
  intro i w h
  simp [waS] at h
theorem wa_on (bx : Nat) (n lo up lu : Int) (C D X : List Value) : ∀ i v w w', waR bx n lo up lu C D X i v w → Below w.heap.size w w' → waR bx n lo up lu C D X i v w'
  | 0, v, w, w', h, _ => h
  | 1, v, w, w', h, _ => h
  | 2, v, w, w', h, _ => h
  | 3, v, w, w', h, _ => h
  | 4, v, w, w', h, _ => h
  | 5, v, w, w', h, _ => h
  | 6, v, w, w', h, _ => h
  | 7, v, w, w', h, _ => h
  | 8, v, w, w', h, _ => h
  | 9, v, w, w', h, _ => h
  | 10, v, w, w', h, _ => h
  | 11, v, w, w', h, _ => h
  | 12, v, w, w', h, _ => h
  | 13, v, w, w', h, _ => h
  | 14, v, w, w', h, _ => h
  | 15, v, w, w', h, _ => h
  | 16, v, w, w', h, _ => h
  | 17, v, w, w', h, _ => h
  | 18, v, w, w', h, _ => h
  | 19, v, w, w', h, _ => h
  | 20, v, w, w', h, _ => h
  | 21, v, w, w', h, _ => h
  | 22, v, w, w', h, _ => h
  | 23, v, w, w', h, _ => h
  | 24, v, w, w', h, _ => h
  | i + 25, v, w, w', h, hb => trivial
def waOps : List Op := [.move (.tmp 15),
  .move (.tmp 12),
  .move (.tmp 92),
  .move (.tmp 10),
  .move (.tmp 7),
  .move (.tmp 13),
  .binOp .add 3 (.tmp 95) (.tmp 96) 3,
  .binOp .gtr 3 (.tmp 94) (.tmp 97) 3,
  .pick (.tmp 93) (.tmp 98) (.const (.bool false)),
  .binOp .eql 4 (.tmp 91) (.tmp 99) 4,
  .move (.tmp 100),
  .move (.tmp 15),
  .unOp .not 4 (.tmp 102),
  .move (.tmp 103),
  .load 41 (.tmp 14),
  .move (.tmp 10),
  .call { callee := .value (.func 19), args := #[.const (.int .u8 9)], argTypes := #[5] },
  .build 41 #[(0, .tmp 106), (1, .tmp 107), (2, .const (.int .i64 2))],
  .binOp .eql 41 (.tmp 105) (.tmp 108) 41,
  .pick (.tmp 104) (.const (.bool true)) (.tmp 109),
  .pick (.tmp 101) (.tmp 110) (.const (.bool false)),
  .move (.tmp 111),
  .call { callee := .value (.func 16), args := #[], argTypes := #[] },
  .pick (.tmp 112) (.tmp 113) (.const (.bool false)),
  .assign (.tmp 114)]
def waNeeds : Nat → List Nat
  | 0 => []
  | 1 => []
  | 2 => [1]
  | 3 => []
  | 4 => []
  | 5 => []
  | 6 => [4, 5]
  | 7 => [3, 6]
  | 8 => [2, 7]
  | 9 => [0, 8]
  | 10 => [9]
  | 11 => []
  | 12 => [11]
  | 13 => [12]
  | 14 => []
  | 15 => []
  | 16 => []
  | 17 => [15, 16]
  | 18 => [14, 17]
  | 19 => [13, 18]
  | 20 => [10, 19]
  | 21 => [20]
  | 22 => []
  | 23 => [21, 22]
  | 24 => [23]
  | _ => []
set_option maxRecDepth 100000 in
set_option maxHeartbeats 3200000 in
theorem wa_step {ops : Array Oper} {Q : Exit → Act → World → Prop} {a0 : Act} {w0 : World} (bx : Nat) (n lo up lu : Int) (C D X : List Value) (hops : ((List.range 25).map fun i => (ops[i]?).map Oper.op) = waOps.map some)
    (hnd : ((List.range 25).all fun i => (waNeeds i).all fun j => ((ops[i]?).map fun o => o.after.any fun e => Region.binds .any e && (e.on == j)).getD false) = true)
    (x10 : a0.tmps[10]? = some (.int .i64 n)) (x7 : a0.tmps[7]? = some (.int .i64 lo)) (x13 : a0.tmps[13]? = some (.int .i64 up)) (x14 : a0.tmps[14]? = some (.pointer (some ⟨bx, 0, none⟩)))
    (x15 : a0.tmps[15]? = some (.bool true)) (x12 : a0.tmps[12]? = some (.bool true)) (hwl : IntKind.i64.wrap (lo + up) = lu)
    (hgt : lu < n) (hX : Blk w0 bx 41 C) (hiC : (Try.prog.info? 41).map (·.size) = some C.length) (hbC : Try.prog.built 41 [(0, .int .i64 n), (1, .agg D.toArray), (2, .int .i64 2)] = some C.toArray)
    (heq : ∀ w, (Op.equalIn 10000 41 (.agg C.toArray) (.agg C.toArray)).run Try.prog w = .ok true w) (hDg : ∀ w, Calls Try.prog 19 #[.int .u8 9] w fun e w' => e = .returned (.agg D.toArray) ∧ Below w.heap.size w w')
    (hAw : ∀ w, Calls Try.prog 16 #[] w fun e w' => e = .returned (.bool true) ∧ Below w.heap.size w w') :
    ∀ i o, i < 25 → waS i = false → ops[i]? = some o → o.dst = some (waD i) → ∀ a w, Base waD 25 a0 a → Below w0.heap.size w0 w → Region.wanted o (yielded ops a.tmps) = true →
      (∀ j, (o.after.any fun e => Region.binds .any e && (e.on == j)) = true → Has waD (waR bx n lo up lu C D X) j a w) →
      ∀ K : Act → World → Prop, (∀ v w', waR bx n lo up lu C D X i v w' → Below w.heap.size w w' → K (a.put o.dst v) w') → wpOp Try.prog ops Q i K a w := by
  intro i o hi hs ho hds a w hbase hbl hwt hdep0 K hK
  have hop : some o.op = waOps[i]? := by
    have h1 : ((List.range 25).map fun i => (ops[i]?).map Oper.op)[i]? = some (some o.op) := by
      rw [List.getElem?_map, List.getElem?_range hi]; simp only [Option.map_some, ho]
    rw [hops, List.getElem?_map] at h1
    cases h2 : waOps[i]? with
    | none => rw [h2] at h1; cases h1
    | some y => rw [h2] at h1; simp only [Option.map_some, Option.some.injEq] at h1; rw [h1]
  have hdep : ∀ j, j ∈ waNeeds i → Has waD (waR bx n lo up lu C D X) j a w := fun j hj => by
    have h1 := List.all_eq_true.1 (List.all_eq_true.1 hnd i (List.mem_range.2 hi)) j hj
    rw [ho] at h1
    exact hdep0 j h1
  clear hdep0 hops hnd
  match i, hi, hs, ho, hop, hds, hdep, hK with
  | 0, _, hs, ho, hop, hds, hdep, hK =>
    have hop : o.op = .move (.tmp 15) := Option.some.inj hop
    have hu15 : a.tmps[15]? = some (.bool true) := (hbase.2.2 15 (by decide)).trans x15
    have e15 : a.eval (.tmp 15) = _ := ev_tmp hu15
    refine st3 ho hwt (v := _) (w' := w) ?_ (hK _ w rfl (Below.refl _ _))
    unfold execOp
    rw [hop, ← e15]
    rfl
  | 1, _, hs, ho, hop, hds, hdep, hK =>
    have hop : o.op = .move (.tmp 12) := Option.some.inj hop
    have hu12 : a.tmps[12]? = some (.bool true) := (hbase.2.2 12 (by decide)).trans x12
    have e12 : a.eval (.tmp 12) = _ := ev_tmp hu12
    refine st3 ho hwt (v := _) (w' := w) ?_ (hK _ w rfl (Below.refl _ _))
    unfold execOp
    rw [hop, ← e12]
    rfl
  | 2, _, hs, ho, hop, hds, hdep, hK =>
    have hop : o.op = .move (.tmp 92) := Option.some.inj hop
    obtain ⟨u92, hu92, hv92⟩ := hdep 1 (by decide)
    have hv92' : u92 = .bool true := hv92
    subst hv92'
    have e92 : a.eval (.tmp 92) = _ := ev_tmp hu92
    refine st3 ho hwt (v := _) (w' := w) ?_ (hK _ w rfl (Below.refl _ _))
    unfold execOp
    rw [hop, ← e92]
    rfl
  | 3, _, hs, ho, hop, hds, hdep, hK =>
    have hop : o.op = .move (.tmp 10) := Option.some.inj hop
    have hu10 : a.tmps[10]? = some (.int .i64 n) := (hbase.2.2 10 (by decide)).trans x10
    have e10 : a.eval (.tmp 10) = _ := ev_tmp hu10
    refine st3 ho hwt (v := _) (w' := w) ?_ (hK _ w rfl (Below.refl _ _))
    unfold execOp
    rw [hop, ← e10]
    rfl
  | 4, _, hs, ho, hop, hds, hdep, hK =>
    have hop : o.op = .move (.tmp 7) := Option.some.inj hop
    have hu7 : a.tmps[7]? = some (.int .i64 lo) := (hbase.2.2 7 (by decide)).trans x7
    have e7 : a.eval (.tmp 7) = _ := ev_tmp hu7
    refine st3 ho hwt (v := _) (w' := w) ?_ (hK _ w rfl (Below.refl _ _))
    unfold execOp
    rw [hop, ← e7]
    rfl
  | 5, _, hs, ho, hop, hds, hdep, hK =>
    have hop : o.op = .move (.tmp 13) := Option.some.inj hop
    have hu13 : a.tmps[13]? = some (.int .i64 up) := (hbase.2.2 13 (by decide)).trans x13
    have e13 : a.eval (.tmp 13) = _ := ev_tmp hu13
    refine st3 ho hwt (v := _) (w' := w) ?_ (hK _ w rfl (Below.refl _ _))
    unfold execOp
    rw [hop, ← e13]
    rfl
  | 6, _, hs, ho, hop, hds, hdep, hK =>
    have hop : o.op = .binOp .add 3 (.tmp 95) (.tmp 96) 3 := Option.some.inj hop
    obtain ⟨u95, hu95, hv95⟩ := hdep 4 (by decide)
    have hv95' : u95 = .int .i64 lo := hv95
    subst hv95'
    have e95 : a.eval (.tmp 95) = _ := ev_tmp hu95
    obtain ⟨u96, hu96, hv96⟩ := hdep 5 (by decide)
    have hv96' : u96 = .int .i64 up := hv96
    subst hv96'
    have e96 : a.eval (.tmp 96) = _ := ev_tmp hu96
    refine st3 ho hwt (v := .int .i64 lu) (w' := w) ?_ (hK _ w rfl (Below.refl _ _))
    have hq := hwl
    unfold execOp
    simp only [hop, Option.map_some, Option.map_none, e95, e96]
    first | rfl | (go_simp; done) | (go_simp; simp; done) | (go_simp; intro h; omega)
  | 7, _, hs, ho, hop, hds, hdep, hK =>
    have hop : o.op = .binOp .gtr 3 (.tmp 94) (.tmp 97) 3 := Option.some.inj hop
    obtain ⟨u94, hu94, hv94⟩ := hdep 3 (by decide)
    have hv94' : u94 = .int .i64 n := hv94
    subst hv94'
    have e94 : a.eval (.tmp 94) = _ := ev_tmp hu94
    obtain ⟨u97, hu97, hv97⟩ := hdep 6 (by decide)
    have hv97' : u97 = .int .i64 lu := hv97
    subst hv97'
    have e97 : a.eval (.tmp 97) = _ := ev_tmp hu97
    refine st3 ho hwt (v := .bool true) (w' := w) ?_ (hK _ w rfl (Below.refl _ _))
    have hq := hgt
    unfold execOp
    simp only [hop, Option.map_some, Option.map_none, e94, e97]
    first | rfl | (go_simp; done) | (go_simp; simp; done) | (go_simp; intro h; omega)
  | 8, _, hs, ho, hop, hds, hdep, hK =>
    have hop : o.op = .pick (.tmp 93) (.tmp 98) (.const (.bool false)) := Option.some.inj hop
    obtain ⟨u93, hu93, hv93⟩ := hdep 2 (by decide)
    have hv93' : u93 = .bool true := hv93
    subst hv93'
    have e93 : a.eval (.tmp 93) = _ := ev_tmp hu93
    obtain ⟨u98, hu98, hv98⟩ := hdep 7 (by decide)
    have hv98' : u98 = .bool true := hv98
    subst hv98'
    have e98 : a.eval (.tmp 98) = _ := ev_tmp hu98
    refine st3 ho hwt (v := .bool true) (w' := w) ?_ (hK _ w rfl (Below.refl _ _))
    unfold execOp
    simp only [hop, e93, e98]
    first | rfl | (go_simp; done) | (go_simp; simp; done) | (go_simp; intro h; omega)
  | 9, _, hs, ho, hop, hds, hdep, hK =>
    have hop : o.op = .binOp .eql 4 (.tmp 91) (.tmp 99) 4 := Option.some.inj hop
    obtain ⟨u91, hu91, hv91⟩ := hdep 0 (by decide)
    have hv91' : u91 = .bool true := hv91
    subst hv91'
    have e91 : a.eval (.tmp 91) = _ := ev_tmp hu91
    obtain ⟨u99, hu99, hv99⟩ := hdep 8 (by decide)
    have hv99' : u99 = .bool true := hv99
    subst hv99'
    have e99 : a.eval (.tmp 99) = _ := ev_tmp hu99
    refine st3 ho hwt (v := .bool true) (w' := w) ?_ (hK _ w rfl (Below.refl _ _))
    unfold execOp
    simp only [hop, e91, e99]
    first | rfl | (go_simp; done) | (go_simp; simp; done) | (go_simp; intro h; omega)
  | 10, _, hs, ho, hop, hds, hdep, hK =>
    have hop : o.op = .move (.tmp 100) := Option.some.inj hop
    obtain ⟨u100, hu100, hv100⟩ := hdep 9 (by decide)
    have hv100' : u100 = .bool true := hv100
    subst hv100'
    have e100 : a.eval (.tmp 100) = _ := ev_tmp hu100
    refine st3 ho hwt (v := _) (w' := w) ?_ (hK _ w rfl (Below.refl _ _))
    unfold execOp
    rw [hop, ← e100]
    rfl
  | 11, _, hs, ho, hop, hds, hdep, hK =>
    have hop : o.op = .move (.tmp 15) := Option.some.inj hop
    have hu15 : a.tmps[15]? = some (.bool true) := (hbase.2.2 15 (by decide)).trans x15
    have e15 : a.eval (.tmp 15) = _ := ev_tmp hu15
    refine st3 ho hwt (v := _) (w' := w) ?_ (hK _ w rfl (Below.refl _ _))
    unfold execOp
    rw [hop, ← e15]
    rfl
  | 12, _, hs, ho, hop, hds, hdep, hK =>
    have hop : o.op = .unOp .not 4 (.tmp 102) := Option.some.inj hop
    obtain ⟨u102, hu102, hv102⟩ := hdep 11 (by decide)
    have hv102' : u102 = .bool true := hv102
    subst hv102'
    have e102 : a.eval (.tmp 102) = _ := ev_tmp hu102
    refine st3 ho hwt (v := .bool false) (w' := w) ?_ (hK _ w rfl (Below.refl _ _))
    unfold execOp
    simp only [hop, e102]
    first | rfl | (go_simp; done) | (go_simp; simp; done) | (go_simp; intro h; omega)
  | 13, _, hs, ho, hop, hds, hdep, hK =>
    have hop : o.op = .move (.tmp 103) := Option.some.inj hop
    obtain ⟨u103, hu103, hv103⟩ := hdep 12 (by decide)
    have hv103' : u103 = .bool false := hv103
    subst hv103'
    have e103 : a.eval (.tmp 103) = _ := ev_tmp hu103
    refine st3 ho hwt (v := _) (w' := w) ?_ (hK _ w rfl (Below.refl _ _))
    unfold execOp
    rw [hop, ← e103]
    rfl
  | 14, _, hs, ho, hop, hds, hdep, hK =>
    have hop : o.op = .load 41 (.tmp 14) := Option.some.inj hop
    have hu14 : a.tmps[14]? = some (.pointer (some ⟨bx, 0, none⟩)) := (hbase.2.2 14 (by decide)).trans x14
    have e14 : a.eval (.tmp 14) = _ := ev_tmp hu14
    refine st3 ho hwt (v := .agg C.toArray) (w' := w) ?_ (hK _ w rfl (Below.refl _ _))
    unfold execOp
    simp only [hop, e14, Instr.loadAt, Instr.sureAddr, Sem.run_bind, Sem.run_pure, Result.andThen_ok, run_loadVar_mid w bx 0 41 C _ ((fun j v hv => (hX.below hbl hX.lt).cell (by rw [Nat.zero_add]; exact hv))) Try.underlying41 rfl hiC]
  | 15, _, hs, ho, hop, hds, hdep, hK =>
    have hop : o.op = .move (.tmp 10) := Option.some.inj hop
    have hu10 : a.tmps[10]? = some (.int .i64 n) := (hbase.2.2 10 (by decide)).trans x10
    have e10 : a.eval (.tmp 10) = _ := ev_tmp hu10
    refine st3 ho hwt (v := _) (w' := w) ?_ (hK _ w rfl (Below.refl _ _))
    unfold execOp
    rw [hop, ← e10]
    rfl
  | 16, _, hs, ho, hop, hds, hdep, hK =>
    have hop : o.op = .call { callee := .value (.func 19), args := #[.const (.int .u8 9)], argTypes := #[5] } := Option.some.inj hop
    refine st3_call ho hwt (f := 19) (vals := #[.int .u8 9]) (Z := fun v w' => v = .agg D.toArray ∧ Below w.heap.size w w') ?_ ?_ ?_
    · unfold execOp
      simp only [hop, resolve, invoke, Sem.run_bind, Sem.run_pure, Result.andThen_ok, List.map_toArray, List.map_cons, List.map_nil]
      first | rfl | exact enters_of Try.func19 (by kernel_rfl) rfl _ _
    · exact (hDg w).mono fun e w' ⟨he, h2⟩ => ⟨_, he, rfl, h2⟩
    · rintro v w' ⟨h1, h2⟩
      exact hK v w' h1 h2
  | 17, _, hs, ho, hop, hds, hdep, hK =>
    have hop : o.op = .build 41 #[(0, .tmp 106), (1, .tmp 107), (2, .const (.int .i64 2))] := Option.some.inj hop
    obtain ⟨u106, hu106, hv106⟩ := hdep 15 (by decide)
    have hv106' : u106 = .int .i64 n := hv106
    subst hv106'
    have e106 : a.eval (.tmp 106) = _ := ev_tmp hu106
    obtain ⟨u107, hu107, hv107⟩ := hdep 16 (by decide)
    have hv107' : u107 = .agg D.toArray := hv107
    subst hv107'
    have e107 : a.eval (.tmp 107) = _ := ev_tmp hu107
    exact st3 ho hwt (exec_build 41 _ hop _ (show (Try.prog).built 41 [(0, a.eval (.tmp 106)), (1, a.eval (.tmp 107)), (2, .int .i64 2)] = _ from (by rw [e106, e107]; exact hbC)) w) (hK _ w rfl (Below.refl _ _))
  | 18, _, hs, ho, hop, hds, hdep, hK =>
    have hop : o.op = .binOp .eql 41 (.tmp 105) (.tmp 108) 41 := Option.some.inj hop
    obtain ⟨u105, hu105, hv105⟩ := hdep 14 (by decide)
    have hv105' : u105 = .agg C.toArray := hv105
    subst hv105'
    have e105 : a.eval (.tmp 105) = _ := ev_tmp hu105
    obtain ⟨u108, hu108, hv108⟩ := hdep 17 (by decide)
    have hv108' : u108 = .agg C.toArray := hv108
    subst hv108'
    have e108 : a.eval (.tmp 108) = _ := ev_tmp hu108
    refine st3 ho hwt (v := .bool true) (w' := w) ?_ (hK _ w rfl (Below.refl _ _))
    have hq := heq w
    unfold execOp
    simp only [hop, e105, e108]
    first | rfl | (go_simp; done) | (go_simp; rfl)
  | 19, _, hs, ho, hop, hds, hdep, hK =>
    have hop : o.op = .pick (.tmp 104) (.const (.bool true)) (.tmp 109) := Option.some.inj hop
    obtain ⟨u104, hu104, hv104⟩ := hdep 13 (by decide)
    have hv104' : u104 = .bool false := hv104
    subst hv104'
    have e104 : a.eval (.tmp 104) = _ := ev_tmp hu104
    obtain ⟨u109, hu109, hv109⟩ := hdep 18 (by decide)
    have hv109' : u109 = .bool true := hv109
    subst hv109'
    have e109 : a.eval (.tmp 109) = _ := ev_tmp hu109
    refine st3 ho hwt (v := .bool true) (w' := w) ?_ (hK _ w rfl (Below.refl _ _))
    unfold execOp
    simp only [hop, e104, e109]
    first | rfl | (go_simp; done) | (go_simp; simp; done) | (go_simp; intro h; omega)
  | 20, _, hs, ho, hop, hds, hdep, hK =>
    have hop : o.op = .pick (.tmp 101) (.tmp 110) (.const (.bool false)) := Option.some.inj hop
    obtain ⟨u101, hu101, hv101⟩ := hdep 10 (by decide)
    have hv101' : u101 = .bool true := hv101
    subst hv101'
    have e101 : a.eval (.tmp 101) = _ := ev_tmp hu101
    obtain ⟨u110, hu110, hv110⟩ := hdep 19 (by decide)
    have hv110' : u110 = .bool true := hv110
    subst hv110'
    have e110 : a.eval (.tmp 110) = _ := ev_tmp hu110
    refine st3 ho hwt (v := .bool true) (w' := w) ?_ (hK _ w rfl (Below.refl _ _))
    unfold execOp
    simp only [hop, e101, e110]
    first | rfl | (go_simp; done) | (go_simp; simp; done) | (go_simp; intro h; omega)
  | 21, _, hs, ho, hop, hds, hdep, hK =>
    have hop : o.op = .move (.tmp 111) := Option.some.inj hop
    obtain ⟨u111, hu111, hv111⟩ := hdep 20 (by decide)
    have hv111' : u111 = .bool true := hv111
    subst hv111'
    have e111 : a.eval (.tmp 111) = _ := ev_tmp hu111
    refine st3 ho hwt (v := _) (w' := w) ?_ (hK _ w rfl (Below.refl _ _))
    unfold execOp
    rw [hop, ← e111]
    rfl
  | 22, _, hs, ho, hop, hds, hdep, hK =>
    have hop : o.op = .call { callee := .value (.func 16), args := #[], argTypes := #[] } := Option.some.inj hop
    refine st3_call ho hwt (f := 16) (vals := #[]) (Z := fun v w' => v = .bool true ∧ Below w.heap.size w w') ?_ ?_ ?_
    · unfold execOp
      simp only [hop, resolve, invoke, Sem.run_bind, Sem.run_pure, Result.andThen_ok, List.map_toArray, List.map_cons, List.map_nil]
      first | rfl | exact enters_of Try.func16 (by kernel_rfl) rfl _ _
    · exact (hAw w).mono fun e w' ⟨he, h2⟩ => ⟨_, he, rfl, h2⟩
    · rintro v w' ⟨h1, h2⟩
      exact hK v w' h1 h2
  | 23, _, hs, ho, hop, hds, hdep, hK =>
    have hop : o.op = .pick (.tmp 112) (.tmp 113) (.const (.bool false)) := Option.some.inj hop
    obtain ⟨u112, hu112, hv112⟩ := hdep 21 (by decide)
    have hv112' : u112 = .bool true := hv112
    subst hv112'
    have e112 : a.eval (.tmp 112) = _ := ev_tmp hu112
    obtain ⟨u113, hu113, hv113⟩ := hdep 22 (by decide)
    have hv113' : u113 = .bool true := hv113
    subst hv113'
    have e113 : a.eval (.tmp 113) = _ := ev_tmp hu113
    refine st3 ho hwt (v := .bool true) (w' := w) ?_ (hK _ w rfl (Below.refl _ _))
    unfold execOp
    simp only [hop, e112, e113]
    first | rfl | (go_simp; done) | (go_simp; simp; done) | (go_simp; intro h; omega)
  | 24, _, hs, ho, hop, hds, hdep, hK =>
    have hop : o.op = .assign (.tmp 114) := Option.some.inj hop
    obtain ⟨u114, hu114, hv114⟩ := hdep 23 (by decide)
    have hv114' : u114 = .bool true := hv114
    subst hv114'
    have e114 : a.eval (.tmp 114) = _ := ev_tmp hu114
    refine st3 ho hwt (v := _) (w' := w) ?_ (hK _ w rfl (Below.refl _ _))
    unfold execOp
    rw [hop, ← e114]
    rfl
  | i + 25, hi, _, _, _, _, _, _ => exact absurd hi (by omega)
def wbR (bx : Nat) (n lo up lu : Int) (C D X : List Value) : Nat → Value → World → Prop
  | 0 => fun v w => v = .bool false
  | 1 => fun v w => v = .bool true
  | 2 => fun v w => v = .bool true
  | 3 => fun v w => v = .int .i64 n
  | 4 => fun v w => v = .int .i64 lo
  | 5 => fun v w => v = .int .i64 up
  | 6 => fun v w => v = .int .i64 lu
  | 7 => fun v w => v = .bool false
  | 8 => fun v w => v = .bool false
  | 9 => fun v w => v = .bool true
  | 10 => fun v w => v = .bool true
  | 11 => fun v w => v = .bool false
  | 12 => fun v w => v = .bool true
  | 13 => fun v w => v = .bool true
  | 14 => fun v w => v = undef
  | 15 => fun v w => v = undef
  | 16 => fun v w => v = undef
  | 17 => fun v w => v = undef
  | 18 => fun v w => v = undef
  | 19 => fun v w => v = .bool true
  | 20 => fun v w => v = .bool true
  | 21 => fun v w => v = .bool true
  | 22 => fun v w => v = .bool true
  | 23 => fun v w => v = .bool true
  | 24 => fun v w => v = .bool true
  | _ => fun _ _ => True
def wbD (i : Nat) : Nat := ([91, 92, 93, 94, 95, 96, 97, 98, 99, 100, 101, 102, 103, 104, 105, 106, 107, 108, 109, 110, 111, 112, 113, 114, 6] : List Nat).getD i 0
def wbG : Nat → Option Bool
  | 2 => some true
  | 10 => some true
  | 13 => some true
  | 21 => some true
  | _ => none
def wbS (i : Nat) : Bool := ([14, 15, 16, 17, 18] : List Nat).contains i
theorem wb_gb (bx : Nat) (n lo up lu : Int) (C D X : List Value) : ∀ i b v w, wbG i = some b → wbR bx n lo up lu C D X i v w → v = .bool b := by
  intro i b v w h hR
  unfold wbG at h
  split at h
  all_goals first | (injection h with h; subst h; exact hR) | cases h
theorem wb_sk (bx : Nat) (n lo up lu : Int) (C D X : List Value) : ∀ i w, wbS i = true → wbR bx n lo up lu C D X i undef w := by
  intro i w h
  have hm : i ∈ ([14, 15, 16, 17, 18] : List Nat) := by simpa [wbS] using h
  simp only [List.mem_cons, List.not_mem_nil, or_false] at hm
  rcases hm with rfl | rfl | rfl | rfl | rfl
  all_goals rfl
theorem wb_on (bx : Nat) (n lo up lu : Int) (C D X : List Value) : ∀ i v w w', wbR bx n lo up lu C D X i v w → Below w.heap.size w w' → wbR bx n lo up lu C D X i v w'
  | 0, v, w, w', h, _ => h
  | 1, v, w, w', h, _ => h
  | 2, v, w, w', h, _ => h
  | 3, v, w, w', h, _ => h
  | 4, v, w, w', h, _ => h
  | 5, v, w, w', h, _ => h
  | 6, v, w, w', h, _ => h
  | 7, v, w, w', h, _ => h
  | 8, v, w, w', h, _ => h
  | 9, v, w, w', h, _ => h
  | 10, v, w, w', h, _ => h
  | 11, v, w, w', h, _ => h
  | 12, v, w, w', h, _ => h
  | 13, v, w, w', h, _ => h
  | 14, v, w, w', h, _ => h
  | 15, v, w, w', h, _ => h
  | 16, v, w, w', h, _ => h
  | 17, v, w, w', h, _ => h
  | 18, v, w, w', h, _ => h
  | 19, v, w, w', h, _ => h
  | 20, v, w, w', h, _ => h
  | 21, v, w, w', h, _ => h
  | 22, v, w, w', h, _ => h
  | 23, v, w, w', h, _ => h
  | 24, v, w, w', h, _ => h
  | i + 25, v, w, w', h, hb => trivial
def wbOps : List Op := [.move (.tmp 15),
  .move (.tmp 12),
  .move (.tmp 92),
  .move (.tmp 10),
  .move (.tmp 7),
  .move (.tmp 13),
  .binOp .add 3 (.tmp 95) (.tmp 96) 3,
  .binOp .gtr 3 (.tmp 94) (.tmp 97) 3,
  .pick (.tmp 93) (.tmp 98) (.const (.bool false)),
  .binOp .eql 4 (.tmp 91) (.tmp 99) 4,
  .move (.tmp 100),
  .move (.tmp 15),
  .unOp .not 4 (.tmp 102),
  .move (.tmp 103),
  .load 41 (.tmp 14),
  .move (.tmp 10),
  .call { callee := .value (.func 19), args := #[.const (.int .u8 9)], argTypes := #[5] },
  .build 41 #[(0, .tmp 106), (1, .tmp 107), (2, .const (.int .i64 2))],
  .binOp .eql 41 (.tmp 105) (.tmp 108) 41,
  .pick (.tmp 104) (.const (.bool true)) (.tmp 109),
  .pick (.tmp 101) (.tmp 110) (.const (.bool false)),
  .move (.tmp 111),
  .call { callee := .value (.func 16), args := #[], argTypes := #[] },
  .pick (.tmp 112) (.tmp 113) (.const (.bool false)),
  .assign (.tmp 114)]
def wbNeeds : Nat → List Nat
  | 0 => []
  | 1 => []
  | 2 => [1]
  | 3 => []
  | 4 => []
  | 5 => []
  | 6 => [4, 5]
  | 7 => [3, 6]
  | 8 => [2, 7]
  | 9 => [0, 8]
  | 10 => [9]
  | 11 => []
  | 12 => [11]
  | 13 => [12]
  | 14 => []
  | 15 => []
  | 16 => []
  | 17 => []
  | 18 => []
  | 19 => [13, 18]
  | 20 => [10, 19]
  | 21 => [20]
  | 22 => []
  | 23 => [21, 22]
  | 24 => [23]
  | _ => []
set_option maxRecDepth 100000 in
set_option maxHeartbeats 3200000 in
theorem wb_step {ops : Array Oper} {Q : Exit → Act → World → Prop} {a0 : Act} {w0 : World} (bx : Nat) (n lo up lu : Int) (C D X : List Value) (hops : ((List.range 25).map fun i => (ops[i]?).map Oper.op) = wbOps.map some)
    (hnd : ((List.range 25).all fun i => (wbNeeds i).all fun j => ((ops[i]?).map fun o => o.after.any fun e => Region.binds .any e && (e.on == j)).getD false) = true)
    (x10 : a0.tmps[10]? = some (.int .i64 n)) (x7 : a0.tmps[7]? = some (.int .i64 lo)) (x13 : a0.tmps[13]? = some (.int .i64 up)) (x14 : a0.tmps[14]? = some (.pointer (some ⟨bx, 0, none⟩)))
    (x15 : a0.tmps[15]? = some (.bool false)) (x12 : a0.tmps[12]? = some (.bool true)) (hwl : IntKind.i64.wrap (lo + up) = lu)
    (hgt : ¬ lu < n)
    (hAw : ∀ w, Calls Try.prog 16 #[] w fun e w' => e = .returned (.bool true) ∧ Below w.heap.size w w') :
    ∀ i o, i < 25 → wbS i = false → ops[i]? = some o → o.dst = some (wbD i) → ∀ a w, Base wbD 25 a0 a → Below w0.heap.size w0 w → Region.wanted o (yielded ops a.tmps) = true →
      (∀ j, (o.after.any fun e => Region.binds .any e && (e.on == j)) = true → Has wbD (wbR bx n lo up lu C D X) j a w) →
      ∀ K : Act → World → Prop, (∀ v w', wbR bx n lo up lu C D X i v w' → Below w.heap.size w w' → K (a.put o.dst v) w') → wpOp Try.prog ops Q i K a w := by
  intro i o hi hs ho hds a w hbase hbl hwt hdep0 K hK
  have hop : some o.op = wbOps[i]? := by
    have h1 : ((List.range 25).map fun i => (ops[i]?).map Oper.op)[i]? = some (some o.op) := by
      rw [List.getElem?_map, List.getElem?_range hi]; simp only [Option.map_some, ho]
    rw [hops, List.getElem?_map] at h1
    cases h2 : wbOps[i]? with
    | none => rw [h2] at h1; cases h1
    | some y => rw [h2] at h1; simp only [Option.map_some, Option.some.injEq] at h1; rw [h1]
  have hdep : ∀ j, j ∈ wbNeeds i → Has wbD (wbR bx n lo up lu C D X) j a w := fun j hj => by
    have h1 := List.all_eq_true.1 (List.all_eq_true.1 hnd i (List.mem_range.2 hi)) j hj
    rw [ho] at h1
    exact hdep0 j h1
  clear hdep0 hops hnd
  match i, hi, hs, ho, hop, hds, hdep, hK with
  | 0, _, hs, ho, hop, hds, hdep, hK =>
    have hop : o.op = .move (.tmp 15) := Option.some.inj hop
    have hu15 : a.tmps[15]? = some (.bool false) := (hbase.2.2 15 (by decide)).trans x15
    have e15 : a.eval (.tmp 15) = _ := ev_tmp hu15
    refine st3 ho hwt (v := _) (w' := w) ?_ (hK _ w rfl (Below.refl _ _))
    unfold execOp
    rw [hop, ← e15]
    rfl
  | 1, _, hs, ho, hop, hds, hdep, hK =>
    have hop : o.op = .move (.tmp 12) := Option.some.inj hop
    have hu12 : a.tmps[12]? = some (.bool true) := (hbase.2.2 12 (by decide)).trans x12
    have e12 : a.eval (.tmp 12) = _ := ev_tmp hu12
    refine st3 ho hwt (v := _) (w' := w) ?_ (hK _ w rfl (Below.refl _ _))
    unfold execOp
    rw [hop, ← e12]
    rfl
  | 2, _, hs, ho, hop, hds, hdep, hK =>
    have hop : o.op = .move (.tmp 92) := Option.some.inj hop
    obtain ⟨u92, hu92, hv92⟩ := hdep 1 (by decide)
    have hv92' : u92 = .bool true := hv92
    subst hv92'
    have e92 : a.eval (.tmp 92) = _ := ev_tmp hu92
    refine st3 ho hwt (v := _) (w' := w) ?_ (hK _ w rfl (Below.refl _ _))
    unfold execOp
    rw [hop, ← e92]
    rfl
  | 3, _, hs, ho, hop, hds, hdep, hK =>
    have hop : o.op = .move (.tmp 10) := Option.some.inj hop
    have hu10 : a.tmps[10]? = some (.int .i64 n) := (hbase.2.2 10 (by decide)).trans x10
    have e10 : a.eval (.tmp 10) = _ := ev_tmp hu10
    refine st3 ho hwt (v := _) (w' := w) ?_ (hK _ w rfl (Below.refl _ _))
    unfold execOp
    rw [hop, ← e10]
    rfl
  | 4, _, hs, ho, hop, hds, hdep, hK =>
    have hop : o.op = .move (.tmp 7) := Option.some.inj hop
    have hu7 : a.tmps[7]? = some (.int .i64 lo) := (hbase.2.2 7 (by decide)).trans x7
    have e7 : a.eval (.tmp 7) = _ := ev_tmp hu7
    refine st3 ho hwt (v := _) (w' := w) ?_ (hK _ w rfl (Below.refl _ _))
    unfold execOp
    rw [hop, ← e7]
    rfl
  | 5, _, hs, ho, hop, hds, hdep, hK =>
    have hop : o.op = .move (.tmp 13) := Option.some.inj hop
    have hu13 : a.tmps[13]? = some (.int .i64 up) := (hbase.2.2 13 (by decide)).trans x13
    have e13 : a.eval (.tmp 13) = _ := ev_tmp hu13
    refine st3 ho hwt (v := _) (w' := w) ?_ (hK _ w rfl (Below.refl _ _))
    unfold execOp
    rw [hop, ← e13]
    rfl
  | 6, _, hs, ho, hop, hds, hdep, hK =>
    have hop : o.op = .binOp .add 3 (.tmp 95) (.tmp 96) 3 := Option.some.inj hop
    obtain ⟨u95, hu95, hv95⟩ := hdep 4 (by decide)
    have hv95' : u95 = .int .i64 lo := hv95
    subst hv95'
    have e95 : a.eval (.tmp 95) = _ := ev_tmp hu95
    obtain ⟨u96, hu96, hv96⟩ := hdep 5 (by decide)
    have hv96' : u96 = .int .i64 up := hv96
    subst hv96'
    have e96 : a.eval (.tmp 96) = _ := ev_tmp hu96
    refine st3 ho hwt (v := .int .i64 lu) (w' := w) ?_ (hK _ w rfl (Below.refl _ _))
    have hq := hwl
    unfold execOp
    simp only [hop, Option.map_some, Option.map_none, e95, e96]
    first | rfl | (go_simp; done) | (go_simp; simp; done) | (go_simp; intro h; omega)
  | 7, _, hs, ho, hop, hds, hdep, hK =>
    have hop : o.op = .binOp .gtr 3 (.tmp 94) (.tmp 97) 3 := Option.some.inj hop
    obtain ⟨u94, hu94, hv94⟩ := hdep 3 (by decide)
    have hv94' : u94 = .int .i64 n := hv94
    subst hv94'
    have e94 : a.eval (.tmp 94) = _ := ev_tmp hu94
    obtain ⟨u97, hu97, hv97⟩ := hdep 6 (by decide)
    have hv97' : u97 = .int .i64 lu := hv97
    subst hv97'
    have e97 : a.eval (.tmp 97) = _ := ev_tmp hu97
    refine st3 ho hwt (v := .bool false) (w' := w) ?_ (hK _ w rfl (Below.refl _ _))
    have hq := hgt
    unfold execOp
    simp only [hop, Option.map_some, Option.map_none, e94, e97]
    first | rfl | (go_simp; done) | (go_simp; simp; done) | (go_simp; intro h; omega)
  | 8, _, hs, ho, hop, hds, hdep, hK =>
    have hop : o.op = .pick (.tmp 93) (.tmp 98) (.const (.bool false)) := Option.some.inj hop
    obtain ⟨u93, hu93, hv93⟩ := hdep 2 (by decide)
    have hv93' : u93 = .bool true := hv93
    subst hv93'
    have e93 : a.eval (.tmp 93) = _ := ev_tmp hu93
    obtain ⟨u98, hu98, hv98⟩ := hdep 7 (by decide)
    have hv98' : u98 = .bool false := hv98
    subst hv98'
    have e98 : a.eval (.tmp 98) = _ := ev_tmp hu98
    refine st3 ho hwt (v := .bool false) (w' := w) ?_ (hK _ w rfl (Below.refl _ _))
    unfold execOp
    simp only [hop, e93, e98]
    first | rfl | (go_simp; done) | (go_simp; simp; done) | (go_simp; intro h; omega)
  | 9, _, hs, ho, hop, hds, hdep, hK =>
    have hop : o.op = .binOp .eql 4 (.tmp 91) (.tmp 99) 4 := Option.some.inj hop
    obtain ⟨u91, hu91, hv91⟩ := hdep 0 (by decide)
    have hv91' : u91 = .bool false := hv91
    subst hv91'
    have e91 : a.eval (.tmp 91) = _ := ev_tmp hu91
    obtain ⟨u99, hu99, hv99⟩ := hdep 8 (by decide)
    have hv99' : u99 = .bool false := hv99
    subst hv99'
    have e99 : a.eval (.tmp 99) = _ := ev_tmp hu99
    refine st3 ho hwt (v := .bool true) (w' := w) ?_ (hK _ w rfl (Below.refl _ _))
    unfold execOp
    simp only [hop, e91, e99]
    first | rfl | (go_simp; done) | (go_simp; simp; done) | (go_simp; intro h; omega)
  | 10, _, hs, ho, hop, hds, hdep, hK =>
    have hop : o.op = .move (.tmp 100) := Option.some.inj hop
    obtain ⟨u100, hu100, hv100⟩ := hdep 9 (by decide)
    have hv100' : u100 = .bool true := hv100
    subst hv100'
    have e100 : a.eval (.tmp 100) = _ := ev_tmp hu100
    refine st3 ho hwt (v := _) (w' := w) ?_ (hK _ w rfl (Below.refl _ _))
    unfold execOp
    rw [hop, ← e100]
    rfl
  | 11, _, hs, ho, hop, hds, hdep, hK =>
    have hop : o.op = .move (.tmp 15) := Option.some.inj hop
    have hu15 : a.tmps[15]? = some (.bool false) := (hbase.2.2 15 (by decide)).trans x15
    have e15 : a.eval (.tmp 15) = _ := ev_tmp hu15
    refine st3 ho hwt (v := _) (w' := w) ?_ (hK _ w rfl (Below.refl _ _))
    unfold execOp
    rw [hop, ← e15]
    rfl
  | 12, _, hs, ho, hop, hds, hdep, hK =>
    have hop : o.op = .unOp .not 4 (.tmp 102) := Option.some.inj hop
    obtain ⟨u102, hu102, hv102⟩ := hdep 11 (by decide)
    have hv102' : u102 = .bool false := hv102
    subst hv102'
    have e102 : a.eval (.tmp 102) = _ := ev_tmp hu102
    refine st3 ho hwt (v := .bool true) (w' := w) ?_ (hK _ w rfl (Below.refl _ _))
    unfold execOp
    simp only [hop, e102]
    first | rfl | (go_simp; done) | (go_simp; simp; done) | (go_simp; intro h; omega)
  | 13, _, hs, ho, hop, hds, hdep, hK =>
    have hop : o.op = .move (.tmp 103) := Option.some.inj hop
    obtain ⟨u103, hu103, hv103⟩ := hdep 12 (by decide)
    have hv103' : u103 = .bool true := hv103
    subst hv103'
    have e103 : a.eval (.tmp 103) = _ := ev_tmp hu103
    refine st3 ho hwt (v := _) (w' := w) ?_ (hK _ w rfl (Below.refl _ _))
    unfold execOp
    rw [hop, ← e103]
    rfl
  | 14, _, hs, ho, hop, hds, hdep, hK =>
    exact absurd hs (by decide)
  | 15, _, hs, ho, hop, hds, hdep, hK =>
    exact absurd hs (by decide)
  | 16, _, hs, ho, hop, hds, hdep, hK =>
    exact absurd hs (by decide)
  | 17, _, hs, ho, hop, hds, hdep, hK =>
    exact absurd hs (by decide)
  | 18, _, hs, ho, hop, hds, hdep, hK =>
    exact absurd hs (by decide)
  | 19, _, hs, ho, hop, hds, hdep, hK =>
    have hop : o.op = .pick (.tmp 104) (.const (.bool true)) (.tmp 109) := Option.some.inj hop
    obtain ⟨u104, hu104, hv104⟩ := hdep 13 (by decide)
    have hv104' : u104 = .bool true := hv104
    subst hv104'
    have e104 : a.eval (.tmp 104) = _ := ev_tmp hu104
    obtain ⟨u109, hu109, hv109⟩ := hdep 18 (by decide)
    have hv109' : u109 = undef := hv109
    subst hv109'
    have e109 : a.eval (.tmp 109) = _ := ev_tmp hu109
    refine st3 ho hwt (v := .bool true) (w' := w) ?_ (hK _ w rfl (Below.refl _ _))
    unfold execOp
    simp only [hop, e104, e109]
    first | rfl | (go_simp; done) | (go_simp; simp; done) | (go_simp; intro h; omega)
  | 20, _, hs, ho, hop, hds, hdep, hK =>
    have hop : o.op = .pick (.tmp 101) (.tmp 110) (.const (.bool false)) := Option.some.inj hop
    obtain ⟨u101, hu101, hv101⟩ := hdep 10 (by decide)
    have hv101' : u101 = .bool true := hv101
    subst hv101'
    have e101 : a.eval (.tmp 101) = _ := ev_tmp hu101
    obtain ⟨u110, hu110, hv110⟩ := hdep 19 (by decide)
    have hv110' : u110 = .bool true := hv110
    subst hv110'
    have e110 : a.eval (.tmp 110) = _ := ev_tmp hu110
    refine st3 ho hwt (v := .bool true) (w' := w) ?_ (hK _ w rfl (Below.refl _ _))
    unfold execOp
    simp only [hop, e101, e110]
    first | rfl | (go_simp; done) | (go_simp; simp; done) | (go_simp; intro h; omega)
  | 21, _, hs, ho, hop, hds, hdep, hK =>
    have hop : o.op = .move (.tmp 111) := Option.some.inj hop
    obtain ⟨u111, hu111, hv111⟩ := hdep 20 (by decide)
    have hv111' : u111 = .bool true := hv111
    subst hv111'
    have e111 : a.eval (.tmp 111) = _ := ev_tmp hu111
    refine st3 ho hwt (v := _) (w' := w) ?_ (hK _ w rfl (Below.refl _ _))
    unfold execOp
    rw [hop, ← e111]
    rfl
  | 22, _, hs, ho, hop, hds, hdep, hK =>
    have hop : o.op = .call { callee := .value (.func 16), args := #[], argTypes := #[] } := Option.some.inj hop
    refine st3_call ho hwt (f := 16) (vals := #[]) (Z := fun v w' => v = .bool true ∧ Below w.heap.size w w') ?_ ?_ ?_
    · unfold execOp
      simp only [hop, resolve, invoke, Sem.run_bind, Sem.run_pure, Result.andThen_ok, List.map_toArray, List.map_cons, List.map_nil]
      first | rfl | exact enters_of Try.func16 (by kernel_rfl) rfl _ _
    · exact (hAw w).mono fun e w' ⟨he, h2⟩ => ⟨_, he, rfl, h2⟩
    · rintro v w' ⟨h1, h2⟩
      exact hK v w' h1 h2
  | 23, _, hs, ho, hop, hds, hdep, hK =>
    have hop : o.op = .pick (.tmp 112) (.tmp 113) (.const (.bool false)) := Option.some.inj hop
    obtain ⟨u112, hu112, hv112⟩ := hdep 21 (by decide)
    have hv112' : u112 = .bool true := hv112
    subst hv112'
    have e112 : a.eval (.tmp 112) = _ := ev_tmp hu112
    obtain ⟨u113, hu113, hv113⟩ := hdep 22 (by decide)
    have hv113' : u113 = .bool true := hv113
    subst hv113'
    have e113 : a.eval (.tmp 113) = _ := ev_tmp hu113
    refine st3 ho hwt (v := .bool true) (w' := w) ?_ (hK _ w rfl (Below.refl _ _))
    unfold execOp
    simp only [hop, e112, e113]
    first | rfl | (go_simp; done) | (go_simp; simp; done) | (go_simp; intro h; omega)
  | 24, _, hs, ho, hop, hds, hdep, hK =>
    have hop : o.op = .assign (.tmp 114) := Option.some.inj hop
    obtain ⟨u114, hu114, hv114⟩ := hdep 23 (by decide)
    have hv114' : u114 = .bool true := hv114
    subst hv114'
    have e114 : a.eval (.tmp 114) = _ := ev_tmp hu114
    refine st3 ho hwt (v := _) (w' := w) ?_ (hK _ w rfl (Below.refl _ _))
    unfold execOp
    rw [hop, ← e114]
    rfl
  | i + 25, hi, _, _, _, _, _, _ => exact absurd hi (by omega)
def wcR (bx : Nat) (n lo up lu : Int) (C D X : List Value) : Nat → Value → World → Prop
  | 0 => fun v w => v = .bool false
  | 1 => fun v w => v = .bool false
  | 2 => fun v w => v = .bool false
  | 3 => fun v w => v = undef
  | 4 => fun v w => v = undef
  | 5 => fun v w => v = undef
  | 6 => fun v w => v = undef
  | 7 => fun v w => v = undef
  | 8 => fun v w => v = .bool false
  | 9 => fun v w => v = .bool true
  | 10 => fun v w => v = .bool true
  | 11 => fun v w => v = .bool false
  | 12 => fun v w => v = .bool true
  | 13 => fun v w => v = .bool true
  | 14 => fun v w => v = undef
  | 15 => fun v w => v = undef
  | 16 => fun v w => v = undef
  | 17 => fun v w => v = undef
  | 18 => fun v w => v = undef
  | 19 => fun v w => v = .bool true
  | 20 => fun v w => v = .bool true
  | 21 => fun v w => v = .bool true
  | 22 => fun v w => v = .bool true
  | 23 => fun v w => v = .bool true
  | 24 => fun v w => v = .bool true
  | _ => fun _ _ => True
def wcD (i : Nat) : Nat := ([91, 92, 93, 94, 95, 96, 97, 98, 99, 100, 101, 102, 103, 104, 105, 106, 107, 108, 109, 110, 111, 112, 113, 114, 6] : List Nat).getD i 0
def wcG : Nat → Option Bool
  | 2 => some false
  | 10 => some true
  | 13 => some true
  | 21 => some true
  | _ => none
def wcS (i : Nat) : Bool := ([3, 4, 5, 6, 7, 14, 15, 16, 17, 18] : List Nat).contains i
theorem wc_gb (bx : Nat) (n lo up lu : Int) (C D X : List Value) : ∀ i b v w, wcG i = some b → wcR bx n lo up lu C D X i v w → v = .bool b := by
  intro i b v w h hR
  unfold wcG at h
  split at h
  all_goals first | (injection h with h; subst h; exact hR) | cases h
theorem wc_sk (bx : Nat) (n lo up lu : Int) (C D X : List Value) : ∀ i w, wcS i = true → wcR bx n lo up lu C D X i undef w := by
  intro i w h
  have hm : i ∈ ([3, 4, 5, 6, 7, 14, 15, 16, 17, 18] : List Nat) := by simpa [wcS] using h
  simp only [List.mem_cons, List.not_mem_nil, or_false] at hm
  rcases hm with rfl | rfl | rfl | rfl | rfl | rfl | rfl | rfl | rfl | rfl
  all_goals rfl
theorem wc_on (bx : Nat) (n lo up lu : Int) (C D X : List Value) : ∀ i v w w', wcR bx n lo up lu C D X i v w → Below w.heap.size w w' → wcR bx n lo up lu C D X i v w'
  | 0, v, w, w', h, _ => h
  | 1, v, w, w', h, _ => h
  | 2, v, w, w', h, _ => h
  | 3, v, w, w', h, _ => h
  | 4, v, w, w', h, _ => h
  | 5, v, w, w', h, _ => h
  | 6, v, w, w', h, _ => h
  | 7, v, w, w', h, _ => h
  | 8, v, w, w', h, _ => h
  | 9, v, w, w', h, _ => h
  | 10, v, w, w', h, _ => h
  | 11, v, w, w', h, _ => h
  | 12, v, w, w', h, _ => h
  | 13, v, w, w', h, _ => h
  | 14, v, w, w', h, _ => h
  | 15, v, w, w', h, _ => h
  | 16, v, w, w', h, _ => h
  | 17, v, w, w', h, _ => h
  | 18, v, w, w', h, _ => h
  | 19, v, w, w', h, _ => h
  | 20, v, w, w', h, _ => h
  | 21, v, w, w', h, _ => h
  | 22, v, w, w', h, _ => h
  | 23, v, w, w', h, _ => h
  | 24, v, w, w', h, _ => h
  | i + 25, v, w, w', h, hb => trivial
def wcOps : List Op := [.move (.tmp 15),
  .move (.tmp 12),
  .move (.tmp 92),
  .move (.tmp 10),
  .move (.tmp 7),
  .move (.tmp 13),
  .binOp .add 3 (.tmp 95) (.tmp 96) 3,
  .binOp .gtr 3 (.tmp 94) (.tmp 97) 3,
  .pick (.tmp 93) (.tmp 98) (.const (.bool false)),
  .binOp .eql 4 (.tmp 91) (.tmp 99) 4,
  .move (.tmp 100),
  .move (.tmp 15),
  .unOp .not 4 (.tmp 102),
  .move (.tmp 103),
  .load 41 (.tmp 14),
  .move (.tmp 10),
  .call { callee := .value (.func 19), args := #[.const (.int .u8 9)], argTypes := #[5] },
  .build 41 #[(0, .tmp 106), (1, .tmp 107), (2, .const (.int .i64 2))],
  .binOp .eql 41 (.tmp 105) (.tmp 108) 41,
  .pick (.tmp 104) (.const (.bool true)) (.tmp 109),
  .pick (.tmp 101) (.tmp 110) (.const (.bool false)),
  .move (.tmp 111),
  .call { callee := .value (.func 16), args := #[], argTypes := #[] },
  .pick (.tmp 112) (.tmp 113) (.const (.bool false)),
  .assign (.tmp 114)]
def wcNeeds : Nat → List Nat
  | 0 => []
  | 1 => []
  | 2 => [1]
  | 3 => []
  | 4 => []
  | 5 => []
  | 6 => []
  | 7 => []
  | 8 => [2, 7]
  | 9 => [0, 8]
  | 10 => [9]
  | 11 => []
  | 12 => [11]
  | 13 => [12]
  | 14 => []
  | 15 => []
  | 16 => []
  | 17 => []
  | 18 => []
  | 19 => [13, 18]
  | 20 => [10, 19]
  | 21 => [20]
  | 22 => []
  | 23 => [21, 22]
  | 24 => [23]
  | _ => []
set_option maxRecDepth 100000 in
set_option maxHeartbeats 3200000 in
theorem wc_step {ops : Array Oper} {Q : Exit → Act → World → Prop} {a0 : Act} {w0 : World} (bx : Nat) (n lo up lu : Int) (C D X : List Value) (hops : ((List.range 25).map fun i => (ops[i]?).map Oper.op) = wcOps.map some)
    (hnd : ((List.range 25).all fun i => (wcNeeds i).all fun j => ((ops[i]?).map fun o => o.after.any fun e => Region.binds .any e && (e.on == j)).getD false) = true)
    (x10 : a0.tmps[10]? = some (.int .i64 n)) (x7 : a0.tmps[7]? = some (.int .i64 lo)) (x13 : a0.tmps[13]? = some (.int .i64 up)) (x14 : a0.tmps[14]? = some (.pointer (some ⟨bx, 0, none⟩)))
    (x15 : a0.tmps[15]? = some (.bool false)) (x12 : a0.tmps[12]? = some (.bool false)) (hwl : IntKind.i64.wrap (lo + up) = lu)
    (hAw : ∀ w, Calls Try.prog 16 #[] w fun e w' => e = .returned (.bool true) ∧ Below w.heap.size w w') :
    ∀ i o, i < 25 → wcS i = false → ops[i]? = some o → o.dst = some (wcD i) → ∀ a w, Base wcD 25 a0 a → Below w0.heap.size w0 w → Region.wanted o (yielded ops a.tmps) = true →
      (∀ j, (o.after.any fun e => Region.binds .any e && (e.on == j)) = true → Has wcD (wcR bx n lo up lu C D X) j a w) →
      ∀ K : Act → World → Prop, (∀ v w', wcR bx n lo up lu C D X i v w' → Below w.heap.size w w' → K (a.put o.dst v) w') → wpOp Try.prog ops Q i K a w := by
  intro i o hi hs ho hds a w hbase hbl hwt hdep0 K hK
  have hop : some o.op = wcOps[i]? := by
    have h1 : ((List.range 25).map fun i => (ops[i]?).map Oper.op)[i]? = some (some o.op) := by
      rw [List.getElem?_map, List.getElem?_range hi]; simp only [Option.map_some, ho]
    rw [hops, List.getElem?_map] at h1
    cases h2 : wcOps[i]? with
    | none => rw [h2] at h1; cases h1
    | some y => rw [h2] at h1; simp only [Option.map_some, Option.some.injEq] at h1; rw [h1]
  have hdep : ∀ j, j ∈ wcNeeds i → Has wcD (wcR bx n lo up lu C D X) j a w := fun j hj => by
    have h1 := List.all_eq_true.1 (List.all_eq_true.1 hnd i (List.mem_range.2 hi)) j hj
    rw [ho] at h1
    exact hdep0 j h1
  clear hdep0 hops hnd
  match i, hi, hs, ho, hop, hds, hdep, hK with
  | 0, _, hs, ho, hop, hds, hdep, hK =>
    have hop : o.op = .move (.tmp 15) := Option.some.inj hop
    have hu15 : a.tmps[15]? = some (.bool false) := (hbase.2.2 15 (by decide)).trans x15
    have e15 : a.eval (.tmp 15) = _ := ev_tmp hu15
    refine st3 ho hwt (v := _) (w' := w) ?_ (hK _ w rfl (Below.refl _ _))
    unfold execOp
    rw [hop, ← e15]
    rfl
  | 1, _, hs, ho, hop, hds, hdep, hK =>
    have hop : o.op = .move (.tmp 12) := Option.some.inj hop
    have hu12 : a.tmps[12]? = some (.bool false) := (hbase.2.2 12 (by decide)).trans x12
    have e12 : a.eval (.tmp 12) = _ := ev_tmp hu12
    refine st3 ho hwt (v := _) (w' := w) ?_ (hK _ w rfl (Below.refl _ _))
    unfold execOp
    rw [hop, ← e12]
    rfl
  | 2, _, hs, ho, hop, hds, hdep, hK =>
    have hop : o.op = .move (.tmp 92) := Option.some.inj hop
    obtain ⟨u92, hu92, hv92⟩ := hdep 1 (by decide)
    have hv92' : u92 = .bool false := hv92
    subst hv92'
    have e92 : a.eval (.tmp 92) = _ := ev_tmp hu92
    refine st3 ho hwt (v := _) (w' := w) ?_ (hK _ w rfl (Below.refl _ _))
    unfold execOp
    rw [hop, ← e92]
    rfl
  | 3, _, hs, ho, hop, hds, hdep, hK =>
    exact absurd hs (by decide)
  | 4, _, hs, ho, hop, hds, hdep, hK =>
    exact absurd hs (by decide)
  | 5, _, hs, ho, hop, hds, hdep, hK =>
    exact absurd hs (by decide)
  | 6, _, hs, ho, hop, hds, hdep, hK =>
    exact absurd hs (by decide)
  | 7, _, hs, ho, hop, hds, hdep, hK =>
    exact absurd hs (by decide)
  | 8, _, hs, ho, hop, hds, hdep, hK =>
    have hop : o.op = .pick (.tmp 93) (.tmp 98) (.const (.bool false)) := Option.some.inj hop
    obtain ⟨u93, hu93, hv93⟩ := hdep 2 (by decide)
    have hv93' : u93 = .bool false := hv93
    subst hv93'
    have e93 : a.eval (.tmp 93) = _ := ev_tmp hu93
    obtain ⟨u98, hu98, hv98⟩ := hdep 7 (by decide)
    have hv98' : u98 = undef := hv98
    subst hv98'
    have e98 : a.eval (.tmp 98) = _ := ev_tmp hu98
    refine st3 ho hwt (v := .bool false) (w' := w) ?_ (hK _ w rfl (Below.refl _ _))
    unfold execOp
    simp only [hop, e93, e98]
    first | rfl | (go_simp; done) | (go_simp; simp; done) | (go_simp; intro h; omega)
  | 9, _, hs, ho, hop, hds, hdep, hK =>
    have hop : o.op = .binOp .eql 4 (.tmp 91) (.tmp 99) 4 := Option.some.inj hop
    obtain ⟨u91, hu91, hv91⟩ := hdep 0 (by decide)
    have hv91' : u91 = .bool false := hv91
    subst hv91'
    have e91 : a.eval (.tmp 91) = _ := ev_tmp hu91
    obtain ⟨u99, hu99, hv99⟩ := hdep 8 (by decide)
    have hv99' : u99 = .bool false := hv99
    subst hv99'
    have e99 : a.eval (.tmp 99) = _ := ev_tmp hu99
    refine st3 ho hwt (v := .bool true) (w' := w) ?_ (hK _ w rfl (Below.refl _ _))
    unfold execOp
    simp only [hop, e91, e99]
    first | rfl | (go_simp; done) | (go_simp; simp; done) | (go_simp; intro h; omega)
  | 10, _, hs, ho, hop, hds, hdep, hK =>
    have hop : o.op = .move (.tmp 100) := Option.some.inj hop
    obtain ⟨u100, hu100, hv100⟩ := hdep 9 (by decide)
    have hv100' : u100 = .bool true := hv100
    subst hv100'
    have e100 : a.eval (.tmp 100) = _ := ev_tmp hu100
    refine st3 ho hwt (v := _) (w' := w) ?_ (hK _ w rfl (Below.refl _ _))
    unfold execOp
    rw [hop, ← e100]
    rfl
  | 11, _, hs, ho, hop, hds, hdep, hK =>
    have hop : o.op = .move (.tmp 15) := Option.some.inj hop
    have hu15 : a.tmps[15]? = some (.bool false) := (hbase.2.2 15 (by decide)).trans x15
    have e15 : a.eval (.tmp 15) = _ := ev_tmp hu15
    refine st3 ho hwt (v := _) (w' := w) ?_ (hK _ w rfl (Below.refl _ _))
    unfold execOp
    rw [hop, ← e15]
    rfl
  | 12, _, hs, ho, hop, hds, hdep, hK =>
    have hop : o.op = .unOp .not 4 (.tmp 102) := Option.some.inj hop
    obtain ⟨u102, hu102, hv102⟩ := hdep 11 (by decide)
    have hv102' : u102 = .bool false := hv102
    subst hv102'
    have e102 : a.eval (.tmp 102) = _ := ev_tmp hu102
    refine st3 ho hwt (v := .bool true) (w' := w) ?_ (hK _ w rfl (Below.refl _ _))
    unfold execOp
    simp only [hop, e102]
    first | rfl | (go_simp; done) | (go_simp; simp; done) | (go_simp; intro h; omega)
  | 13, _, hs, ho, hop, hds, hdep, hK =>
    have hop : o.op = .move (.tmp 103) := Option.some.inj hop
    obtain ⟨u103, hu103, hv103⟩ := hdep 12 (by decide)
    have hv103' : u103 = .bool true := hv103
    subst hv103'
    have e103 : a.eval (.tmp 103) = _ := ev_tmp hu103
    refine st3 ho hwt (v := _) (w' := w) ?_ (hK _ w rfl (Below.refl _ _))
    unfold execOp
    rw [hop, ← e103]
    rfl
  | 14, _, hs, ho, hop, hds, hdep, hK =>
    exact absurd hs (by decide)
  | 15, _, hs, ho, hop, hds, hdep, hK =>
    exact absurd hs (by decide)
  | 16, _, hs, ho, hop, hds, hdep, hK =>
    exact absurd hs (by decide)
  | 17, _, hs, ho, hop, hds, hdep, hK =>
    exact absurd hs (by decide)
  | 18, _, hs, ho, hop, hds, hdep, hK =>
    exact absurd hs (by decide)
  | 19, _, hs, ho, hop, hds, hdep, hK =>
    have hop : o.op = .pick (.tmp 104) (.const (.bool true)) (.tmp 109) := Option.some.inj hop
    obtain ⟨u104, hu104, hv104⟩ := hdep 13 (by decide)
    have hv104' : u104 = .bool true := hv104
    subst hv104'
    have e104 : a.eval (.tmp 104) = _ := ev_tmp hu104
    obtain ⟨u109, hu109, hv109⟩ := hdep 18 (by decide)
    have hv109' : u109 = undef := hv109
    subst hv109'
    have e109 : a.eval (.tmp 109) = _ := ev_tmp hu109
    refine st3 ho hwt (v := .bool true) (w' := w) ?_ (hK _ w rfl (Below.refl _ _))
    unfold execOp
    simp only [hop, e104, e109]
    first | rfl | (go_simp; done) | (go_simp; simp; done) | (go_simp; intro h; omega)
  | 20, _, hs, ho, hop, hds, hdep, hK =>
    have hop : o.op = .pick (.tmp 101) (.tmp 110) (.const (.bool false)) := Option.some.inj hop
    obtain ⟨u101, hu101, hv101⟩ := hdep 10 (by decide)
    have hv101' : u101 = .bool true := hv101
    subst hv101'
    have e101 : a.eval (.tmp 101) = _ := ev_tmp hu101
    obtain ⟨u110, hu110, hv110⟩ := hdep 19 (by decide)
    have hv110' : u110 = .bool true := hv110
    subst hv110'
    have e110 : a.eval (.tmp 110) = _ := ev_tmp hu110
    refine st3 ho hwt (v := .bool true) (w' := w) ?_ (hK _ w rfl (Below.refl _ _))
    unfold execOp
    simp only [hop, e101, e110]
    first | rfl | (go_simp; done) | (go_simp; simp; done) | (go_simp; intro h; omega)
  | 21, _, hs, ho, hop, hds, hdep, hK =>
    have hop : o.op = .move (.tmp 111) := Option.some.inj hop
    obtain ⟨u111, hu111, hv111⟩ := hdep 20 (by decide)
    have hv111' : u111 = .bool true := hv111
    subst hv111'
    have e111 : a.eval (.tmp 111) = _ := ev_tmp hu111
    refine st3 ho hwt (v := _) (w' := w) ?_ (hK _ w rfl (Below.refl _ _))
    unfold execOp
    rw [hop, ← e111]
    rfl
  | 22, _, hs, ho, hop, hds, hdep, hK =>
    have hop : o.op = .call { callee := .value (.func 16), args := #[], argTypes := #[] } := Option.some.inj hop
    refine st3_call ho hwt (f := 16) (vals := #[]) (Z := fun v w' => v = .bool true ∧ Below w.heap.size w w') ?_ ?_ ?_
    · unfold execOp
      simp only [hop, resolve, invoke, Sem.run_bind, Sem.run_pure, Result.andThen_ok, List.map_toArray, List.map_cons, List.map_nil]
      first | rfl | exact enters_of Try.func16 (by kernel_rfl) rfl _ _
    · exact (hAw w).mono fun e w' ⟨he, h2⟩ => ⟨_, he, rfl, h2⟩
    · rintro v w' ⟨h1, h2⟩
      exact hK v w' h1 h2
  | 23, _, hs, ho, hop, hds, hdep, hK =>
    have hop : o.op = .pick (.tmp 112) (.tmp 113) (.const (.bool false)) := Option.some.inj hop
    obtain ⟨u112, hu112, hv112⟩ := hdep 21 (by decide)
    have hv112' : u112 = .bool true := hv112
    subst hv112'
    have e112 : a.eval (.tmp 112) = _ := ev_tmp hu112
    obtain ⟨u113, hu113, hv113⟩ := hdep 22 (by decide)
    have hv113' : u113 = .bool true := hv113
    subst hv113'
    have e113 : a.eval (.tmp 113) = _ := ev_tmp hu113
    refine st3 ho hwt (v := .bool true) (w' := w) ?_ (hK _ w rfl (Below.refl _ _))
    unfold execOp
    simp only [hop, e112, e113]
    first | rfl | (go_simp; done) | (go_simp; simp; done) | (go_simp; intro h; omega)
  | 24, _, hs, ho, hop, hds, hdep, hK =>
    have hop : o.op = .assign (.tmp 114) := Option.some.inj hop
    obtain ⟨u114, hu114, hv114⟩ := hdep 23 (by decide)
    have hv114' : u114 = .bool true := hv114
    subst hv114'
    have e114 : a.eval (.tmp 114) = _ := ev_tmp hu114
    refine st3 ho hwt (v := _) (w' := w) ?_ (hK _ w rfl (Below.refl _ _))
    unfold execOp
    rw [hop, ← e114]
    rfl
  | i + 25, hi, _, _, _, _, _, _ => exact absurd hi (by omega)
set_option maxRecDepth 100000 in
set_option maxHeartbeats 64000000 in
theorem walk (x : Int) (y : Int) (z : Int) (w : World) (hx : (Lit.int .i64 x).wf = true) (hy : (Lit.int .i64 y).wf = true) (hz : (Lit.int .i64 z).wf = true) :
    Calls Try.prog 6 #[.int .i64 x, .int .i64 y, .int .i64 z] w fun e w' => e = .returned (.bool true) ∧ Below w.heap.size w w' := by
  obtain ⟨lo, hlo⟩ : ∃ lo, x % 1099511627776 = lo := ⟨_, rfl⟩
  obtain ⟨b, hb⟩ : ∃ b, y % 20 = b := ⟨_, rfl⟩
  obtain ⟨up, hup⟩ : ∃ up, z % 12 = up := ⟨_, rfl⟩
  have l0 : 0 ≤ lo := by omega
  have l1 : lo < 1099511627776 := by omega
  have b0 : 0 ≤ b := by omega
  have b1 : b < 20 := by omega
  have u0 : 0 ≤ up := by omega
  have u1 : up < 12 := by omega
  have hBx : Hid (∀ w, Calls Try.prog 17 #[.int .i64 x, .int .i64 1099511627776] w fun e w' => e = .returned (.int .i64 lo) ∧ w' = w) := Lib.hid fun w => by have := bring_w x 1099511627776 w (by omega) (by omega) hx; rw [hlo] at this; exact this
  have hBy : Hid (∀ w, Calls Try.prog 17 #[.int .i64 y, .int .i64 20] w fun e w' => e = .returned (.int .i64 b) ∧ w' = w) := Lib.hid fun w => by have := bring_w y 20 w (by omega) (by omega) hy; rw [hb] at this; exact this
  have hBz : Hid (∀ w, Calls Try.prog 17 #[.int .i64 z, .int .i64 12] w fun e w' => e = .returned (.int .i64 up) ∧ w' = w) := Lib.hid fun w => by have := bring_w z 12 w (by omega) (by omega) hz; rw [hup] at this; exact this
  clear hlo hb hup hx hy hz
  obtain ⟨k5, hk5⟩ : ∃ k, lo - 5 = k := ⟨_, rfl⟩
  obtain ⟨n, hn⟩ : ∃ k, k5 + b = k := ⟨_, rfl⟩
  obtain ⟨l8, hl8⟩ : ∃ k, lo + 8 = k := ⟨_, rfl⟩
  obtain ⟨lu, hlu⟩ : ∃ k, lo + up = k := ⟨_, rfl⟩
  obtain ⟨lm, hlm⟩ : ∃ k, lu - 1 = k := ⟨_, rfl⟩
  have v1 : IntKind.i64.wrap (lo - 5) = k5 := (IntWalk.i64_in _ (by omega)).trans hk5
  have v2 : IntKind.i64.wrap (k5 + b) = n := (IntWalk.i64_in _ (by omega)).trans hn
  have v3 : IntKind.i64.wrap (lo + 8) = l8 := (IntWalk.i64_in _ (by omega)).trans hl8
  have v4 : IntKind.i64.wrap (lo + up) = lu := (IntWalk.i64_in _ (by omega)).trans hlu
  have v5 : IntKind.i64.wrap (lu - 1) = lm := (IntWalk.i64_in _ (by omega)).trans hlm
  obtain ⟨d, hd⟩ : ∃ d, dg 9 = d := ⟨_, rfl⟩
  have hdl : d.length = 32 := by rw [← hd]; rfl
  obtain ⟨D, hD⟩ : ∃ D, cbs d = D := ⟨_, rfl⟩
  have hDg : Hid (∀ w, Calls Try.prog 19 #[.int .u8 9] w fun e w' => e = .returned (.agg D.toArray) ∧ Below w.heap.size w w') := Lib.hid fun w => by have := digest_any 9 w; rw [hd, hD] at this; exact this
  have hcw : Hid (∀ w, Calls Try.prog 23 #[.int .i64 1] w fun e w' => ∃ A cap, e = .returned (.agg #[.int .i64 1, .slice A 4 cap]) ∧ RowK w' 3 1 A 4 cap (cis (ndL 4)) ∧ Below w.heap.size w w') := Lib.hid fun w => crewOf_any 1 (by omega) w
  have hwfn : Wf n := wf_b (by omega) (by omega)
  have hwfl : Wf lo := wf_b (by omega) (by omega)
  have hNew : Hid (∀ (W : World) (A : Option Addr) (cap : Nat), RowK W 3 1 A 4 cap (cis (ndL 4)) → Calls Try.prog 22 #[.agg #[.int .i64 1, .slice A 4 cap], .int .i64 1, .int .i64 lo] W (NewR W 0 1 (ndL 4) lo)) := Lib.hid fun W A cap hR => by
    have := new_any (f := 1) (row_arg hR (ndL_len 4) (fun q hq => wf_b (by have : ∀ q ∈ ndL 4, (1 : Int) ≤ q ∧ q ≤ 4 := by decide +kernel
                                                                           have := this q hq; omega) (by have : ∀ q ∈ ndL 4, (1 : Int) ≤ q ∧ q ≤ 4 := by decide +kernel
                                                                                                         have := this q hq; omega))) 1 lo hwfl
    rw [win_new l0 l1] at this
    exact this
  obtain ⟨σ1, hσ1⟩ : ∃ σ, propS (wn lo) 2 n d = σ := ⟨_, rfl⟩
  obtain ⟨σ2, hσ2⟩ : ∃ σ, raiseS σ1 lu = σ := ⟨_, rfl⟩
  have hr1 : raiseE σ1 lu = 0 := by rw [← hσ1, ← hlu]; exact win_raise l0 l1 u0 u1
  have hl2 : σ2.low = lu := by rw [← hσ2, ← hσ1, ← hlu]; exact win_low2 l0 l1 u0 u1
  have hr2 : raiseE σ2 lm = 9 := by rw [← hσ2, ← hσ1, ← hlm, ← hlu]; exact win_back l0 l1 u0 u1
  have HR := Lib.hid (And.intro hr1 (And.intro hl2 (And.intro hr2 (And.intro hwfn (raise_9 (σ := σ2) (lo := lm) (by rw [hr2]; omega))))))
  clear hr1 hl2 hr2
  have hcases : (lo < n ∧ n ≤ l8 ∧ lu < n) ∨ (lo < n ∧ n ≤ l8 ∧ ¬ lu < n) ∨ ¬ lo < n ∨ (lo < n ∧ ¬ n ≤ l8) := by omega
  rcases hcases with ⟨g1, g2, g3⟩ | ⟨g1, g2, g3⟩ | g1 | ⟨g1, g2⟩
  · skip
    have hE : propE (wn lo) 2 n d = 0 := win_in g1 (by omega)
    have hat : atS σ2 n = some ⟨n, d, 2⟩ := by rw [← hσ2, ← hσ1, ← hlu]; exact win_at l0 l1 u0 u1 (by omega) (by omega)
    have hCl : (sdC ⟨n, d, 2⟩).length = 34 := sdC_len (x := ⟨n, d, 2⟩) hdl
    have hone := sdC_one (⟨n, d, 2⟩ : Sd)
    have hav : atV (atS σ2 n) = .tuple #[.agg (sdC ⟨n, d, 2⟩).toArray, .bool true] := by rw [hat]; rfl
    have hbC : Try.prog.built 41 [(0, .int .i64 n), (1, .agg D.toArray), (2, .int .i64 2)] = some (sdC ⟨n, d, 2⟩).toArray := by rw [← hD]; exact built_stand n 2 d hdl
    have heq : ∀ w, (Op.equalIn 10000 41 (.agg (sdC ⟨n, d, 2⟩).toArray) (.agg (sdC ⟨n, d, 2⟩).toArray)).run Try.prog w = .ok true w := fun w => by have := eq_sd n 2 n 2 d d hdl hdl w; simpa using this
    have HP := Lib.hid (fun (W : World) (U : Nat → Prop) (g : Nat) (h : StAt W U g (wn lo)) => propose_at h 2 n (wf_b (by omega) (by omega)) HR.out.2.2.2.1 d hdl _ hE)
    rw [hσ1, hD] at HP
    have HRa := Lib.hid (fun (W : World) (U : Nat → Prop) (g : Nat) (h : StAt W U g σ1) => raise_at h lu _ HR.out.1)
    have HRb := Lib.hid (fun (W : World) (U : Nat → Prop) (g : Nat) (h : StAt W U g σ2) => raise_at h lm _ HR.out.2.2.1)
    have HLo := Lib.hid (fun (W : World) (U : Nat → Prop) (g : Nat) (h : StAt W U g σ2) => low_at h)
    have HAt := Lib.hid (fun (W : World) (U : Nat → Prop) (g : Nat) (h : StAt W U g σ2) => at_at h HR.out.2.2.2.1)
    rw [hσ2] at HRa
    rw [HR.out.2.2.2.2] at HRb
    rw [HR.out.2.1] at HLo
    rw [hav] at HAt
    have HG := Lib.hid (And.intro hbC heq)
    have HC := Lib.hid (And.intro hCl hone)
    clear hE hat hCl hone hav hbC heq l0 l1 b0 b1 u0 u1 hk5 hn hl8 hlu hlm hwfn hwfl hd hdl hD hσ1 hσ2 HR
    generalize sdC ⟨n, d, 2⟩ = C at *
    have g1' : n > lo := g1
    go_enter Try.func6, Try.ntmps6
    go_wp2_with (go_at_call 17; refine (hBx.out _).mono ?_; rintro e w' ⟨rfl, hww⟩; obtain rfl := hww.symm)
    refine (hcw.out _).mono ?_
    rintro e w1 ⟨A, cap, rfl, hR, hb1⟩
    have H1 := Lib.hid (And.intro (hNew.out w1 A cap hR) hb1)
    clear hR hb1
    go_wp2_with fail
    refine H1.out.1.mono ?_
    rintro e w2 ⟨hb2, h | ⟨_, g, rfl, hst⟩⟩
    · exact absurd rfl h.1
    have hlow2 : ∀ i, (w1.heap.size ≤ i ∧ i < w2.heap.size) → w.heap.size ≤ i := fun i hi => by have := H1.out.2.size; omega
    have H2 := Lib.hid (And.intro hst (And.intro (H1.out.2.trans (hb2.mono H1.out.2.size)) hlow2))
    clear hb2 hst hlow2
    go_wp2_with (go_at_call 17; refine (hBy.out _).mono ?_; rintro e w' ⟨rfl, hww⟩; obtain rfl := hww.symm)
    refine (hDg.out _).mono ?_
    rintro e w3 ⟨rfl, hb3⟩
    have H3 := Lib.hid (And.intro (H2.out.1.below hb3) (H2.out.2.1.trans (hb3.mono H2.out.2.1.size)))
    clear hb3
    go_wp2_with fail
    refine (HP.out _ _ _ H3.out.1).mono ?_
    rintro e w4 ⟨rfl, hst4, ho4⟩
    have H4 := Lib.hid (And.intro hst4 (H3.out.2.trans (ho4.above H2.out.2.2 H3.out.2.size)))
    clear hst4 ho4
    go_wp2_with (go_at_call 17; refine (hBz.out _).mono ?_; rintro e w' ⟨rfl, hww⟩; obtain rfl := hww.symm)
    refine (HRa.out _ _ _ H4.out.1).mono ?_
    rintro e w5 ⟨rfl, hst5, ho5⟩
    have hz4 := H4.out.2.size
    have hlow5 : ∀ i, Gr (fun b => w1.heap.size ≤ b ∧ b < w2.heap.size) w4 w5 i → w.heap.size ≤ i := fun i hi => hi.elim (H2.out.2.2 i) fun h => by omega
    have H5 := Lib.hid (And.intro hst5 (And.intro (H4.out.2.trans (ho5.above H2.out.2.2 H4.out.2.size)) hlow5))
    clear hst5 ho5 hlow5 hz4
    go_wp2_with (go_at_call 25; refine (HLo.out _ _ _ H5.out.1).mono ?_; rintro e w' ⟨rfl, hww⟩; obtain rfl := hww.symm)
    refine (HRb.out _ _ _ H5.out.1).mono ?_
    rintro e w6 ⟨rfl, hst6, ho6⟩
    have H6 := Lib.hid (And.intro hst6 (H5.out.2.1.trans (ho6.above H5.out.2.2 H5.out.2.1.size)))
    clear hst6 ho6
    go_wp2_with fail
    refine (HAt.out _ _ _ H6.out.1).mono ?_
    rintro e w7 ⟨rfl, hb7⟩
    have H7 := Lib.hid (H6.out.2.trans (hb7.mono H6.out.2.size))
    clear hb7
    obtain ⟨w8, hw8, ⟨hth, hi⟩, hB8, hbe8, hs8⟩ := row_local w7 41 (sdC sd0) C (by rw [HC.out.1]; rfl) (by rw [sdC_len (x := sd0) rfl]; exact stand_info1)
    have HST := Lib.hid (And.intro hth (And.intro hi (And.intro HC.out.2 hw8)))
    have H8 := Lib.hid (And.intro hB8 (H7.out.trans (hbe8.mono H7.out.size)))
    clear hth hi hw8 hB8 hbe8 hs8
    go_wp2_with (refine wpList_store_mid rfl 41 _ _ rfl w7.heap.size 0 C.toArray rfl rfl HST.out.1 HST.out.2.1 HST.out.2.2.1 ?_; simp only [Act.put]; refine cast (congrArg (fun z => wpList _ _ _ _ _ z) HST.out.2.2.2.symm) ?_)
    refine region_rule4 (P := Try.prog) 25 115 waD waG waS (waR w7.heap.size n lo up lu C D C) _ _ (by kernel_rfl) rfl rfl (by kernel_rfl) (by decide +kernel) (wa_gb w7.heap.size n lo up lu C D C) (wa_sk w7.heap.size n lo up lu C D C) (wa_on w7.heap.size n lo up lu C D C) (wa_step w7.heap.size n lo up lu C D C (by rfl) (by kernel_rfl) rfl rfl rfl rfl rfl rfl v4 g3 H8.out.1 (by rw [HC.out.1]; exact stand_info1) HG.out.1 HG.out.2 hDg.out awake_any) ?finA
    case finA =>
      intro a w6 hbase hbl hall
      obtain ⟨v6, hv6, hR6⟩ := hall 24 (by decide)
      have hR6' : v6 = .bool true := hR6
      subst hR6'
      obtain ⟨gf, hgfe, hgf⟩ := base_lit hbase [91, 92, 93, 94, 95, 96, 97, 98, 99, 100, 101, 102, 103, 104, 105, 106, 107, 108, 109, 110, 111, 112, 113, 114, 6] (by rfl)
      have q6 : gf 6 = .bool true := hgfe 6 _ hv6
      simp only [List.foldl_cons, List.foldl_nil, List.setIfInBounds_toArray, List.set_cons_zero, List.set_cons_succ, q6] at hgf
      rw [hgf]
      clear hv6 hR6 hgfe q6 hgf
      have H9 := Lib.hid (H8.out.2.trans (hbl.mono H8.out.2.size))
      clear hbl hall hbase
      go_wp2
      go_ret
      exact ⟨rfl, H9.out⟩
  · skip
    have hE : propE (wn lo) 2 n d = 0 := win_in g1 (by omega)
    have hat : atS σ2 n = none := by rw [← hσ2, ← hσ1, ← hlu]; exact win_at_low l0 l1 u0 u1 (by omega)
    have hCl : (sdC sd0).length = 34 := rfl
    have hone := sdC_one sd0
    have hav : atV (atS σ2 n) = .tuple #[.agg (sdC sd0).toArray, .bool false] := by rw [hat]; rfl
    have hbC : Try.prog.built 41 [(0, .int .i64 n), (1, .agg D.toArray), (2, .int .i64 2)] = some (sdC ⟨n, d, 2⟩).toArray := by rw [← hD]; exact built_stand n 2 d hdl
    have heq : ∀ w, (Op.equalIn 10000 41 (.agg (sdC ⟨n, d, 2⟩).toArray) (.agg (sdC ⟨n, d, 2⟩).toArray)).run Try.prog w = .ok true w := fun w => by have := eq_sd n 2 n 2 d d hdl hdl w; simpa using this
    have HP := Lib.hid (fun (W : World) (U : Nat → Prop) (g : Nat) (h : StAt W U g (wn lo)) => propose_at h 2 n (wf_b (by omega) (by omega)) HR.out.2.2.2.1 d hdl _ hE)
    rw [hσ1, hD] at HP
    have HRa := Lib.hid (fun (W : World) (U : Nat → Prop) (g : Nat) (h : StAt W U g σ1) => raise_at h lu _ HR.out.1)
    have HRb := Lib.hid (fun (W : World) (U : Nat → Prop) (g : Nat) (h : StAt W U g σ2) => raise_at h lm _ HR.out.2.2.1)
    have HLo := Lib.hid (fun (W : World) (U : Nat → Prop) (g : Nat) (h : StAt W U g σ2) => low_at h)
    have HAt := Lib.hid (fun (W : World) (U : Nat → Prop) (g : Nat) (h : StAt W U g σ2) => at_at h HR.out.2.2.2.1)
    rw [hσ2] at HRa
    rw [HR.out.2.2.2.2] at HRb
    rw [HR.out.2.1] at HLo
    rw [hav] at HAt
    have HG := Lib.hid (And.intro hbC heq)
    have HC := Lib.hid (And.intro hCl hone)
    clear hE hat hCl hone hav hbC heq l0 l1 b0 b1 u0 u1 hk5 hn hl8 hlu hlm hwfn hwfl hd hdl hD hσ1 hσ2 HR
    generalize sdC sd0 = C at *
    have g1' : n > lo := g1
    go_enter Try.func6, Try.ntmps6
    go_wp2_with (go_at_call 17; refine (hBx.out _).mono ?_; rintro e w' ⟨rfl, hww⟩; obtain rfl := hww.symm)
    refine (hcw.out _).mono ?_
    rintro e w1 ⟨A, cap, rfl, hR, hb1⟩
    have H1 := Lib.hid (And.intro (hNew.out w1 A cap hR) hb1)
    clear hR hb1
    go_wp2_with fail
    refine H1.out.1.mono ?_
    rintro e w2 ⟨hb2, h | ⟨_, g, rfl, hst⟩⟩
    · exact absurd rfl h.1
    have hlow2 : ∀ i, (w1.heap.size ≤ i ∧ i < w2.heap.size) → w.heap.size ≤ i := fun i hi => by have := H1.out.2.size; omega
    have H2 := Lib.hid (And.intro hst (And.intro (H1.out.2.trans (hb2.mono H1.out.2.size)) hlow2))
    clear hb2 hst hlow2
    go_wp2_with (go_at_call 17; refine (hBy.out _).mono ?_; rintro e w' ⟨rfl, hww⟩; obtain rfl := hww.symm)
    refine (hDg.out _).mono ?_
    rintro e w3 ⟨rfl, hb3⟩
    have H3 := Lib.hid (And.intro (H2.out.1.below hb3) (H2.out.2.1.trans (hb3.mono H2.out.2.1.size)))
    clear hb3
    go_wp2_with fail
    refine (HP.out _ _ _ H3.out.1).mono ?_
    rintro e w4 ⟨rfl, hst4, ho4⟩
    have H4 := Lib.hid (And.intro hst4 (H3.out.2.trans (ho4.above H2.out.2.2 H3.out.2.size)))
    clear hst4 ho4
    go_wp2_with (go_at_call 17; refine (hBz.out _).mono ?_; rintro e w' ⟨rfl, hww⟩; obtain rfl := hww.symm)
    refine (HRa.out _ _ _ H4.out.1).mono ?_
    rintro e w5 ⟨rfl, hst5, ho5⟩
    have hz4 := H4.out.2.size
    have hlow5 : ∀ i, Gr (fun b => w1.heap.size ≤ b ∧ b < w2.heap.size) w4 w5 i → w.heap.size ≤ i := fun i hi => hi.elim (H2.out.2.2 i) fun h => by omega
    have H5 := Lib.hid (And.intro hst5 (And.intro (H4.out.2.trans (ho5.above H2.out.2.2 H4.out.2.size)) hlow5))
    clear hst5 ho5 hlow5 hz4
    go_wp2_with (go_at_call 25; refine (HLo.out _ _ _ H5.out.1).mono ?_; rintro e w' ⟨rfl, hww⟩; obtain rfl := hww.symm)
    refine (HRb.out _ _ _ H5.out.1).mono ?_
    rintro e w6 ⟨rfl, hst6, ho6⟩
    have H6 := Lib.hid (And.intro hst6 (H5.out.2.1.trans (ho6.above H5.out.2.2 H5.out.2.1.size)))
    clear hst6 ho6
    go_wp2_with fail
    refine (HAt.out _ _ _ H6.out.1).mono ?_
    rintro e w7 ⟨rfl, hb7⟩
    have H7 := Lib.hid (H6.out.2.trans (hb7.mono H6.out.2.size))
    clear hb7
    obtain ⟨w8, hw8, ⟨hth, hi⟩, hB8, hbe8, hs8⟩ := row_local w7 41 (sdC sd0) C (by rw [HC.out.1]; rfl) (by rw [sdC_len (x := sd0) rfl]; exact stand_info1)
    have HST := Lib.hid (And.intro hth (And.intro hi (And.intro HC.out.2 hw8)))
    have H8 := Lib.hid (And.intro hB8 (H7.out.trans (hbe8.mono H7.out.size)))
    clear hth hi hw8 hB8 hbe8 hs8
    go_wp2_with (refine wpList_store_mid rfl 41 _ _ rfl w7.heap.size 0 C.toArray rfl rfl HST.out.1 HST.out.2.1 HST.out.2.2.1 ?_; simp only [Act.put]; refine cast (congrArg (fun z => wpList _ _ _ _ _ z) HST.out.2.2.2.symm) ?_)
    refine region_rule4 (P := Try.prog) 25 115 wbD wbG wbS (wbR w7.heap.size n lo up lu C D C) _ _ (by kernel_rfl) rfl rfl (by kernel_rfl) (by decide +kernel) (wb_gb w7.heap.size n lo up lu C D C) (wb_sk w7.heap.size n lo up lu C D C) (wb_on w7.heap.size n lo up lu C D C) (wb_step w7.heap.size n lo up lu C D C (by rfl) (by kernel_rfl) rfl rfl rfl rfl rfl rfl v4 (by omega) awake_any) ?finB
    case finB =>
      intro a w6 hbase hbl hall
      obtain ⟨v6, hv6, hR6⟩ := hall 24 (by decide)
      have hR6' : v6 = .bool true := hR6
      subst hR6'
      obtain ⟨gf, hgfe, hgf⟩ := base_lit hbase [91, 92, 93, 94, 95, 96, 97, 98, 99, 100, 101, 102, 103, 104, 105, 106, 107, 108, 109, 110, 111, 112, 113, 114, 6] (by rfl)
      have q6 : gf 6 = .bool true := hgfe 6 _ hv6
      simp only [List.foldl_cons, List.foldl_nil, List.setIfInBounds_toArray, List.set_cons_zero, List.set_cons_succ, q6] at hgf
      rw [hgf]
      clear hv6 hR6 hgfe q6 hgf
      have H9 := Lib.hid (H8.out.2.trans (hbl.mono H8.out.2.size))
      clear hbl hall hbase
      go_wp2
      go_ret
      exact ⟨rfl, H9.out⟩
  · skip
    have hE : propE (wn lo) 2 n d = 150 := win_out (by omega)
    have hat : atS σ2 n = none := by rw [← hσ2, ← hσ1, ← hlu]; exact win_at_out l0 l1 u0 u1 (by omega)
    have hCl : (sdC sd0).length = 34 := rfl
    have hone := sdC_one sd0
    have hav : atV (atS σ2 n) = .tuple #[.agg (sdC sd0).toArray, .bool false] := by rw [hat]; rfl
    have hbC : Try.prog.built 41 [(0, .int .i64 n), (1, .agg D.toArray), (2, .int .i64 2)] = some (sdC ⟨n, d, 2⟩).toArray := by rw [← hD]; exact built_stand n 2 d hdl
    have heq : ∀ w, (Op.equalIn 10000 41 (.agg (sdC ⟨n, d, 2⟩).toArray) (.agg (sdC ⟨n, d, 2⟩).toArray)).run Try.prog w = .ok true w := fun w => by have := eq_sd n 2 n 2 d d hdl hdl w; simpa using this
    have HP := Lib.hid (fun (W : World) (U : Nat → Prop) (g : Nat) (h : StAt W U g (wn lo)) => propose_at h 2 n (wf_b (by omega) (by omega)) HR.out.2.2.2.1 d hdl _ hE)
    rw [hσ1, hD] at HP
    have HRa := Lib.hid (fun (W : World) (U : Nat → Prop) (g : Nat) (h : StAt W U g σ1) => raise_at h lu _ HR.out.1)
    have HRb := Lib.hid (fun (W : World) (U : Nat → Prop) (g : Nat) (h : StAt W U g σ2) => raise_at h lm _ HR.out.2.2.1)
    have HLo := Lib.hid (fun (W : World) (U : Nat → Prop) (g : Nat) (h : StAt W U g σ2) => low_at h)
    have HAt := Lib.hid (fun (W : World) (U : Nat → Prop) (g : Nat) (h : StAt W U g σ2) => at_at h HR.out.2.2.2.1)
    rw [hσ2] at HRa
    rw [HR.out.2.2.2.2] at HRb
    rw [HR.out.2.1] at HLo
    rw [hav] at HAt
    have HG := Lib.hid (And.intro hbC heq)
    have HC := Lib.hid (And.intro hCl hone)
    clear hE hat hCl hone hav hbC heq l0 l1 b0 b1 u0 u1 hk5 hn hl8 hlu hlm hwfn hwfl hd hdl hD hσ1 hσ2 HR
    generalize sdC sd0 = C at *
    go_enter Try.func6, Try.ntmps6
    go_wp2_with (go_at_call 17; refine (hBx.out _).mono ?_; rintro e w' ⟨rfl, hww⟩; obtain rfl := hww.symm)
    refine (hcw.out _).mono ?_
    rintro e w1 ⟨A, cap, rfl, hR, hb1⟩
    have H1 := Lib.hid (And.intro (hNew.out w1 A cap hR) hb1)
    clear hR hb1
    go_wp2_with fail
    refine H1.out.1.mono ?_
    rintro e w2 ⟨hb2, h | ⟨_, g, rfl, hst⟩⟩
    · exact absurd rfl h.1
    have hlow2 : ∀ i, (w1.heap.size ≤ i ∧ i < w2.heap.size) → w.heap.size ≤ i := fun i hi => by have := H1.out.2.size; omega
    have H2 := Lib.hid (And.intro hst (And.intro (H1.out.2.trans (hb2.mono H1.out.2.size)) hlow2))
    clear hb2 hst hlow2
    go_wp2_with (go_at_call 17; refine (hBy.out _).mono ?_; rintro e w' ⟨rfl, hww⟩; obtain rfl := hww.symm)
    refine (hDg.out _).mono ?_
    rintro e w3 ⟨rfl, hb3⟩
    have H3 := Lib.hid (And.intro (H2.out.1.below hb3) (H2.out.2.1.trans (hb3.mono H2.out.2.1.size)))
    clear hb3
    go_wp2_with fail
    refine (HP.out _ _ _ H3.out.1).mono ?_
    rintro e w4 ⟨rfl, hst4, ho4⟩
    have H4 := Lib.hid (And.intro hst4 (H3.out.2.trans (ho4.above H2.out.2.2 H3.out.2.size)))
    clear hst4 ho4
    go_wp2_with (go_at_call 17; refine (hBz.out _).mono ?_; rintro e w' ⟨rfl, hww⟩; obtain rfl := hww.symm)
    refine (HRa.out _ _ _ H4.out.1).mono ?_
    rintro e w5 ⟨rfl, hst5, ho5⟩
    have hz4 := H4.out.2.size
    have hlow5 : ∀ i, Gr (fun b => w1.heap.size ≤ b ∧ b < w2.heap.size) w4 w5 i → w.heap.size ≤ i := fun i hi => hi.elim (H2.out.2.2 i) fun h => by omega
    have H5 := Lib.hid (And.intro hst5 (And.intro (H4.out.2.trans (ho5.above H2.out.2.2 H4.out.2.size)) hlow5))
    clear hst5 ho5 hlow5 hz4
    go_wp2_with (go_at_call 25; refine (HLo.out _ _ _ H5.out.1).mono ?_; rintro e w' ⟨rfl, hww⟩; obtain rfl := hww.symm)
    refine (HRb.out _ _ _ H5.out.1).mono ?_
    rintro e w6 ⟨rfl, hst6, ho6⟩
    have H6 := Lib.hid (And.intro hst6 (H5.out.2.1.trans (ho6.above H5.out.2.2 H5.out.2.1.size)))
    clear hst6 ho6
    go_wp2_with fail
    refine (HAt.out _ _ _ H6.out.1).mono ?_
    rintro e w7 ⟨rfl, hb7⟩
    have H7 := Lib.hid (H6.out.2.trans (hb7.mono H6.out.2.size))
    clear hb7
    obtain ⟨w8, hw8, ⟨hth, hi⟩, hB8, hbe8, hs8⟩ := row_local w7 41 (sdC sd0) C (by rw [HC.out.1]; rfl) (by rw [sdC_len (x := sd0) rfl]; exact stand_info1)
    have HST := Lib.hid (And.intro hth (And.intro hi (And.intro HC.out.2 hw8)))
    have H8 := Lib.hid (And.intro hB8 (H7.out.trans (hbe8.mono H7.out.size)))
    clear hth hi hw8 hB8 hbe8 hs8
    go_wp2_with (refine wpList_store_mid rfl 41 _ _ rfl w7.heap.size 0 C.toArray rfl rfl HST.out.1 HST.out.2.1 HST.out.2.2.1 ?_; simp only [Act.put]; refine cast (congrArg (fun z => wpList _ _ _ _ _ z) HST.out.2.2.2.symm) ?_)
    refine region_rule4 (P := Try.prog) 25 115 wcD wcG wcS (wcR w7.heap.size n lo up lu C D C) _ _ (by kernel_rfl) rfl rfl (by kernel_rfl) (by decide +kernel) (wc_gb w7.heap.size n lo up lu C D C) (wc_sk w7.heap.size n lo up lu C D C) (wc_on w7.heap.size n lo up lu C D C) (wc_step w7.heap.size n lo up lu C D C (by rfl) (by kernel_rfl) rfl rfl rfl rfl rfl rfl v4 awake_any) ?finC
    case finC =>
      intro a w6 hbase hbl hall
      obtain ⟨v6, hv6, hR6⟩ := hall 24 (by decide)
      have hR6' : v6 = .bool true := hR6
      subst hR6'
      obtain ⟨gf, hgfe, hgf⟩ := base_lit hbase [91, 92, 93, 94, 95, 96, 97, 98, 99, 100, 101, 102, 103, 104, 105, 106, 107, 108, 109, 110, 111, 112, 113, 114, 6] (by rfl)
      have q6 : gf 6 = .bool true := hgfe 6 _ hv6
      simp only [List.foldl_cons, List.foldl_nil, List.setIfInBounds_toArray, List.set_cons_zero, List.set_cons_succ, q6] at hgf
      rw [hgf]
      clear hv6 hR6 hgfe q6 hgf
      have H9 := Lib.hid (H8.out.2.trans (hbl.mono H8.out.2.size))
      clear hbl hall hbase
      go_wp2
      go_ret
      exact ⟨rfl, H9.out⟩
  · skip
    have hE : propE (wn lo) 2 n d = 150 := win_out (by omega)
    have hat : atS σ2 n = none := by rw [← hσ2, ← hσ1, ← hlu]; exact win_at_out l0 l1 u0 u1 (by omega)
    have hCl : (sdC sd0).length = 34 := rfl
    have hone := sdC_one sd0
    have hav : atV (atS σ2 n) = .tuple #[.agg (sdC sd0).toArray, .bool false] := by rw [hat]; rfl
    have hbC : Try.prog.built 41 [(0, .int .i64 n), (1, .agg D.toArray), (2, .int .i64 2)] = some (sdC ⟨n, d, 2⟩).toArray := by rw [← hD]; exact built_stand n 2 d hdl
    have heq : ∀ w, (Op.equalIn 10000 41 (.agg (sdC ⟨n, d, 2⟩).toArray) (.agg (sdC ⟨n, d, 2⟩).toArray)).run Try.prog w = .ok true w := fun w => by have := eq_sd n 2 n 2 d d hdl hdl w; simpa using this
    have HP := Lib.hid (fun (W : World) (U : Nat → Prop) (g : Nat) (h : StAt W U g (wn lo)) => propose_at h 2 n (wf_b (by omega) (by omega)) HR.out.2.2.2.1 d hdl _ hE)
    rw [hσ1, hD] at HP
    have HRa := Lib.hid (fun (W : World) (U : Nat → Prop) (g : Nat) (h : StAt W U g σ1) => raise_at h lu _ HR.out.1)
    have HRb := Lib.hid (fun (W : World) (U : Nat → Prop) (g : Nat) (h : StAt W U g σ2) => raise_at h lm _ HR.out.2.2.1)
    have HLo := Lib.hid (fun (W : World) (U : Nat → Prop) (g : Nat) (h : StAt W U g σ2) => low_at h)
    have HAt := Lib.hid (fun (W : World) (U : Nat → Prop) (g : Nat) (h : StAt W U g σ2) => at_at h HR.out.2.2.2.1)
    rw [hσ2] at HRa
    rw [HR.out.2.2.2.2] at HRb
    rw [HR.out.2.1] at HLo
    rw [hav] at HAt
    have HG := Lib.hid (And.intro hbC heq)
    have HC := Lib.hid (And.intro hCl hone)
    clear hE hat hCl hone hav hbC heq l0 l1 b0 b1 u0 u1 hk5 hn hl8 hlu hlm hwfn hwfl hd hdl hD hσ1 hσ2 HR
    generalize sdC sd0 = C at *
    have g1' : n > lo := g1
    have g2' : decide (n ≤ l8) = false := by simpa using g2
    go_enter Try.func6, Try.ntmps6
    go_wp2_with (go_at_call 17; refine (hBx.out _).mono ?_; rintro e w' ⟨rfl, hww⟩; obtain rfl := hww.symm)
    refine (hcw.out _).mono ?_
    rintro e w1 ⟨A, cap, rfl, hR, hb1⟩
    have H1 := Lib.hid (And.intro (hNew.out w1 A cap hR) hb1)
    clear hR hb1
    go_wp2_with fail
    refine H1.out.1.mono ?_
    rintro e w2 ⟨hb2, h | ⟨_, g, rfl, hst⟩⟩
    · exact absurd rfl h.1
    have hlow2 : ∀ i, (w1.heap.size ≤ i ∧ i < w2.heap.size) → w.heap.size ≤ i := fun i hi => by have := H1.out.2.size; omega
    have H2 := Lib.hid (And.intro hst (And.intro (H1.out.2.trans (hb2.mono H1.out.2.size)) hlow2))
    clear hb2 hst hlow2
    go_wp2_with (go_at_call 17; refine (hBy.out _).mono ?_; rintro e w' ⟨rfl, hww⟩; obtain rfl := hww.symm)
    refine (hDg.out _).mono ?_
    rintro e w3 ⟨rfl, hb3⟩
    have H3 := Lib.hid (And.intro (H2.out.1.below hb3) (H2.out.2.1.trans (hb3.mono H2.out.2.1.size)))
    clear hb3
    go_wp2_with fail
    refine (HP.out _ _ _ H3.out.1).mono ?_
    rintro e w4 ⟨rfl, hst4, ho4⟩
    have H4 := Lib.hid (And.intro hst4 (H3.out.2.trans (ho4.above H2.out.2.2 H3.out.2.size)))
    clear hst4 ho4
    go_wp2_with (go_at_call 17; refine (hBz.out _).mono ?_; rintro e w' ⟨rfl, hww⟩; obtain rfl := hww.symm)
    refine (HRa.out _ _ _ H4.out.1).mono ?_
    rintro e w5 ⟨rfl, hst5, ho5⟩
    have hz4 := H4.out.2.size
    have hlow5 : ∀ i, Gr (fun b => w1.heap.size ≤ b ∧ b < w2.heap.size) w4 w5 i → w.heap.size ≤ i := fun i hi => hi.elim (H2.out.2.2 i) fun h => by omega
    have H5 := Lib.hid (And.intro hst5 (And.intro (H4.out.2.trans (ho5.above H2.out.2.2 H4.out.2.size)) hlow5))
    clear hst5 ho5 hlow5 hz4
    go_wp2_with (go_at_call 25; refine (HLo.out _ _ _ H5.out.1).mono ?_; rintro e w' ⟨rfl, hww⟩; obtain rfl := hww.symm)
    refine (HRb.out _ _ _ H5.out.1).mono ?_
    rintro e w6 ⟨rfl, hst6, ho6⟩
    have H6 := Lib.hid (And.intro hst6 (H5.out.2.1.trans (ho6.above H5.out.2.2 H5.out.2.1.size)))
    clear hst6 ho6
    go_wp2_with fail
    refine (HAt.out _ _ _ H6.out.1).mono ?_
    rintro e w7 ⟨rfl, hb7⟩
    have H7 := Lib.hid (H6.out.2.trans (hb7.mono H6.out.2.size))
    clear hb7
    obtain ⟨w8, hw8, ⟨hth, hi⟩, hB8, hbe8, hs8⟩ := row_local w7 41 (sdC sd0) C (by rw [HC.out.1]; rfl) (by rw [sdC_len (x := sd0) rfl]; exact stand_info1)
    have HST := Lib.hid (And.intro hth (And.intro hi (And.intro HC.out.2 hw8)))
    have H8 := Lib.hid (And.intro hB8 (H7.out.trans (hbe8.mono H7.out.size)))
    clear hth hi hw8 hB8 hbe8 hs8
    go_wp2_with (refine wpList_store_mid rfl 41 _ _ rfl w7.heap.size 0 C.toArray rfl rfl HST.out.1 HST.out.2.1 HST.out.2.2.1 ?_; simp only [Act.put]; refine cast (congrArg (fun z => wpList _ _ _ _ _ z) HST.out.2.2.2.symm) ?_)
    refine region_rule4 (P := Try.prog) 25 115 wcD wcG wcS (wcR w7.heap.size n lo up lu C D C) _ _ (by kernel_rfl) rfl rfl (by kernel_rfl) (by decide +kernel) (wc_gb w7.heap.size n lo up lu C D C) (wc_sk w7.heap.size n lo up lu C D C) (wc_on w7.heap.size n lo up lu C D C) (wc_step w7.heap.size n lo up lu C D C (by rfl) (by kernel_rfl) rfl rfl rfl rfl rfl rfl v4 awake_any) ?finD
    case finD =>
      intro a w6 hbase hbl hall
      obtain ⟨v6, hv6, hR6⟩ := hall 24 (by decide)
      have hR6' : v6 = .bool true := hR6
      subst hR6'
      obtain ⟨gf, hgfe, hgf⟩ := base_lit hbase [91, 92, 93, 94, 95, 96, 97, 98, 99, 100, 101, 102, 103, 104, 105, 106, 107, 108, 109, 110, 111, 112, 113, 114, 6] (by rfl)
      have q6 : gf 6 = .bool true := hgfe 6 _ hv6
      simp only [List.foldl_cons, List.foldl_nil, List.setIfInBounds_toArray, List.set_cons_zero, List.set_cons_succ, q6] at hgf
      rw [hgf]
      clear hv6 hR6 hgfe q6 hgf
      have H9 := Lib.hid (H8.out.2.trans (hbl.mono H8.out.2.size))
      clear hbl hall hbase
      go_wp2
      go_ret
      exact ⟨rfl, H9.out⟩

end Go.Proofs.Ytmdgcimjmmnbjaa.slotsWindow
