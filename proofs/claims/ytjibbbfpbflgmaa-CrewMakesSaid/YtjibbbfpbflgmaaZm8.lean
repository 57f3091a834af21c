/-
  What the region of CrewMakes that compares does, in whichever order its operations come up. (Written by tools/gen_makes8.py.)
-/
import Derived.Test.YtjibbbfpbflgmaaTl8
import Derived.Test.YtjibbbfpbflgmaaRm8
namespace Go.Proofs.Ytjibbbfpbflgmaa
open Go.RowKit Go.Shelf CrewP
set_option linter.unusedVariables false
set_option linter.unusedSimpArgs false

theorem make_wf {f : Int} {l : List Int} (h : ∀ x ∈ l, Wf x) : ∀ x ∈ (makeR f l).2.1, Wf x := by
  unfold makeR
  split
  · exact sort_wf h
  · intro x hx; cases hx
def zaR (gi gc gx gy : Nat) (f : Int) (A2 A : Option Addr) (n c2 c : Nat) (us : List Int) (F : Int) (Ax Ay : Option Addr) (m cx cy : Nat) (L : List Int) (E z : Int) : Nat → Value → World → Prop
  | 0 => fun v w => v = .agg #[.int .i64 f, .slice A2 n c2]
  | 1 => fun v w => v = .int .i64 z
  | 2 => fun v w => v = .agg #[.int .i64 f, .slice A n c]
  | 3 => fun v w => v = .int .i64 z
  | 4 => fun v w => v = .bool false
  | 5 => fun v w => v = .bool false
  | 6 => fun v w => v = .agg #[.int .i64 F, .slice Ax m cx]
  | 7 => fun v w => v = .agg #[.int .i64 F, .slice Ay m cy]
  | 8 => fun v w => v = .bool true
  | 9 => fun v w => v = .bool false
  | 10 => fun v w => v = .bool false
  | 11 => fun v w => v = .bool false
  | 12 => fun v w => v = .int .i64 E
  | 13 => fun v w => v = .int .i64 E
  | 14 => fun v w => v = .bool false
  | 15 => fun v w => v = .bool false
  | _ => fun _ _ => True
def zaD (i : Nat) : Nat := ([30, 31, 32, 33, 34, 35, 36, 37, 38, 39, 40, 41, 42, 43, 44, 45] : List Nat).getD i 0
def zaG : Nat → Option Bool
  | 5 => some false
  | 11 => some false
  | _ => none
def zaS (i : Nat) : Bool := ([] : List Nat).contains i
theorem za_gb (gi gc gx gy : Nat) (f : Int) (A2 A : Option Addr) (n c2 c : Nat) (us : List Int) (F : Int) (Ax Ay : Option Addr) (m cx cy : Nat) (L : List Int) (E z : Int) : ∀ i b v w, zaG i = some b → zaR gi gc gx gy f A2 A n c2 c us F Ax Ay m cx cy L E z i v w → v = .bool b := by
  intro i b v w h hR
  unfold zaG at h
  split at h
  all_goals first | (injection h with h; subst h; exact hR) | cases h
theorem za_sk (gi gc gx gy : Nat) (f : Int) (A2 A : Option Addr) (n c2 c : Nat) (us : List Int) (F : Int) (Ax Ay : Option Addr) (m cx cy : Nat) (L : List Int) (E z : Int) : ∀ i w, zaS i = true → zaR gi gc gx gy f A2 A n c2 c us F Ax Ay m cx cy L E z i undef w := by
  intro i w h
  simp [zaS] at h
theorem za_on (gi gc gx gy : Nat) (f : Int) (A2 A : Option Addr) (n c2 c : Nat) (us : List Int) (F : Int) (Ax Ay : Option Addr) (m cx cy : Nat) (L : List Int) (E z : Int) : ∀ i v w w', zaR gi gc gx gy f A2 A n c2 c us F Ax Ay m cx cy L E z i v w → Below w.heap.size w w' → zaR gi gc gx gy f A2 A n c2 c us F Ax Ay m cx cy L E z i v w'
  | 0, v, w, w', h, _ => h
  | 1, v, w, w', h, _ => h
  | 2, v, w, w', h, _ => h
  | 3, v, w, w', h, _ => h
  | 4, v, w, w', h, _ => h
  | 5, v, w, w', h, _ => h
  | 6, v, w, w', h, _ => h
  | 7, v, w, w', h, _ => h
  | 8, v, w, w', h, _ => h
  | 9, v, w, w', h, _ => h
  | 10, v, w, w', h, _ => h
  | 11, v, w, w', h, _ => h
  | 12, v, w, w', h, _ => h
  | 13, v, w, w', h, _ => h
  | 14, v, w, w', h, _ => h
  | 15, v, w, w', h, _ => h
  | i + 16, v, w, w', h, hb => trivial
def zaOps : List Op := [.load 24 (.tmp 7),
  .call { callee := .value (.func 20), args := #[.tmp 30], argTypes := #[24] },
  .load 24 (.tmp 3),
  .call { callee := .value (.func 21), args := #[.tmp 32], argTypes := #[24] },
  .binOp .neq 27 (.tmp 31) (.tmp 33) 27,
  .move (.tmp 34),
  .load 24 (.tmp 9),
  .load 24 (.tmp 11),
  .call { callee := .value (.func 22), args := #[.tmp 36, .tmp 37], argTypes := #[24, 24] },
  .unOp .not 4 (.tmp 38),
  .pick (.tmp 35) (.const (.bool true)) (.tmp 39),
  .move (.tmp 40),
  .move (.tmp 10),
  .move (.tmp 12),
  .binOp .neq 27 (.tmp 42) (.tmp 43) 27,
  .pick (.tmp 41) (.const (.bool true)) (.tmp 44)]
def zaNeeds : Nat → List Nat
  | 0 => []
  | 1 => [0]
  | 2 => []
  | 3 => [2]
  | 4 => [1, 3]
  | 5 => [4]
  | 6 => []
  | 7 => []
  | 8 => [6, 7]
  | 9 => [8]
  | 10 => [5, 9]
  | 11 => [10]
  | 12 => []
  | 13 => []
  | 14 => [12, 13]
  | 15 => [11, 14]
  | _ => []
set_option maxRecDepth 100000 in
set_option maxHeartbeats 3200000 in
theorem za_step {ops : Array Oper} {Q : Exit → Act → World → Prop} {a0 : Act} {w0 : World} (gi gc gx gy : Nat) (f : Int) (A2 A : Option Addr) (n c2 c : Nat) (us : List Int) (F : Int) (Ax Ay : Option Addr) (m cx cy : Nat) (L : List Int) (E z : Int) (hops : ((List.range 16).map fun i => (ops[i]?).map Oper.op) = zaOps.map some)
    (hnd : ((List.range 16).all fun i => (zaNeeds i).all fun j => ((ops[i]?).map fun o => o.after.any fun e => Region.binds .any e && (e.on == j)).getD false) = true)
    (x7 : a0.tmps[7]? = some (.pointer (some ⟨gi, 0, none⟩))) (x3 : a0.tmps[3]? = some (.pointer (some ⟨gc, 0, none⟩))) (x9 : a0.tmps[9]? = some (.pointer (some ⟨gx, 0, none⟩))) (x11 : a0.tmps[11]? = some (.pointer (some ⟨gy, 0, none⟩))) (x10 : a0.tmps[10]? = some (.int .i64 E)) (x12 : a0.tmps[12]? = some (.int .i64 E))
    (hBi : Blk w0 gi 24 [.int .i64 f, .slice A2 n c2]) (hB : Blk w0 gc 24 [.int .i64 f, .slice A n c]) (hBx : Blk w0 gx 24 [.int .i64 F, .slice Ax m cx]) (hBy : Blk w0 gy 24 [.int .i64 F, .slice Ay m cy]) (hA2 : ArgI w0 A2 n c2 us) (hA : ArgI w0 A n c us) (hAx : ArgI w0 Ax m cx L) (hAy : ArgI w0 Ay m cy L) (hz : chkE f us = z) :
    ∀ i o, i < 16 → zaS i = false → ops[i]? = some o → o.dst = some (zaD i) → ∀ a w, Base zaD 16 a0 a → Below w0.heap.size w0 w → Region.wanted o (yielded ops a.tmps) = true →
      (∀ j, (o.after.any fun e => Region.binds .any e && (e.on == j)) = true → Has zaD (zaR gi gc gx gy f A2 A n c2 c us F Ax Ay m cx cy L E z) j a w) →
      ∀ K : Act → World → Prop, (∀ v w', zaR gi gc gx gy f A2 A n c2 c us F Ax Ay m cx cy L E z i v w' → Below w.heap.size w w' → K (a.put o.dst v) w') → wpOp Try.prog ops Q i K a w := by
  intro i o hi hs ho hds a w hbase hbl hwt hdep0 K hK
  have hop : some o.op = zaOps[i]? := by
    have h1 : ((List.range 16).map fun i => (ops[i]?).map Oper.op)[i]? = some (some o.op) := by
      rw [List.getElem?_map, List.getElem?_range hi]; simp only [Option.map_some, ho]
    rw [hops, List.getElem?_map] at h1
    cases h2 : zaOps[i]? with
    | none => rw [h2] at h1; cases h1
    | some y => rw [h2] at h1; simp only [Option.map_some, Option.some.injEq] at h1; rw [h1]
  have hdep : ∀ j, j ∈ zaNeeds i → Has zaD (zaR gi gc gx gy f A2 A n c2 c us F Ax Ay m cx cy L E z) j a w := fun j hj => by
    have h1 := List.all_eq_true.1 (List.all_eq_true.1 hnd i (List.mem_range.2 hi)) j hj
    rw [ho] at h1
    exact hdep0 j h1
  clear hdep0 hops hnd
  match i, hi, hs, ho, hop, hds, hdep, hK with
  | 0, _, hs, ho, hop, hds, hdep, hK =>
    have hop : o.op = .load 24 (.tmp 7) := Option.some.inj hop
    have hu7 : a.tmps[7]? = some (.pointer (some ⟨gi, 0, none⟩)) := (hbase.2.2 7 (by decide)).trans x7
    have e7 : a.eval (.tmp 7) = _ := ev_tmp hu7
    refine st3 ho hwt (v := .agg #[.int .i64 f, .slice A2 n c2]) (w' := w) ?_ (hK _ w rfl (Below.refl _ _))
    have k0 : w.cell? ⟨gi, 0, none⟩ = some (.int .i64 f) := (hBi.below hbl hBi.lt).cell rfl
    have k1 : w.cell? ⟨gi, 1, none⟩ = some (.slice A2 n c2) := (hBi.below hbl hBi.lt).cell rfl
    unfold execOp
    simp only [hop, Option.map_some, Option.map_none, e7]
    first | rfl | (go_simp; done) | (go_simp; simp; done) | (go_simp; intro h; omega)
  | 1, _, hs, ho, hop, hds, hdep, hK =>
    have hop : o.op = .call { callee := .value (.func 20), args := #[.tmp 30], argTypes := #[24] } := Option.some.inj hop
    obtain ⟨u30, hu30, hv30⟩ := hdep 0 (by decide)
    have hv30' : u30 = .agg #[.int .i64 f, .slice A2 n c2] := hv30
    subst hv30'
    have e30 : a.eval (.tmp 30) = _ := ev_tmp hu30
    refine st3_call ho hwt (f := 20) (vals := #[.agg #[.int .i64 f, .slice A2 n c2]]) (Z := fun v w' => v = .int .i64 z ∧ Below w.heap.size w w') ?_ ?_ ?_
    · unfold execOp
      simp only [hop, e30, resolve, invoke, Sem.run_bind, Sem.run_pure, Result.andThen_ok, List.map_toArray, List.map_cons, List.map_nil]
      first | rfl | exact enters_of Try.func20 (by kernel_rfl) rfl _ _
    · exact (check_any f A2 n c2 us w (hA2.after hbl)).mono fun e w' ⟨he, h2⟩ => ⟨_, he, congrArg (Value.int .i64) hz, h2⟩
    · rintro v w' ⟨h1, h2⟩
      exact hK v w' h1 h2
  | 2, _, hs, ho, hop, hds, hdep, hK =>
    have hop : o.op = .load 24 (.tmp 3) := Option.some.inj hop
    have hu3 : a.tmps[3]? = some (.pointer (some ⟨gc, 0, none⟩)) := (hbase.2.2 3 (by decide)).trans x3
    have e3 : a.eval (.tmp 3) = _ := ev_tmp hu3
    refine st3 ho hwt (v := .agg #[.int .i64 f, .slice A n c]) (w' := w) ?_ (hK _ w rfl (Below.refl _ _))
    have k0 : w.cell? ⟨gc, 0, none⟩ = some (.int .i64 f) := (hB.below hbl hB.lt).cell rfl
    have k1 : w.cell? ⟨gc, 1, none⟩ = some (.slice A n c) := (hB.below hbl hB.lt).cell rfl
    unfold execOp
    simp only [hop, Option.map_some, Option.map_none, e3]
    first | rfl | (go_simp; done) | (go_simp; simp; done) | (go_simp; intro h; omega)
  | 3, _, hs, ho, hop, hds, hdep, hK =>
    have hop : o.op = .call { callee := .value (.func 21), args := #[.tmp 32], argTypes := #[24] } := Option.some.inj hop
    obtain ⟨u32, hu32, hv32⟩ := hdep 2 (by decide)
    have hv32' : u32 = .agg #[.int .i64 f, .slice A n c] := hv32
    subst hv32'
    have e32 : a.eval (.tmp 32) = _ := ev_tmp hu32
    refine st3_call ho hwt (f := 21) (vals := #[.agg #[.int .i64 f, .slice A n c]]) (Z := fun v w' => v = .int .i64 z ∧ Below w.heap.size w w') ?_ ?_ ?_
    · unfold execOp
      simp only [hop, e32, resolve, invoke, Sem.run_bind, Sem.run_pure, Result.andThen_ok, List.map_toArray, List.map_cons, List.map_nil]
      first | rfl | exact enters_of Try.func21 (by kernel_rfl) rfl _ _
    · exact (rcheck_any f A n c us w (hA.after hbl)).mono fun e w' ⟨he, h2⟩ => ⟨_, he, congrArg (Value.int .i64) hz, h2⟩
    · rintro v w' ⟨h1, h2⟩
      exact hK v w' h1 h2
  | 4, _, hs, ho, hop, hds, hdep, hK =>
    have hop : o.op = .binOp .neq 27 (.tmp 31) (.tmp 33) 27 := Option.some.inj hop
    obtain ⟨u31, hu31, hv31⟩ := hdep 1 (by decide)
    have hv31' : u31 = .int .i64 z := hv31
    subst hv31'
    have e31 : a.eval (.tmp 31) = _ := ev_tmp hu31
    obtain ⟨u33, hu33, hv33⟩ := hdep 3 (by decide)
    have hv33' : u33 = .int .i64 z := hv33
    subst hv33'
    have e33 : a.eval (.tmp 33) = _ := ev_tmp hu33
    refine st3 ho hwt (v := .bool false) (w' := w) ?_ (hK _ w rfl (Below.refl _ _))
    unfold execOp
    simp only [hop, e31, e33]
    first | rfl | (go_simp; done) | (go_simp; simp; done) | (go_simp; intro h; omega)
  | 5, _, hs, ho, hop, hds, hdep, hK =>
    have hop : o.op = .move (.tmp 34) := Option.some.inj hop
    obtain ⟨u34, hu34, hv34⟩ := hdep 4 (by decide)
    have hv34' : u34 = .bool false := hv34
    subst hv34'
    have e34 : a.eval (.tmp 34) = _ := ev_tmp hu34
    refine st3 ho hwt (v := _) (w' := w) ?_ (hK _ w rfl (Below.refl _ _))
    unfold execOp
    rw [hop, ← e34]
    rfl
  | 6, _, hs, ho, hop, hds, hdep, hK =>
    have hop : o.op = .load 24 (.tmp 9) := Option.some.inj hop
    have hu9 : a.tmps[9]? = some (.pointer (some ⟨gx, 0, none⟩)) := (hbase.2.2 9 (by decide)).trans x9
    have e9 : a.eval (.tmp 9) = _ := ev_tmp hu9
    refine st3 ho hwt (v := .agg #[.int .i64 F, .slice Ax m cx]) (w' := w) ?_ (hK _ w rfl (Below.refl _ _))
    have k0 : w.cell? ⟨gx, 0, none⟩ = some (.int .i64 F) := (hBx.below hbl hBx.lt).cell rfl
    have k1 : w.cell? ⟨gx, 1, none⟩ = some (.slice Ax m cx) := (hBx.below hbl hBx.lt).cell rfl
    unfold execOp
    simp only [hop, Option.map_some, Option.map_none, e9]
    first | rfl | (go_simp; done) | (go_simp; simp; done) | (go_simp; intro h; omega)
  | 7, _, hs, ho, hop, hds, hdep, hK =>
    have hop : o.op = .load 24 (.tmp 11) := Option.some.inj hop
    have hu11 : a.tmps[11]? = some (.pointer (some ⟨gy, 0, none⟩)) := (hbase.2.2 11 (by decide)).trans x11
    have e11 : a.eval (.tmp 11) = _ := ev_tmp hu11
    refine st3 ho hwt (v := .agg #[.int .i64 F, .slice Ay m cy]) (w' := w) ?_ (hK _ w rfl (Below.refl _ _))
    have k0 : w.cell? ⟨gy, 0, none⟩ = some (.int .i64 F) := (hBy.below hbl hBy.lt).cell rfl
    have k1 : w.cell? ⟨gy, 1, none⟩ = some (.slice Ay m cy) := (hBy.below hbl hBy.lt).cell rfl
    unfold execOp
    simp only [hop, Option.map_some, Option.map_none, e11]
    first | rfl | (go_simp; done) | (go_simp; simp; done) | (go_simp; intro h; omega)
  | 8, _, hs, ho, hop, hds, hdep, hK =>
    have hop : o.op = .call { callee := .value (.func 22), args := #[.tmp 36, .tmp 37], argTypes := #[24, 24] } := Option.some.inj hop
    obtain ⟨u36, hu36, hv36⟩ := hdep 6 (by decide)
    have hv36' : u36 = .agg #[.int .i64 F, .slice Ax m cx] := hv36
    subst hv36'
    have e36 : a.eval (.tmp 36) = _ := ev_tmp hu36
    obtain ⟨u37, hu37, hv37⟩ := hdep 7 (by decide)
    have hv37' : u37 = .agg #[.int .i64 F, .slice Ay m cy] := hv37
    subst hv37'
    have e37 : a.eval (.tmp 37) = _ := ev_tmp hu37
    refine st3_call ho hwt (f := 22) (vals := #[.agg #[.int .i64 F, .slice Ax m cx], .agg #[.int .i64 F, .slice Ay m cy]]) (Z := fun v w' => v = .bool true ∧ Below w.heap.size w w') ?_ ?_ ?_
    · unfold execOp
      simp only [hop, e36, e37, resolve, invoke, Sem.run_bind, Sem.run_pure, Result.andThen_ok, List.map_toArray, List.map_cons, List.map_nil]
      first | rfl | exact enters_of Try.func22 (by kernel_rfl) rfl _ _
    · exact (same_any F F Ax Ay m m cx cy L L w (hAx.after hbl) (hAy.after hbl)).mono fun e w' ⟨he, h2⟩ => ⟨_, he, congrArg Value.bool (by simp), h2⟩
    · rintro v w' ⟨h1, h2⟩
      exact hK v w' h1 h2
  | 9, _, hs, ho, hop, hds, hdep, hK =>
    have hop : o.op = .unOp .not 4 (.tmp 38) := Option.some.inj hop
    obtain ⟨u38, hu38, hv38⟩ := hdep 8 (by decide)
    have hv38' : u38 = .bool true := hv38
    subst hv38'
    have e38 : a.eval (.tmp 38) = _ := ev_tmp hu38
    refine st3 ho hwt (v := .bool false) (w' := w) ?_ (hK _ w rfl (Below.refl _ _))
    unfold execOp
    simp only [hop, e38]
    first | rfl | (go_simp; done) | (go_simp; simp; done) | (go_simp; intro h; omega)
  | 10, _, hs, ho, hop, hds, hdep, hK =>
    have hop : o.op = .pick (.tmp 35) (.const (.bool true)) (.tmp 39) := Option.some.inj hop
    obtain ⟨u35, hu35, hv35⟩ := hdep 5 (by decide)
    have hv35' : u35 = .bool false := hv35
    subst hv35'
    have e35 : a.eval (.tmp 35) = _ := ev_tmp hu35
    obtain ⟨u39, hu39, hv39⟩ := hdep 9 (by decide)
    have hv39' : u39 = .bool false := hv39
    subst hv39'
    have e39 : a.eval (.tmp 39) = _ := ev_tmp hu39
    refine st3 ho hwt (v := .bool false) (w' := w) ?_ (hK _ w rfl (Below.refl _ _))
    unfold execOp
    simp only [hop, e35, e39]
    first | rfl | (go_simp; done) | (go_simp; simp; done) | (go_simp; intro h; omega)
  | 11, _, hs, ho, hop, hds, hdep, hK =>
    have hop : o.op = .move (.tmp 40) := Option.some.inj hop
    obtain ⟨u40, hu40, hv40⟩ := hdep 10 (by decide)
    have hv40' : u40 = .bool false := hv40
    subst hv40'
    have e40 : a.eval (.tmp 40) = _ := ev_tmp hu40
    refine st3 ho hwt (v := _) (w' := w) ?_ (hK _ w rfl (Below.refl _ _))
    unfold execOp
    rw [hop, ← e40]
    rfl
  | 12, _, hs, ho, hop, hds, hdep, hK =>
    have hop : o.op = .move (.tmp 10) := Option.some.inj hop
    have hu10 : a.tmps[10]? = some (.int .i64 E) := (hbase.2.2 10 (by decide)).trans x10
    have e10 : a.eval (.tmp 10) = _ := ev_tmp hu10
    refine st3 ho hwt (v := _) (w' := w) ?_ (hK _ w rfl (Below.refl _ _))
    unfold execOp
    rw [hop, ← e10]
    rfl
  | 13, _, hs, ho, hop, hds, hdep, hK =>
    have hop : o.op = .move (.tmp 12) := Option.some.inj hop
    have hu12 : a.tmps[12]? = some (.int .i64 E) := (hbase.2.2 12 (by decide)).trans x12
    have e12 : a.eval (.tmp 12) = _ := ev_tmp hu12
    refine st3 ho hwt (v := _) (w' := w) ?_ (hK _ w rfl (Below.refl _ _))
    unfold execOp
    rw [hop, ← e12]
    rfl
  | 14, _, hs, ho, hop, hds, hdep, hK =>
    have hop : o.op = .binOp .neq 27 (.tmp 42) (.tmp 43) 27 := Option.some.inj hop
    obtain ⟨u42, hu42, hv42⟩ := hdep 12 (by decide)
    have hv42' : u42 = .int .i64 E := hv42
    subst hv42'
    have e42 : a.eval (.tmp 42) = _ := ev_tmp hu42
    obtain ⟨u43, hu43, hv43⟩ := hdep 13 (by decide)
    have hv43' : u43 = .int .i64 E := hv43
    subst hv43'
    have e43 : a.eval (.tmp 43) = _ := ev_tmp hu43
    refine st3 ho hwt (v := .bool false) (w' := w) ?_ (hK _ w rfl (Below.refl _ _))
    unfold execOp
    simp only [hop, e42, e43]
    first | rfl | (go_simp; done) | (go_simp; simp; done) | (go_simp; intro h; omega)
  | 15, _, hs, ho, hop, hds, hdep, hK =>
    have hop : o.op = .pick (.tmp 41) (.const (.bool true)) (.tmp 44) := Option.some.inj hop
    obtain ⟨u41, hu41, hv41⟩ := hdep 11 (by decide)
    have hv41' : u41 = .bool false := hv41
    subst hv41'
    have e41 : a.eval (.tmp 41) = _ := ev_tmp hu41
    obtain ⟨u44, hu44, hv44⟩ := hdep 14 (by decide)
    have hv44' : u44 = .bool false := hv44
    subst hv44'
    have e44 : a.eval (.tmp 44) = _ := ev_tmp hu44
    refine st3 ho hwt (v := .bool false) (w' := w) ?_ (hK _ w rfl (Below.refl _ _))
    unfold execOp
    simp only [hop, e41, e44]
    first | rfl | (go_simp; done) | (go_simp; simp; done) | (go_simp; intro h; omega)
  | i + 16, hi, _, _, _, _, _, _ => exact absurd hi (by omega)
end Go.Proofs.Ytjibbbfpbflgmaa
