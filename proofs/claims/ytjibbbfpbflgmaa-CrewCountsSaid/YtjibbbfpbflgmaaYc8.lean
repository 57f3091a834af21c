/-
  What the region of CrewCounts that compares does, in whichever order its operations come up. (Written by tools/gen_counts8.py.)
-/
import Derived.Test.YtjibbbfpbflgmaaArgs8
import Derived.Test.YtjibbbfpbflgmaaRk9
import Derived.Test.YtjibbbfpbflgmaaWorks8
namespace Go.Proofs.Ytjibbbfpbflgmaa
open Go.RowKit Go.Shelf CrewP
set_option linter.unusedVariables false
set_option linter.unusedSimpArgs false

def yaR (gi gc : Nat) (f : Int) (A2 A : Option Addr) (n c2 c : Nat) (us : List Int) (A3 Al : Option Addr) (nl c3 cl : Nat) (ls : List Int) (q : Nat) (r1 r2 : Int) : Nat → Value → World → Prop
  | 0 => fun v w => v = .agg #[.int .i64 f, .slice A2 n c2]
  | 1 => fun v w => v = .slice A3 nl c3
  | 2 => fun v w => v = .int .i64 q
  | 3 => fun v w => v = .agg #[.int .i64 f, .slice A n c]
  | 4 => fun v w => v = .slice Al nl cl
  | 5 => fun v w => v = .int .i64 q
  | 6 => fun v w => v = .bool true
  | 7 => fun v w => v = .bool true
  | 8 => fun v w => v = .int .i64 r1
  | 9 => fun v w => v = .int .i64 r1
  | 10 => fun v w => v = .bool true
  | 11 => fun v w => v = .bool true
  | 12 => fun v w => v = .bool true
  | 13 => fun v w => v = .int .i64 r2
  | 14 => fun v w => v = .int .i64 r2
  | 15 => fun v w => v = .bool true
  | 16 => fun v w => v = .bool true
  | 17 => fun v w => v = .bool true
  | 18 => fun v w => v = .agg #[.int .i64 f, .slice A2 n c2]
  | 19 => fun v w => v = .agg #[.int .i64 f, .slice A n c]
  | 20 => fun v w => v = .bool true
  | 21 => fun v w => v = .bool true
  | 22 => fun v w => v = .bool true
  | 23 => fun v w => v = .slice A3 nl c3
  | 24 => fun v w => v = .slice Al nl cl
  | 25 => fun v w => v = .bool true
  | 26 => fun v w => v = .bool true
  | 27 => fun v w => v = .bool true
  | 28 => fun v w => v = .bool true
  | 29 => fun v w => v = .bool true
  | 30 => fun v w => v = .bool true
  | _ => fun _ _ => True
def yaD (i : Nat) : Nat := ([31, 32, 33, 34, 35, 36, 37, 38, 39, 40, 41, 42, 43, 44, 45, 46, 47, 48, 49, 50, 51, 52, 53, 54, 55, 56, 57, 58, 59, 60, 6] : List Nat).getD i 0
def yaG : Nat → Option Bool
  | 7 => some true
  | 12 => some true
  | 17 => some true
  | 22 => some true
  | 27 => some true
  | _ => none
def yaS (i : Nat) : Bool := ([] : List Nat).contains i
theorem ya_gb (gi gc : Nat) (f : Int) (A2 A : Option Addr) (n c2 c : Nat) (us : List Int) (A3 Al : Option Addr) (nl c3 cl : Nat) (ls : List Int) (q : Nat) (r1 r2 : Int) : ∀ i b v w, yaG i = some b → yaR gi gc f A2 A n c2 c us A3 Al nl c3 cl ls q r1 r2 i v w → v = .bool b := by
  intro i b v w h hR
  unfold yaG at h
  split at h
  all_goals first | (injection h with h; subst h; exact hR) | cases h
theorem ya_sk (gi gc : Nat) (f : Int) (A2 A : Option Addr) (n c2 c : Nat) (us : List Int) (A3 Al : Option Addr) (nl c3 cl : Nat) (ls : List Int) (q : Nat) (r1 r2 : Int) : ∀ i w, yaS i = true → yaR gi gc f A2 A n c2 c us A3 Al nl c3 cl ls q r1 r2 i undef w := by
  intro i w h
  simp [yaS] at h
theorem ya_on (gi gc : Nat) (f : Int) (A2 A : Option Addr) (n c2 c : Nat) (us : List Int) (A3 Al : Option Addr) (nl c3 cl : Nat) (ls : List Int) (q : Nat) (r1 r2 : Int) : ∀ i v w w', yaR gi gc f A2 A n c2 c us A3 Al nl c3 cl ls q r1 r2 i v w → Below w.heap.size w w' → yaR gi gc f A2 A n c2 c us A3 Al nl c3 cl ls q r1 r2 i v w'
  | 0, v, w, w', h, _ => h
  | 1, v, w, w', h, _ => h
  | 2, v, w, w', h, _ => h
  | 3, v, w, w', h, _ => h
  | 4, v, w, w', h, _ => h
  | 5, v, w, w', h, _ => h
  | 6, v, w, w', h, _ => h
  | 7, v, w, w', h, _ => h
  | 8, v, w, w', h, _ => h
  | 9, v, w, w', h, _ => h
  | 10, v, w, w', h, _ => h
  | 11, v, w, w', h, _ => h
  | 12, v, w, w', h, _ => h
  | 13, v, w, w', h, _ => h
  | 14, v, w, w', h, _ => h
  | 15, v, w, w', h, _ => h
  | 16, v, w, w', h, _ => h
  | 17, v, w, w', h, _ => h
  | 18, v, w, w', h, _ => h
  | 19, v, w, w', h, _ => h
  | 20, v, w, w', h, _ => h
  | 21, v, w, w', h, _ => h
  | 22, v, w, w', h, _ => h
  | 23, v, w, w', h, _ => h
  | 24, v, w, w', h, _ => h
  | 25, v, w, w', h, _ => h
  | 26, v, w, w', h, _ => h
  | 27, v, w, w', h, _ => h
  | 28, v, w, w', h, _ => h
  | 29, v, w, w', h, _ => h
  | 30, v, w, w', h, _ => h
  | i + 31, v, w, w', h, hb => trivial
def yaOps : List Op := [.load 24 (.tmp 7),
  .move (.tmp 8),
  .call { callee := .value (.func 39), args := #[.tmp 31, .tmp 32], argTypes := #[24, 22] },
  .load 24 (.tmp 3),
  .move (.tmp 1),
  .call { callee := .value (.func 40), args := #[.tmp 34, .tmp 35], argTypes := #[24, 22] },
  .binOp .eql 3 (.tmp 33) (.tmp 36) 3,
  .move (.tmp 37),
  .move (.tmp 9),
  .move (.tmp 11),
  .binOp .eql 3 (.tmp 39) (.tmp 40) 3,
  .pick (.tmp 38) (.tmp 41) (.const (.bool false)),
  .move (.tmp 42),
  .move (.tmp 10),
  .move (.tmp 12),
  .binOp .eql 27 (.tmp 44) (.tmp 45) 27,
  .pick (.tmp 43) (.tmp 46) (.const (.bool false)),
  .move (.tmp 47),
  .load 24 (.tmp 7),
  .load 24 (.tmp 3),
  .call { callee := .value (.func 22), args := #[.tmp 49, .tmp 50], argTypes := #[24, 24] },
  .pick (.tmp 48) (.tmp 51) (.const (.bool false)),
  .move (.tmp 52),
  .move (.tmp 8),
  .move (.tmp 1),
  .call { callee := .value (.func 23), args := #[.tmp 54, .tmp 55], argTypes := #[22, 22] },
  .pick (.tmp 53) (.tmp 56) (.const (.bool false)),
  .move (.tmp 57),
  .call { callee := .value (.func 24), args := #[], argTypes := #[] },
  .pick (.tmp 58) (.tmp 59) (.const (.bool false)),
  .assign (.tmp 60)]
def yaNeeds : Nat → List Nat
  | 0 => []
  | 1 => []
  | 2 => [0, 1]
  | 3 => []
  | 4 => []
  | 5 => [3, 4]
  | 6 => [2, 5]
  | 7 => [6]
  | 8 => []
  | 9 => []
  | 10 => [8, 9]
  | 11 => [7, 10]
  | 12 => [11]
  | 13 => []
  | 14 => []
  | 15 => [13, 14]
  | 16 => [12, 15]
  | 17 => [16]
  | 18 => []
  | 19 => []
  | 20 => [18, 19]
  | 21 => [17, 20]
  | 22 => [21]
  | 23 => []
  | 24 => []
  | 25 => [23, 24]
  | 26 => [22, 25]
  | 27 => [26]
  | 28 => []
  | 29 => [27, 28]
  | 30 => [29]
  | _ => []
set_option maxRecDepth 100000 in
set_option maxHeartbeats 3200000 in
theorem ya_step {ops : Array Oper} {Q : Exit → Act → World → Prop} {a0 : Act} {w0 : World} (gi gc : Nat) (f : Int) (A2 A : Option Addr) (n c2 c : Nat) (us : List Int) (A3 Al : Option Addr) (nl c3 cl : Nat) (ls : List Int) (q : Nat) (r1 r2 : Int) (hops : ((List.range 31).map fun i => (ops[i]?).map Oper.op) = yaOps.map some)
    (hnd : ((List.range 31).all fun i => (yaNeeds i).all fun j => ((ops[i]?).map fun o => o.after.any fun e => Region.binds .any e && (e.on == j)).getD false) = true)
    (x7 : a0.tmps[7]? = some (.pointer (some ⟨gi, 0, none⟩))) (x3 : a0.tmps[3]? = some (.pointer (some ⟨gc, 0, none⟩))) (x8 : a0.tmps[8]? = some (.slice A3 nl c3)) (x1 : a0.tmps[1]? = some (.slice Al nl cl)) (x9 : a0.tmps[9]? = some (.int .i64 r1)) (x11 : a0.tmps[11]? = some (.int .i64 r1)) (x10 : a0.tmps[10]? = some (.int .i64 r2)) (x12 : a0.tmps[12]? = some (.int .i64 r2))
    (hBi : Blk w0 gi 24 [.int .i64 f, .slice A2 n c2]) (hB : Blk w0 gc 24 [.int .i64 f, .slice A n c]) (hA2 : ArgI w0 A2 n c2 us) (hA : ArgI w0 A n c us) (hA3 : ArgI w0 A3 nl c3 ls) (hAl : ArgI w0 Al nl cl ls) (hq : ((votesR f us ls : Nat) : Int) = q) :
    ∀ i o, i < 31 → yaS i = false → ops[i]? = some o → o.dst = some (yaD i) → ∀ a w, Base yaD 31 a0 a → Below w0.heap.size w0 w → Region.wanted o (yielded ops a.tmps) = true →
      (∀ j, (o.after.any fun e => Region.binds .any e && (e.on == j)) = true → Has yaD (yaR gi gc f A2 A n c2 c us A3 Al nl c3 cl ls q r1 r2) j a w) →
      ∀ K : Act → World → Prop, (∀ v w', yaR gi gc f A2 A n c2 c us A3 Al nl c3 cl ls q r1 r2 i v w' → Below w.heap.size w w' → K (a.put o.dst v) w') → wpOp Try.prog ops Q i K a w := by
  intro i o hi hs ho hds a w hbase hbl hwt hdep0 K hK
  have hop : some o.op = yaOps[i]? := by
    have h1 : ((List.range 31).map fun i => (ops[i]?).map Oper.op)[i]? = some (some o.op) := by
      rw [List.getElem?_map, List.getElem?_range hi]; simp only [Option.map_some, ho]
    rw [hops, List.getElem?_map] at h1
    cases h2 : yaOps[i]? with
    | none => rw [h2] at h1; cases h1
    | some y => rw [h2] at h1; simp only [Option.map_some, Option.some.injEq] at h1; rw [h1]
  have hdep : ∀ j, j ∈ yaNeeds i → Has yaD (yaR gi gc f A2 A n c2 c us A3 Al nl c3 cl ls q r1 r2) j a w := fun j hj => by
    have h1 := List.all_eq_true.1 (List.all_eq_true.1 hnd i (List.mem_range.2 hi)) j hj
    rw [ho] at h1
    exact hdep0 j h1
  clear hdep0 hops hnd
  match i, hi, hs, ho, hop, hds, hdep, hK with
  | 0, _, hs, ho, hop, hds, hdep, hK =>
    have hop : o.op = .load 24 (.tmp 7) := Option.some.inj hop
    have hu7 : a.tmps[7]? = some (.pointer (some ⟨gi, 0, none⟩)) := (hbase.2.2 7 (by decide)).trans x7
    have e7 : a.eval (.tmp 7) = _ := ev_tmp hu7
    refine st3 ho hwt (v := .agg #[.int .i64 f, .slice A2 n c2]) (w' := w) ?_ (hK _ w rfl (Below.refl _ _))
    have k0 : w.cell? ⟨gi, 0, none⟩ = some (.int .i64 f) := (hBi.below hbl hBi.lt).cell rfl
    have k1 : w.cell? ⟨gi, 1, none⟩ = some (.slice A2 n c2) := (hBi.below hbl hBi.lt).cell rfl
    unfold execOp
    simp only [hop, Option.map_some, Option.map_none, e7]
    first | rfl | (go_simp; done) | (go_simp; simp; done) | (go_simp; intro h; omega)
  | 1, _, hs, ho, hop, hds, hdep, hK =>
    have hop : o.op = .move (.tmp 8) := Option.some.inj hop
    have hu8 : a.tmps[8]? = some (.slice A3 nl c3) := (hbase.2.2 8 (by decide)).trans x8
    have e8 : a.eval (.tmp 8) = _ := ev_tmp hu8
    refine st3 ho hwt (v := _) (w' := w) ?_ (hK _ w rfl (Below.refl _ _))
    unfold execOp
    rw [hop, ← e8]
    rfl
  | 2, _, hs, ho, hop, hds, hdep, hK =>
    have hop : o.op = .call { callee := .value (.func 39), args := #[.tmp 31, .tmp 32], argTypes := #[24, 22] } := Option.some.inj hop
    obtain ⟨u31, hu31, hv31⟩ := hdep 0 (by decide)
    have hv31' : u31 = .agg #[.int .i64 f, .slice A2 n c2] := hv31
    subst hv31'
    have e31 : a.eval (.tmp 31) = _ := ev_tmp hu31
    obtain ⟨u32, hu32, hv32⟩ := hdep 1 (by decide)
    have hv32' : u32 = .slice A3 nl c3 := hv32
    subst hv32'
    have e32 : a.eval (.tmp 32) = _ := ev_tmp hu32
    refine st3_call ho hwt (f := 39) (vals := #[.agg #[.int .i64 f, .slice A2 n c2], .slice A3 nl c3]) (Z := fun v w' => v = .int .i64 q ∧ Below w.heap.size w w') ?_ ?_ ?_
    · unfold execOp
      simp only [hop, e31, e32, resolve, invoke, Sem.run_bind, Sem.run_pure, Result.andThen_ok, List.map_toArray, List.map_cons, List.map_nil]
      first | rfl | exact enters_of Try.func39 (by kernel_rfl) rfl _ _
    · exact (votes_any f A2 n c2 us w (hA2.after hbl) A3 nl c3 ls (hA3.after hbl)).mono fun e w' ⟨he, h2⟩ => ⟨_, he, congrArg (Value.int .i64) hq, h2⟩
    · rintro v w' ⟨h1, h2⟩
      exact hK v w' h1 h2
  | 3, _, hs, ho, hop, hds, hdep, hK =>
    have hop : o.op = .load 24 (.tmp 3) := Option.some.inj hop
    have hu3 : a.tmps[3]? = some (.pointer (some ⟨gc, 0, none⟩)) := (hbase.2.2 3 (by decide)).trans x3
    have e3 : a.eval (.tmp 3) = _ := ev_tmp hu3
    refine st3 ho hwt (v := .agg #[.int .i64 f, .slice A n c]) (w' := w) ?_ (hK _ w rfl (Below.refl _ _))
    have k0 : w.cell? ⟨gc, 0, none⟩ = some (.int .i64 f) := (hB.below hbl hB.lt).cell rfl
    have k1 : w.cell? ⟨gc, 1, none⟩ = some (.slice A n c) := (hB.below hbl hB.lt).cell rfl
    unfold execOp
    simp only [hop, Option.map_some, Option.map_none, e3]
    first | rfl | (go_simp; done) | (go_simp; simp; done) | (go_simp; intro h; omega)
  | 4, _, hs, ho, hop, hds, hdep, hK =>
    have hop : o.op = .move (.tmp 1) := Option.some.inj hop
    have hu1 : a.tmps[1]? = some (.slice Al nl cl) := (hbase.2.2 1 (by decide)).trans x1
    have e1 : a.eval (.tmp 1) = _ := ev_tmp hu1
    refine st3 ho hwt (v := _) (w' := w) ?_ (hK _ w rfl (Below.refl _ _))
    unfold execOp
    rw [hop, ← e1]
    rfl
  | 5, _, hs, ho, hop, hds, hdep, hK =>
    have hop : o.op = .call { callee := .value (.func 40), args := #[.tmp 34, .tmp 35], argTypes := #[24, 22] } := Option.some.inj hop
    obtain ⟨u34, hu34, hv34⟩ := hdep 3 (by decide)
    have hv34' : u34 = .agg #[.int .i64 f, .slice A n c] := hv34
    subst hv34'
    have e34 : a.eval (.tmp 34) = _ := ev_tmp hu34
    obtain ⟨u35, hu35, hv35⟩ := hdep 4 (by decide)
    have hv35' : u35 = .slice Al nl cl := hv35
    subst hv35'
    have e35 : a.eval (.tmp 35) = _ := ev_tmp hu35
    refine st3_call ho hwt (f := 40) (vals := #[.agg #[.int .i64 f, .slice A n c], .slice Al nl cl]) (Z := fun v w' => v = .int .i64 q ∧ Below w.heap.size w w') ?_ ?_ ?_
    · unfold execOp
      simp only [hop, e34, e35, resolve, invoke, Sem.run_bind, Sem.run_pure, Result.andThen_ok, List.map_toArray, List.map_cons, List.map_nil]
      first | rfl | exact enters_of Try.func40 (by kernel_rfl) rfl _ _
    · exact (rvotes_any f A n c us w (hA.after hbl) Al nl cl ls (hAl.after hbl)).mono fun e w' ⟨he, h2⟩ => ⟨_, he, congrArg (Value.int .i64) hq, h2⟩
    · rintro v w' ⟨h1, h2⟩
      exact hK v w' h1 h2
  | 6, _, hs, ho, hop, hds, hdep, hK =>
    have hop : o.op = .binOp .eql 3 (.tmp 33) (.tmp 36) 3 := Option.some.inj hop
    obtain ⟨u33, hu33, hv33⟩ := hdep 2 (by decide)
    have hv33' : u33 = .int .i64 q := hv33
    subst hv33'
    have e33 : a.eval (.tmp 33) = _ := ev_tmp hu33
    obtain ⟨u36, hu36, hv36⟩ := hdep 5 (by decide)
    have hv36' : u36 = .int .i64 q := hv36
    subst hv36'
    have e36 : a.eval (.tmp 36) = _ := ev_tmp hu36
    refine st3 ho hwt (v := .bool true) (w' := w) ?_ (hK _ w rfl (Below.refl _ _))
    unfold execOp
    simp only [hop, e33, e36]
    first | rfl | (go_simp; done) | (go_simp; simp; done) | (go_simp; intro h; omega)
  | 7, _, hs, ho, hop, hds, hdep, hK =>
    have hop : o.op = .move (.tmp 37) := Option.some.inj hop
    obtain ⟨u37, hu37, hv37⟩ := hdep 6 (by decide)
    have hv37' : u37 = .bool true := hv37
    subst hv37'
    have e37 : a.eval (.tmp 37) = _ := ev_tmp hu37
    refine st3 ho hwt (v := _) (w' := w) ?_ (hK _ w rfl (Below.refl _ _))
    unfold execOp
    rw [hop, ← e37]
    rfl
  | 8, _, hs, ho, hop, hds, hdep, hK =>
    have hop : o.op = .move (.tmp 9) := Option.some.inj hop
    have hu9 : a.tmps[9]? = some (.int .i64 r1) := (hbase.2.2 9 (by decide)).trans x9
    have e9 : a.eval (.tmp 9) = _ := ev_tmp hu9
    refine st3 ho hwt (v := _) (w' := w) ?_ (hK _ w rfl (Below.refl _ _))
    unfold execOp
    rw [hop, ← e9]
    rfl
  | 9, _, hs, ho, hop, hds, hdep, hK =>
    have hop : o.op = .move (.tmp 11) := Option.some.inj hop
    have hu11 : a.tmps[11]? = some (.int .i64 r1) := (hbase.2.2 11 (by decide)).trans x11
    have e11 : a.eval (.tmp 11) = _ := ev_tmp hu11
    refine st3 ho hwt (v := _) (w' := w) ?_ (hK _ w rfl (Below.refl _ _))
    unfold execOp
    rw [hop, ← e11]
    rfl
  | 10, _, hs, ho, hop, hds, hdep, hK =>
    have hop : o.op = .binOp .eql 3 (.tmp 39) (.tmp 40) 3 := Option.some.inj hop
    obtain ⟨u39, hu39, hv39⟩ := hdep 8 (by decide)
    have hv39' : u39 = .int .i64 r1 := hv39
    subst hv39'
    have e39 : a.eval (.tmp 39) = _ := ev_tmp hu39
    obtain ⟨u40, hu40, hv40⟩ := hdep 9 (by decide)
    have hv40' : u40 = .int .i64 r1 := hv40
    subst hv40'
    have e40 : a.eval (.tmp 40) = _ := ev_tmp hu40
    refine st3 ho hwt (v := .bool true) (w' := w) ?_ (hK _ w rfl (Below.refl _ _))
    unfold execOp
    simp only [hop, e39, e40]
    first | rfl | (go_simp; done) | (go_simp; simp; done) | (go_simp; intro h; omega)
  | 11, _, hs, ho, hop, hds, hdep, hK =>
    have hop : o.op = .pick (.tmp 38) (.tmp 41) (.const (.bool false)) := Option.some.inj hop
    obtain ⟨u38, hu38, hv38⟩ := hdep 7 (by decide)
    have hv38' : u38 = .bool true := hv38
    subst hv38'
    have e38 : a.eval (.tmp 38) = _ := ev_tmp hu38
    obtain ⟨u41, hu41, hv41⟩ := hdep 10 (by decide)
    have hv41' : u41 = .bool true := hv41
    subst hv41'
    have e41 : a.eval (.tmp 41) = _ := ev_tmp hu41
    refine st3 ho hwt (v := .bool true) (w' := w) ?_ (hK _ w rfl (Below.refl _ _))
    unfold execOp
    simp only [hop, e38, e41]
    first | rfl | (go_simp; done) | (go_simp; simp; done) | (go_simp; intro h; omega)
  | 12, _, hs, ho, hop, hds, hdep, hK =>
    have hop : o.op = .move (.tmp 42) := Option.some.inj hop
    obtain ⟨u42, hu42, hv42⟩ := hdep 11 (by decide)
    have hv42' : u42 = .bool true := hv42
    subst hv42'
    have e42 : a.eval (.tmp 42) = _ := ev_tmp hu42
    refine st3 ho hwt (v := _) (w' := w) ?_ (hK _ w rfl (Below.refl _ _))
    unfold execOp
    rw [hop, ← e42]
    rfl
  | 13, _, hs, ho, hop, hds, hdep, hK =>
    have hop : o.op = .move (.tmp 10) := Option.some.inj hop
    have hu10 : a.tmps[10]? = some (.int .i64 r2) := (hbase.2.2 10 (by decide)).trans x10
    have e10 : a.eval (.tmp 10) = _ := ev_tmp hu10
    refine st3 ho hwt (v := _) (w' := w) ?_ (hK _ w rfl (Below.refl _ _))
    unfold execOp
    rw [hop, ← e10]
    rfl
  | 14, _, hs, ho, hop, hds, hdep, hK =>
    have hop : o.op = .move (.tmp 12) := Option.some.inj hop
    have hu12 : a.tmps[12]? = some (.int .i64 r2) := (hbase.2.2 12 (by decide)).trans x12
    have e12 : a.eval (.tmp 12) = _ := ev_tmp hu12
    refine st3 ho hwt (v := _) (w' := w) ?_ (hK _ w rfl (Below.refl _ _))
    unfold execOp
    rw [hop, ← e12]
    rfl
  | 15, _, hs, ho, hop, hds, hdep, hK =>
    have hop : o.op = .binOp .eql 27 (.tmp 44) (.tmp 45) 27 := Option.some.inj hop
    obtain ⟨u44, hu44, hv44⟩ := hdep 13 (by decide)
    have hv44' : u44 = .int .i64 r2 := hv44
    subst hv44'
    have e44 : a.eval (.tmp 44) = _ := ev_tmp hu44
    obtain ⟨u45, hu45, hv45⟩ := hdep 14 (by decide)
    have hv45' : u45 = .int .i64 r2 := hv45
    subst hv45'
    have e45 : a.eval (.tmp 45) = _ := ev_tmp hu45
    refine st3 ho hwt (v := .bool true) (w' := w) ?_ (hK _ w rfl (Below.refl _ _))
    unfold execOp
    simp only [hop, e44, e45]
    first | rfl | (go_simp; done) | (go_simp; simp; done) | (go_simp; intro h; omega)
  | 16, _, hs, ho, hop, hds, hdep, hK =>
    have hop : o.op = .pick (.tmp 43) (.tmp 46) (.const (.bool false)) := Option.some.inj hop
    obtain ⟨u43, hu43, hv43⟩ := hdep 12 (by decide)
    have hv43' : u43 = .bool true := hv43
    subst hv43'
    have e43 : a.eval (.tmp 43) = _ := ev_tmp hu43
    obtain ⟨u46, hu46, hv46⟩ := hdep 15 (by decide)
    have hv46' : u46 = .bool true := hv46
    subst hv46'
    have e46 : a.eval (.tmp 46) = _ := ev_tmp hu46
    refine st3 ho hwt (v := .bool true) (w' := w) ?_ (hK _ w rfl (Below.refl _ _))
    unfold execOp
    simp only [hop, e43, e46]
    first | rfl | (go_simp; done) | (go_simp; simp; done) | (go_simp; intro h; omega)
  | 17, _, hs, ho, hop, hds, hdep, hK =>
    have hop : o.op = .move (.tmp 47) := Option.some.inj hop
    obtain ⟨u47, hu47, hv47⟩ := hdep 16 (by decide)
    have hv47' : u47 = .bool true := hv47
    subst hv47'
    have e47 : a.eval (.tmp 47) = _ := ev_tmp hu47
    refine st3 ho hwt (v := _) (w' := w) ?_ (hK _ w rfl (Below.refl _ _))
    unfold execOp
    rw [hop, ← e47]
    rfl
  | 18, _, hs, ho, hop, hds, hdep, hK =>
    have hop : o.op = .load 24 (.tmp 7) := Option.some.inj hop
    have hu7 : a.tmps[7]? = some (.pointer (some ⟨gi, 0, none⟩)) := (hbase.2.2 7 (by decide)).trans x7
    have e7 : a.eval (.tmp 7) = _ := ev_tmp hu7
    refine st3 ho hwt (v := .agg #[.int .i64 f, .slice A2 n c2]) (w' := w) ?_ (hK _ w rfl (Below.refl _ _))
    have k0 : w.cell? ⟨gi, 0, none⟩ = some (.int .i64 f) := (hBi.below hbl hBi.lt).cell rfl
    have k1 : w.cell? ⟨gi, 1, none⟩ = some (.slice A2 n c2) := (hBi.below hbl hBi.lt).cell rfl
    unfold execOp
    simp only [hop, Option.map_some, Option.map_none, e7]
    first | rfl | (go_simp; done) | (go_simp; simp; done) | (go_simp; intro h; omega)
  | 19, _, hs, ho, hop, hds, hdep, hK =>
    have hop : o.op = .load 24 (.tmp 3) := Option.some.inj hop
    have hu3 : a.tmps[3]? = some (.pointer (some ⟨gc, 0, none⟩)) := (hbase.2.2 3 (by decide)).trans x3
    have e3 : a.eval (.tmp 3) = _ := ev_tmp hu3
    refine st3 ho hwt (v := .agg #[.int .i64 f, .slice A n c]) (w' := w) ?_ (hK _ w rfl (Below.refl _ _))
    have k0 : w.cell? ⟨gc, 0, none⟩ = some (.int .i64 f) := (hB.below hbl hB.lt).cell rfl
    have k1 : w.cell? ⟨gc, 1, none⟩ = some (.slice A n c) := (hB.below hbl hB.lt).cell rfl
    unfold execOp
    simp only [hop, Option.map_some, Option.map_none, e3]
    first | rfl | (go_simp; done) | (go_simp; simp; done) | (go_simp; intro h; omega)
  | 20, _, hs, ho, hop, hds, hdep, hK =>
    have hop : o.op = .call { callee := .value (.func 22), args := #[.tmp 49, .tmp 50], argTypes := #[24, 24] } := Option.some.inj hop
    obtain ⟨u49, hu49, hv49⟩ := hdep 18 (by decide)
    have hv49' : u49 = .agg #[.int .i64 f, .slice A2 n c2] := hv49
    subst hv49'
    have e49 : a.eval (.tmp 49) = _ := ev_tmp hu49
    obtain ⟨u50, hu50, hv50⟩ := hdep 19 (by decide)
    have hv50' : u50 = .agg #[.int .i64 f, .slice A n c] := hv50
    subst hv50'
    have e50 : a.eval (.tmp 50) = _ := ev_tmp hu50
    refine st3_call ho hwt (f := 22) (vals := #[.agg #[.int .i64 f, .slice A2 n c2], .agg #[.int .i64 f, .slice A n c]]) (Z := fun v w' => v = .bool true ∧ Below w.heap.size w w') ?_ ?_ ?_
    · unfold execOp
      simp only [hop, e49, e50, resolve, invoke, Sem.run_bind, Sem.run_pure, Result.andThen_ok, List.map_toArray, List.map_cons, List.map_nil]
      first | rfl | exact enters_of Try.func22 (by kernel_rfl) rfl _ _
    · exact (same_any f f A2 A n n c2 c us us w (hA2.after hbl) (hA.after hbl)).mono fun e w' ⟨he, h2⟩ => ⟨_, he, congrArg Value.bool (by simp), h2⟩
    · rintro v w' ⟨h1, h2⟩
      exact hK v w' h1 h2
  | 21, _, hs, ho, hop, hds, hdep, hK =>
    have hop : o.op = .pick (.tmp 48) (.tmp 51) (.const (.bool false)) := Option.some.inj hop
    obtain ⟨u48, hu48, hv48⟩ := hdep 17 (by decide)
    have hv48' : u48 = .bool true := hv48
    subst hv48'
    have e48 : a.eval (.tmp 48) = _ := ev_tmp hu48
    obtain ⟨u51, hu51, hv51⟩ := hdep 20 (by decide)
    have hv51' : u51 = .bool true := hv51
    subst hv51'
    have e51 : a.eval (.tmp 51) = _ := ev_tmp hu51
    refine st3 ho hwt (v := .bool true) (w' := w) ?_ (hK _ w rfl (Below.refl _ _))
    unfold execOp
    simp only [hop, e48, e51]
    first | rfl | (go_simp; done) | (go_simp; simp; done) | (go_simp; intro h; omega)
  | 22, _, hs, ho, hop, hds, hdep, hK =>
    have hop : o.op = .move (.tmp 52) := Option.some.inj hop
    obtain ⟨u52, hu52, hv52⟩ := hdep 21 (by decide)
    have hv52' : u52 = .bool true := hv52
    subst hv52'
    have e52 : a.eval (.tmp 52) = _ := ev_tmp hu52
    refine st3 ho hwt (v := _) (w' := w) ?_ (hK _ w rfl (Below.refl _ _))
    unfold execOp
    rw [hop, ← e52]
    rfl
  | 23, _, hs, ho, hop, hds, hdep, hK =>
    have hop : o.op = .move (.tmp 8) := Option.some.inj hop
    have hu8 : a.tmps[8]? = some (.slice A3 nl c3) := (hbase.2.2 8 (by decide)).trans x8
    have e8 : a.eval (.tmp 8) = _ := ev_tmp hu8
    refine st3 ho hwt (v := _) (w' := w) ?_ (hK _ w rfl (Below.refl _ _))
    unfold execOp
    rw [hop, ← e8]
    rfl
  | 24, _, hs, ho, hop, hds, hdep, hK =>
    have hop : o.op = .move (.tmp 1) := Option.some.inj hop
    have hu1 : a.tmps[1]? = some (.slice Al nl cl) := (hbase.2.2 1 (by decide)).trans x1
    have e1 : a.eval (.tmp 1) = _ := ev_tmp hu1
    refine st3 ho hwt (v := _) (w' := w) ?_ (hK _ w rfl (Below.refl _ _))
    unfold execOp
    rw [hop, ← e1]
    rfl
  | 25, _, hs, ho, hop, hds, hdep, hK =>
    have hop : o.op = .call { callee := .value (.func 23), args := #[.tmp 54, .tmp 55], argTypes := #[22, 22] } := Option.some.inj hop
    obtain ⟨u54, hu54, hv54⟩ := hdep 23 (by decide)
    have hv54' : u54 = .slice A3 nl c3 := hv54
    subst hv54'
    have e54 : a.eval (.tmp 54) = _ := ev_tmp hu54
    obtain ⟨u55, hu55, hv55⟩ := hdep 24 (by decide)
    have hv55' : u55 = .slice Al nl cl := hv55
    subst hv55'
    have e55 : a.eval (.tmp 55) = _ := ev_tmp hu55
    refine st3_call ho hwt (f := 23) (vals := #[.slice A3 nl c3, .slice Al nl cl]) (Z := fun v w' => v = .bool true ∧ Below w.heap.size w w') ?_ ?_ ?_
    · unfold execOp
      simp only [hop, e54, e55, resolve, invoke, Sem.run_bind, Sem.run_pure, Result.andThen_ok, List.map_toArray, List.map_cons, List.map_nil]
      first | rfl | exact enters_of Try.func23 (by kernel_rfl) rfl _ _
    · exact (eqInts_any A3 Al nl nl c3 cl ls ls w (hA3.after hbl) (hAl.after hbl)).mono fun e w' ⟨he, h2⟩ => ⟨_, he, congrArg Value.bool (by simp), h2⟩
    · rintro v w' ⟨h1, h2⟩
      exact hK v w' h1 h2
  | 26, _, hs, ho, hop, hds, hdep, hK =>
    have hop : o.op = .pick (.tmp 53) (.tmp 56) (.const (.bool false)) := Option.some.inj hop
    obtain ⟨u53, hu53, hv53⟩ := hdep 22 (by decide)
    have hv53' : u53 = .bool true := hv53
    subst hv53'
    have e53 : a.eval (.tmp 53) = _ := ev_tmp hu53
    obtain ⟨u56, hu56, hv56⟩ := hdep 25 (by decide)
    have hv56' : u56 = .bool true := hv56
    subst hv56'
    have e56 : a.eval (.tmp 56) = _ := ev_tmp hu56
    refine st3 ho hwt (v := .bool true) (w' := w) ?_ (hK _ w rfl (Below.refl _ _))
    unfold execOp
    simp only [hop, e53, e56]
    first | rfl | (go_simp; done) | (go_simp; simp; done) | (go_simp; intro h; omega)
  | 27, _, hs, ho, hop, hds, hdep, hK =>
    have hop : o.op = .move (.tmp 57) := Option.some.inj hop
    obtain ⟨u57, hu57, hv57⟩ := hdep 26 (by decide)
    have hv57' : u57 = .bool true := hv57
    subst hv57'
    have e57 : a.eval (.tmp 57) = _ := ev_tmp hu57
    refine st3 ho hwt (v := _) (w' := w) ?_ (hK _ w rfl (Below.refl _ _))
    unfold execOp
    rw [hop, ← e57]
    rfl
  | 28, _, hs, ho, hop, hds, hdep, hK =>
    have hop : o.op = .call { callee := .value (.func 24), args := #[], argTypes := #[] } := Option.some.inj hop
    refine st3_call ho hwt (f := 24) (vals := #[]) (Z := fun v w' => v = .bool true ∧ Below w.heap.size w w') ?_ ?_ ?_
    · unfold execOp
      simp only [hop, resolve, invoke, Sem.run_bind, Sem.run_pure, Result.andThen_ok, List.map_toArray, List.map_cons, List.map_nil]
      first | rfl | exact enters_of Try.func24 (by kernel_rfl) rfl _ _
    · exact (works_any w).mono fun e w' ⟨he, h2⟩ => ⟨_, he, rfl, h2⟩
    · rintro v w' ⟨h1, h2⟩
      exact hK v w' h1 h2
  | 29, _, hs, ho, hop, hds, hdep, hK =>
    have hop : o.op = .pick (.tmp 58) (.tmp 59) (.const (.bool false)) := Option.some.inj hop
    obtain ⟨u58, hu58, hv58⟩ := hdep 27 (by decide)
    have hv58' : u58 = .bool true := hv58
    subst hv58'
    have e58 : a.eval (.tmp 58) = _ := ev_tmp hu58
    obtain ⟨u59, hu59, hv59⟩ := hdep 28 (by decide)
    have hv59' : u59 = .bool true := hv59
    subst hv59'
    have e59 : a.eval (.tmp 59) = _ := ev_tmp hu59
    refine st3 ho hwt (v := .bool true) (w' := w) ?_ (hK _ w rfl (Below.refl _ _))
    unfold execOp
    simp only [hop, e58, e59]
    first | rfl | (go_simp; done) | (go_simp; simp; done) | (go_simp; intro h; omega)
  | 30, _, hs, ho, hop, hds, hdep, hK =>
    have hop : o.op = .assign (.tmp 60) := Option.some.inj hop
    obtain ⟨u60, hu60, hv60⟩ := hdep 29 (by decide)
    have hv60' : u60 = .bool true := hv60
    subst hv60'
    have e60 : a.eval (.tmp 60) = _ := ev_tmp hu60
    refine st3 ho hwt (v := _) (w' := w) ?_ (hK _ w rfl (Below.refl _ _))
    unfold execOp
    rw [hop, ← e60]
    rfl
  | i + 31, hi, _, _, _, _, _, _ => exact absurd hi (by omega)
end Go.Proofs.Ytjibbbfpbflgmaa
