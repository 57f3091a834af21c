/-
  For all wishes: Same answers as the document's does; WishSame returns true; no condition.
-/
import Derived.Test.YtihmddpafbackaaZ09
import Derived.Test.YtihmddpafbackaaZ10
import Derived.Test.YtihmddpafbackaaZ11
import Derived.Test.YtihmddpafbackaaZ08
namespace Go.Proofs.Ytihmddpafbackaa.wishSame
open Go.ChangeShapes Go.WideShapes Go.ChangeAt Go.RowKit Go.Maps
set_option linter.unusedVariables false

set_option linter.unusedSimpArgs false
theorem lit15 (a : Act) (h : a.tmps.size = 15) : ∃ f : Nat → Value, a = { tmps := #[f 0, f 1, f 2, f 3, f 4, f 5, f 6, f 7, f 8, f 9, f 10, f 11, f 12, f 13, f 14], defers := a.defers } ∧ ∀ i v, a.tmps[i]? = some v → f i = v := by
  refine ⟨fun i => a.tmps.getD i undef, ?_, fun i v hv => by simp only [Array.getD_eq_getD_getElem?, hv]; rfl⟩
  have e : a.tmps = ((List.range 15).map fun i => a.tmps.getD i undef).toArray := by
    apply Array.ext
    · simp [h]
    · intro i h1 h2
      simp [Array.getD_eq_getD_getElem?, h1]
  cases a with
  | mk t d =>
    simp only [Act.mk.injEq, and_true]
    exact e
def wsR (gx gy : Nat) (s : Bool) (x : Wl) (Dx : Option Addr) (ndx cdx : Nat) (Nx : Option Addr) (nnx cnx : Nat) (y : Wl) (Dy : Option Addr) (ndy cdy : Nat) (Ny : Option Addr) (nny cny : Nat) : Nat → Value → World → Prop
  | 0 => fun v w => v = .agg #[.int .i64 x.cl, .int .i64 x.sp, .int .i64 x.gr, .int .i64 x.ep, .int .i64 x.kd, .int .i64 x.bl, .slice Dx ndx cdx, .int .i64 x.od, .int .i64 x.nw, .slice Nx nnx cnx]
  | 1 => fun v w => v = .agg #[.int .i64 y.cl, .int .i64 y.sp, .int .i64 y.gr, .int .i64 y.ep, .int .i64 y.kd, .int .i64 y.bl, .slice Dy ndy cdy, .int .i64 y.od, .int .i64 y.nw, .slice Ny nny cny]
  | 2 => fun v w => v = .bool s
  | 3 => fun v w => v = .agg #[.int .i64 x.cl, .int .i64 x.sp, .int .i64 x.gr, .int .i64 x.ep, .int .i64 x.kd, .int .i64 x.bl, .slice Dx ndx cdx, .int .i64 x.od, .int .i64 x.nw, .slice Nx nnx cnx]
  | 4 => fun v w => v = .agg #[.int .i64 y.cl, .int .i64 y.sp, .int .i64 y.gr, .int .i64 y.ep, .int .i64 y.kd, .int .i64 y.bl, .slice Dy ndy cdy, .int .i64 y.od, .int .i64 y.nw, .slice Ny nny cny]
  | 5 => fun v w => v = .bool s
  | 6 => fun v w => v = .bool true
  | 7 => fun v w => v = .bool true
  | 8 => fun v w => v = .bool true
  | 9 => fun v w => v = .bool true
  | 10 => fun v w => v = .bool true
  | _ => fun _ _ => True
def wsD (i : Nat) : Nat := ([5, 6, 7, 8, 9, 10, 11, 12, 13, 14, 4] : List Nat).getD i 0
def wsG : Nat → Option Bool
  | 7 => some true
  | _ => none
def wsS (i : Nat) : Bool := ([] : List Nat).contains i
theorem ws_gb (gx gy : Nat) (s : Bool) (x : Wl) (Dx : Option Addr) (ndx cdx : Nat) (Nx : Option Addr) (nnx cnx : Nat) (y : Wl) (Dy : Option Addr) (ndy cdy : Nat) (Ny : Option Addr) (nny cny : Nat) : ∀ i b v w, wsG i = some b → wsR gx gy s x Dx ndx cdx Nx nnx cnx y Dy ndy cdy Ny nny cny i v w → v = .bool b := by
  intro i b v w h hR
  unfold wsG at h
  split at h
  all_goals first | (injection h with h; subst h; exact hR) | cases h
theorem ws_sk (gx gy : Nat) (s : Bool) (x : Wl) (Dx : Option Addr) (ndx cdx : Nat) (Nx : Option Addr) (nnx cnx : Nat) (y : Wl) (Dy : Option Addr) (ndy cdy : Nat) (Ny : Option Addr) (nny cny : Nat) : ∀ i w, wsS i = true → wsR gx gy s x Dx ndx cdx Nx nnx cnx y Dy ndy cdy Ny nny cny i undef w := by
  intro i w h
  simp [wsS] at h
theorem ws_on (gx gy : Nat) (s : Bool) (x : Wl) (Dx : Option Addr) (ndx cdx : Nat) (Nx : Option Addr) (nnx cnx : Nat) (y : Wl) (Dy : Option Addr) (ndy cdy : Nat) (Ny : Option Addr) (nny cny : Nat) : ∀ i v w w', wsR gx gy s x Dx ndx cdx Nx nnx cnx y Dy ndy cdy Ny nny cny i v w → Below w.heap.size w w' → wsR gx gy s x Dx ndx cdx Nx nnx cnx y Dy ndy cdy Ny nny cny i v w'
  | 0, v, w, w', h, _ => h
  | 1, v, w, w', h, _ => h
  | 2, v, w, w', h, _ => h
  | 3, v, w, w', h, _ => h
  | 4, v, w, w', h, _ => h
  | 5, v, w, w', h, _ => h
  | 6, v, w, w', h, _ => h
  | 7, v, w, w', h, _ => h
  | 8, v, w, w', h, _ => h
  | 9, v, w, w', h, _ => h
  | 10, v, w, w', h, _ => h
  | i + 11, v, w, w', h, hb => trivial
def wsOps : List Op := [.load 25 (.tmp 2),
  .load 25 (.tmp 3),
  .call { callee := .value (.func 30), args := #[.tmp 5, .tmp 6], argTypes := #[25, 25] },
  .load 25 (.tmp 2),
  .load 25 (.tmp 3),
  .call { callee := .value (.func 19), args := #[.tmp 8, .tmp 9], argTypes := #[25, 25] },
  .binOp .eql 4 (.tmp 7) (.tmp 10) 4,
  .move (.tmp 11),
  .call { callee := .value (.func 20), args := #[], argTypes := #[] },
  .pick (.tmp 12) (.tmp 13) (.const (.bool false)),
  .assign (.tmp 14)]
def wsNeeds : Nat → List Nat
  | 0 => []
  | 1 => []
  | 2 => [0, 1]
  | 3 => []
  | 4 => []
  | 5 => [3, 4]
  | 6 => [2, 5]
  | 7 => [6]
  | 8 => []
  | 9 => [7, 8]
  | 10 => [9]
  | _ => []
set_option maxRecDepth 100000 in
set_option maxHeartbeats 3200000 in
theorem ws_step {ops : Array Oper} {Q : Exit → Act → World → Prop} {a0 : Act} {w0 : World} (gx gy : Nat) (s : Bool) (x : Wl) (Dx : Option Addr) (ndx cdx : Nat) (Nx : Option Addr) (nnx cnx : Nat) (y : Wl) (Dy : Option Addr) (ndy cdy : Nat) (Ny : Option Addr) (nny cny : Nat) (hops : ((List.range 11).map fun i => (ops[i]?).map Oper.op) = wsOps.map some)
    (hnd : ((List.range 11).all fun i => (wsNeeds i).all fun j => ((ops[i]?).map fun o => o.after.any fun e => Region.binds .any e && (e.on == j)).getD false) = true)
    (x2 : a0.tmps[2]? = some (.pointer (some ⟨gx, 0, none⟩))) (x3 : a0.tmps[3]? = some (.pointer (some ⟨gy, 0, none⟩)))
    (hBx : Blk w0 gx 25 [.int .i64 x.cl, .int .i64 x.sp, .int .i64 x.gr, .int .i64 x.ep, .int .i64 x.kd, .int .i64 x.bl, .slice Dx ndx cdx, .int .i64 x.od, .int .i64 x.nw, .slice Nx nnx cnx]) (hBy : Blk w0 gy 25 [.int .i64 y.cl, .int .i64 y.sp, .int .i64 y.gr, .int .i64 y.ep, .int .i64 y.kd, .int .i64 y.bl, .slice Dy ndy cdy, .int .i64 y.od, .int .i64 y.nw, .slice Ny nny cny]) (hx : ArgW w0 x Dx ndx cdx Nx nnx cnx) (hy : ArgW w0 y Dy ndy cdy Ny nny cny) (hsm : sameB x y = s) :
    ∀ i o, i < 11 → wsS i = false → ops[i]? = some o → o.dst = some (wsD i) → ∀ a w, Base wsD 11 a0 a → Below w0.heap.size w0 w → Region.wanted o (yielded ops a.tmps) = true →
      (∀ j, (o.after.any fun e => Region.binds .any e && (e.on == j)) = true → Has wsD (wsR gx gy s x Dx ndx cdx Nx nnx cnx y Dy ndy cdy Ny nny cny) j a w) →
      ∀ K : Act → World → Prop, (∀ v w', wsR gx gy s x Dx ndx cdx Nx nnx cnx y Dy ndy cdy Ny nny cny i v w' → Below w.heap.size w w' → K (a.put o.dst v) w') → wpOp Try.prog ops Q i K a w := by
  intro i o hi hs ho hds a w hbase hbl hwt hdep0 K hK
  have hop : some o.op = wsOps[i]? := by
    have h1 : ((List.range 11).map fun i => (ops[i]?).map Oper.op)[i]? = some (some o.op) := by
      rw [List.getElem?_map, List.getElem?_range hi]; simp only [Option.map_some, ho]
    rw [hops, List.getElem?_map] at h1
    cases h2 : wsOps[i]? with
    | none => rw [h2] at h1; cases h1
    | some y => rw [h2] at h1; simp only [Option.map_some, Option.some.injEq] at h1; rw [h1]
  have hdep : ∀ j, j ∈ wsNeeds i → Has wsD (wsR gx gy s x Dx ndx cdx Nx nnx cnx y Dy ndy cdy Ny nny cny) j a w := fun j hj => by
    have h1 := List.all_eq_true.1 (List.all_eq_true.1 hnd i (List.mem_range.2 hi)) j hj
    rw [ho] at h1
    exact hdep0 j h1
  clear hdep0 hops hnd
  match i, hi, hs, ho, hop, hds, hdep, hK with
  | 0, _, hs, ho, hop, hds, hdep, hK =>
    have hop : o.op = .load 25 (.tmp 2) := Option.some.inj hop
    have hu2 : a.tmps[2]? = some (.pointer (some ⟨gx, 0, none⟩)) := (hbase.2.2 2 (by decide)).trans x2
    have e2 : a.eval (.tmp 2) = _ := ev_tmp hu2
    refine st3 ho hwt (v := .agg #[.int .i64 x.cl, .int .i64 x.sp, .int .i64 x.gr, .int .i64 x.ep, .int .i64 x.kd, .int .i64 x.bl, .slice Dx ndx cdx, .int .i64 x.od, .int .i64 x.nw, .slice Nx nnx cnx]) (w' := w) ?_ (hK _ w rfl (Below.refl _ _))
    have k0 : w.cell? ⟨gx, 0, none⟩ = some (.int .i64 x.cl) := (hBx.below hbl hBx.lt).cell rfl
    have k1 : w.cell? ⟨gx, 1, none⟩ = some (.int .i64 x.sp) := (hBx.below hbl hBx.lt).cell rfl
    have k2 : w.cell? ⟨gx, 2, none⟩ = some (.int .i64 x.gr) := (hBx.below hbl hBx.lt).cell rfl
    have k3 : w.cell? ⟨gx, 3, none⟩ = some (.int .i64 x.ep) := (hBx.below hbl hBx.lt).cell rfl
    have k4 : w.cell? ⟨gx, 4, none⟩ = some (.int .i64 x.kd) := (hBx.below hbl hBx.lt).cell rfl
    have k5 : w.cell? ⟨gx, 5, none⟩ = some (.int .i64 x.bl) := (hBx.below hbl hBx.lt).cell rfl
    have k6 : w.cell? ⟨gx, 6, none⟩ = some (.slice Dx ndx cdx) := (hBx.below hbl hBx.lt).cell rfl
    have k7 : w.cell? ⟨gx, 7, none⟩ = some (.int .i64 x.od) := (hBx.below hbl hBx.lt).cell rfl
    have k8 : w.cell? ⟨gx, 8, none⟩ = some (.int .i64 x.nw) := (hBx.below hbl hBx.lt).cell rfl
    have k9 : w.cell? ⟨gx, 9, none⟩ = some (.slice Nx nnx cnx) := (hBx.below hbl hBx.lt).cell rfl
    unfold execOp
    simp only [hop, Option.map_some, Option.map_none, e2]
    first | rfl | (go_simp; done) | (go_simp; simp; done) | (go_simp; intro h; omega)
  | 1, _, hs, ho, hop, hds, hdep, hK =>
    have hop : o.op = .load 25 (.tmp 3) := Option.some.inj hop
    have hu3 : a.tmps[3]? = some (.pointer (some ⟨gy, 0, none⟩)) := (hbase.2.2 3 (by decide)).trans x3
    have e3 : a.eval (.tmp 3) = _ := ev_tmp hu3
    refine st3 ho hwt (v := .agg #[.int .i64 y.cl, .int .i64 y.sp, .int .i64 y.gr, .int .i64 y.ep, .int .i64 y.kd, .int .i64 y.bl, .slice Dy ndy cdy, .int .i64 y.od, .int .i64 y.nw, .slice Ny nny cny]) (w' := w) ?_ (hK _ w rfl (Below.refl _ _))
    have k0 : w.cell? ⟨gy, 0, none⟩ = some (.int .i64 y.cl) := (hBy.below hbl hBy.lt).cell rfl
    have k1 : w.cell? ⟨gy, 1, none⟩ = some (.int .i64 y.sp) := (hBy.below hbl hBy.lt).cell rfl
    have k2 : w.cell? ⟨gy, 2, none⟩ = some (.int .i64 y.gr) := (hBy.below hbl hBy.lt).cell rfl
    have k3 : w.cell? ⟨gy, 3, none⟩ = some (.int .i64 y.ep) := (hBy.below hbl hBy.lt).cell rfl
    have k4 : w.cell? ⟨gy, 4, none⟩ = some (.int .i64 y.kd) := (hBy.below hbl hBy.lt).cell rfl
    have k5 : w.cell? ⟨gy, 5, none⟩ = some (.int .i64 y.bl) := (hBy.below hbl hBy.lt).cell rfl
    have k6 : w.cell? ⟨gy, 6, none⟩ = some (.slice Dy ndy cdy) := (hBy.below hbl hBy.lt).cell rfl
    have k7 : w.cell? ⟨gy, 7, none⟩ = some (.int .i64 y.od) := (hBy.below hbl hBy.lt).cell rfl
    have k8 : w.cell? ⟨gy, 8, none⟩ = some (.int .i64 y.nw) := (hBy.below hbl hBy.lt).cell rfl
    have k9 : w.cell? ⟨gy, 9, none⟩ = some (.slice Ny nny cny) := (hBy.below hbl hBy.lt).cell rfl
    unfold execOp
    simp only [hop, Option.map_some, Option.map_none, e3]
    first | rfl | (go_simp; done) | (go_simp; simp; done) | (go_simp; intro h; omega)
  | 2, _, hs, ho, hop, hds, hdep, hK =>
    have hop : o.op = .call { callee := .value (.func 30), args := #[.tmp 5, .tmp 6], argTypes := #[25, 25] } := Option.some.inj hop
    obtain ⟨u5, hu5, hv5⟩ := hdep 0 (by decide)
    have hv5' : u5 = .agg #[.int .i64 x.cl, .int .i64 x.sp, .int .i64 x.gr, .int .i64 x.ep, .int .i64 x.kd, .int .i64 x.bl, .slice Dx ndx cdx, .int .i64 x.od, .int .i64 x.nw, .slice Nx nnx cnx] := hv5
    subst hv5'
    have e5 : a.eval (.tmp 5) = _ := ev_tmp hu5
    obtain ⟨u6, hu6, hv6⟩ := hdep 1 (by decide)
    have hv6' : u6 = .agg #[.int .i64 y.cl, .int .i64 y.sp, .int .i64 y.gr, .int .i64 y.ep, .int .i64 y.kd, .int .i64 y.bl, .slice Dy ndy cdy, .int .i64 y.od, .int .i64 y.nw, .slice Ny nny cny] := hv6
    subst hv6'
    have e6 : a.eval (.tmp 6) = _ := ev_tmp hu6
    refine st3_call ho hwt (f := 30) (vals := #[.agg #[.int .i64 x.cl, .int .i64 x.sp, .int .i64 x.gr, .int .i64 x.ep, .int .i64 x.kd, .int .i64 x.bl, .slice Dx ndx cdx, .int .i64 x.od, .int .i64 x.nw, .slice Nx nnx cnx], .agg #[.int .i64 y.cl, .int .i64 y.sp, .int .i64 y.gr, .int .i64 y.ep, .int .i64 y.kd, .int .i64 y.bl, .slice Dy ndy cdy, .int .i64 y.od, .int .i64 y.nw, .slice Ny nny cny]]) (Z := fun v w' => v = .bool s ∧ Below w.heap.size w w') ?_ ?_ ?_
    · unfold execOp
      simp only [hop, e5, e6, resolve, invoke, Sem.run_bind, Sem.run_pure, Result.andThen_ok, List.map_toArray, List.map_cons, List.map_nil]
      first | rfl | exact enters_of Try.func30 (by kernel_rfl) rfl _ _
    · exact (same_any x Dx ndx cdx Nx nnx cnx y Dy ndy cdy Ny nny cny w (hx.after hbl) (hy.after hbl)).mono fun e w' ⟨he, h2⟩ => ⟨_, he, congrArg Value.bool hsm, h2⟩
    · rintro v w' ⟨h1, h2⟩
      exact hK v w' h1 h2
  | 3, _, hs, ho, hop, hds, hdep, hK =>
    have hop : o.op = .load 25 (.tmp 2) := Option.some.inj hop
    have hu2 : a.tmps[2]? = some (.pointer (some ⟨gx, 0, none⟩)) := (hbase.2.2 2 (by decide)).trans x2
    have e2 : a.eval (.tmp 2) = _ := ev_tmp hu2
    refine st3 ho hwt (v := .agg #[.int .i64 x.cl, .int .i64 x.sp, .int .i64 x.gr, .int .i64 x.ep, .int .i64 x.kd, .int .i64 x.bl, .slice Dx ndx cdx, .int .i64 x.od, .int .i64 x.nw, .slice Nx nnx cnx]) (w' := w) ?_ (hK _ w rfl (Below.refl _ _))
    have k0 : w.cell? ⟨gx, 0, none⟩ = some (.int .i64 x.cl) := (hBx.below hbl hBx.lt).cell rfl
    have k1 : w.cell? ⟨gx, 1, none⟩ = some (.int .i64 x.sp) := (hBx.below hbl hBx.lt).cell rfl
    have k2 : w.cell? ⟨gx, 2, none⟩ = some (.int .i64 x.gr) := (hBx.below hbl hBx.lt).cell rfl
    have k3 : w.cell? ⟨gx, 3, none⟩ = some (.int .i64 x.ep) := (hBx.below hbl hBx.lt).cell rfl
    have k4 : w.cell? ⟨gx, 4, none⟩ = some (.int .i64 x.kd) := (hBx.below hbl hBx.lt).cell rfl
    have k5 : w.cell? ⟨gx, 5, none⟩ = some (.int .i64 x.bl) := (hBx.below hbl hBx.lt).cell rfl
    have k6 : w.cell? ⟨gx, 6, none⟩ = some (.slice Dx ndx cdx) := (hBx.below hbl hBx.lt).cell rfl
    have k7 : w.cell? ⟨gx, 7, none⟩ = some (.int .i64 x.od) := (hBx.below hbl hBx.lt).cell rfl
    have k8 : w.cell? ⟨gx, 8, none⟩ = some (.int .i64 x.nw) := (hBx.below hbl hBx.lt).cell rfl
    have k9 : w.cell? ⟨gx, 9, none⟩ = some (.slice Nx nnx cnx) := (hBx.below hbl hBx.lt).cell rfl
    unfold execOp
    simp only [hop, Option.map_some, Option.map_none, e2]
    first | rfl | (go_simp; done) | (go_simp; simp; done) | (go_simp; intro h; omega)
  | 4, _, hs, ho, hop, hds, hdep, hK =>
    have hop : o.op = .load 25 (.tmp 3) := Option.some.inj hop
    have hu3 : a.tmps[3]? = some (.pointer (some ⟨gy, 0, none⟩)) := (hbase.2.2 3 (by decide)).trans x3
    have e3 : a.eval (.tmp 3) = _ := ev_tmp hu3
    refine st3 ho hwt (v := .agg #[.int .i64 y.cl, .int .i64 y.sp, .int .i64 y.gr, .int .i64 y.ep, .int .i64 y.kd, .int .i64 y.bl, .slice Dy ndy cdy, .int .i64 y.od, .int .i64 y.nw, .slice Ny nny cny]) (w' := w) ?_ (hK _ w rfl (Below.refl _ _))
    have k0 : w.cell? ⟨gy, 0, none⟩ = some (.int .i64 y.cl) := (hBy.below hbl hBy.lt).cell rfl
    have k1 : w.cell? ⟨gy, 1, none⟩ = some (.int .i64 y.sp) := (hBy.below hbl hBy.lt).cell rfl
    have k2 : w.cell? ⟨gy, 2, none⟩ = some (.int .i64 y.gr) := (hBy.below hbl hBy.lt).cell rfl
    have k3 : w.cell? ⟨gy, 3, none⟩ = some (.int .i64 y.ep) := (hBy.below hbl hBy.lt).cell rfl
    have k4 : w.cell? ⟨gy, 4, none⟩ = some (.int .i64 y.kd) := (hBy.below hbl hBy.lt).cell rfl
    have k5 : w.cell? ⟨gy, 5, none⟩ = some (.int .i64 y.bl) := (hBy.below hbl hBy.lt).cell rfl
    have k6 : w.cell? ⟨gy, 6, none⟩ = some (.slice Dy ndy cdy) := (hBy.below hbl hBy.lt).cell rfl
    have k7 : w.cell? ⟨gy, 7, none⟩ = some (.int .i64 y.od) := (hBy.below hbl hBy.lt).cell rfl
    have k8 : w.cell? ⟨gy, 8, none⟩ = some (.int .i64 y.nw) := (hBy.below hbl hBy.lt).cell rfl
    have k9 : w.cell? ⟨gy, 9, none⟩ = some (.slice Ny nny cny) := (hBy.below hbl hBy.lt).cell rfl
    unfold execOp
    simp only [hop, Option.map_some, Option.map_none, e3]
    first | rfl | (go_simp; done) | (go_simp; simp; done) | (go_simp; intro h; omega)
  | 5, _, hs, ho, hop, hds, hdep, hK =>
    have hop : o.op = .call { callee := .value (.func 19), args := #[.tmp 8, .tmp 9], argTypes := #[25, 25] } := Option.some.inj hop
    obtain ⟨u8, hu8, hv8⟩ := hdep 3 (by decide)
    have hv8' : u8 = .agg #[.int .i64 x.cl, .int .i64 x.sp, .int .i64 x.gr, .int .i64 x.ep, .int .i64 x.kd, .int .i64 x.bl, .slice Dx ndx cdx, .int .i64 x.od, .int .i64 x.nw, .slice Nx nnx cnx] := hv8
    subst hv8'
    have e8 : a.eval (.tmp 8) = _ := ev_tmp hu8
    obtain ⟨u9, hu9, hv9⟩ := hdep 4 (by decide)
    have hv9' : u9 = .agg #[.int .i64 y.cl, .int .i64 y.sp, .int .i64 y.gr, .int .i64 y.ep, .int .i64 y.kd, .int .i64 y.bl, .slice Dy ndy cdy, .int .i64 y.od, .int .i64 y.nw, .slice Ny nny cny] := hv9
    subst hv9'
    have e9 : a.eval (.tmp 9) = _ := ev_tmp hu9
    refine st3_call ho hwt (f := 19) (vals := #[.agg #[.int .i64 x.cl, .int .i64 x.sp, .int .i64 x.gr, .int .i64 x.ep, .int .i64 x.kd, .int .i64 x.bl, .slice Dx ndx cdx, .int .i64 x.od, .int .i64 x.nw, .slice Nx nnx cnx], .agg #[.int .i64 y.cl, .int .i64 y.sp, .int .i64 y.gr, .int .i64 y.ep, .int .i64 y.kd, .int .i64 y.bl, .slice Dy ndy cdy, .int .i64 y.od, .int .i64 y.nw, .slice Ny nny cny]]) (Z := fun v w' => v = .bool s ∧ Below w.heap.size w w') ?_ ?_ ?_
    · unfold execOp
      simp only [hop, e8, e9, resolve, invoke, Sem.run_bind, Sem.run_pure, Result.andThen_ok, List.map_toArray, List.map_cons, List.map_nil]
      first | rfl | exact enters_of Try.func19 (by kernel_rfl) rfl _ _
    · exact (rsame_any x Dx ndx cdx Nx nnx cnx y Dy ndy cdy Ny nny cny w (hx.after hbl) (hy.after hbl)).mono fun e w' ⟨he, h2⟩ => ⟨_, he, congrArg Value.bool hsm, h2⟩
    · rintro v w' ⟨h1, h2⟩
      exact hK v w' h1 h2
  | 6, _, hs, ho, hop, hds, hdep, hK =>
    have hop : o.op = .binOp .eql 4 (.tmp 7) (.tmp 10) 4 := Option.some.inj hop
    obtain ⟨u7, hu7, hv7⟩ := hdep 2 (by decide)
    have hv7' : u7 = .bool s := hv7
    subst hv7'
    have e7 : a.eval (.tmp 7) = _ := ev_tmp hu7
    obtain ⟨u10, hu10, hv10⟩ := hdep 5 (by decide)
    have hv10' : u10 = .bool s := hv10
    subst hv10'
    have e10 : a.eval (.tmp 10) = _ := ev_tmp hu10
    refine st3 ho hwt (v := .bool true) (w' := w) ?_ (hK _ w rfl (Below.refl _ _))
    unfold execOp
    simp only [hop, e7, e10]
    first | rfl | (go_simp; done) | (go_simp; simp; done) | (go_simp; intro h; omega)
  | 7, _, hs, ho, hop, hds, hdep, hK =>
    have hop : o.op = .move (.tmp 11) := Option.some.inj hop
    obtain ⟨u11, hu11, hv11⟩ := hdep 6 (by decide)
    have hv11' : u11 = .bool true := hv11
    subst hv11'
    have e11 : a.eval (.tmp 11) = _ := ev_tmp hu11
    refine st3 ho hwt (v := _) (w' := w) ?_ (hK _ w rfl (Below.refl _ _))
    unfold execOp
    rw [hop, ← e11]
    rfl
  | 8, _, hs, ho, hop, hds, hdep, hK =>
    have hop : o.op = .call { callee := .value (.func 20), args := #[], argTypes := #[] } := Option.some.inj hop
    refine st3_call ho hwt (f := 20) (vals := #[]) (Z := fun v w' => v = .bool true ∧ Below w.heap.size w w') ?_ ?_ ?_
    · unfold execOp
      simp only [hop, resolve, invoke, Sem.run_bind, Sem.run_pure, Result.andThen_ok, List.map_toArray, List.map_cons, List.map_nil]
      first | rfl | exact enters_of Try.func20 (by kernel_rfl) rfl _ _
    · exact (works11_any w).mono fun e w' ⟨he, h2⟩ => ⟨_, he, rfl, h2⟩
    · rintro v w' ⟨h1, h2⟩
      exact hK v w' h1 h2
  | 9, _, hs, ho, hop, hds, hdep, hK =>
    have hop : o.op = .pick (.tmp 12) (.tmp 13) (.const (.bool false)) := Option.some.inj hop
    obtain ⟨u12, hu12, hv12⟩ := hdep 7 (by decide)
    have hv12' : u12 = .bool true := hv12
    subst hv12'
    have e12 : a.eval (.tmp 12) = _ := ev_tmp hu12
    obtain ⟨u13, hu13, hv13⟩ := hdep 8 (by decide)
    have hv13' : u13 = .bool true := hv13
    subst hv13'
    have e13 : a.eval (.tmp 13) = _ := ev_tmp hu13
    refine st3 ho hwt (v := .bool true) (w' := w) ?_ (hK _ w rfl (Below.refl _ _))
    unfold execOp
    simp only [hop, e12, e13]
    first | rfl | (go_simp; done) | (go_simp; simp; done) | (go_simp; intro h; omega)
  | 10, _, hs, ho, hop, hds, hdep, hK =>
    have hop : o.op = .assign (.tmp 14) := Option.some.inj hop
    obtain ⟨u14, hu14, hv14⟩ := hdep 9 (by decide)
    have hv14' : u14 = .bool true := hv14
    subst hv14'
    have e14 : a.eval (.tmp 14) = _ := ev_tmp hu14
    refine st3 ho hwt (v := _) (w' := w) ?_ (hK _ w rfl (Below.refl _ _))
    unfold execOp
    rw [hop, ← e14]
    rfl
  | i + 11, hi, _, _, _, _, _, _ => exact absurd hi (by omega)
set_option maxRecDepth 100000 in
set_option maxHeartbeats 6400000 in
theorem walk (x : Wl) (Dx : Option Addr) (ndx cdx : Nat) (Nx : Option Addr) (nnx cnx : Nat) (y : Wl) (Dy : Option Addr) (ndy cdy : Nat) (Ny : Option Addr) (nny cny : Nat) (w : World) (hx : ArgW w x Dx ndx cdx Nx nnx cnx) (hy : ArgW w y Dy ndy cdy Ny nny cny) :
    Calls Try.prog 6 #[.agg #[.int .i64 x.cl, .int .i64 x.sp, .int .i64 x.gr, .int .i64 x.ep, .int .i64 x.kd, .int .i64 x.bl, .slice Dx ndx cdx, .int .i64 x.od, .int .i64 x.nw, .slice Nx nnx cnx], .agg #[.int .i64 y.cl, .int .i64 y.sp, .int .i64 y.gr, .int .i64 y.ep, .int .i64 y.kd, .int .i64 y.bl, .slice Dy ndy cdy, .int .i64 y.od, .int .i64 y.nw, .slice Ny nny cny]] w fun e w' => e = .returned (.bool true) ∧ Below w.heap.size w w' := by
  have hb0 : Below w.heap.size w ((w.alloc (.cells #[.int .i64 x.cl, .int .i64 x.sp, .int .i64 x.gr, .int .i64 x.ep, .int .i64 x.kd, .int .i64 x.bl, .slice Dx ndx cdx, .int .i64 x.od, .int .i64 x.nw, .slice Nx nnx cnx] 25)).alloc (.cells #[.int .i64 y.cl, .int .i64 y.sp, .int .i64 y.gr, .int .i64 y.ep, .int .i64 y.kd, .int .i64 y.bl, .slice Dy ndy cdy, .int .i64 y.od, .int .i64 y.nw, .slice Ny nny cny] 25)) := ((Below.refl _ _).alloc (Nat.le_refl _) _).alloc (by simp) _
  have hB1 : Blk ((w.alloc (.cells #[.int .i64 x.cl, .int .i64 x.sp, .int .i64 x.gr, .int .i64 x.ep, .int .i64 x.kd, .int .i64 x.bl, .slice Dx ndx cdx, .int .i64 x.od, .int .i64 x.nw, .slice Nx nnx cnx] 25)).alloc (.cells #[.int .i64 y.cl, .int .i64 y.sp, .int .i64 y.gr, .int .i64 y.ep, .int .i64 y.kd, .int .i64 y.bl, .slice Dy ndy cdy, .int .i64 y.od, .int .i64 y.nw, .slice Ny nny cny] 25)) w.heap.size 25 [.int .i64 x.cl, .int .i64 x.sp, .int .i64 x.gr, .int .i64 x.ep, .int .i64 x.kd, .int .i64 x.bl, .slice Dx ndx cdx, .int .i64 x.od, .int .i64 x.nw, .slice Nx nnx cnx] := (Blk.new (l := [.int .i64 x.cl, .int .i64 x.sp, .int .i64 x.gr, .int .i64 x.ep, .int .i64 x.kd, .int .i64 x.bl, .slice Dx ndx cdx, .int .i64 x.od, .int .i64 x.nw, .slice Nx nnx cnx]) rfl rfl).old _
  have hB2 : Blk ((w.alloc (.cells #[.int .i64 x.cl, .int .i64 x.sp, .int .i64 x.gr, .int .i64 x.ep, .int .i64 x.kd, .int .i64 x.bl, .slice Dx ndx cdx, .int .i64 x.od, .int .i64 x.nw, .slice Nx nnx cnx] 25)).alloc (.cells #[.int .i64 y.cl, .int .i64 y.sp, .int .i64 y.gr, .int .i64 y.ep, .int .i64 y.kd, .int .i64 y.bl, .slice Dy ndy cdy, .int .i64 y.od, .int .i64 y.nw, .slice Ny nny cny] 25)) (w.heap.size + 1) 25 [.int .i64 y.cl, .int .i64 y.sp, .int .i64 y.gr, .int .i64 y.ep, .int .i64 y.kd, .int .i64 y.bl, .slice Dy ndy cdy, .int .i64 y.od, .int .i64 y.nw, .slice Ny nny cny] := Blk.new rfl (by simp)
  have H := Lib.hid (And.intro (hx.after hb0) (And.intro (hy.after hb0) (And.intro hb0 (And.intro hB1 hB2))))
  clear hb0 hB1 hB2 hx hy
  go_enter Try.func6, Try.ntmps6
  go_wp2_with fail
  refine region_rule4 (P := Try.prog) 11 15 wsD wsG wsS (wsR w.heap.size (w.heap.size + 1) (sameB x y) x Dx ndx cdx Nx nnx cnx y Dy ndy cdy Ny nny cny) _ _ (by kernel_rfl) rfl rfl (by kernel_rfl) (by decide +kernel) (ws_gb w.heap.size (w.heap.size + 1) (sameB x y) x Dx ndx cdx Nx nnx cnx y Dy ndy cdy Ny nny cny) (ws_sk w.heap.size (w.heap.size + 1) (sameB x y) x Dx ndx cdx Nx nnx cnx y Dy ndy cdy Ny nny cny) (ws_on w.heap.size (w.heap.size + 1) (sameB x y) x Dx ndx cdx Nx nnx cnx y Dy ndy cdy Ny nny cny) (ws_step w.heap.size (w.heap.size + 1) (sameB x y) x Dx ndx cdx Nx nnx cnx y Dy ndy cdy Ny nny cny (by rfl) (by kernel_rfl) rfl rfl H.out.2.2.2.1 H.out.2.2.2.2 H.out.1 H.out.2.1 rfl) ?fin
  case fin =>
    intro a w6 hbase hbl hall
    obtain ⟨v4, hv4, hR4⟩ := hall 10 (by decide)
    have hR4' : v4 = .bool true := hR4
    subst hR4'
    obtain ⟨g, hg, hge⟩ := lit15 a hbase.1
    have q2 : g 2 = .pointer (some ⟨w.heap.size, 0, none⟩) := hge 2 _ ((hbase.2.2 2 (by decide)).trans rfl)
    have q3 : g 3 = .pointer (some ⟨w.heap.size + 1, 0, none⟩) := hge 3 _ ((hbase.2.2 3 (by decide)).trans rfl)
    have q4 : g 4 = .bool true := hge 4 _ hv4
    have hdf : a.defers = [] := hbase.2.1
    rw [hdf, q2, q3, q4] at hg
    rw [hg]
    have hbf := H.out.2.2.1.trans (hbl.mono H.out.2.2.1.size)
    go_wp2
    go_ret
    exact ⟨rfl, hbf⟩

end Go.Proofs.Ytihmddpafbackaa.wishSame
