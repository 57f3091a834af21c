/-
  For every wish: Check and Bytes answer as the document's do, and the wish that was handed in stays; WishBytes returns true; no condition.
-/
import Derived.Test.YtihmddpafbackaaZ09
import Derived.Test.YtihmddpafbackaaZ10
import Derived.Test.YtihmddpafbackaaZ11
import Derived.Test.YtihmddpafbackaaZ08
import Derived.Test.YtihmddpafbackaaZ17
import Derived.Deep.DeepCutAuto
namespace Go.Proofs.Ytihmddpafbackaa.wishBytes
open Go.ChangeShapes Go.WideShapes Go.ChangeAt Go.RowKit Go.Maps
set_option linter.unusedVariables false

set_option linter.unusedSimpArgs false
theorem wv_argw {w w0 : World} {base : Nat} {x : Wl} {v : Value} {D : Option Addr} {nd cd : Nat} {N : Option Addr} {nn cn : Nat} (h : WV w base x v) (hx : ArgW w0 x D nd cd N nn cn) : ∃ (Dx : Option Addr) (ndx cdx : Nat) (Nx : Option Addr) (nnx cnx : Nat), v = .agg #[.int .i64 x.cl, .int .i64 x.sp, .int .i64 x.gr, .int .i64 x.ep, .int .i64 x.kd, .int .i64 x.bl, .slice Dx ndx cdx, .int .i64 x.od, .int .i64 x.nw, .slice Nx nnx cnx] ∧ ArgW w x Dx ndx cdx Nx nnx cnx := by
  obtain ⟨Dx, ndx, cdx, Nx, nnx, cnx, e, ⟨h1, h2⟩, h3, h4⟩ := h
  subst h2 h4
  obtain ⟨_, c, e1, g1, g2, g3⟩ := Mine.form h1
  obtain ⟨_, c', e2, g4⟩ := h3.arg hx.2.1.1.2.2.2.2
  injection e1 with e1 _ e3
  injection e2 with e2 _ e4
  subst e1 e2 e3 e4
  have a1 := hx.1.1
  have a2 := hx.1.2.2.2.2
  have a3 := hx.2.1.1.1
  have a4 := hx.2.1.2
  exact ⟨Dx, _, cdx, Nx, _, cnx, e, ⟨rfl, g1, g2, g3, by omega⟩, ⟨g4, by omega⟩, hx.2.2⟩
theorem lit43 (a : Act) (h : a.tmps.size = 43) : ∃ f : Nat → Value, a = { tmps := #[f 0, f 1, f 2, f 3, f 4, f 5, f 6, f 7, f 8, f 9, f 10, f 11, f 12, f 13, f 14, f 15, f 16, f 17, f 18, f 19, f 20, f 21, f 22, f 23, f 24, f 25, f 26, f 27, f 28, f 29, f 30, f 31, f 32, f 33, f 34, f 35, f 36, f 37, f 38, f 39, f 40, f 41, f 42], defers := a.defers } ∧ ∀ i v, a.tmps[i]? = some v → f i = v := by
  refine ⟨fun i => a.tmps.getD i undef, ?_, fun i v hv => by simp only [Array.getD_eq_getD_getElem?, hv]; rfl⟩
  have e : a.tmps = ((List.range 43).map fun i => a.tmps.getD i undef).toArray := by
    apply Array.ext
    · simp [h]
    · intro i h1 h2
      simp [Array.getD_eq_getD_getElem?, h1]
  cases a with
  | mk t d =>
    simp only [Act.mk.injEq, and_true]
    exact e
def wyR (gx gy : Nat) (er : Int) (ls : List UInt8) (Ab Ac : Option Addr) (cb cc : Nat) (x : Wl) (Dx : Option Addr) (ndx cdx : Nat) (Nx : Option Addr) (nnx cnx : Nat) (Dy : Option Addr) (ndy cdy : Nat) (Ny : Option Addr) (nny cny : Nat) : Nat → Value → World → Prop
  | 0 => fun v w => v = .agg #[.int .i64 x.cl, .int .i64 x.sp, .int .i64 x.gr, .int .i64 x.ep, .int .i64 x.kd, .int .i64 x.bl, .slice Dy ndy cdy, .int .i64 x.od, .int .i64 x.nw, .slice Ny nny cny]
  | 1 => fun v w => v = .int .i64 (chk x)
  | 2 => fun v w => v = .agg #[.int .i64 x.cl, .int .i64 x.sp, .int .i64 x.gr, .int .i64 x.ep, .int .i64 x.kd, .int .i64 x.bl, .slice Dx ndx cdx, .int .i64 x.od, .int .i64 x.nw, .slice Nx nnx cnx]
  | 3 => fun v w => v = .int .i64 (chk x)
  | 4 => fun v w => v = .bool true
  | 5 => fun v w => v = .bool true
  | 6 => fun v w => v = .slice Ab ls.length cb
  | 7 => fun v w => v = .slice Ac ls.length cc
  | 8 => fun v w => v = .bool true
  | 9 => fun v w => v = .bool true
  | 10 => fun v w => v = .bool true
  | 11 => fun v w => v = .int .i64 er
  | 12 => fun v w => v = .int .i64 er
  | 13 => fun v w => v = .bool true
  | 14 => fun v w => v = .bool true
  | 15 => fun v w => v = .bool true
  | 16 => fun v w => v = .agg #[.int .i64 x.cl, .int .i64 x.sp, .int .i64 x.gr, .int .i64 x.ep, .int .i64 x.kd, .int .i64 x.bl, .slice Dy ndy cdy, .int .i64 x.od, .int .i64 x.nw, .slice Ny nny cny]
  | 17 => fun v w => v = .agg #[.int .i64 x.cl, .int .i64 x.sp, .int .i64 x.gr, .int .i64 x.ep, .int .i64 x.kd, .int .i64 x.bl, .slice Dx ndx cdx, .int .i64 x.od, .int .i64 x.nw, .slice Nx nnx cnx]
  | 18 => fun v w => v = .bool true
  | 19 => fun v w => v = .bool true
  | 20 => fun v w => v = .bool true
  | 21 => fun v w => v = .bool true
  | 22 => fun v w => v = .bool true
  | 23 => fun v w => v = .bool true
  | _ => fun _ _ => True
def wyD (i : Nat) : Nat := ([20, 21, 22, 23, 24, 25, 26, 27, 28, 29, 30, 31, 32, 33, 34, 35, 36, 37, 38, 39, 40, 41, 42, 2] : List Nat).getD i 0
def wyG : Nat → Option Bool
  | 5 => some true
  | 10 => some true
  | 15 => some true
  | 20 => some true
  | _ => none
def wyS (i : Nat) : Bool := ([] : List Nat).contains i
theorem wy_gb (gx gy : Nat) (er : Int) (ls : List UInt8) (Ab Ac : Option Addr) (cb cc : Nat) (x : Wl) (Dx : Option Addr) (ndx cdx : Nat) (Nx : Option Addr) (nnx cnx : Nat) (Dy : Option Addr) (ndy cdy : Nat) (Ny : Option Addr) (nny cny : Nat) : ∀ i b v w, wyG i = some b → wyR gx gy er ls Ab Ac cb cc x Dx ndx cdx Nx nnx cnx Dy ndy cdy Ny nny cny i v w → v = .bool b := by
  intro i b v w h hR
  unfold wyG at h
  split at h
  all_goals first | (injection h with h; subst h; exact hR) | cases h
theorem wy_sk (gx gy : Nat) (er : Int) (ls : List UInt8) (Ab Ac : Option Addr) (cb cc : Nat) (x : Wl) (Dx : Option Addr) (ndx cdx : Nat) (Nx : Option Addr) (nnx cnx : Nat) (Dy : Option Addr) (ndy cdy : Nat) (Ny : Option Addr) (nny cny : Nat) : ∀ i w, wyS i = true → wyR gx gy er ls Ab Ac cb cc x Dx ndx cdx Nx nnx cnx Dy ndy cdy Ny nny cny i undef w := by
  intro i w h
  simp [wyS] at h
theorem wy_on (gx gy : Nat) (er : Int) (ls : List UInt8) (Ab Ac : Option Addr) (cb cc : Nat) (x : Wl) (Dx : Option Addr) (ndx cdx : Nat) (Nx : Option Addr) (nnx cnx : Nat) (Dy : Option Addr) (ndy cdy : Nat) (Ny : Option Addr) (nny cny : Nat) : ∀ i v w w', wyR gx gy er ls Ab Ac cb cc x Dx ndx cdx Nx nnx cnx Dy ndy cdy Ny nny cny i v w → Below w.heap.size w w' → wyR gx gy er ls Ab Ac cb cc x Dx ndx cdx Nx nnx cnx Dy ndy cdy Ny nny cny i v w'
  | 0, v, w, w', h, _ => h
  | 1, v, w, w', h, _ => h
  | 2, v, w, w', h, _ => h
  | 3, v, w, w', h, _ => h
  | 4, v, w, w', h, _ => h
  | 5, v, w, w', h, _ => h
  | 6, v, w, w', h, _ => h
  | 7, v, w, w', h, _ => h
  | 8, v, w, w', h, _ => h
  | 9, v, w, w', h, _ => h
  | 10, v, w, w', h, _ => h
  | 11, v, w, w', h, _ => h
  | 12, v, w, w', h, _ => h
  | 13, v, w, w', h, _ => h
  | 14, v, w, w', h, _ => h
  | 15, v, w, w', h, _ => h
  | 16, v, w, w', h, _ => h
  | 17, v, w, w', h, _ => h
  | 18, v, w, w', h, _ => h
  | 19, v, w, w', h, _ => h
  | 20, v, w, w', h, _ => h
  | 21, v, w, w', h, _ => h
  | 22, v, w, w', h, _ => h
  | 23, v, w, w', h, _ => h
  | i + 24, v, w, w', h, hb => trivial
def wyOps : List Op := [.load 25 (.tmp 3),
  .call { callee := .value (.func 16), args := #[.tmp 20], argTypes := #[25] },
  .load 25 (.tmp 1),
  .call { callee := .value (.func 17), args := #[.tmp 22], argTypes := #[25] },
  .binOp .eql 27 (.tmp 21) (.tmp 23) 27,
  .move (.tmp 24),
  .move (.tmp 4),
  .move (.tmp 6),
  .call { callee := .value (.func 18), args := #[.tmp 26, .tmp 27], argTypes := #[22, 22] },
  .pick (.tmp 25) (.tmp 28) (.const (.bool false)),
  .move (.tmp 29),
  .move (.tmp 5),
  .move (.tmp 7),
  .binOp .eql 27 (.tmp 31) (.tmp 32) 27,
  .pick (.tmp 30) (.tmp 33) (.const (.bool false)),
  .move (.tmp 34),
  .load 25 (.tmp 3),
  .load 25 (.tmp 1),
  .call { callee := .value (.func 19), args := #[.tmp 36, .tmp 37], argTypes := #[25, 25] },
  .pick (.tmp 35) (.tmp 38) (.const (.bool false)),
  .move (.tmp 39),
  .call { callee := .value (.func 20), args := #[], argTypes := #[] },
  .pick (.tmp 40) (.tmp 41) (.const (.bool false)),
  .assign (.tmp 42)]
def wyNeeds : Nat → List Nat
  | 0 => []
  | 1 => [0]
  | 2 => []
  | 3 => [2]
  | 4 => [1, 3]
  | 5 => [4]
  | 6 => []
  | 7 => []
  | 8 => [6, 7]
  | 9 => [5, 8]
  | 10 => [9]
  | 11 => []
  | 12 => []
  | 13 => [11, 12]
  | 14 => [10, 13]
  | 15 => [14]
  | 16 => []
  | 17 => []
  | 18 => [16, 17]
  | 19 => [15, 18]
  | 20 => [19]
  | 21 => []
  | 22 => [20, 21]
  | 23 => [22]
  | _ => []
set_option maxRecDepth 100000 in
set_option maxHeartbeats 3200000 in
theorem wy_step {ops : Array Oper} {Q : Exit → Act → World → Prop} {a0 : Act} {w0 : World} (gx gy : Nat) (er : Int) (ls : List UInt8) (Ab Ac : Option Addr) (cb cc : Nat) (x : Wl) (Dx : Option Addr) (ndx cdx : Nat) (Nx : Option Addr) (nnx cnx : Nat) (Dy : Option Addr) (ndy cdy : Nat) (Ny : Option Addr) (nny cny : Nat) (hops : ((List.range 24).map fun i => (ops[i]?).map Oper.op) = wyOps.map some)
    (hnd : ((List.range 24).all fun i => (wyNeeds i).all fun j => ((ops[i]?).map fun o => o.after.any fun e => Region.binds .any e && (e.on == j)).getD false) = true)
    (x1 : a0.tmps[1]? = some (.pointer (some ⟨gx, 0, none⟩))) (x3 : a0.tmps[3]? = some (.pointer (some ⟨gy, 0, none⟩))) (x4 : a0.tmps[4]? = some (.slice Ab ls.length cb)) (x5 : a0.tmps[5]? = some (.int .i64 er)) (x6 : a0.tmps[6]? = some (.slice Ac ls.length cc)) (x7 : a0.tmps[7]? = some (.int .i64 er))
    (hBx : Blk w0 gx 25 [.int .i64 x.cl, .int .i64 x.sp, .int .i64 x.gr, .int .i64 x.ep, .int .i64 x.kd, .int .i64 x.bl, .slice Dx ndx cdx, .int .i64 x.od, .int .i64 x.nw, .slice Nx nnx cnx]) (hBy : Blk w0 gy 25 [.int .i64 x.cl, .int .i64 x.sp, .int .i64 x.gr, .int .i64 x.ep, .int .i64 x.kd, .int .i64 x.bl, .slice Dy ndy cdy, .int .i64 x.od, .int .i64 x.nw, .slice Ny nny cny]) (hx : ArgW w0 x Dx ndx cdx Nx nnx cnx) (hy : ArgW w0 x Dy ndy cdy Ny nny cny) (hb1 : Bs w0 Ab ls) (hb2 : Bs w0 Ac ls) (hbm : ls.length ≤ maxLen) :
    ∀ i o, i < 24 → wyS i = false → ops[i]? = some o → o.dst = some (wyD i) → ∀ a w, Base wyD 24 a0 a → Below w0.heap.size w0 w → Region.wanted o (yielded ops a.tmps) = true →
      (∀ j, (o.after.any fun e => Region.binds .any e && (e.on == j)) = true → Has wyD (wyR gx gy er ls Ab Ac cb cc x Dx ndx cdx Nx nnx cnx Dy ndy cdy Ny nny cny) j a w) →
      ∀ K : Act → World → Prop, (∀ v w', wyR gx gy er ls Ab Ac cb cc x Dx ndx cdx Nx nnx cnx Dy ndy cdy Ny nny cny i v w' → Below w.heap.size w w' → K (a.put o.dst v) w') → wpOp Try.prog ops Q i K a w := by
  intro i o hi hs ho hds a w hbase hbl hwt hdep0 K hK
  have hop : some o.op = wyOps[i]? := by
    have h1 : ((List.range 24).map fun i => (ops[i]?).map Oper.op)[i]? = some (some o.op) := by
      rw [List.getElem?_map, List.getElem?_range hi]; simp only [Option.map_some, ho]
    rw [hops, List.getElem?_map] at h1
    cases h2 : wyOps[i]? with
    | none => rw [h2] at h1; cases h1
    | some y => rw [h2] at h1; simp only [Option.map_some, Option.some.injEq] at h1; rw [h1]
  have hdep : ∀ j, j ∈ wyNeeds i → Has wyD (wyR gx gy er ls Ab Ac cb cc x Dx ndx cdx Nx nnx cnx Dy ndy cdy Ny nny cny) j a w := fun j hj => by
    have h1 := List.all_eq_true.1 (List.all_eq_true.1 hnd i (List.mem_range.2 hi)) j hj
    rw [ho] at h1
    exact hdep0 j h1
  clear hdep0 hops hnd
  match i, hi, hs, ho, hop, hds, hdep, hK with
  | 0, _, hs, ho, hop, hds, hdep, hK =>
    have hop : o.op = .load 25 (.tmp 3) := Option.some.inj hop
    have hu3 : a.tmps[3]? = some (.pointer (some ⟨gy, 0, none⟩)) := (hbase.2.2 3 (by decide)).trans x3
    have e3 : a.eval (.tmp 3) = _ := ev_tmp hu3
    refine st3 ho hwt (v := .agg #[.int .i64 x.cl, .int .i64 x.sp, .int .i64 x.gr, .int .i64 x.ep, .int .i64 x.kd, .int .i64 x.bl, .slice Dy ndy cdy, .int .i64 x.od, .int .i64 x.nw, .slice Ny nny cny]) (w' := w) ?_ (hK _ w rfl (Below.refl _ _))
    have k0 : w.cell? ⟨gy, 0, none⟩ = some (.int .i64 x.cl) := (hBy.below hbl hBy.lt).cell rfl
    have k1 : w.cell? ⟨gy, 1, none⟩ = some (.int .i64 x.sp) := (hBy.below hbl hBy.lt).cell rfl
    have k2 : w.cell? ⟨gy, 2, none⟩ = some (.int .i64 x.gr) := (hBy.below hbl hBy.lt).cell rfl
    have k3 : w.cell? ⟨gy, 3, none⟩ = some (.int .i64 x.ep) := (hBy.below hbl hBy.lt).cell rfl
    have k4 : w.cell? ⟨gy, 4, none⟩ = some (.int .i64 x.kd) := (hBy.below hbl hBy.lt).cell rfl
    have k5 : w.cell? ⟨gy, 5, none⟩ = some (.int .i64 x.bl) := (hBy.below hbl hBy.lt).cell rfl
    have k6 : w.cell? ⟨gy, 6, none⟩ = some (.slice Dy ndy cdy) := (hBy.below hbl hBy.lt).cell rfl
    have k7 : w.cell? ⟨gy, 7, none⟩ = some (.int .i64 x.od) := (hBy.below hbl hBy.lt).cell rfl
    have k8 : w.cell? ⟨gy, 8, none⟩ = some (.int .i64 x.nw) := (hBy.below hbl hBy.lt).cell rfl
    have k9 : w.cell? ⟨gy, 9, none⟩ = some (.slice Ny nny cny) := (hBy.below hbl hBy.lt).cell rfl
    unfold execOp
    simp only [hop, Option.map_some, Option.map_none, e3]
    first | rfl | (go_simp; done) | (go_simp; simp; done) | (go_simp; intro h; omega)
  | 1, _, hs, ho, hop, hds, hdep, hK =>
    have hop : o.op = .call { callee := .value (.func 16), args := #[.tmp 20], argTypes := #[25] } := Option.some.inj hop
    obtain ⟨u20, hu20, hv20⟩ := hdep 0 (by decide)
    have hv20' : u20 = .agg #[.int .i64 x.cl, .int .i64 x.sp, .int .i64 x.gr, .int .i64 x.ep, .int .i64 x.kd, .int .i64 x.bl, .slice Dy ndy cdy, .int .i64 x.od, .int .i64 x.nw, .slice Ny nny cny] := hv20
    subst hv20'
    have e20 : a.eval (.tmp 20) = _ := ev_tmp hu20
    refine st3_call ho hwt (f := 16) (vals := #[.agg #[.int .i64 x.cl, .int .i64 x.sp, .int .i64 x.gr, .int .i64 x.ep, .int .i64 x.kd, .int .i64 x.bl, .slice Dy ndy cdy, .int .i64 x.od, .int .i64 x.nw, .slice Ny nny cny]]) (Z := fun v w' => v = .int .i64 (chk x) ∧ Below w.heap.size w w') ?_ ?_ ?_
    · unfold execOp
      simp only [hop, e20, resolve, invoke, Sem.run_bind, Sem.run_pure, Result.andThen_ok, List.map_toArray, List.map_cons, List.map_nil]
      first | rfl | exact enters_of Try.func16 (by kernel_rfl) rfl _ _
    · exact (check_any x Dy ndy cdy Ny nny cny w (hy.after hbl)).mono fun e w' ⟨he, h2⟩ => ⟨_, he, rfl, h2⟩
    · rintro v w' ⟨h1, h2⟩
      exact hK v w' h1 h2
  | 2, _, hs, ho, hop, hds, hdep, hK =>
    have hop : o.op = .load 25 (.tmp 1) := Option.some.inj hop
    have hu1 : a.tmps[1]? = some (.pointer (some ⟨gx, 0, none⟩)) := (hbase.2.2 1 (by decide)).trans x1
    have e1 : a.eval (.tmp 1) = _ := ev_tmp hu1
    refine st3 ho hwt (v := .agg #[.int .i64 x.cl, .int .i64 x.sp, .int .i64 x.gr, .int .i64 x.ep, .int .i64 x.kd, .int .i64 x.bl, .slice Dx ndx cdx, .int .i64 x.od, .int .i64 x.nw, .slice Nx nnx cnx]) (w' := w) ?_ (hK _ w rfl (Below.refl _ _))
    have k0 : w.cell? ⟨gx, 0, none⟩ = some (.int .i64 x.cl) := (hBx.below hbl hBx.lt).cell rfl
    have k1 : w.cell? ⟨gx, 1, none⟩ = some (.int .i64 x.sp) := (hBx.below hbl hBx.lt).cell rfl
    have k2 : w.cell? ⟨gx, 2, none⟩ = some (.int .i64 x.gr) := (hBx.below hbl hBx.lt).cell rfl
    have k3 : w.cell? ⟨gx, 3, none⟩ = some (.int .i64 x.ep) := (hBx.below hbl hBx.lt).cell rfl
    have k4 : w.cell? ⟨gx, 4, none⟩ = some (.int .i64 x.kd) := (hBx.below hbl hBx.lt).cell rfl
    have k5 : w.cell? ⟨gx, 5, none⟩ = some (.int .i64 x.bl) := (hBx.below hbl hBx.lt).cell rfl
    have k6 : w.cell? ⟨gx, 6, none⟩ = some (.slice Dx ndx cdx) := (hBx.below hbl hBx.lt).cell rfl
    have k7 : w.cell? ⟨gx, 7, none⟩ = some (.int .i64 x.od) := (hBx.below hbl hBx.lt).cell rfl
    have k8 : w.cell? ⟨gx, 8, none⟩ = some (.int .i64 x.nw) := (hBx.below hbl hBx.lt).cell rfl
    have k9 : w.cell? ⟨gx, 9, none⟩ = some (.slice Nx nnx cnx) := (hBx.below hbl hBx.lt).cell rfl
    unfold execOp
    simp only [hop, Option.map_some, Option.map_none, e1]
    first | rfl | (go_simp; done) | (go_simp; simp; done) | (go_simp; intro h; omega)
  | 3, _, hs, ho, hop, hds, hdep, hK =>
    have hop : o.op = .call { callee := .value (.func 17), args := #[.tmp 22], argTypes := #[25] } := Option.some.inj hop
    obtain ⟨u22, hu22, hv22⟩ := hdep 2 (by decide)
    have hv22' : u22 = .agg #[.int .i64 x.cl, .int .i64 x.sp, .int .i64 x.gr, .int .i64 x.ep, .int .i64 x.kd, .int .i64 x.bl, .slice Dx ndx cdx, .int .i64 x.od, .int .i64 x.nw, .slice Nx nnx cnx] := hv22
    subst hv22'
    have e22 : a.eval (.tmp 22) = _ := ev_tmp hu22
    refine st3_call ho hwt (f := 17) (vals := #[.agg #[.int .i64 x.cl, .int .i64 x.sp, .int .i64 x.gr, .int .i64 x.ep, .int .i64 x.kd, .int .i64 x.bl, .slice Dx ndx cdx, .int .i64 x.od, .int .i64 x.nw, .slice Nx nnx cnx]]) (Z := fun v w' => v = .int .i64 (chk x) ∧ Below w.heap.size w w') ?_ ?_ ?_
    · unfold execOp
      simp only [hop, e22, resolve, invoke, Sem.run_bind, Sem.run_pure, Result.andThen_ok, List.map_toArray, List.map_cons, List.map_nil]
      first | rfl | exact enters_of Try.func17 (by kernel_rfl) rfl _ _
    · exact (rcheck_any x Dx ndx cdx Nx nnx cnx w (hx.after hbl)).mono fun e w' ⟨he, h2⟩ => ⟨_, he, rfl, h2⟩
    · rintro v w' ⟨h1, h2⟩
      exact hK v w' h1 h2
  | 4, _, hs, ho, hop, hds, hdep, hK =>
    have hop : o.op = .binOp .eql 27 (.tmp 21) (.tmp 23) 27 := Option.some.inj hop
    obtain ⟨u21, hu21, hv21⟩ := hdep 1 (by decide)
    have hv21' : u21 = .int .i64 (chk x) := hv21
    subst hv21'
    have e21 : a.eval (.tmp 21) = _ := ev_tmp hu21
    obtain ⟨u23, hu23, hv23⟩ := hdep 3 (by decide)
    have hv23' : u23 = .int .i64 (chk x) := hv23
    subst hv23'
    have e23 : a.eval (.tmp 23) = _ := ev_tmp hu23
    refine st3 ho hwt (v := .bool true) (w' := w) ?_ (hK _ w rfl (Below.refl _ _))
    unfold execOp
    simp only [hop, e21, e23]
    first | rfl | (go_simp; done) | (go_simp; simp; done) | (go_simp; intro h; omega)
  | 5, _, hs, ho, hop, hds, hdep, hK =>
    have hop : o.op = .move (.tmp 24) := Option.some.inj hop
    obtain ⟨u24, hu24, hv24⟩ := hdep 4 (by decide)
    have hv24' : u24 = .bool true := hv24
    subst hv24'
    have e24 : a.eval (.tmp 24) = _ := ev_tmp hu24
    refine st3 ho hwt (v := _) (w' := w) ?_ (hK _ w rfl (Below.refl _ _))
    unfold execOp
    rw [hop, ← e24]
    rfl
  | 6, _, hs, ho, hop, hds, hdep, hK =>
    have hop : o.op = .move (.tmp 4) := Option.some.inj hop
    have hu4 : a.tmps[4]? = some (.slice Ab ls.length cb) := (hbase.2.2 4 (by decide)).trans x4
    have e4 : a.eval (.tmp 4) = _ := ev_tmp hu4
    refine st3 ho hwt (v := _) (w' := w) ?_ (hK _ w rfl (Below.refl _ _))
    unfold execOp
    rw [hop, ← e4]
    rfl
  | 7, _, hs, ho, hop, hds, hdep, hK =>
    have hop : o.op = .move (.tmp 6) := Option.some.inj hop
    have hu6 : a.tmps[6]? = some (.slice Ac ls.length cc) := (hbase.2.2 6 (by decide)).trans x6
    have e6 : a.eval (.tmp 6) = _ := ev_tmp hu6
    refine st3 ho hwt (v := _) (w' := w) ?_ (hK _ w rfl (Below.refl _ _))
    unfold execOp
    rw [hop, ← e6]
    rfl
  | 8, _, hs, ho, hop, hds, hdep, hK =>
    have hop : o.op = .call { callee := .value (.func 18), args := #[.tmp 26, .tmp 27], argTypes := #[22, 22] } := Option.some.inj hop
    obtain ⟨u26, hu26, hv26⟩ := hdep 6 (by decide)
    have hv26' : u26 = .slice Ab ls.length cb := hv26
    subst hv26'
    have e26 : a.eval (.tmp 26) = _ := ev_tmp hu26
    obtain ⟨u27, hu27, hv27⟩ := hdep 7 (by decide)
    have hv27' : u27 = .slice Ac ls.length cc := hv27
    subst hv27'
    have e27 : a.eval (.tmp 27) = _ := ev_tmp hu27
    refine st3_call ho hwt (f := 18) (vals := #[.slice Ab ls.length cb, .slice Ac ls.length cc]) (Z := fun v w' => v = .bool true ∧ Below w.heap.size w w') ?_ ?_ ?_
    · unfold execOp
      simp only [hop, e26, e27, resolve, invoke, Sem.run_bind, Sem.run_pure, Result.andThen_ok, List.map_toArray, List.map_cons, List.map_nil]
      first | rfl | exact enters_of Try.func18 (by kernel_rfl) rfl _ _
    · exact (eqBytes Ab Ac _ _ _ _ ls ls w (hb1.after hbl) (hb2.after hbl) rfl rfl hbm hbm).mono fun e w' ⟨he, h2⟩ => ⟨_, he, by simp, h2⟩
    · rintro v w' ⟨h1, h2⟩
      exact hK v w' h1 h2
  | 9, _, hs, ho, hop, hds, hdep, hK =>
    have hop : o.op = .pick (.tmp 25) (.tmp 28) (.const (.bool false)) := Option.some.inj hop
    obtain ⟨u25, hu25, hv25⟩ := hdep 5 (by decide)
    have hv25' : u25 = .bool true := hv25
    subst hv25'
    have e25 : a.eval (.tmp 25) = _ := ev_tmp hu25
    obtain ⟨u28, hu28, hv28⟩ := hdep 8 (by decide)
    have hv28' : u28 = .bool true := hv28
    subst hv28'
    have e28 : a.eval (.tmp 28) = _ := ev_tmp hu28
    refine st3 ho hwt (v := .bool true) (w' := w) ?_ (hK _ w rfl (Below.refl _ _))
    unfold execOp
    simp only [hop, e25, e28]
    first | rfl | (go_simp; done) | (go_simp; simp; done) | (go_simp; intro h; omega)
  | 10, _, hs, ho, hop, hds, hdep, hK =>
    have hop : o.op = .move (.tmp 29) := Option.some.inj hop
    obtain ⟨u29, hu29, hv29⟩ := hdep 9 (by decide)
    have hv29' : u29 = .bool true := hv29
    subst hv29'
    have e29 : a.eval (.tmp 29) = _ := ev_tmp hu29
    refine st3 ho hwt (v := _) (w' := w) ?_ (hK _ w rfl (Below.refl _ _))
    unfold execOp
    rw [hop, ← e29]
    rfl
  | 11, _, hs, ho, hop, hds, hdep, hK =>
    have hop : o.op = .move (.tmp 5) := Option.some.inj hop
    have hu5 : a.tmps[5]? = some (.int .i64 er) := (hbase.2.2 5 (by decide)).trans x5
    have e5 : a.eval (.tmp 5) = _ := ev_tmp hu5
    refine st3 ho hwt (v := _) (w' := w) ?_ (hK _ w rfl (Below.refl _ _))
    unfold execOp
    rw [hop, ← e5]
    rfl
  | 12, _, hs, ho, hop, hds, hdep, hK =>
    have hop : o.op = .move (.tmp 7) := Option.some.inj hop
    have hu7 : a.tmps[7]? = some (.int .i64 er) := (hbase.2.2 7 (by decide)).trans x7
    have e7 : a.eval (.tmp 7) = _ := ev_tmp hu7
    refine st3 ho hwt (v := _) (w' := w) ?_ (hK _ w rfl (Below.refl _ _))
    unfold execOp
    rw [hop, ← e7]
    rfl
  | 13, _, hs, ho, hop, hds, hdep, hK =>
    have hop : o.op = .binOp .eql 27 (.tmp 31) (.tmp 32) 27 := Option.some.inj hop
    obtain ⟨u31, hu31, hv31⟩ := hdep 11 (by decide)
    have hv31' : u31 = .int .i64 er := hv31
    subst hv31'
    have e31 : a.eval (.tmp 31) = _ := ev_tmp hu31
    obtain ⟨u32, hu32, hv32⟩ := hdep 12 (by decide)
    have hv32' : u32 = .int .i64 er := hv32
    subst hv32'
    have e32 : a.eval (.tmp 32) = _ := ev_tmp hu32
    refine st3 ho hwt (v := .bool true) (w' := w) ?_ (hK _ w rfl (Below.refl _ _))
    unfold execOp
    simp only [hop, e31, e32]
    first | rfl | (go_simp; done) | (go_simp; simp; done) | (go_simp; intro h; omega)
  | 14, _, hs, ho, hop, hds, hdep, hK =>
    have hop : o.op = .pick (.tmp 30) (.tmp 33) (.const (.bool false)) := Option.some.inj hop
    obtain ⟨u30, hu30, hv30⟩ := hdep 10 (by decide)
    have hv30' : u30 = .bool true := hv30
    subst hv30'
    have e30 : a.eval (.tmp 30) = _ := ev_tmp hu30
    obtain ⟨u33, hu33, hv33⟩ := hdep 13 (by decide)
    have hv33' : u33 = .bool true := hv33
    subst hv33'
    have e33 : a.eval (.tmp 33) = _ := ev_tmp hu33
    refine st3 ho hwt (v := .bool true) (w' := w) ?_ (hK _ w rfl (Below.refl _ _))
    unfold execOp
    simp only [hop, e30, e33]
    first | rfl | (go_simp; done) | (go_simp; simp; done) | (go_simp; intro h; omega)
  | 15, _, hs, ho, hop, hds, hdep, hK =>
    have hop : o.op = .move (.tmp 34) := Option.some.inj hop
    obtain ⟨u34, hu34, hv34⟩ := hdep 14 (by decide)
    have hv34' : u34 = .bool true := hv34
    subst hv34'
    have e34 : a.eval (.tmp 34) = _ := ev_tmp hu34
    refine st3 ho hwt (v := _) (w' := w) ?_ (hK _ w rfl (Below.refl _ _))
    unfold execOp
    rw [hop, ← e34]
    rfl
  | 16, _, hs, ho, hop, hds, hdep, hK =>
    have hop : o.op = .load 25 (.tmp 3) := Option.some.inj hop
    have hu3 : a.tmps[3]? = some (.pointer (some ⟨gy, 0, none⟩)) := (hbase.2.2 3 (by decide)).trans x3
    have e3 : a.eval (.tmp 3) = _ := ev_tmp hu3
    refine st3 ho hwt (v := .agg #[.int .i64 x.cl, .int .i64 x.sp, .int .i64 x.gr, .int .i64 x.ep, .int .i64 x.kd, .int .i64 x.bl, .slice Dy ndy cdy, .int .i64 x.od, .int .i64 x.nw, .slice Ny nny cny]) (w' := w) ?_ (hK _ w rfl (Below.refl _ _))
    have k0 : w.cell? ⟨gy, 0, none⟩ = some (.int .i64 x.cl) := (hBy.below hbl hBy.lt).cell rfl
    have k1 : w.cell? ⟨gy, 1, none⟩ = some (.int .i64 x.sp) := (hBy.below hbl hBy.lt).cell rfl
    have k2 : w.cell? ⟨gy, 2, none⟩ = some (.int .i64 x.gr) := (hBy.below hbl hBy.lt).cell rfl
    have k3 : w.cell? ⟨gy, 3, none⟩ = some (.int .i64 x.ep) := (hBy.below hbl hBy.lt).cell rfl
    have k4 : w.cell? ⟨gy, 4, none⟩ = some (.int .i64 x.kd) := (hBy.below hbl hBy.lt).cell rfl
    have k5 : w.cell? ⟨gy, 5, none⟩ = some (.int .i64 x.bl) := (hBy.below hbl hBy.lt).cell rfl
    have k6 : w.cell? ⟨gy, 6, none⟩ = some (.slice Dy ndy cdy) := (hBy.below hbl hBy.lt).cell rfl
    have k7 : w.cell? ⟨gy, 7, none⟩ = some (.int .i64 x.od) := (hBy.below hbl hBy.lt).cell rfl
    have k8 : w.cell? ⟨gy, 8, none⟩ = some (.int .i64 x.nw) := (hBy.below hbl hBy.lt).cell rfl
    have k9 : w.cell? ⟨gy, 9, none⟩ = some (.slice Ny nny cny) := (hBy.below hbl hBy.lt).cell rfl
    unfold execOp
    simp only [hop, Option.map_some, Option.map_none, e3]
    first | rfl | (go_simp; done) | (go_simp; simp; done) | (go_simp; intro h; omega)
  | 17, _, hs, ho, hop, hds, hdep, hK =>
    have hop : o.op = .load 25 (.tmp 1) := Option.some.inj hop
    have hu1 : a.tmps[1]? = some (.pointer (some ⟨gx, 0, none⟩)) := (hbase.2.2 1 (by decide)).trans x1
    have e1 : a.eval (.tmp 1) = _ := ev_tmp hu1
    refine st3 ho hwt (v := .agg #[.int .i64 x.cl, .int .i64 x.sp, .int .i64 x.gr, .int .i64 x.ep, .int .i64 x.kd, .int .i64 x.bl, .slice Dx ndx cdx, .int .i64 x.od, .int .i64 x.nw, .slice Nx nnx cnx]) (w' := w) ?_ (hK _ w rfl (Below.refl _ _))
    have k0 : w.cell? ⟨gx, 0, none⟩ = some (.int .i64 x.cl) := (hBx.below hbl hBx.lt).cell rfl
    have k1 : w.cell? ⟨gx, 1, none⟩ = some (.int .i64 x.sp) := (hBx.below hbl hBx.lt).cell rfl
    have k2 : w.cell? ⟨gx, 2, none⟩ = some (.int .i64 x.gr) := (hBx.below hbl hBx.lt).cell rfl
    have k3 : w.cell? ⟨gx, 3, none⟩ = some (.int .i64 x.ep) := (hBx.below hbl hBx.lt).cell rfl
    have k4 : w.cell? ⟨gx, 4, none⟩ = some (.int .i64 x.kd) := (hBx.below hbl hBx.lt).cell rfl
    have k5 : w.cell? ⟨gx, 5, none⟩ = some (.int .i64 x.bl) := (hBx.below hbl hBx.lt).cell rfl
    have k6 : w.cell? ⟨gx, 6, none⟩ = some (.slice Dx ndx cdx) := (hBx.below hbl hBx.lt).cell rfl
    have k7 : w.cell? ⟨gx, 7, none⟩ = some (.int .i64 x.od) := (hBx.below hbl hBx.lt).cell rfl
    have k8 : w.cell? ⟨gx, 8, none⟩ = some (.int .i64 x.nw) := (hBx.below hbl hBx.lt).cell rfl
    have k9 : w.cell? ⟨gx, 9, none⟩ = some (.slice Nx nnx cnx) := (hBx.below hbl hBx.lt).cell rfl
    unfold execOp
    simp only [hop, Option.map_some, Option.map_none, e1]
    first | rfl | (go_simp; done) | (go_simp; simp; done) | (go_simp; intro h; omega)
  | 18, _, hs, ho, hop, hds, hdep, hK =>
    have hop : o.op = .call { callee := .value (.func 19), args := #[.tmp 36, .tmp 37], argTypes := #[25, 25] } := Option.some.inj hop
    obtain ⟨u36, hu36, hv36⟩ := hdep 16 (by decide)
    have hv36' : u36 = .agg #[.int .i64 x.cl, .int .i64 x.sp, .int .i64 x.gr, .int .i64 x.ep, .int .i64 x.kd, .int .i64 x.bl, .slice Dy ndy cdy, .int .i64 x.od, .int .i64 x.nw, .slice Ny nny cny] := hv36
    subst hv36'
    have e36 : a.eval (.tmp 36) = _ := ev_tmp hu36
    obtain ⟨u37, hu37, hv37⟩ := hdep 17 (by decide)
    have hv37' : u37 = .agg #[.int .i64 x.cl, .int .i64 x.sp, .int .i64 x.gr, .int .i64 x.ep, .int .i64 x.kd, .int .i64 x.bl, .slice Dx ndx cdx, .int .i64 x.od, .int .i64 x.nw, .slice Nx nnx cnx] := hv37
    subst hv37'
    have e37 : a.eval (.tmp 37) = _ := ev_tmp hu37
    refine st3_call ho hwt (f := 19) (vals := #[.agg #[.int .i64 x.cl, .int .i64 x.sp, .int .i64 x.gr, .int .i64 x.ep, .int .i64 x.kd, .int .i64 x.bl, .slice Dy ndy cdy, .int .i64 x.od, .int .i64 x.nw, .slice Ny nny cny], .agg #[.int .i64 x.cl, .int .i64 x.sp, .int .i64 x.gr, .int .i64 x.ep, .int .i64 x.kd, .int .i64 x.bl, .slice Dx ndx cdx, .int .i64 x.od, .int .i64 x.nw, .slice Nx nnx cnx]]) (Z := fun v w' => v = .bool true ∧ Below w.heap.size w w') ?_ ?_ ?_
    · unfold execOp
      simp only [hop, e36, e37, resolve, invoke, Sem.run_bind, Sem.run_pure, Result.andThen_ok, List.map_toArray, List.map_cons, List.map_nil]
      first | rfl | exact enters_of Try.func19 (by kernel_rfl) rfl _ _
    · exact (rsame_any x Dy ndy cdy Ny nny cny x Dx ndx cdx Nx nnx cnx w (hy.after hbl) (hx.after hbl)).mono fun e w' ⟨he, h2⟩ => ⟨_, he, congrArg Value.bool (sameB_self x), h2⟩
    · rintro v w' ⟨h1, h2⟩
      exact hK v w' h1 h2
  | 19, _, hs, ho, hop, hds, hdep, hK =>
    have hop : o.op = .pick (.tmp 35) (.tmp 38) (.const (.bool false)) := Option.some.inj hop
    obtain ⟨u35, hu35, hv35⟩ := hdep 15 (by decide)
    have hv35' : u35 = .bool true := hv35
    subst hv35'
    have e35 : a.eval (.tmp 35) = _ := ev_tmp hu35
    obtain ⟨u38, hu38, hv38⟩ := hdep 18 (by decide)
    have hv38' : u38 = .bool true := hv38
    subst hv38'
    have e38 : a.eval (.tmp 38) = _ := ev_tmp hu38
    refine st3 ho hwt (v := .bool true) (w' := w) ?_ (hK _ w rfl (Below.refl _ _))
    unfold execOp
    simp only [hop, e35, e38]
    first | rfl | (go_simp; done) | (go_simp; simp; done) | (go_simp; intro h; omega)
  | 20, _, hs, ho, hop, hds, hdep, hK =>
    have hop : o.op = .move (.tmp 39) := Option.some.inj hop
    obtain ⟨u39, hu39, hv39⟩ := hdep 19 (by decide)
    have hv39' : u39 = .bool true := hv39
    subst hv39'
    have e39 : a.eval (.tmp 39) = _ := ev_tmp hu39
    refine st3 ho hwt (v := _) (w' := w) ?_ (hK _ w rfl (Below.refl _ _))
    unfold execOp
    rw [hop, ← e39]
    rfl
  | 21, _, hs, ho, hop, hds, hdep, hK =>
    have hop : o.op = .call { callee := .value (.func 20), args := #[], argTypes := #[] } := Option.some.inj hop
    refine st3_call ho hwt (f := 20) (vals := #[]) (Z := fun v w' => v = .bool true ∧ Below w.heap.size w w') ?_ ?_ ?_
    · unfold execOp
      simp only [hop, resolve, invoke, Sem.run_bind, Sem.run_pure, Result.andThen_ok, List.map_toArray, List.map_cons, List.map_nil]
      first | rfl | exact enters_of Try.func20 (by kernel_rfl) rfl _ _
    · exact (works11_any w).mono fun e w' ⟨he, h2⟩ => ⟨_, he, rfl, h2⟩
    · rintro v w' ⟨h1, h2⟩
      exact hK v w' h1 h2
  | 22, _, hs, ho, hop, hds, hdep, hK =>
    have hop : o.op = .pick (.tmp 40) (.tmp 41) (.const (.bool false)) := Option.some.inj hop
    obtain ⟨u40, hu40, hv40⟩ := hdep 20 (by decide)
    have hv40' : u40 = .bool true := hv40
    subst hv40'
    have e40 : a.eval (.tmp 40) = _ := ev_tmp hu40
    obtain ⟨u41, hu41, hv41⟩ := hdep 21 (by decide)
    have hv41' : u41 = .bool true := hv41
    subst hv41'
    have e41 : a.eval (.tmp 41) = _ := ev_tmp hu41
    refine st3 ho hwt (v := .bool true) (w' := w) ?_ (hK _ w rfl (Below.refl _ _))
    unfold execOp
    simp only [hop, e40, e41]
    first | rfl | (go_simp; done) | (go_simp; simp; done) | (go_simp; intro h; omega)
  | 23, _, hs, ho, hop, hds, hdep, hK =>
    have hop : o.op = .assign (.tmp 42) := Option.some.inj hop
    obtain ⟨u42, hu42, hv42⟩ := hdep 22 (by decide)
    have hv42' : u42 = .bool true := hv42
    subst hv42'
    have e42 : a.eval (.tmp 42) = _ := ev_tmp hu42
    refine st3 ho hwt (v := _) (w' := w) ?_ (hK _ w rfl (Below.refl _ _))
    unfold execOp
    rw [hop, ← e42]
    rfl
  | i + 24, hi, _, _, _, _, _, _ => exact absurd hi (by omega)
set_option maxRecDepth 100000 in
set_option maxHeartbeats 6400000 in
theorem walk (x : Wl) (Dx : Option Addr) (ndx cdx : Nat) (Nx : Option Addr) (nnx cnx : Nat) (w : World) (hx : ArgW w x Dx ndx cdx Nx nnx cnx) :
    Calls Try.prog 3 #[.agg #[.int .i64 x.cl, .int .i64 x.sp, .int .i64 x.gr, .int .i64 x.ep, .int .i64 x.kd, .int .i64 x.bl, .slice Dx ndx cdx, .int .i64 x.od, .int .i64 x.nw, .slice Nx nnx cnx]] w fun e w' => e = .returned (.bool true) ∧ Below w.heap.size w w' := by
  have hb0 : Below w.heap.size w (w.alloc (.cells #[.int .i64 x.cl, .int .i64 x.sp, .int .i64 x.gr, .int .i64 x.ep, .int .i64 x.kd, .int .i64 x.bl, .slice Dx ndx cdx, .int .i64 x.od, .int .i64 x.nw, .slice Nx nnx cnx] 25)) := (Below.refl _ _).alloc (Nat.le_refl _) _
  have hB1 : Blk (w.alloc (.cells #[.int .i64 x.cl, .int .i64 x.sp, .int .i64 x.gr, .int .i64 x.ep, .int .i64 x.kd, .int .i64 x.bl, .slice Dx ndx cdx, .int .i64 x.od, .int .i64 x.nw, .slice Nx nnx cnx] 25)) w.heap.size 25 [.int .i64 x.cl, .int .i64 x.sp, .int .i64 x.gr, .int .i64 x.ep, .int .i64 x.kd, .int .i64 x.bl, .slice Dx ndx cdx, .int .i64 x.od, .int .i64 x.nw, .slice Nx nnx cnx] := Blk.new rfl rfl
  have H := Lib.hid (And.intro hB1 (And.intro hb0 (hx.after hb0)))
  clear hb0 hB1 hx
  go_enter Try.func3, Try.ntmps3
  go_wp2_with fail
  refine (rcopy_any x Dx ndx cdx Nx nnx cnx _ H.out.2.2).mono ?_
  rintro e w2 ⟨v, rfl, hV, hb2⟩
  obtain ⟨Dy, ndy, cdy, Ny, nny, cny, rfl, hy⟩ := wv_argw hV H.out.2.2
  have hal : Below w2.heap.size w2 (w2.alloc (.cells #[.int .i64 x.cl, .int .i64 x.sp, .int .i64 x.gr, .int .i64 x.ep, .int .i64 x.kd, .int .i64 x.bl, .slice Dy ndy cdy, .int .i64 x.od, .int .i64 x.nw, .slice Ny nny cny] 25)) := (Below.refl _ _).alloc (Nat.le_refl _) _
  have hb3 := hb2.trans (hal.mono hb2.size)
  have hBy : Blk (w2.alloc (.cells #[.int .i64 x.cl, .int .i64 x.sp, .int .i64 x.gr, .int .i64 x.ep, .int .i64 x.kd, .int .i64 x.bl, .slice Dy ndy cdy, .int .i64 x.od, .int .i64 x.nw, .slice Ny nny cny] 25)) w2.heap.size 25 [.int .i64 x.cl, .int .i64 x.sp, .int .i64 x.gr, .int .i64 x.ep, .int .i64 x.kd, .int .i64 x.bl, .slice Dy ndy cdy, .int .i64 x.od, .int .i64 x.nw, .slice Ny nny cny] := Blk.new rfl rfl
  have hBx := H.out.1.below hb3 H.out.1.lt
  have hy3 := hy.after hal
  have hx3 := H.out.2.2.after hb3
  obtain ⟨WN, hW3⟩ : ∃ W, (w2.alloc (.cells #[.int .i64 x.cl, .int .i64 x.sp, .int .i64 x.gr, .int .i64 x.ep, .int .i64 x.kd, .int .i64 x.bl, .slice Dy ndy cdy, .int .i64 x.od, .int .i64 x.nw, .slice Ny nny cny] 25)) = W := ⟨_, rfl⟩
  rw [hW3] at hb3 hBy hBx hy3 hx3
  have k0 : WN.cell? ⟨w2.heap.size, 0, none⟩ = some (.int .i64 x.cl) := hBy.cell rfl
  have k1 : WN.cell? ⟨w2.heap.size, 1, none⟩ = some (.int .i64 x.sp) := hBy.cell rfl
  have k2 : WN.cell? ⟨w2.heap.size, 2, none⟩ = some (.int .i64 x.gr) := hBy.cell rfl
  have k3 : WN.cell? ⟨w2.heap.size, 3, none⟩ = some (.int .i64 x.ep) := hBy.cell rfl
  have k4 : WN.cell? ⟨w2.heap.size, 4, none⟩ = some (.int .i64 x.kd) := hBy.cell rfl
  have k5 : WN.cell? ⟨w2.heap.size, 5, none⟩ = some (.int .i64 x.bl) := hBy.cell rfl
  have k6 : WN.cell? ⟨w2.heap.size, 6, none⟩ = some (.slice Dy ndy cdy) := hBy.cell rfl
  have k7 : WN.cell? ⟨w2.heap.size, 7, none⟩ = some (.int .i64 x.od) := hBy.cell rfl
  have k8 : WN.cell? ⟨w2.heap.size, 8, none⟩ = some (.int .i64 x.nw) := hBy.cell rfl
  have k9 : WN.cell? ⟨w2.heap.size, 9, none⟩ = some (.slice Ny nny cny) := hBy.cell rfl
  have H3 := Lib.hid (And.intro hBx (And.intro hBy (And.intro hx3 (And.intro hy3 (H.out.2.1.trans (hb3.mono H.out.2.1.size))))))
  have HW3 := Lib.hid hW3
  clear hV hb2 hal hb3 hBy hBx hy3 hx3 hy hW3
  go_upto_region 2 with fail
  rw [HW3.out]
  go_wp2_with fail
  refine (bytes_wish x Dy ndy cdy Ny nny cny WN H3.out.2.2.2.1).mono ?_
  rintro e w4 ⟨v4, rfl, hN4⟩
  obtain ⟨Ab, cb, rfl, _, _, hBb⟩ := hN4.form
  have hBx := H3.out.1.below hN4.2 H3.out.1.lt
  have hBy := H3.out.2.1.below hN4.2 H3.out.2.1.lt
  have k0 : w4.cell? ⟨w.heap.size, 0, none⟩ = some (.int .i64 x.cl) := hBx.cell rfl
  have k1 : w4.cell? ⟨w.heap.size, 1, none⟩ = some (.int .i64 x.sp) := hBx.cell rfl
  have k2 : w4.cell? ⟨w.heap.size, 2, none⟩ = some (.int .i64 x.gr) := hBx.cell rfl
  have k3 : w4.cell? ⟨w.heap.size, 3, none⟩ = some (.int .i64 x.ep) := hBx.cell rfl
  have k4 : w4.cell? ⟨w.heap.size, 4, none⟩ = some (.int .i64 x.kd) := hBx.cell rfl
  have k5 : w4.cell? ⟨w.heap.size, 5, none⟩ = some (.int .i64 x.bl) := hBx.cell rfl
  have k6 : w4.cell? ⟨w.heap.size, 6, none⟩ = some (.slice Dx ndx cdx) := hBx.cell rfl
  have k7 : w4.cell? ⟨w.heap.size, 7, none⟩ = some (.int .i64 x.od) := hBx.cell rfl
  have k8 : w4.cell? ⟨w.heap.size, 8, none⟩ = some (.int .i64 x.nw) := hBx.cell rfl
  have k9 : w4.cell? ⟨w.heap.size, 9, none⟩ = some (.slice Nx nnx cnx) := hBx.cell rfl
  have H4 := Lib.hid (And.intro hBx (And.intro hBy (And.intro (H3.out.2.2.1.after hN4.2) (And.intro (H3.out.2.2.2.1.after hN4.2) (And.intro (H3.out.2.2.2.2.trans (hN4.2.mono H3.out.2.2.2.2.size)) hBb)))))
  clear hN4 hBx hBy hBb
  go_wp2_with fail
  refine (rbytes_any x Dx ndx cdx Nx nnx cnx w4 H4.out.2.2.1).mono ?_
  rintro e w5 ⟨v5, rfl, hN5⟩
  obtain ⟨Ac, cc, rfl, hl5, hc5, hBc⟩ := hN5.form
  have hbm : (wbytes x).1.length ≤ maxLen := Nat.le_trans hl5 hc5
  have H5 := Lib.hid (And.intro (H4.out.1.below hN5.2 H4.out.1.lt) (And.intro (H4.out.2.1.below hN5.2 H4.out.2.1.lt) (And.intro (H4.out.2.2.1.after hN5.2) (And.intro (H4.out.2.2.2.1.after hN5.2) (And.intro (H4.out.2.2.2.2.1.trans (hN5.2.mono H4.out.2.2.2.2.1.size)) (And.intro (H4.out.2.2.2.2.2.after hN5.2) (And.intro hBc hbm)))))))
  clear hN5 hBc hl5 hc5 hbm
  generalize wbytes x = r at *
  go_wp2_with fail
  refine region_rule4 (P := Try.prog) 24 43 wyD wyG wyS (wyR w.heap.size w2.heap.size (r.2 : Int) r.1 Ab Ac cb cc x Dx ndx cdx Nx nnx cnx Dy ndy cdy Ny nny cny) _ _ (by kernel_rfl) rfl rfl (by kernel_rfl) (by decide +kernel) (wy_gb w.heap.size w2.heap.size (r.2 : Int) r.1 Ab Ac cb cc x Dx ndx cdx Nx nnx cnx Dy ndy cdy Ny nny cny) (wy_sk w.heap.size w2.heap.size (r.2 : Int) r.1 Ab Ac cb cc x Dx ndx cdx Nx nnx cnx Dy ndy cdy Ny nny cny) (wy_on w.heap.size w2.heap.size (r.2 : Int) r.1 Ab Ac cb cc x Dx ndx cdx Nx nnx cnx Dy ndy cdy Ny nny cny) (wy_step w.heap.size w2.heap.size (r.2 : Int) r.1 Ab Ac cb cc x Dx ndx cdx Nx nnx cnx Dy ndy cdy Ny nny cny (by rfl) (by kernel_rfl) rfl rfl rfl rfl rfl rfl H5.out.1 H5.out.2.1 H5.out.2.2.1 H5.out.2.2.2.1 H5.out.2.2.2.2.2.1 H5.out.2.2.2.2.2.2.1 H5.out.2.2.2.2.2.2.2) ?fin
  case fin =>
    intro a w6 hbase hbl hall
    obtain ⟨v2, hv2, hR2⟩ := hall 23 (by decide)
    have hR2' : v2 = .bool true := hR2
    subst hR2'
    obtain ⟨g, hg, hge⟩ := lit43 a hbase.1
    have q2 : g 2 = .bool true := hge 2 _ hv2
    have hdf : a.defers = [] := hbase.2.1
    rw [hdf, q2] at hg
    rw [hg]
    have hbf := H5.out.2.2.2.2.1.trans (hbl.mono H5.out.2.2.2.2.1.size)
    clear hall hbase hdf hge
    go_wp2
    go_ret
    exact ⟨rfl, hbf⟩

end Go.Proofs.Ytihmddpafbackaa.wishBytes
