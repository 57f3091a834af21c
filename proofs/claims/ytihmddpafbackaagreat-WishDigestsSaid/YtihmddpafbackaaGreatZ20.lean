/-
  Laid together for a hand-in: Rk11, Rk12, Rva, Rvb.
-/
import Derived.Test.YtihmddpafbackaaGreatZ19
import Derived.Test.YtihmddpafbackaaGreatZ13
import Derived.Test.YtihmddpafbackaaGreatZ16
import Derived.Deep.DeepCutAuto

namespace Go.Proofs.YtihmddpafbackaaGreat

open Go.RowKit Go.Maps

set_option linter.unusedVariables false

set_option linter.unusedSimpArgs false

def OwV (w : World) (v : Value) (x : Wl) : Prop := ∃ (Dy : Option Addr) (ndy cdy : Nat) (Ny : Option Addr) (nny cny : Nat), v = .agg #[.int .i64 (ownW x).cl, .int .i64 (ownW x).sp, .int .i64 (ownW x).gr, .int .i64 (ownW x).ep, .int .i64 (ownW x).kd, .int .i64 (ownW x).bl, .slice Dy ndy cdy, .int .i64 (ownW x).od, .int .i64 (ownW x).nw, .slice Ny nny cny] ∧ ArgW w (ownW x) Dy ndy cdy Ny nny cny

theorem OwV.on {w w' : World} {v : Value} {x : Wl} (h : OwV w v x) (hb : Below w.heap.size w w') : OwV w' v x := let ⟨Dy, ndy, cdy, Ny, nny, cny, e, h⟩ := h; ⟨Dy, ndy, cdy, Ny, nny, cny, e, h.after hb⟩

def caR (gb : Nat) (s : Bool) (x : Wl) (Dx : Option Addr) (ndx cdx : Nat) (Nx : Option Addr) (nnx cnx : Nat) : Nat → Value → World → Prop
  | 0 => fun v w => v = .pointer (some ⟨gb, 3, none⟩)
  | 1 => fun v w => v = .int .i64 x.ep
  | 2 => fun v w => v = .bool true
  | 3 => fun v w => v = .bool true
  | 4 => fun v w => v = .agg #[.int .i64 x.cl, .int .i64 x.sp, .int .i64 x.gr, .int .i64 x.ep, .int .i64 x.kd, .int .i64 x.bl, .slice Dx ndx cdx, .int .i64 x.od, .int .i64 x.nw, .slice Nx nnx cnx]
  | 5 => fun v w => v = .agg #[.int .i64 x.cl, .int .i64 x.sp, .int .i64 x.gr, .int .i64 x.ep, .int .i64 x.kd, .int .i64 x.bl, .slice Dx ndx cdx, .int .i64 x.od, .int .i64 x.nw, .slice Nx nnx cnx]
  | 6 => fun v w => OwV w v x
  | 7 => fun v w => v = .bool s
  | 8 => fun v w => v = .bool s
  | 9 => fun v w => v = .bool s
  | _ => fun _ _ => True

def caD (i : Nat) : Nat := ([6, 7, 8, 9, 10, 11, 12, 13, 14, 3] : List Nat).getD i 0

def caG : Nat → Option Bool
  | 3 => some true
  | _ => none

def caS (i : Nat) : Bool := ([] : List Nat).contains i

theorem ca_gb (gb : Nat) (s : Bool) (x : Wl) (Dx : Option Addr) (ndx cdx : Nat) (Nx : Option Addr) (nnx cnx : Nat) : ∀ i b v w, caG i = some b → caR gb s x Dx ndx cdx Nx nnx cnx i v w → v = .bool b := by
  intro i b v w h hR
  unfold caG at h
  split at h
  all_goals first | (injection h with h; subst h; exact hR) | cases h

theorem ca_sk (gb : Nat) (s : Bool) (x : Wl) (Dx : Option Addr) (ndx cdx : Nat) (Nx : Option Addr) (nnx cnx : Nat) : ∀ i w, caS i = true → caR gb s x Dx ndx cdx Nx nnx cnx i undef w := by
  intro i w h
  simp [caS] at h

theorem ca_on (gb : Nat) (s : Bool) (x : Wl) (Dx : Option Addr) (ndx cdx : Nat) (Nx : Option Addr) (nnx cnx : Nat) : ∀ i v w w', caR gb s x Dx ndx cdx Nx nnx cnx i v w → Below w.heap.size w w' → caR gb s x Dx ndx cdx Nx nnx cnx i v w'
  | 0, v, w, w', h, _ => h
  | 1, v, w, w', h, _ => h
  | 2, v, w, w', h, _ => h
  | 3, v, w, w', h, _ => h
  | 4, v, w, w', h, _ => h
  | 5, v, w, w', h, _ => h
  | 6, v, w, w', h, hb => OwV.on (show OwV w v x from h) hb
  | 7, v, w, w', h, _ => h
  | 8, v, w, w', h, _ => h
  | 9, v, w, w', h, _ => h
  | i + 10, v, w, w', h, hb => trivial

def caOps : List Op := [.fieldAddr 25 (.tmp 1) 3,
  .load 3 (.tmp 6),
  .call { callee := .value (.func 78), args := #[.tmp 7, .const (.int .i64 0), .const (.int .i64 1048576)], argTypes := #[3, 3, 3] },
  .move (.tmp 8),
  .load 25 (.tmp 1),
  .load 25 (.tmp 1),
  .call { callee := .value (.func 79), args := #[.tmp 11], argTypes := #[25] },
  .call { callee := .value (.func 39), args := #[.tmp 10, .tmp 12], argTypes := #[25, 25] },
  .pick (.tmp 9) (.tmp 13) (.const (.bool false)),
  .assign (.tmp 14)]

def caNeeds : Nat → List Nat
  | 0 => []
  | 1 => [0]
  | 2 => [1]
  | 3 => [2]
  | 4 => []
  | 5 => []
  | 6 => [5]
  | 7 => [4, 6]
  | 8 => [3, 7]
  | 9 => [8]
  | _ => []

set_option maxRecDepth 100000 in
set_option maxHeartbeats 3200000 in
theorem ca_step {ops : Array Oper} {Q : Exit → Act → World → Prop} {a0 : Act} {w0 : World} (gb : Nat) (s : Bool) (x : Wl) (Dx : Option Addr) (ndx cdx : Nat) (Nx : Option Addr) (nnx cnx : Nat) (hops : ((List.range 10).map fun i => (ops[i]?).map Oper.op) = caOps.map some)
    (hnd : ((List.range 10).all fun i => (caNeeds i).all fun j => ((ops[i]?).map fun o => o.after.any fun e => Region.binds .any e && (e.on == j)).getD false) = true)
    (x1 : a0.tmps[1]? = some (.pointer (some ⟨gb, 0, none⟩)))
    (hB : Blk w0 gb 25 [.int .i64 x.cl, .int .i64 x.sp, .int .i64 x.gr, .int .i64 x.ep, .int .i64 x.kd, .int .i64 x.bl, .slice Dx ndx cdx, .int .i64 x.od, .int .i64 x.nw, .slice Nx nnx cnx]) (hx : ArgW w0 x Dx ndx cdx Nx nnx cnx) (hsm : sameB x (ownW x) = s) (hp : decide (0 ≤ x.ep ∧ x.ep ≤ 1048576) = true) :
    ∀ i o, i < 10 → caS i = false → ops[i]? = some o → o.dst = some (caD i) → ∀ a w, Base caD 10 a0 a → Below w0.heap.size w0 w → Region.wanted o (yielded ops a.tmps) = true →
      (∀ j, (o.after.any fun e => Region.binds .any e && (e.on == j)) = true → Has caD (caR gb s x Dx ndx cdx Nx nnx cnx) j a w) →
      ∀ K : Act → World → Prop, (∀ v w', caR gb s x Dx ndx cdx Nx nnx cnx i v w' → Below w.heap.size w w' → K (a.put o.dst v) w') → wpOp Tryz.prog ops Q i K a w := by
  intro i o hi hs ho hds a w hbase hbl hwt hdep0 K hK
  have hop : some o.op = caOps[i]? := by
    have h1 : ((List.range 10).map fun i => (ops[i]?).map Oper.op)[i]? = some (some o.op) := by
      rw [List.getElem?_map, List.getElem?_range hi]; simp only [Option.map_some, ho]
    rw [hops, List.getElem?_map] at h1
    cases h2 : caOps[i]? with
    | none => rw [h2] at h1; cases h1
    | some y => rw [h2] at h1; simp only [Option.map_some, Option.some.injEq] at h1; rw [h1]
  have hdep : ∀ j, j ∈ caNeeds i → Has caD (caR gb s x Dx ndx cdx Nx nnx cnx) j a w := fun j hj => by
    have h1 := List.all_eq_true.1 (List.all_eq_true.1 hnd i (List.mem_range.2 hi)) j hj
    rw [ho] at h1
    exact hdep0 j h1
  clear hdep0 hops hnd
  match i, hi, hs, ho, hop, hds, hdep, hK with
  | 0, _, hs, ho, hop, hds, hdep, hK =>
    have hop : o.op = .fieldAddr 25 (.tmp 1) 3 := Option.some.inj hop
    have hu1 : a.tmps[1]? = some (.pointer (some ⟨gb, 0, none⟩)) := (hbase.2.2 1 (by decide)).trans x1
    have e1 : a.eval (.tmp 1) = _ := ev_tmp hu1
    refine st3 ho hwt (v := .pointer (some ⟨gb, 3, none⟩)) (w' := w) ?_ (hK _ w rfl (Below.refl _ _))
    unfold execOp
    simp only [hop, Option.map_some, Option.map_none, e1]
    first | rfl | (go_simp; done) | (go_simp; simp; done) | (go_simp; intro h; omega)
  | 1, _, hs, ho, hop, hds, hdep, hK =>
    have hop : o.op = .load 3 (.tmp 6) := Option.some.inj hop
    obtain ⟨u6, hu6, hv6⟩ := hdep 0 (by decide)
    have hv6' : u6 = .pointer (some ⟨gb, 3, none⟩) := hv6
    subst hv6'
    have e6 : a.eval (.tmp 6) = _ := ev_tmp hu6
    refine st3 ho hwt (v := .int .i64 x.ep) (w' := w) ?_ (hK _ w rfl (Below.refl _ _))
    have k3 : w.cell? ⟨gb, 3, none⟩ = some (.int .i64 x.ep) := (hB.below hbl hB.lt).cell rfl
    unfold execOp
    simp only [hop, Option.map_some, Option.map_none, e6]
    first | rfl | (go_simp; done) | (go_simp; simp; done) | (go_simp; intro h; omega)
  | 2, _, hs, ho, hop, hds, hdep, hK =>
    have hop : o.op = .call { callee := .value (.func 78), args := #[.tmp 7, .const (.int .i64 0), .const (.int .i64 1048576)], argTypes := #[3, 3, 3] } := Option.some.inj hop
    obtain ⟨u7, hu7, hv7⟩ := hdep 1 (by decide)
    have hv7' : u7 = .int .i64 x.ep := hv7
    subst hv7'
    have e7 : a.eval (.tmp 7) = _ := ev_tmp hu7
    refine st3_call ho hwt (f := 78) (vals := #[.int .i64 x.ep, .int .i64 0, .int .i64 1048576]) (Z := fun v w' => v = .bool true ∧ Below w.heap.size w w') ?_ ?_ ?_
    · unfold execOp
      simp only [hop, e7, resolve, invoke, Sem.run_bind, Sem.run_pure, Result.andThen_ok, List.map_toArray, List.map_cons, List.map_nil]
      first | rfl | exact enters_of Tryz.func78 (by kernel_rfl) rfl _ _
    · exact (rwithin_val hp w).mono fun e w' ⟨he, h2⟩ => ⟨_, he, rfl, by rw [h2]; exact Below.refl _ _⟩
    · rintro v w' ⟨h1, h2⟩
      exact hK v w' h1 h2
  | 3, _, hs, ho, hop, hds, hdep, hK =>
    have hop : o.op = .move (.tmp 8) := Option.some.inj hop
    obtain ⟨u8, hu8, hv8⟩ := hdep 2 (by decide)
    have hv8' : u8 = .bool true := hv8
    subst hv8'
    have e8 : a.eval (.tmp 8) = _ := ev_tmp hu8
    refine st3 ho hwt (v := _) (w' := w) ?_ (hK _ w rfl (Below.refl _ _))
    unfold execOp
    rw [hop, ← e8]
    rfl
  | 4, _, hs, ho, hop, hds, hdep, hK =>
    have hop : o.op = .load 25 (.tmp 1) := Option.some.inj hop
    have hu1 : a.tmps[1]? = some (.pointer (some ⟨gb, 0, none⟩)) := (hbase.2.2 1 (by decide)).trans x1
    have e1 : a.eval (.tmp 1) = _ := ev_tmp hu1
    refine st3 ho hwt (v := .agg #[.int .i64 x.cl, .int .i64 x.sp, .int .i64 x.gr, .int .i64 x.ep, .int .i64 x.kd, .int .i64 x.bl, .slice Dx ndx cdx, .int .i64 x.od, .int .i64 x.nw, .slice Nx nnx cnx]) (w' := w) ?_ (hK _ w rfl (Below.refl _ _))
    have k0 : w.cell? ⟨gb, 0, none⟩ = some (.int .i64 x.cl) := (hB.below hbl hB.lt).cell rfl
    have k1 : w.cell? ⟨gb, 1, none⟩ = some (.int .i64 x.sp) := (hB.below hbl hB.lt).cell rfl
    have k2 : w.cell? ⟨gb, 2, none⟩ = some (.int .i64 x.gr) := (hB.below hbl hB.lt).cell rfl
    have k3 : w.cell? ⟨gb, 3, none⟩ = some (.int .i64 x.ep) := (hB.below hbl hB.lt).cell rfl
    have k4 : w.cell? ⟨gb, 4, none⟩ = some (.int .i64 x.kd) := (hB.below hbl hB.lt).cell rfl
    have k5 : w.cell? ⟨gb, 5, none⟩ = some (.int .i64 x.bl) := (hB.below hbl hB.lt).cell rfl
    have k6 : w.cell? ⟨gb, 6, none⟩ = some (.slice Dx ndx cdx) := (hB.below hbl hB.lt).cell rfl
    have k7 : w.cell? ⟨gb, 7, none⟩ = some (.int .i64 x.od) := (hB.below hbl hB.lt).cell rfl
    have k8 : w.cell? ⟨gb, 8, none⟩ = some (.int .i64 x.nw) := (hB.below hbl hB.lt).cell rfl
    have k9 : w.cell? ⟨gb, 9, none⟩ = some (.slice Nx nnx cnx) := (hB.below hbl hB.lt).cell rfl
    unfold execOp
    simp only [hop, Option.map_some, Option.map_none, e1]
    first | rfl | (go_simp; done) | (go_simp; simp; done) | (go_simp; intro h; omega)
  | 5, _, hs, ho, hop, hds, hdep, hK =>
    have hop : o.op = .load 25 (.tmp 1) := Option.some.inj hop
    have hu1 : a.tmps[1]? = some (.pointer (some ⟨gb, 0, none⟩)) := (hbase.2.2 1 (by decide)).trans x1
    have e1 : a.eval (.tmp 1) = _ := ev_tmp hu1
    refine st3 ho hwt (v := .agg #[.int .i64 x.cl, .int .i64 x.sp, .int .i64 x.gr, .int .i64 x.ep, .int .i64 x.kd, .int .i64 x.bl, .slice Dx ndx cdx, .int .i64 x.od, .int .i64 x.nw, .slice Nx nnx cnx]) (w' := w) ?_ (hK _ w rfl (Below.refl _ _))
    have k0 : w.cell? ⟨gb, 0, none⟩ = some (.int .i64 x.cl) := (hB.below hbl hB.lt).cell rfl
    have k1 : w.cell? ⟨gb, 1, none⟩ = some (.int .i64 x.sp) := (hB.below hbl hB.lt).cell rfl
    have k2 : w.cell? ⟨gb, 2, none⟩ = some (.int .i64 x.gr) := (hB.below hbl hB.lt).cell rfl
    have k3 : w.cell? ⟨gb, 3, none⟩ = some (.int .i64 x.ep) := (hB.below hbl hB.lt).cell rfl
    have k4 : w.cell? ⟨gb, 4, none⟩ = some (.int .i64 x.kd) := (hB.below hbl hB.lt).cell rfl
    have k5 : w.cell? ⟨gb, 5, none⟩ = some (.int .i64 x.bl) := (hB.below hbl hB.lt).cell rfl
    have k6 : w.cell? ⟨gb, 6, none⟩ = some (.slice Dx ndx cdx) := (hB.below hbl hB.lt).cell rfl
    have k7 : w.cell? ⟨gb, 7, none⟩ = some (.int .i64 x.od) := (hB.below hbl hB.lt).cell rfl
    have k8 : w.cell? ⟨gb, 8, none⟩ = some (.int .i64 x.nw) := (hB.below hbl hB.lt).cell rfl
    have k9 : w.cell? ⟨gb, 9, none⟩ = some (.slice Nx nnx cnx) := (hB.below hbl hB.lt).cell rfl
    unfold execOp
    simp only [hop, Option.map_some, Option.map_none, e1]
    first | rfl | (go_simp; done) | (go_simp; simp; done) | (go_simp; intro h; omega)
  | 6, _, hs, ho, hop, hds, hdep, hK =>
    have hop : o.op = .call { callee := .value (.func 79), args := #[.tmp 11], argTypes := #[25] } := Option.some.inj hop
    obtain ⟨u11, hu11, hv11⟩ := hdep 5 (by decide)
    have hv11' : u11 = .agg #[.int .i64 x.cl, .int .i64 x.sp, .int .i64 x.gr, .int .i64 x.ep, .int .i64 x.kd, .int .i64 x.bl, .slice Dx ndx cdx, .int .i64 x.od, .int .i64 x.nw, .slice Nx nnx cnx] := hv11
    subst hv11'
    have e11 : a.eval (.tmp 11) = _ := ev_tmp hu11
    refine st3_call ho hwt (f := 79) (vals := #[.agg #[.int .i64 x.cl, .int .i64 x.sp, .int .i64 x.gr, .int .i64 x.ep, .int .i64 x.kd, .int .i64 x.bl, .slice Dx ndx cdx, .int .i64 x.od, .int .i64 x.nw, .slice Nx nnx cnx]]) (Z := fun v w' => OwV w' v x ∧ Below w.heap.size w w') ?_ ?_ ?_
    · unfold execOp
      simp only [hop, e11, resolve, invoke, Sem.run_bind, Sem.run_pure, Result.andThen_ok, List.map_toArray, List.map_cons, List.map_nil]
      first | rfl | exact enters_of Tryz.func79 (by kernel_rfl) rfl _ _
    · exact (rown_any x Dx ndx cdx Nx nnx cnx w (hx.after hbl)).mono fun e w' ⟨Dy, ndy, cdy, Ny, nny, cny, he, hA, hb⟩ => ⟨_, he, ⟨Dy, ndy, cdy, Ny, nny, cny, rfl, hA.after hb⟩, hb⟩
    · rintro v w' ⟨h1, h2⟩
      exact hK v w' h1 h2
  | 7, _, hs, ho, hop, hds, hdep, hK =>
    have hop : o.op = .call { callee := .value (.func 39), args := #[.tmp 10, .tmp 12], argTypes := #[25, 25] } := Option.some.inj hop
    obtain ⟨u10, hu10, hv10⟩ := hdep 4 (by decide)
    have hv10' : u10 = .agg #[.int .i64 x.cl, .int .i64 x.sp, .int .i64 x.gr, .int .i64 x.ep, .int .i64 x.kd, .int .i64 x.bl, .slice Dx ndx cdx, .int .i64 x.od, .int .i64 x.nw, .slice Nx nnx cnx] := hv10
    subst hv10'
    have e10 : a.eval (.tmp 10) = _ := ev_tmp hu10
    obtain ⟨u12, hu12, hv12⟩ := hdep 6 (by decide)
    have hv12' : OwV w u12 x := hv12
    have e12 : a.eval (.tmp 12) = _ := ev_tmp hu12
    obtain ⟨Dy, ndy, cdy, Ny, nny, cny, rfl, hAy⟩ := hv12'
    refine st3_call ho hwt (f := 39) (vals := #[.agg #[.int .i64 x.cl, .int .i64 x.sp, .int .i64 x.gr, .int .i64 x.ep, .int .i64 x.kd, .int .i64 x.bl, .slice Dx ndx cdx, .int .i64 x.od, .int .i64 x.nw, .slice Nx nnx cnx], .agg #[.int .i64 (ownW x).cl, .int .i64 (ownW x).sp, .int .i64 (ownW x).gr, .int .i64 (ownW x).ep, .int .i64 (ownW x).kd, .int .i64 (ownW x).bl, .slice Dy ndy cdy, .int .i64 (ownW x).od, .int .i64 (ownW x).nw, .slice Ny nny cny]]) (Z := fun v w' => v = .bool s ∧ Below w.heap.size w w') ?_ ?_ ?_
    · unfold execOp
      simp only [hop, e10, e12, resolve, invoke, Sem.run_bind, Sem.run_pure, Result.andThen_ok, List.map_toArray, List.map_cons, List.map_nil]
      first | rfl | exact enters_of Tryz.func39 (by kernel_rfl) rfl _ _
    · exact (rsame_any x Dx ndx cdx Nx nnx cnx (ownW x) Dy ndy cdy Ny nny cny w (hx.after hbl) hAy).mono fun e w' ⟨he, h2⟩ => ⟨_, he, congrArg Value.bool hsm, h2⟩
    · rintro v w' ⟨h1, h2⟩
      exact hK v w' h1 h2
  | 8, _, hs, ho, hop, hds, hdep, hK =>
    have hop : o.op = .pick (.tmp 9) (.tmp 13) (.const (.bool false)) := Option.some.inj hop
    obtain ⟨u9, hu9, hv9⟩ := hdep 3 (by decide)
    have hv9' : u9 = .bool true := hv9
    subst hv9'
    have e9 : a.eval (.tmp 9) = _ := ev_tmp hu9
    obtain ⟨u13, hu13, hv13⟩ := hdep 7 (by decide)
    have hv13' : u13 = .bool s := hv13
    subst hv13'
    have e13 : a.eval (.tmp 13) = _ := ev_tmp hu13
    refine st3 ho hwt (v := .bool s) (w' := w) ?_ (hK _ w rfl (Below.refl _ _))
    unfold execOp
    simp only [hop, e9, e13]
    first | rfl | (go_simp; done) | (go_simp; simp; done) | (go_simp; intro h; omega)
  | 9, _, hs, ho, hop, hds, hdep, hK =>
    have hop : o.op = .assign (.tmp 14) := Option.some.inj hop
    obtain ⟨u14, hu14, hv14⟩ := hdep 8 (by decide)
    have hv14' : u14 = .bool s := hv14
    subst hv14'
    have e14 : a.eval (.tmp 14) = _ := ev_tmp hu14
    refine st3 ho hwt (v := _) (w' := w) ?_ (hK _ w rfl (Below.refl _ _))
    unfold execOp
    rw [hop, ← e14]
    rfl
  | i + 10, hi, _, _, _, _, _, _ => exact absurd hi (by omega)

def cbR (gb : Nat) (s : Bool) (x : Wl) (Dx : Option Addr) (ndx cdx : Nat) (Nx : Option Addr) (nnx cnx : Nat) : Nat → Value → World → Prop
  | 0 => fun v w => v = .pointer (some ⟨gb, 3, none⟩)
  | 1 => fun v w => v = .int .i64 x.ep
  | 2 => fun v w => v = .bool false
  | 3 => fun v w => v = .bool false
  | 4 => fun v w => v = undef
  | 5 => fun v w => v = undef
  | 6 => fun v w => v = undef
  | 7 => fun v w => v = undef
  | 8 => fun v w => v = (.bool false)
  | 9 => fun v w => v = (.bool false)
  | _ => fun _ _ => True

def cbD (i : Nat) : Nat := ([6, 7, 8, 9, 10, 11, 12, 13, 14, 3] : List Nat).getD i 0

def cbG : Nat → Option Bool
  | 3 => some false
  | _ => none

def cbS (i : Nat) : Bool := ([4, 5, 6, 7] : List Nat).contains i

theorem cb_gb (gb : Nat) (s : Bool) (x : Wl) (Dx : Option Addr) (ndx cdx : Nat) (Nx : Option Addr) (nnx cnx : Nat) : ∀ i b v w, cbG i = some b → cbR gb s x Dx ndx cdx Nx nnx cnx i v w → v = .bool b := by
  intro i b v w h hR
  unfold cbG at h
  split at h
  all_goals first | (injection h with h; subst h; exact hR) | cases h

theorem cb_sk (gb : Nat) (s : Bool) (x : Wl) (Dx : Option Addr) (ndx cdx : Nat) (Nx : Option Addr) (nnx cnx : Nat) : ∀ i w, cbS i = true → cbR gb s x Dx ndx cdx Nx nnx cnx i undef w := by
  intro i w h
  have hm : i ∈ ([4, 5, 6, 7] : List Nat) := by simpa [cbS] using h
  simp only [List.mem_cons, List.not_mem_nil, or_false] at hm
  rcases hm with rfl | rfl | rfl | rfl
  all_goals rfl

theorem cb_on (gb : Nat) (s : Bool) (x : Wl) (Dx : Option Addr) (ndx cdx : Nat) (Nx : Option Addr) (nnx cnx : Nat) : ∀ i v w w', cbR gb s x Dx ndx cdx Nx nnx cnx i v w → Below w.heap.size w w' → cbR gb s x Dx ndx cdx Nx nnx cnx i v w'
  | 0, v, w, w', h, _ => h
  | 1, v, w, w', h, _ => h
  | 2, v, w, w', h, _ => h
  | 3, v, w, w', h, _ => h
  | 4, v, w, w', h, _ => h
  | 5, v, w, w', h, _ => h
  | 6, v, w, w', h, _ => h
  | 7, v, w, w', h, _ => h
  | 8, v, w, w', h, _ => h
  | 9, v, w, w', h, _ => h
  | i + 10, v, w, w', h, hb => trivial

def cbOps : List Op := [.fieldAddr 25 (.tmp 1) 3,
  .load 3 (.tmp 6),
  .call { callee := .value (.func 78), args := #[.tmp 7, .const (.int .i64 0), .const (.int .i64 1048576)], argTypes := #[3, 3, 3] },
  .move (.tmp 8),
  .load 25 (.tmp 1),
  .load 25 (.tmp 1),
  .call { callee := .value (.func 79), args := #[.tmp 11], argTypes := #[25] },
  .call { callee := .value (.func 39), args := #[.tmp 10, .tmp 12], argTypes := #[25, 25] },
  .pick (.tmp 9) (.tmp 13) (.const (.bool false)),
  .assign (.tmp 14)]

def cbNeeds : Nat → List Nat
  | 0 => []
  | 1 => [0]
  | 2 => [1]
  | 3 => [2]
  | 4 => []
  | 5 => []
  | 6 => []
  | 7 => []
  | 8 => [3, 7]
  | 9 => [8]
  | _ => []

set_option maxRecDepth 100000 in
set_option maxHeartbeats 3200000 in
theorem cb_step {ops : Array Oper} {Q : Exit → Act → World → Prop} {a0 : Act} {w0 : World} (gb : Nat) (s : Bool) (x : Wl) (Dx : Option Addr) (ndx cdx : Nat) (Nx : Option Addr) (nnx cnx : Nat) (hops : ((List.range 10).map fun i => (ops[i]?).map Oper.op) = cbOps.map some)
    (hnd : ((List.range 10).all fun i => (cbNeeds i).all fun j => ((ops[i]?).map fun o => o.after.any fun e => Region.binds .any e && (e.on == j)).getD false) = true)
    (x1 : a0.tmps[1]? = some (.pointer (some ⟨gb, 0, none⟩)))
    (hB : Blk w0 gb 25 [.int .i64 x.cl, .int .i64 x.sp, .int .i64 x.gr, .int .i64 x.ep, .int .i64 x.kd, .int .i64 x.bl, .slice Dx ndx cdx, .int .i64 x.od, .int .i64 x.nw, .slice Nx nnx cnx]) (hx : ArgW w0 x Dx ndx cdx Nx nnx cnx) (hsm : sameB x (ownW x) = s) (hp : decide (0 ≤ x.ep ∧ x.ep ≤ 1048576) = false) :
    ∀ i o, i < 10 → cbS i = false → ops[i]? = some o → o.dst = some (cbD i) → ∀ a w, Base cbD 10 a0 a → Below w0.heap.size w0 w → Region.wanted o (yielded ops a.tmps) = true →
      (∀ j, (o.after.any fun e => Region.binds .any e && (e.on == j)) = true → Has cbD (cbR gb s x Dx ndx cdx Nx nnx cnx) j a w) →
      ∀ K : Act → World → Prop, (∀ v w', cbR gb s x Dx ndx cdx Nx nnx cnx i v w' → Below w.heap.size w w' → K (a.put o.dst v) w') → wpOp Tryz.prog ops Q i K a w := by
  intro i o hi hs ho hds a w hbase hbl hwt hdep0 K hK
  have hop : some o.op = cbOps[i]? := by
    have h1 : ((List.range 10).map fun i => (ops[i]?).map Oper.op)[i]? = some (some o.op) := by
      rw [List.getElem?_map, List.getElem?_range hi]; simp only [Option.map_some, ho]
    rw [hops, List.getElem?_map] at h1
    cases h2 : cbOps[i]? with
    | none => rw [h2] at h1; cases h1
    | some y => rw [h2] at h1; simp only [Option.map_some, Option.some.injEq] at h1; rw [h1]
  have hdep : ∀ j, j ∈ cbNeeds i → Has cbD (cbR gb s x Dx ndx cdx Nx nnx cnx) j a w := fun j hj => by
    have h1 := List.all_eq_true.1 (List.all_eq_true.1 hnd i (List.mem_range.2 hi)) j hj
    rw [ho] at h1
    exact hdep0 j h1
  clear hdep0 hops hnd
  match i, hi, hs, ho, hop, hds, hdep, hK with
  | 0, _, hs, ho, hop, hds, hdep, hK =>
    have hop : o.op = .fieldAddr 25 (.tmp 1) 3 := Option.some.inj hop
    have hu1 : a.tmps[1]? = some (.pointer (some ⟨gb, 0, none⟩)) := (hbase.2.2 1 (by decide)).trans x1
    have e1 : a.eval (.tmp 1) = _ := ev_tmp hu1
    refine st3 ho hwt (v := .pointer (some ⟨gb, 3, none⟩)) (w' := w) ?_ (hK _ w rfl (Below.refl _ _))
    unfold execOp
    simp only [hop, Option.map_some, Option.map_none, e1]
    first | rfl | (go_simp; done) | (go_simp; simp; done) | (go_simp; intro h; omega)
  | 1, _, hs, ho, hop, hds, hdep, hK =>
    have hop : o.op = .load 3 (.tmp 6) := Option.some.inj hop
    obtain ⟨u6, hu6, hv6⟩ := hdep 0 (by decide)
    have hv6' : u6 = .pointer (some ⟨gb, 3, none⟩) := hv6
    subst hv6'
    have e6 : a.eval (.tmp 6) = _ := ev_tmp hu6
    refine st3 ho hwt (v := .int .i64 x.ep) (w' := w) ?_ (hK _ w rfl (Below.refl _ _))
    have k3 : w.cell? ⟨gb, 3, none⟩ = some (.int .i64 x.ep) := (hB.below hbl hB.lt).cell rfl
    unfold execOp
    simp only [hop, Option.map_some, Option.map_none, e6]
    first | rfl | (go_simp; done) | (go_simp; simp; done) | (go_simp; intro h; omega)
  | 2, _, hs, ho, hop, hds, hdep, hK =>
    have hop : o.op = .call { callee := .value (.func 78), args := #[.tmp 7, .const (.int .i64 0), .const (.int .i64 1048576)], argTypes := #[3, 3, 3] } := Option.some.inj hop
    obtain ⟨u7, hu7, hv7⟩ := hdep 1 (by decide)
    have hv7' : u7 = .int .i64 x.ep := hv7
    subst hv7'
    have e7 : a.eval (.tmp 7) = _ := ev_tmp hu7
    refine st3_call ho hwt (f := 78) (vals := #[.int .i64 x.ep, .int .i64 0, .int .i64 1048576]) (Z := fun v w' => v = .bool false ∧ Below w.heap.size w w') ?_ ?_ ?_
    · unfold execOp
      simp only [hop, e7, resolve, invoke, Sem.run_bind, Sem.run_pure, Result.andThen_ok, List.map_toArray, List.map_cons, List.map_nil]
      first | rfl | exact enters_of Tryz.func78 (by kernel_rfl) rfl _ _
    · exact (rwithin_val hp w).mono fun e w' ⟨he, h2⟩ => ⟨_, he, rfl, by rw [h2]; exact Below.refl _ _⟩
    · rintro v w' ⟨h1, h2⟩
      exact hK v w' h1 h2
  | 3, _, hs, ho, hop, hds, hdep, hK =>
    have hop : o.op = .move (.tmp 8) := Option.some.inj hop
    obtain ⟨u8, hu8, hv8⟩ := hdep 2 (by decide)
    have hv8' : u8 = .bool false := hv8
    subst hv8'
    have e8 : a.eval (.tmp 8) = _ := ev_tmp hu8
    refine st3 ho hwt (v := _) (w' := w) ?_ (hK _ w rfl (Below.refl _ _))
    unfold execOp
    rw [hop, ← e8]
    rfl
  | 4, _, hs, ho, hop, hds, hdep, hK =>
    exact absurd hs (by decide)
  | 5, _, hs, ho, hop, hds, hdep, hK =>
    exact absurd hs (by decide)
  | 6, _, hs, ho, hop, hds, hdep, hK =>
    exact absurd hs (by decide)
  | 7, _, hs, ho, hop, hds, hdep, hK =>
    exact absurd hs (by decide)
  | 8, _, hs, ho, hop, hds, hdep, hK =>
    have hop : o.op = .pick (.tmp 9) (.tmp 13) (.const (.bool false)) := Option.some.inj hop
    obtain ⟨u9, hu9, hv9⟩ := hdep 3 (by decide)
    have hv9' : u9 = .bool false := hv9
    subst hv9'
    have e9 : a.eval (.tmp 9) = _ := ev_tmp hu9
    obtain ⟨u13, hu13, hv13⟩ := hdep 7 (by decide)
    have hv13' : u13 = undef := hv13
    subst hv13'
    have e13 : a.eval (.tmp 13) = _ := ev_tmp hu13
    refine st3 ho hwt (v := (.bool false)) (w' := w) ?_ (hK _ w rfl (Below.refl _ _))
    unfold execOp
    simp only [hop, e9, e13]
    first | rfl | (go_simp; done) | (go_simp; simp; done) | (go_simp; intro h; omega)
  | 9, _, hs, ho, hop, hds, hdep, hK =>
    have hop : o.op = .assign (.tmp 14) := Option.some.inj hop
    obtain ⟨u14, hu14, hv14⟩ := hdep 8 (by decide)
    have hv14' : u14 = (.bool false) := hv14
    subst hv14'
    have e14 : a.eval (.tmp 14) = _ := ev_tmp hu14
    refine st3 ho hwt (v := _) (w' := w) ?_ (hK _ w rfl (Below.refl _ _))
    unfold execOp
    rw [hop, ← e14]
    rfl
  | i + 10, hi, _, _, _, _, _, _ => exact absurd hi (by omega)

theorem lit117 (a : Act) (h : a.tmps.size = 117) : ∃ f : Nat → Value, a = { tmps := #[f 0, f 1, f 2, f 3, f 4, f 5, f 6, f 7, f 8, f 9, f 10, f 11, f 12, f 13, f 14, f 15, f 16, f 17, f 18, f 19, f 20, f 21, f 22, f 23, f 24, f 25, f 26, f 27, f 28, f 29, f 30, f 31, f 32, f 33, f 34, f 35, f 36, f 37, f 38, f 39, f 40, f 41, f 42, f 43, f 44, f 45, f 46, f 47, f 48, f 49, f 50, f 51, f 52, f 53, f 54, f 55, f 56, f 57, f 58, f 59, f 60, f 61, f 62, f 63, f 64, f 65, f 66, f 67, f 68, f 69, f 70, f 71, f 72, f 73, f 74, f 75, f 76, f 77, f 78, f 79, f 80, f 81, f 82, f 83, f 84, f 85, f 86, f 87, f 88, f 89, f 90, f 91, f 92, f 93, f 94, f 95, f 96, f 97, f 98, f 99, f 100, f 101, f 102, f 103, f 104, f 105, f 106, f 107, f 108, f 109, f 110, f 111, f 112, f 113, f 114, f 115, f 116], defers := a.defers } ∧ ∀ i v, a.tmps[i]? = some v → f i = v := by
  refine ⟨fun i => a.tmps.getD i undef, ?_, fun i v hv => by simp only [Array.getD_eq_getD_getElem?, hv]; rfl⟩
  have e : a.tmps = ((List.range 117).map fun i => a.tmps.getD i undef).toArray := by
    apply Array.ext
    · simp [h]
    · intro i h1 h2
      simp [Array.getD_eq_getD_getElem?, h1]
  cases a with
  | mk t d =>
    simp only [Act.mk.injEq, and_true]
    exact e

theorem chk02 (x : Wl) : chk x = 0 ∨ chk x = 2 := by unfold chk; split; exact .inl rfl; exact .inr rfl

theorem chk0 (x : Wl) : chk x = 0 ↔ May x := by
  unfold chk
  split
  · simp [*]
  · simp [*]

theorem own_ex {x : Wl} (h5 : x.kd ≠ 5) (h : x = ownW x) : (x.kd ≠ 2 → x.da = []) ∧ (x.kd ≠ 4 → x.od = 0 ∧ x.nw = 0) ∧ x.nx = [] := by
  unfold ownW at h
  rw [if_neg h5] at h
  refine ⟨fun h2 => ?_, fun h4 => ⟨?_, ?_⟩, ?_⟩
  · rw [if_neg h2] at h; rw [h]
  · rw [if_neg h4, if_neg h4] at h; rw [h]
  · rw [if_neg h4, if_neg h4] at h; rw [h]
  · rw [h]

theorem own_ex5 {x : Wl} (h5 : x.kd = 5) (h : x = ownW x) : x.cl = 0 ∧ x.sp = 0 ∧ x.bl = 0 ∧ x.da = [] ∧ x.od = 0 ∧ x.nw = 0 := by
  unfold ownW at h
  rw [if_pos h5] at h
  refine ⟨?_, ?_, ?_, ?_, ?_, ?_⟩ <;> rw [h]

theorem nil_of {α : Type} {l : List α} (h : l.length = 0) : l = [] := List.eq_nil_of_length_eq_zero h

theorem may_own {x : Wl} (h : May x) : x = ownW x := by
  obtain ⟨_, h | h | h | h | h⟩ := h
  · obtain ⟨hk, _, _, h1, ⟨h2, h3⟩, h4⟩ := h
    have e1 := nil_of h1
    have e2 := nil_of h4
    unfold ownW
    rw [if_neg (by omega), if_neg (by omega), if_neg (by omega), if_neg (by omega)]
    cases x
    simp_all
  · obtain ⟨hk, _, _, h1, ⟨h2, h3⟩, h4⟩ := h
    have e2 := nil_of h4
    unfold ownW
    rw [if_neg (by omega), if_pos (by omega), if_neg (by omega), if_neg (by omega)]
    cases x
    simp_all
  · obtain ⟨hk, _, _, h1, ⟨h2, h3⟩, h4⟩ := h
    have e1 := nil_of h1
    have e2 := nil_of h4
    unfold ownW
    rw [if_neg (by omega), if_neg (by omega), if_neg (by omega), if_neg (by omega)]
    cases x
    simp_all
  · obtain ⟨hk, _, _, h1, _, h4⟩ := h
    have e1 := nil_of h1
    have e2 := nil_of h4
    unfold ownW
    rw [if_neg (by omega), if_neg (by omega), if_pos (by omega), if_pos (by omega)]
    cases x
    simp_all
  · obtain ⟨hk, ⟨h1, h2, _, h3⟩, h4, ⟨h5, h6⟩, _⟩ := h
    have e1 := nil_of h4
    unfold ownW
    rw [if_pos hk]
    cases x
    simp_all

theorem chk_1 {x : Wl} (hk : x.kd = 1) (he : 0 ≤ x.ep ∧ x.ep ≤ 1048576) (h : x = ownW x) : chk x = 0 ↔ Askd x ∧ OfBl x := by
  obtain ⟨h1, h2, h3⟩ := own_ex (by omega) h
  have l1 : x.da.length = 0 := by rw [h1 (by omega)]; rfl
  have l2 := h2 (by omega)
  have l3 : x.nx.length = 0 := by rw [h3]; rfl
  rw [chk0]
  unfold May
  constructor
  · rintro ⟨_, h | h | h | h | h⟩
    · exact ⟨h.2.1, h.2.2.1⟩
    all_goals exact absurd h.1 (by omega)
  · rintro ⟨g1, g2⟩
    exact ⟨he, .inl ⟨hk, g1, g2, l1, l2, l3⟩⟩

theorem chk_2 {x : Wl} (hk : x.kd = 2) (he : 0 ≤ x.ep ∧ x.ep ≤ 1048576) (h : x = ownW x) : chk x = 0 ↔ Askd x ∧ OfBl x ∧ x.da.length = 16 := by
  obtain ⟨_, h2, h3⟩ := own_ex (by omega) h
  have l2 := h2 (by omega)
  have l3 : x.nx.length = 0 := by rw [h3]; rfl
  rw [chk0]
  unfold May
  constructor
  · rintro ⟨_, h | h | h | h | h⟩
    · exact absurd h.1 (by omega)
    · exact ⟨h.2.1, h.2.2.1, h.2.2.2.1⟩
    all_goals exact absurd h.1 (by omega)
  · rintro ⟨g1, g2, g3⟩
    exact ⟨he, .inr (.inl ⟨hk, g1, g2, g3, l2, l3⟩)⟩

theorem chk_3 {x : Wl} (hk : x.kd = 3) (he : 0 ≤ x.ep ∧ x.ep ≤ 1048576) (h : x = ownW x) : chk x = 0 ↔ Askd x ∧ OfDr x := by
  obtain ⟨h1, h2, h3⟩ := own_ex (by omega) h
  have l1 : x.da.length = 0 := by rw [h1 (by omega)]; rfl
  have l2 := h2 (by omega)
  have l3 : x.nx.length = 0 := by rw [h3]; rfl
  rw [chk0]
  unfold May
  constructor
  · rintro ⟨_, h | h | h | h | h⟩
    · exact absurd h.1 (by omega)
    · exact absurd h.1 (by omega)
    · exact ⟨h.2.1, h.2.2.1⟩
    all_goals exact absurd h.1 (by omega)
  · rintro ⟨g1, g2⟩
    exact ⟨he, .inr (.inr (.inl ⟨hk, g1, g2, l1, l2, l3⟩))⟩

theorem chk_4 {x : Wl} (hk : x.kd = 4) (he : 0 ≤ x.ep ∧ x.ep ≤ 1048576) (h : x = ownW x) : chk x = 0 ↔ Askd x ∧ OfDr x ∧ Swp x := by
  obtain ⟨h1, _, h3⟩ := own_ex (by omega) h
  have l1 : x.da.length = 0 := by rw [h1 (by omega)]; rfl
  have l3 : x.nx.length = 0 := by rw [h3]; rfl
  rw [chk0]
  unfold May
  constructor
  · rintro ⟨_, h | h | h | h | h⟩
    · exact absurd h.1 (by omega)
    · exact absurd h.1 (by omega)
    · exact absurd h.1 (by omega)
    · exact ⟨h.2.1, h.2.2.1, h.2.2.2.2.1⟩
    · exact absurd h.1 (by omega)
  · rintro ⟨g1, g2, g3⟩
    exact ⟨he, .inr (.inr (.inr (.inl ⟨hk, g1, g2, l1, g3, l3⟩)))⟩

theorem chk_5 {x : Wl} (hk : x.kd = 5) (he : 0 ≤ x.ep ∧ x.ep ≤ 1048576) (h : x = ownW x) : chk x = 0 ↔ (1 ≤ x.gr ∧ x.gr ≤ 2) ∧ Nxt x.nx := by
  obtain ⟨h1, h2, h3, h4, h5, h6⟩ := own_ex5 hk h
  have l1 : x.da.length = 0 := by rw [h4]; rfl
  rw [chk0]
  unfold May
  constructor
  · rintro ⟨_, h | h | h | h | h⟩
    · exact absurd h.1 (by omega)
    · exact absurd h.1 (by omega)
    · exact absurd h.1 (by omega)
    · exact absurd h.1 (by omega)
    · exact ⟨h.2.1.2.2.1, h.2.2.2.2⟩
  · rintro ⟨g1, g2⟩
    exact ⟨he, .inr (.inr (.inr (.inr ⟨hk, ⟨h1, h2, g1, h3⟩, l1, ⟨h5, h6⟩, g2⟩)))⟩

theorem chk_6 {x : Wl} (h1 : x.kd ≠ 1) (h2 : x.kd ≠ 2) (h3 : x.kd ≠ 3) (h4 : x.kd ≠ 4) (h5 : x.kd ≠ 5) : chk x = 2 := by
  rcases chk02 x with h | h
  · rw [chk0] at h
    obtain ⟨_, h | h | h | h | h⟩ := h
    all_goals exact absurd h.1 (by omega)
  · exact h

theorem chk_bad {x : Wl} (h : ¬ ((0 ≤ x.ep ∧ x.ep ≤ 1048576) ∧ x = ownW x)) : chk x = 2 := by
  rcases chk02 x with h0 | h0
  · rw [chk0] at h0
    exact absurd ⟨h0.1, may_own h0⟩ h
  · exact h0

end Go.Proofs.YtihmddpafbackaaGreat

namespace Go.Proofs.YtihmddpafbackaaGreat

open Go.RowKit Go.Maps

set_option linter.unusedVariables false

set_option linter.unusedSimpArgs false

theorem fin2 {x : Wl} (h : chk x = 2) : Ending.returned (.int .i64 2) = Ending.returned (.int .i64 (chk x)) := by rw [h]

theorem c5no {x : Wl} {p : Prop} (h : (chk x = 0 ∨ chk x = 2) ∧ (chk x = 0 ↔ p)) (hn : ¬ p) : chk x = 2 := h.1.resolve_left fun h0 => hn (h.2.1 h0)

theorem fin0 {x : Wl} (h : chk x = 0) : Ending.returned (.int .i64 0) = Ending.returned (.int .i64 (chk x)) := by rw [h]

end Go.Proofs.YtihmddpafbackaaGreat

namespace Go.Proofs.YtihmddpafbackaaGreat

open Go.RowKit Go.Maps

set_option linter.unusedVariables false

set_option linter.unusedSimpArgs false

set_option maxRecDepth 100000 in
set_option maxHeartbeats 6400000 in
theorem rcheck_1 (x : Wl) (Dx : Option Addr) (ndx cdx : Nat) (Nx : Option Addr) (nnx cnx : Nat) (w : World) (h : ArgW w x Dx ndx cdx Nx nnx cnx) (hk : x.kd = 1) : Calls Tryz.prog 54 #[.agg #[.int .i64 x.cl, .int .i64 x.sp, .int .i64 x.gr, .int .i64 x.ep, .int .i64 x.kd, .int .i64 x.bl, .slice Dx ndx cdx, .int .i64 x.od, .int .i64 x.nw, .slice Nx nnx cnx]] w fun e w' => e = .returned (.int .i64 (chk x)) ∧ Below w.heap.size w w' := by
  have hb0 : Below w.heap.size w (w.alloc (.cells #[.int .i64 x.cl, .int .i64 x.sp, .int .i64 x.gr, .int .i64 x.ep, .int .i64 x.kd, .int .i64 x.bl, .slice Dx ndx cdx, .int .i64 x.od, .int .i64 x.nw, .slice Nx nnx cnx] 25)) := (Below.refl _ _).alloc (Nat.le_refl _) _
  have hB0 : Blk (w.alloc (.cells #[.int .i64 x.cl, .int .i64 x.sp, .int .i64 x.gr, .int .i64 x.ep, .int .i64 x.kd, .int .i64 x.bl, .slice Dx ndx cdx, .int .i64 x.od, .int .i64 x.nw, .slice Nx nnx cnx] 25)) w.heap.size 25 [.int .i64 x.cl, .int .i64 x.sp, .int .i64 x.gr, .int .i64 x.ep, .int .i64 x.kd, .int .i64 x.bl, .slice Dx ndx cdx, .int .i64 x.od, .int .i64 x.nw, .slice Nx nnx cnx] := Blk.new rfl rfl
  have hlen := h.1.1
  have H := Lib.hid (And.intro hB0 (And.intro hb0 (h.after hb0)))
  clear hB0 hb0 h
  have HT : (0 ≤ x.ep ∧ x.ep ≤ 1048576) → x = ownW x → Hid ((chk x = 0 ∨ chk x = 2) ∧ (chk x = 0 ↔ Askd x ∧ OfBl x)) := fun he ho => ⟨chk02 x, chk_1 hk he ho⟩
  have e1 : (x.kd == 1) = true := by simp [hk]
  have e2 : (x.kd == 2) = false := by simp [hk]
  have e3 : (x.kd == 3) = false := by simp [hk]
  have e4 : (x.kd == 4) = false := by simp [hk]
  have e5 : (x.kd == 5) = false := by simp [hk]
  have n5 : (x.kd != 5) = true := by simp [hk]
  have HK := Lib.hid hk
  clear hk
  go_enter Tryz.func54, Tryz.ntmps54
  go_wp2_with fail
  rename_i Q0 K0 hK0
  have key : ∀ (m : Bool) (a : Act) (W : World), a.tmps.size = 117 → a.defers = [] → a.tmps[1]? = some (.pointer (some ⟨w.heap.size, 0, none⟩)) → a.tmps[3]? = some (.bool m) → Below (w.alloc (.cells #[.int .i64 x.cl, .int .i64 x.sp, .int .i64 x.gr, .int .i64 x.ep, .int .i64 x.kd, .int .i64 x.bl, .slice Dx ndx cdx, .int .i64 x.od, .int .i64 x.nw, .slice Nx nnx cnx] 25)).heap.size (w.alloc (.cells #[.int .i64 x.cl, .int .i64 x.sp, .int .i64 x.gr, .int .i64 x.ep, .int .i64 x.kd, .int .i64 x.bl, .slice Dx ndx cdx, .int .i64 x.od, .int .i64 x.nw, .slice Nx nnx cnx] 25)) W → (m = true → (0 ≤ x.ep ∧ x.ep ≤ 1048576) ∧ x = ownW x) → (m = false → chk x = 2) → K0 a W := by
    intro m a W hs hd h1 h3 hb hmt hmf
    obtain ⟨g, hg, hge⟩ := lit117 a hs
    have q1 := hge 1 _ h1
    have q3 := hge 3 _ h3
    rw [hd, q1, q3] at hg
    rw [hg]
    clear hg hge q1 q3 h1 h3 hs hd
    have hB := H.out.1.below hb H.out.1.lt
    have k0 : W.cell? ⟨w.heap.size, 0, none⟩ = some (.int .i64 x.cl) := hB.cell rfl
    have k1 : W.cell? ⟨w.heap.size, 1, none⟩ = some (.int .i64 x.sp) := hB.cell rfl
    have k2 : W.cell? ⟨w.heap.size, 2, none⟩ = some (.int .i64 x.gr) := hB.cell rfl
    have k3 : W.cell? ⟨w.heap.size, 3, none⟩ = some (.int .i64 x.ep) := hB.cell rfl
    have k4 : W.cell? ⟨w.heap.size, 4, none⟩ = some (.int .i64 x.kd) := hB.cell rfl
    have k5 : W.cell? ⟨w.heap.size, 5, none⟩ = some (.int .i64 x.bl) := hB.cell rfl
    have k6 : W.cell? ⟨w.heap.size, 6, none⟩ = some (.slice Dx ndx cdx) := hB.cell rfl
    have k7 : W.cell? ⟨w.heap.size, 7, none⟩ = some (.int .i64 x.od) := hB.cell rfl
    have k8 : W.cell? ⟨w.heap.size, 8, none⟩ = some (.int .i64 x.nw) := hB.cell rfl
    have k9 : W.cell? ⟨w.heap.size, 9, none⟩ = some (.slice Nx nnx cnx) := hB.cell rfl
    have HB := Lib.hid (And.intro (H.out.2.1.trans (hb.mono H.out.2.1.size)) (H.out.2.2.after hb))
    clear hb hB
    refine hK0 _ _ ?_
    clear hK0
    cases m with
    | false =>
      have hc2 := Lib.hid (hmf rfl)
      clear hmf hmt
      go_wp2_with (first | (go_at_call 78; refine (rwithin_any _ _ _ _).mono ?_; rintro e w' ⟨rfl, rfl⟩))
      all_goals go_ret
      all_goals exact ⟨fin2 hc2.out, HB.out.1⟩
    | true =>
      have hcc := HT (hmt rfl).1 (hmt rfl).2
      clear hmt hmf HT
      go_wp2_with (first | (go_at_call 78; refine (rwithin_any _ _ _ _).mono ?_; rintro e w' ⟨rfl, rfl⟩))
      all_goals go_ret
      all_goals (try simp only [Bool.not_eq_true', Bool.not_eq_false', decide_eq_false_iff_not, decide_eq_true_eq, beq_iff_eq, beq_eq_false_iff_ne, bne_iff_ne, bne_eq_false_iff_eq, ne_eq, Bool.and_eq_true, Bool.and_eq_false_iff, Bool.or_eq_true] at *)
      all_goals first | exact ⟨fin2 (by have h1 := hcc.out.1; have h2 := hcc.out.2; unfold Askd OfBl at h2; omega), HB.out.1⟩ | exact ⟨fin0 (by have h1 := hcc.out.1; have h2 := hcc.out.2; unfold Askd OfBl at h2; omega), HB.out.1⟩
  cases hp : decide (0 ≤ x.ep ∧ x.ep ≤ 1048576) with
  | true =>
    refine region_rule4 (P := Tryz.prog) 10 117 caD caG caS (caR w.heap.size (sameB x (ownW x)) x Dx ndx cdx Nx nnx cnx) _ _ (by kernel_rfl) rfl rfl (by kernel_rfl) (by decide +kernel) (ca_gb w.heap.size (sameB x (ownW x)) x Dx ndx cdx Nx nnx cnx) (ca_sk w.heap.size (sameB x (ownW x)) x Dx ndx cdx Nx nnx cnx) (ca_on w.heap.size (sameB x (ownW x)) x Dx ndx cdx Nx nnx cnx) (ca_step w.heap.size (sameB x (ownW x)) x Dx ndx cdx Nx nnx cnx (by rfl) (by kernel_rfl) rfl H.out.1 H.out.2.2 rfl hp) ?fin
    case fin =>
      intro a w6 hbase hbl hall
      obtain ⟨v3, hv3, hR3⟩ := hall 9 (by decide)
      have hR3' : v3 = .bool (sameB x (ownW x)) := hR3
      subst hR3'
      exact key (sameB x (ownW x)) a w6 hbase.1 hbase.2.1 ((hbase.2.2 1 (by decide)).trans rfl) hv3 hbl (fun h => ⟨of_decide_eq_true hp, (eqW_iff _ _).1 ((sameB_iff _ _).1 h)⟩) (fun h => chk_bad (fun hh => by rw [← hh.2, sameB_self] at h; cases h))
  | false =>
    refine region_rule4 (P := Tryz.prog) 10 117 cbD cbG cbS (cbR w.heap.size (sameB x (ownW x)) x Dx ndx cdx Nx nnx cnx) _ _ (by kernel_rfl) rfl rfl (by kernel_rfl) (by decide +kernel) (cb_gb w.heap.size (sameB x (ownW x)) x Dx ndx cdx Nx nnx cnx) (cb_sk w.heap.size (sameB x (ownW x)) x Dx ndx cdx Nx nnx cnx) (cb_on w.heap.size (sameB x (ownW x)) x Dx ndx cdx Nx nnx cnx) (cb_step w.heap.size (sameB x (ownW x)) x Dx ndx cdx Nx nnx cnx (by rfl) (by kernel_rfl) rfl H.out.1 H.out.2.2 rfl hp) ?fin
    case fin =>
      intro a w6 hbase hbl hall
      obtain ⟨v3, hv3, hR3⟩ := hall 9 (by decide)
      have hR3' : v3 = .bool false := hR3
      subst hR3'
      exact key false a w6 hbase.1 hbase.2.1 ((hbase.2.2 1 (by decide)).trans rfl) hv3 hbl (fun h => by cases h) (fun _ => chk_bad (fun hh => of_decide_eq_false hp hh.1))

set_option maxRecDepth 100000 in
set_option maxHeartbeats 6400000 in
theorem rcheck_2 (x : Wl) (Dx : Option Addr) (ndx cdx : Nat) (Nx : Option Addr) (nnx cnx : Nat) (w : World) (h : ArgW w x Dx ndx cdx Nx nnx cnx) (hk : x.kd = 2) : Calls Tryz.prog 54 #[.agg #[.int .i64 x.cl, .int .i64 x.sp, .int .i64 x.gr, .int .i64 x.ep, .int .i64 x.kd, .int .i64 x.bl, .slice Dx ndx cdx, .int .i64 x.od, .int .i64 x.nw, .slice Nx nnx cnx]] w fun e w' => e = .returned (.int .i64 (chk x)) ∧ Below w.heap.size w w' := by
  have hb0 : Below w.heap.size w (w.alloc (.cells #[.int .i64 x.cl, .int .i64 x.sp, .int .i64 x.gr, .int .i64 x.ep, .int .i64 x.kd, .int .i64 x.bl, .slice Dx ndx cdx, .int .i64 x.od, .int .i64 x.nw, .slice Nx nnx cnx] 25)) := (Below.refl _ _).alloc (Nat.le_refl _) _
  have hB0 : Blk (w.alloc (.cells #[.int .i64 x.cl, .int .i64 x.sp, .int .i64 x.gr, .int .i64 x.ep, .int .i64 x.kd, .int .i64 x.bl, .slice Dx ndx cdx, .int .i64 x.od, .int .i64 x.nw, .slice Nx nnx cnx] 25)) w.heap.size 25 [.int .i64 x.cl, .int .i64 x.sp, .int .i64 x.gr, .int .i64 x.ep, .int .i64 x.kd, .int .i64 x.bl, .slice Dx ndx cdx, .int .i64 x.od, .int .i64 x.nw, .slice Nx nnx cnx] := Blk.new rfl rfl
  have hlen := h.1.1
  have H := Lib.hid (And.intro hB0 (And.intro hb0 (h.after hb0)))
  clear hB0 hb0 h
  have HT : (0 ≤ x.ep ∧ x.ep ≤ 1048576) → x = ownW x → Hid ((chk x = 0 ∨ chk x = 2) ∧ (chk x = 0 ↔ Askd x ∧ OfBl x ∧ x.da.length = 16)) := fun he ho => ⟨chk02 x, chk_2 hk he ho⟩
  have e1 : (x.kd == 1) = false := by simp [hk]
  have e2 : (x.kd == 2) = true := by simp [hk]
  have e3 : (x.kd == 3) = false := by simp [hk]
  have e4 : (x.kd == 4) = false := by simp [hk]
  have e5 : (x.kd == 5) = false := by simp [hk]
  have n5 : (x.kd != 5) = true := by simp [hk]
  have HK := Lib.hid hk
  clear hk
  go_enter Tryz.func54, Tryz.ntmps54
  go_wp2_with fail
  rename_i Q0 K0 hK0
  have key : ∀ (m : Bool) (a : Act) (W : World), a.tmps.size = 117 → a.defers = [] → a.tmps[1]? = some (.pointer (some ⟨w.heap.size, 0, none⟩)) → a.tmps[3]? = some (.bool m) → Below (w.alloc (.cells #[.int .i64 x.cl, .int .i64 x.sp, .int .i64 x.gr, .int .i64 x.ep, .int .i64 x.kd, .int .i64 x.bl, .slice Dx ndx cdx, .int .i64 x.od, .int .i64 x.nw, .slice Nx nnx cnx] 25)).heap.size (w.alloc (.cells #[.int .i64 x.cl, .int .i64 x.sp, .int .i64 x.gr, .int .i64 x.ep, .int .i64 x.kd, .int .i64 x.bl, .slice Dx ndx cdx, .int .i64 x.od, .int .i64 x.nw, .slice Nx nnx cnx] 25)) W → (m = true → (0 ≤ x.ep ∧ x.ep ≤ 1048576) ∧ x = ownW x) → (m = false → chk x = 2) → K0 a W := by
    intro m a W hs hd h1 h3 hb hmt hmf
    obtain ⟨g, hg, hge⟩ := lit117 a hs
    have q1 := hge 1 _ h1
    have q3 := hge 3 _ h3
    rw [hd, q1, q3] at hg
    rw [hg]
    clear hg hge q1 q3 h1 h3 hs hd
    have hB := H.out.1.below hb H.out.1.lt
    have k0 : W.cell? ⟨w.heap.size, 0, none⟩ = some (.int .i64 x.cl) := hB.cell rfl
    have k1 : W.cell? ⟨w.heap.size, 1, none⟩ = some (.int .i64 x.sp) := hB.cell rfl
    have k2 : W.cell? ⟨w.heap.size, 2, none⟩ = some (.int .i64 x.gr) := hB.cell rfl
    have k3 : W.cell? ⟨w.heap.size, 3, none⟩ = some (.int .i64 x.ep) := hB.cell rfl
    have k4 : W.cell? ⟨w.heap.size, 4, none⟩ = some (.int .i64 x.kd) := hB.cell rfl
    have k5 : W.cell? ⟨w.heap.size, 5, none⟩ = some (.int .i64 x.bl) := hB.cell rfl
    have k6 : W.cell? ⟨w.heap.size, 6, none⟩ = some (.slice Dx ndx cdx) := hB.cell rfl
    have k7 : W.cell? ⟨w.heap.size, 7, none⟩ = some (.int .i64 x.od) := hB.cell rfl
    have k8 : W.cell? ⟨w.heap.size, 8, none⟩ = some (.int .i64 x.nw) := hB.cell rfl
    have k9 : W.cell? ⟨w.heap.size, 9, none⟩ = some (.slice Nx nnx cnx) := hB.cell rfl
    have HB := Lib.hid (And.intro (H.out.2.1.trans (hb.mono H.out.2.1.size)) (H.out.2.2.after hb))
    clear hb hB
    refine hK0 _ _ ?_
    clear hK0
    cases m with
    | false =>
      have hc2 := Lib.hid (hmf rfl)
      clear hmf hmt
      go_wp2_with (first | (go_at_call 78; refine (rwithin_any _ _ _ _).mono ?_; rintro e w' ⟨rfl, rfl⟩))
      all_goals go_ret
      all_goals exact ⟨fin2 hc2.out, HB.out.1⟩
    | true =>
      have hcc := HT (hmt rfl).1 (hmt rfl).2
      clear hmt hmf HT
      go_wp2_with (first | (go_at_call 78; refine (rwithin_any _ _ _ _).mono ?_; rintro e w' ⟨rfl, rfl⟩))
      all_goals go_ret
      all_goals (try simp only [Bool.not_eq_true', Bool.not_eq_false', decide_eq_false_iff_not, decide_eq_true_eq, beq_iff_eq, beq_eq_false_iff_ne, bne_iff_ne, bne_eq_false_iff_eq, ne_eq, Bool.and_eq_true, Bool.and_eq_false_iff, Bool.or_eq_true] at *)
      all_goals first | exact ⟨fin2 (by have h1 := hcc.out.1; have h2 := hcc.out.2; unfold Askd OfBl at h2; omega), HB.out.1⟩ | exact ⟨fin0 (by have h1 := hcc.out.1; have h2 := hcc.out.2; unfold Askd OfBl at h2; omega), HB.out.1⟩
  cases hp : decide (0 ≤ x.ep ∧ x.ep ≤ 1048576) with
  | true =>
    refine region_rule4 (P := Tryz.prog) 10 117 caD caG caS (caR w.heap.size (sameB x (ownW x)) x Dx ndx cdx Nx nnx cnx) _ _ (by kernel_rfl) rfl rfl (by kernel_rfl) (by decide +kernel) (ca_gb w.heap.size (sameB x (ownW x)) x Dx ndx cdx Nx nnx cnx) (ca_sk w.heap.size (sameB x (ownW x)) x Dx ndx cdx Nx nnx cnx) (ca_on w.heap.size (sameB x (ownW x)) x Dx ndx cdx Nx nnx cnx) (ca_step w.heap.size (sameB x (ownW x)) x Dx ndx cdx Nx nnx cnx (by rfl) (by kernel_rfl) rfl H.out.1 H.out.2.2 rfl hp) ?fin
    case fin =>
      intro a w6 hbase hbl hall
      obtain ⟨v3, hv3, hR3⟩ := hall 9 (by decide)
      have hR3' : v3 = .bool (sameB x (ownW x)) := hR3
      subst hR3'
      exact key (sameB x (ownW x)) a w6 hbase.1 hbase.2.1 ((hbase.2.2 1 (by decide)).trans rfl) hv3 hbl (fun h => ⟨of_decide_eq_true hp, (eqW_iff _ _).1 ((sameB_iff _ _).1 h)⟩) (fun h => chk_bad (fun hh => by rw [← hh.2, sameB_self] at h; cases h))
  | false =>
    refine region_rule4 (P := Tryz.prog) 10 117 cbD cbG cbS (cbR w.heap.size (sameB x (ownW x)) x Dx ndx cdx Nx nnx cnx) _ _ (by kernel_rfl) rfl rfl (by kernel_rfl) (by decide +kernel) (cb_gb w.heap.size (sameB x (ownW x)) x Dx ndx cdx Nx nnx cnx) (cb_sk w.heap.size (sameB x (ownW x)) x Dx ndx cdx Nx nnx cnx) (cb_on w.heap.size (sameB x (ownW x)) x Dx ndx cdx Nx nnx cnx) (cb_step w.heap.size (sameB x (ownW x)) x Dx ndx cdx Nx nnx cnx (by rfl) (by kernel_rfl) rfl H.out.1 H.out.2.2 rfl hp) ?fin
    case fin =>
      intro a w6 hbase hbl hall
      obtain ⟨v3, hv3, hR3⟩ := hall 9 (by decide)
      have hR3' : v3 = .bool false := hR3
      subst hR3'
      exact key false a w6 hbase.1 hbase.2.1 ((hbase.2.2 1 (by decide)).trans rfl) hv3 hbl (fun h => by cases h) (fun _ => chk_bad (fun hh => of_decide_eq_false hp hh.1))

end Go.Proofs.YtihmddpafbackaaGreat

namespace Go.Proofs.YtihmddpafbackaaGreat

open Go.RowKit Go.Maps

set_option linter.unusedVariables false

set_option linter.unusedSimpArgs false

set_option maxRecDepth 100000 in
set_option maxHeartbeats 6400000 in
theorem rcheck_3 (x : Wl) (Dx : Option Addr) (ndx cdx : Nat) (Nx : Option Addr) (nnx cnx : Nat) (w : World) (h : ArgW w x Dx ndx cdx Nx nnx cnx) (hk : x.kd = 3) : Calls Tryz.prog 54 #[.agg #[.int .i64 x.cl, .int .i64 x.sp, .int .i64 x.gr, .int .i64 x.ep, .int .i64 x.kd, .int .i64 x.bl, .slice Dx ndx cdx, .int .i64 x.od, .int .i64 x.nw, .slice Nx nnx cnx]] w fun e w' => e = .returned (.int .i64 (chk x)) ∧ Below w.heap.size w w' := by
  have hb0 : Below w.heap.size w (w.alloc (.cells #[.int .i64 x.cl, .int .i64 x.sp, .int .i64 x.gr, .int .i64 x.ep, .int .i64 x.kd, .int .i64 x.bl, .slice Dx ndx cdx, .int .i64 x.od, .int .i64 x.nw, .slice Nx nnx cnx] 25)) := (Below.refl _ _).alloc (Nat.le_refl _) _
  have hB0 : Blk (w.alloc (.cells #[.int .i64 x.cl, .int .i64 x.sp, .int .i64 x.gr, .int .i64 x.ep, .int .i64 x.kd, .int .i64 x.bl, .slice Dx ndx cdx, .int .i64 x.od, .int .i64 x.nw, .slice Nx nnx cnx] 25)) w.heap.size 25 [.int .i64 x.cl, .int .i64 x.sp, .int .i64 x.gr, .int .i64 x.ep, .int .i64 x.kd, .int .i64 x.bl, .slice Dx ndx cdx, .int .i64 x.od, .int .i64 x.nw, .slice Nx nnx cnx] := Blk.new rfl rfl
  have hlen := h.1.1
  have H := Lib.hid (And.intro hB0 (And.intro hb0 (h.after hb0)))
  clear hB0 hb0 h
  have HT : (0 ≤ x.ep ∧ x.ep ≤ 1048576) → x = ownW x → Hid ((chk x = 0 ∨ chk x = 2) ∧ (chk x = 0 ↔ Askd x ∧ OfDr x)) := fun he ho => ⟨chk02 x, chk_3 hk he ho⟩
  have e1 : (x.kd == 1) = false := by simp [hk]
  have e2 : (x.kd == 2) = false := by simp [hk]
  have e3 : (x.kd == 3) = true := by simp [hk]
  have e4 : (x.kd == 4) = false := by simp [hk]
  have e5 : (x.kd == 5) = false := by simp [hk]
  have n5 : (x.kd != 5) = true := by simp [hk]
  have HK := Lib.hid hk
  clear hk
  go_enter Tryz.func54, Tryz.ntmps54
  go_wp2_with fail
  rename_i Q0 K0 hK0
  have key : ∀ (m : Bool) (a : Act) (W : World), a.tmps.size = 117 → a.defers = [] → a.tmps[1]? = some (.pointer (some ⟨w.heap.size, 0, none⟩)) → a.tmps[3]? = some (.bool m) → Below (w.alloc (.cells #[.int .i64 x.cl, .int .i64 x.sp, .int .i64 x.gr, .int .i64 x.ep, .int .i64 x.kd, .int .i64 x.bl, .slice Dx ndx cdx, .int .i64 x.od, .int .i64 x.nw, .slice Nx nnx cnx] 25)).heap.size (w.alloc (.cells #[.int .i64 x.cl, .int .i64 x.sp, .int .i64 x.gr, .int .i64 x.ep, .int .i64 x.kd, .int .i64 x.bl, .slice Dx ndx cdx, .int .i64 x.od, .int .i64 x.nw, .slice Nx nnx cnx] 25)) W → (m = true → (0 ≤ x.ep ∧ x.ep ≤ 1048576) ∧ x = ownW x) → (m = false → chk x = 2) → K0 a W := by
    intro m a W hs hd h1 h3 hb hmt hmf
    obtain ⟨g, hg, hge⟩ := lit117 a hs
    have q1 := hge 1 _ h1
    have q3 := hge 3 _ h3
    rw [hd, q1, q3] at hg
    rw [hg]
    clear hg hge q1 q3 h1 h3 hs hd
    have hB := H.out.1.below hb H.out.1.lt
    have k0 : W.cell? ⟨w.heap.size, 0, none⟩ = some (.int .i64 x.cl) := hB.cell rfl
    have k1 : W.cell? ⟨w.heap.size, 1, none⟩ = some (.int .i64 x.sp) := hB.cell rfl
    have k2 : W.cell? ⟨w.heap.size, 2, none⟩ = some (.int .i64 x.gr) := hB.cell rfl
    have k3 : W.cell? ⟨w.heap.size, 3, none⟩ = some (.int .i64 x.ep) := hB.cell rfl
    have k4 : W.cell? ⟨w.heap.size, 4, none⟩ = some (.int .i64 x.kd) := hB.cell rfl
    have k5 : W.cell? ⟨w.heap.size, 5, none⟩ = some (.int .i64 x.bl) := hB.cell rfl
    have k6 : W.cell? ⟨w.heap.size, 6, none⟩ = some (.slice Dx ndx cdx) := hB.cell rfl
    have k7 : W.cell? ⟨w.heap.size, 7, none⟩ = some (.int .i64 x.od) := hB.cell rfl
    have k8 : W.cell? ⟨w.heap.size, 8, none⟩ = some (.int .i64 x.nw) := hB.cell rfl
    have k9 : W.cell? ⟨w.heap.size, 9, none⟩ = some (.slice Nx nnx cnx) := hB.cell rfl
    have HB := Lib.hid (And.intro (H.out.2.1.trans (hb.mono H.out.2.1.size)) (H.out.2.2.after hb))
    clear hb hB
    refine hK0 _ _ ?_
    clear hK0
    cases m with
    | false =>
      have hc2 := Lib.hid (hmf rfl)
      clear hmf hmt
      go_wp2_with (first | (go_at_call 78; refine (rwithin_any _ _ _ _).mono ?_; rintro e w' ⟨rfl, rfl⟩))
      all_goals go_ret
      all_goals exact ⟨fin2 hc2.out, HB.out.1⟩
    | true =>
      have hcc := HT (hmt rfl).1 (hmt rfl).2
      clear hmt hmf HT
      go_wp2_with (first | (go_at_call 78; refine (rwithin_any _ _ _ _).mono ?_; rintro e w' ⟨rfl, rfl⟩))
      all_goals go_ret
      all_goals (try simp only [Bool.not_eq_true', Bool.not_eq_false', decide_eq_false_iff_not, decide_eq_true_eq, beq_iff_eq, beq_eq_false_iff_ne, bne_iff_ne, bne_eq_false_iff_eq, ne_eq, Bool.and_eq_true, Bool.and_eq_false_iff, Bool.or_eq_true] at *)
      all_goals first | exact ⟨fin2 (by have h1 := hcc.out.1; have h2 := hcc.out.2; unfold Askd OfDr at h2; omega), HB.out.1⟩ | exact ⟨fin0 (by have h1 := hcc.out.1; have h2 := hcc.out.2; unfold Askd OfDr at h2; omega), HB.out.1⟩
  cases hp : decide (0 ≤ x.ep ∧ x.ep ≤ 1048576) with
  | true =>
    refine region_rule4 (P := Tryz.prog) 10 117 caD caG caS (caR w.heap.size (sameB x (ownW x)) x Dx ndx cdx Nx nnx cnx) _ _ (by kernel_rfl) rfl rfl (by kernel_rfl) (by decide +kernel) (ca_gb w.heap.size (sameB x (ownW x)) x Dx ndx cdx Nx nnx cnx) (ca_sk w.heap.size (sameB x (ownW x)) x Dx ndx cdx Nx nnx cnx) (ca_on w.heap.size (sameB x (ownW x)) x Dx ndx cdx Nx nnx cnx) (ca_step w.heap.size (sameB x (ownW x)) x Dx ndx cdx Nx nnx cnx (by rfl) (by kernel_rfl) rfl H.out.1 H.out.2.2 rfl hp) ?fin
    case fin =>
      intro a w6 hbase hbl hall
      obtain ⟨v3, hv3, hR3⟩ := hall 9 (by decide)
      have hR3' : v3 = .bool (sameB x (ownW x)) := hR3
      subst hR3'
      exact key (sameB x (ownW x)) a w6 hbase.1 hbase.2.1 ((hbase.2.2 1 (by decide)).trans rfl) hv3 hbl (fun h => ⟨of_decide_eq_true hp, (eqW_iff _ _).1 ((sameB_iff _ _).1 h)⟩) (fun h => chk_bad (fun hh => by rw [← hh.2, sameB_self] at h; cases h))
  | false =>
    refine region_rule4 (P := Tryz.prog) 10 117 cbD cbG cbS (cbR w.heap.size (sameB x (ownW x)) x Dx ndx cdx Nx nnx cnx) _ _ (by kernel_rfl) rfl rfl (by kernel_rfl) (by decide +kernel) (cb_gb w.heap.size (sameB x (ownW x)) x Dx ndx cdx Nx nnx cnx) (cb_sk w.heap.size (sameB x (ownW x)) x Dx ndx cdx Nx nnx cnx) (cb_on w.heap.size (sameB x (ownW x)) x Dx ndx cdx Nx nnx cnx) (cb_step w.heap.size (sameB x (ownW x)) x Dx ndx cdx Nx nnx cnx (by rfl) (by kernel_rfl) rfl H.out.1 H.out.2.2 rfl hp) ?fin
    case fin =>
      intro a w6 hbase hbl hall
      obtain ⟨v3, hv3, hR3⟩ := hall 9 (by decide)
      have hR3' : v3 = .bool false := hR3
      subst hR3'
      exact key false a w6 hbase.1 hbase.2.1 ((hbase.2.2 1 (by decide)).trans rfl) hv3 hbl (fun h => by cases h) (fun _ => chk_bad (fun hh => of_decide_eq_false hp hh.1))

set_option maxRecDepth 100000 in
set_option maxHeartbeats 6400000 in
theorem rcheck_4 (x : Wl) (Dx : Option Addr) (ndx cdx : Nat) (Nx : Option Addr) (nnx cnx : Nat) (w : World) (h : ArgW w x Dx ndx cdx Nx nnx cnx) (hk : x.kd = 4) : Calls Tryz.prog 54 #[.agg #[.int .i64 x.cl, .int .i64 x.sp, .int .i64 x.gr, .int .i64 x.ep, .int .i64 x.kd, .int .i64 x.bl, .slice Dx ndx cdx, .int .i64 x.od, .int .i64 x.nw, .slice Nx nnx cnx]] w fun e w' => e = .returned (.int .i64 (chk x)) ∧ Below w.heap.size w w' := by
  have hb0 : Below w.heap.size w (w.alloc (.cells #[.int .i64 x.cl, .int .i64 x.sp, .int .i64 x.gr, .int .i64 x.ep, .int .i64 x.kd, .int .i64 x.bl, .slice Dx ndx cdx, .int .i64 x.od, .int .i64 x.nw, .slice Nx nnx cnx] 25)) := (Below.refl _ _).alloc (Nat.le_refl _) _
  have hB0 : Blk (w.alloc (.cells #[.int .i64 x.cl, .int .i64 x.sp, .int .i64 x.gr, .int .i64 x.ep, .int .i64 x.kd, .int .i64 x.bl, .slice Dx ndx cdx, .int .i64 x.od, .int .i64 x.nw, .slice Nx nnx cnx] 25)) w.heap.size 25 [.int .i64 x.cl, .int .i64 x.sp, .int .i64 x.gr, .int .i64 x.ep, .int .i64 x.kd, .int .i64 x.bl, .slice Dx ndx cdx, .int .i64 x.od, .int .i64 x.nw, .slice Nx nnx cnx] := Blk.new rfl rfl
  have hlen := h.1.1
  have H := Lib.hid (And.intro hB0 (And.intro hb0 (h.after hb0)))
  clear hB0 hb0 h
  have HT : (0 ≤ x.ep ∧ x.ep ≤ 1048576) → x = ownW x → Hid ((chk x = 0 ∨ chk x = 2) ∧ (chk x = 0 ↔ Askd x ∧ OfDr x ∧ Swp x)) := fun he ho => ⟨chk02 x, chk_4 hk he ho⟩
  have e1 : (x.kd == 1) = false := by simp [hk]
  have e2 : (x.kd == 2) = false := by simp [hk]
  have e3 : (x.kd == 3) = false := by simp [hk]
  have e4 : (x.kd == 4) = true := by simp [hk]
  have e5 : (x.kd == 5) = false := by simp [hk]
  have n5 : (x.kd != 5) = true := by simp [hk]
  have HK := Lib.hid hk
  clear hk
  go_enter Tryz.func54, Tryz.ntmps54
  go_wp2_with fail
  rename_i Q0 K0 hK0
  have key : ∀ (m : Bool) (a : Act) (W : World), a.tmps.size = 117 → a.defers = [] → a.tmps[1]? = some (.pointer (some ⟨w.heap.size, 0, none⟩)) → a.tmps[3]? = some (.bool m) → Below (w.alloc (.cells #[.int .i64 x.cl, .int .i64 x.sp, .int .i64 x.gr, .int .i64 x.ep, .int .i64 x.kd, .int .i64 x.bl, .slice Dx ndx cdx, .int .i64 x.od, .int .i64 x.nw, .slice Nx nnx cnx] 25)).heap.size (w.alloc (.cells #[.int .i64 x.cl, .int .i64 x.sp, .int .i64 x.gr, .int .i64 x.ep, .int .i64 x.kd, .int .i64 x.bl, .slice Dx ndx cdx, .int .i64 x.od, .int .i64 x.nw, .slice Nx nnx cnx] 25)) W → (m = true → (0 ≤ x.ep ∧ x.ep ≤ 1048576) ∧ x = ownW x) → (m = false → chk x = 2) → K0 a W := by
    intro m a W hs hd h1 h3 hb hmt hmf
    obtain ⟨g, hg, hge⟩ := lit117 a hs
    have q1 := hge 1 _ h1
    have q3 := hge 3 _ h3
    rw [hd, q1, q3] at hg
    rw [hg]
    clear hg hge q1 q3 h1 h3 hs hd
    have hB := H.out.1.below hb H.out.1.lt
    have k0 : W.cell? ⟨w.heap.size, 0, none⟩ = some (.int .i64 x.cl) := hB.cell rfl
    have k1 : W.cell? ⟨w.heap.size, 1, none⟩ = some (.int .i64 x.sp) := hB.cell rfl
    have k2 : W.cell? ⟨w.heap.size, 2, none⟩ = some (.int .i64 x.gr) := hB.cell rfl
    have k3 : W.cell? ⟨w.heap.size, 3, none⟩ = some (.int .i64 x.ep) := hB.cell rfl
    have k4 : W.cell? ⟨w.heap.size, 4, none⟩ = some (.int .i64 x.kd) := hB.cell rfl
    have k5 : W.cell? ⟨w.heap.size, 5, none⟩ = some (.int .i64 x.bl) := hB.cell rfl
    have k6 : W.cell? ⟨w.heap.size, 6, none⟩ = some (.slice Dx ndx cdx) := hB.cell rfl
    have k7 : W.cell? ⟨w.heap.size, 7, none⟩ = some (.int .i64 x.od) := hB.cell rfl
    have k8 : W.cell? ⟨w.heap.size, 8, none⟩ = some (.int .i64 x.nw) := hB.cell rfl
    have k9 : W.cell? ⟨w.heap.size, 9, none⟩ = some (.slice Nx nnx cnx) := hB.cell rfl
    have HB := Lib.hid (And.intro (H.out.2.1.trans (hb.mono H.out.2.1.size)) (H.out.2.2.after hb))
    clear hb hB
    refine hK0 _ _ ?_
    clear hK0
    cases m with
    | false =>
      have hc2 := Lib.hid (hmf rfl)
      clear hmf hmt
      go_wp2_with (first | (go_at_call 78; refine (rwithin_any _ _ _ _).mono ?_; rintro e w' ⟨rfl, rfl⟩))
      all_goals go_ret
      all_goals exact ⟨fin2 hc2.out, HB.out.1⟩
    | true =>
      have hcc := HT (hmt rfl).1 (hmt rfl).2
      clear hmt hmf HT
      go_wp2_with (first | (go_at_call 78; refine (rwithin_any _ _ _ _).mono ?_; rintro e w' ⟨rfl, rfl⟩))
      all_goals go_ret
      all_goals (try simp only [Bool.not_eq_true', Bool.not_eq_false', decide_eq_false_iff_not, decide_eq_true_eq, beq_iff_eq, beq_eq_false_iff_ne, bne_iff_ne, bne_eq_false_iff_eq, ne_eq, Bool.and_eq_true, Bool.and_eq_false_iff, Bool.or_eq_true] at *)
      all_goals first | exact ⟨fin2 (by have h1 := hcc.out.1; have h2 := hcc.out.2; unfold Askd OfDr Swp at h2; omega), HB.out.1⟩ | exact ⟨fin0 (by have h1 := hcc.out.1; have h2 := hcc.out.2; unfold Askd OfDr Swp at h2; omega), HB.out.1⟩
  cases hp : decide (0 ≤ x.ep ∧ x.ep ≤ 1048576) with
  | true =>
    refine region_rule4 (P := Tryz.prog) 10 117 caD caG caS (caR w.heap.size (sameB x (ownW x)) x Dx ndx cdx Nx nnx cnx) _ _ (by kernel_rfl) rfl rfl (by kernel_rfl) (by decide +kernel) (ca_gb w.heap.size (sameB x (ownW x)) x Dx ndx cdx Nx nnx cnx) (ca_sk w.heap.size (sameB x (ownW x)) x Dx ndx cdx Nx nnx cnx) (ca_on w.heap.size (sameB x (ownW x)) x Dx ndx cdx Nx nnx cnx) (ca_step w.heap.size (sameB x (ownW x)) x Dx ndx cdx Nx nnx cnx (by rfl) (by kernel_rfl) rfl H.out.1 H.out.2.2 rfl hp) ?fin
    case fin =>
      intro a w6 hbase hbl hall
      obtain ⟨v3, hv3, hR3⟩ := hall 9 (by decide)
      have hR3' : v3 = .bool (sameB x (ownW x)) := hR3
      subst hR3'
      exact key (sameB x (ownW x)) a w6 hbase.1 hbase.2.1 ((hbase.2.2 1 (by decide)).trans rfl) hv3 hbl (fun h => ⟨of_decide_eq_true hp, (eqW_iff _ _).1 ((sameB_iff _ _).1 h)⟩) (fun h => chk_bad (fun hh => by rw [← hh.2, sameB_self] at h; cases h))
  | false =>
    refine region_rule4 (P := Tryz.prog) 10 117 cbD cbG cbS (cbR w.heap.size (sameB x (ownW x)) x Dx ndx cdx Nx nnx cnx) _ _ (by kernel_rfl) rfl rfl (by kernel_rfl) (by decide +kernel) (cb_gb w.heap.size (sameB x (ownW x)) x Dx ndx cdx Nx nnx cnx) (cb_sk w.heap.size (sameB x (ownW x)) x Dx ndx cdx Nx nnx cnx) (cb_on w.heap.size (sameB x (ownW x)) x Dx ndx cdx Nx nnx cnx) (cb_step w.heap.size (sameB x (ownW x)) x Dx ndx cdx Nx nnx cnx (by rfl) (by kernel_rfl) rfl H.out.1 H.out.2.2 rfl hp) ?fin
    case fin =>
      intro a w6 hbase hbl hall
      obtain ⟨v3, hv3, hR3⟩ := hall 9 (by decide)
      have hR3' : v3 = .bool false := hR3
      subst hR3'
      exact key false a w6 hbase.1 hbase.2.1 ((hbase.2.2 1 (by decide)).trans rfl) hv3 hbl (fun h => by cases h) (fun _ => chk_bad (fun hh => of_decide_eq_false hp hh.1))

end Go.Proofs.YtihmddpafbackaaGreat
