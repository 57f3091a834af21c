/-
  For all two wishes: as long as the book tells of no clash, they have the same digest just if they are the same; WishUnlike returns true; no condition.
-/
import Derived.Test.YtihmddpafbackaaGreatZ16
import Derived.Test.YtihmddpafbackaaGreatZ15
import Derived.Test.YtihmddpafbackaaGreatZ13
import Derived.Test.YtihmddpafbackaaGreatZ06
import Derived.Deep.DeepCutAuto
import Derived.Deep.QuietTactic
import Derived.BigQuiet
namespace Go.Proofs.YtihmddpafbackaaGreat.wishUnlike
open Go.ChangeShapes Go.WideShapes Go.ChangeAt Go.RowKit Go.Maps
set_option linter.unusedVariables false

set_option linter.unusedSimpArgs false
theorem lit44 (a : Act) (h : a.tmps.size = 44) : ∃ f : Nat → Value, a = { tmps := #[f 0, f 1, f 2, f 3, f 4, f 5, f 6, f 7, f 8, f 9, f 10, f 11, f 12, f 13, f 14, f 15, f 16, f 17, f 18, f 19, f 20, f 21, f 22, f 23, f 24, f 25, f 26, f 27, f 28, f 29, f 30, f 31, f 32, f 33, f 34, f 35, f 36, f 37, f 38, f 39, f 40, f 41, f 42, f 43], defers := a.defers } ∧ ∀ i v, a.tmps[i]? = some v → f i = v := by
  refine ⟨fun i => a.tmps.getD i undef, ?_, fun i v hv => by simp only [Array.getD_eq_getD_getElem?, hv]; rfl⟩
  have e : a.tmps = ((List.range 44).map fun i => a.tmps.getD i undef).toArray := by
    apply Array.ext
    · simp [h]
    · intro i h1 h2
      simp [Array.getD_eq_getD_getElem?, h1]
  cases a with
  | mk t d =>
    simp only [Act.mk.injEq, and_true]
    exact e
def wuR (gx gy gk g6 g8 : Nat) (D1 D2 : List Value) (s : Bool) (x : Wl) (Dx : Option Addr) (ndx cdx : Nat) (Nx : Option Addr) (nnx cnx : Nat) (y : Wl) (Dy : Option Addr) (ndy cdy : Nat) (Ny : Option Addr) (nny cny : Nat) : Nat → Value → World → Prop
  | 0 => fun v w => v = .int .i64 0
  | 1 => fun v w => v = .bool false
  | 2 => fun v w => v = .bool false
  | 3 => fun v w => v = .int .i64 0
  | 4 => fun v w => v = .bool false
  | 5 => fun v w => v = .bool false
  | 6 => fun v w => v = .bool false
  | 7 => fun v w => v = .pointer (some ⟨gk, 0, none⟩)
  | 8 => fun v w => v = .bool false
  | 9 => fun v w => v = .bool false
  | 10 => fun v w => v = .bool false
  | 11 => fun v w => v = .agg D1.toArray
  | 12 => fun v w => v = .agg D2.toArray
  | 13 => fun v w => v = .bool s
  | 14 => fun v w => v = .agg #[.int .i64 x.cl, .int .i64 x.sp, .int .i64 x.gr, .int .i64 x.ep, .int .i64 x.kd, .int .i64 x.bl, .slice Dx ndx cdx, .int .i64 x.od, .int .i64 x.nw, .slice Nx nnx cnx]
  | 15 => fun v w => v = .agg #[.int .i64 y.cl, .int .i64 y.sp, .int .i64 y.gr, .int .i64 y.ep, .int .i64 y.kd, .int .i64 y.bl, .slice Dy ndy cdy, .int .i64 y.od, .int .i64 y.nw, .slice Ny nny cny]
  | 16 => fun v w => v = .bool s
  | 17 => fun v w => v = .bool true
  | 18 => fun v w => v = .bool true
  | 19 => fun v w => v = .bool true
  | _ => fun _ _ => True
def wuD (i : Nat) : Nat := ([25, 26, 27, 28, 29, 30, 31, 32, 33, 34, 35, 36, 37, 38, 39, 40, 41, 42, 43, 4] : List Nat).getD i 0
def wuG : Nat → Option Bool
  | 2 => some false
  | 6 => some false
  | 10 => some false
  | _ => none
def wuS (i : Nat) : Bool := ([] : List Nat).contains i
theorem wu_gb (gx gy gk g6 g8 : Nat) (D1 D2 : List Value) (s : Bool) (x : Wl) (Dx : Option Addr) (ndx cdx : Nat) (Nx : Option Addr) (nnx cnx : Nat) (y : Wl) (Dy : Option Addr) (ndy cdy : Nat) (Ny : Option Addr) (nny cny : Nat) : ∀ i b v w, wuG i = some b → wuR gx gy gk g6 g8 D1 D2 s x Dx ndx cdx Nx nnx cnx y Dy ndy cdy Ny nny cny i v w → v = .bool b := by
  intro i b v w h hR
  unfold wuG at h
  split at h
  all_goals first | (injection h with h; subst h; exact hR) | cases h
theorem wu_sk (gx gy gk g6 g8 : Nat) (D1 D2 : List Value) (s : Bool) (x : Wl) (Dx : Option Addr) (ndx cdx : Nat) (Nx : Option Addr) (nnx cnx : Nat) (y : Wl) (Dy : Option Addr) (ndy cdy : Nat) (Ny : Option Addr) (nny cny : Nat) : ∀ i w, wuS i = true → wuR gx gy gk g6 g8 D1 D2 s x Dx ndx cdx Nx nnx cnx y Dy ndy cdy Ny nny cny i undef w := by
  intro i w h
  simp [wuS] at h
theorem wu_on (gx gy gk g6 g8 : Nat) (D1 D2 : List Value) (s : Bool) (x : Wl) (Dx : Option Addr) (ndx cdx : Nat) (Nx : Option Addr) (nnx cnx : Nat) (y : Wl) (Dy : Option Addr) (ndy cdy : Nat) (Ny : Option Addr) (nny cny : Nat) : ∀ i v w w', wuR gx gy gk g6 g8 D1 D2 s x Dx ndx cdx Nx nnx cnx y Dy ndy cdy Ny nny cny i v w → Below w.heap.size w w' → wuR gx gy gk g6 g8 D1 D2 s x Dx ndx cdx Nx nnx cnx y Dy ndy cdy Ny nny cny i v w'
  | 0, v, w, w', h, _ => h
  | 1, v, w, w', h, _ => h
  | 2, v, w, w', h, _ => h
  | 3, v, w, w', h, _ => h
  | 4, v, w, w', h, _ => h
  | 5, v, w, w', h, _ => h
  | 6, v, w, w', h, _ => h
  | 7, v, w, w', h, _ => h
  | 8, v, w, w', h, _ => h
  | 9, v, w, w', h, _ => h
  | 10, v, w, w', h, _ => h
  | 11, v, w, w', h, _ => h
  | 12, v, w, w', h, _ => h
  | 13, v, w, w', h, _ => h
  | 14, v, w, w', h, _ => h
  | 15, v, w, w', h, _ => h
  | 16, v, w, w', h, _ => h
  | 17, v, w, w', h, _ => h
  | 18, v, w, w', h, _ => h
  | 19, v, w, w', h, _ => h
  | i + 20, v, w, w', h, hb => trivial
def wuOps : List Op := [.move (.tmp 7),
  .binOp .neq 33 (.tmp 25) (.const (.int .i64 0)) 33,
  .move (.tmp 26),
  .move (.tmp 9),
  .binOp .neq 33 (.tmp 28) (.const (.int .i64 0)) 33,
  .pick (.tmp 27) (.const (.bool true)) (.tmp 29),
  .move (.tmp 30),
  .move (.tmp 5),
  .call { callee := .value (.func 18), args := #[.tmp 32], argTypes := #[27] },
  .pick (.tmp 31) (.const (.bool true)) (.tmp 33),
  .move (.tmp 34),
  .load 32 (.tmp 6),
  .load 32 (.tmp 8),
  .binOp .eql 32 (.tmp 36) (.tmp 37) 32,
  .load 25 (.tmp 2),
  .load 25 (.tmp 3),
  .call { callee := .value (.func 19), args := #[.tmp 39, .tmp 40], argTypes := #[25, 25] },
  .binOp .eql 4 (.tmp 38) (.tmp 41) 4,
  .pick (.tmp 35) (.const (.bool true)) (.tmp 42),
  .assign (.tmp 43)]
def wuNeeds : Nat → List Nat
  | 0 => []
  | 1 => [0]
  | 2 => [1]
  | 3 => []
  | 4 => [3]
  | 5 => [2, 4]
  | 6 => [5]
  | 7 => []
  | 8 => [7]
  | 9 => [6, 8]
  | 10 => [9]
  | 11 => []
  | 12 => []
  | 13 => [11, 12]
  | 14 => []
  | 15 => []
  | 16 => [14, 15]
  | 17 => [13, 16]
  | 18 => [10, 17]
  | 19 => [18]
  | _ => []
set_option maxRecDepth 100000 in
set_option maxHeartbeats 3200000 in
theorem wu_step {ops : Array Oper} {Q : Exit → Act → World → Prop} {a0 : Act} {w0 : World} (gx gy gk g6 g8 : Nat) (D1 D2 : List Value) (s : Bool) (x : Wl) (Dx : Option Addr) (ndx cdx : Nat) (Nx : Option Addr) (nnx cnx : Nat) (y : Wl) (Dy : Option Addr) (ndy cdy : Nat) (Ny : Option Addr) (nny cny : Nat) (hops : ((List.range 20).map fun i => (ops[i]?).map Oper.op) = wuOps.map some)
    (hnd : ((List.range 20).all fun i => (wuNeeds i).all fun j => ((ops[i]?).map fun o => o.after.any fun e => Region.binds .any e && (e.on == j)).getD false) = true)
    (x2 : a0.tmps[2]? = some (.pointer (some ⟨gx, 0, none⟩))) (x3 : a0.tmps[3]? = some (.pointer (some ⟨gy, 0, none⟩))) (hBx : Blk w0 gx 25 [.int .i64 x.cl, .int .i64 x.sp, .int .i64 x.gr, .int .i64 x.ep, .int .i64 x.kd, .int .i64 x.bl, .slice Dx ndx cdx, .int .i64 x.od, .int .i64 x.nw, .slice Nx nnx cnx]) (hBy : Blk w0 gy 25 [.int .i64 y.cl, .int .i64 y.sp, .int .i64 y.gr, .int .i64 y.ep, .int .i64 y.kd, .int .i64 y.bl, .slice Dy ndy cdy, .int .i64 y.od, .int .i64 y.nw, .slice Ny nny cny]) (hx : ArgW w0 x Dx ndx cdx Nx nnx cnx) (hy : ArgW w0 y Dy ndy cdy Ny nny cny) (hsm : sameB x y = s) (x5 : a0.tmps[5]? = some (.pointer (some ⟨gk, 0, none⟩))) (x6 : a0.tmps[6]? = some (.pointer (some ⟨g6, 0, none⟩))) (x7 : a0.tmps[7]? = some (.int .i64 0)) (x8 : a0.tmps[8]? = some (.pointer (some ⟨g8, 0, none⟩))) (x9 : a0.tmps[9]? = some (.int .i64 0))
    (hd1 : w0.rangeAt g6 0 D1) (hl1 : g6 < w0.heap.size) (hd2 : w0.rangeAt g8 0 D2) (hl2 : g8 < w0.heap.size) (hi1 : (Tryz.prog.info? 32).map (·.size) = some D1.length) (hi2 : (Tryz.prog.info? 32).map (·.size) = some D2.length)
    (hcl : ∀ w', Below w0.heap.size w0 w' → Calls Tryz.prog 18 #[.pointer (some ⟨gk, 0, none⟩)] w' fun e w'' => e = .returned (.bool false) ∧ w'' = w')
    (heq : ∀ w', (Op.equalIn 10000 32 (.agg D1.toArray) (.agg D2.toArray)).run Tryz.prog w' = .ok s w') :
    ∀ i o, i < 20 → wuS i = false → ops[i]? = some o → o.dst = some (wuD i) → ∀ a w, Base wuD 20 a0 a → Below w0.heap.size w0 w → Region.wanted o (yielded ops a.tmps) = true →
      (∀ j, (o.after.any fun e => Region.binds .any e && (e.on == j)) = true → Has wuD (wuR gx gy gk g6 g8 D1 D2 s x Dx ndx cdx Nx nnx cnx y Dy ndy cdy Ny nny cny) j a w) →
      ∀ K : Act → World → Prop, (∀ v w', wuR gx gy gk g6 g8 D1 D2 s x Dx ndx cdx Nx nnx cnx y Dy ndy cdy Ny nny cny i v w' → Below w.heap.size w w' → K (a.put o.dst v) w') → wpOp Tryz.prog ops Q i K a w := by
  intro i o hi hs ho hds a w hbase hbl hwt hdep0 K hK
  have hop : some o.op = wuOps[i]? := by
    have h1 : ((List.range 20).map fun i => (ops[i]?).map Oper.op)[i]? = some (some o.op) := by
      rw [List.getElem?_map, List.getElem?_range hi]; simp only [Option.map_some, ho]
    rw [hops, List.getElem?_map] at h1
    cases h2 : wuOps[i]? with
    | none => rw [h2] at h1; cases h1
    | some y => rw [h2] at h1; simp only [Option.map_some, Option.some.injEq] at h1; rw [h1]
  have hdep : ∀ j, j ∈ wuNeeds i → Has wuD (wuR gx gy gk g6 g8 D1 D2 s x Dx ndx cdx Nx nnx cnx y Dy ndy cdy Ny nny cny) j a w := fun j hj => by
    have h1 := List.all_eq_true.1 (List.all_eq_true.1 hnd i (List.mem_range.2 hi)) j hj
    rw [ho] at h1
    exact hdep0 j h1
  clear hdep0 hops hnd
  match i, hi, hs, ho, hop, hds, hdep, hK with
  | 0, _, hs, ho, hop, hds, hdep, hK =>
    have hop : o.op = .move (.tmp 7) := Option.some.inj hop
    have hu7 : a.tmps[7]? = some (.int .i64 0) := (hbase.2.2 7 (by decide)).trans x7
    have e7 : a.eval (.tmp 7) = _ := ev_tmp hu7
    refine st3 ho hwt (v := _) (w' := w) ?_ (hK _ w rfl (Below.refl _ _))
    unfold execOp
    rw [hop, ← e7]
    rfl
  | 1, _, hs, ho, hop, hds, hdep, hK =>
    have hop : o.op = .binOp .neq 33 (.tmp 25) (.const (.int .i64 0)) 33 := Option.some.inj hop
    obtain ⟨u25, hu25, hv25⟩ := hdep 0 (by decide)
    have hv25' : u25 = .int .i64 0 := hv25
    subst hv25'
    have e25 : a.eval (.tmp 25) = _ := ev_tmp hu25
    refine st3 ho hwt (v := .bool false) (w' := w) ?_ (hK _ w rfl (Below.refl _ _))
    unfold execOp
    simp only [hop, e25]
    first | rfl | (go_simp; done) | (go_simp; simp; done) | (go_simp; intro h; omega)
  | 2, _, hs, ho, hop, hds, hdep, hK =>
    have hop : o.op = .move (.tmp 26) := Option.some.inj hop
    obtain ⟨u26, hu26, hv26⟩ := hdep 1 (by decide)
    have hv26' : u26 = .bool false := hv26
    subst hv26'
    have e26 : a.eval (.tmp 26) = _ := ev_tmp hu26
    refine st3 ho hwt (v := _) (w' := w) ?_ (hK _ w rfl (Below.refl _ _))
    unfold execOp
    rw [hop, ← e26]
    rfl
  | 3, _, hs, ho, hop, hds, hdep, hK =>
    have hop : o.op = .move (.tmp 9) := Option.some.inj hop
    have hu9 : a.tmps[9]? = some (.int .i64 0) := (hbase.2.2 9 (by decide)).trans x9
    have e9 : a.eval (.tmp 9) = _ := ev_tmp hu9
    refine st3 ho hwt (v := _) (w' := w) ?_ (hK _ w rfl (Below.refl _ _))
    unfold execOp
    rw [hop, ← e9]
    rfl
  | 4, _, hs, ho, hop, hds, hdep, hK =>
    have hop : o.op = .binOp .neq 33 (.tmp 28) (.const (.int .i64 0)) 33 := Option.some.inj hop
    obtain ⟨u28, hu28, hv28⟩ := hdep 3 (by decide)
    have hv28' : u28 = .int .i64 0 := hv28
    subst hv28'
    have e28 : a.eval (.tmp 28) = _ := ev_tmp hu28
    refine st3 ho hwt (v := .bool false) (w' := w) ?_ (hK _ w rfl (Below.refl _ _))
    unfold execOp
    simp only [hop, e28]
    first | rfl | (go_simp; done) | (go_simp; simp; done) | (go_simp; intro h; omega)
  | 5, _, hs, ho, hop, hds, hdep, hK =>
    have hop : o.op = .pick (.tmp 27) (.const (.bool true)) (.tmp 29) := Option.some.inj hop
    obtain ⟨u27, hu27, hv27⟩ := hdep 2 (by decide)
    have hv27' : u27 = .bool false := hv27
    subst hv27'
    have e27 : a.eval (.tmp 27) = _ := ev_tmp hu27
    obtain ⟨u29, hu29, hv29⟩ := hdep 4 (by decide)
    have hv29' : u29 = .bool false := hv29
    subst hv29'
    have e29 : a.eval (.tmp 29) = _ := ev_tmp hu29
    refine st3 ho hwt (v := .bool false) (w' := w) ?_ (hK _ w rfl (Below.refl _ _))
    unfold execOp
    simp only [hop, e27, e29]
    first | rfl | (go_simp; done) | (go_simp; simp; done) | (go_simp; intro h; omega)
  | 6, _, hs, ho, hop, hds, hdep, hK =>
    have hop : o.op = .move (.tmp 30) := Option.some.inj hop
    obtain ⟨u30, hu30, hv30⟩ := hdep 5 (by decide)
    have hv30' : u30 = .bool false := hv30
    subst hv30'
    have e30 : a.eval (.tmp 30) = _ := ev_tmp hu30
    refine st3 ho hwt (v := _) (w' := w) ?_ (hK _ w rfl (Below.refl _ _))
    unfold execOp
    rw [hop, ← e30]
    rfl
  | 7, _, hs, ho, hop, hds, hdep, hK =>
    have hop : o.op = .move (.tmp 5) := Option.some.inj hop
    have hu5 : a.tmps[5]? = some (.pointer (some ⟨gk, 0, none⟩)) := (hbase.2.2 5 (by decide)).trans x5
    have e5 : a.eval (.tmp 5) = _ := ev_tmp hu5
    refine st3 ho hwt (v := _) (w' := w) ?_ (hK _ w rfl (Below.refl _ _))
    unfold execOp
    rw [hop, ← e5]
    rfl
  | 8, _, hs, ho, hop, hds, hdep, hK =>
    have hop : o.op = .call { callee := .value (.func 18), args := #[.tmp 32], argTypes := #[27] } := Option.some.inj hop
    obtain ⟨u32, hu32, hv32⟩ := hdep 7 (by decide)
    have hv32' : u32 = .pointer (some ⟨gk, 0, none⟩) := hv32
    subst hv32'
    have e32 : a.eval (.tmp 32) = _ := ev_tmp hu32
    refine st3_call ho hwt (f := 18) (vals := #[.pointer (some ⟨gk, 0, none⟩)]) (Z := fun v w' => v = .bool false ∧ Below w.heap.size w w') ?_ ?_ ?_
    · unfold execOp
      simp only [hop, e32, resolve, invoke, Sem.run_bind, Sem.run_pure, Result.andThen_ok, List.map_toArray, List.map_cons, List.map_nil]
      first | rfl | exact enters_of Tryz.func18 (by kernel_rfl) rfl _ _
    · exact (hcl w hbl).mono fun e w' ⟨he, h2⟩ => ⟨_, he, rfl, h2 ▸ Below.refl _ _⟩
    · rintro v w' ⟨h1, h2⟩
      exact hK v w' h1 h2
  | 9, _, hs, ho, hop, hds, hdep, hK =>
    have hop : o.op = .pick (.tmp 31) (.const (.bool true)) (.tmp 33) := Option.some.inj hop
    obtain ⟨u31, hu31, hv31⟩ := hdep 6 (by decide)
    have hv31' : u31 = .bool false := hv31
    subst hv31'
    have e31 : a.eval (.tmp 31) = _ := ev_tmp hu31
    obtain ⟨u33, hu33, hv33⟩ := hdep 8 (by decide)
    have hv33' : u33 = .bool false := hv33
    subst hv33'
    have e33 : a.eval (.tmp 33) = _ := ev_tmp hu33
    refine st3 ho hwt (v := .bool false) (w' := w) ?_ (hK _ w rfl (Below.refl _ _))
    unfold execOp
    simp only [hop, e31, e33]
    first | rfl | (go_simp; done) | (go_simp; simp; done) | (go_simp; intro h; omega)
  | 10, _, hs, ho, hop, hds, hdep, hK =>
    have hop : o.op = .move (.tmp 34) := Option.some.inj hop
    obtain ⟨u34, hu34, hv34⟩ := hdep 9 (by decide)
    have hv34' : u34 = .bool false := hv34
    subst hv34'
    have e34 : a.eval (.tmp 34) = _ := ev_tmp hu34
    refine st3 ho hwt (v := _) (w' := w) ?_ (hK _ w rfl (Below.refl _ _))
    unfold execOp
    rw [hop, ← e34]
    rfl
  | 11, _, hs, ho, hop, hds, hdep, hK =>
    have hop : o.op = .load 32 (.tmp 6) := Option.some.inj hop
    have hu6 : a.tmps[6]? = some (.pointer (some ⟨g6, 0, none⟩)) := (hbase.2.2 6 (by decide)).trans x6
    have e6 : a.eval (.tmp 6) = _ := ev_tmp hu6
    refine wpOp_step ho (fun K' hK' => ?_)
    rw [if_pos hwt]
    refine wp_load_mid 32 (.tmp 6) hop g6 0 e6 D1 _ (range_on hd1 hbl hl1) Tryz.underlying32 rfl hi1 ?_
    exact hK' _ _ (hK _ w rfl (Below.refl _ _))
  | 12, _, hs, ho, hop, hds, hdep, hK =>
    have hop : o.op = .load 32 (.tmp 8) := Option.some.inj hop
    have hu8 : a.tmps[8]? = some (.pointer (some ⟨g8, 0, none⟩)) := (hbase.2.2 8 (by decide)).trans x8
    have e8 : a.eval (.tmp 8) = _ := ev_tmp hu8
    refine wpOp_step ho (fun K' hK' => ?_)
    rw [if_pos hwt]
    refine wp_load_mid 32 (.tmp 8) hop g8 0 e8 D2 _ (range_on hd2 hbl hl2) Tryz.underlying32 rfl hi2 ?_
    exact hK' _ _ (hK _ w rfl (Below.refl _ _))
  | 13, _, hs, ho, hop, hds, hdep, hK =>
    have hop : o.op = .binOp .eql 32 (.tmp 36) (.tmp 37) 32 := Option.some.inj hop
    obtain ⟨u36, hu36, hv36⟩ := hdep 11 (by decide)
    have hv36' : u36 = .agg D1.toArray := hv36
    subst hv36'
    have e36 : a.eval (.tmp 36) = _ := ev_tmp hu36
    obtain ⟨u37, hu37, hv37⟩ := hdep 12 (by decide)
    have hv37' : u37 = .agg D2.toArray := hv37
    subst hv37'
    have e37 : a.eval (.tmp 37) = _ := ev_tmp hu37
    refine st3 ho hwt (v := .bool s) (w' := w) ?_ (hK _ w rfl (Below.refl _ _))
    have hq := heq w
    unfold execOp
    simp only [hop, e36, e37]
    go_simp
  | 14, _, hs, ho, hop, hds, hdep, hK =>
    have hop : o.op = .load 25 (.tmp 2) := Option.some.inj hop
    have hu2 : a.tmps[2]? = some (.pointer (some ⟨gx, 0, none⟩)) := (hbase.2.2 2 (by decide)).trans x2
    have e2 : a.eval (.tmp 2) = _ := ev_tmp hu2
    refine st3 ho hwt (v := .agg #[.int .i64 x.cl, .int .i64 x.sp, .int .i64 x.gr, .int .i64 x.ep, .int .i64 x.kd, .int .i64 x.bl, .slice Dx ndx cdx, .int .i64 x.od, .int .i64 x.nw, .slice Nx nnx cnx]) (w' := w) ?_ (hK _ w rfl (Below.refl _ _))
    have k0 : w.cell? ⟨gx, 0, none⟩ = some (.int .i64 x.cl) := (hBx.below hbl hBx.lt).cell rfl
    have k1 : w.cell? ⟨gx, 1, none⟩ = some (.int .i64 x.sp) := (hBx.below hbl hBx.lt).cell rfl
    have k2 : w.cell? ⟨gx, 2, none⟩ = some (.int .i64 x.gr) := (hBx.below hbl hBx.lt).cell rfl
    have k3 : w.cell? ⟨gx, 3, none⟩ = some (.int .i64 x.ep) := (hBx.below hbl hBx.lt).cell rfl
    have k4 : w.cell? ⟨gx, 4, none⟩ = some (.int .i64 x.kd) := (hBx.below hbl hBx.lt).cell rfl
    have k5 : w.cell? ⟨gx, 5, none⟩ = some (.int .i64 x.bl) := (hBx.below hbl hBx.lt).cell rfl
    have k6 : w.cell? ⟨gx, 6, none⟩ = some (.slice Dx ndx cdx) := (hBx.below hbl hBx.lt).cell rfl
    have k7 : w.cell? ⟨gx, 7, none⟩ = some (.int .i64 x.od) := (hBx.below hbl hBx.lt).cell rfl
    have k8 : w.cell? ⟨gx, 8, none⟩ = some (.int .i64 x.nw) := (hBx.below hbl hBx.lt).cell rfl
    have k9 : w.cell? ⟨gx, 9, none⟩ = some (.slice Nx nnx cnx) := (hBx.below hbl hBx.lt).cell rfl
    unfold execOp
    simp only [hop, Option.map_some, Option.map_none, e2]
    first | rfl | (go_simp; done) | (go_simp; simp; done) | (go_simp; intro h; omega)
  | 15, _, hs, ho, hop, hds, hdep, hK =>
    have hop : o.op = .load 25 (.tmp 3) := Option.some.inj hop
    have hu3 : a.tmps[3]? = some (.pointer (some ⟨gy, 0, none⟩)) := (hbase.2.2 3 (by decide)).trans x3
    have e3 : a.eval (.tmp 3) = _ := ev_tmp hu3
    refine st3 ho hwt (v := .agg #[.int .i64 y.cl, .int .i64 y.sp, .int .i64 y.gr, .int .i64 y.ep, .int .i64 y.kd, .int .i64 y.bl, .slice Dy ndy cdy, .int .i64 y.od, .int .i64 y.nw, .slice Ny nny cny]) (w' := w) ?_ (hK _ w rfl (Below.refl _ _))
    have k0 : w.cell? ⟨gy, 0, none⟩ = some (.int .i64 y.cl) := (hBy.below hbl hBy.lt).cell rfl
    have k1 : w.cell? ⟨gy, 1, none⟩ = some (.int .i64 y.sp) := (hBy.below hbl hBy.lt).cell rfl
    have k2 : w.cell? ⟨gy, 2, none⟩ = some (.int .i64 y.gr) := (hBy.below hbl hBy.lt).cell rfl
    have k3 : w.cell? ⟨gy, 3, none⟩ = some (.int .i64 y.ep) := (hBy.below hbl hBy.lt).cell rfl
    have k4 : w.cell? ⟨gy, 4, none⟩ = some (.int .i64 y.kd) := (hBy.below hbl hBy.lt).cell rfl
    have k5 : w.cell? ⟨gy, 5, none⟩ = some (.int .i64 y.bl) := (hBy.below hbl hBy.lt).cell rfl
    have k6 : w.cell? ⟨gy, 6, none⟩ = some (.slice Dy ndy cdy) := (hBy.below hbl hBy.lt).cell rfl
    have k7 : w.cell? ⟨gy, 7, none⟩ = some (.int .i64 y.od) := (hBy.below hbl hBy.lt).cell rfl
    have k8 : w.cell? ⟨gy, 8, none⟩ = some (.int .i64 y.nw) := (hBy.below hbl hBy.lt).cell rfl
    have k9 : w.cell? ⟨gy, 9, none⟩ = some (.slice Ny nny cny) := (hBy.below hbl hBy.lt).cell rfl
    unfold execOp
    simp only [hop, Option.map_some, Option.map_none, e3]
    first | rfl | (go_simp; done) | (go_simp; simp; done) | (go_simp; intro h; omega)
  | 16, _, hs, ho, hop, hds, hdep, hK =>
    have hop : o.op = .call { callee := .value (.func 19), args := #[.tmp 39, .tmp 40], argTypes := #[25, 25] } := Option.some.inj hop
    obtain ⟨u39, hu39, hv39⟩ := hdep 14 (by decide)
    have hv39' : u39 = .agg #[.int .i64 x.cl, .int .i64 x.sp, .int .i64 x.gr, .int .i64 x.ep, .int .i64 x.kd, .int .i64 x.bl, .slice Dx ndx cdx, .int .i64 x.od, .int .i64 x.nw, .slice Nx nnx cnx] := hv39
    subst hv39'
    have e39 : a.eval (.tmp 39) = _ := ev_tmp hu39
    obtain ⟨u40, hu40, hv40⟩ := hdep 15 (by decide)
    have hv40' : u40 = .agg #[.int .i64 y.cl, .int .i64 y.sp, .int .i64 y.gr, .int .i64 y.ep, .int .i64 y.kd, .int .i64 y.bl, .slice Dy ndy cdy, .int .i64 y.od, .int .i64 y.nw, .slice Ny nny cny] := hv40
    subst hv40'
    have e40 : a.eval (.tmp 40) = _ := ev_tmp hu40
    refine st3_call ho hwt (f := 19) (vals := #[.agg #[.int .i64 x.cl, .int .i64 x.sp, .int .i64 x.gr, .int .i64 x.ep, .int .i64 x.kd, .int .i64 x.bl, .slice Dx ndx cdx, .int .i64 x.od, .int .i64 x.nw, .slice Nx nnx cnx], .agg #[.int .i64 y.cl, .int .i64 y.sp, .int .i64 y.gr, .int .i64 y.ep, .int .i64 y.kd, .int .i64 y.bl, .slice Dy ndy cdy, .int .i64 y.od, .int .i64 y.nw, .slice Ny nny cny]]) (Z := fun v w' => v = .bool s ∧ Below w.heap.size w w') ?_ ?_ ?_
    · unfold execOp
      simp only [hop, e39, e40, resolve, invoke, Sem.run_bind, Sem.run_pure, Result.andThen_ok, List.map_toArray, List.map_cons, List.map_nil]
      first | rfl | exact enters_of Tryz.func19 (by kernel_rfl) rfl _ _
    · exact (same_any x Dx ndx cdx Nx nnx cnx y Dy ndy cdy Ny nny cny w (hx.after hbl) (hy.after hbl)).mono fun e w' ⟨he, h2⟩ => ⟨_, he, congrArg Value.bool hsm, h2⟩
    · rintro v w' ⟨h1, h2⟩
      exact hK v w' h1 h2
  | 17, _, hs, ho, hop, hds, hdep, hK =>
    have hop : o.op = .binOp .eql 4 (.tmp 38) (.tmp 41) 4 := Option.some.inj hop
    obtain ⟨u38, hu38, hv38⟩ := hdep 13 (by decide)
    have hv38' : u38 = .bool s := hv38
    subst hv38'
    have e38 : a.eval (.tmp 38) = _ := ev_tmp hu38
    obtain ⟨u41, hu41, hv41⟩ := hdep 16 (by decide)
    have hv41' : u41 = .bool s := hv41
    subst hv41'
    have e41 : a.eval (.tmp 41) = _ := ev_tmp hu41
    refine st3 ho hwt (v := .bool true) (w' := w) ?_ (hK _ w rfl (Below.refl _ _))
    unfold execOp
    simp only [hop, e38, e41]
    first | rfl | (go_simp; done) | (go_simp; simp; done) | (go_simp; intro h; omega)
  | 18, _, hs, ho, hop, hds, hdep, hK =>
    have hop : o.op = .pick (.tmp 35) (.const (.bool true)) (.tmp 42) := Option.some.inj hop
    obtain ⟨u35, hu35, hv35⟩ := hdep 10 (by decide)
    have hv35' : u35 = .bool false := hv35
    subst hv35'
    have e35 : a.eval (.tmp 35) = _ := ev_tmp hu35
    obtain ⟨u42, hu42, hv42⟩ := hdep 17 (by decide)
    have hv42' : u42 = .bool true := hv42
    subst hv42'
    have e42 : a.eval (.tmp 42) = _ := ev_tmp hu42
    refine st3 ho hwt (v := .bool true) (w' := w) ?_ (hK _ w rfl (Below.refl _ _))
    unfold execOp
    simp only [hop, e35, e42]
    first | rfl | (go_simp; done) | (go_simp; simp; done) | (go_simp; intro h; omega)
  | 19, _, hs, ho, hop, hds, hdep, hK =>
    have hop : o.op = .assign (.tmp 43) := Option.some.inj hop
    obtain ⟨u43, hu43, hv43⟩ := hdep 18 (by decide)
    have hv43' : u43 = .bool true := hv43
    subst hv43'
    have e43 : a.eval (.tmp 43) = _ := ev_tmp hu43
    refine st3 ho hwt (v := _) (w' := w) ?_ (hK _ w rfl (Below.refl _ _))
    unfold execOp
    rw [hop, ← e43]
    rfl
  | i + 20, hi, _, _, _, _, _, _ => exact absurd hi (by omega)
set_option maxRecDepth 100000 in
set_option maxHeartbeats 12800000 in
theorem walk (x : Wl) (Dx : Option Addr) (ndx cdx : Nat) (Nx : Option Addr) (nnx cnx : Nat) (y : Wl) (Dy : Option Addr) (ndy cdy : Nat) (Ny : Option Addr) (nny cny : Nat) (w : World) (hx : ArgW w x Dx ndx cdx Nx nnx cnx) (hy : ArgW w y Dy ndy cdy Ny nny cny) :
    Calls Tryz.prog 4 #[.agg #[.int .i64 x.cl, .int .i64 x.sp, .int .i64 x.gr, .int .i64 x.ep, .int .i64 x.kd, .int .i64 x.bl, .slice Dx ndx cdx, .int .i64 x.od, .int .i64 x.nw, .slice Nx nnx cnx], .agg #[.int .i64 y.cl, .int .i64 y.sp, .int .i64 y.gr, .int .i64 y.ep, .int .i64 y.kd, .int .i64 y.bl, .slice Dy ndy cdy, .int .i64 y.od, .int .i64 y.nw, .slice Ny nny cny]] w fun e w' => e = .returned (.bool true) ∧ Below w.heap.size w w' := by
  have hb0 : Below w.heap.size w ((w.alloc (.cells #[.int .i64 x.cl, .int .i64 x.sp, .int .i64 x.gr, .int .i64 x.ep, .int .i64 x.kd, .int .i64 x.bl, .slice Dx ndx cdx, .int .i64 x.od, .int .i64 x.nw, .slice Nx nnx cnx] 25)).alloc (.cells #[.int .i64 y.cl, .int .i64 y.sp, .int .i64 y.gr, .int .i64 y.ep, .int .i64 y.kd, .int .i64 y.bl, .slice Dy ndy cdy, .int .i64 y.od, .int .i64 y.nw, .slice Ny nny cny] 25)) := ((Below.refl _ _).alloc (Nat.le_refl _) _).alloc (by simp) _
  have hB1 : Blk ((w.alloc (.cells #[.int .i64 x.cl, .int .i64 x.sp, .int .i64 x.gr, .int .i64 x.ep, .int .i64 x.kd, .int .i64 x.bl, .slice Dx ndx cdx, .int .i64 x.od, .int .i64 x.nw, .slice Nx nnx cnx] 25)).alloc (.cells #[.int .i64 y.cl, .int .i64 y.sp, .int .i64 y.gr, .int .i64 y.ep, .int .i64 y.kd, .int .i64 y.bl, .slice Dy ndy cdy, .int .i64 y.od, .int .i64 y.nw, .slice Ny nny cny] 25)) w.heap.size 25 [.int .i64 x.cl, .int .i64 x.sp, .int .i64 x.gr, .int .i64 x.ep, .int .i64 x.kd, .int .i64 x.bl, .slice Dx ndx cdx, .int .i64 x.od, .int .i64 x.nw, .slice Nx nnx cnx] := (Blk.new (l := [.int .i64 x.cl, .int .i64 x.sp, .int .i64 x.gr, .int .i64 x.ep, .int .i64 x.kd, .int .i64 x.bl, .slice Dx ndx cdx, .int .i64 x.od, .int .i64 x.nw, .slice Nx nnx cnx]) rfl rfl).old _
  have hB2 : Blk ((w.alloc (.cells #[.int .i64 x.cl, .int .i64 x.sp, .int .i64 x.gr, .int .i64 x.ep, .int .i64 x.kd, .int .i64 x.bl, .slice Dx ndx cdx, .int .i64 x.od, .int .i64 x.nw, .slice Nx nnx cnx] 25)).alloc (.cells #[.int .i64 y.cl, .int .i64 y.sp, .int .i64 y.gr, .int .i64 y.ep, .int .i64 y.kd, .int .i64 y.bl, .slice Dy ndy cdy, .int .i64 y.od, .int .i64 y.nw, .slice Ny nny cny] 25)) (w.heap.size + 1) 25 [.int .i64 y.cl, .int .i64 y.sp, .int .i64 y.gr, .int .i64 y.ep, .int .i64 y.kd, .int .i64 y.bl, .slice Dy ndy cdy, .int .i64 y.od, .int .i64 y.nw, .slice Ny nny cny] := Blk.new rfl (by simp)
  have H := Lib.hid (And.intro (hx.after hb0) (And.intro (hy.after hb0) (And.intro hb0 (And.intro hB1 hB2))))
  clear hb0 hB1 hB2 hx hy
  have hpx : ∀ (W : World), True := fun _ => trivial
  clear hpx
  go_enter Tryz.func4, Tryz.ntmps4
  go_wp2_with fail
  refine (works11_any _).mono ?_
  rintro e w1 ⟨rfl, hb1⟩
  have H1 := Lib.hid (And.intro (H.out.1.after hb1) (And.intro (H.out.2.1.after hb1) (And.intro (H.out.2.2.1.trans (hb1.mono H.out.2.2.1.size)) (And.intro (H.out.2.2.2.1.below hb1 H.out.2.2.2.1.lt) (H.out.2.2.2.2.below hb1 H.out.2.2.2.2.lt)))))
  clear hb1
  go_wp2_with fail
  refine (bnew_any _).mono ?_
  rintro e w2 ⟨S, g, rfl, hS, hk, hb2⟩
  have hK2 := bks_new (Below.refl w1.heap.size w1) hS hk hb2
  obtain ⟨D1, hD1a, hD1b, hD1c⟩ := dg_cells (wbytes x)
  obtain ⟨D2, hD2a, hD2b, hD2c⟩ := dg_cells (wbytes y)
  obtain ⟨e1, he1⟩ : ∃ e, dgE (wbytes x) = e := ⟨_, rfl⟩
  obtain ⟨e2, he2⟩ : ∃ e, dgE (wbytes y) = e := ⟨_, rfl⟩
  have hc1 := bks_wd hK2 (by decide) (by decide) x Dx ndx cdx Nx nnx cnx (H1.out.1.after hb2)
  rw [hD1b, he1] at hc1
  have Hc1 := Lib.hid hc1
  have H2 := Lib.hid hK2
  clear hS hk hc1 hK2 hb2
  have kx0 := (H1.out.2.2.2.1.below H2.out.bel H1.out.2.2.2.1.lt).cell (i := 0) rfl
  have kx1 := (H1.out.2.2.2.1.below H2.out.bel H1.out.2.2.2.1.lt).cell (i := 1) rfl
  have kx2 := (H1.out.2.2.2.1.below H2.out.bel H1.out.2.2.2.1.lt).cell (i := 2) rfl
  have kx3 := (H1.out.2.2.2.1.below H2.out.bel H1.out.2.2.2.1.lt).cell (i := 3) rfl
  have kx4 := (H1.out.2.2.2.1.below H2.out.bel H1.out.2.2.2.1.lt).cell (i := 4) rfl
  have kx5 := (H1.out.2.2.2.1.below H2.out.bel H1.out.2.2.2.1.lt).cell (i := 5) rfl
  have kx6 := (H1.out.2.2.2.1.below H2.out.bel H1.out.2.2.2.1.lt).cell (i := 6) rfl
  have kx7 := (H1.out.2.2.2.1.below H2.out.bel H1.out.2.2.2.1.lt).cell (i := 7) rfl
  have kx8 := (H1.out.2.2.2.1.below H2.out.bel H1.out.2.2.2.1.lt).cell (i := 8) rfl
  have kx9 := (H1.out.2.2.2.1.below H2.out.bel H1.out.2.2.2.1.lt).cell (i := 9) rfl
  go_wp2_with fail
  refine Hc1.out.mono ?_
  rintro e w3 ⟨rfl, hK3⟩
  clear Hc1
  obtain ⟨wS, hwS, hthi, hdS, hbS, hzS⟩ := dig_local w3 D1 hD1a
  have hK4 := hK3.newD hbS hdS
  have hl1 := dgS_len (runL []) (wbytes x)
  have h00 : (runL []).1.length = 0 ∧ (runL []).2.2 = 0 := ⟨rfl, rfl⟩
  have hc2 := bks_wd hK4 (by omega) (by omega) y Dy ndy cdy Ny nny cny (H1.out.2.1.after hK4.bel)
  rw [hD2b, he2] at hc2
  have Hc2 := Lib.hid hc2
  have HwS := Lib.hid hwS
  have Hthi := Lib.hid hthi
  have H3 := Lib.hid hK4
  have HD1 := Lib.hid (And.intro hD1a (And.intro hD1b hD1c))
  clear hK3 hwS hthi hdS hbS hzS hK4 hl1 hc2 h00 hD1a hD1b hD1c kx0 kx1 kx2 kx3 kx4 kx5 kx6 kx7 kx8 kx9
  have ky0 := (H1.out.2.2.2.2.below H3.out.bel H1.out.2.2.2.2.lt).cell (i := 0) rfl
  have ky1 := (H1.out.2.2.2.2.below H3.out.bel H1.out.2.2.2.2.lt).cell (i := 1) rfl
  have ky2 := (H1.out.2.2.2.2.below H3.out.bel H1.out.2.2.2.2.lt).cell (i := 2) rfl
  have ky3 := (H1.out.2.2.2.2.below H3.out.bel H1.out.2.2.2.2.lt).cell (i := 3) rfl
  have ky4 := (H1.out.2.2.2.2.below H3.out.bel H1.out.2.2.2.2.lt).cell (i := 4) rfl
  have ky5 := (H1.out.2.2.2.2.below H3.out.bel H1.out.2.2.2.2.lt).cell (i := 5) rfl
  have ky6 := (H1.out.2.2.2.2.below H3.out.bel H1.out.2.2.2.2.lt).cell (i := 6) rfl
  have ky7 := (H1.out.2.2.2.2.below H3.out.bel H1.out.2.2.2.2.lt).cell (i := 7) rfl
  have ky8 := (H1.out.2.2.2.2.below H3.out.bel H1.out.2.2.2.2.lt).cell (i := 8) rfl
  have ky9 := (H1.out.2.2.2.2.below H3.out.bel H1.out.2.2.2.2.lt).cell (i := 9) rfl
  go_wp2_with (refine wpList_store_mid rfl 32 _ _ rfl w3.heap.size 0 D1.toArray rfl rfl Hthi.out.1 Hthi.out.2 HD1.out.2.2 ?_; simp only [Act.put]; refine cast (congrArg (fun z => wpList _ _ _ _ _ z) HwS.out.symm) ?_)
  refine Hc2.out.mono ?_
  rintro e w4 ⟨rfl, hK5⟩
  clear Hc2
  obtain ⟨wT, hwT, hthi, hdT, hbT, hzT⟩ := dig_local w4 D2 hD2a
  have hK6 := hK5.newD hbT hdT
  have HwT := Lib.hid hwT
  have HthiT := Lib.hid hthi
  have HD2 := Lib.hid (And.intro hD2a (And.intro hD2b hD2c))
  have HK := Lib.hid hK6
  clear hK5 hwT hthi hdT hbT hzT hK6 hD2a hD2b hD2c ky0 ky1 ky2 ky3 ky4 ky5 ky6 ky7 ky8 ky9
  have He := Lib.hid (And.intro he1 he2)
  clear he1 he2
  by_cases hm1 : May x
  rotate_left
  · obtain rfl : e1 = 2 := by rw [← He.out.1, wbytes_bad hm1]; rfl
    go_wp2_with (refine wpList_store_mid rfl 32 _ _ rfl w4.heap.size 0 D2.toArray rfl rfl HthiT.out.1 HthiT.out.2 HD2.out.2.2 ?_; simp only [Act.put]; refine cast (congrArg (fun z => wpList _ _ _ _ _ z) HwT.out.symm) ?_)
    go_quiet (fail)
    go_wp2
    go_ret
    exact ⟨rfl, below_drewN (H1.out.2.2.1.trans (HK.out.bel.mono H1.out.2.2.1.size)) _⟩
  by_cases hm2 : May y
  rotate_left
  · obtain rfl : e1 = 0 := by rw [← He.out.1]; exact dgE_ok (by rw [wbytes_ok hm1]) (by rw [wbytes_ok hm1]; have := (wb_len hm1).2; show (wb x).length ≤ 65536; omega)
    obtain rfl : e2 = 2 := by rw [← He.out.2, wbytes_bad hm2]; rfl
    go_wp2_with (refine wpList_store_mid rfl 32 _ _ rfl w4.heap.size 0 D2.toArray rfl rfl HthiT.out.1 HthiT.out.2 HD2.out.2.2 ?_; simp only [Act.put]; refine cast (congrArg (fun z => wpList _ _ _ _ _ z) HwT.out.symm) ?_)
    go_quiet (fail)
    go_wp2
    go_ret
    exact ⟨rfl, below_drewN (H1.out.2.2.1.trans (HK.out.bel.mono H1.out.2.2.1.size)) _⟩
  obtain rfl : e1 = 0 := by rw [← He.out.1]; exact dgE_ok (by rw [wbytes_ok hm1]) (by rw [wbytes_ok hm1]; have := (wb_len hm1).2; show (wb x).length ≤ 65536; omega)
  obtain rfl : e2 = 0 := by rw [← He.out.2]; exact dgE_ok (by rw [wbytes_ok hm2]) (by rw [wbytes_ok hm2]; have := (wb_len hm2).2; show (wb y).length ≤ 65536; omega)
  have HT : Hid ((dgS (dgS (runL []) (wbytes x)) (wbytes y)).2.1 = false → (dgD (wbytes x) == dgD (wbytes y)) = sameB x y) := Lib.hid (wish_two hm1 hm2)
  clear hm1 hm2
  obtain ⟨cl, hcl⟩ : ∃ c, (dgS (dgS (runL []) (wbytes x)) (wbytes y)).2.1 = c := ⟨_, rfl⟩
  have hcall : ∀ W', Below wT.heap.size wT W' → Calls Tryz.prog 18 #[.pointer (some ⟨g, 0, none⟩)] W' fun e w'' => e = .returned (.bool cl) ∧ w'' = W' := fun W' hb => by
    have := bks_clash (HK.out.below hb)
    rw [hcl] at this
    exact this
  have Hcl := Lib.hid hcall
  clear hcall
  cases cl with
  | true =>
    clear hcl HT
    go_wp2_with (refine wpList_store_mid rfl 32 _ _ rfl w4.heap.size 0 D2.toArray rfl rfl HthiT.out.1 HthiT.out.2 HD2.out.2.2 ?_; simp only [Act.put]; refine cast (congrArg (fun z => wpList _ _ _ _ _ z) HwT.out.symm) ?_)
    go_quiet ((go_at_call 18; exact Calls.quiet_of_same (Hcl.out _ (below_drewN (Below.refl _ _) _))))
    go_wp2
    go_ret
    exact ⟨rfl, below_drewN (H1.out.2.2.1.trans (HK.out.bel.mono H1.out.2.2.1.size)) _⟩
  | false =>
    have heq : ∀ w', (Op.equalIn 10000 32 (.agg D1.toArray) (.agg D2.toArray)).run Tryz.prog w' = .ok (sameB x y) w' := fun w' => by
      rw [← HD1.out.2.1, ← HD2.out.2.1, ← HT.out hcl]
      exact eq_digests w' _ _ (dgD_len _) (dgD_len _)
    have Hq := Lib.hid heq
    have b1 := HK.out.dig (d := (w3.heap.size, D1)) (by simp)
    have b2 := HK.out.dig (d := (w4.heap.size, D2)) (by simp)
    have hid1 : (Tryz.prog.info? 32).map (·.size) = some D1.length := by rw [HD1.out.1]; exact info32b
    have hid2 : (Tryz.prog.info? 32).map (·.size) = some D2.length := by rw [HD2.out.1]; exact info32b
    have Hb := Lib.hid (And.intro b1 (And.intro b2 (And.intro hid1 hid2)))
    clear heq hcl b1 b2 hid1 hid2 HT
    go_wp2_with (refine wpList_store_mid rfl 32 _ _ rfl w4.heap.size 0 D2.toArray rfl rfl HthiT.out.1 HthiT.out.2 HD2.out.2.2 ?_; simp only [Act.put]; refine cast (congrArg (fun z => wpList _ _ _ _ _ z) HwT.out.symm) ?_)
    refine region_rule4 (P := Tryz.prog) 20 44 wuD wuG wuS (wuR w.heap.size (w.heap.size + 1) g w3.heap.size w4.heap.size D1 D2 (sameB x y) x Dx ndx cdx Nx nnx cnx y Dy ndy cdy Ny nny cny) _ _ (by kernel_rfl) rfl rfl (by kernel_rfl) (by decide +kernel) (wu_gb w.heap.size (w.heap.size + 1) g w3.heap.size w4.heap.size D1 D2 (sameB x y) x Dx ndx cdx Nx nnx cnx y Dy ndy cdy Ny nny cny) (wu_sk w.heap.size (w.heap.size + 1) g w3.heap.size w4.heap.size D1 D2 (sameB x y) x Dx ndx cdx Nx nnx cnx y Dy ndy cdy Ny nny cny) (wu_on w.heap.size (w.heap.size + 1) g w3.heap.size w4.heap.size D1 D2 (sameB x y) x Dx ndx cdx Nx nnx cnx y Dy ndy cdy Ny nny cny) (wu_step w.heap.size (w.heap.size + 1) g w3.heap.size w4.heap.size D1 D2 (sameB x y) x Dx ndx cdx Nx nnx cnx y Dy ndy cdy Ny nny cny (by rfl) (by kernel_rfl) rfl rfl (H1.out.2.2.2.1.below HK.out.bel H1.out.2.2.2.1.lt) (H1.out.2.2.2.2.below HK.out.bel H1.out.2.2.2.2.lt) (H1.out.1.after HK.out.bel) (H1.out.2.1.after HK.out.bel) rfl rfl rfl rfl rfl rfl Hb.out.1.range Hb.out.1.lt Hb.out.2.1.range Hb.out.2.1.lt Hb.out.2.2.1 Hb.out.2.2.2 Hcl.out Hq.out) ?fin
    case fin =>
      intro a w6 hbase hbl hall
      obtain ⟨v4, hv4, hR4⟩ := hall 19 (by decide)
      have hR4' : v4 = .bool true := hR4
      subst hR4'
      obtain ⟨g, hg, hge⟩ := lit44 a hbase.1
      have q4 : g 4 = .bool true := hge 4 _ hv4
      have hdf : a.defers = [] := hbase.2.1
      rw [hdf, q4] at hg
      rw [hg]
      have hbf := (H1.out.2.2.1.trans (HK.out.bel.mono H1.out.2.2.1.size)).trans (hbl.mono (Nat.le_trans H1.out.2.2.1.size HK.out.bel.size))
      go_wp2
      go_ret
      exact ⟨rfl, hbf⟩

end Go.Proofs.YtihmddpafbackaaGreat.wishUnlike
