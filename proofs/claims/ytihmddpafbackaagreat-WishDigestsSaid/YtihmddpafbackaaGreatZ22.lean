/-
  Laid together for a hand-in: Rb11.
-/
import Derived.Test.YtihmddpafbackaaGreatZ21
import Derived.Test.YtihmddpafbackaaGreatZ14

namespace Go.Proofs.YtihmddpafbackaaGreat

open Go.RowKit Go.Maps

set_option linter.unusedVariables false

set_option linter.unusedSimpArgs false

theorem rnum_any (n : Int) (w : World) : Calls Tryz.prog 56 #[.int .i64 n] w (RetB w (ib n)) := by
  have hr : Hid ((nm n).1 = ib n) := rfl
  have Hc := Lib.hid (refNum_any n w)
  generalize nm n = r at *
  generalize ib n = l at *
  go_enter Tryz.func56, Tryz.ntmps56
  go_wp2_with fail
  refine Hc.out.mono ?_
  rintro e w1 ⟨v, rfl, hN⟩
  go_wp2
  go_ret
  rw [hr.out] at hN
  exact ⟨v, rfl, hN⟩

theorem rstr_any (A : Option Addr) (c n : Nat) (xs : List UInt8) (w : World) (hA : Bs w A xs) (hn : xs.length = n) (hl : n ≤ maxLen) : Calls Tryz.prog 57 #[.slice A n c] w (RetB w (sb xs)) := by
  have hr : Hid ((st xs).1 = sb xs) := rfl
  have Hc := Lib.hid (refStr_any A c n xs w hA hn hl)
  generalize st xs = r at *
  generalize sb xs = l at *
  go_enter Tryz.func57, Tryz.ntmps57
  go_wp2_with fail
  refine Hc.out.mono ?_
  rintro e w1 ⟨v, rfl, hN⟩
  go_wp2
  go_ret
  rw [hr.out] at hN
  exact ⟨v, rfl, hN⟩

theorem bss5 {w : World} {t : TypeId} {A0 A1 A2 A3 A4 : Option Addr} {c0 c1 c2 c3 c4 : Nat} {l0 l1 l2 l3 l4 : List UInt8} (h0 : Bs w A0 l0) (h1 : c1 ≤ maxLen ∧ Bs w A1 l1) (h2 : c2 ≤ maxLen ∧ Bs w A2 l2) (h3 : c3 ≤ maxLen ∧ Bs w A3 l3) (h4 : c4 ≤ maxLen ∧ Bs w A4 l4) :
    Bss (w.alloc (.cells #[.slice A0 l0.length c0, .slice A1 l1.length c1, .slice A2 l2.length c2, .slice A3 l3.length c3, .slice A4 l4.length c4] t)) (some ⟨w.heap.size, 0, none⟩) [l0, l1, l2, l3, l4] := by
  refine Bss.made w t _ _ rfl fun i hi => ?_
  match i, hi with
  | 0, _ => exact ⟨A0, c0, rfl, h0⟩
  | 1, _ => exact ⟨A1, c1, rfl, h1.2⟩
  | 2, _ => exact ⟨A2, c2, rfl, h2.2⟩
  | 3, _ => exact ⟨A3, c3, rfl, h3.2⟩
  | 4, _ => exact ⟨A4, c4, rfl, h4.2⟩

theorem bss6 {w : World} {t : TypeId} {A0 A1 A2 A3 A4 A5 : Option Addr} {c0 c1 c2 c3 c4 c5 : Nat} {l0 l1 l2 l3 l4 l5 : List UInt8} (h0 : c0 ≤ maxLen ∧ Bs w A0 l0) (h1 : c1 ≤ maxLen ∧ Bs w A1 l1) (h2 : c2 ≤ maxLen ∧ Bs w A2 l2) (h3 : c3 ≤ maxLen ∧ Bs w A3 l3) (h4 : c4 ≤ maxLen ∧ Bs w A4 l4) (h5 : c5 ≤ maxLen ∧ Bs w A5 l5) :
    Bss (w.alloc (.cells #[.slice A0 l0.length c0, .slice A1 l1.length c1, .slice A2 l2.length c2, .slice A3 l3.length c3, .slice A4 l4.length c4, .slice A5 l5.length c5] t)) (some ⟨w.heap.size, 0, none⟩) [l0, l1, l2, l3, l4, l5] := by
  refine Bss.made w t _ _ rfl fun i hi => ?_
  match i, hi with
  | 0, _ => exact ⟨A0, c0, rfl, h0.2⟩
  | 1, _ => exact ⟨A1, c1, rfl, h1.2⟩
  | 2, _ => exact ⟨A2, c2, rfl, h2.2⟩
  | 3, _ => exact ⟨A3, c3, rfl, h3.2⟩
  | 4, _ => exact ⟨A4, c4, rfl, h4.2⟩
  | 5, _ => exact ⟨A5, c5, rfl, h5.2⟩

theorem flat6_small {x : Wl} (hm : May x) : [ib x.kd, ib x.cl, ib x.sp, ib x.gr, ib x.ep, ib x.bl].flatten.length ≤ 140737488355328 := by
  have h := (wb_len hm).2
  have e : [ib x.kd, ib x.cl, ib x.sp, ib x.gr, ib x.ep, ib x.bl].flatten = ibs [x.kd, x.cl, x.sp, x.gr, x.ep, x.bl] := rfl
  rw [e]
  unfold wb at h
  rw [List.length_append] at h
  omega

theorem flat5 {l4 a : List UInt8} {p q r : Int} : [l4, a, ib p, ib q, ib r].flatten = l4 ++ (a ++ ibs [p, q, r]) := by
  simp only [List.flatten_cons, List.flatten_nil, ibs, List.map_cons, List.map_nil]

theorem flat5_small {x : Wl} (hm : May x) : [ibs [x.kd, x.cl, x.sp, x.gr, x.ep, x.bl], sb x.da, ib x.od, ib x.nw, ib (x.nx.length : Int)].flatten.length ≤ 140737488355328 := by
  have h := (wb_len hm).2
  rw [flat5]
  unfold wb at h
  simp only [List.length_append] at h ⊢
  omega

def b3R (gb base : Nat) (x : Wl) (Dx : Option Addr) (ndx cdx : Nat) (Nx : Option Addr) (nnx cnx : Nat) : Nat → Value → World → Prop
  | 0 => fun v w => v = .pointer (some ⟨gb, 4, none⟩)
  | 1 => fun v w => v = .int .i64 x.kd
  | 2 => fun v w => BV w v (ib x.kd)
  | 3 => fun v w => v = .pointer (some ⟨gb, 0, none⟩)
  | 4 => fun v w => v = .int .i64 x.cl
  | 5 => fun v w => BV w v (ib x.cl)
  | 6 => fun v w => v = .pointer (some ⟨gb, 1, none⟩)
  | 7 => fun v w => v = .int .i64 x.sp
  | 8 => fun v w => BV w v (ib x.sp)
  | 9 => fun v w => v = .pointer (some ⟨gb, 2, none⟩)
  | 10 => fun v w => v = .int .i64 x.gr
  | 11 => fun v w => BV w v (ib x.gr)
  | 12 => fun v w => v = .pointer (some ⟨gb, 3, none⟩)
  | 13 => fun v w => v = .int .i64 x.ep
  | 14 => fun v w => BV w v (ib x.ep)
  | 15 => fun v w => v = .pointer (some ⟨gb, 5, none⟩)
  | 16 => fun v w => v = .int .i64 x.bl
  | 17 => fun v w => BV w v (ib x.bl)
  | 18 => fun v w => BssV w v 6 [ib x.kd, ib x.cl, ib x.sp, ib x.gr, ib x.ep, ib x.bl]
  | 19 => fun v w => MineV w base v (ibs [x.kd, x.cl, x.sp, x.gr, x.ep, x.bl])
  | 20 => fun v w => MineV w base v (ibs [x.kd, x.cl, x.sp, x.gr, x.ep, x.bl])
  | _ => fun _ _ => True

def b3D (i : Nat) : Nat := ([10, 11, 12, 13, 14, 15, 16, 17, 18, 19, 20, 21, 22, 23, 24, 25, 26, 27, 28, 29, 4] : List Nat).getD i 0

def b3G : Nat → Option Bool
  | _ => none

def b3S (i : Nat) : Bool := ([] : List Nat).contains i

theorem b3_gb (gb base : Nat) (x : Wl) (Dx : Option Addr) (ndx cdx : Nat) (Nx : Option Addr) (nnx cnx : Nat) : ∀ i b v w, b3G i = some b → b3R gb base x Dx ndx cdx Nx nnx cnx i v w → v = .bool b := by
  intro i b v w h hR
  unfold b3G at h
  split at h
  all_goals first | (injection h with h; subst h; exact hR) | cases h

theorem b3_sk (gb base : Nat) (x : Wl) (Dx : Option Addr) (ndx cdx : Nat) (Nx : Option Addr) (nnx cnx : Nat) : ∀ i w, b3S i = true → b3R gb base x Dx ndx cdx Nx nnx cnx i undef w := by
  intro i w h
  simp [b3S] at h

theorem b3_on (gb base : Nat) (x : Wl) (Dx : Option Addr) (ndx cdx : Nat) (Nx : Option Addr) (nnx cnx : Nat) : ∀ i v w w', b3R gb base x Dx ndx cdx Nx nnx cnx i v w → Below w.heap.size w w' → b3R gb base x Dx ndx cdx Nx nnx cnx i v w'
  | 0, v, w, w', h, _ => h
  | 1, v, w, w', h, _ => h
  | 2, v, w, w', h, hb => BV.on (show BV w v (ib x.kd) from h) hb
  | 3, v, w, w', h, _ => h
  | 4, v, w, w', h, _ => h
  | 5, v, w, w', h, hb => BV.on (show BV w v (ib x.cl) from h) hb
  | 6, v, w, w', h, _ => h
  | 7, v, w, w', h, _ => h
  | 8, v, w, w', h, hb => BV.on (show BV w v (ib x.sp) from h) hb
  | 9, v, w, w', h, _ => h
  | 10, v, w, w', h, _ => h
  | 11, v, w, w', h, hb => BV.on (show BV w v (ib x.gr) from h) hb
  | 12, v, w, w', h, _ => h
  | 13, v, w, w', h, _ => h
  | 14, v, w, w', h, hb => BV.on (show BV w v (ib x.ep) from h) hb
  | 15, v, w, w', h, _ => h
  | 16, v, w, w', h, _ => h
  | 17, v, w, w', h, hb => BV.on (show BV w v (ib x.bl) from h) hb
  | 18, v, w, w', h, hb => BssV.on (show BssV w v 6 [ib x.kd, ib x.cl, ib x.sp, ib x.gr, ib x.ep, ib x.bl] from h) hb
  | 19, v, w, w', h, hb => MineV.on (show MineV w base v (ibs [x.kd, x.cl, x.sp, x.gr, x.ep, x.bl]) from h) hb
  | 20, v, w, w', h, hb => MineV.on (show MineV w base v (ibs [x.kd, x.cl, x.sp, x.gr, x.ep, x.bl]) from h) hb
  | i + 21, v, w, w', h, hb => trivial

def b3Ops : List Op := [.fieldAddr 25 (.tmp 1) 4,
  .load 3 (.tmp 10),
  .call { callee := .value (.func 56), args := #[.tmp 11], argTypes := #[3] },
  .fieldAddr 25 (.tmp 1) 0,
  .load 3 (.tmp 13),
  .call { callee := .value (.func 56), args := #[.tmp 14], argTypes := #[3] },
  .fieldAddr 25 (.tmp 1) 1,
  .load 3 (.tmp 16),
  .call { callee := .value (.func 56), args := #[.tmp 17], argTypes := #[3] },
  .fieldAddr 25 (.tmp 1) 2,
  .load 3 (.tmp 19),
  .call { callee := .value (.func 56), args := #[.tmp 20], argTypes := #[3] },
  .fieldAddr 25 (.tmp 1) 3,
  .load 3 (.tmp 22),
  .call { callee := .value (.func 56), args := #[.tmp 23], argTypes := #[3] },
  .fieldAddr 25 (.tmp 1) 5,
  .load 3 (.tmp 25),
  .call { callee := .value (.func 56), args := #[.tmp 26], argTypes := #[3] },
  .buildSlice 61 6 #[(0, .tmp 12), (1, .tmp 15), (2, .tmp 18), (3, .tmp 21), (4, .tmp 24), (5, .tmp 27)],
  .call { callee := .value (.func 55), args := #[.tmp 28], argTypes := #[61] },
  .assign (.tmp 29)]

def b3Needs : Nat → List Nat
  | 0 => []
  | 1 => [0]
  | 2 => [1]
  | 3 => []
  | 4 => [3]
  | 5 => [4]
  | 6 => []
  | 7 => [6]
  | 8 => [7]
  | 9 => []
  | 10 => [9]
  | 11 => [10]
  | 12 => []
  | 13 => [12]
  | 14 => [13]
  | 15 => []
  | 16 => [15]
  | 17 => [16]
  | 18 => [2, 5, 8, 11, 14, 17]
  | 19 => [18]
  | 20 => [19]
  | _ => []

set_option maxRecDepth 100000 in
set_option maxHeartbeats 3200000 in
theorem b3_step {ops : Array Oper} {Q : Exit → Act → World → Prop} {a0 : Act} {w0 : World} (gb base : Nat) (x : Wl) (Dx : Option Addr) (ndx cdx : Nat) (Nx : Option Addr) (nnx cnx : Nat) (hops : ((List.range 21).map fun i => (ops[i]?).map Oper.op) = b3Ops.map some)
    (hnd : ((List.range 21).all fun i => (b3Needs i).all fun j => ((ops[i]?).map fun o => o.after.any fun e => Region.binds .any e && (e.on == j)).getD false) = true)
    (x1 : a0.tmps[1]? = some (.pointer (some ⟨gb, 0, none⟩)))
    (hB : Blk w0 gb 25 [.int .i64 x.cl, .int .i64 x.sp, .int .i64 x.gr, .int .i64 x.ep, .int .i64 x.kd, .int .i64 x.bl, .slice Dx ndx cdx, .int .i64 x.od, .int .i64 x.nw, .slice Nx nnx cnx]) (hW : ArgW w0 x Dx ndx cdx Nx nnx cnx) (hm : May x) (hb0 : base ≤ w0.heap.size) :
    ∀ i o, i < 21 → b3S i = false → ops[i]? = some o → o.dst = some (b3D i) → ∀ a w, Base b3D 21 a0 a → Below w0.heap.size w0 w → Region.wanted o (yielded ops a.tmps) = true →
      (∀ j, (o.after.any fun e => Region.binds .any e && (e.on == j)) = true → Has b3D (b3R gb base x Dx ndx cdx Nx nnx cnx) j a w) →
      ∀ K : Act → World → Prop, (∀ v w', b3R gb base x Dx ndx cdx Nx nnx cnx i v w' → Below w.heap.size w w' → K (a.put o.dst v) w') → wpOp Tryz.prog ops Q i K a w := by
  intro i o hi hs ho hds a w hbase hbl hwt hdep0 K hK
  have hop : some o.op = b3Ops[i]? := by
    have h1 : ((List.range 21).map fun i => (ops[i]?).map Oper.op)[i]? = some (some o.op) := by
      rw [List.getElem?_map, List.getElem?_range hi]; simp only [Option.map_some, ho]
    rw [hops, List.getElem?_map] at h1
    cases h2 : b3Ops[i]? with
    | none => rw [h2] at h1; cases h1
    | some y => rw [h2] at h1; simp only [Option.map_some, Option.some.injEq] at h1; rw [h1]
  have hdep : ∀ j, j ∈ b3Needs i → Has b3D (b3R gb base x Dx ndx cdx Nx nnx cnx) j a w := fun j hj => by
    have h1 := List.all_eq_true.1 (List.all_eq_true.1 hnd i (List.mem_range.2 hi)) j hj
    rw [ho] at h1
    exact hdep0 j h1
  clear hdep0 hops hnd
  match i, hi, hs, ho, hop, hds, hdep, hK with
  | 0, _, hs, ho, hop, hds, hdep, hK =>
    have hop : o.op = .fieldAddr 25 (.tmp 1) 4 := Option.some.inj hop
    have hu1 : a.tmps[1]? = some (.pointer (some ⟨gb, 0, none⟩)) := (hbase.2.2 1 (by decide)).trans x1
    have e1 : a.eval (.tmp 1) = _ := ev_tmp hu1
    refine st3 ho hwt (v := .pointer (some ⟨gb, 4, none⟩)) (w' := w) ?_ (hK _ w rfl (Below.refl _ _))
    unfold execOp
    simp only [hop, Option.map_some, Option.map_none, e1]
    first | rfl | (go_simp; done) | (go_simp; simp; done) | (go_simp; intro h; omega)
  | 1, _, hs, ho, hop, hds, hdep, hK =>
    have hop : o.op = .load 3 (.tmp 10) := Option.some.inj hop
    obtain ⟨u10, hu10, hv10⟩ := hdep 0 (by decide)
    have hv10' : u10 = .pointer (some ⟨gb, 4, none⟩) := hv10
    subst hv10'
    have e10 : a.eval (.tmp 10) = _ := ev_tmp hu10
    refine st3 ho hwt (v := .int .i64 x.kd) (w' := w) ?_ (hK _ w rfl (Below.refl _ _))
    have k4 : w.cell? ⟨gb, 4, none⟩ = some (.int .i64 x.kd) := (hB.below hbl hB.lt).cell rfl
    unfold execOp
    simp only [hop, Option.map_some, Option.map_none, e10]
    first | rfl | (go_simp; done) | (go_simp; simp; done) | (go_simp; intro h; omega)
  | 2, _, hs, ho, hop, hds, hdep, hK =>
    have hop : o.op = .call { callee := .value (.func 56), args := #[.tmp 11], argTypes := #[3] } := Option.some.inj hop
    obtain ⟨u11, hu11, hv11⟩ := hdep 1 (by decide)
    have hv11' : u11 = .int .i64 x.kd := hv11
    subst hv11'
    have e11 : a.eval (.tmp 11) = _ := ev_tmp hu11
    refine st3_call ho hwt (f := 56) (vals := #[.int .i64 x.kd]) (Z := fun v w' => BV w' v (ib x.kd) ∧ Below w.heap.size w w') ?_ ?_ ?_
    · unfold execOp
      simp only [hop, e11, resolve, invoke, Sem.run_bind, Sem.run_pure, Result.andThen_ok, List.map_toArray, List.map_cons, List.map_nil]
      first | rfl | exact enters_of Tryz.func56 (by kernel_rfl) rfl _ _
    · exact (rnum_any x.kd w).mono fun e w' ⟨v, he, hN⟩ => ⟨v, he, BV.ofNew hN, hN.2⟩
    · rintro v w' ⟨h1, h2⟩
      exact hK v w' h1 h2
  | 3, _, hs, ho, hop, hds, hdep, hK =>
    have hop : o.op = .fieldAddr 25 (.tmp 1) 0 := Option.some.inj hop
    have hu1 : a.tmps[1]? = some (.pointer (some ⟨gb, 0, none⟩)) := (hbase.2.2 1 (by decide)).trans x1
    have e1 : a.eval (.tmp 1) = _ := ev_tmp hu1
    refine st3 ho hwt (v := .pointer (some ⟨gb, 0, none⟩)) (w' := w) ?_ (hK _ w rfl (Below.refl _ _))
    unfold execOp
    simp only [hop, Option.map_some, Option.map_none, e1]
    first | rfl | (go_simp; done) | (go_simp; simp; done) | (go_simp; intro h; omega)
  | 4, _, hs, ho, hop, hds, hdep, hK =>
    have hop : o.op = .load 3 (.tmp 13) := Option.some.inj hop
    obtain ⟨u13, hu13, hv13⟩ := hdep 3 (by decide)
    have hv13' : u13 = .pointer (some ⟨gb, 0, none⟩) := hv13
    subst hv13'
    have e13 : a.eval (.tmp 13) = _ := ev_tmp hu13
    refine st3 ho hwt (v := .int .i64 x.cl) (w' := w) ?_ (hK _ w rfl (Below.refl _ _))
    have k0 : w.cell? ⟨gb, 0, none⟩ = some (.int .i64 x.cl) := (hB.below hbl hB.lt).cell rfl
    unfold execOp
    simp only [hop, Option.map_some, Option.map_none, e13]
    first | rfl | (go_simp; done) | (go_simp; simp; done) | (go_simp; intro h; omega)
  | 5, _, hs, ho, hop, hds, hdep, hK =>
    have hop : o.op = .call { callee := .value (.func 56), args := #[.tmp 14], argTypes := #[3] } := Option.some.inj hop
    obtain ⟨u14, hu14, hv14⟩ := hdep 4 (by decide)
    have hv14' : u14 = .int .i64 x.cl := hv14
    subst hv14'
    have e14 : a.eval (.tmp 14) = _ := ev_tmp hu14
    refine st3_call ho hwt (f := 56) (vals := #[.int .i64 x.cl]) (Z := fun v w' => BV w' v (ib x.cl) ∧ Below w.heap.size w w') ?_ ?_ ?_
    · unfold execOp
      simp only [hop, e14, resolve, invoke, Sem.run_bind, Sem.run_pure, Result.andThen_ok, List.map_toArray, List.map_cons, List.map_nil]
      first | rfl | exact enters_of Tryz.func56 (by kernel_rfl) rfl _ _
    · exact (rnum_any x.cl w).mono fun e w' ⟨v, he, hN⟩ => ⟨v, he, BV.ofNew hN, hN.2⟩
    · rintro v w' ⟨h1, h2⟩
      exact hK v w' h1 h2
  | 6, _, hs, ho, hop, hds, hdep, hK =>
    have hop : o.op = .fieldAddr 25 (.tmp 1) 1 := Option.some.inj hop
    have hu1 : a.tmps[1]? = some (.pointer (some ⟨gb, 0, none⟩)) := (hbase.2.2 1 (by decide)).trans x1
    have e1 : a.eval (.tmp 1) = _ := ev_tmp hu1
    refine st3 ho hwt (v := .pointer (some ⟨gb, 1, none⟩)) (w' := w) ?_ (hK _ w rfl (Below.refl _ _))
    unfold execOp
    simp only [hop, Option.map_some, Option.map_none, e1]
    first | rfl | (go_simp; done) | (go_simp; simp; done) | (go_simp; intro h; omega)
  | 7, _, hs, ho, hop, hds, hdep, hK =>
    have hop : o.op = .load 3 (.tmp 16) := Option.some.inj hop
    obtain ⟨u16, hu16, hv16⟩ := hdep 6 (by decide)
    have hv16' : u16 = .pointer (some ⟨gb, 1, none⟩) := hv16
    subst hv16'
    have e16 : a.eval (.tmp 16) = _ := ev_tmp hu16
    refine st3 ho hwt (v := .int .i64 x.sp) (w' := w) ?_ (hK _ w rfl (Below.refl _ _))
    have k1 : w.cell? ⟨gb, 1, none⟩ = some (.int .i64 x.sp) := (hB.below hbl hB.lt).cell rfl
    unfold execOp
    simp only [hop, Option.map_some, Option.map_none, e16]
    first | rfl | (go_simp; done) | (go_simp; simp; done) | (go_simp; intro h; omega)
  | 8, _, hs, ho, hop, hds, hdep, hK =>
    have hop : o.op = .call { callee := .value (.func 56), args := #[.tmp 17], argTypes := #[3] } := Option.some.inj hop
    obtain ⟨u17, hu17, hv17⟩ := hdep 7 (by decide)
    have hv17' : u17 = .int .i64 x.sp := hv17
    subst hv17'
    have e17 : a.eval (.tmp 17) = _ := ev_tmp hu17
    refine st3_call ho hwt (f := 56) (vals := #[.int .i64 x.sp]) (Z := fun v w' => BV w' v (ib x.sp) ∧ Below w.heap.size w w') ?_ ?_ ?_
    · unfold execOp
      simp only [hop, e17, resolve, invoke, Sem.run_bind, Sem.run_pure, Result.andThen_ok, List.map_toArray, List.map_cons, List.map_nil]
      first | rfl | exact enters_of Tryz.func56 (by kernel_rfl) rfl _ _
    · exact (rnum_any x.sp w).mono fun e w' ⟨v, he, hN⟩ => ⟨v, he, BV.ofNew hN, hN.2⟩
    · rintro v w' ⟨h1, h2⟩
      exact hK v w' h1 h2
  | 9, _, hs, ho, hop, hds, hdep, hK =>
    have hop : o.op = .fieldAddr 25 (.tmp 1) 2 := Option.some.inj hop
    have hu1 : a.tmps[1]? = some (.pointer (some ⟨gb, 0, none⟩)) := (hbase.2.2 1 (by decide)).trans x1
    have e1 : a.eval (.tmp 1) = _ := ev_tmp hu1
    refine st3 ho hwt (v := .pointer (some ⟨gb, 2, none⟩)) (w' := w) ?_ (hK _ w rfl (Below.refl _ _))
    unfold execOp
    simp only [hop, Option.map_some, Option.map_none, e1]
    first | rfl | (go_simp; done) | (go_simp; simp; done) | (go_simp; intro h; omega)
  | 10, _, hs, ho, hop, hds, hdep, hK =>
    have hop : o.op = .load 3 (.tmp 19) := Option.some.inj hop
    obtain ⟨u19, hu19, hv19⟩ := hdep 9 (by decide)
    have hv19' : u19 = .pointer (some ⟨gb, 2, none⟩) := hv19
    subst hv19'
    have e19 : a.eval (.tmp 19) = _ := ev_tmp hu19
    refine st3 ho hwt (v := .int .i64 x.gr) (w' := w) ?_ (hK _ w rfl (Below.refl _ _))
    have k2 : w.cell? ⟨gb, 2, none⟩ = some (.int .i64 x.gr) := (hB.below hbl hB.lt).cell rfl
    unfold execOp
    simp only [hop, Option.map_some, Option.map_none, e19]
    first | rfl | (go_simp; done) | (go_simp; simp; done) | (go_simp; intro h; omega)
  | 11, _, hs, ho, hop, hds, hdep, hK =>
    have hop : o.op = .call { callee := .value (.func 56), args := #[.tmp 20], argTypes := #[3] } := Option.some.inj hop
    obtain ⟨u20, hu20, hv20⟩ := hdep 10 (by decide)
    have hv20' : u20 = .int .i64 x.gr := hv20
    subst hv20'
    have e20 : a.eval (.tmp 20) = _ := ev_tmp hu20
    refine st3_call ho hwt (f := 56) (vals := #[.int .i64 x.gr]) (Z := fun v w' => BV w' v (ib x.gr) ∧ Below w.heap.size w w') ?_ ?_ ?_
    · unfold execOp
      simp only [hop, e20, resolve, invoke, Sem.run_bind, Sem.run_pure, Result.andThen_ok, List.map_toArray, List.map_cons, List.map_nil]
      first | rfl | exact enters_of Tryz.func56 (by kernel_rfl) rfl _ _
    · exact (rnum_any x.gr w).mono fun e w' ⟨v, he, hN⟩ => ⟨v, he, BV.ofNew hN, hN.2⟩
    · rintro v w' ⟨h1, h2⟩
      exact hK v w' h1 h2
  | 12, _, hs, ho, hop, hds, hdep, hK =>
    have hop : o.op = .fieldAddr 25 (.tmp 1) 3 := Option.some.inj hop
    have hu1 : a.tmps[1]? = some (.pointer (some ⟨gb, 0, none⟩)) := (hbase.2.2 1 (by decide)).trans x1
    have e1 : a.eval (.tmp 1) = _ := ev_tmp hu1
    refine st3 ho hwt (v := .pointer (some ⟨gb, 3, none⟩)) (w' := w) ?_ (hK _ w rfl (Below.refl _ _))
    unfold execOp
    simp only [hop, Option.map_some, Option.map_none, e1]
    first | rfl | (go_simp; done) | (go_simp; simp; done) | (go_simp; intro h; omega)
  | 13, _, hs, ho, hop, hds, hdep, hK =>
    have hop : o.op = .load 3 (.tmp 22) := Option.some.inj hop
    obtain ⟨u22, hu22, hv22⟩ := hdep 12 (by decide)
    have hv22' : u22 = .pointer (some ⟨gb, 3, none⟩) := hv22
    subst hv22'
    have e22 : a.eval (.tmp 22) = _ := ev_tmp hu22
    refine st3 ho hwt (v := .int .i64 x.ep) (w' := w) ?_ (hK _ w rfl (Below.refl _ _))
    have k3 : w.cell? ⟨gb, 3, none⟩ = some (.int .i64 x.ep) := (hB.below hbl hB.lt).cell rfl
    unfold execOp
    simp only [hop, Option.map_some, Option.map_none, e22]
    first | rfl | (go_simp; done) | (go_simp; simp; done) | (go_simp; intro h; omega)
  | 14, _, hs, ho, hop, hds, hdep, hK =>
    have hop : o.op = .call { callee := .value (.func 56), args := #[.tmp 23], argTypes := #[3] } := Option.some.inj hop
    obtain ⟨u23, hu23, hv23⟩ := hdep 13 (by decide)
    have hv23' : u23 = .int .i64 x.ep := hv23
    subst hv23'
    have e23 : a.eval (.tmp 23) = _ := ev_tmp hu23
    refine st3_call ho hwt (f := 56) (vals := #[.int .i64 x.ep]) (Z := fun v w' => BV w' v (ib x.ep) ∧ Below w.heap.size w w') ?_ ?_ ?_
    · unfold execOp
      simp only [hop, e23, resolve, invoke, Sem.run_bind, Sem.run_pure, Result.andThen_ok, List.map_toArray, List.map_cons, List.map_nil]
      first | rfl | exact enters_of Tryz.func56 (by kernel_rfl) rfl _ _
    · exact (rnum_any x.ep w).mono fun e w' ⟨v, he, hN⟩ => ⟨v, he, BV.ofNew hN, hN.2⟩
    · rintro v w' ⟨h1, h2⟩
      exact hK v w' h1 h2
  | 15, _, hs, ho, hop, hds, hdep, hK =>
    have hop : o.op = .fieldAddr 25 (.tmp 1) 5 := Option.some.inj hop
    have hu1 : a.tmps[1]? = some (.pointer (some ⟨gb, 0, none⟩)) := (hbase.2.2 1 (by decide)).trans x1
    have e1 : a.eval (.tmp 1) = _ := ev_tmp hu1
    refine st3 ho hwt (v := .pointer (some ⟨gb, 5, none⟩)) (w' := w) ?_ (hK _ w rfl (Below.refl _ _))
    unfold execOp
    simp only [hop, Option.map_some, Option.map_none, e1]
    first | rfl | (go_simp; done) | (go_simp; simp; done) | (go_simp; intro h; omega)
  | 16, _, hs, ho, hop, hds, hdep, hK =>
    have hop : o.op = .load 3 (.tmp 25) := Option.some.inj hop
    obtain ⟨u25, hu25, hv25⟩ := hdep 15 (by decide)
    have hv25' : u25 = .pointer (some ⟨gb, 5, none⟩) := hv25
    subst hv25'
    have e25 : a.eval (.tmp 25) = _ := ev_tmp hu25
    refine st3 ho hwt (v := .int .i64 x.bl) (w' := w) ?_ (hK _ w rfl (Below.refl _ _))
    have k5 : w.cell? ⟨gb, 5, none⟩ = some (.int .i64 x.bl) := (hB.below hbl hB.lt).cell rfl
    unfold execOp
    simp only [hop, Option.map_some, Option.map_none, e25]
    first | rfl | (go_simp; done) | (go_simp; simp; done) | (go_simp; intro h; omega)
  | 17, _, hs, ho, hop, hds, hdep, hK =>
    have hop : o.op = .call { callee := .value (.func 56), args := #[.tmp 26], argTypes := #[3] } := Option.some.inj hop
    obtain ⟨u26, hu26, hv26⟩ := hdep 16 (by decide)
    have hv26' : u26 = .int .i64 x.bl := hv26
    subst hv26'
    have e26 : a.eval (.tmp 26) = _ := ev_tmp hu26
    refine st3_call ho hwt (f := 56) (vals := #[.int .i64 x.bl]) (Z := fun v w' => BV w' v (ib x.bl) ∧ Below w.heap.size w w') ?_ ?_ ?_
    · unfold execOp
      simp only [hop, e26, resolve, invoke, Sem.run_bind, Sem.run_pure, Result.andThen_ok, List.map_toArray, List.map_cons, List.map_nil]
      first | rfl | exact enters_of Tryz.func56 (by kernel_rfl) rfl _ _
    · exact (rnum_any x.bl w).mono fun e w' ⟨v, he, hN⟩ => ⟨v, he, BV.ofNew hN, hN.2⟩
    · rintro v w' ⟨h1, h2⟩
      exact hK v w' h1 h2
  | 18, _, hs, ho, hop, hds, hdep, hK =>
    have hop : o.op = .buildSlice 61 6 #[(0, .tmp 12), (1, .tmp 15), (2, .tmp 18), (3, .tmp 21), (4, .tmp 24), (5, .tmp 27)] := Option.some.inj hop
    obtain ⟨u12, hu12, hv12⟩ := hdep 2 (by decide)
    have hv12' : BV w u12 (ib x.kd) := hv12
    have e12 : a.eval (.tmp 12) = _ := ev_tmp hu12
    obtain ⟨u15, hu15, hv15⟩ := hdep 5 (by decide)
    have hv15' : BV w u15 (ib x.cl) := hv15
    have e15 : a.eval (.tmp 15) = _ := ev_tmp hu15
    obtain ⟨u18, hu18, hv18⟩ := hdep 8 (by decide)
    have hv18' : BV w u18 (ib x.sp) := hv18
    have e18 : a.eval (.tmp 18) = _ := ev_tmp hu18
    obtain ⟨u21, hu21, hv21⟩ := hdep 11 (by decide)
    have hv21' : BV w u21 (ib x.gr) := hv21
    have e21 : a.eval (.tmp 21) = _ := ev_tmp hu21
    obtain ⟨u24, hu24, hv24⟩ := hdep 14 (by decide)
    have hv24' : BV w u24 (ib x.ep) := hv24
    have e24 : a.eval (.tmp 24) = _ := ev_tmp hu24
    obtain ⟨u27, hu27, hv27⟩ := hdep 17 (by decide)
    have hv27' : BV w u27 (ib x.bl) := hv27
    have e27 : a.eval (.tmp 27) = _ := ev_tmp hu27
    obtain ⟨A0, c0, rfl, hA0⟩ := hv12'
    obtain ⟨A1, c1, rfl, hA1⟩ := hv15'
    obtain ⟨A2, c2, rfl, hA2⟩ := hv18'
    obtain ⟨A3, c3, rfl, hA3⟩ := hv21'
    obtain ⟨A4, c4, rfl, hA4⟩ := hv24'
    obtain ⟨A5, c5, rfl, hA5⟩ := hv27'
    have hrun : ∀ n0 n1 n2 n3 n4 n5 : Nat, (Instr.buildSlice 61 6 #[(0, .slice A0 n0 c0), (1, .slice A1 n1 c1), (2, .slice A2 n2 c2), (3, .slice A3 n3 c3), (4, .slice A4 n4 c4), (5, .slice A5 n5 c5)]).run Tryz.prog w = .ok (.slice (some ⟨w.heap.size, 0, none⟩) 6 6) (w.alloc (.cells #[.slice A0 n0 c0, .slice A1 n1 c1, .slice A2 n2 c2, .slice A3 n3 c3, .slice A4 n4 c4, .slice A5 n5 c5] 22)) := fun n0 n1 n2 n3 n4 n5 => by kernel_rfl
    refine st3 ho hwt (v := .slice (some ⟨w.heap.size, 0, none⟩) 6 6) (w' := w.alloc (.cells #[.slice A0 _ c0, .slice A1 _ c1, .slice A2 _ c2, .slice A3 _ c3, .slice A4 _ c4, .slice A5 _ c5] 22)) ?_ (hK _ _ ⟨_, rfl, bss6 hA0.2 hA1.2 hA2.2 hA3.2 hA4.2 hA5.2⟩ ((Below.refl _ _).alloc (Nat.le_refl _) _))
    unfold execOp
    simp only [hop, List.map_toArray, List.map_cons, List.map_nil, e12, e15, e18, e21, e24, e27, Sem.run_bind, hrun, Result.andThen_ok]
    rfl
  | 19, _, hs, ho, hop, hds, hdep, hK =>
    have hop : o.op = .call { callee := .value (.func 55), args := #[.tmp 28], argTypes := #[61] } := Option.some.inj hop
    obtain ⟨u28, hu28, hv28⟩ := hdep 18 (by decide)
    have hv28' : BssV w u28 6 [ib x.kd, ib x.cl, ib x.sp, ib x.gr, ib x.ep, ib x.bl] := hv28
    have e28 : a.eval (.tmp 28) = _ := ev_tmp hu28
    obtain ⟨A, rfl, hA⟩ := hv28'
    refine st3_call ho hwt (f := 55) (vals := #[.slice A 6 6]) (Z := fun v w' => MineV w' base v (ibs [x.kd, x.cl, x.sp, x.gr, x.ep, x.bl]) ∧ Below w.heap.size w w') ?_ ?_ ?_
    · unfold execOp
      simp only [hop, e28, resolve, invoke, Sem.run_bind, Sem.run_pure, Result.andThen_ok, List.map_toArray, List.map_cons, List.map_nil]
      first | rfl | exact enters_of Tryz.func55 (by kernel_rfl) rfl _ _
    · exact (refJoin_any A 6 6 _ w hA rfl (by omega) (flat6_small hm)).mono fun e w' ⟨v, he, hN⟩ => ⟨v, he, Mine.base hN.1 (Nat.le_trans hb0 hbl.size), hN.2⟩
    · rintro v w' ⟨h1, h2⟩
      exact hK v w' h1 h2
  | 20, _, hs, ho, hop, hds, hdep, hK =>
    have hop : o.op = .assign (.tmp 29) := Option.some.inj hop
    obtain ⟨u29, hu29, hv29⟩ := hdep 19 (by decide)
    have hv29' : MineV w base u29 (ibs [x.kd, x.cl, x.sp, x.gr, x.ep, x.bl]) := hv29
    have e29 : a.eval (.tmp 29) = _ := ev_tmp hu29
    refine st3 ho hwt (v := _) (w' := w) ?_ (hK _ w hv29 (Below.refl _ _))
    unfold execOp
    rw [hop, ← e29]
    rfl
  | i + 21, hi, _, _, _, _, _, _ => exact absurd hi (by omega)

def b4R (gb base : Nat) (x : Wl) (Dx : Option Addr) (ndx cdx : Nat) (Nx : Option Addr) (nnx cnx : Nat) (Ah : Option Addr) (ch : Nat) (l4 : List UInt8) : Nat → Value → World → Prop
  | 0 => fun v w => v = .slice Ah l4.length ch
  | 1 => fun v w => v = .pointer (some ⟨gb, 6, none⟩)
  | 2 => fun v w => v = .slice Dx ndx cdx
  | 3 => fun v w => BV w v (sb x.da)
  | 4 => fun v w => v = .pointer (some ⟨gb, 7, none⟩)
  | 5 => fun v w => v = .int .i64 x.od
  | 6 => fun v w => BV w v (ib x.od)
  | 7 => fun v w => v = .pointer (some ⟨gb, 8, none⟩)
  | 8 => fun v w => v = .int .i64 x.nw
  | 9 => fun v w => BV w v (ib x.nw)
  | 10 => fun v w => v = .pointer (some ⟨gb, 9, none⟩)
  | 11 => fun v w => v = .slice Nx nnx cnx
  | 12 => fun v w => v = .int .i64 nnx
  | 13 => fun v w => BV w v (ib (nnx : Int))
  | 14 => fun v w => BssV w v 5 [l4, sb x.da, ib x.od, ib x.nw, ib (nnx : Int)]
  | 15 => fun v w => MineV w base v (l4 ++ (sb x.da ++ ibs [x.od, x.nw, (nnx : Int)]))
  | 16 => fun v w => MineV w base v (l4 ++ (sb x.da ++ ibs [x.od, x.nw, (nnx : Int)]))
  | _ => fun _ _ => True

def b4D (i : Nat) : Nat := ([30, 31, 32, 33, 34, 35, 36, 37, 38, 39, 40, 41, 42, 43, 44, 45, 5] : List Nat).getD i 0

def b4G : Nat → Option Bool
  | _ => none

def b4S (i : Nat) : Bool := ([] : List Nat).contains i

theorem b4_gb (gb base : Nat) (x : Wl) (Dx : Option Addr) (ndx cdx : Nat) (Nx : Option Addr) (nnx cnx : Nat) (Ah : Option Addr) (ch : Nat) (l4 : List UInt8) : ∀ i b v w, b4G i = some b → b4R gb base x Dx ndx cdx Nx nnx cnx Ah ch l4 i v w → v = .bool b := by
  intro i b v w h hR
  unfold b4G at h
  split at h
  all_goals first | (injection h with h; subst h; exact hR) | cases h

theorem b4_sk (gb base : Nat) (x : Wl) (Dx : Option Addr) (ndx cdx : Nat) (Nx : Option Addr) (nnx cnx : Nat) (Ah : Option Addr) (ch : Nat) (l4 : List UInt8) : ∀ i w, b4S i = true → b4R gb base x Dx ndx cdx Nx nnx cnx Ah ch l4 i undef w := by
  intro i w h
  simp [b4S] at h

theorem b4_on (gb base : Nat) (x : Wl) (Dx : Option Addr) (ndx cdx : Nat) (Nx : Option Addr) (nnx cnx : Nat) (Ah : Option Addr) (ch : Nat) (l4 : List UInt8) : ∀ i v w w', b4R gb base x Dx ndx cdx Nx nnx cnx Ah ch l4 i v w → Below w.heap.size w w' → b4R gb base x Dx ndx cdx Nx nnx cnx Ah ch l4 i v w'
  | 0, v, w, w', h, _ => h
  | 1, v, w, w', h, _ => h
  | 2, v, w, w', h, _ => h
  | 3, v, w, w', h, hb => BV.on (show BV w v (sb x.da) from h) hb
  | 4, v, w, w', h, _ => h
  | 5, v, w, w', h, _ => h
  | 6, v, w, w', h, hb => BV.on (show BV w v (ib x.od) from h) hb
  | 7, v, w, w', h, _ => h
  | 8, v, w, w', h, _ => h
  | 9, v, w, w', h, hb => BV.on (show BV w v (ib x.nw) from h) hb
  | 10, v, w, w', h, _ => h
  | 11, v, w, w', h, _ => h
  | 12, v, w, w', h, _ => h
  | 13, v, w, w', h, hb => BV.on (show BV w v (ib (nnx : Int)) from h) hb
  | 14, v, w, w', h, hb => BssV.on (show BssV w v 5 [l4, sb x.da, ib x.od, ib x.nw, ib (nnx : Int)] from h) hb
  | 15, v, w, w', h, hb => MineV.on (show MineV w base v (l4 ++ (sb x.da ++ ibs [x.od, x.nw, (nnx : Int)])) from h) hb
  | 16, v, w, w', h, hb => MineV.on (show MineV w base v (l4 ++ (sb x.da ++ ibs [x.od, x.nw, (nnx : Int)])) from h) hb
  | i + 17, v, w, w', h, hb => trivial

def b4Ops : List Op := [.move (.tmp 4),
  .fieldAddr 25 (.tmp 1) 6,
  .load 22 (.tmp 31),
  .call { callee := .value (.func 57), args := #[.tmp 32], argTypes := #[22] },
  .fieldAddr 25 (.tmp 1) 7,
  .load 3 (.tmp 34),
  .call { callee := .value (.func 56), args := #[.tmp 35], argTypes := #[3] },
  .fieldAddr 25 (.tmp 1) 8,
  .load 3 (.tmp 37),
  .call { callee := .value (.func 56), args := #[.tmp 38], argTypes := #[3] },
  .fieldAddr 25 (.tmp 1) 9,
  .load 23 (.tmp 40),
  .call { callee := .builtin .len, args := #[.tmp 41], argTypes := #[23] },
  .call { callee := .value (.func 56), args := #[.tmp 42], argTypes := #[3] },
  .buildSlice 61 5 #[(0, .tmp 30), (1, .tmp 33), (2, .tmp 36), (3, .tmp 39), (4, .tmp 43)],
  .call { callee := .value (.func 55), args := #[.tmp 44], argTypes := #[61] },
  .assign (.tmp 45)]

def b4Needs : Nat → List Nat
  | 0 => []
  | 1 => []
  | 2 => [1]
  | 3 => [2]
  | 4 => []
  | 5 => [4]
  | 6 => [5]
  | 7 => []
  | 8 => [7]
  | 9 => [8]
  | 10 => []
  | 11 => [10]
  | 12 => [11]
  | 13 => [12]
  | 14 => [0, 3, 6, 9, 13]
  | 15 => [14]
  | 16 => [15]
  | _ => []

set_option maxRecDepth 100000 in
set_option maxHeartbeats 3200000 in
theorem b4_step {ops : Array Oper} {Q : Exit → Act → World → Prop} {a0 : Act} {w0 : World} (gb base : Nat) (x : Wl) (Dx : Option Addr) (ndx cdx : Nat) (Nx : Option Addr) (nnx cnx : Nat) (Ah : Option Addr) (ch : Nat) (l4 : List UInt8) (hops : ((List.range 17).map fun i => (ops[i]?).map Oper.op) = b4Ops.map some)
    (hnd : ((List.range 17).all fun i => (b4Needs i).all fun j => ((ops[i]?).map fun o => o.after.any fun e => Region.binds .any e && (e.on == j)).getD false) = true)
    (x1 : a0.tmps[1]? = some (.pointer (some ⟨gb, 0, none⟩)))
    (hB : Blk w0 gb 25 [.int .i64 x.cl, .int .i64 x.sp, .int .i64 x.gr, .int .i64 x.ep, .int .i64 x.kd, .int .i64 x.bl, .slice Dx ndx cdx, .int .i64 x.od, .int .i64 x.nw, .slice Nx nnx cnx]) (hW : ArgW w0 x Dx ndx cdx Nx nnx cnx) (hm : May x) (hb0 : base ≤ w0.heap.size) (x4 : a0.tmps[4]? = some (.slice Ah l4.length ch)) (hl4 : Bs w0 Ah l4) (hsm : [l4, sb x.da, ib x.od, ib x.nw, ib (nnx : Int)].flatten.length ≤ 140737488355328) :
    ∀ i o, i < 17 → b4S i = false → ops[i]? = some o → o.dst = some (b4D i) → ∀ a w, Base b4D 17 a0 a → Below w0.heap.size w0 w → Region.wanted o (yielded ops a.tmps) = true →
      (∀ j, (o.after.any fun e => Region.binds .any e && (e.on == j)) = true → Has b4D (b4R gb base x Dx ndx cdx Nx nnx cnx Ah ch l4) j a w) →
      ∀ K : Act → World → Prop, (∀ v w', b4R gb base x Dx ndx cdx Nx nnx cnx Ah ch l4 i v w' → Below w.heap.size w w' → K (a.put o.dst v) w') → wpOp Tryz.prog ops Q i K a w := by
  intro i o hi hs ho hds a w hbase hbl hwt hdep0 K hK
  have hop : some o.op = b4Ops[i]? := by
    have h1 : ((List.range 17).map fun i => (ops[i]?).map Oper.op)[i]? = some (some o.op) := by
      rw [List.getElem?_map, List.getElem?_range hi]; simp only [Option.map_some, ho]
    rw [hops, List.getElem?_map] at h1
    cases h2 : b4Ops[i]? with
    | none => rw [h2] at h1; cases h1
    | some y => rw [h2] at h1; simp only [Option.map_some, Option.some.injEq] at h1; rw [h1]
  have hdep : ∀ j, j ∈ b4Needs i → Has b4D (b4R gb base x Dx ndx cdx Nx nnx cnx Ah ch l4) j a w := fun j hj => by
    have h1 := List.all_eq_true.1 (List.all_eq_true.1 hnd i (List.mem_range.2 hi)) j hj
    rw [ho] at h1
    exact hdep0 j h1
  clear hdep0 hops hnd
  match i, hi, hs, ho, hop, hds, hdep, hK with
  | 0, _, hs, ho, hop, hds, hdep, hK =>
    have hop : o.op = .move (.tmp 4) := Option.some.inj hop
    have hu4 : a.tmps[4]? = some (.slice Ah l4.length ch) := (hbase.2.2 4 (by decide)).trans x4
    have e4 : a.eval (.tmp 4) = _ := ev_tmp hu4
    refine st3 ho hwt (v := _) (w' := w) ?_ (hK _ w rfl (Below.refl _ _))
    unfold execOp
    rw [hop, ← e4]
    rfl
  | 1, _, hs, ho, hop, hds, hdep, hK =>
    have hop : o.op = .fieldAddr 25 (.tmp 1) 6 := Option.some.inj hop
    have hu1 : a.tmps[1]? = some (.pointer (some ⟨gb, 0, none⟩)) := (hbase.2.2 1 (by decide)).trans x1
    have e1 : a.eval (.tmp 1) = _ := ev_tmp hu1
    refine st3 ho hwt (v := .pointer (some ⟨gb, 6, none⟩)) (w' := w) ?_ (hK _ w rfl (Below.refl _ _))
    unfold execOp
    simp only [hop, Option.map_some, Option.map_none, e1]
    first | rfl | (go_simp; done) | (go_simp; simp; done) | (go_simp; intro h; omega)
  | 2, _, hs, ho, hop, hds, hdep, hK =>
    have hop : o.op = .load 22 (.tmp 31) := Option.some.inj hop
    obtain ⟨u31, hu31, hv31⟩ := hdep 1 (by decide)
    have hv31' : u31 = .pointer (some ⟨gb, 6, none⟩) := hv31
    subst hv31'
    have e31 : a.eval (.tmp 31) = _ := ev_tmp hu31
    refine st3 ho hwt (v := .slice Dx ndx cdx) (w' := w) ?_ (hK _ w rfl (Below.refl _ _))
    have k6 : w.cell? ⟨gb, 6, none⟩ = some (.slice Dx ndx cdx) := (hB.below hbl hB.lt).cell rfl
    unfold execOp
    simp only [hop, Option.map_some, Option.map_none, e31]
    first | rfl | (go_simp; done) | (go_simp; simp; done) | (go_simp; intro h; omega)
  | 3, _, hs, ho, hop, hds, hdep, hK =>
    have hop : o.op = .call { callee := .value (.func 57), args := #[.tmp 32], argTypes := #[22] } := Option.some.inj hop
    obtain ⟨u32, hu32, hv32⟩ := hdep 2 (by decide)
    have hv32' : u32 = .slice Dx ndx cdx := hv32
    subst hv32'
    have e32 : a.eval (.tmp 32) = _ := ev_tmp hu32
    refine st3_call ho hwt (f := 57) (vals := #[.slice Dx ndx cdx]) (Z := fun v w' => BV w' v (sb x.da) ∧ Below w.heap.size w w') ?_ ?_ ?_
    · unfold execOp
      simp only [hop, e32, resolve, invoke, Sem.run_bind, Sem.run_pure, Result.andThen_ok, List.map_toArray, List.map_cons, List.map_nil]
      first | rfl | exact enters_of Tryz.func57 (by kernel_rfl) rfl _ _
    · exact (rstr_any Dx cdx ndx x.da w (hW.1.2.2.2.1.after hbl) hW.1.1 (by have := hW.1.2.2.2.2; unfold maxLen; omega)).mono fun e w' ⟨v, he, hN⟩ => ⟨v, he, BV.ofNew hN, hN.2⟩
    · rintro v w' ⟨h1, h2⟩
      exact hK v w' h1 h2
  | 4, _, hs, ho, hop, hds, hdep, hK =>
    have hop : o.op = .fieldAddr 25 (.tmp 1) 7 := Option.some.inj hop
    have hu1 : a.tmps[1]? = some (.pointer (some ⟨gb, 0, none⟩)) := (hbase.2.2 1 (by decide)).trans x1
    have e1 : a.eval (.tmp 1) = _ := ev_tmp hu1
    refine st3 ho hwt (v := .pointer (some ⟨gb, 7, none⟩)) (w' := w) ?_ (hK _ w rfl (Below.refl _ _))
    unfold execOp
    simp only [hop, Option.map_some, Option.map_none, e1]
    first | rfl | (go_simp; done) | (go_simp; simp; done) | (go_simp; intro h; omega)
  | 5, _, hs, ho, hop, hds, hdep, hK =>
    have hop : o.op = .load 3 (.tmp 34) := Option.some.inj hop
    obtain ⟨u34, hu34, hv34⟩ := hdep 4 (by decide)
    have hv34' : u34 = .pointer (some ⟨gb, 7, none⟩) := hv34
    subst hv34'
    have e34 : a.eval (.tmp 34) = _ := ev_tmp hu34
    refine st3 ho hwt (v := .int .i64 x.od) (w' := w) ?_ (hK _ w rfl (Below.refl _ _))
    have k7 : w.cell? ⟨gb, 7, none⟩ = some (.int .i64 x.od) := (hB.below hbl hB.lt).cell rfl
    unfold execOp
    simp only [hop, Option.map_some, Option.map_none, e34]
    first | rfl | (go_simp; done) | (go_simp; simp; done) | (go_simp; intro h; omega)
  | 6, _, hs, ho, hop, hds, hdep, hK =>
    have hop : o.op = .call { callee := .value (.func 56), args := #[.tmp 35], argTypes := #[3] } := Option.some.inj hop
    obtain ⟨u35, hu35, hv35⟩ := hdep 5 (by decide)
    have hv35' : u35 = .int .i64 x.od := hv35
    subst hv35'
    have e35 : a.eval (.tmp 35) = _ := ev_tmp hu35
    refine st3_call ho hwt (f := 56) (vals := #[.int .i64 x.od]) (Z := fun v w' => BV w' v (ib x.od) ∧ Below w.heap.size w w') ?_ ?_ ?_
    · unfold execOp
      simp only [hop, e35, resolve, invoke, Sem.run_bind, Sem.run_pure, Result.andThen_ok, List.map_toArray, List.map_cons, List.map_nil]
      first | rfl | exact enters_of Tryz.func56 (by kernel_rfl) rfl _ _
    · exact (rnum_any x.od w).mono fun e w' ⟨v, he, hN⟩ => ⟨v, he, BV.ofNew hN, hN.2⟩
    · rintro v w' ⟨h1, h2⟩
      exact hK v w' h1 h2
  | 7, _, hs, ho, hop, hds, hdep, hK =>
    have hop : o.op = .fieldAddr 25 (.tmp 1) 8 := Option.some.inj hop
    have hu1 : a.tmps[1]? = some (.pointer (some ⟨gb, 0, none⟩)) := (hbase.2.2 1 (by decide)).trans x1
    have e1 : a.eval (.tmp 1) = _ := ev_tmp hu1
    refine st3 ho hwt (v := .pointer (some ⟨gb, 8, none⟩)) (w' := w) ?_ (hK _ w rfl (Below.refl _ _))
    unfold execOp
    simp only [hop, Option.map_some, Option.map_none, e1]
    first | rfl | (go_simp; done) | (go_simp; simp; done) | (go_simp; intro h; omega)
  | 8, _, hs, ho, hop, hds, hdep, hK =>
    have hop : o.op = .load 3 (.tmp 37) := Option.some.inj hop
    obtain ⟨u37, hu37, hv37⟩ := hdep 7 (by decide)
    have hv37' : u37 = .pointer (some ⟨gb, 8, none⟩) := hv37
    subst hv37'
    have e37 : a.eval (.tmp 37) = _ := ev_tmp hu37
    refine st3 ho hwt (v := .int .i64 x.nw) (w' := w) ?_ (hK _ w rfl (Below.refl _ _))
    have k8 : w.cell? ⟨gb, 8, none⟩ = some (.int .i64 x.nw) := (hB.below hbl hB.lt).cell rfl
    unfold execOp
    simp only [hop, Option.map_some, Option.map_none, e37]
    first | rfl | (go_simp; done) | (go_simp; simp; done) | (go_simp; intro h; omega)
  | 9, _, hs, ho, hop, hds, hdep, hK =>
    have hop : o.op = .call { callee := .value (.func 56), args := #[.tmp 38], argTypes := #[3] } := Option.some.inj hop
    obtain ⟨u38, hu38, hv38⟩ := hdep 8 (by decide)
    have hv38' : u38 = .int .i64 x.nw := hv38
    subst hv38'
    have e38 : a.eval (.tmp 38) = _ := ev_tmp hu38
    refine st3_call ho hwt (f := 56) (vals := #[.int .i64 x.nw]) (Z := fun v w' => BV w' v (ib x.nw) ∧ Below w.heap.size w w') ?_ ?_ ?_
    · unfold execOp
      simp only [hop, e38, resolve, invoke, Sem.run_bind, Sem.run_pure, Result.andThen_ok, List.map_toArray, List.map_cons, List.map_nil]
      first | rfl | exact enters_of Tryz.func56 (by kernel_rfl) rfl _ _
    · exact (rnum_any x.nw w).mono fun e w' ⟨v, he, hN⟩ => ⟨v, he, BV.ofNew hN, hN.2⟩
    · rintro v w' ⟨h1, h2⟩
      exact hK v w' h1 h2
  | 10, _, hs, ho, hop, hds, hdep, hK =>
    have hop : o.op = .fieldAddr 25 (.tmp 1) 9 := Option.some.inj hop
    have hu1 : a.tmps[1]? = some (.pointer (some ⟨gb, 0, none⟩)) := (hbase.2.2 1 (by decide)).trans x1
    have e1 : a.eval (.tmp 1) = _ := ev_tmp hu1
    refine st3 ho hwt (v := .pointer (some ⟨gb, 9, none⟩)) (w' := w) ?_ (hK _ w rfl (Below.refl _ _))
    unfold execOp
    simp only [hop, Option.map_some, Option.map_none, e1]
    first | rfl | (go_simp; done) | (go_simp; simp; done) | (go_simp; intro h; omega)
  | 11, _, hs, ho, hop, hds, hdep, hK =>
    have hop : o.op = .load 23 (.tmp 40) := Option.some.inj hop
    obtain ⟨u40, hu40, hv40⟩ := hdep 10 (by decide)
    have hv40' : u40 = .pointer (some ⟨gb, 9, none⟩) := hv40
    subst hv40'
    have e40 : a.eval (.tmp 40) = _ := ev_tmp hu40
    refine st3 ho hwt (v := .slice Nx nnx cnx) (w' := w) ?_ (hK _ w rfl (Below.refl _ _))
    have k9 : w.cell? ⟨gb, 9, none⟩ = some (.slice Nx nnx cnx) := (hB.below hbl hB.lt).cell rfl
    unfold execOp
    simp only [hop, Option.map_some, Option.map_none, e40]
    first | rfl | (go_simp; done) | (go_simp; simp; done) | (go_simp; intro h; omega)
  | 12, _, hs, ho, hop, hds, hdep, hK =>
    have hop : o.op = .call { callee := .builtin .len, args := #[.tmp 41], argTypes := #[23] } := Option.some.inj hop
    obtain ⟨u41, hu41, hv41⟩ := hdep 11 (by decide)
    have hv41' : u41 = .slice Nx nnx cnx := hv41
    subst hv41'
    have e41 : a.eval (.tmp 41) = _ := ev_tmp hu41
    refine st3 ho hwt (v := .int .i64 nnx) (w' := w) ?_ (hK _ w rfl (Below.refl _ _))
    unfold execOp
    simp only [hop, resolve, invoke, builtin, Sem.run_bind, Sem.run_pure, Result.andThen_ok, List.map_toArray, List.map_cons, List.map_nil, e41]
    first | rfl | (go_simp; done) | (go_simp; simp; done) | (go_simp; intro h; omega)
  | 13, _, hs, ho, hop, hds, hdep, hK =>
    have hop : o.op = .call { callee := .value (.func 56), args := #[.tmp 42], argTypes := #[3] } := Option.some.inj hop
    obtain ⟨u42, hu42, hv42⟩ := hdep 12 (by decide)
    have hv42' : u42 = .int .i64 nnx := hv42
    subst hv42'
    have e42 : a.eval (.tmp 42) = _ := ev_tmp hu42
    refine st3_call ho hwt (f := 56) (vals := #[.int .i64 (nnx : Int)]) (Z := fun v w' => BV w' v (ib (nnx : Int)) ∧ Below w.heap.size w w') ?_ ?_ ?_
    · unfold execOp
      simp only [hop, e42, resolve, invoke, Sem.run_bind, Sem.run_pure, Result.andThen_ok, List.map_toArray, List.map_cons, List.map_nil]
      first | rfl | exact enters_of Tryz.func56 (by kernel_rfl) rfl _ _
    · exact (rnum_any (nnx : Int) w).mono fun e w' ⟨v, he, hN⟩ => ⟨v, he, BV.ofNew hN, hN.2⟩
    · rintro v w' ⟨h1, h2⟩
      exact hK v w' h1 h2
  | 14, _, hs, ho, hop, hds, hdep, hK =>
    have hop : o.op = .buildSlice 61 5 #[(0, .tmp 30), (1, .tmp 33), (2, .tmp 36), (3, .tmp 39), (4, .tmp 43)] := Option.some.inj hop
    obtain ⟨u30, hu30, hv30⟩ := hdep 0 (by decide)
    have hv30' : u30 = .slice Ah l4.length ch := hv30
    subst hv30'
    have e30 : a.eval (.tmp 30) = _ := ev_tmp hu30
    obtain ⟨u33, hu33, hv33⟩ := hdep 3 (by decide)
    have hv33' : BV w u33 (sb x.da) := hv33
    have e33 : a.eval (.tmp 33) = _ := ev_tmp hu33
    obtain ⟨u36, hu36, hv36⟩ := hdep 6 (by decide)
    have hv36' : BV w u36 (ib x.od) := hv36
    have e36 : a.eval (.tmp 36) = _ := ev_tmp hu36
    obtain ⟨u39, hu39, hv39⟩ := hdep 9 (by decide)
    have hv39' : BV w u39 (ib x.nw) := hv39
    have e39 : a.eval (.tmp 39) = _ := ev_tmp hu39
    obtain ⟨u43, hu43, hv43⟩ := hdep 13 (by decide)
    have hv43' : BV w u43 (ib (nnx : Int)) := hv43
    have e43 : a.eval (.tmp 43) = _ := ev_tmp hu43
    obtain ⟨A1, c1, rfl, hA1⟩ := hv33'
    obtain ⟨A2, c2, rfl, hA2⟩ := hv36'
    obtain ⟨A3, c3, rfl, hA3⟩ := hv39'
    obtain ⟨A4, c4, rfl, hA4⟩ := hv43'
    have hrun : ∀ n1 n2 n3 n4 : Nat, (Instr.buildSlice 61 5 #[(0, .slice Ah l4.length ch), (1, .slice A1 n1 c1), (2, .slice A2 n2 c2), (3, .slice A3 n3 c3), (4, .slice A4 n4 c4)]).run Tryz.prog w = .ok (.slice (some ⟨w.heap.size, 0, none⟩) 5 5) (w.alloc (.cells #[.slice Ah l4.length ch, .slice A1 n1 c1, .slice A2 n2 c2, .slice A3 n3 c3, .slice A4 n4 c4] 22)) := fun n1 n2 n3 n4 => by kernel_rfl
    refine st3 ho hwt (v := .slice (some ⟨w.heap.size, 0, none⟩) 5 5) (w' := w.alloc (.cells #[.slice Ah l4.length ch, .slice A1 _ c1, .slice A2 _ c2, .slice A3 _ c3, .slice A4 _ c4] 22)) ?_ (hK _ _ ⟨_, rfl, bss5 (hl4.after hbl) hA1.2 hA2.2 hA3.2 hA4.2⟩ ((Below.refl _ _).alloc (Nat.le_refl _) _))
    unfold execOp
    simp only [hop, List.map_toArray, List.map_cons, List.map_nil, e30, e33, e36, e39, e43, Sem.run_bind, hrun, Result.andThen_ok]
    rfl
  | 15, _, hs, ho, hop, hds, hdep, hK =>
    have hop : o.op = .call { callee := .value (.func 55), args := #[.tmp 44], argTypes := #[61] } := Option.some.inj hop
    obtain ⟨u44, hu44, hv44⟩ := hdep 14 (by decide)
    have hv44' : BssV w u44 5 [l4, sb x.da, ib x.od, ib x.nw, ib (nnx : Int)] := hv44
    have e44 : a.eval (.tmp 44) = _ := ev_tmp hu44
    obtain ⟨A, rfl, hA⟩ := hv44'
    refine st3_call ho hwt (f := 55) (vals := #[.slice A 5 5]) (Z := fun v w' => MineV w' base v (l4 ++ (sb x.da ++ ibs [x.od, x.nw, (nnx : Int)])) ∧ Below w.heap.size w w') ?_ ?_ ?_
    · unfold execOp
      simp only [hop, e44, resolve, invoke, Sem.run_bind, Sem.run_pure, Result.andThen_ok, List.map_toArray, List.map_cons, List.map_nil]
      first | rfl | exact enters_of Tryz.func55 (by kernel_rfl) rfl _ _
    · exact (refJoin_any A 5 5 _ w hA rfl (by omega) hsm).mono fun e w' ⟨v, he, hN⟩ => ⟨v, he, by have h := Mine.base hN.1 (Nat.le_trans hb0 hbl.size); rw [flat5] at h; exact h, hN.2⟩
    · rintro v w' ⟨h1, h2⟩
      exact hK v w' h1 h2
  | 16, _, hs, ho, hop, hds, hdep, hK =>
    have hop : o.op = .assign (.tmp 45) := Option.some.inj hop
    obtain ⟨u45, hu45, hv45⟩ := hdep 15 (by decide)
    have hv45' : MineV w base u45 (l4 ++ (sb x.da ++ ibs [x.od, x.nw, (nnx : Int)])) := hv45
    have e45 : a.eval (.tmp 45) = _ := ev_tmp hu45
    refine st3 ho hwt (v := _) (w' := w) ?_ (hK _ w hv45 (Below.refl _ _))
    unfold execOp
    rw [hop, ← e45]
    rfl
  | i + 17, hi, _, _, _, _, _, _ => exact absurd hi (by omega)

theorem lit62 (a : Act) (h : a.tmps.size = 62) : ∃ f : Nat → Value, a = { tmps := #[f 0, f 1, f 2, f 3, f 4, f 5, f 6, f 7, f 8, f 9, f 10, f 11, f 12, f 13, f 14, f 15, f 16, f 17, f 18, f 19, f 20, f 21, f 22, f 23, f 24, f 25, f 26, f 27, f 28, f 29, f 30, f 31, f 32, f 33, f 34, f 35, f 36, f 37, f 38, f 39, f 40, f 41, f 42, f 43, f 44, f 45, f 46, f 47, f 48, f 49, f 50, f 51, f 52, f 53, f 54, f 55, f 56, f 57, f 58, f 59, f 60, f 61], defers := a.defers } ∧ ∀ i v, a.tmps[i]? = some v → f i = v := by
  refine ⟨fun i => a.tmps.getD i undef, ?_, fun i v hv => by simp only [Array.getD_eq_getD_getElem?, hv]; rfl⟩
  have e : a.tmps = ((List.range 62).map fun i => a.tmps.getD i undef).toArray := by
    apply Array.ext
    · simp [h]
    · intro i h1 h2
      simp [Array.getD_eq_getD_getElem?, h1]
  cases a with
  | mk t d =>
    simp only [Act.mk.injEq, and_true]
    exact e

theorem wb_split {x : Wl} {n : Nat} (h : x.nx.length = n) : (ibs [x.kd, x.cl, x.sp, x.gr, x.ep, x.bl] ++ (sb x.da ++ ibs [x.od, x.nw, (n : Int)])) ++ ibs x.nx = wb x := by
  subst h
  unfold wb
  simp only [List.append_assoc]

set_option maxRecDepth 100000 in
set_option maxHeartbeats 3200000 in
theorem rbytes_any (x : Wl) (Dx : Option Addr) (ndx cdx : Nat) (Nx : Option Addr) (nnx cnx : Nat) (w : World) (h : ArgW w x Dx ndx cdx Nx nnx cnx) : Calls Tryz.prog 30 #[.agg #[.int .i64 x.cl, .int .i64 x.sp, .int .i64 x.gr, .int .i64 x.ep, .int .i64 x.kd, .int .i64 x.bl, .slice Dx ndx cdx, .int .i64 x.od, .int .i64 x.nw, .slice Nx nnx cnx]] w (RetBE w (wbytes x)) := by
  have hx := Wx.new (w := w) (x := x) (D := Dx) (nd := ndx) (cd := cdx) (N := Nx) (nn := nnx) (cn := cnx)
  have hw := h.after hx.bel
  have Hc := Lib.hid (rcheck_any x Dx ndx cdx Nx nnx cnx _ hw)
  have H := Lib.hid (And.intro hx hw)
  have H0 := Lib.hid h
  clear hx hw h
  by_cases hm : May x
  rotate_left
  · have hr : Hid (wbytes x = ([], 2)) := by show _ = _; unfold wbytes; rw [if_neg hm]
    have hck : chk x = 2 := by unfold chk; rw [if_neg hm]
    rw [hck] at Hc
    clear hm hck
    generalize wbytes x = r at *
    go_enter Tryz.func30, Tryz.ntmps30
    go_wp2_with fail
    refine Hc.out.mono ?_
    rintro e w1 ⟨rfl, hb⟩
    have hb1 := Lib.hid (H.out.1.on hb).bel
    clear hb
    go_wp2
    go_ret2
    rw [hr.out]
    exact ⟨_, rfl, World.ownsRow_nil _ _ _ _, hb1.out⟩
  have hr : Hid (wbytes x = (wb x, 0)) := by show _ = _; unfold wbytes; rw [if_pos hm]
  have hck : chk x = 0 := by unfold chk; rw [if_pos hm]
  rw [hck] at Hc
  have hlb := (wb_len hm).2
  have h5s := flat5_small hm
  have hnn := H.out.2.2.1.1.1
  rw [hnn] at h5s
  have hsp := wb_split hnn
  have HM := Lib.hid (And.intro hm (And.intro h5s (And.intro hnn hsp)))
  clear hm hck h5s hnn hsp
  go_enter Tryz.func30, Tryz.ntmps30
  go_wp2_with fail
  refine Hc.out.mono ?_
  rintro e w1 ⟨rfl, hb⟩
  have hx1 := H.out.1.on hb
  have H1 := Lib.hid (And.intro hx1.blk (And.intro hx1.bel (H.out.2.after hb)))
  clear hx1 hb
  go_wp2_with fail
  refine region_rule4 (P := Tryz.prog) 21 62 b3D b3G b3S (b3R w.heap.size (w.heap.size + 1) x Dx ndx cdx Nx nnx cnx) _ _ (by kernel_rfl) rfl rfl (by kernel_rfl) (by decide +kernel) (b3_gb w.heap.size (w.heap.size + 1) x Dx ndx cdx Nx nnx cnx) (b3_sk w.heap.size (w.heap.size + 1) x Dx ndx cdx Nx nnx cnx) (b3_on w.heap.size (w.heap.size + 1) x Dx ndx cdx Nx nnx cnx) (b3_step w.heap.size (w.heap.size + 1) x Dx ndx cdx Nx nnx cnx (by rfl) (by kernel_rfl) rfl H1.out.1 H1.out.2.2 HM.out.1 H1.out.1.lt) ?fin
  case fin =>
    intro a w6 hbase hbl hall
    obtain ⟨v4, hv4, hR4⟩ := hall 20 (by decide)
    have hM4 : Mine w6 (w.heap.size + 1) 5 v4 (ibs [x.kd, x.cl, x.sp, x.gr, x.ep, x.bl]) := hR4
    obtain ⟨Ah, ch, rfl, _, _, hBh⟩ := hM4.form
    obtain ⟨g, hg, hge⟩ := lit62 a hbase.1
    have q1 : g 1 = .pointer (some ⟨w.heap.size, 0, none⟩) := hge 1 _ ((hbase.2.2 1 (by decide)).trans rfl)
    have q4 : g 4 = .slice Ah (ibs [x.kd, x.cl, x.sp, x.gr, x.ep, x.bl]).length ch := hge 4 _ hv4
    have hdf : a.defers = [] := hbase.2.1
    rw [hdf, q1, q4] at hg
    rw [hg]
    have hb6 := H1.out.2.1.trans (hbl.mono H1.out.2.1.size)
    have H6 := Lib.hid (And.intro (H1.out.1.below hbl H1.out.1.lt) (And.intro hb6 (And.intro (H1.out.2.2.after hbl) hBh)))
    clear hb6 hBh hM4 hbl hall hbase hdf hge hg hv4 hR4
    go_wp2_with fail
    refine region_rule4 (P := Tryz.prog) 17 62 b4D b4G b4S (b4R w.heap.size (w.heap.size + 1) x Dx ndx cdx Nx nnx cnx Ah ch (ibs [x.kd, x.cl, x.sp, x.gr, x.ep, x.bl])) _ _ (by kernel_rfl) rfl rfl (by kernel_rfl) (by decide +kernel) (b4_gb w.heap.size (w.heap.size + 1) x Dx ndx cdx Nx nnx cnx Ah ch (ibs [x.kd, x.cl, x.sp, x.gr, x.ep, x.bl])) (b4_sk w.heap.size (w.heap.size + 1) x Dx ndx cdx Nx nnx cnx Ah ch (ibs [x.kd, x.cl, x.sp, x.gr, x.ep, x.bl])) (b4_on w.heap.size (w.heap.size + 1) x Dx ndx cdx Nx nnx cnx Ah ch (ibs [x.kd, x.cl, x.sp, x.gr, x.ep, x.bl])) (b4_step w.heap.size (w.heap.size + 1) x Dx ndx cdx Nx nnx cnx Ah ch (ibs [x.kd, x.cl, x.sp, x.gr, x.ep, x.bl]) (by rfl) (by kernel_rfl) rfl H6.out.1 H6.out.2.2.1 HM.out.1 H6.out.1.lt rfl H6.out.2.2.2 HM.out.2.1) ?fin
    case fin =>
      intro a w7 hbase hbl hall
      obtain ⟨v5, hv5, hR5⟩ := hall 16 (by decide)
      have hM5 : Mine w7 (w.heap.size + 1) 5 v5 (ibs [x.kd, x.cl, x.sp, x.gr, x.ep, x.bl] ++ (sb x.da ++ ibs [x.od, x.nw, (nnx : Int)])) := hR5
      obtain ⟨f, hf, hfe⟩ := lit62 a hbase.1
      have q1 : f 1 = .pointer (some ⟨w.heap.size, 0, none⟩) := hfe 1 _ ((hbase.2.2 1 (by decide)).trans rfl)
      have q5 : f 5 = v5 := hfe 5 _ hv5
      have hdf : a.defers = [] := hbase.2.1
      rw [hdf, q1, q5] at hf
      rw [hf]
      have hb7 := H6.out.2.1.trans (hbl.mono H6.out.2.1.size)
      have H7 := Lib.hid (And.intro (H6.out.1.below hbl H6.out.1.lt) (And.intro hb7 (And.intro (H6.out.2.2.1.after hbl) hM5)))
      clear hb7 hM5 hbl hall hbase hdf hfe hf hv5 hR5
      obtain ⟨pre, hpre⟩ : ∃ p, ibs [x.kd, x.cl, x.sp, x.gr, x.ep, x.bl] ++ (sb x.da ++ ibs [x.od, x.nw, (nnx : Int)]) = p := ⟨_, rfl⟩
      rw [hpre] at H7
      have hpl : (pre ++ ibs x.nx).length < 128 := by rw [← hpre, HM.out.2.2.2]; exact hlb
      have HP := Lib.hid hpre
      have hn7 : nnx ≤ 7 := by have h1 := HM.out.1.nums.2.2.2.2.2.2.2.2.2.1; have h2 := HM.out.2.2.1; omega
      have hna := H7.out.2.2.1.2.1.1
      have hnc := hna.2.1
      have hcm := hna.2.2.1
      unfold maxLen at hcm
      clear hpre
      go_wp2
      go_loopw [5, 6] (fun v i wr => ∃ k : Nat, k ≤ nnx ∧ i = .int .i64 k ∧ Mine wr (w.heap.size + 1) 5 v (pre ++ ibs (x.nx.take k)) ∧ Blk wr w.heap.size 25 [.int .i64 x.cl, .int .i64 x.sp, .int .i64 x.gr, .int .i64 x.ep, .int .i64 x.kd, .int .i64 x.bl, .slice Dx ndx cdx, .int .i64 x.od, .int .i64 x.nw, .slice Nx nnx cnx] ∧ Below w.heap.size w wr) (fun _ i _ => nnx - (intOf i).toNat)
      case atStart => exact ⟨0, Nat.zero_le _, rfl, by have h := H7.out.2.2.2; rw [List.take_zero]; show Mine _ _ _ _ (pre ++ []); rw [List.append_nil]; exact h, H7.out.1, H7.out.2.1⟩
      case round =>
        obtain ⟨k, hk, rfl, hown, hbx, hnx⟩ := hrel
        have k9 : wr.cell? ⟨w.heap.size, 9, none⟩ = some (.slice Nx nnx cnx) := hbx.cell rfl
        by_cases hlt : k < nnx
        · have hlt' : (k : Int) < nnx := by omega
          have hkl : k < x.nx.length := by rw [HM.out.2.2.1]; exact hlt
          obtain ⟨b, o, hNx, hb, hc⟩ := H0.out.2.1.1.2.2.2.1.at_ hkl
          subst hNx
          have c0 : wr.cell? ⟨b, o + k, none⟩ = some (.int .i64 x.nx[k]) := (hnx.cell (p := ⟨b, o + k, none⟩) hb).trans (hc k hkl)
          have Hst := Lib.hid (ibs_take hkl)
          have hpk : (pre ++ ibs (x.nx.take k)).length + (ib x.nx[k]).length < 128 := by
            have e : ibs x.nx = ibs (x.nx.take k) ++ (ib x.nx[k] ++ ibs (x.nx.drop (k + 1))) := by
              rw [← ibs_drop hkl]
              have h2 := List.take_append_drop k x.nx
              unfold ibs
              rw [← List.flatten_append, ← List.map_append, h2]
            rw [e] at hpl
            simp only [List.length_append] at hpl ⊢
            omega
          clear hc
          generalize x.nx[k] = y at *
          have Hk := Lib.hid (And.intro hown (And.intro hbx hnx))
          have Hnum := Lib.hid (rnum_any y wr)
          generalize ib y = z at *
          clear hown hbx hnx hkl
          go_wp2_with fail
          refine Hnum.out.mono ?_
          rintro e w8 ⟨v1, rfl, hnew⟩
          obtain ⟨A1, c1, rfl, hl1, hc1, hB1⟩ := hnew.form
          have hb8 := Hk.out.2.1.below hnew.2 Hk.out.2.1.lt
          have hl8 := hb8.lt
          have Hk8 := Lib.hid (And.intro (Mine.after Hk.out.1 hnew.2) (And.intro hb8 (Hk.out.2.2.trans (hnew.2.mono Hk.out.2.2.size))))
          have h47 : (pre ++ ibs (x.nx.take k)).length + z.length ≤ 140737488355328 := by omega
          clear hnew hb8
          go_wp2_with (at_builtin; refine wp_appendB rfl _ _ rfl (w.heap.size + 1) _ _ rfl Hk8.out.1 A1 c1 _ z rfl hB1 rfl h47 hl8 ?_; intro v2 w2 hm2 hg2 ho2)
          go_roundw
          case rel =>
            refine ⟨k + 1, by omega, by go_num, by rw [Hst.out, ← List.append_assoc]; exact hm2, (grown_out hg2).blk Hk8.out.2.1 (fun e => by have := (World.ownsRow.lt Hk8.out.1 _ e).1; omega), Hk8.out.2.2.grown hg2 (by omega) (fun j hj => ?_)⟩
            have := (World.ownsRow.lt Hk8.out.1 j hj).1
            omega
          case measure => simp [intOf]; omega
        · have hlt' : ¬ (k : Int) < nnx := by omega
          have Hst : Hid (x.nx.take k = x.nx) := by show _ = _; rw [List.take_of_length_le (by rw [HM.out.2.2.1]; omega)]
          rw [Hst.out, ← HP.out, HM.out.2.2.2] at hown
          have Hk := Lib.hid (And.intro hown hnx)
          clear hown hbx hnx
          go_wp2
          go_ret2
          rw [hr.out]
          exact ⟨_, rfl, Mine.base Hk.out.1 (by omega), Hk.out.2⟩

end Go.Proofs.YtihmddpafbackaaGreat
