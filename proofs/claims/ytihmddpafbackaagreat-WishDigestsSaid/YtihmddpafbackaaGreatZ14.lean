/-
  Laid together for a hand-in: Wr11, By11, Ba11.
-/
import Derived.Test.YtihmddpafbackaaGreatZ12
import Derived.Test.YtihmddpafbackaaGreatZ13
import Derived.Test.YtihmddpafbackaaGreatZ09

namespace Go.Proofs.YtihmddpafbackaaGreat

open Go.RowKit Go.Maps

set_option linter.unusedVariables false

set_option linter.unusedSimpArgs false

/-- The value 'v' is a slice that shows the numbers 'l'. -/
def IsV (w : World) (v : Value) (l : List Int) : Prop := ∃ A c, v = .slice A l.length c ∧ ArgI w A l.length c l

theorem IsV.on {w w' : World} {v : Value} {l : List Int} (h : IsV w v l) (hb : Below w.heap.size w w') : IsV w' v l := let ⟨A, c, e, h⟩ := h; ⟨A, c, e, h.after hb⟩

theorem IsV.new {w : World} {l : List Int} (h : ∀ y ∈ l, Wf y) (hl : l.length ≤ maxLen) : IsV (w.alloc (.cells (cis l).toArray 3)) (.slice (some ⟨w.heap.size, 0, none⟩) l.length l.length) l := by
  refine ⟨_, _, rfl, rfl, Nat.le_refl _, hl, ⟨by rw [cis_length]; simp, fun _ => ⟨w.heap.size, 0, rfl, by simp, fun j u hu => ?_⟩⟩, h⟩
  rw [Nat.zero_add, cell_of_row _ _ j _ 3 (0, 0) (heap_alloc_new w _)]
  simpa using hu

/-- The value 'v' is a slice that shows the bytes 'l'. -/
def BV (w : World) (v : Value) (l : List UInt8) : Prop := ∃ A c, v = .slice A l.length c ∧ l.length ≤ c ∧ c ≤ maxLen ∧ Bs w A l

theorem BV.on {w w' : World} {v : Value} {l : List UInt8} (h : BV w v l) (hb : Below w.heap.size w w') : BV w' v l := let ⟨A, c, e, h1, h2, h⟩ := h; ⟨A, c, e, h1, h2, h.after hb⟩

theorem BV.ofNew {w w' : World} {v : Value} {l : List UInt8} (h : NewB w l v w') : BV w' v l := h.form

def BssV (w : World) (v : Value) (n : Nat) (ls : List (List UInt8)) : Prop := ∃ A, v = .slice A n n ∧ Bss w A ls

theorem BssV.on {w w' : World} {v : Value} {n : Nat} {ls : List (List UInt8)} (h : BssV w v n ls) (hb : Below w.heap.size w w') : BssV w' v n ls := let ⟨A, e, h⟩ := h; ⟨A, e, h.after hb⟩

/-- The value 'v' is a list of one text. -/
def Bs1V (w : World) (v : Value) (l : List UInt8) : Prop := ∃ A, v = .slice A 1 1 ∧ Bss w A [l]

theorem Bs1V.on {w w' : World} {v : Value} {l : List UInt8} (h : Bs1V w v l) (hb : Below w.heap.size w w') : Bs1V w' v l := let ⟨A, e, h⟩ := h; ⟨A, e, h.after hb⟩

def MineV (w : World) (base : Nat) (v : Value) (l : List UInt8) : Prop := Mine w base 5 v l

theorem MineV.on {w w' : World} {base : Nat} {v : Value} {l : List UInt8} (h : MineV w base v l) (hb : Below w.heap.size w w') : MineV w' base v l := Mine.after h hb

theorem bss4 {w : World} {t : TypeId} {A1 A2 A3 A4 : Option Addr} {c1 c2 c3 c4 : Nat} {l1 l2 l3 l4 : List UInt8} (h1 : c1 ≤ maxLen ∧ Bs w A1 l1) (h2 : c2 ≤ maxLen ∧ Bs w A2 l2) (h3 : c3 ≤ maxLen ∧ Bs w A3 l3) (h4 : c4 ≤ maxLen ∧ Bs w A4 l4) :
    Bss (w.alloc (.cells #[.slice A1 l1.length c1, .slice A2 l2.length c2, .slice A3 l3.length c3, .slice A4 l4.length c4] t)) (some ⟨w.heap.size, 0, none⟩) [l1, l2, l3, l4] := by
  refine Bss.made w t _ _ rfl fun i hi => ?_
  match i, hi with
  | 0, _ => exact ⟨A1, c1, rfl, h1.2⟩
  | 1, _ => exact ⟨A2, c2, rfl, h2.2⟩
  | 2, _ => exact ⟨A3, c3, rfl, h3.2⟩
  | 3, _ => exact ⟨A4, c4, rfl, h4.2⟩

theorem wf_nat {n : Nat} (h : n ≤ 17592186043904) : Wf (n : Int) := by
  simp only [Wf, Lit.wf, IntKind.min, IntKind.max, IntKind.signed, IntKind.bits]
  simp
  omega

theorem flat_wb {x : Wl} {n : Nat} (h : x.nx.length = n) : [ibs [x.kd, x.cl, x.sp, x.gr, x.ep, x.bl], sb x.da, ibs [x.od, x.nw, (n : Int)], ibs x.nx].flatten = wb x := by
  subst h
  unfold wb
  simp only [List.flatten_cons, List.flatten_nil, List.append_nil, List.append_assoc]

theorem flat_small {x : Wl} {n : Nat} (hm : May x) (h : x.nx.length = n) : [ibs [x.kd, x.cl, x.sp, x.gr, x.ep, x.bl], sb x.da, ibs [x.od, x.nw, (n : Int)], ibs x.nx].flatten.length ≤ 140737488355328 := by
  rw [flat_wb h]
  have := (wb_len hm).2
  omega

theorem wf6 {w : World} {x : Wl} {Dx : Option Addr} {ndx cdx : Nat} {Nx : Option Addr} {nnx cnx : Nat} (h : ArgW w x Dx ndx cdx Nx nnx cnx) : ∀ y ∈ [x.kd, x.cl, x.sp, x.gr, x.ep, x.bl], Wf y := by
  obtain ⟨_, _, h1, h2, h3, h4, h5, h6, h7, h8⟩ := h
  intro y hy
  simp only [List.mem_cons, List.not_mem_nil, or_false] at hy
  rcases hy with rfl | rfl | rfl | rfl | rfl | rfl
  · exact h5
  · exact h1
  · exact h2
  · exact h3
  · exact h4
  · exact h6

theorem wf3 {w : World} {x : Wl} {Dx : Option Addr} {ndx cdx : Nat} {Nx : Option Addr} {nnx cnx : Nat} (h : ArgW w x Dx ndx cdx Nx nnx cnx) : ∀ y ∈ [x.od, x.nw, (nnx : Int)], Wf y := by
  obtain ⟨_, ⟨_, h0⟩, h1, h2, h3, h4, h5, h6, h7, h8⟩ := h
  intro y hy
  simp only [List.mem_cons, List.not_mem_nil, or_false] at hy
  rcases hy with rfl | rfl | rfl
  · exact h7
  · exact h8
  · exact wf_nat h0

def waR (gb base : Nat) (x : Wl) (Dx : Option Addr) (ndx cdx : Nat) (Nx : Option Addr) (nnx cnx : Nat) : Nat → Value → World → Prop
  | 0 => fun v w => v = .pointer (some ⟨gb, 4, none⟩)
  | 1 => fun v w => v = .int .i64 x.kd
  | 2 => fun v w => v = .pointer (some ⟨gb, 0, none⟩)
  | 3 => fun v w => v = .int .i64 x.cl
  | 4 => fun v w => v = .pointer (some ⟨gb, 1, none⟩)
  | 5 => fun v w => v = .int .i64 x.sp
  | 6 => fun v w => v = .pointer (some ⟨gb, 2, none⟩)
  | 7 => fun v w => v = .int .i64 x.gr
  | 8 => fun v w => v = .pointer (some ⟨gb, 3, none⟩)
  | 9 => fun v w => v = .int .i64 x.ep
  | 10 => fun v w => v = .pointer (some ⟨gb, 5, none⟩)
  | 11 => fun v w => v = .int .i64 x.bl
  | 12 => fun v w => IsV w v [x.kd, x.cl, x.sp, x.gr, x.ep, x.bl]
  | 13 => fun v w => BV w v (ibs [x.kd, x.cl, x.sp, x.gr, x.ep, x.bl])
  | 14 => fun v w => v = .pointer (some ⟨gb, 6, none⟩)
  | 15 => fun v w => v = .slice Dx ndx cdx
  | 16 => fun v w => Bs1V w v x.da
  | 17 => fun v w => BV w v (sb x.da)
  | 18 => fun v w => v = .pointer (some ⟨gb, 7, none⟩)
  | 19 => fun v w => v = .int .i64 x.od
  | 20 => fun v w => v = .pointer (some ⟨gb, 8, none⟩)
  | 21 => fun v w => v = .int .i64 x.nw
  | 22 => fun v w => v = .pointer (some ⟨gb, 9, none⟩)
  | 23 => fun v w => v = .slice Nx nnx cnx
  | 24 => fun v w => v = .int .i64 nnx
  | 25 => fun v w => IsV w v [x.od, x.nw, (nnx : Int)]
  | 26 => fun v w => BV w v (ibs [x.od, x.nw, (nnx : Int)])
  | 27 => fun v w => v = .pointer (some ⟨gb, 9, none⟩)
  | 28 => fun v w => v = .slice Nx nnx cnx
  | 29 => fun v w => BV w v (ibs x.nx)
  | 30 => fun v w => BssV w v 4 [ibs [x.kd, x.cl, x.sp, x.gr, x.ep, x.bl], sb x.da, ibs [x.od, x.nw, (nnx : Int)], ibs x.nx]
  | 31 => fun v w => MineV w base v (wb x)
  | 32 => fun v w => MineV w base v (wb x)
  | _ => fun _ _ => True

def waD (i : Nat) : Nat := ([3, 4, 5, 6, 7, 8, 9, 10, 11, 12, 13, 14, 15, 16, 17, 18, 19, 20, 21, 22, 23, 24, 25, 26, 27, 28, 29, 30, 31, 32, 33, 34, 2] : List Nat).getD i 0

def waG : Nat → Option Bool
  | _ => none

def waS (i : Nat) : Bool := ([] : List Nat).contains i

theorem wa_gb (gb base : Nat) (x : Wl) (Dx : Option Addr) (ndx cdx : Nat) (Nx : Option Addr) (nnx cnx : Nat) : ∀ i b v w, waG i = some b → waR gb base x Dx ndx cdx Nx nnx cnx i v w → v = .bool b := by
  intro i b v w h hR
  unfold waG at h
  split at h
  all_goals first | (injection h with h; subst h; exact hR) | cases h

theorem wa_sk (gb base : Nat) (x : Wl) (Dx : Option Addr) (ndx cdx : Nat) (Nx : Option Addr) (nnx cnx : Nat) : ∀ i w, waS i = true → waR gb base x Dx ndx cdx Nx nnx cnx i undef w := by
  intro i w h
  simp [waS] at h

theorem wa_on (gb base : Nat) (x : Wl) (Dx : Option Addr) (ndx cdx : Nat) (Nx : Option Addr) (nnx cnx : Nat) : ∀ i v w w', waR gb base x Dx ndx cdx Nx nnx cnx i v w → Below w.heap.size w w' → waR gb base x Dx ndx cdx Nx nnx cnx i v w'
  | 0, v, w, w', h, _ => h
  | 1, v, w, w', h, _ => h
  | 2, v, w, w', h, _ => h
  | 3, v, w, w', h, _ => h
  | 4, v, w, w', h, _ => h
  | 5, v, w, w', h, _ => h
  | 6, v, w, w', h, _ => h
  | 7, v, w, w', h, _ => h
  | 8, v, w, w', h, _ => h
  | 9, v, w, w', h, _ => h
  | 10, v, w, w', h, _ => h
  | 11, v, w, w', h, _ => h
  | 12, v, w, w', h, hb => IsV.on (show IsV w v [x.kd, x.cl, x.sp, x.gr, x.ep, x.bl] from h) hb
  | 13, v, w, w', h, hb => BV.on (show BV w v (ibs [x.kd, x.cl, x.sp, x.gr, x.ep, x.bl]) from h) hb
  | 14, v, w, w', h, _ => h
  | 15, v, w, w', h, _ => h
  | 16, v, w, w', h, hb => Bs1V.on (show Bs1V w v x.da from h) hb
  | 17, v, w, w', h, hb => BV.on (show BV w v (sb x.da) from h) hb
  | 18, v, w, w', h, _ => h
  | 19, v, w, w', h, _ => h
  | 20, v, w, w', h, _ => h
  | 21, v, w, w', h, _ => h
  | 22, v, w, w', h, _ => h
  | 23, v, w, w', h, _ => h
  | 24, v, w, w', h, _ => h
  | 25, v, w, w', h, hb => IsV.on (show IsV w v [x.od, x.nw, (nnx : Int)] from h) hb
  | 26, v, w, w', h, hb => BV.on (show BV w v (ibs [x.od, x.nw, (nnx : Int)]) from h) hb
  | 27, v, w, w', h, _ => h
  | 28, v, w, w', h, _ => h
  | 29, v, w, w', h, hb => BV.on (show BV w v (ibs x.nx) from h) hb
  | 30, v, w, w', h, hb => BssV.on (show BssV w v 4 [ibs [x.kd, x.cl, x.sp, x.gr, x.ep, x.bl], sb x.da, ibs [x.od, x.nw, (nnx : Int)], ibs x.nx] from h) hb
  | 31, v, w, w', h, hb => MineV.on (show MineV w base v (wb x) from h) hb
  | 32, v, w, w', h, hb => MineV.on (show MineV w base v (wb x) from h) hb
  | i + 33, v, w, w', h, hb => trivial

def waOps : List Op := [.fieldAddr 25 (.tmp 1) 4,
  .load 3 (.tmp 3),
  .fieldAddr 25 (.tmp 1) 0,
  .load 3 (.tmp 5),
  .fieldAddr 25 (.tmp 1) 1,
  .load 3 (.tmp 7),
  .fieldAddr 25 (.tmp 1) 2,
  .load 3 (.tmp 9),
  .fieldAddr 25 (.tmp 1) 3,
  .load 3 (.tmp 11),
  .fieldAddr 25 (.tmp 1) 5,
  .load 3 (.tmp 13),
  .buildSlice 23 6 #[(0, .tmp 4), (1, .tmp 6), (2, .tmp 8), (3, .tmp 10), (4, .tmp 12), (5, .tmp 14)],
  .call { callee := .value (.func 47), args := #[.tmp 15], argTypes := #[23] },
  .fieldAddr 25 (.tmp 1) 6,
  .load 22 (.tmp 17),
  .buildSlice 61 1 #[(0, .tmp 18)],
  .call { callee := .value (.func 48), args := #[.tmp 19], argTypes := #[61] },
  .fieldAddr 25 (.tmp 1) 7,
  .load 3 (.tmp 21),
  .fieldAddr 25 (.tmp 1) 8,
  .load 3 (.tmp 23),
  .fieldAddr 25 (.tmp 1) 9,
  .load 23 (.tmp 25),
  .call { callee := .builtin .len, args := #[.tmp 26], argTypes := #[23] },
  .buildSlice 23 3 #[(0, .tmp 22), (1, .tmp 24), (2, .tmp 27)],
  .call { callee := .value (.func 47), args := #[.tmp 28], argTypes := #[23] },
  .fieldAddr 25 (.tmp 1) 9,
  .load 23 (.tmp 30),
  .call { callee := .value (.func 47), args := #[.tmp 31], argTypes := #[23] },
  .buildSlice 61 4 #[(0, .tmp 16), (1, .tmp 20), (2, .tmp 29), (3, .tmp 32)],
  .call { callee := .value (.func 49), args := #[.tmp 33], argTypes := #[61] },
  .assign (.tmp 34)]

def waNeeds : Nat → List Nat
  | 0 => []
  | 1 => [0]
  | 2 => []
  | 3 => [2]
  | 4 => []
  | 5 => [4]
  | 6 => []
  | 7 => [6]
  | 8 => []
  | 9 => [8]
  | 10 => []
  | 11 => [10]
  | 12 => [1, 3, 5, 7, 9, 11]
  | 13 => [12]
  | 14 => []
  | 15 => [14]
  | 16 => [15]
  | 17 => [16]
  | 18 => []
  | 19 => [18]
  | 20 => []
  | 21 => [20]
  | 22 => []
  | 23 => [22]
  | 24 => [23]
  | 25 => [19, 21, 24]
  | 26 => [25]
  | 27 => []
  | 28 => [27]
  | 29 => [28]
  | 30 => [13, 17, 26, 29]
  | 31 => [30]
  | 32 => [31]
  | _ => []

set_option maxRecDepth 100000 in
set_option maxHeartbeats 3200000 in
theorem wa_step {ops : Array Oper} {Q : Exit → Act → World → Prop} {a0 : Act} {w0 : World} (gb base : Nat) (x : Wl) (Dx : Option Addr) (ndx cdx : Nat) (Nx : Option Addr) (nnx cnx : Nat) (hops : ((List.range 33).map fun i => (ops[i]?).map Oper.op) = waOps.map some)
    (hnd : ((List.range 33).all fun i => (waNeeds i).all fun j => ((ops[i]?).map fun o => o.after.any fun e => Region.binds .any e && (e.on == j)).getD false) = true)
    (x1 : a0.tmps[1]? = some (.pointer (some ⟨gb, 0, none⟩)))
    (hB : Blk w0 gb 25 [.int .i64 x.cl, .int .i64 x.sp, .int .i64 x.gr, .int .i64 x.ep, .int .i64 x.kd, .int .i64 x.bl, .slice Dx ndx cdx, .int .i64 x.od, .int .i64 x.nw, .slice Nx nnx cnx]) (hW : ArgW w0 x Dx ndx cdx Nx nnx cnx) (hm : May x) (hb0 : base ≤ w0.heap.size) (hn7 : nnx ≤ 7) :
    ∀ i o, i < 33 → waS i = false → ops[i]? = some o → o.dst = some (waD i) → ∀ a w, Base waD 33 a0 a → Below w0.heap.size w0 w → Region.wanted o (yielded ops a.tmps) = true →
      (∀ j, (o.after.any fun e => Region.binds .any e && (e.on == j)) = true → Has waD (waR gb base x Dx ndx cdx Nx nnx cnx) j a w) →
      ∀ K : Act → World → Prop, (∀ v w', waR gb base x Dx ndx cdx Nx nnx cnx i v w' → Below w.heap.size w w' → K (a.put o.dst v) w') → wpOp Tryz.prog ops Q i K a w := by
  intro i o hi hs ho hds a w hbase hbl hwt hdep0 K hK
  have hop : some o.op = waOps[i]? := by
    have h1 : ((List.range 33).map fun i => (ops[i]?).map Oper.op)[i]? = some (some o.op) := by
      rw [List.getElem?_map, List.getElem?_range hi]; simp only [Option.map_some, ho]
    rw [hops, List.getElem?_map] at h1
    cases h2 : waOps[i]? with
    | none => rw [h2] at h1; cases h1
    | some y => rw [h2] at h1; simp only [Option.map_some, Option.some.injEq] at h1; rw [h1]
  have hdep : ∀ j, j ∈ waNeeds i → Has waD (waR gb base x Dx ndx cdx Nx nnx cnx) j a w := fun j hj => by
    have h1 := List.all_eq_true.1 (List.all_eq_true.1 hnd i (List.mem_range.2 hi)) j hj
    rw [ho] at h1
    exact hdep0 j h1
  clear hdep0 hops hnd
  match i, hi, hs, ho, hop, hds, hdep, hK with
  | 0, _, hs, ho, hop, hds, hdep, hK =>
    have hop : o.op = .fieldAddr 25 (.tmp 1) 4 := Option.some.inj hop
    have hu1 : a.tmps[1]? = some (.pointer (some ⟨gb, 0, none⟩)) := (hbase.2.2 1 (by decide)).trans x1
    have e1 : a.eval (.tmp 1) = _ := ev_tmp hu1
    refine st3 ho hwt (v := .pointer (some ⟨gb, 4, none⟩)) (w' := w) ?_ (hK _ w rfl (Below.refl _ _))
    unfold execOp
    simp only [hop, Option.map_some, Option.map_none, e1]
    first | rfl | (go_simp; done) | (go_simp; simp; done) | (go_simp; intro h; omega)
  | 1, _, hs, ho, hop, hds, hdep, hK =>
    have hop : o.op = .load 3 (.tmp 3) := Option.some.inj hop
    obtain ⟨u3, hu3, hv3⟩ := hdep 0 (by decide)
    have hv3' : u3 = .pointer (some ⟨gb, 4, none⟩) := hv3
    subst hv3'
    have e3 : a.eval (.tmp 3) = _ := ev_tmp hu3
    refine st3 ho hwt (v := .int .i64 x.kd) (w' := w) ?_ (hK _ w rfl (Below.refl _ _))
    have k4 : w.cell? ⟨gb, 4, none⟩ = some (.int .i64 x.kd) := (hB.below hbl hB.lt).cell rfl
    unfold execOp
    simp only [hop, Option.map_some, Option.map_none, e3]
    first | rfl | (go_simp; done) | (go_simp; simp; done) | (go_simp; intro h; omega)
  | 2, _, hs, ho, hop, hds, hdep, hK =>
    have hop : o.op = .fieldAddr 25 (.tmp 1) 0 := Option.some.inj hop
    have hu1 : a.tmps[1]? = some (.pointer (some ⟨gb, 0, none⟩)) := (hbase.2.2 1 (by decide)).trans x1
    have e1 : a.eval (.tmp 1) = _ := ev_tmp hu1
    refine st3 ho hwt (v := .pointer (some ⟨gb, 0, none⟩)) (w' := w) ?_ (hK _ w rfl (Below.refl _ _))
    unfold execOp
    simp only [hop, Option.map_some, Option.map_none, e1]
    first | rfl | (go_simp; done) | (go_simp; simp; done) | (go_simp; intro h; omega)
  | 3, _, hs, ho, hop, hds, hdep, hK =>
    have hop : o.op = .load 3 (.tmp 5) := Option.some.inj hop
    obtain ⟨u5, hu5, hv5⟩ := hdep 2 (by decide)
    have hv5' : u5 = .pointer (some ⟨gb, 0, none⟩) := hv5
    subst hv5'
    have e5 : a.eval (.tmp 5) = _ := ev_tmp hu5
    refine st3 ho hwt (v := .int .i64 x.cl) (w' := w) ?_ (hK _ w rfl (Below.refl _ _))
    have k0 : w.cell? ⟨gb, 0, none⟩ = some (.int .i64 x.cl) := (hB.below hbl hB.lt).cell rfl
    unfold execOp
    simp only [hop, Option.map_some, Option.map_none, e5]
    first | rfl | (go_simp; done) | (go_simp; simp; done) | (go_simp; intro h; omega)
  | 4, _, hs, ho, hop, hds, hdep, hK =>
    have hop : o.op = .fieldAddr 25 (.tmp 1) 1 := Option.some.inj hop
    have hu1 : a.tmps[1]? = some (.pointer (some ⟨gb, 0, none⟩)) := (hbase.2.2 1 (by decide)).trans x1
    have e1 : a.eval (.tmp 1) = _ := ev_tmp hu1
    refine st3 ho hwt (v := .pointer (some ⟨gb, 1, none⟩)) (w' := w) ?_ (hK _ w rfl (Below.refl _ _))
    unfold execOp
    simp only [hop, Option.map_some, Option.map_none, e1]
    first | rfl | (go_simp; done) | (go_simp; simp; done) | (go_simp; intro h; omega)
  | 5, _, hs, ho, hop, hds, hdep, hK =>
    have hop : o.op = .load 3 (.tmp 7) := Option.some.inj hop
    obtain ⟨u7, hu7, hv7⟩ := hdep 4 (by decide)
    have hv7' : u7 = .pointer (some ⟨gb, 1, none⟩) := hv7
    subst hv7'
    have e7 : a.eval (.tmp 7) = _ := ev_tmp hu7
    refine st3 ho hwt (v := .int .i64 x.sp) (w' := w) ?_ (hK _ w rfl (Below.refl _ _))
    have k1 : w.cell? ⟨gb, 1, none⟩ = some (.int .i64 x.sp) := (hB.below hbl hB.lt).cell rfl
    unfold execOp
    simp only [hop, Option.map_some, Option.map_none, e7]
    first | rfl | (go_simp; done) | (go_simp; simp; done) | (go_simp; intro h; omega)
  | 6, _, hs, ho, hop, hds, hdep, hK =>
    have hop : o.op = .fieldAddr 25 (.tmp 1) 2 := Option.some.inj hop
    have hu1 : a.tmps[1]? = some (.pointer (some ⟨gb, 0, none⟩)) := (hbase.2.2 1 (by decide)).trans x1
    have e1 : a.eval (.tmp 1) = _ := ev_tmp hu1
    refine st3 ho hwt (v := .pointer (some ⟨gb, 2, none⟩)) (w' := w) ?_ (hK _ w rfl (Below.refl _ _))
    unfold execOp
    simp only [hop, Option.map_some, Option.map_none, e1]
    first | rfl | (go_simp; done) | (go_simp; simp; done) | (go_simp; intro h; omega)
  | 7, _, hs, ho, hop, hds, hdep, hK =>
    have hop : o.op = .load 3 (.tmp 9) := Option.some.inj hop
    obtain ⟨u9, hu9, hv9⟩ := hdep 6 (by decide)
    have hv9' : u9 = .pointer (some ⟨gb, 2, none⟩) := hv9
    subst hv9'
    have e9 : a.eval (.tmp 9) = _ := ev_tmp hu9
    refine st3 ho hwt (v := .int .i64 x.gr) (w' := w) ?_ (hK _ w rfl (Below.refl _ _))
    have k2 : w.cell? ⟨gb, 2, none⟩ = some (.int .i64 x.gr) := (hB.below hbl hB.lt).cell rfl
    unfold execOp
    simp only [hop, Option.map_some, Option.map_none, e9]
    first | rfl | (go_simp; done) | (go_simp; simp; done) | (go_simp; intro h; omega)
  | 8, _, hs, ho, hop, hds, hdep, hK =>
    have hop : o.op = .fieldAddr 25 (.tmp 1) 3 := Option.some.inj hop
    have hu1 : a.tmps[1]? = some (.pointer (some ⟨gb, 0, none⟩)) := (hbase.2.2 1 (by decide)).trans x1
    have e1 : a.eval (.tmp 1) = _ := ev_tmp hu1
    refine st3 ho hwt (v := .pointer (some ⟨gb, 3, none⟩)) (w' := w) ?_ (hK _ w rfl (Below.refl _ _))
    unfold execOp
    simp only [hop, Option.map_some, Option.map_none, e1]
    first | rfl | (go_simp; done) | (go_simp; simp; done) | (go_simp; intro h; omega)
  | 9, _, hs, ho, hop, hds, hdep, hK =>
    have hop : o.op = .load 3 (.tmp 11) := Option.some.inj hop
    obtain ⟨u11, hu11, hv11⟩ := hdep 8 (by decide)
    have hv11' : u11 = .pointer (some ⟨gb, 3, none⟩) := hv11
    subst hv11'
    have e11 : a.eval (.tmp 11) = _ := ev_tmp hu11
    refine st3 ho hwt (v := .int .i64 x.ep) (w' := w) ?_ (hK _ w rfl (Below.refl _ _))
    have k3 : w.cell? ⟨gb, 3, none⟩ = some (.int .i64 x.ep) := (hB.below hbl hB.lt).cell rfl
    unfold execOp
    simp only [hop, Option.map_some, Option.map_none, e11]
    first | rfl | (go_simp; done) | (go_simp; simp; done) | (go_simp; intro h; omega)
  | 10, _, hs, ho, hop, hds, hdep, hK =>
    have hop : o.op = .fieldAddr 25 (.tmp 1) 5 := Option.some.inj hop
    have hu1 : a.tmps[1]? = some (.pointer (some ⟨gb, 0, none⟩)) := (hbase.2.2 1 (by decide)).trans x1
    have e1 : a.eval (.tmp 1) = _ := ev_tmp hu1
    refine st3 ho hwt (v := .pointer (some ⟨gb, 5, none⟩)) (w' := w) ?_ (hK _ w rfl (Below.refl _ _))
    unfold execOp
    simp only [hop, Option.map_some, Option.map_none, e1]
    first | rfl | (go_simp; done) | (go_simp; simp; done) | (go_simp; intro h; omega)
  | 11, _, hs, ho, hop, hds, hdep, hK =>
    have hop : o.op = .load 3 (.tmp 13) := Option.some.inj hop
    obtain ⟨u13, hu13, hv13⟩ := hdep 10 (by decide)
    have hv13' : u13 = .pointer (some ⟨gb, 5, none⟩) := hv13
    subst hv13'
    have e13 : a.eval (.tmp 13) = _ := ev_tmp hu13
    refine st3 ho hwt (v := .int .i64 x.bl) (w' := w) ?_ (hK _ w rfl (Below.refl _ _))
    have k5 : w.cell? ⟨gb, 5, none⟩ = some (.int .i64 x.bl) := (hB.below hbl hB.lt).cell rfl
    unfold execOp
    simp only [hop, Option.map_some, Option.map_none, e13]
    first | rfl | (go_simp; done) | (go_simp; simp; done) | (go_simp; intro h; omega)
  | 12, _, hs, ho, hop, hds, hdep, hK =>
    have hop : o.op = .buildSlice 23 6 #[(0, .tmp 4), (1, .tmp 6), (2, .tmp 8), (3, .tmp 10), (4, .tmp 12), (5, .tmp 14)] := Option.some.inj hop
    obtain ⟨u4, hu4, hv4⟩ := hdep 1 (by decide)
    have hv4' : u4 = .int .i64 x.kd := hv4
    subst hv4'
    have e4 : a.eval (.tmp 4) = _ := ev_tmp hu4
    obtain ⟨u6, hu6, hv6⟩ := hdep 3 (by decide)
    have hv6' : u6 = .int .i64 x.cl := hv6
    subst hv6'
    have e6 : a.eval (.tmp 6) = _ := ev_tmp hu6
    obtain ⟨u8, hu8, hv8⟩ := hdep 5 (by decide)
    have hv8' : u8 = .int .i64 x.sp := hv8
    subst hv8'
    have e8 : a.eval (.tmp 8) = _ := ev_tmp hu8
    obtain ⟨u10, hu10, hv10⟩ := hdep 7 (by decide)
    have hv10' : u10 = .int .i64 x.gr := hv10
    subst hv10'
    have e10 : a.eval (.tmp 10) = _ := ev_tmp hu10
    obtain ⟨u12, hu12, hv12⟩ := hdep 9 (by decide)
    have hv12' : u12 = .int .i64 x.ep := hv12
    subst hv12'
    have e12 : a.eval (.tmp 12) = _ := ev_tmp hu12
    obtain ⟨u14, hu14, hv14⟩ := hdep 11 (by decide)
    have hv14' : u14 = .int .i64 x.bl := hv14
    subst hv14'
    have e14 : a.eval (.tmp 14) = _ := ev_tmp hu14
    have hrun : (Instr.buildSlice 23 6 #[(0, Value.int .i64 x.kd), (1, Value.int .i64 x.cl), (2, Value.int .i64 x.sp), (3, Value.int .i64 x.gr), (4, Value.int .i64 x.ep), (5, Value.int .i64 x.bl)]).run Tryz.prog w = .ok (.slice (some ⟨w.heap.size, 0, none⟩) 6 6) (w.alloc (.cells (cis [x.kd, x.cl, x.sp, x.gr, x.ep, x.bl]).toArray 3)) := by kernel_rfl
    refine st3 ho hwt (v := .slice (some ⟨w.heap.size, 0, none⟩) 6 6) (w' := w.alloc (.cells (cis [x.kd, x.cl, x.sp, x.gr, x.ep, x.bl]).toArray 3)) ?_ (hK _ _ (IsV.new (wf6 hW) (by simp [maxLen])) ((Below.refl _ _).alloc (Nat.le_refl _) _))
    unfold execOp
    simp only [hop, List.map_toArray, List.map_cons, List.map_nil, e4, e6, e8, e10, e12, e14, Sem.run_bind, hrun, Result.andThen_ok]
    rfl
  | 13, _, hs, ho, hop, hds, hdep, hK =>
    have hop : o.op = .call { callee := .value (.func 47), args := #[.tmp 15], argTypes := #[23] } := Option.some.inj hop
    obtain ⟨u15, hu15, hv15⟩ := hdep 12 (by decide)
    have hv15' : IsV w u15 [x.kd, x.cl, x.sp, x.gr, x.ep, x.bl] := hv15
    have e15 : a.eval (.tmp 15) = _ := ev_tmp hu15
    obtain ⟨A, c, rfl, hA⟩ := hv15'
    refine st3_call ho hwt (f := 47) (vals := #[.slice A 6 c]) (Z := fun v w' => BV w' v (ibs [x.kd, x.cl, x.sp, x.gr, x.ep, x.bl]) ∧ Below w.heap.size w w') ?_ ?_ ?_
    · unfold execOp
      simp only [hop, e15, resolve, invoke, Sem.run_bind, Sem.run_pure, Result.andThen_ok, List.map_toArray, List.map_cons, List.map_nil]
      first | rfl | exact enters_of Tryz.func47 (by kernel_rfl) rfl _ _
    · exact (numbers_any A _ c _ w hA (by simp)).mono fun e w' ⟨v, he, hN⟩ => ⟨v, he, BV.ofNew hN, hN.2⟩
    · rintro v w' ⟨h1, h2⟩
      exact hK v w' h1 h2
  | 14, _, hs, ho, hop, hds, hdep, hK =>
    have hop : o.op = .fieldAddr 25 (.tmp 1) 6 := Option.some.inj hop
    have hu1 : a.tmps[1]? = some (.pointer (some ⟨gb, 0, none⟩)) := (hbase.2.2 1 (by decide)).trans x1
    have e1 : a.eval (.tmp 1) = _ := ev_tmp hu1
    refine st3 ho hwt (v := .pointer (some ⟨gb, 6, none⟩)) (w' := w) ?_ (hK _ w rfl (Below.refl _ _))
    unfold execOp
    simp only [hop, Option.map_some, Option.map_none, e1]
    first | rfl | (go_simp; done) | (go_simp; simp; done) | (go_simp; intro h; omega)
  | 15, _, hs, ho, hop, hds, hdep, hK =>
    have hop : o.op = .load 22 (.tmp 17) := Option.some.inj hop
    obtain ⟨u17, hu17, hv17⟩ := hdep 14 (by decide)
    have hv17' : u17 = .pointer (some ⟨gb, 6, none⟩) := hv17
    subst hv17'
    have e17 : a.eval (.tmp 17) = _ := ev_tmp hu17
    refine st3 ho hwt (v := .slice Dx ndx cdx) (w' := w) ?_ (hK _ w rfl (Below.refl _ _))
    have k6 : w.cell? ⟨gb, 6, none⟩ = some (.slice Dx ndx cdx) := (hB.below hbl hB.lt).cell rfl
    unfold execOp
    simp only [hop, Option.map_some, Option.map_none, e17]
    first | rfl | (go_simp; done) | (go_simp; simp; done) | (go_simp; intro h; omega)
  | 16, _, hs, ho, hop, hds, hdep, hK =>
    have hop : o.op = .buildSlice 61 1 #[(0, .tmp 18)] := Option.some.inj hop
    obtain ⟨u18, hu18, hv18⟩ := hdep 15 (by decide)
    have hv18' : u18 = .slice Dx ndx cdx := hv18
    subst hv18'
    have e18 : a.eval (.tmp 18) = _ := ev_tmp hu18
    have hrun : (Instr.buildSlice 61 1 #[(0, Value.slice Dx ndx cdx)]).run Tryz.prog w = .ok (.slice (some ⟨w.heap.size, 0, none⟩) 1 1) (w.alloc (.cells #[.slice Dx ndx cdx] 22)) := by kernel_rfl
    refine st3 ho hwt (v := .slice (some ⟨w.heap.size, 0, none⟩) 1 1) (w' := w.alloc (.cells #[.slice Dx ndx cdx] 22)) ?_ (hK _ _ ⟨_, rfl, Bss.made1 (hW.1.2.2.2.1.after hbl) hW.1.1⟩ ((Below.refl _ _).alloc (Nat.le_refl _) _))
    unfold execOp
    simp only [hop, List.map_toArray, List.map_cons, List.map_nil, e18, Sem.run_bind, hrun, Result.andThen_ok]
    rfl
  | 17, _, hs, ho, hop, hds, hdep, hK =>
    have hop : o.op = .call { callee := .value (.func 48), args := #[.tmp 19], argTypes := #[61] } := Option.some.inj hop
    obtain ⟨u19, hu19, hv19⟩ := hdep 16 (by decide)
    have hv19' : Bs1V w u19 x.da := hv19
    have e19 : a.eval (.tmp 19) = _ := ev_tmp hu19
    obtain ⟨A, rfl, hA⟩ := hv19'
    refine st3_call ho hwt (f := 48) (vals := #[.slice A 1 1]) (Z := fun v w' => BV w' v (sb x.da) ∧ Below w.heap.size w w') ?_ ?_ ?_
    · unfold execOp
      simp only [hop, e19, resolve, invoke, Sem.run_bind, Sem.run_pure, Result.andThen_ok, List.map_toArray, List.map_cons, List.map_nil]
      first | rfl | exact enters_of Tryz.func48 (by kernel_rfl) rfl _ _
    · exact (texts_any A 1 1 [x.da] w hA rfl (by omega) (fun y hy => by rw [List.mem_singleton.1 hy, hW.1.1]; have := hW.1.2.2.2.2; unfold maxLen; omega)).mono fun e w' ⟨v, he, hN⟩ => ⟨v, he, BV.ofNew (by rw [txs_one] at hN; exact hN), hN.2⟩
    · rintro v w' ⟨h1, h2⟩
      exact hK v w' h1 h2
  | 18, _, hs, ho, hop, hds, hdep, hK =>
    have hop : o.op = .fieldAddr 25 (.tmp 1) 7 := Option.some.inj hop
    have hu1 : a.tmps[1]? = some (.pointer (some ⟨gb, 0, none⟩)) := (hbase.2.2 1 (by decide)).trans x1
    have e1 : a.eval (.tmp 1) = _ := ev_tmp hu1
    refine st3 ho hwt (v := .pointer (some ⟨gb, 7, none⟩)) (w' := w) ?_ (hK _ w rfl (Below.refl _ _))
    unfold execOp
    simp only [hop, Option.map_some, Option.map_none, e1]
    first | rfl | (go_simp; done) | (go_simp; simp; done) | (go_simp; intro h; omega)
  | 19, _, hs, ho, hop, hds, hdep, hK =>
    have hop : o.op = .load 3 (.tmp 21) := Option.some.inj hop
    obtain ⟨u21, hu21, hv21⟩ := hdep 18 (by decide)
    have hv21' : u21 = .pointer (some ⟨gb, 7, none⟩) := hv21
    subst hv21'
    have e21 : a.eval (.tmp 21) = _ := ev_tmp hu21
    refine st3 ho hwt (v := .int .i64 x.od) (w' := w) ?_ (hK _ w rfl (Below.refl _ _))
    have k7 : w.cell? ⟨gb, 7, none⟩ = some (.int .i64 x.od) := (hB.below hbl hB.lt).cell rfl
    unfold execOp
    simp only [hop, Option.map_some, Option.map_none, e21]
    first | rfl | (go_simp; done) | (go_simp; simp; done) | (go_simp; intro h; omega)
  | 20, _, hs, ho, hop, hds, hdep, hK =>
    have hop : o.op = .fieldAddr 25 (.tmp 1) 8 := Option.some.inj hop
    have hu1 : a.tmps[1]? = some (.pointer (some ⟨gb, 0, none⟩)) := (hbase.2.2 1 (by decide)).trans x1
    have e1 : a.eval (.tmp 1) = _ := ev_tmp hu1
    refine st3 ho hwt (v := .pointer (some ⟨gb, 8, none⟩)) (w' := w) ?_ (hK _ w rfl (Below.refl _ _))
    unfold execOp
    simp only [hop, Option.map_some, Option.map_none, e1]
    first | rfl | (go_simp; done) | (go_simp; simp; done) | (go_simp; intro h; omega)
  | 21, _, hs, ho, hop, hds, hdep, hK =>
    have hop : o.op = .load 3 (.tmp 23) := Option.some.inj hop
    obtain ⟨u23, hu23, hv23⟩ := hdep 20 (by decide)
    have hv23' : u23 = .pointer (some ⟨gb, 8, none⟩) := hv23
    subst hv23'
    have e23 : a.eval (.tmp 23) = _ := ev_tmp hu23
    refine st3 ho hwt (v := .int .i64 x.nw) (w' := w) ?_ (hK _ w rfl (Below.refl _ _))
    have k8 : w.cell? ⟨gb, 8, none⟩ = some (.int .i64 x.nw) := (hB.below hbl hB.lt).cell rfl
    unfold execOp
    simp only [hop, Option.map_some, Option.map_none, e23]
    first | rfl | (go_simp; done) | (go_simp; simp; done) | (go_simp; intro h; omega)
  | 22, _, hs, ho, hop, hds, hdep, hK =>
    have hop : o.op = .fieldAddr 25 (.tmp 1) 9 := Option.some.inj hop
    have hu1 : a.tmps[1]? = some (.pointer (some ⟨gb, 0, none⟩)) := (hbase.2.2 1 (by decide)).trans x1
    have e1 : a.eval (.tmp 1) = _ := ev_tmp hu1
    refine st3 ho hwt (v := .pointer (some ⟨gb, 9, none⟩)) (w' := w) ?_ (hK _ w rfl (Below.refl _ _))
    unfold execOp
    simp only [hop, Option.map_some, Option.map_none, e1]
    first | rfl | (go_simp; done) | (go_simp; simp; done) | (go_simp; intro h; omega)
  | 23, _, hs, ho, hop, hds, hdep, hK =>
    have hop : o.op = .load 23 (.tmp 25) := Option.some.inj hop
    obtain ⟨u25, hu25, hv25⟩ := hdep 22 (by decide)
    have hv25' : u25 = .pointer (some ⟨gb, 9, none⟩) := hv25
    subst hv25'
    have e25 : a.eval (.tmp 25) = _ := ev_tmp hu25
    refine st3 ho hwt (v := .slice Nx nnx cnx) (w' := w) ?_ (hK _ w rfl (Below.refl _ _))
    have k9 : w.cell? ⟨gb, 9, none⟩ = some (.slice Nx nnx cnx) := (hB.below hbl hB.lt).cell rfl
    unfold execOp
    simp only [hop, Option.map_some, Option.map_none, e25]
    first | rfl | (go_simp; done) | (go_simp; simp; done) | (go_simp; intro h; omega)
  | 24, _, hs, ho, hop, hds, hdep, hK =>
    have hop : o.op = .call { callee := .builtin .len, args := #[.tmp 26], argTypes := #[23] } := Option.some.inj hop
    obtain ⟨u26, hu26, hv26⟩ := hdep 23 (by decide)
    have hv26' : u26 = .slice Nx nnx cnx := hv26
    subst hv26'
    have e26 : a.eval (.tmp 26) = _ := ev_tmp hu26
    refine st3 ho hwt (v := .int .i64 nnx) (w' := w) ?_ (hK _ w rfl (Below.refl _ _))
    unfold execOp
    simp only [hop, resolve, invoke, builtin, Sem.run_bind, Sem.run_pure, Result.andThen_ok, List.map_toArray, List.map_cons, List.map_nil, e26]
    first | rfl | (go_simp; done) | (go_simp; simp; done) | (go_simp; intro h; omega)
  | 25, _, hs, ho, hop, hds, hdep, hK =>
    have hop : o.op = .buildSlice 23 3 #[(0, .tmp 22), (1, .tmp 24), (2, .tmp 27)] := Option.some.inj hop
    obtain ⟨u22, hu22, hv22⟩ := hdep 19 (by decide)
    have hv22' : u22 = .int .i64 x.od := hv22
    subst hv22'
    have e22 : a.eval (.tmp 22) = _ := ev_tmp hu22
    obtain ⟨u24, hu24, hv24⟩ := hdep 21 (by decide)
    have hv24' : u24 = .int .i64 x.nw := hv24
    subst hv24'
    have e24 : a.eval (.tmp 24) = _ := ev_tmp hu24
    obtain ⟨u27, hu27, hv27⟩ := hdep 24 (by decide)
    have hv27' : u27 = .int .i64 nnx := hv27
    subst hv27'
    have e27 : a.eval (.tmp 27) = _ := ev_tmp hu27
    have hrun : (Instr.buildSlice 23 3 #[(0, Value.int .i64 x.od), (1, Value.int .i64 x.nw), (2, Value.int .i64 (nnx : Int))]).run Tryz.prog w = .ok (.slice (some ⟨w.heap.size, 0, none⟩) 3 3) (w.alloc (.cells (cis [x.od, x.nw, (nnx : Int)]).toArray 3)) := by kernel_rfl
    refine st3 ho hwt (v := .slice (some ⟨w.heap.size, 0, none⟩) 3 3) (w' := w.alloc (.cells (cis [x.od, x.nw, (nnx : Int)]).toArray 3)) ?_ (hK _ _ (IsV.new (wf3 hW) (by simp [maxLen])) ((Below.refl _ _).alloc (Nat.le_refl _) _))
    unfold execOp
    simp only [hop, List.map_toArray, List.map_cons, List.map_nil, e22, e24, e27, Sem.run_bind, hrun, Result.andThen_ok]
    rfl
  | 26, _, hs, ho, hop, hds, hdep, hK =>
    have hop : o.op = .call { callee := .value (.func 47), args := #[.tmp 28], argTypes := #[23] } := Option.some.inj hop
    obtain ⟨u28, hu28, hv28⟩ := hdep 25 (by decide)
    have hv28' : IsV w u28 [x.od, x.nw, (nnx : Int)] := hv28
    have e28 : a.eval (.tmp 28) = _ := ev_tmp hu28
    obtain ⟨A, c, rfl, hA⟩ := hv28'
    refine st3_call ho hwt (f := 47) (vals := #[.slice A 3 c]) (Z := fun v w' => BV w' v (ibs [x.od, x.nw, (nnx : Int)]) ∧ Below w.heap.size w w') ?_ ?_ ?_
    · unfold execOp
      simp only [hop, e28, resolve, invoke, Sem.run_bind, Sem.run_pure, Result.andThen_ok, List.map_toArray, List.map_cons, List.map_nil]
      first | rfl | exact enters_of Tryz.func47 (by kernel_rfl) rfl _ _
    · exact (numbers_any A _ c _ w hA (by simp)).mono fun e w' ⟨v, he, hN⟩ => ⟨v, he, BV.ofNew hN, hN.2⟩
    · rintro v w' ⟨h1, h2⟩
      exact hK v w' h1 h2
  | 27, _, hs, ho, hop, hds, hdep, hK =>
    have hop : o.op = .fieldAddr 25 (.tmp 1) 9 := Option.some.inj hop
    have hu1 : a.tmps[1]? = some (.pointer (some ⟨gb, 0, none⟩)) := (hbase.2.2 1 (by decide)).trans x1
    have e1 : a.eval (.tmp 1) = _ := ev_tmp hu1
    refine st3 ho hwt (v := .pointer (some ⟨gb, 9, none⟩)) (w' := w) ?_ (hK _ w rfl (Below.refl _ _))
    unfold execOp
    simp only [hop, Option.map_some, Option.map_none, e1]
    first | rfl | (go_simp; done) | (go_simp; simp; done) | (go_simp; intro h; omega)
  | 28, _, hs, ho, hop, hds, hdep, hK =>
    have hop : o.op = .load 23 (.tmp 30) := Option.some.inj hop
    obtain ⟨u30, hu30, hv30⟩ := hdep 27 (by decide)
    have hv30' : u30 = .pointer (some ⟨gb, 9, none⟩) := hv30
    subst hv30'
    have e30 : a.eval (.tmp 30) = _ := ev_tmp hu30
    refine st3 ho hwt (v := .slice Nx nnx cnx) (w' := w) ?_ (hK _ w rfl (Below.refl _ _))
    have k9 : w.cell? ⟨gb, 9, none⟩ = some (.slice Nx nnx cnx) := (hB.below hbl hB.lt).cell rfl
    unfold execOp
    simp only [hop, Option.map_some, Option.map_none, e30]
    first | rfl | (go_simp; done) | (go_simp; simp; done) | (go_simp; intro h; omega)
  | 29, _, hs, ho, hop, hds, hdep, hK =>
    have hop : o.op = .call { callee := .value (.func 47), args := #[.tmp 31], argTypes := #[23] } := Option.some.inj hop
    obtain ⟨u31, hu31, hv31⟩ := hdep 28 (by decide)
    have hv31' : u31 = .slice Nx nnx cnx := hv31
    subst hv31'
    have e31 : a.eval (.tmp 31) = _ := ev_tmp hu31
    refine st3_call ho hwt (f := 47) (vals := #[.slice Nx nnx cnx]) (Z := fun v w' => BV w' v (ibs x.nx) ∧ Below w.heap.size w w') ?_ ?_ ?_
    · unfold execOp
      simp only [hop, e31, resolve, invoke, Sem.run_bind, Sem.run_pure, Result.andThen_ok, List.map_toArray, List.map_cons, List.map_nil]
      first | rfl | exact enters_of Tryz.func47 (by kernel_rfl) rfl _ _
    · exact (numbers_any Nx nnx cnx x.nx w (hW.2.1.1.after hbl) (by omega)).mono fun e w' ⟨v, he, hN⟩ => ⟨v, he, BV.ofNew hN, hN.2⟩
    · rintro v w' ⟨h1, h2⟩
      exact hK v w' h1 h2
  | 30, _, hs, ho, hop, hds, hdep, hK =>
    have hop : o.op = .buildSlice 61 4 #[(0, .tmp 16), (1, .tmp 20), (2, .tmp 29), (3, .tmp 32)] := Option.some.inj hop
    obtain ⟨u16, hu16, hv16⟩ := hdep 13 (by decide)
    have hv16' : BV w u16 (ibs [x.kd, x.cl, x.sp, x.gr, x.ep, x.bl]) := hv16
    have e16 : a.eval (.tmp 16) = _ := ev_tmp hu16
    obtain ⟨u20, hu20, hv20⟩ := hdep 17 (by decide)
    have hv20' : BV w u20 (sb x.da) := hv20
    have e20 : a.eval (.tmp 20) = _ := ev_tmp hu20
    obtain ⟨u29, hu29, hv29⟩ := hdep 26 (by decide)
    have hv29' : BV w u29 (ibs [x.od, x.nw, (nnx : Int)]) := hv29
    have e29 : a.eval (.tmp 29) = _ := ev_tmp hu29
    obtain ⟨u32, hu32, hv32⟩ := hdep 29 (by decide)
    have hv32' : BV w u32 (ibs x.nx) := hv32
    have e32 : a.eval (.tmp 32) = _ := ev_tmp hu32
    obtain ⟨A1, c1, rfl, hA1⟩ := hv16'
    obtain ⟨A2, c2, rfl, hA2⟩ := hv20'
    obtain ⟨A3, c3, rfl, hA3⟩ := hv29'
    obtain ⟨A4, c4, rfl, hA4⟩ := hv32'
    have hrun : ∀ n1 n2 n3 n4 : Nat, (Instr.buildSlice 61 4 #[(0, .slice A1 n1 c1), (1, .slice A2 n2 c2), (2, .slice A3 n3 c3), (3, .slice A4 n4 c4)]).run Tryz.prog w = .ok (.slice (some ⟨w.heap.size, 0, none⟩) 4 4) (w.alloc (.cells #[.slice A1 n1 c1, .slice A2 n2 c2, .slice A3 n3 c3, .slice A4 n4 c4] 22)) := fun n1 n2 n3 n4 => by kernel_rfl
    refine st3 ho hwt (v := .slice (some ⟨w.heap.size, 0, none⟩) 4 4) (w' := w.alloc (.cells #[.slice A1 _ c1, .slice A2 _ c2, .slice A3 _ c3, .slice A4 _ c4] 22)) ?_ (hK _ _ ⟨_, rfl, bss4 hA1.2 hA2.2 hA3.2 hA4.2⟩ ((Below.refl _ _).alloc (Nat.le_refl _) _))
    unfold execOp
    simp only [hop, List.map_toArray, List.map_cons, List.map_nil, e16, e20, e29, e32, Sem.run_bind, hrun, Result.andThen_ok]
    rfl
  | 31, _, hs, ho, hop, hds, hdep, hK =>
    have hop : o.op = .call { callee := .value (.func 49), args := #[.tmp 33], argTypes := #[61] } := Option.some.inj hop
    obtain ⟨u33, hu33, hv33⟩ := hdep 30 (by decide)
    have hv33' : BssV w u33 4 [ibs [x.kd, x.cl, x.sp, x.gr, x.ep, x.bl], sb x.da, ibs [x.od, x.nw, (nnx : Int)], ibs x.nx] := hv33
    have e33 : a.eval (.tmp 33) = _ := ev_tmp hu33
    obtain ⟨A, rfl, hA⟩ := hv33'
    refine st3_call ho hwt (f := 49) (vals := #[.slice A 4 4]) (Z := fun v w' => MineV w' base v (wb x) ∧ Below w.heap.size w w') ?_ ?_ ?_
    · unfold execOp
      simp only [hop, e33, resolve, invoke, Sem.run_bind, Sem.run_pure, Result.andThen_ok, List.map_toArray, List.map_cons, List.map_nil]
      first | rfl | exact enters_of Tryz.func49 (by kernel_rfl) rfl _ _
    · exact (join_any A 4 4 _ w hA rfl (by omega) (flat_small hm hW.2.1.1.1)).mono fun e w' ⟨v, he, hN⟩ => ⟨v, he, by have h := hN.1; rw [flat_wb hW.2.1.1.1] at h; exact Mine.base h (Nat.le_trans hb0 hbl.size), hN.2⟩
    · rintro v w' ⟨h1, h2⟩
      exact hK v w' h1 h2
  | 32, _, hs, ho, hop, hds, hdep, hK =>
    have hop : o.op = .assign (.tmp 34) := Option.some.inj hop
    obtain ⟨u34, hu34, hv34⟩ := hdep 31 (by decide)
    have hv34' : MineV w base u34 (wb x) := hv34
    have e34 : a.eval (.tmp 34) = _ := ev_tmp hu34
    refine st3 ho hwt (v := _) (w' := w) ?_ (hK _ w hv34 (Below.refl _ _))
    unfold execOp
    rw [hop, ← e34]
    rfl
  | i + 33, hi, _, _, _, _, _, _ => exact absurd hi (by omega)

theorem lit35 (a : Act) (h : a.tmps.size = 35) : ∃ f : Nat → Value, a = { tmps := #[f 0, f 1, f 2, f 3, f 4, f 5, f 6, f 7, f 8, f 9, f 10, f 11, f 12, f 13, f 14, f 15, f 16, f 17, f 18, f 19, f 20, f 21, f 22, f 23, f 24, f 25, f 26, f 27, f 28, f 29, f 30, f 31, f 32, f 33, f 34], defers := a.defers } ∧ ∀ i v, a.tmps[i]? = some v → f i = v := by
  refine ⟨fun i => a.tmps.getD i undef, ?_, fun i v hv => by simp only [Array.getD_eq_getD_getElem?, hv]; rfl⟩
  have e : a.tmps = ((List.range 35).map fun i => a.tmps.getD i undef).toArray := by
    apply Array.ext
    · simp [h]
    · intro i h1 h2
      simp [Array.getD_eq_getD_getElem?, h1]
  cases a with
  | mk t d =>
    simp only [Act.mk.injEq, and_true]
    exact e

set_option maxRecDepth 100000 in
set_option maxHeartbeats 1600000 in
theorem written_wish (x : Wl) (Dx : Option Addr) (ndx cdx : Nat) (Nx : Option Addr) (nnx cnx : Nat) (w : World) (h : ArgW w x Dx ndx cdx Nx nnx cnx) (hm : May x) : Calls Tryz.prog 50 #[.agg #[.int .i64 x.cl, .int .i64 x.sp, .int .i64 x.gr, .int .i64 x.ep, .int .i64 x.kd, .int .i64 x.bl, .slice Dx ndx cdx, .int .i64 x.od, .int .i64 x.nw, .slice Nx nnx cnx]] w (RetB w (wb x)) := by
  have hx := Wx.new (w := w) (x := x) (D := Dx) (nd := ndx) (cd := cdx) (N := Nx) (nn := nnx) (cn := cnx)
  have hw := h.after hx.bel
  have hn7 : nnx ≤ 7 := by have h1 := hm.nums.2.2.2.2.2.2.2.2.2.1; have h2 := h.2.1.1.1; omega
  have H := Lib.hid (And.intro hx.blk (And.intro hx.bel (And.intro hw (And.intro hm hn7))))
  clear hx hw h hm hn7
  go_enter Tryz.func50, Tryz.ntmps50
  go_wp2
  refine region_rule4 (P := Tryz.prog) 33 35 waD waG waS (waR w.heap.size w.heap.size x Dx ndx cdx Nx nnx cnx) _ _ (by kernel_rfl) rfl rfl (by kernel_rfl) (by decide +kernel) (wa_gb w.heap.size w.heap.size x Dx ndx cdx Nx nnx cnx) (wa_sk w.heap.size w.heap.size x Dx ndx cdx Nx nnx cnx) (wa_on w.heap.size w.heap.size x Dx ndx cdx Nx nnx cnx) (wa_step w.heap.size w.heap.size x Dx ndx cdx Nx nnx cnx (by rfl) (by kernel_rfl) rfl H.out.1 H.out.2.2.1 H.out.2.2.2.1 H.out.2.1.size H.out.2.2.2.2) ?fin
  case fin =>
    intro a w6 hbase hbl hall
    obtain ⟨v2, hv2, hR2⟩ := hall 32 (by decide)
    have hM : Mine w6 w.heap.size 5 v2 (wb x) := hR2
    obtain ⟨g, hg, hge⟩ := lit35 a hbase.1
    have q1 : g 1 = .pointer (some ⟨w.heap.size, 0, none⟩) := hge 1 _ ((hbase.2.2 1 (by decide)).trans rfl)
    have q2 : g 2 = v2 := hge 2 _ hv2
    have hdf : a.defers = [] := hbase.2.1
    rw [hdf, q1, q2] at hg
    rw [hg]
    have hbf := H.out.2.1.trans (hbl.mono H.out.2.1.size)
    go_wp2
    go_ret
    exact ⟨v2, rfl, hM, hbf⟩

end Go.Proofs.YtihmddpafbackaaGreat

namespace Go.Proofs.YtihmddpafbackaaGreat

open Go.RowKit Go.Maps

set_option linter.unusedVariables false

set_option linter.unusedSimpArgs false

set_option maxRecDepth 100000 in
set_option maxHeartbeats 1600000 in
theorem bytes_wish (x : Wl) (Dx : Option Addr) (ndx cdx : Nat) (Nx : Option Addr) (nnx cnx : Nat) (w : World) (h : ArgW w x Dx ndx cdx Nx nnx cnx) : Calls Tryz.prog 28 #[.agg #[.int .i64 x.cl, .int .i64 x.sp, .int .i64 x.gr, .int .i64 x.ep, .int .i64 x.kd, .int .i64 x.bl, .slice Dx ndx cdx, .int .i64 x.od, .int .i64 x.nw, .slice Nx nnx cnx]] w (RetBE w (wbytes x)) := by
  have hx := Wx.new (w := w) (x := x) (D := Dx) (nd := ndx) (cd := cdx) (N := Nx) (nn := nnx) (cn := cnx)
  have hw := h.after hx.bel
  have Hc := Lib.hid (check_any x Dx ndx cdx Nx nnx cnx _ hw)
  have H := Lib.hid (And.intro hx hw)
  clear hx hw h
  by_cases hm : May x
  · have hr : Hid (wbytes x = (wb x, 0)) := by show _ = _; unfold wbytes; rw [if_pos hm]
    have hck : chk x = 0 := by unfold chk; rw [if_pos hm]
    rw [hck] at Hc
    have HM := Lib.hid hm
    clear hm hck
    generalize wbytes x = r at *
    go_enter Tryz.func28, Tryz.ntmps28
    go_wp2_with fail
    refine Hc.out.mono ?_
    rintro e w1 ⟨rfl, hb⟩
    have hx1 := H.out.1.on hb
    obtain ⟨⟨k0, k1, k2, k3, k4⟩, k5, k6, k7, k8, k9⟩ := hx1.ks
    have H1 := Lib.hid (And.intro hx1.bel (H.out.2.after hb))
    clear hx1 hb
    go_wp2_with fail
    refine (written_wish x Dx ndx cdx Nx nnx cnx w1 H1.out.2 HM.out).mono ?_
    rintro e w2 ⟨v, rfl, hN⟩
    go_wp2
    go_ret2
    rw [hr.out]
    exact ⟨v, rfl, NewB.later H1.out.1 hN⟩
  · have hr : Hid (wbytes x = ([], 2)) := by show _ = _; unfold wbytes; rw [if_neg hm]
    have hck : chk x = 2 := by unfold chk; rw [if_neg hm]
    rw [hck] at Hc
    clear hm hck
    generalize wbytes x = r at *
    go_enter Tryz.func28, Tryz.ntmps28
    go_wp2_with fail
    refine Hc.out.mono ?_
    rintro e w1 ⟨rfl, hb⟩
    have hb1 := Lib.hid (H.out.1.on hb).bel
    clear hb
    go_wp2
    go_ret2
    rw [hr.out]
    exact ⟨_, rfl, World.ownsRow_nil _ _ _ _, hb1.out⟩

end Go.Proofs.YtihmddpafbackaaGreat

namespace Go.Proofs.YtihmddpafbackaaGreat

open Go.RowKit Go.Maps

set_option linter.unusedVariables false

set_option linter.unusedSimpArgs false

theorem sl_info : (Tryz.prog.info? 22).map (fun i => (i.zero, i.size, i.bytes)) = some (some (.slice none 0 0), 1, 24) := by kernel_rfl

/-- A row of texts that a call owns. -/
def OwnS (w : World) (base : Nat) (v : Value) (vs : List Value) : Prop := w.ownsRow base 22 1 v vs.length vs

def BVs (w : World) (vs : List Value) (ls : List (List UInt8)) : Prop := vs.length = ls.length ∧ ∀ i (hi : i < ls.length), ∃ v, vs[i]? = some v ∧ BV w v ls[i]

theorem BVs.on {w w' : World} {vs : List Value} {ls : List (List UInt8)} (h : BVs w vs ls) (hb : Below w.heap.size w w') : BVs w' vs ls := ⟨h.1, fun i hi => let ⟨v, e, h⟩ := h.2 i hi; ⟨v, e, h.on hb⟩⟩

/-- A row of texts, each of which is none of this row's block. -/
theorem own_bss {w : World} {base n c : Nat} {A : Option Addr} {vs : List Value} {ls : List (List UInt8)} (h : OwnS w base (.slice A n c) vs) (k : BVs w vs ls) (hn : vs.length = n) : Bss w A ls := by
  refine ⟨vs, ?_, fun i hi => ?_⟩
  · rw [← k.1]
    have := Shows.ofOwn (c := c) (by unfold OwnS at h; rw [hn] at h; exact h : w.ownsRow base 22 1 (.slice A n c) n vs)
    rw [hn]; exact this
  · obtain ⟨v, e, A', c', rfl, _, _, h3⟩ := k.2 i hi
    exact ⟨A', c', e, h3⟩

set_option maxRecDepth 100000 in
theorem run_appendS (w : World) (base : Nat) (v : Value) (vs : List Value) (hown : OwnS w base v vs) (g : Nat) (u : Value) (hu : u.oneCell' = true) (hg : Blk w g 22 [u]) (h10 : vs.length < 1000) (hbase : base ≤ w.heap.size) (ty : TypeId) :
    ∃ v' w', (Builtin.append_ #[61, 61] ty #[v, .slice (some ⟨g, 0, none⟩) 1 1]).run Tryz.prog w = .ok v' w' ∧ OwnS w' base v' (vs ++ [u]) ∧ w.grownBy w' v.ownBlock := by
  obtain ⟨i0, hi, hz0, hz1, hz2⟩ := info_parts sl_info
  have hcells : ∀ j z, ([u] : List Value)[j]? = some z → w.cell? ((⟨g, 0, none⟩ : Addr).add j) = some z := fun j z hz => by
    rw [add_mk, Nat.zero_add]; exact hg.cell hz
  obtain ⟨v', w', h1, h2, h3, _, h5⟩ := run_append_own_at (P := Tryz.prog) w base 61 ty 22 i0 _ 1 24 Tryz.underlying61 hi hz0 hz1 hz2 rfl (by decide) v vs.length vs hown ⟨g, 0, none⟩ 1 1 [u]
    (by simp) hcells (by simpa using hu) (by simp only [maxLen]; omega) (by omega) hbase
  exact ⟨v', w', h1, by unfold OwnS; rw [List.length_append]; exact h2, h3⟩

theorem wp_appendS {w : World} {ops : Array Oper} {rest : List Oper} {o : Oper} {a : Act} {Q : Exit → Act → World → Prop} (hgd : o.guard = none) (s x : Operand)
    (ho : o.op = .call { callee := .builtin .append, args := #[s, x], argTypes := #[61, 61] })
    (base : Nat) (v : Value) (vs : List Value) (hs : a.eval s = v) (hown : OwnS w base v vs) (g : Nat) (u : Value) (hx : a.eval x = .slice (some ⟨g, 0, none⟩) 1 1) (hu : u.oneCell' = true) (hg : Blk w g 22 [u])
    (h10 : vs.length < 1000) (hbase : base ≤ w.heap.size)
    (h : ∀ v' w', OwnS w' base v' (vs ++ [u]) → w.grownBy w' v.ownBlock → wpList Tryz.prog ops Q rest (a.put o.dst v') w') :
    wpList Tryz.prog ops Q (o :: rest) a w := by
  obtain ⟨v', w', hrun, h2, h3⟩ := run_appendS w base v vs hown g u hu hg h10 hbase o.type
  refine wpList_plain hgd fun K hK => ?_
  unfold Oper.wp execOp
  simp only [ho, resolve, invoke, builtin, Sem.run_bind, Sem.run_pure, Result.andThen_ok, List.map_toArray, List.map_cons, List.map_nil, hs, hx, hrun]
  exact hK _ _ (h v' w' h2 h3)

/-- Texts whose bytes lie in blocks of bytes. -/
def BVu (w : World) (vs : List Value) (ls : List (List UInt8)) : Prop := vs.length = ls.length ∧ ∀ i (hi : i < ls.length), ∃ A c, vs[i]? = some (.slice A ls[i].length c) ∧ ls[i].length ≤ c ∧ c ≤ maxLen ∧ Bn 0 w A ls[i]

theorem BVu.bvs {w : World} {vs : List Value} {ls : List (List UInt8)} (h : BVu w vs ls) : BVs w vs ls := ⟨h.1, fun i hi => let ⟨A, c, e, h1, h2, h3⟩ := h.2 i hi; ⟨_, e, A, c, rfl, h1, h2, h3.1⟩⟩

theorem BVu.out {S : Nat → Prop} {w w' : World} {vs : List Value} {ls : List (List UInt8)} (h : BVu w vs ls) (ho : Out S w w') (hS : ∀ i, i < w.heap.size → S i → Nu 0 w i) : BVu w' vs ls :=
  ⟨h.1, fun i hi => let ⟨A, c, e, h1, h2, h3⟩ := h.2 i hi; ⟨A, c, e, h1, h2, h3.out ho hS⟩⟩

theorem BVu.on {w w' : World} {vs : List Value} {ls : List (List UInt8)} (h : BVu w vs ls) (hb : Below w.heap.size w w') : BVu w' vs ls := h.out (Out.ofBelow (fun _ => False) hb) (fun _ _ e => e.elim)

theorem BVu.snoc {w : World} {vs : List Value} {ls : List (List UInt8)} {A : Option Addr} {c : Nat} {l : List UInt8} (h : BVu w vs ls) (h1 : l.length ≤ c) (h2 : c ≤ maxLen) (h3 : Bn 0 w A l) : BVu w (vs ++ [.slice A l.length c]) (ls ++ [l]) := by
  refine ⟨by simp [h.1], fun i hi => ?_⟩
  by_cases hlt : i < ls.length
  · obtain ⟨A', c', e, k1, k2, k3⟩ := h.2 i hlt
    rw [List.getElem_append_left hlt]
    exact ⟨A', c', by rw [List.getElem?_append_left (by rw [h.1]; exact hlt)]; exact e, k1, k2, k3⟩
  · have hi' : i = ls.length := by simp at hi; omega
    subst hi'
    rw [List.getElem_append_right (by omega)]
    simp only [Nat.sub_self, List.getElem_cons_zero]
    exact ⟨A, c, by rw [List.getElem?_append_right (by rw [h.1]; omega)]; simp [h.1], h1, h2, h3⟩

/-- A batch's parts, of which so many wishes stand. -/
def prt (l : List Wl) (k : Nat) : List (List UInt8) := ib (l.length : Int) :: (l.take k).map fun x => sb (wb x)

theorem prt_step {l : List Wl} {k : Nat} (h : k < l.length) : prt l (k + 1) = prt l k ++ [sb (wb l[k])] := by
  unfold prt
  rw [List.take_succ_eq_append_getElem h, List.map_append]; simp

theorem prt_len {l : List Wl} {k : Nat} (h : k ≤ l.length) : (prt l k).length = k + 1 := by unfold prt; rw [List.length_cons, List.length_map, List.length_take]; omega

theorem prt_end (l : List Wl) : (prt l l.length).flatten = btB l := by unfold prt btB sbs; rw [List.take_length]; simp

theorem ibs_one (x : Int) : ibs [x] = ib x := by simp [ibs]

theorem oneS (A : Option Addr) (n c : Nat) : (Value.slice A n c).oneCell' = true := rfl

set_option maxRecDepth 100000 in
set_option maxHeartbeats 3200000 in
theorem batch_any (A : Option Addr) (n c : Nat) (l : List Wl) (w : World) (h : ArgL w A n c l) : Calls Tryz.prog 27 #[.slice A n c] w (RetBE w (batchW l)) := by
  have hn := h.1
  by_cases h4 : 4 < n
  · have hr : Hid (batchW l = ([], 5)) := by show _ = _; unfold batchW; rw [if_pos (by omega)]
    have h4' : (4 : Int) < n := by omega
    clear hn h
    generalize batchW l = r at *
    go_enter Tryz.func27, Tryz.ntmps27
    go_wp2
    go_ret2
    rw [hr.out]
    exact ⟨_, rfl, NewB.nil _⟩
  · have h4' : ¬ (4 : Int) < n := by omega
    have hr : Hid (batchW l = if ∀ x ∈ l, May x then (btB l, 0) else ([], 2)) := by show _ = _; unfold batchW; rw [if_neg (by omega)]
    have H := Lib.hid (And.intro h hn)
    clear h hn
    generalize batchW l = r at *
    go_enter Tryz.func27, Tryz.ntmps27
    go_wp2_with fail
    refine (numbers_any _ 1 1 [(n : Int)] _ ⟨rfl, Nat.le_refl _, by simp [maxLen], is_new w [(n : Int)], fun y hy => by rw [List.mem_singleton] at hy; rw [hy]; exact wf_nat (by omega)⟩ (by omega)).mono ?_
    rintro e w1 ⟨v1, rfl, hN⟩
    obtain ⟨A1, c1, rfl, hl1, hc1, _⟩ := hN.form
    have hal : Below w.heap.size w (w.alloc (.cells #[.int .i64 (n : Int)] 3)) := (Below.refl _ _).alloc (Nat.le_refl _) _
    have hb1 : Below w.heap.size w w1 := hal.trans (hN.2.mono hal.size)
    have hM1 := Mine.bn (B0 := 0) hN.1
    have hal2 : Below w1.heap.size w1 (w1.alloc (.cells #[.slice A1 (ibs [(n : Int)]).length c1] 22)) := (Below.refl _ _).alloc (Nat.le_refl _) _
    have hO2 : OwnS (w1.alloc (.cells #[.slice A1 (ibs [(n : Int)]).length c1] 22)) w.heap.size (.slice (some ⟨w1.heap.size, 0, none⟩) 1 1) [.slice A1 (ibs [(n : Int)]).length c1] := blk_own (cs := [.slice A1 (ibs [(n : Int)]).length c1]) hb1.size (Blk.new rfl rfl) (Nat.le_refl _) (by simp [maxLen]) rfl rfl
    have hV2 : BVu (w1.alloc (.cells #[.slice A1 (ibs [(n : Int)]).length c1] 22)) [.slice A1 (ibs [(n : Int)]).length c1] (prt l 0) := by
      refine ⟨rfl, fun i hi => ?_⟩
      have hi0 : i = 0 := by simp [prt] at hi; omega
      subst hi0
      have e : (prt l 0)[0] = ibs [(n : Int)] := by simp only [prt, List.getElem_cons_zero, H.out.2, ibs_one]
      rw [e]
      exact ⟨A1, c1, rfl, hl1, hc1, hM1.2.2.2.bel hal2⟩
    have H2 := Lib.hid (And.intro hO2 (And.intro hV2 (hb1.trans (hal2.mono hb1.size))))
    clear hN hl1 hc1 hal hb1 hM1 hal2 hO2 hV2
    go_wp2
    go_loopw [4, 19] (fun v i wr => ∃ (k : Nat) (vs : List Value), k ≤ n ∧ i = .int .i64 k ∧ Hid (OwnS wr w.heap.size v vs ∧ BVu wr vs (prt l k) ∧ (∀ j (hj : j < l.length), j < k → May l[j]) ∧ Below w.heap.size w wr)) (fun _ i _ => n - (intOf i).toNat)
    case atStart => exact ⟨0, _, Nat.zero_le _, rfl, H2.out.1, H2.out.2.1, fun j _ hj => by omega, H2.out.2.2⟩
    case round =>
      obtain ⟨k, vs, hk, rfl, hI⟩ := hrel
      by_cases hlt : k < n
      · have hlt' : (k : Int) < n := by omega
        have hkl : k < l.length := by rw [H.out.2]; exact hlt
        obtain ⟨b, off, D, nd, cd, N, nn, cn, hA, hb, hrg, hAW⟩ := (H.out.1.after hI.out.2.2.2).at_ hkl
        have Hst := Lib.hid (And.intro (prt_step hkl) (prt_len (l := l) (k := k) (by omega)))
        have hmay : May l[k] → ∀ j (hj : j < l.length), j < k + 1 → May l[j] := fun hm j hj hjk => by
          by_cases e : j = k
          · subst e; exact hm
          · exact hI.out.2.2.1 j hj (by omega)
        have hnot : ¬ May l[k] → ¬ ∀ x ∈ l, May x := fun hm hall => hm (hall _ (List.getElem_mem hkl))
        have Hm := Lib.hid (And.intro hmay hnot)
        clear hmay hnot
        generalize l[k] = x at *
        obtain ⟨⟨k0, k1, k2, k3, k4⟩, k5, k6, k7, k8, k9⟩ := range_ks hrg
        simp only at k0 k1 k2 k3 k4 k5 k6 k7 k8 k9
        have hbx : Below wr.heap.size wr (wr.alloc (.cells #[.int .i64 x.cl, .int .i64 x.sp, .int .i64 x.gr, .int .i64 x.ep, .int .i64 x.kd, .int .i64 x.bl, .slice D nd cd, .int .i64 x.od, .int .i64 x.nw, .slice N nn cn] 25)) := (Below.refl _ _).alloc (Nat.le_refl _) _
        have Hx := Lib.hid (And.intro (hAW.after hbx) hbx)
        subst hA
        clear hrg hAW hbx hkl
        go_wp2_with fail
        by_cases hm : May x
        · have hw : wbytes x = (wb x, 0) := by unfold wbytes; rw [if_pos hm]
          have hc := bytes_wish x D nd cd N nn cn _ Hx.out.1
          rw [hw] at hc
          have hlen := (wb_len hm).2
          have hall := Lib.hid (Hm.out.1 hm)
          have Hlen := Lib.hid hlen
          clear hw hm hlen
          refine hc.mono ?_
          clear hc
          rintro e w3 ⟨v3, rfl, hN3⟩
          obtain ⟨A3, c3, rfl, hl3, hc3, hB3⟩ := hN3.form
          have hb3 : Below wr.heap.size wr w3 := Hx.out.2.trans (hN3.2.mono Hx.out.2.size)
          have H3 := Lib.hid (And.intro hb3 (And.intro hl3 (And.intro hc3 hB3)))
          clear hN3 hb3 hl3 hc3 hB3
          simp only
          obtain ⟨q, hq⟩ : ∃ q, (wb x).length = q := ⟨_, rfl⟩
          rw [hq]
          have Hq := Lib.hid hq
          clear hq
          go_wp2_with fail
          refine (text_any A3 q c3 (wb x) w3 H3.out.2.2.2 Hq.out (by have := Hlen.out; have := Hq.out; unfold maxLen; omega)).mono ?_
          rintro e w4 ⟨v4, rfl, hN4⟩
          obtain ⟨A4, c4, rfl, hl4, hc4, _⟩ := hN4.form
          have hM4 := (Mine.bn (B0 := 0) hN4.1).2.2.2
          have hb4 : Below wr.heap.size wr w4 := H3.out.1.trans (hN4.2.mono H3.out.1.size)
          have hal : Below w4.heap.size w4 (w4.alloc (.cells #[.slice A4 (sb (wb x)).length c4] 22)) := (Below.refl _ _).alloc (Nat.le_refl _) _
          have hb5 : Below wr.heap.size wr (w4.alloc (.cells #[.slice A4 (sb (wb x)).length c4] 22)) := hb4.trans (hal.mono hb4.size)
          have hO5 : OwnS (w4.alloc (.cells #[.slice A4 (sb (wb x)).length c4] 22)) w.heap.size u4 vs := own_below hI.out.1 hb5
          have hV5 := (hI.out.2.1.on hb5).snoc hl4 hc4 (hM4.bel hal)
          rw [← Hst.out.1] at hV5
          have hvl : vs.length < 1000 := by rw [hI.out.2.1.1, Hst.out.2]; omega
          have H5 := Lib.hid (And.intro hO5 (And.intro hV5 (hI.out.2.2.2.trans (hb5.mono hI.out.2.2.2.size))))
          clear hN4 hl4 hc4 hM4 hb4 hal hb5 hO5 hV5
          simp only
          go_wp2_with (at_builtin; refine wp_appendS rfl _ _ rfl w.heap.size _ vs rfl H5.out.1 _ _ rfl (oneS _ _ _) (Blk.new rfl rfl) hvl H5.out.2.2.size ?_; intro v6 w6 hO6 hg6)
          go_roundw
          case rel =>
            have hgo := grown_out hg6
            refine ⟨k + 1, _, by omega, by go_num, hO6, H5.out.2.1.out hgo (fun i _ e => Nu.own H5.out.1 (Nat.zero_le _) (by decide) i e), hall.out, H5.out.2.2.grown hg6 H5.out.2.2.size (fun i hi => (World.ownsRow.lt H5.out.1 i hi).1)⟩
          case measure => simp [intOf]; omega
        · have hw : wbytes x = ([], 2) := by unfold wbytes; rw [if_neg hm]
          have hc := bytes_wish x D nd cd N nn cn _ Hx.out.1
          rw [hw] at hc
          have Hr : Hid (r = ([], 2)) := by show _ = _; rw [hr.out, if_neg (Hm.out.2 hm)]
          clear hw hm
          refine hc.mono ?_
          clear hc
          rintro e w3 ⟨v3, rfl, hN3⟩
          obtain ⟨A3, c3, rfl, hl3, hc3, _⟩ := hN3.form
          have hb3 := hI.out.2.2.2.trans ((Hx.out.2.trans (hN3.2.mono Hx.out.2.size)).mono hI.out.2.2.2.size)
          have H3 := Lib.hid hb3
          clear hN3 hb3 hl3 hc3
          go_wp2
          go_ret2
          rw [Hr.out]
          exact ⟨_, rfl, World.ownsRow_nil _ _ _ _, H3.out⟩
      · have hlt' : ¬ (k : Int) < n := by omega
        have hkn : k = l.length := by have := H.out.2; omega
        have Hr : Hid (r = (btB l, 0)) := by
          show _ = _
          rw [hr.out, if_pos]
          intro x hx
          obtain ⟨j, hj, rfl⟩ := List.mem_iff_getElem.1 hx
          exact hI.out.2.2.1 j hj (by omega)
        have hmay : ∀ x ∈ l, May x := by
          intro x hx
          obtain ⟨j, hj, rfl⟩ := List.mem_iff_getElem.1 hx
          exact hI.out.2.2.1 j hj (by omega)
        have hbl := (btB_len (by omega) hmay).2
        have hln := H.out.2
        have hvl : vs.length = l.length + 1 := by rw [hI.out.2.1.1, hkn, prt_len (Nat.le_refl _)]
        obtain ⟨A6, c6, hu4⟩ := row_form hI.out.1
        rw [hvl] at hu4
        obtain ⟨nv, hnv⟩ : ∃ nv, l.length + 1 = nv := ⟨_, rfl⟩
        rw [hnv] at hu4 hvl
        subst hu4
        have hV := hI.out.2.1
        rw [hkn] at hV
        have hBs := own_bss hI.out.1 hV.bvs hvl
        have hj := join_any A6 c6 nv (prt l l.length) wr hBs (by rw [prt_len (Nat.le_refl _)]; exact hnv) (by omega) (by rw [prt_end]; omega)
        rw [prt_end] at hj
        have Hj := Lib.hid hj
        have Hb := Lib.hid hI.out.2.2.2
        clear hI hkn hmay hbl hvl hV hBs hj hnv hln
        go_wp2_with fail
        refine Hj.out.mono ?_
        rintro e w7 ⟨v7, rfl, hN7⟩
        go_wp2
        go_ret2
        rw [Hr.out]
        exact ⟨_, rfl, NewB.later Hb.out hN7⟩

end Go.Proofs.YtihmddpafbackaaGreat
