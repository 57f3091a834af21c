/-
  Laid together for a hand-in: Rnd, RoundS, Primes, Cubes, Dig2, Hash.
-/
import Derived.Test.YtihmddpafbackaaGreatZ02
import Derived.Test.YtihmddpafbackaaGreatZ01
import Derived.Deep.DeepCutAuto
import Derived.Deep.RegionWith
import Derived.Deep.RegionLaw
import Derived.Outline

namespace Go.Proofs.YtihmddpafbackaaGreat

open Go.RowKit

set_option linter.unusedVariables false

def l8 (s : S8) : List Value := [.int .u32 (s.a.toNat : Int), .int .u32 (s.b.toNat : Int), .int .u32 (s.c.toNat : Int), .int .u32 (s.d.toNat : Int), .int .u32 (s.e.toNat : Int), .int .u32 (s.f.toNat : Int), .int .u32 (s.g.toNat : Int), .int .u32 (s.h.toNat : Int)]

def v8 (s : S8) : Value := .agg (l8 s).toArray

/-- A quiet call behind a quiet region. -/
theorem quiet_more {P : Program} {f : FuncId} {args : Array Value} {w : World} {a n : Nat} {v : Value}
    (h : Calls P f args (w.drewN (a + n)) fun e w' => e = .returned v ∧ ∃ m, w' = (w.drewN (a + n)).drewN m) :
    Calls P f args (w.drewN (a + n)) fun e w'' => e = .returned v ∧ ∃ m, w'' = w.drewN (a + m) :=
  h.mono fun _ _ ⟨he, m, hm⟩ => ⟨he, n + m, by rw [hm, World.drewN_drewN, Nat.add_assoc]⟩

theorem w_nota (x : UInt32) : bits .xor .u32 (if IntKind.u32.signed = true then -1 else IntKind.u32.max) (x.toNat : Int) = ((~~~x).toNat : Int) := w_not x

theorem i_tee (t : S8) (k w : UInt32) : ((t.h.toNat : Int) + bits .xor .u32 (bits .xor .u32 ((rotr t.e 6).toNat : Int) ((rotr t.e 11).toNat : Int)) ((rotr t.e 25).toNat : Int) +
    bits .xor .u32 (bits .and .u32 (t.e.toNat : Int) (t.f.toNat : Int)) (bits .and .u32 (bits .xor .u32 (if IntKind.u32.signed = true then -1 else IntKind.u32.max) (t.e.toNat : Int)) (t.g.toNat : Int)) + (k.toNat : Int) + (w.toNat : Int)) % 4294967296 = ((tee t k w).toNat : Int) := by
  rw [w_nota, w_xor, w_xor, w_and, w_and, w_xor]
  unfold tee
  simp only [UInt32.toNat_add]
  omega

theorem cw_new (t : S8) (k w : UInt32) : Value.int .u32 (((t.h.toNat : Int) + bits .xor .u32 (bits .xor .u32 ((rotr t.e 6).toNat : Int) ((rotr t.e 11).toNat : Int)) ((rotr t.e 25).toNat : Int) +
    bits .xor .u32 (bits .and .u32 (t.e.toNat : Int) (t.f.toNat : Int)) (bits .and .u32 (bits .xor .u32 (if IntKind.u32.signed = true then -1 else IntKind.u32.max) (t.e.toNat : Int)) (t.g.toNat : Int)) + (k.toNat : Int) + (w.toNat : Int) +
    (bits .xor .u32 (bits .xor .u32 ((rotr t.a 2).toNat : Int) ((rotr t.a 13).toNat : Int)) ((rotr t.a 22).toNat : Int) +
      bits .xor .u32 (bits .xor .u32 (bits .and .u32 (t.a.toNat : Int) (t.b.toNat : Int)) (bits .and .u32 (t.a.toNat : Int) (t.c.toNat : Int))) (bits .and .u32 (t.b.toNat : Int) (t.c.toNat : Int)))) % 4294967296) = cw (tee t k w + uuu t) := by
  have h := i_tee t k w
  have hu : (bits .xor .u32 (bits .xor .u32 ((rotr t.a 2).toNat : Int) ((rotr t.a 13).toNat : Int)) ((rotr t.a 22).toNat : Int) +
      bits .xor .u32 (bits .xor .u32 (bits .and .u32 (t.a.toNat : Int) (t.b.toNat : Int)) (bits .and .u32 (t.a.toNat : Int) (t.c.toNat : Int))) (bits .and .u32 (t.b.toNat : Int) (t.c.toNat : Int))) % 4294967296 = ((uuu t).toNat : Int) := by
    rw [w_xor, w_xor, w_and, w_and, w_and, w_xor, w_xor, w_add]; rfl
  unfold cw
  rw [← w_add, ← h, ← hu, Int.add_emod]

theorem cw_mid (t : S8) (k w : UInt32) : Value.int .u32 (((t.d.toNat : Int) + ((t.h.toNat : Int) + bits .xor .u32 (bits .xor .u32 ((rotr t.e 6).toNat : Int) ((rotr t.e 11).toNat : Int)) ((rotr t.e 25).toNat : Int) +
    bits .xor .u32 (bits .and .u32 (t.e.toNat : Int) (t.f.toNat : Int)) (bits .and .u32 (bits .xor .u32 (if IntKind.u32.signed = true then -1 else IntKind.u32.max) (t.e.toNat : Int)) (t.g.toNat : Int)) + (k.toNat : Int) + (w.toNat : Int))) % 4294967296) = cw (t.d + tee t k w) := by
  have h := i_tee t k w
  have hx : ∀ X : Int, ((t.d.toNat : Int) + X) % 4294967296 = ((t.d.toNat : Int) + X % 4294967296) % 4294967296 := fun X => by omega
  unfold cw
  rw [← w_add, ← h]
  exact congrArg (Value.int .u32) (hx _)

/-- The last loop: the first k words are added. -/
def mix (t s : S8) (k : Nat) : List UInt32 := (List.range 8).map fun j => if j < k then t.list.getD j 0 + s.list.getD j 0 else t.list.getD j 0

theorem mix_0 (t s : S8) : cws (mix t s 0) = l8 t := rfl

theorem mix_8 (t s : S8) : cws (mix t s 8) = l8 (t.add s) := rfl

theorem mix_len (t s : S8) (k : Nat) : (mix t s k).length = 8 := by simp [mix]

theorem mix_at {t s : S8} {k : Nat} (h : k < 8) : (cws (mix t s k))[k]? = some (.int .u32 ((t.list.getD k 0).toNat : Int)) := by
  rw [cws_get _ _ (by rw [mix_len]; exact h)]
  simp [mix]

theorem mix_set (t s : S8) (k : Nat) (h : k < 8) : (cws (mix t s k)).set k (cw (t.list.getD k 0 + s.list.getD k 0)) = cws (mix t s (k + 1)) := by
  rw [cws_set]
  congr 1
  apply List.ext_getElem
  · simp [mix]
  · intro i h1 h2
    rw [List.getElem_set]
    by_cases hi : k = i
    · subst hi; simp [mix]
    · simp only [hi, if_false]
      simp only [mix, List.getElem_map, List.getElem_range]
      by_cases h3 : i < k
      · rw [if_pos h3, if_pos (by omega)]
      · rw [if_neg h3, if_neg (by omega)]

theorem l8_at (s : S8) {k : Nat} (h : k < 8) : (l8 s)[k]? = some (.int .u32 ((s.list.getD k 0).toNat : Int)) := by
  have : l8 s = cws s.list := rfl
  rw [this, cws_get _ _ (by exact h), List.getD_eq_getElem?_getD, List.getElem?_eq_getElem (by exact h)]
  rfl

theorem KK_cell {j : Nat} (h : j < 64) : (cws KK)[j]? = some (.int .u32 ((KK.getD j 0).toNat : Int)) := by
  rw [cws_get KK j (by rw [KK_len]; exact h), List.getD_eq_getElem?_getD, List.getElem?_eq_getElem (by rw [KK_len]; exact h)]
  rfl

/-- What stands while Round's first statement runs. -/
def Good (w : World) (s : S8) (bs : List UInt8) (W : World) : Prop :=
  Blk W w.heap.size 97 (l8 s) ∧ Blk W (w.heap.size + 1) 99 (cbs bs) ∧ (∃ z, Blk W (w.heap.size + 1 + 1) 97 z ∧ z.length = 8) ∧ Below w.heap.size w W

theorem Good.lt {w : World} {s : S8} {bs : List UInt8} {W : World} (h : Good w s bs W) : w.heap.size + 2 < W.heap.size := by
  obtain ⟨_, _, ⟨z, h, _⟩, _⟩ := h; exact h.lt

theorem Good.alloc {w : World} {s : S8} {bs : List UInt8} {W : World} (h : Good w s bs W) (o : Obj) : Good w s bs (W.alloc o) := by
  obtain ⟨h1, h2, ⟨z, h3, h4⟩, h5⟩ := h
  exact ⟨h1.old o, h2.old o, ⟨z, h3.old o, h4⟩, h5.alloc h5.size o⟩

theorem Good.below {w : World} {s : S8} {bs : List UInt8} {W W' : World} (h : Good w s bs W) (hb : Below W.heap.size W W') : Good w s bs W' := by
  obtain ⟨h1, h2, ⟨z, h3, h4⟩, h5⟩ := h
  exact ⟨h1.below hb h1.lt, h2.below hb h2.lt, ⟨z, h3.below hb h3.lt, h4⟩, h5.trans (hb.mono h5.size)⟩

theorem Good.set_ {w : World} {s : S8} {bs : List UInt8} {W : World} (h : Good w s bs W) {g : Nat} (hg : w.heap.size + 2 < g) (vs : List Value) : Good w s bs (W.setCells g 0 vs) := by
  obtain ⟨h1, h2, ⟨z, h3, h4⟩, h5⟩ := h
  exact ⟨Blk.farAll (by omega) vs h1, Blk.farAll (by omega) vs h2, ⟨z, Blk.farAll (by omega) vs h3, h4⟩, Below.setCells (by omega) vs h5⟩

theorem Good.drew_ {w : World} {s : S8} {bs : List UInt8} {W : World} : Good w s bs W.drew = Good w s bs W := by
  apply propext
  exact ⟨fun ⟨h1, h2, h3, h5⟩ => ⟨h1, h2, h3, ⟨h5.os, h5.tape, h5.output, h5.size, h5.block⟩⟩, fun ⟨h1, h2, h3, h5⟩ => ⟨h1, h2, h3, h5.drew⟩⟩

def zero64 : List Value := List.replicate 64 (.int .u32 0)

/-- A new array of 64 words. -/
def ZB (W : World) (g : Nat) : Prop := Blk W g 116 zero64

theorem ZB.below {W W' : World} (hb : Below W.heap.size W W') {g : Nat} (h : ZB W g) : ZB W' g := Blk.below h hb (Blk.lt h)

theorem ZB.new_ (W : World) : ZB (W.alloc (.cells zero64.toArray 116)) W.heap.size := Blk.new rfl rfl

theorem ZB.new2 (W : World) (o : Obj) : ZB ((W.alloc o).alloc (.cells zero64.toArray 116)) (W.heap.size + 1) := Blk.new rfl (by simp)

theorem ZB.drew_ {W : World} {g : Nat} : ZB W.drew g = ZB W g := rfl

theorem run_good {w : World} {s : S8} {bs : List UInt8} {W : World} (h : Good w s bs W) (hl : bs.length = 64) :
    (Instr.loadAt 99 (.pointer (some ⟨w.heap.size + 1, 0, none⟩))).run Tryz.prog W = .ok (.agg (cbs bs).toArray) W := by
  have hi : (Tryz.prog.info? 99).map (·.size) = some (cbs bs).length := by
    rw [cbs_length, hl]; kernel_rfl
  refine run_loadAt_mid W _ 0 _ (cbs bs) _ ?_ Tryz.underlying99 rfl hi
  intro j v hv
  rw [Nat.zero_add]
  exact h.2.1.cell hv

theorem step_load {P : Program} {ops : Array Oper} {o : Oper} {a : Act} {w : World} {K : Act → World → Prop} {Q : Exit → Act → World → Prop} {E : Prop} (hgd : o.guard = none) (ty : TypeId) (x : Operand) (ho : o.op = .load ty x)
    (b off : Nat) (hx : a.eval x = .pointer (some ⟨b, off, none⟩)) (cs : List Value) (d : TypeDesc) (hc : w.rangeAt b off cs)
    (hu : P.underlying ty = some d) (hd : d.isRow = true) (hi : (P.info? ty).map (·.size) = some cs.length)
    (h : K (a.put o.dst (.agg cs.toArray)) w) : if Region.wanted o (yielded ops a.tmps) = true then Oper.wp P o a w K Q else E := by
  have hw : Region.wanted o (yielded ops a.tmps) = true := by simp [Region.wanted, hgd]
  rw [if_pos hw]
  exact wp_load_mid ty x ho b off hx cs d hc hu hd hi h

theorem step_store {P : Program} {ops : Array Oper} {o : Oper} {a : Act} {w : World} {K : Act → World → Prop} {Q : Exit → Act → World → Prop} {E : Prop} (hgd : o.guard = none) (ty : TypeId) (x y : Operand) (ho : o.op = .store ty x y)
    (b off : Nat) (cells : Array Value) (hx : a.eval x = .pointer (some ⟨b, off, none⟩)) (hy : a.eval y = .agg cells)
    (ht : w.there b off cells.size) (hi : (P.info? ty).map (·.size) = some cells.size) (h1 : cells.all (·.oneCell') = true)
    (h : K (a.put o.dst undef) (w.setCells b off cells.toList)) : if Region.wanted o (yielded ops a.tmps) = true then Oper.wp P o a w K Q else E := by
  have hw : Region.wanted o (yielded ops a.tmps) = true := by simp [Region.wanted, hgd]
  rw [if_pos hw]
  exact wp_store_mid ty x y ho b off cells hx hy ht hi h1 h

theorem Good.range {w : World} {s : S8} {bs : List UInt8} {W : World} (h : Good w s bs W) : W.rangeAt (w.heap.size + 1) 0 (cbs bs) := by
  intro j v hv
  rw [Nat.zero_add]
  exact h.2.1.cell hv

theorem ZB.there_ {W : World} {g n : Nat} (h : ZB W g) (hn : n = 64) : W.there g 0 n := by
  subst hn
  have := Blk.there h
  unfold zero64 at this
  rwa [List.length_replicate] at this

theorem range_below {W W' : World} {b o : Nat} {cs : List Value} (hb : Below W.heap.size W W') (h : W.rangeAt b o cs) : W'.rangeAt b o cs := by
  intro j v hv
  have hc := h j v hv
  exact (hb.cell (World.block_lt_of_cell? W _ hc)).trans hc

theorem run_zero {W : World} {g : Nat} (h : ZB W g) (l : List UInt32) (hl : l.length = 64) :
    (Instr.storeAt 116 (.pointer (some ⟨g, 0, none⟩)) (.agg (cws l).toArray)).run Tryz.prog W = .ok () (W.setCells g 0 (cws l)) := by
  have hs : (cws l).toArray.size = 64 := by rw [List.size_toArray, cws_length, hl]
  refine run_storeAt_mid W g 0 _ (cws l).toArray ?_ (by rw [hs, info64w]) (cws_one l)
  rw [hs]
  have := Blk.there h
  unfold zero64 at this
  rwa [List.length_replicate] at this

theorem rangeAt_cell {w : World} {b o : Nat} {cs : List Value} (h : w.rangeAt b o cs) {j : Nat} {v : Value} (hv : cs[j]? = some v) : w.cell? ⟨b, o + j, none⟩ = some v := h j v hv

end Go.Proofs.YtihmddpafbackaaGreat

namespace Go.Proofs.YtihmddpafbackaaGreat

open Go.RowKit

set_option linter.unusedVariables false

theorem i_uuu (t : S8) : ((bits .xor .u32 (bits .xor .u32 ((rotr t.a 2).toNat : Int) ((rotr t.a 13).toNat : Int)) ((rotr t.a 22).toNat : Int) +
      bits .xor .u32 (bits .xor .u32 (bits .and .u32 (t.a.toNat : Int) (t.b.toNat : Int)) (bits .and .u32 (t.a.toNat : Int) (t.c.toNat : Int))) (bits .and .u32 (t.b.toNat : Int) (t.c.toNat : Int))) % 4294967296) = ((uuu t).toNat : Int) := by
  rw [w_xor, w_xor, w_and, w_and, w_and, w_xor, w_xor, w_add]; rfl

theorem Blk.drewN_ {w : World} {g : Nat} {t : TypeId} {cs : List Value} (h : Blk w g t cs) (n : Nat) : Blk (w.drewN n) g t cs := h

theorem range_drewN {w : World} {b o : Nat} {cs : List Value} (h : w.rangeAt b o cs) (n : Nat) : (w.drewN n).rangeAt b o cs := fun j v hv => h j v hv

def s8s (s t : S8) : List Value := [.int .u32 (((s.a.toNat : Int) + (t.a.toNat : Int)) % 4294967296), .int .u32 (((s.b.toNat : Int) + (t.b.toNat : Int)) % 4294967296), .int .u32 (((s.c.toNat : Int) + (t.c.toNat : Int)) % 4294967296), .int .u32 (((s.d.toNat : Int) + (t.d.toNat : Int)) % 4294967296), .int .u32 (((s.e.toNat : Int) + (t.e.toNat : Int)) % 4294967296), .int .u32 (((s.f.toNat : Int) + (t.f.toNat : Int)) % 4294967296), .int .u32 (((s.g.toNat : Int) + (t.g.toNat : Int)) % 4294967296), .int .u32 (((s.h.toNat : Int) + (t.h.toNat : Int)) % 4294967296)]

theorem s8s_eq (s : S8) (bs : List UInt8) : s8s s (steps8 bs s 64) = l8 (rnd s bs) := by
  unfold s8s rnd S8.add l8
  simp only [w_add, UInt32.add_comm]

set_option maxRecDepth 100000 in
set_option maxHeartbeats 3200000 in
theorem rounds_any (s : S8) (bs : List UInt8) (gk ok : Nat) (w : World) (hl : bs.length = 64) (hk : w.rangeAt gk ok (cws KK)) :
    Calls Tryz.prog 107 #[v8 s, .agg (cbs bs).toArray, .pointer (some ⟨gk, ok, none⟩)] w fun e w' => e = .returned (v8 (rnd s bs)) ∧ Below w.heap.size w w' := by
  have hgk : gk < w.heap.size := World.block_lt_of_cell? w _ (hk 0 _ (KK_cell (j := 0) (by decide)))
  have Hl := Lib.hid hl
  have Hk := Lib.hid hk
  have hv : v8 s = .agg #[.int .u32 (s.a.toNat : Int), .int .u32 (s.b.toNat : Int), .int .u32 (s.c.toNat : Int), .int .u32 (s.d.toNat : Int), .int .u32 (s.e.toNat : Int), .int .u32 (s.f.toNat : Int), .int .u32 (s.g.toNat : Int), .int .u32 (s.h.toNat : Int)] := rfl
  rw [hv]
  clear hv hl hk
  have hi : (Tryz.prog.info? 99).map (·.size) = some (cbs bs).toArray.size := by
    rw [List.size_toArray, cbs_length, Hl.out]; kernel_rfl
  have Hi := Lib.hid hi
  clear hi
  have hB1 : Blk (((w.alloc (.cells #[.int .u32 (s.a.toNat : Int), .int .u32 (s.b.toNat : Int), .int .u32 (s.c.toNat : Int), .int .u32 (s.d.toNat : Int), .int .u32 (s.e.toNat : Int), .int .u32 (s.f.toNat : Int), .int .u32 (s.g.toNat : Int), .int .u32 (s.h.toNat : Int)] 97)).alloc (.cells (cbs bs).toArray 99)).alloc (.cells #[.int .u32 0, .int .u32 0, .int .u32 0, .int .u32 0, .int .u32 0, .int .u32 0, .int .u32 0, .int .u32 0] 97)) (w.heap.size + 1) 99 (cbs bs) := (Blk.new rfl (by simp)).old _
  have HB1 := Lib.hid hB1
  clear hB1
  go_enter Tryz.func107, Tryz.ntmps107
  go_upto_region 1 with fail
  go_cut [7] (fun p wx => ∃ g : Nat, p = .pointer (some ⟨g, 0, none⟩) ∧ w.heap.size + 2 < g ∧ Blk wx g 116 (cws (sch bs 64)) ∧ Blk wx w.heap.size 97 (l8 s) ∧
      (∃ z, Blk wx (w.heap.size + 1 + 1) 97 z ∧ z.length = 8) ∧ Below w.heap.size w wx)
  case first =>
    go_wp2_with (refine wpList_load_row rfl 99 _ rfl (w.heap.size + 1) rfl 99 (cbs bs).toArray (0, 0) _ HB1.out Tryz.underlying99 rfl Hi.out ?_)
    refine (scheds_any bs _ Hl.out).mono ?_
    rintro e w1 ⟨rfl, b1⟩
    have g1 := b1.size
    simp only [World.size_alloc] at g1
    have hS1 : Blk w1 w.heap.size 97 (l8 s) := Blk.below (((Blk.new rfl rfl).old _).old _) b1 (by simp; omega)
    have hZ1 : Blk w1 (w.heap.size + 1 + 1) 97 (l8 ⟨0, 0, 0, 0, 0, 0, 0, 0⟩) := Blk.below (Blk.new rfl (by simp)) b1 (by simp)
    have hnx1 : Below w.heap.size w w1 := ((((Below.refl _ _).alloc (Nat.le_refl _) _).alloc (by simp) _).alloc (by simp; omega) _).trans (b1.mono (by simp; omega))
    have hW0 : Blk (w1.alloc (.cells (List.replicate 64 (Value.int .u32 0)).toArray 116)) w1.heap.size 116 zero64 := Blk.new rfl rfl
    have hws : (cws (sch bs 64)).toArray.size = 64 := sch_size bs 64
    have hth : (w1.alloc (.cells (List.replicate 64 (Value.int .u32 0)).toArray 116)).there w1.heap.size 0 (cws (sch bs 64)).toArray.size := by
      rw [hws]
      exact ZB.there_ hW0 rfl
    have hi2 : (Tryz.prog.info? 116).map (·.size) = some (cws (sch bs 64)).toArray.size := by rw [hws, info64w]
    have hW := hW0.setAll (vs := cws (sch bs 64)) (by rw [cws_length, sch_len]; rfl)
    have hS2 := Blk.farAll (g' := w1.heap.size) (by omega) (cws (sch bs 64)) (w := w1.alloc (.cells (List.replicate 64 (Value.int .u32 0)).toArray 116)) (o := 0) (hS1.old _)
    have hZ2 := Blk.farAll (g' := w1.heap.size) (by omega) (cws (sch bs 64)) (w := w1.alloc (.cells (List.replicate 64 (Value.int .u32 0)).toArray 116)) (o := 0) (hZ1.old _)
    have hnx2 : Below w.heap.size w ((w1.alloc (.cells (List.replicate 64 (Value.int .u32 0)).toArray 116)).setCells w1.heap.size 0 (cws (sch bs 64))) := Below.setCells (by omega) _ (hnx1.alloc (by omega) _)
    have Hth := Lib.hid hth
    have Hi2 := Lib.hid hi2
    have Hone := Lib.hid (cws_one (sch bs 64))
    have HW := Lib.hid (And.intro hW (And.intro hS2 (And.intro hZ2 hnx2)))
    clear hS1 hZ1 hnx1 hW0 hws hth hi2 b1 hW hS2 hZ2 hnx2
    go_wp2_with (refine wpList_store_mid rfl 116 _ _ rfl w1.heap.size 0 (cws (sch bs 64)).toArray rfl rfl Hth.out Hi2.out Hone.out ?_)
    go_meet
    exact ⟨w1.heap.size, rfl, by omega, HW.out.1, HW.out.2.1, ⟨_, HW.out.2.2.1, rfl⟩, HW.out.2.2.2⟩
  case rest =>
    obtain ⟨g, rfl, hg, hW, hS, ⟨z, hZ, hz⟩, hnx⟩ := hcut
    have hK0 : wc.rangeAt gk ok (cws KK) := fun j v hv => (hnx.cell (p := ⟨gk, ok + j, none⟩) hgk).trans (Hk.out j v hv)
    have HK0 := Lib.hid hK0
    clear hK0
    have c0 := hS.cell (i := 0) (v := .int .u32 (s.a.toNat : Int)) rfl
    have c1 := hS.cell (i := 1) (v := .int .u32 (s.b.toNat : Int)) rfl
    have c2 := hS.cell (i := 2) (v := .int .u32 (s.c.toNat : Int)) rfl
    have c3 := hS.cell (i := 3) (v := .int .u32 (s.d.toNat : Int)) rfl
    have c4 := hS.cell (i := 4) (v := .int .u32 (s.e.toNat : Int)) rfl
    have c5 := hS.cell (i := 5) (v := .int .u32 (s.f.toNat : Int)) rfl
    have c6 := hS.cell (i := 6) (v := .int .u32 (s.g.toNat : Int)) rfl
    have c7 := hS.cell (i := 7) (v := .int .u32 (s.h.toNat : Int)) rfl
    go_wp2
    go_quiet (fail)
    go_wp2
    go_loopw [8, 9, 10, 11, 12, 13, 14, 15, 37] (fun pa pb pc pd pe pf pg ph i wr => ∃ (k : Nat) (t : S8), k ≤ 64 ∧ i = .int .i64 k ∧ t = steps8 bs s k ∧ pa = .int .u32 (t.a.toNat : Int) ∧ pb = .int .u32 (t.b.toNat : Int) ∧ pc = .int .u32 (t.c.toNat : Int) ∧ pd = .int .u32 (t.d.toNat : Int) ∧
        pe = .int .u32 (t.e.toNat : Int) ∧ pf = .int .u32 (t.f.toNat : Int) ∧ pg = .int .u32 (t.g.toNat : Int) ∧ ph = .int .u32 (t.h.toNat : Int) ∧ wr.rangeAt gk ok (cws KK) ∧ Blk wr g 116 (cws (sch bs 64)) ∧ Blk wr w.heap.size 97 (l8 s) ∧
        (∃ z, Blk wr (w.heap.size + 1 + 1) 97 z ∧ z.length = 8) ∧ Below w.heap.size w wr) (fun _ _ _ _ _ _ _ _ i _ => 64 - (intOf i).toNat)
    case atStart =>
      exact ⟨0, s, by omega, rfl, rfl, rfl, rfl, rfl, rfl, rfl, rfl, rfl, rfl, range_drewN HK0.out _, hW.drewN_ _, hS.drewN_ _, ⟨z, hZ.drewN_ _, hz⟩, below_drewN hnx _⟩
    case round =>
      clear c0 c1 c2 c3 c4 c5 c6 c7 HK0 hW hS hZ hz hnx
      obtain ⟨k, t, hk, rfl, ht, rfl, rfl, rfl, rfl, rfl, rfl, rfl, rfl, hK, hW, hS, ⟨z, hZ, hz⟩, hnx⟩ := hrel
      have HK := Lib.hid hK
      have Hz := Lib.hid hz
      by_cases hlt : k < 64
      · have hst : steps8 bs s (k + 1) = step8 t (KK.getD k 0) (wt bs k) := by rw [ht]; rfl
        have cK : wr.cell? ⟨gk, ok + k, none⟩ = some _ := hK k _ (KK_cell (j := k) hlt)
        have cW := hW.cell (sch_cell bs (k := 64) (j := k) hlt hlt)
        have Hst := Lib.hid (And.intro hst (And.intro hlt hk))
        clear hst ht hK hz
        generalize KK.getD k 0 = kk at *
        generalize wt bs k = ww at *
        have i0 : (0 : Int) ≤ (k : Int) := by omega
        have i1 : (k : Int) < 64 := by omega
        clear hlt hk
        go_wp2
        go_quiet ((go_at_call 115; exact Calls.quiet_of (rors_quiet _ _ _ (by omega) (by omega))))
        go_wp2_with (go_at_call 115; refine (rors_int _ _ _ (by omega) (by omega)).mono ?_; rintro e wy ⟨rfl, rfl⟩)
        go_roundw
        case rel =>
          obtain ⟨hst, hlt, hk⟩ := Hst.out
          rw [i_tee, i_uuu, w_add, w_add]
          exact ⟨k + 1, step8 t kk ww, by omega, by go_num, hst.symm, rfl, rfl, rfl, rfl, rfl, rfl, rfl, rfl, range_drewN HK.out _, hW.drewN_ _, hS.drewN_ _, ⟨z, hZ.drewN_ _, Hz.out⟩, below_drewN hnx _⟩
        case measure => simp [intOf]; omega
      · have e : k = 64 := by omega
        have hk2 : ¬ (k : Int) < 64 := by omega
        rw [e] at ht
        have c0 := hS.cell (i := 0) (v := .int .u32 (s.a.toNat : Int)) rfl
        have c1 := hS.cell (i := 1) (v := .int .u32 (s.b.toNat : Int)) rfl
        have c2 := hS.cell (i := 2) (v := .int .u32 (s.c.toNat : Int)) rfl
        have c3 := hS.cell (i := 3) (v := .int .u32 (s.d.toNat : Int)) rfl
        have c4 := hS.cell (i := 4) (v := .int .u32 (s.e.toNat : Int)) rfl
        have c5 := hS.cell (i := 5) (v := .int .u32 (s.f.toNat : Int)) rfl
        have c6 := hS.cell (i := 6) (v := .int .u32 (s.g.toNat : Int)) rfl
        have c7 := hS.cell (i := 7) (v := .int .u32 (s.h.toNat : Int)) rfl
        have heq := s8s_eq s bs
        rw [← ht] at heq
        have hth : wr.there (w.heap.size + 1 + 1) 0 8 := by
          have e := hZ.there
          rwa [Hz.out] at e
        have hR' := hZ.setAll (vs := s8s s t) (by rw [Hz.out]; rfl)
        have hnx' : Below w.heap.size w (wr.setCells (w.heap.size + 1 + 1) 0 (s8s s t)) := Below.setCells (by omega) _ hnx
        have hone : (s8s s t).toArray.all (·.oneCell') = true := by rw [heq]; exact cws_one (rnd s bs).list
        have Hone := Lib.hid hone
        clear hone
        have Heq := Lib.hid heq
        have Hth := Lib.hid hth
        have HR := Lib.hid (And.intro hR' hnx')
        clear ht hK hz e hlt hk heq hth hR' hnx' hZ hnx
        go_wp2_with (refine wpList_store_mid rfl 97 _ _ rfl (w.heap.size + 1 + 1) 0 (s8s s t).toArray rfl rfl Hth.out info8w Hone.out ?_)
        refine bodyPost_ret (results_cell_row rfl _ _ (w.heap.size + 1 + 1) 97 (s8s s t).toArray (0, 0) _ rfl HR.out.1 Tryz.underlying97 rfl info8w) rfl ?_
        refine ⟨?_, HR.out.2⟩
        rw [Heq.out]
        rfl

end Go.Proofs.YtihmddpafbackaaGreat

namespace Go.Proofs.YtihmddpafbackaaGreat

open Go.RowKit

set_option linter.unusedVariables false

def cu (l : List Nat) : List Value := List.map (fun n : Nat => Value.int .u64 (n : Int)) l

def co (l : List Bool) : List Value := l.map Value.bool

def cn (l : List Nat) : List Value := List.map (fun n : Nat => Value.int .u32 (n : Int)) l

theorem cu_len (l : List Nat) : (cu l).length = l.length := by simp [cu]

theorem co_len (l : List Bool) : (co l).length = l.length := by simp [co]

theorem cn_len (l : List Nat) : (cn l).length = l.length := by simp [cn]

theorem cu_get {l : List Nat} {i : Nat} (h : i < l.length) : (cu l)[i]? = some (.int .u64 ((l.getD i 0 : Nat) : Int)) := by
  simp [cu, List.getD, List.getElem?_eq_getElem h]

theorem cn_get {l : List Nat} {i : Nat} (h : i < l.length) : (cn l)[i]? = some (.int .u32 ((l.getD i 0 : Nat) : Int)) := by
  simp [cn, List.getD, List.getElem?_eq_getElem h]

theorem co_get {l : List Bool} {i : Nat} (h : i < l.length) : (co l)[i]? = some (.bool (l.getD i false)) := by
  simp [co, List.getD, List.getElem?_eq_getElem h]

theorem cu_set (l : List Nat) (i n : Nat) : (cu l).set i (.int .u64 (n : Int)) = cu (l.set i n) := by unfold cu; rw [List.map_set]

theorem co_set (l : List Bool) (i : Nat) (b : Bool) : (co l).set i (.bool b) = co (l.set i b) := by unfold co; rw [List.map_set]

theorem cn_set (l : List Nat) (i n : Nat) : (cn l).set i (.int .u32 (n : Int)) = cn (l.set i n) := by unfold cn; rw [List.map_set]

theorem cu_one (l : List Nat) : (cu l).toArray.all (·.oneCell') = true := by
  rw [Array.all_eq_true_iff_forall_mem]
  intro u hu
  simp [cu] at hu
  obtain ⟨x, _, rfl⟩ := hu
  rfl

theorem info64l : (Tryz.prog.info? 135).map (·.size) = some 64 := by kernel_rfl

theorem zeros64 : (cu (List.replicate 64 0)).toArray = (List.replicate 64 (Value.int .u64 0)).toArray := by unfold cu; rw [List.map_replicate]; rfl

theorem zeros312 : (co (List.replicate 312 false)).toArray = (List.replicate 312 (Value.bool false)).toArray := by unfold co; rw [List.map_replicate]

set_option maxRecDepth 100000 in
set_option maxHeartbeats 1600000 in
theorem primes_any (w : World) : Calls Tryz.prog 112 #[] w fun e w' => e = .returned (.agg (cu PP).toArray) ∧ Below w.heap.size w w' := by
  go_enter Tryz.func112, Tryz.ntmps112
  go_wp2
  go_loopw [3, 4] (fun f n wr => ∃ i : Nat, i ≤ 310 ∧ n = .int .i64 ((i + 2 : Nat) : Int) ∧ f = .int .i64 ((sv i).found : Int) ∧ Blk wr w.heap.size 135 (cu (List.replicate 64 0)) ∧
      Blk wr (w.heap.size + 1) 135 (cu (sv i).out) ∧ Blk wr (w.heap.size + 1 + 1) 142 (co (sv i).crossed) ∧ Below w.heap.size w wr) (fun _ n _ => 312 - (intOf n).toNat)
  case atStart =>
    refine ⟨0, by omega, rfl, rfl, ?_, ?_, ?_, (((Below.refl _ _).alloc (Nat.le_refl _) _).alloc (by simp) _).alloc (by simp; omega) _⟩
    · exact ((Blk.new zeros64 rfl).old _).old _
    · exact (Blk.new zeros64 (by simp)).old _
    · exact Blk.new zeros312 (by simp)
  case round =>
    obtain ⟨i, hi, rfl, rfl, hR, hO, hC, hnx⟩ := hrel
    by_cases hlt : i < 310
    · have hlen := sv_lens i
      have hsv : sv (i + 1) = (sv i).step (i + 2) := rfl
      have hfd := sv_found hlt
      have c0 := hC.cell (co_get (l := (sv i).crossed) (i := i + 2) (by omega))
      have hm1 : ((i + 2 : Nat) : Int) + 1 = ((i + 1 + 2 : Nat) : Int) := by omega
      obtain ⟨n, hn⟩ : ∃ n, n = i + 2 := ⟨_, rfl⟩
      rw [← hn] at hsv hfd c0 hm1 ⊢
      generalize sv i = s at *
      have g0 : (n : Int) ≤ 311 := by omega
      have g1 : (2 : Int) ≤ (n : Int) := by omega
      by_cases hc : s.crossed.getD n false = true
      · rw [hc] at c0
        rw [Sv.step, if_pos hc] at hsv
        have Hsv := Lib.hid (And.intro hsv (And.intro hn hm1))
        clear hsv hlen hn hfd hc hlt hi hm1
        go_wp2
        go_roundw
        case rel =>
          obtain ⟨hsv, hn, hm1⟩ := Hsv.out
          exact ⟨i + 1, by omega, by rw [hm1], by rw [hsv], hR, by rw [hsv]; exact hO, by rw [hsv]; exact hC, hnx⟩
        case measure => simp [intOf]; omega
      · have hc' : s.crossed.getD n false = false := by simpa using hc
        have hf := hfd hc'
        rw [hc'] at c0
        rw [Sv.step, if_neg hc] at hsv
        have Hsv := Lib.hid (And.intro hsv (And.intro hn (And.intro hm1 (And.intro hf hlen))))
        have d0 := hO.cell (cu_get (l := s.out) (i := s.found) (by omega))
        have f0 := hO.free s.found
        have e1 : IntKind.i64.wrap ((n : Int) * (n : Int)) = ((n * n : Nat) : Int) := by
          rw [← Int.natCast_mul]
          exact IntWalk.i64_in _ (by have : n * n ≤ 311 * 311 := Nat.mul_le_mul (by omega) (by omega); omega)
        have g2 : (s.found : Int) < 64 := by omega
        have g3 : (0 : Int) ≤ (s.found : Int) := by omega
        clear hsv hlen hn hfd hc hc' hlt hi hm1 hf
        generalize hnn : n * n = m0 at *
        have Hnn := Lib.hid hnn
        clear hnn
        go_wp2
        have hO' := hO.set_ s.found (.int .u64 (n : Int))
        rw [cu_set] at hO'
        have hR' : Blk (wr.setCell ⟨w.heap.size + 1, s.found, none⟩ (.int .u64 (n : Int))) w.heap.size 135 (cu (List.replicate 64 0)) := hR.far (by dsimp only; omega) _
        have hC' : Blk (wr.setCell ⟨w.heap.size + 1, s.found, none⟩ (.int .u64 (n : Int))) (w.heap.size + 1 + 1) 142 (co s.crossed) := hC.far (by dsimp only; omega) _
        have hnx' : Below w.heap.size w (wr.setCell ⟨w.heap.size + 1, s.found, none⟩ (.int .u64 (n : Int))) := hnx.setCell (by dsimp only; omega) _
        clear c0 d0 f0 hO hR hC hnx
        generalize wr.setCell ⟨w.heap.size + 1, s.found, none⟩ (.int .u64 (n : Int)) = wo at *
        go_loopw [5] (fun m wr => ∃ (f k : Nat) (C : List Bool), m = .int .i64 (k : Int) ∧ 312 ≤ k + f ∧ 0 < k ∧ C.length = 312 ∧ crossF 312 n m0 s.crossed = crossF f n k C ∧ Blk wr w.heap.size 135 (cu (List.replicate 64 0)) ∧
          Blk wr (w.heap.size + 1) 135 (cu (s.out.set s.found n)) ∧ Blk wr (w.heap.size + 1 + 1) 142 (co C) ∧ Below w.heap.size w wr) (fun m _ => 1000 - (intOf m).toNat)
        case atStart =>
          obtain ⟨hsv, hn, hm1, hf, hlen⟩ := Hsv.out
          have hm0 := Hnn.out
          have h2n : 2 * 2 ≤ n * n := Nat.mul_le_mul (by omega) (by omega)
          exact ⟨312, m0, s.crossed, rfl, by omega, by omega, hlen.2, rfl, hR', hO', hC', hnx'⟩
        case round =>
          clear hR' hO' hC' hnx'
          obtain ⟨f, k, C, rfl, hk, hk0, hCl, hX, hR, hO, hC, hnx⟩ := hrel
          by_cases hkl : k ≤ 311
          · obtain ⟨f', rfl⟩ : ∃ f', f = f' + 1 := ⟨f - 1, by omega⟩
            rw [crossF_step hkl] at hX
            have c0 := hC.cell (co_get (l := C) (i := k) (by omega))
            have f0 := hC.free k
            have g2 : (k : Int) ≤ 311 := by omega
            have g3 : (0 : Int) ≤ (k : Int) := by omega
            have HX := Lib.hid (And.intro hX (And.intro hk (And.intro hCl hk0)))
            have hadd : (k : Int) + (n : Int) = ((k + n : Nat) : Int) := by omega
            have Hadd := Lib.hid hadd
            clear hX hk hkl hCl hadd hk0
            go_wp2
            go_roundw
            case rel =>
              obtain ⟨hX, hk, hCl, hk0⟩ := HX.out
              have hs := hC.set_ k (.bool true)
              rw [co_set] at hs
              exact ⟨f', k + n, C.set k true, by first | rw [Hadd.out] | go_num, by omega, by omega, by rw [List.length_set]; exact hCl, hX, hR.far (by dsimp only; omega) _, hO.far (by dsimp only; omega) _, hs, hnx.setCell (by dsimp only; omega) _⟩
            case measure => simp [intOf]; omega
          · have hend : crossF f n k C = C := crossF_end (by omega)
            rw [hend] at hX
            clear hend
            have HX := Lib.hid hX
            have g2 : ¬ (k : Int) ≤ 311 := by omega
            clear hX hk hkl
            go_wp2
            go_roundw
            case rel =>
              obtain ⟨hsv, hn, hm1, hf, hlen⟩ := Hsv.out
              rw [HX.out] at hsv
              refine ⟨i + 1, by omega, by rw [hm1], by rw [hsv]; first | rfl | go_num, hR, by rw [hsv]; exact hO, by rw [hsv]; exact hC, hnx⟩
            case measure => simp [intOf]; omega
    · have e : i = 310 := by omega
      subst e
      rw [sv_end] at hO
      have hi : (Tryz.prog.info? 135).map (·.size) = some (cu PP).toArray.size := info64l
      have hth : wr.there w.heap.size 0 (cu PP).toArray.size := by
        have e := hR.there
        rwa [cu_len, List.length_replicate] at e
      have hR' := hR.setAll (vs := cu PP) (by rw [cu_len, cu_len, List.length_replicate]; rfl)
      have hnx' : Below w.heap.size w (wr.setCells w.heap.size 0 (cu PP)) := Below.setCells (Nat.le_refl _) _ hnx
      have Hi := Lib.hid hi
      have Hth := Lib.hid hth
      have Hone := Lib.hid (cu_one PP)
      have g2 : ¬ ((310 + 2 : Nat) : Int) ≤ 311 := by omega
      clear hi hth hC hR hnx hlt
      generalize hvs : cu PP = vs at *
      have Hvs := Lib.hid hvs
      clear hvs
      go_wp2_with (first
        | refine wpList_load_row rfl 135 _ rfl (w.heap.size + 1) rfl 135 vs.toArray (0, 0) _ hO Tryz.underlying135 rfl Hi.out ?_
        | refine wpList_store_mid rfl 135 _ _ rfl w.heap.size 0 vs.toArray rfl rfl Hth.out Hi.out Hone.out ?_)
      exact bodyPost_ret (results_cell_row rfl _ _ w.heap.size 135 vs.toArray (0, 0) _ rfl hR' Tryz.underlying135 rfl Hi.out) rfl ⟨by rw [Hvs.out], hnx'⟩

end Go.Proofs.YtihmddpafbackaaGreat

namespace Go.Proofs.YtihmddpafbackaaGreat

open Go.RowKit

set_option linter.unusedVariables false

theorem zeros64w : (cn (List.replicate 64 0)).toArray = (List.replicate 64 (Value.int .u32 0)).toArray := by unfold cn; rw [List.map_replicate]; rfl

theorem cn_cws (l : List UInt32) : cn (l.map UInt32.toNat) = cws l := by unfold cn cws; rw [List.map_map]; rfl

theorem rt_lens (i : Nat) : (rtS i).out.length = 64 := by
  induction i with
  | zero => exact List.length_replicate
  | succ i ih => rw [rtS]; simp only [List.length_set]; exact ih

theorem PP_small : ∀ x ∈ PP, x ≤ 311 := by decide

theorem PP_at (i : Nat) (h : i < 64) : PP.getD i 0 ≤ 311 := by
  have hl : i < PP.length := h
  rw [List.getD_eq_getElem?_getD, List.getElem?_eq_getElem hl]
  exact PP_small _ (List.getElem_mem hl)

theorem newt_le (f p : Nat) : ∀ x, newt f p x ≤ x := by
  induction f with
  | zero => intro x; exact Nat.le_refl _
  | succ f ih =>
    intro x
    rw [newt]
    split
    · exact Nat.le_trans (ih _) (Nat.le_trans (by rw [nxt_stp]; exact Nat.min_le_right _ _) (Nat.sub_le _ _))
    · exact Nat.le_refl _

theorem rt_small (i : Nat) : (rtS i).root ≤ 30064771072 := by
  induction i with
  | zero => exact Nat.le_refl _
  | succ i ih => rw [rtS]; exact Nat.le_trans (newt_le _ _ _) ih

set_option maxRecDepth 100000 in
set_option maxHeartbeats 1600000 in
theorem cubes_any (w : World) : Calls Tryz.prog 106 #[] w fun e w' => e = .returned (.agg (cws KK).toArray) ∧ Below w.heap.size w w' := by
  have hi64 : (Tryz.prog.info? 135).map (·.size) = some (cu PP).toArray.size := info64l
  have Hi64 := Lib.hid hi64
  have Hone := Lib.hid (cu_one PP)
  clear hi64
  obtain ⟨vs, hvs⟩ : ∃ vs, vs = cu PP := ⟨_, rfl⟩
  have hpr : ∀ w, Calls Tryz.prog 112 #[] w fun e w' => e = .returned (.agg vs.toArray) ∧ Below w.heap.size w w' := by rw [hvs]; exact primes_any
  have Hpr := Lib.hid hpr
  have hl64 : vs.length = 64 := by rw [hvs]; rfl
  have hz64 : (cu PP) = vs := hvs.symm
  rw [hz64] at Hi64 Hone
  have Hl := Lib.hid (And.intro hl64 hvs)
  clear hpr hl64 hvs hz64
  go_enter Tryz.func106, Tryz.ntmps106
  go_wp2_with fail
  refine (Hpr.out _).mono ?_
  rintro e w1 ⟨rfl, b1⟩
  have g1 := b1.size
  simp only [World.size_alloc] at g1
  have hR1 : Blk w1 w.heap.size 116 (cn (List.replicate 64 0)) := Blk.below ((Blk.new zeros64w rfl).old _) b1 (by simp; omega)
  have hO1 : Blk w1 (w.heap.size + 1) 116 (cn (List.replicate 64 0)) := Blk.below (Blk.new zeros64w (by simp)) b1 (by simp)
  have hnx1 : Below w.heap.size w w1 := (((Below.refl _ _).alloc (Nat.le_refl _) _).alloc (by simp) _).trans (b1.mono (by simp; omega))
  have hZ : Blk (w1.alloc (.cells (List.replicate 64 (Value.int .u64 0)).toArray 135)) w1.heap.size 135 (cu (List.replicate 64 0)) := Blk.new zeros64 rfl
  have hth : (w1.alloc (.cells (List.replicate 64 (Value.int .u64 0)).toArray 135)).there w1.heap.size 0 vs.toArray.size := by
    have e := hZ.there
    rw [cu_len, List.length_replicate] at e
    have hsz : vs.toArray.size = 64 := by rw [List.size_toArray]; exact Hl.out.1
    rw [hsz]
    exact e
  have Hth := Lib.hid hth
  have hA := hZ.setAll (vs := vs) (by rw [cu_len, List.length_replicate]; exact Hl.out.1)
  clear hth b1 hZ
  go_wp2_with (refine wpList_store_mid rfl 135 _ _ rfl w1.heap.size 0 vs.toArray rfl rfl Hth.out Hi64.out Hone.out ?_)
  go_loopw [2, 4] (fun r i wr => ∃ j : Nat, j ≤ 64 ∧ i = .int .i64 (63 - (j : Int)) ∧ r = .int .u64 ((rtS j).root : Int) ∧ Blk wr w.heap.size 116 (cn (List.replicate 64 0)) ∧
      Blk wr (w.heap.size + 1) 116 (cn (rtS j).out) ∧ Blk wr w1.heap.size 135 vs ∧ Below w.heap.size w wr) (fun _ i _ => (intOf i + 1).toNat)
  case atStart =>
    exact ⟨0, by omega, rfl, rfl, Blk.farAll (by omega) vs (hR1.old _), Blk.farAll (by omega) vs (hO1.old _), hA, Below.setCells (by omega) vs (hnx1.alloc (by omega) _)⟩
  case round =>
    clear hR1 hO1 hnx1 hA
    obtain ⟨j, hj, rfl, rfl, hR, hO, hA, hnx⟩ := hrel
    by_cases hlt : j < 64
    · obtain ⟨k, hk⟩ : ∃ k, j + k = 63 := ⟨63 - j, by omega⟩
      have hik : (63 : Int) - (j : Int) = (k : Int) := by omega
      rw [hik]
      have hrt : rtS (j + 1) = ⟨newt 16 (PP.getD (63 - j) 0) (rtS j).root, (rtS j).out.set (63 - j) (newt 16 (PP.getD (63 - j) 0) (rtS j).root % 4294967296)⟩ := rfl
      have hok := rtS_ok hlt
      rw [show 63 - j = k from by omega] at hrt hok
      have hlen := rt_lens j
      have c0 := hA.cell (i := k) (v := .int .u64 ((PP.getD k 0 : Nat) : Int)) (by rw [Hl.out.2]; exact cu_get (l := PP) (i := k) (by show k < 64; omega))
      have d0 := hO.cell (cn_get (l := (rtS j).out) (i := k) (by omega))
      have f0 := hO.free k
      have hsm := rt_small j
      have hro := fun w => root_any (PP.getD k 0) (rtS j).root 16 w hok (PP_at k (by omega)) (by omega)
      have hrl : newt 16 (PP.getD k 0) (rtS j).root ≤ 30064771072 := Nat.le_trans (newt_le _ _ _) hsm
      generalize rtS j = s at *
      generalize PP.getD k 0 = p at *
      generalize newt 16 p s.root = r at *
      have e1 : IntKind.u32.wrap (r : Int) = ((r % 4294967296 : Nat) : Int) := by rw [IntKind.wrap_u32]; omega
      have g2 : (k : Int) < 64 := by omega
      have g3 : (0 : Int) ≤ (k : Int) := by omega
      have Hro := Lib.hid hro
      have Hrt := Lib.hid (And.intro hrt (And.intro hk (And.intro hik (And.intro hlen hrl))))
      clear hro hrt hk hik hlen hrl hok hsm hj hlt
      go_wp2_with fail
      refine (Hro.out _).mono ?_
      rintro e w2 ⟨rfl, rfl⟩
      go_wp2
      go_roundw
      case rel =>
        obtain ⟨hrt, hk, hik, hlen, hrl⟩ := Hrt.out
        have hs := hO.set_ k (.int .u32 ((r % 4294967296 : Nat) : Int))
        rw [cn_set] at hs
        refine ⟨j + 1, by omega, ?_, by rw [hrt], hR.far (by dsimp only; omega) _, by rw [hrt]; exact hs, hA.far (by dsimp only; omega) _, hnx.setCell (by dsimp only; omega) _⟩
        congr 1
        omega
      case measure => simp [intOf]
    · have e : j = 64 := by omega
      subst e
      rw [rt_end, cn_cws] at hO
      have hi : (Tryz.prog.info? 116).map (·.size) = some (cws KK).toArray.size := by rw [info64w, KK_size]
      have hth : wr.there w.heap.size 0 (cws KK).toArray.size := by
        have e := hR.there
        rw [cn_len, List.length_replicate] at e
        rw [KK_size]; exact e
      have hR' := hR.setAll (vs := cws KK) (by rw [cn_len, cws_length, List.length_replicate]; rfl)
      have hnx' : Below w.heap.size w (wr.setCells w.heap.size 0 (cws KK)) := Below.setCells (Nat.le_refl _) _ hnx
      have Hi := Lib.hid hi
      have Hth := Lib.hid hth
      have Hk := Lib.hid (cws_one KK)
      clear hi hth hA hR hnx hlt hj
      generalize hvs : cws KK = ks at *
      have Hvs := Lib.hid hvs
      clear hvs
      go_wp2_with (first
        | refine wpList_load_row rfl 116 _ rfl (w.heap.size + 1) rfl 116 ks.toArray (0, 0) _ hO Tryz.underlying116 rfl Hi.out ?_
        | refine wpList_store_mid rfl 116 _ _ rfl w.heap.size 0 ks.toArray rfl rfl Hth.out Hi.out Hk.out ?_)
      exact bodyPost_ret (results_cell_row rfl _ _ w.heap.size 116 ks.toArray (0, 0) _ rfl hR' Tryz.underlying116 rfl Hi.out) rfl ⟨by rw [Hvs.out], hnx'⟩

end Go.Proofs.YtihmddpafbackaaGreat

namespace Go.Proofs.YtihmddpafbackaaGreat

set_option linter.unusedVariables false

theorem eat_append (n : Nat) : ∀ (s : S8) (l m : List UInt8), 64 * n ≤ l.length → eat s n (l ++ m) = eat s n l := by
  induction n with
  | zero => intro s l m _; rfl
  | succ n ih =>
    intro s l m h
    rw [eat, eat, List.take_append_of_le_length (by omega), List.drop_append_of_le_length (by omega)]
    exact ih _ _ _ (by rw [List.length_drop]; omega)

theorem eat_add (n k : Nat) : ∀ (s : S8) (l : List UInt8), eat s (n + k) l = eat (eat s n l) k (l.drop (64 * n)) := by
  induction n with
  | zero => intro s l; simp [eat]
  | succ n ih =>
    intro s l
    rw [show n + 1 + k = (n + k) + 1 from by omega, eat, eat, ih, List.drop_drop]
    congr 2; omega

/-- The state behind all whole blocks. -/
def whole (l : List UInt8) : S8 := eat S8.first (l.length / 64) l

/-- The bytes that are no whole block yet. -/
def left (l : List UInt8) : List UInt8 := l.drop (64 * (l.length / 64))

theorem left_len (l : List UInt8) : (left l).length = l.length % 64 := by unfold left; rw [List.length_drop]; omega

theorem whole_nil : whole [] = S8.first := rfl

theorem left_nil : left [] = [] := rfl

theorem split_left (l : List UInt8) : l.take (64 * (l.length / 64)) ++ left l = l := List.take_append_drop _ _

theorem whole_in (l c : List UInt8) (h : l.length % 64 + c.length < 64) : whole (l ++ c) = whole l ∧ left (l ++ c) = left l ++ c := by
  have e : (l ++ c).length / 64 = l.length / 64 := by rw [List.length_append]; omega
  unfold whole left
  rw [e, eat_append _ _ _ _ (by omega), List.drop_append_of_le_length (by omega)]
  exact ⟨rfl, rfl⟩

theorem whole_full (l c : List UInt8) (h : l.length % 64 + c.length = 64) : whole (l ++ c) = rnd (whole l) (left l ++ c) ∧ left (l ++ c) = [] := by
  have e : (l ++ c).length / 64 = l.length / 64 + 1 := by rw [List.length_append]; omega
  unfold whole left
  rw [e, eat_add, eat_append _ _ _ _ (by omega), List.drop_append_of_le_length (by omega)]
  refine ⟨?_, ?_⟩
  · rw [eat, eat, List.take_of_length_le (by simp; omega)]
  · rw [List.drop_eq_nil_iff]; rw [List.length_append]; omega

theorem be8_len (n : Nat) : (be8 n).length = 8 := by simp [be8]

/-- The last one or two blocks. -/
def last (l : List UInt8) : List UInt8 := left l ++ (128 :: (List.replicate (gap l.length) 0 ++ be8 (8 * l.length)))

theorem last_len (l : List UInt8) : (last l).length = if l.length % 64 < 56 then 64 else 128 := by
  unfold last gap
  simp only [List.length_append, List.length_cons, List.length_replicate, be8_len, left_len]
  split <;> omega

theorem pad_len (l : List UInt8) : (pad l).length / 64 = l.length / 64 + (last l).length / 64 := by
  have : (pad l).length = 64 * (l.length / 64) + (last l).length := by
    unfold pad last
    simp only [List.length_append, List.length_cons, List.length_replicate, be8_len, left_len]
    omega
  rw [this]
  rw [last_len]
  split <;> omega

theorem digest_last (l : List UInt8) : digest l = (eat (whole l) ((last l).length / 64) (last l)).bytes := by
  unfold digest
  rw [pad_len, eat_add]
  congr 2
  · unfold whole pad
    exact eat_append _ _ _ _ (by omega)
  · unfold pad last left
    rw [List.drop_append_of_le_length (by omega)]

theorem eat_one (s : S8) (l : List UInt8) : eat s 1 l = rnd s (l.take 64) := rfl

theorem eat_two (s : S8) (l : List UInt8) : eat s 2 l = rnd (rnd s (l.take 64)) ((l.drop 64).take 64) := rfl

end Go.Proofs.YtihmddpafbackaaGreat

namespace Go.Proofs.YtihmddpafbackaaGreat

open Go.RowKit

set_option linter.unusedVariables false

/-- Only block g of the old ones is not as it was. -/
def But (g : Nat) (w w' : World) : Prop := w.grownBy w' (some g)

theorem But.refl (g : Nat) (w : World) : But g w w := World.grownBy.refl _ _

theorem But.trans {g : Nat} {a b c : World} (h : But g a b) (k : But g b c) : But g a c :=
  ⟨k.os.trans h.os, k.tape.trans h.tape, k.output.trans h.output, Nat.le_trans h.size k.size, fun i hi hne => (k.block i (Nat.lt_of_lt_of_le hi h.size) hne).trans (h.block i hi hne)⟩

theorem But.ofBelow {g : Nat} {w w' : World} (h : Below w.heap.size w w') : But g w w' := ⟨h.os, h.tape, h.output, h.size, fun i hi _ => h.block i hi⟩

theorem But.then_below {g : Nat} {a w w' : World} (h : But g a w) (k : Below w.heap.size w w') : But g a w' := h.trans (But.ofBelow k)

theorem But.setCell {g : Nat} {a w : World} (h : But g a w) {p : Addr} (hp : p.block = g ∨ a.heap.size ≤ p.block) (u : Value) : But g a (w.setCell p u) := by
  refine ⟨h.os, h.tape, h.output, by simpa [World.setCell] using h.size, fun i hi hne => ?_⟩
  refine (Below.heap_setCell w p u i ?_).trans (h.block i hi hne)
  rintro rfl
  rcases hp with hp | hp
  · exact hne (by rw [hp])
  · omega

theorem But.setCells {g b : Nat} {a : World} (hp : b = g ∨ a.heap.size ≤ b) (vs : List Value) : ∀ {w : World} {o : Nat}, But g a w → But g a (w.setCells b o vs) := by
  induction vs with
  | nil => intro w o h; exact h
  | cons v vs ih => intro w o h; rw [World.setCells]; exact ih (h.setCell (p := ⟨b, o, none⟩) hp v)

theorem But.drew {g : Nat} {a w : World} (h : But g a w) : But g a w.drew := ⟨h.os, h.tape, h.output, h.size, h.block⟩

theorem But.drewN {g : Nat} {a w : World} (h : But g a w) (n : Nat) : But g a (w.drewN n) := ⟨h.os, h.tape, h.output, h.size, h.block⟩

theorem But.blk {g k : Nat} {w w' : World} {t : TypeId} {cs : List Value} (h : But g w w') (hb : Blk w k t cs) (hne : k ≠ g) : Blk w' k t cs :=
  (h.block k hb.lt (fun e => hne (Option.some.inj e))).trans hb

theorem But.cell {g : Nat} {w w' : World} (h : But g w w') {a : Addr} {v : Value} (hc : w.cell? a = some v) (hne : a.block ≠ g) : w'.cell? a = some v :=
  World.grownBy.cell h hc (fun e => hne (Option.some.inj e))

theorem But.above {g B : Nat} {w w' : World} (h : But g w w') (hg : B ≤ g) (hB : B ≤ w.heap.size) : Below B w w' :=
  (Below.refl B w).grown h hB (fun k e => by cases e; exact hg)

/-! ### The cells of a hash -/

def hcells (s : S8) (rest : List UInt8) (n : Nat) (d m : Int) (ks : List Value) : List Value :=
  .bool true :: (l8 s ++ (cbs rest ++ (.int .i64 (n : Int) :: .int .u32 d :: .int .i32 m :: .int .u32 0 :: ks)))

theorem l8_len (s : S8) : (l8 s).length = 8 := rfl

section

variable {s : S8} {rest : List UInt8} {n : Nat} {d m : Int} {ks : List Value}

theorem hc_len (hr : rest.length = 64) (hk : ks.length = 64) : (hcells s rest n d m ks).length = 141 := by
  unfold hcells
  simp only [List.length_cons, List.length_append, l8_len, cbs_length, hr, hk]

theorem hc_made : (hcells s rest n d m ks)[0]? = some (.bool true) := rfl

theorem hc_state {j : Nat} {v : Value} (h : (l8 s)[j]? = some v) : (hcells s rest n d m ks)[1 + j]? = some v := by
  unfold hcells
  rw [Nat.add_comm, List.getElem?_cons_succ, List.getElem?_append_left]
  · exact h
  · rcases Nat.lt_or_ge j (l8 s).length with h1 | h1
    · exact h1
    · rw [List.getElem?_eq_none h1] at h; cases h

theorem hc_rest {j : Nat} {v : Value} (h : (cbs rest)[j]? = some v) : (hcells s rest n d m ks)[9 + j]? = some v := by
  unfold hcells
  rw [show 9 + j = (8 + j) + 1 from by omega, List.getElem?_cons_succ, List.getElem?_append_right (by rw [l8_len]; omega), l8_len, Nat.add_sub_cancel_left, List.getElem?_append_left]
  · exact h
  · rcases Nat.lt_or_ge j (cbs rest).length with h1 | h1
    · exact h1
    · rw [List.getElem?_eq_none h1] at h; cases h

theorem hc_tail (hr : rest.length = 64) (j : Nat) : (hcells s rest n d m ks)[73 + j]? = (Value.int .i64 (n : Int) :: .int .u32 d :: .int .i32 m :: .int .u32 0 :: ks)[j]? := by
  unfold hcells
  rw [show 73 + j = (72 + j) + 1 from by omega, List.getElem?_cons_succ, List.getElem?_append_right (by rw [l8_len]; omega), l8_len, List.getElem?_append_right (by rw [cbs_length, hr]; omega), cbs_length, hr]
  congr 1; omega

theorem hc_size (hr : rest.length = 64) : (hcells s rest n d m ks)[73]? = some (.int .i64 (n : Int)) := hc_tail hr 0

theorem hc_done (hr : rest.length = 64) : (hcells s rest n d m ks)[74]? = some (.int .u32 d) := hc_tail hr 1

theorem hc_lock (hr : rest.length = 64) : (hcells s rest n d m ks)[75]? = some (.int .i32 m) := hc_tail hr 2

theorem hc_ks (hr : rest.length = 64) {j : Nat} {v : Value} (h : ks[j]? = some v) : (hcells s rest n d m ks)[77 + j]? = some v := by
  have := hc_tail (s := s) (n := n) (d := d) (m := m) (ks := ks) hr (4 + j)
  rw [show 73 + (4 + j) = 77 + j from by omega] at this
  rw [this, show 4 + j = j + 1 + 1 + 1 + 1 from by omega, List.getElem?_cons_succ, List.getElem?_cons_succ, List.getElem?_cons_succ, List.getElem?_cons_succ]
  exact h

theorem set_mid (a b : List Value) (x y : Value) : (a ++ x :: b).set a.length y = a ++ y :: b := by
  rw [List.set_append_right _ _ (Nat.le_refl _), Nat.sub_self]; rfl

theorem hc_parts : hcells s rest n d m ks = ((Value.bool true :: l8 s) ++ cbs rest) ++ (.int .i64 (n : Int) :: .int .u32 d :: .int .i32 m :: .int .u32 0 :: ks) := by
  unfold hcells; simp

theorem pre_len (hr : rest.length = 64) : ((Value.bool true :: l8 s) ++ cbs rest).length = 73 := by
  simp only [List.length_append, List.length_cons, l8_len, cbs_length, hr]

theorem hc_set_size (hr : rest.length = 64) (n' : Nat) : (hcells s rest n d m ks).set 73 (.int .i64 (n' : Int)) = hcells s rest n' d m ks := by
  rw [hc_parts, hc_parts]
  have := set_mid ((Value.bool true :: l8 s) ++ cbs rest) (.int .u32 d :: .int .i32 m :: .int .u32 0 :: ks) (.int .i64 (n : Int)) (.int .i64 (n' : Int))
  rwa [pre_len hr] at this

theorem hc_set_done (hr : rest.length = 64) (d' : Int) : (hcells s rest n d m ks).set 74 (.int .u32 d') = hcells s rest n d' m ks := by
  rw [hc_parts, hc_parts]
  have := set_mid (((Value.bool true :: l8 s) ++ cbs rest) ++ [.int .i64 (n : Int)]) (.int .i32 m :: .int .u32 0 :: ks) (.int .u32 d) (.int .u32 d')
  rw [List.length_append, pre_len hr] at this
  simpa using this

theorem hc_set_lock (hr : rest.length = 64) (m' : Int) : (hcells s rest n d m ks).set 75 (.int .i32 m') = hcells s rest n d m' ks := by
  rw [hc_parts, hc_parts]
  have := set_mid (((Value.bool true :: l8 s) ++ cbs rest) ++ [.int .i64 (n : Int), .int .u32 d]) (.int .u32 0 :: ks) (.int .i32 m) (.int .i32 m')
  rw [List.length_append, pre_len hr] at this
  simpa using this

theorem hc_put_ks (hr : rest.length = 64) (hk : ks.length = 64) (ks' : List Value) (hk' : ks'.length = 64) :
    (hcells s rest n d m ks).take 77 ++ ks' ++ (hcells s rest n d m ks).drop (77 + ks'.length) = hcells s rest n d m ks' := by
  have hp : hcells s rest n d m ks = (((Value.bool true :: l8 s) ++ cbs rest) ++ [.int .i64 (n : Int), .int .u32 d, .int .i32 m, .int .u32 0]) ++ ks := by rw [hc_parts]; simp
  have hl : (((Value.bool true :: l8 s) ++ cbs rest) ++ [Value.int .i64 (n : Int), Value.int .u32 d, Value.int .i32 m, Value.int .u32 0]).length = 77 := by rw [List.length_append, pre_len hr]; rfl
  rw [hp, List.take_left' hl, List.drop_eq_nil_of_le (by rw [List.length_append, hl]; omega), List.append_nil]
  rw [hc_parts]; simp

theorem hc_put_state (s' : S8) : (hcells s rest n d m ks).take 1 ++ l8 s' ++ (hcells s rest n d m ks).drop (1 + (l8 s').length) = hcells s' rest n d m ks := by
  unfold hcells
  rfl

theorem hc_put_rest (hr : rest.length = 64) (r : Nat) (c : List UInt8) (h : r + c.length ≤ 64) :
    (hcells s rest n d m ks).take (9 + r) ++ cbs c ++ (hcells s rest n d m ks).drop (9 + r + (cbs c).length) = hcells s (rest.take r ++ c ++ rest.drop (r + c.length)) n d m ks := by
  have h9 : (Value.bool true :: l8 s).length = 9 := rfl
  have hp : hcells s rest n d m ks = (Value.bool true :: l8 s) ++ (cbs rest ++ (.int .i64 (n : Int) :: .int .u32 d :: .int .i32 m :: .int .u32 0 :: ks)) := by unfold hcells; simp
  have hp' : hcells s (rest.take r ++ c ++ rest.drop (r + c.length)) n d m ks = (Value.bool true :: l8 s) ++ (cbs (rest.take r ++ c ++ rest.drop (r + c.length)) ++ (.int .i64 (n : Int) :: .int .u32 d :: .int .i32 m :: .int .u32 0 :: ks)) := by unfold hcells; simp
  rw [hp', hp, cbs_length]
  generalize (Value.int .i64 (n : Int) :: .int .u32 d :: .int .i32 m :: .int .u32 0 :: ks) = z
  generalize (Value.bool true :: l8 s) = y at *
  have e1 : (y ++ (cbs rest ++ z)).take (9 + r) = y ++ cbs (rest.take r) := by
    rw [← h9, List.take_append, Nat.add_sub_cancel_left, List.take_of_length_le (by omega), List.take_append_of_le_length (by rw [cbs_length, hr]; omega), cbs_take]
  have e2 : (y ++ (cbs rest ++ z)).drop (9 + r + c.length) = cbs (rest.drop (r + c.length)) ++ z := by
    rw [← h9, List.drop_append, List.drop_eq_nil_of_le (by omega), List.nil_append, show y.length + r + c.length - y.length = r + c.length from by omega, List.drop_append_of_le_length (by rw [cbs_length, hr]; omega), cbs_drop]
  rw [e1, e2]
  simp [cbs_append]

end

end Go.Proofs.YtihmddpafbackaaGreat
