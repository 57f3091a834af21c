/-
  Words for Round: eight words in memory, the letters' sums, worlds while Round's first statement runs.
-/
import Derived.Test.YtcidliakmlolmaaFirst
import Derived.Deep.DeepCutAuto
import Derived.Deep.RegionWith
import Derived.Deep.RegionLaw
namespace Go.Proofs.Ytcidliakmlolmaa
open Go.RowKit
set_option linter.unusedVariables false

def l8 (s : S8) : List Value := [.int .u32 (s.a.toNat : Int), .int .u32 (s.b.toNat : Int), .int .u32 (s.c.toNat : Int), .int .u32 (s.d.toNat : Int), .int .u32 (s.e.toNat : Int), .int .u32 (s.f.toNat : Int), .int .u32 (s.g.toNat : Int), .int .u32 (s.h.toNat : Int)]
def v8 (s : S8) : Value := .agg (l8 s).toArray
/-- A quiet call behind a quiet region. -/
theorem quiet_more {P : Program} {f : FuncId} {args : Array Value} {w : World} {a n : Nat} {v : Value}
    (h : Calls P f args (w.drewN (a + n)) fun e w' => e = .returned v ∧ ∃ m, w' = (w.drewN (a + n)).drewN m) :
    Calls P f args (w.drewN (a + n)) fun e w'' => e = .returned v ∧ ∃ m, w'' = w.drewN (a + m) :=
  h.mono fun _ _ ⟨he, m, hm⟩ => ⟨he, n + m, by rw [hm, World.drewN_drewN, Nat.add_assoc]⟩
theorem w_nota (x : UInt32) : bits .xor .u32 (if IntKind.u32.signed = true then -1 else IntKind.u32.max) (x.toNat : Int) = ((~~~x).toNat : Int) := w_not x
theorem i_tee (t : S8) (k w : UInt32) : ((t.h.toNat : Int) + bits .xor .u32 (bits .xor .u32 ((rotr t.e 6).toNat : Int) ((rotr t.e 11).toNat : Int)) ((rotr t.e 25).toNat : Int) +
    bits .xor .u32 (bits .and .u32 (t.e.toNat : Int) (t.f.toNat : Int)) (bits .and .u32 (bits .xor .u32 (if IntKind.u32.signed = true then -1 else IntKind.u32.max) (t.e.toNat : Int)) (t.g.toNat : Int)) + (k.toNat : Int) + (w.toNat : Int)) % 4294967296 = ((tee t k w).toNat : Int) := by
  rw [w_nota, w_xor, w_xor, w_and, w_and, w_xor]
  unfold tee
  simp only [UInt32.toNat_add]
  omega
theorem cw_new (t : S8) (k w : UInt32) : Value.int .u32 (((t.h.toNat : Int) + bits .xor .u32 (bits .xor .u32 ((rotr t.e 6).toNat : Int) ((rotr t.e 11).toNat : Int)) ((rotr t.e 25).toNat : Int) +
    bits .xor .u32 (bits .and .u32 (t.e.toNat : Int) (t.f.toNat : Int)) (bits .and .u32 (bits .xor .u32 (if IntKind.u32.signed = true then -1 else IntKind.u32.max) (t.e.toNat : Int)) (t.g.toNat : Int)) + (k.toNat : Int) + (w.toNat : Int) +
    (bits .xor .u32 (bits .xor .u32 ((rotr t.a 2).toNat : Int) ((rotr t.a 13).toNat : Int)) ((rotr t.a 22).toNat : Int) +
      bits .xor .u32 (bits .xor .u32 (bits .and .u32 (t.a.toNat : Int) (t.b.toNat : Int)) (bits .and .u32 (t.a.toNat : Int) (t.c.toNat : Int))) (bits .and .u32 (t.b.toNat : Int) (t.c.toNat : Int)))) % 4294967296) = cw (tee t k w + uuu t) := by
  have h := i_tee t k w
  have hu : (bits .xor .u32 (bits .xor .u32 ((rotr t.a 2).toNat : Int) ((rotr t.a 13).toNat : Int)) ((rotr t.a 22).toNat : Int) +
      bits .xor .u32 (bits .xor .u32 (bits .and .u32 (t.a.toNat : Int) (t.b.toNat : Int)) (bits .and .u32 (t.a.toNat : Int) (t.c.toNat : Int))) (bits .and .u32 (t.b.toNat : Int) (t.c.toNat : Int))) % 4294967296 = ((uuu t).toNat : Int) := by
    rw [w_xor, w_xor, w_and, w_and, w_and, w_xor, w_xor, w_add]; rfl
  unfold cw
  rw [← w_add, ← h, ← hu, Int.add_emod]
theorem cw_mid (t : S8) (k w : UInt32) : Value.int .u32 (((t.d.toNat : Int) + ((t.h.toNat : Int) + bits .xor .u32 (bits .xor .u32 ((rotr t.e 6).toNat : Int) ((rotr t.e 11).toNat : Int)) ((rotr t.e 25).toNat : Int) +
    bits .xor .u32 (bits .and .u32 (t.e.toNat : Int) (t.f.toNat : Int)) (bits .and .u32 (bits .xor .u32 (if IntKind.u32.signed = true then -1 else IntKind.u32.max) (t.e.toNat : Int)) (t.g.toNat : Int)) + (k.toNat : Int) + (w.toNat : Int))) % 4294967296) = cw (t.d + tee t k w) := by
  have h := i_tee t k w
  have hx : ∀ X : Int, ((t.d.toNat : Int) + X) % 4294967296 = ((t.d.toNat : Int) + X % 4294967296) % 4294967296 := fun X => by omega
  unfold cw
  rw [← w_add, ← h]
  exact congrArg (Value.int .u32) (hx _)
/-- The last loop: the first k words are added. -/
def mix (t s : S8) (k : Nat) : List UInt32 := (List.range 8).map fun j => if j < k then t.list.getD j 0 + s.list.getD j 0 else t.list.getD j 0
theorem mix_0 (t s : S8) : cws (mix t s 0) = l8 t := rfl
theorem mix_8 (t s : S8) : cws (mix t s 8) = l8 (t.add s) := rfl
theorem mix_len (t s : S8) (k : Nat) : (mix t s k).length = 8 := by simp [mix]
theorem mix_at {t s : S8} {k : Nat} (h : k < 8) : (cws (mix t s k))[k]? = some (.int .u32 ((t.list.getD k 0).toNat : Int)) := by
  rw [cws_get _ _ (by rw [mix_len]; exact h)]
  simp [mix]
theorem mix_set (t s : S8) (k : Nat) (h : k < 8) : (cws (mix t s k)).set k (cw (t.list.getD k 0 + s.list.getD k 0)) = cws (mix t s (k + 1)) := by
  rw [cws_set]
  congr 1
  apply List.ext_getElem
  · simp [mix]
  · intro i h1 h2
    rw [List.getElem_set]
    by_cases hi : k = i
    · subst hi; simp [mix]
    · simp only [hi, if_false]
      simp only [mix, List.getElem_map, List.getElem_range]
      by_cases h3 : i < k
      · rw [if_pos h3, if_pos (by omega)]
      · rw [if_neg h3, if_neg (by omega)]
theorem l8_at (s : S8) {k : Nat} (h : k < 8) : (l8 s)[k]? = some (.int .u32 ((s.list.getD k 0).toNat : Int)) := by
  have : l8 s = cws s.list := rfl
  rw [this, cws_get _ _ (by exact h), List.getD_eq_getElem?_getD, List.getElem?_eq_getElem (by exact h)]
  rfl
theorem KK_cell {j : Nat} (h : j < 64) : (cws KK)[j]? = some (.int .u32 ((KK.getD j 0).toNat : Int)) := by
  rw [cws_get KK j (by rw [KK_len]; exact h), List.getD_eq_getElem?_getD, List.getElem?_eq_getElem (by rw [KK_len]; exact h)]
  rfl

/-- What stands while Round's first statement runs. -/
def Good (w : World) (s : S8) (bs : List UInt8) (W : World) : Prop :=
  Blk W w.heap.size 61 (l8 s) ∧ Blk W (w.heap.size + 1) 63 (cbs bs) ∧ (∃ z, Blk W (w.heap.size + 1 + 1) 61 z ∧ z.length = 8) ∧ Below w.heap.size w W
theorem Good.lt {w : World} {s : S8} {bs : List UInt8} {W : World} (h : Good w s bs W) : w.heap.size + 2 < W.heap.size := by
  obtain ⟨_, _, ⟨z, h, _⟩, _⟩ := h; exact h.lt
theorem Good.alloc {w : World} {s : S8} {bs : List UInt8} {W : World} (h : Good w s bs W) (o : Obj) : Good w s bs (W.alloc o) := by
  obtain ⟨h1, h2, ⟨z, h3, h4⟩, h5⟩ := h
  exact ⟨h1.old o, h2.old o, ⟨z, h3.old o, h4⟩, h5.alloc h5.size o⟩
theorem Good.below {w : World} {s : S8} {bs : List UInt8} {W W' : World} (h : Good w s bs W) (hb : Below W.heap.size W W') : Good w s bs W' := by
  obtain ⟨h1, h2, ⟨z, h3, h4⟩, h5⟩ := h
  exact ⟨h1.below hb h1.lt, h2.below hb h2.lt, ⟨z, h3.below hb h3.lt, h4⟩, h5.trans (hb.mono h5.size)⟩
theorem Good.set_ {w : World} {s : S8} {bs : List UInt8} {W : World} (h : Good w s bs W) {g : Nat} (hg : w.heap.size + 2 < g) (vs : List Value) : Good w s bs (W.setCells g 0 vs) := by
  obtain ⟨h1, h2, ⟨z, h3, h4⟩, h5⟩ := h
  exact ⟨Blk.farAll (by omega) vs h1, Blk.farAll (by omega) vs h2, ⟨z, Blk.farAll (by omega) vs h3, h4⟩, Below.setCells (by omega) vs h5⟩
theorem Good.drew_ {w : World} {s : S8} {bs : List UInt8} {W : World} : Good w s bs W.drew = Good w s bs W := by
  apply propext
  exact ⟨fun ⟨h1, h2, h3, h5⟩ => ⟨h1, h2, h3, ⟨h5.os, h5.tape, h5.output, h5.size, h5.block⟩⟩, fun ⟨h1, h2, h3, h5⟩ => ⟨h1, h2, h3, h5.drew⟩⟩
def zero64 : List Value := List.replicate 64 (.int .u32 0)
/-- A new array of 64 words. -/
def ZB (W : World) (g : Nat) : Prop := Blk W g 75 zero64
theorem ZB.below {W W' : World} (hb : Below W.heap.size W W') {g : Nat} (h : ZB W g) : ZB W' g := Blk.below h hb (Blk.lt h)
theorem ZB.new_ (W : World) : ZB (W.alloc (.cells zero64.toArray 75)) W.heap.size := Blk.new rfl rfl
theorem ZB.new2 (W : World) (o : Obj) : ZB ((W.alloc o).alloc (.cells zero64.toArray 75)) (W.heap.size + 1) := Blk.new rfl (by simp)
theorem ZB.drew_ {W : World} {g : Nat} : ZB W.drew g = ZB W g := rfl
theorem run_good {w : World} {s : S8} {bs : List UInt8} {W : World} (h : Good w s bs W) (hl : bs.length = 64) :
    (Instr.loadAt 63 (.pointer (some ⟨w.heap.size + 1, 0, none⟩))).run Try.prog W = .ok (.agg (cbs bs).toArray) W := by
  have hi : (Try.prog.info? 63).map (·.size) = some (cbs bs).length := by
    rw [cbs_length, hl]; kernel_rfl
  refine run_loadAt_mid W _ 0 _ (cbs bs) _ ?_ Try.underlying63 rfl hi
  intro j v hv
  rw [Nat.zero_add]
  exact h.2.1.cell hv
theorem step_load {P : Program} {ops : Array Oper} {o : Oper} {a : Act} {w : World} {K : Act → World → Prop} {Q : Exit → Act → World → Prop} {E : Prop} (hgd : o.guard = none) (ty : TypeId) (x : Operand) (ho : o.op = .load ty x)
    (b off : Nat) (hx : a.eval x = .pointer (some ⟨b, off, none⟩)) (cs : List Value) (d : TypeDesc) (hc : w.rangeAt b off cs)
    (hu : P.underlying ty = some d) (hd : d.isRow = true) (hi : (P.info? ty).map (·.size) = some cs.length)
    (h : K (a.put o.dst (.agg cs.toArray)) w) : if Region.wanted o (yielded ops a.tmps) = true then Oper.wp P o a w K Q else E := by
  have hw : Region.wanted o (yielded ops a.tmps) = true := by simp [Region.wanted, hgd]
  rw [if_pos hw]
  exact wp_load_mid ty x ho b off hx cs d hc hu hd hi h
theorem step_store {P : Program} {ops : Array Oper} {o : Oper} {a : Act} {w : World} {K : Act → World → Prop} {Q : Exit → Act → World → Prop} {E : Prop} (hgd : o.guard = none) (ty : TypeId) (x y : Operand) (ho : o.op = .store ty x y)
    (b off : Nat) (cells : Array Value) (hx : a.eval x = .pointer (some ⟨b, off, none⟩)) (hy : a.eval y = .agg cells)
    (ht : w.there b off cells.size) (hi : (P.info? ty).map (·.size) = some cells.size) (h1 : cells.all (·.oneCell') = true)
    (h : K (a.put o.dst undef) (w.setCells b off cells.toList)) : if Region.wanted o (yielded ops a.tmps) = true then Oper.wp P o a w K Q else E := by
  have hw : Region.wanted o (yielded ops a.tmps) = true := by simp [Region.wanted, hgd]
  rw [if_pos hw]
  exact wp_store_mid ty x y ho b off cells hx hy ht hi h1 h
theorem Good.range {w : World} {s : S8} {bs : List UInt8} {W : World} (h : Good w s bs W) : W.rangeAt (w.heap.size + 1) 0 (cbs bs) := by
  intro j v hv
  rw [Nat.zero_add]
  exact h.2.1.cell hv
theorem ZB.there_ {W : World} {g n : Nat} (h : ZB W g) (hn : n = 64) : W.there g 0 n := by
  subst hn
  have := Blk.there h
  unfold zero64 at this
  rwa [List.length_replicate] at this
theorem range_below {W W' : World} {b o : Nat} {cs : List Value} (hb : Below W.heap.size W W') (h : W.rangeAt b o cs) : W'.rangeAt b o cs := by
  intro j v hv
  have hc := h j v hv
  exact (hb.cell (World.block_lt_of_cell? W _ hc)).trans hc
theorem run_zero {W : World} {g : Nat} (h : ZB W g) (l : List UInt32) (hl : l.length = 64) :
    (Instr.storeAt 75 (.pointer (some ⟨g, 0, none⟩)) (.agg (cws l).toArray)).run Try.prog W = .ok () (W.setCells g 0 (cws l)) := by
  have hs : (cws l).toArray.size = 64 := by rw [List.size_toArray, cws_length, hl]
  refine run_storeAt_mid W g 0 _ (cws l).toArray ?_ (by rw [hs, info64w]) (cws_one l)
  rw [hs]
  have := Blk.there h
  unfold zero64 at this
  rwa [List.length_replicate] at this

theorem rangeAt_cell {w : World} {b o : Nat} {cs : List Value} (h : w.rangeAt b o cs) {j : Nat} {v : Value} (hv : cs[j]? = some v) : w.cell? ⟨b, o + j, none⟩ = some v := h j v hv
end Go.Proofs.Ytcidliakmlolmaa
