/-
  For every two numbers: a wish with a field that its kind has not is told to be none that may be; WishFields returns true; no condition.
-/
import Derived.Test.YtihmddpafbackaaZ09
import Derived.Test.YtihmddpafbackaaZ10
import Derived.Test.YtihmddpafbackaaZ11
import Derived.Test.YtihmddpafbackaaZ08
import Derived.Test.YtihmddpafbackaaZ03
import Derived.Deep.DeepCutAuto
namespace Go.Proofs.Ytihmddpafbackaa.wishFields
open Go.ChangeShapes Go.WideShapes Go.ChangeAt Go.RowKit Go.Maps
set_option linter.unusedVariables false

set_option linter.unusedSimpArgs false
theorem lit54 (a : Act) (h : a.tmps.size = 54) : ∃ f : Nat → Value, a = { tmps := #[f 0, f 1, f 2, f 3, f 4, f 5, f 6, f 7, f 8, f 9, f 10, f 11, f 12, f 13, f 14, f 15, f 16, f 17, f 18, f 19, f 20, f 21, f 22, f 23, f 24, f 25, f 26, f 27, f 28, f 29, f 30, f 31, f 32, f 33, f 34, f 35, f 36, f 37, f 38, f 39, f 40, f 41, f 42, f 43, f 44, f 45, f 46, f 47, f 48, f 49, f 50, f 51, f 52, f 53], defers := a.defers } ∧ ∀ i v, a.tmps[i]? = some v → f i = v := by
  refine ⟨fun i => a.tmps.getD i undef, ?_, fun i v hv => by simp only [Array.getD_eq_getD_getElem?, hv]; rfl⟩
  have e : a.tmps = ((List.range 54).map fun i => a.tmps.getD i undef).toArray := by
    apply Array.ext
    · simp [h]
    · intro i h1 h2
      simp [Array.getD_eq_getD_getElem?, h1]
  cases a with
  | mk t d =>
    simp only [Act.mk.injEq, and_true]
    exact e

def xF : List Wl := [xRead, xSeal, ⟨34, 1, 0, 0, 3, 1, [], 0, 0, []⟩, ⟨34, 1, 0, 0, 4, 2, [], 3, 4, []⟩, ⟨33, 1099511627776, 2, 0, 2, 7, List.replicate 16 0, 0, 0, []⟩]
def yF (A1 : Addr) (A5 : Option Addr) : List WH := [⟨xRead, none, 0, 0, none, 0, 0⟩, ⟨xSeal, none, 0, 0, some A1, 4, 4⟩, ⟨⟨34, 1, 0, 0, 3, 1, [], 0, 0, []⟩, none, 0, 0, none, 0, 0⟩, ⟨⟨34, 1, 0, 0, 4, 2, [], 3, 4, []⟩, none, 0, 0, none, 0, 0⟩, ⟨⟨33, 1099511627776, 2, 0, 2, 7, List.replicate 16 0, 0, 0, []⟩, A5, 16, 16, none, 0, 0⟩]
theorem xF_may : ∀ x ∈ xF, May x := by decide
theorem may_nm {x : Wl} (h : May x) : WNm x := by
  obtain ⟨h1, h2, h3, h4, h5, h6, h7, h8, h9, h10, h11⟩ := h.nums
  exact ⟨h2, h3, h4, h5, h1, h6, h7, h8, h11, by omega, h10⟩
theorem argW_set {w : World} {g idx base : Nat} {v : Value} {x : Wl} {D : Option Addr} {nd cd : Nat} {N : Option Addr} {nn cn : Nat} (hM : Mine w base 5 (.slice D nd cd) x.da) (hN : OwnI w base (.slice N nn cn) x.nx) (hA : ArgW w x D nd cd N nn cn)
    (hd : ∀ i, (Value.slice D nd cd).ownBlock = some i → i < g) (hn : ∀ i, (Value.slice N nn cn).ownBlock = some i → i < g) : ArgW (w.setCell ⟨g, idx, none⟩ v) x D nd cd N nn cn := by
  have hst : Out (fun i => i = g) w (w.setCell ⟨g, idx, none⟩ v) := (Out.refl (fun i => i = g) w).setCell (p := ⟨g, idx, none⟩) (fun _ => rfl) _
  have hM' := own_out hM hst (fun i hi e => by have := hd i hi; omega)
  have hN' : OwnI (w.setCell ⟨g, idx, none⟩ v) base (.slice N nn cn) x.nx := own_out hN hst (fun i hi e => by have := hn i hi; omega)
  obtain ⟨_, c, e1, g1, g2, g3⟩ := Mine.form hM'
  obtain ⟨_, c', e2, g4⟩ := hN'.arg hA.2.1.1.2.2.2.2
  injection e1 with e1 _ e3
  injection e2 with e2 _ e4
  subst e1 e3 e2 e4
  exact ⟨⟨hA.1.1, hA.1.2.1, hA.1.2.2.1, g3, hA.1.2.2.2.2⟩, ⟨by have h := hA.2.1.1.1; rw [h] at g4; exact g4, hA.2.1.2⟩, hA.2.2⟩
theorem own_ne {w : World} {b b' : Nat} {v v' : Value} {l : List UInt8} {l' : List Int} (h : Mine w b 5 v l) (h' : OwnI w b' v' l') {i : Nat} (hi : v.ownBlock = some i) (hi' : v'.ownBlock = some i) : False := by
  obtain ⟨_, a | ⟨g, cap, cur, a3, a4, a5⟩⟩ := h
  · rw [a.1] at hi
    simp [Value.ownBlock] at hi
  obtain ⟨_, c | ⟨g', cap', cur', c3, c4, c5⟩⟩ := h'
  · rw [c.1] at hi'
    simp [Value.ownBlock] at hi'
  rw [a3] at hi
  rw [c3] at hi'
  simp [Value.ownBlock] at hi hi'
  subst hi hi'
  have e := a5.1.symm.trans c5.1
  injection e with e
  injection e with _ e _
  exact absurd e (by decide)
theorem odd_da {w W9 w10 : World} {g base : Nat} {x : Wl} {cs : List Value} {D : Option Addr} {nd cd : Nat} {N : Option Addr} {nn cn : Nat} (hB : Blk W9 g 25 cs) (hM : Mine W9 base 5 (.slice D nd cd) x.da) (hN : OwnI W9 base (.slice N nn cn) x.nx) (hA : ArgW W9 x D nd cd N nn cn)
    (hb : Below w.heap.size w W9) (hd : ∀ i, (Value.slice D nd cd).ownBlock = some i → i < g) (hn : ∀ i, (Value.slice N nn cn).ownBlock = some i → i < g) (hbase : w.heap.size ≤ base) (hgb : base ≤ g) (h16 : x.da.length ≤ 16) (h10 : cs.length = 10) {A10 : Option Addr} {c10 : Nat}
    (hm10 : Mine w10 base 5 (.slice A10 (nd + 1) c10) (x.da ++ [1])) (hg10 : (W9.alloc (.cells #[.int .u8 1] 5)).grownBy w10 (Value.slice D nd cd).ownBlock)
    (ho10 : (Value.slice A10 (nd + 1) c10).ownBlock = (Value.slice D nd cd).ownBlock ∨ (Value.slice A10 (nd + 1) c10).ownBlock = some (W9.alloc (.cells #[.int .u8 1] 5)).heap.size) :
    w10.cell? ⟨g, 6, none⟩ = cs[6]? ∧ w10.frozen? ⟨g, 6, none⟩ = false ∧ Blk (w10.setCell ⟨g, 6, none⟩ (.slice A10 (nd + 1) c10)) g 25 (cs.set 6 (.slice A10 (nd + 1) c10)) ∧
      ArgW (w10.setCell ⟨g, 6, none⟩ (.slice A10 (nd + 1) c10)) { x with da := x.da ++ [1] } A10 (nd + 1) c10 N nn cn ∧ Below w.heap.size w (w10.setCell ⟨g, 6, none⟩ (.slice A10 (nd + 1) c10)) := by
  have hal : Below W9.heap.size W9 (W9.alloc (.cells #[.int .u8 1] 5)) := (Below.refl _ _).alloc (Nat.le_refl _) _
  have hO := grown_out hg10
  have hB10 := hO.blk (hB.below hal hB.lt) (fun e => by have := hd _ e; omega)
  have hst : Out (fun i => i = g) w10 (w10.setCell ⟨g, 6, none⟩ (.slice A10 (nd + 1) c10)) := (Out.refl (fun i => i = g) w10).setCell (p := ⟨g, 6, none⟩) (fun _ => rfl) _
  have hgl := hB.lt
  have hm11 := own_out hm10 hst (fun i hi e => by
    rcases ho10 with h | h
    · rw [h] at hi
      have := hd i hi
      omega
    · rw [h] at hi
      simp at hi
      omega)
  have hM9 : Mine (W9.alloc (.cells #[.int .u8 1] 5)) base 5 (.slice D nd cd) x.da := Mine.after hM hal
  have hN9 := own_below hN hal
  have hN10 := own_out hN9 hO (fun i hi e => own_ne hM9 hN9 e hi)
  have hN11 : OwnI (w10.setCell ⟨g, 6, none⟩ (.slice A10 (nd + 1) c10)) base (.slice N nn cn) x.nx := own_out hN10 hst (fun i hi e => by have := hn i hi; omega)
  have hlen : (x.da ++ [1]).length = nd + 1 := by rw [List.length_append, hA.1.1]; rfl
  obtain ⟨_, c, e1, g1, g2, g3⟩ := Mine.form hm11
  obtain ⟨_, c', e2, g4⟩ := hN11.arg hA.2.1.1.2.2.2.2
  injection e1 with e1 _ e3
  injection e2 with e2 _ e4
  subst e1 e3 e2 e4
  have h1 := hA.1.1
  refine ⟨?_, hB10.free 6, hB10.set_ 6 _, ⟨⟨hlen, by rw [hlen] at g1; exact g1, g2, g3, by omega⟩, ⟨by have h := hA.2.1.1.1; rw [h] at g4; exact g4, hA.2.1.2⟩, hA.2.2⟩, ?_⟩
  · rw [List.getElem?_eq_getElem (by omega : 6 < cs.length)]; exact hB10.cell (List.getElem?_eq_getElem (by omega))
  · have s1 : Below w.heap.size w (W9.alloc (.cells #[.int .u8 1] 5)) := hb.trans (hal.mono hb.size)
    have s2 := hO.above (B := w.heap.size) (fun i e => by have := (World.ownsRow.lt hM9 i e).1; omega) s1.size
    have s3 := s1.trans s2
    exact s3.trans (hst.above (B := w.heap.size) (fun i e => by omega) s3.size)
theorem odd_nx {w W9 : World} {g base : Nat} {x : Wl} {cs : List Value} {D : Option Addr} {nd cd : Nat} {N : Option Addr} {nn cn : Nat} (hB : Blk W9 g 25 cs) (hM : Mine W9 base 5 (.slice D nd cd) x.da) (hN : OwnI W9 base (.slice N nn cn) x.nx) (hA : ArgW W9 x D nd cd N nn cn)
    (hb : Below w.heap.size w W9) (hd : ∀ i, (Value.slice D nd cd).ownBlock = some i → i < g) (hn : ∀ i, (Value.slice N nn cn).ownBlock = some i → i < g) (hbase : w.heap.size ≤ base) (hgb : base ≤ g) (h7 : x.nx.length ≤ 7) (h10 : cs.length = 10) :
    ∃ A10 c10 w10, (Builtin.append_ #[23, 23] 23 #[.slice N nn cn, .slice (some ⟨W9.heap.size, 0, none⟩) 1 1]).run Try.prog (W9.alloc (.cells #[.int .i64 28] 3)) = .ok (.slice A10 (nn + 1) c10) w10 ∧
    w10.cell? ⟨g, 9, none⟩ = cs[9]? ∧ w10.frozen? ⟨g, 9, none⟩ = false ∧ Blk (w10.setCell ⟨g, 9, none⟩ (.slice A10 (nn + 1) c10)) g 25 (cs.set 9 (.slice A10 (nn + 1) c10)) ∧
      ArgW (w10.setCell ⟨g, 9, none⟩ (.slice A10 (nn + 1) c10)) { x with nx := x.nx ++ [28] } D nd cd A10 (nn + 1) c10 ∧ Below w.heap.size w (w10.setCell ⟨g, 9, none⟩ (.slice A10 (nn + 1) c10)) := by
  have hal : Below W9.heap.size W9 (W9.alloc (.cells #[.int .i64 28] 3)) := (Below.refl _ _).alloc (Nat.le_refl _) _
  have hgl := hB.lt
  have hM9 : Mine (W9.alloc (.cells #[.int .i64 28] 3)) base 5 (.slice D nd cd) x.da := Mine.after hM hal
  have hN9 : OwnI (W9.alloc (.cells #[.int .i64 28] 3)) base (.slice N nn cn) x.nx := own_below hN hal
  have hnn := hA.2.1.1.1
  obtain ⟨v', w10, hap, hO3, hg3, ho10⟩ := run_appendI (W9.alloc (.cells #[.int .i64 28] 3)) base (.slice N nn cn) x.nx hN9 (some ⟨W9.heap.size, 0, none⟩) 1 1 [28] (is_new W9 [28]) rfl (by omega) (by simp; omega) 23
  obtain ⟨A10, c10, e', _⟩ := hO3.form
  have hl : (x.nx ++ [28]).length = nn + 1 := by simp [hnn]
  rw [hl] at e'
  subst e'
  have hO := grown_out hg3
  have hB10 := hO.blk (hB.below hal hB.lt) (fun e => by have := hn _ e; omega)
  have hst : Out (fun i => i = g) w10 (w10.setCell ⟨g, 9, none⟩ (.slice A10 (nn + 1) c10)) := (Out.refl (fun i => i = g) w10).setCell (p := ⟨g, 9, none⟩) (fun _ => rfl) _
  have hN11 : OwnI (w10.setCell ⟨g, 9, none⟩ (.slice A10 (nn + 1) c10)) base (.slice A10 (nn + 1) c10) (x.nx ++ [28]) := own_out hO3 hst (fun i hi e => by
    rcases ho10 with h | h
    · rw [h] at hi
      have := hn i hi
      omega
    · rw [h] at hi
      simp at hi
      omega)
  have hM10 := own_out hM9 hO (fun i hi e => own_ne hM9 hN9 hi e)
  have hM11 := own_out hM10 hst (fun i hi e => by have := hd i hi; omega)
  obtain ⟨_, c, e1, g1, g2, g3⟩ := Mine.form hM11
  obtain ⟨_, c', e2, g4⟩ := hN11.arg (fun y hy => by
    rcases List.mem_append.1 hy with h | h
    · exact hA.2.1.1.2.2.2.2 y h
    · rw [List.mem_singleton] at h; rw [h]; decide)
  injection e1 with e1 _ e3
  injection e2 with e2 _ e4
  subst e1 e3 e2 e4
  refine ⟨_, _, w10, hap, ?_, hB10.free 9, hB10.set_ 9 _, ⟨⟨hA.1.1, hA.1.2.1, hA.1.2.2.1, g3, hA.1.2.2.2.2⟩, ⟨by rw [hl] at g4; exact g4, by omega⟩, hA.2.2⟩, ?_⟩
  · rw [List.getElem?_eq_getElem (by omega : 9 < cs.length)]; exact hB10.cell (List.getElem?_eq_getElem (by omega))
  · have s1 : Below w.heap.size w (W9.alloc (.cells #[.int .i64 28] 3)) := hb.trans (hal.mono hb.size)
    have s2 := hO.above (B := w.heap.size) (fun i e => by have := (World.ownsRow.lt hN9 i e).1; omega) s1.size
    have s3 := s1.trans s2
    exact s3.trans (hst.above (B := w.heap.size) (fun i e => by omega) s3.size)
theorem xF_0 : ∀ x ∈ xF, ¬ May { x with da := x.da ++ [1] } := by decide
theorem xF_1 : ∀ x ∈ xF, ¬ May { x with od := 40 } := by decide
theorem xF_2 : ∀ x ∈ xF, ¬ May { x with nw := -1 } := by decide
theorem xF_3 : ∀ x ∈ xF, ¬ May { x with nx := x.nx ++ [28] } := by decide
theorem xF_4 : ∀ x ∈ xF, ¬ May { x with ep := 1048577 } := by decide
def SealV (w : World) (v : Value) : Prop := ∃ A, v = .agg #[.int .i64 0, .int .i64 0, .int .i64 2, .int .i64 1, .int .i64 5, .int .i64 0, .slice none 0 0, .int .i64 0, .int .i64 0, .slice (some A) 4 4] ∧ ArgI w (some A) 4 4 [1, 2, 3, 4]
theorem SealV.on {w w' : World} {v : Value} (h : SealV w v) (hb : Below w.heap.size w w') : SealV w' v := let ⟨A, e, h⟩ := h; ⟨A, e, h.after hb⟩
def ZV (w : World) (v : Value) : Prop := ∃ A, v = .slice A 16 16 ∧ Bs w A (List.replicate 16 0)
theorem ZV.on {w w' : World} {v : Value} (h : ZV w v) (hb : Below w.heap.size w w') : ZV w' v := let ⟨A, e, h⟩ := h; ⟨A, e, h.after hb⟩
def WrV (w : World) (v : Value) : Prop := ∃ A, v = .agg #[.int .i64 33, .int .i64 1099511627776, .int .i64 2, .int .i64 0, .int .i64 2, .int .i64 7, .slice A 16 16, .int .i64 0, .int .i64 0, .slice none 0 0] ∧ Bs w A (List.replicate 16 0)
theorem WrV.on {w w' : World} {v : Value} (h : WrV w v) (hb : Below w.heap.size w w') : WrV w' v := let ⟨A, e, h⟩ := h; ⟨A, e, h.after hb⟩
def RowV (w : World) (v : Value) : Prop := ∃ A, v = .slice A 5 5 ∧ ArgL w A 5 5 xF
theorem RowV.on {w w' : World} {v : Value} (h : RowV w v) (hb : Below w.heap.size w w') : RowV w' v := let ⟨A, e, h⟩ := h; ⟨A, e, h.after hb⟩
theorem row5 {w : World} {A1 : Addr} {A5 : Option Addr} (h1 : ArgI w (some A1) 4 4 [1, 2, 3, 4]) (h5 : Bs w A5 (List.replicate 16 0)) : ArgL (w.alloc (.cells (whs (yF A1 A5)).toArray 25)) (some ⟨w.heap.size, 0, none⟩) 5 5 xF := by
  have hal : Below w.heap.size w (w.alloc (.cells (whs (yF A1 A5)).toArray 25)) := (Below.refl _ _).alloc (Nat.le_refl _) _
  have hB : Blk (w.alloc (.cells (whs (yF A1 A5)).toArray 25)) w.heap.size 25 (whs (yF A1 A5)) := Blk.new rfl rfl
  have nb : ∀ w, ArgI w none 0 0 [] := argI_nil
  have hr : ∀ j y, (yF A1 A5)[j]? = some y → (w.alloc (.cells (whs (yF A1 A5)).toArray 25)).rangeAt w.heap.size (0 + j * 10) (whc y) := by
    intro j y hy i v hv
    have hi : i < 10 := by
      rcases Nat.lt_or_ge i 10 with h | h
      · exact h
      · rw [List.getElem?_eq_none (by rw [whc_len]; exact h)] at hv; cases hv
    refine hB.cell ?_
    rw [Nat.zero_add, whs_at _ _ _ _ hy hi]
    exact hv
  refine ⟨rfl, Nat.le_refl _, by simp [maxLen], fun _ => ⟨w.heap.size, 0, rfl, by simp, fun j hj => ?_⟩⟩
  have hj5 : j < 5 := hj
  match j, hj5 with
  | 0, _ => exact ⟨_, _, _, _, _, _, hr 0 _ rfl, arg_read _⟩
  | 1, _ => exact ⟨_, _, _, _, _, _, hr 1 _ rfl, arg_seal (h1.after hal)⟩
  | 2, _ => exact ⟨_, _, _, _, _, _, hr 2 _ rfl, show ArgW _ (⟨34, 1, 0, 0, 3, 1, [], 0, 0, []⟩ : Wl) none 0 0 none 0 0 from ⟨⟨rfl, Nat.le_refl _, by simp [maxLen], Bs.nil _ _, by omega⟩, ⟨nb _, by omega⟩, by decide, by decide, by decide, by decide, by decide, by decide, by decide, by decide⟩⟩
  | 3, _ => exact ⟨_, _, _, _, _, _, hr 3 _ rfl, show ArgW _ (⟨34, 1, 0, 0, 4, 2, [], 3, 4, []⟩ : Wl) none 0 0 none 0 0 from ⟨⟨rfl, Nat.le_refl _, by simp [maxLen], Bs.nil _ _, by omega⟩, ⟨nb _, by omega⟩, by decide, by decide, by decide, by decide, by decide, by decide, by decide, by decide⟩⟩
  | 4, _ => exact ⟨_, _, _, _, _, _, hr 4 _ rfl, show ArgW _ (⟨33, 1099511627776, 2, 0, 2, 7, List.replicate 16 0, 0, 0, []⟩ : Wl) A5 16 16 none 0 0 from ⟨⟨rfl, Nat.le_refl _, by simp [maxLen], h5.after hal, by omega⟩, ⟨nb _, by omega⟩, by decide, by decide, by decide, by decide, by decide, by decide, by decide, by decide⟩⟩
def wfR  : Nat → Value → World → Prop
  | 0 => fun v w => v = .agg #[.int .i64 31, .int .i64 5, .int .i64 1, .int .i64 0, .int .i64 1, .int .i64 3, .slice none 0 0, .int .i64 0, .int .i64 0, .slice none 0 0]
  | 1 => fun v w => SealV w v
  | 2 => fun v w => v = .agg #[.int .i64 34, .int .i64 1, .int .i64 0, .int .i64 0, .int .i64 3, .int .i64 1, .slice none 0 0, .int .i64 0, .int .i64 0, .slice none 0 0]
  | 3 => fun v w => v = .agg #[.int .i64 34, .int .i64 1, .int .i64 0, .int .i64 0, .int .i64 4, .int .i64 2, .slice none 0 0, .int .i64 3, .int .i64 4, .slice none 0 0]
  | 4 => fun v w => ZV w v
  | 5 => fun v w => WrV w v
  | 6 => fun v w => RowV w v
  | 7 => fun v w => RowV w v
  | _ => fun _ _ => True
def wfD (i : Nat) : Nat := ([10, 11, 12, 13, 14, 15, 16, 5] : List Nat).getD i 0
def wfG : Nat → Option Bool
  | _ => none
def wfS (i : Nat) : Bool := ([] : List Nat).contains i
theorem wf_gb  : ∀ i b v w, wfG i = some b → wfR  i v w → v = .bool b := by
  intro i b v w h hR
  unfold wfG at h
  split at h
  all_goals first | (injection h with h; subst h; exact hR) | cases h
theorem wf_sk  : ∀ i w, wfS i = true → wfR  i undef w := by
  intro i w h
  simp [wfS] at h
theorem wf_on  : ∀ i v w w', wfR  i v w → Below w.heap.size w w' → wfR  i v w'
  | 0, v, w, w', h, _ => h
  | 1, v, w, w', h, hb => SealV.on (show SealV w v from h) hb
  | 2, v, w, w', h, _ => h
  | 3, v, w, w', h, _ => h
  | 4, v, w, w', h, hb => ZV.on (show ZV w v from h) hb
  | 5, v, w, w', h, hb => WrV.on (show WrV w v from h) hb
  | 6, v, w, w', h, hb => RowV.on (show RowV w v from h) hb
  | 7, v, w, w', h, hb => RowV.on (show RowV w v from h) hb
  | i + 8, v, w, w', h, hb => trivial
def wfOps : List Op := [.call { callee := .value (.func 32), args := #[], argTypes := #[] },
  .call { callee := .value (.func 33), args := #[], argTypes := #[] },
  .build 25 #[(4, .const (.int .i64 3)), (0, .const (.int .i64 34)), (1, .const (.int .i64 1)), (5, .const (.int .i64 1))],
  .build 25 #[(4, .const (.int .i64 4)), (0, .const (.int .i64 34)), (1, .const (.int .i64 1)), (5, .const (.int .i64 2)), (7, .const (.int .i64 3)), (8, .const (.int .i64 4))],
  .makeSlice 22 (.const (.int .i64 16)) (.const (.int .i64 16)),
  .build 25 #[(4, .const (.int .i64 2)), (0, .const (.int .i64 33)), (1, .const (.int .i64 1099511627776)), (2, .const (.int .i64 2)), (5, .const (.int .i64 7)), (6, .tmp 14)],
  .buildSlice 39 5 #[(0, .tmp 10), (1, .tmp 11), (2, .tmp 12), (3, .tmp 13), (4, .tmp 15)],
  .assign (.tmp 16)]
def wfNeeds : Nat → List Nat
  | 0 => []
  | 1 => []
  | 2 => []
  | 3 => []
  | 4 => []
  | 5 => [4]
  | 6 => [0, 1, 2, 3, 5]
  | 7 => [6]
  | _ => []
set_option maxRecDepth 100000 in
set_option maxHeartbeats 3200000 in
theorem wf_step {ops : Array Oper} {Q : Exit → Act → World → Prop} {a0 : Act} {w0 : World}  (hops : ((List.range 8).map fun i => (ops[i]?).map Oper.op) = wfOps.map some)
    (hnd : ((List.range 8).all fun i => (wfNeeds i).all fun j => ((ops[i]?).map fun o => o.after.any fun e => Region.binds .any e && (e.on == j)).getD false) = true)
     :
    ∀ i o, i < 8 → wfS i = false → ops[i]? = some o → o.dst = some (wfD i) → ∀ a w, Base wfD 8 a0 a → Below w0.heap.size w0 w → Region.wanted o (yielded ops a.tmps) = true →
      (∀ j, (o.after.any fun e => Region.binds .any e && (e.on == j)) = true → Has wfD (wfR ) j a w) →
      ∀ K : Act → World → Prop, (∀ v w', wfR  i v w' → Below w.heap.size w w' → K (a.put o.dst v) w') → wpOp Try.prog ops Q i K a w := by
  intro i o hi hs ho hds a w hbase hbl hwt hdep0 K hK
  have hop : some o.op = wfOps[i]? := by
    have h1 : ((List.range 8).map fun i => (ops[i]?).map Oper.op)[i]? = some (some o.op) := by
      rw [List.getElem?_map, List.getElem?_range hi]; simp only [Option.map_some, ho]
    rw [hops, List.getElem?_map] at h1
    cases h2 : wfOps[i]? with
    | none => rw [h2] at h1; cases h1
    | some y => rw [h2] at h1; simp only [Option.map_some, Option.some.injEq] at h1; rw [h1]
  have hdep : ∀ j, j ∈ wfNeeds i → Has wfD (wfR ) j a w := fun j hj => by
    have h1 := List.all_eq_true.1 (List.all_eq_true.1 hnd i (List.mem_range.2 hi)) j hj
    rw [ho] at h1
    exact hdep0 j h1
  clear hdep0 hops hnd
  match i, hi, hs, ho, hop, hds, hdep, hK with
  | 0, _, hs, ho, hop, hds, hdep, hK =>
    have hop : o.op = .call { callee := .value (.func 32), args := #[], argTypes := #[] } := Option.some.inj hop
    refine st3_call ho hwt (f := 32) (vals := #[]) (Z := fun v w' => v = .agg #[.int .i64 31, .int .i64 5, .int .i64 1, .int .i64 0, .int .i64 1, .int .i64 3, .slice none 0 0, .int .i64 0, .int .i64 0, .slice none 0 0] ∧ Below w.heap.size w w') ?_ ?_ ?_
    · unfold execOp
      simp only [hop, resolve, invoke, Sem.run_bind, Sem.run_pure, Result.andThen_ok, List.map_toArray, List.map_cons, List.map_nil]
      first | rfl | exact enters_of Try.func32 (by kernel_rfl) rfl _ _
    · exact (read_any w).mono fun e w' ⟨he, h2⟩ => ⟨_, he, rfl, h2⟩
    · rintro v w' ⟨h1, h2⟩
      exact hK v w' h1 h2
  | 1, _, hs, ho, hop, hds, hdep, hK =>
    have hop : o.op = .call { callee := .value (.func 33), args := #[], argTypes := #[] } := Option.some.inj hop
    refine st3_call ho hwt (f := 33) (vals := #[]) (Z := fun v w' => SealV w' v ∧ Below w.heap.size w w') ?_ ?_ ?_
    · unfold execOp
      simp only [hop, resolve, invoke, Sem.run_bind, Sem.run_pure, Result.andThen_ok, List.map_toArray, List.map_cons, List.map_nil]
      first | rfl | exact enters_of Try.func33 (by kernel_rfl) rfl _ _
    · exact (seal_wish w).mono fun e w' ⟨A, he, h1, h2⟩ => ⟨_, he, ⟨A, rfl, h1⟩, h2⟩
    · rintro v w' ⟨h1, h2⟩
      exact hK v w' h1 h2
  | 2, _, hs, ho, hop, hds, hdep, hK =>
    have hop : o.op = .build 25 #[(4, .const (.int .i64 3)), (0, .const (.int .i64 34)), (1, .const (.int .i64 1)), (5, .const (.int .i64 1))] := Option.some.inj hop
    have hb : (Try.prog).built 25 [(4, Value.int .i64 3), (0, Value.int .i64 34), (1, Value.int .i64 1), (5, Value.int .i64 1)] = some (#[.int .i64 34, .int .i64 1, .int .i64 0, .int .i64 0, .int .i64 3, .int .i64 1, .slice none 0 0, .int .i64 0, .int .i64 0, .slice none 0 0] : Array Value) := by kernel_rfl
    exact st3 ho hwt (exec_build 25 _ hop _ (show (Try.prog).built 25 [(4, Value.int .i64 3), (0, Value.int .i64 34), (1, Value.int .i64 1), (5, Value.int .i64 1)] = _ from hb) w) (hK _ w rfl (Below.refl _ _))
  | 3, _, hs, ho, hop, hds, hdep, hK =>
    have hop : o.op = .build 25 #[(4, .const (.int .i64 4)), (0, .const (.int .i64 34)), (1, .const (.int .i64 1)), (5, .const (.int .i64 2)), (7, .const (.int .i64 3)), (8, .const (.int .i64 4))] := Option.some.inj hop
    have hb : (Try.prog).built 25 [(4, Value.int .i64 4), (0, Value.int .i64 34), (1, Value.int .i64 1), (5, Value.int .i64 2), (7, Value.int .i64 3), (8, Value.int .i64 4)] = some (#[.int .i64 34, .int .i64 1, .int .i64 0, .int .i64 0, .int .i64 4, .int .i64 2, .slice none 0 0, .int .i64 3, .int .i64 4, .slice none 0 0] : Array Value) := by kernel_rfl
    exact st3 ho hwt (exec_build 25 _ hop _ (show (Try.prog).built 25 [(4, Value.int .i64 4), (0, Value.int .i64 34), (1, Value.int .i64 1), (5, Value.int .i64 2), (7, Value.int .i64 3), (8, Value.int .i64 4)] = _ from hb) w) (hK _ w rfl (Below.refl _ _))
  | 4, _, hs, ho, hop, hds, hdep, hK =>
    have hop : o.op = .makeSlice 22 (.const (.int .i64 16)) (.const (.int .i64 16)) := Option.some.inj hop
    have hrun : (Instr.makeSlice 22 (.int .i64 16) (.int .i64 16)).run Try.prog w = .ok (.slice (some ⟨w.heap.size, 0, none⟩) 16 16) (w.alloc (.cells (cbs (List.replicate 16 0)).toArray 5)) := by kernel_rfl
    refine st3 ho hwt (v := .slice (some ⟨w.heap.size, 0, none⟩) 16 16) (w' := w.alloc (.cells (cbs (List.replicate 16 0)).toArray 5)) ?_ (hK _ _ ⟨_, rfl, bs_made w _ _ _ rfl⟩ ((Below.refl _ _).alloc (Nat.le_refl _) _))
    unfold execOp
    simp only [hop, Act.eval, Sem.run_bind, hrun, Result.andThen_ok]
    rfl
  | 5, _, hs, ho, hop, hds, hdep, hK =>
    have hop : o.op = .build 25 #[(4, .const (.int .i64 2)), (0, .const (.int .i64 33)), (1, .const (.int .i64 1099511627776)), (2, .const (.int .i64 2)), (5, .const (.int .i64 7)), (6, .tmp 14)] := Option.some.inj hop
    obtain ⟨u14, hu14, hv14⟩ := hdep 4 (by decide)
    have hv14' : ZV w u14 := hv14
    have e14 : a.eval (.tmp 14) = _ := ev_tmp hu14
    obtain ⟨A, rfl, hA⟩ := hv14'
    have hb : (Try.prog).built 25 [(4, Value.int .i64 2), (0, Value.int .i64 33), (1, Value.int .i64 1099511627776), (2, Value.int .i64 2), (5, Value.int .i64 7), (6, .slice A 16 16)] = some (#[.int .i64 33, .int .i64 1099511627776, .int .i64 2, .int .i64 0, .int .i64 2, .int .i64 7, .slice A 16 16, .int .i64 0, .int .i64 0, .slice none 0 0] : Array Value) := by kernel_rfl
    exact st3 ho hwt (exec_build 25 _ hop _ (show (Try.prog).built 25 [(4, Value.int .i64 2), (0, Value.int .i64 33), (1, Value.int .i64 1099511627776), (2, Value.int .i64 2), (5, Value.int .i64 7), (6, a.eval (.tmp 14))] = _ from by rw [e14]; exact hb) w) (hK _ w ⟨A, rfl, hA⟩ (Below.refl _ _))
  | 6, _, hs, ho, hop, hds, hdep, hK =>
    have hop : o.op = .buildSlice 39 5 #[(0, .tmp 10), (1, .tmp 11), (2, .tmp 12), (3, .tmp 13), (4, .tmp 15)] := Option.some.inj hop
    obtain ⟨u10, hu10, hv10⟩ := hdep 0 (by decide)
    have hv10' : u10 = .agg #[.int .i64 31, .int .i64 5, .int .i64 1, .int .i64 0, .int .i64 1, .int .i64 3, .slice none 0 0, .int .i64 0, .int .i64 0, .slice none 0 0] := hv10
    subst hv10'
    have e10 : a.eval (.tmp 10) = _ := ev_tmp hu10
    obtain ⟨u11, hu11, hv11⟩ := hdep 1 (by decide)
    have hv11' : SealV w u11 := hv11
    have e11 : a.eval (.tmp 11) = _ := ev_tmp hu11
    obtain ⟨u12, hu12, hv12⟩ := hdep 2 (by decide)
    have hv12' : u12 = .agg #[.int .i64 34, .int .i64 1, .int .i64 0, .int .i64 0, .int .i64 3, .int .i64 1, .slice none 0 0, .int .i64 0, .int .i64 0, .slice none 0 0] := hv12
    subst hv12'
    have e12 : a.eval (.tmp 12) = _ := ev_tmp hu12
    obtain ⟨u13, hu13, hv13⟩ := hdep 3 (by decide)
    have hv13' : u13 = .agg #[.int .i64 34, .int .i64 1, .int .i64 0, .int .i64 0, .int .i64 4, .int .i64 2, .slice none 0 0, .int .i64 3, .int .i64 4, .slice none 0 0] := hv13
    subst hv13'
    have e13 : a.eval (.tmp 13) = _ := ev_tmp hu13
    obtain ⟨u15, hu15, hv15⟩ := hdep 5 (by decide)
    have hv15' : WrV w u15 := hv15
    have e15 : a.eval (.tmp 15) = _ := ev_tmp hu15
    obtain ⟨A1, rfl, hA1⟩ := hv11'
    obtain ⟨A5, rfl, hA5⟩ := hv15'
    have hrun : (Instr.buildSlice 39 5 #[(0, .agg #[.int .i64 31, .int .i64 5, .int .i64 1, .int .i64 0, .int .i64 1, .int .i64 3, .slice none 0 0, .int .i64 0, .int .i64 0, .slice none 0 0]), (1, .agg #[.int .i64 0, .int .i64 0, .int .i64 2, .int .i64 1, .int .i64 5, .int .i64 0, .slice none 0 0, .int .i64 0, .int .i64 0, .slice (some A1) 4 4]), (2, .agg #[.int .i64 34, .int .i64 1, .int .i64 0, .int .i64 0, .int .i64 3, .int .i64 1, .slice none 0 0, .int .i64 0, .int .i64 0, .slice none 0 0]), (3, .agg #[.int .i64 34, .int .i64 1, .int .i64 0, .int .i64 0, .int .i64 4, .int .i64 2, .slice none 0 0, .int .i64 3, .int .i64 4, .slice none 0 0]), (4, .agg #[.int .i64 33, .int .i64 1099511627776, .int .i64 2, .int .i64 0, .int .i64 2, .int .i64 7, .slice A5 16 16, .int .i64 0, .int .i64 0, .slice none 0 0])]).run Try.prog w = .ok (.slice (some ⟨w.heap.size, 0, none⟩) 5 5) (w.alloc (.cells (whs (yF A1 A5)).toArray 25)) := by kernel_rfl
    refine st3 ho hwt (v := .slice (some ⟨w.heap.size, 0, none⟩) 5 5) (w' := w.alloc (.cells (whs (yF A1 A5)).toArray 25)) ?_ (hK _ _ ⟨_, rfl, row5 hA1 hA5⟩ ((Below.refl _ _).alloc (Nat.le_refl _) _))
    unfold execOp
    simp only [hop, List.map_toArray, List.map_cons, List.map_nil, e10, e11, e12, e13, e15, Sem.run_bind, hrun, Result.andThen_ok]
    rfl
  | 7, _, hs, ho, hop, hds, hdep, hK =>
    have hop : o.op = .assign (.tmp 16) := Option.some.inj hop
    obtain ⟨u16, hu16, hv16⟩ := hdep 6 (by decide)
    have hv16' : RowV w u16 := hv16
    have e16 : a.eval (.tmp 16) = _ := ev_tmp hu16
    refine st3 ho hwt (v := _) (w' := w) ?_ (hK _ w hv16 (Below.refl _ _))
    unfold execOp
    rw [hop, ← e16]
    rfl
  | i + 8, hi, _, _, _, _, _, _ => exact absurd hi (by omega)
set_option maxRecDepth 100000 in
set_option maxHeartbeats 6400000 in
theorem walk (kind : Int) (which : Int) (w : World) (hkind : (Lit.int .i64 kind).wf = true) (hwhich : (Lit.int .i64 which).wf = true) :
    Calls Try.prog 12 #[.int .i64 kind, .int .i64 which] w fun e w' => e = .returned (.bool true) ∧ Below w.heap.size w w' := by
  go_enter Try.func12, Try.ntmps12
  go_wp2_with fail
  refine (works11_any _).mono ?_
  rintro e w1 ⟨rfl, hb1⟩
  have Hb1 := Lib.hid hb1
  clear hb1
  go_wp2_with fail
  refine region_rule4 (P := Try.prog) 8 54 wfD wfG wfS (wfR ) _ _ (by kernel_rfl) rfl rfl (by kernel_rfl) (by decide +kernel) (wf_gb ) (wf_sk ) (wf_on ) (wf_step  (by rfl) (by kernel_rfl) ) ?fin
  case fin =>
    intro a w6 hbase hbl hall
    obtain ⟨v5, hv5, hR5⟩ := hall 7 (by decide)
    obtain ⟨A5, rfl, hL5⟩ := hR5
    obtain ⟨g, hg, hge⟩ := lit54 a hbase.1
    have q0 : g 0 = .int .i64 kind := hge 0 _ ((hbase.2.2 0 (by decide)).trans rfl)
    have q1 : g 1 = .int .i64 which := hge 1 _ ((hbase.2.2 1 (by decide)).trans rfl)
    have q5 : g 5 = .slice A5 5 5 := hge 5 _ hv5
    have hdf : a.defers = [] := hbase.2.1
    rw [hdf, q0, q1, q5] at hg
    rw [hg]
    have hbw6 := Hb1.out.trans (hbl.mono Hb1.out.size)
    obtain ⟨r1, hr10, hr11, hbr1⟩ := bring_ex kind 5 (by omega) (by omega) hkind
    obtain ⟨k, rfl⟩ := Int.eq_ofNat_of_zero_le hr10
    have hk : k < 5 := by omega
    obtain ⟨b, off, D, nd, cd, N, nn, cn, hA, hb, hrg, hAW⟩ := hL5.at_ (j := k) hk
    have hM := xF_may _ (List.getElem_mem (l := xF) (n := k) hk)
    have n0 := xF_0 _ (List.getElem_mem (l := xF) (n := k) hk)
    have n1 := xF_1 _ (List.getElem_mem (l := xF) (n := k) hk)
    have n2 := xF_2 _ (List.getElem_mem (l := xF) (n := k) hk)
    have n3 := xF_3 _ (List.getElem_mem (l := xF) (n := k) hk)
    have n4 := xF_4 _ (List.getElem_mem (l := xF) (n := k) hk)
    generalize xF[k] = x at *
    subst hA
    have hchk : chk x = 0 := by unfold chk; rw [if_pos hM]
    have HM := Lib.hid (And.intro hbr1 (And.intro hchk (And.intro n0 (And.intro n1 (And.intro n2 (And.intro n3 (And.intro n4 (And.intro hM hbw6))))))))
    clear hg hall hbase hdf hge hv5
    clear hbr1 hchk n0 n1 n2 n3 n4 hM hL5 hbw6 hr10
    go_wp2_with fail
    refine (HM.out.1 w6).mono ?_
    rintro e w' ⟨rfl, rfl⟩
    dsimp only
    obtain ⟨⟨k0, k1, k2, k3, k4⟩, k5, k6, k7, k8, k9⟩ := range_ks hrg
    simp only at k0 k1 k2 k3 k4 k5 k6 k7 k8 k9
    have hal : Below w'.heap.size w' (w'.alloc (.cells #[.int .i64 x.cl, .int .i64 x.sp, .int .i64 x.gr, .int .i64 x.ep, .int .i64 x.kd, .int .i64 x.bl, .slice D nd cd, .int .i64 x.od, .int .i64 x.nw, .slice N nn cn] 25)) := (Below.refl _ _).alloc (Nat.le_refl _) _
    have hB6 : Blk (w'.alloc (.cells #[.int .i64 x.cl, .int .i64 x.sp, .int .i64 x.gr, .int .i64 x.ep, .int .i64 x.kd, .int .i64 x.bl, .slice D nd cd, .int .i64 x.od, .int .i64 x.nw, .slice N nn cn] 25)) w'.heap.size 25 [.int .i64 x.cl, .int .i64 x.sp, .int .i64 x.gr, .int .i64 x.ep, .int .i64 x.kd, .int .i64 x.bl, .slice D nd cd, .int .i64 x.od, .int .i64 x.nw, .slice N nn cn] := Blk.new rfl rfl
    have Hx := Lib.hid (And.intro (hAW.after hal) (And.intro hal hB6))
    clear hrg hAW hal hB6
    go_wp2_with fail
    have hc := check_any x D nd cd N nn cn _ Hx.out.1
    rw [HM.out.2.1] at hc
    refine hc.mono ?_
    clear hc
    rintro e w7 ⟨rfl, hb7⟩
    have hB7 := Hx.out.2.2.below hb7 Hx.out.2.2.lt
    have k0 : w7.cell? ⟨w'.heap.size, 0, none⟩ = some (.int .i64 x.cl) := hB7.cell rfl
    have k1 : w7.cell? ⟨w'.heap.size, 1, none⟩ = some (.int .i64 x.sp) := hB7.cell rfl
    have k2 : w7.cell? ⟨w'.heap.size, 2, none⟩ = some (.int .i64 x.gr) := hB7.cell rfl
    have k3 : w7.cell? ⟨w'.heap.size, 3, none⟩ = some (.int .i64 x.ep) := hB7.cell rfl
    have k4 : w7.cell? ⟨w'.heap.size, 4, none⟩ = some (.int .i64 x.kd) := hB7.cell rfl
    have k5 : w7.cell? ⟨w'.heap.size, 5, none⟩ = some (.int .i64 x.bl) := hB7.cell rfl
    have k6 : w7.cell? ⟨w'.heap.size, 6, none⟩ = some (.slice D nd cd) := hB7.cell rfl
    have k7 : w7.cell? ⟨w'.heap.size, 7, none⟩ = some (.int .i64 x.od) := hB7.cell rfl
    have k8 : w7.cell? ⟨w'.heap.size, 8, none⟩ = some (.int .i64 x.nw) := hB7.cell rfl
    have k9 : w7.cell? ⟨w'.heap.size, 9, none⟩ = some (.slice N nn cn) := hB7.cell rfl
    have H7 := Lib.hid (And.intro (Hx.out.1.after hb7) (HM.out.2.2.2.2.2.2.2.2.trans ((Hx.out.2.1.trans (hb7.mono Hx.out.2.1.size)).mono HM.out.2.2.2.2.2.2.2.2.size)))
    clear hb7 hB7
    go_wp2_with fail
    refine (rcopy_any x D nd cd N nn cn w7 H7.out.1).mono ?_
    rintro e w8 ⟨v, rfl, hV, hb8⟩
    obtain ⟨Dc, ndc, cdc, Nc, nnc, cnc, rfl, hAc, hMc, hNc⟩ := hV.arg (may_nm HM.out.2.2.2.2.2.2.2.1)
    have hal9 : Below w8.heap.size w8 ((w8.alloc (.cells #[.int .i64 x.cl, .int .i64 x.sp, .int .i64 x.gr, .int .i64 x.ep, .int .i64 x.kd, .int .i64 x.bl, .slice Dc ndc cdc, .int .i64 x.od, .int .i64 x.nw, .slice Nc nnc cnc] 25))) := (Below.refl _ _).alloc (Nat.le_refl _) _
    have hB9 : Blk ((w8.alloc (.cells #[.int .i64 x.cl, .int .i64 x.sp, .int .i64 x.gr, .int .i64 x.ep, .int .i64 x.kd, .int .i64 x.bl, .slice Dc ndc cdc, .int .i64 x.od, .int .i64 x.nw, .slice Nc nnc cnc] 25))) w8.heap.size 25 [.int .i64 x.cl, .int .i64 x.sp, .int .i64 x.gr, .int .i64 x.ep, .int .i64 x.kd, .int .i64 x.bl, .slice Dc ndc cdc, .int .i64 x.od, .int .i64 x.nw, .slice Nc nnc cnc] := Blk.new rfl rfl
    have hM9 : Mine ((w8.alloc (.cells #[.int .i64 x.cl, .int .i64 x.sp, .int .i64 x.gr, .int .i64 x.ep, .int .i64 x.kd, .int .i64 x.bl, .slice Dc ndc cdc, .int .i64 x.od, .int .i64 x.nw, .slice Nc nnc cnc] 25))) w7.heap.size 5 (.slice Dc ndc cdc) x.da := Mine.after hMc hal9
    have hN9 : OwnI ((w8.alloc (.cells #[.int .i64 x.cl, .int .i64 x.sp, .int .i64 x.gr, .int .i64 x.ep, .int .i64 x.kd, .int .i64 x.bl, .slice Dc ndc cdc, .int .i64 x.od, .int .i64 x.nw, .slice Nc nnc cnc] 25))) w7.heap.size (.slice Nc nnc cnc) x.nx := own_below hNc hal9
    have hA9 := hAc.after hal9
    have hb9 := H7.out.2.trans ((hb8.trans (hal9.mono hb8.size)).mono H7.out.2.size)
    have hs9 : w8.heap.size < ((w8.alloc (.cells #[.int .i64 x.cl, .int .i64 x.sp, .int .i64 x.gr, .int .i64 x.ep, .int .i64 x.kd, .int .i64 x.bl, .slice Dc ndc cdc, .int .i64 x.od, .int .i64 x.nw, .slice Nc nnc cnc] 25))).heap.size := hB9.lt
    obtain ⟨W9, hW9⟩ : ∃ W, (w8.alloc (.cells #[.int .i64 x.cl, .int .i64 x.sp, .int .i64 x.gr, .int .i64 x.ep, .int .i64 x.kd, .int .i64 x.bl, .slice Dc ndc cdc, .int .i64 x.od, .int .i64 x.nw, .slice Nc nnc cnc] 25)) = W := ⟨_, rfl⟩
    rw [hW9] at hB9 hM9 hN9 hA9 hb9 hs9
    obtain ⟨g, hg⟩ : ∃ g, w8.heap.size = g := ⟨_, rfl⟩
    have hd9 : ∀ i, (Value.slice Dc ndc cdc).ownBlock = some i → i < g := fun i hi => by rw [← hg]; exact (World.ownsRow.lt hMc i hi).2
    have hn9 : ∀ i, (Value.slice Nc nnc cnc).ownBlock = some i → i < g := fun i hi => by rw [← hg]; exact (World.ownsRow.lt hNc i hi).2
    rw [hg] at hB9 hs9
    have hgb : w7.heap.size ≤ g := by rw [← hg]; exact hb8.size
    have H9 := Lib.hid (And.intro hB9 (And.intro hM9 (And.intro hN9 (And.intro hA9 (And.intro hb9 (And.intro hd9 hn9))))))
    have HW9 := Lib.hid hW9
    have Hg := Lib.hid hg
    clear hal9 hB9 hM9 hN9 hA9 hb9 hW9 hg hd9 hn9 hV hb8 hAc hMc hNc k0 k1 k2 k3 k4 k5 k6 k7 k8 k9
    obtain ⟨r2, hr20, hr21, hbr2⟩ := bring_ex which 5 (by omega) (by omega) hwhich
    have HB2 := Lib.hid hbr2
    clear hbr2
    go_upto_region 9 with fail
    rw [HW9.out, Hg.out]
    obtain rfl | rfl | rfl | rfl | rfl : r2 = 0 ∨ r2 = 1 ∨ r2 = 2 ∨ r2 = 3 ∨ r2 = 4 := by omega
    · go_wp2_with fail
      refine (HB2.out W9).mono ?_
      rintro e w' ⟨rfl, rfl⟩
      have hM' : Mine (w'.alloc (.cells #[.int .u8 1] 5)) w7.heap.size 5 (.slice Dc ndc cdc) x.da := Mine.after H9.out.2.1 ((Below.refl _ _).alloc (Nat.le_refl _) _)
      have h16 : x.da.length ≤ 16 := HM.out.2.2.2.2.2.2.2.1.nums.2.2.2.2.2.2.2.2.1
      have hln : x.da.length + 1 ≤ 140737488355328 := by omega
      have hsz : w7.heap.size ≤ (w'.alloc (.cells #[.int .u8 1] 5)).heap.size := by simp; omega
      have kd : (w'.alloc (.cells #[.int .u8 1] 5)).cell? ⟨g, 6, none⟩ = some (.slice Dc ndc cdc) := (H9.out.1.old _).cell rfl
      have kd' : w'.cell? ⟨g, 6, none⟩ = some (.slice Dc ndc cdc) := H9.out.1.cell rfl
      go_upto_region 12 with fail
      go_upto_region 19 with (at_builtin; refine wp_appendB rfl _ _ rfl w7.heap.size _ x.da rfl hM' _ 1 1 [1] rfl (bs_made w' 5 #[.int .u8 1] [1] rfl) rfl hln hsz ?_; intro v10 w10 hm10 hg10 ho10; obtain ⟨A10, c10, rfl, _⟩ := Mine.form hm10; have hlen1 : (x.da ++ [1]).length = ndc + 1 := (by rw [List.length_append, H9.out.2.2.2.1.1.1]; rfl); rw [hlen1] at hm10 ho10 ⊢; obtain ⟨o1, o2, o3, o4, o5⟩ := odd_da H9.out.1 H9.out.2.1 H9.out.2.2.1 H9.out.2.2.2.1 H9.out.2.2.2.2.1 H9.out.2.2.2.2.2.1 H9.out.2.2.2.2.2.2 H7.out.2.size hgb h16 rfl hm10 hg10 ho10; have o1 : w10.cell? ⟨g, 6, none⟩ = some (.slice Dc ndc cdc) := o1)
      obtain ⟨W10, hW10⟩ : ∃ W, w10.setCell ⟨g, 6, none⟩ (Value.slice A10 (ndc + 1) c10) = W := ⟨_, rfl⟩
      rw [hW10] at o3 o4 o5
      have hB10' : Blk W10 g 25 [.int .i64 x.cl, .int .i64 x.sp, .int .i64 x.gr, .int .i64 x.ep, .int .i64 x.kd, .int .i64 x.bl, .slice A10 (ndc + 1) c10, .int .i64 x.od, .int .i64 x.nw, .slice Nc nnc cnc] := o3
      have HW10 := Lib.hid hW10
      have HX := Lib.hid (And.intro hB10' (And.intro o4 o5))
      clear hB10' o3 o4 o5 hW10
      go_upto_region 19 with fail
      rw [HW10.out]
      have k0 : W10.cell? ⟨g, 0, none⟩ = some (.int .i64 x.cl) := HX.out.1.cell rfl
      have k1 : W10.cell? ⟨g, 1, none⟩ = some (.int .i64 x.sp) := HX.out.1.cell rfl
      have k2 : W10.cell? ⟨g, 2, none⟩ = some (.int .i64 x.gr) := HX.out.1.cell rfl
      have k3 : W10.cell? ⟨g, 3, none⟩ = some (.int .i64 x.ep) := HX.out.1.cell rfl
      have k4 : W10.cell? ⟨g, 4, none⟩ = some (.int .i64 x.kd) := HX.out.1.cell rfl
      have k5 : W10.cell? ⟨g, 5, none⟩ = some (.int .i64 x.bl) := HX.out.1.cell rfl
      have k6 : W10.cell? ⟨g, 6, none⟩ = some (.slice A10 (ndc + 1) c10) := HX.out.1.cell rfl
      have k7 : W10.cell? ⟨g, 7, none⟩ = some (.int .i64 x.od) := HX.out.1.cell rfl
      have k8 : W10.cell? ⟨g, 8, none⟩ = some (.int .i64 x.nw) := HX.out.1.cell rfl
      have k9 : W10.cell? ⟨g, 9, none⟩ = some (.slice Nc nnc cnc) := HX.out.1.cell rfl
      have hA := HX.out.2.1
      have hc2 : chk { x with da := x.da ++ [1] } = 2 := by unfold chk; rw [if_neg HM.out.2.2.1]
      have hc := check_any { x with da := x.da ++ [1] } A10 (ndc + 1) c10 Nc nnc cnc W10 HX.out.2.1
      rw [hc2] at hc
      dsimp only at hc
      have hbz := HX.out.2.2
      have HC := Lib.hid (And.intro hc hbz)
      clear hc hc2 hbz hA
      go_wp2_with fail
      refine HC.out.1.mono ?_
      rintro e w11 ⟨rfl, hb11⟩
      have Hf := Lib.hid (HC.out.2.trans (hb11.mono HC.out.2.size))
      clear hb11
      go_wp2
      go_ret
      exact ⟨rfl, Hf.out⟩
    · go_wp2_with fail
      refine (HB2.out W9).mono ?_
      rintro e w' ⟨rfl, rfl⟩
      have hst : Out (fun i => i = g) w' (w'.setCell ⟨g, 7, none⟩ (.int .i64 40)) := (Out.refl (fun i => i = g) w').setCell (p := ⟨g, 7, none⟩) (fun _ => rfl) _
      have kk : w'.cell? ⟨g, 7, none⟩ = some (.int .i64 x.od) := H9.out.1.cell rfl
      have ff := H9.out.1.free 7
      have hB10 := H9.out.1.set_ 7 (.int .i64 40)
      have hw : Wf (40 : Int) := by decide
      have hA8 : ArgW (w'.setCell ⟨g, 7, none⟩ (.int .i64 40)) { x with od := 40 } Dc ndc cdc Nc nnc cnc := by
        have h0 := argW_set (idx := 7) (v := Value.int .i64 40) H9.out.2.1 H9.out.2.2.1 H9.out.2.2.2.1 H9.out.2.2.2.2.2.1 H9.out.2.2.2.2.2.2
        exact ⟨h0.1, h0.2.1, h0.2.2.1, h0.2.2.2.1, h0.2.2.2.2.1, h0.2.2.2.2.2.1, h0.2.2.2.2.2.2.1, h0.2.2.2.2.2.2.2.1, hw, h0.2.2.2.2.2.2.2.2.2⟩
      have hb10 : Below w.heap.size w (w'.setCell ⟨g, 7, none⟩ (.int .i64 40)) := H9.out.2.2.2.2.1.trans (hst.above (B := w.heap.size) (fun i e => by have := H7.out.2.size; omega) H9.out.2.2.2.2.1.size)
      obtain ⟨W10, hW10⟩ : ∃ W, w'.setCell ⟨g, 7, none⟩ (.int .i64 40) = W := ⟨_, rfl⟩
      rw [hW10] at hB10 hA8 hb10
      have hB10' : Blk W10 g 25 [.int .i64 x.cl, .int .i64 x.sp, .int .i64 x.gr, .int .i64 x.ep, .int .i64 x.kd, .int .i64 x.bl, .slice Dc ndc cdc, .int .i64 40, .int .i64 x.nw, .slice Nc nnc cnc] := hB10
      have HW10 := Lib.hid hW10
      have HX := Lib.hid (And.intro hB10' (And.intro hA8 hb10))
      clear hst hB10 hB10' hA8 hb10 hW10 hw
      go_upto_region 19 with fail
      rw [HW10.out]
      have k0 : W10.cell? ⟨g, 0, none⟩ = some (.int .i64 x.cl) := HX.out.1.cell rfl
      have k1 : W10.cell? ⟨g, 1, none⟩ = some (.int .i64 x.sp) := HX.out.1.cell rfl
      have k2 : W10.cell? ⟨g, 2, none⟩ = some (.int .i64 x.gr) := HX.out.1.cell rfl
      have k3 : W10.cell? ⟨g, 3, none⟩ = some (.int .i64 x.ep) := HX.out.1.cell rfl
      have k4 : W10.cell? ⟨g, 4, none⟩ = some (.int .i64 x.kd) := HX.out.1.cell rfl
      have k5 : W10.cell? ⟨g, 5, none⟩ = some (.int .i64 x.bl) := HX.out.1.cell rfl
      have k6 : W10.cell? ⟨g, 6, none⟩ = some (.slice Dc ndc cdc) := HX.out.1.cell rfl
      have k7 : W10.cell? ⟨g, 7, none⟩ = some (.int .i64 40) := HX.out.1.cell rfl
      have k8 : W10.cell? ⟨g, 8, none⟩ = some (.int .i64 x.nw) := HX.out.1.cell rfl
      have k9 : W10.cell? ⟨g, 9, none⟩ = some (.slice Nc nnc cnc) := HX.out.1.cell rfl
      have hA := HX.out.2.1
      have hc2 : chk { x with od := 40 } = 2 := by unfold chk; rw [if_neg HM.out.2.2.2.1]
      have hc := check_any { x with od := 40 } Dc ndc cdc Nc nnc cnc W10 HX.out.2.1
      rw [hc2] at hc
      dsimp only at hc
      have hbz := HX.out.2.2
      have HC := Lib.hid (And.intro hc hbz)
      clear hc hc2 hbz hA
      go_wp2_with fail
      refine HC.out.1.mono ?_
      rintro e w11 ⟨rfl, hb11⟩
      have Hf := Lib.hid (HC.out.2.trans (hb11.mono HC.out.2.size))
      clear hb11
      go_wp2
      go_ret
      exact ⟨rfl, Hf.out⟩
    · go_wp2_with fail
      refine (HB2.out W9).mono ?_
      rintro e w' ⟨rfl, rfl⟩
      have hst : Out (fun i => i = g) w' (w'.setCell ⟨g, 8, none⟩ (.int .i64 (-1))) := (Out.refl (fun i => i = g) w').setCell (p := ⟨g, 8, none⟩) (fun _ => rfl) _
      have kk : w'.cell? ⟨g, 8, none⟩ = some (.int .i64 x.nw) := H9.out.1.cell rfl
      have ff := H9.out.1.free 8
      have hB10 := H9.out.1.set_ 8 (.int .i64 (-1))
      have hw : Wf ((-1) : Int) := by decide
      have hA8 : ArgW (w'.setCell ⟨g, 8, none⟩ (.int .i64 (-1))) { x with nw := -1 } Dc ndc cdc Nc nnc cnc := by
        have h0 := argW_set (idx := 8) (v := Value.int .i64 (-1)) H9.out.2.1 H9.out.2.2.1 H9.out.2.2.2.1 H9.out.2.2.2.2.2.1 H9.out.2.2.2.2.2.2
        exact ⟨h0.1, h0.2.1, h0.2.2.1, h0.2.2.2.1, h0.2.2.2.2.1, h0.2.2.2.2.2.1, h0.2.2.2.2.2.2.1, h0.2.2.2.2.2.2.2.1, h0.2.2.2.2.2.2.2.2.1, hw⟩
      have hb10 : Below w.heap.size w (w'.setCell ⟨g, 8, none⟩ (.int .i64 (-1))) := H9.out.2.2.2.2.1.trans (hst.above (B := w.heap.size) (fun i e => by have := H7.out.2.size; omega) H9.out.2.2.2.2.1.size)
      obtain ⟨W10, hW10⟩ : ∃ W, w'.setCell ⟨g, 8, none⟩ (.int .i64 (-1)) = W := ⟨_, rfl⟩
      rw [hW10] at hB10 hA8 hb10
      have hB10' : Blk W10 g 25 [.int .i64 x.cl, .int .i64 x.sp, .int .i64 x.gr, .int .i64 x.ep, .int .i64 x.kd, .int .i64 x.bl, .slice Dc ndc cdc, .int .i64 x.od, .int .i64 (-1), .slice Nc nnc cnc] := hB10
      have HW10 := Lib.hid hW10
      have HX := Lib.hid (And.intro hB10' (And.intro hA8 hb10))
      clear hst hB10 hB10' hA8 hb10 hW10 hw
      go_upto_region 19 with fail
      rw [HW10.out]
      have k0 : W10.cell? ⟨g, 0, none⟩ = some (.int .i64 x.cl) := HX.out.1.cell rfl
      have k1 : W10.cell? ⟨g, 1, none⟩ = some (.int .i64 x.sp) := HX.out.1.cell rfl
      have k2 : W10.cell? ⟨g, 2, none⟩ = some (.int .i64 x.gr) := HX.out.1.cell rfl
      have k3 : W10.cell? ⟨g, 3, none⟩ = some (.int .i64 x.ep) := HX.out.1.cell rfl
      have k4 : W10.cell? ⟨g, 4, none⟩ = some (.int .i64 x.kd) := HX.out.1.cell rfl
      have k5 : W10.cell? ⟨g, 5, none⟩ = some (.int .i64 x.bl) := HX.out.1.cell rfl
      have k6 : W10.cell? ⟨g, 6, none⟩ = some (.slice Dc ndc cdc) := HX.out.1.cell rfl
      have k7 : W10.cell? ⟨g, 7, none⟩ = some (.int .i64 x.od) := HX.out.1.cell rfl
      have k8 : W10.cell? ⟨g, 8, none⟩ = some (.int .i64 (-1)) := HX.out.1.cell rfl
      have k9 : W10.cell? ⟨g, 9, none⟩ = some (.slice Nc nnc cnc) := HX.out.1.cell rfl
      have hA := HX.out.2.1
      have hc2 : chk { x with nw := -1 } = 2 := by unfold chk; rw [if_neg HM.out.2.2.2.2.1]
      have hc := check_any { x with nw := -1 } Dc ndc cdc Nc nnc cnc W10 HX.out.2.1
      rw [hc2] at hc
      dsimp only at hc
      have hbz := HX.out.2.2
      have HC := Lib.hid (And.intro hc hbz)
      clear hc hc2 hbz hA
      go_wp2_with fail
      refine HC.out.1.mono ?_
      rintro e w11 ⟨rfl, hb11⟩
      have Hf := Lib.hid (HC.out.2.trans (hb11.mono HC.out.2.size))
      clear hb11
      go_wp2
      go_ret
      exact ⟨rfl, Hf.out⟩
    · go_wp2_with fail
      refine (HB2.out W9).mono ?_
      rintro e w' ⟨rfl, rfl⟩
      have h7 : x.nx.length ≤ 7 := HM.out.2.2.2.2.2.2.2.1.nums.2.2.2.2.2.2.2.2.2.1
      have kd : (w'.alloc (.cells #[.int .i64 28] 3)).cell? ⟨g, 9, none⟩ = some (.slice Nc nnc cnc) := (H9.out.1.old _).cell rfl
      have kd' : w'.cell? ⟨g, 9, none⟩ = some (.slice Nc nnc cnc) := H9.out.1.cell rfl
      obtain ⟨A10, c10, w10, hap, o1, o2, o3, o4, o5⟩ := odd_nx H9.out.1 H9.out.2.1 H9.out.2.2.1 H9.out.2.2.2.1 H9.out.2.2.2.2.1 H9.out.2.2.2.2.2.1 H9.out.2.2.2.2.2.2 H7.out.2.size hgb h7 rfl
      have o1 : w10.cell? ⟨g, 9, none⟩ = some (.slice Nc nnc cnc) := o1
      have Hap := Lib.hid hap
      clear hap
      go_upto_region 18 with fail
      go_upto_region 19 with (at_builtin; refine wpList_app rfl _ _ _ _ rfl _ _ _ w10 rfl rfl Hap.out ?_; simp only [Act.put])
      obtain ⟨W10, hW10⟩ : ∃ W, w10.setCell ⟨g, 9, none⟩ (Value.slice A10 (nnc + 1) c10) = W := ⟨_, rfl⟩
      rw [hW10] at o3 o4 o5
      have hB10' : Blk W10 g 25 [.int .i64 x.cl, .int .i64 x.sp, .int .i64 x.gr, .int .i64 x.ep, .int .i64 x.kd, .int .i64 x.bl, .slice Dc ndc cdc, .int .i64 x.od, .int .i64 x.nw, .slice A10 (nnc + 1) c10] := o3
      have HW10 := Lib.hid hW10
      have HX := Lib.hid (And.intro hB10' (And.intro o4 o5))
      clear hB10' o3 o4 o5 hW10
      go_upto_region 19 with fail
      rw [HW10.out]
      have k0 : W10.cell? ⟨g, 0, none⟩ = some (.int .i64 x.cl) := HX.out.1.cell rfl
      have k1 : W10.cell? ⟨g, 1, none⟩ = some (.int .i64 x.sp) := HX.out.1.cell rfl
      have k2 : W10.cell? ⟨g, 2, none⟩ = some (.int .i64 x.gr) := HX.out.1.cell rfl
      have k3 : W10.cell? ⟨g, 3, none⟩ = some (.int .i64 x.ep) := HX.out.1.cell rfl
      have k4 : W10.cell? ⟨g, 4, none⟩ = some (.int .i64 x.kd) := HX.out.1.cell rfl
      have k5 : W10.cell? ⟨g, 5, none⟩ = some (.int .i64 x.bl) := HX.out.1.cell rfl
      have k6 : W10.cell? ⟨g, 6, none⟩ = some (.slice Dc ndc cdc) := HX.out.1.cell rfl
      have k7 : W10.cell? ⟨g, 7, none⟩ = some (.int .i64 x.od) := HX.out.1.cell rfl
      have k8 : W10.cell? ⟨g, 8, none⟩ = some (.int .i64 x.nw) := HX.out.1.cell rfl
      have k9 : W10.cell? ⟨g, 9, none⟩ = some (.slice A10 (nnc + 1) c10) := HX.out.1.cell rfl
      have hA := HX.out.2.1
      have hc2 : chk { x with nx := x.nx ++ [28] } = 2 := by unfold chk; rw [if_neg HM.out.2.2.2.2.2.1]
      have hc := check_any { x with nx := x.nx ++ [28] } Dc ndc cdc A10 (nnc + 1) c10 W10 HX.out.2.1
      rw [hc2] at hc
      dsimp only at hc
      have hbz := HX.out.2.2
      have HC := Lib.hid (And.intro hc hbz)
      clear hc hc2 hbz hA
      go_wp2_with fail
      refine HC.out.1.mono ?_
      rintro e w11 ⟨rfl, hb11⟩
      have Hf := Lib.hid (HC.out.2.trans (hb11.mono HC.out.2.size))
      clear hb11
      go_wp2
      go_ret
      exact ⟨rfl, Hf.out⟩
    · go_wp2_with fail
      refine (HB2.out W9).mono ?_
      rintro e w' ⟨rfl, rfl⟩
      have hst : Out (fun i => i = g) w' (w'.setCell ⟨g, 3, none⟩ (.int .i64 1048577)) := (Out.refl (fun i => i = g) w').setCell (p := ⟨g, 3, none⟩) (fun _ => rfl) _
      have kk : w'.cell? ⟨g, 3, none⟩ = some (.int .i64 x.ep) := H9.out.1.cell rfl
      have ff := H9.out.1.free 3
      have hB10 := H9.out.1.set_ 3 (.int .i64 1048577)
      have hw : Wf (1048577 : Int) := by decide
      have hA8 : ArgW (w'.setCell ⟨g, 3, none⟩ (.int .i64 1048577)) { x with ep := 1048577 } Dc ndc cdc Nc nnc cnc := by
        have h0 := argW_set (idx := 3) (v := Value.int .i64 1048577) H9.out.2.1 H9.out.2.2.1 H9.out.2.2.2.1 H9.out.2.2.2.2.2.1 H9.out.2.2.2.2.2.2
        exact ⟨h0.1, h0.2.1, h0.2.2.1, h0.2.2.2.1, h0.2.2.2.2.1, hw, h0.2.2.2.2.2.2.1, h0.2.2.2.2.2.2.2.1, h0.2.2.2.2.2.2.2.2.1, h0.2.2.2.2.2.2.2.2.2⟩
      have hb10 : Below w.heap.size w (w'.setCell ⟨g, 3, none⟩ (.int .i64 1048577)) := H9.out.2.2.2.2.1.trans (hst.above (B := w.heap.size) (fun i e => by have := H7.out.2.size; omega) H9.out.2.2.2.2.1.size)
      obtain ⟨W10, hW10⟩ : ∃ W, w'.setCell ⟨g, 3, none⟩ (.int .i64 1048577) = W := ⟨_, rfl⟩
      rw [hW10] at hB10 hA8 hb10
      have hB10' : Blk W10 g 25 [.int .i64 x.cl, .int .i64 x.sp, .int .i64 x.gr, .int .i64 1048577, .int .i64 x.kd, .int .i64 x.bl, .slice Dc ndc cdc, .int .i64 x.od, .int .i64 x.nw, .slice Nc nnc cnc] := hB10
      have HW10 := Lib.hid hW10
      have HX := Lib.hid (And.intro hB10' (And.intro hA8 hb10))
      clear hst hB10 hB10' hA8 hb10 hW10 hw
      go_upto_region 19 with fail
      rw [HW10.out]
      have k0 : W10.cell? ⟨g, 0, none⟩ = some (.int .i64 x.cl) := HX.out.1.cell rfl
      have k1 : W10.cell? ⟨g, 1, none⟩ = some (.int .i64 x.sp) := HX.out.1.cell rfl
      have k2 : W10.cell? ⟨g, 2, none⟩ = some (.int .i64 x.gr) := HX.out.1.cell rfl
      have k3 : W10.cell? ⟨g, 3, none⟩ = some (.int .i64 1048577) := HX.out.1.cell rfl
      have k4 : W10.cell? ⟨g, 4, none⟩ = some (.int .i64 x.kd) := HX.out.1.cell rfl
      have k5 : W10.cell? ⟨g, 5, none⟩ = some (.int .i64 x.bl) := HX.out.1.cell rfl
      have k6 : W10.cell? ⟨g, 6, none⟩ = some (.slice Dc ndc cdc) := HX.out.1.cell rfl
      have k7 : W10.cell? ⟨g, 7, none⟩ = some (.int .i64 x.od) := HX.out.1.cell rfl
      have k8 : W10.cell? ⟨g, 8, none⟩ = some (.int .i64 x.nw) := HX.out.1.cell rfl
      have k9 : W10.cell? ⟨g, 9, none⟩ = some (.slice Nc nnc cnc) := HX.out.1.cell rfl
      have hA := HX.out.2.1
      have hc2 : chk { x with ep := 1048577 } = 2 := by unfold chk; rw [if_neg HM.out.2.2.2.2.2.2.1]
      have hc := check_any { x with ep := 1048577 } Dc ndc cdc Nc nnc cnc W10 HX.out.2.1
      rw [hc2] at hc
      dsimp only at hc
      have hbz := HX.out.2.2
      have HC := Lib.hid (And.intro hc hbz)
      clear hc hc2 hbz hA
      go_wp2_with fail
      refine HC.out.1.mono ?_
      rintro e w11 ⟨rfl, hb11⟩
      have Hf := Lib.hid (HC.out.2.trans (hb11.mono HC.out.2.size))
      clear hb11
      go_wp2
      go_ret
      exact ⟨rfl, Hf.out⟩

end Go.Proofs.Ytihmddpafbackaa.wishFields
