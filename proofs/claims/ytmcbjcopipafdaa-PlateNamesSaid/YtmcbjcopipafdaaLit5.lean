/-
  The list of calls that PlateNames plays: what each operation of its literal makes, in whichever order they come up.
-/
import Derived.Test.YtmcbjcopipafdaaRule
import Derived.Test.YtmcbjcopipafdaaArgDo
import Derived.Test.YtmcbjcopipafdaaHelp
import Derived.Test.YtmcbjcopipafdaaApp
namespace Go.Proofs.Ytmcbjcopipafdaa
open Go.RowKit Go.Maps
set_option linter.unusedVariables false

theorem Shows.on' {w w' : World} {k n : Nat} {A : Option Addr} {xs : List Value} (h : Shows w w.heap.size k A n xs) (hb : Below w.heap.size w w') : Shows w' w'.heap.size k A n xs := Shows.on h hb
theorem ArgK.on {w w' : World} {A : Option Addr} {n c : Nat} {l : List Bool} (h : ArgK w A n c l) (hb : Below w.heap.size w w') : ArgK w' A n c l := ⟨h.1, h.2.1, h.2.2.1, h.2.2.2.on hb⟩
/-- A call, as a value. -/
def DoV (w : World) (v : Value) (x : DoL) : Prop := ∃ AB cB AK cK, v = .agg #[.int .i64 x.kind, .int .i64 x.a, .int .i64 x.bit, .slice AB x.b.length cB, .slice AK x.k.length cK] ∧ x.b.length ≤ cB ∧ cB ≤ maxLen ∧ Bs w AB x.b ∧ ArgK w AK x.k.length cK x.k
theorem DoV.on {w w' : World} {v : Value} {x : DoL} (h : DoV w v x) (hb : Below w.heap.size w w') : DoV w' v x := by
  obtain ⟨AB, cB, AK, cK, e, h1, h2, h3, h4⟩ := h
  exact ⟨AB, cB, AK, cK, e, h1, h2, h3.on hb, h4.on hb⟩
/-- A row of a block of its own. -/
def RowV (w : World) (v : Value) (t : TypeId) (n : Nat) (cs : List Value) : Prop := ∃ b, v = .slice (some ⟨b, 0, none⟩) n n ∧ Blk w b t cs
theorem RowV.on {w w' : World} {v : Value} {t : TypeId} {n : Nat} {cs : List Value} (h : RowV w v t n cs) (hb : Below w.heap.size w w') : RowV w' v t n cs := by
  obtain ⟨b, e, h1⟩ := h
  exact ⟨b, e, h1.below hb h1.lt⟩
def MoreV (w : World) (v : Value) : Prop := ∃ A c, v = .slice A 65 c ∧ 65 ≤ c ∧ c ≤ maxLen ∧ Bs w A (List.replicate 64 1 ++ [1])
theorem MoreV.on {w w' : World} {v : Value} (h : MoreV w v) (hb : Below w.heap.size w w') : MoreV w' v := by
  obtain ⟨A, c, e, h1, h2, h3⟩ := h
  exact ⟨A, c, e, h1, h2, h3.on hb⟩
/-- The list. -/
def lst5 : List DoL := [⟨0, 0, 0, (List.replicate 64 1), []⟩, ⟨0, 2, 0, (List.replicate 64 1), []⟩, ⟨0, (-1), 0, (List.replicate 64 1), []⟩, ⟨0, 1, 0, (List.replicate 63 1), []⟩, ⟨0, 1, 0, (List.replicate 64 1 ++ [1]), []⟩, ⟨0, 2, 0, [], []⟩, ⟨2, 2, 0, [], []⟩, ⟨2, (-1), 0, [], []⟩, ⟨6, 2, 0, [], []⟩, ⟨6, 0, 512, [], []⟩, ⟨6, 0, (-1), [], []⟩, ⟨6, 0, 511, [], []⟩, ⟨0, 1, 0, (List.replicate 64 1), []⟩, ⟨5, 0, 0, [], []⟩, ⟨0, 1, 0, [], []⟩, ⟨0, 1, 0, (List.replicate 64 9), []⟩, ⟨0, 1, 0, (List.replicate 64 1), []⟩, ⟨3, 0, 0, [], []⟩, ⟨5, 0, 0, [], []⟩, ⟨4, 0, 0, [], []⟩, ⟨5, 0, 0, [], [true]⟩, ⟨5, (-1), 0, [], []⟩, ⟨0, 1, 0, (List.replicate 64 4), []⟩, ⟨5, 0, 0, [], [true]⟩, ⟨1, 0, 0, [], []⟩, ⟨4, 0, 0, [], []⟩, ⟨1, 0, 0, [], []⟩, ⟨4, 0, 0, [], []⟩]
def ListV (w : World) (v : Value) : Prop := ∃ b, v = .slice (some ⟨b, 0, none⟩) 28 28 ∧ ArgDo w (some ⟨b, 0, none⟩) 28 28 lst5
theorem DoAt.on {w w' : World} {b o : Nat} {x : DoL} (h : DoAt w b o x) (hlt : b < w.heap.size) (hb : Below w.heap.size w w') : DoAt w' b o x := by
  obtain ⟨h1, h2, h3, c0, c1, c2, ⟨AB, cB, c3, r1, r2, r3⟩, ⟨AK, nK, cK, c4, r4, r5⟩⟩ := h
  exact ⟨h1, h2, h3, (hb.cell (p := ⟨b, o, none⟩) hlt).trans c0, (hb.cell (p := ⟨b, o + 1, none⟩) hlt).trans c1, (hb.cell (p := ⟨b, o + 2, none⟩) hlt).trans c2,
    ⟨AB, cB, (hb.cell (p := ⟨b, o + 3, none⟩) hlt).trans c3, r1, r2, r3.on hb⟩, ⟨AK, nK, cK, (hb.cell (p := ⟨b, o + 4, none⟩) hlt).trans c4, r4.on hb, r5⟩⟩
theorem ArgDo.on {w w' : World} {A : Option Addr} {n c : Nat} {l : List DoL} (h : ArgDo w A n c l) (hb : Below w.heap.size w w') : ArgDo w' A n c l := by
  refine ⟨h.1, h.2.1, h.2.2.1, fun hn => ?_⟩
  obtain ⟨b, off, e, hlt, hd⟩ := h.2.2.2 hn
  exact ⟨b, off, e, Nat.lt_of_lt_of_le hlt hb.size, fun j hj => (hd j hj).on hlt hb⟩
theorem ListV.on {w w' : World} {v : Value} (h : ListV w v) (hb : Below w.heap.size w w') : ListV w' v := by
  obtain ⟨b, e, h1⟩ := h
  exact ⟨b, e, h1.on hb⟩
theorem ArgK.none (w : World) : ArgK w none 0 0 [] := ⟨rfl, Nat.le_refl _, by simp [maxLen], Shows.empty _⟩
theorem DoV.mk {w : World} (x : DoL) {AB AK : Option Addr} {nB cB nK cK : Nat} (hn : x.b.length = nB) (hk : x.k.length = nK) (h1 : nB ≤ cB) (h2 : cB ≤ maxLen) (h3 : Bs w AB x.b) (h4 : ArgK w AK nK cK x.k) :
    DoV w (.agg #[.int .i64 x.kind, .int .i64 x.a, .int .i64 x.bit, .slice AB nB cB, .slice AK nK cK]) x := by
  subst hn; subst hk
  exact ⟨AB, cB, AK, cK, rfl, h1, h2, h3, h4⟩
theorem DoV.at_ {w : World} {b o : Nat} {x : DoL} {AB AK : Option Addr} {cB cK : Nat} (h1 : x.b.length ≤ cB) (h2 : cB ≤ maxLen) (h3 : Bs w AB x.b) (h4 : ArgK w AK x.k.length cK x.k) (hk : x.k.length ≤ 1) (hw : Wf x.kind ∧ Wf x.a ∧ Wf x.bit)
    (c0 : w.cell? ⟨b, o, none⟩ = some (.int .i64 x.kind)) (c1 : w.cell? ⟨b, o + 1, none⟩ = some (.int .i64 x.a)) (c2 : w.cell? ⟨b, o + 2, none⟩ = some (.int .i64 x.bit)) (c3 : w.cell? ⟨b, o + 3, none⟩ = some (.slice AB x.b.length cB)) (c4 : w.cell? ⟨b, o + 4, none⟩ = some (.slice AK x.k.length cK)) :
    DoAt w b o x := ⟨hw.1, hw.2.1, hw.2.2, c0, c1, c2, ⟨AB, cB, c3, h1, h2, h3⟩, ⟨AK, x.k.length, cK, c4, h4, by omega⟩⟩
theorem RowV.bytes {w : World} {v : Value} {n : Nat} {l : List UInt8} (h : RowV w v 5 n (cbs l)) (hn : l.length = n) : ∃ A, v = .slice A n n ∧ Bs w A l := by
  obtain ⟨b, e, h1⟩ := h
  exact ⟨_, e, Bs.ofBlk h1⟩
theorem RowV.keeps {w : World} {v : Value} (h : RowV w v 4 1 [.bool true]) : ∃ A, v = .slice A 1 1 ∧ ArgK w A 1 1 [true] := by
  obtain ⟨b, e, h1⟩ := h
  exact ⟨_, e, rfl, Nat.le_refl _, by simp [maxLen], rfl, fun _ => ⟨b, 0, rfl, h1.lt, fun j u hu => by rw [Nat.zero_add]; exact h1.cell hu⟩⟩

/-- What operation i's value is. -/
def RN (g : Nat) : Nat → Value → World → Prop
  | 0 => fun v w => v = .slice (some ⟨g, 0, none⟩) 64 64
  | 1 => fun v w => DoV w v ⟨0, 0, 0, (List.replicate 64 1), []⟩
  | 2 => fun v w => v = .slice (some ⟨g, 0, none⟩) 64 64
  | 3 => fun v w => DoV w v ⟨0, 2, 0, (List.replicate 64 1), []⟩
  | 4 => fun v w => v = .slice (some ⟨g, 0, none⟩) 64 64
  | 5 => fun v w => DoV w v ⟨0, (-1), 0, (List.replicate 64 1), []⟩
  | 6 => fun v w => v = .slice (some ⟨g, 0, none⟩) 64 64
  | 7 => fun v w => v = .slice (some ⟨g, 0, none⟩) 63 64
  | 8 => fun v w => DoV w v ⟨0, 1, 0, (List.replicate 63 1), []⟩
  | 9 => fun v w => v = .slice (some ⟨g, 0, none⟩) 64 64
  | 10 => fun v w => RowV w v 5 1 (cbs [1])
  | 11 => fun v w => MoreV w v
  | 12 => fun v w => DoV w v ⟨0, 1, 0, (List.replicate 64 1 ++ [1]), []⟩
  | 13 => fun v w => DoV w v ⟨0, 2, 0, [], []⟩
  | 14 => fun v w => DoV w v ⟨2, 2, 0, [], []⟩
  | 15 => fun v w => DoV w v ⟨2, (-1), 0, [], []⟩
  | 16 => fun v w => DoV w v ⟨6, 2, 0, [], []⟩
  | 17 => fun v w => DoV w v ⟨6, 0, 512, [], []⟩
  | 18 => fun v w => DoV w v ⟨6, 0, (-1), [], []⟩
  | 19 => fun v w => DoV w v ⟨6, 0, 511, [], []⟩
  | 20 => fun v w => v = .slice (some ⟨g, 0, none⟩) 64 64
  | 21 => fun v w => DoV w v ⟨0, 1, 0, (List.replicate 64 1), []⟩
  | 22 => fun v w => DoV w v ⟨5, 0, 0, [], []⟩
  | 23 => fun v w => DoV w v ⟨0, 1, 0, [], []⟩
  | 24 => fun v w => RowV w v 5 64 (cbs (List.replicate 64 9))
  | 25 => fun v w => DoV w v ⟨0, 1, 0, (List.replicate 64 9), []⟩
  | 26 => fun v w => v = .slice (some ⟨g, 0, none⟩) 64 64
  | 27 => fun v w => DoV w v ⟨0, 1, 0, (List.replicate 64 1), []⟩
  | 28 => fun v w => DoV w v ⟨3, 0, 0, [], []⟩
  | 29 => fun v w => DoV w v ⟨5, 0, 0, [], []⟩
  | 30 => fun v w => DoV w v ⟨4, 0, 0, [], []⟩
  | 31 => fun v w => RowV w v 4 1 [.bool true]
  | 32 => fun v w => DoV w v ⟨5, 0, 0, [], [true]⟩
  | 33 => fun v w => DoV w v ⟨5, (-1), 0, [], []⟩
  | 34 => fun v w => RowV w v 5 64 (cbs (List.replicate 64 4))
  | 35 => fun v w => DoV w v ⟨0, 1, 0, (List.replicate 64 4), []⟩
  | 36 => fun v w => RowV w v 4 1 [.bool true]
  | 37 => fun v w => DoV w v ⟨5, 0, 0, [], [true]⟩
  | 38 => fun v w => DoV w v ⟨1, 0, 0, [], []⟩
  | 39 => fun v w => DoV w v ⟨4, 0, 0, [], []⟩
  | 40 => fun v w => DoV w v ⟨1, 0, 0, [], []⟩
  | 41 => fun v w => DoV w v ⟨4, 0, 0, [], []⟩
  | 42 => fun v w => ListV w v
  | 43 => fun v w => ListV w v
  | _ => fun _ _ => True
def dN (i : Nat) : Nat := if i = 43 then 6 else 73 + i
theorem RN_on (g : Nat) : ∀ i v w w', RN g i v w → Below w.heap.size w w' → RN g i v w'
  | 0, v, w, w', h, _ => h
  | 1, v, w, w', h, hb => DoV.on (show DoV w v ⟨0, 0, 0, (List.replicate 64 1), []⟩ from h) hb
  | 2, v, w, w', h, _ => h
  | 3, v, w, w', h, hb => DoV.on (show DoV w v ⟨0, 2, 0, (List.replicate 64 1), []⟩ from h) hb
  | 4, v, w, w', h, _ => h
  | 5, v, w, w', h, hb => DoV.on (show DoV w v ⟨0, (-1), 0, (List.replicate 64 1), []⟩ from h) hb
  | 6, v, w, w', h, _ => h
  | 7, v, w, w', h, _ => h
  | 8, v, w, w', h, hb => DoV.on (show DoV w v ⟨0, 1, 0, (List.replicate 63 1), []⟩ from h) hb
  | 9, v, w, w', h, _ => h
  | 10, v, w, w', h, hb => RowV.on (show RowV w v 5 1 (cbs [1]) from h) hb
  | 11, v, w, w', h, hb => MoreV.on (show MoreV w v from h) hb
  | 12, v, w, w', h, hb => DoV.on (show DoV w v ⟨0, 1, 0, (List.replicate 64 1 ++ [1]), []⟩ from h) hb
  | 13, v, w, w', h, hb => DoV.on (show DoV w v ⟨0, 2, 0, [], []⟩ from h) hb
  | 14, v, w, w', h, hb => DoV.on (show DoV w v ⟨2, 2, 0, [], []⟩ from h) hb
  | 15, v, w, w', h, hb => DoV.on (show DoV w v ⟨2, (-1), 0, [], []⟩ from h) hb
  | 16, v, w, w', h, hb => DoV.on (show DoV w v ⟨6, 2, 0, [], []⟩ from h) hb
  | 17, v, w, w', h, hb => DoV.on (show DoV w v ⟨6, 0, 512, [], []⟩ from h) hb
  | 18, v, w, w', h, hb => DoV.on (show DoV w v ⟨6, 0, (-1), [], []⟩ from h) hb
  | 19, v, w, w', h, hb => DoV.on (show DoV w v ⟨6, 0, 511, [], []⟩ from h) hb
  | 20, v, w, w', h, _ => h
  | 21, v, w, w', h, hb => DoV.on (show DoV w v ⟨0, 1, 0, (List.replicate 64 1), []⟩ from h) hb
  | 22, v, w, w', h, hb => DoV.on (show DoV w v ⟨5, 0, 0, [], []⟩ from h) hb
  | 23, v, w, w', h, hb => DoV.on (show DoV w v ⟨0, 1, 0, [], []⟩ from h) hb
  | 24, v, w, w', h, hb => RowV.on (show RowV w v 5 64 (cbs (List.replicate 64 9)) from h) hb
  | 25, v, w, w', h, hb => DoV.on (show DoV w v ⟨0, 1, 0, (List.replicate 64 9), []⟩ from h) hb
  | 26, v, w, w', h, _ => h
  | 27, v, w, w', h, hb => DoV.on (show DoV w v ⟨0, 1, 0, (List.replicate 64 1), []⟩ from h) hb
  | 28, v, w, w', h, hb => DoV.on (show DoV w v ⟨3, 0, 0, [], []⟩ from h) hb
  | 29, v, w, w', h, hb => DoV.on (show DoV w v ⟨5, 0, 0, [], []⟩ from h) hb
  | 30, v, w, w', h, hb => DoV.on (show DoV w v ⟨4, 0, 0, [], []⟩ from h) hb
  | 31, v, w, w', h, hb => RowV.on (show RowV w v 4 1 [.bool true] from h) hb
  | 32, v, w, w', h, hb => DoV.on (show DoV w v ⟨5, 0, 0, [], [true]⟩ from h) hb
  | 33, v, w, w', h, hb => DoV.on (show DoV w v ⟨5, (-1), 0, [], []⟩ from h) hb
  | 34, v, w, w', h, hb => RowV.on (show RowV w v 5 64 (cbs (List.replicate 64 4)) from h) hb
  | 35, v, w, w', h, hb => DoV.on (show DoV w v ⟨0, 1, 0, (List.replicate 64 4), []⟩ from h) hb
  | 36, v, w, w', h, hb => RowV.on (show RowV w v 4 1 [.bool true] from h) hb
  | 37, v, w, w', h, hb => DoV.on (show DoV w v ⟨5, 0, 0, [], [true]⟩ from h) hb
  | 38, v, w, w', h, hb => DoV.on (show DoV w v ⟨1, 0, 0, [], []⟩ from h) hb
  | 39, v, w, w', h, hb => DoV.on (show DoV w v ⟨4, 0, 0, [], []⟩ from h) hb
  | 40, v, w, w', h, hb => DoV.on (show DoV w v ⟨1, 0, 0, [], []⟩ from h) hb
  | 41, v, w, w', h, hb => DoV.on (show DoV w v ⟨4, 0, 0, [], []⟩ from h) hb
  | 42, v, w, w', h, hb => ListV.on (show ListV w v from h) hb
  | 43, v, w, w', h, hb => ListV.on (show ListV w v from h) hb
  | i + 44, v, w, w', h, hb => trivial

theorem run_front63 (g : Nat) (w : World) : (Instr.sliceAt 23 (.slice (some ⟨g, 0, none⟩) 64 64) none (some (.int .i64 63)) none).run Try.prog w = .ok (.slice (some ⟨g, 0, none⟩) 63 64) w := by
  go_simp
set_option maxRecDepth 100000 in
/-- append(one, 1): a new row. -/
theorem run_more {w : World} {g h : Nat} (hg : Blk w g 5 (cbs (List.replicate 64 1))) (hh : Blk w h 5 (cbs [1])) (ty : TypeId) :
    ∃ v w', (Builtin.append_ #[23, 23] ty #[.slice (some ⟨g, 0, none⟩) 64 64, .slice (some ⟨h, 0, none⟩) 1 1]).run Try.prog w = .ok v w' ∧ MoreV w' v ∧ Below w.heap.size w w' := by
  obtain ⟨i0, hi, hz0, hz1, hz2⟩ := info_parts u8_info
  have hl1 : (cbs (List.replicate 64 1)).length = 64 * i0.size := by rw [cbs_length, hz1]; simp
  have hl2 : (cbs [1]).length = 1 * i0.size := by rw [cbs_length, hz1]; rfl
  have hr := run_append_grow (P := Try.prog) (w := w) 23 ty 5 i0 (.int .u8 0) Try.underlying23 hi hz0 ⟨g, 0, none⟩ 64 64 (cbs (List.replicate 64 1)) hl1
    (fun j u hu => by rw [add_mk, Nat.zero_add]; exact hg.cell hu) ⟨h, 0, none⟩ 1 1 (cbs [1]) hl2 (fun j u hu => by rw [add_mk, Nat.zero_add]; exact hh.cell hu) (by omega) (by omega) (by rw [hz2]; exact growslice_fits (by omega) (by omega))
  have hge := grownCap_ge w (64 + 1) 64 5
  have hcm : grownCap w (64 + 1) 64 5 ≤ maxLen := grownCap_le_maxLen w (64 + 1) 64 5 (by simp [maxLen])
  refine ⟨_, _, hr, ⟨_, _, rfl, hge, hcm, ?_⟩, ((Below.refl _ _).drew).alloc (Nat.le_refl _) _⟩
  refine ⟨by simp [cbs], fun _ => ⟨w.heap.size, 0, rfl, by simp, fun j u hu => ?_⟩⟩
  rw [Nat.zero_add]
  have hjl : j < (cbs (List.replicate 64 1 ++ [1])).length := by
    rcases Nat.lt_or_ge j (cbs (List.replicate 64 1 ++ [1])).length with hl | hl
    · exact hl
    · rw [List.getElem?_eq_none hl] at hu; cases hu
  rw [cell_of_row _ w.heap.size j _ 5 (0, 0) (heap_alloc_new w.drew _)]
  rw [Array.getElem?_append_left (by simpa [cbs] using hjl)]
  rw [← hu, cbs_append]
  simp

def opsL : List Op := [.move (.tmp 5),
  .build 43 #[(1, .const (.int .i64 0)), (3, .tmp 73)],
  .move (.tmp 5),
  .build 43 #[(1, .const (.int .i64 2)), (3, .tmp 75)],
  .move (.tmp 5),
  .build 43 #[(1, .const (.int .i64 (-1))), (3, .tmp 77)],
  .move (.tmp 5),
  .slice 23 (.tmp 79) none (some (.const (.int .i64 63))) none,
  .build 43 #[(1, .const (.int .i64 1)), (3, .tmp 80)],
  .move (.tmp 5),
  .buildSlice 23 1 #[(0, .const (.int .u8 1))],
  .call { callee := .builtin .append, args := #[.tmp 82, .tmp 83], argTypes := #[23, 23] },
  .build 43 #[(1, .const (.int .i64 1)), (3, .tmp 84)],
  .build 43 #[(1, .const (.int .i64 2)), (3, .const (.slice none 0 0))],
  .build 43 #[(0, .const (.int .i64 2)), (1, .const (.int .i64 2))],
  .build 43 #[(0, .const (.int .i64 2)), (1, .const (.int .i64 (-1)))],
  .build 43 #[(0, .const (.int .i64 6)), (1, .const (.int .i64 2))],
  .build 43 #[(0, .const (.int .i64 6)), (1, .const (.int .i64 0)), (2, .const (.int .i64 512))],
  .build 43 #[(0, .const (.int .i64 6)), (1, .const (.int .i64 0)), (2, .const (.int .i64 (-1)))],
  .build 43 #[(0, .const (.int .i64 6)), (1, .const (.int .i64 0)), (2, .const (.int .i64 511))],
  .move (.tmp 5),
  .build 43 #[(1, .const (.int .i64 1)), (3, .tmp 93)],
  .build 43 #[(0, .const (.int .i64 5)), (1, .const (.int .i64 0))],
  .build 43 #[(1, .const (.int .i64 1)), (3, .const (.slice none 0 0))],
  .call { callee := .value (.func 14), args := #[.const (.int .u8 9)], argTypes := #[5] },
  .build 43 #[(1, .const (.int .i64 1)), (3, .tmp 97)],
  .move (.tmp 5),
  .build 43 #[(1, .const (.int .i64 1)), (3, .tmp 99)],
  .build 43 #[(0, .const (.int .i64 3))],
  .build 43 #[(0, .const (.int .i64 5))],
  .build 43 #[(0, .const (.int .i64 4))],
  .buildSlice 38 1 #[(0, .const (.bool true))],
  .build 43 #[(0, .const (.int .i64 5)), (1, .const (.int .i64 0)), (4, .tmp 104)],
  .build 43 #[(0, .const (.int .i64 5)), (1, .const (.int .i64 (-1)))],
  .call { callee := .value (.func 14), args := #[.const (.int .u8 4)], argTypes := #[5] },
  .build 43 #[(1, .const (.int .i64 1)), (3, .tmp 107)],
  .buildSlice 38 1 #[(0, .const (.bool true))],
  .build 43 #[(0, .const (.int .i64 5)), (1, .const (.int .i64 0)), (4, .tmp 109)],
  .build 43 #[(0, .const (.int .i64 1))],
  .build 43 #[(0, .const (.int .i64 4))],
  .build 43 #[(0, .const (.int .i64 1))],
  .build 43 #[(0, .const (.int .i64 4))],
  .buildSlice 44 28 #[(0, .tmp 74), (1, .tmp 76), (2, .tmp 78), (3, .tmp 81), (4, .tmp 85), (5, .tmp 86), (6, .tmp 87), (7, .tmp 88), (8, .tmp 89), (9, .tmp 90), (10, .tmp 91), (11, .tmp 92), (12, .tmp 94), (13, .tmp 95), (14, .tmp 96), (15, .tmp 98), (16, .tmp 100), (17, .tmp 101), (18, .tmp 102), (19, .tmp 103), (20, .tmp 105), (21, .tmp 106), (22, .tmp 108), (23, .tmp 110), (24, .tmp 111), (25, .tmp 112), (26, .tmp 113), (27, .tmp 114)],
  .assign (.tmp 115)]
def needs : Nat → List Nat
  | 0 => []
  | 1 => [0]
  | 2 => []
  | 3 => [2]
  | 4 => []
  | 5 => [4]
  | 6 => []
  | 7 => [6]
  | 8 => [7]
  | 9 => []
  | 10 => []
  | 11 => [9, 10]
  | 12 => [11]
  | 13 => []
  | 14 => []
  | 15 => []
  | 16 => []
  | 17 => []
  | 18 => []
  | 19 => []
  | 20 => []
  | 21 => [20]
  | 22 => []
  | 23 => []
  | 24 => []
  | 25 => [24]
  | 26 => []
  | 27 => [26]
  | 28 => []
  | 29 => []
  | 30 => []
  | 31 => []
  | 32 => [31]
  | 33 => []
  | 34 => []
  | 35 => [34]
  | 36 => []
  | 37 => [36]
  | 38 => []
  | 39 => []
  | 40 => []
  | 41 => []
  | 42 => [1, 3, 5, 8, 12, 13, 14, 15, 16, 17, 18, 19, 21, 22, 23, 25, 27, 28, 29, 30, 32, 33, 35, 37, 38, 39, 40, 41]
  | 43 => [42]
  | _ => []
set_option maxRecDepth 100000 in
set_option maxHeartbeats 3200000 in
theorem step_lit {ops : Array Oper} {Q : Exit → Act → World → Prop} {a0 : Act} {w0 : World} {g1 : Nat} (hops : ((List.range 44).map fun i => (ops[i]?).map Oper.op) = opsL.map some)
    (hnd : ((List.range 44).all fun i => (needs i).all fun j => ((ops[i]?).map fun o => o.after.any fun e => Region.binds .any e && (e.on == j)).getD false) = true)
    (h50 : a0.tmps[5]? = some (.slice (some ⟨g1, 0, none⟩) 64 64)) (hB1 : Blk w0 g1 5 (cbs (List.replicate 64 1))) :
    ∀ i o, i < 44 → ops[i]? = some o → o.guard = none → o.dst = some (dN i) → ∀ a w, Base dN 44 a0 a → Below w0.heap.size w0 w →
      (∀ j, (o.after.any fun e => Region.binds .any e && (e.on == j)) = true → Has dN (RN g1) j a w) →
      ∀ K : Act → World → Prop, (∀ v w', RN g1 i v w' → Below w.heap.size w w' → K (a.put o.dst v) w') → wpOp Try.prog ops Q i K a w := by
  intro i o hi ho hg hds a w hbase hbl hdep0 K hK
  have hop : some o.op = opsL[i]? := by
    have h1 : ((List.range 44).map fun i => (ops[i]?).map Oper.op)[i]? = some (some o.op) := by
      rw [List.getElem?_map, List.getElem?_range hi]; simp only [Option.map_some, ho]
    rw [hops, List.getElem?_map] at h1
    cases h2 : opsL[i]? with
    | none => rw [h2] at h1; cases h1
    | some y => rw [h2] at h1; simp only [Option.map_some, Option.some.injEq] at h1; rw [h1]
  have hdep : ∀ j, j ∈ needs i → Has dN (RN g1) j a w := fun j hj => by
    have h1 := List.all_eq_true.1 (List.all_eq_true.1 hnd i (List.mem_range.2 hi)) j hj
    rw [ho] at h1
    exact hdep0 j h1
  clear hdep0 hops hnd
  match i, hi, ho, hop, hds, hdep, hK with
  | 0, _, ho, hop, hds, hdep, hK =>
    have h5 : a.tmps[5]? = some (.slice (some ⟨g1, 0, none⟩) 64 64) := (hbase.2.2 5 (by decide)).trans h50
    have hop : o.op = .move (.tmp 5) := Option.some.inj hop
    exact st_move ho hg hop h5 (hK _ w rfl (Below.refl _ _))
  | 1, _, ho, hop, hds, hdep, hK =>
    have hop : o.op = .build 43 #[(1, .const (.int .i64 0)), (3, .tmp 73)] := Option.some.inj hop
    obtain ⟨u, hu, hv⟩ := hdep 0 (by decide)
    have hv' : u = .slice (some ⟨g1, 0, none⟩) 64 64 := hv
    subst hv'
    refine st_build ho hg _ _ hop (#[.int .i64 0, .int .i64 0, .int .i64 0, .slice (some ⟨g1, 0, none⟩) 64 64, .slice none 0 0]) ?_ (hK _ w ?_ (Below.refl _ _))
    · show Try.prog.built 43 [(1, (.int .i64 0)), (3, a.eval (.tmp 73))] = _
      rw [ev_tmp (s := 73) hu]
      kernel_rfl
    · exact DoV.mk (w := w) (x := ⟨0, 0, 0, (List.replicate 64 1), []⟩) (nB := 64) (nK := 0) (by decide) (by decide) (by decide) (by decide) ((Bs.ofBlk hB1).on hbl) (ArgK.none _)
  | 2, _, ho, hop, hds, hdep, hK =>
    have h5 : a.tmps[5]? = some (.slice (some ⟨g1, 0, none⟩) 64 64) := (hbase.2.2 5 (by decide)).trans h50
    have hop : o.op = .move (.tmp 5) := Option.some.inj hop
    exact st_move ho hg hop h5 (hK _ w rfl (Below.refl _ _))
  | 3, _, ho, hop, hds, hdep, hK =>
    have hop : o.op = .build 43 #[(1, .const (.int .i64 2)), (3, .tmp 75)] := Option.some.inj hop
    obtain ⟨u, hu, hv⟩ := hdep 2 (by decide)
    have hv' : u = .slice (some ⟨g1, 0, none⟩) 64 64 := hv
    subst hv'
    refine st_build ho hg _ _ hop (#[.int .i64 0, .int .i64 2, .int .i64 0, .slice (some ⟨g1, 0, none⟩) 64 64, .slice none 0 0]) ?_ (hK _ w ?_ (Below.refl _ _))
    · show Try.prog.built 43 [(1, (.int .i64 2)), (3, a.eval (.tmp 75))] = _
      rw [ev_tmp (s := 75) hu]
      kernel_rfl
    · exact DoV.mk (w := w) (x := ⟨0, 2, 0, (List.replicate 64 1), []⟩) (nB := 64) (nK := 0) (by decide) (by decide) (by decide) (by decide) ((Bs.ofBlk hB1).on hbl) (ArgK.none _)
  | 4, _, ho, hop, hds, hdep, hK =>
    have h5 : a.tmps[5]? = some (.slice (some ⟨g1, 0, none⟩) 64 64) := (hbase.2.2 5 (by decide)).trans h50
    have hop : o.op = .move (.tmp 5) := Option.some.inj hop
    exact st_move ho hg hop h5 (hK _ w rfl (Below.refl _ _))
  | 5, _, ho, hop, hds, hdep, hK =>
    have hop : o.op = .build 43 #[(1, .const (.int .i64 (-1))), (3, .tmp 77)] := Option.some.inj hop
    obtain ⟨u, hu, hv⟩ := hdep 4 (by decide)
    have hv' : u = .slice (some ⟨g1, 0, none⟩) 64 64 := hv
    subst hv'
    refine st_build ho hg _ _ hop (#[.int .i64 0, .int .i64 (-1), .int .i64 0, .slice (some ⟨g1, 0, none⟩) 64 64, .slice none 0 0]) ?_ (hK _ w ?_ (Below.refl _ _))
    · show Try.prog.built 43 [(1, (.int .i64 (-1))), (3, a.eval (.tmp 77))] = _
      rw [ev_tmp (s := 77) hu]
      kernel_rfl
    · exact DoV.mk (w := w) (x := ⟨0, (-1), 0, (List.replicate 64 1), []⟩) (nB := 64) (nK := 0) (by decide) (by decide) (by decide) (by decide) ((Bs.ofBlk hB1).on hbl) (ArgK.none _)
  | 6, _, ho, hop, hds, hdep, hK =>
    have h5 : a.tmps[5]? = some (.slice (some ⟨g1, 0, none⟩) 64 64) := (hbase.2.2 5 (by decide)).trans h50
    have hop : o.op = .move (.tmp 5) := Option.some.inj hop
    exact st_move ho hg hop h5 (hK _ w rfl (Below.refl _ _))
  | 7, _, ho, hop, hds, hdep, hK =>
    have hop : o.op = .slice 23 (.tmp 79) none (some (.const (.int .i64 63))) none := Option.some.inj hop
    obtain ⟨u, hu, hv⟩ := hdep 6 (by decide)
    have hv' : u = .slice (some ⟨g1, 0, none⟩) 64 64 := hv
    subst hv'
    exact st_slice ho hg _ _ _ hop (by rw [ev_tmp (s := 79) hu]; exact run_front63 g1 w) (hK _ w rfl (Below.refl _ _))
  | 8, _, ho, hop, hds, hdep, hK =>
    have hop : o.op = .build 43 #[(1, .const (.int .i64 1)), (3, .tmp 80)] := Option.some.inj hop
    obtain ⟨u, hu, hv⟩ := hdep 7 (by decide)
    have hv' : u = .slice (some ⟨g1, 0, none⟩) 63 64 := hv
    subst hv'
    refine st_build ho hg _ _ hop (#[.int .i64 0, .int .i64 1, .int .i64 0, .slice (some ⟨g1, 0, none⟩) 63 64, .slice none 0 0]) ?_ (hK _ w ?_ (Below.refl _ _))
    · show Try.prog.built 43 [(1, (.int .i64 1)), (3, a.eval (.tmp 80))] = _
      rw [ev_tmp (s := 80) hu]
      kernel_rfl
    · exact DoV.mk (w := w) (x := ⟨0, 1, 0, (List.replicate 63 1), []⟩) (nB := 63) (nK := 0) (by decide) (by decide) (by decide) (by decide) ((((Bs.ofBlk hB1).front (m := 63) (by decide)).on hbl)) (ArgK.none _)
  | 9, _, ho, hop, hds, hdep, hK =>
    have h5 : a.tmps[5]? = some (.slice (some ⟨g1, 0, none⟩) 64 64) := (hbase.2.2 5 (by decide)).trans h50
    have hop : o.op = .move (.tmp 5) := Option.some.inj hop
    exact st_move ho hg hop h5 (hK _ w rfl (Below.refl _ _))
  | 10, _, ho, hop, hds, hdep, hK =>
    have hop : o.op = .buildSlice 23 1 #[(0, .const (.int .u8 1))] := Option.some.inj hop
    exact st_row ho hg _ 5 _ hop #[.int .u8 1] (by kernel_rfl) (hK _ _ ⟨_, rfl, Blk.new rfl rfl⟩ ((Below.refl _ _).alloc (Nat.le_refl _) _))
  | 11, _, ho, hop, hds, hdep, hK =>
    have hop : o.op = .call { callee := .builtin .append, args := #[.tmp 82, .tmp 83], argTypes := #[23, 23] } := Option.some.inj hop
    obtain ⟨u, hu, hv⟩ := hdep 9 (by decide)
    have hv' : u = .slice (some ⟨g1, 0, none⟩) 64 64 := hv
    subst hv'
    obtain ⟨x, hx, ⟨b, rfl, hb⟩⟩ := hdep 10 (by decide)
    have e1 := ev_tmp (s := 82) hu
    have e2 := ev_tmp (s := 83) hx
    obtain ⟨v, w', hrun, hm, hbel⟩ := run_more (hB1.below hbl hB1.lt) hb o.type
    refine st_plain ho hg (v := v) (w' := w') ?_ (hK v w' hm hbel)
    unfold execOp
    simp only [hop, resolve, invoke, builtin, Sem.run_bind, Sem.run_pure, Result.andThen_ok, List.map_toArray, List.map_cons, List.map_nil, e1, e2, hrun]
  | 12, _, ho, hop, hds, hdep, hK =>
    have hop : o.op = .build 43 #[(1, .const (.int .i64 1)), (3, .tmp 84)] := Option.some.inj hop
    obtain ⟨u, hu, ⟨A, c, rfl, hc1, hc2, hbs⟩⟩ := hdep 11 (by decide)
    refine st_build ho hg _ _ hop (#[.int .i64 0, .int .i64 1, .int .i64 0, .slice A 65 c, .slice none 0 0]) ?_ (hK _ w ?_ (Below.refl _ _))
    · show Try.prog.built 43 [(1, (.int .i64 1)), (3, a.eval (.tmp 84))] = _
      rw [ev_tmp (s := 84) hu]
      kernel_rfl
    · exact DoV.mk (w := w) (x := ⟨0, 1, 0, (List.replicate 64 1 ++ [1]), []⟩) (nB := 65) (nK := 0) (by decide) (by decide) hc1 hc2 (hbs) (ArgK.none _)
  | 13, _, ho, hop, hds, hdep, hK =>
    have hop : o.op = .build 43 #[(1, .const (.int .i64 2)), (3, .const (.slice none 0 0))] := Option.some.inj hop
    refine st_build ho hg _ _ hop (#[.int .i64 0, .int .i64 2, .int .i64 0, .slice none 0 0, .slice none 0 0]) ?_ (hK _ w ?_ (Below.refl _ _))
    · show Try.prog.built 43 [(1, (.int .i64 2)), (3, (.slice none 0 0))] = _
      kernel_rfl
    · exact DoV.mk (w := w) (x := ⟨0, 2, 0, [], []⟩) (nB := 0) (nK := 0) (by decide) (by decide) (by decide) (by decide) (Bs.nil _ _) (ArgK.none _)
  | 14, _, ho, hop, hds, hdep, hK =>
    have hop : o.op = .build 43 #[(0, .const (.int .i64 2)), (1, .const (.int .i64 2))] := Option.some.inj hop
    refine st_build ho hg _ _ hop (#[.int .i64 2, .int .i64 2, .int .i64 0, .slice none 0 0, .slice none 0 0]) ?_ (hK _ w ?_ (Below.refl _ _))
    · show Try.prog.built 43 [(0, (.int .i64 2)), (1, (.int .i64 2))] = _
      kernel_rfl
    · exact DoV.mk (w := w) (x := ⟨2, 2, 0, [], []⟩) (nB := 0) (nK := 0) (by decide) (by decide) (by decide) (by decide) (Bs.nil _ _) (ArgK.none _)
  | 15, _, ho, hop, hds, hdep, hK =>
    have hop : o.op = .build 43 #[(0, .const (.int .i64 2)), (1, .const (.int .i64 (-1)))] := Option.some.inj hop
    refine st_build ho hg _ _ hop (#[.int .i64 2, .int .i64 (-1), .int .i64 0, .slice none 0 0, .slice none 0 0]) ?_ (hK _ w ?_ (Below.refl _ _))
    · show Try.prog.built 43 [(0, (.int .i64 2)), (1, (.int .i64 (-1)))] = _
      kernel_rfl
    · exact DoV.mk (w := w) (x := ⟨2, (-1), 0, [], []⟩) (nB := 0) (nK := 0) (by decide) (by decide) (by decide) (by decide) (Bs.nil _ _) (ArgK.none _)
  | 16, _, ho, hop, hds, hdep, hK =>
    have hop : o.op = .build 43 #[(0, .const (.int .i64 6)), (1, .const (.int .i64 2))] := Option.some.inj hop
    refine st_build ho hg _ _ hop (#[.int .i64 6, .int .i64 2, .int .i64 0, .slice none 0 0, .slice none 0 0]) ?_ (hK _ w ?_ (Below.refl _ _))
    · show Try.prog.built 43 [(0, (.int .i64 6)), (1, (.int .i64 2))] = _
      kernel_rfl
    · exact DoV.mk (w := w) (x := ⟨6, 2, 0, [], []⟩) (nB := 0) (nK := 0) (by decide) (by decide) (by decide) (by decide) (Bs.nil _ _) (ArgK.none _)
  | 17, _, ho, hop, hds, hdep, hK =>
    have hop : o.op = .build 43 #[(0, .const (.int .i64 6)), (1, .const (.int .i64 0)), (2, .const (.int .i64 512))] := Option.some.inj hop
    refine st_build ho hg _ _ hop (#[.int .i64 6, .int .i64 0, .int .i64 512, .slice none 0 0, .slice none 0 0]) ?_ (hK _ w ?_ (Below.refl _ _))
    · show Try.prog.built 43 [(0, (.int .i64 6)), (1, (.int .i64 0)), (2, (.int .i64 512))] = _
      kernel_rfl
    · exact DoV.mk (w := w) (x := ⟨6, 0, 512, [], []⟩) (nB := 0) (nK := 0) (by decide) (by decide) (by decide) (by decide) (Bs.nil _ _) (ArgK.none _)
  | 18, _, ho, hop, hds, hdep, hK =>
    have hop : o.op = .build 43 #[(0, .const (.int .i64 6)), (1, .const (.int .i64 0)), (2, .const (.int .i64 (-1)))] := Option.some.inj hop
    refine st_build ho hg _ _ hop (#[.int .i64 6, .int .i64 0, .int .i64 (-1), .slice none 0 0, .slice none 0 0]) ?_ (hK _ w ?_ (Below.refl _ _))
    · show Try.prog.built 43 [(0, (.int .i64 6)), (1, (.int .i64 0)), (2, (.int .i64 (-1)))] = _
      kernel_rfl
    · exact DoV.mk (w := w) (x := ⟨6, 0, (-1), [], []⟩) (nB := 0) (nK := 0) (by decide) (by decide) (by decide) (by decide) (Bs.nil _ _) (ArgK.none _)
  | 19, _, ho, hop, hds, hdep, hK =>
    have hop : o.op = .build 43 #[(0, .const (.int .i64 6)), (1, .const (.int .i64 0)), (2, .const (.int .i64 511))] := Option.some.inj hop
    refine st_build ho hg _ _ hop (#[.int .i64 6, .int .i64 0, .int .i64 511, .slice none 0 0, .slice none 0 0]) ?_ (hK _ w ?_ (Below.refl _ _))
    · show Try.prog.built 43 [(0, (.int .i64 6)), (1, (.int .i64 0)), (2, (.int .i64 511))] = _
      kernel_rfl
    · exact DoV.mk (w := w) (x := ⟨6, 0, 511, [], []⟩) (nB := 0) (nK := 0) (by decide) (by decide) (by decide) (by decide) (Bs.nil _ _) (ArgK.none _)
  | 20, _, ho, hop, hds, hdep, hK =>
    have h5 : a.tmps[5]? = some (.slice (some ⟨g1, 0, none⟩) 64 64) := (hbase.2.2 5 (by decide)).trans h50
    have hop : o.op = .move (.tmp 5) := Option.some.inj hop
    exact st_move ho hg hop h5 (hK _ w rfl (Below.refl _ _))
  | 21, _, ho, hop, hds, hdep, hK =>
    have hop : o.op = .build 43 #[(1, .const (.int .i64 1)), (3, .tmp 93)] := Option.some.inj hop
    obtain ⟨u, hu, hv⟩ := hdep 20 (by decide)
    have hv' : u = .slice (some ⟨g1, 0, none⟩) 64 64 := hv
    subst hv'
    refine st_build ho hg _ _ hop (#[.int .i64 0, .int .i64 1, .int .i64 0, .slice (some ⟨g1, 0, none⟩) 64 64, .slice none 0 0]) ?_ (hK _ w ?_ (Below.refl _ _))
    · show Try.prog.built 43 [(1, (.int .i64 1)), (3, a.eval (.tmp 93))] = _
      rw [ev_tmp (s := 93) hu]
      kernel_rfl
    · exact DoV.mk (w := w) (x := ⟨0, 1, 0, (List.replicate 64 1), []⟩) (nB := 64) (nK := 0) (by decide) (by decide) (by decide) (by decide) ((Bs.ofBlk hB1).on hbl) (ArgK.none _)
  | 22, _, ho, hop, hds, hdep, hK =>
    have hop : o.op = .build 43 #[(0, .const (.int .i64 5)), (1, .const (.int .i64 0))] := Option.some.inj hop
    refine st_build ho hg _ _ hop (#[.int .i64 5, .int .i64 0, .int .i64 0, .slice none 0 0, .slice none 0 0]) ?_ (hK _ w ?_ (Below.refl _ _))
    · show Try.prog.built 43 [(0, (.int .i64 5)), (1, (.int .i64 0))] = _
      kernel_rfl
    · exact DoV.mk (w := w) (x := ⟨5, 0, 0, [], []⟩) (nB := 0) (nK := 0) (by decide) (by decide) (by decide) (by decide) (Bs.nil _ _) (ArgK.none _)
  | 23, _, ho, hop, hds, hdep, hK =>
    have hop : o.op = .build 43 #[(1, .const (.int .i64 1)), (3, .const (.slice none 0 0))] := Option.some.inj hop
    refine st_build ho hg _ _ hop (#[.int .i64 0, .int .i64 1, .int .i64 0, .slice none 0 0, .slice none 0 0]) ?_ (hK _ w ?_ (Below.refl _ _))
    · show Try.prog.built 43 [(1, (.int .i64 1)), (3, (.slice none 0 0))] = _
      kernel_rfl
    · exact DoV.mk (w := w) (x := ⟨0, 1, 0, [], []⟩) (nB := 0) (nK := 0) (by decide) (by decide) (by decide) (by decide) (Bs.nil _ _) (ArgK.none _)
  | 24, _, ho, hop, hds, hdep, hK =>
    have hop : o.op = .call { callee := .value (.func 14), args := #[.const (.int .u8 9)], argTypes := #[5] } := Option.some.inj hop
    rcases o with ⟨dst, op, ty, ps, after, guard⟩
    dsimp only at hop hg
    subst hop
    subst hg
    refine wpOp_step ho (fun K' hK' => ?_)
    go_simp
    refine (full_any 9 w).mono ?_
    rintro e w' ⟨b, rfl, _, hb, hbel⟩
    exact hK' _ _ (hK _ _ ⟨b, rfl, hb⟩ hbel)
  | 25, _, ho, hop, hds, hdep, hK =>
    have hop : o.op = .build 43 #[(1, .const (.int .i64 1)), (3, .tmp 97)] := Option.some.inj hop
    obtain ⟨u, hu, hv⟩ := hdep 24 (by decide)
    obtain ⟨A, rfl, hbs⟩ := RowV.bytes (l := List.replicate 64 9) hv (by decide)
    refine st_build ho hg _ _ hop (#[.int .i64 0, .int .i64 1, .int .i64 0, .slice A 64 64, .slice none 0 0]) ?_ (hK _ w ?_ (Below.refl _ _))
    · show Try.prog.built 43 [(1, (.int .i64 1)), (3, a.eval (.tmp 97))] = _
      rw [ev_tmp (s := 97) hu]
      kernel_rfl
    · exact DoV.mk (w := w) (x := ⟨0, 1, 0, (List.replicate 64 9), []⟩) (nB := 64) (nK := 0) (by decide) (by decide) (by decide) (by decide) (hbs) (ArgK.none _)
  | 26, _, ho, hop, hds, hdep, hK =>
    have h5 : a.tmps[5]? = some (.slice (some ⟨g1, 0, none⟩) 64 64) := (hbase.2.2 5 (by decide)).trans h50
    have hop : o.op = .move (.tmp 5) := Option.some.inj hop
    exact st_move ho hg hop h5 (hK _ w rfl (Below.refl _ _))
  | 27, _, ho, hop, hds, hdep, hK =>
    have hop : o.op = .build 43 #[(1, .const (.int .i64 1)), (3, .tmp 99)] := Option.some.inj hop
    obtain ⟨u, hu, hv⟩ := hdep 26 (by decide)
    have hv' : u = .slice (some ⟨g1, 0, none⟩) 64 64 := hv
    subst hv'
    refine st_build ho hg _ _ hop (#[.int .i64 0, .int .i64 1, .int .i64 0, .slice (some ⟨g1, 0, none⟩) 64 64, .slice none 0 0]) ?_ (hK _ w ?_ (Below.refl _ _))
    · show Try.prog.built 43 [(1, (.int .i64 1)), (3, a.eval (.tmp 99))] = _
      rw [ev_tmp (s := 99) hu]
      kernel_rfl
    · exact DoV.mk (w := w) (x := ⟨0, 1, 0, (List.replicate 64 1), []⟩) (nB := 64) (nK := 0) (by decide) (by decide) (by decide) (by decide) ((Bs.ofBlk hB1).on hbl) (ArgK.none _)
  | 28, _, ho, hop, hds, hdep, hK =>
    have hop : o.op = .build 43 #[(0, .const (.int .i64 3))] := Option.some.inj hop
    refine st_build ho hg _ _ hop (#[.int .i64 3, .int .i64 0, .int .i64 0, .slice none 0 0, .slice none 0 0]) ?_ (hK _ w ?_ (Below.refl _ _))
    · show Try.prog.built 43 [(0, (.int .i64 3))] = _
      kernel_rfl
    · exact DoV.mk (w := w) (x := ⟨3, 0, 0, [], []⟩) (nB := 0) (nK := 0) (by decide) (by decide) (by decide) (by decide) (Bs.nil _ _) (ArgK.none _)
  | 29, _, ho, hop, hds, hdep, hK =>
    have hop : o.op = .build 43 #[(0, .const (.int .i64 5))] := Option.some.inj hop
    refine st_build ho hg _ _ hop (#[.int .i64 5, .int .i64 0, .int .i64 0, .slice none 0 0, .slice none 0 0]) ?_ (hK _ w ?_ (Below.refl _ _))
    · show Try.prog.built 43 [(0, (.int .i64 5))] = _
      kernel_rfl
    · exact DoV.mk (w := w) (x := ⟨5, 0, 0, [], []⟩) (nB := 0) (nK := 0) (by decide) (by decide) (by decide) (by decide) (Bs.nil _ _) (ArgK.none _)
  | 30, _, ho, hop, hds, hdep, hK =>
    have hop : o.op = .build 43 #[(0, .const (.int .i64 4))] := Option.some.inj hop
    refine st_build ho hg _ _ hop (#[.int .i64 4, .int .i64 0, .int .i64 0, .slice none 0 0, .slice none 0 0]) ?_ (hK _ w ?_ (Below.refl _ _))
    · show Try.prog.built 43 [(0, (.int .i64 4))] = _
      kernel_rfl
    · exact DoV.mk (w := w) (x := ⟨4, 0, 0, [], []⟩) (nB := 0) (nK := 0) (by decide) (by decide) (by decide) (by decide) (Bs.nil _ _) (ArgK.none _)
  | 31, _, ho, hop, hds, hdep, hK =>
    have hop : o.op = .buildSlice 38 1 #[(0, .const (.bool true))] := Option.some.inj hop
    exact st_row ho hg _ 4 _ hop #[.bool true] (by kernel_rfl) (hK _ _ ⟨_, rfl, Blk.new rfl rfl⟩ ((Below.refl _ _).alloc (Nat.le_refl _) _))
  | 32, _, ho, hop, hds, hdep, hK =>
    have hop : o.op = .build 43 #[(0, .const (.int .i64 5)), (1, .const (.int .i64 0)), (4, .tmp 104)] := Option.some.inj hop
    obtain ⟨u, hu, hv⟩ := hdep 31 (by decide)
    obtain ⟨A, rfl, hak⟩ := RowV.keeps hv
    refine st_build ho hg _ _ hop (#[.int .i64 5, .int .i64 0, .int .i64 0, .slice none 0 0, .slice A 1 1]) ?_ (hK _ w ?_ (Below.refl _ _))
    · show Try.prog.built 43 [(0, (.int .i64 5)), (1, (.int .i64 0)), (4, a.eval (.tmp 104))] = _
      rw [ev_tmp (s := 104) hu]
      kernel_rfl
    · exact DoV.mk (w := w) (x := ⟨5, 0, 0, [], [true]⟩) (nB := 0) (nK := 1) (by decide) (by decide) (by decide) (by decide) (Bs.nil _ _) (hak)
  | 33, _, ho, hop, hds, hdep, hK =>
    have hop : o.op = .build 43 #[(0, .const (.int .i64 5)), (1, .const (.int .i64 (-1)))] := Option.some.inj hop
    refine st_build ho hg _ _ hop (#[.int .i64 5, .int .i64 (-1), .int .i64 0, .slice none 0 0, .slice none 0 0]) ?_ (hK _ w ?_ (Below.refl _ _))
    · show Try.prog.built 43 [(0, (.int .i64 5)), (1, (.int .i64 (-1)))] = _
      kernel_rfl
    · exact DoV.mk (w := w) (x := ⟨5, (-1), 0, [], []⟩) (nB := 0) (nK := 0) (by decide) (by decide) (by decide) (by decide) (Bs.nil _ _) (ArgK.none _)
  | 34, _, ho, hop, hds, hdep, hK =>
    have hop : o.op = .call { callee := .value (.func 14), args := #[.const (.int .u8 4)], argTypes := #[5] } := Option.some.inj hop
    rcases o with ⟨dst, op, ty, ps, after, guard⟩
    dsimp only at hop hg
    subst hop
    subst hg
    refine wpOp_step ho (fun K' hK' => ?_)
    go_simp
    refine (full_any 4 w).mono ?_
    rintro e w' ⟨b, rfl, _, hb, hbel⟩
    exact hK' _ _ (hK _ _ ⟨b, rfl, hb⟩ hbel)
  | 35, _, ho, hop, hds, hdep, hK =>
    have hop : o.op = .build 43 #[(1, .const (.int .i64 1)), (3, .tmp 107)] := Option.some.inj hop
    obtain ⟨u, hu, hv⟩ := hdep 34 (by decide)
    obtain ⟨A, rfl, hbs⟩ := RowV.bytes (l := List.replicate 64 4) hv (by decide)
    refine st_build ho hg _ _ hop (#[.int .i64 0, .int .i64 1, .int .i64 0, .slice A 64 64, .slice none 0 0]) ?_ (hK _ w ?_ (Below.refl _ _))
    · show Try.prog.built 43 [(1, (.int .i64 1)), (3, a.eval (.tmp 107))] = _
      rw [ev_tmp (s := 107) hu]
      kernel_rfl
    · exact DoV.mk (w := w) (x := ⟨0, 1, 0, (List.replicate 64 4), []⟩) (nB := 64) (nK := 0) (by decide) (by decide) (by decide) (by decide) (hbs) (ArgK.none _)
  | 36, _, ho, hop, hds, hdep, hK =>
    have hop : o.op = .buildSlice 38 1 #[(0, .const (.bool true))] := Option.some.inj hop
    exact st_row ho hg _ 4 _ hop #[.bool true] (by kernel_rfl) (hK _ _ ⟨_, rfl, Blk.new rfl rfl⟩ ((Below.refl _ _).alloc (Nat.le_refl _) _))
  | 37, _, ho, hop, hds, hdep, hK =>
    have hop : o.op = .build 43 #[(0, .const (.int .i64 5)), (1, .const (.int .i64 0)), (4, .tmp 109)] := Option.some.inj hop
    obtain ⟨u, hu, hv⟩ := hdep 36 (by decide)
    obtain ⟨A, rfl, hak⟩ := RowV.keeps hv
    refine st_build ho hg _ _ hop (#[.int .i64 5, .int .i64 0, .int .i64 0, .slice none 0 0, .slice A 1 1]) ?_ (hK _ w ?_ (Below.refl _ _))
    · show Try.prog.built 43 [(0, (.int .i64 5)), (1, (.int .i64 0)), (4, a.eval (.tmp 109))] = _
      rw [ev_tmp (s := 109) hu]
      kernel_rfl
    · exact DoV.mk (w := w) (x := ⟨5, 0, 0, [], [true]⟩) (nB := 0) (nK := 1) (by decide) (by decide) (by decide) (by decide) (Bs.nil _ _) (hak)
  | 38, _, ho, hop, hds, hdep, hK =>
    have hop : o.op = .build 43 #[(0, .const (.int .i64 1))] := Option.some.inj hop
    refine st_build ho hg _ _ hop (#[.int .i64 1, .int .i64 0, .int .i64 0, .slice none 0 0, .slice none 0 0]) ?_ (hK _ w ?_ (Below.refl _ _))
    · show Try.prog.built 43 [(0, (.int .i64 1))] = _
      kernel_rfl
    · exact DoV.mk (w := w) (x := ⟨1, 0, 0, [], []⟩) (nB := 0) (nK := 0) (by decide) (by decide) (by decide) (by decide) (Bs.nil _ _) (ArgK.none _)
  | 39, _, ho, hop, hds, hdep, hK =>
    have hop : o.op = .build 43 #[(0, .const (.int .i64 4))] := Option.some.inj hop
    refine st_build ho hg _ _ hop (#[.int .i64 4, .int .i64 0, .int .i64 0, .slice none 0 0, .slice none 0 0]) ?_ (hK _ w ?_ (Below.refl _ _))
    · show Try.prog.built 43 [(0, (.int .i64 4))] = _
      kernel_rfl
    · exact DoV.mk (w := w) (x := ⟨4, 0, 0, [], []⟩) (nB := 0) (nK := 0) (by decide) (by decide) (by decide) (by decide) (Bs.nil _ _) (ArgK.none _)
  | 40, _, ho, hop, hds, hdep, hK =>
    have hop : o.op = .build 43 #[(0, .const (.int .i64 1))] := Option.some.inj hop
    refine st_build ho hg _ _ hop (#[.int .i64 1, .int .i64 0, .int .i64 0, .slice none 0 0, .slice none 0 0]) ?_ (hK _ w ?_ (Below.refl _ _))
    · show Try.prog.built 43 [(0, (.int .i64 1))] = _
      kernel_rfl
    · exact DoV.mk (w := w) (x := ⟨1, 0, 0, [], []⟩) (nB := 0) (nK := 0) (by decide) (by decide) (by decide) (by decide) (Bs.nil _ _) (ArgK.none _)
  | 41, _, ho, hop, hds, hdep, hK =>
    have hop : o.op = .build 43 #[(0, .const (.int .i64 4))] := Option.some.inj hop
    refine st_build ho hg _ _ hop (#[.int .i64 4, .int .i64 0, .int .i64 0, .slice none 0 0, .slice none 0 0]) ?_ (hK _ w ?_ (Below.refl _ _))
    · show Try.prog.built 43 [(0, (.int .i64 4))] = _
      kernel_rfl
    · exact DoV.mk (w := w) (x := ⟨4, 0, 0, [], []⟩) (nB := 0) (nK := 0) (by decide) (by decide) (by decide) (by decide) (Bs.nil _ _) (ArgK.none _)
  | 42, _, ho, hop, hds, hdep, hK =>
    have hop : o.op = .buildSlice 44 28 #[(0, .tmp 74), (1, .tmp 76), (2, .tmp 78), (3, .tmp 81), (4, .tmp 85), (5, .tmp 86), (6, .tmp 87), (7, .tmp 88), (8, .tmp 89), (9, .tmp 90), (10, .tmp 91), (11, .tmp 92), (12, .tmp 94), (13, .tmp 95), (14, .tmp 96), (15, .tmp 98), (16, .tmp 100), (17, .tmp 101), (18, .tmp 102), (19, .tmp 103), (20, .tmp 105), (21, .tmp 106), (22, .tmp 108), (23, .tmp 110), (24, .tmp 111), (25, .tmp 112), (26, .tmp 113), (27, .tmp 114)] := Option.some.inj hop
    obtain ⟨u0, hu0, hv0⟩ := hdep 1 (by decide)
    obtain ⟨AB0, cB0, AK0, cK0, rfl, p0, q0, s0, t0⟩ := (show DoV w u0 ⟨0, 0, 0, (List.replicate 64 1), []⟩ from hv0)
    obtain ⟨u1, hu1, hv1⟩ := hdep 3 (by decide)
    obtain ⟨AB1, cB1, AK1, cK1, rfl, p1, q1, s1, t1⟩ := (show DoV w u1 ⟨0, 2, 0, (List.replicate 64 1), []⟩ from hv1)
    obtain ⟨u2, hu2, hv2⟩ := hdep 5 (by decide)
    obtain ⟨AB2, cB2, AK2, cK2, rfl, p2, q2, s2, t2⟩ := (show DoV w u2 ⟨0, (-1), 0, (List.replicate 64 1), []⟩ from hv2)
    obtain ⟨u3, hu3, hv3⟩ := hdep 8 (by decide)
    obtain ⟨AB3, cB3, AK3, cK3, rfl, p3, q3, s3, t3⟩ := (show DoV w u3 ⟨0, 1, 0, (List.replicate 63 1), []⟩ from hv3)
    obtain ⟨u4, hu4, hv4⟩ := hdep 12 (by decide)
    obtain ⟨AB4, cB4, AK4, cK4, rfl, p4, q4, s4, t4⟩ := (show DoV w u4 ⟨0, 1, 0, (List.replicate 64 1 ++ [1]), []⟩ from hv4)
    obtain ⟨u5, hu5, hv5⟩ := hdep 13 (by decide)
    obtain ⟨AB5, cB5, AK5, cK5, rfl, p5, q5, s5, t5⟩ := (show DoV w u5 ⟨0, 2, 0, [], []⟩ from hv5)
    obtain ⟨u6, hu6, hv6⟩ := hdep 14 (by decide)
    obtain ⟨AB6, cB6, AK6, cK6, rfl, p6, q6, s6, t6⟩ := (show DoV w u6 ⟨2, 2, 0, [], []⟩ from hv6)
    obtain ⟨u7, hu7, hv7⟩ := hdep 15 (by decide)
    obtain ⟨AB7, cB7, AK7, cK7, rfl, p7, q7, s7, t7⟩ := (show DoV w u7 ⟨2, (-1), 0, [], []⟩ from hv7)
    obtain ⟨u8, hu8, hv8⟩ := hdep 16 (by decide)
    obtain ⟨AB8, cB8, AK8, cK8, rfl, p8, q8, s8, t8⟩ := (show DoV w u8 ⟨6, 2, 0, [], []⟩ from hv8)
    obtain ⟨u9, hu9, hv9⟩ := hdep 17 (by decide)
    obtain ⟨AB9, cB9, AK9, cK9, rfl, p9, q9, s9, t9⟩ := (show DoV w u9 ⟨6, 0, 512, [], []⟩ from hv9)
    obtain ⟨u10, hu10, hv10⟩ := hdep 18 (by decide)
    obtain ⟨AB10, cB10, AK10, cK10, rfl, p10, q10, s10, t10⟩ := (show DoV w u10 ⟨6, 0, (-1), [], []⟩ from hv10)
    obtain ⟨u11, hu11, hv11⟩ := hdep 19 (by decide)
    obtain ⟨AB11, cB11, AK11, cK11, rfl, p11, q11, s11, t11⟩ := (show DoV w u11 ⟨6, 0, 511, [], []⟩ from hv11)
    obtain ⟨u12, hu12, hv12⟩ := hdep 21 (by decide)
    obtain ⟨AB12, cB12, AK12, cK12, rfl, p12, q12, s12, t12⟩ := (show DoV w u12 ⟨0, 1, 0, (List.replicate 64 1), []⟩ from hv12)
    obtain ⟨u13, hu13, hv13⟩ := hdep 22 (by decide)
    obtain ⟨AB13, cB13, AK13, cK13, rfl, p13, q13, s13, t13⟩ := (show DoV w u13 ⟨5, 0, 0, [], []⟩ from hv13)
    obtain ⟨u14, hu14, hv14⟩ := hdep 23 (by decide)
    obtain ⟨AB14, cB14, AK14, cK14, rfl, p14, q14, s14, t14⟩ := (show DoV w u14 ⟨0, 1, 0, [], []⟩ from hv14)
    obtain ⟨u15, hu15, hv15⟩ := hdep 25 (by decide)
    obtain ⟨AB15, cB15, AK15, cK15, rfl, p15, q15, s15, t15⟩ := (show DoV w u15 ⟨0, 1, 0, (List.replicate 64 9), []⟩ from hv15)
    obtain ⟨u16, hu16, hv16⟩ := hdep 27 (by decide)
    obtain ⟨AB16, cB16, AK16, cK16, rfl, p16, q16, s16, t16⟩ := (show DoV w u16 ⟨0, 1, 0, (List.replicate 64 1), []⟩ from hv16)
    obtain ⟨u17, hu17, hv17⟩ := hdep 28 (by decide)
    obtain ⟨AB17, cB17, AK17, cK17, rfl, p17, q17, s17, t17⟩ := (show DoV w u17 ⟨3, 0, 0, [], []⟩ from hv17)
    obtain ⟨u18, hu18, hv18⟩ := hdep 29 (by decide)
    obtain ⟨AB18, cB18, AK18, cK18, rfl, p18, q18, s18, t18⟩ := (show DoV w u18 ⟨5, 0, 0, [], []⟩ from hv18)
    obtain ⟨u19, hu19, hv19⟩ := hdep 30 (by decide)
    obtain ⟨AB19, cB19, AK19, cK19, rfl, p19, q19, s19, t19⟩ := (show DoV w u19 ⟨4, 0, 0, [], []⟩ from hv19)
    obtain ⟨u20, hu20, hv20⟩ := hdep 32 (by decide)
    obtain ⟨AB20, cB20, AK20, cK20, rfl, p20, q20, s20, t20⟩ := (show DoV w u20 ⟨5, 0, 0, [], [true]⟩ from hv20)
    obtain ⟨u21, hu21, hv21⟩ := hdep 33 (by decide)
    obtain ⟨AB21, cB21, AK21, cK21, rfl, p21, q21, s21, t21⟩ := (show DoV w u21 ⟨5, (-1), 0, [], []⟩ from hv21)
    obtain ⟨u22, hu22, hv22⟩ := hdep 35 (by decide)
    obtain ⟨AB22, cB22, AK22, cK22, rfl, p22, q22, s22, t22⟩ := (show DoV w u22 ⟨0, 1, 0, (List.replicate 64 4), []⟩ from hv22)
    obtain ⟨u23, hu23, hv23⟩ := hdep 37 (by decide)
    obtain ⟨AB23, cB23, AK23, cK23, rfl, p23, q23, s23, t23⟩ := (show DoV w u23 ⟨5, 0, 0, [], [true]⟩ from hv23)
    obtain ⟨u24, hu24, hv24⟩ := hdep 38 (by decide)
    obtain ⟨AB24, cB24, AK24, cK24, rfl, p24, q24, s24, t24⟩ := (show DoV w u24 ⟨1, 0, 0, [], []⟩ from hv24)
    obtain ⟨u25, hu25, hv25⟩ := hdep 39 (by decide)
    obtain ⟨AB25, cB25, AK25, cK25, rfl, p25, q25, s25, t25⟩ := (show DoV w u25 ⟨4, 0, 0, [], []⟩ from hv25)
    obtain ⟨u26, hu26, hv26⟩ := hdep 40 (by decide)
    obtain ⟨AB26, cB26, AK26, cK26, rfl, p26, q26, s26, t26⟩ := (show DoV w u26 ⟨1, 0, 0, [], []⟩ from hv26)
    obtain ⟨u27, hu27, hv27⟩ := hdep 41 (by decide)
    obtain ⟨AB27, cB27, AK27, cK27, rfl, p27, q27, s27, t27⟩ := (show DoV w u27 ⟨4, 0, 0, [], []⟩ from hv27)
    obtain ⟨C, hC⟩ : ∃ C : List Value, C = [.int .i64 0, .int .i64 0, .int .i64 0, .slice AB0 64 cB0, .slice AK0 0 cK0, .int .i64 0, .int .i64 2, .int .i64 0, .slice AB1 64 cB1, .slice AK1 0 cK1, .int .i64 0, .int .i64 (-1), .int .i64 0, .slice AB2 64 cB2, .slice AK2 0 cK2, .int .i64 0, .int .i64 1, .int .i64 0, .slice AB3 63 cB3, .slice AK3 0 cK3, .int .i64 0, .int .i64 1, .int .i64 0, .slice AB4 65 cB4, .slice AK4 0 cK4, .int .i64 0, .int .i64 2, .int .i64 0, .slice AB5 0 cB5, .slice AK5 0 cK5, .int .i64 2, .int .i64 2, .int .i64 0, .slice AB6 0 cB6, .slice AK6 0 cK6, .int .i64 2, .int .i64 (-1), .int .i64 0, .slice AB7 0 cB7, .slice AK7 0 cK7, .int .i64 6, .int .i64 2, .int .i64 0, .slice AB8 0 cB8, .slice AK8 0 cK8, .int .i64 6, .int .i64 0, .int .i64 512, .slice AB9 0 cB9, .slice AK9 0 cK9, .int .i64 6, .int .i64 0, .int .i64 (-1), .slice AB10 0 cB10, .slice AK10 0 cK10, .int .i64 6, .int .i64 0, .int .i64 511, .slice AB11 0 cB11, .slice AK11 0 cK11, .int .i64 0, .int .i64 1, .int .i64 0, .slice AB12 64 cB12, .slice AK12 0 cK12, .int .i64 5, .int .i64 0, .int .i64 0, .slice AB13 0 cB13, .slice AK13 0 cK13, .int .i64 0, .int .i64 1, .int .i64 0, .slice AB14 0 cB14, .slice AK14 0 cK14, .int .i64 0, .int .i64 1, .int .i64 0, .slice AB15 64 cB15, .slice AK15 0 cK15, .int .i64 0, .int .i64 1, .int .i64 0, .slice AB16 64 cB16, .slice AK16 0 cK16, .int .i64 3, .int .i64 0, .int .i64 0, .slice AB17 0 cB17, .slice AK17 0 cK17, .int .i64 5, .int .i64 0, .int .i64 0, .slice AB18 0 cB18, .slice AK18 0 cK18, .int .i64 4, .int .i64 0, .int .i64 0, .slice AB19 0 cB19, .slice AK19 0 cK19, .int .i64 5, .int .i64 0, .int .i64 0, .slice AB20 0 cB20, .slice AK20 1 cK20, .int .i64 5, .int .i64 (-1), .int .i64 0, .slice AB21 0 cB21, .slice AK21 0 cK21, .int .i64 0, .int .i64 1, .int .i64 0, .slice AB22 64 cB22, .slice AK22 0 cK22, .int .i64 5, .int .i64 0, .int .i64 0, .slice AB23 0 cB23, .slice AK23 1 cK23, .int .i64 1, .int .i64 0, .int .i64 0, .slice AB24 0 cB24, .slice AK24 0 cK24, .int .i64 4, .int .i64 0, .int .i64 0, .slice AB25 0 cB25, .slice AK25 0 cK25, .int .i64 1, .int .i64 0, .int .i64 0, .slice AB26 0 cB26, .slice AK26 0 cK26, .int .i64 4, .int .i64 0, .int .i64 0, .slice AB27 0 cB27, .slice AK27 0 cK27] := ⟨_, rfl⟩
    refine st_row ho hg _ 43 _ hop C.toArray ?_ ?_
    · have he : (#[(0, .tmp 74), (1, .tmp 76), (2, .tmp 78), (3, .tmp 81), (4, .tmp 85), (5, .tmp 86), (6, .tmp 87), (7, .tmp 88), (8, .tmp 89), (9, .tmp 90), (10, .tmp 91), (11, .tmp 92), (12, .tmp 94), (13, .tmp 95), (14, .tmp 96), (15, .tmp 98), (16, .tmp 100), (17, .tmp 101), (18, .tmp 102), (19, .tmp 103), (20, .tmp 105), (21, .tmp 106), (22, .tmp 108), (23, .tmp 110), (24, .tmp 111), (25, .tmp 112), (26, .tmp 113), (27, .tmp 114)] : Array (Nat × Operand)).map (fun p => (p.1, a.eval p.2)) = #[(0, a.eval (.tmp 74)), (1, a.eval (.tmp 76)), (2, a.eval (.tmp 78)), (3, a.eval (.tmp 81)), (4, a.eval (.tmp 85)), (5, a.eval (.tmp 86)), (6, a.eval (.tmp 87)), (7, a.eval (.tmp 88)), (8, a.eval (.tmp 89)), (9, a.eval (.tmp 90)), (10, a.eval (.tmp 91)), (11, a.eval (.tmp 92)), (12, a.eval (.tmp 94)), (13, a.eval (.tmp 95)), (14, a.eval (.tmp 96)), (15, a.eval (.tmp 98)), (16, a.eval (.tmp 100)), (17, a.eval (.tmp 101)), (18, a.eval (.tmp 102)), (19, a.eval (.tmp 103)), (20, a.eval (.tmp 105)), (21, a.eval (.tmp 106)), (22, a.eval (.tmp 108)), (23, a.eval (.tmp 110)), (24, a.eval (.tmp 111)), (25, a.eval (.tmp 112)), (26, a.eval (.tmp 113)), (27, a.eval (.tmp 114))] := by
        simp only [List.map_toArray, List.map_cons, List.map_nil]
      rw [he, ev_tmp (s := 74) hu0, ev_tmp (s := 76) hu1, ev_tmp (s := 78) hu2, ev_tmp (s := 81) hu3, ev_tmp (s := 85) hu4, ev_tmp (s := 86) hu5, ev_tmp (s := 87) hu6, ev_tmp (s := 88) hu7, ev_tmp (s := 89) hu8, ev_tmp (s := 90) hu9, ev_tmp (s := 91) hu10, ev_tmp (s := 92) hu11, ev_tmp (s := 94) hu12, ev_tmp (s := 95) hu13, ev_tmp (s := 96) hu14, ev_tmp (s := 98) hu15, ev_tmp (s := 100) hu16, ev_tmp (s := 101) hu17, ev_tmp (s := 102) hu18, ev_tmp (s := 103) hu19, ev_tmp (s := 105) hu20, ev_tmp (s := 106) hu21, ev_tmp (s := 108) hu22, ev_tmp (s := 110) hu23, ev_tmp (s := 111) hu24, ev_tmp (s := 112) hu25, ev_tmp (s := 113) hu26, ev_tmp (s := 114) hu27, hC]
      show Sem.run _ _ _ = _
      kernel_rfl
    · have hb : Below w.heap.size w (w.alloc (.cells C.toArray 43)) := (Below.refl _ _).alloc (Nat.le_refl _) _
      have hBC : Blk (w.alloc (.cells C.toArray 43)) w.heap.size 43 C := Blk.new rfl rfl
      have hsz := hBC.lt
      refine hK _ _ ⟨_, rfl, rfl, Nat.le_refl _, by simp [maxLen], fun _ => ⟨w.heap.size, 0, rfl, hsz, fun j hj => ?_⟩⟩ hb
      have hj28 : j < 28 := hj
      clear hK hdep hop ho
      subst hC
      match j, hj, hj28 with
      | 0, hj, _ => exact DoV.at_ (x := ⟨0, 0, 0, (List.replicate 64 1), []⟩) p0 q0 (s0.on hb) (t0.on hb) (by decide) ⟨by decide, by decide, by decide⟩ (hBC.cell (i := 0) rfl) (hBC.cell (i := 1) rfl) (hBC.cell (i := 2) rfl) (hBC.cell (i := 3) rfl) (hBC.cell (i := 4) rfl)
      | 1, hj, _ => exact DoV.at_ (x := ⟨0, 2, 0, (List.replicate 64 1), []⟩) p1 q1 (s1.on hb) (t1.on hb) (by decide) ⟨by decide, by decide, by decide⟩ (hBC.cell (i := 5) rfl) (hBC.cell (i := 6) rfl) (hBC.cell (i := 7) rfl) (hBC.cell (i := 8) rfl) (hBC.cell (i := 9) rfl)
      | 2, hj, _ => exact DoV.at_ (x := ⟨0, (-1), 0, (List.replicate 64 1), []⟩) p2 q2 (s2.on hb) (t2.on hb) (by decide) ⟨by decide, by decide, by decide⟩ (hBC.cell (i := 10) rfl) (hBC.cell (i := 11) rfl) (hBC.cell (i := 12) rfl) (hBC.cell (i := 13) rfl) (hBC.cell (i := 14) rfl)
      | 3, hj, _ => exact DoV.at_ (x := ⟨0, 1, 0, (List.replicate 63 1), []⟩) p3 q3 (s3.on hb) (t3.on hb) (by decide) ⟨by decide, by decide, by decide⟩ (hBC.cell (i := 15) rfl) (hBC.cell (i := 16) rfl) (hBC.cell (i := 17) rfl) (hBC.cell (i := 18) rfl) (hBC.cell (i := 19) rfl)
      | 4, hj, _ => exact DoV.at_ (x := ⟨0, 1, 0, (List.replicate 64 1 ++ [1]), []⟩) p4 q4 (s4.on hb) (t4.on hb) (by decide) ⟨by decide, by decide, by decide⟩ (hBC.cell (i := 20) rfl) (hBC.cell (i := 21) rfl) (hBC.cell (i := 22) rfl) (hBC.cell (i := 23) rfl) (hBC.cell (i := 24) rfl)
      | 5, hj, _ => exact DoV.at_ (x := ⟨0, 2, 0, [], []⟩) p5 q5 (s5.on hb) (t5.on hb) (by decide) ⟨by decide, by decide, by decide⟩ (hBC.cell (i := 25) rfl) (hBC.cell (i := 26) rfl) (hBC.cell (i := 27) rfl) (hBC.cell (i := 28) rfl) (hBC.cell (i := 29) rfl)
      | 6, hj, _ => exact DoV.at_ (x := ⟨2, 2, 0, [], []⟩) p6 q6 (s6.on hb) (t6.on hb) (by decide) ⟨by decide, by decide, by decide⟩ (hBC.cell (i := 30) rfl) (hBC.cell (i := 31) rfl) (hBC.cell (i := 32) rfl) (hBC.cell (i := 33) rfl) (hBC.cell (i := 34) rfl)
      | 7, hj, _ => exact DoV.at_ (x := ⟨2, (-1), 0, [], []⟩) p7 q7 (s7.on hb) (t7.on hb) (by decide) ⟨by decide, by decide, by decide⟩ (hBC.cell (i := 35) rfl) (hBC.cell (i := 36) rfl) (hBC.cell (i := 37) rfl) (hBC.cell (i := 38) rfl) (hBC.cell (i := 39) rfl)
      | 8, hj, _ => exact DoV.at_ (x := ⟨6, 2, 0, [], []⟩) p8 q8 (s8.on hb) (t8.on hb) (by decide) ⟨by decide, by decide, by decide⟩ (hBC.cell (i := 40) rfl) (hBC.cell (i := 41) rfl) (hBC.cell (i := 42) rfl) (hBC.cell (i := 43) rfl) (hBC.cell (i := 44) rfl)
      | 9, hj, _ => exact DoV.at_ (x := ⟨6, 0, 512, [], []⟩) p9 q9 (s9.on hb) (t9.on hb) (by decide) ⟨by decide, by decide, by decide⟩ (hBC.cell (i := 45) rfl) (hBC.cell (i := 46) rfl) (hBC.cell (i := 47) rfl) (hBC.cell (i := 48) rfl) (hBC.cell (i := 49) rfl)
      | 10, hj, _ => exact DoV.at_ (x := ⟨6, 0, (-1), [], []⟩) p10 q10 (s10.on hb) (t10.on hb) (by decide) ⟨by decide, by decide, by decide⟩ (hBC.cell (i := 50) rfl) (hBC.cell (i := 51) rfl) (hBC.cell (i := 52) rfl) (hBC.cell (i := 53) rfl) (hBC.cell (i := 54) rfl)
      | 11, hj, _ => exact DoV.at_ (x := ⟨6, 0, 511, [], []⟩) p11 q11 (s11.on hb) (t11.on hb) (by decide) ⟨by decide, by decide, by decide⟩ (hBC.cell (i := 55) rfl) (hBC.cell (i := 56) rfl) (hBC.cell (i := 57) rfl) (hBC.cell (i := 58) rfl) (hBC.cell (i := 59) rfl)
      | 12, hj, _ => exact DoV.at_ (x := ⟨0, 1, 0, (List.replicate 64 1), []⟩) p12 q12 (s12.on hb) (t12.on hb) (by decide) ⟨by decide, by decide, by decide⟩ (hBC.cell (i := 60) rfl) (hBC.cell (i := 61) rfl) (hBC.cell (i := 62) rfl) (hBC.cell (i := 63) rfl) (hBC.cell (i := 64) rfl)
      | 13, hj, _ => exact DoV.at_ (x := ⟨5, 0, 0, [], []⟩) p13 q13 (s13.on hb) (t13.on hb) (by decide) ⟨by decide, by decide, by decide⟩ (hBC.cell (i := 65) rfl) (hBC.cell (i := 66) rfl) (hBC.cell (i := 67) rfl) (hBC.cell (i := 68) rfl) (hBC.cell (i := 69) rfl)
      | 14, hj, _ => exact DoV.at_ (x := ⟨0, 1, 0, [], []⟩) p14 q14 (s14.on hb) (t14.on hb) (by decide) ⟨by decide, by decide, by decide⟩ (hBC.cell (i := 70) rfl) (hBC.cell (i := 71) rfl) (hBC.cell (i := 72) rfl) (hBC.cell (i := 73) rfl) (hBC.cell (i := 74) rfl)
      | 15, hj, _ => exact DoV.at_ (x := ⟨0, 1, 0, (List.replicate 64 9), []⟩) p15 q15 (s15.on hb) (t15.on hb) (by decide) ⟨by decide, by decide, by decide⟩ (hBC.cell (i := 75) rfl) (hBC.cell (i := 76) rfl) (hBC.cell (i := 77) rfl) (hBC.cell (i := 78) rfl) (hBC.cell (i := 79) rfl)
      | 16, hj, _ => exact DoV.at_ (x := ⟨0, 1, 0, (List.replicate 64 1), []⟩) p16 q16 (s16.on hb) (t16.on hb) (by decide) ⟨by decide, by decide, by decide⟩ (hBC.cell (i := 80) rfl) (hBC.cell (i := 81) rfl) (hBC.cell (i := 82) rfl) (hBC.cell (i := 83) rfl) (hBC.cell (i := 84) rfl)
      | 17, hj, _ => exact DoV.at_ (x := ⟨3, 0, 0, [], []⟩) p17 q17 (s17.on hb) (t17.on hb) (by decide) ⟨by decide, by decide, by decide⟩ (hBC.cell (i := 85) rfl) (hBC.cell (i := 86) rfl) (hBC.cell (i := 87) rfl) (hBC.cell (i := 88) rfl) (hBC.cell (i := 89) rfl)
      | 18, hj, _ => exact DoV.at_ (x := ⟨5, 0, 0, [], []⟩) p18 q18 (s18.on hb) (t18.on hb) (by decide) ⟨by decide, by decide, by decide⟩ (hBC.cell (i := 90) rfl) (hBC.cell (i := 91) rfl) (hBC.cell (i := 92) rfl) (hBC.cell (i := 93) rfl) (hBC.cell (i := 94) rfl)
      | 19, hj, _ => exact DoV.at_ (x := ⟨4, 0, 0, [], []⟩) p19 q19 (s19.on hb) (t19.on hb) (by decide) ⟨by decide, by decide, by decide⟩ (hBC.cell (i := 95) rfl) (hBC.cell (i := 96) rfl) (hBC.cell (i := 97) rfl) (hBC.cell (i := 98) rfl) (hBC.cell (i := 99) rfl)
      | 20, hj, _ => exact DoV.at_ (x := ⟨5, 0, 0, [], [true]⟩) p20 q20 (s20.on hb) (t20.on hb) (by decide) ⟨by decide, by decide, by decide⟩ (hBC.cell (i := 100) rfl) (hBC.cell (i := 101) rfl) (hBC.cell (i := 102) rfl) (hBC.cell (i := 103) rfl) (hBC.cell (i := 104) rfl)
      | 21, hj, _ => exact DoV.at_ (x := ⟨5, (-1), 0, [], []⟩) p21 q21 (s21.on hb) (t21.on hb) (by decide) ⟨by decide, by decide, by decide⟩ (hBC.cell (i := 105) rfl) (hBC.cell (i := 106) rfl) (hBC.cell (i := 107) rfl) (hBC.cell (i := 108) rfl) (hBC.cell (i := 109) rfl)
      | 22, hj, _ => exact DoV.at_ (x := ⟨0, 1, 0, (List.replicate 64 4), []⟩) p22 q22 (s22.on hb) (t22.on hb) (by decide) ⟨by decide, by decide, by decide⟩ (hBC.cell (i := 110) rfl) (hBC.cell (i := 111) rfl) (hBC.cell (i := 112) rfl) (hBC.cell (i := 113) rfl) (hBC.cell (i := 114) rfl)
      | 23, hj, _ => exact DoV.at_ (x := ⟨5, 0, 0, [], [true]⟩) p23 q23 (s23.on hb) (t23.on hb) (by decide) ⟨by decide, by decide, by decide⟩ (hBC.cell (i := 115) rfl) (hBC.cell (i := 116) rfl) (hBC.cell (i := 117) rfl) (hBC.cell (i := 118) rfl) (hBC.cell (i := 119) rfl)
      | 24, hj, _ => exact DoV.at_ (x := ⟨1, 0, 0, [], []⟩) p24 q24 (s24.on hb) (t24.on hb) (by decide) ⟨by decide, by decide, by decide⟩ (hBC.cell (i := 120) rfl) (hBC.cell (i := 121) rfl) (hBC.cell (i := 122) rfl) (hBC.cell (i := 123) rfl) (hBC.cell (i := 124) rfl)
      | 25, hj, _ => exact DoV.at_ (x := ⟨4, 0, 0, [], []⟩) p25 q25 (s25.on hb) (t25.on hb) (by decide) ⟨by decide, by decide, by decide⟩ (hBC.cell (i := 125) rfl) (hBC.cell (i := 126) rfl) (hBC.cell (i := 127) rfl) (hBC.cell (i := 128) rfl) (hBC.cell (i := 129) rfl)
      | 26, hj, _ => exact DoV.at_ (x := ⟨1, 0, 0, [], []⟩) p26 q26 (s26.on hb) (t26.on hb) (by decide) ⟨by decide, by decide, by decide⟩ (hBC.cell (i := 130) rfl) (hBC.cell (i := 131) rfl) (hBC.cell (i := 132) rfl) (hBC.cell (i := 133) rfl) (hBC.cell (i := 134) rfl)
      | 27, hj, _ => exact DoV.at_ (x := ⟨4, 0, 0, [], []⟩) p27 q27 (s27.on hb) (t27.on hb) (by decide) ⟨by decide, by decide, by decide⟩ (hBC.cell (i := 135) rfl) (hBC.cell (i := 136) rfl) (hBC.cell (i := 137) rfl) (hBC.cell (i := 138) rfl) (hBC.cell (i := 139) rfl)
      | j + 28, _, h => exact absurd h (by omega)
  | 43, _, ho, hop, hds, hdep, hK =>
    have hop : o.op = .assign (.tmp 115) := Option.some.inj hop
    obtain ⟨u, hu, hv⟩ := hdep 42 (by decide)
    exact st_assign ho hg hop hu (hK _ w hv (Below.refl _ _))
  | i + 44, hi, _, _, _, _, _ => exact absurd hi (by omega)
end Go.Proofs.Ytmcbjcopipafdaa
