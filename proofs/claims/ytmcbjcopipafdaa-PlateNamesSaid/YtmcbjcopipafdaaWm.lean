/-
  The map of what waits, in memory: place by place.
-/
import Derived.Test.YtmcbjcopipafdaaPlP
import Derived.Test.YtmcbjcopipafdaaBlk
import Derived.Maps.OwnSet
import Derived.Lib.SlKeysI
import Derived.Laws.Tables
namespace Go.Proofs.Ytmcbjcopipafdaa
open Go.RowKit Go.Maps Go.ChangeMaps Go.MapKept Go.WideMaps Go.WideShapes
set_option linter.unusedVariables false

abbrev Wf (x : Int) : Prop := (Lit.int .i64 x).wf = true
theorem wf_nat {n : Nat} (h : n ≤ 9223372036854775807) : Wf (n : Int) := by
  show (Lit.int .i64 (n : Int)).wf = true
  simp [Lit.wf, IntKind.min, IntKind.max, IntKind.signed, IntKind.bits]; omega
theorem wf_bounds {x : Int} (h : Wf x) : -9223372036854775808 ≤ x ∧ x ≤ 9223372036854775807 := by
  have h : (Lit.int .i64 x).wf = true := h
  simp [Lit.wf, IntKind.min, IntKind.max, IntKind.signed, IntKind.bits] at h; omega

def Rv (v : Value) : Option (DataW Value × List MemPlace) := some (.held v, [])
def agg64 (x : List UInt8) : Value := .agg (cbs x).toArray
def vOf (o : Option (List UInt8)) : Value := agg64 (o.getD zero64)
/-- What waits at a number. -/
def wtAt (wt : Wt) (x : Int) : Option (List UInt8) := if x < 0 then none else wt[x.toNat]?.getD none
theorem wtAt_nat (wt : Wt) (i : Nat) : wtAt wt (i : Int) = wt[i]?.getD none := by
  unfold wtAt
  rw [if_neg (by omega), Int.toNat_natCast]

theorem keyed_int : Keyed Try.prog 3 := int_keyed Try.underlying3
theorem key_int {x : Int} (h : Wf x) : keyOf Try.prog 3 (.int .i64 x) = some (.int .i64 x) := keyOf_int_mk Try.underlying3 h
theorem zero_sector (w : World) : (zeroValue 48).run Try.prog w = .ok (agg64 zero64) w := by kernel_rfl

def Facts (D : DataW Value) (wt : Wt) : Prop := ∀ x : Int, Wf x → has D (.int .i64 x) = (wtAt wt x).isSome ∧ D.atKey (.int .i64 x) (.held (agg64 zero64)) = .held (vOf (wtAt wt x))
def Wm (w : World) (m : Nat) (wt : Wt) : Prop := ∃ (D : DataW Value) (n : Nat), w.ownsMap Try.prog 3 Rv m n D ∧ Facts D wt

theorem facts_none (k : Nat) : Facts (.map []) (List.replicate k none) := fun x hx => by
  have e : wtAt (List.replicate k none) x = none := by
    unfold wtAt
    split
    · rfl
    · rcases Nat.lt_or_ge x.toNat k with h | h
      · rw [List.getElem?_replicate]; simp [h]
      · rw [List.getElem?_eq_none (by simpa using h)]; rfl
  rw [e]
  exact ⟨rfl, rfl⟩

section
variable {w w' : World} {m n : Nat} {wt : Wt} {D : DataW Value}
theorem map_stay (h : w.ownsMap Try.prog 3 Rv m n D) (hk : w'.heap[m]? = w.heap[m]?) : w'.ownsMap Try.prog 3 Rv m n D := by
  obtain ⟨es, clock, h1, h2⟩ := h
  exact ⟨es, clock, hk.trans h1, h2⟩
theorem Wm.lt (h : Wm w m wt) : m < w.heap.size := by obtain ⟨_, _, h, _⟩ := h; exact h.lt
theorem Wm.stay (h : Wm w m wt) (hk : w'.heap[m]? = w.heap[m]?) : Wm w' m wt := by
  obtain ⟨D, n, h1, h2⟩ := h
  exact ⟨D, n, map_stay h1 hk, h2⟩
theorem Wm.isMap (h : Wm w m wt) : ∃ es clock, w.heap[m]? = some (.map es clock) := by
  obtain ⟨_, _, ⟨es, clock, h1, _⟩, _⟩ := h
  exact ⟨es, clock, h1⟩
theorem Wm.off (h : Wm w m wt) {g : Nat} {t : TypeId} {cs : List Value} (hb : Blk w g t cs) : g ≠ m := by
  obtain ⟨es, clock, hm⟩ := h.isMap
  rintro rfl
  unfold Blk at hb
  rw [hm] at hb
  cases hb
theorem new_wm (w : World) (k : Nat) : Wm (w.alloc (.map #[] 0)) w.heap.size (List.replicate k none) := ⟨.map [], 0, World.ownsMap_made w _ _ _, facts_none k⟩

/-- The places that wait, as numbers. -/
def zs (wt : Wt) : List Int := (wk wt).map fun (i : Nat) => (i : Int)
/-- The keys are the places that wait. -/
theorem keys_perm_wk (h : w.ownsMap Try.prog 3 Rv m n D) (hf : Facts D wt) (hl : wt.length ≤ 4096) : (zs wt).Perm (intKeys D) := by
  have ht := h.tidy keyed_int
  obtain ⟨es, clock, _, F, _, hD⟩ := h
  have hkeys : ∀ p ∈ (es.toList.map (WideElems.rg Try.prog 3 Rv)).foldr DataW.insert [], ∃ x, p.1 = .int .i64 x ∧ Wf x := fun p hp => by
    have hp' : p ∈ es.toList.map (WideElems.rg Try.prog 3 Rv) := (sorted_perm _).mem_iff.1 hp
    obtain ⟨v, hv⟩ := fit_keys F p hp'
    obtain ⟨x, _, e, hw⟩ := keyOf_i64 Try.underlying3 hv
    exact ⟨x, e, hw⟩
  subst hD
  obtain ⟨l, e, hp⟩ := ht
  injection e with e
  subst e
  refine perm_intKeys hp (fun p hp' => let ⟨x, e, _⟩ := hkeys p hp'; ⟨x, e⟩) ?_ fun x => ?_
  · refine List.pairwise_map.2 ((wk_nodup wt).imp fun {a b} (hab : a ≠ b) => ?_)
    omega
  · unfold zs
    rw [List.mem_map]
    constructor
    · rintro ⟨i, hi, rfl⟩
      obtain ⟨y, hy⟩ := wk_mem.1 hi
      have hil : i < wt.length := by
        rcases Nat.lt_or_ge i wt.length with h' | h'
        · exact h'
        · rw [List.getElem?_eq_none h'] at hy; cases hy
      rw [(hf i (wf_nat (by omega))).1, wtAt_nat, hy]
      rfl
    · intro hx
      have hw : Wf x := by
        rw [has_eq, List.any_eq_true] at hx
        obtain ⟨p, hp', hs⟩ := hx
        obtain ⟨a, ha, hwa⟩ := hkeys p hp'
        rw [ha] at hs
        have : a = x := by simpa [Lit.sameKey] using hs
        rw [← this]; exact hwa
      rw [(hf x hw).1] at hx
      unfold wtAt at hx
      split at hx
      · cases hx
      · rename_i h0
        refine ⟨x.toNat, wk_mem.2 ?_, by omega⟩
        rcases e : wt[x.toNat]? with _ | _ | y
        · rw [e] at hx; cases hx
        · rw [e] at hx; cases hx
        · exact ⟨y, rfl⟩
theorem size_wk (h : w.ownsMap Try.prog 3 Rv m n D) (hf : Facts D wt) (hl : wt.length ≤ 4096) : Maps.size D = (wk wt).length := by
  have := (keys_perm_wk h hf hl).length_eq
  unfold zs at this
  obtain ⟨es, rfl⟩ := h.isMap
  simp [intKeys] at this
  rw [size_eq]; exact this.symm

theorem Wm.look (h : Wm w m wt) {x : Int} (hx : Wf x) : (Instr.lookup 37 (.map (some m)) (.int .i64 x) true).run Try.prog w = .ok (.tuple #[vOf (wtAt wt x), .bool (wtAt wt x).isSome]) w := by
  obtain ⟨D, n, h1, hf⟩ := h
  obtain ⟨v, ps, hrun, hR⟩ := h1.look_ok keyed_int Try.underlying37 (zero_sector w) (zd := .held (agg64 zero64)) (zp := []) rfl (key_int hx)
  obtain ⟨e1, e2⟩ := hf x hx
  rw [e2] at hR
  simp [Rv] at hR
  rw [hrun, e1, hR.1]
theorem Wm.get (h : Wm w m wt) {x : Int} (hx : Wf x) : (Instr.lookup 37 (.map (some m)) (.int .i64 x) false).run Try.prog w = .ok (vOf (wtAt wt x)) w := by
  obtain ⟨D, n, h1, hf⟩ := h
  obtain ⟨v, ps, hrun, hR⟩ := h1.lookup keyed_int Try.underlying37 (zero_sector w) (zd := .held (agg64 zero64)) (zp := []) rfl (key_int hx)
  obtain ⟨e1, e2⟩ := hf x hx
  rw [e2] at hR
  simp [Rv] at hR
  rw [hrun, hR.1]
theorem wtAt_set {i : Nat} (hi : i < wt.length) (o : Option (List UInt8)) (x : Int) : wtAt (wt.set i o) x = if x = (i : Int) then o else wtAt wt x := by
  unfold wtAt
  by_cases hx : x = (i : Int)
  · subst hx
    rw [if_neg (by omega), if_pos rfl, Int.toNat_natCast, List.getElem?_set_self hi]; rfl
  · rw [if_neg hx]
    split
    · rfl
    · rw [List.getElem?_set_ne (by omega)]
theorem Wm.put (h : Wm w m wt) (hl : wt.length ≤ 4096) {i : Nat} (hi : i < wt.length) (b : List UInt8) :
    ∃ w', (Instr.mapUpdate 37 (.map (some m)) (.int .i64 (i : Int)) (agg64 b)).run Try.prog w = .ok () w' ∧ w.mapTurned w' m ∧ Wm w' m (wt.set i (some b)) := by
  obtain ⟨D, n, h1, hf⟩ := h
  have hs : (wk wt).length ≤ wt.length := wk_len wt
  have hsz := size_wk h1 hf hl
  have h1' : w.ownsMap Try.prog 3 Rv m (Maps.size D) D := by
    obtain ⟨es, clock, a, b, c, d⟩ := h1
    refine ⟨es, clock, a, b, ?_, d⟩
    rw [d]; simp [Maps.size, length_sorted]
  have hk := key_int (x := (i : Int)) (wf_nat (by omega))
  obtain ⟨w', hrun, hown, hturn⟩ := h1'.store keyed_int Try.underlying37 (by unfold maxLen; omega) (val := agg64 b) (d := .held (agg64 b)) (ps := []) hk rfl
  have htd := h1.tidy keyed_int
  refine ⟨w', hrun, hturn, _, _, hown, fun x hx => ?_⟩
  rw [wtAt_set hi]
  by_cases hxi : x = (i : Int)
  · subst hxi
    rw [if_pos rfl, has_put_same htd.isMap (keyed_int.key hk), atKey_put_same htd.isMap (keyed_int.key hk)]
    exact ⟨rfl, rfl⟩
  · have hne : (Lit.int .i64 x) ≠ Lit.int .i64 (i : Int) := by simpa using hxi
    rw [if_neg hxi, has_put_other hne, atKey_put_other hne]
    exact hf x hx
theorem Wm.drop (h : Wm w m wt) {i : Nat} (hi : i < wt.length) (hl : wt.length ≤ 4096) (ty : TypeId) :
    ∃ w', (Builtin.delete_ #[37, 3] ty #[.map (some m), .int .i64 (i : Int)]).run Try.prog w = .ok (.tuple #[]) w' ∧ w.mapTurned w' m ∧ Wm w' m (wt.set i none) := by
  obtain ⟨D, n, h1, hf⟩ := h
  have hk := key_int (x := (i : Int)) (wf_nat (by omega))
  obtain ⟨w', hrun, hown, hturn⟩ := h1.drop keyed_int Try.underlying37 hk ty
  refine ⟨w', hrun, hturn, _, _, hown, fun x hx => ?_⟩
  rw [wtAt_set hi]
  by_cases hxi : x = (i : Int)
  · subst hxi
    rw [if_pos rfl, has_del_same, atKey_del_same]
    exact ⟨rfl, rfl⟩
  · have hne : (Lit.int .i64 x) ≠ Lit.int .i64 (i : Int) := by simpa using hxi
    rw [if_neg hxi, has_del_other hne, atKey_del_other hne]
    exact hf x hx
theorem Wm.clear (h : Wm w m wt) (k : Nat) (ty : TypeId) :
    ∃ w', (Builtin.clear_ #[37] ty #[.map (some m)]).run Try.prog w = .ok (.tuple #[]) w' ∧ w.mapTurned w' m ∧ Wm w' m (List.replicate k none) := by
  obtain ⟨es, clock, hm⟩ := h.isMap
  refine ⟨ChangeMaps.setBlock w m (.map #[] clock), ?_, ⟨es, clock, #[], clock, hm, rfl⟩, .map [], 0, ⟨#[], clock, heap_setBlock_same hm _, ⟨by simp, MapKept.stamped_empty clock, by simp⟩, Nat.le_refl _, rfl⟩, facts_none k⟩
  simp [Builtin.clear_, run_underlying Try.underlying37, MapKept.run_getObj_map hm, MapKept.run_setObj_map _ hm, Result.andThen, ChangeMaps.setBlock]
end
end Go.Proofs.Ytmcbjcopipafdaa
