/-
  Laid together for a hand-in: Mt14, App8, AnyOrder, AnyOrderH, TakeC, Build, Reg8, Eq, App, Clone.
-/
import Derived.Test.YtenccpccpjjkmaaZ01
import Derived.Test.YtenccpccpjjkmaaRows
import Derived.Maps.RangeWalk
import Derived.Maps.OwnSet
import Derived.Laws.Tables
import Derived.Maps.AppendAt
import Derived.RegionTactic
import Derived.Deep.RegionHeld3

namespace Go.Proofs.Ytenccpccpjjkmaa

open Go.RowKit Go.Maps Go.ChangeMaps

set_option linter.unusedVariables false

set_option linter.unusedSimpArgs false

set_option linter.unusedSectionVars false

/-- How the keys of a type are written. -/
structure KeyT (P : Program) (K : TypeId) (α : Type) where
  kv : α → Value
  kl : α → Lit
  ok : α → Prop
  keyed : Keyed P K
  key : ∀ {a : α}, ok a → keyOf P K (kv a) = some (kl a)
  inj : ∀ {a b : α}, kv a = kv b → a = b

def Rv (v : Value) : Option (DataW Value × List MemPlace) := some (.held v, [])

section

variable {P : Program} {K : TypeId} {α β : Type} [DecidableEq α] (T : KeyT P K α) (vv : β → Value)

theorem KeyT.kinj {a b : α} (ha : T.ok a) (hb : T.ok b) (h : T.kl a = T.kl b) : a = b := T.inj (T.keyed.inj (T.key ha) ((T.key hb).trans (by rw [h])))

def lits (L : List (α × β)) : List (Lit × DataW Value) := L.map fun p => (T.kl p.1, .held (vv p.2))

/-- What stands at a key. -/
def lk (L : List (α × β)) (a : α) : Option β := (L.find? fun p => decide (p.1 = a)).map Prod.snd

def putL (L : List (α × β)) (a : α) (b : β) : List (α × β) := (a, b) :: L.filter fun p => decide (p.1 ≠ a)

def delL (L : List (α × β)) (a : α) : List (α × β) := L.filter fun p => decide (p.1 ≠ a)

structure Dom (L : List (α × β)) : Prop where
  nd : (L.map Prod.fst).Nodup
  ok : ∀ p ∈ L, T.ok p.1

/-- The block m is a map; what stands in it is L. -/
def MapT (w : World) (m : Nat) (L : List (α × β)) : Prop :=
  Dom T L ∧ ∃ es n, w.ownsMap P K Rv m n (.map es) ∧ es.Perm (lits T vv L)

/-- The block r is a loop over the map m, in which L stands; todo is still to come. -/
def RangeT (w : World) (m r : Nat) (L todo : List (α × β)) : Prop :=
  Dom T L ∧ ∃ es n left cnt, w.ranges P K Rv m r n (.map es) left cnt ∧ es.Perm (lits T vv L) ∧ todo = L.filter fun p => left (T.kl p.1)

variable {T vv} {w w' : World} {m r : Nat} {L L' todo : List (α × β)} {a : α} {b : β}

theorem lk_mem (hn : (L.map Prod.fst).Nodup) (h : (a, b) ∈ L) : lk L a = some b := by
  induction L with
  | nil => cases h
  | cons p L ih =>
    rw [List.map_cons, List.nodup_cons] at hn
    unfold lk
    rw [List.find?_cons]
    rcases List.mem_cons.1 h with e | h
    · subst e; simp
    · have : p.1 ≠ a := fun e => hn.1 (by rw [e]; exact List.mem_map.2 ⟨_, h, rfl⟩)
      simp only [this, decide_false]
      exact ih hn.2 h

theorem lk_some (h : lk L a = some b) : (a, b) ∈ L := by
  unfold lk at h
  rw [Option.map_eq_some_iff] at h
  obtain ⟨p, hp, rfl⟩ := h
  have h1 := List.mem_of_find?_eq_some hp
  have h2 := List.find?_some hp
  simp at h2
  rw [← h2]; exact h1

theorem lk_none (h : lk L a = none) : ∀ b, (a, b) ∉ L := by
  intro b hb
  unfold lk at h
  rw [Option.map_eq_none_iff, List.find?_eq_none] at h
  exact h _ hb (by simp)

theorem Dom.mem (h : Dom T L) (hp : (a, b) ∈ L) : lk L a = some b := lk_mem h.nd hp

theorem Dom.perm (h : Dom T L) (hp : L.Perm L') : Dom T L' := ⟨(hp.map Prod.fst).nodup_iff.1 h.nd, fun p q => h.ok p (hp.mem_iff.2 q)⟩

theorem Dom.lk_perm (h : Dom T L) (hp : L.Perm L') (a : α) : lk L a = lk L' a := by
  cases e : lk L a with
  | some b => exact ((h.perm hp).mem (hp.mem_iff.1 (lk_some e))).symm
  | none =>
    cases e' : lk L' a with
    | none => rfl
    | some b => exact absurd (hp.mem_iff.2 (lk_some e')) (lk_none e b)

theorem MapT.perm (h : MapT T vv w m L) (hp : L.Perm L') : MapT T vv w m L' := by
  obtain ⟨hd, es, n, h1, h2⟩ := h
  exact ⟨hd.perm hp, es, n, h1, h2.trans (hp.map _)⟩

theorem es_apart (K' : Keyed P K) {n : Nat} {es : List (Lit × DataW Value)} (h : w.ownsMap P K Rv m n (.map es)) : es.Pairwise fun p q => p.1 ≠ q.1 := by
  obtain ⟨es', e, hp, _⟩ := h.entries K'
  injection e with e
  subst e
  exact hp

theorem es_at {es : List (Lit × DataW Value)} (hd : Dom T L) (hp : es.Perm (lits T vv L)) (hap : es.Pairwise fun p q => p.1 ≠ q.1) (ha : T.ok a) (z : DataW Value) :
    has (.map es) (T.kl a) = (lk L a).isSome ∧ (DataW.map es).atKey (T.kl a) z = match lk L a with | some b => .held (vv b) | none => z := by
  have hk := T.keyed.key (T.key ha)
  cases e : lk L a with
  | some b =>
    have hm : (T.kl a, .held (vv b)) ∈ es := hp.mem_iff.2 (List.mem_map.2 ⟨(a, b), lk_some e, rfl⟩)
    have h1 := fun z => WideAt.atKey_mem z hk hap hm
    exact ⟨has_true_of_atKey h1, h1 z⟩
  | none =>
    have : has (.map es) (T.kl a) = false := by
      rw [has_eq, List.any_eq_false]
      intro p hp' hs
      obtain ⟨q, hq, rfl⟩ := List.mem_map.1 (hp.mem_iff.1 hp')
      have := (WideAt.sameKey_iff hk).1 hs
      have := T.kinj (hd.ok q hq) ha this
      exact lk_none e q.2 (by rw [← this]; exact hq)
    exact ⟨this, atKey_of_not_has this z⟩

theorem MapT.lt (h : MapT T vv w m L) : m < w.heap.size := by obtain ⟨_, _, _, h, _⟩ := h; exact h.lt

theorem MapT.stay (h : MapT T vv w m L) (hk : w'.heap[m]? = w.heap[m]?) : MapT T vv w' m L := by
  obtain ⟨hd, es, n, ⟨e, c, h1, h2⟩, hp⟩ := h
  exact ⟨hd, es, n, ⟨e, c, hk.trans h1, h2⟩, hp⟩

theorem MapT.isMap (h : MapT T vv w m L) : ∃ es clock, w.heap[m]? = some (.map es clock) := by
  obtain ⟨_, _, _, ⟨es, clock, h1, _⟩, _⟩ := h
  exact ⟨es, clock, h1⟩

theorem MapT.off (h : MapT T vv w m L) {g : Nat} {t : TypeId} {cs : List Value} (hb : Blk w g t cs) : g ≠ m := by
  obtain ⟨es, clock, hm⟩ := h.isMap
  rintro rfl
  unfold Blk at hb
  rw [hm] at hb
  cases hb

theorem MapT.out {S : Nat → Prop} (h : MapT T vv w m L) (ho : Out S w w') (hm : ¬ S m) : MapT T vv w' m L := h.stay (ho.block m h.lt hm)

theorem MapT.below {B : Nat} (h : MapT T vv w m L) (hb : Below B w w') (hm : m < B) : MapT T vv w' m L := h.stay (hb.block m hm)

theorem MapT.made (w : World) : MapT T vv (w.alloc (.map #[] 0)) w.heap.size ([] : List (α × β)) := ⟨⟨by simp, by simp⟩, [], 0, World.ownsMap_made w _ _ _, List.Perm.refl _⟩

theorem MapT.look {t e : TypeId} (h : MapT T vv w m L) (ht : P.underlying t = some (.map K e)) {z : Value} (hz : (zeroValue e).run P w = .ok z w) (ha : T.ok a) :
    (Instr.lookup t (.map (some m)) (T.kv a) false).run P w = .ok (((lk L a).map vv).getD z) w := by
  obtain ⟨hd, es, n, h1, hp⟩ := h
  obtain ⟨v, ps, hrun, hR⟩ := h1.lookup T.keyed ht hz (zd := .held z) (zp := []) rfl (T.key ha)
  rw [(es_at hd hp (es_apart T.keyed h1) ha _).2] at hR
  rw [hrun]
  cases e : lk L a <;> rw [e] at hR <;> simp [Rv] at hR ⊢ <;> exact hR.1

theorem MapT.look_ok {t e : TypeId} (h : MapT T vv w m L) (ht : P.underlying t = some (.map K e)) {z : Value} (hz : (zeroValue e).run P w = .ok z w) (ha : T.ok a) :
    (Instr.lookup t (.map (some m)) (T.kv a) true).run P w = .ok (.tuple #[((lk L a).map vv).getD z, .bool (lk L a).isSome]) w := by
  obtain ⟨hd, es, n, h1, hp⟩ := h
  obtain ⟨v, ps, hrun, hR⟩ := h1.look_ok T.keyed ht hz (zd := .held z) (zp := []) rfl (T.key ha)
  rw [(es_at hd hp (es_apart T.keyed h1) ha _).2] at hR
  rw [hrun, (es_at hd hp (es_apart T.keyed h1) ha (.held z)).1]
  cases e : lk L a <;> rw [e] at hR <;> simp [Rv] at hR ⊢ <;> exact hR.1

theorem MapT.len {t e : TypeId} (h : MapT T vv w m L) (ht : P.underlying t = some (.map K e)) (ty : TypeId) : (Builtin.len_ #[t] ty #[.map (some m)]).run P w = .ok (.int .i64 (L.length : Int)) w := by
  obtain ⟨hd, es, n, h1, hp⟩ := h
  rw [h1.len ht ty, size_eq, hp.length_eq]
  simp [lits]

theorem MapT.put {t e : TypeId} (h : MapT T vv w m L) (ht : P.underlying t = some (.map K e)) (hn : L.length < 1000000) (ha : T.ok a) (b : β) :
    ∃ w', (Instr.mapUpdate t (.map (some m)) (T.kv a) (vv b)).run P w = .ok () w' ∧ w.mapTurned w' m ∧ MapT T vv w' m (putL L a b) := by
  obtain ⟨hd, es, n, h1, hp⟩ := h
  have hap := es_apart T.keyed h1
  have h1' : w.ownsMap P K Rv m es.length (.map es) := by
    obtain ⟨es', clock, x, y, _, z⟩ := h1
    refine ⟨es', clock, x, y, ?_, z⟩
    injection z with z
    rw [z, length_sorted]; simp
  obtain ⟨w', hrun, hown, hturn⟩ := h1'.store T.keyed ht (by rw [hp.length_eq]; simp [lits, maxLen]; omega) (val := vv b) (d := .held (vv b)) (ps := []) (T.key ha) rfl
  have hk := T.keyed.key (T.key ha)
  refine ⟨w', hrun, hturn, ⟨?_, ?_⟩, DataW.insert (T.kl a, .held (vv b)) (es.filter fun p => !p.1.sameKey (T.kl a)), es.length + 1, ?_, ?_⟩
  · unfold putL
    rw [List.map_cons, List.nodup_cons]
    refine ⟨fun h => ?_, hd.nd.sublist (List.filter_sublist.map _)⟩
    obtain ⟨p, hp, e⟩ := List.mem_map.1 h
    simp [e] at hp
  · intro p hp
    rcases List.mem_cons.1 hp with e | hp
    · rw [e]; exact ha
    · exact hd.ok p (List.mem_filter.1 hp).1
  · exact hown
  · refine (Go.WideShapes.insert_perm _ _).trans ?_
    unfold putL lits
    rw [List.map_cons]
    refine List.Perm.cons _ ?_
    refine (hp.filter _).trans ?_
    unfold lits
    rw [List.filter_map]
    refine (List.Perm.of_eq ?_)
    congr 1
    refine List.filter_congr fun p hp => ?_
    simp only [Function.comp_apply]
    by_cases e : p.1 = a
    · simp [e, WideAt.sameKey_self hk]
    · simp only [e, not_false_eq_true, decide_true, ne_eq, Bool.not_eq_true']
      exact sameKey_ne fun e' => e (T.kinj (hd.ok p hp) ha e')

theorem MapT.drop {t e : TypeId} (h : MapT T vv w m L) (ht : P.underlying t = some (.map K e)) (ha : T.ok a) (ty : TypeId) :
    ∃ w', (Builtin.delete_ #[t, K] ty #[.map (some m), T.kv a]).run P w = .ok (.tuple #[]) w' ∧ w.mapTurned w' m ∧ MapT T vv w' m (delL L a) := by
  obtain ⟨hd, es, n, h1, hp⟩ := h
  obtain ⟨w', hrun, hown, hturn⟩ := h1.drop T.keyed ht (T.key ha) ty
  have hk := T.keyed.key (T.key ha)
  refine ⟨w', hrun, hturn, ⟨hd.nd.sublist (List.filter_sublist.map _), fun p hp => hd.ok p (List.mem_filter.1 hp).1⟩, _, n, hown, ?_⟩
  refine (hp.filter _).trans ?_
  unfold lits delL
  rw [List.filter_map]
  refine (List.Perm.of_eq ?_)
  congr 1
  refine List.filter_congr fun p hp => ?_
  simp only [Function.comp_apply]
  by_cases e : p.1 = a
  · simp [e, WideAt.sameKey_self hk]
  · simp only [e, not_false_eq_true, decide_true, ne_eq, Bool.not_eq_true']
    exact sameKey_ne fun e' => e (T.kinj (hd.ok p hp) ha e')

theorem MapT.clear {t e : TypeId} (h : MapT T vv w m L) (ht : P.underlying t = some (.map K e)) (ty : TypeId) :
    ∃ w', (Builtin.clear_ #[t] ty #[.map (some m)]).run P w = .ok (.tuple #[]) w' ∧ w.mapTurned w' m ∧ MapT T vv w' m ([] : List (α × β)) := by
  obtain ⟨es, clock, hm⟩ := h.isMap
  refine ⟨ChangeMaps.setBlock w m (.map #[] clock), ?_, ⟨es, clock, #[], clock, hm, rfl⟩, ⟨by simp, by simp⟩, [], 0, ⟨#[], clock, heap_setBlock_same hm _, ⟨by simp, MapKept.stamped_empty clock, by simp⟩, Nat.le_refl _, rfl⟩, List.Perm.refl _⟩
  simp [Builtin.clear_, run_underlying ht, MapKept.run_getObj_map hm, MapKept.run_setObj_map _ hm, Result.andThen, ChangeMaps.setBlock]

/-! ### A loop over a map -/

theorem RangeT.owns (h : RangeT T vv w m r L todo) : MapT T vv w m L := by
  obtain ⟨hd, es, n, left, cnt, h1, hp, _⟩ := h
  exact ⟨hd, es, n, h1.owns, hp⟩

theorem RangeT.ne (h : RangeT T vv w m r L todo) : r ≠ m := by obtain ⟨_, _, _, _, _, h1, _⟩ := h; exact h1.ne

theorem RangeT.lt (h : RangeT T vv w m r L todo) : r < w.heap.size := by obtain ⟨_, _, _, _, _, h1, _⟩ := h; exact h1.lt

theorem RangeT.sub (h : RangeT T vv w m r L todo) : ∀ p ∈ todo, p ∈ L := by
  obtain ⟨_, _, _, _, _, _, _, rfl⟩ := h
  exact fun p hp => (List.mem_filter.1 hp).1

theorem RangeT.stay (h : RangeT T vv w m r L todo) (hm : w'.heap[m]? = w.heap[m]?) (hr : w'.heap[r]? = w.heap[r]?) : RangeT T vv w' m r L todo := by
  obtain ⟨hd, es, n, left, cnt, ⟨es', clock, since, seen, c0, h1, h2, h3, h4, h5, h6⟩, hp, e⟩ := h
  exact ⟨hd, es, n, left, cnt, ⟨es', clock, since, seen, c0, hm.trans h1, h2, h3, h4, hr.trans h5, h6⟩, hp, e⟩

theorem RangeT.out {S : Nat → Prop} (h : RangeT T vv w m r L todo) (ho : Out S w w') (hm : ¬ S m) (hr : ¬ S r) : RangeT T vv w' m r L todo := h.stay (ho.block m h.owns.lt hm) (ho.block r h.lt hr)

theorem RangeT.left_out {S : Nat → Prop} (h : RangeT T vv w m r L todo) (ho : Out S w w') (hm : ¬ S m) (hr : ¬ S r) : w'.rangeLeft m r = w.rangeLeft m r := by
  unfold World.rangeLeft
  rw [ho.block m h.owns.lt hm, ho.block r h.lt hr]

theorem MapT.range {t e : TypeId} (h : MapT T vv w m L) (ht : P.underlying t = some (.map K e)) :
    ∃ w', (Instr.range t (.map (some m))).run P w = .ok (.pointer (some ⟨w.heap.size, 0, none⟩)) w' ∧ RangeT T vv w' m w.heap.size L L ∧ Below w.heap.size w w' ∧ w'.heap.size = w.heap.size + 1 := by
  obtain ⟨hd, es, n, h1, hp⟩ := h
  obtain ⟨w', hrun, r1, r2, r3⟩ := h1.range T.keyed ht
  refine ⟨w', hrun, ⟨hd, es, n, _, _, r1, hp, ?_⟩, ⟨r2.os, r2.tape, r2.output, r2.size, fun i hi => r2.block i hi (by simp)⟩, r3⟩
  refine (List.filter_eq_self.2 fun p hp' => ?_).symm
  rw [(es_at hd hp (es_apart T.keyed h1) (hd.ok p hp') (.held undef)).1, hd.mem (b := p.2) hp']
  rfl

theorem RangeT.step (h : RangeT T vv w m r L todo) (ty : TypeId) :
    (todo = [] ∧ (Instr.next (.pointer (some ⟨r, 0, none⟩)) false ty).run P w = .ok (.tuple #[.bool false]) w) ∨
    ∃ x y rest w', todo.Perm ((x, y) :: rest) ∧ (x, y) ∈ L ∧ T.ok x ∧ (Instr.next (.pointer (some ⟨r, 0, none⟩)) false ty).run P w = .ok (.tuple #[.bool true, T.kv x, vv y]) w' ∧ RangeT T vv w' m r L rest ∧ w'.rangeLeft m r < w.rangeLeft m r ∧
      Out (fun i => i = r) w w' ∧ w'.heap.size = w.heap.size ∧ (Instr.entry (.pointer (some ⟨r, 0, none⟩))).run P w' = .ok (.tuple #[T.kv x, vv y]) w' := by
  obtain ⟨hd, es, n, left, cnt, h1, hp, rfl⟩ := h
  rcases h1.next T.keyed ty with ⟨h0, hl, hrun⟩ | ⟨key, v, kl, y, w', cnt', hkey, hlk, hv, hat, hrun, hrg, hlt, hgr, hsz, hen⟩
  · exact .inl ⟨by simp [hl], hrun⟩
  · have hap := es_apart T.keyed h1.owns
    have hklit := T.keyed.key hkey
    have hh : has (.map es) kl = true := has_true_of_atKey hat
    rw [has_eq, List.any_eq_true] at hh
    obtain ⟨q, hq, hs⟩ := hh
    have hqk := (WideAt.sameKey_iff hklit).1 hs
    obtain ⟨p, hpL, rfl⟩ := List.mem_map.1 (hp.mem_iff.1 hq)
    obtain ⟨x, b⟩ := p
    simp only at hqk
    subst hqk
    have hok := hd.ok _ hpL
    have hkx : key = T.kv x := T.keyed.inj hkey (T.key hok)
    have hvb : v = vv b := by
      have h2 := (es_at hd hp hap hok (.held undef)).2
      rw [hd.mem hpL, hat] at h2
      unfold Rv at hv
      injection hv with hv
      rw [← hv] at h2
      injection h2
    subst hkx
    subst hvb
    refine .inr ⟨x, b, L.filter fun p => left (T.kl p.1) && !(T.kl p.1).sameKey (T.kl x), w', ?_, hpL, hok, hrun, ⟨hd, es, n, _, _, hrg, hp, rfl⟩, by rw [hrg.left_eq, h1.left_eq]; exact hlt, ⟨hgr.os, hgr.tape, hgr.output, hgr.size, fun i hi hn => hgr.block i hi (fun e => hn (Option.some.inj e))⟩, hsz, hen⟩
    clear hrun hen hrg hgr h1 hp hq hs
    have hnd := hd.nd
    have hok' := hd.ok
    clear hd
    induction L with
    | nil => cases hpL
    | cons c L ih =>
      rw [List.map_cons, List.nodup_cons] at hnd
      rcases List.mem_cons.1 hpL with e | hm
      · subst e
        rw [List.filter_cons_of_pos (by simpa using hlk), List.filter_cons_of_neg (by simp [WideAt.sameKey_self hklit])]
        refine List.Perm.cons _ (List.Perm.of_eq (List.filter_congr fun p hp => ?_))
        have : (T.kl p.1).sameKey (T.kl x) = false := sameKey_ne fun e' => hnd.1 (by
          have := T.kinj (hok' p (List.mem_cons_of_mem _ hp)) hok e'
          exact List.mem_map.2 ⟨p, hp, this⟩)
        simp [this]
      · have hne : (T.kl c.1).sameKey (T.kl x) = false := sameKey_ne fun e' => hnd.1 (by
          have := T.kinj (hok' c List.mem_cons_self) hok e'
          rw [this]; exact List.mem_map.2 ⟨_, hm, rfl⟩)
        have h3 := ih hm hnd.2 fun p hp => hok' p (List.mem_cons_of_mem _ hp)
        by_cases hc : left (T.kl c.1) = true
        · rw [List.filter_cons_of_pos (by simpa using hc), List.filter_cons_of_pos (by simp [hc, hne])]
          exact (List.Perm.cons c h3).trans (List.Perm.swap _ _ _)
        · rw [List.filter_cons_of_neg (by simpa using hc), List.filter_cons_of_neg (by simp [hc])]
          exact h3

end

/-- The step of a loop over a map, at the operation. -/
theorem wpList_next_T {P : Program} {K : TypeId} {α β : Type} [DecidableEq α] {T : KeyT P K α} {vv : β → Value} (w : World) {ops : Array Oper} {rest : List Oper} {o : Oper} {a : Act} {Q : Exit → Act → World → Prop}
    (hg : o.guard = none) (it : Operand) (hop : o.op = Op.next it false) (mkK : α → Value) (mkV : β → Value) (eK : ∀ x, T.kv x = mkK x) (eV : ∀ x, vv x = mkV x) {m r : Nat} {L todo : List (α × β)}
    (hit : a.eval it = .pointer (some ⟨r, 0, none⟩)) (h : RangeT T vv w m r L todo) (hDone : todo = [] → wpList P ops Q rest (a.put o.dst (.tuple #[.bool false])) w)
    (hMore : ∀ x y more w', todo.Perm ((x, y) :: more) → (x, y) ∈ L → T.ok x → RangeT T vv w' m r L more → w'.rangeLeft m r < w.rangeLeft m r → Out (fun i => i = r) w w' → w'.heap.size = w.heap.size →
      (Instr.entry (.pointer (some ⟨r, 0, none⟩))).run P w' = .ok (.tuple #[mkK x, mkV y]) w' → wpList P ops Q rest (a.put o.dst (.tuple #[.bool true, mkK x, mkV y])) w') :
    wpList P ops Q (o :: rest) a w := by
  refine wpList_plain hg fun K' hK' => ?_
  unfold Oper.wp
  rcases h.step o.type with ⟨h0, hrun⟩ | ⟨x, y, more, w', h1, h2, h3, hrun, h4, h5, h6, h7, h8⟩
  · simp [execOp, hop, hit, hrun, Result.andThen]
    exact hK' _ _ (hDone h0)
  · rw [eK, eV] at hrun h8
    simp [execOp, hop, hit, hrun, Result.andThen]
    exact hK' _ _ (hMore x y more w' h1 h2 h3 h4 h5 h6 h7 h8)

theorem wpList_range_T {P : Program} {K : TypeId} {α β : Type} [DecidableEq α] {T : KeyT P K α} {vv : β → Value} (w : World) {ops : Array Oper} {rest : List Oper} {o : Oper} {a : Act} {Q : Exit → Act → World → Prop}
    (hg : o.guard = none) (mo : Operand) (t e : TypeId) (hop : o.op = Op.range t mo) (ht : P.underlying t = some (.map K e)) {m : Nat} {L : List (α × β)} (hm : a.eval mo = .map (some m)) (h : MapT T vv w m L)
    (hK : ∀ w', RangeT T vv w' m w.heap.size L L → Below w.heap.size w w' → w'.heap.size = w.heap.size + 1 → wpList P ops Q rest (a.put o.dst (.pointer (some ⟨w.heap.size, 0, none⟩))) w') :
    wpList P ops Q (o :: rest) a w := by
  refine wpList_plain hg fun K' hK' => ?_
  obtain ⟨w', hrun, r1, r2, r3⟩ := h.range ht
  unfold Oper.wp
  simp [execOp, hop, hm, hrun, Result.andThen]
  exact hK' _ _ (hK w' r1 r2 r3)

end Go.Proofs.Ytenccpccpjjkmaa

namespace Go.Proofs.Ytenccpccpjjkmaa

open Go.RowKit

set_option linter.unusedVariables false

section

variable {w w' : World} {base k n : Nat} {e : TypeId} {v : Value} {xs : List Value}

theorem own_stay (h : w.ownsRow base e k v n xs) (hz : w.heap.size ≤ w'.heap.size) (hk : ∀ i, i < w.heap.size → base ≤ i → w'.heap[i]? = w.heap[i]?) : w'.ownsRow base e k v n xs := by
  obtain ⟨h1, h2 | ⟨g, cap, cur, h3, h4, h5, h6⟩⟩ := h
  · exact ⟨h1, .inl h2⟩
  · have hg : g < w.heap.size := by
      rcases Nat.lt_or_ge g w.heap.size with hlt | hge
      · exact hlt
      · rw [Array.getElem?_eq_none hge] at h5; cases h5
    exact ⟨h1, .inr ⟨g, cap, cur, h3, h4, (hk g hg h4).trans h5, h6⟩⟩

theorem own_below (h : w.ownsRow base e k v n xs) (hb : Below w.heap.size w w') : w'.ownsRow base e k v n xs := own_stay h hb.size fun i hi _ => hb.block i hi

theorem own_base {base' : Nat} (h : w.ownsRow base e k v n xs) (hb : base' ≤ base) : w.ownsRow base' e k v n xs := by
  obtain ⟨h1, h2 | ⟨g, cap, cur, h3, h4, h5⟩⟩ := h
  · exact ⟨h1, .inl h2⟩
  · exact ⟨h1, .inr ⟨g, cap, cur, h3, by omega, h5⟩⟩

/-- A row as a block. -/
theorem own_blk (h : w.ownsRow base e 1 v n xs) : (v = .slice none 0 0 ∧ n = 0 ∧ xs = []) ∨ ∃ g cap cs, v = .slice (some ⟨g, 0, none⟩) n cap ∧ base ≤ g ∧ Blk w g e cs ∧ n ≤ cap ∧ cap ≤ maxLen ∧ cs.length = cap ∧ cs.take n = xs := by
  obtain ⟨h1, ⟨h2, h3⟩ | ⟨g, cap, cur, h3, h4, h5, h6, h7, h8, h9⟩⟩ := h
  · left
    subst h3
    exact ⟨h2, rfl, List.eq_nil_of_length_eq_zero (by simpa using h1)⟩
  · right
    exact ⟨g, cap, cur.toList, h3, h4, by unfold Blk; simpa using h5, h6, h7, by simpa using h8, by simpa using h9⟩

theorem blk_own {g cap : Nat} {cs : List Value} (hg : base ≤ g) (hB : Blk w g e cs) (hn : n ≤ cap) (hc : cap ≤ maxLen) (hl : cs.length = cap) (ht : cs.take n = xs) : w.ownsRow base e 1 (.slice (some ⟨g, 0, none⟩) n cap) n xs :=
  ⟨by rw [← ht, List.length_take, hl]; omega, .inr ⟨g, cap, cs.toArray, rfl, hg, hB, hn, hc, by simpa using hl, by simpa using ht⟩⟩

end

def OwnI (w : World) (base : Nat) (v : Value) (l : List Int) : Prop := w.ownsRow base 3 1 v l.length (cis l)

theorem OwnI.form {w : World} {base : Nat} {v : Value} {l : List Int} (h : OwnI w base v l) : ∃ A c, v = .slice A l.length c ∧ l.length ≤ c ∧ c ≤ maxLen ∧ Is w A l := by
  obtain ⟨h1, h2⟩ := h
  have hh := h2
  rcases h2 with ⟨rfl, hx⟩ | ⟨g, cap, cur, rfl, _, _, hc, hm, _⟩
  · have : l = [] := List.eq_nil_of_length_eq_zero hx
    subst this
    exact ⟨none, 0, rfl, by simp, by simp [maxLen], Shows.empty _⟩
  · exact ⟨_, cap, rfl, hc, hm, Shows.ofOwn ⟨h1, hh⟩⟩

theorem OwnI.arg {w : World} {base : Nat} {v : Value} {l : List Int} (h : OwnI w base v l) (hw : ∀ x ∈ l, Wf x) : ∃ A c, v = .slice A l.length c ∧ ArgI w A l.length c l := by
  obtain ⟨A, c, e, h1, h2, h3⟩ := h.form
  exact ⟨A, c, e, rfl, h1, h2, h3, hw⟩

theorem OwnI.nil (w : World) (base : Nat) : OwnI w base (.slice none 0 0) [] := World.ownsRow_nil _ _ _ _

theorem NewI.own {w w' : World} {l : List Int} {v : Value} (h : NewI w l v w') : OwnI w' w.heap.size v l := h.1

theorem run_append_empty {P : Program} (w : World) (base : Nat) (t ty e : TypeId) (i : TypeInfo) (ht : P.underlying t = some (.slice e)) (hi : P.info? e = some i)
    (v : Value) (n : Nat) (xs : List Value) (size : Nat) (hown : w.ownsRow base e size v n xs) (c : Nat) : (Builtin.append_ #[t, t] ty #[v, .slice none 0 c]).run P w = .ok v w := by
  obtain ⟨_, h | ⟨g, cap, cur, h, _, _, hnc, _⟩⟩ := hown
  · obtain ⟨rfl, rfl⟩ := h
    simp [Builtin.append_, run_underlying ht, sizeOf, typeInfo, hi, Builtin.lenOf, Builtin.firstCells]
  · subst h
    simp [Builtin.append_, run_underlying ht, sizeOf, typeInfo, hi, Builtin.lenOf, Builtin.firstCells, hnc, storeCells]

theorem cis_append (l m : List Int) : cis (l ++ m) = cis l ++ cis m := by simp [cis]

theorem cis_take (l : List Int) (m : Nat) : cis (l.take m) = (cis l).take m := by simp [cis]

theorem cis_drop (l : List Int) (m : Nat) : cis (l.drop m) = (cis l).drop m := by simp [cis]

set_option maxRecDepth 100000 in
/-- append(v, x...): 'v' in a row of the call's own, 'x' whatever slice shows the numbers 'm'. -/
theorem run_appendI (w : World) (base : Nat) (v : Value) (l : List Int) (hown : OwnI w base v l) (A : Option Addr) (c k : Nat) (m : List Int) (hr : Is w A m) (hk : m.length = k)
    (h44 : l.length + k ≤ 17592186044416) (hbase : base ≤ w.heap.size) (ty : TypeId) :
    ∃ v' w', (Builtin.append_ #[22, 22] ty #[v, .slice A k c]).run Try.prog w = .ok v' w' ∧ OwnI w' base v' (l ++ m) ∧ w.grownBy w' v.ownBlock ∧
      (v'.ownBlock = v.ownBlock ∨ v'.ownBlock = some w.heap.size) := by
  subst hk
  obtain ⟨i0, hi, hz0, hz1, hz2⟩ := info_parts i64_info
  cases A with
  | none =>
    have hm : m = [] := by
      cases m with
      | nil => rfl
      | cons x t => obtain ⟨b, off, e, _⟩ := hr.at_ (i := 0) (by simp); cases e
    subst hm
    exact ⟨v, w, run_append_empty w base _ ty _ i0 Try.underlying22 hi v _ _ 1 hown c, by simpa using hown, World.grownBy.refl w _, .inl rfl⟩
  | some ad =>
    have hcells : ∀ j u, (cis m)[j]? = some u → w.cell? (ad.add j) = some u := by
      intro j u hu
      have hj : j < m.length := by
        rcases Nat.lt_or_ge j m.length with h | h
        · exact h
        · rw [List.getElem?_eq_none (by rw [cis_length]; exact h)] at hu; cases hu
      obtain ⟨b, off, e, _, hc⟩ := hr.2 (by omega)
      injection e with e
      subst e
      rw [add_mk]
      exact hc j u hu
    obtain ⟨v', w', h1, h2, h3, _, h5⟩ := run_append_own_at (P := Try.prog) w base 22 ty 3 i0 (.int .i64 0) 1 8 Try.underlying22 hi hz0 hz1 hz2 rfl (by decide) v l.length (cis l) hown ad m.length c (cis m)
      (by rw [cis_length]; simp) hcells (cis_one m) (by simp only [maxLen]; omega) (by omega) hbase
    exact ⟨v', w', h1, by unfold OwnI; rw [List.length_append, cis_append]; exact h2, h3, h5⟩

theorem wp_appendI {w : World} {ops : Array Oper} {rest : List Oper} {o : Oper} {a : Act} {Q : Exit → Act → World → Prop} (hgd : o.guard = none) (s x : Operand)
    (ho : o.op = .call { callee := .builtin .append, args := #[s, x], argTypes := #[22, 22] })
    (base : Nat) (v : Value) (l : List Int) (hs : a.eval s = v) (hown : OwnI w base v l) (A : Option Addr) (c k : Nat) (m : List Int) (hx : a.eval x = .slice A k c) (hr : Is w A m) (hk : m.length = k)
    (h44 : l.length + k ≤ 17592186044416) (hbase : base ≤ w.heap.size)
    (h : ∀ v' w', OwnI w' base v' (l ++ m) → w.grownBy w' v.ownBlock → (v'.ownBlock = v.ownBlock ∨ v'.ownBlock = some w.heap.size) → wpList Try.prog ops Q rest (a.put o.dst v') w') :
    wpList Try.prog ops Q (o :: rest) a w := by
  obtain ⟨v', w', hrun, h2, h3, h4⟩ := run_appendI w base v l hown A c k m hr hk h44 hbase o.type
  refine wpList_plain hgd fun K hK => ?_
  unfold Oper.wp execOp
  simp only [ho, resolve, invoke, builtin, Sem.run_bind, Sem.run_pure, Result.andThen_ok, List.map_toArray, List.map_cons, List.map_nil, hs, hx, hrun]
  exact hK _ _ (h v' w' h2 h3 h4)

/-- Behind an append to a row of its own, all that was ahead of that row stays. -/
theorem below_append {w0 w w' : World} {B base : Nat} {v : Value} {l : List Int} (hb : Below B w0 w) (hown : OwnI w base v l) (hg : w.grownBy w' v.ownBlock) (hB : B ≤ base) (hw : B ≤ w.heap.size) : Below B w0 w' :=
  hb.grown hg hw fun i hi => by have := (hown.lt i hi).1; omega

/-- A new block that shows some numbers. -/
theorem is_new (w : World) (l : List Int) : Is (w.alloc (.cells (cis l).toArray 3)) (some ⟨w.heap.size, 0, none⟩) l := by
  refine ⟨by rw [cis_length]; omega, fun _ => ⟨_, 0, rfl, by simp, fun j u hu => ?_⟩⟩
  rw [Nat.zero_add]
  exact (Blk.new (l := cis l) rfl rfl).cell hu

end Go.Proofs.Ytenccpccpjjkmaa

namespace Go.Proofs.Ytenccpccpjjkmaa

open Go.RowKit

set_option linter.unusedVariables false

theorem step_load {P : Program} {ops : Array Oper} {o : Oper} {a : Act} {w : World} {K : Act → World → Prop} {Q : Exit → Act → World → Prop} {E : Prop} (hgd : o.guard = none) (ty : TypeId) (x : Operand) (ho : o.op = .load ty x)
    (b off : Nat) (hx : a.eval x = .pointer (some ⟨b, off, none⟩)) (cs : List Value) (d : TypeDesc) (hc : w.rangeAt b off cs)
    (hu : P.underlying ty = some d) (hd : d.isRow = true) (hi : (P.info? ty).map (·.size) = some cs.length)
    (h : K (a.put o.dst (.agg cs.toArray)) w) : if Region.wanted o (yielded ops a.tmps) = true then Oper.wp P o a w K Q else E := by
  have hw : Region.wanted o (yielded ops a.tmps) = true := by simp [Region.wanted, hgd]
  rw [if_pos hw]
  exact wp_load_mid ty x ho b off hx cs d hc hu hd hi h

theorem step_store {P : Program} {ops : Array Oper} {o : Oper} {a : Act} {w : World} {K : Act → World → Prop} {Q : Exit → Act → World → Prop} {E : Prop} (hgd : o.guard = none) (ty : TypeId) (x y : Operand) (ho : o.op = .store ty x y)
    (b off : Nat) (cells : Array Value) (hx : a.eval x = .pointer (some ⟨b, off, none⟩)) (hy : a.eval y = .agg cells)
    (ht : w.there b off cells.size) (hi : (P.info? ty).map (·.size) = some cells.size) (h1 : cells.all (·.oneCell') = true)
    (h : K (a.put o.dst undef) (w.setCells b off cells.toList)) : if Region.wanted o (yielded ops a.tmps) = true then Oper.wp P o a w K Q else E := by
  have hw : Region.wanted o (yielded ops a.tmps) = true := by simp [Region.wanted, hgd]
  rw [if_pos hw]
  exact wp_store_mid ty x y ho b off cells hx hy ht hi h1 h

section

variable {P : Program} {ops : Array Oper} {Q : Exit → Act → World → Prop} {md : Region.Mode}

theorem any_take {i d : Nat} {oi : Oper} {v : Value} {fuel : Nat} {listed : Array Bool} {a : Act} {w : World} (hi : ops[i]? = some oi) (hd : oi.dst = some d)
    (hs : Region.noSelect ops = true) (hf : Region.free md ops listed i = true) (hr : (Region.ready md ops listed).contains i = true)
    (hQ : ∀ c a w, Q (.panic c) (a.put oi.dst v) w → Q (.panic c) a w) (hy : Yields P ops oi v a)
    (h : wpAny P md ops Q fuel (listed.setIfInBounds i true) { a with tmps := a.tmps.setIfInBounds d v } w) : wpAny P md ops Q (fuel + 1) listed a w :=
  wpAny_take hi hs hf hr hQ hy (by unfold Act.put; rw [hd]; exact h)

theorem op_load {i d : Nat} {oi : Oper} {a : Act} {w : World} {K : Act → World → Prop} (hi : ops[i]? = some oi) (hd : oi.dst = some d) (hgd : oi.guard = none) (ty : TypeId) (x : Operand) (ho : oi.op = .load ty x)
    (b off : Nat) (hx : a.eval x = .pointer (some ⟨b, off, none⟩)) (cs : List Value) (t : TypeDesc) (hc : w.rangeAt b off cs) (hu : P.underlying ty = some t) (ht : t.isRow = true) (hn : (P.info? ty).map (·.size) = some cs.length)
    (h : K { a with tmps := a.tmps.setIfInBounds d (.agg cs.toArray) } w) : wpOp P ops Q i K a w := by
  refine wpOp_step hi (fun K' hK => step_load hgd ty x ho b off hx cs t hc hu ht hn ?_)
  unfold Act.put
  rw [hd]
  exact hK _ _ h

theorem op_store {i : Nat} {oi : Oper} {a : Act} {w : World} {K : Act → World → Prop} (hi : ops[i]? = some oi) (hd : oi.dst = none) (hgd : oi.guard = none) (ty : TypeId) (x y : Operand) (ho : oi.op = .store ty x y)
    (b off : Nat) (cells : Array Value) (hx : a.eval x = .pointer (some ⟨b, off, none⟩)) (hy : a.eval y = .agg cells)
    (ht : w.there b off cells.size) (hn : (P.info? ty).map (·.size) = some cells.size) (h1 : cells.all (·.oneCell') = true)
    (h : K a (w.setCells b off cells.toList)) : wpOp P ops Q i K a w := by
  refine wpOp_step hi (fun K' hK => step_store hgd ty x y ho b off cells hx hy ht hn h1 ?_)
  unfold Act.put
  rw [hd]
  exact hK _ _ h

theorem any_one {i : Nat} {fuel : Nat} {listed : Array Bool} {a : Act} {w : World} (hr : Region.ready md ops listed = [i])
    (h : wpOp P ops Q i (wpAny P md ops Q fuel (listed.setIfInBounds i true)) a w) : wpAny P md ops Q (fuel + 1) listed a w :=
  wpAny_all hr (by simp) (fun j hj => by simp at hj; subst hj; exact h)

theorem any_two {i j : Nat} {fuel : Nat} {listed : Array Bool} {a : Act} {w : World} (hr : Region.ready md ops listed = [i, j])
    (h1 : wpOp P ops Q i (wpAny P md ops Q fuel (listed.setIfInBounds i true)) a w) (h2 : wpOp P ops Q j (wpAny P md ops Q fuel (listed.setIfInBounds j true)) a w) : wpAny P md ops Q (fuel + 1) listed a w :=
  wpAny_all hr (by simp) (fun k hk => by
    simp at hk
    rcases hk with rfl | rfl
    · exact h1
    · exact h2)

end

end Go.Proofs.Ytenccpccpjjkmaa

namespace Go.Proofs.Ytenccpccpjjkmaa

open Go.RowKit

set_option linter.unusedVariables false

section

variable {P : Program} {ops : Array Oper} {Q : Exit → Act → World → Prop} {md : Region.Mode} {S : World → Prop}

theorem anyH_take {i d : Nat} {oi : Oper} {v : Value} {fuel : Nat} {listed : Array Bool} {a : Act} {w : World} (hi : ops[i]? = some oi) (hd : oi.dst = some d)
    (hs : Region.noSelect ops = true) (hf : Region.free md ops listed i = true) (hr : (Region.ready md ops listed).contains i = true)
    (hQ : ∀ c a w, Q (.panic c) (a.put oi.dst v) w → Q (.panic c) a w) (hy : Yields P ops oi v a) (hS : S w)
    (h : wpAnyH P md ops Q S fuel (listed.setIfInBounds i true) { a with tmps := a.tmps.setIfInBounds d v } w) : wpAnyH P md ops Q S (fuel + 1) listed a w :=
  wpAnyH_take hi hs hf hr hQ hy.yieldsIf hS (by unfold Act.put; rw [hd]; exact h)

theorem anyH_load {i d : Nat} {oi : Oper} {fuel : Nat} {listed : Array Bool} {a : Act} {w : World} (hi : ops[i]? = some oi) (hd : oi.dst = some d)
    (hs : Region.noSelect ops = true) (hf : Region.free md ops listed i = true) (hr : (Region.ready md ops listed).contains i = true)
    (hw : Region.wanted oi (yielded ops a.tmps) = true) (ty : TypeId) (x : Operand) (ho : oi.op = .load ty x)
    (b o : Nat) (hx : a.eval x = .pointer (some ⟨b, o, none⟩)) (cs : List Value) (t : TypeDesc) (hR : ∀ w, S w → w.rangeAt b o cs)
    (hu : P.underlying ty = some t) (ht : t.isRow = true) (hn : (P.info? ty).map (·.size) = some cs.length)
    (hQ : ∀ c a w, Q (.panic c) (a.put oi.dst (.agg cs.toArray)) w → Q (.panic c) a w) (hS : S w)
    (h : wpAnyH P md ops Q S fuel (listed.setIfInBounds i true) { a with tmps := a.tmps.setIfInBounds d (.agg cs.toArray) } w) : wpAnyH P md ops Q S (fuel + 1) listed a w :=
  wpAnyH_take hi hs hf hr hQ (yieldsIf_load_mid hw ty x ho b o hx cs t hR hu ht hn) hS (by unfold Act.put; rw [hd]; exact h)

theorem anyH_one {i : Nat} {fuel : Nat} {listed : Array Bool} {a : Act} {w : World} (hr : Region.ready md ops listed = [i])
    (h : wpOp P ops Q i (fun a' w' => S w' ∧ wpAnyH P md ops Q S fuel (listed.setIfInBounds i true) a' w') a w) : wpAnyH P md ops Q S (fuel + 1) listed a w :=
  wpAnyH_all hr (by simp) (fun j hj => by simp at hj; subst hj; exact h)

theorem wpAnyH_take' {i d : Nat} {oi : Oper} {v : Value} {fuel : Nat} {listed : Array Bool} {a : Act} {w : World} (hi : ops[i]? = some oi) (hd : oi.dst = some d)
    (hs : Region.noSelect ops = true) (hf : Region.free md ops listed i = true) (hr : (Region.ready md ops listed).contains i = true)
    (hQ : ∀ c a w, Q (.panic c) (a.put oi.dst v) w → Q (.panic c) a w) (hy : YieldsIf P ops S oi v a) (hS : S w)
    (h : wpAnyH P md ops Q S fuel (listed.setIfInBounds i true) { a with tmps := a.tmps.setIfInBounds d v } w) : wpAnyH P md ops Q S (fuel + 1) listed a w :=
  wpAnyH_take hi hs hf hr hQ hy hS (by unfold Act.put; rw [hd]; exact h)

end

end Go.Proofs.Ytenccpccpjjkmaa

namespace Go.Proofs.Ytenccpccpjjkmaa

open Go.RowKit

set_option linter.unusedVariables false

section

variable {P : Program} {ops : Array Oper} {Q : Exit → Act → World → Prop} {md : Region.Mode} {S : World → Prop}

/-- In state 'a', in every world that meets S, operation 'o' is a call that answers v and changes nothing. -/
def Asks (P : Program) (ops : Array Oper) (S : World → Prop) (o : Oper) (v : Value) (a : Act) : Prop :=
  Region.wanted o (yielded ops a.tmps) = true ∧ ∀ w, S w → ∃ f args, (execOp a.eval o).run P w = .ok (.enter f args) w ∧ Calls P f args w fun e w' => e = .returned v ∧ w' = w

theorem Asks.op {i : Nat} {o : Oper} {v : Value} {a : Act} (hi : ops[i]? = some o) (hy : Asks P ops S o v a) {K : Act → World → Prop} {w : World} (hS : S w) (h : K (a.put o.dst v) w) : wpOp P ops Q i K a w := by
  obtain ⟨hw, hr⟩ := hy
  obtain ⟨f, args, hrun, hc⟩ := hr w hS
  unfold wpOp
  simp only [hi, hw, if_true]
  refine .inl ?_
  unfold Oper.wp
  rw [hrun]
  refine hc.mono ?_
  rintro e w' ⟨rfl, rfl⟩
  exact h

theorem Asks.same {o : Oper} {v : Value} {a a' : Act} (hy : Asks P ops S o v a) (he : execOp a'.eval o = execOp a.eval o) (hw : Region.wanted o (yielded ops a'.tmps) = Region.wanted o (yielded ops a.tmps)) : Asks P ops S o v a' := by
  unfold Asks at *
  rw [he, hw]
  exact hy

theorem asks_put {j : Nat} {oi oj : Oper} {v : Value} (hj : ops[j]? = some oj) (hap : oi.apart ops oj = true) (hsi : ∀ cs b, oi.op ≠ .select cs b) (hsj : ∀ cs b, oj.op ≠ .select cs b)
    (hQ : ∀ c a w, Q (.panic c) (a.put oi.dst v) w → Q (.panic c) a w) {K : Act → World → Prop} {a : Act} {w : World} (hy : Asks P ops S oi v a) (h : wpOp P ops Q j K (a.put oi.dst v) w) :
    wpOp P ops Q j (fun a' w' => Asks P ops S oi v a' ∧ K (a'.put oi.dst v) w') a w := by
  obtain ⟨h1, h2, h3⟩ := Oper.apart_spec hap
  have keep : ∀ a : Act, Asks P ops S oi v a → ∀ u, Asks P ops S oi v (a.put oj.dst u) := fun a hy u => hy.same (execOp_put oi hsi a oj.dst u h3) (wanted_put oi a oj.dst u h3)
  have keepD : ∀ d, Asks P ops S oi v { a with defers := d :: a.defers } := fun d => hy.same rfl rfl
  unfold wpOp at *
  simp only [hj] at *
  rw [wanted_put oj a oi.dst v h1] at h
  split
  · rename_i hw
    simp only [hw, if_true] at h
    rcases h with h | ⟨hasks, hlets⟩
    · refine .inl ?_
      unfold Oper.wp at *
      rw [execOp_put oj hsj a oi.dst v h1] at h
      generalize (execOp a.eval oj).run P w = r at *
      cases r with
      | ok n w' =>
        cases n <;> simp only [Oper.upon] at h ⊢
        case value u => exact ⟨keep a hy u, by rw [← Act.put_comm a v u h2]; exact h⟩
        case skip => exact ⟨keep a hy _, by rw [← Act.put_comm a v undef h2]; exact h⟩
        case defer d =>
          refine ⟨keep _ (keepD d) _, ?_⟩
          rw [← Act.put_comm _ v undef h2, ← Act.put_defers]
          exact h
        case enter f args =>
          refine Calls.mono h fun e w'' he => ?_
          cases e with
          | returned u => exact ⟨keep a hy u, by rw [← Act.put_comm a v u h2]; exact he⟩
          | panicked c => exact hQ _ _ _ he
          | outgrown => exact he
        case row row args => exact Rows.mono h fun u w'' he => ⟨keep a hy u, by rw [← Act.put_comm a v u h2]; exact he⟩
      | halt x w' =>
        cases x <;> simp only [Oper.upon] at h ⊢
        case panic u => exact hQ _ _ _ h
    · exact .inr ⟨by unfold Oper.asks at *; rw [execOp_put oj hsj a oi.dst v h1] at hasks; exact hasks, hlets⟩
  · rename_i hw
    simp only [hw] at h
    exact ⟨keep a hy _, by rw [← Act.put_comm a v undef h2]; exact h⟩

theorem asks_first {i : Nat} {oi : Oper} {v : Value} (hi : ops[i]? = some oi) (hsel : ∀ (j : Nat) (o : Oper) cs b, ops[j]? = some o → o.op ≠ .select cs b) (hQ : ∀ c a w, Q (.panic c) (a.put oi.dst v) w → Q (.panic c) a w) :
    ∀ (fuel : Nat) (listed : Array Bool) (a : Act) (w : World),
      (∀ j oj, ops[j]? = some oj → j ≠ i → listed.getD j true = false → (∀ e ∈ oj.after, Region.binds md e = true → e.on ≠ i) → oi.apart ops oj = true) →
      i ∈ Region.ready md ops listed → Asks P ops S oi v a → S w →
      wpAnyH P md ops Q S fuel (listed.setIfInBounds i true) (a.put oi.dst v) w → wpAnyH P md ops Q S (fuel + 1) listed a w := by
  intro fuel
  induction fuel with
  | zero =>
    intro listed a w _ hr hy hS H
    refine ⟨fun h => (by rw [h] at hr; cases hr), fun j hj => ?_⟩
    by_cases hji : j = i
    · subst hji; exact hy.op hi hS ⟨hS, H⟩
    · have := ready_mono hj hji
      rw [H.1] at this
      cases this
  | succ fuel ih =>
    intro listed a w hfree hr hy hS H
    refine ⟨fun h => (by rw [h] at hr; cases hr), fun j hj => ?_⟩
    by_cases hji : j = i
    · subst hji; exact hy.op hi hS ⟨hS, H⟩
    · have h1 := H.2 j (ready_mono hj hji)
      obtain ⟨hjun, oj, hoj, hall⟩ := mem_ready.1 hj
      have hnot : ∀ e ∈ oj.after, Region.binds md e = true → e.on ≠ i := fun e he hb heq => by
        have h1 := hall e he hb
        have h0 := (mem_ready.1 hr).1
        rw [heq] at h1
        rcases Nat.lt_or_ge i listed.size with h' | h'
        · simp [h'] at h0 h1; rw [h0] at h1; cases h1
        · simp [Array.getElem?_eq_none h'] at h1
      have h2 := asks_put hoj (hfree j oj hoj hji hjun hnot) (fun cs b => hsel i oi cs b hi) (fun cs b => hsel j oj cs b hoj) hQ hy h1
      have hfree' : ∀ k ok, ops[k]? = some ok → k ≠ i → (listed.setIfInBounds j true).getD k true = false → (∀ e ∈ ok.after, Region.binds md e = true → e.on ≠ i) → oi.apart ops ok = true := fun k ok hk hki hun hno => by
        refine hfree k ok hk hki ?_ hno
        by_cases hjk : j = k
        · subst hjk; exact hjun
        · rw [getD_set_ne true hjk] at hun; exact hun
      refine wpOp_mono (fun a' w' h3 => ⟨h3.2.1, ih (listed.setIfInBounds j true) a' w' hfree' (ready_mono hr (Ne.symm hji)) h3.1 h3.2.1 ?_⟩) h2
      rw [Array.setIfInBounds_comm _ _ hji]
      exact h3.2.2

/-- A call taken first. -/
theorem anyH_call {i d : Nat} {oi : Oper} {v : Value} {fuel : Nat} {listed : Array Bool} {a : Act} {w : World} (hi : ops[i]? = some oi) (hd : oi.dst = some d)
    (hs : Region.noSelect ops = true) (hf : Region.free md ops listed i = true) (hr : (Region.ready md ops listed).contains i = true)
    (hQ : ∀ c a w, Q (.panic c) (a.put oi.dst v) w → Q (.panic c) a w) (hy : Asks P ops S oi v a) (hS : S w)
    (h : wpAnyH P md ops Q S fuel (listed.setIfInBounds i true) { a with tmps := a.tmps.setIfInBounds d v } w) : wpAnyH P md ops Q S (fuel + 1) listed a w :=
  asks_first hi (Region.noSelect_spec hs) hQ fuel listed a w (Region.free_spec hi hf) (by simpa using hr) hy hS (by unfold Act.put; rw [hd]; exact h)

theorem op_storeE {i : Nat} {oi : Oper} {a : Act} {w wS : World} {K : Act → World → Prop} (hi : ops[i]? = some oi) (hd : oi.dst = none) (hgd : oi.guard = none) (ty : TypeId) (x y : Operand) (ho : oi.op = .store ty x y)
    (b off : Nat) (F : List Value) (hx : a.eval x = .pointer (some ⟨b, off, none⟩)) (hy : a.eval y = .agg F.toArray) (ht : w.there b off F.toArray.size) (hn : (P.info? ty).map (·.size) = some F.toArray.size) (h1 : F.toArray.all (·.oneCell') = true)
    (e : w.setCells b off F = wS) (h : K a wS) : wpOp P ops Q i K a w := by
  subst e
  exact op_store hi hd hgd ty x y ho b off F.toArray hx hy ht hn h1 h

theorem results_row_tmp {fn : Func} {p q : Tmp} {ty : TypeId} (h : fn.results = #[.cell p ty, .tmp q]) (tmps : Array Value) (w : World) (g : Nat) (t : TypeId) (cs : Array Value) (v : Value) (d : TypeDesc)
    (hp : tmps.getD p undef = .pointer (some ⟨g, 0, none⟩)) (hq : tmps.getD q undef = v) (hg : w.heap[g]? = some (.cells cs t (0, 0)))
    (hu : P.underlying ty = some d) (hd : (match d with | .struct _ | .array _ _ => true | _ => false) = true) (hi : (P.info? ty).map (·.size) = some cs.size) :
    (results fn tmps).run P w = .ok (.tuple #[.agg cs, v]) w := by
  have hp' : tmps[p]?.getD undef = .pointer (some ⟨g, 0, none⟩) := by simpa using hp
  have hq' : tmps[q]?.getD undef = v := by simpa using hq
  simp [results, h, hp', hq', asAddr, run_loadVar_row w g t ty cs (0, 0) d hg hu hd hi]

end

end Go.Proofs.Ytenccpccpjjkmaa

namespace Go.Proofs.Ytenccpccpjjkmaa

open Go.RowKit Go.Maps

set_option linter.unusedVariables false

section

variable {P : Program}

theorem wp_built {o : Oper} {a : Act} {w : World} {K : Act → World → Prop} {Q : Exit → Act → World → Prop} (t : TypeId) (parts : Array (Nat × Operand)) (ho : o.op = .build t parts) (cells : Array Value)
    (he : P.built t (parts.toList.map fun p => (p.1, a.eval p.2)) = some cells) (h : K (a.put o.dst (.agg cells)) w) : o.wp P a w K Q := by
  have e : (parts.map fun (i, x) => (i, a.eval x)).toList = parts.toList.map fun p => (p.1, a.eval p.2) := by rw [Array.toList_map]
  refine wp_build t parts ho (by rw [e, he]; rfl) ?_
  rw [e, he]
  exact h

theorem wpList_build_g {ops : Array Oper} {rest : List Oper} {o : Oper} {a : Act} {w : World} {Q : Exit → Act → World → Prop} (hw : Region.wanted o (yielded ops a.tmps) = true) (t : TypeId) (parts : Array (Nat × Operand)) (ho : o.op = .build t parts) (cells : Array Value)
    (he : P.built t (parts.toList.map fun p => (p.1, a.eval p.2)) = some cells) (h : wpList P ops Q rest (a.put o.dst (.agg cells)) w) : wpList P ops Q (o :: rest) a w :=
  wpList_step fun K hK => by rw [if_pos hw]; exact wp_built t parts ho cells he (hK _ _ h)

theorem exec_build {ev : Operand → Value} {o : Oper} (t : TypeId) (parts : Array (Nat × Operand)) (ho : o.op = .build t parts) (cells : Array Value) (he : P.built t (parts.toList.map fun p => (p.1, ev p.2)) = some cells) (w : World) :
    Sem.run P (execOp ev o) w = .ok (Next.value (.agg cells)) w := by
  have e : (parts.map fun (i, x) => (i, ev x)).toList = parts.toList.map fun p => (p.1, ev p.2) := by rw [Array.toList_map]
  unfold execOp
  simp only [ho, Sem.run_bind, run_build w t _ cells (by rw [e]; exact he), Result.andThen_ok]
  rfl

end

end Go.Proofs.Ytenccpccpjjkmaa

namespace Go.Proofs.Ytenccpccpjjkmaa

open Go.RowKit Go.Maps

set_option linter.unusedVariables false

section

variable {P : Program} {ops : Array Oper} {Q : Exit → Act → World → Prop}

theorem op_row {i d : Nat} {oi : Oper} {a : Act} {w : World} {K : Act → World → Prop} (hi : ops[i]? = some oi) (hd : oi.dst = some d) (hgd : oi.guard = none) (t : TypeId) (n : Nat) (parts : Array (Nat × Operand)) (ho : oi.op = .buildSlice t n parts)
    (v : Value) (w' : World) (hrun : (Instr.buildSlice t n (parts.map fun p => (p.1, a.eval p.2))).run P w = .ok v w') (h : K { a with tmps := a.tmps.setIfInBounds d v } w') : wpOp P ops Q i K a w := by
  refine wpOp_step hi (fun K' hK => ?_)
  have hw : Region.wanted oi (yielded ops a.tmps) = true := by unfold Region.wanted; rw [hgd]
  rw [if_pos hw]
  have he' : (Instr.buildSlice t n (parts.map fun (i, x) => (i, a.eval x))).run P w = .ok v w' := hrun
  unfold Oper.wp execOp
  simp only [ho, Sem.run_bind, he', Result.andThen_ok]
  refine hK _ _ ?_
  unfold Act.put
  rw [hd]
  exact h

theorem wpList_row {rest : List Oper} {o : Oper} {a : Act} {w : World} (hgd : o.guard = none) (t : TypeId) (n : Nat) (parts : Array (Nat × Operand)) (ho : o.op = .buildSlice t n parts)
    (v : Value) (w' : World) (hrun : (Instr.buildSlice t n (parts.map fun p => (p.1, a.eval p.2))).run P w = .ok v w') (h : wpList P ops Q rest (a.put o.dst v) w') : wpList P ops Q (o :: rest) a w := by
  refine wpList_plain hgd fun K hK => ?_
  have he' : (Instr.buildSlice t n (parts.map fun (i, x) => (i, a.eval x))).run P w = .ok v w' := hrun
  unfold Oper.wp execOp
  simp only [ho, Sem.run_bind, he', Result.andThen_ok]
  exact hK _ _ h

theorem wpList_app {rest : List Oper} {o : Oper} {a : Act} {w : World} (hgd : o.guard = none) (s x : Operand) (t1 t2 : TypeId) (ho : o.op = .call { callee := .builtin .append, args := #[s, x], argTypes := #[t1, t2] })
    (v u v' : Value) (w' : World) (hs : a.eval s = v) (hx : a.eval x = u) (hrun : (Builtin.append_ #[t1, t2] o.type #[v, u]).run P w = .ok v' w') (h : wpList P ops Q rest (a.put o.dst v') w') : wpList P ops Q (o :: rest) a w := by
  refine wpList_plain hgd fun K hK => ?_
  unfold Oper.wp execOp
  simp only [ho, resolve, invoke, builtin, Sem.run_bind, Sem.run_pure, Result.andThen_ok, List.map_toArray, List.map_cons, List.map_nil, hs, hx, hrun]
  exact hK _ _ h

end

end Go.Proofs.Ytenccpccpjjkmaa

namespace Go.Proofs.Ytenccpccpjjkmaa

open Go.RowKit

set_option linter.unusedVariables false

theorem eq_split {l m : List UInt8} (h : l ≠ m) (hl : l.length = m.length) : ∃ k, ∃ (h1 : k < l.length) (h2 : k < m.length), l[k] ≠ m[k] ∧ l.take k = m.take k := by
  induction l generalizing m with
  | nil => cases m with
    | nil => exact absurd rfl h
    | cons _ _ => simp at hl
  | cons a l ih =>
    cases m with
    | nil => simp at hl
    | cons b m =>
      by_cases hab : a = b
      · subst hab
        obtain ⟨k, h1, h2, h3, h4⟩ := ih (m := m) (by simpa using h) (by simpa using hl)
        exact ⟨k + 1, by simp; omega, by simp; omega, by simpa using h3, by simp [h4]⟩
      · exact ⟨0, by simp, by simp, by simpa using hab, by simp⟩

theorem ret_bool {a b : Bool} (h : a = b) : Ending.returned (.bool a) = .returned (.bool b) := by rw [h]

theorem ret_int {k : IntKind} {a b : Int} (h : a = b) : Ending.returned (.int k a) = .returned (.int k b) := by rw [h]

theorem ne_byte {x y : UInt8} (h : x ≠ y) : ¬ (x.toNat : Int) = (y.toNat : Int) := fun e => h (UInt8.toNat_inj.1 (by omega))

end Go.Proofs.Ytenccpccpjjkmaa

namespace Go.Proofs.Ytenccpccpjjkmaa

open Go.RowKit

set_option linter.unusedVariables false

theorem u8_info : (Try.prog.info? 5).map (fun i => (i.zero, i.size, i.bytes)) = some (some (.int .u8 0), 1, 1) := by kernel_rfl

set_option maxRecDepth 100000 in
/-- append(v, x...) for bytes: 'v' in a row of the call's own, 'x' whatever slice shows the bytes 'm'. -/
theorem run_appendB (w : World) (base : Nat) (v : Value) (l : List UInt8) (hown : Mine w base 5 v l) (A : Option Addr) (c k : Nat) (m : List UInt8) (hr : Bs w A m) (hk : m.length = k)
    (h47 : l.length + k ≤ 140737488355328) (hbase : base ≤ w.heap.size) (ty : TypeId) :
    ∃ v' w', (Builtin.append_ #[102, 102] ty #[v, .slice A k c]).run Try.prog w = .ok v' w' ∧ Mine w' base 5 v' (l ++ m) ∧ w.grownBy w' v.ownBlock ∧
      (v'.ownBlock = v.ownBlock ∨ v'.ownBlock = some w.heap.size) := by
  subst hk
  obtain ⟨i0, hi, hz0, hz1, hz2⟩ := info_parts u8_info
  cases A with
  | none =>
    have hm : m = [] := by
      cases m with
      | nil => rfl
      | cons x t => obtain ⟨b, off, e, _⟩ := hr.at_ (i := 0) (by simp); cases e
    subst hm
    exact ⟨v, w, run_append_empty w base _ ty _ i0 Try.underlying102 hi v _ _ 1 hown c, by simpa using hown, World.grownBy.refl w _, .inl rfl⟩
  | some ad =>
    have hcells : ∀ j u, (cbs m)[j]? = some u → w.cell? (ad.add j) = some u := by
      intro j u hu
      have hj : j < m.length := by
        rcases Nat.lt_or_ge j m.length with h | h
        · exact h
        · rw [List.getElem?_eq_none (by rw [cbs_length]; exact h)] at hu; cases hu
      obtain ⟨b, off, e, _, hc⟩ := hr.2 (by omega)
      injection e with e
      subst e
      rw [add_mk]
      exact hc j u hu
    obtain ⟨v', w', h1, h2, h3, _, h5⟩ := run_append_own_at (P := Try.prog) w base 102 ty 5 i0 (.int .u8 0) 1 1 Try.underlying102 hi hz0 hz1 hz2 rfl (by decide) v l.length (cbs l) hown ad m.length c (cbs m)
      (by rw [cbs_length]; simp) hcells (cbs_one m) (by simp only [maxLen]; omega) (by omega) hbase
    exact ⟨v', w', h1, by unfold Mine; rw [List.length_append, cbs_append]; exact h2, h3, h5⟩

theorem wp_appendB {w : World} {ops : Array Oper} {rest : List Oper} {o : Oper} {a : Act} {Q : Exit → Act → World → Prop} (hgd : o.guard = none) (s x : Operand)
    (ho : o.op = .call { callee := .builtin .append, args := #[s, x], argTypes := #[102, 102] })
    (base : Nat) (v : Value) (l : List UInt8) (hs : a.eval s = v) (hown : Mine w base 5 v l) (A : Option Addr) (c k : Nat) (m : List UInt8) (hx : a.eval x = .slice A k c) (hr : Bs w A m) (hk : m.length = k)
    (h47 : l.length + k ≤ 140737488355328) (hbase : base ≤ w.heap.size)
    (h : ∀ v' w', Mine w' base 5 v' (l ++ m) → w.grownBy w' v.ownBlock → (v'.ownBlock = v.ownBlock ∨ v'.ownBlock = some w.heap.size) → wpList Try.prog ops Q rest (a.put o.dst v') w') :
    wpList Try.prog ops Q (o :: rest) a w := by
  obtain ⟨v', w', hrun, h2, h3, h4⟩ := run_appendB w base v l hown A c k m hr hk h47 hbase o.type
  refine wpList_plain hgd fun K hK => ?_
  unfold Oper.wp execOp
  simp only [ho, resolve, invoke, builtin, Sem.run_bind, Sem.run_pure, Result.andThen_ok, List.map_toArray, List.map_cons, List.map_nil, hs, hx, hrun]
  exact hK _ _ (h v' w' h2 h3 h4)

/-- A new slice that shows 'l', in a row made since the world 'w'. -/
def NewB (w : World) (l : List UInt8) (v : Value) (w' : World) : Prop := Mine w' w.heap.size 5 v l ∧ Below w.heap.size w w'

def RetB (w : World) (l : List UInt8) (e : Ending) (w' : World) : Prop := ∃ v, e = .returned v ∧ NewB w l v w'

theorem NewB.ofDrew {w w' : World} {l : List UInt8} {v : Value} (h : NewB w.drew l v w') : NewB w l v w' := ⟨h.1, ((Below.refl _ _).drew).trans h.2⟩

theorem NewB.nil (w : World) : NewB w [] (.slice none 0 0) w := ⟨World.ownsRow_nil _ _ _ _, Below.refl _ _⟩

theorem NewB.form {w w' : World} {l : List UInt8} {v : Value} (h : NewB w l v w') : ∃ A c, v = .slice A l.length c ∧ l.length ≤ c ∧ c ≤ maxLen ∧ Bs w' A l := Mine.form h.1

theorem NewB.later {w w1 w' : World} {l : List UInt8} {v : Value} (hb : Below w.heap.size w w1) (h : NewB w1 l v w') : NewB w l v w' :=
  ⟨by
    obtain ⟨h1, h2 | ⟨g, cap, cur, h3, h4, h5⟩⟩ := h.1
    · exact ⟨h1, .inl h2⟩
    · exact ⟨h1, .inr ⟨g, cap, cur, h3, Nat.le_trans hb.size h4, h5⟩⟩, hb.trans (h.2.mono hb.size)⟩

end Go.Proofs.Ytenccpccpjjkmaa

namespace Go.Proofs.Ytenccpccpjjkmaa

open Go.RowKit

set_option linter.unusedVariables false

end Go.Proofs.Ytenccpccpjjkmaa
