/-
  Laid together for a hand-in: Book, Byteq, BookA, Hex, Note.
-/
import Derived.Test.YtihmddpafbackaaGreatZ05
import Derived.Laws.BytesArg
import Derived.Outline
import Derived.Laws.LoneSync
import Derived.Carry
import Derived.Stop.BytesEq
import Derived.Lib.SlBytesConst
import Derived.Deep.RegionHeld3
import Derived.Deep.RegionWith
import Derived.Deep.AppendLies
import Derived.Deep.DeepCutAuto

namespace Go.Proofs.YtihmddpafbackaaGreat

open Go.RowKit Go.Maps

set_option linter.unusedVariables false

/-- Of the old blocks only such of 'S' are not as they were. -/
structure Out (S : Nat → Prop) (w w' : World) : Prop where
  os : w'.os = w.os
  tape : w'.tape = w.tape
  output : w'.output = w.output
  size : w.heap.size ≤ w'.heap.size
  block : ∀ i, i < w.heap.size → ¬ S i → w'.heap[i]? = w.heap[i]?

section

variable {S S' : Nat → Prop} {a b c w w' : World}

theorem Out.refl (S : Nat → Prop) (w : World) : Out S w w := ⟨rfl, rfl, rfl, Nat.le_refl _, fun _ _ _ => rfl⟩

theorem Out.trans (h : Out S a b) (k : Out S' b c) (hs : ∀ i, i < a.heap.size → S' i → S i) : Out S a c :=
  ⟨k.os.trans h.os, k.tape.trans h.tape, k.output.trans h.output, Nat.le_trans h.size k.size, fun i hi hn => (k.block i (Nat.lt_of_lt_of_le hi h.size) fun e => hn (hs i hi e)).trans (h.block i hi hn)⟩

theorem Out.ofBelow (S : Nat → Prop) (h : Below w.heap.size w w') : Out S w w' := ⟨h.os, h.tape, h.output, h.size, fun i hi _ => h.block i hi⟩

theorem Out.then_below (h : Out S a b) (k : Below b.heap.size b c) : Out S a c := h.trans (Out.ofBelow S k) fun _ _ e => e

theorem Out.then_grown (h : Out S a b) {row : Option Nat} (k : b.grownBy c row) (hr : ∀ i, row = some i → i < a.heap.size → S i) : Out S a c :=
  ⟨k.os.trans h.os, k.tape.trans h.tape, k.output.trans h.output, Nat.le_trans h.size k.size, fun i hi hn => (k.block i (Nat.lt_of_lt_of_le hi h.size) fun e => hn (hr i e.symm hi)).trans (h.block i hi hn)⟩

theorem Out.setCell (h : Out S a w) {p : Addr} (hp : p.block < a.heap.size → S p.block) (u : Value) : Out S a (w.setCell p u) := by
  refine ⟨h.os, h.tape, h.output, by simpa [World.setCell] using h.size, fun i hi hn => ?_⟩
  refine (Below.heap_setCell w p u i ?_).trans (h.block i hi hn)
  rintro rfl
  exact hn (hp hi)

theorem Out.drewN (h : Out S a w) (n : Nat) : Out S a (w.drewN n) := ⟨h.os, h.tape, h.output, h.size, h.block⟩

theorem Out.above {B : Nat} (h : Out S w w') (hS : ∀ i, S i → B ≤ i) (hB : B ≤ w.heap.size) : Below B w w' :=
  ⟨h.os, h.tape, h.output, h.size, fun i hi => h.block i (by omega) fun e => by have := hS i e; omega⟩

theorem Out.blk {g : Nat} {t : TypeId} {l : List Value} (h : Out S w w') (hb : Blk w g t l) (hn : ¬ S g) : Blk w' g t l := (h.block g hb.lt hn).trans hb

end

/-! ### Rows that stay -/

theorem row_stay {w w' : World} {base : Nat} {e : TypeId} {size n : Nat} {v : Value} {xs : List Value} (h : w.ownsRow base e size v n xs)
    (hk : ∀ b cs, v.ownBlock = some b → w.heap[b]? = some (.cells cs e (0, 0)) → w'.heap[b]? = w.heap[b]?) : w'.ownsRow base e size v n xs := by
  obtain ⟨h1, h2 | ⟨g, cap, cur, rfl, hb, hg, h3⟩⟩ := h
  · exact ⟨h1, .inl h2⟩
  · exact ⟨h1, .inr ⟨g, cap, cur, rfl, hb, (hk g cur rfl hg).trans hg, h3⟩⟩

theorem row_block {w : World} {base : Nat} {e : TypeId} {size n : Nat} {v : Value} {xs : List Value} (h : w.ownsRow base e size v n xs) {b : Nat} (hb : v.ownBlock = some b) : ∃ cs, w.heap[b]? = some (.cells cs e (0, 0)) := by
  obtain ⟨h1, ⟨rfl, _⟩ | ⟨g, cap, cur, rfl, _, hg, _⟩⟩ := h
  · simp [Value.ownBlock] at hb
  · simp [Value.ownBlock] at hb; subst hb; exact ⟨cur, hg⟩

theorem row_base {w : World} {base base' : Nat} {e : TypeId} {size n : Nat} {v : Value} {xs : List Value} (h : w.ownsRow base e size v n xs) (hle : base' ≤ base) : w.ownsRow base' e size v n xs := by
  obtain ⟨h1, h2 | ⟨g, cap, cur, rfl, hb, h3⟩⟩ := h
  · exact ⟨h1, .inl h2⟩
  · exact ⟨h1, .inr ⟨g, cap, cur, rfl, Nat.le_trans hle hb, h3⟩⟩

theorem Mine.unique {w : World} {base : Nat} {e : TypeId} {v : Value} {x y : List UInt8} (h : Mine w base e v x) (k : Mine w base e v y) : x = y := by
  obtain ⟨h1, ⟨rfl, hx⟩ | ⟨g, cap, cur, rfl, _, hg, _, _, _, ht⟩⟩ := h
  · obtain ⟨_, ⟨_, hy⟩ | ⟨_, _, _, e1, _⟩⟩ := k
    · rw [List.eq_nil_of_length_eq_zero hx, List.eq_nil_of_length_eq_zero hy]
    · cases e1
  · obtain ⟨_, ⟨e1, _⟩ | ⟨g', cap', cur', e1, _, hg', _, _, _, ht'⟩⟩ := k
    · cases e1
    · injection e1 with e2 e3 e4
      injection e2 with e2
      injection e2 with e2
      subst e2
      rw [hg] at hg'
      injection hg' with e5
      injection e5 with e5
      subst e5
      rw [e3] at ht
      exact cbs_inj (ht.symm.trans ht')

/-! ### What a key's slice shows -/

def Rv (v : Value) : Option (DataW Value × List MemPlace) := some (.held v, [])

def nilS : Value := .slice none 0 0

def grp (d : List UInt8) (L : List (List UInt8)) : List (List UInt8) := L.filter fun x => digest x == d

def HeadOf (w : World) (S : Nat → Prop) (h : Value) (x : List UInt8) : Prop := Mine w 0 5 h x ∧ ∀ b, h.ownBlock = some b → S b

def Keeps (w : World) (S : Nat → Prop) (v : Value) (xs : List (List UInt8)) : Prop :=
  ∃ cs, w.ownsRow 0 22 1 v xs.length cs ∧ (∀ b, v.ownBlock = some b → S b) ∧ (xs = [] → v = nilS) ∧ ∀ (j : Nat) (x : List UInt8), xs[j]? = some x → ∃ h, cs[j]? = some h ∧ HeadOf w S h x

section

variable {S S' : Nat → Prop} {w w' : World} {v : Value} {xs : List (List UInt8)}

theorem HeadOf.stay {h : Value} {x : List UInt8} (hd : HeadOf w S h x) (hS : ∀ i, S i → S' i) (hk : ∀ i cs, S i → w.heap[i]? = some (.cells cs 5 (0, 0)) → w'.heap[i]? = w.heap[i]?) : HeadOf w' S' h x :=
  ⟨row_stay hd.1 fun b cs hb hc => hk b cs (hd.2 b hb) hc, fun b hb => hS b (hd.2 b hb)⟩

theorem Keeps.stay (h : Keeps w S v xs) (hS : ∀ i, S i → S' i) (hk : ∀ i cs, S i → w.heap[i]? = some (.cells cs 5 (0, 0)) → w'.heap[i]? = w.heap[i]?)
    (hv : ∀ b cs, v.ownBlock = some b → S b → w.heap[b]? = some (.cells cs 22 (0, 0)) → w'.heap[b]? = w.heap[b]?) : Keeps w' S' v xs := by
  obtain ⟨cs, h1, h2, h3, h4⟩ := h
  refine ⟨cs, row_stay h1 fun b cs hb hc => hv b cs hb (h2 b hb) hc, fun b hb => hS b (h2 b hb), h3, fun j x hx => ?_⟩
  obtain ⟨hd, e, hh⟩ := h4 j x hx
  exact ⟨hd, e, hh.stay hS hk⟩

theorem Keeps.form (h : Keeps w S v xs) : ∃ A c, v = .slice A xs.length c ∧ xs.length ≤ c ∧ c ≤ maxLen := by
  obtain ⟨cs, ⟨_, ⟨rfl, e⟩ | ⟨g, cap, cur, rfl, _, _, h1, h2, _⟩⟩, _⟩ := h
  · exact ⟨none, 0, by rw [e], by omega, by simp [maxLen]⟩
  · exact ⟨_, cap, rfl, h1, h2⟩

/-- Element j, as memory has it. -/
theorem Keeps.at_ (h : Keeps w S v xs) {j : Nat} (hj : j < xs.length) : ∃ b A c c', v = .slice (some ⟨b, 0, none⟩) xs.length c' ∧ w.cell? ⟨b, j, none⟩ = some (.slice A xs[j].length c) ∧ xs[j].length ≤ c ∧ c ≤ maxLen ∧ Bs w A xs[j] := by
  obtain ⟨cs, h1, h2, h3, h4⟩ := h
  obtain ⟨hd, e, hh⟩ := h4 j _ (List.getElem?_eq_getElem hj)
  obtain ⟨A, c, rfl, a1, a2, a3⟩ := Mine.form hh.1
  have hb : ∃ b c', v = .slice (some ⟨b, 0, none⟩) xs.length c' := by
    rcases h1.2 with ⟨_, e0⟩ | ⟨g, cap, cur, rfl, _⟩
    · omega
    · exact ⟨g, cap, rfl⟩
  obtain ⟨b, c', hb⟩ := hb
  have := h1.cells (g := b) (by rw [hb]; rfl) j _ e
  rw [add_mk, Nat.zero_add] at this
  exact ⟨b, A, c, c', hb, this, a1, a2, a3⟩

/-- Two slices in one row begin alike. -/
theorem Keeps.apart {v' : Value} {ys : List (List UInt8)} (h : Keeps w S v xs) (k : Keeps w S' v' ys) {b : Nat} (hb : v.ownBlock = some b) (hb' : v'.ownBlock = some b) (hx : xs ≠ []) (hy : ys ≠ []) : ∃ x, x ∈ xs ∧ x ∈ ys := by
  obtain ⟨cs, h1, _, _, h4⟩ := h
  obtain ⟨cs', k1, _, _, k4⟩ := k
  cases xs with
  | nil => exact absurd rfl hx
  | cons x xs =>
    cases ys with
    | nil => exact absurd rfl hy
    | cons y ys =>
      obtain ⟨hd, e, hh⟩ := h4 0 x rfl
      obtain ⟨hd', e', hh'⟩ := k4 0 y rfl
      have a1 := h1.cells hb 0 _ e
      have a2 := k1.cells hb' 0 _ e'
      rw [a1] at a2
      injection a2 with a2
      subst a2
      exact ⟨x, by simp, by rw [hh.1.unique hh'.1]; simp⟩

theorem Keeps.nil (w : World) (S : Nat → Prop) : Keeps w S nilS [] := ⟨[], World.ownsRow_nil _ _ _ _, fun b hb => by simp [nilS, Value.ownBlock] at hb, fun _ => rfl, fun j x hx => by simp at hx⟩

end

/-! ### The map -/

def Store (w : World) (S : Nat → Prop) (m : Nat) (L : List (List UInt8)) : Prop :=
  S m ∧ (∀ i, S i → i < w.heap.size) ∧ ∃ D : DataW Value, w.ownsMap Tryz.prog 32 Rv m L.length D ∧
    ∀ d kl, d.length = 32 → keyOf Tryz.prog 32 (.agg (cbs d).toArray) = some kl → ∃ v, D.atKey kl (.held nilS) = .held v ∧ Keeps w S v (grp d L)

theorem map_stay {w w' : World} {m n : Nat} {D : DataW Value} (h : w.ownsMap Tryz.prog 32 Rv m n D) (hk : w'.heap[m]? = w.heap[m]?) : w'.ownsMap Tryz.prog 32 Rv m n D := by
  obtain ⟨es, clock, h1, h2⟩ := h
  exact ⟨es, clock, hk.trans h1, h2⟩

theorem map_block {w : World} {m n : Nat} {D : DataW Value} (h : w.ownsMap Tryz.prog 32 Rv m n D) : ∃ es clock, w.heap[m]? = some (.map es clock) := by
  obtain ⟨es, clock, h1, _⟩ := h
  exact ⟨es, clock, h1⟩

section

variable {S S' : Nat → Prop} {w w' : World} {m : Nat} {L : List (List UInt8)}

theorem Store.stay (h : Store w S m L) (hz : w.heap.size ≤ w'.heap.size) (hk : ∀ i o, S i → w.heap[i]? = some o → (∀ cs fr, o ≠ .cells cs 60 fr) → w'.heap[i]? = some o) : Store w' S m L := by
  obtain ⟨h1, h2, D, h3, h4⟩ := h
  obtain ⟨es, clock, hm⟩ := map_block h3
  refine ⟨h1, fun i hi => Nat.lt_of_lt_of_le (h2 i hi) hz, D, map_stay h3 ((hk m _ h1 hm (fun cs fr e => by cases e)).trans hm.symm), fun d kl hd hkl => ?_⟩
  obtain ⟨v, e, hv⟩ := h4 d kl hd hkl
  exact ⟨v, e, hv.stay (fun _ hi => hi) (fun i cs hi hc => (hk i _ hi hc (fun cs' fr e => by injection e with _ e; cases e)).trans hc.symm)
    (fun b cs _ hb hc => (hk b _ hb hc (fun cs' fr e => by injection e with _ e; cases e)).trans hc.symm)⟩

theorem Store.look (h : Store w S m L) (d : List UInt8) (hd : d.length = 32) :
    ∃ v, (Instr.lookup 53 (.map (some m)) (.agg (cbs d).toArray) false).run Tryz.prog w = .ok v w ∧ Keeps w S v (grp d L) := by
  obtain ⟨kl, hkl⟩ := key_digest d hd
  obtain ⟨h1, h2, D, h3, h4⟩ := h
  obtain ⟨v, e, hv⟩ := h4 d kl hd hkl
  obtain ⟨v', ps, hrun, hR⟩ := h3.lookup keyed_digest Tryz.underlying53 (Tryz.zeroValue61 w) (zd := .held nilS) (zp := []) rfl hkl
  rw [e] at hR
  simp [Rv] at hR
  obtain ⟨rfl, _⟩ := hR
  exact ⟨v', hrun, hv⟩

theorem new_store (w : World) : Store (w.alloc (.map #[] 0)) (fun i => i = w.heap.size) w.heap.size [] :=
  ⟨rfl, fun i hi => by subst hi; simp, .map [], World.ownsMap_made w _ _ _, fun d kl hd hkl => ⟨nilS, rfl, Keeps.nil _ _⟩⟩

/-- What a store at a digest makes of the map: 'v' stood there, 'v'' is v with a new slice that shows x behind it. -/
theorem Store.put {w1 w2 : World} (h : Store w S m L) (hn : L.length < 1000000) (x : List UInt8) (v : Value) (cs : List Value)
    (hcs : w.ownsRow 0 22 1 v (grp (digest x) L).length cs) (hold : Keeps w S v (grp (digest x) L)) (hb1 : Below w.heap.size w w1) (hd : Value) (hhd : Mine w1 w.heap.size 5 hd x)
    (v' : Value) (hg : w1.grownBy w2 v.ownBlock) (hrow : w2.ownsRow 0 22 1 v' ((grp (digest x) L).length + 1) (cs ++ [hd])) (hloc : v'.ownBlock = v.ownBlock ∨ v'.ownBlock = some w1.heap.size) :
    ∃ w3, (Instr.mapUpdate 53 (.map (some m)) (.agg (cbs (digest x)).toArray) v').run Tryz.prog w2 = .ok () w3 ∧ w2.grownBy w3 (some m) ∧
      Store w3 (fun i => S i ∨ w.heap.size ≤ i ∧ i < w3.heap.size) m (L ++ [x]) := by
  have hdl : (digest x).length = 32 := by rw [digest_last]; rfl
  obtain ⟨kl, hkl⟩ := key_digest (digest x) hdl
  obtain ⟨h1, h2, D, h3, h4⟩ := h
  obtain ⟨es, clock, hm⟩ := map_block h3
  -- what stands in w2 of the old blocks
  have hrow' : ∀ i, v.ownBlock = some i → ∃ c, w.heap[i]? = some (.cells c 22 (0, 0)) := fun i hi => row_block hcs hi
  have st2 : ∀ i, S i → v.ownBlock ≠ some i → w2.heap[i]? = w.heap[i]? := fun i hi hne =>
    (hg.block i (Nat.lt_of_lt_of_le (h2 i hi) hb1.size) (fun e => hne e.symm)).trans (hb1.block i (h2 i hi))
  have hm2 : w2.heap[m]? = w.heap[m]? := st2 m h1 (fun e => by obtain ⟨c, hc⟩ := hrow' m e; rw [hm] at hc; cases hc)
  have h32 := map_stay h3 hm2
  obtain ⟨w3, hrun, hput, hg3⟩ := h32.update keyed_digest Tryz.underlying53 (by unfold maxLen; omega) (val := v') (d := .held v') (ps := []) hkl rfl
  have hsz : w.heap.size ≤ w3.heap.size := Nat.le_trans hb1.size (Nat.le_trans hg.size hg3.size)
  have st3 : ∀ i, i < w2.heap.size → i ≠ m → w3.heap[i]? = w2.heap[i]? := fun i hi hne => hg3.block i hi (fun e => hne (Option.some.inj e))
  have old3 : ∀ i, S i → i ≠ m → v.ownBlock ≠ some i → w3.heap[i]? = w.heap[i]? := fun i hi h5 h6 =>
    (st3 i (Nat.lt_of_lt_of_le (h2 i hi) (Nat.le_trans hb1.size hg.size)) h5).trans (st2 i hi h6)
  have byte3 : ∀ i c, S i → w.heap[i]? = some (.cells c 5 (0, 0)) → w3.heap[i]? = w.heap[i]? := fun i c hi hc => by
    refine old3 i hi ?_ ?_
    · rintro rfl; rw [hm] at hc; cases hc
    · intro e
      obtain ⟨c', hc'⟩ := hrow' i e
      rw [hc] at hc'
      injection hc' with e1
      injection e1 with _ e1
      cases e1
  have hD : IsMap D := by obtain ⟨_, _, _, _, _, e⟩ := h3; exact ⟨_, e⟩
  refine ⟨w3, hrun, hg3, .inl h1, fun i hi => ?_, D.put kl (.held v'), ?_, fun d kl' hdl' hkl' => ?_⟩
  · rcases hi with hi | hi
    · exact Nat.lt_of_lt_of_le (h2 i hi) hsz
    · exact hi.2
  · rw [List.length_append]; exact hput
  · by_cases hdd : d = digest x
    · subst hdd
      obtain rfl : kl' = kl := Option.some.inj (hkl'.symm.trans hkl)
      refine ⟨v', atKey_put_same hD (keyed_digest.key hkl) _ _, ?_⟩
      have e1 : grp (digest x) (L ++ [x]) = grp (digest x) L ++ [x] := by unfold grp; rw [List.filter_append]; simp
      rw [e1]
      have hrow3 : w3.ownsRow 0 22 1 v' ((grp (digest x) L).length + 1) (cs ++ [hd]) := row_stay hrow fun b c hb hc => st3 b (by
        rcases Nat.lt_or_ge b w2.heap.size with h | h
        · exact h
        · rw [Array.getElem?_eq_none h] at hc; cases hc) (by rintro rfl; rw [hm2, hm] at hc; cases hc)
      refine ⟨cs ++ [hd], by rw [List.length_append]; exact hrow3, fun b hb => ?_, fun e => by simp at e, fun j y hy => ?_⟩
      · rcases hloc with e | e
        · obtain ⟨_, _, k2, _⟩ := hold
          exact .inl (k2 b (e ▸ hb))
        · rw [e] at hb
          injection hb with hb
          subst hb
          have := (hrow3.lt _ e).2
          exact .inr ⟨hb1.size, this⟩
      · by_cases hj : j < (grp (digest x) L).length
        · rw [List.getElem?_append_left hj] at hy
          obtain ⟨cs0, k1, _, _, k4⟩ := hold
          obtain ⟨hh, e, hhd0⟩ := k4 j y hy
          have hcl : cs.length = (grp (digest x) L).length := by have := hcs.1; omega
          refine ⟨hh, ?_, hhd0.stay (fun i hi => .inl hi) byte3⟩
          rw [List.getElem?_append_left (by omega)]
          have hne : ∃ b, v.ownBlock = some b := by
            rcases hcs.2 with ⟨_, e0⟩ | ⟨g, cap, cur, rfl, _⟩
            · omega
            · exact ⟨g, rfl⟩
          obtain ⟨b, hb⟩ := hne
          have a1 := k1.cells hb j _ e
          have hjl : j < cs.length := by omega
          have a2 := hcs.cells hb j _ (List.getElem?_eq_getElem hjl)
          rw [List.getElem?_eq_getElem hjl, Option.some.inj (a2.symm.trans a1)]
        · have hcl : cs.length = (grp (digest x) L).length := by have := hcs.1; omega
          rw [List.getElem?_append_right (by omega)] at hy
          have hj0 : j - (grp (digest x) L).length = 0 := by
            rcases Nat.eq_zero_or_pos (j - (grp (digest x) L).length) with h | h
            · exact h
            · rw [List.getElem?_eq_none (by simp; omega)] at hy; cases hy
          rw [hj0] at hy
          injection hy with hy
          subst hy
          refine ⟨hd, ?_, ?_, fun b hb => ?_⟩
          · rw [List.getElem?_append_right (by omega), hcl, hj0]; rfl
          · have hm1 : Mine w1 0 5 hd x := row_base hhd (Nat.zero_le _)
            refine row_stay hm1 fun b c hb hc => ?_
            have hlt := (World.ownsRow.lt hhd b hb).2
            have hge := (World.ownsRow.lt hhd b hb).1
            have hbm : b ≠ m := by have := h2 m h1; omega
            have hbv : some b ≠ v.ownBlock := fun e => by have := (hcs.lt b e.symm).2; omega
            exact (st3 b (Nat.lt_of_lt_of_le hlt hg.size) hbm).trans (hg.block b hlt hbv)
          · have hlt := World.ownsRow.lt hhd b hb
            exact .inr ⟨hlt.1, Nat.lt_of_lt_of_le hlt.2 (Nat.le_trans hg.size hg3.size)⟩
    · obtain ⟨u, eu, hu⟩ := h4 d kl' hdl' hkl'
      have hkn : kl' ≠ kl := key_inj hkl hkl' hdd
      refine ⟨u, by rw [atKey_put_other hkn]; exact eu, ?_⟩
      have e1 : grp d (L ++ [x]) = grp d L := by
        unfold grp; rw [List.filter_append]
        have : (digest x == d) = false := beq_eq_false_iff_ne.2 fun e => hdd e.symm
        rw [List.filter_cons_of_neg (by rw [this]; decide), List.filter_nil, List.append_nil]
      rw [e1]
      refine hu.stay (fun i hi => .inl hi) byte3 fun b c hb hSb hc => old3 b hSb (by rintro rfl; rw [hm] at hc; cases hc) fun e => ?_
      have hx0 : grp (digest x) L ≠ [] := fun e0 => by
        obtain ⟨_, _, _, k3, _⟩ := hold
        rw [k3 e0] at e; simp [nilS, Value.ownBlock] at e
      have hy0 : grp d L ≠ [] := fun e0 => by
        obtain ⟨_, _, _, k3, _⟩ := hu
        rw [k3 e0] at hb; simp [nilS, Value.ownBlock] at hb
      obtain ⟨y, hy1, hy2⟩ := hold.apart hu e hb hx0 hy0
      unfold grp at hy1 hy2
      rw [List.mem_filter] at hy1 hy2
      have a1 := beq_iff_eq.1 hy1.2
      have a2 := beq_iff_eq.1 hy2.2
      exact hdd (a2.symm.trans a1)

end

end Go.Proofs.YtihmddpafbackaaGreat

namespace Go.Proofs.YtihmddpafbackaaGreat

open Go.RowKit

set_option linter.unusedVariables false

def strOf (l : List UInt8) : ByteArray := ⟨l.toArray⟩

theorem strOf_eq (l m : List UInt8) : ((strOf l).toList == (strOf m).toList) = (l == m) := by
  rw [ByteArray.toList_eq, ByteArray.toList_eq]
  rfl

theorem back_bytes : ∀ l : List UInt8, (l.map fun b => (b.toNat : Int)).map (fun n => UInt8.ofNat n.toNat) = l
  | [] => rfl
  | x :: l => by rw [List.map_cons, List.map_cons, back_bytes l]; simp

theorem strOf_nums (l : List UInt8) : strOfNums (l.map fun b => (b.toNat : Int)) = strOf l := by
  unfold strOfNums strOf
  rw [back_bytes]

theorem conv_bytes (A : Option Addr) (c n : Nat) (l : List UInt8) (w : World) (h : Bs w A l) (hn : l.length = n) :
    (convert 22 9 (.slice A n c)).run Tryz.prog w = .ok (.string (strOf l)) w := by
  subst hn
  cases l with
  | nil =>
    rw [run_convert_bytes_string w 22 9 5 _ _ c Tryz.underlying22 Tryz.underlying5 Tryz.underlying9]
    cases A <;> simp [Conv.bytesToString, loadCells]
    all_goals rfl
  | cons x t =>
    obtain ⟨b, o, rfl, _, hc⟩ := h.at_ (i := 0) (by simp)
    have := run_convert_bytes_arg (P := Tryz.prog) w 22 5 Tryz.underlying22 Tryz.underlying5 b o (x :: t).length c ((x :: t).map fun b => (b.toNat : Int)) (by simp)
      (fun i hi => by rw [hc i hi]; congr 2; rw [List.getD_eq_getElem?_getD, List.getElem?_map, List.getElem?_eq_getElem hi]; rfl) 9 Tryz.underlying9
    rw [this, strOf_nums]

set_option maxHeartbeats 400000 in
theorem bequal_any (A A' : Option Addr) (c c' n m : Nat) (xs ys : List UInt8) (w : World) (hA : Bs w A xs) (hB : Bs w A' ys) (hn : xs.length = n) (hm : ys.length = m) :
    Calls Tryz.prog 37 #[.slice A n c, .slice A' m c'] w fun e w' => e = .returned (.bool (xs == ys)) ∧ w' = w := by
  have h1 := conv_bytes A c n xs w hA hn
  have h2 := conv_bytes A' c' m ys w hB hm
  have H := Lib.hid (strOf_eq xs ys)
  clear hA hB hn hm
  generalize strOf xs = s at *
  generalize strOf ys = t at *
  go_enter Tryz.func37, Tryz.ntmps37
  go_wp2
  go_ret
  exact ⟨congrArg (fun b => Ending.returned (.bool b)) H.out, rfl⟩

end Go.Proofs.YtihmddpafbackaaGreat

namespace Go.Proofs.YtihmddpafbackaaGreat

open Go.RowKit Go.Maps

set_option linter.unusedVariables false

def bcells (m : Nat) (many : Nat) (c : Bool) (n : Nat) : List Value := [.map (some m), .int .i64 (many : Int), .bool c, .int .i64 (n : Int)]

/-- A book in memory: the inputs in order, whether there is a clash, how often it was asked; 'S': its blocks. -/
def BookAt (w : World) (S : Nat → Prop) (g : Nat) (L : List (List UInt8)) (c : Bool) (n : Nat) : Prop :=
  ∃ m, Blk w g 60 (bcells m L.length c n) ∧ S g ∧ Store w S m L

theorem eqlSomeMap (bm : Nat) (w : World) : (binOp .eql 53 (.map (some bm)) (.map none)).run Tryz.prog w = .ok (.bool false) w := by kernel_rfl

set_option maxRecDepth 100000 in
theorem bnone_any (g m many n : Nat) (c : Bool) (w : World) (h : Blk w g 60 (bcells m many c n)) : Calls Tryz.prog 33 #[.pointer (some ⟨g, 0, none⟩)] w fun e w' => e = .returned (.bool false) ∧ w' = w := by
  have c0 : w.cell? ⟨g, 0, none⟩ = some (.map (some m)) := h.cell rfl
  clear h
  have heq := eqlSomeMap
  go_enter Tryz.func33, Tryz.ntmps33
  go_wp2
  go_ret
  exact ⟨rfl, rfl⟩

theorem blen_any (g m many n : Nat) (c : Bool) (w : World) (h : Blk w g 60 (bcells m many c n)) : Calls Tryz.prog 13 #[.pointer (some ⟨g, 0, none⟩)] w fun e w' => e = .returned (.int .i64 (many : Int)) ∧ w' = w := by
  have c1 : w.cell? ⟨g, 1, none⟩ = some (.int .i64 (many : Int)) := h.cell rfl
  have Hno := Lib.hid (bnone_any g m many n c w h)
  clear h
  go_enter Tryz.func13, Tryz.ntmps13
  go_wp2_with (go_at_call 33; refine Hno.out.mono ?_; rintro e w' ⟨rfl, rfl⟩)
  go_ret
  exact ⟨rfl, rfl⟩

set_option maxRecDepth 100000 in
theorem bload_any (g : Nat) (n : Int) (w : World) (h : w.cell? ⟨g, 3, none⟩ = some (.int .i64 n)) : Calls Tryz.prog 34 #[.pointer (some ⟨g, 3, none⟩)] w fun e w' => e = .returned (.int .i64 n) ∧ w' = w := by
  have hl := run_call_load (P := Tryz.prog) Tryz.func59 (by kernel_rfl) (by kernel_rfl) (by kernel_rfl) .i64 (by kernel_rfl) h
  go_enter Tryz.func34, Tryz.ntmps34
  go_wp2
  go_ret
  exact ⟨rfl, rfl⟩

set_option maxRecDepth 100000 in
theorem badd_any (g : Nat) (n : Nat) (hn : n < 1000000000) (w : World) (h : w.cell? ⟨g, 3, none⟩ = some (.int .i64 (n : Int))) (hz : w.frozen? ⟨g, 3, none⟩ = false) : Calls Tryz.prog 53 #[.pointer (some ⟨g, 3, none⟩), .int .i64 1] w fun e w' => e = .returned (.int .i64 ((n + 1 : Nat) : Int)) ∧ w' = w.setCell ⟨g, 3, none⟩ (.int .i64 ((n + 1 : Nat) : Int)) := by
  have hadd := run_call_add (P := Tryz.prog) Tryz.func77 (by kernel_rfl) (by kernel_rfl) (by kernel_rfl) .i64 (by kernel_rfl) (y := 1) (s := ((n + 1 : Nat) : Int)) h hz (by have := IntWalk.i64_in ((n : Int) + 1) (by omega); unfold Op.intArith; simp [this])
  go_enter Tryz.func53, Tryz.ntmps53
  go_wp2
  go_ret
  exact ⟨rfl, rfl⟩

theorem bclash_any (g m many n : Nat) (c : Bool) (w : World) (h : Blk w g 60 (bcells m many c n)) : Calls Tryz.prog 18 #[.pointer (some ⟨g, 0, none⟩)] w fun e w' => e = .returned (.bool c) ∧ w' = w := by
  have c1 : w.cell? ⟨g, 2, none⟩ = some (.bool c) := h.cell rfl
  have hnot : ∀ (x : Bool) (w : World), (Op.unary .not (.bool x)).run Tryz.prog w = .ok (.bool (!x)) w := fun _ _ => rfl
  have Hno := Lib.hid (bnone_any g m many n c w h)
  clear h
  go_enter Tryz.func18, Tryz.ntmps18
  go_wp2_with (go_at_call 33; refine Hno.out.mono ?_; rintro e w' ⟨rfl, rfl⟩)
  go_ret
  exact ⟨rfl, rfl⟩

theorem Store.more {S S' : Nat → Prop} {w : World} {m : Nat} {L : List (List UInt8)} (h : Store w S m L) (hS : ∀ i, S i → S' i) (hb : ∀ i, S' i → i < w.heap.size) : Store w S' m L := by
  obtain ⟨h1, h2, D, h3, h4⟩ := h
  refine ⟨hS m h1, hb, D, h3, fun d kl hd hkl => ?_⟩
  obtain ⟨v, e, hv⟩ := h4 d kl hd hkl
  exact ⟨v, e, hv.stay hS (fun _ _ _ _ => rfl) (fun _ _ _ _ _ => rfl)⟩

theorem bnew_any (w : World) : Calls Tryz.prog 7 #[] w fun e w' => ∃ S g, e = .returned (.pointer (some ⟨g, 0, none⟩)) ∧ (∀ i, S i → w.heap.size ≤ i) ∧ BookAt w' S g [] false 0 ∧ Below w.heap.size w w' := by
  have hmm := @run_makeMap Tryz.prog
  go_enter Tryz.func7, Tryz.ntmps7
  go_wp2
  go_ret
  have hst := new_store w
  have hs2 : Store ((w.alloc (.map #[] 0)).alloc (.cells (bcells w.heap.size 0 false 0).toArray 60)) (fun i => i = w.heap.size ∨ i = w.heap.size + 1) w.heap.size [] :=
    (Store.stay hst (by simp) fun i o hi ho _ => (heap_alloc_old _ _ (by have hi' : i = w.heap.size := hi; subst hi'; simp)).trans ho).more (fun i hi => .inl hi) fun i hi => by simp; omega
  have hblk : Blk ((w.alloc (.map #[] 0)).alloc (.cells (bcells w.heap.size 0 false 0).toArray 60)) (w.heap.size + 1) 60 (bcells w.heap.size 0 false 0) := Blk.new rfl (by simp)
  exact ⟨fun i => i = w.heap.size ∨ i = w.heap.size + 1, w.heap.size + 1, rfl, fun i hi => by omega, ⟨w.heap.size, hblk, .inr rfl, hs2⟩,
    ((Below.refl _ _).alloc (Nat.le_refl _) _).alloc (by simp) _⟩

end Go.Proofs.YtihmddpafbackaaGreat

namespace Go.Proofs.YtihmddpafbackaaGreat

open Go.RowKit

set_option linter.unusedVariables false

theorem eq_digests (w : World) (l m : List UInt8) (hl : l.length = 32) (hm : m.length = 32) :
    (Op.equalIn 10000 32 (.agg (cbs l).toArray) (.agg (cbs m).toArray)).run Tryz.prog w = .ok (l == m) w :=
  run_equalIn_bytes w 9998 32 5 32 Tryz.underlying32 Tryz.underlying5 (fun w => by kernel_rfl) l m hl hm

theorem dlen (l : List UInt8) : (digest l).length = 32 := by rw [digest_last]; rfl

theorem eq_same (D : List Value) (l : List UInt8) (h : D = cbs (digest l)) (w : World) : (Op.equalIn 10000 32 (.agg D.toArray) (.agg D.toArray)).run Tryz.prog w = .ok true w := by
  subst h
  rw [eq_digests w _ _ (dlen l) (dlen l)]
  simp

def nib (c : UInt8) : UInt8 := if 65 ≤ c.toNat then c - 65 + 10 else c - 48

def hx (l : List UInt8) : Nat → List UInt8
  | 0 => List.replicate 32 0
  | k + 1 => (hx l k).set (k / 2) ((hx l k).getD (k / 2) 0 * 16 + nib (l.getD k 0))

theorem hx_len (l : List UInt8) (k : Nat) : (hx l k).length = 32 := by
  induction k with
  | zero => exact List.length_replicate
  | succ k ih => rw [hx, List.length_set]; exact ih

theorem cb_nib1 (o c : UInt8) (h : 65 ≤ c.toNat) : Value.int .u8 (((o.toNat : Int) * 16 + ((c.toNat : Int) - 65 + 10)) % 256) = cb (o * 16 + nib c) := by
  have h1 := o.toNat_lt
  have h2 := c.toNat_lt
  have e16 : (16 : UInt8).toNat = 16 := rfl
  have e65 : (65 : UInt8).toNat = 65 := rfl
  have e10 : (10 : UInt8).toNat = 10 := rfl
  unfold cb nib
  rw [if_pos h, UInt8.toNat_add, UInt8.toNat_mul, UInt8.toNat_add, UInt8.toNat_sub, e16, e65, e10]
  congr 1
  omega

theorem cb_nib2 (o c : UInt8) (h : ¬ 65 ≤ c.toNat) : Value.int .u8 (((o.toNat : Int) * 16 + ((c.toNat : Int) - 48)) % 256) = cb (o * 16 + nib c) := by
  have h1 := o.toNat_lt
  have h2 := c.toNat_lt
  have e16 : (16 : UInt8).toNat = 16 := rfl
  have e48 : (48 : UInt8).toNat = 48 := rfl
  unfold cb nib
  rw [if_neg h, UInt8.toNat_add, UInt8.toNat_mul, UInt8.toNat_sub, e16, e48]
  congr 1
  omega

def abcS : ByteArray := { data := #[66, 65, 55, 56, 49, 54, 66, 70, 56, 70, 48, 49, 67, 70, 69, 65, 52, 49, 52, 49, 52, 48, 68, 69, 53, 68, 65, 69, 50, 50, 50, 51, 66, 48, 48, 51, 54, 49, 65, 51, 57, 54, 49, 55, 55, 65, 57, 67, 66, 52, 49, 48, 70, 70, 54, 49, 70, 50, 48, 48, 49, 53, 65, 68] }

theorem abc_hex : hx abcS.data.toList 64 = digest [97, 98, 99] := by
  rw [dig_abc]; decide +kernel

theorem Bs.made (w : World) (t : TypeId) (vs : Array Value) (fr : Nat × Nat) (l : List UInt8) (h : vs.toList = cbs l) : Bs (w.alloc (.cells vs t fr)) (some ⟨w.heap.size, 0, none⟩) l := by
  refine ⟨by rw [cbs_length]; simp, fun _ => ⟨w.heap.size, 0, rfl, by simp, fun j u hu => ?_⟩⟩
  rw [Nat.zero_add, cell_of_row _ _ j vs t fr (heap_alloc_new w _)]
  rw [← h] at hu
  simpa using hu

end Go.Proofs.YtihmddpafbackaaGreat

namespace Go.Proofs.YtihmddpafbackaaGreat

open Go.RowKit Go.Maps

set_option linter.unusedVariables false

/-- What stands while a digest's inputs are looked through. -/
def Half (w : World) (S : Nat → Prop) (g m : Nat) (L : List (List UInt8)) (c : Bool) (k : Nat) (v : Value) (A : Option Addr) (x : List UInt8) (D : List Value) (wr : World) : Prop :=
  Blk wr g 60 (bcells m L.length c k) ∧ Store wr S m L ∧ Keeps wr S v (grp (digest x) L) ∧ Bs wr A x ∧ Blk wr w.heap.size 32 D ∧ Below w.heap.size w wr

theorem Keeps.below {S : Nat → Prop} {w w' : World} {v : Value} {xs : List (List UInt8)} (h : Keeps w S v xs) (hS : ∀ i, S i → i < w.heap.size) (hb : Below w.heap.size w w') : Keeps w' S v xs :=
  h.stay (fun _ hi => hi) (fun i cs hi _ => hb.block i (hS i hi)) (fun b cs _ hi _ => hb.block b (hS b hi))

theorem Store.below {S : Nat → Prop} {w w' : World} {m : Nat} {L : List (List UInt8)} (h : Store w S m L) (hb : Below w.heap.size w w') : Store w' S m L :=
  h.stay hb.size fun i o hi ho _ => (hb.block i (h.2.1 i hi)).trans ho

/-- The book's inputs, and whether there is a clash, once x is noted. -/
def noteL (L : List (List UInt8)) (c : Bool) (x : List UInt8) : List (List UInt8) × Bool :=
  if x ∈ L then (L, c) else (L ++ [x], c || decide (grp (digest x) L ≠ []) || digest x == List.replicate 32 0)

theorem mem_grp {L : List (List UInt8)} {x : List UInt8} : x ∈ grp (digest x) L ↔ x ∈ L := by
  unfold grp; rw [List.mem_filter]; simp

def Grown (S : Nat → Prop) (w w' : World) (i : Nat) : Prop := S i ∨ w.heap.size ≤ i ∧ i < w'.heap.size

theorem noted_old {w wr : World} {S : Nat → Prop} {g m : Nat} {L : List (List UInt8)} {c : Bool} {k : Nat} {v : Value} {A : Option Addr} {x : List UInt8} {D : List Value}
    (h : Half w S g m L c k v A x D wr) (hS : S g) (hb : ∀ i, S i → i < w.heap.size) (hx : x ∈ L) : BookAt wr (Grown S w wr) g (noteL L c x).1 (noteL L c x).2 k ∧ Out S w wr := by
  obtain ⟨h1, h2, h3, h4, h5, h6⟩ := h
  unfold noteL
  rw [if_pos hx]
  exact ⟨⟨m, h1, .inl hS, h2.more (fun i hi => .inl hi) (fun i hi => by rcases hi with hi | hi; exact h2.2.1 i hi; exact hi.2)⟩, Out.ofBelow S h6⟩

/-- Behind the store in the map. -/
def After (w W : World) (S : Nat → Prop) (g m : Nat) (L : List (List UInt8)) (c : Bool) (k : Nat) (x : List UInt8) (D : List Value) (w3 : World) : Prop :=
  Blk w3 g 60 (bcells m L.length c k) ∧ Blk w3 w.heap.size 32 D ∧ Store w3 (Grown S W w3) m (L ++ [x]) ∧ Out S W w3

theorem note_put {w W wa : World} {S : Nat → Prop} {g m : Nat} {L : List (List UInt8)} {c : Bool} {k : Nat} {v : Value} {A : Option Addr} {x : List UInt8} {D : List Value} (hL : L.length < 1000000)
    (h : Half w S g m L c k v A x D W) (hS : S g) (hb : Below W.heap.size W wa) (hd : Value) (hhd : Mine wa W.heap.size 5 hd x) (hDv : cbs (digest x) = D) :
    ∃ cs, wa.ownsRow 0 22 1 v (grp (digest x) L).length cs ∧ ∀ v' w2, w2.ownsRow 0 22 1 v' ((grp (digest x) L).length + 1) (cs ++ [hd]) → wa.grownBy w2 v.ownBlock → (v'.ownBlock = v.ownBlock ∨ v'.ownBlock = some wa.heap.size) →
      Blk w2 g 60 (bcells m L.length c k) ∧ Blk w2 w.heap.size 32 D ∧
      ∃ w3, (Instr.mapUpdate 53 (.map (some m)) (.agg D.toArray) v').run Tryz.prog w2 = .ok () w3 ∧ After w W S g m L c k x D w3 := by
  obtain ⟨h1, h2, h3, h4, h5, h6⟩ := h
  have h3' := h3
  obtain ⟨cs, k1, k2, _⟩ := h3
  have hcsa : wa.ownsRow 0 22 1 v (grp (digest x) L).length cs := row_stay k1 fun b c hb' hc => hb.block b (by
    rcases Nat.lt_or_ge b W.heap.size with h | h
    · exact h
    · rw [Array.getElem?_eq_none h] at hc; cases hc)
  refine ⟨cs, hcsa, fun v' w2 hrow hgr hloc => ?_⟩
  obtain ⟨w3, r1, r2, r3⟩ := h2.put hL x v cs k1 h3' hb hd hhd v' hgr hrow hloc
  rw [hDv] at r1
  have far : ∀ {b t l}, Blk W b t l → t ≠ 22 → Blk w2 b t l := fun {b t l} hbk ht => by
    refine (hgr.block b (Nat.lt_of_lt_of_le hbk.lt hb.size) fun e => ?_).trans ((hb.block b hbk.lt).trans hbk)
    obtain ⟨c', hc'⟩ := row_block k1 e.symm
    unfold Blk at hbk
    rw [hc'] at hbk
    injection hbk with e1
    injection e1 with _ e1
    exact ht e1.symm
  have g2 := far h1 (by decide)
  have d2 := far h5 (by decide)
  obtain ⟨es, clock, hm⟩ : ∃ es clock, W.heap[m]? = some (.map es clock) := by obtain ⟨_, _, D', h, _⟩ := h2; exact map_block h
  have g3 : Blk w3 g 60 (bcells m L.length c k) := (r2.block g g2.lt fun e => by
    injection e with e
    subst e
    unfold Blk at h1; rw [hm] at h1; cases h1).trans g2
  have d3 : Blk w3 w.heap.size 32 D := (r2.block _ d2.lt fun e => by
    injection e with e
    rw [← e] at hm
    unfold Blk at h5; rw [hm] at h5; cases h5).trans d2
  refine ⟨g2, d2, w3, r1, g3, d3, r3, ?_⟩
  exact (((Out.refl S W).then_below hb).then_grown hgr fun i hi _ => k2 i hi).then_grown r2 fun i hi _ => by injection hi with hi; subst hi; exact h2.1

theorem noted_new {w W w3 w4 : World} {S : Nat → Prop} {g m : Nat} {L : List (List UInt8)} {c : Bool} {k : Nat} {x : List UInt8} {D : List Value} (h : After w W S g m L c k x D w3) (hW : Below w.heap.size w W) (hx : x ∉ L) (hS : S g)
    (h4 : But g w3 w4) (hs : w4.heap.size = w3.heap.size) (hblk : Blk w4 g 60 (bcells m (L.length + 1) (c || decide (grp (digest x) L ≠ []) || digest x == List.replicate 32 0) k)) :
    BookAt w4 (Grown S w w4) g (noteL L c x).1 (noteL L c x).2 k ∧ Out S w w4 := by
  obtain ⟨h1, h2, h3, h5⟩ := h
  unfold noteL
  rw [if_neg hx]
  have hst4 : Store w4 (Grown S W w3) m (L ++ [x]) := h3.stay (by omega) fun i o hi ho hb => by
    refine (h4.block i (h3.2.1 i hi) fun e => ?_).trans ho
    injection e with e
    subst e
    exact hb _ _ (Option.some.inj (ho.symm.trans h1))
  refine ⟨⟨m, by rw [List.length_append]; exact hblk, .inl hS, hst4.more (fun i hi => ?_) (fun i hi => ?_)⟩, ?_⟩
  · rcases hi with hi | hi
    · exact .inl hi
    · exact .inr ⟨Nat.le_trans hW.size hi.1, by omega⟩
  · rcases hi with hi | hi
    · exact hst4.2.1 i (.inl hi)
    · exact hi.2
  · exact (((Out.refl S w).then_below hW).trans h5 fun _ _ e => e).then_grown h4 fun i hi _ => by injection hi with hi; subst hi; exact hS

theorem load_row_g {P : Program} {ops : Array Oper} {rest : List Oper} {o : Oper} {a : Act} {w : World} {Q : Exit → Act → World → Prop} (hw : Region.wanted o (yielded ops a.tmps) = true) (ty : TypeId) (x : Operand) (ho : o.op = .load ty x)
    (g : Nat) (hx : a.eval x = .pointer (some ⟨g, 0, none⟩)) (t : TypeId) (cs : Array Value) (fr : Nat × Nat) (d : TypeDesc) (hg : w.heap[g]? = some (.cells cs t fr))
    (hu : P.underlying ty = some d) (hd : (match d with | .struct _ | .array _ _ => true | _ => false) = true) (hi : (P.info? ty).map (·.size) = some cs.size)
    (h : wpList P ops Q rest (a.put o.dst (.agg cs)) w) : wpList P ops Q (o :: rest) a w :=
  wpList_step fun K hK => by rw [if_pos hw]; exact wp_load_row ty x ho g hx t cs fr d hg hu hd hi (hK _ _ h)

theorem eq_zero32 (D : List Value) (l : List UInt8) (h : cbs (digest l) = D) (w : World) :
    (Op.equalIn 10000 32 (.agg D.toArray) (.agg #[Value.int .u8 0, Value.int .u8 0, Value.int .u8 0, Value.int .u8 0, Value.int .u8 0, Value.int .u8 0, Value.int .u8 0, Value.int .u8 0, Value.int .u8 0, Value.int .u8 0, Value.int .u8 0, Value.int .u8 0, Value.int .u8 0, Value.int .u8 0, Value.int .u8 0, Value.int .u8 0, Value.int .u8 0, Value.int .u8 0, Value.int .u8 0, Value.int .u8 0, Value.int .u8 0, Value.int .u8 0, Value.int .u8 0, Value.int .u8 0, Value.int .u8 0, Value.int .u8 0, Value.int .u8 0, Value.int .u8 0, Value.int .u8 0, Value.int .u8 0, Value.int .u8 0, Value.int .u8 0])).run Tryz.prog w = .ok (digest l == List.replicate 32 0) w := by
  subst h
  exact eq_digests w (digest l) (List.replicate 32 0) (dlen l) rfl

theorem sl_info3 : (Tryz.prog.info? 22).map (fun i => (i.zero, i.size, i.bytes)) = some (some (.slice none 0 0), 1, 24) := by kernel_rfl

set_option maxRecDepth 100000 in
set_option maxHeartbeats 800000 in
theorem note_any (S : Nat → Prop) (g : Nat) (L : List (List UInt8)) (c : Bool) (k : Nat) (A : Option Addr) (n cp : Nat) (x : List UInt8) (w : World) (D : List Value) (hD : cbs (digest x) = D)
    (h : BookAt w S g L c k) (hL : L.length < 1000000) (hB : Bs w A x) (hn : x.length = n) (hc : n ≤ cp) (hcm : cp ≤ maxLen) (hn6 : n ≤ 65536) :
    Calls Tryz.prog 52 #[.pointer (some ⟨g, 0, none⟩), .agg D.toArray, .slice A n cp] w fun e w' => e = .returned (.tuple #[]) ∧ BookAt w' (Grown S w w') g (noteL L c x).1 (noteL L c x).2 k ∧ Out S w w' := by
  obtain ⟨m, hblk, hSg, hst⟩ := h
  have hD32 : D.length = 32 := by rw [← hD, cbs_length, dlen]
  have b0 : Below w.heap.size w ((w.alloc (.cells D.toArray 32)).drew) := ((Below.refl _ _).alloc (Nat.le_refl _) _).drew
  obtain ⟨v, hlook, hkeep⟩ := (hst.below b0).look (digest x) (dlen x)
  rw [hD] at hlook
  obtain ⟨Ar, cr, rfl, hcr, hcrm⟩ := hkeep.form
  have hblk0 : Blk ((w.alloc (.cells D.toArray 32)).drew) g 60 (bcells m L.length c k) := hblk.below b0 hblk.lt
  have c0 : ((w.alloc (.cells D.toArray 32)).drew).cell? ⟨g, 0, none⟩ = some (.map (some m)) := hblk0.cell rfl
  have hdB : Blk ((w.alloc (.cells D.toArray 32)).drew) w.heap.size 32 D := Blk.new rfl rfl
  have hrd : ((w.alloc (.cells D.toArray 32)).drew).rangeAt w.heap.size 0 D := hdB.range
  have hid : (Tryz.prog.info? 32).map (·.size) = some D.length := by rw [hD32]; exact info32b
  have hud := Tryz.underlying32
  have h0 : Half w S g m L c k (.slice Ar (grp (digest x) L).length cr) A x D ((w.alloc (.cells D.toArray 32)).drew) := ⟨hblk0, hst.below b0, hkeep, hB.after b0, hdB, b0⟩
  have H := Lib.hid (And.intro h0 (And.intro hSg (And.intro hst.2.1 (And.intro hn hc))))
  clear hblk hSg hst hkeep hB hn hc h0 hdB hblk0 b0
  have hD := Lib.hid hD
  generalize hN : (grp (digest x) L).length = N at *
  unfold maxLen at hcm hcrm
  go_enter Tryz.func52, Tryz.ntmps52
  go_wp2
  go_region_held3 (fun W' => W'.cell? ⟨g, 0, none⟩ = some (.map (some m)) ∧ W'.rangeAt w.heap.size 0 D) (first | with_reducible exact ⟨c0, hrd⟩) (fail)
  go_wp2
  go_loopw [17] (fun v wr => ∃ j : Nat, j ≤ N ∧ v = .int .i64 j ∧ (∀ y ∈ (grp (digest x) L).take j, y ≠ x) ∧ Half w S g m L c k (.slice Ar N cr) A x D wr) (fun v _ => N - (intOf v).toNat)
  case atStart => exact ⟨0, Nat.zero_le _, rfl, by simp, H.out.1⟩
  case round =>
    obtain ⟨j, hj, rfl, hne, hH⟩ := hrel
    by_cases hlt : j < N
    · obtain ⟨b, Ax, cx, cr', hv, hcell, hlx, hcx, hBx⟩ := hH.2.2.1.at_ (j := j) (by omega)
      rw [hN] at hv
      injection hv with hv1 _ hv3
      subst hv1
      subst hv3
      have hjg : j < (grp (digest x) L).length := by omega
      obtain ⟨y, hy⟩ : ∃ y, y = (grp (digest x) L)[j] := ⟨_, rfl⟩
      rw [← hy] at hcell hlx hBx
      obtain ⟨ny, hny⟩ : ∃ ny, y.length = ny := ⟨_, rfl⟩
      rw [hny] at hcell hlx
      have heq := (bequal_any Ax A cx cp ny n y x _ hBx hH.2.2.2.1 hny H.out.2.2.2.1)
      have hi0 : (0 : Int) ≤ j := by omega
      have hi1 : (j : Int) < N := by omega
      have Hx := Lib.hid (And.intro hy (And.intro hne hH))
      clear hlx hBx hy hne hH
      by_cases he : y = x
      · have hb1 : (y == x) = true := by simpa using he
        rw [hb1] at heq
        have Heq := Lib.hid heq
        clear heq hb1
        go_wp2_with (go_at_call 37; refine Heq.out.mono ?_; rintro e w' ⟨rfl, rfl⟩)
        refine bodyPost_ret (results_none rfl _ _ _) rfl ?_
        refine ⟨rfl, noted_old Hx.out.2.2 H.out.2.1 H.out.2.2.1 (mem_grp.1 ?_)⟩
        have hmem := List.getElem_mem hjg
        rw [← Hx.out.1, he] at hmem
        exact hmem
      · have hb1 : (y == x) = false := by simpa using he
        rw [hb1] at heq
        have Heq := Lib.hid heq
        clear heq hb1
        go_wp2_with (go_at_call 37; refine Heq.out.mono ?_; rintro e w' ⟨rfl, rfl⟩)
        go_roundw
        case rel =>
          refine ⟨j + 1, by omega, by go_num, ?_, Hx.out.2.2⟩
          rw [List.take_succ_eq_append_getElem hjg, ← Hx.out.1]
          intro z hz
          rcases List.mem_append.1 hz with hz | hz
          · exact Hx.out.2.1 z hz
          · simp at hz; subst hz; exact he
        case measure => simp [intOf]; omega
    · have hjN : j = N := by omega
      subst hjN
      have hxL : x ∉ L := fun hx => by
        have := mem_grp.2 hx
        rw [List.take_of_length_le (by omega)] at hne
        exact hne x this rfl
      have Hx := Lib.hid (And.intro hxL hH)
      clear hxL hH hne
      have hHd : Half w S g m L c k (.slice Ar j cr) A x D wr.drew := ⟨Hx.out.2.1, Hx.out.2.2.1, Hx.out.2.2.2.1, Hx.out.2.2.2.2.1, Hx.out.2.2.2.2.2.1, Hx.out.2.2.2.2.2.2.drew⟩
      have c1 : wr.drew.cell? ⟨g, 0, none⟩ = some (.map (some m)) := hHd.1.cell rfl
      have r1 : wr.drew.rangeAt w.heap.size 0 D := hHd.2.2.2.2.1.range
      have hBd : Bs wr.drew A x := hHd.2.2.2.1
      have Hd := Lib.hid hHd
      have hput0 := fun wa hb hd hhd => note_put (w := w) (W := wr.drew) (wa := wa) hL hHd H.out.2.1 hb hd hhd hD.out
      simp only [hN] at hput0
      have Hput := Lib.hid hput0
      have hjL : j ≤ L.length := by rw [← hN]; exact List.length_filter_le _ _
      obtain ⟨i0, hi, hz0, hz1, hz2⟩ := info_parts sl_info3
      have Hi := Lib.hid (And.intro hi (And.intro hz0 (And.intro hz1 hz2)))
      clear hHd hi hz0 hz1 hz2 hput0
      go_wp2
      go_region_held3 (fun W' => W'.cell? ⟨g, 0, none⟩ = some (.map (some m)) ∧ W'.rangeAt w.heap.size 0 D) (first | with_reducible exact ⟨c1, r1⟩ | with_reducible exact ⟨c2, r2⟩ | with_reducible exact ⟨c3, r3⟩ | with_reducible exact ⟨c4, r4⟩ | with_reducible exact ⟨c5, r5⟩)
        (first
        | (go_at_call 76; refine (clone_any3 A cp n x _ hBd H.out.2.2.2.1 (by omega)).mono ?_; rintro e w1 ⟨vx, rfl, hNB⟩; obtain ⟨A2, cx2, rfl, _, _, _⟩ := hNB.form
           have c2 := (hNB.2.cell (w' := w1) (p := ⟨g, 0, none⟩) (by exact Hd.out.1.lt)).trans c1; have r2 := range_below hNB.2 r1
           have hba := hNB.2.alloc hNB.2.size (Obj.cells #[Value.slice A2 x.length cx2] 22)
           have c3 := (hba.cell (p := ⟨g, 0, none⟩) (by exact Hd.out.1.lt)).trans c1; have r3 := range_below hba r1
           obtain ⟨cs, hcs, hnext⟩ := Hput.out _ hba _ (World.ownsRow.alloc hNB.1 _)
           have Hcs := Lib.hid (And.intro hcs hnext)
           clear hcs hnext hba hNB)
        | (refine step_append_lies _ rfl _ _ 61 rfl 0 22 i0 (.slice none 0 0) 1 24 Tryz.underlying61 Hi.out.1 Hi.out.2.1 Hi.out.2.2.1 Hi.out.2.2.2 rfl (by decide) (.slice Ar j cr) j cs rfl Hcs.out.1 ⟨w1.heap.size, 0, none⟩ 1 1 [.slice A2 x.length cx2] rfl rfl (World.news_of_block (heap_alloc_new w1 _)) (by intro u hu; simp at hu; subst hu; rfl) (by decide) (by unfold maxLen; omega) (by omega) (Nat.zero_le _) _ rfl ?_
           intro g2 cap2 w2 hrow2 hgr2 hat2 hlt2
           obtain ⟨hg2, hd2, w3, hrun3, hAft⟩ := Hcs.out.2 _ w2 hrow2 hgr2 (hat2.imp (fun e => e.symm) (fun e => congrArg some e))
           have c4 : w2.cell? ⟨g, 0, none⟩ = some (.map (some m)) := hg2.cell rfl
           have r4 := hd2.range
           have c5 : w3.cell? ⟨g, 0, none⟩ = some (.map (some m)) := hAft.1.cell rfl
           have r5 := hAft.2.1.range
           have Ha := Lib.hid hAft
           clear hrow2 hgr2 hat2 hlt2 hg2 hd2 hAft))
      have hne3 : w.heap.size ≠ g := by have := H.out.2.2.1 g H.out.2.1; omega
      have c6 : w3.cell? ⟨g, 1, none⟩ = some (.int .i64 (L.length : Int)) := Ha.out.1.cell rfl
      have f6 : w3.frozen? ⟨g, 1, none⟩ = false := Ha.out.1.free 1
      have c7 : w3.cell? ⟨g, 2, none⟩ = some (.bool c) := Ha.out.1.cell rfl
      have f7 : w3.frozen? ⟨g, 2, none⟩ = false := Ha.out.1.free 2
      have hb4 : Blk (w3.setCell ⟨g, 1, none⟩ (.int .i64 ((L.length : Int) + 1))) g 60 (bcells m (L.length + 1) c k) := Ha.out.1.set_ 1 _
      have hd4 : Blk (w3.setCell ⟨g, 1, none⟩ (.int .i64 ((L.length : Int) + 1))) w.heap.size 32 D := Ha.out.2.1.far hne3 _
      have hbut4 : But g w3 (w3.setCell ⟨g, 1, none⟩ (.int .i64 ((L.length : Int) + 1))) := (But.refl g w3).setCell (.inl rfl) _
      have hs4 : (w3.setCell ⟨g, 1, none⟩ (.int .i64 ((L.length : Int) + 1))).heap.size = w3.heap.size := by simp [World.setCell]
      have hb5 : Blk ((w3.setCell ⟨g, 1, none⟩ (.int .i64 ((L.length : Int) + 1))).setCell ⟨g, 2, none⟩ (.bool true)) g 60 (bcells m (L.length + 1) true k) := hb4.set_ 2 _
      have H4 := Lib.hid (And.intro hb4 (And.intro hd4 (And.intro hbut4 (And.intro hs4 (And.intro hb5 (And.intro (hbut4.setCell (p := ⟨g, 2, none⟩) (.inl rfl) (.bool true)) ((by simp [World.setCell] : ((w3.setCell ⟨g, 1, none⟩ (.int .i64 ((L.length : Int) + 1))).setCell ⟨g, 2, none⟩ (.bool true)).heap.size = w3.heap.size))))))))
      have hW := Hd.out.2.2.2.2.2
      have HW := Lib.hid hW
      clear hb4 hd4 hbut4 hs4 hb5 hW
      by_cases hj0 : 0 < j
      · have hgrp : grp (digest x) L ≠ [] := fun e => by rw [e] at hN; simp at hN; omega
        have hcl : (c || decide (grp (digest x) L ≠ []) || digest x == List.replicate 32 0) = true := by simp [hgrp]
        have hi1 : (0 : Int) < j := by omega
        have Hc := Lib.hid hcl
        clear hcl hgrp
        go_wp2
        go_end0
        exact ⟨rfl, noted_new Ha.out HW.out Hx.out.1 H.out.2.1 H4.out.2.2.2.2.2.1 H4.out.2.2.2.2.2.2 (by rw [Hc.out]; exact H4.out.2.2.2.2.1)⟩
      · have hi1 : ¬ (0 : Int) < j := by omega
        have Hid := Lib.hid hid
        have hg0 : grp (digest x) L = [] := List.eq_nil_of_length_eq_zero (by omega)
        have hz := eq_zero32 D x hD.out
        clear hid
        cases hzb : (digest x == List.replicate 32 0) with
        | true =>
          have hcl : (c || decide (grp (digest x) L ≠ []) || digest x == List.replicate 32 0) = true := by rw [hzb]; simp
          rw [hzb] at hz
          have Hc := Lib.hid hcl
          clear hcl hg0 hzb
          go_wp2_with (refine load_row_g (by rfl) 32 _ rfl w.heap.size rfl 32 D.toArray (0, 0) _ H4.out.2.1 Tryz.underlying32 rfl Hid.out ?_; simp only [Act.put])
          go_end0
          exact ⟨rfl, noted_new Ha.out HW.out Hx.out.1 H.out.2.1 H4.out.2.2.2.2.2.1 H4.out.2.2.2.2.2.2 (by rw [Hc.out]; exact H4.out.2.2.2.2.1)⟩
        | false =>
          have hcl : (c || decide (grp (digest x) L ≠ []) || digest x == List.replicate 32 0) = c := by rw [hzb, hg0]; simp
          rw [hzb] at hz
          have Hc := Lib.hid hcl
          clear hcl hg0 hzb
          go_wp2_with (refine load_row_g (by rfl) 32 _ rfl w.heap.size rfl 32 D.toArray (0, 0) _ H4.out.2.1 Tryz.underlying32 rfl Hid.out ?_; simp only [Act.put])
          go_end0
          exact ⟨rfl, noted_new Ha.out HW.out Hx.out.1 H.out.2.1 H4.out.2.2.1 H4.out.2.2.2.1 (by rw [Hc.out]; exact H4.out.1)⟩

end Go.Proofs.YtihmddpafbackaaGreat
