/-
  A book in memory: its map, key by key; what stays of it while other blocks turn; what a store makes of it.
-/
import Derived.Test.YtcidliakmlolmaaInk
namespace Go.Proofs.Ytcidliakmlolmaa
open Go.RowKit Go.Maps
set_option linter.unusedVariables false

/-- Of the old blocks only such of 'S' are not as they were. -/
structure Out (S : Nat → Prop) (w w' : World) : Prop where
  os : w'.os = w.os
  tape : w'.tape = w.tape
  output : w'.output = w.output
  size : w.heap.size ≤ w'.heap.size
  block : ∀ i, i < w.heap.size → ¬ S i → w'.heap[i]? = w.heap[i]?

section
variable {S S' : Nat → Prop} {a b c w w' : World}
theorem Out.refl (S : Nat → Prop) (w : World) : Out S w w := ⟨rfl, rfl, rfl, Nat.le_refl _, fun _ _ _ => rfl⟩
theorem Out.trans (h : Out S a b) (k : Out S' b c) (hs : ∀ i, i < a.heap.size → S' i → S i) : Out S a c :=
  ⟨k.os.trans h.os, k.tape.trans h.tape, k.output.trans h.output, Nat.le_trans h.size k.size, fun i hi hn => (k.block i (Nat.lt_of_lt_of_le hi h.size) fun e => hn (hs i hi e)).trans (h.block i hi hn)⟩
theorem Out.ofBelow (S : Nat → Prop) (h : Below w.heap.size w w') : Out S w w' := ⟨h.os, h.tape, h.output, h.size, fun i hi _ => h.block i hi⟩
theorem Out.then_below (h : Out S a b) (k : Below b.heap.size b c) : Out S a c := h.trans (Out.ofBelow S k) fun _ _ e => e
theorem Out.then_grown (h : Out S a b) {row : Option Nat} (k : b.grownBy c row) (hr : ∀ i, row = some i → i < a.heap.size → S i) : Out S a c :=
  ⟨k.os.trans h.os, k.tape.trans h.tape, k.output.trans h.output, Nat.le_trans h.size k.size, fun i hi hn => (k.block i (Nat.lt_of_lt_of_le hi h.size) fun e => hn (hr i e.symm hi)).trans (h.block i hi hn)⟩
theorem Out.setCell (h : Out S a w) {p : Addr} (hp : p.block < a.heap.size → S p.block) (u : Value) : Out S a (w.setCell p u) := by
  refine ⟨h.os, h.tape, h.output, by simpa [World.setCell] using h.size, fun i hi hn => ?_⟩
  refine (Below.heap_setCell w p u i ?_).trans (h.block i hi hn)
  rintro rfl
  exact hn (hp hi)
theorem Out.drewN (h : Out S a w) (n : Nat) : Out S a (w.drewN n) := ⟨h.os, h.tape, h.output, h.size, h.block⟩
theorem Out.above {B : Nat} (h : Out S w w') (hS : ∀ i, S i → B ≤ i) (hB : B ≤ w.heap.size) : Below B w w' :=
  ⟨h.os, h.tape, h.output, h.size, fun i hi => h.block i (by omega) fun e => by have := hS i e; omega⟩
theorem Out.blk {g : Nat} {t : TypeId} {l : List Value} (h : Out S w w') (hb : Blk w g t l) (hn : ¬ S g) : Blk w' g t l := (h.block g hb.lt hn).trans hb
end

/-! ### Rows that stay -/
theorem row_stay {w w' : World} {base : Nat} {e : TypeId} {size n : Nat} {v : Value} {xs : List Value} (h : w.ownsRow base e size v n xs)
    (hk : ∀ b cs, v.ownBlock = some b → w.heap[b]? = some (.cells cs e (0, 0)) → w'.heap[b]? = w.heap[b]?) : w'.ownsRow base e size v n xs := by
  obtain ⟨h1, h2 | ⟨g, cap, cur, rfl, hb, hg, h3⟩⟩ := h
  · exact ⟨h1, .inl h2⟩
  · exact ⟨h1, .inr ⟨g, cap, cur, rfl, hb, (hk g cur rfl hg).trans hg, h3⟩⟩
theorem row_block {w : World} {base : Nat} {e : TypeId} {size n : Nat} {v : Value} {xs : List Value} (h : w.ownsRow base e size v n xs) {b : Nat} (hb : v.ownBlock = some b) : ∃ cs, w.heap[b]? = some (.cells cs e (0, 0)) := by
  obtain ⟨h1, ⟨rfl, _⟩ | ⟨g, cap, cur, rfl, _, hg, _⟩⟩ := h
  · simp [Value.ownBlock] at hb
  · simp [Value.ownBlock] at hb; subst hb; exact ⟨cur, hg⟩
theorem row_base {w : World} {base base' : Nat} {e : TypeId} {size n : Nat} {v : Value} {xs : List Value} (h : w.ownsRow base e size v n xs) (hle : base' ≤ base) : w.ownsRow base' e size v n xs := by
  obtain ⟨h1, h2 | ⟨g, cap, cur, rfl, hb, h3⟩⟩ := h
  · exact ⟨h1, .inl h2⟩
  · exact ⟨h1, .inr ⟨g, cap, cur, rfl, Nat.le_trans hle hb, h3⟩⟩
theorem Mine.unique {w : World} {base : Nat} {e : TypeId} {v : Value} {x y : List UInt8} (h : Mine w base e v x) (k : Mine w base e v y) : x = y := by
  obtain ⟨h1, ⟨rfl, hx⟩ | ⟨g, cap, cur, rfl, _, hg, _, _, _, ht⟩⟩ := h
  · obtain ⟨_, ⟨_, hy⟩ | ⟨_, _, _, e1, _⟩⟩ := k
    · rw [List.eq_nil_of_length_eq_zero hx, List.eq_nil_of_length_eq_zero hy]
    · cases e1
  · obtain ⟨_, ⟨e1, _⟩ | ⟨g', cap', cur', e1, _, hg', _, _, _, ht'⟩⟩ := k
    · cases e1
    · injection e1 with e2 e3 e4
      injection e2 with e2
      injection e2 with e2
      subst e2
      rw [hg] at hg'
      injection hg' with e5
      injection e5 with e5
      subst e5
      rw [e3] at ht
      exact cbs_inj (ht.symm.trans ht')

/-! ### What a key's slice shows -/
def Rv (v : Value) : Option (DataW Value × List MemPlace) := some (.held v, [])
def nilS : Value := .slice none 0 0
def grp (d : List UInt8) (L : List (List UInt8)) : List (List UInt8) := L.filter fun x => digest x == d
def HeadOf (w : World) (S : Nat → Prop) (h : Value) (x : List UInt8) : Prop := Mine w 0 5 h x ∧ ∀ b, h.ownBlock = some b → S b
def Keeps (w : World) (S : Nat → Prop) (v : Value) (xs : List (List UInt8)) : Prop :=
  ∃ cs, w.ownsRow 0 32 1 v xs.length cs ∧ (∀ b, v.ownBlock = some b → S b) ∧ (xs = [] → v = nilS) ∧ ∀ (j : Nat) (x : List UInt8), xs[j]? = some x → ∃ h, cs[j]? = some h ∧ HeadOf w S h x

section
variable {S S' : Nat → Prop} {w w' : World} {v : Value} {xs : List (List UInt8)}
theorem HeadOf.stay {h : Value} {x : List UInt8} (hd : HeadOf w S h x) (hS : ∀ i, S i → S' i) (hk : ∀ i cs, S i → w.heap[i]? = some (.cells cs 5 (0, 0)) → w'.heap[i]? = w.heap[i]?) : HeadOf w' S' h x :=
  ⟨row_stay hd.1 fun b cs hb hc => hk b cs (hd.2 b hb) hc, fun b hb => hS b (hd.2 b hb)⟩
theorem Keeps.stay (h : Keeps w S v xs) (hS : ∀ i, S i → S' i) (hk : ∀ i cs, S i → w.heap[i]? = some (.cells cs 5 (0, 0)) → w'.heap[i]? = w.heap[i]?)
    (hv : ∀ b cs, v.ownBlock = some b → S b → w.heap[b]? = some (.cells cs 32 (0, 0)) → w'.heap[b]? = w.heap[b]?) : Keeps w' S' v xs := by
  obtain ⟨cs, h1, h2, h3, h4⟩ := h
  refine ⟨cs, row_stay h1 fun b cs hb hc => hv b cs hb (h2 b hb) hc, fun b hb => hS b (h2 b hb), h3, fun j x hx => ?_⟩
  obtain ⟨hd, e, hh⟩ := h4 j x hx
  exact ⟨hd, e, hh.stay hS hk⟩
theorem Keeps.form (h : Keeps w S v xs) : ∃ A c, v = .slice A xs.length c ∧ xs.length ≤ c ∧ c ≤ maxLen := by
  obtain ⟨cs, ⟨_, ⟨rfl, e⟩ | ⟨g, cap, cur, rfl, _, _, h1, h2, _⟩⟩, _⟩ := h
  · exact ⟨none, 0, by rw [e], by omega, by simp [maxLen]⟩
  · exact ⟨_, cap, rfl, h1, h2⟩
/-- Element j, as memory has it. -/
theorem Keeps.at_ (h : Keeps w S v xs) {j : Nat} (hj : j < xs.length) : ∃ b A c c', v = .slice (some ⟨b, 0, none⟩) xs.length c' ∧ w.cell? ⟨b, j, none⟩ = some (.slice A xs[j].length c) ∧ xs[j].length ≤ c ∧ c ≤ maxLen ∧ Bs w A xs[j] := by
  obtain ⟨cs, h1, h2, h3, h4⟩ := h
  obtain ⟨hd, e, hh⟩ := h4 j _ (List.getElem?_eq_getElem hj)
  obtain ⟨A, c, rfl, a1, a2, a3⟩ := Mine.form hh.1
  have hb : ∃ b c', v = .slice (some ⟨b, 0, none⟩) xs.length c' := by
    rcases h1.2 with ⟨_, e0⟩ | ⟨g, cap, cur, rfl, _⟩
    · omega
    · exact ⟨g, cap, rfl⟩
  obtain ⟨b, c', hb⟩ := hb
  have := h1.cells (g := b) (by rw [hb]; rfl) j _ e
  rw [add_mk, Nat.zero_add] at this
  exact ⟨b, A, c, c', hb, this, a1, a2, a3⟩
/-- Two slices in one row begin alike. -/
theorem Keeps.apart {v' : Value} {ys : List (List UInt8)} (h : Keeps w S v xs) (k : Keeps w S' v' ys) {b : Nat} (hb : v.ownBlock = some b) (hb' : v'.ownBlock = some b) (hx : xs ≠ []) (hy : ys ≠ []) : ∃ x, x ∈ xs ∧ x ∈ ys := by
  obtain ⟨cs, h1, _, _, h4⟩ := h
  obtain ⟨cs', k1, _, _, k4⟩ := k
  cases xs with
  | nil => exact absurd rfl hx
  | cons x xs =>
    cases ys with
    | nil => exact absurd rfl hy
    | cons y ys =>
      obtain ⟨hd, e, hh⟩ := h4 0 x rfl
      obtain ⟨hd', e', hh'⟩ := k4 0 y rfl
      have a1 := h1.cells hb 0 _ e
      have a2 := k1.cells hb' 0 _ e'
      rw [a1] at a2
      injection a2 with a2
      subst a2
      exact ⟨x, by simp, by rw [hh.1.unique hh'.1]; simp⟩
theorem Keeps.nil (w : World) (S : Nat → Prop) : Keeps w S nilS [] := ⟨[], World.ownsRow_nil _ _ _ _, fun b hb => by simp [nilS, Value.ownBlock] at hb, fun _ => rfl, fun j x hx => by simp at hx⟩
end

/-! ### The map -/
def Store (w : World) (S : Nat → Prop) (m : Nat) (L : List (List UInt8)) : Prop :=
  S m ∧ (∀ i, S i → i < w.heap.size) ∧ ∃ D : DataW Value, w.ownsMap Try.prog 28 Rv m L.length D ∧
    ∀ d kl, d.length = 32 → keyOf Try.prog 28 (.agg (cbs d).toArray) = some kl → ∃ v, D.atKey kl (.held nilS) = .held v ∧ Keeps w S v (grp d L)

theorem map_stay {w w' : World} {m n : Nat} {D : DataW Value} (h : w.ownsMap Try.prog 28 Rv m n D) (hk : w'.heap[m]? = w.heap[m]?) : w'.ownsMap Try.prog 28 Rv m n D := by
  obtain ⟨es, clock, h1, h2⟩ := h
  exact ⟨es, clock, hk.trans h1, h2⟩
theorem map_block {w : World} {m n : Nat} {D : DataW Value} (h : w.ownsMap Try.prog 28 Rv m n D) : ∃ es clock, w.heap[m]? = some (.map es clock) := by
  obtain ⟨es, clock, h1, _⟩ := h
  exact ⟨es, clock, h1⟩

section
variable {S S' : Nat → Prop} {w w' : World} {m : Nat} {L : List (List UInt8)}
theorem Store.stay (h : Store w S m L) (hz : w.heap.size ≤ w'.heap.size) (hk : ∀ i o, S i → w.heap[i]? = some o → (∀ cs fr, o ≠ .cells cs 45 fr) → w'.heap[i]? = some o) : Store w' S m L := by
  obtain ⟨h1, h2, D, h3, h4⟩ := h
  obtain ⟨es, clock, hm⟩ := map_block h3
  refine ⟨h1, fun i hi => Nat.lt_of_lt_of_le (h2 i hi) hz, D, map_stay h3 ((hk m _ h1 hm (fun cs fr e => by cases e)).trans hm.symm), fun d kl hd hkl => ?_⟩
  obtain ⟨v, e, hv⟩ := h4 d kl hd hkl
  exact ⟨v, e, hv.stay (fun _ hi => hi) (fun i cs hi hc => (hk i _ hi hc (fun cs' fr e => by injection e with _ e; cases e)).trans hc.symm)
    (fun b cs _ hb hc => (hk b _ hb hc (fun cs' fr e => by injection e with _ e; cases e)).trans hc.symm)⟩

theorem Store.look (h : Store w S m L) (d : List UInt8) (hd : d.length = 32) :
    ∃ v, (Instr.lookup 38 (.map (some m)) (.agg (cbs d).toArray) false).run Try.prog w = .ok v w ∧ Keeps w S v (grp d L) := by
  obtain ⟨kl, hkl⟩ := key_digest d hd
  obtain ⟨h1, h2, D, h3, h4⟩ := h
  obtain ⟨v, e, hv⟩ := h4 d kl hd hkl
  obtain ⟨v', ps, hrun, hR⟩ := h3.lookup keyed_digest Try.underlying38 (Try.zeroValue22 w) (zd := .held nilS) (zp := []) rfl hkl
  rw [e] at hR
  simp [Rv] at hR
  obtain ⟨rfl, _⟩ := hR
  exact ⟨v', hrun, hv⟩

theorem new_store (w : World) : Store (w.alloc (.map #[] 0)) (fun i => i = w.heap.size) w.heap.size [] :=
  ⟨rfl, fun i hi => by subst hi; simp, .map [], World.ownsMap_made w _ _ _, fun d kl hd hkl => ⟨nilS, rfl, Keeps.nil _ _⟩⟩

/-- What a store at a digest makes of the map: 'v' stood there, 'v'' is v with a new slice that shows x behind it. -/
theorem Store.put {w1 w2 : World} (h : Store w S m L) (hn : L.length < 1000000) (x : List UInt8) (v : Value) (cs : List Value)
    (hcs : w.ownsRow 0 32 1 v (grp (digest x) L).length cs) (hold : Keeps w S v (grp (digest x) L)) (hb1 : Below w.heap.size w w1) (hd : Value) (hhd : Mine w1 w.heap.size 5 hd x)
    (v' : Value) (hg : w1.grownBy w2 v.ownBlock) (hrow : w2.ownsRow 0 32 1 v' ((grp (digest x) L).length + 1) (cs ++ [hd])) (hloc : v'.ownBlock = v.ownBlock ∨ v'.ownBlock = some w1.heap.size) :
    ∃ w3, (Instr.mapUpdate 38 (.map (some m)) (.agg (cbs (digest x)).toArray) v').run Try.prog w2 = .ok () w3 ∧ w2.grownBy w3 (some m) ∧
      Store w3 (fun i => S i ∨ w.heap.size ≤ i ∧ i < w3.heap.size) m (L ++ [x]) := by
  have hdl : (digest x).length = 32 := by rw [digest_last]; rfl
  obtain ⟨kl, hkl⟩ := key_digest (digest x) hdl
  obtain ⟨h1, h2, D, h3, h4⟩ := h
  obtain ⟨es, clock, hm⟩ := map_block h3
  -- what stands in w2 of the old blocks
  have hrow' : ∀ i, v.ownBlock = some i → ∃ c, w.heap[i]? = some (.cells c 32 (0, 0)) := fun i hi => row_block hcs hi
  have st2 : ∀ i, S i → v.ownBlock ≠ some i → w2.heap[i]? = w.heap[i]? := fun i hi hne =>
    (hg.block i (Nat.lt_of_lt_of_le (h2 i hi) hb1.size) (fun e => hne e.symm)).trans (hb1.block i (h2 i hi))
  have hm2 : w2.heap[m]? = w.heap[m]? := st2 m h1 (fun e => by obtain ⟨c, hc⟩ := hrow' m e; rw [hm] at hc; cases hc)
  have h32 := map_stay h3 hm2
  obtain ⟨w3, hrun, hput, hg3⟩ := h32.update keyed_digest Try.underlying38 (by unfold maxLen; omega) (val := v') (d := .held v') (ps := []) hkl rfl
  have hsz : w.heap.size ≤ w3.heap.size := Nat.le_trans hb1.size (Nat.le_trans hg.size hg3.size)
  have st3 : ∀ i, i < w2.heap.size → i ≠ m → w3.heap[i]? = w2.heap[i]? := fun i hi hne => hg3.block i hi (fun e => hne (Option.some.inj e))
  have old3 : ∀ i, S i → i ≠ m → v.ownBlock ≠ some i → w3.heap[i]? = w.heap[i]? := fun i hi h5 h6 =>
    (st3 i (Nat.lt_of_lt_of_le (h2 i hi) (Nat.le_trans hb1.size hg.size)) h5).trans (st2 i hi h6)
  have byte3 : ∀ i c, S i → w.heap[i]? = some (.cells c 5 (0, 0)) → w3.heap[i]? = w.heap[i]? := fun i c hi hc => by
    refine old3 i hi ?_ ?_
    · rintro rfl; rw [hm] at hc; cases hc
    · intro e
      obtain ⟨c', hc'⟩ := hrow' i e
      rw [hc] at hc'
      injection hc' with e1
      injection e1 with _ e1
      cases e1
  have hD : IsMap D := by obtain ⟨_, _, _, _, _, e⟩ := h3; exact ⟨_, e⟩
  refine ⟨w3, hrun, hg3, .inl h1, fun i hi => ?_, D.put kl (.held v'), ?_, fun d kl' hdl' hkl' => ?_⟩
  · rcases hi with hi | hi
    · exact Nat.lt_of_lt_of_le (h2 i hi) hsz
    · exact hi.2
  · rw [List.length_append]; exact hput
  · by_cases hdd : d = digest x
    · subst hdd
      obtain rfl : kl' = kl := Option.some.inj (hkl'.symm.trans hkl)
      refine ⟨v', atKey_put_same hD (keyed_digest.key hkl) _ _, ?_⟩
      have e1 : grp (digest x) (L ++ [x]) = grp (digest x) L ++ [x] := by unfold grp; rw [List.filter_append]; simp
      rw [e1]
      have hrow3 : w3.ownsRow 0 32 1 v' ((grp (digest x) L).length + 1) (cs ++ [hd]) := row_stay hrow fun b c hb hc => st3 b (by
        rcases Nat.lt_or_ge b w2.heap.size with h | h
        · exact h
        · rw [Array.getElem?_eq_none h] at hc; cases hc) (by rintro rfl; rw [hm2, hm] at hc; cases hc)
      refine ⟨cs ++ [hd], by rw [List.length_append]; exact hrow3, fun b hb => ?_, fun e => by simp at e, fun j y hy => ?_⟩
      · rcases hloc with e | e
        · obtain ⟨_, _, k2, _⟩ := hold
          exact .inl (k2 b (e ▸ hb))
        · rw [e] at hb
          injection hb with hb
          subst hb
          have := (hrow3.lt _ e).2
          exact .inr ⟨hb1.size, this⟩
      · by_cases hj : j < (grp (digest x) L).length
        · rw [List.getElem?_append_left hj] at hy
          obtain ⟨cs0, k1, _, _, k4⟩ := hold
          obtain ⟨hh, e, hhd0⟩ := k4 j y hy
          have hcl : cs.length = (grp (digest x) L).length := by have := hcs.1; omega
          refine ⟨hh, ?_, hhd0.stay (fun i hi => .inl hi) byte3⟩
          rw [List.getElem?_append_left (by omega)]
          have hne : ∃ b, v.ownBlock = some b := by
            rcases hcs.2 with ⟨_, e0⟩ | ⟨g, cap, cur, rfl, _⟩
            · omega
            · exact ⟨g, rfl⟩
          obtain ⟨b, hb⟩ := hne
          have a1 := k1.cells hb j _ e
          have hjl : j < cs.length := by omega
          have a2 := hcs.cells hb j _ (List.getElem?_eq_getElem hjl)
          rw [List.getElem?_eq_getElem hjl, Option.some.inj (a2.symm.trans a1)]
        · have hcl : cs.length = (grp (digest x) L).length := by have := hcs.1; omega
          rw [List.getElem?_append_right (by omega)] at hy
          have hj0 : j - (grp (digest x) L).length = 0 := by
            rcases Nat.eq_zero_or_pos (j - (grp (digest x) L).length) with h | h
            · exact h
            · rw [List.getElem?_eq_none (by simp; omega)] at hy; cases hy
          rw [hj0] at hy
          injection hy with hy
          subst hy
          refine ⟨hd, ?_, ?_, fun b hb => ?_⟩
          · rw [List.getElem?_append_right (by omega), hcl, hj0]; rfl
          · have hm1 : Mine w1 0 5 hd x := row_base hhd (Nat.zero_le _)
            refine row_stay hm1 fun b c hb hc => ?_
            have hlt := (World.ownsRow.lt hhd b hb).2
            have hge := (World.ownsRow.lt hhd b hb).1
            have hbm : b ≠ m := by have := h2 m h1; omega
            have hbv : some b ≠ v.ownBlock := fun e => by have := (hcs.lt b e.symm).2; omega
            exact (st3 b (Nat.lt_of_lt_of_le hlt hg.size) hbm).trans (hg.block b hlt hbv)
          · have hlt := World.ownsRow.lt hhd b hb
            exact .inr ⟨hlt.1, Nat.lt_of_lt_of_le hlt.2 (Nat.le_trans hg.size hg3.size)⟩
    · obtain ⟨u, eu, hu⟩ := h4 d kl' hdl' hkl'
      have hkn : kl' ≠ kl := key_inj hkl hkl' hdd
      refine ⟨u, by rw [atKey_put_other hkn]; exact eu, ?_⟩
      have e1 : grp d (L ++ [x]) = grp d L := by
        unfold grp; rw [List.filter_append]
        have : (digest x == d) = false := beq_eq_false_iff_ne.2 fun e => hdd e.symm
        rw [List.filter_cons_of_neg (by rw [this]; decide), List.filter_nil, List.append_nil]
      rw [e1]
      refine hu.stay (fun i hi => .inl hi) byte3 fun b c hb hSb hc => old3 b hSb (by rintro rfl; rw [hm] at hc; cases hc) fun e => ?_
      have hx0 : grp (digest x) L ≠ [] := fun e0 => by
        obtain ⟨_, _, _, k3, _⟩ := hold
        rw [k3 e0] at e; simp [nilS, Value.ownBlock] at e
      have hy0 : grp d L ≠ [] := fun e0 => by
        obtain ⟨_, _, _, k3, _⟩ := hu
        rw [k3 e0] at hb; simp [nilS, Value.ownBlock] at hb
      obtain ⟨y, hy1, hy2⟩ := hold.apart hu e hb hx0 hy0
      unfold grp at hy1 hy2
      rw [List.mem_filter] at hy1 hy2
      have a1 := beq_iff_eq.1 hy1.2
      have a2 := beq_iff_eq.1 hy2.2
      exact hdd (a2.symm.trans a1)
end
end Go.Proofs.Ytcidliakmlolmaa
