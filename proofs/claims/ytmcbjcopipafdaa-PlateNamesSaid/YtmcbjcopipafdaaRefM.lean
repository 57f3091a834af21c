/-
  The document's plate in memory; its small calls, over the reference's text.
-/
import Derived.Test.YtmcbjcopipafdaaCarry
import Derived.Test.YtmcbjcopipafdaaApp
namespace Go.Proofs.Ytmcbjcopipafdaa
open Go.RowKit Go.Maps
set_option linter.unusedVariables false

/-- The document's plate: what stays, what is seen, which wait. -/
structure Rm where
  S : List (List UInt8)
  V : List (List UInt8)
  B : List Bool
  dead : Bool
  fails : Bool
  left : Int
  K : List Bool

/-- A row of slices, each of which shows 64 bytes in no block of M. -/
def RowB (w : World) (M : Nat → Prop) (b : Nat) (L : List (List UInt8)) : Prop := ∃ cur : Array Value, w.heap[b]? = some (.cells cur 23 (0, 0)) ∧
  ∀ (i : Nat) (hi : i < L.length), ∃ A c, cur[i]? = some (.slice A 64 c) ∧ 64 ≤ c ∧ c ≤ maxLen ∧ BOff w M A L[i] ∧ L[i].length = 64
def RowW (w : World) (b : Nat) (L : List Bool) : Prop := ∃ cur : Array Value, w.heap[b]? = some (.cells cur 4 (0, 0)) ∧ ∀ (i : Nat) (hi : i < L.length), cur[i]? = some (.bool L[i])
section
variable {w w' : World} {M S : Nat → Prop} {b : Nat} {L : List (List UInt8)} {Q : List Bool}
theorem RowB.lt (h : RowB w M b L) : b < w.heap.size := by
  obtain ⟨cur, h1, _⟩ := h
  rcases Nat.lt_or_ge b w.heap.size with h | h
  · exact h
  · rw [Array.getElem?_eq_none h] at h1; cases h1
theorem RowW.lt (h : RowW w b Q) : b < w.heap.size := by
  obtain ⟨cur, h1, _⟩ := h
  rcases Nat.lt_or_ge b w.heap.size with h | h
  · exact h
  · rw [Array.getElem?_eq_none h] at h1; cases h1
theorem RowB.at_ (h : RowB w M b L) {i : Nat} (hi : i < L.length) : ∃ A c, w.cell? ⟨b, i, none⟩ = some (.slice A 64 c) ∧ 64 ≤ c ∧ c ≤ maxLen ∧ BOff w M A L[i] ∧ L[i].length = 64 ∧ w.frozen? ⟨b, i, none⟩ = false := by
  obtain ⟨cur, h1, h2⟩ := h
  obtain ⟨A, c, q1, q2, q3, q4, q5⟩ := h2 i hi
  exact ⟨A, c, by rw [cell_of_row w b i cur _ (0, 0) h1]; exact q1, q2, q3, q4, q5, frozen_of_row w b i cur _ h1⟩
theorem RowW.at_ (h : RowW w b Q) {i : Nat} (hi : i < Q.length) : w.cell? ⟨b, i, none⟩ = some (.bool Q[i]) ∧ w.frozen? ⟨b, i, none⟩ = false := by
  obtain ⟨cur, h1, h2⟩ := h
  exact ⟨by rw [cell_of_row w b i cur _ (0, 0) h1]; exact h2 i hi, frozen_of_row w b i cur _ h1⟩
theorem RowB.out (h : RowB w M b L) (ho : Out S w w') (hS : ∀ i, S i → M i) (hb : ¬ S b) : RowB w' M b L := by
  have hl := h.lt
  obtain ⟨cur, h1, h2⟩ := h
  refine ⟨cur, (ho.block b hl hb).trans h1, fun i hi => ?_⟩
  obtain ⟨A, c, q1, q2, q3, q4, q5⟩ := h2 i hi
  exact ⟨A, c, q1, q2, q3, q4.out ho hS, q5⟩
theorem RowW.out (h : RowW w b Q) (ho : Out S w w') (hb : ¬ S b) : RowW w' b Q := by
  have hl := h.lt
  obtain ⟨cur, h1, h2⟩ := h
  exact ⟨cur, (ho.block b hl hb).trans h1, h2⟩
theorem heap_set_row {cur : Array Value} {t : TypeId} (h : w.heap[b]? = some (.cells cur t (0, 0))) (i : Nat) (v : Value) : (w.setCell ⟨b, i, none⟩ v).heap[b]? = some (.cells (cur.setIfInBounds i v) t (0, 0)) := by
  simp [World.setCell, Array.getElem?_modify, h]
theorem RowB.set_ (h : RowB w M b L) (hM : M b) {i : Nat} {A : Option Addr} {c : Nat} {l : List UInt8} (hc : 64 ≤ c) (hm : c ≤ maxLen) (hl : BOff w M A l) (h64 : l.length = 64) :
    RowB (w.setCell ⟨b, i, none⟩ (.slice A 64 c)) M b (L.set i l) := by
  have ho : Out (fun j => j = b) w (w.setCell ⟨b, i, none⟩ (.slice A 64 c)) := (Out.refl (fun j => j = b) w).setCell (fun _ => rfl) _
  obtain ⟨cur, h1, h2⟩ := h
  refine ⟨_, heap_set_row h1 i _, fun j hj0 => ?_⟩
  have hj : j < L.length := by simpa using hj0
  by_cases hji : j = i
  · subst hji
    obtain ⟨A', c', q1, _⟩ := h2 j hj
    have hjc : j < cur.size := by
      rcases Nat.lt_or_ge j cur.size with h | h
      · exact h
      · rw [Array.getElem?_eq_none h] at q1; cases q1
    refine ⟨A, c, by rw [Array.getElem?_setIfInBounds_self_of_lt hjc], hc, hm, ?_, ?_⟩
    · rw [List.getElem_set_self]; exact hl.out ho fun k e => by rw [e]; exact hM
    · rw [List.getElem_set_self]; exact h64
  · obtain ⟨A', c', q1, q2, q3, q4, q5⟩ := h2 j hj
    refine ⟨A', c', by rw [Array.getElem?_setIfInBounds_ne (fun e => hji e.symm)]; exact q1, q2, q3, ?_, ?_⟩
    · rw [List.getElem_set_ne (fun e => hji e.symm)]; exact q4.out ho fun k e => by rw [e]; exact hM
    · rw [List.getElem_set_ne (fun e => hji e.symm)]; exact q5
theorem RowW.set_ (h : RowW w b Q) (i : Nat) (x : Bool) : RowW (w.setCell ⟨b, i, none⟩ (.bool x)) b (Q.set i x) := by
  obtain ⟨cur, h1, h2⟩ := h
  refine ⟨_, heap_set_row h1 i _, fun j hj0 => ?_⟩
  have hj : j < Q.length := by simpa using hj0
  have q1 := h2 j hj
  by_cases hji : j = i
  · subst hji
    have hjc : j < cur.size := by
      rcases Nat.lt_or_ge j cur.size with h | h
      · exact h
      · rw [Array.getElem?_eq_none h] at q1; cases q1
    rw [Array.getElem?_setIfInBounds_self_of_lt hjc, List.getElem_set_self]
  · rw [Array.getElem?_setIfInBounds_ne (fun e => hji e.symm), List.getElem_set_ne (fun e => hji e.symm)]; exact q1
end

def rcells (rs rn rw n cs cn cw : Nat) (dead fails : Bool) (left : Int) (kv : Value) : List Value := [.slice (some ⟨rs, 0, none⟩) n cs, .slice (some ⟨rn, 0, none⟩) n cn, .slice (some ⟨rw, 0, none⟩) n cw, .bool dead, .bool fails, .int .i64 left, kv]
/-- The document's plate in memory. -/
structure RefM (w : World) (M : Nat → Prop) (g rs rn rw : Nat) (R : Rm) : Prop where
  lv : R.V.length = R.S.length
  lb : R.B.length = R.S.length
  n1 : 1 ≤ R.S.length
  n2 : R.S.length ≤ 4096
  lw : Wf R.left
  blk : ∃ cs cn cw kv, R.S.length ≤ cs ∧ cs ≤ maxLen ∧ R.S.length ≤ cn ∧ cn ≤ maxLen ∧ R.S.length ≤ cw ∧ cw ≤ maxLen ∧ Blk w g 67 (rcells rs rn rw R.S.length cs cn cw R.dead R.fails R.left kv) ∧ KOff w M kv R.K
  rowS : RowB w M rs R.S
  rowV : RowB w M rn R.V
  rowW : RowW w rw R.B
  ne : rs ≠ rn
  mg : M g
  ms : M rs
  mn : M rn
  mw : M rw
  lt : ∀ i, M i → i < w.heap.size
abbrev G4 (g rs rn rw : Nat) : Nat → Prop := fun i => i = g ∨ i = rs ∨ i = rn ∨ i = rw
section
variable {w w' : World} {M : Nat → Prop} {g rs rn rw : Nat} {R : Rm}
theorem RefM.nes (h : RefM w M g rs rn rw R) : g ≠ rs ∧ g ≠ rn ∧ g ≠ rw ∧ rs ≠ rw ∧ rn ≠ rw := by
  obtain ⟨cs, cn, cw, kv, _, _, _, _, _, _, hb, _⟩ := h.blk
  obtain ⟨c1, q1, _⟩ := h.rowS
  obtain ⟨c2, q2, _⟩ := h.rowV
  obtain ⟨c3, q3, _⟩ := h.rowW
  unfold Blk at hb
  refine ⟨?_, ?_, ?_, ?_, ?_⟩ <;> rintro rfl
  · rw [hb] at q1; injection q1 with q1; injection q1 with _ q1; revert q1; decide
  · rw [hb] at q2; injection q2 with q2; injection q2 with _ q2; revert q2; decide
  · rw [hb] at q3; injection q3 with q3; injection q3 with _ q3; revert q3; decide
  · rw [q1] at q3; injection q3 with q3; injection q3 with _ q3; revert q3; decide
  · rw [q2] at q3; injection q3 with q3; injection q3 with _ q3; revert q3; decide
theorem RefM.out {S : Nat → Prop} (h : RefM w M g rs rn rw R) (ho : Out S w w') (hS : ∀ i, S i → M i) (hg : ¬ S g) (h1 : ¬ S rs) (h2 : ¬ S rn) (h3 : ¬ S rw) : RefM w' M g rs rn rw R := by
  obtain ⟨cs, cn, cw, kv, a1, a2, a3, a4, a5, a6, hb, hk⟩ := h.blk
  exact ⟨h.lv, h.lb, h.n1, h.n2, h.lw, ⟨cs, cn, cw, kv, a1, a2, a3, a4, a5, a6, ho.blk hb hg, hk.out ho hS⟩, h.rowS.out ho hS h1, h.rowV.out ho hS h2, h.rowW.out ho h3, h.ne, h.mg, h.ms, h.mn, h.mw, fun i hi => Nat.lt_of_lt_of_le (h.lt i hi) ho.size⟩
theorem RefM.below (h : RefM w M g rs rn rw R) (hb : Below w.heap.size w w') : RefM w' M g rs rn rw R := h.out (Out.ofBelow (fun _ => False) hb) (fun _ e => e.elim) (fun e => e) (fun e => e) (fun e => e) (fun e => e)
theorem RefM.drew (h : RefM w M g rs rn rw R) : RefM w.drew M g rs rn rw R := h.below ((Below.refl _ _).drew)
/-- A place of what stays turns. -/
theorem RefM.putS (h : RefM w M g rs rn rw R) (i : Nat) {A : Option Addr} {c : Nat} {l : List UInt8} (hc : 64 ≤ c) (hm : c ≤ maxLen) (hl : BOff w M A l) (h64 : l.length = 64) :
    RefM (w.setCell ⟨rs, i, none⟩ (.slice A 64 c)) M g rs rn rw { R with S := R.S.set i l } ∧ Out (fun j => j = rs) w (w.setCell ⟨rs, i, none⟩ (.slice A 64 c)) := by
  have ho : Out (fun j => j = rs) w (w.setCell ⟨rs, i, none⟩ (.slice A 64 c)) := (Out.refl (fun j => j = rs) w).setCell (fun _ => rfl) _
  have hSM : ∀ j, j = rs → M j := fun j e => by rw [e]; exact h.ms
  obtain ⟨e1, e2, e3, e4, e5⟩ := h.nes
  obtain ⟨cs, cn, cw, kv, a1, a2, a3, a4, a5, a6, hb, hk⟩ := h.blk
  have hn : ({ R with S := R.S.set i l } : Rm).S.length = R.S.length := List.length_set
  exact ⟨⟨by rw [hn]; exact h.lv, by rw [hn]; exact h.lb, by rw [hn]; exact h.n1, by rw [hn]; exact h.n2, h.lw, ⟨cs, cn, cw, kv, by rw [hn]; exact a1, a2, by rw [hn]; exact a3, a4, by rw [hn]; exact a5, a6, by rw [hn]; exact ho.blk hb e1, hk.out ho hSM⟩,
    h.rowS.set_ h.ms hc hm hl h64, h.rowV.out ho hSM fun e => h.ne e.symm, h.rowW.out ho fun e => e4 e.symm, h.ne, h.mg, h.ms, h.mn, h.mw, fun i hi => Nat.lt_of_lt_of_le (h.lt i hi) ho.size⟩, ho⟩
/-- A place of what is seen turns. -/
theorem RefM.putV (h : RefM w M g rs rn rw R) (i : Nat) {A : Option Addr} {c : Nat} {l : List UInt8} (hc : 64 ≤ c) (hm : c ≤ maxLen) (hl : BOff w M A l) (h64 : l.length = 64) :
    RefM (w.setCell ⟨rn, i, none⟩ (.slice A 64 c)) M g rs rn rw { R with V := R.V.set i l } ∧ Out (fun j => j = rn) w (w.setCell ⟨rn, i, none⟩ (.slice A 64 c)) := by
  have ho : Out (fun j => j = rn) w (w.setCell ⟨rn, i, none⟩ (.slice A 64 c)) := (Out.refl (fun j => j = rn) w).setCell (fun _ => rfl) _
  have hSM : ∀ j, j = rn → M j := fun j e => by rw [e]; exact h.mn
  obtain ⟨e1, e2, e3, e4, e5⟩ := h.nes
  obtain ⟨cs, cn, cw, kv, a1, a2, a3, a4, a5, a6, hb, hk⟩ := h.blk
  exact ⟨⟨by show (R.V.set i l).length = _; rw [List.length_set]; exact h.lv, h.lb, h.n1, h.n2, h.lw, ⟨cs, cn, cw, kv, a1, a2, a3, a4, a5, a6, ho.blk hb e2, hk.out ho hSM⟩,
    h.rowS.out ho hSM h.ne, h.rowV.set_ h.mn hc hm hl h64, h.rowW.out ho fun e => e5 e.symm, h.ne, h.mg, h.ms, h.mn, h.mw, fun i hi => Nat.lt_of_lt_of_le (h.lt i hi) ho.size⟩, ho⟩
/-- Whether a place waits turns. -/
theorem RefM.putB (h : RefM w M g rs rn rw R) (i : Nat) (x : Bool) :
    RefM (w.setCell ⟨rw, i, none⟩ (.bool x)) M g rs rn rw { R with B := R.B.set i x } ∧ Out (fun j => j = rw) w (w.setCell ⟨rw, i, none⟩ (.bool x)) := by
  have ho : Out (fun j => j = rw) w (w.setCell ⟨rw, i, none⟩ (.bool x)) := (Out.refl (fun j => j = rw) w).setCell (fun _ => rfl) _
  have hSM : ∀ j, j = rw → M j := fun j e => by rw [e]; exact h.mw
  obtain ⟨e1, e2, e3, e4, e5⟩ := h.nes
  obtain ⟨cs, cn, cw, kv, a1, a2, a3, a4, a5, a6, hb, hk⟩ := h.blk
  exact ⟨⟨h.lv, by show (R.B.set i x).length = _; rw [List.length_set]; exact h.lb, h.n1, h.n2, h.lw, ⟨cs, cn, cw, kv, a1, a2, a3, a4, a5, a6, ho.blk hb e3, hk.out ho hSM⟩,
    h.rowS.out ho hSM e4, h.rowV.out ho hSM e5, h.rowW.set_ i x, h.ne, h.mg, h.ms, h.mn, h.mw, fun i hi => Nat.lt_of_lt_of_le (h.lt i hi) ho.size⟩, ho⟩
/-- The plate's own cells turn. -/
theorem RefM.celled (h : RefM w M g rs rn rw R) (ho : Out (fun i => i = g) w w') (dead fails : Bool) (left : Int) (K : List Bool) (hl : Wf left)
    (hb : ∀ cs cn cw kv, Blk w g 67 (rcells rs rn rw R.S.length cs cn cw R.dead R.fails R.left kv) → KOff w M kv R.K → ∃ kv', Blk w' g 67 (rcells rs rn rw R.S.length cs cn cw dead fails left kv') ∧ KOff w' M kv' K) :
    RefM w' M g rs rn rw { R with dead := dead, fails := fails, left := left, K := K } := by
  have hSM : ∀ j, j = g → M j := fun j e => by rw [e]; exact h.mg
  obtain ⟨e1, e2, e3, e4, e5⟩ := h.nes
  obtain ⟨cs, cn, cw, kv, a1, a2, a3, a4, a5, a6, hb0, hk⟩ := h.blk
  obtain ⟨kv', hb', hk'⟩ := hb cs cn cw kv hb0 hk
  exact ⟨h.lv, h.lb, h.n1, h.n2, hl, ⟨cs, cn, cw, kv', a1, a2, a3, a4, a5, a6, hb', hk'⟩, h.rowS.out ho hSM fun e => e1 e.symm, h.rowV.out ho hSM fun e => e2 e.symm, h.rowW.out ho fun e => e3 e.symm, h.ne, h.mg, h.ms, h.mn, h.mw, fun i hi => Nat.lt_of_lt_of_le (h.lt i hi) ho.size⟩

/-! ### Small calls -/
theorem rsize_any (h : RefM w M g rs rn rw R) : Calls Try.prog 45 #[.pointer (some ⟨g, 0, none⟩)] w fun e w' => e = .returned (.int .i64 (R.S.length : Int)) ∧ w' = w := by
  obtain ⟨cs, cn, cw, kv, a1, a2, a3, a4, a5, a6, hb, hk⟩ := h.blk
  have c1 : w.cell? ⟨g, 1, none⟩ = some (.slice (some ⟨rn, 0, none⟩) R.S.length cn) := hb.cell rfl
  clear h hb hk
  go_enter Try.func45, Try.ntmps45
  go_wp2
  go_ret
  exact ⟨rfl, rfl⟩
theorem rdead_any (h : RefM w M g rs rn rw R) : Calls Try.prog 43 #[.pointer (some ⟨g, 0, none⟩)] w fun e w' => e = .returned (.bool R.dead) ∧ w' = w := by
  obtain ⟨cs, cn, cw, kv, a1, a2, a3, a4, a5, a6, hb, hk⟩ := h.blk
  have c3 : w.cell? ⟨g, 3, none⟩ = some (.bool R.dead) := hb.cell rfl
  clear h hb hk
  go_enter Try.func43, Try.ntmps43
  go_wp2
  go_ret
  exact ⟨rfl, rfl⟩
def thereR (R : Rm) (x : Int) : Bool := decide (0 ≤ x ∧ x < R.S.length)
theorem rthere_any (h : RefM w M g rs rn rw R) (x : Int) : Calls Try.prog 49 #[.pointer (some ⟨g, 0, none⟩), .int .i64 x] w fun e w' => e = .returned (.bool (thereR R x)) ∧ w' = w := by
  obtain ⟨cs, cn, cw, kv, a1, a2, a3, a4, a5, a6, hb, hk⟩ := h.blk
  have c1 : w.cell? ⟨g, 1, none⟩ = some (.slice (some ⟨rn, 0, none⟩) R.S.length cn) := hb.cell rfl
  have hn := h.n2
  unfold thereR
  clear h hb hk
  by_cases h0 : 0 ≤ x
  · by_cases h1 : x < R.S.length
    · have e : decide (0 ≤ x ∧ x < (R.S.length : Int)) = true := by simp [h0, h1]
      rw [e]
      clear e
      go_enter Try.func49, Try.ntmps49
      go_wp2
      go_ret
      exact ⟨rfl, rfl⟩
    · have e : decide (0 ≤ x ∧ x < (R.S.length : Int)) = false := by simp; omega
      rw [e]
      clear e
      go_enter Try.func49, Try.ntmps49
      go_wp2
      go_ret
      exact ⟨rfl, rfl⟩
  · have e : decide (0 ≤ x ∧ x < (R.S.length : Int)) = false := by simp; omega
    rw [e]
    clear e
    go_enter Try.func49, Try.ntmps49
    go_wp2
    go_ret
    exact ⟨rfl, rfl⟩
theorem rboot_any (h : RefM w M g rs rn rw R) : Calls Try.prog 40 #[.pointer (some ⟨g, 0, none⟩)] w fun e w' => e = .returned (.int .i64 0) ∧ RefM w' M g rs rn rw { R with dead := false, fails := false } ∧ Out (G4 g rs rn rw) w w' := by
  have ho : Out (fun i => i = g) w ((w.setCell ⟨g, 3, none⟩ (.bool false)).setCell ⟨g, 4, none⟩ (.bool false)) := ((Out.refl (fun i => i = g) w).setCell (fun _ => rfl) _).setCell (fun _ => rfl) _
  have hfin := h.celled ho false false R.left R.K h.lw (fun cs cn cw kv hb hk => ⟨kv, (hb.set_ 3 _).set_ 4 _, hk.out ho fun i e => by rw [e]; exact h.mg⟩)
  have H := Lib.hid (And.intro hfin (ho.mono_ fun i e => (.inl e : G4 g rs rn rw i)))
  obtain ⟨cs, cn, cw, kv, a1, a2, a3, a4, a5, a6, hb, hk⟩ := h.blk
  have c3 : w.cell? ⟨g, 3, none⟩ = some (.bool R.dead) := hb.cell rfl
  have c4 : w.cell? ⟨g, 4, none⟩ = some (.bool R.fails) := hb.cell rfl
  have f3 : w.frozen? ⟨g, 3, none⟩ = false := hb.free 3
  have f4 : w.frozen? ⟨g, 4, none⟩ = false := hb.free 4
  clear h hb hk ho hfin
  go_enter Try.func40, Try.ntmps40
  go_wp2
  go_ret
  exact ⟨rfl, H.out⟩
end
end Go.Proofs.Ytmcbjcopipafdaa
