/-
  Puts, then the power goes: as plain lists; two arrays laid into variables.
-/
import Derived.Test.YtmncfbkeepnaiaaPlay
namespace Go.Proofs.Ytmncfbkeepnaiaa
open Go.RowKit
set_option linter.unusedVariables false

/-- What is there behind a fall. -/
def fall (s : PS) (keep : List Bool) : Pl := bootP (power s.1 keep)
theorem fall_crash {s : PS} (h : Goodp s) (keep : List Bool) : (crashP s.1 keep).1 = 0 ∧ bootP (crashP s.1 keep).2 = fall s keep := by
  unfold crashP
  rw [h.dead]
  exact ⟨rfl, rfl⟩
theorem fall_read {s : PS} (h : Goodp s) (keep : List Bool) {i : Nat} (hi : i < 8) : readP (fall s keep) i = (0, fb (if keepF keep (rnk s.1.wt i) = true then s.2.2[i]?.getD 0 else s.2.1[i]?.getD 0)) := by
  have hn : (fall s keep).n = 8 := by show (mixA _ _ _).length = 8; rw [mixA_length]; exact h.st
  have hl : lackE (fall s keep) (i : Int) = 0 := by
    unfold lackE
    rw [hn, show (fall s keep).dead = false from rfl, if_neg (by decide), if_pos ⟨by omega, by omega⟩]
  unfold readP
  rw [if_neg (by rw [hl]; decide), Int.toNat_natCast]
  have e1 : (fall s keep).wt = List.replicate s.1.n none := rfl
  have e2 : (fall s keep).st = mixA (keepF keep) s.1.st s.1.wt := rfl
  rw [e1, e2, seen_none (by show i < s.1.st.length; rw [h.st]; exact hi), mixA_get _ _ _ (by rw [h.st]; exact hi)]
  have hw := h.was i hi
  rw [List.getElem?_eq_getElem (by rw [h.st]; exact hi)] at hw
  injection hw with hw
  rw [h.is_ i hi, hw]
  split <;> rfl
theorem hasB_of {P : Pl} {x : Int} {b : UInt8} (h : readP P x = (0, fb b)) : hasB P x b = true := by
  unfold hasB
  rw [h]
  simp [fb]
theorem fall_either {s : PS} (h : Goodp s) (keep : List Bool) {i : Nat} (hi : i < 8) : hasB (fall s keep) i (s.2.1[i]?.getD 0) = true ∨ hasB (fall s keep) i (s.2.2[i]?.getD 0) = true := by
  have := fall_read h keep hi
  split at this
  · exact .inr (hasB_of this)
  · exact .inl (hasB_of this)
theorem fall_wait {s : PS} (h : Goodp s) (keep : List Bool) {k i : Nat} (hk : (wk s.1.wt)[k]? = some i) : i < 8 ∧ hasB (fall s keep) i (if keepF keep k = true then s.2.2[i]?.getD 0 else s.2.1[i]?.getD 0) = true := by
  obtain ⟨hr, x, hx⟩ := wk_at hk
  have hi : i < 8 := by
    rcases Nat.lt_or_ge i s.1.wt.length with h' | h'
    · rw [h.wt] at h'; exact h'
    · rw [List.getElem?_eq_none h'] at hx; cases hx
  have := fall_read h keep hi
  rw [hr] at this
  exact ⟨hi, hasB_of this⟩

theorem rnk_le (wt : Wt) (i : Nat) : rnk wt i ≤ i := by
  unfold rnk
  exact Nat.le_trans (wk_len _) (by rw [List.length_take]; omega)
theorem fall_all {s : PS} (h : Goodp s) {i : Nat} (hi : i < 8) : hasB (fall s (List.replicate 8 true)) i (s.2.2[i]?.getD 0) = true := by
  have := fall_read h (List.replicate 8 true) hi
  have e : keepF (List.replicate 8 true) (rnk s.1.wt i) = true := by
    have := rnk_le s.1.wt i
    unfold keepF
    rw [List.getElem?_replicate, if_pos (by omega)]; rfl
  rw [if_pos e] at this
  exact hasB_of this
theorem fall_nothing {s : PS} (h : Goodp s) {i : Nat} (hi : i < 8) : hasB (fall s []) i (s.2.1[i]?.getD 0) = true := by
  have := fall_read h [] hi
  rw [if_neg (by simp [keepF])] at this
  exact hasB_of this
theorem zs_nones (n : Nat) : zs (List.replicate n none) = [] := by
  unfold zs wk
  rw [List.map_eq_nil_iff, List.filter_eq_nil_iff]
  intro i hi
  rw [List.getElem?_replicate]
  split <;> simp
theorem fall_waits (s : PS) (keep : List Bool) : zs (fall s keep).wt = [] := zs_nones _
/-- Another plate's call leaves it. -/
theorem Pk.other {w0 w w' : World} {M : Nat → Prop} {g r m g' r' m' : Nat} {P : Pl} (h : Pk w0 w M g r m P) (hO : Out (GRM g' r' m') w w') (hM : ∀ i, GRM g' r' m' i → M i) (hd : ∀ i, GRM g r m i → ¬ GRM g' r' m' i) : Pk w0 w' M g r m P :=
  h.out hO hM (hd _ (.inl rfl)) (hd _ (.inr (.inl rfl))) (hd _ (.inr (.inr rfl)))

/-- Two arrays of eight bytes laid into new variables. -/
theorem two8 (w : World) (D1 D2 : List Value) (h1 : D1.length = 8) (h2 : D2.length = 8) : ∃ wS, (((w.alloc zb8).alloc zb8).setCells w.heap.size 0 D1).setCells (w.heap.size + 1) 0 D2 = wS ∧
    ((w.alloc zb8).alloc zb8).there w.heap.size 0 D1.toArray.size ∧ (((w.alloc zb8).alloc zb8).setCells w.heap.size 0 D1).there (w.heap.size + 1) 0 D2.toArray.size ∧
    (Try.prog.info? 38).map (·.size) = some D1.toArray.size ∧ (Try.prog.info? 38).map (·.size) = some D2.toArray.size ∧
    Blk wS w.heap.size 38 D1 ∧ Blk wS (w.heap.size + 1) 38 D2 ∧ Below w.heap.size w wS := by
  have hs1 : D1.toArray.size = 8 := Eq.trans List.size_toArray h1
  have hs2 : D2.toArray.size = 8 := Eq.trans List.size_toArray h2
  have hB1 : Blk ((w.alloc zb8).alloc zb8) w.heap.size 38 (cbs z8) := (Blk.new rfl rfl).old _
  have hB2 : Blk ((w.alloc zb8).alloc zb8) (w.heap.size + 1) 38 (cbs z8) := Blk.new rfl (by simp)
  have hB2' := Blk.farAll (g' := w.heap.size) (by omega) D1 (o := 0) hB2
  have hB1' := hB1.setAll (vs := D1) (by rw [h1, cbs_length]; rfl)
  refine ⟨_, rfl, ?_, ?_, ?_, ?_, ?_, ?_, ?_⟩
  · have e := hB1.there
    rw [cbs_length] at e
    rw [hs1]; exact e
  · have e := hB2'.there
    rw [cbs_length] at e
    rw [hs2]; exact e
  · rw [hs1]; exact info8
  · rw [hs2]; exact info8
  · exact Blk.farAll (by omega) D2 hB1'
  · exact hB2'.setAll (vs := D2) (by rw [h2, cbs_length]; rfl)
  · exact Below.setCells (by omega) _ (Below.setCells (Nat.le_refl _) _ (((Below.refl _ _).alloc (Nat.le_refl _) _).alloc (by simp) _))
theorem Blk.byte {w : World} {b : Nat} {t : TypeId} {l : List UInt8} (h : Blk w b t (cbs l)) {i : Nat} (hi : i < l.length) : w.cell? ⟨b, i, none⟩ = some (.int .u8 ((l[i]?.getD 0).toNat : Int)) := by
  refine h.cell ?_
  rw [cbs_get, List.getElem?_eq_getElem hi]; rfl
end Go.Proofs.Ytmncfbkeepnaiaa
