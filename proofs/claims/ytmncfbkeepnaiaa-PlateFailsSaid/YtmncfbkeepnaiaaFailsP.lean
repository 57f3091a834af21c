/-
  A plate that is to fail, as plain lists.
-/
import Derived.Test.YtmncfbkeepnaiaaAw
namespace Go.Proofs.Ytmncfbkeepnaiaa
set_option linter.unusedVariables false

def fst0 (k i : Nat) : Pl := ⟨List.replicate 64 zero64, List.replicate i (some (fb 7)) ++ List.replicate (64 - i) none, false, (k : Int) - i, [true]⟩
def fst (k i : Nat) : Pl := if i ≤ k then fst0 k i else power (fst0 k k) [true]
def fend (k : Nat) : Pl := bootP (power (fst0 k k) [true])

theorem fst_start (k : Nat) : (failP (newP 64) k [true]).1 = 0 ∧ (failP (newP 64) k [true]).2 = fst k 0 := by
  refine ⟨rfl, ?_⟩
  unfold failP setFail fst fst0
  rw [if_neg (by simp [newP]), if_pos (Nat.zero_le k)]
  simp only []
  rw [if_neg (by omega)]
  simp [newP, Pl.n]
theorem fst_dead (k i : Nat) : (fst k i).dead = decide (k < i) := by
  unfold fst
  by_cases h : i ≤ k
  · rw [if_pos h]; simp [fst0]; omega
  · rw [if_neg h]; simp [power]; omega
theorem set_some (i : Nat) (hi : i < 64) (x : List UInt8) : (List.replicate i (some x) ++ List.replicate (64 - i) none).set i (some x) = List.replicate (i + 1) (some x) ++ List.replicate (64 - (i + 1)) none := by
  have e1 : List.replicate (64 - i) (none : Option (List UInt8)) = none :: List.replicate (64 - (i + 1)) none := by rw [show 64 - i = (64 - (i + 1)) + 1 by omega, List.replicate_succ]
  rw [e1, List.replicate_succ', List.append_assoc]
  have h : (List.replicate i (some x)).length = i := by simp
  generalize List.replicate i (some x) = a at *
  generalize List.replicate (64 - (i + 1)) (none : Option (List UInt8)) = b at *
  subst h
  simp
theorem fst_step {k i : Nat} (hk : k ≤ 40) (hi : i < 50) : (writeP (fst k i) i (fb 7)).1 = (if i < k then 0 else 50) ∧ (writeP (fst k i) i (fb 7)).2 = fst k (i + 1) := by
  by_cases h : i ≤ k
  · have e : fst k i = fst0 k i := by unfold fst; rw [if_pos h]
    have hl : lackE (fst0 k i) i = 0 := by
      unfold lackE Pl.n fst0
      simp
      omega
    rw [e]
    unfold writeP
    rw [if_neg (by rw [hl]; decide), if_neg (by rw [fb_len]; decide)]
    by_cases h2 : i < k
    · have ha : ¬ (fst0 k i).ah = 0 := by show ¬ (k : Int) - i = 0; omega
      rw [if_neg ha, if_pos h2]
      refine ⟨rfl, ?_⟩
      have e2 : fst k (i + 1) = fst0 k (i + 1) := by unfold fst; rw [if_pos (by omega)]
      rw [e2]
      unfold count
      rw [if_neg (show ¬ (fst0 k i).ah = -1 by show ¬ (k : Int) - i = -1; omega)]
      unfold fst0
      simp only [Int.toNat_natCast, set_some i (by omega)]
      congr 1
      omega
    · have ha : (fst0 k i).ah = 0 := by show (k : Int) - i = 0; omega
      have hik : i = k := by omega
      subst hik
      rw [if_pos ha, if_neg h2]
      refine ⟨rfl, ?_⟩
      unfold fst
      rw [if_neg (by omega)]
      rfl
  · have e : fst k i = power (fst0 k k) [true] := by unfold fst; rw [if_neg h]
    have e2 : fst k (i + 1) = power (fst0 k k) [true] := by unfold fst; rw [if_neg (by omega)]
    have hl : lackE (power (fst0 k k) [true]) i = 50 := by unfold lackE; rw [if_pos (show (power (fst0 k k) [true]).dead = true from rfl)]
    rw [e, e2]
    unfold writeP
    rw [if_pos (by rw [hl]; decide), if_neg (by omega)]
    exact ⟨hl, rfl⟩
theorem fst_end {k : Nat} (hk : k ≤ 40) : fst k 50 = power (fst0 k k) [true] := by unfold fst; rw [if_neg (by omega)]
theorem fst_flush {k : Nat} (hk : k ≤ 40) : (flushP (fst k 50)).1 = 50 ∧ (flushP (fst k 50)).2 = fst k 50 := by
  rw [fst_end hk]
  unfold flushP
  rw [if_pos (show (power (fst0 k k) [true]).dead = true from rfl)]
  exact ⟨rfl, rfl⟩
theorem wk_none (n : Nat) : wk (List.replicate n none) = [] := by
  unfold wk
  rw [List.filter_eq_nil_iff]
  intro i hi
  rw [List.getElem?_replicate]
  split <;> simp
theorem zs_none (n : Nat) : zs (List.replicate n none) = [] := by unfold zs; rw [wk_none]; rfl
theorem fst_waits {k : Nat} (hk : k ≤ 40) : zs (fst k 50).wt = [] := by rw [fst_end hk]; exact zs_none _
theorem fst_boot {k : Nat} (hk : k ≤ 40) : bootP (fst k 50) = fend k := by rw [fst_end hk]; rfl
set_option maxRecDepth 100000 in
theorem fend_facts : ∀ k, k < 41 → hasB (fend k) 0 7 = decide (0 < k) ∧ hasB (fend k) 1 0 = true ∧ (flushP (fend k)).1 = 0 := by decide +kernel
end Go.Proofs.Ytmncfbkeepnaiaa
