/-
  Plain facts on what is written and taken off: the chapter's promises, of lists alone.
-/
import Derived.Test.YtjnoeojlmfmhdaaTake
import Derived.Test.YtjnoeojlmfmhdaaStr
namespace Go.Proofs.Ytjnoeojlmfmhdaa
set_option linter.unusedVariables false

theorem dgs_len_byte {n : Nat} (h : n ≤ 9007199254740991) : (UInt8.ofNat (dgs n).length).toNat = (dgs n).length := by
  have := dgs_len7 h
  rw [UInt8.toNat_ofNat', Nat.mod_eq_of_lt (by omega)]

theorem nu_num {n : Nat} (h : n ≤ 9007199254740991) (z : List UInt8) : nu (numB n ++ z) = (n, 1 + (dgs n).length, 0) := by
  have h7 := dgs_len7 h
  have hb := dgs_len_byte h
  have hv := val_dgs n
  have hh : ∀ x t, dgs n = x :: t → x ≠ 0 := fun x t e => dgs_head e
  unfold numB nu
  simp only [List.cons_append, hb]
  have e1 : (dgs n ++ z).take (dgs n).length = dgs n := by simp
  rw [if_neg (by omega), if_neg (by simp), e1, hv, if_neg (by
    rintro ⟨h0, h1⟩
    cases hd : dgs n with
    | nil => rw [hd] at h0; simp at h0
    | cons x t =>
      rw [hd] at h1
      simp at h1
      exact hh x t hd h1), if_neg (by omega)]
theorem tk_num {n : Nat} (h : n ≤ 9007199254740991) (z : List UInt8) : tk (numB n ++ z) = (n, z, 0) := by
  have hl : 1 + (dgs n).length = (numB n).length := by simp [numB]; omega
  unfold tk
  rw [nu_num h z]
  simp [hl]

/-- What is taken off is written so. -/
theorem nu_back {l : List UInt8} (h : (nu l).2.2 = 0) : (nu l).1 ≤ 9007199254740991 ∧ numB (nu l).1 = l.take (nu l).2.1 := by
  cases l with
  | nil => simp [nu] at h
  | cons b t =>
    unfold nu at h ⊢
    simp only at h ⊢
    split at h
    · simp at h
    rename_i h7
    split at h
    · simp at h
    rename_i hs
    split at h
    · simp at h
    rename_i hz
    split at h
    · simp at h
    rename_i hm
    rw [if_neg h7, if_neg hs, if_neg hz, if_neg hm]
    simp only
    refine ⟨by omega, ?_⟩
    have hd : dgs (val (t.take b.toNat)) = t.take b.toNat := by
      refine dgs_val ?_
      intro x u e
      intro hx
      subst hx
      refine hz ⟨?_, ?_⟩
      · rcases Nat.eq_zero_or_pos b.toNat with h0 | h0
        · rw [h0] at e; simp at e
        · exact h0
      · cases t with
        | nil => simp at e
        | cons y v =>
          cases hb : b.toNat with
          | zero => rw [hb] at e; simp at e
          | succ k => rw [hb] at e; simp at e; simp [e.1]
    unfold numB
    rw [hd]
    have hl : (t.take b.toNat).length = b.toNat := by rw [List.length_take]; omega
    rw [hl, Nat.add_comm 1, List.take_succ_cons]
    congr 1
    exact UInt8.ofNat_toNat
theorem tk_back {l : List UInt8} {n : Nat} {rest : List UInt8} (h : tk l = (n, rest, 0)) : n ≤ 9007199254740991 ∧ numB n ++ rest = l := by
  unfold tk at h
  split at h
  · rename_i h0
    simp only [Prod.mk.injEq] at h
    obtain ⟨rfl, rfl, _⟩ := h
    obtain ⟨h1, h2⟩ := nu_back h0
    exact ⟨h1, by rw [h2, List.take_append_drop]⟩
  · rename_i h0
    simp only [Prod.mk.injEq] at h
    exact absurd h.2.2 h0
theorem tk_err0 {l : List UInt8} {n e : Nat} {rest : List UInt8} (h : tk l = (n, rest, e)) (he : e ≠ 0) : n = 0 ∧ rest = [] := by
  unfold tk at h
  split at h
  · simp only [Prod.mk.injEq] at h; exact absurd h.2.2.symm he
  · simp only [Prod.mk.injEq] at h; exact ⟨h.1.symm, h.2.1.symm⟩

theorem tf_front (s z : List UInt8) : tf (s ++ z) (s.length : Nat) = (s, z, 0) := by
  unfold tf
  rw [if_neg (by omega), if_neg (by simp; omega)]
  simp
theorem ts_text {s z : List UInt8} {most : Int} (h : s.length ≤ 65536) (h0 : 0 ≤ most) :
    ts (numB s.length ++ s ++ z) most = if most < s.length then ([], [], 5) else (s, z, 0) := by
  have hn := nu_num (n := s.length) (by omega) (s ++ z)
  have hl : 1 + (dgs s.length).length = (numB s.length).length := by simp [numB]; omega
  unfold ts
  rw [List.append_assoc, hn]
  rw [if_neg (by omega), if_neg (by simp)]
  by_cases hm : most < s.length
  · rw [if_pos (.inl hm), if_pos hm]
  · rw [if_neg (by simp; omega), if_neg hm]
    simp only [hl]
    rw [List.drop_left]
    exact tf_front s z
theorem ts_neg (l : List UInt8) {most : Int} (h : most < 0) : ts l most = ([], [], 2) := by unfold ts; rw [if_pos h]
theorem tf_err {l s z : List UInt8} {n : Int} {e : Nat} (h : tf l n = (s, z, e)) (he : e ≠ 0) : s = [] ∧ z = [] := by
  unfold tf at h
  split at h
  · simp only [Prod.mk.injEq] at h; exact ⟨h.1.symm, h.2.1.symm⟩
  · split at h
    · simp only [Prod.mk.injEq] at h; exact ⟨h.1.symm, h.2.1.symm⟩
    · simp only [Prod.mk.injEq] at h; exact absurd h.2.2.symm he
theorem tf_ok {l s z : List UInt8} {n : Int} (h : tf l n = (s, z, 0)) : 0 ≤ n ∧ (s.length : Int) = n ∧ s ++ z = l := by
  unfold tf at h
  split at h
  · simp at h
  · split at h
    · simp at h
    · simp only [Prod.mk.injEq] at h
      obtain ⟨rfl, rfl, _⟩ := h
      exact ⟨by omega, by rw [List.length_take]; omega, List.take_append_drop _ _⟩
theorem ts_err {l s z : List UInt8} {most : Int} {e : Nat} (h : ts l most = (s, z, e)) (he : e ≠ 0) : s = [] ∧ z = [] := by
  unfold ts at h
  split at h
  · simp only [Prod.mk.injEq] at h; exact ⟨h.1.symm, h.2.1.symm⟩
  · split at h
    · simp only [Prod.mk.injEq] at h; exact ⟨h.1.symm, h.2.1.symm⟩
    · split at h
      · simp only [Prod.mk.injEq] at h; exact ⟨h.1.symm, h.2.1.symm⟩
      · exact tf_err h he
theorem ts_ok {l s z : List UInt8} {most : Int} (h : ts l most = (s, z, 0)) : s.length ≤ 65536 ∧ (s.length : Int) ≤ most ∧ numB s.length ++ (s ++ z) = l := by
  unfold ts at h
  split at h
  · simp at h
  · split at h
    · rename_i h1; simp only [Prod.mk.injEq] at h; exact absurd h.2.2 h1
    · split at h
      · simp at h
      · rename_i h0 h1 h2
        obtain ⟨h3, h4, h5⟩ := tf_ok h
        have h1' : (nu l).2.2 = 0 := by simpa using h1
        obtain ⟨h6, h7⟩ := nu_back h1'
        have h8 : s.length = (nu l).1 := by omega
        refine ⟨by omega, by omega, ?_⟩
        rw [h8, h7, h5, List.take_append_drop]

theorem numB_length {n : Nat} : (numB n).length = 1 + (dgs n).length := by simp [numB]; omega
theorem numB_inj {n m k : Nat} (hn : n ≤ 9007199254740991) (hm : m ≤ 9007199254740991) (hk : k = min (numB n).length (numB m).length) : ((numB n).take k == (numB m).take k) = decide (n = m) := by
  by_cases h : n = m
  · subst h; simp
  · simp only [h, decide_false, beq_eq_false_iff_ne, ne_eq]
    intro he
    have h1 := nu_num hn []
    have h2 := nu_num hm []
    have l1 := numB_length (n := n)
    have l2 := numB_length (n := m)
    have hd : UInt8.ofNat (dgs n).length = UInt8.ofNat (dgs m).length := by
      have : 0 < k := by omega
      obtain ⟨j, rfl⟩ : ∃ j, k = j + 1 := ⟨k - 1, by omega⟩
      unfold numB at he
      simp only [List.take_succ_cons] at he
      injection he
    have hl : (dgs n).length = (dgs m).length := by
      rw [← dgs_len_byte hn, ← dgs_len_byte hm, hd]
    rw [List.take_of_length_le (by omega), List.take_of_length_le (by omega)] at he
    rw [he, h2] at h1
    simp at h1
    exact h h1.1.symm

theorem tk_short {n j : Nat} (h : n ≤ 9007199254740991) (hj : j < (numB n).length) : tk ((numB n).take j) = (0, [], 3) := by
  have hb := dgs_len_byte h
  have h7 := dgs_len7 h
  have hl := numB_length (n := n)
  cases j with
  | zero => rfl
  | succ j =>
    unfold tk
    have hn : nu ((numB n).take (j + 1)) = (0, 0, 3) := by
      unfold numB nu
      simp only [List.take_succ_cons, hb]
      rw [if_neg (by omega), if_pos (by rw [List.length_take]; omega)]
    rw [hn]
    rfl

/-- The first place at which two numbers' bytes part tells which number is less. -/
theorem val_less {l m : List UInt8} {i : Nat} (hl : l.length = m.length) (hi : i < l.length) (hi' : i < m.length) (ht : l.take i = m.take i) (hx : l[i] < m[i]) : val l < val m := by
  induction l generalizing m i with
  | nil => simp at hi
  | cons x l ih =>
    cases m with
    | nil => simp at hi'
    | cons y m =>
      rw [val_cons, val_cons]
      cases i with
      | zero =>
        simp only [List.getElem_cons_zero] at hx
        have h1 := val_lt l
        have hx' : x.toNat < y.toNat := by rwa [UInt8.lt_iff_toNat_lt] at hx
        have hl' : l.length = m.length := by simpa using hl
        rw [hl'] at h1
        rw [hl']
        have h2 : (x.toNat + 1) * 256 ^ m.length ≤ y.toNat * 256 ^ m.length := Nat.mul_le_mul_right _ (by omega)
        rw [Nat.add_mul] at h2
        omega
      | succ i =>
        simp only [List.take_succ_cons] at ht
        injection ht with ht0 ht
        subst ht0
        have hl' : l.length = m.length := by simpa using hl
        have := ih (m := m) (i := i) hl' (by simpa using hi) (by simpa using hi') ht (by simpa using hx)
        rw [hl']
        omega
theorem dgs_more {n m : Nat} (h : (dgs n).length < (dgs m).length) : n < m := by
  have h1 := val_lt (dgs n)
  rw [val_dgs] at h1
  rcases Nat.lt_or_ge n m with h2 | h2
  · exact h2
  · exfalso
    have h3 : m < 256 ^ (dgs n).length := by omega
    have := dgs_len h3
    omega
theorem numB_less {n m : Nat} (hn : n ≤ 9007199254740991) (hm : m ≤ 9007199254740991) {i : Nat} (h1 : i < (numB n).length) (h2 : i < (numB m).length) (ht : (numB n).take i = (numB m).take i) (hx : (numB n)[i] < (numB m)[i]) : n < m := by
  cases i with
  | zero =>
    have hx' : UInt8.ofNat (dgs n).length < UInt8.ofNat (dgs m).length := hx
    rw [UInt8.lt_iff_toNat_lt, dgs_len_byte hn, dgs_len_byte hm] at hx'
    exact dgs_more hx'
  | succ i =>
    unfold numB at ht
    simp only [List.take_succ_cons] at ht
    injection ht with h0 ht
    have hl : (dgs n).length = (dgs m).length := by rw [← dgs_len_byte hn, ← dgs_len_byte hm, h0]
    have l1 := numB_length (n := n)
    have l2 := numB_length (n := m)
    have := val_less (l := dgs n) (m := dgs m) (i := i) hl (by omega) (by omega) ht hx
    rwa [val_dgs, val_dgs] at this
theorem numB_same {n m : Nat} (hn : n ≤ 9007199254740991) (hm : m ≤ 9007199254740991) {k : Nat} (hk : ¬ (k < (numB n).length ∧ k < (numB m).length)) (ht : (numB n).take k = (numB m).take k) : n = m := by
  have h := numB_inj hn hm (k := min (numB n).length (numB m).length) rfl
  have e : (numB n).take (min (numB n).length (numB m).length) = (numB m).take (min (numB n).length (numB m).length) := by
    have h1 := congrArg (List.take (min (numB n).length (numB m).length)) ht
    rw [List.take_take, List.take_take, Nat.min_eq_left (by omega)] at h1
    exact h1
  rw [e] at h
  simpa using h
end Go.Proofs.Ytjnoeojlmfmhdaa
