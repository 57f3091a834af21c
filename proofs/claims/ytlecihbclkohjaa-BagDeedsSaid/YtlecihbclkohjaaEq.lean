/-
  Contracts over this seat's translation: EqBytes.
-/
import Derived.Test.YtlecihbclkohjaaRows
import Derived.Test.YtlecihbclkohjaaMem

namespace Go.Proofs.Ytlecihbclkohjaa

open Go.RowKit

set_option linter.unusedVariables false

theorem below_drewN {B : Nat} {a w : World} (h : Below B a w) (n : Nat) : Below B a (w.drewN n) := ⟨h.os, h.tape, h.output, h.size, h.block⟩

theorem eq_split {l m : List UInt8} (h : l ≠ m) (hl : l.length = m.length) : ∃ k, ∃ (h1 : k < l.length) (h2 : k < m.length), l[k] ≠ m[k] ∧ l.take k = m.take k := by
  induction l generalizing m with
  | nil => cases m with
    | nil => exact absurd rfl h
    | cons _ _ => simp at hl
  | cons a l ih =>
    cases m with
    | nil => simp at hl
    | cons b m =>
      by_cases hab : a = b
      · subst hab
        obtain ⟨k, h1, h2, h3, h4⟩ := ih (m := m) (by simpa using h) (by simpa using hl)
        exact ⟨k + 1, by simp; omega, by simp; omega, by simpa using h3, by simp [h4]⟩
      · exact ⟨0, by simp, by simp, by simpa using hab, by simp⟩

set_option maxHeartbeats 400000 in
theorem eqBytes_len (A A' : Option Addr) (c c' n m : Nat) (w : World) (h : n ≠ m) (hl : n ≤ maxLen) (hm : m ≤ maxLen) :
    Calls Try.prog 46 #[.slice A n c, .slice A' m c'] w fun e w' => e = .returned (.bool false) ∧ ∃ q, w' = w.drewN q := by
  unfold maxLen at hl hm
  have h1 : (!((n : Int) == (m : Int))) = true := by simp; omega
  go_enter Try.func46, Try.ntmps46
  go_wp2
  go_ret
  exact ⟨rfl, 0, rfl⟩

theorem ret_bool {a b : Bool} (h : a = b) : Ending.returned (.bool a) = .returned (.bool b) := by rw [h]

theorem ret_int {k : IntKind} {a b : Int} (h : a = b) : Ending.returned (.int k a) = .returned (.int k b) := by rw [h]

theorem ne_byte {x y : UInt8} (h : x ≠ y) : ¬ (x.toNat : Int) = (y.toNat : Int) := fun e => h (UInt8.toNat_inj.1 (by omega))

set_option maxHeartbeats 400000 in
theorem eqBytesQ (A A' : Option Addr) (c c' n m : Nat) (xs ys : List UInt8) (w : World) (hA : Bs w A xs) (hB : Bs w A' ys) (hn : xs.length = n) (hm : ys.length = m) (hl : n ≤ maxLen) (hl' : m ≤ maxLen) :
    Calls Try.prog 46 #[.slice A n c, .slice A' m c'] w fun e w' => e = .returned (.bool (xs == ys)) ∧ ∃ q, w' = w.drewN q := by
  by_cases hne : n = m
  rotate_left
  · have : (xs == ys) = false := by
      simp only [beq_eq_false_iff_ne, ne_eq]; rintro rfl; omega
    rw [this]
    exact eqBytes_len A A' c c' n m w hne hl hl'
  subst hne
  have key : ∀ k, k < n → ∃ b off b' off', A = some ⟨b, off, none⟩ ∧ A' = some ⟨b', off', none⟩ ∧ True := by
    intro k hk
    obtain ⟨b, off, e, _⟩ := hA.at_ (i := k) (by omega)
    obtain ⟨b', off', e', _⟩ := hB.at_ (i := k) (by omega)
    exact ⟨b, off, b', off', e, e', trivial⟩
  unfold maxLen at hl hl'
  go_enter Try.func46, Try.ntmps46
  go_wp2
  go_loopw [5] (fun i wr => ∃ k : Nat, k ≤ n ∧ i = .int .i64 k ∧ xs.take k = ys.take k ∧ ∃ q, wr = w.drewN q) (fun i _ => n - (intOf i).toNat)
  case atStart => exact ⟨0, Nat.zero_le _, rfl, by simp, 0, rfl⟩
  case round =>
    obtain ⟨k, hk, rfl, ht, q, rfl⟩ := hrel
    by_cases hlt : k < n
    · obtain ⟨b, off, rfl, hb, hc⟩ := hA.at_ (i := k) (by omega)
      obtain ⟨b', off', rfl, hb', hc'⟩ := hB.at_ (i := k) (by omega)
      have g := hc k (by omega)
      have g' := hc' k (by omega)
      clear hc hc'
      have hi0 : (0 : Int) ≤ k := by omega
      have hi1 : (k : Int) < n := by omega
      by_cases he : xs[k] = ys[k]
      · have hb1 : ((xs[k].toNat : Int) != (ys[k].toNat : Int)) = false := by rw [he]; simp
        have ht' : Hid (xs.take (k + 1) = ys.take (k + 1)) := by
          show _ = _
          rw [List.take_succ_eq_append_getElem (by omega), List.take_succ_eq_append_getElem (by omega), ht, he]
        clear he ht
        go_wp2
        go_quiet (fail)
        go_wp2
        go_roundw
        case rel => exact ⟨k + 1, by omega, by go_num, ht'.out, _, rfl⟩
        case measure => simp [intOf]; omega
      · have hb1 : ((xs[k].toNat : Int) != (ys[k].toNat : Int)) = true := by
          have := ne_byte he
          simpa using this
        have hfin : Hid ((xs == ys) = false) := by
          show _ = _
          simp only [beq_eq_false_iff_ne, ne_eq]
          rintro rfl; exact he rfl
        clear he ht
        go_wp2
        go_quiet (fail)
        go_wp2
        go_ret
        exact ⟨ret_bool hfin.out.symm, by first | exact ⟨_, rfl⟩ | exact ⟨_, World.drewN_drewN _ _ _⟩ | exact ⟨_, (World.drewN_drewN _ _ _).symm⟩⟩
    · have hfin : Hid ((xs == ys) = true) := by
        show _ = _
        have hk' : k = n := by omega
        rw [List.take_of_length_le (by omega), List.take_of_length_le (by omega)] at ht
        rw [ht]; simp
      clear ht
      go_wp2
      go_ret
      exact ⟨ret_bool hfin.out.symm, by first | exact ⟨_, rfl⟩ | exact ⟨_, World.drewN_drewN _ _ _⟩ | exact ⟨_, (World.drewN_drewN _ _ _).symm⟩⟩

theorem eqBytes (A A' : Option Addr) (c c' n m : Nat) (xs ys : List UInt8) (w : World) (hA : Bs w A xs) (hB : Bs w A' ys) (hn : xs.length = n) (hm : ys.length = m) (hl : n ≤ maxLen) (hl' : m ≤ maxLen) :
    Calls Try.prog 46 #[.slice A n c, .slice A' m c'] w fun e w' => e = .returned (.bool (xs == ys)) ∧ Below w.heap.size w w' := by
  refine (eqBytesQ A A' c c' n m xs ys w hA hB hn hm hl hl').mono ?_
  rintro e w' ⟨rfl, q, rfl⟩
  exact ⟨rfl, below_drewN (Below.refl _ _) _⟩

end Go.Proofs.Ytlecihbclkohjaa
