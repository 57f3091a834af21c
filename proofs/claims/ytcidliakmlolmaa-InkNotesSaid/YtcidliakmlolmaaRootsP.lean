/-
  The first 64 primes and their cube roots as they are reckoned: functions on lists and numbers; nothing of the program.
-/
import Derived.Test.YtcidliakmlolmaaDig
import Derived.Test.YtcidliakmlolmaaShelf
namespace Go.Proofs.Ytcidliakmlolmaa
set_option linter.unusedVariables false

/-! ### The sieve -/
def crossF : Nat → Nat → Nat → List Bool → List Bool
  | 0, _, _, C => C
  | f + 1, n, m, C => if m ≤ 311 then crossF f n (m + n) (C.set m true) else C
theorem crossF_end {f n m : Nat} {C : List Bool} (h : 311 < m) : crossF f n m C = C := by
  cases f with
  | zero => rfl
  | succ f => rw [crossF, if_neg (by omega)]
theorem crossF_step {f n m : Nat} {C : List Bool} (h : m ≤ 311) : crossF (f + 1) n m C = crossF f n (m + n) (C.set m true) := by
  rw [crossF, if_pos h]
theorem crossF_len (f n : Nat) : ∀ m C, (crossF f n m C).length = C.length := by
  induction f with
  | zero => intro m C; rfl
  | succ f ih =>
    intro m C
    rw [crossF]
    split
    · rw [ih, List.length_set]
    · rfl
structure Sv where
  found : Nat
  out : List Nat
  crossed : List Bool
def Sv.step (s : Sv) (n : Nat) : Sv :=
  if s.crossed.getD n false = true then s else ⟨s.found + 1, s.out.set s.found n, crossF 312 n (n * n) s.crossed⟩
def Sv.start : Sv := ⟨0, List.replicate 64 0, List.replicate 312 false⟩
def sv : Nat → Sv
  | 0 => Sv.start
  | i + 1 => (sv i).step (i + 2)
def svOk : Nat → Nat → Sv → Bool
  | 0, _, s => true
  | f + 1, i, s => (s.crossed.getD (i + 2) false || decide (s.found < 64)) && svOk f (i + 1) (s.step (i + 2))
theorem svOk_at (f : Nat) : ∀ i, svOk f i (sv i) = true → ∀ j, i ≤ j → j < i + f → (sv j).crossed.getD (j + 2) false = true ∨ (sv j).found < 64 := by
  induction f with
  | zero => intro i _ j h1 h2; omega
  | succ f ih =>
    intro i h j h1 h2
    rw [svOk, Bool.and_eq_true, Bool.or_eq_true, decide_eq_true_iff] at h
    by_cases e : j = i
    · subst e; exact h.1
    · exact ih (i + 1) h.2 j (by omega) (by omega)
theorem sv_lens (i : Nat) : (sv i).out.length = 64 ∧ (sv i).crossed.length = 312 := by
  induction i with
  | zero => exact ⟨List.length_replicate, List.length_replicate⟩
  | succ i ih =>
    rw [sv, Sv.step]
    split
    · exact ih
    · exact ⟨by simp only [List.length_set]; exact ih.1, by rw [crossF_len]; exact ih.2⟩
theorem sv_room : svOk 310 0 (sv 0) = true := by decide +kernel
theorem sv_found {i : Nat} (h : i < 310) (hc : (sv i).crossed.getD (i + 2) false = false) : (sv i).found < 64 := by
  have hr := sv_room
  have hx := svOk_at 310 0
  generalize (310 : Nat) = f at hr hx h
  have hi : i < 0 + f := by omega
  rcases hx hr i (Nat.zero_le _) hi with h1 | h1
  · rw [hc] at h1; cases h1
  · exact h1
def PP : List Nat := [2, 3, 5, 7, 11, 13, 17, 19, 23, 29, 31, 37, 41, 43, 47, 53, 59, 61, 67, 71, 73, 79, 83, 89, 97, 101, 103, 107, 109, 113, 127, 131, 137, 139, 149, 151, 157, 163, 167, 173, 179, 181, 191, 193, 197, 199, 211, 223, 227, 229, 233, 239, 241, 251, 257, 263, 269, 271, 277, 281, 283, 293, 307, 311]
theorem sv_end : (sv 310).out = PP := by decide +kernel

/-! ### The quotient, as it is reckoned -/
/-- One digit, brought down while it is too great. -/
def adj : Nat → Nat → Nat → Nat → Nat → Nat
  | 0, _, _, q, _ => q
  | f + 1, y1, y0, q, r =>
    if 4294967296 ≤ q ∨ 4294967296 * r % 18446744073709551616 < q * y0 % 18446744073709551616 then
      (if 4294967296 ≤ r + y1 then q - 1 else adj f y1 y0 (q - 1) (r + y1))
    else q
/-- How far a divisor is turned left. -/
def lead (y : Nat) : Nat := 64 - Lib.bitLen y
def qa (hi y : Nat) : Nat :=
  let t := y * 2 ^ lead y % 18446744073709551616
  let u := hi * 2 ^ lead y % 18446744073709551616
  adj 8 (t / 4294967296) (t % 4294967296) (u / (t / 4294967296)) (u % (t / 4294967296))
def ua (hi y : Nat) : Int := (((hi * 2 ^ lead y % 18446744073709551616 : Nat) : Int) * 4294967296 - (qa hi y : Int) * ((y * 2 ^ lead y % 18446744073709551616 : Nat) : Int)) % 18446744073709551616
def qb (hi y : Nat) : Nat :=
  let t := y * 2 ^ lead y % 18446744073709551616
  let u := (ua hi y).toNat
  adj 8 (t / 4294967296) (t % 4294967296) (u / (t / 4294967296)) (u % (t / 4294967296))
def quo (hi y : Nat) : Nat := (qa hi y * 4294967296 + qb hi y) % 18446744073709551616

/-! ### The root, as it is reckoned -/
def high (x : Nat) : Nat := x * x / 18446744073709551616
def low (x : Nat) : Nat := x * x % 18446744073709551616
def big (p x : Nat) : Bool := decide (p * 4294967296 ≤ (high x * x % 18446744073709551616 + low x * x / 18446744073709551616) % 18446744073709551616)
def dvs (x : Nat) : Nat := (high x * 144115188075855872 % 18446744073709551616) ||| (low x / 128)
def nxt (p x : Nat) : Nat := min ((2 * x + quo (p * 33554432) (dvs x)) % 18446744073709551616 / 3) (x - 1)
def newt : Nat → Nat → Nat → Nat
  | 0, _, x => x
  | f + 1, p, x => if big p x then newt f p (nxt p x) else x
/-- The root and the words, behind so many primes (the last one first). -/
structure Rt where
  root : Nat
  out : List Nat
def rt : Nat → Rt
  | 0 => ⟨30064771072, List.replicate 64 0⟩
  | i + 1 => ⟨newt 16 (PP.getD (63 - i) 0) (rt i).root, (rt i).out.set (63 - i) (newt 16 (PP.getD (63 - i) 0) (rt i).root % 4294967296)⟩
theorem rt_end : (rt 64).out = KK.map UInt32.toNat := by decide +kernel
end Go.Proofs.Ytcidliakmlolmaa
