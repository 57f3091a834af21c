/-
  Plain facts on numbers as bytes: the chapter's words, as Lean functions on lists; nothing of the program.
-/
import Derived.Below
import Derived.Lib.BitFns
namespace Go.Proofs.Ytjnoeojlmfmhdaa
set_option linter.unusedVariables false

/-- A number's bytes, the highest first, none ahead. -/
def dgs (n : Nat) : List UInt8 := if h : n = 0 then [] else dgs (n / 256) ++ [UInt8.ofNat (n % 256)]
termination_by n
decreasing_by omega

def valFrom (a : Nat) (l : List UInt8) : Nat := l.foldl (fun a b => a * 256 + b.toNat) a
def val (l : List UInt8) : Nat := valFrom 0 l

theorem valFrom_append (a : Nat) (l m : List UInt8) : valFrom a (l ++ m) = valFrom (valFrom a l) m := by simp [valFrom]
theorem val_snoc (l : List UInt8) (x : UInt8) : val (l ++ [x]) = val l * 256 + x.toNat := by simp [val, valFrom]
theorem valFrom_eq (a : Nat) (l : List UInt8) : valFrom a l = a * 256 ^ l.length + val l := by
  induction l generalizing a with
  | nil => simp [valFrom, val]
  | cons x l ih =>
    have h1 : valFrom a (x :: l) = valFrom (a * 256 + x.toNat) l := rfl
    have h2 : val (x :: l) = valFrom (0 * 256 + x.toNat) l := rfl
    rw [h1, h2, ih, ih (0 * 256 + x.toNat), List.length_cons, Nat.pow_succ]
    have e1 : (a * 256 + x.toNat) * 256 ^ l.length = a * (256 ^ l.length * 256) + x.toNat * 256 ^ l.length := by rw [Nat.add_mul, Nat.mul_assoc, Nat.mul_comm 256]
    have e2 : (0 * 256 + x.toNat) * 256 ^ l.length = x.toNat * 256 ^ l.length := by simp
    omega
theorem val_cons (x : UInt8) (l : List UInt8) : val (x :: l) = x.toNat * 256 ^ l.length + val l := by
  have h2 : val (x :: l) = valFrom (0 * 256 + x.toNat) l := rfl
  rw [h2, valFrom_eq]; simp
theorem val_lt (l : List UInt8) : val l < 256 ^ l.length := by
  induction l with
  | nil => simp [val, valFrom]
  | cons x l ih =>
    rw [val_cons, List.length_cons, Nat.pow_succ]
    have := x.toNat_lt
    have h : x.toNat * 256 ^ l.length ≤ 255 * 256 ^ l.length := Nat.mul_le_mul_right _ (by omega)
    omega
theorem dgs_zero : dgs 0 = [] := by unfold dgs; simp
theorem dgs_pos {n : Nat} (h : 0 < n) : dgs n = dgs (n / 256) ++ [UInt8.ofNat (n % 256)] := by
  rw [dgs, dif_neg (by omega)]
theorem val_dgs (n : Nat) : val (dgs n) = n := by
  induction n using Nat.strongRecOn with
  | _ n ih =>
    rcases Nat.eq_zero_or_pos n with h | h
    · subst h; rw [dgs_zero]; rfl
    · rw [dgs_pos h, val_snoc, ih _ (by omega)]
      have : (UInt8.ofNat (n % 256)).toNat = n % 256 := by simp [UInt8.toNat_ofNat']
      omega
theorem dgs_len {n k : Nat} (h : n < 256 ^ k) : (dgs n).length ≤ k := by
  induction k generalizing n with
  | zero => have : n = 0 := by simpa using h
            subst this; simp [dgs_zero]
  | succ k ih =>
    rcases Nat.eq_zero_or_pos n with h0 | h0
    · subst h0; simp [dgs_zero]
    · rw [dgs_pos h0]
      have := ih (n := n / 256) (by rw [Nat.pow_succ] at h; omega)
      simp; omega
theorem dgs_len7 {n : Nat} (h : n ≤ 9007199254740991) : (dgs n).length ≤ 7 := dgs_len (by omega)
theorem dgs_head {n : Nat} {x : UInt8} {t : List UInt8} (h : dgs n = x :: t) : x ≠ 0 := by
  induction n using Nat.strongRecOn generalizing x t with
  | _ n ih =>
    rcases Nat.eq_zero_or_pos n with h0 | h0
    · subst h0; rw [dgs_zero] at h; cases h
    · rw [dgs_pos h0] at h
      cases hd : dgs (n / 256) with
      | nil =>
        rw [hd] at h
        have h1 : n / 256 = 0 := by rw [← val_dgs (n / 256), hd]; rfl
        simp at h
        obtain ⟨rfl, _⟩ := h
        intro e
        have := congrArg UInt8.toNat e
        simp [UInt8.toNat_ofNat'] at this
        omega
      | cons y u =>
        rw [hd] at h
        simp at h
        obtain ⟨rfl, _⟩ := h
        exact ih _ (by omega) hd
theorem dgs_val {l : List UInt8} (h : ∀ x t, l = x :: t → x ≠ 0) : dgs (val l) = l := by
  induction hn : l.length generalizing l with
  | zero => have := List.eq_nil_of_length_eq_zero hn; subst this; exact dgs_zero
  | succ k ih =>
    obtain ⟨m, x, rfl⟩ : ∃ m x, l = m ++ [x] := ⟨l.dropLast, l.getLast (by rintro rfl; simp at hn), (List.dropLast_concat_getLast _).symm⟩
    have hx := x.toNat_lt
    rw [val_snoc]
    have hpos : 0 < val m * 256 + x.toNat := by
      cases m with
      | nil =>
        have := h x [] rfl
        have : x.toNat ≠ 0 := fun e => this (UInt8.toNat_inj.1 (by simpa using e))
        omega
      | cons y u =>
        have := h y (u ++ [x]) rfl
        have : y.toNat ≠ 0 := fun e => this (UInt8.toNat_inj.1 (by simpa using e))
        rw [val_cons]
        have : 1 ≤ 256 ^ u.length := Nat.one_le_pow _ _ (by omega)
        have : 1 * 1 ≤ y.toNat * 256 ^ u.length := Nat.mul_le_mul (by omega) this
        omega
    rw [dgs_pos hpos]
    have h1 : (val m * 256 + x.toNat) / 256 = val m := by omega
    have h2 : (val m * 256 + x.toNat) % 256 = x.toNat := by omega
    rw [h1, h2, ih (l := m) (fun y t e => h y (t ++ [x]) (by rw [e]; rfl)) (by simpa using hn)]
    simp

theorem dgs_at {n i : Nat} (h : i < (dgs n).length) : (dgs n)[(dgs n).length - 1 - i]'(by omega) = UInt8.ofNat (n / 256 ^ i % 256) := by
  induction i generalizing n with
  | zero =>
    rcases Nat.eq_zero_or_pos n with h0 | h0
    · subst h0; simp [dgs_zero] at h
    · simp [dgs_pos h0]
  | succ i ih =>
    rcases Nat.eq_zero_or_pos n with h0 | h0
    · subst h0; simp [dgs_zero] at h
    · have hl : i < (dgs (n / 256)).length := by rw [dgs_pos h0] at h; simp at h; omega
      have := ih hl
      have e1 : (dgs n).length - 1 - (i + 1) = (dgs (n / 256)).length - 1 - i := by rw [dgs_pos h0]; simp; omega
      have e2 : n / 256 ^ (i + 1) = n / 256 / 256 ^ i := by rw [Nat.pow_succ, Nat.mul_comm, Nat.div_div_eq_div_mul]
      rw [e2, ← this]
      simp only [e1]
      have e3 : (dgs n)[(dgs (n / 256)).length - 1 - i]? = (dgs (n / 256))[(dgs (n / 256)).length - 1 - i]? := by
        rw [dgs_pos h0, List.getElem?_append_left (by omega)]
      rw [List.getElem?_eq_getElem (by omega), List.getElem?_eq_getElem (by omega)] at e3
      exact Option.some.inj e3

/-- The bytes of a number: how many follow, and these. -/
def numB (n : Nat) : List UInt8 := UInt8.ofNat (dgs n).length :: dgs n

/-- What stands at the beginning of bytes, as a number: it, how many bytes it takes up, the error. -/
def nu (l : List UInt8) : Nat × Nat × Nat :=
  match l with
  | [] => (0, 0, 3)
  | b :: t =>
    if 7 < b.toNat then (0, 0, 4)
    else if t.length < b.toNat then (0, 0, 3)
    else if 0 < b.toNat ∧ t.head? = some 0 then (0, 0, 4)
    else if 9007199254740991 < val (t.take b.toNat) then (0, 0, 9)
    else (val (t.take b.toNat), 1 + b.toNat, 0)

theorem dgs_bits (n : Nat) (h : n < 18446744073709551616) : (Lib.bitLen n + 7) / 8 = (dgs n).length := by
  induction n using Nat.strongRecOn with
  | _ n ih =>
    rcases Nat.eq_zero_or_pos n with h0 | h0
    · subst h0; rw [dgs_zero]; decide
    · rw [dgs_pos h0, List.length_append, ← ih (n / 256) (by omega) (by omega)]
      by_cases hb : 256 ≤ n
      · rw [Lib.bitLen_shift8 n hb h]; simp; omega
      · have h1 : n / 256 = 0 := by omega
        have h2 := Lib.bitLen_half n (by omega) (by omega)
        have h3 := Lib.bitLen_le n 8 (by omega) (by omega)
        have h4 : Lib.bitLen 0 = 0 := by decide
        rw [h1, h4]
        simp
        omega

/-- A number's bytes while they are written from behind: 'i' of them stand. -/
def part (n i : Nat) : List UInt8 := UInt8.ofNat (dgs n).length :: (List.replicate ((dgs n).length - i) 0 ++ (dgs n).drop ((dgs n).length - i))
theorem part_len (n i : Nat) (h : i ≤ (dgs n).length) : (part n i).length = 1 + (dgs n).length := by simp [part]; omega
theorem part_end (n : Nat) : part n (dgs n).length = numB n := by simp [part, numB]
theorem part_aux (D : List UInt8) (x : UInt8) (k : Nat) (hk : k < D.length) : (x :: (List.replicate (k + 1) 0 ++ D.drop (k + 1))).set (k + 1) D[k] = x :: (List.replicate k 0 ++ D.drop k) := by
  rw [List.set_cons_succ, List.replicate_succ', List.append_assoc, List.set_append_right _ _ (by simp)]
  simp
theorem part_step (n i : Nat) (h : i < (dgs n).length) : (part n i).set ((dgs n).length - i) (UInt8.ofNat (n / 256 ^ i % 256)) = part n (i + 1) := by
  rw [← dgs_at h]
  unfold part
  have e1 : (dgs n).length - (i + 1) = (dgs n).length - 1 - i := by omega
  have e2 : (dgs n).length - i = (dgs n).length - 1 - i + 1 := by omega
  rw [e1, e2]
  exact part_aux _ _ _ _
end Go.Proofs.Ytjnoeojlmfmhdaa
