/-
  Sums of bytes as functions on words and lists: nothing of the program.
-/
import Derived.Test.YtdfphefhabgjhaaMem
namespace Go.Proofs.Ytdfphefhabgjhaa
set_option linter.unusedVariables false

def poly : UInt64 := 14514072000185962306
/-- One bit is shifted out. -/
def sh1 (s : UInt64) : UInt64 := if s.toNat % 2 = 1 then (s >>> 1) ^^^ poly else s >>> 1
def shn : Nat → UInt64 → UInt64
  | 0, s => s
  | k + 1, s => shn k (sh1 s)
def stepC (s : UInt64) (c : UInt8) : UInt64 := shn 8 (s ^^^ c.toUInt64)
def runC (s : UInt64) (l : List UInt8) : UInt64 := l.foldl stepC s
def addC (s : UInt64) (l : List UInt8) : UInt64 := ~~~(runC (~~~s) l)
def ofC (l : List UInt8) : UInt64 := addC 0 l

theorem shn_add (a b : Nat) (s : UInt64) : shn (a + b) s = shn b (shn a s) := by
  induction a generalizing s with
  | zero => rw [Nat.zero_add]; rfl
  | succ a ih => rw [Nat.succ_add]; exact ih (sh1 s)
theorem shn_succ (k : Nat) (s : UInt64) : shn (k + 1) s = sh1 (shn k s) := by rw [shn_add]; rfl

theorem x_shr (a b : UInt64) : (a ^^^ b) >>> 1 = (a >>> 1) ^^^ (b >>> 1) := by
  apply UInt64.toNat_inj.1
  simp only [UInt64.toNat_xor, UInt64.toNat_shiftRight]
  exact Nat.shiftRight_xor_distrib
theorem x_left (a b c d : UInt64) : (a ^^^ c) ^^^ (b ^^^ d) = (a ^^^ b) ^^^ (c ^^^ d) := by
  rw [UInt64.xor_assoc, UInt64.xor_assoc, ← UInt64.xor_assoc c b d, UInt64.xor_comm c b, UInt64.xor_assoc]
theorem sh1_xor (a b : UInt64) : sh1 (a ^^^ b) = sh1 a ^^^ sh1 b := by
  have hm : (a ^^^ b).toNat % 2 = (a.toNat % 2) ^^^ (b.toNat % 2) := by
    rw [UInt64.toNat_xor]; exact Nat.xor_mod_two_pow (n := 1)
  unfold sh1
  rw [hm, x_shr]
  rcases Nat.mod_two_eq_zero_or_one a.toNat with h | h <;> rcases Nat.mod_two_eq_zero_or_one b.toNat with h' | h' <;> rw [h, h'] <;> simp
  · rw [UInt64.xor_assoc]
  · rw [UInt64.xor_assoc, UInt64.xor_assoc, UInt64.xor_comm poly]
  · rw [x_left]; simp
theorem shn_xor (k : Nat) (a b : UInt64) : shn k (a ^^^ b) = shn k a ^^^ shn k b := by
  induction k generalizing a b with
  | zero => rfl
  | succ k ih => show shn k (sh1 _) = _; rw [sh1_xor, ih]; rfl
theorem shn_zero (k : Nat) : shn k 0 = 0 := by
  induction k with
  | zero => rfl
  | succ k ih => rw [shn_succ, ih]; rfl
theorem sh1_none {s : UInt64} (h : sh1 s = 0) : s = 0 := by
  have hs := s.toNat_lt
  have e2 : (s >>> 1).toNat = s.toNat / 2 := by
    rw [UInt64.toNat_shiftRight, Nat.shiftRight_eq_div_pow]; rfl
  unfold sh1 at h
  apply UInt64.toNat_inj.1
  by_cases ho : s.toNat % 2 = 1
  · rw [if_pos ho] at h
    have h2 : s >>> 1 = poly := by
      have := congrArg (· ^^^ poly) h
      simpa [UInt64.xor_assoc] using this
    have h3 := congrArg UInt64.toNat h2
    rw [e2] at h3
    have : poly.toNat = 14514072000185962306 := rfl
    omega
  · rw [if_neg ho] at h
    have h3 := congrArg UInt64.toNat h
    rw [e2] at h3
    have : (0 : UInt64).toNat = 0 := rfl
    omega
theorem shn_none {k : Nat} {s : UInt64} (h : shn k s = 0) : s = 0 := by
  induction k generalizing s with
  | zero => exact h
  | succ k ih => exact sh1_none (ih h)
theorem xor_none {a b : UInt64} : a ^^^ b = 0 ↔ a = b := UInt64.xor_eq_zero_iff
theorem shn_inj {k : Nat} {a b : UInt64} : shn k a = shn k b ↔ a = b := by
  refine ⟨fun h => ?_, fun h => by rw [h]⟩
  rw [← xor_none, ← shn_xor] at h
  exact xor_none.1 (shn_none h)

theorem stepC_xor (x y : UInt64) (c d : UInt8) : stepC x c ^^^ stepC y d = stepC (x ^^^ y) (c ^^^ d) := by
  unfold stepC
  rw [← shn_xor, x_left, UInt8.toUInt64_xor]
theorem toU64_inj {c d : UInt8} : c.toUInt64 = d.toUInt64 ↔ c = d := by
  refine ⟨fun h => ?_, fun h => by rw [h]⟩
  have := congrArg UInt64.toNat h
  simp at this
  exact UInt8.toNat_inj.1 this
theorem x_cancel {x a b : UInt64} : x ^^^ a = x ^^^ b ↔ a = b := by
  refine ⟨fun h => ?_, fun h => by rw [h]⟩
  have := congrArg (x ^^^ ·) h
  simpa [← UInt64.xor_assoc] using this
theorem stepC_bytes (x : UInt64) (c d : UInt8) : stepC x c = stepC x d ↔ c = d := by
  unfold stepC
  rw [shn_inj, x_cancel, toU64_inj]
theorem stepC_back (x y : UInt64) (c : UInt8) : stepC x c = stepC y c ↔ x = y := by
  unfold stepC
  rw [shn_inj, UInt64.xor_comm x, UInt64.xor_comm y, x_cancel]

/-! ### By halves -/
theorem shn_low {k : Nat} {s : UInt64} (hk : k ≤ 63) (h : s.toNat % 2 ^ k = 0) : (shn k s).toNat = s.toNat / 2 ^ k := by
  induction k generalizing s with
  | zero => show s.toNat = _; simp
  | succ k ih =>
    have e2 : (s >>> 1).toNat = s.toNat / 2 := by rw [UInt64.toNat_shiftRight, Nat.shiftRight_eq_div_pow]; rfl
    have hp : 2 ^ (k + 1) = 2 * 2 ^ k := by rw [Nat.pow_succ, Nat.mul_comm]
    rw [hp] at h ⊢
    have ho : s.toNat % 2 = 0 := by
      have := congrArg (· % 2) h
      simp only [Nat.mod_mul_right_mod] at this
      simpa using this
    have e1 : sh1 s = s >>> 1 := by unfold sh1; rw [if_neg (by omega)]
    show (shn k (sh1 s)).toNat = _
    rw [e1, ih (by omega) (by
      rw [e2]
      rw [Nat.mod_mul] at h
      have hz : 2 * (s.toNat / 2 % 2 ^ k) = 0 := by omega
      omega), e2, Nat.div_div_eq_div_mul]
theorem shn_half (s : UInt64) : shn 4 s = (s >>> 4) ^^^ shn 4 (UInt64.ofNat (s.toNat % 16)) := by
  obtain ⟨t, ht⟩ : ∃ t, UInt64.ofNat (s.toNat % 16) = t := ⟨_, rfl⟩
  have htn : t.toNat = s.toNat % 16 := by rw [← ht, UInt64.toNat_ofNat']; omega
  rw [ht]
  have hlow : (s ^^^ t).toNat % 2 ^ 4 = 0 := by
    rw [UInt64.toNat_xor, Nat.xor_mod_two_pow, htn, show (2 : Nat) ^ 4 = 16 from rfl, Nat.mod_mod, Nat.xor_self]
  have h1 : shn 4 (s ^^^ t) = s >>> 4 := by
    apply UInt64.toNat_inj.1
    rw [shn_low (by omega) hlow, UInt64.toNat_shiftRight, UInt64.toNat_xor, htn, ← Nat.shiftRight_eq_div_pow, Nat.shiftRight_xor_distrib]
    have : (s.toNat % 16) >>> 4 = 0 := by rw [Nat.shiftRight_eq_div_pow]; omega
    rw [this, Nat.xor_zero]; rfl
  have h2 : s = (s ^^^ t) ^^^ t := by rw [UInt64.xor_assoc, UInt64.xor_self, UInt64.xor_zero]
  conv => lhs; rw [h2]
  rw [shn_xor, h1]

/-! ### Bytes, one behind the other -/
theorem runC_app (s : UInt64) (l m : List UInt8) : runC s (l ++ m) = runC (runC s l) m := by unfold runC; rw [List.foldl_append]
theorem runC_succ (s : UInt64) (l : List UInt8) (k : Nat) (h : k < l.length) : runC s (l.take (k + 1)) = stepC (runC s (l.take k)) l[k] := by
  rw [List.take_succ_eq_append_getElem h, runC_app]; rfl
theorem not_not64 (x : UInt64) : ~~~(~~~x) = x := by simp
theorem addC_nil (s : UInt64) : addC s [] = s := by unfold addC runC; simp
theorem addC_app (s : UInt64) (l m : List UInt8) : addC s (l ++ m) = addC (addC s l) m := by
  unfold addC; rw [runC_app, not_not64]
theorem ofC_app (l m : List UInt8) : addC (ofC l) m = ofC (l ++ m) := (addC_app 0 l m).symm
theorem runC_more (s d : UInt64) (l : List UInt8) : runC (s ^^^ d) l = runC s l ^^^ shn (8 * l.length) d := by
  induction l generalizing s d with
  | nil => rfl
  | cons c l ih =>
    show runC (stepC (s ^^^ d) c) l = runC (stepC s c) l ^^^ _
    have : stepC (s ^^^ d) c = stepC s c ^^^ shn 8 d := by
      unfold stepC
      rw [← shn_xor]
      congr 1
      rw [UInt64.xor_assoc, UInt64.xor_comm d, ← UInt64.xor_assoc]
    rw [this, ih, ← shn_add]
    congr 2
    simp [Nat.mul_add, Nat.add_comm]
theorem runC_turn (s : UInt64) (l : List UInt8) (j : Nat) (h : j < l.length) (z : UInt8) : runC s (l.set j (l[j] ^^^ z)) = runC s l ^^^ shn (8 * (l.length - j)) z.toUInt64 := by
  induction l generalizing s j with
  | nil => simp at h
  | cons c l ih =>
    cases j with
    | zero =>
      show runC (stepC s (c ^^^ z)) l = runC (stepC s c) l ^^^ _
      have : stepC s (c ^^^ z) = stepC s c ^^^ shn 8 z.toUInt64 := by
        unfold stepC
        rw [← shn_xor, UInt8.toUInt64_xor, UInt64.xor_assoc]
      rw [this, runC_more, ← shn_add]
      congr 2
      simp [Nat.mul_add, Nat.add_comm]
    | succ j =>
      have hj : j < l.length := by simpa using h
      show runC (stepC s c) (l.set j (l[j] ^^^ z)) = runC (stepC s c) l ^^^ _
      rw [ih (stepC s c) j (by simpa using h)]
      congr 3
      simp
theorem shn_bit {i : Nat} (hi : i < 64) : shn i (1 <<< UInt64.ofNat i) = 1 := by
  apply UInt64.toNat_inj.1
  have e : ((1 : UInt64) <<< UInt64.ofNat i).toNat = 2 ^ i := by
    rw [UInt64.toNat_shiftLeft, UInt64.toNat_ofNat', Nat.mod_eq_of_lt (a := i) (b := 2 ^ 64) (by omega), Nat.mod_eq_of_lt (a := i) hi, Nat.shiftLeft_eq]
    have : (1 : UInt64).toNat = 1 := rfl
    rw [this, Nat.one_mul, Nat.mod_eq_of_lt]
    exact Nat.pow_lt_pow_right (by decide) hi
  rw [shn_low (by omega) (by rw [e, Nat.mod_self]), e, Nat.div_self (Nat.two_pow_pos i)]
  rfl
theorem shn_place {m i : Nat} (hi : i < 64) (h : i ≤ m) : shn m (1 <<< UInt64.ofNat i) = shn (m - i) 1 := by
  conv => lhs; rw [show m = i + (m - i) from by omega]
  rw [shn_add, shn_bit hi]
theorem bit8 {b : Nat} (hb : b < 8) : (1 <<< UInt8.ofNat b : UInt8).toUInt64 = 1 <<< UInt64.ofNat b := by
  rcases b with _ | _ | _ | _ | _ | _ | _ | _ | b
  all_goals first | rfl | omega

/-- The bits below k, all in one word. -/
def wnd (bits : Nat) : Nat → UInt64
  | 0 => 0
  | k + 1 => if bits / 2 ^ k % 2 = 1 then wnd bits k ^^^ (1 <<< UInt64.ofNat k) else wnd bits k
theorem bit64 {i : Nat} (hi : i < 64) : ((1 : UInt64) <<< UInt64.ofNat i).toNat = 2 ^ i := by
  rw [UInt64.toNat_shiftLeft, UInt64.toNat_ofNat', Nat.mod_eq_of_lt (a := i) (b := 2 ^ 64) (by omega), Nat.mod_eq_of_lt (a := i) hi, Nat.shiftLeft_eq]
  have : (1 : UInt64).toNat = 1 := rfl
  rw [this, Nat.one_mul, Nat.mod_eq_of_lt]
  exact Nat.pow_lt_pow_right (by decide) hi
theorem wnd_lt (bits k : Nat) (hk : k ≤ 64) : (wnd bits k).toNat < 2 ^ k := by
  induction k with
  | zero => exact Nat.one_pos
  | succ k ih =>
    have h := ih (by omega)
    have hp : 2 ^ k < 2 ^ (k + 1) := Nat.pow_lt_pow_right (by decide) (by omega)
    unfold wnd
    split
    · rw [UInt64.toNat_xor, bit64 (by omega)]
      exact Nat.xor_lt_two_pow (by omega) hp
    · omega
theorem wnd_set (bits k : Nat) (hk : k < 64) (h : bits / 2 ^ k % 2 = 1) : wnd bits (k + 1) ≠ 0 := by
  have hl := wnd_lt bits k (by omega)
  unfold wnd
  rw [if_pos h]
  intro e
  have := congrArg UInt64.toNat (xor_none.1 e)
  rw [bit64 hk] at this
  omega
/-- b with the window's bits below k turned, from bit 'at' on. -/
theorem turn_more {l c : List UInt8} {at_ k : Nat} {bits : Nat} (hlen : c.length = l.length) (s : UInt64) (hk : k < 64) (ha : at_ + k < 8 * l.length)
    (h : runC s c = runC s l ^^^ shn (8 * l.length - at_) (wnd bits k)) (hb : bits / 2 ^ k % 2 = 1) (hj : (at_ + k) / 8 < c.length) :
    runC s (c.set ((at_ + k) / 8) (c[(at_ + k) / 8] ^^^ (1 <<< UInt8.ofNat ((at_ + k) % 8)))) = runC s l ^^^ shn (8 * l.length - at_) (wnd bits (k + 1)) := by
  rw [runC_turn s c _ hj, h, bit8 (by omega), shn_place (by omega) (by omega), hlen]
  have : wnd bits (k + 1) = wnd bits k ^^^ (1 <<< UInt64.ofNat k) := by
    conv => lhs; unfold wnd
    rw [if_pos hb]
  rw [this, shn_xor, ← UInt64.xor_assoc, shn_place (m := 8 * l.length - at_) hk (by omega)]
  congr 2
  omega
theorem turned_end {l c : List UInt8} {bits k N : Nat} (h : runC (~~~0) c = runC (~~~0) l ^^^ shn N (wnd bits k)) : (ofC l ≠ ofC c) ↔ wnd bits k ≠ 0 := by
  unfold ofC addC
  rw [h]
  constructor
  · intro hn e
    apply hn
    rw [e, shn_zero]
    simp
  · intro hn e
    apply hn
    have e2 : runC (~~~0) l = runC (~~~0) l ^^^ shn N (wnd bits k) := by
      have := congrArg (~~~ ·) e
      simpa only [not_not64] using this
    have e3 : (runC (~~~0) l) ^^^ 0 = runC (~~~0) l ^^^ shn N (wnd bits k) := by rw [UInt64.xor_zero]; exact e2
    exact shn_none (x_cancel.1 e3).symm

/-! ### Two that are as long -/
theorem runC_xor (s t : UInt64) (l m : List UInt8) (h : l.length = m.length) : runC s l ^^^ runC t m = runC (s ^^^ t) (List.zipWith (· ^^^ ·) l m) := by
  induction l generalizing s t m with
  | nil => cases m with
    | nil => rfl
    | cons _ _ => simp at h
  | cons a l ih =>
    cases m with
    | nil => simp at h
    | cons b m =>
      show runC (stepC s a) l ^^^ runC (stepC t b) m = runC (stepC (s ^^^ t) (a ^^^ b)) _
      rw [ih _ _ m (by simpa using h), stepC_xor]
theorem zip_noughts (l : List UInt8) : List.zipWith (· ^^^ ·) l (List.replicate l.length 0) = l := by
  induction l with
  | nil => rfl
  | cons a l ih => rw [List.length_cons, List.replicate_succ, List.zipWith_cons_cons, ih]; simp
theorem not_xor (a b : UInt64) : ~~~a ^^^ ~~~b = a ^^^ b := by
  apply UInt64.toBitVec_inj.1
  apply BitVec.eq_of_getLsbD_eq
  intro i hi
  simp [hi]
theorem ofC_xor (l m : List UInt8) (h : l.length = m.length) : ofC l ^^^ ofC m = ofC (List.zipWith (· ^^^ ·) l m) ^^^ ofC (List.replicate l.length 0) := by
  unfold ofC addC
  rw [not_xor, not_xor, runC_xor _ _ _ _ h, runC_xor _ _ _ _ (by simp [h])]
  congr 1
  have hl : (List.zipWith (· ^^^ ·) l m).length = l.length := by simp [h]
  rw [← hl, zip_noughts]

/-! ### Numbers -/
theorem crc_known : ofC [49, 50, 51, 52, 53, 54, 55, 56, 57] = 11051210869376104954 := by decide +kernel
theorem step_known : stepC 0 1 = 12911341560706588527 := by decide +kernel
theorem step_00 : stepC 0 0 = 0 := by decide +kernel
theorem step_10 : stepC 1 0 = 12911341560706588527 := by decide +kernel
theorem step_11 : stepC 1 1 = 0 := by decide +kernel
theorem crc_nought : ofC [0] ≠ 0 := by decide +kernel
end Go.Proofs.Ytdfphefhabgjhaa
