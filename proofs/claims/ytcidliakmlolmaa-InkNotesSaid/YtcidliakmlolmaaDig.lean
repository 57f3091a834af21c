/-
  The digest of bytes as a function on lists, and what follows of it; nothing of the program.
-/
import Derived.Test.YtcidliakmlolmaaSha
namespace Go.Proofs.Ytcidliakmlolmaa
set_option linter.unusedVariables false

def H0 : List UInt32 := [1779033703, 3144134277, 1013904242, 2773480762, 1359893119, 2600822924, 528734635, 1541459225]
def KK : List UInt32 := [1116352408, 1899447441, 3049323471, 3921009573, 961987163, 1508970993, 2453635748, 2870763221, 3624381080, 310598401, 607225278, 1426881987, 1925078388, 2162078206, 2614888103, 3248222580, 3835390401, 4022224774, 264347078, 604807628, 770255983, 1249150122, 1555081692, 1996064986, 2554220882, 2821834349, 2952996808, 3210313671, 3336571891, 3584528711, 113926993, 338241895, 666307205, 773529912, 1294757372, 1396182291, 1695183700, 1986661051, 2177026350, 2456956037, 2730485921, 2820302411, 3259730800, 3345764771, 3516065817, 3600352804, 4094571909, 275423344, 430227734, 506948616, 659060556, 883997877, 958139571, 1322822218, 1537002063, 1747873779, 1955562222, 2024104815, 2227730452, 2361852424, 2428436474, 2756734187, 3204031479, 3329325298]

/-- The eight words of a state. -/
structure S8 where
  a : UInt32
  b : UInt32
  c : UInt32
  d : UInt32
  e : UInt32
  f : UInt32
  g : UInt32
  h : UInt32
deriving DecidableEq
def S8.list (s : S8) : List UInt32 := [s.a, s.b, s.c, s.d, s.e, s.f, s.g, s.h]
def S8.first : S8 := ⟨1779033703, 3144134277, 1013904242, 2773480762, 1359893119, 2600822924, 528734635, 1541459225⟩
def tee (s : S8) (k w : UInt32) : UInt32 := s.h + (rotr s.e 6 ^^^ rotr s.e 11 ^^^ rotr s.e 25) + ((s.e &&& s.f) ^^^ (~~~s.e &&& s.g)) + k + w
def uuu (s : S8) : UInt32 := (rotr s.a 2 ^^^ rotr s.a 13 ^^^ rotr s.a 22) + ((s.a &&& s.b) ^^^ (s.a &&& s.c) ^^^ (s.b &&& s.c))
def step8 (s : S8) (k w : UInt32) : S8 := ⟨tee s k w + uuu s, s.a, s.b, s.c, s.d + tee s k w, s.e, s.f, s.g⟩
def steps8 (bs : List UInt8) (s : S8) : Nat → S8
  | 0 => s
  | n + 1 => step8 (steps8 bs s n) (KK.getD n 0) (wt bs n)
def S8.add (x y : S8) : S8 := ⟨x.a + y.a, x.b + y.b, x.c + y.c, x.d + y.d, x.e + y.e, x.f + y.f, x.g + y.g, x.h + y.h⟩
/-- The state that took the block in. -/
def rnd (s : S8) (bs : List UInt8) : S8 := (steps8 bs s 64).add s

/-! ### A step can be taken back -/
theorem step8_inj {x y : S8} {k w : UInt32} (h : step8 x k w = step8 y k w) : x = y := by
  obtain ⟨a, b, c, d, e, f, g, h'⟩ := x
  obtain ⟨a2, b2, c2, d2, e2, f2, g2, h2⟩ := y
  unfold step8 at h
  simp only [S8.mk.injEq] at h
  obtain ⟨h1, rfl, rfl, rfl, h5, rfl, rfl, rfl⟩ := h
  have hu : uuu ⟨a, b, c, d, e, f, g, h'⟩ = uuu ⟨a, b, c, d2, e, f, g, h2⟩ := rfl
  rw [hu] at h1
  have ht : tee ⟨a, b, c, d, e, f, g, h'⟩ k w = tee ⟨a, b, c, d2, e, f, g, h2⟩ k w := (UInt32.add_left_inj _).1 h1
  rw [ht] at h5
  have hd : d = d2 := (UInt32.add_left_inj _).1 h5
  unfold tee at ht
  simp only at ht
  have hh : h' = h2 := by
    have q1 := (UInt32.add_left_inj _).1 ht
    have q2 := (UInt32.add_left_inj _).1 q1
    have q3 := (UInt32.add_left_inj _).1 q2
    exact (UInt32.add_left_inj _).1 q3
  rw [hd, hh]
theorem steps8_inj {bs : List UInt8} {x y : S8} {n : Nat} (h : steps8 bs x n = steps8 bs y n) : x = y := by
  induction n with
  | zero => exact h
  | succ n ih => exact ih (step8_inj h)
theorem S8.sub_add (x y : S8) : (x.add y).a - y.a = x.a ∧ (x.add y).b - y.b = x.b ∧ (x.add y).c - y.c = x.c ∧ (x.add y).d - y.d = x.d ∧ (x.add y).e - y.e = x.e ∧ (x.add y).f - y.f = x.f ∧ (x.add y).g - y.g = x.g ∧ (x.add y).h - y.h = x.h := by
  simp only [S8.add, UInt32.add_sub_cancel, and_self]

/-! ### The same, to be reckoned -/
def be16 (bs : List UInt8) : List UInt32 := (List.range 16).map fun t => be4 (bs.getD (4 * t) 0) (bs.getD (4 * t + 1) 0) (bs.getD (4 * t + 2) 0) (bs.getD (4 * t + 3) 0)
/-- The schedule, the newest word first. -/
def more : Nat → List UInt32 → List UInt32
  | 0, r => r
  | n + 1, r => more n ((r.getD 15 0 + s0 (r.getD 14 0) + r.getD 6 0 + s1 (r.getD 1 0)) :: r)
def upto (bs : List UInt8) (t : Nat) : List UInt32 := ((List.range t).map (wt bs)).reverse
theorem upto_succ (bs : List UInt8) (t : Nat) : upto bs (t + 1) = wt bs t :: upto bs t := by
  simp [upto, List.range_succ]
theorem upto_at {bs : List UInt8} {t j : Nat} (h : j < t) : (upto bs t).getD j 0 = wt bs (t - 1 - j) := by
  unfold upto
  rw [List.getD_eq_getElem?_getD, List.getElem?_reverse (by simp; omega), List.getElem?_map, List.length_map, List.length_range, List.getElem?_range (by omega)]
  rfl
theorem more_upto (bs : List UInt8) (n : Nat) : ∀ t, 16 ≤ t → more n (upto bs t) = upto bs (t + n) := by
  induction n with
  | zero => intro t _; rfl
  | succ n ih =>
    intro t ht
    rw [more, upto_at (by omega), upto_at (by omega), upto_at (by omega), upto_at (by omega)]
    have e : wt bs (t - 1 - 15) + s0 (wt bs (t - 1 - 14)) + wt bs (t - 1 - 6) + s1 (wt bs (t - 1 - 1)) = wt bs t := by
      rw [wt_high ht]
      have e1 : t - 1 - 15 = t - 16 := by omega
      have e2 : t - 1 - 14 = t - 15 := by omega
      have e3 : t - 1 - 6 = t - 7 := by omega
      have e4 : t - 1 - 1 = t - 2 := by omega
      rw [e1, e2, e3, e4]
    rw [e, ← upto_succ, ih (t + 1) (by omega)]
    congr 1
    omega
theorem upto16 (bs : List UInt8) : upto bs 16 = (be16 bs).reverse := by
  unfold upto be16
  congr 1
  apply List.map_congr_left
  intro t ht
  rw [List.mem_range] at ht
  exact wt_low ht
def fastS (bs : List UInt8) : List UInt32 := (more 48 (be16 bs).reverse).reverse
theorem fastS_eq (bs : List UInt8) : fastS bs = (List.range 64).map (wt bs) := by
  unfold fastS
  rw [← upto16, more_upto bs 48 16 (by omega)]
  simp [upto]
def run8 (s : S8) : List UInt32 → List UInt32 → S8
  | k :: ks, w :: ws => run8 (step8 s k w) ks ws
  | _, _ => s
theorem run8_take (bs : List UInt8) (s : S8) (ks ws : List UInt32) : ∀ i, (∀ j, j < ks.length → ks.getD j 0 = KK.getD (i + j) 0) → (∀ j, j < ks.length → ws[j]? = some (wt bs (i + j))) → run8 (steps8 bs s i) ks ws = steps8 bs s (i + ks.length) := by
  induction ks generalizing ws with
  | nil => intro i _ _; cases ws <;> rfl
  | cons k ks ih =>
    intro i h1 h2
    cases ws with
    | nil => have := h2 0 (by simp); simp at this
    | cons w ws =>
      have hk := h1 0 (by simp)
      have hw := h2 0 (by simp)
      simp at hk hw
      rw [run8, hk, hw]
      have : step8 (steps8 bs s i) (KK[i]?.getD 0) (wt bs i) = steps8 bs s (i + 1) := by rw [steps8]; simp
      rw [this, ih ws (i + 1) (fun j hj => ?_) (fun j hj => ?_)]
      · congr 1; simp; omega
      · have := h1 (j + 1) (by simp; omega)
        rw [show i + 1 + j = i + (j + 1) from by omega, ← this]
        simp
      · have := h2 (j + 1) (by simp; omega)
        rw [show i + 1 + j = i + (j + 1) from by omega, ← this]
        simp
def rndF (s : S8) (bs : List UInt8) : S8 := (run8 s KK (fastS bs)).add s
theorem rnd_fast (s : S8) (bs : List UInt8) : rnd s bs = rndF s bs := by
  unfold rnd rndF
  have := run8_take bs s KK (fastS bs) 0 (fun j _ => by rw [Nat.zero_add]) (fun j hj => by
    have hj' : j < 64 := hj
    rw [fastS_eq, Nat.zero_add]
    simp [hj'])
  rw [show steps8 bs s 0 = s from rfl] at this
  rw [this]
  rfl

/-! ### The digest -/
def be8 (n : Nat) : List UInt8 := (List.range 8).map fun i => UInt8.ofNat (n / 256 ^ (7 - i) % 256)
/-- How many bytes 0 stand between. -/
def gap (n : Nat) : Nat := (119 - n % 64) % 64
def pad (l : List UInt8) : List UInt8 := l ++ (128 :: (List.replicate (gap l.length) 0 ++ be8 (8 * l.length)))
def eat (s : S8) : Nat → List UInt8 → S8
  | 0, _ => s
  | n + 1, l => eat (rnd s (l.take 64)) n (l.drop 64)
def wordB (x : UInt32) : List UInt8 := [UInt8.ofNat (x.toNat / 16777216 % 256), UInt8.ofNat (x.toNat / 65536 % 256), UInt8.ofNat (x.toNat / 256 % 256), UInt8.ofNat (x.toNat % 256)]
def S8.bytes (s : S8) : List UInt8 := s.list.flatMap wordB
def digest (l : List UInt8) : List UInt8 := (eat S8.first ((pad l).length / 64) (pad l)).bytes
def eatF (s : S8) : Nat → List UInt8 → S8
  | 0, _ => s
  | n + 1, l => eatF (rndF s (l.take 64)) n (l.drop 64)
theorem eat_fast (n : Nat) : ∀ (s : S8) (l : List UInt8), eat s n l = eatF s n l := by
  induction n with
  | zero => intro s l; rfl
  | succ n ih => intro s l; rw [eat, eatF, rnd_fast, ih]
def digF (l : List UInt8) : List UInt8 := (eatF S8.first ((pad l).length / 64) (pad l)).bytes
theorem dig_fast (l : List UInt8) : digest l = digF l := by unfold digest digF; rw [eat_fast]

theorem dig_abc : digest [97, 98, 99] = [186, 120, 22, 191, 143, 1, 207, 234, 65, 65, 64, 222, 93, 174, 34, 35, 176, 3, 97, 163, 150, 23, 122, 156, 180, 16, 255, 97, 242, 0, 21, 173] := by
  rw [dig_fast]; decide +kernel
theorem dig_none : digest [] = [227, 176, 196, 66, 152, 252, 28, 20, 154, 251, 244, 200, 153, 111, 185, 36, 39, 174, 65, 228, 100, 155, 147, 76, 164, 149, 153, 27, 120, 82, 184, 85] := by
  rw [dig_fast]; decide +kernel
theorem dig_long : digest [97, 98, 99, 100, 98, 99, 100, 101, 99, 100, 101, 102, 100, 101, 102, 103, 101, 102, 103, 104, 102, 103, 104, 105, 103, 104, 105, 106, 104, 105, 106, 107, 105, 106, 107, 108, 106, 107, 108, 109, 107, 108, 109, 110, 108, 109, 110, 111, 109, 110, 111, 112, 110, 111, 112, 113] = [36, 141, 106, 97, 210, 6, 56, 184, 229, 192, 38, 147, 12, 62, 96, 57, 163, 60, 228, 89, 100, 255, 33, 103, 246, 236, 237, 212, 25, 219, 6, 193] := by
  rw [dig_fast]; decide +kernel
theorem dig_thousand : digest (List.replicate 1000 97) = [65, 237, 236, 228, 45, 99, 232, 217, 191, 81, 90, 155, 166, 147, 46, 28, 32, 203, 201, 245, 165, 209, 52, 100, 90, 219, 93, 177, 185, 115, 126, 163] := by
  rw [dig_fast]; decide +kernel
end Go.Proofs.Ytcidliakmlolmaa
