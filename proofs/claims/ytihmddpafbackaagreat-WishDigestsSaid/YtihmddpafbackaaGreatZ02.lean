/-
  Laid together for a hand-in: RootsP, Div, RootsW, RorS, SchedS, First.
-/
import Derived.Test.YtihmddpafbackaaGreatZ01
import Derived.Deep.DeepCutAuto
import Derived.Deep.CutBlock
import Derived.BigRegion
import Derived.Outline

namespace Go.Proofs.YtihmddpafbackaaGreat

set_option linter.unusedVariables false

/-! ### The sieve -/

def crossF : Nat → Nat → Nat → List Bool → List Bool
  | 0, _, _, C => C
  | f + 1, n, m, C => if m ≤ 311 then crossF f n (m + n) (C.set m true) else C

theorem crossF_end {f n m : Nat} {C : List Bool} (h : 311 < m) : crossF f n m C = C := by
  cases f with
  | zero => rfl
  | succ f => rw [crossF, if_neg (by omega)]

theorem crossF_step {f n m : Nat} {C : List Bool} (h : m ≤ 311) : crossF (f + 1) n m C = crossF f n (m + n) (C.set m true) := by
  rw [crossF, if_pos h]

theorem crossF_len (f n : Nat) : ∀ m C, (crossF f n m C).length = C.length := by
  induction f with
  | zero => intro m C; rfl
  | succ f ih =>
    intro m C
    rw [crossF]
    split
    · rw [ih, List.length_set]
    · rfl

structure Sv where
  found : Nat
  out : List Nat
  crossed : List Bool

def Sv.step (s : Sv) (n : Nat) : Sv :=
  if s.crossed.getD n false = true then s else ⟨s.found + 1, s.out.set s.found n, crossF 312 n (n * n) s.crossed⟩

def Sv.start : Sv := ⟨0, List.replicate 64 0, List.replicate 312 false⟩

def sv : Nat → Sv
  | 0 => Sv.start
  | i + 1 => (sv i).step (i + 2)

def svOk : Nat → Nat → Sv → Bool
  | 0, _, s => true
  | f + 1, i, s => (s.crossed.getD (i + 2) false || decide (s.found < 64)) && svOk f (i + 1) (s.step (i + 2))

theorem svOk_at (f : Nat) : ∀ i, svOk f i (sv i) = true → ∀ j, i ≤ j → j < i + f → (sv j).crossed.getD (j + 2) false = true ∨ (sv j).found < 64 := by
  induction f with
  | zero => intro i _ j h1 h2; omega
  | succ f ih =>
    intro i h j h1 h2
    rw [svOk, Bool.and_eq_true, Bool.or_eq_true, decide_eq_true_iff] at h
    by_cases e : j = i
    · subst e; exact h.1
    · exact ih (i + 1) h.2 j (by omega) (by omega)

theorem sv_lens (i : Nat) : (sv i).out.length = 64 ∧ (sv i).crossed.length = 312 := by
  induction i with
  | zero => exact ⟨List.length_replicate, List.length_replicate⟩
  | succ i ih =>
    rw [sv, Sv.step]
    split
    · exact ih
    · exact ⟨by simp only [List.length_set]; exact ih.1, by rw [crossF_len]; exact ih.2⟩

theorem sv_room : svOk 310 0 (sv 0) = true := by decide +kernel

theorem sv_found {i : Nat} (h : i < 310) (hc : (sv i).crossed.getD (i + 2) false = false) : (sv i).found < 64 := by
  have hr := sv_room
  have hx := svOk_at 310 0
  generalize (310 : Nat) = f at hr hx h
  have hi : i < 0 + f := by omega
  rcases hx hr i (Nat.zero_le _) hi with h1 | h1
  · rw [hc] at h1; cases h1
  · exact h1

def PP : List Nat := [2, 3, 5, 7, 11, 13, 17, 19, 23, 29, 31, 37, 41, 43, 47, 53, 59, 61, 67, 71, 73, 79, 83, 89, 97, 101, 103, 107, 109, 113, 127, 131, 137, 139, 149, 151, 157, 163, 167, 173, 179, 181, 191, 193, 197, 199, 211, 223, 227, 229, 233, 239, 241, 251, 257, 263, 269, 271, 277, 281, 283, 293, 307, 311]

theorem sv_end : (sv 310).out = PP := by decide +kernel

/-! ### The quotient, as it is reckoned -/

/-- One digit, brought down while it is too great. -/
def adj : Nat → Nat → Nat → Nat → Nat → Nat
  | 0, _, _, q, _ => q
  | f + 1, y1, y0, q, r =>
    if 4294967296 ≤ q ∨ 4294967296 * r % 18446744073709551616 < q * y0 % 18446744073709551616 then
      (if 4294967296 ≤ r + y1 then q - 1 else adj f y1 y0 (q - 1) (r + y1))
    else q

/-- How far a divisor is turned left. -/
def lead (y : Nat) : Nat := 64 - Lib.bitLen y

def qa (hi y : Nat) : Nat :=
  let t := y * 2 ^ lead y % 18446744073709551616
  let u := hi * 2 ^ lead y % 18446744073709551616
  adj 8 (t / 4294967296) (t % 4294967296) (u / (t / 4294967296)) (u % (t / 4294967296))

def ua (hi y : Nat) : Int := (((hi * 2 ^ lead y % 18446744073709551616 : Nat) : Int) * 4294967296 - (qa hi y : Int) * ((y * 2 ^ lead y % 18446744073709551616 : Nat) : Int)) % 18446744073709551616

def qb (hi y : Nat) : Nat :=
  let t := y * 2 ^ lead y % 18446744073709551616
  let u := (ua hi y).toNat
  adj 8 (t / 4294967296) (t % 4294967296) (u / (t / 4294967296)) (u % (t / 4294967296))

def quo (hi y : Nat) : Nat := (qa hi y * 4294967296 + qb hi y) % 18446744073709551616

/-! ### The root, as it is reckoned -/

def high (x : Nat) : Nat := x * x / 18446744073709551616

def low (x : Nat) : Nat := x * x % 18446744073709551616

def big (p x : Nat) : Bool := decide (p * 4294967296 ≤ (high x * x % 18446744073709551616 + low x * x / 18446744073709551616) % 18446744073709551616)

def dvs (x : Nat) : Nat := (high x * 144115188075855872 % 18446744073709551616) ||| (low x / 128)

def nxt (p x : Nat) : Nat := min ((2 * x + quo (p * 33554432) (dvs x)) % 18446744073709551616 / 3) (x - 1)

def newt : Nat → Nat → Nat → Nat
  | 0, _, x => x
  | f + 1, p, x => if big p x then newt f p (nxt p x) else x

/-- The root and the words, behind so many primes (the last one first). -/
structure Rt where
  root : Nat
  out : List Nat

def rtS : Nat → Rt
  | 0 => ⟨30064771072, List.replicate 64 0⟩
  | i + 1 => ⟨newt 16 (PP.getD (63 - i) 0) (rtS i).root, (rtS i).out.set (63 - i) (newt 16 (PP.getD (63 - i) 0) (rtS i).root % 4294967296)⟩

theorem rt_end : (rtS 64).out = KK.map UInt32.toNat := by decide +kernel

end Go.Proofs.YtihmddpafbackaaGreat

namespace Go.Proofs.YtihmddpafbackaaGreat

open Go.RowKit

set_option linter.unusedVariables false

def DivRet (q : Nat) (w : World) (e : Ending) (w' : World) : Prop := (∃ r : Int, e = .returned (.tuple #[.int .u64 (q : Int), .int .u64 r])) ∧ w' = w

theorem wrap_nat (n : Nat) : IntKind.u64.wrap (n : Int) = ((n % 18446744073709551616 : Nat) : Int) := by
  rw [IntKind.wrap_u64]; omega

theorem and_mask (n : Nat) (h : n < 18446744073709551616) : bits .and .u64 (n : Int) 4294967295 = ((n % 4294967296 : Nat) : Int) := by
  have h := (bits_nat .u64 64 (by decide) (fun n h0 h1 => by rw [IntKind.wrap_u64]; omega) n 4294967295 (by simpa using h) (by decide)).1
  rw [show (4294967295 : Int) = ((4294967295 : Nat) : Int) from rfl, h]
  congr 1
  exact Nat.and_two_pow_sub_one_eq_mod n 32

theorem or_zero (n : Nat) (h : n < 18446744073709551616) : bits .or .u64 (n : Int) 0 = (n : Int) := by
  have h := (bits_nat .u64 64 (by decide) (fun n h0 h1 => by rw [IntKind.wrap_u64]; omega) n 0 (by simpa using h) (by decide)).2
  rw [show (0 : Int) = ((0 : Nat) : Int) from rfl, h, Nat.or_zero]

theorem bitLenAux_le (f : Nat) : ∀ x, Lib.bitLenAux f x ≤ f := by
  induction f with
  | zero => intro x; exact Nat.le_refl _
  | succ f ih => intro x; rw [Lib.bitLenAux]; split; omega; have := ih (x / 2); omega

theorem adj_stop {f y1 y0 q r : Nat} (h1 : q < 4294967296) (h2 : ¬ 4294967296 * r % 18446744073709551616 < q * y0 % 18446744073709551616) : adj f y1 y0 q r = q := by
  cases f with
  | zero => rfl
  | succ f => rw [adj, if_neg (by omega)]

theorem adj_last {f y1 y0 q r : Nat} (h : 4294967296 ≤ q ∨ 4294967296 * r % 18446744073709551616 < q * y0 % 18446744073709551616) (h2 : 4294967296 ≤ r + y1) : adj (f + 1) y1 y0 q r = q - 1 := by
  rw [adj, if_pos h, if_pos h2]

theorem adj_more {f y1 y0 q r : Nat} (h : 4294967296 ≤ q ∨ 4294967296 * r % 18446744073709551616 < q * y0 % 18446744073709551616) (h2 : ¬ 4294967296 ≤ r + y1) : adj (f + 1) y1 y0 q r = adj f y1 y0 (q - 1) (r + y1) := by
  rw [adj, if_pos h, if_neg h2]

/-- What one round of a loop wants to know. -/
theorem adj_facts {a b g t0 t1 Z : Nat} (ha : a < 18446744073709551616) (hb : b < 4294967296) (ht : t1 < 4294967296) (hadj : Z = adj (g + 1) t1 t0 a b) :
    ∃ m1 m2 d : Nat, IntKind.u64.wrap ((a : Int) * (t0 : Int)) = (m2 : Int) ∧ IntKind.u64.wrap (4294967296 * (b : Int)) = (m1 : Int) ∧ IntKind.u64.wrap (m1 : Int) = (m1 : Int) ∧ IntKind.u64.wrap ((b : Int) + (t1 : Int)) = (d : Int) ∧ d = b + t1 ∧
      ((¬ 4294967296 ≤ a ∧ ¬ m1 < m2) → Z = a) ∧ (4294967296 ≤ a ∨ m1 < m2 → IntKind.u64.wrap ((a : Int) - 1) = ((a - 1 : Nat) : Int) ∧ (4294967296 ≤ d → Z = a - 1) ∧ (¬ 4294967296 ≤ d → Z = adj g t1 t0 (a - 1) d)) := by
  refine ⟨4294967296 * b % 18446744073709551616, a * t0 % 18446744073709551616, b + t1, ?_, ?_, ?_, ?_, rfl, ?_, ?_⟩
  · rw [← wrap_nat]; simp
  · rw [← wrap_nat]; simp
  · rw [wrap_nat, Nat.mod_mod]
  · rw [← Int.natCast_add, wrap_nat, Nat.mod_eq_of_lt (by omega)]
  · rintro ⟨h1, h2⟩; rw [hadj, adj_stop (by omega) h2]
  · intro h
    have h1 : 1 ≤ a := by
      rcases h with h | h
      · omega
      · rcases Nat.eq_zero_or_pos a with e | e
        · rw [e, Nat.zero_mul] at h; omega
        · exact e
    refine ⟨?_, fun h2 => ?_, fun h2 => ?_⟩
    · rw [show ((a : Int) - 1) = ((a - 1 : Nat) : Int) from by omega, wrap_nat, Nat.mod_eq_of_lt (by omega)]
    · rw [hadj, adj_last h h2]
    · rw [hadj, adj_more h h2]

theorem ua_facts {u q t : Nat} {v : Int} (h : v = ((u : Int) * 4294967296 - (q : Int) * (t : Int)) % 18446744073709551616) :
    ∃ x1 x2 : Nat, IntKind.u64.wrap ((u : Int) * 4294967296) = (x1 : Int) ∧ IntKind.u64.wrap (x1 : Int) = (x1 : Int) ∧ IntKind.u64.wrap ((q : Int) * (t : Int)) = (x2 : Int) ∧
      IntKind.u64.wrap ((x1 : Int) - (x2 : Int)) = (v.toNat : Int) ∧ v.toNat < 18446744073709551616 := by
  refine ⟨u * 4294967296 % 18446744073709551616, q * t % 18446744073709551616, ?_, ?_, ?_, ?_, ?_⟩
  · rw [← wrap_nat]; simp
  · rw [wrap_nat, Nat.mod_mod]
  · rw [← wrap_nat]; simp
  · rw [← Int.natCast_mul] at h
    rw [IntKind.wrap_u64]
    omega
  · rw [← Int.natCast_mul] at h
    omega

set_option maxRecDepth 100000 in
set_option maxHeartbeats 1600000 in
theorem div64_any (hi y : Nat) (w : World) (h0 : 0 < hi) (h1 : hi < y) (h2 : y < 18446744073709551616) (h3 : lead y ≤ 63)
    (h4 : 2147483648 ≤ y * 2 ^ lead y % 18446744073709551616 / 4294967296) :
    Calls Tryz.prog 128 #[.int .u64 (hi : Int), .int .u64 0, .int .u64 (y : Int)] w (DivRet (quo hi y) w) := by
  have g0 : (0 : Int) < (hi : Int) := by omega
  have g1 : (hi : Int) < (y : Int) := by omega
  have g2 : (y : Int) ≤ 18446744073709551615 := by omega
  have n0 : ((y : Int) == 0) = false := by simp; omega
  have n1 : ((hi : Int) == 0) = false := by simp; omega
  have hlz : Calls Tryz.prog 137 #[.int .u64 (y : Int)] w fun e w' => e = .returned (.int .i64 (lead y : Int)) ∧ w' = w := by
    refine (Tryz.bits_LeadingZeros64 (y : Int) w (by omega) (by omega)).mono ?_
    rintro e w' ⟨rfl, rfl⟩
    refine ⟨?_, rfl⟩
    have hb : Lib.bitLen y ≤ 64 := bitLenAux_le 64 y
    unfold lead
    rw [Int.toNat_natCast]
    congr 2
    omega
  have Hlz := Lib.hid hlz
  clear hlz
  have hq1 : quo hi y = (qa hi y * 4294967296 + qb hi y) % 18446744073709551616 := rfl
  have hqa : qa hi y = adj 8 (y * 2 ^ lead y % 18446744073709551616 / 4294967296) (y * 2 ^ lead y % 18446744073709551616 % 4294967296) (hi * 2 ^ lead y % 18446744073709551616 / (y * 2 ^ lead y % 18446744073709551616 / 4294967296)) (hi * 2 ^ lead y % 18446744073709551616 % (y * 2 ^ lead y % 18446744073709551616 / 4294967296)) := rfl
  have hua : ua hi y = (((hi * 2 ^ lead y % 18446744073709551616 : Nat) : Int) * 4294967296 - (qa hi y : Int) * ((y * 2 ^ lead y % 18446744073709551616 : Nat) : Int)) % 18446744073709551616 := rfl
  have hqb : qb hi y = adj 8 (y * 2 ^ lead y % 18446744073709551616 / 4294967296) (y * 2 ^ lead y % 18446744073709551616 % 4294967296) ((ua hi y).toNat / (y * 2 ^ lead y % 18446744073709551616 / 4294967296)) ((ua hi y).toNat % (y * 2 ^ lead y % 18446744073709551616 / 4294967296)) := rfl
  generalize quo hi y = Q at *
  generalize qa hi y = q1 at *
  generalize qb hi y = q0 at *
  generalize ua hi y = v at *
  generalize lead y = s at *
  have e1 : IntKind.u64.wrap ((y : Int) * 2 ^ s) = ((y * 2 ^ s % 18446744073709551616 : Nat) : Int) := by rw [← wrap_nat]; simp
  have e2 : IntKind.u64.wrap ((hi : Int) * 2 ^ s) = ((hi * 2 ^ s % 18446744073709551616 : Nat) : Int) := by rw [← wrap_nat]; simp
  have ht : y * 2 ^ s % 18446744073709551616 < 18446744073709551616 := Nat.mod_lt _ (by decide)
  have hu : hi * 2 ^ s % 18446744073709551616 < 18446744073709551616 := Nat.mod_lt _ (by decide)
  generalize y * 2 ^ s % 18446744073709551616 = t at *
  generalize hi * 2 ^ s % 18446744073709551616 = u at *
  have e3 := and_mask t ht
  have e4 := or_zero u hu
  have e5 : bits .and .u64 0 4294967295 = 0 := by decide
  have e6 : (t : Int) / 4294967296 = ((t / 4294967296 : Nat) : Int) := by omega
  have ht1 : t / 4294967296 < 4294967296 := by omega
  have ht0 : t % 4294967296 < 4294967296 := by omega
  generalize t / 4294967296 = t1 at *
  generalize t % 4294967296 = t0 at *
  have h4' : 2147483648 ≤ t1 := h4
  have e7 : IntKind.u64.wrap ((u : Int) / (t1 : Int)) = ((u / t1 : Nat) : Int) := by
    have : u / t1 ≤ u := Nat.div_le_self _ _
    rw [← Int.natCast_ediv, wrap_nat, Nat.mod_eq_of_lt (by omega)]
  have hd : u / t1 * t1 + u % t1 = u := by rw [Nat.mul_comm]; exact Nat.div_add_mod _ _
  have hm : u % t1 < t1 := Nat.mod_lt _ (by omega)
  have hd2 : u / t1 ≤ u := Nat.div_le_self _ _
  generalize u / t1 = qd at *
  generalize u % t1 = rm at *
  have e8 : IntKind.u64.wrap ((qd : Int) * (t1 : Int)) = ((qd * t1 : Nat) : Int) := by
    rw [← Int.natCast_mul, wrap_nat, Nat.mod_eq_of_lt (by omega)]
  generalize qd * t1 = pr at *
  have e9 : IntKind.u64.wrap ((u : Int) - (pr : Int)) = (rm : Int) := by
    rw [IntKind.wrap_u64]; omega
  have k1 : (s : Int) ≤ 63 := by omega
  have k2 : (0 : Int) ≤ (s : Int) := by omega
  have z1 : ¬ t1 = 0 := by omega
  have z2 : ¬ y ≤ hi := by omega
  have Hq1 := Lib.hid hq1
  have Hqa := Lib.hid hqa
  have Hqb := Lib.hid hqb
  have Hua := Lib.hid hua
  have Hall := Lib.hid (And.intro h4' (And.intro ht (And.intro hu (And.intro ht1 (And.intro ht0 (And.intro hm hd2))))))
  clear hq1 hqa hqb hua hd h0 h1 h2 h3 h4 h4' ht hu ht1 ht0 hm hd2
  go_enter Tryz.func128, Tryz.ntmps128
  go_upto_block 0 with (go_at_call 137; refine Hlz.out.mono ?_; rintro e w' ⟨rfl, rfl⟩)
  go_cut [15] (fun q wx => q = .int .u64 (q1 : Int) ∧ wx = w')
  case first =>
    go_wp2_with fail
    go_loopg [15, 16] 9 (fun f q r wr => ∃ a b g : Nat, f = g + 1 ∧ q = .int .u64 (a : Int) ∧ r = .int .u64 (b : Int) ∧ wr = w' ∧ a < 18446744073709551616 ∧ b < 4294967296 ∧ 4294967296 ≤ b + g * t1 ∧ q1 = adj g t1 t0 a b)
    case atStart =>
      obtain ⟨a1, a2, a3, a4, a5, a6, a7⟩ := Hall.out
      exact ⟨qd, rm, 8, rfl, rfl, rfl, rfl, by omega, by omega, by omega, Hqa.out⟩
    case round =>
      obtain ⟨a, b, g, hg, rfl, rfl, rfl, ha, hb, hf, hadj⟩ := hrel
      obtain ⟨a1, a2, a3, a4, a5, a6, a7⟩ := Hall.out
      obtain ⟨g', rfl⟩ : ∃ g', g = g' + 1 := ⟨g - 1, by
        rcases Nat.eq_zero_or_pos g with e | e
        · subst e; omega
        · omega⟩
      rw [Nat.succ_mul] at hf
      obtain ⟨m1, m2, d, f1, f2, f3, f4, hd, hz, hmore⟩ := adj_facts ha hb a4 hadj
      have Hc := Lib.hid (And.intro hg (And.intro ha (And.intro hb (And.intro hf (And.intro hadj hd)))))
      clear hg ha hb hf hadj hd a1 a2 a3 a4 a5 a6 a7
      by_cases c1 : 4294967296 ≤ a ∨ m1 < m2
      · obtain ⟨f5, hl, hm⟩ := hmore c1
        have Hl := Lib.hid hl
        have Hm := Lib.hid hm
        clear hl hm hz hmore
        have ha : (4294967296 : Int) ≤ (a : Int) ∨ ¬ (4294967296 : Int) ≤ (a : Int) ∧ m1 < m2 := by omega
        have hd : (4294967296 : Int) ≤ (d : Int) ∨ ¬ (4294967296 : Int) ≤ (d : Int) := by omega
        have hE0 : (0 : Int) ≤ ((a - 1 : Nat) : Int) := by omega
        generalize hA : (a : Int) = A at *
        generalize hB : (b : Int) = B at *
        generalize hD : (d : Int) = D at *
        generalize hE : ((a - 1 : Nat) : Int) = E at *
        have Hx := Lib.hid (And.intro hA (And.intro hB (And.intro hD (And.intro hE c1))))
        clear hA hB hD hE c1
        rcases ha with ha | ⟨ha, ha2⟩
        all_goals
          rcases hd with hd | hd
          · go_wp2
            obtain ⟨hA, hB, hD, hE, c1⟩ := Hx.out
            go_meet
            exact ⟨by rw [Hl.out (by omega), ← hE], rfl⟩
          · go_wp2
            obtain ⟨hA, hB, hD, hE, c1⟩ := Hx.out
            obtain ⟨hg, ha, hb, hf, hadj, hd⟩ := Hc.out
            go_roundg (g' + 1)
            case measure => omega
            case rel => exact ⟨a - 1, d, g', rfl, by rw [← hE], by rw [← hD], rfl, by omega, by omega, by omega, Hm.out (by omega)⟩
      · have ha : ¬ (4294967296 : Int) ≤ (a : Int) := by omega
        have hb : ¬ m1 < m2 := by omega
        have hz' := hz ⟨by omega, hb⟩
        have Hz := Lib.hid hz'
        clear hz hz' hmore
        generalize hA : (a : Int) = A at *
        generalize hB : (b : Int) = B at *
        generalize hD : (d : Int) = D at *
        have Hx := Lib.hid (And.intro hA (And.intro hB (And.intro hD c1)))
        clear hA hB hD c1
        go_wp2
        obtain ⟨hA, hB, hD, c1⟩ := Hx.out
        go_meet
        exact ⟨by rw [Hz.out, ← hA], rfl⟩
  case rest =>
    obtain ⟨rfl, rfl⟩ := hcut
    obtain ⟨a1, a2, a3, a4, a5, a6, a7⟩ := Hall.out
    obtain ⟨x1, x2, b1, b2, b3, b4, hvb⟩ := ua_facts Hua.out
    have hVb := hvb
    have hqb := Hqb.out
    generalize v.toNat = V at *
    have b5 : IntKind.u64.wrap ((V : Int) / (t1 : Int)) = ((V / t1 : Nat) : Int) := by
      have : V / t1 ≤ V := Nat.div_le_self _ _
      rw [← Int.natCast_ediv, wrap_nat, Nat.mod_eq_of_lt (by omega)]
    have hd : V / t1 * t1 + V % t1 = V := by rw [Nat.mul_comm]; exact Nat.div_add_mod _ _
    have hm : V % t1 < t1 := Nat.mod_lt _ (by omega)
    have hd2 : V / t1 ≤ V := Nat.div_le_self _ _
    generalize V / t1 = vd at *
    generalize V % t1 = vm at *
    have b6 : IntKind.u64.wrap ((vd : Int) * (t1 : Int)) = ((vd * t1 : Nat) : Int) := by
      rw [← Int.natCast_mul, wrap_nat, Nat.mod_eq_of_lt (by omega)]
    generalize vd * t1 = vp at *
    have b7 : IntKind.u64.wrap ((V : Int) - (vp : Int)) = (vm : Int) := by
      rw [IntKind.wrap_u64]; omega
    have Hqb2 := Lib.hid hqb
    have Hall2 := Lib.hid (And.intro hVb (And.intro hm hd2))
    clear hvb hVb hd hm hd2 hqb a1 a2 a3 a4 a5 a6 a7
    go_upto_block 2 with fail
    go_cut [18] (fun q wx => q = .int .u64 (q0 : Int) ∧ wx = wc)
    case first =>
      go_wp2_with fail
      go_loopg [18, 16] 9 (fun f q r wr => ∃ a b g : Nat, f = g + 1 ∧ q = .int .u64 (a : Int) ∧ r = .int .u64 (b : Int) ∧ wr = wc ∧ a < 18446744073709551616 ∧ b < 4294967296 ∧ 4294967296 ≤ b + g * t1 ∧ q0 = adj g t1 t0 a b)
      case atStart =>
        obtain ⟨a1, a2, a3, a4, a5, a6, a7⟩ := Hall.out
        exact ⟨vd, vm, 8, rfl, rfl, rfl, rfl, by have := Hall2.out; omega, by have := Hall2.out; omega, by omega, Hqb2.out⟩
      case round =>
        obtain ⟨a, b, g, hg, rfl, rfl, rfl, ha, hb, hf, hadj⟩ := hrel
        obtain ⟨a1, a2, a3, a4, a5, a6, a7⟩ := Hall.out
        obtain ⟨g', rfl⟩ : ∃ g', g = g' + 1 := ⟨g - 1, by
          rcases Nat.eq_zero_or_pos g with e | e
          · subst e; omega
          · omega⟩
        rw [Nat.succ_mul] at hf
        obtain ⟨m1, m2, d, f1, f2, f3, f4, hd, hz, hmore⟩ := adj_facts ha hb a4 hadj
        have Hc := Lib.hid (And.intro hg (And.intro ha (And.intro hb (And.intro hf (And.intro hadj hd)))))
        clear hg ha hb hf hadj hd a1 a2 a3 a4 a5 a6 a7
        by_cases c1 : 4294967296 ≤ a ∨ m1 < m2
        · obtain ⟨f5, hl, hm⟩ := hmore c1
          have Hl := Lib.hid hl
          have Hm := Lib.hid hm
          clear hl hm hz hmore
          have ha : (4294967296 : Int) ≤ (a : Int) ∨ ¬ (4294967296 : Int) ≤ (a : Int) ∧ m1 < m2 := by omega
          have hd : (4294967296 : Int) ≤ (d : Int) ∨ ¬ (4294967296 : Int) ≤ (d : Int) := by omega
          have hE0 : (0 : Int) ≤ ((a - 1 : Nat) : Int) := by omega
          generalize hA : (a : Int) = A at *
          generalize hB : (b : Int) = B at *
          generalize hD : (d : Int) = D at *
          generalize hE : ((a - 1 : Nat) : Int) = E at *
          have Hx := Lib.hid (And.intro hA (And.intro hB (And.intro hD (And.intro hE c1))))
          clear hA hB hD hE c1
          rcases ha with ha | ⟨ha, ha2⟩
          all_goals
            rcases hd with hd | hd
            · go_wp2
              obtain ⟨hA, hB, hD, hE, c1⟩ := Hx.out
              go_meet
              exact ⟨by rw [Hl.out (by omega), ← hE], rfl⟩
            · go_wp2
              obtain ⟨hA, hB, hD, hE, c1⟩ := Hx.out
              obtain ⟨hg, ha, hb, hf, hadj, hd⟩ := Hc.out
              go_roundg (g' + 1)
              case measure => omega
              case rel => exact ⟨a - 1, d, g', rfl, by rw [← hE], by rw [← hD], rfl, by omega, by omega, by omega, Hm.out (by omega)⟩
        · have ha : ¬ (4294967296 : Int) ≤ (a : Int) := by omega
          have hb : ¬ m1 < m2 := by omega
          have hz' := hz ⟨by omega, hb⟩
          have Hz := Lib.hid hz'
          clear hz hz' hmore
          generalize hA : (a : Int) = A at *
          generalize hB : (b : Int) = B at *
          generalize hD : (d : Int) = D at *
          have Hx := Lib.hid (And.intro hA (And.intro hB (And.intro hD c1)))
          clear hA hB hD c1
          go_wp2
          obtain ⟨hA, hB, hD, c1⟩ := Hx.out
          go_meet
          exact ⟨by rw [Hz.out, ← hA], rfl⟩
    case rest =>
      obtain ⟨rfl, rfl⟩ := hcut
      have d1 : ∃ x3 : Nat, IntKind.u64.wrap ((q1 : Int) * 4294967296) = (x3 : Int) ∧ IntKind.u64.wrap ((x3 : Int) + (q0 : Int)) = (Q : Int) := by
        refine ⟨q1 * 4294967296 % 18446744073709551616, ?_, ?_⟩
        · rw [← wrap_nat]; simp
        · rw [Hq1.out, ← Int.natCast_add, wrap_nat]; congr 1; omega
      obtain ⟨x3, d1, d2⟩ := d1
      go_wp2
      go_ret2
      exact ⟨⟨_, rfl⟩, rfl⟩

end Go.Proofs.YtihmddpafbackaaGreat

namespace Go.Proofs.YtihmddpafbackaaGreat

open Go.RowKit

set_option linter.unusedVariables false

theorem mul_any (x y : Nat) (w : World) (hx : x < 18446744073709551616) (hy : y < 18446744073709551616) :
    Calls Tryz.prog 127 #[.int .u64 (x : Int), .int .u64 (y : Int)] w fun e w' => e = .returned (.tuple #[.int .u64 ((x * y / 18446744073709551616 : Nat) : Int), .int .u64 ((x * y % 18446744073709551616 : Nat) : Int)]) ∧ w' = w :=
  Tryz.bits_Mul64 x y hx hy w

theorem wrap_mul (a b : Nat) : IntKind.u64.wrap ((a : Int) * (b : Int)) = ((a * b % 18446744073709551616 : Nat) : Int) := by
  rw [← wrap_nat]; simp

theorem wrap_add (a b : Nat) : IntKind.u64.wrap ((a : Int) + (b : Int)) = (((a + b) % 18446744073709551616 : Nat) : Int) := by
  rw [← wrap_nat]; simp

set_option maxHeartbeats 800000 in
theorem great_any (p x : Nat) (w : World) (hx : x < 18446744073709551616) (hp : p ≤ 311) :
    Calls Tryz.prog 120 #[.int .u64 (p : Int), .int .u64 (x : Int)] w fun e w' => e = .returned (.bool (big p x)) ∧ w' = w := by
  have hlow : low x < 18446744073709551616 := Nat.mod_lt _ (by decide)
  have h1 : Calls Tryz.prog 127 #[.int .u64 (x : Int), .int .u64 (x : Int)] w fun e w' => e = .returned (.tuple #[.int .u64 (high x : Int), .int .u64 (low x : Int)]) ∧ w' = w := mul_any x x w hx hx
  have h2 := mul_any (low x) x w hlow hx
  have hbig : big p x = decide (p * 4294967296 ≤ (high x * x % 18446744073709551616 + low x * x / 18446744073709551616) % 18446744073709551616) := rfl
  have e1 := wrap_mul (high x) x
  have e2 := wrap_add (high x * x % 18446744073709551616) (low x * x / 18446744073709551616)
  have e3 : IntKind.u64.wrap ((p : Int) * 4294967296) = ((p * 4294967296 : Nat) : Int) := by
    rw [show (4294967296 : Int) = ((4294967296 : Nat) : Int) from rfl, wrap_mul, Nat.mod_eq_of_lt (by omega)]
  generalize high x = hi at *
  generalize low x = lo at *
  obtain ⟨c1, hc1⟩ : ∃ c1, c1 = hi * x % 18446744073709551616 := ⟨_, rfl⟩
  obtain ⟨c2, hc2⟩ : ∃ c2, c2 = lo * x / 18446744073709551616 := ⟨_, rfl⟩
  obtain ⟨c3, hc3⟩ : ∃ c3, c3 = lo * x % 18446744073709551616 := ⟨_, rfl⟩
  obtain ⟨pp, hpp⟩ : ∃ pp, pp = p * 4294967296 := ⟨_, rfl⟩
  rw [← hc1] at e1 e2 hbig
  rw [← hc2] at e2 hbig h2
  rw [← hc3] at h2
  rw [← hpp] at e3 hbig
  obtain ⟨d, hd⟩ : ∃ d, d = (c1 + c2) % 18446744073709551616 := ⟨_, rfl⟩
  rw [← hd] at e2 hbig
  have H1 := Lib.hid h1
  have H2 := Lib.hid h2
  have Hb := Lib.hid hbig
  have hp0 : (0 : Int) ≤ (p : Int) := by omega
  have hp1 : (p : Int) ≤ 311 := by omega
  have e4 : (p : Int) * 4294967296 = (pp : Int) := by rw [hpp]; simp
  clear h1 h2 hbig hc1 hc2 hc3 hpp hd hx hp hlow
  rw [Hb.out]
  go_enter Tryz.func120, Tryz.ntmps120
  go_wp2_with fail
  with_reducible refine H1.out.mono ?_
  rintro e w' ⟨rfl, rfl⟩
  go_wp2_with fail
  with_reducible refine H2.out.mono ?_
  rintro e w' ⟨rfl, rfl⟩
  go_wp2
  go_ret
  exact ⟨rfl, rfl⟩

/-- Where a step goes through. -/
def fineB (p x : Nat) : Bool := decide (1 ≤ p ∧ p ≤ 311 ∧ 4294967296 ≤ x ∧ x ≤ 30064771072 ∧ p * 33554432 < dvs x ∧ dvs x < 18446744073709551616 ∧ lead (dvs x) ≤ 63 ∧ 2147483648 ≤ dvs x * 2 ^ lead (dvs x) % 18446744073709551616 / 4294967296)

theorem or_nat (a b : Nat) (ha : a < 18446744073709551616) (hb : b < 18446744073709551616) : bits .or .u64 (a : Int) (b : Int) = ((a ||| b : Nat) : Int) :=
  (bits_nat .u64 64 (by decide) (fun n h0 h1 => by rw [IntKind.wrap_u64]; omega) a b (by simpa using ha) (by simpa using hb)).2

def stp (p x : Nat) : Nat := (2 * x + quo (p * 33554432) (dvs x)) % 18446744073709551616 / 3

set_option maxHeartbeats 800000 in
theorem step_any (p x : Nat) (w : World) (hf : fineB p x = true) :
    Calls Tryz.prog 121 #[.int .u64 (p : Int), .int .u64 (x : Int)] w fun e w' => e = .returned (.int .u64 (stp p x : Int)) ∧ w' = w := by
  unfold fineB at hf
  rw [decide_eq_true_iff] at hf
  obtain ⟨hp0, hp1, hx0, hx1, hd1, hd2, hd3, hd4⟩ := hf
  have hlow : low x < 18446744073709551616 := Nat.mod_lt _ (by decide)
  have h1 : Calls Tryz.prog 127 #[.int .u64 (x : Int), .int .u64 (x : Int)] w fun e w' => e = .returned (.tuple #[.int .u64 (high x : Int), .int .u64 (low x : Int)]) ∧ w' = w := mul_any x x w (by omega) (by omega)
  have h2 := div64_any (p * 33554432) (dvs x) w (by omega) hd1 hd2 hd3 hd4
  have hst : stp p x = (2 * x + quo (p * 33554432) (dvs x)) % 18446744073709551616 / 3 := rfl
  have e3 : bits .or .u64 ((high x * 144115188075855872 % 18446744073709551616 : Nat) : Int) ((low x / 128 : Nat) : Int) = (dvs x : Int) := or_nat _ _ (Nat.mod_lt _ (by decide)) (by omega)
  have e1 : IntKind.u64.wrap ((high x : Int) * 144115188075855872) = ((high x * 144115188075855872 % 18446744073709551616 : Nat) : Int) := by
    rw [show (144115188075855872 : Int) = ((144115188075855872 : Nat) : Int) from rfl, wrap_mul]
  have e2 : (low x : Int) / 128 = ((low x / 128 : Nat) : Int) := by omega
  have e6 : IntKind.u64.wrap (2 * (x : Int)) = ((2 * x : Nat) : Int) := by
    rw [show (2 : Int) = ((2 : Nat) : Int) from rfl, wrap_mul, Nat.mod_eq_of_lt (by omega)]
  have e7 := wrap_add (2 * x) (quo (p * 33554432) (dvs x))
  have hq : ((2 * x + quo (p * 33554432) (dvs x)) % 18446744073709551616 : Nat) / 3 ≤ 18446744073709551615 := by omega
  have e5 : (p : Int) * 33554432 = ((p * 33554432 : Nat) : Int) := by simp
  have e9 : 2 * (x : Int) = ((2 * x : Nat) : Int) := by simp
  have e10 : IntKind.u64.wrap ((2 * x : Nat) : Int) = ((2 * x : Nat) : Int) := by rw [wrap_nat, Nat.mod_eq_of_lt (by omega)]
  generalize stp p x = st at *
  generalize quo (p * 33554432) (dvs x) = q at *
  generalize dvs x = y at *
  generalize high x = hi at *
  generalize low x = lo at *
  obtain ⟨c1, hc1⟩ : ∃ c1, c1 = hi * 144115188075855872 % 18446744073709551616 := ⟨_, rfl⟩
  obtain ⟨c2, hc2⟩ : ∃ c2, c2 = lo / 128 := ⟨_, rfl⟩
  obtain ⟨pp, hpp⟩ : ∃ pp, pp = p * 33554432 := ⟨_, rfl⟩
  obtain ⟨xx, hxx⟩ : ∃ xx, xx = 2 * x := ⟨_, rfl⟩
  rw [← hc1] at e1 e3
  rw [← hc2] at e2 e3
  rw [← hpp] at e5 h2
  rw [← hxx] at e6 e7 hst e9 e10
  obtain ⟨d, hd⟩ : ∃ d, d = (xx + q) % 18446744073709551616 := ⟨_, rfl⟩
  rw [← hd] at e7 hst
  have hd0 : (0 : Int) ≤ (d : Int) := by omega
  have hd9 : (d : Int) ≤ 18446744073709551615 := by omega
  have H1 := Lib.hid h1
  have H2 := Lib.hid h2
  have Hs := Lib.hid hst
  have ip0 : (0 : Int) ≤ (p : Int) := by omega
  have ip1 : (p : Int) ≤ 311 := by omega
  clear h1 h2 hst hc1 hc2 hpp hd hxx hx0 hx1 hp0 hp1 hlow hd1 hd2 hd3 hd4 hq
  generalize hDD : (d : Int) = D at *
  have HD := Lib.hid hDD
  clear hDD
  go_enter Tryz.func121, Tryz.ntmps121
  go_wp2_with fail
  with_reducible refine H1.out.mono ?_
  rintro e w' ⟨rfl, rfl⟩
  go_wp2_with fail
  with_reducible refine H2.out.mono ?_
  rintro e w' ⟨⟨r, rfl⟩, rfl⟩
  go_wp2
  go_ret
  refine ⟨?_, rfl⟩
  show Ending.returned (.int .u64 _) = _
  have hD := HD.out
  have e11 : IntKind.u64.wrap (D / 3) = (st : Int) := by
    rw [Hs.out, ← hD, show ((d : Int) / 3) = ((d / 3 : Nat) : Int) from by omega, wrap_nat, Nat.mod_eq_of_lt (by omega)]
  first | rw [e11] | (rw [Hs.out, ← hD]; congr 2) | trace_state

/-- Where all steps go through, and the last one is no more too great. -/
def okT : Nat → Nat → Nat → Bool
  | 0, p, x => !big p x
  | f + 1, p, x => if big p x then fineB p x && okT f p (nxt p x) else true

theorem nxt_stp (p x : Nat) : nxt p x = min (stp p x) (x - 1) := rfl

theorem run_min_u64 {P : Program} {ts : Array TypeId} {t : TypeId} {w : World} (a b : Nat) : (Builtin.min_ ts t #[.int .u64 (a : Int), .int .u64 (b : Int)]).run P w = .ok (.int .u64 ((min a b : Nat) : Int)) w := by
  rw [run_min_int2]
  congr 2
  split <;> omega

set_option maxHeartbeats 800000 in
theorem root_any (p x f : Nat) (w : World) (hok : okT f p x = true) (hp : p ≤ 311) (hx : x < 18446744073709551616) :
    Calls Tryz.prog 113 #[.int .u64 (p : Int), .int .u64 (x : Int)] w fun e w' => e = .returned (.int .u64 (newt f p x : Int)) ∧ w' = w := by
  have Hok := Lib.hid (And.intro hok (And.intro hp hx))
  clear hok hp hx
  go_enter Tryz.func113, Tryz.ntmps113
  go_wp2
  go_loopg [5] (f + 1) (fun k v wr => ∃ y g : Nat, k = g + 1 ∧ v = .int .u64 (y : Int) ∧ wr = w ∧ y < 18446744073709551616 ∧ okT g p y = true ∧ newt f p x = newt g p y)
  case atStart => exact ⟨x, f, rfl, rfl, rfl, Hok.out.2.2, Hok.out.1, rfl⟩
  case round =>
    obtain ⟨y, g, hg, rfl, rfl, hy, ho, hn⟩ := hrel
    have hgr := great_any p y wr hy Hok.out.2.1
    by_cases hb : big p y = true
    · obtain ⟨g', rfl⟩ : ∃ g', g = g' + 1 := by
        cases g with
        | zero => rw [okT, hb] at ho; cases ho
        | succ g' => exact ⟨g', rfl⟩
      rw [okT, if_pos hb, Bool.and_eq_true] at ho
      rw [newt, if_pos hb] at hn
      have hst := step_any p y wr ho.1
      have hf := ho.1
      unfold fineB at hf
      rw [decide_eq_true_iff] at hf
      have e1 : IntKind.u64.wrap ((y : Int) - 1) = ((y - 1 : Nat) : Int) := by
        rw [show (y : Int) - 1 = ((y - 1 : Nat) : Int) from by omega, wrap_nat, Nat.mod_eq_of_lt (by omega)]
      have hmin : ∀ (ts : Array TypeId) (t : TypeId) (w : World), (Builtin.min_ ts t #[.int .u64 (stp p y : Int), .int .u64 ((y - 1 : Nat) : Int)]).run Tryz.prog w = .ok (.int .u64 (nxt p y : Int)) w :=
        fun ts t w => run_min_u64 _ _
      have hlt : nxt p y < 18446744073709551616 := Nat.lt_of_le_of_lt (by rw [nxt_stp]; exact Nat.min_le_right _ _) (Nat.lt_of_le_of_lt (Nat.sub_le y 1) hy)
      rw [hb] at hgr
      have Hc := Lib.hid (And.intro hg (And.intro hy (And.intro ho (And.intro hn hlt))))
      have Hg := Lib.hid hgr
      have Hs := Lib.hid hst
      clear hgr hst hf hg hy ho hn hlt hb
      generalize hN : nxt p y = N at *
      generalize stp p y = S at *
      generalize hY : ((y - 1 : Nat) : Int) = Y at *
      have HN := Lib.hid hN
      clear hN hY
      go_wp2_with fail
      with_reducible refine Hg.out.mono ?_
      rintro e w' ⟨rfl, rfl⟩
      go_wp2_with fail
      with_reducible refine Hs.out.mono ?_
      rintro e w' ⟨rfl, rfl⟩
      go_wp2
      go_roundg (g' + 1)
      case measure => have := Hc.out.1; omega
      case rel => exact ⟨N, g', rfl, rfl, rfl, Hc.out.2.2.2.2, Hc.out.2.2.1.2, Hc.out.2.2.2.1⟩
    · have hb' : big p y = false := by simpa using hb
      have hz : newt g p y = y := by
        cases g with
        | zero => rfl
        | succ g' => rw [newt, if_neg hb]
      rw [hz] at hn
      rw [hb'] at hgr
      have Hn := Lib.hid hn
      have Hg := Lib.hid hgr
      clear hn hgr hg hy ho hb hb' hz
      go_wp2_with fail
      with_reducible refine Hg.out.mono ?_
      rintro e w' ⟨rfl, rfl⟩
      go_wp2
      go_ret
      exact ⟨by show Ending.returned (.int .u64 (y : Int)) = _; rw [Hn.out], rfl⟩

/-! ### All of them fit -/

def rtOk : Nat → Nat → Rt → Bool
  | 0, _, _ => true
  | f + 1, i, s => okT 16 (PP.getD (63 - i) 0) s.root && rtOk f (i + 1) ⟨newt 16 (PP.getD (63 - i) 0) s.root, s.out.set (63 - i) (newt 16 (PP.getD (63 - i) 0) s.root % 4294967296)⟩

theorem rtOk_at (f : Nat) : ∀ i, rtOk f i (rtS i) = true → ∀ j, i ≤ j → j < i + f → okT 16 (PP.getD (63 - j) 0) (rtS j).root = true := by
  induction f with
  | zero => intro i _ j h1 h2; omega
  | succ f ih =>
    intro i h j h1 h2
    rw [rtOk, Bool.and_eq_true] at h
    by_cases e : j = i
    · subst e; exact h.1
    · exact ih (i + 1) h.2 j (by omega) (by omega)

theorem rt_fits : rtOk 64 0 (rtS 0) = true := by decide +kernel

theorem rtS_ok {j : Nat} (h : j < 64) : okT 16 (PP.getD (63 - j) 0) (rtS j).root = true := by
  have hr := rt_fits
  have hx := rtOk_at 64 0
  generalize (64 : Nat) = f at hr hx h
  exact hx hr j (Nat.zero_le _) (by omega)

end Go.Proofs.YtihmddpafbackaaGreat

namespace Go.Proofs.YtihmddpafbackaaGreat

open Go.RowKit

set_option linter.unusedVariables false

theorem mask31 (n : Nat) (h1 : 1 ≤ n) (h2 : n ≤ 31) : bits .and .u64 ((18446744073709551616 - n : Nat) : Int) 31 = ((32 - n : Nat) : Int) := by
  have h := (bits_nat .u64 64 (by decide) (fun n h0 h1 => by rw [IntKind.wrap_u64]; omega) (18446744073709551616 - n) 31 (by omega) (by decide)).1
  rw [show (31 : Int) = ((31 : Nat) : Int) from rfl, h]
  congr 1
  rw [show (31 : Nat) = 2 ^ 5 - 1 from rfl, Nat.and_two_pow_sub_one_eq_mod]
  omega

set_option maxHeartbeats 400000 in
theorem rotl_any (x : UInt32) (n : Nat) (w : World) (h1 : 1 ≤ n) (h2 : n ≤ 31) :
    Calls Tryz.prog 122 #[.int .u32 (x.toNat : Int), .int .i64 (-(n : Int))] w fun e w' => e = .returned (cw (rotr x n)) ∧ w' = w := by
  have e1 : IntKind.u64.wrap (-(n : Int)) = ((18446744073709551616 - n : Nat) : Int) := by rw [IntKind.wrap_u64]; omega
  have e2 := mask31 n h1 h2
  obtain ⟨m, hm⟩ : ∃ m, m = 18446744073709551616 - n := ⟨_, rfl⟩
  obtain ⟨s, hs⟩ : ∃ s, s = 32 - n := ⟨_, rfl⟩
  rw [← hm] at e1 e2
  rw [← hs] at e2
  have hx := x.toNat_lt
  have a1 : (0 : Int) ≤ (n : Int) := by omega
  have a2 : (n : Int) ≤ 31 := by omega
  have a3 : (0 : Int) ≤ (s : Int) := by omega
  have a4 : (s : Int) ≤ 31 := by omega
  have a5 : IntKind.u64.wrap (32 - (s : Int)) = (n : Int) := by rw [IntKind.wrap_u64]; omega
  have a6 : 32 - (s : Int) = (n : Int) := by omega
  have Hs := Lib.hid hs
  clear hm hs
  go_enter Tryz.func122, Tryz.ntmps122
  go_wp2
  go_ret
  refine ⟨?_, rfl⟩
  have hf : cw (rotr x n) = .int .u32 (bits .or .u32 ((x.toNat : Int) * 2 ^ s % 4294967296) ((x.toNat : Int) / 2 ^ n)) := by
    rw [Hs.out, w_shr x n h2, w_shl x (32 - n) (by omega), w_or]
    unfold rotr cw
    rw [UInt32.or_comm]
  rw [hf]
  rfl

theorem rors_any (x : UInt32) (n : Nat) (w : World) (h1 : 1 ≤ n) (h2 : n ≤ 31) :
    Calls Tryz.prog 115 #[.int .u32 (x.toNat : Int), .int .i64 (n : Int)] w fun e w' => e = .returned (.int .u32 ((rotr x n).toNat : Int)) ∧ w' = w := by
  have a1 : (0 : Int) ≤ (n : Int) := by omega
  have a2 : (n : Int) ≤ 31 := by omega
  have H := Lib.hid (fun w => rotl_any x n w h1 h2)
  go_enter Tryz.func115, Tryz.ntmps115
  go_wp2_with fail
  refine (H.out _).mono ?_
  rintro e w' ⟨rfl, rfl⟩
  go_wp2
  go_ret
  exact ⟨rfl, rfl⟩

theorem rors_int (x : UInt32) (n : Int) (w : World) (h1 : 1 ≤ n) (h2 : n ≤ 31) :
    Calls Tryz.prog 115 #[.int .u32 (x.toNat : Int), .int .i64 n] w fun e w' => e = .returned (.int .u32 ((rotr x n.toNat).toNat : Int)) ∧ w' = w := by
  obtain ⟨k, rfl⟩ := Int.eq_ofNat_of_zero_le (a := n) (by omega)
  rw [Int.toNat_natCast]
  exact rors_any x k w (by omega) (by omega)

theorem rors_quiet (x : UInt32) (n : Int) (w : World) (h1 : 1 ≤ n) (h2 : n ≤ 31) :
    Calls Tryz.prog 115 #[.int .u32 (x.toNat : Int), .int .i64 n] w fun e w' => e = .returned (.int .u32 ((rotr x n.toNat).toNat : Int)) ∧ ∃ q, w' = w.drewN q :=
  (rors_int x n w h1 h2).mono fun e w' ⟨h, hw⟩ => ⟨h, 0, hw⟩

end Go.Proofs.YtihmddpafbackaaGreat

namespace Go.Proofs.YtihmddpafbackaaGreat

open Go.RowKit

set_option linter.unusedVariables false

theorem or_add (a b n : Nat) (h : b < 2 ^ n) : a * 2 ^ n ||| b = a * 2 ^ n + b := by
  have := Nat.shiftLeft_add_eq_or_of_lt h a
  rw [Nat.shiftLeft_eq] at this
  exact this.symm

theorem or32 (a b : Nat) (ha : a < 4294967296) (hb : b < 4294967296) : bits .or .u32 (a : Int) (b : Int) = ((a ||| b : Nat) : Int) :=
  (bits_nat .u32 32 (by decide) (fun n h0 h1 => by rw [IntKind.wrap_u32]; omega) a b (by simpa using ha) (by simpa using hb)).2

theorem cw_be4o (a b c d : UInt8) : Value.int .u32 (bits .or .u32 (bits .or .u32 (bits .or .u32 ((a.toNat : Int) * 16777216) ((b.toNat : Int) * 65536)) ((c.toNat : Int) * 256)) (d.toNat : Int)) = cw (be4 a b c d) := by
  have ha := a.toNat_lt
  have hb := b.toNat_lt
  have hc := c.toNat_lt
  have hd := d.toNat_lt
  rw [← cw_be4]
  generalize a.toNat = x0 at *
  generalize b.toNat = x1 at *
  generalize c.toNat = x2 at *
  generalize d.toNat = x3 at *
  have e1 : bits .or .u32 ((x0 : Int) * 16777216) ((x1 : Int) * 65536) = ((x0 * 16777216 + x1 * 65536 : Nat) : Int) := by
    have := or32 (x0 * 16777216) (x1 * 65536) (by omega) (by omega)
    rw [Int.natCast_mul, Int.natCast_mul] at this
    rw [show (16777216 : Int) = ((16777216 : Nat) : Int) from rfl, show (65536 : Int) = ((65536 : Nat) : Int) from rfl, this]
    congr 1
    exact or_add x0 (x1 * 65536) 24 (by omega)
  have e2 : bits .or .u32 ((x0 * 16777216 + x1 * 65536 : Nat) : Int) ((x2 : Int) * 256) = ((x0 * 16777216 + x1 * 65536 + x2 * 256 : Nat) : Int) := by
    have := or32 (x0 * 16777216 + x1 * 65536) (x2 * 256) (by omega) (by omega)
    rw [Int.natCast_mul x2 256] at this
    rw [show (256 : Int) = ((256 : Nat) : Int) from rfl, this]
    congr 1
    rw [show x0 * 16777216 + x1 * 65536 = (x0 * 256 + x1) * 2 ^ 16 from by omega]
    exact or_add (x0 * 256 + x1) (x2 * 256) 16 (by omega)
  have e3 := or32 (x0 * 16777216 + x1 * 65536 + x2 * 256) x3 (by omega) (by omega)
  rw [e1, e2, e3]
  congr 1
  rw [show x0 * 16777216 + x1 * 65536 + x2 * 256 = (x0 * 65536 + x1 * 256 + x2) * 2 ^ 8 from by omega, or_add _ _ 8 (by omega)]
  simp
  omega

set_option maxRecDepth 100000 in
set_option maxHeartbeats 1600000 in
theorem scheds_any (bs : List UInt8) (w : World) (h : bs.length = 64) :
    Calls Tryz.prog 114 #[.agg (cbs bs).toArray] w fun e w' => e = .returned (.agg (cws (sch bs 64)).toArray) ∧ Below w.heap.size w w' := by
  have Hlen := Lib.hid h
  clear h
  go_enter Tryz.func114, Tryz.ntmps114
  go_wp2
  go_loopw [8] (fun i wr => ∃ k : Nat, k ≤ 16 ∧ i = .int .i64 k ∧ Blk wr w.heap.size 99 (cbs bs) ∧ Blk wr (w.heap.size + 1) 116 (cws (sch bs 0)) ∧
      Blk wr (w.heap.size + 1 + 1) 116 (cws (sch bs k)) ∧ Below w.heap.size w wr) (fun i _ => 16 - (intOf i).toNat)
  case atStart =>
    refine ⟨0, by omega, rfl, ?_, ?_, ?_, (((Below.refl _ _).alloc (Nat.le_refl _) _).alloc (by simp) _).alloc (by simp; omega) _⟩
    · exact ((Blk.new rfl rfl).old _).old _
    · exact (Blk.new (sch_start bs) (by simp)).old _
    · exact Blk.new (sch_start bs) (by simp)
  case round =>
    obtain ⟨k, hk, rfl, hB, hR, hS, hnx⟩ := hrel
    by_cases hlt : k < 16
    · have c0 := hB.cell (cbs_getD bs (4 * k) (by rw [Hlen.out]; omega))
      have c1 := hB.cell (cbs_getD bs (4 * k + 1) (by rw [Hlen.out]; omega))
      have c2 := hB.cell (cbs_getD bs (4 * k + 2) (by rw [Hlen.out]; omega))
      have c3 := hB.cell (cbs_getD bs (4 * k + 3) (by rw [Hlen.out]; omega))
      have d0 := hS.cell (sch_zero bs (k := k) (by omega))
      have f0 := hS.free k
      have hset := sch_set bs k
      rw [wt_low hlt] at hset
      have Hset := Lib.hid hset
      clear hset
      have l0 := (bs.getD (4 * k) 0).toNat_lt
      have l1 := (bs.getD (4 * k + 1) 0).toNat_lt
      have l2 := (bs.getD (4 * k + 2) 0).toNat_lt
      have l3 := (bs.getD (4 * k + 3) 0).toNat_lt
      generalize bs.getD (4 * k) 0 = x0 at *
      generalize bs.getD (4 * k + 1) 0 = x1 at *
      generalize bs.getD (4 * k + 2) 0 = x2 at *
      generalize bs.getD (4 * k + 3) 0 = x3 at *
      have i0 : (0 : Int) ≤ k := by omega
      have i1 : (k : Int) < 16 := by omega
      go_wp2
      go_region
      go_wp2
      go_roundw
      case rel =>
        refine ⟨k + 1, by omega, by go_num, hB.far (by dsimp only; omega) _, hR.far (by dsimp only; omega) _, ?_, (hnx.setCell (by dsimp only; omega) _).drew⟩
        have := hS.set_ k (cw (be4 x0 x1 x2 x3))
        rw [cws_set, Hset.out] at this
        rw [cw_be4o]
        exact this
      case measure => simp [intOf]; omega
    · have hS16 : Blk wr (w.heap.size + 1 + 1) 116 (cws (sch bs 16)) := by
        have e : k = 16 := by omega
        rw [e] at hS; exact hS
      have hk2 : ¬ (k : Int) < 16 := by omega
      clear hk hS
      go_wp2
      go_loopw [5, 6, 7] (fun i _ _ wr => ∃ k : Nat, k ≤ 64 ∧ 16 ≤ k ∧ i = .int .i64 k ∧ Blk wr (w.heap.size + 1) 116 (cws (sch bs 0)) ∧
          Blk wr (w.heap.size + 1 + 1) 116 (cws (sch bs k)) ∧ Below w.heap.size w wr) (fun i _ _ _ => 64 - (intOf i).toNat)
      case atStart => exact ⟨16, by omega, by omega, rfl, hR, hS16, hnx⟩
      case round =>
        obtain ⟨k, hk, hk16, rfl, hR, hS, hnx⟩ := hrel
        by_cases hlt : k < 64
        · have c0 := hS.cell (sch_cell bs (k := k) (j := k - 16) (by omega) (by omega))
          have c1 := hS.cell (sch_cell bs (k := k) (j := k - 15) (by omega) (by omega))
          have c9 := hS.cell (sch_cell bs (k := k) (j := k - 7) (by omega) (by omega))
          have c14 := hS.cell (sch_cell bs (k := k) (j := k - 2) (by omega) (by omega))
          have d0 := hS.cell (sch_zero bs (k := k) (by omega))
          have f0 := hS.free k
          have hset := sch_set bs k
          rw [wt_high hk16] at hset
          have Hset := Lib.hid hset
          clear hset
          generalize wt bs (k - 16) = x0 at *
          generalize wt bs (k - 15) = x1 at *
          generalize wt bs (k - 7) = x9 at *
          generalize wt bs (k - 2) = x14 at *
          have l0 := w_lt x0
          have l1 := w_lt x1
          have l9 := w_lt x9
          have l14 := w_lt x14
          have i0 : (16 : Int) ≤ (k : Int) := by omega
          have i1 : (k : Int) < 64 := by omega
          go_wp2
          go_quiet (fail)
          go_wp2
          have v1 : IntKind.i64.wrap ((k : Int) - 16) = (k : Int) - 16 := IntWalk.i64_in _ (by omega)
          have v2 : IntKind.i64.wrap ((k : Int) - 7) = (k : Int) - 7 := IntWalk.i64_in _ (by omega)
          have v3 : (0 : Int) ≤ (k : Int) - 16 := by omega
          have v4 : (0 : Int) ≤ (k : Int) - 7 := by omega
          have v5 : (k : Int) - 16 < 64 := by omega
          have v6 : (k : Int) - 7 < 64 := by omega
          have v7 : ((k : Int) - 16).toNat = k - 16 := by omega
          have v8 : ((k : Int) - 7).toNat = k - 7 := by omega
          have v9 : (0 : Int) ≤ (k : Int) := by omega
          have v10 : (7 : Int) ≤ (k : Int) := by omega
          go_region_held3 (fun wz => wz.cell? ⟨w.heap.size + 1 + 1, k - 16, none⟩ = some (.int .u32 (x0.toNat : Int)) ∧ wz.cell? ⟨w.heap.size + 1 + 1, k - 7, none⟩ = some (.int .u32 (x9.toNat : Int))) (first | go_keep | exact ⟨(World.cell?_setCell_other _ _ _ _ (by intro e; injection e with _ e2; omega)).trans c0, (World.cell?_setCell_other _ _ _ _ (by intro e; injection e with _ e2; omega)).trans c9⟩)
            (first | (go_at_call 115; refine (rors_int _ _ _ (by omega) (by omega)).mono ?_; rintro e wy ⟨rfl, rfl⟩))
          clear v1 v2 v3 v4 v5 v6 v7 v8 v9 v10
          go_wp2
          go_roundw
          case rel =>
            refine ⟨k + 1, by omega, by omega, by go_num, hR.far (by dsimp only; omega) _, ?_, by first | exact hnx.drew.setCell (by dsimp only; omega) _ | exact (below_drewN hnx _).setCell (by dsimp only; omega) _ | exact (hnx.setCell (by dsimp only; omega) _).drew⟩
            have := hS.set_ k (cw (x0 + s0 x1 + x9 + s1 x14))
            rw [cws_set, Hset.out] at this
            rw [cw_sched]
            exact this
          case measure => simp [intOf]; omega
        · have hS64 : Blk wr (w.heap.size + 1 + 1) 116 (cws (sch bs 64)) := by
            have e : k = 64 := by omega
            rw [e] at hS; exact hS
          have hk2 : ¬ (k : Int) < 64 := by omega
          have hi : (Tryz.prog.info? 116).map (·.size) = some (cws (sch bs 64)).toArray.size := by rw [info64w, sch_size]
          have hth : wr.there (w.heap.size + 1) 0 (cws (sch bs 64)).toArray.size := by
            have e := hR.there
            rw [cws_length, sch_len] at e
            rw [sch_size]
            exact e
          have hR' := hR.setAll (vs := cws (sch bs 64)) (by rw [cws_length, cws_length, sch_len, sch_len])
          have hnx' : Below w.heap.size w (wr.setCells (w.heap.size + 1) 0 (cws (sch bs 64))) := Below.setCells (by omega) _ hnx
          have Hi := Lib.hid hi
          have Hth := Lib.hid hth
          have hone := cws_one (sch bs 64)
          have Hone := Lib.hid hone
          clear hk hlt hS hi hth hone
          go_wp2_with (first
            | refine wpList_load_row rfl 116 _ rfl (w.heap.size + 1 + 1) rfl 116 (cws (sch bs 64)).toArray (0, 0) _ hS64 Tryz.underlying116 rfl Hi.out ?_
            | refine wpList_store_mid rfl 116 _ _ rfl (w.heap.size + 1) 0 (cws (sch bs 64)).toArray rfl rfl Hth.out Hi.out Hone.out ?_)
          refine bodyPost_ret (results_cell_row rfl _ _ (w.heap.size + 1) 116 (cws (sch bs 64)).toArray (0, 0) _ rfl hR' Tryz.underlying116 rfl Hi.out) rfl ⟨rfl, hnx'⟩

end Go.Proofs.YtihmddpafbackaaGreat

namespace Go.Proofs.YtihmddpafbackaaGreat

open Go.RowKit

set_option linter.unusedVariables false

theorem H0_lit : (cws H0).toArray = #[.int .u32 1779033703, .int .u32 3144134277, .int .u32 1013904242, .int .u32 2773480762, .int .u32 1359893119, .int .u32 2600822924, .int .u32 528734635, .int .u32 1541459225] := by
  simp [cws, H0, cw]

theorem info8w : (Tryz.prog.info? 97).map (·.size) = some 8 := by kernel_rfl

set_option maxRecDepth 100000 in
set_option maxHeartbeats 800000 in
theorem first_any (w : World) : Calls Tryz.prog 84 #[] w fun e w' => e = .returned (.agg (cws H0).toArray) ∧ Below w.heap.size w w' := by
  go_enter Tryz.func84, Tryz.ntmps84
  go_wp2
  refine bodyPost_ret (results_cell_row rfl _ _ w.heap.size 97 _ (0, 0) _ rfl (heap_alloc_new w _) Tryz.underlying97 rfl info8w) rfl ⟨?_, (Below.refl _ _).alloc (Nat.le_refl _) _⟩
  rw [H0_lit]

theorem zeros_there (w : World) (t : TypeId) : (w.alloc (.cells (List.replicate 64 (Value.int .u32 0)).toArray t)).there w.heap.size 0 64 := by
  have h : Blk (w.alloc (.cells (List.replicate 64 (Value.int .u32 0)).toArray t)) w.heap.size t (List.replicate 64 (Value.int .u32 0)) := Blk.new rfl rfl
  have := h.there
  rwa [List.length_replicate] at this

theorem KK_len : KK.length = 64 := rfl

theorem KK_size : (cws KK).toArray.size = 64 := by rw [List.size_toArray, cws_length, KK_len]

set_option maxRecDepth 100000 in
set_option maxHeartbeats 800000 in
theorem roots_any (w : World) : Calls Tryz.prog 98 #[] w fun e w' => e = .returned (.agg (cws KK).toArray) ∧ Below w.heap.size w w' := by
  have hi : (Tryz.prog.info? 116).map (·.size) = some (cws KK).toArray.size := by rw [info64w, KK_size]
  have Hi := Lib.hid hi
  clear hi
  have Hth := Lib.hid (zeros_there w 116)
  have HB := Lib.hid (show Blk (w.alloc (.cells (List.replicate 64 (Value.int .u32 0)).toArray 116)) w.heap.size 116 (List.replicate 64 (Value.int .u32 0)) from Blk.new rfl rfl)
  go_enter Tryz.func98, Tryz.ntmps98
  go_wp2_with (refine wpList_store_mid rfl 116 _ _ rfl w.heap.size 0 (cws KK).toArray rfl (by kernel_rfl) (by rw [KK_size]; exact Hth.out) Hi.out (cws_one KK) ?_)
  have hR : Blk ((w.alloc (.cells (List.replicate 64 (Value.int .u32 0)).toArray 116)).setCells w.heap.size 0 (cws KK)) w.heap.size 116 (cws KK) := HB.out.setAll (by rw [cws_length, List.length_replicate]; rfl)
  refine bodyPost_ret (results_cell_row rfl _ _ w.heap.size 116 (cws KK).toArray (0, 0) _ rfl hR Tryz.underlying116 rfl Hi.out) rfl ⟨rfl, ?_⟩
  exact Below.setCells (Nat.le_refl _) _ ((Below.refl _ _).alloc (Nat.le_refl _) _)

end Go.Proofs.YtihmddpafbackaaGreat
