/-
  The primes and the roots over this seat's translation.
-/
import Derived.Test.YtcidliakmlolmaaDiv
import Derived.Test.YtcidliakmlolmaaSched
namespace Go.Proofs.Ytcidliakmlolmaa
open Go.RowKit
set_option linter.unusedVariables false

theorem mul_any (x y : Nat) (w : World) (hx : x < 18446744073709551616) (hy : y < 18446744073709551616) :
    Calls Try.prog 62 #[.int .u64 (x : Int), .int .u64 (y : Int)] w fun e w' => e = .returned (.tuple #[.int .u64 ((x * y / 18446744073709551616 : Nat) : Int), .int .u64 ((x * y % 18446744073709551616 : Nat) : Int)]) ∧ w' = w :=
  Try.bits_Mul64 x y hx hy w

theorem wrap_mul (a b : Nat) : IntKind.u64.wrap ((a : Int) * (b : Int)) = ((a * b % 18446744073709551616 : Nat) : Int) := by
  rw [← wrap_nat]; simp
theorem wrap_add (a b : Nat) : IntKind.u64.wrap ((a : Int) + (b : Int)) = (((a + b) % 18446744073709551616 : Nat) : Int) := by
  rw [← wrap_nat]; simp

set_option maxHeartbeats 800000 in
theorem great_any (p x : Nat) (w : World) (hx : x < 18446744073709551616) (hp : p ≤ 311) :
    Calls Try.prog 55 #[.int .u64 (p : Int), .int .u64 (x : Int)] w fun e w' => e = .returned (.bool (big p x)) ∧ w' = w := by
  have hlow : low x < 18446744073709551616 := Nat.mod_lt _ (by decide)
  have h1 : Calls Try.prog 62 #[.int .u64 (x : Int), .int .u64 (x : Int)] w fun e w' => e = .returned (.tuple #[.int .u64 (high x : Int), .int .u64 (low x : Int)]) ∧ w' = w := mul_any x x w hx hx
  have h2 := mul_any (low x) x w hlow hx
  have hbig : big p x = decide (p * 4294967296 ≤ (high x * x % 18446744073709551616 + low x * x / 18446744073709551616) % 18446744073709551616) := rfl
  have e1 := wrap_mul (high x) x
  have e2 := wrap_add (high x * x % 18446744073709551616) (low x * x / 18446744073709551616)
  have e3 : IntKind.u64.wrap ((p : Int) * 4294967296) = ((p * 4294967296 : Nat) : Int) := by
    rw [show (4294967296 : Int) = ((4294967296 : Nat) : Int) from rfl, wrap_mul, Nat.mod_eq_of_lt (by omega)]
  generalize high x = hi at *
  generalize low x = lo at *
  obtain ⟨c1, hc1⟩ : ∃ c1, c1 = hi * x % 18446744073709551616 := ⟨_, rfl⟩
  obtain ⟨c2, hc2⟩ : ∃ c2, c2 = lo * x / 18446744073709551616 := ⟨_, rfl⟩
  obtain ⟨c3, hc3⟩ : ∃ c3, c3 = lo * x % 18446744073709551616 := ⟨_, rfl⟩
  obtain ⟨pp, hpp⟩ : ∃ pp, pp = p * 4294967296 := ⟨_, rfl⟩
  rw [← hc1] at e1 e2 hbig
  rw [← hc2] at e2 hbig h2
  rw [← hc3] at h2
  rw [← hpp] at e3 hbig
  obtain ⟨d, hd⟩ : ∃ d, d = (c1 + c2) % 18446744073709551616 := ⟨_, rfl⟩
  rw [← hd] at e2 hbig
  have H1 := Lib.hid h1
  have H2 := Lib.hid h2
  have Hb := Lib.hid hbig
  have hp0 : (0 : Int) ≤ (p : Int) := by omega
  have hp1 : (p : Int) ≤ 311 := by omega
  have e4 : (p : Int) * 4294967296 = (pp : Int) := by rw [hpp]; simp
  clear h1 h2 hbig hc1 hc2 hc3 hpp hd hx hp hlow
  rw [Hb.out]
  go_enter Try.func55, Try.ntmps55
  go_wp2_with fail
  with_reducible refine H1.out.mono ?_
  rintro e w' ⟨rfl, rfl⟩
  go_wp2_with fail
  with_reducible refine H2.out.mono ?_
  rintro e w' ⟨rfl, rfl⟩
  go_wp2
  go_ret
  exact ⟨rfl, rfl⟩

/-- Where a step goes through. -/
def fineB (p x : Nat) : Bool := decide (1 ≤ p ∧ p ≤ 311 ∧ 4294967296 ≤ x ∧ x ≤ 30064771072 ∧ p * 33554432 < dvs x ∧ dvs x < 18446744073709551616 ∧ lead (dvs x) ≤ 63 ∧ 2147483648 ≤ dvs x * 2 ^ lead (dvs x) % 18446744073709551616 / 4294967296)
theorem or_nat (a b : Nat) (ha : a < 18446744073709551616) (hb : b < 18446744073709551616) : bits .or .u64 (a : Int) (b : Int) = ((a ||| b : Nat) : Int) :=
  (bits_nat .u64 64 (by decide) (fun n h0 h1 => by rw [IntKind.wrap_u64]; omega) a b (by simpa using ha) (by simpa using hb)).2
def stp (p x : Nat) : Nat := (2 * x + quo (p * 33554432) (dvs x)) % 18446744073709551616 / 3

set_option maxHeartbeats 800000 in
theorem step_any (p x : Nat) (w : World) (hf : fineB p x = true) :
    Calls Try.prog 56 #[.int .u64 (p : Int), .int .u64 (x : Int)] w fun e w' => e = .returned (.int .u64 (stp p x : Int)) ∧ w' = w := by
  unfold fineB at hf
  rw [decide_eq_true_iff] at hf
  obtain ⟨hp0, hp1, hx0, hx1, hd1, hd2, hd3, hd4⟩ := hf
  have hlow : low x < 18446744073709551616 := Nat.mod_lt _ (by decide)
  have h1 : Calls Try.prog 62 #[.int .u64 (x : Int), .int .u64 (x : Int)] w fun e w' => e = .returned (.tuple #[.int .u64 (high x : Int), .int .u64 (low x : Int)]) ∧ w' = w := mul_any x x w (by omega) (by omega)
  have h2 := div64_any (p * 33554432) (dvs x) w (by omega) hd1 hd2 hd3 hd4
  have hst : stp p x = (2 * x + quo (p * 33554432) (dvs x)) % 18446744073709551616 / 3 := rfl
  have e3 : bits .or .u64 ((high x * 144115188075855872 % 18446744073709551616 : Nat) : Int) ((low x / 128 : Nat) : Int) = (dvs x : Int) := or_nat _ _ (Nat.mod_lt _ (by decide)) (by omega)
  have e1 : IntKind.u64.wrap ((high x : Int) * 144115188075855872) = ((high x * 144115188075855872 % 18446744073709551616 : Nat) : Int) := by
    rw [show (144115188075855872 : Int) = ((144115188075855872 : Nat) : Int) from rfl, wrap_mul]
  have e2 : (low x : Int) / 128 = ((low x / 128 : Nat) : Int) := by omega
  have e6 : IntKind.u64.wrap (2 * (x : Int)) = ((2 * x : Nat) : Int) := by
    rw [show (2 : Int) = ((2 : Nat) : Int) from rfl, wrap_mul, Nat.mod_eq_of_lt (by omega)]
  have e7 := wrap_add (2 * x) (quo (p * 33554432) (dvs x))
  have hq : ((2 * x + quo (p * 33554432) (dvs x)) % 18446744073709551616 : Nat) / 3 ≤ 18446744073709551615 := by omega
  have e5 : (p : Int) * 33554432 = ((p * 33554432 : Nat) : Int) := by simp
  have e9 : 2 * (x : Int) = ((2 * x : Nat) : Int) := by simp
  have e10 : IntKind.u64.wrap ((2 * x : Nat) : Int) = ((2 * x : Nat) : Int) := by rw [wrap_nat, Nat.mod_eq_of_lt (by omega)]
  generalize stp p x = st at *
  generalize quo (p * 33554432) (dvs x) = q at *
  generalize dvs x = y at *
  generalize high x = hi at *
  generalize low x = lo at *
  obtain ⟨c1, hc1⟩ : ∃ c1, c1 = hi * 144115188075855872 % 18446744073709551616 := ⟨_, rfl⟩
  obtain ⟨c2, hc2⟩ : ∃ c2, c2 = lo / 128 := ⟨_, rfl⟩
  obtain ⟨pp, hpp⟩ : ∃ pp, pp = p * 33554432 := ⟨_, rfl⟩
  obtain ⟨xx, hxx⟩ : ∃ xx, xx = 2 * x := ⟨_, rfl⟩
  rw [← hc1] at e1 e3
  rw [← hc2] at e2 e3
  rw [← hpp] at e5 h2
  rw [← hxx] at e6 e7 hst e9 e10
  obtain ⟨d, hd⟩ : ∃ d, d = (xx + q) % 18446744073709551616 := ⟨_, rfl⟩
  rw [← hd] at e7 hst
  have hd0 : (0 : Int) ≤ (d : Int) := by omega
  have hd9 : (d : Int) ≤ 18446744073709551615 := by omega
  have H1 := Lib.hid h1
  have H2 := Lib.hid h2
  have Hs := Lib.hid hst
  have ip0 : (0 : Int) ≤ (p : Int) := by omega
  have ip1 : (p : Int) ≤ 311 := by omega
  clear h1 h2 hst hc1 hc2 hpp hd hxx hx0 hx1 hp0 hp1 hlow hd1 hd2 hd3 hd4 hq
  generalize hDD : (d : Int) = D at *
  have HD := Lib.hid hDD
  clear hDD
  go_enter Try.func56, Try.ntmps56
  go_wp2_with fail
  with_reducible refine H1.out.mono ?_
  rintro e w' ⟨rfl, rfl⟩
  go_wp2_with fail
  with_reducible refine H2.out.mono ?_
  rintro e w' ⟨⟨r, rfl⟩, rfl⟩
  go_wp2
  go_ret
  refine ⟨?_, rfl⟩
  show Ending.returned (.int .u64 _) = _
  have hD := HD.out
  have e11 : IntKind.u64.wrap (D / 3) = (st : Int) := by
    rw [Hs.out, ← hD, show ((d : Int) / 3) = ((d / 3 : Nat) : Int) from by omega, wrap_nat, Nat.mod_eq_of_lt (by omega)]
  first | rw [e11] | (rw [Hs.out, ← hD]; congr 2) | trace_state

/-- Where all steps go through, and the last one is no more too great. -/
def okT : Nat → Nat → Nat → Bool
  | 0, p, x => !big p x
  | f + 1, p, x => if big p x then fineB p x && okT f p (nxt p x) else true
theorem nxt_stp (p x : Nat) : nxt p x = min (stp p x) (x - 1) := rfl
theorem run_min_u64 {P : Program} {ts : Array TypeId} {t : TypeId} {w : World} (a b : Nat) : (Builtin.min_ ts t #[.int .u64 (a : Int), .int .u64 (b : Int)]).run P w = .ok (.int .u64 ((min a b : Nat) : Int)) w := by
  rw [run_min_int2]
  congr 2
  split <;> omega

set_option maxHeartbeats 800000 in
theorem root_any (p x f : Nat) (w : World) (hok : okT f p x = true) (hp : p ≤ 311) (hx : x < 18446744073709551616) :
    Calls Try.prog 48 #[.int .u64 (p : Int), .int .u64 (x : Int)] w fun e w' => e = .returned (.int .u64 (newt f p x : Int)) ∧ w' = w := by
  have Hok := Lib.hid (And.intro hok (And.intro hp hx))
  clear hok hp hx
  go_enter Try.func48, Try.ntmps48
  go_wp2
  go_loopg [5] (f + 1) (fun k v wr => ∃ y g : Nat, k = g + 1 ∧ v = .int .u64 (y : Int) ∧ wr = w ∧ y < 18446744073709551616 ∧ okT g p y = true ∧ newt f p x = newt g p y)
  case atStart => exact ⟨x, f, rfl, rfl, rfl, Hok.out.2.2, Hok.out.1, rfl⟩
  case round =>
    obtain ⟨y, g, hg, rfl, rfl, hy, ho, hn⟩ := hrel
    have hgr := great_any p y wr hy Hok.out.2.1
    by_cases hb : big p y = true
    · obtain ⟨g', rfl⟩ : ∃ g', g = g' + 1 := by
        cases g with
        | zero => rw [okT, hb] at ho; cases ho
        | succ g' => exact ⟨g', rfl⟩
      rw [okT, if_pos hb, Bool.and_eq_true] at ho
      rw [newt, if_pos hb] at hn
      have hst := step_any p y wr ho.1
      have hf := ho.1
      unfold fineB at hf
      rw [decide_eq_true_iff] at hf
      have e1 : IntKind.u64.wrap ((y : Int) - 1) = ((y - 1 : Nat) : Int) := by
        rw [show (y : Int) - 1 = ((y - 1 : Nat) : Int) from by omega, wrap_nat, Nat.mod_eq_of_lt (by omega)]
      have hmin : ∀ (ts : Array TypeId) (t : TypeId) (w : World), (Builtin.min_ ts t #[.int .u64 (stp p y : Int), .int .u64 ((y - 1 : Nat) : Int)]).run Try.prog w = .ok (.int .u64 (nxt p y : Int)) w :=
        fun ts t w => run_min_u64 _ _
      have hlt : nxt p y < 18446744073709551616 := Nat.lt_of_le_of_lt (by rw [nxt_stp]; exact Nat.min_le_right _ _) (Nat.lt_of_le_of_lt (Nat.sub_le y 1) hy)
      rw [hb] at hgr
      have Hc := Lib.hid (And.intro hg (And.intro hy (And.intro ho (And.intro hn hlt))))
      have Hg := Lib.hid hgr
      have Hs := Lib.hid hst
      clear hgr hst hf hg hy ho hn hlt hb
      generalize hN : nxt p y = N at *
      generalize stp p y = S at *
      generalize hY : ((y - 1 : Nat) : Int) = Y at *
      have HN := Lib.hid hN
      clear hN hY
      go_wp2_with fail
      with_reducible refine Hg.out.mono ?_
      rintro e w' ⟨rfl, rfl⟩
      go_wp2_with fail
      with_reducible refine Hs.out.mono ?_
      rintro e w' ⟨rfl, rfl⟩
      go_wp2
      go_roundg (g' + 1)
      case measure => have := Hc.out.1; omega
      case rel => exact ⟨N, g', rfl, rfl, rfl, Hc.out.2.2.2.2, Hc.out.2.2.1.2, Hc.out.2.2.2.1⟩
    · have hb' : big p y = false := by simpa using hb
      have hz : newt g p y = y := by
        cases g with
        | zero => rfl
        | succ g' => rw [newt, if_neg hb]
      rw [hz] at hn
      rw [hb'] at hgr
      have Hn := Lib.hid hn
      have Hg := Lib.hid hgr
      clear hn hgr hg hy ho hb hb' hz
      go_wp2_with fail
      with_reducible refine Hg.out.mono ?_
      rintro e w' ⟨rfl, rfl⟩
      go_wp2
      go_ret
      exact ⟨by show Ending.returned (.int .u64 (y : Int)) = _; rw [Hn.out], rfl⟩

/-! ### All of them fit -/
def rtOk : Nat → Nat → Rt → Bool
  | 0, _, _ => true
  | f + 1, i, s => okT 16 (PP.getD (63 - i) 0) s.root && rtOk f (i + 1) ⟨newt 16 (PP.getD (63 - i) 0) s.root, s.out.set (63 - i) (newt 16 (PP.getD (63 - i) 0) s.root % 4294967296)⟩
theorem rtOk_at (f : Nat) : ∀ i, rtOk f i (rt i) = true → ∀ j, i ≤ j → j < i + f → okT 16 (PP.getD (63 - j) 0) (rt j).root = true := by
  induction f with
  | zero => intro i _ j h1 h2; omega
  | succ f ih =>
    intro i h j h1 h2
    rw [rtOk, Bool.and_eq_true] at h
    by_cases e : j = i
    · subst e; exact h.1
    · exact ih (i + 1) h.2 j (by omega) (by omega)
theorem rt_fits : rtOk 64 0 (rt 0) = true := by decide +kernel
theorem rt_ok {j : Nat} (h : j < 64) : okT 16 (PP.getD (63 - j) 0) (rt j).root = true := by
  have hr := rt_fits
  have hx := rtOk_at 64 0
  generalize (64 : Nat) = f at hr hx h
  exact hx hr j (Nat.zero_le _) (by omega)
end Go.Proofs.Ytcidliakmlolmaa
