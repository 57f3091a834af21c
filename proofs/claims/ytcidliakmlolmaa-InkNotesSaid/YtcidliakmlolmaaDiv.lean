/-
  math/bits.Div64 over this seat's translation, the lower half 0: the quotient as it is reckoned.
-/
import Derived.Test.YtcidliakmlolmaaRootsP
import Derived.Deep.DeepCutAuto
import Derived.Deep.CutBlock
namespace Go.Proofs.Ytcidliakmlolmaa
open Go.RowKit
set_option linter.unusedVariables false

def DivRet (q : Nat) (w : World) (e : Ending) (w' : World) : Prop := (∃ r : Int, e = .returned (.tuple #[.int .u64 (q : Int), .int .u64 r])) ∧ w' = w

theorem wrap_nat (n : Nat) : IntKind.u64.wrap (n : Int) = ((n % 18446744073709551616 : Nat) : Int) := by
  rw [IntKind.wrap_u64]; omega
theorem and_mask (n : Nat) (h : n < 18446744073709551616) : bits .and .u64 (n : Int) 4294967295 = ((n % 4294967296 : Nat) : Int) := by
  have h := (bits_nat .u64 64 (by decide) (fun n h0 h1 => by rw [IntKind.wrap_u64]; omega) n 4294967295 (by simpa using h) (by decide)).1
  rw [show (4294967295 : Int) = ((4294967295 : Nat) : Int) from rfl, h]
  congr 1
  exact Nat.and_two_pow_sub_one_eq_mod n 32
theorem or_zero (n : Nat) (h : n < 18446744073709551616) : bits .or .u64 (n : Int) 0 = (n : Int) := by
  have h := (bits_nat .u64 64 (by decide) (fun n h0 h1 => by rw [IntKind.wrap_u64]; omega) n 0 (by simpa using h) (by decide)).2
  rw [show (0 : Int) = ((0 : Nat) : Int) from rfl, h, Nat.or_zero]

theorem bitLenAux_le (f : Nat) : ∀ x, Lib.bitLenAux f x ≤ f := by
  induction f with
  | zero => intro x; exact Nat.le_refl _
  | succ f ih => intro x; rw [Lib.bitLenAux]; split; omega; have := ih (x / 2); omega
theorem adj_stop {f y1 y0 q r : Nat} (h1 : q < 4294967296) (h2 : ¬ 4294967296 * r % 18446744073709551616 < q * y0 % 18446744073709551616) : adj f y1 y0 q r = q := by
  cases f with
  | zero => rfl
  | succ f => rw [adj, if_neg (by omega)]
theorem adj_last {f y1 y0 q r : Nat} (h : 4294967296 ≤ q ∨ 4294967296 * r % 18446744073709551616 < q * y0 % 18446744073709551616) (h2 : 4294967296 ≤ r + y1) : adj (f + 1) y1 y0 q r = q - 1 := by
  rw [adj, if_pos h, if_pos h2]
theorem adj_more {f y1 y0 q r : Nat} (h : 4294967296 ≤ q ∨ 4294967296 * r % 18446744073709551616 < q * y0 % 18446744073709551616) (h2 : ¬ 4294967296 ≤ r + y1) : adj (f + 1) y1 y0 q r = adj f y1 y0 (q - 1) (r + y1) := by
  rw [adj, if_pos h, if_neg h2]
/-- What one round of a loop wants to know. -/
theorem adj_facts {a b g t0 t1 Z : Nat} (ha : a < 18446744073709551616) (hb : b < 4294967296) (ht : t1 < 4294967296) (hadj : Z = adj (g + 1) t1 t0 a b) :
    ∃ m1 m2 d : Nat, IntKind.u64.wrap ((a : Int) * (t0 : Int)) = (m2 : Int) ∧ IntKind.u64.wrap (4294967296 * (b : Int)) = (m1 : Int) ∧ IntKind.u64.wrap (m1 : Int) = (m1 : Int) ∧ IntKind.u64.wrap ((b : Int) + (t1 : Int)) = (d : Int) ∧ d = b + t1 ∧
      ((¬ 4294967296 ≤ a ∧ ¬ m1 < m2) → Z = a) ∧ (4294967296 ≤ a ∨ m1 < m2 → IntKind.u64.wrap ((a : Int) - 1) = ((a - 1 : Nat) : Int) ∧ (4294967296 ≤ d → Z = a - 1) ∧ (¬ 4294967296 ≤ d → Z = adj g t1 t0 (a - 1) d)) := by
  refine ⟨4294967296 * b % 18446744073709551616, a * t0 % 18446744073709551616, b + t1, ?_, ?_, ?_, ?_, rfl, ?_, ?_⟩
  · rw [← wrap_nat]; simp
  · rw [← wrap_nat]; simp
  · rw [wrap_nat, Nat.mod_mod]
  · rw [← Int.natCast_add, wrap_nat, Nat.mod_eq_of_lt (by omega)]
  · rintro ⟨h1, h2⟩; rw [hadj, adj_stop (by omega) h2]
  · intro h
    have h1 : 1 ≤ a := by
      rcases h with h | h
      · omega
      · rcases Nat.eq_zero_or_pos a with e | e
        · rw [e, Nat.zero_mul] at h; omega
        · exact e
    refine ⟨?_, fun h2 => ?_, fun h2 => ?_⟩
    · rw [show ((a : Int) - 1) = ((a - 1 : Nat) : Int) from by omega, wrap_nat, Nat.mod_eq_of_lt (by omega)]
    · rw [hadj, adj_last h h2]
    · rw [hadj, adj_more h h2]
theorem ua_facts {u q t : Nat} {v : Int} (h : v = ((u : Int) * 4294967296 - (q : Int) * (t : Int)) % 18446744073709551616) :
    ∃ x1 x2 : Nat, IntKind.u64.wrap ((u : Int) * 4294967296) = (x1 : Int) ∧ IntKind.u64.wrap (x1 : Int) = (x1 : Int) ∧ IntKind.u64.wrap ((q : Int) * (t : Int)) = (x2 : Int) ∧
      IntKind.u64.wrap ((x1 : Int) - (x2 : Int)) = (v.toNat : Int) ∧ v.toNat < 18446744073709551616 := by
  refine ⟨u * 4294967296 % 18446744073709551616, q * t % 18446744073709551616, ?_, ?_, ?_, ?_, ?_⟩
  · rw [← wrap_nat]; simp
  · rw [wrap_nat, Nat.mod_mod]
  · rw [← wrap_nat]; simp
  · rw [← Int.natCast_mul] at h
    rw [IntKind.wrap_u64]
    omega
  · rw [← Int.natCast_mul] at h
    omega
set_option maxRecDepth 100000 in
set_option maxHeartbeats 1600000 in
theorem div64_any (hi y : Nat) (w : World) (h0 : 0 < hi) (h1 : hi < y) (h2 : y < 18446744073709551616) (h3 : lead y ≤ 63)
    (h4 : 2147483648 ≤ y * 2 ^ lead y % 18446744073709551616 / 4294967296) :
    Calls Try.prog 63 #[.int .u64 (hi : Int), .int .u64 0, .int .u64 (y : Int)] w (DivRet (quo hi y) w) := by
  have g0 : (0 : Int) < (hi : Int) := by omega
  have g1 : (hi : Int) < (y : Int) := by omega
  have g2 : (y : Int) ≤ 18446744073709551615 := by omega
  have n0 : ((y : Int) == 0) = false := by simp; omega
  have n1 : ((hi : Int) == 0) = false := by simp; omega
  have hlz : Calls Try.prog 72 #[.int .u64 (y : Int)] w fun e w' => e = .returned (.int .i64 (lead y : Int)) ∧ w' = w := by
    refine (Try.bits_LeadingZeros64 (y : Int) w (by omega) (by omega)).mono ?_
    rintro e w' ⟨rfl, rfl⟩
    refine ⟨?_, rfl⟩
    have hb : Lib.bitLen y ≤ 64 := bitLenAux_le 64 y
    unfold lead
    rw [Int.toNat_natCast]
    congr 2
    omega
  have Hlz := Lib.hid hlz
  clear hlz
  have hq1 : quo hi y = (qa hi y * 4294967296 + qb hi y) % 18446744073709551616 := rfl
  have hqa : qa hi y = adj 8 (y * 2 ^ lead y % 18446744073709551616 / 4294967296) (y * 2 ^ lead y % 18446744073709551616 % 4294967296) (hi * 2 ^ lead y % 18446744073709551616 / (y * 2 ^ lead y % 18446744073709551616 / 4294967296)) (hi * 2 ^ lead y % 18446744073709551616 % (y * 2 ^ lead y % 18446744073709551616 / 4294967296)) := rfl
  have hua : ua hi y = (((hi * 2 ^ lead y % 18446744073709551616 : Nat) : Int) * 4294967296 - (qa hi y : Int) * ((y * 2 ^ lead y % 18446744073709551616 : Nat) : Int)) % 18446744073709551616 := rfl
  have hqb : qb hi y = adj 8 (y * 2 ^ lead y % 18446744073709551616 / 4294967296) (y * 2 ^ lead y % 18446744073709551616 % 4294967296) ((ua hi y).toNat / (y * 2 ^ lead y % 18446744073709551616 / 4294967296)) ((ua hi y).toNat % (y * 2 ^ lead y % 18446744073709551616 / 4294967296)) := rfl
  generalize quo hi y = Q at *
  generalize qa hi y = q1 at *
  generalize qb hi y = q0 at *
  generalize ua hi y = v at *
  generalize lead y = s at *
  have e1 : IntKind.u64.wrap ((y : Int) * 2 ^ s) = ((y * 2 ^ s % 18446744073709551616 : Nat) : Int) := by rw [← wrap_nat]; simp
  have e2 : IntKind.u64.wrap ((hi : Int) * 2 ^ s) = ((hi * 2 ^ s % 18446744073709551616 : Nat) : Int) := by rw [← wrap_nat]; simp
  have ht : y * 2 ^ s % 18446744073709551616 < 18446744073709551616 := Nat.mod_lt _ (by decide)
  have hu : hi * 2 ^ s % 18446744073709551616 < 18446744073709551616 := Nat.mod_lt _ (by decide)
  generalize y * 2 ^ s % 18446744073709551616 = t at *
  generalize hi * 2 ^ s % 18446744073709551616 = u at *
  have e3 := and_mask t ht
  have e4 := or_zero u hu
  have e5 : bits .and .u64 0 4294967295 = 0 := by decide
  have e6 : (t : Int) / 4294967296 = ((t / 4294967296 : Nat) : Int) := by omega
  have ht1 : t / 4294967296 < 4294967296 := by omega
  have ht0 : t % 4294967296 < 4294967296 := by omega
  generalize t / 4294967296 = t1 at *
  generalize t % 4294967296 = t0 at *
  have h4' : 2147483648 ≤ t1 := h4
  have e7 : IntKind.u64.wrap ((u : Int) / (t1 : Int)) = ((u / t1 : Nat) : Int) := by
    have : u / t1 ≤ u := Nat.div_le_self _ _
    rw [← Int.natCast_ediv, wrap_nat, Nat.mod_eq_of_lt (by omega)]
  have hd : u / t1 * t1 + u % t1 = u := by rw [Nat.mul_comm]; exact Nat.div_add_mod _ _
  have hm : u % t1 < t1 := Nat.mod_lt _ (by omega)
  have hd2 : u / t1 ≤ u := Nat.div_le_self _ _
  generalize u / t1 = qd at *
  generalize u % t1 = rm at *
  have e8 : IntKind.u64.wrap ((qd : Int) * (t1 : Int)) = ((qd * t1 : Nat) : Int) := by
    rw [← Int.natCast_mul, wrap_nat, Nat.mod_eq_of_lt (by omega)]
  generalize qd * t1 = pr at *
  have e9 : IntKind.u64.wrap ((u : Int) - (pr : Int)) = (rm : Int) := by
    rw [IntKind.wrap_u64]; omega
  have k1 : (s : Int) ≤ 63 := by omega
  have k2 : (0 : Int) ≤ (s : Int) := by omega
  have z1 : ¬ t1 = 0 := by omega
  have z2 : ¬ y ≤ hi := by omega
  have Hq1 := Lib.hid hq1
  have Hqa := Lib.hid hqa
  have Hqb := Lib.hid hqb
  have Hua := Lib.hid hua
  have Hall := Lib.hid (And.intro h4' (And.intro ht (And.intro hu (And.intro ht1 (And.intro ht0 (And.intro hm hd2))))))
  clear hq1 hqa hqb hua hd h0 h1 h2 h3 h4 h4' ht hu ht1 ht0 hm hd2
  go_enter Try.func63, Try.ntmps63
  go_upto_block 0 with (go_at_call 72; refine Hlz.out.mono ?_; rintro e w' ⟨rfl, rfl⟩)
  go_cut [15] (fun q wx => q = .int .u64 (q1 : Int) ∧ wx = w')
  case first =>
    go_wp2_with fail
    go_loopg [15, 16] 9 (fun f q r wr => ∃ a b g : Nat, f = g + 1 ∧ q = .int .u64 (a : Int) ∧ r = .int .u64 (b : Int) ∧ wr = w' ∧ a < 18446744073709551616 ∧ b < 4294967296 ∧ 4294967296 ≤ b + g * t1 ∧ q1 = adj g t1 t0 a b)
    case atStart =>
      obtain ⟨a1, a2, a3, a4, a5, a6, a7⟩ := Hall.out
      exact ⟨qd, rm, 8, rfl, rfl, rfl, rfl, by omega, by omega, by omega, Hqa.out⟩
    case round =>
      obtain ⟨a, b, g, hg, rfl, rfl, rfl, ha, hb, hf, hadj⟩ := hrel
      obtain ⟨a1, a2, a3, a4, a5, a6, a7⟩ := Hall.out
      obtain ⟨g', rfl⟩ : ∃ g', g = g' + 1 := ⟨g - 1, by
        rcases Nat.eq_zero_or_pos g with e | e
        · subst e; omega
        · omega⟩
      rw [Nat.succ_mul] at hf
      obtain ⟨m1, m2, d, f1, f2, f3, f4, hd, hz, hmore⟩ := adj_facts ha hb a4 hadj
      have Hc := Lib.hid (And.intro hg (And.intro ha (And.intro hb (And.intro hf (And.intro hadj hd)))))
      clear hg ha hb hf hadj hd a1 a2 a3 a4 a5 a6 a7
      by_cases c1 : 4294967296 ≤ a ∨ m1 < m2
      · obtain ⟨f5, hl, hm⟩ := hmore c1
        have Hl := Lib.hid hl
        have Hm := Lib.hid hm
        clear hl hm hz hmore
        have ha : (4294967296 : Int) ≤ (a : Int) ∨ ¬ (4294967296 : Int) ≤ (a : Int) ∧ m1 < m2 := by omega
        have hd : (4294967296 : Int) ≤ (d : Int) ∨ ¬ (4294967296 : Int) ≤ (d : Int) := by omega
        have hE0 : (0 : Int) ≤ ((a - 1 : Nat) : Int) := by omega
        generalize hA : (a : Int) = A at *
        generalize hB : (b : Int) = B at *
        generalize hD : (d : Int) = D at *
        generalize hE : ((a - 1 : Nat) : Int) = E at *
        have Hx := Lib.hid (And.intro hA (And.intro hB (And.intro hD (And.intro hE c1))))
        clear hA hB hD hE c1
        rcases ha with ha | ⟨ha, ha2⟩
        all_goals
          rcases hd with hd | hd
          · go_wp2
            obtain ⟨hA, hB, hD, hE, c1⟩ := Hx.out
            go_meet
            exact ⟨by rw [Hl.out (by omega), ← hE], rfl⟩
          · go_wp2
            obtain ⟨hA, hB, hD, hE, c1⟩ := Hx.out
            obtain ⟨hg, ha, hb, hf, hadj, hd⟩ := Hc.out
            go_roundg (g' + 1)
            case measure => omega
            case rel => exact ⟨a - 1, d, g', rfl, by rw [← hE], by rw [← hD], rfl, by omega, by omega, by omega, Hm.out (by omega)⟩
      · have ha : ¬ (4294967296 : Int) ≤ (a : Int) := by omega
        have hb : ¬ m1 < m2 := by omega
        have hz' := hz ⟨by omega, hb⟩
        have Hz := Lib.hid hz'
        clear hz hz' hmore
        generalize hA : (a : Int) = A at *
        generalize hB : (b : Int) = B at *
        generalize hD : (d : Int) = D at *
        have Hx := Lib.hid (And.intro hA (And.intro hB (And.intro hD c1)))
        clear hA hB hD c1
        go_wp2
        obtain ⟨hA, hB, hD, c1⟩ := Hx.out
        go_meet
        exact ⟨by rw [Hz.out, ← hA], rfl⟩
  case rest =>
    obtain ⟨rfl, rfl⟩ := hcut
    obtain ⟨a1, a2, a3, a4, a5, a6, a7⟩ := Hall.out
    obtain ⟨x1, x2, b1, b2, b3, b4, hvb⟩ := ua_facts Hua.out
    have hVb := hvb
    have hqb := Hqb.out
    generalize v.toNat = V at *
    have b5 : IntKind.u64.wrap ((V : Int) / (t1 : Int)) = ((V / t1 : Nat) : Int) := by
      have : V / t1 ≤ V := Nat.div_le_self _ _
      rw [← Int.natCast_ediv, wrap_nat, Nat.mod_eq_of_lt (by omega)]
    have hd : V / t1 * t1 + V % t1 = V := by rw [Nat.mul_comm]; exact Nat.div_add_mod _ _
    have hm : V % t1 < t1 := Nat.mod_lt _ (by omega)
    have hd2 : V / t1 ≤ V := Nat.div_le_self _ _
    generalize V / t1 = vd at *
    generalize V % t1 = vm at *
    have b6 : IntKind.u64.wrap ((vd : Int) * (t1 : Int)) = ((vd * t1 : Nat) : Int) := by
      rw [← Int.natCast_mul, wrap_nat, Nat.mod_eq_of_lt (by omega)]
    generalize vd * t1 = vp at *
    have b7 : IntKind.u64.wrap ((V : Int) - (vp : Int)) = (vm : Int) := by
      rw [IntKind.wrap_u64]; omega
    have Hqb2 := Lib.hid hqb
    have Hall2 := Lib.hid (And.intro hVb (And.intro hm hd2))
    clear hvb hVb hd hm hd2 hqb a1 a2 a3 a4 a5 a6 a7
    go_upto_block 2 with fail
    go_cut [18] (fun q wx => q = .int .u64 (q0 : Int) ∧ wx = wc)
    case first =>
      go_wp2_with fail
      go_loopg [18, 16] 9 (fun f q r wr => ∃ a b g : Nat, f = g + 1 ∧ q = .int .u64 (a : Int) ∧ r = .int .u64 (b : Int) ∧ wr = wc ∧ a < 18446744073709551616 ∧ b < 4294967296 ∧ 4294967296 ≤ b + g * t1 ∧ q0 = adj g t1 t0 a b)
      case atStart =>
        obtain ⟨a1, a2, a3, a4, a5, a6, a7⟩ := Hall.out
        exact ⟨vd, vm, 8, rfl, rfl, rfl, rfl, by have := Hall2.out; omega, by have := Hall2.out; omega, by omega, Hqb2.out⟩
      case round =>
        obtain ⟨a, b, g, hg, rfl, rfl, rfl, ha, hb, hf, hadj⟩ := hrel
        obtain ⟨a1, a2, a3, a4, a5, a6, a7⟩ := Hall.out
        obtain ⟨g', rfl⟩ : ∃ g', g = g' + 1 := ⟨g - 1, by
          rcases Nat.eq_zero_or_pos g with e | e
          · subst e; omega
          · omega⟩
        rw [Nat.succ_mul] at hf
        obtain ⟨m1, m2, d, f1, f2, f3, f4, hd, hz, hmore⟩ := adj_facts ha hb a4 hadj
        have Hc := Lib.hid (And.intro hg (And.intro ha (And.intro hb (And.intro hf (And.intro hadj hd)))))
        clear hg ha hb hf hadj hd a1 a2 a3 a4 a5 a6 a7
        by_cases c1 : 4294967296 ≤ a ∨ m1 < m2
        · obtain ⟨f5, hl, hm⟩ := hmore c1
          have Hl := Lib.hid hl
          have Hm := Lib.hid hm
          clear hl hm hz hmore
          have ha : (4294967296 : Int) ≤ (a : Int) ∨ ¬ (4294967296 : Int) ≤ (a : Int) ∧ m1 < m2 := by omega
          have hd : (4294967296 : Int) ≤ (d : Int) ∨ ¬ (4294967296 : Int) ≤ (d : Int) := by omega
          have hE0 : (0 : Int) ≤ ((a - 1 : Nat) : Int) := by omega
          generalize hA : (a : Int) = A at *
          generalize hB : (b : Int) = B at *
          generalize hD : (d : Int) = D at *
          generalize hE : ((a - 1 : Nat) : Int) = E at *
          have Hx := Lib.hid (And.intro hA (And.intro hB (And.intro hD (And.intro hE c1))))
          clear hA hB hD hE c1
          rcases ha with ha | ⟨ha, ha2⟩
          all_goals
            rcases hd with hd | hd
            · go_wp2
              obtain ⟨hA, hB, hD, hE, c1⟩ := Hx.out
              go_meet
              exact ⟨by rw [Hl.out (by omega), ← hE], rfl⟩
            · go_wp2
              obtain ⟨hA, hB, hD, hE, c1⟩ := Hx.out
              obtain ⟨hg, ha, hb, hf, hadj, hd⟩ := Hc.out
              go_roundg (g' + 1)
              case measure => omega
              case rel => exact ⟨a - 1, d, g', rfl, by rw [← hE], by rw [← hD], rfl, by omega, by omega, by omega, Hm.out (by omega)⟩
        · have ha : ¬ (4294967296 : Int) ≤ (a : Int) := by omega
          have hb : ¬ m1 < m2 := by omega
          have hz' := hz ⟨by omega, hb⟩
          have Hz := Lib.hid hz'
          clear hz hz' hmore
          generalize hA : (a : Int) = A at *
          generalize hB : (b : Int) = B at *
          generalize hD : (d : Int) = D at *
          have Hx := Lib.hid (And.intro hA (And.intro hB (And.intro hD c1)))
          clear hA hB hD c1
          go_wp2
          obtain ⟨hA, hB, hD, c1⟩ := Hx.out
          go_meet
          exact ⟨by rw [Hz.out, ← hA], rfl⟩
    case rest =>
      obtain ⟨rfl, rfl⟩ := hcut
      have d1 : ∃ x3 : Nat, IntKind.u64.wrap ((q1 : Int) * 4294967296) = (x3 : Int) ∧ IntKind.u64.wrap ((x3 : Int) + (q0 : Int)) = (Q : Int) := by
        refine ⟨q1 * 4294967296 % 18446744073709551616, ?_, ?_⟩
        · rw [← wrap_nat]; simp
        · rw [Hq1.out, ← Int.natCast_add, wrap_nat]; congr 1; omega
      obtain ⟨x3, d1, d2⟩ := d1
      go_wp2
      go_ret2
      exact ⟨⟨_, rfl⟩, rfl⟩
end Go.Proofs.Ytcidliakmlolmaa
