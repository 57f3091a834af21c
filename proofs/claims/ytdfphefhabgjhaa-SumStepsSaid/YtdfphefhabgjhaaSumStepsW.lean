/-
  For all bytes q: the sum is what taking in byte by byte makes; SumSteps returns true; no condition.
-/
import Derived.Test.YtdfphefhabgjhaaOpen
import Derived.Test.YtdfphefhabgjhaaAid6
namespace Go.Proofs.Ytdfphefhabgjhaa.sumSteps
open Go.ChangeShapes Go.WideShapes Go.ChangeAt Go.RowKit
set_option linter.unusedVariables false

set_option maxRecDepth 100000 in
set_option maxHeartbeats 1600000 in
theorem walk (Aq : Option Addr) (nq cq : Nat) (q : List UInt8) (w : World) (hq : ArgB w Aq nq cq q) :
    Calls Try.prog 7 #[.slice Aq nq cq] w fun e w' => e = .returned (.bool true) ∧ Below w.heap.size w w' := by
  obtain ⟨hql, hqc, hqm, hqB⟩ := hq
  have hml : nq ≤ maxLen := by unfold maxLen; omega
  have hm63 : nq ≤ 140737488351232 := by omega
  obtain ⟨t, ht⟩ : ∃ t : UInt64, ~~~0 = t := ⟨_, rfl⟩
  have htl : Hid ((t.toNat : Int) = 18446744073709551615) := by show _ = _; rw [← ht]; rfl
  have Ht := Lib.hid ht
  have Hof := Lib.hid (fun w' (h : Bs w' Aq q) => of_any Aq cq nq q w' h hql hml)
  have Hl := Lib.hid hql
  clear ht hql hml hqm
  go_enter Try.func7, Try.ntmps7
  go_wp2_with fail
  refine (works6_any _).mono ?_
  rintro e w0 ⟨rfl, b0⟩
  go_wp2_with fail
  go_loopw [4, 3] (fun i v wr => ∃ k : Nat, k ≤ nq ∧ i = .int .i64 k ∧ v = .int .u64 ((runC t (q.take k)).toNat : Int) ∧ wr = w0) (fun i _ _ => nq - (intOf i).toNat)
  case atStart => exact ⟨0, Nat.zero_le _, rfl, (by rw [← htl.out]; rfl), rfl⟩
  case round =>
    obtain ⟨k, hk, rfl, rfl, rfl⟩ := hrel
    by_cases hlt : k < nq
    · have hkx : k < q.length := by rw [Hl.out]; exact hlt
      obtain ⟨b, off, rfl, hb, hc⟩ := (hqB.on b0).at_ (i := k) hkx
      have g0 := hc k hkx
      have hr := runC_succ t q k hkx
      obtain ⟨y, hy⟩ : ∃ y, runC t (q.take k) = y := ⟨_, rfl⟩
      obtain ⟨c0, hc0⟩ : ∃ c0, q[k] = c0 := ⟨_, rfl⟩
      rw [hy, hc0] at hr
      rw [hy]
      rw [hc0] at g0
      have hi0 : (0 : Int) ≤ k := by omega
      have hi1 : (k : Int) < nq := by omega
      have Hr := Lib.hid (And.intro hr hk)
      have Hs1 := Lib.hid (step_any y c0 wr)
      clear hc hr hy hc0 hk
      go_wp2_with fail
      refine Hs1.out.mono ?_
      rintro e w' ⟨rfl, rfl⟩
      go_wp2_with fail
      go_roundw
      case rel => exact ⟨k + 1, by omega, by go_num, by rw [Hr.out.1], trivial⟩
      case measure => simp [intOf]; omega
    · have e : k = nq := by omega
      subst e
      have ht : q.take k = q := List.take_of_length_le (by rw [Hl.out]; exact Nat.le_refl _)
      rw [ht]
      obtain ⟨y, hy⟩ : ∃ y, runC t q = y := ⟨_, rfl⟩
      obtain ⟨z, hz1⟩ : ∃ z, ~~~y = z := ⟨_, rfl⟩
      have hfin : ofC q = z := by
        show ~~~(runC (~~~0) q) = z
        rw [Ht.out, hy, hz1]
      have hof := Hof.out
      rw [hfin] at hof
      have Hof2 := Lib.hid hof
      have hsg : IntKind.u64.signed = false := rfl
      have hq : bits .xor .u64 IntKind.u64.max (y.toNat : Int) = (z.toNat : Int) := by rw [← hz1]; exact q_not y
      rw [hy]
      have i2 : ¬ (k : Int) < (k : Int) := by omega
      clear hy hz1 ht hk hlt hof Hof hfin
      go_wp2_with fail
      refine (Hof2.out _ (hqB.on b0)).mono ?_
      rintro e w' ⟨rfl, b1⟩
      go_wp2_with fail
      go_ret
      exact ⟨rfl, b0.trans (b1.mono b0.size)⟩

end Go.Proofs.Ytdfphefhabgjhaa.sumSteps
