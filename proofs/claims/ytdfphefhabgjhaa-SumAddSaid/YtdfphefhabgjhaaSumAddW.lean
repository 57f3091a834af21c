/-
  For all sums s and bytes q: Add answers as the document's own answer does, and what is handed in stays; SumAdd returns true; no condition.
-/
import Derived.Test.YtdfphefhabgjhaaOpen
import Derived.Test.YtdfphefhabgjhaaAid6
namespace Go.Proofs.Ytdfphefhabgjhaa.sumAdd
open Go.ChangeShapes Go.WideShapes Go.ChangeAt Go.RowKit
set_option linter.unusedVariables false

set_option maxRecDepth 100000 in
set_option maxHeartbeats 1600000 in
theorem walk (s : Int) (Aq : Option Addr) (nq cq : Nat) (q : List UInt8) (w : World) (hs : (Lit.int .u64 s).wf = true) (hq : ArgB w Aq nq cq q) :
    Calls Try.prog 5 #[.int .u64 s, .slice Aq nq cq] w fun e w' => e = .returned (.bool true) ∧ Below w.heap.size w w' := by
  obtain ⟨s, rfl⟩ : ∃ q : UInt64, s = (q.toNat : Int) := ⟨_, wf_u64 hs⟩
  obtain ⟨hql, hqc, hqm, hqB⟩ := hq
  go_enter Try.func5, Try.ntmps5
  go_wp2_with fail
  refine (copyBytes Aq cq nq q w hqB hql (by omega)).mono ?_
  rintro e w1 ⟨v1, rfl, hN⟩
  obtain ⟨A1, c1, rfl, hc1, hcm1, hB1⟩ := hN.form
  rw [hql] at hc1 ⊢
  have b1 := hN.2
  have hml : nq ≤ maxLen := by unfold maxLen; omega
  have hs1 := fun w' (h : Bs w' A1 q) => add_any s A1 c1 nq q w' h hql hml
  have hs2 := fun w' (h : Bs w' Aq q) => radd_any s Aq cq nq q w' h hql hml
  have hs3 := fun w' (h : Bs w' A1 q) (h2 : Bs w' Aq q) => eqBytes A1 Aq c1 cq nq nq q q w' h h2 hql hql hml hml
  generalize addC s q = r at *
  rw [beq_self_eq_true] at hs3
  have Hs1 := Lib.hid hs1
  have Hs2 := Lib.hid hs2
  have Hs3 := Lib.hid hs3
  have Q0 : Bs w1 A1 q ∧ Bs w1 Aq q := ⟨hB1, hqB.on b1⟩
  have Q0 := Lib.hid Q0
  have Hb := Lib.hid b1
  clear hs1 hs2 hs3 hN b1 hB1 hqB hql hs
  go_wp2_with fail
  refine (Hs1.out _ Q0.out.1).mono ?_
  rintro e w2 ⟨rfl, hb2⟩
  have Q1 := Lib.hid (And.intro (Q0.out.1.on hb2) (Q0.out.2.on hb2))
  have Hb2 := Lib.hid hb2
  clear hb2
  go_wp2_with fail
  refine (Hs2.out _ Q1.out.2).mono ?_
  rintro e w3 ⟨rfl, rfl⟩
  go_wp2_with fail
  refine (Hs3.out _ Q1.out.1 Q1.out.2).mono ?_
  rintro e w4 ⟨rfl, hb4⟩
  have Hb4 := Lib.hid hb4
  clear hb4
  go_wp2_with fail
  refine (works6_any _).mono ?_
  rintro e w5 ⟨rfl, hb5⟩
  go_wp2
  go_ret
  have h2 := Hb.out.trans (Hb2.out.mono Hb.out.size)
  have h4 := h2.trans (Hb4.out.mono h2.size)
  exact ⟨rfl, h4.trans (hb5.mono h4.size)⟩

end Go.Proofs.Ytdfphefhabgjhaa.sumAdd
