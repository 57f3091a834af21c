/-
  For all bytes q: Of answers as the document's own answer does, and what is handed in stays; ShaOf returns true; no condition.
-/
import Derived.Test.YtamfjnomkefddaaOpen
import Derived.Test.YtamfjnomkefddaaRefOf
import Derived.Test.YtamfjnomkefddaaApi
import Derived.Test.YtamfjnomkefddaaHex
import Derived.Test.YtamfjnomkefddaaAnyOrderH
import Derived.Deep.RegionHeld3
import Derived.Deep.RegionWith
import Derived.Deep.DeepCutAuto
namespace Go.Proofs.Ytamfjnomkefddaa.shaOf
open Go.ChangeShapes Go.WideShapes Go.ChangeAt Go.RowKit
set_option linter.unusedVariables false

set_option maxRecDepth 100000 in
set_option maxHeartbeats 3200000 in
theorem walk (Aq : Option Addr) (nq cq : Nat) (q : List UInt8) (w : World) (hq : ArgB w Aq nq cq q) :
    Calls Try.prog 10 #[.slice Aq nq cq] w fun e w' => e = .returned (.bool true) ∧ Below w.heap.size w w' := by
  obtain ⟨hql, hqc, hqm, hqB⟩ := hq
  obtain ⟨D, hD32, hDv, hD1⟩ : ∃ D : List Value, D.length = 32 ∧ cbs (digest q) = D ∧ D.toArray.all (·.oneCell') = true := ⟨cbs (digest q), by rw [cbs_length, dlen], rfl, cbs_one' _⟩
  have Hw := Lib.hid works_any
  have he := eq_same D q hDv.symm
  go_enter Try.func10, Try.ntmps10
  go_wp2_with fail
  refine (copyBytes Aq cq nq q w hqB hql (by omega)).mono ?_
  rintro e w1 ⟨v1, rfl, hN⟩
  obtain ⟨A1, c1, rfl, hc1, hcm1, hB1⟩ := hN.form
  rw [hql] at hc1 ⊢
  have b1 := hN.2
  have hs1 := fun w' (h : Bs w' A1 q) => of_any A1 nq c1 q w' h hql hc1 hcm1 (by omega)
  have hs2 := fun w' (h : Bs w' Aq q) => refOf_any Aq cq nq q w' h hql (by omega)
  have hs3 := fun w' (h : Bs w' A1 q) (h2 : Bs w' Aq q) => eqBytes A1 Aq c1 cq nq nq q q w' h h2 hql hql (by unfold maxLen; omega) (by unfold maxLen; omega)
  rw [hDv] at hs1 hs2
  rw [beq_self_eq_true] at hs3
  have Hs1 := Lib.hid hs1
  have Hs2 := Lib.hid hs2
  have Hs3 := Lib.hid hs3
  have Q0 : Bs w1 A1 q ∧ Bs w1 Aq q := ⟨hB1, hqB.on b1⟩
  have Q0 := Lib.hid Q0
  have Hb := Lib.hid b1
  clear hs1 hs2 hs3 hN b1 hB1 hqB hDv hD1 hql
  go_wp2_with fail
  refine (Hs1.out _ Q0.out.1).mono ?_
  rintro e w2 ⟨rfl, hb2⟩
  have Q1 := Lib.hid (And.intro (Q0.out.1.on hb2) (Q0.out.2.on hb2))
  have Hb2 := Lib.hid hb2
  clear hb2
  go_wp2_with fail
  refine (Hs2.out _ Q1.out.2).mono ?_
  rintro e w3 ⟨rfl, hb3⟩
  have Q2 := Lib.hid (And.intro (Q1.out.1.on hb3) (Q1.out.2.on hb3))
  have Hb3 := Lib.hid hb3
  clear hb3
  go_wp2_with fail
  refine (Hs3.out _ Q2.out.1 Q2.out.2).mono ?_
  rintro e w4 ⟨rfl, hb4⟩
  have Hb4 := Lib.hid hb4
  clear hb4
  go_wp2_with fail
  refine (Hw.out _).mono ?_
  rintro e w5 ⟨rfl, hb5⟩
  go_wp2
  go_ret
  have h2 := Hb.out.trans (Hb2.out.mono Hb.out.size)
  have h3 := h2.trans (Hb3.out.mono h2.size)
  have h4 := h3.trans (Hb4.out.mono h3.size)
  exact ⟨rfl, h4.trans (hb5.mono h4.size)⟩

end Go.Proofs.Ytamfjnomkefddaa.shaOf
