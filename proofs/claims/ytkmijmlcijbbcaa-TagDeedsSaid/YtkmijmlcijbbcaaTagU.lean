/-
  EqInts and CopyInts of the reference.
-/
import Derived.Test.YtkmijmlcijbbcaaTagK
import Derived.Deep.RegionHeld3
import Derived.Deep.AppendLies
namespace Go.Proofs.Ytkmijmlcijbbcaa
open Go.RowKit
set_option linter.unusedVariables false

theorem i64_info : (Try.prog.info? 3).map (fun i => (i.zero, i.size, i.bytes)) = some (some (.int .i64 0), 1, 8) := by kernel_rfl
theorem cis_one (l : List Int) : ∀ u ∈ cis l, u.oneCell' = true := by
  intro u hu; simp [cis] at hu; obtain ⟨x, _, rfl⟩ := hu; rfl
/-- A new slice that shows 'l', in a row made since the world 'w'. -/
def NewI (w : World) (l : List Int) (v : Value) (w' : World) : Prop := w'.ownsRow w.heap.size 3 1 v l.length (cis l) ∧ Below w.heap.size w w'

set_option maxRecDepth 100000 in
theorem run_copyI (w : World) (A : Option Addr) (n c : Nat) (l : List Int) (h : ArgI w A n c l) (hn : n ≤ 17592186043904) (ty : TypeId) :
    ∃ v' w', (Builtin.append_ #[30, 30] ty #[.slice none 0 0, .slice A n c]).run Try.prog w = .ok v' w' ∧ NewI w l v' w' := by
  obtain ⟨h1, h2, h3, h4, _⟩ := h
  subst h1
  obtain ⟨i0, hi, hz0, hz1, hz2⟩ := info_parts i64_info
  cases A with
  | none =>
    have hl : l = [] := by
      cases l with
      | nil => rfl
      | cons x t => obtain ⟨b, off, e, _⟩ := h4.at_ (i := 0) (by simp); cases e
    subst hl
    refine ⟨.slice none 0 0, w, ?_, World.ownsRow_nil _ _ _ _, Below.refl _ _⟩
    simp [Builtin.append_, run_underlying Try.underlying30, sizeOf, typeInfo, hi, Builtin.lenOf, Builtin.firstCells]
  | some ad =>
    have hcells : ∀ j u, (cis l)[j]? = some u → w.cell? (ad.add j) = some u := by
      intro j u hu
      have hj : j < l.length := by
        rcases Nat.lt_or_ge j l.length with h | h
        · exact h
        · rw [List.getElem?_eq_none (by rw [cis_length]; exact h)] at hu; cases hu
      obtain ⟨b, off, e, _, hc⟩ := h4.2 (by omega)
      injection e with e
      subst e
      rw [add_mk]
      exact hc j u hu
    obtain ⟨v', w', q1, q2, q3, _, q5⟩ := run_append_own_at (P := Try.prog) w w.heap.size 30 ty 3 i0 (.int .i64 0) 1 8 Try.underlying30 hi hz0 hz1 hz2 rfl (by decide) (.slice none 0 0) 0 [] (World.ownsRow_nil _ _ _ _) ad l.length c (cis l)
      (by rw [cis_length]; simp) hcells (cis_one l) (by simp only [maxLen]; omega) (by omega) (Nat.le_refl _)
    exact ⟨v', w', q1, by simpa using q2, (Below.refl _ _).grown q3 (Nat.le_refl _) (by simp [Value.ownBlock])⟩

theorem wp_copyI {w : World} {ops : Array Oper} {rest : List Oper} {o : Oper} {a : Act} {Q : Exit → Act → World → Prop} (hgd : o.guard = none) (s x : Operand)
    (ho : o.op = .call { callee := .builtin .append, args := #[s, x], argTypes := #[30, 30] }) (A : Option Addr) (n c : Nat) (l : List Int) (hs : a.eval s = .slice none 0 0) (hx : a.eval x = .slice A n c) (hA : ArgI w A n c l) (hn : n ≤ 17592186043904)
    (h : ∀ v' w', NewI w l v' w' → wpList Try.prog ops Q rest (a.put o.dst v') w') : wpList Try.prog ops Q (o :: rest) a w := by
  obtain ⟨v', w', hrun, h2⟩ := run_copyI w A n c l hA hn o.type
  refine wpList_plain hgd fun K hK => ?_
  unfold Oper.wp execOp
  simp only [ho, resolve, invoke, builtin, Sem.run_bind, Sem.run_pure, Result.andThen_ok, List.map_toArray, List.map_cons, List.map_nil, hs, hx, hrun]
  exact hK _ _ (h v' w' h2)
theorem copyInts_any (A : Option Addr) (n c : Nat) (l : List Int) (w : World) (h : ArgI w A n c l) (hn : n ≤ 17592186043904) : Calls Try.prog 10 #[.slice A n c] w fun e w' => ∃ v, e = .returned v ∧ NewI w l v w' := by
  have H := Lib.hid h
  clear h
  go_enter Try.func10, Try.ntmps10
  go_wp2_with (at_builtin; refine wp_copyI rfl _ _ rfl A n c l rfl rfl H.out hn ?_; intro v1 w1 hN)
  go_ret
  exact ⟨v1, rfl, hN⟩

set_option maxRecDepth 100000 in
set_option maxHeartbeats 800000 in
/-- Alike: EqInts of two slices that show one list. -/
theorem eqInts_same (A A' : Option Addr) (n c c' : Nat) (l : List Int) (w : World) (h : ArgI w A n c l) (h' : ArgI w A' n c' l) : Calls Try.prog 13 #[.slice A n c, .slice A' n c'] w fun e w' => e = .returned (.bool true) ∧ Below w.heap.size w w' := by
  have hcm := h.2.2.1
  unfold maxLen at hcm
  have hnc := h.2.1
  have hcm' := h'.2.2.1
  unfold maxLen at hcm'
  have hnc' := h'.2.1
  have hn63 : n ≤ 9223372036854775807 := by omega
  have H := Lib.hid (And.intro h h')
  clear h h'
  go_enter Try.func13, Try.ntmps13
  go_wp2
  go_loopw [5] (fun v wr => ∃ j : Nat, j ≤ n ∧ v = .int .i64 j ∧ Below w.heap.size w wr) (fun v _ => n - (intOf v).toNat)
  case atStart => exact ⟨0, Nat.zero_le _, rfl, Below.refl _ _⟩
  case round =>
    obtain ⟨j, hj, rfl, hb⟩ := hrel
    have hi0 : (0 : Int) ≤ j := by omega
    by_cases hlt : j < n
    · have hi1 : (j : Int) < n := by omega
      have hjl : j < l.length := by rw [H.out.1.1]; exact hlt
      obtain ⟨b1, o1, rfl, l1, q1⟩ := H.out.1.2.2.2.1.at_ hjl
      obtain ⟨b2, o2, rfl, l2, q2⟩ := H.out.2.2.2.2.1.at_ hjl
      have c1 : wr.cell? ⟨b1, o1 + j, none⟩ = some (.int .i64 l[j]) := (hb.cell (p := ⟨b1, o1 + j, none⟩) l1).trans (q1 j hjl)
      have c2 : wr.cell? ⟨b2, o2 + j, none⟩ = some (.int .i64 l[j]) := (hb.cell (p := ⟨b2, o2 + j, none⟩) l2).trans (q2 j hjl)
      have c1d : wr.drew.cell? ⟨b1, o1 + j, none⟩ = some (.int .i64 l[j]) := c1
      have c2d : wr.drew.cell? ⟨b2, o2 + j, none⟩ = some (.int .i64 l[j]) := c2
      generalize l[j] = x at *
      have Hb := Lib.hid hb
      clear hb q1 q2 hjl
      go_wp2
      go_quiet (fail)
      go_wp2
      go_roundw
      case rel => exact ⟨j + 1, by omega, by go_num, below_drewN Hb.out _⟩
      case measure => simp [intOf]; omega
    · have hi1 : ¬ (j : Int) < n := by omega
      have Hb := Lib.hid hb
      clear hb
      go_wp2
      go_ret
      exact ⟨rfl, Hb.out⟩
end Go.Proofs.Ytkmijmlcijbbcaa
