/-
  slices.Clone, slices.Grow of nothing, slices.Concat of two, over this seat's translation.
-/
import Derived.Test.YtjibbbfpbflgmaaApp8
import Derived.Test.YtjibbbfpbflgmaaShelf8c
import Derived.Lib.AppendZerosOnto
import Derived.Lib.AppendZeros
namespace Go.Proofs.Ytjibbbfpbflgmaa
open Go.RowKit Go.Shelf
set_option linter.unusedVariables false

theorem ArgI.nil {w : World} {n c : Nat} {l : List Int} (h : ArgI w none n c l) : l = [] ∧ n = 0 := by
  have hl : l = [] := by
    cases l with
    | nil => rfl
    | cons x t => obtain ⟨b, off, e, _⟩ := h.2.2.2.1.at_ (i := 0) (by simp); cases e
  subst hl
  exact ⟨rfl, by have := h.1; simpa using this.symm⟩
theorem clone_any (A : Option Addr) (n c : Nat) (l : List Int) (w : World) (h : ArgI w A n c l) (hn : n ≤ 1000000) : Calls Try.prog 46 #[.slice A n c] w fun e w' => ∃ v, e = .returned v ∧ NewI w l v w' := by
  cases A with
  | none =>
    obtain ⟨rfl, rfl⟩ := h.nil
    have := Any.slices_Clone_int_nil Try.cloneL 0 c w
    exact this.mono fun e w' ⟨he, hw⟩ => ⟨_, he, by rw [hw]; exact World.ownsRow_nil _ _ _ _, by rw [hw]; exact Below.refl _ _⟩
  | some a =>
    rcases Nat.eq_zero_or_pos n with rfl | hpos
    · have hl : l = [] := List.eq_nil_of_length_eq_zero h.1
      subst hl
      have := Any.slices_Clone_int_zero Try.cloneL a c w
      exact this.mono fun e w' ⟨v, he, hw, _, hb⟩ => ⟨v, he, hw, hb⟩
    · obtain ⟨h1, h2, h3, h4, _⟩ := h
      subst h1
      obtain ⟨b, off, e, hlt, hc⟩ := h4.at_ hpos
      injection e with e
      subst e
      have := Any.slices_Clone_int Try.cloneL b off l.length c l w (Nat.le_refl _) (by omega) (fun j hj => by rw [hc j hj]; simp [List.getD, List.getElem?_eq_getElem hj])
      refine this.mono fun e w' ⟨v, he, hw, _, hb⟩ => ⟨v, he, ?_, hb⟩
      rw [List.take_length] at hw
      exact hw

set_option maxRecDepth 100000 in
theorem grow0_any (n : Nat) (w : World) (hn : n ≤ 1000000) : Calls Try.prog 63 #[.slice none 0 0, .int .i64 n] w fun e w' => ∃ v, e = .returned v ∧ OwnI w' w.heap.size v [] ∧ Below w.heap.size w w' := by
  rcases Nat.eq_zero_or_pos n with rfl | hpos
  · have h4 : ¬ ((0 : Int) > 0) := by omega
    go_enter Try.func63, Try.ntmps63
    go_wp2
    go_ret
    exact ⟨_, rfl, OwnI.nil _ _, Below.refl _ _⟩
  · obtain ⟨i0, hi, hz0, hz1, hz2⟩ := info_parts i64_info
    have h1 : ¬ ((n : Int) < 0) := by omega
    have h3 : IntKind.i64.wrap ((n : Int)) = (n : Int) := IntWalk.i64_in _ (by omega)
    have h4 : (n : Int) > 0 := by omega
    have hold : (Builtin.firstCells i0.size 0 (.slice none 0 0)).run Try.prog w.drew = .ok ([] : List Value).toArray w.drew := run_firstCells_none w.drew i0.size 0 0 0
    have hrz : ∀ ty, (Builtin.append_ #[22, 3] ty #[.slice none 0 0, .int .i64 n]).run Try.prog w =
        .ok (.slice (some ⟨w.heap.size, 0, none⟩) n (grownCap w n 0 3)) (w.drew.alloc (.cells (([] : List Value).toArray ++ Builtin.zeroCells (Value.int .i64 0).cells n ++ Builtin.zeroCells (Value.int .i64 0).cells (grownCap w n 0 3 - n)) 3)) := fun ty => by
      have h := Lib.run_append_grow_zeros w 22 3 ty 3 i0 (.int .i64 0) .i64 .i64 Try.underlying22 Try.underlying3 hi hz0 none 0 0 [] hold n hpos (by omega) (by omega) (by omega)
        (by rw [hz2]; omega) (growslice_fits (by omega) (by rw [hz2]; omega))
      rw [Nat.zero_add] at h
      exact h
    have hGn : n ≤ grownCap w n 0 3 := grownCap_ge w _ _ _
    have hGm : grownCap w n 0 3 ≤ maxLen := grownCap_le_maxLen w _ _ _ (by unfold maxLen; omega)
    obtain ⟨G, hG⟩ : ∃ G, G = grownCap w n 0 3 := ⟨_, rfl⟩
    rw [← hG] at hrz hGn hGm
    have hG63 : G ≤ 9223372036854775807 := by unfold maxLen at hGm; omega
    obtain ⟨cs, hcs, hl⟩ : ∃ cs : List Value, (([] : List Value).toArray ++ Builtin.zeroCells (Value.int .i64 0).cells n ++ Builtin.zeroCells (Value.int .i64 0).cells (G - n)) = cs.toArray ∧ cs.length = G := by
      refine ⟨(([] : List Value).toArray ++ Builtin.zeroCells (Value.int .i64 0).cells n ++ Builtin.zeroCells (Value.int .i64 0).cells (G - n)).toList, by simp, ?_⟩
      have hz : ∀ k, (Builtin.zeroCells (Value.int .i64 0).cells k).size = k := fun k => by simp [Builtin.zeroCells, Value.cells]
      rw [Array.length_toList, Array.size_append, Array.size_append, hz, hz]
      simp; omega
    rw [hcs] at hrz
    have hO : OwnI (w.drew.alloc (.cells cs.toArray 3)) w.heap.size (.slice (some ⟨w.heap.size, 0, none⟩) 0 G) [] :=
      blk_own (Nat.le_refl _) (Blk.new (l := cs) rfl rfl) (Nat.zero_le _) hGm hl rfl
    have hb : Below w.heap.size w (w.drew.alloc (.cells cs.toArray 3)) := ((Below.refl _ w).drew).alloc (Nat.le_refl _) _
    have HO := Lib.hid (And.intro hO hb)
    clear hO hb hcs hl hG hold
    go_enter Try.func63, Try.ntmps63
    go_wp2_with (at_builtin; refine Lib.wpList_append_run _ rfl _ _ _ _ rfl _ _ rfl rfl _ _ (hrz _) ?_)
    go_ret
    exact ⟨_, rfl, HO.out.1, HO.out.2⟩

set_option maxRecDepth 100000 in
set_option maxHeartbeats 800000 in
theorem concat2_any (g : Nat) (A1 A2 : Option Addr) (n1 c1 n2 c2 : Nat) (l1 l2 : List Int) (w : World) (hB : Blk w g 22 [.slice A1 n1 c1, .slice A2 n2 c2]) (h1 : ArgI w A1 n1 c1 l1) (h2 : ArgI w A2 n2 c2 l2) (hn1 : n1 ≤ 100000) (hn2 : n2 ≤ 100000) :
    Calls Try.prog 52 #[.slice (some ⟨g, 0, none⟩) 2 2] w fun e w' => ∃ v, e = .returned v ∧ NewI w (l1 ++ l2) v w' := by
  have hn : ¬ ((n1 : Int) < 0) := by omega
  have hn' : ¬ ((n1 : Int) + (n2 : Int) < 0) := by omega
  have hs : IntKind.i64.wrap ((n1 : Int) + (n2 : Int)) = (n1 : Int) + (n2 : Int) := IntWalk.i64_in _ (by omega)
  have k0 : w.cell? ⟨g, 0, none⟩ = some (.slice A1 n1 c1) := hB.cell rfl
  have k1 : w.cell? ⟨g, 1, none⟩ = some (.slice A2 n2 c2) := hB.cell rfl
  have hlt := hB.lt
  have hc1 := h1.2.1
  have hc2 := h2.2.1
  have hm1 := h1.2.2.1
  have hm2 := h2.2.2.1
  unfold maxLen at hm1 hm2
  have H := Lib.hid (And.intro hB (And.intro h1 h2))
  clear hB h1 h2
  go_enter Try.func52, Try.ntmps52
  go_wp2
  go_loopw [3, 11] (fun v3 v11 wr => wr = w ∧ ((v11 = .int .i64 0 ∧ v3 = .int .i64 0) ∨ (v11 = .int .i64 1 ∧ v3 = .int .i64 n1) ∨ (v11 = .int .i64 2 ∧ v3 = .int .i64 ((n1 : Int) + (n2 : Int))))) (fun _ v _ => 2 - (intOf v).toNat)
  case atStart => exact ⟨rfl, .inl ⟨rfl, rfl⟩⟩
  case round =>
    obtain ⟨hw, hv⟩ := hrel
    have hw := hw.symm
    subst hw
    obtain ⟨rfl, rfl⟩ | ⟨rfl, rfl⟩ | ⟨rfl, rfl⟩ := hv
    · go_wp2
      exact ⟨⟨trivial, .inr (.inl ⟨rfl, rfl⟩)⟩, by simp [intOf]⟩
    · go_wp2
      exact ⟨⟨trivial, .inr (.inr ⟨rfl, rfl⟩)⟩, by simp [intOf]⟩
    · have hG := grow0_any (n1 + n2) w (by omega)
      rw [show ((n1 + n2 : Nat) : Int) = (n1 : Int) + (n2 : Int) by omega] at hG
      have HG := Lib.hid hG
      clear hG
      go_wp2_with (go_at_call 63; refine HG.out.mono ?_; rintro e w1 ⟨v1, rfl, hO1, hb1⟩)
      have HK := Lib.hid (And.intro hO1 hb1)
      clear hO1 hb1 HG k0 k1
      go_loopw [6, 27] (fun v6 v27 wr => ∃ (j : Nat) (ys : List Int), v27 = .int .i64 j ∧ OwnI wr w.heap.size v6 ys ∧ Below w.heap.size w wr ∧ ((j = 0 ∧ ys = []) ∨ (j = 1 ∧ ys = l1) ∨ (j = 2 ∧ ys = l1 ++ l2))) (fun _ v _ => 2 - (intOf v).toNat)
      case atStart => exact ⟨0, [], rfl, HK.out.1, HK.out.2, .inl ⟨rfl, rfl⟩⟩
      case round =>
        obtain ⟨j, ys, rfl, hO2, hb2, hj⟩ := hrel
        have hle2 := hb2.size
        have k0 : wr.cell? ⟨g, 0, none⟩ = some (.slice A1 n1 c1) := (H.out.1.below hb2 hlt).cell rfl
        have k1 : wr.cell? ⟨g, 1, none⟩ = some (.slice A2 n2 c2) := (H.out.1.below hb2 hlt).cell rfl
        have H2 := Lib.hid (And.intro hO2 (And.intro hb2 (And.intro (H.out.2.1.after hb2) (H.out.2.2.after hb2))))
        clear hO2 hb2
        rcases hj with ⟨rfl, rfl⟩ | ⟨rfl, rfl⟩ | ⟨rfl, rfl⟩
        · go_wp2_with (at_builtin; refine wp_appendI rfl _ _ rfl w.heap.size _ [] rfl H2.out.1 A1 c1 n1 l1 rfl H2.out.2.2.1.2.2.2.1 H2.out.2.2.1.1 (by simp; omega) hle2 ?_; intro v2 w3 hO3 hg3 ho3)
          exact ⟨⟨1, l1, rfl, by simpa using hO3, below_append H2.out.2.1 H2.out.1 hg3 (Nat.le_refl _) hle2, .inr (.inl ⟨rfl, rfl⟩)⟩, by simp [intOf]⟩
        · have hyl := H2.out.2.2.1.1
          go_wp2_with (at_builtin; refine wp_appendI rfl _ _ rfl w.heap.size _ ys rfl H2.out.1 A2 c2 n2 l2 rfl H2.out.2.2.2.2.2.2.1 H2.out.2.2.2.1 (by omega) hle2 ?_; intro v2 w3 hO3 hg3 ho3)
          exact ⟨⟨2, ys ++ l2, rfl, hO3, below_append H2.out.2.1 H2.out.1 hg3 (Nat.le_refl _) hle2, .inr (.inr ⟨rfl, rfl⟩)⟩, by simp [intOf]⟩
        · clear k0 k1
          go_wp2
          go_ret
          exact ⟨_, rfl, H2.out.1, H2.out.2.1⟩
end Go.Proofs.Ytjibbbfpbflgmaa
