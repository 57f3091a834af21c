/-
  bytes.Clone over this seat's translation.
-/
import Derived.Test.YtlecihbclkohjaaApp

namespace Go.Proofs.Ytlecihbclkohjaa

open Go.RowKit

set_option linter.unusedVariables false

set_option maxHeartbeats 400000 in
theorem clone_any (A : Option Addr) (c n : Nat) (xs : List UInt8) (w : World) (hA : Bs w A xs) (hn : xs.length = n) (hl : n ≤ 140737488355328) :
    Calls Try.prog 54 #[.slice A n c] w (RetB w xs) := by
  have Hn := Lib.hid hn
  clear hn
  cases A with
  | none =>
    have hm : xs = [] := by
      cases xs with
      | nil => rfl
      | cons x t => obtain ⟨b, off, e, _⟩ := hA.at_ (i := 0) (by simp); cases e
    subst hm
    have hq := fun (w : World) => Lib.run_eql_slice_nil (P := Try.prog) w 27 5 none n c 0 0 Try.underlying27
    go_enter Try.func54, Try.ntmps54
    go_wp2
    go_ret
    exact ⟨_, rfl, World.ownsRow_nil _ _ _ _, Below.refl _ _⟩
  | some ad =>
    have hq := fun (w : World) => Lib.run_eql_slice_nil (P := Try.prog) w 27 5 (some ad) n c 0 0 Try.underlying27
    go_enter Try.func54, Try.ntmps54
    go_wp2_with (at_builtin; refine wp_appendB rfl _ _ rfl w.heap.size (.slice (some ⟨w.heap.size, 0, none⟩) 0 0) [] rfl (by exact World.ownsRow_made w #[] 0 (Nat.le_refl _) (by simp [maxLen]) rfl) (some ad) c n xs rfl (by exact hA.on ((Below.refl _ _).alloc (Nat.le_refl _) _)) Hn.out (by simpa using hl) (by simp) ?_; intro v1 w1 hm1 hg1 ho1)
    go_ret
    refine ⟨v1, rfl, by simpa using hm1, ((Below.refl _ _).alloc (Nat.le_refl _) _).grown hg1 (by simp) ?_⟩
    intro k hk
    simp [Value.ownBlock] at hk
    omega

end Go.Proofs.Ytlecihbclkohjaa
