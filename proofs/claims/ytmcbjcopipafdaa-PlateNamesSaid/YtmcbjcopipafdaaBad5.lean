/-
  New of the document's plate, of a size that no plate has; both plates made.
-/
import Derived.Test.YtmcbjcopipafdaaStep5
import Derived.Test.YtmcbjcopipafdaaArgDo
namespace Go.Proofs.Ytmcbjcopipafdaa
open Go.RowKit Go.Maps
set_option linter.unusedVariables false

theorem rnew_none (x : Int) (hx : x < 1 ∨ 4096 < x) (w : World) : Calls Try.prog 27 #[.int .i64 x] w fun e w' => e = .returned (.tuple #[.pointer none, .int .i64 9]) ∧ w' = w := by
  by_cases h : x < 1
  · go_enter Try.func27, Try.ntmps27
    go_wp2
    go_ret2
    exact ⟨rfl, rfl⟩
  · have h2 : 4096 < x := by omega
    go_enter Try.func27, Try.ntmps27
    go_wp2
    go_ret2
    exact ⟨rfl, rfl⟩

/-- Both plates as they are made, one behind the other. -/
theorem duo_new {w w1 w2 : World} {g r m gr rs rn rw n : Nat} (hk : Pk w w1 (GRM g r m) g r m (newP n)) (h1 : w1.heap.size ≤ gr) (h2 : w1.heap.size ≤ rs) (h3 : w1.heap.size ≤ rn) (h4 : w1.heap.size ≤ rw)
    (hf : RefM w2 (fun i => GRM g r m i ∨ G4 gr rs rn rw i) gr rs rn rw (newR n)) (hb : Below w1.heap.size w1 w2) : Duos w (fun i => GRM g r m i ∨ G4 gr rs rn rw i) g r m gr rs rn rw w2 := by
  have hG : ∀ i, G4 gr rs rn rw i → w1.heap.size ≤ i := fun i hi => by rcases hi with rfl | rfl | rfl | rfl <;> assumption
  refine ⟨_, _, hk.grow hb (fun i e => .inl e) (fun i e => ?_), hf, same_new n, fun i e1 e2 => ?_⟩
  · rcases e with e | e
    · exact .inl e
    · exact .inr ⟨hG i e, hf.lt i (.inr e)⟩
  · have a1 := hk.1.lt i e1
    have a2 := hG i e2
    omega
end Go.Proofs.Ytmcbjcopipafdaa
