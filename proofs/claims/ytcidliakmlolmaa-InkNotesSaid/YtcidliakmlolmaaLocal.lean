/-
  A digest laid into a variable of a statement's own.
-/
import Derived.Test.YtcidliakmlolmaaWorks3
import Derived.Test.YtcidliakmlolmaaAnyOrderH
namespace Go.Proofs.Ytcidliakmlolmaa
open Go.RowKit Go.Maps
set_option linter.unusedVariables false

theorem size_cells (vs : List Value) : ∀ (w : World) (b o : Nat), (w.setCells b o vs).heap.size = w.heap.size := by
  induction vs with
  | nil => intro w b o; rfl
  | cons v vs ih => intro w b o; rw [World.setCells, ih]; simp [World.setCell]

theorem dig_local (w1 : World) (D : List Value) (hD : D.length = 32) : ∃ wS, (w1.alloc (.cells (cbs (List.replicate 32 0)).toArray 28)).setCells w1.heap.size 0 D = wS ∧
    ((w1.alloc (.cells (cbs (List.replicate 32 0)).toArray 28)).there w1.heap.size 0 D.toArray.size ∧ (Try.prog.info? 28).map (·.size) = some D.toArray.size) ∧
    Blk wS w1.heap.size 28 D ∧ Below w1.heap.size w1 wS ∧ wS.heap.size = w1.heap.size + 1 := by
  have hsD : D.toArray.size = 32 := by rw [List.size_toArray]; exact hD
  have hdB : Blk (w1.alloc (.cells (cbs (List.replicate 32 0)).toArray 28)) w1.heap.size 28 (cbs (List.replicate 32 0)) := Blk.new rfl rfl
  refine ⟨_, rfl, ⟨?_, ?_⟩, ?_, ?_, ?_⟩
  · have e := hdB.there
    rw [cbs_length, List.length_replicate] at e
    rw [hsD]; exact e
  · rw [hsD]; exact info32b
  · exact hdB.setAll (vs := D) (by rw [hD, cbs_length, List.length_replicate])
  · exact Below.setCells (by omega) _ ((Below.refl _ _).alloc (Nat.le_refl _) _)
  · rw [size_cells, World.size_alloc]

theorem dig_cells (x : List UInt8) : ∃ D : List Value, D.length = 32 ∧ cbs (ofD x) = D ∧ D.toArray.all (·.oneCell') = true :=
  ⟨cbs (ofD x), by rw [cbs_length]; unfold ofD; split; exact dlen x; rfl, rfl, cbs_one' _⟩

section
variable {P : Program} {ops : Array Oper} {Q : Exit → Act → World → Prop} {md : Region.Mode} {S : World → Prop}
theorem wpAnyH_take' {i d : Nat} {oi : Oper} {v : Value} {fuel : Nat} {listed : Array Bool} {a : Act} {w : World} (hi : ops[i]? = some oi) (hd : oi.dst = some d)
    (hs : Region.noSelect ops = true) (hf : Region.free md ops listed i = true) (hr : (Region.ready md ops listed).contains i = true)
    (hQ : ∀ c a w, Q (.panic c) (a.put oi.dst v) w → Q (.panic c) a w) (hy : YieldsIf P ops S oi v a) (hS : S w)
    (h : wpAnyH P md ops Q S fuel (listed.setIfInBounds i true) { a with tmps := a.tmps.setIfInBounds d v } w) : wpAnyH P md ops Q S (fuel + 1) listed a w :=
  wpAnyH_take hi hs hf hr hQ hy hS (by unfold Act.put; rw [hd]; exact h)
end

theorem one_noted (x : List UInt8) (h : x.length ≤ 65536) : ofL [] false 0 x = ([x], digest x == List.replicate 32 0, 1) := by
  unfold ofL noteL grp
  rw [if_pos h, if_neg (by simp)]
  simp
end Go.Proofs.Ytcidliakmlolmaa
