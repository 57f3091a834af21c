/-
  Hashes that are none: nil, or one that New did not make.
-/
import Derived.Test.YtdhpkaffijbedaaHex
namespace Go.Proofs.Ytdhpkaffijbedaa
open Go.RowKit
set_option linter.unusedVariables false

/-- A pointer to a hash that is none. -/
def NoHash (w : World) (v : Value) : Prop := v = .pointer none ∨ ∃ g, v = .pointer (some ⟨g, 0, none⟩) ∧ g < w.heap.size ∧ w.cell? ⟨g, 0, none⟩ = some (.bool false)

theorem none_yes (v : Value) (w : World) (h : NoHash w v) :
    Calls Try.prog 37 #[v] w fun e w' => e = .returned (.bool true) ∧ w' = w := by
  have hnot : ∀ (x : Bool) (w : World), (Op.unary .not (.bool x)).run Try.prog w = .ok (.bool (!x)) w := fun _ _ => rfl
  rcases h with rfl | ⟨g, rfl, _hlt, h⟩
  · go_enter Try.func37, Try.ntmps37
    go_wp2
    go_ret
    exact ⟨rfl, rfl⟩
  · go_enter Try.func37, Try.ntmps37
    go_wp2
    go_ret
    exact ⟨rfl, rfl⟩

theorem len_none (v : Value) (w : World) (h : NoHash w v) :
    Calls Try.prog 23 #[v] w fun e w' => e = .returned (.int .i64 0) ∧ w' = w := by
  have Hno := Lib.hid (none_yes v w h)
  clear h
  go_enter Try.func23, Try.ntmps23
  go_wp2_with (go_at_call 37; refine Hno.out.mono ?_; rintro e w' ⟨rfl, rfl⟩)
  go_ret
  exact ⟨rfl, rfl⟩

theorem write_none (v : Value) (A : Option Addr) (n c : Nat) (w : World) (h : NoHash w v) :
    Calls Try.prog 21 #[v, .slice A n c] w fun e w' => e = .returned (.int .i64 1) ∧ w' = w := by
  have Hno := Lib.hid (none_yes v w h)
  clear h
  go_enter Try.func21, Try.ntmps21
  go_wp2_with (go_at_call 37; refine Hno.out.mono ?_; rintro e w' ⟨rfl, rfl⟩)
  go_ret
  exact ⟨rfl, rfl⟩

theorem NoHash.below {w w' : World} {v : Value} (h : NoHash w v) (hb : Below w.heap.size w w') : NoHash w' v := by
  rcases h with rfl | ⟨g, rfl, hlt, h⟩
  · exact .inl rfl
  · exact .inr ⟨g, rfl, Nat.lt_of_lt_of_le hlt hb.size, (hb.cell hlt).trans h⟩

set_option maxRecDepth 100000 in
set_option maxHeartbeats 800000 in
theorem sum_none (v : Value) (w : World) (h : NoHash w v) :
    Calls Try.prog 22 #[v] w fun e w' => e = .returned (.tuple #[.agg (cbs (List.replicate 32 0)).toArray, .int .i64 1]) ∧ Below w.heap.size w w' := by
  obtain ⟨D, hD32, hDv, hD1⟩ : ∃ D : List Value, D.length = 32 ∧ cbs (List.replicate 32 0) = D ∧ D.toArray.all (·.oneCell') = true := ⟨cbs (List.replicate 32 0), rfl, rfl, cbs_one' _⟩
  rw [hDv]
  have hb0 : Below w.heap.size w (w.alloc (.cells (cbs (List.replicate 32 0)).toArray 25)) := (Below.refl _ _).alloc (Nat.le_refl _) _
  have Hno := Lib.hid (none_yes v (w.alloc (.cells (cbs (List.replicate 32 0)).toArray 25)) (h.below hb0))
  have hZ : Blk (w.alloc (.cells (cbs (List.replicate 32 0)).toArray 25)) w.heap.size 25 (cbs (List.replicate 32 0)) := Blk.new rfl rfl
  have hsz : D.toArray.size = 32 := by rw [List.size_toArray]; exact hD32
  have hth : (w.alloc (.cells (cbs (List.replicate 32 0)).toArray 25)).there w.heap.size 0 D.toArray.size := by
    have e := hZ.there
    rw [cbs_length, List.length_replicate] at e
    rw [hsz]; exact e
  have hi : (Try.prog.info? 25).map (·.size) = some D.toArray.size := by rw [hsz]; exact info32b
  have hR := hZ.setAll (vs := D) (by rw [hD32, cbs_length, List.length_replicate])
  have hbw : Below w.heap.size w ((w.alloc (.cells (cbs (List.replicate 32 0)).toArray 25)).setCells w.heap.size 0 D) := Below.setCells (Nat.le_refl _) _ hb0
  have Hth := Lib.hid hth
  have Hi := Lib.hid hi
  have Hq := Lib.hid (And.intro hR hbw)
  have Ho := Lib.hid (And.intro hDv hD1)
  clear hb0 hZ hth hi hR hbw h hsz hD32 hDv hD1
  go_enter Try.func22, Try.ntmps22
  go_wp2_with (first
    | (go_at_call 37; refine Hno.out.mono ?_; rintro e w' ⟨rfl, rfl⟩)
    | refine wpList_store_mid rfl 25 _ _ rfl w.heap.size 0 D.toArray rfl (by rw [← Ho.out.1]; rfl) Hth.out Hi.out Ho.out.2 ?_)
  refine bodyPost_ret (results_row_tmp rfl _ _ w.heap.size 25 D.toArray (0, 0) _ rfl Hq.out.1 Try.underlying25 rfl Hi.out) rfl ?_
  exact ⟨rfl, Hq.out.2⟩

theorem NoHash.made {w : World} {g : Nat} {vs : Array Value} {t : TypeId} {fr : Nat × Nat} (hg : g = w.heap.size) (h : vs[0]? = some (.bool false)) : NoHash (w.alloc (.cells vs t fr)) (.pointer (some ⟨g, 0, none⟩)) := by
  subst hg
  exact .inr ⟨_, rfl, by simp, by rw [cell_of_row _ _ 0 vs t fr (heap_alloc_new w _)]; exact h⟩
end Go.Proofs.Ytdhpkaffijbedaa
