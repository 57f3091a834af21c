/-
  For all arrays of numbers l, most of the crew that they make are without any f of them still some; CrewEnough returns true; no condition.
-/
import Derived.Test.YtjibbbfpbflgmaaEn8
namespace Go.Proofs.Ytjibbbfpbflgmaa.crewEnough
open Go.ChangeShapes Go.WideShapes Go.ChangeAt Go.RowKit Go.Shelf CrewP
set_option linter.unusedVariables false

set_option maxRecDepth 100000 in
set_option maxHeartbeats 3200000 in
theorem walk (l : List Int) (w : World) (hl : l.length = 8 ∧ ∀ y ∈ l, Wf y) :
    Calls Try.prog 8 #[.agg (cis l).toArray] w fun e w' => e = .returned (.bool true) ∧ Below w.heap.size w w' := by
  obtain ⟨hl8, hlw⟩ := hl
  have hS := fun W => some_of l hl8 hlw W
  obtain ⟨a0, a1, a2, a3, a4, a5, a6, a7, rfl⟩ := eight hl8
  change Calls _ _ #[.agg #[.int .i64 a0, .int .i64 a1, .int .i64 a2, .int .i64 a3, .int .i64 a4, .int .i64 a5, .int .i64 a6, .int .i64 a7]] _ _
  have hBx : Blk (w.alloc (.cells #[.int .i64 a0, .int .i64 a1, .int .i64 a2, .int .i64 a3, .int .i64 a4, .int .i64 a5, .int .i64 a6, .int .i64 a7] 45)) w.heap.size 45 (cis [a0, a1, a2, a3, a4, a5, a6, a7]) := Blk.new rfl rfl
  have hbx : Below w.heap.size w (w.alloc (.cells #[.int .i64 a0, .int .i64 a1, .int .i64 a2, .int .i64 a3, .int .i64 a4, .int .i64 a5, .int .i64 a6, .int .i64 a7] 45)) := (Below.refl _ _).alloc (Nat.le_refl _) _
  have H := Lib.hid (And.intro hBx (And.intro hbx hS))
  clear hS hBx hbx hl8 hlw
  go_enter Try.func8, Try.ntmps8
  go_wp2_with fail
  refine (works_any _).mono ?_
  rintro e w1 ⟨rfl, hb1⟩
  have hB1 := H.out.1.below hb1 H.out.1.lt
  have hbw1 := H.out.2.1.trans (hb1.mono H.out.2.1.size)
  have k0 : w1.cell? ⟨w.heap.size, 0, none⟩ = some (.int .i64 a0) := hB1.cell rfl
  have k1 : w1.cell? ⟨w.heap.size, 1, none⟩ = some (.int .i64 a1) := hB1.cell rfl
  have k2 : w1.cell? ⟨w.heap.size, 2, none⟩ = some (.int .i64 a2) := hB1.cell rfl
  have k3 : w1.cell? ⟨w.heap.size, 3, none⟩ = some (.int .i64 a3) := hB1.cell rfl
  have k4 : w1.cell? ⟨w.heap.size, 4, none⟩ = some (.int .i64 a4) := hB1.cell rfl
  have k5 : w1.cell? ⟨w.heap.size, 5, none⟩ = some (.int .i64 a5) := hB1.cell rfl
  have k6 : w1.cell? ⟨w.heap.size, 6, none⟩ = some (.int .i64 a6) := hB1.cell rfl
  have k7 : w1.cell? ⟨w.heap.size, 7, none⟩ = some (.int .i64 a7) := hB1.cell rfl
  have HB1 := Lib.hid (And.intro hb1 (And.intro hB1 hbw1))
  clear hb1 hB1 hbw1
  go_wp2_with fail
  refine (H.out.2.2 w1).mono ?_
  rintro e w2 ⟨f, ns, v, hok, rfl, hO, hb2⟩
  clear k0 k1 k2 k3 k4 k5 k6 k7
  obtain ⟨A, c, rfl, hA⟩ := hO.arg (ok_wf hok)
  obtain ⟨n, hn⟩ : ∃ n, ns.length = n := ⟨_, rfl⟩
  rw [hn] at hA
  rw [hn]
  have hbw2 := HB1.out.2.2.trans (hb2.mono HB1.out.2.2.size)
  have hBc : Blk (w2.alloc (.cells #[.int .i64 f, .slice A n c] 24)) w2.heap.size 24 [.int .i64 f, .slice A n c] := Blk.new rfl rfl
  have hbn : Below w2.heap.size w2 (w2.alloc (.cells #[.int .i64 f, .slice A n c] 24)) := (Below.refl _ _).alloc (Nat.le_refl _) _
  obtain ⟨⟨hf0, hf1⟩, hl3, hasc⟩ := ok_len hok
  rw [hn] at hl3
  have hs1 : IntKind.i64.wrap (2 * f + 1 - f) = f + 1 := by rw [IntWalk.i64_in _ (by omega)]; omega
  have hs2 : IntKind.i64.wrap ((n : Int) - f) = 2 * f + 1 := by rw [IntWalk.i64_in _ (by omega)]; omega
  have H2 := Lib.hid (And.intro hBc (And.intro (hA.after hbn) (And.intro (hbw2.trans (hbn.mono hbw2.size)) (And.intro hok (And.intro hs1 (And.intro hs2 (show f < f + 1 by omega)))))))
  clear hO hA hbw2 hBc hbn hl3 hasc hs1 hs2 hok hn hb2
  go_wp2_with fail
  refine region_rule4 (P := Try.prog) 29 39 enD enG enS (enR w2.heap.size f A n c) _ _ (by kernel_rfl) rfl rfl (by kernel_rfl) (by decide +kernel) (en_gb w2.heap.size f A n c) (en_sk w2.heap.size f A n c) (en_on w2.heap.size f A n c) (en_step w2.heap.size f A n c (by rfl) (by kernel_rfl) ns rfl rfl H2.out.1 H2.out.2.1 H2.out.2.2.2.1 H2.out.2.2.2.2.1 H2.out.2.2.2.2.2.1 H2.out.2.2.2.2.2.2) ?fin
  case fin =>
    intro a w6 hbase hbl hall
    obtain ⟨v0, hv0, hR0⟩ := hall 28 (by decide)
    have hR0' : v0 = .bool true := hR0
    subst hR0'
    have hres : a.tmps[2]? = some (.bool true) := hv0
    have hdf : a.defers = [] := hbase.2.1
    have hB := H2.out.2.2.1.trans (hbl.mono H2.out.2.2.1.size)
    go_wp2
    refine bodyPost_ret (results_tmp rfl _ _ _) hdf ?_
    refine ⟨?_, hB⟩
    have e0 : a.tmps.getD 2 undef = .bool true := by rw [Array.getD_eq_getD_getElem?, hres]; rfl
    rw [e0]

end Go.Proofs.Ytjibbbfpbflgmaa.crewEnough
