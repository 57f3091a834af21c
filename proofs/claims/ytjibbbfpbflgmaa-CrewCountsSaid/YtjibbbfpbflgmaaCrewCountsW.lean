/-
  For all crews, lists and numbers: Votes and Rank answer as the chapter says, what is handed in stays; CrewCounts returns true; no condition.
-/
import Derived.Test.YtjibbbfpbflgmaaYc8
namespace Go.Proofs.Ytjibbbfpbflgmaa.crewCounts
open Go.ChangeShapes Go.WideShapes Go.ChangeAt Go.RowKit Go.Shelf CrewP
set_option linter.unusedVariables false


set_option maxRecDepth 100000 in
set_option maxHeartbeats 6400000 in
theorem walk (fu : Int) (Au : Option Addr) (nu cu : Nat) (u : List Int) (Al : Option Addr) (nl cl : Nat) (l : List Int) (many : Int) (w : World) (hu : ArgC w fu Au nu cu u) (hl : ArgI w Al nl cl l ∧ l.length ≤ 17592186043904) (hmany : (Lit.int .i64 many).wf = true) :
    Calls Try.prog 6 #[.agg #[.int .i64 fu, .slice Au nu cu], .slice Al nl cl, .int .i64 many] w fun e w' => e = .returned (.bool true) ∧ Below w.heap.size w w' := by
  obtain ⟨hfu, hAu, hlu⟩ := hu
  obtain ⟨hAl, hll⟩ := hl
  have hnu := hAu.1
  have hnl := hAl.1
  have hcm := hAu.2.2.1
  unfold maxLen at hcm
  have hnc := hAu.2.1
  have hcm2 := hAl.2.2.1
  unfold maxLen at hcm2
  have hnc2 := hAl.2.1
  have hwu := hAu.2.2.2.2
  have hwl := hAl.2.2.2.2
  have hBc : Blk (w.alloc (.cells #[.int .i64 fu, .slice Au nu cu] 24)) w.heap.size 24 [.int .i64 fu, .slice Au nu cu] := Blk.new rfl rfl
  have hb0 : Below w.heap.size w (w.alloc (.cells #[.int .i64 fu, .slice Au nu cu] 24)) := (Below.refl _ _).alloc (Nat.le_refl _) _
  have hA0 := hAu.after hb0
  have hcp := copy_any fu Au nu cu u _ hA0 (by omega)
  have H := Lib.hid (And.intro hBc (And.intro hb0 (And.intro hA0 (And.intro hcp (And.intro hwu (And.intro hwl (hAl.after hb0)))))))
  clear hBc hb0 hA0 hcp hAu hwu hAl hwl
  go_enter Try.func6, Try.ntmps6
  go_wp2_with fail
  refine H.out.2.2.2.1.mono ?_
  rintro e w1 ⟨v, rfl, hN⟩
  obtain ⟨A2, c2, rfl, hA2⟩ := hN.own.arg H.out.2.2.2.2.1
  rw [hnu] at hA2
  rw [hnu]
  have hci := copyInts_any Al nl cl l w1 (H.out.2.2.2.2.2.2.after hN.2) (by omega)
  have H1 := Lib.hid (And.intro hA2 (And.intro hN.2 hci))
  clear hA2 hN hci
  go_wp2_with fail
  refine H1.out.2.2.mono ?_
  rintro e w2 ⟨v, rfl, hN⟩
  obtain ⟨A3, c3, rfl, hA3⟩ := hN.own.arg H.out.2.2.2.2.2.1
  rw [hnl] at hA3
  rw [hnl]
  have hbn : Below w2.heap.size w2 (w2.alloc (.cells #[.int .i64 fu, .slice A2 nu c2] 24)) := (Below.refl _ _).alloc (Nat.le_refl _) _
  have hBi : Blk (w2.alloc (.cells #[.int .i64 fu, .slice A2 nu c2] 24)) w2.heap.size 24 [.int .i64 fu, .slice A2 nu c2] := Blk.new rfl rfl
  obtain ⟨W2, hW2⟩ : ∃ W, w2.alloc (.cells #[.int .i64 fu, .slice A2 nu c2] 24) = W := ⟨_, rfl⟩
  rw [hW2] at hbn hBi
  have hbs := hN.2.trans (hbn.mono hN.2.size)
  have hb1 := H1.out.2.1.trans (hbs.mono H1.out.2.1.size)
  have hbw := H.out.2.1.trans (hb1.mono H.out.2.1.size)
  obtain ⟨r1, r2, hM⟩ : ∃ r1 r2, rankR fu u l many = (r1, r2) := ⟨_, _, rfl⟩
  have hrk := rank_any fu A2 nu c2 u W2 (H1.out.1.after hbs) A3 nl c3 l (hA3.after hbn) many hmany
  rw [hM] at hrk
  have H2 := Lib.hid (And.intro (H.out.1.below hb1 H.out.1.lt) (And.intro hBi (And.intro (H.out.2.2.1.after hb1) (And.intro (H1.out.1.after hbs) (And.intro (hA3.after hbn) (And.intro (H.out.2.2.2.2.2.2.after hb1) (And.intro hbw (And.intro hrk hM))))))))
  have HW := Lib.hid hW2
  clear hbn hBi hW2 hbs hb1 hbw hrk hM hN hA3
  go_wp2_with fail
  rw [HW.out]
  refine H2.out.2.2.2.2.2.2.2.1.mono ?_
  rintro e w3 ⟨rfl, hb3⟩
  have hrk := rrank_any fu Au nu cu u w3 (H2.out.2.2.1.after hb3) Al nl cl l (H2.out.2.2.2.2.2.1.after hb3) many hmany
  rw [H2.out.2.2.2.2.2.2.2.2] at hrk
  have hBc3 := H2.out.1.below hb3 H2.out.1.lt
  have k0 : w3.cell? ⟨w.heap.size, 0, none⟩ = some (.int .i64 fu) := hBc3.cell rfl
  have k1 : w3.cell? ⟨w.heap.size, 1, none⟩ = some (.slice Au nu cu) := hBc3.cell rfl
  have H3 := Lib.hid (And.intro hb3 hrk)
  clear hb3 hrk hBc3
  go_wp2_with fail
  refine H3.out.2.mono ?_
  rintro e w4 ⟨rfl, hb4⟩
  have H4 := Lib.hid (H3.out.1.trans (hb4.mono H3.out.1.size))
  clear hb4 k0 k1
  go_wp2_with fail
  refine region_rule4 (P := Try.prog) 31 61 yaD yaG yaS (yaR w2.heap.size w.heap.size fu A2 Au nu c2 cu u A3 Al nl c3 cl l (votesR fu u l) r1 r2) _ _ (by kernel_rfl) rfl rfl (by kernel_rfl) (by decide +kernel) (ya_gb w2.heap.size w.heap.size fu A2 Au nu c2 cu u A3 Al nl c3 cl l (votesR fu u l) r1 r2) (ya_sk w2.heap.size w.heap.size fu A2 Au nu c2 cu u A3 Al nl c3 cl l (votesR fu u l) r1 r2) (ya_on w2.heap.size w.heap.size fu A2 Au nu c2 cu u A3 Al nl c3 cl l (votesR fu u l) r1 r2) (ya_step w2.heap.size w.heap.size fu A2 Au nu c2 cu u A3 Al nl c3 cl l (votesR fu u l) r1 r2 (by rfl) (by kernel_rfl) rfl rfl rfl rfl rfl rfl rfl rfl (H2.out.2.1.below H4.out H2.out.2.1.lt) (H2.out.1.below H4.out H2.out.1.lt) (H2.out.2.2.2.1.after H4.out) (H2.out.2.2.1.after H4.out) (H2.out.2.2.2.2.1.after H4.out) (H2.out.2.2.2.2.2.1.after H4.out) rfl) ?fin
  case fin =>
    intro a9 w10 hbase hbl hall
    obtain ⟨v0, hv0, hR0⟩ := hall 30 (by decide)
    have hR0' : v0 = .bool true := hR0
    subst hR0'
    have hres : a9.tmps[6]? = some (.bool true) := hv0
    have hdf : a9.defers = [] := hbase.2.1
    have hb24 := H4.out.trans (hbl.mono H4.out.size)
    have hB := H2.out.2.2.2.2.2.2.1.trans (hb24.mono H2.out.2.2.2.2.2.2.1.size)
    go_wp2
    refine bodyPost_ret (results_tmp rfl _ _ _) hdf ?_
    refine ⟨?_, hB⟩
    have e0 : a9.tmps.getD 6 undef = .bool true := by rw [Array.getD_eq_getD_getElem?, hres]; rfl
    rw [e0]

end Go.Proofs.Ytjibbbfpbflgmaa.crewCounts
