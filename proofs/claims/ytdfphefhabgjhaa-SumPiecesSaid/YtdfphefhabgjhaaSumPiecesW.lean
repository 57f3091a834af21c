/-
  For all bytes p and q (4000 at most of each are looked at): in whichever two pieces bytes come, their sum is the same; SumPieces returns true; no condition.
-/
import Derived.Test.YtdfphefhabgjhaaTwo6
import Derived.Deep.RegionHeld3
import Derived.Deep.RegionWith
import Derived.Deep.DeepCutAuto
import Derived.BigQuiet
namespace Go.Proofs.Ytdfphefhabgjhaa.sumPieces
open Go.ChangeShapes Go.WideShapes Go.ChangeAt Go.RowKit
set_option linter.unusedVariables false

set_option maxRecDepth 100000 in
set_option maxHeartbeats 3200000 in
theorem walk (Ap : Option Addr) (np cp : Nat) (p : List UInt8) (Aq : Option Addr) (nq cq : Nat) (q : List UInt8) (w : World) (hp : ArgB w Ap np cp p) (hq : ArgB w Aq nq cq q) :
    Calls Try.prog 6 #[.slice Ap np cp, .slice Aq nq cq] w fun e w' => e = .returned (.bool true) ∧ Below w.heap.size w w' := by
  obtain ⟨mp, xp, hxp, hmp, hmcp, hcmp, hBp, hminp, hcutp⟩ := cutUp 4000 4000 rfl hp
  obtain ⟨mq, xq, hxq, hmq, hmcq, hcmq, hBq, hminq, hcutq⟩ := cutUp 4000 4000 rfl hq
  clear hp hq
  have hof := fun w' (h : Bs w' Ap xp) => of_any Ap cp mp xp w' h hxp (by unfold maxLen; omega)
  have had := fun w' (h : Bs w' Aq xq) => add_any (ofC xp) Aq cq mq xq w' h hxq (by unfold maxLen; omega)
  rw [ofC_app] at had
  have hof2 := fun A c n w' (h : Bs w' A (xp ++ xq)) (hn : (xp ++ xq).length = n) => of_any A c n (xp ++ xq) w' h hn (by rw [← hn]; rw [List.length_append]; unfold maxLen; omega)
  generalize ofC (xp ++ xq) = r2 at *
  generalize ofC xp = r at *
  have Hof := Lib.hid hof
  have Had := Lib.hid had
  have Hof2 := Lib.hid hof2
  have HB := Lib.hid (And.intro hBp (And.intro hBq (And.intro hxp (And.intro hxq (And.intro hmcp (And.intro hmcq (And.intro hmp hmq)))))))
  clear hof had hof2 hxp hxq hmcp hmcq hmp hmq hBp hBq
  go_enter Try.func6, Try.ntmps6
  go_wp2_with (go_at_call 16; refine (works6_any _).mono ?_; rintro e w0 ⟨rfl, b0⟩)
  have T0 := Lib.hid b0
  clear b0
  go_quiet (fail)
  obtain ⟨wd, hwd⟩ : ∃ wd : World, w0.drewN nq = wd := ⟨_, rfl⟩
  have T1 : Hid (Below w.heap.size w wd) := by show Below _ _ _; rw [← hwd]; exact below_drewN T0.out _
  rw [hwd]
  clear hwd T0
  go_wp2_with fail
  refine (Hof.out _ (HB.out.1.on T1.out)).mono ?_
  rintro e w1 ⟨rfl, b1⟩
  have T2 := Lib.hid (T1.out.trans (b1.mono T1.out.size))
  clear b1 T1
  go_wp2_with fail
  refine (Had.out _ (HB.out.2.1.on T2.out)).mono ?_
  rintro e w2 ⟨rfl, b2⟩
  have T3 := Lib.hid (T2.out.trans (b2.mono T2.out.size))
  clear b2 T2
  go_wp2_with fail
  refine (copyBytes Ap cp mp xp _ (HB.out.1.on T3.out) HB.out.2.2.1 (by have := HB.out.2.2.2.2.2.2.1; omega)).mono ?_
  rintro e w3 ⟨v3, rfl, hN⟩
  have T4 := Lib.hid (T3.out.trans (hN.2.mono T3.out.size))
  have HN := Lib.hid (And.intro hN.1 T3.out.size)
  have HN2 := Lib.hid (And.intro hN.1 (And.intro T3.out.size hN.2.size))
  clear hN T3 HN
  go_wp2_with (at_builtin; refine wp_appendB rfl _ _ rfl w2.heap.size v3 xp rfl HN2.out.1 Aq cq mq xq rfl (HB.out.2.1.on T4.out) HB.out.2.2.2.1 (by have := HB.out; rw [this.2.2.1]; omega) HN2.out.2.2 ?_; intro v4 w4 hm4 hg4 ho4)
  obtain ⟨A4, c4, rfl, hc4, hcm4, hB4⟩ := hm4.form
  have T5 := Lib.hid (T4.out.grown hg4 (T4.out.size) (by
    intro g hg
    have := (HN2.out.1.lt g hg).1
    have := HN2.out.2.1
    omega))
  have Hl : Hid ((xp ++ xq).length = (xp ++ xq).length) := rfl
  have HB4 := Lib.hid hB4
  generalize hL : (xp ++ xq).length = L at *
  clear hm4 hg4 ho4 hB4 hc4 hcm4 HN2
  have HL := Lib.hid hL
  clear hL
  go_wp2_with fail
  refine (Hof2.out _ _ _ _ HB4.out rfl).mono ?_
  rintro e w5 ⟨rfl, b5⟩
  have T6 := Lib.hid (T5.out.trans (b5.mono T5.out.size))
  clear b5
  go_wp2_with fail
  go_ret
  exact ⟨rfl, T6.out⟩

end Go.Proofs.Ytdfphefhabgjhaa.sumPieces
