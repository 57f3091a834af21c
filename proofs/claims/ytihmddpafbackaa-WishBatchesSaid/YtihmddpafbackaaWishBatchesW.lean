/-
  For every list of wishes: a batch that is written is read as it was; where none is written the error is ErrLimit just if there are more than four, and there are no bytes; WishBatches returns true; no condition.
-/
import Derived.Test.YtihmddpafbackaaZ09
import Derived.Test.YtihmddpafbackaaZ10
import Derived.Test.YtihmddpafbackaaZ11
import Derived.Deep.DeepCutAuto
namespace Go.Proofs.Ytihmddpafbackaa.wishBatches
open Go.ChangeShapes Go.WideShapes Go.ChangeAt Go.RowKit
set_option linter.unusedVariables false

set_option maxRecDepth 100000 in
set_option maxHeartbeats 6400000 in
theorem walk (Al : Option Addr) (nl cl : Nat) (l : List Wl) (w : World) (hl : ArgL w Al nl cl l ∧ l.length < 1256584717458) :
    Calls Try.prog 9 #[.slice Al nl cl] w fun e w' => e = .returned (.bool true) ∧ Below w.heap.size w w' := by
  obtain ⟨hL, hl40⟩ := hl
  have hn := hL.1
  obtain ⟨b, e0, hp⟩ : ∃ x y, batchW l = (x, y) := ⟨_, _, (Prod.eta (batchW l)).symm⟩
  by_cases he : e0 = 0
  · subst he
    obtain ⟨h4, hm, hb⟩ := batch_ok (l := l) (by rw [hp])
    rw [hp] at hb
    simp only at hb
    have hun : unb b = (l, 0) := by rw [hb]; exact unb_btB h4 hm
    have hlen : b.length ≤ 552 := by rw [hb]; exact (btB_len h4 hm).2
    obtain ⟨nb, hnb⟩ : ∃ n, b.length = n := ⟨_, rfl⟩
    rw [hnb] at hlen
    have HM := Lib.hid (And.intro hp (And.intro hun (And.intro hnb (alikeB_self l))))
    have HL := Lib.hid hL
    clear hp hm hb hun hnb hL hn h4 hl40
    go_enter Try.func9, Try.ntmps9
    go_wp2_with fail
    refine (works11_any _).mono ?_
    rintro e w1 ⟨rfl, hb1⟩
    have H1 := Lib.hid (And.intro (HL.out.after hb1) hb1)
    clear hb1
    go_wp2_with fail
    have hc := batch_any Al nl cl l w1 H1.out.1
    rw [HM.out.1] at hc
    refine hc.mono ?_
    clear hc
    rintro e w2 ⟨v, rfl, hN2⟩
    obtain ⟨A2, c2, rfl, hl2, hc2, hB2⟩ := hN2.form
    simp only at hl2 hB2 ⊢
    rw [HM.out.2.2.1] at hl2
    rw [HM.out.2.2.1]
    have H2 := Lib.hid (And.intro hB2 (And.intro (H1.out.1.after hN2.2) (H1.out.2.trans (hN2.2.mono H1.out.2.size))))
    clear hN2 hB2
    go_wp2_with fail
    have hc := unbatch_any A2 nb c2 b w2 H2.out.1 HM.out.2.2.1 hl2 hc2 (by omega)
    rw [HM.out.2.1] at hc
    refine hc.mono ?_
    clear hc
    rintro e w3 ⟨v, ys, rfl, hO, hys, hxn, hb3⟩
    obtain ⟨A3, c3, rfl⟩ := row_form hO.1
    obtain ⟨n3, hn3⟩ : ∃ n, ys.length = n := ⟨_, rfl⟩
    rw [hn3] at hO ⊢
    have hal := hO.arg hn3 (fun y hy => (hO.2 y hy).arg (hxn y hy))
    rw [hys] at hal
    have H3 := Lib.hid (And.intro hal (And.intro (H2.out.2.1.after hb3) (H2.out.2.2.trans (hb3.mono H2.out.2.2.size))))
    clear hO hys hxn hb3 hal hn3
    go_wp2_with fail
    have hc := alike_any Al A3 nl n3 cl c3 l l w3 H3.out.2.1 H3.out.1
    rw [HM.out.2.2.2] at hc
    refine hc.mono ?_
    clear hc
    rintro e w4 ⟨rfl, hb4⟩
    have Hb4 := Lib.hid hb4
    clear hb4
    go_wp2
    go_ret
    exact ⟨rfl, H3.out.2.2.trans (Hb4.out.mono H3.out.2.2.size)⟩
  · have hbad := batch_bad (l := l) (by rw [hp]; exact he)
    rw [hp] at hbad
    simp only at hbad
    obtain ⟨hb0, h5⟩ := hbad
    subst hb0
    have hee : ((e0 : Int) != 0) = true := by simp [he]
    have HM := Lib.hid (And.intro hp (And.intro h5 hn))
    have HL := Lib.hid hL
    clear hp hL he
    by_cases h4 : 4 < nl
    · have h55 : e0 = 5 := h5.2 (by omega)
      subst h55
      have h4' : (4 : Int) < nl := by omega
      clear h5 hn hl40
      go_enter Try.func9, Try.ntmps9
      go_wp2_with fail
      refine (works11_any _).mono ?_
      rintro e w1 ⟨rfl, hb1⟩
      have H1 := Lib.hid (And.intro (HL.out.after hb1) hb1)
      clear hb1
      go_wp2_with fail
      have hc := batch_any Al nl cl l w1 H1.out.1
      rw [HM.out.1] at hc
      refine hc.mono ?_
      clear hc
      rintro e w2 ⟨v, rfl, hN2⟩
      obtain ⟨A2, c2, rfl, hl2, hc2, hB2⟩ := hN2.form
      simp only [List.length_nil]
      have Hb2 := Lib.hid (H1.out.2.trans (hN2.2.mono H1.out.2.size))
      clear hN2 hB2 hl2 hc2
      go_wp2
      go_ret
      exact ⟨rfl, Hb2.out⟩
    · have h55 : ((e0 : Int) == 5) = false := by simp only [beq_eq_false_iff_ne]; intro h; have := h5.1 (by omega); omega
      have h4' : ¬ (4 : Int) < nl := by omega
      clear h5 hn hl40
      go_enter Try.func9, Try.ntmps9
      go_wp2_with fail
      refine (works11_any _).mono ?_
      rintro e w1 ⟨rfl, hb1⟩
      have H1 := Lib.hid (And.intro (HL.out.after hb1) hb1)
      clear hb1
      go_wp2_with fail
      have hc := batch_any Al nl cl l w1 H1.out.1
      rw [HM.out.1] at hc
      refine hc.mono ?_
      clear hc
      rintro e w2 ⟨v, rfl, hN2⟩
      obtain ⟨A2, c2, rfl, hl2, hc2, hB2⟩ := hN2.form
      simp only [List.length_nil]
      have Hb2 := Lib.hid (H1.out.2.trans (hN2.2.mono H1.out.2.size))
      clear hN2 hB2 hl2 hc2
      go_wp2
      go_ret
      exact ⟨ret_bool (by simp only [Bool.not_eq_true', decide_eq_false_iff_not]; omega), Hb2.out⟩

end Go.Proofs.Ytihmddpafbackaa.wishBatches
