/-
  For all bytes: a batch that is read of them is written so, and has four wishes at most; where nothing is read the answer is none; WishUnbatched returns true; no condition.
-/
import Derived.Test.YtihmddpafbackaaZ09
import Derived.Test.YtihmddpafbackaaZ10
import Derived.Test.YtihmddpafbackaaZ11
import Derived.Deep.DeepCutAuto
namespace Go.Proofs.Ytihmddpafbackaa.wishUnbatched
open Go.ChangeShapes Go.WideShapes Go.ChangeAt Go.RowKit
set_option linter.unusedVariables false

set_option maxRecDepth 100000 in
set_option maxHeartbeats 6400000 in
theorem walk (Az : Option Addr) (nz cz : Nat) (z : List UInt8) (w : World) (hz : ArgB w Az nz cz z) :
    Calls Try.prog 10 #[.slice Az nz cz] w fun e w' => e = .returned (.bool true) ∧ Below w.heap.size w w' := by
  obtain ⟨hn, hnc, hcm, hB⟩ := hz
  have hmx : cz ≤ maxLen := by unfold maxLen; omega
  obtain ⟨l, e0, hp⟩ : ∃ a b, unb z = (a, b) := ⟨_, _, (Prod.eta (unb z)).symm⟩
  by_cases he : e0 = 0
  · subst he
    obtain ⟨h4, hm, hwb⟩ := unb_back hp
    have hby : batchW l = (z, 0) := by unfold batchW; rw [if_neg (by omega), if_pos hm, hwb]
    have HM := Lib.hid (And.intro hp (And.intro hby hn))
    have HB := Lib.hid hB
    clear hp hm hwb hby hn hB
    go_enter Try.func10, Try.ntmps10
    go_wp2_with fail
    refine (works11_any _).mono ?_
    rintro e w1 ⟨rfl, hb1⟩
    have H1 := Lib.hid (And.intro (HB.out.after hb1) hb1)
    clear hb1
    go_wp2_with fail
    have hc := unbatch_any Az nz cz z w1 H1.out.1 HM.out.2.2 hnc hmx (by omega)
    rw [HM.out.1] at hc
    refine hc.mono ?_
    clear hc
    rintro e w2 ⟨v, ys, rfl, hO, hys, hxn, hb2⟩
    obtain ⟨A2, c2, rfl⟩ := row_form hO.1
    obtain ⟨n2, hn2⟩ : ∃ n, ys.length = n := ⟨_, rfl⟩
    rw [hn2] at hO ⊢
    have hn4 : n2 ≤ 4 := by have := congrArg List.length hys; simp at this; omega
    have hal := hO.arg hn2 (fun y hy => (hO.2 y hy).arg (hxn y hy))
    rw [hys] at hal
    have H2 := Lib.hid (And.intro hal (And.intro (H1.out.1.after hb2) (H1.out.2.trans (hb2.mono H1.out.2.size))))
    clear hO hys hxn hb2 hal hn2
    go_wp2_with fail
    have hc := batch_any A2 n2 c2 l w2 H2.out.1
    rw [HM.out.2.1] at hc
    refine hc.mono ?_
    clear hc
    rintro e w3 ⟨v3, rfl, hN3⟩
    obtain ⟨A3, c3, rfl, hl3, hc3, hB3⟩ := hN3.form
    simp only at hl3 hB3 ⊢
    rw [HM.out.2.2] at hl3
    rw [HM.out.2.2]
    have H3 := Lib.hid (And.intro hB3 (And.intro (H2.out.2.1.after hN3.2) (H2.out.2.2.trans (hN3.2.mono H2.out.2.2.size))))
    clear hN3 hB3
    go_wp2_with fail
    refine (eqBytes A3 Az c3 cz nz nz z z w3 H3.out.1 H3.out.2.1 HM.out.2.2 HM.out.2.2 (by unfold maxLen; omega) (by unfold maxLen; omega)).mono ?_
    rintro e w4 ⟨rfl, hb4⟩
    have hself : (z == z) = true := by simp
    have Hb4 := Lib.hid hb4
    clear hb4
    go_wp2
    go_ret
    exact ⟨ret_bool (decide_eq_true (by omega)), H3.out.2.2.trans (Hb4.out.mono H3.out.2.2.size)⟩
  · have hl0 : l = [] := by have := unb_bad (b := z) (by rw [hp]; exact he); rw [hp] at this; exact this
    subst hl0
    have hee : ((e0 : Int) != 0) = true := by simp [he]
    have HM := Lib.hid (And.intro hp hn)
    have HB := Lib.hid hB
    clear hp hn hB he
    go_enter Try.func10, Try.ntmps10
    go_wp2_with fail
    refine (works11_any _).mono ?_
    rintro e w1 ⟨rfl, hb1⟩
    have H1 := Lib.hid (And.intro (HB.out.after hb1) hb1)
    clear hb1
    go_wp2_with fail
    have hc := unbatch_any Az nz cz z w1 H1.out.1 HM.out.2 hnc hmx (by omega)
    rw [HM.out.1] at hc
    refine hc.mono ?_
    clear hc
    rintro e w2 ⟨v, ys, rfl, hO, hys, hxn, hb2⟩
    have hy0 : ys = [] := by cases ys with
      | nil => rfl
      | cons y t => simp at hys
    subst hy0
    obtain ⟨A2, c2, rfl⟩ := row_form hO.1
    have Hb2 := Lib.hid (H1.out.2.trans (hb2.mono H1.out.2.size))
    clear hO hys hxn hb2
    simp only [List.length_nil]
    go_wp2
    go_ret
    exact ⟨rfl, Hb2.out⟩

end Go.Proofs.Ytihmddpafbackaa.wishUnbatched
