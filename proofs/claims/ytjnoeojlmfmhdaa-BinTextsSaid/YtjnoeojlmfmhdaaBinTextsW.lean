/-
  For all bytes s, all bytes that stand behind (1000 at most are looked at) and every number most, what Str writes is taken off as it was, and BinTexts returns true; no condition.
-/
import Derived.Test.YtjnoeojlmfmhdaaOpen
import Derived.Test.YtjnoeojlmfmhdaaWorks2
import Derived.Test.YtjnoeojlmfmhdaaPlain2
namespace Go.Proofs.Ytjnoeojlmfmhdaa.binTexts
open Go.ChangeShapes Go.WideShapes Go.ChangeAt Go.RowKit
set_option linter.unusedVariables false

set_option maxHeartbeats 1600000 in
theorem walk (As : Option Addr) (ns cs : Nat) (s : List UInt8) (Ab : Option Addr) (nb cb : Nat) (b : List UInt8) (most : Int) (w : World) (hs : ArgB w As ns cs s) (hb : ArgB w Ab nb cb b) (hmost : (Lit.int .i64 most).wf = true) :
    Calls Try.prog 9 #[.slice As ns cs, .slice Ab nb cb, .int .i64 most] w fun e w' => e = .returned (.bool true) ∧ Below w.heap.size w w' := by
  obtain ⟨mb, z, hz, hb1, hb2, hb3, hB, hminb, hcutb⟩ := cut1000 hb
  clear hb
  have Hz := Lib.hid hz
  clear hz
  obtain ⟨hls, hcs, hms, hS⟩ := hs
  have Hs := Lib.hid hls
  have hmx : cs ≤ maxLen := by unfold maxLen; omega
  have h1 : ∀ A c w, Bs w A s → Calls Try.prog 25 #[.slice A ns c] w (RetBE w (st s)) := fun A c w hA => str_any A c ns s w hA Hs.out (by omega)
  by_cases hbig : 65536 < ns
  · have hst : st s = ([], 5) := by unfold st; rw [if_pos (by omega)]
    rw [hst] at h1
    have H1 := Lib.hid h1
    have hbig' : (65536 : Int) < ns := by omega
    clear h1 hst hls
    go_enter Try.func9, Try.ntmps9
    go_wp2_with fail
    refine (works_any _).mono ?_
    rintro e w0 ⟨rfl, b0⟩
    go_wp2_with fail
    refine (H1.out _ _ _ (hS.on b0)).mono ?_
    rintro e w1 ⟨v1, rfl, hnew1⟩
    obtain ⟨A1, c1, rfl, hl1, hc1, hB1⟩ := hnew1.form
    have b1 := hnew1.2
    clear hnew1
    go_wp2
    go_ret
    exact ⟨rfl, b0.trans (b1.mono b0.size)⟩
  · have hst : st s = (numB ns ++ s, 0) := by unfold st; rw [if_neg (by omega), hls]
    have hlen := numB_length (n := ns)
    have h7 := dgs_len7 (n := ns) (by omega)
    have hy8 : (numB ns).length ≤ 8 := by omega
    have hts0 : most < 0 → ts (numB ns ++ s ++ z) most = ([], [], 2) := fun h => ts_neg _ h
    have hts1 : 0 ≤ most → ts (numB ns ++ s ++ z) most = if most < (ns : Int) then ([], [], 5) else (s, z, 0) := fun h => by
      have := ts_text (s := s) (z := z) (most := most) (by omega) h
      rw [hls] at this
      exact this
    rw [hst] at h1
    have H1 := Lib.hid h1
    clear hst h1 hlen h7
    have hyl : (numB ns ++ s).length ≤ 65544 := by simp; omega
    generalize numB ns ++ s = y at *
    generalize hq : y.length = q at *
    have Hq := Lib.hid hq
    clear hq hls
    have Hts0 := Lib.hid hts0
    have Hts1 := Lib.hid hts1
    clear hts0 hts1
    go_enter Try.func9, Try.ntmps9
    go_wp2_with fail
    refine (works_any _).mono ?_
    rintro e w0 ⟨rfl, b0⟩
    go_wp2_with fail
    refine (H1.out _ _ _ (hS.on b0)).mono ?_
    rintro e w1 ⟨v1, rfl, hnew1⟩
    obtain ⟨A1, c1, rfl, hl1, hc1, hB1⟩ := hnew1.form
    have b1 := hnew1.2
    have t1 := b0.trans (b1.mono b0.size)
    clear hnew1
    simp only at hl1 hB1
    simp only [Hq.out]
    go_wp2_with fail
    refine (join2 (l1 := y) (l2 := z) hB1 Hq.out (hB.on t1) Hz.out (by omega)).mono ?_
    rintro e w2 ⟨v2, rfl, hnew2⟩
    obtain ⟨A2, c2, rfl, hl2, hc2, hB2⟩ := hnew2.form
    have b2 := hnew2.2
    have t2 := t1.trans (b2.mono t1.size)
    have hl2e : (y ++ z).length = q + mb := by simp [Hq.out, Hz.out]
    have Hl2e := Lib.hid hl2e
    clear hl2e hnew2
    rw [Hl2e.out] at hl2
    rw [Hl2e.out]
    have h3 := takeStr_any A2 c2 (q + mb) most (y ++ z) w2 hB2 Hl2e.out hl2 (by omega) hc2
    by_cases h0 : most < 0
    · rw [Hts0.out h0] at h3
      have H3 := Lib.hid h3
      clear h3
      go_wp2_with fail
      refine H3.out.mono ?_
      rintro e w4 ⟨v3, v4, w3, rfl, hnew3, hnew4⟩
      obtain ⟨A3, c3, rfl, hl3, hc3, hB3⟩ := hnew3.form
      obtain ⟨A4, c4, rfl, hl4, hc4, hB4⟩ := hnew4.form
      have b4 := hnew3.2.trans (hnew4.2.mono hnew3.2.size)
      have t4 := t2.trans (b4.mono t2.size)
      clear hnew3 hnew4
      go_wp2
      go_ret
      exact ⟨rfl, t4⟩
    · rw [Hts1.out (by omega)] at h3
      by_cases hm : most < (ns : Int)
      · rw [if_pos hm] at h3
        have H3 := Lib.hid h3
        clear h3
        go_wp2_with fail
        refine H3.out.mono ?_
        rintro e w4 ⟨v3, v4, w3, rfl, hnew3, hnew4⟩
        obtain ⟨A3, c3, rfl, hl3, hc3, hB3⟩ := hnew3.form
        obtain ⟨A4, c4, rfl, hl4, hc4, hB4⟩ := hnew4.form
        have b4 := hnew3.2.trans (hnew4.2.mono hnew3.2.size)
        have t4 := t2.trans (b4.mono t2.size)
        clear hnew3 hnew4
        go_wp2
        go_ret
        exact ⟨rfl, t4⟩
      · rw [if_neg hm] at h3
        have H3 := Lib.hid h3
        clear h3
        go_wp2_with fail
        refine H3.out.mono ?_
        rintro e w4 ⟨v3, v4, w3, rfl, hnew3, hnew4⟩
        obtain ⟨A3, c3, rfl, hl3, hc3, hB3⟩ := hnew3.form
        obtain ⟨A4, c4, rfl, hl4, hc4, hB4⟩ := hnew4.form
        have b4 := hnew3.2.trans (hnew4.2.mono hnew3.2.size)
        have t4 := t2.trans (b4.mono t2.size)
        have k3 := hB3.on hnew4.2
        clear hnew3 hnew4
        simp only at hl3 hl4 k3 hB4
        simp only [Hs.out, Hz.out]
        go_wp2_with fail
        refine (eqSame _ _ _ _ _ _ s _ k3 (hS.on t4) Hs.out Hs.out (by omega)).mono ?_
        rintro e w5 ⟨rfl, b5⟩
        have t5 := t4.trans (b5.mono t4.size)
        go_wp2_with fail
        refine (eqSame _ _ _ _ _ _ z _ (hB4.on b5) (hB.on t5) Hz.out Hz.out (by unfold maxLen; omega)).mono ?_
        rintro e w6 ⟨rfl, b6⟩
        have t6 := t5.trans (b6.mono t5.size)
        go_wp2
        go_ret
        exact ⟨rfl, t6⟩

end Go.Proofs.Ytjnoeojlmfmhdaa.binTexts
