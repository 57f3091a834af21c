/-
  The chapter's own bytes: 'works' answers true, over this seat's translation.
-/
import Derived.Test.YtjnoeojlmfmhdaaWorks
namespace Go.Proofs.Ytjnoeojlmfmhdaa
open Go.RowKit
set_option linter.unusedVariables false

set_option maxHeartbeats 1600000 in
theorem works_any (w : World) : Calls Try.prog 24 #[] w fun e w' => e = .returned (.bool true) ∧ Below w.heap.size w w' := by
  go_enter Try.func24, Try.ntmps24
  go_wp2_with fail
  have h1 := num_any 256 w
  rw [nm_256] at h1
  refine h1.mono ?_
  clear h1
  rintro e w1 ⟨v1, rfl, hnew1⟩
  obtain ⟨A1, c1, rfl, hl1, hc1, hB1⟩ := hnew1.form
  have hb1 := hnew1.2
  clear hnew1
  go_wp2_with fail
  have h2 := str_any (some ⟨w1.heap.size, 0, none⟩) 2 2 [170, 187] (w1.alloc (.cells #[.int .u8 170, .int .u8 187] 5)) (Bs.made _ _ _ _ rfl) rfl (by simp [maxLen])
  rw [st_ex] at h2
  refine h2.mono ?_
  clear h2
  rintro e w2 ⟨v2, rfl, hnew2⟩
  obtain ⟨A2, c2, rfl, hl2, hc2, hB2⟩ := hnew2.form
  have hb2 : Below w.heap.size w w2 := (hb1.alloc hb1.size _).trans (hnew2.2.mono (by have := hb1.size; simp; omega))
  have hB1' : Bs w2 A1 [2, 1, 0] := (hB1.on ((Below.refl _ _).alloc (Nat.le_refl _) _)).after hnew2.2
  clear hnew2 hB1 hb1
  go_wp2_with fail
  have h3 := takeNum_any (some ⟨w2.heap.size, 0, none⟩) 4 4 [2, 1, 0, 9] (w2.alloc (.cells #[.int .u8 2, .int .u8 1, .int .u8 0, .int .u8 9] 5)) (Bs.made _ _ _ _ rfl) rfl (by decide) (by decide) (by simp [maxLen])
  rw [tk_ex] at h3
  refine h3.mono ?_
  clear h3
  rintro e w3 ⟨v3, rfl, hnew3⟩
  obtain ⟨A3, c3, rfl, hl3, hc3, hB3⟩ := hnew3.form
  have hb3 : Below w.heap.size w w3 := (hb2.alloc hb2.size _).trans (hnew3.2.mono (by have := hb2.size; simp; omega))
  have k2 : Bs w3 A2 [1, 2, 170, 187] := (hB2.on ((Below.refl _ _).alloc (Nat.le_refl _) _)).after hnew3.2
  have k1 : Bs w3 A1 [2, 1, 0] := (hB1'.on ((Below.refl _ _).alloc (Nat.le_refl _) _)).after hnew3.2
  clear hnew3 hB2 hB1' hb2
  go_wp2_with fail
  have h4 := takeStr_any (some ⟨w3.heap.size, 0, none⟩) 5 5 2 [1, 2, 170, 187, 204] (w3.alloc (.cells #[.int .u8 1, .int .u8 2, .int .u8 170, .int .u8 187, .int .u8 204] 5)) (Bs.made _ _ _ _ rfl) rfl (by decide) (by decide) (by simp [maxLen])
  rw [ts_ex] at h4
  refine h4.mono ?_
  clear h4
  rintro e w5 ⟨v4, v5, w4, rfl, hnew4, hnew5⟩
  obtain ⟨A4, c4, rfl, hl4, hc4, hB4⟩ := hnew4.form
  obtain ⟨A5, c5, rfl, hl5, hc5, hB5⟩ := hnew5.form
  have hbb := hnew4.2.trans (hnew5.2.mono hnew4.2.size)
  have hb5 : Below w.heap.size w w5 := (hb3.alloc hb3.size _).trans (hbb.mono (by have := hb3.size; simp; omega))
  have m1 : Bs w5 A1 [2, 1, 0] := (k1.on ((Below.refl _ _).alloc (Nat.le_refl _) _)).after hbb
  have m2 : Bs w5 A2 [1, 2, 170, 187] := (k2.on ((Below.refl _ _).alloc (Nat.le_refl _) _)).after hbb
  have m3 : Bs w5 A3 [9] := (hB3.on ((Below.refl _ _).alloc (Nat.le_refl _) _)).after hbb
  have m4 : Bs w5 A4 [170, 187] := hB4.on hnew5.2
  clear hnew4 hnew5 hbb hB3 hB4 hb3 k1 k2 hl1 hl2 hl3 hl4 hl5 hc1 hc2 hc3 hc4 hc5
  go_wp2_with fail
  refine (eqSame _ _ _ _ _ _ [2, 1, 0] _ (m1.on ((Below.refl _ _).alloc (Nat.le_refl _) _)) (Bs.made _ _ _ _ rfl) rfl rfl (by simp [maxLen])).mono ?_
  rintro e w6 ⟨rfl, hq⟩
  have hb6 : Below w.heap.size w w6 := (hb5.alloc hb5.size _).trans (hq.mono (by have := hb5.size; simp; omega))
  have n2 := (m2.on ((Below.refl _ _).alloc (Nat.le_refl _) _)).after hq
  have n3 := (m3.on ((Below.refl _ _).alloc (Nat.le_refl _) _)).after hq
  have n4 := (m4.on ((Below.refl _ _).alloc (Nat.le_refl _) _)).after hq
  have n5 := (Bs.on hB5 ((Below.refl _ _).alloc (Nat.le_refl _) _)).after hq
  clear hq m1 m2 m3 m4 hB5 hb5
  go_wp2_with fail
  refine (eqSame _ _ _ _ _ _ [1, 2, 170, 187] _ (n2.on ((Below.refl _ _).alloc (Nat.le_refl _) _)) (Bs.made _ _ _ _ rfl) rfl rfl (by simp [maxLen])).mono ?_
  rintro e w7 ⟨rfl, hq⟩
  have hb7 : Below w.heap.size w w7 := (hb6.alloc hb6.size _).trans (hq.mono (by have := hb6.size; simp; omega))
  have o3 := (n3.on ((Below.refl _ _).alloc (Nat.le_refl _) _)).after hq
  have o4 := (n4.on ((Below.refl _ _).alloc (Nat.le_refl _) _)).after hq
  have o5 := (n5.on ((Below.refl _ _).alloc (Nat.le_refl _) _)).after hq
  clear hq n2 n3 n4 n5 hb6
  go_wp2_with fail
  refine (eqSame _ _ _ _ _ _ [9] _ (o3.on ((Below.refl _ _).alloc (Nat.le_refl _) _)) (Bs.made _ _ _ _ rfl) rfl rfl (by simp [maxLen])).mono ?_
  rintro e w8 ⟨rfl, hq⟩
  have hb8 : Below w.heap.size w w8 := (hb7.alloc hb7.size _).trans (hq.mono (by have := hb7.size; simp; omega))
  have p4 := (o4.on ((Below.refl _ _).alloc (Nat.le_refl _) _)).after hq
  have p5 := (o5.on ((Below.refl _ _).alloc (Nat.le_refl _) _)).after hq
  clear hq o3 o4 o5 hb7
  go_wp2_with fail
  refine (eqSame _ _ _ _ _ _ [170, 187] _ (p4.on ((Below.refl _ _).alloc (Nat.le_refl _) _)) (Bs.made _ _ _ _ rfl) rfl rfl (by simp [maxLen])).mono ?_
  rintro e w9 ⟨rfl, hq⟩
  have hb9 : Below w.heap.size w w9 := (hb8.alloc hb8.size _).trans (hq.mono (by have := hb8.size; simp; omega))
  have q5 := (p5.on ((Below.refl _ _).alloc (Nat.le_refl _) _)).after hq
  clear hq p4 p5 hb8
  go_wp2_with fail
  refine (eqSame _ _ _ _ _ _ [204] _ (q5.on ((Below.refl _ _).alloc (Nat.le_refl _) _)) (Bs.made _ _ _ _ rfl) rfl rfl (by simp [maxLen])).mono ?_
  rintro e w10 ⟨rfl, hq⟩
  have hb10 : Below w.heap.size w w10 := (hb9.alloc hb9.size _).trans (hq.mono (by have := hb9.size; simp; omega))
  clear hq q5 hb9
  go_wp2
  go_ret
  exact ⟨rfl, hb10⟩
end Go.Proofs.Ytjnoeojlmfmhdaa
