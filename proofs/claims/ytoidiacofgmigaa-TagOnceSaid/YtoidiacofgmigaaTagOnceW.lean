/-
  For all numbers f, t and all bytes d: the same tag twice is one, and is refused just if f is no name or t is none and not 0; TagOnce returns true; no condition.
-/
import Derived.Test.YtoidiacofgmigaaTwo
namespace Go.Proofs.Ytoidiacofgmigaa.tagOnce
open Go.ChangeShapes Go.WideShapes Go.ChangeAt Go.RowKit
set_option linter.unusedVariables false

set_option maxRecDepth 100000 in
set_option maxHeartbeats 3200000 in
theorem walk (f : Int) (t : Int) (d : Int) (w : World) (hf : (Lit.int .i64 f).wf = true) (ht : (Lit.int .i64 t).wf = true) (hd : (Lit.int .u8 d).wf = true) :
    Calls Try.prog 9 #[.int .i64 f, .int .i64 t, .int .u8 d] w fun e w' => e = .returned (.bool true) ∧ Below w.heap.size w w' := by
  have hdb := bounds_u8 hd
  obtain ⟨d, rfl⟩ : ∃ q : UInt8, d = (q.toNat : Int) := ⟨_, wf_u8 hd⟩
  obtain ⟨D, hD, hDl, hD1, hdig⟩ := ku_digest d w
  have HD := Lib.hid hD
  have Hdig := Lib.hid hdig
  clear hD hdig hd hdb
  have hmay : okTag f t = (decide (1 ≤ f) && decide (f ≤ 34) && (decide (0 ≤ t) && decide (t ≤ 34))) := by
    unfold okTag isN
    by_cases h1 : 1 ≤ f <;> by_cases h2 : f ≤ 34 <;> by_cases h3 : t = 0 <;> by_cases h4 : 1 ≤ t <;> by_cases h5 : t ≤ 34 <;> by_cases h6 : 0 ≤ t <;> simp [h1, h2, h3, h4, h5, h6] <;> omega
  have htwo : tagL (tagL [] f t (dg d)) f t (dg d) = tagL [] f t (dg d) := by
    unfold tagL
    split
    · unfold putT; simp
    · rfl
  have hlen : ((tagL [] f t (dg d)).length : Int) = if okTag f t then 1 else 0 := by
    unfold tagL
    split <;> simp [putT]
  have hlt : (tagL [] f t (dg d)).length < 1000000 := by have := tagL_len [] f t (dg d); simp at this; omega
  go_enter Try.func9, Try.ntmps9
  have hnot : ∀ (x : Bool) (w : World), (Op.unary .not (.bool x)).run Try.prog w = .ok (.bool (!x)) w := fun _ _ => rfl
  go_wp2_with (go_at_call 27; refine (works4_any _).mono ?_; rintro e w0 ⟨rfl, hb0⟩)
  refine (ku_new w w0 hb0).mono ?_
  rintro e w1 ⟨g, m, rfl, hg, hm, hk, hb⟩
  have K1 := Lib.hid hk
  clear hg hm hk hb
  go_wp2_with fail
  refine (Hdig.out w1).mono ?_
  rintro e w2 ⟨rfl, hb2⟩
  have K2 := Lib.hid (K1.out.below hb2)
  clear hb2 K1
  go_wp2_with fail
  refine (ku_tagE f t (dg d) D (errOf (okTag f t)) (tagL [] f t (dg d)) K2.out (by decide) hf ht (dg_len d) HD.out rfl rfl).mono ?_
  rintro e w3 ⟨rfl, hk3, ho3⟩
  have K3 := Lib.hid hk3
  clear hk3 ho3
  go_wp2_with fail
  refine (Hdig.out w3).mono ?_
  rintro e w4 ⟨rfl, hb4⟩
  have K4 := Lib.hid (K3.out.below hb4)
  clear hb4 K3
  go_wp2_with fail
  refine (ku_tagE f t (dg d) D (errOf (okTag f t)) (tagL [] f t (dg d)) K4.out hlt hf ht (dg_len d) HD.out rfl htwo).mono ?_
  rintro e w5 ⟨rfl, hk5, ho5⟩
  have K5 := Lib.hid hk5
  have Hlen := Lib.hid (len_any g m _ _ _ K5.out.1)
  have Hask := Lib.hid (asked_any g m _ _ _ K5.out.1)
  clear hk5 ho5 htwo
  generalize (tagL [] f t (dg d)).length = n at *
  cases hok : okTag f t with
  | true =>
    rw [hok] at hmay hlen
    have hn1 : n = 1 := by simp at hlen; omega
    subst hn1
    simp at hmay
    obtain ⟨⟨m1, m2⟩, m3, m4⟩ := hmay
    clear hlen hok
    go_wp2_with (first
      | (go_at_call 23; refine Hlen.out.mono ?_; rintro e w' ⟨rfl, rfl⟩)
      | (go_at_call 25; refine Hask.out.mono ?_; rintro e w' ⟨rfl, rfl⟩))
    go_ret
    exact ⟨rfl, K5.out.bel⟩
  | false =>
    rw [hok] at hmay hlen
    have hn1 : n = 0 := by simp at hlen; omega
    subst hn1
    have hmay' : ¬ (1 ≤ f ∧ f ≤ 34 ∧ 0 ≤ t ∧ t ≤ 34) := by
      rintro ⟨h1, h2, h3, h4⟩
      simp [h1, h2, h3, h4] at hmay
    clear hlen hok hmay
    by_cases m1 : 1 ≤ f
    · by_cases m2 : f ≤ 34
      · by_cases m3 : 0 ≤ t
        · have m4 : ¬ t ≤ 34 := fun h => hmay' ⟨m1, m2, m3, h⟩
          have m5 : decide (t ≤ 34) = false := decide_eq_false m4
          clear m4
          clear hmay'
          go_wp2_with (first
            | (go_at_call 23; refine Hlen.out.mono ?_; rintro e w' ⟨rfl, rfl⟩)
            | (go_at_call 25; refine Hask.out.mono ?_; rintro e w' ⟨rfl, rfl⟩))
          go_ret
          exact ⟨rfl, K5.out.bel⟩
        · clear hmay'
          go_wp2_with (first
            | (go_at_call 23; refine Hlen.out.mono ?_; rintro e w' ⟨rfl, rfl⟩)
            | (go_at_call 25; refine Hask.out.mono ?_; rintro e w' ⟨rfl, rfl⟩))
          go_ret
          exact ⟨rfl, K5.out.bel⟩
      · clear hmay'
        go_wp2_with (first
          | (go_at_call 23; refine Hlen.out.mono ?_; rintro e w' ⟨rfl, rfl⟩)
          | (go_at_call 25; refine Hask.out.mono ?_; rintro e w' ⟨rfl, rfl⟩))
        go_ret
        exact ⟨rfl, K5.out.bel⟩
    · clear hmay'
      go_wp2_with (first
        | (go_at_call 23; refine Hlen.out.mono ?_; rintro e w' ⟨rfl, rfl⟩)
        | (go_at_call 25; refine Hask.out.mono ?_; rintro e w' ⟨rfl, rfl⟩))
      go_ret
      exact ⟨rfl, K5.out.bel⟩

end Go.Proofs.Ytoidiacofgmigaa.tagOnce
