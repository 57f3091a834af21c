/-
  The document's TakeFix and TakeStr over this seat's translation.
-/
import Derived.Test.YtjnoeojlmfmhdaaRefTake
namespace Go.Proofs.Ytjnoeojlmfmhdaa
open Go.RowKit
set_option linter.unusedVariables false

set_option maxHeartbeats 400000 in
theorem refTakeFix_any (A : Option Addr) (c n : Nat) (k : Int) (xs : List UInt8) (w : World) (hA : Bs w A xs) (hn : xs.length = n) (hc : n ≤ c) (hl : n ≤ 140737488355328) (hcm : c ≤ maxLen) :
    Calls Try.prog 30 #[.slice A n c, .int .i64 k] w (RetTF w (tf xs k)) := by
  have Ht := Lib.hid (show tf xs k = if k < 0 then ([], [], 2) else if (n : Int) < k then ([], [], 3) else (xs.take k.toNat, xs.drop k.toNat, 0) from by rw [← hn]; rfl)
  generalize tf xs k = r at *
  have Hn := Lib.hid hn
  clear hn
  unfold maxLen at hcm
  by_cases h0 : k < 0
  · have hr : Hid (r = ([], [], 2)) := by show _ = _; have := Ht.out; simpa [h0] using this
    clear Ht
    go_enter Try.func30, Try.ntmps30
    go_wp2
    go_ret3
    rw [hr.out]
    exact retTF_nil rfl rfl
  · by_cases h1 : (n : Int) < k
    · have hr : Hid (r = ([], [], 3)) := by show _ = _; have := Ht.out; simpa [h0, h1] using this
      clear Ht
      go_enter Try.func30, Try.ntmps30
      go_wp2
      go_ret3
      rw [hr.out]
      exact retTF_nil rfl rfl
    · have hr : Hid (r = (xs.take k.toNat, xs.drop k.toNat, 0)) := by show _ = _; have := Ht.out; simpa [h0, h1] using this
      obtain ⟨u, rfl⟩ := Int.eq_ofNat_of_zero_le (a := k) (by omega)
      rw [Int.toNat_natCast] at hr
      clear Ht
      have hu : u ≤ n := by omega
      have hcut := run_cut A n c u hu
      have hfr := run_front A n c u (by omega)
      go_enter Try.func30, Try.ntmps30
      go_wp2
      go_region_with (first
        | (go_at_call_of 19 (cutAt A 1 u c); refine (copyBytes _ _ _ (xs.drop u) _ ?_ ?_ ?_).mono ?_; exact (Bs.after hnew.2 hA).cut (by rw [Hn.out]; exact hu) (by rw [Hn.out]; exact hc); rw [List.length_drop, Hn.out]; omega; rintro e w2 ⟨v2, rfl, hnew2⟩)
        | (go_at_call_of 19 A; refine (copyBytes _ _ _ (xs.take u) _ ?_ ?_ ?_).mono ?_; exact hA.front (by rw [Hn.out]; exact hu); rw [List.length_take, Hn.out]; omega; omega; rintro e w1 ⟨v, rfl, hnew⟩))
      go_wp2
      go_ret3
      exact ⟨v, v2, w1, by rw [hr.out]; rfl, by rw [hr.out]; exact hnew.ofDrew, by rw [hr.out]; exact hnew2⟩

set_option maxHeartbeats 400000 in
theorem refTakeStr_any (A : Option Addr) (c n : Nat) (k : Int) (xs : List UInt8) (w : World) (hA : Bs w A xs) (hn : xs.length = n) (hc : n ≤ c) (hl : n ≤ 140737488355328) (hcm : c ≤ maxLen) :
    Calls Try.prog 28 #[.slice A n c, .int .i64 k] w (RetTF w (ts xs k)) := by
  have Ht := Lib.hid (show ts xs k = if k < 0 then ([], [], 2) else if (nu xs).2.2 ≠ 0 then ([], [], (nu xs).2.2) else if k < (nu xs).1 ∨ 65536 < (nu xs).1 then ([], [], 5) else tf (xs.drop (nu xs).2.1) (nu xs).1 from rfl)
  have hu := nu_used xs
  rw [hn] at hu
  have hN := refTakeNum_any A c n xs w hA hn hc hl hcm
  have hT : tk xs = if (nu xs).2.2 = 0 then ((nu xs).1, xs.drop (nu xs).2.1, 0) else (0, [], (nu xs).2.2) := rfl
  rw [hT] at hN
  clear hT
  have Hn := Lib.hid hn
  clear hn
  generalize ts xs k = r at *
  generalize nu xs = q at *
  obtain ⟨x, u, e⟩ := q
  simp only at hu hN Ht
  unfold maxLen at hcm
  by_cases h0 : k < 0
  · have hr : Hid (r = ([], [], 2)) := by show _ = _; have := Ht.out; simpa [h0] using this
    clear Ht hN
    go_enter Try.func28, Try.ntmps28
    go_wp2
    go_ret3
    rw [hr.out]
    exact retTF_nil rfl rfl
  · by_cases he : e = 0
    · subst he
      rw [if_pos rfl] at hN
      have HN := Lib.hid hN
      clear hN
      have nlater : ∀ {w1 v}, NewB w (xs.drop u) v w1 → RetTF w1 ([], [], 5) (.returned (.tuple #[.slice none 0 0, .slice none 0 0, .int .i64 5])) w1 → RetTF w ([], [], 5) (.returned (.tuple #[.slice none 0 0, .slice none 0 0, .int .i64 5])) w1 :=
        fun hnew _ => ⟨_, _, _, rfl, NewB.later hnew.2 (NewB.nil _), NewB.nil _⟩
      by_cases hk : k < (x : Int)
      · have hr : Hid (r = ([], [], 5)) := by show _ = _; have := Ht.out; simpa [h0, hk] using this
        clear Ht
        go_enter Try.func28, Try.ntmps28
        go_wp2_with fail
        refine HN.out.mono ?_
        rintro e w1 ⟨v, rfl, hnew⟩
        go_wp2
        go_ret3
        rw [hr.out]
        exact nlater hnew (retTF_nil rfl rfl)
      · by_cases hx : 65536 < x
        · have hr : Hid (r = ([], [], 5)) := by show _ = _; have := Ht.out; simpa [h0, hk, hx] using this
          have hx' : (65536 : Int) < x := by omega
          clear Ht
          go_enter Try.func28, Try.ntmps28
          go_wp2_with fail
          refine HN.out.mono ?_
          rintro e w1 ⟨v, rfl, hnew⟩
          go_wp2
          go_ret3
          rw [hr.out]
          exact nlater hnew (retTF_nil rfl rfl)
        · have hr : Hid (r = tf (xs.drop u) x) := by show _ = _; have := Ht.out; simpa [h0, hk, hx] using this
          have hx' : ¬ (65536 : Int) < x := by omega
          have hle : (xs.drop u).length ≤ 140737488355328 := by rw [List.length_drop, Hn.out]; omega
          clear Ht nlater
          generalize xs.drop u = rest at *
          go_enter Try.func28, Try.ntmps28
          go_wp2_with fail
          refine HN.out.mono ?_
          rintro e w1 ⟨v, rfl, hnew⟩
          obtain ⟨A1, c1, rfl, hl1, hc1, hB1⟩ := hnew.form
          go_wp2_with fail
          refine (refTakeFix_any _ _ _ _ rest _ hB1 rfl hl1 hle hc1).mono ?_
          rintro e w2 ⟨v1, v2, w3, rfl, hnew1, hnew2⟩
          go_wp2
          go_ret3
          rw [hr.out]
          exact ⟨v1, v2, w3, rfl, NewB.later hnew.2 hnew1, hnew2⟩
    · have hr : Hid (r = ([], [], e)) := by show _ = _; have := Ht.out; simpa [h0, he] using this
      have hee : ((e : Int) != 0) = true := by simp [he]
      rw [if_neg he] at hN
      have HN := Lib.hid hN
      clear hN Ht
      go_enter Try.func28, Try.ntmps28
      go_wp2_with fail
      refine HN.out.mono ?_
      rintro e w1 ⟨v, rfl, hnew⟩
      go_wp2
      go_ret3
      rw [hr.out]
      exact ⟨_, _, _, rfl, NewB.later hnew.2 (NewB.nil _), NewB.nil _⟩
end Go.Proofs.Ytjnoeojlmfmhdaa
