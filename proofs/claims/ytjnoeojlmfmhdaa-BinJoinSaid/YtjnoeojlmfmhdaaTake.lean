/-
  Contracts over this seat's translation: TakeNum, TakeFix, TakeStr.
-/
import Derived.Test.YtjnoeojlmfmhdaaClone
import Derived.Test.YtjnoeojlmfmhdaaNum
import Derived.Deep.RegionWith
namespace Go.Proofs.Ytjnoeojlmfmhdaa
open Go.RowKit
set_option linter.unusedVariables false

theorem nu_used (l : List UInt8) : (nu l).2.1 ≤ l.length := by
  unfold nu
  cases l with
  | nil => simp
  | cons b t => simp only; split; · simp
                split; · simp
                split; · simp
                split; · simp
                simp; omega

theorem run_cut (A : Option Addr) (n c u : Nat) (h : u ≤ n) (w : World) :
    (Instr.sliceAt 22 (.slice A n c) (some (.int .i64 (u : Int))) none none).run Try.prog w = .ok (.slice (cutAt A 1 u c) (n - u) (c - u)) w := by
  have h1 : (u : Int) ≤ n := by omega
  go_simp
  simp [cutAt]
theorem run_front (A : Option Addr) (n c u : Nat) (h : u ≤ c) (w : World) :
    (Instr.sliceAt 22 (.slice A n c) none (some (.int .i64 (u : Int))) none).run Try.prog w = .ok (.slice A u c) w := by
  have h1 : (u : Int) ≤ c := by omega
  go_simp

/-- What TakeNum answers: the number, what is left, the error. -/
def tk (l : List UInt8) : Nat × List UInt8 × Nat := if (nu l).2.2 = 0 then ((nu l).1, l.drop (nu l).2.1, 0) else (0, [], (nu l).2.2)
def RetTN (w : World) (r : Nat × List UInt8 × Nat) (e : Ending) (w' : World) : Prop :=
  ∃ v, e = .returned (.tuple #[.int .i64 (r.1 : Int), v, .int .i64 (r.2.2 : Int)]) ∧ NewB w r.2.1 v w'

set_option maxHeartbeats 400000 in
theorem takeNum_any (A : Option Addr) (c n : Nat) (xs : List UInt8) (w : World) (hA : Bs w A xs) (hn : xs.length = n) (hc : n ≤ c) (hl : n ≤ 140737488355328) (hcm : c ≤ maxLen) :
    Calls Try.prog 20 #[.slice A n c] w (RetTN w (tk xs)) := by
  have hu := nu_used xs
  rw [hn] at hu
  have hN := number_any A c n xs w hA hn (by unfold maxLen; omega)
  unfold nuV at hN
  have Hn := Lib.hid hn
  clear hn
  have Ht := Lib.hid (show tk xs = if (nu xs).2.2 = 0 then ((nu xs).1, xs.drop (nu xs).2.1, 0) else (0, [], (nu xs).2.2) from rfl)
  generalize tk xs = r at *
  generalize nu xs = q at *
  obtain ⟨x, u, e⟩ := q
  simp only at hu hN
  have HN := Lib.hid hN
  clear hN
  unfold maxLen at hcm
  by_cases he : e = 0
  · subst he
    have hr : Hid (r = (x, xs.drop u, 0)) := by show _ = _; have := Ht.out; simpa using this
    clear Ht
    have hcut := run_cut A n c u hu
    go_enter Try.func20, Try.ntmps20
    go_wp2_with fail
    refine HN.out.mono ?_
    rintro e w' ⟨rfl, rfl⟩
    go_wp2_with fail
    refine (clone_any _ _ _ (xs.drop u) _ (hA.cut (by rw [Hn.out]; exact hu) (by rw [Hn.out]; exact hc)) (by rw [List.length_drop, Hn.out]) (by omega)).mono ?_
    rintro e w1 ⟨v, rfl, hnew⟩
    go_wp2
    go_ret3
    exact ⟨v, by rw [hr.out]; rfl, by rw [hr.out]; exact hnew⟩
  · have hr : Hid (r = (0, [], e)) := by show _ = _; have := Ht.out; simpa [he] using this
    have hee : ((e : Int) != 0) = true := by simp [he]
    clear Ht
    go_enter Try.func20, Try.ntmps20
    go_wp2_with fail
    refine HN.out.mono ?_
    rintro e w' ⟨rfl, rfl⟩
    go_wp2
    go_ret3
    exact ⟨.slice none 0 0, by rw [hr.out]; rfl, by rw [hr.out]; exact ⟨World.ownsRow_nil _ _ _ _, Below.refl _ _⟩⟩

/-- What TakeFix answers: the first n, what is left, the error. -/
def tf (l : List UInt8) (n : Int) : List UInt8 × List UInt8 × Nat := if n < 0 then ([], [], 2) else if l.length < n then ([], [], 3) else (l.take n.toNat, l.drop n.toNat, 0)
def RetTF (w : World) (r : List UInt8 × List UInt8 × Nat) (e : Ending) (w' : World) : Prop :=
  ∃ v u w1, e = .returned (.tuple #[v, u, .int .i64 (r.2.2 : Int)]) ∧ NewB w r.1 v w1 ∧ NewB w1 r.2.1 u w' 

set_option maxHeartbeats 400000 in
theorem takeFix_any (A : Option Addr) (c n : Nat) (k : Int) (xs : List UInt8) (w : World) (hA : Bs w A xs) (hn : xs.length = n) (hc : n ≤ c) (hl : n ≤ 140737488355328) (hcm : c ≤ maxLen) :
    Calls Try.prog 29 #[.slice A n c, .int .i64 k] w (RetTF w (tf xs k)) := by
  have Ht := Lib.hid (show tf xs k = if k < 0 then ([], [], 2) else if (n : Int) < k then ([], [], 3) else (xs.take k.toNat, xs.drop k.toNat, 0) from by rw [← hn]; rfl)
  generalize tf xs k = r at *
  have Hn := Lib.hid hn
  clear hn
  unfold maxLen at hcm
  by_cases h0 : k < 0
  · have hr : Hid (r = ([], [], 2)) := by show _ = _; have := Ht.out; simpa [h0] using this
    clear Ht
    go_enter Try.func29, Try.ntmps29
    go_wp2
    go_ret3
    exact ⟨.slice none 0 0, .slice none 0 0, w, by rw [hr.out]; rfl, by rw [hr.out]; exact ⟨World.ownsRow_nil _ _ _ _, Below.refl _ _⟩, by rw [hr.out]; exact ⟨World.ownsRow_nil _ _ _ _, Below.refl _ _⟩⟩
  · by_cases h1 : (n : Int) < k
    · have hr : Hid (r = ([], [], 3)) := by show _ = _; have := Ht.out; simpa [h0, h1] using this
      clear Ht
      go_enter Try.func29, Try.ntmps29
      go_wp2
      go_ret3
      exact ⟨.slice none 0 0, .slice none 0 0, w, by rw [hr.out]; rfl, by rw [hr.out]; exact ⟨World.ownsRow_nil _ _ _ _, Below.refl _ _⟩, by rw [hr.out]; exact ⟨World.ownsRow_nil _ _ _ _, Below.refl _ _⟩⟩
    · have hr : Hid (r = (xs.take k.toNat, xs.drop k.toNat, 0)) := by show _ = _; have := Ht.out; simpa [h0, h1] using this
      obtain ⟨u, rfl⟩ := Int.eq_ofNat_of_zero_le (a := k) (by omega)
      rw [Int.toNat_natCast] at hr
      clear Ht
      have hu : u ≤ n := by omega
      have hcut := run_cut A n c u hu
      have hfr := run_front A n c u (by omega)
      go_enter Try.func29, Try.ntmps29
      go_wp2
      go_region_with (first
        | (go_at_call_of 37 (cutAt A 1 u c); refine (clone_any _ _ _ (xs.drop u) _ ?_ ?_ ?_).mono ?_; exact (Bs.after hnew.2 hA).cut (by rw [Hn.out]; exact hu) (by rw [Hn.out]; exact hc); rw [List.length_drop, Hn.out]; omega; rintro e w2 ⟨v2, rfl, hnew2⟩)
        | (go_at_call_of 37 A; refine (clone_any _ _ _ (xs.take u) _ ?_ ?_ ?_).mono ?_; exact hA.front (by rw [Hn.out]; exact hu); rw [List.length_take, Hn.out]; omega; omega; rintro e w1 ⟨v, rfl, hnew⟩))
      go_wp2
      go_ret3
      exact ⟨v, v2, w1, by rw [hr.out]; rfl, by rw [hr.out]; exact hnew.ofDrew, by rw [hr.out]; exact hnew2⟩

/-- What TakeStr answers. -/
def ts (l : List UInt8) (most : Int) : List UInt8 × List UInt8 × Nat :=
  if most < 0 then ([], [], 2) else if (nu l).2.2 ≠ 0 then ([], [], (nu l).2.2) else if most < (nu l).1 ∨ 65536 < (nu l).1 then ([], [], 5) else tf (l.drop (nu l).2.1) (nu l).1

theorem retTF_nil {w w' : World} (h : w = w') {k : Nat} {i : Int} (hi : i = k) : RetTF w ([], [], k) (.returned (.tuple #[.slice none 0 0, .slice none 0 0, .int .i64 i])) w' := by
  subst h hi; exact ⟨_, _, w, rfl, NewB.nil w, NewB.nil w⟩

set_option maxHeartbeats 400000 in
theorem takeStr_any (A : Option Addr) (c n : Nat) (k : Int) (xs : List UInt8) (w : World) (hA : Bs w A xs) (hn : xs.length = n) (hc : n ≤ c) (hl : n ≤ 140737488355328) (hcm : c ≤ maxLen) :
    Calls Try.prog 27 #[.slice A n c, .int .i64 k] w (RetTF w (ts xs k)) := by
  have Ht := Lib.hid (show ts xs k = if k < 0 then ([], [], 2) else if (nu xs).2.2 ≠ 0 then ([], [], (nu xs).2.2) else if k < (nu xs).1 ∨ 65536 < (nu xs).1 then ([], [], 5) else tf (xs.drop (nu xs).2.1) (nu xs).1 from rfl)
  have hu := nu_used xs
  rw [hn] at hu
  have hN := number_any A c n xs w hA hn (by unfold maxLen; omega)
  unfold nuV at hN
  have Hn := Lib.hid hn
  clear hn
  generalize ts xs k = r at *
  generalize nu xs = q at *
  obtain ⟨x, u, e⟩ := q
  simp only at hu hN Ht
  have HN := Lib.hid hN
  clear hN
  have hcm' : c ≤ maxLen := hcm
  unfold maxLen at hcm
  by_cases h0 : k < 0
  · have hr : Hid (r = ([], [], 2)) := by show _ = _; have := Ht.out; simpa [h0] using this
    clear Ht
    go_enter Try.func27, Try.ntmps27
    go_wp2
    go_ret3
    rw [hr.out]
    exact retTF_nil rfl rfl
  · by_cases he : e = 0
    · subst he
      by_cases hk : k < (x : Int)
      · have hr : Hid (r = ([], [], 5)) := by show _ = _; have := Ht.out; simpa [h0, hk] using this
        clear Ht
        go_enter Try.func27, Try.ntmps27
        go_wp2_with fail
        refine HN.out.mono ?_
        rintro e w' ⟨rfl, rfl⟩
        go_wp2
        go_ret3
        rw [hr.out]
        exact retTF_nil rfl rfl
      · by_cases hx : 65536 < x
        · have hr : Hid (r = ([], [], 5)) := by show _ = _; have := Ht.out; simpa [h0, hk, hx] using this
          have hx' : (65536 : Int) < x := by omega
          clear Ht
          go_enter Try.func27, Try.ntmps27
          go_wp2_with fail
          refine HN.out.mono ?_
          rintro e w' ⟨rfl, rfl⟩
          go_wp2
          go_ret3
          rw [hr.out]
          exact retTF_nil rfl rfl
        · have hr : Hid (r = tf (xs.drop u) x) := by show _ = _; have := Ht.out; simpa [h0, hk, hx] using this
          have hx' : ¬ (65536 : Int) < x := by omega
          have hcut := run_cut A n c u hu
          clear Ht
          go_enter Try.func27, Try.ntmps27
          go_wp2_with fail
          refine HN.out.mono ?_
          rintro e w' ⟨rfl, rfl⟩
          go_wp2_with fail
          refine (takeFix_any _ _ _ _ (xs.drop u) _ (hA.cut (by rw [Hn.out]; exact hu) (by rw [Hn.out]; exact hc)) (by rw [List.length_drop, Hn.out]) (by omega) (by omega) (by unfold maxLen; omega)).mono ?_
          rintro e w2 ⟨v, v2, w1, rfl, hnew, hnew2⟩
          go_wp2
          go_ret3
          rw [hr.out]
          exact ⟨v, v2, w1, rfl, hnew, hnew2⟩
    · have hr : Hid (r = ([], [], e)) := by show _ = _; have := Ht.out; simpa [h0, he] using this
      have hee : ((e : Int) != 0) = true := by simp [he]
      clear Ht
      go_enter Try.func27, Try.ntmps27
      go_wp2_with fail
      refine HN.out.mono ?_
      rintro e w' ⟨rfl, rfl⟩
      go_wp2
      go_ret3
      rw [hr.out]
      exact retTF_nil rfl rfl
end Go.Proofs.Ytjnoeojlmfmhdaa
