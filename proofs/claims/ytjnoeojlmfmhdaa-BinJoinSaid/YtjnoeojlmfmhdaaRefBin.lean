/-
  The document's Num, TakeNum, TakeFix, Str and TakeStr over this seat's translation.
-/
import Derived.Test.YtjnoeojlmfmhdaaStr
import Derived.Test.YtjnoeojlmfmhdaaTake
namespace Go.Proofs.Ytjnoeojlmfmhdaa
open Go.RowKit
set_option linter.unusedVariables false

theorem built1 (w : World) (e : TypeId) (x : UInt8) (u : Value) (hu : u = cb x) : Mine (w.alloc (.cells #[u] e)) w.heap.size e (.slice (some ⟨w.heap.size, 0, none⟩) 1 1) [x] := by
  subst hu
  refine ⟨rfl, .inr ⟨w.heap.size, 1, #[cb x], rfl, Nat.le_refl _, heap_alloc_new w _, Nat.le_refl _, by simp [maxLen], rfl, rfl⟩⟩

theorem Mine.base {w : World} {b b' : Nat} {e : TypeId} {v : Value} {l : List UInt8} (h : Mine w b e v l) (hb : b' ≤ b) : Mine w b' e v l := by
  obtain ⟨h1, h2 | ⟨g, cap, cur, h3, h4, h5⟩⟩ := h
  · exact ⟨h1, .inl h2⟩
  · exact ⟨h1, .inr ⟨g, cap, cur, h3, Nat.le_trans hb h4, h5⟩⟩

theorem byte_mod (m : Nat) : Value.int .u8 ((m : Int) % 256) = cb (UInt8.ofNat (m % 256)) := by
  unfold cb
  congr 1
  rw [UInt8.toNat_ofNat', Nat.mod_eq_of_lt (by omega)]
  simp

set_option maxHeartbeats 800000 in
theorem digits_any (n : Nat) (w : World) (h : n ≤ 9007199254740991) :
    Calls Try.prog 35 #[.int .i64 n] w (RetB w (dgs n)) := by
  go_enter Try.func35, Try.ntmps35
  go_wp2
  go_loopw [0, 3] (fun i v wr => ∃ m : Nat, m ≤ n ∧ i = .int .i64 m ∧ ∃ l, Mine wr w.heap.size 5 v l ∧ dgs n = dgs m ++ l ∧ Below w.heap.size w wr) (fun i _ _ => (intOf i).toNat)
  case atStart => exact ⟨n, Nat.le_refl _, rfl, [], World.ownsRow_nil _ _ _ _, by simp, Below.refl _ _⟩
  case round =>
    obtain ⟨m, hm, rfl, l, hown, hd, hnx⟩ := hrel
    have hl : l.length ≤ 7 := by
      have := dgs_len7 h; rw [hd] at this; simp at this; omega
    have Hd := Lib.hid hd
    clear hd
    by_cases h0 : m = 0
    · have Hd2 : Hid (dgs n = l) := by show _ = _; have := Hd.out; rw [h0, dgs_zero] at this; simpa using this
      have hm0 : m ≤ 0 := by omega
      clear h0
      go_wp2
      go_ret
      exact ⟨_, rfl, by rw [Hd2.out]; exact hown, hnx⟩
    · have hm0 : 0 < m := by omega
      have Hd2 : Hid (dgs n = dgs (m / 256) ++ (UInt8.ofNat (m % 256) :: l)) := by show _ = _; have := Hd.out; rw [dgs_pos hm0] at this; simpa using this
      obtain ⟨A1, c1, rfl, hl1, hc1, hB1⟩ := Mine.form hown
      clear h0 Hd
      have hb := byte_mod m
      have Hb := Lib.hid hb
      clear hb
      go_wp2_with (at_builtin; refine wp_appendB rfl _ _ rfl wr.heap.size (.slice (some ⟨wr.heap.size, 0, none⟩) 1 1) [UInt8.ofNat (m % 256)] rfl (by exact built1 _ _ _ _ Hb.out) A1 c1 _ l rfl (by exact hB1.on ((Below.refl _ _).alloc (Nat.le_refl _) _)) rfl (by simp; omega) (by simp) ?_; intro v2 w2 hm2 hg2 ho2)
      go_roundw
      case rel =>
        refine ⟨m / 256, by omega, by go_num, _, Mine.base hm2 hnx.size, Hd2.out, (hnx.alloc hnx.size _).grown hg2 (by simp; have := hnx.size; omega) ?_⟩
        intro j hj
        simp [Value.ownBlock] at hj
        have := hnx.size
        omega
      case measure => simp [intOf]; omega

theorem byte_len (k : Nat) (h : k ≤ 7) : Value.int .u8 (k : Int) = cb (UInt8.ofNat k) := by
  unfold cb
  congr 1
  rw [UInt8.toNat_ofNat', Nat.mod_eq_of_lt (by omega)]

set_option maxHeartbeats 400000 in
theorem refNum_any (n : Int) (w : World) : Calls Try.prog 18 #[.int .i64 n] w (RetBE w (nm n)) := by
  by_cases h0 : n < 0
  · have hr : Hid (nm n = ([], 9)) := by show _ = _; simp [nm, h0]
    generalize nm n = r at *
    go_enter Try.func18, Try.ntmps18
    go_wp2
    go_ret2
    exact ⟨_, by rw [hr.out]; rfl, by rw [hr.out]; exact NewB.nil _⟩
  · by_cases h1 : 9007199254740991 < n
    · have hr : Hid (nm n = ([], 9)) := by show _ = _; simp [nm, h1]
      generalize nm n = r at *
      go_enter Try.func18, Try.ntmps18
      go_wp2
      go_ret2
      exact ⟨_, by rw [hr.out]; rfl, by rw [hr.out]; exact NewB.nil _⟩
    · obtain ⟨k, rfl⟩ := Int.eq_ofNat_of_zero_le (a := n) (by omega)
      have hr : Hid (nm k = (numB k, 0)) := by show _ = _; simp [nm, h1]
      have hnb : Hid (numB k = UInt8.ofNat (dgs k).length :: dgs k) := rfl
      have h7 := dgs_len7 (n := k) (by omega)
      generalize nm k = r at *
      have hd := digits_any k w (by omega)
      generalize numB k = y at *
      generalize dgs k = d at *
      have Hdg := Lib.hid hd
      clear hd
      go_enter Try.func18, Try.ntmps18
      go_wp2_with fail
      refine Hdg.out.mono ?_
      rintro e w1 ⟨v, rfl, hnew⟩
      obtain ⟨A1, c1, rfl, hl1, hc1, hB1⟩ := hnew.form
      have hb := byte_len d.length h7
      have Hb := Lib.hid hb
      clear hb
      have h7i : (d.length : Int) ≤ 7 := by omega
      go_wp2_with (at_builtin; refine wp_appendB rfl _ _ rfl w1.heap.size (.slice (some ⟨w1.heap.size, 0, none⟩) 1 1) [UInt8.ofNat d.length] rfl (by exact built1 _ _ _ _ Hb.out) A1 c1 _ d rfl (by exact hB1.on ((Below.refl _ _).alloc (Nat.le_refl _) _)) rfl (by simp; omega) (by simp) ?_; intro v2 w2 hm2 hg2 ho2)
      go_ret2
      refine ⟨_, by rw [hr.out]; rfl, ?_⟩
      rw [hr.out]
      show NewB w y v2 w2
      rw [hnb.out]
      refine ⟨Mine.base hm2 hnew.2.size, (hnew.2.alloc hnew.2.size _).grown hg2 (by simp; have := hnew.2.size; omega) ?_⟩
      intro j hj
      simp [Value.ownBlock] at hj
      have := hnew.2.size
      omega

set_option maxHeartbeats 800000 in
theorem refStr_any (A : Option Addr) (c n : Nat) (xs : List UInt8) (w : World) (hA : Bs w A xs) (hn : xs.length = n) (hl : n ≤ maxLen) :
    Calls Try.prog 26 #[.slice A n c] w (RetBE w (st xs)) := by
  have Hn := Lib.hid hn
  unfold maxLen at hl
  by_cases h : 65536 < n
  · have hr : Hid (st xs = ([], 5)) := by show _ = _; simp [st, hn, h]
    have h' : (65536 : Int) < n := by omega
    clear hn
    generalize st xs = r at *
    go_enter Try.func26, Try.ntmps26
    go_wp2
    go_ret2
    exact ⟨_, by rw [hr.out]; rfl, by rw [hr.out]; exact NewB.nil _⟩
  · have hr : Hid (st xs = (numB n ++ xs, 0)) := by show _ = _; simp [st, hn, h]
    have h' : ¬ (65536 : Int) < n := by omega
    clear hn
    generalize st xs = r at *
    have hnm : nm n = (numB n, 0) := by simp [nm]; omega
    have hN := refNum_any n w
    rw [hnm] at hN
    have hk : (numB n).length ≤ 8 := by have := dgs_len7 (n := n) (by omega); simp [numB]; omega
    clear hnm
    generalize numB n = y at *
    have HN := Lib.hid hN
    clear hN
    go_enter Try.func26, Try.ntmps26
    go_wp2_with fail
    refine HN.out.mono ?_
    rintro e w1 ⟨v, rfl, hnew⟩
    have hm0 : Mine w1 w.heap.size 5 v y := hnew.1
    have hln : y.length + n ≤ 140737488355328 := by omega
    have hB2 := hA.on hnew.2
    go_wp2_with (at_builtin; go_loud (refine wp_appendB rfl _ _ rfl w.heap.size _ _ rfl hm0 A c n xs rfl hB2 Hn.out hln hnew.2.size ?_); intro v2 w2 hm2 hg2 ho2)
    go_ret2
    refine ⟨_, by rw [hr.out]; rfl, ?_⟩
    rw [hr.out]
    refine ⟨hm2, hnew.2.grown hg2 hnew.2.size ?_⟩
    intro j hj
    exact (World.ownsRow.lt hm0 j hj).1
end Go.Proofs.Ytjnoeojlmfmhdaa
