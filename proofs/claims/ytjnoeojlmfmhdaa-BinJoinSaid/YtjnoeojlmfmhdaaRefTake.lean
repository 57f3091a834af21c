/-
  The document's TakeNum, TakeFix and TakeStr over this seat's translation.
-/
import Derived.Test.YtjnoeojlmfmhdaaRefBin
namespace Go.Proofs.Ytjnoeojlmfmhdaa
open Go.RowKit
set_option linter.unusedVariables false

theorem tk_of {l : List UInt8} {x u : Nat} (h : nu l = (x, u, 0)) : tk l = (x, l.drop u, 0) := by simp [tk, h]
theorem tk_err {l : List UInt8} {x u e : Nat} (h : nu l = (x, u, e)) (he : e ≠ 0) : tk l = (0, [], e) := by simp [tk, h, he]
theorem retTN_nil {w w' : World} (h : w = w') {k : Nat} {i : Int} (hi : i = k) : RetTN w (0, [], k) (.returned (.tuple #[.int .i64 0, .slice none 0 0, .int .i64 i])) w' := by
  subst h hi; exact ⟨_, rfl, NewB.nil w⟩

set_option maxHeartbeats 1600000 in
theorem refTakeNum_any (A : Option Addr) (c n : Nat) (xs : List UInt8) (w : World) (hA : Bs w A xs) (hn : xs.length = n) (hcap : n ≤ c) (hl : n ≤ 140737488355328) (hcm : c ≤ maxLen) :
    Calls Try.prog 21 #[.slice A n c] w (RetTN w (tk xs)) := by
  unfold maxLen at hcm
  cases xs with
  | nil =>
    have hv : Hid (tk [] = (0, [], 3)) := rfl
    generalize tk [] = r at *
    subst hn
    go_enter Try.func21, Try.ntmps21
    go_wp2
    go_ret3
    rw [hv.out]
    exact retTN_nil rfl rfl
  | cons b t =>
    obtain ⟨bb, off, rfl, hb, hc⟩ := hA.at_ (i := 0) (by simp)
    have g0 : w.cell? ⟨bb, off, none⟩ = some (.int .u8 (b.toNat : Int)) := by have := hc 0 (by simp); exact this
    have hl1 : n ≤ t.length + 1 := by simp at hn; omega
    have hl2 : t.length + 1 ≤ n := by simp at hn; omega
    have Hn := Lib.hid hn
    clear hn
    have hp : (0 : Int) < n := by omega
    have hne : ((n : Int) == 0) = false := by simp; omega
    have hb8 := b.toNat_lt
    by_cases h7 : 7 < b.toNat
    · have hv : Hid (tk (b :: t) = (0, [], 4)) := tk_err (x := 0) (u := 0) (by simp [nu, h7]) (by decide)
      have h7' : (7 : Int) < b.toNat := by omega
      clear h7 hc Hn
      generalize tk (b :: t) = r at *
      go_enter Try.func21, Try.ntmps21
      go_wp2
      go_ret3
      rw [hv.out]
      exact retTN_nil rfl rfl
    · have h7' : ¬ (7 : Int) < b.toNat := by omega
      by_cases hs : t.length < b.toNat
      · have hv : Hid (tk (b :: t) = (0, [], 3)) := tk_err (x := 0) (u := 0) (by simp [nu, h7, hs]) (by decide)
        have hs' : (n : Int) - 1 < b.toNat := by omega
        clear hc Hn
        generalize tk (b :: t) = r at *
        go_enter Try.func21, Try.ntmps21
        go_wp2
        go_ret3
        rw [hv.out]
        exact retTN_nil rfl rfl
      · have hs' : ¬ (n : Int) - 1 < b.toNat := by omega
        have hcut : ∀ w, (Instr.sliceAt 22 (.slice (some ⟨bb, off, none⟩) n c) (some (.int .i64 (1 + (b.toNat : Int)))) none none).run Try.prog w = .ok (.slice (cutAt (some ⟨bb, off, none⟩) 1 (1 + b.toNat) c) (n - (1 + b.toNat)) (c - (1 + b.toNat))) w := by
          have := run_cut (some ⟨bb, off, none⟩) n c (1 + b.toNat) (by omega)
          simpa using this
        by_cases hz : 0 < b.toNat
        · obtain ⟨x, u, rfl⟩ : ∃ x u, t = x :: u := by
            cases t with
            | nil => simp at hs; omega
            | cons x u => exact ⟨x, u, rfl⟩
          have g1 : w.cell? ⟨bb, off + 1, none⟩ = some (.int .u8 (x.toNat : Int)) := by have := hc 1 (by simp); exact this
          have hp1 : (1 : Int) < n := by simp at hl2; omega
          have hz' : (0 : Int) < b.toNat := by omega
          by_cases hx : x = 0
          · have hv : Hid (tk (b :: x :: u) = (0, [], 4)) := tk_err (x := 0) (u := 0) (by simp [nu, h7, hz, hx]; simp at hs; omega) (by decide)
            have hx' : ((x.toNat : Int) == 0) = true := by rw [hx]; rfl
            clear hc hx h7 hs hz Hn
            generalize tk (b :: x :: u) = r at *
            go_enter Try.func21, Try.ntmps21
            go_wp2
            go_ret3
            rw [hv.out]
            exact retTN_nil rfl rfl
          · have hx' : ((x.toNat : Int) == 0) = false := by
              simp only [beq_eq_false_iff_ne, ne_eq]; intro e; exact hx (UInt8.toNat_inj.1 (by simpa using e))
            have hv0 : nu (b :: x :: u) = if 9007199254740991 < val ((x :: u).take b.toNat) then (0, 0, 9) else (val ((x :: u).take b.toNat), 1 + b.toNat, 0) := by
              simp [nu, h7, hx]; simp at hs; omega
            have Hv0 := Lib.hid hv0
            clear hv0
            have hle : b.toNat ≤ (x :: u).length := by omega
            clear hx hs
            have Hcut := Lib.hid hcut
            clear hcut
            go_enter Try.func21, Try.ntmps21
            go_wp2
            go_loop [6, 7] (fun s i => ∃ k : Nat, k ≤ b.toNat ∧ i = .int .i64 ((1 + k : Nat) : Int) ∧ s = .int .i64 (val ((x :: u).take k) : Nat)) (fun _ i => 1 + b.toNat - (intOf i).toNat)
            case atStart => exact ⟨0, Nat.zero_le _, rfl, rfl⟩
            case round =>
              obtain ⟨k, hk, rfl, rfl⟩ := hrel
              have hvl := val_lt ((x :: u).take k)
              by_cases hlt : k < b.toNat
              · have hkl : k < (x :: u).length := by omega
                have hs6 : 256 ^ ((x :: u).take k).length ≤ 256 ^ 6 := Nat.pow_le_pow_right (by omega) (by simp; omega)
                have hsn : Hid (val ((x :: u).take (k + 1)) = val ((x :: u).take k) * 256 + (x :: u)[k].toNat) := by
                  show _ = _
                  rw [List.take_succ_eq_append_getElem hkl, val_snoc]
                have g : w.cell? ⟨bb, off + (1 + k), none⟩ = some (.int .u8 ((x :: u)[k].toNat : Int)) := by
                  have := hc (k + 1) (by simp at hkl ⊢; omega)
                  rw [show off + (1 + k) = off + (k + 1) from by omega]; exact this
                have hb2 := (x :: u)[k].toNat_lt
                generalize (x :: u)[k] = y at *
                generalize val ((x :: u).take k) = s at *
                have hs7 : s < 281474976710656 := by omega
                clear hc hvl hs6
                go_wp2
                go_round
                case rel => exact ⟨k + 1, by omega, by go_num, by rw [hsn.out]; go_num⟩
                case measure => simp [intOf]; omega
              · have hkb : Hid (k = b.toNat) := by show _ = _; omega
                have hv1 : nu (b :: x :: u) = if 9007199254740991 < val ((x :: u).take k) then (0, 0, 9) else (val ((x :: u).take k), 1 + b.toNat, 0) := by
                  rw [Hv0.out, hkb.out]
                have hle6 : val ((x :: u).take k) < 72057594037927936 := by
                  have hs6 : 256 ^ ((x :: u).take k).length ≤ 256 ^ 7 := Nat.pow_le_pow_right (by omega) (by simp; omega)
                  omega
                generalize val ((x :: u).take k) = s at *
                clear hc hvl
                by_cases hbig : 9007199254740991 < s
                · have hbig' : (9007199254740991 : Int) < s := by omega
                  have hv : Hid (tk (b :: x :: u) = (0, [], 9)) := tk_err (by rw [hv1, if_pos hbig]) (by decide)
                  clear hv1
                  generalize tk (b :: x :: u) = r at *
                  go_wp2
                  go_ret3
                  rw [hv.out]
                  exact retTN_nil rfl rfl
                · have hbig' : ¬ (9007199254740991 : Int) < s := by omega
                  have hv : Hid (tk (b :: x :: u) = (s, (b :: x :: u).drop (1 + b.toNat), 0)) := tk_of (by rw [hv1, if_neg hbig])
                  clear hv1
                  have hbl : 1 + b.toNat ≤ n := by simp at hle hl2; omega
                  generalize tk (b :: x :: u) = r at *
                  have hcut := Hcut.out
                  go_wp2_with fail
                  refine (copyBytes _ _ _ ((b :: x :: u).drop (1 + b.toNat)) _ (hA.cut (by rw [Hn.out]; exact hbl) (by rw [Hn.out]; exact hcap)) (by rw [List.length_drop, Hn.out]) (by omega)).mono ?_
                  rintro e w1 ⟨v, rfl, hnew⟩
                  go_wp2
                  go_ret3
                  rw [hv.out]
                  exact ⟨v, rfl, hnew⟩
        · have hb0 : b.toNat ≤ 0 := by omega
          have hv : Hid (tk (b :: t) = (0, (b :: t).drop 1, 0)) := by
            refine tk_of ?_
            have hb0 : b.toNat = 0 := by omega
            simp [nu, hb0, val, valFrom]
          have hcut1 : ∀ w, (Instr.sliceAt 22 (.slice (some ⟨bb, off, none⟩) n c) (some (.int .i64 (1 + (b.toNat : Int)))) none none).run Try.prog w = .ok (.slice (cutAt (some ⟨bb, off, none⟩) 1 1 c) (n - 1) (c - 1)) w := by
            have e : b.toNat = 0 := by omega
            intro w
            rw [hcut w, e]
          clear hc hs hcut
          have Hcut := Lib.hid hcut1
          clear hcut1
          generalize tk (b :: t) = r at *
          go_enter Try.func21, Try.ntmps21
          go_wp2
          go_loop [6, 7] (fun s i => i = .int .i64 1 ∧ s = .int .i64 0) (fun _ _ => 0)
          case atStart => exact ⟨rfl, rfl⟩
          case round =>
            obtain ⟨rfl, rfl⟩ := hrel
            have hcut := Hcut.out
            go_wp2_with fail
            refine (copyBytes _ _ _ ((b :: t).drop 1) _ (hA.cut (by rw [Hn.out]; omega) (by rw [Hn.out]; exact hcap)) (by rw [List.length_drop, Hn.out]) (by omega)).mono ?_
            rintro e w1 ⟨v, rfl, hnew⟩
            go_wp2
            go_ret3
            rw [hv.out]
            exact ⟨v, rfl, hnew⟩
end Go.Proofs.Ytjnoeojlmfmhdaa
