/-
  Contracts over this seat's translation: number.
-/
import Derived.Test.YtjnoeojlmfmhdaaEq
import Derived.Test.YtjnoeojlmfmhdaaPlain
namespace Go.Proofs.Ytjnoeojlmfmhdaa
open Go.RowKit
set_option linter.unusedVariables false

theorem ret3 {a a' b b' c c' : Int} (h1 : a = a') (h2 : b = b') (h3 : c = c') : Ending.returned (.tuple #[.int .i64 a, .int .i64 b, .int .i64 c]) = .returned (.tuple #[.int .i64 a', .int .i64 b', .int .i64 c']) := by rw [h1, h2, h3]

theorem or8 (s y : Nat) (hs : s < 281474976710656) (hy : y < 256) : bits .or .i64 ((s : Int) * 256) (y : Int) = ((s * 256 + y : Nat) : Int) := by
  have h := bits_join .i64 62 (by decide) (fun n h0 h1 => by rw [IntKind.wrap_i64]; omega) 8 ((s : Int) * 256) (y : Int) (by omega) (by omega) (by omega) (by omega) (by omega) (by omega)
  rw [h]; simp

/-- What 'number' answers. -/
def nuV (l : List UInt8) : Value := .tuple #[.int .i64 ((nu l).1 : Int), .int .i64 ((nu l).2.1 : Int), .int .i64 ((nu l).2.2 : Int)]

set_option maxHeartbeats 800000 in
theorem number_any (A : Option Addr) (c n : Nat) (xs : List UInt8) (w : World) (hA : Bs w A xs) (hn : xs.length = n) (hl : n ≤ maxLen) :
    Calls Try.prog 36 #[.slice A n c] w fun e w' => e = .returned (nuV xs) ∧ w = w' := by
  unfold maxLen at hl
  cases xs with
  | nil =>
    subst hn
    go_enter Try.func36, Try.ntmps36
    go_wp2
    go_ret3
    exact ⟨rfl, rfl⟩
  | cons b t =>
    obtain ⟨bb, off, rfl, hb, hc⟩ := hA.at_ (i := 0) (by simp)
    have g0 : w.cell? ⟨bb, off, none⟩ = some (.int .u8 (b.toNat : Int)) := by have := hc 0 (by simp); exact this
    have hl1 : n ≤ t.length + 1 := by simp at hn; omega
    have hl2 : t.length + 1 ≤ n := by simp at hn; omega
    clear hn
    have hp : (0 : Int) < n := by omega
    have hne : ((n : Int) == 0) = false := by simp; omega
    have hb8 := b.toNat_lt
    by_cases h7 : 7 < b.toNat
    · have hv : Hid (nu (b :: t) = (0, 0, 4)) := by show _ = _; simp [nu, h7]
      have h7' : (7 : Int) < b.toNat := by omega
      clear h7 hc
      go_enter Try.func36, Try.ntmps36
      go_wp2
      go_ret3
      exact ⟨by unfold nuV; rw [hv.out]; rfl, rfl⟩
    · have h7' : ¬ (7 : Int) < b.toNat := by omega
      by_cases hs : t.length < b.toNat
      · have hv : Hid (nu (b :: t) = (0, 0, 3)) := by show _ = _; simp [nu, h7, hs]
        have hs' : (n : Int) - 1 < b.toNat := by omega
        clear hc
        go_enter Try.func36, Try.ntmps36
        go_wp2
        go_ret3
        exact ⟨by unfold nuV; rw [hv.out]; rfl, rfl⟩
      · have hs' : ¬ (n : Int) - 1 < b.toNat := by omega
        by_cases hz : 0 < b.toNat
        · obtain ⟨x, u, rfl⟩ : ∃ x u, t = x :: u := by
            cases t with
            | nil => simp at hs; omega
            | cons x u => exact ⟨x, u, rfl⟩
          have g1 : w.cell? ⟨bb, off + 1, none⟩ = some (.int .u8 (x.toNat : Int)) := by have := hc 1 (by simp); exact this
          have hp1 : (1 : Int) < n := by simp at hl2; omega
          have hz' : (0 : Int) < b.toNat := by omega
          by_cases hx : x = 0
          · have hv : Hid (nu (b :: x :: u) = (0, 0, 4)) := by show _ = _; simp [nu, h7, hz, hx]; simp at hs; omega
            have hx' : ((x.toNat : Int) == 0) = true := by rw [hx]; rfl
            clear hc hx h7 hs hz
            go_enter Try.func36, Try.ntmps36
            go_wp2
            go_ret3
            exact ⟨by unfold nuV; rw [hv.out]; rfl, rfl⟩
          · have hx' : ((x.toNat : Int) == 0) = false := by
              simp only [beq_eq_false_iff_ne, ne_eq]; intro e; exact hx (UInt8.toNat_inj.1 (by simpa using e))
            have hv0 : Hid (nu (b :: x :: u) = if 9007199254740991 < val ((x :: u).take b.toNat) then (0, 0, 9) else (val ((x :: u).take b.toNat), 1 + b.toNat, 0)) := by
              show _ = _; simp [nu, h7, hx]; simp at hs; omega
            have hle : b.toNat ≤ (x :: u).length := by omega
            clear hx hs
            go_enter Try.func36, Try.ntmps36
            go_wp2
            go_loop [2, 6, 33] (fun s _ i => ∃ k : Nat, k ≤ b.toNat ∧ i = .int .i64 k ∧ s = .int .i64 (val ((x :: u).take k) : Nat)) (fun _ _ i => b.toNat - (intOf i).toNat)
            case atStart => exact ⟨0, Nat.zero_le _, rfl, rfl⟩
            case round =>
              obtain ⟨k, hk, rfl, rfl⟩ := hrel
              have hvl := val_lt ((x :: u).take k)
              by_cases hlt : k < b.toNat
              · have hkl : k < (x :: u).length := by omega
                have hs6 : 256 ^ ((x :: u).take k).length ≤ 256 ^ 6 := Nat.pow_le_pow_right (by omega) (by simp; omega)
                have hsn : Hid (val ((x :: u).take (k + 1)) = val ((x :: u).take k) * 256 + (x :: u)[k].toNat) := by
                  show _ = _
                  rw [List.take_succ_eq_append_getElem hkl, val_snoc]
                have g : w.cell? ⟨bb, off + (1 + k), none⟩ = some (.int .u8 ((x :: u)[k].toNat : Int)) := by
                  have := hc (k + 1) (by simp at hkl ⊢; omega)
                  rw [show off + (1 + k) = off + (k + 1) from by omega]; exact this
                have hb2 := (x :: u)[k].toNat_lt
                generalize (x :: u)[k] = y at *
                generalize val ((x :: u).take k) = s at *
                have hs7 : s < 281474976710656 := by omega
                clear hc hvl hs6
                have ho := or8 s y.toNat (by omega) hb2
                have Ho := Lib.hid ho
                clear ho
                go_wp2
                go_round
                case rel => exact ⟨k + 1, by omega, by go_num, by rw [Ho.out, hsn.out]⟩
                case measure => simp [intOf]; omega
              · have hkb : Hid (k = b.toNat) := by show _ = _; omega
                have hv1 : Hid (nu (b :: x :: u) = if 9007199254740991 < val ((x :: u).take k) then (0, 0, 9) else (val ((x :: u).take k), 1 + b.toNat, 0)) := by
                  show _ = _; rw [hv0.out, hkb.out]
                have hle6 : val ((x :: u).take k) < 72057594037927936 := by
                  have hs6 : 256 ^ ((x :: u).take k).length ≤ 256 ^ 7 := Nat.pow_le_pow_right (by omega) (by simp; omega)
                  omega
                generalize val ((x :: u).take k) = s at *
                clear hc hvl
                by_cases hbig : 9007199254740991 < s
                · have hbig' : (9007199254740991 : Int) < s := by omega
                  go_wp2
                  go_ret3
                  exact ⟨by unfold nuV; rw [hv1.out, if_pos hbig]; rfl, rfl⟩
                · have hbig' : ¬ (9007199254740991 : Int) < s := by omega
                  go_wp2
                  go_ret3
                  exact ⟨by unfold nuV; rw [hv1.out, if_neg hbig]; rfl, rfl⟩
        · have hv : Hid (nu (b :: t) = (0, 1, 0)) := by
            show _ = _
            have hb0 : b.toNat = 0 := by omega
            simp [nu, hb0, val, valFrom]
          have hb0 : b.toNat ≤ 0 := by omega
          clear hc hs
          go_enter Try.func36, Try.ntmps36
          go_wp2
          go_loop [2, 6, 33] (fun s _ i => i = .int .i64 0 ∧ s = .int .i64 0) (fun _ _ _ => 0)
          case atStart => exact ⟨rfl, rfl⟩
          case round =>
            obtain ⟨rfl, rfl⟩ := hrel
            go_wp2
            go_ret3
            exact ⟨by unfold nuV; rw [hv.out]; exact ret3 rfl (by show _ = ((1 : Nat) : Int); omega) rfl, rfl⟩
end Go.Proofs.Ytjnoeojlmfmhdaa
