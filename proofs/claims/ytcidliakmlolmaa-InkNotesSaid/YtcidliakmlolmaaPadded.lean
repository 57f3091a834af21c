/-
  Padded of the document's own answer, over this seat's translation.
-/
import Derived.Test.YtcidliakmlolmaaRefRound
import Derived.Test.YtcidliakmlolmaaApp
import Derived.Test.YtcidliakmlolmaaDig2
import Derived.Test.YtcidliakmlolmaaHex
namespace Go.Proofs.Ytcidliakmlolmaa
open Go.RowKit
set_option linter.unusedVariables false

set_option maxRecDepth 100000 in
set_option maxHeartbeats 1600000 in
theorem padded_any (A : Option Addr) (c n : Nat) (l : List UInt8) (w : World) (hB : Bs w A l) (hn : l.length = n) (hl : n ≤ 140737488351232) :
    Calls Try.prog 30 #[.slice A n c] w (RetB w (pad l)) := by
  subst hn
  have Hc := Lib.hid (copyBytes A c l.length l w hB rfl (by omega))
  clear hB
  go_enter Try.func30, Try.ntmps30
  go_wp2_with fail
  refine Hc.out.mono ?_
  rintro e w1 ⟨v1, rfl, hN1⟩
  obtain ⟨A1, c1, rfl, hc1, hcm1, hB1⟩ := hN1.form
  have ha1 : Mine (w1.alloc (.cells #[.int .u8 128] 5)) w.heap.size 5 (.slice A1 l.length c1) l := World.ownsRow.alloc hN1.1 _
  have hz1 := hN1.2.size
  have Hb1 := Lib.hid hN1.2
  clear hN1 hB1
  go_wp2_with (at_builtin; go_loud (refine wp_appendB rfl _ _ rfl w.heap.size (.slice A1 l.length c1) l rfl ha1 (some ⟨w1.heap.size, 0, none⟩) 1 1 [128] rfl (Bs.made w1 _ _ _ _ rfl) rfl (by omega) (by simp; omega) ?_; intro v2 w2 hm2 hg2 ho2))
  have hb2 : Below w.heap.size w w2 := (Hb1.out.alloc hz1 _).grown hg2 (by simp; omega) (fun b hb => (World.ownsRow.lt ha1 b hb).1)
  have hN2 : NewB w (l ++ 128 :: List.replicate 0 0) v2 w2 := ⟨hm2, hb2⟩
  have HN2 := Lib.hid hN2
  clear ha1 hm2 hg2 ho2 hb2 hN2
  go_loopw [3] (fun v wr => ∃ j : Nat, j ≤ gap l.length ∧ NewB w (l ++ 128 :: List.replicate j 0) v wr) (fun v _ => 200000000000000 - (match v with | .slice _ k _ => k | _ => 0))
  case atStart => exact ⟨0, Nat.zero_le _, HN2.out⟩
  case round =>
    obtain ⟨j, hj, hN⟩ := hrel
    obtain ⟨L1, hL1⟩ : ∃ L1, l ++ 128 :: List.replicate j (0 : UInt8) = L1 := ⟨_, rfl⟩
    have hlen : L1.length = l.length + 1 + j := by rw [← hL1]; simp; omega
    have hnext : l ++ 128 :: List.replicate (j + 1) (0 : UInt8) = L1 ++ [0] := by rw [← hL1, List.replicate_succ']; simp
    rw [hL1] at hN
    obtain ⟨A3, c3, rfl, hc3, hcm3, hB3⟩ := hN.form
    have hgl : gap l.length ≤ 63 := by unfold gap; omega
    have hma : Mine (wr.alloc (.cells #[.int .u8 0] 5)) w.heap.size 5 (.slice A3 L1.length c3) L1 := World.ownsRow.alloc hN.1 _
    have hzr := hN.2.size
    have Hnext := Lib.hid hnext
    have Hgap := Lib.hid hL1
    clear hnext hL1 hB3
    obtain ⟨q, hq⟩ : ∃ q, L1.length = q := ⟨_, rfl⟩
    by_cases hlt : j < gap l.length
    · have hne : ((q : Int) % 64 != 56) = true := by unfold gap at hlt; simp; omega
      have Hb := Lib.hid hN.2
      have Hlen := Lib.hid hlen
      clear hN hlen
      rw [hq] at hma hc3 ⊢
      have hq6 : q ≤ 140737488351296 := by have := Hlen.out; omega
      go_wp2_with (at_builtin; refine wp_appendB rfl _ _ rfl w.heap.size (.slice A3 q c3) L1 rfl hma (some ⟨wr.heap.size, 0, none⟩) 1 1 [0] rfl (Bs.made wr _ _ _ _ rfl) rfl (by omega) (by simp; omega) ?_; intro v4 w4 hm4 hg4 ho4)
      have hb4 : Below w.heap.size w w4 := (Hb.out.alloc hzr _).grown hg4 (by simp; omega) (fun b hb => (World.ownsRow.lt hma b hb).1)
      obtain ⟨A4, c4, rfl, hl4, hc4, hB4⟩ := Mine.form hm4
      have hlen4 : (L1 ++ [0]).length = q + 1 := by rw [List.length_append, hq]; rfl
      have Hm4 := Lib.hid (And.intro hm4 hb4)
      clear hm4 hb4 hg4 ho4 hB4 hma
      go_roundw
      case rel => exact ⟨j + 1, by omega, by rw [Hnext.out]; exact Hm4.out⟩
      case measure => simp [hq]; omega
    · have hje : j = gap l.length := by omega
      have hne : ((q : Int) % 64 != 56) = false := by subst hje; unfold gap at hlen; simp; omega
      have hl6 : (l.length : Int) ≤ 140737488351232 := by omega
      have HN := Lib.hid hN
      clear hN hma
      rw [hq] at hc3 ⊢
      have hq6 : q ≤ 140737488351296 := by omega
      have Hlen := Lib.hid hlen
      clear hlen
      go_wp2
      go_loopw [3, 5] (fun v i ws => ∃ k : Nat, k ≤ 8 ∧ i = .int .i64 (7 - (k : Int)) ∧ NewB w (L1 ++ (be8 (8 * l.length)).take k) v ws) (fun _ i _ => (intOf i + 1).toNat)
      case atStart => exact ⟨0, by omega, rfl, by rw [List.take_zero, List.append_nil]; rw [← hq]; exact HN.out⟩
      case round =>
        obtain ⟨k, hk, rfl, hN⟩ := hrel
        obtain ⟨L2, hL2⟩ : ∃ L2, L1 ++ (be8 (8 * l.length)).take k = L2 := ⟨_, rfl⟩
        have hlen2 : L2.length = q + k := by rw [← hL2, List.length_append, List.length_take, be8_len, hq]; omega
        by_cases hk8 : k < 8
        · have hb8 : ∃ x : UInt8, (be8 (8 * l.length)).take (k + 1) = (be8 (8 * l.length)).take k ++ [x] ∧ x = UInt8.ofNat (8 * l.length / 256 ^ (7 - k) % 256) := by
            have hkl : k < (be8 (8 * l.length)).length := by rw [be8_len]; exact hk8
            refine ⟨_, List.take_succ_eq_append_getElem hkl, ?_⟩
            simp [be8]
          obtain ⟨x, hx1, hx2⟩ := hb8
          have hnext : L1 ++ (be8 (8 * l.length)).take (k + 1) = L2 ++ [x] := by rw [hx1, ← hL2, List.append_assoc]
          rw [hL2] at hN
          have hxv : 8 * (l.length : Int) / 2 ^ (8 * (7 - k)) % 256 = (x.toNat : Int) := by
            have e1 : x.toNat = 8 * l.length / 2 ^ (8 * (7 - k)) % 256 := by
              rw [hx2, UInt8.toNat_ofNat', Nat.pow_mul, show 2 ^ 8 = 256 from rfl]; omega
            rw [e1]
            simp
          obtain ⟨A4, c4, rfl, hc4, hcm4, hB4⟩ := hN.form
          have hma : ∀ o, Mine (wr.alloc o) w.heap.size 5 (.slice A4 L2.length c4) L2 := fun o => World.ownsRow.alloc hN.1 o
          have hzs := hN.2.size
          have Hnext := Lib.hid hnext
          have Hb := Lib.hid hN.2
          have Hx2 := Lib.hid hxv
          clear hnext hN hB4 hL2 hx1 hx2 hxv
          rw [hlen2] at hma hc4 ⊢
          have hk0 : (0 : Int) ≤ 7 - (k : Int) := by omega
          have hk7 : (7 : Int) - (k : Int) ≤ 7 := by omega
          have hk8' : (k : Int) ≤ 7 := by omega
          go_wp2_with (at_builtin; refine wp_appendB rfl _ _ rfl w.heap.size (.slice A4 (q + k) c4) L2 rfl (hma _) (some ⟨wr.heap.size, 0, none⟩) 1 1 [x] rfl (Bs.made wr _ _ _ _ (by rw [Hx2.out]; rfl)) rfl (by omega) (by simp; omega) ?_; intro v5 w5 hm5 hg5 ho5)
          have hb5 : Below w.heap.size w w5 := (Hb.out.alloc hzs _).grown hg5 (by simp; omega) (fun b hb => (World.ownsRow.lt (hma (.cells #[.int .u8 0] 5)) b hb).1)
          have Hm5 := Lib.hid (And.intro hm5 hb5)
          clear hm5 hb5 hg5 ho5 hma
          go_roundw
          case rel => exact ⟨k + 1, by omega, by go_num, by rw [Hnext.out]; exact Hm5.out⟩
          case measure => simp [intOf]; omega
        · have hke : k = 8 := by omega
          have hk7 : ¬ (0 : Int) ≤ 7 - (k : Int) := by omega
          have hk8' : ¬ (k : Int) ≤ 7 := by omega
          have hfin : L1 ++ (be8 (8 * l.length)).take k = pad l := by
            rw [hke, List.take_of_length_le (by rw [be8_len]; exact Nat.le_refl _), ← Hgap.out, hje]
            unfold pad; simp
          rw [hfin] at hN
          have HN2' := Lib.hid hN
          clear hN hfin hL2
          go_wp2
          go_ret
          exact ⟨_, rfl, HN2'.out⟩
end Go.Proofs.Ytcidliakmlolmaa
