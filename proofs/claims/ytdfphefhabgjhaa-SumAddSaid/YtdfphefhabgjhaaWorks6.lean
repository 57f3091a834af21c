/-
  The laws' helper works, and the document's Step, Add, Of, over this seat's translation.
-/
import Derived.Test.YtdfphefhabgjhaaTable
import Derived.Test.YtdfphefhabgjhaaApp
import Derived.Lib.SlBytesConst
namespace Go.Proofs.Ytdfphefhabgjhaa
open Go.RowKit
set_option linter.unusedVariables false

theorem Bs.made (w : World) (t : TypeId) (vs : Array Value) (fr : Nat × Nat) (l : List UInt8) (h : vs.toList = cbs l) : Bs (w.alloc (.cells vs t fr)) (some ⟨w.heap.size, 0, none⟩) l := by
  refine ⟨by rw [cbs_length]; simp, fun _ => ⟨w.heap.size, 0, rfl, by simp, fun j u hu => ?_⟩⟩
  rw [Nat.zero_add, cell_of_row _ _ j vs t fr (heap_alloc_new w _)]
  rw [← h] at hu
  simpa using hu

set_option maxRecDepth 100000 in
set_option maxHeartbeats 800000 in
theorem works6_any (w : World) : Calls Try.prog 16 #[] w fun e w' => e = .returned (.bool true) ∧ Below w.heap.size w w' := by
  have hof := fun (A : Option Addr) (c : Nat) w (h : Bs w A [49, 50, 51, 52, 53, 54, 55, 56, 57]) => of_any A c 9 [49, 50, 51, 52, 53, 54, 55, 56, 57] w h rfl (by decide)
  rw [crc_known] at hof
  have hst := fun w => step_any 0 1 w
  rw [step_known] at hst
  have hof' : ∀ (A : Option Addr) (c : Nat) w (h : Bs w A [49, 50, 51, 52, 53, 54, 55, 56, 57]), Calls Try.prog 18 #[.slice A 9 c] w fun e w' => e = .returned (.int .u64 11051210869376104954) ∧ Below w.heap.size w w' := hof
  have hst' : ∀ w, Calls Try.prog 14 #[.int .u64 0, .int .u8 1] w fun e w' => e = .returned (.int .u64 12911341560706588527) ∧ w' = w := hst
  have Hof := Lib.hid hof'
  have Hst := Lib.hid hst'
  clear hof hof' hst hst'
  have kc := fun (w : World) (C : Array Value) (n c : Nat) => Lib.run_convert_bytes_const (P := Try.prog) w 26 5 C n c Try.underlying26 Try.underlying5
  go_enter Try.func16, Try.ntmps16
  go_wp2_with fail
  refine (Hof.out _ _ _ ?_).mono ?_
  · exact Bs.made _ _ #[.int .u8 49, .int .u8 50, .int .u8 51, .int .u8 52, .int .u8 53, .int .u8 54, .int .u8 55, .int .u8 56, .int .u8 57] _ [49, 50, 51, 52, 53, 54, 55, 56, 57] rfl
  rintro e w1 ⟨rfl, b1⟩
  have Hb := Lib.hid (((Below.refl w.heap.size w).alloc (Nat.le_refl _) _).trans (b1.mono (by simp)))
  clear b1
  go_wp2_with fail
  refine (Hst.out _).mono ?_
  rintro e w2 ⟨rfl, rfl⟩
  go_wp2_with fail
  go_ret
  exact ⟨rfl, Hb.out⟩

set_option maxRecDepth 100000 in
set_option maxHeartbeats 400000 in
theorem rstep_any (x : UInt64) (c : UInt8) (w : World) :
    Calls Try.prog 15 #[.int .u64 (x.toNat : Int), .int .u8 (c.toNat : Int)] w fun e w' => e = .returned (.int .u64 ((stepC x c).toNat : Int)) ∧ w' = w := by
  have hb := q_byte x c
  have hc : (c.toNat : Int) % 18446744073709551616 = (c.toNat : Int) := by have := c.toNat_lt; omega
  obtain ⟨z, hz⟩ : ∃ z, x ^^^ c.toUInt64 = z := ⟨_, rfl⟩
  rw [hz] at hb
  have Hfin : Hid (stepC x c = shn 8 z) := by show _ = _; rw [← hz]; rfl
  clear hz
  go_enter Try.func15, Try.ntmps15
  go_wp2
  clear hb hc
  go_loopw [5, 0] (fun i s wr => ∃ k : Nat, k ≤ 8 ∧ i = .int .i64 k ∧ s = .int .u64 ((shn k z).toNat : Int) ∧ wr = w) (fun i _ _ => 8 - (intOf i).toNat)
  case atStart => exact ⟨0, Nat.zero_le _, rfl, rfl, rfl⟩
  case round =>
    obtain ⟨k, hk, rfl, rfl, rfl⟩ := hrel
    by_cases hlt : k < 8
    · have hi1 : (k : Int) < 8 := by omega
      have hs := shn_succ k z
      obtain ⟨y, hy⟩ : ∃ y, shn k z = y := ⟨_, rfl⟩
      rw [hy] at hs ⊢
      have Hs := Lib.hid (And.intro hs hk)
      have hy0 : (0 : Int) ≤ (y.toNat : Int) := by omega
      have hdt : Int.tdiv (y.toNat : Int) 2 = (y.toNat : Int) / 2 := Int.tdiv_eq_ediv_of_nonneg (by omega)
      have hmt : Int.tmod (y.toNat : Int) 2 = (y.toNat : Int) % 2 := Int.tmod_eq_emod_of_nonneg (by omega)
      have hwr : IntKind.u64.wrap ((y.toNat : Int) / 2) = (y.toNat : Int) / 2 := by
        have := y.toNat_lt
        simp [IntKind.wrap, IntKind.bits, IntKind.signed]; omega
      clear hs hy hk
      by_cases ho : (y.toNat : Int) % 2 = 1
      · have e := q_odd y ho
        have hbx : bits .xor .u64 ((y.toNat : Int) / 2) 14514072000185962306 = ((sh1 y).toNat : Int) := e.symm
        have hsl := q_lt (sh1 y)
        clear e
        go_wp2
        clear hbx hsl
        go_roundw
        case rel => exact ⟨k + 1, by omega, by go_num, by rw [Hs.out.1], trivial⟩
        case measure => simp [intOf]; omega
      · have e := q_even y ho
        have He := Lib.hid e
        have ho0 : (y.toNat : Int) % 2 = 0 := by omega
        clear e ho
        go_wp2
        go_roundw
        case rel => exact ⟨k + 1, by omega, by go_num, by rw [Hs.out.1, He.out], trivial⟩
        case measure => simp [intOf]; omega
    · have e : k = 8 := by omega
      subst e
      have i3 : ¬ ((8 : Nat) : Int) < 8 := by omega
      clear hk hlt
      go_wp2
      go_ret
      exact ⟨by rw [Hfin.out]; rfl, rfl⟩

set_option maxRecDepth 100000 in
set_option maxHeartbeats 1600000 in
theorem radd_any (s : UInt64) (A : Option Addr) (c n : Nat) (xs : List UInt8) (w : World) (hA : Bs w A xs) (hn : xs.length = n) (hl : n ≤ maxLen) :
    Calls Try.prog 22 #[.int .u64 (s.toNat : Int), .slice A n c] w fun e w' => e = .returned (.int .u64 ((addC s xs).toNat : Int)) ∧ w' = w := by
  unfold maxLen at hl
  have Hn := Lib.hid (And.intro hn hl)
  have hsg : IntKind.u64.signed = false := rfl
  have hq : bits .xor .u64 IntKind.u64.max (s.toNat : Int) = ((~~~s).toNat : Int) := q_not s
  obtain ⟨t, ht⟩ : ∃ t, ~~~s = t := ⟨_, rfl⟩
  rw [ht] at hq
  have Ht := Lib.hid ht
  clear ht hn
  go_enter Try.func22, Try.ntmps22
  go_wp2
  clear hq
  go_loopw [6, 5] (fun i v wr => ∃ k : Nat, k ≤ n ∧ i = .int .i64 k ∧ v = .int .u64 ((runC t (xs.take k)).toNat : Int) ∧ wr = w) (fun i _ _ => n - (intOf i).toNat)
  case atStart => exact ⟨0, Nat.zero_le _, rfl, rfl, rfl⟩
  case round =>
    obtain ⟨k, hk, rfl, rfl, rfl⟩ := hrel
    by_cases hlt : k < n
    · have hkx : k < xs.length := by rw [Hn.out.1]; exact hlt
      obtain ⟨b, off, rfl, hb, hc⟩ := hA.at_ (i := k) hkx
      have g0 := hc k hkx
      have hr := runC_succ t xs k hkx
      obtain ⟨y, hy⟩ : ∃ y, runC t (xs.take k) = y := ⟨_, rfl⟩
      obtain ⟨c0, hc0⟩ : ∃ c0, xs[k] = c0 := ⟨_, rfl⟩
      rw [hy, hc0] at hr
      rw [hy]
      rw [hc0] at g0
      have hi0 : (0 : Int) ≤ k := by omega
      have hi1 : (k : Int) < n := by omega
      have Hr := Lib.hid (And.intro hr hk)
      have Hs1 := Lib.hid (rstep_any y c0 wr)
      clear hc hr hy hc0 hk
      go_wp2_with fail
      refine Hs1.out.mono ?_
      rintro e w' ⟨rfl, rfl⟩
      go_wp2_with fail
      go_roundw
      case rel => exact ⟨k + 1, by omega, by go_num, by rw [Hr.out.1], trivial⟩
      case measure => simp [intOf]; omega
    · have e : k = n := by omega
      subst e
      have ht : xs.take k = xs := List.take_of_length_le (by rw [Hn.out.1]; exact Nat.le_refl _)
      rw [ht]
      obtain ⟨y, hy⟩ : ∃ y, runC t xs = y := ⟨_, rfl⟩
      obtain ⟨z, hz1⟩ : ∃ z, ~~~y = z := ⟨_, rfl⟩
      have Hfin : Hid (addC s xs = z) := by show _ = _; unfold addC; rw [Ht.out, hy, hz1]
      have hq : bits .xor .u64 IntKind.u64.max (y.toNat : Int) = (z.toNat : Int) := by rw [← hz1]; exact q_not y
      rw [hy]
      have i2 : ¬ (k : Int) < (k : Int) := by omega
      clear hy hz1 ht hk hlt
      go_wp2
      go_ret
      exact ⟨by rw [Hfin.out]; rfl, rfl⟩

theorem rof_any (A : Option Addr) (c n : Nat) (xs : List UInt8) (w : World) (hA : Bs w A xs) (hn : xs.length = n) (hl : n ≤ maxLen) :
    Calls Try.prog 19 #[.slice A n c] w fun e w' => e = .returned (.int .u64 ((ofC xs).toNat : Int)) ∧ w' = w := by
  have Hadd := Lib.hid (radd_any 0 A c n xs w hA hn hl)
  clear hA hn hl
  go_enter Try.func19, Try.ntmps19
  go_wp2_with fail
  refine Hadd.out.mono ?_
  rintro e w' ⟨rfl, rfl⟩
  go_wp2_with fail
  go_ret
  exact ⟨rfl, rfl⟩
end Go.Proofs.Ytdfphefhabgjhaa
