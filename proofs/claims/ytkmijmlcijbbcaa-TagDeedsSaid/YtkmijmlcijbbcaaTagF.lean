/-
  areNames, over the code.
-/
import Derived.Test.YtkmijmlcijbbcaaTagC
namespace Go.Proofs.Ytkmijmlcijbbcaa
open Go.RowKit Go.Maps
set_option linter.unusedVariables false

theorem Out.cell {S : Nat → Prop} {w w' : World} (ho : Out S w w') {b o : Nat} (hb : b < w.heap.size) (hn : ¬ S b) : w'.cell? ⟨b, o, none⟩ = w.cell? ⟨b, o, none⟩ := World.cell?_of_block (a := ⟨b, o, none⟩) (ho.block b hb hn)
theorem Led.off {w : World} {m : Nat} {T : List Tg} (h : Led w m T) {b o : Nat} {v : Value} (hc : w.cell? ⟨b, o, none⟩ = some v) : b ≠ m := by
  obtain ⟨D, ⟨es, clock, hm, _⟩, _⟩ := h
  rintro rfl
  unfold World.cell? at hc
  simp only at hc
  rw [hm] at hc
  cases hc

set_option maxRecDepth 100000 in
set_option maxHeartbeats 800000 in
theorem names_any (A : Option Addr) (n c : Nat) (rs : List Int) (w : World) (h : ArgI w A n c rs) : Calls Try.prog 25 #[.slice A n c] w fun e w' => e = .returned (.bool (allN rs)) ∧ w' = w := by
  obtain ⟨hn, hc, hcm, hI, _⟩ := h
  unfold maxLen at hcm
  have hnot : ∀ (x : Bool) (w : World), (Op.unary .not (.bool x)).run Try.prog w = .ok (.bool (!x)) w := fun _ _ => rfl
  by_cases h34 : n ≤ 34
  · have hd : decide ((34 : Int) < n) = false := by simp; omega
    have hi34 : (n : Int) ≤ 34 := by omega
    have H := Lib.hid (And.intro hn hI)
    have hall : allN rs = rs.all isN := by unfold allN; simp [hn, h34]
    rw [hall]
    clear hn hI hall
    go_enter Try.func25, Try.ntmps25
    go_wp2
    go_loopw [10] (fun v wr => ∃ j : Nat, j ≤ n ∧ v = .int .i64 j ∧ (∀ x ∈ rs.take j, isN x = true) ∧ wr = w) (fun v _ => n - (intOf v).toNat)
    case atStart => exact ⟨0, Nat.zero_le _, rfl, by simp, rfl⟩
    case round =>
      obtain ⟨j, hj, rfl, hall, rfl⟩ := hrel
      by_cases hlt : j < n
      · have hjl : j < rs.length := by rw [H.out.1]; exact hlt
        obtain ⟨b, off, rfl, hb, hcell⟩ := H.out.2.at_ hjl
        have hcj := hcell j hjl
        obtain ⟨x, hx⟩ : ∃ x, rs[j] = x := ⟨_, rfl⟩
        rw [hx] at hcj
        have hi0 : (0 : Int) ≤ j := by omega
        have hi1 : (j : Int) < n := by omega
        have Hx := Lib.hid (And.intro hx hall)
        clear hx hall hcell
        cases hN : isN x with
        | true =>
          have his := isn_any x wr
          rw [hN] at his
          have His := Lib.hid his
          clear his
          go_wp2_with (go_at_call 22; refine His.out.mono ?_; rintro e w' ⟨rfl, rfl⟩)
          go_roundw
          case rel =>
            refine ⟨j + 1, by omega, by go_num, ?_, trivial⟩
            rw [List.take_succ_eq_append_getElem hjl]
            intro z hz
            rcases List.mem_append.1 hz with hz | hz
            · exact Hx.out.2 z hz
            · simp at hz; rw [hz, Hx.out.1]; exact hN
          case measure => simp [intOf]; omega
        | false =>
          have his := isn_any x wr
          rw [hN] at his
          have His := Lib.hid his
          have hres : rs.all isN = false := by
            rw [List.all_eq_false]
            exact ⟨x, by rw [← Hx.out.1]; exact List.getElem_mem hjl, by rw [hN]; decide⟩
          have Hres := Lib.hid hres
          clear his hres
          go_wp2_with (go_at_call 22; refine His.out.mono ?_; rintro e w' ⟨rfl, rfl⟩)
          go_ret
          exact ⟨by rw [Hres.out]; rfl, rfl⟩
      · have hjn : j = n := by omega
        have hres : rs.all isN = true := by
          rw [List.all_eq_true]
          intro z hz
          rw [List.take_of_length_le (by rw [H.out.1]; omega)] at hall
          exact hall z hz
        have Hres := Lib.hid hres
        clear hall hres
        have hi1 : ¬ (j : Int) < n := by omega
        go_wp2
        go_ret
        exact ⟨by rw [Hres.out]; rfl, rfl⟩
  · have hd : decide ((34 : Int) < n) = true := by simp; omega
    have hi34 : ¬ (n : Int) ≤ 34 := by omega
    have hi35 : (34 : Int) < n := by omega
    have hall : allN rs = false := by unfold allN; simp [hn, h34]
    rw [hall]
    clear hall
    go_enter Try.func25, Try.ntmps25
    go_wp2
    go_ret
    exact ⟨rfl, rfl⟩
end Go.Proofs.Ytkmijmlcijbbcaa
