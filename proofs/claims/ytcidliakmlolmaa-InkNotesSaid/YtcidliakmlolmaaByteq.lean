/-
  bytes.Equal over this seat's translation: whether two slices show the same bytes.
-/
import Derived.Test.YtcidliakmlolmaaApp
import Derived.Laws.BytesArg
namespace Go.Proofs.Ytcidliakmlolmaa
open Go.RowKit
set_option linter.unusedVariables false

def strOf (l : List UInt8) : ByteArray := ⟨l.toArray⟩
theorem strOf_eq (l m : List UInt8) : ((strOf l).toList == (strOf m).toList) = (l == m) := by
  rw [ByteArray.toList_eq, ByteArray.toList_eq]
  rfl
theorem back_bytes : ∀ l : List UInt8, (l.map fun b => (b.toNat : Int)).map (fun n => UInt8.ofNat n.toNat) = l
  | [] => rfl
  | x :: l => by rw [List.map_cons, List.map_cons, back_bytes l]; simp
theorem strOf_nums (l : List UInt8) : strOfNums (l.map fun b => (b.toNat : Int)) = strOf l := by
  unfold strOfNums strOf
  rw [back_bytes]

theorem conv_bytes (A : Option Addr) (c n : Nat) (l : List UInt8) (w : World) (h : Bs w A l) (hn : l.length = n) :
    (convert 32 9 (.slice A n c)).run Try.prog w = .ok (.string (strOf l)) w := by
  subst hn
  cases l with
  | nil =>
    rw [run_convert_bytes_string w 32 9 5 _ _ c Try.underlying32 Try.underlying5 Try.underlying9]
    cases A <;> simp [Conv.bytesToString, loadCells]
    all_goals rfl
  | cons x t =>
    obtain ⟨b, o, rfl, _, hc⟩ := h.at_ (i := 0) (by simp)
    have := run_convert_bytes_arg (P := Try.prog) w 32 5 Try.underlying32 Try.underlying5 b o (x :: t).length c ((x :: t).map fun b => (b.toNat : Int)) (by simp)
      (fun i hi => by rw [hc i hi]; congr 2; rw [List.getD_eq_getElem?_getD, List.getElem?_map, List.getElem?_eq_getElem hi]; rfl) 9 Try.underlying9
    rw [this, strOf_nums]

set_option maxHeartbeats 400000 in
theorem bequal_any (A A' : Option Addr) (c c' n m : Nat) (xs ys : List UInt8) (w : World) (hA : Bs w A xs) (hB : Bs w A' ys) (hn : xs.length = n) (hm : ys.length = m) :
    Calls Try.prog 27 #[.slice A n c, .slice A' m c'] w fun e w' => e = .returned (.bool (xs == ys)) ∧ w' = w := by
  have h1 := conv_bytes A c n xs w hA hn
  have h2 := conv_bytes A' c' m ys w hB hm
  have H := Lib.hid (strOf_eq xs ys)
  clear hA hB hn hm
  generalize strOf xs = s at *
  generalize strOf ys = t at *
  go_enter Try.func27, Try.ntmps27
  go_wp2
  go_ret
  exact ⟨congrArg (fun b => Ending.returned (.bool b)) H.out, rfl⟩
end Go.Proofs.Ytcidliakmlolmaa
