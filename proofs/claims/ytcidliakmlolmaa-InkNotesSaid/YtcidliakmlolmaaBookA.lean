/-
  New, Len, Asked, Clash of a book, over the code.
-/
import Derived.Test.YtcidliakmlolmaaBook
import Derived.Test.YtcidliakmlolmaaByteq
import Derived.Outline
import Derived.Laws.LoneSync
import Derived.Carry
namespace Go.Proofs.Ytcidliakmlolmaa
open Go.RowKit Go.Maps
set_option linter.unusedVariables false

def bcells (m : Nat) (many : Nat) (c : Bool) (n : Nat) : List Value := [.map (some m), .int .i64 (many : Int), .bool c, .int .i64 (n : Int)]
/-- A book in memory: the inputs in order, whether there is a clash, how often it was asked; 'S': its blocks. -/
def BookAt (w : World) (S : Nat → Prop) (g : Nat) (L : List (List UInt8)) (c : Bool) (n : Nat) : Prop :=
  ∃ m, Blk w g 45 (bcells m L.length c n) ∧ S g ∧ Store w S m L

theorem eqlSomeMap (bm : Nat) (w : World) : (binOp .eql 38 (.map (some bm)) (.map none)).run Try.prog w = .ok (.bool false) w := by kernel_rfl

set_option maxRecDepth 100000 in
theorem bnone_any (g m many n : Nat) (c : Bool) (w : World) (h : Blk w g 45 (bcells m many c n)) : Calls Try.prog 17 #[.pointer (some ⟨g, 0, none⟩)] w fun e w' => e = .returned (.bool false) ∧ w' = w := by
  have c0 : w.cell? ⟨g, 0, none⟩ = some (.map (some m)) := h.cell rfl
  clear h
  have heq := eqlSomeMap
  go_enter Try.func17, Try.ntmps17
  go_wp2
  go_ret
  exact ⟨rfl, rfl⟩

theorem blen_any (g m many n : Nat) (c : Bool) (w : World) (h : Blk w g 45 (bcells m many c n)) : Calls Try.prog 10 #[.pointer (some ⟨g, 0, none⟩)] w fun e w' => e = .returned (.int .i64 (many : Int)) ∧ w' = w := by
  have c1 : w.cell? ⟨g, 1, none⟩ = some (.int .i64 (many : Int)) := h.cell rfl
  have Hno := Lib.hid (bnone_any g m many n c w h)
  clear h
  go_enter Try.func10, Try.ntmps10
  go_wp2_with (go_at_call 17; refine Hno.out.mono ?_; rintro e w' ⟨rfl, rfl⟩)
  go_ret
  exact ⟨rfl, rfl⟩

set_option maxRecDepth 100000 in
theorem bload_any (g : Nat) (n : Int) (w : World) (h : w.cell? ⟨g, 3, none⟩ = some (.int .i64 n)) : Calls Try.prog 22 #[.pointer (some ⟨g, 3, none⟩)] w fun e w' => e = .returned (.int .i64 n) ∧ w' = w := by
  have hl := run_call_load (P := Try.prog) Try.func33 (by kernel_rfl) (by kernel_rfl) (by kernel_rfl) .i64 (by kernel_rfl) h
  go_enter Try.func22, Try.ntmps22
  go_wp2
  go_ret
  exact ⟨rfl, rfl⟩

set_option maxRecDepth 100000 in
theorem badd_any (g : Nat) (n : Nat) (hn : n < 1000000000) (w : World) (h : w.cell? ⟨g, 3, none⟩ = some (.int .i64 (n : Int))) (hz : w.frozen? ⟨g, 3, none⟩ = false) : Calls Try.prog 20 #[.pointer (some ⟨g, 3, none⟩), .int .i64 1] w fun e w' => e = .returned (.int .i64 ((n + 1 : Nat) : Int)) ∧ w' = w.setCell ⟨g, 3, none⟩ (.int .i64 ((n + 1 : Nat) : Int)) := by
  have hadd := run_call_add (P := Try.prog) Try.func29 (by kernel_rfl) (by kernel_rfl) (by kernel_rfl) .i64 (by kernel_rfl) (y := 1) (s := ((n + 1 : Nat) : Int)) h hz (by have := IntWalk.i64_in ((n : Int) + 1) (by omega); unfold Op.intArith; simp [this])
  go_enter Try.func20, Try.ntmps20
  go_wp2
  go_ret
  exact ⟨rfl, rfl⟩

theorem bclash_any (g m many n : Nat) (c : Bool) (w : World) (h : Blk w g 45 (bcells m many c n)) : Calls Try.prog 14 #[.pointer (some ⟨g, 0, none⟩)] w fun e w' => e = .returned (.bool c) ∧ w' = w := by
  have c1 : w.cell? ⟨g, 2, none⟩ = some (.bool c) := h.cell rfl
  have hnot : ∀ (x : Bool) (w : World), (Op.unary .not (.bool x)).run Try.prog w = .ok (.bool (!x)) w := fun _ _ => rfl
  have Hno := Lib.hid (bnone_any g m many n c w h)
  clear h
  go_enter Try.func14, Try.ntmps14
  go_wp2_with (go_at_call 17; refine Hno.out.mono ?_; rintro e w' ⟨rfl, rfl⟩)
  go_ret
  exact ⟨rfl, rfl⟩

theorem Store.more {S S' : Nat → Prop} {w : World} {m : Nat} {L : List (List UInt8)} (h : Store w S m L) (hS : ∀ i, S i → S' i) (hb : ∀ i, S' i → i < w.heap.size) : Store w S' m L := by
  obtain ⟨h1, h2, D, h3, h4⟩ := h
  refine ⟨hS m h1, hb, D, h3, fun d kl hd hkl => ?_⟩
  obtain ⟨v, e, hv⟩ := h4 d kl hd hkl
  exact ⟨v, e, hv.stay hS (fun _ _ _ _ => rfl) (fun _ _ _ _ _ => rfl)⟩

theorem bnew_any (w : World) : Calls Try.prog 4 #[] w fun e w' => ∃ S g, e = .returned (.pointer (some ⟨g, 0, none⟩)) ∧ (∀ i, S i → w.heap.size ≤ i) ∧ BookAt w' S g [] false 0 ∧ Below w.heap.size w w' := by
  have hmm := @run_makeMap Try.prog
  go_enter Try.func4, Try.ntmps4
  go_wp2
  go_ret
  have hst := new_store w
  have hs2 : Store ((w.alloc (.map #[] 0)).alloc (.cells (bcells w.heap.size 0 false 0).toArray 45)) (fun i => i = w.heap.size ∨ i = w.heap.size + 1) w.heap.size [] :=
    (Store.stay hst (by simp) fun i o hi ho _ => (heap_alloc_old _ _ (by have hi' : i = w.heap.size := hi; subst hi'; simp)).trans ho).more (fun i hi => .inl hi) fun i hi => by simp; omega
  have hblk : Blk ((w.alloc (.map #[] 0)).alloc (.cells (bcells w.heap.size 0 false 0).toArray 45)) (w.heap.size + 1) 45 (bcells w.heap.size 0 false 0) := Blk.new rfl (by simp)
  exact ⟨fun i => i = w.heap.size ∨ i = w.heap.size + 1, w.heap.size + 1, rfl, fun i hi => by omega, ⟨w.heap.size, hblk, .inr rfl, hs2⟩,
    ((Below.refl _ _).alloc (Nat.le_refl _) _).alloc (by simp) _⟩
end Go.Proofs.Ytcidliakmlolmaa
