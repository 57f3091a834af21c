/-
  A bit that is turned, as plain lists; a copy into a sector of noughts.
-/
import Derived.Test.YtmncfbkeepnaiaaStaysP
import Derived.Laws.CopyOwn
namespace Go.Proofs.Ytmncfbkeepnaiaa
open Go.RowKit
set_option linter.unusedVariables false

def tp1 (x : List UInt8) : Pl := ⟨[zero64, zero64, zero64], [none, some x, none], false, -1, []⟩
def tp2 (f : List UInt8) : Pl := ⟨[zero64, f, zero64], [none, none, none], false, -1, []⟩
def tp3 (f : List UInt8) : Pl := ⟨[zero64, f, zero64], [none, none, none], true, -1, []⟩
theorem tp_write (x : List UInt8) (hx : x.length = 64) : (writeP (newP 3) 1 x).1 = 0 ∧ (writeP (newP 3) 1 x).2 = tp1 x := by
  unfold writeP
  have hl : lackE (newP 3) 1 = 0 := rfl
  rw [if_neg (by rw [hl]; decide), if_neg (by rw [hx]; decide), if_neg (by decide)]
  exact ⟨rfl, rfl⟩
theorem tp_turn (x : List UInt8) (k : Nat) (hk : k < 512) : (turnP (tp1 x) 1 k).1 = 0 ∧ (turnP (tp1 x) 1 k).2 = tp2 (flipB x k) := by
  unfold turnP
  have hl : lackE (tp1 x) 1 = 0 := rfl
  rw [if_neg (by rw [hl]; decide), if_pos ⟨by omega, by omega⟩]
  refine ⟨rfl, ?_⟩
  rw [Int.toNat_natCast]
  rfl
theorem tp_waits (f : List UInt8) : zs (tp2 f).wt = [] := zs_nones 3
theorem tp_crash (f : List UInt8) : (crashP (tp2 f) []).1 = 0 ∧ (crashP (tp2 f) []).2 = tp3 f := by
  refine ⟨rfl, ?_⟩
  show power (tp2 f) [] = tp3 f
  unfold power
  have e : mixA (keepF []) (tp2 f).st (tp2 f).wt = (tp2 f).st := mixA_none _ _ _ (fun i x h => by
    have : (tp2 f).wt = [none, none, none] := rfl
    rw [this] at h
    match i with
    | 0 => cases h
    | 1 => cases h
    | 2 => cases h
    | i + 3 => simp at h)
  rw [e]
  rfl
theorem tp_boot (f : List UInt8) : bootP (tp3 f) = tp2 f := rfl
theorem tp_read (f : List UInt8) : readP (tp2 f) 1 = (0, f) := rfl
theorem tp_has0 (f : List UInt8) : hasB (tp2 f) 0 0 = true := hasB_of (show readP (tp2 f) 0 = (0, fb 0) from rfl)
theorem tp_has2 (f : List UInt8) : hasB (tp2 f) 2 0 = true := hasB_of (show readP (tp2 f) 2 = (0, fb 0) from rfl)

/-- Blocks beside the plate's turn, while it keeps no list. -/
theorem Pk.outK {w0 w w' : World} {M S : Nat → Prop} {g r m : Nat} {P : Pl} (h : Pk w0 w M g r m P) (hk : P.kp = []) (hO : Out S w w') (hS : ∀ i, S i → w0.heap.size ≤ i) (hg : ¬ S g) (hr : ¬ S r) (hm : ¬ S m) : Pk w0 w' M g r m P := by
  obtain ⟨kv, q1, A, c, e, a1, a2, a3⟩ := h.1.blk
  refine ⟨⟨h.1.wl, ⟨kv, hO.blk q1 hg, A, c, e, a1, a2, fun hp => by rw [hk] at hp; simp at hp⟩, hO.blk h.1.row hr, h.1.map.stay (hO.block m h.1.map.lt hm), h.1.mg, h.1.mr, h.1.mm, fun i hi => Nat.lt_of_lt_of_le (h.1.lt i hi) hO.size⟩, h.2.1, h.2.2.trans (hO.above hS h.2.2.size)⟩
/-- Noughts, the first ones of which are b's bytes. -/
def over64 (b : List UInt8) : List UInt8 := b.take 64 ++ List.replicate (64 - b.length) 0
theorem over64_len (b : List UInt8) : (over64 b).length = 64 := by
  unfold over64
  rw [List.length_append, List.length_take, List.length_replicate]
  omega
theorem over64_cells (b : List UInt8) : splice (cbs (List.replicate 64 0)) 0 (cbs (b.take 64)) = cbs (over64 b) := by
  unfold splice over64
  rw [List.take_zero, List.nil_append, cbs_append, Nat.zero_add, cbs_length, List.length_take]
  congr 1
  rw [← cbs_drop, List.drop_replicate]
  congr 2
  omega
theorem info1_ : (Try.prog.info? 5).map (·.size) = some 1 := by kernel_rfl
/-- 'copy(x, b)' into a sector of noughts, at the operation. -/
theorem wp_copyX {w w0 : World} {ops : Array Oper} {rest : List Oper} {o : Oper} {a : Act} {Q : Exit → Act → World → Prop} (hgd : o.guard = none) (x y : Operand)
    (ho : o.op = .call { callee := .builtin .copy, args := #[x, y], argTypes := #[30, 30] }) (gx : Nat) (A : Option Addr) (n c : Nat) (d : List UInt8)
    (hx : a.eval x = .slice (some ⟨gx, 0, none⟩) 64 64) (hy : a.eval y = .slice A n c) (hB : Blk w gx 5 (cbs (List.replicate 64 0))) (hd : ArgB w0 A n c d) (hb : Below w0.heap.size w0 w)
    (h : ∀ w', Blk w' gx 5 (cbs (over64 d)) → Below gx w w' → ∀ k, wpList Try.prog ops Q rest (a.put o.dst (goInt k)) w') : wpList Try.prog ops Q (o :: rest) a w := by
  have hcs : (cbs (d.take 64)).length = Nat.min n 64 := by rw [cbs_length, List.length_take, hd.1]; exact Nat.min_comm _ _
  refine wpList_copy_splice hgd x y 30 30 ho 5 Try.underlying30 info1_ (some ⟨gx, 0, none⟩) A 64 64 n c hx hy gx 0 (cbs (List.replicate 64 0)) 5 hB (cbs (d.take 64)) hcs (fun hpos => ⟨rfl, ?_⟩)
    (by rw [cbs_length, cbs_length, List.length_take, List.length_replicate]; omega) (cbs_one _) gx w (Below.refl _ _) (Nat.le_refl _) (fun w' hg hb' => h w' ?_ hb' _)
  · have hbl : 0 < d.length := by rw [cbs_length, List.length_take] at hpos; omega
    obtain ⟨bb, off, eA, hlt, hc⟩ := hd.2.2.2.2 hbl
    refine ⟨_, eA, fun j v hv => ?_⟩
    rw [add_mk, hb.cell (p := ⟨bb, off + j, none⟩) hlt]
    refine hc j v ?_
    rw [cbs_take, List.getElem?_take] at hv
    split at hv
    · exact hv
    · cases hv
  · have := hg.out
    rw [over64_cells] at this
    exact this
end Go.Proofs.Ytmncfbkeepnaiaa
