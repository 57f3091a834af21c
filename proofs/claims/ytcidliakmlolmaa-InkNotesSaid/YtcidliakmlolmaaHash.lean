/-
  A hash in memory, and its constants made at the first block.
-/
import Derived.Test.YtcidliakmlolmaaOnce
import Derived.Test.YtcidliakmlolmaaRoundS
import Derived.Test.YtcidliakmlolmaaCubes
import Derived.Test.YtcidliakmlolmaaDig2
namespace Go.Proofs.Ytcidliakmlolmaa
open Go.RowKit
set_option linter.unusedVariables false

/-- Only block g of the old ones is not as it was. -/
def But (g : Nat) (w w' : World) : Prop := w.grownBy w' (some g)
theorem But.refl (g : Nat) (w : World) : But g w w := World.grownBy.refl _ _
theorem But.trans {g : Nat} {a b c : World} (h : But g a b) (k : But g b c) : But g a c :=
  ⟨k.os.trans h.os, k.tape.trans h.tape, k.output.trans h.output, Nat.le_trans h.size k.size, fun i hi hne => (k.block i (Nat.lt_of_lt_of_le hi h.size) hne).trans (h.block i hi hne)⟩
theorem But.ofBelow {g : Nat} {w w' : World} (h : Below w.heap.size w w') : But g w w' := ⟨h.os, h.tape, h.output, h.size, fun i hi _ => h.block i hi⟩
theorem But.then_below {g : Nat} {a w w' : World} (h : But g a w) (k : Below w.heap.size w w') : But g a w' := h.trans (But.ofBelow k)
theorem But.setCell {g : Nat} {a w : World} (h : But g a w) {p : Addr} (hp : p.block = g ∨ a.heap.size ≤ p.block) (u : Value) : But g a (w.setCell p u) := by
  refine ⟨h.os, h.tape, h.output, by simpa [World.setCell] using h.size, fun i hi hne => ?_⟩
  refine (Below.heap_setCell w p u i ?_).trans (h.block i hi hne)
  rintro rfl
  rcases hp with hp | hp
  · exact hne (by rw [hp])
  · omega
theorem But.setCells {g b : Nat} {a : World} (hp : b = g ∨ a.heap.size ≤ b) (vs : List Value) : ∀ {w : World} {o : Nat}, But g a w → But g a (w.setCells b o vs) := by
  induction vs with
  | nil => intro w o h; exact h
  | cons v vs ih => intro w o h; rw [World.setCells]; exact ih (h.setCell (p := ⟨b, o, none⟩) hp v)
theorem But.drew {g : Nat} {a w : World} (h : But g a w) : But g a w.drew := ⟨h.os, h.tape, h.output, h.size, h.block⟩
theorem But.drewN {g : Nat} {a w : World} (h : But g a w) (n : Nat) : But g a (w.drewN n) := ⟨h.os, h.tape, h.output, h.size, h.block⟩
theorem But.blk {g k : Nat} {w w' : World} {t : TypeId} {cs : List Value} (h : But g w w') (hb : Blk w k t cs) (hne : k ≠ g) : Blk w' k t cs :=
  (h.block k hb.lt (fun e => hne (Option.some.inj e))).trans hb
theorem But.cell {g : Nat} {w w' : World} (h : But g w w') {a : Addr} {v : Value} (hc : w.cell? a = some v) (hne : a.block ≠ g) : w'.cell? a = some v :=
  World.grownBy.cell h hc (fun e => hne (Option.some.inj e))
theorem But.above {g B : Nat} {w w' : World} (h : But g w w') (hg : B ≤ g) (hB : B ≤ w.heap.size) : Below B w w' :=
  (Below.refl B w).grown h hB (fun k e => by cases e; exact hg)

/-! ### The cells of a hash -/
def hcells (s : S8) (rest : List UInt8) (n : Nat) (d m : Int) (ks : List Value) : List Value :=
  .bool true :: (l8 s ++ (cbs rest ++ (.int .i64 (n : Int) :: .int .u32 d :: .int .i32 m :: .int .u32 0 :: ks)))
theorem l8_len (s : S8) : (l8 s).length = 8 := rfl
section
variable {s : S8} {rest : List UInt8} {n : Nat} {d m : Int} {ks : List Value}
theorem hc_len (hr : rest.length = 64) (hk : ks.length = 64) : (hcells s rest n d m ks).length = 141 := by
  unfold hcells
  simp only [List.length_cons, List.length_append, l8_len, cbs_length, hr, hk]
theorem hc_made : (hcells s rest n d m ks)[0]? = some (.bool true) := rfl
theorem hc_state {j : Nat} {v : Value} (h : (l8 s)[j]? = some v) : (hcells s rest n d m ks)[1 + j]? = some v := by
  unfold hcells
  rw [Nat.add_comm, List.getElem?_cons_succ, List.getElem?_append_left]
  · exact h
  · rcases Nat.lt_or_ge j (l8 s).length with h1 | h1
    · exact h1
    · rw [List.getElem?_eq_none h1] at h; cases h
theorem hc_rest {j : Nat} {v : Value} (h : (cbs rest)[j]? = some v) : (hcells s rest n d m ks)[9 + j]? = some v := by
  unfold hcells
  rw [show 9 + j = (8 + j) + 1 from by omega, List.getElem?_cons_succ, List.getElem?_append_right (by rw [l8_len]; omega), l8_len, Nat.add_sub_cancel_left, List.getElem?_append_left]
  · exact h
  · rcases Nat.lt_or_ge j (cbs rest).length with h1 | h1
    · exact h1
    · rw [List.getElem?_eq_none h1] at h; cases h
theorem hc_tail (hr : rest.length = 64) (j : Nat) : (hcells s rest n d m ks)[73 + j]? = (Value.int .i64 (n : Int) :: .int .u32 d :: .int .i32 m :: .int .u32 0 :: ks)[j]? := by
  unfold hcells
  rw [show 73 + j = (72 + j) + 1 from by omega, List.getElem?_cons_succ, List.getElem?_append_right (by rw [l8_len]; omega), l8_len, List.getElem?_append_right (by rw [cbs_length, hr]; omega), cbs_length, hr]
  congr 1; omega
theorem hc_size (hr : rest.length = 64) : (hcells s rest n d m ks)[73]? = some (.int .i64 (n : Int)) := hc_tail hr 0
theorem hc_done (hr : rest.length = 64) : (hcells s rest n d m ks)[74]? = some (.int .u32 d) := hc_tail hr 1
theorem hc_lock (hr : rest.length = 64) : (hcells s rest n d m ks)[75]? = some (.int .i32 m) := hc_tail hr 2
theorem hc_ks (hr : rest.length = 64) {j : Nat} {v : Value} (h : ks[j]? = some v) : (hcells s rest n d m ks)[77 + j]? = some v := by
  have := hc_tail (s := s) (n := n) (d := d) (m := m) (ks := ks) hr (4 + j)
  rw [show 73 + (4 + j) = 77 + j from by omega] at this
  rw [this, show 4 + j = j + 1 + 1 + 1 + 1 from by omega, List.getElem?_cons_succ, List.getElem?_cons_succ, List.getElem?_cons_succ, List.getElem?_cons_succ]
  exact h
theorem set_mid (a b : List Value) (x y : Value) : (a ++ x :: b).set a.length y = a ++ y :: b := by
  rw [List.set_append_right _ _ (Nat.le_refl _), Nat.sub_self]; rfl
theorem hc_parts : hcells s rest n d m ks = ((Value.bool true :: l8 s) ++ cbs rest) ++ (.int .i64 (n : Int) :: .int .u32 d :: .int .i32 m :: .int .u32 0 :: ks) := by
  unfold hcells; simp
theorem pre_len (hr : rest.length = 64) : ((Value.bool true :: l8 s) ++ cbs rest).length = 73 := by
  simp only [List.length_append, List.length_cons, l8_len, cbs_length, hr]
theorem hc_set_size (hr : rest.length = 64) (n' : Nat) : (hcells s rest n d m ks).set 73 (.int .i64 (n' : Int)) = hcells s rest n' d m ks := by
  rw [hc_parts, hc_parts]
  have := set_mid ((Value.bool true :: l8 s) ++ cbs rest) (.int .u32 d :: .int .i32 m :: .int .u32 0 :: ks) (.int .i64 (n : Int)) (.int .i64 (n' : Int))
  rwa [pre_len hr] at this
theorem hc_set_done (hr : rest.length = 64) (d' : Int) : (hcells s rest n d m ks).set 74 (.int .u32 d') = hcells s rest n d' m ks := by
  rw [hc_parts, hc_parts]
  have := set_mid (((Value.bool true :: l8 s) ++ cbs rest) ++ [.int .i64 (n : Int)]) (.int .i32 m :: .int .u32 0 :: ks) (.int .u32 d) (.int .u32 d')
  rw [List.length_append, pre_len hr] at this
  simpa using this
theorem hc_set_lock (hr : rest.length = 64) (m' : Int) : (hcells s rest n d m ks).set 75 (.int .i32 m') = hcells s rest n d m' ks := by
  rw [hc_parts, hc_parts]
  have := set_mid (((Value.bool true :: l8 s) ++ cbs rest) ++ [.int .i64 (n : Int), .int .u32 d]) (.int .u32 0 :: ks) (.int .i32 m) (.int .i32 m')
  rw [List.length_append, pre_len hr] at this
  simpa using this
theorem hc_put_ks (hr : rest.length = 64) (hk : ks.length = 64) (ks' : List Value) (hk' : ks'.length = 64) :
    (hcells s rest n d m ks).take 77 ++ ks' ++ (hcells s rest n d m ks).drop (77 + ks'.length) = hcells s rest n d m ks' := by
  have hp : hcells s rest n d m ks = (((Value.bool true :: l8 s) ++ cbs rest) ++ [.int .i64 (n : Int), .int .u32 d, .int .i32 m, .int .u32 0]) ++ ks := by rw [hc_parts]; simp
  have hl : (((Value.bool true :: l8 s) ++ cbs rest) ++ [Value.int .i64 (n : Int), Value.int .u32 d, Value.int .i32 m, Value.int .u32 0]).length = 77 := by rw [List.length_append, pre_len hr]; rfl
  rw [hp, List.take_left' hl, List.drop_eq_nil_of_le (by rw [List.length_append, hl]; omega), List.append_nil]
  rw [hc_parts]; simp
theorem hc_put_state (s' : S8) : (hcells s rest n d m ks).take 1 ++ l8 s' ++ (hcells s rest n d m ks).drop (1 + (l8 s').length) = hcells s' rest n d m ks := by
  unfold hcells
  rfl
theorem hc_put_rest (hr : rest.length = 64) (r : Nat) (c : List UInt8) (h : r + c.length ≤ 64) :
    (hcells s rest n d m ks).take (9 + r) ++ cbs c ++ (hcells s rest n d m ks).drop (9 + r + (cbs c).length) = hcells s (rest.take r ++ c ++ rest.drop (r + c.length)) n d m ks := by
  have h9 : (Value.bool true :: l8 s).length = 9 := rfl
  have hp : hcells s rest n d m ks = (Value.bool true :: l8 s) ++ (cbs rest ++ (.int .i64 (n : Int) :: .int .u32 d :: .int .i32 m :: .int .u32 0 :: ks)) := by unfold hcells; simp
  have hp' : hcells s (rest.take r ++ c ++ rest.drop (r + c.length)) n d m ks = (Value.bool true :: l8 s) ++ (cbs (rest.take r ++ c ++ rest.drop (r + c.length)) ++ (.int .i64 (n : Int) :: .int .u32 d :: .int .i32 m :: .int .u32 0 :: ks)) := by unfold hcells; simp
  rw [hp', hp, cbs_length]
  generalize (Value.int .i64 (n : Int) :: .int .u32 d :: .int .i32 m :: .int .u32 0 :: ks) = z
  generalize (Value.bool true :: l8 s) = y at *
  have e1 : (y ++ (cbs rest ++ z)).take (9 + r) = y ++ cbs (rest.take r) := by
    rw [← h9, List.take_append, Nat.add_sub_cancel_left, List.take_of_length_le (by omega), List.take_append_of_le_length (by rw [cbs_length, hr]; omega), cbs_take]
  have e2 : (y ++ (cbs rest ++ z)).drop (9 + r + c.length) = cbs (rest.drop (r + c.length)) ++ z := by
    rw [← h9, List.drop_append, List.drop_eq_nil_of_le (by omega), List.nil_append, show y.length + r + c.length - y.length = r + c.length from by omega, List.drop_append_of_le_length (by rw [cbs_length, hr]; omega), cbs_drop]
  rw [e1, e2]
  simp [cbs_append]
end
end Go.Proofs.Ytcidliakmlolmaa
