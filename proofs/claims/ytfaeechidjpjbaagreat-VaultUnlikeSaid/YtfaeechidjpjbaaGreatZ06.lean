/-
  Laid together for a hand-in: Hash, Take2, Written2, Tail.
-/
import Derived.Test.YtfaeechidjpjbaaGreatZ04
import Derived.Test.YtfaeechidjpjbaaGreatZ05
import Derived.StillTailTactics
import Derived.Deep.RegionHeld3
import Derived.Outline

namespace Go.Proofs.YtfaeechidjpjbaaGreat

open Go.RowKit

set_option linter.unusedVariables false

/-- Only block g of the old ones is not as it was. -/
def But (g : Nat) (w w' : World) : Prop := w.grownBy w' (some g)

theorem But.refl (g : Nat) (w : World) : But g w w := World.grownBy.refl _ _

theorem But.trans {g : Nat} {a b c : World} (h : But g a b) (k : But g b c) : But g a c :=
  ⟨k.os.trans h.os, k.tape.trans h.tape, k.output.trans h.output, Nat.le_trans h.size k.size, fun i hi hne => (k.block i (Nat.lt_of_lt_of_le hi h.size) hne).trans (h.block i hi hne)⟩

theorem But.ofBelow {g : Nat} {w w' : World} (h : Below w.heap.size w w') : But g w w' := ⟨h.os, h.tape, h.output, h.size, fun i hi _ => h.block i hi⟩

theorem But.then_below {g : Nat} {a w w' : World} (h : But g a w) (k : Below w.heap.size w w') : But g a w' := h.trans (But.ofBelow k)

theorem But.setCell {g : Nat} {a w : World} (h : But g a w) {p : Addr} (hp : p.block = g ∨ a.heap.size ≤ p.block) (u : Value) : But g a (w.setCell p u) := by
  refine ⟨h.os, h.tape, h.output, by simpa [World.setCell] using h.size, fun i hi hne => ?_⟩
  refine (Below.heap_setCell w p u i ?_).trans (h.block i hi hne)
  rintro rfl
  rcases hp with hp | hp
  · exact hne (by rw [hp])
  · omega

theorem But.setCells {g b : Nat} {a : World} (hp : b = g ∨ a.heap.size ≤ b) (vs : List Value) : ∀ {w : World} {o : Nat}, But g a w → But g a (w.setCells b o vs) := by
  induction vs with
  | nil => intro w o h; exact h
  | cons v vs ih => intro w o h; rw [World.setCells]; exact ih (h.setCell (p := ⟨b, o, none⟩) hp v)

theorem But.drew {g : Nat} {a w : World} (h : But g a w) : But g a w.drew := ⟨h.os, h.tape, h.output, h.size, h.block⟩

theorem But.drewN {g : Nat} {a w : World} (h : But g a w) (n : Nat) : But g a (w.drewN n) := ⟨h.os, h.tape, h.output, h.size, h.block⟩

theorem But.blk {g k : Nat} {w w' : World} {t : TypeId} {cs : List Value} (h : But g w w') (hb : Blk w k t cs) (hne : k ≠ g) : Blk w' k t cs :=
  (h.block k hb.lt (fun e => hne (Option.some.inj e))).trans hb

theorem But.cell {g : Nat} {w w' : World} (h : But g w w') {a : Addr} {v : Value} (hc : w.cell? a = some v) (hne : a.block ≠ g) : w'.cell? a = some v :=
  World.grownBy.cell h hc (fun e => hne (Option.some.inj e))

theorem But.above {g B : Nat} {w w' : World} (h : But g w w') (hg : B ≤ g) (hB : B ≤ w.heap.size) : Below B w w' :=
  (Below.refl B w).grown h hB (fun k e => by cases e; exact hg)

/-! ### The cells of a hash -/

def hcells (s : S8) (rest : List UInt8) (n : Nat) (d m : Int) (ks : List Value) : List Value :=
  .bool true :: (l8 s ++ (cbs rest ++ (.int .i64 (n : Int) :: .int .u32 d :: .int .i32 m :: .int .u32 0 :: ks)))

theorem l8_len (s : S8) : (l8 s).length = 8 := rfl

section

variable {s : S8} {rest : List UInt8} {n : Nat} {d m : Int} {ks : List Value}

theorem hc_len (hr : rest.length = 64) (hk : ks.length = 64) : (hcells s rest n d m ks).length = 141 := by
  unfold hcells
  simp only [List.length_cons, List.length_append, l8_len, cbs_length, hr, hk]

theorem hc_made : (hcells s rest n d m ks)[0]? = some (.bool true) := rfl

theorem hc_state {j : Nat} {v : Value} (h : (l8 s)[j]? = some v) : (hcells s rest n d m ks)[1 + j]? = some v := by
  unfold hcells
  rw [Nat.add_comm, List.getElem?_cons_succ, List.getElem?_append_left]
  · exact h
  · rcases Nat.lt_or_ge j (l8 s).length with h1 | h1
    · exact h1
    · rw [List.getElem?_eq_none h1] at h; cases h

theorem hc_rest {j : Nat} {v : Value} (h : (cbs rest)[j]? = some v) : (hcells s rest n d m ks)[9 + j]? = some v := by
  unfold hcells
  rw [show 9 + j = (8 + j) + 1 from by omega, List.getElem?_cons_succ, List.getElem?_append_right (by rw [l8_len]; omega), l8_len, Nat.add_sub_cancel_left, List.getElem?_append_left]
  · exact h
  · rcases Nat.lt_or_ge j (cbs rest).length with h1 | h1
    · exact h1
    · rw [List.getElem?_eq_none h1] at h; cases h

theorem hc_tail (hr : rest.length = 64) (j : Nat) : (hcells s rest n d m ks)[73 + j]? = (Value.int .i64 (n : Int) :: .int .u32 d :: .int .i32 m :: .int .u32 0 :: ks)[j]? := by
  unfold hcells
  rw [show 73 + j = (72 + j) + 1 from by omega, List.getElem?_cons_succ, List.getElem?_append_right (by rw [l8_len]; omega), l8_len, List.getElem?_append_right (by rw [cbs_length, hr]; omega), cbs_length, hr]
  congr 1; omega

theorem hc_size (hr : rest.length = 64) : (hcells s rest n d m ks)[73]? = some (.int .i64 (n : Int)) := hc_tail hr 0

theorem hc_done (hr : rest.length = 64) : (hcells s rest n d m ks)[74]? = some (.int .u32 d) := hc_tail hr 1

theorem hc_lock (hr : rest.length = 64) : (hcells s rest n d m ks)[75]? = some (.int .i32 m) := hc_tail hr 2

theorem hc_ks (hr : rest.length = 64) {j : Nat} {v : Value} (h : ks[j]? = some v) : (hcells s rest n d m ks)[77 + j]? = some v := by
  have := hc_tail (s := s) (n := n) (d := d) (m := m) (ks := ks) hr (4 + j)
  rw [show 73 + (4 + j) = 77 + j from by omega] at this
  rw [this, show 4 + j = j + 1 + 1 + 1 + 1 from by omega, List.getElem?_cons_succ, List.getElem?_cons_succ, List.getElem?_cons_succ, List.getElem?_cons_succ]
  exact h

theorem set_mid (a b : List Value) (x y : Value) : (a ++ x :: b).set a.length y = a ++ y :: b := by
  rw [List.set_append_right _ _ (Nat.le_refl _), Nat.sub_self]; rfl

theorem hc_parts : hcells s rest n d m ks = ((Value.bool true :: l8 s) ++ cbs rest) ++ (.int .i64 (n : Int) :: .int .u32 d :: .int .i32 m :: .int .u32 0 :: ks) := by
  unfold hcells; simp

theorem pre_len (hr : rest.length = 64) : ((Value.bool true :: l8 s) ++ cbs rest).length = 73 := by
  simp only [List.length_append, List.length_cons, l8_len, cbs_length, hr]

theorem hc_set_size (hr : rest.length = 64) (n' : Nat) : (hcells s rest n d m ks).set 73 (.int .i64 (n' : Int)) = hcells s rest n' d m ks := by
  rw [hc_parts, hc_parts]
  have := set_mid ((Value.bool true :: l8 s) ++ cbs rest) (.int .u32 d :: .int .i32 m :: .int .u32 0 :: ks) (.int .i64 (n : Int)) (.int .i64 (n' : Int))
  rwa [pre_len hr] at this

theorem hc_set_done (hr : rest.length = 64) (d' : Int) : (hcells s rest n d m ks).set 74 (.int .u32 d') = hcells s rest n d' m ks := by
  rw [hc_parts, hc_parts]
  have := set_mid (((Value.bool true :: l8 s) ++ cbs rest) ++ [.int .i64 (n : Int)]) (.int .i32 m :: .int .u32 0 :: ks) (.int .u32 d) (.int .u32 d')
  rw [List.length_append, pre_len hr] at this
  simpa using this

theorem hc_set_lock (hr : rest.length = 64) (m' : Int) : (hcells s rest n d m ks).set 75 (.int .i32 m') = hcells s rest n d m' ks := by
  rw [hc_parts, hc_parts]
  have := set_mid (((Value.bool true :: l8 s) ++ cbs rest) ++ [.int .i64 (n : Int), .int .u32 d]) (.int .u32 0 :: ks) (.int .i32 m) (.int .i32 m')
  rw [List.length_append, pre_len hr] at this
  simpa using this

theorem hc_put_ks (hr : rest.length = 64) (hk : ks.length = 64) (ks' : List Value) (hk' : ks'.length = 64) :
    (hcells s rest n d m ks).take 77 ++ ks' ++ (hcells s rest n d m ks).drop (77 + ks'.length) = hcells s rest n d m ks' := by
  have hp : hcells s rest n d m ks = (((Value.bool true :: l8 s) ++ cbs rest) ++ [.int .i64 (n : Int), .int .u32 d, .int .i32 m, .int .u32 0]) ++ ks := by rw [hc_parts]; simp
  have hl : (((Value.bool true :: l8 s) ++ cbs rest) ++ [Value.int .i64 (n : Int), Value.int .u32 d, Value.int .i32 m, Value.int .u32 0]).length = 77 := by rw [List.length_append, pre_len hr]; rfl
  rw [hp, List.take_left' hl, List.drop_eq_nil_of_le (by rw [List.length_append, hl]; omega), List.append_nil]
  rw [hc_parts]; simp

theorem hc_put_state (s' : S8) : (hcells s rest n d m ks).take 1 ++ l8 s' ++ (hcells s rest n d m ks).drop (1 + (l8 s').length) = hcells s' rest n d m ks := by
  unfold hcells
  rfl

theorem hc_put_rest (hr : rest.length = 64) (r : Nat) (c : List UInt8) (h : r + c.length ≤ 64) :
    (hcells s rest n d m ks).take (9 + r) ++ cbs c ++ (hcells s rest n d m ks).drop (9 + r + (cbs c).length) = hcells s (rest.take r ++ c ++ rest.drop (r + c.length)) n d m ks := by
  have h9 : (Value.bool true :: l8 s).length = 9 := rfl
  have hp : hcells s rest n d m ks = (Value.bool true :: l8 s) ++ (cbs rest ++ (.int .i64 (n : Int) :: .int .u32 d :: .int .i32 m :: .int .u32 0 :: ks)) := by unfold hcells; simp
  have hp' : hcells s (rest.take r ++ c ++ rest.drop (r + c.length)) n d m ks = (Value.bool true :: l8 s) ++ (cbs (rest.take r ++ c ++ rest.drop (r + c.length)) ++ (.int .i64 (n : Int) :: .int .u32 d :: .int .i32 m :: .int .u32 0 :: ks)) := by unfold hcells; simp
  rw [hp', hp, cbs_length]
  generalize (Value.int .i64 (n : Int) :: .int .u32 d :: .int .i32 m :: .int .u32 0 :: ks) = z
  generalize (Value.bool true :: l8 s) = y at *
  have e1 : (y ++ (cbs rest ++ z)).take (9 + r) = y ++ cbs (rest.take r) := by
    rw [← h9, List.take_append, Nat.add_sub_cancel_left, List.take_of_length_le (by omega), List.take_append_of_le_length (by rw [cbs_length, hr]; omega), cbs_take]
  have e2 : (y ++ (cbs rest ++ z)).drop (9 + r + c.length) = cbs (rest.drop (r + c.length)) ++ z := by
    rw [← h9, List.drop_append, List.drop_eq_nil_of_le (by omega), List.nil_append, show y.length + r + c.length - y.length = r + c.length from by omega, List.drop_append_of_le_length (by rw [cbs_length, hr]; omega), cbs_drop]
  rw [e1, e2]
  simp [cbs_append]

end

end Go.Proofs.YtfaeechidjpjbaaGreat

namespace Go.Proofs.YtfaeechidjpjbaaGreat

open Go.RowKit

set_option linter.unusedVariables false

theorem there_blk {w w' : World} {b o n : Nat} (h : w.there b o n) (hb : w'.heap[b]? = w.heap[b]?) : w'.there b o n := fun j hj => by
  obtain ⟨h1, h2⟩ := h j hj
  exact ⟨by rw [← h1]; exact congrArg _ (World.cell?_of_block (w := w) (w' := w') (a := ⟨b, o + j, none⟩) hb), by rw [← h2]; exact World.frozen?_of_block (w := w) (w' := w') (a := ⟨b, o + j, none⟩) hb⟩

theorem cell_setCells_far {a : Addr} {b : Nat} (vs : List Value) : ∀ {w : World} {o : Nat}, a.block ≠ b → (w.setCells b o vs).cell? a = w.cell? a := fun h => World.cell?_setCells_out b vs _ _ a (fun e => absurd e h)

theorem Blk.thereAt {w : World} {g : Nat} {t : TypeId} {cs : List Value} (h : Blk w g t cs) {o n : Nat} (hn : o + n ≤ cs.length) : w.there g o n := by
  intro j hj
  exact ⟨by rw [h.cell (List.getElem?_eq_getElem (show o + j < cs.length by omega))]; rfl, h.free _⟩

set_option maxRecDepth 100000 in
set_option maxHeartbeats 1600000 in
/-- The function that 'once' calls: K is laid into the hash. -/
theorem clo_any (g : Nat) (pl : Addr) (s : S8) (rest : List UInt8) (n : Nat) (ks : List Value) (W : World) (hpl : W.cell? pl = some (.pointer (some ⟨g, 0, none⟩))) (hne : pl.block ≠ g)
    (hr : rest.length = 64) (hk : ks.length = 64) (h : Blk W g 203 (hcells s rest n 0 1 ks)) :
    Calls Tryz.prog 179 #[.pointer (some pl)] W fun e w2 => e = .returned (.tuple #[]) ∧ (Blk w2 g 203 (hcells s rest n 0 1 (cws KK)) ∧ But g W w2) := by
  have hplt : pl.block < W.heap.size := World.block_lt_of_cell? W _ hpl
  have hgl := h.lt
  have hth : W.there g 77 64 := h.thereAt (by rw [hc_len hr hk]; decide)
  have hu := Tryz.underlying195
  have hi : (Tryz.prog.info? 195).map (·.size) = some (cws KK).length := by rw [cws_length, KK_len]; exact info64w
  have hl64 : (cws KK).length = 64 := by rw [cws_length, KK_len]
  have hone : ∀ v ∈ cws KK, v.oneCell' = true := by
    have := cws_one KK
    rw [Array.all_eq_true_iff_forall_mem] at this
    exact fun v hv => this v (by simpa using hv)
  have Hh := Lib.hid (And.intro h (And.intro hr (And.intro hk (And.intro hplt (And.intro hgl hne)))))
  clear h hr hk
  generalize hK : cws KK = kk at *
  have HK := Lib.hid hK
  clear hK
  have hcu : ∀ w, Calls Tryz.prog 180 #[] w fun e w' => e = .returned (.agg kk.toArray) ∧ Below w.heap.size w w' := by rw [← HK.out]; exact cubes_any
  have Hcu := Lib.hid hcu
  clear hcu
  go_enter Tryz.func179, Tryz.ntmps179
  go_region_held3 (fun W' => W'.cell? pl = some (.pointer (some ⟨g, 0, none⟩)) ∧ W'.there g 77 64) (first | exact ⟨by assumption, by assumption⟩ | exact ⟨(cell_setCells_far _ hne).trans (by assumption), World.there_setCells (by assumption) _ _ _⟩ | go_keep)
    (first | (go_at_call 180; refine (Hcu.out _).mono ?_; rintro e w1 ⟨rfl, hb1⟩; have hp1 := (hb1.cell (p := pl) hplt).trans hpl; have ht1 := there_blk hth (hb1.block g hgl)))
  all_goals
    obtain ⟨h, hr, hk, _, _, _⟩ := Hh.out
    have hB1 : Blk w1 g 203 (hcells s rest n 0 1 ks) := (hb1.block g hgl).trans h
    have hB2 := Blk.setMore (w := w1) kk hB1 (o := 77) (by rw [hc_len hr hk]; omega)
    rw [hc_put_ks hr hk kk hl64] at hB2
    have hbut : But g W (w1.setCells g 77 kk) := But.setCells (.inl rfl) kk (((But.refl g W).drew).trans (But.ofBelow hb1))
    go_end0
    exact ⟨rfl, hB2, hbut⟩

/-- A hash that takes: what it holds is in block g; K is there if it is done. -/
def HB (w : World) (g : Nat) (s : S8) (rest : List UInt8) (n : Nat) : Prop :=
  ∃ (d : Int) (ks : List Value), Blk w g 203 (hcells s rest n d 0 ks) ∧ rest.length = 64 ∧ ks.length = 64 ∧ (d = 0 ∨ d = 1 ∧ ks = cws KK)

theorem setCell_drew_blk {w : World} {g : Nat} {t : TypeId} {cs : List Value} (h : Blk w g t cs) : Blk w.drew g t cs := h

theorem do_any (g : Nat) (pl : Addr) (s : S8) (rest : List UInt8) (n : Nat) (W : World) (hpl : W.cell? pl = some (.pointer (some ⟨g, 0, none⟩))) (hne : pl.block ≠ g) (h : HB W g s rest n) :
    Calls Tryz.prog 136 #[.pointer (some ⟨g, 74, none⟩), .func (.func 179) #[] #[.pointer (some pl)]] W fun e w' => e = .returned (.tuple #[]) ∧
      (Blk w' g 203 (hcells s rest n 1 0 (cws KK)) ∧ rest.length = 64 ∧ But g W w') := by
  obtain ⟨d, ks, hB, hr, hk, hd⟩ := h
  rcases hd with rfl | ⟨rfl, rfl⟩
  · have c0 := hB.cell (hc_done hr)
    have c1 := hB.cell (hc_lock hr)
    have hB1 := hB.set_ 75 (.int .i32 1)
    rw [hc_set_lock hr 1] at hB1
    have hbut1 : But g W (W.setCell ⟨g, 75, none⟩ (.int .i32 1)) := (But.refl g W).setCell (.inl rfl) _
    have hclo := clo_any g pl s rest n ks (W.setCell ⟨g, 75, none⟩ (.int .i32 1)) (hbut1.cell hpl hne) hne hr hk hB1
    have hK64 : (cws KK).length = 64 := by rw [cws_length, KK_len]
    refine (do_first g 74 pl _ W c0 c1 (hB.free _) (hB.free _) hclo ?_).mono ?_
    · rintro w2 ⟨hB2, _⟩
      exact ⟨hB2.cell (hc_done hr), hB2.cell (hc_lock hr), hB2.free _, hB2.free _⟩
    · rintro e w' ⟨rfl, w2, ⟨hB2, hbut2⟩, rfl⟩
      have h3 := (setCell_drew_blk hB2).set_ 74 (.int .u32 1)
      rw [hc_set_done hr 1] at h3
      have h4 := h3.set_ 75 (.int .i32 0)
      rw [hc_set_lock hr 0] at h4
      exact ⟨rfl, h4, hr, ((((hbut1.trans hbut2).drew).setCell (.inl rfl) _).setCell (.inl rfl) _)⟩
  · refine (do_done ⟨g, 74, none⟩ _ W (hB.cell (hc_done hr))).mono ?_
    rintro e w' ⟨rfl, rfl⟩
    exact ⟨rfl, hB, hr, But.refl _ _⟩

theorem HB.alloc {w : World} {g : Nat} {s : S8} {rest : List UInt8} {n : Nat} (h : HB w g s rest n) (o : Obj) : HB (w.alloc o) g s rest n := by
  obtain ⟨d, ks, hB, h2⟩ := h
  exact ⟨d, ks, hB.old o, h2⟩

theorem Blk.range {w : World} {g : Nat} {t : TypeId} {cs : List Value} (h : Blk w g t cs) : w.rangeAt g 0 cs := fun j v hv => by
  rw [Nat.zero_add]; exact h.cell hv

theorem l8_one (s : S8) : ∀ v ∈ l8 s, v.oneCell' = true := by
  have := cws_one s.list
  rw [Array.all_eq_true_iff_forall_mem] at this
  exact fun v hv => this v (by rw [List.mem_toArray]; exact hv)

theorem wpStill_load_mid {P : Program} {ops : Array Oper} {rest : List Oper} {op : Oper} {a : Act} {w : World} {Q : Act → Prop} (hgd : op.guard = none) (ty : TypeId) (x : Operand) (ho : op.op = .load ty x)
    (b o : Nat) (hx : a.eval x = .pointer (some ⟨b, o, none⟩)) (cs : List Value) (d : TypeDesc) (hc : w.rangeAt b o cs)
    (hu : P.underlying ty = some d) (hd : d.isRow = true) (hi : (P.info? ty).map (·.size) = some cs.length)
    (h : wpStill P ops w Q rest (a.put op.dst (.agg cs.toArray))) : wpStill P ops w Q (op :: rest) a := by
  refine wpStill_step (fun K hK => ?_)
  rw [if_pos (by simp [Region.wanted, hgd])]
  unfold Oper.still execOp
  simp only [ho, hx, Instr.loadAt, Instr.sureAddr, Sem.run_bind, Sem.run_pure, Result.andThen_ok, run_loadVar_mid w b o ty cs d hc hu hd hi]
  exact ⟨rfl, hK _ h⟩

set_option maxRecDepth 100000 in
set_option maxHeartbeats 1600000 in
theorem take_any (g : Nat) (s t : S8) (rest bs : List UInt8) (n : Nat) (w : World) (hl : bs.length = 64) (h : HB w g s rest n) :
    Calls Tryz.prog 169 #[.pointer (some ⟨g, 0, none⟩), v8 t, .agg (cbs bs).toArray] w fun e w' => e = .returned (v8 (rnd t bs)) ∧ (HB w' g s rest n ∧ But g w w') := by
  have hgl : g < w.heap.size := by obtain ⟨_, _, hB, _⟩ := h; exact hB.lt
  have hv : v8 t = .agg #[.int .u32 (t.a.toNat : Int), .int .u32 (t.b.toNat : Int), .int .u32 (t.c.toNat : Int), .int .u32 (t.d.toNat : Int), .int .u32 (t.e.toNat : Int), .int .u32 (t.f.toNat : Int), .int .u32 (t.g.toNat : Int), .int .u32 (t.h.toNat : Int)] := rfl
  rw [hv]
  clear hv
  obtain ⟨r8, hr8, hr8l, hr8o⟩ : ∃ r8 : List Value, v8 (rnd t bs) = .agg r8.toArray ∧ r8.length = 8 ∧ r8.toArray.all (·.oneCell') = true := ⟨l8 (rnd t bs), rfl, rfl, cws_one (rnd t bs).list⟩
  have hro := fun w' => rounds_any t bs g 77 w' hl
  rw [hr8] at hro ⊢
  have Hro := Lib.hid hro
  have Hr8 := Lib.hid (And.intro hr8l hr8o)
  have Hl := Lib.hid hl
  have Hh := Lib.hid h
  clear hl h hro hr8 hr8l hr8o
  have hmf : ∀ (fn : Fn) (first cap : Array Value) (w : World), (Instr.makeFunc fn first cap).run Tryz.prog w = .ok (.func fn first cap) w := fun _ _ _ _ => rfl
  go_enter Tryz.func169, Tryz.ntmps169
  go_wp2_with fail
  refine (do_any g ⟨w.heap.size, 0, none⟩ s rest n _ (Blk.cell (t := 188) (cs := [.pointer (some ⟨g, 0, none⟩)]) ((((Blk.new rfl rfl).old _).old _).old _) rfl) (by show w.heap.size ≠ g; omega) ((((Hh.out.alloc _).alloc _).alloc _).alloc _)).mono ?_
  rintro e w1 ⟨rfl, hB1, hr1, hbut⟩
  have g1 := hbut.size
  simp only [World.size_alloc] at g1
  have q0 : Blk w1 w.heap.size 188 [.pointer (some ⟨g, 0, none⟩)] := hbut.blk ((((Blk.new rfl rfl).old _).old _).old _) (by omega)
  have q1 : Blk w1 (w.heap.size + 1) 180 (l8 t) := hbut.blk (((Blk.new rfl (by simp)).old _).old _) (by omega)
  have q2 : Blk w1 (w.heap.size + 1 + 1) 182 (cbs bs) := hbut.blk ((Blk.new rfl (by simp)).old _) (by omega)
  have q3 : Blk w1 (w.heap.size + 1 + 1 + 1) 180 (l8 ⟨0, 0, 0, 0, 0, 0, 0, 0⟩) := hbut.blk (Blk.new rfl (by simp)) (by omega)
  have hbw : But g w w1 := ((((((But.refl g w).then_below ((Below.refl _ _).alloc (Nat.le_refl _) _)).then_below ((Below.refl _ _).alloc (Nat.le_refl _) _)).then_below ((Below.refl _ _).alloc (Nat.le_refl _) _)).then_below ((Below.refl _ _).alloc (Nat.le_refl _) _)).trans hbut)
  have r1 : w1.rangeAt (w.heap.size + 1) 0 (l8 t) := q1.range
  have r2 : w1.rangeAt (w.heap.size + 1 + 1) 0 (cbs bs) := q2.range
  have r3 : w1.there (w.heap.size + 1 + 1 + 1) 0 8 := q3.there
  have r0 := q0.cell (i := 0) rfl
  have hi2 : (Tryz.prog.info? 182).map (·.size) = some (cbs bs).length := by rw [cbs_length, Hl.out]; kernel_rfl
  have Hx := Lib.hid (And.intro hB1 (And.intro hr1 (And.intro r3 (And.intro q3 (And.intro hbw g1)))))
  have Hr := Lib.hid (And.intro r1 (And.intro r2 hi2))
  clear hB1 hr1 hbut q0 q1 q2 q3 hbw r1 r2 r3 hi2 g1
  go_wp2_with fail
  refine wp_region_still_tail 5 (by kernel_rfl) (by kernel_rfl) ?_
  simp only [List.take_succ_cons, List.take_zero, List.drop_succ_cons, List.drop_zero]
  refine wpStill_load_mid rfl _ _ rfl (w.heap.size + 1) 0 rfl (l8 t) _ Hr.out.1 Tryz.underlying180 rfl info8w ?_
  refine wpStill_load_mid rfl _ _ rfl (w.heap.size + 1 + 1) 0 rfl (cbs bs) _ Hr.out.2.1 Tryz.underlying182 rfl Hr.out.2.2 ?_
  simp only [Act.put, List.setIfInBounds_toArray, List.set_cons_zero, List.set_cons_succ]
  repeat still_step
  refine wpStill_nil ?_
  go_wp2_with fail
  have hKr : w1.drew.rangeAt g 77 (cws KK) := fun j v hv => Blk.cell (w := w1.drew) Hx.out.1 (hc_ks Hx.out.2.1 hv)
  refine (Hro.out w1.drew hKr).mono ?_
  rintro e w2 ⟨rfl, hb2⟩
  obtain ⟨hB1, hr1, r3, q3, hbw, g1⟩ := Hx.out
  have p3 : Blk w2 (w.heap.size + 1 + 1 + 1) 180 (l8 ⟨0, 0, 0, 0, 0, 0, 0, 0⟩) := Blk.below (w := w1.drew) q3 hb2 (by show _ < w1.heap.size; omega)
  have pB : Blk w2 g 203 (hcells s rest n 1 0 (cws KK)) := Blk.below (w := w1.drew) hB1 hb2 (Blk.lt hB1)
  have hbw2 : But g w w2 := (hbw.drew).then_below hb2
  obtain ⟨hr8l, hr8o⟩ := Hr8.out
  have hsz : r8.toArray.size = 8 := by rw [List.size_toArray]; exact hr8l
  have hth : w2.there (w.heap.size + 1 + 1 + 1) 0 r8.toArray.size := by rw [hsz]; exact p3.there
  have hi8 : (Tryz.prog.info? 180).map (·.size) = some r8.toArray.size := by rw [hsz]; exact info8w
  have hR' := p3.setAll (vs := r8) hr8l
  have hB' := Blk.farAll (g' := w.heap.size + 1 + 1 + 1) (by omega) r8 (o := 0) pB
  have hbut' : But g w (w2.setCells (w.heap.size + 1 + 1 + 1) 0 r8) := But.setCells (.inr (by omega)) _ hbw2
  have Hth := Lib.hid hth
  have Hi8 := Lib.hid hi8
  have Hone := Lib.hid hr8o
  have Hend := Lib.hid (And.intro hR' (And.intro hB' (And.intro hbut' hr1)))
  clear hB1 hr1 r3 q3 hbw g1 p3 pB hbw2 hth hR' hB' hbut' hKr hb2 hsz hi8 hr8l hr8o
  go_wp2_with (refine wpList_store_mid rfl 180 _ _ rfl (w.heap.size + 1 + 1 + 1) 0 r8.toArray rfl rfl Hth.out Hi8.out Hone.out ?_)
  refine bodyPost_ret (results_cell_row rfl _ _ (w.heap.size + 1 + 1 + 1) 180 r8.toArray (0, 0) _ rfl Hend.out.1 Tryz.underlying180 rfl Hi8.out) rfl ?_
  exact ⟨rfl, ⟨1, cws KK, Hend.out.2.1, Hend.out.2.2.2, by rw [cws_length, KK_len], .inr ⟨rfl, rfl⟩⟩, Hend.out.2.2.1⟩

end Go.Proofs.YtfaeechidjpjbaaGreat

namespace Go.Proofs.YtfaeechidjpjbaaGreat

open Go.RowKit

set_option linter.unusedVariables false

theorem cbs_one' (l : List UInt8) : (cbs l).toArray.all (·.oneCell') = true := by
  rw [Array.all_eq_true_iff_forall_mem]
  intro u hu
  exact cbs_one l u (by simpa using hu)

theorem cbs_set (l : List UInt8) (i : Nat) (x : UInt8) : (cbs l).set i (cb x) = cbs (l.set i x) := by unfold cbs; rw [List.map_set]

theorem cb_mod (z : Nat) : Value.int .u8 ((z : Int) % 256) = cb (UInt8.ofNat z) := by
  unfold cb
  rw [UInt8.toNat_ofNat']
  simp

theorem info32b : (Tryz.prog.info? 59).map (·.size) = some 32 := by kernel_rfl

/-- While the bytes are written: the first k of them stand. -/
def wr32 (s : S8) (k : Nat) : List UInt8 := s.bytes.take k ++ List.replicate (32 - k) 0

theorem bytes_len (s : S8) : s.bytes.length = 32 := rfl

theorem wr32_len (s : S8) {k : Nat} (h : k ≤ 32) : (wr32 s k).length = 32 := by
  unfold wr32
  rw [List.length_append, List.length_take, List.length_replicate, bytes_len]; omega

theorem wr32_set (s : S8) {k : Nat} (h : k < 32) : (wr32 s k).set k (s.bytes.getD k 0) = wr32 s (k + 1) := by
  have hl : (s.bytes.take k).length = k := by rw [List.length_take, bytes_len]; omega
  have hk : k < s.bytes.length := by rw [bytes_len]; exact h
  unfold wr32
  rw [List.set_append_right _ _ (by omega), hl, Nat.sub_self, show 32 - k = (32 - (k + 1)) + 1 from by omega, List.replicate_succ, List.set_cons_zero, List.take_succ_eq_append_getElem hk, List.getD_eq_getElem?_getD, List.getElem?_eq_getElem hk, Option.getD_some, List.append_assoc]
  rfl

/-- The byte at 4 i + j. -/
theorem byte_at2 (s : S8) (i j : Nat) (hi : i < 8) (hj : j < 4) : s.bytes.getD (4 * i + j) 0 = UInt8.ofNat ((s.list.getD i 0).toNat / 2 ^ (24 - 8 * j)) := by
  have hm : ∀ z : Nat, UInt8.ofNat (z % 256) = UInt8.ofNat z := fun z => by
    apply UInt8.toNat_inj.1
    rw [UInt8.toNat_ofNat', UInt8.toNat_ofNat']; omega
  have hb : s.bytes = wordB s.a ++ (wordB s.b ++ (wordB s.c ++ (wordB s.d ++ (wordB s.e ++ (wordB s.f ++ (wordB s.g ++ (wordB s.h ++ []))))))) := rfl
  have hw : ∀ (x : UInt32), (j = 0 → (wordB x).getD j 0 = UInt8.ofNat (x.toNat / 2 ^ (24 - 8 * j))) ∧ (j = 1 → (wordB x).getD j 0 = UInt8.ofNat (x.toNat / 2 ^ (24 - 8 * j))) ∧ (j = 2 → (wordB x).getD j 0 = UInt8.ofNat (x.toNat / 2 ^ (24 - 8 * j))) ∧ (j = 3 → (wordB x).getD j 0 = UInt8.ofNat (x.toNat / 2 ^ (24 - 8 * j))) := by
    intro x
    refine ⟨?_, ?_, ?_, ?_⟩ <;> intro e <;> subst e
    · show UInt8.ofNat (x.toNat / 16777216 % 256) = _; rw [hm]
    · show UInt8.ofNat (x.toNat / 65536 % 256) = _; rw [hm]
    · show UInt8.ofNat (x.toNat / 256 % 256) = _; rw [hm]
    · show UInt8.ofNat (x.toNat % 256) = _; rw [hm]; simp
  have h4 : j = 0 ∨ j = 1 ∨ j = 2 ∨ j = 3 := by omega
  have h8 : i = 0 ∨ i = 1 ∨ i = 2 ∨ i = 3 ∨ i = 4 ∨ i = 5 ∨ i = 6 ∨ i = 7 := by omega
  have hwx : ∀ x, (wordB x).getD j 0 = UInt8.ofNat (x.toNat / 2 ^ (24 - 8 * j)) := by
    intro x
    obtain ⟨a, b, c, d⟩ := hw x
    rcases h4 with h | h | h | h
    · exact a h
    · exact b h
    · exact c h
    · exact d h
  clear hw
  rcases h8 with rfl | rfl | rfl | rfl | rfl | rfl | rfl | rfl
  · rw [← hwx]; rcases h4 with rfl | rfl | rfl | rfl <;> rfl
  · rw [← hwx]; rcases h4 with rfl | rfl | rfl | rfl <;> rfl
  · rw [← hwx]; rcases h4 with rfl | rfl | rfl | rfl <;> rfl
  · rw [← hwx]; rcases h4 with rfl | rfl | rfl | rfl <;> rfl
  · rw [← hwx]; rcases h4 with rfl | rfl | rfl | rfl <;> rfl
  · rw [← hwx]; rcases h4 with rfl | rfl | rfl | rfl <;> rfl
  · rw [← hwx]; rcases h4 with rfl | rfl | rfl | rfl <;> rfl
  · rw [← hwx]; rcases h4 with rfl | rfl | rfl | rfl <;> rfl

set_option maxRecDepth 100000 in
set_option maxHeartbeats 1600000 in
theorem written_any2 (s : S8) (w : World) :
    Calls Tryz.prog 170 #[v8 s] w fun e w' => e = .returned (.agg (cbs s.bytes).toArray) ∧ Below w.heap.size w w' := by
  have hv : v8 s = .agg #[.int .u32 (s.a.toNat : Int), .int .u32 (s.b.toNat : Int), .int .u32 (s.c.toNat : Int), .int .u32 (s.d.toNat : Int), .int .u32 (s.e.toNat : Int), .int .u32 (s.f.toNat : Int), .int .u32 (s.g.toNat : Int), .int .u32 (s.h.toNat : Int)] := rfl
  rw [hv]
  clear hv
  go_enter Tryz.func170, Tryz.ntmps170
  go_wp2
  go_loopw [8] (fun i wr => ∃ k : Nat, k ≤ 8 ∧ i = .int .i64 k ∧ Blk wr (w.heap.size + 1) 59 (cbs (List.replicate 32 0)) ∧ Blk wr (w.heap.size + 1 + 1) 59 (cbs (wr32 s (4 * k))) ∧ Below w.heap.size w wr) (fun i _ => 8 - (intOf i).toNat)
  case atStart =>
    exact ⟨0, by omega, rfl, (Blk.new rfl (by simp)).old _, Blk.new rfl (by simp), (((Below.refl _ _).alloc (Nat.le_refl _) _).alloc (by simp) _).alloc (by simp; omega) _⟩
  case round =>
    obtain ⟨k, hk, rfl, hR, hD, hnx⟩ := hrel
    by_cases hlt : k < 8
    · have hidx : ∀ W : World, (Instr.index 180 (.agg #[.int .u32 (s.a.toNat : Int), .int .u32 (s.b.toNat : Int), .int .u32 (s.c.toNat : Int), .int .u32 (s.d.toNat : Int), .int .u32 (s.e.toNat : Int), .int .u32 (s.f.toNat : Int), .int .u32 (s.g.toNat : Int), .int .u32 (s.h.toNat : Int)]) (.int .i64 (k : Int))).run Tryz.prog W = .ok (.int .u32 ((s.list.getD k 0).toNat : Int)) W := by
        have h8 : k = 0 ∨ k = 1 ∨ k = 2 ∨ k = 3 ∨ k = 4 ∨ k = 5 ∨ k = 6 ∨ k = 7 := by omega
        intro W
        rcases h8 with rfl | rfl | rfl | rfl | rfl | rfl | rfl | rfl <;> kernel_rfl
      have hby : ∀ j, j < 4 → s.bytes.getD (4 * k + j) 0 = UInt8.ofNat ((s.list.getD k 0).toNat / 2 ^ (24 - 8 * j)) := fun j hj => byte_at2 s k j hlt hj
      have hw := w_lt (s.list.getD k 0)
      generalize s.list.getD k 0 = x at *
      have Hby := Lib.hid hby
      have i0 : (0 : Int) ≤ (k : Int) := by omega
      have i1 : (k : Int) < 8 := by omega
      clear hby
      go_wp2
      obtain ⟨wo, hwo⟩ : ∃ wo : World, wo = wr := ⟨_, rfl⟩
      rw [← hwo]
      go_loopw [12] (fun j wr => ∃ m : Nat, m ≤ 4 ∧ j = .int .i64 m ∧ Blk wr (w.heap.size + 1) 59 (cbs (List.replicate 32 0)) ∧ Blk wr (w.heap.size + 1 + 1) 59 (cbs (wr32 s (4 * k + m))) ∧ Below w.heap.size w wr) (fun j _ => 4 - (intOf j).toNat)
      case atStart => rw [hwo]; exact ⟨0, by omega, rfl, hR, hD, hnx⟩
      case round =>
        clear hR hD hnx hwo
        obtain ⟨m, hm, rfl, hR, hD, hnx⟩ := hrel
        by_cases hmt : m < 4
        · have i2 : (0 : Int) ≤ (m : Int) := by omega
          have i3 : (m : Int) < 4 := by omega
          have d0 := hD.cell (i := 4 * k + m) (v := cb ((wr32 s (4 * k + m)).getD (4 * k + m) 0)) (by
            have hl := wr32_len s (k := 4 * k + m) (by omega)
            rw [cbs_get, List.getElem?_eq_getElem (by omega), List.getD_eq_getElem?_getD, List.getElem?_eq_getElem (by omega)]; rfl)
          have f0 := hD.free (4 * k + m)
          generalize cb ((wr32 s (4 * k + m)).getD (4 * k + m) 0) = old at *
          have hset := wr32_set s (k := 4 * k + m) (by omega)
          rw [Hby.out m hmt] at hset
          have Hset := Lib.hid hset
          clear hset
          go_wp2
          go_roundw
          case rel =>
            have ec : Value.int .u8 ((x.toNat : Int) / 2 ^ (24 - 8 * m) % 256) = cb (UInt8.ofNat (x.toNat / 2 ^ (24 - 8 * m))) := by
              rw [← cb_mod]; simp
            have hs := hD.set_ (4 * k + m) (cb (UInt8.ofNat (x.toNat / 2 ^ (24 - 8 * m))))
            rw [cbs_set, Hset.out] at hs
            rw [ec]
            exact ⟨m + 1, by omega, by go_num, hR.far (by dsimp only; omega) _, by rw [← Nat.add_assoc]; exact hs, hnx.setCell (by dsimp only; omega) _⟩
          case measure => simp [intOf]; omega
        · have e : m = 4 := by omega
          subst e
          have i3 : ¬ ((4 : Nat) : Int) < 4 := by omega
          clear hm hmt
          go_wp2
          go_roundw
          case rel => exact ⟨k + 1, by omega, by go_num, hR, by rw [show 4 * (k + 1) = 4 * k + 4 from by omega]; exact hD, hnx⟩
          case measure => simp [intOf]; omega
    · have e : k = 8 := by omega
      subst e
      have hD8 : Blk wr (w.heap.size + 1 + 1) 59 (cbs s.bytes) := hD
      have i3 : ¬ ((8 : Nat) : Int) < 8 := by omega
      have hth : wr.there (w.heap.size + 1) 0 (cbs s.bytes).toArray.size := hR.there
      have hR' := hR.setAll (vs := cbs s.bytes) rfl
      have hnx' : Below w.heap.size w (wr.setCells (w.heap.size + 1) 0 (cbs s.bytes)) := Below.setCells (by omega) _ hnx
      have hi : (Tryz.prog.info? 59).map (·.size) = some (cbs s.bytes).toArray.size := info32b
      have Hi := Lib.hid hi
      have Hth := Lib.hid hth
      have Hone := Lib.hid (cbs_one' s.bytes)
      clear hk hlt hD hR hnx hth hi
      generalize hvs : cbs s.bytes = vs at *
      have Hvs := Lib.hid hvs
      clear hvs
      go_wp2_with (first
        | refine wpList_load_row rfl 59 _ rfl (w.heap.size + 1 + 1) rfl 59 vs.toArray (0, 0) _ hD8 Tryz.underlying59 rfl Hi.out ?_
        | refine wpList_store_mid rfl 59 _ _ rfl (w.heap.size + 1) 0 vs.toArray rfl rfl Hth.out Hi.out Hone.out ?_)
      exact bodyPost_ret (results_cell_row rfl _ _ (w.heap.size + 1) 59 vs.toArray (0, 0) _ rfl hR' Tryz.underlying59 rfl Hi.out) rfl ⟨by rw [Hvs.out], hnx'⟩

end Go.Proofs.YtfaeechidjpjbaaGreat

namespace Go.Proofs.YtfaeechidjpjbaaGreat

set_option linter.unusedVariables false

/-- The 128 bytes, k of the length's bytes laid. -/
def tl (f : List UInt8) (r E bits k : Nat) : List UInt8 :=
  (List.range 128).map fun j => if j < r then f.getD j 0 else if j = r then 128 else if E - k ≤ j ∧ j < E then UInt8.ofNat (bits / 2 ^ (8 * (E - 1 - j))) else 0

theorem tl_len (f : List UInt8) (r E bits k : Nat) : (tl f r E bits k).length = 128 := by simp [tl]

theorem tl_at {f : List UInt8} {r E bits k j : Nat} (h : j < 128) : (tl f r E bits k)[j]? = some (if j < r then f.getD j 0 else if j = r then 128 else if E - k ≤ j ∧ j < E then UInt8.ofNat (bits / 2 ^ (8 * (E - 1 - j))) else 0) := by
  simp [tl, h]

theorem tl_set {f : List UInt8} {r E bits k : Nat} (hE : E ≤ 128) (hr : r + 9 ≤ E) (hk : k < 8) : (tl f r E bits k).set (E - 1 - k) (UInt8.ofNat (bits / 2 ^ (8 * k))) = tl f r E bits (k + 1) := by
  apply List.ext_getElem?
  intro j
  rcases Nat.lt_or_ge j 128 with hj | hj
  · rw [List.getElem?_set, tl_len, tl_at hj, tl_at hj]
    by_cases e : E - 1 - k = j
    · rw [if_pos e, if_pos (by omega), if_neg (by omega), if_neg (by omega), if_pos (by omega)]
      congr 4
      omega
    · rw [if_neg e]
      congr 1
      by_cases h1 : j < r
      · rw [if_pos h1, if_pos h1]
      · rw [if_neg h1, if_neg h1]
        by_cases h2 : j = r
        · rw [if_pos h2, if_pos h2]
        · rw [if_neg h2, if_neg h2]
          by_cases h3 : E - k ≤ j ∧ j < E
          · rw [if_pos h3, if_pos (by omega)]
          · rw [if_neg h3, if_neg (by omega)]
  · rw [List.getElem?_eq_none (by rw [List.length_set, tl_len]; exact hj), List.getElem?_eq_none (by rw [tl_len]; exact hj)]

theorem tl_first {f : List UInt8} {r E bits : Nat} (hf : f.length = r) (hr : r + 9 ≤ E) (hE : E ≤ 128) : (f ++ List.replicate (128 - r) 0).set r 128 = tl f r E bits 0 := by
  apply List.ext_getElem?
  intro j
  rcases Nat.lt_or_ge j 128 with hj | hj
  · rw [List.getElem?_set, tl_at hj]
    by_cases e : r = j
    · subst e
      rw [if_pos rfl, if_pos (by rw [List.length_append, List.length_replicate]; omega), if_neg (by omega), if_pos rfl]
    · rw [if_neg e]
      by_cases h1 : j < r
      · rw [if_pos h1, List.getElem?_append_left (by omega), List.getD_eq_getElem?_getD, List.getElem?_eq_getElem (by omega)]; rfl
      · rw [if_neg h1, if_neg (by omega), if_neg (by omega), List.getElem?_append_right (by omega), List.getElem?_replicate, if_pos (by omega)]
  · rw [List.getElem?_eq_none (by rw [List.length_set, List.length_append, List.length_replicate]; omega), List.getElem?_eq_none (by rw [tl_len]; exact hj)]

/-- Where the length ends. -/
def Eend (r : Nat) : Nat := if r < 56 then 64 else 128

theorem Eend_le (r : Nat) : Eend r = 64 ∨ Eend r = 128 := by unfold Eend; split <;> simp

theorem tl_last (l : List UInt8) : (tl (left l) (l.length % 64) (Eend (l.length % 64)) (l.length * 8) 8).take (Eend (l.length % 64)) = last l := by
  have hl := left_len l
  have hll := last_len l
  have hEl : (last l).length = Eend (l.length % 64) := by rw [hll]; rfl
  have hE := Eend_le (l.length % 64)
  have hgap : gap l.length + (l.length % 64) + 9 = Eend (l.length % 64) := by unfold gap Eend; split <;> omega
  apply List.ext_getElem?
  intro j
  rcases Nat.lt_or_ge j (Eend (l.length % 64)) with hj | hj
  · rw [List.getElem?_take, if_pos hj, tl_at (by omega)]
    unfold last
    by_cases h1 : j < l.length % 64
    · rw [if_pos h1, List.getElem?_append_left (by omega), List.getD_eq_getElem?_getD, List.getElem?_eq_getElem (by omega)]; rfl
    · rw [if_neg h1, List.getElem?_append_right (by omega), hl]
      by_cases h2 : j = l.length % 64
      · rw [if_pos h2, h2, Nat.sub_self]; rfl
      · rw [if_neg h2]
        obtain ⟨q, hq⟩ : ∃ q, j - l.length % 64 = q + 1 := ⟨j - l.length % 64 - 1, by omega⟩
        rw [hq, List.getElem?_cons_succ]
        by_cases h3 : Eend (l.length % 64) - 8 ≤ j ∧ j < Eend (l.length % 64)
        · rw [if_pos h3, List.getElem?_append_right (by rw [List.length_replicate]; omega), List.length_replicate]
          obtain ⟨i, hi⟩ : ∃ i, q - gap l.length = i := ⟨_, rfl⟩
          have hi8 : i < 8 := by omega
          rw [hi]
          unfold be8
          rw [List.getElem?_map, List.getElem?_range hi8]
          show some _ = some _
          congr 1
          have e1 : Eend (l.length % 64) - 1 - j = 7 - i := by omega
          rw [e1, Nat.mul_comm 8 l.length, Nat.pow_mul, show 2 ^ 8 = 256 from rfl]
          apply UInt8.toNat_inj.1
          rw [UInt8.toNat_ofNat', UInt8.toNat_ofNat']
          omega
        · rw [if_neg h3, List.getElem?_append_left (by rw [List.length_replicate]; omega), List.getElem?_replicate, if_pos (by omega)]
  · rw [List.getElem?_eq_none (by rw [List.length_take]; omega), List.getElem?_eq_none (by omega)]

theorem eat_more (s : S8) (m : Nat) (l : List UInt8) : eat s (m + 1) l = rnd (eat s m l) ((l.drop (64 * m)).take 64) := by
  rw [eat_add]; rfl

theorem last_part {T L : List UInt8} {E m : Nat} (h : T.take E = L) (hm : 64 * (m + 1) ≤ E) : (T.drop (64 * m)).take 64 = (L.drop (64 * m)).take 64 := by
  rw [← h, List.drop_take, List.take_take]
  congr 1
  omega

theorem digest_at (l : List UInt8) (m : Nat) (h : 64 * m = Eend (l.length % 64)) : digest l = (eat (whole l) m (last l)).bytes := by
  have hl : (last l).length = Eend (l.length % 64) := by rw [last_len]; rfl
  rw [digest_last, hl]
  congr 2
  omega

end Go.Proofs.YtfaeechidjpjbaaGreat
