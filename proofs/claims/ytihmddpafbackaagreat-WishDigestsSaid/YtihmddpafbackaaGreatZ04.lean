/-
  Laid together for a hand-in: Take2, Written2, Tail, Digest.
-/
import Derived.Test.YtihmddpafbackaaGreatZ03
import Derived.StillTailTactics
import Derived.Deep.RegionHeld3
import Derived.Outline
import Derived.Laws.IdiomCopy
import Derived.Deep.CutBlock

namespace Go.Proofs.YtihmddpafbackaaGreat

open Go.RowKit

set_option linter.unusedVariables false

theorem there_blk {w w' : World} {b o n : Nat} (h : w.there b o n) (hb : w'.heap[b]? = w.heap[b]?) : w'.there b o n := fun j hj => by
  obtain ⟨h1, h2⟩ := h j hj
  exact ⟨by rw [← h1]; exact congrArg _ (World.cell?_of_block (w := w) (w' := w') (a := ⟨b, o + j, none⟩) hb), by rw [← h2]; exact World.frozen?_of_block (w := w) (w' := w') (a := ⟨b, o + j, none⟩) hb⟩

theorem cell_setCells_far {a : Addr} {b : Nat} (vs : List Value) : ∀ {w : World} {o : Nat}, a.block ≠ b → (w.setCells b o vs).cell? a = w.cell? a := fun h => World.cell?_setCells_out b vs _ _ a (fun e => absurd e h)

theorem Blk.thereAt {w : World} {g : Nat} {t : TypeId} {cs : List Value} (h : Blk w g t cs) {o n : Nat} (hn : o + n ≤ cs.length) : w.there g o n := by
  intro j hj
  exact ⟨by rw [h.cell (List.getElem?_eq_getElem (show o + j < cs.length by omega))]; rfl, h.free _⟩

set_option maxRecDepth 100000 in
set_option maxHeartbeats 1600000 in
/-- The function that 'once' calls: K is laid into the hash. -/
theorem clo_any (g : Nat) (pl : Addr) (s : S8) (rest : List UInt8) (n : Nat) (ks : List Value) (W : World) (hpl : W.cell? pl = some (.pointer (some ⟨g, 0, none⟩))) (hne : pl.block ≠ g)
    (hr : rest.length = 64) (hk : ks.length = 64) (h : Blk W g 118 (hcells s rest n 0 1 ks)) :
    Calls Tryz.prog 105 #[.pointer (some pl)] W fun e w2 => e = .returned (.tuple #[]) ∧ (Blk w2 g 118 (hcells s rest n 0 1 (cws KK)) ∧ But g W w2) := by
  have hplt : pl.block < W.heap.size := World.block_lt_of_cell? W _ hpl
  have hgl := h.lt
  have hth : W.there g 77 64 := h.thereAt (by rw [hc_len hr hk]; decide)
  have hu := Tryz.underlying116
  have hi : (Tryz.prog.info? 116).map (·.size) = some (cws KK).length := by rw [cws_length, KK_len]; exact info64w
  have hl64 : (cws KK).length = 64 := by rw [cws_length, KK_len]
  have hone : ∀ v ∈ cws KK, v.oneCell' = true := by
    have := cws_one KK
    rw [Array.all_eq_true_iff_forall_mem] at this
    exact fun v hv => this v (by simpa using hv)
  have Hh := Lib.hid (And.intro h (And.intro hr (And.intro hk (And.intro hplt (And.intro hgl hne)))))
  clear h hr hk
  generalize hK : cws KK = kk at *
  have HK := Lib.hid hK
  clear hK
  have hcu : ∀ w, Calls Tryz.prog 106 #[] w fun e w' => e = .returned (.agg kk.toArray) ∧ Below w.heap.size w w' := by rw [← HK.out]; exact cubes_any
  have Hcu := Lib.hid hcu
  clear hcu
  go_enter Tryz.func105, Tryz.ntmps105
  go_region_held3 (fun W' => W'.cell? pl = some (.pointer (some ⟨g, 0, none⟩)) ∧ W'.there g 77 64) (first | exact ⟨by assumption, by assumption⟩ | exact ⟨(cell_setCells_far _ hne).trans (by assumption), World.there_setCells (by assumption) _ _ _⟩ | go_keep)
    (first | (go_at_call 106; refine (Hcu.out _).mono ?_; rintro e w1 ⟨rfl, hb1⟩; have hp1 := (hb1.cell (p := pl) hplt).trans hpl; have ht1 := there_blk hth (hb1.block g hgl)))
  all_goals
    obtain ⟨h, hr, hk, _, _, _⟩ := Hh.out
    have hB1 : Blk w1 g 118 (hcells s rest n 0 1 ks) := (hb1.block g hgl).trans h
    have hB2 := Blk.setMore (w := w1) kk hB1 (o := 77) (by rw [hc_len hr hk]; omega)
    rw [hc_put_ks hr hk kk hl64] at hB2
    have hbut : But g W (w1.setCells g 77 kk) := But.setCells (.inl rfl) kk (((But.refl g W).drew).trans (But.ofBelow hb1))
    go_end0
    exact ⟨rfl, hB2, hbut⟩

/-- A hash that takes: what it holds is in block g; K is there if it is done. -/
def HB (w : World) (g : Nat) (s : S8) (rest : List UInt8) (n : Nat) : Prop :=
  ∃ (d : Int) (ks : List Value), Blk w g 118 (hcells s rest n d 0 ks) ∧ rest.length = 64 ∧ ks.length = 64 ∧ (d = 0 ∨ d = 1 ∧ ks = cws KK)

theorem setCell_drew_blk {w : World} {g : Nat} {t : TypeId} {cs : List Value} (h : Blk w g t cs) : Blk w.drew g t cs := h

theorem do_any (g : Nat) (pl : Addr) (s : S8) (rest : List UInt8) (n : Nat) (W : World) (hpl : W.cell? pl = some (.pointer (some ⟨g, 0, none⟩))) (hne : pl.block ≠ g) (h : HB W g s rest n) :
    Calls Tryz.prog 104 #[.pointer (some ⟨g, 74, none⟩), .func (.func 105) #[] #[.pointer (some pl)]] W fun e w' => e = .returned (.tuple #[]) ∧
      (Blk w' g 118 (hcells s rest n 1 0 (cws KK)) ∧ rest.length = 64 ∧ But g W w') := by
  obtain ⟨d, ks, hB, hr, hk, hd⟩ := h
  rcases hd with rfl | ⟨rfl, rfl⟩
  · have c0 := hB.cell (hc_done hr)
    have c1 := hB.cell (hc_lock hr)
    have hB1 := hB.set_ 75 (.int .i32 1)
    rw [hc_set_lock hr 1] at hB1
    have hbut1 : But g W (W.setCell ⟨g, 75, none⟩ (.int .i32 1)) := (But.refl g W).setCell (.inl rfl) _
    have hclo := clo_any g pl s rest n ks (W.setCell ⟨g, 75, none⟩ (.int .i32 1)) (hbut1.cell hpl hne) hne hr hk hB1
    have hK64 : (cws KK).length = 64 := by rw [cws_length, KK_len]
    refine (do_first g 74 pl _ W c0 c1 (hB.free _) (hB.free _) hclo ?_).mono ?_
    · rintro w2 ⟨hB2, _⟩
      exact ⟨hB2.cell (hc_done hr), hB2.cell (hc_lock hr), hB2.free _, hB2.free _⟩
    · rintro e w' ⟨rfl, w2, ⟨hB2, hbut2⟩, rfl⟩
      have h3 := (setCell_drew_blk hB2).set_ 74 (.int .u32 1)
      rw [hc_set_done hr 1] at h3
      have h4 := h3.set_ 75 (.int .i32 0)
      rw [hc_set_lock hr 0] at h4
      exact ⟨rfl, h4, hr, ((((hbut1.trans hbut2).drew).setCell (.inl rfl) _).setCell (.inl rfl) _)⟩
  · refine (do_done ⟨g, 74, none⟩ _ W (hB.cell (hc_done hr))).mono ?_
    rintro e w' ⟨rfl, rfl⟩
    exact ⟨rfl, hB, hr, But.refl _ _⟩

theorem HB.alloc {w : World} {g : Nat} {s : S8} {rest : List UInt8} {n : Nat} (h : HB w g s rest n) (o : Obj) : HB (w.alloc o) g s rest n := by
  obtain ⟨d, ks, hB, h2⟩ := h
  exact ⟨d, ks, hB.old o, h2⟩

theorem Blk.range {w : World} {g : Nat} {t : TypeId} {cs : List Value} (h : Blk w g t cs) : w.rangeAt g 0 cs := fun j v hv => by
  rw [Nat.zero_add]; exact h.cell hv

theorem l8_one (s : S8) : ∀ v ∈ l8 s, v.oneCell' = true := by
  have := cws_one s.list
  rw [Array.all_eq_true_iff_forall_mem] at this
  exact fun v hv => this v (by rw [List.mem_toArray]; exact hv)

theorem wpStill_load_mid {P : Program} {ops : Array Oper} {rest : List Oper} {op : Oper} {a : Act} {w : World} {Q : Act → Prop} (hgd : op.guard = none) (ty : TypeId) (x : Operand) (ho : op.op = .load ty x)
    (b o : Nat) (hx : a.eval x = .pointer (some ⟨b, o, none⟩)) (cs : List Value) (d : TypeDesc) (hc : w.rangeAt b o cs)
    (hu : P.underlying ty = some d) (hd : d.isRow = true) (hi : (P.info? ty).map (·.size) = some cs.length)
    (h : wpStill P ops w Q rest (a.put op.dst (.agg cs.toArray))) : wpStill P ops w Q (op :: rest) a := by
  refine wpStill_step (fun K hK => ?_)
  rw [if_pos (by simp [Region.wanted, hgd])]
  unfold Oper.still execOp
  simp only [ho, hx, Instr.loadAt, Instr.sureAddr, Sem.run_bind, Sem.run_pure, Result.andThen_ok, run_loadVar_mid w b o ty cs d hc hu hd hi]
  exact ⟨rfl, hK _ h⟩

set_option maxRecDepth 100000 in
set_option maxHeartbeats 1600000 in
theorem take_any (g : Nat) (s t : S8) (rest bs : List UInt8) (n : Nat) (w : World) (hl : bs.length = 64) (h : HB w g s rest n) :
    Calls Tryz.prog 95 #[.pointer (some ⟨g, 0, none⟩), v8 t, .agg (cbs bs).toArray] w fun e w' => e = .returned (v8 (rnd t bs)) ∧ (HB w' g s rest n ∧ But g w w') := by
  have hgl : g < w.heap.size := by obtain ⟨_, _, hB, _⟩ := h; exact hB.lt
  have hv : v8 t = .agg #[.int .u32 (t.a.toNat : Int), .int .u32 (t.b.toNat : Int), .int .u32 (t.c.toNat : Int), .int .u32 (t.d.toNat : Int), .int .u32 (t.e.toNat : Int), .int .u32 (t.f.toNat : Int), .int .u32 (t.g.toNat : Int), .int .u32 (t.h.toNat : Int)] := rfl
  rw [hv]
  clear hv
  obtain ⟨r8, hr8, hr8l, hr8o⟩ : ∃ r8 : List Value, v8 (rnd t bs) = .agg r8.toArray ∧ r8.length = 8 ∧ r8.toArray.all (·.oneCell') = true := ⟨l8 (rnd t bs), rfl, rfl, cws_one (rnd t bs).list⟩
  have hro := fun w' => rounds_any t bs g 77 w' hl
  rw [hr8] at hro ⊢
  have Hro := Lib.hid hro
  have Hr8 := Lib.hid (And.intro hr8l hr8o)
  have Hl := Lib.hid hl
  have Hh := Lib.hid h
  clear hl h hro hr8 hr8l hr8o
  have hmf : ∀ (fn : Fn) (first cap : Array Value) (w : World), (Instr.makeFunc fn first cap).run Tryz.prog w = .ok (.func fn first cap) w := fun _ _ _ _ => rfl
  go_enter Tryz.func95, Tryz.ntmps95
  go_wp2_with fail
  refine (do_any g ⟨w.heap.size, 0, none⟩ s rest n _ (Blk.cell (t := 91) (cs := [.pointer (some ⟨g, 0, none⟩)]) ((((Blk.new rfl rfl).old _).old _).old _) rfl) (by show w.heap.size ≠ g; omega) ((((Hh.out.alloc _).alloc _).alloc _).alloc _)).mono ?_
  rintro e w1 ⟨rfl, hB1, hr1, hbut⟩
  have g1 := hbut.size
  simp only [World.size_alloc] at g1
  have q0 : Blk w1 w.heap.size 91 [.pointer (some ⟨g, 0, none⟩)] := hbut.blk ((((Blk.new rfl rfl).old _).old _).old _) (by omega)
  have q1 : Blk w1 (w.heap.size + 1) 97 (l8 t) := hbut.blk (((Blk.new rfl (by simp)).old _).old _) (by omega)
  have q2 : Blk w1 (w.heap.size + 1 + 1) 99 (cbs bs) := hbut.blk ((Blk.new rfl (by simp)).old _) (by omega)
  have q3 : Blk w1 (w.heap.size + 1 + 1 + 1) 97 (l8 ⟨0, 0, 0, 0, 0, 0, 0, 0⟩) := hbut.blk (Blk.new rfl (by simp)) (by omega)
  have hbw : But g w w1 := ((((((But.refl g w).then_below ((Below.refl _ _).alloc (Nat.le_refl _) _)).then_below ((Below.refl _ _).alloc (Nat.le_refl _) _)).then_below ((Below.refl _ _).alloc (Nat.le_refl _) _)).then_below ((Below.refl _ _).alloc (Nat.le_refl _) _)).trans hbut)
  have r1 : w1.rangeAt (w.heap.size + 1) 0 (l8 t) := q1.range
  have r2 : w1.rangeAt (w.heap.size + 1 + 1) 0 (cbs bs) := q2.range
  have r3 : w1.there (w.heap.size + 1 + 1 + 1) 0 8 := q3.there
  have r0 := q0.cell (i := 0) rfl
  have hi2 : (Tryz.prog.info? 99).map (·.size) = some (cbs bs).length := by rw [cbs_length, Hl.out]; kernel_rfl
  have Hx := Lib.hid (And.intro hB1 (And.intro hr1 (And.intro r3 (And.intro q3 (And.intro hbw g1)))))
  have Hr := Lib.hid (And.intro r1 (And.intro r2 hi2))
  clear hB1 hr1 hbut q0 q1 q2 q3 hbw r1 r2 r3 hi2 g1
  go_wp2_with fail
  refine wp_region_still_tail 5 (by kernel_rfl) (by kernel_rfl) ?_
  simp only [List.take_succ_cons, List.take_zero, List.drop_succ_cons, List.drop_zero]
  refine wpStill_load_mid rfl _ _ rfl (w.heap.size + 1) 0 rfl (l8 t) _ Hr.out.1 Tryz.underlying97 rfl info8w ?_
  refine wpStill_load_mid rfl _ _ rfl (w.heap.size + 1 + 1) 0 rfl (cbs bs) _ Hr.out.2.1 Tryz.underlying99 rfl Hr.out.2.2 ?_
  simp only [Act.put, List.setIfInBounds_toArray, List.set_cons_zero, List.set_cons_succ]
  repeat still_step
  refine wpStill_nil ?_
  go_wp2_with fail
  have hKr : w1.drew.rangeAt g 77 (cws KK) := fun j v hv => Blk.cell (w := w1.drew) Hx.out.1 (hc_ks Hx.out.2.1 hv)
  refine (Hro.out w1.drew hKr).mono ?_
  rintro e w2 ⟨rfl, hb2⟩
  obtain ⟨hB1, hr1, r3, q3, hbw, g1⟩ := Hx.out
  have p3 : Blk w2 (w.heap.size + 1 + 1 + 1) 97 (l8 ⟨0, 0, 0, 0, 0, 0, 0, 0⟩) := Blk.below (w := w1.drew) q3 hb2 (by show _ < w1.heap.size; omega)
  have pB : Blk w2 g 118 (hcells s rest n 1 0 (cws KK)) := Blk.below (w := w1.drew) hB1 hb2 (Blk.lt hB1)
  have hbw2 : But g w w2 := (hbw.drew).then_below hb2
  obtain ⟨hr8l, hr8o⟩ := Hr8.out
  have hsz : r8.toArray.size = 8 := by rw [List.size_toArray]; exact hr8l
  have hth : w2.there (w.heap.size + 1 + 1 + 1) 0 r8.toArray.size := by rw [hsz]; exact p3.there
  have hi8 : (Tryz.prog.info? 97).map (·.size) = some r8.toArray.size := by rw [hsz]; exact info8w
  have hR' := p3.setAll (vs := r8) hr8l
  have hB' := Blk.farAll (g' := w.heap.size + 1 + 1 + 1) (by omega) r8 (o := 0) pB
  have hbut' : But g w (w2.setCells (w.heap.size + 1 + 1 + 1) 0 r8) := But.setCells (.inr (by omega)) _ hbw2
  have Hth := Lib.hid hth
  have Hi8 := Lib.hid hi8
  have Hone := Lib.hid hr8o
  have Hend := Lib.hid (And.intro hR' (And.intro hB' (And.intro hbut' hr1)))
  clear hB1 hr1 r3 q3 hbw g1 p3 pB hbw2 hth hR' hB' hbut' hKr hb2 hsz hi8 hr8l hr8o
  go_wp2_with (refine wpList_store_mid rfl 97 _ _ rfl (w.heap.size + 1 + 1 + 1) 0 r8.toArray rfl rfl Hth.out Hi8.out Hone.out ?_)
  refine bodyPost_ret (results_cell_row rfl _ _ (w.heap.size + 1 + 1 + 1) 97 r8.toArray (0, 0) _ rfl Hend.out.1 Tryz.underlying97 rfl Hi8.out) rfl ?_
  exact ⟨rfl, ⟨1, cws KK, Hend.out.2.1, Hend.out.2.2.2, by rw [cws_length, KK_len], .inr ⟨rfl, rfl⟩⟩, Hend.out.2.2.1⟩

end Go.Proofs.YtihmddpafbackaaGreat

namespace Go.Proofs.YtihmddpafbackaaGreat

open Go.RowKit

set_option linter.unusedVariables false

theorem cbs_one' (l : List UInt8) : (cbs l).toArray.all (·.oneCell') = true := by
  rw [Array.all_eq_true_iff_forall_mem]
  intro u hu
  exact cbs_one l u (by simpa using hu)

theorem cbs_set (l : List UInt8) (i : Nat) (x : UInt8) : (cbs l).set i (cb x) = cbs (l.set i x) := by unfold cbs; rw [List.map_set]

theorem cb_mod (z : Nat) : Value.int .u8 ((z : Int) % 256) = cb (UInt8.ofNat z) := by
  unfold cb
  rw [UInt8.toNat_ofNat']
  simp

theorem info32b : (Tryz.prog.info? 32).map (·.size) = some 32 := by kernel_rfl

/-- While the bytes are written: the first k of them stand. -/
def wr32 (s : S8) (k : Nat) : List UInt8 := s.bytes.take k ++ List.replicate (32 - k) 0

theorem bytes_len (s : S8) : s.bytes.length = 32 := rfl

theorem wr32_len (s : S8) {k : Nat} (h : k ≤ 32) : (wr32 s k).length = 32 := by
  unfold wr32
  rw [List.length_append, List.length_take, List.length_replicate, bytes_len]; omega

theorem wr32_set (s : S8) {k : Nat} (h : k < 32) : (wr32 s k).set k (s.bytes.getD k 0) = wr32 s (k + 1) := by
  have hl : (s.bytes.take k).length = k := by rw [List.length_take, bytes_len]; omega
  have hk : k < s.bytes.length := by rw [bytes_len]; exact h
  unfold wr32
  rw [List.set_append_right _ _ (by omega), hl, Nat.sub_self, show 32 - k = (32 - (k + 1)) + 1 from by omega, List.replicate_succ, List.set_cons_zero, List.take_succ_eq_append_getElem hk, List.getD_eq_getElem?_getD, List.getElem?_eq_getElem hk, Option.getD_some, List.append_assoc]
  rfl

/-- The byte at 4 i + j. -/
theorem byte_at2 (s : S8) (i j : Nat) (hi : i < 8) (hj : j < 4) : s.bytes.getD (4 * i + j) 0 = UInt8.ofNat ((s.list.getD i 0).toNat / 2 ^ (24 - 8 * j)) := by
  have hm : ∀ z : Nat, UInt8.ofNat (z % 256) = UInt8.ofNat z := fun z => by
    apply UInt8.toNat_inj.1
    rw [UInt8.toNat_ofNat', UInt8.toNat_ofNat']; omega
  have hb : s.bytes = wordB s.a ++ (wordB s.b ++ (wordB s.c ++ (wordB s.d ++ (wordB s.e ++ (wordB s.f ++ (wordB s.g ++ (wordB s.h ++ []))))))) := rfl
  have hw : ∀ (x : UInt32), (j = 0 → (wordB x).getD j 0 = UInt8.ofNat (x.toNat / 2 ^ (24 - 8 * j))) ∧ (j = 1 → (wordB x).getD j 0 = UInt8.ofNat (x.toNat / 2 ^ (24 - 8 * j))) ∧ (j = 2 → (wordB x).getD j 0 = UInt8.ofNat (x.toNat / 2 ^ (24 - 8 * j))) ∧ (j = 3 → (wordB x).getD j 0 = UInt8.ofNat (x.toNat / 2 ^ (24 - 8 * j))) := by
    intro x
    refine ⟨?_, ?_, ?_, ?_⟩ <;> intro e <;> subst e
    · show UInt8.ofNat (x.toNat / 16777216 % 256) = _; rw [hm]
    · show UInt8.ofNat (x.toNat / 65536 % 256) = _; rw [hm]
    · show UInt8.ofNat (x.toNat / 256 % 256) = _; rw [hm]
    · show UInt8.ofNat (x.toNat % 256) = _; rw [hm]; simp
  have h4 : j = 0 ∨ j = 1 ∨ j = 2 ∨ j = 3 := by omega
  have h8 : i = 0 ∨ i = 1 ∨ i = 2 ∨ i = 3 ∨ i = 4 ∨ i = 5 ∨ i = 6 ∨ i = 7 := by omega
  have hwx : ∀ x, (wordB x).getD j 0 = UInt8.ofNat (x.toNat / 2 ^ (24 - 8 * j)) := by
    intro x
    obtain ⟨a, b, c, d⟩ := hw x
    rcases h4 with h | h | h | h
    · exact a h
    · exact b h
    · exact c h
    · exact d h
  clear hw
  rcases h8 with rfl | rfl | rfl | rfl | rfl | rfl | rfl | rfl
  · rw [← hwx]; rcases h4 with rfl | rfl | rfl | rfl <;> rfl
  · rw [← hwx]; rcases h4 with rfl | rfl | rfl | rfl <;> rfl
  · rw [← hwx]; rcases h4 with rfl | rfl | rfl | rfl <;> rfl
  · rw [← hwx]; rcases h4 with rfl | rfl | rfl | rfl <;> rfl
  · rw [← hwx]; rcases h4 with rfl | rfl | rfl | rfl <;> rfl
  · rw [← hwx]; rcases h4 with rfl | rfl | rfl | rfl <;> rfl
  · rw [← hwx]; rcases h4 with rfl | rfl | rfl | rfl <;> rfl
  · rw [← hwx]; rcases h4 with rfl | rfl | rfl | rfl <;> rfl

set_option maxRecDepth 100000 in
set_option maxHeartbeats 1600000 in
theorem written_any2 (s : S8) (w : World) :
    Calls Tryz.prog 96 #[v8 s] w fun e w' => e = .returned (.agg (cbs s.bytes).toArray) ∧ Below w.heap.size w w' := by
  have hv : v8 s = .agg #[.int .u32 (s.a.toNat : Int), .int .u32 (s.b.toNat : Int), .int .u32 (s.c.toNat : Int), .int .u32 (s.d.toNat : Int), .int .u32 (s.e.toNat : Int), .int .u32 (s.f.toNat : Int), .int .u32 (s.g.toNat : Int), .int .u32 (s.h.toNat : Int)] := rfl
  rw [hv]
  clear hv
  go_enter Tryz.func96, Tryz.ntmps96
  go_wp2
  go_loopw [8] (fun i wr => ∃ k : Nat, k ≤ 8 ∧ i = .int .i64 k ∧ Blk wr (w.heap.size + 1) 32 (cbs (List.replicate 32 0)) ∧ Blk wr (w.heap.size + 1 + 1) 32 (cbs (wr32 s (4 * k))) ∧ Below w.heap.size w wr) (fun i _ => 8 - (intOf i).toNat)
  case atStart =>
    exact ⟨0, by omega, rfl, (Blk.new rfl (by simp)).old _, Blk.new rfl (by simp), (((Below.refl _ _).alloc (Nat.le_refl _) _).alloc (by simp) _).alloc (by simp; omega) _⟩
  case round =>
    obtain ⟨k, hk, rfl, hR, hD, hnx⟩ := hrel
    by_cases hlt : k < 8
    · have hidx : ∀ W : World, (Instr.index 97 (.agg #[.int .u32 (s.a.toNat : Int), .int .u32 (s.b.toNat : Int), .int .u32 (s.c.toNat : Int), .int .u32 (s.d.toNat : Int), .int .u32 (s.e.toNat : Int), .int .u32 (s.f.toNat : Int), .int .u32 (s.g.toNat : Int), .int .u32 (s.h.toNat : Int)]) (.int .i64 (k : Int))).run Tryz.prog W = .ok (.int .u32 ((s.list.getD k 0).toNat : Int)) W := by
        have h8 : k = 0 ∨ k = 1 ∨ k = 2 ∨ k = 3 ∨ k = 4 ∨ k = 5 ∨ k = 6 ∨ k = 7 := by omega
        intro W
        rcases h8 with rfl | rfl | rfl | rfl | rfl | rfl | rfl | rfl <;> kernel_rfl
      have hby : ∀ j, j < 4 → s.bytes.getD (4 * k + j) 0 = UInt8.ofNat ((s.list.getD k 0).toNat / 2 ^ (24 - 8 * j)) := fun j hj => byte_at2 s k j hlt hj
      have hw := w_lt (s.list.getD k 0)
      generalize s.list.getD k 0 = x at *
      have Hby := Lib.hid hby
      have i0 : (0 : Int) ≤ (k : Int) := by omega
      have i1 : (k : Int) < 8 := by omega
      clear hby
      go_wp2
      obtain ⟨wo, hwo⟩ : ∃ wo : World, wo = wr := ⟨_, rfl⟩
      rw [← hwo]
      go_loopw [12] (fun j wr => ∃ m : Nat, m ≤ 4 ∧ j = .int .i64 m ∧ Blk wr (w.heap.size + 1) 32 (cbs (List.replicate 32 0)) ∧ Blk wr (w.heap.size + 1 + 1) 32 (cbs (wr32 s (4 * k + m))) ∧ Below w.heap.size w wr) (fun j _ => 4 - (intOf j).toNat)
      case atStart => rw [hwo]; exact ⟨0, by omega, rfl, hR, hD, hnx⟩
      case round =>
        clear hR hD hnx hwo
        obtain ⟨m, hm, rfl, hR, hD, hnx⟩ := hrel
        by_cases hmt : m < 4
        · have i2 : (0 : Int) ≤ (m : Int) := by omega
          have i3 : (m : Int) < 4 := by omega
          have d0 := hD.cell (i := 4 * k + m) (v := cb ((wr32 s (4 * k + m)).getD (4 * k + m) 0)) (by
            have hl := wr32_len s (k := 4 * k + m) (by omega)
            rw [cbs_get, List.getElem?_eq_getElem (by omega), List.getD_eq_getElem?_getD, List.getElem?_eq_getElem (by omega)]; rfl)
          have f0 := hD.free (4 * k + m)
          generalize cb ((wr32 s (4 * k + m)).getD (4 * k + m) 0) = old at *
          have hset := wr32_set s (k := 4 * k + m) (by omega)
          rw [Hby.out m hmt] at hset
          have Hset := Lib.hid hset
          clear hset
          go_wp2
          go_roundw
          case rel =>
            have ec : Value.int .u8 ((x.toNat : Int) / 2 ^ (24 - 8 * m) % 256) = cb (UInt8.ofNat (x.toNat / 2 ^ (24 - 8 * m))) := by
              rw [← cb_mod]; simp
            have hs := hD.set_ (4 * k + m) (cb (UInt8.ofNat (x.toNat / 2 ^ (24 - 8 * m))))
            rw [cbs_set, Hset.out] at hs
            rw [ec]
            exact ⟨m + 1, by omega, by go_num, hR.far (by dsimp only; omega) _, by rw [← Nat.add_assoc]; exact hs, hnx.setCell (by dsimp only; omega) _⟩
          case measure => simp [intOf]; omega
        · have e : m = 4 := by omega
          subst e
          have i3 : ¬ ((4 : Nat) : Int) < 4 := by omega
          clear hm hmt
          go_wp2
          go_roundw
          case rel => exact ⟨k + 1, by omega, by go_num, hR, by rw [show 4 * (k + 1) = 4 * k + 4 from by omega]; exact hD, hnx⟩
          case measure => simp [intOf]; omega
    · have e : k = 8 := by omega
      subst e
      have hD8 : Blk wr (w.heap.size + 1 + 1) 32 (cbs s.bytes) := hD
      have i3 : ¬ ((8 : Nat) : Int) < 8 := by omega
      have hth : wr.there (w.heap.size + 1) 0 (cbs s.bytes).toArray.size := hR.there
      have hR' := hR.setAll (vs := cbs s.bytes) rfl
      have hnx' : Below w.heap.size w (wr.setCells (w.heap.size + 1) 0 (cbs s.bytes)) := Below.setCells (by omega) _ hnx
      have hi : (Tryz.prog.info? 32).map (·.size) = some (cbs s.bytes).toArray.size := info32b
      have Hi := Lib.hid hi
      have Hth := Lib.hid hth
      have Hone := Lib.hid (cbs_one' s.bytes)
      clear hk hlt hD hR hnx hth hi
      generalize hvs : cbs s.bytes = vs at *
      have Hvs := Lib.hid hvs
      clear hvs
      go_wp2_with (first
        | refine wpList_load_row rfl 32 _ rfl (w.heap.size + 1 + 1) rfl 32 vs.toArray (0, 0) _ hD8 Tryz.underlying32 rfl Hi.out ?_
        | refine wpList_store_mid rfl 32 _ _ rfl (w.heap.size + 1) 0 vs.toArray rfl rfl Hth.out Hi.out Hone.out ?_)
      exact bodyPost_ret (results_cell_row rfl _ _ (w.heap.size + 1) 32 vs.toArray (0, 0) _ rfl hR' Tryz.underlying32 rfl Hi.out) rfl ⟨by rw [Hvs.out], hnx'⟩

end Go.Proofs.YtihmddpafbackaaGreat

namespace Go.Proofs.YtihmddpafbackaaGreat

set_option linter.unusedVariables false

/-- The 128 bytes, k of the length's bytes laid. -/
def tl (f : List UInt8) (r E bits k : Nat) : List UInt8 :=
  (List.range 128).map fun j => if j < r then f.getD j 0 else if j = r then 128 else if E - k ≤ j ∧ j < E then UInt8.ofNat (bits / 2 ^ (8 * (E - 1 - j))) else 0

theorem tl_len (f : List UInt8) (r E bits k : Nat) : (tl f r E bits k).length = 128 := by simp [tl]

theorem tl_at {f : List UInt8} {r E bits k j : Nat} (h : j < 128) : (tl f r E bits k)[j]? = some (if j < r then f.getD j 0 else if j = r then 128 else if E - k ≤ j ∧ j < E then UInt8.ofNat (bits / 2 ^ (8 * (E - 1 - j))) else 0) := by
  simp [tl, h]

theorem tl_set {f : List UInt8} {r E bits k : Nat} (hE : E ≤ 128) (hr : r + 9 ≤ E) (hk : k < 8) : (tl f r E bits k).set (E - 1 - k) (UInt8.ofNat (bits / 2 ^ (8 * k))) = tl f r E bits (k + 1) := by
  apply List.ext_getElem?
  intro j
  rcases Nat.lt_or_ge j 128 with hj | hj
  · rw [List.getElem?_set, tl_len, tl_at hj, tl_at hj]
    by_cases e : E - 1 - k = j
    · rw [if_pos e, if_pos (by omega), if_neg (by omega), if_neg (by omega), if_pos (by omega)]
      congr 4
      omega
    · rw [if_neg e]
      congr 1
      by_cases h1 : j < r
      · rw [if_pos h1, if_pos h1]
      · rw [if_neg h1, if_neg h1]
        by_cases h2 : j = r
        · rw [if_pos h2, if_pos h2]
        · rw [if_neg h2, if_neg h2]
          by_cases h3 : E - k ≤ j ∧ j < E
          · rw [if_pos h3, if_pos (by omega)]
          · rw [if_neg h3, if_neg (by omega)]
  · rw [List.getElem?_eq_none (by rw [List.length_set, tl_len]; exact hj), List.getElem?_eq_none (by rw [tl_len]; exact hj)]

theorem tl_first {f : List UInt8} {r E bits : Nat} (hf : f.length = r) (hr : r + 9 ≤ E) (hE : E ≤ 128) : (f ++ List.replicate (128 - r) 0).set r 128 = tl f r E bits 0 := by
  apply List.ext_getElem?
  intro j
  rcases Nat.lt_or_ge j 128 with hj | hj
  · rw [List.getElem?_set, tl_at hj]
    by_cases e : r = j
    · subst e
      rw [if_pos rfl, if_pos (by rw [List.length_append, List.length_replicate]; omega), if_neg (by omega), if_pos rfl]
    · rw [if_neg e]
      by_cases h1 : j < r
      · rw [if_pos h1, List.getElem?_append_left (by omega), List.getD_eq_getElem?_getD, List.getElem?_eq_getElem (by omega)]; rfl
      · rw [if_neg h1, if_neg (by omega), if_neg (by omega), List.getElem?_append_right (by omega), List.getElem?_replicate, if_pos (by omega)]
  · rw [List.getElem?_eq_none (by rw [List.length_set, List.length_append, List.length_replicate]; omega), List.getElem?_eq_none (by rw [tl_len]; exact hj)]

/-- Where the length ends. -/
def Eend (r : Nat) : Nat := if r < 56 then 64 else 128

theorem Eend_le (r : Nat) : Eend r = 64 ∨ Eend r = 128 := by unfold Eend; split <;> simp

theorem tl_last (l : List UInt8) : (tl (left l) (l.length % 64) (Eend (l.length % 64)) (l.length * 8) 8).take (Eend (l.length % 64)) = last l := by
  have hl := left_len l
  have hll := last_len l
  have hEl : (last l).length = Eend (l.length % 64) := by rw [hll]; rfl
  have hE := Eend_le (l.length % 64)
  have hgap : gap l.length + (l.length % 64) + 9 = Eend (l.length % 64) := by unfold gap Eend; split <;> omega
  apply List.ext_getElem?
  intro j
  rcases Nat.lt_or_ge j (Eend (l.length % 64)) with hj | hj
  · rw [List.getElem?_take, if_pos hj, tl_at (by omega)]
    unfold last
    by_cases h1 : j < l.length % 64
    · rw [if_pos h1, List.getElem?_append_left (by omega), List.getD_eq_getElem?_getD, List.getElem?_eq_getElem (by omega)]; rfl
    · rw [if_neg h1, List.getElem?_append_right (by omega), hl]
      by_cases h2 : j = l.length % 64
      · rw [if_pos h2, h2, Nat.sub_self]; rfl
      · rw [if_neg h2]
        obtain ⟨q, hq⟩ : ∃ q, j - l.length % 64 = q + 1 := ⟨j - l.length % 64 - 1, by omega⟩
        rw [hq, List.getElem?_cons_succ]
        by_cases h3 : Eend (l.length % 64) - 8 ≤ j ∧ j < Eend (l.length % 64)
        · rw [if_pos h3, List.getElem?_append_right (by rw [List.length_replicate]; omega), List.length_replicate]
          obtain ⟨i, hi⟩ : ∃ i, q - gap l.length = i := ⟨_, rfl⟩
          have hi8 : i < 8 := by omega
          rw [hi]
          unfold be8
          rw [List.getElem?_map, List.getElem?_range hi8]
          show some _ = some _
          congr 1
          have e1 : Eend (l.length % 64) - 1 - j = 7 - i := by omega
          rw [e1, Nat.mul_comm 8 l.length, Nat.pow_mul, show 2 ^ 8 = 256 from rfl]
          apply UInt8.toNat_inj.1
          rw [UInt8.toNat_ofNat', UInt8.toNat_ofNat']
          omega
        · rw [if_neg h3, List.getElem?_append_left (by rw [List.length_replicate]; omega), List.getElem?_replicate, if_pos (by omega)]
  · rw [List.getElem?_eq_none (by rw [List.length_take]; omega), List.getElem?_eq_none (by omega)]

theorem eat_more (s : S8) (m : Nat) (l : List UInt8) : eat s (m + 1) l = rnd (eat s m l) ((l.drop (64 * m)).take 64) := by
  rw [eat_add]; rfl

theorem last_part {T L : List UInt8} {E m : Nat} (h : T.take E = L) (hm : 64 * (m + 1) ≤ E) : (T.drop (64 * m)).take 64 = (L.drop (64 * m)).take 64 := by
  rw [← h, List.drop_take, List.take_take]
  congr 1
  omega

theorem digest_at (l : List UInt8) (m : Nat) (h : 64 * m = Eend (l.length % 64)) : digest l = (eat (whole l) m (last l)).bytes := by
  have hl : (last l).length = Eend (l.length % 64) := by rw [last_len]; rfl
  rw [digest_last, hl]
  congr 2
  omega

end Go.Proofs.YtihmddpafbackaaGreat

namespace Go.Proofs.YtihmddpafbackaaGreat

open Go.RowKit

set_option linter.unusedVariables false

theorem u8_one : (Tryz.prog.info? 5).map (·.size) = some 1 := by kernel_rfl

/-- copy(d, s) of bytes: the first ones of 'l' are laid down from ⟨g, off⟩ on. -/
theorem wp_copyB {w : World} {ops : Array Oper} {rest : List Oper} {o : Oper} {a : Act} {Q : Exit → Act → World → Prop} (hgd : o.guard = none) (d s : Operand)
    (ho : o.op = .call { callee := .builtin .copy, args := #[d, s], argTypes := #[22, 22] })
    (g off dLen dCap : Nat) (sA : Option Addr) (sLen sCap : Nat) (hd : a.eval d = .slice (some ⟨g, off, none⟩) dLen dCap) (hs : a.eval s = .slice sA sLen sCap)
    (l : List UInt8) (hl : l.length = sLen) (hB : Bs w sA l) (m : Nat) (hm : m = min sLen dLen) (hth : w.there g off m)
    (h : wpList Tryz.prog ops Q rest (a.put o.dst (.int .i64 (m : Int))) (w.setCells g off (cbs (l.take m)))) : wpList Tryz.prog ops Q (o :: rest) a w := by
  have hlm : (cbs (l.take m)).length = m := by rw [cbs_length, List.length_take]; omega
  have hrun : (Builtin.copy_ #[22, 22] o.type #[.slice (some ⟨g, off, none⟩) dLen dCap, .slice sA sLen sCap]).run Tryz.prog w = .ok (.int .i64 (m : Int)) (w.setCells g off (cbs (l.take m))) := by
    rcases Nat.eq_zero_or_pos m with h0 | h0
    · subst h0
      have := run_copy_none (P := Tryz.prog) w 22 22 o.type 5 (some ⟨g, off, none⟩) sA dLen dCap sLen sCap Tryz.underlying22 u8_one (by show min sLen dLen = 0; omega)
      rw [this]
      rfl
    · obtain ⟨b, so, rfl, _, hc⟩ := hB.2 (by omega)
      have := run_copy_cells (P := Tryz.prog) w 22 22 o.type 5 g off dLen dCap ⟨b, so, none⟩ sLen sCap (cbs (l.take m)) Tryz.underlying22 u8_one (by rw [hlm]; exact hm)
        (fun j v hv => by rw [add_mk]; exact hc j v (by
          have hj : j < m := by
            rcases Nat.lt_or_ge j (cbs (l.take m)).length with h1 | h1
            · omega
            · rw [List.getElem?_eq_none h1] at hv; cases hv
          rw [cbs_take, List.getElem?_take, if_pos hj] at hv; exact hv)) (fun j hj => (hth j (by omega)).1) (fun j hj => (hth j (by omega)).2) (cbs_one _)
      rw [this, hlm]
      rfl
  refine wpList_plain hgd fun K hK => ?_
  unfold Oper.wp
  simp [execOp, ho, resolve, invoke, builtin, hd, hs, hrun, Result.andThen]
  exact hK _ _ h

/-- A hash that holds the bytes l. -/
def Hold (w : World) (g : Nat) (l : List UInt8) : Prop := ∃ rest, HB w g (whole l) rest l.length ∧ rest.take (l.length % 64) = left l

theorem Hold.alloc {w : World} {g : Nat} {l : List UInt8} (h : Hold w g l) (o : Obj) : Hold (w.alloc o) g l := by
  obtain ⟨rest, h1, h2⟩ := h
  exact ⟨rest, h1.alloc o, h2⟩

theorem HB.far {w : World} {g : Nat} {s : S8} {rest : List UInt8} {n : Nat} (h : HB w g s rest n) {p : Addr} (hp : g ≠ p.block) (v : Value) : HB (w.setCell p v) g s rest n := by
  obtain ⟨d, ks, hB, h2⟩ := h
  exact ⟨d, ks, hB.far hp v, h2⟩

theorem HB.farAll {w : World} {g : Nat} {s : S8} {rest : List UInt8} {n : Nat} (h : HB w g s rest n) {b : Nat} (hp : g ≠ b) (o : Nat) (vs : List Value) : HB (w.setCells b o vs) g s rest n := by
  obtain ⟨d, ks, hB, h2⟩ := h
  exact ⟨d, ks, Blk.farAll hp vs hB, h2⟩

theorem HB.drew {w : World} {g : Nat} {s : S8} {rest : List UInt8} {n : Nat} (h : HB w g s rest n) : HB w.drew g s rest n := h

theorem HB.len {w : World} {g : Nat} {s : S8} {rest : List UInt8} {n : Nat} (h : HB w g s rest n) : rest.length = 64 := by obtain ⟨_, _, _, h2, _⟩ := h; exact h2

theorem HB.lt {w : World} {g : Nat} {s : S8} {rest : List UInt8} {n : Nat} (h : HB w g s rest n) : g < w.heap.size := by obtain ⟨_, _, hB, _⟩ := h; exact hB.lt

theorem HB.size {w : World} {g : Nat} {s : S8} {rest : List UInt8} {n : Nat} (h : HB w g s rest n) : w.cell? ⟨g, 73, none⟩ = some (.int .i64 (n : Int)) := by obtain ⟨_, _, hB, hr, _⟩ := h; exact hB.cell (hc_size hr)

theorem HB.state {w : World} {g : Nat} {s : S8} {rest : List UInt8} {n : Nat} (h : HB w g s rest n) : w.rangeAt g 1 (l8 s) := by obtain ⟨_, _, hB, hr, _⟩ := h; exact fun j v hv => hB.cell (hc_state hv)

theorem HB.rest {w : World} {g : Nat} {s : S8} {rest : List UInt8} {n : Nat} (h : HB w g s rest n) : w.rangeAt g 9 (cbs rest) := by obtain ⟨_, _, hB, hr, _⟩ := h; exact fun j v hv => hB.cell (hc_rest hv)

theorem HB.there {w : World} {g : Nat} {s : S8} {rest : List UInt8} {n : Nat} (h : HB w g s rest n) {o m : Nat} (ho : o + m ≤ 141) : w.there g o m := by
  obtain ⟨_, _, hB, hr, hk, _⟩ := h
  exact hB.thereAt (by rw [hc_len hr hk]; exact ho)

theorem HB.made {w : World} {g : Nat} {s : S8} {rest : List UInt8} {n : Nat} (h : HB w g s rest n) : w.cell? ⟨g, 0, none⟩ = some (.bool true) := by obtain ⟨_, _, hB, _⟩ := h; exact hB.cell hc_made

theorem HB.restBs {w : World} {g : Nat} {s : S8} {rest : List UInt8} {n r : Nat} (h : HB w g s rest n) (hr : r ≤ 64) : Bs w (some ⟨g, 9, none⟩) (rest.take r) := by
  have hl := h.len
  have hlt := h.lt
  refine ⟨by rw [cbs_length]; omega, fun _ => ⟨g, 9, rfl, hlt, fun j u hu => h.rest j u ?_⟩⟩
  rw [cbs_take] at hu
  rw [List.getElem?_take] at hu
  split at hu
  · exact hu
  · cases hu

theorem HB.touched {w w' : World} {g k : Nat} {s : S8} {rest : List UInt8} {n : Nat} (h : HB w g s rest n) (hb : But k w w') (hne : g ≠ k) : HB w' g s rest n := by
  obtain ⟨d, ks, hB, h2⟩ := h
  exact ⟨d, ks, hb.blk hB hne, h2⟩

theorem HB.below {w w' : World} {g : Nat} {s : S8} {rest : List UInt8} {n : Nat} (h : HB w g s rest n) (hb : Below w.heap.size w w') : HB w' g s rest n := by
  obtain ⟨d, ks, hB, h2⟩ := h
  exact ⟨d, ks, hB.below hb hB.lt, h2⟩

theorem run_rest (g r : Nat) (h : r ≤ 64) (W : World) : (Instr.sliceAt 99 (.pointer (some ⟨g, 9, none⟩)) none (some (.int .i64 (r : Int))) none).run Tryz.prog W = .ok (.slice (some ⟨g, 9, none⟩) r 64) W := by
  have h1 : (r : Int) ≤ 64 := by omega
  have h2 : (0 : Int) ≤ (r : Int) := by omega
  go_simp

theorem run_cut128 (g a c : Nat) (h : a = 0 ∨ a = 64) (hc : c = a + 64) (W : World) : (Instr.sliceAt 119 (.pointer (some ⟨g, 0, none⟩)) (some (.int .i64 (a : Int))) (some (.int .i64 (c : Int))) none).run Tryz.prog W = .ok (.slice (some ⟨g, a, none⟩) 64 (128 - a)) W := by
  have f0 : (Instr.sliceAt 119 (.pointer (some ⟨g, 0, none⟩)) (some (.int .i64 0)) (some (.int .i64 64)) none).run Tryz.prog W = .ok (.slice (some ⟨g, 0, none⟩) 64 128) W := by go_simp
  have f1 : (Instr.sliceAt 119 (.pointer (some ⟨g, 0, none⟩)) (some (.int .i64 64)) (some (.int .i64 128)) none).run Tryz.prog W = .ok (.slice (some ⟨g, 64, none⟩) 64 64) W := by go_simp
  subst hc
  rcases h with rfl | rfl
  · exact f0
  · exact f1

theorem run_array64 (g a c : Nat) (W : World) : (Instr.arrayAt 99 (.slice (some ⟨g, a, none⟩) 64 c)).run Tryz.prog W = .ok (.pointer (some ⟨g, a, none⟩)) W := by
  kernel_rfl

theorem cut_range {w : World} {g : Nat} {t : TypeId} {T : List UInt8} (h : Blk w g t (cbs T)) (o : Nat) : w.rangeAt g o (cbs ((T.drop o).take 64)) := by
  intro j v hv
  refine h.cell (i := o + j) ?_
  rw [cbs_take, List.getElem?_take, cbs_drop, List.getElem?_drop] at hv
  split at hv
  · exact hv
  · cases hv

theorem info64b : (Tryz.prog.info? 99).map (·.size) = some 64 := by kernel_rfl

set_option maxRecDepth 100000 in
set_option maxHeartbeats 3200000 in
theorem digest_any (g : Nat) (l : List UInt8) (w : World) (hl : l.length ≤ 281474976710656) (h : Hold w g l) :
    Calls Tryz.prog 75 #[.pointer (some ⟨g, 0, none⟩)] w fun e w' => e = .returned (.agg (cbs (digest l)).toArray) ∧ (Hold w' g l ∧ But g w w') := by
  obtain ⟨rest, hH, hrest⟩ := h
  have hgl := hH.lt
  have hrl := hH.len
  obtain ⟨n, hn⟩ : ∃ n, n = l.length := ⟨_, rfl⟩
  obtain ⟨r, hr⟩ : ∃ r, r = n % 64 := ⟨_, rfl⟩
  have hrlt : r < 64 := by omega
  have e1 : (n : Int).tmod 64 = (r : Int) := by rw [Int.tmod_eq_emod_of_nonneg (by omega)]; omega
  have e2 : (n : Int) % 64 = (r : Int) := by omega
  have e3 : IntKind.i64.wrap (r : Int) = (r : Int) := IntWalk.i64_in _ (by omega)
  have esl := run_rest g r (by omega)
  have i0 : (0 : Int) ≤ (r : Int) := by omega
  have i1 : (r : Int) < 64 := by omega
  have HH := Lib.hid (And.intro hH (And.intro hrest (And.intro hn (And.intro hr (And.intro hrl hl)))))
  clear hH hrest hn hr hrl hl
  go_enter Tryz.func75, Tryz.ntmps75
  go_upto_region 1 with fail
  go_cut [3] (fun p wx => p = .pointer (some ⟨w.heap.size + 1, 0, none⟩) ∧ HB wx g (whole l) rest l.length ∧ Blk wx w.heap.size 32 (cbs (List.replicate 32 0)) ∧
      Blk wx (w.heap.size + 1) 119 (cbs (List.replicate 128 0)) ∧ But g w wx)
  case first =>
    go_wp2_with fail
    go_meet
    exact ⟨rfl, (HH.out.1.alloc _).alloc _, (Blk.new rfl rfl).old _, Blk.new (by kernel_rfl) (by simp), ((But.refl g w).then_below ((Below.refl _ _).alloc (Nat.le_refl _) _)).then_below ((Below.refl _ _).alloc (Nat.le_refl _) _)⟩
  case rest =>
    obtain ⟨rfl, hH, hD, hT, hbut⟩ := hcut
    have hsz := hH.size
    rw [← HH.out.2.2.1] at hsz
    have g1 := hT.lt
    have hBs := hH.restBs (r := r) (by omega)
    have hth : wc.there (w.heap.size + 1) 0 r := hT.thereAt (by rw [cbs_length, List.length_replicate]; omega)
    have hlr : (rest.take r).length = r := by rw [List.length_take, HH.out.2.2.2.2.1]; omega
    have Hx := Lib.hid (And.intro hH (And.intro hD (And.intro hT (And.intro hbut (And.intro hBs (And.intro hth hlr))))))
    clear hH hD hT hbut hBs hth hlr
    go_wp2_with fail
    refine wp_region_still_tail 10 (by kernel_rfl) (by kernel_rfl) ?_
    change wpStill _ _ wc.drew (fun a' => wpList _ _ _ _ a' wc.drew) _ _
    simp only [List.take_succ_cons, List.take_zero, List.drop_succ_cons, List.drop_zero]
    still_step
    still_step
    still_step
    still_step
    still_step
    still_step
    still_step
    still_step
    still_step
    still_step
    refine wpStill_nil ?_
    obtain ⟨hH, hD, hT, hbut, hBs, hth, hlr⟩ := Hx.out
    obtain ⟨_, hrest, hn, hr, hrl, hl⟩ := HH.out
    refine wp_copyB rfl (.tmp 10) (.tmp 19) rfl (w.heap.size + 1) 0 128 128 (some ⟨g, 9, none⟩) r 64 rfl rfl (rest.take r) hlr hBs r (by omega) hth ?_
    have hleft : (rest.take r).take r = left l := by rw [List.take_take, Nat.min_self, hr, hn]; exact hrest
    rw [hleft]
    have hll : (left l).length = r := by rw [left_len, hr, hn]
    have p1 := Blk.setMore (w := w) (cbs (left l)) (show Blk wc.drew (w.heap.size + 1) 119 (cbs (List.replicate 128 0)) from hT) (o := 0) (by rw [cbs_length, cbs_length, List.length_replicate]; omega)
    have e0 : (cbs (List.replicate 128 0)).take 0 ++ cbs (left l) ++ (cbs (List.replicate 128 0)).drop (0 + (cbs (left l)).length) = cbs (left l ++ List.replicate (128 - r) 0) := by
      rw [cbs_length, hll, List.take_zero, List.nil_append, Nat.zero_add, ← cbs_drop, List.drop_replicate, ← cbs_append]
    rw [e0] at p1
    have p2 := HB.farAll (w := wc.drew) hH (b := w.heap.size + 1) (by omega) 0 (cbs (left l))
    have p3 := Blk.farAll (g' := w.heap.size + 1) (by omega) (cbs (left l)) (w := wc.drew) (o := 0) hD
    have p4 : But g w (wc.drew.setCells (w.heap.size + 1) 0 (cbs (left l))) := But.setCells (.inr (by omega)) _ hbut.drew
    clear hH hD hT hbut hBs hth hlr e0 hleft
    generalize wc.drew.setCells (w.heap.size + 1) 0 (cbs (left l)) = w1 at *
    have d0 : w1.cell? ⟨w.heap.size + 1, r, none⟩ = some (cb ((left l ++ List.replicate (128 - r) 0).getD r 0)) := p1.cell (i := r) (by
      rw [cbs_get, List.getElem?_eq_getElem (by rw [List.length_append, List.length_replicate]; omega), List.getD_eq_getElem?_getD, List.getElem?_eq_getElem (by rw [List.length_append, List.length_replicate]; omega)]; rfl)
    have f0 := p1.free r
    generalize cb ((left l ++ List.replicate (128 - r) 0).getD r 0) = old at *
    have i2 : (r : Int) < 128 := by omega
    have Hy := Lib.hid (And.intro p1 (And.intro p2 (And.intro p3 (And.intro p4 hll))))
    clear p1 p2 p3 p4 hll hrest hn hr hrl hl hsz
    go_upto_if 26 with (fail)
    go_cut [5] (fun p wx => p = .int .i64 (Eend r : Int) ∧ HB wx g (whole l) rest l.length ∧ Blk wx w.heap.size 32 (cbs (List.replicate 32 0)) ∧
      Blk wx (w.heap.size + 1) 119 (cbs (tl (left l) r (Eend r) (n * 8) 0)) ∧ But g w wx)
    case first =>
      obtain ⟨p1, p2, p3, p4, hll⟩ := Hy.out
      have hE := Eend_le r
      have p5 := p1.set_ r (cb 128)
      rw [cbs_set, tl_first (E := Eend r) (bits := n * 8) hll (by unfold Eend; split <;> omega) (by omega)] at p5
      have Hz := Lib.hid (And.intro p5 (And.intro p2 (And.intro p3 (And.intro p4 (show g ≠ w.heap.size + 1 by omega)))))
      clear p1 p2 p3 p4 p5 hll hE
      by_cases h56 : r < 56
      · have hEe : Eend r = 64 := by unfold Eend; rw [if_pos h56]
        have HE := Lib.hid hEe
        have i3 : (r : Int) < 56 := by omega
        clear hEe h56
        go_wp2_with fail
        go_meet
        obtain ⟨p5, p2, p3, p4, hg⟩ := Hz.out
        exact ⟨by rw [HE.out]; rfl, p2.far hg _, p3.far (by show w.heap.size ≠ w.heap.size + 1; omega) _, p5, p4.setCell (.inr (by show w.heap.size ≤ w.heap.size + 1; omega)) _⟩
      · have hEe : Eend r = 128 := by unfold Eend; rw [if_neg h56]
        have HE := Lib.hid hEe
        have i3 : ¬ (r : Int) < 56 := by omega
        clear hEe h56
        go_wp2_with fail
        go_meet
        obtain ⟨p5, p2, p3, p4, hg⟩ := Hz.out
        exact ⟨by rw [HE.out]; rfl, p2.far hg _, p3.far (by show w.heap.size ≠ w.heap.size + 1; omega) _, p5, p4.setCell (.inr (by show w.heap.size ≤ w.heap.size + 1; omega)) _⟩
    case rest =>
      clear Hy Hx d0 f0
      obtain ⟨rfl, hH, hD, hT, hbut⟩ := hcut
      have hsz := hH.size
      rw [← HH.out.2.2.1] at hsz
      have hE := Eend_le r
      have hrE : r + 9 ≤ Eend r := by unfold Eend; split <;> omega
      have j0 : (n : Int) ≤ 281474976710656 := by have := HH.out.2.2.1; have := HH.out.2.2.2.2.2; omega
      have j1 : (0 : Int) ≤ (n : Int) := by omega
      obtain ⟨E, hEE⟩ : ∃ E, E = Eend r := ⟨_, rfl⟩
      rw [← hEE] at hE hrE hT ⊢
      have k0 : (64 : Int) ≤ (E : Int) := by omega
      have k1 : (E : Int) ≤ 128 := by omega
      have HE := Lib.hid (And.intro hEE (And.intro hE hrE))
      clear hEE hE hrE
      go_wp2
      go_loopw [33] (fun i wr => ∃ k : Nat, k ≤ 8 ∧ i = .int .i64 k ∧ HB wr g (whole l) rest l.length ∧ Blk wr w.heap.size 32 (cbs (List.replicate 32 0)) ∧
        Blk wr (w.heap.size + 1) 119 (cbs (tl (left l) r E (n * 8) k)) ∧ But g w wr) (fun i _ => 8 - (intOf i).toNat)
      case atStart => exact ⟨0, by omega, rfl, hH, hD, hT, hbut⟩
      case round =>
        clear hsz hH hD hT hbut
        obtain ⟨k, hk, rfl, hH, hD, hT, hbut⟩ := hrel
        have hE := HE.out.2.1
        have hrE := HE.out.2.2
        by_cases hlt : k < 8
        · have i2 : (0 : Int) ≤ (k : Int) := by omega
          have i3 : (k : Int) < 8 := by omega
          have v1 : (0 : Int) ≤ (E : Int) - 1 - (k : Int) := by omega
          have v2 : (E : Int) - 1 - (k : Int) < 128 := by omega
          have v3 : ((E : Int) - 1 - (k : Int)).toNat = E - 1 - k := by omega
          have d0 := hT.cell (i := E - 1 - k) (v := cb ((tl (left l) r E (n * 8) k).getD (E - 1 - k) 0)) (by
            have hl := tl_len (left l) r E (n * 8) k
            rw [cbs_get, List.getElem?_eq_getElem (by omega), List.getD_eq_getElem?_getD, List.getElem?_eq_getElem (by omega)]; rfl)
          have f0 := hT.free (E - 1 - k)
          generalize cb ((tl (left l) r E (n * 8) k).getD (E - 1 - k) 0) = old at *
          have hset := tl_set (f := left l) (r := r) (E := E) (bits := n * 8) (k := k) (by omega) hrE hlt
          have Hset := Lib.hid (And.intro hset (And.intro hk hlt))
          clear hset hE hrE hk hlt
          go_wp2
          go_roundw
          case rel =>
            obtain ⟨hset, hk, hlt⟩ := Hset.out
            have ec : Value.int .u8 ((n : Int) * 8 / 2 ^ (8 * k) % 256) = cb (UInt8.ofNat (n * 8 / 2 ^ (8 * k))) := by
              rw [← cb_mod]; simp
            have hs := hT.set_ (E - 1 - k) (cb (UInt8.ofNat (n * 8 / 2 ^ (8 * k))))
            rw [cbs_set, hset] at hs
            rw [ec]
            exact ⟨k + 1, by omega, by go_num, hH.far (by show g ≠ w.heap.size + 1; omega) _, hD.far (by show w.heap.size ≠ w.heap.size + 1; omega) _, hs, hbut.setCell (.inr (by show w.heap.size ≤ w.heap.size + 1; omega)) _⟩
          case measure => simp [intOf]; omega
        · have e : k = 8 := by omega
          subst e
          have i3 : ¬ ((8 : Nat) : Int) < 8 := by omega
          have Hw := Lib.hid (And.intro hH (And.intro hD (And.intro hT hbut)))
          have hst := hH.state
          have Hst := Lib.hid hst
          have hgr := hH.lt
          have hBr := hT.lt
          clear hk hlt hE hrE hH hD hT hbut hst
          go_upto_region 13 with fail
          go_cut [8] (fun p wx => ∃ b : Nat, p = .pointer (some ⟨b, 0, none⟩) ∧ w.heap.size + 1 < b ∧ Blk wx b 97 (l8 (whole l)) ∧ HB wx g (whole l) rest l.length ∧ Blk wx w.heap.size 32 (cbs (List.replicate 32 0)) ∧
            Blk wx (w.heap.size + 1) 119 (cbs (tl (left l) r E (n * 8) 8)) ∧ But g w wx)
          case first =>
            obtain ⟨hH, hD, hT, hbut⟩ := Hw.out
            have hZ : Blk (wr.alloc (.cells #[.int .u32 0, .int .u32 0, .int .u32 0, .int .u32 0, .int .u32 0, .int .u32 0, .int .u32 0, .int .u32 0] 97)) wr.heap.size 97 (l8 ⟨0, 0, 0, 0, 0, 0, 0, 0⟩) := Blk.new rfl rfl
            have hth : (wr.alloc (.cells #[.int .u32 0, .int .u32 0, .int .u32 0, .int .u32 0, .int .u32 0, .int .u32 0, .int .u32 0, .int .u32 0] 97)).there wr.heap.size 0 8 := hZ.there
            have hR := hZ.setAll (vs := l8 (whole l)) rfl
            have Hz := Lib.hid (And.intro hR (And.intro (HB.farAll (w := wr.alloc (.cells #[.int .u32 0, .int .u32 0, .int .u32 0, .int .u32 0, .int .u32 0, .int .u32 0, .int .u32 0, .int .u32 0] 97)) (hH.alloc _) (b := wr.heap.size) (by omega) 0 (l8 (whole l)))
              (And.intro (Blk.farAll (w := wr.alloc (.cells #[.int .u32 0, .int .u32 0, .int .u32 0, .int .u32 0, .int .u32 0, .int .u32 0, .int .u32 0, .int .u32 0] 97)) (g' := wr.heap.size) (by omega) (l8 (whole l)) (o := 0) (hD.old _))
              (And.intro (Blk.farAll (w := wr.alloc (.cells #[.int .u32 0, .int .u32 0, .int .u32 0, .int .u32 0, .int .u32 0, .int .u32 0, .int .u32 0, .int .u32 0] 97)) (g' := wr.heap.size) (by omega) (l8 (whole l)) (o := 0) (hT.old _))
              (But.setCells (b := wr.heap.size) (o := 0) (.inr (by omega)) (l8 (whole l)) (hbut.then_below ((Below.refl _ _).alloc (Nat.le_refl _) (.cells #[.int .u32 0, .int .u32 0, .int .u32 0, .int .u32 0, .int .u32 0, .int .u32 0, .int .u32 0, .int .u32 0] 97))))))))
            have Hth := Lib.hid hth
            have Hone := Lib.hid (show (l8 (whole l)).toArray.all (·.oneCell') = true from cws_one (whole l).list)
            clear hH hD hT hbut hZ hth hR
            go_wp2_with (first
              | refine wpList_load_mid rfl 97 _ rfl g 1 rfl (l8 (whole l)) _ Hst.out Tryz.underlying97 rfl info8w ?_
              | refine wpList_store_mid rfl 97 _ _ rfl wr.heap.size 0 (l8 (whole l)).toArray rfl rfl Hth.out info8w Hone.out ?_)
            go_meet
            exact ⟨wr.heap.size, rfl, by omega, Hz.out.1, Hz.out.2.1, Hz.out.2.2.1, Hz.out.2.2.2.1, Hz.out.2.2.2.2⟩
          case rest =>
            clear Hw Hst hgr hBr
            obtain ⟨b, rfl, hb, hS, hH, hD, hT, hbut⟩ := hcut
            obtain ⟨_, hrest, hn, hr, hrl, hl⟩ := HH.out
            have hE := HE.out.2.1
            have hTl : (tl (left l) r E (n * 8) 8).take E = last l := by
              rw [HE.out.1, hr, hn]; exact tl_last l
            have hTlen := tl_len (left l) r E (n * 8) 8
            have hE64 : E = 64 * (E / 64) := by omega
            obtain ⟨q, hq⟩ : ∃ q, E = 64 * q := ⟨E / 64, hE64⟩
            have hdig := digest_at l q (by rw [← hq, HE.out.1, hr, hn])
            generalize tl (left l) r E (n * 8) 8 = T at *
            have hq2 : q ≤ 2 := by omega
            have k2 : (E : Int) = 64 * (q : Int) := by omega
            have Hf := Lib.hid (And.intro hTl (And.intro hTlen (And.intro hdig (And.intro hrest (And.intro hq hq2)))))
            have Hk2 := Lib.hid k2
            clear hTl hTlen hE64 hdig hrest hn hr hrl hl hE hq hq2 k2
            go_wp2
            go_loopw [9] (fun i wr => ∃ m a : Nat, m ≤ q ∧ a = 64 * m ∧ i = .int .i64 (a : Int) ∧ Blk wr b 97 (l8 (eat (whole l) m (last l))) ∧ HB wr g (whole l) rest l.length ∧ Blk wr w.heap.size 32 (cbs (List.replicate 32 0)) ∧
              Blk wr (w.heap.size + 1) 119 (cbs T) ∧ But g w wr) (fun i _ => 1000 - (intOf i).toNat)
            case atStart => exact ⟨0, 0, by omega, rfl, rfl, hS, hH, hD, hT, hbut⟩
            case round =>
              clear hS hH hD hT hbut
              obtain ⟨m, a, hm, ha, rfl, hS, hH, hD, hT, hbut⟩ := hrel
              have hq2 := Hf.out.2.2.2.2.2
              have hq := Hf.out.2.2.2.2.1
              by_cases hlt : m < q
              · obtain ⟨c, hc⟩ : ∃ c, c = a + 64 := ⟨_, rfl⟩
                have t1 : (a : Int) < (E : Int) := by omega
                have t2 : (a : Int) + 64 = (c : Int) := by omega
                have t3 : IntKind.i64.wrap (c : Int) = (c : Int) := IntWalk.i64_in _ (by omega)
                have esl2 := run_cut128 (w.heap.size + 1) a c (by omega) hc
                have earr := run_array64 (w.heap.size + 1) a (128 - a)
                have hbs : ((T.drop (64 * m)).take 64).length = 64 := by rw [List.length_take, List.length_drop, Hf.out.2.1]; omega
                have hnext : eat (whole l) (m + 1) (last l) = rnd (eat (whole l) m (last l)) ((T.drop (64 * m)).take 64) := by
                  rw [eat_more, last_part Hf.out.1 (by omega)]
                have hi2 : (Tryz.prog.info? 99).map (·.size) = some (cbs ((T.drop (64 * m)).take 64)).length := by rw [cbs_length, hbs]; exact info64b
                have hrg : wr.rangeAt (w.heap.size + 1) a (cbs ((T.drop (64 * m)).take 64)) := by
                  have := cut_range hT (64 * m)
                  rw [ha]; exact this
                have hi8 : (Tryz.prog.info? 97).map (·.size) = some (l8 (eat (whole l) m (last l))).length := info8w
                have hS0 := hS.range
                obtain ⟨r8, hr8, hr8l, hr8o⟩ : ∃ r8 : List Value, l8 (eat (whole l) (m + 1) (last l)) = r8 ∧ r8.length = 8 ∧ r8.toArray.all (·.oneCell') = true := ⟨_, rfl, rfl, cws_one (eat (whole l) (m + 1) (last l)).list⟩
                have htk := fun W hW => take_any g (whole l) (eat (whole l) m (last l)) rest ((T.drop (64 * m)).take 64) l.length W hbs hW
                rw [← hnext] at htk
                have hv8 : v8 (eat (whole l) (m + 1) (last l)) = .agg r8.toArray := by unfold v8; rw [hr8]
                rw [hv8] at htk
                have hold8 : v8 (eat (whole l) m (last l)) = .agg (l8 (eat (whole l) m (last l))).toArray := rfl
                rw [hold8] at htk
                have Hnext := Lib.hid (And.intro hr8 (And.intro hr8l (And.intro hr8o (And.intro hlt (And.intro ha hc)))))
                have Htk := Lib.hid htk
                have Hs := Lib.hid (And.intro hS (And.intro hH (And.intro hD (And.intro hT hbut))))
                have Hr := Lib.hid (And.intro hrg (And.intro hS0 (And.intro hi2 hi8)))
                clear hq hq2 hbs hnext hi2 hi8 hrg hS0 hr8 hr8l hr8o htk hv8 hold8 hS hH hD hT hbut hlt hm ha hc
                generalize l8 (eat (whole l) m (last l)) = o8 at *
                generalize cbs ((T.drop (64 * m)).take 64) = bs at *
                go_wp2_with fail
                refine wp_region_still_tail 8 (by kernel_rfl) (by kernel_rfl) ?_
                change wpStill _ _ wr.drew (fun a' => wpList _ _ _ _ a' wr.drew) _ _
                simp only [List.take_succ_cons, List.take_zero, List.drop_succ_cons, List.drop_zero]
                still_step
                refine wpStill_load_mid rfl _ _ rfl b 0 rfl o8 _ Hr.out.2.1 Tryz.underlying97 rfl Hr.out.2.2.2 ?_
                simp only [Act.put, List.setIfInBounds_toArray, List.set_cons_zero, List.set_cons_succ]
                still_step
                still_step
                still_step
                still_step
                still_step
                refine wpStill_load_mid rfl _ _ rfl (w.heap.size + 1) a rfl bs _ Hr.out.1 Tryz.underlying99 rfl Hr.out.2.2.1 ?_
                simp only [Act.put, List.setIfInBounds_toArray, List.set_cons_zero, List.set_cons_succ]
                refine wpStill_nil ?_
                go_wp2_with fail
                refine (Htk.out wr.drew Hs.out.2.1).mono ?_
                rintro e w2 ⟨rfl, hH2, hbut2⟩
                obtain ⟨hS, hH, hD, hT, hbut⟩ := Hs.out
                obtain ⟨hr8, hr8l, hr8o, hlt, ha, hc⟩ := Hnext.out
                have hne := hS.lt
                have p1 := hbut2.blk (show Blk wr.drew b 97 o8 from hS) (by omega)
                have p2 := hbut2.blk (show Blk wr.drew w.heap.size 32 _ from hD) (by omega)
                have p3 := hbut2.blk (show Blk wr.drew (w.heap.size + 1) 119 _ from hT) (by omega)
                have p4 : But g w w2 := hbut.drew.trans hbut2
                have hlo8 : o8.length = 8 := by have := Hr.out.2.2.2; rw [info8w] at this; injection this with this; exact this.symm
                have hsz8 : r8.toArray.size = 8 := by rw [List.size_toArray]; exact hr8l
                have hth : w2.there b 0 r8.toArray.size := by
                  rw [hsz8, ← hlo8]; exact p1.there
                have hi8 : (Tryz.prog.info? 97).map (·.size) = some r8.toArray.size := by rw [hsz8]; exact info8w
                have q1 := p1.setAll (vs := r8) (by rw [hr8l, hlo8])
                have q2 := HB.farAll hH2 (b := b) (by omega) 0 r8
                have q3 := Blk.farAll (g' := b) (by omega) r8 (o := 0) p2
                have q4 := Blk.farAll (g' := b) (by omega) r8 (o := 0) p3
                have q5 : But g w (w2.setCells b 0 r8) := But.setCells (.inr (by omega)) _ p4
                have Hth := Lib.hid hth
                have Hi8 := Lib.hid hi8
                have Hone := Lib.hid hr8o
                have Hq := Lib.hid (And.intro q1 (And.intro q2 (And.intro q3 (And.intro q4 q5))))
                clear hS hH hD hT hbut hr8 hr8l hr8o hlt ha hc hne p1 p2 p3 p4 hlo8 hsz8 hth hi8 q1 q2 q3 q4 q5 hH2 hbut2
                go_wp2_with (refine wpList_store_mid rfl 97 _ _ rfl b 0 r8.toArray rfl rfl Hth.out Hi8.out Hone.out ?_)
                go_roundw
                case rel =>
                  obtain ⟨hr8, hr8l, hr8o, hlt, ha, hc⟩ := Hnext.out
                  obtain ⟨q1, q2, q3, q4, q5⟩ := Hq.out
                  exact ⟨m + 1, c, by omega, by omega, by first | rfl | rw [t2], by rw [hr8]; exact q1, q2, q3, q4, q5⟩
                case measure => simp [intOf]; omega
              · have e : m = q := by omega
                subst e
                have t1 : ¬ (a : Int) < (E : Int) := by omega
                have hdig := Hf.out.2.2.1
                have hrest := Hf.out.2.2.2.1
                obtain ⟨D, hD32, hDv⟩ : ∃ D : List Value, D.length = 32 ∧ cbs (digest l) = D := ⟨cbs (digest l), by rw [cbs_length, hdig]; rfl, rfl⟩
                have hwr := fun W => written_any2 (eat (whole l) m (last l)) W
                rw [← hdig, hDv] at hwr
                have hold8 : v8 (eat (whole l) m (last l)) = .agg (l8 (eat (whole l) m (last l))).toArray := rfl
                rw [hold8] at hwr
                have hone : D.toArray.all (·.oneCell') = true := by rw [← hDv]; exact cbs_one' _
                have hi8 : (Tryz.prog.info? 97).map (·.size) = some (l8 (eat (whole l) m (last l))).toArray.size := info8w
                have hi32 : (Tryz.prog.info? 32).map (·.size) = some D.toArray.size := by rw [List.size_toArray, hD32]; exact info32b
                have Hwr := Lib.hid hwr
                have Hs := Lib.hid (And.intro hS (And.intro hH (And.intro hD (And.intro hbut (And.intro hrest (And.intro hD32 hDv))))))
                have Hi := Lib.hid (And.intro hi8 (And.intro hi32 hone))
                clear hdig hrest hwr hold8 hone hi8 hi32 hH hD hT hbut hD32 hDv hq hq2 hm ha hlt Hf
                generalize l8 (eat (whole l) m (last l)) = o8 at *
                go_wp2_with (refine wpList_load_row rfl 97 _ rfl b rfl 97 o8.toArray (0, 0) _ hS Tryz.underlying97 rfl Hi.out.1 ?_)
                refine (Hwr.out _).mono ?_
                rintro e w2 ⟨rfl, hb2⟩
                obtain ⟨hS, hH, hD, hbut, hrest, hD32, hDv⟩ := Hs.out
                have p2 := hD.below hb2 hD.lt
                have pB := hH.below hb2
                have p4 : But g w w2 := hbut.then_below hb2
                have hth : w2.there w.heap.size 0 D.toArray.size := by
                  have e := p2.there
                  rw [cbs_length, List.length_replicate] at e
                  have hsz : D.toArray.size = 32 := by rw [List.size_toArray]; exact hD32
                  rw [hsz]; exact e
                have q1 := p2.setAll (vs := D) (by rw [hD32, cbs_length, List.length_replicate])
                have q2 := HB.farAll pB (b := w.heap.size) (by omega) 0 D
                have q5 : But g w (w2.setCells w.heap.size 0 D) := But.setCells (.inr (Nat.le_refl _)) _ p4
                have Hth := Lib.hid hth
                have Hq := Lib.hid (And.intro q1 (And.intro q2 (And.intro q5 (And.intro hrest hDv))))
                clear hS hH hD hbut hrest hD32 hDv p2 pB p4 hth q1 q2 q5 hb2
                go_wp2_with (refine wpList_store_mid rfl 32 _ _ rfl w.heap.size 0 D.toArray rfl rfl Hth.out Hi.out.2.1 Hi.out.2.2 ?_)
                refine bodyPost_ret (results_cell_row rfl _ _ w.heap.size 32 D.toArray (0, 0) _ rfl Hq.out.1 Tryz.underlying32 rfl Hi.out.2.1) rfl ?_
                obtain ⟨q1, q2, q5, hrest, hDv⟩ := Hq.out
                exact ⟨by rw [hDv], ⟨rest, q2, hrest⟩, q5⟩

end Go.Proofs.YtihmddpafbackaaGreat
