/-
  The program's take: its constants are made at the first block.
-/
import Derived.Test.YtcidliakmlolmaaHash
import Derived.StillTailTactics
import Derived.Deep.RegionHeld3
import Derived.Outline
namespace Go.Proofs.Ytcidliakmlolmaa
open Go.RowKit
set_option linter.unusedVariables false

theorem there_blk {w w' : World} {b o n : Nat} (h : w.there b o n) (hb : w'.heap[b]? = w.heap[b]?) : w'.there b o n := fun j hj => by
  obtain ⟨h1, h2⟩ := h j hj
  exact ⟨by rw [← h1]; exact congrArg _ (World.cell?_of_block (w := w) (w' := w') (a := ⟨b, o + j, none⟩) hb), by rw [← h2]; exact World.frozen?_of_block (w := w) (w' := w') (a := ⟨b, o + j, none⟩) hb⟩
theorem cell_setCells_far {a : Addr} {b : Nat} (vs : List Value) : ∀ {w : World} {o : Nat}, a.block ≠ b → (w.setCells b o vs).cell? a = w.cell? a := fun h => World.cell?_setCells_out b vs _ _ a (fun e => absurd e h)
theorem Blk.thereAt {w : World} {g : Nat} {t : TypeId} {cs : List Value} (h : Blk w g t cs) {o n : Nat} (hn : o + n ≤ cs.length) : w.there g o n := by
  intro j hj
  exact ⟨by rw [h.cell (List.getElem?_eq_getElem (show o + j < cs.length by omega))]; rfl, h.free _⟩

set_option maxRecDepth 100000 in
set_option maxHeartbeats 1600000 in
/-- The function that 'once' calls: K is laid into the hash. -/
theorem clo_any (g : Nat) (pl : Addr) (s : S8) (rest : List UInt8) (n : Nat) (ks : List Value) (W : World) (hpl : W.cell? pl = some (.pointer (some ⟨g, 0, none⟩))) (hne : pl.block ≠ g)
    (hr : rest.length = 64) (hk : ks.length = 64) (h : Blk W g 77 (hcells s rest n 0 1 ks)) :
    Calls Try.prog 42 #[.pointer (some pl)] W fun e w2 => e = .returned (.tuple #[]) ∧ (Blk w2 g 77 (hcells s rest n 0 1 (cws KK)) ∧ But g W w2) := by
  have hplt : pl.block < W.heap.size := World.block_lt_of_cell? W _ hpl
  have hgl := h.lt
  have hth : W.there g 77 64 := h.thereAt (by rw [hc_len hr hk]; decide)
  have hu := Try.underlying75
  have hi : (Try.prog.info? 75).map (·.size) = some (cws KK).length := by rw [cws_length, KK_len]; exact info64w
  have hl64 : (cws KK).length = 64 := by rw [cws_length, KK_len]
  have hone : ∀ v ∈ cws KK, v.oneCell' = true := by
    have := cws_one KK
    rw [Array.all_eq_true_iff_forall_mem] at this
    exact fun v hv => this v (by simpa using hv)
  have Hh := Lib.hid (And.intro h (And.intro hr (And.intro hk (And.intro hplt (And.intro hgl hne)))))
  clear h hr hk
  generalize hK : cws KK = kk at *
  have HK := Lib.hid hK
  clear hK
  have hcu : ∀ w, Calls Try.prog 43 #[] w fun e w' => e = .returned (.agg kk.toArray) ∧ Below w.heap.size w w' := by rw [← HK.out]; exact cubes_any
  have Hcu := Lib.hid hcu
  clear hcu
  go_enter Try.func42, Try.ntmps42
  go_region_held3 (fun W' => W'.cell? pl = some (.pointer (some ⟨g, 0, none⟩)) ∧ W'.there g 77 64) (first | exact ⟨by assumption, by assumption⟩ | exact ⟨(cell_setCells_far _ hne).trans (by assumption), World.there_setCells (by assumption) _ _ _⟩ | go_keep)
    (first | (go_at_call 43; refine (Hcu.out _).mono ?_; rintro e w1 ⟨rfl, hb1⟩; have hp1 := (hb1.cell (p := pl) hplt).trans hpl; have ht1 := there_blk hth (hb1.block g hgl)))
  all_goals
    obtain ⟨h, hr, hk, _, _, _⟩ := Hh.out
    have hB1 : Blk w1 g 77 (hcells s rest n 0 1 ks) := (hb1.block g hgl).trans h
    have hB2 := Blk.setMore (w := w1) kk hB1 (o := 77) (by rw [hc_len hr hk]; omega)
    rw [hc_put_ks hr hk kk hl64] at hB2
    have hbut : But g W (w1.setCells g 77 kk) := But.setCells (.inl rfl) kk (((But.refl g W).drew).trans (But.ofBelow hb1))
    go_end0
    exact ⟨rfl, hB2, hbut⟩

/-- A hash that takes: what it holds is in block g; K is there if it is done. -/
def HB (w : World) (g : Nat) (s : S8) (rest : List UInt8) (n : Nat) : Prop :=
  ∃ (d : Int) (ks : List Value), Blk w g 77 (hcells s rest n d 0 ks) ∧ rest.length = 64 ∧ ks.length = 64 ∧ (d = 0 ∨ d = 1 ∧ ks = cws KK)

theorem setCell_drew_blk {w : World} {g : Nat} {t : TypeId} {cs : List Value} (h : Blk w g t cs) : Blk w.drew g t cs := h

theorem do_any (g : Nat) (pl : Addr) (s : S8) (rest : List UInt8) (n : Nat) (W : World) (hpl : W.cell? pl = some (.pointer (some ⟨g, 0, none⟩))) (hne : pl.block ≠ g) (h : HB W g s rest n) :
    Calls Try.prog 41 #[.pointer (some ⟨g, 74, none⟩), .func (.func 42) #[] #[.pointer (some pl)]] W fun e w' => e = .returned (.tuple #[]) ∧
      (Blk w' g 77 (hcells s rest n 1 0 (cws KK)) ∧ rest.length = 64 ∧ But g W w') := by
  obtain ⟨d, ks, hB, hr, hk, hd⟩ := h
  rcases hd with rfl | ⟨rfl, rfl⟩
  · have c0 := hB.cell (hc_done hr)
    have c1 := hB.cell (hc_lock hr)
    have hB1 := hB.set_ 75 (.int .i32 1)
    rw [hc_set_lock hr 1] at hB1
    have hbut1 : But g W (W.setCell ⟨g, 75, none⟩ (.int .i32 1)) := (But.refl g W).setCell (.inl rfl) _
    have hclo := clo_any g pl s rest n ks (W.setCell ⟨g, 75, none⟩ (.int .i32 1)) (hbut1.cell hpl hne) hne hr hk hB1
    have hK64 : (cws KK).length = 64 := by rw [cws_length, KK_len]
    refine (do_first g 74 pl _ W c0 c1 (hB.free _) (hB.free _) hclo ?_).mono ?_
    · rintro w2 ⟨hB2, _⟩
      exact ⟨hB2.cell (hc_done hr), hB2.cell (hc_lock hr), hB2.free _, hB2.free _⟩
    · rintro e w' ⟨rfl, w2, ⟨hB2, hbut2⟩, rfl⟩
      have h3 := (setCell_drew_blk hB2).set_ 74 (.int .u32 1)
      rw [hc_set_done hr 1] at h3
      have h4 := h3.set_ 75 (.int .i32 0)
      rw [hc_set_lock hr 0] at h4
      exact ⟨rfl, h4, hr, ((((hbut1.trans hbut2).drew).setCell (.inl rfl) _).setCell (.inl rfl) _)⟩
  · refine (do_done ⟨g, 74, none⟩ _ W (hB.cell (hc_done hr))).mono ?_
    rintro e w' ⟨rfl, rfl⟩
    exact ⟨rfl, hB, hr, But.refl _ _⟩

theorem HB.alloc {w : World} {g : Nat} {s : S8} {rest : List UInt8} {n : Nat} (h : HB w g s rest n) (o : Obj) : HB (w.alloc o) g s rest n := by
  obtain ⟨d, ks, hB, h2⟩ := h
  exact ⟨d, ks, hB.old o, h2⟩
theorem Blk.range {w : World} {g : Nat} {t : TypeId} {cs : List Value} (h : Blk w g t cs) : w.rangeAt g 0 cs := fun j v hv => by
  rw [Nat.zero_add]; exact h.cell hv
theorem l8_one (s : S8) : ∀ v ∈ l8 s, v.oneCell' = true := by
  have := cws_one s.list
  rw [Array.all_eq_true_iff_forall_mem] at this
  exact fun v hv => this v (by rw [List.mem_toArray]; exact hv)

theorem wpStill_load_mid {P : Program} {ops : Array Oper} {rest : List Oper} {op : Oper} {a : Act} {w : World} {Q : Act → Prop} (hgd : op.guard = none) (ty : TypeId) (x : Operand) (ho : op.op = .load ty x)
    (b o : Nat) (hx : a.eval x = .pointer (some ⟨b, o, none⟩)) (cs : List Value) (d : TypeDesc) (hc : w.rangeAt b o cs)
    (hu : P.underlying ty = some d) (hd : d.isRow = true) (hi : (P.info? ty).map (·.size) = some cs.length)
    (h : wpStill P ops w Q rest (a.put op.dst (.agg cs.toArray))) : wpStill P ops w Q (op :: rest) a := by
  refine wpStill_step (fun K hK => ?_)
  rw [if_pos (by simp [Region.wanted, hgd])]
  unfold Oper.still execOp
  simp only [ho, hx, Instr.loadAt, Instr.sureAddr, Sem.run_bind, Sem.run_pure, Result.andThen_ok, run_loadVar_mid w b o ty cs d hc hu hd hi]
  exact ⟨rfl, hK _ h⟩

set_option maxRecDepth 100000 in
set_option maxHeartbeats 1600000 in
theorem take_any (g : Nat) (s t : S8) (rest bs : List UInt8) (n : Nat) (w : World) (hl : bs.length = 64) (h : HB w g s rest n) :
    Calls Try.prog 36 #[.pointer (some ⟨g, 0, none⟩), v8 t, .agg (cbs bs).toArray] w fun e w' => e = .returned (v8 (rnd t bs)) ∧ (HB w' g s rest n ∧ But g w w') := by
  have hgl : g < w.heap.size := by obtain ⟨_, _, hB, _⟩ := h; exact hB.lt
  have hv : v8 t = .agg #[.int .u32 (t.a.toNat : Int), .int .u32 (t.b.toNat : Int), .int .u32 (t.c.toNat : Int), .int .u32 (t.d.toNat : Int), .int .u32 (t.e.toNat : Int), .int .u32 (t.f.toNat : Int), .int .u32 (t.g.toNat : Int), .int .u32 (t.h.toNat : Int)] := rfl
  rw [hv]
  clear hv
  obtain ⟨r8, hr8, hr8l, hr8o⟩ : ∃ r8 : List Value, v8 (rnd t bs) = .agg r8.toArray ∧ r8.length = 8 ∧ r8.toArray.all (·.oneCell') = true := ⟨l8 (rnd t bs), rfl, rfl, cws_one (rnd t bs).list⟩
  have hro := fun w' => rounds_any t bs g 77 w' hl
  rw [hr8] at hro ⊢
  have Hro := Lib.hid hro
  have Hr8 := Lib.hid (And.intro hr8l hr8o)
  have Hl := Lib.hid hl
  have Hh := Lib.hid h
  clear hl h hro hr8 hr8l hr8o
  have hmf : ∀ (fn : Fn) (first cap : Array Value) (w : World), (Instr.makeFunc fn first cap).run Try.prog w = .ok (.func fn first cap) w := fun _ _ _ _ => rfl
  go_enter Try.func36, Try.ntmps36
  go_wp2_with fail
  refine (do_any g ⟨w.heap.size, 0, none⟩ s rest n _ (Blk.cell (t := 53) (cs := [.pointer (some ⟨g, 0, none⟩)]) ((((Blk.new rfl rfl).old _).old _).old _) rfl) (by show w.heap.size ≠ g; omega) ((((Hh.out.alloc _).alloc _).alloc _).alloc _)).mono ?_
  rintro e w1 ⟨rfl, hB1, hr1, hbut⟩
  have g1 := hbut.size
  simp only [World.size_alloc] at g1
  have q0 : Blk w1 w.heap.size 53 [.pointer (some ⟨g, 0, none⟩)] := hbut.blk ((((Blk.new rfl rfl).old _).old _).old _) (by omega)
  have q1 : Blk w1 (w.heap.size + 1) 61 (l8 t) := hbut.blk (((Blk.new rfl (by simp)).old _).old _) (by omega)
  have q2 : Blk w1 (w.heap.size + 1 + 1) 63 (cbs bs) := hbut.blk ((Blk.new rfl (by simp)).old _) (by omega)
  have q3 : Blk w1 (w.heap.size + 1 + 1 + 1) 61 (l8 ⟨0, 0, 0, 0, 0, 0, 0, 0⟩) := hbut.blk (Blk.new rfl (by simp)) (by omega)
  have hbw : But g w w1 := ((((((But.refl g w).then_below ((Below.refl _ _).alloc (Nat.le_refl _) _)).then_below ((Below.refl _ _).alloc (Nat.le_refl _) _)).then_below ((Below.refl _ _).alloc (Nat.le_refl _) _)).then_below ((Below.refl _ _).alloc (Nat.le_refl _) _)).trans hbut)
  have r1 : w1.rangeAt (w.heap.size + 1) 0 (l8 t) := q1.range
  have r2 : w1.rangeAt (w.heap.size + 1 + 1) 0 (cbs bs) := q2.range
  have r3 : w1.there (w.heap.size + 1 + 1 + 1) 0 8 := q3.there
  have r0 := q0.cell (i := 0) rfl
  have hi2 : (Try.prog.info? 63).map (·.size) = some (cbs bs).length := by rw [cbs_length, Hl.out]; kernel_rfl
  have Hx := Lib.hid (And.intro hB1 (And.intro hr1 (And.intro r3 (And.intro q3 (And.intro hbw g1)))))
  have Hr := Lib.hid (And.intro r1 (And.intro r2 hi2))
  clear hB1 hr1 hbut q0 q1 q2 q3 hbw r1 r2 r3 hi2 g1
  go_wp2_with fail
  refine wp_region_still_tail 5 (by kernel_rfl) (by kernel_rfl) ?_
  simp only [List.take_succ_cons, List.take_zero, List.drop_succ_cons, List.drop_zero]
  refine wpStill_load_mid rfl _ _ rfl (w.heap.size + 1) 0 rfl (l8 t) _ Hr.out.1 Try.underlying61 rfl info8w ?_
  refine wpStill_load_mid rfl _ _ rfl (w.heap.size + 1 + 1) 0 rfl (cbs bs) _ Hr.out.2.1 Try.underlying63 rfl Hr.out.2.2 ?_
  simp only [Act.put, List.setIfInBounds_toArray, List.set_cons_zero, List.set_cons_succ]
  repeat still_step
  refine wpStill_nil ?_
  go_wp2_with fail
  have hKr : w1.drew.rangeAt g 77 (cws KK) := fun j v hv => Blk.cell (w := w1.drew) Hx.out.1 (hc_ks Hx.out.2.1 hv)
  refine (Hro.out w1.drew hKr).mono ?_
  rintro e w2 ⟨rfl, hb2⟩
  obtain ⟨hB1, hr1, r3, q3, hbw, g1⟩ := Hx.out
  have p3 : Blk w2 (w.heap.size + 1 + 1 + 1) 61 (l8 ⟨0, 0, 0, 0, 0, 0, 0, 0⟩) := Blk.below (w := w1.drew) q3 hb2 (by show _ < w1.heap.size; omega)
  have pB : Blk w2 g 77 (hcells s rest n 1 0 (cws KK)) := Blk.below (w := w1.drew) hB1 hb2 (Blk.lt hB1)
  have hbw2 : But g w w2 := (hbw.drew).then_below hb2
  obtain ⟨hr8l, hr8o⟩ := Hr8.out
  have hsz : r8.toArray.size = 8 := by rw [List.size_toArray]; exact hr8l
  have hth : w2.there (w.heap.size + 1 + 1 + 1) 0 r8.toArray.size := by rw [hsz]; exact p3.there
  have hi8 : (Try.prog.info? 61).map (·.size) = some r8.toArray.size := by rw [hsz]; exact info8w
  have hR' := p3.setAll (vs := r8) hr8l
  have hB' := Blk.farAll (g' := w.heap.size + 1 + 1 + 1) (by omega) r8 (o := 0) pB
  have hbut' : But g w (w2.setCells (w.heap.size + 1 + 1 + 1) 0 r8) := But.setCells (.inr (by omega)) _ hbw2
  have Hth := Lib.hid hth
  have Hi8 := Lib.hid hi8
  have Hone := Lib.hid hr8o
  have Hend := Lib.hid (And.intro hR' (And.intro hB' (And.intro hbut' hr1)))
  clear hB1 hr1 r3 q3 hbw g1 p3 pB hbw2 hth hR' hB' hbut' hKr hb2 hsz hi8 hr8l hr8o
  go_wp2_with (refine wpList_store_mid rfl 61 _ _ rfl (w.heap.size + 1 + 1 + 1) 0 r8.toArray rfl rfl Hth.out Hi8.out Hone.out ?_)
  refine bodyPost_ret (results_cell_row rfl _ _ (w.heap.size + 1 + 1 + 1) 61 r8.toArray (0, 0) _ rfl Hend.out.1 Try.underlying61 rfl Hi8.out) rfl ?_
  exact ⟨rfl, ⟨1, cws KK, Hend.out.2.1, Hend.out.2.2.2, by rw [cws_length, KK_len], .inr ⟨rfl, rfl⟩⟩, Hend.out.2.2.1⟩
end Go.Proofs.Ytcidliakmlolmaa
