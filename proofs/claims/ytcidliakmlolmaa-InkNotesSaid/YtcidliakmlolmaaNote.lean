/-
  note, over the code: an input is laid into the book.
-/
import Derived.Test.YtcidliakmlolmaaBookA
import Derived.Test.YtcidliakmlolmaaHex
import Derived.Deep.RegionHeld3
import Derived.Deep.RegionWith
import Derived.Deep.AppendLies
import Derived.Deep.DeepCutAuto
namespace Go.Proofs.Ytcidliakmlolmaa
open Go.RowKit Go.Maps
set_option linter.unusedVariables false

/-- What stands while a digest's inputs are looked through. -/
def Half (w : World) (S : Nat → Prop) (g m : Nat) (L : List (List UInt8)) (c : Bool) (k : Nat) (v : Value) (A : Option Addr) (x : List UInt8) (D : List Value) (wr : World) : Prop :=
  Blk wr g 45 (bcells m L.length c k) ∧ Store wr S m L ∧ Keeps wr S v (grp (digest x) L) ∧ Bs wr A x ∧ Blk wr w.heap.size 28 D ∧ Below w.heap.size w wr

theorem Keeps.below {S : Nat → Prop} {w w' : World} {v : Value} {xs : List (List UInt8)} (h : Keeps w S v xs) (hS : ∀ i, S i → i < w.heap.size) (hb : Below w.heap.size w w') : Keeps w' S v xs :=
  h.stay (fun _ hi => hi) (fun i cs hi _ => hb.block i (hS i hi)) (fun b cs _ hi _ => hb.block b (hS b hi))
theorem Store.below {S : Nat → Prop} {w w' : World} {m : Nat} {L : List (List UInt8)} (h : Store w S m L) (hb : Below w.heap.size w w') : Store w' S m L :=
  h.stay hb.size fun i o hi ho _ => (hb.block i (h.2.1 i hi)).trans ho

/-- The book's inputs, and whether there is a clash, once x is noted. -/
def noteL (L : List (List UInt8)) (c : Bool) (x : List UInt8) : List (List UInt8) × Bool :=
  if x ∈ L then (L, c) else (L ++ [x], c || decide (grp (digest x) L ≠ []) || digest x == List.replicate 32 0)
theorem mem_grp {L : List (List UInt8)} {x : List UInt8} : x ∈ grp (digest x) L ↔ x ∈ L := by
  unfold grp; rw [List.mem_filter]; simp
def Grown (S : Nat → Prop) (w w' : World) (i : Nat) : Prop := S i ∨ w.heap.size ≤ i ∧ i < w'.heap.size

theorem noted_old {w wr : World} {S : Nat → Prop} {g m : Nat} {L : List (List UInt8)} {c : Bool} {k : Nat} {v : Value} {A : Option Addr} {x : List UInt8} {D : List Value}
    (h : Half w S g m L c k v A x D wr) (hS : S g) (hb : ∀ i, S i → i < w.heap.size) (hx : x ∈ L) : BookAt wr (Grown S w wr) g (noteL L c x).1 (noteL L c x).2 k ∧ Out S w wr := by
  obtain ⟨h1, h2, h3, h4, h5, h6⟩ := h
  unfold noteL
  rw [if_pos hx]
  exact ⟨⟨m, h1, .inl hS, h2.more (fun i hi => .inl hi) (fun i hi => by rcases hi with hi | hi; exact h2.2.1 i hi; exact hi.2)⟩, Out.ofBelow S h6⟩

/-- Behind the store in the map. -/
def After (w W : World) (S : Nat → Prop) (g m : Nat) (L : List (List UInt8)) (c : Bool) (k : Nat) (x : List UInt8) (D : List Value) (w3 : World) : Prop :=
  Blk w3 g 45 (bcells m L.length c k) ∧ Blk w3 w.heap.size 28 D ∧ Store w3 (Grown S W w3) m (L ++ [x]) ∧ Out S W w3

theorem note_put {w W wa : World} {S : Nat → Prop} {g m : Nat} {L : List (List UInt8)} {c : Bool} {k : Nat} {v : Value} {A : Option Addr} {x : List UInt8} {D : List Value} (hL : L.length < 1000000)
    (h : Half w S g m L c k v A x D W) (hS : S g) (hb : Below W.heap.size W wa) (hd : Value) (hhd : Mine wa W.heap.size 5 hd x) (hDv : cbs (digest x) = D) :
    ∃ cs, wa.ownsRow 0 32 1 v (grp (digest x) L).length cs ∧ ∀ v' w2, w2.ownsRow 0 32 1 v' ((grp (digest x) L).length + 1) (cs ++ [hd]) → wa.grownBy w2 v.ownBlock → (v'.ownBlock = v.ownBlock ∨ v'.ownBlock = some wa.heap.size) →
      Blk w2 g 45 (bcells m L.length c k) ∧ Blk w2 w.heap.size 28 D ∧
      ∃ w3, (Instr.mapUpdate 38 (.map (some m)) (.agg D.toArray) v').run Try.prog w2 = .ok () w3 ∧ After w W S g m L c k x D w3 := by
  obtain ⟨h1, h2, h3, h4, h5, h6⟩ := h
  have h3' := h3
  obtain ⟨cs, k1, k2, _⟩ := h3
  have hcsa : wa.ownsRow 0 32 1 v (grp (digest x) L).length cs := row_stay k1 fun b c hb' hc => hb.block b (by
    rcases Nat.lt_or_ge b W.heap.size with h | h
    · exact h
    · rw [Array.getElem?_eq_none h] at hc; cases hc)
  refine ⟨cs, hcsa, fun v' w2 hrow hgr hloc => ?_⟩
  obtain ⟨w3, r1, r2, r3⟩ := h2.put hL x v cs k1 h3' hb hd hhd v' hgr hrow hloc
  rw [hDv] at r1
  have far : ∀ {b t l}, Blk W b t l → t ≠ 32 → Blk w2 b t l := fun {b t l} hbk ht => by
    refine (hgr.block b (Nat.lt_of_lt_of_le hbk.lt hb.size) fun e => ?_).trans ((hb.block b hbk.lt).trans hbk)
    obtain ⟨c', hc'⟩ := row_block k1 e.symm
    unfold Blk at hbk
    rw [hc'] at hbk
    injection hbk with e1
    injection e1 with _ e1
    exact ht e1.symm
  have g2 := far h1 (by decide)
  have d2 := far h5 (by decide)
  obtain ⟨es, clock, hm⟩ : ∃ es clock, W.heap[m]? = some (.map es clock) := by obtain ⟨_, _, D', h, _⟩ := h2; exact map_block h
  have g3 : Blk w3 g 45 (bcells m L.length c k) := (r2.block g g2.lt fun e => by
    injection e with e
    subst e
    unfold Blk at h1; rw [hm] at h1; cases h1).trans g2
  have d3 : Blk w3 w.heap.size 28 D := (r2.block _ d2.lt fun e => by
    injection e with e
    rw [← e] at hm
    unfold Blk at h5; rw [hm] at h5; cases h5).trans d2
  refine ⟨g2, d2, w3, r1, g3, d3, r3, ?_⟩
  exact (((Out.refl S W).then_below hb).then_grown hgr fun i hi _ => k2 i hi).then_grown r2 fun i hi _ => by injection hi with hi; subst hi; exact h2.1

theorem noted_new {w W w3 w4 : World} {S : Nat → Prop} {g m : Nat} {L : List (List UInt8)} {c : Bool} {k : Nat} {x : List UInt8} {D : List Value} (h : After w W S g m L c k x D w3) (hW : Below w.heap.size w W) (hx : x ∉ L) (hS : S g)
    (h4 : But g w3 w4) (hs : w4.heap.size = w3.heap.size) (hblk : Blk w4 g 45 (bcells m (L.length + 1) (c || decide (grp (digest x) L ≠ []) || digest x == List.replicate 32 0) k)) :
    BookAt w4 (Grown S w w4) g (noteL L c x).1 (noteL L c x).2 k ∧ Out S w w4 := by
  obtain ⟨h1, h2, h3, h5⟩ := h
  unfold noteL
  rw [if_neg hx]
  have hst4 : Store w4 (Grown S W w3) m (L ++ [x]) := h3.stay (by omega) fun i o hi ho hb => by
    refine (h4.block i (h3.2.1 i hi) fun e => ?_).trans ho
    injection e with e
    subst e
    exact hb _ _ (Option.some.inj (ho.symm.trans h1))
  refine ⟨⟨m, by rw [List.length_append]; exact hblk, .inl hS, hst4.more (fun i hi => ?_) (fun i hi => ?_)⟩, ?_⟩
  · rcases hi with hi | hi
    · exact .inl hi
    · exact .inr ⟨Nat.le_trans hW.size hi.1, by omega⟩
  · rcases hi with hi | hi
    · exact hst4.2.1 i (.inl hi)
    · exact hi.2
  · exact (((Out.refl S w).then_below hW).trans h5 fun _ _ e => e).then_grown h4 fun i hi _ => by injection hi with hi; subst hi; exact hS

theorem load_row_g {P : Program} {ops : Array Oper} {rest : List Oper} {o : Oper} {a : Act} {w : World} {Q : Exit → Act → World → Prop} (hw : Region.wanted o (yielded ops a.tmps) = true) (ty : TypeId) (x : Operand) (ho : o.op = .load ty x)
    (g : Nat) (hx : a.eval x = .pointer (some ⟨g, 0, none⟩)) (t : TypeId) (cs : Array Value) (fr : Nat × Nat) (d : TypeDesc) (hg : w.heap[g]? = some (.cells cs t fr))
    (hu : P.underlying ty = some d) (hd : (match d with | .struct _ | .array _ _ => true | _ => false) = true) (hi : (P.info? ty).map (·.size) = some cs.size)
    (h : wpList P ops Q rest (a.put o.dst (.agg cs)) w) : wpList P ops Q (o :: rest) a w :=
  wpList_step fun K hK => by rw [if_pos hw]; exact wp_load_row ty x ho g hx t cs fr d hg hu hd hi (hK _ _ h)

theorem eq_zero32 (D : List Value) (l : List UInt8) (h : cbs (digest l) = D) (w : World) :
    (Op.equalIn 10000 28 (.agg D.toArray) (.agg #[Value.int .u8 0, Value.int .u8 0, Value.int .u8 0, Value.int .u8 0, Value.int .u8 0, Value.int .u8 0, Value.int .u8 0, Value.int .u8 0, Value.int .u8 0, Value.int .u8 0, Value.int .u8 0, Value.int .u8 0, Value.int .u8 0, Value.int .u8 0, Value.int .u8 0, Value.int .u8 0, Value.int .u8 0, Value.int .u8 0, Value.int .u8 0, Value.int .u8 0, Value.int .u8 0, Value.int .u8 0, Value.int .u8 0, Value.int .u8 0, Value.int .u8 0, Value.int .u8 0, Value.int .u8 0, Value.int .u8 0, Value.int .u8 0, Value.int .u8 0, Value.int .u8 0, Value.int .u8 0])).run Try.prog w = .ok (digest l == List.replicate 32 0) w := by
  subst h
  exact eq_digests w (digest l) (List.replicate 32 0) (dlen l) rfl

theorem sl_info : (Try.prog.info? 32).map (fun i => (i.zero, i.size, i.bytes)) = some (some (.slice none 0 0), 1, 24) := by kernel_rfl

set_option maxRecDepth 100000 in
set_option maxHeartbeats 800000 in
theorem note_any (S : Nat → Prop) (g : Nat) (L : List (List UInt8)) (c : Bool) (k : Nat) (A : Option Addr) (n cp : Nat) (x : List UInt8) (w : World) (D : List Value) (hD : cbs (digest x) = D)
    (h : BookAt w S g L c k) (hL : L.length < 1000000) (hB : Bs w A x) (hn : x.length = n) (hc : n ≤ cp) (hcm : cp ≤ maxLen) (hn6 : n ≤ 65536) :
    Calls Try.prog 19 #[.pointer (some ⟨g, 0, none⟩), .agg D.toArray, .slice A n cp] w fun e w' => e = .returned (.tuple #[]) ∧ BookAt w' (Grown S w w') g (noteL L c x).1 (noteL L c x).2 k ∧ Out S w w' := by
  obtain ⟨m, hblk, hSg, hst⟩ := h
  have hD32 : D.length = 32 := by rw [← hD, cbs_length, dlen]
  have b0 : Below w.heap.size w ((w.alloc (.cells D.toArray 28)).drew) := ((Below.refl _ _).alloc (Nat.le_refl _) _).drew
  obtain ⟨v, hlook, hkeep⟩ := (hst.below b0).look (digest x) (dlen x)
  rw [hD] at hlook
  obtain ⟨Ar, cr, rfl, hcr, hcrm⟩ := hkeep.form
  have hblk0 : Blk ((w.alloc (.cells D.toArray 28)).drew) g 45 (bcells m L.length c k) := hblk.below b0 hblk.lt
  have c0 : ((w.alloc (.cells D.toArray 28)).drew).cell? ⟨g, 0, none⟩ = some (.map (some m)) := hblk0.cell rfl
  have hdB : Blk ((w.alloc (.cells D.toArray 28)).drew) w.heap.size 28 D := Blk.new rfl rfl
  have hrd : ((w.alloc (.cells D.toArray 28)).drew).rangeAt w.heap.size 0 D := hdB.range
  have hid : (Try.prog.info? 28).map (·.size) = some D.length := by rw [hD32]; exact info32b
  have hud := Try.underlying28
  have h0 : Half w S g m L c k (.slice Ar (grp (digest x) L).length cr) A x D ((w.alloc (.cells D.toArray 28)).drew) := ⟨hblk0, hst.below b0, hkeep, hB.after b0, hdB, b0⟩
  have H := Lib.hid (And.intro h0 (And.intro hSg (And.intro hst.2.1 (And.intro hn hc))))
  clear hblk hSg hst hkeep hB hn hc h0 hdB hblk0 b0
  have hD := Lib.hid hD
  generalize hN : (grp (digest x) L).length = N at *
  unfold maxLen at hcm hcrm
  go_enter Try.func19, Try.ntmps19
  go_wp2
  go_region_held3 (fun W' => W'.cell? ⟨g, 0, none⟩ = some (.map (some m)) ∧ W'.rangeAt w.heap.size 0 D) (first | with_reducible exact ⟨c0, hrd⟩) (fail)
  go_wp2
  go_loopw [17] (fun v wr => ∃ j : Nat, j ≤ N ∧ v = .int .i64 j ∧ (∀ y ∈ (grp (digest x) L).take j, y ≠ x) ∧ Half w S g m L c k (.slice Ar N cr) A x D wr) (fun v _ => N - (intOf v).toNat)
  case atStart => exact ⟨0, Nat.zero_le _, rfl, by simp, H.out.1⟩
  case round =>
    obtain ⟨j, hj, rfl, hne, hH⟩ := hrel
    by_cases hlt : j < N
    · obtain ⟨b, Ax, cx, cr', hv, hcell, hlx, hcx, hBx⟩ := hH.2.2.1.at_ (j := j) (by omega)
      rw [hN] at hv
      injection hv with hv1 _ hv3
      subst hv1
      subst hv3
      have hjg : j < (grp (digest x) L).length := by omega
      obtain ⟨y, hy⟩ : ∃ y, y = (grp (digest x) L)[j] := ⟨_, rfl⟩
      rw [← hy] at hcell hlx hBx
      obtain ⟨ny, hny⟩ : ∃ ny, y.length = ny := ⟨_, rfl⟩
      rw [hny] at hcell hlx
      have heq := (bequal_any Ax A cx cp ny n y x _ hBx hH.2.2.2.1 hny H.out.2.2.2.1)
      have hi0 : (0 : Int) ≤ j := by omega
      have hi1 : (j : Int) < N := by omega
      have Hx := Lib.hid (And.intro hy (And.intro hne hH))
      clear hlx hBx hy hne hH
      by_cases he : y = x
      · have hb1 : (y == x) = true := by simpa using he
        rw [hb1] at heq
        have Heq := Lib.hid heq
        clear heq hb1
        go_wp2_with (go_at_call 27; refine Heq.out.mono ?_; rintro e w' ⟨rfl, rfl⟩)
        refine bodyPost_ret (results_none rfl _ _ _) rfl ?_
        refine ⟨rfl, noted_old Hx.out.2.2 H.out.2.1 H.out.2.2.1 (mem_grp.1 ?_)⟩
        have hmem := List.getElem_mem hjg
        rw [← Hx.out.1, he] at hmem
        exact hmem
      · have hb1 : (y == x) = false := by simpa using he
        rw [hb1] at heq
        have Heq := Lib.hid heq
        clear heq hb1
        go_wp2_with (go_at_call 27; refine Heq.out.mono ?_; rintro e w' ⟨rfl, rfl⟩)
        go_roundw
        case rel =>
          refine ⟨j + 1, by omega, by go_num, ?_, Hx.out.2.2⟩
          rw [List.take_succ_eq_append_getElem hjg, ← Hx.out.1]
          intro z hz
          rcases List.mem_append.1 hz with hz | hz
          · exact Hx.out.2.1 z hz
          · simp at hz; subst hz; exact he
        case measure => simp [intOf]; omega
    · have hjN : j = N := by omega
      subst hjN
      have hxL : x ∉ L := fun hx => by
        have := mem_grp.2 hx
        rw [List.take_of_length_le (by omega)] at hne
        exact hne x this rfl
      have Hx := Lib.hid (And.intro hxL hH)
      clear hxL hH hne
      have hHd : Half w S g m L c k (.slice Ar j cr) A x D wr.drew := ⟨Hx.out.2.1, Hx.out.2.2.1, Hx.out.2.2.2.1, Hx.out.2.2.2.2.1, Hx.out.2.2.2.2.2.1, Hx.out.2.2.2.2.2.2.drew⟩
      have c1 : wr.drew.cell? ⟨g, 0, none⟩ = some (.map (some m)) := hHd.1.cell rfl
      have r1 : wr.drew.rangeAt w.heap.size 0 D := hHd.2.2.2.2.1.range
      have hBd : Bs wr.drew A x := hHd.2.2.2.1
      have Hd := Lib.hid hHd
      have hput0 := fun wa hb hd hhd => note_put (w := w) (W := wr.drew) (wa := wa) hL hHd H.out.2.1 hb hd hhd hD.out
      simp only [hN] at hput0
      have Hput := Lib.hid hput0
      have hjL : j ≤ L.length := by rw [← hN]; exact List.length_filter_le _ _
      obtain ⟨i0, hi, hz0, hz1, hz2⟩ := info_parts sl_info
      have Hi := Lib.hid (And.intro hi (And.intro hz0 (And.intro hz1 hz2)))
      clear hHd hi hz0 hz1 hz2 hput0
      go_wp2
      go_region_held3 (fun W' => W'.cell? ⟨g, 0, none⟩ = some (.map (some m)) ∧ W'.rangeAt w.heap.size 0 D) (first | with_reducible exact ⟨c1, r1⟩ | with_reducible exact ⟨c2, r2⟩ | with_reducible exact ⟨c3, r3⟩ | with_reducible exact ⟨c4, r4⟩ | with_reducible exact ⟨c5, r5⟩)
        (first
        | (go_at_call 28; refine (clone_any A cp n x _ hBd H.out.2.2.2.1 (by omega)).mono ?_; rintro e w1 ⟨vx, rfl, hNB⟩; obtain ⟨A2, cx2, rfl, _, _, _⟩ := hNB.form
           have c2 := (hNB.2.cell (w' := w1) (p := ⟨g, 0, none⟩) (by exact Hd.out.1.lt)).trans c1; have r2 := range_below hNB.2 r1
           have hba := hNB.2.alloc hNB.2.size (Obj.cells #[Value.slice A2 x.length cx2] 32)
           have c3 := (hba.cell (p := ⟨g, 0, none⟩) (by exact Hd.out.1.lt)).trans c1; have r3 := range_below hba r1
           obtain ⟨cs, hcs, hnext⟩ := Hput.out _ hba _ (World.ownsRow.alloc hNB.1 _)
           have Hcs := Lib.hid (And.intro hcs hnext)
           clear hcs hnext hba hNB)
        | (refine step_append_lies _ rfl _ _ 22 rfl 0 32 i0 (.slice none 0 0) 1 24 Try.underlying22 Hi.out.1 Hi.out.2.1 Hi.out.2.2.1 Hi.out.2.2.2 rfl (by decide) (.slice Ar j cr) j cs rfl Hcs.out.1 ⟨w1.heap.size, 0, none⟩ 1 1 [.slice A2 x.length cx2] rfl rfl (World.news_of_block (heap_alloc_new w1 _)) (by intro u hu; simp at hu; subst hu; rfl) (by decide) (by unfold maxLen; omega) (by omega) (Nat.zero_le _) _ rfl ?_
           intro g2 cap2 w2 hrow2 hgr2 hat2 hlt2
           obtain ⟨hg2, hd2, w3, hrun3, hAft⟩ := Hcs.out.2 _ w2 hrow2 hgr2 (hat2.imp (fun e => e.symm) (fun e => congrArg some e))
           have c4 : w2.cell? ⟨g, 0, none⟩ = some (.map (some m)) := hg2.cell rfl
           have r4 := hd2.range
           have c5 : w3.cell? ⟨g, 0, none⟩ = some (.map (some m)) := hAft.1.cell rfl
           have r5 := hAft.2.1.range
           have Ha := Lib.hid hAft
           clear hrow2 hgr2 hat2 hlt2 hg2 hd2 hAft))
      have hne3 : w.heap.size ≠ g := by have := H.out.2.2.1 g H.out.2.1; omega
      have c6 : w3.cell? ⟨g, 1, none⟩ = some (.int .i64 (L.length : Int)) := Ha.out.1.cell rfl
      have f6 : w3.frozen? ⟨g, 1, none⟩ = false := Ha.out.1.free 1
      have c7 : w3.cell? ⟨g, 2, none⟩ = some (.bool c) := Ha.out.1.cell rfl
      have f7 : w3.frozen? ⟨g, 2, none⟩ = false := Ha.out.1.free 2
      have hb4 : Blk (w3.setCell ⟨g, 1, none⟩ (.int .i64 ((L.length : Int) + 1))) g 45 (bcells m (L.length + 1) c k) := Ha.out.1.set_ 1 _
      have hd4 : Blk (w3.setCell ⟨g, 1, none⟩ (.int .i64 ((L.length : Int) + 1))) w.heap.size 28 D := Ha.out.2.1.far hne3 _
      have hbut4 : But g w3 (w3.setCell ⟨g, 1, none⟩ (.int .i64 ((L.length : Int) + 1))) := (But.refl g w3).setCell (.inl rfl) _
      have hs4 : (w3.setCell ⟨g, 1, none⟩ (.int .i64 ((L.length : Int) + 1))).heap.size = w3.heap.size := by simp [World.setCell]
      have hb5 : Blk ((w3.setCell ⟨g, 1, none⟩ (.int .i64 ((L.length : Int) + 1))).setCell ⟨g, 2, none⟩ (.bool true)) g 45 (bcells m (L.length + 1) true k) := hb4.set_ 2 _
      have H4 := Lib.hid (And.intro hb4 (And.intro hd4 (And.intro hbut4 (And.intro hs4 (And.intro hb5 (And.intro (hbut4.setCell (p := ⟨g, 2, none⟩) (.inl rfl) (.bool true)) ((by simp [World.setCell] : ((w3.setCell ⟨g, 1, none⟩ (.int .i64 ((L.length : Int) + 1))).setCell ⟨g, 2, none⟩ (.bool true)).heap.size = w3.heap.size))))))))
      have hW := Hd.out.2.2.2.2.2
      have HW := Lib.hid hW
      clear hb4 hd4 hbut4 hs4 hb5 hW
      by_cases hj0 : 0 < j
      · have hgrp : grp (digest x) L ≠ [] := fun e => by rw [e] at hN; simp at hN; omega
        have hcl : (c || decide (grp (digest x) L ≠ []) || digest x == List.replicate 32 0) = true := by simp [hgrp]
        have hi1 : (0 : Int) < j := by omega
        have Hc := Lib.hid hcl
        clear hcl hgrp
        go_wp2
        go_end0
        exact ⟨rfl, noted_new Ha.out HW.out Hx.out.1 H.out.2.1 H4.out.2.2.2.2.2.1 H4.out.2.2.2.2.2.2 (by rw [Hc.out]; exact H4.out.2.2.2.2.1)⟩
      · have hi1 : ¬ (0 : Int) < j := by omega
        have Hid := Lib.hid hid
        have hg0 : grp (digest x) L = [] := List.eq_nil_of_length_eq_zero (by omega)
        have hz := eq_zero32 D x hD.out
        clear hid
        cases hzb : (digest x == List.replicate 32 0) with
        | true =>
          have hcl : (c || decide (grp (digest x) L ≠ []) || digest x == List.replicate 32 0) = true := by rw [hzb]; simp
          rw [hzb] at hz
          have Hc := Lib.hid hcl
          clear hcl hg0 hzb
          go_wp2_with (refine load_row_g (by rfl) 28 _ rfl w.heap.size rfl 28 D.toArray (0, 0) _ H4.out.2.1 Try.underlying28 rfl Hid.out ?_; simp only [Act.put])
          go_end0
          exact ⟨rfl, noted_new Ha.out HW.out Hx.out.1 H.out.2.1 H4.out.2.2.2.2.2.1 H4.out.2.2.2.2.2.2 (by rw [Hc.out]; exact H4.out.2.2.2.2.1)⟩
        | false =>
          have hcl : (c || decide (grp (digest x) L ≠ []) || digest x == List.replicate 32 0) = c := by rw [hzb, hg0]; simp
          rw [hzb] at hz
          have Hc := Lib.hid hcl
          clear hcl hg0 hzb
          go_wp2_with (refine load_row_g (by rfl) 28 _ rfl w.heap.size rfl 28 D.toArray (0, 0) _ H4.out.2.1 Try.underlying28 rfl Hid.out ?_; simp only [Act.put])
          go_end0
          exact ⟨rfl, noted_new Ha.out HW.out Hx.out.1 H.out.2.1 H4.out.2.2.1 H4.out.2.2.2.1 (by rw [Hc.out]; exact H4.out.1)⟩
end Go.Proofs.Ytcidliakmlolmaa
