/-
  Of and Asked of a book, over the code.
-/
import Derived.Test.YtcidliakmlolmaaNote
namespace Go.Proofs.Ytcidliakmlolmaa
open Go.RowKit Go.Maps
set_option linter.unusedVariables false

def limitE : Int := 5

theorem BookAt.blk {w : World} {S : Nat → Prop} {g : Nat} {L : List (List UInt8)} {c : Bool} {k : Nat} (h : BookAt w S g L c k) : ∃ m, Blk w g 45 (bcells m L.length c k) := by obtain ⟨m, h, _⟩ := h; exact ⟨m, h⟩
theorem BookAt.lt {w : World} {S : Nat → Prop} {g : Nat} {L : List (List UInt8)} {c : Bool} {k : Nat} (h : BookAt w S g L c k) {i : Nat} (hi : S i) : i < w.heap.size := by obtain ⟨m, _, _, h⟩ := h; exact h.2.1 i hi
theorem BookAt.own {w : World} {S : Nat → Prop} {g : Nat} {L : List (List UInt8)} {c : Bool} {k : Nat} (h : BookAt w S g L c k) : S g := by obtain ⟨m, _, h, _⟩ := h; exact h
theorem BookAt.stay {w w' : World} {S : Nat → Prop} {g : Nat} {L : List (List UInt8)} {c : Bool} {k : Nat} (h : BookAt w S g L c k) (hz : w.heap.size ≤ w'.heap.size) (hk : ∀ i, S i → w'.heap[i]? = w.heap[i]?) : BookAt w' S g L c k := by
  obtain ⟨m, h1, h2, h3⟩ := h
  exact ⟨m, (hk g h2).trans h1, h2, h3.stay hz fun i o hi ho _ => (hk i hi).trans ho⟩
theorem BookAt.below {w w' : World} {S : Nat → Prop} {g : Nat} {L : List (List UInt8)} {c : Bool} {k : Nat} (h : BookAt w S g L c k) (hb : Below w.heap.size w w') : BookAt w' S g L c k :=
  h.stay hb.size fun i hi => hb.block i (h.lt hi)
theorem BookAt.more {w : World} {S S' : Nat → Prop} {g : Nat} {L : List (List UInt8)} {c : Bool} {k : Nat} (h : BookAt w S g L c k) (hS : ∀ i, S i → S' i) (hb : ∀ i, S' i → i < w.heap.size) : BookAt w S' g L c k := by
  obtain ⟨m, h1, h2, h3⟩ := h
  exact ⟨m, h1, hS g h2, h3.more hS hb⟩

theorem basked_any (S : Nat → Prop) (g : Nat) (L : List (List UInt8)) (c : Bool) (k : Nat) (w : World) (h : BookAt w S g L c k) (hk : k < 1000000000) : Calls Try.prog 12 #[.pointer (some ⟨g, 0, none⟩)] w fun e w' => e = .returned (.int .i64 (k : Int)) ∧ w' = w := by
  obtain ⟨m, hb⟩ := h.blk
  have c3 : w.cell? ⟨g, 3, none⟩ = some (.int .i64 (k : Int)) := hb.cell rfl
  have Hno := Lib.hid (bnone_any g m L.length k c w hb)
  have Hl := Lib.hid (bload_any g (k : Int) w c3)
  clear h hb c3
  go_enter Try.func12, Try.ntmps12
  go_wp2_with (first | (go_at_call 17; refine Hno.out.mono ?_; rintro e w' ⟨rfl, rfl⟩) | (go_at_call 22; refine Hl.out.mono ?_; rintro e w' ⟨rfl, rfl⟩))
  go_ret
  exact ⟨rfl, rfl⟩

/-- What Of makes of a book, and answers. -/
def ofL (L : List (List UInt8)) (c : Bool) (k : Nat) (x : List UInt8) : List (List UInt8) × Bool × Nat := if x.length ≤ 65536 then ((noteL L c x).1, (noteL L c x).2, k + 1) else (L, c, k)
def ofD (x : List UInt8) : List UInt8 := if x.length ≤ 65536 then digest x else List.replicate 32 0
def ofE (x : List UInt8) : Int := if x.length ≤ 65536 then 0 else 5

theorem badd_book {w : World} {S : Nat → Prop} {g : Nat} {L : List (List UInt8)} {c : Bool} {k : Nat} (h : BookAt w S g L c k) : BookAt (w.setCell ⟨g, 3, none⟩ (.int .i64 ((k + 1 : Nat) : Int))) S g L c (k + 1) := by
  obtain ⟨m, h1, h2, h3⟩ := h
  refine ⟨m, h1.set_ 3 _, h2, h3.stay (by simp [World.setCell]) fun i o hi ho hb => ?_⟩
  refine (Below.heap_setCell w ⟨g, 3, none⟩ _ i ?_).trans ho
  rintro rfl
  exact hb _ _ (Option.some.inj (ho.symm.trans h1))

set_option maxRecDepth 100000 in
set_option maxHeartbeats 800000 in
theorem bof_any (S : Nat → Prop) (g : Nat) (L : List (List UInt8)) (c : Bool) (k : Nat) (A : Option Addr) (n cp : Nat) (x : List UInt8) (w : World)
    (h : BookAt w S g L c k) (hL : L.length < 1000000) (hk : k < 1000000) (hB : Bs w A x) (hn : x.length = n) (hc : n ≤ cp) (hcm : cp ≤ maxLen) :
    Calls Try.prog 6 #[.pointer (some ⟨g, 0, none⟩), .slice A n cp] w fun e w' =>
      e = .returned (.tuple #[.agg (cbs (ofD x)).toArray, .int .i64 (ofE x)]) ∧ BookAt w' (Grown S w w') g (ofL L c k x).1 (ofL L c k x).2.1 (ofL L c k x).2.2 ∧ Out S w w' := by
  obtain ⟨m, hb⟩ := h.blk
  have b0 : Below w.heap.size w (w.alloc (.cells (cbs (List.replicate 32 0)).toArray 28)) := (Below.refl _ _).alloc (Nat.le_refl _) _
  by_cases hle : x.length ≤ 65536
  rotate_left
  · have e1 : ofL L c k x = (L, c, k) := if_neg hle
    have e2 : ofD x = List.replicate 32 0 := if_neg hle
    have e3 : ofE x = 5 := if_neg hle
    rw [e1, e2, e3]
    have hgt : (65536 : Int) < n := by omega
    have Hno := Lib.hid (bnone_any g m L.length k c _ (hb.below b0 hb.lt))
    have hZ : Blk (w.alloc (.cells (cbs (List.replicate 32 0)).toArray 28)) w.heap.size 28 (cbs (List.replicate 32 0)) := Blk.new rfl rfl
    have hth : (w.alloc (.cells (cbs (List.replicate 32 0)).toArray 28)).there w.heap.size 0 (cbs (List.replicate 32 0)).toArray.size := hZ.there
    have hR := hZ.setAll (vs := cbs (List.replicate 32 0)) rfl
    have hb1 : Below w.heap.size w ((w.alloc (.cells (cbs (List.replicate 32 0)).toArray 28)).setCells w.heap.size 0 (cbs (List.replicate 32 0))) := Below.setCells (Nat.le_refl _) _ b0
    have Hb := Lib.hid (And.intro hth (And.intro hR (And.intro h hb1)))
    clear h hb e1 e2 e3 hB hn hc hcm b0 hZ hth hR hb1
    go_enter Try.func6, Try.ntmps6
    go_wp2_with (first | (go_at_call 17; refine Hno.out.mono ?_; rintro e w' ⟨rfl, rfl⟩) | (refine wpList_store_mid rfl 28 _ _ rfl w.heap.size 0 (cbs (List.replicate 32 0)).toArray rfl rfl Hb.out.1 info32b (cbs_one' _) ?_))
    refine bodyPost_ret (results_row_tmp rfl _ _ w.heap.size 28 (cbs (List.replicate 32 0)).toArray (0, 0) _ rfl Hb.out.2.1 Try.underlying28 rfl info32b) rfl ?_
    exact ⟨rfl, (Hb.out.2.2.1.below Hb.out.2.2.2).more (fun i hi => .inl hi) (fun i hi => by
      rcases hi with hi | hi
      · exact Nat.lt_of_lt_of_le (Hb.out.2.2.1.lt hi) Hb.out.2.2.2.size
      · exact hi.2), Out.ofBelow S Hb.out.2.2.2⟩
  · have e1 : ofL L c k x = ((noteL L c x).1, (noteL L c x).2, k + 1) := if_pos hle
    have e2 : ofD x = digest x := if_pos hle
    have e3 : ofE x = 0 := if_pos hle
    rw [e1, e2, e3]
    have hgt : (n : Int) ≤ 65536 := by omega
    have Hno := Lib.hid (bnone_any g m L.length k c _ (hb.below b0 hb.lt))
    obtain ⟨D, hD32, hDv, hD1⟩ : ∃ D : List Value, D.length = 32 ∧ cbs (digest x) = D ∧ D.toArray.all (·.oneCell') = true := ⟨cbs (digest x), by rw [cbs_length, dlen], rfl, cbs_one' _⟩
    rw [hDv]
    have hof := of_any A n cp x _ (hB.after b0) hn hc hcm (by omega)
    rw [hDv] at hof
    have Hof := Lib.hid hof
    have Hb := Lib.hid (And.intro h (And.intro b0 (And.intro hB (And.intro hn (And.intro hc (And.intro hcm (And.intro hD32 (And.intro hDv hD1))))))))
    have hn6 : n ≤ 65536 := by omega
    have hZ0 : Blk (w.alloc (.cells (cbs (List.replicate 32 0)).toArray 28)) w.heap.size 28 (cbs (List.replicate 32 0)) := Blk.new rfl rfl
    have HZ := Lib.hid hZ0
    clear h hb e1 e2 e3 hB hn hc hcm b0 hD32 hDv hD1 hof hZ0
    go_enter Try.func6, Try.ntmps6
    go_wp2_with (go_at_call 17; refine Hno.out.mono ?_; rintro e w' ⟨rfl, rfl⟩)
    refine Hof.out.mono ?_
    rintro e w1 ⟨rfl, hb1⟩
    obtain ⟨h, b0, hB, hn, hc, hcm, hD32, hDv, hD1⟩ := Hb.out
    have hsz1 := hb1.size
    rw [World.size_alloc] at hsz1
    have hsD : D.toArray.size = 32 := by rw [List.size_toArray]; exact hD32
    have hbA : Below w.heap.size w w1 := b0.trans (hb1.mono (by simp))
    have hdB : Blk (w1.alloc (.cells (cbs (List.replicate 32 0)).toArray 28)) w1.heap.size 28 (cbs (List.replicate 32 0)) := Blk.new rfl rfl
    have hth : (w1.alloc (.cells (cbs (List.replicate 32 0)).toArray 28)).there w1.heap.size 0 D.toArray.size := by
      have e := hdB.there
      rw [cbs_length, List.length_replicate] at e
      rw [hsD]; exact e
    have hi : (Try.prog.info? 28).map (·.size) = some D.toArray.size := by rw [hsD]; exact info32b
    have hdS := hdB.setAll (vs := D) (by rw [hD32, cbs_length, List.length_replicate])
    have hZ1 : Blk w1 w.heap.size 28 (cbs (List.replicate 32 0)) := Blk.below HZ.out hb1 (by simp)
    have hZS := Blk.farAll (g' := w1.heap.size) (by omega) D (w := w1.alloc (.cells (cbs (List.replicate 32 0)).toArray 28)) (o := 0) (hZ1.old _)
    have hbS : Below w.heap.size w ((w1.alloc (.cells (cbs (List.replicate 32 0)).toArray 28)).setCells w1.heap.size 0 D) := Below.setCells (by omega) _ (hbA.alloc (by omega) _)
    obtain ⟨wS, hwS⟩ : ∃ wS, (w1.alloc (.cells (cbs (List.replicate 32 0)).toArray 28)).setCells w1.heap.size 0 D = wS := ⟨_, rfl⟩
    rw [hwS] at hdS hZS hbS
    have Hth := Lib.hid hth
    have Hi := Lib.hid hi
    have Hd := Lib.hid (And.intro hdS (And.intro hZS hbS))
    have Hnote := Lib.hid (note_any S g L c k A n cp x wS D hDv (h.below hbS) hL (hB.after hbS) hn hc hcm hn6)
    have HwS := Lib.hid hwS
    have hsD1 := Lib.hid hD1
    have h141 := Lib.hid hsz1
    have hlt := Lib.hid (fun i hi => h.lt (i := i) hi)
    clear h b0 hB hn hc hcm hD32 hDv hD1 hsD hbA hdB hth hi hdS hZ1 hZS hbS hwS hsz1 hb1
    go_wp2_with (first
      | (refine wpList_store_mid rfl 28 _ _ rfl w1.heap.size 0 D.toArray rfl rfl Hth.out Hi.out hsD1.out ?_; simp only [Act.put]; refine cast (congrArg (fun z => wpList _ _ _ _ _ z) HwS.out.symm) ?_)
      | (refine wpList_load_row rfl 28 _ rfl w1.heap.size rfl 28 D.toArray (0, 0) _ Hd.out.1 Try.underlying28 rfl Hi.out ?_))
    refine Hnote.out.mono ?_
    rintro e w2 ⟨rfl, hBk2, hO2⟩
    have hn1 : ¬ S w1.heap.size := fun e => by have := hlt.out _ e; have := h141.out; omega
    have hn2 : ¬ S w.heap.size := fun e => by have := hlt.out _ e; omega
    have hd2 := hO2.blk Hd.out.1 hn1
    have hZ2 := hO2.blk Hd.out.2.1 hn2
    have hown2 := hBk2.own
    obtain ⟨m2, hbk2⟩ := hBk2.blk
    have hg2 : g < w.heap.size := hlt.out g Hb.out.1.own
    have Hadd := Lib.hid (badd_any g k (by omega) w2 (hbk2.cell rfl) (hbk2.free 3))
    have H2 := Lib.hid (And.intro hBk2 (And.intro hO2 (And.intro hd2 hZ2)))
    clear hBk2 hO2 hd2 hZ2 hbk2 hown2
    go_wp2_with fail
    refine Hadd.out.mono ?_
    rintro e w3 ⟨rfl, rfl⟩
    obtain ⟨w3, hw3⟩ : ∃ w3, w2.setCell ⟨g, 3, none⟩ (.int .i64 ((k + 1 : Nat) : Int)) = w3 := ⟨_, rfl⟩
    have hB3 := badd_book H2.out.1
    have hO3 : Out S wS (w2.setCell ⟨g, 3, none⟩ (.int .i64 ((k + 1 : Nat) : Int))) := H2.out.2.1.setCell (fun _ => Hb.out.1.own) _
    have hd3 := H2.out.2.2.1.far (p := ⟨g, 3, none⟩) (by have := h141.out; show _ ≠ g; omega) (.int .i64 ((k + 1 : Nat) : Int))
    have hZ3 := H2.out.2.2.2.far (p := ⟨g, 3, none⟩) (by show _ ≠ g; omega) (.int .i64 ((k + 1 : Nat) : Int))
    have hsz3 : (w2.setCell ⟨g, 3, none⟩ (.int .i64 ((k + 1 : Nat) : Int))).heap.size = w2.heap.size := by simp [World.setCell]
    rw [hw3] at hB3 hO3 hd3 hZ3 hsz3 ⊢
    have hsD : D.toArray.size = 32 := by rw [List.size_toArray]; exact Hb.out.2.2.2.2.2.2.1
    have hth3 : w3.there w.heap.size 0 D.toArray.size := by
      have e := hZ3.there
      rw [cbs_length, List.length_replicate] at e
      rw [hsD]; exact e
    have hR := hZ3.setAll (vs := D) (by rw [Hb.out.2.2.2.2.2.2.1, cbs_length, List.length_replicate])
    have H3 := Lib.hid (And.intro hB3 (And.intro hO3 (And.intro hd3 (And.intro hth3 (And.intro hR hsz3)))))
    clear hB3 hO3 hd3 hZ3 hsz3 hth3 hR hw3 hsD
    go_wp2_with (first
      | (refine wpList_load_row rfl 28 _ rfl w1.heap.size rfl 28 D.toArray (0, 0) _ H3.out.2.2.1 Try.underlying28 rfl Hi.out ?_)
      | (refine wpList_store_mid rfl 28 _ _ rfl w.heap.size 0 D.toArray rfl rfl H3.out.2.2.2.1 Hi.out hsD1.out ?_))
    refine bodyPost_ret (results_row_tmp rfl _ _ w.heap.size 28 D.toArray (0, 0) _ rfl H3.out.2.2.2.2.1 Try.underlying28 rfl Hi.out) rfl ?_
    have hbs : But w.heap.size w3 (w3.setCells w.heap.size 0 D) := But.setCells (.inl rfl) D (But.refl _ _)
    have hsS := Hd.out.2.2.size
    have hltS : w.heap.size < wS.heap.size := by have := Hd.out.1.lt; have := h141.out; omega
    have hs3 := H3.out.2.2.2.2.2
    have hsz := hbs.size
    have hnot : ∀ i, Grown S wS w2 i → i ≠ w.heap.size := fun i hi e => by
      rcases hi with hi | hi
      · exact hn2 (e ▸ hi)
      · omega
    refine ⟨rfl, (H3.out.1.stay hsz fun i hi => hbs.block i (H3.out.1.lt hi) fun e => hnot i hi (Option.some.inj e)).more (fun i hi => ?_) (fun i hi => ?_), ?_⟩
    · rcases hi with hi | hi
      · exact .inl hi
      · exact .inr ⟨by omega, by omega⟩
    · rcases hi with hi | hi
      · exact Nat.lt_of_lt_of_le (H3.out.1.lt (.inl hi)) hsz
      · exact hi.2
    · exact ((Out.ofBelow S Hd.out.2.2).trans H3.out.2.1 fun _ _ e => e).then_grown hbs fun i hi h => by injection hi with hi; omega
end Go.Proofs.Ytcidliakmlolmaa
