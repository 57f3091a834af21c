/-
  Laid together for a hand-in: InkOf, Noted, Works3, AnyOrderH, TakeH, Local, Pure3, Bks, Clone, Plain, Num, Take.
-/
import Derived.Test.YtihmddpafbackaaGreatZ06
import Derived.Test.YtihmddpafbackaaGreatZ05
import Derived.Test.YtihmddpafbackaaGreatZ01
import Derived.Deep.RegionHeld3
import Derived.Below
import Derived.Lib.BitFns
import Derived.Deep.RegionWith

namespace Go.Proofs.YtihmddpafbackaaGreat

open Go.RowKit Go.Maps

set_option linter.unusedVariables false

def limitE : Int := 5

theorem BookAt.blk {w : World} {S : Nat → Prop} {g : Nat} {L : List (List UInt8)} {c : Bool} {k : Nat} (h : BookAt w S g L c k) : ∃ m, Blk w g 60 (bcells m L.length c k) := by obtain ⟨m, h, _⟩ := h; exact ⟨m, h⟩

theorem BookAt.lt {w : World} {S : Nat → Prop} {g : Nat} {L : List (List UInt8)} {c : Bool} {k : Nat} (h : BookAt w S g L c k) {i : Nat} (hi : S i) : i < w.heap.size := by obtain ⟨m, _, _, h⟩ := h; exact h.2.1 i hi

theorem BookAt.own {w : World} {S : Nat → Prop} {g : Nat} {L : List (List UInt8)} {c : Bool} {k : Nat} (h : BookAt w S g L c k) : S g := by obtain ⟨m, _, h, _⟩ := h; exact h

theorem BookAt.stay {w w' : World} {S : Nat → Prop} {g : Nat} {L : List (List UInt8)} {c : Bool} {k : Nat} (h : BookAt w S g L c k) (hz : w.heap.size ≤ w'.heap.size) (hk : ∀ i, S i → w'.heap[i]? = w.heap[i]?) : BookAt w' S g L c k := by
  obtain ⟨m, h1, h2, h3⟩ := h
  exact ⟨m, (hk g h2).trans h1, h2, h3.stay hz fun i o hi ho _ => (hk i hi).trans ho⟩

theorem BookAt.below {w w' : World} {S : Nat → Prop} {g : Nat} {L : List (List UInt8)} {c : Bool} {k : Nat} (h : BookAt w S g L c k) (hb : Below w.heap.size w w') : BookAt w' S g L c k :=
  h.stay hb.size fun i hi => hb.block i (h.lt hi)

theorem BookAt.more {w : World} {S S' : Nat → Prop} {g : Nat} {L : List (List UInt8)} {c : Bool} {k : Nat} (h : BookAt w S g L c k) (hS : ∀ i, S i → S' i) (hb : ∀ i, S' i → i < w.heap.size) : BookAt w S' g L c k := by
  obtain ⟨m, h1, h2, h3⟩ := h
  exact ⟨m, h1, hS g h2, h3.more hS hb⟩

theorem basked_any (S : Nat → Prop) (g : Nat) (L : List (List UInt8)) (c : Bool) (k : Nat) (w : World) (h : BookAt w S g L c k) (hk : k < 1000000000) : Calls Tryz.prog 15 #[.pointer (some ⟨g, 0, none⟩)] w fun e w' => e = .returned (.int .i64 (k : Int)) ∧ w' = w := by
  obtain ⟨m, hb⟩ := h.blk
  have c3 : w.cell? ⟨g, 3, none⟩ = some (.int .i64 (k : Int)) := hb.cell rfl
  have Hno := Lib.hid (bnone_any g m L.length k c w hb)
  have Hl := Lib.hid (bload_any g (k : Int) w c3)
  clear h hb c3
  go_enter Tryz.func15, Tryz.ntmps15
  go_wp2_with (first | (go_at_call 33; refine Hno.out.mono ?_; rintro e w' ⟨rfl, rfl⟩) | (go_at_call 34; refine Hl.out.mono ?_; rintro e w' ⟨rfl, rfl⟩))
  go_ret
  exact ⟨rfl, rfl⟩

/-- What Of makes of a book, and answers. -/
def ofL (L : List (List UInt8)) (c : Bool) (k : Nat) (x : List UInt8) : List (List UInt8) × Bool × Nat := if x.length ≤ 65536 then ((noteL L c x).1, (noteL L c x).2, k + 1) else (L, c, k)

def ofD (x : List UInt8) : List UInt8 := if x.length ≤ 65536 then digest x else List.replicate 32 0

def ofE (x : List UInt8) : Int := if x.length ≤ 65536 then 0 else 5

theorem badd_book {w : World} {S : Nat → Prop} {g : Nat} {L : List (List UInt8)} {c : Bool} {k : Nat} (h : BookAt w S g L c k) : BookAt (w.setCell ⟨g, 3, none⟩ (.int .i64 ((k + 1 : Nat) : Int))) S g L c (k + 1) := by
  obtain ⟨m, h1, h2, h3⟩ := h
  refine ⟨m, h1.set_ 3 _, h2, h3.stay (by simp [World.setCell]) fun i o hi ho hb => ?_⟩
  refine (Below.heap_setCell w ⟨g, 3, none⟩ _ i ?_).trans ho
  rintro rfl
  exact hb _ _ (Option.some.inj (ho.symm.trans h1))

set_option maxRecDepth 100000 in
set_option maxHeartbeats 800000 in
theorem bof_any (S : Nat → Prop) (g : Nat) (L : List (List UInt8)) (c : Bool) (k : Nat) (A : Option Addr) (n cp : Nat) (x : List UInt8) (w : World)
    (h : BookAt w S g L c k) (hL : L.length < 1000000) (hk : k < 1000000) (hB : Bs w A x) (hn : x.length = n) (hc : n ≤ cp) (hcm : cp ≤ maxLen) :
    Calls Tryz.prog 29 #[.pointer (some ⟨g, 0, none⟩), .slice A n cp] w fun e w' =>
      e = .returned (.tuple #[.agg (cbs (ofD x)).toArray, .int .i64 (ofE x)]) ∧ BookAt w' (Grown S w w') g (ofL L c k x).1 (ofL L c k x).2.1 (ofL L c k x).2.2 ∧ Out S w w' := by
  obtain ⟨m, hb⟩ := h.blk
  have b0 : Below w.heap.size w (w.alloc (.cells (cbs (List.replicate 32 0)).toArray 32)) := (Below.refl _ _).alloc (Nat.le_refl _) _
  by_cases hle : x.length ≤ 65536
  rotate_left
  · have e1 : ofL L c k x = (L, c, k) := if_neg hle
    have e2 : ofD x = List.replicate 32 0 := if_neg hle
    have e3 : ofE x = 5 := if_neg hle
    rw [e1, e2, e3]
    have hgt : (65536 : Int) < n := by omega
    have Hno := Lib.hid (bnone_any g m L.length k c _ (hb.below b0 hb.lt))
    have hZ : Blk (w.alloc (.cells (cbs (List.replicate 32 0)).toArray 32)) w.heap.size 32 (cbs (List.replicate 32 0)) := Blk.new rfl rfl
    have hth : (w.alloc (.cells (cbs (List.replicate 32 0)).toArray 32)).there w.heap.size 0 (cbs (List.replicate 32 0)).toArray.size := hZ.there
    have hR := hZ.setAll (vs := cbs (List.replicate 32 0)) rfl
    have hb1 : Below w.heap.size w ((w.alloc (.cells (cbs (List.replicate 32 0)).toArray 32)).setCells w.heap.size 0 (cbs (List.replicate 32 0))) := Below.setCells (Nat.le_refl _) _ b0
    have Hb := Lib.hid (And.intro hth (And.intro hR (And.intro h hb1)))
    clear h hb e1 e2 e3 hB hn hc hcm b0 hZ hth hR hb1
    go_enter Tryz.func29, Tryz.ntmps29
    go_wp2_with (first | (go_at_call 33; refine Hno.out.mono ?_; rintro e w' ⟨rfl, rfl⟩) | (refine wpList_store_mid rfl 32 _ _ rfl w.heap.size 0 (cbs (List.replicate 32 0)).toArray rfl rfl Hb.out.1 info32b (cbs_one' _) ?_))
    refine bodyPost_ret (results_row_tmp3 rfl _ _ w.heap.size 32 (cbs (List.replicate 32 0)).toArray (0, 0) _ rfl Hb.out.2.1 Tryz.underlying32 rfl info32b) rfl ?_
    exact ⟨rfl, (Hb.out.2.2.1.below Hb.out.2.2.2).more (fun i hi => .inl hi) (fun i hi => by
      rcases hi with hi | hi
      · exact Nat.lt_of_lt_of_le (Hb.out.2.2.1.lt hi) Hb.out.2.2.2.size
      · exact hi.2), Out.ofBelow S Hb.out.2.2.2⟩
  · have e1 : ofL L c k x = ((noteL L c x).1, (noteL L c x).2, k + 1) := if_pos hle
    have e2 : ofD x = digest x := if_pos hle
    have e3 : ofE x = 0 := if_pos hle
    rw [e1, e2, e3]
    have hgt : (n : Int) ≤ 65536 := by omega
    have Hno := Lib.hid (bnone_any g m L.length k c _ (hb.below b0 hb.lt))
    obtain ⟨D, hD32, hDv, hD1⟩ : ∃ D : List Value, D.length = 32 ∧ cbs (digest x) = D ∧ D.toArray.all (·.oneCell') = true := ⟨cbs (digest x), by rw [cbs_length, dlen], rfl, cbs_one' _⟩
    rw [hDv]
    have hof := of_any A n cp x _ (hB.after b0) hn hc hcm (by omega)
    rw [hDv] at hof
    have Hof := Lib.hid hof
    have Hb := Lib.hid (And.intro h (And.intro b0 (And.intro hB (And.intro hn (And.intro hc (And.intro hcm (And.intro hD32 (And.intro hDv hD1))))))))
    have hn6 : n ≤ 65536 := by omega
    have hZ0 : Blk (w.alloc (.cells (cbs (List.replicate 32 0)).toArray 32)) w.heap.size 32 (cbs (List.replicate 32 0)) := Blk.new rfl rfl
    have HZ := Lib.hid hZ0
    clear h hb e1 e2 e3 hB hn hc hcm b0 hD32 hDv hD1 hof hZ0
    go_enter Tryz.func29, Tryz.ntmps29
    go_wp2_with (go_at_call 33; refine Hno.out.mono ?_; rintro e w' ⟨rfl, rfl⟩)
    refine Hof.out.mono ?_
    rintro e w1 ⟨rfl, hb1⟩
    obtain ⟨h, b0, hB, hn, hc, hcm, hD32, hDv, hD1⟩ := Hb.out
    have hsz1 := hb1.size
    rw [World.size_alloc] at hsz1
    have hsD : D.toArray.size = 32 := by rw [List.size_toArray]; exact hD32
    have hbA : Below w.heap.size w w1 := b0.trans (hb1.mono (by simp))
    have hdB : Blk (w1.alloc (.cells (cbs (List.replicate 32 0)).toArray 32)) w1.heap.size 32 (cbs (List.replicate 32 0)) := Blk.new rfl rfl
    have hth : (w1.alloc (.cells (cbs (List.replicate 32 0)).toArray 32)).there w1.heap.size 0 D.toArray.size := by
      have e := hdB.there
      rw [cbs_length, List.length_replicate] at e
      rw [hsD]; exact e
    have hi : (Tryz.prog.info? 32).map (·.size) = some D.toArray.size := by rw [hsD]; exact info32b
    have hdS := hdB.setAll (vs := D) (by rw [hD32, cbs_length, List.length_replicate])
    have hZ1 : Blk w1 w.heap.size 32 (cbs (List.replicate 32 0)) := Blk.below HZ.out hb1 (by simp)
    have hZS := Blk.farAll (g' := w1.heap.size) (by omega) D (w := w1.alloc (.cells (cbs (List.replicate 32 0)).toArray 32)) (o := 0) (hZ1.old _)
    have hbS : Below w.heap.size w ((w1.alloc (.cells (cbs (List.replicate 32 0)).toArray 32)).setCells w1.heap.size 0 D) := Below.setCells (by omega) _ (hbA.alloc (by omega) _)
    obtain ⟨wS, hwS⟩ : ∃ wS, (w1.alloc (.cells (cbs (List.replicate 32 0)).toArray 32)).setCells w1.heap.size 0 D = wS := ⟨_, rfl⟩
    rw [hwS] at hdS hZS hbS
    have Hth := Lib.hid hth
    have Hi := Lib.hid hi
    have Hd := Lib.hid (And.intro hdS (And.intro hZS hbS))
    have Hnote := Lib.hid (note_any S g L c k A n cp x wS D hDv (h.below hbS) hL (hB.after hbS) hn hc hcm hn6)
    have HwS := Lib.hid hwS
    have hsD1 := Lib.hid hD1
    have h141 := Lib.hid hsz1
    have hlt := Lib.hid (fun i hi => h.lt (i := i) hi)
    clear h b0 hB hn hc hcm hD32 hDv hD1 hsD hbA hdB hth hi hdS hZ1 hZS hbS hwS hsz1 hb1
    go_wp2_with (first
      | (refine wpList_store_mid rfl 32 _ _ rfl w1.heap.size 0 D.toArray rfl rfl Hth.out Hi.out hsD1.out ?_; simp only [Act.put]; refine cast (congrArg (fun z => wpList _ _ _ _ _ z) HwS.out.symm) ?_)
      | (refine wpList_load_row rfl 32 _ rfl w1.heap.size rfl 32 D.toArray (0, 0) _ Hd.out.1 Tryz.underlying32 rfl Hi.out ?_))
    refine Hnote.out.mono ?_
    rintro e w2 ⟨rfl, hBk2, hO2⟩
    have hn1 : ¬ S w1.heap.size := fun e => by have := hlt.out _ e; have := h141.out; omega
    have hn2 : ¬ S w.heap.size := fun e => by have := hlt.out _ e; omega
    have hd2 := hO2.blk Hd.out.1 hn1
    have hZ2 := hO2.blk Hd.out.2.1 hn2
    have hown2 := hBk2.own
    obtain ⟨m2, hbk2⟩ := hBk2.blk
    have hg2 : g < w.heap.size := hlt.out g Hb.out.1.own
    have Hadd := Lib.hid (badd_any g k (by omega) w2 (hbk2.cell rfl) (hbk2.free 3))
    have H2 := Lib.hid (And.intro hBk2 (And.intro hO2 (And.intro hd2 hZ2)))
    clear hBk2 hO2 hd2 hZ2 hbk2 hown2
    go_wp2_with fail
    refine Hadd.out.mono ?_
    rintro e w3 ⟨rfl, rfl⟩
    obtain ⟨w3, hw3⟩ : ∃ w3, w2.setCell ⟨g, 3, none⟩ (.int .i64 ((k + 1 : Nat) : Int)) = w3 := ⟨_, rfl⟩
    have hB3 := badd_book H2.out.1
    have hO3 : Out S wS (w2.setCell ⟨g, 3, none⟩ (.int .i64 ((k + 1 : Nat) : Int))) := H2.out.2.1.setCell (fun _ => Hb.out.1.own) _
    have hd3 := H2.out.2.2.1.far (p := ⟨g, 3, none⟩) (by have := h141.out; show _ ≠ g; omega) (.int .i64 ((k + 1 : Nat) : Int))
    have hZ3 := H2.out.2.2.2.far (p := ⟨g, 3, none⟩) (by show _ ≠ g; omega) (.int .i64 ((k + 1 : Nat) : Int))
    have hsz3 : (w2.setCell ⟨g, 3, none⟩ (.int .i64 ((k + 1 : Nat) : Int))).heap.size = w2.heap.size := by simp [World.setCell]
    rw [hw3] at hB3 hO3 hd3 hZ3 hsz3 ⊢
    have hsD : D.toArray.size = 32 := by rw [List.size_toArray]; exact Hb.out.2.2.2.2.2.2.1
    have hth3 : w3.there w.heap.size 0 D.toArray.size := by
      have e := hZ3.there
      rw [cbs_length, List.length_replicate] at e
      rw [hsD]; exact e
    have hR := hZ3.setAll (vs := D) (by rw [Hb.out.2.2.2.2.2.2.1, cbs_length, List.length_replicate])
    have H3 := Lib.hid (And.intro hB3 (And.intro hO3 (And.intro hd3 (And.intro hth3 (And.intro hR hsz3)))))
    clear hB3 hO3 hd3 hZ3 hsz3 hth3 hR hw3 hsD
    go_wp2_with (first
      | (refine wpList_load_row rfl 32 _ rfl w1.heap.size rfl 32 D.toArray (0, 0) _ H3.out.2.2.1 Tryz.underlying32 rfl Hi.out ?_)
      | (refine wpList_store_mid rfl 32 _ _ rfl w.heap.size 0 D.toArray rfl rfl H3.out.2.2.2.1 Hi.out hsD1.out ?_))
    refine bodyPost_ret (results_row_tmp3 rfl _ _ w.heap.size 32 D.toArray (0, 0) _ rfl H3.out.2.2.2.2.1 Tryz.underlying32 rfl Hi.out) rfl ?_
    have hbs : But w.heap.size w3 (w3.setCells w.heap.size 0 D) := But.setCells (.inl rfl) D (But.refl _ _)
    have hsS := Hd.out.2.2.size
    have hltS : w.heap.size < wS.heap.size := by have := Hd.out.1.lt; have := h141.out; omega
    have hs3 := H3.out.2.2.2.2.2
    have hsz := hbs.size
    have hnot : ∀ i, Grown S wS w2 i → i ≠ w.heap.size := fun i hi e => by
      rcases hi with hi | hi
      · exact hn2 (e ▸ hi)
      · omega
    refine ⟨rfl, (H3.out.1.stay hsz fun i hi => hbs.block i (H3.out.1.lt hi) fun e => hnot i hi (Option.some.inj e)).more (fun i hi => ?_) (fun i hi => ?_), ?_⟩
    · rcases hi with hi | hi
      · exact .inl hi
      · exact .inr ⟨by omega, by omega⟩
    · rcases hi with hi | hi
      · exact Nat.lt_of_lt_of_le (H3.out.1.lt (.inl hi)) hsz
      · exact hi.2
    · exact ((Out.ofBelow S Hd.out.2.2).trans H3.out.2.1 fun _ _ e => e).then_grown hbs fun i hi h => by injection hi with hi; omega

end Go.Proofs.YtihmddpafbackaaGreat

namespace Go.Proofs.YtihmddpafbackaaGreat

open Go.RowKit Go.Maps

set_option linter.unusedVariables false

/-- The bytes of a slice lie in none of these blocks. -/
def OffS (S : Nat → Prop) (A : Option Addr) (l : List UInt8) : Prop := l ≠ [] → ∀ a, A = some a → ¬ S a.block

theorem Bs.out {S : Nat → Prop} {w w' : World} {A : Option Addr} {l : List UInt8} (h : Bs w A l) (ho : OffS S A l) (hw : Out S w w') : Bs w' A l := by
  refine ⟨h.1, fun hn => ?_⟩
  obtain ⟨b, off, e, hb, hc⟩ := h.2 hn
  refine ⟨b, off, e, Nat.lt_of_lt_of_le hb hw.size, fun j u hu => ?_⟩
  have hne : l ≠ [] := fun e => by subst e; simp at hn
  exact (World.cell?_of_block (a := ⟨b, off + j, none⟩) (hw.block b hb (ho hne _ e))).trans (hc j u hu)

theorem Bs.off {w : World} {A : Option Addr} {l : List UInt8} {S : Nat → Prop} (h : Bs w A l) (hS : ∀ i, S i → w.heap.size ≤ i) : OffS S A l := fun hl a ha hs => by
  obtain ⟨b, off, e, hb, _⟩ := h.2 (by cases l with | nil => exact absurd rfl hl | cons x t => simp)
  rw [ha] at e
  cases e
  have := hS _ hs
  simp only at this
  omega

theorem OffS.mono {A : Option Addr} {l : List UInt8} {S S' : Nat → Prop} (h : OffS S A l) (hS : ∀ i a, A = some a → l ≠ [] → a.block = i → S' i → S i) : OffS S' A l := fun hl a ha hs => h hl a ha (hS _ a ha hl rfl hs)

theorem OffS.grown {A : Option Addr} {l : List UInt8} {S : Nat → Prop} {w w' : World} (h : OffS S A l) (hB : Bs w A l) : OffS (Grown S w w') A l := fun hl a ha hs => by
  obtain ⟨b, off, e, hb, _⟩ := hB.2 (by cases l with | nil => exact absurd rfl hl | cons x t => simp)
  rw [ha] at e
  cases e
  rcases hs with hs | hs
  · exact h hl _ ha hs
  · have := hs.1; simp only at this; omega

theorem BookAt.later {w w1 w2 : World} {S : Nat → Prop} {g : Nat} {L : List (List UInt8)} {c : Bool} {k : Nat} (h : BookAt w1 (Grown S w w1) g L c k) (hb : Below w1.heap.size w1 w2) : BookAt w2 (Grown S w w2) g L c k :=
  (h.below hb).more (fun i hi => by
    rcases hi with hi | hi
    · exact .inl hi
    · exact .inr ⟨hi.1, Nat.lt_of_lt_of_le hi.2 hb.size⟩) (fun i hi => by
    rcases hi with hi | hi
    · exact Nat.lt_of_lt_of_le (h.lt (.inl hi)) hb.size
    · exact hi.2)

end Go.Proofs.YtihmddpafbackaaGreat

namespace Go.Proofs.YtihmddpafbackaaGreat

open Go.RowKit Go.Maps

set_option linter.unusedVariables false

theorem abc_noted : ofL [] false 0 [97, 98, 99] = ([[97, 98, 99]], false, 1) := by
  unfold ofL noteL
  rw [if_pos (by decide), if_neg (by decide), dig_abc]
  rfl

theorem abc_again : ofL [[97, 98, 99]] false 1 [97, 98, 99] = ([[97, 98, 99]], false, 2) := by
  unfold ofL noteL
  rw [if_pos (by decide), if_pos (by decide)]

theorem none_noted : ofL [[97, 98, 99]] false 2 [] = ([[97, 98, 99], []], false, 3) := by
  have e : grp (digest []) [[97, 98, 99]] = [] := by
    unfold grp
    rw [List.filter_cons_of_neg (by show ¬ ((digest [97, 98, 99] == digest []) = true); rw [dig_abc, dig_none]; decide), List.filter_nil]
  have e2 : (digest [] == List.replicate 32 0) = false := by rw [dig_none]; decide
  unfold ofL noteL
  rw [if_pos (by decide), if_neg (by decide), e, e2]
  rfl

end Go.Proofs.YtihmddpafbackaaGreat

namespace Go.Proofs.YtihmddpafbackaaGreat

open Go.RowKit

set_option linter.unusedVariables false

section

variable {P : Program} {ops : Array Oper} {Q : Exit → Act → World → Prop} {md : Region.Mode} {S : World → Prop}

theorem anyH_take {i d : Nat} {oi : Oper} {v : Value} {fuel : Nat} {listed : Array Bool} {a : Act} {w : World} (hi : ops[i]? = some oi) (hd : oi.dst = some d)
    (hs : Region.noSelect ops = true) (hf : Region.free md ops listed i = true) (hr : (Region.ready md ops listed).contains i = true)
    (hQ : ∀ c a w, Q (.panic c) (a.put oi.dst v) w → Q (.panic c) a w) (hy : Yields P ops oi v a) (hS : S w)
    (h : wpAnyH P md ops Q S fuel (listed.setIfInBounds i true) { a with tmps := a.tmps.setIfInBounds d v } w) : wpAnyH P md ops Q S (fuel + 1) listed a w :=
  wpAnyH_take hi hs hf hr hQ hy.yieldsIf hS (by unfold Act.put; rw [hd]; exact h)

theorem anyH_load {i d : Nat} {oi : Oper} {fuel : Nat} {listed : Array Bool} {a : Act} {w : World} (hi : ops[i]? = some oi) (hd : oi.dst = some d)
    (hs : Region.noSelect ops = true) (hf : Region.free md ops listed i = true) (hr : (Region.ready md ops listed).contains i = true)
    (hw : Region.wanted oi (yielded ops a.tmps) = true) (ty : TypeId) (x : Operand) (ho : oi.op = .load ty x)
    (b o : Nat) (hx : a.eval x = .pointer (some ⟨b, o, none⟩)) (cs : List Value) (t : TypeDesc) (hR : ∀ w, S w → w.rangeAt b o cs)
    (hu : P.underlying ty = some t) (ht : t.isRow = true) (hn : (P.info? ty).map (·.size) = some cs.length)
    (hQ : ∀ c a w, Q (.panic c) (a.put oi.dst (.agg cs.toArray)) w → Q (.panic c) a w) (hS : S w)
    (h : wpAnyH P md ops Q S fuel (listed.setIfInBounds i true) { a with tmps := a.tmps.setIfInBounds d (.agg cs.toArray) } w) : wpAnyH P md ops Q S (fuel + 1) listed a w :=
  wpAnyH_take hi hs hf hr hQ (yieldsIf_load_mid hw ty x ho b o hx cs t hR hu ht hn) hS (by unfold Act.put; rw [hd]; exact h)

theorem anyH_one {i : Nat} {fuel : Nat} {listed : Array Bool} {a : Act} {w : World} (hr : Region.ready md ops listed = [i])
    (h : wpOp P ops Q i (fun a' w' => S w' ∧ wpAnyH P md ops Q S fuel (listed.setIfInBounds i true) a' w') a w) : wpAnyH P md ops Q S (fuel + 1) listed a w :=
  wpAnyH_all hr (by simp) (fun j hj => by simp at hj; subst hj; exact h)

end

end Go.Proofs.YtihmddpafbackaaGreat

namespace Go.Proofs.YtihmddpafbackaaGreat

open Go.RowKit Go.Maps

section

variable {P : Program} {ops : Array Oper} {Q : Exit → Act → World → Prop} {md : Region.Mode} {S : World → Prop}

theorem wpAnyH_take' {i d : Nat} {oi : Oper} {v : Value} {fuel : Nat} {listed : Array Bool} {a : Act} {w : World} (hi : ops[i]? = some oi) (hd : oi.dst = some d)
    (hs : Region.noSelect ops = true) (hf : Region.free md ops listed i = true) (hr : (Region.ready md ops listed).contains i = true)
    (hQ : ∀ c a w, Q (.panic c) (a.put oi.dst v) w → Q (.panic c) a w) (hy : YieldsIf P ops S oi v a) (hS : S w)
    (h : wpAnyH P md ops Q S fuel (listed.setIfInBounds i true) { a with tmps := a.tmps.setIfInBounds d v } w) : wpAnyH P md ops Q S (fuel + 1) listed a w :=
  wpAnyH_take hi hs hf hr hQ hy hS (by unfold Act.put; rw [hd]; exact h)

end

end Go.Proofs.YtihmddpafbackaaGreat

namespace Go.Proofs.YtihmddpafbackaaGreat

open Go.RowKit Go.Maps

set_option linter.unusedVariables false

theorem size_cells3 (vs : List Value) : ∀ (w : World) (b o : Nat), (w.setCells b o vs).heap.size = w.heap.size := by
  induction vs with
  | nil => intro w b o; rfl
  | cons v vs ih => intro w b o; rw [World.setCells, ih]; simp [World.setCell]

theorem dig_local (w1 : World) (D : List Value) (hD : D.length = 32) : ∃ wS, (w1.alloc (.cells (cbs (List.replicate 32 0)).toArray 32)).setCells w1.heap.size 0 D = wS ∧
    ((w1.alloc (.cells (cbs (List.replicate 32 0)).toArray 32)).there w1.heap.size 0 D.toArray.size ∧ (Tryz.prog.info? 32).map (·.size) = some D.toArray.size) ∧
    Blk wS w1.heap.size 32 D ∧ Below w1.heap.size w1 wS ∧ wS.heap.size = w1.heap.size + 1 := by
  have hsD : D.toArray.size = 32 := by rw [List.size_toArray]; exact hD
  have hdB : Blk (w1.alloc (.cells (cbs (List.replicate 32 0)).toArray 32)) w1.heap.size 32 (cbs (List.replicate 32 0)) := Blk.new rfl rfl
  refine ⟨_, rfl, ⟨?_, ?_⟩, ?_, ?_, ?_⟩
  · have e := hdB.there
    rw [cbs_length, List.length_replicate] at e
    rw [hsD]; exact e
  · rw [hsD]; exact info32b
  · exact hdB.setAll (vs := D) (by rw [hD, cbs_length, List.length_replicate])
  · exact Below.setCells (by omega) _ ((Below.refl _ _).alloc (Nat.le_refl _) _)
  · rw [size_cells3, World.size_alloc]

theorem dig_cells (x : List UInt8) : ∃ D : List Value, D.length = 32 ∧ cbs (ofD x) = D ∧ D.toArray.all (·.oneCell') = true :=
  ⟨cbs (ofD x), by rw [cbs_length]; unfold ofD; split; exact dlen x; rfl, rfl, cbs_one' _⟩


theorem one_noted (x : List UInt8) (h : x.length ≤ 65536) : ofL [] false 0 x = ([x], digest x == List.replicate 32 0, 1) := by
  unfold ofL noteL grp
  rw [if_pos h, if_neg (by simp)]
  simp

end Go.Proofs.YtihmddpafbackaaGreat

namespace Go.Proofs.YtihmddpafbackaaGreat

set_option linter.unusedVariables false

def stepL (s : List (List UInt8) × Bool × Nat) (x : List UInt8) : List (List UInt8) × Bool × Nat := ofL s.1 s.2.1 s.2.2 x

def runL (ls : List (List UInt8)) : List (List UInt8) × Bool × Nat := ls.foldl stepL ([], false, 0)

theorem runL_snoc (ls : List (List UInt8)) (x : List UInt8) : runL (ls ++ [x]) = stepL (runL ls) x := by unfold runL; rw [List.foldl_append]; rfl

theorem runL_succ (ls : List (List UInt8)) (j : Nat) (hj : j < ls.length) : runL (ls.take (j + 1)) = stepL (runL (ls.take j)) ls[j] := by
  rw [List.take_succ_eq_append_getElem hj, runL_snoc]

theorem stepL_len (s : List (List UInt8) × Bool × Nat) (x : List UInt8) : (stepL s x).1.length ≤ s.1.length + 1 ∧ (stepL s x).2.2 ≤ s.2.2 + 1 := by
  unfold stepL ofL noteL
  split
  · split <;> simp
  · simp

theorem snoc_ind {P : List (List UInt8) → Prop} (h0 : P []) (hs : ∀ ls x, P ls → P (ls ++ [x])) (ls : List (List UInt8)) : P ls := by
  have : ∀ r : List (List UInt8), P r.reverse := fun r => by
    induction r with
    | nil => exact h0
    | cons x r ih => rw [List.reverse_cons]; exact hs _ _ ih
  have h := this ls.reverse
  rwa [List.reverse_reverse] at h

theorem runL_len (ls : List (List UInt8)) : (runL ls).1.length ≤ ls.length ∧ (runL ls).2.2 ≤ ls.length := by
  refine snoc_ind (P := fun ls => (runL ls).1.length ≤ ls.length ∧ (runL ls).2.2 ≤ ls.length) ?_ (fun ls x ih => ?_) ls
  · simp [runL]
  · rw [runL_snoc, List.length_append]
    have := stepL_len (runL ls) x
    simp only [List.length_singleton]
    omega

/-- As long as there is no clash, unlike inputs have unlike digests. -/
def Unmixed (s : List (List UInt8) × Bool × Nat) : Prop := s.2.1 = false → ∀ x ∈ s.1, ∀ y ∈ s.1, digest x = digest y → x = y

theorem stepL_good (s : List (List UInt8) × Bool × Nat) (x : List UInt8) (h : Unmixed s) : Unmixed (stepL s x) := by
  unfold stepL ofL noteL
  by_cases hl : x.length ≤ 65536
  rotate_left
  · rw [if_neg hl]; exact h
  rw [if_pos hl]
  by_cases hx : x ∈ s.1
  · rw [if_pos hx]; exact h
  rw [if_neg hx]
  intro hc
  simp only [Bool.or_eq_false_iff, decide_eq_false_iff_not, ne_eq, Decidable.not_not] at hc
  obtain ⟨⟨h1, h2⟩, _⟩ := hc
  have hno : ∀ y ∈ s.1, digest y ≠ digest x := fun y hy e => by
    have : y ∈ grp (digest x) s.1 := by unfold grp; rw [List.mem_filter]; exact ⟨hy, beq_iff_eq.2 e⟩
    rw [h2] at this; cases this
  intro y hy z hz e
  simp only [List.mem_append, List.mem_singleton] at hy hz
  rcases hy with hy | rfl
  · rcases hz with hz | rfl
    · exact h h1 y hy z hz e
    · exact absurd e (hno y hy)
  · rcases hz with hz | rfl
    · exact absurd e.symm (hno z hz)
    · rfl

theorem runL_good (ls : List (List UInt8)) : Unmixed (runL ls) := by
  refine snoc_ind (P := fun ls => Unmixed (runL ls)) ?_ (fun ls x ih => ?_) ls
  · intro _ x hx; simp [runL] at hx
  · rw [runL_snoc]; exact stepL_good _ _ ih

theorem stepL_mem (s : List (List UInt8) × Bool × Nat) (x y : List UInt8) : y ∈ (stepL s x).1 ↔ y ∈ s.1 ∨ (y = x ∧ x.length ≤ 65536) := by
  unfold stepL ofL noteL
  by_cases hl : x.length ≤ 65536
  · rw [if_pos hl]
    by_cases hx : x ∈ s.1
    · rw [if_pos hx]
      exact ⟨.inl, fun h => by rcases h with h | ⟨rfl, _⟩; exact h; exact hx⟩
    · rw [if_neg hx]; simp [hl]
  · rw [if_neg hl]; simp [hl]

theorem runL_mem (ls : List (List UInt8)) (y : List UInt8) : y ∈ (runL ls).1 ↔ y ∈ ls ∧ y.length ≤ 65536 := by
  refine snoc_ind (P := fun ls => y ∈ (runL ls).1 ↔ y ∈ ls ∧ y.length ≤ 65536) ?_ (fun ls x ih => ?_) ls
  · simp [runL]
  · rw [runL_snoc, stepL_mem, ih, List.mem_append, List.mem_singleton]
    constructor
    · rintro (h | ⟨rfl, h⟩)
      · exact ⟨.inl h.1, h.2⟩
      · exact ⟨.inr rfl, h⟩
    · rintro ⟨h | rfl, h2⟩
      · exact .inl ⟨h, h2⟩
      · exact .inr ⟨rfl, h2⟩

/-- An input that is there changes nothing but how often it was asked. -/
theorem ofL_old {L : List (List UInt8)} {c : Bool} {k : Nat} {x : List UInt8} (hx : x ∈ L) (hl : x.length ≤ 65536) : ofL L c k x = (L, c, k + 1) := by
  unfold ofL noteL
  rw [if_pos hl, if_pos hx]

theorem ofL_long {L : List (List UInt8)} {c : Bool} {k : Nat} {x : List UInt8} (hl : ¬ x.length ≤ 65536) : ofL L c k x = (L, c, k) := if_neg hl

end Go.Proofs.YtihmddpafbackaaGreat

namespace Go.Proofs.YtihmddpafbackaaGreat

open Go.RowKit Go.Maps

set_option linter.unusedVariables false

def BkS (w wr : World) (g : Nat) (s : List (List UInt8) × Bool × Nat) (ds : List (Nat × List Value)) : Prop :=
  ∃ S : Nat → Prop, (∀ i, S i → w.heap.size ≤ i) ∧ BookAt wr S g s.1 s.2.1 s.2.2 ∧ Below w.heap.size w wr ∧ ∀ d ∈ ds, Blk wr d.1 32 d.2 ∧ ¬ S d.1

section

variable {w wr w' : World} {g : Nat} {s : List (List UInt8) × Bool × Nat} {ds : List (Nat × List Value)}

theorem BkS.bel (h : BkS w wr g s ds) : Below w.heap.size w wr := by obtain ⟨_, _, _, h, _⟩ := h; exact h

theorem BkS.dig (h : BkS w wr g s ds) {d : Nat × List Value} (hd : d ∈ ds) : Blk wr d.1 32 d.2 := by obtain ⟨_, _, _, _, h⟩ := h; exact (h d hd).1

theorem BkS.blk (h : BkS w wr g s ds) : ∃ m, Blk wr g 60 (bcells m s.1.length s.2.1 s.2.2) := by obtain ⟨_, _, h, _⟩ := h; exact h.blk

theorem BkS.below (h : BkS w wr g s ds) (hb : Below wr.heap.size wr w') : BkS w w' g s ds := by
  obtain ⟨S, h1, h2, h3, h4⟩ := h
  exact ⟨S, h1, h2.below hb, h3.trans (hb.mono h3.size), fun d hd => ⟨(h4 d hd).1.below hb (h4 d hd).1.lt, (h4 d hd).2⟩⟩

theorem BkS.newD (h : BkS w wr g s ds) (hb : Below wr.heap.size wr w') {D : List Value} (hD : Blk w' wr.heap.size 32 D) : BkS w w' g s ((wr.heap.size, D) :: ds) := by
  obtain ⟨S, h1, h2, h3, h4⟩ := h
  refine ⟨S, h1, h2.below hb, h3.trans (hb.mono h3.size), fun d hd => ?_⟩
  rcases List.mem_cons.1 hd with rfl | hd
  · exact ⟨hD, fun e => by have := h2.lt e; simp at this⟩
  · exact ⟨(h4 d hd).1.below hb (h4 d hd).1.lt, (h4 d hd).2⟩

theorem bks_of (h : BkS w wr g s ds) (hL : s.1.length < 1000000) (hk : s.2.2 < 1000000) (A : Option Addr) (n cp : Nat) (x : List UInt8) (hB : Bs w A x) (hn : x.length = n) (hc : n ≤ cp) (hcm : cp ≤ maxLen) :
    Calls Tryz.prog 29 #[.pointer (some ⟨g, 0, none⟩), .slice A n cp] wr fun e w' => e = .returned (.tuple #[.agg (cbs (ofD x)).toArray, .int .i64 (ofE x)]) ∧ BkS w w' g (stepL s x) ds := by
  obtain ⟨S, h1, h2, h3, h4⟩ := h
  refine (bof_any S g s.1 s.2.1 s.2.2 A n cp x wr h2 hL hk (hB.after h3) hn hc hcm).mono ?_
  rintro e w' ⟨rfl, k1, k2⟩
  refine ⟨rfl, _, fun i hi => ?_, k1, h3.trans (k2.above h1 h3.size), fun d hd => ⟨k2.blk (h4 d hd).1 (h4 d hd).2, fun e => ?_⟩⟩
  · rcases hi with hi | hi
    · exact h1 i hi
    · exact Nat.le_trans h3.size hi.1
  · rcases e with e | e
    · exact (h4 d hd).2 e
    · have := (h4 d hd).1.lt; omega

theorem bks_len (h : BkS w wr g s ds) : Calls Tryz.prog 13 #[.pointer (some ⟨g, 0, none⟩)] wr fun e w' => e = .returned (.int .i64 (s.1.length : Int)) ∧ w' = wr := by
  obtain ⟨m, hb⟩ := h.blk
  exact blen_any g m _ _ _ wr hb

theorem bks_clash (h : BkS w wr g s ds) : Calls Tryz.prog 18 #[.pointer (some ⟨g, 0, none⟩)] wr fun e w' => e = .returned (.bool s.2.1) ∧ w' = wr := by
  obtain ⟨m, hb⟩ := h.blk
  exact bclash_any g m _ _ _ wr hb

theorem bks_asked (h : BkS w wr g s ds) (hk : s.2.2 < 1000000000) : Calls Tryz.prog 15 #[.pointer (some ⟨g, 0, none⟩)] wr fun e w' => e = .returned (.int .i64 (s.2.2 : Int)) ∧ w' = wr := by
  obtain ⟨S, _, h2, _⟩ := h
  exact basked_any S g _ _ _ wr h2 hk

theorem bks_new {w0 w1 : World} {S : Nat → Prop} (hb0 : Below w.heap.size w w0) (hS : ∀ i, S i → w0.heap.size ≤ i) (hk : BookAt w1 S g [] false 0) (hb : Below w0.heap.size w0 w1) : BkS w w1 g (runL []) [] :=
  ⟨S, fun i hi => Nat.le_trans hb0.size (hS i hi), hk, hb0.trans (hb.mono hb0.size), fun d hd => by cases hd⟩

end

end Go.Proofs.YtihmddpafbackaaGreat

namespace Go.Proofs.YtihmddpafbackaaGreat

open Go.RowKit

set_option linter.unusedVariables false

set_option maxHeartbeats 400000 in
theorem clone_any (A : Option Addr) (c n : Nat) (xs : List UInt8) (w : World) (hA : Bs w A xs) (hn : xs.length = n) (hl : n ≤ 140737488355328) :
    Calls Tryz.prog 76 #[.slice A n c] w (RetB w xs) := by
  have Hn := Lib.hid hn
  clear hn
  cases A with
  | none =>
    have hm : xs = [] := by
      cases xs with
      | nil => rfl
      | cons x t => obtain ⟨b, off, e, _⟩ := hA.at_ (i := 0) (by simp); cases e
    subst hm
    have hq := fun (w : World) => Lib.run_eql_slice_nil (P := Tryz.prog) w 22 5 none n c 0 0 Tryz.underlying22
    go_enter Tryz.func76, Tryz.ntmps76
    go_wp2
    go_ret
    exact ⟨_, rfl, World.ownsRow_nil _ _ _ _, Below.refl _ _⟩
  | some ad =>
    have hq := fun (w : World) => Lib.run_eql_slice_nil (P := Tryz.prog) w 22 5 (some ad) n c 0 0 Tryz.underlying22
    go_enter Tryz.func76, Tryz.ntmps76
    go_wp2_with (at_builtin; refine wp_appendB rfl _ _ rfl w.heap.size (.slice (some ⟨w.heap.size, 0, none⟩) 0 0) [] rfl (by exact World.ownsRow_made w #[] 0 (Nat.le_refl _) (by simp [maxLen]) rfl) (some ad) c n xs rfl (by exact hA.on ((Below.refl _ _).alloc (Nat.le_refl _) _)) Hn.out (by simpa using hl) (by simp) ?_; intro v1 w1 hm1 hg1 ho1)
    go_ret
    refine ⟨v1, rfl, by simpa using hm1, ((Below.refl _ _).alloc (Nat.le_refl _) _).grown hg1 (by simp) ?_⟩
    intro k hk
    simp [Value.ownBlock] at hk
    omega

end Go.Proofs.YtihmddpafbackaaGreat

namespace Go.Proofs.YtihmddpafbackaaGreat

set_option linter.unusedVariables false

/-- A number's bytes, the highest first, none ahead. -/
def dgs (n : Nat) : List UInt8 := if h : n = 0 then [] else dgs (n / 256) ++ [UInt8.ofNat (n % 256)]
termination_by n
decreasing_by omega

def valFrom (a : Nat) (l : List UInt8) : Nat := l.foldl (fun a b => a * 256 + b.toNat) a

def val (l : List UInt8) : Nat := valFrom 0 l

theorem valFrom_append (a : Nat) (l m : List UInt8) : valFrom a (l ++ m) = valFrom (valFrom a l) m := by simp [valFrom]

theorem val_snoc (l : List UInt8) (x : UInt8) : val (l ++ [x]) = val l * 256 + x.toNat := by simp [val, valFrom]

theorem valFrom_eq (a : Nat) (l : List UInt8) : valFrom a l = a * 256 ^ l.length + val l := by
  induction l generalizing a with
  | nil => simp [valFrom, val]
  | cons x l ih =>
    have h1 : valFrom a (x :: l) = valFrom (a * 256 + x.toNat) l := rfl
    have h2 : val (x :: l) = valFrom (0 * 256 + x.toNat) l := rfl
    rw [h1, h2, ih, ih (0 * 256 + x.toNat), List.length_cons, Nat.pow_succ]
    have e1 : (a * 256 + x.toNat) * 256 ^ l.length = a * (256 ^ l.length * 256) + x.toNat * 256 ^ l.length := by rw [Nat.add_mul, Nat.mul_assoc, Nat.mul_comm 256]
    have e2 : (0 * 256 + x.toNat) * 256 ^ l.length = x.toNat * 256 ^ l.length := by simp
    omega

theorem val_cons (x : UInt8) (l : List UInt8) : val (x :: l) = x.toNat * 256 ^ l.length + val l := by
  have h2 : val (x :: l) = valFrom (0 * 256 + x.toNat) l := rfl
  rw [h2, valFrom_eq]; simp

theorem val_lt (l : List UInt8) : val l < 256 ^ l.length := by
  induction l with
  | nil => simp [val, valFrom]
  | cons x l ih =>
    rw [val_cons, List.length_cons, Nat.pow_succ]
    have := x.toNat_lt
    have h : x.toNat * 256 ^ l.length ≤ 255 * 256 ^ l.length := Nat.mul_le_mul_right _ (by omega)
    omega

theorem dgs_zero : dgs 0 = [] := by unfold dgs; simp

theorem dgs_pos {n : Nat} (h : 0 < n) : dgs n = dgs (n / 256) ++ [UInt8.ofNat (n % 256)] := by
  rw [dgs, dif_neg (by omega)]

theorem val_dgs (n : Nat) : val (dgs n) = n := by
  induction n using Nat.strongRecOn with
  | _ n ih =>
    rcases Nat.eq_zero_or_pos n with h | h
    · subst h; rw [dgs_zero]; rfl
    · rw [dgs_pos h, val_snoc, ih _ (by omega)]
      have : (UInt8.ofNat (n % 256)).toNat = n % 256 := by simp [UInt8.toNat_ofNat']
      omega

theorem dgs_len {n k : Nat} (h : n < 256 ^ k) : (dgs n).length ≤ k := by
  induction k generalizing n with
  | zero => have : n = 0 := by simpa using h
            subst this; simp [dgs_zero]
  | succ k ih =>
    rcases Nat.eq_zero_or_pos n with h0 | h0
    · subst h0; simp [dgs_zero]
    · rw [dgs_pos h0]
      have := ih (n := n / 256) (by rw [Nat.pow_succ] at h; omega)
      simp; omega

theorem dgs_len7 {n : Nat} (h : n ≤ 9007199254740991) : (dgs n).length ≤ 7 := dgs_len (by omega)

theorem dgs_head {n : Nat} {x : UInt8} {t : List UInt8} (h : dgs n = x :: t) : x ≠ 0 := by
  induction n using Nat.strongRecOn generalizing x t with
  | _ n ih =>
    rcases Nat.eq_zero_or_pos n with h0 | h0
    · subst h0; rw [dgs_zero] at h; cases h
    · rw [dgs_pos h0] at h
      cases hd : dgs (n / 256) with
      | nil =>
        rw [hd] at h
        have h1 : n / 256 = 0 := by rw [← val_dgs (n / 256), hd]; rfl
        simp at h
        obtain ⟨rfl, _⟩ := h
        intro e
        have := congrArg UInt8.toNat e
        simp [UInt8.toNat_ofNat'] at this
        omega
      | cons y u =>
        rw [hd] at h
        simp at h
        obtain ⟨rfl, _⟩ := h
        exact ih _ (by omega) hd

theorem dgs_val {l : List UInt8} (h : ∀ x t, l = x :: t → x ≠ 0) : dgs (val l) = l := by
  induction hn : l.length generalizing l with
  | zero => have := List.eq_nil_of_length_eq_zero hn; subst this; exact dgs_zero
  | succ k ih =>
    obtain ⟨m, x, rfl⟩ : ∃ m x, l = m ++ [x] := ⟨l.dropLast, l.getLast (by rintro rfl; simp at hn), (List.dropLast_concat_getLast _).symm⟩
    have hx := x.toNat_lt
    rw [val_snoc]
    have hpos : 0 < val m * 256 + x.toNat := by
      cases m with
      | nil =>
        have := h x [] rfl
        have : x.toNat ≠ 0 := fun e => this (UInt8.toNat_inj.1 (by simpa using e))
        omega
      | cons y u =>
        have := h y (u ++ [x]) rfl
        have : y.toNat ≠ 0 := fun e => this (UInt8.toNat_inj.1 (by simpa using e))
        rw [val_cons]
        have : 1 ≤ 256 ^ u.length := Nat.one_le_pow _ _ (by omega)
        have : 1 * 1 ≤ y.toNat * 256 ^ u.length := Nat.mul_le_mul (by omega) this
        omega
    rw [dgs_pos hpos]
    have h1 : (val m * 256 + x.toNat) / 256 = val m := by omega
    have h2 : (val m * 256 + x.toNat) % 256 = x.toNat := by omega
    rw [h1, h2, ih (l := m) (fun y t e => h y (t ++ [x]) (by rw [e]; rfl)) (by simpa using hn)]
    simp

theorem dgs_at {n i : Nat} (h : i < (dgs n).length) : (dgs n)[(dgs n).length - 1 - i]'(by omega) = UInt8.ofNat (n / 256 ^ i % 256) := by
  induction i generalizing n with
  | zero =>
    rcases Nat.eq_zero_or_pos n with h0 | h0
    · subst h0; simp [dgs_zero] at h
    · simp [dgs_pos h0]
  | succ i ih =>
    rcases Nat.eq_zero_or_pos n with h0 | h0
    · subst h0; simp [dgs_zero] at h
    · have hl : i < (dgs (n / 256)).length := by rw [dgs_pos h0] at h; simp at h; omega
      have := ih hl
      have e1 : (dgs n).length - 1 - (i + 1) = (dgs (n / 256)).length - 1 - i := by rw [dgs_pos h0]; simp; omega
      have e2 : n / 256 ^ (i + 1) = n / 256 / 256 ^ i := by rw [Nat.pow_succ, Nat.mul_comm, Nat.div_div_eq_div_mul]
      rw [e2, ← this]
      simp only [e1]
      have e3 : (dgs n)[(dgs (n / 256)).length - 1 - i]? = (dgs (n / 256))[(dgs (n / 256)).length - 1 - i]? := by
        rw [dgs_pos h0, List.getElem?_append_left (by omega)]
      rw [List.getElem?_eq_getElem (by omega), List.getElem?_eq_getElem (by omega)] at e3
      exact Option.some.inj e3

/-- The bytes of a number: how many follow, and these. -/
def numB (n : Nat) : List UInt8 := UInt8.ofNat (dgs n).length :: dgs n

/-- What stands at the beginning of bytes, as a number: it, how many bytes it takes up, the error. -/
def nu (l : List UInt8) : Nat × Nat × Nat :=
  match l with
  | [] => (0, 0, 3)
  | b :: t =>
    if 7 < b.toNat then (0, 0, 4)
    else if t.length < b.toNat then (0, 0, 3)
    else if 0 < b.toNat ∧ t.head? = some 0 then (0, 0, 4)
    else if 9007199254740991 < val (t.take b.toNat) then (0, 0, 9)
    else (val (t.take b.toNat), 1 + b.toNat, 0)

theorem dgs_bits (n : Nat) (h : n < 18446744073709551616) : (Lib.bitLen n + 7) / 8 = (dgs n).length := by
  induction n using Nat.strongRecOn with
  | _ n ih =>
    rcases Nat.eq_zero_or_pos n with h0 | h0
    · subst h0; rw [dgs_zero]; decide
    · rw [dgs_pos h0, List.length_append, ← ih (n / 256) (by omega) (by omega)]
      by_cases hb : 256 ≤ n
      · rw [Lib.bitLen_shift8 n hb h]; simp; omega
      · have h1 : n / 256 = 0 := by omega
        have h2 := Lib.bitLen_half n (by omega) (by omega)
        have h3 := Lib.bitLen_le n 8 (by omega) (by omega)
        have h4 : Lib.bitLen 0 = 0 := by decide
        rw [h1, h4]
        simp
        omega

/-- A number's bytes while they are written from behind: 'i' of them stand. -/
def part (n i : Nat) : List UInt8 := UInt8.ofNat (dgs n).length :: (List.replicate ((dgs n).length - i) 0 ++ (dgs n).drop ((dgs n).length - i))

theorem part_len (n i : Nat) (h : i ≤ (dgs n).length) : (part n i).length = 1 + (dgs n).length := by simp [part]; omega

theorem part_end (n : Nat) : part n (dgs n).length = numB n := by simp [part, numB]

theorem part_aux (D : List UInt8) (x : UInt8) (k : Nat) (hk : k < D.length) : (x :: (List.replicate (k + 1) 0 ++ D.drop (k + 1))).set (k + 1) D[k] = x :: (List.replicate k 0 ++ D.drop k) := by
  rw [List.set_cons_succ, List.replicate_succ', List.append_assoc, List.set_append_right _ _ (by simp)]
  simp

theorem part_step (n i : Nat) (h : i < (dgs n).length) : (part n i).set ((dgs n).length - i) (UInt8.ofNat (n / 256 ^ i % 256)) = part n (i + 1) := by
  rw [← dgs_at h]
  unfold part
  have e1 : (dgs n).length - (i + 1) = (dgs n).length - 1 - i := by omega
  have e2 : (dgs n).length - i = (dgs n).length - 1 - i + 1 := by omega
  rw [e1, e2]
  exact part_aux _ _ _ _

end Go.Proofs.YtihmddpafbackaaGreat

namespace Go.Proofs.YtihmddpafbackaaGreat

open Go.RowKit

set_option linter.unusedVariables false

theorem ret3 {a a' b b' c c' : Int} (h1 : a = a') (h2 : b = b') (h3 : c = c') : Ending.returned (.tuple #[.int .i64 a, .int .i64 b, .int .i64 c]) = .returned (.tuple #[.int .i64 a', .int .i64 b', .int .i64 c']) := by rw [h1, h2, h3]

theorem or8 (s y : Nat) (hs : s < 281474976710656) (hy : y < 256) : bits .or .i64 ((s : Int) * 256) (y : Int) = ((s * 256 + y : Nat) : Int) := by
  have h := bits_join .i64 62 (by decide) (fun n h0 h1 => by rw [IntKind.wrap_i64]; omega) 8 ((s : Int) * 256) (y : Int) (by omega) (by omega) (by omega) (by omega) (by omega) (by omega)
  rw [h]; simp

/-- What 'number' answers. -/
def nuV (l : List UInt8) : Value := .tuple #[.int .i64 ((nu l).1 : Int), .int .i64 ((nu l).2.1 : Int), .int .i64 ((nu l).2.2 : Int)]

set_option maxHeartbeats 800000 in
theorem number_any (A : Option Addr) (c n : Nat) (xs : List UInt8) (w : World) (hA : Bs w A xs) (hn : xs.length = n) (hl : n ≤ maxLen) :
    Calls Tryz.prog 101 #[.slice A n c] w fun e w' => e = .returned (nuV xs) ∧ w = w' := by
  unfold maxLen at hl
  cases xs with
  | nil =>
    subst hn
    go_enter Tryz.func101, Tryz.ntmps101
    go_wp2
    go_ret3
    exact ⟨rfl, rfl⟩
  | cons b t =>
    obtain ⟨bb, off, rfl, hb, hc⟩ := hA.at_ (i := 0) (by simp)
    have g0 : w.cell? ⟨bb, off, none⟩ = some (.int .u8 (b.toNat : Int)) := by have := hc 0 (by simp); exact this
    have hl1 : n ≤ t.length + 1 := by simp at hn; omega
    have hl2 : t.length + 1 ≤ n := by simp at hn; omega
    clear hn
    have hp : (0 : Int) < n := by omega
    have hne : ((n : Int) == 0) = false := by simp; omega
    have hb8 := b.toNat_lt
    by_cases h7 : 7 < b.toNat
    · have hv : Hid (nu (b :: t) = (0, 0, 4)) := by show _ = _; simp [nu, h7]
      have h7' : (7 : Int) < b.toNat := by omega
      clear h7 hc
      go_enter Tryz.func101, Tryz.ntmps101
      go_wp2
      go_ret3
      exact ⟨by unfold nuV; rw [hv.out]; rfl, rfl⟩
    · have h7' : ¬ (7 : Int) < b.toNat := by omega
      by_cases hs : t.length < b.toNat
      · have hv : Hid (nu (b :: t) = (0, 0, 3)) := by show _ = _; simp [nu, h7, hs]
        have hs' : (n : Int) - 1 < b.toNat := by omega
        clear hc
        go_enter Tryz.func101, Tryz.ntmps101
        go_wp2
        go_ret3
        exact ⟨by unfold nuV; rw [hv.out]; rfl, rfl⟩
      · have hs' : ¬ (n : Int) - 1 < b.toNat := by omega
        by_cases hz : 0 < b.toNat
        · obtain ⟨x, u, rfl⟩ : ∃ x u, t = x :: u := by
            cases t with
            | nil => simp at hs; omega
            | cons x u => exact ⟨x, u, rfl⟩
          have g1 : w.cell? ⟨bb, off + 1, none⟩ = some (.int .u8 (x.toNat : Int)) := by have := hc 1 (by simp); exact this
          have hp1 : (1 : Int) < n := by simp at hl2; omega
          have hz' : (0 : Int) < b.toNat := by omega
          by_cases hx : x = 0
          · have hv : Hid (nu (b :: x :: u) = (0, 0, 4)) := by show _ = _; simp [nu, h7, hz, hx]; simp at hs; omega
            have hx' : ((x.toNat : Int) == 0) = true := by rw [hx]; rfl
            clear hc hx h7 hs hz
            go_enter Tryz.func101, Tryz.ntmps101
            go_wp2
            go_ret3
            exact ⟨by unfold nuV; rw [hv.out]; rfl, rfl⟩
          · have hx' : ((x.toNat : Int) == 0) = false := by
              simp only [beq_eq_false_iff_ne, ne_eq]; intro e; exact hx (UInt8.toNat_inj.1 (by simpa using e))
            have hv0 : Hid (nu (b :: x :: u) = if 9007199254740991 < val ((x :: u).take b.toNat) then (0, 0, 9) else (val ((x :: u).take b.toNat), 1 + b.toNat, 0)) := by
              show _ = _; simp [nu, h7, hx]; simp at hs; omega
            have hle : b.toNat ≤ (x :: u).length := by omega
            clear hx hs
            go_enter Tryz.func101, Tryz.ntmps101
            go_wp2
            go_loop [2, 6, 33] (fun s _ i => ∃ k : Nat, k ≤ b.toNat ∧ i = .int .i64 k ∧ s = .int .i64 (val ((x :: u).take k) : Nat)) (fun _ _ i => b.toNat - (intOf i).toNat)
            case atStart => exact ⟨0, Nat.zero_le _, rfl, rfl⟩
            case round =>
              obtain ⟨k, hk, rfl, rfl⟩ := hrel
              have hvl := val_lt ((x :: u).take k)
              by_cases hlt : k < b.toNat
              · have hkl : k < (x :: u).length := by omega
                have hs6 : 256 ^ ((x :: u).take k).length ≤ 256 ^ 6 := Nat.pow_le_pow_right (by omega) (by simp; omega)
                have hsn : Hid (val ((x :: u).take (k + 1)) = val ((x :: u).take k) * 256 + (x :: u)[k].toNat) := by
                  show _ = _
                  rw [List.take_succ_eq_append_getElem hkl, val_snoc]
                have g : w.cell? ⟨bb, off + (1 + k), none⟩ = some (.int .u8 ((x :: u)[k].toNat : Int)) := by
                  have := hc (k + 1) (by simp at hkl ⊢; omega)
                  rw [show off + (1 + k) = off + (k + 1) from by omega]; exact this
                have hb2 := (x :: u)[k].toNat_lt
                generalize (x :: u)[k] = y at *
                generalize val ((x :: u).take k) = s at *
                have hs7 : s < 281474976710656 := by omega
                clear hc hvl hs6
                have ho := or8 s y.toNat (by omega) hb2
                have Ho := Lib.hid ho
                clear ho
                go_wp2
                go_round
                case rel => exact ⟨k + 1, by omega, by go_num, by rw [Ho.out, hsn.out]⟩
                case measure => simp [intOf]; omega
              · have hkb : Hid (k = b.toNat) := by show _ = _; omega
                have hv1 : Hid (nu (b :: x :: u) = if 9007199254740991 < val ((x :: u).take k) then (0, 0, 9) else (val ((x :: u).take k), 1 + b.toNat, 0)) := by
                  show _ = _; rw [hv0.out, hkb.out]
                have hle6 : val ((x :: u).take k) < 72057594037927936 := by
                  have hs6 : 256 ^ ((x :: u).take k).length ≤ 256 ^ 7 := Nat.pow_le_pow_right (by omega) (by simp; omega)
                  omega
                generalize val ((x :: u).take k) = s at *
                clear hc hvl
                by_cases hbig : 9007199254740991 < s
                · have hbig' : (9007199254740991 : Int) < s := by omega
                  go_wp2
                  go_ret3
                  exact ⟨by unfold nuV; rw [hv1.out, if_pos hbig]; rfl, rfl⟩
                · have hbig' : ¬ (9007199254740991 : Int) < s := by omega
                  go_wp2
                  go_ret3
                  exact ⟨by unfold nuV; rw [hv1.out, if_neg hbig]; rfl, rfl⟩
        · have hv : Hid (nu (b :: t) = (0, 1, 0)) := by
            show _ = _
            have hb0 : b.toNat = 0 := by omega
            simp [nu, hb0, val, valFrom]
          have hb0 : b.toNat ≤ 0 := by omega
          clear hc hs
          go_enter Tryz.func101, Tryz.ntmps101
          go_wp2
          go_loop [2, 6, 33] (fun s _ i => i = .int .i64 0 ∧ s = .int .i64 0) (fun _ _ _ => 0)
          case atStart => exact ⟨rfl, rfl⟩
          case round =>
            obtain ⟨rfl, rfl⟩ := hrel
            go_wp2
            go_ret3
            exact ⟨by unfold nuV; rw [hv.out]; exact ret3 rfl (by show _ = ((1 : Nat) : Int); omega) rfl, rfl⟩

end Go.Proofs.YtihmddpafbackaaGreat

namespace Go.Proofs.YtihmddpafbackaaGreat

open Go.RowKit

set_option linter.unusedVariables false

theorem nu_used (l : List UInt8) : (nu l).2.1 ≤ l.length := by
  unfold nu
  cases l with
  | nil => simp
  | cons b t => simp only; split; · simp
                split; · simp
                split; · simp
                split; · simp
                simp; omega

theorem run_cut (A : Option Addr) (n c u : Nat) (h : u ≤ n) (w : World) :
    (Instr.sliceAt 22 (.slice A n c) (some (.int .i64 (u : Int))) none none).run Tryz.prog w = .ok (.slice (cutAt A 1 u c) (n - u) (c - u)) w := by
  have h1 : (u : Int) ≤ n := by omega
  go_simp
  simp [cutAt]

theorem run_front (A : Option Addr) (n c u : Nat) (h : u ≤ c) (w : World) :
    (Instr.sliceAt 22 (.slice A n c) none (some (.int .i64 (u : Int))) none).run Tryz.prog w = .ok (.slice A u c) w := by
  have h1 : (u : Int) ≤ c := by omega
  go_simp

/-- What TakeNum answers: the number, what is left, the error. -/
def tk (l : List UInt8) : Nat × List UInt8 × Nat := if (nu l).2.2 = 0 then ((nu l).1, l.drop (nu l).2.1, 0) else (0, [], (nu l).2.2)

def RetTN (w : World) (r : Nat × List UInt8 × Nat) (e : Ending) (w' : World) : Prop :=
  ∃ v, e = .returned (.tuple #[.int .i64 (r.1 : Int), v, .int .i64 (r.2.2 : Int)]) ∧ NewB w r.2.1 v w'

set_option maxHeartbeats 400000 in
theorem takeNum_any (A : Option Addr) (c n : Nat) (xs : List UInt8) (w : World) (hA : Bs w A xs) (hn : xs.length = n) (hc : n ≤ c) (hl : n ≤ 140737488355328) (hcm : c ≤ maxLen) :
    Calls Tryz.prog 89 #[.slice A n c] w (RetTN w (tk xs)) := by
  have hu := nu_used xs
  rw [hn] at hu
  have hN := number_any A c n xs w hA hn (by unfold maxLen; omega)
  unfold nuV at hN
  have Hn := Lib.hid hn
  clear hn
  have Ht := Lib.hid (show tk xs = if (nu xs).2.2 = 0 then ((nu xs).1, xs.drop (nu xs).2.1, 0) else (0, [], (nu xs).2.2) from rfl)
  generalize tk xs = r at *
  generalize nu xs = q at *
  obtain ⟨x, u, e⟩ := q
  simp only at hu hN
  have HN := Lib.hid hN
  clear hN
  unfold maxLen at hcm
  by_cases he : e = 0
  · subst he
    have hr : Hid (r = (x, xs.drop u, 0)) := by show _ = _; have := Ht.out; simpa using this
    clear Ht
    have hcut := run_cut A n c u hu
    go_enter Tryz.func89, Tryz.ntmps89
    go_wp2_with fail
    refine HN.out.mono ?_
    rintro e w' ⟨rfl, rfl⟩
    go_wp2_with fail
    refine (clone_any _ _ _ (xs.drop u) _ (hA.cut (by rw [Hn.out]; exact hu) (by rw [Hn.out]; exact hc)) (by rw [List.length_drop, Hn.out]) (by omega)).mono ?_
    rintro e w1 ⟨v, rfl, hnew⟩
    go_wp2
    go_ret3
    exact ⟨v, by rw [hr.out]; rfl, by rw [hr.out]; exact hnew⟩
  · have hr : Hid (r = (0, [], e)) := by show _ = _; have := Ht.out; simpa [he] using this
    have hee : ((e : Int) != 0) = true := by simp [he]
    clear Ht
    go_enter Tryz.func89, Tryz.ntmps89
    go_wp2_with fail
    refine HN.out.mono ?_
    rintro e w' ⟨rfl, rfl⟩
    go_wp2
    go_ret3
    exact ⟨.slice none 0 0, by rw [hr.out]; rfl, by rw [hr.out]; exact ⟨World.ownsRow_nil _ _ _ _, Below.refl _ _⟩⟩

/-- What TakeFix answers: the first n, what is left, the error. -/
def tf (l : List UInt8) (n : Int) : List UInt8 × List UInt8 × Nat := if n < 0 then ([], [], 2) else if l.length < n then ([], [], 3) else (l.take n.toNat, l.drop n.toNat, 0)

def RetTF (w : World) (r : List UInt8 × List UInt8 × Nat) (e : Ending) (w' : World) : Prop :=
  ∃ v u w1, e = .returned (.tuple #[v, u, .int .i64 (r.2.2 : Int)]) ∧ NewB w r.1 v w1 ∧ NewB w1 r.2.1 u w' 

set_option maxHeartbeats 400000 in
theorem takeFix_any (A : Option Addr) (c n : Nat) (k : Int) (xs : List UInt8) (w : World) (hA : Bs w A xs) (hn : xs.length = n) (hc : n ≤ c) (hl : n ≤ 140737488355328) (hcm : c ≤ maxLen) :
    Calls Tryz.prog 102 #[.slice A n c, .int .i64 k] w (RetTF w (tf xs k)) := by
  have Ht := Lib.hid (show tf xs k = if k < 0 then ([], [], 2) else if (n : Int) < k then ([], [], 3) else (xs.take k.toNat, xs.drop k.toNat, 0) from by rw [← hn]; rfl)
  generalize tf xs k = r at *
  have Hn := Lib.hid hn
  clear hn
  unfold maxLen at hcm
  by_cases h0 : k < 0
  · have hr : Hid (r = ([], [], 2)) := by show _ = _; have := Ht.out; simpa [h0] using this
    clear Ht
    go_enter Tryz.func102, Tryz.ntmps102
    go_wp2
    go_ret3
    exact ⟨.slice none 0 0, .slice none 0 0, w, by rw [hr.out]; rfl, by rw [hr.out]; exact ⟨World.ownsRow_nil _ _ _ _, Below.refl _ _⟩, by rw [hr.out]; exact ⟨World.ownsRow_nil _ _ _ _, Below.refl _ _⟩⟩
  · by_cases h1 : (n : Int) < k
    · have hr : Hid (r = ([], [], 3)) := by show _ = _; have := Ht.out; simpa [h0, h1] using this
      clear Ht
      go_enter Tryz.func102, Tryz.ntmps102
      go_wp2
      go_ret3
      exact ⟨.slice none 0 0, .slice none 0 0, w, by rw [hr.out]; rfl, by rw [hr.out]; exact ⟨World.ownsRow_nil _ _ _ _, Below.refl _ _⟩, by rw [hr.out]; exact ⟨World.ownsRow_nil _ _ _ _, Below.refl _ _⟩⟩
    · have hr : Hid (r = (xs.take k.toNat, xs.drop k.toNat, 0)) := by show _ = _; have := Ht.out; simpa [h0, h1] using this
      obtain ⟨u, rfl⟩ := Int.eq_ofNat_of_zero_le (a := k) (by omega)
      rw [Int.toNat_natCast] at hr
      clear Ht
      have hu : u ≤ n := by omega
      have hcut := run_cut A n c u hu
      have hfr := run_front A n c u (by omega)
      go_enter Tryz.func102, Tryz.ntmps102
      go_wp2
      go_region_with (first
        | (go_at_call_of 76 (cutAt A 1 u c); refine (clone_any _ _ _ (xs.drop u) _ ?_ ?_ ?_).mono ?_; exact (Bs.after hnew.2 hA).cut (by rw [Hn.out]; exact hu) (by rw [Hn.out]; exact hc); rw [List.length_drop, Hn.out]; omega; rintro e w2 ⟨v2, rfl, hnew2⟩)
        | (go_at_call_of 76 A; refine (clone_any _ _ _ (xs.take u) _ ?_ ?_ ?_).mono ?_; exact hA.front (by rw [Hn.out]; exact hu); rw [List.length_take, Hn.out]; omega; omega; rintro e w1 ⟨v, rfl, hnew⟩))
      go_wp2
      go_ret3
      exact ⟨v, v2, w1, by rw [hr.out]; rfl, by rw [hr.out]; exact hnew.ofDrew, by rw [hr.out]; exact hnew2⟩

/-- What TakeStr answers. -/
def ts (l : List UInt8) (most : Int) : List UInt8 × List UInt8 × Nat :=
  if most < 0 then ([], [], 2) else if (nu l).2.2 ≠ 0 then ([], [], (nu l).2.2) else if most < (nu l).1 ∨ 65536 < (nu l).1 then ([], [], 5) else tf (l.drop (nu l).2.1) (nu l).1

theorem retTF_nil {w w' : World} (h : w = w') {k : Nat} {i : Int} (hi : i = k) : RetTF w ([], [], k) (.returned (.tuple #[.slice none 0 0, .slice none 0 0, .int .i64 i])) w' := by
  subst h hi; exact ⟨_, _, w, rfl, NewB.nil w, NewB.nil w⟩

set_option maxHeartbeats 400000 in
theorem takeStr_any (A : Option Addr) (c n : Nat) (k : Int) (xs : List UInt8) (w : World) (hA : Bs w A xs) (hn : xs.length = n) (hc : n ≤ c) (hl : n ≤ 140737488355328) (hcm : c ≤ maxLen) :
    Calls Tryz.prog 91 #[.slice A n c, .int .i64 k] w (RetTF w (ts xs k)) := by
  have Ht := Lib.hid (show ts xs k = if k < 0 then ([], [], 2) else if (nu xs).2.2 ≠ 0 then ([], [], (nu xs).2.2) else if k < (nu xs).1 ∨ 65536 < (nu xs).1 then ([], [], 5) else tf (xs.drop (nu xs).2.1) (nu xs).1 from rfl)
  have hu := nu_used xs
  rw [hn] at hu
  have hN := number_any A c n xs w hA hn (by unfold maxLen; omega)
  unfold nuV at hN
  have Hn := Lib.hid hn
  clear hn
  generalize ts xs k = r at *
  generalize nu xs = q at *
  obtain ⟨x, u, e⟩ := q
  simp only at hu hN Ht
  have HN := Lib.hid hN
  clear hN
  have hcm' : c ≤ maxLen := hcm
  unfold maxLen at hcm
  by_cases h0 : k < 0
  · have hr : Hid (r = ([], [], 2)) := by show _ = _; have := Ht.out; simpa [h0] using this
    clear Ht
    go_enter Tryz.func91, Tryz.ntmps91
    go_wp2
    go_ret3
    rw [hr.out]
    exact retTF_nil rfl rfl
  · by_cases he : e = 0
    · subst he
      by_cases hk : k < (x : Int)
      · have hr : Hid (r = ([], [], 5)) := by show _ = _; have := Ht.out; simpa [h0, hk] using this
        clear Ht
        go_enter Tryz.func91, Tryz.ntmps91
        go_wp2_with fail
        refine HN.out.mono ?_
        rintro e w' ⟨rfl, rfl⟩
        go_wp2
        go_ret3
        rw [hr.out]
        exact retTF_nil rfl rfl
      · by_cases hx : 65536 < x
        · have hr : Hid (r = ([], [], 5)) := by show _ = _; have := Ht.out; simpa [h0, hk, hx] using this
          have hx' : (65536 : Int) < x := by omega
          clear Ht
          go_enter Tryz.func91, Tryz.ntmps91
          go_wp2_with fail
          refine HN.out.mono ?_
          rintro e w' ⟨rfl, rfl⟩
          go_wp2
          go_ret3
          rw [hr.out]
          exact retTF_nil rfl rfl
        · have hr : Hid (r = tf (xs.drop u) x) := by show _ = _; have := Ht.out; simpa [h0, hk, hx] using this
          have hx' : ¬ (65536 : Int) < x := by omega
          have hcut := run_cut A n c u hu
          clear Ht
          go_enter Tryz.func91, Tryz.ntmps91
          go_wp2_with fail
          refine HN.out.mono ?_
          rintro e w' ⟨rfl, rfl⟩
          go_wp2_with fail
          refine (takeFix_any _ _ _ _ (xs.drop u) _ (hA.cut (by rw [Hn.out]; exact hu) (by rw [Hn.out]; exact hc)) (by rw [List.length_drop, Hn.out]) (by omega) (by omega) (by unfold maxLen; omega)).mono ?_
          rintro e w2 ⟨v, v2, w1, rfl, hnew, hnew2⟩
          go_wp2
          go_ret3
          rw [hr.out]
          exact ⟨v, v2, w1, rfl, hnew, hnew2⟩
    · have hr : Hid (r = ([], [], e)) := by show _ = _; have := Ht.out; simpa [h0, he] using this
      have hee : ((e : Int) != 0) = true := by simp [he]
      clear Ht
      go_enter Tryz.func91, Tryz.ntmps91
      go_wp2_with fail
      refine HN.out.mono ?_
      rintro e w' ⟨rfl, rfl⟩
      go_wp2
      go_ret3
      rw [hr.out]
      exact retTF_nil rfl rfl

end Go.Proofs.YtihmddpafbackaaGreat
