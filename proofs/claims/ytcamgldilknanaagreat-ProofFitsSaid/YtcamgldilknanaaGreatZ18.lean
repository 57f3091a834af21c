/-
  Laid together for a hand-in: Rb9, RUp9, RPush9, RLv9.
-/
import Derived.Test.YtcamgldilknanaaGreatZ17
import Derived.Test.YtcamgldilknanaaGreatZ09
import Derived.Test.YtcamgldilknanaaGreatZ14
import Derived.Test.YtcamgldilknanaaGreatZ12
import Derived.Test.YtcamgldilknanaaGreatZ13

namespace Go.Proofs.YtcamgldilknanaaGreat

open Go.RowKit Go.Maps

set_option linter.unusedVariables false

abbrev Lk := List (List UInt8) × Nat

def stepR (s : Lk) (x : List UInt8) : Lk := rofL s.1 s.2 x

/-- The document's book is s; its blocks lie at B or beyond, are cells, and are none of N. -/
def Rb (B : Nat) (w : World) (g : Nat) (s : Lk) (N : Nat → Prop) : Prop :=
  ∃ (S' : Nat → Prop) (v : Value), RefBk w S' g v s.1 s.2 ∧ (∀ i, S' i → B ≤ i ∧ IsC w i) ∧ ∀ i, N i → i < w.heap.size ∧ ¬ S' i

/-- What may turn while it goes on. -/
def Tr (B : Nat) (w : World) (N : Nat → Prop) (i : Nat) : Prop := B ≤ i ∧ ¬ N i ∧ IsC w i

theorem RefBk.cells {w : World} {S : Nat → Prop} {g k : Nat} {v : Value} {L : List (List UInt8)} (h : RefBk w S g v L k) : RefBk w (fun i => S i ∧ IsC w i) g v L k := by
  obtain ⟨h1, h2, h3, cs, k1, k2, k3, k4⟩ := h
  exact ⟨h1, ⟨h2, h1.isC⟩, fun i hi => h3 i hi.1, cs, k1, fun b hb => ⟨k2 b hb, row_isC k1 hb⟩, k3, fun j x hx => by
    obtain ⟨hd, e2, q1, q2⟩ := k4 j x hx
    exact ⟨hd, e2, q1, fun b hb => ⟨q2 b hb, row_isC q1 hb⟩⟩⟩

section

variable {B g : Nat} {w w' w1 w2 : World} {s s' : Lk} {N N' N1 : Nat → Prop}

theorem Rb.other (h : Rb B w g s N) (hz : w.heap.size ≤ w'.heap.size) (hk : ∀ i, i < w.heap.size → ¬ N i → w'.heap[i]? = w.heap[i]?) (hN : ∀ i, N' i → N i ∨ (w.heap.size ≤ i ∧ i < w'.heap.size)) : Rb B w' g s N' := by
  obtain ⟨S', v, h1, h2, h3⟩ := h
  have e : ∀ i, S' i → w'.heap[i]? = w.heap[i]? := fun i hi => hk i (h1.lt i hi) fun e => (h3 i e).2 hi
  refine ⟨S', v, h1.stay hz e, fun i hi => ⟨(h2 i hi).1, ?_⟩, fun i hi => ?_⟩
  · obtain ⟨cs, t, fr, hc⟩ := (h2 i hi).2
    exact ⟨cs, t, fr, (e i hi).trans hc⟩
  · rcases hN i hi with h | h
    · exact ⟨Nat.lt_of_lt_of_le (h3 i h).1 hz, (h3 i h).2⟩
    · exact ⟨h.2, fun e2 => by have := h1.lt i e2; omega⟩

theorem Rb.below (h : Rb B w g s N) (hb : Below w.heap.size w w') : Rb B w' g s N := h.other hb.size (fun i hi _ => hb.block i hi) fun i hi => .inl hi

theorem Rb.belowN (h : Rb B w g s N) (hb : Below w.heap.size w w') (hN : ∀ i, N' i → N i ∨ (w.heap.size ≤ i ∧ i < w'.heap.size)) : Rb B w' g s N' := h.other hb.size (fun i hi _ => hb.block i hi) hN

theorem Rb.less (h : Rb B w g s N) (hN : ∀ i, N' i → N i) : Rb B w g s N' := h.other (Nat.le_refl _) (fun _ _ _ => rfl) fun i hi => .inl (hN i hi)

theorem Rb.lt (h : Rb B w g s N) {i : Nat} (hi : N i) : i < w.heap.size := by obtain ⟨_, _, _, _, h⟩ := h; exact (h i hi).1

theorem Rb.store (h : Rb B w g s N) {x : Nat} (hx : N x) (o : Nat) (vs : List Value) : Rb B (w.setCells x o vs) g s N :=
  h.other (by rw [size_cells]; exact Nat.le_refl _) (fun i hi hn => block_setCells (fun e => hn (by rw [e]; exact hx)) vs) fun i hi => .inl hi

theorem Rb.grown {r : Option Nat} (h : Rb B w g s N) (hg : w.grownBy w' r) (hr : ∀ i, r = some i → N i) (hN : ∀ i, N' i → N i ∨ (w.heap.size ≤ i ∧ i < w'.heap.size)) : Rb B w' g s N' :=
  h.other hg.size (fun i hi hn => hg.block i hi fun e => hn (hr i e.symm)) hN

theorem Tr.keep {i : Nat} (hi : N i) : ¬ Tr B w N i := fun h => h.2.1 hi

theorem Out.tr (h : Out (Tr B w N) w w1) (k : Out (Tr B w1 N1) w1 w2) (hN : ∀ i, i < w.heap.size → N i → N1 i) : Out (Tr B w N) w w2 :=
  h.trans k fun i hi hs => by
    by_cases ht : Tr B w N i
    · exact ht
    · refine ⟨hs.1, fun e => hs.2.1 (hN i hi e), ?_⟩
      obtain ⟨cs, t, fr, hc⟩ := hs.2.2
      exact ⟨cs, t, fr, (h.block i hi ht).symm.trans hc⟩

end

theorem rb_new {w w1 : World} {g : Nat} (h : RefBk w1 (fun i => i = g) g nilS [] 0) (hg : g = w.heap.size) : Rb w.heap.size w1 g ([], 0) (fun _ => False) :=
  ⟨_, _, h.cells, fun i hi => ⟨by omega, hi.2⟩, fun i hi => hi.elim⟩

theorem rb_of {B g : Nat} {w : World} {s : Lk} {N : Nat → Prop} (h : Rb B w g s N) (hL : s.1.length < 1000000) (hk : s.2 < 1000000) (A : Option Addr) (n cp : Nat) (x : List UInt8) (hB : Bs w A x) (ho : ∀ p, A = some p → x ≠ [] → p.block < B ∨ N p.block) (hn : x.length = n) (hc : n ≤ cp) (hcm : cp ≤ maxLen) :
    Calls Tryz.prog 58 #[.pointer (some ⟨g, 0, none⟩), .slice A n cp] w fun e w' => e = .returned (.tuple #[.agg (cbs (ofD x)).toArray, .int .i64 (ofE x)]) ∧ Rb B w' g (stepR s x) N ∧ Out (Tr B w N) w w' := by
  obtain ⟨S, v, h1, h2, h3⟩ := h
  refine (rof_any S g v s.1 s.2 A n cp x w h1 hL hk hB (fun hl a ha hs => ?_) hn hc hcm).mono ?_
  · rcases ho a ha hl with h | h
    · have := (h2 _ hs).1; omega
    · exact (h3 _ h).2 hs
  · rintro e w' ⟨rfl, v', hR, hO⟩
    refine ⟨rfl, ⟨_, v', hR.cells, fun i hi => ⟨?_, hi.2⟩, fun i hi => ⟨Nat.lt_of_lt_of_le (h3 i hi).1 hO.size, fun e => ?_⟩⟩, hO.wide fun i hi hs => ⟨(h2 i hs).1, fun e => (h3 i e).2 hs, (h2 i hs).2⟩⟩
    · rcases hi.1 with hi | hi
      · exact (h2 i hi).1
      · have := h1.lt g h1.own
        have := (h2 g h1.own).1
        omega
    · rcases e.1 with e | e
      · exact (h3 i hi).2 e
      · have := (h3 i hi).1; omega

set_option maxRecDepth 100000 in
set_option maxHeartbeats 800000 in
theorem rleaf_any (B g : Nat) (s : Lk) (N : Nat → Prop) (A : Option Addr) (n cp : Nat) (x : List UInt8) (w : World) (h : Rb B w g s N) (hB0 : B ≤ w.heap.size) (hL : s.1.length < 1000000) (hk : s.2 < 1000000)
    (hB : Bs w A x) (hn : x.length = n) (hc : n ≤ cp) (hcm : cp ≤ maxLen) (hs : n ≤ 65535) :
    Calls Tryz.prog 45 #[.pointer (some ⟨g, 0, none⟩), .slice A n cp] w fun e w' =>
      e = .returned (.tuple #[.agg (cbs (digest (leafIn x))).toArray, .int .i64 0]) ∧ Rb B w' g (stepR s (leafIn x)) N ∧ Out (Tr B w N) w w' := by
  obtain ⟨D, hD32, hDv, hD1⟩ : ∃ D : List Value, D.length = 32 ∧ cbs (digest (leafIn x)) = D ∧ D.toArray.all (·.oneCell') = true := ⟨cbs (digest (leafIn x)), by rw [cbs_length, dlen], rfl, cbs_one' _⟩
  have hof : ofD (leafIn x) = digest (leafIn x) := if_pos (by rw [leafIn_len]; omega)
  have hoe : ofE (leafIn x) = 0 := if_pos (by rw [leafIn_len]; omega)
  have hb1 : Below w.heap.size w (w.alloc (.cells (cbs (List.replicate 32 0)).toArray 42)) := (Below.refl _ _).alloc (Nat.le_refl _) _
  have hZ1 : Blk (w.alloc (.cells (cbs (List.replicate 32 0)).toArray 42)) w.heap.size 42 (cbs (List.replicate 32 0)) := Blk.new rfl rfl
  have hM1 : Mine ((w.alloc (.cells (cbs (List.replicate 32 0)).toArray 42)).alloc (.cells #[.int .u8 0] 5)) (w.heap.size + 1) 5 (.slice (some ⟨w.heap.size + 1, 0, none⟩) 1 1) [0] := Mine.one (x := 0) (by simp) (Nat.le_refl _) rfl
  have hb2 := hb1.alloc (by simp) (.cells #[.int .u8 0] 5)
  have hB2 : Bs ((w.alloc (.cells (cbs (List.replicate 32 0)).toArray 42)).alloc (.cells #[.int .u8 0] 5)) A x := hB.after hb2
  have hZ2 : Blk ((w.alloc (.cells (cbs (List.replicate 32 0)).toArray 42)).alloc (.cells #[.int .u8 0] 5)) w.heap.size 42 (cbs (List.replicate 32 0)) := hZ1.below ((Below.refl _ _).alloc (Nat.le_refl _) _) (by simp)
  have H1 := Lib.hid (And.intro hM1 (And.intro hb2 (And.intro hB2 hZ2)))
  have Ho := Lib.hid (And.intro hD32 (And.intro hDv (And.intro hD1 (And.intro hof hoe))))
  have Hh := Lib.hid (And.intro h (And.intro hL (And.intro hk (And.intro hn (And.intro hs hB0)))))
  have hn6 : ¬ (65536 : Int) ≤ (n : Int) := by omega
  clear hb1 hZ1 hM1 hb2 hB2 hZ2 hD32 hDv hD1 hof hoe h hL hk hB hn hc hcm
  rw [Ho.out.2.1]
  go_enter Tryz.func45, Tryz.ntmps45
  go_wp2_with (at_builtin; refine wp_appendB rfl _ _ rfl (w.heap.size + 1) _ _ rfl H1.out.1 A cp n x rfl H1.out.2.2.1 Hh.out.2.2.2.1 (by simp; omega) (by simp) ?_; intro v2 w2 hm2 hg2 ho2)
  have hbA : Below w.heap.size w w2 := H1.out.2.1.grown hg2 H1.out.2.1.size fun j hj => by have := (World.ownsRow.lt H1.out.1 j hj).1; omega
  have hZ2 : Blk w2 w.heap.size 42 (cbs (List.replicate 32 0)) := (hg2.block _ H1.out.2.2.2.lt fun e => by have := (World.ownsRow.lt H1.out.1 _ e.symm).1; omega).trans H1.out.2.2.2
  have hl2 : ([0] ++ x : List UInt8) = leafIn x := rfl
  rw [hl2] at hm2
  have hown := fun b hb => (World.ownsRow.lt hm2 b hb).1
  obtain ⟨Av, cv, rfl, hcv, hcvm, hBv⟩ := Mine.form hm2
  have hR2 : Rb B w2 g s (fun i => N i ∨ (w.heap.size ≤ i ∧ i < w2.heap.size)) := Hh.out.1.belowN hbA fun i hi => hi
  have hof := rb_of hR2 Hh.out.2.1 Hh.out.2.2.1 Av _ cv (leafIn x) hBv (fun p hp _ => .inr (.inr (by
    subst hp
    have h1 := hown p.block (by simp [Value.ownBlock])
    obtain ⟨b, off, e, hlt, _⟩ := hBv.2 (by rw [leafIn_len]; omega)
    cases e
    exact ⟨by omega, hlt⟩))) rfl hcv hcvm
  rw [Ho.out.2.2.2.1, Ho.out.2.2.2.2, Ho.out.2.1] at hof
  have Hof := Lib.hid hof
  have H2 := Lib.hid (And.intro hbA hZ2)
  have hlt2 := hZ2.lt
  clear hof hm2 hg2 ho2 hbA hZ2 hcv hcvm hBv hown hR2 hl2
  go_wp2_with fail
  refine Hof.out.mono ?_
  rintro e w3 ⟨rfl, hR3, hO3⟩
  have hZ3 := hO3.blk H2.out.2 (Tr.keep (.inr ⟨Nat.le_refl _, hlt2⟩))
  have hsD : D.toArray.size = 32 := by rw [List.size_toArray]; exact Ho.out.1
  have hth : w3.there w.heap.size 0 D.toArray.size := by
    have e := hZ3.there
    rw [cbs_length, List.length_replicate] at e
    rw [hsD]; exact e
  have hi : (Tryz.prog.info? 42).map (·.size) = some D.toArray.size := by rw [hsD]; exact info32b
  have hR := hZ3.setAll (vs := D) (by rw [Ho.out.1, cbs_length, List.length_replicate])
  have hRf : Rb B (w3.setCells w.heap.size 0 D) g (stepR s (leafIn x)) N := (hR3.store (.inr ⟨Nat.le_refl _, hlt2⟩) 0 D).less fun i hi => .inl hi
  have hOf : Out (Tr B w N) w (w3.setCells w.heap.size 0 D) := Out.store (((Out.ofBelow (Tr B w N) H2.out.1)).tr hO3 fun i hi h => .inl h) (Nat.le_refl _) 0 D
  have Hth := Lib.hid hth
  have Hi := Lib.hid hi
  have H3 := Lib.hid (And.intro hR (And.intro hRf hOf))
  clear hZ3 hsD hth hi hR hRf hOf hR3 hO3 hlt2
  go_wp2_with (refine wpList_store_mid rfl 42 _ _ rfl w.heap.size 0 D.toArray rfl rfl Hth.out Hi.out Ho.out.2.2.1 ?_)
  refine bodyPost_ret (results_row_tmp rfl _ _ w.heap.size 42 D.toArray (0, 0) _ rfl H3.out.1 Tryz.underlying42 rfl Hi.out) rfl ?_
  exact ⟨rfl, H3.out.2⟩

theorem rleaf_long (v : Value) (A : Option Addr) (n c : Nat) (w : World) (h : 65535 < n) :
    Calls Tryz.prog 45 #[v, .slice A n c] w fun e w' => e = .returned (.tuple #[.agg (cbs (List.replicate 32 0)).toArray, .int .i64 5]) ∧ Below w.heap.size w w' := by
  have b0 : Below w.heap.size w (w.alloc (.cells (cbs (List.replicate 32 0)).toArray 42)) := (Below.refl _ _).alloc (Nat.le_refl _) _
  have hZ : Blk (w.alloc (.cells (cbs (List.replicate 32 0)).toArray 42)) w.heap.size 42 (cbs (List.replicate 32 0)) := Blk.new rfl rfl
  have hth : (w.alloc (.cells (cbs (List.replicate 32 0)).toArray 42)).there w.heap.size 0 (cbs (List.replicate 32 0)).toArray.size := hZ.there
  have hR := hZ.setAll (vs := cbs (List.replicate 32 0)) rfl
  have hb1 : Below w.heap.size w ((w.alloc (.cells (cbs (List.replicate 32 0)).toArray 42)).setCells w.heap.size 0 (cbs (List.replicate 32 0))) := Below.setCells (Nat.le_refl _) _ b0
  have Hb := Lib.hid (And.intro hth (And.intro hR hb1))
  have h6 : (65536 : Int) ≤ (n : Int) := by omega
  clear b0 hZ hth hR hb1
  go_enter Tryz.func45, Tryz.ntmps45
  go_wp2_with (refine wpList_store_mid rfl 42 _ _ rfl w.heap.size 0 (cbs (List.replicate 32 0)).toArray rfl rfl Hb.out.1 info32b (cbs_one' _) ?_)
  refine bodyPost_ret (results_row_tmp rfl _ _ w.heap.size 42 (cbs (List.replicate 32 0)).toArray (0, 0) _ rfl Hb.out.2.1 Tryz.underlying42 rfl info32b) rfl ?_
  exact ⟨rfl, Hb.out.2.2⟩

end Go.Proofs.YtcamgldilknanaaGreat

namespace Go.Proofs.YtcamgldilknanaaGreat

open Go.RowKit Go.Maps

set_option linter.unusedVariables false

set_option maxRecDepth 100000 in
set_option maxHeartbeats 1600000 in
theorem rup_any (B g : Nat) (s : Lk) (N : Nat → Prop) (A : Option Addr) (m cp : Nat) (ds : List Dg) (w : World) (h : Rb B w g s N) (hB0 : B ≤ w.heap.size) (hL : s.1.length < 1000000) (hk : s.2 < 1000000)
    (hD : Ds w A ds) (h32 : All32 ds) (hm : ds.length = m) (h1 : 1 ≤ m) (h4 : m ≤ 4) :
    Calls Tryz.prog 46 #[.pointer (some ⟨g, 0, none⟩), .slice A m cp] w fun e w' =>
      e = .returned (.tuple #[.agg (cbs (digest (upIn ds))).toArray, .int .i64 0]) ∧ Rb B w' g (stepR s (upIn ds)) N ∧ Out (Tr B w N) w w' := by
  obtain ⟨D, hD32, hDv, hD1⟩ : ∃ D : List Value, D.length = 32 ∧ cbs (digest (upIn ds)) = D ∧ D.toArray.all (·.oneCell') = true := ⟨cbs (digest (upIn ds)), by rw [cbs_length, dlen], rfl, cbs_one' _⟩
  have hul : (upIn ds).length ≤ 65536 := by rw [upIn_len h32]; omega
  have hul1 : 1 ≤ (upIn ds).length := by rw [upIn_len h32]; omega
  have hof : ofD (upIn ds) = digest (upIn ds) := if_pos hul
  have hoe : ofE (upIn ds) = 0 := if_pos hul
  have hb1 : Below w.heap.size w (w.alloc (.cells (cbs (List.replicate 32 0)).toArray 42)) := (Below.refl _ _).alloc (Nat.le_refl _) _
  have hZ1 : Blk (w.alloc (.cells (cbs (List.replicate 32 0)).toArray 42)) w.heap.size 42 (cbs (List.replicate 32 0)) := Blk.new rfl rfl
  have hM1 : Mine ((w.alloc (.cells (cbs (List.replicate 32 0)).toArray 42)).alloc (.cells #[.int .u8 1] 5)) (w.heap.size + 1) 5 (.slice (some ⟨w.heap.size + 1, 0, none⟩) 1 1) (1 :: (ds.take 0).flatten) := Mine.one (x := 1) (by simp) (Nat.le_refl _) rfl
  have hb2 := hb1.alloc (by simp) (.cells #[.int .u8 1] 5)
  have hZ2 : Blk ((w.alloc (.cells (cbs (List.replicate 32 0)).toArray 42)).alloc (.cells #[.int .u8 1] 5)) w.heap.size 42 (cbs (List.replicate 32 0)) := hZ1.below ((Below.refl _ _).alloc (Nat.le_refl _) _) (by simp)
  have H1 := Lib.hid (And.intro hM1 (And.intro hb2 hZ2))
  have Ho := Lib.hid (And.intro hD32 (And.intro hDv (And.intro hD1 (And.intro hof (And.intro hoe hul1)))))
  have Hh := Lib.hid (And.intro h (And.intro hL (And.intro hk (And.intro hm (And.intro hD h32)))))
  have hm1 : ¬ ((m : Int) < 1) := by omega
  have hm4 : ¬ ((4 : Int) < m) := by omega
  clear hb1 hZ1 hM1 hb2 hZ2 hD32 hDv hD1 hof hoe h hL hk hm hD h32 hul hul1
  rw [Ho.out.2.1]
  go_enter Tryz.func46, Tryz.ntmps46
  go_wp2
  go_loopw [6, 7, 8] (fun v i _ wr => ∃ k : Nat, k ≤ m ∧ i = .int .i64 (k : Int) ∧ Mine wr (w.heap.size + 1) 5 v (1 :: (ds.take k).flatten) ∧ Below w.heap.size w wr ∧ Blk wr w.heap.size 42 (cbs (List.replicate 32 0))) (fun _ i _ _ => m - (intOf i).toNat)
  case atStart => exact ⟨0, Nat.zero_le _, rfl, H1.out.1, H1.out.2.1, H1.out.2.2⟩
  case round =>
    obtain ⟨k, hk, rfl, hM, hB, hZ⟩ := hrel
    by_cases hlt : k < m
    · have hkl : k < ds.length := by rw [Hh.out.2.2.2.1]; exact hlt
      have hx32 : (ds[k]'hkl).length = 32 := Hh.out.2.2.2.2.2 _ (List.getElem_mem _)
      have hst : (1 :: (ds.take (k + 1)).flatten : List UInt8) = (1 :: (ds.take k).flatten) ++ (ds[k]'hkl) := by rw [flat_step9 ds k hkl]; rfl
      have hlen : (1 :: (ds.take k).flatten).length + 32 ≤ 140737488355328 := by
        have := flat_len (l := ds.take k) (fun x hx => Hh.out.2.2.2.2.2 x (List.mem_of_mem_take hx))
        rw [List.length_cons, this, List.length_take]; omega
      have hat : ∀ wx, Below w.heap.size w wx → ∃ b off, A = some ⟨b, off, none⟩ ∧ wx.rangeAt b (off + k * 32) (cbs (ds[k]'hkl)) := fun wx hb => by
        obtain ⟨b, off, e, _, hr⟩ := (Hh.out.2.2.2.2.1.after hb).at_ Hh.out.2.2.2.2.2 (i := k) hkl
        exact ⟨b, off, e, hr⟩
      obtain ⟨b, off, rfl, _⟩ := hat wr hB
      have hat' : ∀ wx, Below w.heap.size w wx → wx.rangeAt b (off + k * 32) (cbs (ds[k]'hkl)) := fun wx hb => by
        obtain ⟨b', off', e, hr⟩ := hat wx hb
        cases e
        exact hr
      clear hat
      generalize (ds[k]'hkl) = x at *
      obtain ⟨P, hP⟩ : ∃ P, 1 :: (ds.take k).flatten = P := ⟨_, rfl⟩
      rw [hP] at hM hlen hst
      have H0 := Lib.hid (And.intro hM (And.intro hB hZ))
      have Hx := Lib.hid (And.intro hx32 (And.intro hst (And.intro hlen hat')))
      have ik0 : (0 : Int) ≤ (k : Int) := by omega
      have ik1 : (k : Int) < (m : Int) := by omega
      clear hM hB hZ hx32 hst hlen hat' hP hkl
      go_wp2
      go_loopw [6, 8] (fun v i wr => ∃ j : Nat, j ≤ 32 ∧ i = .int .i64 (j : Int) ∧ Mine wr (w.heap.size + 1) 5 v (P ++ x.take j) ∧ Below w.heap.size w wr ∧ Blk wr w.heap.size 42 (cbs (List.replicate 32 0))) (fun _ i _ => 32 - (intOf i).toNat)
      case atStart => exact ⟨0, Nat.zero_le _, rfl, by rw [List.take_zero, List.append_nil]; exact H0.out.1, H0.out.2.1, H0.out.2.2⟩
      case round =>
        obtain ⟨j, hj, rfl, hM, hB, hZ⟩ := hrel
        by_cases hj32 : j < 32
        · have hjl : j < x.length := by rw [Hx.out.1]; exact hj32
          have hc : wr.cell? ⟨b, off + k * 32 + j, none⟩ = some (cb (x[j]'hjl)) := Hx.out.2.2.2 wr hB j _ (by rw [cbs_get, List.getElem?_eq_getElem hjl]; rfl)
          have hst2 : x.take (j + 1) = x.take j ++ [x[j]'hjl] := List.take_succ_eq_append_getElem hjl
          have hlen2 : (P ++ x.take j).length + 1 ≤ 140737488355328 := by rw [List.length_append, List.length_take]; have := Hx.out.2.2.1; omega
          generalize (x[j]'hjl) = y at *
          obtain ⟨u, hu⟩ : ∃ u, cb y = u := ⟨_, rfl⟩
          have hu1 : ∃ m : Int, u = .int .u8 m := ⟨_, hu.symm⟩
          obtain ⟨mm, rfl⟩ := hu1
          rw [hu] at hc
          have hBy := Bs.made wr 5 #[.int .u8 mm] (0, 0) [y] (by rw [← hu]; rfl)
          have hbA : Below wr.heap.size wr (wr.alloc (.cells #[.int .u8 mm] 5)) := (Below.refl _ _).alloc (Nat.le_refl _) _
          obtain ⟨Q, hQ⟩ : ∃ Q, P ++ x.take j = Q := ⟨_, rfl⟩
          rw [hQ] at hM hlen2
          have hMA : Mine (wr.alloc (.cells #[.int .u8 mm] 5)) (w.heap.size + 1) 5 _ Q := hM.after hbA
          have hZA := hZ.below hbA hZ.lt
          have hgz : w.heap.size + 1 ≤ (wr.alloc (.cells #[.int .u8 mm] 5)).heap.size := by have := hZ.lt; have := hbA.size; omega
          have H9 := Lib.hid (And.intro hMA (And.intro hBy (And.intro hlen2 (And.intro hgz (And.intro (hB.trans (hbA.mono hB.size)) (And.intro hZA (And.intro hst2 hQ)))))))
          have j0 : (0 : Int) ≤ (j : Int) := by omega
          have j1 : (j : Int) < 32 := by omega
          clear hM hB hZ hst2 hlen2 hBy hbA hMA hZA hgz hu hQ hjl
          go_wp2_with (at_builtin; refine wp_appendB rfl _ _ rfl (w.heap.size + 1) _ _ rfl H9.out.1 (some ⟨wr.heap.size, 0, none⟩) 1 1 [y] rfl H9.out.2.1 rfl H9.out.2.2.1 H9.out.2.2.2.1 ?_; intro v2 w2 hm2 hg2 ho2)
          go_roundw
          case rel =>
            obtain ⟨hMA, hBy, hlen2, hgz, hBA, hZA, hst2, hQ⟩ := H9.out
            refine ⟨j + 1, by omega, by go_num, by rw [hst2, ← List.append_assoc, hQ]; exact hm2, hBA.grown hg2 hBA.size fun j hj => by have := (World.ownsRow.lt hMA j hj).1; omega, ?_⟩
            exact (hg2.block _ hZA.lt fun e => by have := (World.ownsRow.lt hMA _ e.symm).1; omega).trans hZA
          case measure => simp [intOf]; omega
        · obtain rfl : j = 32 := by omega
          rw [List.take_of_length_le (by rw [Hx.out.1]; exact Nat.le_refl _)] at hM
          have H9 := Lib.hid (And.intro hM (And.intro hB hZ))
          clear hM hB hZ
          go_wp2
          go_roundw
          case rel => exact ⟨k + 1, by omega, by go_num, by rw [Hx.out.2.1]; exact H9.out.1, H9.out.2.1, H9.out.2.2⟩
          case measure => simp [intOf]; omega
    · obtain rfl : k = m := by omega
      have Hst : Hid (1 :: (ds.take k).flatten = upIn ds) := by
        show _ = _; rw [List.take_of_length_le (by rw [Hh.out.2.2.2.1]; omega)]; rfl
      rw [Hst.out] at hM
      have hown := fun b hb => (World.ownsRow.lt hM b hb).1
      obtain ⟨Av, cv, rfl, hcv, hcvm, hBv⟩ := Mine.form hM
      have hR2 : Rb B wr g s (fun i => N i ∨ (w.heap.size ≤ i ∧ i < wr.heap.size)) := Hh.out.1.belowN hB fun i hi => hi
      have hof := rb_of hR2 Hh.out.2.1 Hh.out.2.2.1 Av _ cv (upIn ds) hBv (fun p hp _ => .inr (.inr (by
        subst hp
        have h1 := hown p.block (by simp [Value.ownBlock])
        obtain ⟨b, off, e, hlt, _⟩ := hBv.2 Ho.out.2.2.2.2.2
        cases e
        exact ⟨by omega, hlt⟩))) rfl hcv hcvm
      rw [Ho.out.2.2.2.1, Ho.out.2.2.2.2.1, Ho.out.2.1] at hof
      have Hof := Lib.hid hof
      have H2 := Lib.hid (And.intro hB hZ)
      have hlt2 := hZ.lt
      have ik1 : ¬ (k : Int) < (k : Int) := by omega
      clear hof hM hB hZ hcv hcvm hBv hown hR2
      go_wp2_with fail
      refine Hof.out.mono ?_
      rintro e w3 ⟨rfl, hR3, hO3⟩
      have hZ3 := hO3.blk H2.out.2 (Tr.keep (.inr ⟨Nat.le_refl _, hlt2⟩))
      have hsD : D.toArray.size = 32 := by rw [List.size_toArray]; exact Ho.out.1
      have hth : w3.there w.heap.size 0 D.toArray.size := by
        have e := hZ3.there
        rw [cbs_length, List.length_replicate] at e
        rw [hsD]; exact e
      have hi : (Tryz.prog.info? 42).map (·.size) = some D.toArray.size := by rw [hsD]; exact info32b
      have hR := hZ3.setAll (vs := D) (by rw [Ho.out.1, cbs_length, List.length_replicate])
      have hRf : Rb B (w3.setCells w.heap.size 0 D) g (stepR s (upIn ds)) N := (hR3.store (.inr ⟨Nat.le_refl _, hlt2⟩) 0 D).less fun i hi => .inl hi
      have hOf : Out (Tr B w N) w (w3.setCells w.heap.size 0 D) := Out.store (((Out.ofBelow (Tr B w N) H2.out.1)).tr hO3 fun i hi h => .inl h) (Nat.le_refl _) 0 D
      have Hth := Lib.hid hth
      have Hi := Lib.hid hi
      have H3 := Lib.hid (And.intro hR (And.intro hRf hOf))
      clear hZ3 hsD hth hi hR hRf hOf hR3 hO3 hlt2
      go_wp2_with (refine wpList_store_mid rfl 42 _ _ rfl w.heap.size 0 D.toArray rfl rfl Hth.out Hi.out Ho.out.2.2.1 ?_)
      refine bodyPost_ret (results_row_tmp rfl _ _ w.heap.size 42 D.toArray (0, 0) _ rfl H3.out.1 Tryz.underlying42 rfl Hi.out) rfl ?_
      exact ⟨rfl, H3.out.2⟩

theorem rup_off (v : Value) (A : Option Addr) (n c : Nat) (w : World) (h : n < 1 ∨ 4 < n) :
    Calls Tryz.prog 46 #[v, .slice A n c] w fun e w' => e = .returned (.tuple #[.agg (cbs (List.replicate 32 0)).toArray, .int .i64 2]) ∧ Below w.heap.size w w' := by
  have b0 : Below w.heap.size w (w.alloc (.cells (cbs (List.replicate 32 0)).toArray 42)) := (Below.refl _ _).alloc (Nat.le_refl _) _
  have hZ : Blk (w.alloc (.cells (cbs (List.replicate 32 0)).toArray 42)) w.heap.size 42 (cbs (List.replicate 32 0)) := Blk.new rfl rfl
  have hth : (w.alloc (.cells (cbs (List.replicate 32 0)).toArray 42)).there w.heap.size 0 (cbs (List.replicate 32 0)).toArray.size := hZ.there
  have hR := hZ.setAll (vs := cbs (List.replicate 32 0)) rfl
  have hb1 : Below w.heap.size w ((w.alloc (.cells (cbs (List.replicate 32 0)).toArray 42)).setCells w.heap.size 0 (cbs (List.replicate 32 0))) := Below.setCells (Nat.le_refl _) _ b0
  have Hb := Lib.hid (And.intro hth (And.intro hR hb1))
  clear b0 hZ hth hR hb1
  obtain ⟨hc, _⟩ : ((decide ((n : Int) < 1) = true) ∨ (decide ((n : Int) < 1) = false ∧ decide ((4 : Int) < (n : Int)) = true)) ∧ True := ⟨by
    by_cases h0 : n < 1
    · exact .inl (by simp; omega)
    · exact .inr ⟨by simp; omega, by simp; omega⟩, trivial⟩
  clear h
  rcases hc with h1 | ⟨h1, h2⟩
  all_goals
    go_enter Tryz.func46, Tryz.ntmps46
    go_wp2_with (refine wpList_store_mid rfl 42 _ _ rfl w.heap.size 0 (cbs (List.replicate 32 0)).toArray rfl rfl Hb.out.1 info32b (cbs_one' _) ?_)
    refine bodyPost_ret (results_row_tmp rfl _ _ w.heap.size 42 (cbs (List.replicate 32 0)).toArray (0, 0) _ rfl Hb.out.2.1 Tryz.underlying42 rfl info32b) rfl ?_
    exact ⟨rfl, Hb.out.2.2⟩

end Go.Proofs.YtcamgldilknanaaGreat

namespace Go.Proofs.YtcamgldilknanaaGreat

open Go.RowKit Go.Maps

set_option linter.unusedVariables false

def noteR (s : Lk) (ls : List (List UInt8)) : Lk := ls.foldl stepR s

theorem noteR_append (s : Lk) (a b : List (List UInt8)) : noteR s (a ++ b) = noteR (noteR s a) b := List.foldl_append

theorem noteR_snoc (s : Lk) (a : List (List UInt8)) (x : List UInt8) : noteR s (a ++ [x]) = stepR (noteR s a) x := by rw [noteR_append]; rfl

theorem stepR_len (s : Lk) (x : List UInt8) : (stepR s x).1.length ≤ s.1.length + 1 ∧ (stepR s x).2 ≤ s.2 + 1 := by
  unfold stepR rofL
  split
  · refine ⟨?_, by simp⟩
    show (if x ∈ s.1 then s.1 else s.1 ++ [x]).length ≤ _
    split
    · omega
    · simp
  · exact ⟨by simp, by simp⟩

theorem noteR_len (s : Lk) (ls : List (List UInt8)) : (noteR s ls).1.length ≤ s.1.length + ls.length ∧ (noteR s ls).2 ≤ s.2 + ls.length := by
  induction ls generalizing s with
  | nil => exact ⟨Nat.le_refl _, Nat.le_refl _⟩
  | cons x ls ih =>
    have h1 := stepR_len s x
    have h2 := ih (stepR s x)
    simp only [noteR, List.foldl_cons, List.length_cons] at *
    omega

theorem noteR_take (s : Lk) (ls : List (List UInt8)) {k : Nat} (hk : k < ls.length) : noteR s (ls.take (k + 1)) = stepR (noteR s (ls.take k)) ls[k] := by
  rw [List.take_succ_eq_append_getElem hk, noteR_snoc]

section

variable {P : Program} {ops : Array Oper} {Q : Exit → Act → World → Prop}

theorem wp_appendG {rest : List Oper} {o : Oper} {a : Act} {w : World} (hgd : o.guard = none) (s x : Operand) (t1 t2 : TypeId)
    (ho : o.op = .call { callee := .builtin .append, args := #[s, x], argTypes := #[t1, t2] }) (v xs v' : Value) (w' : World) (hs : a.eval s = v) (hx : a.eval x = xs)
    (hrun : (Builtin.append_ #[t1, t2] o.type #[v, xs]).run P w = .ok v' w') (h : wpList P ops Q rest (a.put o.dst v') w') : wpList P ops Q (o :: rest) a w := by
  refine wpList_plain hgd fun K hK => ?_
  unfold Oper.wp execOp
  simp only [ho, resolve, invoke, builtin, Sem.run_bind, Sem.run_pure, Result.andThen_ok, List.map_toArray, List.map_cons, List.map_nil, hs, hx, hrun]
  exact hK _ _ h

end

section

variable {P : Program} {ops : Array Oper} {Q : Exit → Act → World → Prop}

theorem wpList_row {rest : List Oper} {o : Oper} {a : Act} {w : World} (hgd : o.guard = none) (t : TypeId) (n : Nat) (parts : Array (Nat × Operand)) (ho : o.op = .buildSlice t n parts)
    (v : Value) (w' : World) (hrun : (Instr.buildSlice t n (parts.map fun p => (p.1, a.eval p.2))).run P w = .ok v w') (h : wpList P ops Q rest (a.put o.dst v) w') : wpList P ops Q (o :: rest) a w := by
  refine wpList_plain hgd fun K hK => ?_
  have he' : (Instr.buildSlice t n (parts.map fun (i, x) => (i, a.eval x))).run P w = .ok v w' := hrun
  unfold Oper.wp execOp
  simp only [ho, Sem.run_bind, he', Result.andThen_ok]
  exact hK _ _ h

end

/-- A digest laid into a variable, and appended to a row of the call's own. -/
theorem push_dg (w1 : World) (base : Nat) (v : Value) (l : List Dg) (h32 : All32 l) (hown : w1.ownsRow base 42 32 v l.length (cbs l.flatten)) (d : Dg) (hd : d.length = 32) (hl : l.length ≤ 100000) (hbase : base ≤ w1.heap.size) (D : List Value) (hD : cbs d = D) :
    ∃ wS v' w', (w1.alloc (.cells (cbs (List.replicate 32 0)).toArray 42)).setCells w1.heap.size 0 D = wS ∧
      ((w1.alloc (.cells (cbs (List.replicate 32 0)).toArray 42)).there w1.heap.size 0 D.toArray.size ∧ (Tryz.prog.info? 42).map (·.size) = some D.toArray.size) ∧
      wS.rangeAt w1.heap.size 0 D ∧ (Builtin.append_ #[35, 35] 35 #[v, .slice (some ⟨wS.heap.size, 0, none⟩) 1 1]).run Tryz.prog (wS.alloc (.cells D.toArray 42)) = .ok v' w' ∧
      w'.ownsRow base 42 32 v' (l ++ [d]).length (cbs (l ++ [d]).flatten) ∧ w1.grownBy w' v.ownBlock ∧ ∀ b, v'.ownBlock = some b → v.ownBlock = some b ∨ (w1.heap.size ≤ b ∧ b < w'.heap.size) := by
  have hD32 : D.length = 32 := by rw [← hD, cbs_length, hd]
  obtain ⟨wS, hwS, hst, hbS, hbel, hsz⟩ := dig_local w1 D hD32
  have hbA : Below wS.heap.size wS (wS.alloc (.cells D.toArray 42)) := (Below.refl _ _).alloc (Nat.le_refl _) _
  have hrA : (wS.alloc (.cells D.toArray 42)).ownsRow base 42 32 v l.length (cbs l.flatten) := row_stay hown fun b cs hb hc => by
    have hlt : b < w1.heap.size := by
      rcases Nat.lt_or_ge b w1.heap.size with h | h
      · exact h
      · rw [Array.getElem?_eq_none h] at hc; cases hc
    exact (hbA.block b (by omega)).trans (hbel.block b hlt)
  have hg : Blk (wS.alloc (.cells D.toArray 42)) wS.heap.size 42 (cbs d) := by rw [hD]; exact Blk.new rfl rfl
  obtain ⟨v', w', h1, h2, h3, h4⟩ := run_appendDg _ base v l h32 hrA wS.heap.size d hd hg hl (by simp; omega) 35
  have hb1 : Below w1.heap.size w1 (wS.alloc (.cells D.toArray 42)) := hbel.trans (hbA.mono (by omega))
  refine ⟨wS, v', w', hwS, hst, hbS.range, h1, h2, ?_, fun b hb => ?_⟩
  rotate_left
  · rcases h4 with h4 | h4
    · exact .inl (by rw [← h4]; exact hb)
    · have hlt := (World.ownsRow.lt h2 b hb).2
      rw [h4] at hb
      injection hb with hb
      have := hb1.size
      exact .inr ⟨by omega, hlt⟩
  exact ⟨h3.os.trans hb1.os, h3.tape.trans hb1.tape, h3.output.trans hb1.output, Nat.le_trans hb1.size h3.size, fun i hi hn => (h3.block i (Nat.lt_of_lt_of_le hi hb1.size) hn).trans (hb1.block i hi)⟩

theorem sd_info9 : (Tryz.prog.info? 35).map (fun i => (i.zero.map (fun z => z.cells.size), i.size, i.bytes)) = some (some 1, 1, 24) := by kernel_rfl

theorem run_appendSD (w : World) (base : Nat) (v : Value) (n : Nat) (vs : List Value) (hown : w.ownsRow base 35 1 v n vs) (g : Nat) (x : Value) (hx : x.oneCell' = true) (hg : Blk w g 35 [x]) (hn : n ≤ 100000) (hbase : base ≤ w.heap.size) (ty : TypeId) :
    ∃ v' w', (Builtin.append_ #[30, 30] ty #[v, .slice (some ⟨g, 0, none⟩) 1 1]).run Tryz.prog w = .ok v' w' ∧ w'.ownsRow base 35 1 v' (n + 1) (vs ++ [x]) ∧ w.grownBy w' v.ownBlock ∧ (v'.ownBlock = v.ownBlock ∨ v'.ownBlock = some w.heap.size) := by
  have h := sd_info9
  cases hi : Tryz.prog.info? 35 with
  | none => rw [hi] at h; cases h
  | some i0 =>
    rw [hi] at h
    simp only [Option.map_some, Option.some.injEq, Prod.mk.injEq] at h
    obtain ⟨h1, h2, h3⟩ := h
    cases hz : i0.zero with
    | none => rw [hz] at h1; cases h1
    | some z0 =>
      rw [hz] at h1
      simp only [Option.map_some, Option.some.injEq] at h1
      obtain ⟨v', w', e1, e2, e3, _, e5⟩ := run_append_own_at (P := Tryz.prog) w base 30 ty 35 i0 z0 1 24 Tryz.underlying30 hi hz h2 h3 h1 (by decide) v n vs hown ⟨g, 0, none⟩ 1 1 [x]
        (by simp) (fun j u hu => by rw [add_mk, Nat.zero_add]; exact hg.cell hu) (fun u hu => by rw [List.mem_singleton.1 hu]; exact hx) (by simp only [maxLen]; omega) (by omega) hbase
      exact ⟨v', w', e1, e2, e3, e5⟩

/-- A slice of digests appended to a row of such. -/
theorem push_sd (w1 : World) (base : Nat) (v : Value) (n : Nat) (vs : List Value) (hown : w1.ownsRow base 35 1 v n vs) (x : Value) (hx : x.oneCell' = true) (hn : n ≤ 100000) (hbase : base ≤ w1.heap.size) :
    ∃ v' w', (Builtin.append_ #[30, 30] 30 #[v, .slice (some ⟨w1.heap.size, 0, none⟩) 1 1]).run Tryz.prog (w1.alloc (.cells #[x] 35)) = .ok v' w' ∧ w'.ownsRow base 35 1 v' (n + 1) (vs ++ [x]) ∧ w1.grownBy w' v.ownBlock ∧ ∀ b, v'.ownBlock = some b → v.ownBlock = some b ∨ (w1.heap.size ≤ b ∧ b < w'.heap.size) := by
  have hbA : Below w1.heap.size w1 (w1.alloc (.cells #[x] 35)) := (Below.refl _ _).alloc (Nat.le_refl _) _
  have hrA : (w1.alloc (.cells #[x] 35)).ownsRow base 35 1 v n vs := row_stay hown fun b cs hb hc => by
    have hlt : b < w1.heap.size := by
      rcases Nat.lt_or_ge b w1.heap.size with h | h
      · exact h
      · rw [Array.getElem?_eq_none h] at hc; cases hc
    exact hbA.block b hlt
  obtain ⟨v', w', h1, h2, h3, h4⟩ := run_appendSD _ base v n vs hrA w1.heap.size x hx (Blk.new rfl rfl) hn (by simp; omega) 30
  refine ⟨v', w', h1, h2, ⟨h3.os.trans hbA.os, h3.tape.trans hbA.tape, h3.output.trans hbA.output, Nat.le_trans hbA.size h3.size, fun i hi hn => (h3.block i (Nat.lt_of_lt_of_le hi hbA.size) hn).trans (hbA.block i hi)⟩, fun b hb => ?_⟩
  rcases h4 with h4 | h4
  · exact .inl (by rw [← h4]; exact hb)
  · have hlt := (World.ownsRow.lt h2 b hb).2
    rw [h4] at hb
    injection hb with hb
    have := hbA.size
    exact .inr ⟨by omega, hlt⟩

theorem row_one {w : World} {x : Value} {base g : Nat} {t : TypeId} (hg : w.heap.size = g) (hb : base ≤ g) : (w.alloc (.cells #[x] t)).ownsRow base t 1 (.slice (some ⟨g, 0, none⟩) 1 1) 1 [x] := by
  subst hg
  exact ⟨rfl, .inr ⟨_, 1, _, rfl, hb, heap_alloc_new w _, Nat.le_refl _, by decide, rfl, rfl⟩⟩

theorem row_form {w : World} {base n size : Nat} {e : TypeId} {v : Value} {xs : List Value} (h : w.ownsRow base e size v n xs) (hn : 1 ≤ n) : ∃ r c, v = .slice (some ⟨r, 0, none⟩) n c ∧ base ≤ r ∧ n ≤ c ∧ c ≤ maxLen := by
  rcases h.2 with ⟨_, e⟩ | ⟨r, c, cur, rfl, hb, hg, hnc, hcm, _⟩
  · omega
  · exact ⟨r, c, rfl, hb, hnc, hcm⟩

theorem row_ltv {w : World} {base n size : Nat} {e : TypeId} {v : Value} {xs : List Value} (h : w.ownsRow base e size v n xs) {b : Nat} (hb : v.ownBlock = some b) : base ≤ b ∧ b < w.heap.size := World.ownsRow.lt h b hb

theorem row_ne {w : World} {b1 b2 n1 n2 s1 s2 : Nat} {e1 e2 : TypeId} {v1 v2 : Value} {x1 x2 : List Value} (h1 : w.ownsRow b1 e1 s1 v1 n1 x1) (h2 : w.ownsRow b2 e2 s2 v2 n2 x2) (hne : e1 ≠ e2) {b : Nat} (hb1 : v1.ownBlock = some b) : v2.ownBlock ≠ some b := fun hb2 => by
  obtain ⟨c1, k1⟩ := row_block h1 hb1
  obtain ⟨c2, k2⟩ := row_block h2 hb2
  rw [k1] at k2
  injection k2 with e
  injection e with _ e
  exact hne e

theorem row_outv {S : Nat → Prop} {w w' : World} {base n size : Nat} {e : TypeId} {v : Value} {xs : List Value} (h : w.ownsRow base e size v n xs) (ho : Out S w w') (hn : ∀ b, v.ownBlock = some b → ¬ S b) : w'.ownsRow base e size v n xs :=
  row_stay h fun b cs hb _ => ho.block b (row_ltv h hb).2 (hn b hb)

theorem row_grown {w w' : World} {r : Option Nat} {base n size : Nat} {e : TypeId} {v : Value} {xs : List Value} (h : w.ownsRow base e size v n xs) (hg : w.grownBy w' r) (hn : ∀ b, v.ownBlock = some b → r ≠ some b) : w'.ownsRow base e size v n xs :=
  row_stay h fun b cs hb _ => hg.block b (row_ltv h hb).2 (fun e => hn b hb e.symm)

end Go.Proofs.YtcamgldilknanaaGreat

namespace Go.Proofs.YtcamgldilknanaaGreat

open Go.RowKit Go.Maps

set_option linter.unusedVariables false

def sdv (low : List Dg) (R : Nat → Nat × Nat) (j : Nat) : Value := .slice (some ⟨(R j).1, 0, none⟩) (lvl low j).length (R j).2

def NL (N : Nat → Prop) (vo : Value) (R : Nat → Nat × Nat) (k : Nat) (i : Nat) : Prop := N i ∨ vo.ownBlock = some i ∨ ∃ j, j ≤ k ∧ i = (R j).1

/-- The levels 0 to k, in rows made since w. -/
structure LvR (w0 : Nat) (low : List Dg) (R : Nat → Nat × Nat) (vo : Value) (k : Nat) (wr : World) : Prop where
  out : wr.ownsRow w0 35 1 vo (k + 1) ((List.range (k + 1)).map (sdv low R))
  rows : ∀ j, j ≤ k → wr.ownsRow w0 42 32 (sdv low R j) (lvl low j).length (cbs (lvl low j).flatten)

theorem LvR.nl {w0 : Nat} {low : List Dg} {R : Nat → Nat × Nat} {vo : Value} {k : Nat} {wr : World} (h : LvR w0 low R vo k wr) {i : Nat} (hi : vo.ownBlock = some i ∨ ∃ j, j ≤ k ∧ i = (R j).1) : w0 ≤ i ∧ i < wr.heap.size := by
  rcases hi with hi | ⟨j, hj, rfl⟩
  · exact row_ltv h.out hi
  · exact row_ltv (h.rows j hj) rfl

theorem LvR.outs {w0 : Nat} {low : List Dg} {R : Nat → Nat × Nat} {vo : Value} {k : Nat} {wr w' : World} {S : Nat → Prop} (h : LvR w0 low R vo k wr) (ho : Out S wr w') (hn : ∀ i, (vo.ownBlock = some i ∨ ∃ j, j ≤ k ∧ i = (R j).1) → ¬ S i) : LvR w0 low R vo k w' :=
  ⟨row_outv h.out ho fun b hb => hn b (.inl hb), fun j hj => row_outv (h.rows j hj) ho fun b hb => hn b (.inr ⟨j, hj, by simp [sdv, Value.ownBlock] at hb; exact hb.symm⟩)⟩

theorem LvR.first {w0 : Nat} {low : List Dg} {wr : World} {r c : Nat} (h : wr.ownsRow w0 42 32 (.slice (some ⟨r, 0, none⟩) low.length c) low.length (cbs low.flatten)) (hw : w0 ≤ wr.heap.size) :
    LvR w0 low (fun _ => (r, c)) (.slice (some ⟨wr.heap.size, 0, none⟩) 1 1) 0 (wr.alloc (.cells #[.slice (some ⟨r, 0, none⟩) low.length c] 35)) := by
  refine ⟨row_one rfl hw, fun j hj => ?_⟩
  obtain rfl : j = 0 := by omega
  exact row_stay h fun b cs hb hc => heap_alloc_old _ _ (row_ltv h hb).2

/-- One level more. -/
theorem LvR.next {w0 : Nat} {low : List Dg} {R : Nat → Nat × Nat} {vo vo' : Value} {k base rn cn : Nat} {wr w' : World} (h : LvR w0 low R vo k wr) (hb : w0 ≤ base)
    (hn : wr.ownsRow base 42 32 (.slice (some ⟨rn, 0, none⟩) (lvl low (k + 1)).length cn) (lvl low (k + 1)).length (cbs (lvl low (k + 1)).flatten))
    (hg : wr.grownBy w' vo.ownBlock) (ho : w'.ownsRow w0 35 1 vo' (k + 1 + 1) ((List.range (k + 1)).map (sdv low R) ++ [.slice (some ⟨rn, 0, none⟩) (lvl low (k + 1)).length cn])) :
    LvR w0 low (fun j => if j = k + 1 then (rn, cn) else R j) vo' (k + 1) w' := by
  have e : ∀ j, j ≤ k → sdv low (fun j => if j = k + 1 then (rn, cn) else R j) j = sdv low R j := fun j hj => by simp [sdv, show j ≠ k + 1 from by omega]
  have e1 : sdv low (fun j => if j = k + 1 then (rn, cn) else R j) (k + 1) = .slice (some ⟨rn, 0, none⟩) (lvl low (k + 1)).length cn := by simp [sdv]
  refine ⟨?_, fun j hj => ?_⟩
  · rw [List.range_succ, List.map_append, List.map_cons, List.map_nil, e1]
    have : (List.range (k + 1)).map (sdv low (fun j => if j = k + 1 then (rn, cn) else R j)) = (List.range (k + 1)).map (sdv low R) := List.map_congr_left fun j hj => e j (by rw [List.mem_range] at hj; omega)
    rw [this]
    exact ho
  · by_cases hjk : j = k + 1
    · subst hjk
      rw [e1]
      exact row_base (row_grown hn hg fun b hb => row_ne hn h.out (by decide) hb) hb
    · rw [e j (by omega)]
      exact row_grown (h.rows j (by omega)) hg fun b hb => row_ne (h.rows j (by omega)) h.out (by decide) hb

def RLvls (w w' : World) (v : Value) (low : List Dg) : Prop := ∃ R, LvR w.heap.size low R v (dep low.length - 1) w'

set_option maxRecDepth 100000 in
set_option maxHeartbeats 6400000 in
theorem rlevels_any (B g : Nat) (s : Lk) (N K : Nat → Prop) (A : Option Addr) (n c : Nat) (ls : List (List UInt8)) (w : World) (h : Rb B w g s N) (hB0 : B ≤ w.heap.size) (hL : s.1.length + 20000 < 1000000) (hk : s.2 + 20000 < 1000000)
    (hn : ls.length = n) (h1 : 1 ≤ n) (h2 : n ≤ 1024) (hls : ∀ x ∈ ls, x.length ≤ 65535) (hl : LvsAt w K A ls) (hK : ∀ j, K j → j < w.heap.size ∧ (j < B ∨ N j)) :
    Calls Tryz.prog 38 #[.pointer (some ⟨g, 0, none⟩), .slice A n c] w fun e w' =>
      ∃ v, e = .returned v ∧ RLvls w w' v (lows ls) ∧ Rb B w' g (noteR s (insTo ls (dep n - 1))) N ∧ Out (Tr B w N) w w' := by
  obtain ⟨low, hlow⟩ : ∃ low, lows ls = low := ⟨_, rfl⟩
  have hll : low.length = n := by rw [← hlow, lows_len, hn]
  have hall : All32 low := by rw [← hlow]; exact all32_lows _
  have hKn : ∀ j, K j → j < w.heap.size ∧ ¬ Tr B w N j := fun j hj => ⟨(hK j hj).1, fun e => by
    rcases (hK j hj).2 with h | h
    · have := e.1; omega
    · exact e.2.1 h⟩
  have Hh := Lib.hid (And.intro h (And.intro hL (And.intro hk (And.intro hn (And.intro hls (And.intro hl (And.intro hKn (And.intro hlow (And.intro hll (And.intro hall hB0))))))))))
  have hAf : ∃ b off, A = some ⟨b, off, none⟩ := by obtain ⟨b, off, e, _⟩ := hl; exact ⟨b, off, e⟩
  obtain ⟨lb, lo, rfl⟩ := hAf
  rw [hlow]
  clear h hL hk hn hls hl hK hKn hlow hll hall hB0
  go_enter Tryz.func38, Tryz.ntmps38
  go_wp2
  go_loopw [5, 6, 7, 8] (fun v iv _ _ wr => ∃ k : Nat, k ≤ n ∧ iv = .int .i64 (k : Int) ∧ wr.ownsRow w.heap.size 42 32 v k (cbs (low.take k).flatten) ∧ Rb B wr g (noteR s ((ls.map leafIn).take k)) (fun i => N i ∨ v.ownBlock = some i) ∧ Out (Tr B w N) w wr) (fun _ iv _ _ _ => n - (intOf iv).toNat)
  case atStart => exact ⟨0, Nat.zero_le _, rfl, World.ownsRow_nil _ _ _ _, Hh.out.1.less fun i hi => by
    rcases hi with hi | hi
    · exact hi
    · simp [Value.ownBlock] at hi, Out.refl _ _⟩
  case round =>
    obtain ⟨k, hk, rfl, hR, hRb, hO⟩ := hrel
    obtain ⟨h, hL, hks, hn, hls, hl, hKn, hlow, hll, hall, hB0⟩ := Hh.out
    by_cases hlt : k < n
    · have hkl : k < ls.length := by omega
      obtain ⟨b', off', e', hkb, hcc⟩ := hl.stays ((Stays.refl K w).out hKn hO)
      cases e'
      obtain ⟨Aj, cj, hc, hle, hcm, hBx, hKx⟩ := hcc k hkl
      have hx6 : (ls[k]'hkl).length ≤ 65535 := hls _ (List.getElem_mem _)
      have hlk : low[k]'(by omega) = digest (leafIn (ls[k]'hkl)) := by subst hlow; simp [lows]
      have hst : low.take (k + 1) = low.take k ++ [low[k]'(by omega)] := List.take_succ_eq_append_getElem (by omega)
      have hst2 := noteR_take s (ls.map leafIn) (k := k) (by simp; omega)
      rw [hlk] at hst
      simp only [List.getElem_map] at hst2
      generalize (ls[k]'hkl) = x at *
      obtain ⟨nj, hnj⟩ : ∃ a, x.length = a := ⟨_, rfl⟩
      rw [hnj] at hc hle hx6
      have hnl := noteR_len s ((ls.map leafIn).take k)
      rw [List.length_take, List.length_map] at hnl
      have hlf := rleaf_any B g _ _ Aj nj cj x wr hRb (Nat.le_trans hB0 hO.size) (by omega) (by omega) hBx hnj hle hcm hx6
      obtain ⟨D, hD⟩ : ∃ D, cbs (digest (leafIn x)) = D := ⟨_, rfl⟩
      rw [hD] at hlf
      rw [← hst2] at hlf
      have hD32 : D.length = 32 := by rw [← hD, cbs_length, dlen]
      have hD1 : D.toArray.all (·.oneCell') = true := by rw [← hD]; exact cbs_one' _
      have hDi : (Tryz.prog.info? 42).map (·.size) = some D.length := by rw [hD32]; exact info32b
      have hm2 : ∀ i : Int, 0 ≤ (k : Int) ∧ (k : Int) < (n : Int) := fun _ => by omega
      have Hlf := Lib.hid hlf
      have H0 := Lib.hid (And.intro hR (And.intro hO (And.intro hst (And.intro hD (And.intro hD1 hDi)))))
      have k0 : (0 : Int) ≤ (k : Int) := by omega
      have k1 : (k : Int) < (n : Int) := by omega
      clear hR hRb hO hcc hle hcm hBx hKx hlk hst hst2 hnl hlf hD hD32 hD1 hDi h hL hks hn hls hl hKn hll hall hB0 hkb hx6 hnj hm2
      go_wp2_with fail
      refine Hlf.out.mono ?_
      rintro e w1 ⟨rfl, hRb1, hO1⟩
      obtain ⟨hR, hO, hst, hD, hD1, hDi⟩ := H0.out
      have hall := Hh.out.2.2.2.2.2.2.2.2.2.1
      have hR1 := row_outv hR hO1 fun b hb => Tr.keep (.inr hb)
      have htl : (low.take k).length = k := by rw [List.length_take, Hh.out.2.2.2.2.2.2.2.2.1]; omega
      have hsz1 : w.heap.size ≤ w1.heap.size := Nat.le_trans hO.size hO1.size
      obtain ⟨wS, v', w', hwS, hth, hrg, hap, hR', hg', hb'⟩ := push_dg w1 w.heap.size _ (low.take k) (fun x hx => hall x (List.mem_of_mem_take hx)) (by rw [htl]; exact hR1) (digest (leafIn x)) (dlen _) (by omega) hsz1 D hD
      rw [← hst] at hR'
      have hRl : (low.take (k + 1)).length = k + 1 := by rw [List.length_take, Hh.out.2.2.2.2.2.2.2.2.1]; omega
      rw [hRl] at hR'
      have hRb' : Rb B w' g (noteR s ((ls.map leafIn).take (k + 1))) (fun i => N i ∨ v'.ownBlock = some i) := hRb1.grown hg' (fun i hi => .inr hi) fun i hi => by
        rcases hi with hi | hi
        · exact .inl (.inl hi)
        · rcases hb' i hi with h | h
          · exact .inl (.inr h)
          · exact .inr h
      have hO' : Out (Tr B w N) w w' := (hO.tr hO1 fun i _ hi => .inl hi).then_grown hg' fun i hi h => by
        have := (row_ltv hR1 hi).1; omega
      have HwS := Lib.hid hwS
      have Hs := Lib.hid (And.intro hth.1 (And.intro hth.2 (And.intro hD1 (And.intro hrg (And.intro hDi (And.intro hap (run_buildDg D (show D.length = 32 from by rw [← hD, cbs_length, dlen]) wS)))))))
      have H1 := Lib.hid (And.intro hR' (And.intro hRb' hO'))
      clear hR hO hst hD hD1 hDi hall hR1 htl hsz1 hwS hth hrg hap hR' hg' hb' hRl hRb' hO' hRb1 hO1 Hlf hc
      go_wp2_with (first
        | (refine wpList_store_mid rfl 42 _ _ rfl w1.heap.size 0 D.toArray rfl rfl Hs.out.1 Hs.out.2.1 Hs.out.2.2.1 ?_; simp only [Act.put]; refine cast (congrArg (fun z => wpList _ _ _ _ _ z) HwS.out.symm) ?_)
        | (refine wpList_load_mid rfl 42 _ rfl w1.heap.size 0 rfl D _ Hs.out.2.2.2.1 Tryz.underlying42 rfl Hs.out.2.2.2.2.1 ?_; simp only [Act.put])
        | (refine wpList_row rfl 35 1 _ rfl (.slice (some ⟨wS.heap.size, 0, none⟩) 1 1) (wS.alloc (.cells D.toArray 42)) (by simp only [List.map_toArray, List.map_cons, List.map_nil]; exact Hs.out.2.2.2.2.2.2) ?_; simp only [Act.put])
        | (at_builtin; refine wp_appendG rfl _ _ _ _ rfl _ _ v' w' rfl rfl Hs.out.2.2.2.2.2.1 ?_))
      go_roundw
      case rel => exact ⟨k + 1, by omega, by go_num, H1.out.1, H1.out.2.1, H1.out.2.2⟩
      case measure => simp [intOf]; omega
    · obtain rfl : k = n := by omega
      rw [List.take_of_length_le (by omega)] at hR
      rw [List.take_of_length_le (by simp; omega)] at hRb
      have hown0 := hR
      obtain ⟨r0, c0, rfl, hr0, hc0, hcm0⟩ := row_form hR h1
      have hz0 := hO.size
      obtain ⟨wA, hwA⟩ : ∃ wA, wr.alloc (.cells #[.slice (some ⟨r0, 0, none⟩) k c0] 35) = wA := ⟨_, rfl⟩
      have hbA : Below wr.heap.size wr wA := by rw [← hwA]; exact (Below.refl _ _).alloc (Nat.le_refl _) _
      have hLv : LvR w.heap.size low (fun _ => (r0, c0)) (.slice (some ⟨wr.heap.size, 0, none⟩) 1 1) 0 wA := by
        have := LvR.first (low := low) (wr := wr) (r := r0) (c := c0) (by rw [hll]; exact hR) hz0
        rw [hll, hwA] at this
        exact this
      have hzA : wA.heap.size = wr.heap.size + 1 := by rw [← hwA]; simp
      have hRbA : Rb B wA g (noteR s (insTo ls 0)) (NL N (.slice (some ⟨wr.heap.size, 0, none⟩) 1 1) (fun _ => (r0, c0)) 0) := hRb.belowN hbA fun i hi => by
        rcases hi with hi | hi | ⟨j, hj, rfl⟩
        · exact .inl (.inl hi)
        · simp [Value.ownBlock] at hi; exact .inr ⟨by omega, by omega⟩
        · exact .inl (.inr rfl)
      have hOA : Out (Tr B w N) w wA := hO.then_below hbA
      obtain ⟨d, hd⟩ : ∃ d, dep k = d := ⟨_, rfl⟩
      have hd1 := dep_pos k
      have hd6 := dep_le h2
      rw [hd] at hd1 hd6
      have HA := Lib.hid (And.intro hLv (And.intro hRbA (And.intro hOA (And.intro hd (And.intro hwA hll)))))
      have hk1 : ¬ (k : Int) < (k : Int) := by omega
      clear hR hRb hown0 hO hr0 hc0 hcm0 hz0 hbA hLv hzA hRbA hOA hd hwA h hL hks hn hls hl hKn hlow hll hall hB0
      go_wp2
      go_loopw [5, 9, 10, 11, 12, 13] (fun v5 v9 _ _ _ _ wr => ∃ (j : Nat) (R : Nat → Nat × Nat), j + 1 ≤ d ∧ v5 = sdv low R j ∧ LvR w.heap.size low R v9 j wr ∧ Rb B wr g (noteR s (insTo ls j)) (NL N v9 R j) ∧ Out (Tr B w N) w wr) (fun v5 _ _ _ _ _ _ => match v5 with | .slice _ q _ => q | _ => 0)
      case atStart =>
        obtain ⟨hLv, hRbA, hOA, hd, hwA, hll⟩ := HA.out
        refine ⟨0, fun _ => (r0, c0), hd1, ?_, by rw [hwA]; exact hLv, by rw [hwA]; exact hRbA, by rw [hwA]; exact hOA⟩
        show _ = Value.slice (some ⟨r0, 0, none⟩) low.length c0
        rw [hll]
      case round =>
        obtain ⟨j, R, hj, rfl, hLv, hRb, hO⟩ := hrel
        obtain ⟨wo, hwo⟩ : ∃ wo, wo = wr := ⟨_, rfl⟩
        subst hwo
        obtain ⟨h, hL, hks, hn, hls, hl, hKn, hlow, hll, hall, hB0⟩ := Hh.out
        have hd := HA.out.2.2.2.1
        obtain ⟨q, hq⟩ : ∃ q, (lvl low j).length = q := ⟨_, rfl⟩
        obtain ⟨r, hr⟩ : ∃ r, (R j).1 = r := ⟨_, rfl⟩
        obtain ⟨cc, hcc⟩ : ∃ cc, (R j).2 = cc := ⟨_, rfl⟩
        have hsd : sdv low R j = .slice (some ⟨r, 0, none⟩) q cc := by unfold sdv; rw [hr, hcc, hq]
        have hqw : q = wid k j := by rw [← hq, lvl_len, hll]
        have hq1 : 1 ≤ q := by rw [hqw]; exact wid_pos h1 j
        have hqk : q ≤ 1024 := by rw [hqw]; exact Nat.le_trans (wid_le k j h1) h2
        have hrj := hLv.rows j (Nat.le_refl _)
        rw [hsd] at hrj ⊢
        have hqc : q ≤ cc := by
          rcases hrj.2 with ⟨e, _⟩ | ⟨_, _, _, e, _, _, h3, _⟩
          · cases e
          · injection e with _ e2 e3; omega
        by_cases hlast : j + 1 < d
        · have hq2 : 1 < q := by rw [hqw]; exact wid_more h1 (by omega)
          have hnl := noteR_len s (insTo ls j)
          have hil := insTo_len ls (by omega) j
          have hil2 : ls.length * (j + 1) ≤ 1024 * 6 := Nat.mul_le_mul (by omega) (by omega)
          obtain ⟨sj, hsj⟩ : ∃ sj, noteR s (insTo ls j) = sj := ⟨_, rfl⟩
          rw [hsj] at hRb hnl
          have hnx : (lvl low (j + 1)).length = (q + 3) / 4 := by rw [lvl, next_len, hq]
          have Hj := Lib.hid (And.intro hLv (And.intro hRb (And.intro hO (And.intro hrj (And.intro hq (And.intro hsj (And.intro hnx (And.intro (show sj.1.length + 10000 < 1000000 by omega) (And.intro (show sj.2 + 10000 < 1000000 by omega) (And.intro hqc hr))))))))))
          have g1 : (1 : Int) < (q : Int) := by omega
          clear hLv hRb hO hrj hq hr hcc hsd hqw hnl hil hil2 hsj hnx h hL hks hn hls hl hKn hlow hll hall hB0 hd hqc
          go_wp2
          go_loopw [10, 11, 12, 13] (fun vn iv _ _ wi => ∃ i : Nat, i ≤ (q + 3) / 4 ∧ iv = .int .i64 ((4 * i : Nat) : Int) ∧ wi.ownsRow wo.heap.size 42 32 vn i (cbs ((lvl low (j + 1)).take i).flatten) ∧ Rb B wi g (noteR sj ((ups (lvl low j)).take i)) (fun x => NL N u9 R j x ∨ vn.ownBlock = some x) ∧ Out (Tr B wo (NL N u9 R j)) wo wi) (fun _ iv _ _ _ => q + 3 - (intOf iv).toNat)
          case atStart => exact ⟨0, Nat.zero_le _, rfl, World.ownsRow_nil _ _ _ _, Hj.out.2.1.less fun i hi => by
            rcases hi with hi | hi
            · exact hi
            · simp [Value.ownBlock] at hi, Out.refl _ _⟩
          case round =>
            obtain ⟨i, hi, rfl, hR, hRbi, hOi⟩ := hrel
            obtain ⟨hLv, hRb, hO, hrj, hq, hsj, hnx, hb1, hb2, hqc, hrR⟩ := Hj.out
            have hall := Hh.out.2.2.2.2.2.2.2.2.2.1
            have hB0 := Hh.out.2.2.2.2.2.2.2.2.2.2
            obtain ⟨f, hf⟩ : ∃ f, 4 * i = f := ⟨_, rfl⟩
            rw [hf]
            have hzo := hOi.size
            by_cases hin : f < q
            · have hrw := row_outv hrj hOi fun b hb => Tr.keep (.inr (.inr ⟨j, Nat.le_refl _, by
                simp [Value.ownBlock] at hb
                rw [← hb, hrR]⟩))
              have hDs : Ds wr (some ⟨r, 0, none⟩) (lvl low j) := by
                have h := hrw
                rw [← hq] at h
                exact Shows.ofOwn h
              have h32j := all32_lvl hall j
              have h32n := all32_lvl hall (j + 1)
              obtain ⟨hF, hFl⟩ := ds_four hDs h32j i (by omega)
              rw [hq] at hFl
              have hi4 : i < (lvl low (j + 1)).length := by omega
              have hget : (lvl low (j + 1))[i]'hi4 = digest (upIn (four (lvl low j) i)) := by
                have h3 := next_get (lvl low j) i
                rw [if_pos (by omega)] at h3
                have h4 : (lvl low (j + 1))[i]? = (next (lvl low j))[i]? := rfl
                rw [List.getElem?_eq_getElem hi4, h3] at h4
                exact Option.some.inj h4
              have hst : (lvl low (j + 1)).take (i + 1) = (lvl low (j + 1)).take i ++ [digest (upIn (four (lvl low j) i))] := by
                rw [List.take_succ_eq_append_getElem hi4, hget]
              have hul : i < (ups (lvl low j)).length := by rw [ups_len, hq]; omega
              have hst2 := noteR_take sj (ups (lvl low j)) hul
              have hug : (ups (lvl low j))[i]'hul = upIn (four (lvl low j) i) := by simp [ups]
              rw [hug] at hst2
              have hnl := noteR_len sj ((ups (lvl low j)).take i)
              rw [List.length_take, ups_len, hq] at hnl
              obtain ⟨fe, hfe⟩ : ∃ fe, min (f + 4) q = fe := ⟨_, rfl⟩
              have hsl := fun w => sl_two r q cc f fe (by omega) (by omega) w
              have hmin : ∀ ts t w, (Builtin.min_ ts t #[.int .i64 ((f : Int) + 4), .int .i64 (q : Int)]).run Tryz.prog w = .ok (.int .i64 (fe : Int)) w := fun ts t w => by
                rw [run_min_int2]; congr 2; split <;> omega
              have hup := rup_any B g _ _ (some ⟨r, f * 32, none⟩) (fe - f) (cc - f) (four (lvl low j) i) wr hRbi (Nat.le_trans hB0 (Nat.le_trans hO.size hzo)) (by omega) (by omega) (by rw [← hf, Nat.mul_comm 4 i]; exact hF) (h32j.four i) (by rw [hFl]; omega) (by omega) (by omega)
              rw [← hst2] at hup
              obtain ⟨D, hD⟩ : ∃ D, cbs (digest (upIn (four (lvl low j) i))) = D := ⟨_, rfl⟩
              rw [hD] at hup
              have hD32 : D.length = 32 := by rw [← hD, cbs_length, dlen]
              have hD1 : D.toArray.all (·.oneCell') = true := by rw [← hD]; exact cbs_one' _
              have hDi : (Tryz.prog.info? 42).map (·.size) = some D.length := by rw [hD32]; exact info32b
              have Hup := Lib.hid hup
              have H0 := Lib.hid (And.intro hR (And.intro hOi (And.intro hst (And.intro hD (And.intro hD1 (And.intro hDi (And.intro hf h32n)))))))
              have f0 : (0 : Int) ≤ (f : Int) := by omega
              have f1 : (f : Int) < (q : Int) := by omega
              have f2 : (f : Int) ≤ 1024 := by omega
              have il : i < (q + 3) / 4 := by omega
              clear hrw hDs h32j h32n hF hFl hi4 hget hst hul hst2 hug hnl hfe hup hD hD32 hD1 hDi hR hRbi hOi hLv hRb hO hrj hq hsj hnx hb1 hb2 hqc hall hB0 hf hzo hi hrR
              go_wp2_with fail
              refine Hup.out.mono ?_
              rintro e w1 ⟨rfl, hRb1, hO1⟩
              obtain ⟨hR, hOi, hst, hD, hD1, hDi, hf, h32n⟩ := H0.out
              have hR1 := row_outv hR hO1 fun b hb => Tr.keep (.inr hb)
              have htl : ((lvl low (j + 1)).take i).length = i := by rw [List.length_take, Hj.out.2.2.2.2.2.2.1]; omega
              obtain ⟨wS, v', w', hwS, hth, hrg, hap, hR', hg', hb'⟩ := push_dg w1 wo.heap.size _ ((lvl low (j + 1)).take i) (fun x hx => h32n x (List.mem_of_mem_take hx)) (by rw [htl]; exact hR1) (digest (upIn (four (lvl low j) i))) (dlen _) (by omega) (Nat.le_trans hOi.size hO1.size) D hD
              rw [← hst] at hR'
              have hRl : ((lvl low (j + 1)).take (i + 1)).length = i + 1 := by rw [List.length_take, Hj.out.2.2.2.2.2.2.1]; omega
              rw [hRl] at hR'
              have hRb' : Rb B w' g (noteR sj ((ups (lvl low j)).take (i + 1))) (fun x => NL N u9 R j x ∨ v'.ownBlock = some x) := hRb1.grown hg' (fun i hi => .inr hi) fun i hi => by
                rcases hi with hi | hi
                · exact .inl (.inl hi)
                · rcases hb' i hi with h | h
                  · exact .inl (.inr h)
                  · exact .inr h
              have hO' : Out (Tr B wo (NL N u9 R j)) wo w' := (hOi.tr hO1 fun i _ hi => .inl hi).then_grown hg' fun i hi h => by
                have := (row_ltv hR1 hi).1; omega
              have HwS := Lib.hid hwS
              have Hs := Lib.hid (And.intro hth.1 (And.intro hth.2 (And.intro hD1 (And.intro hrg (And.intro hDi (And.intro hap (run_buildDg D (show D.length = 32 from by rw [← hD, cbs_length, dlen]) wS)))))))
              have H1 := Lib.hid (And.intro hR' (And.intro hRb' (And.intro hO' hf)))
              clear hR hOi hst hD hD1 hDi hf h32n hR1 htl hwS hth hrg hap hR' hg' hb' hRl hRb' hO' hRb1 hO1 Hup
              go_wp2_with (first
                | (refine wpList_store_mid rfl 42 _ _ rfl w1.heap.size 0 D.toArray rfl rfl Hs.out.1 Hs.out.2.1 Hs.out.2.2.1 ?_; simp only [Act.put]; refine cast (congrArg (fun z => wpList _ _ _ _ _ z) HwS.out.symm) ?_)
                | (refine wpList_load_mid rfl 42 _ rfl w1.heap.size 0 rfl D _ Hs.out.2.2.2.1 Tryz.underlying42 rfl Hs.out.2.2.2.2.1 ?_; simp only [Act.put])
                | (refine wpList_row rfl 35 1 _ rfl (.slice (some ⟨wS.heap.size, 0, none⟩) 1 1) (wS.alloc (.cells D.toArray 42)) (by simp only [List.map_toArray, List.map_cons, List.map_nil]; exact Hs.out.2.2.2.2.2.2) ?_; simp only [Act.put])
                | (at_builtin; refine wp_appendG rfl _ _ _ _ rfl _ _ v' w' rfl rfl Hs.out.2.2.2.2.2.1 ?_))
              go_roundw
              case rel => exact ⟨i + 1, by omega, by rw [show 4 * (i + 1) = f + 4 from by have := H1.out.2.2.2; omega]; go_num, H1.out.1, H1.out.2.1, H1.out.2.2.1⟩
              case measure => simp [intOf]; omega
            · have hii : i = (q + 3) / 4 := by omega
              have htl : (lvl low (j + 1)).take i = lvl low (j + 1) := List.take_of_length_le (by omega)
              rw [htl] at hR
              have htu : (ups (lvl low j)).take i = ups (lvl low j) := List.take_of_length_le (by rw [ups_len, hq]; omega)
              rw [htu] at hRbi
              have hown0 := hR
              obtain ⟨rn, cn, rfl, hrn, hcn, hcnm⟩ := row_form hR (by omega)
              have hLr : LvR w.heap.size low R u9 j wr := hLv.outs hOi fun x hx => Tr.keep (.inr hx)
              obtain ⟨v', w', hap, hR', hg', hb'⟩ := push_sd wr w.heap.size u9 (j + 1) _ hLr.out (.slice (some ⟨rn, 0, none⟩) i cn) rfl (by omega) (Nat.le_trans hO.size hzo)
              have hiL : i = (lvl low (j + 1)).length := by omega
              have hLn : LvR w.heap.size low (fun x => if x = j + 1 then (rn, cn) else R x) v' (j + 1) w' := hLr.next (base := wo.heap.size) hO.size (by rw [← hiL]; exact hR) hg' (by rw [← hiL]; exact hR')
              have hRn : Rb B w' g (noteR s (insTo ls (j + 1))) (NL N v' (fun x => if x = j + 1 then (rn, cn) else R x) (j + 1)) := by
                rw [insTo_succ, noteR_append, hsj, Hh.out.2.2.2.2.2.2.2.1]
                refine hRbi.grown hg' (fun x hx => .inl (.inr (.inl hx))) fun x hx => ?_
                rcases hx with hx | hx | ⟨y, hy, rfl⟩
                · exact .inl (.inl (.inl hx))
                · rcases hb' x hx with h | h
                  · exact .inl (.inl (.inr (.inl h)))
                  · exact .inr h
                · by_cases hyj : y = j + 1
                  · subst hyj
                    refine .inl (.inr ?_)
                    simp [Value.ownBlock]
                  · refine .inl (.inl (.inr (.inr ⟨y, by omega, ?_⟩)))
                    simp [hyj]
              have hOn : Out (Tr B w N) w w' := (hO.tr hOi fun x _ hx => .inl hx).then_grown hg' fun x hx h => by
                have := (hLr.nl (.inl hx)).1; omega
              have H1 := Lib.hid (And.intro hLn (And.intro hRn (And.intro hOn hiL)))
              have Hap := Lib.hid hap
              have Hii := Lib.hid hii
              clear hii
              have f1 : ¬ (f : Int) < (q : Int) := by omega
              clear htl htu hown0 hrn hcn hcnm hLr hap hR' hg' hb' hiL hLn hRn hOn hR hRbi hOi hLv hRb hO hrj hq hsj hnx hb1 hb2 hqc hall hB0 hf hzo hi hrR
              go_wp2_with (at_builtin; refine wp_appendG rfl _ _ _ _ rfl _ _ v' w' rfl rfl Hap.out ?_)
              go_roundw
              case rel =>
                refine ⟨j + 1, _, by omega, ?_, H1.out.1, H1.out.2.1, H1.out.2.2.1⟩
                have h := H1.out.2.2.2
                simp [sdv, ← h]
              case measure => have := Hii.out; simp; omega
        · have hj1 : j + 1 = d := by omega
          have hq0 : q = 1 := by rw [hqw]; exact wid_last h1 (by omega)
          have g1 : ¬ (1 : Int) < (q : Int) := by omega
          have H1 := Lib.hid (And.intro hLv (And.intro hRb (And.intro hO (And.intro hd hll))))
          clear hLv hRb hO hd hll hrj hq hr hcc hsd hqw h hL hks hn hls hl hKn hlow hall hB0 hqc
          go_wp2
          go_ret
          obtain ⟨hLv, hRb, hO, hd, hll⟩ := H1.out
          have e1 : dep k - 1 = j := by omega
          exact ⟨_, rfl, ⟨R, by rw [hll, e1]; exact hLv⟩, by rw [e1]; exact hRb.less fun i hi => .inl hi, hO⟩

end Go.Proofs.YtcamgldilknanaaGreat
