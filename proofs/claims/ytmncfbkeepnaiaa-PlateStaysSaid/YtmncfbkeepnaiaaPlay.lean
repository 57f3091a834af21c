/-
  Puts to a plate, over the statements' text: play.
-/
import Derived.Test.YtmncfbkeepnaiaaPlayP
namespace Go.Proofs.Ytmncfbkeepnaiaa
open Go.RowKit Go.Maps
set_option linter.unusedVariables false

theorem info8 : (Try.prog.info? 38).map (·.size) = some 8 := by kernel_rfl
abbrev zb8 : Obj := .cells (cbs z8).toArray 38 (0, 0)
theorem results_two_rows {P : Program} {fn : Func} {p q : Tmp} {ty : TypeId} (h : fn.results = #[.cell p ty, .cell q ty]) (tmps : Array Value) (w : World) (g k : Nat) (t t' : TypeId) (cs ds : Array Value) (fr fr' : Nat × Nat) (d : TypeDesc)
    (hp : tmps.getD p undef = .pointer (some ⟨g, 0, none⟩)) (hq : tmps.getD q undef = .pointer (some ⟨k, 0, none⟩)) (hg : w.heap[g]? = some (.cells cs t fr)) (hk : w.heap[k]? = some (.cells ds t' fr'))
    (hu : P.underlying ty = some d) (hd : (match d with | .struct _ | .array _ _ => true | _ => false) = true) (hi : (P.info? ty).map (·.size) = some cs.size) (hj : (P.info? ty).map (·.size) = some ds.size) :
    (results fn tmps).run P w = .ok (.tuple #[.agg cs, .agg ds]) w := by
  have hp' : tmps[p]?.getD undef = .pointer (some ⟨g, 0, none⟩) := by simpa using hp
  have hq' : tmps[q]?.getD undef = .pointer (some ⟨k, 0, none⟩) := by simpa using hq
  simp [results, h, hp', hq', asAddr, run_loadVar_row w g t ty cs fr d hg hu hd hi, run_loadVar_row w k t' ty ds fr' d hk hu hd hj]

/-- The four local variables. -/
structure Vars (B : Nat) (w : World) (x y : List UInt8) : Prop where
  a : Blk w B 38 (cbs z8)
  b : Blk w (B + 1) 38 (cbs z8)
  c : Blk w (B + 1 + 1) 38 (cbs x)
  d : Blk w (B + 1 + 1 + 1) 38 (cbs y)
section
variable {B : Nat} {w w' : World} {x y : List UInt8}
theorem Vars.out {S : Nat → Prop} (h : Vars B w x y) (ho : Out S w w') (hS : ∀ i, S i → i < B) : Vars B w' x y :=
  ⟨ho.blk h.a fun e => by have := hS _ e; omega, ho.blk h.b fun e => by have := hS _ e; omega, ho.blk h.c fun e => by have := hS _ e; omega, ho.blk h.d fun e => by have := hS _ e; omega⟩
theorem Vars.below (h : Vars B w x y) (hb : Below w.heap.size w w') : Vars B w' x y := h.out (Out.ofBelow (fun _ => False) hb) fun _ e => e.elim
end
theorem ArgP.fields {w0 wr : World} {A : Option Addr} {n c : Nat} {l : List PutL} (h : ArgP w0 A n c l) (hb : Below w0.heap.size w0 wr) {j : Nat} (hj : j < l.length) : ∃ b off, A = some ⟨b, off, none⟩ ∧ b < w0.heap.size ∧ Wf l[j].at_ ∧
    wr.cell? ⟨b, off + j * 3, none⟩ = some (.int .i64 l[j].at_) ∧ wr.cell? ⟨b, off + j * 3 + 1, none⟩ = some (.int .u8 (l[j].b.toNat : Int)) ∧ wr.cell? ⟨b, off + j * 3 + 2, none⟩ = some (.bool l[j].fl) := by
  obtain ⟨b, off, e, hlt, h0, h1, h2, h3⟩ := h.at_ hj
  exact ⟨b, off, e, hlt, h0, (hb.cell (p := ⟨b, off + j * 3, none⟩) hlt).trans h1, (hb.cell (p := ⟨b, off + j * 3 + 1, none⟩) hlt).trans h2, (hb.cell (p := ⟨b, off + j * 3 + 2, none⟩) hlt).trans h3⟩

/-- The plate's blocks and the four variables'. -/
def M4 (M : Nat → Prop) (B : Nat) : Nat → Prop := fun i => M i ∨ (B ≤ i ∧ i < B + 4)
/-- What stands at a round's head. -/
def AtPlay (w0 w wr : World) (M : Nat → Prop) (g r m : Nat) (s : PS) : Prop := Pk w0 wr (M4 M w.heap.size) g r m s.1 ∧ Vars w.heap.size wr s.2.1 s.2.2 ∧ Out (GRM g r m) w wr

set_option maxRecDepth 100000 in
set_option maxHeartbeats 6400000 in
theorem play_any {w0 w : World} {M : Nat → Prop} {g r m : Nat} {P : Pl} (h : Pk w0 w M g r m P) (A : Option Addr) (n c : Nat) (l : List PutL) (hl : ArgP w0 A n c l) :
    Calls Try.prog 13 #[.pointer (some ⟨g, 0, none⟩), .slice A n c] w fun e w' => e = .returned (.tuple #[.agg (cbs (playL (l.take 60) P).2.1).toArray, .agg (cbs (playL (l.take 60) P).2.2).toArray]) ∧ Pk w0 w' M g r m (playL (l.take 60) P).1 ∧ Out (GRM g r m) w w' := by
  have hcm := hl.2.2.1
  unfold maxLen at hcm
  have hnc := hl.2.1
  have hMlt : ∀ i, GRM g r m i → i < w.heap.size := fun i hi => h.1.lt i (h.grm i hi)
  have hMgrm := h.grm
  have b4 : Below w.heap.size w ((((w.alloc zb8).alloc zb8).alloc zb8).alloc zb8) := ((((Below.refl _ _).alloc (Nat.le_refl _) _).alloc (by simp) _).alloc (by simp; omega) _).alloc (by simp; omega) _
  have z4 : ((((w.alloc zb8).alloc zb8).alloc zb8).alloc zb8).heap.size = w.heap.size + 4 := by simp
  have v4 : Vars w.heap.size ((((w.alloc zb8).alloc zb8).alloc zb8).alloc zb8) z8 z8 :=
    ⟨(((Blk.new (w := w) rfl rfl : Blk (w.alloc zb8) w.heap.size _ _).old zb8).old zb8).old zb8,
     ((Blk.new rfl (by simp) : Blk ((w.alloc zb8).alloc zb8) (w.heap.size + 1) _ _).old zb8).old zb8,
     (Blk.new rfl (by simp) : Blk (((w.alloc zb8).alloc zb8).alloc zb8) (w.heap.size + 1 + 1) _ _).old zb8,
     (Blk.new rfl (by simp) : Blk ((((w.alloc zb8).alloc zb8).alloc zb8).alloc zb8) (w.heap.size + 1 + 1 + 1) _ _)⟩
  have hst : AtPlay w0 w ((((w.alloc zb8).alloc zb8).alloc zb8).alloc zb8) M g r m (P, z8, z8) := ⟨h.grow b4 (fun i hi => .inl hi) (fun i hi => by rw [z4]; exact hi), v4, Out.ofBelow _ b4⟩
  have Hst := Lib.hid hst
  have Hl := Lib.hid hl
  have HM := Lib.hid (And.intro hMlt hMgrm)
  clear hl h b4 v4 hst hMlt hMgrm z4
  go_enter Try.func13, Try.ntmps13
  go_wp2
  go_loopw [8] (fun iv wr => ∃ j : Nat, j ≤ n ∧ j ≤ 60 ∧ iv = .int .i64 j ∧ AtPlay w0 w wr M g r m (playL (l.take j) P)) (fun iv _ => 60 - (intOf iv).toNat)
  case atStart => exact ⟨0, Nat.zero_le _, by omega, rfl, Hst.out⟩
  case round =>
    obtain ⟨j, hj, hj60, rfl, hA⟩ := hrel
    have hlen := playL_len (l.take j) P
    have hi0 : (0 : Int) ≤ j := by omega
    by_cases hgo : j < n ∧ j < 60
    · obtain ⟨hlt, hlt6⟩ := hgo
      have hi1 : (j : Int) < n := by omega
      have hi6 : (j : Int) < 60 := by omega
      have hjl : j < l.length := by rw [Hl.out.1]; exact hlt
      have hsn : playL (l.take (j + 1)) P = playS (playL (l.take j) P) l[j] := by rw [List.take_succ_eq_append_getElem hjl, playL_snoc]
      obtain ⟨b, off, rfl, hblt, hwf, e0, e1, e2⟩ := Hl.out.fields hA.1.bel hjl
      obtain ⟨x, hx⟩ : ∃ x, l[j] = x := ⟨_, rfl⟩
      rw [hx] at hsn hwf e0 e1 e2
      obtain ⟨s, hs⟩ : ∃ s, playL (l.take j) P = s := ⟨_, rfl⟩
      rw [hs] at hsn hA hlen
      have hbr := bringN_any x.at_ 8 wr (by decide) (by decide) hwf
      rw [bk_int] at hbr
      have hkk := bk_lt x.at_
      obtain ⟨kk, hkk2⟩ : ∃ kk, bk x.at_ = kk := ⟨_, rfl⟩
      rw [hkk2] at hbr hkk
      have Hbr := Lib.hid hbr
      have hend : ∀ wz, AtPlay w0 w wz M g r m (playS s x) → ∃ j' : Nat, j' ≤ n ∧ j' ≤ 60 ∧ Value.int .i64 ((j : Int) + 1) = .int .i64 j' ∧ AtPlay w0 w wz M g r m (playL (l.take j') P) := fun wz h1 => ⟨j + 1, by omega, by omega, by go_num, by rw [hsn]; exact h1⟩
      have Hend := Lib.hid hend
      have HA := Lib.hid (And.intro hA (And.intro hlen hkk2))
      have hk0 : (0 : Int) ≤ kk := by omega
      have hk1 : (kk : Int) < 8 := by omega
      have Hblt := Lib.hid (And.intro hblt e1)
      clear hA hlen hsn hend hx hs hwf hkk2 hbr hjl hblt
      cases hfl : x.fl with
      | true =>
        rw [hfl] at e2
        have e3 : playS s x = ((flushP s.1).2, s.2.2, s.2.2) := by unfold playS; rw [if_pos hfl]
        have He3 := Lib.hid e3
        clear e3 hfl e1
        go_wp2_with fail
        refine Hbr.out.mono ?_
        rintro e w' ⟨rfl, hw⟩
        obtain rfl : wr = w' := hw.symm
        go_wp2_with fail
        refine (pk_flush HA.out.1.1 _ _ rfl rfl).mono ?_
        rintro e w2 ⟨rfl, hkk1, ho⟩
        have hV := HA.out.1.2.1.out ho HM.out.1
        obtain ⟨D, hD, hDl, hDa⟩ : ∃ D, cbs s.2.2 = D ∧ D.length = 8 ∧ D.toArray.all (·.oneCell') = true := ⟨_, rfl, by rw [cbs_length]; exact HA.out.2.1.2, cbs_all _⟩
        have hBd : Blk w2 (w.heap.size + 1 + 1 + 1) 38 D := by rw [← hD]; exact hV.d
        have hid : (Try.prog.info? 38).map (·.size) = some D.toArray.size := by rw [List.size_toArray, hDl]; exact info8
        have hth : w2.there (w.heap.size + 1 + 1) 0 D.toArray.size := by
          have e := hV.c.there
          rw [cbs_length, HA.out.2.1.1] at e
          rw [show D.toArray.size = 8 from Eq.trans List.size_toArray hDl]; exact e
        have hOut : Out (fun i => i = w.heap.size + 1 + 1) w2 (w2.setCells (w.heap.size + 1 + 1) 0 D) := Out.setCells (S := fun i => i = w.heap.size + 1 + 1) (g := w.heap.size + 1 + 1) _ (fun _ => rfl) (Out.refl (fun i => i = w.heap.size + 1 + 1) w2)
        have hV2 : Vars w.heap.size (w2.setCells (w.heap.size + 1 + 1) 0 D) s.2.2 s.2.2 := by
          refine ⟨hOut.blk hV.a (by omega), hOut.blk hV.b (by omega), ?_, hOut.blk hV.d (by omega)⟩
          rw [hD]
          exact hV.c.setAll (by rw [hDl, cbs_length, HA.out.2.1.1])
        have hP2 : Pk w0 (w2.setCells (w.heap.size + 1 + 1) 0 D) (M4 M w.heap.size) g r m (flushP s.1).2 :=
          hkk1.out hOut (fun i e => .inr (by omega)) (fun e => by have := HM.out.1 g (.inl rfl); omega) (fun e => by have := HM.out.1 r (.inr (.inl rfl)); omega) (fun e => by have := HM.out.1 m (.inr (.inr rfl)); omega)
        have Hn := Lib.hid (And.intro hP2 (And.intro hV2 ((HA.out.1.2.2.trans ho fun i _ e => e).trans hOut fun i hi e => by omega)))
        have Hs := Lib.hid (And.intro hBd (And.intro hid (And.intro hth hDa)))
        clear hkk1 ho hV hBd hid hth hOut hV2 hP2 hD hDl hDa
        go_wp2_with (first
          | (refine load_row_g (by rfl) 38 _ rfl (w.heap.size + 1 + 1 + 1) rfl 38 D.toArray (0, 0) _ Hs.out.1 Try.underlying38 rfl Hs.out.2.1 ?_; simp only [Act.put])
          | (refine wpList_store_mid rfl 38 _ _ rfl (w.heap.size + 1 + 1) 0 D.toArray rfl rfl Hs.out.2.2.1 Hs.out.2.1 Hs.out.2.2.2 ?_; simp only [Act.put]))
        go_roundw
        case rel => exact Hend.out _ (by rw [He3.out]; exact ⟨Hn.out.1, Hn.out.2.1, Hn.out.2.2⟩)
        case measure => simp [intOf]; omega
      | false =>
        rw [hfl] at e2
        have e3 : playS s x = ((writeP s.1 kk (fb x.b)).2, s.2.1, s.2.2.set kk x.b) := by unfold playS; rw [if_neg (by rw [hfl]; decide), HA.out.2.2]
        have He3 := Lib.hid e3
        clear e3 hfl
        go_wp2_with fail
        refine Hbr.out.mono ?_
        rintro e w' ⟨rfl, hw⟩
        obtain rfl : wr = w' := hw.symm
        go_wp2_with fail
        refine (full_any x.b wr).mono ?_
        rintro e w2 ⟨gf, rfl, hgf, hBf, hbf⟩
        have K2 := Lib.hid (HA.out.1.1.below hbf)
        have Hf := Lib.hid (And.intro hBf (HA.out.1.1.notM hgf))
        have Hbf := Lib.hid hbf
        clear hBf hgf hbf
        go_wp2_with fail
        refine (pk_write (l := fb x.b) K2.out (kk : Int) (wf_nat (by omega)) 64 64 (by simp [fb]) (by simp [maxLen]) (BOff.ofBlk Hf.out.1 Hf.out.2) _ _ rfl rfl).mono ?_
        rintro e w3 ⟨rfl, hkk3, ho⟩
        have hV := (HA.out.1.2.1.below Hbf.out).out ho HM.out.1
        have e13 : w3.cell? ⟨b, off + j * 3 + 1, none⟩ = some (.int .u8 (x.b.toNat : Int)) := by
          have h1 := hkk3.bel.cell (p := ⟨b, off + j * 3 + 1, none⟩) Hblt.out.1
          have h2 := HA.out.1.1.bel.cell (p := ⟨b, off + j * 3 + 1, none⟩) Hblt.out.1
          exact (h1.trans h2.symm).trans Hblt.out.2
        have hl2 : kk < (cbs s.2.2).length := by rw [cbs_length, HA.out.2.1.2]; omega
        obtain ⟨u, hu⟩ : ∃ u, w3.cell? ⟨w.heap.size + 1 + 1 + 1, kk, none⟩ = some u := ⟨_, hV.d.cell (List.getElem?_eq_getElem hl2)⟩
        have hfz := hV.d.free kk
        have hOut : Out (fun i => i = w.heap.size + 1 + 1 + 1) w3 (w3.setCell ⟨w.heap.size + 1 + 1 + 1, kk, none⟩ (.int .u8 (x.b.toNat : Int))) := (Out.refl (fun i => i = w.heap.size + 1 + 1 + 1) w3).setCell (fun _ => rfl) _
        have hV2 : Vars w.heap.size (w3.setCell ⟨w.heap.size + 1 + 1 + 1, kk, none⟩ (.int .u8 (x.b.toNat : Int))) s.2.1 (s.2.2.set kk x.b) := by
          refine ⟨hOut.blk hV.a (by omega), hOut.blk hV.b (by omega), hOut.blk hV.c (by omega), ?_⟩
          have := hV.d.set_ kk (.int .u8 (x.b.toNat : Int))
          unfold cbs at this ⊢
          rw [List.map_set]
          exact this
        have hP2 : Pk w0 (w3.setCell ⟨w.heap.size + 1 + 1 + 1, kk, none⟩ (.int .u8 (x.b.toNat : Int))) (M4 M w.heap.size) g r m (writeP s.1 kk (fb x.b)).2 :=
          hkk3.out hOut (fun i e => .inr (by omega)) (fun e => by have := HM.out.1 g (.inl rfl); omega) (fun e => by have := HM.out.1 r (.inr (.inl rfl)); omega) (fun e => by have := HM.out.1 m (.inr (.inr rfl)); omega)
        have Hn := Lib.hid (And.intro hP2 (And.intro hV2 (((HA.out.1.2.2.then_below Hbf.out).trans ho fun i _ e => e).trans hOut fun i hi e => by omega)))
        clear hkk3 ho hV hOut hV2 hP2 hl2
        go_wp2
        go_roundw
        case rel => exact Hend.out _ (by rw [He3.out]; exact ⟨Hn.out.1, Hn.out.2.1, Hn.out.2.2⟩)
        case measure => simp [intOf]; omega
    · have hfin : playL (l.take j) P = playL (l.take 60) P := by
        have := Hl.out.1
        rcases Nat.lt_or_ge j 60 with h1 | h1
        · rw [List.take_of_length_le (by omega), List.take_of_length_le (by omega)]
        · rw [show j = 60 by omega]
      rw [hfin] at hA hlen
      obtain ⟨s, hs⟩ : ∃ s, playL (l.take 60) P = s := ⟨_, rfl⟩
      rw [hs] at hA hlen
      have Hs := Lib.hid hs
      obtain ⟨D, hD, hDl, hDa⟩ : ∃ D, cbs s.2.1 = D ∧ D.length = 8 ∧ D.toArray.all (·.oneCell') = true := ⟨_, rfl, by rw [cbs_length]; exact hlen.1, cbs_all _⟩
      obtain ⟨E, hE, hEl, hEa⟩ : ∃ E, cbs s.2.2 = E ∧ E.length = 8 ∧ E.toArray.all (·.oneCell') = true := ⟨_, rfl, by rw [cbs_length]; exact hlen.2, cbs_all _⟩
      have hV : Vars w.heap.size wr.drew s.2.1 s.2.2 := hA.2.1.below ((Below.refl _ _).drew)
      have hBc : Blk wr.drew (w.heap.size + 1 + 1) 38 D := by rw [← hD]; exact hV.c
      have hBd : Blk wr.drew (w.heap.size + 1 + 1 + 1) 38 E := by rw [← hE]; exact hV.d
      have hiD : (Try.prog.info? 38).map (·.size) = some D.length := by rw [hDl]; exact info8
      have hiE : (Try.prog.info? 38).map (·.size) = some E.length := by rw [hEl]; exact info8
      have hiD' : (Try.prog.info? 38).map (·.size) = some D.toArray.size := by rw [List.size_toArray, hDl]; exact info8
      have hiE' : (Try.prog.info? 38).map (·.size) = some E.toArray.size := by rw [List.size_toArray, hEl]; exact info8
      have o1 : Out (fun i => i = w.heap.size) wr.drew (wr.drew.setCells w.heap.size 0 D) := Out.setCells (S := fun i => i = w.heap.size) (g := w.heap.size) _ (fun _ => rfl) (Out.refl (fun i => i = w.heap.size) wr.drew)
      have o2 : Out (fun i => i = w.heap.size + 1) (wr.drew.setCells w.heap.size 0 D) ((wr.drew.setCells w.heap.size 0 D).setCells (w.heap.size + 1) 0 E) := Out.setCells (S := fun i => i = w.heap.size + 1) (g := w.heap.size + 1) _ (fun _ => rfl) (Out.refl (fun i => i = w.heap.size + 1) _)
      have r0 := hBc.range
      have r1 := hBd.range
      have hBc1 := o1.blk hBc (by omega)
      have hBd1 := o1.blk hBd (by omega)
      have r0' := hBc1.range
      have r1' := hBd1.range
      have r0'' := (o2.blk hBc1 (by omega)).range
      have r1'' := (o2.blk hBd1 (by omega)).range
      have t0 : wr.drew.there w.heap.size 0 D.toArray.size := by
        have e := hV.a.there
        rw [cbs_length] at e
        rw [show D.toArray.size = 8 from Eq.trans List.size_toArray hDl]; exact e
      have t1 : (wr.drew.setCells w.heap.size 0 D).there (w.heap.size + 1) 0 E.toArray.size := by
        have e := (o1.blk hV.b (by omega)).there
        rw [cbs_length] at e
        rw [show E.toArray.size = 8 from Eq.trans List.size_toArray hEl]; exact e
      have hR0 : Blk ((wr.drew.setCells w.heap.size 0 D).setCells (w.heap.size + 1) 0 E) w.heap.size 38 D := o2.blk (hV.a.setAll (by rw [hDl, cbs_length]; rfl)) (by omega)
      have hR1 : Blk ((wr.drew.setCells w.heap.size 0 D).setCells (w.heap.size + 1) 0 E) (w.heap.size + 1) 38 E := (o1.blk hV.b (by omega)).setAll (by rw [hEl, cbs_length]; rfl)
      have hg0 := HM.out.1 g (.inl rfl)
      have hr0 := HM.out.1 r (.inr (.inl rfl))
      have hm0 := HM.out.1 m (.inr (.inr rfl))
      have hP1 := (hA.1.below ((Below.refl _ _).drew)).out o1 (fun i e => .inr (by omega)) (fun e => by omega) (fun e => by omega) (fun e => by omega)
      have hP2 := hP1.out o2 (fun i e => .inr (by omega)) (fun e => by omega) (fun e => by omega) (fun e => by omega)
      have hO : Out (GRM g r m) w ((wr.drew.setCells w.heap.size 0 D).setCells (w.heap.size + 1) 0 E) := ((hA.2.2.then_below ((Below.refl _ _).drew)).trans o1 fun i hi e => by omega).trans o2 fun i hi e => by omega
      have hP3 : Pk w0 ((wr.drew.setCells w.heap.size 0 D).setCells (w.heap.size + 1) 0 E) M g r m s.1 := hP2.shrink (fun i hi => .inl hi) HM.out.2
      have Hn := Lib.hid (And.intro hR0 (And.intro hR1 (And.intro hP3 (And.intro hO (And.intro hD hE)))))
      clear hA hlen hD hDl hE hEl hV hBc hBd o1 o2 hBc1 hBd1 hR0 hR1 hP1 hP2 hO hP3 hfin hs hg0 hr0 hm0
      by_cases hlt : j < n
      · have hi1 : (j : Int) < n := by omega
        have hi6 : ¬ (j : Int) < 60 := by omega
        clear hgo
        go_wp2
        have Q0 : wr.drew.rangeAt (w.heap.size + 1 + 1) 0 D ∧ wr.drew.rangeAt (w.heap.size + 1 + 1 + 1) 0 E := ⟨r0, r1⟩
        refine wp_region_held_drew (S := fun W' => W'.rangeAt (w.heap.size + 1 + 1) 0 D ∧ W'.rangeAt (w.heap.size + 1 + 1 + 1) 0 E) (by kernel_rfl) Q0 (fun _ => ?_)
        refine anyH_load (i := 0) (d := 50) rfl rfl (by kernel_rfl) (by kernel_rfl) (by kernel_rfl) (by rfl) 38 _ rfl (w.heap.size + 1 + 1) 0 rfl D _ (fun _ h => h.1) Try.underlying38 rfl hiD (fun _ _ _ h => h) Q0 ?_
        simp only [List.setIfInBounds_toArray, List.set_cons_zero, List.set_cons_succ]
        refine anyH_load (i := 1) (d := 51) rfl rfl (by kernel_rfl) (by kernel_rfl) (by kernel_rfl) (by rfl) 38 _ rfl (w.heap.size + 1 + 1 + 1) 0 rfl E _ (fun _ h => h.2) Try.underlying38 rfl hiE (fun _ _ _ h => h) Q0 ?_
        simp only [List.setIfInBounds_toArray, List.set_cons_zero, List.set_cons_succ]
        refine anyH_one (i := 2) (by kernel_rfl) ?_
        refine op_store rfl rfl rfl 38 _ _ rfl w.heap.size 0 D.toArray rfl rfl t0 hiD' hDa ?_
        refine ⟨⟨r0', r1'⟩, ?_⟩
        refine anyH_one (i := 3) (by kernel_rfl) ?_
        refine op_store rfl rfl rfl 38 _ _ rfl (w.heap.size + 1) 0 E.toArray rfl rfl t1 hiE' hEa ?_
        refine ⟨⟨r0'', r1''⟩, ?_⟩
        refine wpAnyH_done (by kernel_rfl) ?_ _
        clear Q0
        go_wp2
        refine bodyPost_ret (results_two_rows rfl _ _ w.heap.size (w.heap.size + 1) 38 38 D.toArray E.toArray (0, 0) (0, 0) _ rfl rfl Hn.out.1 Hn.out.2.1 Try.underlying38 rfl hiD' hiE') rfl ?_
        rw [Hs.out, Hn.out.2.2.2.2.1, Hn.out.2.2.2.2.2]
        exact ⟨rfl, Hn.out.2.2.1, Hn.out.2.2.2.1⟩
      · have hi1 : ¬ (j : Int) < n := by omega
        clear hgo
        go_wp2
        have Q0 : wr.drew.rangeAt (w.heap.size + 1 + 1) 0 D ∧ wr.drew.rangeAt (w.heap.size + 1 + 1 + 1) 0 E := ⟨r0, r1⟩
        refine wp_region_held_drew (S := fun W' => W'.rangeAt (w.heap.size + 1 + 1) 0 D ∧ W'.rangeAt (w.heap.size + 1 + 1 + 1) 0 E) (by kernel_rfl) Q0 (fun _ => ?_)
        refine anyH_load (i := 0) (d := 50) rfl rfl (by kernel_rfl) (by kernel_rfl) (by kernel_rfl) (by rfl) 38 _ rfl (w.heap.size + 1 + 1) 0 rfl D _ (fun _ h => h.1) Try.underlying38 rfl hiD (fun _ _ _ h => h) Q0 ?_
        simp only [List.setIfInBounds_toArray, List.set_cons_zero, List.set_cons_succ]
        refine anyH_load (i := 1) (d := 51) rfl rfl (by kernel_rfl) (by kernel_rfl) (by kernel_rfl) (by rfl) 38 _ rfl (w.heap.size + 1 + 1 + 1) 0 rfl E _ (fun _ h => h.2) Try.underlying38 rfl hiE (fun _ _ _ h => h) Q0 ?_
        simp only [List.setIfInBounds_toArray, List.set_cons_zero, List.set_cons_succ]
        refine anyH_one (i := 2) (by kernel_rfl) ?_
        refine op_store rfl rfl rfl 38 _ _ rfl w.heap.size 0 D.toArray rfl rfl t0 hiD' hDa ?_
        refine ⟨⟨r0', r1'⟩, ?_⟩
        refine anyH_one (i := 3) (by kernel_rfl) ?_
        refine op_store rfl rfl rfl 38 _ _ rfl (w.heap.size + 1) 0 E.toArray rfl rfl t1 hiE' hEa ?_
        refine ⟨⟨r0'', r1''⟩, ?_⟩
        refine wpAnyH_done (by kernel_rfl) ?_ _
        clear Q0
        go_wp2
        refine bodyPost_ret (results_two_rows rfl _ _ w.heap.size (w.heap.size + 1) 38 38 D.toArray E.toArray (0, 0) (0, 0) _ rfl rfl Hn.out.1 Hn.out.2.1 Try.underlying38 rfl hiD' hiE') rfl ?_
        rw [Hs.out, Hn.out.2.2.2.2.1, Hn.out.2.2.2.2.2]
        exact ⟨rfl, Hn.out.2.2.1, Hn.out.2.2.2.1⟩
end Go.Proofs.Ytmncfbkeepnaiaa
