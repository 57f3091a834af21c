/-
  A ledger that is carried along: what each call makes of it.
-/
import Derived.Test.YtkmijmlcijbbcaaTagD
import Derived.Test.YtkmijmlcijbbcaaTagE
import Derived.Test.YtkmijmlcijbbcaaTagG
namespace Go.Proofs.Ytkmijmlcijbbcaa
open Go.RowKit Go.Maps
set_option linter.unusedVariables false

abbrev GM (g m : Nat) : Nat → Prop := fun i => i = g ∨ i = m
/-- A ledger that was made behind w0, and the world but for it. -/
def Ku (w0 w : World) (g m : Nat) (T : List Tg) (k : Nat) : Prop := LedAt w g m T k ∧ w0.heap.size ≤ g ∧ w0.heap.size ≤ m ∧ Below w0.heap.size w0 w
section
variable {w0 w w' : World} {g m : Nat} {T : List Tg} {k : Nat}
theorem Out.mono_ {S S' : Nat → Prop} {a b : World} (h : Out S a b) (hS : ∀ i, S i → S' i) : Out S' a b := ⟨h.os, h.tape, h.output, h.size, fun i hi hn => h.block i hi fun e => hn (hS i e)⟩
theorem Ku.bel (h : Ku w0 w g m T k) : Below w0.heap.size w0 w := h.2.2.2
theorem Ku.below (h : Ku w0 w g m T k) (hb : Below w.heap.size w w') : Ku w0 w' g m T k := ⟨h.1.below hb, h.2.1, h.2.2.1, h.2.2.2.trans (hb.mono h.2.2.2.size)⟩
theorem Ku.step {T' : List Tg} {k' : Nat} (h : Ku w0 w g m T k) (hL : LedAt w' g m T' k') (hO : Out (GM g m) w w') : Ku w0 w' g m T' k' :=
  ⟨hL, h.2.1, h.2.2.1, h.2.2.2.trans (hO.above (fun i hi => by rcases hi with rfl | rfl; exact h.2.1; exact h.2.2.1) h.2.2.2.size)⟩
/-- Another ledger's call leaves it. -/
theorem Ku.other {g' m' : Nat} {T' : List Tg} {k' : Nat} (h : Ku w0 w g m T k) (h' : Ku w0 w g' m' T' k') (hO : Out (GM g' m') w w') (hne : g ≠ g' ∧ m ≠ m') : Ku w0 w' g m T k := by
  have e1 : g ≠ m' := by
    rintro rfl
    obtain ⟨D, ⟨es, clock, hm, _⟩, _⟩ := h'.1.2
    have := h.1.1
    unfold Blk at this
    rw [hm] at this
    cases this
  have e2 : m ≠ g' := by
    rintro rfl
    obtain ⟨D, ⟨es, clock, hm, _⟩, _⟩ := h.1.2
    have := h'.1.1
    unfold Blk at this
    rw [hm] at this
    cases this
  exact ⟨h.1.out hO (fun e => by rcases e with e | e; exact hne.1 e; exact e1 e) (fun e => by rcases e with e | e; exact e2 e; exact hne.2 e), h.2.1, h.2.2.1,
    h.2.2.2.trans (hO.above (fun i hi => by rcases hi with rfl | rfl; exact h'.2.1; exact h'.2.2.1) h.2.2.2.size)⟩

theorem ku_new (w0 w : World) (hb : Below w0.heap.size w0 w) : Calls Try.prog 4 #[] w fun e w' => ∃ g m, e = .returned (.pointer (some ⟨g, 0, none⟩)) ∧ w.heap.size ≤ g ∧ w.heap.size ≤ m ∧ Ku w0 w' g m [] 0 ∧ Below w.heap.size w w' := by
  refine (new_any w).mono ?_
  rintro e w' ⟨g, m, rfl, h1, h2, h3, h4⟩
  have := hb.size
  exact ⟨g, m, rfl, h1, h2, ⟨h3, by omega, by omega, hb.trans (h4.mono hb.size)⟩, h4⟩
theorem ku_tag (f t : Int) (d : List UInt8) (D : List Value) (h : Ku w0 w g m T k) (hT : T.length < 1000000) (hf : Wf f) (ht : Wf t) (hd : d.length = 32) (hD : cbs d = D) :
    Calls Try.prog 7 #[.pointer (some ⟨g, 0, none⟩), .int .i64 f, .int .i64 t, .agg D.toArray] w fun e w' =>
      e = .returned (.int .i64 (errOf (okTag f t))) ∧ Ku w0 w' g m (tagL T f t d) k ∧ Out (GM g m) w w' := by
  refine (tag_any g m k T f t d D w h.1 hT hf ht hd hD).mono ?_
  rintro e w' ⟨rfl, h1, h2⟩
  have hO : Out (GM g m) w w' := h2.mono_ fun i hi => .inr hi
  exact ⟨rfl, h.step h1 hO, hO⟩
theorem ku_vec (f : Int) (A : Option Addr) (n c : Nat) (rs : List Int) (d : List UInt8) (D : List Value) (h : Ku w0 w g m T k) (hT : T.length < 900000) (hf : Wf f) (hA : ArgI w A n c rs) (hd : d.length = 32) (hD : cbs d = D) :
    Calls Try.prog 11 #[.pointer (some ⟨g, 0, none⟩), .int .i64 f, .slice A n c, .agg D.toArray] w fun e w' =>
      e = .returned (.int .i64 (errOf (okVec f rs))) ∧ Ku w0 w' g m (vecL T f rs d) k ∧ Out (GM g m) w w' := by
  refine (vec_any g m k T f A n c rs d D w h.1 hT hf hA hd hD).mono ?_
  rintro e w' ⟨rfl, h1, h2⟩
  have hO : Out (GM g m) w w' := h2.mono_ fun i hi => .inr hi
  exact ⟨rfl, h.step h1 hO, hO⟩
theorem ku_check (f t : Int) (d : List UInt8) (D : List Value) (h : Ku w0 w g m T k) (hk : k < 1000000) (hf : Wf f) (ht : Wf t) (hd : d.length = 32) (hD : cbs d = D) :
    Calls Try.prog 14 #[.pointer (some ⟨g, 0, none⟩), .int .i64 f, .int .i64 t, .agg D.toArray] w fun e w' =>
      e = .returned (.bool (chk T f t d)) ∧ Ku w0 w' g m T (k + 1) ∧ Out (GM g m) w w' := by
  refine (check_any g m k T f t d D w h.1 hk hf ht hd hD).mono ?_
  rintro e w' ⟨rfl, h1, h2⟩
  have hO : Out (GM g m) w w' := h2.mono_ fun i hi => .inl hi
  exact ⟨rfl, h.step h1 hO, hO⟩
/-- The digest of a byte, as the statements have it. -/
theorem ku_digest (b : UInt8) (w : World) : ∃ D : List Value, cbs (dg b) = D ∧ D.length = 32 ∧ D.toArray.all (·.oneCell') = true ∧
    ∀ w, Calls Try.prog 6 #[.int .u8 (b.toNat : Int)] w fun e w' => e = .returned (.agg D.toArray) ∧ Below w.heap.size w w' :=
  ⟨_, rfl, by rw [cbs_length, dg_len], cbs_one' _, fun w => digest_any b w⟩
theorem ku_tagE (f t : Int) (d : List UInt8) (D : List Value) (E : Int) (T' : List Tg) (h : Ku w0 w g m T k) (hT : T.length < 1000000) (hf : Wf f) (ht : Wf t) (hd : d.length = 32) (hD : cbs d = D) (hE : errOf (okTag f t) = E) (hT' : tagL T f t d = T') :
    Calls Try.prog 7 #[.pointer (some ⟨g, 0, none⟩), .int .i64 f, .int .i64 t, .agg D.toArray] w fun e w' => e = .returned (.int .i64 E) ∧ Ku w0 w' g m T' k ∧ Out (GM g m) w w' := by
  subst hE; subst hT'
  exact ku_tag f t d D h hT hf ht hd hD
theorem ku_vecE (f : Int) (A : Option Addr) (n c : Nat) (rs : List Int) (d : List UInt8) (D : List Value) (E : Int) (T' : List Tg) (h : Ku w0 w g m T k) (hT : T.length < 900000) (hf : Wf f) (hA : ArgI w A n c rs) (hd : d.length = 32) (hD : cbs d = D) (hE : errOf (okVec f rs) = E) (hT' : vecL T f rs d = T') :
    Calls Try.prog 11 #[.pointer (some ⟨g, 0, none⟩), .int .i64 f, .slice A n c, .agg D.toArray] w fun e w' => e = .returned (.int .i64 E) ∧ Ku w0 w' g m T' k ∧ Out (GM g m) w w' := by
  subst hE; subst hT'
  exact ku_vec f A n c rs d D h hT hf hA hd hD
theorem ku_checkE (f t : Int) (d : List UInt8) (D : List Value) (B : Bool) (h : Ku w0 w g m T k) (hk : k < 1000000) (hf : Wf f) (ht : Wf t) (hd : d.length = 32) (hD : cbs d = D) (hB : chk T f t d = B) :
    Calls Try.prog 14 #[.pointer (some ⟨g, 0, none⟩), .int .i64 f, .int .i64 t, .agg D.toArray] w fun e w' => e = .returned (.bool B) ∧ Ku w0 w' g m T (k + 1) ∧ Out (GM g m) w w' := by
  subst hB
  exact ku_check f t d D h hk hf ht hd hD
end

theorem Is.made (w : World) (t : TypeId) (vs : Array Value) (fr : Nat × Nat) (l : List Int) (h : vs.toList = cis l) : Is (w.alloc (.cells vs t fr)) (some ⟨w.heap.size, 0, none⟩) l := by
  refine ⟨by rw [cis_length]; simp, fun _ => ⟨w.heap.size, 0, rfl, by simp, fun j u hu => ?_⟩⟩
  rw [Nat.zero_add, cell_of_row _ _ j vs t fr (heap_alloc_new w _)]
  rw [← h] at hu
  simpa using hu
theorem ArgI.made (w : World) (t : TypeId) (vs : Array Value) (fr : Nat × Nat) (l : List Int) (n : Nat) (h : vs.toList = cis l) (hn : l.length = n) (hm : n ≤ 1000) (hw : ∀ x ∈ l, Wf x) : ArgI (w.alloc (.cells vs t fr)) (some ⟨w.heap.size, 0, none⟩) n n l :=
  ⟨hn, Nat.le_refl _, by unfold maxLen; omega, Is.made w t vs fr l h, hw⟩
theorem ArgI.none (w : World) : ArgI w none 0 0 [] := ⟨rfl, Nat.le_refl _, by simp [maxLen], Shows.empty _, fun _ h => by simp at h⟩

/-- One digest laid into a new variable. -/
theorem one_local (w3 : World) (D : List Value) (h : D.length = 32) : ∃ wS, (w3.alloc (.cells (cbs (List.replicate 32 0)).toArray 28)).setCells w3.heap.size 0 D = wS ∧
    (w3.alloc (.cells (cbs (List.replicate 32 0)).toArray 28)).there w3.heap.size 0 D.toArray.size ∧ (Try.prog.info? 28).map (·.size) = some D.toArray.size ∧
    Blk wS w3.heap.size 28 D ∧ Below w3.heap.size w3 wS ∧ wS.heap.size = w3.heap.size + 1 := by
  have hs : D.toArray.size = 32 := by rw [List.size_toArray]; exact h
  have hB : Blk (w3.alloc (.cells (cbs (List.replicate 32 0)).toArray 28)) w3.heap.size 28 (cbs (List.replicate 32 0)) := Blk.new rfl rfl
  refine ⟨_, rfl, ?_, ?_, ?_, ?_, ?_⟩
  · have e := hB.there
    rw [cbs_length, List.length_replicate] at e
    rw [hs]; exact e
  · rw [hs]; exact info32b
  · exact hB.setAll (vs := D) (by rw [h, cbs_length, List.length_replicate])
  · exact Below.setCells (Nat.le_refl _) _ ((Below.refl _ _).alloc (Nat.le_refl _) _)
  · rw [size_cells, World.size_alloc]
/-- Two. -/
theorem two_local (w3 : World) (D1 D2 : List Value) (h1 : D1.length = 32) (h2 : D2.length = 32) : ∃ wS, (((w3.alloc (.cells (cbs (List.replicate 32 0)).toArray 28)).alloc (.cells (cbs (List.replicate 32 0)).toArray 28)).setCells w3.heap.size 0 D1).setCells (w3.heap.size + 1) 0 D2 = wS ∧
    ((w3.alloc (.cells (cbs (List.replicate 32 0)).toArray 28)).alloc (.cells (cbs (List.replicate 32 0)).toArray 28)).there w3.heap.size 0 D1.toArray.size ∧
    (((w3.alloc (.cells (cbs (List.replicate 32 0)).toArray 28)).alloc (.cells (cbs (List.replicate 32 0)).toArray 28)).setCells w3.heap.size 0 D1).there (w3.heap.size + 1) 0 D2.toArray.size ∧
    (Try.prog.info? 28).map (·.size) = some D1.toArray.size ∧ (Try.prog.info? 28).map (·.size) = some D2.toArray.size ∧
    Blk wS w3.heap.size 28 D1 ∧ Blk wS (w3.heap.size + 1) 28 D2 ∧ Below w3.heap.size w3 wS := by
  have hs1 : D1.toArray.size = 32 := by rw [List.size_toArray]; exact h1
  have hs2 : D2.toArray.size = 32 := by rw [List.size_toArray]; exact h2
  have hB1 : Blk ((w3.alloc (.cells (cbs (List.replicate 32 0)).toArray 28)).alloc (.cells (cbs (List.replicate 32 0)).toArray 28)) w3.heap.size 28 (cbs (List.replicate 32 0)) := (Blk.new rfl rfl).old _
  have hB2 : Blk ((w3.alloc (.cells (cbs (List.replicate 32 0)).toArray 28)).alloc (.cells (cbs (List.replicate 32 0)).toArray 28)) (w3.heap.size + 1) 28 (cbs (List.replicate 32 0)) := Blk.new rfl (by simp)
  have hB2' := Blk.farAll (g' := w3.heap.size) (by omega) D1 (o := 0) hB2
  have hB1' := hB1.setAll (vs := D1) (by rw [h1, cbs_length, List.length_replicate])
  refine ⟨_, rfl, ?_, ?_, ?_, ?_, ?_, ?_, ?_⟩
  · have e := hB1.there
    rw [cbs_length, List.length_replicate] at e
    rw [hs1]; exact e
  · have e := hB2'.there
    rw [cbs_length, List.length_replicate] at e
    rw [hs2]; exact e
  · rw [hs1]; exact info32b
  · rw [hs2]; exact info32b
  · exact Blk.farAll (by omega) D2 hB1'
  · exact hB2'.setAll (vs := D2) (by rw [h2, cbs_length, List.length_replicate])
  · exact Below.setCells (by omega) _ (Below.setCells (Nat.le_refl _) _ (((Below.refl _ _).alloc (Nat.le_refl _) _).alloc (by simp) _))
end Go.Proofs.Ytkmijmlcijbbcaa
