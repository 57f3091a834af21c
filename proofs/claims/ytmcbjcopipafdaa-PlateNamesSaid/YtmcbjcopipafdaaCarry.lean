/-
  A plate that is carried along: what each call makes of it.
-/
import Derived.Test.YtmcbjcopipafdaaHelp
namespace Go.Proofs.Ytmcbjcopipafdaa
open Go.RowKit Go.Maps
set_option linter.unusedVariables false

/-- A plate that was made behind w0 (as all blocks of M), and the world but for M. -/
def Pk (w0 w : World) (M : Nat → Prop) (g r m : Nat) (P : Pl) : Prop := PlAt w M g r m P ∧ (∀ i, M i → w0.heap.size ≤ i) ∧ Below w0.heap.size w0 w
section
variable {w0 w w' : World} {M : Nat → Prop} {g r m : Nat} {P : Pl} {A : Option Addr} {l : List UInt8} {k : List Bool}
theorem Pk.bel (h : Pk w0 w M g r m P) : Below w0.heap.size w0 w := h.2.2
theorem Pk.below (h : Pk w0 w M g r m P) (hb : Below w.heap.size w w') : Pk w0 w' M g r m P := ⟨h.1.below hb, h.2.1, h.2.2.trans (hb.mono h.2.2.size)⟩
theorem Pk.grm (h : Pk w0 w M g r m P) : ∀ i, GRM g r m i → M i := fun i e => by
  rcases e with rfl | rfl | rfl
  · exact h.1.mg
  · exact h.1.mr
  · exact h.1.mm
theorem Pk.step {P' : Pl} (h : Pk w0 w M g r m P) (hL : PlAt w' M g r m P') (hO : Out (GRM g r m) w w') : Pk w0 w' M g r m P' :=
  ⟨hL, h.2.1, h.2.2.trans (hO.above (fun i hi => h.2.1 i (h.grm i hi)) h.2.2.size)⟩
/-- What another structure's call leaves. -/
theorem Pk.out {S : Nat → Prop} (h : Pk w0 w M g r m P) (hO : Out S w w') (hS : ∀ i, S i → M i) (hg : ¬ S g) (hr : ¬ S r) (hm : ¬ S m) : Pk w0 w' M g r m P :=
  ⟨h.1.out hO hS hg hr hm, h.2.1, h.2.2.trans (hO.above (fun i hi => h.2.1 i (hS i hi)) h.2.2.size)⟩
/-- A new block is none of M. -/
theorem Pk.notM (h : Pk w0 w M g r m P) {b : Nat} (hb : w.heap.size ≤ b) : ¬ M b := fun e => by have := h.1.lt b e; omega

/-- New blocks beside those of M. -/
theorem Pk.grow {M' : Nat → Prop} (h : Pk w0 w M g r m P) (hb : Below w.heap.size w w') (hM : ∀ i, M i → M' i) (hN : ∀ i, M' i → M i ∨ (w.heap.size ≤ i ∧ i < w'.heap.size)) : Pk w0 w' M' g r m P := by
  obtain ⟨kv, q1, A, c, e, a1, a2, a3⟩ := h.1.blk
  have h' := h.1.below hb
  have hz := h.2.2.size
  refine ⟨⟨h'.wl, ⟨kv, q1.below hb q1.lt, A, c, e, a1, a2, fun hl => ?_⟩, h'.row, h'.map, hM _ h.1.mg, hM _ h.1.mr, hM _ h.1.mm, fun i hi => ?_⟩, fun i hi => ?_, (h.below hb).2.2⟩
  · obtain ⟨b, off, eA, hlt, hnM, hc⟩ := a3 hl
    refine ⟨b, off, eA, Nat.lt_of_lt_of_le hlt hb.size, fun hm => ?_, fun j u hu => (hb.cell (p := ⟨b, off + j, none⟩) hlt).trans (hc j u hu)⟩
    rcases hN b hm with hm | hm
    · exact hnM hm
    · omega
  · rcases hN i hi with hi | hi
    · exact Nat.lt_of_lt_of_le (h.1.lt i hi) hb.size
    · exact hi.2
  · rcases hN i hi with hi | hi
    · exact h.2.1 i hi
    · omega
theorem Pk.shrink {M' : Nat → Prop} (h : Pk w0 w M' g r m P) (hM : ∀ i, M i → M' i) (hg : ∀ i, GRM g r m i → M i) : Pk w0 w M g r m P := by
  obtain ⟨kv, q1, A, c, e, a1, a2, a3⟩ := h.1.blk
  refine ⟨⟨h.1.wl, ⟨kv, q1, A, c, e, a1, a2, fun hl => ?_⟩, h.1.row, h.1.map, hg _ (.inl rfl), hg _ (.inr (.inl rfl)), hg _ (.inr (.inr rfl)), fun i hi => h.1.lt i (hM i hi)⟩, fun i hi => h.2.1 i (hM i hi), h.2.2⟩
  obtain ⟨b, off, eA, hlt, hnM, hc⟩ := a3 hl
  exact ⟨b, off, eA, hlt, fun hm => hnM (hM b hm), hc⟩

def MadeK (w0 : World) (n : Nat) (w : World) (e : Ending) (w' : World) : Prop := ∃ g r m, e = .returned (.tuple #[.pointer (some ⟨g, 0, none⟩), .int .i64 0]) ∧ w.heap.size ≤ g ∧ w.heap.size ≤ r ∧ w.heap.size ≤ m ∧ Pk w0 w' (GRM g r m) g r m (newP n) ∧ Below w.heap.size w w'
theorem pk_new (n : Nat) (h1 : 1 ≤ n) (h2 : n ≤ 4096) (hb : Below w0.heap.size w0 w) : Calls Try.prog 26 #[.int .i64 (n : Int)] w (MadeK w0 n w) := by
  refine (new_any n h1 h2 w).mono ?_
  rintro e w' ⟨g, r, m, rfl, q1, q2, q3, hP, hb'⟩
  have := hb.size
  refine ⟨g, r, m, rfl, q1, q2, q3, ⟨hP, fun i hi => ?_, hb.trans (hb'.mono hb.size)⟩, hb'⟩
  rcases hi with rfl | rfl | rfl <;> omega
theorem pk_write (h : Pk w0 w M g r m P) (x : Int) (hx : Wf x) (n c : Nat) (hn : l.length = n) (hnm : n ≤ maxLen) (hb : BOff w M A l) (E : Int) (P' : Pl) (hE : (writeP P x l).1 = E) (hP : (writeP P x l).2 = P') :
    Calls Try.prog 6 #[.pointer (some ⟨g, 0, none⟩), .int .i64 x, .slice A n c] w fun e w' => e = .returned (.int .i64 E) ∧ Pk w0 w' M g r m P' ∧ Out (GRM g r m) w w' := by
  subst hE; subst hP
  refine (write_any h.1 x hx n c hn hnm hb).mono ?_
  rintro e w' ⟨rfl, h1, h2⟩
  exact ⟨rfl, h.step h1 h2, h2⟩
theorem pk_flush (h : Pk w0 w M g r m P) (E : Int) (P' : Pl) (hE : (flushP P).1 = E) (hP : (flushP P).2 = P') :
    Calls Try.prog 7 #[.pointer (some ⟨g, 0, none⟩)] w fun e w' => e = .returned (.int .i64 E) ∧ Pk w0 w' M g r m P' ∧ Out (GRM g r m) w w' := by
  subst hE; subst hP
  refine (flush_any h.1).mono ?_
  rintro e w' ⟨rfl, h1, h2⟩
  exact ⟨rfl, h.step h1 h2, h2⟩
theorem pk_crash (h : Pk w0 w M g r m P) (n c : Nat) (hn : k.length = n) (hk : KOff w M (.slice A n c) k) (E : Int) (P' : Pl) (hE : (crashP P k).1 = E) (hP : (crashP P k).2 = P') :
    Calls Try.prog 10 #[.pointer (some ⟨g, 0, none⟩), .slice A n c] w fun e w' => e = .returned (.int .i64 E) ∧ Pk w0 w' M g r m P' ∧ Out (GRM g r m) w w' := by
  subst hE; subst hP
  refine (crash_any h.1 A n c hn hk).mono ?_
  rintro e w' ⟨rfl, h1, h2⟩
  exact ⟨rfl, h.step h1 h2, h2⟩
theorem pk_fail (h : Pk w0 w M g r m P) (x : Int) (hx : Wf x) (n c : Nat) (hn : k.length = n) (hk : KOff w M (.slice A n c) k) (E : Int) (P' : Pl) (hE : (failP P x k).1 = E) (hP : (failP P x k).2 = P') :
    Calls Try.prog 9 #[.pointer (some ⟨g, 0, none⟩), .int .i64 x, .slice A n c] w fun e w' => e = .returned (.int .i64 E) ∧ Pk w0 w' M g r m P' ∧ Out (GRM g r m) w w' := by
  subst hE; subst hP
  refine (fail_any h.1 x hx A n c hn hk).mono ?_
  rintro e w' ⟨rfl, h1, h2⟩
  exact ⟨rfl, h.step h1 h2, h2⟩
theorem pk_boot (h : Pk w0 w M g r m P) (P' : Pl) (hP : bootP P = P') :
    Calls Try.prog 11 #[.pointer (some ⟨g, 0, none⟩)] w fun e w' => e = .returned (.int .i64 0) ∧ Pk w0 w' M g r m P' ∧ Out (GRM g r m) w w' := by
  subst hP
  refine (boot_any h.1).mono ?_
  rintro e w' ⟨rfl, h1, h2⟩
  exact ⟨rfl, h.step h1 h2, h2⟩
theorem pk_turn (h : Pk w0 w M g r m P) (x b : Int) (hx : Wf x) (hb : Wf b) (E : Int) (P' : Pl) (hE : (turnP P x b).1 = E) (hP : (turnP P x b).2 = P') :
    Calls Try.prog 13 #[.pointer (some ⟨g, 0, none⟩), .int .i64 x, .int .i64 b] w fun e w' => e = .returned (.int .i64 E) ∧ Pk w0 w' M g r m P' ∧ Out (GRM g r m) w w' := by
  subst hE; subst hP
  refine (turn_any h.1 x b hx hb).mono ?_
  rintro e w' ⟨rfl, h1, h2⟩
  exact ⟨rfl, h.step h1 h2, h2⟩
theorem pk_dead (h : Pk w0 w M g r m P) (b : Bool) (hb : P.dead = b) : Calls Try.prog 12 #[.pointer (some ⟨g, 0, none⟩)] w fun e w' => e = .returned (.bool b) ∧ w' = w := by
  subst hb; exact dead_any h.1
theorem pk_has (h : Pk w0 w M g r m P) (x : Int) (hx : Wf x) (b : UInt8) (B : Bool) (hB : hasB P x b = B) : Calls Try.prog 30 #[.pointer (some ⟨g, 0, none⟩), .int .i64 x, .int .u8 (b.toNat : Int)] w fun e w' => e = .returned (.bool B) ∧ Below w.heap.size w w' := by
  subst hB; exact has_any h.1 x hx b
def WaitsL (w : World) (l : List Int) (e : Ending) (w' : World) : Prop := ∃ A c, e = .returned (.slice A l.length c) ∧ IsL w' A l.length c l ∧ Below w.heap.size w w' ∧ (∀ b off, 0 < l.length → A = some ⟨b, off, none⟩ → w.heap.size ≤ b)
theorem pk_waits (h : Pk w0 w M g r m P) (l : List Int) (hl : zs P.wt = l) : Calls Try.prog 8 #[.pointer (some ⟨g, 0, none⟩)] w (WaitsL w l) := by
  subst hl
  refine (waits_any h.1).mono ?_
  rintro e w' ⟨v, rfl, h1, h2⟩
  have e1 : (wk P.wt).length = (zs P.wt).length := by simp [zs]
  rw [e1] at h1
  obtain ⟨A, c, rfl, hI⟩ := IsL.ofOwn h1
  refine ⟨A, c, rfl, hI, h2, fun b off hp e => ?_⟩
  rcases h1.2 with ⟨_, hz⟩ | ⟨g', cap, cur, hv, hb, _⟩
  · omega
  · injection hv with e2
    rw [e] at e2
    injection e2 with e2
    injection e2 with e2
    omega
end
theorem IsL.made (w : World) (t : TypeId) (vs : Array Value) (l : List Int) (n : Nat) (h : vs.toList = l.map encZ) (hn : l.length = n) (hm : n ≤ 1000) : IsL (w.alloc (.cells vs t)) (some ⟨w.heap.size, 0, none⟩) n n l := by
  refine ⟨hn, Nat.le_refl _, by unfold maxLen; omega, by simp [hn], fun _ => ⟨w.heap.size, 0, rfl, by simp, fun j u hu => ?_⟩⟩
  rw [Nat.zero_add, cell_of_row _ _ j vs t (0, 0) (heap_alloc_new w _)]
  rw [← h] at hu
  simpa using hu
theorem KOff.made (w : World) (M : Nat → Prop) (t : TypeId) (vs : Array Value) (l : List Bool) (n : Nat) (h : vs.toList = cbls l) (hn : l.length = n) (hm : n ≤ 1000) (hM : ∀ i, M i → i < w.heap.size) : KOff (w.alloc (.cells vs t)) M (.slice (some ⟨w.heap.size, 0, none⟩) n n) l := by
  subst hn
  refine ⟨_, _, rfl, Nat.le_refl _, by unfold maxLen; omega, fun _ => ⟨w.heap.size, 0, rfl, by simp, fun e => by have := hM _ e; omega, fun j u hu => ?_⟩⟩
  rw [Nat.zero_add, cell_of_row _ _ j vs t (0, 0) (heap_alloc_new w _)]
  rw [← h] at hu
  simpa using hu
end Go.Proofs.Ytmcbjcopipafdaa
