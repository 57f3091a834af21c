/-
  Laid together for a hand-in: RtOf9, OfL9, Duo9, Fz10.
-/
import Derived.Test.YtcamgldilknanaaGreatZ18
import Derived.Test.YtcamgldilknanaaGreatZ14
import Derived.Test.YtcamgldilknanaaGreatZ13
import Derived.Test.YtcamgldilknanaaGreatZ15
import Derived.WideKeyArr2
import Derived.OpenShut

namespace Go.Proofs.YtcamgldilknanaaGreat

open Go.RowKit Go.Maps

set_option linter.unusedVariables false

end Go.Proofs.YtcamgldilknanaaGreat

namespace Go.Proofs.YtcamgldilknanaaGreat

open Go.RowKit Go.Maps

set_option linter.unusedVariables false

set_option maxRecDepth 100000

theorem first_long (ls : List (List UInt8)) : (∀ x ∈ ls, x.length ≤ 65535) ∨ ∃ k, ∃ h : k < ls.length, 65535 < ls[k].length ∧ ∀ j (hj : j < k), (ls[j]'(by omega)).length ≤ 65535 := by
  induction ls with
  | nil => exact .inl fun x hx => by simp at hx
  | cons y ys ih =>
    by_cases hy : y.length ≤ 65535
    · rcases ih with ih | ⟨k, h, h1, h2⟩
      · refine .inl fun x hx => ?_
        rcases List.mem_cons.1 hx with rfl | hx
        · exact hy
        · exact ih x hx
      · refine .inr ⟨k + 1, by simp; omega, by simpa using h1, fun j hj => ?_⟩
        cases j with
        | zero => simpa using hy
        | succ j => simpa using h2 j (by omega)
    · exact .inr ⟨0, by simp, by simp; omega, fun j hj => by omega⟩

section

variable (v : Value) (A : Option Addr) (n c : Nat) (w : World)

theorem two_box : Below w.heap.size w ((w.alloc (.cells #[.slice A n c] 22)).alloc (.cells (cbs (List.replicate 32 0)).toArray 42)) ∧ ((w.alloc (.cells #[.slice A n c] 22)).alloc (.cells (cbs (List.replicate 32 0)).toArray 42)).there (w.heap.size + 1) 0 (cbs (List.replicate 32 0)).toArray.size ∧
    (((w.alloc (.cells #[.slice A n c] 22)).alloc (.cells (cbs (List.replicate 32 0)).toArray 42)).setCells (w.heap.size + 1) 0 (cbs (List.replicate 32 0))).heap[w.heap.size + 1]? = some (.cells (cbs (List.replicate 32 0)).toArray 42 (0, 0)) ∧ Below w.heap.size w (((w.alloc (.cells #[.slice A n c] 22)).alloc (.cells (cbs (List.replicate 32 0)).toArray 42)).setCells (w.heap.size + 1) 0 (cbs (List.replicate 32 0))) := by
  have hb : Below w.heap.size w ((w.alloc (.cells #[.slice A n c] 22)).alloc (.cells (cbs (List.replicate 32 0)).toArray 42)) := ((Below.refl _ _).alloc (Nat.le_refl _) _).alloc (by simp) _
  have hZ : Blk ((w.alloc (.cells #[.slice A n c] 22)).alloc (.cells (cbs (List.replicate 32 0)).toArray 42)) (w.heap.size + 1) 42 (cbs (List.replicate 32 0)) := Blk.new rfl (by simp)
  exact ⟨hb, hZ.there, hZ.setAll (vs := cbs (List.replicate 32 0)) rfl, Below.setCells (by omega) _ hb⟩

end

end Go.Proofs.YtcamgldilknanaaGreat

namespace Go.Proofs.YtcamgldilknanaaGreat

open Go.RowKit Go.Maps

set_option linter.unusedVariables false

/-- The program's book is s, the document's r; both lie at B or beyond, apart, and are none of N. -/
def Duo9 (B : Nat) (w : World) (g bm : Nat) (s : Bk) (gr : Nat) (r : Lk) (N : Nat → Prop) : Prop :=
  ∃ (Sa Sr : Nat → Prop) (v : Value), BookS w Sa g bm s ∧ RefBk w Sr gr v r.1 r.2 ∧ (∀ i, Sa i → B ≤ i ∧ (i = bm ∨ IsC w i)) ∧ (∀ i, Sr i → B ≤ i ∧ IsC w i) ∧ (∀ i, Sa i → ¬ Sr i) ∧ ∀ i, N i → i < w.heap.size ∧ ¬ Sa i ∧ ¬ Sr i

/-- What both are: the same inputs. -/
def lk (s : Bk) : Lk := (s.1, s.2.2)

theorem step_lk (s : Bk) (x : List UInt8) : stepR (lk s) x = lk (stepL s x) := by
  unfold stepR lk rofL stepL ofL noteL
  by_cases hl : x.length ≤ 65536
  · rw [if_pos hl, if_pos hl]
    by_cases hx : x ∈ s.1
    · rw [if_pos hx, if_pos hx]
    · rw [if_neg hx, if_neg hx]
  · rw [if_neg hl, if_neg hl]

theorem note_lk (s : Bk) (ls : List (List UInt8)) : noteR (lk s) ls = lk (noteAll s ls) := by
  induction ls generalizing s with
  | nil => rfl
  | cons x ls ih =>
    show noteR (stepR (lk s) x) ls = lk (noteAll (stepL s x) ls)
    rw [step_lk, ih]

section

variable {B g bm gr : Nat} {w w' : World} {s s' : Bk} {r r' : Lk} {N N' : Nat → Prop}

theorem Duo9.other (h : Duo9 B w g bm s gr r N) (hz : w.heap.size ≤ w'.heap.size) (hk : ∀ i, i < w.heap.size → ¬ N i → w'.heap[i]? = w.heap[i]?) (hN : ∀ i, N' i → N i ∨ (w.heap.size ≤ i ∧ i < w'.heap.size)) : Duo9 B w' g bm s gr r N' := by
  obtain ⟨Sa, Sr, v, h1, h2, h3, h4, h5, h6⟩ := h
  have ea : ∀ i, Sa i → w'.heap[i]? = w.heap[i]? := fun i hi => hk i (h1.lt hi) fun e => (h6 i e).2.1 hi
  have er : ∀ i, Sr i → w'.heap[i]? = w.heap[i]? := fun i hi => hk i (h2.lt i hi) fun e => (h6 i e).2.2 hi
  refine ⟨Sa, Sr, v, BookM.stay h1 hz ea, h2.stay hz er, fun i hi => ⟨(h3 i hi).1, ?_⟩, fun i hi => ⟨(h4 i hi).1, ?_⟩, h5, fun i hi => ?_⟩
  · rcases (h3 i hi).2 with h | ⟨cs, t, fr, hc⟩
    · exact .inl h
    · exact .inr ⟨cs, t, fr, (ea i hi).trans hc⟩
  · obtain ⟨cs, t, fr, hc⟩ := (h4 i hi).2
    exact ⟨cs, t, fr, (er i hi).trans hc⟩
  · rcases hN i hi with h | h
    · exact ⟨Nat.lt_of_lt_of_le (h6 i h).1 hz, (h6 i h).2⟩
    · exact ⟨h.2, fun e => by have := h1.lt e; omega, fun e => by have := h2.lt i e; omega⟩

theorem Duo9.below (h : Duo9 B w g bm s gr r N) (hb : Below w.heap.size w w') : Duo9 B w' g bm s gr r N := h.other hb.size (fun i hi _ => hb.block i hi) fun i hi => .inl hi

theorem Duo9.belowN (h : Duo9 B w g bm s gr r N) (hb : Below w.heap.size w w') (hN : ∀ i, N' i → N i ∨ (w.heap.size ≤ i ∧ i < w'.heap.size)) : Duo9 B w' g bm s gr r N' := h.other hb.size (fun i hi _ => hb.block i hi) hN

theorem Duo9.less (h : Duo9 B w g bm s gr r N) (hN : ∀ i, N' i → N i) : Duo9 B w g bm s gr r N' := h.other (Nat.le_refl _) (fun _ _ _ => rfl) fun i hi => .inl (hN i hi)

theorem Duo9.lt (h : Duo9 B w g bm s gr r N) {i : Nat} (hi : N i) : i < w.heap.size := by obtain ⟨_, _, _, _, _, _, _, _, h⟩ := h; exact (h i hi).1

def Ab (B : Nat) (N : Nat → Prop) (j : Nat) : Prop := B ≤ j ∧ ¬ N j

theorem Ab.keep {i : Nat} (hi : N i) : ¬ Ab B N i := fun h => h.2 hi

theorem duo_a {F : Nat} {args : Array Value} {Q : Ending → Prop} (h : Duo9 B w g bm s gr r N) (hc : ∀ N', (∀ i, N i → N' i) → Kb B w g bm s N' → Calls Tryz.prog F args w fun e w' => Q e ∧ Kb B w' g bm s' N' ∧ Out (Tn B bm w N') w w') :
    Calls Tryz.prog F args w fun e w' => Q e ∧ Duo9 B w' g bm s' gr r N ∧ Out (Ab B N) w w' := by
  obtain ⟨Sa, Sr, v, h1, h2, h3, h4, h5, h6⟩ := h
  refine (hc (fun i => N i ∨ Sr i) (fun i hi => .inl hi) ⟨Sa, h1, h3, fun i hi => ?_⟩).mono ?_
  · rcases hi with hi | hi
    · exact ⟨(h6 i hi).1, (h6 i hi).2.1⟩
    · exact ⟨h2.lt i hi, fun e => h5 i e hi⟩
  · rintro e w' ⟨hq, ⟨Sa', k1, k2, k3⟩, hO⟩
    have er : ∀ i, Sr i → w'.heap[i]? = w.heap[i]? := fun i hi => hO.block i (h2.lt i hi) (Tn.keep (.inr hi))
    refine ⟨hq, ⟨Sa', Sr, v, k1, h2.stay hO.size er, k2, fun i hi => ⟨(h4 i hi).1, ?_⟩, fun i ha hr => (k3 i (.inr hr)).2 ha, fun i hi => ⟨Nat.lt_of_lt_of_le (h6 i hi).1 hO.size, (k3 i (.inl hi)).2, (h6 i hi).2.2⟩⟩, hO.wide fun i hi hs => ⟨hs.1, fun e => hs.2.1 (.inl e)⟩⟩
    obtain ⟨cs, t, fr, hc⟩ := (h4 i hi).2
    exact ⟨cs, t, fr, (er i hi).trans hc⟩

theorem duo_b {F : Nat} {args : Array Value} {Q : Ending → Prop} (h : Duo9 B w g bm s gr r N) (hc : ∀ N', (∀ i, N i → N' i) → Rb B w gr r N' → Calls Tryz.prog F args w fun e w' => Q e ∧ Rb B w' gr r' N' ∧ Out (Tr B w N') w w') :
    Calls Tryz.prog F args w fun e w' => Q e ∧ Duo9 B w' g bm s gr r' N ∧ Out (Ab B N) w w' := by
  obtain ⟨Sa, Sr, v, h1, h2, h3, h4, h5, h6⟩ := h
  refine (hc (fun i => N i ∨ Sa i) (fun i hi => .inl hi) ⟨Sr, v, h2, h4, fun i hi => ?_⟩).mono ?_
  · rcases hi with hi | hi
    · exact ⟨(h6 i hi).1, (h6 i hi).2.2⟩
    · exact ⟨h1.lt hi, h5 i hi⟩
  · rintro e w' ⟨hq, ⟨Sr', v', k1, k2, k3⟩, hO⟩
    have ea : ∀ i, Sa i → w'.heap[i]? = w.heap[i]? := fun i hi => hO.block i (h1.lt hi) (Tr.keep (.inr hi))
    refine ⟨hq, ⟨Sa, Sr', v', BookM.stay h1 hO.size ea, k1, fun i hi => ⟨(h3 i hi).1, ?_⟩, k2, fun i ha hr => (k3 i (.inr ha)).2 hr, fun i hi => ⟨Nat.lt_of_lt_of_le (h6 i hi).1 hO.size, (h6 i hi).2.1, (k3 i (.inl hi)).2⟩⟩, hO.wide fun i hi hs => ⟨hs.1, fun e => hs.2.1 (.inl e)⟩⟩
    rcases (h3 i hi).2 with h | ⟨cs, t, fr, hc⟩
    · exact .inl h
    · exact .inr ⟨cs, t, fr, (ea i hi).trans hc⟩

theorem duo_new {w1 w2 : World} {S : Nat → Prop} (hS : ∀ i, S i → w.heap.size ≤ i) (h : BookM w1 S g bm [] false 0) (hb1 : Below w.heap.size w w1) (hr : RefBk w2 (fun i => i = gr) gr nilS [] 0) (hg : gr = w1.heap.size) (hb2 : Below w1.heap.size w1 w2) :
    Duo9 w.heap.size w2 g bm ([], false, 0) gr ([], 0) (fun _ => False) := by
  have h1 := BookS.cells (s := ([], false, 0)) h
  have ea : ∀ i, S i → w2.heap[i]? = w1.heap[i]? := fun i hi => hb2.block i (BookM.lt h hi)
  refine ⟨_, _, _, BookM.stay h1 hb2.size fun i hi => ea i hi.1, hr.cells, fun i hi => ⟨hS i hi.1, ?_⟩, fun i hi => ⟨by have := hb1.size; omega, hi.2⟩, fun i ha hr => by have := BookM.lt h ha.1; have := hr.1; omega, fun i hi => hi.elim⟩
  rcases hi.2 with h | ⟨cs, t, fr, hc⟩
  · exact .inl h
  · exact .inr ⟨cs, t, fr, (ea i hi.1).trans hc⟩

theorem Out.ab {w1 w2 : World} {N1 : Nat → Prop} (h : Out (Ab B N) w w1) (k : Out (Ab B N1) w1 w2) (hN : ∀ i, i < w.heap.size → N i → N1 i) : Out (Ab B N) w w2 :=
  h.trans k fun i hi hs => ⟨hs.1, fun e => hs.2 (hN i hi e)⟩

/-- What a call answers: a digest, and whether it went well. -/
def Said (d : Dg) (c : Int) (e : Ending) : Prop := e = .returned (.tuple #[.agg (cbs d).toArray, .int .i64 c])

/-- Leaf, of both. -/
theorem duo_leaf (x : List UInt8) (n : Nat) (hn : x.length = n) (s : Bk) (hL : s.1.length < 1000000) (hk : s.2.2 < 1000000) : ∃ d c s', d.length = 32 ∧ s'.1.length ≤ s.1.length + 1 ∧ s'.2.2 ≤ s.2.2 + 1 ∧
    (∀ (B g bm gr : Nat) (w : World) (r : Lk) (N : Nat → Prop) (A : Option Addr) (cp : Nat), Duo9 B w g bm s gr r N → B ≤ w.heap.size → Bs w A x → n ≤ cp → cp ≤ maxLen → Calls Tryz.prog 27 #[.pointer (some ⟨g, 0, none⟩), .slice A n cp] w fun e w' => Said d c e ∧ Duo9 B w' g bm s' gr r N ∧ Out (Ab B N) w w') ∧
    (∀ (B g bm gr : Nat) (w : World) (t : Bk) (N : Nat → Prop) (A : Option Addr) (cp : Nat), Duo9 B w g bm t gr (lk s) N → B ≤ w.heap.size → Bs w A x → n ≤ cp → cp ≤ maxLen → Calls Tryz.prog 45 #[.pointer (some ⟨gr, 0, none⟩), .slice A n cp] w fun e w' => Said d c e ∧ Duo9 B w' g bm t gr (lk s') N ∧ Out (Ab B N) w w') := by
  by_cases h6 : n ≤ 65535
  · have h3 := stepL_len s (leafIn x)
    refine ⟨digest (leafIn x), 0, stepL s (leafIn x), dlen _, by omega, by omega, fun B g bm gr w r N A cp h hB hBx hc hcm => duo_a h fun N' hN hkb => leaf_kb B g bm s N' A n cp x w hkb hB hL hk hBx hn hc hcm h6, fun B g bm gr w t N A cp h hB hBx hc hcm => ?_⟩
    rw [← step_lk]
    exact duo_b h fun N' hN hrb => rleaf_any B gr (lk s) N' A n cp x w hrb hB hL hk hBx hn hc hcm h6
  · refine ⟨List.replicate 32 0, 5, s, rfl, by omega, by omega, fun B g bm gr w r N A cp h hB hBx hc hcm => (leaf_long _ A n cp w (by omega)).mono ?_, fun B g bm gr w t N A cp h hB hBx hc hcm => (rleaf_long _ A n cp w (by omega)).mono ?_⟩
    · rintro e w' ⟨rfl, hb⟩; exact ⟨rfl, h.below hb, Out.ofBelow _ hb⟩
    · rintro e w' ⟨rfl, hb⟩; exact ⟨rfl, h.below hb, Out.ofBelow _ hb⟩

/-- Up, of both. -/
theorem duo_up (ds : List Dg) (n : Nat) (hn : ds.length = n) (h32 : All32 ds) (s : Bk) (hL : s.1.length < 1000000) (hk : s.2.2 < 1000000) : ∃ d c s', d.length = 32 ∧ s'.1.length ≤ s.1.length + 1 ∧ s'.2.2 ≤ s.2.2 + 1 ∧
    (∀ (B g bm gr : Nat) (w : World) (r : Lk) (N : Nat → Prop) (A : Option Addr) (cp : Nat), Duo9 B w g bm s gr r N → B ≤ w.heap.size → Ds w A ds → n ≤ cp → cp ≤ maxLen → Calls Tryz.prog 26 #[.pointer (some ⟨g, 0, none⟩), .slice A n cp] w fun e w' => Said d c e ∧ Duo9 B w' g bm s' gr r N ∧ Out (Ab B N) w w') ∧
    (∀ (B g bm gr : Nat) (w : World) (t : Bk) (N : Nat → Prop) (A : Option Addr) (cp : Nat), Duo9 B w g bm t gr (lk s) N → B ≤ w.heap.size → Ds w A ds → n ≤ cp → cp ≤ maxLen → Calls Tryz.prog 46 #[.pointer (some ⟨gr, 0, none⟩), .slice A n cp] w fun e w' => Said d c e ∧ Duo9 B w' g bm t gr (lk s') N ∧ Out (Ab B N) w w') := by
  by_cases h6 : n < 1 ∨ 4 < n
  · refine ⟨List.replicate 32 0, 2, s, rfl, by omega, by omega, fun B g bm gr w r N A cp h hB hBx hc hcm => (up_off _ A n cp w h6).mono ?_, fun B g bm gr w t N A cp h hB hBx hc hcm => (rup_off _ A n cp w h6).mono ?_⟩
    · rintro e w' ⟨rfl, hb⟩; exact ⟨rfl, h.below hb, Out.ofBelow _ hb⟩
    · rintro e w' ⟨rfl, hb⟩; exact ⟨rfl, h.below hb, Out.ofBelow _ hb⟩
  · have h3 := stepL_len s (upIn ds)
    refine ⟨digest (upIn ds), 0, stepL s (upIn ds), dlen _, by omega, by omega, fun B g bm gr w r N A cp h hB hBx hc hcm => duo_a h fun N' hN hkb => up_kb B g bm s N' A n cp ds w hkb hB hL hk hBx h32 hn (by omega) (by omega), fun B g bm gr w t N A cp h hB hBx hc hcm => ?_⟩
    rw [← step_lk]
    exact duo_b h fun N' hN hrb => rup_any B gr (lk s) N' A n cp ds w hrb hB hL hk hBx h32 hn (by omega) (by omega)

end

end Go.Proofs.YtcamgldilknanaaGreat

namespace Go.Proofs.YtcamgldilknanaaGreat
open Go.ChangeShapes Go.WideShapes Go.ChangeAt Go.RowKit Go.Maps
set_option linter.unusedVariables false


set_option maxRecDepth 100000 in
set_option maxHeartbeats 1600000 in
theorem pfits_said (v : Value) (A : Option Addr) (m cp : Nat) (d dd : Dg) (c : Int) (hd : d.length = 32) (hdd : dd.length = 32) (Q : World → Prop) (w : World) (hQ : ∀ w1, Q w1 → Blk w1 w.heap.size 42 (cbs d))
    (hin : Calls Tryz.prog 26 #[v, .slice A m cp] (w.alloc (.cells (cbs d).toArray 42)) fun e w1 => Said dd c e ∧ Q w1) :
    Calls Tryz.prog 22 #[v, .agg (cbs d).toArray, .slice A m cp] w (FitsP Q (if c = 0 then (if dd = d then 0 else 100) else c)) := by
  obtain ⟨R, hR⟩ : ∃ R, cbs d = R := ⟨_, rfl⟩
  have hR32 : R.length = 32 := by rw [← hR, cbs_length, hd]
  obtain ⟨D, hD⟩ : ∃ D, cbs dd = D := ⟨_, rfl⟩
  have hD32 : D.length = 32 := by rw [← hD, cbs_length, hdd]
  have hD1 : D.toArray.all (·.oneCell') = true := by rw [← hD]; exact cbs_one' _
  obtain ⟨q, hq⟩ : ∃ q, (dd == d) = q := ⟨_, rfl⟩
  have heq : ∀ w' : World, (Op.equalIn 10000 42 (.agg D.toArray) (.agg R.toArray)).run Tryz.prog w' = .ok q w' := fun w' => by rw [← hq, ← hD, ← hR]; exact eq_digests w' _ _ hdd hd
  have hif : (if dd = d then (0 : Int) else 100) = if q then 0 else 100 := by rw [← hq]; by_cases e : dd = d <;> simp [e]
  rw [hif]
  unfold Said at hin
  have hsm := fun w => psame_any dd d hdd hd w
  rw [hif, hR, hD] at hsm
  have Hsm := Lib.hid hsm
  clear hsm
  rw [hD, hR] at hin
  rw [hR] at hQ ⊢
  have Hin := Lib.hid hin
  have HD := Lib.hid (And.intro hD32 (And.intro hD1 (And.intro hR32 hQ)))
  clear hin hD32 hD1 hR32 hR hD hQ hd hdd hq hif
  by_cases hc : c = 0
  · subst hc
    rw [if_pos rfl]
    cases q
    all_goals
      go_enter Tryz.func22, Tryz.ntmps22
      go_wp2_with fail
      refine Hin.out.mono ?_
      rintro e w1 ⟨rfl, hq1⟩
      obtain ⟨wS, hwS, ⟨hth, hiS⟩, hbS, hbel, hszS⟩ := dig_local w1 D HD.out.1
      have hr := HD.out.2.2.2 w1 hq1
      have hDi : (Tryz.prog.info? 42).map (·.size) = some D.length := by rw [HD.out.1]; exact info32b
      have hRi : (Tryz.prog.info? 42).map (·.size) = some R.length := by rw [HD.out.2.2.1]; exact info32b
      have hrS := (hr.below hbel hr.lt).range
      have Hs := Lib.hid (And.intro hth (And.intro hiS (And.intro HD.out.2.1 (And.intro hbS.range (And.intro hrS (And.intro hDi hRi))))))
      have HwS := Lib.hid hwS
      have H1 := Lib.hid (And.intro hq1 hbel)
      clear hwS hth hiS hbS hbel hszS hr hrS hDi hRi hq1 Hin
      go_wp2_with (first
        | (refine wpList_store_mid rfl 42 _ _ rfl w1.heap.size 0 D.toArray rfl rfl Hs.out.1 Hs.out.2.1 Hs.out.2.2.1 ?_; simp only [Act.put]; refine cast (congrArg (fun z => wpList _ _ _ _ _ z) HwS.out.symm) ?_)
        | (refine load_mid_g (by rfl) 42 _ rfl w1.heap.size 0 rfl D _ Hs.out.2.2.2.1 Tryz.underlying42 rfl Hs.out.2.2.2.2.2.1 ?_; simp only [Act.put])
        | (refine load_mid_g (by rfl) 42 _ rfl w.heap.size 0 rfl R _ Hs.out.2.2.2.2.1 Tryz.underlying42 rfl Hs.out.2.2.2.2.2.2 ?_; simp only [Act.put]))
      refine (Hsm.out _).mono ?_
      rintro e w5 ⟨rfl, hb5⟩
      have H5 := Lib.hid (H1.out.2.trans (hb5.mono H1.out.2.size))
      clear hb5
      go_wp2
      go_ret
      exact ⟨rfl, w1, H1.out.1, H5.out⟩
  · rw [if_neg hc]
    have hc2 : (c != 0) = true := by simp [hc]
    clear heq hc
    go_enter Tryz.func22, Tryz.ntmps22
    go_wp2_with fail
    refine Hin.out.mono ?_
    rintro e w1 ⟨rfl, hq1⟩
    obtain ⟨wS, hwS, ⟨hth, hiS⟩, hbS, hbel, hszS⟩ := dig_local w1 D HD.out.1
    have hr := HD.out.2.2.2 w1 hq1
    have hDi : (Tryz.prog.info? 42).map (·.size) = some D.length := by rw [HD.out.1]; exact info32b
    have hRi : (Tryz.prog.info? 42).map (·.size) = some R.length := by rw [HD.out.2.2.1]; exact info32b
    have hrS := (hr.below hbel hr.lt).range
    have Hs := Lib.hid (And.intro hth (And.intro hiS (And.intro HD.out.2.1 (And.intro hbS.range (And.intro hrS (And.intro hDi hRi))))))
    have HwS := Lib.hid hwS
    have H1 := Lib.hid (And.intro hq1 hbel)
    clear hwS hth hiS hbS hbel hszS hr hrS hDi hRi hq1 Hin
    go_wp2_with (refine wpList_store_mid rfl 42 _ _ rfl w1.heap.size 0 D.toArray rfl rfl Hs.out.1 Hs.out.2.1 Hs.out.2.2.1 ?_; simp only [Act.put]; refine cast (congrArg (fun z => wpList _ _ _ _ _ z) HwS.out.symm) ?_)
    go_ret
    exact ⟨rfl, w1, H1.out.1, H1.out.2⟩

set_option maxRecDepth 100000 in
set_option maxHeartbeats 1600000 in
theorem pleaffits_said (v : Value) (A : Option Addr) (m cp : Nat) (d dd : Dg) (c : Int) (hd : d.length = 32) (hdd : dd.length = 32) (Q : World → Prop) (w : World) (hQ : ∀ w1, Q w1 → Blk w1 w.heap.size 42 (cbs d))
    (hin : Calls Tryz.prog 27 #[v, .slice A m cp] (w.alloc (.cells (cbs d).toArray 42)) fun e w1 => Said dd c e ∧ Q w1) :
    Calls Tryz.prog 24 #[v, .agg (cbs d).toArray, .slice A m cp] w (FitsP Q (if c = 0 then (if dd = d then 0 else 100) else c)) := by
  obtain ⟨R, hR⟩ : ∃ R, cbs d = R := ⟨_, rfl⟩
  have hR32 : R.length = 32 := by rw [← hR, cbs_length, hd]
  obtain ⟨D, hD⟩ : ∃ D, cbs dd = D := ⟨_, rfl⟩
  have hD32 : D.length = 32 := by rw [← hD, cbs_length, hdd]
  have hD1 : D.toArray.all (·.oneCell') = true := by rw [← hD]; exact cbs_one' _
  obtain ⟨q, hq⟩ : ∃ q, (dd == d) = q := ⟨_, rfl⟩
  have heq : ∀ w' : World, (Op.equalIn 10000 42 (.agg D.toArray) (.agg R.toArray)).run Tryz.prog w' = .ok q w' := fun w' => by rw [← hq, ← hD, ← hR]; exact eq_digests w' _ _ hdd hd
  have hif : (if dd = d then (0 : Int) else 100) = if q then 0 else 100 := by rw [← hq]; by_cases e : dd = d <;> simp [e]
  rw [hif]
  unfold Said at hin
  have hsm := fun w => psame_any dd d hdd hd w
  rw [hif, hR, hD] at hsm
  have Hsm := Lib.hid hsm
  clear hsm
  rw [hD, hR] at hin
  rw [hR] at hQ ⊢
  have Hin := Lib.hid hin
  have HD := Lib.hid (And.intro hD32 (And.intro hD1 (And.intro hR32 hQ)))
  clear hin hD32 hD1 hR32 hR hD hQ hd hdd hq hif
  by_cases hc : c = 0
  · subst hc
    rw [if_pos rfl]
    cases q
    all_goals
      go_enter Tryz.func24, Tryz.ntmps24
      go_wp2_with fail
      refine Hin.out.mono ?_
      rintro e w1 ⟨rfl, hq1⟩
      obtain ⟨wS, hwS, ⟨hth, hiS⟩, hbS, hbel, hszS⟩ := dig_local w1 D HD.out.1
      have hr := HD.out.2.2.2 w1 hq1
      have hDi : (Tryz.prog.info? 42).map (·.size) = some D.length := by rw [HD.out.1]; exact info32b
      have hRi : (Tryz.prog.info? 42).map (·.size) = some R.length := by rw [HD.out.2.2.1]; exact info32b
      have hrS := (hr.below hbel hr.lt).range
      have Hs := Lib.hid (And.intro hth (And.intro hiS (And.intro HD.out.2.1 (And.intro hbS.range (And.intro hrS (And.intro hDi hRi))))))
      have HwS := Lib.hid hwS
      have H1 := Lib.hid (And.intro hq1 hbel)
      clear hwS hth hiS hbS hbel hszS hr hrS hDi hRi hq1 Hin
      go_wp2_with (first
        | (refine wpList_store_mid rfl 42 _ _ rfl w1.heap.size 0 D.toArray rfl rfl Hs.out.1 Hs.out.2.1 Hs.out.2.2.1 ?_; simp only [Act.put]; refine cast (congrArg (fun z => wpList _ _ _ _ _ z) HwS.out.symm) ?_)
        | (refine load_mid_g (by rfl) 42 _ rfl w1.heap.size 0 rfl D _ Hs.out.2.2.2.1 Tryz.underlying42 rfl Hs.out.2.2.2.2.2.1 ?_; simp only [Act.put])
        | (refine load_mid_g (by rfl) 42 _ rfl w.heap.size 0 rfl R _ Hs.out.2.2.2.2.1 Tryz.underlying42 rfl Hs.out.2.2.2.2.2.2 ?_; simp only [Act.put]))
      refine (Hsm.out _).mono ?_
      rintro e w5 ⟨rfl, hb5⟩
      have H5 := Lib.hid (H1.out.2.trans (hb5.mono H1.out.2.size))
      clear hb5
      go_wp2
      go_ret
      exact ⟨rfl, w1, H1.out.1, H5.out⟩
  · rw [if_neg hc]
    have hc2 : (c != 0) = true := by simp [hc]
    clear heq hc
    go_enter Tryz.func24, Tryz.ntmps24
    go_wp2_with fail
    refine Hin.out.mono ?_
    rintro e w1 ⟨rfl, hq1⟩
    obtain ⟨wS, hwS, ⟨hth, hiS⟩, hbS, hbel, hszS⟩ := dig_local w1 D HD.out.1
    have hr := HD.out.2.2.2 w1 hq1
    have hDi : (Tryz.prog.info? 42).map (·.size) = some D.length := by rw [HD.out.1]; exact info32b
    have hRi : (Tryz.prog.info? 42).map (·.size) = some R.length := by rw [HD.out.2.2.1]; exact info32b
    have hrS := (hr.below hbel hr.lt).range
    have Hs := Lib.hid (And.intro hth (And.intro hiS (And.intro HD.out.2.1 (And.intro hbS.range (And.intro hrS (And.intro hDi hRi))))))
    have HwS := Lib.hid hwS
    have H1 := Lib.hid (And.intro hq1 hbel)
    clear hwS hth hiS hbS hbel hszS hr hrS hDi hRi hq1 Hin
    go_wp2_with (refine wpList_store_mid rfl 42 _ _ rfl w1.heap.size 0 D.toArray rfl rfl Hs.out.1 Hs.out.2.1 Hs.out.2.2.1 ?_; simp only [Act.put]; refine cast (congrArg (fun z => wpList _ _ _ _ _ z) HwS.out.symm) ?_)
    go_ret
    exact ⟨rfl, w1, H1.out.1, H1.out.2⟩

set_option maxRecDepth 100000 in
set_option maxHeartbeats 1600000 in
theorem rfits_said (v : Value) (A : Option Addr) (m cp : Nat) (d dd : Dg) (c : Int) (hd : d.length = 32) (hdd : dd.length = 32) (Q : World → Prop) (w : World) (hQ : ∀ w1, Q w1 → Blk w1 w.heap.size 42 (cbs d))
    (hin : Calls Tryz.prog 46 #[v, .slice A m cp] (w.alloc (.cells (cbs d).toArray 42)) fun e w1 => Said dd c e ∧ Q w1) :
    Calls Tryz.prog 23 #[v, .agg (cbs d).toArray, .slice A m cp] w (FitsP Q (if c = 0 then (if dd = d then 0 else 100) else c)) := by
  obtain ⟨R, hR⟩ : ∃ R, cbs d = R := ⟨_, rfl⟩
  have hR32 : R.length = 32 := by rw [← hR, cbs_length, hd]
  obtain ⟨D, hD⟩ : ∃ D, cbs dd = D := ⟨_, rfl⟩
  have hD32 : D.length = 32 := by rw [← hD, cbs_length, hdd]
  have hD1 : D.toArray.all (·.oneCell') = true := by rw [← hD]; exact cbs_one' _
  obtain ⟨q, hq⟩ : ∃ q, (dd == d) = q := ⟨_, rfl⟩
  have heq : ∀ w' : World, (Op.equalIn 10000 42 (.agg D.toArray) (.agg R.toArray)).run Tryz.prog w' = .ok q w' := fun w' => by rw [← hq, ← hD, ← hR]; exact eq_digests w' _ _ hdd hd
  have hif : (if dd = d then (0 : Int) else 100) = if q then 0 else 100 := by rw [← hq]; by_cases e : dd = d <;> simp [e]
  rw [hif]
  unfold Said at hin
  rw [hD, hR] at hin
  rw [hR] at hQ ⊢
  have Hin := Lib.hid hin
  have HD := Lib.hid (And.intro hD32 (And.intro hD1 (And.intro hR32 hQ)))
  clear hin hD32 hD1 hR32 hR hD hQ hd hdd hq hif
  by_cases hc : c = 0
  · subst hc
    rw [if_pos rfl]
    cases q
    all_goals
      go_enter Tryz.func23, Tryz.ntmps23
      go_wp2_with fail
      refine Hin.out.mono ?_
      rintro e w1 ⟨rfl, hq1⟩
      obtain ⟨wS, hwS, ⟨hth, hiS⟩, hbS, hbel, hszS⟩ := dig_local w1 D HD.out.1
      have hr := HD.out.2.2.2 w1 hq1
      have hDi : (Tryz.prog.info? 42).map (·.size) = some D.length := by rw [HD.out.1]; exact info32b
      have hRi : (Tryz.prog.info? 42).map (·.size) = some R.length := by rw [HD.out.2.2.1]; exact info32b
      have hrS := (hr.below hbel hr.lt).range
      have Hs := Lib.hid (And.intro hth (And.intro hiS (And.intro HD.out.2.1 (And.intro hbS.range (And.intro hrS (And.intro hDi hRi))))))
      have HwS := Lib.hid hwS
      have H1 := Lib.hid (And.intro hq1 hbel)
      clear hwS hth hiS hbS hbel hszS hr hrS hDi hRi hq1 Hin
      go_wp2_with (first
        | (refine wpList_store_mid rfl 42 _ _ rfl w1.heap.size 0 D.toArray rfl rfl Hs.out.1 Hs.out.2.1 Hs.out.2.2.1 ?_; simp only [Act.put]; refine cast (congrArg (fun z => wpList _ _ _ _ _ z) HwS.out.symm) ?_)
        | (refine load_mid_g (by rfl) 42 _ rfl w1.heap.size 0 rfl D _ Hs.out.2.2.2.1 Tryz.underlying42 rfl Hs.out.2.2.2.2.2.1 ?_; simp only [Act.put])
        | (refine load_mid_g (by rfl) 42 _ rfl w.heap.size 0 rfl R _ Hs.out.2.2.2.2.1 Tryz.underlying42 rfl Hs.out.2.2.2.2.2.2 ?_; simp only [Act.put]))
      go_ret
      exact ⟨rfl, w1, H1.out.1, H1.out.2⟩
  · rw [if_neg hc]
    have hc2 : (c != 0) = true := by simp [hc]
    clear heq hc
    go_enter Tryz.func23, Tryz.ntmps23
    go_wp2_with fail
    refine Hin.out.mono ?_
    rintro e w1 ⟨rfl, hq1⟩
    obtain ⟨wS, hwS, ⟨hth, hiS⟩, hbS, hbel, hszS⟩ := dig_local w1 D HD.out.1
    have hr := HD.out.2.2.2 w1 hq1
    have hDi : (Tryz.prog.info? 42).map (·.size) = some D.length := by rw [HD.out.1]; exact info32b
    have hRi : (Tryz.prog.info? 42).map (·.size) = some R.length := by rw [HD.out.2.2.1]; exact info32b
    have hrS := (hr.below hbel hr.lt).range
    have Hs := Lib.hid (And.intro hth (And.intro hiS (And.intro HD.out.2.1 (And.intro hbS.range (And.intro hrS (And.intro hDi hRi))))))
    have HwS := Lib.hid hwS
    have H1 := Lib.hid (And.intro hq1 hbel)
    clear hwS hth hiS hbS hbel hszS hr hrS hDi hRi hq1 Hin
    go_wp2_with (refine wpList_store_mid rfl 42 _ _ rfl w1.heap.size 0 D.toArray rfl rfl Hs.out.1 Hs.out.2.1 Hs.out.2.2.1 ?_; simp only [Act.put]; refine cast (congrArg (fun z => wpList _ _ _ _ _ z) HwS.out.symm) ?_)
    go_ret
    exact ⟨rfl, w1, H1.out.1, H1.out.2⟩

set_option maxRecDepth 100000 in
set_option maxHeartbeats 1600000 in
theorem rleaffits_said (v : Value) (A : Option Addr) (m cp : Nat) (d dd : Dg) (c : Int) (hd : d.length = 32) (hdd : dd.length = 32) (Q : World → Prop) (w : World) (hQ : ∀ w1, Q w1 → Blk w1 w.heap.size 42 (cbs d))
    (hin : Calls Tryz.prog 45 #[v, .slice A m cp] (w.alloc (.cells (cbs d).toArray 42)) fun e w1 => Said dd c e ∧ Q w1) :
    Calls Tryz.prog 25 #[v, .agg (cbs d).toArray, .slice A m cp] w (FitsP Q (if c = 0 then (if dd = d then 0 else 100) else c)) := by
  obtain ⟨R, hR⟩ : ∃ R, cbs d = R := ⟨_, rfl⟩
  have hR32 : R.length = 32 := by rw [← hR, cbs_length, hd]
  obtain ⟨D, hD⟩ : ∃ D, cbs dd = D := ⟨_, rfl⟩
  have hD32 : D.length = 32 := by rw [← hD, cbs_length, hdd]
  have hD1 : D.toArray.all (·.oneCell') = true := by rw [← hD]; exact cbs_one' _
  obtain ⟨q, hq⟩ : ∃ q, (dd == d) = q := ⟨_, rfl⟩
  have heq : ∀ w' : World, (Op.equalIn 10000 42 (.agg D.toArray) (.agg R.toArray)).run Tryz.prog w' = .ok q w' := fun w' => by rw [← hq, ← hD, ← hR]; exact eq_digests w' _ _ hdd hd
  have hif : (if dd = d then (0 : Int) else 100) = if q then 0 else 100 := by rw [← hq]; by_cases e : dd = d <;> simp [e]
  rw [hif]
  unfold Said at hin
  rw [hD, hR] at hin
  rw [hR] at hQ ⊢
  have Hin := Lib.hid hin
  have HD := Lib.hid (And.intro hD32 (And.intro hD1 (And.intro hR32 hQ)))
  clear hin hD32 hD1 hR32 hR hD hQ hd hdd hq hif
  by_cases hc : c = 0
  · subst hc
    rw [if_pos rfl]
    cases q
    all_goals
      go_enter Tryz.func25, Tryz.ntmps25
      go_wp2_with fail
      refine Hin.out.mono ?_
      rintro e w1 ⟨rfl, hq1⟩
      obtain ⟨wS, hwS, ⟨hth, hiS⟩, hbS, hbel, hszS⟩ := dig_local w1 D HD.out.1
      have hr := HD.out.2.2.2 w1 hq1
      have hDi : (Tryz.prog.info? 42).map (·.size) = some D.length := by rw [HD.out.1]; exact info32b
      have hRi : (Tryz.prog.info? 42).map (·.size) = some R.length := by rw [HD.out.2.2.1]; exact info32b
      have hrS := (hr.below hbel hr.lt).range
      have Hs := Lib.hid (And.intro hth (And.intro hiS (And.intro HD.out.2.1 (And.intro hbS.range (And.intro hrS (And.intro hDi hRi))))))
      have HwS := Lib.hid hwS
      have H1 := Lib.hid (And.intro hq1 hbel)
      clear hwS hth hiS hbS hbel hszS hr hrS hDi hRi hq1 Hin
      go_wp2_with (first
        | (refine wpList_store_mid rfl 42 _ _ rfl w1.heap.size 0 D.toArray rfl rfl Hs.out.1 Hs.out.2.1 Hs.out.2.2.1 ?_; simp only [Act.put]; refine cast (congrArg (fun z => wpList _ _ _ _ _ z) HwS.out.symm) ?_)
        | (refine load_mid_g (by rfl) 42 _ rfl w1.heap.size 0 rfl D _ Hs.out.2.2.2.1 Tryz.underlying42 rfl Hs.out.2.2.2.2.2.1 ?_; simp only [Act.put])
        | (refine load_mid_g (by rfl) 42 _ rfl w.heap.size 0 rfl R _ Hs.out.2.2.2.2.1 Tryz.underlying42 rfl Hs.out.2.2.2.2.2.2 ?_; simp only [Act.put]))
      go_ret
      exact ⟨rfl, w1, H1.out.1, H1.out.2⟩
  · rw [if_neg hc]
    have hc2 : (c != 0) = true := by simp [hc]
    clear heq hc
    go_enter Tryz.func25, Tryz.ntmps25
    go_wp2_with fail
    refine Hin.out.mono ?_
    rintro e w1 ⟨rfl, hq1⟩
    obtain ⟨wS, hwS, ⟨hth, hiS⟩, hbS, hbel, hszS⟩ := dig_local w1 D HD.out.1
    have hr := HD.out.2.2.2 w1 hq1
    have hDi : (Tryz.prog.info? 42).map (·.size) = some D.length := by rw [HD.out.1]; exact info32b
    have hRi : (Tryz.prog.info? 42).map (·.size) = some R.length := by rw [HD.out.2.2.1]; exact info32b
    have hrS := (hr.below hbel hr.lt).range
    have Hs := Lib.hid (And.intro hth (And.intro hiS (And.intro HD.out.2.1 (And.intro hbS.range (And.intro hrS (And.intro hDi hRi))))))
    have HwS := Lib.hid hwS
    have H1 := Lib.hid (And.intro hq1 hbel)
    clear hwS hth hiS hbS hbel hszS hr hrS hDi hRi hq1 Hin
    go_wp2_with (refine wpList_store_mid rfl 42 _ _ rfl w1.heap.size 0 D.toArray rfl rfl Hs.out.1 Hs.out.2.1 Hs.out.2.2.1 ?_; simp only [Act.put]; refine cast (congrArg (fun z => wpList _ _ _ _ _ z) HwS.out.symm) ?_)
    go_ret
    exact ⟨rfl, w1, H1.out.1, H1.out.2⟩

theorem duo_fits (d : Dg) (hd : d.length = 32) (ds : List Dg) (n : Nat) (hn : ds.length = n) (h32 : All32 ds) (s : Bk) (hL : s.1.length < 1000000) (hk : s.2.2 < 1000000) : ∃ (c : Int) (s' : Bk), s'.1.length ≤ s.1.length + 1 ∧ s'.2.2 ≤ s.2.2 + 1 ∧
    (∀ (B g bm gr : Nat) (w : World) (r : Lk) (N : Nat → Prop) (A : Option Addr) (cp : Nat), Duo9 B w g bm s gr r N → B ≤ w.heap.size → Ds w A ds → n ≤ cp → cp ≤ maxLen → Calls Tryz.prog 22 #[.pointer (some ⟨g, 0, none⟩), .agg (cbs d).toArray, .slice A n cp] w fun e w' => e = .returned (.int .i64 c) ∧ Duo9 B w' g bm s' gr r N ∧ Out (Ab B N) w w') ∧
    (∀ (B g bm gr : Nat) (w : World) (t : Bk) (N : Nat → Prop) (A : Option Addr) (cp : Nat), Duo9 B w g bm t gr (lk s) N → B ≤ w.heap.size → Ds w A ds → n ≤ cp → cp ≤ maxLen → Calls Tryz.prog 23 #[.pointer (some ⟨gr, 0, none⟩), .agg (cbs d).toArray, .slice A n cp] w fun e w' => e = .returned (.int .i64 c) ∧ Duo9 B w' g bm t gr (lk s') N ∧ Out (Ab B N) w w') := by
  obtain ⟨dd, c, s', hdd, h1, h2, ha, hb⟩ := duo_up ds n hn h32 s hL hk
  have hbA : ∀ w : World, Below w.heap.size w (w.alloc (.cells (cbs d).toArray 42)) := fun w => (Below.refl _ _).alloc (Nat.le_refl _) _
  have hrA : ∀ w : World, Blk (w.alloc (.cells (cbs d).toArray 42)) w.heap.size 42 (cbs d) := fun w => Blk.new rfl rfl
  have hN : ∀ (w : World) (N : Nat → Prop) i, (N i ∨ i = w.heap.size) → N i ∨ (w.heap.size ≤ i ∧ i < (w.alloc (.cells (cbs d).toArray 42)).heap.size) := fun w N i hi => by
    rcases hi with hi | rfl
    · exact .inl hi
    · exact .inr ⟨Nat.le_refl _, by simp⟩
  refine ⟨if c = 0 then (if dd = d then 0 else 100) else c, s', h1, h2, fun B g bm gr w r N A cp h hB hD hc hcm => ?_, fun B g bm gr w t N A cp h hB hD hc hcm => ?_⟩
  · refine (pfits_said _ A n cp d dd c hd hdd (fun w1 => Duo9 B w1 g bm s' gr r (fun i => N i ∨ i = w.heap.size) ∧ Out (Ab B N) w w1 ∧ Blk w1 w.heap.size 42 (cbs d)) w (fun w1 h => h.2.2) ((ha B g bm gr _ r _ A cp (h.belowN (hbA w) (hN w N)) (Nat.le_trans hB (hbA w).size) (hD.after (hbA w)) hc hcm).mono ?_)).mono ?_
    · rintro e w1 ⟨he, hK, hO⟩
      exact ⟨he, hK, (Out.ofBelow _ (hbA w)).ab hO fun i _ hn => .inl hn, hO.blk (hrA w) (Ab.keep (.inr rfl))⟩
    · rintro e w' ⟨rfl, w1, ⟨hK, hO, _⟩, hb⟩
      exact ⟨rfl, (hK.below hb).less fun j hj => .inl hj, hO.then_below hb⟩
  · refine (rfits_said _ A n cp d dd c hd hdd (fun w1 => Duo9 B w1 g bm t gr (lk s') (fun i => N i ∨ i = w.heap.size) ∧ Out (Ab B N) w w1 ∧ Blk w1 w.heap.size 42 (cbs d)) w (fun w1 h => h.2.2) ((hb B g bm gr _ t _ A cp (h.belowN (hbA w) (hN w N)) (Nat.le_trans hB (hbA w).size) (hD.after (hbA w)) hc hcm).mono ?_)).mono ?_
    · rintro e w1 ⟨he, hK, hO⟩
      exact ⟨he, hK, (Out.ofBelow _ (hbA w)).ab hO fun i _ hn => .inl hn, hO.blk (hrA w) (Ab.keep (.inr rfl))⟩
    · rintro e w' ⟨rfl, w1, ⟨hK, hO, _⟩, hb⟩
      exact ⟨rfl, (hK.below hb).less fun j hj => .inl hj, hO.then_below hb⟩

theorem duo_leaffits (d : Dg) (hd : d.length = 32) (x : List UInt8) (n : Nat) (hn : x.length = n) (s : Bk) (hL : s.1.length < 1000000) (hk : s.2.2 < 1000000) : ∃ (c : Int) (s' : Bk), s'.1.length ≤ s.1.length + 1 ∧ s'.2.2 ≤ s.2.2 + 1 ∧
    (∀ (B g bm gr : Nat) (w : World) (r : Lk) (N : Nat → Prop) (A : Option Addr) (cp : Nat), Duo9 B w g bm s gr r N → B ≤ w.heap.size → Bs w A x → n ≤ cp → cp ≤ maxLen → Calls Tryz.prog 24 #[.pointer (some ⟨g, 0, none⟩), .agg (cbs d).toArray, .slice A n cp] w fun e w' => e = .returned (.int .i64 c) ∧ Duo9 B w' g bm s' gr r N ∧ Out (Ab B N) w w') ∧
    (∀ (B g bm gr : Nat) (w : World) (t : Bk) (N : Nat → Prop) (A : Option Addr) (cp : Nat), Duo9 B w g bm t gr (lk s) N → B ≤ w.heap.size → Bs w A x → n ≤ cp → cp ≤ maxLen → Calls Tryz.prog 25 #[.pointer (some ⟨gr, 0, none⟩), .agg (cbs d).toArray, .slice A n cp] w fun e w' => e = .returned (.int .i64 c) ∧ Duo9 B w' g bm t gr (lk s') N ∧ Out (Ab B N) w w') := by
  obtain ⟨dd, c, s', hdd, h1, h2, ha, hb⟩ := duo_leaf x n hn s hL hk
  have hbA : ∀ w : World, Below w.heap.size w (w.alloc (.cells (cbs d).toArray 42)) := fun w => (Below.refl _ _).alloc (Nat.le_refl _) _
  have hrA : ∀ w : World, Blk (w.alloc (.cells (cbs d).toArray 42)) w.heap.size 42 (cbs d) := fun w => Blk.new rfl rfl
  have hN : ∀ (w : World) (N : Nat → Prop) i, (N i ∨ i = w.heap.size) → N i ∨ (w.heap.size ≤ i ∧ i < (w.alloc (.cells (cbs d).toArray 42)).heap.size) := fun w N i hi => by
    rcases hi with hi | rfl
    · exact .inl hi
    · exact .inr ⟨Nat.le_refl _, by simp⟩
  refine ⟨if c = 0 then (if dd = d then 0 else 100) else c, s', h1, h2, fun B g bm gr w r N A cp h hB hD hc hcm => ?_, fun B g bm gr w t N A cp h hB hD hc hcm => ?_⟩
  · refine (pleaffits_said _ A n cp d dd c hd hdd (fun w1 => Duo9 B w1 g bm s' gr r (fun i => N i ∨ i = w.heap.size) ∧ Out (Ab B N) w w1 ∧ Blk w1 w.heap.size 42 (cbs d)) w (fun w1 h => h.2.2) ((ha B g bm gr _ r _ A cp (h.belowN (hbA w) (hN w N)) (Nat.le_trans hB (hbA w).size) (hD.after (hbA w)) hc hcm).mono ?_)).mono ?_
    · rintro e w1 ⟨he, hK, hO⟩
      exact ⟨he, hK, (Out.ofBelow _ (hbA w)).ab hO fun i _ hn => .inl hn, hO.blk (hrA w) (Ab.keep (.inr rfl))⟩
    · rintro e w' ⟨rfl, w1, ⟨hK, hO, _⟩, hb⟩
      exact ⟨rfl, (hK.below hb).less fun j hj => .inl hj, hO.then_below hb⟩
  · refine (rleaffits_said _ A n cp d dd c hd hdd (fun w1 => Duo9 B w1 g bm t gr (lk s') (fun i => N i ∨ i = w.heap.size) ∧ Out (Ab B N) w w1 ∧ Blk w1 w.heap.size 42 (cbs d)) w (fun w1 h => h.2.2) ((hb B g bm gr _ t _ A cp (h.belowN (hbA w) (hN w N)) (Nat.le_trans hB (hbA w).size) (hD.after (hbA w)) hc hcm).mono ?_)).mono ?_
    · rintro e w1 ⟨he, hK, hO⟩
      exact ⟨he, hK, (Out.ofBelow _ (hbA w)).ab hO fun i _ hn => .inl hn, hO.blk (hrA w) (Ab.keep (.inr rfl))⟩
    · rintro e w' ⟨rfl, w1, ⟨hK, hO, _⟩, hb⟩
      exact ⟨rfl, (hK.below hb).less fun j hj => .inl hj, hO.then_below hb⟩

set_option maxRecDepth 100000 in
theorem openDg {H : Type} {enc : TypeId × Value → H} {w : World} {r : Reach} {b0 : Nat} {v : Value} {d : DataW H} {p : List MemPlace} (hk : WideMaps.ArrKey Tryz.prog 42 5 32) (hv : Value.okWide Tryz.prog w r b0 42 v)
    (h : DataW.Trod enc Tryz.prog w 0 (fun _ => true) true 42 v d p) : ∃ l : Dg, l.length = 32 ∧ v = .agg (cbs l).toArray := by
  obtain ⟨xs, rfl, hn⟩ := WideMaps.okWide_arr hk hv
  obtain ⟨fuel, hf⟩ := h
  obtain ⟨l, hl, hx⟩ := trod_dg hf
  refine ⟨l, hl, ?_⟩
  have : xs = (cbs l).toArray := by
    apply Array.toList_inj.1
    apply List.ext_getElem?
    intro i
    have e0 : (Value.agg xs).cells.toList = xs.toList := rfl
    by_cases hi : i < 32
    · have := hx i hi
      rw [e0] at this
      rw [this]
    · rw [List.getElem?_eq_none (by simpa [hn] using hi), List.getElem?_eq_none (by rw [List.toList_toArray, cbs_length, hl]; omega)]
  rw [this]
theorem arrDg : WideMaps.ArrKey Tryz.prog 42 5 32 := ⟨Tryz.underlying42, by decide +kernel, by decide +kernel, by decide +kernel⟩
end Go.Proofs.YtcamgldilknanaaGreat
