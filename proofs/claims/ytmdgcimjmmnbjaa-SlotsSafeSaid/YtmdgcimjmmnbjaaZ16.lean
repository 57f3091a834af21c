/-
  Laid together for a hand-in: So14, Ar14, Tw14.
-/
import Derived.Test.YtmdgcimjmmnbjaaZ15
import Derived.Test.YtmdgcimjmmnbjaaZ01
import Derived.Deep.Slices
import Derived.Deep.Grids

namespace Go.Proofs.Ytmdgcimjmmnbjaa
open Go.Lib Go.Sort CrewP
set_option linter.unusedVariables false
set_option linter.unusedSimpArgs false

/-- A word, as it came. -/
structure WdS where
  nd : Int
  vw : Int
  sq : Int
  c : Bool
  b : UInt8
def nN (F : Int) (x : WdS) : Int := 1 + x.nd % (3 * F + 1)
def sN (x : WdS) : Int := 1 + x.sq % 8
def dN (x : WdS) : List UInt8 := dg (x.b &&& 3)
def wE (F : Int) (σ : St) (x : WdS) : Int := sayE σ x.c (nN F x) 0 (sN x) (dN x)
def wS (F : Int) (σ : St) (x : WdS) : St := sayS σ x.c (nN F x) 0 (sN x) (dN x)
theorem sN_idx {σ : St} (h : σ.low = 0) (x : WdS) : ∃ i : Nat, i < 8 ∧ idx σ (sN x) = some i ∧ sN x = (i : Int) + 1 := by
  have h0 : 0 ≤ x.sq % 8 := Int.emod_nonneg _ (by omega)
  have h1 : x.sq % 8 < 8 := Int.emod_lt_of_pos _ (by omega)
  obtain ⟨i, hi⟩ := Int.eq_ofNat_of_zero_le h0
  refine ⟨i, by omega, ?_, by unfold sN; omega⟩
  have := idx_of σ (i := i) (by omega)
  rw [h] at this
  rw [show sN x = 0 + 1 + (i : Int) by unfold sN; omega]
  exact this
theorem fol_0 {o : Option Vt} {d : List UInt8} (h : fol o ⟨0, d⟩ = 0) (hv : ∀ x, o = some x → x.v = 0) : o = none ∨ o = some ⟨0, d⟩ := by
  cases o with
  | none => exact .inl rfl
  | some x =>
    have h0 := hv x rfl
    obtain ⟨v, d'⟩ := x
    simp only at h0
    subst h0
    by_cases e : d' = d
    · right; rw [e]
    · have h2 : (if (0 : Int) < 0 then (190 : Int) else if (0 : Int) = 0 ∧ d' ≠ d then 151 else 0) = 0 := h
      rw [if_neg (by omega), if_pos ⟨rfl, e⟩] at h2
      cases h2
theorem fol_same (d : List UInt8) : fol (some ⟨0, d⟩) ⟨0, d⟩ = 0 := by unfold fol; simp
theorem cnt_mono {ns : List Int} {f : Int → Option Vt} {n : Int} (h : f n = none) (x v : Vt) : cntV ns f v ≤ cntV ns (setV f n x) v := by
  unfold cntV
  refine List.countP_mono_left fun k _ hk => ?_
  simp only [decide_eq_true_eq] at hk ⊢
  unfold setV
  by_cases e : k = n
  · rw [e, h] at hk; cases hk
  · rw [if_neg e]; exact hk
theorem setV_same {f : Int → Option Vt} {n : Int} {x : Vt} (h : f n = some x) : setV f n x = f := by
  funext k
  unfold setV
  by_cases e : k = n
  · rw [if_pos e, e, h]
  · rw [if_neg e]
/-- What stands once some words were heard and some digests proposed, all in the view 0. -/
structure OrS (σ : St) (pp : Nat → Option (List UInt8)) (fit : List WdS) : Prop where
  f : σ.f = 1
  ns : σ.ns = ndL 4
  low : σ.low = 0
  pr : ∀ j, j < 8 → ∀ n x, (σ.s j).pr n = some x ↔ ∃ w ∈ fit, w.c = false ∧ nN 1 w = n ∧ sN w = (j : Int) + 1 ∧ x = ⟨0, dN w⟩
  cm : ∀ j, j < 8 → ∀ n x, (σ.s j).cm n = some x ↔ ∃ w ∈ fit, w.c = true ∧ nN 1 w = n ∧ sN w = (j : Int) + 1 ∧ x = ⟨0, dN w⟩
  last : ∀ j, j < 8 → (σ.s j).last = (pp j).map fun d => ⟨0, d⟩
  q : ∀ j, j < 8 → (σ.s j).q = ((pp j).map fun d => (⟨0, d⟩ : Vt)).toList
  p : ∀ j, j < 8 → (σ.s j).p = if preB σ (σ.s j) = true then (σ.s j).last else none
  lead : ∀ w ∈ fit, w.c = false → nN 1 w ≠ 1
theorem OrS.fresh : OrS (fr 1) (fun _ => none) [] :=
  ⟨rfl, rfl, rfl, fun j _ n x => ⟨fun h => (by cases h), fun ⟨w, hw, _⟩ => (by cases hw)⟩, fun j _ n x => ⟨fun h => (by cases h), fun ⟨w, hw, _⟩ => (by cases hw)⟩, fun _ _ => rfl, fun _ _ => rfl, fun _ _ => rfl, fun w hw => by cases hw⟩
theorem nN_in (x : WdS) : nN 1 x ∈ ndL 4 := by
  have h0 : 0 ≤ x.nd % 4 := Int.emod_nonneg _ (by omega)
  have h1 : x.nd % 4 < 4 := Int.emod_lt_of_pos _ (by omega)
  have : nN 1 x = 1 ∨ nN 1 x = 2 ∨ nN 1 x = 3 ∨ nN 1 x = 4 := by
    unfold nN
    rw [show (3 * 1 + 1 : Int) = 4 from rfl]
    omega
  rcases this with e | e | e | e <;> rw [e] <;> decide
section
variable {σ : St} {pp : Nat → Option (List UInt8)} {fit fit' : List WdS} {x : WdS}
theorem OrS.more (h : OrS σ pp fit) (hf : ∀ y, y ∈ fit' ↔ y ∈ fit ∨ y = x) (hx : x ∈ fit) : OrS σ pp fit' := by
  have e : ∀ y, y ∈ fit' ↔ y ∈ fit := fun y => by
    rw [hf]
    exact ⟨fun h => h.elim id fun e => by rw [e]; exact hx, .inl⟩
  refine ⟨h.f, h.ns, h.low, fun j hj n v => ?_, fun j hj n v => ?_, h.last, h.q, h.p, fun w hw => h.lead w ((e w).1 hw)⟩
  · rw [h.pr j hj]
    exact ⟨fun ⟨w, hw, k⟩ => ⟨w, (e w).2 hw, k⟩, fun ⟨w, hw, k⟩ => ⟨w, (e w).1 hw, k⟩⟩
  · rw [h.cm j hj]
    exact ⟨fun ⟨w, hw, k⟩ => ⟨w, (e w).2 hw, k⟩, fun ⟨w, hw, k⟩ => ⟨w, (e w).1 hw, k⟩⟩
theorem preB_frame {σ τ : St} (h1 : σ.f = τ.f) (h2 : σ.ns = τ.ns) (y : Sq) : preB σ y = preB τ y := by unfold preB; rw [h1, h2]
theorem OrS.say (h : OrS σ pp fit) (hE : wE 1 σ x = 0) (hf : ∀ y, y ∈ fit' ↔ y ∈ fit ∨ y = x) : OrS (wS 1 σ x) pp fit' := by
  obtain ⟨i, hi, hix, hsx⟩ := sN_idx h.low x
  cases hc : x.c with
  | true =>
    have hE' : commE σ (nN 1 x) 0 (sN x) (dN x) = 0 := by unfold wE sayE at hE; rw [hc] at hE; exact hE
    have hS : wS 1 σ x = σ.set i { σ.s i with cm := setV (σ.s i).cm (nN 1 x) ⟨0, dN x⟩ } := by
      unfold wS sayS
      rw [hc, if_pos rfl]
      unfold commS
      rw [if_neg (by rw [hE']; simp), hix]
    rw [hS]
    have hs : ∀ j, (σ.set i { σ.s i with cm := setV (σ.s i).cm (nN 1 x) ⟨0, dN x⟩ }).s j = if j = i then { σ.s i with cm := setV (σ.s i).cm (nN 1 x) ⟨0, dN x⟩ } else σ.s j := fun j => rfl
    have hfo : fol ((σ.s i).cm (nN 1 x)) ⟨0, dN x⟩ = 0 := by
      unfold commE at hE'
      by_cases e1 : nN 1 x ∉ σ.ns
      · rw [if_pos e1] at hE'; cases hE'
      · rw [if_neg e1, if_neg (by decide), hix] at hE'; exact hE'
    have hold := fol_0 hfo (fun y hy => by obtain ⟨w, _, _, _, _, e⟩ := (h.cm i hi _ _).1 hy; rw [e])
    refine ⟨h.f, h.ns, h.low, fun j hj n v => ?_, fun j hj n v => ?_, fun j hj => ?_, fun j hj => ?_, fun j hj => ?_, fun w hw hwc => ?_⟩
    · have e0 : ((σ.set i { σ.s i with cm := setV (σ.s i).cm (nN 1 x) ⟨0, dN x⟩ }).s j).pr = (σ.s j).pr := by rw [hs]; split; rename_i e; rw [e]; rfl
      rw [e0, h.pr j hj]
      constructor
      · rintro ⟨w, hw, k⟩; exact ⟨w, (hf w).2 (.inl hw), k⟩
      · rintro ⟨w, hw, k1, k⟩
        rcases (hf w).1 hw with hw | rfl
        · exact ⟨w, hw, k1, k⟩
        · rw [hc] at k1; cases k1
    · by_cases e : j = i
      · subst e
        have e0 : ((σ.set j { σ.s j with cm := setV (σ.s j).cm (nN 1 x) ⟨0, dN x⟩ }).s j).cm = setV (σ.s j).cm (nN 1 x) ⟨0, dN x⟩ := by rw [hs, if_pos rfl]
        rw [e0]
        unfold setV
        by_cases en : n = nN 1 x
        · rw [if_pos en]
          constructor
          · intro k; injection k with k; exact ⟨x, (hf x).2 (.inr rfl), hc, en.symm, hsx, k.symm⟩
          · rintro ⟨w, hw, k1, k2, k3, k4⟩
            rcases (hf w).1 hw with hw | rfl
            · have h1 := (h.cm j hj n v).2 ⟨w, hw, k1, k2, k3, k4⟩
              rw [en] at h1
              rcases hold with h2 | h2
              · rw [h2] at h1; cases h1
              · rw [h2] at h1; exact h1
            · rw [k4]
        · rw [if_neg en, h.cm j hj]
          constructor
          · rintro ⟨w, hw, k⟩; exact ⟨w, (hf w).2 (.inl hw), k⟩
          · rintro ⟨w, hw, k1, k2, k⟩
            rcases (hf w).1 hw with hw | rfl
            · exact ⟨w, hw, k1, k2, k⟩
            · exact absurd k2.symm en
      · have e0 : ((σ.set i { σ.s i with cm := setV (σ.s i).cm (nN 1 x) ⟨0, dN x⟩ }).s j).cm = (σ.s j).cm := by rw [hs, if_neg e]
        rw [e0, h.cm j hj]
        constructor
        · rintro ⟨w, hw, k⟩; exact ⟨w, (hf w).2 (.inl hw), k⟩
        · rintro ⟨w, hw, k1, k2, k3, k⟩
          rcases (hf w).1 hw with hw | rfl
          · exact ⟨w, hw, k1, k2, k3, k⟩
          · exact absurd (by omega) e
    · rw [hs]; split; rename_i e; rw [e]; exact h.last i hi; exact h.last j hj
    · rw [hs]; split; rename_i e; rw [e]; exact h.q i hi; exact h.q j hj
    · rw [hs]
      split
      · exact h.p i hi
      · exact h.p j hj
    · rcases (hf w).1 hw with hw | rfl
      · exact h.lead w hw hwc
      · rw [hc] at hwc; cases hwc
  | false =>
    have hE' : prepE σ (nN 1 x) 0 (sN x) (dN x) = 0 := by unfold wE sayE at hE; rw [hc] at hE; exact hE
    obtain ⟨y, hy⟩ : ∃ y : Sq, { σ.s i with pr := setV (σ.s i).pr (nN 1 x) ⟨0, dN x⟩ } = y := ⟨_, rfl⟩
    have hS : wS 1 σ x = σ.set i (lookS σ y) := by
      unfold wS sayS
      rw [hc, if_neg (by simp)]
      unfold prepS
      rw [if_neg (by rw [hE']; simp), hix, ← hy]
    have hlead : leadO σ 0 = 1 := by unfold leadO; rw [h.ns]; rfl
    obtain ⟨hfo, hne⟩ : fol ((σ.s i).pr (nN 1 x)) ⟨0, dN x⟩ = 0 ∧ nN 1 x ≠ 1 := by
      unfold prepE at hE'
      by_cases e1 : nN 1 x ∉ σ.ns
      · rw [if_pos e1] at hE'; cases hE'
      · rw [if_neg e1, if_neg (by decide), hlead] at hE'
        by_cases e2 : nN 1 x = 1
        · rw [if_pos e2] at hE'; cases hE'
        · rw [if_neg e2, hix] at hE'; exact ⟨hE', e2⟩
    have hold := fol_0 hfo (fun y hy => by obtain ⟨w, _, _, _, _, e⟩ := (h.pr i hi _ _).1 hy; rw [e])
    have hmono : preB σ (σ.s i) = true → preB σ y = true := fun k => by
      rw [← hy]
      unfold preB at k ⊢
      simp only at k ⊢
      cases hl : (σ.s i).last with
      | none => rw [hl] at k; cases k
      | some v =>
        rw [hl] at k
        simp only [decide_eq_true_eq] at k ⊢
        rcases hold with e | e
        · have := cnt_mono (ns := σ.ns) e ⟨0, dN x⟩ v; omega
        · rw [setV_same e]; exact k
    rw [hS]
    have hs : ∀ j, (σ.set i (lookS σ y)).s j = if j = i then lookS σ y else σ.s j := fun j => rfl
    have ylast : (lookS σ y).last = (σ.s i).last := by unfold lookS; split <;> rw [← hy]
    have yq : (lookS σ y).q = (σ.s i).q := by unfold lookS; split <;> rw [← hy]
    have ycm : (lookS σ y).cm = (σ.s i).cm := by unfold lookS; split <;> rw [← hy]
    have ypr : (lookS σ y).pr = setV (σ.s i).pr (nN 1 x) ⟨0, dN x⟩ := by unfold lookS; split <;> rw [← hy]
    refine ⟨h.f, h.ns, h.low, fun j hj n v => ?_, fun j hj n v => ?_, fun j hj => ?_, fun j hj => ?_, fun j hj => ?_, fun w hw hwc => ?_⟩
    · by_cases e : j = i
      · subst e
        rw [hs, if_pos rfl, ypr]
        unfold setV
        by_cases en : n = nN 1 x
        · rw [if_pos en]
          constructor
          · intro k; injection k with k; exact ⟨x, (hf x).2 (.inr rfl), hc, en.symm, hsx, k.symm⟩
          · rintro ⟨w, hw, k1, k2, k3, k4⟩
            rcases (hf w).1 hw with hw | rfl
            · have h1 := (h.pr j hj n v).2 ⟨w, hw, k1, k2, k3, k4⟩
              rw [en] at h1
              rcases hold with h2 | h2
              · rw [h2] at h1; cases h1
              · rw [h2] at h1; exact h1
            · rw [k4]
        · rw [if_neg en, h.pr j hj]
          constructor
          · rintro ⟨w, hw, k⟩; exact ⟨w, (hf w).2 (.inl hw), k⟩
          · rintro ⟨w, hw, k1, k2, k⟩
            rcases (hf w).1 hw with hw | rfl
            · exact ⟨w, hw, k1, k2, k⟩
            · exact absurd k2.symm en
      · rw [hs, if_neg e, h.pr j hj]
        constructor
        · rintro ⟨w, hw, k⟩; exact ⟨w, (hf w).2 (.inl hw), k⟩
        · rintro ⟨w, hw, k1, k2, k3, k⟩
          rcases (hf w).1 hw with hw | rfl
          · exact ⟨w, hw, k1, k2, k3, k⟩
          · exact absurd (by omega) e
    · have e0 : ((σ.set i (lookS σ y)).s j).cm = (σ.s j).cm := by rw [hs]; split; rename_i e; rw [ycm, e]; rfl
      rw [e0, h.cm j hj]
      constructor
      · rintro ⟨w, hw, k⟩; exact ⟨w, (hf w).2 (.inl hw), k⟩
      · rintro ⟨w, hw, k1, k⟩
        rcases (hf w).1 hw with hw | rfl
        · exact ⟨w, hw, k1, k⟩
        · rw [hc] at k1; cases k1
    · rw [hs]; split; rename_i e; rw [e, ylast]; exact h.last i hi; exact h.last j hj
    · rw [hs]; split; rename_i e; rw [e, yq]; exact h.q i hi; exact h.q j hj
    · rw [hs]
      split
      · have e1 : preB (σ.set i (lookS σ y)) (lookS σ y) = preB σ y := by
          rw [preB_frame (σ := σ.set i (lookS σ y)) (τ := σ) rfl rfl]
          have y1 : y.last = (σ.s i).last := by rw [← hy]
          have y2 : y.pr = setV (σ.s i).pr (nN 1 x) ⟨0, dN x⟩ := by rw [← hy]
          unfold preB
          rw [ylast, ypr, y1, y2]
        rw [e1, ylast]
        by_cases k : preB σ y = true
        · rw [if_pos k]
          unfold lookS
          rw [if_pos k, ← hy]
        · have k0 : ¬ preB σ (σ.s i) = true := fun e => k (hmono e)
          rw [if_neg k]
          unfold lookS
          rw [if_neg k, ← hy]
          have := h.p i hi
          rw [if_neg k0] at this
          exact this
      · rw [preB_frame (σ := σ.set i (lookS σ y)) (τ := σ) rfl rfl]
        exact h.p j hj
    · rcases (hf w).1 hw with hw | rfl
      · exact h.lead w hw hwc
      · exact hne
/-- A digest is proposed where none was. -/
theorem OrS.prop (h : OrS σ pp fit) {i : Nat} (hi : i < 8) (hn : pp i = none) (d : List UInt8) : OrS (propS σ 0 (1 + (i : Int)) d) (fun j => if j = i then some d else pp j) fit := by
  have hix : idx σ (1 + (i : Int)) = some i := by
    have := idx_of σ (i := i) hi
    rw [h.low] at this
    rw [show 1 + (i : Int) = 0 + 1 + (i : Int) by omega]
    exact this
  have hl := h.last i hi
  have hq := h.q i hi
  have hp := h.p i hi
  rw [hn] at hl hq
  have hl' : (σ.s i).last = none := hl
  have hq' : (σ.s i).q = [] := hq
  have hp' : (σ.s i).p = none := by
    rw [hp, if_neg]
    unfold preB
    rw [hl']
    simp
  have hE : propE σ 0 (1 + (i : Int)) d = 0 := by
    unfold propE
    rw [if_neg (by decide), hix]
    show fol (σ.s i).last _ = 0
    rw [hl']; rfl
  obtain ⟨y, hy⟩ : ∃ y, propSq (σ.s i) ⟨0, d⟩ = y := ⟨_, rfl⟩
  have hS : propS σ 0 (1 + (i : Int)) d = σ.set i (lookS σ y) := by
    unfold propS
    rw [if_neg (by rw [hE]; simp), hix, ← hy]
  rw [hS]
  have hs : ∀ j, (σ.set i (lookS σ y)).s j = if j = i then lookS σ y else σ.s j := fun j => rfl
  have ylast : (lookS σ y).last = some ⟨0, d⟩ := by unfold lookS; split <;> rw [← hy] <;> rfl
  have yq : (lookS σ y).q = [⟨0, d⟩] := by
    have : y.q = [⟨0, d⟩] := by rw [← hy]; show qPut (σ.s i).q _ = _; rw [hq']; rfl
    unfold lookS; split <;> exact this
  have ycm : (lookS σ y).cm = (σ.s i).cm := by unfold lookS; split <;> rw [← hy] <;> rfl
  have ypr : (lookS σ y).pr = (σ.s i).pr := by unfold lookS; split <;> rw [← hy] <;> rfl
  refine ⟨h.f, h.ns, h.low, fun j hj n v => ?_, fun j hj n v => ?_, fun j hj => ?_, fun j hj => ?_, fun j hj => ?_, h.lead⟩
  · have e0 : ((σ.set i (lookS σ y)).s j).pr = (σ.s j).pr := by rw [hs]; split; rename_i e; rw [ypr, e]; rfl
    rw [e0]; exact h.pr j hj n v
  · have e0 : ((σ.set i (lookS σ y)).s j).cm = (σ.s j).cm := by rw [hs]; split; rename_i e; rw [ycm, e]; rfl
    rw [e0]; exact h.cm j hj n v
  · rw [hs]
    by_cases e : j = i
    · rw [if_pos e, if_pos e, ylast]; rfl
    · rw [if_neg e, if_neg e]; exact h.last j hj
  · rw [hs]
    by_cases e : j = i
    · rw [if_pos e, if_pos e, yq]; rfl
    · rw [if_neg e, if_neg e]; exact h.q j hj
  · rw [hs, preB_frame (σ := σ.set i (lookS σ y)) (τ := σ) rfl rfl]
    by_cases e : j = i
    · rw [if_pos e]
      have e1 : preB σ (lookS σ y) = preB σ y := by
        have : y.last = some ⟨0, d⟩ := by rw [← hy]; rfl
        have h2 : y.pr = (σ.s i).pr := by rw [← hy]; rfl
        unfold preB
        rw [ylast, ypr, this, h2]
      rw [e1, ylast]
      by_cases k : preB σ y = true
      · rw [if_pos k]
        unfold lookS
        rw [if_pos k, ← hy]
        rfl
      · rw [if_neg k]
        unfold lookS
        rw [if_neg k, ← hy]
        exact hp'
    · rw [if_neg e]; exact h.p j hj
/-- All numbers. -/
theorem OrS.props (h : OrS σ (fun _ => none) fit) (l : List UInt8) : ∀ i, i ≤ 8 → OrS (prS σ 0 l i) (fun j => if j < i then some (dg ((l.getD j 0) &&& 3)) else none) fit
  | 0, _ => by
    have e : (fun j => if j < 0 then some (dg ((l.getD j 0) &&& 3)) else none) = fun _ => (none : Option (List UInt8)) := by funext j; simp
    rw [e]; exact h
  | i + 1, hi => by
    have ih := OrS.props h l i (by omega)
    have h2 := ih.prop (i := i) (by omega) (by simp) (dg ((l.getD i 0) &&& 3))
    have e : (fun j => if j = i then some (dg ((l.getD i 0) &&& 3)) else if j < i then some (dg ((l.getD j 0) &&& 3)) else none) = fun j => if j < i + 1 then some (dg ((l.getD j 0) &&& 3)) else none := by
      funext j
      by_cases e : j = i
      · rw [if_pos e, if_pos (by omega), e]
      · rw [if_neg e]
        by_cases e2 : j < i
        · rw [if_pos e2, if_pos (by omega)]
        · rw [if_neg e2, if_neg (by omega)]
    rw [e] at h2
    exact h2
end
/-- What was taken once is taken again, of slots that have less. -/
theorem OrS.again {a b : St} {pa pb : Nat → Option (List UInt8)} {fa fb : List WdS} (ha : OrS a pa fa) (hb : OrS b pb fb) (hs : ∀ y ∈ fb, y ∈ fa) {x : WdS} (hx : x ∈ fa) : wE 1 b x = 0 := by
  obtain ⟨i, hi, hix, hsx⟩ := sN_idx hb.low x
  have hin : ¬ nN 1 x ∉ b.ns := fun h => h (by rw [hb.ns]; exact nN_in x)
  unfold wE sayE
  cases hc : x.c with
  | true =>
    rw [if_pos rfl]
    unfold commE
    rw [if_neg hin, if_neg (by decide), hix]
    show fol ((b.s i).cm (nN 1 x)) _ = 0
    cases e : (b.s i).cm (nN 1 x) with
    | none => rfl
    | some v =>
      obtain ⟨w, hw, k1, k2, k3, k4⟩ := (hb.cm i hi _ _).1 e
      have h1 := (ha.cm i hi _ _).2 ⟨w, hs w hw, k1, k2, k3, k4⟩
      have h2 := (ha.cm i hi _ _).2 ⟨x, hx, hc, rfl, hsx, rfl⟩
      rw [h1] at h2
      injection h2 with h2
      rw [h2]
      exact fol_same _
  | false =>
    rw [if_neg (by simp)]
    unfold prepE
    have hlead : leadO b 0 = 1 := by unfold leadO; rw [hb.ns]; rfl
    rw [if_neg hin, if_neg (by decide), hlead, if_neg (ha.lead x hx hc), hix]
    show fol ((b.s i).pr (nN 1 x)) _ = 0
    cases e : (b.s i).pr (nN 1 x) with
    | none => rfl
    | some v =>
      obtain ⟨w, hw, k1, k2, k3, k4⟩ := (hb.pr i hi _ _).1 e
      have h1 := (ha.pr i hi _ _).2 ⟨w, hs w hw, k1, k2, k3, k4⟩
      have h2 := (ha.pr i hi _ _).2 ⟨x, hx, hc, rfl, hsx, rfl⟩
      rw [h1] at h2
      injection h2 with h2
      rw [h2]
      exact fol_same _
/-- The same words, the same proposals: the same slots. -/
theorem OrS.eq {a b : St} {pp : Nat → Option (List UInt8)} {fa fb : List WdS} (ha : OrS a pp fa) (hb : OrS b pp fb) (hs : ∀ y, y ∈ fb ↔ y ∈ fa) : a.f = b.f ∧ a.ns = b.ns ∧ a.low = b.low ∧ ∀ j, j < 8 → a.s j = b.s j := by
  refine ⟨ha.f.trans hb.f.symm, ha.ns.trans hb.ns.symm, ha.low.trans hb.low.symm, fun j hj => ?_⟩
  have e1 : (a.s j).pr = (b.s j).pr := by
    funext n
    refine Option.ext fun v => ?_
    rw [ha.pr j hj, hb.pr j hj]
    exact ⟨fun ⟨w, hw, k⟩ => ⟨w, (hs w).2 hw, k⟩, fun ⟨w, hw, k⟩ => ⟨w, (hs w).1 hw, k⟩⟩
  have e2 : (a.s j).cm = (b.s j).cm := by
    funext n
    refine Option.ext fun v => ?_
    rw [ha.cm j hj, hb.cm j hj]
    exact ⟨fun ⟨w, hw, k⟩ => ⟨w, (hs w).2 hw, k⟩, fun ⟨w, hw, k⟩ => ⟨w, (hs w).1 hw, k⟩⟩
  have e3 : (a.s j).last = (b.s j).last := by rw [ha.last j hj, hb.last j hj]
  have e4 : (a.s j).q = (b.s j).q := by rw [ha.q j hj, hb.q j hj]
  have e5 : preB a (a.s j) = preB b (b.s j) := by unfold preB; rw [ha.f, hb.f, ha.ns, hb.ns, e3, e1]
  have e6 : (a.s j).p = (b.s j).p := by rw [ha.p j hj, hb.p j hj, e5, e3]
  cases h1 : a.s j with
  | mk l1 p1 q1 r1 c1 =>
    cases h2 : b.s j with
    | mk l2 p2 q2 r2 c2 =>
      rw [h1, h2] at e1 e2 e3 e4 e6
      simp only at e1 e2 e3 e4 e6
      subst e1 e2 e3 e4 e6
      rfl
theorem same_pre {a b : St} (h : a.f = b.f ∧ a.ns = b.ns ∧ a.low = b.low ∧ ∀ j, j < 8 → a.s j = b.s j) (seq : Int) : preS a seq = preS b seq ∧ comS a seq = comS b seq := by
  obtain ⟨h1, h2, h3, h4⟩ := h
  have e : idx a seq = idx b seq := by unfold idx; rw [h3]
  unfold preS comS
  rw [e]
  cases hi : idx b seq with
  | none => exact ⟨rfl, rfl⟩
  | some i =>
    simp only
    rw [h4 i (idx_lt hi).1]
    unfold comB preB
    rw [h1, h2]
    exact ⟨rfl, rfl⟩
theorem same_all {a b : St} (h : a.f = b.f ∧ a.ns = b.ns ∧ a.low = b.low ∧ ∀ j, j < 8 → a.s j = b.s j) : (List.range 8).flatMap (pTs a) = (List.range 8).flatMap (pTs b) ∧ (List.range 8).flatMap (qTs a) = (List.range 8).flatMap (qTs b) := by
  obtain ⟨h1, h2, h3, h4⟩ := h
  have hp : ∀ j, j < 8 → pTs a j = pTs b j ∧ qTs a j = qTs b j := fun j hj => by
    unfold pTs qTs
    rw [h4 j hj, h3]
    exact ⟨rfl, rfl⟩
  have hc : ∀ (f g : Nat → List SdT), (∀ j, j < 8 → f j = g j) → (List.range 8).flatMap f = (List.range 8).flatMap g := fun f g h => by
    have e : List.range 8 = [0, 1, 2, 3, 4, 5, 6, 7] := rfl
    rw [e]
    simp only [List.flatMap_cons, List.flatMap_nil, h 0 (by omega), h 1 (by omega), h 2 (by omega), h 3 (by omega), h 4 (by omega), h 5 (by omega), h 6 (by omega), h 7 (by omega)]
  exact ⟨hc _ _ fun j hj => (hp j hj).1, hc _ _ fun j hj => (hp j hj).2⟩

/-! ### Two replicas -/
theorem overlap (P Q : Int → Bool) : ∀ l : List Int, l.countP P + l.countP Q ≤ l.length + l.countP fun n => P n && Q n
  | [] => by simp
  | n :: l => by
    have ih := overlap P Q l
    rw [List.countP_cons, List.countP_cons, List.countP_cons, List.length_cons]
    cases h1 : P n <;> cases h2 : Q n <;> simp <;> omega
/-- Two replicas of a crew, whose correct nodes tell both the same. -/
structure SfS (F : Nat) (a b : St) : Prop where
  fa : a.f = F
  fb : b.f = F
  na : a.ns = ndL (3 * F + 1)
  nb : b.ns = ndL (3 * F + 1)
  la : a.low = 0
  lb : b.low = 0
  pr : ∀ j, j < 8 → ∀ n, (F : Int) < n → (a.s j).pr n = (b.s j).pr n
  cm : ∀ j, j < 8 → ∀ n, (F : Int) < n → (a.s j).cm n = (b.s j).cm n
  pa : ∀ j, j < 8 → (a.s j).pr 1 = none
  pb : ∀ j, j < 8 → (b.s j).pr 1 = none
theorem SfS.swap {F : Nat} {a b : St} (h : SfS F a b) : SfS F b a := ⟨h.fb, h.fa, h.nb, h.na, h.lb, h.la, fun j hj n hn => (h.pr j hj n hn).symm, fun j hj n hn => (h.cm j hj n hn).symm, h.pb, h.pa⟩
theorem SfS.fresh (F : Nat) : SfS F (fr F) (fr F) := ⟨rfl, rfl, rfl, rfl, rfl, rfl, fun _ _ _ _ => rfl, fun _ _ _ _ => rfl, fun _ _ => rfl, fun _ _ => rfl⟩
/-- What turns in a slot when a word is taken. -/
structure Tk (F : Nat) (a a' : St) (x : WdS) (i : Nat) : Prop where
  f : a'.f = a.f
  ns : a'.ns = a.ns
  low : a'.low = a.low
  pr : ∀ j, (a'.s j).pr = if j = i ∧ x.c = false then setV (a.s j).pr (nN F x) ⟨0, dN x⟩ else (a.s j).pr
  cm : ∀ j, (a'.s j).cm = if j = i ∧ x.c = true then setV (a.s j).cm (nN F x) ⟨0, dN x⟩ else (a.s j).cm
theorem look_prcm (σ : St) (y : Sq) : (lookS σ y).pr = y.pr ∧ (lookS σ y).cm = y.cm := by unfold lookS; split <;> exact ⟨rfl, rfl⟩
theorem took (F : Nat) (a : St) (hl : a.low = 0) (x : WdS) (hE : wE F a x = 0) : ∃ i : Nat, i < 8 ∧ sN x = (i : Int) + 1 ∧ idx a (sN x) = some i ∧ Tk F a (wS F a x) x i := by
  obtain ⟨i, hi, hix, hsx⟩ := sN_idx hl x
  refine ⟨i, hi, hsx, hix, ?_⟩
  cases hc : x.c with
  | true =>
    have hE' : commE a (nN F x) 0 (sN x) (dN x) = 0 := by unfold wE sayE at hE; rw [hc] at hE; exact hE
    have hS : wS F a x = a.set i { a.s i with cm := setV (a.s i).cm (nN F x) ⟨0, dN x⟩ } := by
      unfold wS sayS
      rw [hc, if_pos rfl]
      unfold commS
      rw [if_neg (by rw [hE']; simp), hix]
    rw [hS]
    refine ⟨rfl, rfl, rfl, fun j => ?_, fun j => ?_⟩
    · rw [if_neg (by rw [hc]; simp)]
      show (if j = i then _ else a.s j : Sq).pr = _
      split
      · rename_i e; rw [e]; try rfl
      · rfl
    · show (if j = i then _ else a.s j : Sq).cm = _
      by_cases e : j = i
      · rw [if_pos e, if_pos ⟨e, hc⟩, e]; try rfl
      · rw [if_neg e, if_neg (fun h => e h.1)]
  | false =>
    have hE' : prepE a (nN F x) 0 (sN x) (dN x) = 0 := by unfold wE sayE at hE; rw [hc] at hE; exact hE
    have hS : wS F a x = a.set i (lookS a { a.s i with pr := setV (a.s i).pr (nN F x) ⟨0, dN x⟩ }) := by
      unfold wS sayS
      rw [hc, if_neg (by simp)]
      unfold prepS
      rw [if_neg (by rw [hE']; simp), hix]
    rw [hS]
    refine ⟨rfl, rfl, rfl, fun j => ?_, fun j => ?_⟩
    · show (if j = i then _ else a.s j : Sq).pr = _
      by_cases e : j = i
      · rw [if_pos e, if_pos ⟨e, hc⟩, e, (look_prcm _ _).1]; try rfl
      · rw [if_neg e, if_neg (fun h => e h.1)]
    · rw [if_neg (by rw [hc]; simp)]
      show (if j = i then _ else a.s j : Sq).cm = _
      split
      · rename_i e; rw [e, (look_prcm _ _).2]; try rfl
      · rfl
theorem off_wS {F : Int} {a : St} {x : WdS} (h : wE F a x ≠ 0) : wS F a x = a := by
  unfold wS sayS
  unfold wE sayE at h
  cases hc : x.c with
  | true => rw [hc, if_pos rfl] at h; rw [if_pos rfl]; unfold commS; rw [if_pos h]
  | false => rw [hc, if_neg (by simp)] at h; rw [if_neg (by simp)]; unfold prepS; rw [if_pos h]
theorem lead_1 {F : Nat} {a : St} (h : a.ns = ndL (3 * F + 1)) : leadO a 0 = 1 := by
  unfold leadO
  rw [h]
  simp [ndL, List.range_succ_eq_map]
theorem not_lead {F : Nat} {a : St} (h : a.ns = ndL (3 * F + 1)) {x : WdS} (hc : x.c = false) (hE : wE F a x = 0) : nN F x ≠ 1 := by
  unfold wE sayE at hE
  rw [hc, if_neg (by simp)] at hE
  unfold prepE at hE
  rw [lead_1 h] at hE
  intro e
  by_cases e1 : nN F x ∉ a.ns
  · rw [if_pos e1] at hE; cases hE
  · rw [if_neg e1, if_neg (by decide), if_pos e] at hE; cases hE
/-- A liar's word to one of them. -/
theorem SfS.lie {F : Nat} {a b : St} (h : SfS F a b) {x : WdS} (hx : nN F x ≤ F) : SfS F (wS F a x) b := by
  by_cases hE : wE F a x = 0
  · obtain ⟨i, hi, hsx, hix, k⟩ := took F a h.la x hE
    refine ⟨k.f.trans h.fa, h.fb, k.ns.trans h.na, h.nb, k.low.trans h.la, h.lb, fun j hj n hn => ?_, fun j hj n hn => ?_, fun j hj => ?_, h.pb⟩
    · rw [k.pr]
      split
      · unfold setV
        rw [if_neg (by omega)]
        exact h.pr j hj n hn
      · exact h.pr j hj n hn
    · rw [k.cm]
      split
      · unfold setV
        rw [if_neg (by omega)]
        exact h.cm j hj n hn
      · exact h.cm j hj n hn
    · rw [k.pr]
      split
      · rename_i e
        unfold setV
        rw [if_neg (fun e1 => not_lead h.na e.2 hE e1.symm)]
        exact h.pa j hj
      · exact h.pa j hj
  · rw [off_wS hE]; exact h
theorem SfS.err {F : Nat} {a b : St} (h : SfS F a b) {x : WdS} (hx : (F : Int) < nN F x) : wE F a x = wE F b x := by
  obtain ⟨i, hi, hix, hsx⟩ := sN_idx h.la x
  obtain ⟨j, hj, hjx, hsy⟩ := sN_idx h.lb x
  obtain rfl : i = j := by omega
  unfold wE sayE commE prepE
  rw [hix, hjx, lead_1 h.na, lead_1 h.nb, h.na, h.nb]
  simp only
  rw [h.pr i hi _ hx, h.cm i hi _ hx]
/-- A correct node's word, to both. -/
theorem SfS.both {F : Nat} {a b : St} (h : SfS F a b) {x : WdS} (hx : (F : Int) < nN F x) (hE : wE F a x = 0) : SfS F (wS F a x) (wS F b x) := by
  obtain ⟨i, hi, hsx, hix, k⟩ := took F a h.la x hE
  obtain ⟨i', hi', hsx', hix', k'⟩ := took F b h.lb x ((h.err hx).symm.trans hE)
  obtain rfl : i = i' := by omega
  refine ⟨k.f.trans h.fa, k'.f.trans h.fb, k.ns.trans h.na, k'.ns.trans h.nb, k.low.trans h.la, k'.low.trans h.lb, fun j hj n hn => ?_, fun j hj n hn => ?_, fun j hj => ?_, fun j hj => ?_⟩
  · rw [k.pr, k'.pr]
    split
    · unfold setV
      split
      · rfl
      · exact h.pr j hj n hn
    · exact h.pr j hj n hn
  · rw [k.cm, k'.cm]
    split
    · unfold setV
      split
      · rfl
      · exact h.cm j hj n hn
    · exact h.cm j hj n hn
  · rw [k.pr]
    split
    · rename_i e
      unfold setV
      rw [if_neg (fun e1 => not_lead h.na e.2 hE e1.symm)]
      exact h.pa j hj
    · exact h.pa j hj
  · rw [k'.pr]
    split
    · rename_i e
      unfold setV
      rw [if_neg (fun e1 => not_lead h.na e.2 hE e1.symm)]
      exact h.pb j hj
    · exact h.pb j hj
theorem prop_prcm (σ : St) (view seq : Int) (d : List UInt8) : (propS σ view seq d).f = σ.f ∧ (propS σ view seq d).ns = σ.ns ∧ (propS σ view seq d).low = σ.low ∧ ∀ j, ((propS σ view seq d).s j).pr = (σ.s j).pr ∧ ((propS σ view seq d).s j).cm = (σ.s j).cm := by
  unfold propS
  split
  · exact ⟨rfl, rfl, rfl, fun _ => ⟨rfl, rfl⟩⟩
  · split
    · exact ⟨rfl, rfl, rfl, fun _ => ⟨rfl, rfl⟩⟩
    · refine ⟨rfl, rfl, rfl, fun j => ?_⟩
      rename_i i _
      show (if j = i then lookS σ (propSq (σ.s i) _) else σ.s j : Sq).pr = _ ∧ (if j = i then lookS σ (propSq (σ.s i) _) else σ.s j : Sq).cm = _
      split
      · rename_i e; rw [e, (look_prcm _ _).1, (look_prcm _ _).2]; exact ⟨rfl, rfl⟩
      · exact ⟨rfl, rfl⟩
theorem SfS.left {F : Nat} {a b : St} (h : SfS F a b) (l : List UInt8) : ∀ i, SfS F (prS a 0 l i) b
  | 0 => h
  | i + 1 => by
    have ih := SfS.left h l i
    obtain ⟨h1, h2, h3, h4⟩ := prop_prcm (prS a 0 l i) 0 (1 + (i : Int)) (dg ((l.getD i 0) &&& 3))
    exact ⟨h1.trans ih.fa, ih.fb, h2.trans ih.na, ih.nb, h3.trans ih.la, ih.lb, fun j hj n hn => by show ((propS _ _ _ _).s j).pr n = _; rw [(h4 j).1]; exact ih.pr j hj n hn, fun j hj n hn => by show ((propS _ _ _ _).s j).cm n = _; rw [(h4 j).2]; exact ih.cm j hj n hn, fun j hj => by show ((propS _ _ _ _).s j).pr 1 = _; rw [(h4 j).1]; exact ih.pa j hj, ih.pb⟩
/-- Two digests are not both prepared. -/
theorem SfS.safe {F : Nat} (hF : F = 1 ∨ F = 2) {a b : St} (h : SfS F a b) {seq : Int} (ha : preS a seq = true) (hb : preS b seq = true) : ∃ x y : Vt, (∃ i, idx a seq = some i ∧ (a.s i).last = some x) ∧ (∃ i, idx b seq = some i ∧ (b.s i).last = some y) ∧ x.d = y.d := by
  have e : idx a seq = idx b seq := by unfold idx; rw [h.la, h.lb]
  unfold preS at ha hb
  rw [e] at ha ⊢
  cases hi : idx b seq with
  | none => rw [hi] at ha; cases ha
  | some i =>
    rw [hi] at ha hb
    simp only at ha hb
    have hi8 := (idx_lt hi).1
    unfold preB at ha hb
    cases hx : (a.s i).last with
    | none => rw [hx] at ha; cases ha
    | some x =>
      cases hy : (b.s i).last with
      | none => rw [hy] at hb; cases hb
      | some y =>
        rw [hx] at ha
        rw [hy] at hb
        simp only [decide_eq_true_eq] at ha hb
        rw [h.fa, h.na] at ha
        rw [h.fb, h.nb] at hb
        refine ⟨x, y, ⟨i, rfl, hx⟩, ⟨i, rfl, hy⟩, ?_⟩
        refine Classical.byContradiction fun hne => ?_
        have hdis : ∀ n, (F : Int) < n → ¬ ((a.s i).pr n = some x ∧ (b.s i).pr n = some y) := fun n hn ⟨k1, k2⟩ => by
          rw [h.pr i hi8 n hn, k2] at k1
          injection k1 with k1
          exact hne (by rw [k1])
        have h1a := h.pa i hi8
        have h1b := h.pb i hi8
        unfold cntV at ha hb
        have ho := overlap (fun n => decide ((a.s i).pr n = some x)) (fun n => decide ((b.s i).pr n = some y)) ((ndL (3 * F + 1)).drop 1)
        rcases hF with rfl | rfl
        · have e1 : ndL (3 * 1 + 1) = [1, 2, 3, 4] := rfl
          rw [e1] at ha hb ho
          simp only [List.drop_succ_cons, List.drop_zero] at ho
          rw [List.countP_cons, if_neg (by rw [h1a]; simp)] at ha
          rw [List.countP_cons, if_neg (by rw [h1b]; simp)] at hb
          have hz : ([2, 3, 4] : List Int).countP (fun n => decide ((a.s i).pr n = some x) && decide ((b.s i).pr n = some y)) = 0 := by
            rw [List.countP_eq_zero]
            intro n hn k
            simp only [Bool.and_eq_true, decide_eq_true_eq] at k
            refine hdis n ?_ k
            simp at hn
            omega
          rw [hz] at ho
          simp only [List.length_cons, List.length_nil] at ho
          omega
        · have e1 : ndL (3 * 2 + 1) = [1, 2, 3, 4, 5, 6, 7] := rfl
          rw [e1] at ha hb ho
          simp only [List.drop_succ_cons, List.drop_zero] at ho
          rw [List.countP_cons, if_neg (by rw [h1a]; simp)] at ha
          rw [List.countP_cons, if_neg (by rw [h1b]; simp)] at hb
          have hz : ([3, 4, 5, 6, 7] : List Int).countP (fun n => decide ((a.s i).pr n = some x) && decide ((b.s i).pr n = some y)) = 0 := by
            rw [List.countP_eq_zero]
            intro n hn k
            simp only [Bool.and_eq_true, decide_eq_true_eq] at k
            refine hdis n ?_ k
            simp at hn
            omega
          rw [List.countP_cons (a := (2 : Int)) (l := [3, 4, 5, 6, 7]) (p := fun n => decide ((a.s i).pr n = some x) && decide ((b.s i).pr n = some y)), hz] at ho
          simp only [List.length_cons, List.length_nil] at ho
          split at ho <;> omega
end Go.Proofs.Ytmdgcimjmmnbjaa

namespace Go.Proofs.Ytmdgcimjmmnbjaa
open Go.ChangeShapes Go.WideShapes Go.ChangeAt Go.RowKit
set_option linter.unusedVariables false

def wcW (x : WdS) : List Value := [.int .i64 x.nd, .int .i64 x.vw, .int .i64 x.sq, .bool x.c, .int .u8 (x.b.toNat : Int)]
/-- The word 'x' stands at 'b, o'. -/
def WdAt (w : World) (b o : Nat) (x : WdS) : Prop := Wf x.nd ∧ Wf x.sq ∧ w.rangeAt b o (wcW x)
def Wds (w : World) (A : Option Addr) (l : List WdS) : Prop := l ≠ [] → ∃ b off, A = some ⟨b, off, none⟩ ∧ b < w.heap.size ∧ ∀ j (hj : j < l.length), WdAt w b (off + j * 5) l[j]
theorem WdAt.after {w w' : World} {b o : Nat} {x : WdS} (h : WdAt w b o x) (hb : Below w.heap.size w w') (hlt : b < w.heap.size) : WdAt w' b o x := by
  obtain ⟨h0, h0', h1⟩ := h
  exact ⟨h0, h0', fun j u hu => (hb.cell (p := ⟨b, o + j, none⟩) hlt).trans (h1 j u hu)⟩
def ArgWs (w : World) (A : Option Addr) (n c : Nat) (l : List WdS) : Prop := l.length = n ∧ n ≤ c ∧ c ≤ maxLen ∧ Wds w A l
theorem ArgWs.after {w w' : World} {A : Option Addr} {n c : Nat} {l : List WdS} (h : ArgWs w A n c l) (hb : Below w.heap.size w w') : ArgWs w' A n c l :=
  ⟨h.1, h.2.1, h.2.2.1, fun hn => let ⟨b, off, e, hlt, hd⟩ := h.2.2.2 hn; ⟨b, off, e, Nat.lt_of_lt_of_le hlt hb.size, fun j hj => (hd j hj).after hb hlt⟩⟩
theorem ArgWs.at_ {w : World} {A : Option Addr} {n c : Nat} {l : List WdS} (h : ArgWs w A n c l) {j : Nat} (hj : j < l.length) : ∃ b off, A = some ⟨b, off, none⟩ ∧ b < w.heap.size ∧ WdAt w b (off + j * 5) l[j] := by
  obtain ⟨b, off, e, hlt, hd⟩ := h.2.2.2 (fun e => by rw [e] at hj; simp at hj)
  exact ⟨b, off, e, hlt, hd j hj⟩
theorem choose_list {α : Type} {P : Nat → α → Prop} : ∀ n, (∀ r, r < n → ∃ l, P r l) → ∃ ls : List α, ls.length = n ∧ ∀ j (hj : j < ls.length), P j ls[j]
  | 0, _ => ⟨[], rfl, fun j hj => by simp at hj⟩
  | n + 1, h => by
    obtain ⟨ls, hl, hls⟩ := choose_list n (fun r hr => h r (by omega))
    obtain ⟨l, hl'⟩ := h n (by omega)
    refine ⟨ls ++ [l], by simp [hl], fun j hj => ?_⟩
    by_cases hjn : j < ls.length
    · rw [List.getElem_append_left hjn]; exact hls j hjn
    · have : j = n := by simp at hj; omega
      subst this
      rw [List.getElem_append_right (by omega)]
      simpa [hl] using hl'
theorem one_of {cs : List Value} {i : Nat} {v : Value} (h : (cs.drop i).take 1 = [v]) : cs[i]? = some v := by
  have : ((cs.drop i).take 1)[0]? = some v := by rw [h]; rfl
  rw [List.getElem?_take, if_pos (by omega), List.getElem?_drop] at this
  simpa using this

section
variable {H : Type} {enc : TypeId × Value → H} {w : World}
theorem trod_word {fuel : Nat} {cs : List Value} {x : DataW H × List MemPlace} (h : DataW.trod enc Try.prog w 0 (fun _ => true) true fuel 27 cs = some x) :
    ∃ d : WdS, Wf d.nd ∧ Wf d.sq ∧ ∀ i, i < 5 → cs[i]? = (wcW d)[i]? := by
  obtain ⟨xs, n, _, _, _, hlen, hg⟩ := DataW.trod_struct Try.underlying27 h
  have c1 : Try.prog.cellsOf 3 = 1 := by kernel_rfl
  have c2 : Try.prog.cellsOf 5 = 1 := by kernel_rfl
  have c3 : Try.prog.cellsOf 4 = 1 := by kernel_rfl
  have g0 : DataW.trod enc Try.prog w 0 (fun _ => true) true n 3 ((cs.drop 0).take (Try.prog.cellsOf 3)) = xs[0]? := hg 0 _ rfl
  have g1 : DataW.trod enc Try.prog w 0 (fun _ => true) true n 3 ((cs.drop 1).take (Try.prog.cellsOf 3)) = xs[1]? := hg 1 _ rfl
  have g2 : DataW.trod enc Try.prog w 0 (fun _ => true) true n 3 ((cs.drop 2).take (Try.prog.cellsOf 3)) = xs[2]? := hg 2 _ rfl
  have g3 : DataW.trod enc Try.prog w 0 (fun _ => true) true n 4 ((cs.drop 3).take (Try.prog.cellsOf 4)) = xs[3]? := hg 3 _ rfl
  have g4 : DataW.trod enc Try.prog w 0 (fun _ => true) true n 5 ((cs.drop 4).take (Try.prog.cellsOf 5)) = xs[4]? := hg 4 _ rfl
  rw [c1] at g0
  rw [c1] at g1
  rw [c1] at g2
  rw [c3] at g3
  rw [c2] at g4
  have hl7 : xs.length = 5 := hlen
  have e : ∀ i, i < 5 → ∃ y, xs[i]? = some y := fun i hi => ⟨_, List.getElem?_eq_getElem (by omega)⟩
  obtain ⟨y0, e0⟩ := e 0 (by omega)
  obtain ⟨y1, e1⟩ := e 1 (by omega)
  obtain ⟨y2, e2⟩ := e 2 (by omega)
  obtain ⟨y3, e3⟩ := e 3 (by omega)
  obtain ⟨y4, e4⟩ := e 4 (by omega)
  rw [e0] at g0; rw [e1] at g1; rw [e2] at g2; rw [e3] at g3; rw [e4] at g4
  obtain ⟨a0, q0, _, w0⟩ := DataW.trod_int Try.underlying3 g0
  obtain ⟨a1, q1, _, w1⟩ := DataW.trod_int Try.underlying3 g1
  obtain ⟨a2, q2, _, w2⟩ := DataW.trod_int Try.underlying3 g2
  obtain ⟨a3, q3, _⟩ := DataW.trod_bool Try.underlying4 g3
  obtain ⟨a4, q4, _, w4⟩ := DataW.trod_int Try.underlying5 g4
  refine ⟨⟨a0, a1, a2, a3, UInt8.ofNat a4.toNat⟩, w0, w2, fun i hi => ?_⟩
  match i, hi with
  | 0, _ => exact one_of q0
  | 1, _ => exact one_of q1
  | 2, _ => exact one_of q2
  | 3, _ => exact one_of q3
  | 4, _ =>
    rw [one_of q4]
    show some (Value.int .u8 a4) = some (Value.int .u8 (((UInt8.ofNat a4.toNat).toNat : Nat) : Int))
    rw [← wf_u8 w4]
  | i + 5, h => omega

theorem openWs {A : Option Addr} {n c : Nat} {d : DataW H} {p : List MemPlace} (h : DataW.Trod enc Try.prog w 0 (fun _ => true) true 22 (.slice A n c) d p) : ∃ l, ArgWs w A n c l := by
  obtain ⟨fuel, hf⟩ := h
  have hC : Try.prog.cellsOf 27 = 5 := by kernel_rfl
  rcases Go.Deep.open_slice Try.underlying22 hf with ⟨hcs, _⟩ | ⟨a, len, cap, m, k, D, Pl, hcs, _, hl, hm, hmm, _, hi⟩
  · simp [Value.cells] at hcs
    obtain ⟨rfl, rfl, rfl⟩ := hcs
    exact ⟨[], rfl, Nat.le_refl _, by simp [maxLen], fun hn => absurd rfl hn⟩
  · simp [Value.cells] at hcs
    obtain ⟨rfl, rfl, rfl⟩ := hcs
    rw [hC] at hi
    have hm' : n ≤ m := by rw [hmm]; simp; omega
    rcases Nat.eq_zero_or_pos n with h0 | hpos
    · subst h0
      exact ⟨[], rfl, hl, hm, fun hn => absurd rfl hn⟩
    have hs : a.spot = none := by
      obtain ⟨cs', hc, ht⟩ := hi 0 (by omega)
      obtain ⟨x, _, _, k0⟩ := trod_word ht
      obtain ⟨_, _, hat⟩ := World.cells?_some hc
      have h1 := hat 0 (by omega)
      rw [k0 0 (by omega)] at h1
      have e : a.add (0 * 5) = a := by unfold Addr.add; simp
      rw [e] at h1
      exact spot_of h1
    obtain ⟨b, off, spot⟩ := a
    simp only at hs
    subst hs
    have key : ∀ r, r < n → ∃ x : WdS, WdAt w b (off + r * 5) x := fun r hr => by
      obtain ⟨cs', hc, ht⟩ := hi r (by omega)
      obtain ⟨x, h0, h0', k0⟩ := trod_word ht
      obtain ⟨_, _, hat⟩ := World.cells?_some hc
      exact ⟨x, h0, h0', fun j u hu => by
        have hj : j < 5 := by
          rcases Nat.lt_or_ge j (wcW x).length with h' | h'
          · exact h'
          · rw [List.getElem?_eq_none h'] at hu; cases hu
        have := hat j hj
        rw [add_mk, add_mk] at this
        rw [this, k0 j hj, hu]⟩
    obtain ⟨ls, hlen, hls⟩ := choose_list n key
    refine ⟨ls, hlen, hl, hm, fun hne => ⟨b, off, rfl, ?_, fun j hj => hls j hj⟩⟩
    have h0 := hls 0 (by omega)
    exact World.block_lt_of_cell? w _ (h0.2.2 0 _ rfl)
end
end Go.Proofs.Ytmdgcimjmmnbjaa

namespace Go.Proofs.Ytmdgcimjmmnbjaa
open Go.RowKit Go.Shelf Go.Sort Go.Maps CrewP
set_option linter.unusedVariables false
set_option linter.unusedSimpArgs false

/-! ### Two of them, and blocks beside -/
abbrev BlkL := List (Nat × TypeId × List Value)
def As2 (w0 w : World) (g h : Nat) (a b : St) (V : BlkL) : Prop :=
  ∃ U U' : Nat → Prop, StAt w U g a ∧ StAt w U' h b ∧ (∀ i, U i → ¬ U' i) ∧ (∀ i, U i → w0.heap.size ≤ i) ∧ (∀ i, U' i → w0.heap.size ≤ i) ∧ Below w0.heap.size w0 w ∧ ∀ p ∈ V, Blk w p.1 p.2.1 p.2.2 ∧ ¬ U p.1 ∧ ¬ U' p.1 ∧ w0.heap.size ≤ p.1
section
variable {w0 w w' : World} {g h : Nat} {a b : St} {V : BlkL}
theorem As2.bel (k : As2 w0 w g h a b V) : Below w0.heap.size w0 w := let ⟨_, _, _, _, _, _, _, k, _⟩ := k; k
theorem As2.swap (k : As2 w0 w g h a b V) : As2 w0 w h g b a V := let ⟨U, U', h1, h2, h3, h4, h5, h6, h7⟩ := k; ⟨U', U, h2, h1, fun i h8 h9 => h3 i h9 h8, h5, h4, h6, fun p hp => ⟨(h7 p hp).1, (h7 p hp).2.2.1, (h7 p hp).2.1, (h7 p hp).2.2.2⟩⟩
theorem As2.below (k : As2 w0 w g h a b V) (hb : Below w.heap.size w w') : As2 w0 w' g h a b V :=
  let ⟨U, U', h1, h2, h3, h4, h5, h6, h7⟩ := k; ⟨U, U', h1.below hb, h2.below hb, h3, h4, h5, h6.trans (hb.mono h6.size), fun p hp => ⟨(h7 p hp).1.below hb (h7 p hp).1.lt, (h7 p hp).2⟩⟩
theorem As2.blk (k : As2 w0 w g h a b V) {r : Nat} {t : TypeId} {cs : List Value} (hp : (r, t, cs) ∈ V) : Blk w r t cs := let ⟨_, _, _, _, _, _, _, _, h7⟩ := k; (h7 _ hp).1
theorem As2.base (k : As2 w0 w g h a b V) {r : Nat} {t : TypeId} {cs : List Value} (hp : (r, t, cs) ∈ V) : w0.heap.size ≤ r := let ⟨_, _, _, _, _, _, _, _, h7⟩ := k; (h7 _ hp).2.2.2
/-- A block that is new. -/
theorem As2.add (k : As2 w0 w g h a b V) (hb : Below w.heap.size w w') {r : Nat} {t : TypeId} {cs : List Value} (hr : w.heap.size ≤ r) (hB : Blk w' r t cs) : As2 w0 w' g h a b ((r, t, cs) :: V) := by
  obtain ⟨U, U', h1, h2, h3, h4, h5, h6, h7⟩ := k.below hb
  obtain ⟨U1, U2, q1, q2, q3, q4, q5, q6, q7⟩ := k
  refine ⟨U1, U2, q1.below hb, q2.below hb, q3, q4, q5, h6, fun p hp => ?_⟩
  rcases List.mem_cons.1 hp with rfl | hp
  · exact ⟨hB, fun hi => by have := q1.lt _ hi; simp at this; omega, fun hi => by have := q2.lt _ hi; simp at this; omega, by have := q6.size; simp; omega⟩
  · exact ⟨(q7 p hp).1.below hb (q7 p hp).1.lt, (q7 p hp).2⟩
/-- What was written at blocks beside. -/
theorem As2.turn (k : As2 w0 w g h a b V) {S : Nat → Prop} (ho : Out S w w') (hS : ∀ i, S i → ∃ t cs, (i, t, cs) ∈ V) {V' : BlkL} (hV : ∀ p ∈ V', Blk w' p.1 p.2.1 p.2.2 ∧ ((∃ t cs, (p.1, t, cs) ∈ V) ∨ w.heap.size ≤ p.1)) : As2 w0 w' g h a b V' := by
  obtain ⟨U, U', h1, h2, h3, h4, h5, h6, h7⟩ := k
  refine ⟨U, U', h1.out ho (fun i hi hs => by obtain ⟨t, cs, hp⟩ := hS i hs; exact (h7 _ hp).2.1 hi), h2.out ho (fun i hi hs => by obtain ⟨t, cs, hp⟩ := hS i hs; exact (h7 _ hp).2.2.1 hi), h3, h4, h5, h6.trans (ho.above (fun i hs => by obtain ⟨t, cs, hp⟩ := hS i hs; exact (h7 _ hp).2.2.2) h6.size), fun p hp => ?_⟩
  obtain ⟨q1, q2⟩ := hV p hp
  refine ⟨q1, ?_, ?_, ?_⟩
  · rcases q2 with ⟨t, cs, q⟩ | q
    · exact (h7 _ q).2.1
    · intro hi; have := h1.lt _ hi; omega
  · rcases q2 with ⟨t, cs, q⟩ | q
    · exact (h7 _ q).2.2.1
    · intro hi; have := h2.lt _ hi; omega
  · rcases q2 with ⟨t, cs, q⟩ | q
    · exact (h7 _ q).2.2.2
    · have := h6.size; omega
theorem As2.less (k : As2 w0 w g h a b V) {V' : BlkL} (hs : ∀ p ∈ V', p ∈ V) : As2 w0 w g h a b V' := let ⟨U, U', h1, h2, h3, h4, h5, h6, h7⟩ := k; ⟨U, U', h1, h2, h3, h4, h5, h6, fun p hp => h7 p (hs p hp)⟩
theorem As2.new {w1 w2 : World} (h1 : StAt w1 (fun i => w.heap.size ≤ i ∧ i < w1.heap.size) g a) (hb1 : Below w.heap.size w w1) (h2 : StAt w2 (fun i => w1.heap.size ≤ i ∧ i < w2.heap.size) h b) (hb2 : Below w1.heap.size w1 w2) : As2 w w2 g h a b [] :=
  ⟨_, _, h1.below hb2, h2, fun i hi hu => by omega, fun i hi => hi.1, fun i hi => by have := hb1.size; omega, hb1.trans (hb2.mono hb1.size), fun p hp => by cases hp⟩
end

/-! ### Words in memory -/
def wcs (l : List WdS) : List Value := l.flatMap wcW
theorem wcs_len (l : List WdS) : (wcs l).length = l.length * 5 := by
  induction l with
  | nil => rfl
  | cons x l ih => rw [wcs, List.flatMap_cons, List.length_append]; unfold wcs at ih; rw [ih, List.length_cons]; simp [wcW]; omega
theorem wcs_append (l m : List WdS) : wcs (l ++ m) = wcs l ++ wcs m := by simp [wcs]
theorem wcs_at {l : List WdS} {i : Nat} (hi : i < l.length) {r : Nat} (hr : r < 5) : (wcs l)[i * 5 + r]? = (wcW l[i])[r]? := flatMap_at (f := wcW) (fun _ => rfl) hi hr
theorem word_info : (Try.prog.info? 27).map (fun i => (i.zero, i.size, i.bytes)) = some (some (.agg #[.int .i64 0, .int .i64 0, .int .i64 0, .bool false, .int .u8 0]), 5, 32) := by kernel_rfl
theorem word_info1 : (Try.prog.info? 27).map (·.size) = some 5 := by kernel_rfl
theorem row_word (a b c d e : Value) (w : World) : (Instr.buildSlice 22 1 #[(0, .agg #[a, b, c, d, e])]).run Try.prog w = .ok (.slice (some ⟨w.heap.size, 0, none⟩) 1 1) (w.alloc (.cells #[a, b, c, d, e] 27)) := by kernel_rfl
theorem app_word {w : World} {A : Option Addr} {n cap r : Nat} {l : List WdS} {x : WdS} (h : RowK w 27 5 A n cap (wcs l)) (hl : l.length = n) (hB : Blk w r 27 (wcs [x])) (hn : n ≤ 100000) (ty : TypeId) :
    ∃ A' cap' w', (Builtin.append_ #[22, 22] ty #[.slice A n cap, .slice (some ⟨r, 0, none⟩) 1 1]).run Try.prog w = .ok (.slice A' (n + 1) cap') w' ∧ RowK w' 27 5 A' (n + 1) cap' (wcs (l ++ [x])) ∧ Out (blkOf A) w w' ∧ (∀ b, blkOf A' b → blkOf A b ∨ b = w.heap.size) := by
  obtain ⟨i0, hi, hz0, hz1, hz2⟩ := info_parts word_info
  obtain ⟨A', cap', w', r1, r2, r3, r4, _⟩ := run_append_rowK 22 ty 27 i0 _ 5 32 Try.underlying22 hi hz0 hz1 hz2 rfl h ⟨r, 0, none⟩ 1 1 (wcs [x]) rfl (fun j u hu => by rw [add_mk, Nat.zero_add]; exact hB.cell hu) (fun u hu => by simp [wcs, wcW] at hu; rcases hu with rfl | rfl | rfl | rfl | rfl <;> rfl) (by unfold maxLen; omega) (by omega)
  exact ⟨A', cap', w', r1, by rw [wcs_append]; exact r2, r3, r4⟩
/-- A row of words among the blocks beside. -/
def FitV (A : Option Addr) (cap : Nat) (l : List WdS) (V : BlkL) : Prop := l.length ≤ cap ∧ cap ≤ maxLen ∧ ((A = none ∧ cap = 0) ∨ ∃ r cur, A = some ⟨r, 0, none⟩ ∧ (r, 27, cur) ∈ V ∧ cap * 5 ≤ cur.length ∧ cur.take (l.length * 5) = wcs l)
theorem FitV.nil (V : BlkL) : FitV none 0 [] V := ⟨Nat.le_refl _, by simp [maxLen], .inl ⟨rfl, rfl⟩⟩
theorem FitV.row {A : Option Addr} {cap : Nat} {l : List WdS} {V : BlkL} (h : FitV A cap l V) {w0 w : World} {g k : Nat} {a b : St} (hA : As2 w0 w g k a b V) : RowK w 27 5 A l.length cap (wcs l) :=
  ⟨wcs_len l, h.1, h.2.1, h.2.2.imp id fun ⟨r, cur, e, hp, h1, h2⟩ => ⟨r, cur, e, hA.blk hp, h1, h2⟩⟩
theorem FitV.mem {A : Option Addr} {cap : Nat} {l : List WdS} {V : BlkL} (h : FitV A cap l V) : ∀ r, blkOf A r → ∃ t cs, (r, t, cs) ∈ V := fun r ⟨ad, e, hr⟩ => by
  rcases h.2.2 with ⟨rfl, _⟩ | ⟨r', cur, rfl, hp, _⟩
  · cases e
  · cases e; subst hr; exact ⟨_, _, hp⟩
theorem FitV.more {A : Option Addr} {cap : Nat} {l : List WdS} {V V' : BlkL} (h : FitV A cap l V) (hV : ∀ p ∈ V, p ∈ V') : FitV A cap l V' := ⟨h.1, h.2.1, h.2.2.imp id fun ⟨r, cur, e, hp, h12⟩ => ⟨r, cur, e, hV _ hp, h12⟩⟩
theorem FitV.of {w : World} {A : Option Addr} {cap n : Nat} {l : List WdS} (h : RowK w 27 5 A n cap (wcs l)) (hl : l.length = n) : ∃ V : BlkL, FitV A cap l V ∧ ∀ p ∈ V, Blk w p.1 p.2.1 p.2.2 ∧ blkOf A p.1 := by
  subst hl
  rcases h.2.2.2 with ⟨rfl, rfl⟩ | ⟨r, cur, rfl, hB, h1, h2⟩
  · exact ⟨[], ⟨h.2.1, h.2.2.1, .inl ⟨rfl, rfl⟩⟩, fun p hp => absurd hp (by simp)⟩
  · exact ⟨[(r, 27, cur)], ⟨h.2.1, h.2.2.1, .inr ⟨r, cur, rfl, by simp, h1, h2⟩⟩, fun p hp => by rw [List.mem_singleton] at hp; subst hp; exact ⟨hB, _, rfl, rfl⟩⟩
/-- One of the words, where it stands. -/
theorem FitV.cells {A : Option Addr} {cap : Nat} {l : List WdS} {V : BlkL} (h : FitV A cap l V) {i : Nat} (hi : i < l.length) : ∃ r cur, A = some ⟨r, 0, none⟩ ∧ (r, 27, cur) ∈ V ∧ (cur.drop (i * 5)).take 5 = wcW l[i] := by
  rcases h.2.2 with ⟨rfl, e⟩ | ⟨r, cur, rfl, hp, h1, h2⟩
  · have := h.1; omega
  · refine ⟨r, cur, rfl, hp, ?_⟩
    apply List.ext_getElem?
    intro j
    by_cases hj : j < 5
    · rw [List.getElem?_take, if_pos hj, List.getElem?_drop, ← wcs_at hi hj, ← h2, List.getElem?_take, if_pos (by omega)]
    · rw [List.getElem?_eq_none (by rw [List.length_take]; omega), List.getElem?_eq_none (by simp [wcW]; omega)]
section
variable {w0 w w' : World} {g h : Nat} {a b : St} {V : BlkL}
theorem As2.turnA (k : As2 w0 w g h a b V) {a' : St} (hc : ∀ U, StAt w U g a → (∀ i, U i → w0.heap.size ≤ i) → (StAt w' U g a' ∧ Out U w w')) : As2 w0 w' g h a' b V := by
  obtain ⟨U, U', h1, h2, h3, h4, h5, h6, h7⟩ := k
  obtain ⟨k5, k6⟩ := hc U h1 h4
  exact ⟨U, U', k5, h2.out k6 (fun i hi hu => h3 i hu hi), h3, h4, h5, h6.trans (k6.above h4 h6.size), fun p hp => ⟨k6.blk (h7 p hp).1 (h7 p hp).2.1, (h7 p hp).2⟩⟩
theorem As2.says (k : As2 w0 w g h a b V) (F : Nat) (hF : F ≤ 2) (x : WdS) (hx : Wf x.nd) (hz : Wf x.sq) {E : Int} (hE : wE F a x = E) :
    Calls Try.prog 9 #[.pointer (some ⟨g, 0, none⟩), .int .i64 (F : Int), .agg #[.int .i64 x.nd, .int .i64 0, .int .i64 x.sq, .bool x.c, .int .u8 (x.b.toNat : Int)]] w fun e w' => e = .returned (.int .i64 E) ∧ As2 w0 w' g h (wS F a x) b V := by
  obtain ⟨U, U', h1, h2, h3, h4, h5, h6, h7⟩ := k
  have h := says_at h1 F hF x.nd 0 x.sq x.c x.b hx (by decide) hz
  rw [show (0 : Int) % 3 = 0 from rfl] at h
  refine h.mono ?_
  rintro e w' ⟨he, k5, k6⟩
  refine ⟨by rw [he, ← hE]; rfl, U, U', k5, h2.out k6 (fun i hi hu => h3 i hu hi), h3, h4, h5, h6.trans (k6.above h4 h6.size), fun p hp => ⟨k6.blk (h7 p hp).1 (h7 p hp).2.1, (h7 p hp).2⟩⟩
theorem As2.proposes (k : As2 w0 w g h a b V) {A : Option Addr} {n c : Nat} {l : List UInt8} (hln : l.length = n) (hn : n ≤ 9223372036854775807) (hl : ∀ U, StAt w U g a → (∀ i, U i → w0.heap.size ≤ i) → (∀ p ∈ V, ¬ U p.1) → ByO U w A l) :
    Calls Try.prog 10 #[.pointer (some ⟨g, 0, none⟩), .int .i64 0, .slice A n c] w fun e w' => e = .returned (.tuple #[]) ∧ As2 w0 w' g h (prS a 0 l 8) b V := by
  obtain ⟨U, U', h1, h2, h3, h4, h5, h6, h7⟩ := k
  refine (proposes_at h1 0 (by decide) (c := c) hln hn (hl U h1 h4 fun p hp => (h7 p hp).2.1)).mono ?_
  rintro e w' ⟨he, k5, k6⟩
  exact ⟨he, U, U', k5, h2.out k6 (fun i hi hu => h3 i hu hi), h3, h4, h5, h6.trans (k6.above h4 h6.size), fun p hp => ⟨k6.blk (h7 p hp).1 (h7 p hp).2.1, (h7 p hp).2⟩⟩
theorem As2.left (k : As2 w0 w g h a b V) : ∃ U, StAt w U g a := let ⟨U, U', h1, _⟩ := k; ⟨U, h1⟩
end
/-- A word of the view 0. -/
def zv (x : WdS) : WdS := { x with vw := 0 }
theorem zv_E (F : Int) (σ : St) (x : WdS) : wE F σ (zv x) = wE F σ x := rfl
theorem zv_S (F : Int) (σ : St) (x : WdS) : wS F σ (zv x) = wS F σ x := rfl
/-- A word that became a variable, then one of the view 0. -/
theorem As2.word {w0 w : World} {g h : Nat} {a b : St} {V : BlkL} (k : As2 w0 w g h a b V) (x : WdS) : ∃ W2, w.alloc (.cells #[.int .i64 x.nd, .int .i64 0, .int .i64 x.sq, .bool x.c, .int .u8 (x.b.toNat : Int)] 27) = W2 ∧
    Blk W2 w.heap.size 27 (wcW (zv x)) ∧ Below w.heap.size w W2 ∧ As2 w0 W2 g h a b ((w.heap.size, 27, wcW (zv x)) :: V) := by
  have hb2 : Below w.heap.size w (w.alloc (.cells #[.int .i64 x.nd, .int .i64 0, .int .i64 x.sq, .bool x.c, .int .u8 (x.b.toNat : Int)] 27)) := (Below.refl _ _).alloc (Nat.le_refl _) _
  have hB2 : Blk (w.alloc (.cells #[.int .i64 x.nd, .int .i64 0, .int .i64 x.sq, .bool x.c, .int .u8 (x.b.toNat : Int)] 27)) w.heap.size 27 (wcW (zv x)) := Blk.new rfl rfl
  exact ⟨_, rfl, hB2, hb2, k.add hb2 (Nat.le_refl _) hB2⟩
theorem word_at (w : World) (b o : Nat) (n c : Nat) (i : Nat) (hi : i < n) : (Instr.indexAt 22 (.slice (some ⟨b, o, none⟩) n c) (.int .i64 (i : Int))).run Try.prog w = .ok (.pointer (some ⟨b, o + i * 5, none⟩)) w := by
  have hr := run_indexAt_slice (P := Try.prog) (w := w) 22 ⟨b, o, none⟩ n c .i64 (i : Int) (by kernel_rfl)
  rw [if_pos (by omega)] at hr
  refine hr.trans ?_
  have h33 : (sizeOf (Try.prog.elem 22)).run Try.prog w = .ok 5 w := by kernel_rfl
  rw [h33, Int.toNat_natCast]
  simp only [Result.andThen_ok, add_mk]
theorem ByO.of_bs {U : Nat → Prop} {w0 w : World} {A : Option Addr} {l : List UInt8} (h : Bs w0 A l) (hb : Below w0.heap.size w0 w) (hU : ∀ i, U i → w0.heap.size ≤ i) : ByO U w A l := fun hl => by
  obtain ⟨b, off, e, h1, h2⟩ := h.at_ hl
  exact ⟨b, off, e, Nat.lt_of_lt_of_le h1 hb.size, fun hu => by have := hU b hu; omega, fun j hj => (hb.cell (p := ⟨b, off + j, none⟩) h1).trans (h2 j hj)⟩
theorem flat8 (f : Nat → List SdT) (h : ∀ j, j < 8 → (f j).length ≤ 4) : ((List.range 8).flatMap f).length ≤ 32 := by
  have e : List.range 8 = [0, 1, 2, 3, 4, 5, 6, 7] := rfl
  rw [e]
  have h0 := h 0 (by omega)
  have h1 := h 1 (by omega)
  have h2 := h 2 (by omega)
  have h3 := h 3 (by omega)
  have h4 := h 4 (by omega)
  have h5 := h 5 (by omega)
  have h6 := h 6 (by omega)
  have h7 := h 7 (by omega)
  simp only [List.flatMap_cons, List.flatMap_nil, List.length_append, List.length_nil]
  omega
theorem As2.pre {w0 w : World} {g h : Nat} {a b : St} {V : BlkL} (k : As2 w0 w g h a b V) {seq : Int} (hs : Wf seq) {B : Bool} (hB : preS a seq = B) : Calls Try.prog 11 #[.pointer (some ⟨g, 0, none⟩), .int .i64 seq] w fun e w' => e = .returned (.bool B) ∧ Below w.heap.size w w' := by
  obtain ⟨U, h1⟩ := k.left
  exact prepared_at h1 hs B hB
theorem As2.com {w0 w : World} {g h : Nat} {a b : St} {V : BlkL} (k : As2 w0 w g h a b V) {seq : Int} (hs : Wf seq) {B : Bool} (hB : comS a seq = B) : Calls Try.prog 12 #[.pointer (some ⟨g, 0, none⟩), .int .i64 seq] w fun e w' => e = .returned (.bool B) ∧ Below w.heap.size w w' := by
  obtain ⟨U, h1⟩ := k.left
  exact committed_at h1 hs B hB
theorem As2.ps {w0 w : World} {g h : Nat} {a b : St} {V : BlkL} (k : As2 w0 w g h a b V) {l : List SdT} (hl : (List.range 8).flatMap (pTs a) = l) : Calls Try.prog 14 #[.pointer (some ⟨g, 0, none⟩)] w fun e w' => ∃ A cap, e = .returned (.slice A l.length cap) ∧ ShS w' A l ∧ Below w.heap.size w w' := by
  subst hl
  obtain ⟨U, h1⟩ := k.left
  exact (p_at h1).mono fun e w' ⟨A, cap, he, h2, h3, _⟩ => ⟨A, cap, he, ShS.row h2 rfl, h3⟩
theorem As2.qs {w0 w : World} {g h : Nat} {a b : St} {V : BlkL} (k : As2 w0 w g h a b V) {l : List SdT} (hl : (List.range 8).flatMap (qTs a) = l) : Calls Try.prog 15 #[.pointer (some ⟨g, 0, none⟩)] w fun e w' => ∃ A cap, e = .returned (.slice A l.length cap) ∧ ShS w' A l ∧ Below w.heap.size w w' := by
  subst hl
  obtain ⟨U, h1⟩ := k.left
  exact (q_at h1).mono fun e w' ⟨A, cap, he, h2, h3, _⟩ => ⟨A, cap, he, ShS.row h2 rfl, h3⟩
end Go.Proofs.Ytmdgcimjmmnbjaa
