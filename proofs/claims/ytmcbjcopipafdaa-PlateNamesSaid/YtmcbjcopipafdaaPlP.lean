/-
  A plate as plain lists: what stays, what waits; what each call makes of it.
-/
import Derived.Test.YtmcbjcopipafdaaMem
namespace Go.Proofs.Ytmcbjcopipafdaa
set_option linter.unusedVariables false

/-- A plate: what stays, what waits, whether it is dead, how many doings are ahead of its failure (-1: no failure), and the list for that. -/
structure Pl where
  st : List (List UInt8)
  wt : List (Option (List UInt8))
  dead : Bool
  ah : Int
  kp : List Bool

abbrev Wt := List (Option (List UInt8))
/-- The places that wait, rising. -/
def wk (wt : Wt) : List Nat := (List.range wt.length).filter fun i => (wt[i]?.getD none).isSome
/-- How many wait ahead of place i. -/
def rnk (wt : Wt) (i : Nat) : Nat := (wk (wt.take i)).length
/-- By what waits at a place. -/
def pickW (o : Option (Option (List UInt8))) (a : List UInt8 → List UInt8) (b : List UInt8) : List UInt8 := match o with
  | some (some x) => a x
  | _ => b
/-- Of those that wait, by their rank, such as 'f' tells stay: of the first 'j' alone. -/
def mix (f : Nat → Bool) (j : Nat) (st : List (List UInt8)) (wt : Wt) : List (List UInt8) :=
  (List.range st.length).map fun i => pickW wt[i]? (fun x => if rnk wt i < j ∧ f (rnk wt i) = true then x else st[i]?.getD []) (st[i]?.getD [])

theorem snocInd {α : Type} {P : List α → Prop} (h0 : P []) (hs : ∀ l x, P l → P (l ++ [x])) (l : List α) : P l := by
  have : ∀ r : List α, P r.reverse := fun r => by
    induction r with
    | nil => exact h0
    | cons x r ih => rw [List.reverse_cons]; exact hs _ _ ih
  have h := this l.reverse
  rwa [List.reverse_reverse] at h

theorem mix_length (f : Nat → Bool) (j : Nat) (st : List (List UInt8)) (wt : Wt) : (mix f j st wt).length = st.length := by simp [mix]
theorem mix_get (f : Nat → Bool) (j : Nat) (st : List (List UInt8)) (wt : Wt) {i : Nat} (h : i < st.length) :
    (mix f j st wt)[i]? = some (pickW wt[i]? (fun x => if rnk wt i < j ∧ f (rnk wt i) = true then x else st[i]) st[i]) := by
  unfold mix
  rw [List.getElem?_map, List.getElem?_range h]
  simp only [Option.map_some, List.getElem?_eq_getElem h, Option.getD_some]
theorem mix_zero (f : Nat → Bool) (st : List (List UInt8)) (wt : Wt) : mix f 0 st wt = st := by
  apply List.ext_getElem?
  intro i
  by_cases h : i < st.length
  · rw [mix_get f 0 st wt h, List.getElem?_eq_getElem h]
    rcases wt[i]? with _ | _ | x <;> simp [pickW]
  · rw [List.getElem?_eq_none (by rw [mix_length]; omega), List.getElem?_eq_none (by omega)]

theorem wk_append (a : Wt) (x : Option (List UInt8)) : wk (a ++ [x]) = wk a ++ (if x.isSome then [a.length] else []) := by
  unfold wk
  rw [List.length_append, List.length_singleton, List.range_succ, List.filter_append]
  congr 1
  · apply List.filter_congr
    intro i hi
    rw [List.getElem?_append_left (by simpa using hi)]
  · rw [List.filter_cons]
    simp
theorem wk_append2 (a b : Wt) : wk (a ++ b) = wk a ++ (wk b).map (· + a.length) := by
  refine snocInd (P := fun b => wk (a ++ b) = wk a ++ (wk b).map (· + a.length)) (by simp [wk]) (fun b x ih => ?_) b
  rw [← List.append_assoc, wk_append, ih, wk_append, List.map_append, List.append_assoc, List.length_append]
  cases x <;> simp [Nat.add_comm]
theorem wk_mem {wt : Wt} {i : Nat} : i ∈ wk wt ↔ ∃ x, wt[i]? = some (some x) := by
  unfold wk
  rw [List.mem_filter, List.mem_range]
  constructor
  · rintro ⟨h, hs⟩
    rw [List.getElem?_eq_getElem h] at hs ⊢
    cases e : wt[i] with
    | none => rw [e] at hs; simp at hs
    | some x => exact ⟨x, rfl⟩
  · rintro ⟨x, hx⟩
    refine ⟨?_, by rw [hx]; rfl⟩
    rcases Nat.lt_or_ge i wt.length with h | h
    · exact h
    · rw [List.getElem?_eq_none h] at hx; cases hx
theorem wk_sorted (wt : Wt) : (wk wt).Pairwise (· < ·) := List.Pairwise.filter _ List.pairwise_lt_range
theorem wk_nodup (wt : Wt) : (wk wt).Nodup := (wk_sorted wt).imp fun {a b} (h : a < b) => Nat.ne_of_lt h
theorem wk_len (wt : Wt) : (wk wt).length ≤ wt.length := by
  unfold wk
  exact Nat.le_trans (List.length_filter_le _ _) (by simp)
theorem wk_rnk {wt : Wt} {i : Nat} {x : List UInt8} (h : wt[i]? = some (some x)) : (wk wt)[rnk wt i]? = some i := by
  have hl : i < wt.length := by
    rcases Nat.lt_or_ge i wt.length with h' | h'
    · exact h'
    · rw [List.getElem?_eq_none h'] at h; cases h
  rw [List.getElem?_eq_getElem hl] at h
  injection h with h
  have e : wt = wt.take i ++ ([some x] ++ wt.drop (i + 1)) := by
    rw [← h, List.singleton_append, List.getElem_cons_drop, List.take_append_drop]
  have e1 : wk [some x] = [0] := rfl
  have e2 : wk wt = wk (wt.take i) ++ (i :: ((wk (wt.drop (i + 1))).map (· + 1)).map (· + i)) := by
    have := wk_append2 (wt.take i) ([some x] ++ wt.drop (i + 1))
    rw [← e, wk_append2, e1, List.length_take, Nat.min_eq_left (by omega)] at this
    simpa using this
  unfold rnk
  rw [e2, List.getElem?_append_right (Nat.le_refl _)]
  simp
theorem rnk_lt {wt : Wt} {i : Nat} {x : List UInt8} (h : wt[i]? = some (some x)) : rnk wt i < (wk wt).length := by
  have := wk_rnk h
  rcases Nat.lt_or_ge (rnk wt i) (wk wt).length with h' | h'
  · exact h'
  · rw [List.getElem?_eq_none h'] at this; cases this
theorem wk_at {wt : Wt} {j i : Nat} (h : (wk wt)[j]? = some i) : rnk wt i = j ∧ ∃ x, wt[i]? = some (some x) := by
  have hm : i ∈ wk wt := List.mem_of_getElem? h
  obtain ⟨x, hx⟩ := wk_mem.1 hm
  refine ⟨?_, x, hx⟩
  exact (List.getElem?_inj (rnk_lt hx) (wk_nodup wt)).1 ((wk_rnk hx).trans h.symm)

theorem mix_succ (f : Nat → Bool) {j i : Nat} {st : List (List UInt8)} {wt : Wt} {x : List UInt8} (h : (wk wt)[j]? = some i) (hx : wt[i]? = some (some x)) (hi : i < st.length) :
    mix f (j + 1) st wt = if f j then (mix f j st wt).set i x else mix f j st wt := by
  have hr := (wk_at h).1
  apply List.ext_getElem?
  intro k
  by_cases hk : k < st.length
  · by_cases hki : k = i
    · subst hki
      rw [mix_get f _ st wt hk, hx]
      simp only [hr, pickW]
      cases hf : f j
      · simp only [Bool.false_eq_true, if_false, and_false]
        rw [mix_get f _ st wt hk, hx]
        simp [hr, pickW]
      · simp only [if_true]
        rw [List.getElem?_set_self (by rw [mix_length]; exact hk)]
        simp
    · have hne : ∀ y, wt[k]? = some (some y) → (rnk wt k < j + 1 ↔ rnk wt k < j) := fun y hy => by
        have h1 := wk_rnk hy
        have h2 : rnk wt k ≠ j := fun e => by rw [e, h] at h1; injection h1 with h1; exact hki h1.symm
        omega
      have e : (mix f (j + 1) st wt)[k]? = (mix f j st wt)[k]? := by
        rw [mix_get f _ st wt hk, mix_get f _ st wt hk]
        rcases hy : wt[k]? with _ | _ | y
        · rfl
        · rfl
        · simp only [pickW, hne y hy]
      rw [e]
      split
      · rw [List.getElem?_set_ne (fun e => hki e.symm)]
      · rfl
  · rw [List.getElem?_eq_none (by rw [mix_length]; omega), List.getElem?_eq_none]
    split
    · rw [List.length_set, mix_length]; omega
    · rw [mix_length]; omega

/-- All that wait, by what 'f' tells. -/
def mixA (f : Nat → Bool) (st : List (List UInt8)) (wt : Wt) : List (List UInt8) := mix f (wk wt).length st wt
theorem mixA_length (f : Nat → Bool) (st : List (List UInt8)) (wt : Wt) : (mixA f st wt).length = st.length := mix_length _ _ _ _
/-- What is seen at a place. -/
def seenAt (st : List (List UInt8)) (wt : Wt) (i : Nat) : List UInt8 := pickW wt[i]? (fun x => x) (st[i]?.getD [])
theorem mixA_get (f : Nat → Bool) (st : List (List UInt8)) (wt : Wt) {i : Nat} (h : i < st.length) :
    (mixA f st wt)[i]? = some (if f (rnk wt i) = true then seenAt st wt i else st[i]) := by
  unfold mixA seenAt
  rw [mix_get f _ st wt h]
  rcases hx : wt[i]? with _ | _ | x
  · simp [pickW, List.getElem?_eq_getElem h]
  · simp [pickW, List.getElem?_eq_getElem h]
  · simp [pickW, rnk_lt hx]
theorem mixA_none (f : Nat → Bool) (st : List (List UInt8)) (wt : Wt) (h : ∀ (i : Nat) (x : List UInt8), wt[i]? ≠ some (some x)) : mixA f st wt = st := by
  apply List.ext_getElem?
  intro i
  by_cases hi : i < st.length
  · rw [mixA_get f st wt hi, List.getElem?_eq_getElem hi]
    have : seenAt st wt i = st[i] := by
      unfold seenAt
      rcases hx : wt[i]? with _ | _ | x
      · simp [pickW, List.getElem?_eq_getElem hi]
      · simp [pickW, List.getElem?_eq_getElem hi]
      · exact absurd hx (h i x)
    rw [this]; simp
  · rw [List.getElem?_eq_none (by rw [mixA_length]; omega), List.getElem?_eq_none (by omega)]

/-! ### What the calls make -/
def keepF (kp : List Bool) (r : Nat) : Bool := kp[r]?.getD false
def Pl.n (P : Pl) : Nat := P.st.length
def power (P : Pl) (kp : List Bool) : Pl := ⟨mixA (keepF kp) P.st P.wt, List.replicate P.n none, true, -1, []⟩
def calmP (P : Pl) : Pl := { P with ah := -1, kp := [] }
def refE (P : Pl) : Int := if P.dead then 50 else 0
def lackE (P : Pl) (at_ : Int) : Int := if P.dead then 50 else if 0 ≤ at_ ∧ at_ < P.n then 0 else 9
/-- A doing that is counted (not one that fails). -/
def count (P : Pl) : Pl := if P.ah = -1 then P else { P with ah := P.ah - 1 }
def writeP (P : Pl) (at_ : Int) (b : List UInt8) : Int × Pl :=
  if lackE P at_ ≠ 0 then (lackE P at_, P) else if b.length ≠ 64 then (2, P) else if P.ah = 0 then (50, power P P.kp) else (0, { count P with wt := P.wt.set at_.toNat (some b) })
def flushP (P : Pl) : Int × Pl :=
  if P.dead then (50, P) else if P.ah = 0 then (50, power P P.kp) else (0, { count P with st := mixA (fun _ => true) P.st P.wt, wt := List.replicate P.n none })
def readP (P : Pl) (at_ : Int) : Int × List UInt8 := if lackE P at_ ≠ 0 then (lackE P at_, []) else (0, seenAt P.st P.wt at_.toNat)
def setFail (P : Pl) (n : Int) (keep : List Bool) : Pl := if n < 0 then calmP P else { P with ah := n, kp := keep.take P.n }
def failP (P : Pl) (n : Int) (keep : List Bool) : Int × Pl := if P.dead then (50, P) else (0, setFail P n keep)
def crashP (P : Pl) (keep : List Bool) : Int × Pl := if P.dead then (50, P) else (0, power P keep)
def bootP (P : Pl) : Pl := { calmP P with dead := false }
def flipB (s : List UInt8) (bit : Nat) : List UInt8 := s.set (bit / 8) ((s[bit / 8]?.getD 0) ^^^ (1 <<< UInt8.ofNat (bit % 8)))
def turnP (P : Pl) (at_ bit : Int) : Int × Pl :=
  if lackE P at_ ≠ 0 then (lackE P at_, P) else if 0 ≤ bit ∧ bit < 512 then
    (0, { P with st := P.st.set at_.toNat (flipB (seenAt P.st P.wt at_.toNat) bit.toNat), wt := P.wt.set at_.toNat none }) else (9, P)
def zero64 : List UInt8 := List.replicate 64 0
def newP (n : Nat) : Pl := ⟨List.replicate n zero64, List.replicate n none, false, -1, []⟩

/-- A plate as it may be. -/
structure Wl (P : Pl) : Prop where
  wt : P.wt.length = P.st.length
  st64 : ∀ s ∈ P.st, s.length = 64
  wt64 : ∀ s, some s ∈ P.wt → s.length = 64
  ah : -1 ≤ P.ah
  ahw : P.ah ≤ 9223372036854775807
  n1 : 1 ≤ P.st.length
  n2 : P.st.length ≤ 4096
  kp : P.kp.length ≤ P.st.length
theorem newP_wl (n : Nat) (h1 : 1 ≤ n) (h2 : n ≤ 4096) : Wl (newP n) := by
  refine ⟨by simp [newP], fun s hs => ?_, fun s hs => ?_, by simp [newP], by simp [newP], by simp [newP]; omega, by simp [newP]; omega, by simp [newP]⟩
  · have := List.eq_of_mem_replicate hs; rw [this]; rfl
  · have := List.eq_of_mem_replicate hs; cases this
section
variable {P : Pl}
theorem Wl.seen (h : Wl P) {i : Nat} (hi : i < P.n) : (seenAt P.st P.wt i).length = 64 := by
  have hi' : i < P.st.length := hi
  have h64 := h.st64 _ (List.getElem_mem hi')
  unfold seenAt
  rcases hx : P.wt[i]? with _ | _ | x
  · simp [pickW, List.getElem?_eq_getElem hi', h64]
  · simp [pickW, List.getElem?_eq_getElem hi', h64]
  · exact h.wt64 x (List.mem_of_getElem? hx)
theorem Wl.all64 (h : Wl P) (f : Nat → Bool) : ∀ s ∈ mixA f P.st P.wt, s.length = 64 := by
  intro s hs
  obtain ⟨i, hi, e⟩ := List.getElem_of_mem hs
  rw [mixA_length] at hi
  have := mixA_get f P.st P.wt hi
  rw [List.getElem?_eq_getElem (by rw [mixA_length]; exact hi), e] at this
  injection this with this
  rw [this]
  split
  · exact h.seen hi
  · exact h.st64 _ (List.getElem_mem hi)
theorem Wl.mixj (h : Wl P) (f : Nat → Bool) (j : Nat) : ∀ s ∈ mix f j P.st P.wt, s.length = 64 := by
  intro s hs
  obtain ⟨i, hi, e⟩ := List.getElem_of_mem hs
  rw [mix_length] at hi
  have := mix_get f j P.st P.wt hi
  rw [List.getElem?_eq_getElem (by rw [mix_length]; exact hi), e] at this
  injection this with this
  have h64 := h.st64 _ (List.getElem_mem hi)
  rw [this]
  rcases hx : P.wt[i]? with _ | _ | x
  · exact h64
  · exact h64
  · have := h.wt64 x (List.mem_of_getElem? hx)
    simp only [pickW]
    split <;> assumption
theorem Wl.withSt (h : Wl P) (st : List (List UInt8)) (hl : st.length = P.st.length) (h64 : ∀ s ∈ st, s.length = 64) : Wl { P with st := st } :=
  ⟨h.wt.trans hl.symm, h64, h.wt64, h.ah, h.ahw, by rw [hl]; exact h.n1, by rw [hl]; exact h.n2, by rw [hl]; exact h.kp⟩
theorem Wl.withWt (h : Wl P) (wt : Wt) (hl : wt.length = P.st.length) (h64 : ∀ s, some s ∈ wt → s.length = 64) : Wl { P with wt := wt } :=
  ⟨hl, h.st64, h64, h.ah, h.ahw, h.n1, h.n2, h.kp⟩
theorem Wl.withNone (h : Wl P) : Wl { P with wt := List.replicate P.st.length none } :=
  h.withWt _ (by simp) fun s hs => by have := List.eq_of_mem_replicate hs; cases this
theorem Wl.withDead (h : Wl P) (b : Bool) : Wl { P with dead := b } := ⟨h.wt, h.st64, h.wt64, h.ah, h.ahw, h.n1, h.n2, h.kp⟩
theorem Wl.power (h : Wl P) (kp : List Bool) : Wl (power P kp) := by
  have h1 := h.n1
  have h2 := h.n2
  refine ⟨?_, h.all64 _, fun s hs => ?_, by simp [Proofs.Ytmcbjcopipafdaa.power], by simp [Proofs.Ytmcbjcopipafdaa.power], ?_, ?_, by simp [Proofs.Ytmcbjcopipafdaa.power]⟩
  · show (List.replicate P.n none).length = (mixA (keepF kp) P.st P.wt).length
    rw [mixA_length, List.length_replicate]; rfl
  · have := List.eq_of_mem_replicate (show some s ∈ List.replicate P.n none from hs); cases this
  · show 1 ≤ (mixA (keepF kp) P.st P.wt).length
    rw [mixA_length]; exact h1
  · show (mixA (keepF kp) P.st P.wt).length ≤ 4096
    rw [mixA_length]; exact h2
theorem Wl.calm (h : Wl P) : Wl (calmP P) := ⟨h.wt, h.st64, h.wt64, by simp [calmP], by simp [calmP], h.n1, h.n2, by simp [calmP]⟩
theorem Wl.count (h : Wl P) (h0 : P.ah ≠ 0) : Wl (count P) := by
  unfold Proofs.Ytmcbjcopipafdaa.count
  split
  · exact h
  · have := h.ah; have := h.ahw
    exact ⟨h.wt, h.st64, h.wt64, by show -1 ≤ P.ah - 1; omega, by show P.ah - 1 ≤ _; omega, h.n1, h.n2, h.kp⟩
theorem count_st (P : Pl) : (count P).st = P.st := by unfold count; split <;> rfl
theorem count_wt (P : Pl) : (count P).wt = P.wt := by unfold count; split <;> rfl
theorem count_dead (P : Pl) : (count P).dead = P.dead := by unfold count; split <;> rfl
theorem count_kp (P : Pl) : (count P).kp = P.kp := by unfold count; split <;> rfl
theorem Wl.put (h : Wl P) (i : Nat) (b : List UInt8) (hb : b.length = 64) : Wl { P with wt := P.wt.set i (some b) } := by
  refine ⟨by show (P.wt.set i (some b)).length = _; rw [List.length_set]; exact h.wt, h.st64, fun s hs => ?_, h.ah, h.ahw, h.n1, h.n2, h.kp⟩
  rcases List.mem_or_eq_of_mem_set hs with hs | hs
  · exact h.wt64 s hs
  · injection hs with hs; rw [hs]; exact hb
theorem Wl.flush (h : Wl P) : Wl { P with st := mixA (fun _ => true) P.st P.wt, wt := List.replicate P.n none } := by
  have := h.power []
  exact ⟨by show (List.replicate P.n none).length = (mixA (fun _ => true) P.st P.wt).length; rw [mixA_length, List.length_replicate]; rfl, h.all64 (fun _ => true), this.wt64, h.ah, h.ahw,
    by show 1 ≤ (mixA (fun _ => true) P.st P.wt).length; rw [mixA_length]; exact h.n1, by show (mixA (fun _ => true) P.st P.wt).length ≤ 4096; rw [mixA_length]; exact h.n2, by show P.kp.length ≤ (mixA (fun _ => true) P.st P.wt).length; rw [mixA_length]; exact h.kp⟩
theorem Wl.turn (h : Wl P) (i : Nat) (s : List UInt8) (hs : s.length = 64) : Wl { P with st := P.st.set i s, wt := P.wt.set i none } := by
  refine ⟨by show (P.wt.set i none).length = (P.st.set i s).length; rw [List.length_set, List.length_set]; exact h.wt, fun x hx => ?_, fun x hx => ?_, h.ah, h.ahw, ?_, ?_, ?_⟩
  · rcases List.mem_or_eq_of_mem_set hx with hx | hx
    · exact h.st64 x hx
    · rw [hx]; exact hs
  · rcases List.mem_or_eq_of_mem_set hx with hx | hx
    · exact h.wt64 x hx
    · cases hx
  · show 1 ≤ (P.st.set i s).length; rw [List.length_set]; exact h.n1
  · show (P.st.set i s).length ≤ 4096; rw [List.length_set]; exact h.n2
  · show P.kp.length ≤ (P.st.set i s).length; rw [List.length_set]; exact h.kp
end

/-! ### The flat row -/
def flat (st : List (List UInt8)) : List Value := st.flatMap cbs
theorem flat_length {st : List (List UInt8)} (h : ∀ s ∈ st, s.length = 64) : (flat st).length = st.length * 64 := by
  induction st with
  | nil => rfl
  | cons s st ih =>
    unfold flat at ih ⊢
    rw [List.flatMap_cons, List.length_append, cbs_length, h s (by simp), ih (fun x hx => h x (by simp [hx])), List.length_cons]
    omega
theorem flat_split {st : List (List UInt8)} {i : Nat} (hi : i < st.length) : flat st = flat (st.take i) ++ (cbs st[i] ++ flat (st.drop (i + 1))) := by
  have e : st = st.take i ++ st[i] :: st.drop (i + 1) := by rw [List.getElem_cons_drop, List.take_append_drop]
  refine (congrArg flat e).trans ?_
  unfold flat
  rw [List.flatMap_append, List.flatMap_cons]
theorem flat_at {st : List (List UInt8)} (h : ∀ s ∈ st, s.length = 64) {i : Nat} (hi : i < st.length) {k : Nat} (hk : k < 64) : (flat st)[i * 64 + k]? = (cbs st[i])[k]? := by
  have hl : (flat (st.take i)).length = i * 64 := by
    rw [flat_length (fun s hs => h s (List.mem_of_mem_take hs)), List.length_take, Nat.min_eq_left (by omega)]
  have h64 : st[i].length = 64 := h _ (List.getElem_mem hi)
  rw [flat_split hi, List.getElem?_append_right (by omega), hl, Nat.add_sub_cancel_left, List.getElem?_append_left (by rw [cbs_length, h64]; exact hk)]
theorem flat_set {st : List (List UInt8)} (h : ∀ s ∈ st, s.length = 64) {i : Nat} (hi : i < st.length) (s : List UInt8) (hs : s.length = 64) :
    flat (st.set i s) = (flat st).take (i * 64) ++ cbs s ++ (flat st).drop (i * 64 + 64) := by
  have hl : (flat (st.take i)).length = i * 64 := by
    rw [flat_length (fun s hs => h s (List.mem_of_mem_take hs)), List.length_take, Nat.min_eq_left (by omega)]
  have h64 : (cbs st[i]).length = 64 := by rw [cbs_length]; exact h _ (List.getElem_mem hi)
  have e : flat (st.set i s) = flat (st.take i) ++ (cbs s ++ flat (st.drop (i + 1))) := by
    have hi' : i < (st.set i s).length := by rw [List.length_set]; exact hi
    rw [flat_split hi', List.take_set_of_le (Nat.le_refl i), List.drop_set_of_lt (Nat.lt_succ_self i), List.getElem_set_self]
  rw [e, flat_split hi, List.take_left' hl, List.append_assoc]
  congr 2
  rw [← List.append_assoc, List.drop_left' (by rw [List.length_append, hl, h64])]
end Go.Proofs.Ytmcbjcopipafdaa
