/-
  Crews, as plain lists: votes, ranks, sorted lists, sets told by bits.
-/
import Derived.Test.YtjibbbfpbflgmaaCrewP
namespace Go.Proofs.Ytjibbbfpbflgmaa.CrewP
set_option linter.unusedVariables false

/-! ### Sorted lists -/
abbrev sortL (l : List Int) : List Int := l.mergeSort fun x y => decide (x ≤ y)
theorem sort_le (l : List Int) : (sortL l).Pairwise (· ≤ ·) := by
  have := List.pairwise_mergeSort (le := fun x y : Int => decide (x ≤ y)) (fun a b c => by simp; omega) (fun a b => by simp; omega) l
  exact this.imp (by simp)
theorem sort_perm (l : List Int) : (sortL l).Perm l := List.mergeSort_perm l _
theorem sort_len (l : List Int) : (sortL l).length = l.length := (sort_perm l).length_eq
theorem asc_of {l : List Int} (h : l.Pairwise (· ≤ ·)) (hn : l.Nodup) : Asc l := by
  refine (h.and hn).imp ?_
  rintro a b ⟨h1, h2⟩
  omega
theorem sort_of {l m : List Int} (hp : l.Perm m) (hm : Asc m) : sortL l = m := by
  have hp' := (sort_perm l).trans hp
  exact asc_ext (asc_of (sort_le l) (hp'.nodup_iff.2 (asc_nodup hm))) hm fun x => hp'.mem_iff

/-- What Make answers. -/
def makeR (f : Int) (l : List Int) : Int × List Int × Int := if sizeOk f l.length && rise 0 (sortL l) then (f, sortL l, 0) else (0, [], 2)

/-! ### The document's crew of a list -/
def ofTo (l : List Int) (n : Nat) : List Int := (List.range n).filterMap fun (k : Nat) => if ((k : Int) + 1) ∈ l then some ((k : Int) + 1) else none
theorem ofTo_succ (l : List Int) (n : Nat) : ofTo l (n + 1) = ofTo l n ++ (if ((n : Int) + 1) ∈ l then [(n : Int) + 1] else []) := by
  unfold ofTo
  rw [List.range_succ, List.filterMap_append]
  congr 1
  by_cases h : ((n : Int) + 1) ∈ l <;> simp [h]
theorem ofTo_mem (l : List Int) (n : Nat) (x : Int) : x ∈ ofTo l n ↔ (1 ≤ x ∧ x ≤ n) ∧ x ∈ l := by
  induction n with
  | zero => simp [ofTo]; omega
  | succ n ih =>
    rw [ofTo_succ, List.mem_append, ih]
    by_cases h : ((n : Int) + 1) ∈ l
    · rw [if_pos h, List.mem_singleton]
      constructor
      · rintro (⟨h1, h2⟩ | rfl)
        · exact ⟨by omega, h2⟩
        · exact ⟨by omega, h⟩
      · rintro ⟨h1, h2⟩
        by_cases hx : x = n + 1
        · exact .inr hx
        · exact .inl ⟨by omega, h2⟩
    · rw [if_neg h]
      constructor
      · rintro (⟨h1, h2⟩ | hx)
        · exact ⟨by omega, h2⟩
        · simp at hx
      · rintro ⟨h1, h2⟩
        have hx : x ≠ n + 1 := by rintro rfl; exact h h2
        exact .inl ⟨by omega, h2⟩
theorem ofTo_asc (l : List Int) (n : Nat) : Asc (ofTo l n) := by
  induction n with
  | zero => simp [ofTo, Asc]
  | succ n ih =>
    rw [ofTo_succ, Asc, List.pairwise_append]
    refine ⟨ih, by split <;> simp, fun a ha b hb => ?_⟩
    have := ((ofTo_mem l n a).1 ha).1
    split at hb
    · simp at hb; omega
    · simp at hb
theorem ofTo_len (l : List Int) (n : Nat) : (ofTo l n).length ≤ n := by
  have := List.length_filterMap_le (fun k : Nat => if ((k : Int) + 1) ∈ l then some ((k : Int) + 1) else none) (List.range n)
  rwa [List.length_range] at this
theorem perm_of_sub : ∀ {m l : List Int}, m.Nodup → (∀ x ∈ m, x ∈ l) → l.length ≤ m.length → m.Perm l
  | [], l, _, _, h => by
    have : l = [] := List.eq_nil_of_length_eq_zero (by simpa using h)
    subst this
    exact List.Perm.refl _
  | x :: t, l, hn, hs, h => by
    obtain ⟨h1, h2⟩ := List.nodup_cons.1 hn
    have hx := hs x (List.mem_cons_self ..)
    have hle : (l.erase x).length ≤ t.length := by rw [List.length_erase_of_mem hx]; simp at h; omega
    refine (List.Perm.cons x (perm_of_sub h2 (fun y hy => ?_) hle)).trans (List.perm_cons_erase hx).symm
    have hne : y ≠ x := by rintro rfl; exact h1 hy
    exact (List.mem_erase_of_ne hne).2 (hs y (List.mem_cons_of_mem _ hy))
/-- The document's Make answers the same. -/
def makeD (f : Int) (l : List Int) : Int × List Int × Int := if okC f (ofTo l 28) = false ∨ (ofTo l 28).length ≠ l.length then (0, [], 2) else (f, ofTo l 28, 0)
theorem make_same (f : Int) (l : List Int) : makeD f l = makeR f l := by
  unfold makeD makeR
  by_cases h : sizeOk f l.length && rise 0 (sortL l)
  · rw [if_pos h]
    rw [Bool.and_eq_true, rise_iff] at h
    obtain ⟨h1, h2, h3⟩ := h
    have e : ofTo l 28 = sortL l := asc_ext (ofTo_asc l 28) h3 fun x => by
      rw [ofTo_mem, (sort_perm l).mem_iff]
      constructor
      · rintro ⟨_, hx⟩; exact hx
      · intro hx
        have := h2 x ((sort_perm l).mem_iff.2 hx)
        exact ⟨by omega, hx⟩
    rw [e, if_neg]
    rintro (h | h)
    · rw [okC, sort_len, h1, Bool.true_and] at h
      rw [(rise_iff 0 _).2 ⟨h2, h3⟩] at h
      cases h
    · exact h (sort_len l)
  · rw [if_neg h]
    by_cases hd : okC f (ofTo l 28) = false ∨ (ofTo l 28).length ≠ l.length
    · rw [if_pos hd]
    · exfalso
      have h1 : okC f (ofTo l 28) = true := by
        cases h : okC f (ofTo l 28)
        · exact absurd (.inl h) hd
        · rfl
      have h2 : (ofTo l 28).length = l.length := Decidable.byContradiction fun e => hd (.inr e)
      apply h
      have hp : (ofTo l 28).Perm l := perm_of_sub (asc_nodup (ofTo_asc l 28)) (fun x hx => ((ofTo_mem l 28 x).1 hx).2) (by omega)
      rw [sort_of hp.symm (ofTo_asc l 28), ← h2]
      exact h1
theorem rep_same {l : List Int} (h : Asc l) (hl : ∀ x ∈ l, 1 ≤ x ∧ x ≤ 28) {o n : Int} (hn : n ∉ l) (hN : isN n = true) : ofTo (othersL l o ++ [n]) 28 = repL l o n := by
  refine asc_ext (ofTo_asc _ _) (rep_asc h hn) fun x => ?_
  rw [ofTo_mem, rep_mem, List.mem_append, others_mem, List.mem_singleton]
  constructor
  · exact fun h => h.2
  · intro hx
    refine ⟨?_, hx⟩
    rcases hx with hx | rfl
    · have := hl x hx.1; omega
    · have := (isN_iff x).1 hN; omega

/-! ### Votes -/
theorem countP_inc (l : List Int) (p q : Int → Bool) : l.countP p + l.countP q ≤ l.length + l.countP (fun x => p x && q x) := by
  induction l with
  | nil => simp
  | cons x t ih =>
    rw [List.countP_cons, List.countP_cons, List.countP_cons, List.length_cons]
    cases p x <;> cases q x <;> simp <;> omega
theorem countP_incN (l : List Nat) (p q : Nat → Bool) : l.countP p + l.countP q ≤ l.length + l.countP (fun x => p x && q x) := by
  induction l with
  | nil => simp
  | cons x t ih =>
    rw [List.countP_cons, List.countP_cons, List.countP_cons, List.length_cons]
    cases p x <;> cases q x <;> simp <;> omega
theorem votes_len (l ns : List Int) : votesL l ns ≤ l.length := List.countP_le_length
/-- Those that are in a list of rising ones. -/
theorem votes_sub {l s : List Int} (h : Asc l) (hs : Asc s) (hm : ∀ x ∈ s, x ∈ l) : votesL l s = s.length := by
  have e : l.filter (fun x => decide (x ∈ s)) = s := asc_ext (h.filter _) hs fun x => by
    rw [List.mem_filter, decide_eq_true_eq]
    exact ⟨fun h => h.2, fun h => ⟨hm x h, h⟩⟩
  unfold votesL
  rw [List.countP_eq_length_filter, e]
theorem votes_more {l s : List Int} (h : l.Nodup) {k : Nat} (hk : k < l.length) (hs : l[k] ∉ s) : votesL l (s ++ [l[k]]) = votesL l s + 1 := by
  unfold votesL
  have h1 := List.getElem_mem hk
  generalize l[k] = y at *
  clear hk
  induction l with
  | nil => simp at h1
  | cons x t ih =>
    obtain ⟨h2, h3⟩ := List.nodup_cons.1 h
    rw [List.countP_cons, List.countP_cons]
    rcases List.mem_cons.1 h1 with rfl | h1
    · have : t.countP (fun x => decide (x ∈ s ++ [y])) = t.countP (fun x => decide (x ∈ s)) := by
        refine List.countP_congr fun z hz => ?_
        have : z ≠ y := by rintro rfl; exact h2 hz
        simp [this]
      rw [this]
      simp [hs]
    · have : x ≠ y := by rintro rfl; exact h2 h1
      rw [ih h3 h1]
      simp [this]
      omega

/-! ### Sets told by bits -/
def pick (p : Nat → Bool) (l : List Int) (n : Nat) : List Int := ((List.range n).filter p).map fun j => l.getD j 0
theorem pick_succ (p : Nat → Bool) (l : List Int) (n : Nat) : pick p l (n + 1) = pick p l n ++ (if p n then [l.getD n 0] else []) := by
  unfold pick
  rw [List.range_succ, List.filter_append, List.map_append]
  cases h : p n <;> simp [List.filter, h]
theorem pick_len (p : Nat → Bool) (l : List Int) (n : Nat) : (pick p l n).length = (List.range n).countP p := by
  unfold pick
  rw [List.length_map, List.countP_eq_length_filter]
theorem pick_le (p : Nat → Bool) (l : List Int) (n : Nat) : (pick p l n).length ≤ n := by
  rw [pick_len]
  exact Nat.le_trans List.countP_le_length (by simp)
theorem pick_mem (p : Nat → Bool) (l : List Int) (n : Nat) (hn : n ≤ l.length) : ∀ x ∈ pick p l n, x ∈ l := by
  intro x hx
  unfold pick at hx
  obtain ⟨j, hj, rfl⟩ := List.mem_map.1 hx
  have hj' := List.mem_range.1 (List.mem_filter.1 hj).1
  have : j < l.length := by omega
  simp [List.getD, List.getElem?_eq_getElem this]
theorem pick_asc (p : Nat → Bool) {l : List Int} (h : Asc l) : ∀ n, n ≤ l.length → Asc (pick p l n)
  | 0, _ => by simp [pick, Asc]
  | n + 1, hn => by
    rw [pick_succ, Asc, List.pairwise_append]
    refine ⟨pick_asc p h n (by omega), by split <;> simp, fun a ha b hb => ?_⟩
    unfold pick at ha
    obtain ⟨j, hj, rfl⟩ := List.mem_map.1 ha
    have hj' := List.mem_range.1 (List.mem_filter.1 hj).1
    split at hb
    · simp only [List.mem_singleton] at hb
      subst hb
      have h1 : j < l.length := by omega
      have h2 : n < l.length := by omega
      have := asc_lt h h1 h2 hj'
      simp only [List.getD, List.getElem?_eq_getElem h1, List.getElem?_eq_getElem h2, Option.getD_some]
      exact this
    · simp at hb
theorem votes_pick (p : Nat → Bool) {l : List Int} (h : Asc l) : votesL l (pick p l l.length) = (List.range l.length).countP p := by
  rw [votes_sub h (pick_asc p h _ (Nat.le_refl _)) (pick_mem p l _ (Nat.le_refl _)), pick_len]
/-- Two sets of most have some in common. -/
theorem meet {l : List Int} (h : Asc l) (p q : Nat → Bool) : votesL l (pick p l l.length) + votesL l (pick q l l.length) ≤ l.length + votesL l (pick (fun i => p i && q i) l l.length) := by
  rw [votes_pick p h, votes_pick q h, votes_pick _ h]
  have := countP_incN (List.range l.length) p q
  rwa [List.length_range] at this
theorem ins_count (l : List Int) (n : Int) (p : Int → Bool) : (insL l n).countP p = l.countP p + (if p n then 1 else 0) := by
  unfold insL
  rw [List.countP_append, List.countP_append, List.countP_singleton]
  have : l.countP p = (l.take (at_ l n)).countP p + (l.drop (at_ l n)).countP p := by rw [← List.countP_append, List.take_append_drop]
  omega
theorem meet_next {l : List Int} (h : Asc l) {o n : Int} (ho : o ∈ l) (hn : n ∉ l) {x y : List Int} (hx : Asc x) (hxl : ∀ z ∈ x, z ∈ l) :
    votesL l x + votesL (repL l o n) y ≤ l.length + 1 + x.countP (fun z => decide (z ∈ y)) := by
  have h1 := countP_inc (n :: l) (fun z => decide (z ∈ x)) (fun z => decide (z ∈ y))
  rw [List.countP_cons, List.countP_cons, List.countP_cons, List.length_cons] at h1
  have hnx : n ∉ x := fun e => hn (hxl n e)
  have h2 : votesL (repL l o n) y ≤ l.countP (fun z => decide (z ∈ y)) + (if decide (n ∈ y) = true then 1 else 0) := by
    unfold votesL repL
    rw [ins_count]
    have : (othersL l o).countP (fun z => decide (z ∈ y)) ≤ l.countP (fun z => decide (z ∈ y)) := List.Sublist.countP_le List.filter_sublist
    omega
  have h3 : l.countP (fun z => decide (z ∈ x) && decide (z ∈ y)) = x.countP (fun z => decide (z ∈ y)) := by
    have e : l.filter (fun z => decide (z ∈ x)) = x := asc_ext (h.filter _) hx fun z => by
      rw [List.mem_filter, decide_eq_true_eq]
      exact ⟨fun h => h.2, fun h => ⟨hxl z h, h⟩⟩
    rw [← e, List.countP_filter, e]
    refine List.countP_congr fun z _ => ?_
    rw [Bool.and_comm]
  rw [h3] at h1
  simp only [hnx, decide_false, Bool.false_and] at h1
  unfold votesL at h2 ⊢
  simp at h1 h2 ⊢
  omega
theorem votes_old {l : List Int} (h : Asc l) {o n : Int} (ho : o ∈ l) (hn : n ∉ l) : votesL (repL l o n) l = l.length - 1 := by
  unfold votesL repL
  rw [ins_count, if_neg (by simp [hn]), ← others_len h ho, Nat.add_zero, List.countP_eq_length]
  intro z hz
  simpa using ((others_mem l o z).1 hz).1
theorem there {l : List Int} (h : Asc l) {o n : Int} (ho : o ∈ l) (hn : n ∉ l) : repL (repL l o n) n o = l := by
  have hne : o ≠ n := by rintro rfl; exact hn ho
  have h1 : o ∉ repL l o n := fun e => by
    rcases (rep_mem l o n o).1 e with h | h
    · exact h.2 rfl
    · exact hne h
  refine asc_ext (rep_asc (rep_asc h hn) h1) h fun x => ?_
  rw [rep_mem, rep_mem]
  constructor
  · rintro (⟨⟨h1, _⟩ | h1, h2⟩ | rfl)
    · exact h1
    · exact absurd h1 h2
    · exact ho
  · intro hx
    by_cases e : x = o
    · exact .inr e
    · exact .inl ⟨.inl ⟨hx, e⟩, by rintro rfl; exact hn hx⟩

/-! ### Ranks -/
abbrev downL (l : List Int) : List Int := l.mergeSort fun x y => decide (y ≤ x)
theorem down_ge (l : List Int) : (downL l).Pairwise (fun x y => y ≤ x) := by
  have := List.pairwise_mergeSort (le := fun x y : Int => decide (y ≤ x)) (fun a b c => by simp; omega) (fun a b => by simp; omega) l
  exact this.imp (by simp)
theorem down_perm (l : List Int) : (downL l).Perm l := List.mergeSort_perm l _
theorem down_len (l : List Int) : (downL l).length = l.length := (down_perm l).length_eq
def rankL (l : List Int) (m : Nat) : Int := (downL l).getD (m - 1) 0
theorem rank_at {l : List Int} {m : Nat} (h1 : 1 ≤ m) (h2 : m ≤ l.length) : (downL l)[m - 1]? = some (rankL l m) := by
  have h : m - 1 < (downL l).length := by rw [down_len]; omega
  unfold rankL
  simp [List.getD, List.getElem?_eq_getElem h]
theorem rank_reached {l : List Int} {m : Nat} (h1 : 1 ≤ m) (h2 : m ≤ l.length) : m ≤ l.countP (fun x => decide (rankL l m ≤ x)) := by
  rw [← (down_perm l).countP_eq]
  have hk : m - 1 < (downL l).length := by rw [down_len]; omega
  have e := rank_at h1 h2
  rw [List.getElem?_eq_getElem hk] at e
  injection e with e
  have ht : (downL l).countP (fun x => decide (rankL l m ≤ x)) = ((downL l).take m).countP (fun x => decide (rankL l m ≤ x)) + ((downL l).drop m).countP (fun x => decide (rankL l m ≤ x)) := by rw [← List.countP_append, List.take_append_drop]
  have h3 : ((downL l).take m).countP (fun x => decide (rankL l m ≤ x)) = m := by
    have : ((downL l).take m).length = m := by rw [List.length_take, down_len]; omega
    conv => rhs; rw [← this]
    rw [List.countP_eq_length]
    intro x hx
    obtain ⟨j, hj, rfl⟩ := List.mem_iff_getElem.1 hx
    rw [this] at hj
    rw [List.getElem_take, decide_eq_true_eq, ← e]
    rcases Nat.lt_or_ge j (m - 1) with hlt | hge
    · exact (List.pairwise_iff_getElem.1 (down_ge l)) j (m - 1) (by omega) hk hlt
    · have : j = m - 1 := by omega
      subst this; exact Int.le_refl _
  omega
theorem rank_above {l : List Int} {m : Nat} (h1 : 1 ≤ m) (h2 : m ≤ l.length) : l.countP (fun x => decide (rankL l m < x)) < m := by
  rw [← (down_perm l).countP_eq]
  have hk : m - 1 < (downL l).length := by rw [down_len]; omega
  have e := rank_at h1 h2
  rw [List.getElem?_eq_getElem hk] at e
  injection e with e
  have ht : (downL l).countP (fun x => decide (rankL l m < x)) = ((downL l).take (m - 1)).countP (fun x => decide (rankL l m < x)) + ((downL l).drop (m - 1)).countP (fun x => decide (rankL l m < x)) := by rw [← List.countP_append, List.take_append_drop]
  have h3 : ((downL l).drop (m - 1)).countP (fun x => decide (rankL l m < x)) = 0 := by
    rw [List.countP_eq_zero]
    intro x hx
    obtain ⟨j, hj, rfl⟩ := List.mem_iff_getElem.1 hx
    rw [List.length_drop] at hj
    rw [List.getElem_drop, decide_eq_true_eq, ← e]
    rcases Nat.lt_or_ge 0 j with hlt | hge
    · have := (List.pairwise_iff_getElem.1 (down_ge l)) (m - 1) (m - 1 + j) hk (by omega) (by omega)
      omega
    · have : m - 1 + j = m - 1 := by omega
      simp only [this]; omega
  have h4 : ((downL l).take (m - 1)).countP (fun x => decide (rankL l m < x)) ≤ m - 1 := Nat.le_trans List.countP_le_length (by rw [List.length_take]; omega)
  omega
theorem rank_mem {l : List Int} {m : Nat} (h1 : 1 ≤ m) (h2 : m ≤ l.length) : rankL l m ∈ l := (down_perm l).mem_iff.1 (List.mem_of_getElem? (rank_at h1 h2))
/-- What is reached by so many is not above the rank. -/
theorem rank_most {l : List Int} {m : Nat} (h1 : 1 ≤ m) (h2 : m ≤ l.length) {x : Int} (hx : m ≤ l.countP (fun y => decide (x ≤ y))) : x ≤ rankL l m := by
  rcases Int.lt_or_le (rankL l m) x with h | h
  · have h3 := rank_above h1 h2
    have h4 : l.countP (fun y => decide (x ≤ y)) ≤ l.countP (fun y => decide (rankL l m < y)) := List.countP_mono_left fun y _ hy => by simp at hy ⊢; omega
    omega
  · exact h
theorem rank_falls {l : List Int} {m : Nat} (h1 : 1 ≤ m) (h2 : m + 1 ≤ l.length) : rankL l (m + 1) ≤ rankL l m :=
  rank_most h1 (by omega) (Nat.le_trans (by omega) (rank_reached (l := l) (m := m + 1) (by omega) h2))
theorem rank_rises {l u : List Int} {m : Nat} (hl : l.length = u.length) (hu : ∀ i (h1 : i < l.length) (h2 : i < u.length), l[i] ≤ u[i]) (h1 : 1 ≤ m) (h2 : m ≤ l.length) : rankL l m ≤ rankL u m := by
  refine rank_most h1 (by omega) (Nat.le_trans (rank_reached h1 h2) ?_)
  generalize rankL l m = r
  clear h1 h2
  induction l generalizing u with
  | nil => simp
  | cons a t ih =>
    cases u with
    | nil => simp at hl
    | cons b s =>
      rw [List.countP_cons, List.countP_cons]
      have h0 := hu 0 (by simp) (by simp)
      simp at h0
      have := ih (u := s) (by simpa using hl) (fun i h1 h2 => by have := hu (i + 1) (by simpa using h1) (by simpa using h2); simpa using this)
      by_cases h : r ≤ a
      · have : r ≤ b := by omega
        simp [h, this]; omega
      · simp [h]; split <;> omega
def rankR (f : Int) (l reached : List Int) (m : Int) : Int × Int :=
  if okC f l = false then (0, 110) else if reached.length ≠ l.length ∨ m < 1 ∨ (l.length : Int) < m then (0, 2) else (rankL reached m.toNat, 0)
end Go.Proofs.Ytjibbbfpbflgmaa.CrewP
