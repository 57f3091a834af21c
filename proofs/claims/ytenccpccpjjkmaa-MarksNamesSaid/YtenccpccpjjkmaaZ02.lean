/-
  Laid together for a hand-in: CrewP, CrewQ, Mp15.
-/
import Derived.Test.YtenccpccpjjkmaaZ01

namespace Go.Proofs.Ytenccpccpjjkmaa.CrewP

set_option linter.unusedVariables false

def isN (n : Int) : Bool := decide (1 ≤ n) && decide (n ≤ 28)

def rise (a : Int) : List Int → Bool
  | [] => true
  | n :: t => (isN n && decide (a < n)) && rise n t

def sizeOk (f n : Int) : Bool := (decide (0 ≤ f) && decide (f ≤ 2)) && decide (n = 3 * f + 1)

def okC (f : Int) (l : List Int) : Bool := sizeOk f l.length && rise 0 l

def lt_ (n x : Int) : Bool := decide (x < n)

def at_ (l : List Int) (n : Int) : Nat := l.countP (fun x => decide (x < n))

abbrev Asc (l : List Int) : Prop := l.Pairwise (· < ·)

theorem isN_iff (n : Int) : isN n = true ↔ 1 ≤ n ∧ n ≤ 28 := by simp [isN]

theorem rise_iff : ∀ (a : Int) (l : List Int), rise a l = true ↔ (∀ x ∈ l, 1 ≤ x ∧ x ≤ 28 ∧ a < x) ∧ Asc l
  | a, [] => by simp [rise]
  | a, n :: t => by
    rw [rise, Bool.and_eq_true, Bool.and_eq_true, isN_iff, rise_iff n t, decide_eq_true_eq, Asc, Asc, List.pairwise_cons]
    constructor
    · rintro ⟨⟨⟨h1, h2⟩, h3⟩, h4, h5⟩
      refine ⟨fun x hx => ?_, fun x hx => (h4 x hx).2.2, h5⟩
      rcases List.mem_cons.1 hx with rfl | hx
      · exact ⟨h1, h2, h3⟩
      · have := h4 x hx; omega
    · rintro ⟨h1, h2, h3⟩
      have := h1 n (List.mem_cons_self ..)
      exact ⟨⟨⟨this.1, this.2.1⟩, this.2.2⟩, fun x hx => ⟨(h1 x (List.mem_cons_of_mem _ hx)).1, (h1 x (List.mem_cons_of_mem _ hx)).2.1, h2 x hx⟩, h3⟩

theorem rise_snoc (a : Int) (l : List Int) (x : Int) : rise a (l ++ [x]) = (rise a l && (isN x && decide (l.getLastD a < x))) := by
  induction l generalizing a with
  | nil => simp [rise]
  | cons n t ih =>
    have e : (n :: t).getLastD a = t.getLastD n := by cases t <;> rfl
    rw [List.cons_append, rise, ih, rise, e, Bool.and_assoc (isN n && decide (a < n))]

theorem sizeOk_iff (f n : Int) : sizeOk f n = true ↔ 0 ≤ f ∧ f ≤ 2 ∧ n = 3 * f + 1 := by simp [sizeOk, and_assoc]

theorem okC_iff (f : Int) (l : List Int) : okC f l = true ↔ (0 ≤ f ∧ f ≤ 2 ∧ (l.length : Int) = 3 * f + 1) ∧ (∀ x ∈ l, 1 ≤ x ∧ x ≤ 28) ∧ Asc l := by
  rw [okC, Bool.and_eq_true, sizeOk_iff, rise_iff]
  constructor
  · rintro ⟨h1, h2, h3⟩
    exact ⟨h1, fun x hx => ⟨(h2 x hx).1, (h2 x hx).2.1⟩, h3⟩
  · rintro ⟨h1, h2, h3⟩
    exact ⟨h1, fun x hx => ⟨(h2 x hx).1, (h2 x hx).2, by have := (h2 x hx).1; omega⟩, h3⟩

/-- Rising lists with the same members are the same. -/
theorem asc_ext : ∀ {l m : List Int}, Asc l → Asc m → (∀ x, x ∈ l ↔ x ∈ m) → l = m
  | [], [], _, _, _ => rfl
  | [], y :: t, _, _, h => by have := (h y).2 (List.mem_cons_self ..); simp at this
  | x :: s, [], _, _, h => by have := (h x).1 (List.mem_cons_self ..); simp at this
  | x :: s, y :: t, hl, hm, h => by
    obtain ⟨h1, h2⟩ := List.pairwise_cons.1 hl
    obtain ⟨h3, h4⟩ := List.pairwise_cons.1 hm
    have exy : x = y := by
      have a := (h x).1 (List.mem_cons_self ..)
      have b := (h y).2 (List.mem_cons_self ..)
      rcases List.mem_cons.1 a with e | a
      · exact e
      rcases List.mem_cons.1 b with e | b
      · exact e.symm
      have := h1 y b; have := h3 x a; omega
    subst exy
    rw [asc_ext h2 h4 fun z => ?_]
    constructor
    · intro hz
      have := (h z).1 (List.mem_cons_of_mem _ hz)
      rcases List.mem_cons.1 this with rfl | hz'
      · have := h1 z hz; omega
      · exact hz'
    · intro hz
      have := (h z).2 (List.mem_cons_of_mem _ hz)
      rcases List.mem_cons.1 this with rfl | hz'
      · have := h3 z hz; omega
      · exact hz'

theorem asc_nodup {l : List Int} (h : Asc l) : l.Nodup := h.imp fun h => by omega

theorem asc_lt {l : List Int} (h : Asc l) {i j : Nat} (hi : i < l.length) (hj : j < l.length) (hij : i < j) : l[i] < l[j] := (List.pairwise_iff_getElem.1 h) i j hi hj hij

/-- How many are below n: these are the first ones. -/
theorem at_lt {l : List Int} (h : Asc l) (n : Int) {i : Nat} (hi : i < l.length) : i < at_ l n ↔ l[i] < n := by
  induction l generalizing i with
  | nil => simp at hi
  | cons x t ih =>
    obtain ⟨h1, h2⟩ := List.pairwise_cons.1 h
    unfold at_ at ih ⊢
    rw [List.countP_cons]
    cases i with
    | zero =>
      simp only [List.getElem_cons_zero, decide_eq_true_eq]
      by_cases hx : x < n
      · simp [hx]
      · rw [if_neg hx]
        have : List.countP (fun x => decide (x < n)) t = 0 := by
          rw [List.countP_eq_zero]
          intro y hy
          have := h1 y hy
          simp; omega
        simp [this, hx]
    | succ i =>
      simp only [List.getElem_cons_succ, decide_eq_true_eq]
      have hi' : i < t.length := by simpa using hi
      have := ih h2 hi'
      by_cases hx : x < n
      · rw [if_pos hx]
        constructor
        · intro h; exact this.1 (by omega)
        · intro h; have := this.2 h; omega
      · rw [if_neg hx]
        have h0 : List.countP (fun x => decide (x < n)) t = 0 := by
          rw [List.countP_eq_zero]
          intro y hy
          have := h1 y hy
          simp; omega
        have hy := h1 t[i] (List.getElem_mem hi')
        rw [h0]
        constructor
        · intro h; omega
        · intro h; omega

theorem at_le (l : List Int) (n : Int) : at_ l n ≤ l.length := List.countP_le_length

theorem at_found {l : List Int} (h : Asc l) (n : Int) : (∃ hi : at_ l n < l.length, l[at_ l n] = n) ↔ n ∈ l := by
  constructor
  · rintro ⟨hi, e⟩; rw [← e]; exact List.getElem_mem hi
  · intro hn
    obtain ⟨j, hj, e⟩ := List.mem_iff_getElem.1 hn
    have h1 : ¬ j < at_ l n := by rw [at_lt h n hj]; omega
    have hi : at_ l n < l.length := by omega
    refine ⟨hi, ?_⟩
    have h2 : ¬ at_ l n < at_ l n := by omega
    rw [at_lt h n hi] at h2
    rcases Nat.lt_or_ge (at_ l n) j with hlt | hge
    · have := asc_lt h hi hj hlt; omega
    · have : j = at_ l n := by omega
      subst this; exact e

theorem at_get {l : List Int} (h : Asc l) {n : Int} (hn : n ∈ l) : l[at_ l n]? = some n := by
  obtain ⟨hi, e⟩ := (at_found h n).2 hn
  rw [List.getElem?_eq_getElem hi, e]

theorem at_idx {l : List Int} (h : Asc l) {i : Nat} (hi : i < l.length) : at_ l l[i] = i := by
  have h1 : ¬ i < at_ l l[i] := by rw [at_lt h _ hi]; omega
  rcases Nat.lt_or_ge (at_ l l[i]) i with hlt | hge
  · have hk : at_ l l[i] < l.length := by omega
    have h2 : ¬ at_ l l[i] < at_ l l[i] := by omega
    rw [at_lt h _ hk] at h2
    have := asc_lt h hk hi hlt; omega
  · omega

/-! ### Others, Replace -/

def othersL (l : List Int) (n : Int) : List Int := l.filter (fun x => x ≠ n)

def insL (l : List Int) (n : Int) : List Int := l.take (at_ l n) ++ [n] ++ l.drop (at_ l n)

theorem others_mem (l : List Int) (n x : Int) : x ∈ othersL l n ↔ x ∈ l ∧ x ≠ n := by simp [othersL]

theorem others_asc {l : List Int} (h : Asc l) (n : Int) : Asc (othersL l n) := h.filter _

theorem others_none {l : List Int} {n : Int} (hn : n ∉ l) : othersL l n = l := by
  unfold othersL
  rw [List.filter_eq_self]
  intro x hx
  simp; rintro rfl; exact hn hx

theorem take_drop_mem {l : List Int} (h : Asc l) {n : Int} (hn : n ∈ l) : l.take (at_ l n) ++ l.drop (at_ l n + 1) = othersL l n := by
  have hA : Asc (l.take (at_ l n) ++ l.drop (at_ l n + 1)) := by
    have hs : (l.take (at_ l n) ++ l.drop (at_ l n + 1)).Sublist l := by
      have : (l.take (at_ l n) ++ l.drop (at_ l n + 1)).Sublist (l.take (at_ l n) ++ l.drop (at_ l n)) := List.Sublist.append (List.Sublist.refl _) (by rw [← List.drop_drop]; exact List.drop_sublist 1 _)
      rwa [List.take_append_drop] at this
    exact h.sublist hs
  refine asc_ext hA (others_asc h n) fun x => ?_
  rw [others_mem, List.mem_append]
  obtain ⟨hi, e⟩ := (at_found h n).2 hn
  constructor
  · rintro (hx | hx)
    · obtain ⟨j, hj, rfl⟩ := List.mem_iff_getElem.1 hx
      rw [List.length_take] at hj
      rw [List.getElem_take]
      refine ⟨List.getElem_mem _, ?_⟩
      have := asc_lt h (show j < l.length by omega) hi (by omega)
      omega
    · obtain ⟨j, hj, rfl⟩ := List.mem_iff_getElem.1 hx
      rw [List.length_drop] at hj
      rw [List.getElem_drop]
      refine ⟨List.getElem_mem _, ?_⟩
      have := asc_lt h hi (show at_ l n + 1 + j < l.length by omega) (by omega)
      omega
  · rintro ⟨hx, hne⟩
    obtain ⟨j, hj, rfl⟩ := List.mem_iff_getElem.1 hx
    rcases Nat.lt_trichotomy j (at_ l n) with hlt | rfl | hgt
    · left
      exact List.mem_iff_getElem.2 ⟨j, by rw [List.length_take]; omega, by rw [List.getElem_take]⟩
    · exact absurd e hne
    · right
      exact List.mem_iff_getElem.2 ⟨j - (at_ l n + 1), by rw [List.length_drop]; omega, by rw [List.getElem_drop]; congr 1; omega⟩

theorem others_len {l : List Int} (h : Asc l) {n : Int} (hn : n ∈ l) : (othersL l n).length = l.length - 1 := by
  rw [← take_drop_mem h hn]
  obtain ⟨hi, e⟩ := (at_found h n).2 hn
  rw [List.length_append, List.length_take, List.length_drop]; omega

theorem ins_mem (l : List Int) (n x : Int) : x ∈ insL l n ↔ x ∈ l ∨ x = n := by
  unfold insL
  rw [List.mem_append, List.mem_append]
  constructor
  · rintro ((hx | hx) | hx)
    · exact .inl (List.mem_of_mem_take hx)
    · exact .inr (by simpa using hx)
    · exact .inl (List.mem_of_mem_drop hx)
  · rintro (hx | rfl)
    · rw [← List.take_append_drop (at_ l n) l] at hx
      rcases List.mem_append.1 hx with hx | hx
      · exact .inl (.inl hx)
      · exact .inr hx
    · exact .inl (.inr (by simp))

theorem ins_len (l : List Int) (n : Int) : (insL l n).length = l.length + 1 := by
  have := at_le l n
  unfold insL
  rw [List.length_append, List.length_append, List.length_take, List.length_drop, List.length_singleton]; omega

theorem ins_asc {l : List Int} (h : Asc l) {n : Int} (hn : n ∉ l) : Asc (insL l n) := by
  have hle := at_le l n
  have h1 : ∀ x ∈ l.take (at_ l n), x < n := fun x hx => by
    obtain ⟨j, hj, rfl⟩ := List.mem_iff_getElem.1 hx
    rw [List.length_take] at hj
    rw [List.getElem_take]
    exact (at_lt h n (by omega)).1 (by omega)
  have h2 : ∀ x ∈ l.drop (at_ l n), n < x := fun x hx => by
    obtain ⟨j, hj, rfl⟩ := List.mem_iff_getElem.1 hx
    rw [List.length_drop] at hj
    rw [List.getElem_drop]
    have hj' : at_ l n + j < l.length := by omega
    have := mt (at_lt h n hj').2 (by omega)
    have hne : l[at_ l n + j] ≠ n := fun e => hn (e ▸ List.getElem_mem hj')
    omega
  unfold insL
  rw [Asc, List.append_assoc, List.pairwise_append]
  refine ⟨h.sublist (List.take_sublist ..), ?_, ?_⟩
  · rw [List.singleton_append, List.pairwise_cons]
    exact ⟨h2, h.sublist (List.drop_sublist ..)⟩
  · intro a ha b hb
    have := h1 a ha
    rw [List.singleton_append, List.mem_cons] at hb
    rcases hb with rfl | hb
    · exact this
    · have := h2 b hb; omega

def repL (l : List Int) (o n : Int) : List Int := insL (othersL l o) n

theorem rep_mem (l : List Int) (o n x : Int) : x ∈ repL l o n ↔ (x ∈ l ∧ x ≠ o) ∨ x = n := by rw [repL, ins_mem, others_mem]

theorem rep_asc {l : List Int} (h : Asc l) {o n : Int} (hn : n ∉ l) : Asc (repL l o n) := ins_asc (others_asc h o) fun e => hn ((others_mem l o n).1 e).1

theorem rep_len {l : List Int} (h : Asc l) {o n : Int} (ho : o ∈ l) (hn : n ∉ l) : (repL l o n).length = l.length := by
  rw [repL, ins_len, others_len h ho]
  have : 0 < l.length := List.length_pos_of_mem ho
  omega

theorem rep_ok {f : Int} {l : List Int} (h : okC f l = true) {o n : Int} (ho : o ∈ l) (hn : n ∉ l) (hN : isN n = true) : okC f (repL l o n) = true := by
  rw [okC_iff] at h ⊢
  obtain ⟨⟨h1, h2, h3⟩, h4, h5⟩ := h
  refine ⟨⟨h1, h2, by rw [rep_len h5 ho hn]; exact h3⟩, fun x hx => ?_, rep_asc h5 hn⟩
  rcases (rep_mem l o n x).1 hx with ⟨hx, _⟩ | rfl
  · exact h4 x hx
  · exact (isN_iff x).1 hN

/-- What Replace answers: the nodes, and the error. -/
def replaceR (f : Int) (l : List Int) (o n : Int) : Int × List Int × Int :=
  if okC f l = false then (0, [], 110) else if isN n = false then (0, [], 2) else if o ∉ l ∨ n ∈ l then (0, [], 110) else (f, repL l o n, 0)

/-! ### Votes -/

def votesL (l ns : List Int) : Nat := l.countP (fun x => decide (x ∈ ns))

def votesR (f : Int) (l ns : List Int) : Nat := if okC f l then votesL l ns else 0

end Go.Proofs.Ytenccpccpjjkmaa.CrewP

namespace Go.Proofs.Ytenccpccpjjkmaa.CrewP

set_option linter.unusedVariables false

/-! ### Sorted lists -/

abbrev sortL (l : List Int) : List Int := l.mergeSort fun x y => decide (x ≤ y)

theorem sort_le (l : List Int) : (sortL l).Pairwise (· ≤ ·) := by
  have := List.pairwise_mergeSort (le := fun x y : Int => decide (x ≤ y)) (fun a b c => by simp; omega) (fun a b => by simp; omega) l
  exact this.imp (by simp)

theorem sort_perm (l : List Int) : (sortL l).Perm l := List.mergeSort_perm l _

theorem sort_len (l : List Int) : (sortL l).length = l.length := (sort_perm l).length_eq

theorem asc_of {l : List Int} (h : l.Pairwise (· ≤ ·)) (hn : l.Nodup) : Asc l := by
  refine (h.and hn).imp ?_
  rintro a b ⟨h1, h2⟩
  omega

theorem sort_of {l m : List Int} (hp : l.Perm m) (hm : Asc m) : sortL l = m := by
  have hp' := (sort_perm l).trans hp
  exact asc_ext (asc_of (sort_le l) (hp'.nodup_iff.2 (asc_nodup hm))) hm fun x => hp'.mem_iff

/-- What Make answers. -/
def makeR (f : Int) (l : List Int) : Int × List Int × Int := if sizeOk f l.length && rise 0 (sortL l) then (f, sortL l, 0) else (0, [], 2)

/-! ### The document's crew of a list -/

def ofTo (l : List Int) (n : Nat) : List Int := (List.range n).filterMap fun (k : Nat) => if ((k : Int) + 1) ∈ l then some ((k : Int) + 1) else none

theorem ofTo_succ (l : List Int) (n : Nat) : ofTo l (n + 1) = ofTo l n ++ (if ((n : Int) + 1) ∈ l then [(n : Int) + 1] else []) := by
  unfold ofTo
  rw [List.range_succ, List.filterMap_append]
  congr 1
  by_cases h : ((n : Int) + 1) ∈ l <;> simp [h]

theorem ofTo_mem (l : List Int) (n : Nat) (x : Int) : x ∈ ofTo l n ↔ (1 ≤ x ∧ x ≤ n) ∧ x ∈ l := by
  induction n with
  | zero => simp [ofTo]; omega
  | succ n ih =>
    rw [ofTo_succ, List.mem_append, ih]
    by_cases h : ((n : Int) + 1) ∈ l
    · rw [if_pos h, List.mem_singleton]
      constructor
      · rintro (⟨h1, h2⟩ | rfl)
        · exact ⟨by omega, h2⟩
        · exact ⟨by omega, h⟩
      · rintro ⟨h1, h2⟩
        by_cases hx : x = n + 1
        · exact .inr hx
        · exact .inl ⟨by omega, h2⟩
    · rw [if_neg h]
      constructor
      · rintro (⟨h1, h2⟩ | hx)
        · exact ⟨by omega, h2⟩
        · simp at hx
      · rintro ⟨h1, h2⟩
        have hx : x ≠ n + 1 := by rintro rfl; exact h h2
        exact .inl ⟨by omega, h2⟩

theorem ofTo_asc (l : List Int) (n : Nat) : Asc (ofTo l n) := by
  induction n with
  | zero => simp [ofTo, Asc]
  | succ n ih =>
    rw [ofTo_succ, Asc, List.pairwise_append]
    refine ⟨ih, by split <;> simp, fun a ha b hb => ?_⟩
    have := ((ofTo_mem l n a).1 ha).1
    split at hb
    · simp at hb; omega
    · simp at hb

theorem ofTo_len (l : List Int) (n : Nat) : (ofTo l n).length ≤ n := by
  have := List.length_filterMap_le (fun k : Nat => if ((k : Int) + 1) ∈ l then some ((k : Int) + 1) else none) (List.range n)
  rwa [List.length_range] at this

theorem perm_of_sub : ∀ {m l : List Int}, m.Nodup → (∀ x ∈ m, x ∈ l) → l.length ≤ m.length → m.Perm l
  | [], l, _, _, h => by
    have : l = [] := List.eq_nil_of_length_eq_zero (by simpa using h)
    subst this
    exact List.Perm.refl _
  | x :: t, l, hn, hs, h => by
    obtain ⟨h1, h2⟩ := List.nodup_cons.1 hn
    have hx := hs x (List.mem_cons_self ..)
    have hle : (l.erase x).length ≤ t.length := by rw [List.length_erase_of_mem hx]; simp at h; omega
    refine (List.Perm.cons x (perm_of_sub h2 (fun y hy => ?_) hle)).trans (List.perm_cons_erase hx).symm
    have hne : y ≠ x := by rintro rfl; exact h1 hy
    exact (List.mem_erase_of_ne hne).2 (hs y (List.mem_cons_of_mem _ hy))

/-- The document's Make answers the same. -/
def makeD (f : Int) (l : List Int) : Int × List Int × Int := if okC f (ofTo l 28) = false ∨ (ofTo l 28).length ≠ l.length then (0, [], 2) else (f, ofTo l 28, 0)

theorem make_same (f : Int) (l : List Int) : makeD f l = makeR f l := by
  unfold makeD makeR
  by_cases h : sizeOk f l.length && rise 0 (sortL l)
  · rw [if_pos h]
    rw [Bool.and_eq_true, rise_iff] at h
    obtain ⟨h1, h2, h3⟩ := h
    have e : ofTo l 28 = sortL l := asc_ext (ofTo_asc l 28) h3 fun x => by
      rw [ofTo_mem, (sort_perm l).mem_iff]
      constructor
      · rintro ⟨_, hx⟩; exact hx
      · intro hx
        have := h2 x ((sort_perm l).mem_iff.2 hx)
        exact ⟨by omega, hx⟩
    rw [e, if_neg]
    rintro (h | h)
    · rw [okC, sort_len, h1, Bool.true_and] at h
      rw [(rise_iff 0 _).2 ⟨h2, h3⟩] at h
      cases h
    · exact h (sort_len l)
  · rw [if_neg h]
    by_cases hd : okC f (ofTo l 28) = false ∨ (ofTo l 28).length ≠ l.length
    · rw [if_pos hd]
    · exfalso
      have h1 : okC f (ofTo l 28) = true := by
        cases h : okC f (ofTo l 28)
        · exact absurd (.inl h) hd
        · rfl
      have h2 : (ofTo l 28).length = l.length := Decidable.byContradiction fun e => hd (.inr e)
      apply h
      have hp : (ofTo l 28).Perm l := perm_of_sub (asc_nodup (ofTo_asc l 28)) (fun x hx => ((ofTo_mem l 28 x).1 hx).2) (by omega)
      rw [sort_of hp.symm (ofTo_asc l 28), ← h2]
      exact h1

theorem rep_same {l : List Int} (h : Asc l) (hl : ∀ x ∈ l, 1 ≤ x ∧ x ≤ 28) {o n : Int} (hn : n ∉ l) (hN : isN n = true) : ofTo (othersL l o ++ [n]) 28 = repL l o n := by
  refine asc_ext (ofTo_asc _ _) (rep_asc h hn) fun x => ?_
  rw [ofTo_mem, rep_mem, List.mem_append, others_mem, List.mem_singleton]
  constructor
  · exact fun h => h.2
  · intro hx
    refine ⟨?_, hx⟩
    rcases hx with hx | rfl
    · have := hl x hx.1; omega
    · have := (isN_iff x).1 hN; omega

/-! ### Votes -/

theorem countP_inc (l : List Int) (p q : Int → Bool) : l.countP p + l.countP q ≤ l.length + l.countP (fun x => p x && q x) := by
  induction l with
  | nil => simp
  | cons x t ih =>
    rw [List.countP_cons, List.countP_cons, List.countP_cons, List.length_cons]
    cases p x <;> cases q x <;> simp <;> omega

theorem countP_incN (l : List Nat) (p q : Nat → Bool) : l.countP p + l.countP q ≤ l.length + l.countP (fun x => p x && q x) := by
  induction l with
  | nil => simp
  | cons x t ih =>
    rw [List.countP_cons, List.countP_cons, List.countP_cons, List.length_cons]
    cases p x <;> cases q x <;> simp <;> omega

theorem votes_len (l ns : List Int) : votesL l ns ≤ l.length := List.countP_le_length

/-- Those that are in a list of rising ones. -/
theorem votes_sub {l s : List Int} (h : Asc l) (hs : Asc s) (hm : ∀ x ∈ s, x ∈ l) : votesL l s = s.length := by
  have e : l.filter (fun x => decide (x ∈ s)) = s := asc_ext (h.filter _) hs fun x => by
    rw [List.mem_filter, decide_eq_true_eq]
    exact ⟨fun h => h.2, fun h => ⟨hm x h, h⟩⟩
  unfold votesL
  rw [List.countP_eq_length_filter, e]

theorem votes_more {l s : List Int} (h : l.Nodup) {k : Nat} (hk : k < l.length) (hs : l[k] ∉ s) : votesL l (s ++ [l[k]]) = votesL l s + 1 := by
  unfold votesL
  have h1 := List.getElem_mem hk
  generalize l[k] = y at *
  clear hk
  induction l with
  | nil => simp at h1
  | cons x t ih =>
    obtain ⟨h2, h3⟩ := List.nodup_cons.1 h
    rw [List.countP_cons, List.countP_cons]
    rcases List.mem_cons.1 h1 with rfl | h1
    · have : t.countP (fun x => decide (x ∈ s ++ [y])) = t.countP (fun x => decide (x ∈ s)) := by
        refine List.countP_congr fun z hz => ?_
        have : z ≠ y := by rintro rfl; exact h2 hz
        simp [this]
      rw [this]
      simp [hs]
    · have : x ≠ y := by rintro rfl; exact h2 h1
      rw [ih h3 h1]
      simp [this]
      omega

/-! ### Sets told by bits -/

def pick (p : Nat → Bool) (l : List Int) (n : Nat) : List Int := ((List.range n).filter p).map fun j => l.getD j 0

theorem pick_succ (p : Nat → Bool) (l : List Int) (n : Nat) : pick p l (n + 1) = pick p l n ++ (if p n then [l.getD n 0] else []) := by
  unfold pick
  rw [List.range_succ, List.filter_append, List.map_append]
  cases h : p n <;> simp [List.filter, h]

theorem pick_len (p : Nat → Bool) (l : List Int) (n : Nat) : (pick p l n).length = (List.range n).countP p := by
  unfold pick
  rw [List.length_map, List.countP_eq_length_filter]

theorem pick_le (p : Nat → Bool) (l : List Int) (n : Nat) : (pick p l n).length ≤ n := by
  rw [pick_len]
  exact Nat.le_trans List.countP_le_length (by simp)

theorem pick_mem (p : Nat → Bool) (l : List Int) (n : Nat) (hn : n ≤ l.length) : ∀ x ∈ pick p l n, x ∈ l := by
  intro x hx
  unfold pick at hx
  obtain ⟨j, hj, rfl⟩ := List.mem_map.1 hx
  have hj' := List.mem_range.1 (List.mem_filter.1 hj).1
  have : j < l.length := by omega
  simp [List.getD, List.getElem?_eq_getElem this]

theorem pick_asc (p : Nat → Bool) {l : List Int} (h : Asc l) : ∀ n, n ≤ l.length → Asc (pick p l n)
  | 0, _ => by simp [pick, Asc]
  | n + 1, hn => by
    rw [pick_succ, Asc, List.pairwise_append]
    refine ⟨pick_asc p h n (by omega), by split <;> simp, fun a ha b hb => ?_⟩
    unfold pick at ha
    obtain ⟨j, hj, rfl⟩ := List.mem_map.1 ha
    have hj' := List.mem_range.1 (List.mem_filter.1 hj).1
    split at hb
    · simp only [List.mem_singleton] at hb
      subst hb
      have h1 : j < l.length := by omega
      have h2 : n < l.length := by omega
      have := asc_lt h h1 h2 hj'
      simp only [List.getD, List.getElem?_eq_getElem h1, List.getElem?_eq_getElem h2, Option.getD_some]
      exact this
    · simp at hb

theorem votes_pick (p : Nat → Bool) {l : List Int} (h : Asc l) : votesL l (pick p l l.length) = (List.range l.length).countP p := by
  rw [votes_sub h (pick_asc p h _ (Nat.le_refl _)) (pick_mem p l _ (Nat.le_refl _)), pick_len]

/-- Two sets of most have some in common. -/
theorem meet {l : List Int} (h : Asc l) (p q : Nat → Bool) : votesL l (pick p l l.length) + votesL l (pick q l l.length) ≤ l.length + votesL l (pick (fun i => p i && q i) l l.length) := by
  rw [votes_pick p h, votes_pick q h, votes_pick _ h]
  have := countP_incN (List.range l.length) p q
  rwa [List.length_range] at this

theorem ins_count (l : List Int) (n : Int) (p : Int → Bool) : (insL l n).countP p = l.countP p + (if p n then 1 else 0) := by
  unfold insL
  rw [List.countP_append, List.countP_append, List.countP_singleton]
  have : l.countP p = (l.take (at_ l n)).countP p + (l.drop (at_ l n)).countP p := by rw [← List.countP_append, List.take_append_drop]
  omega

theorem meet_next {l : List Int} (h : Asc l) {o n : Int} (ho : o ∈ l) (hn : n ∉ l) {x y : List Int} (hx : Asc x) (hxl : ∀ z ∈ x, z ∈ l) :
    votesL l x + votesL (repL l o n) y ≤ l.length + 1 + x.countP (fun z => decide (z ∈ y)) := by
  have h1 := countP_inc (n :: l) (fun z => decide (z ∈ x)) (fun z => decide (z ∈ y))
  rw [List.countP_cons, List.countP_cons, List.countP_cons, List.length_cons] at h1
  have hnx : n ∉ x := fun e => hn (hxl n e)
  have h2 : votesL (repL l o n) y ≤ l.countP (fun z => decide (z ∈ y)) + (if decide (n ∈ y) = true then 1 else 0) := by
    unfold votesL repL
    rw [ins_count]
    have : (othersL l o).countP (fun z => decide (z ∈ y)) ≤ l.countP (fun z => decide (z ∈ y)) := List.Sublist.countP_le List.filter_sublist
    omega
  have h3 : l.countP (fun z => decide (z ∈ x) && decide (z ∈ y)) = x.countP (fun z => decide (z ∈ y)) := by
    have e : l.filter (fun z => decide (z ∈ x)) = x := asc_ext (h.filter _) hx fun z => by
      rw [List.mem_filter, decide_eq_true_eq]
      exact ⟨fun h => h.2, fun h => ⟨hxl z h, h⟩⟩
    rw [← e, List.countP_filter, e]
    refine List.countP_congr fun z _ => ?_
    rw [Bool.and_comm]
  rw [h3] at h1
  simp only [hnx, decide_false, Bool.false_and] at h1
  unfold votesL at h2 ⊢
  simp at h1 h2 ⊢
  omega

theorem votes_old {l : List Int} (h : Asc l) {o n : Int} (ho : o ∈ l) (hn : n ∉ l) : votesL (repL l o n) l = l.length - 1 := by
  unfold votesL repL
  rw [ins_count, if_neg (by simp [hn]), ← others_len h ho, Nat.add_zero, List.countP_eq_length]
  intro z hz
  simpa using ((others_mem l o z).1 hz).1

theorem there {l : List Int} (h : Asc l) {o n : Int} (ho : o ∈ l) (hn : n ∉ l) : repL (repL l o n) n o = l := by
  have hne : o ≠ n := by rintro rfl; exact hn ho
  have h1 : o ∉ repL l o n := fun e => by
    rcases (rep_mem l o n o).1 e with h | h
    · exact h.2 rfl
    · exact hne h
  refine asc_ext (rep_asc (rep_asc h hn) h1) h fun x => ?_
  rw [rep_mem, rep_mem]
  constructor
  · rintro (⟨⟨h1, _⟩ | h1, h2⟩ | rfl)
    · exact h1
    · exact absurd h1 h2
    · exact ho
  · intro hx
    by_cases e : x = o
    · exact .inr e
    · exact .inl ⟨.inl ⟨hx, e⟩, by rintro rfl; exact hn hx⟩

/-! ### Ranks -/

abbrev downL (l : List Int) : List Int := l.mergeSort fun x y => decide (y ≤ x)

theorem down_ge (l : List Int) : (downL l).Pairwise (fun x y => y ≤ x) := by
  have := List.pairwise_mergeSort (le := fun x y : Int => decide (y ≤ x)) (fun a b c => by simp; omega) (fun a b => by simp; omega) l
  exact this.imp (by simp)

theorem down_perm (l : List Int) : (downL l).Perm l := List.mergeSort_perm l _

theorem down_len (l : List Int) : (downL l).length = l.length := (down_perm l).length_eq

def rankL (l : List Int) (m : Nat) : Int := (downL l).getD (m - 1) 0

theorem rank_at {l : List Int} {m : Nat} (h1 : 1 ≤ m) (h2 : m ≤ l.length) : (downL l)[m - 1]? = some (rankL l m) := by
  have h : m - 1 < (downL l).length := by rw [down_len]; omega
  unfold rankL
  simp [List.getD, List.getElem?_eq_getElem h]

theorem rank_reached {l : List Int} {m : Nat} (h1 : 1 ≤ m) (h2 : m ≤ l.length) : m ≤ l.countP (fun x => decide (rankL l m ≤ x)) := by
  rw [← (down_perm l).countP_eq]
  have hk : m - 1 < (downL l).length := by rw [down_len]; omega
  have e := rank_at h1 h2
  rw [List.getElem?_eq_getElem hk] at e
  injection e with e
  have ht : (downL l).countP (fun x => decide (rankL l m ≤ x)) = ((downL l).take m).countP (fun x => decide (rankL l m ≤ x)) + ((downL l).drop m).countP (fun x => decide (rankL l m ≤ x)) := by rw [← List.countP_append, List.take_append_drop]
  have h3 : ((downL l).take m).countP (fun x => decide (rankL l m ≤ x)) = m := by
    have : ((downL l).take m).length = m := by rw [List.length_take, down_len]; omega
    conv => rhs; rw [← this]
    rw [List.countP_eq_length]
    intro x hx
    obtain ⟨j, hj, rfl⟩ := List.mem_iff_getElem.1 hx
    rw [this] at hj
    rw [List.getElem_take, decide_eq_true_eq, ← e]
    rcases Nat.lt_or_ge j (m - 1) with hlt | hge
    · exact (List.pairwise_iff_getElem.1 (down_ge l)) j (m - 1) (by omega) hk hlt
    · have : j = m - 1 := by omega
      subst this; exact Int.le_refl _
  omega

theorem rank_above {l : List Int} {m : Nat} (h1 : 1 ≤ m) (h2 : m ≤ l.length) : l.countP (fun x => decide (rankL l m < x)) < m := by
  rw [← (down_perm l).countP_eq]
  have hk : m - 1 < (downL l).length := by rw [down_len]; omega
  have e := rank_at h1 h2
  rw [List.getElem?_eq_getElem hk] at e
  injection e with e
  have ht : (downL l).countP (fun x => decide (rankL l m < x)) = ((downL l).take (m - 1)).countP (fun x => decide (rankL l m < x)) + ((downL l).drop (m - 1)).countP (fun x => decide (rankL l m < x)) := by rw [← List.countP_append, List.take_append_drop]
  have h3 : ((downL l).drop (m - 1)).countP (fun x => decide (rankL l m < x)) = 0 := by
    rw [List.countP_eq_zero]
    intro x hx
    obtain ⟨j, hj, rfl⟩ := List.mem_iff_getElem.1 hx
    rw [List.length_drop] at hj
    rw [List.getElem_drop, decide_eq_true_eq, ← e]
    rcases Nat.lt_or_ge 0 j with hlt | hge
    · have := (List.pairwise_iff_getElem.1 (down_ge l)) (m - 1) (m - 1 + j) hk (by omega) (by omega)
      omega
    · have : m - 1 + j = m - 1 := by omega
      simp only [this]; omega
  have h4 : ((downL l).take (m - 1)).countP (fun x => decide (rankL l m < x)) ≤ m - 1 := Nat.le_trans List.countP_le_length (by rw [List.length_take]; omega)
  omega

theorem rank_mem {l : List Int} {m : Nat} (h1 : 1 ≤ m) (h2 : m ≤ l.length) : rankL l m ∈ l := (down_perm l).mem_iff.1 (List.mem_of_getElem? (rank_at h1 h2))

/-- What is reached by so many is not above the rank. -/
theorem rank_most {l : List Int} {m : Nat} (h1 : 1 ≤ m) (h2 : m ≤ l.length) {x : Int} (hx : m ≤ l.countP (fun y => decide (x ≤ y))) : x ≤ rankL l m := by
  rcases Int.lt_or_le (rankL l m) x with h | h
  · have h3 := rank_above h1 h2
    have h4 : l.countP (fun y => decide (x ≤ y)) ≤ l.countP (fun y => decide (rankL l m < y)) := List.countP_mono_left fun y _ hy => by simp at hy ⊢; omega
    omega
  · exact h

theorem rank_falls {l : List Int} {m : Nat} (h1 : 1 ≤ m) (h2 : m + 1 ≤ l.length) : rankL l (m + 1) ≤ rankL l m :=
  rank_most h1 (by omega) (Nat.le_trans (by omega) (rank_reached (l := l) (m := m + 1) (by omega) h2))

theorem rank_rises {l u : List Int} {m : Nat} (hl : l.length = u.length) (hu : ∀ i (h1 : i < l.length) (h2 : i < u.length), l[i] ≤ u[i]) (h1 : 1 ≤ m) (h2 : m ≤ l.length) : rankL l m ≤ rankL u m := by
  refine rank_most h1 (by omega) (Nat.le_trans (rank_reached h1 h2) ?_)
  generalize rankL l m = r
  clear h1 h2
  induction l generalizing u with
  | nil => simp
  | cons a t ih =>
    cases u with
    | nil => simp at hl
    | cons b s =>
      rw [List.countP_cons, List.countP_cons]
      have h0 := hu 0 (by simp) (by simp)
      simp at h0
      have := ih (u := s) (by simpa using hl) (fun i h1 h2 => by have := hu (i + 1) (by simpa using h1) (by simpa using h2); simpa using this)
      by_cases h : r ≤ a
      · have : r ≤ b := by omega
        simp [h, this]; omega
      · simp [h]; split <;> omega

def rankR (f : Int) (l reached : List Int) (m : Int) : Int × Int :=
  if okC f l = false then (0, 110) else if reached.length ≠ l.length ∨ m < 1 ∨ (l.length : Int) < m then (0, 2) else (rankL reached m.toNat, 0)

end Go.Proofs.Ytenccpccpjjkmaa.CrewP

namespace Go.Proofs.Ytenccpccpjjkmaa
open Go.Lib Go.Sort CrewP
set_option linter.unusedVariables false
set_option linter.unusedSimpArgs false

structure Mk where
  s : Int
  d : List UInt8
  hs : Wf s
  hd : d.length = 32
deriving DecidableEq
theorem Mk.eq {x y : Mk} (h : x.s = y.s) (k : x.d = y.d) : x = y := by
  cases x; cases y; simp only at h k; subst h; subst k; rfl

/-! ### The order in which the first is the greatest -/
def ltM (a b : Mk) : Prop := b.s < a.s ∨ (a.s = b.s ∧ compareBytes a.d b.d < 0)
instance (a b : Mk) : Decidable (ltM a b) := by unfold ltM; infer_instance
theorem ltM_irrefl (a : Mk) : ¬ ltM a a := by unfold ltM; rw [cmpB_self]; omega
theorem ltM_trans {a b c : Mk} (h : ltM a b) (k : ltM b c) : ltM a c := by
  unfold ltM at *
  rcases h with h | ⟨h, h'⟩ <;> rcases k with k | ⟨k, k'⟩
  · exact .inl (by omega)
  · exact .inl (by omega)
  · exact .inl (by omega)
  · exact .inr ⟨by omega, cmpB_trans h' k'⟩
theorem ltM_total {a b : Mk} (h : ¬ ltM a b) (k : ¬ ltM b a) : a = b := by
  unfold ltM at *
  rw [cmpB_neg a.d b.d] at k
  have e : a.s = b.s := by omega
  have : compareBytes a.d b.d = 0 := by omega
  exact Mk.eq e (cmpB_eq this)
def or2 (a b : Int) : Int := if a ≠ 0 then a else b
def cfM (a b : Mk) : Int := or2 (compareInt b.s a.s) (compareBytes a.d b.d)

/-! ### The best of a list -/
def best : List Mk → Option Mk
  | [] => none
  | x :: l => match best l with
    | none => some x
    | some y => if ltM x y then some x else some y
theorem best_none {l : List Mk} : best l = none ↔ l = [] := by
  cases l with
  | nil => simp [best]
  | cons x l =>
    simp only [best, reduceCtorEq, iff_false]
    cases best l with
    | none => simp
    | some y => simp only; split <;> simp
theorem best_some : ∀ {l : List Mk} {x : Mk}, best l = some x → x ∈ l ∧ ∀ y ∈ l, y = x ∨ ltM x y
  | [], x, h => by cases h
  | z :: l, x, h => by
    unfold best at h
    cases e : best l with
    | none =>
      rw [e] at h
      injection h with h
      subst h
      rw [best_none.1 e]
      exact ⟨by simp, by simp⟩
    | some y =>
      rw [e] at h
      obtain ⟨h1, h2⟩ := best_some e
      by_cases hz : ltM z y
      · rw [show (match some y with | none => some z | some y => if ltM z y then some z else some y) = some z by simp [hz]] at h
        injection h with h
        subst h
        refine ⟨by simp, fun u hu => ?_⟩
        rcases List.mem_cons.1 hu with e | hu
        · exact .inl e
        · rcases h2 u hu with e | h3
          · exact .inr (by rw [e]; exact hz)
          · exact .inr (ltM_trans hz h3)
      · rw [show (match some y with | none => some z | some y => if ltM z y then some z else some y) = some y by simp [hz]] at h
        injection h with h
        subst h
        refine ⟨List.mem_cons_of_mem _ h1, fun u hu => ?_⟩
        rcases List.mem_cons.1 hu with e | hu
        · subst e
          by_cases h3 : ltM y u
          · exact .inr h3
          · exact .inl (ltM_total hz h3)
        · exact h2 u hu
theorem best_of {l : List Mk} {x : Mk} (h : x ∈ l) (hl : ∀ y ∈ l, y = x ∨ ltM x y) : best l = some x := by
  cases e : best l with
  | none => rw [best_none.1 e] at h; cases h
  | some y =>
    obtain ⟨h1, h2⟩ := best_some e
    rcases hl y h1 with e | h3
    · rw [e]
    · rcases h2 x h with e | h4
      · rw [e]
      · exact absurd (ltM_trans h3 h4) (ltM_irrefl _)
theorem best_ext {l m : List Mk} (h : ∀ x, x ∈ l ↔ x ∈ m) : best l = best m := by
  cases e : best l with
  | none =>
    have := best_none.1 e
    subst this
    refine (best_none.2 ?_).symm
    cases m with
    | nil => rfl
    | cons y m => exact absurd ((h y).2 (by simp)) (by simp)
  | some x =>
    obtain ⟨h1, h2⟩ := best_some e
    exact (best_of ((h x).1 h1) fun y hy => h2 y ((h y).2 hy)).symm

/-! ### What a node tells -/
def Srt (l : List Mk) : Prop := l.Pairwise fun a b => a.s < b.s
def findM (l : List Mk) (s : Int) : Option Mk := l.find? fun y => decide (y.s = s)
def atM (l : List Mk) (s : Int) : Nat := l.countP fun y => decide (y.s < s)
def insM (l : List Mk) (x : Mk) : List Mk := l.take (atM l x.s) ++ [x] ++ l.drop (atM l x.s)
def cutM (l : List Mk) : List Mk := l.drop (l.length - 4)
theorem atM_le (l : List Mk) (s : Int) : atM l s ≤ l.length := List.countP_le_length
theorem atM_cut {l : List Mk} (h : Srt l) (s : Int) : l.take (atM l s) = l.filter (fun y => decide (y.s < s)) ∧ l.drop (atM l s) = l.filter (fun y => decide (s ≤ y.s)) := by
  induction l with
  | nil => exact ⟨rfl, rfl⟩
  | cons y l ih =>
    unfold Srt at h
    rw [List.pairwise_cons] at h
    obtain ⟨i1, i2⟩ := ih h.2
    unfold atM at *
    by_cases hy : y.s < s
    · rw [List.countP_cons_of_pos (by simpa using hy), List.take_succ_cons, List.drop_succ_cons, i1, i2]
      exact ⟨by simp [hy], by simp [show ¬ s ≤ y.s by omega]⟩
    · have h0 : l.countP (fun y => decide (y.s < s)) = 0 := by
        rw [List.countP_eq_zero]
        intro z hz
        have := h.1 z hz
        simp; omega
      have hf : (y :: l).filter (fun y => decide (y.s < s)) = [] := by
        rw [List.filter_eq_nil_iff]
        intro z hz
        rcases List.mem_cons.1 hz with e | hz
        · rw [e]; simpa using hy
        · have := h.1 z hz; simp; omega
      have hg : (y :: l).filter (fun y => decide (s ≤ y.s)) = y :: l := by
        rw [List.filter_eq_self]
        intro z hz
        rcases List.mem_cons.1 hz with e | hz
        · rw [e]; simp; omega
        · have := h.1 z hz; simp; omega
      rw [List.countP_cons_of_neg (by simpa using hy), h0, hf, hg]
      exact ⟨rfl, rfl⟩
theorem findM_none {l : List Mk} {s : Int} : findM l s = none ↔ ∀ y ∈ l, y.s ≠ s := by
  unfold findM
  rw [List.find?_eq_none]
  simp
theorem findM_some {l : List Mk} {s : Int} {y : Mk} (h : findM l s = some y) : y ∈ l ∧ y.s = s := by
  unfold findM at h
  exact ⟨List.mem_of_find?_eq_some h, by simpa using List.find?_some h⟩
theorem srt_inj : ∀ {l : List Mk}, Srt l → ∀ {x y : Mk}, x ∈ l → y ∈ l → x.s = y.s → x = y
  | [], _, x, y, hx, _, _ => by cases hx
  | z :: l, h, x, y, hx, hy, e => by
    unfold Srt at h
    rw [List.pairwise_cons] at h
    rcases List.mem_cons.1 hx with e1 | hx <;> rcases List.mem_cons.1 hy with e2 | hy
    · rw [e1, e2]
    · have := h.1 y hy; rw [e1] at e; omega
    · have := h.1 x hx; rw [e2] at e; omega
    · exact srt_inj h.2 hx hy e
theorem srt_nodup {l : List Mk} (h : Srt l) : l.Nodup := h.imp fun {a b} h e => by rw [e] at h; omega
theorem findM_mem {l : List Mk} (h : Srt l) {x : Mk} (hx : x ∈ l) : findM l x.s = some x := by
  cases e : findM l x.s with
  | none => exact absurd rfl (findM_none.1 e x hx)
  | some y => rw [srt_inj h (findM_some e).1 hx (findM_some e).2]
theorem insM_mem {l : List Mk} {x y : Mk} : y ∈ insM l x ↔ y ∈ l ∨ y = x := by
  unfold insM
  have : y ∈ l ↔ y ∈ l.take (atM l x.s) ∨ y ∈ l.drop (atM l x.s) := by
    rw [← List.mem_append, List.take_append_drop]
  rw [this, List.mem_append, List.mem_append, List.mem_singleton]
  constructor
  · rintro ((h | h) | h)
    · exact .inl (.inl h)
    · exact .inr h
    · exact .inl (.inr h)
  · rintro ((h | h) | h)
    · exact .inl (.inl h)
    · exact .inr h
    · exact .inl (.inr h)
theorem insM_len (l : List Mk) (x : Mk) : (insM l x).length = l.length + 1 := by
  have := atM_le l x.s
  simp [insM]; omega
theorem insM_srt {l : List Mk} (h : Srt l) {x : Mk} (hx : findM l x.s = none) : Srt (insM l x) := by
  obtain ⟨h1, h2⟩ := atM_cut h x.s
  have hn := findM_none.1 hx
  unfold insM
  rw [h1, h2]
  unfold Srt at *
  rw [List.pairwise_append, List.pairwise_append]
  refine ⟨⟨h.filter _, by simp, ?_⟩, h.filter _, ?_⟩
  · intro a ha b hb
    rw [List.mem_singleton] at hb
    have := (List.mem_filter.1 ha).2
    rw [hb]
    simpa using this
  · intro a ha b hb
    have hb' := List.mem_filter.1 hb
    have hb2 : x.s ≤ b.s := by simpa using hb'.2
    have := hn b hb'.1
    rcases List.mem_append.1 ha with ha | ha
    · have ha2 : a.s < x.s := by simpa using (List.mem_filter.1 ha).2
      omega
    · rw [List.mem_singleton] at ha
      rw [ha]; omega
theorem cutM_srt {l : List Mk} (h : Srt l) : Srt (cutM l) := List.Pairwise.sublist (List.drop_sublist _ _) h
theorem cutM_len (l : List Mk) : (cutM l).length ≤ 4 := by unfold cutM; rw [List.length_drop]; omega
theorem cutM_mem {l : List Mk} {y : Mk} (h : y ∈ cutM l) : y ∈ l := List.mem_of_mem_drop h
theorem cutM_few {l : List Mk} (h : l.length ≤ 4) : cutM l = l := by unfold cutM; rw [show l.length - 4 = 0 by omega, List.drop_zero]
theorem srt_ext : ∀ {l m : List Mk}, Srt l → Srt m → (∀ x, x ∈ l ↔ x ∈ m) → l = m
  | [], [], _, _, _ => rfl
  | [], y :: m, _, _, h => absurd ((h y).2 (by simp)) (by simp)
  | x :: l, [], _, _, h => absurd ((h x).1 (by simp)) (by simp)
  | x :: l, y :: m, h, k, e => by
    have h' : ∀ z ∈ l, x.s < z.s := (List.pairwise_cons.1 h).1
    have k' : ∀ z ∈ m, y.s < z.s := (List.pairwise_cons.1 k).1
    have hxy : x = y := by
      rcases List.mem_cons.1 ((e x).1 (by simp)) with e1 | h1
      · exact e1
      · rcases List.mem_cons.1 ((e y).2 (by simp)) with e2 | h2
        · exact e2.symm
        · have := k' x h1; have := h' y h2; omega
    subst hxy
    congr 1
    refine srt_ext (List.pairwise_cons.1 h).2 (List.pairwise_cons.1 k).2 fun z => ?_
    constructor
    · intro hz
      rcases List.mem_cons.1 ((e z).1 (List.mem_cons_of_mem _ hz)) with e1 | h1
      · have := h' z hz; rw [e1] at this; omega
      · exact h1
    · intro hz
      rcases List.mem_cons.1 ((e z).2 (List.mem_cons_of_mem _ hz)) with e1 | h1
      · have := k' z hz; rw [e1] at this; omega
      · exact h1

/-! ### Marks -/
structure Ms where
  f : Int
  ns : List Int
  lo : Mk
  told : Int → List Mk
def Ms.set (m : Ms) (n : Int) (l : List Mk) : Ms := { m with told := fun k => if k = n then l else m.told k }
def voteE (m : Ms) (n : Int) (x : Mk) : Int :=
  if n ∉ m.ns then 110 else if x.s ≤ m.lo.s ∨ 9007199254740991 < x.s then 9 else
  match findM (m.told n) x.s with
  | some y => if y = x then 0 else 151
  | none => 0
def voteS (m : Ms) (n : Int) (x : Mk) : Ms := if voteE m n x = 0 ∧ findM (m.told n) x.s = none then m.set n (cutM (insM (m.told n) x)) else m
def riseE (m : Ms) (x : Mk) : Int := if x.s < m.lo.s ∨ 9007199254740991 < x.s then 9 else 0
def abv (s : Int) (l : List Mk) : List Mk := l.filter fun y => !decide (y.s ≤ s)
def riseS (m : Ms) (x : Mk) : Ms := if riseE m x = 0 then { m with lo := x, told := fun n => abv x.s (m.told n) } else m
def newM (f : Int) (ns : List Int) (lo : Mk) : Ms := ⟨f, ns, lo, fun _ => []⟩
structure Ms.ok (m : Ms) : Prop where
  crew : okC m.f m.ns = true
  lo0 : 0 ≤ m.lo.s
  lo1 : m.lo.s ≤ 9007199254740991
  srt : ∀ n, Srt (m.told n)
  len : ∀ n, (m.told n).length ≤ 4
  rng : ∀ n, ∀ x ∈ m.told n, m.lo.s < x.s ∧ x.s ≤ 9007199254740991
  non : ∀ n, n ∉ m.ns → m.told n = []
theorem vote_0 {m : Ms} {n : Int} {x : Mk} (h : voteE m n x = 0) (hf : findM (m.told n) x.s = none) : n ∈ m.ns ∧ m.lo.s < x.s ∧ x.s ≤ 9007199254740991 := by
  unfold voteE at h
  by_cases h1 : n ∉ m.ns
  · rw [if_pos h1] at h; omega
  · rw [if_neg h1] at h
    by_cases h2 : x.s ≤ m.lo.s ∨ 9007199254740991 < x.s
    · rw [if_pos h2] at h; omega
    · exact ⟨Classical.not_not.1 h1, by omega, by omega⟩
theorem vote_told {m : Ms} {n : Int} {x : Mk} {k : Int} {y : Mk} (h : y ∈ (voteS m n x).told k) : y ∈ m.told k ∨ (k = n ∧ y = x) := by
  unfold voteS at h
  split at h
  · simp only [Ms.set] at h
    by_cases e : k = n
    · rw [if_pos e] at h
      rcases insM_mem.1 (cutM_mem h) with h | h
      · exact .inl (by rw [e]; exact h)
      · exact .inr ⟨e, h⟩
    · rw [if_neg e] at h
      exact .inl h
  · exact .inl h
theorem voteS_f (m : Ms) (n : Int) (x : Mk) : (voteS m n x).f = m.f ∧ (voteS m n x).ns = m.ns ∧ (voteS m n x).lo = m.lo := by
  unfold voteS; split <;> exact ⟨rfl, rfl, rfl⟩
theorem voteS_ok {m : Ms} (h : m.ok) (n : Int) (x : Mk) : (voteS m n x).ok := by
  obtain ⟨e1, e2, e3⟩ := voteS_f m n x
  refine ⟨by rw [e1, e2]; exact h.crew, by rw [e3]; exact h.lo0, by rw [e3]; exact h.lo1, fun k => ?_, fun k => ?_, fun k y hy => ?_, fun k hk => ?_⟩
  · unfold voteS
    split
    · rename_i hc
      simp only [Ms.set]
      split
      · exact cutM_srt (insM_srt (h.srt n) hc.2)
      · exact h.srt k
    · exact h.srt k
  · unfold voteS
    split
    · simp only [Ms.set]
      split
      · exact cutM_len _
      · exact h.len k
    · exact h.len k
  · rw [e3]
    unfold voteS at hy
    split at hy
    · rename_i hc
      simp only [Ms.set] at hy
      split at hy
      · rcases insM_mem.1 (cutM_mem hy) with hy | hy
        · exact h.rng n y hy
        · rw [hy]; exact (vote_0 hc.1 hc.2).2
      · exact h.rng k y hy
    · exact h.rng k y hy
  · rw [e2] at hk
    unfold voteS
    split
    · rename_i hc
      have : k ≠ n := fun e => hk (by rw [e]; exact (vote_0 hc.1 hc.2).1)
      simp only [Ms.set, if_neg this]
      exact h.non k hk
    · exact h.non k hk
theorem riseS_ok {m : Ms} (h : m.ok) (x : Mk) : (riseS m x).ok := by
  unfold riseS
  split
  · rename_i hc
    unfold riseE at hc
    split at hc
    · omega
    · have := h.lo0
      refine ⟨h.crew, by show 0 ≤ x.s; omega, by show x.s ≤ _; omega, fun k => (h.srt k).filter _, fun k => Nat.le_trans (List.length_filter_le _ _) (h.len k), fun k y hy => ?_, fun k hk => by show abv _ (m.told k) = []; rw [h.non k hk]; rfl⟩
      have hy' := List.mem_filter.1 (show y ∈ abv x.s (m.told k) from hy)
      exact ⟨by show x.s < y.s; have := hy'.2; simp at this; omega, (h.rng k y hy'.1).2⟩
  · exact h
theorem newM_ok {f : Int} {ns : List Int} {lo : Mk} (hc : okC f ns = true) (h0 : 0 ≤ lo.s) (h1 : lo.s ≤ 9007199254740991) : (newM f ns lo).ok :=
  ⟨hc, h0, h1, fun _ => List.Pairwise.nil, fun _ => Nat.zero_le _, fun _ _ h => (by cases h), fun _ _ => rfl⟩

/-! ### How many tell a mark -/
def allM (m : Ms) : List Mk := m.ns.flatMap m.told
def cnt (m : Ms) (x : Mk) : Nat := m.ns.countP fun n => decide (x ∈ m.told n)
def greatS (m : Ms) (many : Int) : Option Mk := best ((allM m).filter fun x => decide (many ≤ (cnt m x : Int)))
theorem count_flat {told : Int → List Mk} (h : ∀ n, (told n).Nodup) (x : Mk) : ∀ ns : List Int, (ns.flatMap told).count x = ns.countP fun n => decide (x ∈ told n)
  | [] => rfl
  | n :: ns => by
    rw [List.flatMap_cons, List.count_append, count_flat h x ns, List.countP_cons]
    by_cases hx : x ∈ told n
    · rw [List.Nodup.count (h n), if_pos hx]; simp [hx]; omega
    · rw [List.count_eq_zero.2 hx]; simp [hx]
theorem allM_count {m : Ms} (h : m.ok) (x : Mk) : (allM m).count x = cnt m x := count_flat (fun n => srt_nodup (h.srt n)) x m.ns
theorem cnt_pos {m : Ms} {x : Mk} : 0 < cnt m x ↔ x ∈ allM m := by
  unfold cnt allM
  rw [List.countP_pos_iff, List.mem_flatMap]
  simp
theorem great_none {m : Ms} {many : Int} (hm : 1 ≤ many) : greatS m many = none ↔ ∀ x, (cnt m x : Int) < many := by
  unfold greatS
  rw [best_none, List.filter_eq_nil_iff]
  constructor
  · intro h x
    by_cases hx : x ∈ allM m
    · have := h x hx; simp at this; omega
    · have : ¬ 0 < cnt m x := fun k => hx (cnt_pos.1 k)
      omega
  · intro h x hx
    have := h x
    simp; omega
theorem great_some {m : Ms} {many : Int} {x : Mk} (h : greatS m many = some x) : many ≤ cnt m x ∧ ∀ y, y ∈ allM m → many ≤ cnt m y → y = x ∨ ltM x y := by
  obtain ⟨h1, h2⟩ := best_some h
  refine ⟨by simpa using (List.mem_filter.1 h1).2, fun y hy hc => h2 y (List.mem_filter.2 ⟨hy, by simpa using hc⟩)⟩
theorem great_of {m : Ms} {many : Int} (hm : 1 ≤ many) {C : List Mk} (hC : ∀ x, x ∈ C ↔ many ≤ (cnt m x : Int)) : greatS m many = best C := by
  unfold greatS
  refine best_ext fun x => ?_
  rw [List.mem_filter, hC]
  constructor
  · rintro ⟨_, h⟩; simpa using h
  · intro h
    exact ⟨cnt_pos.1 (by omega), by simpa using h⟩
end Go.Proofs.Ytenccpccpjjkmaa
