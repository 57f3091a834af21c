/-
  Crews, as plain lists: what each call answers, and what follows from it.
-/
namespace Go.Proofs.Ytjibbbfpbflgmaa.CrewP
set_option linter.unusedVariables false

def isN (n : Int) : Bool := decide (1 ≤ n) && decide (n ≤ 28)
def rise (a : Int) : List Int → Bool
  | [] => true
  | n :: t => (isN n && decide (a < n)) && rise n t
def sizeOk (f n : Int) : Bool := (decide (0 ≤ f) && decide (f ≤ 2)) && decide (n = 3 * f + 1)
def okC (f : Int) (l : List Int) : Bool := sizeOk f l.length && rise 0 l
def lt_ (n x : Int) : Bool := decide (x < n)
def at_ (l : List Int) (n : Int) : Nat := l.countP (fun x => decide (x < n))
abbrev Asc (l : List Int) : Prop := l.Pairwise (· < ·)

theorem isN_iff (n : Int) : isN n = true ↔ 1 ≤ n ∧ n ≤ 28 := by simp [isN]
theorem rise_iff : ∀ (a : Int) (l : List Int), rise a l = true ↔ (∀ x ∈ l, 1 ≤ x ∧ x ≤ 28 ∧ a < x) ∧ Asc l
  | a, [] => by simp [rise]
  | a, n :: t => by
    rw [rise, Bool.and_eq_true, Bool.and_eq_true, isN_iff, rise_iff n t, decide_eq_true_eq, Asc, Asc, List.pairwise_cons]
    constructor
    · rintro ⟨⟨⟨h1, h2⟩, h3⟩, h4, h5⟩
      refine ⟨fun x hx => ?_, fun x hx => (h4 x hx).2.2, h5⟩
      rcases List.mem_cons.1 hx with rfl | hx
      · exact ⟨h1, h2, h3⟩
      · have := h4 x hx; omega
    · rintro ⟨h1, h2, h3⟩
      have := h1 n (List.mem_cons_self ..)
      exact ⟨⟨⟨this.1, this.2.1⟩, this.2.2⟩, fun x hx => ⟨(h1 x (List.mem_cons_of_mem _ hx)).1, (h1 x (List.mem_cons_of_mem _ hx)).2.1, h2 x hx⟩, h3⟩
theorem rise_snoc (a : Int) (l : List Int) (x : Int) : rise a (l ++ [x]) = (rise a l && (isN x && decide (l.getLastD a < x))) := by
  induction l generalizing a with
  | nil => simp [rise]
  | cons n t ih =>
    have e : (n :: t).getLastD a = t.getLastD n := by cases t <;> rfl
    rw [List.cons_append, rise, ih, rise, e, Bool.and_assoc (isN n && decide (a < n))]
theorem sizeOk_iff (f n : Int) : sizeOk f n = true ↔ 0 ≤ f ∧ f ≤ 2 ∧ n = 3 * f + 1 := by simp [sizeOk, and_assoc]
theorem okC_iff (f : Int) (l : List Int) : okC f l = true ↔ (0 ≤ f ∧ f ≤ 2 ∧ (l.length : Int) = 3 * f + 1) ∧ (∀ x ∈ l, 1 ≤ x ∧ x ≤ 28) ∧ Asc l := by
  rw [okC, Bool.and_eq_true, sizeOk_iff, rise_iff]
  constructor
  · rintro ⟨h1, h2, h3⟩
    exact ⟨h1, fun x hx => ⟨(h2 x hx).1, (h2 x hx).2.1⟩, h3⟩
  · rintro ⟨h1, h2, h3⟩
    exact ⟨h1, fun x hx => ⟨(h2 x hx).1, (h2 x hx).2, by have := (h2 x hx).1; omega⟩, h3⟩

/-- Rising lists with the same members are the same. -/
theorem asc_ext : ∀ {l m : List Int}, Asc l → Asc m → (∀ x, x ∈ l ↔ x ∈ m) → l = m
  | [], [], _, _, _ => rfl
  | [], y :: t, _, _, h => by have := (h y).2 (List.mem_cons_self ..); simp at this
  | x :: s, [], _, _, h => by have := (h x).1 (List.mem_cons_self ..); simp at this
  | x :: s, y :: t, hl, hm, h => by
    obtain ⟨h1, h2⟩ := List.pairwise_cons.1 hl
    obtain ⟨h3, h4⟩ := List.pairwise_cons.1 hm
    have exy : x = y := by
      have a := (h x).1 (List.mem_cons_self ..)
      have b := (h y).2 (List.mem_cons_self ..)
      rcases List.mem_cons.1 a with e | a
      · exact e
      rcases List.mem_cons.1 b with e | b
      · exact e.symm
      have := h1 y b; have := h3 x a; omega
    subst exy
    rw [asc_ext h2 h4 fun z => ?_]
    constructor
    · intro hz
      have := (h z).1 (List.mem_cons_of_mem _ hz)
      rcases List.mem_cons.1 this with rfl | hz'
      · have := h1 z hz; omega
      · exact hz'
    · intro hz
      have := (h z).2 (List.mem_cons_of_mem _ hz)
      rcases List.mem_cons.1 this with rfl | hz'
      · have := h3 z hz; omega
      · exact hz'

theorem asc_nodup {l : List Int} (h : Asc l) : l.Nodup := h.imp fun h => by omega
theorem asc_lt {l : List Int} (h : Asc l) {i j : Nat} (hi : i < l.length) (hj : j < l.length) (hij : i < j) : l[i] < l[j] := (List.pairwise_iff_getElem.1 h) i j hi hj hij

/-- How many are below n: these are the first ones. -/
theorem at_lt {l : List Int} (h : Asc l) (n : Int) {i : Nat} (hi : i < l.length) : i < at_ l n ↔ l[i] < n := by
  induction l generalizing i with
  | nil => simp at hi
  | cons x t ih =>
    obtain ⟨h1, h2⟩ := List.pairwise_cons.1 h
    unfold at_ at ih ⊢
    rw [List.countP_cons]
    cases i with
    | zero =>
      simp only [List.getElem_cons_zero, decide_eq_true_eq]
      by_cases hx : x < n
      · simp [hx]
      · rw [if_neg hx]
        have : List.countP (fun x => decide (x < n)) t = 0 := by
          rw [List.countP_eq_zero]
          intro y hy
          have := h1 y hy
          simp; omega
        simp [this, hx]
    | succ i =>
      simp only [List.getElem_cons_succ, decide_eq_true_eq]
      have hi' : i < t.length := by simpa using hi
      have := ih h2 hi'
      by_cases hx : x < n
      · rw [if_pos hx]
        constructor
        · intro h; exact this.1 (by omega)
        · intro h; have := this.2 h; omega
      · rw [if_neg hx]
        have h0 : List.countP (fun x => decide (x < n)) t = 0 := by
          rw [List.countP_eq_zero]
          intro y hy
          have := h1 y hy
          simp; omega
        have hy := h1 t[i] (List.getElem_mem hi')
        rw [h0]
        constructor
        · intro h; omega
        · intro h; omega
theorem at_le (l : List Int) (n : Int) : at_ l n ≤ l.length := List.countP_le_length
theorem at_found {l : List Int} (h : Asc l) (n : Int) : (∃ hi : at_ l n < l.length, l[at_ l n] = n) ↔ n ∈ l := by
  constructor
  · rintro ⟨hi, e⟩; rw [← e]; exact List.getElem_mem hi
  · intro hn
    obtain ⟨j, hj, e⟩ := List.mem_iff_getElem.1 hn
    have h1 : ¬ j < at_ l n := by rw [at_lt h n hj]; omega
    have hi : at_ l n < l.length := by omega
    refine ⟨hi, ?_⟩
    have h2 : ¬ at_ l n < at_ l n := by omega
    rw [at_lt h n hi] at h2
    rcases Nat.lt_or_ge (at_ l n) j with hlt | hge
    · have := asc_lt h hi hj hlt; omega
    · have : j = at_ l n := by omega
      subst this; exact e
theorem at_get {l : List Int} (h : Asc l) {n : Int} (hn : n ∈ l) : l[at_ l n]? = some n := by
  obtain ⟨hi, e⟩ := (at_found h n).2 hn
  rw [List.getElem?_eq_getElem hi, e]
theorem at_idx {l : List Int} (h : Asc l) {i : Nat} (hi : i < l.length) : at_ l l[i] = i := by
  have h1 : ¬ i < at_ l l[i] := by rw [at_lt h _ hi]; omega
  rcases Nat.lt_or_ge (at_ l l[i]) i with hlt | hge
  · have hk : at_ l l[i] < l.length := by omega
    have h2 : ¬ at_ l l[i] < at_ l l[i] := by omega
    rw [at_lt h _ hk] at h2
    have := asc_lt h hk hi hlt; omega
  · omega

/-! ### Others, Replace -/
def othersL (l : List Int) (n : Int) : List Int := l.filter (fun x => x ≠ n)
def insL (l : List Int) (n : Int) : List Int := l.take (at_ l n) ++ [n] ++ l.drop (at_ l n)
theorem others_mem (l : List Int) (n x : Int) : x ∈ othersL l n ↔ x ∈ l ∧ x ≠ n := by simp [othersL]
theorem others_asc {l : List Int} (h : Asc l) (n : Int) : Asc (othersL l n) := h.filter _
theorem others_none {l : List Int} {n : Int} (hn : n ∉ l) : othersL l n = l := by
  unfold othersL
  rw [List.filter_eq_self]
  intro x hx
  simp; rintro rfl; exact hn hx
theorem take_drop_mem {l : List Int} (h : Asc l) {n : Int} (hn : n ∈ l) : l.take (at_ l n) ++ l.drop (at_ l n + 1) = othersL l n := by
  have hA : Asc (l.take (at_ l n) ++ l.drop (at_ l n + 1)) := by
    have hs : (l.take (at_ l n) ++ l.drop (at_ l n + 1)).Sublist l := by
      have : (l.take (at_ l n) ++ l.drop (at_ l n + 1)).Sublist (l.take (at_ l n) ++ l.drop (at_ l n)) := List.Sublist.append (List.Sublist.refl _) (by rw [← List.drop_drop]; exact List.drop_sublist 1 _)
      rwa [List.take_append_drop] at this
    exact h.sublist hs
  refine asc_ext hA (others_asc h n) fun x => ?_
  rw [others_mem, List.mem_append]
  obtain ⟨hi, e⟩ := (at_found h n).2 hn
  constructor
  · rintro (hx | hx)
    · obtain ⟨j, hj, rfl⟩ := List.mem_iff_getElem.1 hx
      rw [List.length_take] at hj
      rw [List.getElem_take]
      refine ⟨List.getElem_mem _, ?_⟩
      have := asc_lt h (show j < l.length by omega) hi (by omega)
      omega
    · obtain ⟨j, hj, rfl⟩ := List.mem_iff_getElem.1 hx
      rw [List.length_drop] at hj
      rw [List.getElem_drop]
      refine ⟨List.getElem_mem _, ?_⟩
      have := asc_lt h hi (show at_ l n + 1 + j < l.length by omega) (by omega)
      omega
  · rintro ⟨hx, hne⟩
    obtain ⟨j, hj, rfl⟩ := List.mem_iff_getElem.1 hx
    rcases Nat.lt_trichotomy j (at_ l n) with hlt | rfl | hgt
    · left
      exact List.mem_iff_getElem.2 ⟨j, by rw [List.length_take]; omega, by rw [List.getElem_take]⟩
    · exact absurd e hne
    · right
      exact List.mem_iff_getElem.2 ⟨j - (at_ l n + 1), by rw [List.length_drop]; omega, by rw [List.getElem_drop]; congr 1; omega⟩
theorem others_len {l : List Int} (h : Asc l) {n : Int} (hn : n ∈ l) : (othersL l n).length = l.length - 1 := by
  rw [← take_drop_mem h hn]
  obtain ⟨hi, e⟩ := (at_found h n).2 hn
  rw [List.length_append, List.length_take, List.length_drop]; omega
theorem ins_mem (l : List Int) (n x : Int) : x ∈ insL l n ↔ x ∈ l ∨ x = n := by
  unfold insL
  rw [List.mem_append, List.mem_append]
  constructor
  · rintro ((hx | hx) | hx)
    · exact .inl (List.mem_of_mem_take hx)
    · exact .inr (by simpa using hx)
    · exact .inl (List.mem_of_mem_drop hx)
  · rintro (hx | rfl)
    · rw [← List.take_append_drop (at_ l n) l] at hx
      rcases List.mem_append.1 hx with hx | hx
      · exact .inl (.inl hx)
      · exact .inr hx
    · exact .inl (.inr (by simp))
theorem ins_len (l : List Int) (n : Int) : (insL l n).length = l.length + 1 := by
  have := at_le l n
  unfold insL
  rw [List.length_append, List.length_append, List.length_take, List.length_drop, List.length_singleton]; omega
theorem ins_asc {l : List Int} (h : Asc l) {n : Int} (hn : n ∉ l) : Asc (insL l n) := by
  have hle := at_le l n
  have h1 : ∀ x ∈ l.take (at_ l n), x < n := fun x hx => by
    obtain ⟨j, hj, rfl⟩ := List.mem_iff_getElem.1 hx
    rw [List.length_take] at hj
    rw [List.getElem_take]
    exact (at_lt h n (by omega)).1 (by omega)
  have h2 : ∀ x ∈ l.drop (at_ l n), n < x := fun x hx => by
    obtain ⟨j, hj, rfl⟩ := List.mem_iff_getElem.1 hx
    rw [List.length_drop] at hj
    rw [List.getElem_drop]
    have hj' : at_ l n + j < l.length := by omega
    have := mt (at_lt h n hj').2 (by omega)
    have hne : l[at_ l n + j] ≠ n := fun e => hn (e ▸ List.getElem_mem hj')
    omega
  unfold insL
  rw [Asc, List.append_assoc, List.pairwise_append]
  refine ⟨h.sublist (List.take_sublist ..), ?_, ?_⟩
  · rw [List.singleton_append, List.pairwise_cons]
    exact ⟨h2, h.sublist (List.drop_sublist ..)⟩
  · intro a ha b hb
    have := h1 a ha
    rw [List.singleton_append, List.mem_cons] at hb
    rcases hb with rfl | hb
    · exact this
    · have := h2 b hb; omega

def repL (l : List Int) (o n : Int) : List Int := insL (othersL l o) n
theorem rep_mem (l : List Int) (o n x : Int) : x ∈ repL l o n ↔ (x ∈ l ∧ x ≠ o) ∨ x = n := by rw [repL, ins_mem, others_mem]
theorem rep_asc {l : List Int} (h : Asc l) {o n : Int} (hn : n ∉ l) : Asc (repL l o n) := ins_asc (others_asc h o) fun e => hn ((others_mem l o n).1 e).1
theorem rep_len {l : List Int} (h : Asc l) {o n : Int} (ho : o ∈ l) (hn : n ∉ l) : (repL l o n).length = l.length := by
  rw [repL, ins_len, others_len h ho]
  have : 0 < l.length := List.length_pos_of_mem ho
  omega
theorem rep_ok {f : Int} {l : List Int} (h : okC f l = true) {o n : Int} (ho : o ∈ l) (hn : n ∉ l) (hN : isN n = true) : okC f (repL l o n) = true := by
  rw [okC_iff] at h ⊢
  obtain ⟨⟨h1, h2, h3⟩, h4, h5⟩ := h
  refine ⟨⟨h1, h2, by rw [rep_len h5 ho hn]; exact h3⟩, fun x hx => ?_, rep_asc h5 hn⟩
  rcases (rep_mem l o n x).1 hx with ⟨hx, _⟩ | rfl
  · exact h4 x hx
  · exact (isN_iff x).1 hN
/-- What Replace answers: the nodes, and the error. -/
def replaceR (f : Int) (l : List Int) (o n : Int) : Int × List Int × Int :=
  if okC f l = false then (0, [], 110) else if isN n = false then (0, [], 2) else if o ∉ l ∨ n ∈ l then (0, [], 110) else (f, repL l o n, 0)

/-! ### Votes -/
def votesL (l ns : List Int) : Nat := l.countP (fun x => decide (x ∈ ns))
def votesR (f : Int) (l ns : List Int) : Nat := if okC f l then votesL l ns else 0
end Go.Proofs.Ytjibbbfpbflgmaa.CrewP
