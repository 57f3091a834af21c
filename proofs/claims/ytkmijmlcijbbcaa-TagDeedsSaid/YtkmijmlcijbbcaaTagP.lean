/-
  A ledger as a list of tags: the deeds as plain functions on lists.
-/
import Derived.Test.YtkmijmlcijbbcaaMem
namespace Go.Proofs.Ytkmijmlcijbbcaa
set_option linter.unusedVariables false

/-- A tag: writer, reader, digest. -/
abbrev Tg := Int × Int × List UInt8
def isN (n : Int) : Bool := decide (1 ≤ n) && decide (n ≤ 34)
def putT (T : List Tg) (x : Tg) : List Tg := if x ∈ T then T else T ++ [x]
def okTag (f t : Int) : Bool := isN f && (t == 0 || isN t)
def tagL (T : List Tg) (f t : Int) (d : List UInt8) : List Tg := if okTag f t then putT T (f, t, d) else T
def allN (rs : List Int) : Bool := decide (rs.length ≤ 34) && rs.all isN
def okVec (f : Int) (rs : List Int) : Bool := isN f && allN rs
def putAll (T : List Tg) (f : Int) (d : List UInt8) (rs : List Int) : List Tg := rs.foldl (fun T r => putT T (f, r, d)) T
def vecL (T : List Tg) (f : Int) (rs : List Int) (d : List UInt8) : List Tg := if okVec f rs then putAll T f d rs else T
def inT (T : List Tg) (f t : Int) (d : List UInt8) : Bool := decide ((f, t, d) ∈ T)
def chk (T : List Tg) (f t : Int) (d : List UInt8) : Bool := inT T f t d || inT T f 0 d
def errOf (b : Bool) : Int := if b then 0 else 2
/-- The digest that a byte tells. -/
def dg (b : UInt8) : List UInt8 := b :: 1 :: List.replicate 30 0
theorem dg_len (b : UInt8) : (dg b).length = 32 := by simp [dg]
theorem dg_inj {a b : UInt8} (h : dg a = dg b) : a = b := by unfold dg at h; injection h
theorem dg_iff {a b : UInt8} : dg a = dg b ↔ a = b := ⟨dg_inj, fun h => by rw [h]⟩

/-- A deed, as a statement's list has it. -/
structure DeedL where
  kind : Int
  frm : Int
  to_ : Int
  rs : List Int
  d : UInt8
  askF : Int
  askT : Int
def stepD (T : List Tg) (x : DeedL) : List Tg :=
  if x.kind % 3 = 0 then tagL T x.frm x.to_ (dg x.d) else if x.kind % 3 = 1 then vecL T x.frm x.rs (dg x.d) else T
def madeL (l : List DeedL) : List Tg := l.foldl stepD []

theorem putT_mem {T : List Tg} {x y : Tg} : y ∈ putT T x ↔ y ∈ T ∨ y = x := by
  unfold putT; split
  · rename_i h
    exact ⟨.inl, fun e => e.elim id fun e => by rw [e]; exact h⟩
  · simp
theorem putT_nodup {T : List Tg} {x : Tg} (h : T.Nodup) : (putT T x).Nodup := by
  unfold putT; split
  · exact h
  · rename_i hx
    rw [List.nodup_append]
    refine ⟨h, by simp, fun a ha b hb e => ?_⟩
    simp at hb
    subst hb; subst e
    exact hx ha
theorem putT_len (T : List Tg) (x : Tg) : (putT T x).length ≤ T.length + 1 ∧ T.length ≤ (putT T x).length := by unfold putT; split <;> simp
theorem putAll_mem {f : Int} {d : List UInt8} {y : Tg} : ∀ (rs : List Int) {T : List Tg}, y ∈ putAll T f d rs ↔ y ∈ T ∨ ∃ r ∈ rs, y = (f, r, d)
  | [], T => by simp [putAll]
  | r :: rs, T => by
    have ih := putAll_mem (f := f) (d := d) (y := y) rs (T := putT T (f, r, d))
    unfold putAll at ih ⊢
    rw [List.foldl_cons, ih, putT_mem]
    simp [or_assoc]
theorem putAll_nodup {f : Int} {d : List UInt8} : ∀ (rs : List Int) {T : List Tg}, T.Nodup → (putAll T f d rs).Nodup
  | [], T, h => h
  | r :: rs, T, h => putAll_nodup rs (putT_nodup h)
theorem putAll_snoc (T : List Tg) (f : Int) (d : List UInt8) (rs : List Int) (r : Int) : putAll T f d (rs ++ [r]) = putT (putAll T f d rs) (f, r, d) := by simp [putAll, List.foldl_append]
theorem putAll_len {f : Int} {d : List UInt8} : ∀ (rs : List Int) {T : List Tg}, (putAll T f d rs).length ≤ T.length + rs.length
  | [], T => by simp [putAll]
  | r :: rs, T => by
    have h1 := putAll_len (f := f) (d := d) rs (T := putT T (f, r, d))
    have h2 := (putT_len T (f, r, d)).1
    unfold putAll at h1 ⊢
    rw [List.foldl_cons, List.length_cons]; omega
theorem tagL_mem {T : List Tg} {f t : Int} {d : List UInt8} {y : Tg} : y ∈ tagL T f t d ↔ y ∈ T ∨ okTag f t = true ∧ y = (f, t, d) := by
  unfold tagL; split
  · rename_i h; rw [putT_mem]; simp [h]
  · rename_i h; simp [h]
theorem vecL_mem {T : List Tg} {f : Int} {rs : List Int} {d : List UInt8} {y : Tg} : y ∈ vecL T f rs d ↔ y ∈ T ∨ okVec f rs = true ∧ ∃ r ∈ rs, y = (f, r, d) := by
  unfold vecL; split
  · rename_i h; rw [putAll_mem]; simp [h]
  · rename_i h; simp [h]
theorem tagL_nodup {T : List Tg} {f t : Int} {d : List UInt8} (h : T.Nodup) : (tagL T f t d).Nodup := by unfold tagL; split; exact putT_nodup h; exact h
theorem vecL_nodup {T : List Tg} {f : Int} {rs : List Int} {d : List UInt8} (h : T.Nodup) : (vecL T f rs d).Nodup := by unfold vecL; split; exact putAll_nodup rs h; exact h
theorem tagL_len (T : List Tg) (f t : Int) (d : List UInt8) : (tagL T f t d).length ≤ T.length + 1 := by
  unfold tagL; split
  · exact (putT_len T _).1
  · omega
theorem vecL_len (T : List Tg) (f : Int) (rs : List Int) (d : List UInt8) : (vecL T f rs d).length ≤ T.length + 34 := by
  unfold vecL okVec allN; split
  · rename_i h
    have := putAll_len (f := f) (d := d) rs (T := T)
    simp at h
    omega
  · omega
/-- What a deed tags. -/
def gives (x : DeedL) (y : Tg) : Prop := (x.kind % 3 = 0 ∧ okTag x.frm x.to_ = true ∧ y = (x.frm, x.to_, dg x.d)) ∨ (x.kind % 3 = 1 ∧ okVec x.frm x.rs = true ∧ ∃ r ∈ x.rs, y = (x.frm, r, dg x.d))
theorem stepD_mem {T : List Tg} {x : DeedL} {y : Tg} : y ∈ stepD T x ↔ y ∈ T ∨ gives x y := by
  unfold stepD gives
  by_cases h0 : x.kind % 3 = 0
  · rw [if_pos h0, tagL_mem]
    have h1 : ¬ x.kind % 3 = 1 := by omega
    simp [h0]
  · rw [if_neg h0]
    by_cases h1 : x.kind % 3 = 1
    · rw [if_pos h1, vecL_mem]; simp [h1]
    · rw [if_neg h1]; simp [h0, h1]
theorem stepD_nodup {T : List Tg} {x : DeedL} (h : T.Nodup) : (stepD T x).Nodup := by
  unfold stepD; split
  · exact tagL_nodup h
  · split
    · exact vecL_nodup h
    · exact h
theorem stepD_len (T : List Tg) (x : DeedL) : (stepD T x).length ≤ T.length + 34 := by
  unfold stepD; split
  · have := tagL_len T x.frm x.to_ (dg x.d); omega
  · split
    · exact vecL_len _ _ _ _
    · omega
theorem fold_mem {y : Tg} : ∀ (l : List DeedL) {T : List Tg}, y ∈ l.foldl stepD T ↔ y ∈ T ∨ ∃ x ∈ l, gives x y
  | [], T => by simp
  | x :: l, T => by rw [List.foldl_cons, fold_mem l, stepD_mem]; simp [or_assoc]
theorem fold_nodup : ∀ (l : List DeedL) {T : List Tg}, T.Nodup → (l.foldl stepD T).Nodup
  | [], T, h => h
  | x :: l, T, h => fold_nodup l (stepD_nodup h)
theorem fold_len : ∀ (l : List DeedL) {T : List Tg}, (l.foldl stepD T).length ≤ T.length + 34 * l.length
  | [], T => by simp
  | x :: l, T => by
    have h1 := fold_len l (T := stepD T x)
    have h2 := stepD_len T x
    rw [List.foldl_cons, List.length_cons]; omega
theorem madeL_succ (l : List DeedL) (j : Nat) (h : j < l.length) : madeL (l.take (j + 1)) = stepD (madeL (l.take j)) l[j] := by
  unfold madeL; rw [List.take_succ_eq_append_getElem h, List.foldl_append]; rfl
theorem madeL_len (l : List DeedL) (j : Nat) (hj : j ≤ 100) : (madeL (l.take j)).length ≤ 3400 := by
  have h1 := fold_len (l.take j) (T := [])
  rw [List.length_take, List.length_nil] at h1
  unfold madeL
  have : min j l.length ≤ 100 := by omega
  omega

/-- Two lists without doubles that have the same elements are of one length. -/
theorem nodup_le {α : Type} [DecidableEq α] : ∀ {a b : List α}, a.Nodup → (∀ x ∈ a, x ∈ b) → a.length ≤ b.length
  | [], b, _, _ => by simp
  | x :: a, b, h, hs => by
    rw [List.nodup_cons] at h
    have hb : x ∈ b := hs x (by simp)
    have h1 := nodup_le (b := b.erase x) h.2 (fun y hy => by
      have hne : y ≠ x := by rintro rfl; exact h.1 hy
      rw [List.mem_erase_of_ne hne]
      exact hs y (by simp [hy]))
    have h2 := List.length_erase_of_mem hb
    have h3 : 0 < b.length := List.length_pos_of_mem hb
    rw [List.length_cons]; omega
theorem nodup_len {α : Type} [DecidableEq α] {a b : List α} (ha : a.Nodup) (hb : b.Nodup) (h : ∀ x, x ∈ a ↔ x ∈ b) : a.length = b.length :=
  Nat.le_antisymm (nodup_le ha fun x hx => (h x).1 hx) (nodup_le hb fun x hx => (h x).2 hx)
end Go.Proofs.Ytkmijmlcijbbcaa
