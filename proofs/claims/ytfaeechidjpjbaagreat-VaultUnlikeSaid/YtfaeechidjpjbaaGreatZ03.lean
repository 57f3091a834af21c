/-
  Laid together for a hand-in: Wp11, Wq11, Word, Ror, Sha, Sched.
-/
import Derived.Test.YtfaeechidjpjbaaGreatZ02
import Derived.Test.YtfaeechidjpjbaaGreatZ01
import Derived.Test.YtfaeechidjpjbaaGreatRows
import Derived.Laws.BitsLemmas
import Derived.Laws.BitsAllLaws
import Derived.Deep.MidRow
import Derived.Deep.RegionHeld3

namespace Go.Proofs.YtfaeechidjpjbaaGreat

set_option linter.unusedVariables false

/-- A wish. -/
structure Wl where
  cl : Int
  sp : Int
  gr : Int
  ep : Int
  kd : Int
  bl : Int
  da : List UInt8
  od : Int
  nw : Int
  nx : List Int

def W0 : Wl := ⟨0, 0, 0, 0, 0, 0, [], 0, 0, []⟩

/-- Numbers from 1 to 28, each above the one ahead. -/
def ris (a : Int) : List Int → Prop
  | [] => True
  | x :: l => (1 ≤ x ∧ x ≤ 28) ∧ a < x ∧ ris x l

instance decRis : (a : Int) → (l : List Int) → Decidable (ris a l)
  | _, [] => isTrue trivial
  | a, x :: l => by
    have := decRis x l
    unfold ris
    exact inferInstance

abbrev Askd (w : Wl) : Prop := (31 ≤ w.cl ∧ w.cl ≤ 34) ∧ (1 ≤ w.sp ∧ w.sp ≤ 9007199254740991)

abbrev OfBl (w : Wl) : Prop := (1 ≤ w.gr ∧ w.gr ≤ 2) ∧ (0 ≤ w.bl ∧ w.bl ≤ 7)

abbrev OfDr (w : Wl) : Prop := w.gr = 0 ∧ w.ep = 0 ∧ (1 ≤ w.bl ∧ w.bl ≤ 2)

abbrev Swp (w : Wl) : Prop := (1 ≤ w.od ∧ w.od ≤ 28) ∧ (1 ≤ w.nw ∧ w.nw ≤ 28) ∧ w.od ≠ w.nw

abbrev NoS (w : Wl) : Prop := w.od = 0 ∧ w.nw = 0

abbrev Nxt (l : List Int) : Prop := (l.length = 1 ∨ l.length = 4 ∨ l.length = 7) ∧ ris 0 l

/-- The chapter's table. -/
def May (w : Wl) : Prop := (0 ≤ w.ep ∧ w.ep ≤ 1048576) ∧
  ((w.kd = 1 ∧ Askd w ∧ OfBl w ∧ w.da.length = 0 ∧ NoS w ∧ w.nx.length = 0) ∨
   (w.kd = 2 ∧ Askd w ∧ OfBl w ∧ w.da.length = 16 ∧ NoS w ∧ w.nx.length = 0) ∨
   (w.kd = 3 ∧ Askd w ∧ OfDr w ∧ w.da.length = 0 ∧ NoS w ∧ w.nx.length = 0) ∨
   (w.kd = 4 ∧ Askd w ∧ OfDr w ∧ w.da.length = 0 ∧ Swp w ∧ w.nx.length = 0) ∨
   (w.kd = 5 ∧ (w.cl = 0 ∧ w.sp = 0 ∧ (1 ≤ w.gr ∧ w.gr ≤ 2) ∧ w.bl = 0) ∧ w.da.length = 0 ∧ NoS w ∧ Nxt w.nx))

set_option synthInstance.maxSize 4096 in
set_option synthInstance.maxHeartbeats 400000 in
instance decMay (w : Wl) : Decidable (May w) := by unfold May; exact inferInstance

theorem ris_in {a : Int} {l : List Int} (h : ris a l) : ∀ x ∈ l, 1 ≤ x ∧ x ≤ 28 := by
  induction l generalizing a with
  | nil => simp
  | cons y l ih =>
    intro x hx
    rcases List.mem_cons.1 hx with rfl | hx
    · exact h.1
    · exact ih h.2.2 x hx

abbrev Nm (x : Int) : Prop := 0 ≤ x ∧ x ≤ 9007199254740991

theorem May.nums {w : Wl} (h : May w) : Nm w.kd ∧ Nm w.cl ∧ Nm w.sp ∧ Nm w.gr ∧ Nm w.ep ∧ Nm w.bl ∧ Nm w.od ∧ Nm w.nw ∧ w.da.length ≤ 16 ∧ w.nx.length ≤ 7 ∧ ∀ x ∈ w.nx, Nm x := by
  obtain ⟨he, h⟩ := h
  have hx : ∀ (l : List Int), l.length = 0 → ∀ x ∈ l, Nm x := fun l hl x hx => by rw [List.eq_nil_of_length_eq_zero hl] at hx; cases hx
  rcases h with ⟨h, ⟨a1, a2⟩, ⟨b1, b2⟩, c, d, e⟩ | ⟨h, ⟨a1, a2⟩, ⟨b1, b2⟩, c, d, e⟩ | ⟨h, ⟨a1, a2⟩, ⟨b1, b2, b3⟩, c, d, e⟩ | ⟨h, ⟨a1, a2⟩, ⟨b1, b2, b3⟩, c, ⟨d1, d2, _⟩, e⟩ | ⟨h, ⟨a1, a2, a3, a4⟩, c, d, e1, e2⟩
  · exact ⟨by unfold Nm; omega, by unfold Nm; omega, by unfold Nm; omega, by unfold Nm; omega, by unfold Nm; omega, by unfold Nm; omega, by unfold Nm; omega, by unfold Nm; omega, by omega, by omega, hx _ e⟩
  · exact ⟨by unfold Nm; omega, by unfold Nm; omega, by unfold Nm; omega, by unfold Nm; omega, by unfold Nm; omega, by unfold Nm; omega, by unfold Nm; omega, by unfold Nm; omega, by omega, by omega, hx _ e⟩
  · exact ⟨by unfold Nm; omega, by unfold Nm; omega, by unfold Nm; omega, by unfold Nm; omega, by unfold Nm; omega, by unfold Nm; omega, by unfold Nm; omega, by unfold Nm; omega, by omega, by omega, hx _ e⟩
  · exact ⟨by unfold Nm; omega, by unfold Nm; omega, by unfold Nm; omega, by unfold Nm; omega, by unfold Nm; omega, by unfold Nm; omega, by unfold Nm; omega, by unfold Nm; omega, by omega, by omega, hx _ e⟩
  · exact ⟨by unfold Nm; omega, by unfold Nm; omega, by unfold Nm; omega, by unfold Nm; omega, by unfold Nm; omega, by unfold Nm; omega, by unfold Nm; omega, by unfold Nm; omega, by omega, by omega, fun x hx => by have := ris_in e2 x hx; unfold Nm; omega⟩

/-! ### Written -/

/-- A number's bytes (of one that is none: no bytes). -/
def ib (x : Int) : List UInt8 := (nm x).1

theorem ib_nm {x : Int} (h : Nm x) : ib x = numB x.toNat := by unfold ib nm; rw [if_neg (by unfold Nm at h; omega)]

theorem nm_ib {x : Int} (h : Nm x) : nm x = (ib x, 0) := by unfold ib nm; rw [if_neg (by unfold Nm at h; omega)]

def ibs (l : List Int) : List UInt8 := (l.map ib).flatten

def sb (l : List UInt8) : List UInt8 := (st l).1

theorem sb_st {l : List UInt8} (h : l.length ≤ 65536) : sb l = numB l.length ++ l := by unfold sb st; rw [if_neg (by omega)]

theorem st_sb {l : List UInt8} (h : l.length ≤ 65536) : st l = (sb l, 0) := by unfold sb st; rw [if_neg (by omega)]

/-- A wish's bytes. -/
def wb (w : Wl) : List UInt8 := ibs [w.kd, w.cl, w.sp, w.gr, w.ep, w.bl] ++ (sb w.da ++ (ibs [w.od, w.nw, (w.nx.length : Int)] ++ ibs w.nx))

def wbytes (w : Wl) : List UInt8 × Nat := if May w then (wb w, 0) else ([], 2)

/-! ### Read -/

/-- What is left, and the first error. -/
abbrev Rd := List UInt8 × Nat

def rn (s : Rd) : Int × Rd := if s.2 ≠ 0 then (0, s) else (((tk s.1).1 : Nat), ((tk s.1).2.1, (tk s.1).2.2))

def rt (most : Nat) (s : Rd) : List UInt8 × Rd := if s.2 ≠ 0 then ([], s) else ((ts s.1 most).1, ((ts s.1 most).2.1, (ts s.1 most).2.2))

def rc (most : Nat) (s : Rd) : Nat × Rd := if (most : Int) < (rn s).1 then (0, ((rn s).2.1, 5)) else ((rn s).1.toNat, (rn s).2)

def rns : Nat → Rd → List Int × Rd
  | 0, s => ([], s)
  | k + 1, s => ((rns k s).1 ++ [(rn (rns k s).2).1], (rn (rns k s).2).2)

def rdw (s : Rd) : Wl × Rd :=
  let k := rn s; let c := rn k.2; let t := rn c.2; let g := rn t.2; let e := rn g.2; let b := rn e.2
  let d := rt 16 b.2; let o := rn d.2; let n := rn o.2; let m := rc 7 n.2; let x := rns m.1 m.2
  (⟨c.1, t.1, g.1, e.1, k.1, b.1, d.1, o.1, n.1, x.1⟩, x.2)

def ren (s : Rd) : Nat := if s.2 = 0 ∧ s.1.length ≠ 0 then 4 else s.2

def parse (l : List UInt8) : Wl × Nat := if ren (rdw (l, 0)).2 ≠ 0 then (W0, ren (rdw (l, 0)).2) else if May (rdw (l, 0)).1 then ((rdw (l, 0)).1, 0) else (W0, 2)

theorem rn_err {s : Rd} (h : s.2 ≠ 0) : rn s = (0, s) := by unfold rn; rw [if_pos h]

theorem rt_err {m : Nat} {s : Rd} (h : s.2 ≠ 0) : rt m s = ([], s) := by unfold rt; rw [if_pos h]

theorem rn_pos (s : Rd) : 0 ≤ (rn s).1 := by unfold rn; split <;> simp

theorem rn_max (s : Rd) : (rn s).1 ≤ 9007199254740991 := by
  unfold rn
  split
  · simp
  · by_cases h : (tk s.1).2.2 = 0
    · have := (tk_back (l := s.1) (n := (tk s.1).1) (rest := (tk s.1).2.1) (by rw [← h])).1
      simp only; omega
    · have := (tk_err0 (l := s.1) (n := (tk s.1).1) (rest := (tk s.1).2.1) (e := (tk s.1).2.2) rfl h).1
      simp only [this]; omega

theorem rn_nm (s : Rd) : Nm (rn s).1 := ⟨rn_pos s, rn_max s⟩

/-- A number that stands ahead is read. -/
theorem rn_ib {x : Int} (h : Nm x) (z : List UInt8) : rn (ib x ++ z, 0) = (x, (z, 0)) := by
  rw [ib_nm h]
  unfold rn
  have hn : x.toNat ≤ 9007199254740991 := by unfold Nm at h; omega
  rw [if_neg (by simp)]
  simp only [tk_num hn z]
  have : (x.toNat : Int) = x := by unfold Nm at h; omega
  rw [this]

theorem rt_sb {d : List UInt8} {m : Nat} (hd : d.length ≤ m) (hm : m ≤ 65536) (z : List UInt8) : rt m (sb d ++ z, 0) = (d, (z, 0)) := by
  rw [sb_st (by omega)]
  unfold rt
  rw [if_neg (by simp)]
  simp only [ts_text (s := d) (z := z) (most := (m : Int)) (by omega) (by omega)]
  rw [if_neg (by omega)]

theorem ibs_cons (x : Int) (l : List Int) : ibs (x :: l) = ib x ++ ibs l := by simp [ibs]

theorem ibs_nil : ibs [] = [] := rfl

theorem ibs_drop {l : List Int} {k : Nat} (h : k < l.length) : ibs (l.drop k) = ib l[k] ++ ibs (l.drop (k + 1)) := by
  rw [List.drop_eq_getElem_cons h, ibs_cons]

theorem rns_ibs {l : List Int} (h : ∀ x ∈ l, Nm x) (z : List UInt8) : rns l.length (ibs l ++ z, 0) = (l, (z, 0)) := by
  suffices H : ∀ k, k ≤ l.length → rns k (ibs l ++ z, 0) = (l.take k, (ibs (l.drop k) ++ z, 0)) by
    have := H l.length (Nat.le_refl _)
    rw [this]
    simp [ibs]
  intro k
  induction k with
  | zero => intro _; simp [rns]
  | succ k ih =>
    intro hk
    have hk' : k < l.length := by omega
    unfold rns
    rw [ih (by omega)]
    have e := ibs_drop hk'
    simp only
    rw [e, List.append_assoc, rn_ib (h _ (List.getElem_mem hk'))]
    simp only
    rw [List.take_succ_eq_append_getElem hk']

theorem rc_ib {n m : Nat} (h : n ≤ m) (hm : m ≤ 65536) (z : List UInt8) : rc m (ib (n : Int) ++ z, 0) = (n, (z, 0)) := by
  unfold rc
  rw [rn_ib ⟨by omega, by omega⟩]
  simp only
  rw [if_neg (by omega)]
  simp

theorem wb_flat (w : Wl) : wb w = ib w.kd ++ (ib w.cl ++ (ib w.sp ++ (ib w.gr ++ (ib w.ep ++ (ib w.bl ++ (sb w.da ++ (ib w.od ++ (ib w.nw ++ (ib (w.nx.length : Int) ++ ibs w.nx))))))))) := by
  unfold wb
  simp only [ibs_cons, ibs_nil, List.append_assoc, List.append_nil]

theorem rdw_wb {w : Wl} (h : May w) (z : List UInt8) : rdw (wb w ++ z, 0) = (w, (z, 0)) := by
  obtain ⟨h1, h2, h3, h4, h5, h6, h7, h8, h9, h10, h11⟩ := h.nums
  rw [wb_flat]
  unfold rdw
  simp only [List.append_assoc, rn_ib h1, rn_ib h2, rn_ib h3, rn_ib h4, rn_ib h5, rn_ib h6, rn_ib h7, rn_ib h8, rt_sb h9 (by omega), rc_ib h10 (by omega), rns_ibs h11]

theorem parse_wb {w : Wl} (h : May w) : parse (wb w) = (w, 0) := by
  have := rdw_wb h []
  rw [List.append_nil] at this
  unfold parse
  simp only [this, ren]
  simp [h]

/-- More bytes behind a wish's are told. -/
theorem parse_more {w : Wl} (h : May w) {z : List UInt8} (hz : z.length ≠ 0) : parse (wb w ++ z) = (W0, 4) := by
  unfold parse
  simp only [rdw_wb h z, ren]
  simp [hz]

/-! ### What is read is written so -/

theorem rn_ok {s : Rd} (h : (rn s).2.2 = 0) : s.2 = 0 ∧ s.1 = ib (rn s).1 ++ (rn s).2.1 := by
  have hnm := rn_nm s
  rw [ib_nm hnm]
  unfold rn at h ⊢
  by_cases hs : s.2 ≠ 0
  · rw [if_pos hs] at h; exact absurd h hs
  · rw [if_neg hs] at h ⊢
    refine ⟨by simpa using hs, ?_⟩
    simp only at h ⊢
    have := (tk_back (l := s.1) (n := (tk s.1).1) (rest := (tk s.1).2.1) (by rw [← h])).2
    simpa using this.symm

theorem rt_ok {m : Nat} {s : Rd} (h : (rt m s).2.2 = 0) : s.2 = 0 ∧ (rt m s).1.length ≤ m ∧ s.1 = sb (rt m s).1 ++ (rt m s).2.1 := by
  unfold rt at h ⊢
  by_cases hs : s.2 ≠ 0
  · rw [if_pos hs] at h; exact absurd h hs
  · rw [if_neg hs] at h ⊢
    simp only at h ⊢
    obtain ⟨h1, h2, h3⟩ := ts_ok (l := s.1) (s := (ts s.1 m).1) (z := (ts s.1 m).2.1) (most := (m : Int)) (by rw [← h])
    refine ⟨by simpa using hs, by omega, ?_⟩
    rw [sb_st h1, List.append_assoc, h3]

theorem rc_ok {m : Nat} {s : Rd} (h : (rc m s).2.2 = 0) : s.2 = 0 ∧ (rc m s).1 ≤ m ∧ s.1 = ib ((rc m s).1 : Int) ++ (rc m s).2.1 := by
  have hp := rn_pos s
  unfold rc at h ⊢
  by_cases hs : (m : Int) < (rn s).1
  · rw [if_pos hs] at h; simp at h
  · rw [if_neg hs] at h ⊢
    simp only at h ⊢
    obtain ⟨h1, h2⟩ := rn_ok h
    have e : ((rn s).1.toNat : Int) = (rn s).1 := by omega
    exact ⟨h1, by omega, by rw [e]; exact h2⟩

theorem rns_ok {k : Nat} {s : Rd} (h : (rns k s).2.2 = 0) : s.2 = 0 ∧ (rns k s).1.length = k ∧ s.1 = ibs (rns k s).1 ++ (rns k s).2.1 := by
  induction k with
  | zero => exact ⟨h, rfl, by simp [rns, ibs]⟩
  | succ k ih =>
    unfold rns at h ⊢
    simp only at h ⊢
    obtain ⟨h1, h2⟩ := rn_ok h
    obtain ⟨h3, h4, h5⟩ := ih h1
    refine ⟨h3, by simp [h4], ?_⟩
    conv => lhs; rw [h5, h2]
    simp [ibs]

theorem rns_len (k : Nat) (s : Rd) : (rns k s).1.length = k := by
  induction k with
  | zero => rfl
  | succ k ih => simp [rns, ih]

theorem rdw_ok {s : Rd} (h : (rdw s).2.2 = 0) : s.2 = 0 ∧ s.1 = wb (rdw s).1 ++ (rdw s).2.1 := by
  rw [wb_flat]
  unfold rdw at h ⊢
  simp only at h ⊢
  obtain ⟨a1, a2, a3⟩ := rns_ok h
  obtain ⟨b1, b2, b3⟩ := rc_ok a1
  obtain ⟨c1, c2⟩ := rn_ok b1
  obtain ⟨d1, d2⟩ := rn_ok c1
  obtain ⟨e1, e2, e3⟩ := rt_ok d1
  obtain ⟨f1, f2⟩ := rn_ok e1
  obtain ⟨g1, g2⟩ := rn_ok f1
  obtain ⟨i1, i2⟩ := rn_ok g1
  obtain ⟨j1, j2⟩ := rn_ok i1
  obtain ⟨k1, k2⟩ := rn_ok j1
  obtain ⟨l1, l2⟩ := rn_ok k1
  refine ⟨l1, ?_⟩
  simp only [List.append_assoc]
  rw [a2]
  rw [← a3, ← b3, ← c2, ← d2, ← e3, ← f2, ← g2, ← i2, ← j2, ← k2, ← l2]

theorem parse_back {l : List UInt8} {w : Wl} (h : parse l = (w, 0)) : May w ∧ wb w = l := by
  unfold parse at h
  by_cases h1 : ren (rdw (l, 0)).2 ≠ 0
  · rw [if_pos h1] at h; simp only [Prod.mk.injEq] at h; exact absurd h.2 h1
  · rw [if_neg h1] at h
    by_cases h2 : May (rdw (l, 0)).1
    · rw [if_pos h2] at h
      simp only [Prod.mk.injEq, and_true] at h
      have h1' : ren (rdw (l, 0)).2 = 0 := by simpa using h1
      unfold ren at h1'
      split at h1'
      · cases h1'
      · rename_i h3
        have h4 : (rdw (l, 0)).2.1.length = 0 := by
          rcases Nat.eq_zero_or_pos (rdw (l, 0)).2.1.length with h5 | h5
          · exact h5
          · exact absurd ⟨h1', by omega⟩ h3
        have h6 := (rdw_ok h1').2
        rw [List.eq_nil_of_length_eq_zero h4, List.append_nil] at h6
        rw [← h]
        exact ⟨h2, h6.symm⟩
    · rw [if_neg h2] at h; simp only [Prod.mk.injEq] at h; exact absurd h.2 (by decide)

theorem parse_bad {l : List UInt8} (h : (parse l).2 ≠ 0) : (parse l).1 = W0 := by
  unfold parse at h ⊢
  split
  · rfl
  · rename_i h1
    rw [if_neg h1] at h
    split
    · rename_i h2; rw [if_pos h2] at h; exact absurd rfl h
    · rfl

theorem wb_inj {w v : Wl} (hw : May w) (hv : May v) (h : wb w = wb v) : w = v := by
  have h1 := parse_wb hw
  rw [h, parse_wb hv] at h1
  simpa using h1.symm

/-! ### How long -/

theorem ib_le {x : Int} (h : Nm x) : 1 ≤ (ib x).length ∧ (ib x).length ≤ 8 := by
  rw [ib_nm h, numB_length]
  have := dgs_len7 (n := x.toNat) (by unfold Nm at h; omega)
  omega

theorem ib_two {x : Int} (h : 0 ≤ x) (h1 : x ≤ 255) : 1 ≤ (ib x).length ∧ (ib x).length ≤ 2 := by
  rw [ib_nm ⟨h, by omega⟩, numB_length]
  have := dgs_len (n := x.toNat) (k := 1) (by omega)
  omega

theorem ibs_two {l : List Int} (h : ∀ x ∈ l, 1 ≤ x ∧ x ≤ 28) : (ibs l).length ≤ 2 * l.length := by
  induction l with
  | nil => simp [ibs]
  | cons x l ih =>
    rw [ibs_cons, List.length_append, List.length_cons]
    have h1 := ih fun y hy => h y (List.mem_cons_of_mem _ hy)
    have h2 := h x List.mem_cons_self
    have h3 := ib_two (x := x) (by omega) (by omega)
    omega

theorem May.small {w : Wl} (h : May w) : (0 ≤ w.kd ∧ w.kd ≤ 255) ∧ (0 ≤ w.cl ∧ w.cl ≤ 255) ∧ (0 ≤ w.gr ∧ w.gr ≤ 255) ∧ (0 ≤ w.bl ∧ w.bl ≤ 255) ∧ (0 ≤ w.od ∧ w.od ≤ 255) ∧ (0 ≤ w.nw ∧ w.nw ≤ 255) ∧ ∀ x ∈ w.nx, 1 ≤ x ∧ x ≤ 28 := by
  obtain ⟨he, h⟩ := h
  have hx : ∀ (l : List Int), l.length = 0 → ∀ x ∈ l, 1 ≤ x ∧ x ≤ 28 := fun l hl x hx => by rw [List.eq_nil_of_length_eq_zero hl] at hx; cases hx
  rcases h with ⟨h, ⟨a1, a2⟩, ⟨b1, b2⟩, c, d, e⟩ | ⟨h, ⟨a1, a2⟩, ⟨b1, b2⟩, c, d, e⟩ | ⟨h, ⟨a1, a2⟩, ⟨b1, b2, b3⟩, c, d, e⟩ | ⟨h, ⟨a1, a2⟩, ⟨b1, b2, b3⟩, c, ⟨d1, d2, _⟩, e⟩ | ⟨h, ⟨a1, a2, a3, a4⟩, c, d, e1, e2⟩
  · exact ⟨by omega, by omega, by omega, by omega, by omega, by omega, hx _ e⟩
  · exact ⟨by omega, by omega, by omega, by omega, by omega, by omega, hx _ e⟩
  · exact ⟨by omega, by omega, by omega, by omega, by omega, by omega, hx _ e⟩
  · exact ⟨by omega, by omega, by omega, by omega, by omega, by omega, hx _ e⟩
  · exact ⟨by omega, by omega, by omega, by omega, by omega, by omega, ris_in e2⟩

theorem wb_len {w : Wl} (h : May w) : 10 ≤ (wb w).length ∧ (wb w).length < 128 := by
  obtain ⟨h1, h2, h3, h4, h5, h6, h7, h8, h9, h10, h11⟩ := h.nums
  obtain ⟨s1, s2, s3, s4, s5, s6, s7⟩ := h.small
  rw [wb_flat]
  have a1 := ib_two s1.1 s1.2
  have a2 := ib_two s2.1 s2.2
  have a3 := ib_le h3
  have a4 := ib_two s3.1 s3.2
  have a5 := ib_le h5
  have a6 := ib_two s4.1 s4.2
  have a7 := ib_two s5.1 s5.2
  have a8 := ib_two s6.1 s6.2
  have a9 := ib_two (x := (w.nx.length : Int)) (by omega) (by omega)
  have a10 := ibs_two s7
  have a11 : (sb w.da).length ≤ 24 ∧ 1 ≤ (sb w.da).length := by
    rw [sb_st (by omega), List.length_append, numB_length]
    have := dgs_len (n := w.da.length) (k := 1) (by omega)
    omega
  simp only [List.length_append]
  omega

theorem sb_len {l : List UInt8} (h : l.length ≤ 65536) : 1 ≤ (sb l).length ∧ (sb l).length ≤ 8 + l.length := by
  rw [sb_st h, List.length_append, numB_length]
  have := dgs_len7 (n := l.length) (by omega)
  omega

/-! ### Cut -/

/-- 'p' is a beginning of 'z', not all of it. -/
def Pfx (p z : List UInt8) : Prop := ∃ y, y ≠ [] ∧ p ++ y = z

theorem Pfx.take {z : List UInt8} {k : Nat} (h : k < z.length) : Pfx (z.take k) z := ⟨z.drop k, by simp; omega, List.take_append_drop _ _⟩

theorem Pfx.split {p a z : List UInt8} (h : Pfx p (a ++ z)) : (∃ j, j < a.length ∧ p = a.take j) ∨ ∃ q, p = a ++ q ∧ Pfx q z := by
  obtain ⟨y, hy, he⟩ := h
  by_cases hl : p.length < a.length
  · refine .inl ⟨p.length, hl, ?_⟩
    have := congrArg (List.take p.length) he
    rw [List.take_left, List.take_append_of_le_length (by omega)] at this
    exact this
  · refine .inr ⟨p.drop a.length, ?_, y, hy, ?_⟩
    · have := congrArg (List.take a.length) he
      rw [List.take_append_of_le_length (by omega), List.take_left] at this
      have h2 := List.take_append_drop a.length p
      rw [this] at h2
      exact h2.symm
    · have := congrArg (List.drop a.length) he
      rw [List.drop_append_of_le_length (by omega), List.drop_left] at this
      exact this

theorem Pfx.nil {p : List UInt8} (h : Pfx p []) : False := by
  obtain ⟨y, hy, he⟩ := h
  exact hy (List.append_eq_nil_iff.1 he).2

/-- Either the bytes ended too early, or what is left is cut. -/
def Cut (s : Rd) (z : List UInt8) : Prop := s.2 = 3 ∨ s.2 = 0 ∧ Pfx s.1 z

theorem Cut.cn {s : Rd} {x : Int} {z : List UInt8} (h : Cut s (ib x ++ z)) (hx : Nm x) : ((rn s).1 = x ∨ (rn s).2.2 = 3) ∧ Cut (rn s).2 z := by
  rcases h with h | ⟨h, hp⟩
  · rw [rn_err (by omega)]; exact ⟨.inr h, .inl h⟩
  · obtain ⟨p, e⟩ := s
    simp only at h hp
    subst h
    rcases hp.split with ⟨j, hj, rfl⟩ | ⟨q, rfl, hq⟩
    · have hr : (rn ((ib x).take j, 0)).2.2 = 3 := by
        rw [ib_nm hx] at hj ⊢
        unfold rn
        rw [if_neg (by simp)]
        simp only [tk_short (n := x.toNat) (by unfold Nm at hx; omega) hj]
      exact ⟨.inr hr, .inl hr⟩
    · rw [rn_ib hx]; exact ⟨.inl rfl, .inr ⟨rfl, hq⟩⟩

theorem ts_short {d : List UInt8} {m j : Nat} (hd : d.length ≤ m) (hm : m ≤ 65536) (hj : j < (sb d).length) : (ts ((sb d).take j) (m : Int)).2.2 = 3 := by
  rw [sb_st (by omega)] at hj ⊢
  have hn : d.length ≤ 9007199254740991 := by omega
  have hl := numB_length (n := d.length)
  by_cases h : j < (numB d.length).length
  · rw [List.take_append_of_le_length (by omega)]
    have := tk_short hn h
    unfold tk at this
    unfold ts
    rw [if_neg (by omega)]
    have h3 : (nu ((numB d.length).take j)).2.2 = 3 := by
      by_cases h0 : (nu ((numB d.length).take j)).2.2 = 0
      · rw [if_pos h0] at this; simp at this
      · rw [if_neg h0] at this; simp at this; exact this
    rw [if_pos (by omega), h3]
  · have e : (numB d.length ++ d).take j = numB d.length ++ d.take (j - (numB d.length).length) := by
      rw [List.take_append, List.take_of_length_le (by omega)]
    rw [e]
    have hnu := nu_num hn (d.take (j - (numB d.length).length))
    unfold ts
    rw [if_neg (by omega), hnu]
    rw [if_neg (by simp), if_neg (by simp; omega)]
    have e2 : (numB d.length ++ d.take (j - (numB d.length).length)).drop (1 + (dgs d.length).length) = d.take (j - (numB d.length).length) := by
      rw [← hl, List.drop_left]
    simp only [e2]
    unfold tf
    rw [List.length_append] at hj
    rw [if_neg (by omega), if_pos (by rw [List.length_take]; omega)]

theorem Cut.ct {s : Rd} {d z : List UInt8} {m : Nat} (h : Cut s (sb d ++ z)) (hd : d.length ≤ m) (hm : m ≤ 65536) : ((rt m s).1 = d ∨ (rt m s).2.2 = 3) ∧ Cut (rt m s).2 z := by
  rcases h with h | ⟨h, hp⟩
  · rw [rt_err (by omega)]; exact ⟨.inr h, .inl h⟩
  · obtain ⟨p, e⟩ := s
    simp only at h hp
    subst h
    rcases hp.split with ⟨j, hj, rfl⟩ | ⟨q, rfl, hq⟩
    · have hr : (rt m ((sb d).take j, 0)).2.2 = 3 := by
        unfold rt
        rw [if_neg (by simp)]
        exact ts_short hd hm hj
      exact ⟨.inr hr, .inl hr⟩
    · rw [rt_sb hd hm]; exact ⟨.inl rfl, .inr ⟨rfl, hq⟩⟩

theorem rc_err {m : Nat} {s : Rd} (h : s.2 ≠ 0) : rc m s = (0, s) := by
  unfold rc
  rw [rn_err h]
  simp only
  rw [if_neg (by omega)]
  rfl

theorem Cut.cc {s : Rd} {n m : Nat} {z : List UInt8} (h : Cut s (ib (n : Int) ++ z)) (hn : n ≤ m) (hm : m ≤ 65536) : ((rc m s).1 = n ∨ (rc m s).2.2 = 3) ∧ Cut (rc m s).2 z := by
  rcases h with h | ⟨h, hp⟩
  · rw [rc_err (by omega)]; exact ⟨.inr h, .inl h⟩
  · have h1 := Cut.cn (s := s) (x := (n : Int)) (.inr ⟨h, hp⟩) ⟨by omega, by omega⟩
    have hlim : ¬ (m : Int) < (rn s).1 := by
      rcases h1.1 with h2 | h2
      · omega
      · obtain ⟨p, e⟩ := s
        simp only at h hp
        subst h
        have h3 := (tk_err0 (l := p) (n := (tk p).1) (rest := (tk p).2.1) (e := (tk p).2.2) rfl (by
          have : (rn (p, 0)).2.2 = (tk p).2.2 := by unfold rn; rw [if_neg (by simp)]
          omega)).1
        have : (rn (p, 0)).1 = ((tk p).1 : Nat) := by unfold rn; rw [if_neg (by simp)]
        rw [this, h3]
        omega
    unfold rc
    rw [if_neg hlim]
    refine ⟨?_, h1.2⟩
    rcases h1.1 with h2 | h2
    · exact .inl (by simp only [h2]; omega)
    · exact .inr h2

theorem rns_err {k : Nat} {s : Rd} (h : s.2 ≠ 0) : (rns k s).2 = s := by
  induction k with
  | zero => rfl
  | succ k ih => unfold rns; simp only [ih, rn_err h]

theorem Cut.cns {s : Rd} {l : List Int} {z : List UInt8} (h : Cut s (ibs l ++ z)) (hl : ∀ x ∈ l, Nm x) : Cut (rns l.length s).2 z := by
  suffices H : ∀ k, k ≤ l.length → Cut (rns k s).2 (ibs (l.drop k) ++ z) by
    have := H l.length (Nat.le_refl _)
    simpa [ibs] using this
  intro k
  induction k with
  | zero => intro _; simpa [rns] using h
  | succ k ih =>
    intro hk
    have hk' : k < l.length := by omega
    have e := ibs_drop hk'
    have h1 := ih (by omega)
    rw [e, List.append_assoc] at h1
    unfold rns
    exact (Cut.cn h1 (hl _ (List.getElem_mem hk'))).2

theorem Cut.cdw {s : Rd} {w : Wl} {z : List UInt8} (h : Cut s (wb w ++ z)) (hw : May w) : Cut (rdw s).2 z := by
  obtain ⟨h1, h2, h3, h4, h5, h6, h7, h8, h9, h10, h11⟩ := hw.nums
  rw [wb_flat] at h
  simp only [List.append_assoc] at h
  have a := (((((((((h.cn h1).2.cn h2).2.cn h3).2.cn h4).2.cn h5).2.cn h6).2.ct h9 (by omega)).2.cn h7).2.cn h8).2.cc h10 (by omega)
  unfold rdw
  simp only
  rcases a.1 with b | b
  · rw [b]
    exact a.2.cns h11
  · rw [rns_err (by omega)]
    exact .inl b

/-- Cut bytes are told to be short. -/
theorem parse_cut {w : Wl} (h : May w) {k : Nat} (hk : k < (wb w).length) : parse ((wb w).take k) = (W0, 3) := by
  have h1 : Cut (rdw ((wb w).take k, 0)).2 [] := Cut.cdw (z := []) (.inr ⟨rfl, by rw [List.append_nil]; exact Pfx.take hk⟩) h
  rcases h1 with h1 | ⟨_, h1⟩
  · unfold parse
    have : ren (rdw ((wb w).take k, 0)).2 = 3 := by unfold ren; rw [if_neg (by omega), h1]
    rw [this]
    rfl
  · exact h1.nil.elim

end Go.Proofs.YtfaeechidjpjbaaGreat

namespace Go.Proofs.YtfaeechidjpjbaaGreat

set_option linter.unusedVariables false

/-- A batch's bytes. -/
def sbs (l : List Wl) : List UInt8 := (l.map fun w => sb (wb w)).flatten

def btB (l : List Wl) : List UInt8 := ib (l.length : Int) ++ sbs l

def batchW (l : List Wl) : List UInt8 × Nat := if 4 < l.length then ([], 5) else if ∀ w ∈ l, May w then (btB l, 0) else ([], 2)

def rp (s : Rd) : Wl × Rd := if (rt 256 s).2.2 ≠ 0 then (W0, (rt 256 s).2) else ((parse (rt 256 s).1).1, ((rt 256 s).2.1, (parse (rt 256 s).1).2))

def rps : Nat → Rd → List Wl × Rd
  | 0, s => ([], s)
  | k + 1, s => ((rps k s).1 ++ [(rp (rps k s).2).1], (rp (rps k s).2).2)

def unb (l : List UInt8) : List Wl × Nat :=
  if ren (rps (rc 4 (l, 0)).1 (rc 4 (l, 0)).2).2 ≠ 0 then ([], ren (rps (rc 4 (l, 0)).1 (rc 4 (l, 0)).2).2) else ((rps (rc 4 (l, 0)).1 (rc 4 (l, 0)).2).1, 0)

theorem sbs_nil : sbs [] = [] := rfl

theorem sbs_cons (w : Wl) (l : List Wl) : sbs (w :: l) = sb (wb w) ++ sbs l := by simp [sbs]

theorem sbs_drop {l : List Wl} {k : Nat} (h : k < l.length) : sbs (l.drop k) = sb (wb l[k]) ++ sbs (l.drop (k + 1)) := by
  rw [List.drop_eq_getElem_cons h, sbs_cons]

theorem sbs_take {l : List Wl} {k : Nat} (h : k < l.length) : sbs (l.take (k + 1)) = sbs (l.take k) ++ sb (wb l[k]) := by
  rw [List.take_succ_eq_append_getElem h]; unfold sbs; rw [List.map_append, List.flatten_append]; simp

theorem rps_len (k : Nat) (s : Rd) : (rps k s).1.length = k := by
  induction k with
  | zero => rfl
  | succ k ih => simp [rps, ih]

theorem rp_err {s : Rd} (h : s.2 ≠ 0) : rp s = (W0, s) := by unfold rp; rw [rt_err h, if_pos h]

theorem rps_err {k : Nat} {s : Rd} (h : s.2 ≠ 0) : (rps k s).2 = s := by
  induction k with
  | zero => rfl
  | succ k ih => unfold rps; simp only [ih, rp_err h]

theorem rp_sb {w : Wl} (h : May w) (z : List UInt8) : rp (sb (wb w) ++ z, 0) = (w, (z, 0)) := by
  have hl := (wb_len h).2
  unfold rp
  simp only [rt_sb (d := wb w) (m := 256) (by omega) (by omega) z, parse_wb h]
  simp

theorem rps_sbs {l : List Wl} (h : ∀ w ∈ l, May w) (z : List UInt8) : rps l.length (sbs l ++ z, 0) = (l, (z, 0)) := by
  suffices H : ∀ k, k ≤ l.length → rps k (sbs l ++ z, 0) = (l.take k, (sbs (l.drop k) ++ z, 0)) by
    have := H l.length (Nat.le_refl _)
    rw [this]
    simp [sbs]
  intro k
  induction k with
  | zero => intro _; simp [rps]
  | succ k ih =>
    intro hk
    have hk' : k < l.length := by omega
    unfold rps
    rw [ih (by omega)]
    have e := sbs_drop hk'
    simp only
    rw [e, List.append_assoc, rp_sb (h _ (List.getElem_mem hk'))]
    simp only
    rw [List.take_succ_eq_append_getElem hk']

theorem unb_all {l : List Wl} (h4 : l.length ≤ 4) (h : ∀ w ∈ l, May w) (z : List UInt8) : unb (btB l ++ z) = if z.length ≠ 0 then ([], 4) else (l, 0) := by
  unfold unb btB
  rw [List.append_assoc, rc_ib h4 (by omega)]
  simp only [rps_sbs h z, ren]
  by_cases hz : z.length ≠ 0
  · rw [if_pos hz, if_pos (by simp [hz])]
    simp [hz]
  · rw [if_neg hz, if_neg (by simp; simpa using hz)]

theorem unb_btB {l : List Wl} (h4 : l.length ≤ 4) (h : ∀ w ∈ l, May w) : unb (btB l) = (l, 0) := by
  have := unb_all h4 h []
  rw [List.append_nil] at this
  simpa using this

theorem btB_inj {l m : List Wl} (hl : l.length ≤ 4) (hm : m.length ≤ 4) (h : ∀ w ∈ l, May w) (h' : ∀ w ∈ m, May w) (e : btB l = btB m) : l = m := by
  have h1 := unb_btB hl h
  rw [e, unb_btB hm h'] at h1
  simpa using h1.symm

theorem rp_ok {s : Rd} (h : (rp s).2.2 = 0) : s.2 = 0 ∧ May (rp s).1 ∧ s.1 = sb (wb (rp s).1) ++ (rp s).2.1 := by
  unfold rp at h ⊢
  by_cases h1 : (rt 256 s).2.2 ≠ 0
  · rw [if_pos h1] at h; exact absurd h h1
  · rw [if_neg h1] at h ⊢
    simp only at h ⊢
    have h1' : (rt 256 s).2.2 = 0 := by simpa using h1
    obtain ⟨a1, a2, a3⟩ := rt_ok h1'
    obtain ⟨b1, b2⟩ := parse_back (l := (rt 256 s).1) (w := (parse (rt 256 s).1).1) (by rw [← h])
    exact ⟨a1, b1, by rw [b2]; exact a3⟩

theorem rps_ok {k : Nat} {s : Rd} (h : (rps k s).2.2 = 0) : s.2 = 0 ∧ (∀ w ∈ (rps k s).1, May w) ∧ s.1 = sbs (rps k s).1 ++ (rps k s).2.1 := by
  induction k with
  | zero => exact ⟨h, by simp [rps], by simp [rps, sbs]⟩
  | succ k ih =>
    unfold rps at h ⊢
    simp only at h ⊢
    obtain ⟨h1, h2, h3⟩ := rp_ok h
    obtain ⟨h4, h5, h6⟩ := ih h1
    refine ⟨h4, ?_, ?_⟩
    · intro w hw
      rcases List.mem_append.1 hw with hw | hw
      · exact h5 w hw
      · rw [List.mem_singleton] at hw; rw [hw]; exact h2
    · conv => lhs; rw [h6, h3]
      simp [sbs]

theorem unb_back {b : List UInt8} {l : List Wl} (h : unb b = (l, 0)) : l.length ≤ 4 ∧ (∀ w ∈ l, May w) ∧ btB l = b := by
  unfold unb at h
  by_cases h1 : ren (rps (rc 4 (b, 0)).1 (rc 4 (b, 0)).2).2 ≠ 0
  · rw [if_pos h1] at h; simp only [Prod.mk.injEq] at h; exact absurd h.2 h1
  · rw [if_neg h1] at h
    have h1' : ren (rps (rc 4 (b, 0)).1 (rc 4 (b, 0)).2).2 = 0 := by simpa using h1
    have hl := rps_len (rc 4 (b, 0)).1 (rc 4 (b, 0)).2
    simp only [Prod.mk.injEq, and_true] at h
    unfold ren at h1'
    split at h1'
    · cases h1'
    · rename_i h3
      have h4 : (rps (rc 4 (b, 0)).1 (rc 4 (b, 0)).2).2.1.length = 0 := by
        rcases Nat.eq_zero_or_pos (rps (rc 4 (b, 0)).1 (rc 4 (b, 0)).2).2.1.length with h5 | h5
        · exact h5
        · exact absurd ⟨h1', by omega⟩ h3
      obtain ⟨a1, a2, a3⟩ := rps_ok h1'
      obtain ⟨b1, b2, b3⟩ := rc_ok a1
      rw [List.eq_nil_of_length_eq_zero h4, List.append_nil] at a3
      rw [h] at a2 a3 hl
      refine ⟨by omega, a2, ?_⟩
      unfold btB
      rw [hl, ← a3, ← b3]

theorem unb_bad {b : List UInt8} (h : (unb b).2 ≠ 0) : (unb b).1 = [] := by
  unfold unb at h ⊢
  split
  · rfl
  · rename_i h1; rw [if_neg h1] at h; exact absurd rfl h

theorem unb_len {b : List UInt8} : (unb b).1.length ≤ 4 := by
  by_cases h : (unb b).2 = 0
  · exact (unb_back (b := b) (l := (unb b).1) (by rw [← h])).1
  · rw [unb_bad h]; simp

theorem batch_bad {l : List Wl} (h : (batchW l).2 ≠ 0) : (batchW l).1 = [] ∧ ((batchW l).2 = 5 ↔ 4 < l.length) := by
  unfold batchW at h ⊢
  by_cases h4 : 4 < l.length
  · simp [h4]
  · rw [if_neg h4] at h ⊢
    split
    · rename_i h1; rw [if_pos h1] at h; exact absurd rfl h
    · simp; omega

theorem batch_ok {l : List Wl} (h : (batchW l).2 = 0) : l.length ≤ 4 ∧ (∀ w ∈ l, May w) ∧ (batchW l).1 = btB l := by
  unfold batchW at h ⊢
  by_cases h4 : 4 < l.length
  · rw [if_pos h4] at h; simp at h
  · rw [if_neg h4] at h ⊢
    by_cases h1 : ∀ w ∈ l, May w
    · rw [if_pos h1]; exact ⟨by omega, h1, rfl⟩
    · rw [if_neg h1] at h; simp at h

theorem sbs_len {l : List Wl} (h : ∀ w ∈ l, May w) : (sbs l).length ≤ 136 * l.length := by
  induction l with
  | nil => simp [sbs]
  | cons w l ih =>
    rw [sbs_cons, List.length_append, List.length_cons]
    have h1 := ih fun y hy => h y (List.mem_cons_of_mem _ hy)
    have h2 := (wb_len (h w List.mem_cons_self)).2
    have h3 := (sb_len (l := wb w) (by omega)).2
    omega

theorem btB_len {l : List Wl} (h4 : l.length ≤ 4) (h : ∀ w ∈ l, May w) : 1 ≤ (btB l).length ∧ (btB l).length ≤ 552 := by
  unfold btB
  have h1 := sbs_len h
  have h2 := ib_le (x := (l.length : Int)) ⟨by omega, by omega⟩
  rw [List.length_append]
  omega

/-- A batch of one, cut. -/
theorem unb_cut {w : Wl} (h : May w) {k : Nat} (hk : k < (btB [w]).length) : unb ((btB [w]).take k) = ([], 3) := by
  have hl := (wb_len h).2
  have hb : btB [w] = ib ((1 : Nat) : Int) ++ (sb (wb w) ++ []) := by simp [btB, sbs]
  have h1 : Cut ((btB [w]).take k, 0) (ib ((1 : Nat) : Int) ++ (sb (wb w) ++ [])) := .inr ⟨rfl, by rw [← hb]; exact Pfx.take hk⟩
  obtain ⟨h2, h3⟩ := h1.cc (n := 1) (m := 4) (by omega) (by omega)
  have key : (rps (rc 4 ((btB [w]).take k, 0)).1 (rc 4 ((btB [w]).take k, 0)).2).2.2 = 3 := by
    rcases h2 with h2 | h2
    · rw [h2]
      obtain ⟨h4, h5⟩ := h3.ct (d := wb w) (m := 256) (by omega) (by omega)
      have h6 : (rt 256 (rc 4 ((btB [w]).take k, 0)).2).2.2 = 3 := by
        rcases h5 with h5 | ⟨_, h5⟩
        · exact h5
        · exact h5.nil.elim
      show (rp (rc 4 ((btB [w]).take k, 0)).2).2.2 = 3
      unfold rp
      rw [if_pos (by omega)]
      exact h6
    · rw [rps_err (by omega)]; exact h2
  unfold unb
  have : ren (rps (rc 4 ((btB [w]).take k, 0)).1 (rc 4 ((btB [w]).take k, 0)).2).2 = 3 := by unfold ren; rw [if_neg (by omega), key]
  rw [this]
  rfl

/-! ### What a reader sees near -/

theorem nu_near {l : List UInt8} {m : Nat} (h : 8 ≤ m) : nu (l.take m) = nu l := by
  cases l with
  | nil => simp [nu]
  | cons b t =>
    obtain ⟨k, rfl⟩ : ∃ k, m = k + 1 := ⟨m - 1, by omega⟩
    rw [List.take_succ_cons]
    unfold nu
    simp only
    by_cases h7 : 7 < b.toNat
    · rw [if_pos h7, if_pos h7]
    · rw [if_neg h7, if_neg h7]
      have e1 : ((t.take k).length < b.toNat) = (t.length < b.toNat) := by rw [List.length_take]; apply propext; omega
      have e2 : (t.take k).take b.toNat = t.take b.toNat := by rw [List.take_take]; congr 1; omega
      have e3 : (t.take k).head? = t.head? := by
        cases t with
        | nil => simp
        | cons x u =>
          obtain ⟨j, rfl⟩ : ∃ j, k = j + 1 := ⟨k - 1, by omega⟩
          simp
      simp only [e1, e2, e3]

theorem tk_near {l : List UInt8} : (tk (l.take 8)).1 = (tk l).1 ∧ (tk (l.take 8)).2.2 = (tk l).2.2 ∧ ((tk l).2.2 = 0 → (tk l).2.1 = l.drop ((l.take 8).length - (tk (l.take 8)).2.1.length)) := by
  have hu := nu_used (l.take 8)
  unfold tk
  rw [nu_near (by omega)] at hu ⊢
  by_cases h : (nu l).2.2 = 0
  · rw [if_pos h, if_pos h]
    refine ⟨rfl, rfl, fun _ => ?_⟩
    simp only [List.length_drop]
    congr 1
    omega
  · rw [if_neg h, if_neg h]
    exact ⟨rfl, rfl, fun h2 => absurd h2 h⟩

theorem ts_near {l : List UInt8} {m : Nat} : (ts (l.take (8 + m)) m).1 = (ts l m).1 ∧ (ts (l.take (8 + m)) m).2.2 = (ts l m).2.2 ∧ ((ts l m).2.2 = 0 → (ts l m).2.1 = l.drop ((l.take (8 + m)).length - (ts (l.take (8 + m)) m).2.1.length)) := by
  have hu := nu_used (l.take (8 + m))
  have hu8 : (nu l).2.1 ≤ 8 := by
    have := nu_used (l.take 8)
    rw [nu_near (by omega), List.length_take] at this
    omega
  unfold ts
  rw [nu_near (by omega)] at hu ⊢
  have h0 : ¬ ((m : Int) < 0) := by omega
  simp only [h0, if_false]
  by_cases h : (nu l).2.2 ≠ 0
  · rw [if_pos h, if_pos h]
    exact ⟨rfl, rfl, fun h2 => absurd h2 h⟩
  · rw [if_neg h, if_neg h]
    by_cases h2 : (m : Int) < (nu l).1 ∨ 65536 < (nu l).1
    · rw [if_pos h2, if_pos h2]
      exact ⟨rfl, rfl, fun h2 => by simp at h2⟩
    · rw [if_neg h2, if_neg h2]
      have hm : (nu l).1 ≤ m := by omega
      unfold tf
      have h9 : ¬ (((nu l).1 : Int) < 0) := by omega
      simp only [h9, if_false]
      rw [List.length_take] at hu
      have e : (((l.take (8 + m)).drop (nu l).2.1).length : Int) < ((nu l).1 : Int) ↔ ((l.drop (nu l).2.1).length : Int) < ((nu l).1 : Int) := by
        rw [List.length_drop, List.length_drop, List.length_take]; omega
      by_cases h3 : ((l.drop (nu l).2.1).length : Int) < ((nu l).1 : Int)
      · rw [if_pos (e.2 h3), if_pos h3]
        exact ⟨rfl, rfl, fun h2 => by simp at h2⟩
      · rw [if_neg (fun h4 => h3 (e.1 h4)), if_neg h3]
        refine ⟨?_, rfl, fun _ => ?_⟩
        · simp only [Int.toNat_natCast]
          rw [List.drop_take, List.take_take]
          congr 1
          omega
        · simp only [Int.toNat_natCast, List.drop_drop, List.length_drop, List.length_take]
          congr 1
          rw [List.length_drop] at h3
          omega

end Go.Proofs.YtfaeechidjpjbaaGreat

namespace Go.Proofs.YtfaeechidjpjbaaGreat

open Go.RowKit

set_option linter.unusedVariables false

def cw (x : UInt32) : Value := .int .u32 (x.toNat : Int)

/-- x turned right by n bits. -/
def rotr (x : UInt32) (n : Nat) : UInt32 := (x >>> UInt32.ofNat n) ||| (x <<< UInt32.ofNat (32 - n))

theorem w_lt (x : UInt32) : (x.toNat : Int) < 4294967296 := by have := x.toNat_lt; omega

theorem w_add (x y : UInt32) : ((x.toNat : Int) + (y.toNat : Int)) % 4294967296 = ((x + y).toNat : Int) := by
  rw [UInt32.toNat_add]; omega

theorem w_sub (x y : UInt32) : ((x.toNat : Int) - (y.toNat : Int)) % 4294967296 = ((x - y).toNat : Int) := by
  rw [UInt32.toNat_sub]; have := x.toNat_lt; have := y.toNat_lt; omega

theorem w_and (x y : UInt32) : bits .and .u32 (x.toNat : Int) (y.toNat : Int) = ((x &&& y).toNat : Int) := by
  have h := (bits_nat .u32 32 (by decide) (fun n h0 h1 => by rw [IntKind.wrap_u32]; omega) x.toNat y.toNat (by simpa using x.toNat_lt) (by simpa using y.toNat_lt)).1
  rw [h, UInt32.toNat_and]

theorem w_or (x y : UInt32) : bits .or .u32 (x.toNat : Int) (y.toNat : Int) = ((x ||| y).toNat : Int) := by
  have h := (bits_nat .u32 32 (by decide) (fun n h0 h1 => by rw [IntKind.wrap_u32]; omega) x.toNat y.toNat (by simpa using x.toNat_lt) (by simpa using y.toNat_lt)).2
  rw [h, UInt32.toNat_or]

theorem w_xor (x y : UInt32) : bits .xor .u32 (x.toNat : Int) (y.toNat : Int) = ((x ^^^ y).toNat : Int) := by
  rw [u32_xor_nat x.toNat y.toNat x.toNat_lt y.toNat_lt, UInt32.toNat_xor]

theorem w_not (x : UInt32) : bits .xor .u32 4294967295 (x.toNat : Int) = ((~~~x).toNat : Int) := by
  have h := u32_xor_nat 4294967295 x.toNat (by omega) x.toNat_lt
  have e : (4294967295 : UInt32) ^^^ x = ~~~x := by
    apply UInt32.toBitVec_inj.1
    rw [UInt32.toBitVec_xor, UInt32.toBitVec_not]
    exact BitVec.allOnes_xor
  have h2 : ((4294967295 : UInt32) ^^^ x).toNat = 4294967295 ^^^ x.toNat := by rw [UInt32.toNat_xor]; rfl
  rw [← e, h2]
  exact h

theorem w_shr (x : UInt32) (n : Nat) (h : n ≤ 31) : (x.toNat : Int) / 2 ^ n = ((x >>> UInt32.ofNat n).toNat : Int) := by
  rw [UInt32.toNat_shiftRight, UInt32.toNat_ofNat', Nat.shiftRight_eq_div_pow, Nat.mod_eq_of_lt (a := n) (by omega), Nat.mod_eq_of_lt (a := n) (by omega)]
  simp

theorem w_shl (x : UInt32) (n : Nat) (h : n ≤ 31) : (x.toNat : Int) * 2 ^ n % 4294967296 = ((x <<< UInt32.ofNat n).toNat : Int) := by
  rw [UInt32.toNat_shiftLeft, UInt32.toNat_ofNat', Nat.shiftLeft_eq, Nat.mod_eq_of_lt (a := n) (by omega), Nat.mod_eq_of_lt (a := n) (by omega)]
  simp

end Go.Proofs.YtfaeechidjpjbaaGreat

namespace Go.Proofs.YtfaeechidjpjbaaGreat

open Go.RowKit

set_option linter.unusedVariables false

set_option maxHeartbeats 400000 in
theorem ror_any (x : UInt32) (n : Nat) (w : World) (h1 : 1 ≤ n) (h2 : n ≤ 31) :
    Calls Tryz.prog 162 #[.int .u32 (x.toNat : Int), .int .i64 (n : Int)] w fun e w' => e = .returned (cw (rotr x n)) ∧ ∃ q, w' = w.drewN q := by
  have hx := x.toNat_lt
  have a1 : (0 : Int) ≤ (n : Int) := by omega
  have a2 : (n : Int) ≤ 31 := by omega
  have a3 : (0 : Int) ≤ 32 - (n : Int) := by omega
  have a4 : 32 - (n : Int) ≤ 31 := by omega
  have a5 : IntKind.i64.wrap (32 - (n : Int)) = 32 - (n : Int) := IntWalk.i64_in _ (by omega)
  go_enter Tryz.func162, Tryz.ntmps162
  go_wp2
  go_quiet (fail)
  go_wp2
  go_ret
  refine ⟨?_, nq, rfl⟩
  have hf : cw (rotr x n) = .int .u32 (bits .or .u32 ((x.toNat : Int) / 2 ^ n) ((x.toNat : Int) * 2 ^ (32 - n) % 4294967296)) := by
    rw [w_shr x n h2, w_shl x (32 - n) (by omega), w_or]
    rfl
  rw [hf]
  rfl

theorem ror_int (x : UInt32) (n : Int) (w : World) (h1 : 1 ≤ n) (h2 : n ≤ 31) :
    Calls Tryz.prog 162 #[.int .u32 (x.toNat : Int), .int .i64 n] w fun e w' => e = .returned (.int .u32 ((rotr x n.toNat).toNat : Int)) ∧ ∃ q, w' = w.drewN q := by
  obtain ⟨k, rfl⟩ := Int.eq_ofNat_of_zero_le (a := n) (by omega)
  rw [Int.toNat_natCast]
  exact ror_any x k w (by omega) (by omega)

end Go.Proofs.YtfaeechidjpjbaaGreat

namespace Go.Proofs.YtfaeechidjpjbaaGreat

set_option linter.unusedVariables false

def s0 (x : UInt32) : UInt32 := rotr x 7 ^^^ rotr x 18 ^^^ (x >>> UInt32.ofNat 3)

def s1 (x : UInt32) : UInt32 := rotr x 17 ^^^ rotr x 19 ^^^ (x >>> UInt32.ofNat 10)

def be4 (a b c d : UInt8) : UInt32 := UInt32.ofNat (a.toNat * 16777216 + b.toNat * 65536 + c.toNat * 256 + d.toNat)

/-- The schedule's word t of a block. -/
def wt (bs : List UInt8) (t : Nat) : UInt32 :=
  if h : t < 16 then be4 (bs.getD (4 * t) 0) (bs.getD (4 * t + 1) 0) (bs.getD (4 * t + 2) 0) (bs.getD (4 * t + 3) 0)
  else wt bs (t - 16) + s0 (wt bs (t - 15)) + wt bs (t - 7) + s1 (wt bs (t - 2))
termination_by t
decreasing_by all_goals omega

theorem wt_low {bs : List UInt8} {t : Nat} (h : t < 16) : wt bs t = be4 (bs.getD (4 * t) 0) (bs.getD (4 * t + 1) 0) (bs.getD (4 * t + 2) 0) (bs.getD (4 * t + 3) 0) := by
  rw [wt, dif_pos h]

theorem wt_high {bs : List UInt8} {t : Nat} (h : 16 ≤ t) : wt bs t = wt bs (t - 16) + s0 (wt bs (t - 15)) + wt bs (t - 7) + s1 (wt bs (t - 2)) := by
  rw [wt, dif_neg (by omega)]

/-- The schedule while it is made: the first k words stand. -/
def sch (bs : List UInt8) (k : Nat) : List UInt32 := (List.range 64).map fun j => if j < k then wt bs j else 0

theorem sch_len (bs : List UInt8) (k : Nat) : (sch bs k).length = 64 := by simp [sch]

theorem sch_at {bs : List UInt8} {k j : Nat} (h : j < k) (hj : j < (sch bs k).length) : (sch bs k)[j] = wt bs j := by simp [sch, h]

theorem sch_set (bs : List UInt8) (k : Nat) : (sch bs k).set k (wt bs k) = sch bs (k + 1) := by
  apply List.ext_getElem
  · simp [sch]
  · intro i h1 h2
    rw [List.getElem_set]
    by_cases h : k = i
    · subst h; simp [sch]
    · simp only [h, if_false]
      simp only [sch, List.getElem_map, List.getElem_range]
      by_cases h3 : i < k
      · rw [if_pos h3, if_pos (by omega)]
      · rw [if_neg h3, if_neg (by omega)]

def cws (l : List UInt32) : List Value := l.map cw

theorem be4_toNat (a b c d : UInt8) : ((be4 a b c d).toNat : Int) = (a.toNat : Int) * 16777216 + (b.toNat : Int) * 65536 + (c.toNat : Int) * 256 + (d.toNat : Int) := by
  have := a.toNat_lt; have := b.toNat_lt; have := c.toNat_lt; have := d.toNat_lt
  unfold be4
  rw [UInt32.toNat_ofNat', Nat.mod_eq_of_lt (by omega)]
  simp

theorem w_lit3 (x : UInt32) : (x.toNat : Int) / 8 = ((x >>> UInt32.ofNat 3).toNat : Int) := w_shr x 3 (by decide)

theorem w_lit10 (x : UInt32) : (x.toNat : Int) / 1024 = ((x >>> UInt32.ofNat 10).toNat : Int) := w_shr x 10 (by decide)

theorem cw_be4 (a b c d : UInt8) : Value.int .u32 ((a.toNat : Int) * 16777216 + (b.toNat : Int) * 65536 + (c.toNat : Int) * 256 + (d.toNat : Int)) = cw (be4 a b c d) := by
  unfold cw; rw [be4_toNat]

end Go.Proofs.YtfaeechidjpjbaaGreat

namespace Go.Proofs.YtfaeechidjpjbaaGreat

open Go.RowKit

set_option linter.unusedVariables false

/-- A block known whole. -/
def Blk (w : World) (g : Nat) (t : TypeId) (cs : List Value) : Prop := w.heap[g]? = some (.cells cs.toArray t (0, 0))

theorem Blk.cell {w : World} {g : Nat} {t : TypeId} {cs : List Value} (h : Blk w g t cs) {i : Nat} {v : Value} (hv : cs[i]? = some v) : w.cell? ⟨g, i, none⟩ = some v := by
  rw [cell_of_row w g i cs.toArray t (0, 0) h]; simpa using hv

theorem Blk.free {w : World} {g : Nat} {t : TypeId} {cs : List Value} (h : Blk w g t cs) (i : Nat) : w.frozen? ⟨g, i, none⟩ = false := frozen_of_row w g i cs.toArray t h

theorem Blk.set_ {w : World} {g : Nat} {t : TypeId} {cs : List Value} (h : Blk w g t cs) (i : Nat) (v : Value) : Blk (w.setCell ⟨g, i, none⟩ v) g t (cs.set i v) := by
  unfold Blk at h ⊢
  simp [World.setCell, Array.getElem?_modify, h]

theorem Blk.far {w : World} {g : Nat} {t : TypeId} {cs : List Value} (h : Blk w g t cs) {p : Addr} (hp : g ≠ p.block) (v : Value) : Blk (w.setCell p v) g t cs := (Below.heap_setCell w p v g hp).trans h

theorem Blk.below {w w' : World} {g B : Nat} {t : TypeId} {cs : List Value} (h : Blk w g t cs) (hb : Below B w w') (hg : g < B) : Blk w' g t cs := (hb.block g hg).trans h

theorem Blk.lt {w : World} {g : Nat} {t : TypeId} {l : List Value} (h : Blk w g t l) : g < w.heap.size := by
  rcases Nat.lt_or_ge g w.heap.size with hlt | hge
  · exact hlt
  · unfold Blk at h; rw [Array.getElem?_eq_none hge] at h; cases h

theorem Blk.setMore {w : World} {g : Nat} {t : TypeId} (vs : List Value) : ∀ {w : World} {o : Nat} {cs : List Value}, Blk w g t cs → o + vs.length ≤ cs.length → Blk (w.setCells g o vs) g t (cs.take o ++ vs ++ cs.drop (o + vs.length)) := by
  induction vs with
  | nil => intro w o cs h hl; simpa [World.setCells] using h
  | cons v vs ih =>
    intro w o cs h hl
    have hl' : o + 1 + vs.length ≤ cs.length := by simp at hl; omega
    have := ih (w := w.setCell ⟨g, o, none⟩ v) (o := o + 1) (cs := cs.set o v) (h.set_ o v) (by rw [List.length_set]; exact hl')
    rw [World.setCells]
    have e1 : (cs.set o v).take (o + 1) = cs.take o ++ [v] := by
      rw [List.take_succ_eq_append_getElem (by rw [List.length_set]; omega), List.take_set_of_le (by omega), List.getElem_set_self]
    have e2 : (cs.set o v).drop (o + 1 + vs.length) = cs.drop (o + (v :: vs).length) := by
      rw [List.drop_set_of_lt (by omega), List.length_cons]; congr 1; omega
    rw [e1, e2] at this
    simpa using this

theorem Blk.setAll {w : World} {g : Nat} {t : TypeId} {cs vs : List Value} (h : Blk w g t cs) (hl : vs.length = cs.length) : Blk (w.setCells g 0 vs) g t vs := by
  have := Blk.setMore (w := w) vs h (o := 0) (by omega)
  rw [Nat.zero_add, List.drop_of_length_le (by omega)] at this
  simpa using this

theorem Below.setCells {B : Nat} {a : World} {g : Nat} (hg : B ≤ g) (vs : List Value) : ∀ {w : World} {o : Nat}, Below B a w → Below B a (w.setCells g o vs) := by
  induction vs with
  | nil => intro w o h; exact h
  | cons v vs ih => intro w o h; rw [World.setCells]; exact ih (h.setCell hg v)

theorem Blk.farAll {g g' : Nat} {t : TypeId} {cs : List Value} (hg : g ≠ g') (vs : List Value) : ∀ {w : World} {o : Nat}, Blk w g t cs → Blk (w.setCells g' o vs) g t cs := by
  induction vs with
  | nil => intro w o h; exact h
  | cons v vs ih => intro w o h; rw [World.setCells]; exact ih (h.far hg v)

theorem Blk.there {w : World} {g : Nat} {t : TypeId} {cs : List Value} (h : Blk w g t cs) : w.there g 0 cs.length := by
  intro j hj
  rw [Nat.zero_add]
  exact ⟨by rw [h.cell (List.getElem?_eq_getElem hj)]; rfl, h.free j⟩

theorem cbs_getD (bs : List UInt8) (i : Nat) (h : i < bs.length) : (cbs bs)[i]? = some (.int .u8 ((bs.getD i 0).toNat : Int)) := by
  rw [cbs_get, List.getElem?_eq_getElem h]
  simp [cb, List.getD, List.getElem?_eq_getElem h]

theorem cws_get (l : List UInt32) (i : Nat) (h : i < l.length) : (cws l)[i]? = some (.int .u32 (l[i].toNat : Int)) := by
  unfold cws
  rw [List.getElem?_map, List.getElem?_eq_getElem h]
  rfl

theorem sch_cell (bs : List UInt8) {k j : Nat} (h : j < k) (hj : j < 64) : (cws (sch bs k))[j]? = some (.int .u32 ((wt bs j).toNat : Int)) := by
  rw [cws_get _ _ (by rw [sch_len]; exact hj), sch_at h]

theorem sch_zero (bs : List UInt8) {k : Nat} (hj : k < 64) : (cws (sch bs k))[k]? = some (.int .u32 0) := by
  rw [cws_get _ _ (by rw [sch_len]; exact hj)]
  simp [sch]

theorem cws_set (l : List UInt32) (i : Nat) (x : UInt32) : (cws l).set i (cw x) = cws (l.set i x) := by
  unfold cws; rw [List.map_set]

theorem sch_start (bs : List UInt8) : (cws (sch bs 0)).toArray = (List.replicate 64 (Value.int .u32 0)).toArray := by
  congr 1

theorem Blk.new {w : World} {g : Nat} {t : TypeId} {cs : Array Value} {l : List Value} (h : l.toArray = cs) (hg : w.heap.size = g) : Blk (w.alloc (.cells cs t)) g t l := by
  subst h hg; exact heap_alloc_new w _

theorem Blk.old {w : World} {g : Nat} {t : TypeId} {l : List Value} (h : Blk w g t l) (o : Obj) : Blk (w.alloc o) g t l := by
  have hl : g < w.heap.size := by
    rcases Nat.lt_or_ge g w.heap.size with hlt | hge
    · exact hlt
    · unfold Blk at h; rw [Array.getElem?_eq_none hge] at h; cases h
  exact (Below.heap_alloc w o g hl).trans h

theorem cw_sched (x0 x1 x9 x14 : UInt32) : Value.int .u32 ((((((x0.toNat : Int) + bits .xor .u32 (bits .xor .u32 ((rotr x1 7).toNat : Int) ((rotr x1 18).toNat : Int)) ((x1.toNat : Int) / 8)) % 4294967296 + (x9.toNat : Int)) % 4294967296 +
    bits .xor .u32 (bits .xor .u32 ((rotr x14 17).toNat : Int) ((rotr x14 19).toNat : Int)) ((x14.toNat : Int) / 1024)) % 4294967296)) = cw (x0 + s0 x1 + x9 + s1 x14) := by
  unfold cw s0 s1
  rw [w_lit3, w_lit10, w_xor, w_xor, w_xor, w_xor, w_add, w_add, w_add]

theorem info64w : (Tryz.prog.info? 195).map (·.size) = some 64 := by kernel_rfl

theorem cws_one (l : List UInt32) : (cws l).toArray.all (·.oneCell') = true := by
  rw [Array.all_eq_true_iff_forall_mem]
  intro u hu
  simp [cws] at hu
  obtain ⟨x, _, rfl⟩ := hu
  rfl

theorem cws_length (l : List UInt32) : (cws l).length = l.length := by simp [cws]

theorem sch_size (bs : List UInt8) (k : Nat) : (cws (sch bs k)).toArray.size = 64 := by rw [List.size_toArray, cws_length, sch_len]

set_option maxRecDepth 100000 in
set_option maxHeartbeats 1600000 in
theorem schedule_any (bs : List UInt8) (w : World) (h : bs.length = 64) :
    Calls Tryz.prog 161 #[.agg (cbs bs).toArray] w fun e w' => e = .returned (.agg (cws (sch bs 64)).toArray) ∧ Below w.heap.size w w' := by
  have Hlen := Lib.hid h
  clear h
  go_enter Tryz.func161, Tryz.ntmps161
  go_wp2
  go_loopw [4] (fun i wr => ∃ k : Nat, k ≤ 16 ∧ i = .int .i64 k ∧ Blk wr w.heap.size 182 (cbs bs) ∧ Blk wr (w.heap.size + 1) 195 (cws (sch bs 0)) ∧
      Blk wr (w.heap.size + 1 + 1) 195 (cws (sch bs k)) ∧ Below w.heap.size w wr) (fun i _ => 16 - (intOf i).toNat)
  case atStart =>
    refine ⟨0, by omega, rfl, ?_, ?_, ?_, (((Below.refl _ _).alloc (Nat.le_refl _) _).alloc (by simp) _).alloc (by simp; omega) _⟩
    · exact ((Blk.new rfl rfl).old _).old _
    · exact (Blk.new (sch_start bs) (by simp)).old _
    · exact Blk.new (sch_start bs) (by simp)
  case round =>
    obtain ⟨k, hk, rfl, hB, hR, hS, hnx⟩ := hrel
    by_cases hlt : k < 16
    · have c0 := hB.cell (cbs_getD bs (4 * k) (by rw [Hlen.out]; omega))
      have c1 := hB.cell (cbs_getD bs (4 * k + 1) (by rw [Hlen.out]; omega))
      have c2 := hB.cell (cbs_getD bs (4 * k + 2) (by rw [Hlen.out]; omega))
      have c3 := hB.cell (cbs_getD bs (4 * k + 3) (by rw [Hlen.out]; omega))
      have d0 := hS.cell (sch_zero bs (k := k) (by omega))
      have f0 := hS.free k
      have hset := sch_set bs k
      rw [wt_low hlt] at hset
      have Hset := Lib.hid hset
      clear hset
      have l0 := (bs.getD (4 * k) 0).toNat_lt
      have l1 := (bs.getD (4 * k + 1) 0).toNat_lt
      have l2 := (bs.getD (4 * k + 2) 0).toNat_lt
      have l3 := (bs.getD (4 * k + 3) 0).toNat_lt
      generalize bs.getD (4 * k) 0 = x0 at *
      generalize bs.getD (4 * k + 1) 0 = x1 at *
      generalize bs.getD (4 * k + 2) 0 = x2 at *
      generalize bs.getD (4 * k + 3) 0 = x3 at *
      have i0 : (0 : Int) ≤ k := by omega
      have i1 : (k : Int) < 16 := by omega
      go_wp2
      go_region
      go_wp2
      go_roundw
      case rel =>
        refine ⟨k + 1, by omega, by go_num, hB.far (by dsimp only; omega) _, hR.far (by dsimp only; omega) _, ?_, (hnx.setCell (by dsimp only; omega) _).drew⟩
        have := hS.set_ k (cw (be4 x0 x1 x2 x3))
        rw [cws_set, Hset.out] at this
        rw [cw_be4]
        exact this
      case measure => simp [intOf]; omega
    · have hS16 : Blk wr (w.heap.size + 1 + 1) 195 (cws (sch bs 16)) := by
        have e : k = 16 := by omega
        rw [e] at hS; exact hS
      have hk2 : ¬ (k : Int) < 16 := by omega
      clear hk hS
      go_wp2
      go_loopw [5, 6, 7] (fun i _ _ wr => ∃ k : Nat, k ≤ 64 ∧ 16 ≤ k ∧ i = .int .i64 k ∧ Blk wr (w.heap.size + 1) 195 (cws (sch bs 0)) ∧
          Blk wr (w.heap.size + 1 + 1) 195 (cws (sch bs k)) ∧ Below w.heap.size w wr) (fun i _ _ _ => 64 - (intOf i).toNat)
      case atStart => exact ⟨16, by omega, by omega, rfl, hR, hS16, hnx⟩
      case round =>
        obtain ⟨k, hk, hk16, rfl, hR, hS, hnx⟩ := hrel
        by_cases hlt : k < 64
        · have c0 := hS.cell (sch_cell bs (k := k) (j := k - 16) (by omega) (by omega))
          have c1 := hS.cell (sch_cell bs (k := k) (j := k - 15) (by omega) (by omega))
          have c9 := hS.cell (sch_cell bs (k := k) (j := k - 7) (by omega) (by omega))
          have c14 := hS.cell (sch_cell bs (k := k) (j := k - 2) (by omega) (by omega))
          have d0 := hS.cell (sch_zero bs (k := k) (by omega))
          have f0 := hS.free k
          have hset := sch_set bs k
          rw [wt_high hk16] at hset
          have Hset := Lib.hid hset
          clear hset
          generalize wt bs (k - 16) = x0 at *
          generalize wt bs (k - 15) = x1 at *
          generalize wt bs (k - 7) = x9 at *
          generalize wt bs (k - 2) = x14 at *
          have l0 := w_lt x0
          have l1 := w_lt x1
          have l9 := w_lt x9
          have l14 := w_lt x14
          have i0 : (16 : Int) ≤ (k : Int) := by omega
          have i1 : (k : Int) < 64 := by omega
          go_wp2
          go_quiet (fail)
          go_wp2
          have v1 : IntKind.i64.wrap ((k : Int) - 16) = (k : Int) - 16 := IntWalk.i64_in _ (by omega)
          have v2 : IntKind.i64.wrap ((k : Int) - 7) = (k : Int) - 7 := IntWalk.i64_in _ (by omega)
          have v3 : (0 : Int) ≤ (k : Int) - 16 := by omega
          have v4 : (0 : Int) ≤ (k : Int) - 7 := by omega
          have v5 : (k : Int) - 16 < 64 := by omega
          have v6 : (k : Int) - 7 < 64 := by omega
          have v7 : ((k : Int) - 16).toNat = k - 16 := by omega
          have v8 : ((k : Int) - 7).toNat = k - 7 := by omega
          have v9 : (0 : Int) ≤ (k : Int) := by omega
          have v10 : (7 : Int) ≤ (k : Int) := by omega
          go_region_held3 (fun wz => wz.cell? ⟨w.heap.size + 1 + 1, k - 16, none⟩ = some (.int .u32 (x0.toNat : Int)) ∧ wz.cell? ⟨w.heap.size + 1 + 1, k - 7, none⟩ = some (.int .u32 (x9.toNat : Int))) (first | go_keep | exact ⟨(World.cell?_setCell_other _ _ _ _ (by intro e; injection e with _ e2; omega)).trans c0, (World.cell?_setCell_other _ _ _ _ (by intro e; injection e with _ e2; omega)).trans c9⟩)
            (first | (go_at_call 162; refine (ror_int _ _ _ (by omega) (by omega)).mono ?_; rintro e wy ⟨rfl, q, rfl⟩))
          clear v1 v2 v3 v4 v5 v6 v7 v8 v9 v10
          go_wp2
          go_roundw
          case rel =>
            refine ⟨k + 1, by omega, by omega, by go_num, hR.far (by dsimp only; omega) _, ?_, (below_drewN hnx _).setCell (by dsimp only; omega) _⟩
            have := hS.set_ k (cw (x0 + s0 x1 + x9 + s1 x14))
            rw [cws_set, Hset.out] at this
            rw [cw_sched]
            exact this
          case measure => simp [intOf]; omega
        · have hS64 : Blk wr (w.heap.size + 1 + 1) 195 (cws (sch bs 64)) := by
            have e : k = 64 := by omega
            rw [e] at hS; exact hS
          have hk2 : ¬ (k : Int) < 64 := by omega
          have hi : (Tryz.prog.info? 195).map (·.size) = some (cws (sch bs 64)).toArray.size := by rw [info64w, sch_size]
          have hth : wr.there (w.heap.size + 1) 0 (cws (sch bs 64)).toArray.size := by
            have e := hR.there
            rw [cws_length, sch_len] at e
            rw [sch_size]
            exact e
          have hR' := hR.setAll (vs := cws (sch bs 64)) (by rw [cws_length, cws_length, sch_len, sch_len])
          have hnx' : Below w.heap.size w (wr.setCells (w.heap.size + 1) 0 (cws (sch bs 64))) := Below.setCells (by omega) _ hnx
          have Hi := Lib.hid hi
          have Hth := Lib.hid hth
          have hone := cws_one (sch bs 64)
          have Hone := Lib.hid hone
          clear hk hlt hS hi hth hone
          go_wp2_with (first
            | refine wpList_load_row rfl 195 _ rfl (w.heap.size + 1 + 1) rfl 195 (cws (sch bs 64)).toArray (0, 0) _ hS64 Tryz.underlying195 rfl Hi.out ?_
            | refine wpList_store_mid rfl 195 _ _ rfl (w.heap.size + 1) 0 (cws (sch bs 64)).toArray rfl rfl Hth.out Hi.out Hone.out ?_)
          refine bodyPost_ret (results_cell_row rfl _ _ (w.heap.size + 1) 195 (cws (sch bs 64)).toArray (0, 0) _ rfl hR' Tryz.underlying195 rfl Hi.out) rfl ⟨rfl, hnx'⟩

end Go.Proofs.YtfaeechidjpjbaaGreat
