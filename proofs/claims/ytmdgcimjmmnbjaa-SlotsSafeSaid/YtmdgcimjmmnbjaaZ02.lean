/-
  Laid together for a hand-in: Sl14, App8, AnyOrder, AnyOrderH, TakeC, Build, Reg8, Eq, App, Clone.
-/
import Derived.Test.YtmdgcimjmmnbjaaZ01
import Derived.Test.YtmdgcimjmmnbjaaRows
import Derived.Lib.Bytealg
import Derived.Lib.Small
import Derived.Shelf.SlSortCmp.Insertion
import Derived.Maps.AppendAt
import Derived.RegionTactic
import Derived.Deep.RegionHeld3

namespace Go.Proofs.Ytmdgcimjmmnbjaa
open Go.Lib Go.Sort
set_option linter.unusedVariables false
set_option linter.unusedSimpArgs false

/-! ### Bytes in their order -/
theorem cmpB_self : ∀ a : List UInt8, compareBytes a a = 0
  | [] => rfl
  | x :: a => by unfold compareBytes; rw [if_neg (by simp [UInt8.lt_irrefl]), if_neg (by simp [UInt8.lt_irrefl]), cmpB_self a]
theorem cmpB_eq : ∀ {a b : List UInt8}, compareBytes a b = 0 → a = b
  | [], [], _ => rfl
  | [], _ :: _, h => by simp [compareBytes] at h
  | _ :: _, [], h => by simp [compareBytes] at h
  | x :: a, y :: b, h => by
    unfold compareBytes at h
    by_cases h1 : x < y
    · rw [if_pos h1] at h; cases h
    · by_cases h2 : y < x
      · rw [if_neg h1, if_pos h2] at h; cases h
      · rw [if_neg h1, if_neg h2] at h
        have : x = y := by rw [UInt8.lt_iff_toNat_lt] at h1 h2; exact UInt8.toNat_inj.1 (by omega)
        rw [this, cmpB_eq h]
theorem cmpB_neg : ∀ a b : List UInt8, compareBytes b a = - compareBytes a b
  | [], [] => rfl
  | [], _ :: _ => rfl
  | _ :: _, [] => rfl
  | x :: a, y :: b => by
    unfold compareBytes
    by_cases h1 : x < y
    · have h2 : ¬ y < x := by rw [UInt8.lt_iff_toNat_lt] at *; omega
      simp [h1, h2]
    · by_cases h2 : y < x
      · simp [h1, h2]
      · rw [if_neg h1, if_neg h2, if_neg h2, if_neg h1]; exact cmpB_neg a b
theorem cmpB_trans : ∀ {a b c : List UInt8}, compareBytes a b < 0 → compareBytes b c < 0 → compareBytes a c < 0
  | [], [], c, h, _ => by simp [compareBytes] at h
  | [], _ :: _, [], _, h => by simp [compareBytes] at h
  | [], _ :: _, _ :: _, _, _ => by simp [compareBytes]
  | _ :: _, [], _, h, _ => by simp [compareBytes] at h
  | _ :: _, _ :: _, [], _, h => by simp [compareBytes] at h
  | x :: a, y :: b, z :: c, h, k => by
    unfold compareBytes at h k ⊢
    simp only [UInt8.lt_iff_toNat_lt] at *
    split at h
    · split at k
      · rw [if_pos (by omega)]; omega
      · split at k
        · omega
        · rw [if_pos (by omega)]; omega
    · split at h
      · omega
      · split at k
        · rw [if_pos (by omega)]; omega
        · split at k
          · omega
          · rw [if_neg (by omega), if_neg (by omega)]; exact cmpB_trans h k

/-! ### What is said in a view -/
structure Vt where
  v : Int
  d : List UInt8
deriving DecidableEq
def Vt.ok (x : Vt) : Prop := 0 ≤ x.v ∧ x.v ≤ 1048576 ∧ x.d.length = 32
def viewB (v : Int) : Bool := decide (0 ≤ v) && decide (v ≤ 1048576)
/-- The error of what is said behind something else. -/
def fol (last : Option Vt) (now : Vt) : Int :=
  match last with
  | none => 0
  | some x => if now.v < x.v then 190 else if x.v = now.v ∧ x.d ≠ now.d then 151 else 0
def ltV (a b : Vt) : Prop := a.v < b.v ∨ (a.v = b.v ∧ compareBytes a.d b.d < 0)
instance (a b : Vt) : Decidable (ltV a b) := by unfold ltV; infer_instance
theorem ltV_irrefl (a : Vt) : ¬ ltV a a := by unfold ltV; rw [cmpB_self]; omega
theorem ltV_trans {a b c : Vt} (h : ltV a b) (k : ltV b c) : ltV a c := by
  unfold ltV at *
  rcases h with h | ⟨h, h'⟩ <;> rcases k with k | ⟨k, k'⟩
  · exact .inl (by omega)
  · exact .inl (by omega)
  · exact .inl (by omega)
  · exact .inr ⟨by omega, cmpB_trans h' k'⟩
theorem ltV_total {a b : Vt} (h : ¬ ltV a b) (k : ¬ ltV b a) : a = b := by
  obtain ⟨v, d⟩ := a
  obtain ⟨v', d'⟩ := b
  unfold ltV at *
  rw [cmpB_neg d d'] at k
  simp only at *
  have e : v = v' := by omega
  subst e
  have : compareBytes d d' = 0 := by omega
  rw [cmpB_eq this]
def ins (x : Vt) : List Vt → List Vt
  | [] => [x]
  | y :: l => if ltV x y then x :: y :: l else y :: ins x l
theorem ins_perm (x : Vt) : ∀ l : List Vt, (ins x l).Perm (x :: l)
  | [] => List.Perm.refl _
  | y :: l => by
    unfold ins
    split
    · exact List.Perm.refl _
    · exact ((ins_perm x l).cons y).trans (List.Perm.swap _ _ _)
theorem ins_sorted {x : Vt} : ∀ {l : List Vt}, l.Pairwise ltV → x ∉ l → (ins x l).Pairwise ltV
  | [], _, _ => by simp [ins]
  | y :: l, h, hx => by
    rw [List.pairwise_cons] at h
    unfold ins
    split
    · rename_i h1
      rw [List.pairwise_cons, List.pairwise_cons]
      exact ⟨fun z hz => by
        rcases List.mem_cons.1 hz with e | hz
        · rw [e]; exact h1
        · exact ltV_trans h1 (h.1 z hz), h.1, h.2⟩
    · rename_i h1
      have hyx : ltV y x := by
        by_cases h2 : ltV y x
        · exact h2
        · exact absurd (ltV_total h1 h2) (fun e => hx (by rw [e]; exact List.mem_cons_self))
      rw [List.pairwise_cons]
      exact ⟨fun z hz => by
        rcases List.mem_cons.1 ((ins_perm x l).mem_iff.1 hz) with e | hz
        · rw [e]; exact hyx
        · exact h.1 z hz, ins_sorted h.2 fun hm => hx (List.mem_cons_of_mem _ hm)⟩
/-- Q's proposals but for a digest. -/
def qLess (q : List Vt) (d : List UInt8) : List Vt := q.filter fun y => decide (y.d ≠ d)
def qCut (q : List Vt) : List Vt := if 4 ≤ q.length then q.drop 1 else q
def qPut (q : List Vt) (x : Vt) : List Vt := ins x (qCut (qLess q x.d))
structure QOk (q : List Vt) : Prop where
  sorted : q.Pairwise ltV
  nd : (q.map Vt.d).Nodup
  len : q.length ≤ 4
  ok : ∀ x ∈ q, x.ok
theorem QOk.nil : QOk [] := ⟨by simp, by simp, by simp, by simp⟩
theorem qCut_sub (q : List Vt) : (qCut q).Sublist q := by
  unfold qCut; split
  · exact List.drop_sublist _ _
  · exact List.Sublist.refl _
theorem qCut_len {q : List Vt} (h : q.length ≤ 4) : (qCut q).length ≤ 3 := by
  unfold qCut; split
  · rw [List.length_drop]; omega
  · omega
theorem QOk.put {q : List Vt} (h : QOk q) {x : Vt} (hx : x.ok) : QOk (qPut q x) := by
  have hs : (qCut (qLess q x.d)).Sublist q := (qCut_sub _).trans List.filter_sublist
  have hn : x.d ∉ (qCut (qLess q x.d)).map Vt.d := fun hm => by
    obtain ⟨y, hy, e⟩ := List.mem_map.1 hm
    have := (List.mem_filter.1 ((qCut_sub _).subset hy)).2
    simp [e] at this
  have hp := ins_perm x (qCut (qLess q x.d))
  refine ⟨ins_sorted (h.sorted.sublist hs) fun hm => hn (List.mem_map.2 ⟨x, hm, rfl⟩), ?_, ?_, ?_⟩
  · unfold qPut
    rw [(hp.map Vt.d).nodup_iff, List.map_cons, List.nodup_cons]
    exact ⟨hn, h.nd.sublist (hs.map _)⟩
  · unfold qPut
    rw [hp.length_eq, List.length_cons]
    have := qCut_len (q := qLess q x.d) (Nat.le_trans (List.length_filter_le ..) h.len)
    omega
  · intro y hy
    rcases List.mem_cons.1 (hp.mem_iff.1 hy) with e | hy
    · rw [e]; exact hx
    · exact h.ok y (hs.subset hy)

/-! ### A number, the window -/
structure Sq where
  last : Option Vt
  p : Option Vt
  q : List Vt
  pr : Int → Option Vt
  cm : Int → Option Vt
def sq0 : Sq := ⟨none, none, [], fun _ => none, fun _ => none⟩
def okO (o : Option Vt) : Prop := ∀ x, o = some x → x.ok
structure Sq.ok (x : Sq) : Prop where
  last : okO x.last
  p : okO x.p
  q : QOk x.q
  pr : ∀ n, okO (x.pr n)
  cm : ∀ n, okO (x.cm n)
theorem sq0_ok : sq0.ok := by
  refine ⟨?_, ?_, QOk.nil, ?_, ?_⟩ <;> simp [okO, sq0]
def setV (f : Int → Option Vt) (n : Int) (x : Vt) : Int → Option Vt := fun m => if m = n then some x else f m
def cntV (ns : List Int) (f : Int → Option Vt) (x : Vt) : Nat := ns.countP fun n => decide (f n = some x)
/-- What stands in the map of what nodes say. -/
def vts (ns : List Int) (f : Int → Option Vt) : List (Int × Vt) := ns.filterMap fun n => (f n).map fun x => (n, x)
theorem vts_keys (ns : List Int) (f : Int → Option Vt) : ((vts ns f).map Prod.fst).Sublist ns := by
  induction ns with
  | nil => exact List.Sublist.refl _
  | cons n l ih =>
    unfold vts
    rw [List.filterMap_cons]
    cases e : f n with
    | none => exact List.Sublist.cons _ ih
    | some x => exact List.Sublist.cons_cons _ ih
theorem vts_mem {ns : List Int} {f : Int → Option Vt} {n : Int} {x : Vt} : (n, x) ∈ vts ns f ↔ n ∈ ns ∧ f n = some x := by
  unfold vts
  rw [List.mem_filterMap]
  constructor
  · rintro ⟨m, hm, e⟩
    rw [Option.map_eq_some_iff] at e
    obtain ⟨y, hy, e⟩ := e
    injection e with e1 e2
    subst e1; subst e2
    exact ⟨hm, hy⟩
  · rintro ⟨hm, e⟩
    exact ⟨n, hm, by rw [e]; rfl⟩
theorem vts_count (ns : List Int) (f : Int → Option Vt) (x : Vt) : (vts ns f).countP (fun p => decide (p.2 = x)) = cntV ns f x := by
  unfold vts cntV
  rw [List.countP_filterMap]
  refine List.countP_congr fun n _ => ?_
  cases f n <;> simp
theorem vts_len (ns : List Int) (f : Int → Option Vt) : (vts ns f).length ≤ ns.length := List.length_filterMap_le ..
theorem fm_congr {α β : Type} {f g : α → Option β} : ∀ {l : List α}, (∀ a ∈ l, f a = g a) → l.filterMap f = l.filterMap g
  | [], _ => rfl
  | a :: l, h => by rw [List.filterMap_cons, List.filterMap_cons, h a List.mem_cons_self, fm_congr fun b hb => h b (List.mem_cons_of_mem _ hb)]
theorem vts_put {ns : List Int} (hn : ns.Nodup) (f : Int → Option Vt) {n : Int} (hm : n ∈ ns) (x : Vt) : ((n, x) :: (vts ns f).filter fun p => decide (p.1 ≠ n)).Perm (vts ns (setV f n x)) := by
  induction ns with
  | nil => cases hm
  | cons m l ih =>
    rw [List.nodup_cons] at hn
    by_cases e : m = n
    · subst e
      have h1 : vts (m :: l) (setV f m x) = (m, x) :: vts l (setV f m x) := by simp [vts, setV]
      have h2 : vts l (setV f m x) = vts l f := by
        unfold vts
        refine fm_congr fun k hk => ?_
        have : k ≠ m := fun e => hn.1 (e ▸ hk)
        simp [setV, this]
      have h3 : (vts l f).filter (fun p => decide (p.1 ≠ m)) = vts l f := by
        refine List.filter_eq_self.2 fun p hp => ?_
        have := (vts_mem.1 (show (p.1, p.2) ∈ _ from hp)).1
        have : p.1 ≠ m := fun e => hn.1 (e ▸ this)
        simp [this]
      rw [h1, h2]
      refine List.Perm.cons _ ?_
      cases e : f m with
      | none =>
        have : vts (m :: l) f = vts l f := by simp [vts, e]
        rw [this, h3]
      | some y =>
        have : vts (m :: l) f = (m, y) :: vts l f := by simp [vts, e]
        rw [this, List.filter_cons_of_neg (by simp), h3]
    · have hm' : n ∈ l := by
        rcases List.mem_cons.1 hm with e' | h
        · exact absurd e'.symm e
        · exact h
      have ih := ih hn.2 hm'
      have hs : setV f n x m = f m := by simp [setV, e]
      cases e' : f m with
      | none =>
        have h1 : vts (m :: l) f = vts l f := by simp [vts, e']
        have h2 : vts (m :: l) (setV f n x) = vts l (setV f n x) := by simp [vts, hs, e']
        rw [h1, h2]; exact ih
      | some y =>
        have h1 : vts (m :: l) f = (m, y) :: vts l f := by simp [vts, e']
        have h2 : vts (m :: l) (setV f n x) = (m, y) :: vts l (setV f n x) := by simp [vts, hs, e']
        rw [h1, h2, List.filter_cons_of_pos (by simp [e])]
        exact (List.Perm.swap _ _ _).trans (ih.cons _)

structure St where
  f : Int
  ns : List Int
  low : Int
  s : Nat → Sq
def preB (σ : St) (x : Sq) : Bool := match x.last with | none => false | some v => decide (2 * σ.f ≤ cntV σ.ns x.pr v)
def comB (σ : St) (x : Sq) : Bool := preB σ x && (match x.last with | none => false | some v => decide (2 * σ.f + 1 ≤ cntV σ.ns x.cm v))
def lookS (σ : St) (x : Sq) : Sq := if preB σ x then { x with p := x.last } else x
def idx (σ : St) (seq : Int) : Option Nat := if σ.low < seq ∧ seq ≤ σ.low + 8 then some (seq - σ.low - 1).toNat else none
def St.set (σ : St) (i : Nat) (x : Sq) : St := { σ with s := fun j => if j = i then x else σ.s j }
def propSq (x : Sq) (now : Vt) : Sq := { x with last := some now, q := qPut x.q now }
def propE (σ : St) (view seq : Int) (d : List UInt8) : Int :=
  if viewB view = false then 190 else match idx σ seq with | none => 150 | some i => fol (σ.s i).last ⟨view, d⟩
def propS (σ : St) (view seq : Int) (d : List UInt8) : St :=
  if propE σ view seq d ≠ 0 then σ else match idx σ seq with | none => σ | some i => σ.set i (lookS σ (propSq (σ.s i) ⟨view, d⟩))
def leadO (σ : St) (v : Int) : Int := σ.ns.getD (v % σ.ns.length).toNat 0
def prepE (σ : St) (node view seq : Int) (d : List UInt8) : Int :=
  if node ∉ σ.ns then 110 else if viewB view = false then 190 else if node = leadO σ view then 2 else match idx σ seq with | none => 150 | some i => fol ((σ.s i).pr node) ⟨view, d⟩
def prepS (σ : St) (node view seq : Int) (d : List UInt8) : St :=
  if prepE σ node view seq d ≠ 0 then σ else match idx σ seq with | none => σ | some i => σ.set i (lookS σ { σ.s i with pr := setV (σ.s i).pr node ⟨view, d⟩ })
def commE (σ : St) (node view seq : Int) (d : List UInt8) : Int :=
  if node ∉ σ.ns then 110 else if viewB view = false then 190 else match idx σ seq with | none => 150 | some i => fol ((σ.s i).cm node) ⟨view, d⟩
def commS (σ : St) (node view seq : Int) (d : List UInt8) : St :=
  if commE σ node view seq d ≠ 0 then σ else match idx σ seq with | none => σ | some i => σ.set i { σ.s i with cm := setV (σ.s i).cm node ⟨view, d⟩ }
def raiseE (σ : St) (low : Int) : Int := if low < σ.low ∨ 9007199254740983 < low then 9 else 0
def raiseS (σ : St) (low : Int) : St :=
  if raiseE σ low ≠ 0 then σ else { σ with low := low, s := fun i => if (low - σ.low).toNat + i < 8 then σ.s ((low - σ.low).toNat + i) else sq0 }
def fresh0 (f : Int) (ns : List Int) (low : Int) : St := ⟨f, ns, low, fun _ => sq0⟩

/-- A stand. -/
structure Sd where
  seq : Int
  d : List UInt8
  v : Int
deriving DecidableEq
def sdOf (σ : St) (i : Nat) (x : Vt) : Sd := ⟨σ.low + 1 + i, x.d, x.v⟩
def pAt (σ : St) (i : Nat) : List Sd := match (σ.s i).p with | none => [] | some x => [sdOf σ i x]
def qAt (σ : St) (i : Nat) : List Sd := (σ.s i).q.map (sdOf σ i)
def pAll (σ : St) : List Sd := (List.range 8).flatMap (pAt σ)
def qAll (σ : St) : List Sd := (List.range 8).flatMap (qAt σ)
def atS (σ : St) (seq : Int) : Option Sd := (idx σ seq).bind fun i => (σ.s i).last.map (sdOf σ i)
def preS (σ : St) (seq : Int) : Bool := match idx σ seq with | none => false | some i => preB σ (σ.s i)
def comS (σ : St) (seq : Int) : Bool := match idx σ seq with | none => false | some i => comB σ (σ.s i)

structure St.ok (σ : St) : Prop where
  f0 : 0 ≤ σ.f
  f1 : σ.f ≤ 2
  len : (σ.ns.length : Int) = 3 * σ.f + 1
  asc : σ.ns.Pairwise (· < ·)
  rng : ∀ x ∈ σ.ns, 1 ≤ x ∧ x ≤ 28
  low0 : 0 ≤ σ.low
  low1 : σ.low ≤ 9007199254740983
  s : ∀ i, i < 8 → (σ.s i).ok
theorem St.ok.nd {σ : St} (h : σ.ok) : σ.ns.Nodup := h.asc.imp fun h => by omega
theorem idx_lt {σ : St} {seq : Int} {i : Nat} (h : idx σ seq = some i) : i < 8 ∧ seq = σ.low + 1 + i := by
  unfold idx at h
  split at h
  · injection h with h; omega
  · cases h
theorem idx_of (σ : St) {i : Nat} (h : i < 8) : idx σ (σ.low + 1 + i) = some i := by
  unfold idx
  rw [if_pos (by omega)]
  congr 1
  omega
theorem fresh_ok {f : Int} {ns : List Int} {low : Int} (h0 : 0 ≤ f) (h1 : f ≤ 2) (h2 : (ns.length : Int) = 3 * f + 1) (h3 : ns.Pairwise (· < ·)) (h4 : ∀ x ∈ ns, 1 ≤ x ∧ x ≤ 28) (h5 : 0 ≤ low) (h6 : low ≤ 9007199254740983) : (fresh0 f ns low).ok :=
  ⟨h0, h1, h2, h3, h4, h5, h6, fun _ _ => sq0_ok⟩
theorem look_ok {σ : St} {x : Sq} (h : x.ok) : (lookS σ x).ok := by
  unfold lookS; split
  · exact ⟨h.last, h.last, h.q, h.pr, h.cm⟩
  · exact h
theorem set_ok {σ : St} (h : σ.ok) (i : Nat) {x : Sq} (hx : x.ok) : (σ.set i x).ok :=
  ⟨h.f0, h.f1, h.len, h.asc, h.rng, h.low0, h.low1, fun j hj => by
    show (if j = i then x else σ.s j).ok
    split
    · exact hx
    · exact h.s j hj⟩
theorem setV_ok {f : Int → Option Vt} (h : ∀ n, okO (f n)) (n : Int) {x : Vt} (hx : x.ok) : ∀ m, okO (setV f n x m) := fun m => by
  unfold setV; split
  · intro y hy; injection hy with hy; rw [← hy]; exact hx
  · exact h m
theorem propSq_ok {x : Sq} (h : x.ok) {now : Vt} (hn : now.ok) : (propSq x now).ok :=
  ⟨fun y hy => by injection hy with hy; rw [← hy]; exact hn, h.p, h.q.put hn, h.pr, h.cm⟩
theorem view_ok {v : Int} {d : List UInt8} (h : viewB v = true) (hd : d.length = 32) : (⟨v, d⟩ : Vt).ok := by
  simp [viewB] at h; exact ⟨h.1, h.2, hd⟩
theorem propS_ok {σ : St} (h : σ.ok) {view seq : Int} {d : List UInt8} (hd : d.length = 32) : (propS σ view seq d).ok := by
  unfold propS
  split
  · exact h
  · rename_i h1
    have hv : viewB view = true := by
      cases e : viewB view
      · simp [propE, e] at h1
      · rfl
    split
    · exact h
    · rename_i i hi
      exact set_ok h i (look_ok (propSq_ok (h.s i (idx_lt hi).1) (view_ok hv hd)))
theorem prepS_ok {σ : St} (h : σ.ok) {node view seq : Int} {d : List UInt8} (hd : d.length = 32) : (prepS σ node view seq d).ok := by
  unfold prepS
  split
  · exact h
  · rename_i h1
    have hv : viewB view = true := by
      cases e : viewB view
      · exfalso; apply h1; unfold prepE; simp only [e]; by_cases hn : node ∈ σ.ns <;> simp [hn] at h1 ⊢ <;> simp [prepE, e, hn] at h1
      · rfl
    split
    · exact h
    · rename_i i hi
      have hs := h.s i (idx_lt hi).1
      exact set_ok h i (look_ok ⟨hs.last, hs.p, hs.q, setV_ok hs.pr node (view_ok hv hd), hs.cm⟩)
theorem commS_ok {σ : St} (h : σ.ok) {node view seq : Int} {d : List UInt8} (hd : d.length = 32) : (commS σ node view seq d).ok := by
  unfold commS
  split
  · exact h
  · rename_i h1
    have hv : viewB view = true := by
      cases e : viewB view
      · exfalso; apply h1; unfold commE; simp only [e]; by_cases hn : node ∈ σ.ns <;> simp [hn] at h1 ⊢ <;> simp [commE, e, hn] at h1
      · rfl
    split
    · exact h
    · rename_i i hi
      have hs := h.s i (idx_lt hi).1
      exact set_ok h i ⟨hs.last, hs.p, hs.q, hs.pr, setV_ok hs.cm node (view_ok hv hd)⟩
theorem raiseS_ok {σ : St} (h : σ.ok) {low : Int} : (raiseS σ low).ok := by
  unfold raiseS
  split
  · exact h
  · rename_i h1
    have : ¬ (low < σ.low ∨ 9007199254740983 < low) := fun e => h1 (by simp [raiseE, e])
    have := h.low0
    refine ⟨h.f0, h.f1, h.len, h.asc, h.rng, by show 0 ≤ low; omega, by show low ≤ _; omega, fun i hi => ?_⟩
    show (if _ then _ else _ : Sq).ok
    split
    · exact h.s _ (by assumption)
    · exact sq0_ok

/-! ### The order of stands -/
def cfS (a b : Sd) : Int := if compareInt a.seq b.seq ≠ 0 then compareInt a.seq b.seq else if compareInt a.v b.v ≠ 0 then compareInt a.v b.v else compareBytes a.d b.d
theorem ltS_iff (a b : Sd) : cfS a b < 0 ↔ a.seq < b.seq ∨ (a.seq = b.seq ∧ ltV ⟨a.v, a.d⟩ ⟨b.v, b.d⟩) := by
  unfold cfS compareInt ltV
  simp only
  by_cases h1 : a.seq < b.seq
  · simp [h1]
  · by_cases h2 : b.seq < a.seq
    · rw [if_neg h1, if_pos (show a.seq > b.seq by omega)]; simp; omega
    · have e : a.seq = b.seq := by omega
      rw [if_neg h1, if_neg (show ¬ a.seq > b.seq by omega)]
      by_cases h3 : a.v < b.v
      · simp [h3, e]
      · by_cases h4 : b.v < a.v
        · rw [if_neg h3, if_pos (show a.v > b.v by omega)]; simp; omega
        · have e' : a.v = b.v := by omega
          rw [if_neg h3, if_neg (show ¬ a.v > b.v by omega)]
          simp [e, e']
def SdT := { x : Sd // x.d.length = 32 }
instance : Inhabited SdT := ⟨⟨⟨0, List.replicate 32 0, 0⟩, by simp⟩⟩
def cfT (a b : SdT) : Int := cfS a.1 b.1
theorem ltT_iff (a b : SdT) : ltOf cfT a b = true ↔ a.1.seq < b.1.seq ∨ (a.1.seq = b.1.seq ∧ ltV ⟨a.1.v, a.1.d⟩ ⟨b.1.v, b.1.d⟩) := by
  unfold ltOf; rw [decide_eq_true_eq]; exact ltS_iff _ _
theorem ltT_no (a b : SdT) : ltOf cfT a b = false ↔ ¬ (a.1.seq < b.1.seq ∨ (a.1.seq = b.1.seq ∧ ltV ⟨a.1.v, a.1.d⟩ ⟨b.1.v, b.1.d⟩)) := by
  rw [← ltT_iff]; simp
theorem totT (a b : SdT) (h : ltOf cfT a b = false) (k : ltOf cfT b a = false) : a = b := by
  rw [ltT_no] at h k
  have e : a.1.seq = b.1.seq := by
    rcases Int.lt_trichotomy a.1.seq b.1.seq with h1 | h1 | h1
    · exact absurd (.inl h1) h
    · exact h1
    · exact absurd (.inl h1) k
  have := ltV_total (fun h1 => h (.inr ⟨e, h1⟩)) (fun h1 => k (.inr ⟨e.symm, h1⟩))
  injection this with e1 e2
  obtain ⟨⟨s, d, v⟩, ha⟩ := a
  obtain ⟨⟨s', d', v'⟩, hb⟩ := b
  simp only at e e1 e2
  subst e; subst e1; subst e2
  rfl
theorem swoT : SWO (ltOf cfT) where
  irrefl x := by rw [ltT_no]; rintro (h | ⟨_, h⟩); · omega
                 · exact ltV_irrefl _ h
  trans x y z h k := by
    rw [ltT_iff] at *
    rcases h with h | ⟨h, h'⟩ <;> rcases k with k | ⟨k, k'⟩
    · exact .inl (by omega)
    · exact .inl (by omega)
    · exact .inl (by omega)
    · exact .inr ⟨by omega, ltV_trans h' k'⟩
  ntrans x y z h k := by
    cases e : ltOf cfT x z
    · rfl
    · exfalso
      by_cases h2 : ltOf cfT y x = true
      · by_cases h3 : ltOf cfT z y = true
        · rw [ltT_iff] at e h2 h3
          have h4 : ltOf cfT y z = true := by
            rw [ltT_iff]
            rcases h2 with h | ⟨h, h'⟩ <;> rcases e with k | ⟨k, k'⟩
            · exact .inl (by omega)
            · exact .inl (by omega)
            · exact .inl (by omega)
            · exact .inr ⟨by omega, ltV_trans h' k'⟩
          rw [k] at h4; cases h4
        · have := totT y z k (by simpa using h3)
          subst this
          rw [h] at e; cases e
      · have := totT x y h (by simpa using h2)
        subst this
        rw [k] at e; cases e
/-- Whatever is a permutation of a rising list, sorted, is that list. -/
theorem sort_is {l m : List SdT} (hp : m.Perm l) (hl : l.Pairwise fun a b => ltOf cfT a b = true) : (m.mergeSort fun x y => !(ltOf cfT) y x) = l := by
  refine List.Perm.eq_of_pairwise (le := fun a b => (!(ltOf cfT) b a) = true) (fun a b _ _ h k => totT a b (by simpa using k) (by simpa using h)) (List.pairwise_mergeSort (fun a b c h k => ?_) (fun a b => ?_) m) (hl.imp fun {a b} h => ?_) ((List.mergeSort_perm _ _).trans hp)
  · simp only [Bool.not_eq_true'] at *
    exact swoT.ntrans c b a k h
  · cases h1 : ltOf cfT b a
    · simp
    · cases h2 : ltOf cfT a b
      · simp
      · have := swoT.trans a b a h2 h1
        rw [swoT.irrefl] at this; cases this
  · cases h1 : ltOf cfT b a
    · rfl
    · have := swoT.trans a b a h h1
      rw [swoT.irrefl] at this; cases this
theorem SdT.ext {a b : SdT} (h : a.1 = b.1) : a = b := Subtype.ext h
end Go.Proofs.Ytmdgcimjmmnbjaa

namespace Go.Proofs.Ytmdgcimjmmnbjaa

open Go.RowKit

set_option linter.unusedVariables false

section

variable {w w' : World} {base k n : Nat} {e : TypeId} {v : Value} {xs : List Value}

theorem own_stay (h : w.ownsRow base e k v n xs) (hz : w.heap.size ≤ w'.heap.size) (hk : ∀ i, i < w.heap.size → base ≤ i → w'.heap[i]? = w.heap[i]?) : w'.ownsRow base e k v n xs := by
  obtain ⟨h1, h2 | ⟨g, cap, cur, h3, h4, h5, h6⟩⟩ := h
  · exact ⟨h1, .inl h2⟩
  · have hg : g < w.heap.size := by
      rcases Nat.lt_or_ge g w.heap.size with hlt | hge
      · exact hlt
      · rw [Array.getElem?_eq_none hge] at h5; cases h5
    exact ⟨h1, .inr ⟨g, cap, cur, h3, h4, (hk g hg h4).trans h5, h6⟩⟩

theorem own_below (h : w.ownsRow base e k v n xs) (hb : Below w.heap.size w w') : w'.ownsRow base e k v n xs := own_stay h hb.size fun i hi _ => hb.block i hi

theorem own_base {base' : Nat} (h : w.ownsRow base e k v n xs) (hb : base' ≤ base) : w.ownsRow base' e k v n xs := by
  obtain ⟨h1, h2 | ⟨g, cap, cur, h3, h4, h5⟩⟩ := h
  · exact ⟨h1, .inl h2⟩
  · exact ⟨h1, .inr ⟨g, cap, cur, h3, by omega, h5⟩⟩

/-- A row as a block. -/
theorem own_blk (h : w.ownsRow base e 1 v n xs) : (v = .slice none 0 0 ∧ n = 0 ∧ xs = []) ∨ ∃ g cap cs, v = .slice (some ⟨g, 0, none⟩) n cap ∧ base ≤ g ∧ Blk w g e cs ∧ n ≤ cap ∧ cap ≤ maxLen ∧ cs.length = cap ∧ cs.take n = xs := by
  obtain ⟨h1, ⟨h2, h3⟩ | ⟨g, cap, cur, h3, h4, h5, h6, h7, h8, h9⟩⟩ := h
  · left
    subst h3
    exact ⟨h2, rfl, List.eq_nil_of_length_eq_zero (by simpa using h1)⟩
  · right
    exact ⟨g, cap, cur.toList, h3, h4, by unfold Blk; simpa using h5, h6, h7, by simpa using h8, by simpa using h9⟩

theorem blk_own {g cap : Nat} {cs : List Value} (hg : base ≤ g) (hB : Blk w g e cs) (hn : n ≤ cap) (hc : cap ≤ maxLen) (hl : cs.length = cap) (ht : cs.take n = xs) : w.ownsRow base e 1 (.slice (some ⟨g, 0, none⟩) n cap) n xs :=
  ⟨by rw [← ht, List.length_take, hl]; omega, .inr ⟨g, cap, cs.toArray, rfl, hg, hB, hn, hc, by simpa using hl, by simpa using ht⟩⟩

end

def OwnI (w : World) (base : Nat) (v : Value) (l : List Int) : Prop := w.ownsRow base 3 1 v l.length (cis l)

theorem OwnI.form {w : World} {base : Nat} {v : Value} {l : List Int} (h : OwnI w base v l) : ∃ A c, v = .slice A l.length c ∧ l.length ≤ c ∧ c ≤ maxLen ∧ Is w A l := by
  obtain ⟨h1, h2⟩ := h
  have hh := h2
  rcases h2 with ⟨rfl, hx⟩ | ⟨g, cap, cur, rfl, _, _, hc, hm, _⟩
  · have : l = [] := List.eq_nil_of_length_eq_zero hx
    subst this
    exact ⟨none, 0, rfl, by simp, by simp [maxLen], Shows.empty _⟩
  · exact ⟨_, cap, rfl, hc, hm, Shows.ofOwn ⟨h1, hh⟩⟩

theorem OwnI.arg {w : World} {base : Nat} {v : Value} {l : List Int} (h : OwnI w base v l) (hw : ∀ x ∈ l, Wf x) : ∃ A c, v = .slice A l.length c ∧ ArgI w A l.length c l := by
  obtain ⟨A, c, e, h1, h2, h3⟩ := h.form
  exact ⟨A, c, e, rfl, h1, h2, h3, hw⟩

theorem OwnI.nil (w : World) (base : Nat) : OwnI w base (.slice none 0 0) [] := World.ownsRow_nil _ _ _ _

theorem NewI.own {w w' : World} {l : List Int} {v : Value} (h : NewI w l v w') : OwnI w' w.heap.size v l := h.1

theorem run_append_empty {P : Program} (w : World) (base : Nat) (t ty e : TypeId) (i : TypeInfo) (ht : P.underlying t = some (.slice e)) (hi : P.info? e = some i)
    (v : Value) (n : Nat) (xs : List Value) (size : Nat) (hown : w.ownsRow base e size v n xs) (c : Nat) : (Builtin.append_ #[t, t] ty #[v, .slice none 0 c]).run P w = .ok v w := by
  obtain ⟨_, h | ⟨g, cap, cur, h, _, _, hnc, _⟩⟩ := hown
  · obtain ⟨rfl, rfl⟩ := h
    simp [Builtin.append_, run_underlying ht, sizeOf, typeInfo, hi, Builtin.lenOf, Builtin.firstCells]
  · subst h
    simp [Builtin.append_, run_underlying ht, sizeOf, typeInfo, hi, Builtin.lenOf, Builtin.firstCells, hnc, storeCells]

theorem cis_append (l m : List Int) : cis (l ++ m) = cis l ++ cis m := by simp [cis]

theorem cis_take (l : List Int) (m : Nat) : cis (l.take m) = (cis l).take m := by simp [cis]

theorem cis_drop (l : List Int) (m : Nat) : cis (l.drop m) = (cis l).drop m := by simp [cis]

set_option maxRecDepth 100000 in
/-- append(v, x...): 'v' in a row of the call's own, 'x' whatever slice shows the numbers 'm'. -/
theorem run_appendI (w : World) (base : Nat) (v : Value) (l : List Int) (hown : OwnI w base v l) (A : Option Addr) (c k : Nat) (m : List Int) (hr : Is w A m) (hk : m.length = k)
    (h44 : l.length + k ≤ 17592186044416) (hbase : base ≤ w.heap.size) (ty : TypeId) :
    ∃ v' w', (Builtin.append_ #[51, 51] ty #[v, .slice A k c]).run Try.prog w = .ok v' w' ∧ OwnI w' base v' (l ++ m) ∧ w.grownBy w' v.ownBlock ∧
      (v'.ownBlock = v.ownBlock ∨ v'.ownBlock = some w.heap.size) := by
  subst hk
  obtain ⟨i0, hi, hz0, hz1, hz2⟩ := info_parts i64_info
  cases A with
  | none =>
    have hm : m = [] := by
      cases m with
      | nil => rfl
      | cons x t => obtain ⟨b, off, e, _⟩ := hr.at_ (i := 0) (by simp); cases e
    subst hm
    exact ⟨v, w, run_append_empty w base _ ty _ i0 Try.underlying51 hi v _ _ 1 hown c, by simpa using hown, World.grownBy.refl w _, .inl rfl⟩
  | some ad =>
    have hcells : ∀ j u, (cis m)[j]? = some u → w.cell? (ad.add j) = some u := by
      intro j u hu
      have hj : j < m.length := by
        rcases Nat.lt_or_ge j m.length with h | h
        · exact h
        · rw [List.getElem?_eq_none (by rw [cis_length]; exact h)] at hu; cases hu
      obtain ⟨b, off, e, _, hc⟩ := hr.2 (by omega)
      injection e with e
      subst e
      rw [add_mk]
      exact hc j u hu
    obtain ⟨v', w', h1, h2, h3, _, h5⟩ := run_append_own_at (P := Try.prog) w base 51 ty 3 i0 (.int .i64 0) 1 8 Try.underlying51 hi hz0 hz1 hz2 rfl (by decide) v l.length (cis l) hown ad m.length c (cis m)
      (by rw [cis_length]; simp) hcells (cis_one m) (by simp only [maxLen]; omega) (by omega) hbase
    exact ⟨v', w', h1, by unfold OwnI; rw [List.length_append, cis_append]; exact h2, h3, h5⟩

theorem wp_appendI {w : World} {ops : Array Oper} {rest : List Oper} {o : Oper} {a : Act} {Q : Exit → Act → World → Prop} (hgd : o.guard = none) (s x : Operand)
    (ho : o.op = .call { callee := .builtin .append, args := #[s, x], argTypes := #[51, 51] })
    (base : Nat) (v : Value) (l : List Int) (hs : a.eval s = v) (hown : OwnI w base v l) (A : Option Addr) (c k : Nat) (m : List Int) (hx : a.eval x = .slice A k c) (hr : Is w A m) (hk : m.length = k)
    (h44 : l.length + k ≤ 17592186044416) (hbase : base ≤ w.heap.size)
    (h : ∀ v' w', OwnI w' base v' (l ++ m) → w.grownBy w' v.ownBlock → (v'.ownBlock = v.ownBlock ∨ v'.ownBlock = some w.heap.size) → wpList Try.prog ops Q rest (a.put o.dst v') w') :
    wpList Try.prog ops Q (o :: rest) a w := by
  obtain ⟨v', w', hrun, h2, h3, h4⟩ := run_appendI w base v l hown A c k m hr hk h44 hbase o.type
  refine wpList_plain hgd fun K hK => ?_
  unfold Oper.wp execOp
  simp only [ho, resolve, invoke, builtin, Sem.run_bind, Sem.run_pure, Result.andThen_ok, List.map_toArray, List.map_cons, List.map_nil, hs, hx, hrun]
  exact hK _ _ (h v' w' h2 h3 h4)

/-- Behind an append to a row of its own, all that was ahead of that row stays. -/
theorem below_append {w0 w w' : World} {B base : Nat} {v : Value} {l : List Int} (hb : Below B w0 w) (hown : OwnI w base v l) (hg : w.grownBy w' v.ownBlock) (hB : B ≤ base) (hw : B ≤ w.heap.size) : Below B w0 w' :=
  hb.grown hg hw fun i hi => by have := (hown.lt i hi).1; omega

/-- A new block that shows some numbers. -/
theorem is_new (w : World) (l : List Int) : Is (w.alloc (.cells (cis l).toArray 3)) (some ⟨w.heap.size, 0, none⟩) l := by
  refine ⟨by rw [cis_length]; omega, fun _ => ⟨_, 0, rfl, by simp, fun j u hu => ?_⟩⟩
  rw [Nat.zero_add]
  exact (Blk.new (l := cis l) rfl rfl).cell hu

end Go.Proofs.Ytmdgcimjmmnbjaa

namespace Go.Proofs.Ytmdgcimjmmnbjaa

open Go.RowKit

set_option linter.unusedVariables false

theorem step_load {P : Program} {ops : Array Oper} {o : Oper} {a : Act} {w : World} {K : Act → World → Prop} {Q : Exit → Act → World → Prop} {E : Prop} (hgd : o.guard = none) (ty : TypeId) (x : Operand) (ho : o.op = .load ty x)
    (b off : Nat) (hx : a.eval x = .pointer (some ⟨b, off, none⟩)) (cs : List Value) (d : TypeDesc) (hc : w.rangeAt b off cs)
    (hu : P.underlying ty = some d) (hd : d.isRow = true) (hi : (P.info? ty).map (·.size) = some cs.length)
    (h : K (a.put o.dst (.agg cs.toArray)) w) : if Region.wanted o (yielded ops a.tmps) = true then Oper.wp P o a w K Q else E := by
  have hw : Region.wanted o (yielded ops a.tmps) = true := by simp [Region.wanted, hgd]
  rw [if_pos hw]
  exact wp_load_mid ty x ho b off hx cs d hc hu hd hi h

theorem step_store {P : Program} {ops : Array Oper} {o : Oper} {a : Act} {w : World} {K : Act → World → Prop} {Q : Exit → Act → World → Prop} {E : Prop} (hgd : o.guard = none) (ty : TypeId) (x y : Operand) (ho : o.op = .store ty x y)
    (b off : Nat) (cells : Array Value) (hx : a.eval x = .pointer (some ⟨b, off, none⟩)) (hy : a.eval y = .agg cells)
    (ht : w.there b off cells.size) (hi : (P.info? ty).map (·.size) = some cells.size) (h1 : cells.all (·.oneCell') = true)
    (h : K (a.put o.dst undef) (w.setCells b off cells.toList)) : if Region.wanted o (yielded ops a.tmps) = true then Oper.wp P o a w K Q else E := by
  have hw : Region.wanted o (yielded ops a.tmps) = true := by simp [Region.wanted, hgd]
  rw [if_pos hw]
  exact wp_store_mid ty x y ho b off cells hx hy ht hi h1 h

section

variable {P : Program} {ops : Array Oper} {Q : Exit → Act → World → Prop} {md : Region.Mode}

theorem any_take {i d : Nat} {oi : Oper} {v : Value} {fuel : Nat} {listed : Array Bool} {a : Act} {w : World} (hi : ops[i]? = some oi) (hd : oi.dst = some d)
    (hs : Region.noSelect ops = true) (hf : Region.free md ops listed i = true) (hr : (Region.ready md ops listed).contains i = true)
    (hQ : ∀ c a w, Q (.panic c) (a.put oi.dst v) w → Q (.panic c) a w) (hy : Yields P ops oi v a)
    (h : wpAny P md ops Q fuel (listed.setIfInBounds i true) { a with tmps := a.tmps.setIfInBounds d v } w) : wpAny P md ops Q (fuel + 1) listed a w :=
  wpAny_take hi hs hf hr hQ hy (by unfold Act.put; rw [hd]; exact h)

theorem op_load {i d : Nat} {oi : Oper} {a : Act} {w : World} {K : Act → World → Prop} (hi : ops[i]? = some oi) (hd : oi.dst = some d) (hgd : oi.guard = none) (ty : TypeId) (x : Operand) (ho : oi.op = .load ty x)
    (b off : Nat) (hx : a.eval x = .pointer (some ⟨b, off, none⟩)) (cs : List Value) (t : TypeDesc) (hc : w.rangeAt b off cs) (hu : P.underlying ty = some t) (ht : t.isRow = true) (hn : (P.info? ty).map (·.size) = some cs.length)
    (h : K { a with tmps := a.tmps.setIfInBounds d (.agg cs.toArray) } w) : wpOp P ops Q i K a w := by
  refine wpOp_step hi (fun K' hK => step_load hgd ty x ho b off hx cs t hc hu ht hn ?_)
  unfold Act.put
  rw [hd]
  exact hK _ _ h

theorem op_store {i : Nat} {oi : Oper} {a : Act} {w : World} {K : Act → World → Prop} (hi : ops[i]? = some oi) (hd : oi.dst = none) (hgd : oi.guard = none) (ty : TypeId) (x y : Operand) (ho : oi.op = .store ty x y)
    (b off : Nat) (cells : Array Value) (hx : a.eval x = .pointer (some ⟨b, off, none⟩)) (hy : a.eval y = .agg cells)
    (ht : w.there b off cells.size) (hn : (P.info? ty).map (·.size) = some cells.size) (h1 : cells.all (·.oneCell') = true)
    (h : K a (w.setCells b off cells.toList)) : wpOp P ops Q i K a w := by
  refine wpOp_step hi (fun K' hK => step_store hgd ty x y ho b off cells hx hy ht hn h1 ?_)
  unfold Act.put
  rw [hd]
  exact hK _ _ h

theorem any_one {i : Nat} {fuel : Nat} {listed : Array Bool} {a : Act} {w : World} (hr : Region.ready md ops listed = [i])
    (h : wpOp P ops Q i (wpAny P md ops Q fuel (listed.setIfInBounds i true)) a w) : wpAny P md ops Q (fuel + 1) listed a w :=
  wpAny_all hr (by simp) (fun j hj => by simp at hj; subst hj; exact h)

theorem any_two {i j : Nat} {fuel : Nat} {listed : Array Bool} {a : Act} {w : World} (hr : Region.ready md ops listed = [i, j])
    (h1 : wpOp P ops Q i (wpAny P md ops Q fuel (listed.setIfInBounds i true)) a w) (h2 : wpOp P ops Q j (wpAny P md ops Q fuel (listed.setIfInBounds j true)) a w) : wpAny P md ops Q (fuel + 1) listed a w :=
  wpAny_all hr (by simp) (fun k hk => by
    simp at hk
    rcases hk with rfl | rfl
    · exact h1
    · exact h2)

end

end Go.Proofs.Ytmdgcimjmmnbjaa

namespace Go.Proofs.Ytmdgcimjmmnbjaa

open Go.RowKit

set_option linter.unusedVariables false

section

variable {P : Program} {ops : Array Oper} {Q : Exit → Act → World → Prop} {md : Region.Mode} {S : World → Prop}

theorem anyH_take {i d : Nat} {oi : Oper} {v : Value} {fuel : Nat} {listed : Array Bool} {a : Act} {w : World} (hi : ops[i]? = some oi) (hd : oi.dst = some d)
    (hs : Region.noSelect ops = true) (hf : Region.free md ops listed i = true) (hr : (Region.ready md ops listed).contains i = true)
    (hQ : ∀ c a w, Q (.panic c) (a.put oi.dst v) w → Q (.panic c) a w) (hy : Yields P ops oi v a) (hS : S w)
    (h : wpAnyH P md ops Q S fuel (listed.setIfInBounds i true) { a with tmps := a.tmps.setIfInBounds d v } w) : wpAnyH P md ops Q S (fuel + 1) listed a w :=
  wpAnyH_take hi hs hf hr hQ hy.yieldsIf hS (by unfold Act.put; rw [hd]; exact h)

theorem anyH_load {i d : Nat} {oi : Oper} {fuel : Nat} {listed : Array Bool} {a : Act} {w : World} (hi : ops[i]? = some oi) (hd : oi.dst = some d)
    (hs : Region.noSelect ops = true) (hf : Region.free md ops listed i = true) (hr : (Region.ready md ops listed).contains i = true)
    (hw : Region.wanted oi (yielded ops a.tmps) = true) (ty : TypeId) (x : Operand) (ho : oi.op = .load ty x)
    (b o : Nat) (hx : a.eval x = .pointer (some ⟨b, o, none⟩)) (cs : List Value) (t : TypeDesc) (hR : ∀ w, S w → w.rangeAt b o cs)
    (hu : P.underlying ty = some t) (ht : t.isRow = true) (hn : (P.info? ty).map (·.size) = some cs.length)
    (hQ : ∀ c a w, Q (.panic c) (a.put oi.dst (.agg cs.toArray)) w → Q (.panic c) a w) (hS : S w)
    (h : wpAnyH P md ops Q S fuel (listed.setIfInBounds i true) { a with tmps := a.tmps.setIfInBounds d (.agg cs.toArray) } w) : wpAnyH P md ops Q S (fuel + 1) listed a w :=
  wpAnyH_take hi hs hf hr hQ (yieldsIf_load_mid hw ty x ho b o hx cs t hR hu ht hn) hS (by unfold Act.put; rw [hd]; exact h)

theorem anyH_one {i : Nat} {fuel : Nat} {listed : Array Bool} {a : Act} {w : World} (hr : Region.ready md ops listed = [i])
    (h : wpOp P ops Q i (fun a' w' => S w' ∧ wpAnyH P md ops Q S fuel (listed.setIfInBounds i true) a' w') a w) : wpAnyH P md ops Q S (fuel + 1) listed a w :=
  wpAnyH_all hr (by simp) (fun j hj => by simp at hj; subst hj; exact h)

theorem wpAnyH_take' {i d : Nat} {oi : Oper} {v : Value} {fuel : Nat} {listed : Array Bool} {a : Act} {w : World} (hi : ops[i]? = some oi) (hd : oi.dst = some d)
    (hs : Region.noSelect ops = true) (hf : Region.free md ops listed i = true) (hr : (Region.ready md ops listed).contains i = true)
    (hQ : ∀ c a w, Q (.panic c) (a.put oi.dst v) w → Q (.panic c) a w) (hy : YieldsIf P ops S oi v a) (hS : S w)
    (h : wpAnyH P md ops Q S fuel (listed.setIfInBounds i true) { a with tmps := a.tmps.setIfInBounds d v } w) : wpAnyH P md ops Q S (fuel + 1) listed a w :=
  wpAnyH_take hi hs hf hr hQ hy hS (by unfold Act.put; rw [hd]; exact h)

end

end Go.Proofs.Ytmdgcimjmmnbjaa

namespace Go.Proofs.Ytmdgcimjmmnbjaa

open Go.RowKit

set_option linter.unusedVariables false

section

variable {P : Program} {ops : Array Oper} {Q : Exit → Act → World → Prop} {md : Region.Mode} {S : World → Prop}

/-- In state 'a', in every world that meets S, operation 'o' is a call that answers v and changes nothing. -/
def Asks (P : Program) (ops : Array Oper) (S : World → Prop) (o : Oper) (v : Value) (a : Act) : Prop :=
  Region.wanted o (yielded ops a.tmps) = true ∧ ∀ w, S w → ∃ f args, (execOp a.eval o).run P w = .ok (.enter f args) w ∧ Calls P f args w fun e w' => e = .returned v ∧ w' = w

theorem Asks.op {i : Nat} {o : Oper} {v : Value} {a : Act} (hi : ops[i]? = some o) (hy : Asks P ops S o v a) {K : Act → World → Prop} {w : World} (hS : S w) (h : K (a.put o.dst v) w) : wpOp P ops Q i K a w := by
  obtain ⟨hw, hr⟩ := hy
  obtain ⟨f, args, hrun, hc⟩ := hr w hS
  unfold wpOp
  simp only [hi, hw, if_true]
  refine .inl ?_
  unfold Oper.wp
  rw [hrun]
  refine hc.mono ?_
  rintro e w' ⟨rfl, rfl⟩
  exact h

theorem Asks.same {o : Oper} {v : Value} {a a' : Act} (hy : Asks P ops S o v a) (he : execOp a'.eval o = execOp a.eval o) (hw : Region.wanted o (yielded ops a'.tmps) = Region.wanted o (yielded ops a.tmps)) : Asks P ops S o v a' := by
  unfold Asks at *
  rw [he, hw]
  exact hy

theorem asks_put {j : Nat} {oi oj : Oper} {v : Value} (hj : ops[j]? = some oj) (hap : oi.apart ops oj = true) (hsi : ∀ cs b, oi.op ≠ .select cs b) (hsj : ∀ cs b, oj.op ≠ .select cs b)
    (hQ : ∀ c a w, Q (.panic c) (a.put oi.dst v) w → Q (.panic c) a w) {K : Act → World → Prop} {a : Act} {w : World} (hy : Asks P ops S oi v a) (h : wpOp P ops Q j K (a.put oi.dst v) w) :
    wpOp P ops Q j (fun a' w' => Asks P ops S oi v a' ∧ K (a'.put oi.dst v) w') a w := by
  obtain ⟨h1, h2, h3⟩ := Oper.apart_spec hap
  have keep : ∀ a : Act, Asks P ops S oi v a → ∀ u, Asks P ops S oi v (a.put oj.dst u) := fun a hy u => hy.same (execOp_put oi hsi a oj.dst u h3) (wanted_put oi a oj.dst u h3)
  have keepD : ∀ d, Asks P ops S oi v { a with defers := d :: a.defers } := fun d => hy.same rfl rfl
  unfold wpOp at *
  simp only [hj] at *
  rw [wanted_put oj a oi.dst v h1] at h
  split
  · rename_i hw
    simp only [hw, if_true] at h
    rcases h with h | ⟨hasks, hlets⟩
    · refine .inl ?_
      unfold Oper.wp at *
      rw [execOp_put oj hsj a oi.dst v h1] at h
      generalize (execOp a.eval oj).run P w = r at *
      cases r with
      | ok n w' =>
        cases n <;> simp only [Oper.upon] at h ⊢
        case value u => exact ⟨keep a hy u, by rw [← Act.put_comm a v u h2]; exact h⟩
        case skip => exact ⟨keep a hy _, by rw [← Act.put_comm a v undef h2]; exact h⟩
        case defer d =>
          refine ⟨keep _ (keepD d) _, ?_⟩
          rw [← Act.put_comm _ v undef h2, ← Act.put_defers]
          exact h
        case enter f args =>
          refine Calls.mono h fun e w'' he => ?_
          cases e with
          | returned u => exact ⟨keep a hy u, by rw [← Act.put_comm a v u h2]; exact he⟩
          | panicked c => exact hQ _ _ _ he
          | outgrown => exact he
        case row row args => exact Rows.mono h fun u w'' he => ⟨keep a hy u, by rw [← Act.put_comm a v u h2]; exact he⟩
      | halt x w' =>
        cases x <;> simp only [Oper.upon] at h ⊢
        case panic u => exact hQ _ _ _ h
    · exact .inr ⟨by unfold Oper.asks at *; rw [execOp_put oj hsj a oi.dst v h1] at hasks; exact hasks, hlets⟩
  · rename_i hw
    simp only [hw] at h
    exact ⟨keep a hy _, by rw [← Act.put_comm a v undef h2]; exact h⟩

theorem asks_first {i : Nat} {oi : Oper} {v : Value} (hi : ops[i]? = some oi) (hsel : ∀ (j : Nat) (o : Oper) cs b, ops[j]? = some o → o.op ≠ .select cs b) (hQ : ∀ c a w, Q (.panic c) (a.put oi.dst v) w → Q (.panic c) a w) :
    ∀ (fuel : Nat) (listed : Array Bool) (a : Act) (w : World),
      (∀ j oj, ops[j]? = some oj → j ≠ i → listed.getD j true = false → (∀ e ∈ oj.after, Region.binds md e = true → e.on ≠ i) → oi.apart ops oj = true) →
      i ∈ Region.ready md ops listed → Asks P ops S oi v a → S w →
      wpAnyH P md ops Q S fuel (listed.setIfInBounds i true) (a.put oi.dst v) w → wpAnyH P md ops Q S (fuel + 1) listed a w := by
  intro fuel
  induction fuel with
  | zero =>
    intro listed a w _ hr hy hS H
    refine ⟨fun h => (by rw [h] at hr; cases hr), fun j hj => ?_⟩
    by_cases hji : j = i
    · subst hji; exact hy.op hi hS ⟨hS, H⟩
    · have := ready_mono hj hji
      rw [H.1] at this
      cases this
  | succ fuel ih =>
    intro listed a w hfree hr hy hS H
    refine ⟨fun h => (by rw [h] at hr; cases hr), fun j hj => ?_⟩
    by_cases hji : j = i
    · subst hji; exact hy.op hi hS ⟨hS, H⟩
    · have h1 := H.2 j (ready_mono hj hji)
      obtain ⟨hjun, oj, hoj, hall⟩ := mem_ready.1 hj
      have hnot : ∀ e ∈ oj.after, Region.binds md e = true → e.on ≠ i := fun e he hb heq => by
        have h1 := hall e he hb
        have h0 := (mem_ready.1 hr).1
        rw [heq] at h1
        rcases Nat.lt_or_ge i listed.size with h' | h'
        · simp [h'] at h0 h1; rw [h0] at h1; cases h1
        · simp [Array.getElem?_eq_none h'] at h1
      have h2 := asks_put hoj (hfree j oj hoj hji hjun hnot) (fun cs b => hsel i oi cs b hi) (fun cs b => hsel j oj cs b hoj) hQ hy h1
      have hfree' : ∀ k ok, ops[k]? = some ok → k ≠ i → (listed.setIfInBounds j true).getD k true = false → (∀ e ∈ ok.after, Region.binds md e = true → e.on ≠ i) → oi.apart ops ok = true := fun k ok hk hki hun hno => by
        refine hfree k ok hk hki ?_ hno
        by_cases hjk : j = k
        · subst hjk; exact hjun
        · rw [getD_set_ne true hjk] at hun; exact hun
      refine wpOp_mono (fun a' w' h3 => ⟨h3.2.1, ih (listed.setIfInBounds j true) a' w' hfree' (ready_mono hr (Ne.symm hji)) h3.1 h3.2.1 ?_⟩) h2
      rw [Array.setIfInBounds_comm _ _ hji]
      exact h3.2.2

/-- A call taken first. -/
theorem anyH_call {i d : Nat} {oi : Oper} {v : Value} {fuel : Nat} {listed : Array Bool} {a : Act} {w : World} (hi : ops[i]? = some oi) (hd : oi.dst = some d)
    (hs : Region.noSelect ops = true) (hf : Region.free md ops listed i = true) (hr : (Region.ready md ops listed).contains i = true)
    (hQ : ∀ c a w, Q (.panic c) (a.put oi.dst v) w → Q (.panic c) a w) (hy : Asks P ops S oi v a) (hS : S w)
    (h : wpAnyH P md ops Q S fuel (listed.setIfInBounds i true) { a with tmps := a.tmps.setIfInBounds d v } w) : wpAnyH P md ops Q S (fuel + 1) listed a w :=
  asks_first hi (Region.noSelect_spec hs) hQ fuel listed a w (Region.free_spec hi hf) (by simpa using hr) hy hS (by unfold Act.put; rw [hd]; exact h)

theorem op_storeE {i : Nat} {oi : Oper} {a : Act} {w wS : World} {K : Act → World → Prop} (hi : ops[i]? = some oi) (hd : oi.dst = none) (hgd : oi.guard = none) (ty : TypeId) (x y : Operand) (ho : oi.op = .store ty x y)
    (b off : Nat) (F : List Value) (hx : a.eval x = .pointer (some ⟨b, off, none⟩)) (hy : a.eval y = .agg F.toArray) (ht : w.there b off F.toArray.size) (hn : (P.info? ty).map (·.size) = some F.toArray.size) (h1 : F.toArray.all (·.oneCell') = true)
    (e : w.setCells b off F = wS) (h : K a wS) : wpOp P ops Q i K a w := by
  subst e
  exact op_store hi hd hgd ty x y ho b off F.toArray hx hy ht hn h1 h

theorem results_row_tmp {fn : Func} {p q : Tmp} {ty : TypeId} (h : fn.results = #[.cell p ty, .tmp q]) (tmps : Array Value) (w : World) (g : Nat) (t : TypeId) (cs : Array Value) (v : Value) (d : TypeDesc)
    (hp : tmps.getD p undef = .pointer (some ⟨g, 0, none⟩)) (hq : tmps.getD q undef = v) (hg : w.heap[g]? = some (.cells cs t (0, 0)))
    (hu : P.underlying ty = some d) (hd : (match d with | .struct _ | .array _ _ => true | _ => false) = true) (hi : (P.info? ty).map (·.size) = some cs.size) :
    (results fn tmps).run P w = .ok (.tuple #[.agg cs, v]) w := by
  have hp' : tmps[p]?.getD undef = .pointer (some ⟨g, 0, none⟩) := by simpa using hp
  have hq' : tmps[q]?.getD undef = v := by simpa using hq
  simp [results, h, hp', hq', asAddr, run_loadVar_row w g t ty cs (0, 0) d hg hu hd hi]

end

end Go.Proofs.Ytmdgcimjmmnbjaa

namespace Go.Proofs.Ytmdgcimjmmnbjaa

open Go.RowKit Go.Maps

set_option linter.unusedVariables false

section

variable {P : Program}

theorem wp_built {o : Oper} {a : Act} {w : World} {K : Act → World → Prop} {Q : Exit → Act → World → Prop} (t : TypeId) (parts : Array (Nat × Operand)) (ho : o.op = .build t parts) (cells : Array Value)
    (he : P.built t (parts.toList.map fun p => (p.1, a.eval p.2)) = some cells) (h : K (a.put o.dst (.agg cells)) w) : o.wp P a w K Q := by
  have e : (parts.map fun (i, x) => (i, a.eval x)).toList = parts.toList.map fun p => (p.1, a.eval p.2) := by rw [Array.toList_map]
  refine wp_build t parts ho (by rw [e, he]; rfl) ?_
  rw [e, he]
  exact h

theorem wpList_build_g {ops : Array Oper} {rest : List Oper} {o : Oper} {a : Act} {w : World} {Q : Exit → Act → World → Prop} (hw : Region.wanted o (yielded ops a.tmps) = true) (t : TypeId) (parts : Array (Nat × Operand)) (ho : o.op = .build t parts) (cells : Array Value)
    (he : P.built t (parts.toList.map fun p => (p.1, a.eval p.2)) = some cells) (h : wpList P ops Q rest (a.put o.dst (.agg cells)) w) : wpList P ops Q (o :: rest) a w :=
  wpList_step fun K hK => by rw [if_pos hw]; exact wp_built t parts ho cells he (hK _ _ h)

theorem exec_build {ev : Operand → Value} {o : Oper} (t : TypeId) (parts : Array (Nat × Operand)) (ho : o.op = .build t parts) (cells : Array Value) (he : P.built t (parts.toList.map fun p => (p.1, ev p.2)) = some cells) (w : World) :
    Sem.run P (execOp ev o) w = .ok (Next.value (.agg cells)) w := by
  have e : (parts.map fun (i, x) => (i, ev x)).toList = parts.toList.map fun p => (p.1, ev p.2) := by rw [Array.toList_map]
  unfold execOp
  simp only [ho, Sem.run_bind, run_build w t _ cells (by rw [e]; exact he), Result.andThen_ok]
  rfl

end

end Go.Proofs.Ytmdgcimjmmnbjaa

namespace Go.Proofs.Ytmdgcimjmmnbjaa

open Go.RowKit Go.Maps

set_option linter.unusedVariables false

section

variable {P : Program} {ops : Array Oper} {Q : Exit → Act → World → Prop}

theorem op_row {i d : Nat} {oi : Oper} {a : Act} {w : World} {K : Act → World → Prop} (hi : ops[i]? = some oi) (hd : oi.dst = some d) (hgd : oi.guard = none) (t : TypeId) (n : Nat) (parts : Array (Nat × Operand)) (ho : oi.op = .buildSlice t n parts)
    (v : Value) (w' : World) (hrun : (Instr.buildSlice t n (parts.map fun p => (p.1, a.eval p.2))).run P w = .ok v w') (h : K { a with tmps := a.tmps.setIfInBounds d v } w') : wpOp P ops Q i K a w := by
  refine wpOp_step hi (fun K' hK => ?_)
  have hw : Region.wanted oi (yielded ops a.tmps) = true := by unfold Region.wanted; rw [hgd]
  rw [if_pos hw]
  have he' : (Instr.buildSlice t n (parts.map fun (i, x) => (i, a.eval x))).run P w = .ok v w' := hrun
  unfold Oper.wp execOp
  simp only [ho, Sem.run_bind, he', Result.andThen_ok]
  refine hK _ _ ?_
  unfold Act.put
  rw [hd]
  exact h

theorem wpList_row {rest : List Oper} {o : Oper} {a : Act} {w : World} (hgd : o.guard = none) (t : TypeId) (n : Nat) (parts : Array (Nat × Operand)) (ho : o.op = .buildSlice t n parts)
    (v : Value) (w' : World) (hrun : (Instr.buildSlice t n (parts.map fun p => (p.1, a.eval p.2))).run P w = .ok v w') (h : wpList P ops Q rest (a.put o.dst v) w') : wpList P ops Q (o :: rest) a w := by
  refine wpList_plain hgd fun K hK => ?_
  have he' : (Instr.buildSlice t n (parts.map fun (i, x) => (i, a.eval x))).run P w = .ok v w' := hrun
  unfold Oper.wp execOp
  simp only [ho, Sem.run_bind, he', Result.andThen_ok]
  exact hK _ _ h

theorem wpList_app {rest : List Oper} {o : Oper} {a : Act} {w : World} (hgd : o.guard = none) (s x : Operand) (t1 t2 : TypeId) (ho : o.op = .call { callee := .builtin .append, args := #[s, x], argTypes := #[t1, t2] })
    (v u v' : Value) (w' : World) (hs : a.eval s = v) (hx : a.eval x = u) (hrun : (Builtin.append_ #[t1, t2] o.type #[v, u]).run P w = .ok v' w') (h : wpList P ops Q rest (a.put o.dst v') w') : wpList P ops Q (o :: rest) a w := by
  refine wpList_plain hgd fun K hK => ?_
  unfold Oper.wp execOp
  simp only [ho, resolve, invoke, builtin, Sem.run_bind, Sem.run_pure, Result.andThen_ok, List.map_toArray, List.map_cons, List.map_nil, hs, hx, hrun]
  exact hK _ _ h

end

end Go.Proofs.Ytmdgcimjmmnbjaa

namespace Go.Proofs.Ytmdgcimjmmnbjaa

open Go.RowKit

set_option linter.unusedVariables false

theorem eq_split {l m : List UInt8} (h : l ≠ m) (hl : l.length = m.length) : ∃ k, ∃ (h1 : k < l.length) (h2 : k < m.length), l[k] ≠ m[k] ∧ l.take k = m.take k := by
  induction l generalizing m with
  | nil => cases m with
    | nil => exact absurd rfl h
    | cons _ _ => simp at hl
  | cons a l ih =>
    cases m with
    | nil => simp at hl
    | cons b m =>
      by_cases hab : a = b
      · subst hab
        obtain ⟨k, h1, h2, h3, h4⟩ := ih (m := m) (by simpa using h) (by simpa using hl)
        exact ⟨k + 1, by simp; omega, by simp; omega, by simpa using h3, by simp [h4]⟩
      · exact ⟨0, by simp, by simp, by simpa using hab, by simp⟩

theorem ret_bool {a b : Bool} (h : a = b) : Ending.returned (.bool a) = .returned (.bool b) := by rw [h]

theorem ret_int {k : IntKind} {a b : Int} (h : a = b) : Ending.returned (.int k a) = .returned (.int k b) := by rw [h]

theorem ne_byte {x y : UInt8} (h : x ≠ y) : ¬ (x.toNat : Int) = (y.toNat : Int) := fun e => h (UInt8.toNat_inj.1 (by omega))

end Go.Proofs.Ytmdgcimjmmnbjaa

namespace Go.Proofs.Ytmdgcimjmmnbjaa

open Go.RowKit

set_option linter.unusedVariables false

theorem u8_info : (Try.prog.info? 5).map (fun i => (i.zero, i.size, i.bytes)) = some (some (.int .u8 0), 1, 1) := by kernel_rfl

set_option maxRecDepth 100000 in
/-- append(v, x...) for bytes: 'v' in a row of the call's own, 'x' whatever slice shows the bytes 'm'. -/
theorem run_appendB (w : World) (base : Nat) (v : Value) (l : List UInt8) (hown : Mine w base 5 v l) (A : Option Addr) (c k : Nat) (m : List UInt8) (hr : Bs w A m) (hk : m.length = k)
    (h47 : l.length + k ≤ 140737488355328) (hbase : base ≤ w.heap.size) (ty : TypeId) :
    ∃ v' w', (Builtin.append_ #[23, 23] ty #[v, .slice A k c]).run Try.prog w = .ok v' w' ∧ Mine w' base 5 v' (l ++ m) ∧ w.grownBy w' v.ownBlock ∧
      (v'.ownBlock = v.ownBlock ∨ v'.ownBlock = some w.heap.size) := by
  subst hk
  obtain ⟨i0, hi, hz0, hz1, hz2⟩ := info_parts u8_info
  cases A with
  | none =>
    have hm : m = [] := by
      cases m with
      | nil => rfl
      | cons x t => obtain ⟨b, off, e, _⟩ := hr.at_ (i := 0) (by simp); cases e
    subst hm
    exact ⟨v, w, run_append_empty w base _ ty _ i0 Try.underlying23 hi v _ _ 1 hown c, by simpa using hown, World.grownBy.refl w _, .inl rfl⟩
  | some ad =>
    have hcells : ∀ j u, (cbs m)[j]? = some u → w.cell? (ad.add j) = some u := by
      intro j u hu
      have hj : j < m.length := by
        rcases Nat.lt_or_ge j m.length with h | h
        · exact h
        · rw [List.getElem?_eq_none (by rw [cbs_length]; exact h)] at hu; cases hu
      obtain ⟨b, off, e, _, hc⟩ := hr.2 (by omega)
      injection e with e
      subst e
      rw [add_mk]
      exact hc j u hu
    obtain ⟨v', w', h1, h2, h3, _, h5⟩ := run_append_own_at (P := Try.prog) w base 23 ty 5 i0 (.int .u8 0) 1 1 Try.underlying23 hi hz0 hz1 hz2 rfl (by decide) v l.length (cbs l) hown ad m.length c (cbs m)
      (by rw [cbs_length]; simp) hcells (cbs_one m) (by simp only [maxLen]; omega) (by omega) hbase
    exact ⟨v', w', h1, by unfold Mine; rw [List.length_append, cbs_append]; exact h2, h3, h5⟩

theorem wp_appendB {w : World} {ops : Array Oper} {rest : List Oper} {o : Oper} {a : Act} {Q : Exit → Act → World → Prop} (hgd : o.guard = none) (s x : Operand)
    (ho : o.op = .call { callee := .builtin .append, args := #[s, x], argTypes := #[23, 23] })
    (base : Nat) (v : Value) (l : List UInt8) (hs : a.eval s = v) (hown : Mine w base 5 v l) (A : Option Addr) (c k : Nat) (m : List UInt8) (hx : a.eval x = .slice A k c) (hr : Bs w A m) (hk : m.length = k)
    (h47 : l.length + k ≤ 140737488355328) (hbase : base ≤ w.heap.size)
    (h : ∀ v' w', Mine w' base 5 v' (l ++ m) → w.grownBy w' v.ownBlock → (v'.ownBlock = v.ownBlock ∨ v'.ownBlock = some w.heap.size) → wpList Try.prog ops Q rest (a.put o.dst v') w') :
    wpList Try.prog ops Q (o :: rest) a w := by
  obtain ⟨v', w', hrun, h2, h3, h4⟩ := run_appendB w base v l hown A c k m hr hk h47 hbase o.type
  refine wpList_plain hgd fun K hK => ?_
  unfold Oper.wp execOp
  simp only [ho, resolve, invoke, builtin, Sem.run_bind, Sem.run_pure, Result.andThen_ok, List.map_toArray, List.map_cons, List.map_nil, hs, hx, hrun]
  exact hK _ _ (h v' w' h2 h3 h4)

/-- A new slice that shows 'l', in a row made since the world 'w'. -/
def NewB (w : World) (l : List UInt8) (v : Value) (w' : World) : Prop := Mine w' w.heap.size 5 v l ∧ Below w.heap.size w w'

def RetB (w : World) (l : List UInt8) (e : Ending) (w' : World) : Prop := ∃ v, e = .returned v ∧ NewB w l v w'

theorem NewB.ofDrew {w w' : World} {l : List UInt8} {v : Value} (h : NewB w.drew l v w') : NewB w l v w' := ⟨h.1, ((Below.refl _ _).drew).trans h.2⟩

theorem NewB.nil (w : World) : NewB w [] (.slice none 0 0) w := ⟨World.ownsRow_nil _ _ _ _, Below.refl _ _⟩

theorem NewB.form {w w' : World} {l : List UInt8} {v : Value} (h : NewB w l v w') : ∃ A c, v = .slice A l.length c ∧ l.length ≤ c ∧ c ≤ maxLen ∧ Bs w' A l := Mine.form h.1

theorem NewB.later {w w1 w' : World} {l : List UInt8} {v : Value} (hb : Below w.heap.size w w1) (h : NewB w1 l v w') : NewB w l v w' :=
  ⟨by
    obtain ⟨h1, h2 | ⟨g, cap, cur, h3, h4, h5⟩⟩ := h.1
    · exact ⟨h1, .inl h2⟩
    · exact ⟨h1, .inr ⟨g, cap, cur, h3, Nat.le_trans hb.size h4, h5⟩⟩, hb.trans (h.2.mono hb.size)⟩

end Go.Proofs.Ytmdgcimjmmnbjaa

namespace Go.Proofs.Ytmdgcimjmmnbjaa

open Go.RowKit

set_option linter.unusedVariables false

end Go.Proofs.Ytmdgcimjmmnbjaa
