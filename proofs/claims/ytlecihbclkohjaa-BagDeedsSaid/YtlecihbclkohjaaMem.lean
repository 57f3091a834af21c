/-
  Own words for slices in memory, for all layers: a slice value that shows a list of cells, a nil or empty one among them.
-/
import Derived.WalkKit
import Derived.WalkSpells
import Derived.WalkLawsBesides
import Derived.Lib.Hide
import Derived.Maps.AppendAt
import Derived.Deep.AppendLies
import Derived.RegionTactic
import Derived.OwnWalk
import Derived.Deep.Draws
import Derived.BigQuiet
import Derived.Deep.QuietTactic

namespace Go.Proofs.Ytlecihbclkohjaa

open Go.RowKit

set_option linter.unusedVariables false

theorem add_mk (b off j : Nat) : (⟨b, off, none⟩ : Addr).add j = ⟨b, off + j, none⟩ := by
  unfold Addr.add; by_cases h : j = 0 <;> simp [h]

/-- The slice 'A, n' shows the cells 'xs', 'k' for each element, in a block below 'B'. -/
def Shows (w : World) (B k : Nat) (A : Option Addr) (n : Nat) (xs : List Value) : Prop :=
  xs.length = n * k ∧ (0 < n → ∃ b off, A = some ⟨b, off, none⟩ ∧ b < B ∧ ∀ j u, xs[j]? = some u → w.cell? ⟨b, off + j, none⟩ = some u)

section

variable {w w' : World} {B B' k n : Nat} {A : Option Addr} {xs : List Value}

theorem Shows.empty (A : Option Addr) : Shows w B k A 0 [] := ⟨by simp, fun h => absurd h (by omega)⟩

theorem Shows.nilxs (h : Shows w B k A 0 xs) : xs = [] := List.eq_nil_of_length_eq_zero (by simpa using h.1)

theorem Shows.keep (h : Shows w B k A n xs) (hk : ∀ b o, b < B → w'.cell? ⟨b, o, none⟩ = w.cell? ⟨b, o, none⟩) : Shows w' B k A n xs :=
  ⟨h.1, fun hn => let ⟨b, off, e, hb, hc⟩ := h.2 hn; ⟨b, off, e, hb, fun j u hu => (hk b _ hb).trans (hc j u hu)⟩⟩

theorem Shows.more (h : Shows w B k A n xs) (hB : B ≤ B') : Shows w B' k A n xs :=
  ⟨h.1, fun hn => let ⟨b, off, e, hb, hc⟩ := h.2 hn; ⟨b, off, e, by omega, hc⟩⟩

theorem Shows.below (h : Shows w B k A n xs) (hb : Below B w w') : Shows w' B k A n xs := h.keep fun _ _ hp => hb.cell hp

theorem Shows.on (h : Shows w w.heap.size k A n xs) (hb : Below w.heap.size w w') : Shows w' w'.heap.size k A n xs := (h.below hb).more hb.size

theorem Shows.at_ {i : Nat} (h : Shows w B 1 A n xs) (hi : i < n) : ∃ b off u, A = some ⟨b, off, none⟩ ∧ b < B ∧ xs[i]? = some u ∧ w.cell? ⟨b, off + i, none⟩ = some u := by
  obtain ⟨b, off, e, hb, hc⟩ := h.2 (by omega)
  have hl : i < xs.length := by have := h.1; omega
  exact ⟨b, off, xs[i], e, hb, List.getElem?_eq_getElem hl, hc i _ (List.getElem?_eq_getElem hl)⟩

theorem Shows.ofOwn {base : Nat} {e : TypeId} {c : Nat} (h : w.ownsRow base e k (.slice A n c) n xs) : Shows w w.heap.size k A n xs := by
  refine ⟨h.1, fun hn => ?_⟩
  obtain ⟨g, cap, hv, _, hlt⟩ := h.form hn
  have hA : A = some ⟨g, 0, none⟩ := by injection hv
  subst hA
  refine ⟨g, 0, rfl, hlt, fun j u hu => ?_⟩
  have := h.cells (g := g) rfl j u hu
  rwa [add_mk] at this

end

/-- Where a slice begins behind a cut of its first 'm' elements. -/
def cutAt (A : Option Addr) (k m c : Nat) : Option Addr := if c = m then A else A.map (·.add (m * k))

theorem Shows.cut {w : World} {B k n m c : Nat} {A : Option Addr} {xs : List Value} (h : Shows w B k A n xs) (hm : m ≤ n) (hc : n ≤ c) : Shows w B k (cutAt A k m c) (n - m) (xs.drop (m * k)) := by
  refine ⟨by rw [List.length_drop, h.1, Nat.sub_mul], fun hn => ?_⟩
  obtain ⟨b, off, rfl, hb, hcell⟩ := h.2 (by omega)
  unfold cutAt
  rw [if_neg (by omega)]
  refine ⟨b, off + m * k, by rw [Option.map_some, add_mk], hb, fun j u hu => ?_⟩
  rw [Nat.add_assoc]
  exact hcell _ u (by rw [← hu, List.getElem?_drop])

theorem Shows.front {w : World} {B k n m : Nat} {A : Option Addr} {xs : List Value} (h : Shows w B k A n xs) (hm : m ≤ n) : Shows w B k A m (xs.take (m * k)) := by
  have hle : m * k ≤ xs.length := by rw [h.1]; exact Nat.mul_le_mul_right k hm
  refine ⟨by rw [List.length_take]; omega, fun hn => ?_⟩
  obtain ⟨b, off, rfl, hb, hcell⟩ := h.2 (by omega)
  refine ⟨b, off, rfl, hb, fun j u hu => ?_⟩
  by_cases hj : j < m * k
  · rw [List.getElem?_take, if_pos hj] at hu; exact hcell j u hu
  · rw [List.getElem?_take, if_neg hj] at hu; cases hu

/-! ### Bytes -/

def cb (x : UInt8) : Value := .int .u8 (x.toNat : Int)

def cbs (l : List UInt8) : List Value := l.map cb

theorem cbs_length (l : List UInt8) : (cbs l).length = l.length := by simp [cbs]

theorem cbs_get (l : List UInt8) (i : Nat) : (cbs l)[i]? = (l[i]?).map cb := by simp [cbs]

theorem cbs_append (l m : List UInt8) : cbs (l ++ m) = cbs l ++ cbs m := by simp [cbs]

theorem cbs_drop (l : List UInt8) (m : Nat) : cbs (l.drop m) = (cbs l).drop m := by simp [cbs]

theorem cbs_take (l : List UInt8) (m : Nat) : cbs (l.take m) = (cbs l).take m := by simp [cbs]

theorem cbs_one (l : List UInt8) : ∀ u ∈ cbs l, u.oneCell' = true := by
  intro u hu; simp [cbs] at hu; obtain ⟨x, _, rfl⟩ := hu; rfl

/-- The slice 'A' of 'l.length' elements shows the bytes 'l'. -/
def Bs (w : World) (A : Option Addr) (l : List UInt8) : Prop := Shows w w.heap.size 1 A l.length (cbs l)

theorem Bs.on {w w' : World} {A : Option Addr} {l : List UInt8} (h : Bs w A l) (hb : Below w.heap.size w w') : Bs w' A l := Shows.on h hb

theorem Bs.after {w w' : World} {A : Option Addr} {l : List UInt8} (hb : Below w.heap.size w w') (h : Bs w A l) : Bs w' A l := Shows.on h hb

theorem Bs.at_ {w : World} {A : Option Addr} {l : List UInt8} (h : Bs w A l) {i : Nat} (hi : i < l.length) :
    ∃ b off, A = some ⟨b, off, none⟩ ∧ b < w.heap.size ∧ ∀ j (hj : j < l.length), w.cell? ⟨b, off + j, none⟩ = some (.int .u8 (l[j].toNat : Int)) := by
  obtain ⟨b, off, e, hb, hc⟩ := h.2 (by omega)
  refine ⟨b, off, e, hb, fun j hj => ?_⟩
  exact hc j _ (by rw [cbs_get, List.getElem?_eq_getElem hj]; rfl)

theorem Bs.cut {w : World} {A : Option Addr} {l : List UInt8} {m c : Nat} (h : Bs w A l) (hm : m ≤ l.length) (hc : l.length ≤ c) : Bs w (cutAt A 1 m c) (l.drop m) := by
  have := Shows.cut h hm hc
  unfold Bs
  rw [List.length_drop, cbs_drop]
  simpa using this

theorem Bs.front {w : World} {A : Option Addr} {l : List UInt8} {m : Nat} (h : Bs w A l) (hm : m ≤ l.length) : Bs w A (l.take m) := by
  have := Shows.front h hm
  unfold Bs
  rw [List.length_take, Nat.min_eq_left hm, cbs_take]
  simpa using this

theorem Bs.nil (w : World) (A : Option Addr) : Bs w A [] := Shows.empty A

/-- The slice value 'v' shows the bytes 'l' in a row of the call's own, from block 'base' on. -/
def Mine (w : World) (base : Nat) (e : TypeId) (v : Value) (l : List UInt8) : Prop := w.ownsRow base e 1 v l.length (cbs l)

theorem Mine.form {w : World} {base : Nat} {e : TypeId} {v : Value} {l : List UInt8} (h : Mine w base e v l) : ∃ A c, v = .slice A l.length c ∧ l.length ≤ c ∧ c ≤ maxLen ∧ Bs w A l := by
  obtain ⟨h1, h2⟩ := h
  have hh := h2
  rcases h2 with ⟨rfl, hx⟩ | ⟨g, cap, cur, rfl, _, _, hc, hm, _⟩
  · have : l = [] := List.eq_nil_of_length_eq_zero hx
    subst this
    exact ⟨none, 0, rfl, by simp, by simp [maxLen], Bs.nil _ _⟩
  · exact ⟨_, cap, rfl, hc, hm, Shows.ofOwn ⟨h1, hh⟩⟩

theorem Mine.after {w w' : World} {base : Nat} {e : TypeId} {v : Value} {l : List UInt8} (h : Mine w base e v l) (hb : Below w.heap.size w w') : Mine w' base e v l := by
  obtain ⟨h1, h2 | ⟨g, cap, cur, h3, h4, h5, h6⟩⟩ := h
  · exact ⟨h1, .inl h2⟩
  · have hg : g < w.heap.size := by
      rcases Nat.lt_or_ge g w.heap.size with hlt | hge
      · exact hlt
      · rw [Array.getElem?_eq_none hge] at h5; cases h5
    exact ⟨h1, .inr ⟨g, cap, cur, h3, h4, (hb.block g hg).trans h5, h6⟩⟩

section

variable {w : World} {base g n cap : Nat} {e : TypeId} {l : List UInt8}

theorem Mine.cell (h : w.ownsRow base e 1 (.slice (some ⟨g, 0, none⟩) n cap) n (cbs l)) {j : Nat} (hj : j < l.length) : w.cell? ⟨g, j, none⟩ = some (.int .u8 (l[j].toNat : Int)) := by
  have hl : (cbs l).length = n * 1 := h.1
  rw [cbs_length] at hl
  rw [World.ownsRow.cellAt h j (by omega), cbs_get, List.getElem?_eq_getElem hj]
  rfl

theorem Mine.set_ (h : w.ownsRow base e 1 (.slice (some ⟨g, 0, none⟩) n cap) n (cbs l)) (j : Nat) (x : UInt8) (u : Value) (hu : u = cb x) : (w.setCell ⟨g, j, none⟩ u).ownsRow base e 1 (.slice (some ⟨g, 0, none⟩) n cap) n (cbs (l.set j x)) := by
  have := (World.ownsRow.stored h j u).1
  subst hu
  unfold cbs at this ⊢
  rw [List.map_set]
  exact this

end

end Go.Proofs.Ytlecihbclkohjaa
