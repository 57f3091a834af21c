/-
  Laid together for a hand-in: Pf10, Sets9, Digs9, Of9, Pr10, Pt10, Bu10.
-/
import Derived.Test.YtkkcjkelijlmbaaZ11
import Derived.Test.YtkkcjkelijlmbaaZ08
import Derived.Test.YtkkcjkelijlmbaaZ07
import Derived.Test.YtkkcjkelijlmbaaZ09
import Derived.Deep.Slices
import Derived.Deep.Grids
import Derived.BigQuiet
import Derived.WalkMore

namespace Go.Proofs.Ytkkcjkelijlmbaa

set_option linter.unusedVariables false

/-- A leaf's proof. -/
def pf (low : List Dg) (i : Nat) : List (List Dg) := (List.range (dep low.length - 1)).map fun j => four (lvl low j) (i / 4 ^ (j + 1))

def pwhole : Nat → Nat → List (List Dg) → Bool
  | many, _, [] => many == 1
  | many, place, p :: ps => many != 1 && (p.length == min 4 (many - place / 4 * 4) && pwhole ((many + 3) / 4) (place / 4) ps)

def climb : Dg → Nat → List (List Dg) → Option Dg
  | d, _, [] => some d
  | d, place, p :: ps => if p[place % 4]? = some d then climb (digest (upIn p)) (place / 4) ps else none

/-- What is asked of the book on the way. -/
def climbIn : Dg → Nat → List (List Dg) → List (List UInt8)
  | _, _, [] => []
  | d, place, p :: ps => if p[place % 4]? = some d then upIn p :: climbIn (digest (upIn p)) (place / 4) ps else []

def fits (root : Dg) (many i : Nat) (x : List UInt8) (ps : List (List Dg)) : Bool := pwhole many i ps && (climb (digest (leafIn x)) i ps == some root)

def chkIn (many i : Nat) (x : List UInt8) (ps : List (List Dg)) : List (List UInt8) := leafIn x :: (if pwhole many i ps = true then climbIn (digest (leafIn x)) i ps else [])

theorem pf_len (low : List Dg) (i : Nat) : (pf low i).length = dep low.length - 1 := by simp [pf]

theorem pf_get (low : List Dg) (i j : Nat) (h : j < dep low.length - 1) : (pf low i)[j]? = some (four (lvl low j) (i / 4 ^ (j + 1))) := by
  unfold pf
  rw [List.getElem?_map, List.getElem?_range h]; rfl

theorem pf_drop (low : List Dg) (i j : Nat) (h : j < dep low.length - 1) : (pf low i).drop j = four (lvl low j) (i / 4 ^ (j + 1)) :: (pf low i).drop (j + 1) := by
  have h1 : j < (pf low i).length := by rw [pf_len]; exact h
  rw [← List.getElem_cons_drop h1]
  congr 1
  have := pf_get low i j h
  rw [List.getElem?_eq_getElem h1] at this
  exact Option.some.inj this

theorem climbIn_len (d : Dg) (i : Nat) (ps : List (List Dg)) : (climbIn d i ps).length ≤ ps.length := by
  induction ps generalizing d i with
  | nil => exact Nat.le_refl _
  | cons p ps ih =>
    unfold climbIn
    split
    · have := ih (digest (upIn p)) (i / 4)
      simp only [List.length_cons]
      omega
    · exact Nat.zero_le _

theorem pwhole_len {many i : Nat} {ps : List (List Dg)} (h : pwhole many i ps = true) (h1 : 1 ≤ many) : ps.length + 1 = dep many := by
  induction ps generalizing many i with
  | nil =>
    have : many = 1 := by simpa [pwhole] using h
    rw [this, dep_one (by decide)]; rfl
  | cons p ps ih =>
    simp only [pwhole, Bool.and_eq_true, bne_iff_ne, ne_eq] at h
    rw [dep_more (by omega), ← ih h.2.2 (by omega)]; rfl

theorem chkIn_len {many i : Nat} (x : List UInt8) (ps : List (List Dg)) (h1 : 1 ≤ many) (h2 : many ≤ 1024) : (chkIn many i x ps).length ≤ 6 := by
  unfold chkIn
  split
  · rename_i h
    have h3 := pwhole_len h h1
    have h4 := climbIn_len (digest (leafIn x)) i ps
    have h5 := dep_le h2
    simp only [List.length_cons]
    omega
  · simp

theorem dAt_four {low : List Dg} {i : Nat} (h : i < low.length) (k : Nat) : (four (lvl low k) (i / 4 ^ (k + 1)))[i / 4 ^ k % 4]? = some (dAt low i k) := by
  rw [four_get _ _ _ (Nat.mod_lt _ (by decide)), div_pow, show 4 * (i / 4 ^ k / 4) + i / 4 ^ k % 4 = i / 4 ^ k by omega, dAt_get h]

theorem dAt_root {low : List Dg} {i : Nat} (h : i < low.length) : dAt low i (dep low.length - 1) = rootD low := by
  have h1 := dAt_get h (dep low.length - 1)
  rw [root_one (by omega)] at h1
  have h2 := wid_div h (dep low.length - 1)
  have := dep_pos low.length
  rw [wid_last (by omega) (by omega)] at h2
  have h3 : i / 4 ^ (dep low.length - 1) = 0 := Nat.lt_one_iff.1 h2
  rw [h3] at h1
  exact (Option.some.inj h1).symm

theorem four_wid {low : List Dg} {i : Nat} (h : i < low.length) (k : Nat) : (four (lvl low k) (i / 4 ^ (k + 1))).length = min 4 (wid low.length k - i / 4 ^ k / 4 * 4) := by
  rw [four_len, lvl_len, div_pow, Nat.mul_comm]

/-- What Build answers fits, from a level on. -/
theorem pf_fits {low : List Dg} {i : Nat} (h : i < low.length) (n k : Nat) (hk : k + n = dep low.length - 1) :
    pwhole (wid low.length k) (i / 4 ^ k) ((pf low i).drop k) = true ∧ climb (dAt low i k) (i / 4 ^ k) ((pf low i).drop k) = some (rootD low) := by
  have hp := dep_pos low.length
  induction n generalizing k with
  | zero =>
    have e : k = dep low.length - 1 := by omega
    subst e
    rw [List.drop_of_length_le (by rw [pf_len]; omega), dAt_root h]
    exact ⟨by simp [pwhole, wid_last (m := low.length) (n := dep low.length - 1) (by omega) (by omega)], rfl⟩
  | succ n ih =>
    obtain ⟨i1, i2⟩ := ih (k + 1) (by omega)
    rw [pf_drop low i k (by omega)]
    have h1 := wid_more (m := low.length) (n := k) (by omega) (by omega)
    constructor
    · simp only [pwhole, Bool.and_eq_true, bne_iff_ne, ne_eq, beq_iff_eq]
      refine ⟨by omega, four_wid h k, ?_⟩
      rw [← div_pow]; exact i1
    · have e := dAt_succ h k
      rw [← div_pow] at e
      rw [climb, if_pos (dAt_four h k), ← e, ← div_pow]
      exact i2

theorem dAt_lows {xs : List (List UInt8)} {i : Nat} (h : i < xs.length) : dAt (lows xs) i 0 = digest (leafIn xs[i]) := by
  have := dAt_get (low := lows xs) (i := i) (by rw [lows_len]; exact h) 0
  rw [Nat.pow_zero, Nat.div_one] at this
  unfold lvl lows at this
  rw [List.getElem?_map, List.getElem?_eq_getElem h] at this
  exact (Option.some.inj this).symm

theorem pf_back {xs : List (List UInt8)} {i : Nat} (h : i < xs.length) : fits (rootD (lows xs)) xs.length i xs[i] (pf (lows xs) i) = true := by
  have hl : i < (lows xs).length := by rw [lows_len]; exact h
  obtain ⟨h1, h2⟩ := pf_fits hl (dep (lows xs).length - 1) 0 (by omega)
  rw [List.drop_zero, Nat.pow_zero, Nat.div_one] at h1 h2
  rw [dAt_lows h] at h2
  unfold fits
  rw [h2]
  have e : wid (lows xs).length 0 = xs.length := lows_len xs
  rw [e] at h1
  rw [h1]; simp

/-- As long as no two inputs of L have one digest, what fits is what stands there. -/
theorem climb_just {L : List (List UInt8)} (hU : ∀ x ∈ L, ∀ y ∈ L, digest x = digest y → x = y) {low : List Dg} (h32 : All32 low) {i : Nat} (h : i < low.length) (hm : ∀ j, j + 1 < dep low.length → upIn (four (lvl low j) (i / 4 ^ (j + 1))) ∈ L)
    (ps : List (List Dg)) (hps : ∀ p ∈ ps, All32 p) : ∀ (k : Nat) (d : Dg), k < dep low.length → pwhole (wid low.length k) (i / 4 ^ k) ps = true → climb d (i / 4 ^ k) ps = some (rootD low) → (∀ x ∈ climbIn d (i / 4 ^ k) ps, x.length ≤ 65536 → x ∈ L) → d = dAt low i k := by
  induction ps with
  | nil =>
    intro k d hk hw hc _
    have h1 : wid low.length k = 1 := by simpa [pwhole] using hw
    have h2 : ¬ (k + 1 < dep low.length) := fun h3 => by have := wid_more (m := low.length) (n := k) (by omega) h3; omega
    have e : k = dep low.length - 1 := by omega
    rw [climb] at hc
    rw [e, dAt_root h]
    exact Option.some.inj hc
  | cons p ps ih =>
    intro k d hk hw hc hin
    simp only [pwhole, Bool.and_eq_true, bne_iff_ne, ne_eq, beq_iff_eq] at hw
    obtain ⟨h1, h2, h3⟩ := hw
    have hk1 : k + 1 < dep low.length := by
      rcases Nat.lt_or_ge (k + 1) (dep low.length) with h4 | h4
      · exact h4
      · exact absurd (wid_last (m := low.length) (n := k) (by omega) (by omega)) h1
    unfold climb at hc
    unfold climbIn at hin
    split at hc
    · rename_i hp
      rw [if_pos hp] at hin
      rw [← div_pow] at hc h3 hin
      have e := ih (fun q hq => hps q (by simp [hq])) (k + 1) (digest (upIn p)) hk1 h3 hc fun x hx => hin x (by simp [hx])
      rw [dAt_succ h k, ← div_pow] at e
      have p32 := hps p (by simp)
      have e2 := hU _ (hin _ (by simp) (by unfold upIn; rw [List.length_cons, flat_len p32, h2]; omega)) _ (hm k hk1) e
      unfold upIn at e2
      injection e2 with _ e2
      have e3 := flat_inj p32 ((all32_lvl h32 k).four _) (by rw [h2, four_wid h k]) e2
      rw [e3, dAt_four h k] at hp
      exact (Option.some.inj hp).symm
    · cases hc

/-- What fits a tree's root is a leaf of it. -/
theorem fits_just {xs : List (List UInt8)} {m i : Nat} {x : List UInt8} {ps : List (List Dg)} (hm : xs.length = m) (hi : i < m) (hx : x.length ≤ 65535) (hxs : ∀ y ∈ xs, y.length ≤ 65535) (hps : ∀ p ∈ ps, All32 p)
    {s : Bk} (hg : Unmixed s) (hs : ∀ y ∈ insTo xs (dep m - 1), y.length ≤ 65536 → y ∈ s.1)
    (hc : (noteAll s (chkIn m i x ps)).2.1 = false) (hf : fits (rootD (lows xs)) m i x ps = true) : xs[i]'(by omega) = x := by
  subst hm
  have hU := noteAll_good _ (chkIn xs.length i x ps) hg hc
  unfold fits at hf
  simp only [Bool.and_eq_true, beq_iff_eq] at hf
  obtain ⟨hw, hcl⟩ := hf
  have hl : i < (lows xs).length := by rw [lows_len]; exact hi
  have h0 := climb_just hU (all32_lows xs) hl (fun j hj => by
      rw [lows_len] at hj
      rw [noteAll_mem]
      refine .inl (hs _ (ups_mem (n := dep xs.length - 1) (k := j) (by omega) (ups_at ?_)) (upIn_small (all32_lvl (all32_lows _) j) _))
      have := wid_div hl (j + 1)
      rw [wid] at this
      rw [lvl_len]; exact this) ps hps 0 (digest (leafIn x)) (dep_pos _) (by rw [Nat.pow_zero, Nat.div_one, wid, lows_len]; exact hw) (by rw [Nat.pow_zero, Nat.div_one]; exact hcl) (fun y hy hy2 => by
      rw [Nat.pow_zero, Nat.div_one] at hy
      rw [noteAll_mem]
      refine .inr ⟨?_, hy2⟩
      unfold chkIn
      rw [if_pos hw]
      simp [hy])
  rw [dAt_lows hi] at h0
  have e := hU _ ((noteAll_mem _ _ _).2 (.inr ⟨by unfold chkIn; simp, by rw [leafIn_len]; omega⟩)) _ ((noteAll_mem _ _ _).2 (.inl (hs _ (leaf_mem _ (List.getElem_mem hi)) (by rw [leafIn_len]; have := hxs _ (List.getElem_mem hi); omega)))) h0
  unfold leafIn at e
  injection e with _ e
  exact e.symm

/-! ### Other shapes -/

theorem pwhole_not {many i : Nat} (ps qs : List (List Dg)) (h1 : 1 ≤ many) (h : pwhole many i ps = true) (hl : qs.length ≠ ps.length) : pwhole many i qs = false := by
  cases hq : pwhole many i qs with
  | false => rfl
  | true => exact absurd (by have := pwhole_len hq h1; have := pwhole_len h h1; omega) hl

theorem pwhole_lens {many i : Nat} (ps qs : List (List Dg)) (h : pwhole many i ps = true) (h2 : pwhole many i qs = true) : ps.map List.length = qs.map List.length := by
  induction ps generalizing many i qs with
  | nil =>
    cases qs with
    | nil => rfl
    | cons q qs =>
      simp only [pwhole, Bool.and_eq_true, bne_iff_ne, ne_eq, beq_iff_eq] at h h2
      exact absurd h h2.1
  | cons p ps ih =>
    cases qs with
    | nil =>
      simp only [pwhole, Bool.and_eq_true, bne_iff_ne, ne_eq, beq_iff_eq] at h h2
      exact absurd h2 h.1
    | cons q qs =>
      simp only [pwhole, Bool.and_eq_true, bne_iff_ne, ne_eq, beq_iff_eq] at h h2
      rw [List.map_cons, List.map_cons, ih qs h.2.2 h2.2.2, h.2.1, h2.2.1]

theorem pwhole_at {many i j : Nat} (ps : List (List Dg)) (q : List Dg) (h : pwhole many i ps = true) (hj : j < ps.length) (hl : q.length ≠ ps[j].length) : pwhole many i (ps.set j q) = false := by
  cases hq : pwhole many i (ps.set j q) with
  | false => rfl
  | true =>
    have e := pwhole_lens _ _ hq h
    have e2 : ((ps.set j q).map List.length)[j]? = (ps.map List.length)[j]? := by rw [e]
    rw [List.getElem?_map, List.getElem?_map, List.getElem?_set_self hj, List.getElem?_eq_getElem hj] at e2
    exact absurd (Option.some.inj e2) hl

theorem fits_not {root : Dg} {many i : Nat} {x : List UInt8} {ps : List (List Dg)} (h : pwhole many i ps = false) : fits root many i x ps = false := by unfold fits; rw [h]; rfl

end Go.Proofs.Ytkkcjkelijlmbaa

namespace Go.Proofs.Ytkkcjkelijlmbaa

open Go.ChangeShapes Go.WideShapes Go.ChangeAt Go.RowKit

set_option linter.unusedVariables false

abbrev Wf9 (x : Int) : Prop := (Lit.int .i64 x).wf = true

structure SetL where
  at_ : Int
  leaf : List UInt8

/-- The setting 'x' stands at 'p, o'. -/
def SetAt (w : World) (p o : Nat) (x : SetL) : Prop := Wf9 x.at_ ∧ w.cell? ⟨p, o, none⟩ = some (.int .i64 x.at_) ∧
  ∃ AB cB, w.cell? ⟨p, o + 1, none⟩ = some (.slice AB x.leaf.length cB) ∧ x.leaf.length ≤ cB ∧ cB ≤ maxLen ∧ Bs w AB x.leaf

def Setss (w : World) (A : Option Addr) (l : List SetL) : Prop := l ≠ [] → ∃ b off, A = some ⟨b, off, none⟩ ∧ b < w.heap.size ∧ ∀ j (hj : j < l.length), SetAt w b (off + j * 2) l[j]

theorem SetAt.after {w w' : World} {p o : Nat} {x : SetL} (h : SetAt w p o x) (hb : Below w.heap.size w w') (hlt : p < w.heap.size) : SetAt w' p o x := by
  obtain ⟨h0, h1, AB, cB, h2, h3, h4, h5⟩ := h
  exact ⟨h0, (hb.cell hlt).trans h1, AB, cB, (hb.cell hlt).trans h2, h3, h4, h5.after hb⟩

def ArgT (w : World) (A : Option Addr) (n c : Nat) (l : List SetL) : Prop := l.length = n ∧ n ≤ c ∧ c ≤ maxLen ∧ Setss w A l

theorem ArgT.after {w w' : World} {A : Option Addr} {n c : Nat} {l : List SetL} (h : ArgT w A n c l) (hb : Below w.heap.size w w') : ArgT w' A n c l :=
  ⟨h.1, h.2.1, h.2.2.1, fun hn => let ⟨b, off, e, hlt, hd⟩ := h.2.2.2 hn; ⟨b, off, e, Nat.lt_of_lt_of_le hlt hb.size, fun j hj => (hd j hj).after hb hlt⟩⟩

theorem ArgT.at_ {w : World} {A : Option Addr} {n c : Nat} {l : List SetL} (h : ArgT w A n c l) {j : Nat} (hj : j < l.length) : ∃ b off, A = some ⟨b, off, none⟩ ∧ b < w.heap.size ∧ SetAt w b (off + j * 2) l[j] := by
  obtain ⟨b, off, e, hlt, hd⟩ := h.2.2.2 (fun e => by rw [e] at hj; simp at hj)
  exact ⟨b, off, e, hlt, hd j hj⟩

/-- What 'x[:min(len(x), K)]' leaves of a slice that shows bytes. -/
theorem cutF {w : World} {A : Option Addr} {c : Nat} {l : List UInt8} (N : Nat) (K : Int) (hK : K = (N : Int)) (h2 : l.length ≤ c) (h3 : c ≤ maxLen) (h4 : Bs w A l) : ∃ m x, x.length = m ∧ m ≤ N ∧ m ≤ c ∧ Bs w A x ∧
    (∀ ts t w, (Builtin.min_ ts t #[.int .i64 (l.length : Int), .int .i64 K]).run Try.prog w = .ok (.int .i64 (m : Int)) w) ∧
    (∀ w, (Instr.sliceAt 28 (.slice A l.length c) none (some (.int .i64 (m : Int))) none).run Try.prog w = .ok (.slice A m c) w) := by
  subst hK
  refine ⟨min l.length N, l.take (min l.length N), by rw [List.length_take]; omega, by omega, by omega, h4.front (by omega), fun ts t w => ?_, fun w => ?_⟩
  · rw [run_min_int2]
    congr 2
    split <;> omega
  · have h1 : ((min l.length N : Nat) : Int) ≤ c := by omega
    generalize min l.length N = m at *
    go_simp

theorem choose_any {α : Type} {P : Nat → α → Prop} : ∀ n, (∀ r, r < n → ∃ l, P r l) → ∃ ls : List α, ls.length = n ∧ ∀ j (hj : j < ls.length), P j ls[j]
  | 0, _ => ⟨[], rfl, fun j hj => by simp at hj⟩
  | n + 1, h => by
    obtain ⟨ls, hl, hls⟩ := choose_any n (fun r hr => h r (by omega))
    obtain ⟨l, hl'⟩ := h n (by omega)
    refine ⟨ls ++ [l], by simp [hl], fun j hj => ?_⟩
    by_cases hjn : j < ls.length
    · rw [List.getElem_append_left hjn]; exact hls j hjn
    · have : j = n := by simp at hj; omega
      subst this
      rw [List.getElem_append_right (by omega)]
      simpa [hl] using hl'

theorem one_of {cs : List Value} {i : Nat} {v : Value} (h : (cs.drop i).take 1 = [v]) : cs[i]? = some v := by
  have : ((cs.drop i).take 1)[0]? = some v := by rw [h]; rfl
  rw [List.getElem?_take, if_pos (by omega), List.getElem?_drop] at this
  simpa using this

section

variable {H : Type} {enc : TypeId × Value → H} {w : World}

theorem spot_of {a : Addr} {v : Value} (h : w.cell? (a.add 0) = some v) : a.spot = none := by
  have := World.cell?_spot h
  unfold Addr.add at this
  simpa using this

theorem trodB {fuel : Nat} {cs : List Value} {x : DataW H × List MemPlace} (h : DataW.trod enc Try.prog w 0 (fun _ => true) true fuel 28 cs = some x) : ∃ (A : Option Addr) (c : Nat) (l : List UInt8), cs = [.slice A l.length c] ∧ l.length ≤ c ∧ c ≤ maxLen ∧ Bs w A l := by
  rcases open_ints Try.underlying28 Try.underlying5 (by kernel_rfl) h with ⟨rfl, _⟩ | ⟨a, n, c, zs, rfl, _, hl, hm, hz, hx, hcell, hw⟩
  · exact ⟨none, 0, [], rfl, Nat.le_refl _, by simp [maxLen], Bs.nil _ _⟩
  · simp only [if_true] at hz
    obtain ⟨l, hl1, hl2⟩ := row_bytes (w := w) (Ar := some a) (Lr := n) (Cr := c) (Zr := zs) hl hz hw (fun a' e k hk => by cases e; exact hcell k (by rw [hz]; exact hk)) (fun e => by cases e)
    exact ⟨some a, c, l, by rw [hl1], by omega, hm, hl2⟩

end

end Go.Proofs.Ytkkcjkelijlmbaa

namespace Go.Proofs.Ytkkcjkelijlmbaa

open Go.ChangeShapes Go.WideShapes Go.ChangeAt Go.RowKit

set_option linter.unusedVariables false

def ArgG (w : World) (A : Option Addr) (n c : Nat) (ds : List Dg) : Prop := ds.length = n ∧ n ≤ c ∧ c ≤ maxLen ∧ All32 ds ∧ Ds w A ds

section

variable {H : Type} {enc : TypeId × Value → H} {w : World}

theorem trod_dg {fuel : Nat} {cs : List Value} {x : DataW H × List MemPlace} (h : DataW.trod enc Try.prog w 0 (fun _ => true) true fuel 30 cs = some x) : ∃ d : Dg, d.length = 32 ∧ ∀ i, i < 32 → cs[i]? = (cbs d)[i]? := by
  obtain ⟨ys, m, _, _, _, hlen, hel⟩ := DataW.trod_array Try.underlying30 h
  have hc : Try.prog.cellsOf 5 = 1 := by kernel_rfl
  have key : ∀ i, i < 32 → ∃ b : UInt8, cs[i]? = some (cb b) := fun i hi => by
    have h1 := hel i hi
    have hy : ∃ y, ys[i]? = some y := ⟨_, List.getElem?_eq_getElem (by omega)⟩
    obtain ⟨y, hy⟩ := hy
    rw [hc, hy, Nat.mul_one] at h1
    obtain ⟨a, ea, _, wa⟩ := DataW.trod_int Try.underlying5 h1
    refine ⟨UInt8.ofNat a.toNat, (one_of ea).trans ?_⟩
    show some (Value.int .u8 a) = some (Value.int .u8 (((UInt8.ofNat a.toNat).toNat : Nat) : Int))
    rw [← wf_u8 wa]
  obtain ⟨d, hd, hds⟩ := choose_any 32 key
  refine ⟨d, hd, fun i hi => ?_⟩
  rw [hds i (by omega), cbs_get, List.getElem?_eq_getElem (by omega)]
  rfl

theorem ds_of {A : Option Addr} {ds : List Dg} {b off : Nat} (h32 : All32 ds) (hA : A = some ⟨b, off, none⟩) (hb : b < w.heap.size) (h : ∀ r (hr : r < ds.length), ∀ i, i < 32 → w.cell? ⟨b, off + r * 32 + i, none⟩ = (cbs ds[r])[i]?) : Ds w A ds := by
  refine ⟨by rw [cbs_length, flat_len h32]; omega, fun _ => ⟨b, off, hA, hb, fun j u hu => ?_⟩⟩
  have hj : j < 32 * ds.length := by
    rcases Nat.lt_or_ge j (cbs ds.flatten).length with h' | h'
    · rw [cbs_length, flat_len h32] at h'; exact h'
    · rw [List.getElem?_eq_none h'] at hu; cases hu
  have hr : j / 32 < ds.length := by omega
  have h1 := h (j / 32) hr (j % 32) (by omega)
  rw [show off + j / 32 * 32 + j % 32 = off + j by omega] at h1
  rw [h1, ← flat_get h32 hr, cbs_take, cbs_drop, List.getElem?_take_of_lt (by omega), List.getElem?_drop, show 32 * (j / 32) + j % 32 = j by omega]
  exact hu

theorem openG {A : Option Addr} {n c : Nat} {d : DataW H} {p : List MemPlace} (h : DataW.Trod enc Try.prog w 0 (fun _ => true) true 37 (.slice A n c) d p) : ∃ l, ArgG w A n c l := by
  obtain ⟨fuel, hf⟩ := h
  have hC : Try.prog.cellsOf 30 = 32 := by kernel_rfl
  rcases Go.Deep.open_slice Try.underlying37 hf with ⟨hcs, _⟩ | ⟨a, len, cap, m, k, D, Pl, hcs, _, hl, hm, hmm, _, hi⟩
  · simp [Value.cells] at hcs
    obtain ⟨rfl, rfl, rfl⟩ := hcs
    exact ⟨[], rfl, Nat.le_refl _, by simp [maxLen], fun d hd => by simp at hd, Ds.nil _ _⟩
  · simp [Value.cells] at hcs
    obtain ⟨rfl, rfl, rfl⟩ := hcs
    rw [hC] at hi
    have hm' : n ≤ m := by rw [hmm]; simp; omega
    rcases Nat.eq_zero_or_pos n with h0 | hpos
    · subst h0
      exact ⟨[], rfl, hl, hm, fun d hd => by simp at hd, Ds.nil _ _⟩
    have hs : a.spot = none := by
      obtain ⟨cs', hc, ht⟩ := hi 0 (by omega)
      obtain ⟨x, hx, k0⟩ := trod_dg ht
      obtain ⟨_, _, hat⟩ := World.cells?_some hc
      have h1 := hat 0 (by omega)
      rw [k0 0 (by omega), cbs_get, List.getElem?_eq_getElem (by omega)] at h1
      have e : a.add (0 * 32) = a := by unfold Addr.add; simp
      rw [e] at h1
      exact spot_of h1
    obtain ⟨b, off, spot⟩ := a
    simp only at hs
    subst hs
    have key : ∀ r, r < n → ∃ x : Dg, x.length = 32 ∧ ∀ i, i < 32 → w.cell? ⟨b, off + r * 32 + i, none⟩ = (cbs x)[i]? := fun r hr => by
      obtain ⟨cs', hc, ht⟩ := hi r (by omega)
      obtain ⟨x, hx, k0⟩ := trod_dg ht
      obtain ⟨_, _, hat⟩ := World.cells?_some hc
      refine ⟨x, hx, fun i hi => ?_⟩
      have := hat i (by omega)
      rw [add_mk, add_mk] at this
      exact this.trans (k0 i hi)
    obtain ⟨ls, hlen, hls⟩ := choose_any n key
    have h32 : All32 ls := fun d hd => by
      obtain ⟨j, hj, rfl⟩ := List.mem_iff_getElem.1 hd
      exact (hls j hj).1
    have hlt : b < w.heap.size := by
      obtain ⟨hx, h0⟩ := hls 0 (by omega)
      have h1 := h0 0 (by omega)
      rw [cbs_get, List.getElem?_eq_getElem (by omega)] at h1
      exact World.block_lt_of_cell? w _ h1
    exact ⟨ls, hlen, hl, hm, h32, ds_of h32 rfl hlt fun r hr i hi => (hls r hr).2 i hi⟩

end

theorem up_off (v : Value) (A : Option Addr) (n c : Nat) (w : World) (h : n < 1 ∨ 4 < n) :
    Calls Try.prog 25 #[v, .slice A n c] w fun e w' => e = .returned (.tuple #[.agg (cbs (List.replicate 32 0)).toArray, .int .i64 2]) ∧ Below w.heap.size w w' := by
  have b0 : Below w.heap.size w (w.alloc (.cells (cbs (List.replicate 32 0)).toArray 30)) := (Below.refl _ _).alloc (Nat.le_refl _) _
  have hZ : Blk (w.alloc (.cells (cbs (List.replicate 32 0)).toArray 30)) w.heap.size 30 (cbs (List.replicate 32 0)) := Blk.new rfl rfl
  have hth : (w.alloc (.cells (cbs (List.replicate 32 0)).toArray 30)).there w.heap.size 0 (cbs (List.replicate 32 0)).toArray.size := hZ.there
  have hR := hZ.setAll (vs := cbs (List.replicate 32 0)) rfl
  have hb1 : Below w.heap.size w ((w.alloc (.cells (cbs (List.replicate 32 0)).toArray 30)).setCells w.heap.size 0 (cbs (List.replicate 32 0))) := Below.setCells (Nat.le_refl _) _ b0
  have Hb := Lib.hid (And.intro hth (And.intro hR hb1))
  clear b0 hZ hth hR hb1
  obtain ⟨hc, _⟩ : ((decide ((n : Int) < 1) = true) ∨ (decide ((n : Int) < 1) = false ∧ decide ((4 : Int) < (n : Int)) = true)) ∧ True := ⟨by
    by_cases h0 : n < 1
    · exact .inl (by simp; omega)
    · exact .inr ⟨by simp; omega, by simp; omega⟩, trivial⟩
  clear h
  rcases hc with h1 | ⟨h1, h2⟩
  all_goals
    go_enter Try.func25, Try.ntmps25
    go_wp2_with (refine wpList_store_mid rfl 30 _ _ rfl w.heap.size 0 (cbs (List.replicate 32 0)).toArray rfl rfl Hb.out.1 info32b (cbs_one' _) ?_)
    refine bodyPost_ret (results_row_tmp rfl _ _ w.heap.size 30 (cbs (List.replicate 32 0)).toArray (0, 0) _ rfl Hb.out.2.1 Try.underlying30 rfl info32b) rfl ?_
    exact ⟨rfl, Hb.out.2.2⟩

end Go.Proofs.Ytkkcjkelijlmbaa

namespace Go.Proofs.Ytkkcjkelijlmbaa

open Go.RowKit Go.Maps

set_option linter.unusedVariables false

/-- Leaves as a list of slices that lies in blocks of K. -/
def LvsAt (w : World) (K : Nat → Prop) (A : Option Addr) (ls : List (List UInt8)) : Prop :=
  ∃ b off, A = some ⟨b, off, none⟩ ∧ K b ∧ ∀ j (hj : j < ls.length), ∃ Aj cj, w.cell? ⟨b, off + j, none⟩ = some (.slice Aj ls[j].length cj) ∧ ls[j].length ≤ cj ∧ cj ≤ maxLen ∧ Bs w Aj ls[j] ∧ ∀ a, Aj = some a → ls[j] ≠ [] → K a.block

theorem Bs.stays {w w' : World} {K : Nat → Prop} {A : Option Addr} {x : List UInt8} (h : Bs w A x) (hs : Stays K w w') (hK : ∀ a, A = some a → x ≠ [] → K a.block) : Bs w' A x := by
  refine ⟨h.1, fun hp => ?_⟩
  obtain ⟨b, off, e, hb, hc⟩ := h.2 hp
  have hk := hK _ e (fun e => by rw [e] at hp; simp at hp)
  exact ⟨b, off, e, Nat.lt_of_lt_of_le hb hs.1, fun j u hu => (World.cell?_of_block (hs.2 b hk)).trans (hc j u hu)⟩

theorem LvsAt.stays {w w' : World} {K : Nat → Prop} {A : Option Addr} {ls : List (List UInt8)} (h : LvsAt w K A ls) (hs : Stays K w w') : LvsAt w' K A ls := by
  obtain ⟨b, off, e, hb, hc⟩ := h
  refine ⟨b, off, e, hb, fun j hj => ?_⟩
  obtain ⟨Aj, cj, h1, h2, h3, h4, h5⟩ := hc j hj
  exact ⟨Aj, cj, (World.cell?_of_block (hs.2 b hb)).trans h1, h2, h3, h4.stays hs h5, h5⟩

theorem LvsAt.more {w : World} {K K' : Nat → Prop} {A : Option Addr} {ls : List (List UInt8)} (h : LvsAt w K A ls) (hK : ∀ j, K j → K' j) : LvsAt w K' A ls := by
  obtain ⟨b, off, e, hb, hc⟩ := h
  refine ⟨b, off, e, hK _ hb, fun j hj => ?_⟩
  obtain ⟨Aj, cj, h1, h2, h3, h4, h5⟩ := hc j hj
  exact ⟨Aj, cj, h1, h2, h3, h4, fun a e hn => hK _ (h5 a e hn)⟩

end Go.Proofs.Ytkkcjkelijlmbaa

namespace Go.Proofs.Ytkkcjkelijlmbaa

open Go.RowKit Go.Maps

set_option linter.unusedVariables false

theorem pabove_any (m : Nat) (w : World) (h : m ≤ 100000) : Calls Try.prog 21 #[.int .i64 (m : Int)] w fun e w' => e = .returned (.int .i64 (((m + 3) / 4 : Nat) : Int)) ∧ w' = w := by
  obtain ⟨q, hq⟩ : ∃ q, (m + 3) / 4 = q := ⟨_, rfl⟩
  obtain ⟨p, hp⟩ : ∃ p : Nat, (m : Int) + 4 - 1 = (p : Int) := ⟨m + 3, by omega⟩
  have hq2 : (p : Int) / 4 = (q : Int) := by omega
  have h3 : (0 : Int) ≤ (p : Int) := by omega
  have b1 : (m : Int) ≤ 100000 := by omega
  have b2 : (p : Int) ≤ 100003 := by omega
  rw [hq]
  clear hq h
  go_enter Try.func21, Try.ntmps21
  go_wp2
  go_ret
  exact ⟨rfl, rfl⟩

theorem pbrothers_any (m i : Nat) (w : World) (hi : i < m) (hm : m ≤ 100000) : Calls Try.prog 22 #[.int .i64 (m : Int), .int .i64 (i : Int)] w fun e w' => e = .returned (.int .i64 ((min 4 (m - i / 4 * 4) : Nat) : Int)) ∧ w' = w := by
  obtain ⟨q, hq⟩ : ∃ q, min 4 (m - i / 4 * 4) = q := ⟨_, rfl⟩
  obtain ⟨f, hf⟩ : ∃ f, i / 4 = f := ⟨_, rfl⟩
  have hf2 : (i : Int) / 4 = (f : Int) := by omega
  have hmin : ∀ ts t w, (Builtin.min_ ts t #[.int .i64 4, .int .i64 ((m : Int) - (f : Int) * 4)]).run Try.prog w = .ok (.int .i64 (q : Int)) w := fun ts t w => by
    rw [run_min_int2]; congr 2; split <;> omega
  have b1 : (0 : Int) ≤ (i : Int) := by omega
  have b2 : (m : Int) ≤ 100000 := by omega
  have b3 : (i : Int) < (m : Int) := by omega
  have b4 : (0 : Int) ≤ (f : Int) := by omega
  have b5 : (f : Int) * 4 ≤ (i : Int) := by omega
  rw [hq]
  clear hq hi hm hf
  go_enter Try.func22, Try.ntmps22
  go_wp2
  go_ret
  exact ⟨rfl, rfl⟩

set_option maxRecDepth 100000 in
theorem psame_any (a b : Dg) (ha : a.length = 32) (hb : b.length = 32) (w : World) : Calls Try.prog 26 #[.agg (cbs a).toArray, .agg (cbs b).toArray] w fun e w' => e = .returned (.int .i64 (if a = b then 0 else 100)) ∧ Below w.heap.size w w' := by
  obtain ⟨q, hq⟩ : ∃ q, (a == b) = q := ⟨_, rfl⟩
  have heq : ∀ w' : World, (Op.equalIn 10000 30 (.agg (cbs a).toArray) (.agg (cbs b).toArray)).run Try.prog w' = .ok q w' := fun w' => by rw [← hq]; exact eq_digests w' _ _ ha hb
  have hif : (if a = b then (0 : Int) else 100) = if q then 0 else 100 := by rw [← hq]; by_cases e : a = b <;> simp [e]
  have hbA : Below w.heap.size w (w.alloc (.cells (cbs a).toArray 30)) := (Below.refl _ _).alloc (Nat.le_refl _) _
  have hbB := hbA.alloc (by simp) (.cells (cbs b).toArray 30)
  have hBa : Blk ((w.alloc (.cells (cbs a).toArray 30)).alloc (.cells (cbs b).toArray 30)) w.heap.size 30 (cbs a) := (Blk.new rfl rfl).old _
  have hBb : Blk ((w.alloc (.cells (cbs a).toArray 30)).alloc (.cells (cbs b).toArray 30)) (w.heap.size + 1) 30 (cbs b) := Blk.new rfl (by simp)
  rw [hif]
  have hia : (Try.prog.info? 30).map (·.size) = some (cbs a).length := by rw [cbs_length, ha]; exact info32b
  have hib : (Try.prog.info? 30).map (·.size) = some (cbs b).length := by rw [cbs_length, hb]; exact info32b
  generalize cbs a = Da at *
  generalize cbs b = Db at *
  have H := Lib.hid (And.intro hBa.range (And.intro hBb.range (And.intro hia (And.intro hib hbB))))
  clear hq hif hbA hbB hBa hBb hia hib ha hb
  go_enter Try.func26, Try.ntmps26
  cases q
  all_goals
    go_wp2_with (first
      | (refine load_mid_g (by rfl) 30 _ rfl w.heap.size 0 rfl Da _ H.out.1 Try.underlying30 rfl H.out.2.2.1 ?_; simp only [Act.put])
      | (refine load_mid_g (by rfl) 30 _ rfl (w.heap.size + 1) 0 rfl Db _ H.out.2.1 Try.underlying30 rfl H.out.2.2.2.1 ?_; simp only [Act.put]))
    go_ret
    exact ⟨rfl, H.out.2.2.2.2⟩

/-! ### A proof in memory -/

/-- Lists of digests as a list of slices that lies in blocks of K. -/
def PfAt (w : World) (K : Nat → Prop) (A : Option Addr) (ps : List (List Dg)) : Prop :=
  ps ≠ [] → ∃ b off, A = some ⟨b, off, none⟩ ∧ K b ∧ ∀ j (hj : j < ps.length), ∃ Aj cj, w.cell? ⟨b, off + j, none⟩ = some (.slice Aj ps[j].length cj) ∧ ps[j].length ≤ cj ∧ cj ≤ maxLen ∧ All32 ps[j] ∧ Ds w Aj ps[j] ∧ ∀ a, Aj = some a → ps[j] ≠ [] → K a.block

theorem Ds.stays {w w' : World} {K : Nat → Prop} {A : Option Addr} {x : List Dg} (h : Ds w A x) (hs : Stays K w w') (hK : ∀ a, A = some a → x ≠ [] → K a.block) : Ds w' A x := by
  refine ⟨h.1, fun hp => ?_⟩
  obtain ⟨b, off, e, hb, hc⟩ := h.2 hp
  have hk := hK _ e (fun e => by rw [e] at hp; simp at hp)
  exact ⟨b, off, e, Nat.lt_of_lt_of_le hb hs.1, fun j u hu => (World.cell?_of_block (hs.2 b hk)).trans (hc j u hu)⟩

theorem PfAt.stays {w w' : World} {K : Nat → Prop} {A : Option Addr} {ps : List (List Dg)} (h : PfAt w K A ps) (hs : Stays K w w') : PfAt w' K A ps := fun hne => by
  obtain ⟨b, off, e, hb, hc⟩ := h hne
  refine ⟨b, off, e, hb, fun j hj => ?_⟩
  obtain ⟨Aj, cj, h1, h2, h3, h4, h5, h6⟩ := hc j hj
  exact ⟨Aj, cj, (World.cell?_of_block (hs.2 b hb)).trans h1, h2, h3, h4, h5.stays hs h6, h6⟩

theorem PfAt.more {w : World} {K K' : Nat → Prop} {A : Option Addr} {ps : List (List Dg)} (h : PfAt w K A ps) (hK : ∀ j, K j → K' j) : PfAt w K' A ps := fun hne => by
  obtain ⟨b, off, e, hb, hc⟩ := h hne
  refine ⟨b, off, e, hK _ hb, fun j hj => ?_⟩
  obtain ⟨Aj, cj, h1, h2, h3, h4, h5, h6⟩ := hc j hj
  exact ⟨Aj, cj, h1, h2, h3, h4, h5, fun a e hn => hK _ (h6 a e hn)⟩

theorem PfAt.all {w : World} {K : Nat → Prop} {A : Option Addr} {ps : List (List Dg)} (h : PfAt w K A ps) : ∀ p ∈ ps, All32 p := fun p hp => by
  obtain ⟨j, hj, rfl⟩ := List.mem_iff_getElem.1 hp
  obtain ⟨b, off, e, hb, hc⟩ := h (by rintro rfl; simp at hj)
  obtain ⟨Aj, cj, h1, h2, h3, h4, h5, h6⟩ := hc j hj
  exact h4

set_option maxRecDepth 100000 in
set_option maxHeartbeats 1600000 in
theorem pwhole_any (A : Option Addr) (n c : Nat) (ps : List (List Dg)) (K : Nat → Prop) (many i : Nat) (w : World) (hP : PfAt w K A ps) (hn : ps.length = n) (hnm : n ≤ maxLen) (h1 : 1 ≤ many) (h2 : many ≤ 1024) (hi : i < many) :
    Calls Try.prog 24 #[.slice A n c, .int .i64 (many : Int), .int .i64 (i : Int)] w fun e w' => e = .returned (.bool (pwhole many i ps)) ∧ ∃ q, w' = w.drewN q := by
  obtain ⟨R, hR⟩ : ∃ R, pwhole many i ps = R := ⟨_, rfl⟩
  have H := Lib.hid hP
  have Hn := Lib.hid (And.intro hn hnm)
  have HR := Lib.hid hR
  rw [hR]
  have hnm2 : (n : Int) ≤ 9223372036854775807 := by simp only [maxLen] at hnm; omega
  clear hP hR hn hnm
  go_enter Try.func24, Try.ntmps24
  go_wp2
  go_step3
  go_wp2
  go_step3
  go_wp2
  go_loopw [7, 8, 9] (fun kv mv iv wr => ∃ k m j q : Nat, k ≤ n ∧ 1 ≤ m ∧ m ≤ 1024 ∧ j < m ∧ kv = .int .i64 (k : Int) ∧ mv = .int .i64 (m : Int) ∧ iv = .int .i64 (j : Int) ∧ pwhole m j (ps.drop k) = R ∧ wr = w.drewN q) (fun _ mv _ _ => (intOf mv).toNat)
  case atStart => exact ⟨0, many, i, 0, Nat.zero_le _, h1, h2, hi, rfl, rfl, rfl, by rw [List.drop_zero]; exact HR.out, rfl⟩
  case round =>
    obtain ⟨k, m, j, q, hk, hm1, hm2, hj, rfl, rfl, rfl, hwr, hwq⟩ := hrel
    have Hw := Lib.hid hwq
    clear hwq
    have hln := Hn.out.1
    by_cases hone : m = 1
    · have hone' : ((m : Int) == 1) = true := by simp; omega
      rw [hone] at hwr
      have hr : R = decide ((k : Int) = (n : Int)) := by
        rw [← hwr]
        by_cases e : k = n
        · rw [List.drop_of_length_le (by omega), e]; simp [pwhole]
        · rw [← List.getElem_cons_drop (show k < ps.length by omega)]
          simp only [pwhole]
          have : ¬ ((k : Int) = (n : Int)) := by omega
          simp [this]
      by_cases e : k = n
      · subst e
        have hr2 : R = true := by rw [hr]; simp
        have Hr := Lib.hid hr2
        clear hwr hr hr2 hln hone hm1 hm2 hj
        go_wp2
        rw [Exit.noGoto_ret]
        go_ret
        exact ⟨by rw [Hr.out]; rfl, q, Hw.out⟩
      · have hne : ((k : Int) == (n : Int)) = false := by simp; omega
        have hr2 : R = false := by rw [hr]; simp; omega
        have Hr := Lib.hid hr2
        clear hwr hr hr2 hln hone hm1 hm2 hj
        go_wp2
        rw [Exit.noGoto_ret]
        go_ret
        exact ⟨by rw [Hr.out]; rfl, q, Hw.out⟩
    · have hone' : ((m : Int) == 1) = false := by simp; omega
      by_cases e : k = n
      · subst e
        have hr : R = false := by
          rw [← hwr, List.drop_of_length_le (by omega)]
          simp [pwhole, hone]
        have Hr := Lib.hid hr
        clear hwr hr hln
        go_wp2
        go_quiet (fail)
        go_wp2
        rw [Exit.noGoto_ret]
        go_ret
        exact ⟨by rw [Hr.out]; rfl, _, by rw [Hw.out, World.drewN_drewN]⟩
      · have hne : ((k : Int) == (n : Int)) = false := by simp; omega
        have hkl : k < ps.length := by omega
        obtain ⟨b, off, e0, hb, hc⟩ := H.out (by rintro rfl; simp at hkl)
        obtain ⟨Aj, cj, g1, g2, g3, g4, g5, g6⟩ := hc k hkl
        obtain ⟨p, hp⟩ : ∃ p, ps[k] = p := ⟨_, rfl⟩
        rw [← List.getElem_cons_drop hkl, hp] at hwr
        rw [hp] at g1
        obtain ⟨l, hl⟩ : ∃ l, p.length = l := ⟨_, rfl⟩
        rw [hl] at g1
        obtain ⟨t, ht⟩ : ∃ t, min 4 (m - j / 4 * 4) = t := ⟨_, rfl⟩
        have hbr := fun W => pbrothers_any m j W hj (by omega)
        rw [ht] at hbr
        have Hbr := Lib.hid hbr
        have i0 : (0 : Int) ≤ (k : Int) := by omega
        have i1 : (k : Int) < (n : Int) := by omega
        have hw3 : R = (l == t && pwhole ((m + 3) / 4) (j / 4) (ps.drop (k + 1))) := by
          rw [← hwr]
          simp only [pwhole, hl, ht]
          simp [hone]
        have hcell : w.cell? ⟨b, off + k, none⟩ = some (.slice Aj l cj) := g1
        have Hc := Lib.hid hcell
        clear hwr hc g1 g2 g3 g4 g5 g6 hb hp hbr hcell
        subst e0
        have cq : wr.cell? ⟨b, off + k, none⟩ = some (.slice Aj l cj) := by rw [Hw.out]; exact Hc.out
        by_cases hlt : l = t
        · subst hlt
          have hne2 : ((l : Int) != (l : Int)) = false := by simp
          have hw4 : pwhole ((m + 3) / 4) (j / 4) (ps.drop (k + 1)) = R := by rw [hw3]; simp
          obtain ⟨m', hm'⟩ : ∃ m', (m + 3) / 4 = m' := ⟨_, rfl⟩
          obtain ⟨j', hj'⟩ : ∃ j', j / 4 = j' := ⟨_, rfl⟩
          have hj2 : (j : Int) / 4 = (j' : Int) := by omega
          have hj3 : (0 : Int) ≤ (j : Int) := by omega
          have hab := fun w => pabove_any m w (by omega)
          rw [hm'] at hab hw4
          rw [hj'] at hw4
          have Hab := Lib.hid hab
          have Hf := Lib.hid (And.intro hw4 (And.intro hm' (And.intro hj' hl)))
          clear hw3 hw4 hab hm' hj' hl ht
          go_wp2
          go_quiet ((go_at_call 22; exact Calls.quiet_of_same (Hbr.out _)))
          go_wp2_with (go_at_call 21; refine (Hab.out _).mono ?_; rintro e w' ⟨rfl, rfl⟩)
          go_roundw
          case rel =>
            obtain ⟨hw4, hm', hj', hl⟩ := Hf.out
            exact ⟨k + 1, m', j', _, by omega, by omega, by omega, by omega, by go_num, rfl, rfl, hw4, by rw [Hw.out, World.drewN_drewN]⟩
          case measure => have := Hf.out.2.1; simp [intOf]; omega
        · have hne2 : ((l : Int) != (t : Int)) = true := by simp; omega
          have hr : R = false := by rw [hw3]; simp [hlt]
          have Hr := Lib.hid hr
          clear hw3 hr hl ht
          go_wp2
          go_quiet ((go_at_call 22; exact Calls.quiet_of_same (Hbr.out _)))
          go_wp2
          rw [Exit.noGoto_ret]
          go_ret
          exact ⟨by rw [Hr.out]; rfl, _, by rw [Hw.out, World.drewN_drewN]⟩

end Go.Proofs.Ytkkcjkelijlmbaa

namespace Go.Proofs.Ytkkcjkelijlmbaa

open Go.RowKit Go.Maps

set_option linter.unusedVariables false

theorem tdepth_at {w : World} {M : Nat → Prop} {t g : Nat} {low : List Dg} (h : TreeAt w M t g low) : Calls Try.prog 18 #[.pointer (some ⟨t, 0, none⟩)] w (fun e w'' => e = .returned (.int .i64 (dep low.length : Int)) ∧ w'' = w) := by
  obtain ⟨L, R, lv, c, hT⟩ := h
  exact tdepth_any t g low.length lv _ c w hT.blk (dep_pos _)

theorem tleaves_at {w : World} {M : Nat → Prop} {t g : Nat} {low : List Dg} (h : TreeAt w M t g low) : Calls Try.prog 19 #[.pointer (some ⟨t, 0, none⟩)] w (fun e w'' => e = .returned (.int .i64 (low.length : Int)) ∧ w'' = w) := by
  obtain ⟨L, R, lv, c, hT⟩ := h
  exact tleaves_any t g low.length lv _ c w hT.blk (dep_pos _)

theorem TreeAt.l1 {w : World} {M : Nat → Prop} {t g : Nat} {low : List Dg} (h : TreeAt w M t g low) : 1 ≤ low.length := by
  obtain ⟨L, R, lv, c, hT⟩ := h; exact hT.l1

theorem TreeAt.l2 {w : World} {M : Nat → Prop} {t g : Nat} {low : List Dg} (h : TreeAt w M t g low) : low.length ≤ 1024 := by
  obtain ⟨L, R, lv, c, hT⟩ := h; exact hT.l2

theorem TreeAt.all {w : World} {M : Nat → Prop} {t g : Nat} {low : List Dg} (h : TreeAt w M t g low) : All32 low := by
  obtain ⟨L, R, lv, c, hT⟩ := h; exact hT.all

theorem TreeAt.lt {w : World} {M : Nat → Prop} {t g : Nat} {low : List Dg} (h : TreeAt w M t g low) : ∀ i, M i → i < w.heap.size := by
  obtain ⟨L, R, lv, c, hT⟩ := h; exact hT.ltM

theorem sl_three (r n c f e : Nat) (h1 : f < e) (h2 : e ≤ c) (w : World) : (Instr.sliceAt 37 (.slice (some ⟨r, 0, none⟩) n c) (some (.int .i64 (f : Int))) (some (.int .i64 (e : Int))) (some (.int .i64 (e : Int)))).run Try.prog w = .ok (.slice (some ⟨r, f * 32, none⟩) (e - f) (e - f)) w := by
  have a1 : (0 : Int) ≤ (f : Int) := by omega
  have a2 : (f : Int) ≤ (e : Int) := by omega
  have a3 : (e : Int) ≤ (c : Int) := by omega
  have a4 : ¬ (c = f) := by omega
  have a5 : ¬ (e = f) := by omega
  go_simp
  try (intro h; omega)

/-- A block of digests. -/
def IsD (w : World) (r : Nat) : Prop := ∃ cs fr, w.heap[r]? = some (.cells cs 30 fr)

theorem row_isD {w : World} {base n c g m size : Nat} {xs : List Value} (h : w.ownsRow base 30 size (.slice (some ⟨g, 0, none⟩) n c) m xs) : IsD w g := by
  obtain ⟨h1, ⟨e, _⟩ | ⟨g', cap, cur, e, _, hg, _⟩⟩ := h
  · cases e
  · cases e; exact ⟨cur, _, hg⟩

/-- What Parts answers: a piece of a copy of a level. -/
def PartsP (w : World) (ds : List Dg) (e : Ending) (w' : World) : Prop :=
  ∃ r o, e = .returned (.tuple #[.slice (some ⟨r, o, none⟩) ds.length ds.length, .int .i64 0]) ∧ w.heap.size ≤ r ∧ r < w'.heap.size ∧ Ds w' (some ⟨r, o, none⟩) ds ∧ w'.there r o (32 * ds.length) ∧ IsD w' r ∧ Below w.heap.size w w'

set_option maxRecDepth 100000 in
set_option maxHeartbeats 1600000 in
theorem parts_in {w : World} {M : Nat → Prop} {t g : Nat} {low : List Dg} (h : TreeAt w M t g low) (n : Nat) (hn : n + 1 < dep low.length) (j : Nat) (hj : j < wid low.length (n + 1)) :
    Calls Try.prog 9 #[.pointer (some ⟨t, 0, none⟩), .int .i64 ((n + 1 : Nat) : Int), .int .i64 (j : Int)] w (PartsP w (four (lvl low n) j)) := by
  have hdp := tdepth_at h
  have hlv := tlevel_in h n (by omega)
  have h32 := all32_lvl h.all n
  have hl := lvl_len low n
  have hm1 := wid_pos h.l1 n
  have hm2 : wid low.length n ≤ 1024 := Nat.le_trans (wid_le _ n h.l1) h.l2
  rw [wid] at hj
  have hd6 := dep_le h.l2
  generalize dep low.length = d at *
  generalize wid low.length n = m at *
  obtain ⟨ds, hds⟩ : ∃ ds, lvl low n = ds := ⟨_, rfl⟩
  rw [hds] at hlv h32 hl ⊢
  obtain ⟨k, hk⟩ : ∃ k, min 4 (m - 4 * j) = k := ⟨_, rfl⟩
  obtain ⟨f, hf⟩ : ∃ f, 4 * j = f := ⟨_, rfl⟩
  have hk1 : 1 ≤ k := by omega
  have hfm : f < m := by omega
  have hbr := fun w => pbrothers_any m f w hfm (by omega)
  rw [show m - f / 4 * 4 = m - 4 * j by omega, hk] at hbr
  have hab := fun w => pabove_any m w (by omega)
  obtain ⟨q, hq⟩ : ∃ q, (m + 3) / 4 = q := ⟨_, rfl⟩
  rw [hq] at hab
  have Hdp := Lib.hid hdp
  have Hlv := Lib.hid hlv
  have Hbr := Lib.hid hbr
  have Hab := Lib.hid hab
  have Hh := Lib.hid (And.intro h32 (And.intro hl (And.intro hk (And.intro hf hj))))
  have b1 : ((n + 1 : Nat) : Int) - 1 = (n : Int) := by omega
  have b2 : ¬ (((n + 1 : Nat) : Int) < 1) := by omega
  have b3 : ¬ (((n + 1 : Nat) : Int) ≥ (d : Int)) := by omega
  have b4 : ((d : Int) == 0) = false := by simp; omega
  have b5 : ((n + 1 : Nat) : Int) ≤ 10 := by omega
  have b6 : (0 : Int) ≤ ((n + 1 : Nat) : Int) := by omega
  have b7 : ((n + 1 : Nat) : Int) < (d : Int) := by omega
  generalize ((n + 1 : Nat) : Int) = lv at *
  have j1 : ¬ ((j : Int) < 0) := by omega
  have j2 : ¬ ((j : Int) ≥ (q : Int)) := by omega
  have j3 : (j : Int) * 4 = (f : Int) := by omega
  have j4 : (f : Int) ≤ 1024 := by omega
  have j5 : (j : Int) ≤ 1024 := by omega
  have j6 : (0 : Int) ≤ (j : Int) := by omega
  have j7 : (j : Int) < (q : Int) := by omega
  obtain ⟨e, he⟩ : ∃ e, f + k = e := ⟨_, rfl⟩
  have j8 : (f : Int) + (k : Int) = (e : Int) := by omega
  have j9 : (e : Int) ≤ 1028 := by omega
  have j10 : (0 : Int) ≤ (f : Int) := by omega
  have He := Lib.hid he
  clear h hdp hlv h32 hl hbr hab hk hf hj hq hds hd6 hn hm1 hk1 hfm he
  go_enter Try.func9, Try.ntmps9
  go_wp2_with (go_at_call 18; refine Hdp.out.mono ?_; rintro e w ⟨rfl, rfl⟩)
  refine Hlv.out.mono ?_
  rintro e' w1 ⟨v, rfl, hN⟩
  obtain ⟨h32, hl, hk, hf, hj⟩ := Hh.out
  obtain ⟨r, c, rfl, hc1, hc2, hr1, hr2, hDs, hrow⟩ := hN.form (by rintro rfl; simp at hl; omega)
  rw [hl] at hc1 hrow ⊢
  have he := He.out
  have hsl := fun w => sl_three r m c f e (by omega) (by omega) w
  have hef : e - f = k := by omega
  rw [hef] at hsl
  obtain ⟨hF, hFl⟩ := ds_four hDs h32 j (by omega)
  rw [show j * 4 * 32 = f * 32 by omega] at hF
  have hth : w1.there r (f * 32) (32 * k) := row_there hrow (by rw [cbs_length, flat_len h32, hl]; omega)
  have hlen : (four ds j).length = k := by rw [hFl, hl, hk]
  have H1 := Lib.hid (And.intro hF (And.intro hlen (And.intro hth (And.intro hr1 (And.intro hr2 (And.intro (row_isD hrow) hN.2))))))
  clear h32 hl hk hf hj hc1 hc2 hr1 hr2 hDs hrow he hef hF hFl hth hlen hN Hlv
  go_wp2_with (first
    | (go_at_call 21; refine (Hab.out _).mono ?_; rintro e w' ⟨rfl, rfl⟩)
    | (go_at_call 22; refine (Hbr.out _).mono ?_; rintro e w' ⟨rfl, rfl⟩))
  go_ret2
  obtain ⟨hF, hlen, hth, hr1, hr2, hty, hb⟩ := H1.out
  exact ⟨r, f * 32, by rw [hlen]; rfl, hr1, hr2, hF, by rw [hlen]; exact hth, hty, hb⟩

end Go.Proofs.Ytkkcjkelijlmbaa

namespace Go.Proofs.Ytkkcjkelijlmbaa

open Go.RowKit Go.Maps

set_option linter.unusedVariables false

/-- A proof in rows that are new since w0. -/
def PfNew (w0 w : World) (v : Value) (ps : List (List Dg)) : Prop :=
  ∃ vs, w.ownsRow w0.heap.size 37 1 v ps.length vs ∧ ∀ j (hj : j < ps.length), ∃ r o, vs[j]? = some (.slice (some ⟨r, o, none⟩) ps[j].length ps[j].length) ∧ w0.heap.size ≤ r ∧ r < w.heap.size ∧ Ds w (some ⟨r, o, none⟩) ps[j] ∧ w.there r o (32 * ps[j].length) ∧ IsD w r

theorem there_block {w w' : World} {r o k : Nat} (h : w.there r o k) (hb : w'.heap[r]? = w.heap[r]?) : w'.there r o k := fun j hj => by
  obtain ⟨h1, h2⟩ := h j hj
  exact ⟨by rw [World.cell?_of_block (w' := w') (w := w) hb]; exact h1, by rw [World.frozen?_of_block (w' := w') (w := w) hb]; exact h2⟩

theorem Ds.block {w w' : World} {r o : Nat} {ds : List Dg} (h : Ds w (some ⟨r, o, none⟩) ds) (hz : w.heap.size ≤ w'.heap.size) (hb : w'.heap[r]? = w.heap[r]?) : Ds w' (some ⟨r, o, none⟩) ds :=
  h.stays (K := fun j => j = r) ⟨hz, fun j hj => by subst hj; exact hb⟩ fun a e _ => by injection e with e; subst e; rfl

theorem IsD.block {w w' : World} {r : Nat} (h : IsD w r) (hb : w'.heap[r]? = w.heap[r]?) : IsD w' r := by
  obtain ⟨cs, fr, h⟩ := h
  exact ⟨cs, fr, hb.trans h⟩

theorem own_type {w : World} {base n size : Nat} {e : TypeId} {v : Value} {xs : List Value} (h : w.ownsRow base e size v n xs) {b : Nat} (hb : v.ownBlock = some b) : ∃ cs fr, w.heap[b]? = some (.cells cs e fr) := by
  obtain ⟨h1, ⟨rfl, _⟩ | ⟨g, cap, cur, rfl, _, hg, _⟩⟩ := h
  · simp [Value.ownBlock] at hb
  · simp [Value.ownBlock] at hb; subst hb; exact ⟨cur, _, hg⟩

theorem PfNew.stay {w0 w w' : World} {v : Value} {ps : List (List Dg)} (h : PfNew w0 w v ps) (hz : w.heap.size ≤ w'.heap.size) (hk : ∀ i, w0.heap.size ≤ i → i < w.heap.size → w'.heap[i]? = w.heap[i]?) : PfNew w0 w' v ps := by
  obtain ⟨vs, hr, hc⟩ := h
  refine ⟨vs, row_stay hr fun b cs hb hc => hk b (World.ownsRow.lt hr b hb).1 (World.ownsRow.lt hr b hb).2, fun j hj => ?_⟩
  obtain ⟨r, o, h1, h2, h3, h4, h5, h6⟩ := hc j hj
  have hb := hk r h2 h3
  exact ⟨r, o, h1, h2, Nat.lt_of_lt_of_le h3 hz, h4.block hz hb, there_block h5 hb, h6.block hb⟩

theorem PfNew.below {w0 w w' : World} {v : Value} {ps : List (List Dg)} (h : PfNew w0 w v ps) (hb : Below w.heap.size w w') : PfNew w0 w' v ps := h.stay hb.size fun i _ hi => hb.block i hi

theorem PfNew.nil (w : World) : PfNew w w (.slice none 0 0) [] := ⟨[], ⟨rfl, .inl ⟨rfl, rfl⟩⟩, fun j hj => by simp at hj⟩

theorem pl_info : (Try.prog.info? 37).map (fun i => (i.zero.map (fun z => z.cells.size), i.size, i.bytes)) = some (some 1, 1, 24) := by kernel_rfl

theorem run_appendP (w : World) (base : Nat) (v : Value) (n : Nat) (vs : List Value) (hown : w.ownsRow base 37 1 v n vs) (g : Nat) (x : Value) (hx : x.oneCell' = true) (hg : Blk w g 37 [x]) (hn : n ≤ 100000) (hbase : base ≤ w.heap.size) (ty : TypeId) :
    ∃ v' w', (Builtin.append_ #[34, 34] ty #[v, .slice (some ⟨g, 0, none⟩) 1 1]).run Try.prog w = .ok v' w' ∧ w'.ownsRow base 37 1 v' (n + 1) (vs ++ [x]) ∧ w.grownBy w' v.ownBlock := by
  have h := pl_info
  cases hi : Try.prog.info? 37 with
  | none => rw [hi] at h; cases h
  | some i0 =>
    rw [hi] at h
    simp only [Option.map_some, Option.some.injEq, Prod.mk.injEq] at h
    obtain ⟨h1, h2, h3⟩ := h
    cases hz : i0.zero with
    | none => rw [hz] at h1; cases h1
    | some z0 =>
      rw [hz] at h1
      simp only [Option.map_some, Option.some.injEq] at h1
      obtain ⟨v', w', e1, e2, e3, _, _⟩ := run_append_own_at (P := Try.prog) w base 34 ty 37 i0 z0 1 24 Try.underlying34 hi hz h2 h3 h1 (by decide) v n vs hown ⟨g, 0, none⟩ 1 1 [x]
        (by simp) (fun j u hu => by rw [add_mk, Nat.zero_add]; exact hg.cell hu) (fun u hu => by rw [List.mem_singleton.1 hu]; exact hx) (by simp only [maxLen]; omega) (by omega) hbase
      exact ⟨v', w', e1, e2, e3⟩

/-- One list more. -/
theorem pf_push {w0 w : World} {v : Value} {ps : List (List Dg)} {p : List Dg} {r o : Nat} (h : PfNew w0 w v ps) (hw0 : w0.heap.size ≤ w.heap.size) (hr0 : w0.heap.size ≤ r) (hr : r < w.heap.size) (hD : Ds w (some ⟨r, o, none⟩) p) (hth : w.there r o (32 * p.length)) (hty : IsD w r) (hn : ps.length ≤ 1000) (ty : TypeId) :
    ∃ v' w', (Builtin.append_ #[34, 34] ty #[v, .slice (some ⟨w.heap.size, 0, none⟩) 1 1]).run Try.prog (w.alloc (.cells #[.slice (some ⟨r, o, none⟩) p.length p.length] 37)) = .ok v' w' ∧ PfNew w0 w' v' (ps ++ [p]) ∧ Below w0.heap.size w w' := by
  have hbA : Below w.heap.size w (w.alloc (.cells #[.slice (some ⟨r, o, none⟩) p.length p.length] 37)) := (Below.refl _ _).alloc (Nat.le_refl _) _
  have hA := h.below hbA
  generalize hwA : w.alloc (.cells #[.slice (some ⟨r, o, none⟩) p.length p.length] 37) = wA at *
  have hg : Blk wA w.heap.size 37 [.slice (some ⟨r, o, none⟩) p.length p.length] := by rw [← hwA]; exact Blk.new rfl rfl
  obtain ⟨vs, hrow, hc⟩ := hA
  obtain ⟨v', w', h1, h2, h3⟩ := run_appendP wA w0.heap.size v ps.length vs hrow w.heap.size _ rfl hg (by omega) (Nat.le_trans hw0 hbA.size) ty
  have hvl : vs.length = ps.length := by have := hrow.1; omega
  have keep : ∀ q, q < wA.heap.size → IsD wA q → w'.heap[q]? = wA.heap[q]? := fun q hq hd => h3.block q hq fun e => by
    obtain ⟨cs, fr, e1⟩ := own_type hrow e.symm
    obtain ⟨cs', fr', e2⟩ := hd
    rw [e1] at e2
    injection e2 with e2
    injection e2 with _ e2 _
    exact absurd e2 (by decide)
  refine ⟨v', w', h1, ⟨vs ++ [.slice (some ⟨r, o, none⟩) p.length p.length], by rw [List.length_append]; exact h2, fun j hj => ?_⟩, ?_⟩
  · by_cases hj2 : j < ps.length
    · obtain ⟨q, oq, k1, k2, k3, k4, k5, k6⟩ := hc j hj2
      have hb := keep q k3 k6
      rw [List.getElem_append_left hj2]
      exact ⟨q, oq, by rw [List.getElem?_append_left (by omega)]; exact k1, k2, Nat.lt_of_lt_of_le k3 h3.size, k4.block h3.size hb, there_block k5 hb, k6.block hb⟩
    · have e : j = ps.length := by simp at hj; omega
      subst e
      have hb1 := hbA.block r hr
      have hb := keep r (Nat.lt_of_lt_of_le hr hbA.size) (hty.block hb1)
      rw [List.getElem_append_right (Nat.le_refl _)]
      simp only [Nat.sub_self, List.getElem_cons_zero]
      exact ⟨r, o, by rw [List.getElem?_append_right (by omega), hvl, Nat.sub_self]; rfl, hr0, by have := hbA.size; have := h3.size; omega, (hD.block hbA.size hb1).block h3.size hb, there_block (there_block hth hb1) hb, (hty.block hb1).block hb⟩
  · exact (hbA.mono hw0).grown h3 (Nat.le_trans hw0 hbA.size) fun j hj => (World.ownsRow.lt hrow j hj).1

/-- As it lies in memory. -/
theorem PfNew.at_ {w0 w : World} {v : Value} {ps : List (List Dg)} (h : PfNew w0 w v ps) (h32 : ∀ p ∈ ps, All32 p) (h4 : ∀ p ∈ ps, p.length ≤ 4) : ∃ A c, v = .slice A ps.length c ∧ ps.length ≤ c ∧ c ≤ maxLen ∧ PfAt w (fun j => w0.heap.size ≤ j ∧ j < w.heap.size) A ps := by
  obtain ⟨vs, hrow, hc⟩ := h
  rcases hrow.2 with ⟨rfl, e⟩ | ⟨g, c, cur, rfl, hb0, hg, hnc, hcm, _⟩
  · have e2 : ps = [] := List.eq_nil_of_length_eq_zero e
    subst e2
    exact ⟨none, 0, rfl, Nat.le_refl _, by simp [maxLen], fun hne => absurd rfl hne⟩
  · refine ⟨some ⟨g, 0, none⟩, c, rfl, hnc, hcm, fun hne => ⟨g, 0, rfl, ⟨hb0, row_lt hrow⟩, fun j hj => ?_⟩⟩
    obtain ⟨r, o, h1, h2, h3, k4, h5, h6⟩ := hc j hj
    refine ⟨some ⟨r, o, none⟩, ps[j].length, ?_, Nat.le_refl _, ?_, h32 _ (List.getElem_mem hj), k4, fun a e _ => by injection e with e; subst e; exact ⟨h2, h3⟩⟩
    · rw [Nat.zero_add]
      have hz := World.ownsRow.cellAt hrow j (by omega)
      rw [hz]; exact h1
    · have := h4 _ (List.getElem_mem hj)
      simp only [maxLen]; omega

theorem pf_all {low : List Dg} (h : All32 low) (i : Nat) : ∀ p ∈ pf low i, All32 p := fun p hp => by
  unfold pf at hp
  obtain ⟨j, _, rfl⟩ := List.mem_map.1 hp
  exact (all32_lvl h j).four _

theorem pf_four (low : List Dg) (i : Nat) : ∀ p ∈ pf low i, p.length ≤ 4 := fun p hp => by
  unfold pf at hp
  obtain ⟨j, _, rfl⟩ := List.mem_map.1 hp
  rw [four_len]; omega

/-- What Build answers. -/
def BuildP (w : World) (ps : List (List Dg)) (e : Ending) (w' : World) : Prop := ∃ v, e = .returned (.tuple #[v, .int .i64 0]) ∧ PfNew w w' v ps ∧ Below w.heap.size w w'

set_option maxRecDepth 100000 in
set_option maxHeartbeats 1600000 in
theorem build_in {w : World} {M : Nat → Prop} {t g : Nat} {low : List Dg} (h : TreeAt w M t g low) (i : Nat) (hi : i < low.length) :
    Calls Try.prog 8 #[.pointer (some ⟨t, 0, none⟩), .int .i64 (i : Int)] w (BuildP w (pf low i)) := by
  have hdp := tdepth_at h
  have hlv := tleaves_at h
  have hd1 := dep_pos low.length
  have hd6 := dep_le h.l2
  have hn2 := h.l2
  obtain ⟨d, hd⟩ : ∃ d, dep low.length = d := ⟨_, rfl⟩
  obtain ⟨n, hn⟩ : ∃ n, low.length = n := ⟨_, rfl⟩
  rw [hd] at hdp hd1 hd6
  rw [hn] at hlv hn2
  have HT := Lib.hid (And.intro h (And.intro hi hd))
  have Hdp := Lib.hid hdp
  have Hlv := Lib.hid hlv
  have i0 : decide ((i : Int) < 0) = false := by simp
  have i1 : decide (n ≤ i) = false := by simp; omega
  have i2 : (0 : Int) ≤ (i : Int) := by omega
  have i3 : (i : Int) < (n : Int) := by omega
  have d0 : ((d : Int) == 0) = false := by simp; omega
  clear h hdp hlv hi hd hn
  go_enter Try.func8, Try.ntmps8
  go_wp2_with (first
    | (go_at_call 18; refine Hdp.out.mono ?_; rintro e w ⟨rfl, rfl⟩)
    | (go_at_call 19; refine Hlv.out.mono ?_; rintro e w ⟨rfl, rfl⟩))
  go_loopw [6, 7, 8] (fun v pv lv wr => ∃ k : Nat, k + 1 ≤ d ∧ lv = .int .i64 ((k + 1 : Nat) : Int) ∧ pv = .int .i64 ((i / 4 ^ k : Nat) : Int) ∧ PfNew w wr v ((pf low i).take k) ∧ Below w.heap.size w wr) (fun _ _ lv _ => d - (intOf lv).toNat)
  case atStart => exact ⟨0, hd1, rfl, by simp, by rw [List.take_zero]; exact PfNew.nil w, Below.refl _ _⟩
  case round =>
    obtain ⟨k, hk, rfl, rfl, hP, hB⟩ := hrel
    obtain ⟨hT, hi, hd⟩ := HT.out
    have hTr := hT.below hB
    have hdr := tdepth_at hTr
    rw [hd] at hdr
    have Hdr := Lib.hid hdr
    have hlen : (pf low i).length = d - 1 := by rw [pf_len, hd]
    by_cases hin : k + 1 < d
    · obtain ⟨a, ha⟩ : ∃ a, i / 4 ^ k = a := ⟨_, rfl⟩
      obtain ⟨b, hb⟩ : ∃ b, i / 4 ^ (k + 1) = b := ⟨_, rfl⟩
      have hab : (a : Int) / 4 = (b : Int) := by rw [div_pow, ha] at hb; omega
      have hin2 : i / 4 ^ k ≤ i := Nat.div_le_self _ _
      have ha0 : (0 : Int) ≤ (a : Int) := by omega
      have ha1 : (a : Int) ≤ 1024 := by omega
      have hb0 : (0 : Int) ≤ (b : Int) := by omega
      have hb9 : (b : Int) ≤ 1024 := by omega
      have hpt := parts_in hTr k (by omega) b (by rw [← hb]; exact wid_div hi _)
      have hput : (pf low i).take (k + 1) = (pf low i).take k ++ [four (lvl low k) b] := by
        have h1 : k < (pf low i).length := by omega
        have := pf_get low i k (by omega)
        rw [List.getElem?_eq_getElem h1, hb] at this
        rw [List.take_succ_eq_append_getElem h1, Option.some.inj this]
      have Hpt := Lib.hid hpt
      have HP := Lib.hid (And.intro hP (And.intro hB (And.intro hput (And.intro hlen hb))))
      rw [ha]
      have l0 : ((k + 1 : Nat) : Int) < (d : Int) := by omega
      have l1 : ((k + 1 : Nat) : Int) + 1 = ((k + 1 + 1 : Nat) : Int) := by omega
      have l2 : ((k + 1 : Nat) : Int) ≤ 6 := by omega
      have l3 : (0 : Int) ≤ ((k + 1 : Nat) : Int) := by omega
      obtain ⟨q, hq⟩ : ∃ q : Int, ((k + 1 : Nat) : Int) = q := ⟨_, rfl⟩
      rw [hq] at Hpt l0 l1 l2 l3 ⊢
      have Hq := Lib.hid hq
      clear hP hB hT hi hd hTr hdr hlen hpt hput hb ha hin2 hq
      go_wp2_with (go_at_call 18; refine Hdr.out.mono ?_; rintro e w ⟨rfl, rfl⟩)
      refine Hpt.out.mono ?_
      rintro e w1 ⟨r, o, rfl, hr1, hr2, hF, hth, hty, hb1⟩
      obtain ⟨hP, hB, hput, hlen, hb⟩ := HP.out
      obtain ⟨v', w', hap, hP', hB'⟩ := pf_push (hP.below hb1) (Nat.le_trans hB.size hb1.size) (Nat.le_trans hB.size hr1) hr2 hF hth hty (by rw [List.length_take]; omega) 34
      obtain ⟨ln, hln⟩ : ∃ n, (four (lvl low k) b).length = n := ⟨_, rfl⟩
      rw [hln] at hap ⊢
      rw [← hput] at hP'
      have Hap := Lib.hid hap
      have H2 := Lib.hid (And.intro hP' ((hB.trans (hb1.mono hB.size)).trans hB'))
      clear hr1 hr2 hF hth hty hb1 hP hB hput hlen hb hap hP' hB' hln
      go_wp2_with (at_builtin; refine Lib.wpList_append_run _ rfl _ _ _ _ rfl _ _ rfl rfl _ _ Hap.out ?_)
      go_roundw
      case rel => exact ⟨k + 1, by omega, by go_num, by rw [HP.out.2.2.2.2], H2.out.1, H2.out.2⟩
      case measure => have := Hq.out; simp [intOf]; omega
    · obtain rfl : d = k + 1 := by omega
      have l0 : ¬ (((k + 1 : Nat) : Int) < ((k + 1 : Nat) : Int)) := by omega
      rw [List.take_of_length_le (by omega)] at hP
      have H2 := Lib.hid (And.intro hP hB)
      clear hP hB hT hi hd hTr hdr hlen
      go_wp2_with (go_at_call 18; refine Hdr.out.mono ?_; rintro e w ⟨rfl, rfl⟩)
      go_ret2
      exact ⟨_, rfl, H2.out.1, H2.out.2⟩

end Go.Proofs.Ytkkcjkelijlmbaa
