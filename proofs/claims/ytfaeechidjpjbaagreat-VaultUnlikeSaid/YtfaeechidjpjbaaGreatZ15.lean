/-
  Laid together for a hand-in: TreeP, CutN, Bg9, TakeC9, Row9, Once9, Lv9, Ask9.
-/
import Derived.Test.YtfaeechidjpjbaaGreatZ05
import Derived.Test.YtfaeechidjpjbaaGreatZ14
import Derived.Test.YtfaeechidjpjbaaGreatZ01
import Derived.Test.YtfaeechidjpjbaaGreatZ11
import Derived.Test.YtfaeechidjpjbaaGreatZ04

namespace Go.Proofs.YtfaeechidjpjbaaGreat

set_option linter.unusedVariables false

abbrev Dg := List UInt8

def four {α : Type} (l : List α) (j : Nat) : List α := (l.drop (4 * j)).take 4

def leafIn (x : List UInt8) : List UInt8 := 0 :: x

def upIn (ds : List Dg) : List UInt8 := 1 :: ds.flatten

def ups (l : List Dg) : List (List UInt8) := (List.range ((l.length + 3) / 4)).map fun j => upIn (four l j)

def next (l : List Dg) : List Dg := (ups l).map digest

def lvl (l : List Dg) : Nat → List Dg
  | 0 => l
  | n + 1 => next (lvl l n)

def wid (m : Nat) : Nat → Nat
  | 0 => m
  | n + 1 => (wid m n + 3) / 4

def dep (m : Nat) : Nat := if m ≤ 1 then 1 else dep ((m + 3) / 4) + 1
termination_by m
decreasing_by omega

theorem dlen9 (l : List UInt8) : (digest l).length = 32 := by rw [digest_last]; rfl

theorem ups_len (l : List Dg) : (ups l).length = (l.length + 3) / 4 := by simp [ups]

theorem next_len (l : List Dg) : (next l).length = (l.length + 3) / 4 := by simp [next, ups_len]

theorem lvl_len (l : List Dg) (n : Nat) : (lvl l n).length = wid l.length n := by
  induction n with
  | zero => rfl
  | succ n ih => rw [lvl, next_len, ih]; rfl

theorem lvl_succ' (l : List Dg) (n : Nat) : lvl (next l) n = lvl l (n + 1) := by
  induction n with
  | zero => rfl
  | succ n ih => rw [lvl, ih]; rfl

theorem wid_succ' (m n : Nat) : wid ((m + 3) / 4) n = wid m (n + 1) := by
  induction n with
  | zero => rfl
  | succ n ih => rw [wid, ih]; rfl

theorem wid_pos {m : Nat} (h : 1 ≤ m) (n : Nat) : 1 ≤ wid m n := by
  induction n with
  | zero => exact h
  | succ n ih => rw [wid]; omega

theorem dep_pos (m : Nat) : 1 ≤ dep m := by unfold dep; split <;> omega

theorem dep_one {m : Nat} (h : m ≤ 1) : dep m = 1 := by unfold dep; rw [if_pos h]

theorem dep_more {m : Nat} (h : 1 < m) : dep m = dep ((m + 3) / 4) + 1 := by rw [dep, if_neg (by omega)]

/-- Below the last level there is more than one, there just one. -/
theorem dep_wid (k : Nat) : ∀ m n, m ≤ k → 1 ≤ m → ((n + 1 < dep m → 1 < wid m n) ∧ (n + 1 = dep m → wid m n = 1)) := by
  induction k with
  | zero => intro m n h1 h2; omega
  | succ k ih =>
    intro m n h1 h2
    by_cases hm : m ≤ 1
    · rw [dep_one hm]
      refine ⟨fun h => by omega, fun h => ?_⟩
      obtain rfl : n = 0 := by omega
      show m = 1
      omega
    · rw [dep_more (by omega)]
      cases n with
      | zero =>
        refine ⟨fun _ => by show 1 < m; omega, fun h => ?_⟩
        have := dep_pos ((m + 3) / 4)
        omega
      | succ n =>
        have := ih ((m + 3) / 4) n (by omega) (by omega)
        rw [wid_succ'] at this
        exact ⟨fun h => this.1 (by omega), fun h => this.2 (by omega)⟩

theorem wid_more {m n : Nat} (h1 : 1 ≤ m) (h : n + 1 < dep m) : 1 < wid m n := (dep_wid m m n (Nat.le_refl _) h1).1 h

theorem wid_last {m n : Nat} (h1 : 1 ≤ m) (h : n + 1 = dep m) : wid m n = 1 := (dep_wid m m n (Nat.le_refl _) h1).2 h

theorem dep_le {m : Nat} (h : m ≤ 1024) : dep m ≤ 6 := by
  have key : ∀ k m, m ≤ 4 ^ k → dep m ≤ k + 1 := fun k => by
    induction k with
    | zero => intro m h; rw [dep_one (by simpa using h)]; omega
    | succ k ih =>
      intro m h
      by_cases hm : m ≤ 1
      · rw [dep_one hm]; omega
      · rw [dep_more (by omega)]
        have := ih ((m + 3) / 4) (by rw [Nat.pow_succ] at h; omega)
        omega
  exact key 5 m (by simpa using h)

theorem wid_le (m n : Nat) (h : 1 ≤ m) : wid m n ≤ m := by
  induction n with
  | zero => exact Nat.le_refl _
  | succ n ih => rw [wid]; have := wid_pos h n; omega

/-! ### Digests all -/

def All32 (l : List Dg) : Prop := ∀ d ∈ l, d.length = 32

theorem all32_next (l : List Dg) : All32 (next l) := fun d hd => by
  unfold next at hd
  obtain ⟨x, _, rfl⟩ := List.mem_map.1 hd
  exact dlen9 x

theorem all32_lvl {l : List Dg} (h : All32 l) (n : Nat) : All32 (lvl l n) := by
  cases n with
  | zero => exact h
  | succ n => exact all32_next _

theorem all32_map {α : Type} (f : α → List UInt8) (l : List α) : All32 (l.map fun x => digest (f x)) := fun d hd => by
  obtain ⟨x, _, rfl⟩ := List.mem_map.1 hd
  exact dlen9 _

theorem all32_set {l : List Dg} (h : All32 l) {i : Nat} {d : Dg} (hd : d.length = 32) : All32 (l.set i d) := fun x hx => by
  rcases List.mem_or_eq_of_mem_set hx with h' | rfl
  · exact h x h'
  · exact hd

theorem All32.four {l : List Dg} (h : All32 l) (j : Nat) : All32 (four l j) := fun d hd => h d (List.mem_of_mem_drop (List.mem_of_mem_take hd))

theorem flat_len {l : List Dg} (h : All32 l) : l.flatten.length = 32 * l.length := by
  induction l with
  | nil => rfl
  | cons d l ih =>
    rw [List.flatten_cons, List.length_append, ih fun x hx => h x (by simp [hx]), h d (by simp), List.length_cons]
    omega

theorem flat_take {l : List Dg} (h : All32 l) (k : Nat) : l.flatten.take (32 * k) = (l.take k).flatten := by
  induction k generalizing l with
  | zero => simp
  | succ k ih =>
    cases l with
    | nil => simp
    | cons d l =>
      have hd : d.length = 32 := h d (by simp)
      have e : d.length ≤ 32 * (k + 1) := by omega
      rw [List.flatten_cons, List.take_append, List.take_of_length_le e, hd, show 32 * (k + 1) - 32 = 32 * k by omega, ih fun x hx => h x (by simp [hx])]
      simp

theorem flat_drop {l : List Dg} (h : All32 l) (k : Nat) : l.flatten.drop (32 * k) = (l.drop k).flatten := by
  by_cases hk : k ≤ l.length
  · have e : l.flatten = (l.take k).flatten ++ (l.drop k).flatten := by rw [← List.flatten_append, List.take_append_drop]
    have hl : (l.take k).flatten.length = 32 * k := by
      rw [flat_len (fun x hx => h x (List.mem_of_mem_take hx)), List.length_take, Nat.min_eq_left hk]
    rw [e, ← hl, List.drop_left]
  · rw [List.drop_of_length_le (by rw [flat_len h]; omega), List.drop_of_length_le (by omega)]; rfl

theorem flat_get {l : List Dg} (h : All32 l) {i : Nat} (hi : i < l.length) : (l.flatten.drop (32 * i)).take 32 = l[i] := by
  rw [flat_drop h, ← List.getElem_cons_drop hi, List.flatten_cons, List.take_append_of_le_length (by rw [h _ (List.getElem_mem hi)]; omega), List.take_of_length_le (by rw [h _ (List.getElem_mem hi)]; omega)]

theorem flat_four {l : List Dg} (h : All32 l) (j : Nat) : (l.flatten.drop (32 * (4 * j))).take (32 * 4) = (four l j).flatten := by
  rw [flat_drop h, flat_take (fun x hx => h x (List.mem_of_mem_drop hx))]; rfl

theorem flat_snoc (l : List Dg) (d : Dg) : (l ++ [d]).flatten = l.flatten ++ d := by rw [List.flatten_append]; simp

theorem flat_set {l : List Dg} (h : All32 l) {i : Nat} (hi : i < l.length) (d : Dg) : (l.set i d).flatten = l.flatten.take (32 * i) ++ d ++ l.flatten.drop (32 * i + 32) := by
  rw [show 32 * i + 32 = 32 * (i + 1) by omega, flat_take h, flat_drop h, List.set_eq_take_append_cons_drop, if_pos hi, List.flatten_append, List.flatten_cons, List.append_assoc]

/-! ### One leaf set -/

theorem four_len {α : Type} (l : List α) (j : Nat) : (four l j).length = min 4 (l.length - 4 * j) := by simp [four]

theorem four_get {α : Type} (l : List α) (j i : Nat) (hi : i < 4) : (four l j)[i]? = l[4 * j + i]? := by
  unfold four
  rw [List.getElem?_take_of_lt hi, List.getElem?_drop]

theorem four_congr {α : Type} {l l' : List α} (hl : l.length = l'.length) {j : Nat} (h : ∀ i, i < 4 → l[4 * j + i]? = l'[4 * j + i]?) : four l j = four l' j := by
  apply List.ext_getElem?
  intro i
  by_cases hi : i < 4
  · rw [four_get _ _ _ hi, four_get _ _ _ hi, h i hi]
  · rw [List.getElem?_eq_none (by rw [four_len]; omega), List.getElem?_eq_none (by rw [four_len]; omega)]

theorem next_get (l : List Dg) (j : Nat) : (next l)[j]? = if j < (l.length + 3) / 4 then some (digest (upIn (four l j))) else none := by
  unfold next ups
  rw [List.map_map, List.getElem?_map]
  by_cases h : j < (l.length + 3) / 4
  · rw [if_pos h, List.getElem?_range h]; rfl
  · rw [if_neg h, List.getElem?_eq_none (by simpa using h)]; rfl

theorem lvl_set {l l' : List Dg} (hl : l.length = l'.length) {i : Nat} (h : ∀ j, j ≠ i → l[j]? = l'[j]?) (n : Nat) : ∀ j, j ≠ i / 4 ^ n → (lvl l n)[j]? = (lvl l' n)[j]? := by
  induction n with
  | zero => intro j hj; exact h j (by simpa using hj)
  | succ n ih =>
    intro j hj
    have hl' : (lvl l n).length = (lvl l' n).length := by rw [lvl_len, lvl_len, hl]
    rw [lvl, lvl, next_get, next_get, hl']
    have e : i / 4 ^ (n + 1) = i / 4 ^ n / 4 := by rw [Nat.pow_succ, Nat.div_div_eq_div_mul]
    rw [four_congr hl' fun k hk => ih _ (by omega)]

theorem lvl_set_eq {l l' : List Dg} (hl : l.length = l'.length) {i : Nat} (h : ∀ j, j ≠ i → l[j]? = l'[j]?) (n : Nat) {d : Dg} (hd : (lvl l' n)[i / 4 ^ n]? = some d) : (lvl l n).set (i / 4 ^ n) d = lvl l' n := by
  apply List.ext_getElem?
  intro j
  by_cases hj : j = i / 4 ^ n
  · subst hj
    have hlt := (List.getElem?_eq_some_iff.1 hd).1
    rw [hd, List.getElem?_set_self (by rw [lvl_len, hl, ← lvl_len]; exact hlt)]
  · rw [List.getElem?_set_ne (fun e => hj e.symm)]
    exact lvl_set hl h n j hj

theorem div_pow (i n : Nat) : i / 4 ^ (n + 1) = i / 4 ^ n / 4 := by rw [Nat.pow_succ, Nat.div_div_eq_div_mul]

theorem wid_div {m i : Nat} (h : i < m) (n : Nat) : i / 4 ^ n < wid m n := by
  induction n with
  | zero => rw [Nat.pow_zero, Nat.div_one]; exact h
  | succ n ih => rw [wid, div_pow]; omega

/-! ### The inputs -/

/-- What is asked of the book for the levels 0 to n. -/
def insTo (ls : List (List UInt8)) : Nat → List (List UInt8)
  | 0 => ls.map leafIn
  | n + 1 => insTo ls n ++ ups (lvl (ls.map fun x => digest (leafIn x)) n)

def lows (ls : List (List UInt8)) : List Dg := ls.map fun x => digest (leafIn x)

theorem lows_len (ls : List (List UInt8)) : (lows ls).length = ls.length := by simp [lows]

theorem all32_lows (ls : List (List UInt8)) : All32 (lows ls) := all32_map leafIn ls

theorem insTo_succ (ls : List (List UInt8)) (n : Nat) : insTo ls (n + 1) = insTo ls n ++ ups (lvl (lows ls) n) := rfl

theorem insTo_len (ls : List (List UInt8)) (h : 1 ≤ ls.length) (n : Nat) : (insTo ls n).length ≤ ls.length * (n + 1) := by
  induction n with
  | zero => simp [insTo]
  | succ n ih =>
    have hw := wid_le ls.length n h
    rw [insTo_succ, List.length_append, ups_len, lvl_len, lows_len]
    have e : ls.length * (n + 1 + 1) = ls.length * (n + 1) + ls.length := by rw [Nat.mul_succ]
    omega

end Go.Proofs.YtfaeechidjpjbaaGreat

namespace Go.Proofs.YtfaeechidjpjbaaGreat

open Go.ChangeShapes Go.WideShapes Go.ChangeAt Go.RowKit

set_option linter.unusedVariables false

/-- What 'x[:min(len(x), K)]' leaves of a slice of bytes that came in. -/
theorem cutUp {w : World} {A : Option Addr} {n c : Nat} {l : List UInt8} (N : Nat) (K : Int) (hK : K = (N : Int)) (h : ArgB w A n c l) : ∃ m x, x.length = m ∧ m ≤ N ∧ m ≤ c ∧ c ≤ maxLen ∧ Bs w A x ∧
    (∀ ts t w, (Builtin.min_ ts t #[.int .i64 (n : Int), .int .i64 K]).run Tryz.prog w = .ok (.int .i64 (m : Int)) w) ∧
    (∀ w, (Instr.sliceAt 22 (.slice A n c) none (some (.int .i64 (m : Int))) none).run Tryz.prog w = .ok (.slice A m c) w) := by
  obtain ⟨h1, h2, h3, h4⟩ := h
  subst hK
  refine ⟨min n N, l.take (min n N), by rw [List.length_take]; omega, by omega, by omega, by unfold maxLen; omega, h4.front (by omega), fun ts t w => ?_, fun w => ?_⟩
  · rw [run_min_int2]
    congr 2
    split <;> omega
  · have h1 : ((min n N : Nat) : Int) ≤ c := by omega
    generalize min n N = m at *
    go_simp

theorem run_frontB (A : Option Addr) (n c k : Nat) (h : k ≤ c) (w : World) : (Instr.sliceAt 22 (.slice A n c) none (some (.int .i64 (k : Int))) none).run Tryz.prog w = .ok (.slice A k c) w := by
  have h1 : (k : Int) ≤ c := by omega
  go_simp

theorem run_oneB (A : Option Addr) (m c k : Nat) (hk : k < m) (hmc : m ≤ c) (hc : c ≤ maxLen) (w : World) : (Instr.sliceAt 22 (.slice A m c) (some (.int .i64 (k : Int))) (some (.int .i64 ((k : Int) + 1))) none).run Tryz.prog w = .ok (.slice (cutAt A 1 k c) 1 (c - k)) w := by
  have h1 : (0 : Int) ≤ (k : Int) := by omega
  have h2 : (k : Int) + 1 ≤ (c : Int) := by omega
  have h3 : ((k : Int) + 1).toNat = k + 1 := by omega
  have h4 : k + 1 - k = 1 := by omega
  have h5 : (0 : Int) ≤ (k : Int) + 1 := by omega
  have h6 : ¬ ((k : Int) + 1 < 0) := by omega
  go_simp
  simp [cutAt]

theorem Away.front_ {A : Option Addr} {g k : Nat} {l : List UInt8} (h : Away A g l) : Away A g (l.take k) := fun hl => h (fun e => hl (by rw [e]; simp))

theorem take_step (x : List UInt8) (k : Nat) : x.take k ++ (x.drop k).take 1 = x.take (k + 1) := by
  rw [List.take_add]

end Go.Proofs.YtfaeechidjpjbaaGreat

namespace Go.Proofs.YtfaeechidjpjbaaGreat

open Go.RowKit Go.Maps

set_option linter.unusedVariables false

abbrev Bk := List (List UInt8) × Bool × Nat

def BookS (w : World) (S : Nat → Prop) (g m : Nat) (s : Bk) : Prop := BookM w S g m s.1 s.2.1 s.2.2

/-- From w on only the book's blocks have changed, and it is s now. -/
def Bg (S : Nat → Prop) (w w' : World) (g m : Nat) (s : Bk) : Prop := Out S w w' ∧ BookS w' (Grown S w w') g m s

section

variable {S : Nat → Prop} {a b c w w' : World} {g m : Nat} {s s' : Bk}

theorem Bg.refl (h : BookS w S g m s) : Bg S w w g m s := ⟨Out.refl _ _, h.more (fun i hi => .inl hi) fun i hi => by
  rcases hi with hi | hi
  · exact h.lt hi
  · exact hi.2⟩

theorem Bg.then_below (h : Bg S a b g m s) (k : Below b.heap.size b c) : Bg S a c g m s :=
  ⟨h.1.then_below k, (BookM.below h.2 k).more (fun i hi => by
    rcases hi with hi | hi
    · exact .inl hi
    · exact .inr ⟨hi.1, Nat.lt_of_lt_of_le hi.2 k.size⟩) fun i hi => by
    rcases hi with hi | hi
    · exact Nat.lt_of_lt_of_le (h.2.lt (.inl hi)) k.size
    · exact hi.2⟩

theorem Bg.trans (h : Bg S a b g m s) (k : Bg (Grown S a b) b c g m s') : Bg S a c g m s' :=
  ⟨h.1.trans k.1 fun i hi hs => by
      rcases hs with hs | hs
      · exact hs
      · omega,
   BookM.more k.2 (fun i hi => by
      rcases hi with (hi | hi) | hi
      · exact .inl hi
      · exact .inr ⟨hi.1, Nat.lt_of_lt_of_le hi.2 k.1.size⟩
      · exact .inr ⟨Nat.le_trans h.1.size hi.1, hi.2⟩) fun i hi => by
      rcases hi with hi | hi
      · exact k.2.lt (.inl (.inl hi))
      · exact hi.2⟩

theorem Bg.after_below (k : Below a.heap.size a b) (hS : ∀ i, S i → i < a.heap.size) (h : Bg S b c g m s) : Bg S a c g m s :=
  ⟨(Out.ofBelow S k).trans h.1 fun _ _ e => e, h.2.more (fun i hi => by
      rcases hi with hi | hi
      · exact .inl hi
      · exact .inr ⟨Nat.le_trans k.size hi.1, hi.2⟩) fun i hi => by
      rcases hi with hi | hi
      · exact h.2.lt (.inl hi)
      · exact hi.2⟩

theorem Bg.size (h : Bg S a b g m s) : a.heap.size ≤ b.heap.size := h.1.size

theorem Bg.blk {t : TypeId} {l : List Value} {i : Nat} (h : Bg S a b g m s) (hb : Blk a i t l) (hn : ¬ S i) : Blk b i t l := h.1.blk hb hn

theorem Bg.below {B : Nat} (h : Bg S a b g m s) (hS : ∀ i, S i → B ≤ i) (hB : B ≤ a.heap.size) : Below B a b := h.1.above hS hB

theorem Bg.far {i : Nat} (h : Bg S a b g m s) (hi : i < a.heap.size) (hn : ¬ S i) : ¬ Grown S a b i := fun e => by
  rcases e with e | e
  · exact hn e
  · omega

theorem BookS.stay (h : BookS w S g m s) {w' : World} (hz : w.heap.size ≤ w'.heap.size) (hk : ∀ i, S i → w'.heap[i]? = w.heap[i]?) : BookS w' S g m s := BookM.stay h hz hk

theorem Out.setCells {S : Nat → Prop} {a : World} {x : Nat} (hx : a.heap.size ≤ x) (vs : List Value) : ∀ {w : World} {o : Nat}, Out S a w → Out S a (w.setCells x o vs) := by
  induction vs with
  | nil => intro w o h; exact h
  | cons v vs ih => intro w o h; rw [World.setCells]; exact ih (h.setCell (p := ⟨x, o, none⟩) (fun e => absurd e (by show ¬ x < _; omega)) v)

theorem block_setCells {x i : Nat} (hi : i ≠ x) (vs : List Value) : ∀ {w : World} {o : Nat}, (w.setCells x o vs).heap[i]? = w.heap[i]? := by
  induction vs with
  | nil => intro w o; rfl
  | cons v vs ih => intro w o; rw [World.setCells, ih]; exact Below.heap_setCell w ⟨x, o, none⟩ v i hi

/-- A store into a block that is none of the book's and was made on the way. -/
theorem Bg.store {a1 : World} (hb : Below a.heap.size a a1) (hS : ∀ i, S i → i < a.heap.size) (h : Bg S a1 b g m s) {x : Nat} (hx : a.heap.size ≤ x) (hx1 : x < a1.heap.size) (o : Nat) (vs : List Value) : Bg S a (b.setCells x o vs) g m s := by
  have hz := size_cells3 vs b x o
  refine ⟨Out.setCells hx vs ((Out.ofBelow S hb).trans h.1 fun _ _ e => e), ?_⟩
  refine BookM.more (BookS.stay h.2 (by rw [hz]; exact Nat.le_refl _) fun i hi => block_setCells (fun e => ?_) vs) (fun i hi => ?_) fun i hi => ?_
  · subst e
    rcases hi with hi | hi
    · have := hS _ hi; omega
    · omega
  · rcases hi with hi | hi
    · exact .inl hi
    · exact .inr ⟨Nat.le_trans hb.size hi.1, by rw [hz]; exact hi.2⟩
  · rcases hi with hi | hi
    · have := h.2.lt (.inl hi); rw [hz]; exact this
    · exact hi.2

end

theorem bs_of {w : World} {S : Nat → Prop} {g m : Nat} {s : Bk} (h : BookS w S g m s) (hL : s.1.length < 1000000) (hk : s.2.2 < 1000000) (A : Option Addr) (n cp : Nat) (x : List UInt8) (hB : Bs w A x) (hn : x.length = n) (hc : n ≤ cp) (hcm : cp ≤ maxLen) :
    Calls Tryz.prog 138 #[.pointer (some ⟨g, 0, none⟩), .slice A n cp] w fun e w' => e = .returned (.tuple #[.agg (cbs (ofD x)).toArray, .int .i64 (ofE x)]) ∧ Bg S w w' g m (stepL s x) := by
  refine (bof_any S g m s.1 s.2.1 s.2.2 A n cp x w h hL hk hB hn hc hcm).mono ?_
  rintro e w' ⟨rfl, k1, k2⟩
  exact ⟨rfl, k2, k1⟩

/-! ### What a book keeps off -/

def IsC (w : World) (i : Nat) : Prop := ∃ cs t fr, w.heap[i]? = some (.cells cs t fr)

theorem row_isC {w : World} {base n size : Nat} {e : TypeId} {v : Value} {xs : List Value} (h : w.ownsRow base e size v n xs) {b : Nat} (hb : v.ownBlock = some b) : IsC w b := by
  obtain ⟨h1, ⟨rfl, _⟩ | ⟨g, cap, cur, rfl, _, hg, _⟩⟩ := h
  · simp [Value.ownBlock] at hb
  · simp [Value.ownBlock] at hb; subst hb; exact ⟨cur, _, _, hg⟩

theorem BookS.cells {w : World} {S : Nat → Prop} {g m : Nat} {s : Bk} (h : BookS w S g m s) : BookS w (fun i => S i ∧ (i = m ∨ IsC w i)) g m s := by
  obtain ⟨h1, h2, h3, h4, D, h5, h6⟩ := h
  refine ⟨h1, ⟨h2, .inr ⟨_, _, _, h1⟩⟩, ⟨h3, .inl rfl⟩, fun i hi => h4 i hi.1, D, h5, fun d kl hd hkl => ?_⟩
  obtain ⟨v, e, cs, k1, k2, k3, k4⟩ := h6 d kl hd hkl
  refine ⟨v, e, cs, k1, fun b hb => ⟨k2 b hb, .inr (row_isC k1 hb)⟩, k3, fun j x hx => ?_⟩
  obtain ⟨hd, e2, q1, q2⟩ := k4 j x hx
  exact ⟨hd, e2, q1, fun b hb => ⟨q2 b hb, .inr (row_isC q1 hb)⟩⟩

/-- The book is s; its blocks lie at B or beyond, are cells but for the map, and are none of N. -/
def Kb (B : Nat) (w : World) (g m : Nat) (s : Bk) (N : Nat → Prop) : Prop :=
  ∃ S' : Nat → Prop, BookS w S' g m s ∧ (∀ i, S' i → B ≤ i ∧ (i = m ∨ IsC w i)) ∧ ∀ i, N i → i < w.heap.size ∧ ¬ S' i

/-- What may turn while a book goes on. -/
def Tn (B m : Nat) (w : World) (N : Nat → Prop) (i : Nat) : Prop := B ≤ i ∧ ¬ N i ∧ (i = m ∨ IsC w i)

section

variable {B g m : Nat} {w w' : World} {s s' : Bk} {N N' : Nat → Prop}

theorem Kb.lt (h : Kb B w g m s N) {i : Nat} (hi : N i) : i < w.heap.size := by obtain ⟨_, _, _, h⟩ := h; exact (h i hi).1

theorem Kb.m_lt (h : Kb B w g m s N) : m < w.heap.size := by obtain ⟨_, h, _⟩ := h; exact h.lt h.2.2.1

theorem Kb.go {S' : Nat → Prop} (hB : B ≤ w.heap.size) (h2 : ∀ i, S' i → B ≤ i ∧ (i = m ∨ IsC w i)) (h3 : ∀ i, N i → i < w.heap.size ∧ ¬ S' i) (h : Bg S' w w' g m s') : Kb B w' g m s' N ∧ Out (Tn B m w N) w w' := by
  refine ⟨⟨_, BookS.cells h.2, fun i hi => ⟨?_, hi.2⟩, fun i hi => ⟨Nat.lt_of_lt_of_le (h3 i hi).1 h.size, fun e => ?_⟩⟩, ?_⟩
  · rcases hi.1 with hi | hi
    · exact (h2 i hi).1
    · omega
  · rcases e.1 with e | e
    · exact (h3 i hi).2 e
    · have := (h3 i hi).1; omega
  · exact ⟨h.1.os, h.1.tape, h.1.output, h.1.size, fun i hi hn => h.1.block i hi fun e => hn ⟨(h2 i e).1, fun e2 => (h3 i e2).2 e, (h2 i e).2⟩⟩

theorem Kb.other (h : Kb B w g m s N) (hz : w.heap.size ≤ w'.heap.size) (hk : ∀ i, i < w.heap.size → ¬ N i → w'.heap[i]? = w.heap[i]?) (hN : ∀ i, N' i → N i ∨ (w.heap.size ≤ i ∧ i < w'.heap.size)) : Kb B w' g m s N' := by
  obtain ⟨S', h1, h2, h3⟩ := h
  have e : ∀ i, S' i → w'.heap[i]? = w.heap[i]? := fun i hi => hk i (h1.lt hi) fun e => (h3 i e).2 hi
  refine ⟨S', BookM.stay h1 hz e, fun i hi => ⟨(h2 i hi).1, ?_⟩, fun i hi => ?_⟩
  · rcases (h2 i hi).2 with h | ⟨cs, t, fr, hc⟩
    · exact .inl h
    · exact .inr ⟨cs, t, fr, (e i hi).trans hc⟩
  · rcases hN i hi with h | h
    · exact ⟨Nat.lt_of_lt_of_le (h3 i h).1 hz, (h3 i h).2⟩
    · exact ⟨h.2, fun e2 => by have := h1.lt e2; omega⟩

theorem Kb.below (h : Kb B w g m s N) (hb : Below w.heap.size w w') : Kb B w' g m s N := h.other hb.size (fun i hi _ => hb.block i hi) fun i hi => .inl hi

theorem Kb.belowN (h : Kb B w g m s N) (hb : Below w.heap.size w w') (hN : ∀ i, N' i → N i ∨ (w.heap.size ≤ i ∧ i < w'.heap.size)) : Kb B w' g m s N' := h.other hb.size (fun i hi _ => hb.block i hi) hN

theorem Kb.less (h : Kb B w g m s N) (hN : ∀ i, N' i → N i) : Kb B w g m s N' := h.other (Nat.le_refl _) (fun _ _ _ => rfl) fun i hi => .inl (hN i hi)

theorem Kb.mono {B' : Nat} (h : Kb B w g m s N) (hB : B' ≤ B) : Kb B' w g m s N := by
  obtain ⟨S', h1, h2, h3⟩ := h
  exact ⟨S', h1, fun i hi => ⟨Nat.le_trans hB (h2 i hi).1, (h2 i hi).2⟩, h3⟩

theorem Out.wide {S S' : Nat → Prop} (h : Out S w w') (hS : ∀ i, i < w.heap.size → S i → S' i) : Out S' w w' := ⟨h.os, h.tape, h.output, h.size, fun i hi hn => h.block i hi fun e => hn (hS i hi e)⟩

theorem Out.isC {S : Nat → Prop} (h : Out S w w') {i : Nat} (hi : IsC w i) (hn : ¬ S i) : IsC w' i := by
  obtain ⟨cs, t, fr, hc⟩ := hi
  exact ⟨cs, t, fr, (h.block i (by
    rcases Nat.lt_or_ge i w.heap.size with h | h
    · exact h
    · rw [Array.getElem?_eq_none h] at hc; cases hc) hn).trans hc⟩

theorem Tn.keep {i : Nat} (hi : N i) : ¬ Tn B m w N i := fun h => h.2.1 hi

theorem Tn.low {i : Nat} (hi : i < B) : ¬ Tn B m w N i := fun h => by have := h.1; omega

theorem Blk.isC {t : TypeId} {l : List Value} {i : Nat} (h : Blk w i t l) : IsC w i := ⟨_, _, _, h⟩

end

/-! ### Slices of digests -/

def Ds (w : World) (A : Option Addr) (ds : List Dg) : Prop := Shows w w.heap.size 32 A ds.length (cbs ds.flatten)

theorem Ds.after {w w' : World} {A : Option Addr} {ds : List Dg} (hb : Below w.heap.size w w') (h : Ds w A ds) : Ds w' A ds := Shows.on h hb

theorem Ds.at_ {w : World} {A : Option Addr} {ds : List Dg} (h : Ds w A ds) (h32 : All32 ds) {i : Nat} (hi : i < ds.length) :
    ∃ b off, A = some ⟨b, off, none⟩ ∧ b < w.heap.size ∧ w.rangeAt b (off + i * 32) (cbs ds[i]) := by
  obtain ⟨b, off, e, hb, hc⟩ := h.2 (by omega)
  refine ⟨b, off, e, hb, fun j u hu => ?_⟩
  rw [Nat.add_assoc, Nat.mul_comm i 32]
  refine hc _ u ?_
  rw [← flat_get h32 hi, cbs_take, cbs_drop] at hu
  have hj : j < 32 := by
    rcases Nat.lt_or_ge j 32 with hj | hj
    · exact hj
    · rw [List.getElem?_eq_none (by rw [List.length_take]; omega)] at hu; cases hu
  rw [List.getElem?_take_of_lt hj, List.getElem?_drop] at hu
  exact hu

theorem Bs.ofBlk {w : World} {g : Nat} {t : TypeId} {l : List UInt8} (h : Blk w g t (cbs l)) : Bs w (some ⟨g, 0, none⟩) l :=
  ⟨by rw [cbs_length]; simp, fun _ => ⟨g, 0, rfl, h.lt, fun j u hu => by rw [Nat.zero_add]; exact h.cell hu⟩⟩

theorem Ds.nil (w : World) (A : Option Addr) : Ds w A [] := Shows.empty A

theorem Ds.off {w : World} {A : Option Addr} {ds : List Dg} (h : Ds w A ds) (hne : ds ≠ []) : ∃ b off, A = some ⟨b, off, none⟩ ∧ b < w.heap.size := by
  obtain ⟨b, off, e, hb, _⟩ := h.2 (by
    cases ds with
    | nil => exact absurd rfl hne
    | cons d ds => simp)
  exact ⟨b, off, e, hb⟩

/-- Digests in a block that is not among S stay, while only S turns. -/
theorem Ds.out {w w' : World} {S : Nat → Prop} {A : Option Addr} {ds : List Dg} (h : Ds w A ds) (hw : Out S w w') (hn : ∀ a, A = some a → ds ≠ [] → ¬ S a.block) : Ds w' A ds := by
  refine ⟨h.1, fun hp => ?_⟩
  obtain ⟨b, off, e, hb, hc⟩ := h.2 hp
  refine ⟨b, off, e, Nat.lt_of_lt_of_le hb hw.size, fun j u hu => ?_⟩
  refine (World.cell?_of_block (hw.block b hb (hn _ e ?_))).trans (hc j u hu)
  rintro rfl
  simp at hp

end Go.Proofs.YtfaeechidjpjbaaGreat

namespace Go.Proofs.YtfaeechidjpjbaaGreat

open Go.RowKit

set_option linter.unusedVariables false

section

variable {P : Program} {ops : Array Oper} {Q : Exit → Act → World → Prop} {md : Region.Mode} {S : World → Prop}

/-- In state 'a', in every world that meets S, operation 'o' is a call that answers v and changes nothing. -/
def Asks (P : Program) (ops : Array Oper) (S : World → Prop) (o : Oper) (v : Value) (a : Act) : Prop :=
  Region.wanted o (yielded ops a.tmps) = true ∧ ∀ w, S w → ∃ f args, (execOp a.eval o).run P w = .ok (.enter f args) w ∧ Calls P f args w fun e w' => e = .returned v ∧ w' = w

theorem Asks.op {i : Nat} {o : Oper} {v : Value} {a : Act} (hi : ops[i]? = some o) (hy : Asks P ops S o v a) {K : Act → World → Prop} {w : World} (hS : S w) (h : K (a.put o.dst v) w) : wpOp P ops Q i K a w := by
  obtain ⟨hw, hr⟩ := hy
  obtain ⟨f, args, hrun, hc⟩ := hr w hS
  unfold wpOp
  simp only [hi, hw, if_true]
  refine .inl ?_
  unfold Oper.wp
  rw [hrun]
  refine hc.mono ?_
  rintro e w' ⟨rfl, rfl⟩
  exact h

theorem Asks.same {o : Oper} {v : Value} {a a' : Act} (hy : Asks P ops S o v a) (he : execOp a'.eval o = execOp a.eval o) (hw : Region.wanted o (yielded ops a'.tmps) = Region.wanted o (yielded ops a.tmps)) : Asks P ops S o v a' := by
  unfold Asks at *
  rw [he, hw]
  exact hy

theorem asks_put {j : Nat} {oi oj : Oper} {v : Value} (hj : ops[j]? = some oj) (hap : oi.apart ops oj = true) (hsi : ∀ cs b, oi.op ≠ .select cs b) (hsj : ∀ cs b, oj.op ≠ .select cs b)
    (hQ : ∀ c a w, Q (.panic c) (a.put oi.dst v) w → Q (.panic c) a w) {K : Act → World → Prop} {a : Act} {w : World} (hy : Asks P ops S oi v a) (h : wpOp P ops Q j K (a.put oi.dst v) w) :
    wpOp P ops Q j (fun a' w' => Asks P ops S oi v a' ∧ K (a'.put oi.dst v) w') a w := by
  obtain ⟨h1, h2, h3⟩ := Oper.apart_spec hap
  have keep : ∀ a : Act, Asks P ops S oi v a → ∀ u, Asks P ops S oi v (a.put oj.dst u) := fun a hy u => hy.same (execOp_put oi hsi a oj.dst u h3) (wanted_put oi a oj.dst u h3)
  have keepD : ∀ d, Asks P ops S oi v { a with defers := d :: a.defers } := fun d => hy.same rfl rfl
  unfold wpOp at *
  simp only [hj] at *
  rw [wanted_put oj a oi.dst v h1] at h
  split
  · rename_i hw
    simp only [hw, if_true] at h
    rcases h with h | ⟨hasks, hlets⟩
    · refine .inl ?_
      unfold Oper.wp at *
      rw [execOp_put oj hsj a oi.dst v h1] at h
      generalize (execOp a.eval oj).run P w = r at *
      cases r with
      | ok n w' =>
        cases n <;> simp only [Oper.upon] at h ⊢
        case value u => exact ⟨keep a hy u, by rw [← Act.put_comm a v u h2]; exact h⟩
        case skip => exact ⟨keep a hy _, by rw [← Act.put_comm a v undef h2]; exact h⟩
        case defer d =>
          refine ⟨keep _ (keepD d) _, ?_⟩
          rw [← Act.put_comm _ v undef h2, ← Act.put_defers]
          exact h
        case enter f args =>
          refine Calls.mono h fun e w'' he => ?_
          cases e with
          | returned u => exact ⟨keep a hy u, by rw [← Act.put_comm a v u h2]; exact he⟩
          | panicked c => exact hQ _ _ _ he
          | outgrown => exact he
        case row row args => exact Rows.mono h fun u w'' he => ⟨keep a hy u, by rw [← Act.put_comm a v u h2]; exact he⟩
      | halt x w' =>
        cases x <;> simp only [Oper.upon] at h ⊢
        case panic u => exact hQ _ _ _ h
    · exact .inr ⟨by unfold Oper.asks at *; rw [execOp_put oj hsj a oi.dst v h1] at hasks; exact hasks, hlets⟩
  · rename_i hw
    simp only [hw] at h
    exact ⟨keep a hy _, by rw [← Act.put_comm a v undef h2]; exact h⟩

theorem asks_first {i : Nat} {oi : Oper} {v : Value} (hi : ops[i]? = some oi) (hsel : ∀ (j : Nat) (o : Oper) cs b, ops[j]? = some o → o.op ≠ .select cs b) (hQ : ∀ c a w, Q (.panic c) (a.put oi.dst v) w → Q (.panic c) a w) :
    ∀ (fuel : Nat) (listed : Array Bool) (a : Act) (w : World),
      (∀ j oj, ops[j]? = some oj → j ≠ i → listed.getD j true = false → (∀ e ∈ oj.after, Region.binds md e = true → e.on ≠ i) → oi.apart ops oj = true) →
      i ∈ Region.ready md ops listed → Asks P ops S oi v a → S w →
      wpAnyH P md ops Q S fuel (listed.setIfInBounds i true) (a.put oi.dst v) w → wpAnyH P md ops Q S (fuel + 1) listed a w := by
  intro fuel
  induction fuel with
  | zero =>
    intro listed a w _ hr hy hS H
    refine ⟨fun h => (by rw [h] at hr; cases hr), fun j hj => ?_⟩
    by_cases hji : j = i
    · subst hji; exact hy.op hi hS ⟨hS, H⟩
    · have := ready_mono hj hji
      rw [H.1] at this
      cases this
  | succ fuel ih =>
    intro listed a w hfree hr hy hS H
    refine ⟨fun h => (by rw [h] at hr; cases hr), fun j hj => ?_⟩
    by_cases hji : j = i
    · subst hji; exact hy.op hi hS ⟨hS, H⟩
    · have h1 := H.2 j (ready_mono hj hji)
      obtain ⟨hjun, oj, hoj, hall⟩ := mem_ready.1 hj
      have hnot : ∀ e ∈ oj.after, Region.binds md e = true → e.on ≠ i := fun e he hb heq => by
        have h1 := hall e he hb
        have h0 := (mem_ready.1 hr).1
        rw [heq] at h1
        rcases Nat.lt_or_ge i listed.size with h' | h'
        · simp [h'] at h0 h1; rw [h0] at h1; cases h1
        · simp [Array.getElem?_eq_none h'] at h1
      have h2 := asks_put hoj (hfree j oj hoj hji hjun hnot) (fun cs b => hsel i oi cs b hi) (fun cs b => hsel j oj cs b hoj) hQ hy h1
      have hfree' : ∀ k ok, ops[k]? = some ok → k ≠ i → (listed.setIfInBounds j true).getD k true = false → (∀ e ∈ ok.after, Region.binds md e = true → e.on ≠ i) → oi.apart ops ok = true := fun k ok hk hki hun hno => by
        refine hfree k ok hk hki ?_ hno
        by_cases hjk : j = k
        · subst hjk; exact hjun
        · rw [getD_set_ne true hjk] at hun; exact hun
      refine wpOp_mono (fun a' w' h3 => ⟨h3.2.1, ih (listed.setIfInBounds j true) a' w' hfree' (ready_mono hr (Ne.symm hji)) h3.1 h3.2.1 ?_⟩) h2
      rw [Array.setIfInBounds_comm _ _ hji]
      exact h3.2.2

/-- A call taken first. -/
theorem anyH_call {i d : Nat} {oi : Oper} {v : Value} {fuel : Nat} {listed : Array Bool} {a : Act} {w : World} (hi : ops[i]? = some oi) (hd : oi.dst = some d)
    (hs : Region.noSelect ops = true) (hf : Region.free md ops listed i = true) (hr : (Region.ready md ops listed).contains i = true)
    (hQ : ∀ c a w, Q (.panic c) (a.put oi.dst v) w → Q (.panic c) a w) (hy : Asks P ops S oi v a) (hS : S w)
    (h : wpAnyH P md ops Q S fuel (listed.setIfInBounds i true) { a with tmps := a.tmps.setIfInBounds d v } w) : wpAnyH P md ops Q S (fuel + 1) listed a w :=
  asks_first hi (Region.noSelect_spec hs) hQ fuel listed a w (Region.free_spec hi hf) (by simpa using hr) hy hS (by unfold Act.put; rw [hd]; exact h)

theorem op_storeE {i : Nat} {oi : Oper} {a : Act} {w wS : World} {K : Act → World → Prop} (hi : ops[i]? = some oi) (hd : oi.dst = none) (hgd : oi.guard = none) (ty : TypeId) (x y : Operand) (ho : oi.op = .store ty x y)
    (b off : Nat) (F : List Value) (hx : a.eval x = .pointer (some ⟨b, off, none⟩)) (hy : a.eval y = .agg F.toArray) (ht : w.there b off F.toArray.size) (hn : (P.info? ty).map (·.size) = some F.toArray.size) (h1 : F.toArray.all (·.oneCell') = true)
    (e : w.setCells b off F = wS) (h : K a wS) : wpOp P ops Q i K a w := by
  subst e
  exact op_store hi hd hgd ty x y ho b off F.toArray hx hy ht hn h1 h

end

end Go.Proofs.YtfaeechidjpjbaaGreat

namespace Go.Proofs.YtfaeechidjpjbaaGreat

open Go.RowKit Go.Maps

set_option linter.unusedVariables false

section

variable {w : World} {base g n c size : Nat} {e : TypeId} {xs : List Value}

theorem row_put (vs : List Value) : ∀ {w : World} {o : Nat} {xs : List Value}, w.ownsRow base e size (.slice (some ⟨g, 0, none⟩) n c) n xs → o + vs.length ≤ xs.length →
    (w.setCells g o vs).ownsRow base e size (.slice (some ⟨g, 0, none⟩) n c) n (xs.take o ++ vs ++ xs.drop (o + vs.length)) := by
  induction vs with
  | nil => intro w o xs h hl; simpa [World.setCells] using h
  | cons v vs ih =>
    intro w o xs h hl
    have hl' : o + 1 + vs.length ≤ xs.length := by simp at hl; omega
    have := ih (w := w.setCell ⟨g, o, none⟩ v) (o := o + 1) (xs := xs.set o v) (World.ownsRow.stored h o v).1 (by rw [List.length_set]; exact hl')
    rw [World.setCells]
    have e1 : (xs.set o v).take (o + 1) = xs.take o ++ [v] := by
      rw [List.take_succ_eq_append_getElem (by rw [List.length_set]; omega), List.take_set_of_le (by omega), List.getElem_set_self]
    have e2 : (xs.set o v).drop (o + 1 + vs.length) = xs.drop (o + (v :: vs).length) := by
      rw [List.drop_set_of_lt (by omega), List.length_cons]; congr 1; omega
    rw [e1, e2] at this
    simpa using this

theorem row_there (h : w.ownsRow base e size (.slice (some ⟨g, 0, none⟩) n c) n xs) {o k : Nat} (hk : o + k ≤ xs.length) : w.there g o k := by
  intro j hj
  have hlt : o + j < n * size := by have := h.1; omega
  exact ⟨by rw [World.ownsRow.cellAt h (o + j) hlt, List.getElem?_eq_getElem (by omega)]; rfl, World.ownsRow.frozenAt h _⟩

theorem row_lt (h : w.ownsRow base e size (.slice (some ⟨g, 0, none⟩) n c) n xs) : g < w.heap.size := (World.ownsRow.lt h g rfl).2

theorem row_out {S : Nat → Prop} {w' : World} (h : w.ownsRow base e size (.slice (some ⟨g, 0, none⟩) n c) n xs) (ho : Out S w w') (hn : ¬ S g) : w'.ownsRow base e size (.slice (some ⟨g, 0, none⟩) n c) n xs :=
  row_stay h fun b cs hb _ => by
    simp [Value.ownBlock] at hb
    subst hb
    exact ho.block _ (row_lt h) hn

end

/-! ### Many inputs -/

def noteAll (s : Bk) (ls : List (List UInt8)) : Bk := ls.foldl stepL s

theorem noteAll_append (s : Bk) (a b : List (List UInt8)) : noteAll s (a ++ b) = noteAll (noteAll s a) b := List.foldl_append

theorem noteAll_snoc (s : Bk) (a : List (List UInt8)) (x : List UInt8) : noteAll s (a ++ [x]) = stepL (noteAll s a) x := by rw [noteAll_append]; rfl

theorem noteAll_len (s : Bk) (ls : List (List UInt8)) : (noteAll s ls).1.length ≤ s.1.length + ls.length ∧ (noteAll s ls).2.2 ≤ s.2.2 + ls.length := by
  induction ls generalizing s with
  | nil => exact ⟨Nat.le_refl _, Nat.le_refl _⟩
  | cons x ls ih =>
    have h1 := stepL_len s x
    have h2 := ih (stepL s x)
    simp only [noteAll, List.foldl_cons, List.length_cons] at *
    omega

theorem noteAll_take (s : Bk) (ls : List (List UInt8)) {k : Nat} (hk : k < ls.length) : noteAll s (ls.take (k + 1)) = stepL (noteAll s (ls.take k)) ls[k] := by
  rw [List.take_succ_eq_append_getElem hk, noteAll_snoc]

theorem Out.tn {B m : Nat} {w w1 w2 : World} {N N1 : Nat → Prop} (h : Out (Tn B m w N) w w1) (k : Out (Tn B m w1 N1) w1 w2) (hN : ∀ i, i < w.heap.size → N i → N1 i) : Out (Tn B m w N) w w2 :=
  h.trans k fun i hi hs => by
    by_cases ht : Tn B m w N i
    · exact ht
    · refine ⟨hs.1, fun e => hs.2.1 (hN i hi e), ?_⟩
      rcases hs.2.2 with e | ⟨cs, t, fr, hc⟩
      · exact .inl e
      · exact .inr ⟨cs, t, fr, (h.block i hi ht).symm.trans hc⟩

theorem Out.tnBelow {B m : Nat} {w w1 : World} {N : Nat → Prop} (h : Below w.heap.size w w1) : Out (Tn B m w N) w w1 := Out.ofBelow _ h

/-- A store into a block that is new since w. -/
theorem Out.store {S : Nat → Prop} {a w : World} {x : Nat} (h : Out S a w) (hx : a.heap.size ≤ x) (o : Nat) (vs : List Value) : Out S a (w.setCells x o vs) := Out.setCells hx vs h

theorem Kb.store {B g m : Nat} {w : World} {s : Bk} {N : Nat → Prop} (h : Kb B w g m s N) {x : Nat} (hx : N x) (o : Nat) (vs : List Value) : Kb B (w.setCells x o vs) g m s N :=
  h.other (by rw [size_cells3]; exact Nat.le_refl _) (fun i hi hn => block_setCells (fun e => hn (by rw [e]; exact hx)) vs) fun i hi => .inl hi

theorem Kb.drew9 {B g m : Nat} {w : World} {s : Bk} {N : Nat → Prop} (h : Kb B w g m s N) : Kb B w.drew g m s N := h.below ((Below.refl _ _).drew)

theorem Out.drew9 {S : Nat → Prop} {a w : World} (h : Out S a w) : Out S a w.drew := ⟨h.os, h.tape, h.output, h.size, h.block⟩

theorem Out.cellK {B m : Nat} {a w' : World} {N : Nat → Prop} {i o : Nat} {v : Value} (h : Out (Tn B m a N) a w') (hi : N i) (hc : a.cell? ⟨i, o, none⟩ = some v) : w'.cell? ⟨i, o, none⟩ = some v :=
  (World.cell?_of_block (h.block i (World.block_lt_of_cell? a _ hc) (Tn.keep hi))).trans hc

/-! ### What gives the leaves -/

/-- The call of function F on i answers a slice that shows x, as long as what K tells stands as it stands in w0. -/
def Stays (K : Nat → Prop) (w0 w : World) : Prop := w0.heap.size ≤ w.heap.size ∧ ∀ j, K j → w.heap[j]? = w0.heap[j]?

theorem Stays.out {K S : Nat → Prop} {w0 w w' : World} (h : Stays K w0 w) (hK : ∀ j, K j → j < w0.heap.size ∧ ¬ S j) (ho : Out S w w') : Stays K w0 w' :=
  ⟨Nat.le_trans h.1 ho.size, fun j hj => (ho.block j (Nat.lt_of_lt_of_le (hK j hj).1 h.1) (hK j hj).2).trans (h.2 j hj)⟩

theorem Stays.refl (K : Nat → Prop) (w : World) : Stays K w w := ⟨Nat.le_refl _, fun _ _ => rfl⟩

theorem Stays.trans {K : Nat → Prop} {a b c : World} (h : Stays K a b) (k : Stays K b c) : Stays K a c := ⟨Nat.le_trans h.1 k.1, fun j hj => (k.2 j hj).trans (h.2 j hj)⟩

def LeafAt (F : Nat) (caps : List Value) (w0 : World) (K : Nat → Prop) (ls : List (List UInt8)) : Prop :=
  ∀ w', Stays K w0 w' → ∀ (i : Nat) (hi : i < ls.length), ∃ A c, Calls Tryz.prog F (Value.int .i64 (i : Int) :: caps).toArray w' (fun e w'' => e = .returned (.slice A ls[i].length c) ∧ w'' = w') ∧ Bs w' A ls[i] ∧ ls[i].length ≤ c ∧ c ≤ maxLen

end Go.Proofs.YtfaeechidjpjbaaGreat

namespace Go.Proofs.YtfaeechidjpjbaaGreat

open Go.RowKit

set_option linter.unusedVariables false

set_option maxRecDepth 100000 in
set_option maxHeartbeats 1600000 in
theorem slow9 (b off : Nat) (pm pd pe : Addr) (C : World → Prop) (w : World)
    (h0 : w.cell? ⟨b, off, none⟩ = some (.int .u32 0)) (h1 : w.cell? ⟨b, off + 1, none⟩ = some (.int .i32 0))
    (f0 : w.frozen? ⟨b, off, none⟩ = false) (f1 : w.frozen? ⟨b, off + 1, none⟩ = false)
    (hclo : Calls Tryz.prog 137 #[.pointer (some pm), .pointer (some pd), .pointer (some pe)] (w.setCell ⟨b, off + 1, none⟩ (.int .i32 1)) fun e w2 => e = .returned (.tuple #[]) ∧ C w2)
    (hC : ∀ w2, C w2 → w2.cell? ⟨b, off, none⟩ = some (.int .u32 0) ∧ w2.cell? ⟨b, off + 1, none⟩ = some (.int .i32 1) ∧ w2.frozen? ⟨b, off, none⟩ = false ∧ w2.frozen? ⟨b, off + 1, none⟩ = false) :
    Calls Tryz.prog 143 #[.pointer (some ⟨b, off, none⟩), .func (.func 137) #[] #[.pointer (some pm), .pointer (some pd), .pointer (some pe)]] w (SlowPost b off C) := by
  have hl := run_call_load (P := Tryz.prog) Tryz.func151 (by kernel_rfl) (by kernel_rfl) (by kernel_rfl) .u32 (by kernel_rfl) (w := w.setCell ⟨b, off + 1, none⟩ (.int .i32 1)) (a := ⟨b, off, none⟩) (x := 0) ((World.cell?_setCell_other _ ⟨b, off + 1, none⟩ ⟨b, off, none⟩ _ (by simp)).trans h0)
  have hnot : ∀ (x : Bool) (w : World), (Op.unary .not (.bool x)).run Tryz.prog w = .ok (.bool (!x)) w := fun _ _ => rfl
  have Hclo := Lib.hid hclo
  have HC := Lib.hid hC
  clear hclo hC
  go_enter_defers Tryz.func143, Tryz.ntmps143
  go_wp2_with (go_at_call 152; refine (lock_free ⟨b, off + 1, none⟩ _ (by go_simp) (by go_simp)).mono ?_; rintro e w' ⟨rfl, rfl⟩)
  go_wp2_with (first | (go_at_call 137; refine Hclo.out.mono ?_; rintro e w2 ⟨rfl, hC2⟩) | (go_at_call 142; go_in))
  obtain ⟨x0, x1, y0, y1⟩ := HC.out _ hC2
  refine leaves_cons (f := 154) (args := #[.pointer (some ⟨b, off, none⟩), .bool true]) (by simp) (by simp [go_sem]) ?_
  refine (store_deferred ⟨b, off, none⟩ (.int .u32 0) .returning _ x0 y0).mono ?_
  rintro e u' w'' ⟨rfl, rfl, rfl⟩
  refine leaves_cons (f := 153) (args := #[.pointer (some ⟨b, off + 1, none⟩)]) (by simp [settle]) (by simp [go_sem]) ?_
  refine (unlock_deferred ⟨b, off + 1, none⟩ _ _ ?_ (by simp [y1])).mono ?_
  · exact (World.cell?_setCell_other _ ⟨b, off, none⟩ ⟨b, off + 1, none⟩ _ (by simp)).trans x1
  rintro e u' w'' ⟨rfl, rfl, rfl⟩
  have hC3 := Lib.hid hC2
  clear hC2
  simp [Leaves, settle, results, Tryz.results143]
  exact ⟨rfl, _, hC3.out, rfl⟩

set_option maxRecDepth 100000 in
set_option maxHeartbeats 1600000 in
/-- '(*sync.Once).Do', not yet done, the lock free. -/
theorem do9 (b off : Nat) (pm pd pe : Addr) (C : World → Prop) (w : World)
    (h0 : w.cell? ⟨b, off, none⟩ = some (.int .u32 0)) (h1 : w.cell? ⟨b, off + 1, none⟩ = some (.int .i32 0))
    (f0 : w.frozen? ⟨b, off, none⟩ = false) (f1 : w.frozen? ⟨b, off + 1, none⟩ = false)
    (hclo : Calls Tryz.prog 137 #[.pointer (some pm), .pointer (some pd), .pointer (some pe)] (w.setCell ⟨b, off + 1, none⟩ (.int .i32 1)) fun e w2 => e = .returned (.tuple #[]) ∧ C w2)
    (hC : ∀ w2, C w2 → w2.cell? ⟨b, off, none⟩ = some (.int .u32 0) ∧ w2.cell? ⟨b, off + 1, none⟩ = some (.int .i32 1) ∧ w2.frozen? ⟨b, off, none⟩ = false ∧ w2.frozen? ⟨b, off + 1, none⟩ = false) :
    Calls Tryz.prog 136 #[.pointer (some ⟨b, off, none⟩), .func (.func 137) #[] #[.pointer (some pm), .pointer (some pd), .pointer (some pe)]] w (SlowPost b off C) := by
  have hl := run_call_load (P := Tryz.prog) Tryz.func151 (by kernel_rfl) (by kernel_rfl) (by kernel_rfl) .u32 (by kernel_rfl) h0
  have hnot : ∀ (x : Bool) (w : World), (Op.unary .not (.bool x)).run Tryz.prog w = .ok (.bool (!x)) w := fun _ _ => rfl
  have Hs := Lib.hid (slow9 b off pm pd pe C w h0 h1 f0 f1 hclo hC)
  clear hclo hC
  go_enter Tryz.func136, Tryz.ntmps136
  go_wp2_with (first | (go_at_call 143; refine Hs.out.mono ?_; rintro e w' ⟨rfl, hC⟩) | (go_at_call 142; go_in))
  go_end0
  exact ⟨rfl, hC⟩

end Go.Proofs.YtfaeechidjpjbaaGreat

namespace Go.Proofs.YtfaeechidjpjbaaGreat

open Go.RowKit Go.Maps

set_option linter.unusedVariables false

/-- A level's blocks: the once, what makes it, its digests, its error, what is captured; 'lo': none lies below. -/
structure Lv where
  p : Nat
  m : Nat
  d : Nat
  e : Nat
  x : Nat
  y : Nat
  z : Nat

def ptr (b : Nat) : Value := .pointer (some ⟨b, 0, none⟩)

def fnOf (l : Lv) : Value := .func (.func 135) #[] #[ptr l.p, ptr l.m, ptr l.d, ptr l.e]

def once0 : List Value := [.int .u32 0, .int .i32 0, .int .u32 0]

def once1 : List Value := [.int .u32 1, .int .i32 0, .int .u32 0]

theorem fnOf_one (l : Lv) : (fnOf l).oneCell' = true := rfl

/-- A level that is not asked yet; 'mk': what makes it. -/
structure Un (w : World) (l : Lv) (mk : Value) : Prop where
  p : Blk w l.p 173 once0
  m : Blk w l.m 147 [mk]
  d : Blk w l.d 144 [.slice none 0 0]
  e : Blk w l.e 26 [.int .i64 0]

/-- A level that is: its digests are ds. -/
structure Dn (w : World) (l : Lv) (r c : Nat) (ds : List Dg) : Prop where
  p : Blk w l.p 173 once1
  d : Blk w l.d 144 [.slice (some ⟨r, 0, none⟩) ds.length c]
  e : Blk w l.e 26 [.int .i64 0]
  row : w.ownsRow 0 59 32 (.slice (some ⟨r, 0, none⟩) ds.length c) ds.length (cbs ds.flatten)

/-- The blocks that turn when a level is asked. -/
def Lv.turn (l : Lv) (i : Nat) : Prop := i = l.p ∨ i = l.d ∨ i = l.e

theorem Un.stay {w w' : World} {l : Lv} {mk : Value} (h : Un w l mk) (h1 : w'.heap[l.p]? = w.heap[l.p]?) (h2 : w'.heap[l.m]? = w.heap[l.m]?) (h3 : w'.heap[l.d]? = w.heap[l.d]?) (h4 : w'.heap[l.e]? = w.heap[l.e]?) : Un w' l mk :=
  ⟨h1.trans h.p, h2.trans h.m, h3.trans h.d, h4.trans h.e⟩

theorem Dn.stay {w w' : World} {l : Lv} {r c : Nat} {ds : List Dg} (h : Dn w l r c ds) (h1 : w'.heap[l.p]? = w.heap[l.p]?) (h3 : w'.heap[l.d]? = w.heap[l.d]?) (h4 : w'.heap[l.e]? = w.heap[l.e]?) (h5 : w'.heap[r]? = w.heap[r]?) : Dn w' l r c ds :=
  ⟨h1.trans h.p, h3.trans h.d, h4.trans h.e, row_stay h.row fun b cs hb _ => by
    simp [Value.ownBlock] at hb
    subst hb
    exact h5⟩

theorem Dn.ds {w : World} {l : Lv} {r c : Nat} {ds : List Dg} (h : Dn w l r c ds) : Ds w (some ⟨r, 0, none⟩) ds := Shows.ofOwn h.row

set_option maxRecDepth 100000 in
set_option maxHeartbeats 800000 in
/-- A level that was asked already answers what it has. -/
theorem ask_done (l : Lv) (r c : Nat) (ds : List Dg) (w : World) (h : Dn w l r c ds) :
    Calls Tryz.prog 135 #[ptr l.p, ptr l.m, ptr l.d, ptr l.e] w fun e w' => e = .returned (.tuple #[.slice (some ⟨r, 0, none⟩) ds.length c, .int .i64 0]) ∧ ∃ k, w' = w.drewN k := by
  have h0 : w.cell? ⟨l.p, 0, none⟩ = some (.int .u32 1) := h.p.cell rfl
  have hd : w.cell? ⟨l.d, 0, none⟩ = some (.slice (some ⟨r, 0, none⟩) ds.length c) := h.d.cell rfl
  have he : w.cell? ⟨l.e, 0, none⟩ = some (.int .i64 0) := h.e.cell rfl
  have Hd := fun fv => Lib.hid (do_done ⟨l.p, 0, none⟩ fv w h0)
  clear h h0
  unfold ptr
  go_enter Tryz.func135, Tryz.ntmps135
  go_wp2_with (go_at_call 136; refine (Hd _).out.mono ?_; rintro e w' ⟨rfl, rfl⟩)
  go_quiet (fail)
  go_wp2
  go_ret2
  exact ⟨rfl, _, rfl⟩

end Go.Proofs.YtfaeechidjpjbaaGreat

namespace Go.Proofs.YtfaeechidjpjbaaGreat

open Go.RowKit Go.Maps

set_option linter.unusedVariables false

theorem Blk.ne {w : World} {a b : Nat} {t u : TypeId} {l k : List Value} (h : Blk w a t l) (h' : Blk w b u k) (ht : t ≠ u) : a ≠ b := by
  rintro rfl
  unfold Blk at h h'
  rw [h] at h'
  injection h' with e
  injection e with _ e
  exact ht e

/-- What stands when a level has been made, ahead of the stores. -/
structure Mid (l : Lv) (w1 : World) : Prop where
  p : Blk w1 l.p 173 [.int .u32 0, .int .i32 1, .int .u32 0]
  d : Blk w1 l.d 144 [.slice none 0 0]
  e : Blk w1 l.e 26 [.int .i64 0]

def Made9 (l : Lv) (Q : Nat → Nat → Nat → World → Prop) (e : Ending) (w1 : World) : Prop :=
  ∃ r n c, e = .returned (.tuple #[.slice (some ⟨r, 0, none⟩) n c, .int .i64 0]) ∧ Mid l w1 ∧ Q r n c w1

def Kept9 (l : Lv) (Q : Nat → Nat → Nat → World → Prop) (e : Ending) (w' : World) : Prop :=
  e = .returned (.tuple #[]) ∧ ∃ r n c w1, Mid l w1 ∧ Q r n c w1 ∧ w' = (w1.setCell ⟨l.d, 0, none⟩ (.slice (some ⟨r, 0, none⟩) n c)).setCell ⟨l.e, 0, none⟩ (.int .i64 0)

/-- Behind the asking. -/
def Asked9 (l : Lv) (Q : Nat → Nat → Nat → World → Prop) (e : Ending) (w' : World) : Prop :=
  ∃ r n c w1, e = .returned (.tuple #[.slice (some ⟨r, 0, none⟩) n c, .int .i64 0]) ∧ Q r n c w1 ∧ Mid l w1 ∧ Blk w' l.p 173 once1 ∧ Blk w' l.d 144 [.slice (some ⟨r, 0, none⟩) n c] ∧ Blk w' l.e 26 [.int .i64 0] ∧ Out l.turn w1 w' ∧ w'.heap.size = w1.heap.size

def mkB (l : Lv) : Value := .func (.func 125) #[] #[ptr l.x, ptr l.y, ptr l.z]

set_option maxRecDepth 100000 in
set_option maxHeartbeats 800000 in
theorem keepB (l : Lv) (Q : Nat → Nat → Nat → World → Prop) (w : World) (hm : w.cell? ⟨l.m, 0, none⟩ = some (mkB l)) (hcall : Calls Tryz.prog 125 #[.pointer (some ⟨l.x, 0, none⟩), .pointer (some ⟨l.y, 0, none⟩), .pointer (some ⟨l.z, 0, none⟩)] w (Made9 l Q)) :
    Calls Tryz.prog 137 #[.pointer (some ⟨l.m, 0, none⟩), .pointer (some ⟨l.d, 0, none⟩), .pointer (some ⟨l.e, 0, none⟩)] w (Kept9 l Q) := by
  unfold mkB ptr at hm
  have Hc := Lib.hid hcall
  clear hcall
  go_enter Tryz.func137, Tryz.ntmps137
  go_wp2_with fail
  refine Hc.out.mono ?_
  rintro e w1 ⟨r, n, c, rfl, hM, hQ⟩
  have cd := hM.d.cell (i := 0) rfl
  have fd := hM.d.free 0
  have ce := hM.e.cell (i := 0) rfl
  have fe := hM.e.free 0
  have hne : l.d ≠ l.e := hM.d.ne hM.e (by decide)
  have H := Lib.hid (And.intro hM hQ)
  clear hM hQ
  go_wp2
  go_end0
  exact ⟨rfl, r, n, c, w1, H.out.1, H.out.2, rfl⟩

set_option maxRecDepth 100000 in
set_option maxHeartbeats 800000 in
theorem askB (l : Lv) (Q : Nat → Nat → Nat → World → Prop) (w : World) (h : Un w l (mkB l)) (hcall : Calls Tryz.prog 125 #[.pointer (some ⟨l.x, 0, none⟩), .pointer (some ⟨l.y, 0, none⟩), .pointer (some ⟨l.z, 0, none⟩)] (w.setCell ⟨l.p, 1, none⟩ (.int .i32 1)) (Made9 l Q)) :
    Calls Tryz.prog 135 #[ptr l.p, ptr l.m, ptr l.d, ptr l.e] w (Asked9 l Q) := by
  have hpm : l.m ≠ l.p := h.m.ne h.p (by decide)
  have hk := keepB l Q _ ((h.m.far (p := ⟨l.p, 1, none⟩) hpm (.int .i32 1)).cell rfl) hcall
  have hdo := do9 l.p 0 ⟨l.m, 0, none⟩ ⟨l.d, 0, none⟩ ⟨l.e, 0, none⟩ (fun w2 => Kept9 l Q (.returned (.tuple #[])) w2) w (h.p.cell rfl) (h.p.cell rfl) (h.p.free 0) (h.p.free 1)
    (hk.mono fun e w2 hk => ⟨hk.1, by obtain ⟨rfl, hk⟩ := hk; exact ⟨rfl, hk⟩⟩)
    (fun w2 hk => by
      obtain ⟨_, r, n, c, w1, hM, _, rfl⟩ := hk
      have hp := (hM.p.far (p := ⟨l.d, 0, none⟩) (hM.p.ne hM.d (by decide)) (.slice (some ⟨r, 0, none⟩) n c)).far (p := ⟨l.e, 0, none⟩) (hM.p.ne hM.e (by decide)) (.int .i64 0)
      exact ⟨hp.cell rfl, hp.cell rfl, hp.free 0, hp.free 1⟩)
  have Hdo := Lib.hid hdo
  clear hdo hk hcall h hpm
  unfold ptr
  go_enter Tryz.func135, Tryz.ntmps135
  go_wp2_with (go_at_call 136; refine Hdo.out.mono ?_; rintro e w' ⟨rfl, w2, ⟨_, r, n, c, w1, hM, hQ, rfl⟩, rfl⟩)
  have hpd : l.p ≠ l.d := hM.p.ne hM.d (by decide)
  have hpe : l.p ≠ l.e := hM.p.ne hM.e (by decide)
  have hde : l.d ≠ l.e := hM.d.ne hM.e (by decide)
  obtain ⟨wf, hwf⟩ : ∃ wf, (((((w1.setCell ⟨l.d, 0, none⟩ (.slice (some ⟨r, 0, none⟩) n c)).setCell ⟨l.e, 0, none⟩ (.int .i64 0)).setCell ⟨l.p, 0, none⟩ (.int .u32 1)).setCell ⟨l.p, 1, none⟩ (.int .i32 0)).drew) = wf := ⟨_, rfl⟩
  have hd : Blk wf l.d 144 [.slice (some ⟨r, 0, none⟩) n c] := by
    rw [← hwf]
    have h1 := ((hM.d.set_ 0 (.slice (some ⟨r, 0, none⟩) n c)).far (p := ⟨l.e, 0, none⟩) hde (.int .i64 0))
    exact (Blk.far (Blk.far h1 (p := ⟨l.p, 0, none⟩) (fun e => hpd e.symm) _) (p := ⟨l.p, 1, none⟩) (fun e => hpd e.symm) _)
  have he : Blk wf l.e 26 [.int .i64 0] := by
    rw [← hwf]
    have h1 := ((hM.e.far (p := ⟨l.d, 0, none⟩) (fun e => hde e.symm) (.slice (some ⟨r, 0, none⟩) n c)).set_ 0 (.int .i64 0))
    exact (Blk.far (Blk.far h1 (p := ⟨l.p, 0, none⟩) (fun e => hpe e.symm) _) (p := ⟨l.p, 1, none⟩) (fun e => hpe e.symm) _)
  have hp : Blk wf l.p 173 once1 := by
    rw [← hwf]
    have h1 := ((hM.p.far (p := ⟨l.d, 0, none⟩) hpd (.slice (some ⟨r, 0, none⟩) n c)).far (p := ⟨l.e, 0, none⟩) hpe (.int .i64 0))
    exact (Blk.set_ (Blk.set_ h1 0 (.int .u32 1)) (1) (.int .i32 0))
  have ho : Out l.turn w1 wf := by
    rw [← hwf]
    exact Out.drewN (Out.setCell (p := ⟨l.p, 1, none⟩) (Out.setCell (p := ⟨l.p, 0, none⟩) (Out.setCell (p := ⟨l.e, 0, none⟩) (Out.setCell (p := ⟨l.d, 0, none⟩) (Out.refl _ _) (fun _ => .inr (.inl rfl)) _) (fun _ => .inr (.inr rfl)) _) (fun _ => .inl rfl) _) (fun _ => .inl rfl) _) 1
  have hz : wf.heap.size = w1.heap.size := by rw [← hwf]; simp [World.setCell, World.drew]
  have cd : wf.cell? ⟨l.d, 0, none⟩ = some (.slice (some ⟨r, 0, none⟩) n c) := hd.cell rfl
  have ce : wf.cell? ⟨l.e, 0, none⟩ = some (.int .i64 0) := he.cell rfl
  rw [hwf]
  have H := Lib.hid (And.intro hQ (And.intro hM (And.intro hp (And.intro hd (And.intro he (And.intro ho hz))))))
  clear hQ hM hp hd he ho hz hwf hpd hpe hde
  go_quiet (fail)
  go_wp2
  go_ret2
  obtain ⟨hQ, hM, hp, hd, he, ho, hz⟩ := H.out
  exact ⟨r, n, c, w1, rfl, hQ, hM, hp, hd, he, ho.drewN _, hz⟩

def mkA (l : Lv) : Value := .func (.func 127) #[] #[ptr l.x, ptr l.y]

set_option maxRecDepth 100000 in
set_option maxHeartbeats 800000 in
theorem keepA (l : Lv) (Q : Nat → Nat → Nat → World → Prop) (w : World) (hm : w.cell? ⟨l.m, 0, none⟩ = some (mkA l)) (hcall : Calls Tryz.prog 127 #[.pointer (some ⟨l.x, 0, none⟩), .pointer (some ⟨l.y, 0, none⟩)] w (Made9 l Q)) :
    Calls Tryz.prog 137 #[.pointer (some ⟨l.m, 0, none⟩), .pointer (some ⟨l.d, 0, none⟩), .pointer (some ⟨l.e, 0, none⟩)] w (Kept9 l Q) := by
  unfold mkA ptr at hm
  have Hc := Lib.hid hcall
  clear hcall
  go_enter Tryz.func137, Tryz.ntmps137
  go_wp2_with fail
  refine Hc.out.mono ?_
  rintro e w1 ⟨r, n, c, rfl, hM, hQ⟩
  have cd := hM.d.cell (i := 0) rfl
  have fd := hM.d.free 0
  have ce := hM.e.cell (i := 0) rfl
  have fe := hM.e.free 0
  have hne : l.d ≠ l.e := hM.d.ne hM.e (by decide)
  have H := Lib.hid (And.intro hM hQ)
  clear hM hQ
  go_wp2
  go_end0
  exact ⟨rfl, r, n, c, w1, H.out.1, H.out.2, rfl⟩

set_option maxRecDepth 100000 in
set_option maxHeartbeats 800000 in
theorem askA (l : Lv) (Q : Nat → Nat → Nat → World → Prop) (w : World) (h : Un w l (mkA l)) (hcall : Calls Tryz.prog 127 #[.pointer (some ⟨l.x, 0, none⟩), .pointer (some ⟨l.y, 0, none⟩)] (w.setCell ⟨l.p, 1, none⟩ (.int .i32 1)) (Made9 l Q)) :
    Calls Tryz.prog 135 #[ptr l.p, ptr l.m, ptr l.d, ptr l.e] w (Asked9 l Q) := by
  have hpm : l.m ≠ l.p := h.m.ne h.p (by decide)
  have hk := keepA l Q _ ((h.m.far (p := ⟨l.p, 1, none⟩) hpm (.int .i32 1)).cell rfl) hcall
  have hdo := do9 l.p 0 ⟨l.m, 0, none⟩ ⟨l.d, 0, none⟩ ⟨l.e, 0, none⟩ (fun w2 => Kept9 l Q (.returned (.tuple #[])) w2) w (h.p.cell rfl) (h.p.cell rfl) (h.p.free 0) (h.p.free 1)
    (hk.mono fun e w2 hk => ⟨hk.1, by obtain ⟨rfl, hk⟩ := hk; exact ⟨rfl, hk⟩⟩)
    (fun w2 hk => by
      obtain ⟨_, r, n, c, w1, hM, _, rfl⟩ := hk
      have hp := (hM.p.far (p := ⟨l.d, 0, none⟩) (hM.p.ne hM.d (by decide)) (.slice (some ⟨r, 0, none⟩) n c)).far (p := ⟨l.e, 0, none⟩) (hM.p.ne hM.e (by decide)) (.int .i64 0)
      exact ⟨hp.cell rfl, hp.cell rfl, hp.free 0, hp.free 1⟩)
  have Hdo := Lib.hid hdo
  clear hdo hk hcall h hpm
  unfold ptr
  go_enter Tryz.func135, Tryz.ntmps135
  go_wp2_with (go_at_call 136; refine Hdo.out.mono ?_; rintro e w' ⟨rfl, w2, ⟨_, r, n, c, w1, hM, hQ, rfl⟩, rfl⟩)
  have hpd : l.p ≠ l.d := hM.p.ne hM.d (by decide)
  have hpe : l.p ≠ l.e := hM.p.ne hM.e (by decide)
  have hde : l.d ≠ l.e := hM.d.ne hM.e (by decide)
  obtain ⟨wf, hwf⟩ : ∃ wf, (((((w1.setCell ⟨l.d, 0, none⟩ (.slice (some ⟨r, 0, none⟩) n c)).setCell ⟨l.e, 0, none⟩ (.int .i64 0)).setCell ⟨l.p, 0, none⟩ (.int .u32 1)).setCell ⟨l.p, 1, none⟩ (.int .i32 0)).drew) = wf := ⟨_, rfl⟩
  have hd : Blk wf l.d 144 [.slice (some ⟨r, 0, none⟩) n c] := by
    rw [← hwf]
    have h1 := ((hM.d.set_ 0 (.slice (some ⟨r, 0, none⟩) n c)).far (p := ⟨l.e, 0, none⟩) hde (.int .i64 0))
    exact (Blk.far (Blk.far h1 (p := ⟨l.p, 0, none⟩) (fun e => hpd e.symm) _) (p := ⟨l.p, 1, none⟩) (fun e => hpd e.symm) _)
  have he : Blk wf l.e 26 [.int .i64 0] := by
    rw [← hwf]
    have h1 := ((hM.e.far (p := ⟨l.d, 0, none⟩) (fun e => hde e.symm) (.slice (some ⟨r, 0, none⟩) n c)).set_ 0 (.int .i64 0))
    exact (Blk.far (Blk.far h1 (p := ⟨l.p, 0, none⟩) (fun e => hpe e.symm) _) (p := ⟨l.p, 1, none⟩) (fun e => hpe e.symm) _)
  have hp : Blk wf l.p 173 once1 := by
    rw [← hwf]
    have h1 := ((hM.p.far (p := ⟨l.d, 0, none⟩) hpd (.slice (some ⟨r, 0, none⟩) n c)).far (p := ⟨l.e, 0, none⟩) hpe (.int .i64 0))
    exact (Blk.set_ (Blk.set_ h1 0 (.int .u32 1)) (1) (.int .i32 0))
  have ho : Out l.turn w1 wf := by
    rw [← hwf]
    exact Out.drewN (Out.setCell (p := ⟨l.p, 1, none⟩) (Out.setCell (p := ⟨l.p, 0, none⟩) (Out.setCell (p := ⟨l.e, 0, none⟩) (Out.setCell (p := ⟨l.d, 0, none⟩) (Out.refl _ _) (fun _ => .inr (.inl rfl)) _) (fun _ => .inr (.inr rfl)) _) (fun _ => .inl rfl) _) (fun _ => .inl rfl) _) 1
  have hz : wf.heap.size = w1.heap.size := by rw [← hwf]; simp [World.setCell, World.drew]
  have cd : wf.cell? ⟨l.d, 0, none⟩ = some (.slice (some ⟨r, 0, none⟩) n c) := hd.cell rfl
  have ce : wf.cell? ⟨l.e, 0, none⟩ = some (.int .i64 0) := he.cell rfl
  rw [hwf]
  have H := Lib.hid (And.intro hQ (And.intro hM (And.intro hp (And.intro hd (And.intro he (And.intro ho hz))))))
  clear hQ hM hp hd he ho hz hwf hpd hpe hde
  go_quiet (fail)
  go_wp2
  go_ret2
  obtain ⟨hQ, hM, hp, hd, he, ho, hz⟩ := H.out
  exact ⟨r, n, c, w1, rfl, hQ, hM, hp, hd, he, ho.drewN _, hz⟩

end Go.Proofs.YtfaeechidjpjbaaGreat
