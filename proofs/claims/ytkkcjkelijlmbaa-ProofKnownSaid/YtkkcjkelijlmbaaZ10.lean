/-
  Laid together for a hand-in: Pile9, PileA9, Root9, First9, Tree9, New9.
-/
import Derived.Test.YtkkcjkelijlmbaaZ09
import Derived.Lib.AppendZeros

namespace Go.Proofs.Ytkkcjkelijlmbaa

open Go.RowKit Go.Maps

set_option linter.unusedVariables false

/-- Four blocks of a level, from b on. -/
def lvAt (b x y z : Nat) : Lv := ⟨b + 1, b, b + 2, b + 3, x, y, z⟩

def fnV (F : Nat) (cs : Array Value) : Value := .func (.func F) #[] cs

theorem once_any (F : Nat) (cs : Array Value) (x y z : Nat) (w : World) : Calls Try.prog 42 #[.func (.func F) #[] cs] w fun e w' =>
    e = .returned (fnOf (lvAt w.heap.size x y z)) ∧ Un w' (lvAt w.heap.size x y z) (.func (.func F) #[] cs) ∧ Below w.heap.size w w' ∧ w'.heap.size = w.heap.size + 4 := by
  go_enter Try.func42, Try.ntmps42
  go_wp2
  go_ret
  have h1 : Blk (w.alloc (.cells #[.func (.func F) #[] cs] 70)) w.heap.size 70 [.func (.func F) #[] cs] := Blk.new rfl rfl
  refine ⟨?_, ⟨?_, ?_, ?_, ?_⟩, ?_, ?_⟩
  · simp [fnOf, lvAt, ptr]
  · exact ((Blk.new (l := once0) rfl (by simp [lvAt]) : Blk ((w.alloc (.cells #[.func (.func F) #[] cs] 70)).alloc (.cells #[.int .u32 0, .int .i32 0, .int .u32 0] 105)) _ _ _).old _).old _
  · exact ((h1.old _).old _).old _
  · exact (Blk.new rfl (by simp [lvAt]) : Blk (((w.alloc (.cells #[.func (.func F) #[] cs] 70)).alloc (.cells #[.int .u32 0, .int .i32 0, .int .u32 0] 105)).alloc (.cells #[.slice none 0 0] 37)) _ _ _).old _
  · exact Blk.new rfl (by simp [lvAt])
  · exact ((((Below.refl _ _).alloc (Nat.le_refl _) _).alloc (by simp) _).alloc (by simp; omega) _).alloc (by simp; omega) _
  · simp

def lvB (b : Nat) : Lv := lvAt (b + 3) (b + 1) b (b + 2)

def lvA (b : Nat) : Lv := lvAt (b + 2) (b + 1) b b

def CapsB (w : World) (g many : Nat) (lf : Value) (l : Lv) : Prop := Blk w l.x 3 [.int .i64 (many : Int)] ∧ Blk w l.y 22 [.pointer (some ⟨g, 0, none⟩)] ∧ Blk w l.z 68 [lf]

def CapsA (w : World) (g : Nat) (below : Value) (l : Lv) : Prop := Blk w l.x 71 [below] ∧ Blk w l.y 22 [.pointer (some ⟨g, 0, none⟩)]

set_option maxRecDepth 100000 in
set_option maxHeartbeats 800000 in
theorem bottom_any (g many F : Nat) (cs : Array Value) (w : World) : Calls Try.prog 35 #[.pointer (some ⟨g, 0, none⟩), .int .i64 (many : Int), .func (.func F) #[] cs] w fun e w' =>
    e = .returned (fnOf (lvB w.heap.size)) ∧ Un w' (lvB w.heap.size) (mkB (lvB w.heap.size)) ∧ CapsB w' g many (.func (.func F) #[] cs) (lvB w.heap.size) ∧ Below w.heap.size w w' ∧ w'.heap.size = w.heap.size + 7 := by
  obtain ⟨w3, hw3⟩ : ∃ w3, (((w.alloc (.cells #[.pointer (some ⟨g, 0, none⟩)] 22)).alloc (.cells #[.int .i64 (many : Int)] 3)).alloc (.cells #[.func (.func F) #[] cs] 68)) = w3 := ⟨_, rfl⟩
  have h1 : Blk w3 w.heap.size 22 [.pointer (some ⟨g, 0, none⟩)] := by rw [← hw3]; exact ((Blk.new rfl rfl : Blk (w.alloc (.cells #[.pointer (some ⟨g, 0, none⟩)] 22)) _ _ _).old _).old _
  have h2 : Blk w3 (w.heap.size + 1) 3 [.int .i64 (many : Int)] := by rw [← hw3]; exact (Blk.new rfl (by simp) : Blk ((w.alloc (.cells #[.pointer (some ⟨g, 0, none⟩)] 22)).alloc (.cells #[.int .i64 (many : Int)] 3)) (w.heap.size + 1) _ _).old _
  have h3 : Blk w3 (w.heap.size + 2) 68 [.func (.func F) #[] cs] := by rw [← hw3]; exact Blk.new rfl (by simp)
  have hbw : Below w.heap.size w w3 := by rw [← hw3]; exact (((Below.refl _ w).alloc (Nat.le_refl _) _).alloc (by simp) _).alloc (by simp; omega) _
  have hz3 : w3.heap.size = w.heap.size + 3 := by rw [← hw3]; simp
  have hon := once_any 43 #[.pointer (some ⟨w.heap.size + 1, 0, none⟩), .pointer (some ⟨w.heap.size, 0, none⟩), .pointer (some ⟨w.heap.size + 2, 0, none⟩)] (w.heap.size + 1) w.heap.size (w.heap.size + 2) w3
  rw [hz3] at hon
  have Hon := Lib.hid hon
  have H := Lib.hid (And.intro h1 (And.intro h2 (And.intro h3 (And.intro hbw hz3))))
  clear hon h1 h2 h3 hbw hz3
  go_enter Try.func35, Try.ntmps35
  go_wp2_with fail
  refine Hon.out.mono ?_
  rintro e w1 ⟨rfl, hU, hb, hz⟩
  have H2 := Lib.hid (And.intro hU (And.intro hb hz))
  clear hU hb hz hw3
  go_wp2
  go_ret
  obtain ⟨h1, h2, h3, hbw, hz3⟩ := H.out
  obtain ⟨hU, hb, hz⟩ := H2.out
  exact ⟨rfl, hU, ⟨h2.below hb (by omega), h1.below hb (by omega), h3.below hb (by omega)⟩, hbw.trans (hb.mono (by omega)), by omega⟩

set_option maxRecDepth 100000 in
set_option maxHeartbeats 800000 in
theorem above_make (g F : Nat) (cs : Array Value) (w : World) : Calls Try.prog 36 #[.pointer (some ⟨g, 0, none⟩), .func (.func F) #[] cs] w fun e w' =>
    e = .returned (fnOf (lvA w.heap.size)) ∧ Un w' (lvA w.heap.size) (mkA (lvA w.heap.size)) ∧ CapsA w' g (.func (.func F) #[] cs) (lvA w.heap.size) ∧ Below w.heap.size w w' ∧ w'.heap.size = w.heap.size + 6 := by
  obtain ⟨w3, hw3⟩ : ∃ w3, ((w.alloc (.cells #[.pointer (some ⟨g, 0, none⟩)] 22)).alloc (.cells #[.func (.func F) #[] cs] 71)) = w3 := ⟨_, rfl⟩
  have h1 : Blk w3 w.heap.size 22 [.pointer (some ⟨g, 0, none⟩)] := by rw [← hw3]; exact (Blk.new rfl rfl : Blk (w.alloc (.cells #[.pointer (some ⟨g, 0, none⟩)] 22)) _ _ _).old _
  have h2 : Blk w3 (w.heap.size + 1) 71 [.func (.func F) #[] cs] := by rw [← hw3]; exact Blk.new rfl (by simp)
  have hbw : Below w.heap.size w w3 := by rw [← hw3]; exact ((Below.refl _ w).alloc (Nat.le_refl _) _).alloc (by simp) _
  have hz3 : w3.heap.size = w.heap.size + 2 := by rw [← hw3]; simp
  have hon := once_any 44 #[.pointer (some ⟨w.heap.size + 1, 0, none⟩), .pointer (some ⟨w.heap.size, 0, none⟩)] (w.heap.size + 1) w.heap.size w.heap.size w3
  rw [hz3] at hon
  have Hon := Lib.hid hon
  have H := Lib.hid (And.intro h1 (And.intro h2 (And.intro hbw hz3)))
  clear hon h1 h2 hbw hz3
  go_enter Try.func36, Try.ntmps36
  go_wp2_with fail
  refine Hon.out.mono ?_
  rintro e w1 ⟨rfl, hU, hb, hz⟩
  have H2 := Lib.hid (And.intro hU (And.intro hb hz))
  clear hU hb hz hw3
  go_wp2
  go_ret
  obtain ⟨h1, h2, hbw, hz3⟩ := H.out
  obtain ⟨hU, hb, hz⟩ := H2.out
  exact ⟨rfl, hU, ⟨h2.below hb (by omega), h1.below hb (by omega)⟩, hbw.trans (hb.mono (by omega)), by omega⟩

/-! ### pile -/

theorem lv_info : (Try.prog.info? 71).map (fun i => (i.zero.map fun z => z.cells.size, i.size, i.bytes)) = some (some 1, 1, 8) := by kernel_rfl

theorem run_appendLv (w : World) (base n : Nat) (v : Value) (xs : List Value) (hown : w.ownsRow base 71 1 v n xs) (g : Nat) (u : Value) (hu : u.oneCell' = true) (hg : Blk w g 71 [u]) (hl : n ≤ 100000) (hbase : base ≤ w.heap.size) (ty : TypeId) :
    ∃ v' w', (Builtin.append_ #[43, 43] ty #[v, .slice (some ⟨g, 0, none⟩) 1 1]).run Try.prog w = .ok v' w' ∧ w'.ownsRow base 71 1 v' (n + 1) (xs ++ [u]) ∧ w.grownBy w' v.ownBlock := by
  have h := lv_info
  cases hi : Try.prog.info? 71 with
  | none => rw [hi] at h; cases h
  | some i0 =>
    rw [hi] at h
    simp only [Option.map_some, Option.some.injEq, Prod.mk.injEq] at h
    obtain ⟨hz, hz1, hz2⟩ := h
    obtain ⟨z0, hz0, hzc⟩ := Option.map_eq_some_iff.1 hz
    obtain ⟨v', w', h1, h2, h3, _, _⟩ := run_append_own_at (P := Try.prog) w base 43 ty 71 i0 z0 1 8 Try.underlying43 hi hz0 hz1 hz2 hzc (by decide) v n xs hown ⟨g, 0, none⟩ 1 1 [u]
      rfl (fun j u' hu' => by rw [add_mk, Nat.zero_add]; exact hg.cell hu') (by simp [hu]) (by simp only [maxLen]; omega) (by omega) hbase
    exact ⟨v', w', h1, h2, h3⟩

/-- The levels that stand behind k rounds. -/
structure PileAt (g many : Nat) (lf : Value) (w : World) (k : Nat) (v : Value) (wr : World) (L : Nat → Lv) : Prop where
  row : wr.ownsRow w.heap.size 71 1 v (k + 1) ((List.range (k + 1)).map fun i => fnOf (L i))
  un : ∀ i, i ≤ k → Un wr (L i) (mkOf L i)
  caps : ∀ i, i ≤ k → Caps wr g many lf L i
  ord : ∀ i j, i < j → j ≤ k → ∀ a b, (L i).has a → (L j).has b → a < b
  inn : ∀ i, i ≤ k → ∀ a, (L i).has a → w.heap.size ≤ a ∧ a < wr.heap.size
  bel : Below w.heap.size w wr

theorem lvAt_has {b x y z a : Nat} (h : (lvAt b x y z).has a) : (b ≤ a ∧ a < b + 4) ∨ a = x ∨ a = y ∨ a = z := by
  unfold Lv.has lvAt at h
  simp only at h
  omega

theorem pile_first (g many F : Nat) (cs : Array Value) (w w1 : World) (hU : Un w1 (lvB w.heap.size) (mkB (lvB w.heap.size))) (hC : CapsB w1 g many (.func (.func F) #[] cs) (lvB w.heap.size)) (hb : Below w.heap.size w w1) (hz : w1.heap.size = w.heap.size + 7) :
    PileAt g many (.func (.func F) #[] cs) w 0 (.slice (some ⟨w1.heap.size, 0, none⟩) 1 1) (w1.alloc (.cells #[fnOf (lvB w.heap.size)] 71)) (fun _ => lvB w.heap.size) := by
  have hb1 : Below w1.heap.size w1 (w1.alloc (.cells #[fnOf (lvB w.heap.size)] 71)) := (Below.refl _ _).alloc (Nat.le_refl _) _
  refine ⟨⟨rfl, .inr ⟨_, 1, _, rfl, hb.size, heap_alloc_new w1 _, Nat.le_refl _, by decide, rfl, rfl⟩⟩, fun i hi => ?_, fun i hi => ?_, fun i j hij hj => by omega, fun i hi a ha => ?_, hb.trans (hb1.mono hb.size)⟩
  · obtain rfl : i = 0 := by omega
    exact hU.stay (hb1.block _ hU.p.lt) (hb1.block _ hU.m.lt) (hb1.block _ hU.d.lt) (hb1.block _ hU.e.lt)
  · obtain rfl : i = 0 := by omega
    exact ⟨hC.1.below hb1 hC.1.lt, hC.2.1.below hb1 hC.2.1.lt, hC.2.2.below hb1 hC.2.2.lt⟩
  · have := lvAt_has ha
    rw [World.size_alloc]
    omega

theorem pile_next {g many k : Nat} {lf v v' : Value} {w wr w1 w2 : World} {L : Nat → Lv} (h : PileAt g many lf w k v wr L) (hU : Un w1 (lvA wr.heap.size) (mkA (lvA wr.heap.size))) (hC : CapsA w1 g (fnOf (L k)) (lvA wr.heap.size)) (hb : Below wr.heap.size wr w1) (hz : w1.heap.size = wr.heap.size + 6)
    (hR : w2.ownsRow w.heap.size 71 1 v' (k + 1 + 1) (((List.range (k + 1)).map fun i => fnOf (L i)) ++ [fnOf (lvA wr.heap.size)])) (hg : (w1.alloc (.cells #[fnOf (lvA wr.heap.size)] 71)).grownBy w2 v.ownBlock) :
    PileAt g many lf w (k + 1) v' w2 (fun i => if i = k + 1 then lvA wr.heap.size else L i) := by
  have hv : ∀ b, v.ownBlock = some b → w.heap.size ≤ b ∧ ∃ cs, wr.heap[b]? = some (.cells cs 71 (0, 0)) := fun b hb' => ⟨(World.ownsRow.lt h.row b hb').1, row_block h.row hb'⟩
  have hb1 : Below w1.heap.size w1 (w1.alloc (.cells #[fnOf (lvA wr.heap.size)] 71)) := (Below.refl _ _).alloc (Nat.le_refl _) _
  have e1 : ∀ {b : Nat} {t : TypeId} {l : List Value}, Blk w1 b t l → t ≠ 71 ∨ wr.heap.size ≤ b → w2.heap[b]? = w1.heap[b]? := fun {b t l} hbk hne => (hg.block b (Nat.lt_of_lt_of_le hbk.lt hb1.size) fun e => by
    obtain ⟨_, cs, hcs⟩ := hv b e.symm
    rcases hne with hne | hne
    · have := (hb.block b (by
        rcases Nat.lt_or_ge b wr.heap.size with hh | hh
        · exact hh
        · rw [Array.getElem?_eq_none hh] at hcs; cases hcs)).trans hcs
      unfold Blk at hbk
      rw [this] at hbk
      injection hbk with e2
      injection e2 with _ e2
      exact hne e2.symm
    · rw [Array.getElem?_eq_none hne] at hcs; cases hcs).trans (hb1.block b hbk.lt)
  have e2 : ∀ {b : Nat} {t : TypeId} {l : List Value}, Blk w1 b t l → t ≠ 71 ∨ wr.heap.size ≤ b → Blk w2 b t l := fun {b t l} hbk hne => (e1 hbk hne).trans hbk
  have e3 : ∀ {b : Nat} {t : TypeId} {l : List Value}, Blk wr b t l → t ≠ 71 → Blk w2 b t l := fun {b t l} hbk hne => e2 (hbk.below hb hbk.lt) (.inl hne)
  have hz2 : w1.heap.size ≤ w2.heap.size := by have := hg.size; rw [World.size_alloc] at this; omega
  have hmk : ∀ i, i ≤ k → mkOf (fun i => if i = k + 1 then lvA wr.heap.size else L i) i = mkOf L i := fun i hi => by
    cases i with
    | zero => simp [mkOf]
    | succ i => simp only [mkOf]; rw [if_neg (by omega)]
  refine ⟨?_, fun i hi => ?_, fun i hi => ?_, fun i j hij hj a b ha hb' => ?_, fun i hi a ha => ?_, ?_⟩
  · have el : ((List.range (k + 1 + 1)).map fun i => fnOf (if i = k + 1 then lvA wr.heap.size else L i)) = ((List.range (k + 1)).map fun i => fnOf (L i)) ++ [fnOf (lvA wr.heap.size)] := by
      rw [List.range_succ, List.map_append]
      congr 1
      · refine List.map_congr_left fun i hi => ?_
        rw [List.mem_range] at hi
        rw [if_neg (by omega)]
      · simp
    rw [el]; exact hR
  · by_cases hik : i = k + 1
    · subst hik
      have : mkOf (fun i => if i = k + 1 then lvA wr.heap.size else L i) (k + 1) = mkA (lvA wr.heap.size) := by simp [mkOf]
      rw [this]
      simp only [if_true]
      exact ⟨e2 hU.p (.inl (by decide)), e2 hU.m (.inl (by decide)), e2 hU.d (.inl (by decide)), e2 hU.e (.inl (by decide))⟩
    · rw [hmk i (by omega)]
      simp only [if_neg hik]
      have hu := h.un i (by omega)
      exact ⟨e3 hu.p (by decide), e3 hu.m (by decide), e3 hu.d (by decide), e3 hu.e (by decide)⟩
  · by_cases hik : i = k + 1
    · subst hik
      refine ⟨?_, ?_⟩
      · simp only [if_true, show ¬ k = k + 1 by omega, if_false]
        exact e2 hC.1 (.inr (by show wr.heap.size ≤ wr.heap.size + 1; omega))
      · simp only [if_true]
        exact e2 hC.2 (.inl (by decide))
    · have hc := h.caps i (by omega)
      cases i with
      | zero => exact ⟨by simp only [show ¬ 0 = k + 1 by omega, if_false]; exact e3 hc.1 (by decide), by simp only [show ¬ 0 = k + 1 by omega, if_false]; exact e3 hc.2.1 (by decide), by simp only [show ¬ 0 = k + 1 by omega, if_false]; exact e3 hc.2.2 (by decide)⟩
      | succ i =>
        have hi2 : ¬ i = k + 1 := by omega
        refine ⟨?_, by simp only [if_neg hik]; exact e3 hc.2 (by decide)⟩
        simp only [if_neg hik, if_neg hi2]
        -- the captured level lies in a block of its own, no row of levels
        have hb0 := hc.1
        refine (hg.block _ (by have := hb0.lt; have := hb.size; have := hb1.size; omega) fun e => ?_).trans ((hb1.block _ (by have := hb0.lt; have := hb.size; omega)).trans ((hb.block _ hb0.lt).trans hb0))
        obtain ⟨h1, ⟨_, h2⟩ | ⟨g', cap, cur, hv', _, hg', hn, _, hcs, _⟩⟩ := h.row
        · omega
        · rw [hv'] at e
          simp [Value.ownBlock] at e
          subst e
          unfold Blk at hb0
          rw [hb0] at hg'
          injection hg' with e1
          injection e1 with e1 _
          rw [← e1] at hcs
          simp at hcs
          omega
  · have hLi : ∀ i, i ≤ k → (if i = k + 1 then lvA wr.heap.size else L i) = L i := fun i hi => by rw [if_neg (by omega)]
    by_cases hjk : j = k + 1
    · subst hjk
      simp only [if_true] at hb'
      have ha' : (L i).has a := by have := ha; simp only [hLi i (by omega)] at this; exact this
      have := (h.inn i (by omega) a ha').2
      have := lvAt_has hb'
      omega
    · have ha' : (L i).has a := by have := ha; simp only [hLi i (by omega)] at this; exact this
      have hb2 : (L j).has b := by have := hb'; simp only [hLi j (by omega)] at this; exact this
      exact h.ord i j hij (by omega) a b ha' hb2
  · by_cases hik : i = k + 1
    · subst hik
      simp only [if_true] at ha
      have := lvAt_has ha
      have := h.bel.size
      omega
    · simp only [if_neg hik] at ha
      have := h.inn i (by omega) a ha
      have := hb.size
      omega
  · exact (h.bel.trans (hb.mono h.bel.size)).trans ((hb1.mono (by have := h.bel.size; omega))) |>.grown hg (by have := h.bel.size; have := hb.size; rw [World.size_alloc]; omega) fun b hb' => (hv b hb').1

end Go.Proofs.Ytkkcjkelijlmbaa

namespace Go.Proofs.Ytkkcjkelijlmbaa

open Go.RowKit Go.Maps

set_option linter.unusedVariables false

/-- What pile leaves behind. -/
def PileP (g many : Nat) (lf : Value) (w : World) (e : Ending) (w' : World) : Prop :=
  ∃ L lv c, e = .returned (.slice (some ⟨lv, 0, none⟩) (dep many) c) ∧ PileAt g many lf w (dep many - 1) (.slice (some ⟨lv, 0, none⟩) (dep many) c) w' L ∧ dep many ≤ c ∧ c ≤ maxLen

theorem range_cell {w : World} {base lv n c : Nat} {f : Nat → Value} (h : w.ownsRow base 71 1 (.slice (some ⟨lv, 0, none⟩) n c) n ((List.range n).map f)) {i : Nat} (hi : i < n) : w.cell? ⟨lv, i, none⟩ = some (f i) := by
  rw [World.ownsRow.cellAt h i (by omega), List.getElem?_map, List.getElem?_range hi]; rfl

set_option maxRecDepth 100000 in
set_option maxHeartbeats 1600000 in
theorem pile_any (g many F : Nat) (cs : Array Value) (w : World) (h1 : 1 ≤ many) (h2 : many ≤ 1024) : Calls Try.prog 29 #[.pointer (some ⟨g, 0, none⟩), .int .i64 (many : Int), .func (.func F) #[] cs] w (PileP g many (.func (.func F) #[] cs) w) := by
  go_enter Try.func29, Try.ntmps29
  go_wp2_with fail
  refine (bottom_any g many F cs w).mono ?_
  rintro e w1 ⟨rfl, hU, hC, hb, hz⟩
  have hP0 := pile_first g many F cs w w1 hU hC hb hz
  have H := Lib.hid hP0
  clear hU hC hb hz hP0
  unfold fnOf ptr
  go_wp2
  go_loopw [1, 7] (fun m v wr => ∃ (k : Nat) (L : Nat → Lv), k + 1 ≤ dep many ∧ m = .int .i64 ((wid many k : Nat) : Int) ∧ PileAt g many (.func (.func F) #[] cs) w k v wr L) (fun m _ _ => (intOf m).toNat)
  case atStart => exact ⟨0, _, dep_pos many, rfl, H.out⟩
  case round =>
    obtain ⟨k, L, hk, rfl, hP⟩ := hrel
    obtain ⟨lv, c, rfl, hkc, hcm⟩ : ∃ lv c, u7 = .slice (some ⟨lv, 0, none⟩) (k + 1) c ∧ k + 1 ≤ c ∧ c ≤ maxLen := by
      rcases hP.row.2 with ⟨_, e⟩ | ⟨lv, c, _, e, _, _, h3, h4, _⟩
      · omega
      · exact ⟨lv, c, e, h3, h4⟩
    obtain ⟨m, hm⟩ : ∃ m, wid many k = m := ⟨_, rfl⟩
    have hmw : wid many (k + 1) = (m + 3) / 4 := by rw [wid, hm]
    have hm1 : 1 ≤ m := by rw [← hm]; exact wid_pos h1 k
    have hm2 : m ≤ 1024 := by rw [← hm]; exact Nat.le_trans (wid_le many k h1) h2
    rw [hm]
    have hk6 : k + 1 ≤ 6 := Nat.le_trans hk (dep_le h2)
    have hck : wr.cell? ⟨lv, k, none⟩ = some (fnOf (L k)) := range_cell hP.row (by omega)
    by_cases hlt : 1 < m
    · have hk1 : k + 1 + 1 ≤ dep many := by
        rcases Nat.lt_or_ge (k + 1) (dep many) with h | h
        · omega
        · have := wid_last h1 (show k + 1 = dep many by omega); omega
      have hab := above_make g 52 #[ptr (L k).p, ptr (L k).m, ptr (L k).d, ptr (L k).e] wr
      have hb1 : (1 : Int) < (m : Int) := by omega
      unfold fnOf ptr at hck
      unfold ptr at hab
      have Hab := Lib.hid hab
      have H2 := Lib.hid (And.intro hP (And.intro hk (And.intro hm (And.intro hmw (And.intro hk1 (And.intro hkc hcm))))))
      clear hab hP hk hm hmw hk1 hkc hcm
      go_wp2_with fail
      refine Hab.out.mono ?_
      rintro e w1 ⟨rfl, hU, hC, hb, hz⟩
      obtain ⟨hP, hk, hm, hmw, hk1, hkc, hcm⟩ := H2.out
      have hb1 : Below w1.heap.size w1 (w1.alloc (.cells #[fnOf (lvA wr.heap.size)] 71)) := (Below.refl _ _).alloc (Nat.le_refl _) _
      have hrow : (w1.alloc (.cells #[fnOf (lvA wr.heap.size)] 71)).ownsRow w.heap.size 71 1 (.slice (some ⟨lv, 0, none⟩) (k + 1) c) (k + 1) ((List.range (k + 1)).map fun i => fnOf (L i)) := row_stay hP.row fun b cs' hb' hc' => by
        have hlt : b < wr.heap.size := by
          rcases Nat.lt_or_ge b wr.heap.size with h | h
          · exact h
          · rw [Array.getElem?_eq_none h] at hc'; cases hc'
        exact (hb1.block b (Nat.lt_of_lt_of_le hlt hb.size)).trans (hb.block b hlt)
      obtain ⟨v', w2, hap, hR2, hg2⟩ := run_appendLv (w1.alloc (.cells #[fnOf (lvA wr.heap.size)] 71)) w.heap.size (k + 1) _ _ hrow w1.heap.size (fnOf (lvA wr.heap.size)) rfl (Blk.new rfl rfl) (by omega) (by have := hP.bel.size; have := hb.size; have := hb1.size; omega) 43
      have hPn := pile_next hP hU hC hb hz hR2 hg2
      unfold fnOf ptr at hap
      have H3 := Lib.hid (And.intro hPn hap)
      clear hP hk hm hmw hk1 hkc hcm hb1 hrow hR2 hg2 hPn hU hC hb hz hap
      unfold fnOf ptr
      go_wp2_with (at_builtin; refine Lib.wpList_append_run _ rfl _ _ _ _ rfl _ _ rfl rfl _ _ H3.out.2 ?_)
      go_roundw
      case rel => exact ⟨k + 1, _, H2.out.2.2.2.2.1, by rw [H2.out.2.2.2.1]; congr 1; omega, H3.out.1⟩
      case measure => simp [intOf]; omega
    · have hkd : k + 1 = dep many := by
        rcases Nat.lt_or_ge (k + 1) (dep many) with h | h
        · have := wid_more h1 h; omega
        · omega
      have hb1 : ¬ (1 : Int) < (m : Int) := by omega
      have H2 := Lib.hid (And.intro hP (And.intro hkd (And.intro hkc hcm)))
      clear hP hkd hkc hcm hk hm hmw hck
      go_wp2
      go_ret
      obtain ⟨hP, hkd, hkc, hcm⟩ := H2.out
      rw [show k = dep many - 1 by omega] at hP
      refine ⟨L, lv, c, by rw [hkd]; rfl, ?_, by omega, hcm⟩
      have e : dep many - 1 + 1 = dep many := by omega
      rw [e] at hP
      exact hP

/-! ### Small ones -/

theorem isCount_yes (n : Int) (w : World) (h1 : 1 ≤ n) (h2 : n ≤ 1024) : Calls Try.prog 27 #[.int .i64 n] w fun e w' => e = .returned (.bool true) ∧ w' = w := by
  go_enter Try.func27, Try.ntmps27
  go_wp2
  go_ret
  exact ⟨by simp, rfl⟩

theorem isCount_no (n : Int) (w : World) (h : n < 1 ∨ 1024 < n) : Calls Try.prog 27 #[.int .i64 n] w fun e w' => e = .returned (.bool false) ∧ w' = w := by
  rcases h with h | h
  · have h1 : ¬ (1 : Int) ≤ n := by omega
    go_enter Try.func27, Try.ntmps27
    go_wp2
    go_ret
    exact ⟨by simp, rfl⟩
  · have h1 : (1 : Int) ≤ n := by omega
    have h2 : ¬ n ≤ 1024 := by omega
    go_enter Try.func27, Try.ntmps27
    go_wp2
    go_ret
    exact ⟨by simp, rfl⟩

end Go.Proofs.Ytkkcjkelijlmbaa

namespace Go.Proofs.Ytkkcjkelijlmbaa

open Go.RowKit Go.Maps

set_option linter.unusedVariables false

/-- The last level has been asked: it has the digest d alone; Q of the world. -/
def LastP (z : Nat) (d : Dg) (Q : World → Prop) (e : Ending) (w1 : World) : Prop :=
  ∃ r c, e = .returned (.tuple #[.slice (some ⟨r, 0, none⟩) 1 c, .int .i64 0]) ∧ Ds w1 (some ⟨r, 0, none⟩) [d] ∧ Blk w1 z 30 (cbs (List.replicate 32 0)) ∧ Q w1

def RootP (z : Nat) (d : Dg) (Q : World → Prop) (e : Ending) (w' : World) : Prop :=
  ∃ w1, e = .returned (.tuple #[.agg (cbs d).toArray, .int .i64 0]) ∧ Q w1 ∧ w' = w1.setCells z 0 (cbs d) ∧ Blk w1 z 30 (cbs (List.replicate 32 0))

set_option maxRecDepth 100000 in
set_option maxHeartbeats 800000 in
theorem rootOf_any (lv n c : Nat) (l : Lv) (Q : World → Prop) (d : Dg) (hd : d.length = 32) (w : World) (hn : n + 1 ≤ 6) (hnc : n + 1 ≤ c) (hc : w.cell? ⟨lv, n, none⟩ = some (fnOf l))
    (hcall : Calls Try.prog 52 #[ptr l.p, ptr l.m, ptr l.d, ptr l.e] (w.alloc (.cells (cbs (List.replicate 32 0)).toArray 30)) (LastP w.heap.size d Q)) :
    Calls Try.prog 17 #[.slice (some ⟨lv, 0, none⟩) (n + 1) c] w (RootP w.heap.size d Q) := by
  obtain ⟨D, hD⟩ : ∃ D, cbs d = D := ⟨_, rfl⟩
  have hD32 : D.length = 32 := by rw [← hD, cbs_length, hd]
  have hD1 : D.toArray.all (·.oneCell') = true := by rw [← hD]; exact cbs_one' _
  have hlt : lv < w.heap.size := World.block_lt_of_cell? w _ hc
  unfold fnOf ptr at hc
  unfold ptr at hcall
  have Hc := Lib.hid hcall
  have HD := Lib.hid (And.intro hD (And.intro hD32 (And.intro hD1 hd)))
  clear hcall hD hD32 hD1 hd
  go_enter Try.func17, Try.ntmps17
  go_wp2_with fail
  refine Hc.out.mono ?_
  rintro e w1 ⟨r, c1, rfl, hDs, hZ, hQ⟩
  obtain ⟨hD, hD32, hD1, hd⟩ := HD.out
  obtain ⟨b, off, e1, hb, hr⟩ := hDs.at_ (fun x hx => by simp at hx; rw [hx]; exact hd) (i := 0) (by simp)
  cases e1
  rw [Nat.zero_add, Nat.zero_mul] at hr
  have hr' : w1.rangeAt r 0 D := by rw [← hD]; exact hr
  have hsD : D.toArray.size = 32 := by rw [List.size_toArray]; exact hD32
  have hth : w1.there w.heap.size 0 D.toArray.size := by
    have e := hZ.there
    rw [cbs_length, List.length_replicate] at e
    rw [hsD]; exact e
  have hi : (Try.prog.info? 30).map (·.size) = some D.toArray.size := by rw [hsD]; exact info32b
  have hi' : (Try.prog.info? 30).map (·.size) = some D.length := by rw [hD32]; exact info32b
  have hR := hZ.setAll (vs := D) (by rw [hD32, cbs_length, List.length_replicate])
  have H := Lib.hid (And.intro hr' (And.intro hth (And.intro hi (And.intro hi' (And.intro hR (And.intro hQ (And.intro hZ (And.intro hD hD1))))))))
  clear hr' hr hth hi hi' hR hQ hZ hDs hsD hD hD32 hD1 hd
  go_wp2_with (first
    | (refine wpList_load_mid rfl 30 _ rfl r 0 rfl D _ H.out.1 Try.underlying30 rfl H.out.2.2.2.1 ?_; simp only [Act.put])
    | (refine wpList_store_mid rfl 30 _ _ rfl w.heap.size 0 D.toArray rfl rfl H.out.2.1 H.out.2.2.1 H.out.2.2.2.2.2.2.2.2 ?_))
  refine bodyPost_ret (results_row_tmp rfl _ _ w.heap.size 30 D.toArray (0, 0) _ rfl H.out.2.2.2.2.1 Try.underlying30 rfl H.out.2.2.1) rfl ?_
  exact ⟨w1, by rw [H.out.2.2.2.2.2.2.2.1]; rfl, H.out.2.2.2.2.2.1, by rw [H.out.2.2.2.2.2.2.2.1], H.out.2.2.2.2.2.2.1⟩

end Go.Proofs.Ytkkcjkelijlmbaa

namespace Go.Proofs.Ytkkcjkelijlmbaa

open Go.RowKit Go.Maps

set_option linter.unusedVariables false

def rootD (low : List Dg) : Dg := (lvl low (dep low.length - 1)).headD []

theorem root_one {low : List Dg} (h1 : 1 ≤ low.length) : lvl low (dep low.length - 1) = [rootD low] := by
  have hd := dep_pos low.length
  have hl : (lvl low (dep low.length - 1)).length = 1 := by rw [lvl_len]; exact wid_last h1 (by omega)
  unfold rootD
  generalize lvl low (dep low.length - 1) = l at *
  match l, hl with
  | [x], _ => rfl

theorem root_len {low : List Dg} (h1 : 1 ≤ low.length) (h32 : All32 low) : (rootD low).length = 32 := by
  have := all32_lvl h32 (dep low.length - 1)
  rw [root_one h1] at this
  exact this _ (by simp)

theorem Out.setRow {S : Nat → Prop} {a : World} {x : Nat} (hx : S x) (vs : List Value) : ∀ {w : World} {o : Nat}, Out S a w → Out S a (w.setCells x o vs) := by
  induction vs with
  | nil => intro w o h; exact h
  | cons v vs ih => intro w o h; rw [World.setCells]; exact ih (h.setCell (p := ⟨x, o, none⟩) (fun _ => hx) v)

section

variable {B g bm : Nat} {s : Bk} {ls : List (List UInt8)} {lf : Value} {L : Nat → Lv} {R : Nat → Nat × Nat} {n : Nat} {w wB w1 w' : World} {N N2 : Nat → Prop}

theorem Post.back (h : Post B g bm s ls L n wB N2 R w1) (hL : ∀ i, i ≤ n → ∀ a, (L i).has a → a < w.heap.size) (hb : Below w.heap.size w wB) (hN : ∀ i, N i → N2 i) (hN' : ∀ i, i < w.heap.size → N2 i → N i) {x : Nat → Prop} (ho : Out x w1 w') (hz : w'.heap.size = w1.heap.size)
    (hx : ∀ i, x i → w.heap.size ≤ i ∧ i < wB.heap.size ∧ N2 i) : Post B g bm s ls L n w N R w' := by
  have k : ∀ i, i < w1.heap.size → ¬ x i → w'.heap[i]? = w1.heap[i]? := ho.block
  have hzB := hb.size
  have hz1 := h.out.size
  refine ⟨fun i hi => ?_, fun i hi => Nat.le_trans hb.size (h.new i hi), h.inc, ?_, ?_⟩
  · have hd := h.dn i hi
    have key : ∀ a, (L i).has a → w'.heap[a]? = w1.heap[a]? := fun a ha => k a (by have := hL i hi a ha; omega) fun e => by have := hx a e; have := hL i hi a ha; omega
    exact hd.stay (key _ (by simp [Lv.has])) (key _ (by simp [Lv.has])) (key _ (by simp [Lv.has])) (k _ (row_lt hd.row) fun e => by have := hx _ e; have := h.new i hi; omega)
  · refine (h.kb.other (w' := w') (by omega) (fun i hi hn => k i hi fun e => hn (.inl (hx i e).2.2)) fun i hi => .inl hi).less fun i hi => ?_
    rcases hi with hi | hi
    · exact .inl (hN i hi)
    · exact .inr hi
  · have o1 : Out (fun i => Tn B bm w N i ∨ TT L n i) w w1 := (Out.ofBelow (fun i => Tn B bm w N i ∨ TT L n i) hb).trans h.out fun i hi hs => by
      rcases hs with hs | hs
      · refine .inl ⟨hs.1, fun e => hs.2.1 (hN i e), ?_⟩
        rcases hs.2.2 with e | ⟨cs, t, fr, hc'⟩
        · exact .inl e
        · exact .inr ⟨cs, t, fr, (hb.block i hi).symm.trans hc'⟩
      · exact .inr hs
    exact o1.trans ho fun i hi hs => by have := hx i hs; omega

end

theorem rootOf_first (B g bm F : Nat) (s : Bk) (ls : List (List UInt8)) (caps : List Value) (lf : Value) (L : Nat → Lv) (K : Nat → Prop) (w : World) (N : Nat → Prop) (lv c : Nat) (h1 : 1 ≤ ls.length) (h2 : ls.length ≤ 1024)
    (IH : AskOK B g bm s ls F caps lf L K (dep ls.length - 1)) (h : Pre B g bm s ls lf L (dep ls.length - 1) w N) (hlf : Lf B F caps ls L (dep ls.length - 1) K w N) (hc : w.cell? ⟨lv, dep ls.length - 1, none⟩ = some (fnOf (L (dep ls.length - 1)))) (hdc : dep ls.length ≤ c) :
    Calls Try.prog 17 #[.slice (some ⟨lv, 0, none⟩) (dep ls.length) c] w fun e w' => ∃ R, e = .returned (.tuple #[.agg (cbs (rootD (lows ls))).toArray, .int .i64 0]) ∧ Post B g bm s ls L (dep ls.length - 1) w N R w' := by
  have hd1 := dep_pos ls.length
  have hd6 := dep_le h2
  obtain ⟨n, hn⟩ : ∃ n, dep ls.length = n + 1 := ⟨dep ls.length - 1, by omega⟩
  have hr1 : lvl (lows ls) n = [rootD (lows ls)] := by
    have := root_one (low := lows ls) (by rw [lows_len]; exact h1)
    rwa [lows_len, hn] at this
  rw [hn] at IH h hlf hc hdc ⊢
  simp only [Nat.add_sub_cancel] at IH h hlf hc ⊢
  have hb : Below w.heap.size w (w.alloc (.cells (cbs (List.replicate 32 0)).toArray 30)) := (Below.refl _ _).alloc (Nat.le_refl _) _
  have hZ : Blk (w.alloc (.cells (cbs (List.replicate 32 0)).toArray 30)) w.heap.size 30 (cbs (List.replicate 32 0)) := Blk.new rfl rfl
  have hask := IH (w.alloc (.cells (cbs (List.replicate 32 0)).toArray 30)) (fun i => N i ∨ i = w.heap.size) (h.below hb (fun i hi => by
    rcases hi with hi | rfl
    · exact .inl hi
    · exact .inr ⟨Nat.le_refl _, by simp⟩) fun i hi => .inl hi) (hlf.below hb fun i hi => .inl hi)
  have hLlt : ∀ i, i ≤ n → ∀ a, (L i).has a → a < w.heap.size := fun i hi a ha => h.kb.lt (h.inN i hi a ha)
  refine (rootOf_any lv n c (L n) (fun w1 => ∃ R, Post B g bm s ls L n (w.alloc (.cells (cbs (List.replicate 32 0)).toArray 30)) (fun i => N i ∨ i = w.heap.size) R w1) (rootD (lows ls)) (root_len (by rw [lows_len]; exact h1) (all32_lows ls)) w (by omega) hdc hc (hask.mono ?_)).mono ?_
  · rintro e w1 ⟨R, rfl, hP⟩
    refine ⟨(R n).1, (R n).2, by rw [hr1]; rfl, ?_, ?_, R, hP⟩
    · have := (hP.dn n (Nat.le_refl _)).ds
      rwa [hr1] at this
    · refine hP.out.blk hZ fun e => ?_
      rcases e with e | ⟨j, hj, ht⟩
      · exact e.2.1 (.inr rfl)
      · have := hLlt j hj _ (Lv.turn_has ht); omega
  · rintro e w' ⟨w1, rfl, ⟨R, hP⟩, rfl, hZ1⟩
    refine ⟨R, rfl, hP.back (x := fun i => i = w.heap.size) hLlt hb (fun i hi => .inl hi) (fun i hi hN => by
      rcases hN with hN | rfl
      · exact hN
      · omega) ?_ (size_cells _ _ _ _) (fun i hi => by subst hi; exact ⟨Nat.le_refl _, by simp, .inr rfl⟩)⟩
    exact Out.setRow (S := fun i => i = w.heap.size) rfl _ (Out.refl _ _)

end Go.Proofs.Ytkkcjkelijlmbaa

namespace Go.Proofs.Ytkkcjkelijlmbaa

open Go.RowKit Go.Maps

set_option linter.unusedVariables false

def tcells (g many lv d c : Nat) : List Value := [.pointer (some ⟨g, 0, none⟩), .int .i64 (many : Int), .slice (some ⟨lv, 0, none⟩) d c]

/-- The tree at block t, whose leaves have the digests 'low'; M: its blocks; g: the book. -/
structure TreeS (w : World) (M : Nat → Prop) (t g : Nat) (low : List Dg) (L : Nat → Lv) (R : Nat → Nat × Nat) (lv c : Nat) : Prop where
  blk : Blk w t 45 (tcells g low.length lv (dep low.length) c)
  row : w.ownsRow 0 71 1 (.slice (some ⟨lv, 0, none⟩) (dep low.length) c) (dep low.length) ((List.range (dep low.length)).map fun i => fnOf (L i))
  dn : ∀ i, i < dep low.length → Dn w (L i) (R i).1 (R i).2 (lvl low i)
  inc : ∀ i j, i < j → j < dep low.length → (R i).1 < (R j).1
  inM : M t ∧ M lv ∧ ∀ i, i < dep low.length → M (L i).p ∧ M (L i).d ∧ M (L i).e ∧ M (R i).1
  ltM : ∀ i, M i → i < w.heap.size
  l1 : 1 ≤ low.length
  l2 : low.length ≤ 1024
  all : All32 low
  cap : dep low.length ≤ c ∧ c ≤ maxLen

def TreeAt (w : World) (M : Nat → Prop) (t g : Nat) (low : List Dg) : Prop := ∃ L R lv c, TreeS w M t g low L R lv c

theorem TreeS.stay {w w' : World} {M : Nat → Prop} {t g lv c : Nat} {low : List Dg} {L : Nat → Lv} {R : Nat → Nat × Nat} (h : TreeS w M t g low L R lv c) (hz : w.heap.size ≤ w'.heap.size) (hk : ∀ i, M i → w'.heap[i]? = w.heap[i]?) : TreeS w' M t g low L R lv c :=
  ⟨(hk _ h.inM.1).trans h.blk, row_stay h.row fun b cs hb _ => by
      simp [Value.ownBlock] at hb
      subst hb
      exact hk _ h.inM.2.1,
    fun i hi => by
      obtain ⟨a1, a2, a3, a4⟩ := h.inM.2.2 i hi
      exact (h.dn i hi).stay (hk _ a1) (hk _ a2) (hk _ a3) (hk _ a4), h.inc, h.inM, fun i hi => Nat.lt_of_lt_of_le (h.ltM i hi) hz, h.l1, h.l2, h.all, h.cap⟩

theorem TreeAt.stay {w w' : World} {M : Nat → Prop} {t g : Nat} {low : List Dg} (h : TreeAt w M t g low) (hz : w.heap.size ≤ w'.heap.size) (hk : ∀ i, M i → w'.heap[i]? = w.heap[i]?) : TreeAt w' M t g low := by
  obtain ⟨L, R, lv, c, h⟩ := h
  exact ⟨L, R, lv, c, h.stay hz hk⟩

theorem TreeAt.below {w w' : World} {M : Nat → Prop} {t g : Nat} {low : List Dg} (h : TreeAt w M t g low) (hb : Below w.heap.size w w') : TreeAt w' M t g low :=
  h.stay hb.size fun i hi => hb.block i (by obtain ⟨L, R, lv, c, h⟩ := h; exact h.ltM i hi)

theorem TreeAt.out {w w' : World} {M S : Nat → Prop} {t g : Nat} {low : List Dg} (h : TreeAt w M t g low) (ho : Out S w w') (hn : ∀ i, M i → ¬ S i) : TreeAt w' M t g low :=
  h.stay ho.size fun i hi => ho.block i (by obtain ⟨L, R, lv, c, h⟩ := h; exact h.ltM i hi) (hn i hi)

theorem TreeAt.more {w : World} {M M' : Nat → Prop} {t g : Nat} {low : List Dg} (h : TreeAt w M t g low) (hM : ∀ i, M i → M' i) (hl : ∀ i, M' i → i < w.heap.size) : TreeAt w M' t g low := by
  obtain ⟨L, R, lv, c, h⟩ := h
  exact ⟨L, R, lv, c, h.blk, h.row, h.dn, h.inc, ⟨hM _ h.inM.1, hM _ h.inM.2.1, fun i hi => by
    obtain ⟨a1, a2, a3, a4⟩ := h.inM.2.2 i hi
    exact ⟨hM _ a1, hM _ a2, hM _ a3, hM _ a4⟩⟩, hl, h.l1, h.l2, h.all, h.cap⟩

/-! ### none, Depth, Leaves -/

set_option maxRecDepth 100000 in
theorem tnone_no (t g many lv d c : Nat) (w : World) (h : Blk w t 45 (tcells g many lv d c)) (hd : 1 ≤ d) : Calls Try.prog 16 #[.pointer (some ⟨t, 0, none⟩)] w fun e w' => e = .returned (.bool false) ∧ w' = w := by
  have c2 : w.cell? ⟨t, 2, none⟩ = some (.slice (some ⟨lv, 0, none⟩) d c) := h.cell rfl
  have hd0 : ((d : Int) == 0) = false := by simp; omega
  clear h
  go_enter Try.func16, Try.ntmps16
  go_wp2
  go_ret
  exact ⟨rfl, rfl⟩

theorem tdepth_any (t g many lv d c : Nat) (w : World) (h : Blk w t 45 (tcells g many lv d c)) (hd : 1 ≤ d) : Calls Try.prog 18 #[.pointer (some ⟨t, 0, none⟩)] w fun e w' => e = .returned (.int .i64 (d : Int)) ∧ w' = w := by
  have c2 : w.cell? ⟨t, 2, none⟩ = some (.slice (some ⟨lv, 0, none⟩) d c) := h.cell rfl
  have Hno := Lib.hid (tnone_no t g many lv d c w h hd)
  clear h
  go_enter Try.func18, Try.ntmps18
  go_wp2_with (go_at_call 16; refine Hno.out.mono ?_; rintro e w' ⟨rfl, rfl⟩)
  go_ret
  exact ⟨rfl, rfl⟩

theorem tleaves_any (t g many lv d c : Nat) (w : World) (h : Blk w t 45 (tcells g many lv d c)) (hd : 1 ≤ d) : Calls Try.prog 19 #[.pointer (some ⟨t, 0, none⟩)] w fun e w' => e = .returned (.int .i64 (many : Int)) ∧ w' = w := by
  have c1 : w.cell? ⟨t, 1, none⟩ = some (.int .i64 (many : Int)) := h.cell rfl
  have Hno := Lib.hid (tnone_no t g many lv d c w h hd)
  clear h
  go_enter Try.func19, Try.ntmps19
  go_wp2_with (go_at_call 16; refine Hno.out.mono ?_; rintro e w' ⟨rfl, rfl⟩)
  go_ret
  exact ⟨rfl, rfl⟩

/-! ### Root -/

def RootR (z : Nat) (d : Dg) (Q : World → Prop) (e : Ending) (w' : World) : Prop :=
  ∃ w1, e = .returned (.tuple #[.agg (cbs d).toArray, .int .i64 0]) ∧ Q w1 ∧ w' = w1.setCells z 0 (cbs d)

set_option maxRecDepth 100000 in
set_option maxHeartbeats 800000 in
theorem troot_any (t g many lv k c : Nat) (Q : World → Prop) (d : Dg) (hd : d.length = 32) (w : World) (h : Blk w t 45 (tcells g many lv k c)) (hk : 1 ≤ k)
    (hQ : ∀ w1, Q w1 → Blk w1 w.heap.size 30 (cbs (List.replicate 32 0)))
    (hcall : Calls Try.prog 17 #[.slice (some ⟨lv, 0, none⟩) k c] (w.alloc (.cells (cbs (List.replicate 32 0)).toArray 30)) fun e w1 => e = .returned (.tuple #[.agg (cbs d).toArray, .int .i64 0]) ∧ Q w1) :
    Calls Try.prog 7 #[.pointer (some ⟨t, 0, none⟩)] w (RootR w.heap.size d Q) := by
  obtain ⟨D, hD⟩ : ∃ D, cbs d = D := ⟨_, rfl⟩
  have hD32 : D.length = 32 := by rw [← hD, cbs_length, hd]
  have hD1 : D.toArray.all (·.oneCell') = true := by rw [← hD]; exact cbs_one' _
  have hA : Blk (w.alloc (.cells (cbs (List.replicate 32 0)).toArray 30)) t 45 (tcells g many lv k c) := h.old _
  have c2 : w.cell? ⟨t, 2, none⟩ = some (.slice (some ⟨lv, 0, none⟩) k c) := h.cell rfl
  have hlt := h.lt
  have Hno := Lib.hid (tnone_no t g many lv k c _ hA hk)
  rw [hD] at hcall
  have Hc := Lib.hid hcall
  have HD := Lib.hid (And.intro hD (And.intro hD32 (And.intro hD1 hQ)))
  clear hcall hD hD32 hD1 hA hQ h
  go_enter Try.func7, Try.ntmps7
  go_wp2_with (go_at_call 16; refine Hno.out.mono ?_; rintro e w' ⟨rfl, rfl⟩)
  refine Hc.out.mono ?_
  rintro e w1 ⟨rfl, hQ1⟩
  obtain ⟨hD, hD32, hD1, hQ⟩ := HD.out
  have hZ := hQ w1 hQ1
  have hsD : D.toArray.size = 32 := by rw [List.size_toArray]; exact hD32
  have hth : w1.there w.heap.size 0 D.toArray.size := by
    have e := hZ.there
    rw [cbs_length, List.length_replicate] at e
    rw [hsD]; exact e
  have hi : (Try.prog.info? 30).map (·.size) = some D.toArray.size := by rw [hsD]; exact info32b
  have hR := hZ.setAll (vs := D) (by rw [hD32, cbs_length, List.length_replicate])
  have H := Lib.hid (And.intro hth (And.intro hi (And.intro hR (And.intro hQ1 (And.intro hD hD1)))))
  clear hth hi hR hQ1 hZ hsD hD hD32 hD1 hQ
  go_wp2_with (refine wpList_store_mid rfl 30 _ _ rfl w.heap.size 0 D.toArray rfl rfl H.out.1 H.out.2.1 H.out.2.2.2.2.2 ?_)
  refine bodyPost_ret (results_row_tmp rfl _ _ w.heap.size 30 D.toArray (0, 0) _ rfl H.out.2.2.1 Try.underlying30 rfl H.out.2.1) rfl ?_
  exact ⟨w1, by rw [H.out.2.2.2.2.1]; rfl, H.out.2.2.2.1, by rw [H.out.2.2.2.2.1]⟩

/-- The root of a tree. -/
theorem troot_at {w : World} {M : Nat → Prop} {t g : Nat} {low : List Dg} (h : TreeAt w M t g low) : Calls Try.prog 7 #[.pointer (some ⟨t, 0, none⟩)] w fun e w' => e = .returned (.tuple #[.agg (cbs (rootD low)).toArray, .int .i64 0]) ∧ Below w.heap.size w w' := by
  obtain ⟨L, R, lv, c, h⟩ := h
  have hd1 := dep_pos low.length
  have hd6 := dep_le h.l2
  obtain ⟨n, hn⟩ : ∃ n, dep low.length = n + 1 := ⟨dep low.length - 1, by omega⟩
  have hr1 : lvl low n = [rootD low] := by have := root_one h.l1; rwa [hn] at this
  have hdn := h.dn n (by omega)
  have hb := h.blk
  have hrow := h.row
  have hcap := h.cap.1
  rw [hn] at hb hrow hcap
  have hck := range_cell hrow (i := n) (by omega)
  have hbA : Below w.heap.size w (w.alloc (.cells (cbs (List.replicate 32 0)).toArray 30)) := (Below.refl _ _).alloc (Nat.le_refl _) _
  have hbB := hbA.alloc (by simp) (.cells (cbs (List.replicate 32 0)).toArray 30)
  have hZ : Blk (w.alloc (.cells (cbs (List.replicate 32 0)).toArray 30)) w.heap.size 30 (cbs (List.replicate 32 0)) := Blk.new rfl rfl
  have hro := rootOf_any lv n c (L n) (fun w1 => Below w.heap.size w w1 ∧ Blk w1 w.heap.size 30 (cbs (List.replicate 32 0))) (rootD low) (root_len h.l1 h.all) (w.alloc (.cells (cbs (List.replicate 32 0)).toArray 30)) (by omega) hcap
    ((World.cell?_of_block (hbA.block lv (row_lt hrow))).trans hck) ((ask_done (L n) (R n).1 (R n).2 (lvl low n) _ (hdn.stay (hbB.block _ hdn.p.lt) (hbB.block _ hdn.d.lt) (hbB.block _ hdn.e.lt) (hbB.block _ (row_lt hdn.row)))).mono (by
      rintro e w' ⟨rfl, q, rfl⟩
      refine ⟨(R n).1, (R n).2, by rw [hr1]; rfl, ?_, ?_, ?_, ?_⟩
      · have := (hdn.stay (w' := (((w.alloc (.cells (cbs (List.replicate 32 0)).toArray 30)).alloc (.cells (cbs (List.replicate 32 0)).toArray 30)).drewN q)) (hbB.block _ hdn.p.lt) (hbB.block _ hdn.d.lt) (hbB.block _ hdn.e.lt) (hbB.block _ (row_lt hdn.row))).ds
        rwa [hr1] at this
      · exact (Blk.new rfl rfl : Blk ((w.alloc (.cells (cbs (List.replicate 32 0)).toArray 30)).alloc (.cells (cbs (List.replicate 32 0)).toArray 30)) (w.alloc (.cells (cbs (List.replicate 32 0)).toArray 30)).heap.size _ _)
      · exact ⟨hbB.os, hbB.tape, hbB.output, hbB.size, hbB.block⟩
      · exact hZ.old _))
  refine (troot_any t g _ lv (n + 1) c (fun w1 => Below w.heap.size w w1 ∧ Blk w1 w.heap.size 30 (cbs (List.replicate 32 0))) (rootD low) (root_len h.l1 h.all) w hb (by omega) (fun w1 h1 => h1.2) (hro.mono ?_)).mono ?_
  · rintro e w' ⟨w1, rfl, ⟨h1, h2⟩, rfl, _⟩
    exact ⟨rfl, Below.setCells (by simp) _ h1, h2.farAll (by simp) _⟩
  · rintro e w' ⟨w1, rfl, ⟨h1, _⟩, rfl⟩
    exact ⟨rfl, Below.setCells (Nat.le_refl _) _ h1⟩

end Go.Proofs.Ytkkcjkelijlmbaa

namespace Go.Proofs.Ytkkcjkelijlmbaa

open Go.RowKit Go.Maps

set_option linter.unusedVariables false

theorem newLeaf_any (i : Int) (w : World) : Calls Try.prog 28 #[.int .i64 i] w fun e w' => e = .returned (.slice none 0 0) ∧ w' = w := by
  go_enter Try.func28, Try.ntmps28
  go_wp2
  go_ret
  exact ⟨rfl, rfl⟩

def empties (many : Nat) : List (List UInt8) := List.replicate many []

theorem empties_len (many : Nat) : (empties many).length = many := by simp [empties]

theorem empties_get (many i : Nat) (h : i < (empties many).length) : (empties many)[i] = [] := by simp [empties]

theorem newLeaf_at (many : Nat) (w : World) (K : Nat → Prop) : LeafAt 28 [] w K (empties many) := fun w' _ i hi => by
  rw [empties_get many i hi]
  exact ⟨none, 0, newLeaf_any (i : Int) w', Bs.nil _ _, Nat.le_refl _, by simp [maxLen]⟩

/-- What a pile in memory is for asking. -/
theorem pile_pre {B g bm many : Nat} {s : Bk} {ls : List (List UInt8)} {lf v : Value} {w w2 : World} {k : Nat} {L : Nat → Lv} {N N2 : Nat → Prop} (hm : many = ls.length) (h : PileAt g many lf w k v w2 L) (hk : Kb B w g bm s N) (hB : B ≤ w.heap.size)
    (hN : ∀ i, N2 i ↔ N i ∨ (w.heap.size ≤ i ∧ i < w2.heap.size)) : Pre B g bm s ls lf L k w2 N2 := by
  subst hm
  exact ⟨hk.belowN h.bel fun i hi => (hN i).1 hi, Nat.le_trans hB h.bel.size, h.un, h.caps, fun i hi a ha => (hN a).2 (.inr (h.inn i hi a ha)), h.ord⟩

theorem PileAt.below {g many : Nat} {lf v : Value} {w w2 w3 : World} {k : Nat} {L : Nat → Lv} (h : PileAt g many lf w k v w2 L) (hb : Below w2.heap.size w2 w3) : PileAt g many lf w k v w3 L := by
  have e : ∀ i, i ≤ k → ∀ a, (L i).has a → w3.heap[a]? = w2.heap[a]? := fun i hi a ha => hb.block a (h.inn i hi a ha).2
  exact ⟨row_stay h.row fun b cs _ hc => hb.block b (by
      rcases Nat.lt_or_ge b w2.heap.size with hh | hh
      · exact hh
      · rw [Array.getElem?_eq_none hh] at hc; cases hc),
    fun i hi => (h.un i hi).stay (e i hi _ (by simp [Lv.has])) (e i hi _ (by simp [Lv.has])) (e i hi _ (by simp [Lv.has])) (e i hi _ (by simp [Lv.has])), fun i hi => (h.caps i hi).stay (e i hi), h.ord,
    fun i hi a ha => ⟨(h.inn i hi a ha).1, Nat.lt_of_lt_of_le (h.inn i hi a ha).2 hb.size⟩, h.bel.trans (hb.mono h.bel.size)⟩

/-- What New leaves behind. -/
def NewP (B g bm : Nat) (s : Bk) (many : Nat) (N : Nat → Prop) (w : World) (e : Ending) (w' : World) : Prop :=
  ∃ t M, e = .returned (.tuple #[.pointer (some ⟨t, 0, none⟩), .int .i64 0]) ∧ TreeAt w' M t g (lows (empties many)) ∧ (∀ i, M i → w.heap.size ≤ i) ∧
    Kb B w' g bm (noteAll s (insTo (empties many) (dep many - 1))) (fun i => N i ∨ M i) ∧ Out (Tn B bm w N) w w'

set_option maxRecDepth 100000 in
set_option maxHeartbeats 1600000 in
theorem tnew_any (B g bm : Nat) (s : Bk) (many : Nat) (N : Nat → Prop) (w : World) (hk : Kb B w g bm s N) (hB : B ≤ w.heap.size) (hL : s.1.length + 20000 < 1000000) (hs : s.2.2 + 20000 < 1000000) (h1 : 1 ≤ many) (h2 : many ≤ 1024) :
    Calls Try.prog 14 #[.pointer (some ⟨g, 0, none⟩), .int .i64 (many : Int)] w (NewP B g bm s many N w) := by
  have hb1 : (1 : Int) ≤ (many : Int) := by omega
  have hb2 : (many : Int) ≤ 1024 := by omega
  have Hk := Lib.hid (And.intro hk (And.intro hB (And.intro hL hs)))
  have Hp := Lib.hid (pile_any g many 28 #[] w h1 h2)
  have hnot : ∀ (x : Bool) (w : World), (Op.unary .not (.bool x)).run Try.prog w = .ok (.bool (!x)) w := fun _ _ => rfl
  clear hk hB hL hs
  go_enter Try.func14, Try.ntmps14
  go_wp2_with (go_at_call 27; refine (isCount_yes _ _ hb1 hb2).mono ?_; rintro e w ⟨rfl, rfl⟩)
  refine Hp.out.mono ?_
  rintro e w1 ⟨L, lv, c, rfl, hP, hdc, hcm⟩
  obtain ⟨hk, hB, hL, hs⟩ := Hk.out
  have hd1 := dep_pos many
  have hd6 := dep_le h2
  obtain ⟨d, hd⟩ : ∃ d, dep many = d := ⟨_, rfl⟩
  obtain ⟨w2, hw2⟩ : ∃ w2, w1.alloc (.cells (tcells g many lv d c).toArray 45) = w2 := ⟨_, rfl⟩
  have hb12 : Below w1.heap.size w1 w2 := by rw [← hw2]; exact (Below.refl _ _).alloc (Nat.le_refl _) _
  have hz2 : w2.heap.size = w1.heap.size + 1 := by rw [← hw2]; simp
  have hT2 : Blk w2 w1.heap.size 45 (tcells g many lv d c) := by rw [← hw2]; exact Blk.new rfl rfl
  have hP2 := hP.below hb12
  rw [hd] at hP2 hdc hd1 hd6
  obtain ⟨low, hlow⟩ : ∃ low, lows (empties many) = low := ⟨_, rfl⟩
  have hll : low.length = many := by rw [← hlow, lows_len, empties_len]
  obtain ⟨wA, hwA⟩ : ∃ wA, w2.alloc (.cells (cbs (List.replicate 32 0)).toArray 30) = wA := ⟨_, rfl⟩
  have hb2A : Below w2.heap.size w2 wA := by rw [← hwA]; exact (Below.refl _ _).alloc (Nat.le_refl _) _
  have hzA : wA.heap.size = w2.heap.size + 1 := by rw [← hwA]; simp
  have hZA : Blk wA w2.heap.size 30 (cbs (List.replicate 32 0)) := by rw [← hwA]; exact Blk.new rfl rfl
  have hPA := hP2.below hb2A
  have hpre := pile_pre (ls := empties many) (N2 := fun i => N i ∨ (w.heap.size ≤ i ∧ i < wA.heap.size)) (empties_len many).symm hPA hk hB (fun i => Iff.rfl)
  have hlfA : Lf B 28 [] (empties many) L (d - 1) (fun _ => False) wA (fun i => N i ∨ (w.heap.size ≤ i ∧ i < wA.heap.size)) := ⟨newLeaf_at many wA _, fun j hj => hj.elim⟩
  have hel := empties_len many
  have hIH := ask_all B g bm s (empties many) 28 [] _ L (fun _ => False) hL hs (by omega) (by omega) (ask0N B g bm s (empties many) L (fun _ => False) hL hs (fun x hx => by
    have : x = [] := by unfold empties at hx; exact (List.mem_replicate.1 hx).2
    rw [this]; decide) (by omega) (by omega)) (d - 1) (by omega)
  have hrow := hPA.row
  have hd' : d - 1 + 1 = d := by omega
  rw [hd'] at hrow
  have hck := range_cell hrow (i := d - 1) (by omega)
  have hede : dep (empties many).length = d := by rw [hel, hd]
  have hfirst := rootOf_first B g bm 28 s (empties many) [] _ L (fun _ => False) wA _ lv c (by omega) (by omega) (by rw [hede]; exact hIH) (by rw [hede]; exact hpre) (by rw [hede]; exact hlfA) (by rw [hede]; exact hck) (by rw [hede]; exact hdc)
  rw [hede, hlow] at hfirst
  have hrl : (rootD low).length = 32 := root_len (by omega) (by rw [← hlow]; exact all32_lows _)
  have hLlt : ∀ i, i ≤ d - 1 → ∀ a, (L i).has a → a < w2.heap.size := fun i hi a ha => (hP2.inn i hi a ha).2
  have hroot := troot_any w1.heap.size g many lv d c (fun w1' => ∃ R, Post B g bm s (empties many) L (d - 1) wA (fun i => N i ∨ (w.heap.size ≤ i ∧ i < wA.heap.size)) R w1') (rootD low) hrl w2 hT2 hd1
    (fun w1' ⟨R, hPo⟩ => hPo.out.blk hZA fun e => by
      rcases e with e | ⟨j, hj, ht⟩
      · exact e.2.1 (.inr ⟨by have := hP.bel.size; omega, by omega⟩)
      · have := hLlt j hj _ (Lv.turn_has ht); omega) (by
    rw [hwA]
    refine hfirst.mono ?_
    rintro e w1' ⟨R, rfl, hPo⟩
    exact ⟨rfl, R, hPo⟩)
  obtain ⟨D, hD⟩ : ∃ D, cbs (rootD low) = D := ⟨_, rfl⟩
  have hD32 : D.length = 32 := by rw [← hD, cbs_length, hrl]
  have hD1 : D.toArray.all (·.oneCell') = true := by rw [← hD]; exact cbs_one' _
  have Hroot := Lib.hid hroot
  have H := Lib.hid (And.intro hP2 (And.intro hb12 (And.intro hz2 (And.intro hT2 (And.intro hb2A (And.intro hzA (And.intro hLlt (And.intro hrow (And.intro hlow (And.intro hll (And.intro hD (And.intro hD32 (And.intro hD1 (And.intro hel (And.intro hP.bel (And.intro hd (And.intro hdc hcm)))))))))))))))))
  have Hd1 := Lib.hid hd1
  clear hroot hP hP2 hb12 hz2 hT2 hb2A hzA hLlt hrow hlow hll hD hD32 hD1 hel hcm hdc hfirst hIH hpre hlfA hck hede hPA hZA hwA hd' hrl hk hB hL hs hd1 hd6 hd
  have Hw2 := Lib.hid hw2
  rw [H.out.2.2.2.2.2.2.2.2.2.2.2.2.2.2.2.1]
  unfold tcells at hw2
  go_wp2_with (fail)
  refine Hroot.out.mono ?_
  rintro e w3 ⟨w1', rfl, ⟨R, hPo⟩, hw3⟩
  obtain ⟨hP2, hb12, hz2, hT2, hb2A, hzA, hLlt, hrow, hlow, hll, hD, hD32, hD1, hel, hPb, hd, hdc, hcm⟩ := H.out
  have hwz := hPb.size
  have hPost : Post B g bm s (empties many) L (d - 1) w2 (fun i => N i ∨ (w.heap.size ≤ i ∧ i < w2.heap.size)) R w3 := by
    rw [hw3]
    refine hPo.back (x := fun i => i = w2.heap.size) hLlt hb2A (fun i hi => ?_) (fun i hi hN => ?_) (Out.setRow (S := fun i => i = w2.heap.size) rfl _ (Out.refl _ _)) (size_cells _ _ _ _) (fun i hi => ?_)
    · rcases hi with hi | hi
      · exact .inl hi
      · exact .inr ⟨hi.1, by omega⟩
    · rcases hN with hN | hN
      · exact .inl hN
      · exact .inr ⟨hN.1, hi⟩
    · subst hi
      exact ⟨Nat.le_refl _, by omega, .inr ⟨by omega, by omega⟩⟩
  obtain ⟨wS, hwS, ⟨hth, hi⟩, hbS, hbel, hszS⟩ := dig_local w3 D hD32
  have HwS := Lib.hid hwS
  have Hs := Lib.hid (And.intro hth (And.intro hi hD1))
  have H3 := Lib.hid (And.intro hPost (And.intro hbel hszS))
  rw [hD]
  clear hwS hth hi hbS hbel hszS hPost hP2 hb12 hz2 hT2 hb2A hzA hLlt hrow hlow hll hD hD32 hD1 hel hPb hd hdc hcm hPo hw3 hw2 hwz
  go_wp2_with (refine wpList_store_mid rfl 30 _ _ rfl w3.heap.size 0 D.toArray rfl rfl Hs.out.1 Hs.out.2.1 Hs.out.2.2 ?_; simp only [Act.put]; refine cast (congrArg (fun z => wpList _ _ _ _ _ z) HwS.out.symm) ?_)
  go_ret2
  obtain ⟨hP2, hb12, hz2, hT2, hb2A, hzA, hLlt, hrow, hlow, hll, hD, hD32, hD1, hel, hPb, hd, hdc, hcm⟩ := H.out
  obtain ⟨hPost, hbel, hszS⟩ := H3.out
  have hd1 := Hd1.out
  have hwz := hPb.size
  have h23 := hPost.out.size
  -- the tree's own blocks stand as they stood ahead of Root
  have hkeep : ∀ i, w.heap.size ≤ i → i < w2.heap.size → ¬ TT L (d - 1) i → wS.heap[i]? = w2.heap[i]? := fun i h1 h2 h3 =>
    (hbel.block i (by omega)).trans (hPost.out.block i h2 fun e => by
      rcases e with e | e
      · exact e.2.1 (.inr ⟨h1, h2⟩)
      · exact h3 e)
  have hTTt : ∀ i, TT L (d - 1) i → ∃ j, j ≤ d - 1 ∧ (i = (L j).p ∨ i = (L j).d ∨ i = (L j).e) := fun i ⟨j, hj, ht⟩ => ⟨j, hj, ht⟩
  have hTw : ∀ i, TT L (d - 1) i → w.heap.size ≤ i := fun i ⟨j, hj, ht⟩ => (hP2.inn j hj _ (Lv.turn_has ht)).1
  have hnt : ∀ {i : Nat} {t : TypeId} {l : List Value}, Blk w2 i t l → t ≠ 105 → t ≠ 37 → t ≠ 31 → ¬ TT L (d - 1) i := fun {i t l} hb h1 h2 h3 ⟨j, hj, ht⟩ => by
    have hu := hP2.un j hj
    rcases ht with e | e | e
    · exact hb.ne hu.p h1 e
    · exact hb.ne hu.d h2 e
    · exact hb.ne hu.e h3 e
  have hd' : d - 1 + 1 = d := by omega
  have hrow2 := hP2.row
  rw [hd'] at hrow2
  have hlvr : lv < w2.heap.size := row_lt hrow2
  obtain ⟨csr, hcsr⟩ := row_block hrow2 (b := lv) rfl
  have hlvT : ¬ TT L (d - 1) lv := fun ⟨j, hj, ht⟩ => by
    have hu := hP2.un j hj
    have key : ∀ {b : Nat} {t : TypeId} {l : List Value}, Blk w2 b t l → t ≠ 71 → lv ≠ b := fun {b t l} hb hne e => by
      subst e
      unfold Blk at hb
      rw [hb] at hcsr
      injection hcsr with e1
      injection e1 with _ e1
      exact hne e1
    rcases ht with e | e | e
    · exact key hu.p (by decide) e
    · exact key hu.d (by decide) e
    · exact key hu.e (by decide) e
  have hlvw : w.heap.size ≤ lv := (World.ownsRow.lt hrow2 lv rfl).1
  have hdd : dep low.length = d := by rw [hll, hd]
  refine ⟨w1.heap.size, fun i => (w.heap.size ≤ i ∧ i < w2.heap.size) ∨ RR R (d - 1) i, by rfl, ?_, ?_, ?_, ?_⟩
  · rw [hlow]
    refine ⟨L, R, lv, c, ?_⟩
    have hTS : Blk wS w1.heap.size 45 (tcells g many lv d c) := (hkeep _ hwz (by omega) (hnt hT2 (by decide) (by decide) (by decide))).trans hT2
    refine ⟨by rw [hll, hd]; exact hTS, ?_, fun i hi => ?_, fun i j hij hj => hPost.inc i j hij (by omega), ⟨.inl ⟨hwz, by omega⟩, .inl ⟨hlvw, hlvr⟩, fun i hi => ?_⟩, fun i hi => ?_, by omega, by omega, by rw [← hlow]; exact all32_lows _, by rw [hdd]; exact ⟨hdc, hcm⟩⟩
    · rw [hdd]
      refine row_base (row_stay hrow2 fun b cs hb _ => ?_) (Nat.zero_le _)
      have hb2 : b = lv := by simp [Value.ownBlock] at hb; exact hb.symm
      subst hb2
      exact hkeep _ hlvw hlvr hlvT
    · have hdn := hPost.dn i (by omega)
      rw [hlow] at hdn
      exact hdn.stay (hbel.block _ hdn.p.lt) (hbel.block _ hdn.d.lt) (hbel.block _ hdn.e.lt) (hbel.block _ (row_lt hdn.row))
    · have hin := hP2.inn i (by omega)
      exact ⟨.inl (hin _ (by simp [Lv.has])), .inl (hin _ (by simp [Lv.has])), .inl (hin _ (by simp [Lv.has])), .inr ⟨i, by omega, rfl⟩⟩
    · rcases hi with hi | ⟨j, hj, rfl⟩
      · omega
      · have := row_lt (hPost.dn j hj).row; omega
  · intro i hi
    rcases hi with hi | ⟨j, hj, rfl⟩
    · exact hi.1
    · have := hPost.new j hj; omega
  · rw [hd]
    refine (hPost.kb.below hbel).less fun i hi => ?_
    rcases hi with hi | hi | hi
    · exact .inl (.inl hi)
    · exact .inl (.inr hi)
    · exact .inr hi
  · refine Out.then_below (b := w3) ?_ hbel
    have o2 : Out (Tn B bm w N) w w2 := Out.ofBelow _ (hPb.trans (hb12.mono hwz))
    refine o2.trans hPost.out fun i hi hs => ?_
    rcases hs with hs | hs
    · refine ⟨hs.1, fun e => hs.2.1 (.inl e), ?_⟩
      rcases hs.2.2 with e | ⟨cs, t, fr, hc'⟩
      · exact .inl e
      · exact .inr ⟨cs, t, fr, ((hPb.trans (hb12.mono hwz)).block i hi).symm.trans hc'⟩
    · have := hTw i hs; omega

end Go.Proofs.Ytkkcjkelijlmbaa
