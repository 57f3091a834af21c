/-
  A plate in memory; its small calls, over the code.
-/
import Derived.Test.YtmcbjcopipafdaaWm
import Derived.Test.YtmcbjcopipafdaaIter
import Derived.Outline
import Derived.Deep.RegionHeld3
import Derived.Deep.RegionWith
import Derived.Deep.DeepCutAuto
namespace Go.Proofs.Ytmcbjcopipafdaa
open Go.RowKit Go.Maps
set_option linter.unusedVariables false

def cbls (l : List Bool) : List Value := l.map Value.bool
theorem cbls_length (l : List Bool) : (cbls l).length = l.length := by simp [cbls]
theorem cbls_get (l : List Bool) (i : Nat) : (cbls l)[i]? = (l[i]?).map Value.bool := by simp [cbls]
/-- A slice of bools, in no block of M. -/
def KOff (w : World) (M : Nat → Prop) (kv : Value) (l : List Bool) : Prop := ∃ (A : Option Addr) (c : Nat), kv = .slice A l.length c ∧ l.length ≤ c ∧ c ≤ maxLen ∧
  (0 < l.length → ∃ b off, A = some ⟨b, off, none⟩ ∧ b < w.heap.size ∧ ¬ M b ∧ ∀ (j : Nat) u, (cbls l)[j]? = some u → w.cell? ⟨b, off + j, none⟩ = some u)
def pcells (r m n : Nat) (dead : Bool) (ah : Int) (kv : Value) : List Value := [.slice (some ⟨r, 0, none⟩) n n, .map (some m), .bool dead, .int .i64 ah, kv]
/-- A plate in memory: its blocks g (itself), r (what stays), m (what waits); M: such blocks as may turn. -/
structure PlAt (w : World) (M : Nat → Prop) (g r m : Nat) (P : Pl) : Prop where
  wl : Wl P
  blk : ∃ kv, Blk w g 40 (pcells r m P.st.length P.dead P.ah kv) ∧ KOff w M kv P.kp
  row : Blk w r 48 (flat P.st)
  map : Wm w m P.wt
  mg : M g
  mr : M r
  mm : M m
  lt : ∀ i, M i → i < w.heap.size
abbrev GRM (g r m : Nat) : Nat → Prop := fun i => i = g ∨ i = r ∨ i = m

section
variable {w w' : World} {M M' : Nat → Prop} {g r m : Nat} {P : Pl} {kv : Value} {l : List Bool}
theorem KOff.nil (w : World) (M : Nat → Prop) : KOff w M (.slice none 0 0) [] := ⟨none, 0, rfl, Nat.le_refl _, by simp [maxLen], fun h => absurd h (by simp)⟩
theorem KOff.stay (h : KOff w M kv l) (hz : w.heap.size ≤ w'.heap.size) (hk : ∀ i, i < w.heap.size → ¬ M i → w'.heap[i]? = w.heap[i]?) : KOff w' M kv l := by
  obtain ⟨A, c, e, h1, h2, h3⟩ := h
  refine ⟨A, c, e, h1, h2, fun hl => ?_⟩
  obtain ⟨b, off, eA, hb, hM, hc⟩ := h3 hl
  exact ⟨b, off, eA, by omega, hM, fun j u hu => by rw [World.cell?_of_block (hk b hb hM)]; exact hc j u hu⟩
theorem KOff.out {S : Nat → Prop} (h : KOff w M kv l) (ho : Out S w w') (hS : ∀ i, S i → M i) : KOff w' M kv l := h.stay ho.size fun i hi hM => ho.block i hi fun e => hM (hS i e)
theorem KOff.below (h : KOff w M kv l) (hb : Below w.heap.size w w') : KOff w' M kv l := h.stay hb.size fun i hi _ => hb.block i hi

theorem PlAt.ne (h : PlAt w M g r m P) : g ≠ r ∧ g ≠ m ∧ r ≠ m := by
  obtain ⟨kv, hb, _⟩ := h.blk
  refine ⟨?_, h.map.off hb, h.map.off h.row⟩
  rintro rfl
  have h2 := h.row
  unfold Blk at hb h2
  rw [hb] at h2
  injection h2 with h2
  injection h2 with _ h2
  revert h2
  decide
theorem PlAt.out {S : Nat → Prop} (h : PlAt w M g r m P) (ho : Out S w w') (hS : ∀ i, S i → M i) (hg : ¬ S g) (hr : ¬ S r) (hm : ¬ S m) : PlAt w' M g r m P := by
  obtain ⟨kv, hb, hk⟩ := h.blk
  exact ⟨h.wl, ⟨kv, ho.blk hb hg, hk.out ho hS⟩, ho.blk h.row hr, h.map.stay (ho.block m h.map.lt hm), h.mg, h.mr, h.mm, fun i hi => Nat.lt_of_lt_of_le (h.lt i hi) ho.size⟩
theorem PlAt.below (h : PlAt w M g r m P) (hb : Below w.heap.size w w') : PlAt w' M g r m P := h.out (Out.ofBelow (fun _ => False) hb) (fun _ e => e.elim) (fun e => e) (fun e => e) (fun e => e)
theorem PlAt.size (h : PlAt w M g r m P) : P.wt.length ≤ 4096 := by rw [h.wl.wt]; exact h.wl.n2
theorem PlAt.widen (h : PlAt w M g r m P) (hk : P.kp = []) (hM : ∀ i, M i → M' i) (hl : ∀ i, M' i → i < w.heap.size) : PlAt w M' g r m P := by
  obtain ⟨kv, hb, A, c, e, h1, h2, h3⟩ := h.blk
  exact ⟨h.wl, ⟨kv, hb, A, c, e, h1, h2, fun hp => by rw [hk] at hp; simp at hp⟩, h.row, h.map, hM _ h.mg, hM _ h.mr, hM _ h.mm, hl⟩
end

section
variable {w : World} {M : Nat → Prop} {g r m : Nat} {P : Pl}
theorem eqlSomeSectors (b o n c : Nat) (w : World) : (binOp .eql 36 (.slice (some ⟨b, o, none⟩) n c) (.slice none 0 0)).run Try.prog w = .ok (.bool false) w := by kernel_rfl
set_option maxRecDepth 100000 in
theorem none_any (h : PlAt w M g r m P) : Calls Try.prog 19 #[.pointer (some ⟨g, 0, none⟩)] w fun e w' => e = .returned (.bool false) ∧ w' = w := by
  obtain ⟨kv, hb, _⟩ := h.blk
  have c0 : w.cell? ⟨g, 0, none⟩ = some (.slice (some ⟨r, 0, none⟩) P.st.length P.st.length) := hb.cell rfl
  clear h hb
  have heq := eqlSomeSectors
  go_enter Try.func19, Try.ntmps19
  go_wp2
  go_ret
  exact ⟨rfl, rfl⟩
set_option maxRecDepth 100000 in
theorem refuses_any (h : PlAt w M g r m P) : Calls Try.prog 21 #[.pointer (some ⟨g, 0, none⟩)] w fun e w' => e = .returned (.int .i64 (refE P)) ∧ w' = w := by
  have Hno := Lib.hid (none_any h)
  obtain ⟨kv, hb, _⟩ := h.blk
  have c0 : w.cell? ⟨g, 2, none⟩ = some (.bool P.dead) := hb.cell rfl
  clear h hb
  cases hd : P.dead with
  | true =>
    have e : refE P = 50 := by unfold refE; rw [if_pos hd]
    rw [e]
    rw [hd] at c0
    clear e hd
    go_enter Try.func21, Try.ntmps21
    go_wp2_with (go_at_call 19; refine Hno.out.mono ?_; rintro e w' ⟨rfl, rfl⟩)
    go_ret
    exact ⟨rfl, rfl⟩
  | false =>
    have e : refE P = 0 := by unfold refE; rw [hd]; rfl
    rw [e]
    rw [hd] at c0
    clear e hd
    go_enter Try.func21, Try.ntmps21
    go_wp2_with (go_at_call 19; refine Hno.out.mono ?_; rintro e w' ⟨rfl, rfl⟩)
    go_ret
    exact ⟨rfl, rfl⟩
set_option maxRecDepth 100000 in
theorem lacks_any (h : PlAt w M g r m P) (x : Int) : Calls Try.prog 17 #[.pointer (some ⟨g, 0, none⟩), .int .i64 x] w fun e w' => e = .returned (.int .i64 (lackE P x)) ∧ w' = w := by
  have hre := refuses_any h
  obtain ⟨kv, hb, _⟩ := h.blk
  have c0 : w.cell? ⟨g, 0, none⟩ = some (.slice (some ⟨r, 0, none⟩) P.st.length P.st.length) := hb.cell rfl
  have hn2 := h.wl.n2
  clear h hb
  cases hd : P.dead with
  | true =>
    have e : lackE P x = 50 := by unfold lackE; rw [if_pos hd]
    have e1 : refE P = 50 := by unfold refE; rw [if_pos hd]
    rw [e]
    rw [e1] at hre
    have Hre := Lib.hid hre
    clear e e1 hd hre
    go_enter Try.func17, Try.ntmps17
    go_wp2_with (go_at_call 21; refine Hre.out.mono ?_; rintro e w' ⟨rfl, rfl⟩)
    go_ret
    exact ⟨rfl, rfl⟩
  | false =>
    have e1 : refE P = 0 := by unfold refE; rw [hd]; rfl
    rw [e1] at hre
    have Hre := Lib.hid hre
    by_cases h0 : x < 0
    · have e : lackE P x = 9 := by unfold lackE; rw [hd]; simp; omega
      rw [e]
      clear e e1 hd hre
      go_enter Try.func17, Try.ntmps17
      go_wp2_with (go_at_call 21; refine Hre.out.mono ?_; rintro e w' ⟨rfl, rfl⟩)
      go_ret
      exact ⟨rfl, rfl⟩
    · by_cases h1 : x < P.st.length
      · have e : lackE P x = 0 := by unfold lackE Pl.n; rw [hd]; simp; omega
        rw [e]
        clear e e1 hd hre
        go_enter Try.func17, Try.ntmps17
        go_wp2_with (go_at_call 21; refine Hre.out.mono ?_; rintro e w' ⟨rfl, rfl⟩)
        go_ret
        exact ⟨rfl, rfl⟩
      · have e : lackE P x = 9 := by unfold lackE Pl.n; rw [hd]; simp; omega
        rw [e]
        clear e e1 hd hre
        go_enter Try.func17, Try.ntmps17
        go_wp2_with (go_at_call 21; refine Hre.out.mono ?_; rintro e w' ⟨rfl, rfl⟩)
        go_ret
        exact ⟨rfl, rfl⟩
set_option maxRecDepth 100000 in
theorem size_any (h : PlAt w M g r m P) : Calls Try.prog 5 #[.pointer (some ⟨g, 0, none⟩)] w fun e w' => e = .returned (.int .i64 (P.st.length : Int)) ∧ w' = w := by
  have Hno := Lib.hid (none_any h)
  obtain ⟨kv, hb, _⟩ := h.blk
  have c0 : w.cell? ⟨g, 0, none⟩ = some (.slice (some ⟨r, 0, none⟩) P.st.length P.st.length) := hb.cell rfl
  clear h hb
  go_enter Try.func5, Try.ntmps5
  go_wp2_with (go_at_call 19; refine Hno.out.mono ?_; rintro e w' ⟨rfl, rfl⟩)
  go_ret
  exact ⟨rfl, rfl⟩
set_option maxRecDepth 100000 in
theorem dead_any (h : PlAt w M g r m P) : Calls Try.prog 12 #[.pointer (some ⟨g, 0, none⟩)] w fun e w' => e = .returned (.bool P.dead) ∧ w' = w := by
  have Hno := Lib.hid (none_any h)
  obtain ⟨kv, hb, _⟩ := h.blk
  have c0 : w.cell? ⟨g, 2, none⟩ = some (.bool P.dead) := hb.cell rfl
  have hnot : ∀ (x : Bool) (w : World), (Op.unary .not (.bool x)).run Try.prog w = .ok (.bool (!x)) w := fun _ _ => rfl
  clear h hb
  go_enter Try.func12, Try.ntmps12
  go_wp2_with (go_at_call 19; refine Hno.out.mono ?_; rintro e w' ⟨rfl, rfl⟩)
  go_ret
  exact ⟨rfl, rfl⟩

theorem sorts_in (n : Nat) : AnyZI.SortsIn Try.prog Try.sortedA_ren Fence.wide n :=
  ⟨fun blk off cap ss W hH hblk hsz => callsIn_wide.2 (AnyM.slices_Sort_int Try.sortA blk off cap ss W hH hblk hsz),
   fun p cap W => callsIn_wide.2 (AnyM.slices_Sort_int_none Try.sortA p cap W)⟩
theorem zs_sort (wt : Wt) : (zs wt).mergeSort (fun x y => decide (x ≤ y)) = zs wt := by
  refine List.mergeSort_of_pairwise ?_
  unfold zs
  refine List.pairwise_map.2 ((wk_sorted wt).imp fun {a b} (hab : a < b) => ?_)
  simp only [decide_eq_true_eq]
  omega

set_option maxRecDepth 100000 in
set_option maxHeartbeats 1000000 in
theorem waiting_any (h : PlAt w M g r m P) : Calls Try.prog 22 #[.pointer (some ⟨g, 0, none⟩)] w fun e w' => ∃ v, e = .returned v ∧
    w'.ownsRow w.heap.size 3 1 v (wk P.wt).length ((zs P.wt).map encZ) ∧ Below w.heap.size w w' := by
  have hl := h.size
  obtain ⟨kv, hb, _⟩ := h.blk
  have c0 : w.cell? ⟨g, 1, none⟩ = some (.map (some m)) := hb.cell rfl
  obtain ⟨D0, nn, hown, hf⟩ := h.map
  have hper := keys_perm_wk hown hf hl
  have hsz := size_wk hown hf hl
  have hle := wk_len P.wt
  refine (callsIn_wide (n := 6)).1 ?_
  have hbl := hown.lt
  have hseq : SeqGives Fence.wide 2 Try.prog 48 #[.pointer (some ⟨w.heap.size, 0, none⟩)] encZ (fun ss => ss.Perm (intKeys D0)) (Maps.size D0) (w.alloc (.cells #[.map (some m)] 37)) :=
    AnyZI.keys_gives (ρ := Try.keysA_ren) { Try.keysA with } Fence.wide _ trivial rfl (by omega) w.heap.size m nn D0 _ (by simp) (by simp) (by
      obtain ⟨es, clock, hb, Ft, hs, hD⟩ := hown
      exact ⟨es, clock, (Below.heap_alloc _ _ m hbl).trans hb, Ft, hs, hD⟩)
  have cK : ∀ mb W, CallsIn Fence.wide 5 Try.prog 32 #[.map mb] W fun e w' => e = .returned (.func (.func 48) #[] #[.pointer (some ⟨W.heap.size, 0, none⟩)]) ∧ w' = W.alloc (.cells #[.map mb] 37) := fun mb W => AnyZI.keys_in Try.keysA Fence.wide 5 trivial rfl mb W
  have cS := AnyZI.sorted_in Try.sortedA Fence.wide 5 trivial trivial trivial trivial rfl (by omega) (sorts_in _) (enters_of Try.func47 (by kernel_rfl) rfl) 48 #[.pointer (some ⟨w.heap.size, 0, none⟩)] trivial (enters_of Try.func48 (by kernel_rfl) rfl) _ _ (by rw [hsz]; unfold maxLen; omega) (by rw [hsz]; omega) _ hseq
  change CallsIn _ _ Try.prog 31 _ _ _ at cS
  have hfK : Fence.wide.fn 32 := trivial
  have hfS : Fence.wide.fn 31 := trivial
  have Hper := Lib.hid hper
  clear hseq hper hf hsz hle hown h hb
  refine callsIn_of_wp Try.func22 rfl trivial ?_ rfl
  simp only [Try.ntmps22, List.size_toArray, List.length_cons, List.length_nil, Nat.reduceAdd, Nat.reduceSub, Array.replicate_succ, Array.replicate_zero, List.push_toArray, List.append_toArray, List.nil_append, List.cons_append]
  gi_wp2_with (first
    | (gi_at_call 32; refine (cK _ _).mono ?_; rintro e w' ⟨rfl, rfl⟩)
    | (gi_at_call 31; refine cS.mono ?_; rintro e w' ⟨v, ss, rfl, hS, hrow, hnil, hb⟩))
  go_ret
  have hp := hS.trans Hper.out.symm
  have e1 : ss.mergeSort (fun x y => decide (x ≤ y)) = zs P.wt := (mergeSort_of_perm_i hp).trans (zs_sort _)
  have e2 : ss.length = (wk P.wt).length := by rw [hp.length_eq]; simp [zs]
  refine ⟨v, rfl, ?_, ((Below.refl _ w).alloc (Nat.le_refl _) _).trans (hb.mono (by simp))⟩
  have := ownsRow_base_a hrow (base' := w.heap.size) (by simp)
  rw [e1, e2] at this
  exact this
end
end Go.Proofs.Ytmcbjcopipafdaa
