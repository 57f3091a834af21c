/-
  slices.Insert of one number into a row that the caller owns, over this seat's translation.
-/
import Derived.Test.YtjibbbfpbflgmaaCrew1
import Derived.Test.YtjibbbfpbflgmaaShelf8d
namespace Go.Proofs.Ytjibbbfpbflgmaa
open Go.RowKit Go.Shelf CrewP
set_option linter.unusedVariables false

theorem Blk.shape {w : World} {g : Nat} {t : TypeId} {cs : List Value} (h : Blk w g t cs) : w.shape? g = some (t, cs.length) := by
  unfold World.shape?
  unfold Blk at h
  rw [h]
  simp
theorem Blk.drew {w : World} {g : Nat} {t : TypeId} {cs : List Value} (h : Blk w g t cs) : Blk w.drew g t cs := h

theorem zeros_len (k : Nat) : (Builtin.zeroCells (Value.int .i64 0).cells k).toList.length = k := by simp [Builtin.zeroCells, Value.cells]

theorem insert_any (w : World) (base : Nat) (l : List Int) (A : Option Addr) (c i : Nat) (x : Int) (vb : Nat) (hO : OwnI w base (.slice A l.length c) l) (hi : i ≤ l.length) (hv : Blk w vb 3 [ci x])
    (hne : ∀ a, A = some a → a.block ≠ vb) (hl : l.length ≤ 1000) (hbase : base ≤ w.heap.size) :
    Calls Try.prog 55 #[.slice A l.length c, .int .i64 i, .slice (some ⟨vb, 0, none⟩) 1 1] w fun e w' => ∃ v, e = .returned v ∧ OwnI w' base v (l.take i ++ [x] ++ l.drop i) ∧ Below base w w' := by
  have hvs : ∀ j v, [ci x][j]? = some v → w.cell? ⟨vb, 0 + j, none⟩ = some v := fun j v h => by rw [Nat.zero_add]; exact hv.cell h
  have h1v : ∀ v ∈ [ci x], v.oneCell' = true := fun v h => by simp at h; subst h; rfl
  have hlen : (l.take i ++ [x] ++ l.drop i).length = l.length + 1 := by rw [List.length_append, List.length_append, List.length_take, List.length_drop]; simp; omega
  have hcis : cis (l.take i ++ [x] ++ l.drop i) = (cis l).take i ++ [ci x] ++ (cis l).drop i := by rw [cis_append, cis_append, cis_take, cis_drop]; rfl
  rcases own_blk hO with ⟨e, h0, _⟩ | ⟨g, cap, cs, e, hg, hB, hn, hm, hcl, ht⟩
  · injection e with e1 e2 e3
    subst e1; subst e3
    have hl0 : l = [] := List.eq_nil_of_length_eq_zero h0
    subst hl0
    have hi0 : i = 0 := by simpa using hi
    subst hi0
    refine (Any2.slices_Insert_int_end_grow Try.insL none 0 0 vb 0 1 1 [] [ci x] w (by omega) (by omega) (by omega) (by omega) rfl rfl (fun _ => rfl) (fun a h => by cases h) hvs h1v).mono ?_
    rintro e w' ⟨he, hw⟩
    have hGe : 1 ≤ grownCap w (0 + 1) 0 3 := grownCap_ge w _ _ _
    have hGm : grownCap w (0 + 1) 0 3 ≤ maxLen := grownCap_le_maxLen w _ _ _ (by unfold maxLen; omega)
    change w' = w.drew.alloc (.cells ((([] : List Value) ++ [ci x]).toArray ++ Builtin.zeroCells (Value.int .i64 0).cells (grownCap w (0 + 1) 0 3 - (0 + 1))) 3) at hw
    change e = .returned (.slice (some ⟨w.heap.size, 0, none⟩) (0 + 1) (grownCap w (0 + 1) 0 3)) at he
    generalize grownCap w (0 + 1) 0 3 = G at *
    refine ⟨_, he, ?_, by rw [hw]; exact ((Below.refl _ w).drew).alloc hbase _⟩
    rw [hw]
    unfold OwnI
    rw [hlen, hcis]
    refine blk_own (cs := [ci x] ++ (Builtin.zeroCells (Value.int .i64 0).cells (G - (0 + 1))).toList) hbase (Blk.new (by simp) rfl) hGe hGm (by rw [List.length_append, zeros_len]; simp; omega) (by simp [cis])
  · injection e with e1 e2 e3
    subst e1; subst e3
    have hcs : ∀ j v, (cis l)[j]? = some v → w.cell? ⟨g, 0 + j, none⟩ = some v := fun j v h => by
      rw [Nat.zero_add]
      rw [← ht, List.getElem?_take] at h
      split at h
      · exact hB.cell h
      · cases h
    have hcil := cis_length l
    have hgv : g ≠ vb := hne _ rfl
    have hone := cis_one l
    rcases Nat.lt_or_ge i l.length with hil | hil
    · rcases Nat.lt_or_ge l.length c with hroom | hroom
      · refine (Any2.slices_Insert_int_shift Try.insL g 0 l.length c i vb 0 1 1 (cis l) [ci x] w hil (by omega) (by omega) (by unfold maxLen at hm; omega) (Ne.symm hgv) hcil rfl hcs
          (fun j hj => by rw [hB.cell (i := 0 + j) (List.getElem?_eq_getElem (by omega))]; rfl) (fun j hj => hB.free _) hvs hone h1v _ _ _ _ hv.shape hB.shape (by omega) (hv.free _) (hv.free _)).mono ?_
        rintro e w' ⟨he, hw⟩
        refine ⟨_, he, ?_, by rw [hw]; exact Below.setCells hg _ (Below.setCells hg _ ((Below.refl _ w).drew))⟩
        rw [hw]
        unfold OwnI
        rw [hlen, hcis]
        have b1 := Blk.setMore (w := w) ((cis l).drop i) hB.drew (o := 0 + (i + 1)) (by rw [List.length_drop]; omega)
        have b2 := Blk.setMore (w := w) [ci x] b1 (o := 0 + i) (by simp; omega)
        refine blk_own hg b2 (by omega) hm ?_ ?_
        · simp; omega
        · have e1 : (0 + (i + 1)) = i + 1 := by omega
          have e2 : 0 + i = i := by omega
          rw [e1, e2]
          have q1 : (cs.take (i + 1) ++ (cis l).drop i ++ cs.drop (i + 1 + ((cis l).drop i).length)).take i = (cis l).take i := by
            rw [List.append_assoc, List.take_append_of_le_length (by rw [List.length_take]; omega), List.take_take, Nat.min_eq_left (by omega), ← ht, List.take_take, Nat.min_eq_left (by omega)]
          have q2 : (cs.take (i + 1) ++ (cis l).drop i ++ cs.drop (i + 1 + ((cis l).drop i).length)).drop (i + [ci x].length) = (cis l).drop i ++ cs.drop (i + 1 + ((cis l).drop i).length) := by
            rw [List.append_assoc, List.length_singleton, List.drop_append_of_le_length (by rw [List.length_take]; omega), List.drop_of_length_le (by rw [List.length_take]; omega), List.nil_append]
          rw [q1, q2, ← List.append_assoc, List.take_append_of_le_length (by rw [List.length_append, List.length_append, List.length_take, List.length_drop, List.length_singleton]; omega)]
          refine List.take_of_length_le ?_
          rw [List.length_append, List.length_append, List.length_take, List.length_drop, List.length_singleton]; omega
      · refine (Any2.slices_Insert_int_grow Try.insL g 0 l.length c i vb 0 1 1 (cis l) [ci x] w hil (by omega) hn (by omega) (by omega) hcil rfl hcs hvs hone h1v).mono ?_
        rintro e w' ⟨he, hw⟩
        have hGe : l.length + 1 ≤ grownCap w (l.length + 1) c 3 := grownCap_ge w _ _ _
        have hGm : grownCap w (l.length + 1) c 3 ≤ maxLen := grownCap_le_maxLen w _ _ _ (by unfold maxLen; omega)
        change w' = (((w.alloc (.cells (((cis l).take i).toArray ++ Builtin.zeroCells (Value.int .i64 0).cells (l.length + 1 - i) ++ Builtin.zeroCells (Value.int .i64 0).cells (grownCap w (l.length + 1) c 3 - (l.length + 1))) 3)).drew.setCells w.heap.size i [ci x]).drew).setCells w.heap.size (i + 1) ((cis l).drop i) at hw
        change e = .returned (.slice (some ⟨w.heap.size, 0, none⟩) (l.length + 1) (grownCap w (l.length + 1) c 3)) at he
        generalize grownCap w (l.length + 1) c 3 = G at *
        obtain ⟨zs, hzs, hzl⟩ : ∃ zs : List Value, zs.toArray = ((cis l).take i).toArray ++ Builtin.zeroCells (Value.int .i64 0).cells (l.length + 1 - i) ++ Builtin.zeroCells (Value.int .i64 0).cells (G - (l.length + 1)) ∧ zs.length = G ∧ zs.take i = (cis l).take i := by
          refine ⟨(cis l).take i ++ (Builtin.zeroCells (Value.int .i64 0).cells (l.length + 1 - i)).toList ++ (Builtin.zeroCells (Value.int .i64 0).cells (G - (l.length + 1))).toList, by simp, ?_, ?_⟩
          · rw [List.length_append, List.length_append, zeros_len, zeros_len, List.length_take]; omega
          · rw [List.append_assoc, List.take_append_of_le_length (by rw [List.length_take]; omega)]
            exact List.take_of_length_le (by rw [List.length_take]; omega)
        obtain ⟨hzl, hzt⟩ := hzl
        rw [← hzs] at hw
        have b0 : Blk (w.alloc (.cells zs.toArray 3)).drew w.heap.size 3 zs := Blk.new (w := w) rfl rfl
        have b1 := (Blk.setMore (w := w) [ci x] b0 (o := i) (by simp; omega)).drew
        have b2 := Blk.setMore (w := w) ((cis l).drop i) b1 (o := i + 1) (by simp; omega)
        refine ⟨_, he, ?_, by rw [hw]; exact Below.setCells hbase _ (Below.drew (Below.setCells hbase _ (Below.drew ((Below.refl _ w).alloc hbase _))))⟩
        rw [hw]
        unfold OwnI
        rw [hlen, hcis]
        refine blk_own hbase b2 hGe hGm (by simp; omega) ?_
        have q1 : (zs.take i ++ [ci x] ++ zs.drop (i + [ci x].length)).take (i + 1) = (cis l).take i ++ [ci x] := by
          rw [hzt, List.take_append_of_le_length (by rw [List.length_append, List.length_take]; simp; omega)]
          exact List.take_of_length_le (by rw [List.length_append, List.length_take]; simp; omega)
        rw [q1, List.take_append_of_le_length (by rw [List.length_append, List.length_append, List.length_take, List.length_drop]; simp; omega)]
        exact List.take_of_length_le (by rw [List.length_append, List.length_append, List.length_take, List.length_drop]; simp; omega)
    · have hie : i = l.length := by omega
      subst hie
      rcases Nat.lt_or_ge l.length c with hroom | hroom
      · refine (Any2.slices_Insert_int_end_room Try.insL g 0 l.length c vb 0 1 1 [ci x] w (by omega) (by omega) (by unfold maxLen at hm; omega) rfl
          (fun j hj => by rw [hB.cell (i := 0 + l.length + j) (List.getElem?_eq_getElem (by omega))]; rfl) (fun j hj => hB.free _) hvs h1v).mono ?_
        rintro e w' ⟨he, hw⟩
        refine ⟨_, he, ?_, by rw [hw]; exact Below.setCells hg _ (Below.refl _ w)⟩
        rw [hw]
        unfold OwnI
        rw [hlen, hcis]
        have b1 := Blk.setMore (w := w) [ci x] hB (o := 0 + l.length) (by simp; omega)
        refine blk_own hg b1 (by omega) hm (by simp; omega) ?_
        have q0 : (cis l).drop l.length = [] := List.drop_of_length_le (by omega)
        have q1 : (cis l).take l.length = cis l := List.take_of_length_le (by omega)
        rw [Nat.zero_add, ht, q0, q1, List.append_nil, List.take_append_of_le_length (by rw [List.length_append, hcil]; simp)]
        exact List.take_of_length_le (by rw [List.length_append, hcil]; simp)
      · refine (Any2.slices_Insert_int_end_grow Try.insL (some ⟨g, 0, none⟩) l.length c vb 0 1 1 (cis l) [ci x] w (by omega) hn (by omega) (by omega) hcil rfl (fun h => by cases h) (fun a h j v hj => by
          injection h with h; subst h; rw [add_mk]; exact hcs j v hj) hvs h1v).mono ?_
        rintro e w' ⟨he, hw⟩
        have hGe : l.length + 1 ≤ grownCap w (l.length + 1) c 3 := grownCap_ge w _ _ _
        have hGm : grownCap w (l.length + 1) c 3 ≤ maxLen := grownCap_le_maxLen w _ _ _ (by unfold maxLen; omega)
        change w' = w.drew.alloc (.cells ((cis l ++ [ci x]).toArray ++ Builtin.zeroCells (Value.int .i64 0).cells (grownCap w (l.length + 1) c 3 - (l.length + 1))) 3) at hw
        change e = .returned (.slice (some ⟨w.heap.size, 0, none⟩) (l.length + 1) (grownCap w (l.length + 1) c 3)) at he
        generalize grownCap w (l.length + 1) c 3 = G at *
        refine ⟨_, he, ?_, by rw [hw]; exact ((Below.refl _ w).drew).alloc hbase _⟩
        rw [hw]
        unfold OwnI
        rw [hlen, hcis]
        refine blk_own (cs := (cis l ++ [ci x]) ++ (Builtin.zeroCells (Value.int .i64 0).cells (G - (l.length + 1))).toList) hbase (Blk.new (by simp) rfl) hGe hGm (by rw [List.length_append, zeros_len]; simp; omega) ?_
        have q0 : (cis l).drop l.length = [] := List.drop_of_length_le (by omega)
        have q1 : (cis l).take l.length = cis l := List.take_of_length_le (by omega)
        rw [q0, q1, List.append_nil, List.take_append_of_le_length (by rw [List.length_append, hcil]; simp)]
        exact List.take_of_length_le (by rw [List.length_append, hcil]; simp)
end Go.Proofs.Ytjibbbfpbflgmaa
