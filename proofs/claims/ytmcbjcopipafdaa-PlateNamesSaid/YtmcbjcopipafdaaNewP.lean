/-
  New and Read of a plate, over the code.
-/
import Derived.Test.YtmcbjcopipafdaaWrite
import Derived.Laws.OwnMore
namespace Go.Proofs.Ytmcbjcopipafdaa
open Go.RowKit Go.Maps
set_option linter.unusedVariables false

theorem sec_info : (Try.prog.info? 48).map (fun i => (i.zero, i.size, i.bytes)) = some (some (agg64 zero64), 64, 64) := by kernel_rfl
theorem flat_zero (n : Nat) : (madeCells (cbs zero64).toArray (n * 64)).toList = flat (List.replicate n zero64) := by
  have h64 : ∀ s ∈ List.replicate n zero64, s.length = 64 := fun s hs => by rw [List.eq_of_mem_replicate hs]; rfl
  apply List.ext_getElem?
  intro i
  by_cases hi : i < n * 64
  · obtain ⟨a, b, ha, hb, rfl⟩ : ∃ a b, a < n ∧ b < 64 ∧ i = a * 64 + b := ⟨i / 64, i % 64, by omega, by omega, by omega⟩
    rw [flat_at h64 (by simpa using ha) hb, List.getElem_replicate]
    have e1 : (cbs zero64)[b]? = some (.int .u8 0) := by
      unfold zero64
      rw [cbs_get, List.getElem?_replicate, if_pos hb]; rfl
    rw [e1]
    have e2 : ((cbs zero64).toArray[(a * 64 + b) % (cbs zero64).toArray.size]!) = .int .u8 0 := by
      have hs : (cbs zero64).toArray.size = 64 := by rw [List.size_toArray, cbs_length]; rfl
      rw [hs, show (a * 64 + b) % 64 = b by omega, getElem!_pos _ _ (by rw [hs]; exact hb)]
      have : (cbs zero64)[b]? = some ((cbs zero64).toArray[b]'(by rw [hs]; exact hb)) := by
        rw [List.getElem_toArray]; exact List.getElem?_eq_getElem _
      rw [e1] at this
      exact (Option.some.inj this).symm
    unfold madeCells
    simp only [Array.toList_map, Array.toList_range, List.getElem?_map, List.getElem?_range hi, Option.map_some, e2]
  · rw [List.getElem?_eq_none (by rw [Array.length_toList, size_madeCells]; omega), List.getElem?_eq_none (by rw [flat_length h64]; simpa using hi)]

theorem run_makeSec (n : Nat) (hn : n ≤ 4096) (w : World) :
    (Instr.makeSlice 36 (.int .i64 (n : Int)) (.int .i64 (n : Int))).run Try.prog w = .ok (.slice (some ⟨w.heap.size, 0, none⟩) n n) (w.alloc (.cells (flat (List.replicate n zero64)).toArray 48)) := by
  obtain ⟨i0, hi, hz0, hz1, hz2⟩ := info_parts sec_info
  have hr := run_make (P := Try.prog) w 36 48 i0 (agg64 zero64) Try.underlying36 hi hz0 .i64 .i64 n n (by omega) (Int.le_refl _) (by rw [hz2]; omega) (by omega)
  simp only [Int.toNat_natCast] at hr
  rw [hr]
  have e : madeCells (agg64 zero64).cells (n * i0.size) = (flat (List.replicate n zero64)).toArray := by
    rw [hz1, ← flat_zero]
    rfl
  first
    | rw [← e]
    | (simp only [← e]; rfl)

def MadeP (n : Nat) (w : World) (e : Ending) (w' : World) : Prop := ∃ g r m, e = .returned (.tuple #[.pointer (some ⟨g, 0, none⟩), .int .i64 0]) ∧ w.heap.size ≤ g ∧ w.heap.size ≤ r ∧ w.heap.size ≤ m ∧
    PlAt w' (GRM g r m) g r m (newP n) ∧ Below w.heap.size w w'
set_option maxRecDepth 100000 in
set_option maxHeartbeats 800000 in
theorem new_any (n : Nat) (h1 : 1 ≤ n) (h2 : n ≤ 4096) (w : World) : Calls Try.prog 26 #[.int .i64 (n : Int)] w (MadeP n w) := by
  have hmm := @run_makeMap Try.prog
  have hms := run_makeSec n h2
  have i1 : (1 : Int) ≤ n := by omega
  have i2 : (n : Int) ≤ 4096 := by omega
  have d1 : ¬ (n : Int) < 1 := by omega
  have hrow : Blk (w.alloc (.cells (flat (List.replicate n zero64)).toArray 48)) w.heap.size 48 (flat (List.replicate n zero64)) := Blk.new rfl rfl
  have hmap := new_wm (w.alloc (.cells (flat (List.replicate n zero64)).toArray 48)) n
  have H := Lib.hid (And.intro hrow hmap)
  clear hrow hmap
  generalize hF : (flat (List.replicate n zero64)).toArray = F at *
  go_enter Try.func26, Try.ntmps26
  go_wp2
  go_ret2
  have hB : Below w.heap.size w (((w.alloc (.cells F 48)).alloc (.map #[] 0)).alloc (.cells (pcells w.heap.size (w.heap.size + 1) n false (-1) (.slice none 0 0)).toArray 40)) := (((Below.refl _ _).alloc (Nat.le_refl _) _).alloc (by simp) _).alloc (by simp; omega) _
  refine ⟨w.heap.size + 2, w.heap.size, w.heap.size + 1, rfl, by omega, Nat.le_refl _, by omega, ?_, hB⟩
  have hr2 := (H.out.1.old (.map #[] 0)).old (.cells (pcells w.heap.size (w.heap.size + 1) n false (-1) (.slice none 0 0)).toArray 40)
  have hm2 := H.out.2
  have e1 : (w.alloc (.cells F 48)).heap.size = w.heap.size + 1 := by simp
  rw [e1] at hm2
  have hm3 := hm2.stay (w' := ((w.alloc (.cells F 48)).alloc (.map #[] 0)).alloc (.cells (pcells w.heap.size (w.heap.size + 1) n false (-1) (.slice none 0 0)).toArray 40)) (Below.heap_alloc _ _ _ (by simp))
  have hg2 : Blk (((w.alloc (.cells F 48)).alloc (.map #[] 0)).alloc (.cells (pcells w.heap.size (w.heap.size + 1) n false (-1) (.slice none 0 0)).toArray 40)) (w.heap.size + 2) 40 (pcells w.heap.size (w.heap.size + 1) n false (-1) (.slice none 0 0)) := Blk.new rfl (by simp)
  refine ⟨newP_wl n h1 h2, ⟨.slice none 0 0, ?_, KOff.nil _ _⟩, hr2, hm3, .inl rfl, .inr (.inl rfl), .inr (.inr rfl), fun i hi => ?_⟩
  · show Blk _ _ _ (pcells w.heap.size (w.heap.size + 1) (List.replicate n zero64).length false (-1) (.slice none 0 0))
    rw [List.length_replicate]
    exact hg2
  · have hz : (((w.alloc (.cells F 48)).alloc (.map #[] 0)).alloc (.cells (pcells w.heap.size (w.heap.size + 1) n false (-1) (.slice none 0 0)).toArray 40)).heap.size = w.heap.size + 3 := by simp
    show i < (((w.alloc (.cells F 48)).alloc (.map #[] 0)).alloc (.cells (pcells w.heap.size (w.heap.size + 1) n false (-1) (.slice none 0 0)).toArray 40)).heap.size
    rw [hz]
    rcases hi with rfl | rfl | rfl <;> omega
theorem new_none (x : Int) (hx : x < 1 ∨ 4096 < x) (w : World) : Calls Try.prog 26 #[.int .i64 x] w fun e w' => e = .returned (.tuple #[.pointer none, .int .i64 9]) ∧ w' = w := by
  by_cases h : x < 1
  · go_enter Try.func26, Try.ntmps26
    go_wp2
    go_ret2
    exact ⟨rfl, rfl⟩
  · have h2 : 4096 < x := by omega
    go_enter Try.func26, Try.ntmps26
    go_wp2
    go_ret2
    exact ⟨rfl, rfl⟩

/-- An answer of new bytes: none, or a block of its own. -/
def NewS (w : World) (l : List UInt8) (v : Value) (w' : World) : Prop := Below w.heap.size w w' ∧ ((v = .slice none 0 0 ∧ l = []) ∨ (∃ b, v = .slice (some ⟨b, 0, none⟩) 64 64 ∧ w.heap.size ≤ b ∧ l.length = 64 ∧ Blk w' b 48 (cbs l)))
section
variable {w : World} {M : Nat → Prop} {g r m : Nat} {P : Pl}
set_option maxRecDepth 100000 in
set_option maxHeartbeats 800000 in
theorem read_any (h : PlAt w M g r m P) (x : Int) (hx : Wf x) : Calls Try.prog 4 #[.pointer (some ⟨g, 0, none⟩), .int .i64 x] w fun e w' => ∃ v, e = .returned (.tuple #[v, .int .i64 (readP P x).1]) ∧ NewS w (readP P x).2 v w' := by
  have hla := lacks_any h x
  unfold readP
  by_cases h0 : lackE P x = 0
  rotate_left
  · rw [if_pos h0]
    obtain ⟨E, hE⟩ : ∃ E, lackE P x = E := ⟨_, rfl⟩
    rw [hE] at hla h0 ⊢
    have hE0 : (E != 0) = true := by simpa using h0
    have Hla := Lib.hid hla
    clear hla hE h0 h
    go_enter Try.func4, Try.ntmps4
    go_wp2_with (go_at_call 17; refine Hla.out.mono ?_; rintro e w' ⟨rfl, rfl⟩)
    go_ret2
    exact ⟨_, rfl, Below.refl _ _, .inl ⟨rfl, rfl⟩⟩
  · have hin : 0 ≤ x ∧ x < P.st.length := by
      unfold lackE Pl.n at h0
      split at h0
      · cases h0
      · split at h0
        · assumption
        · cases h0
    obtain ⟨i, rfl⟩ : ∃ i : Nat, x = (i : Int) := ⟨x.toNat, by omega⟩
    have hi : i < P.st.length := by omega
    rw [if_neg (by rw [h0]; decide), Int.toNat_natCast]
    rw [h0] at hla
    have Hla := Lib.hid hla
    have Hse := Lib.hid (seen_any h hi)
    have h64 := h.wl.seen hi
    have hn2 := h.wl.n2
    clear hla h0 hin h
    obtain ⟨D, hD, hDl, hDa⟩ : ∃ D, cbs (seenAt P.st P.wt i) = D ∧ D.length = 64 ∧ D.toArray.all (·.oneCell') = true := ⟨_, rfl, by rw [cbs_length]; exact h64, cbs_all _⟩
    unfold agg64 at Hse
    rw [hD] at Hse
    have HD := Lib.hid (And.intro hD h64)
    clear hD h64
    go_enter Try.func4, Try.ntmps4
    go_wp2_with (go_at_call 17; refine Hla.out.mono ?_; rintro e w' ⟨rfl, rfl⟩)
    refine Hse.out.mono ?_
    rintro e w1 ⟨rfl, hb1⟩
    obtain ⟨wS, eS, t1, i1, B1, bS, _⟩ := sec_local w1 D hDl
    have H := Lib.hid (And.intro eS (And.intro t1 (And.intro i1 (And.intro B1 (And.intro bS hb1)))))
    clear eS t1 i1 B1 bS hb1
    go_wp2_with (refine wpList_store_mid rfl 48 _ _ rfl w1.heap.size 0 D.toArray rfl rfl H.out.2.1 H.out.2.2.1 hDa ?_; simp only [Act.put]; refine cast (congrArg (fun z => wpList _ _ _ _ _ z) H.out.1.symm) ?_)
    go_ret2
    have hbb := H.out.2.2.2.2.2
    refine ⟨_, rfl, hbb.trans (H.out.2.2.2.2.1.mono hbb.size), .inr ⟨w1.heap.size, rfl, hbb.size, HD.out.2, ?_⟩⟩
    rw [HD.out.1]; exact H.out.2.2.2.1
end
end Go.Proofs.Ytmcbjcopipafdaa
