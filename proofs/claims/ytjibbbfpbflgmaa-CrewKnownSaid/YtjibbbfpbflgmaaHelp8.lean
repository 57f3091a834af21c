/-
  The statements' helpers over the code: chapter, Same, Copy.
-/
import Derived.Test.YtjibbbfpbflgmaaVot8
namespace Go.Proofs.Ytjibbbfpbflgmaa
open Go.RowKit Go.Shelf CrewP
set_option linter.unusedVariables false

theorem results_row {P : Program} {fn : Func} {p : Tmp} {ty : TypeId} (h : fn.results = #[.cell p ty]) (tmps : Array Value) (w : World) (g : Nat) (t : TypeId) (cs : Array Value) (d : TypeDesc)
    (hp : tmps.getD p undef = .pointer (some ⟨g, 0, none⟩)) (hg : w.heap[g]? = some (.cells cs t (0, 0)))
    (hu : P.underlying ty = some d) (hd : (match d with | .struct _ | .array _ _ => true | _ => false) = true) (hi : (P.info? ty).map (·.size) = some cs.size) :
    (results fn tmps).run P w = .ok (.agg cs) w := by
  have hp' : tmps[p]?.getD undef = .pointer (some ⟨g, 0, none⟩) := by simpa using hp
  simp [results, h, hp', asAddr, run_loadVar_row w g t ty cs (0, 0) d hg hu hd hi]

/-- A value that is a crew. -/
def CrewV (w : World) (v : Value) (f : Int) (l : List Int) : Prop := ∃ A c, v = .agg #[.int .i64 f, .slice A l.length c] ∧ ArgI w A l.length c l
theorem CrewV.on {w w' : World} {v : Value} {f : Int} {l : List Int} (h : CrewV w v f l) (hb : Below w.heap.size w w') : CrewV w' v f l := by
  obtain ⟨A, c, e, h1⟩ := h
  exact ⟨A, c, e, h1.after hb⟩
/-- A value that is a list. -/
def ListV (w : World) (v : Value) (l : List Int) : Prop := ∃ A c, v = .slice A l.length c ∧ ArgI w A l.length c l
theorem ListV.on {w w' : World} {v : Value} {l : List Int} (h : ListV w v l) (hb : Below w.heap.size w w') : ListV w' v l := by
  obtain ⟨A, c, e, h1⟩ := h
  exact ⟨A, c, e, h1.after hb⟩
theorem NewI.list {w w' : World} {v : Value} {l : List Int} (h : NewI w l v w') (hw : ∀ x ∈ l, Wf x) : ListV w' v l := by
  obtain ⟨A, c, e, h1⟩ := h.own.arg hw
  exact ⟨A, c, e, h1⟩
theorem list_new (w : World) (l : List Int) (hw : ∀ x ∈ l, Wf x) (hl : l.length ≤ 1000) : ArgI (w.alloc (.cells (cis l).toArray 3)) (some ⟨w.heap.size, 0, none⟩) l.length l.length l :=
  ⟨rfl, Nat.le_refl _, by unfold maxLen; omega, is_new w l, hw⟩

theorem chapter_any (w : World) : Calls Try.prog 44 #[] w fun e w' => ∃ v, e = .returned v ∧ CrewV w' v 1 [2, 3, 5, 7] ∧ Below w.heap.size w w' := by
  obtain ⟨W, hW⟩ : ∃ W, w.alloc (.cells #[.int .i64 1, .slice (some ⟨w.heap.size + 1, 0, none⟩) 4 4] 24) = W := ⟨_, rfl⟩
  have hB : Blk W w.heap.size 24 [.int .i64 1, .slice (some ⟨w.heap.size + 1, 0, none⟩) 4 4] := by rw [← hW]; exact Blk.new rfl rfl
  have hs : W.heap.size = w.heap.size + 1 := by rw [← hW]; simp
  have hb : Below w.heap.size w (W.alloc (.cells (cis [2, 3, 5, 7]).toArray 3)) := by
    rw [← hW]; exact ((Below.refl _ _).alloc (Nat.le_refl _) _).alloc (by simp) _
  have hA := list_new W [2, 3, 5, 7] (by decide) (by decide)
  rw [hs] at hA
  have H := Lib.hid (And.intro (hB.old (.cells (cis [2, 3, 5, 7]).toArray 3)) (And.intro hA (And.intro hb hW)))
  clear hB hs hb hA hW
  go_enter Try.func44, Try.ntmps44
  go_wp2
  rw [H.out.2.2.2]
  refine bodyPost_ret (results_row rfl _ _ w.heap.size 24 _ _ rfl H.out.1 Try.underlying24 rfl crew_size) rfl ?_
  exact ⟨_, rfl, ⟨_, _, rfl, H.out.2.1⟩, H.out.2.2.1⟩

set_option maxHeartbeats 800000 in
theorem same_any (f f' : Int) (A A' : Option Addr) (n n' c c' : Nat) (l l' : List Int) (w : World) (h : ArgI w A n c l) (h' : ArgI w A' n' c' l') :
    Calls Try.prog 22 #[.agg #[.int .i64 f, .slice A n c], .agg #[.int .i64 f', .slice A' n' c']] w fun e w' => e = .returned (.bool (decide (f = f' ∧ l = l'))) ∧ Below w.heap.size w w' := by
  have hb1 : Below w.heap.size w (w.alloc (.cells #[.int .i64 f, .slice A n c] 24)) := (Below.refl _ _).alloc (Nat.le_refl _) _
  have hb2 := hb1.alloc (by simp) (.cells #[.int .i64 f', .slice A' n' c'] 24)
  have hE := eqInts_any A A' n n' c c' l l' _ (h.after hb2) (h'.after hb2)
  have H := Lib.hid (And.intro hE hb2)
  clear hE hb1 hb2 h h'
  by_cases hf : f = f'
  · subst hf
    have hq : (f == f) = true := by simp
    have e : decide (f = f ∧ l = l') = decide (l = l') := by simp
    rw [e]
    generalize decide (l = l') = z at *
    go_enter Try.func22, Try.ntmps22
    go_wp2_with (go_at_call 23; refine H.out.1.mono ?_; rintro e w' ⟨rfl, hb⟩)
    go_ret
    exact ⟨rfl, H.out.2.trans (hb.mono H.out.2.size)⟩
  · have hq : (f == f') = false := by simp [hf]
    have e : decide (f = f' ∧ l = l') = false := by simp [hf]
    rw [e]
    go_enter Try.func22, Try.ntmps22
    go_wp2
    go_ret
    exact ⟨rfl, H.out.2⟩

set_option maxRecDepth 100000 in
set_option maxHeartbeats 1600000 in
theorem copy_any (f : Int) (A : Option Addr) (n c : Nat) (l : List Int) (w : World) (h : ArgI w A n c l) (hn : n ≤ 17592186043904) : Calls Try.prog 16 #[.agg #[.int .i64 f, .slice A n c]] w fun e w' => ∃ v, e = .returned (.agg #[.int .i64 f, v]) ∧ NewI w l v w' := by
  have hx := Rx.new (f := f) h
  obtain ⟨w5, hw5⟩ : ∃ W, ((w.alloc (.cells #[.int .i64 f, .slice A n c] 24)).alloc (.cells #[.int .i64 0, .slice none 0 0] 24)) = W := ⟨_, rfl⟩
  rw [hw5] at hx
  have H := Lib.hid hx
  have Hw := Lib.hid hw5
  clear hx h hw5
  go_enter Try.func16, Try.ntmps16
  go_wp2
  rw [Hw.out]
  have n0d : w5.drew.cell? ⟨w.heap.size, 0, none⟩ = some (.int .i64 f) ∧ w5.drew.cell? ⟨w.heap.size, 1, none⟩ = some (.slice A n c) := ⟨H.out.k0, H.out.k1⟩
  refine wp_region_held_drew (S := fun W' => W'.cell? ⟨w.heap.size, 0, none⟩ = some (.int .i64 f) ∧ W'.cell? ⟨w.heap.size, 1, none⟩ = some (.slice A n c)) (by kernel_rfl) n0d (fun _ => ?_)
  refine anyH_take (i := 0) (d := 3) (v := ?v0) rfl rfl (by kernel_rfl) (by kernel_rfl) (by kernel_rfl) (fun _ _ _ h => h) (Or.inl ⟨by rfl, ?vy0⟩) n0d ?vr0
  case vy0 => (intro w; go_simp; try with_reducible rfl)
  simp only [List.setIfInBounds_toArray, List.set_cons_zero, List.set_cons_succ]
  refine wpAnyH_take' (i := 1) (d := 4) (v := ?v1) rfl rfl (by kernel_rfl) (by kernel_rfl) (by kernel_rfl) (fun _ _ _ h => h) (Or.inl ⟨by rfl, ?vy1⟩) n0d ?vr1
  case vy1 => (intro w hSw; go_split_ands; go_simp; try with_reducible rfl)
  simp only [List.setIfInBounds_toArray, List.set_cons_zero, List.set_cons_succ]
  refine anyH_take (i := 2) (d := 5) (v := ?v2) rfl rfl (by kernel_rfl) (by kernel_rfl) (by kernel_rfl) (fun _ _ _ h => h) (Or.inl ⟨by rfl, ?vy2⟩) n0d ?vr2
  case vy2 => (intro w; go_simp; try with_reducible rfl)
  simp only [List.setIfInBounds_toArray, List.set_cons_zero, List.set_cons_succ]
  refine wpAnyH_take' (i := 3) (d := 6) (v := ?v3) rfl rfl (by kernel_rfl) (by kernel_rfl) (by kernel_rfl) (fun _ _ _ h => h) (Or.inl ⟨by rfl, ?vy3⟩) n0d ?vr3
  case vy3 => (intro w hSw; go_split_ands; go_simp; try with_reducible rfl)
  simp only [List.setIfInBounds_toArray, List.set_cons_zero, List.set_cons_succ]
  refine anyH_one (i := 4) (by kernel_rfl) ?_
  refine wpOp_step rfl (fun K hK => ?_)
  go_simp
  refine (copyInts_any A n c l w5.drew (H.out.drewN 1).arg hn).mono ?_
  rintro e w6 ⟨v6, rfl, hN6⟩
  obtain ⟨A6, c6, rfl, _⟩ := hN6.own.form
  have hx6 := (H.out.drewN 1).on hN6.2
  have b0 : w6.cell? ⟨w.heap.size, 0, none⟩ = some (.int .i64 f) ∧ w6.cell? ⟨w.heap.size, 1, none⟩ = some (.slice A n c) := ⟨hx6.k0, hx6.k1⟩
  have hth := hx6.res.there
  obtain ⟨ho1, ho2⟩ := out2 hx6.res hx6.bel f (.slice A6 l.length c6)
  have hO7 := own_set (own_set hN6.own (g := w.heap.size + 1) (by have := H.out.big; show w.heap.size + 1 < w5.heap.size; omega) 0 (.int .i64 f)) (g := w.heap.size + 1) (by have := H.out.big; show w.heap.size + 1 < w5.heap.size; omega) 1 (.slice A6 l.length c6)
  have b0' := (hx6.blk.far (p := ⟨w.heap.size + 1, 0, none⟩) (by show w.heap.size ≠ w.heap.size + 1; omega) (.int .i64 f)).far (p := ⟨w.heap.size + 1, 1, none⟩) (by show w.heap.size ≠ w.heap.size + 1; omega) (.slice A6 l.length c6)
  have hS3 : ((w6.setCell ⟨w.heap.size + 1, 0, none⟩ (.int .i64 f)).setCell ⟨w.heap.size + 1, 1, none⟩ (.slice A6 l.length c6)).cell? ⟨w.heap.size, 0, none⟩ = some (.int .i64 f) ∧ ((w6.setCell ⟨w.heap.size + 1, 0, none⟩ (.int .i64 f)).setCell ⟨w.heap.size + 1, 1, none⟩ (.slice A6 l.length c6)).cell? ⟨w.heap.size, 1, none⟩ = some (.slice A n c) := ⟨b0'.cell rfl, b0'.cell rfl⟩
  have H6 := Lib.hid (And.intro ho1 (And.intro ho2 hO7))
  clear hN6 hx6 ho1 ho2 hO7 b0'
  obtain ⟨n6, hn6⟩ : ∃ n6, l.length = n6 := ⟨_, rfl⟩
  rw [hn6] at H6 hS3 ⊢
  have Hn6 := Lib.hid hn6
  clear hn6
  refine hK _ _ ⟨b0, ?_⟩
  clear hK K
  refine anyH_take (i := 5) (d := 8) (v := ?v5) rfl rfl (by kernel_rfl) (by kernel_rfl) (by kernel_rfl) (fun _ _ _ h => h) (Or.inl ⟨by rfl, ?vy5⟩) b0 ?vr5
  case vy5 => (intro w; go_simp; try with_reducible rfl)
  simp only [List.setIfInBounds_toArray, List.set_cons_zero, List.set_cons_succ]
  refine anyH_one (i := 6) (by kernel_rfl) ?_
  refine op_storeE rfl rfl rfl 24 _ _ rfl (w.heap.size + 1) 0 [.int .i64 f, .slice A6 n6 c6] rfl rfl hth crew_size (by simp [Value.oneCell']) rfl ?_
  refine ⟨hS3, ?_⟩
  refine wpAnyH_done (by kernel_rfl) ?_ _
  go_wp2
  refine bodyPost_ret (results_row rfl _ _ (w.heap.size + 1) 24 _ _ rfl H6.out.1 Try.underlying24 rfl crew_size) rfl ?_
  exact ⟨_, rfl, by have h := own_base H6.out.2.2 (by have := H.out.bel.size; show w.heap.size ≤ w5.heap.size; omega); exact h, H6.out.2.1⟩
end Go.Proofs.Ytjibbbfpbflgmaa
