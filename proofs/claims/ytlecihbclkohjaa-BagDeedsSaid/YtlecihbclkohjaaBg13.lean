/-
  Bags: what they are as plain lists, and as memory holds them.
-/
import Derived.Test.YtlecihbclkohjaaEv13
import Derived.Laws.LoneSync
namespace Go.Proofs.Ytlecihbclkohjaa
open Go.RowKit Go.Maps
set_option linter.unusedVariables false
set_option linter.unusedSimpArgs false

theorem results_row {P : Program} {fn : Func} {p : Tmp} {ty : TypeId} (h : fn.results = #[.cell p ty]) (tmps : Array Value) (w : World) (g : Nat) (t : TypeId) (cs : Array Value) (d : TypeDesc)
    (hp : tmps.getD p undef = .pointer (some ⟨g, 0, none⟩)) (hg : w.heap[g]? = some (.cells cs t (0, 0)))
    (hu : P.underlying ty = some d) (hd : (match d with | .struct _ | .array _ _ => true | _ => false) = true) (hi : (P.info? ty).map (·.size) = some cs.size) :
    (results fn tmps).run P w = .ok (.agg cs) w := by
  have hp' : tmps[p]?.getD undef = .pointer (some ⟨g, 0, none⟩) := by simpa using hp
  simp [results, h, hp', asAddr, run_loadVar_row w g t ty cs (0, 0) d hg hu hd hi]

/-- A bag. -/
structure Bg where
  l : List En
  sent : Nat
  lost : Nat
deriving DecidableEq
def nmE (x : Int) : Bool := decide (1 ≤ x) && decide (x ≤ 34)
def OkE (e : En) : Prop := nmE e.fr = true ∧ nmE e.to = true ∧ e.bs.length ≤ 65536
def Bg.ok (b : Bg) : Prop := b.l.length ≤ 4096 ∧ b.sent ≤ 1000000 ∧ b.lost ≤ 1000000 ∧ ∀ x ∈ b.l, OkE x
def newB : Bg := ⟨[], 0, 0⟩
def sendB (b : Bg) (e : En) : Bg := ⟨b.l ++ [e], b.sent + 1, b.lost⟩
def putE (b : Bg) (e : En) : Int := if nmE e.fr = false then 2 else if nmE e.to = false then 2 else if 65536 < e.bs.length then 5 else if 4096 ≤ b.l.length then 7 else 0
def putB (b : Bg) (e : En) : Bg := if putE b e = 0 then sendB b e else b
def lackE (b : Bg) (i : Int) : Int := if i < 0 then 9 else if (b.l.length : Int) ≤ i then 9 else 0
def offB (b : Bg) (i : Nat) : Bg := ⟨b.l.eraseIdx i, b.sent, b.lost⟩

/-- A bag at the block 'g', its notes in the row 'A', their bytes in blocks of K; all these blocks are of U. -/
structure BagIn (w : World) (U : Nat → Prop) (g : Nat) (b : Bg) (A : Option Addr) (cap : Nat) (hs : List EnH) (K : Nat → Prop) : Prop where
  blk : Blk w g 61 [.bool true, .slice A b.l.length cap, .int .i64 (b.sent : Int), .int .i64 (b.lost : Int)]
  xs : hs.map EnH.x = b.l
  row : RowK w 29 3 A b.l.length cap (encs hs)
  bys : ∀ h ∈ hs, ByP w K h
  rg : ∀ i, blkOf A i → U i ∧ i ≠ g ∧ ¬ K i
  kg : ¬ K g
  ku : ∀ i, K i → U i
  ug : U g
  lt : ∀ i, U i → i < w.heap.size
  ok : b.ok
def BagAt (w : World) (U : Nat → Prop) (g : Nat) (b : Bg) : Prop := ∃ A cap hs K, BagIn w U g b A cap hs K
/-- The blocks of U, and those that are new. -/
def Gr (U : Nat → Prop) (w w' : World) (i : Nat) : Prop := U i ∨ (w.heap.size ≤ i ∧ i < w'.heap.size)
section
variable {w w' : World} {U U' S : Nat → Prop} {g : Nat} {b : Bg} {A : Option Addr} {cap : Nat} {hs : List EnH} {K K' : Nat → Prop}
theorem BagIn.len (h : BagIn w U g b A cap hs K) : hs.length = b.l.length := by rw [← h.xs, List.length_map]
theorem BagIn.out (h : BagIn w U g b A cap hs K) (ho : Out S w w') (hS : ∀ i, U i → ¬ S i) : BagIn w' U g b A cap hs K :=
  ⟨ho.blk h.blk (hS g h.ug), h.xs, h.row.out ho fun i hi => hS i (h.rg i hi).1, fun e he => (h.bys e he).out ho fun i hi => hS i (h.ku i hi), h.rg, h.kg, h.ku, h.ug, fun i hi => Nat.lt_of_lt_of_le (h.lt i hi) ho.size, h.ok⟩
theorem BagIn.below (h : BagIn w U g b A cap hs K) (hb : Below w.heap.size w w') : BagIn w' U g b A cap hs K :=
  h.out (S := fun i => w.heap.size ≤ i) (Out.ofBelow _ hb) fun i hi => by have := h.lt i hi; omega
theorem BagIn.wide (h : BagIn w U g b A cap hs K) (hU : ∀ i, U i → U' i) (hK : ∀ i, K i → K' i) (hKU : ∀ i, K' i → U' i) (hkr : ∀ i, K' i → K i ∨ ¬ U i) (hlt : ∀ i, U' i → i < w.heap.size) : BagIn w U' g b A cap hs K' :=
  ⟨h.blk, h.xs, h.row, fun e he => (h.bys e he).mono hK, fun i hi => ⟨hU i (h.rg i hi).1, (h.rg i hi).2.1, fun k => (hkr i k).elim (h.rg i hi).2.2 fun n => n (h.rg i hi).1⟩, fun k => (hkr g k).elim h.kg fun n => n h.ug, hKU, hU g h.ug, hlt, h.ok⟩
theorem BagAt.out (h : BagAt w U g b) (ho : Out S w w') (hS : ∀ i, U i → ¬ S i) : BagAt w' U g b := let ⟨A, cap, hs, K, k⟩ := h; ⟨A, cap, hs, K, k.out ho hS⟩
theorem BagAt.below (h : BagAt w U g b) (hb : Below w.heap.size w w') : BagAt w' U g b := let ⟨A, cap, hs, K, k⟩ := h; ⟨A, cap, hs, K, k.below hb⟩
theorem BagAt.lt (h : BagAt w U g b) : ∀ i, U i → i < w.heap.size := let ⟨A, cap, hs, K, k⟩ := h; k.lt
theorem BagAt.ok (h : BagAt w U g b) : b.ok := let ⟨A, cap, hs, K, k⟩ := h; k.ok
theorem BagAt.ug (h : BagAt w U g b) : U g := let ⟨A, cap, hs, K, k⟩ := h; k.ug
theorem BagAt.mono (h : BagAt w U g b) (hU : ∀ i, U i → U' i) (hlt : ∀ i, U' i → i < w.heap.size) : BagAt w U' g b :=
  let ⟨A, cap, hs, K, k⟩ := h; ⟨A, cap, hs, K, k.wide hU (fun _ h => h) (fun i h => hU i (k.ku i h)) (fun _ h => .inl h) hlt⟩
end

/-! ### What is only asked -/
section
variable {w : World} {U : Nat → Prop} {g : Nat} {b : Bg} {A : Option Addr} {cap : Nat} {hs : List EnH} {K : Nat → Prop}
theorem isName_any (n : Int) (w : World) : Calls Try.prog 40 #[.int .i64 n] w fun e w' => e = .returned (.bool (nmE n)) ∧ w' = w := by
  unfold nmE
  go_enter Try.func40, Try.ntmps40
  go_wp2
  all_goals (go_ret; simp_all; try omega)
theorem none_in (h : BagIn w U g b A cap hs K) : Calls Try.prog 39 #[.pointer (some ⟨g, 0, none⟩)] w fun e w' => e = .returned (.bool false) ∧ w' = w := by
  have c0 := h.blk.cell (i := 0) rfl
  go_enter Try.func39, Try.ntmps39
  go_wp2
  go_ret
  exact ⟨rfl, rfl⟩
theorem full_in (h : BagIn w U g b A cap hs K) (B : Bool) (hB : decide (4096 ≤ b.l.length) = B) : Calls Try.prog 41 #[.pointer (some ⟨g, 0, none⟩)] w fun e w' => e = .returned (.bool B) ∧ w' = w := by
  have c1 := h.blk.cell (i := 1) rfl
  have hc : decide ((b.l.length : Int) ≥ 4096) = B := by rw [← hB]; exact decide_eq_decide.2 (by omega)
  obtain ⟨n, hn⟩ : ∃ n, b.l.length = n := ⟨_, rfl⟩
  rw [hn] at c1 hc
  clear hB h hn
  go_enter Try.func41, Try.ntmps41
  go_wp2
  go_ret
  exact ⟨by rw [← hc]; first | rfl | (congr 2), rfl⟩
theorem load64 (p : Nat) (o : Nat) (x : Int) (w : World) (hc : w.cell? ⟨p, o, none⟩ = some (.int .i64 x)) : Calls Try.prog 53 #[.pointer (some ⟨p, o, none⟩)] w fun e w' => e = .returned (.int .i64 x) ∧ w' = w := by
  have hl := run_call_load (P := Try.prog) Try.func56 (by kernel_rfl) (by kernel_rfl) (by kernel_rfl) .i64 (by kernel_rfl) (w := w) (a := ⟨p, o, none⟩) (x := x) hc
  go_enter Try.func53, Try.ntmps53
  go_wp2
  go_ret
  exact ⟨rfl, rfl⟩
theorem add64 (p : Nat) (o : Nat) (x : Nat) (w : World) (hx : x ≤ 1000000) (hc : w.cell? ⟨p, o, none⟩ = some (.int .i64 (x : Int))) (hz : w.frozen? ⟨p, o, none⟩ = false) : Calls Try.prog 49 #[.pointer (some ⟨p, o, none⟩), .int .i64 1] w fun e w' => (∃ v, e = .returned v) ∧ w' = w.setCell ⟨p, o, none⟩ (.int .i64 ((x + 1 : Nat) : Int)) := by
  have hw : IntKind.i64.wrap ((x : Int) + 1) = ((x + 1 : Nat) : Int) := by
    rw [IntWalk.i64_in _ (by omega)]; omega
  have hadd := run_call_add (P := Try.prog) Try.func55 (by kernel_rfl) (by kernel_rfl) (by kernel_rfl) .i64 (by kernel_rfl) (y := 1) (s := ((x + 1 : Nat) : Int)) hc hz (by simp only [Op.intArith, Sem.run_pure, hw])
  go_enter Try.func49, Try.ntmps49
  go_wp2
  go_ret
  exact ⟨⟨_, rfl⟩, rfl⟩
theorem lacks_in (h : BagIn w U g b A cap hs K) (i : Int) (E : Int) (hE : lackE b i = E) : Calls Try.prog 47 #[.pointer (some ⟨g, 0, none⟩), .int .i64 i] w fun e w' => e = .returned (.int .i64 E) ∧ w' = w := by
  subst hE
  have c1 := h.blk.cell (i := 1) rfl
  have H := Lib.hid h
  unfold lackE
  obtain ⟨n, hn⟩ : ∃ n, b.l.length = n := ⟨_, rfl⟩
  rw [hn] at c1 ⊢
  clear h hn
  by_cases h0 : i < 0
  · rw [if_pos h0]
    go_enter Try.func47, Try.ntmps47
    go_wp2_with (go_at_call 39; refine (none_in H.out).mono ?_; rintro e w' ⟨rfl, rfl⟩)
    go_ret
    exact ⟨rfl, rfl⟩
  · rw [if_neg h0]
    by_cases h1 : (n : Int) ≤ i
    · rw [if_pos h1]
      have h2 : i ≥ n := h1
      go_enter Try.func47, Try.ntmps47
      go_wp2_with (go_at_call 39; refine (none_in H.out).mono ?_; rintro e w' ⟨rfl, rfl⟩)
      go_ret
      exact ⟨rfl, rfl⟩
    · rw [if_neg h1]
      have h2 : ¬ i ≥ n := h1
      go_enter Try.func47, Try.ntmps47
      go_wp2_with (go_at_call 39; refine (none_in H.out).mono ?_; rintro e w' ⟨rfl, rfl⟩)
      go_ret
      exact ⟨rfl, rfl⟩
theorem blen_any (h : BagAt w U g b) (n : Nat) (hn : b.l.length = n) : Calls Try.prog 28 #[.pointer (some ⟨g, 0, none⟩)] w fun e w' => e = .returned (.int .i64 (n : Int)) ∧ w' = w := by
  subst hn
  obtain ⟨A, cap, hs, K, h⟩ := h
  have c1 := h.blk.cell (i := 1) rfl
  have H := Lib.hid h
  clear h
  go_enter Try.func28, Try.ntmps28
  go_wp2_with (go_at_call 39; refine (none_in H.out).mono ?_; rintro e w' ⟨rfl, rfl⟩)
  go_ret
  exact ⟨rfl, rfl⟩
theorem bsent_any (h : BagAt w U g b) : Calls Try.prog 30 #[.pointer (some ⟨g, 0, none⟩)] w fun e w' => e = .returned (.int .i64 (b.sent : Int)) ∧ w' = w := by
  obtain ⟨A, cap, hs, K, h⟩ := h
  have c1 := h.blk.cell (i := 2) rfl
  have H := Lib.hid h
  clear h
  go_enter Try.func30, Try.ntmps30
  go_wp2_with (first
    | (go_at_call 39; refine (none_in H.out).mono ?_; rintro e w' ⟨rfl, rfl⟩)
    | (go_at_call 53; refine (load64 g 2 _ _ c1).mono ?_; rintro e w' ⟨rfl, rfl⟩))
  go_ret
  exact ⟨rfl, rfl⟩
theorem blost_any (h : BagAt w U g b) : Calls Try.prog 32 #[.pointer (some ⟨g, 0, none⟩)] w fun e w' => e = .returned (.int .i64 (b.lost : Int)) ∧ w' = w := by
  obtain ⟨A, cap, hs, K, h⟩ := h
  have c1 := h.blk.cell (i := 3) rfl
  have H := Lib.hid h
  clear h
  go_enter Try.func32, Try.ntmps32
  go_wp2_with (first
    | (go_at_call 39; refine (none_in H.out).mono ?_; rintro e w' ⟨rfl, rfl⟩)
    | (go_at_call 53; refine (load64 g 3 _ _ c1).mono ?_; rintro e w' ⟨rfl, rfl⟩))
  go_ret
  exact ⟨rfl, rfl⟩
theorem new_any (w : World) : Calls Try.prog 11 #[] w fun e w' => ∃ g, e = .returned (.pointer (some ⟨g, 0, none⟩)) ∧ w.heap.size ≤ g ∧ BagAt w' (fun i => i = g) g newB ∧ Below w.heap.size w w' := by
  go_enter Try.func11, Try.ntmps11
  go_wp2
  go_ret
  refine ⟨w.heap.size, rfl, Nat.le_refl _, ⟨none, 0, [], fun _ => False, Blk.new rfl rfl, rfl, RowK.nil _ _ _, fun h hh => by simp at hh, fun i hi => ?_, fun h => h, fun i h => h.elim, rfl, fun i hi => ?_, by simp [Bg.ok, newB]⟩, (Below.refl _ _).alloc (Nat.le_refl _) _⟩
  · obtain ⟨a, ha, _⟩ := hi; cases ha
  · subst hi; simp
end
end Go.Proofs.Ytlecihbclkohjaa
