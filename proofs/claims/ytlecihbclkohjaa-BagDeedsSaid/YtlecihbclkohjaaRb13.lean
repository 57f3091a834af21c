/-
  The document's bag, as memory holds it; what is only asked of it, and its copies, over the code.
-/
import Derived.Test.YtlecihbclkohjaaAr13
namespace Go.Proofs.Ytlecihbclkohjaa
open Go.RowKit Go.Maps
set_option linter.unusedVariables false
set_option linter.unusedSimpArgs false

structure RbIn (w : World) (U : Nat → Prop) (g : Nat) (b : Bg) (A : Option Addr) (cap : Nat) (hs : List EnH) (K : Nat → Prop) : Prop where
  blk : Blk w g 63 [.slice A b.l.length cap, .int .i64 (b.sent : Int), .int .i64 (b.lost : Int)]
  xs : hs.map EnH.x = b.l
  row : RowK w 29 3 A b.l.length cap (encs hs)
  bys : ∀ h ∈ hs, ByP w K h
  rg : ∀ i, blkOf A i → U i ∧ i ≠ g ∧ ¬ K i
  kg : ¬ K g
  ku : ∀ i, K i → U i
  ug : U g
  lt : ∀ i, U i → i < w.heap.size
  ok : b.ok
def RbAt (w : World) (U : Nat → Prop) (g : Nat) (b : Bg) : Prop := ∃ A cap hs K, RbIn w U g b A cap hs K
section
variable {w w' : World} {U U' S : Nat → Prop} {g : Nat} {b : Bg} {A : Option Addr} {cap : Nat} {hs : List EnH} {K K' : Nat → Prop}
theorem RbIn.len (h : RbIn w U g b A cap hs K) : hs.length = b.l.length := by rw [← h.xs, List.length_map]
theorem RbIn.out (h : RbIn w U g b A cap hs K) (ho : Out S w w') (hS : ∀ i, U i → ¬ S i) : RbIn w' U g b A cap hs K :=
  ⟨ho.blk h.blk (hS g h.ug), h.xs, h.row.out ho fun i hi => hS i (h.rg i hi).1, fun e he => (h.bys e he).out ho fun i hi => hS i (h.ku i hi), h.rg, h.kg, h.ku, h.ug, fun i hi => Nat.lt_of_lt_of_le (h.lt i hi) ho.size, h.ok⟩
theorem RbIn.below (h : RbIn w U g b A cap hs K) (hb : Below w.heap.size w w') : RbIn w' U g b A cap hs K :=
  h.out (S := fun i => w.heap.size ≤ i) (Out.ofBelow _ hb) fun i hi => by have := h.lt i hi; omega
theorem RbIn.wide (h : RbIn w U g b A cap hs K) (hU : ∀ i, U i → U' i) (hK : ∀ i, K i → K' i) (hKU : ∀ i, K' i → U' i) (hkr : ∀ i, K' i → K i ∨ ¬ U i) (hlt : ∀ i, U' i → i < w.heap.size) : RbIn w U' g b A cap hs K' :=
  ⟨h.blk, h.xs, h.row, fun e he => (h.bys e he).mono hK, fun i hi => ⟨hU i (h.rg i hi).1, (h.rg i hi).2.1, fun k => (hkr i k).elim (h.rg i hi).2.2 fun n => n (h.rg i hi).1⟩, fun k => (hkr g k).elim h.kg fun n => n h.ug, hKU, hU g h.ug, hlt, h.ok⟩
theorem RbAt.out (h : RbAt w U g b) (ho : Out S w w') (hS : ∀ i, U i → ¬ S i) : RbAt w' U g b := let ⟨A, cap, hs, K, k⟩ := h; ⟨A, cap, hs, K, k.out ho hS⟩
theorem RbAt.below (h : RbAt w U g b) (hb : Below w.heap.size w w') : RbAt w' U g b := let ⟨A, cap, hs, K, k⟩ := h; ⟨A, cap, hs, K, k.below hb⟩
theorem RbAt.lt (h : RbAt w U g b) : ∀ i, U i → i < w.heap.size := let ⟨A, cap, hs, K, k⟩ := h; k.lt
theorem RbAt.ok (h : RbAt w U g b) : b.ok := let ⟨A, cap, hs, K, k⟩ := h; k.ok
theorem RbAt.mono (h : RbAt w U g b) (hU : ∀ i, U i → U' i) (hlt : ∀ i, U' i → i < w.heap.size) : RbAt w U' g b :=
  let ⟨A, cap, hs, K, k⟩ := h; ⟨A, cap, hs, K, k.wide hU (fun _ h => h) (fun i h => hU i (k.ku i h)) (fun _ h => .inl h) hlt⟩
theorem RbIn.at_ (h : RbIn w U g b A cap hs K) {i : Nat} (hi : i < hs.length) : ∃ r, A = some ⟨r, 0, none⟩ ∧ r < w.heap.size ∧ w.cell? ⟨r, i * 3, none⟩ = some (.int .i64 hs[i].x.fr) ∧ w.cell? ⟨r, i * 3 + 1, none⟩ = some (.int .i64 hs[i].x.to) ∧ w.cell? ⟨r, i * 3 + 2, none⟩ = some (.slice hs[i].a hs[i].n hs[i].c) := by
  obtain ⟨r, e, hr, hc, _⟩ := h.row.cells (by have := h.len; omega)
  exact ⟨r, e, hr, hc _ _ (by have := encs_at hi (j := 0) rfl; rwa [Nat.add_zero] at this), hc _ _ (encs_at hi (j := 1) rfl), hc _ _ (encs_at hi (j := 2) rfl)⟩
theorem atB_rs (h : RbIn w U g b A cap hs K) {i : Nat} (hi : i < hs.length) : atB b (i : Int) = hs[i].x := by
  have hl := h.len
  unfold atB
  rw [show ((i : Int)).toNat = i by omega, List.getElem?_eq_getElem (by omega)]
  simp [← h.xs]
theorem rname_any (n : Int) (w : World) : Calls Try.prog 45 #[.int .i64 n] w fun e w' => e = .returned (.bool (nmE n)) ∧ w' = w := by
  unfold nmE
  go_enter Try.func45, Try.ntmps45
  go_wp2
  all_goals (go_ret; simp_all; try omega)
theorem rlen_any (h : RbAt w U g b) (n : Nat) (hn : b.l.length = n) : Calls Try.prog 29 #[.pointer (some ⟨g, 0, none⟩)] w fun e w' => e = .returned (.int .i64 (n : Int)) ∧ w' = w := by
  subst hn
  obtain ⟨A, cap, hs, K, h⟩ := h
  have c1 := h.blk.cell (i := 0) rfl
  clear h
  go_enter Try.func29, Try.ntmps29
  go_wp2
  go_ret
  exact ⟨rfl, rfl⟩
theorem rsent_any (h : RbAt w U g b) : Calls Try.prog 31 #[.pointer (some ⟨g, 0, none⟩)] w fun e w' => e = .returned (.int .i64 (b.sent : Int)) ∧ w' = w := by
  obtain ⟨A, cap, hs, K, h⟩ := h
  have c1 := h.blk.cell (i := 1) rfl
  clear h
  go_enter Try.func31, Try.ntmps31
  go_wp2
  go_ret
  exact ⟨rfl, rfl⟩
theorem rlost_any (h : RbAt w U g b) : Calls Try.prog 33 #[.pointer (some ⟨g, 0, none⟩)] w fun e w' => e = .returned (.int .i64 (b.lost : Int)) ∧ w' = w := by
  obtain ⟨A, cap, hs, K, h⟩ := h
  have c1 := h.blk.cell (i := 2) rfl
  clear h
  go_enter Try.func33, Try.ntmps33
  go_wp2
  go_ret
  exact ⟨rfl, rfl⟩
theorem rnew_any (w : World) : Calls Try.prog 12 #[] w fun e w' => ∃ g, e = .returned (.pointer (some ⟨g, 0, none⟩)) ∧ w.heap.size ≤ g ∧ RbAt w' (fun i => i = g) g newB ∧ Below w.heap.size w w' := by
  go_enter Try.func12, Try.ntmps12
  go_wp2
  go_ret
  refine ⟨w.heap.size, rfl, Nat.le_refl _, ⟨none, 0, [], fun _ => False, Blk.new rfl rfl, rfl, RowK.nil _ _ _, fun h hh => by simp at hh, fun i hi => ?_, fun h => h, fun i h => h.elim, rfl, fun i hi => ?_, by simp [Bg.ok, newB]⟩, (Below.refl _ _).alloc (Nat.le_refl _) _⟩
  · obtain ⟨a, ha, _⟩ := hi; cases ha
  · subst hi; simp
set_option maxRecDepth 100000 in
set_option maxHeartbeats 1600000 in
theorem rnext_any (h : RbAt w U g b) (s : Int) : Calls Try.prog 27 #[.pointer (some ⟨g, 0, none⟩), .int .i64 s] w fun e w' => e = .returned (.int .i64 (nextB b s)) ∧ w' = w := by
  obtain ⟨A, cap, hs, K, h⟩ := h
  have c1 := h.blk.cell (i := 0) rfl
  obtain ⟨n, hn⟩ : ∃ n, b.l.length = n := ⟨_, rfl⟩
  have hk := h.ok.1
  rw [hn] at c1 hk
  have HS := Lib.hid (And.intro h hn)
  clear h hn
  go_enter Try.func27, Try.ntmps27
  go_wp2
  go_loopw [5] (fun i wr => ∃ k : Nat, k ≤ n ∧ i = .int .i64 k ∧ (∀ j (hj : j < b.l.length), j < k → inB s b.l[j] = false) ∧ wr = w) (fun i _ => n - (intOf i).toNat)
  case atStart => exact ⟨0, by omega, rfl, fun j _ h => by omega, rfl⟩
  case round =>
    obtain ⟨k, hk1, rfl, hall, rfl⟩ := hrel
    have k0 : (0 : Int) ≤ k := by omega
    by_cases hlt : k < n
    · have hkl : k < hs.length := by rw [HS.out.1.len, HS.out.2]; exact hlt
      obtain ⟨r, rfl, hrr, d0, d1, d2⟩ := HS.out.1.at_ hkl
      have k1 : (k : Int) < n := by omega
      have hmem : hs[k].x ∈ b.l := by rw [← HS.out.1.xs]; exact List.mem_map_of_mem (List.getElem_mem hkl)
      have hnm := HS.out.1.ok.2.2.2 _ hmem
      have hx : b.l[k]'(by rw [HS.out.2]; exact hlt) = hs[k].x := by simp [← HS.out.1.xs]
      obtain ⟨y, hy⟩ : ∃ y, hs[k].x = y := ⟨_, rfl⟩
      rw [hy] at d0 d1 hnm hx
      have f0 : 0 ≤ y.fr := by have := nm_le hnm.1; omega
      have t0 : 0 ≤ y.to := by have := nm_le hnm.2.1; omega
      have HR := Lib.hid (And.intro hall hx)
      clear hall hx hnm hmem hy d2
      cases h1 : inS s y.fr with
      | false =>
        have i1 : (bits BinOp.and IntKind.i64 (s / 2 ^ min y.fr.toNat 64) 1 == 1) = false := h1
        have Hi := Lib.hid h1
        clear h1
        go_wp2
        go_roundw
        case rel =>
          refine ⟨k + 1, by omega, by go_num, fun j hj hjk => ?_, by trivial⟩
          by_cases e : j = k
          · subst e; rw [HR.out.2]; unfold inB; rw [Hi.out]; rfl
          · exact HR.out.1 j hj (by omega)
        case measure => simp [intOf]; omega
      | true =>
        have i1 : (bits BinOp.and IntKind.i64 (s / 2 ^ min y.fr.toNat 64) 1 == 1) = true := h1
        have Hi := Lib.hid h1
        clear h1
        cases h2 : inS s y.to with
        | false =>
          have i2 : (bits BinOp.and IntKind.i64 (s / 2 ^ min y.to.toNat 64) 1 == 1) = false := h2
          have Hj := Lib.hid h2
          clear h2
          go_wp2
          go_roundw
          case rel =>
            refine ⟨k + 1, by omega, by go_num, fun j hj hjk => ?_, by trivial⟩
            by_cases e : j = k
            · subst e; rw [HR.out.2]; unfold inB; rw [Hi.out, Hj.out]; rfl
            · exact HR.out.1 j hj (by omega)
          case measure => simp [intOf]; omega
        | true =>
          have i2 : (bits BinOp.and IntKind.i64 (s / 2 ^ min y.to.toNat 64) 1 == 1) = true := h2
          have Hj := Lib.hid h2
          clear h2
          go_wp2
          go_ret
          refine ⟨?_, rfl⟩
          unfold nextB
          rw [next_some HR.out.1 (by rw [HS.out.2]; exact hlt) (by rw [HR.out.2]; unfold inB; rw [Hi.out, Hj.out]; rfl)]
          rfl
    · have hke : k = n := by omega
      have k1 : ¬ (k : Int) < n := by omega
      have HR := Lib.hid hall
      clear hall
      go_wp2
      go_ret
      refine ⟨?_, rfl⟩
      unfold nextB
      rw [next_none HR.out (by rw [HS.out.2]; omega)]
      rfl
end
end Go.Proofs.Ytlecihbclkohjaa
