/-
  A bag's Next over the code.
-/
import Derived.Test.YtlecihbclkohjaaTk13
namespace Go.Proofs.Ytlecihbclkohjaa
open Go.RowKit Go.Maps
set_option linter.unusedVariables false
set_option linter.unusedSimpArgs false

def inS (s n : Int) : Bool := bits BinOp.and IntKind.i64 (s / 2 ^ min n.toNat 64) 1 == 1
def inB (s : Int) (e : En) : Bool := inS s e.fr && inS s e.to
def nextB (b : Bg) (s : Int) : Int := match b.l.findIdx? (inB s) with | some i => (i : Int) | none => -1
theorem nm_le {n : Int} (h : nmE n = true) : 1 ≤ n ∧ n ≤ 34 := by simpa [nmE] using h
theorem next_none {l : List En} {s : Int} {k : Nat} (hk : ∀ j (hj : j < l.length), j < k → inB s l[j] = false) (h : l.length ≤ k) : l.findIdx? (inB s) = none := by
  rw [List.findIdx?_eq_none_iff]
  intro x hx
  obtain ⟨j, hj, rfl⟩ := List.mem_iff_getElem.1 hx
  exact hk j hj (by omega)
theorem next_some {l : List En} {s : Int} {k : Nat} (hk : ∀ j (hj : j < l.length), j < k → inB s l[j] = false) (h : k < l.length) (ht : inB s l[k] = true) : l.findIdx? (inB s) = some k := by
  rw [List.findIdx?_eq_some_iff_getElem]
  exact ⟨h, ht, fun j hj => by rw [hk j (by omega) hj]; decide⟩
section
variable {w w' : World} {U : Nat → Prop} {g : Nat} {b : Bg} {A : Option Addr} {cap : Nat} {hs : List EnH} {K : Nat → Prop}
theorem isIn_any (s n : Int) (hn : 0 ≤ n) (B : Bool) (hB : inS s n = B) (w : World) : Calls Try.prog 52 #[.int .i64 s, .int .i64 n] w fun e w' => e = .returned (.bool B) ∧ w' = w := by
  subst hB
  go_enter Try.func52, Try.ntmps52
  go_wp2
  go_ret
  exact ⟨rfl, rfl⟩
theorem both_any (s : Int) (x : EnH) (bx : Nat) (hb : bx < w.heap.size) (hc : w.cell? ⟨bx, 0, none⟩ = some (.int .i64 s)) (hf : 0 ≤ x.x.fr) (ht : 0 ≤ x.x.to) (B : Bool) (hB : inB s x.x = B) :
    Calls Try.prog 51 #[.agg #[.int .i64 x.x.fr, .int .i64 x.x.to, .slice x.a x.n x.c], .pointer (some ⟨bx, 0, none⟩)] w fun e w' => e = .returned (.bool B) ∧ Below w.heap.size w w' := by
  obtain ⟨x0, a, n, c⟩ := x
  obtain ⟨f, t, bs⟩ := x0
  unfold inB at hB
  dsimp only at *
  obtain ⟨w1, hw1⟩ : ∃ w1, w.alloc (.cells #[.int .i64 f, .int .i64 t, .slice a n c] 29) = w1 := ⟨_, rfl⟩
  have b1 : Below w.heap.size w w1 := by rw [← hw1]; exact (Below.refl _ _).alloc (Nat.le_refl _) _
  have B1 : Blk w1 w.heap.size 29 [.int .i64 f, .int .i64 t, .slice a n c] := by rw [← hw1]; exact Blk.new rfl rfl
  have c0 := B1.cell (i := 0) rfl
  have c1 := B1.cell (i := 1) rfl
  have cs := (b1.cell (p := ⟨bx, 0, none⟩) hb).trans hc
  have Hb := Lib.hid b1
  clear b1 B1 hc
  cases h1 : inS s f with
  | false =>
    rw [h1] at hB
    obtain rfl : B = false := hB.symm
    have HF := Lib.hid (isIn_any s f hf false h1)
    clear h1 hB
    go_enter Try.func51, Try.ntmps51
    go_wp2_with fail
    refine (HF.out w1).mono ?_; rintro e w1 ⟨rfl, rfl⟩
    go_wp2
    go_ret
    exact ⟨rfl, Hb.out⟩
  | true =>
    rw [h1, Bool.true_and] at hB
    have HF := Lib.hid (isIn_any s f hf true h1)
    have HT := Lib.hid (isIn_any s t ht B hB)
    clear h1 hB
    go_enter Try.func51, Try.ntmps51
    go_wp2_with fail
    refine (HF.out w1).mono ?_; rintro e w1 ⟨rfl, rfl⟩
    go_wp2_with fail
    refine (HT.out w1).mono ?_; rintro e w1 ⟨rfl, rfl⟩
    go_wp2
    go_ret
    exact ⟨rfl, Hb.out⟩
set_option maxRecDepth 100000 in
set_option maxHeartbeats 1600000 in
theorem index_any (h : BagIn w U g b A cap hs K) (s : Int) (bx : Nat) (hb : bx < w.heap.size) (hc : w.cell? ⟨bx, 0, none⟩ = some (.int .i64 s)) (n : Nat) (hn : b.l.length = n) :
    Calls Try.prog 50 #[.slice A n cap, .func (.func 51) #[] #[.pointer (some ⟨bx, 0, none⟩)]] w fun e w' => e = .returned (.int .i64 (nextB b s)) ∧ Below w.heap.size w w' := by
  have HS := Lib.hid (And.intro h (And.intro hc hn))
  have hk := h.ok.1
  clear h hc
  rw [hn] at hk
  go_enter Try.func50, Try.ntmps50
  go_wp2
  go_loopw [8] (fun i wr => ∃ k : Nat, k ≤ n ∧ i = .int .i64 k ∧ (∀ j (hj : j < b.l.length), j < k → inB s b.l[j] = false) ∧ Below w.heap.size w wr) (fun i _ => n - (intOf i).toNat)
  case atStart => exact ⟨0, by omega, rfl, fun j _ h => by omega, Below.refl _ _⟩
  case round =>
    obtain ⟨k, hk1, rfl, hall, hB⟩ := hrel
    have k0 : (0 : Int) ≤ k := by omega
    have hr := HS.out.1.below hB
    by_cases hlt : k < n
    · have hkl : k < hs.length := by rw [hr.len, HS.out.2.2]; exact hlt
      obtain ⟨r, rfl, hrr, c0, c1, c2⟩ := hr.at_ hkl
      have k1 : (k : Int) < n := by omega
      have hmem : hs[k].x ∈ b.l := by rw [← hr.xs]; exact List.mem_map_of_mem (List.getElem_mem hkl)
      have hnm := hr.ok.2.2.2 _ hmem
      have hx : b.l[k]'(by rw [HS.out.2.2]; exact hlt) = hs[k].x := by simp [← hr.xs]
      obtain ⟨y, hy⟩ : ∃ y, hs[k] = y := ⟨_, rfl⟩
      rw [hy] at c0 c1 c2 hnm hx
      obtain ⟨B, hBB⟩ : ∃ B, inB s y.x = B := ⟨_, rfl⟩
      have hbt := both_any s y bx (Nat.lt_of_lt_of_le hb hB.size) ((hB.cell (p := ⟨bx, 0, none⟩) hb).trans HS.out.2.1) (by have := nm_le hnm.1; omega) (by have := nm_le hnm.2.1; omega) B hBB
      have HR := Lib.hid (And.intro hall (And.intro hB (And.intro hbt (And.intro hx hBB))))
      clear hall hB hbt hx hBB hmem hnm hy hr
      cases B with
      | false =>
        go_wp2_with fail
        refine HR.out.2.2.1.mono ?_
        rintro e w2 ⟨rfl, hb2⟩
        have H2 := Lib.hid (HR.out.2.1.trans (hb2.mono HR.out.2.1.size))
        clear hb2
        go_wp2
        go_roundw
        case rel =>
          refine ⟨k + 1, by omega, by go_num, fun j hj hjk => ?_, H2.out⟩
          by_cases e : j = k
          · subst e; rw [HR.out.2.2.2.1]; exact HR.out.2.2.2.2
          · exact HR.out.1 j hj (by omega)
        case measure => simp [intOf]; omega
      | true =>
        go_wp2_with fail
        refine HR.out.2.2.1.mono ?_
        rintro e w2 ⟨rfl, hb2⟩
        have H2 := Lib.hid (HR.out.2.1.trans (hb2.mono HR.out.2.1.size))
        clear hb2
        go_wp2
        go_ret
        refine ⟨?_, H2.out⟩
        unfold nextB
        rw [next_some HR.out.1 (by rw [HS.out.2.2]; exact hlt) (by rw [HR.out.2.2.2.1]; exact HR.out.2.2.2.2)]
        rfl
    · have hke : k = n := by omega
      have k1 : ¬ (k : Int) < n := by omega
      have HR := Lib.hid (And.intro hall hB)
      clear hall hB hr
      go_wp2
      go_ret
      refine ⟨?_, HR.out.2⟩
      unfold nextB
      rw [next_none HR.out.1 (by rw [HS.out.2.2]; omega)]
      rfl
set_option maxRecDepth 100000 in
set_option maxHeartbeats 800000 in
theorem next_any (h : BagAt w U g b) (s : Int) : Calls Try.prog 26 #[.pointer (some ⟨g, 0, none⟩), .int .i64 s] w fun e w' => e = .returned (.int .i64 (nextB b s)) ∧ Below w.heap.size w w' := by
  obtain ⟨A, cap, hs, K, h⟩ := h
  obtain ⟨w1, hw1⟩ : ∃ w1, w.alloc (.cells #[.int .i64 s] 3) = w1 := ⟨_, rfl⟩
  have b1 : Below w.heap.size w w1 := by rw [← hw1]; exact (Below.refl _ _).alloc (Nat.le_refl _) _
  have B1 : Blk w1 w.heap.size 3 [.int .i64 s] := by rw [← hw1]; exact Blk.new rfl rfl
  have h1 := h.below b1
  have c1 := h1.blk.cell (i := 1) rfl
  obtain ⟨n, hn⟩ : ∃ n, b.l.length = n := ⟨_, rfl⟩
  rw [hn] at c1
  have HS := Lib.hid (And.intro h1 (And.intro b1 (index_any h1 s w.heap.size B1.lt (B1.cell rfl) n hn)))
  clear h h1 b1 B1 hn
  go_enter Try.func26, Try.ntmps26
  go_wp2_with fail
  refine (none_in HS.out.1).mono ?_; rintro e w1 ⟨rfl, rfl⟩
  go_wp2_with fail
  refine HS.out.2.2.mono ?_
  rintro e w2 ⟨rfl, hb2⟩
  have H2 := Lib.hid (HS.out.2.1.trans (hb2.mono HS.out.2.1.size))
  clear hb2
  go_wp2
  go_ret
  exact ⟨rfl, H2.out⟩
end
end Go.Proofs.Ytlecihbclkohjaa
