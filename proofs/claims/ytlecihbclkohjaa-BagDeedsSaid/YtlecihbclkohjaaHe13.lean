/-
  The statements' small helpers over the code: note, Same, is, has; lists of envelopes.
-/
import Derived.Test.YtlecihbclkohjaaNx13
import Derived.Test.YtlecihbclkohjaaBring
namespace Go.Proofs.Ytlecihbclkohjaa
open Go.RowKit Go.Maps
set_option linter.unusedVariables false
set_option linter.unusedSimpArgs false

section
variable {w w' : World} {U V : Nat → Prop} {g : Nat} {b : Bg} {A : Option Addr} {cap : Nat} {hs : List EnH} {K : Nat → Prop}
set_option maxHeartbeats 800000 in
theorem note_any (f t : Int) (hf : Wf f) (ht : Wf t) (x : UInt8) (w : World) : Calls Try.prog 37 #[.int .i64 f, .int .i64 t, .int .u8 (x.toNat : Int)] w (NewEn w ⟨f, t, [x]⟩) := by
  go_enter Try.func37, Try.ntmps37
  go_wp2
  have q1 : Blk ((w.alloc (.cells #[.int .i64 f, .int .i64 t, .slice (some ⟨w.heap.size + 1, 0, none⟩) 1 1] 29)).alloc (.cells #[.int .u8 (x.toNat : Int)] 5)) w.heap.size 29 [.int .i64 f, .int .i64 t, .slice (some ⟨w.heap.size + 1, 0, none⟩) 1 1] := (Blk.new rfl rfl).old _
  have q2 : Blk ((w.alloc (.cells #[.int .i64 f, .int .i64 t, .slice (some ⟨w.heap.size + 1, 0, none⟩) 1 1] 29)).alloc (.cells #[.int .u8 (x.toNat : Int)] 5)) (w.heap.size + 1) 5 [.int .u8 (x.toNat : Int)] := Blk.new rfl (by simp)
  refine bodyPost_ret (results_row rfl _ _ w.heap.size 29 _ _ rfl q1 Try.underlying29 rfl env_size) rfl ?_
  exact ⟨⟨⟨f, t, [x]⟩, some ⟨w.heap.size + 1, 0, none⟩, 1, 1⟩, rfl, rfl, ⟨rfl, Nat.le_refl _, by simp [maxLen], hf, ht, fun _ => ⟨_, _, rfl, Nat.le_succ _, q2.lt, fun j u hu => by rw [Nat.zero_add]; exact q2.cell hu⟩⟩, ((Below.refl _ _).alloc (Nat.le_refl _) _).alloc (by simp) _⟩
theorem same_any (x y : EnH) {K K' : Nat → Prop} (hx : ByP w K x) (hy : ByP w K' y) (B : Bool) (hB : decide (x.x = y.x) = B) : Calls Try.prog 17 #[.agg #[.int .i64 x.x.fr, .int .i64 x.x.to, .slice x.a x.n x.c], .agg #[.int .i64 y.x.fr, .int .i64 y.x.to, .slice y.a y.n y.c]] w fun e w' => e = .returned (.bool B) ∧ Below w.heap.size w w' := by
  obtain ⟨⟨f, t, bs⟩, a, n, c⟩ := x
  obtain ⟨⟨f', t', bs'⟩, a', n', c'⟩ := y
  dsimp only at *
  obtain ⟨w1, hw1⟩ : ∃ w1, (w.alloc (.cells #[.int .i64 f, .int .i64 t, .slice a n c] 29)).alloc (.cells #[.int .i64 f', .int .i64 t', .slice a' n' c'] 29) = w1 := ⟨_, rfl⟩
  have b1 : Below w.heap.size w w1 := by rw [← hw1]; exact ((Below.refl _ _).alloc (Nat.le_refl _) _).alloc (by simp) _
  have B1 : Blk w1 w.heap.size 29 [.int .i64 f, .int .i64 t, .slice a n c] := by rw [← hw1]; exact (Blk.new rfl rfl).old _
  have B2 : Blk w1 (w.heap.size + 1) 29 [.int .i64 f', .int .i64 t', .slice a' n' c'] := by rw [← hw1]; exact Blk.new rfl (by simp)
  have c0 := B1.cell (i := 0) rfl
  have c1 := B1.cell (i := 1) rfl
  have c2 := B1.cell (i := 2) rfl
  have d0 := B2.cell (i := 0) rfl
  have d1 := B2.cell (i := 1) rfl
  have d2 := B2.cell (i := 2) rfl
  have HE := Lib.hid (eqBytesQ a a' c c' n n' bs bs' w1 (hx.bs.on b1) (hy.bs.on b1) hx.1 hy.1 (Nat.le_trans hx.2.1 hx.2.2.1) (Nat.le_trans hy.2.1 hy.2.2.1))
  have Hb := Lib.hid b1
  have e0 : decide ((⟨f, t, bs⟩ : En) = ⟨f', t', bs'⟩) = (decide (f = f') && (decide (t = t') && (bs == bs'))) := by
    by_cases h1 : f = f' <;> by_cases h2 : t = t' <;> by_cases h3 : bs = bs' <;> simp [h1, h2, h3]
  rw [e0] at hB
  have z1 := b1.size
  clear e0 hx hy b1 B1 B2
  by_cases h1 : f = f'
  · subst h1
    by_cases h2 : t = t'
    · subst h2
      have hB' : (bs == bs') = B := by rw [← hB]; simp
      rw [hB'] at HE
      clear hB hB'
      go_enter Try.func17, Try.ntmps17
      go_wp2_with fail
      refine HE.out.mono ?_
      rintro e w2 ⟨rfl, q, rfl⟩
      go_wp2
      go_ret
      exact ⟨rfl, below_drewN Hb.out _⟩
    · have hB' : B = false := by rw [← hB]; simp [h2]
      subst hB'
      clear hB
      go_enter Try.func17, Try.ntmps17
      go_wp2
      go_ret
      exact ⟨rfl, Hb.out⟩
  · have hB' : B = false := by rw [← hB]; simp [h1]
    subst hB'
    clear hB
    go_enter Try.func17, Try.ntmps17
    go_wp2
    go_ret
    exact ⟨rfl, Hb.out⟩
end
end Go.Proofs.Ytlecihbclkohjaa
