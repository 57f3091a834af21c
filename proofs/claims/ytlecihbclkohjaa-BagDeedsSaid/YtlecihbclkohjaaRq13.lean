/-
  The document's Put and Look over the code. (Written by tools/gen_rq13.py.)
-/
import Derived.Test.YtlecihbclkohjaaRp13
namespace Go.Proofs.Ytlecihbclkohjaa
open Go.RowKit Go.Maps
set_option linter.unusedVariables false
set_option linter.unusedSimpArgs false

/-- A new envelope and an error. -/
def NewEt (w : World) (x : En) (E : Int) (e : Ending) (w' : World) : Prop := ∃ h : EnH, h.x = x ∧ e = .returned (.tuple #[.agg #[.int .i64 h.x.fr, .int .i64 h.x.to, .slice h.a h.n h.c], .int .i64 E]) ∧ ByP w' (fun i => w.heap.size ≤ i) h ∧ Below w.heap.size w w'
section
variable {w w' : World} {U : Nat → Prop} {g : Nat} {b : Bg} {A : Option Addr} {cap : Nat} {hs : List EnH} {K : Nat → Prop}
theorem rput_end {w1 w2 w5 : World} {b' : Bg} (hU : ∀ i, U i → i < w.heap.size) (b1 : Below w.heap.size w w1) (hb2 : Below w1.heap.size w1 w2) (h : RbAt w5 (Gr (fun i => U i ∨ (w1.heap.size ≤ i ∧ i < w2.heap.size)) w2 w5) g b') (ho : Out (fun i => U i ∨ (w1.heap.size ≤ i ∧ i < w2.heap.size)) w2 w5) : RbAt w5 (Gr U w w5) g b' ∧ Out U w w5 := by
  have z1 := b1.size
  have z2 := hb2.size
  have z5 := ho.size
  have b12 := b1.trans (hb2.mono z1)
  refine ⟨h.mono (fun i hi => ?_) fun i hi => ?_, ⟨ho.os.trans b12.os, ho.tape.trans b12.tape, ho.output.trans b12.output, by omega, fun i hi hn => (ho.block i (by omega) fun e => e.elim hn fun e => by omega).trans (b12.block i hi)⟩⟩
  · rcases hi with (h1 | h1) | h1
    · exact .inl h1
    · exact .inr ⟨by omega, by omega⟩
    · exact .inr ⟨by omega, h1.2⟩
  · rcases hi with h1 | h1
    · have := hU i h1; omega
    · exact h1.2
set_option maxRecDepth 100000 in
set_option maxHeartbeats 3200000 in
theorem rput_any (h : RbAt w U g b) (x : EnH) {K' : Nat → Prop} (hx : ByP w K' x) (hse : b.sent < 1000000) (hxl : x.n ≤ 140737488355328) : Calls Try.prog 16 #[.pointer (some ⟨g, 0, none⟩), .agg #[.int .i64 x.x.fr, .int .i64 x.x.to, .slice x.a x.n x.c]] w fun e w' => e = .returned (.int .i64 (putE b x.x)) ∧ RbAt w' (Gr U w w') g (putB b x.x) ∧ Out U w w' := by
  obtain ⟨x0, a, n, c⟩ := x
  obtain ⟨f, t, bs⟩ := x0
  dsimp only at *
  obtain ⟨w1, hw1⟩ : ∃ w1, w.alloc (.cells #[.int .i64 f, .int .i64 t, .slice a n c] 29) = w1 := ⟨_, rfl⟩
  have b1 : Below w.heap.size w w1 := by rw [← hw1]; exact (Below.refl _ _).alloc (Nat.le_refl _) _
  have B1 : Blk w1 w.heap.size 29 [.int .i64 f, .int .i64 t, .slice a n c] := by rw [← hw1]; exact Blk.new rfl rfl
  have z1 : w1.heap.size = w.heap.size + 1 := by rw [← hw1]; simp
  have c0 := B1.cell (i := 0) rfl
  have c1 := B1.cell (i := 1) rfl
  have c2 := B1.cell (i := 2) rfl
  obtain ⟨A, cap, hs, K, h⟩ := h
  have h1 := h.below b1
  have hx1 : ByP w1 (fun i => i < w.heap.size) ⟨⟨f, t, bs⟩, a, n, c⟩ := (show ByP w (fun i => i < w.heap.size) ⟨⟨f, t, bs⟩, a, n, c⟩ from ⟨hx.1, hx.2.1, hx.2.2.1, hx.2.2.2.1, hx.2.2.2.2.1, fun hn => let ⟨b', off, e, _, h2, h3⟩ := hx.2.2.2.2.2 hn; ⟨b', off, e, h2, h2, h3⟩⟩).below b1 (fun i hi => hi) (Nat.le_refl _)
  have hbl : bs.length = n := hx.1
  have g0 := h1.blk.cell (i := 0) rfl
  obtain ⟨m, hm⟩ : ∃ m, b.l.length = m := ⟨_, rfl⟩
  have hm4 : m ≤ 4096 := by rw [← hm]; exact h.ok.1
  rw [hm] at g0
  have HS := Lib.hid (And.intro h (And.intro h1 (And.intro hx1 (And.intro b1 (And.intro hse (And.intro hbl (And.intro (RbAt.mono (U' := Gr U w w1) ⟨A, cap, hs, K, h1⟩ (fun i hi => .inl hi) fun i hi => hi.elim (fun h2 => h1.lt i h2) fun h2 => h2.2) (And.intro hm B1))))))))
  have OU := Out.ofBelow U b1
  clear h h1 hx1 b1 B1 hx hse hbl hm
  unfold putE putB
  unfold putE
  dsimp only
  cases hnf : nmE f with
  | false =>
    rw [if_pos rfl, if_neg (by decide)]
    have HF := Lib.hid (show ∀ w, Calls Try.prog 45 #[.int .i64 f] w fun e w' => e = .returned (.bool false) ∧ w' = w from fun w => by have := rname_any f w; rw [hnf] at this; exact this)
    clear hnf
    go_enter Try.func16, Try.ntmps16
    go_wp2_with fail
    refine (HF.out _).mono ?_; rintro e w1 ⟨rfl, rfl⟩
    go_wp2
    go_ret
    exact ⟨rfl, HS.out.2.2.2.2.2.2.1, OU⟩
  | true =>
    rw [if_neg (by decide)]
    have HF := Lib.hid (show ∀ w, Calls Try.prog 45 #[.int .i64 f] w fun e w' => e = .returned (.bool true) ∧ w' = w from fun w => by have := rname_any f w; rw [hnf] at this; exact this)
    cases hnt : nmE t with
    | false =>
      rw [if_pos rfl, if_neg (by decide)]
      have HT := Lib.hid (show ∀ w, Calls Try.prog 45 #[.int .i64 t] w fun e w' => e = .returned (.bool false) ∧ w' = w from fun w => by have := rname_any t w; rw [hnt] at this; exact this)
      clear hnf hnt
      go_enter Try.func16, Try.ntmps16
      go_wp2_with fail
      refine (HF.out _).mono ?_; rintro e w1 ⟨rfl, rfl⟩
      go_wp2_with fail
      refine (HT.out _).mono ?_; rintro e w1 ⟨rfl, rfl⟩
      go_wp2
      go_ret
      exact ⟨rfl, HS.out.2.2.2.2.2.2.1, OU⟩
    | true =>
      rw [if_neg (by decide)]
      have HT := Lib.hid (show ∀ w, Calls Try.prog 45 #[.int .i64 t] w fun e w' => e = .returned (.bool true) ∧ w' = w from fun w => by have := rname_any t w; rw [hnt] at this; exact this)
      by_cases hn : 65536 < bs.length
      · rw [if_pos hn, if_neg (by decide)]
        have hn1 : (n : Int) > 65536 := by have := HS.out.2.2.2.2.2.1; omega
        clear hnf hnt hn
        go_enter Try.func16, Try.ntmps16
        go_wp2_with fail
        refine (HF.out _).mono ?_; rintro e w1 ⟨rfl, rfl⟩
        go_wp2_with fail
        refine (HT.out _).mono ?_; rintro e w1 ⟨rfl, rfl⟩
        go_wp2
        go_ret
        exact ⟨rfl, HS.out.2.2.2.2.2.2.1, OU⟩
      · rw [if_neg hn]
        have hn1 : ¬ (n : Int) > 65536 := by have := HS.out.2.2.2.2.2.1; omega
        by_cases hf : 4096 ≤ b.l.length
        · rw [if_pos hf, if_neg (by decide)]
          have hme : m = 4096 := by have := HS.out.2.2.2.2.2.2.2.1; omega
          subst hme
          clear hnf hnt hn
          go_enter Try.func16, Try.ntmps16
          go_wp2_with fail
          refine (HF.out _).mono ?_; rintro e w1 ⟨rfl, rfl⟩
          go_wp2_with fail
          refine (HT.out _).mono ?_; rintro e w1 ⟨rfl, rfl⟩
          go_wp2
          go_ret
          exact ⟨rfl, HS.out.2.2.2.2.2.2.1, OU⟩
        · rw [if_neg hf, if_pos rfl]
          have hml : m < 4096 := by have := HS.out.2.2.2.2.2.2.2.1; omega
          have hmz : ((m : Int) == 4096) = false := by simp; omega
          have HP := Lib.hid (show OkE ⟨f, t, bs⟩ from ⟨hnf, hnt, by show bs.length ≤ 65536; omega⟩)
          have hn2 : n ≤ 65536 := by omega
          have b1d : Below w.heap.size w w1.drew := HS.out.2.2.2.1.drew
          have B1d : Blk w1.drew w.heap.size 29 [.int .i64 f, .int .i64 t, .slice a n c] := HS.out.2.2.2.2.2.2.2.2
          have s1 : w1.drew.cell? ⟨w.heap.size, 0, none⟩ = some (.int .i64 f) ∧ w1.drew.cell? ⟨w.heap.size, 1, none⟩ = some (.int .i64 t) ∧ w1.drew.cell? ⟨w.heap.size, 2, none⟩ = some (.slice a n c) := ⟨B1d.cell rfl, B1d.cell rfl, B1d.cell rfl⟩
          have g1 : w1.drew.cell? ⟨g, 0, none⟩ = some (.slice A m cap) := g0
          have hxd : ByP w1.drew (fun i => i < w.heap.size) ⟨⟨f, t, bs⟩, a, n, c⟩ := HS.out.2.2.1.below (w' := w1.drew) ((Below.refl w1.heap.size w1).drew) (fun i hi => by omega) (Nat.le_refl _)
          have hrd : RbIn w1.drew U g b A cap hs K := HS.out.2.1.below (w' := w1.drew) ((Below.refl w1.heap.size w1).drew)
          have zd : w1.drew.heap.size = w.heap.size + 1 := z1
          obtain ⟨wd, hwd⟩ : ∃ wd, w1.drew = wd := ⟨_, rfl⟩
          rw [hwd] at b1d B1d s1 g1 hxd hrd zd
          have Hd := Lib.hid (And.intro b1d (And.intro B1d (And.intro hxd (And.intro hrd hwd))))
          clear hnf hnt hn b1d B1d hxd hrd hwd
          go_enter Try.func16, Try.ntmps16
          go_wp2_with fail
          refine (HF.out _).mono ?_; rintro e w1 ⟨rfl, rfl⟩
          go_wp2_with fail
          refine (HT.out _).mono ?_; rintro e w1 ⟨rfl, rfl⟩
          go_wp2
          refine wp_region_held_drew (S := fun W => W.cell? ⟨w.heap.size, 0, none⟩ = some (.int .i64 f) ∧ W.cell? ⟨w.heap.size, 1, none⟩ = some (.int .i64 t) ∧ W.cell? ⟨w.heap.size, 2, none⟩ = some (.slice a n c)) (by kernel_rfl) (by rw [Hd.out.2.2.2.2]; exact s1) (fun _ => ?_)
          rw [Hd.out.2.2.2.2]
          clear c0 c1 c2 g0
          refine anyH_take (i := 0) (d := 25) (v := ?a0) rfl rfl (by kernel_rfl) (by kernel_rfl) (by kernel_rfl) (fun _ _ _ h => h) (Or.inl ⟨by rfl, ?ay0⟩) s1 ?ar0
          case ay0 => (intro w; go_simp; try with_reducible rfl)
          simp only [List.setIfInBounds_toArray, List.set_cons_zero, List.set_cons_succ]
          refine anyH_take (i := 1) (d := 26) (v := ?a1) rfl rfl (by kernel_rfl) (by kernel_rfl) (by kernel_rfl) (fun _ _ _ h => h) (Or.inl ⟨by rfl, ?ay1⟩) s1 ?ar1
          case ay1 => (intro w; go_simp; try with_reducible rfl)
          simp only [List.setIfInBounds_toArray, List.set_cons_zero, List.set_cons_succ]
          refine anyH_take (i := 2) (d := 27) (v := ?a2) rfl rfl (by kernel_rfl) (by kernel_rfl) (by kernel_rfl) (fun _ _ _ h => h) (Or.inl ⟨by rfl, ?ay2⟩) s1 ?ar2
          case ay2 => (intro w; go_simp; try with_reducible rfl)
          simp only [List.setIfInBounds_toArray, List.set_cons_zero, List.set_cons_succ]
          refine anyH_take (i := 3) (d := 28) (v := ?a3) rfl rfl (by kernel_rfl) (by kernel_rfl) (by kernel_rfl) (fun _ _ _ h => h) (Or.inl ⟨by rfl, ?ay3⟩) s1 ?ar3
          case ay3 => (intro w; go_simp; try with_reducible rfl)
          simp only [List.setIfInBounds_toArray, List.set_cons_zero, List.set_cons_succ]
          refine wpAnyH_take' (i := 5) (d := 30) (v := ?a5) rfl rfl (by kernel_rfl) (by kernel_rfl) (by kernel_rfl) (fun _ _ _ h => h) (Or.inl ⟨by rfl, ?ay5⟩) s1 ?ar5
          case ay5 => (intro w hSw; go_split_ands; go_simp; try with_reducible rfl)
          simp only [List.setIfInBounds_toArray, List.set_cons_zero, List.set_cons_succ]
          refine anyH_two (i := 4) (j := 6) (by kernel_rfl) ?_ ?_
          · skip
            refine wpOp_step rfl (fun K hK => ?_)
            go_simp
            refine hK _ _ ⟨s1, ?_⟩
            clear hK K
            refine anyH_one (i := 6) (by kernel_rfl) ?_
            refine wpOp_step rfl (fun KK hK => ?_)
            go_simp
            refine (rcopy_any _ ⟨⟨f, t, bs⟩, a, n, c⟩ Hd.out.2.2.1 (by dsimp only; omega)).mono ?_
            rintro e w2 ⟨⟨zx, za, zn, zc⟩, hz, rfl, hby, hb2⟩
            obtain rfl : zx = _ := hz
            have z2 := hb2.size
            have hr2 : RbIn w2 (fun i => U i ∨ (wd.heap.size ≤ i ∧ i < w2.heap.size)) g b A cap hs (fun i => K i ∨ (wd.heap.size ≤ i ∧ i < w2.heap.size)) := (Hd.out.2.2.2.1.below hb2).wide (fun i hi => .inl hi) (fun i hi => .inl hi) (fun i hi => hi.imp_left (HS.out.1.ku i)) (fun i hi => hi.imp_right fun h e => by have := HS.out.1.lt i e; omega) (fun i hi => hi.elim (fun h => (Hd.out.2.2.2.1.below hb2).lt i h) fun h => h.2)
            have hby2 : ByP w2 (fun i => K i ∨ (wd.heap.size ≤ i ∧ i < w2.heap.size)) ⟨⟨f, t, bs⟩, za, zn, zc⟩ := ⟨hby.1, hby.2.1, hby.2.2.1, hby.2.2.2.1, hby.2.2.2.2.1, fun hn => let ⟨b', off, e, h1, h2, h3⟩ := hby.2.2.2.2.2 hn; ⟨b', off, e, .inr ⟨h1, h2⟩, h2, h3⟩⟩
            have B2 := Hd.out.2.1.below hb2 Hd.out.2.1.lt
            obtain ⟨A', cap', w3, hap, q1, q2, q3, q4, q5, q6, q7⟩ := rsend_core hr2 _ hby2 HP.out (by have := HS.out.2.2.2.2.2.2.2.1; omega) HS.out.2.2.2.2.1 w.heap.size _ _ _ B2 (fun e => e.elim (fun e => by have := HS.out.1.lt _ e; omega) fun e => by omega)
            dsimp only at hap q1 q2 q7
            rw [HS.out.2.2.2.2.2.2.2.1] at hap q1 q4 q6 q7
            have g2 := hr2.blk.cell (i := 0) rfl
            rw [HS.out.2.2.2.2.2.2.2.1] at g2
            have hrow := row_env w2 f t za zn zc
            obtain ⟨w2r, hw2r⟩ : ∃ w2r, w2.alloc (.cells #[.int .i64 f, .int .i64 t, .slice za zn zc] 29) = w2r := ⟨_, rfl⟩
            rw [hw2r] at hap q1 q2 hrow
            obtain ⟨w4, hw4⟩ : ∃ w4, w3.setCell ⟨g, 0, none⟩ (.slice A' (m + 1) cap') = w4 := ⟨_, rfl⟩
            rw [hw4] at q4 q6 q7
            have g3 := q5.cell (i := 0) rfl
            have f3 := q5.free 0
            rw [HS.out.2.2.2.2.2.2.2.1] at g3
            have t2 : w2.cell? ⟨w.heap.size, 0, none⟩ = some (.int .i64 f) ∧ w2.cell? ⟨w.heap.size, 1, none⟩ = some (.int .i64 t) ∧ w2.cell? ⟨w.heap.size, 2, none⟩ = some (.slice a n c) := ⟨B2.cell rfl, B2.cell rfl, B2.cell rfl⟩
            have t2r : w2r.cell? ⟨w.heap.size, 0, none⟩ = some (.int .i64 f) ∧ w2r.cell? ⟨w.heap.size, 1, none⟩ = some (.int .i64 t) ∧ w2r.cell? ⟨w.heap.size, 2, none⟩ = some (.slice a n c) := ⟨q2.cell rfl, q2.cell rfl, q2.cell rfl⟩
            have t3 : w3.cell? ⟨w.heap.size, 0, none⟩ = some (.int .i64 f) ∧ w3.cell? ⟨w.heap.size, 1, none⟩ = some (.int .i64 t) ∧ w3.cell? ⟨w.heap.size, 2, none⟩ = some (.slice a n c) := ⟨q3.cell rfl, q3.cell rfl, q3.cell rfl⟩
            have t4 : w4.cell? ⟨w.heap.size, 0, none⟩ = some (.int .i64 f) ∧ w4.cell? ⟨w.heap.size, 1, none⟩ = some (.int .i64 t) ∧ w4.cell? ⟨w.heap.size, 2, none⟩ = some (.slice a n c) := ⟨q4.cell rfl, q4.cell rfl, q4.cell rfl⟩
            have HQ := Lib.hid (And.intro hap (And.intro hrow (And.intro q6 (And.intro q7 hb2))))
            clear hap hrow q2 q3 q4 q5 q6 q7 hr2 hby2 B2 hby hb2 hw2r
            refine hK _ _ ⟨t2, ?_⟩
            clear hK KK
            refine anyH_one (i := 7) (by kernel_rfl) ?_
            refine op_row rfl rfl rfl _ _ _ rfl _ _ (by simp only [List.map_toArray, List.map_cons, List.map_nil]; exact HQ.out.2.1) ?_
            refine ⟨t2r, ?_⟩
            simp only [List.setIfInBounds_toArray, List.set_cons_zero, List.set_cons_succ]
            refine anyH_one (i := 8) (by kernel_rfl) ?_
            refine op_append rfl rfl rfl _ _ _ _ rfl _ _ _ _ rfl rfl HQ.out.1 ?_
            refine ⟨t3, ?_⟩
            simp only [List.setIfInBounds_toArray, List.set_cons_zero, List.set_cons_succ]
            refine anyH_take (i := 9) (d := 34) (v := ?b9) rfl rfl (by kernel_rfl) (by kernel_rfl) (by kernel_rfl) (fun _ _ _ h => h) (Or.inl ⟨by rfl, ?by9⟩) t3 ?br9
            case by9 => (intro w; go_simp; try with_reducible rfl)
            simp only [List.setIfInBounds_toArray, List.set_cons_zero, List.set_cons_succ]
            refine anyH_take (i := 10) (d := 35) (v := ?b10) rfl rfl (by kernel_rfl) (by kernel_rfl) (by kernel_rfl) (fun _ _ _ h => h) (Or.inl ⟨by rfl, ?by10⟩) t3 ?br10
            case by10 => (intro w; go_simp; try with_reducible rfl)
            simp only [List.setIfInBounds_toArray, List.set_cons_zero, List.set_cons_succ]
            refine anyH_one (i := 11) (by kernel_rfl) ?_
            refine wpOp_step rfl (fun K hK => ?_)
            go_simp
            refine hK _ _ ⟨t4, ?_⟩
            clear hK K
            refine wpAnyH_done (by kernel_rfl) ?_ _
            clear hw4 t2 t2r t3 t4 g2 q1 g3 f3 s1
            have x1 := HQ.out.2.2.1.cell (i := 1) rfl
            have xf := HQ.out.2.2.1.free 1
            have hwi : IntKind.i64.wrap ((b.sent : Int) + 1) = ((b.sent + 1 : Nat) : Int) := by rw [IntWalk.i64_in _ (by have := HS.out.2.2.2.2.1; omega)]; omega
            obtain ⟨w5, hw5⟩ : ∃ w5, w4.setCell ⟨g, 1, none⟩ (.int .i64 ((b.sent + 1 : Nat) : Int)) = w5 := ⟨_, rfl⟩
            obtain ⟨sv, hsv⟩ : ∃ sv : Int, ((b.sent + 1 : Nat) : Int) = sv := ⟨_, rfl⟩
            rw [hsv] at hwi hw5
            have HV := Lib.hid hsv
            clear hsv
            go_wp2
            go_ret
            obtain ⟨r1, r2⟩ := HQ.out.2.2.2.1 w5 (by rw [HV.out]; exact hw5)
            exact ⟨rfl, rput_end HS.out.1.lt Hd.out.1 HQ.out.2.2.2.2 r1 r2⟩
          · skip
            refine wpOp_step rfl (fun KK hK => ?_)
            go_simp
            refine (rcopy_any _ ⟨⟨f, t, bs⟩, a, n, c⟩ Hd.out.2.2.1 (by dsimp only; omega)).mono ?_
            rintro e w2 ⟨⟨zx, za, zn, zc⟩, hz, rfl, hby, hb2⟩
            obtain rfl : zx = _ := hz
            have z2 := hb2.size
            have hr2 : RbIn w2 (fun i => U i ∨ (wd.heap.size ≤ i ∧ i < w2.heap.size)) g b A cap hs (fun i => K i ∨ (wd.heap.size ≤ i ∧ i < w2.heap.size)) := (Hd.out.2.2.2.1.below hb2).wide (fun i hi => .inl hi) (fun i hi => .inl hi) (fun i hi => hi.imp_left (HS.out.1.ku i)) (fun i hi => hi.imp_right fun h e => by have := HS.out.1.lt i e; omega) (fun i hi => hi.elim (fun h => (Hd.out.2.2.2.1.below hb2).lt i h) fun h => h.2)
            have hby2 : ByP w2 (fun i => K i ∨ (wd.heap.size ≤ i ∧ i < w2.heap.size)) ⟨⟨f, t, bs⟩, za, zn, zc⟩ := ⟨hby.1, hby.2.1, hby.2.2.1, hby.2.2.2.1, hby.2.2.2.2.1, fun hn => let ⟨b', off, e, h1, h2, h3⟩ := hby.2.2.2.2.2 hn; ⟨b', off, e, .inr ⟨h1, h2⟩, h2, h3⟩⟩
            have B2 := Hd.out.2.1.below hb2 Hd.out.2.1.lt
            obtain ⟨A', cap', w3, hap, q1, q2, q3, q4, q5, q6, q7⟩ := rsend_core hr2 _ hby2 HP.out (by have := HS.out.2.2.2.2.2.2.2.1; omega) HS.out.2.2.2.2.1 w.heap.size _ _ _ B2 (fun e => e.elim (fun e => by have := HS.out.1.lt _ e; omega) fun e => by omega)
            dsimp only at hap q1 q2 q7
            rw [HS.out.2.2.2.2.2.2.2.1] at hap q1 q4 q6 q7
            have g2 := hr2.blk.cell (i := 0) rfl
            rw [HS.out.2.2.2.2.2.2.2.1] at g2
            have hrow := row_env w2 f t za zn zc
            obtain ⟨w2r, hw2r⟩ : ∃ w2r, w2.alloc (.cells #[.int .i64 f, .int .i64 t, .slice za zn zc] 29) = w2r := ⟨_, rfl⟩
            rw [hw2r] at hap q1 q2 hrow
            obtain ⟨w4, hw4⟩ : ∃ w4, w3.setCell ⟨g, 0, none⟩ (.slice A' (m + 1) cap') = w4 := ⟨_, rfl⟩
            rw [hw4] at q4 q6 q7
            have g3 := q5.cell (i := 0) rfl
            have f3 := q5.free 0
            rw [HS.out.2.2.2.2.2.2.2.1] at g3
            have t2 : w2.cell? ⟨w.heap.size, 0, none⟩ = some (.int .i64 f) ∧ w2.cell? ⟨w.heap.size, 1, none⟩ = some (.int .i64 t) ∧ w2.cell? ⟨w.heap.size, 2, none⟩ = some (.slice a n c) := ⟨B2.cell rfl, B2.cell rfl, B2.cell rfl⟩
            have t2r : w2r.cell? ⟨w.heap.size, 0, none⟩ = some (.int .i64 f) ∧ w2r.cell? ⟨w.heap.size, 1, none⟩ = some (.int .i64 t) ∧ w2r.cell? ⟨w.heap.size, 2, none⟩ = some (.slice a n c) := ⟨q2.cell rfl, q2.cell rfl, q2.cell rfl⟩
            have t3 : w3.cell? ⟨w.heap.size, 0, none⟩ = some (.int .i64 f) ∧ w3.cell? ⟨w.heap.size, 1, none⟩ = some (.int .i64 t) ∧ w3.cell? ⟨w.heap.size, 2, none⟩ = some (.slice a n c) := ⟨q3.cell rfl, q3.cell rfl, q3.cell rfl⟩
            have t4 : w4.cell? ⟨w.heap.size, 0, none⟩ = some (.int .i64 f) ∧ w4.cell? ⟨w.heap.size, 1, none⟩ = some (.int .i64 t) ∧ w4.cell? ⟨w.heap.size, 2, none⟩ = some (.slice a n c) := ⟨q4.cell rfl, q4.cell rfl, q4.cell rfl⟩
            have HQ := Lib.hid (And.intro hap (And.intro hrow (And.intro q6 (And.intro q7 hb2))))
            clear hap hrow q2 q3 q4 q5 q6 q7 hr2 hby2 B2 hby hb2 hw2r
            refine hK _ _ ⟨t2, ?_⟩
            clear hK KK
            refine anyH_two (i := 4) (j := 7) (by kernel_rfl) ?_ ?_
            · skip
              refine wpOp_step rfl (fun K hK => ?_)
              go_simp
              refine hK _ _ ⟨t2, ?_⟩
              clear hK K
              refine anyH_one (i := 7) (by kernel_rfl) ?_
              refine op_row rfl rfl rfl _ _ _ rfl _ _ (by simp only [List.map_toArray, List.map_cons, List.map_nil]; exact HQ.out.2.1) ?_
              refine ⟨t2r, ?_⟩
              simp only [List.setIfInBounds_toArray, List.set_cons_zero, List.set_cons_succ]
              refine anyH_one (i := 8) (by kernel_rfl) ?_
              refine op_append rfl rfl rfl _ _ _ _ rfl _ _ _ _ rfl rfl HQ.out.1 ?_
              refine ⟨t3, ?_⟩
              simp only [List.setIfInBounds_toArray, List.set_cons_zero, List.set_cons_succ]
              refine anyH_take (i := 9) (d := 34) (v := ?c9) rfl rfl (by kernel_rfl) (by kernel_rfl) (by kernel_rfl) (fun _ _ _ h => h) (Or.inl ⟨by rfl, ?cy9⟩) t3 ?cr9
              case cy9 => (intro w; go_simp; try with_reducible rfl)
              simp only [List.setIfInBounds_toArray, List.set_cons_zero, List.set_cons_succ]
              refine anyH_take (i := 10) (d := 35) (v := ?c10) rfl rfl (by kernel_rfl) (by kernel_rfl) (by kernel_rfl) (fun _ _ _ h => h) (Or.inl ⟨by rfl, ?cy10⟩) t3 ?cr10
              case cy10 => (intro w; go_simp; try with_reducible rfl)
              simp only [List.setIfInBounds_toArray, List.set_cons_zero, List.set_cons_succ]
              refine anyH_one (i := 11) (by kernel_rfl) ?_
              refine wpOp_step rfl (fun K hK => ?_)
              go_simp
              refine hK _ _ ⟨t4, ?_⟩
              clear hK K
              refine wpAnyH_done (by kernel_rfl) ?_ _
              clear hw4 t2 t2r t3 t4 g2 q1 g3 f3 s1
              have x1 := HQ.out.2.2.1.cell (i := 1) rfl
              have xf := HQ.out.2.2.1.free 1
              have hwi : IntKind.i64.wrap ((b.sent : Int) + 1) = ((b.sent + 1 : Nat) : Int) := by rw [IntWalk.i64_in _ (by have := HS.out.2.2.2.2.1; omega)]; omega
              obtain ⟨w5, hw5⟩ : ∃ w5, w4.setCell ⟨g, 1, none⟩ (.int .i64 ((b.sent + 1 : Nat) : Int)) = w5 := ⟨_, rfl⟩
              obtain ⟨sv, hsv⟩ : ∃ sv : Int, ((b.sent + 1 : Nat) : Int) = sv := ⟨_, rfl⟩
              rw [hsv] at hwi hw5
              have HV := Lib.hid hsv
              clear hsv
              go_wp2
              go_ret
              obtain ⟨r1, r2⟩ := HQ.out.2.2.2.1 w5 (by rw [HV.out]; exact hw5)
              exact ⟨rfl, rput_end HS.out.1.lt Hd.out.1 HQ.out.2.2.2.2 r1 r2⟩
            · skip
              refine op_row rfl rfl rfl _ _ _ rfl _ _ (by simp only [List.map_toArray, List.map_cons, List.map_nil]; exact HQ.out.2.1) ?_
              refine ⟨t2r, ?_⟩
              simp only [List.setIfInBounds_toArray, List.set_cons_zero, List.set_cons_succ]
              refine anyH_one (i := 4) (by kernel_rfl) ?_
              refine wpOp_step rfl (fun K hK => ?_)
              go_simp
              refine hK _ _ ⟨t2r, ?_⟩
              clear hK K
              refine anyH_one (i := 8) (by kernel_rfl) ?_
              refine op_append rfl rfl rfl _ _ _ _ rfl _ _ _ _ rfl rfl HQ.out.1 ?_
              refine ⟨t3, ?_⟩
              simp only [List.setIfInBounds_toArray, List.set_cons_zero, List.set_cons_succ]
              refine anyH_take (i := 9) (d := 34) (v := ?d9) rfl rfl (by kernel_rfl) (by kernel_rfl) (by kernel_rfl) (fun _ _ _ h => h) (Or.inl ⟨by rfl, ?dy9⟩) t3 ?dr9
              case dy9 => (intro w; go_simp; try with_reducible rfl)
              simp only [List.setIfInBounds_toArray, List.set_cons_zero, List.set_cons_succ]
              refine anyH_take (i := 10) (d := 35) (v := ?d10) rfl rfl (by kernel_rfl) (by kernel_rfl) (by kernel_rfl) (fun _ _ _ h => h) (Or.inl ⟨by rfl, ?dy10⟩) t3 ?dr10
              case dy10 => (intro w; go_simp; try with_reducible rfl)
              simp only [List.setIfInBounds_toArray, List.set_cons_zero, List.set_cons_succ]
              refine anyH_one (i := 11) (by kernel_rfl) ?_
              refine wpOp_step rfl (fun K hK => ?_)
              go_simp
              refine hK _ _ ⟨t4, ?_⟩
              clear hK K
              refine wpAnyH_done (by kernel_rfl) ?_ _
              clear hw4 t2 t2r t3 t4 g2 q1 g3 f3 s1
              have x1 := HQ.out.2.2.1.cell (i := 1) rfl
              have xf := HQ.out.2.2.1.free 1
              have hwi : IntKind.i64.wrap ((b.sent : Int) + 1) = ((b.sent + 1 : Nat) : Int) := by rw [IntWalk.i64_in _ (by have := HS.out.2.2.2.2.1; omega)]; omega
              obtain ⟨w5, hw5⟩ : ∃ w5, w4.setCell ⟨g, 1, none⟩ (.int .i64 ((b.sent + 1 : Nat) : Int)) = w5 := ⟨_, rfl⟩
              obtain ⟨sv, hsv⟩ : ∃ sv : Int, ((b.sent + 1 : Nat) : Int) = sv := ⟨_, rfl⟩
              rw [hsv] at hwi hw5
              have HV := Lib.hid hsv
              clear hsv
              go_wp2
              go_ret
              obtain ⟨r1, r2⟩ := HQ.out.2.2.2.1 w5 (by rw [HV.out]; exact hw5)
              exact ⟨rfl, rput_end HS.out.1.lt Hd.out.1 HQ.out.2.2.2.2 r1 r2⟩
set_option maxRecDepth 100000 in
set_option maxHeartbeats 1600000 in
theorem rlook_any (h : RbAt w U g b) (i : Int) : Calls Try.prog 19 #[.pointer (some ⟨g, 0, none⟩), .int .i64 i] w fun e w' => NewEt w (lookB b i) (lackE b i) e w' := by
  obtain ⟨A, cap, hs, K, h⟩ := h
  obtain ⟨w1, hw1⟩ : ∃ w1, w.alloc (.cells #[.int .i64 0, .int .i64 0, .slice none 0 0] 29) = w1 := ⟨_, rfl⟩
  have b1 : Below w.heap.size w w1 := by rw [← hw1]; exact (Below.refl _ _).alloc (Nat.le_refl _) _
  have B1 : Blk w1 w.heap.size 29 [.int .i64 0, .int .i64 0, .slice none 0 0] := by rw [← hw1]; exact Blk.new rfl rfl
  have z1 := b1.size
  have h1 := h.below b1
  have g1 := h1.blk.cell (i := 0) rfl
  obtain ⟨m, hm⟩ : ∃ m, b.l.length = m := ⟨_, rfl⟩
  rw [hm] at g1
  by_cases hE : lackE b i = 0
  · have hel : lookB b i = atB b i := by unfold lookB; rw [if_pos hE]
    rw [hel, hE]
    obtain ⟨n, rfl, hn⟩ := lack0 hE
    have hnl : n < hs.length := by have := h.len; omega
    have hat := atB_rs h hnl
    obtain ⟨r, rfl, hr, c0, c1, c2⟩ := h1.at_ hnl
    have i0 : (0 : Int) ≤ (n : Int) := by omega
    have i1 : (n : Int) < m := by omega
    have i2 : ¬ (n : Int) ≥ m := by omega
    have hmem := h1.bys _ (List.getElem_mem hnl)
    have hok := (h.ok.2.2.2 (hs[n].x) (by rw [← h.xs]; exact List.mem_map_of_mem (List.getElem_mem hnl))).2.2
    obtain ⟨y, hy⟩ : ∃ y, hs[n] = y := ⟨_, rfl⟩
    rw [hy] at c0 c1 c2 hmem hok hat
    rw [hat]
    have hyn : y.n ≤ 65536 := by rw [← hmem.1]; exact hok
    have HS := Lib.hid (And.intro B1 (And.intro b1 (And.intro hmem hyn)))
    clear h h1 B1 hm hE hel hmem hok hy hat
    go_enter Try.func19, Try.ntmps19
    go_wp2_with fail
    refine (rcopy_any _ y HS.out.2.2.1 (by have := HS.out.2.2.2; omega)).mono ?_
    rintro e w2 ⟨z, hz, rfl, hby, hb2⟩
    have B2 := HS.out.1.below hb2 HS.out.1.lt
    have e0 := B2.cell (i := 0) rfl
    have e1 := B2.cell (i := 1) rfl
    have e2 := B2.cell (i := 2) rfl
    have f0 := B2.free 0
    have f1 := B2.free 1
    have f2 := B2.free 2
    have H2 := Lib.hid (And.intro B2 (And.intro hby (And.intro hb2 hz)))
    clear B2 hby hb2 hz
    go_wp2
    obtain ⟨q1, q2⟩ := three (K := K) (.int .i64 z.x.fr) (.int .i64 z.x.to) (.slice z.a z.n z.c) H2.out.1
    refine bodyPost_ret (results_row_tmp rfl _ _ w.heap.size 29 _ _ _ rfl rfl q1 Try.underlying29 rfl env_size) rfl ?_
    have hz1 := HS.out.1.lt
    have hz2 := H2.out.2.2.1.size
    exact ⟨z, H2.out.2.2.2, rfl, (H2.out.2.1.out q2 fun i hi e => by omega).mono fun i hi => Nat.le_trans z1 hi, (HS.out.2.1.trans (H2.out.2.2.1.mono z1)).trans (q2.above (fun i e => by omega) (by omega))⟩
  · have hel : lookB b i = zE := by unfold lookB; rw [if_neg hE]
    have hE9 : lackE b i = 9 := (lack_wf b i).resolve_left hE
    have hc : i < 0 ∨ (¬ i < 0 ∧ i ≥ m) := by
      unfold lackE at hE
      by_cases h0 : i < 0
      · exact .inl h0
      · rw [if_neg h0] at hE
        by_cases h2 : (b.l.length : Int) ≤ i
        · exact .inr ⟨h0, by omega⟩
        · rw [if_neg h2] at hE; exact absurd rfl hE
    rw [hel, hE9]
    have HS := Lib.hid (And.intro B1 b1)
    have e0 := B1.cell (i := 0) rfl
    have e1 := B1.cell (i := 1) rfl
    have e2 := B1.cell (i := 2) rfl
    have f0 := B1.free 0
    have f1 := B1.free 1
    have f2 := B1.free 2
    clear h h1 B1 hE hel hE9 hm
    rcases hc with hc | ⟨hc1, hc⟩
    · go_enter Try.func19, Try.ntmps19
      go_wp2
      obtain ⟨q1, q2⟩ := three (K := K) (.int .i64 0) (.int .i64 0) (.slice none 0 0) HS.out.1
      refine bodyPost_ret (results_row_tmp rfl _ _ w.heap.size 29 _ _ _ rfl rfl q1 Try.underlying29 rfl env_size) rfl ?_
      exact ⟨⟨zE, none, 0, 0⟩, rfl, rfl, ByP.zero _ _, HS.out.2.trans (q2.above (fun i e => by omega) z1)⟩
    · go_enter Try.func19, Try.ntmps19
      go_wp2
      obtain ⟨q1, q2⟩ := three (K := K) (.int .i64 0) (.int .i64 0) (.slice none 0 0) HS.out.1
      refine bodyPost_ret (results_row_tmp rfl _ _ w.heap.size 29 _ _ _ rfl rfl q1 Try.underlying29 rfl env_size) rfl ?_
      exact ⟨⟨zE, none, 0, 0⟩, rfl, rfl, ByP.zero _ _, HS.out.2.trans (q2.above (fun i e => by omega) z1)⟩
end
end Go.Proofs.Ytlecihbclkohjaa
