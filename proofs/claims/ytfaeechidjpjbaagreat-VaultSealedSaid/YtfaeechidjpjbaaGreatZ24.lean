/-
  Laid together for a hand-in: Sd16.
-/
import Derived.Test.YtfaeechidjpjbaaGreatZ23

namespace Go.Proofs.YtfaeechidjpjbaaGreat
open Go.RowKit Go.Maps
set_option linter.unusedVariables false
set_option linter.unusedSimpArgs false
theorem clone_zero {w : World} {A : Option Addr} {c : Nat} : Calls Tryz.prog 64 #[.slice A 0 c] w fun e w' => ∃ A' c', e = .returned (.slice A' 0 c') ∧ Below w.heap.size w w' := by
  cases A with
  | none => exact (Tryz.slices_Clone_int_nil 0 c w).mono fun e w' h => ⟨none, 0, h.1, by rw [h.2]; exact Below.refl _ _⟩
  | some a =>
    refine (Tryz.slices_Clone_int_zero a c w).mono ?_
    rintro e w' ⟨v', he, hO, _, hb⟩
    rcases hO.2 with ⟨h1, _⟩ | ⟨g, cap, cur, h1, _⟩
    · exact ⟨none, 0, by rw [he, h1], hb⟩
    · exact ⟨_, cap, by rw [he, h1], hb⟩
section
variable {w : World} {U : Nat → Prop} {g : Nat} {bk : Value} {v : Va} {cs : List Value}
set_option maxRecDepth 100000 in
set_option maxHeartbeats 1600000 in
theorem sealed_in (h : VaIn w U g bk v cs) : Calls Tryz.prog 37 #[.pointer (some ⟨g, 0, none⟩)] w fun e w' => ∃ A n c, e = .returned (.slice A n c) ∧ v.sea.length = n ∧ (0 < n → ArgI w' A n c v.sea) ∧ Below w.heap.size w w' := by
  have Hn := Lib.hid (vnone_in h)
  obtain ⟨A, n, c, e1, e2⟩ := h.sl
  have c9 := h.blk.cell e1
  have hl := e2.arg.1
  have hc : Calls Tryz.prog 64 #[.slice A n c] w fun e w' => ∃ A n c, e = .returned (.slice A n c) ∧ v.sea.length = n ∧ (0 < n → ArgI w' A n c v.sea) ∧ Below w.heap.size w w' := by
    rcases Nat.eq_zero_or_pos n with rfl | hp
    · exact clone_zero.mono fun e w' ⟨A', c', he, hb⟩ => ⟨A', 0, c', he, hl, fun h => by omega, hb⟩
    · have hn : n ≤ 1000 := by
        rcases h.ok.sea with e | ⟨e, _⟩
        · rw [e] at hl; simp at hl; omega
        · omega
      exact (clone_ints e2.arg hp hn).mono fun e w' ⟨g', cap, he, _, hA, hb⟩ => ⟨_, n, cap, he, hl, fun _ => hA, hb⟩
  have Hc := Lib.hid hc
  clear h e1 e2 hl hc
  go_enter Tryz.func37, Tryz.ntmps37
  go_wp2_with (go_at_call 55; refine Hn.out.mono ?_; rintro e w' ⟨rfl, hww⟩; have hww2 := hww.symm; subst hww2; clear hww)
  refine Hc.out.mono ?_
  rintro e w' ⟨A', n', c', rfl, h1, h2, h3⟩
  have H := Lib.hid (And.intro h1 (And.intro h2 h3))
  clear h1 h2 h3
  go_wp2
  go_ret
  exact ⟨_, _, _, rfl, H.out⟩
end
theorem LvsAt.take {w : World} {K : Nat → Prop} {A : Option Addr} {ls : List (List UInt8)} (h : LvsAt w K A ls) (n : Nat) : LvsAt w K A (ls.take n) := by
  obtain ⟨b, off, e, hb, hc⟩ := h
  refine ⟨b, off, e, hb, fun j hj => ?_⟩
  have hj' : j < ls.length := by rw [List.length_take] at hj; omega
  rw [List.getElem_take]
  exact hc j hj'
set_option maxRecDepth 100000 in
set_option maxHeartbeats 1600000 in
theorem same_lvs {w : World} {K K' : Nat → Prop} {A A' : Option Addr} {n c c' : Nat} {ls : List (List UInt8)} (h1 : LvsAt w K A ls) (h2 : LvsAt w K' A' ls) (hK : ∀ j, K j → j < w.heap.size) (hK' : ∀ j, K' j → j < w.heap.size) (hn : ls.length = n) (hn2 : n ≤ 1000) (hl : ∀ x ∈ ls, x.length ≤ 65535) :
    Calls Tryz.prog 17 #[.slice A n c, .slice A' n c'] w fun e w' => e = .returned (.bool true) ∧ Below w.heap.size w w' := by
  obtain ⟨b, off, rfl, hb, hc⟩ := h1
  obtain ⟨b', off', rfl, hb', hc'⟩ := h2
  have hnn : ((n : Int) != n) = false := by simp
  have H := Lib.hid (And.intro hc (And.intro hc' (And.intro (hK b hb) (And.intro (hK' b' hb') (And.intro hn hl)))))
  clear hc hc' hb hb' hK hK' hn hl
  go_enter Tryz.func17, Tryz.ntmps17
  go_wp2
  go_loopw [5] (fun iv wr => ∃ k : Nat, k ≤ n ∧ iv = .int .i64 (k : Int) ∧ Hid (Below w.heap.size w wr)) (fun iv _ => n - (intOf iv).toNat)
  case atStart => exact ⟨0, by omega, rfl, Lib.hid (Below.refl _ _)⟩
  case round =>
    obtain ⟨k, hk, rfl, hB⟩ := hrel
    have i0 : (0 : Int) ≤ (k : Int) := by omega
    by_cases hlt : k < n
    · have p1 : (k : Int) < (n : Int) := by omega
      have hkl : k < ls.length := by rw [H.out.2.2.2.2.1]; exact hlt
      obtain ⟨Aj, cj, q1, q2, q3, q4, _⟩ := H.out.1 k hkl
      obtain ⟨Ak, ck, r1, r2, r3, r4, _⟩ := H.out.2.1 k hkl
      have hm := H.out.2.2.2.2.2 _ (List.getElem_mem hkl)
      generalize ls[k] = x at *
      obtain ⟨m, hm2⟩ : ∃ m, x.length = m := ⟨_, rfl⟩
      rw [hm2] at q1 r1 hm
      have c1 := (hB.out.cell (p := ⟨b, off + k, none⟩) H.out.2.2.1).trans q1
      have c2 := (hB.out.cell (p := ⟨b', off' + k, none⟩) H.out.2.2.2.1).trans r1
      have HE : Hid (∀ W, Below w.heap.size w W → Calls Tryz.prog 16 #[.slice Aj m cj, .slice Ak m ck] W fun e w' => e = .returned (.bool true) ∧ Below W.heap.size W w') := Lib.hid fun W hb => by
        have := eqBytes Aj Ak cj ck m m x x W (q4.on hb) (r4.on hb) hm2 hm2 (by unfold maxLen; omega) (by unfold maxLen; omega)
        rwa [show (x == x) = true from beq_self_eq_true x] at this
      clear q1 q2 q3 q4 r1 r2 r3 r4 hm hm2 hkl
      go_upto_region 6 with fail
      go_region_with (go_at_call 16; go_loud (refine (HE.out _ (by first | exact hB.out | exact below_drewN hB.out _)).mono ?_; rintro e w2 ⟨rfl, hb2⟩; have H2 := Lib.hid (show Below w.heap.size w w2 from (by first | exact hB.out.trans (hb2.mono hB.out.size) | exact (below_drewN hB.out _).trans (hb2.mono (below_drewN hB.out _).size))); clear hb2))
      all_goals (
        clear c1 c2
        go_wp2
        go_roundw
        case rel => exact ⟨k + 1, by omega, by go_num, Lib.hid (by first | exact H2.out | exact below_drewN H2.out _)⟩
        case measure => simp [intOf]; omega)
    · have p1 : ¬ (k : Int) < (n : Int) := by omega
      go_wp2
      go_ret
      exact ⟨rfl, hB.out⟩

section
variable {w0 w w' : World} {g : Nat} {bk : Value} {K : Nat → Prop} {v : Va}
theorem lfs_cap {w : World} {base : Nat} {v : Va} {A : Option Addr} {c : Nat} {vs : List Value} (h : LfS w base v 13 (.slice A 13 c) vs) : 13 ≤ c := by
  obtain ⟨h1, ⟨h2, h3⟩ | ⟨g, cap, cur, h3, h4, h5, h6, _⟩⟩ := h.own
  · have := h.len; omega
  · injection h3 with _ _ h3
    have := h.len
    omega
theorem Vc.leaves (h : Vc w0 g bk K v w) : Calls Tryz.prog 31 #[.pointer (some ⟨g, 0, none⟩)] w fun e w' => ∃ A c, e = .returned (.slice A 13 c) ∧ 13 ≤ c ∧ LvsAt w' (fun j => w.heap.size ≤ j ∧ j < w'.heap.size) A (leavesL v) ∧ Below w.heap.size w w' := by
  obtain ⟨U, cs, h1, h2⟩ := h.va
  exact (leaves_in h1).mono fun e w' ⟨u, vs, he, hL, hb⟩ => let ⟨A, c, e1, hl⟩ := hL.lvs h1.ok; ⟨A, c, by rw [he, e1], (by subst e1; exact lfs_cap hL), hl, hb⟩
theorem Vc.sealed (h : Vc w0 g bk K v w) : Calls Tryz.prog 37 #[.pointer (some ⟨g, 0, none⟩)] w fun e w' => ∃ A n c, e = .returned (.slice A n c) ∧ v.sea.length = n ∧ (0 < n → ArgI w' A n c v.sea) ∧ Below w.heap.size w w' := by
  obtain ⟨U, cs, h1, h2⟩ := h.va
  exact sealed_in h1
theorem Vc.epoch (h : Vc w0 g bk K v w) : Calls Tryz.prog 33 #[.pointer (some ⟨g, 0, none⟩)] w fun e w' => e = .returned (.int .i64 v.ep) ∧ w' = w := by
  obtain ⟨U, cs, h1, h2⟩ := h.va
  exact epoch_in h1
theorem Vc.glt (h : Vc w0 g bk K v w) : g < w.heap.size := by
  obtain ⟨U, cs, h1, h2⟩ := h.va
  exact h1.lt g h1.u
theorem leaves_max {v : Va} (h : v.ok) : ∀ x ∈ leavesL v, x.length ≤ 65535 := fun x hx => by
  obtain ⟨j, hj, rfl⟩ := List.mem_map.1 hx
  exact leafB_max h (List.mem_range.1 hj)
/-- does, where no data is asked for. -/
theorem Vc.does0 (h : Vc w0 g bk K v w) {x : Wl} {Dx : Option Addr} {ndx cdx : Nat} {Nx : Option Addr} {nnx cnx : Nat} (hx : ArgW w x Dx ndx cdx Nx nnx cnx) (hm : May x) (hgr : x.gr = v.gr) {er ep : Int} (ha : (doS v x).2 = ⟨er, [], ep⟩) :
    Calls Tryz.prog 34 #[.pointer (some ⟨g, 0, none⟩), .agg #[.int .i64 x.cl, .int .i64 x.sp, .int .i64 x.gr, .int .i64 x.ep, .int .i64 x.kd, .int .i64 x.bl, .slice Dx ndx cdx, .int .i64 x.od, .int .i64 x.nw, .slice Nx nnx cnx], .agg #[.int .i64 er, .slice none 0 0, .int .i64 ep, .slice none 0 0]] w fun e w' => e = .returned (.bool true) ∧ Vc w0 g bk K (doS v x).1 w' ∧ Out (fun i => i = g) w w' := by
  have h0 := h
  obtain ⟨U, cs, h1, h2⟩ := h.va
  exact (does_in h1 hx hm hgr ha (Bs.nil w none) rfl (by decide) (fun b ⟨a, e, _⟩ => by cases e)).mono fun e w' ⟨he, hd⟩ => ⟨he, h0.gone (cs := cs) h2 h1.u hd, by obtain ⟨_, _, _, _, _, ho⟩ := hd; exact ho⟩
end
/-- Leaves that stay, whatever the vault does. -/
def LvK (g : Nat) (A : Option Addr) (ls : List (List UInt8)) (w : World) : Prop := ∃ K : Nat → Prop, LvsAt w K A ls ∧ (∀ j, K j → j < w.heap.size) ∧ ∀ j, K j → j ≠ g
section
variable {w w' : World} {g : Nat} {A : Option Addr} {ls : List (List UInt8)}
theorem LvK.out (h : LvK g A ls w) (ho : Out (fun i => i = g) w w') : LvK g A ls w' := by
  obtain ⟨K, h1, h2, h3⟩ := h
  exact ⟨K, h1.stays ⟨ho.size, fun j hj => ho.block j (h2 j hj) (h3 j hj)⟩, fun j hj => Nat.lt_of_lt_of_le (h2 j hj) ho.size, h3⟩
theorem LvK.below (h : LvK g A ls w) (hb : Below w.heap.size w w') : LvK g A ls w' := h.out (Out.ofBelow _ hb)
theorem LvK.new {w0 : World} (h : LvsAt w (fun j => w0.heap.size ≤ j ∧ j < w.heap.size) A ls) (hg : g < w0.heap.size) : LvK g A ls w := ⟨_, h, fun j hj => hj.2, fun j hj e => by omega⟩
theorem LvK.take (h : LvK g A ls w) (n : Nat) : LvK g A (ls.take n) w := let ⟨K, h1, h2, h3⟩ := h; ⟨K, h1.take n, h2, h3⟩
theorem LvK.same {A' : Option Addr} {n c c' : Nat} (h : LvK g A ls w) (h' : LvK g A' ls w) (hn : ls.length = n) (hn2 : n ≤ 1000) (hl : ∀ x ∈ ls, x.length ≤ 65535) :
    Calls Tryz.prog 17 #[.slice A n c, .slice A' n c'] w fun e w' => e = .returned (.bool true) ∧ Below w.heap.size w w' := by
  obtain ⟨K, h1, h2, _⟩ := h
  obtain ⟨K', h1', h2', _⟩ := h'
  exact same_lvs h1 h1' h2 h2' hn hn2 hl
theorem LvK.at_ (h : LvK g A ls w) : ∃ b off, A = some ⟨b, off, none⟩ := by obtain ⟨K, ⟨b, off, e, _⟩, _⟩ := h; exact ⟨b, off, e⟩
end
/-! ### Plain -/
/-- What the first loop keeps. -/
structure SeS (v : Va) (i : Int) : Prop where
  gr : v.gr = 1
  ep : v.ep = 0
  sea : v.sea = []
  st : StL v i
theorem SeS.new : SeS (newV 1) 0 := ⟨rfl, rfl, rfl, fun j hj => Int.le_refl 0⟩
theorem SeS.mono {v : Va} {i k : Int} (h : SeS v i) (hk : i ≤ k) : SeS v k := ⟨h.gr, h.ep, h.sea, h.st.mono hk⟩
theorem SeS.step {v : Va} {x : Wl} {i sp : Int} (h : SeS v i) (hx : WishV v.ep sp x) (hi : i < sp) (hk : x.kd ≠ 5) : SeS (doS v x).1 sp := by
  refine ⟨doS_keep.1.trans h.gr, doS_keep.2.trans h.ep, ?_, h.st.doS h.gr hx hi⟩
  rcases do_cases h.gr h.st hx hi with ⟨hk2, e⟩ | ⟨_, a, hr, e⟩ | ⟨hk2, hr, e⟩ | ⟨hk2, hr, e⟩
  · exact absurd hk2 hk
  · rw [e]; exact h.sea
  · rw [e]; exact h.sea
  · rw [e]; exact h.sea
theorem SeS.sealed0 {v : Va} {i : Int} (h : SeS v i) : doS v wx6 = ({ v with sea := [1, 2, 3, 4] }, an0) := by
  have hl : lookB v wx6 = true := by unfold lookB; rw [h.gr]; decide
  have hr : refS v wx6 = none := by unfold refS; rw [if_neg (by rw [h.ep]; decide), if_neg (by simp [h.sea])]
  unfold doS
  rw [hl, if_neg (by decide), if_pos (show wx6.kd = 5 from rfl)]
  unfold endS
  rw [hr]
  simp only
  rw [if_neg (by rw [h.ep]; decide)]
  rfl
theorem leaves_turn {v : Va} {e : Int} {s : List Int} : (leavesL { v with ep := e, sea := s }).take 12 = (leavesL v).take 12 := by
  unfold leavesL
  rw [← List.map_take, ← List.map_take]
  refine List.map_congr_left fun j hj => ?_
  have hj12 : j < 12 := by
    obtain ⟨i, hi, rfl⟩ := List.mem_iff_getElem.1 hj
    simp at hi ⊢
    omega
  unfold leafB
  rcases Nat.lt_or_ge j 8 with h8 | h8
  · rw [if_pos h8, if_pos h8]
  · have h8' : ¬ j < 8 := by omega
    simp only [h8', hj12, if_false, if_true]
end Go.Proofs.YtfaeechidjpjbaaGreat
