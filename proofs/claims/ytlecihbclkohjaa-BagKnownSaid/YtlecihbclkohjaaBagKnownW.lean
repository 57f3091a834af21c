/-
  The chapter's numbers, both ends of a bag, and bags that are none; BagKnown returns true (closed); no condition.
-/
import Derived.Test.YtlecihbclkohjaaOpen
import Derived.Test.YtlecihbclkohjaaNn13
import Derived.Test.YtlecihbclkohjaaWk13
import Derived.Deep.OwnRows
namespace Go.Proofs.Ytlecihbclkohjaa.bagKnown
open Go.ChangeShapes Go.WideShapes Go.ChangeAt Go.RowKit
set_option linter.unusedVariables false

theorem makeB (n : Nat) (hn : n ≤ 140737488351232) : ∃ (Z : Array Value), (cbs (List.replicate n 0)).toArray = Z ∧ ∀ w : World, (Instr.makeSlice 27 (.int .i64 (n : Int)) (.int .i64 (n : Int))).run Try.prog w = .ok (.slice (some ⟨w.heap.size, 0, none⟩) n n) (w.alloc (.cells Z 5)) := by
  refine ⟨madeCells #[.int .u8 0] n, ?_, fun w => run_make_row' 27 5 (.int .u8 0) 1 Try.underlying27 u8_info rfl .i64 .i64 n (by omega) (by omega) w⟩
  apply Array.ext
  · simp [madeCells, cbs]
  · intro i h1 h2
    have hi : i < n := by simpa [cbs] using h1
    simp [madeCells, cbs, Nat.mod_one]
    rfl
theorem mk_g {P : Program} {ops : Array Oper} {rest : List Oper} {o : Oper} {a : Act} {w : World} {Q : Exit → Act → World → Prop} (hw : Region.wanted o (yielded ops a.tmps) = true) (ty : TypeId) (x y : Operand) (ho : o.op = .makeSlice ty x y)
    (X Y : Value) (hx : a.eval x = X) (hy : a.eval y = Y) (v : Value) (w' : World) (hr : (Instr.makeSlice ty X Y).run P w = .ok v w') (h : wpList P ops Q rest (a.put o.dst v) w') : wpList P ops Q (o :: rest) a w :=
  wpList_step fun K hK => by
    rw [if_pos hw]
    unfold Oper.wp execOp
    simp only [ho, hx, hy, Sem.run_bind, hr, Result.andThen_ok]
    exact hK _ _ h
def e34 : En := ⟨34, 34, []⟩
def e12 : En := ⟨1, 2, [1]⟩
def fB (k : Nat) : Bg := ⟨List.replicate k e34, k, 0⟩
theorem fB_len (k : Nat) : (fB k).l.length = k := by simp [fB]
theorem putF (k : Nat) (hk : k < 4096) : putE (fB k) e34 = 0 ∧ putB (fB k) e34 = fB (k + 1) := by
  have h0 : putE (fB k) e34 = 0 := by
    unfold putE
    rw [if_neg (by decide), if_neg (by decide), if_neg (by decide), if_neg (by rw [fB_len]; omega)]
  refine ⟨h0, ?_⟩
  unfold putB
  rw [if_pos h0]
  unfold sendB fB
  simp [List.replicate_succ']
theorem nextR (n s l : Nat) (k : Int) (h : inB k e34 = false) : nextB ⟨List.replicate n e34, s, l⟩ k = -1 := by
  unfold nextB
  rw [next_none (k := n) (fun j hj _ => by simp [h]) (by simp)]
theorem nextR0 (n s l : Nat) (k : Int) (h : inB k e34 = true) : nextB ⟨List.replicate (n + 1) e34, s, l⟩ k = 0 := by
  unfold nextB
  rw [next_some (k := 0) (fun j _ hj => by omega) (by simp) (by simp [h])]
  rfl
theorem nextA (n s l : Nat) (k : Int) (h : inB k e34 = false) (h2 : inB k e12 = true) : nextB ⟨List.replicate n e34 ++ [e12], s, l⟩ k = n := by
  unfold nextB
  have hlen : n < (List.replicate n e34 ++ [e12]).length := by simp
  rw [next_some (k := n) (fun j hj hjn => by rw [List.getElem_append_left (by simpa using hjn)]; simp [h]) hlen (by rw [List.getElem_append_right (by simp)]; simp [h2])]
theorem nextA0 (n s l : Nat) (k : Int) (h : inB k e34 = false) (h2 : inB k e12 = false) : nextB ⟨List.replicate n e34 ++ [e12], s, l⟩ k = -1 := by
  unfold nextB
  rw [next_none (k := n + 1) (fun j hj _ => by
    by_cases hjn : j < n
    · rw [List.getElem_append_left (by simpa using hjn)]; simp [h]
    · rw [List.getElem_append_right (by simp; omega)]; simp [h2]) (by simp)]
theorem atk1 : inB 17179869184 e34 = true := by decide +kernel
theorem atk2 : inB 8589934592 e34 = false := by decide +kernel
theorem atk3 : inB 0 e34 = false := by decide +kernel
theorem atk4 : inB 6 e34 = false ∧ inB 6 e12 = true := by decide +kernel
theorem atk5 : inB 4 e34 = false ∧ inB 4 e12 = false := by decide +kernel
theorem putF7 : putE (fB 4096) e12 = 7 ∧ putB (fB 4096) e12 = fB 4096 := by
  have h : putE (fB 4096) e12 = 7 := by
    unfold putE
    rw [if_neg (by decide), if_neg (by decide), if_neg (by decide), if_pos (by rw [fB_len]; exact Nat.le_refl _)]
  exact ⟨h, by unfold putB; rw [h]; rfl⟩
theorem putF2 : putE (fB 4096) ⟨0, 2, [1]⟩ = 2 ∧ putB (fB 4096) ⟨0, 2, [1]⟩ = fB 4096 := by
  have h : putE (fB 4096) ⟨0, 2, [1]⟩ = 2 := by
    unfold putE
    rw [if_pos (by decide)]
  exact ⟨h, by unfold putB; rw [h]; rfl⟩
theorem lackF (i : Nat) (h : i < 4096) : lackE (fB 4096) i = 0 := by
  unfold lackE
  rw [if_neg (by omega), if_neg (by rw [fB_len]; omega)]
theorem dblF7 : dblE (fB 4096) 0 = 7 ∧ dblB (fB 4096) 0 = fB 4096 := by
  have h : dblE (fB 4096) 0 = 7 := by
    unfold dblE
    rw [if_pos (show lackE (fB 4096) 0 = 0 from lackF 0 (by decide)), if_pos (by rw [fB_len]; exact Nat.le_refl _)]
  exact ⟨h, by unfold dblB; rw [h]; rfl⟩
theorem dblF9 : dblE (fB 4096) 4096 = 9 ∧ dblB (fB 4096) 4096 = fB 4096 := by
  have h0 : lackE (fB 4096) 4096 = 9 := by
    unfold lackE
    rw [if_neg (by decide), if_pos (by rw [fB_len]; decide)]
  have h : dblE (fB 4096) 4096 = 9 := by
    unfold dblE
    rw [h0]; rfl
  exact ⟨h, by unfold dblB; rw [h]; rfl⟩
theorem dropR (n : Nat) (e : En) : (List.replicate (n + 1) e).eraseIdx n = List.replicate n e := by
  rw [List.eraseIdx_eq_take_drop_succ, List.take_replicate, List.drop_replicate]
  simp
def gB : Bg := ⟨List.replicate 4095 e34, 4096, 1⟩
def hB : Bg := ⟨List.replicate 4095 e34 ++ [e12], 4097, 1⟩
theorem dropF : lackE (fB 4096) 4095 = 0 ∧ dropB (fB 4096) 4095 = gB := by
  have h := lackF 4095 (by decide)
  refine ⟨h, ?_⟩
  have e1 : (fB 4096).l = List.replicate (4095 + 1) e34 := rfl
  have e2 : ((4095 : Int)).toNat = 4095 := rfl
  unfold dropB
  rw [if_pos (show lackE (fB 4096) 4095 = 0 from h), e1, e2, dropR]
  rfl
theorem putG : putE gB e12 = 0 ∧ putB gB e12 = hB := by
  have h : putE gB e12 = 0 := by
    unfold putE
    rw [if_neg (by decide), if_neg (by decide), if_neg (by decide), if_neg (by show ¬ 4096 ≤ (List.replicate 4095 e34).length; rw [List.length_replicate]; decide)]
  exact ⟨h, by unfold putB; rw [h]; rfl⟩
/-- Bytes just made. -/
theorem made_by {w w' : World} {x : En} {n : Nat} (hb : x.bs = List.replicate n 0) (hf : Wf x.fr) (ht : Wf x.to) (hn : n ≤ 1000000) {Z : Array Value} (hZ : (cbs (List.replicate n 0)).toArray = Z) (hw : w.alloc (.cells Z 5) = w') : ByP w' (fun i => i = w.heap.size) ⟨x, some ⟨w.heap.size, 0, none⟩, n, n⟩ := by
  refine ⟨by rw [hb]; simp, Nat.le_refl _, by show n ≤ maxLen; unfold maxLen; omega, hf, ht, fun _ => ⟨w.heap.size, 0, rfl, rfl, by rw [← hw]; simp, fun j u hu => ?_⟩⟩
  have hB : Blk w' w.heap.size 5 (cbs (List.replicate n 0)) := by rw [← hw, ← hZ]; exact Blk.new rfl rfl
  rw [Nat.zero_add]
  dsimp only at hu
  rw [hb] at hu
  exact hB.cell hu
set_option maxRecDepth 100000 in
set_option maxHeartbeats 12800000 in
theorem walk  (w : World)  :
    Calls Try.prog 10 #[] w fun e w' => e = .returned (.bool true) ∧ Below w.heap.size w w' := by
  go_enter Try.func10, Try.ntmps10
  go_wp2_with fail
  refine (k_new (Below.refl w.heap.size w) (fun _ => False) (fun i hi => hi.elim)).mono ?_
  rintro e w1 ⟨g, rfl, hk, -⟩
  have K := Lib.hid hk
  clear hk
  go_wp2_with fail
  refine (k_note 0 2 1 (by decide) (by decide) 1 (by decide) _).mono ?_
  rintro e w2a ⟨a2, n2, c2, rfl, hby, hb⟩
  have Kn := Lib.hid (And.intro (K.out.below hb) hby)
  clear hby hb K
  go_wp2_with fail
  refine (k_put (b := newB) (b' := newB) (E := 2) Kn.out.1 ⟨(⟨0, 2, [1]⟩ : En), a2, n2, c2⟩ Kn.out.2 (by decide) (by have h := Kn.out.2.1; have e : (1 : Nat) = n2 := h; show n2 ≤ _; omega) (show putE newB (⟨0, 2, [1]⟩ : En) = 2 by decide) (show putB newB (⟨0, 2, [1]⟩ : En) = newB by decide)).mono ?_
  rintro e w2 ⟨rfl, hk, -⟩
  have K := Lib.hid hk
  clear hk Kn
  go_wp2_with fail
  refine (k_note 1 35 1 (by decide) (by decide) 1 (by decide) _).mono ?_
  rintro e w3a ⟨a3, n3, c3, rfl, hby, hb⟩
  have Kn := Lib.hid (And.intro (K.out.below hb) hby)
  clear hby hb K
  go_wp2_with fail
  refine (k_put (b := newB) (b' := newB) (E := 2) Kn.out.1 ⟨(⟨1, 35, [1]⟩ : En), a3, n3, c3⟩ Kn.out.2 (by decide) (by have h := Kn.out.2.1; have e : (1 : Nat) = n3 := h; show n3 ≤ _; omega) (show putE newB (⟨1, 35, [1]⟩ : En) = 2 by decide) (show putB newB (⟨1, 35, [1]⟩ : En) = newB by decide)).mono ?_
  rintro e w3 ⟨rfl, hk, -⟩
  have K := Lib.hid hk
  clear hk Kn
  go_wp2_with fail
  refine (k_note 1 0 1 (by decide) (by decide) 1 (by decide) _).mono ?_
  rintro e w4a ⟨a4, n4, c4, rfl, hby, hb⟩
  have Kn := Lib.hid (And.intro (K.out.below hb) hby)
  clear hby hb K
  go_wp2_with fail
  refine (k_put (b := newB) (b' := newB) (E := 2) Kn.out.1 ⟨(⟨1, 0, [1]⟩ : En), a4, n4, c4⟩ Kn.out.2 (by decide) (by have h := Kn.out.2.1; have e : (1 : Nat) = n4 := h; show n4 ≤ _; omega) (show putE newB (⟨1, 0, [1]⟩ : En) = 2 by decide) (show putB newB (⟨1, 0, [1]⟩ : En) = newB by decide)).mono ?_
  rintro e w4 ⟨rfl, hk, -⟩
  have K := Lib.hid hk
  clear hk Kn
  go_wp2_with fail
  refine (k_note 35 1 1 (by decide) (by decide) 1 (by decide) _).mono ?_
  rintro e w5a ⟨a5, n5, c5, rfl, hby, hb⟩
  have Kn := Lib.hid (And.intro (K.out.below hb) hby)
  clear hby hb K
  go_wp2_with fail
  refine (k_put (b := newB) (b' := newB) (E := 2) Kn.out.1 ⟨(⟨35, 1, [1]⟩ : En), a5, n5, c5⟩ Kn.out.2 (by decide) (by have h := Kn.out.2.1; have e : (1 : Nat) = n5 := h; show n5 ≤ _; omega) (show putE newB (⟨35, 1, [1]⟩ : En) = 2 by decide) (show putB newB (⟨35, 1, [1]⟩ : En) = newB by decide)).mono ?_
  rintro e w5 ⟨rfl, hk, -⟩
  have K := Lib.hid hk
  clear hk Kn
  obtain ⟨Z6, hZ, hmk⟩ := makeB 65537 (by decide)
  obtain ⟨w6a, hwa⟩ : ∃ w', w5.alloc (.cells Z6 5) = w' := ⟨_, rfl⟩
  have ba : Below w5.heap.size w5 w6a := by rw [← hwa]; exact (Below.refl _ _).alloc (Nat.le_refl _) _
  have hmk' := hmk w5
  rw [hwa] at hmk'
  have Ha := Lib.hid (And.intro (K.out.below ba) (And.intro (made_by (x := (⟨1, 2, List.replicate 65537 0⟩ : En)) rfl (by decide) (by decide) (by decide) hZ hwa) hmk'))
  clear hZ hmk hmk' ba hwa K
  go_wp2_with (refine mk_g (by rfl) 27 _ _ (by rfl) (.int .i64 65537) (.int .i64 65537) (by rfl) (by rfl) (.slice (some ⟨w5.heap.size, 0, none⟩) 65537 65537) w6a Ha.out.2.2 ?_; simp only [Act.put, List.setIfInBounds_toArray, List.set_cons_zero, List.set_cons_succ])
  refine (k_put (b := newB) (b' := newB) (E := 5) Ha.out.1 ⟨(⟨1, 2, List.replicate 65537 0⟩ : En), some ⟨w5.heap.size, 0, none⟩, 65537, 65537⟩ Ha.out.2.1 (by decide) (by show (65537 : Nat) ≤ _; decide) (show putE newB (⟨1, 2, List.replicate 65537 0⟩ : En) = 5 from by unfold putE; rw [if_neg (by decide), if_neg (by decide), if_pos (by show 65536 < (List.replicate 65537 (0 : UInt8)).length; rw [List.length_replicate]; decide)]) (show putB newB (⟨1, 2, List.replicate 65537 0⟩ : En) = newB from by unfold putB; rw [show putE newB (⟨1, 2, List.replicate 65537 0⟩ : En) = 5 from by unfold putE; rw [if_neg (by decide), if_neg (by decide), if_pos (by show 65536 < (List.replicate 65537 (0 : UInt8)).length; rw [List.length_replicate]; decide)]]; rfl)).mono ?_
  rintro e w6 ⟨rfl, hk, -⟩
  have K := Lib.hid hk
  clear hk Ha
  obtain ⟨Z7, hZ, hmk⟩ := makeB 65537 (by decide)
  obtain ⟨w7a, hwa⟩ : ∃ w', w6.alloc (.cells Z7 5) = w' := ⟨_, rfl⟩
  have ba : Below w6.heap.size w6 w7a := by rw [← hwa]; exact (Below.refl _ _).alloc (Nat.le_refl _) _
  have hmk' := hmk w6
  rw [hwa] at hmk'
  have Ha := Lib.hid (And.intro (K.out.below ba) (And.intro (made_by (x := (⟨0, 2, List.replicate 65537 0⟩ : En)) rfl (by decide) (by decide) (by decide) hZ hwa) hmk'))
  clear hZ hmk hmk' ba hwa K
  go_wp2_with (refine mk_g (by rfl) 27 _ _ (by rfl) (.int .i64 65537) (.int .i64 65537) (by rfl) (by rfl) (.slice (some ⟨w6.heap.size, 0, none⟩) 65537 65537) w7a Ha.out.2.2 ?_; simp only [Act.put, List.setIfInBounds_toArray, List.set_cons_zero, List.set_cons_succ])
  refine (k_put (b := newB) (b' := newB) (E := 2) Ha.out.1 ⟨(⟨0, 2, List.replicate 65537 0⟩ : En), some ⟨w6.heap.size, 0, none⟩, 65537, 65537⟩ Ha.out.2.1 (by decide) (by show (65537 : Nat) ≤ _; decide) (show putE newB (⟨0, 2, List.replicate 65537 0⟩ : En) = 2 from by unfold putE; rw [if_pos (by decide)]) (show putB newB (⟨0, 2, List.replicate 65537 0⟩ : En) = newB from by unfold putB; rw [show putE newB (⟨0, 2, List.replicate 65537 0⟩ : En) = 2 from by unfold putE; rw [if_pos (by decide)]]; rfl)).mono ?_
  rintro e w7 ⟨rfl, hk, -⟩
  have K := Lib.hid hk
  clear hk Ha
  go_wp2_with fail
  refine (k_len K.out 0 rfl).mono ?_; rintro e w7 ⟨rfl, rfl⟩
  go_wp2_with fail
  refine (k_sent K.out 0 rfl).mono ?_; rintro e w7 ⟨rfl, rfl⟩
  go_wp2_with fail
  refine (k_next K.out (-1) (E := (-1)) (by decide +kernel)).mono ?_; rintro e w8 ⟨rfl, hb⟩
  have Kn := Lib.hid (K.out.below hb)
  clear hb K
  have K := Lib.hid Kn.out
  clear Kn
  have hf0 : newB = fB 0 := rfl
  rw [hf0] at K
  clear hf0
  go_wp2
  go_loopw [3] (fun i wr => ∃ k : Nat, k ≤ 4096 ∧ i = .int .i64 k ∧ BK w wr (fun _ => False) g (fB k)) (fun i _ => 4096 - (intOf i).toNat)
  case atStart => exact ⟨0, by omega, rfl, K.out⟩
  case round =>
    obtain ⟨k, hk, rfl, hB⟩ := hrel
    have k0 : (0 : Int) ≤ k := by omega
    clear K
    by_cases hlt : k < 4096
    · have k1 : (k : Int) < 4096 := by omega
      have K := Lib.hid (And.intro hB (putF k hlt))
      clear hB
      go_wp2_with fail
      refine (k_put (E := 0) (b' := fB (k + 1)) K.out.1 ⟨e34, none, 0, 0⟩ (show ByP wr (fun _ => False) ⟨e34, none, 0, 0⟩ from ⟨rfl, Nat.le_refl _, by simp [maxLen], by decide, by decide, fun h => absurd h (Nat.lt_irrefl 0)⟩) (by show k < _; omega) (by decide) K.out.2.1 K.out.2.2).mono ?_
      rintro e wr2 ⟨rfl, hk, -⟩
      have K2 := Lib.hid hk
      clear hk
      go_wp2
      go_roundw
      case rel => exact ⟨k + 1, by omega, by go_num, K2.out⟩
      case measure => simp [intOf]; omega
    · have hke : k = 4096 := by omega
      subst hke
      have k1 : ¬ ((4096 : Nat) : Int) < 4096 := by omega
      have hq : ((4096 : Nat) : Int) = 4096 := rfl
      have K := Lib.hid hB
      clear hB
      go_wp2_with fail
      refine (k_note 1 2 1 (by decide) (by decide) 1 (by decide) _).mono ?_
      rintro e w41a ⟨a41, n41, c41, rfl, hby, hb⟩
      have Kn := Lib.hid (And.intro (K.out.below hb) hby)
      clear hby hb K
      go_wp2_with fail
      refine (k_put (b := fB 4096) (b' := fB 4096) (E := 7) Kn.out.1 ⟨e12, a41, n41, c41⟩ Kn.out.2 (by show 4096 < 1000000; decide) (by have h := Kn.out.2.1; have e : (1 : Nat) = n41 := h; show n41 ≤ _; omega) (putF7.1) (putF7.2)).mono ?_
      rintro e w41 ⟨rfl, hk, -⟩
      have K := Lib.hid hk
      clear hk Kn
      go_wp2_with fail
      refine (k_note 0 2 1 (by decide) (by decide) 1 (by decide) _).mono ?_
      rintro e w42a ⟨a42, n42, c42, rfl, hby, hb⟩
      have Kn := Lib.hid (And.intro (K.out.below hb) hby)
      clear hby hb K
      go_wp2_with fail
      refine (k_put (b := fB 4096) (b' := fB 4096) (E := 2) Kn.out.1 ⟨(⟨0, 2, [1]⟩ : En), a42, n42, c42⟩ Kn.out.2 (by show 4096 < 1000000; decide) (by have h := Kn.out.2.1; have e : (1 : Nat) = n42 := h; show n42 ≤ _; omega) (putF2.1) (putF2.2)).mono ?_
      rintro e w42 ⟨rfl, hk, -⟩
      have K := Lib.hid hk
      clear hk Kn
      go_wp2_with fail
      refine (k_dbl (E := 7) (b' := fB 4096) K.out 0 (by show 4096 < 1000000; decide) dblF7.1 dblF7.2).mono ?_
      rintro e w43 ⟨rfl, hk, -⟩
      clear K
      have K := Lib.hid hk
      clear hk
      go_wp2_with fail
      refine (k_dbl (E := 9) (b' := fB 4096) K.out 4096 (by show 4096 < 1000000; decide) dblF9.1 dblF9.2).mono ?_
      rintro e w44 ⟨rfl, hk, -⟩
      clear K
      have K := Lib.hid hk
      clear hk
      go_wp2_with fail
      refine (k_len K.out 4096 (fB_len 4096)).mono ?_; rintro e w44 ⟨rfl, rfl⟩
      go_wp2_with fail
      refine (k_sent K.out 4096 rfl).mono ?_; rintro e w44 ⟨rfl, rfl⟩
      go_wp2_with fail
      refine (k_next K.out 17179869184 (E := 0) (nextR0 4095 4096 0 _ atk1)).mono ?_; rintro e w45 ⟨rfl, hb⟩
      have Kn := Lib.hid (K.out.below hb)
      clear hb K
      have K := Lib.hid Kn.out
      clear Kn
      go_wp2_with fail
      refine (k_next K.out 8589934592 (E := (-1)) (nextR 4096 4096 0 _ atk2)).mono ?_; rintro e w46 ⟨rfl, hb⟩
      have Kn := Lib.hid (K.out.below hb)
      clear hb K
      have K := Lib.hid Kn.out
      clear Kn
      go_wp2_with fail
      refine (k_next K.out 0 (E := (-1)) (nextR 4096 4096 0 _ atk3)).mono ?_; rintro e w47 ⟨rfl, hb⟩
      have Kn := Lib.hid (K.out.below hb)
      clear hb K
      have K := Lib.hid Kn.out
      clear Kn
      go_wp2_with fail
      refine (k_drop (E := 0) (b' := gB) K.out 4095 (by show 0 < 1000000; decide) dropF.1 dropF.2).mono ?_
      rintro e w48 ⟨rfl, hk, -⟩
      clear K
      have K := Lib.hid hk
      clear hk
      go_wp2_with fail
      refine (k_note 1 2 1 (by decide) (by decide) 1 (by decide) _).mono ?_
      rintro e w49a ⟨a49, n49, c49, rfl, hby, hb⟩
      have Kn := Lib.hid (And.intro (K.out.below hb) hby)
      clear hby hb K
      go_wp2_with fail
      refine (k_put (b := gB) (b' := hB) (E := 0) Kn.out.1 ⟨e12, a49, n49, c49⟩ Kn.out.2 (by show 4096 < 1000000; decide) (by have h := Kn.out.2.1; have e : (1 : Nat) = n49 := h; show n49 ≤ _; omega) (putG.1) (putG.2)).mono ?_
      rintro e w49 ⟨rfl, hk, -⟩
      have K := Lib.hid hk
      clear hk Kn
      go_wp2_with fail
      refine (k_next K.out 6 (E := 4095) (nextA 4095 4097 1 _ atk4.1 atk4.2)).mono ?_; rintro e w50 ⟨rfl, hb⟩
      have Kn := Lib.hid (K.out.below hb)
      clear hb K
      have K := Lib.hid Kn.out
      clear Kn
      go_wp2_with fail
      refine (k_next K.out 4 (E := (-1)) (nextA0 4095 4097 1 _ atk5.1 atk5.2)).mono ?_; rintro e w51 ⟨rfl, hb⟩
      have Kn := Lib.hid (K.out.below hb)
      clear hb K
      have K := Lib.hid Kn.out
      clear Kn
      go_wp2_with fail
      refine (k_new (w0 := w) K.out.bel (fun _ => False) (fun i hi => hi.elim)).mono ?_
      rintro e w52 ⟨g2, rfl, hk, -⟩
      clear K
      have K := Lib.hid hk
      clear hk
      obtain ⟨Z53, hZ, hmk⟩ := makeB 65536 (by decide)
      obtain ⟨w53a, hwa⟩ : ∃ w', w52.alloc (.cells Z53 5) = w' := ⟨_, rfl⟩
      have ba : Below w52.heap.size w52 w53a := by rw [← hwa]; exact (Below.refl _ _).alloc (Nat.le_refl _) _
      have hmk' := hmk w52
      rw [hwa] at hmk'
      have Ha := Lib.hid (And.intro (K.out.below ba) (And.intro (made_by (x := (⟨1, 2, List.replicate 65536 0⟩ : En)) rfl (by decide) (by decide) (by decide) hZ hwa) hmk'))
      clear hZ hmk hmk' ba hwa K
      go_wp2_with (refine mk_g (by rfl) 27 _ _ (by rfl) (.int .i64 65536) (.int .i64 65536) (by rfl) (by rfl) (.slice (some ⟨w52.heap.size, 0, none⟩) 65536 65536) w53a Ha.out.2.2 ?_; simp only [Act.put, List.setIfInBounds_toArray, List.set_cons_zero, List.set_cons_succ])
      refine (k_put (b := newB) (b' := (sendB newB ⟨1, 2, List.replicate 65536 0⟩)) (E := 0) Ha.out.1 ⟨(⟨1, 2, List.replicate 65536 0⟩ : En), some ⟨w52.heap.size, 0, none⟩, 65536, 65536⟩ Ha.out.2.1 (by decide) (by show (65536 : Nat) ≤ _; decide) (show putE newB (⟨1, 2, List.replicate 65536 0⟩ : En) = 0 from by unfold putE; rw [if_neg (by decide), if_neg (by decide), if_neg (by show ¬ 65536 < (List.replicate 65536 (0 : UInt8)).length; rw [List.length_replicate]; decide), if_neg (by decide)]) (show putB newB (⟨1, 2, List.replicate 65536 0⟩ : En) = (sendB newB ⟨1, 2, List.replicate 65536 0⟩) from by unfold putB; rw [show putE newB (⟨1, 2, List.replicate 65536 0⟩ : En) = 0 from by unfold putE; rw [if_neg (by decide), if_neg (by decide), if_neg (by show ¬ 65536 < (List.replicate 65536 (0 : UInt8)).length; rw [List.length_replicate]; decide), if_neg (by decide)]]; rfl)).mono ?_
      rintro e w53 ⟨rfl, hk, -⟩
      have K := Lib.hid hk
      clear hk Ha
      go_wp2_with fail
      refine (k_len K.out 1 rfl).mono ?_; rintro e w53 ⟨rfl, rfl⟩
      have Hb := Lib.hid K.out.bel
      clear K
      go_wp2
      go_loopw [8, 7] (fun i p ws => ∃ (j : Nat) (pv : Option Addr), j ≤ 2 ∧ i = .int .i64 j ∧ p = .pointer pv ∧ NoB ws pv ∧ Below w.heap.size w ws) (fun i _ _ => 2 - (intOf i).toNat)
      case atStart => exact ⟨0, none, by omega, rfl, rfl, .inl rfl, Hb.out⟩
      case round =>
        obtain ⟨j, pv, hj, rfl, rfl, hN, hB⟩ := hrel
        have j0 : (0 : Int) ≤ j := by omega
        have HN := Lib.hid (And.intro hN hB)
        clear hN hB
        by_cases hlj : j < 2
        · have j1 : (j : Int) < 2 := by omega
          go_wp2_with fail
          refine (nlook HN.out.1 0).mono ?_
          rintro e v1a ⟨rfl, hb⟩
          obtain ⟨v1b, hwb⟩ : ∃ v, v1a.alloc (.cells #[.int .i64 0, .int .i64 0, .slice none 0 0] 29) = v := ⟨_, rfl⟩
          have bb : Below v1a.heap.size v1a v1b := by rw [← hwb]; exact (Below.refl _ _).alloc (Nat.le_refl _) _
          have HM := Lib.hid (And.intro ((HN.out.1.below hb).below bb) (HN.out.2.trans ((hb.trans (bb.mono hb.size)).mono HN.out.2.size)))
          have Hw1 := Lib.hid hwb
          clear hb bb HN hwb
          have HN := Lib.hid HM.out
          clear HM
          go_wp2_with fail
          rw [Hw1.out]
          refine (ntake HN.out.1 0).mono ?_
          rintro e v2a ⟨rfl, hb⟩
          obtain ⟨v2b, hwb⟩ : ∃ v, v2a.alloc (.cells #[.int .i64 0, .int .i64 0, .slice none 0 0] 29) = v := ⟨_, rfl⟩
          have bb : Below v2a.heap.size v2a v2b := by rw [← hwb]; exact (Below.refl _ _).alloc (Nat.le_refl _) _
          have HM := Lib.hid (And.intro ((HN.out.1.below hb).below bb) (HN.out.2.trans ((hb.trans (bb.mono hb.size)).mono HN.out.2.size)))
          have Hw2 := Lib.hid hwb
          clear hb bb HN hwb
          have HN := Lib.hid HM.out
          clear HM
          go_wp2_with fail
          refine (k_note 1 2 1 (by decide) (by decide) 1 (by decide) _).mono ?_
          rintro e v3 ⟨na, nn, nc, rfl, -, hb⟩
          rw [Hw2.out] at hb
          have HM := Lib.hid (And.intro (HN.out.1.below hb) (HN.out.2.trans (hb.mono HN.out.2.size)))
          clear hb HN
          have HN := Lib.hid HM.out
          clear HM
          go_wp2_with fail
          refine (nput HN.out.1 1 2 na nn nc).mono ?_
          rintro e v4 ⟨rfl, hb⟩
          have HM := Lib.hid (And.intro (HN.out.1.below hb) (HN.out.2.trans (hb.mono HN.out.2.size)))
          clear hb HN
          have HN := Lib.hid HM.out
          clear HM
          go_wp2_with fail
          refine (ndrop HN.out.1 0).mono ?_
          rintro e v4 ⟨rfl, rfl⟩
          go_wp2_with fail
          refine (ndbl HN.out.1 0).mono ?_
          rintro e v4 ⟨rfl, rfl⟩
          go_wp2_with fail
          refine (nnext HN.out.1 (-1)).mono ?_
          rintro e v5 ⟨rfl, hb⟩
          have HM := Lib.hid (And.intro (HN.out.1.below hb) (HN.out.2.trans (hb.mono HN.out.2.size)))
          clear hb HN
          have HN := Lib.hid HM.out
          clear HM
          go_wp2_with fail
          refine (nlen HN.out.1).mono ?_
          rintro e v5 ⟨rfl, rfl⟩
          go_wp2_with fail
          refine (nsent HN.out.1).mono ?_
          rintro e v5 ⟨rfl, rfl⟩
          go_wp2_with fail
          refine (nlost HN.out.1).mono ?_
          rintro e v5 ⟨rfl, rfl⟩
          obtain ⟨v6, hw6⟩ : ∃ v, v5.alloc (.cells #[.bool false, .slice none 0 0, .int .i64 0, .int .i64 0] 61) = v := ⟨_, rfl⟩
          have b6 : Below v5.heap.size v5 v6 := by rw [← hw6]; exact (Below.refl _ _).alloc (Nat.le_refl _) _
          have B6 : Blk v6 v5.heap.size 61 [.bool false, .slice none 0 0, .int .i64 0, .int .i64 0] := by rw [← hw6]; exact Blk.new rfl rfl
          have H6 := Lib.hid (And.intro (show NoB v6 (some ⟨v5.heap.size, 0, none⟩) from .inr ⟨_, rfl, B6⟩) (HN.out.2.trans (b6.mono HN.out.2.size)))
          clear b6 B6
          go_wp2
          go_roundw
          case rel => exact ⟨j + 1, _, by omega, by go_num, rfl, H6.out.1, H6.out.2⟩
          case measure => simp [intOf]; omega
        · have hje : j = 2 := by omega
          subst hje
          have j1 : ¬ ((2 : Nat) : Int) < 2 := by omega
          go_wp2_with fail
          refine (works_any _).mono ?_
          rintro e v7 ⟨rfl, hb⟩
          have H7 := Lib.hid (HN.out.2.trans (hb.mono HN.out.2.size))
          clear hb
          go_wp2
          go_ret
          exact ⟨rfl, H7.out⟩

end Go.Proofs.Ytlecihbclkohjaa.bagKnown
