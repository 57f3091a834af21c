/-
  The statements' helpers some and of, over the code.
-/
import Derived.Test.YtjibbbfpbflgmaaWorks8
namespace Go.Proofs.Ytjibbbfpbflgmaa
open Go.RowKit Go.Shelf CrewP
set_option linter.unusedVariables false

theorem Blk.grown {w w' : World} {g : Nat} {t : TypeId} {cs : List Value} {row : Option Nat} (h : Blk w g t cs) (hg : w.grownBy w' row) (hne : row ≠ some g) : Blk w' g t cs :=
  (hg.block g h.lt fun e => hne e.symm).trans h

/-- What some answers: a crew that may be. -/
def SomeR (w : World) (e : Ending) (w' : World) : Prop := ∃ f ns v, okC f ns = true ∧ e = .returned (.agg #[.int .i64 f, v]) ∧ OwnI w' w.heap.size v ns ∧ Below w.heap.size w w'
set_option maxRecDepth 100000 in
set_option maxHeartbeats 3200000 in
theorem some_of (L : List Int) (hL : L.length = 8) (hw : ∀ x ∈ L, Wf x) (w : World) : Calls Try.prog 41 #[.agg (cis L).toArray] w (SomeR w) := by
  obtain ⟨D, hD⟩ : ∃ D, (cis L).toArray = D := ⟨_, rfl⟩
  have hcell : ∀ i (hi : i < L.length), (cis L)[i]? = some (.int .i64 L[i]) := fun i hi => by rw [cis_get, List.getElem?_eq_getElem hi]; rfl
  have hB0 : Blk (w.alloc (.cells D 45)) w.heap.size 45 (cis L) := Blk.new hD rfl
  have hb0 : Below w.heap.size w (w.alloc (.cells D 45)) := (Below.refl _ _).alloc (Nat.le_refl _) _
  obtain ⟨W0, hW0⟩ : ∃ W, (w.alloc (.cells D 45)).alloc (.cells #[.int .i64 0, .slice none 0 0] 24) = W := ⟨_, rfl⟩
  have hs0 : W0.heap.size = w.heap.size + 2 := by rw [← hW0]; simp
  have hB01 : Blk W0 w.heap.size 45 (cis L) := by rw [← hW0]; exact hB0.old _
  have hR01 : Blk W0 (w.heap.size + 1) 24 [.int .i64 0, .slice none 0 0] := by rw [← hW0]; exact Blk.new rfl (by simp)
  have hb01 : Below w.heap.size w W0 := by rw [← hW0]; exact hb0.alloc (by simp) _
  rw [hD]
  have k0 : W0.cell? ⟨w.heap.size, 0, none⟩ = some (.int .i64 L[0]) := hB01.cell (hcell 0 (by omega))
  have k00 : D[0]? = some (.int .i64 L[0]) := by rw [← hD]; simpa using hcell 0 (by omega)
  have hbr := bringN_any L[0] 3 W0 (by decide) (by decide) (hw _ (List.getElem_mem _))
  have H := Lib.hid (And.intro hB01 (And.intro hR01 (And.intro hb01 (And.intro hbr (And.intro hcell hw)))))
  have HW := Lib.hid hW0
  clear hB0 hb0 hB01 hR01 hb01 hbr hcell hw hD hW0
  generalize L[0] = x0 at *
  go_enter Try.func41, Try.ntmps41
  go_wp2_with fail
  rw [HW.out]
  refine H.out.2.2.2.1.mono ?_
  rintro e w1 ⟨fr, hf0, hf1, rfl, rfl⟩
  clear k0 k00
  have hm3 : IntKind.i64.wrap (3 * fr) = 3 * fr := IntWalk.i64_in _ (by omega)
  obtain ⟨m, hm⟩ : ∃ m : Nat, 3 * fr + 1 = (m : Int) := ⟨(3 * fr + 1).toNat, by omega⟩
  have hm4 : IntKind.i64.wrap (3 * fr + 1) = (m : Int) := by rw [IntWalk.i64_in _ (by omega)]; exact hm
  have hm7 : m ≤ 7 := by omega
  have hbn : Below w1.heap.size w1 (w1.alloc (.cells #[.int .i64 fr, .slice none 0 0] 24)) := (Below.refl _ _).alloc (Nat.le_refl _) _
  have hC : Blk (w1.alloc (.cells #[.int .i64 fr, .slice none 0 0] 24)) (w.heap.size + 2) 24 [.int .i64 fr, .slice none 0 0] := Blk.new rfl hs0
  have hB := H.out.1.below hbn H.out.1.lt
  have hR := H.out.2.1.below hbn H.out.2.1.lt
  have hb := H.out.2.2.1.trans (hbn.mono H.out.2.2.1.size)
  have H1 := Lib.hid (And.intro hC (And.intro hB (And.intro hR hb)))
  have Hm := Lib.hid hm
  clear hbn hC hB hR hb hm
  go_wp2
  go_loopw [5, 6] (fun v5 v6 wr => ∃ (j : Nat) (a : Int) (ns : List Int) (v : Value), j ≤ m ∧ v6 = .int .i64 j ∧ v5 = .int .i64 a ∧ ns.length = j ∧ (∀ x ∈ ns, 1 ≤ x ∧ x ≤ a) ∧ List.Pairwise (· < ·) ns ∧ 0 ≤ a ∧ a ≤ 4 * j ∧
    Blk wr (w.heap.size + 2) 24 [.int .i64 fr, v] ∧ OwnI wr (w.heap.size + 3) v ns ∧ Blk wr w.heap.size 45 (cis L) ∧ Blk wr (w.heap.size + 1) 24 [.int .i64 0, .slice none 0 0] ∧ Below w.heap.size w wr) (fun _ v _ => m - (intOf v).toNat)
  case atStart => exact ⟨0, 0, [], _, Nat.zero_le _, rfl, rfl, rfl, by simp, List.Pairwise.nil, Int.le_refl _, by omega, H1.out.1, OwnI.nil _ _, H1.out.2.1, H1.out.2.2.1, H1.out.2.2.2⟩
  case round =>
    obtain ⟨j, a, ns, v, hj, rfl, rfl, hlen, hin, hasc, ha0, ha4, hC, hO, hB, hR, hb⟩ := hrel
    have hi0 : (0 : Int) ≤ j := by omega
    have hsz : w.heap.size + 3 ≤ wr.heap.size := hC.lt
    by_cases hlt : j < m
    · have hi1 : (j : Int) < m := by omega
      have hjL : 1 + j < L.length := by omega
      have hk0 : wr.cell? ⟨w.heap.size, 1 + j, none⟩ = some (.int .i64 L[1 + j]) := hB.cell (H.out.2.2.2.2.1 (1 + j) hjL)
      have hbr := bringN_any L[1 + j] 4 wr (by decide) (by decide) (H.out.2.2.2.2.2 _ (List.getElem_mem hjL))
      generalize L[1 + j] = x at hk0 hbr
      have hw1 : IntKind.i64.wrap (a + 1) = a + 1 := IntWalk.i64_in _ (by omega)
      have hw2 : IntKind.i64.wrap (1 + (j : Int)) = 1 + (j : Int) := IntWalk.i64_in _ (by omega)
      have hw3 : IntKind.i64.wrap ((j : Int) + 1) = (j : Int) + 1 := IntWalk.i64_in _ (by omega)
      have hx0 : (0 : Int) ≤ 1 + (j : Int) := by omega
      have hx1 : 1 + (j : Int) < 8 := by omega
      have hnat : (1 + (j : Int)).toNat = 1 + j := by omega
      obtain ⟨A, c, rfl, hnc, hcm, hIs⟩ := hO.form
      have hc1 : wr.cell? ⟨w.heap.size + 2, 1, none⟩ = some (.slice A ns.length c) := hC.cell rfl
      have Hr := Lib.hid (And.intro hC (And.intro hO (And.intro hB (And.intro hR (And.intro hb (And.intro hbr hlen))))))
      clear hC hO hB hR hb hbr hIs hlen
      go_wp2_with fail
      refine Hr.out.2.2.2.2.2.1.mono ?_
      rintro e w2 ⟨r, hr0, hr1, rfl, rfl⟩
      obtain ⟨y, hy⟩ : ∃ y, a + 1 + r = y := ⟨_, rfl⟩
      have hw4 : IntKind.i64.wrap (a + 1 + r) = y := by rw [IntWalk.i64_in _ (by omega)]; exact hy
      have hbn : Below w2.heap.size w2 (w2.alloc (.cells #[.int .i64 y] 3)) := (Below.refl _ _).alloc (Nat.le_refl _) _
      have hO2 := own_below Hr.out.2.1 hbn
      have hsz2 := hbn.size
      have hrow := fun i hi => (hO2.lt i hi).1
      have hIs := is_new w2 [y]
      have H2 := Lib.hid (And.intro (Hr.out.1.below hbn Hr.out.1.lt) (And.intro hO2 (And.intro (Hr.out.2.2.1.below hbn Hr.out.2.2.1.lt) (And.intro (Hr.out.2.2.2.1.below hbn Hr.out.2.2.2.1.lt) (And.intro (Hr.out.2.2.2.2.1.trans (hbn.mono Hr.out.2.2.2.2.1.size)) (And.intro hrow hIs))))))
      have hln := Hr.out.2.2.2.2.2.2
      have hlnj : ns.length ≤ 7 := by omega
      have Hl := Lib.hid hln
      clear hbn hO2 hrow hIs hln
      have ehl : (ns ++ [y]).length = ns.length + 1 := by simp
      go_wp2_with (at_builtin; refine wp_appendI rfl _ _ rfl (w.heap.size + 3) _ ns rfl H2.out.2.1 (some ⟨w2.heap.size, 0, none⟩) 1 1 [y] rfl H2.out.2.2.2.2.2.2 rfl (by omega) (by omega) ?_; intro v2 w3 hO3 hg3 ho3; obtain ⟨A5, c5, rfl, _⟩ := hO3.form; rw [ehl] at hO3; have hC3 := H2.out.1.grown hg3 (fun e => by have := H2.out.2.2.2.2.2.1 _ e; omega); have hc3 : w3.cell? ⟨w.heap.size + 2, 1, none⟩ = some (.slice A ns.length c) := hC3.cell rfl; have hq3 := hC3.free; replace hC3 := Lib.hid hC3; replace hg3 := Lib.hid hg3; replace hO3 := Lib.hid hO3)
      have hC4 := hC3.out.set_ 1 (.slice A5 (ns.length + 1) c5)
      have hO4 := own_set hO3.out (g := w.heap.size + 2) (by omega) 1 (.slice A5 (ns.length + 1) c5)
      have hB4 := (H2.out.2.2.1.grown hg3.out (fun e => by have := H2.out.2.2.2.2.2.1 _ e; omega)).far (p := ⟨w.heap.size + 2, 1, none⟩) (by show w.heap.size ≠ w.heap.size + 2; omega) (.slice A5 (ns.length + 1) c5)
      have hR4 := (H2.out.2.2.2.1.grown hg3.out (fun e => by have := H2.out.2.2.2.2.2.1 _ e; omega)).far (p := ⟨w.heap.size + 2, 1, none⟩) (by show w.heap.size + 1 ≠ w.heap.size + 2; omega) (.slice A5 (ns.length + 1) c5)
      have hb4 := (below_append H2.out.2.2.2.2.1 H2.out.2.1 hg3.out (by omega) (by omega)).setCell (p := ⟨w.heap.size + 2, 1, none⟩) (by show w.heap.size ≤ w.heap.size + 2; omega) (.slice A5 (ns.length + 1) c5)
      refine ⟨⟨j + 1, y, ns ++ [y], .slice A5 (ns.length + 1) c5, by omega, by go_num, rfl, by rw [List.length_append, Hl.out]; rfl, ?_, ?_, by omega, by omega, hC4, hO4, hB4, hR4, hb4⟩, by simp [intOf]; omega⟩
      · intro z hz
        rcases List.mem_append.1 hz with hz | hz
        · have := hin z hz; omega
        · simp at hz; omega
      · rw [List.pairwise_append]
        refine ⟨hasc, by simp, fun z hz u hu => ?_⟩
        have := hin z hz
        simp at hu
        omega
    · have hi1 : ¬ (j : Int) < m := by omega
      have hjm : j = m := by omega
      have hok : okC fr ns = true := (okC_iff fr ns).2 ⟨⟨hf0, by omega, by rw [hlen, Hm.out, hjm]⟩, fun x hx => by have := hin x hx; omega, hasc⟩
      have c0 : wr.cell? ⟨w.heap.size + 2, 0, none⟩ = some (.int .i64 fr) := hC.cell rfl
      have c1 : wr.cell? ⟨w.heap.size + 2, 1, none⟩ = some v := hC.cell rfl
      have r0 : wr.cell? ⟨w.heap.size + 1, 0, none⟩ = some (.int .i64 0) := hR.cell rfl
      have r1 : wr.cell? ⟨w.heap.size + 1, 1, none⟩ = some (.slice none 0 0) := hR.cell rfl
      have q0 := hR.free
      obtain ⟨A, c, rfl, _⟩ := hO.form
      obtain ⟨hb1, hb2⟩ := out2 hR hb fr (.slice A ns.length c)
      have hO5 := own_set (own_set hO (g := w.heap.size + 1) (by omega) 0 (.int .i64 fr)) (g := w.heap.size + 1) (by omega) 1 (.slice A ns.length c)
      have H5 := Lib.hid (And.intro hb1 (And.intro hb2 (And.intro hO5 hok)))
      clear hC hO hB hR hb hb1 hb2 hO5 hok hin hasc hlen
      go_wp2
      refine bodyPost_ret (results_row rfl _ _ (w.heap.size + 1) 24 _ _ rfl H5.out.1 Try.underlying24 rfl crew_size) rfl ?_
      exact ⟨fr, ns, _, H5.out.2.2.2, rfl, own_base H5.out.2.2.1 (by omega), H5.out.2.1⟩

/-- Is bit i of a number set? -/
def bitB (b : Int) (i : Nat) : Bool := bits .and .i64 (b / 2 ^ i) 1 == 1
def tb (x : Int) (i : Nat) : Bool := ((x % 18446744073709551616).toNat).testBit i
theorem ofInt_nat (x : Int) : (BitVec.ofInt 64 x).toNat = (x % 18446744073709551616).toNat := by
  rw [BitVec.toNat_ofInt]
  rfl
theorem bits_one (x : Int) : bits .and .i64 x 1 = x % 2 := by
  show IntKind.i64.wrap ((BitVec.ofInt 64 x &&& BitVec.ofInt 64 1).toNat : Int) = _
  rw [BitVec.toNat_and, ofInt_nat, ofInt_nat]
  have e1 : ((1 : Int) % 18446744073709551616).toNat = 1 := by decide
  rw [e1, Nat.and_one_is_mod, IntWalk.i64_in _ (by omega)]
  omega
theorem bit_tb (x : Int) {i : Nat} (hi : i < 7) : bitB x i = tb x i := by
  unfold bitB tb
  rw [bits_one, Nat.testBit_eq_decide_div_mod_eq, Bool.eq_iff_iff]
  simp only [beq_iff_eq, decide_eq_true_eq]
  have : i = 0 ∨ i = 1 ∨ i = 2 ∨ i = 3 ∨ i = 4 ∨ i = 5 ∨ i = 6 := by omega
  rcases this with rfl | rfl | rfl | rfl | rfl | rfl | rfl <;> simp only [Nat.reducePow, Int.reducePow] <;> omega
theorem tb_and (a b : Int) (i : Nat) : tb (bits .and .i64 a b) i = (tb a i && tb b i) := by
  unfold tb
  rw [← ofInt_nat a, ← ofInt_nat b, ← Nat.testBit_and, ← BitVec.toNat_and]
  congr 1
  show ((IntKind.i64.wrap ((BitVec.ofInt 64 a &&& BitVec.ofInt 64 b).toNat : Int)) % 18446744073709551616).toNat = _
  have hlt := (BitVec.ofInt 64 a &&& BitVec.ofInt 64 b).isLt
  generalize (BitVec.ofInt 64 a &&& BitVec.ofInt 64 b).toNat = n at *
  rw [IntKind.wrap_i64]
  omega
theorem bit_and (a b : Int) {i : Nat} (hi : i < 7) : bitB (bits .and .i64 a b) i = (bitB a i && bitB b i) := by
  rw [bit_tb _ hi, bit_tb _ hi, bit_tb _ hi, tb_and]

set_option maxRecDepth 100000 in
set_option maxHeartbeats 3200000 in
theorem of_any (f : Int) (A : Option Addr) (n c : Nat) (l : List Int) (w : World) (h : ArgI w A n c l) (hn : n ≤ 7) (b : Int) (hb : Wf b) : Calls Try.prog 42 #[.agg #[.int .i64 f, .slice A n c], .int .i64 b] w fun e w' => ∃ v, e = .returned v ∧ NewI w (pick (bitB b) l n) v w' := by
  have hln := h.1
  have hx := Bx.new (f := f) h
  have H := Lib.hid (And.intro hx h)
  clear hx h
  go_enter Try.func42, Try.ntmps42
  go_wp2
  go_loopw [5, 6] (fun v5 v6 wr => ∃ (j : Nat), j ≤ n ∧ v6 = .int .i64 j ∧ OwnI wr (w.heap.size + 1) v5 (pick (bitB b) l j) ∧ Bx w wr f A n c l) (fun _ v _ => n - (intOf v).toNat)
  case atStart => exact ⟨0, Nat.zero_le _, rfl, OwnI.nil _ _, H.out.1⟩
  case round =>
    obtain ⟨j, hj, rfl, hO, hxr⟩ := hrel
    have hi0 : (0 : Int) ≤ j := by omega
    have k0 := hxr.k0
    have k1 := hxr.k1
    have hsz : w.heap.size + 1 ≤ wr.heap.size := hxr.blk.lt
    by_cases hlt : j < n
    · have hi1 : (j : Int) < n := by omega
      have hjl : j < l.length := by omega
      have hps := pick_succ (bitB b) l j
      have hpl := pick_le (bitB b) l j
      cases hbit : bitB b j with
      | true =>
        have hcond : (bits .and .i64 (b / 2 ^ j) 1 == 1) = true := hbit
        rw [hbit, if_pos rfl] at hps
        obtain ⟨b1, o1, rfl, l1, q1⟩ := hxr.arg.2.2.2.1.at_ hjl
        have c1 := q1 j hjl
        have hgd : l.getD j 0 = l[j] := by simp [List.getD, List.getElem?_eq_getElem hjl]
        rw [hgd] at hps
        generalize l[j] = x at *
        obtain ⟨pk, hpk⟩ : ∃ pk, pick (bitB b) l j = pk := ⟨_, rfl⟩
        rw [hpk] at hO hps hpl
        obtain ⟨A5, c5, rfl, _⟩ := hO.form
        have hbn : Below wr.heap.size wr (wr.alloc (.cells #[.int .i64 x] 3)) := (Below.refl _ _).alloc (Nat.le_refl _) _
        have hO2 := own_below hO hbn
        have hrow := fun i hi => (hO2.lt i hi).1
        have hIs := is_new wr [x]
        have hsz2 := hbn.size
        have H2 := Lib.hid (And.intro hO2 (And.intro hIs (And.intro (hxr.on hbn) (And.intro hrow hps))))
        have Hbit := Lib.hid hbit
        clear hO hxr q1 hjl hgd hpk hbn hO2 hrow hIs hps hbit
        go_wp2_with (at_builtin; refine wp_appendI rfl _ _ rfl (w.heap.size + 1) _ pk rfl H2.out.1 (some ⟨wr.heap.size, 0, none⟩) 1 1 [x] rfl H2.out.2.1 rfl (by omega) (by omega) ?_; intro v2 w3 hO3 hg3 ho3; replace hO3 := Lib.hid hO3; replace hg3 := Lib.hid hg3)
        have hne : ∀ i, Value.ownBlock (.slice A5 pk.length c5) = some i → w.heap.size + 1 ≤ i := fun i hi => H2.out.2.2.2.1 i hi
        have hb3 : Below w.heap.size w w3 := (H2.out.2.2.1.bel.grown hg3.out (by omega) (fun i hi => by have := hne i hi; omega))
        have hx3 : Bx w w3 f (some ⟨b1, o1, none⟩) n c l := ⟨H2.out.2.2.1.blk.grown hg3.out (fun e => by have := hne _ e; omega), hb3, H.out.2.after hb3⟩
        refine ⟨⟨j + 1, by omega, by go_num, by rw [H2.out.2.2.2.2]; exact hO3.out, hx3⟩, by simp [intOf]; omega⟩
      | false =>
        have hcond : (bits .and .i64 (b / 2 ^ j) 1 == 1) = false := hbit
        rw [hbit, if_neg (by simp), List.append_nil] at hps
        have H2 := Lib.hid (And.intro hO (And.intro hxr hps))
        clear hO hxr hps hbit hjl
        go_wp2
        refine ⟨⟨j + 1, by omega, by go_num, by rw [H2.out.2.2]; exact H2.out.1, H2.out.2.1⟩, by simp [intOf]; omega⟩
    · have hi1 : ¬ (j : Int) < n := by omega
      have hjn : j = n := by omega
      subst hjn
      have H2 := Lib.hid (And.intro hO hxr)
      clear hO hxr
      go_wp2
      go_ret
      exact ⟨_, rfl, own_base H2.out.1 (by omega), H2.out.2.bel⟩
end Go.Proofs.Ytjibbbfpbflgmaa
