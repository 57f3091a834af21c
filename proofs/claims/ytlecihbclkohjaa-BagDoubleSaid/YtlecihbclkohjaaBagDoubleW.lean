/-
  For all lists l (60 deeds at most are done) and all numbers: a double is the same, behind all others, which stay as they are; BagDouble returns true; no condition.
-/
import Derived.Test.YtlecihbclkohjaaOpen
import Derived.Test.YtlecihbclkohjaaPl13
namespace Go.Proofs.Ytlecihbclkohjaa.bagDouble
open Go.ChangeShapes Go.WideShapes Go.ChangeAt Go.RowKit
set_option linter.unusedVariables false

set_option maxRecDepth 100000 in
set_option maxHeartbeats 6400000 in
theorem walk (Al : Option Addr) (nl cl : Nat) (l : List Int) (x : Int) (w : World) (hl : ArgI w Al nl cl l) (hx : (Lit.int .i64 x).wf = true) :
    Calls Try.prog 7 #[.slice Al nl cl, .int .i64 x] w fun e w' => e = .returned (.bool true) ∧ Below w.heap.size w w' := by
  have hnot : ∀ (x : Bool) (w : World), (Op.unary .not (.bool x)).run Try.prog w = .ok (.bool (!x)) w := fun _ _ => rfl
  have Hl := Lib.hid hl
  clear hl
  go_enter Try.func7, Try.ntmps7
  go_wp2_with fail
  refine (works_any _).mono ?_
  rintro e w1 ⟨rfl, hb1⟩
  go_wp2_with fail
  refine (played_any Al nl cl l w1 (Hl.out.after hb1)).mono ?_
  rintro e w2 ⟨g, b, A1, n1, c1, put, A2, n2, c2, taken, rfl, hP, hI⟩
  have hlenP : put.length = n1 := let ⟨_, _, _, q⟩ := hP; let ⟨_, _, q⟩ := q.p; q.len
  have hlenT : taken.length = n2 := let ⟨_, _, _, q⟩ := hP; let ⟨_, _, q⟩ := q.t; q.len
  have hn1 : n1 ≤ 60 := by have := hI.pk; omega
  have hn2 : n2 ≤ 60 := by have := hI.sum; have := hI.sk; omega
  obtain ⟨m, hm⟩ : ∃ m, b.l.length = m := ⟨_, rfl⟩
  have hm60 : m ≤ 60 := by have := hI.sum; have := hI.sk; omega
  have hse : b.sent ≤ 60 := by have := hI.sk; omega
  have hlo : b.lost ≤ 60 := by have := hI.sum; have := hI.sk; omega
  obtain ⟨N, V, W, kp⟩ := hP
  have bw := hb1.trans (kp.bk.bel.mono hb1.size)
  have HP := Lib.hid (And.intro kp (And.intro hI (And.intro hlenP (And.intro hlenT (And.intro hm (And.intro hb1 bw))))))
  clear kp hI hlenP hlenT hm hb1 bw
  have hwx := bounds_i64 (x := x) hx
  clear hx
  by_cases hm0 : m = 0
  · subst hm0
    have hd : dblE b x = 9 := by
      have h9 : lackE b x = 9 := by
        unfold lackE
        by_cases h0 : x < 0
        · rw [if_pos h0]
        · rw [if_neg h0, if_pos (by rw [HP.out.2.2.2.2.1]; show (0 : Int) ≤ x; omega)]
      unfold dblE
      rw [h9]; rfl
    go_wp2_with fail
    refine (k_len HP.out.1.bk 0 HP.out.2.2.2.2.1).mono ?_; rintro e w2 ⟨rfl, rfl⟩
    go_wp2_with fail
    refine (k_sent HP.out.1.bk _ rfl).mono ?_; rintro e w2 ⟨rfl, rfl⟩
    go_wp2_with fail
    refine (k_dbl HP.out.1.bk x (by omega) hd rfl).mono ?_
    rintro e w3 ⟨rfl, hk, ho⟩
    have H3 := Lib.hid (HP.out.2.2.2.2.2.1.trans (hk.bel.mono HP.out.2.2.2.2.2.1.size))
    clear hk ho hd
    go_wp2
    go_ret
    exact ⟨rfl, H3.out⟩
  · have hm1 : (0 : Int) < m := by omega
    have hmz : ((m : Int) == 0) = false := by simp; omega
    obtain ⟨s, hs⟩ : ∃ s, b.sent = s := ⟨_, rfl⟩
    have hsb : s ≤ 60 := by omega
    have Hs := Lib.hid hs
    clear hs
    go_wp2_with fail
    refine (k_len HP.out.1.bk m HP.out.2.2.2.2.1).mono ?_; rintro e w2 ⟨rfl, rfl⟩
    go_wp2_with fail
    refine (k_sent HP.out.1.bk s Hs.out).mono ?_; rintro e w2 ⟨rfl, rfl⟩
    go_wp2_with fail
    refine (bringF_any x m w2 hm1 (by omega) hwx.1 hwx.2).mono ?_
    rintro e w2 ⟨rfl, rfl⟩
    have h0 := Int.emod_nonneg x (by omega : (m : Int) ≠ 0)
    have h1 := Int.emod_lt_of_pos x hm1
    obtain ⟨a, ha⟩ : ∃ a : Nat, x % m = a := ⟨(x % m).toNat, by omega⟩
    rw [ha] at h0 h1 ⊢
    clear ha hwx
    have ham : a < m := by omega
    have hal : a < b.l.length := by rw [HP.out.2.2.2.2.1]; exact ham
    have hlk : lackE b a = 0 := by unfold lackE; rw [if_neg (by omega), if_neg (by omega)]
    obtain ⟨y, hy⟩ : ∃ y, b.l[a] = y := ⟨_, rfl⟩
    have hat : atB b a = y := by unfold atB; rw [show ((a : Int)).toNat = a by omega, List.getElem?_eq_getElem hal, ← hy]; rfl
    have hlo : lookB b a = y := by unfold lookB; rw [if_pos hlk, hat]
    have hde : dblE b a = 0 := by unfold dblE; rw [if_pos hlk, if_neg (by rw [HP.out.2.2.2.2.1]; omega)]
    obtain ⟨b2, hb2⟩ : ∃ b2, dblB b a = b2 := ⟨_, rfl⟩
    have hb2' : b2 = ⟨b.l ++ [y], s + 1, b.lost⟩ := by rw [← hb2]; unfold dblB; rw [if_pos hde, hat]; unfold sendB; rw [Hs.out]
    have hlen2 : b2.l.length = m + 1 := by rw [hb2', List.length_append, HP.out.2.2.2.2.1]; rfl
    have hlk1 : lackE b2 ((m : Nat) : Int) = 0 := by unfold lackE; rw [if_neg (by omega), if_neg (by rw [hlen2]; omega)]
    have hlo1 : lookB b2 ((m : Nat) : Int) = y := by
      unfold lookB atB
      rw [if_pos hlk1, hb2', show (((m : Nat) : Int)).toNat = m by omega, List.getElem?_append_right (by rw [HP.out.2.2.2.2.1]; exact Nat.le_refl _), HP.out.2.2.2.2.1, Nat.sub_self]
      rfl
    have hlk2 : lackE b2 a = 0 := by unfold lackE; rw [if_neg (by omega), if_neg (by rw [hlen2]; omega)]
    have hlo2 : lookB b2 a = y := by
      unfold lookB atB
      rw [if_pos hlk2, hb2', show ((a : Int)).toNat = a by omega, List.getElem?_append_left hal, List.getElem?_eq_getElem hal, hy]
      rfl
    have hs2 : b2.sent = s + 1 := by rw [hb2']
    have HM := Lib.hid (And.intro hlk (And.intro hlo (And.intro hde (And.intro hb2 (And.intro hlk1 (And.intro hlo1 (And.intro hlk2 (And.intro hlo2 (And.intro hlen2 hs2)))))))))
    clear hlk hlo hde hb2 hlk1 hlo1 hlk2 hlo2 hlen2 hs2 hb2' hy hat hal
    go_wp2_with fail
    refine (k_look HP.out.1.bk a y HM.out.1 HM.out.2.1).mono ?_
    rintro e w4 ⟨xa, xn, xc, Mx, rfl, hk, hby, ho, hM⟩
    obtain ⟨w5, hwx⟩ : ∃ w5, w4.alloc (.cells #[.int .i64 y.fr, .int .i64 y.to, .slice xa xn xc] 29) = w5 := ⟨_, rfl⟩
    have hbx := box_new hk hby w5 hwx
    have k5 := (HP.out.1.call hk (fun i hi => .inl hi) ho).box hbx.2.2.2.1
    have H5 := Lib.hid (And.intro k5 (And.intro hbx.2.1 (And.intro hbx.2.2.1 (And.intro hbx.2.2.2.2 hM))))
    have z5 := hbx.2.2.2.2
    have zo := ho.size
    have hMx : ∀ i, (Mx i ∨ i = w4.heap.size) → ((N i ∨ Mx i) ∨ (w4.heap.size ≤ i ∧ i < w5.heap.size)) := fun i hi => by
      rcases hi with h | h
      · exact .inl (.inr h)
      · exact .inr ⟨by omega, by omega⟩
    have HMx := Lib.hid hMx
    clear hk hby ho hbx k5 hM hMx
    go_wp2_with fail
    refine (k_dbl H5.out.1.bk a (by omega) HM.out.2.2.1 HM.out.2.2.2.1).mono ?_
    rintro e w6 ⟨rfl, hk, ho⟩
    have k6 := H5.out.1.call hk (fun i hi => hi) ho
    have hx6 := H5.out.2.1.stays ho fun i hi => HMx.out i hi
    have B6 := ho.blk H5.out.2.2.1 fun e => e (HMx.out _ (.inr rfl))
    have H6 := Lib.hid (And.intro k6 (And.intro hx6 B6))
    clear hk ho k6 hx6 B6
    go_wp2_with fail
    refine (k_look H6.out.1.bk m y HM.out.2.2.2.2.1 HM.out.2.2.2.2.2.1).mono ?_
    rintro e w7 ⟨ya, yn, yc, My, rfl, hk, hby, ho, hM⟩
    obtain ⟨w8, hwy⟩ : ∃ w5, w7.alloc (.cells #[.int .i64 y.fr, .int .i64 y.to, .slice ya yn yc] 29) = w5 := ⟨_, rfl⟩
    have hbx := box_new hk hby w8 hwy
    have k8 := (H6.out.1.call hk (fun i hi => .inl hi) ho).box hbx.2.2.2.1
    have hx8 := (H6.out.2.1.stays ho fun i hi => HMx.out i hi).below hbx.2.2.2.1 (fun i hi => by have := hk.2.2 i (.inl (HMx.out i hi)); exact this) (Nat.le_refl _)
    have B8x := ho.blk H6.out.2.2 fun e => e (HMx.out _ (.inr rfl))
    have B8 := B8x.below hbx.2.2.2.1 B8x.lt
    have z8 := hbx.2.2.2.2
    have hMy : ∀ i, (My i ∨ i = w7.heap.size) → (((((N i ∨ Mx i) ∨ (w4.heap.size ≤ i ∧ i < w5.heap.size))) ∨ My i) ∨ (w7.heap.size ≤ i ∧ i < w8.heap.size)) := fun i hi => by
      rcases hi with h | h
      · exact .inl (.inr h)
      · exact .inr ⟨by omega, by omega⟩
    have HMy := Lib.hid hMy
    have H8 := Lib.hid (And.intro k8 (And.intro hx8 (And.intro B8 (And.intro hbx.2.1 hbx.2.2.1))))
    clear hk hby ho hbx k8 hx8 B8x B8 hM hMy
    go_wp2_with fail
    refine (k_look H8.out.1.bk a y HM.out.2.2.2.2.2.2.1 HM.out.2.2.2.2.2.2.2.1).mono ?_
    rintro e w9 ⟨za, zn, zc, Mz, rfl, hk, hby, ho, hM⟩
    obtain ⟨w10, hwz⟩ : ∃ w5, w9.alloc (.cells #[.int .i64 y.fr, .int .i64 y.to, .slice za zn zc] 29) = w5 := ⟨_, rfl⟩
    have hbx := box_new hk hby w10 hwz
    have k10 := (H8.out.1.call hk (fun i hi => .inl hi) ho).box hbx.2.2.2.1
    have hx10 := (H8.out.2.1.stays ho fun i hi => .inl (.inl (HMx.out i hi))).below hbx.2.2.2.1 (fun i hi => hk.2.2 i (.inl (.inl (.inl (HMx.out i hi))))) (Nat.le_refl _)
    have B10x := ho.blk H8.out.2.2.1 fun e => e (.inl (.inl (HMx.out _ (.inr rfl))))
    have BX := B10x.below hbx.2.2.2.1 B10x.lt
    have hy10 := (H8.out.2.2.2.1.stays ho fun i hi => HMy.out i hi).below hbx.2.2.2.1 (fun i hi => hk.2.2 i (.inl (HMy.out i hi))) (Nat.le_refl _)
    have B10y := ho.blk H8.out.2.2.2.2 fun e => e (HMy.out _ (.inr rfl))
    have BY := B10y.below hbx.2.2.2.1 B10y.lt
    have h10 := Lib.hid (And.intro k10 (And.intro hx10 (And.intro BX (And.intro hy10 (And.intro BY (And.intro hbx.2.1 hbx.2.2.1))))))
    have x0 := BX.cell (i := 0) rfl
    have x1 := BX.cell (i := 1) rfl
    have x2 := BX.cell (i := 2) rfl
    have y0 := BY.cell (i := 0) rfl
    have y1 := BY.cell (i := 1) rfl
    have y2 := BY.cell (i := 2) rfl
    clear hk hby ho hbx k10 hx10 B10x BX hy10 B10y BY hM
    have hs1 := same_any _ _ h10.out.2.1 h10.out.2.2.2.1 true (by simp)
    dsimp only at hs1
    have Hs1 := Lib.hid hs1
    clear hs1
    go_wp2_with fail
    refine Hs1.out.mono ?_
    rintro e w11 ⟨rfl, hb⟩
    have k11 := h10.out.1.box hb
    have BX := h10.out.2.2.1.below hb h10.out.2.2.1.lt
    have BZ := h10.out.2.2.2.2.2.2.below hb h10.out.2.2.2.2.2.2.lt
    have hx11 := h10.out.2.1.out (S := fun i => w10.heap.size ≤ i) (Out.ofBelow _ hb) fun i hi e => by have := h10.out.1.bk.2.2 i (.inl (.inl (.inl (.inl (HMx.out i hi))))); omega
    have hz11 := h10.out.2.2.2.2.2.1.out (S := fun i => w10.heap.size ≤ i) (Out.ofBelow _ hb) fun i hi e => by
      rcases hi with h | h
      · have := h10.out.1.bk.2.2 i (.inl (.inr h)); omega
      · have := h10.out.2.2.2.2.2.2.lt; omega
    have hs2 := same_any _ _ hx11 hz11 true (by simp)
    dsimp only at hs2
    have H11 := Lib.hid (And.intro k11 hs2)
    have x0' := BX.cell (i := 0) rfl
    have x1' := BX.cell (i := 1) rfl
    have x2' := BX.cell (i := 2) rfl
    have z0' := BZ.cell (i := 0) rfl
    have z1' := BZ.cell (i := 1) rfl
    have z2' := BZ.cell (i := 2) rfl
    clear k11 BX BZ hx11 hz11 hs2 hb
    go_wp2_with fail
    refine H11.out.2.mono ?_
    rintro e w12 ⟨rfl, hb⟩
    have H12 := Lib.hid (H11.out.1.box hb)
    clear hb
    have em : (((m + 1 : Nat) : Int) == (m : Int) + 1) = true := by simp
    have es : (((s + 1 : Nat) : Int) == (s : Int) + 1) = true := by simp
    go_wp2_with fail
    refine (k_len H12.out.bk (m + 1) HM.out.2.2.2.2.2.2.2.2.1).mono ?_; rintro e w12 ⟨rfl, rfl⟩
    go_wp2_with fail
    refine (k_sent H12.out.bk (s + 1) HM.out.2.2.2.2.2.2.2.2.2).mono ?_; rintro e w12 ⟨rfl, rfl⟩
    go_wp2
    go_ret
    exact ⟨rfl, HP.out.2.2.2.2.2.1.trans (H12.out.bk.bel.mono HP.out.2.2.2.2.2.1.size)⟩

end Go.Proofs.Ytlecihbclkohjaa.bagDouble
