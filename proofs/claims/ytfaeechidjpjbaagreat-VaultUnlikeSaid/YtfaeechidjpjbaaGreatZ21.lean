/-
  Laid together for a hand-in: Wi16, Sa16, Ds16, Wk16.
-/
import Derived.Test.YtfaeechidjpjbaaGreatZ20
import Derived.Test.YtfaeechidjpjbaaGreatZ11
import Derived.Test.YtfaeechidjpjbaaGreatZ01
import Derived.Test.YtfaeechidjpjbaaGreatZ08
import Derived.Test.YtfaeechidjpjbaaGreatZ13

namespace Go.Proofs.YtfaeechidjpjbaaGreat
open Go.RowKit Go.Maps
set_option linter.unusedVariables false
set_option linter.unusedSimpArgs false
/-- A wish that was made since that world. -/
def RetW (P : Wl → Prop) (w : World) (e : Ending) (w' : World) : Prop :=
  ∃ (x : Wl) (D : Option Addr) (nd cd : Nat) (N : Option Addr) (nn cn : Nat), e = .returned (.agg #[.int .i64 x.cl, .int .i64 x.sp, .int .i64 x.gr, .int .i64 x.ep, .int .i64 x.kd, .int .i64 x.bl, .slice D nd cd, .int .i64 x.od, .int .i64 x.nw, .slice N nn cn]) ∧
    ArgW w' x D nd cd N nn cn ∧ P x ∧ (∀ b, inA D b → w.heap.size ≤ b) ∧ (∀ b, inA N b → w.heap.size ≤ b) ∧ Below w.heap.size w w'
theorem WishR.ret {P : Wl → Prop} {w w' : World} {e : Ending} (h : WishR P w e w') : RetW P w e w' := by
  obtain ⟨X, x, D, nd, cd, N, nn, cn, he, rfl, h1, h2, h3, h4, h5⟩ := h
  exact ⟨x, D, nd, cd, N, nn, cn, he, h1, h2, h3, h4, h5⟩
theorem wh_facts {W1 w2 : World} {g : Nat} {X : List Value} (hB : Blk W1 g 45 zW) (hl : X.length = 10) (h1 : X.toArray.all (·.oneCell') = true) (hb : Below W1.heap.size W1 w2) :
    w2.there g 0 X.toArray.size ∧ (Tryz.prog.info? 45).map (·.size) = some X.toArray.size ∧ X.toArray.all (·.oneCell') = true ∧ Blk (w2.setCells g 0 X) g 45 X ∧ X.length = 10 := by
  have hB2 := hB.below hb hB.lt
  have hs : X.toArray.size = 10 := by rw [List.size_toArray]; exact hl
  exact ⟨by rw [hs]; exact hB2.there, by rw [hs]; exact wish_size, h1, hB2.setAll (vs := X) (by rw [hl]; rfl), hl⟩
theorem wh_end {Q : Wl → Prop} {w W1 w2 : World} {X : List Value} {x : Wl} {D : Option Addr} {nd cd : Nat} {N : Option Addr} {nn cn : Nat} (hX : X = [.int .i64 x.cl, .int .i64 x.sp, .int .i64 x.gr, .int .i64 x.ep, .int .i64 x.kd, .int .i64 x.bl, .slice D nd cd, .int .i64 x.od, .int .i64 x.nw, .slice N nn cn])
    (hA : ArgW w2 x D nd cd N nn cn) (hQ : Q x) (hD : ∀ b, inA D b → W1.heap.size ≤ b) (hN : ∀ b, inA N b → W1.heap.size ≤ b) (hb : Below W1.heap.size W1 w2) (h1 : Below w.heap.size w W1) (hz : W1.heap.size = w.heap.size + 1) :
    RetW Q w (.returned (.agg X.toArray)) (w2.setCells w.heap.size 0 X) := by
  have ho : Out (fun i => i = w.heap.size) w2 (w2.setCells w.heap.size 0 X) := out_set (S := fun i => i = w.heap.size) (Out.refl _ _) rfl X
  refine ⟨x, D, nd, cd, N, nn, cn, by rw [hX], ⟨⟨hA.1.1, hA.1.2.1, hA.1.2.2.1, bs_out hA.1.2.2.2.1 ho (fun b hb e => by have := hD b hb; omega), hA.1.2.2.2.2⟩, ⟨argI_out hA.2.1.1 ho (fun b hb e => by have := hN b hb; omega), hA.2.1.2⟩, hA.2.2⟩, hQ, fun b hb => by have := hD b hb; omega, fun b hb => by have := hN b hb; omega, Below.setCells (Nat.le_refl _) _ (h1.trans (hb.mono h1.size))⟩
section
variable {w : World} {U : Nat → Prop} {g : Nat} {bk : Value} {v : Va} {cs : List Value}
set_option maxRecDepth 100000 in
set_option maxHeartbeats 6400000 in
theorem vwish_in (h : VaIn w U g bk v cs) (n sp : Int) (hn : -9223372036854775808 ≤ n ∧ n ≤ 9223372036854775807) (hsp : 1 ≤ sp ∧ sp ≤ 9007199254740991) : Calls Tryz.prog 21 #[.pointer (some ⟨g, 0, none⟩), .int .i64 n, .int .i64 sp] w
    (RetW (fun x => WishV v.ep sp x ∧ (x.kd = 5 ↔ n % 12 = 0)) w) := by
  have He := Lib.hid (fun W (hb : Below w.heap.size w W) => epoch_in (h.below hb))
  have hep := h.ok.ep
  obtain ⟨c, hc⟩ : ∃ c, n / 16 % 4 = c := ⟨_, rfl⟩
  obtain ⟨b, hb⟩ : ∃ b, n / 64 % 8 = b := ⟨_, rfl⟩
  obtain ⟨q, hq⟩ : ∃ q, n / 512 % 8 = q := ⟨_, rfl⟩
  obtain ⟨r, hr⟩ : ∃ r, n % 12 = r := ⟨_, rfl⟩
  have hc0 : 0 ≤ c ∧ c < 4 := by omega
  have hb0 : 0 ≤ b ∧ b < 8 := by omega
  have hr0 : 0 ≤ r ∧ r < 12 := by omega
  have B1 : Hid (∀ W, Calls Tryz.prog 24 #[.int .i64 (n / 16), .int .i64 4] W fun e w' => e = .returned (.int .i64 c) ∧ w' = W) := Lib.hid fun W => by rw [← hc]; exact bringF_any _ _ _ (by decide) (by decide) (by omega) (by omega)
  have B2 : Hid (∀ W, Calls Tryz.prog 24 #[.int .i64 (n / 64), .int .i64 8] W fun e w' => e = .returned (.int .i64 b) ∧ w' = W) := Lib.hid fun W => by rw [← hb]; exact bringF_any _ _ _ (by decide) (by decide) (by omega) (by omega)
  have B3 : Hid (∀ W, Calls Tryz.prog 24 #[.int .i64 (n / 512), .int .i64 8] W fun e w' => e = .returned (.int .i64 q) ∧ w' = W) := Lib.hid fun W => by rw [← hq]; exact bringF_any _ _ _ (by decide) (by decide) (by omega) (by omega)
  have B4 : Hid (∀ W, Calls Tryz.prog 24 #[.int .i64 n, .int .i64 12] W fun e w' => e = .returned (.int .i64 r) ∧ w' = W) := Lib.hid fun W => by rw [← hr]; exact bringF_any _ _ _ (by decide) (by decide) (by omega) (by omega)
  obtain ⟨d, hd⟩ : ∃ d : UInt8, (d.toNat : Int) = n / 32 % 256 := ⟨UInt8.ofNat (n / 32 % 256).toNat, by
    have : (n / 32 % 256).toNat < 256 := by omega
    simp [UInt8.toNat_ofNat']; omega⟩
  have hwu : IntKind.u8.wrap (n / 32) = (d.toNat : Int) := by rw [hd]; rfl
  have hw1 : IntKind.i64.wrap (31 + c) = 31 + c := by rw [IntWalk.i64_in _ (by omega)]
  have hw2 : IntKind.i64.wrap (v.ep - 1) = v.ep - 1 := by rw [IntWalk.i64_in _ (by omega)]
  obtain ⟨W1, hW1⟩ : ∃ W1, w.alloc (.cells #[.int .i64 0, .int .i64 0, .int .i64 0, .int .i64 0, .int .i64 0, .int .i64 0, .slice none 0 0, .int .i64 0, .int .i64 0, .slice none 0 0] 45) = W1 := ⟨_, rfl⟩
  have hZ : Blk W1 w.heap.size 45 zW := by rw [← hW1]; exact Blk.new rfl rfl
  have hbW : Below w.heap.size w W1 := by rw [← hW1]; exact (Below.refl _ _).alloc (Nat.le_refl _) _
  have hz : W1.heap.size = w.heap.size + 1 := by rw [← hW1]; simp
  have HW := Lib.hid (And.intro hW1 (And.intro hZ (And.intro hbW hz)))
  have Hep := Lib.hid (And.intro hep hsp)
  have Hk := Lib.hid (show (r = 0 ↔ n % 12 = 0) ∧ (0 ≤ c ∧ c < 4) ∧ (0 ≤ b ∧ b < 8) from ⟨by rw [hr], hc0, hb0⟩)
  clear hc hb hq hr hc0 hb0 hd hW1 hZ hbW hz hn hsp h
  by_cases c1 : q = 0
  · by_cases c2 : v.ep > 0
    · skip
      have hq : (q == 0) = true := by simpa using c1
      have h2 : decide (v.ep > 0) = true := decide_eq_true c2
      by_cases k0 : r = 0
      · skip
        have EC : 31 ≤ 31 + c ∧ 31 + c ≤ 34 := by have := Hk.out.2.1; omega
        have EB : 0 ≤ b ∧ b ≤ 7 := by have := Hk.out.2.2; omega
        have ER : 0 ≤ (v.ep - 1) ∧ (v.ep - 1) ≤ 1048576 := by have := Hep.out.1; omega
        have R0 : r = 0 := k0
        have e0 : (r == 0) = true := by simp; omega
        have HC : Hid (Calls Tryz.prog 35 _ _ _) := Lib.hid (se_x (v.ep - 1) ER W1)
        rw [← HW.out.1] at HC
        clear ER EB EC
        go_enter Tryz.func21, Tryz.ntmps21
        go_wp2_with (first | (go_at_call 24; (first | (with_reducible refine (B1.out _).mono ?_) | (with_reducible refine (B2.out _).mono ?_) | (with_reducible refine (B3.out _).mono ?_) | (with_reducible refine (B4.out _).mono ?_)); rintro e w' ⟨rfl, hww⟩; have hww2 := hww.symm; subst hww2; clear hww) | (go_at_call 33; refine (He.out _ ((Below.refl _ _).alloc (Nat.le_refl _) _)).mono ?_; rintro e w' ⟨rfl, hww⟩; have hww2 := hww.symm; subst hww2; clear hww))
        refine HC.out.mono ?_
        rintro e w2 ⟨X, x, D, nd, cd, N, nn, cn, rfl, hX, hA, hP, hD, hN, hb2⟩
        rw [HW.out.1] at hD hN hb2
        have H2 := Lib.hid (wh_facts (X := X) HW.out.2.1 (by rw [hX]; rfl) (by rw [hX]; simp [Value.oneCell']) hb2)
        have H3 := Lib.hid (And.intro hX (And.intro hA (And.intro hP (And.intro hD (And.intro hN hb2)))))
        clear hX hA hP hD hN hb2
        go_wp2_with (refine wpList_store_mid rfl 45 _ _ rfl w.heap.size 0 X.toArray rfl rfl H2.out.1 H2.out.2.1 H2.out.2.2.1 ?_; simp only [Act.put])
        refine bodyPost_ret (res_w rfl H2.out.2.2.2.1 H2.out.2.2.2.2 rfl) rfl ?_
        obtain ⟨hX, hA, hP, hD, hN, hb2⟩ := H3.out
        exact wh_end (Q := fun x => WishV v.ep sp x ∧ (x.kd = 5 ↔ n % 12 = 0)) hX hA (by obtain ⟨hm, hx⟩ := hP; subst hx; exact ⟨⟨hm, rfl, .inr ⟨c2, rfl⟩, .inl ⟨rfl, rfl⟩⟩, ⟨fun _ => Hk.out.1.1 R0, fun _ => rfl⟩⟩) hD hN hb2 HW.out.2.2.1 HW.out.2.2.2
      by_cases k1 : r = 1
      · skip
        have EC : 31 ≤ 31 + c ∧ 31 + c ≤ 34 := by have := Hk.out.2.1; omega
        have EB : 0 ≤ b ∧ b ≤ 7 := by have := Hk.out.2.2; omega
        have ER : 0 ≤ (v.ep - 1) ∧ (v.ep - 1) ≤ 1048576 := by have := Hep.out.1; omega
        have R0 : ¬ r = 0 := by omega
        have e0 : (r == 0) = false := by simp; omega
        have e1 : (r == 1) = true := by simp; omega
        have HC : Hid (Calls Tryz.prog 28 _ _ _) := Lib.hid (rd_x (31 + c) sp (v.ep - 1) b EC Hep.out.2 ER EB W1)
        rw [← HW.out.1] at HC
        clear ER EB EC
        go_enter Tryz.func21, Tryz.ntmps21
        go_wp2_with (first | (go_at_call 24; (first | (with_reducible refine (B1.out _).mono ?_) | (with_reducible refine (B2.out _).mono ?_) | (with_reducible refine (B3.out _).mono ?_) | (with_reducible refine (B4.out _).mono ?_)); rintro e w' ⟨rfl, hww⟩; have hww2 := hww.symm; subst hww2; clear hww) | (go_at_call 33; refine (He.out _ ((Below.refl _ _).alloc (Nat.le_refl _) _)).mono ?_; rintro e w' ⟨rfl, hww⟩; have hww2 := hww.symm; subst hww2; clear hww))
        refine HC.out.mono ?_
        rintro e w2 ⟨X, x, D, nd, cd, N, nn, cn, rfl, hX, hA, hP, hD, hN, hb2⟩
        rw [HW.out.1] at hD hN hb2
        have H2 := Lib.hid (wh_facts (X := X) HW.out.2.1 (by rw [hX]; rfl) (by rw [hX]; simp [Value.oneCell']) hb2)
        have H3 := Lib.hid (And.intro hX (And.intro hA (And.intro hP (And.intro hD (And.intro hN hb2)))))
        clear hX hA hP hD hN hb2
        go_wp2_with (refine wpList_store_mid rfl 45 _ _ rfl w.heap.size 0 X.toArray rfl rfl H2.out.1 H2.out.2.1 H2.out.2.2.1 ?_; simp only [Act.put])
        refine bodyPost_ret (res_w rfl H2.out.2.2.2.1 H2.out.2.2.2.2 rfl) rfl ?_
        obtain ⟨hX, hA, hP, hD, hN, hb2⟩ := H3.out
        exact wh_end (Q := fun x => WishV v.ep sp x ∧ (x.kd = 5 ↔ n % 12 = 0)) hX hA (by obtain ⟨hm, hx⟩ := hP; subst hx; exact ⟨⟨hm, rfl, .inr ⟨c2, rfl⟩, .inr (.inl ⟨rfl, rfl⟩)⟩, ⟨fun e => by simp at e, fun e => absurd (Hk.out.1.2 e) R0⟩⟩) hD hN hb2 HW.out.2.2.1 HW.out.2.2.2
      by_cases k2 : r = 2
      · skip
        have EC : 31 ≤ 31 + c ∧ 31 + c ≤ 34 := by have := Hk.out.2.1; omega
        have EB : 0 ≤ b ∧ b ≤ 7 := by have := Hk.out.2.2; omega
        have ER : 0 ≤ (v.ep - 1) ∧ (v.ep - 1) ≤ 1048576 := by have := Hep.out.1; omega
        have R0 : ¬ r = 0 := by omega
        have e0 : (r == 0) = false := by simp; omega
        have e1 : (r == 1) = false := by simp; omega
        have e2 : (r == 2) = true := by simp; omega
        have HC : Hid (Calls Tryz.prog 28 _ _ _) := Lib.hid (rd_x (31 + c) sp (v.ep - 1) b EC Hep.out.2 ER EB W1)
        rw [← HW.out.1] at HC
        clear ER EB EC
        go_enter Tryz.func21, Tryz.ntmps21
        go_wp2_with (first | (go_at_call 24; (first | (with_reducible refine (B1.out _).mono ?_) | (with_reducible refine (B2.out _).mono ?_) | (with_reducible refine (B3.out _).mono ?_) | (with_reducible refine (B4.out _).mono ?_)); rintro e w' ⟨rfl, hww⟩; have hww2 := hww.symm; subst hww2; clear hww) | (go_at_call 33; refine (He.out _ ((Below.refl _ _).alloc (Nat.le_refl _) _)).mono ?_; rintro e w' ⟨rfl, hww⟩; have hww2 := hww.symm; subst hww2; clear hww))
        refine HC.out.mono ?_
        rintro e w2 ⟨X, x, D, nd, cd, N, nn, cn, rfl, hX, hA, hP, hD, hN, hb2⟩
        rw [HW.out.1] at hD hN hb2
        have H2 := Lib.hid (wh_facts (X := X) HW.out.2.1 (by rw [hX]; rfl) (by rw [hX]; simp [Value.oneCell']) hb2)
        have H3 := Lib.hid (And.intro hX (And.intro hA (And.intro hP (And.intro hD (And.intro hN hb2)))))
        clear hX hA hP hD hN hb2
        go_wp2_with (refine wpList_store_mid rfl 45 _ _ rfl w.heap.size 0 X.toArray rfl rfl H2.out.1 H2.out.2.1 H2.out.2.2.1 ?_; simp only [Act.put])
        refine bodyPost_ret (res_w rfl H2.out.2.2.2.1 H2.out.2.2.2.2 rfl) rfl ?_
        obtain ⟨hX, hA, hP, hD, hN, hb2⟩ := H3.out
        exact wh_end (Q := fun x => WishV v.ep sp x ∧ (x.kd = 5 ↔ n % 12 = 0)) hX hA (by obtain ⟨hm, hx⟩ := hP; subst hx; exact ⟨⟨hm, rfl, .inr ⟨c2, rfl⟩, .inr (.inl ⟨rfl, rfl⟩)⟩, ⟨fun e => by simp at e, fun e => absurd (Hk.out.1.2 e) R0⟩⟩) hD hN hb2 HW.out.2.2.1 HW.out.2.2.2
      by_cases k3 : r = 3
      · skip
        have EC : 31 ≤ 31 + c ∧ 31 + c ≤ 34 := by have := Hk.out.2.1; omega
        have EB : 0 ≤ b ∧ b ≤ 7 := by have := Hk.out.2.2; omega
        have ER : 0 ≤ (v.ep - 1) ∧ (v.ep - 1) ≤ 1048576 := by have := Hep.out.1; omega
        have R0 : ¬ r = 0 := by omega
        have e0 : (r == 0) = false := by simp; omega
        have e1 : (r == 1) = false := by simp; omega
        have e2 : (r == 2) = false := by simp; omega
        have e3 : (r == 3) = true := by simp; omega
        have HC : Hid (Calls Tryz.prog 28 _ _ _) := Lib.hid (rd_x (31 + c) sp (v.ep - 1) b EC Hep.out.2 ER EB W1)
        rw [← HW.out.1] at HC
        clear ER EB EC
        go_enter Tryz.func21, Tryz.ntmps21
        go_wp2_with (first | (go_at_call 24; (first | (with_reducible refine (B1.out _).mono ?_) | (with_reducible refine (B2.out _).mono ?_) | (with_reducible refine (B3.out _).mono ?_) | (with_reducible refine (B4.out _).mono ?_)); rintro e w' ⟨rfl, hww⟩; have hww2 := hww.symm; subst hww2; clear hww) | (go_at_call 33; refine (He.out _ ((Below.refl _ _).alloc (Nat.le_refl _) _)).mono ?_; rintro e w' ⟨rfl, hww⟩; have hww2 := hww.symm; subst hww2; clear hww))
        refine HC.out.mono ?_
        rintro e w2 ⟨X, x, D, nd, cd, N, nn, cn, rfl, hX, hA, hP, hD, hN, hb2⟩
        rw [HW.out.1] at hD hN hb2
        have H2 := Lib.hid (wh_facts (X := X) HW.out.2.1 (by rw [hX]; rfl) (by rw [hX]; simp [Value.oneCell']) hb2)
        have H3 := Lib.hid (And.intro hX (And.intro hA (And.intro hP (And.intro hD (And.intro hN hb2)))))
        clear hX hA hP hD hN hb2
        go_wp2_with (refine wpList_store_mid rfl 45 _ _ rfl w.heap.size 0 X.toArray rfl rfl H2.out.1 H2.out.2.1 H2.out.2.2.1 ?_; simp only [Act.put])
        refine bodyPost_ret (res_w rfl H2.out.2.2.2.1 H2.out.2.2.2.2 rfl) rfl ?_
        obtain ⟨hX, hA, hP, hD, hN, hb2⟩ := H3.out
        exact wh_end (Q := fun x => WishV v.ep sp x ∧ (x.kd = 5 ↔ n % 12 = 0)) hX hA (by obtain ⟨hm, hx⟩ := hP; subst hx; exact ⟨⟨hm, rfl, .inr ⟨c2, rfl⟩, .inr (.inl ⟨rfl, rfl⟩)⟩, ⟨fun e => by simp at e, fun e => absurd (Hk.out.1.2 e) R0⟩⟩) hD hN hb2 HW.out.2.2.1 HW.out.2.2.2
      by_cases k4 : r = 4
      · skip
        have EC : 31 ≤ 31 + c ∧ 31 + c ≤ 34 := by have := Hk.out.2.1; omega
        have EB : 0 ≤ b ∧ b ≤ 7 := by have := Hk.out.2.2; omega
        have ER : 0 ≤ (v.ep - 1) ∧ (v.ep - 1) ≤ 1048576 := by have := Hep.out.1; omega
        have R0 : ¬ r = 0 := by omega
        have e0 : (r == 0) = false := by simp; omega
        have e1 : (r == 1) = false := by simp; omega
        have e2 : (r == 2) = false := by simp; omega
        have e3 : (r == 3) = false := by simp; omega
        have e4 : (r == 4) = true := by simp; omega
        have HC : Hid (Calls Tryz.prog 28 _ _ _) := Lib.hid (rd_x (31 + c) sp (v.ep - 1) b EC Hep.out.2 ER EB W1)
        rw [← HW.out.1] at HC
        clear ER EB EC
        go_enter Tryz.func21, Tryz.ntmps21
        go_wp2_with (first | (go_at_call 24; (first | (with_reducible refine (B1.out _).mono ?_) | (with_reducible refine (B2.out _).mono ?_) | (with_reducible refine (B3.out _).mono ?_) | (with_reducible refine (B4.out _).mono ?_)); rintro e w' ⟨rfl, hww⟩; have hww2 := hww.symm; subst hww2; clear hww) | (go_at_call 33; refine (He.out _ ((Below.refl _ _).alloc (Nat.le_refl _) _)).mono ?_; rintro e w' ⟨rfl, hww⟩; have hww2 := hww.symm; subst hww2; clear hww))
        refine HC.out.mono ?_
        rintro e w2 ⟨X, x, D, nd, cd, N, nn, cn, rfl, hX, hA, hP, hD, hN, hb2⟩
        rw [HW.out.1] at hD hN hb2
        have H2 := Lib.hid (wh_facts (X := X) HW.out.2.1 (by rw [hX]; rfl) (by rw [hX]; simp [Value.oneCell']) hb2)
        have H3 := Lib.hid (And.intro hX (And.intro hA (And.intro hP (And.intro hD (And.intro hN hb2)))))
        clear hX hA hP hD hN hb2
        go_wp2_with (refine wpList_store_mid rfl 45 _ _ rfl w.heap.size 0 X.toArray rfl rfl H2.out.1 H2.out.2.1 H2.out.2.2.1 ?_; simp only [Act.put])
        refine bodyPost_ret (res_w rfl H2.out.2.2.2.1 H2.out.2.2.2.2 rfl) rfl ?_
        obtain ⟨hX, hA, hP, hD, hN, hb2⟩ := H3.out
        exact wh_end (Q := fun x => WishV v.ep sp x ∧ (x.kd = 5 ↔ n % 12 = 0)) hX hA (by obtain ⟨hm, hx⟩ := hP; subst hx; exact ⟨⟨hm, rfl, .inr ⟨c2, rfl⟩, .inr (.inl ⟨rfl, rfl⟩)⟩, ⟨fun e => by simp at e, fun e => absurd (Hk.out.1.2 e) R0⟩⟩) hD hN hb2 HW.out.2.2.1 HW.out.2.2.2
      have EC : 31 ≤ 31 + c ∧ 31 + c ≤ 34 := by have := Hk.out.2.1; omega
      have EB : 0 ≤ b ∧ b ≤ 7 := by have := Hk.out.2.2; omega
      have ER : 0 ≤ (v.ep - 1) ∧ (v.ep - 1) ≤ 1048576 := by have := Hep.out.1; omega
      have R0 : ¬ r = 0 := k0
      have e0 : (r == 0) = false := by simp; omega
      have e1 : (r == 1) = false := by simp; omega
      have e2 : (r == 2) = false := by simp; omega
      have e3 : (r == 3) = false := by simp; omega
      have e4 : (r == 4) = false := by simp; omega
      have HC : Hid (Calls Tryz.prog 39 _ _ _) := Lib.hid (wr_x (31 + c) sp (v.ep - 1) b d EC Hep.out.2 ER EB W1)
      rw [← HW.out.1] at HC
      clear ER EB EC
      go_enter Tryz.func21, Tryz.ntmps21
      go_wp2_with (first | (go_at_call 24; (first | (with_reducible refine (B1.out _).mono ?_) | (with_reducible refine (B2.out _).mono ?_) | (with_reducible refine (B3.out _).mono ?_) | (with_reducible refine (B4.out _).mono ?_)); rintro e w' ⟨rfl, hww⟩; have hww2 := hww.symm; subst hww2; clear hww) | (go_at_call 33; refine (He.out _ ((Below.refl _ _).alloc (Nat.le_refl _) _)).mono ?_; rintro e w' ⟨rfl, hww⟩; have hww2 := hww.symm; subst hww2; clear hww))
      refine HC.out.mono ?_
      rintro e w2 ⟨X, x, D, nd, cd, N, nn, cn, rfl, hX, hA, hP, hD, hN, hb2⟩
      rw [HW.out.1] at hD hN hb2
      have H2 := Lib.hid (wh_facts (X := X) HW.out.2.1 (by rw [hX]; rfl) (by rw [hX]; simp [Value.oneCell']) hb2)
      have H3 := Lib.hid (And.intro hX (And.intro hA (And.intro hP (And.intro hD (And.intro hN hb2)))))
      clear hX hA hP hD hN hb2
      go_wp2_with (refine wpList_store_mid rfl 45 _ _ rfl w.heap.size 0 X.toArray rfl rfl H2.out.1 H2.out.2.1 H2.out.2.2.1 ?_; simp only [Act.put])
      refine bodyPost_ret (res_w rfl H2.out.2.2.2.1 H2.out.2.2.2.2 rfl) rfl ?_
      obtain ⟨hX, hA, hP, hD, hN, hb2⟩ := H3.out
      exact wh_end (Q := fun x => WishV v.ep sp x ∧ (x.kd = 5 ↔ n % 12 = 0)) hX hA (by obtain ⟨hm, hx⟩ := hP; subst hx; exact ⟨⟨hm, rfl, .inr ⟨c2, rfl⟩, .inr (.inr ⟨rfl, rfl, _, rfl⟩)⟩, ⟨fun e => by simp at e, fun e => absurd (Hk.out.1.2 e) R0⟩⟩) hD hN hb2 HW.out.2.2.1 HW.out.2.2.2
    · skip
      have hq : (q == 0) = true := by simpa using c1
      have h2 : decide (v.ep > 0) = false := decide_eq_false c2
      by_cases k0 : r = 0
      · skip
        have EC : 31 ≤ 31 + c ∧ 31 + c ≤ 34 := by have := Hk.out.2.1; omega
        have EB : 0 ≤ b ∧ b ≤ 7 := by have := Hk.out.2.2; omega
        have ER : 0 ≤ v.ep ∧ v.ep ≤ 1048576 := by have := Hep.out.1; omega
        have R0 : r = 0 := k0
        have e0 : (r == 0) = true := by simp; omega
        have HC : Hid (Calls Tryz.prog 35 _ _ _) := Lib.hid (se_x v.ep ER W1)
        rw [← HW.out.1] at HC
        clear ER EB EC
        go_enter Tryz.func21, Tryz.ntmps21
        go_wp2_with (first | (go_at_call 24; (first | (with_reducible refine (B1.out _).mono ?_) | (with_reducible refine (B2.out _).mono ?_) | (with_reducible refine (B3.out _).mono ?_) | (with_reducible refine (B4.out _).mono ?_)); rintro e w' ⟨rfl, hww⟩; have hww2 := hww.symm; subst hww2; clear hww) | (go_at_call 33; refine (He.out _ ((Below.refl _ _).alloc (Nat.le_refl _) _)).mono ?_; rintro e w' ⟨rfl, hww⟩; have hww2 := hww.symm; subst hww2; clear hww))
        refine HC.out.mono ?_
        rintro e w2 ⟨X, x, D, nd, cd, N, nn, cn, rfl, hX, hA, hP, hD, hN, hb2⟩
        rw [HW.out.1] at hD hN hb2
        have H2 := Lib.hid (wh_facts (X := X) HW.out.2.1 (by rw [hX]; rfl) (by rw [hX]; simp [Value.oneCell']) hb2)
        have H3 := Lib.hid (And.intro hX (And.intro hA (And.intro hP (And.intro hD (And.intro hN hb2)))))
        clear hX hA hP hD hN hb2
        go_wp2_with (refine wpList_store_mid rfl 45 _ _ rfl w.heap.size 0 X.toArray rfl rfl H2.out.1 H2.out.2.1 H2.out.2.2.1 ?_; simp only [Act.put])
        refine bodyPost_ret (res_w rfl H2.out.2.2.2.1 H2.out.2.2.2.2 rfl) rfl ?_
        obtain ⟨hX, hA, hP, hD, hN, hb2⟩ := H3.out
        exact wh_end (Q := fun x => WishV v.ep sp x ∧ (x.kd = 5 ↔ n % 12 = 0)) hX hA (by obtain ⟨hm, hx⟩ := hP; subst hx; exact ⟨⟨hm, rfl, .inl rfl, .inl ⟨rfl, rfl⟩⟩, ⟨fun _ => Hk.out.1.1 R0, fun _ => rfl⟩⟩) hD hN hb2 HW.out.2.2.1 HW.out.2.2.2
      by_cases k1 : r = 1
      · skip
        have EC : 31 ≤ 31 + c ∧ 31 + c ≤ 34 := by have := Hk.out.2.1; omega
        have EB : 0 ≤ b ∧ b ≤ 7 := by have := Hk.out.2.2; omega
        have ER : 0 ≤ v.ep ∧ v.ep ≤ 1048576 := by have := Hep.out.1; omega
        have R0 : ¬ r = 0 := by omega
        have e0 : (r == 0) = false := by simp; omega
        have e1 : (r == 1) = true := by simp; omega
        have HC : Hid (Calls Tryz.prog 28 _ _ _) := Lib.hid (rd_x (31 + c) sp v.ep b EC Hep.out.2 ER EB W1)
        rw [← HW.out.1] at HC
        clear ER EB EC
        go_enter Tryz.func21, Tryz.ntmps21
        go_wp2_with (first | (go_at_call 24; (first | (with_reducible refine (B1.out _).mono ?_) | (with_reducible refine (B2.out _).mono ?_) | (with_reducible refine (B3.out _).mono ?_) | (with_reducible refine (B4.out _).mono ?_)); rintro e w' ⟨rfl, hww⟩; have hww2 := hww.symm; subst hww2; clear hww) | (go_at_call 33; refine (He.out _ ((Below.refl _ _).alloc (Nat.le_refl _) _)).mono ?_; rintro e w' ⟨rfl, hww⟩; have hww2 := hww.symm; subst hww2; clear hww))
        refine HC.out.mono ?_
        rintro e w2 ⟨X, x, D, nd, cd, N, nn, cn, rfl, hX, hA, hP, hD, hN, hb2⟩
        rw [HW.out.1] at hD hN hb2
        have H2 := Lib.hid (wh_facts (X := X) HW.out.2.1 (by rw [hX]; rfl) (by rw [hX]; simp [Value.oneCell']) hb2)
        have H3 := Lib.hid (And.intro hX (And.intro hA (And.intro hP (And.intro hD (And.intro hN hb2)))))
        clear hX hA hP hD hN hb2
        go_wp2_with (refine wpList_store_mid rfl 45 _ _ rfl w.heap.size 0 X.toArray rfl rfl H2.out.1 H2.out.2.1 H2.out.2.2.1 ?_; simp only [Act.put])
        refine bodyPost_ret (res_w rfl H2.out.2.2.2.1 H2.out.2.2.2.2 rfl) rfl ?_
        obtain ⟨hX, hA, hP, hD, hN, hb2⟩ := H3.out
        exact wh_end (Q := fun x => WishV v.ep sp x ∧ (x.kd = 5 ↔ n % 12 = 0)) hX hA (by obtain ⟨hm, hx⟩ := hP; subst hx; exact ⟨⟨hm, rfl, .inl rfl, .inr (.inl ⟨rfl, rfl⟩)⟩, ⟨fun e => by simp at e, fun e => absurd (Hk.out.1.2 e) R0⟩⟩) hD hN hb2 HW.out.2.2.1 HW.out.2.2.2
      by_cases k2 : r = 2
      · skip
        have EC : 31 ≤ 31 + c ∧ 31 + c ≤ 34 := by have := Hk.out.2.1; omega
        have EB : 0 ≤ b ∧ b ≤ 7 := by have := Hk.out.2.2; omega
        have ER : 0 ≤ v.ep ∧ v.ep ≤ 1048576 := by have := Hep.out.1; omega
        have R0 : ¬ r = 0 := by omega
        have e0 : (r == 0) = false := by simp; omega
        have e1 : (r == 1) = false := by simp; omega
        have e2 : (r == 2) = true := by simp; omega
        have HC : Hid (Calls Tryz.prog 28 _ _ _) := Lib.hid (rd_x (31 + c) sp v.ep b EC Hep.out.2 ER EB W1)
        rw [← HW.out.1] at HC
        clear ER EB EC
        go_enter Tryz.func21, Tryz.ntmps21
        go_wp2_with (first | (go_at_call 24; (first | (with_reducible refine (B1.out _).mono ?_) | (with_reducible refine (B2.out _).mono ?_) | (with_reducible refine (B3.out _).mono ?_) | (with_reducible refine (B4.out _).mono ?_)); rintro e w' ⟨rfl, hww⟩; have hww2 := hww.symm; subst hww2; clear hww) | (go_at_call 33; refine (He.out _ ((Below.refl _ _).alloc (Nat.le_refl _) _)).mono ?_; rintro e w' ⟨rfl, hww⟩; have hww2 := hww.symm; subst hww2; clear hww))
        refine HC.out.mono ?_
        rintro e w2 ⟨X, x, D, nd, cd, N, nn, cn, rfl, hX, hA, hP, hD, hN, hb2⟩
        rw [HW.out.1] at hD hN hb2
        have H2 := Lib.hid (wh_facts (X := X) HW.out.2.1 (by rw [hX]; rfl) (by rw [hX]; simp [Value.oneCell']) hb2)
        have H3 := Lib.hid (And.intro hX (And.intro hA (And.intro hP (And.intro hD (And.intro hN hb2)))))
        clear hX hA hP hD hN hb2
        go_wp2_with (refine wpList_store_mid rfl 45 _ _ rfl w.heap.size 0 X.toArray rfl rfl H2.out.1 H2.out.2.1 H2.out.2.2.1 ?_; simp only [Act.put])
        refine bodyPost_ret (res_w rfl H2.out.2.2.2.1 H2.out.2.2.2.2 rfl) rfl ?_
        obtain ⟨hX, hA, hP, hD, hN, hb2⟩ := H3.out
        exact wh_end (Q := fun x => WishV v.ep sp x ∧ (x.kd = 5 ↔ n % 12 = 0)) hX hA (by obtain ⟨hm, hx⟩ := hP; subst hx; exact ⟨⟨hm, rfl, .inl rfl, .inr (.inl ⟨rfl, rfl⟩)⟩, ⟨fun e => by simp at e, fun e => absurd (Hk.out.1.2 e) R0⟩⟩) hD hN hb2 HW.out.2.2.1 HW.out.2.2.2
      by_cases k3 : r = 3
      · skip
        have EC : 31 ≤ 31 + c ∧ 31 + c ≤ 34 := by have := Hk.out.2.1; omega
        have EB : 0 ≤ b ∧ b ≤ 7 := by have := Hk.out.2.2; omega
        have ER : 0 ≤ v.ep ∧ v.ep ≤ 1048576 := by have := Hep.out.1; omega
        have R0 : ¬ r = 0 := by omega
        have e0 : (r == 0) = false := by simp; omega
        have e1 : (r == 1) = false := by simp; omega
        have e2 : (r == 2) = false := by simp; omega
        have e3 : (r == 3) = true := by simp; omega
        have HC : Hid (Calls Tryz.prog 28 _ _ _) := Lib.hid (rd_x (31 + c) sp v.ep b EC Hep.out.2 ER EB W1)
        rw [← HW.out.1] at HC
        clear ER EB EC
        go_enter Tryz.func21, Tryz.ntmps21
        go_wp2_with (first | (go_at_call 24; (first | (with_reducible refine (B1.out _).mono ?_) | (with_reducible refine (B2.out _).mono ?_) | (with_reducible refine (B3.out _).mono ?_) | (with_reducible refine (B4.out _).mono ?_)); rintro e w' ⟨rfl, hww⟩; have hww2 := hww.symm; subst hww2; clear hww) | (go_at_call 33; refine (He.out _ ((Below.refl _ _).alloc (Nat.le_refl _) _)).mono ?_; rintro e w' ⟨rfl, hww⟩; have hww2 := hww.symm; subst hww2; clear hww))
        refine HC.out.mono ?_
        rintro e w2 ⟨X, x, D, nd, cd, N, nn, cn, rfl, hX, hA, hP, hD, hN, hb2⟩
        rw [HW.out.1] at hD hN hb2
        have H2 := Lib.hid (wh_facts (X := X) HW.out.2.1 (by rw [hX]; rfl) (by rw [hX]; simp [Value.oneCell']) hb2)
        have H3 := Lib.hid (And.intro hX (And.intro hA (And.intro hP (And.intro hD (And.intro hN hb2)))))
        clear hX hA hP hD hN hb2
        go_wp2_with (refine wpList_store_mid rfl 45 _ _ rfl w.heap.size 0 X.toArray rfl rfl H2.out.1 H2.out.2.1 H2.out.2.2.1 ?_; simp only [Act.put])
        refine bodyPost_ret (res_w rfl H2.out.2.2.2.1 H2.out.2.2.2.2 rfl) rfl ?_
        obtain ⟨hX, hA, hP, hD, hN, hb2⟩ := H3.out
        exact wh_end (Q := fun x => WishV v.ep sp x ∧ (x.kd = 5 ↔ n % 12 = 0)) hX hA (by obtain ⟨hm, hx⟩ := hP; subst hx; exact ⟨⟨hm, rfl, .inl rfl, .inr (.inl ⟨rfl, rfl⟩)⟩, ⟨fun e => by simp at e, fun e => absurd (Hk.out.1.2 e) R0⟩⟩) hD hN hb2 HW.out.2.2.1 HW.out.2.2.2
      by_cases k4 : r = 4
      · skip
        have EC : 31 ≤ 31 + c ∧ 31 + c ≤ 34 := by have := Hk.out.2.1; omega
        have EB : 0 ≤ b ∧ b ≤ 7 := by have := Hk.out.2.2; omega
        have ER : 0 ≤ v.ep ∧ v.ep ≤ 1048576 := by have := Hep.out.1; omega
        have R0 : ¬ r = 0 := by omega
        have e0 : (r == 0) = false := by simp; omega
        have e1 : (r == 1) = false := by simp; omega
        have e2 : (r == 2) = false := by simp; omega
        have e3 : (r == 3) = false := by simp; omega
        have e4 : (r == 4) = true := by simp; omega
        have HC : Hid (Calls Tryz.prog 28 _ _ _) := Lib.hid (rd_x (31 + c) sp v.ep b EC Hep.out.2 ER EB W1)
        rw [← HW.out.1] at HC
        clear ER EB EC
        go_enter Tryz.func21, Tryz.ntmps21
        go_wp2_with (first | (go_at_call 24; (first | (with_reducible refine (B1.out _).mono ?_) | (with_reducible refine (B2.out _).mono ?_) | (with_reducible refine (B3.out _).mono ?_) | (with_reducible refine (B4.out _).mono ?_)); rintro e w' ⟨rfl, hww⟩; have hww2 := hww.symm; subst hww2; clear hww) | (go_at_call 33; refine (He.out _ ((Below.refl _ _).alloc (Nat.le_refl _) _)).mono ?_; rintro e w' ⟨rfl, hww⟩; have hww2 := hww.symm; subst hww2; clear hww))
        refine HC.out.mono ?_
        rintro e w2 ⟨X, x, D, nd, cd, N, nn, cn, rfl, hX, hA, hP, hD, hN, hb2⟩
        rw [HW.out.1] at hD hN hb2
        have H2 := Lib.hid (wh_facts (X := X) HW.out.2.1 (by rw [hX]; rfl) (by rw [hX]; simp [Value.oneCell']) hb2)
        have H3 := Lib.hid (And.intro hX (And.intro hA (And.intro hP (And.intro hD (And.intro hN hb2)))))
        clear hX hA hP hD hN hb2
        go_wp2_with (refine wpList_store_mid rfl 45 _ _ rfl w.heap.size 0 X.toArray rfl rfl H2.out.1 H2.out.2.1 H2.out.2.2.1 ?_; simp only [Act.put])
        refine bodyPost_ret (res_w rfl H2.out.2.2.2.1 H2.out.2.2.2.2 rfl) rfl ?_
        obtain ⟨hX, hA, hP, hD, hN, hb2⟩ := H3.out
        exact wh_end (Q := fun x => WishV v.ep sp x ∧ (x.kd = 5 ↔ n % 12 = 0)) hX hA (by obtain ⟨hm, hx⟩ := hP; subst hx; exact ⟨⟨hm, rfl, .inl rfl, .inr (.inl ⟨rfl, rfl⟩)⟩, ⟨fun e => by simp at e, fun e => absurd (Hk.out.1.2 e) R0⟩⟩) hD hN hb2 HW.out.2.2.1 HW.out.2.2.2
      have EC : 31 ≤ 31 + c ∧ 31 + c ≤ 34 := by have := Hk.out.2.1; omega
      have EB : 0 ≤ b ∧ b ≤ 7 := by have := Hk.out.2.2; omega
      have ER : 0 ≤ v.ep ∧ v.ep ≤ 1048576 := by have := Hep.out.1; omega
      have R0 : ¬ r = 0 := k0
      have e0 : (r == 0) = false := by simp; omega
      have e1 : (r == 1) = false := by simp; omega
      have e2 : (r == 2) = false := by simp; omega
      have e3 : (r == 3) = false := by simp; omega
      have e4 : (r == 4) = false := by simp; omega
      have HC : Hid (Calls Tryz.prog 39 _ _ _) := Lib.hid (wr_x (31 + c) sp v.ep b d EC Hep.out.2 ER EB W1)
      rw [← HW.out.1] at HC
      clear ER EB EC
      go_enter Tryz.func21, Tryz.ntmps21
      go_wp2_with (first | (go_at_call 24; (first | (with_reducible refine (B1.out _).mono ?_) | (with_reducible refine (B2.out _).mono ?_) | (with_reducible refine (B3.out _).mono ?_) | (with_reducible refine (B4.out _).mono ?_)); rintro e w' ⟨rfl, hww⟩; have hww2 := hww.symm; subst hww2; clear hww) | (go_at_call 33; refine (He.out _ ((Below.refl _ _).alloc (Nat.le_refl _) _)).mono ?_; rintro e w' ⟨rfl, hww⟩; have hww2 := hww.symm; subst hww2; clear hww))
      refine HC.out.mono ?_
      rintro e w2 ⟨X, x, D, nd, cd, N, nn, cn, rfl, hX, hA, hP, hD, hN, hb2⟩
      rw [HW.out.1] at hD hN hb2
      have H2 := Lib.hid (wh_facts (X := X) HW.out.2.1 (by rw [hX]; rfl) (by rw [hX]; simp [Value.oneCell']) hb2)
      have H3 := Lib.hid (And.intro hX (And.intro hA (And.intro hP (And.intro hD (And.intro hN hb2)))))
      clear hX hA hP hD hN hb2
      go_wp2_with (refine wpList_store_mid rfl 45 _ _ rfl w.heap.size 0 X.toArray rfl rfl H2.out.1 H2.out.2.1 H2.out.2.2.1 ?_; simp only [Act.put])
      refine bodyPost_ret (res_w rfl H2.out.2.2.2.1 H2.out.2.2.2.2 rfl) rfl ?_
      obtain ⟨hX, hA, hP, hD, hN, hb2⟩ := H3.out
      exact wh_end (Q := fun x => WishV v.ep sp x ∧ (x.kd = 5 ↔ n % 12 = 0)) hX hA (by obtain ⟨hm, hx⟩ := hP; subst hx; exact ⟨⟨hm, rfl, .inl rfl, .inr (.inr ⟨rfl, rfl, _, rfl⟩)⟩, ⟨fun e => by simp at e, fun e => absurd (Hk.out.1.2 e) R0⟩⟩) hD hN hb2 HW.out.2.2.1 HW.out.2.2.2
  · skip
    have hq : (q == 0) = false := by simpa using c1
    by_cases k0 : r = 0
    · skip
      have EC : 31 ≤ 31 + c ∧ 31 + c ≤ 34 := by have := Hk.out.2.1; omega
      have EB : 0 ≤ b ∧ b ≤ 7 := by have := Hk.out.2.2; omega
      have ER : 0 ≤ v.ep ∧ v.ep ≤ 1048576 := by have := Hep.out.1; omega
      have R0 : r = 0 := k0
      have e0 : (r == 0) = true := by simp; omega
      have HC : Hid (Calls Tryz.prog 35 _ _ _) := Lib.hid (se_x v.ep ER W1)
      rw [← HW.out.1] at HC
      clear ER EB EC
      go_enter Tryz.func21, Tryz.ntmps21
      go_wp2_with (first | (go_at_call 24; (first | (with_reducible refine (B1.out _).mono ?_) | (with_reducible refine (B2.out _).mono ?_) | (with_reducible refine (B3.out _).mono ?_) | (with_reducible refine (B4.out _).mono ?_)); rintro e w' ⟨rfl, hww⟩; have hww2 := hww.symm; subst hww2; clear hww) | (go_at_call 33; refine (He.out _ ((Below.refl _ _).alloc (Nat.le_refl _) _)).mono ?_; rintro e w' ⟨rfl, hww⟩; have hww2 := hww.symm; subst hww2; clear hww))
      refine HC.out.mono ?_
      rintro e w2 ⟨X, x, D, nd, cd, N, nn, cn, rfl, hX, hA, hP, hD, hN, hb2⟩
      rw [HW.out.1] at hD hN hb2
      have H2 := Lib.hid (wh_facts (X := X) HW.out.2.1 (by rw [hX]; rfl) (by rw [hX]; simp [Value.oneCell']) hb2)
      have H3 := Lib.hid (And.intro hX (And.intro hA (And.intro hP (And.intro hD (And.intro hN hb2)))))
      clear hX hA hP hD hN hb2
      go_wp2_with (refine wpList_store_mid rfl 45 _ _ rfl w.heap.size 0 X.toArray rfl rfl H2.out.1 H2.out.2.1 H2.out.2.2.1 ?_; simp only [Act.put])
      refine bodyPost_ret (res_w rfl H2.out.2.2.2.1 H2.out.2.2.2.2 rfl) rfl ?_
      obtain ⟨hX, hA, hP, hD, hN, hb2⟩ := H3.out
      exact wh_end (Q := fun x => WishV v.ep sp x ∧ (x.kd = 5 ↔ n % 12 = 0)) hX hA (by obtain ⟨hm, hx⟩ := hP; subst hx; exact ⟨⟨hm, rfl, .inl rfl, .inl ⟨rfl, rfl⟩⟩, ⟨fun _ => Hk.out.1.1 R0, fun _ => rfl⟩⟩) hD hN hb2 HW.out.2.2.1 HW.out.2.2.2
    by_cases k1 : r = 1
    · skip
      have EC : 31 ≤ 31 + c ∧ 31 + c ≤ 34 := by have := Hk.out.2.1; omega
      have EB : 0 ≤ b ∧ b ≤ 7 := by have := Hk.out.2.2; omega
      have ER : 0 ≤ v.ep ∧ v.ep ≤ 1048576 := by have := Hep.out.1; omega
      have R0 : ¬ r = 0 := by omega
      have e0 : (r == 0) = false := by simp; omega
      have e1 : (r == 1) = true := by simp; omega
      have HC : Hid (Calls Tryz.prog 28 _ _ _) := Lib.hid (rd_x (31 + c) sp v.ep b EC Hep.out.2 ER EB W1)
      rw [← HW.out.1] at HC
      clear ER EB EC
      go_enter Tryz.func21, Tryz.ntmps21
      go_wp2_with (first | (go_at_call 24; (first | (with_reducible refine (B1.out _).mono ?_) | (with_reducible refine (B2.out _).mono ?_) | (with_reducible refine (B3.out _).mono ?_) | (with_reducible refine (B4.out _).mono ?_)); rintro e w' ⟨rfl, hww⟩; have hww2 := hww.symm; subst hww2; clear hww) | (go_at_call 33; refine (He.out _ ((Below.refl _ _).alloc (Nat.le_refl _) _)).mono ?_; rintro e w' ⟨rfl, hww⟩; have hww2 := hww.symm; subst hww2; clear hww))
      refine HC.out.mono ?_
      rintro e w2 ⟨X, x, D, nd, cd, N, nn, cn, rfl, hX, hA, hP, hD, hN, hb2⟩
      rw [HW.out.1] at hD hN hb2
      have H2 := Lib.hid (wh_facts (X := X) HW.out.2.1 (by rw [hX]; rfl) (by rw [hX]; simp [Value.oneCell']) hb2)
      have H3 := Lib.hid (And.intro hX (And.intro hA (And.intro hP (And.intro hD (And.intro hN hb2)))))
      clear hX hA hP hD hN hb2
      go_wp2_with (refine wpList_store_mid rfl 45 _ _ rfl w.heap.size 0 X.toArray rfl rfl H2.out.1 H2.out.2.1 H2.out.2.2.1 ?_; simp only [Act.put])
      refine bodyPost_ret (res_w rfl H2.out.2.2.2.1 H2.out.2.2.2.2 rfl) rfl ?_
      obtain ⟨hX, hA, hP, hD, hN, hb2⟩ := H3.out
      exact wh_end (Q := fun x => WishV v.ep sp x ∧ (x.kd = 5 ↔ n % 12 = 0)) hX hA (by obtain ⟨hm, hx⟩ := hP; subst hx; exact ⟨⟨hm, rfl, .inl rfl, .inr (.inl ⟨rfl, rfl⟩)⟩, ⟨fun e => by simp at e, fun e => absurd (Hk.out.1.2 e) R0⟩⟩) hD hN hb2 HW.out.2.2.1 HW.out.2.2.2
    by_cases k2 : r = 2
    · skip
      have EC : 31 ≤ 31 + c ∧ 31 + c ≤ 34 := by have := Hk.out.2.1; omega
      have EB : 0 ≤ b ∧ b ≤ 7 := by have := Hk.out.2.2; omega
      have ER : 0 ≤ v.ep ∧ v.ep ≤ 1048576 := by have := Hep.out.1; omega
      have R0 : ¬ r = 0 := by omega
      have e0 : (r == 0) = false := by simp; omega
      have e1 : (r == 1) = false := by simp; omega
      have e2 : (r == 2) = true := by simp; omega
      have HC : Hid (Calls Tryz.prog 28 _ _ _) := Lib.hid (rd_x (31 + c) sp v.ep b EC Hep.out.2 ER EB W1)
      rw [← HW.out.1] at HC
      clear ER EB EC
      go_enter Tryz.func21, Tryz.ntmps21
      go_wp2_with (first | (go_at_call 24; (first | (with_reducible refine (B1.out _).mono ?_) | (with_reducible refine (B2.out _).mono ?_) | (with_reducible refine (B3.out _).mono ?_) | (with_reducible refine (B4.out _).mono ?_)); rintro e w' ⟨rfl, hww⟩; have hww2 := hww.symm; subst hww2; clear hww) | (go_at_call 33; refine (He.out _ ((Below.refl _ _).alloc (Nat.le_refl _) _)).mono ?_; rintro e w' ⟨rfl, hww⟩; have hww2 := hww.symm; subst hww2; clear hww))
      refine HC.out.mono ?_
      rintro e w2 ⟨X, x, D, nd, cd, N, nn, cn, rfl, hX, hA, hP, hD, hN, hb2⟩
      rw [HW.out.1] at hD hN hb2
      have H2 := Lib.hid (wh_facts (X := X) HW.out.2.1 (by rw [hX]; rfl) (by rw [hX]; simp [Value.oneCell']) hb2)
      have H3 := Lib.hid (And.intro hX (And.intro hA (And.intro hP (And.intro hD (And.intro hN hb2)))))
      clear hX hA hP hD hN hb2
      go_wp2_with (refine wpList_store_mid rfl 45 _ _ rfl w.heap.size 0 X.toArray rfl rfl H2.out.1 H2.out.2.1 H2.out.2.2.1 ?_; simp only [Act.put])
      refine bodyPost_ret (res_w rfl H2.out.2.2.2.1 H2.out.2.2.2.2 rfl) rfl ?_
      obtain ⟨hX, hA, hP, hD, hN, hb2⟩ := H3.out
      exact wh_end (Q := fun x => WishV v.ep sp x ∧ (x.kd = 5 ↔ n % 12 = 0)) hX hA (by obtain ⟨hm, hx⟩ := hP; subst hx; exact ⟨⟨hm, rfl, .inl rfl, .inr (.inl ⟨rfl, rfl⟩)⟩, ⟨fun e => by simp at e, fun e => absurd (Hk.out.1.2 e) R0⟩⟩) hD hN hb2 HW.out.2.2.1 HW.out.2.2.2
    by_cases k3 : r = 3
    · skip
      have EC : 31 ≤ 31 + c ∧ 31 + c ≤ 34 := by have := Hk.out.2.1; omega
      have EB : 0 ≤ b ∧ b ≤ 7 := by have := Hk.out.2.2; omega
      have ER : 0 ≤ v.ep ∧ v.ep ≤ 1048576 := by have := Hep.out.1; omega
      have R0 : ¬ r = 0 := by omega
      have e0 : (r == 0) = false := by simp; omega
      have e1 : (r == 1) = false := by simp; omega
      have e2 : (r == 2) = false := by simp; omega
      have e3 : (r == 3) = true := by simp; omega
      have HC : Hid (Calls Tryz.prog 28 _ _ _) := Lib.hid (rd_x (31 + c) sp v.ep b EC Hep.out.2 ER EB W1)
      rw [← HW.out.1] at HC
      clear ER EB EC
      go_enter Tryz.func21, Tryz.ntmps21
      go_wp2_with (first | (go_at_call 24; (first | (with_reducible refine (B1.out _).mono ?_) | (with_reducible refine (B2.out _).mono ?_) | (with_reducible refine (B3.out _).mono ?_) | (with_reducible refine (B4.out _).mono ?_)); rintro e w' ⟨rfl, hww⟩; have hww2 := hww.symm; subst hww2; clear hww) | (go_at_call 33; refine (He.out _ ((Below.refl _ _).alloc (Nat.le_refl _) _)).mono ?_; rintro e w' ⟨rfl, hww⟩; have hww2 := hww.symm; subst hww2; clear hww))
      refine HC.out.mono ?_
      rintro e w2 ⟨X, x, D, nd, cd, N, nn, cn, rfl, hX, hA, hP, hD, hN, hb2⟩
      rw [HW.out.1] at hD hN hb2
      have H2 := Lib.hid (wh_facts (X := X) HW.out.2.1 (by rw [hX]; rfl) (by rw [hX]; simp [Value.oneCell']) hb2)
      have H3 := Lib.hid (And.intro hX (And.intro hA (And.intro hP (And.intro hD (And.intro hN hb2)))))
      clear hX hA hP hD hN hb2
      go_wp2_with (refine wpList_store_mid rfl 45 _ _ rfl w.heap.size 0 X.toArray rfl rfl H2.out.1 H2.out.2.1 H2.out.2.2.1 ?_; simp only [Act.put])
      refine bodyPost_ret (res_w rfl H2.out.2.2.2.1 H2.out.2.2.2.2 rfl) rfl ?_
      obtain ⟨hX, hA, hP, hD, hN, hb2⟩ := H3.out
      exact wh_end (Q := fun x => WishV v.ep sp x ∧ (x.kd = 5 ↔ n % 12 = 0)) hX hA (by obtain ⟨hm, hx⟩ := hP; subst hx; exact ⟨⟨hm, rfl, .inl rfl, .inr (.inl ⟨rfl, rfl⟩)⟩, ⟨fun e => by simp at e, fun e => absurd (Hk.out.1.2 e) R0⟩⟩) hD hN hb2 HW.out.2.2.1 HW.out.2.2.2
    by_cases k4 : r = 4
    · skip
      have EC : 31 ≤ 31 + c ∧ 31 + c ≤ 34 := by have := Hk.out.2.1; omega
      have EB : 0 ≤ b ∧ b ≤ 7 := by have := Hk.out.2.2; omega
      have ER : 0 ≤ v.ep ∧ v.ep ≤ 1048576 := by have := Hep.out.1; omega
      have R0 : ¬ r = 0 := by omega
      have e0 : (r == 0) = false := by simp; omega
      have e1 : (r == 1) = false := by simp; omega
      have e2 : (r == 2) = false := by simp; omega
      have e3 : (r == 3) = false := by simp; omega
      have e4 : (r == 4) = true := by simp; omega
      have HC : Hid (Calls Tryz.prog 28 _ _ _) := Lib.hid (rd_x (31 + c) sp v.ep b EC Hep.out.2 ER EB W1)
      rw [← HW.out.1] at HC
      clear ER EB EC
      go_enter Tryz.func21, Tryz.ntmps21
      go_wp2_with (first | (go_at_call 24; (first | (with_reducible refine (B1.out _).mono ?_) | (with_reducible refine (B2.out _).mono ?_) | (with_reducible refine (B3.out _).mono ?_) | (with_reducible refine (B4.out _).mono ?_)); rintro e w' ⟨rfl, hww⟩; have hww2 := hww.symm; subst hww2; clear hww) | (go_at_call 33; refine (He.out _ ((Below.refl _ _).alloc (Nat.le_refl _) _)).mono ?_; rintro e w' ⟨rfl, hww⟩; have hww2 := hww.symm; subst hww2; clear hww))
      refine HC.out.mono ?_
      rintro e w2 ⟨X, x, D, nd, cd, N, nn, cn, rfl, hX, hA, hP, hD, hN, hb2⟩
      rw [HW.out.1] at hD hN hb2
      have H2 := Lib.hid (wh_facts (X := X) HW.out.2.1 (by rw [hX]; rfl) (by rw [hX]; simp [Value.oneCell']) hb2)
      have H3 := Lib.hid (And.intro hX (And.intro hA (And.intro hP (And.intro hD (And.intro hN hb2)))))
      clear hX hA hP hD hN hb2
      go_wp2_with (refine wpList_store_mid rfl 45 _ _ rfl w.heap.size 0 X.toArray rfl rfl H2.out.1 H2.out.2.1 H2.out.2.2.1 ?_; simp only [Act.put])
      refine bodyPost_ret (res_w rfl H2.out.2.2.2.1 H2.out.2.2.2.2 rfl) rfl ?_
      obtain ⟨hX, hA, hP, hD, hN, hb2⟩ := H3.out
      exact wh_end (Q := fun x => WishV v.ep sp x ∧ (x.kd = 5 ↔ n % 12 = 0)) hX hA (by obtain ⟨hm, hx⟩ := hP; subst hx; exact ⟨⟨hm, rfl, .inl rfl, .inr (.inl ⟨rfl, rfl⟩)⟩, ⟨fun e => by simp at e, fun e => absurd (Hk.out.1.2 e) R0⟩⟩) hD hN hb2 HW.out.2.2.1 HW.out.2.2.2
    have EC : 31 ≤ 31 + c ∧ 31 + c ≤ 34 := by have := Hk.out.2.1; omega
    have EB : 0 ≤ b ∧ b ≤ 7 := by have := Hk.out.2.2; omega
    have ER : 0 ≤ v.ep ∧ v.ep ≤ 1048576 := by have := Hep.out.1; omega
    have R0 : ¬ r = 0 := k0
    have e0 : (r == 0) = false := by simp; omega
    have e1 : (r == 1) = false := by simp; omega
    have e2 : (r == 2) = false := by simp; omega
    have e3 : (r == 3) = false := by simp; omega
    have e4 : (r == 4) = false := by simp; omega
    have HC : Hid (Calls Tryz.prog 39 _ _ _) := Lib.hid (wr_x (31 + c) sp v.ep b d EC Hep.out.2 ER EB W1)
    rw [← HW.out.1] at HC
    clear ER EB EC
    go_enter Tryz.func21, Tryz.ntmps21
    go_wp2_with (first | (go_at_call 24; (first | (with_reducible refine (B1.out _).mono ?_) | (with_reducible refine (B2.out _).mono ?_) | (with_reducible refine (B3.out _).mono ?_) | (with_reducible refine (B4.out _).mono ?_)); rintro e w' ⟨rfl, hww⟩; have hww2 := hww.symm; subst hww2; clear hww) | (go_at_call 33; refine (He.out _ ((Below.refl _ _).alloc (Nat.le_refl _) _)).mono ?_; rintro e w' ⟨rfl, hww⟩; have hww2 := hww.symm; subst hww2; clear hww))
    refine HC.out.mono ?_
    rintro e w2 ⟨X, x, D, nd, cd, N, nn, cn, rfl, hX, hA, hP, hD, hN, hb2⟩
    rw [HW.out.1] at hD hN hb2
    have H2 := Lib.hid (wh_facts (X := X) HW.out.2.1 (by rw [hX]; rfl) (by rw [hX]; simp [Value.oneCell']) hb2)
    have H3 := Lib.hid (And.intro hX (And.intro hA (And.intro hP (And.intro hD (And.intro hN hb2)))))
    clear hX hA hP hD hN hb2
    go_wp2_with (refine wpList_store_mid rfl 45 _ _ rfl w.heap.size 0 X.toArray rfl rfl H2.out.1 H2.out.2.1 H2.out.2.2.1 ?_; simp only [Act.put])
    refine bodyPost_ret (res_w rfl H2.out.2.2.2.1 H2.out.2.2.2.2 rfl) rfl ?_
    obtain ⟨hX, hA, hP, hD, hN, hb2⟩ := H3.out
    exact wh_end (Q := fun x => WishV v.ep sp x ∧ (x.kd = 5 ↔ n % 12 = 0)) hX hA (by obtain ⟨hm, hx⟩ := hP; subst hx; exact ⟨⟨hm, rfl, .inl rfl, .inr (.inr ⟨rfl, rfl, _, rfl⟩)⟩, ⟨fun e => by simp at e, fun e => absurd (Hk.out.1.2 e) R0⟩⟩) hD hN hb2 HW.out.2.2.1 HW.out.2.2.2
end
end Go.Proofs.YtfaeechidjpjbaaGreat

namespace Go.Proofs.YtfaeechidjpjbaaGreat
open Go.RowKit Go.Maps
set_option linter.unusedVariables false
set_option linter.unusedSimpArgs false
set_option maxRecDepth 100000 in
set_option maxHeartbeats 1600000 in
theorem same_ans {w : World} {er ep : Int} {A A' : Option Addr} {n c c' : Nat} {l : List UInt8} (hA : Bs w A l) (hA' : Bs w A' l) (hn : l.length = n) (hl : n ≤ 16) :
    Calls Tryz.prog 30 #[.agg #[.int .i64 er, .slice A n c, .int .i64 ep, .slice none 0 0], .agg #[.int .i64 er, .slice A' n c', .int .i64 ep, .slice none 0 0]] w fun e w' => e = .returned (.bool true) ∧ Below w.heap.size w w' := by
  have HE : Hid (∀ W, Below w.heap.size w W → Calls Tryz.prog 16 #[.slice A n c, .slice A' n c'] W fun e w' => e = .returned (.bool true) ∧ Below W.heap.size W w') := Lib.hid fun W hb => by
    have := eqBytes A A' c c' n n l l W (hA.on hb) (hA'.on hb) hn hn (by unfold maxLen; omega) (by unfold maxLen; omega)
    rwa [show (l == l) = true from beq_self_eq_true l] at this
  have HI : Hid (∀ W, Calls Tryz.prog 36 #[.slice none 0 0, .slice none 0 0] W fun e w' => e = .returned (.bool true) ∧ Below W.heap.size W w') := Lib.hid fun W => (eqInts_same none none 0 0 0 [] W (none_arg W) (none_arg W)).mono fun e w' h => ⟨h.1, by first | exact h.2 | (obtain ⟨q, hq⟩ := h.2; rw [hq]; exact below_drewN (Below.refl _ _) _)⟩
  obtain ⟨w1, hw1⟩ : ∃ w1, (w.alloc (.cells #[.int .i64 er, .slice A n c, .int .i64 ep, .slice none 0 0] 48)).alloc (.cells #[.int .i64 er, .slice A' n c', .int .i64 ep, .slice none 0 0] 48) = w1 := ⟨_, rfl⟩
  have hb : Below w.heap.size w w1 := by rw [← hw1]; exact ((Below.refl _ _).alloc (Nat.le_refl _) _).alloc (by simp) _
  have hB1 : Blk w1 w.heap.size 48 [.int .i64 er, .slice A n c, .int .i64 ep, .slice none 0 0] := by rw [← hw1]; exact (Blk.new rfl rfl).old _
  have hB2 : Blk w1 (w.heap.size + 1) 48 [.int .i64 er, .slice A' n c', .int .i64 ep, .slice none 0 0] := by rw [← hw1]; exact Blk.new rfl (by simp)
  have H := Lib.hid (And.intro hb (And.intro hB1 (And.intro hB2 hw1)))
  clear hA hA' hn hl hb hB1 hB2 hw1
  go_enter Tryz.func30, Tryz.ntmps30
  go_wp2_with (first
    | (go_at_call 16; rw [H.out.2.2.2]; refine (HE.out _ H.out.1).mono ?_; rintro e w2 ⟨rfl, hb2⟩; have k0 := (H.out.2.1.below hb2 H.out.2.1.lt).cell (i := 2) rfl; have k1 := (H.out.2.2.1.below hb2 H.out.2.2.1.lt).cell (i := 2) rfl; have k2 := (H.out.2.1.below hb2 H.out.2.1.lt).cell (i := 3) rfl; have k3 := (H.out.2.2.1.below hb2 H.out.2.2.1.lt).cell (i := 3) rfl; have H2 := Lib.hid hb2; clear hb2)
    | (go_at_call 36; refine (HI.out _).mono ?_; rintro e w3 ⟨rfl, hb3⟩; have H3 := Lib.hid hb3; clear hb3))
  go_ret
  exact ⟨rfl, (H.out.1.trans (H2.out.mono H.out.1.size)).trans (H3.out.mono (H.out.1.trans (H2.out.mono H.out.1.size)).size)⟩
end Go.Proofs.YtfaeechidjpjbaaGreat

namespace Go.Proofs.YtfaeechidjpjbaaGreat
open Go.RowKit Go.Maps
set_option linter.unusedVariables false
set_option linter.unusedSimpArgs false
/-- The vault behind a call that did something. -/
def DoneV (w : World) (U : Nat → Prop) (g : Nat) (bk : Value) (v : Va) (w' : World) : Prop :=
  ∃ U' cs, VaIn w' U' g bk v cs ∧ (∀ i, U i → U' i) ∧ (∀ i, U' i → U i ∨ w.heap.size ≤ i) ∧ Out (fun i => i = g) w w'
section
variable {w : World} {U : Nat → Prop} {g : Nat} {bk : Value} {v : Va} {cs : List Value}
set_option maxRecDepth 100000 in
set_option maxHeartbeats 1600000 in
theorem does_in (h : VaIn w U g bk v cs) {x : Wl} {Dx : Option Addr} {ndx cdx : Nat} {Nx : Option Addr} {nnx cnx : Nat} (hx : ArgW w x Dx ndx cdx Nx nnx cnx) (hm : May x) (hgr : x.gr = v.gr) {er ep : Int} {A : Option Addr} {n c : Nat} {l : List UInt8} (ha : (doS v x).2 = ⟨er, l, ep⟩) (hA : Bs w A l) (hn : l.length = n) (hl : n ≤ 16) (hAg : ∀ b, inA A b → b ≠ g) :
    Calls Tryz.prog 34 #[.pointer (some ⟨g, 0, none⟩), .agg #[.int .i64 x.cl, .int .i64 x.sp, .int .i64 x.gr, .int .i64 x.ep, .int .i64 x.kd, .int .i64 x.bl, .slice Dx ndx cdx, .int .i64 x.od, .int .i64 x.nw, .slice Nx nnx cnx], .agg #[.int .i64 er, .slice A n c, .int .i64 ep, .slice none 0 0]] w fun e w' => e = .returned (.bool true) ∧ DoneV w U g bk (doS v x).1 w' := by
  obtain ⟨w1, hw1⟩ : ∃ w1, (w.alloc (.cells #[.int .i64 x.cl, .int .i64 x.sp, .int .i64 x.gr, .int .i64 x.ep, .int .i64 x.kd, .int .i64 x.bl, .slice Dx ndx cdx, .int .i64 x.od, .int .i64 x.nw, .slice Nx nnx cnx] 45)).alloc (.cells #[.int .i64 er, .slice A n c, .int .i64 ep, .slice none 0 0] 48) = w1 := ⟨_, rfl⟩
  have hb : Below w.heap.size w w1 := by rw [← hw1]; exact ((Below.refl _ _).alloc (Nat.le_refl _) _).alloc (by simp) _
  have hz1 : w1.heap.size = w.heap.size + 2 := by rw [← hw1]; simp
  have hB2 : Blk w1 (w.heap.size + 1) 48 [.int .i64 er, .slice A n c, .int .i64 ep, .slice none 0 0] := by rw [← hw1]; exact Blk.new rfl (by simp)
  have hd := Lib.hid (do_in (h.below hb) (hx.after hb) hm hgr)
  rw [ha] at hd
  have hgl := h.lt g h.u
  have H := Lib.hid (And.intro hb (And.intro hB2 (And.intro (hA.on hb) (And.intro hn (And.intro hl (And.intro hAg (And.intro hgl hz1)))))))
  rw [← hw1] at hd
  have Hw := Lib.hid hw1
  clear h hx hm hgr ha hA hn hl hAg hw1 hb hB2 hgl hz1
  go_enter Tryz.func34, Tryz.ntmps34
  go_wp2_with fail
  refine hd.out.mono ?_
  rintro e w2 ⟨u, rfl, d, U', cs', rfl, hM, hown, hV, hU1, hU2, ho⟩
  simp only at hM ⊢
  rw [Hw.out] at ho hM hU2
  obtain ⟨A2, c2, rfl, hl2, hc2, hB⟩ := Mine.form hM
  rw [H.out.2.2.2.1] at hl2 ⊢
  have hAn := ho.blk H.out.2.1 (by have := H.out.2.2.2.2.2.2.1; omega)
  have hA2 := bs_out H.out.2.2.1 ho (fun b hb e => H.out.2.2.2.2.2.1 b hb e)
  have H2 := Lib.hid (And.intro hB (And.intro hAn (And.intro hA2 (And.intro hV (And.intro hU1 (And.intro hU2 ho))))))
  clear hM hown hV hU1 hU2 ho hB hAn hA2 hl2 hc2
  have hAo : Blk (w2.alloc (.cells #[.int .i64 er, .slice A2 n c2, .int .i64 ep, .slice none 0 0] 48)) (w.heap.size + 1) 48 [.int .i64 er, .slice A n c, .int .i64 ep, .slice none 0 0] := H2.out.2.1.old _
  have k0 := hAo.cell (i := 0) rfl
  have k1 := hAo.cell (i := 1) rfl
  have k2 := hAo.cell (i := 2) rfl
  have k3 := hAo.cell (i := 3) rfl
  have hbz : Below w2.heap.size w2 (w2.alloc (.cells #[.int .i64 er, .slice A2 n c2, .int .i64 ep, .slice none 0 0] 48)) := (Below.refl _ _).alloc (Nat.le_refl _) _
  have HS := Lib.hid (same_ans (er := er) (ep := ep) (n := n) (c := c2) (c' := c) (H2.out.1.on hbz) (H2.out.2.2.1.on hbz) H.out.2.2.2.1 H.out.2.2.2.2.1)
  have Hz := Lib.hid hbz
  clear hAo hbz
  go_wp2_with fail
  refine HS.out.mono ?_
  rintro e w3 ⟨rfl, hb3⟩
  have H3 := Lib.hid hb3
  clear k0 k1 k2 k3 hb3
  go_wp2
  go_ret
  obtain ⟨_, _, _, hV, hU1, hU2, ho⟩ := H2.out
  have hbb := Hz.out.trans (H3.out.mono Hz.out.size)
  exact ⟨rfl, U', cs', hV.below hbb, hU1, fun i hi => (hU2 i hi).imp id fun e => by have := H.out.1.size; omega, ((Out.ofBelow (fun i => i = g) H.out.1).trans ho (fun _ _ e => e)).then_below hbb⟩
end
end Go.Proofs.YtfaeechidjpjbaaGreat

namespace Go.Proofs.YtfaeechidjpjbaaGreat
open Go.RowKit Go.Maps
set_option linter.unusedVariables false
set_option linter.unusedSimpArgs false
theorem kb_new {w w1 : World} {S : Nat → Prop} {g m : Nat} (hS : ∀ i, S i → w.heap.size ≤ i) (h : BookM w1 S g m [] false 0) : Kb w.heap.size w1 g m ([], false, 0) (fun _ => False) :=
  ⟨_, BookS.cells (s := ([], false, 0)) h, fun i hi => ⟨hS i hi.1, hi.2⟩, fun i hi => hi.elim⟩
def L7 : List UInt8 := List.replicate 16 7
/-- A vault, and an answer in a variable. -/
structure Wk (w0 : World) (g zb : Nat) (bk : Value) (A : Option Addr) (c : Nat) (SV : List Value) (v : Va) (w : World) : Prop where
  va : ∃ U cs, VaIn w U g bk v cs ∧ ∀ i, U i → w0.heap.size ≤ i
  bel : Below w0.heap.size w0 w
  blk : Blk w zb 48 SV
  sv : SV = [.int .i64 0, .slice A 16 c, .int .i64 0, .slice none 0 0]
  bs : Bs w A L7
  nz : zb ≠ g
  na : ∀ b, inA A b → b ≠ g
section
variable {w0 w w' : World} {g zb : Nat} {bk : Value} {A : Option Addr} {c : Nat} {SV : List Value} {v : Va}
theorem Wk.below (h : Wk w0 g zb bk A c SV v w) (hb : Below w.heap.size w w') : Wk w0 g zb bk A c SV v w' :=
  ⟨let ⟨U, cs, h1, h2⟩ := h.va; ⟨U, cs, h1.below hb, h2⟩, h.bel.trans (hb.mono h.bel.size), h.blk.below hb h.blk.lt, h.sv, h.bs.on hb, h.nz, h.na⟩
theorem Wk.held (h : Wk w0 g zb bk A c SV v w) : w.rangeAt zb 0 SV := fun j u hu => by rw [Nat.zero_add]; exact h.blk.cell hu
theorem Wk.gone (h : Wk w0 g zb bk A c SV v w) {U : Nat → Prop} {cs : List Value} {v' : Va} (hU : ∀ i, U i → w0.heap.size ≤ i) (hg : U g) (hd : DoneV w U g bk v' w') : Wk w0 g zb bk A c SV v' w' := by
  obtain ⟨U', cs', h1, h2, h3, h4⟩ := hd
  refine ⟨⟨U', cs', h1, fun i hi => ?_⟩, h.bel.trans (h4.above (fun i hi => by subst hi; exact hU _ hg) h.bel.size), h4.blk h.blk h.nz, h.sv, bs_out h.bs h4 h.na, h.nz, h.na⟩
  rcases h3 i hi with e | e
  · exact hU i e
  · exact Nat.le_trans h.bel.size e
theorem Wk.does7 (h : Wk w0 g zb bk A c SV v w) {x : Wl} {Dx : Option Addr} {ndx cdx : Nat} {Nx : Option Addr} {nnx cnx : Nat} (hx : ArgW w x Dx ndx cdx Nx nnx cnx) (hm : May x) (hgr : x.gr = v.gr) (ha : (doS v x).2 = ⟨0, L7, 0⟩) :
    Calls Tryz.prog 34 #[.pointer (some ⟨g, 0, none⟩), .agg #[.int .i64 x.cl, .int .i64 x.sp, .int .i64 x.gr, .int .i64 x.ep, .int .i64 x.kd, .int .i64 x.bl, .slice Dx ndx cdx, .int .i64 x.od, .int .i64 x.nw, .slice Nx nnx cnx], .agg SV.toArray] w fun e w' => e = .returned (.bool true) ∧ Wk w0 g zb bk A c SV (doS v x).1 w' := by
  obtain ⟨U, cs, h1, h2⟩ := h.va
  rw [h.sv]
  exact (does_in h1 hx hm hgr ha h.bs (by simp [L7]) (by decide) h.na).mono fun e w' ⟨he, hd⟩ => ⟨he, by have := h.gone (cs := cs) h2 h1.u hd; rw [h.sv] at this; exact this⟩
theorem Wk.does0 (h : Wk w0 g zb bk A c SV v w) {x : Wl} {Dx : Option Addr} {ndx cdx : Nat} {Nx : Option Addr} {nnx cnx : Nat} (hx : ArgW w x Dx ndx cdx Nx nnx cnx) (hm : May x) (hgr : x.gr = v.gr) {er ep : Int} (ha : (doS v x).2 = ⟨er, [], ep⟩) :
    Calls Tryz.prog 34 #[.pointer (some ⟨g, 0, none⟩), .agg #[.int .i64 x.cl, .int .i64 x.sp, .int .i64 x.gr, .int .i64 x.ep, .int .i64 x.kd, .int .i64 x.bl, .slice Dx ndx cdx, .int .i64 x.od, .int .i64 x.nw, .slice Nx nnx cnx], .agg #[.int .i64 er, .slice none 0 0, .int .i64 ep, .slice none 0 0]] w fun e w' => e = .returned (.bool true) ∧ Wk w0 g zb bk A c SV (doS v x).1 w' := by
  obtain ⟨U, cs, h1, h2⟩ := h.va
  exact (does_in h1 hx hm hgr ha (Bs.nil w none) rfl (by decide) (fun b ⟨a, e, _⟩ => by cases e)).mono fun e w' ⟨he, hd⟩ => ⟨he, h.gone (cs := cs) h2 h1.u hd⟩
theorem Wk.turn (h : Wk w0 g zb bk A c SV v w) : Calls Tryz.prog 25 #[.pointer (some ⟨g, 0, none⟩)] w fun e w' => e = .returned (.int .i64 (turnE v)) ∧ Wk w0 g zb bk A c SV (turnS v) w' := by
  obtain ⟨U, cs, h1, h2⟩ := h.va
  exact (turn_in h1).mono fun e w' ⟨he, ⟨cs', hv⟩, ho⟩ => ⟨he, h.gone (cs := cs) h2 h1.u ⟨U, cs', hv, fun _ e => e, fun _ e => .inl e, ho⟩⟩
end
/-- A wish by its name. -/
def Zl (x : Wl) (W : World) (v : Value) (w' : World) : Prop :=
  ∃ (D : Option Addr) (nd cd : Nat) (N : Option Addr) (nn cn : Nat), v = .agg #[.int .i64 x.cl, .int .i64 x.sp, .int .i64 x.gr, .int .i64 x.ep, .int .i64 x.kd, .int .i64 x.bl, .slice D nd cd, .int .i64 x.od, .int .i64 x.nw, .slice N nn cn] ∧ ArgW w' x D nd cd N nn cn ∧ Below W.heap.size W w'
theorem WishR.zl {W w' : World} {e : Ending} {y : Wl} (h : WishR (fun x => May x ∧ x = y) W e w') : ∃ v, e = .returned v ∧ Zl y W v w' := by
  obtain ⟨X, x, D, nd, cd, N, nn, cn, he, rfl, h1, ⟨_, rfl⟩, h3, h4, h5⟩ := h
  exact ⟨_, he, D, nd, cd, N, nn, cn, rfl, h1, h5⟩
def wx1 : Wl := ⟨31, 1, 1, 0, 2, 3, List.replicate 16 7, 0, 0, []⟩
def wx2 : Wl := ⟨32, 5, 1, 0, 1, 3, [], 0, 0, []⟩
def wx3 : Wl := ⟨32, 5, 1, 0, 1, 0, [], 0, 0, []⟩
def wx4 : Wl := ⟨32, 4, 1, 0, 1, 3, [], 0, 0, []⟩
def wx5 : Wl := ⟨31, 2, 1, 1, 1, 3, [], 0, 0, []⟩
def wx6 : Wl := ⟨0, 0, 1, 0, 5, 0, [], 0, 0, [1, 2, 3, 4]⟩
def wx7 : Wl := ⟨31, 2, 1, 0, 1, 3, [], 0, 0, []⟩
theorem mx1 : May wx1 := by decide
theorem mx2 : May wx2 := by decide
theorem mx3 : May wx3 := by decide
theorem mx4 : May wx4 := by decide
theorem mx5 : May wx5 := by decide
theorem mx6 : May wx6 := by decide
theorem mx7 : May wx7 := by decide
def vw0 : Va := newV 1
def vw1 : Va := (doS vw0 wx1).1
def vw2 : Va := (doS vw1 wx2).1
def vw3 : Va := (doS vw2 wx3).1
def vw4 : Va := (doS vw3 wx4).1
def vw5 : Va := (doS vw4 wx5).1
def vw6 : Va := (doS vw5 wx6).1
def vw7 : Va := (doS vw6 wx7).1
def vw8 : Va := turnS vw7
def vw9 : Va := (doS vw8 wx5).1
set_option maxRecDepth 100000
theorem ax1 : (doS vw0 wx1).2 = ⟨0, [], 0⟩ := by kernel_rfl
theorem ax2 : (doS vw1 wx2).2 = ⟨0, L7, 0⟩ := by kernel_rfl
theorem ax3 : (doS vw2 wx3).2 = ⟨0, L7, 0⟩ := by kernel_rfl
theorem ax4 : (doS vw3 wx4).2 = ⟨172, [], 0⟩ := by kernel_rfl
theorem ax5 : (doS vw4 wx5).2 = ⟨171, [], 0⟩ := by kernel_rfl
theorem ax6 : (doS vw5 wx6).2 = ⟨0, [], 0⟩ := by kernel_rfl
theorem ax7 : (doS vw6 wx7).2 = ⟨171, [], 1⟩ := by kernel_rfl
theorem ax8 : turnE vw7 = 0 := by kernel_rfl
theorem ax9 : (doS vw8 wx5).2 = ⟨0, L7, 0⟩ := by kernel_rfl
theorem gx : vw0.gr = 1 ∧ vw1.gr = 1 ∧ vw2.gr = 1 ∧ vw3.gr = 1 ∧ vw4.gr = 1 ∧ vw5.gr = 1 ∧ vw6.gr = 1 ∧ vw7.gr = 1 ∧ vw8.gr = 1 ∧ vw9.gr = 1 ∧ vw9.ep = 1 := ⟨by kernel_rfl, by kernel_rfl, by kernel_rfl, by kernel_rfl, by kernel_rfl, by kernel_rfl, by kernel_rfl, by kernel_rfl, by kernel_rfl, by kernel_rfl, by kernel_rfl⟩
theorem cx1 (w : World) : Calls Tryz.prog 39 #[.int .i64 31, .int .i64 1, .int .i64 0, .int .i64 3, .int .u8 7] w fun e w' => ∃ v, e = .returned v ∧ Zl wx1 w v w' :=
  (wr_x 31 1 0 3 7 (by decide) (by decide) (by decide) (by decide) w).mono fun e w' h => h.zl
theorem cxr (cl sp ep bl : Int) (hcl : 31 ≤ cl ∧ cl ≤ 34) (hsp : 1 ≤ sp ∧ sp ≤ 9007199254740991) (hep : 0 ≤ ep ∧ ep ≤ 1048576) (hbl : 0 ≤ bl ∧ bl ≤ 7) (w : World) : Calls Tryz.prog 28 #[.int .i64 cl, .int .i64 sp, .int .i64 ep, .int .i64 bl] w fun e w' => ∃ v, e = .returned v ∧ Zl ⟨cl, sp, 1, ep, 1, bl, [], 0, 0, []⟩ w v w' :=
  (rd_x cl sp ep bl hcl hsp hep hbl w).mono fun e w' h => h.zl
theorem cx6 (w : World) : Calls Tryz.prog 35 #[.int .i64 0] w fun e w' => ∃ v, e = .returned v ∧ Zl wx6 w v w' :=
  (se_x 0 (by decide) w).mono fun e w' h => h.zl
end Go.Proofs.YtfaeechidjpjbaaGreat
