/-
  For all lists l (60 numbers at most are looked at): if the first note is taken again and again, all come in the order in which they were put; BagOrder returns true; no condition.
-/
import Derived.Test.YtlecihbclkohjaaOpen
import Derived.Test.YtlecihbclkohjaaWk13
import Derived.Test.YtlecihbclkohjaaBr13
namespace Go.Proofs.Ytlecihbclkohjaa.bagOrder
open Go.ChangeShapes Go.WideShapes Go.ChangeAt Go.RowKit
set_option linter.unusedVariables false

def ntO (l : List Int) (j : Nat) : En := ⟨1 + (l[j]?.getD 0) % 34, 1, [UInt8.ofNat j]⟩
def ntsO (l : List Int) (k : Nat) : List En := (List.range k).map (ntO l)
theorem ntsO_succ (l : List Int) (k : Nat) : ntsO l (k + 1) = ntsO l k ++ [ntO l k] := by simp [ntsO, List.range_succ]
theorem ntsO_len (l : List Int) (k : Nat) : (ntsO l k).length = k := by simp [ntsO]
theorem ntO_b (l : List Int) (j : Nat) : 1 ≤ (ntO l j).fr ∧ (ntO l j).fr ≤ 34 := by
  have h0 := Int.emod_nonneg (l[j]?.getD 0) (by decide : (34 : Int) ≠ 0)
  have h1 := Int.emod_lt_of_pos (l[j]?.getD 0) (by decide : (0 : Int) < 34)
  show 1 ≤ 1 + _ ∧ 1 + _ ≤ (34 : Int)
  omega
theorem putO (l : List Int) (k : Nat) (hk : k < 60) : putE ⟨ntsO l k, k, 0⟩ (ntO l k) = 0 := by
  have hb := ntO_b l k
  unfold putE nmE
  rw [if_neg (by simp; omega), if_neg (by simp [ntO]), if_neg (by simp [ntO]), if_neg (by show ¬ 4096 ≤ (ntsO l k).length; rw [ntsO_len]; omega)]
theorem putOB (l : List Int) (k : Nat) (hk : k < 60) : putB ⟨ntsO l k, k, 0⟩ (ntO l k) = ⟨ntsO l (k + 1), k + 1, 0⟩ := by
  unfold putB
  rw [if_pos (putO l k hk), ntsO_succ]
  rfl
def bO (l : List Int) (n j : Nat) : Bg := ⟨(ntsO l n).drop j, n, 0⟩
theorem lackO (l : List Int) (n j : Nat) (h : j < n) : lackE (bO l n j) 0 = 0 := by
  unfold lackE
  have e : ((bO l n j).l.length : Int) = (n : Int) - j := by simp only [bO, List.length_drop, ntsO_len]; omega
  rw [if_neg (by decide), if_neg (by omega)]
theorem lookO (l : List Int) (n j : Nat) (h : j < n) : lookB (bO l n j) 0 = ntO l j := by
  unfold lookB
  rw [if_pos (lackO l n j h)]
  show ((ntsO l n).drop j)[0]?.getD zE = _
  rw [List.getElem?_drop, Nat.add_zero]
  simp [ntsO, List.getElem?_range h]
theorem takeO (l : List Int) (n j : Nat) (h : j < n) : takeB (bO l n j) 0 = bO l n (j + 1) := by
  unfold takeB
  rw [if_pos (lackO l n j h)]
  unfold offB bO
  show (⟨((ntsO l n).drop j).eraseIdx 0, n, 0⟩ : Bg) = ⟨(ntsO l n).drop (j + 1), n, 0⟩
  congr 1
  rw [List.eraseIdx_zero, List.tail_drop]
theorem endO (l : List Int) (n : Nat) : bO l n n = ⟨[], n, 0⟩ := by
  unfold bO
  rw [List.drop_of_length_le (by rw [ntsO_len]; exact Nat.le_refl _)]
set_option maxRecDepth 100000 in
set_option maxHeartbeats 3200000 in
theorem walk (Al : Option Addr) (nl cl : Nat) (l : List Int) (w : World) (hl : ArgI w Al nl cl l) :
    Calls Try.prog 5 #[.slice Al nl cl] w fun e w' => e = .returned (.bool true) ∧ Below w.heap.size w w' := by
  have hnot : ∀ (x : Bool) (w : World), (Op.unary .not (.bool x)).run Try.prog w = .ok (.bool (!x)) w := fun _ _ => rfl
  obtain ⟨m, hm⟩ : ∃ m, min nl 60 = m := ⟨_, rfl⟩
  have hmn : m ≤ nl := by omega
  have hm60 : m ≤ 60 := by omega
  have hmin : ∀ ts t w, (Builtin.min_ ts t #[.int .i64 (nl : Int), .int .i64 60]).run Try.prog w = .ok (.int .i64 (m : Int)) w := fun ts t w => by
    rw [run_min_int2]; congr 2; split <;> omega
  have Hl := Lib.hid hl
  clear hl hm
  go_enter Try.func5, Try.ntmps5
  go_wp2_with (go_at_call 34; refine (works_any _).mono ?_; rintro e w1 ⟨rfl, hb1⟩)
  go_wp2_with fail
  refine (k_new (w0 := w) hb1 (fun _ => False) (fun i hi => hi.elim)).mono ?_
  rintro e w2 ⟨g, rfl, hk, -⟩
  have K := Lib.hid hk
  clear hk hb1
  go_wp2
  go_loopw [5] (fun i wr => ∃ k : Nat, k ≤ m ∧ i = .int .i64 k ∧ BK w wr (fun _ => False) g ⟨ntsO l k, k, 0⟩) (fun i _ => m - (intOf i).toNat)
  case atStart => exact ⟨0, by omega, rfl, K.out⟩
  case round =>
    obtain ⟨k, hk, rfl, hB⟩ := hrel
    have k0 : (0 : Int) ≤ k := by omega
    have KB := Lib.hid hB
    clear hB
    by_cases hlt : k < m
    · have k1 : (k : Int) < m := by omega
      have k2 : (k : Int) < nl := by omega
      have hkl : k < l.length := by rw [Hl.out.1]; omega
      obtain ⟨bl, ol, rfl, hbl, hcl⟩ := (Hl.out.after KB.out.bel).2.2.2.1.at_ hkl
      have cl := hcl k hkl
      have hwf := bounds_i64 (Hl.out.2.2.2.2 _ (List.getElem_mem hkl))
      have hx : ntO l k = ⟨1 + l[k] % 34, 1, [UInt8.ofNat k]⟩ := by unfold ntO; rw [List.getElem?_eq_getElem hkl]; rfl
      have HX := Lib.hid hx
      have h0 := Int.emod_nonneg l[k] (by decide : (34 : Int) ≠ 0)
      have h1 := Int.emod_lt_of_pos l[k] (by decide : (0 : Int) < 34)
      clear hcl hbl hx
      generalize l[k] = x at *
      go_wp2_with fail
      refine (bringF_any x 34 wr (by decide) (by decide) hwf.1 hwf.2).mono ?_
      rintro e wr ⟨rfl, rfl⟩
      generalize x % 34 = r at *
      go_wp2_with fail
      clear hnot hmin
      refine (k_note (1 + r) 1 k (by simp [Wf, Lit.wf, IntKind.min, IntKind.max, IntKind.signed, IntKind.bits]; omega) (by decide) (UInt8.ofNat k) (by rw [UInt8.toNat_ofNat', Nat.mod_eq_of_lt (by omega)]) wr).mono ?_
      rintro e w3 ⟨xa, xn, xc, rfl, hby, hb⟩
      have Kn := Lib.hid (And.intro (KB.out.below hb) hby)
      clear hb hby
      go_wp2_with fail
      refine (k_put (E := 0) (b' := ⟨ntsO l (k + 1), k + 1, 0⟩) Kn.out.1 ⟨⟨1 + r, 1, [UInt8.ofNat k]⟩, xa, xn, xc⟩ Kn.out.2 (by show k < _; omega) (by have h := Kn.out.2.1; have e : (1 : Nat) = xn := h; show xn ≤ _; omega) (by rw [← HX.out]; exact putO l k (by omega)) (by rw [← HX.out]; exact putOB l k (by omega))).mono ?_
      rintro e w4 ⟨rfl, hk, -⟩
      have K4 := Lib.hid hk
      clear hk
      go_wp2
      go_roundw
      case rel => exact ⟨k + 1, by omega, by go_num, K4.out⟩
      case measure => simp [intOf]; omega
    · have hke : k = m := by omega
      subst hke
      have k1 : ¬ (k : Int) < k := by omega
      clear K
      go_wp2
      go_loopw [6] (fun i ws => ∃ j : Nat, j ≤ k ∧ i = .int .i64 j ∧ BK w ws (fun _ => False) g (bO l k j)) (fun i _ => k - (intOf i).toNat)
      case atStart => exact ⟨0, by omega, rfl, KB.out⟩
      case round =>
        obtain ⟨j, hj, rfl, hB⟩ := hrel
        have j0 : (0 : Int) ≤ j := by omega
        have KJ := Lib.hid hB
        clear hB
        by_cases hlj : j < k
        · have j1 : (j : Int) < k := by omega
          have j2 : (j : Int) < nl := by omega
          have hjl : j < l.length := by rw [Hl.out.1]; omega
          have hx : ntO l j = ⟨1 + l[j] % 34, 1, [UInt8.ofNat j]⟩ := by unfold ntO; rw [List.getElem?_eq_getElem hjl]; rfl
          obtain ⟨z, hz⟩ : ∃ z, ntO l j = z := ⟨_, rfl⟩
          rw [hz] at hx
          have HX := Lib.hid hx
          have Hz := Lib.hid hz
          clear hx hz
          go_wp2_with fail
          refine (k_take KJ.out 0 z (E := 0) (b' := bO l k (j + 1)) (lackO l k j hlj) (by rw [← Hz.out]; exact lookO l k j hlj) (takeO l k j hlj)).mono ?_
          rintro e w4 ⟨xa, xn, xc, M, rfl, hk, hby, -, -⟩
          obtain ⟨w5, hw5⟩ : ∃ w5, w4.alloc (.cells #[.int .i64 z.fr, .int .i64 z.to, .slice xa xn xc] 29) = w5 := ⟨_, rfl⟩
          have hbx := box_new hk hby w5 hw5
          obtain ⟨bl, ol, rfl, hbl, hcl⟩ := (Hl.out.after hbx.1.bel).2.2.2.1.at_ hjl
          have cl := hcl j hjl
          have hwf := bounds_i64 (Hl.out.2.2.2.2 _ (List.getElem_mem hjl))
          have h0 := Int.emod_nonneg l[j] (by decide : (34 : Int) ≠ 0)
          have h1 := Int.emod_lt_of_pos l[j] (by decide : (0 : Int) < 34)
          have d0 : w5.drew.cell? ⟨w4.heap.size, 0, none⟩ = some (.int .i64 z.fr) := hbx.2.2.1.cell rfl
          have d1 : w5.drew.cell? ⟨w4.heap.size, 1, none⟩ = some (.int .i64 z.to) := hbx.2.2.1.cell rfl
          have d2 : w5.drew.cell? ⟨w4.heap.size, 2, none⟩ = some (.slice xa xn xc) := hbx.2.2.1.cell rfl
          have d3 : w5.drew.cell? ⟨bl, ol + j, none⟩ = some (.int .i64 l[j]) := cl
          have HS := Lib.hid (And.intro hbx.1 (And.intro hbx.2.1 (And.intro hbx.2.2.1 hw5)))
          clear hcl hbl hbx hk hby hw5 cl KJ
          obtain ⟨x, hxl⟩ : ∃ x, l[j] = x := ⟨_, rfl⟩
          rw [hxl] at d3 h0 h1 hwf HX
          replace hxl := Lib.hid hxl
          have s1 : w5.drew.cell? ⟨w4.heap.size, 0, none⟩ = some (.int .i64 z.fr) ∧ w5.drew.cell? ⟨w4.heap.size, 1, none⟩ = some (.int .i64 z.to) ∧ w5.drew.cell? ⟨w4.heap.size, 2, none⟩ = some (.slice xa xn xc) ∧ w5.drew.cell? ⟨bl, ol + j, none⟩ = some (.int .i64 x) := ⟨d0, d1, d2, d3⟩
          clear d0 d1 d2 d3
          have hwq : Wf (1 + x % 34) := by simp [Wf, Lit.wf, IntKind.min, IntKind.max, IntKind.signed, IntKind.bits]; omega
          have hz0 := HS.out.2.2.1.lt
          have hwj := Lib.hid (show IntKind.u8.wrap (j : Int) = (j : Int) from u8_small (by omega))
          have hwx := Lib.hid (show IntKind.i64.wrap (1 + x % 34) = 1 + x % 34 from IntWalk.i64_in _ (by omega))
          go_wp2
          refine wp_region_held_drew (S := fun W => W.cell? ⟨w4.heap.size, 0, none⟩ = some (.int .i64 z.fr) ∧ W.cell? ⟨w4.heap.size, 1, none⟩ = some (.int .i64 z.to) ∧ W.cell? ⟨w4.heap.size, 2, none⟩ = some (.slice xa xn xc) ∧ W.cell? ⟨bl, ol + j, none⟩ = some (.int .i64 x)) (by kernel_rfl) (by rw [HS.out.2.2.2]; exact s1) (fun _ => ?_)
          rw [HS.out.2.2.2]
          refine anyH_take (i := 1) (d := 45) (v := ?a1) rfl rfl (by kernel_rfl) (by kernel_rfl) (by kernel_rfl) (fun _ _ _ h => h) (Or.inl ⟨by rfl, ?ay1⟩) s1 ?ar1
          case ay1 => (intro w; go_simp; try with_reducible rfl)
          simp only [List.setIfInBounds_toArray, List.set_cons_zero, List.set_cons_succ]
          refine anyH_take (i := 2) (d := 46) (v := ?a2) rfl rfl (by kernel_rfl) (by kernel_rfl) (by kernel_rfl) (fun _ _ _ h => h) (Or.inl ⟨by rfl, ?ay2⟩) s1 ?ar2
          case ay2 => (intro w; go_simp; try with_reducible rfl)
          simp only [List.setIfInBounds_toArray, List.set_cons_zero, List.set_cons_succ]
          refine anyH_take (i := 3) (d := 47) (v := ?a3) rfl rfl (by kernel_rfl) (by kernel_rfl) (by kernel_rfl) (fun _ _ _ h => h) (Or.inl ⟨by rfl, ?ay3⟩) s1 ?ar3
          case ay3 => (intro w; go_simp; try with_reducible rfl)
          simp only [List.setIfInBounds_toArray, List.set_cons_zero, List.set_cons_succ]
          refine wpAnyH_take' (i := 0) (d := 44) (v := ?a0) rfl rfl (by kernel_rfl) (by kernel_rfl) (by kernel_rfl) (fun _ _ _ h => h) (Or.inl ⟨by rfl, ?ay0⟩) s1 ?ar0
          case ay0 => (intro w hSw; go_split_ands; go_simp; try with_reducible rfl)
          simp only [List.setIfInBounds_toArray, List.set_cons_zero, List.set_cons_succ]
          refine anyH_take (i := 4) (d := 48) (v := ?a4) rfl rfl (by kernel_rfl) (by kernel_rfl) (by kernel_rfl) (fun _ _ _ h => h) (Or.inl ⟨by rfl, ?ay4⟩) s1 ?ar4
          case ay4 => (intro w; go_simp; try with_reducible rfl)
          simp only [List.setIfInBounds_toArray, List.set_cons_zero, List.set_cons_succ]
          refine wpAnyH_take' (i := 5) (d := 49) (v := ?a5) rfl rfl (by kernel_rfl) (by kernel_rfl) (by kernel_rfl) (fun _ _ _ h => h) (Or.inl ⟨by rfl, ?ay5⟩) s1 ?ar5
          case ay5 => (intro w hSw; go_split_ands; go_simp; try with_reducible rfl)
          simp only [List.setIfInBounds_toArray, List.set_cons_zero, List.set_cons_succ]
          refine anyH_take (i := 8) (d := 52) (v := ?a8) rfl rfl (by kernel_rfl) (by kernel_rfl) (by kernel_rfl) (fun _ _ _ h => h) (Or.inl ⟨by rfl, ?ay8⟩) s1 ?ar8
          case ay8 => (intro w; go_simp; try with_reducible rfl)
          simp only [List.setIfInBounds_toArray, List.set_cons_zero, List.set_cons_succ]
          refine anyH_take (i := 9) (d := 53) (v := .int .u8 (j : Int)) rfl rfl (by kernel_rfl) (by kernel_rfl) (by kernel_rfl) (fun _ _ _ h => h) (Or.inl ⟨by rfl, ?ay9⟩) s1 ?ar9
          case ay9 => (intro w; have hq := hwj.out; go_simp; try with_reducible rfl)
          simp only [List.setIfInBounds_toArray, List.set_cons_zero, List.set_cons_succ]
          refine anyH_one (i := 6) (by kernel_rfl) ?_
          refine wpOp_step rfl (fun K hK => ?_)
          go_simp
          refine (bringF_any x 34 w5.drew (by decide) (by decide) hwf.1 hwf.2).mono ?_
          rintro e w6 ⟨rfl, rfl⟩
          refine hK _ _ ⟨s1, ?_⟩
          clear hK K
          refine anyH_take (i := 7) (d := 51) (v := .int .i64 (1 + x % 34)) rfl rfl (by kernel_rfl) (by kernel_rfl) (by kernel_rfl) (fun _ _ _ h => h) (Or.inl ⟨by rfl, ?by7⟩) s1 ?br7
          case by7 => (intro w; have hq := hwx.out; go_simp; try with_reducible rfl)
          simp only [List.setIfInBounds_toArray, List.set_cons_zero, List.set_cons_succ]
          refine anyH_one (i := 10) (by kernel_rfl) ?_
          refine wpOp_step rfl (fun K hK => ?_)
          go_simp
          have hbyd := HS.out.2.1.below (w' := w5.drew) ((Below.refl _ _).drew) (fun i hi => HS.out.1.2.2 i (.inr hi)) (Nat.le_refl _)
          refine (is_at _ hbyd 0 (1 + x % 34) 1 j hwq (by decide) (UInt8.ofNat j) (by rw [UInt8.toNat_ofNat', Nat.mod_eq_of_lt (by omega)]) true (by dsimp only; rw [HX.out]; simp)).mono ?_
          rintro e w6 ⟨rfl, hb6⟩
          have hb56 : Below w5.heap.size w5 w6 := (Below.refl _ _).drew.trans hb6
          obtain ⟨bl', ol', e1, hbl, hcl⟩ := (Hl.out.after (HS.out.1.bel.trans (hb56.mono HS.out.1.bel.size))).2.2.2.1.at_ hjl
          obtain ⟨rfl, rfl⟩ : bl = bl' ∧ ol = ol' := by injection e1 with e1; injection e1 with e2 e3; exact ⟨e2, e3⟩
          have B6 := HS.out.2.2.1.below hb56 hz0
          have s6 : w6.cell? ⟨w4.heap.size, 0, none⟩ = some (.int .i64 z.fr) ∧ w6.cell? ⟨w4.heap.size, 1, none⟩ = some (.int .i64 z.to) ∧ w6.cell? ⟨w4.heap.size, 2, none⟩ = some (.slice xa xn xc) ∧ w6.cell? ⟨bl, ol + j, none⟩ = some (.int .i64 x) := ⟨B6.cell rfl, B6.cell rfl, B6.cell rfl, by have := hcl j hjl; rw [hxl.out] at this; exact this⟩
          have HR := Lib.hid ((HS.out.1.below hb56).less (N' := fun _ => False) fun i hi => hi.elim)
          clear hb6 hb56 hbyd e1 hbl hcl B6
          refine hK _ _ ⟨s6, ?_⟩
          clear hK K
          refine anyH_take (i := 11) (d := 55) (v := ?c11) rfl rfl (by kernel_rfl) (by kernel_rfl) (by kernel_rfl) (fun _ _ _ h => h) (Or.inl ⟨by rfl, ?cy11⟩) s6 ?cr11
          case cy11 => (intro w; go_simp; try with_reducible rfl)
          simp only [List.setIfInBounds_toArray, List.set_cons_zero, List.set_cons_succ]
          refine wpAnyH_done (by kernel_rfl) ?_ _
          go_wp2
          go_roundw
          case rel => exact ⟨j + 1, by omega, by go_num, HR.out⟩
          case measure => simp [intOf]; omega
        · have hje : j = k := by omega
          subst hje
          have j1 : ¬ (j : Int) < j := by omega
          have hlk : lackE (bO l j j) 0 = 9 := by rw [endO]; rfl
          have htk : takeB (bO l j j) 0 = bO l j j := by unfold takeB; rw [if_neg (by rw [hlk]; decide)]
          go_wp2_with fail
          refine (k_take KJ.out 0 _ hlk rfl htk).mono ?_
          rintro e w4 ⟨xa, xn, xc, M, rfl, hk, hby, -, -⟩
          obtain ⟨y, hy⟩ : ∃ y, lookB (bO l j j) 0 = y := ⟨_, rfl⟩
          rw [hy] at hby ⊢
          obtain ⟨w5, hw5⟩ : ∃ w5, w4.alloc (.cells #[.int .i64 y.fr, .int .i64 y.to, .slice xa xn xc] 29) = w5 := ⟨_, rfl⟩
          have hbx := box_new hk hby w5 hw5
          have HB := Lib.hid hbx.1
          clear hk hby hbx hy hlk htk
          go_wp2_with fail
          refine (k_len HB.out 0 (by rw [endO]; rfl)).mono ?_; rintro e w5 ⟨rfl, rfl⟩
          go_wp2
          go_ret
          exact ⟨rfl, HB.out.bel⟩

end Go.Proofs.Ytlecihbclkohjaa.bagOrder
