/-
  Flush, Fail, Waits, Turn, over the reference's text.
-/
import Derived.Test.YtmcbjcopipafdaaRefC
namespace Go.Proofs.Ytmcbjcopipafdaa
open Go.RowKit Go.Maps
set_option linter.unusedVariables false

def stepF (R : Rm) (i : Nat) : Rm := { R with S := R.S.set i (R.V[i]?.getD []), B := R.B.set i false }
def flushN (R : Rm) (i : Nat) : Rm := (List.range i).foldl stepF R
theorem flushN_succ (R : Rm) (i : Nat) : flushN R (i + 1) = stepF (flushN R i) i := by unfold flushN; rw [List.range_succ, List.foldl_append]; rfl
theorem flushN_same (R : Rm) (i : Nat) : (flushN R i).S.length = R.S.length ∧ (flushN R i).V.length = R.V.length ∧ (flushN R i).B.length = R.B.length := by
  induction i with
  | zero => exact ⟨rfl, rfl, rfl⟩
  | succ i ih => rw [flushN_succ]; simp [stepF]; omega
def flushR (R : Rm) : Int × Rm := if R.dead = true then (50, R) else if (failsR R).1 = true then (50, (failsR R).2) else (0, flushN (failsR R).2 (failsR R).2.S.length)
def failR (R : Rm) (x : Int) (keep : List Bool) : Int × Rm := if R.dead = true then (50, R) else (0, { R with fails := decide (0 ≤ x), left := x, K := keep })
def waitsN (R : Rm) (i : Nat) : List Int := ((List.range i).filter fun j => R.B[j]?.getD false).map fun (j : Nat) => (j : Int)
theorem waitsN_succ (R : Rm) (i : Nat) : waitsN R (i + 1) = waitsN R i ++ (if R.B[i]?.getD false = true then [(i : Int)] else []) := by
  unfold waitsN
  rw [List.range_succ, List.filter_append, List.map_append, List.filter_cons]
  congr 1
  split <;> simp
theorem waitsN_len (R : Rm) (i : Nat) : (waitsN R i).length ≤ i := by
  unfold waitsN
  rw [List.length_map]
  exact Nat.le_trans (List.length_filter_le _ _) (by simp)
def turnR (R : Rm) (x bit : Int) : Int × Rm := if R.dead = true then (50, R) else if thereR R x = false ∨ bit < 0 ∨ 511 < bit then (9, R) else
  (0, { R with V := R.V.set x.toNat (flipB (R.V[x.toNat]?.getD []) bit.toNat), S := R.S.set x.toNat (flipB (R.V[x.toNat]?.getD []) bit.toNat), B := R.B.set x.toNat false })

theorem KOff.ofRow {w : World} {M : Nat → Prop} {B : Nat} {v : Value} {l : List Bool} (h : w.ownsRow B 4 1 v l.length (cbls l)) (hM : ∀ i, M i → i < B) : KOff w M v l := by
  obtain ⟨h1, h2⟩ := h
  have hh := h2
  rcases h2 with ⟨rfl, hx⟩ | ⟨g, cap, cur, rfl, hg, hc, q1, q2, q3, q4⟩
  · have : l = [] := List.eq_nil_of_length_eq_zero hx
    subst this
    exact KOff.nil _ _
  · refine ⟨_, cap, rfl, q1, q2, fun hl => ⟨g, 0, rfl, ?_, fun hm => ?_, fun j u hu => ?_⟩⟩
    · rcases Nat.lt_or_ge g w.heap.size with h | h
      · exact h
      · rw [Array.getElem?_eq_none h] at hc; cases hc
    · have := hM g hm; omega
    · have := World.ownsRow.cells (w := w) ⟨h1, hh⟩ (g := g) rfl j u hu
      rwa [add_mk] at this
theorem int_info : (Try.prog.info? 3).map (fun i => (i.zero, i.size, i.bytes)) = some (some (.int .i64 0), 1, 8) := by kernel_rfl
/-- 'append(out, y)' of a number, at the operation. -/
theorem wp_appendI1 {w : World} {ops : Array Oper} {rest : List Oper} {o : Oper} {a : Act} {Q : Exit → Act → World → Prop} (hgd : o.guard = none) (s x : Operand)
    (ho : o.op = .call { callee := .builtin .append, args := #[s, x], argTypes := #[30, 30] }) (base : Nat) (v : Value) (l : List Int) (hs : a.eval s = v) (hown : w.ownsRow base 3 1 v l.length (l.map encZ))
    (b c : Nat) (y : Int) (hx : a.eval x = .slice (some ⟨b, 0, none⟩) 1 c) (hy : w.cell? ⟨b, 0, none⟩ = some (.int .i64 y)) (hl : l.length < 1000000) (hbase : base ≤ w.heap.size)
    (h : ∀ v' w', w'.ownsRow base 3 1 v' (l ++ [y]).length ((l ++ [y]).map encZ) → w.grownBy w' v.ownBlock → wpList Try.prog ops Q rest (a.put o.dst v') w') : wpList Try.prog ops Q (o :: rest) a w := by
  obtain ⟨i0, hi, hz0, hz1, hz2⟩ := info_parts int_info
  obtain ⟨v', w', hrun, h2, h3, _⟩ := run_append_own_at (P := Try.prog) w base 30 o.type 3 i0 (.int .i64 0) 1 8 Try.underlying30 hi hz0 hz1 hz2 rfl (by decide) v l.length (l.map encZ) hown ⟨b, 0, none⟩ 1 c [.int .i64 y] rfl
    (fun j u hu => by
      match j with
      | 0 => rw [add_mk]; simp at hu; rw [← hu]; exact hy
      | j + 1 => simp at hu) (by simp [Value.oneCell']) (by simp only [maxLen]; omega) (by omega) hbase
  refine wpList_plain hgd fun K hK => ?_
  unfold Oper.wp execOp
  simp only [ho, resolve, invoke, builtin, Sem.run_bind, Sem.run_pure, Result.andThen_ok, List.map_toArray, List.map_cons, List.map_nil, hs, hx, hrun]
  exact hK _ _ (h v' w' (by rw [List.length_append, List.map_append]; exact h2) h3)

section
variable {w w' : World} {M : Nat → Prop} {g rs rn rw : Nat} {R : Rm} {l : List UInt8} {k : List Bool}
set_option maxRecDepth 100000 in
set_option maxHeartbeats 3200000 in
theorem rflush_any (h : RefM w M g rs rn rw R) : Calls Try.prog 37 #[.pointer (some ⟨g, 0, none⟩)] w fun e w' => e = .returned (.int .i64 (flushR R).1) ∧ RefM w' M g rs rn rw (flushR R).2 ∧ Out (G4 g rs rn rw) w w' := by
  obtain ⟨cs, cn, cw, kv, a1, a2, a3, a4, a5, a6, hbk, _⟩ := h.blk
  have c3 : w.cell? ⟨g, 3, none⟩ = some (.bool R.dead) := hbk.cell rfl
  have hfa := rfails_any h
  have hn2 := h.n2
  have Hh := Lib.hid h
  have hsame := failsR_same R
  clear h hbk
  unfold flushR
  by_cases hd : R.dead = true
  · rw [if_pos hd]
    rw [hd] at c3
    clear hd hfa
    go_enter Try.func37, Try.ntmps37
    go_wp2
    go_ret
    exact ⟨rfl, Hh.out, Out.refl _ _⟩
  · rw [if_neg hd]
    have hd2 : R.dead = false := by simpa using hd
    rw [hd2] at c3
    obtain ⟨F, hF⟩ : ∃ F, failsR R = F := ⟨_, rfl⟩
    rw [hF] at hfa hsame ⊢
    by_cases hf : F.1 = true
    · rw [if_pos hf]
      rw [hf] at hfa
      have Hfa := Lib.hid hfa
      clear hfa hf hF hd hd2 hsame
      go_enter Try.func37, Try.ntmps37
      go_wp2_with (go_at_call 50; refine Hfa.out.mono ?_; rintro e w1 ⟨rfl, h1, h2⟩)
      go_ret
      exact ⟨rfl, h1, h2⟩
    · rw [if_neg hf]
      have hf2 : F.1 = false := by simpa using hf
      rw [hf2] at hfa
      have Hfa := Lib.hid hfa
      obtain ⟨nn, hnn⟩ : ∃ nn, F.2.S.length = nn := ⟨_, rfl⟩
      rw [hnn] at hsame ⊢
      have hnn2 : nn ≤ 4096 := by omega
      clear hfa hf hf2 hF hd hd2 hsame
      go_enter Try.func37, Try.ntmps37
      go_wp2_with (go_at_call 50; refine Hfa.out.mono ?_; rintro e w1 ⟨rfl, h1, h2⟩)
      have hlv := h1.lv
      have hlb := h1.lb
      rw [hnn] at hlv hlb
      have H1 := Lib.hid (And.intro h1 (And.intro h2 hnn))
      clear h1 h2 hnn
      go_loopw [3] (fun iv wr => ∃ i : Nat, i ≤ nn ∧ iv = .int .i64 i ∧ RefM wr M g rs rn rw (flushN F.2 i) ∧ Out (G4 g rs rn rw) w1 wr) (fun iv _ => nn - (intOf iv).toNat)
      case atStart => exact ⟨0, Nat.zero_le _, rfl, H1.out.1, Out.refl _ _⟩
      case round =>
        obtain ⟨i, hi, rfl, hR, hO⟩ := hrel
        obtain ⟨z1, z2, z3⟩ := flushN_same F.2 i
        rw [H1.out.2.2] at z1
        rw [hlv] at z2
        rw [hlb] at z3
        have hsucc := flushN_succ F.2 i
        obtain ⟨T, hT⟩ : ∃ T, flushN F.2 i = T := ⟨_, rfl⟩
        rw [hT] at hR z1 z2 z3 hsucc
        have i0 : (0 : Int) ≤ i := by omega
        have hnn' : T.S.length = nn := z1
        have HR : Hid (RefM wr M g rs rn rw T) := Lib.hid hR
        have HO := Lib.hid hO
        obtain ⟨cs, cn, cw, kv, a1, a2, a3, a4, a5, a6, hbk, hko⟩ := hR.blk
        have c1r : wr.cell? ⟨g, 1, none⟩ = some (.slice (some ⟨rn, 0, none⟩) nn cn) := by have := hbk.cell (i := 1) rfl; rw [hnn'] at this; exact this
        by_cases hlt : i < nn
        · have i1 : (i : Int) < nn := by omega
          have hiS : i < T.S.length := by omega
          have hiV : i < T.V.length := by omega
          have hiB : i < T.B.length := by omega
          have hend : ∀ (wz : World), RefM wz M g rs rn rw (stepF T i) → Out (G4 g rs rn rw) w1 wz → ∃ i' : Nat, i' ≤ nn ∧ Value.int .i64 ((i : Int) + 1) = .int .i64 i' ∧ RefM wz M g rs rn rw (flushN F.2 i') ∧ Out (G4 g rs rn rw) w1 wz := fun wz h1 h2 =>
            ⟨i + 1, by omega, by go_num, by rw [hsucc]; exact h1, h2⟩
          have Hend := Lib.hid hend
          clear hR hO hend hsucc hbk hko hT a1 a2 a3 a4 a5 a6
          obtain ⟨cs, cn, cw, kv, a1, a2, a3, a4, a5, a6, hbk, hko⟩ := HR.out.drew.blk
          obtain ⟨Ax, cx, q1, q2, q3, q4, q5, q6⟩ := HR.out.drew.rowV.at_ (i := i) hiV
          obtain ⟨Ad, cd0, d1, _, _, _, _, fd⟩ := HR.out.drew.rowS.at_ (i := i) hiS
          obtain ⟨hPn, hOn⟩ := HR.out.drew.putS i q2 q3 q4 q5
          obtain ⟨n1, n2, n3, n4, n5⟩ := HR.out.nes
          have c0 : wr.drew.cell? ⟨g, 0, none⟩ = some (.slice (some ⟨rs, 0, none⟩) nn cs) := by have := hbk.cell (i := 0) rfl; rw [hnn'] at this; exact this
          have c1 : wr.drew.cell? ⟨g, 1, none⟩ = some (.slice (some ⟨rn, 0, none⟩) nn cn) := by have := hbk.cell (i := 1) rfl; rw [hnn'] at this; exact this
          have cX : wr.drew.cell? ⟨rn, i, none⟩ = some (.slice Ax 64 cx) := q1
          have c0' := (hOn.cell (o := 0) hbk.lt n1).trans c0
          have c1' := (hOn.cell (o := 1) hbk.lt n1).trans c1
          have cX' := (hOn.cell (o := i) HR.out.drew.rowV.lt (fun e => HR.out.ne e.symm)).trans cX
          have Hna := Lib.hid (And.intro hPn hOn)
          clear hPn hOn hbk hko q1 q4 q5 a1 a2 a3 a4 a5 a6
          go_wp2
          have Q0 : wr.drew.cell? ⟨g, 0, none⟩ = some (.slice (some ⟨rs, 0, none⟩) nn cs) ∧ wr.drew.cell? ⟨g, 1, none⟩ = some (.slice (some ⟨rn, 0, none⟩) nn cn) ∧ wr.drew.cell? ⟨rn, i, none⟩ = some (.slice Ax 64 cx) := ⟨c0, c1, cX⟩
          have Q1 : (wr.drew.setCell ⟨rs, i, none⟩ (.slice Ax 64 cx)).cell? ⟨g, 0, none⟩ = some (.slice (some ⟨rs, 0, none⟩) nn cs) ∧ (wr.drew.setCell ⟨rs, i, none⟩ (.slice Ax 64 cx)).cell? ⟨g, 1, none⟩ = some (.slice (some ⟨rn, 0, none⟩) nn cn) ∧ (wr.drew.setCell ⟨rs, i, none⟩ (.slice Ax 64 cx)).cell? ⟨rn, i, none⟩ = some (.slice Ax 64 cx) := ⟨c0', c1', cX'⟩
          refine wp_region_held_drew (S := fun W' => W'.cell? ⟨g, 0, none⟩ = some (.slice (some ⟨rs, 0, none⟩) nn cs) ∧ W'.cell? ⟨g, 1, none⟩ = some (.slice (some ⟨rn, 0, none⟩) nn cn) ∧ W'.cell? ⟨rn, i, none⟩ = some (.slice Ax 64 cx)) (by kernel_rfl) Q0 (fun _ => ?_)
          refine anyH_take (i := 0) (d := 19) (v := ?va0) rfl rfl (by kernel_rfl) (by kernel_rfl) (by kernel_rfl) (fun _ _ _ h => h) (Or.inl ⟨by rfl, ?ya0⟩) Q0 ?ra0
          case ya0 => (intro w; go_simp; try with_reducible rfl)
          simp only [List.setIfInBounds_toArray, List.set_cons_zero, List.set_cons_succ]
          refine anyH_take (i := 1) (d := 20) (v := ?va1) rfl rfl (by kernel_rfl) (by kernel_rfl) (by kernel_rfl) (fun _ _ _ h => h) (Or.inl ⟨by rfl, ?ya1⟩) Q0 ?ra1
          case ya1 => (intro w; go_simp; try with_reducible rfl)
          simp only [List.setIfInBounds_toArray, List.set_cons_zero, List.set_cons_succ]
          refine anyH_take (i := 2) (d := 21) (v := ?va2) rfl rfl (by kernel_rfl) (by kernel_rfl) (by kernel_rfl) (fun _ _ _ h => h) (Or.inl ⟨by rfl, ?ya2⟩) Q0 ?ra2
          case ya2 => (intro w; go_simp; try with_reducible rfl)
          simp only [List.setIfInBounds_toArray, List.set_cons_zero, List.set_cons_succ]
          refine wpAnyH_take' (i := 3) (d := 22) (v := ?va3) rfl rfl (by kernel_rfl) (by kernel_rfl) (by kernel_rfl) (fun _ _ _ h => h) (Or.inl ⟨by rfl, ?ya3⟩) Q0 ?ra3
          case ya3 => (intro w hSw; go_split_ands; go_simp; try with_reducible rfl)
          simp only [List.setIfInBounds_toArray, List.set_cons_zero, List.set_cons_succ]
          refine anyH_take (i := 4) (d := 23) (v := ?va4) rfl rfl (by kernel_rfl) (by kernel_rfl) (by kernel_rfl) (fun _ _ _ h => h) (Or.inl ⟨by rfl, ?ya4⟩) Q0 ?ra4
          case ya4 => (intro w; go_simp; try with_reducible rfl)
          simp only [List.setIfInBounds_toArray, List.set_cons_zero, List.set_cons_succ]
          refine anyH_take (i := 5) (d := 24) (v := ?va5) rfl rfl (by kernel_rfl) (by kernel_rfl) (by kernel_rfl) (fun _ _ _ h => h) (Or.inl ⟨by rfl, ?ya5⟩) Q0 ?ra5
          case ya5 => (intro w; go_simp; try with_reducible rfl)
          simp only [List.setIfInBounds_toArray, List.set_cons_zero, List.set_cons_succ]
          refine anyH_take (i := 6) (d := 25) (v := ?va6) rfl rfl (by kernel_rfl) (by kernel_rfl) (by kernel_rfl) (fun _ _ _ h => h) (Or.inl ⟨by rfl, ?ya6⟩) Q0 ?ra6
          case ya6 => (intro w; go_simp; try with_reducible rfl)
          simp only [List.setIfInBounds_toArray, List.set_cons_zero, List.set_cons_succ]
          refine anyH_take (i := 7) (d := 26) (v := ?va7) rfl rfl (by kernel_rfl) (by kernel_rfl) (by kernel_rfl) (fun _ _ _ h => h) (Or.inl ⟨by rfl, ?ya7⟩) Q0 ?ra7
          case ya7 => (intro w; go_simp; try with_reducible rfl)
          simp only [List.setIfInBounds_toArray, List.set_cons_zero, List.set_cons_succ]
          refine wpAnyH_take' (i := 8) (d := 27) (v := ?va8) rfl rfl (by kernel_rfl) (by kernel_rfl) (by kernel_rfl) (fun _ _ _ h => h) (Or.inl ⟨by rfl, ?ya8⟩) Q0 ?ra8
          case ya8 => (intro w hSw; go_split_ands; go_simp; try with_reducible rfl)
          simp only [List.setIfInBounds_toArray, List.set_cons_zero, List.set_cons_succ]
          refine anyH_take (i := 9) (d := 28) (v := ?va9) rfl rfl (by kernel_rfl) (by kernel_rfl) (by kernel_rfl) (fun _ _ _ h => h) (Or.inl ⟨by rfl, ?ya9⟩) Q0 ?ra9
          case ya9 => (intro w; go_simp; try with_reducible rfl)
          simp only [List.setIfInBounds_toArray, List.set_cons_zero, List.set_cons_succ]
          refine anyH_take (i := 10) (d := 29) (v := ?va10) rfl rfl (by kernel_rfl) (by kernel_rfl) (by kernel_rfl) (fun _ _ _ h => h) (Or.inl ⟨by rfl, ?ya10⟩) Q0 ?ra10
          case ya10 => (intro w; go_simp; try with_reducible rfl)
          simp only [List.setIfInBounds_toArray, List.set_cons_zero, List.set_cons_succ]
          refine wpAnyH_take' (i := 11) (d := 30) (v := ?va11) rfl rfl (by kernel_rfl) (by kernel_rfl) (by kernel_rfl) (fun _ _ _ h => h) (Or.inl ⟨by rfl, ?ya11⟩) Q0 ?ra11
          case ya11 => (intro w hSw; go_split_ands; go_simp; try with_reducible rfl)
          simp only [List.setIfInBounds_toArray, List.set_cons_zero, List.set_cons_succ]
          refine anyH_take (i := 12) (d := 31) (v := ?va12) rfl rfl (by kernel_rfl) (by kernel_rfl) (by kernel_rfl) (fun _ _ _ h => h) (Or.inl ⟨by rfl, ?ya12⟩) Q0 ?ra12
          case ya12 => (intro w; go_simp; try with_reducible rfl)
          simp only [List.setIfInBounds_toArray, List.set_cons_zero, List.set_cons_succ]
          refine anyH_one (i := 13) (by kernel_rfl) ?_
          refine wpOp_step rfl (fun K hK => ?_)
          go_simp
          refine hK _ _ ⟨Q1, ?_⟩
          clear hK K
          refine wpAnyH_done (by kernel_rfl) ?_ _
          clear c0 c1 cX c0' c1' cX' d1 fd Q0 Q1 q2 q3 q6 n1 n2 n3 n4 n5
          obtain ⟨w3, hw3⟩ : ∃ w3, (wr.setCell ⟨rs, i, none⟩ (.slice Ax 64 cx)).drew = w3 := ⟨_, rfl⟩
          have Hna : Hid (RefM w3 M g rs rn rw { T with S := T.S.set i T.V[i] } ∧ Out (fun j => j = rs) wr.drew w3) := by rw [← hw3]; exact Hna
          rw [hw3]
          have hR3 := Hna.out.1
          obtain ⟨cs3, cn3, cw3, kv3, b1, b2, b3, b4, b5, b6, hbk, hko⟩ := hR3.blk
          have c2 : w3.cell? ⟨g, 2, none⟩ = some (.slice (some ⟨rw, 0, none⟩) nn cw3) := by have := hbk.cell (i := 2) rfl; rw [show ({ T with S := T.S.set i T.V[i] } : Rm).S.length = nn by rw [← z1]; exact List.length_set] at this; exact this
          obtain ⟨uW, cW, fW⟩ : ∃ u, w3.cell? ⟨rw, i, none⟩ = some u ∧ w3.frozen? ⟨rw, i, none⟩ = false := ⟨_, (hR3.rowW.at_ (i := i) hiB).1, (hR3.rowW.at_ (i := i) hiB).2⟩
          obtain ⟨hPn, hOn⟩ := hR3.putB i false
          have e9 : ({ T with S := T.S.set i T.V[i], B := T.B.set i false } : Rm) = stepF T i := by unfold stepF; rw [List.getElem?_eq_getElem hiV]; rfl
          have hfin : RefM (w3.setCell ⟨rw, i, none⟩ (.bool false)) M g rs rn rw (stepF T i) := by rw [← e9]; exact hPn
          have hOf : Out (G4 g rs rn rw) w1 (w3.setCell ⟨rw, i, none⟩ (.bool false)) := ((HO.out.then_below ((Below.refl _ _).drew)).trans Hna.out.2 fun i _ e => .inr (.inl e)).trans hOn fun i _ e => .inr (.inr (.inr e))
          have Hf := Lib.hid (And.intro hfin hOf)
          clear hw3 hR3 hbk hko hPn hOn e9 hfin hOf b1 b2 b3 b4 b5 b6 hnn' c1r
          go_wp2
          go_roundw
          case rel => exact Hend.out _ Hf.out.1 Hf.out.2
          case measure => simp [intOf]; omega
        · have i1 : ¬ (i : Int) < nn := by omega
          obtain rfl : i = nn := by omega
          have Hf := Lib.hid (And.intro hR (And.intro (H1.out.2.1.trans hO fun j _ e => e) hT))
          clear hR hO hbk hko hT hsucc HO HR
          go_wp2
          go_ret
          rw [Hf.out.2.2]
          exact ⟨rfl, Hf.out.1, Hf.out.2.1⟩

set_option maxRecDepth 100000 in
set_option maxHeartbeats 1600000 in
theorem rwaits_any (h : RefM w M g rs rn rw R) : Calls Try.prog 44 #[.pointer (some ⟨g, 0, none⟩)] w fun e w' => ∃ v, e = .returned v ∧ w'.ownsRow w.heap.size 3 1 v (waitsN R R.S.length).length ((waitsN R R.S.length).map encZ) ∧ Below w.heap.size w w' := by
  obtain ⟨nn, hnn⟩ : ∃ nn, R.S.length = nn := ⟨_, rfl⟩
  have hn2 := h.n2
  have hlb := h.lb
  rw [hnn] at hn2 hlb ⊢
  have Hh := Lib.hid (And.intro h hnn)
  clear h hnn
  go_enter Try.func44, Try.ntmps44
  go_wp2
  go_loopw [3, 4] (fun ov iv wr => ∃ i : Nat, i ≤ nn ∧ iv = .int .i64 i ∧ wr.ownsRow w.heap.size 3 1 ov (waitsN R i).length ((waitsN R i).map encZ) ∧ Below w.heap.size w wr) (fun _ iv _ => nn - (intOf iv).toNat)
  case atStart => exact ⟨0, Nat.zero_le _, rfl, World.ownsRow_nil _ _ _ _, Below.refl _ _⟩
  case round =>
    obtain ⟨i, hi, rfl, hrow, hb⟩ := hrel
    have i0 : (0 : Int) ≤ i := by omega
    have hR := Hh.out.1.below hb
    obtain ⟨cs, cn, cw, kv, a1, a2, a3, a4, a5, a6, hbk, hko⟩ := hR.blk
    have c1 : wr.cell? ⟨g, 1, none⟩ = some (.slice (some ⟨rn, 0, none⟩) nn cn) := by have := hbk.cell (i := 1) rfl; rw [Hh.out.2] at this; exact this
    have c2 : wr.cell? ⟨g, 2, none⟩ = some (.slice (some ⟨rw, 0, none⟩) nn cw) := by have := hbk.cell (i := 2) rfl; rw [Hh.out.2] at this; exact this
    have hlen := waitsN_len R i
    by_cases hlt : i < nn
    · have i1 : (i : Int) < nn := by omega
      have hiB : i < R.B.length := by omega
      have cW := (hR.rowW.at_ hiB).1
      have hsucc := waitsN_succ R i
      rw [List.getElem?_eq_getElem hiB] at hsucc
      cases hB : R.B[i] with
      | false =>
        rw [hB] at cW hsucc
        simp only [Option.getD_some, Bool.false_eq_true, if_false, List.append_nil] at hsucc
        have Hr := Lib.hid (And.intro hrow (And.intro hb hsucc))
        clear hrow hb hR hbk hko hsucc hB a1 a2 a3 a4 a5 a6 hlen
        go_wp2
        go_roundw
        case rel => exact ⟨i + 1, by omega, by go_num, by rw [Hr.out.2.2]; exact Hr.out.1, Hr.out.2.1⟩
        case measure => simp [intOf]; omega
      | true =>
        rw [hB] at cW hsucc
        simp only [Option.getD_some, if_true] at hsucc
        have hfm : ∃ A0 n0 c0, u3 = .slice A0 n0 c0 := by
          rcases hrow.2 with ⟨rfl, hz⟩ | ⟨gb, cap, cur, rfl, _⟩
          · exact ⟨none, 0, 0, rfl⟩
          · exact ⟨_, _, cap, rfl⟩
        obtain ⟨A0, n0, c0, rfl⟩ := hfm
        have Hr := Lib.hid (And.intro hrow (And.intro hb (And.intro hsucc hlen)))
        clear hrow hb hR hbk hko hsucc hB a1 a2 a3 a4 a5 a6 hlen
        go_wp2_with (at_builtin; refine wp_appendI1 rfl _ _ rfl w.heap.size _ (waitsN R i) rfl (Hr.out.1.alloc _) wr.heap.size 1 (i : Int) rfl (by rw [cell_of_row _ _ 0 #[.int .i64 (i : Int)] 3 (0, 0) (heap_alloc_new wr _)]; rfl) (by have := Hr.out.2.2.2; omega) (by have := Hr.out.2.1.size; simp; omega) ?_; intro v1 w1 hm1 hg1
                     have H3 := Lib.hid (And.intro hm1 ((Hr.out.2.1.alloc Hr.out.2.1.size _).grown hg1 (by have := Hr.out.2.1.size; simp; omega) (fun kx hkx => (Hr.out.1.lt kx hkx).1)))
                     clear hm1 hg1)
        go_roundw
        case rel => exact ⟨i + 1, by omega, by go_num, by rw [Hr.out.2.2.1]; exact H3.out.1, H3.out.2⟩
        case measure => simp [intOf]; omega
    · have i1 : ¬ (i : Int) < nn := by omega
      obtain rfl : i = nn := by omega
      have Hr := Lib.hid (And.intro hrow hb)
      clear hrow hb hR hbk hko
      go_wp2
      go_ret
      exact ⟨_, rfl, Hr.out.1, Hr.out.2⟩
end
end Go.Proofs.Ytmcbjcopipafdaa
