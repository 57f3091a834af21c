/-
  The power goes, over the reference's text: gone, fails, Crash, Flush.
-/
import Derived.Test.YtmcbjcopipafdaaRefM
namespace Go.Proofs.Ytmcbjcopipafdaa
open Go.RowKit Go.Maps
set_option linter.unusedVariables false

theorem Out.cell {S : Nat → Prop} {w w' : World} (h : Out S w w') {b o : Nat} (hb : b < w.heap.size) (hn : ¬ S b) : w'.cell? ⟨b, o, none⟩ = w.cell? ⟨b, o, none⟩ := World.cell?_of_block (a := ⟨b, o, none⟩) (h.block b hb hn)
def stepG (keep : List Bool) (s : Rm × Nat) (i : Nat) : Rm × Nat :=
  if s.1.B[i]?.getD false = true then
    (if keepF keep s.2 = true then { s.1 with S := s.1.S.set i (s.1.V[i]?.getD []), V := s.1.V.set i (s.1.V[i]?.getD []), B := s.1.B.set i false } else { s.1 with V := s.1.V.set i (s.1.S[i]?.getD []), B := s.1.B.set i false }, s.2 + 1)
  else s
def goneN (R : Rm) (keep : List Bool) (i : Nat) : Rm × Nat := (List.range i).foldl (stepG keep) (R, 0)
theorem goneN_succ (R : Rm) (keep : List Bool) (i : Nat) : goneN R keep (i + 1) = stepG keep (goneN R keep i) i := by unfold goneN; rw [List.range_succ, List.foldl_append]; rfl
def goneR (R : Rm) (keep : List Bool) : Rm := { (goneN R keep R.S.length).1 with dead := true, fails := false }
theorem stepG_same (keep : List Bool) (s : Rm × Nat) (i : Nat) : (stepG keep s i).1.S.length = s.1.S.length ∧ (stepG keep s i).1.V.length = s.1.V.length ∧ (stepG keep s i).1.B.length = s.1.B.length ∧ (stepG keep s i).2 ≤ s.2 + 1 := by
  unfold stepG
  split
  · split <;> simp
  · simp
theorem goneN_same (R : Rm) (keep : List Bool) (i : Nat) : (goneN R keep i).1.S.length = R.S.length ∧ (goneN R keep i).1.V.length = R.V.length ∧ (goneN R keep i).1.B.length = R.B.length ∧ (goneN R keep i).2 ≤ i := by
  induction i with
  | zero => exact ⟨rfl, rfl, rfl, Nat.le_refl _⟩
  | succ i ih =>
    rw [goneN_succ]
    have := stepG_same keep (goneN R keep i) i
    omega

section
variable {w w' : World} {M : Nat → Prop} {g rs rn rw : Nat} {R : Rm} {l : List Bool}
theorem RefM.grm (h : RefM w M g rs rn rw R) : ∀ i, G4 g rs rn rw i → M i := fun i e => by
  rcases e with rfl | rfl | rfl | rfl
  · exact h.mg
  · exact h.ms
  · exact h.mn
  · exact h.mw
set_option maxRecDepth 100000 in
set_option maxHeartbeats 6400000 in
theorem gone_any (h : RefM w M g rs rn rw R) (A : Option Addr) (n c : Nat) (hn : l.length = n) (hk : KOff w M (.slice A n c) l) :
    Calls Try.prog 51 #[.pointer (some ⟨g, 0, none⟩), .slice A n c] w fun e w' => e = .returned (.tuple #[]) ∧ RefM w' M g rs rn rw (goneR R l) ∧ Out (G4 g rs rn rw) w w' := by
  have hcm : n ≤ 9223372036854775807 := by
    obtain ⟨A', c', e, h1, h2, _⟩ := hk
    unfold maxLen at h2
    omega
  have hnot : ∀ (x : Bool) (w : World), (Op.unary .not (.bool x)).run Try.prog w = .ok (.bool (!x)) w := fun _ _ => rfl
  obtain ⟨nn, hnn⟩ : ∃ nn, R.S.length = nn := ⟨_, rfl⟩
  have hn2 := h.n2
  have hlv := h.lv
  have hlb := h.lb
  rw [hnn] at hn2 hlv hlb
  have Hh := Lib.hid (And.intro h (And.intro hk (And.intro hn hnn)))
  clear h hk hn
  go_enter Try.func51, Try.ntmps51
  go_wp2
  go_loopw [4, 5] (fun kv iv wr => ∃ i : Nat, i ≤ nn ∧ iv = .int .i64 i ∧ kv = .int .i64 ((goneN R l i).2 : Nat) ∧ RefM wr M g rs rn rw (goneN R l i).1 ∧ Out (G4 g rs rn rw) w wr) (fun _ iv _ => nn - (intOf iv).toNat)
  case atStart => exact ⟨0, Nat.zero_le _, rfl, rfl, Hh.out.1, Out.refl _ _⟩
  case round =>
    obtain ⟨i, hi, rfl, rfl, hR, hO⟩ := hrel
    obtain ⟨z1, z2, z3, z4⟩ := goneN_same R l i
    rw [hnn] at z1
    rw [hlv] at z2
    rw [hlb] at z3
    have hsucc := goneN_succ R l i
    obtain ⟨T, hT⟩ : ∃ T, goneN R l i = T := ⟨_, rfl⟩
    rw [hT] at hR z1 z2 z3 z4 hsucc ⊢
    obtain ⟨kk, hkk⟩ : ∃ kk, T.2 = kk := ⟨_, rfl⟩
    rw [hkk] at z4 ⊢
    have i0 : (0 : Int) ≤ i := by omega
    have k0 : (0 : Int) ≤ kk := by omega
    have hnn' : T.1.S.length = nn := z1
    have hKw := Hh.out.2.1.out hO Hh.out.1.grm
    have Hr := Lib.hid (And.intro hR hO)
    have HR : Hid (RefM wr M g rs rn rw T.1) := Lib.hid hR
    obtain ⟨cs, cn, cw, kv, a1, a2, a3, a4, a5, a6, hbk, hko⟩ := hR.blk
    have c1 : wr.cell? ⟨g, 1, none⟩ = some (.slice (some ⟨rn, 0, none⟩) nn cn) := by have := hbk.cell (i := 1) rfl; rw [hnn'] at this; exact this
    have c2 : wr.cell? ⟨g, 2, none⟩ = some (.slice (some ⟨rw, 0, none⟩) nn cw) := by have := hbk.cell (i := 2) rfl; rw [hnn'] at this; exact this
    by_cases hlt : i < nn
    · have i1 : (i : Int) < nn := by omega
      have hiS : i < T.1.S.length := by omega
      have hiV : i < T.1.V.length := by omega
      have hiB : i < T.1.B.length := by omega
      have cW := (hR.rowW.at_ hiB).1
      have hend : ∀ (wz : World) (T' : Rm × Nat) (kz : Nat), stepG l T i = T' → T'.2 = kz → RefM wz M g rs rn rw T'.1 → Out (G4 g rs rn rw) w wz → ∃ i' : Nat, i' ≤ nn ∧ Value.int .i64 ((i : Int) + 1) = .int .i64 i' ∧ Value.int .i64 (kz : Nat) = .int .i64 ((goneN R l i').2 : Nat) ∧ RefM wz M g rs rn rw (goneN R l i').1 ∧ Out (G4 g rs rn rw) w wz := fun wz T' kz e1 e2 h1 h2 =>
        ⟨i + 1, by omega, by go_num, by rw [hsucc, e1, e2], by rw [hsucc, e1]; exact h1, h2⟩
      have Hend := Lib.hid hend
      have HT := Lib.hid (And.intro hkk hKw)
      clear hR hO hend hsucc hbk hko hT hkk hKw a1 a2 a3 a4 a5 a6 hnn
      cases hB : T.1.B[i] with
      | false =>
        rw [hB] at cW
        have hst : stepG l T i = T := by unfold stepG; rw [List.getElem?_eq_getElem hiB, hB]; rfl
        have Hst := Lib.hid hst
        clear hst hB hnn' hiS hiV hiB z1 z2 z3
        go_wp2
        go_roundw
        case rel => exact Hend.out _ T _ Hst.out HT.out.1 HR.out Hr.out.2
        case measure => simp [intOf]; omega
      | true =>
        rw [hB] at cW
        have hBt : T.1.B[i]?.getD false = true := by rw [List.getElem?_eq_getElem hiB, hB]; rfl
        by_cases hkf : keepF l kk = true
        · have hst : stepG l T i = ({ T.1 with S := T.1.S.set i (T.1.V[i]?.getD []), V := T.1.V.set i (T.1.V[i]?.getD []), B := T.1.B.set i false }, T.2 + 1) := by unfold stepG; rw [if_pos hBt, HT.out.1, if_pos hkf]
          have hkn : kk < n := by
            rcases Nat.lt_or_ge kk n with h | h
            · exact h
            · unfold keepF at hkf; rw [List.getElem?_eq_none (by have := Hh.out.2.2.1; omega)] at hkf; cases hkf
          obtain ⟨A', c', eA, p1, p2, p3⟩ := HT.out.2
          obtain ⟨b, off, eA2, hblt, hMb, hc⟩ := p3 (by have := Hh.out.2.2.1; omega)
          injection eA with eA1 eA3 eA4
          have eA5 : A = some ⟨b, off, none⟩ := eA1.trans eA2
          subst eA5
          have hkl : kk < l.length := by have := Hh.out.2.2.1; omega
          have hck : wr.cell? ⟨b, off + kk, none⟩ = some (.bool true) := by
            refine hc kk _ ?_
            unfold keepF at hkf
            rw [List.getElem?_eq_getElem hkl] at hkf
            rw [cbls_get, List.getElem?_eq_getElem hkl, show l[kk] = true from hkf]; rfl
          have k1 : (kk : Int) < n := by omega
          have Hst := Lib.hid hst
          clear hst hB hBt hkf eA1 eA2 eA3 eA4 p1 p2 p3 hc hblt hMb hkl
          obtain ⟨cs, cn, cw, kv, a1, a2, a3, a4, a5, a6, hbk, hko⟩ := HR.out.drew.blk
          obtain ⟨Ax, cx, q1, q2, q3, q4, q5, q6⟩ := HR.out.drew.rowV.at_ (i := i) hiV
          obtain ⟨Ad, cd0, d1, _, _, _, _, fd⟩ := HR.out.drew.rowS.at_ (i := i) hiS
          obtain ⟨hPn, hOn⟩ := HR.out.drew.putS i q2 q3 q4 q5
          obtain ⟨n1, n2, n3, n4, n5⟩ := HR.out.nes
          have c0 : wr.drew.cell? ⟨g, 0, none⟩ = some (.slice (some ⟨rs, 0, none⟩) nn cs) := by have := hbk.cell (i := 0) rfl; rw [hnn'] at this; exact this
          have c1 : wr.drew.cell? ⟨g, 1, none⟩ = some (.slice (some ⟨rn, 0, none⟩) nn cn) := by have := hbk.cell (i := 1) rfl; rw [hnn'] at this; exact this
          have cX : wr.drew.cell? ⟨rn, i, none⟩ = some (.slice Ax 64 cx) := q1
          have c0' := (hOn.cell (o := 0) hbk.lt n1).trans c0
          have c1' := (hOn.cell (o := 1) hbk.lt n1).trans c1
          have cX' := (hOn.cell (o := i) HR.out.drew.rowV.lt (fun e => HR.out.ne e.symm)).trans cX
          have Hna := Lib.hid (And.intro hPn hOn)
          clear hPn hOn hbk hko q1 q4 q5 a1 a2 a3 a4 a5 a6
          go_wp2
          have Q0 : wr.drew.cell? ⟨g, 0, none⟩ = some (.slice (some ⟨rs, 0, none⟩) nn cs) ∧ wr.drew.cell? ⟨g, 1, none⟩ = some (.slice (some ⟨rn, 0, none⟩) nn cn) ∧ wr.drew.cell? ⟨rn, i, none⟩ = some (.slice Ax 64 cx) := ⟨c0, c1, cX⟩
          have Q1 : (wr.drew.setCell ⟨rs, i, none⟩ (.slice Ax 64 cx)).cell? ⟨g, 0, none⟩ = some (.slice (some ⟨rs, 0, none⟩) nn cs) ∧ (wr.drew.setCell ⟨rs, i, none⟩ (.slice Ax 64 cx)).cell? ⟨g, 1, none⟩ = some (.slice (some ⟨rn, 0, none⟩) nn cn) ∧ (wr.drew.setCell ⟨rs, i, none⟩ (.slice Ax 64 cx)).cell? ⟨rn, i, none⟩ = some (.slice Ax 64 cx) := ⟨c0', c1', cX'⟩
          refine wp_region_held_drew (S := fun W' => W'.cell? ⟨g, 0, none⟩ = some (.slice (some ⟨rs, 0, none⟩) nn cs) ∧ W'.cell? ⟨g, 1, none⟩ = some (.slice (some ⟨rn, 0, none⟩) nn cn) ∧ W'.cell? ⟨rn, i, none⟩ = some (.slice Ax 64 cx)) (by kernel_rfl) Q0 (fun _ => ?_)
          refine anyH_take (i := 0) (d := 33) (v := ?va0) rfl rfl (by kernel_rfl) (by kernel_rfl) (by kernel_rfl) (fun _ _ _ h => h) (Or.inl ⟨by rfl, ?ya0⟩) Q0 ?ra0
          case ya0 => (intro w; go_simp; try with_reducible rfl)
          simp only [List.setIfInBounds_toArray, List.set_cons_zero, List.set_cons_succ]
          refine anyH_take (i := 1) (d := 34) (v := ?va1) rfl rfl (by kernel_rfl) (by kernel_rfl) (by kernel_rfl) (fun _ _ _ h => h) (Or.inl ⟨by rfl, ?ya1⟩) Q0 ?ra1
          case ya1 => (intro w; go_simp; try with_reducible rfl)
          simp only [List.setIfInBounds_toArray, List.set_cons_zero, List.set_cons_succ]
          refine anyH_take (i := 2) (d := 35) (v := ?va2) rfl rfl (by kernel_rfl) (by kernel_rfl) (by kernel_rfl) (fun _ _ _ h => h) (Or.inl ⟨by rfl, ?ya2⟩) Q0 ?ra2
          case ya2 => (intro w; go_simp; try with_reducible rfl)
          simp only [List.setIfInBounds_toArray, List.set_cons_zero, List.set_cons_succ]
          refine wpAnyH_take' (i := 3) (d := 36) (v := ?va3) rfl rfl (by kernel_rfl) (by kernel_rfl) (by kernel_rfl) (fun _ _ _ h => h) (Or.inl ⟨by rfl, ?ya3⟩) Q0 ?ra3
          case ya3 => (intro w hSw; go_split_ands; go_simp; try with_reducible rfl)
          simp only [List.setIfInBounds_toArray, List.set_cons_zero, List.set_cons_succ]
          refine anyH_take (i := 4) (d := 37) (v := ?va4) rfl rfl (by kernel_rfl) (by kernel_rfl) (by kernel_rfl) (fun _ _ _ h => h) (Or.inl ⟨by rfl, ?ya4⟩) Q0 ?ra4
          case ya4 => (intro w; go_simp; try with_reducible rfl)
          simp only [List.setIfInBounds_toArray, List.set_cons_zero, List.set_cons_succ]
          refine anyH_take (i := 5) (d := 38) (v := ?va5) rfl rfl (by kernel_rfl) (by kernel_rfl) (by kernel_rfl) (fun _ _ _ h => h) (Or.inl ⟨by rfl, ?ya5⟩) Q0 ?ra5
          case ya5 => (intro w; go_simp; try with_reducible rfl)
          simp only [List.setIfInBounds_toArray, List.set_cons_zero, List.set_cons_succ]
          refine anyH_take (i := 6) (d := 39) (v := ?va6) rfl rfl (by kernel_rfl) (by kernel_rfl) (by kernel_rfl) (fun _ _ _ h => h) (Or.inl ⟨by rfl, ?ya6⟩) Q0 ?ra6
          case ya6 => (intro w; go_simp; try with_reducible rfl)
          simp only [List.setIfInBounds_toArray, List.set_cons_zero, List.set_cons_succ]
          refine anyH_take (i := 7) (d := 40) (v := ?va7) rfl rfl (by kernel_rfl) (by kernel_rfl) (by kernel_rfl) (fun _ _ _ h => h) (Or.inl ⟨by rfl, ?ya7⟩) Q0 ?ra7
          case ya7 => (intro w; go_simp; try with_reducible rfl)
          simp only [List.setIfInBounds_toArray, List.set_cons_zero, List.set_cons_succ]
          refine wpAnyH_take' (i := 8) (d := 41) (v := ?va8) rfl rfl (by kernel_rfl) (by kernel_rfl) (by kernel_rfl) (fun _ _ _ h => h) (Or.inl ⟨by rfl, ?ya8⟩) Q0 ?ra8
          case ya8 => (intro w hSw; go_split_ands; go_simp; try with_reducible rfl)
          simp only [List.setIfInBounds_toArray, List.set_cons_zero, List.set_cons_succ]
          refine anyH_take (i := 9) (d := 42) (v := ?va9) rfl rfl (by kernel_rfl) (by kernel_rfl) (by kernel_rfl) (fun _ _ _ h => h) (Or.inl ⟨by rfl, ?ya9⟩) Q0 ?ra9
          case ya9 => (intro w; go_simp; try with_reducible rfl)
          simp only [List.setIfInBounds_toArray, List.set_cons_zero, List.set_cons_succ]
          refine anyH_take (i := 10) (d := 43) (v := ?va10) rfl rfl (by kernel_rfl) (by kernel_rfl) (by kernel_rfl) (fun _ _ _ h => h) (Or.inl ⟨by rfl, ?ya10⟩) Q0 ?ra10
          case ya10 => (intro w; go_simp; try with_reducible rfl)
          simp only [List.setIfInBounds_toArray, List.set_cons_zero, List.set_cons_succ]
          refine wpAnyH_take' (i := 11) (d := 44) (v := ?va11) rfl rfl (by kernel_rfl) (by kernel_rfl) (by kernel_rfl) (fun _ _ _ h => h) (Or.inl ⟨by rfl, ?ya11⟩) Q0 ?ra11
          case ya11 => (intro w hSw; go_split_ands; go_simp; try with_reducible rfl)
          simp only [List.setIfInBounds_toArray, List.set_cons_zero, List.set_cons_succ]
          refine anyH_take (i := 12) (d := 45) (v := ?va12) rfl rfl (by kernel_rfl) (by kernel_rfl) (by kernel_rfl) (fun _ _ _ h => h) (Or.inl ⟨by rfl, ?ya12⟩) Q0 ?ra12
          case ya12 => (intro w; go_simp; try with_reducible rfl)
          simp only [List.setIfInBounds_toArray, List.set_cons_zero, List.set_cons_succ]
          refine anyH_one (i := 13) (by kernel_rfl) ?_
          refine wpOp_step rfl (fun K hK => ?_)
          go_simp
          refine hK _ _ ⟨Q1, ?_⟩
          clear hK K
          refine wpAnyH_done (by kernel_rfl) ?_ _
          clear c0 c1 cX c0' c1' cX' d1 fd Q0 Q1 q2 q3 q6 n1 n2 n3 n4 n5
          obtain ⟨w2, hw2⟩ : ∃ w2, (wr.setCell ⟨rs, i, none⟩ (.slice Ax 64 cx)).drew = w2 := ⟨_, rfl⟩
          have Hna : Hid (RefM w2 M g rs rn rw { T.1 with S := T.1.S.set i T.1.V[i] } ∧ Out (fun j => j = rs) wr.drew w2) := by rw [← hw2]; exact Hna
          rw [hw2]
          have HR2 : Hid (RefM w2 M g rs rn rw { T.1 with S := T.1.S.set i T.1.V[i] }) := Lib.hid Hna.out.1
          have hnn' : ({ T.1 with S := T.1.S.set i T.1.V[i] } : Rm).S.length = nn := by rw [← z1]; exact List.length_set
          have hiS : i < ({ T.1 with S := T.1.S.set i T.1.V[i] } : Rm).S.length := by omega
          have Hw2 := Lib.hid hw2
          clear hw2 c1 c2 cW hck
          obtain ⟨cs, cn, cw, kv, a1, a2, a3, a4, a5, a6, hbk, hko⟩ := HR2.out.drew.blk
          obtain ⟨Ax, cx, q1, q2, q3, q4, q5, q6⟩ := HR2.out.drew.rowS.at_ (i := i) hiS
          obtain ⟨Ad, cd0, d1, _, _, _, _, fd⟩ := HR2.out.drew.rowV.at_ (i := i) hiV
          obtain ⟨hPn, hOn⟩ := HR2.out.drew.putV i q2 q3 q4 q5
          obtain ⟨n1, n2, n3, n4, n5⟩ := HR2.out.nes
          have c0 : w2.drew.cell? ⟨g, 0, none⟩ = some (.slice (some ⟨rs, 0, none⟩) nn cs) := by have := hbk.cell (i := 0) rfl; rw [hnn'] at this; exact this
          have c1 : w2.drew.cell? ⟨g, 1, none⟩ = some (.slice (some ⟨rn, 0, none⟩) nn cn) := by have := hbk.cell (i := 1) rfl; rw [hnn'] at this; exact this
          have cX : w2.drew.cell? ⟨rs, i, none⟩ = some (.slice Ax 64 cx) := q1
          have c0' := (hOn.cell (o := 0) hbk.lt n2).trans c0
          have c1' := (hOn.cell (o := 1) hbk.lt n2).trans c1
          have cX' := (hOn.cell (o := i) HR2.out.drew.rowS.lt (fun e => HR2.out.ne e)).trans cX
          have Hnb := Lib.hid (And.intro hPn hOn)
          clear hPn hOn hbk hko q1 q4 q5 a1 a2 a3 a4 a5 a6
          go_wp2
          have Q0 : w2.drew.cell? ⟨g, 0, none⟩ = some (.slice (some ⟨rs, 0, none⟩) nn cs) ∧ w2.drew.cell? ⟨g, 1, none⟩ = some (.slice (some ⟨rn, 0, none⟩) nn cn) ∧ w2.drew.cell? ⟨rs, i, none⟩ = some (.slice Ax 64 cx) := ⟨c0, c1, cX⟩
          have Q1 : (w2.drew.setCell ⟨rn, i, none⟩ (.slice Ax 64 cx)).cell? ⟨g, 0, none⟩ = some (.slice (some ⟨rs, 0, none⟩) nn cs) ∧ (w2.drew.setCell ⟨rn, i, none⟩ (.slice Ax 64 cx)).cell? ⟨g, 1, none⟩ = some (.slice (some ⟨rn, 0, none⟩) nn cn) ∧ (w2.drew.setCell ⟨rn, i, none⟩ (.slice Ax 64 cx)).cell? ⟨rs, i, none⟩ = some (.slice Ax 64 cx) := ⟨c0', c1', cX'⟩
          refine wp_region_held_drew (S := fun W' => W'.cell? ⟨g, 0, none⟩ = some (.slice (some ⟨rs, 0, none⟩) nn cs) ∧ W'.cell? ⟨g, 1, none⟩ = some (.slice (some ⟨rn, 0, none⟩) nn cn) ∧ W'.cell? ⟨rs, i, none⟩ = some (.slice Ax 64 cx)) (by kernel_rfl) Q0 (fun _ => ?_)
          refine anyH_take (i := 0) (d := 46) (v := ?vb0) rfl rfl (by kernel_rfl) (by kernel_rfl) (by kernel_rfl) (fun _ _ _ h => h) (Or.inl ⟨by rfl, ?yb0⟩) Q0 ?rb0
          case yb0 => (intro w; go_simp; try with_reducible rfl)
          simp only [List.setIfInBounds_toArray, List.set_cons_zero, List.set_cons_succ]
          refine anyH_take (i := 1) (d := 47) (v := ?vb1) rfl rfl (by kernel_rfl) (by kernel_rfl) (by kernel_rfl) (fun _ _ _ h => h) (Or.inl ⟨by rfl, ?yb1⟩) Q0 ?rb1
          case yb1 => (intro w; go_simp; try with_reducible rfl)
          simp only [List.setIfInBounds_toArray, List.set_cons_zero, List.set_cons_succ]
          refine anyH_take (i := 2) (d := 48) (v := ?vb2) rfl rfl (by kernel_rfl) (by kernel_rfl) (by kernel_rfl) (fun _ _ _ h => h) (Or.inl ⟨by rfl, ?yb2⟩) Q0 ?rb2
          case yb2 => (intro w; go_simp; try with_reducible rfl)
          simp only [List.setIfInBounds_toArray, List.set_cons_zero, List.set_cons_succ]
          refine wpAnyH_take' (i := 3) (d := 49) (v := ?vb3) rfl rfl (by kernel_rfl) (by kernel_rfl) (by kernel_rfl) (fun _ _ _ h => h) (Or.inl ⟨by rfl, ?yb3⟩) Q0 ?rb3
          case yb3 => (intro w hSw; go_split_ands; go_simp; try with_reducible rfl)
          simp only [List.setIfInBounds_toArray, List.set_cons_zero, List.set_cons_succ]
          refine anyH_take (i := 4) (d := 50) (v := ?vb4) rfl rfl (by kernel_rfl) (by kernel_rfl) (by kernel_rfl) (fun _ _ _ h => h) (Or.inl ⟨by rfl, ?yb4⟩) Q0 ?rb4
          case yb4 => (intro w; go_simp; try with_reducible rfl)
          simp only [List.setIfInBounds_toArray, List.set_cons_zero, List.set_cons_succ]
          refine anyH_take (i := 5) (d := 51) (v := ?vb5) rfl rfl (by kernel_rfl) (by kernel_rfl) (by kernel_rfl) (fun _ _ _ h => h) (Or.inl ⟨by rfl, ?yb5⟩) Q0 ?rb5
          case yb5 => (intro w; go_simp; try with_reducible rfl)
          simp only [List.setIfInBounds_toArray, List.set_cons_zero, List.set_cons_succ]
          refine anyH_take (i := 6) (d := 52) (v := ?vb6) rfl rfl (by kernel_rfl) (by kernel_rfl) (by kernel_rfl) (fun _ _ _ h => h) (Or.inl ⟨by rfl, ?yb6⟩) Q0 ?rb6
          case yb6 => (intro w; go_simp; try with_reducible rfl)
          simp only [List.setIfInBounds_toArray, List.set_cons_zero, List.set_cons_succ]
          refine anyH_take (i := 7) (d := 53) (v := ?vb7) rfl rfl (by kernel_rfl) (by kernel_rfl) (by kernel_rfl) (fun _ _ _ h => h) (Or.inl ⟨by rfl, ?yb7⟩) Q0 ?rb7
          case yb7 => (intro w; go_simp; try with_reducible rfl)
          simp only [List.setIfInBounds_toArray, List.set_cons_zero, List.set_cons_succ]
          refine wpAnyH_take' (i := 8) (d := 54) (v := ?vb8) rfl rfl (by kernel_rfl) (by kernel_rfl) (by kernel_rfl) (fun _ _ _ h => h) (Or.inl ⟨by rfl, ?yb8⟩) Q0 ?rb8
          case yb8 => (intro w hSw; go_split_ands; go_simp; try with_reducible rfl)
          simp only [List.setIfInBounds_toArray, List.set_cons_zero, List.set_cons_succ]
          refine anyH_take (i := 9) (d := 55) (v := ?vb9) rfl rfl (by kernel_rfl) (by kernel_rfl) (by kernel_rfl) (fun _ _ _ h => h) (Or.inl ⟨by rfl, ?yb9⟩) Q0 ?rb9
          case yb9 => (intro w; go_simp; try with_reducible rfl)
          simp only [List.setIfInBounds_toArray, List.set_cons_zero, List.set_cons_succ]
          refine anyH_take (i := 10) (d := 56) (v := ?vb10) rfl rfl (by kernel_rfl) (by kernel_rfl) (by kernel_rfl) (fun _ _ _ h => h) (Or.inl ⟨by rfl, ?yb10⟩) Q0 ?rb10
          case yb10 => (intro w; go_simp; try with_reducible rfl)
          simp only [List.setIfInBounds_toArray, List.set_cons_zero, List.set_cons_succ]
          refine wpAnyH_take' (i := 11) (d := 57) (v := ?vb11) rfl rfl (by kernel_rfl) (by kernel_rfl) (by kernel_rfl) (fun _ _ _ h => h) (Or.inl ⟨by rfl, ?yb11⟩) Q0 ?rb11
          case yb11 => (intro w hSw; go_split_ands; go_simp; try with_reducible rfl)
          simp only [List.setIfInBounds_toArray, List.set_cons_zero, List.set_cons_succ]
          refine anyH_take (i := 12) (d := 58) (v := ?vb12) rfl rfl (by kernel_rfl) (by kernel_rfl) (by kernel_rfl) (fun _ _ _ h => h) (Or.inl ⟨by rfl, ?yb12⟩) Q0 ?rb12
          case yb12 => (intro w; go_simp; try with_reducible rfl)
          simp only [List.setIfInBounds_toArray, List.set_cons_zero, List.set_cons_succ]
          refine anyH_one (i := 13) (by kernel_rfl) ?_
          refine wpOp_step rfl (fun K hK => ?_)
          go_simp
          refine hK _ _ ⟨Q1, ?_⟩
          clear hK K
          refine wpAnyH_done (by kernel_rfl) ?_ _
          clear c0 c1 cX c0' c1' cX' d1 fd Q0 Q1 q2 q3 q6 n1 n2 n3 n4 n5
          obtain ⟨w3, hw3⟩ : ∃ w3, (w2.setCell ⟨rn, i, none⟩ (.slice Ax 64 cx)).drew = w3 := ⟨_, rfl⟩
          have hnb := Hnb.out
          simp only [List.getElem_set_self] at hnb
          have Hnb : Hid (RefM w3 M g rs rn rw { T.1 with S := T.1.S.set i T.1.V[i], V := T.1.V.set i T.1.V[i] } ∧ Out (fun j => j = rn) w2.drew w3) := by rw [← hw3]; exact hnb
          clear hnb
          rw [hw3]
          have hR3 := Hnb.out.1
          obtain ⟨cs3, cn3, cw3, kv3, b1, b2, b3, b4, b5, b6, hbk, hko⟩ := hR3.blk
          have c2 : w3.cell? ⟨g, 2, none⟩ = some (.slice (some ⟨rw, 0, none⟩) nn cw3) := by have := hbk.cell (i := 2) rfl; rw [hnn'] at this; exact this
          obtain ⟨cW, fW⟩ := hR3.rowW.at_ (i := i) hiB
          obtain ⟨hPn, hOn⟩ := hR3.putB i false
          have e9 : ({ T.1 with S := T.1.S.set i T.1.V[i], V := T.1.V.set i T.1.V[i], B := T.1.B.set i false } : Rm) = { T.1 with S := T.1.S.set i (T.1.V[i]?.getD []), V := T.1.V.set i (T.1.V[i]?.getD []), B := T.1.B.set i false } := by rw [List.getElem?_eq_getElem hiV]; rfl
          have hfin : RefM (w3.setCell ⟨rw, i, none⟩ (.bool false)) M g rs rn rw { T.1 with S := T.1.S.set i (T.1.V[i]?.getD []), V := T.1.V.set i (T.1.V[i]?.getD []), B := T.1.B.set i false } := by rw [← e9]; exact hPn
          have hOf : Out (G4 g rs rn rw) w (w3.setCell ⟨rw, i, none⟩ (.bool false)) := ((((Hr.out.2.then_below ((Below.refl _ _).drew)).trans Hna.out.2 fun i _ e => .inr (.inl e)).then_below ((Below.refl _ _).drew)).trans Hnb.out.2 fun i _ e => .inr (.inr (.inl e))).trans hOn fun i _ e => .inr (.inr (.inr e))
          have Hf := Lib.hid (And.intro hfin hOf)
          have hkp : (T.2 + 1 : Nat) = kk + 1 := by rw [HT.out.1]
          have Hkp := Lib.hid hkp
          clear hw3 hR3 hbk hko hPn hOn e9 hfin hOf hkp b1 b2 b3 b4 b5 b6 hnn'
          go_wp2
          go_roundw
          case rel =>
            have := Hend.out _ _ (kk + 1) Hst.out Hkp.out Hf.out.1 Hf.out.2
            simpa using this
          case measure => simp [intOf]; omega
        · have hkf2 : keepF l kk = false := by simpa using hkf
          have hst : stepG l T i = ({ T.1 with V := T.1.V.set i (T.1.S[i]?.getD []), B := T.1.B.set i false }, T.2 + 1) := by unfold stepG; rw [if_pos hBt, HT.out.1, if_neg hkf]
          have Hst := Lib.hid hst
          have hcond : (∃ b off, A = some ⟨b, off, none⟩ ∧ (kk : Int) < n ∧ wr.cell? ⟨b, off + kk, none⟩ = some (.bool false)) ∨ ¬ (kk : Int) < n := by
            by_cases hkn : kk < n
            · left
              obtain ⟨A', c', eA, p1, p2, p3⟩ := HT.out.2
              obtain ⟨b, off, eA2, hblt, hMb, hc⟩ := p3 (by have := Hh.out.2.2.1; omega)
              injection eA with eA1 eA3 eA4
              have hkl : kk < l.length := by have := Hh.out.2.2.1; omega
              refine ⟨b, off, eA1.trans eA2, by omega, hc kk _ ?_⟩
              unfold keepF at hkf2
              rw [List.getElem?_eq_getElem hkl] at hkf2
              rw [cbls_get, List.getElem?_eq_getElem hkl, show l[kk] = false from hkf2]; rfl
            · right; omega
          clear hst hB hBt hkf hkf2
          obtain ⟨cs, cn, cw, kv, a1, a2, a3, a4, a5, a6, hbk, hko⟩ := HR.out.drew.blk
          obtain ⟨Ax, cx, q1, q2, q3, q4, q5, q6⟩ := HR.out.drew.rowS.at_ (i := i) hiS
          obtain ⟨Ad, cd0, d1, _, _, _, _, fd⟩ := HR.out.drew.rowV.at_ (i := i) hiV
          obtain ⟨hPn, hOn⟩ := HR.out.drew.putV i q2 q3 q4 q5
          obtain ⟨n1, n2, n3, n4, n5⟩ := HR.out.nes
          have c0 : wr.drew.cell? ⟨g, 0, none⟩ = some (.slice (some ⟨rs, 0, none⟩) nn cs) := by have := hbk.cell (i := 0) rfl; rw [hnn'] at this; exact this
          have c1 : wr.drew.cell? ⟨g, 1, none⟩ = some (.slice (some ⟨rn, 0, none⟩) nn cn) := by have := hbk.cell (i := 1) rfl; rw [hnn'] at this; exact this
          have cX : wr.drew.cell? ⟨rs, i, none⟩ = some (.slice Ax 64 cx) := q1
          have c0' := (hOn.cell (o := 0) hbk.lt n2).trans c0
          have c1' := (hOn.cell (o := 1) hbk.lt n2).trans c1
          have cX' := (hOn.cell (o := i) HR.out.drew.rowS.lt (fun e => HR.out.ne e)).trans cX
          have Hnc := Lib.hid (And.intro hPn hOn)
          clear hPn hOn hbk hko q1 q4 q5 a1 a2 a3 a4 a5 a6
          obtain ⟨w3, hw3⟩ : ∃ w3, (wr.setCell ⟨rn, i, none⟩ (.slice Ax 64 cx)).drew = w3 := ⟨_, rfl⟩
          have Hnc : Hid (RefM w3 M g rs rn rw { T.1 with V := T.1.V.set i T.1.S[i] } ∧ Out (fun j => j = rn) wr.drew w3) := by rw [← hw3]; exact Hnc
          have hbk2 := Hnc.out.1
          obtain ⟨cs3, cn3, cw3, kv3, b1, b2, b3, b4, b5, b6, hbk, hko⟩ := hbk2.blk
          have c23 : w3.cell? ⟨g, 2, none⟩ = some (.slice (some ⟨rw, 0, none⟩) nn cw3) := by have := hbk.cell (i := 2) rfl; rw [show ({ T.1 with V := T.1.V.set i T.1.S[i] } : Rm).S.length = nn from z1] at this; exact this
          obtain ⟨cW3, fW3⟩ := hbk2.rowW.at_ (i := i) hiB
          obtain ⟨hPn, hOn⟩ := hbk2.putB i false
          have e9 : ({ T.1 with V := T.1.V.set i T.1.S[i], B := T.1.B.set i false } : Rm) = { T.1 with V := T.1.V.set i (T.1.S[i]?.getD []), B := T.1.B.set i false } := by rw [List.getElem?_eq_getElem hiS]; rfl
          have hfin : RefM (w3.setCell ⟨rw, i, none⟩ (.bool false)) M g rs rn rw { T.1 with V := T.1.V.set i (T.1.S[i]?.getD []), B := T.1.B.set i false } := by rw [← e9]; exact hPn
          have hOf : Out (G4 g rs rn rw) w (w3.setCell ⟨rw, i, none⟩ (.bool false)) := (((Hr.out.2.then_below ((Below.refl _ _).drew)).trans Hnc.out.2 fun i _ e => .inr (.inr (.inl e)))).trans hOn fun i _ e => .inr (.inr (.inr e))
          have Hf := Lib.hid (And.intro hfin hOf)
          have hkp : (T.2 + 1 : Nat) = kk + 1 := by rw [HT.out.1]
          have Hkp := Lib.hid hkp
          have Hw3 := Lib.hid (And.intro hw3 (And.intro c23 (And.intro cW3 fW3)))
          clear hbk2 hbk hko hPn hOn e9 hfin hOf hkp b1 b2 b3 b4 b5 b6 hnn' hw3 c23 cW3 fW3
          rcases hcond with ⟨b, off, rfl, k1, hck⟩ | k1
          · go_wp2
            have Q0 : wr.drew.cell? ⟨g, 0, none⟩ = some (.slice (some ⟨rs, 0, none⟩) nn cs) ∧ wr.drew.cell? ⟨g, 1, none⟩ = some (.slice (some ⟨rn, 0, none⟩) nn cn) ∧ wr.drew.cell? ⟨rs, i, none⟩ = some (.slice Ax 64 cx) := ⟨c0, c1, cX⟩
            have Q1 : (wr.drew.setCell ⟨rn, i, none⟩ (.slice Ax 64 cx)).cell? ⟨g, 0, none⟩ = some (.slice (some ⟨rs, 0, none⟩) nn cs) ∧ (wr.drew.setCell ⟨rn, i, none⟩ (.slice Ax 64 cx)).cell? ⟨g, 1, none⟩ = some (.slice (some ⟨rn, 0, none⟩) nn cn) ∧ (wr.drew.setCell ⟨rn, i, none⟩ (.slice Ax 64 cx)).cell? ⟨rs, i, none⟩ = some (.slice Ax 64 cx) := ⟨c0', c1', cX'⟩
            refine wp_region_held_drew (S := fun W' => W'.cell? ⟨g, 0, none⟩ = some (.slice (some ⟨rs, 0, none⟩) nn cs) ∧ W'.cell? ⟨g, 1, none⟩ = some (.slice (some ⟨rn, 0, none⟩) nn cn) ∧ W'.cell? ⟨rs, i, none⟩ = some (.slice Ax 64 cx)) (by kernel_rfl) Q0 (fun _ => ?_)
            refine anyH_take (i := 0) (d := 46) (v := ?vc0) rfl rfl (by kernel_rfl) (by kernel_rfl) (by kernel_rfl) (fun _ _ _ h => h) (Or.inl ⟨by rfl, ?yc0⟩) Q0 ?rc0
            case yc0 => (intro w; go_simp; try with_reducible rfl)
            simp only [List.setIfInBounds_toArray, List.set_cons_zero, List.set_cons_succ]
            refine anyH_take (i := 1) (d := 47) (v := ?vc1) rfl rfl (by kernel_rfl) (by kernel_rfl) (by kernel_rfl) (fun _ _ _ h => h) (Or.inl ⟨by rfl, ?yc1⟩) Q0 ?rc1
            case yc1 => (intro w; go_simp; try with_reducible rfl)
            simp only [List.setIfInBounds_toArray, List.set_cons_zero, List.set_cons_succ]
            refine anyH_take (i := 2) (d := 48) (v := ?vc2) rfl rfl (by kernel_rfl) (by kernel_rfl) (by kernel_rfl) (fun _ _ _ h => h) (Or.inl ⟨by rfl, ?yc2⟩) Q0 ?rc2
            case yc2 => (intro w; go_simp; try with_reducible rfl)
            simp only [List.setIfInBounds_toArray, List.set_cons_zero, List.set_cons_succ]
            refine wpAnyH_take' (i := 3) (d := 49) (v := ?vc3) rfl rfl (by kernel_rfl) (by kernel_rfl) (by kernel_rfl) (fun _ _ _ h => h) (Or.inl ⟨by rfl, ?yc3⟩) Q0 ?rc3
            case yc3 => (intro w hSw; go_split_ands; go_simp; try with_reducible rfl)
            simp only [List.setIfInBounds_toArray, List.set_cons_zero, List.set_cons_succ]
            refine anyH_take (i := 4) (d := 50) (v := ?vc4) rfl rfl (by kernel_rfl) (by kernel_rfl) (by kernel_rfl) (fun _ _ _ h => h) (Or.inl ⟨by rfl, ?yc4⟩) Q0 ?rc4
            case yc4 => (intro w; go_simp; try with_reducible rfl)
            simp only [List.setIfInBounds_toArray, List.set_cons_zero, List.set_cons_succ]
            refine anyH_take (i := 5) (d := 51) (v := ?vc5) rfl rfl (by kernel_rfl) (by kernel_rfl) (by kernel_rfl) (fun _ _ _ h => h) (Or.inl ⟨by rfl, ?yc5⟩) Q0 ?rc5
            case yc5 => (intro w; go_simp; try with_reducible rfl)
            simp only [List.setIfInBounds_toArray, List.set_cons_zero, List.set_cons_succ]
            refine anyH_take (i := 6) (d := 52) (v := ?vc6) rfl rfl (by kernel_rfl) (by kernel_rfl) (by kernel_rfl) (fun _ _ _ h => h) (Or.inl ⟨by rfl, ?yc6⟩) Q0 ?rc6
            case yc6 => (intro w; go_simp; try with_reducible rfl)
            simp only [List.setIfInBounds_toArray, List.set_cons_zero, List.set_cons_succ]
            refine anyH_take (i := 7) (d := 53) (v := ?vc7) rfl rfl (by kernel_rfl) (by kernel_rfl) (by kernel_rfl) (fun _ _ _ h => h) (Or.inl ⟨by rfl, ?yc7⟩) Q0 ?rc7
            case yc7 => (intro w; go_simp; try with_reducible rfl)
            simp only [List.setIfInBounds_toArray, List.set_cons_zero, List.set_cons_succ]
            refine wpAnyH_take' (i := 8) (d := 54) (v := ?vc8) rfl rfl (by kernel_rfl) (by kernel_rfl) (by kernel_rfl) (fun _ _ _ h => h) (Or.inl ⟨by rfl, ?yc8⟩) Q0 ?rc8
            case yc8 => (intro w hSw; go_split_ands; go_simp; try with_reducible rfl)
            simp only [List.setIfInBounds_toArray, List.set_cons_zero, List.set_cons_succ]
            refine anyH_take (i := 9) (d := 55) (v := ?vc9) rfl rfl (by kernel_rfl) (by kernel_rfl) (by kernel_rfl) (fun _ _ _ h => h) (Or.inl ⟨by rfl, ?yc9⟩) Q0 ?rc9
            case yc9 => (intro w; go_simp; try with_reducible rfl)
            simp only [List.setIfInBounds_toArray, List.set_cons_zero, List.set_cons_succ]
            refine anyH_take (i := 10) (d := 56) (v := ?vc10) rfl rfl (by kernel_rfl) (by kernel_rfl) (by kernel_rfl) (fun _ _ _ h => h) (Or.inl ⟨by rfl, ?yc10⟩) Q0 ?rc10
            case yc10 => (intro w; go_simp; try with_reducible rfl)
            simp only [List.setIfInBounds_toArray, List.set_cons_zero, List.set_cons_succ]
            refine wpAnyH_take' (i := 11) (d := 57) (v := ?vc11) rfl rfl (by kernel_rfl) (by kernel_rfl) (by kernel_rfl) (fun _ _ _ h => h) (Or.inl ⟨by rfl, ?yc11⟩) Q0 ?rc11
            case yc11 => (intro w hSw; go_split_ands; go_simp; try with_reducible rfl)
            simp only [List.setIfInBounds_toArray, List.set_cons_zero, List.set_cons_succ]
            refine anyH_take (i := 12) (d := 58) (v := ?vc12) rfl rfl (by kernel_rfl) (by kernel_rfl) (by kernel_rfl) (fun _ _ _ h => h) (Or.inl ⟨by rfl, ?yc12⟩) Q0 ?rc12
            case yc12 => (intro w; go_simp; try with_reducible rfl)
            simp only [List.setIfInBounds_toArray, List.set_cons_zero, List.set_cons_succ]
            refine anyH_one (i := 13) (by kernel_rfl) ?_
            refine wpOp_step rfl (fun K hK => ?_)
            go_simp
            refine hK _ _ ⟨Q1, ?_⟩
            clear hK K
            refine wpAnyH_done (by kernel_rfl) ?_ _
            clear c0 c1 cX c0' c1' cX' d1 fd Q0 Q1 q2 q3 q6 n1 n2 n3 n4 n5
            rw [Hw3.out.1]
            have c2 := Hw3.out.2.1
            have cW := Hw3.out.2.2.1
            have fW := Hw3.out.2.2.2
            go_wp2
            go_roundw
            case rel =>
              have := Hend.out _ _ (kk + 1) Hst.out Hkp.out Hf.out.1 Hf.out.2
              simpa using this
            case measure => simp [intOf]; omega
          · go_wp2
            have Q0 : wr.drew.cell? ⟨g, 0, none⟩ = some (.slice (some ⟨rs, 0, none⟩) nn cs) ∧ wr.drew.cell? ⟨g, 1, none⟩ = some (.slice (some ⟨rn, 0, none⟩) nn cn) ∧ wr.drew.cell? ⟨rs, i, none⟩ = some (.slice Ax 64 cx) := ⟨c0, c1, cX⟩
            have Q1 : (wr.drew.setCell ⟨rn, i, none⟩ (.slice Ax 64 cx)).cell? ⟨g, 0, none⟩ = some (.slice (some ⟨rs, 0, none⟩) nn cs) ∧ (wr.drew.setCell ⟨rn, i, none⟩ (.slice Ax 64 cx)).cell? ⟨g, 1, none⟩ = some (.slice (some ⟨rn, 0, none⟩) nn cn) ∧ (wr.drew.setCell ⟨rn, i, none⟩ (.slice Ax 64 cx)).cell? ⟨rs, i, none⟩ = some (.slice Ax 64 cx) := ⟨c0', c1', cX'⟩
            refine wp_region_held_drew (S := fun W' => W'.cell? ⟨g, 0, none⟩ = some (.slice (some ⟨rs, 0, none⟩) nn cs) ∧ W'.cell? ⟨g, 1, none⟩ = some (.slice (some ⟨rn, 0, none⟩) nn cn) ∧ W'.cell? ⟨rs, i, none⟩ = some (.slice Ax 64 cx)) (by kernel_rfl) Q0 (fun _ => ?_)
            refine anyH_take (i := 0) (d := 46) (v := ?vd0) rfl rfl (by kernel_rfl) (by kernel_rfl) (by kernel_rfl) (fun _ _ _ h => h) (Or.inl ⟨by rfl, ?yd0⟩) Q0 ?rd0
            case yd0 => (intro w; go_simp; try with_reducible rfl)
            simp only [List.setIfInBounds_toArray, List.set_cons_zero, List.set_cons_succ]
            refine anyH_take (i := 1) (d := 47) (v := ?vd1) rfl rfl (by kernel_rfl) (by kernel_rfl) (by kernel_rfl) (fun _ _ _ h => h) (Or.inl ⟨by rfl, ?yd1⟩) Q0 ?rd1
            case yd1 => (intro w; go_simp; try with_reducible rfl)
            simp only [List.setIfInBounds_toArray, List.set_cons_zero, List.set_cons_succ]
            refine anyH_take (i := 2) (d := 48) (v := ?vd2) rfl rfl (by kernel_rfl) (by kernel_rfl) (by kernel_rfl) (fun _ _ _ h => h) (Or.inl ⟨by rfl, ?yd2⟩) Q0 ?rd2
            case yd2 => (intro w; go_simp; try with_reducible rfl)
            simp only [List.setIfInBounds_toArray, List.set_cons_zero, List.set_cons_succ]
            refine wpAnyH_take' (i := 3) (d := 49) (v := ?vd3) rfl rfl (by kernel_rfl) (by kernel_rfl) (by kernel_rfl) (fun _ _ _ h => h) (Or.inl ⟨by rfl, ?yd3⟩) Q0 ?rd3
            case yd3 => (intro w hSw; go_split_ands; go_simp; try with_reducible rfl)
            simp only [List.setIfInBounds_toArray, List.set_cons_zero, List.set_cons_succ]
            refine anyH_take (i := 4) (d := 50) (v := ?vd4) rfl rfl (by kernel_rfl) (by kernel_rfl) (by kernel_rfl) (fun _ _ _ h => h) (Or.inl ⟨by rfl, ?yd4⟩) Q0 ?rd4
            case yd4 => (intro w; go_simp; try with_reducible rfl)
            simp only [List.setIfInBounds_toArray, List.set_cons_zero, List.set_cons_succ]
            refine anyH_take (i := 5) (d := 51) (v := ?vd5) rfl rfl (by kernel_rfl) (by kernel_rfl) (by kernel_rfl) (fun _ _ _ h => h) (Or.inl ⟨by rfl, ?yd5⟩) Q0 ?rd5
            case yd5 => (intro w; go_simp; try with_reducible rfl)
            simp only [List.setIfInBounds_toArray, List.set_cons_zero, List.set_cons_succ]
            refine anyH_take (i := 6) (d := 52) (v := ?vd6) rfl rfl (by kernel_rfl) (by kernel_rfl) (by kernel_rfl) (fun _ _ _ h => h) (Or.inl ⟨by rfl, ?yd6⟩) Q0 ?rd6
            case yd6 => (intro w; go_simp; try with_reducible rfl)
            simp only [List.setIfInBounds_toArray, List.set_cons_zero, List.set_cons_succ]
            refine anyH_take (i := 7) (d := 53) (v := ?vd7) rfl rfl (by kernel_rfl) (by kernel_rfl) (by kernel_rfl) (fun _ _ _ h => h) (Or.inl ⟨by rfl, ?yd7⟩) Q0 ?rd7
            case yd7 => (intro w; go_simp; try with_reducible rfl)
            simp only [List.setIfInBounds_toArray, List.set_cons_zero, List.set_cons_succ]
            refine wpAnyH_take' (i := 8) (d := 54) (v := ?vd8) rfl rfl (by kernel_rfl) (by kernel_rfl) (by kernel_rfl) (fun _ _ _ h => h) (Or.inl ⟨by rfl, ?yd8⟩) Q0 ?rd8
            case yd8 => (intro w hSw; go_split_ands; go_simp; try with_reducible rfl)
            simp only [List.setIfInBounds_toArray, List.set_cons_zero, List.set_cons_succ]
            refine anyH_take (i := 9) (d := 55) (v := ?vd9) rfl rfl (by kernel_rfl) (by kernel_rfl) (by kernel_rfl) (fun _ _ _ h => h) (Or.inl ⟨by rfl, ?yd9⟩) Q0 ?rd9
            case yd9 => (intro w; go_simp; try with_reducible rfl)
            simp only [List.setIfInBounds_toArray, List.set_cons_zero, List.set_cons_succ]
            refine anyH_take (i := 10) (d := 56) (v := ?vd10) rfl rfl (by kernel_rfl) (by kernel_rfl) (by kernel_rfl) (fun _ _ _ h => h) (Or.inl ⟨by rfl, ?yd10⟩) Q0 ?rd10
            case yd10 => (intro w; go_simp; try with_reducible rfl)
            simp only [List.setIfInBounds_toArray, List.set_cons_zero, List.set_cons_succ]
            refine wpAnyH_take' (i := 11) (d := 57) (v := ?vd11) rfl rfl (by kernel_rfl) (by kernel_rfl) (by kernel_rfl) (fun _ _ _ h => h) (Or.inl ⟨by rfl, ?yd11⟩) Q0 ?rd11
            case yd11 => (intro w hSw; go_split_ands; go_simp; try with_reducible rfl)
            simp only [List.setIfInBounds_toArray, List.set_cons_zero, List.set_cons_succ]
            refine anyH_take (i := 12) (d := 58) (v := ?vd12) rfl rfl (by kernel_rfl) (by kernel_rfl) (by kernel_rfl) (fun _ _ _ h => h) (Or.inl ⟨by rfl, ?yd12⟩) Q0 ?rd12
            case yd12 => (intro w; go_simp; try with_reducible rfl)
            simp only [List.setIfInBounds_toArray, List.set_cons_zero, List.set_cons_succ]
            refine anyH_one (i := 13) (by kernel_rfl) ?_
            refine wpOp_step rfl (fun K hK => ?_)
            go_simp
            refine hK _ _ ⟨Q1, ?_⟩
            clear hK K
            refine wpAnyH_done (by kernel_rfl) ?_ _
            clear c0 c1 cX c0' c1' cX' d1 fd Q0 Q1 q2 q3 q6 n1 n2 n3 n4 n5
            rw [Hw3.out.1]
            have c2 := Hw3.out.2.1
            have cW := Hw3.out.2.2.1
            have fW := Hw3.out.2.2.2
            go_wp2
            go_roundw
            case rel =>
              have := Hend.out _ _ (kk + 1) Hst.out Hkp.out Hf.out.1 Hf.out.2
              simpa using this
            case measure => simp [intOf]; omega
    · have i1 : ¬ (i : Int) < nn := by omega
      obtain rfl : i = nn := by omega
      have c3 : wr.cell? ⟨g, 3, none⟩ = some (.bool T.1.dead) := hbk.cell rfl
      have c4 : wr.cell? ⟨g, 4, none⟩ = some (.bool T.1.fails) := hbk.cell rfl
      have f3 : wr.frozen? ⟨g, 3, none⟩ = false := hbk.free 3
      have f4 : wr.frozen? ⟨g, 4, none⟩ = false := hbk.free 4
      have ho : Out (fun j => j = g) wr ((wr.setCell ⟨g, 3, none⟩ (.bool true)).setCell ⟨g, 4, none⟩ (.bool false)) := ((Out.refl (fun j => j = g) wr).setCell (fun _ => rfl) _).setCell (fun _ => rfl) _
      have hfin := hR.celled ho true false T.1.left T.1.K hR.lw (fun cs cn cw kv hb hk => ⟨kv, (hb.set_ 3 _).set_ 4 _, hk.out ho fun j e => by rw [e]; exact hR.mg⟩)
      have efin : goneR R l = { T.1 with dead := true, fails := false, left := T.1.left, K := T.1.K } := by unfold goneR; rw [hnn, hT]
      rw [← efin] at hfin
      have Hf := Lib.hid (And.intro hfin (hO.trans ho fun j _ e => .inl e))
      clear hR hO hbk hko hfin efin ho hnn hT hkk hsucc hKw
      go_wp2
      go_end0
      exact ⟨rfl, Hf.out⟩

def failsR (R : Rm) : Bool × Rm := if R.fails = false then (false, R) else if 0 < R.left then (false, { R with left := R.left - 1 }) else (true, goneR R R.K)
set_option maxRecDepth 100000 in
set_option maxHeartbeats 1600000 in
theorem rfails_any (h : RefM w M g rs rn rw R) : Calls Try.prog 50 #[.pointer (some ⟨g, 0, none⟩)] w fun e w' => e = .returned (.bool (failsR R).1) ∧ RefM w' M g rs rn rw (failsR R).2 ∧ Out (G4 g rs rn rw) w w' := by
  have hnot : ∀ (x : Bool) (w : World), (Op.unary .not (.bool x)).run Try.prog w = .ok (.bool (!x)) w := fun _ _ => rfl
  have hlw := wf_bounds h.lw
  obtain ⟨cs, cn, cw, kv, a1, a2, a3, a4, a5, a6, hb, hk⟩ := h.blk
  have c4 : w.cell? ⟨g, 4, none⟩ = some (.bool R.fails) := hb.cell rfl
  have c5 : w.cell? ⟨g, 5, none⟩ = some (.int .i64 R.left) := hb.cell rfl
  have c6 : w.cell? ⟨g, 6, none⟩ = some kv := hb.cell rfl
  have f5 : w.frozen? ⟨g, 5, none⟩ = false := hb.free 5
  unfold failsR
  by_cases hf : R.fails = false
  · rw [if_pos hf]
    rw [hf] at c4
    have Hh := Lib.hid h
    clear h hb hk hf
    go_enter Try.func50, Try.ntmps50
    go_wp2
    go_ret
    exact ⟨rfl, Hh.out, Out.refl _ _⟩
  · rw [if_neg hf]
    have hf2 : R.fails = true := by simpa using hf
    rw [hf2] at c4
    by_cases hl : 0 < R.left
    · rw [if_pos hl]
      have ho : Out (fun j => j = g) w (w.setCell ⟨g, 5, none⟩ (.int .i64 (R.left - 1))) := (Out.refl (fun j => j = g) w).setCell (fun _ => rfl) _
      have hwl : Wf (R.left - 1) := by
        show (Lit.int .i64 (R.left - 1)).wf = true
        simp [Lit.wf, IntKind.min, IntKind.max, IntKind.signed, IntKind.bits]; omega
      have hfin := h.celled ho R.dead R.fails (R.left - 1) R.K hwl (fun cs cn cw kv hb hk => ⟨kv, hb.set_ 5 _, hk.out ho fun j e => by rw [e]; exact h.mg⟩)
      have Hf := Lib.hid (And.intro hfin (ho.mono_ fun j e => (.inl e : G4 g rs rn rw j)))
      have hsub : IntKind.i64.wrap (R.left - 1) = R.left - 1 := IntWalk.i64_in _ (by omega)
      clear h hb hk hf hf2 ho hfin hwl
      go_enter Try.func50, Try.ntmps50
      go_wp2
      go_ret
      exact ⟨rfl, Hf.out⟩
    · rw [if_neg hl]
      obtain ⟨A, c, rfl, hc1, hc2, hc3⟩ := hk
      have Hp := Lib.hid (gone_any h A R.K.length c rfl ⟨A, c, rfl, hc1, hc2, hc3⟩)
      clear h hb hf hf2 hc1 hc2 hc3
      go_enter Try.func50, Try.ntmps50
      go_wp2_with fail
      refine Hp.out.mono ?_
      rintro e w1 ⟨rfl, h1, h2⟩
      have H := Lib.hid (And.intro h1 h2)
      clear h1 h2
      go_wp2
      go_ret
      exact ⟨rfl, H.out⟩
def crashR (R : Rm) (keep : List Bool) : Int × Rm := if R.dead = true then (50, R) else (0, goneR R keep)
set_option maxRecDepth 100000 in
theorem rcrash_any (h : RefM w M g rs rn rw R) (A : Option Addr) (n c : Nat) (hn : l.length = n) (hk : KOff w M (.slice A n c) l) :
    Calls Try.prog 39 #[.pointer (some ⟨g, 0, none⟩), .slice A n c] w fun e w' => e = .returned (.int .i64 (crashR R l).1) ∧ RefM w' M g rs rn rw (crashR R l).2 ∧ Out (G4 g rs rn rw) w w' := by
  have Hp := Lib.hid (gone_any h A n c hn hk)
  obtain ⟨cs, cn, cw, kv, a1, a2, a3, a4, a5, a6, hb, _⟩ := h.blk
  have c3 : w.cell? ⟨g, 3, none⟩ = some (.bool R.dead) := hb.cell rfl
  have Hh := Lib.hid h
  clear h hb hk hn
  unfold crashR
  cases hd : R.dead with
  | true =>
    rw [hd] at c3
    clear hd
    go_enter Try.func39, Try.ntmps39
    go_wp2
    go_ret
    exact ⟨rfl, Hh.out, Out.refl _ _⟩
  | false =>
    rw [hd] at c3
    clear hd
    go_enter Try.func39, Try.ntmps39
    go_wp2_with fail
    refine Hp.out.mono ?_
    rintro e w1 ⟨rfl, h1, h2⟩
    have H := Lib.hid (And.intro h1 h2)
    clear h1 h2
    go_wp2
    go_ret
    exact ⟨rfl, H.out⟩
end
end Go.Proofs.Ytmcbjcopipafdaa
