/-
  For all bytes p, numbers i (brought to a bit of them) and words z: if some bits are turned, all within 64 that stand one behind the other, the sum is another one; SumTurned returns true; no condition.
-/
import Derived.Test.YtdfphefhabgjhaaTwo6
import Derived.Test.YtdfphefhabgjhaaAnyOrderH
import Derived.Deep.RegionHeld3
import Derived.Deep.RegionWith
import Derived.Deep.DeepCutAuto
namespace Go.Proofs.Ytdfphefhabgjhaa.sumTurned
open Go.ChangeShapes Go.WideShapes Go.ChangeAt Go.RowKit
set_option linter.unusedVariables false

set_option maxRecDepth 100000 in
set_option maxHeartbeats 6400000 in
theorem walk (Ap : Option Addr) (np cp : Nat) (p : List UInt8) (i : Int) (z : Int) (w : World) (hp : ArgB w Ap np cp p) (hi : (Lit.int .i64 i).wf = true) (hz : (Lit.int .u64 z).wf = true) :
    Calls Try.prog 8 #[.slice Ap np cp, .int .i64 i, .int .u64 z] w fun e w' => e = .returned (.bool true) ∧ Below w.heap.size w w' := by
  obtain ⟨z, rfl⟩ : ∃ q : UInt64, z = (q.toNat : Int) := ⟨_, wf_u64 hz⟩
  have hib := bounds_i64 hi
  obtain ⟨hpl, hpc, hpm, hpB⟩ := hp
  have hnot : ∀ (x : Bool) (w : World), (Op.unary .not (.bool x)).run Try.prog w = .ok (.bool (!x)) w := fun _ _ => rfl
  obtain ⟨zi, hzi⟩ : ∃ zi, zi = (z.toNat : Int) := ⟨_, rfl⟩
  by_cases htriv : np = 0 ∨ z.toNat = 0
  · have hor : ((np : Int) == 0) = true ∨ (((np : Int) == 0) = false ∧ ((z.toNat : Int) == 0) = true) := by
      by_cases h : np = 0
      · exact .inl (by simp [h])
      · refine .inr ⟨by simp; omega, ?_⟩
        have : z.toNat = 0 := by omega
        simp [this]
    clear hib hi htriv hpl hpc hpm hz hzi
    rcases hor with hn0 | ⟨hn0, hz0⟩
    · go_enter Try.func8, Try.ntmps8
      go_wp2_with (go_at_call 16; refine (works6_any _).mono ?_; rintro e w0 ⟨rfl, b0⟩)
      go_ret
      exact ⟨rfl, b0⟩
    · generalize (z.toNat : Int) = zi at *
      go_enter Try.func8, Try.ntmps8
      go_wp2_with (go_at_call 16; refine (works6_any _).mono ?_; rintro e w0 ⟨rfl, b0⟩)
      go_ret
      exact ⟨rfl, b0⟩
  · have hn0 : ((np : Int) == 0) = false := by simp; omega
    have hz0 : ((z.toNat : Int) == 0) = false := by simp; omega
    have hnp : 0 < np := by omega
    have hnm : np ≤ 140737488351232 := by omega
    have hmul : IntKind.i64.wrap (8 * (np : Int)) = 8 * (np : Int) := IntWalk.i64_in _ (by omega)
    have hml : np ≤ maxLen := by unfold maxLen; omega
    obtain ⟨t, ht⟩ : ∃ t : UInt64, ~~~0 = t := ⟨_, rfl⟩
    have Hbr := Lib.hid (fun w => bring_any i (8 * (np : Int)) w (by omega) (by omega) (by omega) (by omega))
    have Hcp := Lib.hid (fun w (h : Bs w Ap p) => copyBytes Ap cp np p w h hpl (by omega))
    have Hof1 := Lib.hid (fun w (h : Bs w Ap p) => of_any Ap cp np p w h hpl hml)
    have Hof2 := Lib.hid (fun w A c x (h : Bs w A x) (hx : x.length = np) => of_any A c np x w h hx hml)
    have HB := Lib.hid (And.intro hpB (And.intro hpl (And.intro hnp (And.intro hpm ht))))
    clear hib hi htriv hpl hpc hpB hz hnp hml ht
    go_enter Try.func8, Try.ntmps8
    go_wp2_with (go_at_call 16; refine (works6_any _).mono ?_; rintro e w0 ⟨rfl, b0⟩)
    refine (Hbr.out _).mono ?_
    rintro e w' ⟨r, hr, rfl, rfl⟩
    clear Hbr
    have Hr := Lib.hid (show r < 8 * np by omega)
    go_wp2_with fail
    refine (Hcp.out _ (HB.out.1.on b0)).mono ?_
    rintro e w1 ⟨v1, rfl, hN⟩
    obtain ⟨g, cap, ev, hg0, hg1⟩ := World.ownsRow.form hN.1 (by have := HB.out; omega)
    subst ev
    have hown : w1.ownsRow w0.heap.size 5 1 (.slice (some ⟨g, 0, none⟩) p.length cap) p.length (cbs p) := hN.1
    rw [HB.out.2.1] at hown ⊢
    have hcap : np ≤ cap := by
      obtain ⟨A1, c1, e1, hc1, _⟩ := hN.form
      injection e1 with e1 e2 e3
      have := HB.out.2.1
      omega
    have T1 := Lib.hid (And.intro hown (And.intro (b0.trans (hN.2.mono b0.size)) (And.intro (show w.heap.size ≤ g from Nat.le_trans b0.size hg0) hcap)))
    clear hN hown b0 Hcp hg1 hcap
    generalize w0.heap.size = base at *
    go_wp2_with fail
    go_loopw [9, 8] (fun iv tv wr => ∃ (k : Nat) (l : List UInt8), k ≤ 64 ∧ iv = .int .i64 k ∧ tv = .bool (decide (wnd z.toNat k ≠ 0)) ∧ l.length = np ∧ runC t l = runC t p ^^^ shn (8 * np - r) (wnd z.toNat k) ∧
      wr.ownsRow base 5 1 (.slice (some ⟨g, 0, none⟩) np cap) np (cbs l) ∧ Below w.heap.size w wr) (fun iv _ _ => 64 - (intOf iv).toNat)
    case atStart => exact ⟨0, p, by omega, rfl, rfl, HB.out.2.1, (by unfold wnd; rw [shn_zero, UInt64.xor_zero]), T1.out.1, T1.out.2.1⟩
    case round =>
      obtain ⟨k, l, hk, rfl, rfl, hll, hrun, hown, hbel⟩ := hrel
      have i0 : (0 : Int) ≤ (k : Int) := by omega
      have hadd : IntKind.i64.wrap ((r : Int) + (k : Int)) = (r : Int) + (k : Int) := IntWalk.i64_in _ (by have := Hr.out; omega)
      by_cases hin : k < 64 ∧ r + k < 8 * np
      · obtain ⟨hk64, hrk⟩ := hin
        have i1 : (k : Int) < 64 := by omega
        have i2 : (r : Int) + (k : Int) < 8 * (np : Int) := by omega
        have hsh := q_shr z k (by omega)
        have hand := q_and1 (z >>> UInt64.ofNat k)
        rw [← hsh] at hand
        have hzk : ((z >>> UInt64.ofNat k).toNat : Int) % 2 = ((z.toNat / 2 ^ k % 2 : Nat) : Int) := by
          rw [← hsh]; simp
        have hand2 : bits .and .u64 ((z.toNat : Int) / 2 ^ k) 1 = ((z.toNat / 2 ^ k % 2 : Nat) : Int) := by
          rw [hand]; simp
        clear hsh hand hzk
        by_cases hbit : z.toNat / 2 ^ k % 2 = 1
        · rw [hbit] at hand2
          have hand3 : bits .and .u64 ((z.toNat : Int) / 2 ^ k) 1 = 1 := hand2
          clear hand2
          obtain ⟨j, hj⟩ : ∃ j, (r + k) / 8 = j := ⟨_, rfl⟩
          obtain ⟨b, hb⟩ : ∃ b, (r + k) % 8 = b := ⟨_, rfl⟩
          have hjn : j < np := by omega
          have hjl : (r + k) / 8 < l.length := by omega
          have hb8 : b < 8 := by omega
          have hnew := turn_more (l := p) (c := l) (at_ := r) (k := k) (bits := z.toNat) (by rw [hll, HB.out.2.1]) t hk64 (by rw [HB.out.2.1]; omega) (by rw [HB.out.2.1]; exact hrun) hbit hjl
          have hjl' : j < l.length := by omega
          have hset : l.set ((r + k) / 8) (l[(r + k) / 8] ^^^ (1 <<< UInt8.ofNat ((r + k) % 8))) = l.set j (l[j] ^^^ (1 <<< UInt8.ofNat b)) := by
            subst hj; subst hb; rfl
          rw [hset, HB.out.2.1] at hnew
          have hset2 := wnd_set z.toNat k hk64 hbit
          obtain ⟨y, hy⟩ : ∃ y : UInt8, 1 <<< UInt8.ofNat b = y := ⟨_, rfl⟩
          have hshl : IntKind.u8.wrap (2 ^ b) = (y.toNat : Int) := by
            subst hy
            clear hnew hset hjl' hjl hjn hb hj hand3 i2 i1 hadd hown hbel hrun
            rcases b with _ | _ | _ | _ | _ | _ | _ | _ | b
            all_goals first | rfl | decide | omega
          have hbx := b_xor l[j] y
          rw [hy] at hnew
          have c0 : wr.drew.cell? ⟨g, j, none⟩ = some (.int .u8 (l[j].toNat : Int)) := Mine.cell hown hjl'
          have f0 : wr.drew.frozen? ⟨g, j, none⟩ = false := hown.frozenAt j
          have hst := Mine.set_ hown j (l[j] ^^^ y) (.int .u8 (((l[j] ^^^ y).toNat : Nat) : Int)) rfl
          have hst2 := (hbel.setCell (p := ⟨g, j, none⟩) T1.out.2.2.1 (.int .u8 (((l[j] ^^^ y).toNat : Nat) : Int))).drew
          have e1 : ((r : Int) + (k : Int)) / 8 = (j : Int) := by omega
          have e2 : ((r : Int) + (k : Int)) % 8 = (b : Int) := by omega
          have e1' : Int.tdiv ((r : Int) + (k : Int)) 8 = (j : Int) := by rw [Int.tdiv_eq_ediv_of_nonneg (by omega)]; exact e1
          have e2' : Int.tmod ((r : Int) + (k : Int)) 8 = (b : Int) := by rw [Int.tmod_eq_emod_of_nonneg (by omega)]; exact e2
          have j0 : (0 : Int) ≤ j := by omega
          have j1 : (j : Int) < np := by omega
          have j2 : (0 : Int) ≤ b := by omega
          have j3 : (b : Int) < 8 := by omega
          have ew1 : IntKind.i64.wrap (j : Int) = (j : Int) := IntWalk.i64_in _ (by omega)
          have ew2 : IntKind.i64.wrap (b : Int) = (b : Int) := IntWalk.i64_in _ (by omega)
          obtain ⟨lj, hlj⟩ : ∃ lj, l[j] = lj := ⟨_, rfl⟩
          rw [hlj] at hnew hbx c0 hst hst2
          have HF := Lib.hid (And.intro hst (And.intro hst2 (And.intro hnew (And.intro hset2 (And.intro hll hk64)))))
          clear hst hst2 hnew hset2 hset hlj hj hb hown hbel hrun hll hjl hjl' hrk hbit hk64 hk hy hjn hb8
          generalize ((lj ^^^ y).toNat : Int) = vx at *
          go_wp2
          go_region
          go_wp2
          go_roundw
          case rel => exact ⟨k + 1, l.set j (lj ^^^ y), by have := HF.out.2.2.2.2.2; omega, by go_num, by rw [decide_eq_true HF.out.2.2.2.1], by rw [List.length_set]; exact HF.out.2.2.2.2.1, HF.out.2.2.1, HF.out.1, HF.out.2.1⟩
          case measure => simp [intOf]; have := HF.out.2.2.2.2.2; omega
        · have hbit0 : z.toNat / 2 ^ k % 2 = 0 := by omega
          rw [hbit0] at hand2
          have hand3 : bits .and .u64 ((z.toNat : Int) / 2 ^ k) 1 = 0 := hand2
          have hw : wnd z.toNat (k + 1) = wnd z.toNat k := by
            conv => lhs; unfold wnd
            rw [if_neg hbit]
          have HF := Lib.hid (And.intro hw (And.intro hll (And.intro hrun (And.intro hown hbel))))
          clear hand2 hbit hbit0 hw hll hrun hown hbel hrk hk
          go_wp2
          go_roundw
          case rel => exact ⟨k + 1, l, by omega, by go_num, by rw [HF.out.1], HF.out.2.1, by rw [HF.out.1]; exact HF.out.2.2.1, HF.out.2.2.2.1, HF.out.2.2.2.2⟩
          case measure => simp [intOf]; omega
      · have hend := turned_end (l := p) (c := l) (bits := z.toNat) (k := k) (N := 8 * np - r) (by rw [HB.out.2.2.2.2]; exact hrun)
        have hof1 := Hof1.out wr (HB.out.1.on hbel)
        have hof2 := fun W (h : Bs W (some ⟨g, 0, none⟩) l) => Hof2.out W _ cap l h hll
        have hBl : Bs wr (some ⟨g, 0, none⟩) l := by
          have h := Shows.ofOwn hown
          unfold Bs
          rw [hll]; exact h
        have hcmp : ∃ q : Bool, (((ofC p).toNat : Int) != ((ofC l).toNat : Int)) = q ∧ decide (wnd z.toNat k ≠ 0) = q := by
          refine ⟨_, rfl, ?_⟩
          have e : (((ofC p).toNat : Int) != ((ofC l).toNat : Int)) = !(ofC p == ofC l) := by rw [← q_eq]; rfl
          rw [e, Bool.eq_iff_iff]
          simp only [decide_eq_true_eq, Bool.not_eq_true', beq_eq_false_iff_ne]
          exact hend.symm
        obtain ⟨qb, hq1, hq2⟩ := hcmp
        rw [hq2]
        generalize ((ofC p).toNat : Int) = r1 at *
        generalize ((ofC l).toNat : Int) = r2 at *
        have G := Lib.hid (And.intro hof1 (And.intro hof2 (And.intro hBl hbel)))
        clear hend hof1 hof2 hBl hbel hown hll hrun hq2 Hof1 Hof2
        have hcase : (k : Int) = 64 ∨ ((k : Int) < 64 ∧ ¬ (r : Int) + (k : Int) < 8 * (np : Int)) := by omega
        clear hin hk
        rcases hcase with h64 | ⟨i1, i2⟩
        · have i1 : ¬ (k : Int) < 64 := by omega
          clear h64
          go_wp2_with fail
          refine G.out.1.mono ?_
          rintro e w5 ⟨rfl, b5⟩
          have G5 := Lib.hid (And.intro (G.out.2.2.1.on b5) (G.out.2.2.2.trans (b5.mono G.out.2.2.2.size)))
          clear b5
          go_wp2_with fail
          refine (G.out.2.1 _ G5.out.1).mono ?_
          rintro e w6 ⟨rfl, b6⟩
          go_wp2_with fail
          go_ret
          exact ⟨by cases qb <;> rfl, G5.out.2.trans (b6.mono G5.out.2.size)⟩
        · go_wp2_with fail
          refine G.out.1.mono ?_
          rintro e w5 ⟨rfl, b5⟩
          have G5 := Lib.hid (And.intro (G.out.2.2.1.on b5) (G.out.2.2.2.trans (b5.mono G.out.2.2.2.size)))
          clear b5
          go_wp2_with fail
          refine (G.out.2.1 _ G5.out.1).mono ?_
          rintro e w6 ⟨rfl, b6⟩
          go_wp2_with fail
          go_ret
          exact ⟨by cases qb <;> rfl, G5.out.2.trans (b6.mono G5.out.2.size)⟩

end Go.Proofs.Ytdfphefhabgjhaa.sumTurned
