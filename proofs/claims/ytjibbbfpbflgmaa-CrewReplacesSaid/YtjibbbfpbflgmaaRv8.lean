/-
  The document's Replace over the reference's code. (Written by tools/gen_rrep8.py.)
-/
import Derived.Test.YtjibbbfpbflgmaaRr8
namespace Go.Proofs.Ytjibbbfpbflgmaa
open Go.RowKit Go.Shelf CrewP
set_option linter.unusedVariables false

section
variable (f : Int) (A : Option Addr) (n c : Nat) (l : List Int) (w : World)
set_option maxRecDepth 100000 in
set_option maxHeartbeats 3200000 in
theorem rreplace_any (h : ArgI w A n c l) (hwl : ∀ x ∈ l, Wf x) (o x : Int) (hx : Wf x) : Calls Try.prog 36 #[.agg #[.int .i64 f, .slice A n c], .int .i64 o, .int .i64 x] w (RetC w (replaceR f l o x)) := by
  have hln := h.1
  obtain ⟨W0, hW0⟩ : ∃ W, w.alloc (.cells #[.int .i64 f, .slice A n c] 24) = W := ⟨_, rfl⟩
  obtain ⟨W1, hW1⟩ : ∃ W, W0.alloc (.cells #[.int .i64 0, .slice none 0 0] 24) = W := ⟨_, rfl⟩
  have hB0 : Blk W0 w.heap.size 24 [.int .i64 f, .slice A n c] := by rw [← hW0]; exact Blk.new rfl rfl
  have hb0 : Below w.heap.size w W0 := by rw [← hW0]; exact (Below.refl _ _).alloc (Nat.le_refl _) _
  have hs0 : W0.heap.size = w.heap.size + 1 := by rw [← hW0]; simp
  have hb01 : Below W0.heap.size W0 W1 := by rw [← hW1]; exact (Below.refl _ _).alloc (Nat.le_refl _) _
  have hx1 : Rx w W1 f A n c l := by rw [← hW1, ← hW0]; exact Rx.new h
  have hk := rcheck_any f A n c l W1 hx1.arg
  have HW := Lib.hid (And.intro hW0 hW1)
  have H0 := Lib.hid (And.intro hB0 (And.intro (h.after hb0) (And.intro hb0 (And.intro hb01 (And.intro hx1 hwl)))))
  clear hW0 hW1 hB0 hb0 hb01 hx1 h hwl
  cases hok : okC f l with
  | false =>
    rw [chk1 hok] at hk
    have e : replaceR f l o x = (0, [], 110) := by simp [replaceR, hok]
    have Hk := Lib.hid hk
    rw [e]; clear e hok hk
    go_enter Try.func36, Try.ntmps36
    go_wp2_with fail
    rw [HW.out.1, HW.out.2]
    refine Hk.out.mono ?_
    rintro e w1 ⟨rfl, hb⟩
    have hx := H0.out.2.2.2.2.1.on hb
    have r0 := hx.r0
    have r1 := hx.r1
    have q0 := hx.res.free
    have Hx := Lib.hid hx
    clear hb hx
    go_wp2
    obtain ⟨hb1, hb2⟩ := Hx.out.out 0 (.slice none 0 0)
    refine bodyPost_ret (results_row_tmp rfl _ _ (w.heap.size + 1) 24 _ _ _ rfl rfl hb1 Try.underlying24 rfl crew_size) rfl ?_
    exact ⟨_, rfl, World.ownsRow_nil _ _ _ _, hb2⟩
  | true =>
    rw [chk0 hok] at hk
    have Hk := Lib.hid hk
    clear hk
    obtain ⟨hf, hl, hasc⟩ := ok_len hok
    have HN := Lib.hid (rnode_any x)
    cases hN : isN x with
    | false =>
      have e : replaceR f l o x = (0, [], 2) := by simp [replaceR, hok, hN]
      rw [hN] at HN
      rw [e]; clear e hok hasc
      go_enter Try.func36, Try.ntmps36
      go_wp2_with fail
      rw [HW.out.1, HW.out.2]
      refine Hk.out.mono ?_
      rintro e w1 ⟨rfl, hb⟩
      have hx := H0.out.2.2.2.2.1.on hb
      have r0 := hx.r0
      have r1 := hx.r1
      have q0 := hx.res.free
      have Hx := Lib.hid hx
      clear hb hx
      go_wp2_with (go_at_call 50; refine (HN.out _).mono ?_; rintro e w'' ⟨rfl, rfl⟩)
      obtain ⟨hb1, hb2⟩ := Hx.out.out 0 (.slice none 0 0)
      refine bodyPost_ret (results_row_tmp rfl _ _ (w.heap.size + 1) 24 _ _ _ rfl rfl hb1 Try.underlying24 rfl crew_size) rfl ?_
      exact ⟨_, rfl, World.ownsRow_nil _ _ _ _, hb2⟩
    | true =>
      rw [hN] at HN
      have HF := Lib.hid (fun W (hW : ArgI W A n c l) (y : Int) (b : Bool) (hb : decide (y ∈ l) = b) => show Calls Try.prog 53 #[.slice A n c, .int .i64 y] W fun e w' => e = .returned (.bool b) ∧ w' = W from by rw [← hb]; exact rin_any A n c l y W hW)
      by_cases ho : o ∈ l
      · by_cases hxl : x ∈ l
        · have e : replaceR f l o x = (0, [], 110) := by simp [replaceR, hok, hN, ho, hxl]
          have Hr := Lib.hid (And.intro (decide_eq_true ho) (decide_eq_true hxl))
          rw [e]; clear e hok hasc ho hxl hN
          go_enter Try.func36, Try.ntmps36
          go_wp2_with fail
          rw [HW.out.1, HW.out.2]
          refine Hk.out.mono ?_
          rintro e w1 ⟨rfl, hb⟩
          have hx := H0.out.2.2.2.2.1.on hb
          have k0 := hx.k0
          have k1 := hx.k1
          have r0 := hx.r0
          have r1 := hx.r1
          have q0 := hx.res.free
          have Hx := Lib.hid hx
          clear hb hx
          go_wp2_with fail
          refine (HN.out _).mono ?_
          rintro e w1' ⟨rfl, rfl⟩
          go_wp2_with fail
          refine (HF.out _ Hx.out.arg _ _ Hr.out.1).mono ?_
          rintro e w2 ⟨rfl, rfl⟩
          go_wp2_with fail
          refine (HF.out _ Hx.out.arg _ _ Hr.out.2).mono ?_
          rintro e w3 ⟨rfl, rfl⟩
          go_wp2
          obtain ⟨hb1, hb2⟩ := Hx.out.out 0 (.slice none 0 0)
          refine bodyPost_ret (results_row_tmp rfl _ _ (w.heap.size + 1) 24 _ _ _ rfl rfl hb1 Try.underlying24 rfl crew_size) rfl ?_
          exact ⟨_, rfl, World.ownsRow_nil _ _ _ _, hb2⟩
        · have e : replaceR f l o x = (f, repL l o x, 0) := by simp [replaceR, hok, hN, ho, hxl]
          have hN2 := ((okC_iff f l).1 hok).2.1
          have hrs := rep_same hasc hN2 (o := o) hxl hN
          have hot : othersR f l o = othersL l o := by simp [othersR, hok]
          have hol : (othersL l o).length ≤ 1000 := Nat.le_trans (List.length_filter_le ..) (by omega)
          have hwf8 : ∀ y ∈ othersL l o ++ [x], Wf y := fun y hy => by
            rcases List.mem_append.1 hy with h | h
            · exact H0.out.2.2.2.2.2 y ((others_mem l o y).1 h).1
            · rw [List.mem_singleton.1 h]; exact hx
          obtain ⟨ot, eo⟩ : ∃ ot, othersL l o = ot := ⟨_, rfl⟩
          rw [eo] at hrs hot hol hwf8
          have Hr := Lib.hid (And.intro (decide_eq_true ho) (decide_eq_false hxl))
          have Ho := Lib.hid (And.intro hrs (And.intro hot (And.intro hol hwf8)))
          rw [e]; clear e hok hasc ho hxl hN hN2 hrs hot hol hwf8 eo
          go_enter Try.func36, Try.ntmps36
          go_wp2_with fail
          rw [HW.out.1, HW.out.2]
          refine Hk.out.mono ?_
          rintro e w1 ⟨rfl, hb⟩
          have hx := H0.out.2.2.2.2.1.on hb
          have hb1 := H0.out.2.2.2.1.trans (hb.mono H0.out.2.2.2.1.size)
          have k0 := hx.k0
          have k1 := hx.k1
          have Hx := Lib.hid (And.intro hx hb1)
          clear hb hx hb1
          go_wp2_with fail
          refine (HN.out _).mono ?_
          rintro e w1' ⟨rfl, rfl⟩
          go_wp2_with fail
          refine (HF.out _ Hx.out.1.arg _ _ Hr.out.1).mono ?_
          rintro e w2 ⟨rfl, rfl⟩
          go_wp2_with fail
          refine (HF.out _ Hx.out.1.arg _ _ Hr.out.2).mono ?_
          rintro e w3 ⟨rfl, rfl⟩
          clear k0 k1
          go_wp2_with fail
          have hE11 := Lib.hid (show Blk w3.drew (w.heap.size + 1) 24 [.int .i64 0, .slice none 0 0] from Hx.out.1.res.below (Below.refl _ _).drew Hx.out.1.res.lt)
          refine region_rule6 (P := Try.prog) 11 37 1 rbK rbD (rbR W0 w.heap.size (w.heap.size + 1) f A n c o x ot) (fun w => Below (W0).heap.size (W0) w ∧ rbX W0 w.heap.size (w.heap.size + 1) f A n c o x ot w) _ _ (by kernel_rfl) rfl rfl (by kernel_rfl) (by decide +kernel) (by decide +kernel) ⟨Hx.out.2.drew, trivial⟩ (fun y h1 h2 => by
            obtain rfl : y = 11 := by omega
            exact ⟨_, rfl, _, _, hE11.out, rfl⟩) (rb_step W0 w.heap.size (w.heap.size + 1) f A n c o x ot (by rfl) (by rfl) (by decide +kernel) (by kernel_rfl) rfl rfl rfl rfl l H0.out.1 H0.out.2.1 Ho.out.2.1 Ho.out.2.2.1 Ho.out.2.2.2 (Nat.le_of_eq hs0)) ?fin
          case fin =>
            intro a w6 hbase hI hall
            obtain ⟨u8, hu8, V, eV, hO⟩ := hall 8 (by decide) (by decide)
            obtain ⟨u9, hu9, V9, eV9, hBl⟩ := hall 9 (by decide) (by decide)
            obtain ⟨u10, hu10, e10⟩ := hall 10 (by decide) (by decide)
            obtain ⟨u11, hu11, p11, q11, _, e11⟩ := hall 11 (by decide) (by decide)
            have h89 : u8 = u9 := Option.some.inj (hu8.symm.trans hu9)
            rw [h89, eV9] at eV
            have hVV : V9 = V := by
              injection eV with eV
              have := congrArg (fun t : Array Value => t[1]?) eV
              simpa using this
            subst hVV
            have hb2 := H0.out.2.2.1.trans (hI.1.mono H0.out.2.2.1.size)
            have hsz := H0.out.2.2.1.size
            have hdf : a.defers = [] := hbase.2.1
            go_wp2
            have hp : a.tmps.getD 6 undef = .pointer (some ⟨w.heap.size + 1, 0, none⟩) := by
              rw [Array.getD_eq_getD_getElem?, show a.tmps[6]? = some u11 from hu11, e11]; rfl
            have hq : a.tmps.getD 7 undef = .int .i64 0 := by
              rw [Array.getD_eq_getD_getElem?, show a.tmps[7]? = some u10 from hu10, show u10 = .int .i64 0 from e10]; rfl
            refine bodyPost_ret (results_row_tmp rfl _ _ (w.heap.size + 1) 24 _ _ _ hp hq hBl Try.underlying24 rfl crew_size) hdf ?_
            rw [Ho.out.1] at hO
            exact ⟨_, rfl, own_base hO hsz, hb2⟩
      · have e : replaceR f l o x = (0, [], 110) := by simp [replaceR, hok, hN, ho]
        have Hr := Lib.hid (decide_eq_false ho)
        rw [e]; clear e hok hasc ho hN
        go_enter Try.func36, Try.ntmps36
        go_wp2_with fail
        rw [HW.out.1, HW.out.2]
        refine Hk.out.mono ?_
        rintro e w1 ⟨rfl, hb⟩
        have hx := H0.out.2.2.2.2.1.on hb
        have k0 := hx.k0
        have k1 := hx.k1
        have r0 := hx.r0
        have r1 := hx.r1
        have q0 := hx.res.free
        have Hx := Lib.hid hx
        clear hb hx
        go_wp2_with fail
        refine (HN.out _).mono ?_
        rintro e w1' ⟨rfl, rfl⟩
        go_wp2_with fail
        refine (HF.out _ Hx.out.arg _ _ Hr.out).mono ?_
        rintro e w2 ⟨rfl, rfl⟩
        go_wp2
        obtain ⟨hb1, hb2⟩ := Hx.out.out 0 (.slice none 0 0)
        refine bodyPost_ret (results_row_tmp rfl _ _ (w.heap.size + 1) 24 _ _ _ rfl rfl hb1 Try.underlying24 rfl crew_size) rfl ?_
        exact ⟨_, rfl, World.ownsRow_nil _ _ _ _, hb2⟩
end
end Go.Proofs.Ytjibbbfpbflgmaa
