/-
  The chapter's numbers and examples, both ends, marks that are none: MarksNames returns true; a closed statement.
-/
import Derived.Test.YtenccpccpjjkmaaZ01
import Derived.Test.YtenccpccpjjkmaaZ19
namespace Go.Proofs.Ytenccpccpjjkmaa.marksNames
open Go.ChangeShapes Go.WideShapes Go.ChangeAt Go.RowKit Go.Maps Go.Shelf Go.Sort CrewP
set_option linter.unusedVariables false

set_option linter.unusedSimpArgs false
open marksPlays
set_option maxRecDepth 100000 in
set_option maxHeartbeats 64000000 in
theorem walk  (w : World)  :
    Calls Try.prog 8 #[] w fun e w' => e = .returned (.bool true) ∧ Below w.heap.size w w' := by
  have HAw : Hid (∀ W, Calls Try.prog 17 #[] W fun e w' => e = .returned (.bool true) ∧ Below W.heap.size W w') := Lib.hid fun W => awake_any W
  have HM0 : Hid (∀ W, Calls Try.prog 19 #[.int .i64 4, .int .u8 1] W fun e w' => e = .returned (.agg (mkC nx0).toArray) ∧ Below W.heap.size W w') := Lib.hid fun W => mark_any 4 1 (by decide) W
  have HM1 : Hid (∀ W, Calls Try.prog 19 #[.int .i64 0, .int .u8 1] W fun e w' => e = .returned (.agg (mkC nx1).toArray) ∧ Below W.heap.size W w') := Lib.hid fun W => mark_any 0 1 (by decide) W
  have HM2 : Hid (∀ W, Calls Try.prog 19 #[.int .i64 (-1), .int .u8 1] W fun e w' => e = .returned (.agg (mkC nx2).toArray) ∧ Below W.heap.size W w') := Lib.hid fun W => mark_any (-1) 1 (by decide) W
  have HM3 : Hid (∀ W, Calls Try.prog 19 #[.int .i64 9007199254740991, .int .u8 1] W fun e w' => e = .returned (.agg (mkC nx3).toArray) ∧ Below W.heap.size W w') := Lib.hid fun W => mark_any 9007199254740991 1 (by decide) W
  have HM4 : Hid (∀ W, Calls Try.prog 19 #[.int .i64 9007199254740992, .int .u8 1] W fun e w' => e = .returned (.agg (mkC nx4).toArray) ∧ Below W.heap.size W w') := Lib.hid fun W => mark_any 9007199254740992 1 (by decide) W
  have HM5 : Hid (∀ W, Calls Try.prog 19 #[.int .i64 9007199254740991, .int .u8 2] W fun e w' => e = .returned (.agg (mkC nx5).toArray) ∧ Below W.heap.size W w') := Lib.hid fun W => mark_any 9007199254740991 2 (by decide) W
  have HM6 : Hid (∀ W, Calls Try.prog 19 #[.int .i64 5, .int .u8 1] W fun e w' => e = .returned (.agg (mkC nx6).toArray) ∧ Below W.heap.size W w') := Lib.hid fun W => mark_any 5 1 (by decide) W
  have HM7 : Hid (∀ W, Calls Try.prog 19 #[.int .i64 3, .int .u8 1] W fun e w' => e = .returned (.agg (mkC nx7).toArray) ∧ Below W.heap.size W w') := Lib.hid fun W => mark_any 3 1 (by decide) W
  have HM8 : Hid (∀ W, Calls Try.prog 19 #[.int .i64 1, .int .u8 1] W fun e w' => e = .returned (.agg (mkC nx8).toArray) ∧ Below W.heap.size W w') := Lib.hid fun W => mark_any 1 1 (by decide) W
  have HM9 : Hid (∀ W, Calls Try.prog 19 #[.int .i64 2, .int .u8 1] W fun e w' => e = .returned (.agg (mkC nx9).toArray) ∧ Below W.heap.size W w') := Lib.hid fun W => mark_any 2 1 (by decide) W
  have HM10 : Hid (∀ W, Calls Try.prog 19 #[.int .i64 (-1), .int .u8 0] W fun e w' => e = .returned (.agg (mkC nx10).toArray) ∧ Below W.heap.size W w') := Lib.hid fun W => mark_any (-1) 0 (by decide) W
  have HM11 : Hid (∀ W, Calls Try.prog 19 #[.int .i64 3, .int .u8 4] W fun e w' => e = .returned (.agg (mkC nx11).toArray) ∧ Below W.heap.size W w') := Lib.hid fun W => mark_any 3 4 (by decide) W
  have HM12 : Hid (∀ W, Calls Try.prog 19 #[.int .i64 2, .int .u8 4] W fun e w' => e = .returned (.agg (mkC nx12).toArray) ∧ Below W.heap.size W w') := Lib.hid fun W => mark_any 2 4 (by decide) W
  have HM13 : Hid (∀ W, Calls Try.prog 19 #[.int .i64 3, .int .u8 5] W fun e w' => e = .returned (.agg (mkC nx13).toArray) ∧ Below W.heap.size W w') := Lib.hid fun W => mark_any 3 5 (by decide) W
  have HM14 : Hid (∀ W, Calls Try.prog 19 #[.int .i64 9007199254740992, .int .u8 5] W fun e w' => e = .returned (.agg (mkC nx14).toArray) ∧ Below W.heap.size W w') := Lib.hid fun W => mark_any 9007199254740992 5 (by decide) W
  have HM15 : Hid (∀ W, Calls Try.prog 19 #[.int .i64 9007199254740991, .int .u8 5] W fun e w' => e = .returned (.agg (mkC nx15).toArray) ∧ Below W.heap.size W w') := Lib.hid fun W => mark_any 9007199254740991 5 (by decide) W
  have HM16 : Hid (∀ W, Calls Try.prog 19 #[.int .i64 0, .int .u8 5] W fun e w' => e = .returned (.agg (mkC nx16).toArray) ∧ Below W.heap.size W w') := Lib.hid fun W => mark_any 0 5 (by decide) W
  have HM17 : Hid (∀ W, Calls Try.prog 19 #[.int .i64 9007199254740991, .int .u8 0] W fun e w' => e = .returned (.agg (mkC nx17).toArray) ∧ Below W.heap.size W w') := Lib.hid fun W => mark_any 9007199254740991 0 (by decide) W
  have HD0 : Hid (Try.prog.built 39 [(0, .int .i64 0), (1, .int .i64 9), (2, .agg (mkC nx0).toArray)] = some (doC ⟨0, 9, nx0⟩).toArray) := Lib.hid (built_do 0 9 nx0)
  have HD1 : Hid (Try.prog.built 39 [(0, .int .i64 0), (1, .int .i64 0), (2, .agg (mkC nx0).toArray)] = some (doC ⟨0, 0, nx0⟩).toArray) := Lib.hid (built_do 0 0 nx0)
  have HD2 : Hid (Try.prog.built 39 [(0, .int .i64 0), (1, .int .i64 1), (2, .agg (mkC nx1).toArray)] = some (doC ⟨0, 1, nx1⟩).toArray) := Lib.hid (built_do 0 1 nx1)
  have HD3 : Hid (Try.prog.built 39 [(0, .int .i64 0), (1, .int .i64 1), (2, .agg (mkC nx2).toArray)] = some (doC ⟨0, 1, nx2⟩).toArray) := Lib.hid (built_do 0 1 nx2)
  have HD4 : Hid (Try.prog.built 39 [(0, .int .i64 0), (1, .int .i64 1), (2, .agg (mkC nx3).toArray)] = some (doC ⟨0, 1, nx3⟩).toArray) := Lib.hid (built_do 0 1 nx3)
  have HD5 : Hid (Try.prog.built 39 [(0, .int .i64 0), (1, .int .i64 1), (2, .agg (mkC nx4).toArray)] = some (doC ⟨0, 1, nx4⟩).toArray) := Lib.hid (built_do 0 1 nx4)
  have HD6 : Hid (Try.prog.built 39 [(0, .int .i64 0), (1, .int .i64 2), (2, .agg (mkC nx3).toArray)] = some (doC ⟨0, 2, nx3⟩).toArray) := Lib.hid (built_do 0 2 nx3)
  have HD7 : Hid (Try.prog.built 39 [(0, .int .i64 0), (1, .int .i64 3), (2, .agg (mkC nx5).toArray)] = some (doC ⟨0, 3, nx5⟩).toArray) := Lib.hid (built_do 0 3 nx5)
  have HD8 : Hid (Try.prog.built 39 [(0, .int .i64 0), (1, .int .i64 4), (2, .agg (mkC nx5).toArray)] = some (doC ⟨0, 4, nx5⟩).toArray) := Lib.hid (built_do 0 4 nx5)
  have HD9 : Hid (Try.prog.built 39 [(0, .int .i64 0), (1, .int .i64 1), (2, .agg (mkC nx6).toArray)] = some (doC ⟨0, 1, nx6⟩).toArray) := Lib.hid (built_do 0 1 nx6)
  have HD10 : Hid (Try.prog.built 39 [(0, .int .i64 0), (1, .int .i64 1), (2, .agg (mkC nx7).toArray)] = some (doC ⟨0, 1, nx7⟩).toArray) := Lib.hid (built_do 0 1 nx7)
  have HD11 : Hid (Try.prog.built 39 [(0, .int .i64 0), (1, .int .i64 1), (2, .agg (mkC nx0).toArray)] = some (doC ⟨0, 1, nx0⟩).toArray) := Lib.hid (built_do 0 1 nx0)
  have HD12 : Hid (Try.prog.built 39 [(0, .int .i64 0), (1, .int .i64 1), (2, .agg (mkC nx8).toArray)] = some (doC ⟨0, 1, nx8⟩).toArray) := Lib.hid (built_do 0 1 nx8)
  have HD13 : Hid (Try.prog.built 39 [(0, .int .i64 0), (1, .int .i64 1), (2, .agg (mkC nx9).toArray)] = some (doC ⟨0, 1, nx9⟩).toArray) := Lib.hid (built_do 0 1 nx9)
  have HD14 : Hid (Try.prog.built 39 [(0, .int .i64 1), (1, .int .i64 0), (2, .agg (mkC nx10).toArray)] = some (doC ⟨1, 0, nx10⟩).toArray) := Lib.hid (built_do 1 0 nx10)
  have HD15 : Hid (Try.prog.built 39 [(0, .int .i64 1), (1, .int .i64 0), (2, .agg (mkC nx11).toArray)] = some (doC ⟨1, 0, nx11⟩).toArray) := Lib.hid (built_do 1 0 nx11)
  have HD16 : Hid (Try.prog.built 39 [(0, .int .i64 1), (1, .int .i64 0), (2, .agg (mkC nx12).toArray)] = some (doC ⟨1, 0, nx12⟩).toArray) := Lib.hid (built_do 1 0 nx12)
  have HD17 : Hid (Try.prog.built 39 [(0, .int .i64 1), (1, .int .i64 0), (2, .agg (mkC nx13).toArray)] = some (doC ⟨1, 0, nx13⟩).toArray) := Lib.hid (built_do 1 0 nx13)
  have HD18 : Hid (Try.prog.built 39 [(0, .int .i64 1), (1, .int .i64 0), (2, .agg (mkC nx14).toArray)] = some (doC ⟨1, 0, nx14⟩).toArray) := Lib.hid (built_do 1 0 nx14)
  have HD19 : Hid (Try.prog.built 39 [(0, .int .i64 1), (1, .int .i64 0), (2, .agg (mkC nx15).toArray)] = some (doC ⟨1, 0, nx15⟩).toArray) := Lib.hid (built_do 1 0 nx15)
  have HD20 : Hid (Try.prog.built 39 [(0, .int .i64 0), (1, .int .i64 1), (2, .agg (mkC nx15).toArray)] = some (doC ⟨0, 1, nx15⟩).toArray) := Lib.hid (built_do 0 1 nx15)
  have HR := Lib.hid row_nmL
  have HL := Lib.hid arg_nmL
  have HP0 : Hid (∀ (f : Int) A n c ns B m d l W, ArgC W f A n c ns → ArgDm W B m d l → Calls Try.prog 3 #[.agg #[.int .i64 f, .slice A n c], .agg (mkC mk0).toArray, .slice B m d] W fun e w' => e = .returned (.bool true) ∧ Below W.heap.size W w') := Lib.hid fun f A n c ns B m d l W h1 h2 => plays f A n c ns mk0 B m d l W h1 h2
  have HP1 : Hid (∀ (f : Int) A n c ns B m d l W, ArgC W f A n c ns → ArgDm W B m d l → Calls Try.prog 3 #[.agg #[.int .i64 f, .slice A n c], .agg (mkC nx16).toArray, .slice B m d] W fun e w' => e = .returned (.bool true) ∧ Below W.heap.size W w') := Lib.hid fun f A n c ns B m d l W h1 h2 => plays f A n c ns nx16 B m d l W h1 h2
  have HP2 : Hid (∀ (f : Int) A n c ns B m d l W, ArgC W f A n c ns → ArgDm W B m d l → Calls Try.prog 3 #[.agg #[.int .i64 f, .slice A n c], .agg (mkC nx10).toArray, .slice B m d] W fun e w' => e = .returned (.bool true) ∧ Below W.heap.size W w') := Lib.hid fun f A n c ns B m d l W h1 h2 => plays f A n c ns nx10 B m d l W h1 h2
  have HP3 : Hid (∀ (f : Int) A n c ns B m d l W, ArgC W f A n c ns → ArgDm W B m d l → Calls Try.prog 3 #[.agg #[.int .i64 f, .slice A n c], .agg (mkC nx17).toArray, .slice B m d] W fun e w' => e = .returned (.bool true) ∧ Below W.heap.size W w') := Lib.hid fun f A n c ns B m d l W h1 h2 => plays f A n c ns nx17 B m d l W h1 h2
  have HK : Hid (∀ (F : Nat), F ≤ 2 → ∀ W, Calls Try.prog 26 #[.int .i64 (F : Int)] W fun e w' => ∃ A cap, e = .returned (.agg #[.int .i64 (F : Int), .slice A (3 * F + 1) cap]) ∧ ArgC w' (F : Int) A (3 * F + 1) cap (ndL (3 * F + 1)) ∧ Below W.heap.size W w') := Lib.hid fun F hF W => crew_arg F hF W
  have HC0 := Lib.hid built_crew0
  have HZ0 := Lib.hid built_mark0
  have HN0 := Lib.hid built_marks0
  have HZb : Hid (Try.prog.built 28 [(0, .int .i64 (-1))] = some (mkC ⟨-1, zero32, by decide, rfl⟩).toArray) := Lib.hid (by kernel_rfl)
  have heq : ∀ W, (Op.equalIn 10000 28 (.agg (mkC mk0).toArray) (.agg (mkC mk0).toArray)).run Try.prog W = .ok true W := fun W => by have := eq_mark mk0 mk0 W; simpa using this
  have HEq := Lib.hid heq
  clear heq
  have HV : Hid (∀ pv W, NoM W pv → Calls Try.prog 12 #[.pointer pv, .int .i64 0, .agg (mkC mk0).toArray] W fun e w' => e = .returned (.int .i64 1) ∧ Below W.heap.size W w') := Lib.hid fun pv W h => mvote h 0 mk0
  have HRz : Hid (∀ pv W, NoM W pv → Calls Try.prog 14 #[.pointer pv, .agg (mkC ⟨-1, zero32, by decide, rfl⟩).toArray] W fun e w' => e = .returned (.int .i64 1) ∧ Below W.heap.size W w') := Lib.hid fun pv W h => mraise h _
  have HLo : Hid (∀ pv W, NoM W pv → Calls Try.prog 23 #[.pointer pv] W fun e w' => e = .returned (.agg (mkC mk0).toArray) ∧ Below W.heap.size W w') := Lib.hid fun pv W h => mlow h
  have HOf : Hid (∀ pv W, NoM W pv → Calls Try.prog 22 #[.pointer pv, .int .i64 1] W fun e w' => e = .returned (.slice none 0 0) ∧ w' = W) := Lib.hid fun pv W h => mof h 1
  have HSt : Hid (∀ pv W, NoM W pv → Calls Try.prog 20 #[.pointer pv] W fun e w' => e = .returned (.tuple #[.agg (mkC mk0).toArray, .bool false]) ∧ Below W.heap.size W w') := Lib.hid fun pv W h => mstable h
  have HKn : Hid (∀ pv W, NoM W pv → Calls Try.prog 21 #[.pointer pv] W fun e w' => e = .returned (.tuple #[.agg (mkC mk0).toArray, .bool false]) ∧ Below W.heap.size W w') := Lib.hid fun pv W h => mknown h
  have HVar : Hid (∀ W : World, ∃ wS, (W.alloc (.cells (mkC mk0).toArray 28)).setCells W.heap.size 0 (mkC mk0) = wS ∧ ((W.alloc (.cells (mkC mk0).toArray 28)).there W.heap.size 0 (mkC mk0).toArray.size ∧ (Try.prog.info? 28).map (·.size) = some (mkC mk0).toArray.size ∧ (mkC mk0).toArray.all (·.oneCell') = true) ∧ Below W.heap.size W wS) := Lib.hid fun W => by
    obtain ⟨wS, hwS, ⟨hth, hin⟩, hbS, hbe, hsS⟩ := row_local W 28 (mkC mk0) (mkC mk0) (by rw [mkC_len]) (by rw [mkC_len]; exact mark_info1)
    exact ⟨wS, hwS, ⟨hth, hin, mkC_oneA mk0⟩, hbe⟩
  have HNo : Hid (∀ W : World, NoM (W.alloc (.cells (msU 0 (.slice none 0 0) mk0 (.map none)).toArray 64)) (some ⟨W.heap.size, 0, none⟩)) := Lib.hid fun W => .inr ⟨_, rfl, Blk.new rfl rfl⟩
  generalize mkC nx0 = X0 at *
  generalize mkC nx1 = X1 at *
  generalize mkC nx2 = X2 at *
  generalize mkC nx3 = X3 at *
  generalize mkC nx4 = X4 at *
  generalize mkC nx5 = X5 at *
  generalize mkC nx6 = X6 at *
  generalize mkC nx7 = X7 at *
  generalize mkC nx8 = X8 at *
  generalize mkC nx9 = X9 at *
  generalize mkC nx10 = X10 at *
  generalize mkC nx11 = X11 at *
  generalize mkC nx12 = X12 at *
  generalize mkC nx13 = X13 at *
  generalize mkC nx14 = X14 at *
  generalize mkC nx15 = X15 at *
  generalize mkC nx16 = X16 at *
  generalize mkC nx17 = X17 at *
  generalize doC ⟨0, 9, nx0⟩ = D0 at *
  generalize doC ⟨0, 0, nx0⟩ = D1 at *
  generalize doC ⟨0, 1, nx1⟩ = D2 at *
  generalize doC ⟨0, 1, nx2⟩ = D3 at *
  generalize doC ⟨0, 1, nx3⟩ = D4 at *
  generalize doC ⟨0, 1, nx4⟩ = D5 at *
  generalize doC ⟨0, 2, nx3⟩ = D6 at *
  generalize doC ⟨0, 3, nx5⟩ = D7 at *
  generalize doC ⟨0, 4, nx5⟩ = D8 at *
  generalize doC ⟨0, 1, nx6⟩ = D9 at *
  generalize doC ⟨0, 1, nx7⟩ = D10 at *
  generalize doC ⟨0, 1, nx0⟩ = D11 at *
  generalize doC ⟨0, 1, nx8⟩ = D12 at *
  generalize doC ⟨0, 1, nx9⟩ = D13 at *
  generalize doC ⟨1, 0, nx10⟩ = D14 at *
  generalize doC ⟨1, 0, nx11⟩ = D15 at *
  generalize doC ⟨1, 0, nx12⟩ = D16 at *
  generalize doC ⟨1, 0, nx13⟩ = D17 at *
  generalize doC ⟨1, 0, nx14⟩ = D18 at *
  generalize doC ⟨1, 0, nx15⟩ = D19 at *
  generalize doC ⟨0, 1, nx15⟩ = D20 at *
  generalize (nmL.flatMap doC).toArray = LL at *
  generalize msU 0 (.slice none 0 0) mk0 (.map none) = NC at *
  generalize mkC ⟨-1, zero32, by decide, rfl⟩ = Y at *
  generalize hZ : mkC mk0 = Z at *
  go_enter Try.func8, Try.ntmps8
  subst hZ
  go_upto_region 3 with fail
  go_loopw [1, 2] (fun v1 v2 wr => ∃ (i : Nat) (pv : Option Addr), i ≤ 2 ∧ v2 = .int .i64 (i : Int) ∧ v1 = .pointer pv ∧ NoM wr pv ∧ Below w.heap.size w wr) (fun _ v _ => 10 - (intOf v).toNat)
  case atStart => exact ⟨0, none, by omega, rfl, rfl, .inl rfl, Below.refl _ _⟩
  case round =>
    rename World => wo
    obtain ⟨i, pv, hi, rfl, rfl, hN, hB⟩ := hrel
    have H0 := Lib.hid (And.intro hN hB)
    clear hN hB
    by_cases hi2 : i < 2
    · have hi3 : (i : Int) < 2 := by omega
      have hwi : IntKind.i64.wrap ((i : Int) + 1) = (i : Int) + 1 := IntWalk.i64_in _ (by omega)
      go_wp2_with fail
      refine (HSt.out _ _ H0.out.1).mono ?_
      rintro e w1 ⟨rfl, hb⟩
      obtain ⟨u1, s1, s2, s3⟩ := HVar.out w1
      have H1 := Lib.hid (And.intro ((H0.out.1.below hb).below s3) ((H0.out.2.trans (hb.mono H0.out.2.size)).trans (s3.mono (Nat.le_trans H0.out.2.size hb.size))))
      have S1 := Lib.hid (And.intro s1 s2)
      clear s1 s2 s3 hb
      go_wp2_with (refine wpList_store_mid rfl 28 _ _ rfl w1.heap.size 0 (mkC mk0).toArray rfl rfl S1.out.2.1 S1.out.2.2.1 S1.out.2.2.2 ?_; simp only [Act.put]; refine cast (congrArg (fun z => wpList _ _ _ _ _ z) S1.out.1.symm) ?_)
      refine (HKn.out _ _ H1.out.1).mono ?_
      rintro e w2 ⟨rfl, hb⟩
      obtain ⟨u2, s1, s2, s3⟩ := HVar.out w2
      have H2 := Lib.hid (And.intro ((H1.out.1.below hb).below s3) ((H1.out.2.trans (hb.mono H1.out.2.size)).trans (s3.mono (Nat.le_trans H1.out.2.size hb.size))))
      have S2 := Lib.hid (And.intro s1 s2)
      clear s1 s2 s3 hb
      go_upto_region 7 with (refine wpList_store_mid rfl 28 _ _ rfl w2.heap.size 0 (mkC mk0).toArray rfl rfl S2.out.2.1 S2.out.2.2.1 S2.out.2.2.2 ?_; simp only [Act.put]; refine cast (congrArg (fun z => wpList _ _ _ _ _ z) S2.out.1.symm) ?_)
      have heq := HEq.out
      go_upto_region 9 with (first
        | (go_at_call 23; refine (HLo.out _ _ H2.out.1).mono ?_; rintro e w3 ⟨rfl, hb⟩; have H3 := Lib.hid (And.intro (H2.out.1.below hb) (H2.out.2.trans (hb.mono H2.out.2.size))); clear hb)
        | (go_at_call 12; refine (HV.out _ _ H3.out.1).mono ?_; rintro e w4 ⟨rfl, hb⟩; have H4 := Lib.hid (And.intro (H3.out.1.below hb) (H3.out.2.trans (hb.mono H3.out.2.size))); clear hb)
        | (go_at_call 22; refine (HOf.out _ _ H4.out.1).mono ?_; rintro e w9 ⟨rfl, hww⟩; have hww2 := hww.symm; subst hww2; clear hww)
        | (go_at_call 14; refine (HRz.out _ _ H4.out.1).mono ?_; rintro e w5 ⟨rfl, hb⟩; have H5 := Lib.hid (And.intro (H4.out.1.below hb) (H4.out.2.trans (hb.mono H4.out.2.size))); clear hb)
        | (show wpList _ _ _ ({ dst := some 46, op := _, type := _, pos := _, after := _, guard := _ } :: _) _ _; refine wpList_build_g (by rfl) 28 _ rfl Y.toArray HZb.out ?_; simp only [Act.put])
        | (refine wpList_build_g (by rfl) 28 _ rfl (mkC mk0).toArray HZ0.out ?_; simp only [Act.put]))
      clear heq
      have hb6 : Below w5.heap.size w5 (w5.alloc (.cells NC.toArray 64)) := (Below.refl _ _).alloc (Nat.le_refl _) _
      have H6 := Lib.hid (And.intro (HNo.out w5) (H5.out.2.trans (hb6.mono H5.out.2.size)))
      clear hb6
      go_wp2_with (refine wpList_build_g (by rfl) 64 _ rfl NC.toArray HN0.out ?_; simp only [Act.put])
      go_roundw
      case rel => exact ⟨i + 1, _, by omega, by first | rfl | (push_cast; rfl), rfl, H6.out.1, H6.out.2⟩
      case measure => simp [intOf]; omega
    · have hi3 : ¬ (i : Int) < 2 := by omega
      have G0 := Lib.hid H0.out.2
      clear H0
      go_wp2_with fail
      refine (HM0.out _).mono ?_
      rintro e w1 ⟨rfl, hb⟩
      have G1 := Lib.hid (G0.out.trans (hb.mono G0.out.size))
      clear hb G0
      go_wp2_with (refine wpList_build_g (by rfl) 39 _ rfl D0.toArray HD0.out ?_; simp only [Act.put])
      refine (HM0.out _).mono ?_
      rintro e w2 ⟨rfl, hb⟩
      have G2 := Lib.hid (G1.out.trans (hb.mono G1.out.size))
      clear hb G1
      go_wp2_with (refine wpList_build_g (by rfl) 39 _ rfl D1.toArray HD1.out ?_; simp only [Act.put])
      refine (HM1.out _).mono ?_
      rintro e w3 ⟨rfl, hb⟩
      have G3 := Lib.hid (G2.out.trans (hb.mono G2.out.size))
      clear hb G2
      go_wp2_with (refine wpList_build_g (by rfl) 39 _ rfl D2.toArray HD2.out ?_; simp only [Act.put])
      refine (HM2.out _).mono ?_
      rintro e w4 ⟨rfl, hb⟩
      have G4 := Lib.hid (G3.out.trans (hb.mono G3.out.size))
      clear hb G3
      go_wp2_with (refine wpList_build_g (by rfl) 39 _ rfl D3.toArray HD3.out ?_; simp only [Act.put])
      refine (HM3.out _).mono ?_
      rintro e w5 ⟨rfl, hb⟩
      have G5 := Lib.hid (G4.out.trans (hb.mono G4.out.size))
      clear hb G4
      go_wp2_with (refine wpList_build_g (by rfl) 39 _ rfl D4.toArray HD4.out ?_; simp only [Act.put])
      refine (HM4.out _).mono ?_
      rintro e w6 ⟨rfl, hb⟩
      have G6 := Lib.hid (G5.out.trans (hb.mono G5.out.size))
      clear hb G5
      go_wp2_with (refine wpList_build_g (by rfl) 39 _ rfl D5.toArray HD5.out ?_; simp only [Act.put])
      refine (HM3.out _).mono ?_
      rintro e w7 ⟨rfl, hb⟩
      have G7 := Lib.hid (G6.out.trans (hb.mono G6.out.size))
      clear hb G6
      go_wp2_with (refine wpList_build_g (by rfl) 39 _ rfl D6.toArray HD6.out ?_; simp only [Act.put])
      refine (HM5.out _).mono ?_
      rintro e w8 ⟨rfl, hb⟩
      have G8 := Lib.hid (G7.out.trans (hb.mono G7.out.size))
      clear hb G7
      go_wp2_with (refine wpList_build_g (by rfl) 39 _ rfl D7.toArray HD7.out ?_; simp only [Act.put])
      refine (HM5.out _).mono ?_
      rintro e w9 ⟨rfl, hb⟩
      have G9 := Lib.hid (G8.out.trans (hb.mono G8.out.size))
      clear hb G8
      go_wp2_with (refine wpList_build_g (by rfl) 39 _ rfl D8.toArray HD8.out ?_; simp only [Act.put])
      refine (HM6.out _).mono ?_
      rintro e w10 ⟨rfl, hb⟩
      have G10 := Lib.hid (G9.out.trans (hb.mono G9.out.size))
      clear hb G9
      go_wp2_with (refine wpList_build_g (by rfl) 39 _ rfl D9.toArray HD9.out ?_; simp only [Act.put])
      refine (HM7.out _).mono ?_
      rintro e w11 ⟨rfl, hb⟩
      have G11 := Lib.hid (G10.out.trans (hb.mono G10.out.size))
      clear hb G10
      go_wp2_with (refine wpList_build_g (by rfl) 39 _ rfl D10.toArray HD10.out ?_; simp only [Act.put])
      refine (HM0.out _).mono ?_
      rintro e w12 ⟨rfl, hb⟩
      have G12 := Lib.hid (G11.out.trans (hb.mono G11.out.size))
      clear hb G11
      go_wp2_with (refine wpList_build_g (by rfl) 39 _ rfl D11.toArray HD11.out ?_; simp only [Act.put])
      refine (HM8.out _).mono ?_
      rintro e w13 ⟨rfl, hb⟩
      have G13 := Lib.hid (G12.out.trans (hb.mono G12.out.size))
      clear hb G12
      go_wp2_with (refine wpList_build_g (by rfl) 39 _ rfl D12.toArray HD12.out ?_; simp only [Act.put])
      refine (HM9.out _).mono ?_
      rintro e w14 ⟨rfl, hb⟩
      have G14 := Lib.hid (G13.out.trans (hb.mono G13.out.size))
      clear hb G13
      go_wp2_with (refine wpList_build_g (by rfl) 39 _ rfl D13.toArray HD13.out ?_; simp only [Act.put])
      refine (HM10.out _).mono ?_
      rintro e w15 ⟨rfl, hb⟩
      have G15 := Lib.hid (G14.out.trans (hb.mono G14.out.size))
      clear hb G14
      go_wp2_with (refine wpList_build_g (by rfl) 39 _ rfl D14.toArray HD14.out ?_; simp only [Act.put])
      refine (HM11.out _).mono ?_
      rintro e w16 ⟨rfl, hb⟩
      have G16 := Lib.hid (G15.out.trans (hb.mono G15.out.size))
      clear hb G15
      go_wp2_with (refine wpList_build_g (by rfl) 39 _ rfl D15.toArray HD15.out ?_; simp only [Act.put])
      refine (HM12.out _).mono ?_
      rintro e w17 ⟨rfl, hb⟩
      have G17 := Lib.hid (G16.out.trans (hb.mono G16.out.size))
      clear hb G16
      go_wp2_with (refine wpList_build_g (by rfl) 39 _ rfl D16.toArray HD16.out ?_; simp only [Act.put])
      refine (HM13.out _).mono ?_
      rintro e w18 ⟨rfl, hb⟩
      have G18 := Lib.hid (G17.out.trans (hb.mono G17.out.size))
      clear hb G17
      go_wp2_with (refine wpList_build_g (by rfl) 39 _ rfl D17.toArray HD17.out ?_; simp only [Act.put])
      refine (HM14.out _).mono ?_
      rintro e w19 ⟨rfl, hb⟩
      have G19 := Lib.hid (G18.out.trans (hb.mono G18.out.size))
      clear hb G18
      go_wp2_with (refine wpList_build_g (by rfl) 39 _ rfl D18.toArray HD18.out ?_; simp only [Act.put])
      refine (HM15.out _).mono ?_
      rintro e w20 ⟨rfl, hb⟩
      have G20 := Lib.hid (G19.out.trans (hb.mono G19.out.size))
      clear hb G19
      go_wp2_with (refine wpList_build_g (by rfl) 39 _ rfl D19.toArray HD19.out ?_; simp only [Act.put])
      refine (HM15.out _).mono ?_
      rintro e w21 ⟨rfl, hb⟩
      have G21 := Lib.hid (G20.out.trans (hb.mono G20.out.size))
      clear hb G20
      obtain ⟨v1, hv1⟩ : ∃ W, w21.alloc (.cells LL 39) = W := ⟨_, rfl⟩
      have hb1 : Below w21.heap.size w21 v1 := by rw [← hv1]; exact (Below.refl _ _).alloc (Nat.le_refl _) _
      have hr := HR.out w21
      rw [hv1] at hr
      have hl := HL.out w21
      rw [hv1] at hl
      have G22 := Lib.hid (And.intro hr (And.intro hl (G21.out.trans (hb1.mono G21.out.size))))
      clear hr hl hv1 hb1 G21
      go_upto_region 11 with (first
        | (refine wpList_build_g (by rfl) 39 _ rfl D20.toArray HD20.out ?_; simp only [Act.put])
        | (refine row_g rfl 29 21 _ rfl (.slice (some ⟨w21.heap.size, 0, none⟩) 21 21) v1 (by simp only [List.map_toArray, List.map_cons, List.map_nil]; exact G22.out.1) ?_; simp only [Act.put]))
      have R0 := Lib.hid (And.intro G22.out.2.1 G22.out.2.2)
      clear G22
      go_wp2_with fail
      refine (HAw.out _).mono ?_
      rintro e x1 ⟨rfl, hb⟩
      have R1 := Lib.hid (And.intro (R0.out.1.after hb) (R0.out.2.trans (hb.mono R0.out.2.size)))
      clear hb
      go_wp2_with fail
      refine (HK.out 1 (by omega) _).mono ?_
      rintro e x2 ⟨A1, cp1, rfl, hc, hb⟩
      have R2 := Lib.hid (And.intro (R1.out.1.after hb) (R1.out.2.trans (hb.mono R1.out.2.size)))
      have C2 := Lib.hid hc
      clear hb hc
      go_wp2_with (refine wpList_build_g (by rfl) 28 _ rfl (mkC mk0).toArray HZ0.out ?_; simp only [Act.put])
      refine (HP0.out _ _ _ _ _ _ _ _ _ _ C2.out R2.out.1).mono ?_
      rintro e x3 ⟨rfl, hb⟩
      have R3 := Lib.hid (And.intro (R2.out.1.after hb) (R2.out.2.trans (hb.mono R2.out.2.size)))
      clear hb
      go_wp2_with fail
      refine (HK.out 2 (by omega) _).mono ?_
      rintro e x4 ⟨A2, cp2, rfl, hc, hb⟩
      have R4 := Lib.hid (And.intro (R3.out.1.after hb) (R3.out.2.trans (hb.mono R3.out.2.size)))
      have C4 := Lib.hid hc
      clear hb hc
      go_wp2_with fail
      refine (HM16.out _).mono ?_
      rintro e x5 ⟨rfl, hb⟩
      have C5 := Lib.hid (show ArgC x5 _ _ _ _ _ from ⟨C4.out.1, C4.out.2.1.after hb, C4.out.2.2⟩)
      have R5 := Lib.hid (And.intro (R4.out.1.after hb) (R4.out.2.trans (hb.mono R4.out.2.size)))
      clear hb
      go_wp2_with fail
      refine (HP1.out _ _ _ _ _ _ _ _ _ _ C5.out R5.out.1).mono ?_
      rintro e x6 ⟨rfl, hb⟩
      have R6 := Lib.hid (And.intro (R5.out.1.after hb) (R5.out.2.trans (hb.mono R5.out.2.size)))
      clear hb
      go_wp2_with (first
        | (refine wpList_build_g (by rfl) 24 _ rfl #[.int .i64 0, .slice none 0 0] HC0.out ?_; simp only [Act.put])
        | (refine wpList_build_g (by rfl) 28 _ rfl (mkC mk0).toArray HZ0.out ?_; simp only [Act.put]))
      refine (HP0.out _ _ _ _ _ _ _ _ _ _ (show ArgC x6 0 none 0 0 [] from ⟨by decide, argI_none _, by simp⟩) (argDm_none _)).mono ?_
      rintro e x7 ⟨rfl, hb⟩
      have R7 := Lib.hid (And.intro (R6.out.1.after hb) (R6.out.2.trans (hb.mono R6.out.2.size)))
      clear hb
      go_wp2_with fail
      refine (HK.out 1 (by omega) _).mono ?_
      rintro e x8 ⟨A3, cp3, rfl, hc, hb⟩
      have R8 := Lib.hid (And.intro (R7.out.1.after hb) (R7.out.2.trans (hb.mono R7.out.2.size)))
      have C8 := Lib.hid hc
      clear hb hc
      go_wp2_with fail
      refine (HM10.out _).mono ?_
      rintro e x9 ⟨rfl, hb⟩
      have C9 := Lib.hid (show ArgC x9 _ _ _ _ _ from ⟨C8.out.1, C8.out.2.1.after hb, C8.out.2.2⟩)
      have R9 := Lib.hid (And.intro (R8.out.1.after hb) (R8.out.2.trans (hb.mono R8.out.2.size)))
      clear hb
      go_wp2_with fail
      refine (HP2.out _ _ _ _ _ _ _ _ _ _ C9.out (argDm_none _)).mono ?_
      rintro e x10 ⟨rfl, hb⟩
      have R10 := Lib.hid (And.intro (R9.out.1.after hb) (R9.out.2.trans (hb.mono R9.out.2.size)))
      clear hb
      go_wp2_with fail
      refine (HK.out 1 (by omega) _).mono ?_
      rintro e x11 ⟨A4, cp4, rfl, hc, hb⟩
      have R11 := Lib.hid (And.intro (R10.out.1.after hb) (R10.out.2.trans (hb.mono R10.out.2.size)))
      have C11 := Lib.hid hc
      clear hb hc
      go_wp2_with fail
      refine (HM17.out _).mono ?_
      rintro e x12 ⟨rfl, hb⟩
      have C12 := Lib.hid (show ArgC x12 _ _ _ _ _ from ⟨C11.out.1, C11.out.2.1.after hb, C11.out.2.2⟩)
      have R12 := Lib.hid (And.intro (R11.out.1.after hb) (R11.out.2.trans (hb.mono R11.out.2.size)))
      clear hb
      go_wp2_with fail
      refine (HP3.out _ _ _ _ _ _ _ _ _ _ C12.out R12.out.1).mono ?_
      rintro e x13 ⟨rfl, hb⟩
      have R13 := Lib.hid (And.intro (R12.out.1.after hb) (R12.out.2.trans (hb.mono R12.out.2.size)))
      clear hb
      go_wp2
      go_ret
      exact ⟨rfl, R13.out.2⟩

end Go.Proofs.Ytenccpccpjjkmaa.marksNames
