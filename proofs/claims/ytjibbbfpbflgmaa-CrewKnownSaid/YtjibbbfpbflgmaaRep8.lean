/-
  The crew's Replace over the code.
-/
import Derived.Test.YtjibbbfpbflgmaaIns8
import Derived.Test.YtjibbbfpbflgmaaReg8
namespace Go.Proofs.Ytjibbbfpbflgmaa
open Go.RowKit Go.Shelf CrewP
set_option linter.unusedVariables false

theorem crew_size : (Try.prog.info? 24).map (·.size) = some 2 := by kernel_rfl
/-- A crew that was handed in lies boxed at the end of the world 'w'; behind it lies the block of the result. -/
structure Rx (w W : World) (f : Int) (A : Option Addr) (n c : Nat) (l : List Int) : Prop where
  blk : Blk W w.heap.size 24 [.int .i64 f, .slice A n c]
  res : Blk W (w.heap.size + 1) 24 [.int .i64 0, .slice none 0 0]
  bel : Below w.heap.size w W
  arg : ArgI W A n c l
  big : w.heap.size + 2 ≤ W.heap.size
section
variable {w W W' : World} {f : Int} {A : Option Addr} {n c : Nat} {l : List Int}
theorem Rx.on (h : Rx w W f A n c l) (hb : Below W.heap.size W W') : Rx w W' f A n c l := ⟨h.blk.below hb h.blk.lt, h.res.below hb h.res.lt, h.bel.trans (hb.mono h.bel.size), h.arg.after hb, Nat.le_trans h.big hb.size⟩
theorem Rx.drewN (h : Rx w W f A n c l) (q : Nat) : Rx w (W.drewN q) f A n c l := h.on (below_drewN (Below.refl _ _) q)
theorem Rx.k0 (h : Rx w W f A n c l) : W.cell? ⟨w.heap.size, 0, none⟩ = some (.int .i64 f) := h.blk.cell rfl
theorem Rx.k1 (h : Rx w W f A n c l) : W.cell? ⟨w.heap.size, 1, none⟩ = some (.slice A n c) := h.blk.cell rfl
theorem Rx.r0 (h : Rx w W f A n c l) : W.cell? ⟨w.heap.size + 1, 0, none⟩ = some (.int .i64 0) := h.res.cell rfl
theorem Rx.r1 (h : Rx w W f A n c l) : W.cell? ⟨w.heap.size + 1, 1, none⟩ = some (.slice none 0 0) := h.res.cell rfl
theorem Rx.new (h : ArgI w A n c l) : Rx w ((w.alloc (.cells #[.int .i64 f, .slice A n c] 24)).alloc (.cells #[.int .i64 0, .slice none 0 0] 24)) f A n c l :=
  have hb1 : Below w.heap.size w (w.alloc (.cells #[.int .i64 f, .slice A n c] 24)) := (Below.refl _ _).alloc (Nat.le_refl _) _
  have hb : Below w.heap.size w ((w.alloc (.cells #[.int .i64 f, .slice A n c] 24)).alloc (.cells #[.int .i64 0, .slice none 0 0] 24)) := hb1.alloc (by simp) _
  ⟨(Blk.new rfl rfl).old _, Blk.new rfl (by simp), hb, h.after hb, by simp⟩
end
theorem Rx.out {w W : World} {f : Int} {A : Option Addr} {n c : Nat} {l : List Int} (h : Rx w W f A n c l) (F : Int) (v : Value) : Blk ((W.setCell ⟨w.heap.size + 1, 0, none⟩ (.int .i64 F)).setCell ⟨w.heap.size + 1, 1, none⟩ v) (w.heap.size + 1) 24 [.int .i64 F, v] ∧
    Below w.heap.size w ((W.setCell ⟨w.heap.size + 1, 0, none⟩ (.int .i64 F)).setCell ⟨w.heap.size + 1, 1, none⟩ v) :=
  ⟨(h.res.set_ 0 _).set_ 1 _, (h.bel.setCell (by show w.heap.size ≤ w.heap.size + 1; omega) _).setCell (by show w.heap.size ≤ w.heap.size + 1; omega) _⟩
theorem check3 (f : Int) (A : Option Addr) (n c : Nat) (l : List Int) (w : World) (h : ArgI w A n c l) (z : Int) (hz : chkE f l = z) :
    Calls Try.prog 20 #[.agg #[.int .i64 f, .slice A n c]] ((w.alloc (.cells #[.int .i64 f, .slice A n c] 24)).alloc (.cells #[.int .i64 0, .slice none 0 0] 24)) fun e w' => e = .returned (.int .i64 z) ∧ Rx w w' f A n c l := by
  subst hz
  have hb := Rx.new (f := f) h
  exact (check_any f A n c l _ hb.arg).mono fun e w' ⟨he, hw⟩ => ⟨he, hb.on hw⟩

theorem out2 {w W : World} {u0 u1 : Value} (h : Blk W (w.heap.size + 1) 24 [u0, u1]) (hb : Below w.heap.size w W) (F : Int) (v : Value) : Blk ((W.setCell ⟨w.heap.size + 1, 0, none⟩ (.int .i64 F)).setCell ⟨w.heap.size + 1, 1, none⟩ v) (w.heap.size + 1) 24 [.int .i64 F, v] ∧
    Below w.heap.size w ((W.setCell ⟨w.heap.size + 1, 0, none⟩ (.int .i64 F)).setCell ⟨w.heap.size + 1, 1, none⟩ v) :=
  ⟨(h.set_ 0 _).set_ 1 _, (hb.setCell (by show w.heap.size ≤ w.heap.size + 1; omega) _).setCell (by show w.heap.size ≤ w.heap.size + 1; omega) _⟩
theorem own_set {W : World} {base g : Nat} {v : Value} {l : List Int} (h : OwnI W base v l) (hg : g < base) (i : Nat) (u : Value) : OwnI (W.setCell ⟨g, i, none⟩ u) base v l :=
  own_stay h (by simp [World.setCell]) fun j _ hj => Below.heap_setCell W ⟨g, i, none⟩ u j (by show j ≠ g; omega)
theorem row1 (w : World) (x : Int) : (Instr.buildSlice 22 1 #[(0, Value.int .i64 x)]).run Try.prog w = .ok (.slice (some ⟨w.heap.size, 0, none⟩) 1 1) (w.alloc (.cells #[.int .i64 x] 3)) := by
  go_simp
  try rfl
theorem insert_new {base : Nat} {l : List Int} {A : Option Addr} {m c i : Nat} (x : Int) (W : World) (hO : OwnI W base (.slice A l.length c) l) (hm : l.length = m) (hi : i ≤ m) (hl : m ≤ 1000) (hbase : base ≤ W.heap.size) :
    Calls Try.prog 55 #[.slice A m c, .int .i64 i, .slice (some ⟨W.heap.size, 0, none⟩) 1 1] (W.alloc (.cells #[.int .i64 x] 3)) fun e w' => ∃ v, e = .returned v ∧ OwnI w' base v (l.take i ++ [x] ++ l.drop i) ∧ Below base W w' := by
  subst hm
  have hb : Below W.heap.size W (W.alloc (.cells #[.int .i64 x] 3)) := (Below.refl _ _).alloc (Nat.le_refl _) _
  have hlt : ∀ a, A = some a → a.block < W.heap.size := fun a ha => by
    subst ha
    rcases own_blk hO with ⟨e, _⟩ | ⟨g, cap, cs, e, _, hB, _⟩
    · cases e
    · injection e with e1; injection e1 with e1; subst e1; exact hB.lt
  refine (insert_any _ base l A c i x W.heap.size (own_below hO hb) hi (Blk.new rfl rfl) (fun a ha => by have := hlt a ha; omega) hl (by simp; omega)).mono ?_
  rintro e w' ⟨v, he, hv, hw⟩
  exact ⟨v, he, hv, (hb.mono hbase).trans hw⟩

/-- What Replace and Make answer. -/
def RetC (w : World) (r : Int × List Int × Int) (e : Ending) (w' : World) : Prop := ∃ v, e = .returned (.tuple #[.agg #[.int .i64 r.1, v], .int .i64 r.2.2]) ∧ NewI w r.2.1 v w'

section
variable (f : Int) (A : Option Addr) (n c : Nat) (l : List Int) (w : World)
set_option maxRecDepth 100000 in
set_option maxHeartbeats 1600000 in
theorem replace_any (h : ArgI w A n c l) (hwl : ∀ x ∈ l, Wf x) (o x : Int) (hx : Wf x) : Calls Try.prog 35 #[.agg #[.int .i64 f, .slice A n c], .int .i64 o, .int .i64 x] w (RetC w (replaceR f l o x)) := by
  have hln := h.1
  cases hok : okC f l with
  | false =>
    have H := Lib.hid (check3 f A n c l w h 110 (chk1 hok))
    have e : replaceR f l o x = (0, [], 110) := by simp [replaceR, hok]
    rw [e]; clear e hok h
    go_enter Try.func35, Try.ntmps35
    go_wp2_with (go_at_call 20; refine H.out.mono ?_; rintro e w' ⟨rfl, hx⟩; have r0 := hx.r0; have r1 := hx.r1; have q0 := hx.res.free; replace hx := Lib.hid hx)
    obtain ⟨hb1, hb2⟩ := hx.out.out 0 (.slice none 0 0)
    refine bodyPost_ret (results_row_tmp rfl _ _ (w.heap.size + 1) 24 _ _ _ rfl rfl hb1 Try.underlying24 rfl crew_size) rfl ?_
    exact ⟨_, rfl, World.ownsRow_nil _ _ _ _, hb2⟩
  | true =>
    obtain ⟨hf, hl, hasc⟩ := ok_len hok
    have H := Lib.hid (check3 f A n c l w h 0 (chk0 hok))
    have HN := Lib.hid (isNode_any x)
    cases hN : isN x with
    | false =>
      have e : replaceR f l o x = (0, [], 2) := by simp [replaceR, hok, hN]
      rw [hN] at HN
      rw [e]; clear e hok h hasc
      go_enter Try.func35, Try.ntmps35
      go_wp2_with (first
        | (go_at_call 20; refine H.out.mono ?_; rintro e w' ⟨rfl, hx⟩; have r0 := hx.r0; have r1 := hx.r1; have q0 := hx.res.free; replace hx := Lib.hid hx)
        | (go_at_call 54; refine (HN.out _).mono ?_; rintro e w'' ⟨rfl, rfl⟩))
      obtain ⟨hb1, hb2⟩ := hx.out.out 0 (.slice none 0 0)
      refine bodyPost_ret (results_row_tmp rfl _ _ (w.heap.size + 1) 24 _ _ _ rfl rfl hb1 Try.underlying24 rfl crew_size) rfl ?_
      exact ⟨_, rfl, World.ownsRow_nil _ _ _ _, hb2⟩
    | true =>
      rw [hN] at HN
      have HF := Lib.hid (fun W (hW : ArgI W A n c l) (y : Int) (b : Bool) (hb : hasR f l y = b) => show Calls Try.prog 32 #[.agg #[.int .i64 f, .slice A n c], .int .i64 y] W fun e w' => e = .returned (.bool b) ∧ Below W.heap.size W w' from by rw [← hb]; exact has_any f A n c l W hW y)
      have hro : hasR f l o = decide (o ∈ l) := by simp [hasR, hok]
      have hrx : hasR f l x = decide (x ∈ l) := by simp [hasR, hok]
      by_cases ho : o ∈ l
      · by_cases hxl : x ∈ l
        · have e : replaceR f l o x = (0, [], 110) := by simp [replaceR, hok, hN, ho, hxl]
          have hro' : hasR f l o = true := by rw [hro]; simp [ho]
          have hrx' : hasR f l x = true := by rw [hrx]; simp [hxl]
          have Hr := Lib.hid (And.intro hro' hrx')
          rw [e]; clear e hok h hasc hro hrx hro' hrx' ho hxl hN
          go_enter Try.func35, Try.ntmps35
          go_wp2_with (first
            | (go_at_call 20; refine H.out.mono ?_; rintro e w' ⟨rfl, hx⟩; have k0 := hx.k0; have k1 := hx.k1; replace hx := Lib.hid hx)
            | (go_at_call 54; refine (HN.out _).mono ?_; rintro e w'' ⟨rfl, rfl⟩)
            | (go_at_call 32; have _ := hy; refine (HF.out _ hy.out.arg _ _ Hr.out.2).mono ?_; rintro e w3 ⟨rfl, hb⟩; have hz := Lib.hid (hy.out.on hb); have r0 := hz.out.r0; have r1 := hz.out.r1; have q0 := hz.out.res.free; clear hb)
            | (go_at_call 32; refine (HF.out _ hx.out.arg _ _ Hr.out.1).mono ?_; rintro e w2 ⟨rfl, hb⟩; have hy := Lib.hid (hx.out.on hb); have k0 := hy.out.k0; have k1 := hy.out.k1; clear hb))
          obtain ⟨hb1, hb2⟩ := hz.out.out 0 (.slice none 0 0)
          refine bodyPost_ret (results_row_tmp rfl _ _ (w.heap.size + 1) 24 _ _ _ rfl rfl hb1 Try.underlying24 rfl crew_size) rfl ?_
          exact ⟨_, rfl, World.ownsRow_nil _ _ _ _, hb2⟩
        · have e : replaceR f l o x = (f, repL l o x, 0) := by simp [replaceR, hok, hN, ho, hxl]
          have hro' : hasR f l o = true := by rw [hro]; simp [ho]
          have hrx' : hasR f l x = false := by rw [hrx]; simp [hxl]
          have Hr := Lib.hid (And.intro hro' hrx')
          have HO := Lib.hid (fun W (hW : ArgI W A n c l) => others_any f A n c l W hW o)
          rw [show othersR f l o = othersL l o by simp [othersR, hok]] at HO
          have hwO : ∀ y ∈ othersL l o, Wf y := fun y hy => hwl y ((others_mem l o y).1 hy).1
          have haO := others_asc hasc o
          have hmO := others_len hasc ho
          rw [e]
          unfold repL insL
          obtain ⟨ot, hot⟩ : ∃ ot, othersL l o = ot := ⟨_, rfl⟩
          rw [hot] at HO hwO haO hmO ⊢
          have hle := at_le ot x
          have HF2 := Lib.hid (fun W A' c' (hW : ArgI W A' ot.length c' ot) => find_any A' ot.length c' ot x W hW (by omega) haO)
          have Hw := Lib.hid hwO
          clear e hok h hasc hro hrx hro' hrx' ho hxl hN hot haO hwO
          obtain ⟨b, hb⟩ : ∃ b, decide (x ∈ ot) = b := ⟨_, rfl⟩
          rw [hb] at HF2
          clear hb
          generalize at_ ot x = k at *
          obtain ⟨m, hm⟩ : ∃ m, ot.length = m := ⟨_, rfl⟩
          have Hm := Lib.hid hm
          rw [hm] at HF2 hle hmO
          have hm7 : m ≤ 1000 := by omega
          have hk63 : k ≤ 1000 := by omega
          clear hm hmO
          go_enter Try.func35, Try.ntmps35
          go_wp2_with fail
          refine H.out.mono ?_
          rintro e w1 ⟨rfl, hx⟩
          have k0 := hx.k0
          have k1 := hx.k1
          replace hx := Lib.hid hx
          go_wp2_with fail
          refine (HN.out _).mono ?_
          rintro e w1' ⟨rfl, rfl⟩
          go_wp2_with fail
          refine (HF.out _ hx.out.arg _ _ Hr.out.1).mono ?_
          rintro e w2 ⟨rfl, hb⟩
          have hy := Lib.hid (hx.out.on hb)
          have l0 := hy.out.k0
          have l1 := hy.out.k1
          clear hb k0 k1
          go_wp2_with fail
          refine (HF.out _ hy.out.arg _ _ Hr.out.2).mono ?_
          rintro e w3 ⟨rfl, hb⟩
          have hz := Lib.hid (hy.out.on hb)
          have m0 := hz.out.k0
          have m1 := hz.out.k1
          clear hb l0 l1
          go_wp2_with fail
          refine (HO.out _ hz.out.arg).mono ?_
          rintro e w4 ⟨v4, rfl, hN4⟩
          obtain ⟨A4, c4, rfl, ha4⟩ := hN4.own.arg Hw.out
          rw [Hm.out] at ha4
          have hO4 := hN4.own
          have hsz4 := hN4.2.size
          rw [Hm.out]
          have H4 := Lib.hid (And.intro (hz.out.on hN4.2) (And.intro hO4 (And.intro ha4 hz.out.big)))
          clear hN4 ha4 hO4 m0 m1
          go_wp2_with fail
          refine (HF2.out w4 A4 c4 H4.out.2.2.1).mono ?_
          rintro e w5 ⟨rfl, hb⟩
          have H5 := Lib.hid (And.intro (H4.out.1.on hb) (And.intro (own_below H4.out.2.1 hb) (Nat.le_trans hsz4 hb.size)))
          have n0 := H5.out.1.k0
          have n1 := H5.out.1.k1
          clear hb
          go_wp2
          have n0d : w5.drew.cell? ⟨w.heap.size, 0, none⟩ = some (.int .i64 f) := n0
          have hS1 : (w5.drew.alloc (.cells #[.int .i64 x] 3)).cell? ⟨w.heap.size, 0, none⟩ = some (.int .i64 f) := ((H5.out.1.drewN 1).blk.old _).cell rfl
          refine wp_region_held_drew (S := fun W' => W'.cell? ⟨w.heap.size, 0, none⟩ = some (.int .i64 f)) (by kernel_rfl) n0d (fun _ => ?_)
          refine anyH_take (i := 0) (d := 38) (v := ?v0) rfl rfl (by kernel_rfl) (by kernel_rfl) (by kernel_rfl) (fun _ _ _ h => h) (Or.inl ⟨by rfl, ?vy0⟩) n0d ?vr0
          case vy0 => (intro w; go_simp; try with_reducible rfl)
          simp only [List.setIfInBounds_toArray, List.set_cons_zero, List.set_cons_succ]
          refine wpAnyH_take' (i := 1) (d := 39) (v := ?v1) rfl rfl (by kernel_rfl) (by kernel_rfl) (by kernel_rfl) (fun _ _ _ h => h) (Or.inl ⟨by rfl, ?vy1⟩) n0d ?vr1
          case vy1 => (intro w hSw; go_split_ands; go_simp; try with_reducible rfl)
          simp only [List.setIfInBounds_toArray, List.set_cons_zero, List.set_cons_succ]
          refine anyH_take (i := 2) (d := 40) (v := ?v2) rfl rfl (by kernel_rfl) (by kernel_rfl) (by kernel_rfl) (fun _ _ _ h => h) (Or.inl ⟨by rfl, ?vy2⟩) n0d ?vr2
          case vy2 => (intro w; go_simp; try with_reducible rfl)
          simp only [List.setIfInBounds_toArray, List.set_cons_zero, List.set_cons_succ]
          refine anyH_take (i := 3) (d := 41) (v := ?v3) rfl rfl (by kernel_rfl) (by kernel_rfl) (by kernel_rfl) (fun _ _ _ h => h) (Or.inl ⟨by rfl, ?vy3⟩) n0d ?vr3
          case vy3 => (intro w; go_simp; try with_reducible rfl)
          simp only [List.setIfInBounds_toArray, List.set_cons_zero, List.set_cons_succ]
          refine anyH_take (i := 4) (d := 42) (v := ?v4) rfl rfl (by kernel_rfl) (by kernel_rfl) (by kernel_rfl) (fun _ _ _ h => h) (Or.inl ⟨by rfl, ?vy4⟩) n0d ?vr4
          case vy4 => (intro w; go_simp; try with_reducible rfl)
          simp only [List.setIfInBounds_toArray, List.set_cons_zero, List.set_cons_succ]
          refine anyH_one (i := 5) (by kernel_rfl) ?_
          refine op_row rfl rfl rfl _ _ _ rfl _ _ (by simp only [List.map_toArray, List.map_cons, List.map_nil]; exact row1 _ x) ?_
          rw [show w5.drew.alloc (.cells #[.int .i64 x] 3) = w5.drew.alloc (.cells #[.int .i64 x] 3) from rfl]
          refine ⟨hS1, ?_⟩
          simp only [List.setIfInBounds_toArray, List.set_cons_zero, List.set_cons_succ]
          refine anyH_one (i := 6) (by kernel_rfl) ?_
          refine wpOp_step rfl (fun K hK => ?_)
          go_simp
          refine (insert_new x w5.drew (own_below H5.out.2.1 (below_drewN (Below.refl _ _) 1)) Hm.out hle hm7 H5.out.2.2).mono ?_
          rintro e w6 ⟨v6, rfl, hO6, hb6⟩
          obtain ⟨A6, c6, rfl, _⟩ := hO6.form
          have hres := Blk.below (H5.out.1.drewN 1).res hb6 (by have := hz.out.big; omega)
          have hbx := Blk.below (H5.out.1.drewN 1).blk hb6 (by have := hz.out.big; omega)
          have hbl := (H5.out.1.drewN 1).bel.trans (hb6.mono (by have := hz.out.big; omega))
          have b0 : w6.cell? ⟨w.heap.size, 0, none⟩ = some (.int .i64 f) := hbx.cell rfl
          have hth := hres.there
          obtain ⟨ho1, ho2⟩ := out2 hres hbl f (.slice A6 (ot.take k ++ [x] ++ ot.drop k).length c6)
          have hO7 := own_set (own_set hO6 (g := w.heap.size + 1) (by have := hz.out.big; omega) 0 (.int .i64 f)) (g := w.heap.size + 1) (by have := hz.out.big; omega) 1 (.slice A6 (ot.take k ++ [x] ++ ot.drop k).length c6)
          have b0' := hbx.far (p := ⟨w.heap.size + 1, 0, none⟩) (by show w.heap.size ≠ w.heap.size + 1; omega) (.int .i64 f)
          have hS3 : ((w6.setCell ⟨w.heap.size + 1, 0, none⟩ (.int .i64 f)).setCell ⟨w.heap.size + 1, 1, none⟩ (.slice A6 (ot.take k ++ [x] ++ ot.drop k).length c6)).cell? ⟨w.heap.size, 0, none⟩ = some (.int .i64 f) := (b0'.far (p := ⟨w.heap.size + 1, 1, none⟩) (by show w.heap.size ≠ w.heap.size + 1; omega) _).cell rfl
          have H6 := Lib.hid (And.intro ho1 (And.intro ho2 hO7))
          clear hO6 hb6 hres hbx hbl ho1 ho2 hO7 b0'
          obtain ⟨n6, hn6⟩ : ∃ n6, (ot.take k ++ [x] ++ ot.drop k).length = n6 := ⟨_, rfl⟩
          rw [hn6] at H6 hS3 ⊢
          clear hn6
          refine hK _ _ ⟨b0, ?_⟩
          clear hK K
          refine anyH_take (i := 7) (d := 45) (v := ?v7) rfl rfl (by kernel_rfl) (by kernel_rfl) (by kernel_rfl) (fun _ _ _ h => h) (Or.inl ⟨by rfl, ?vy7⟩) b0 ?vr7
          case vy7 => (intro w; go_simp; try with_reducible rfl)
          simp only [List.setIfInBounds_toArray, List.set_cons_zero, List.set_cons_succ]
          refine anyH_one (i := 8) (by kernel_rfl) ?_
          refine op_storeE rfl rfl rfl 24 _ _ rfl (w.heap.size + 1) 0 [.int .i64 f, .slice A6 n6 c6] rfl rfl hth crew_size (by simp [Value.oneCell']) rfl ?_
          refine ⟨hS3, ?_⟩
          refine anyH_take (i := 9) (d := 7) (v := ?v9) rfl rfl (by kernel_rfl) (by kernel_rfl) (by kernel_rfl) (fun _ _ _ h => h) (Or.inl ⟨by rfl, ?vy9⟩) hS3 ?vr9
          case vy9 => (intro w; go_simp; try with_reducible rfl)
          simp only [List.setIfInBounds_toArray, List.set_cons_zero, List.set_cons_succ]
          refine wpAnyH_done (by kernel_rfl) ?_ _
          go_wp2
          refine bodyPost_ret (results_row_tmp rfl _ _ (w.heap.size + 1) 24 _ _ _ rfl rfl H6.out.1 Try.underlying24 rfl crew_size) rfl ?_
          exact ⟨_, rfl, own_base H6.out.2.2 (by have := hz.out.big; omega), H6.out.2.1⟩
      · have e : replaceR f l o x = (0, [], 110) := by simp [replaceR, hok, hN, ho]
        have hro' : hasR f l o = false := by rw [hro]; simp [ho]
        have Hr := Lib.hid hro'
        rw [e]; clear e hok h hasc hro hrx hro' ho hN
        go_enter Try.func35, Try.ntmps35
        go_wp2_with (first
          | (go_at_call 20; refine H.out.mono ?_; rintro e w' ⟨rfl, hx⟩; have k0 := hx.k0; have k1 := hx.k1; replace hx := Lib.hid hx)
          | (go_at_call 54; refine (HN.out _).mono ?_; rintro e w'' ⟨rfl, rfl⟩)
          | (go_at_call 32; refine (HF.out _ hx.out.arg _ _ Hr.out).mono ?_; rintro e w2 ⟨rfl, hb⟩; have hy := Lib.hid (hx.out.on hb); have r0 := hy.out.r0; have r1 := hy.out.r1; have q0 := hy.out.res.free; clear hb))
        obtain ⟨hb1, hb2⟩ := hy.out.out 0 (.slice none 0 0)
        refine bodyPost_ret (results_row_tmp rfl _ _ (w.heap.size + 1) 24 _ _ _ rfl rfl hb1 Try.underlying24 rfl crew_size) rfl ?_
        exact ⟨_, rfl, World.ownsRow_nil _ _ _ _, hb2⟩
end
end Go.Proofs.Ytjibbbfpbflgmaa
