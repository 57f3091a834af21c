/-
  Check of a ledger, over the code.
-/
import Derived.Test.YtkmijmlcijbbcaaTagC
namespace Go.Proofs.Ytkmijmlcijbbcaa
open Go.RowKit Go.Maps
set_option linter.unusedVariables false

theorem load_row_g {P : Program} {ops : Array Oper} {rest : List Oper} {o : Oper} {a : Act} {w : World} {Q : Exit → Act → World → Prop} (hw : Region.wanted o (yielded ops a.tmps) = true) (ty : TypeId) (x : Operand) (ho : o.op = .load ty x)
    (g : Nat) (hx : a.eval x = .pointer (some ⟨g, 0, none⟩)) (t : TypeId) (cs : Array Value) (fr : Nat × Nat) (d : TypeDesc) (hg : w.heap[g]? = some (.cells cs t fr))
    (hu : P.underlying ty = some d) (hd : (match d with | .struct _ | .array _ _ => true | _ => false) = true) (hi : (P.info? ty).map (·.size) = some cs.size)
    (h : wpList P ops Q rest (a.put o.dst (.agg cs)) w) : wpList P ops Q (o :: rest) a w :=
  wpList_step fun K hK => by rw [if_pos hw]; exact wp_load_row ty x ho g hx t cs fr d hg hu hd hi (hK _ _ h)

theorem LedAt.asked {w : World} {g m : Nat} {T : List Tg} {k : Nat} (h : LedAt w g m T k) : LedAt (w.setCell ⟨g, 1, none⟩ (.int .i64 ((k + 1 : Nat) : Int))) g m T (k + 1) :=
  ⟨h.1.set_ 1 _, h.2.stay (Below.heap_setCell w ⟨g, 1, none⟩ _ m fun e => h.ne e.symm)⟩

set_option maxRecDepth 100000 in
set_option maxHeartbeats 1600000 in
theorem check_any (g m k : Nat) (T : List Tg) (f t : Int) (d : List UInt8) (D : List Value) (w : World) (h : LedAt w g m T k) (hk : k < 1000000) (hf : Wf f) (ht : Wf t) (hd : d.length = 32) (hD : cbs d = D) :
    Calls Try.prog 14 #[.pointer (some ⟨g, 0, none⟩), .int .i64 f, .int .i64 t, .agg D.toArray] w fun e w' =>
      e = .returned (.bool (chk T f t d)) ∧ LedAt w' g m T (k + 1) ∧ Out (fun i => i = g) w w' := by
  have ba : Below w.heap.size w (w.alloc (.cells D.toArray 28)) := (Below.refl _ _).alloc (Nat.le_refl _) _
  have hDl : D.length = 32 := by rw [← hD, cbs_length, hd]
  have ha := h.below ba
  have Hno := Lib.hid (none_any g m k _ ha.1)
  have Hadd := Lib.hid (add_any g k (by omega) _ (ha.1.cell rfl) (ha.1.free 1))
  obtain ⟨w1, hw1⟩ : ∃ w1, (w.alloc (.cells D.toArray 28)).setCell ⟨g, 1, none⟩ (.int .i64 ((k + 1 : Nat) : Int)) = w1 := ⟨_, rfl⟩
  have h1 := ha.asked
  have hlt := h.1.lt
  have hO1 : Out (fun i => i = g) w ((w.alloc (.cells D.toArray 28)).setCell ⟨g, 1, none⟩ (.int .i64 ((k + 1 : Nat) : Int))) := Out.setCell (S := fun i => i = g) (p := ⟨g, 1, none⟩) (Out.ofBelow _ ba) (fun _ => rfl) _
  have hdB : Blk ((w.alloc (.cells D.toArray 28)).setCell ⟨g, 1, none⟩ (.int .i64 ((k + 1 : Nat) : Int))) w.heap.size 28 D := (Blk.new rfl rfl).far (by show _ ≠ g; omega) _
  rw [hw1] at h1 hO1 hdB
  have hid : (Try.prog.info? 28).map (·.size) = some D.toArray.size := by rw [List.size_toArray, hDl]; exact info32b
  have hb1 := built_triple f t d hd D hD
  have hb2 := built_triple f 0 d hd D hD
  have hz0 : Wf 0 := by decide
  have Hw1 := Lib.hid hw1
  have Hh := Lib.hid (has_any g m (k + 1) T f t d D w1 h1 hf ht hd hD)
  have hh2 := fun w' hb' => has_any g m (k + 1) T f 0 d D w' (h1.below hb') hf hz0 hd hD
  have H := Lib.hid (And.intro h1 (And.intro hO1 (And.intro hdB (And.intro hid (And.intro hb1 hb2)))))
  generalize hV1 : tv f t D = V1 at *
  generalize hV2 : tv f 0 D = V2 at *
  have Hh2 := Lib.hid hh2
  clear h ha h1 hO1 hdB hid hb1 hb2 hw1 hh2 hV1 hV2 hlt hD hDl
  cases hi1 : inT T f t d with
  | true =>
    have e : chk T f t d = true := by simp [chk, hi1]
    rw [e]
    rw [hi1] at Hh
    clear e hi1
    go_enter Try.func14, Try.ntmps14
    go_wp2_with (first
      | (go_at_call 21; refine Hno.out.mono ?_; rintro e w' ⟨rfl, rfl⟩)
      | (go_at_call 26; refine Hadd.out.mono ?_; rintro e w' ⟨rfl, rfl⟩; rw [Hw1.out])
      | (refine load_row_g (by rfl) 28 _ rfl w.heap.size rfl 28 D.toArray (0, 0) _ H.out.2.2.1 Try.underlying28 rfl H.out.2.2.2.1 ?_; simp only [Act.put])
      | (refine wpList_build_g (by rfl) 56 _ rfl V1.toArray H.out.2.2.2.2.1 ?_; simp only [Act.put])
      | (go_at_call 27; refine Hh.out.mono ?_; rintro e w2 ⟨rfl, hb2⟩))
    go_ret
    exact ⟨rfl, H.out.1.below hb2, H.out.2.1.then_below hb2⟩
  | false =>
    have e : chk T f t d = inT T f 0 d := by simp [chk, hi1]
    rw [e]
    rw [hi1] at Hh
    clear e hi1
    go_enter Try.func14, Try.ntmps14
    go_wp2_with (first
      | (go_at_call 21; refine Hno.out.mono ?_; rintro e w' ⟨rfl, rfl⟩)
      | (go_at_call 26; refine Hadd.out.mono ?_; rintro e w' ⟨rfl, rfl⟩; rw [Hw1.out])
      | (refine load_row_g (by rfl) 28 _ rfl w.heap.size rfl 28 D.toArray (0, 0) _ (H.out.2.2.1.below hb2 H.out.2.2.1.lt) Try.underlying28 rfl H.out.2.2.2.1 ?_; simp only [Act.put])
      | (refine load_row_g (by rfl) 28 _ rfl w.heap.size rfl 28 D.toArray (0, 0) _ H.out.2.2.1 Try.underlying28 rfl H.out.2.2.2.1 ?_; simp only [Act.put])
      | (have _ := hb2; refine wpList_build_g (by rfl) 56 _ rfl V2.toArray H.out.2.2.2.2.2 ?_; simp only [Act.put])
      | (refine wpList_build_g (by rfl) 56 _ rfl V1.toArray H.out.2.2.2.2.1 ?_; simp only [Act.put])
      | (go_at_call 27; refine (Hh2.out w2 hb2).mono ?_; rintro e w3 ⟨rfl, hb3⟩)
      | (go_at_call 27; refine Hh.out.mono ?_; rintro e w2 ⟨rfl, hb2⟩))
    go_ret
    have hb := hb2.trans (hb3.mono hb2.size)
    exact ⟨rfl, H.out.1.below hb, H.out.2.1.then_below hb⟩
end Go.Proofs.Ytkmijmlcijbbcaa
