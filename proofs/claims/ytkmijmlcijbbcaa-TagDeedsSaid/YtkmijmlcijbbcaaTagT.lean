/-
  The reference's ledger: New, Tag, Check, over the reference's text.
-/
import Derived.Test.YtkmijmlcijbbcaaTagS
namespace Go.Proofs.Ytkmijmlcijbbcaa
open Go.RowKit Go.Maps
set_option linter.unusedVariables false

theorem built_rtag (f t : Int) (d : List UInt8) (h : d.length = 32) (D : List Value) (hD : cbs d = D) : Try.prog.built 59 [(0, .int .i64 f), (1, .int .i64 t), (2, .agg D.toArray)] = some (tv f t D).toArray := by
  subst hD
  obtain ⟨a0, a1, a2, a3, a4, a5, a6, a7, a8, a9, a10, a11, a12, a13, a14, a15, a16, a17, a18, a19, a20, a21, a22, a23, a24, a25, a26, a27, a28, a29, a30, a31, rfl⟩ := thirty2 d h
  kernel_rfl
theorem built_rtag0 (f : Int) (d : List UInt8) (h : d.length = 32) (D : List Value) (hD : cbs d = D) : Try.prog.built 59 [(0, .int .i64 f), (2, .agg D.toArray)] = some (tv f 0 D).toArray := by
  subst hD
  obtain ⟨a0, a1, a2, a3, a4, a5, a6, a7, a8, a9, a10, a11, a12, a13, a14, a15, a16, a17, a18, a19, a20, a21, a22, a23, a24, a25, a26, a27, a28, a29, a30, a31, rfl⟩ := thirty2 d h
  kernel_rfl
theorem RefAt.ne {w0 w : World} {g k : Nat} {v : Value} {T : List Tg} (h : RefAt w0 w g v T k) : v.ownBlock ≠ some g := fun e => by
  obtain ⟨h1, ⟨_, ⟨e0, _⟩ | ⟨b, cap, cur, e0, _, hh, _⟩⟩, _⟩ := h
  · rw [e0] at e; simp [Value.ownBlock] at e
  · rw [e0] at e
    simp [Value.ownBlock] at e
    subst e
    unfold Blk at h1
    rw [hh] at h1
    injection h1 with h1
    injection h1 with _ h1
    revert h1
    decide
theorem RefAt.more {w0 w : World} {g k : Nat} {v : Value} {T : List Tg} (h : RefAt w0 w g v T k) : RefAt w0 (w.setCell ⟨g, 1, none⟩ (.int .i64 ((k + 1 : Nat) : Int))) g v T (k + 1) :=
  ⟨h.1.set_ 1 _, row_kept h.2.1 fun b hb _ => Below.heap_setCell w ⟨g, 1, none⟩ _ b (fun e => by subst e; exact h.ne hb), h.2.2.1, h.2.2.2.1, h.2.2.2.2.setCell h.2.2.2.1 _⟩

theorem rnew_any (w0 w : World) (hb : Below w0.heap.size w0 w) : Calls Try.prog 5 #[] w fun e w' => ∃ g, e = .returned (.pointer (some ⟨g, 0, none⟩)) ∧ w.heap.size ≤ g ∧ RefAt w0 w' g (.slice none 0 0) [] 0 ∧ Below w.heap.size w w' := by
  have H := Lib.hid hb
  clear hb
  go_enter Try.func5, Try.ntmps5
  go_wp2
  go_ret
  have hblk : Blk (w.alloc (.cells #[.slice none 0 0, .int .i64 0] 53)) w.heap.size 53 [.slice none 0 0, .int .i64 ((0 : Nat) : Int)] := Blk.new rfl rfl
  exact ⟨w.heap.size, rfl, Nat.le_refl _, ⟨hblk, World.ownsRow_nil _ _ _ _, fun x hx => by simp at hx, H.out.size, H.out.alloc H.out.size _⟩, (Below.refl _ _).alloc (Nat.le_refl _) _⟩

set_option maxRecDepth 100000 in
set_option maxHeartbeats 1600000 in
theorem rtag_any (w0 w : World) (g k : Nat) (v : Value) (T : List Tg) (f t : Int) (d : List UInt8) (D : List Value) (h : RefAt w0 w g v T k) (hT : T.length < 900000) (hd : d.length = 32) (hD : cbs d = D) :
    Calls Try.prog 9 #[.pointer (some ⟨g, 0, none⟩), .int .i64 f, .int .i64 t, .agg D.toArray] w fun e w' =>
      e = .returned (.int .i64 (errOf (okTag f t))) ∧ (∃ v', RefAt w0 w' g v' (tagL T f t d) k ∧ RefLoc w v v') ∧ Out (RefS g v) w w' := by
  have ba : Below w.heap.size w (w.alloc (.cells D.toArray 28)) := (Below.refl _ _).alloc (Nat.le_refl _) _
  have hDl : D.length = 32 := by rw [← hD, cbs_length, hd]
  have hF := name_any f (w.alloc (.cells D.toArray 28))
  have hT2 := name_any t (w.alloc (.cells D.toArray 28))
  have hnot : ∀ (x : Bool) (w : World), (Op.unary .not (.bool x)).run Try.prog w = .ok (.bool (!x)) w := fun _ _ => rfl
  have hB : Blk (w.alloc (.cells D.toArray 28)) w.heap.size 28 D := Blk.new rfl rfl
  have hid : (Try.prog.info? 28).map (·.size) = some D.toArray.size := by rw [List.size_toArray, hDl]; exact info32b
  have hV : tcells f t d = tv f t D := by unfold tcells tv ci; rw [hD]
  have Hput := Lib.hid (rput_any w0 _ g k v T f t d (tv f t D) (h.below ba) hT hd hV)
  have hbt := built_rtag f t d hd D hD
  have H := Lib.hid (And.intro (h.below ba) (And.intro ba (And.intro hB (And.intro hid hbt))))
  clear h ba hB hid hbt hV hDl hD hd
  generalize tv f t D = V at *
  cases hf1 : isN f with
  | false =>
    have e1 : okTag f t = false := by simp [okTag, hf1]
    have e2 : tagL T f t d = T := by unfold tagL; rw [e1]; rfl
    rw [hf1] at hF
    rw [e1, e2]
    have Hf := Lib.hid hF
    clear hF hT2 e1 e2 hf1
    go_enter Try.func9, Try.ntmps9
    go_wp2_with (go_at_call 23; refine Hf.out.mono ?_; rintro e w' ⟨rfl, rfl⟩)
    go_ret
    exact ⟨rfl, ⟨v, H.out.1, .inl rfl⟩, Out.ofBelow _ H.out.2.1⟩
  | true =>
    rw [hf1] at hF
    have Hf := Lib.hid hF
    clear hF
    cases hok : okTag f t with
    | true =>
      have e2 : tagL T f t d = putT T (f, t, d) := by unfold tagL; rw [if_pos hok]
      rw [e2]
      cases ht1 : isN t with
      | true =>
        rw [ht1] at hT2
        have Ht := Lib.hid hT2
        clear hT2 e2 hok hf1 ht1
        go_enter Try.func9, Try.ntmps9
        go_wp2_with (first
          | (have _ := hdone; go_at_call 23; refine Ht.out.mono ?_; rintro e w' ⟨rfl, rfl⟩)
          | (go_at_call 23; refine Hf.out.mono ?_; rintro e w' ⟨rfl, rfl⟩; have hdone := True.intro)
          | (refine load_row_g (by rfl) 28 _ rfl w.heap.size rfl 28 D.toArray (0, 0) _ H.out.2.2.1 Try.underlying28 rfl H.out.2.2.2.1 ?_; simp only [Act.put])
          | (refine wpList_build_g (by rfl) 59 _ rfl V.toArray H.out.2.2.2.2 ?_; simp only [Act.put])
          | (go_at_call 24; refine Hput.out.mono ?_; rintro e w2 ⟨rfl, hp2, ho2⟩))
        go_ret
        exact ⟨rfl, (by obtain ⟨v', hr, hl⟩ := hp2; exact ⟨v', hr, hl.imp id (fun q b e => Nat.le_trans H.out.2.1.size (q b e))⟩), (Out.ofBelow _ H.out.2.1).trans ho2 fun _ _ e => e⟩
      | false =>
        have ht0 : t = 0 := by simp [okTag, hf1, ht1] at hok; exact hok
        rw [ht1] at hT2
        have Ht := Lib.hid hT2
        clear hT2 e2 hok hf1 ht1
        subst ht0
        go_enter Try.func9, Try.ntmps9
        go_wp2_with (first
          | (have _ := hdone; go_at_call 23; refine Ht.out.mono ?_; rintro e w' ⟨rfl, rfl⟩)
          | (go_at_call 23; refine Hf.out.mono ?_; rintro e w' ⟨rfl, rfl⟩; have hdone := True.intro)
          | (refine load_row_g (by rfl) 28 _ rfl w.heap.size rfl 28 D.toArray (0, 0) _ H.out.2.2.1 Try.underlying28 rfl H.out.2.2.2.1 ?_; simp only [Act.put])
          | (refine wpList_build_g (by rfl) 59 _ rfl V.toArray H.out.2.2.2.2 ?_; simp only [Act.put])
          | (go_at_call 24; refine Hput.out.mono ?_; rintro e w2 ⟨rfl, hp2, ho2⟩))
        go_ret
        exact ⟨rfl, (by obtain ⟨v', hr, hl⟩ := hp2; exact ⟨v', hr, hl.imp id (fun q b e => Nat.le_trans H.out.2.1.size (q b e))⟩), (Out.ofBelow _ H.out.2.1).trans ho2 fun _ _ e => e⟩
    | false =>
      have e2 : tagL T f t d = T := by unfold tagL; rw [hok]; rfl
      have ht1 : isN t = false := by
        cases e : isN t with
        | false => rfl
        | true => simp [okTag, hf1, e] at hok
      have ht0 : ¬ t = 0 := fun e => by subst e; simp [okTag, hf1] at hok
      rw [ht1] at hT2
      rw [e2]
      have Ht := Lib.hid hT2
      clear hT2 e2 hok hf1 ht1
      go_enter Try.func9, Try.ntmps9
      go_wp2_with (first
        | (have _ := hdone; go_at_call 23; refine Ht.out.mono ?_; rintro e w' ⟨rfl, rfl⟩)
        | (go_at_call 23; refine Hf.out.mono ?_; rintro e w' ⟨rfl, rfl⟩; have hdone := True.intro))
      go_ret
      exact ⟨rfl, ⟨v, H.out.1, .inl rfl⟩, Out.ofBelow _ H.out.2.1⟩

set_option maxRecDepth 100000 in
set_option maxHeartbeats 1600000 in
theorem rcheck_any (w0 w : World) (g k : Nat) (v : Value) (T : List Tg) (f t : Int) (d : List UInt8) (D : List Value) (h : RefAt w0 w g v T k) (hT : T.length < 900000) (hk : k < 1000000) (hd : d.length = 32) (hD : cbs d = D) :
    Calls Try.prog 15 #[.pointer (some ⟨g, 0, none⟩), .int .i64 f, .int .i64 t, .agg D.toArray] w fun e w' =>
      e = .returned (.bool (chk T f t d)) ∧ RefAt w0 w' g v T (k + 1) ∧ Out (fun i => i = g) w w' := by
  have ba : Below w.heap.size w (w.alloc (.cells D.toArray 28)) := (Below.refl _ _).alloc (Nat.le_refl _) _
  have hDl : D.length = 32 := by rw [← hD, cbs_length, hd]
  have ha := h.below ba
  have c1 : (w.alloc (.cells D.toArray 28)).cell? ⟨g, 1, none⟩ = some (.int .i64 (k : Int)) := ha.1.cell rfl
  have f1 : (w.alloc (.cells D.toArray 28)).frozen? ⟨g, 1, none⟩ = false := ha.1.free 1
  have hadd : IntKind.i64.wrap ((k : Int) + 1) = ((k + 1 : Nat) : Int) := by rw [IntWalk.i64_in _ (by omega)]; rfl
  have hk1 : ((k : Int) + 1) = ((k + 1 : Nat) : Int) := by omega
  obtain ⟨w1, hw1⟩ : ∃ w1, (w.alloc (.cells D.toArray 28)).setCell ⟨g, 1, none⟩ (.int .i64 ((k : Int) + 1)) = w1 := ⟨_, rfl⟩
  have h1 := ha.more
  have hlt := h.1.lt
  have hO1 : Out (fun i => i = g) w ((w.alloc (.cells D.toArray 28)).setCell ⟨g, 1, none⟩ (.int .i64 ((k + 1 : Nat) : Int))) := Out.setCell (S := fun i => i = g) (p := ⟨g, 1, none⟩) (Out.ofBelow _ ba) (fun _ => rfl) _
  have hdB : Blk ((w.alloc (.cells D.toArray 28)).setCell ⟨g, 1, none⟩ (.int .i64 ((k + 1 : Nat) : Int))) w.heap.size 28 D := (Blk.new rfl rfl).far (by show _ ≠ g; omega) _
  rw [← hk1, hw1] at h1 hO1 hdB
  have hid : (Try.prog.info? 28).map (·.size) = some D.toArray.size := by rw [List.size_toArray, hDl]; exact info32b
  have hV1 : tcells f t d = tv f t D := by unfold tcells tv ci; rw [hD]
  have hV2 : tcells f 0 d = tv f 0 D := by unfold tcells tv ci; rw [hD]
  have hb1 := built_rtag f t d hd D hD
  have hb2 := built_rtag0 f d hd D hD
  have Hw1 := Lib.hid hw1
  have Hh := Lib.hid (rhas_any w0 w1 g (k + 1) v T f t d (tv f t D) h1 (by omega) hd hV1)
  have hh2 := fun w' hb' => rhas_any w0 w' g (k + 1) v T f 0 d (tv f 0 D) (h1.below hb') (by omega) hd hV2
  have H := Lib.hid (And.intro h1 (And.intro hO1 (And.intro hdB (And.intro hid (And.intro hb1 hb2)))))
  generalize tv f t D = V1 at *
  generalize tv f 0 D = V2 at *
  have Hh2 := Lib.hid hh2
  clear h ha h1 hO1 hdB hid hb1 hb2 hw1 hh2 hV1 hV2 hlt hD hDl hk1 hadd hd
  have hk63 : -9223372036854775808 ≤ (k : Int) + 1 ∧ (k : Int) + 1 ≤ 9223372036854775807 := by omega
  have hadd : IntKind.i64.wrap ((k : Int) + 1) = (k : Int) + 1 := IntWalk.i64_in _ (by omega)
  cases hi1 : inT T f t d with
  | true =>
    have e : chk T f t d = true := by simp [chk, hi1]
    rw [e]
    rw [hi1] at Hh
    clear e hi1
    go_enter Try.func15, Try.ntmps15
    go_wp2_with (first
      | (refine cast (congrArg (fun z => wpList _ _ _ _ _ z) Hw1.out.symm) ?_; refine load_row_g (by rfl) 28 _ rfl w.heap.size rfl 28 D.toArray (0, 0) _ H.out.2.2.1 Try.underlying28 rfl H.out.2.2.2.1 ?_; simp only [Act.put])
      | (refine wpList_build_g (by rfl) 59 _ rfl V1.toArray H.out.2.2.2.2.1 ?_; simp only [Act.put])
      | (go_at_call 28; refine Hh.out.mono ?_; rintro e w2 ⟨rfl, hb2⟩))
    go_ret
    exact ⟨rfl, H.out.1.below hb2, H.out.2.1.then_below hb2⟩
  | false =>
    have e : chk T f t d = inT T f 0 d := by simp [chk, hi1]
    rw [e]
    rw [hi1] at Hh
    clear e hi1
    go_enter Try.func15, Try.ntmps15
    go_wp2_with (first
      | (refine load_row_g (by rfl) 28 _ rfl w.heap.size rfl 28 D.toArray (0, 0) _ (H.out.2.2.1.below hb2 H.out.2.2.1.lt) Try.underlying28 rfl H.out.2.2.2.1 ?_; simp only [Act.put])
      | (refine cast (congrArg (fun z => wpList _ _ _ _ _ z) Hw1.out.symm) ?_; refine load_row_g (by rfl) 28 _ rfl w.heap.size rfl 28 D.toArray (0, 0) _ H.out.2.2.1 Try.underlying28 rfl H.out.2.2.2.1 ?_; simp only [Act.put])
      | (have _ := hb2; refine wpList_build_g (by rfl) 59 _ rfl V2.toArray H.out.2.2.2.2.2 ?_; simp only [Act.put])
      | (refine wpList_build_g (by rfl) 59 _ rfl V1.toArray H.out.2.2.2.2.1 ?_; simp only [Act.put])
      | (go_at_call 28; refine (Hh2.out w2 hb2).mono ?_; rintro e w3 ⟨rfl, hb3⟩)
      | (go_at_call 28; refine Hh.out.mono ?_; rintro e w2 ⟨rfl, hb2⟩))
    go_ret
    have hb := hb2.trans (hb3.mono hb2.size)
    exact ⟨rfl, H.out.1.below hb, H.out.2.1.then_below hb⟩
end Go.Proofs.Ytkmijmlcijbbcaa
