/-
  The reference's ledger: put, over the reference's text.
-/
import Derived.Test.YtkmijmlcijbbcaaTagR
namespace Go.Proofs.Ytkmijmlcijbbcaa
open Go.RowKit Go.Maps
set_option linter.unusedVariables false

theorem rtag_info : (Try.prog.info? 59).map (fun i => (i.zero, i.size, i.bytes)) = some (some (.agg #[.int .i64 0, .int .i64 0, .int .u8 0, .int .u8 0, .int .u8 0, .int .u8 0, .int .u8 0, .int .u8 0, .int .u8 0, .int .u8 0, .int .u8 0, .int .u8 0, .int .u8 0, .int .u8 0, .int .u8 0, .int .u8 0, .int .u8 0, .int .u8 0, .int .u8 0, .int .u8 0, .int .u8 0, .int .u8 0, .int .u8 0, .int .u8 0, .int .u8 0, .int .u8 0, .int .u8 0, .int .u8 0, .int .u8 0, .int .u8 0, .int .u8 0, .int .u8 0, .int .u8 0, .int .u8 0]), 34, 48) := by kernel_rfl
theorem tcells_one (f t : Int) (d : List UInt8) : ∀ u ∈ tcells f t d, u.oneCell' = true := by
  intro u hu
  unfold tcells at hu
  rcases List.mem_cons.1 hu with rfl | hu
  · rfl
  · rcases List.mem_cons.1 hu with rfl | hu
    · rfl
    · exact cbs_one d u hu

theorem fill_tag (f t : Int) (d : List UInt8) (hd : d.length = 32) (V : List Value) (hV : tcells f t d = V) : List.foldl (fun (cs : Array Value) (x : Value × Nat) => cs.setIfInBounds x.snd x.fst) #[.int .i64 0, .int .i64 0, .int .u8 0, .int .u8 0, .int .u8 0, .int .u8 0, .int .u8 0, .int .u8 0, .int .u8 0, .int .u8 0, .int .u8 0, .int .u8 0, .int .u8 0, .int .u8 0, .int .u8 0, .int .u8 0, .int .u8 0, .int .u8 0, .int .u8 0, .int .u8 0, .int .u8 0, .int .u8 0, .int .u8 0, .int .u8 0, .int .u8 0, .int .u8 0, .int .u8 0, .int .u8 0, .int .u8 0, .int .u8 0, .int .u8 0, .int .u8 0, .int .u8 0, .int .u8 0] V.zipIdx = V.toArray := by
  subst hV
  obtain ⟨a0, a1, a2, a3, a4, a5, a6, a7, a8, a9, a10, a11, a12, a13, a14, a15, a16, a17, a18, a19, a20, a21, a22, a23, a24, a25, a26, a27, a28, a29, a30, a31, rfl⟩ := thirty2 d hd
  kernel_rfl

set_option maxRecDepth 100000 in
theorem run_appendT (w : World) (base : Nat) (v : Value) (T : List Tg) (hown : w.ownsRow base 59 34 v T.length (txs T)) (q : Nat) (f t : Int) (d : List UInt8) (hd : d.length = 32) (V : List Value) (hV : tcells f t d = V) (hg : Blk w q 59 V)
    (hT : T.length < 1000000) (hbase : base ≤ w.heap.size) (ty : TypeId) :
    ∃ v' w', (Builtin.append_ #[51, 51] ty #[v, .slice (some ⟨q, 0, none⟩) 1 1]).run Try.prog w = .ok v' w' ∧ w'.ownsRow base 59 34 v' (T ++ [(f, t, d)]).length (txs (T ++ [(f, t, d)])) ∧ w.grownBy w' v.ownBlock ∧
      (v'.ownBlock = v.ownBlock ∨ v'.ownBlock = some w.heap.size) := by
  obtain ⟨i0, hi, hz0, hz1, hz2⟩ := info_parts rtag_info
  have hcells : ∀ j u, V[j]? = some u → w.cell? ((⟨q, 0, none⟩ : Addr).add j) = some u := fun j u hu => by
    rw [add_mk, Nat.zero_add]; exact hg.cell hu
  obtain ⟨v', w', h1, h2, h3, _, h5⟩ := run_append_own_at (P := Try.prog) w base 51 ty 59 i0 _ 34 48 Try.underlying51 hi hz0 hz1 hz2 rfl (by decide) v T.length (txs T) hown ⟨q, 0, none⟩ 1 1 V
    (by rw [← hV, tcells_len f t d hd]) hcells (by rw [← hV]; exact tcells_one f t d) (by simp only [maxLen]; omega) (by omega) hbase
  have e : txs (T ++ [(f, t, d)]) = txs T ++ V := by rw [txs_snoc, ← hV]; rfl
  exact ⟨v', w', h1, by rw [List.length_append, e]; exact h2, h3, h5⟩

section
variable {ops : Array Oper} {Q : Exit → Act → World → Prop}
theorem op_append {i d : Nat} {oi : Oper} {a : Act} {w : World} {K : Act → World → Prop} (hi : ops[i]? = some oi) (hd : oi.dst = some d) (hgd : oi.guard = none) (s x : Operand)
    (ho : oi.op = .call { callee := .builtin .append, args := #[s, x], argTypes := #[51, 51] }) (v xs v' : Value) (w' : World) (hs : a.eval s = v) (hx : a.eval x = xs)
    (hrun : (Builtin.append_ #[51, 51] oi.type #[v, xs]).run Try.prog w = .ok v' w') (h : K { a with tmps := a.tmps.setIfInBounds d v' } w') : wpOp Try.prog ops Q i K a w := by
  refine wpOp_step hi (fun K' hK => ?_)
  have hw : Region.wanted oi (yielded ops a.tmps) = true := by simp [Region.wanted, hgd]
  rw [if_pos hw]
  unfold Oper.wp execOp
  simp only [ho, resolve, invoke, builtin, Sem.run_bind, Sem.run_pure, Result.andThen_ok, List.map_toArray, List.map_cons, List.map_nil, hs, hx, hrun]
  exact hK _ _ (by unfold Act.put; rw [hd]; exact h)
end

/-- The blocks of such a ledger. -/
def RefS (g : Nat) (v : Value) : Nat → Prop := fun i => i = g ∨ v.ownBlock = some i
/-- Its row is as it was, or new. -/
def RefLoc (w : World) (v v' : Value) : Prop := v'.ownBlock = v.ownBlock ∨ ∀ b, v'.ownBlock = some b → w.heap.size ≤ b
theorem RefLoc.trans {w w1 : World} {v v' v2 : Value} (h : RefLoc w v v') (k : RefLoc w1 v' v2) (hs : w.heap.size ≤ w1.heap.size) : RefLoc w v v2 := by
  rcases k with k | k
  · rcases h with h | h
    · exact .inl (k.trans h)
    · exact .inr fun b e => h b (k.symm.trans e)
  · exact .inr fun b e => Nat.le_trans hs (k b e)
theorem RefLoc.out {w w1 w2 : World} {g : Nat} {v v' : Value} (h : RefLoc w v v') (h1 : Out (RefS g v) w w1) (h2 : Out (RefS g v') w1 w2) : Out (RefS g v) w w2 := h1.trans h2 fun i hi e => by
  rcases e with e | e
  · exact .inl e
  · rcases h with h | h
    · exact .inr (h.symm.trans e)
    · have := h i e; omega

set_option maxRecDepth 100000 in
set_option maxHeartbeats 1600000 in
theorem rput_any (w0 w : World) (g k : Nat) (v : Value) (T : List Tg) (f t : Int) (d : List UInt8) (V : List Value) (h : RefAt w0 w g v T k) (hT : T.length < 900000) (hd : d.length = 32) (hV : tcells f t d = V) :
    Calls Try.prog 24 #[.pointer (some ⟨g, 0, none⟩), .agg V.toArray] w fun e w' => e = .returned (.tuple #[]) ∧ (∃ v', RefAt w0 w' g v' (putT T (f, t, d)) k ∧ RefLoc w v v') ∧ Out (RefS g v) w w' := by
  obtain ⟨Av, cv, rfl, _, _⟩ := row_form' h.2.1
  have hVl : V.length = 34 := by rw [← hV]; exact tcells_len f t d hd
  have b0 : Below w.heap.size w (w.alloc (.cells V.toArray 59)) := (Below.refl _ _).alloc (Nat.le_refl _) _
  have hB : Blk (w.alloc (.cells V.toArray 59)) w.heap.size 59 V := Blk.new rfl rfl
  have hidA : (Try.prog.info? 59).map (·.size) = some V.toArray.size := by rw [List.size_toArray, hVl]; exact info34r
  have hid : (Try.prog.info? 59).map (·.size) = some V.length := by rw [hVl]; exact info34r
  have Hh := Lib.hid (rhas_any w0 _ g k _ T f t d V (h.below b0) (by omega) hd hV)
  have H := Lib.hid (And.intro h (And.intro b0 (And.intro hB (And.intro hidA (And.intro hV hd)))))
  have hnot : ∀ (x : Bool) (w : World), (Op.unary .not (.bool x)).run Try.prog w = .ok (.bool (!x)) w := fun _ _ => rfl
  clear h b0 hB hidA hV hd hVl
  cases hin : inT T f t d with
  | true =>
    have hput : putT T (f, t, d) = T := by unfold putT; rw [if_pos (by unfold inT at hin; simpa using hin)]
    rw [hin] at Hh
    have Hp := Lib.hid hput
    clear hin hput hid
    go_enter Try.func24, Try.ntmps24
    go_wp2_with (first
      | (refine load_row_g (by rfl) 59 _ rfl w.heap.size rfl 59 V.toArray (0, 0) _ H.out.2.2.1 Try.underlying59 rfl H.out.2.2.2.1 ?_; simp only [Act.put])
      | (go_at_call 28; refine Hh.out.mono ?_; rintro e w2 ⟨rfl, hb2⟩))
    go_end0
    have hb := H.out.2.1.trans (hb2.mono H.out.2.1.size)
    exact ⟨rfl, ⟨_, by rw [Hp.out]; exact H.out.1.below hb, .inl rfl⟩, Out.ofBelow _ hb⟩
  | false =>
    have hput : putT T (f, t, d) = T ++ [(f, t, d)] := by unfold putT; rw [if_neg (by unfold inT at hin; simpa using hin)]
    rw [hin] at Hh
    have Hp := Lib.hid hput
    clear hin hput
    go_enter Try.func24, Try.ntmps24
    go_wp2_with (first
      | (refine load_row_g (by rfl) 59 _ rfl w.heap.size rfl 59 V.toArray (0, 0) _ H.out.2.2.1 Try.underlying59 rfl H.out.2.2.2.1 ?_; simp only [Act.put])
      | (go_at_call 28; refine Hh.out.mono ?_; rintro e w2 ⟨rfl, hb2⟩))
    have hbd : Below w.heap.size w w2.drew := (H.out.2.1.trans (hb2.mono H.out.2.1.size)).drew
    have hRd : RefAt w0 w2.drew g (.slice Av T.length cv) T k := H.out.1.below hbd
    have hBd : Blk w2.drew w.heap.size 59 V := Blk.below H.out.2.2.1 (hb2.trans (Below.refl _ _).drew) (by simp)
    have hr0 : w2.drew.rangeAt w.heap.size 0 V := hBd.range
    have c0 : w2.drew.cell? ⟨g, 0, none⟩ = some (.slice Av T.length cv) := hRd.1.cell rfl
    have hal : Below w2.drew.heap.size w2.drew (w2.drew.alloc (.cells V.toArray 59)) := (Below.refl _ _).alloc (Nat.le_refl _) _
    have hR1 := hRd.below hal
    have c1 : (w2.drew.alloc (.cells V.toArray 59)).cell? ⟨g, 0, none⟩ = some (.slice Av T.length cv) := hR1.1.cell rfl
    have c1' : (w2.alloc (.cells V.toArray 59)).cell? ⟨g, 0, none⟩ = some (.slice Av T.length cv) := c1
    have hB1 : Blk (w2.drew.alloc (.cells V.toArray 59)) w2.drew.heap.size 59 V := Blk.new rfl rfl
    obtain ⟨v', w3, hrunA, hown3, hgr3, hloc3⟩ := run_appendT _ w0.heap.size (.slice Av T.length cv) T hR1.2.1 w2.drew.heap.size f t d H.out.2.2.2.2.2 V H.out.2.2.2.2.1 hB1 (by omega) hR1.2.2.2.2.size 51
    obtain ⟨A3, c3', e3, _, _⟩ := row_form' hown3
    obtain ⟨n3, hn3⟩ : ∃ n3, (T ++ [(f, t, d)]).length = n3 := ⟨_, rfl⟩
    rw [hn3] at e3
    subst e3
    have hgv : (Value.slice Av T.length cv).ownBlock ≠ some g := fun e => by
      obtain ⟨_, ⟨e0, _⟩ | ⟨b, cap, cur, e0, _, hh, _⟩⟩ := hR1.2.1
      · rw [e0] at e; simp [Value.ownBlock] at e
      · rw [e0] at e
        simp [Value.ownBlock] at e
        subst e
        have := hR1.1
        unfold Blk at this
        rw [hh] at this
        injection this with this
        injection this with _ this
        revert this
        decide
    have hL3 : Blk w3 g 53 [.slice Av T.length cv, .int .i64 (k : Int)] := (hgr3.block g hR1.1.lt (fun e => hgv e.symm)).trans hR1.1
    have c3 : w3.cell? ⟨g, 0, none⟩ = some (.slice Av T.length cv) := hL3.cell rfl
    have f3 : w3.frozen? ⟨g, 0, none⟩ = false := hL3.free 0
    have hL4 := hL3.set_ 0 (.slice A3 n3 c3')
    have hgv' : (Value.slice A3 n3 c3').ownBlock ≠ some g := fun e => by
      rcases hloc3 with h | h
      · exact hgv (h.symm.trans e)
      · rw [h] at e
        injection e with e
        have := hR1.1.lt
        omega
    have hown4 : (w3.setCell ⟨g, 0, none⟩ (.slice A3 n3 c3')).ownsRow w0.heap.size 59 34 (.slice A3 n3 c3') (T ++ [(f, t, d)]).length (txs (T ++ [(f, t, d)])) := row_kept hown3 fun b hb _ => Below.heap_setCell w3 ⟨g, 0, none⟩ (.slice A3 n3 c3') b (fun e => by
      subst e
      exact hgv' hb)
    have hbe3 : Below w0.heap.size w0 w3 := hR1.2.2.2.2.grown hgr3 hR1.2.2.2.2.size (fun b e => (hR1.2.1.lt b e).1)
    have hR4 : RefAt w0 (w3.setCell ⟨g, 0, none⟩ (.slice A3 n3 c3')) g (.slice A3 n3 c3') (T ++ [(f, t, d)]) k := ⟨hL4, hown4, fun x hx => by
      rcases List.mem_append.1 hx with hx | hx
      · exact hR1.2.2.1 x hx
      · simp at hx; rw [hx]; exact H.out.2.2.2.2.2, hR1.2.2.2.1, hbe3.setCell hR1.2.2.2.1 _⟩
    have hO3 : Out (RefS g (.slice Av T.length cv)) w w3 := ((Out.ofBelow _ hbd).then_below hal).then_grown hgr3 fun i hi _ => .inr hi
    have hO4 : Out (RefS g (.slice Av T.length cv)) w (w3.setCell ⟨g, 0, none⟩ (.slice A3 n3 c3')) := Out.setCell (p := ⟨g, 0, none⟩) hO3 (fun _ => .inl rfl) _
    have Hend := Lib.hid (And.intro hR4 hO4)
    have hloc4 : RefLoc w (.slice Av T.length cv) (.slice A3 n3 c3') := hloc3.imp id (fun e b hb => by
      rw [e] at hb
      injection hb with hb
      have h1 := hbd.size
      have h2 := hal.size
      omega)
    have Hloc := Lib.hid hloc4
    clear hloc4
    have hfill := fill_tag f t d H.out.2.2.2.2.2 V H.out.2.2.2.2.1
    have hVl : V.length = 34 := by rw [← H.out.2.2.2.2.1]; exact tcells_len f t d H.out.2.2.2.2.2
    have hr1 : (w2.drew.alloc (.cells V.toArray 59)).rangeAt w.heap.size 0 V := (hBd.old _).range
    clear hn3 hRd hBd hal hR1 hB1 hown3 hgr3 hloc3 hgv hL3 hL4 hgv' hown4 hbe3 hR4 hO3 hO4 hbd hb2
    refine wp_region_any (by kernel_rfl) ?_
    change wpAny _ _ _ _ _ _ _ (World.drew _)
    refine any_take (i := 0) (d := 8) (v := .pointer (some ⟨g, 0, none⟩)) rfl rfl (by kernel_rfl) (by kernel_rfl) (by kernel_rfl) (fun _ _ _ h => h) (Or.inl ⟨by rfl, (by intro w; go_simp)⟩) ?_
    simp only [List.setIfInBounds_toArray, List.set_cons_zero, List.set_cons_succ]
    refine any_take (i := 1) (d := 9) (v := .pointer (some ⟨g, 0, none⟩)) rfl rfl (by kernel_rfl) (by kernel_rfl) (by kernel_rfl) (fun _ _ _ h => h) (Or.inl ⟨by rfl, (by intro w; go_simp)⟩) ?_
    simp only [List.setIfInBounds_toArray, List.set_cons_zero, List.set_cons_succ]
    refine any_take (i := 2) (d := 10) (v := .pointer (some ⟨g, 0, none⟩)) rfl rfl (by kernel_rfl) (by kernel_rfl) (by kernel_rfl) (fun _ _ _ h => h) (Or.inl ⟨by rfl, (by intro w; go_simp)⟩) ?_
    simp only [List.setIfInBounds_toArray, List.set_cons_zero, List.set_cons_succ]
    refine any_take (i := 3) (d := 11) (v := .pointer (some ⟨g, 0, none⟩)) rfl rfl (by kernel_rfl) (by kernel_rfl) (by kernel_rfl) (fun _ _ _ h => h) (Or.inl ⟨by rfl, (by intro w; go_simp)⟩) ?_
    simp only [List.setIfInBounds_toArray, List.set_cons_zero, List.set_cons_succ]
    refine any_two (i := 4) (j := 5) (by kernel_rfl) ?_ ?_
    · refine wpOp_step rfl (fun K hK => ?_)
      go_simp
      refine hK _ _ ?_
      clear hK K
      refine any_one (i := 5) (by kernel_rfl) ?_
      refine op_load (d := 13) rfl rfl rfl 59 _ rfl w.heap.size 0 rfl V _ hr0 Try.underlying59 rfl hid ?_
      simp only [List.setIfInBounds_toArray, List.set_cons_zero, List.set_cons_succ]
      refine any_one (i := 6) (by kernel_rfl) ?_
      refine wpOp_step rfl (fun K hK => ?_)
      go_simp
      refine hK _ _ ?_
      clear hK K
      refine any_one (i := 7) (by kernel_rfl) ?_
      refine op_append (d := 15) rfl rfl rfl _ _ rfl _ _ _ w3 rfl rfl hrunA ?_
      simp only [List.setIfInBounds_toArray, List.set_cons_zero, List.set_cons_succ]
      refine any_take (i := 8) (d := 16) (v := .pointer (some ⟨g, 0, none⟩)) rfl rfl (by kernel_rfl) (by kernel_rfl) (by kernel_rfl) (fun _ _ _ h => h) (Or.inl ⟨by rfl, (by intro w; go_simp)⟩) ?_
      simp only [List.setIfInBounds_toArray, List.set_cons_zero, List.set_cons_succ]
      refine any_take (i := 9) (d := 17) (v := .pointer (some ⟨g, 0, none⟩)) rfl rfl (by kernel_rfl) (by kernel_rfl) (by kernel_rfl) (fun _ _ _ h => h) (Or.inl ⟨by rfl, (by intro w; go_simp)⟩) ?_
      simp only [List.setIfInBounds_toArray, List.set_cons_zero, List.set_cons_succ]
      refine any_one (i := 10) (by kernel_rfl) ?_
      refine wpOp_step rfl (fun K hK => ?_)
      go_simp
      refine hK _ _ ?_
      clear hK K
      refine wpAny_done (by kernel_rfl) ?_ _
      go_wp2
      go_end0
      exact ⟨rfl, ⟨_, by rw [Hp.out]; exact Hend.out.1, Hloc.out⟩, Hend.out.2⟩
    · refine op_load (d := 13) rfl rfl rfl 59 _ rfl w.heap.size 0 rfl V _ hr0 Try.underlying59 rfl hid ?_
      simp only [List.setIfInBounds_toArray, List.set_cons_zero, List.set_cons_succ]
      refine any_two (i := 4) (j := 6) (by kernel_rfl) ?_ ?_
      · refine wpOp_step rfl (fun K hK => ?_)
        go_simp
        refine hK _ _ ?_
        clear hK K
        refine any_one (i := 6) (by kernel_rfl) ?_
        refine wpOp_step rfl (fun K hK => ?_)
        go_simp
        refine hK _ _ ?_
        clear hK K
        refine any_one (i := 7) (by kernel_rfl) ?_
        refine op_append (d := 15) rfl rfl rfl _ _ rfl _ _ _ w3 rfl rfl hrunA ?_
        simp only [List.setIfInBounds_toArray, List.set_cons_zero, List.set_cons_succ]
        refine any_take (i := 8) (d := 16) (v := .pointer (some ⟨g, 0, none⟩)) rfl rfl (by kernel_rfl) (by kernel_rfl) (by kernel_rfl) (fun _ _ _ h => h) (Or.inl ⟨by rfl, (by intro w; go_simp)⟩) ?_
        simp only [List.setIfInBounds_toArray, List.set_cons_zero, List.set_cons_succ]
        refine any_take (i := 9) (d := 17) (v := .pointer (some ⟨g, 0, none⟩)) rfl rfl (by kernel_rfl) (by kernel_rfl) (by kernel_rfl) (fun _ _ _ h => h) (Or.inl ⟨by rfl, (by intro w; go_simp)⟩) ?_
        simp only [List.setIfInBounds_toArray, List.set_cons_zero, List.set_cons_succ]
        refine any_one (i := 10) (by kernel_rfl) ?_
        refine wpOp_step rfl (fun K hK => ?_)
        go_simp
        refine hK _ _ ?_
        clear hK K
        refine wpAny_done (by kernel_rfl) ?_ _
        go_wp2
        go_end0
        exact ⟨rfl, ⟨_, by rw [Hp.out]; exact Hend.out.1, Hloc.out⟩, Hend.out.2⟩
      · refine wpOp_step rfl (fun K hK => ?_)
        go_simp
        refine hK _ _ ?_
        clear hK K
        refine any_one (i := 4) (by kernel_rfl) ?_
        refine wpOp_step rfl (fun K hK => ?_)
        go_simp
        refine hK _ _ ?_
        clear hK K
        refine any_one (i := 7) (by kernel_rfl) ?_
        refine op_append (d := 15) rfl rfl rfl _ _ rfl _ _ _ w3 rfl rfl hrunA ?_
        simp only [List.setIfInBounds_toArray, List.set_cons_zero, List.set_cons_succ]
        refine any_take (i := 8) (d := 16) (v := .pointer (some ⟨g, 0, none⟩)) rfl rfl (by kernel_rfl) (by kernel_rfl) (by kernel_rfl) (fun _ _ _ h => h) (Or.inl ⟨by rfl, (by intro w; go_simp)⟩) ?_
        simp only [List.setIfInBounds_toArray, List.set_cons_zero, List.set_cons_succ]
        refine any_take (i := 9) (d := 17) (v := .pointer (some ⟨g, 0, none⟩)) rfl rfl (by kernel_rfl) (by kernel_rfl) (by kernel_rfl) (fun _ _ _ h => h) (Or.inl ⟨by rfl, (by intro w; go_simp)⟩) ?_
        simp only [List.setIfInBounds_toArray, List.set_cons_zero, List.set_cons_succ]
        refine any_one (i := 10) (by kernel_rfl) ?_
        refine wpOp_step rfl (fun K hK => ?_)
        go_simp
        refine hK _ _ ?_
        clear hK K
        refine wpAny_done (by kernel_rfl) ?_ _
        go_wp2
        go_end0
        exact ⟨rfl, ⟨_, by rw [Hp.out]; exact Hend.out.1, Hloc.out⟩, Hend.out.2⟩
end Go.Proofs.Ytkmijmlcijbbcaa
