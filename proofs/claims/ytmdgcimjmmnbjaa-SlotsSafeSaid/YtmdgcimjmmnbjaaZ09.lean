/-
  Laid together for a hand-in: Vt14, Pc14, Nw14, Op14.
-/
import Derived.Test.YtmdgcimjmmnbjaaZ08
import Derived.Carry

namespace Go.Proofs.Ytmdgcimjmmnbjaa
open Go.RowKit Go.Shelf Go.Sort Go.Maps CrewP
set_option linter.unusedVariables false
set_option linter.unusedSimpArgs false

theorem st_okC {σ : St} (h : σ.ok) : okC σ.f σ.ns = true := by
  rw [okC_iff]
  exact ⟨⟨h.f0, h.f1, h.len⟩, h.rng, h.asc⟩
theorem has_st {σ : St} (h : σ.ok) (n : Int) : hasR σ.f σ.ns n = decide (n ∈ σ.ns) := by unfold hasR; rw [st_okC h]; rfl
theorem lead_st {σ : St} (h : σ.ok) {v : Int} (hv : viewB v = true) : leaderR σ.f σ.ns v = leadO σ v := by
  unfold leaderR leadO
  simp [viewB] at hv
  rw [if_pos ⟨st_okC h, hv.1⟩]
/-- What may be said against a node that votes in a view. -/
def mayE (σ : St) (node view : Int) : Int := if node ∉ σ.ns then 110 else if viewB view = false then 190 else 0

section
variable {w : World} {U : Nat → Prop} {g : Nat} {σ : St} {ab cap m : Nat} {sb qb rb cb : Nat → Nat} {role : Nat → Nat}
theorem mayVote_in (h : StIn w U g σ all8 ab cap m sb qb rb cb role) (node view : Int) (E : Int) (hE : mayE σ node view = E) :
    Calls Try.prog 43 #[.pointer (some ⟨g, 0, none⟩), .int .i64 node, .int .i64 view] w fun e w' => e = .returned (.int .i64 E) ∧ Below w.heap.size w w' := by
  have c0 := h.blk.cell (i := 0) rfl
  have c1 := h.blk.cell (i := 1) rfl
  have Hn := Lib.hid (none_in h)
  have hh := has_any σ.f _ _ _ _ w h.arg node
  rw [has_st h.ok] at hh
  unfold mayE at hE
  by_cases hn : node ∈ σ.ns
  · rw [decide_eq_true hn] at hh
    rw [if_neg (by simpa using hn)] at hE
    have Hh := Lib.hid hh
    cases hv : viewB view with
    | false =>
      have Hv := Lib.hid (isView_any view false hv)
      rw [hv, if_pos rfl] at hE
      subst hE
      clear hh h hn hv
      go_enter Try.func43, Try.ntmps43
      go_wp2_with (first
        | (go_at_call 38; refine Hn.out.mono ?_; rintro e w' ⟨rfl, rfl⟩)
        | (go_at_call 47; refine Hh.out.mono ?_; rintro e w1 ⟨rfl, hb⟩; replace hb := Lib.hid hb)
        | (go_at_call 39; refine (Hv.out _).mono ?_; rintro e w' ⟨rfl, rfl⟩))
      go_ret
      exact ⟨rfl, hb.out⟩
    | true =>
      have Hv := Lib.hid (isView_any view true hv)
      rw [hv, if_neg (by simp)] at hE
      subst hE
      clear hh h hn hv
      go_enter Try.func43, Try.ntmps43
      go_wp2_with (first
        | (go_at_call 38; refine Hn.out.mono ?_; rintro e w' ⟨rfl, rfl⟩)
        | (go_at_call 47; refine Hh.out.mono ?_; rintro e w1 ⟨rfl, hb⟩; replace hb := Lib.hid hb)
        | (go_at_call 39; refine (Hv.out _).mono ?_; rintro e w' ⟨rfl, rfl⟩))
      go_ret
      exact ⟨rfl, hb.out⟩
  · rw [decide_eq_false hn] at hh
    rw [if_pos (by simpa using hn)] at hE
    subst hE
    have Hh := Lib.hid hh
    clear hh h hn
    go_enter Try.func43, Try.ntmps43
    go_wp2_with (first
      | (go_at_call 38; refine Hn.out.mono ?_; rintro e w' ⟨rfl, rfl⟩)
      | (go_at_call 47; refine Hh.out.mono ?_; rintro e w1 ⟨rfl, hb⟩; replace hb := Lib.hid hb))
    go_ret
    exact ⟨rfl, hb.out⟩
end
theorem vts_look {ns : List Int} (hn : ns.Nodup) (f : Int → Option Vt) {n : Int} (hm : n ∈ ns) : lk (vts ns f) n = f n := by
  cases e : f n with
  | some x => exact lk_mem (hn.sublist (vts_keys ns f)) (vts_mem.2 ⟨hm, e⟩)
  | none =>
    cases e2 : lk (vts ns f) n with
    | none => rfl
    | some y => have := (vts_mem.1 (lk_some e2)).2; rw [e] at this; cases this
theorem wf_node {σ : St} (h : σ.ok) {n : Int} (hm : n ∈ σ.ns) : Wf n := wf_b (by have := h.rng n hm; omega) (by have := h.rng n hm; omega)

theorem upd_g {P : Program} {ops : Array Oper} {rest : List Oper} {o : Oper} {a : Act} {w : World} {Q : Exit → Act → World → Prop} (hgd : o.guard = none) (t : TypeId) (m x y : Operand) (ho : o.op = .mapUpdate t m x y)
    (M X Y : Value) (w' : World) (hm : a.eval m = M) (hx : a.eval x = X) (hy : a.eval y = Y) (hrun : (Instr.mapUpdate t M X Y).run P w = .ok () w') (h : wpList P ops Q rest (a.put o.dst undef) w') : wpList P ops Q (o :: rest) a w := by
  refine wpList_plain hgd fun K hK => ?_
  unfold Oper.wp
  simp [execOp, ho, hm, hx, hy, hrun, Result.andThen]
  exact hK _ _ h

theorem prepClo_any {w : World} {s : Nat} {cs : List Value} {r : Nat} (hB : Blk w s 68 cs) (hc : cs[69]? = some (.map (some r))) : Calls Try.prog 46 #[.pointer (some ⟨s, 0, none⟩)] w fun e w' => e = .returned (.map (some r)) ∧ w' = w := by
  have c := hB.cell hc
  clear hB hc
  go_enter Try.func46, Try.ntmps46
  go_wp2
  go_ret
  exact ⟨rfl, rfl⟩
def prepVE (σ : St) (node seq : Int) (now : Vt) : Int := match idx σ seq with | none => 150 | some i => fol ((σ.s i).pr node) now
def prepVS (σ : St) (node seq : Int) (now : Vt) : St := if prepVE σ node seq now ≠ 0 then σ else match idx σ seq with | none => σ | some i => σ.set i { σ.s i with pr := setV ((σ.s i).pr) node now }
set_option maxRecDepth 100000 in
set_option maxHeartbeats 3200000 in
theorem prepVote_in {w : World} {U : Nat → Prop} {g : Nat} {σ : St} {ab cap m : Nat} {sb qb rb cb : Nat → Nat} {role : Nat → Nat} (h : StIn w U g σ all8 ab cap m sb qb rb cb role) (node seq : Int) (hm : node ∈ σ.ns) (hsq : Wf seq) (now : Vt) (hnow : now.ok) (E : Int) (hE : prepVE σ node seq now = E) :
    Calls Try.prog 45 #[.pointer (some ⟨g, 0, none⟩), .int .i64 node, .int .i64 seq, .agg (sy (some now)).toArray, .func (.func 46) #[] #[]] w fun e w' =>
      e = .returned (.int .i64 E) ∧ StIn w' U g (prepVS σ node seq now) all8 ab cap m sb qb rb cb role ∧ Out U w w' := by
  have hon : okO (some now) := fun y hy => by injection hy with hy; rw [← hy]; exact hnow
  have b0 : Below w.heap.size w (w.alloc (.cells (sy (some now)).toArray 64)) := (Below.refl _ _).alloc (Nat.le_refl _) _
  have h0 := h.below b0
  have X0 : Blk (w.alloc (.cells (sy (some now)).toArray 64)) w.heap.size 64 (sy (some now)) := Blk.new rfl rfl
  have hlook := num_look h0 hsq
  have c3 := h0.blk.cell (i := 3) rfl
  have hsn := say_infoL hon
  cases hix : idx σ seq with
  | none =>
    have hE' : E = 150 := by rw [← hE]; unfold prepVE; rw [hix]
    have hS' : Hid (prepVS σ node seq now = σ) := by show _ = _; unfold prepVS; rw [if_pos (by rw [hE, hE']; decide)]
    subst hE'
    rw [hix] at hlook
    simp only [Option.map_none] at hlook
    have H0 := Lib.hid (And.intro h0 b0)
    clear h0 b0 X0 h hE hix hsn hnow hon hm
    generalize hC : sy (some now) = C at *
    go_enter Try.func45, Try.ntmps45
    go_wp2
    go_ret
    refine ⟨rfl, ?_, Out.ofBelow U H0.out.2⟩
    rw [hS'.out]
    exact H0.out.1
  | some i =>
    have hi8 := (idx_lt hix).1
    have hfol : fol ((σ.s i).pr node) now = E := by rw [← hE]; unfold prepVE; rw [hix]
    rw [hix] at hlook
    simp only [Option.map_some] at hlook
    have hs0 := h0.s i hi8 rfl
    have hok := h.ok.s i hi8
    obtain ⟨_, _, _, h69, h70, _⟩ := sq_cells hok.last hok.p (.map (some (qb i))) (.map (some (rb i))) (.map (some (cb i)))
    have Hc := Lib.hid (prepClo_any hs0.blk h69)
    have hsay : (Instr.lookup 66 (.map (some (rb i))) (.int .i64 node) false).run Try.prog (w.alloc (.cells (sy (some now)).toArray 64)) = .ok (.agg (sy ((σ.s i).pr node)).toArray) (w.alloc (.cells (sy (some now)).toArray 64)) := by
      have := hs0.pr.look Try.underlying66 (say_zero _) (a := node) (wf_node h.ok hm)
      rw [vts_look h.ok.nd _ hm] at this
      refine this.trans ?_
      cases (σ.s i).pr node <;> rfl
    have HFo := Lib.hid (mayFollow_any hnow (hok.pr node) (w.alloc (.cells (sy (some now)).toArray 64)) E hfol)
    unfold syA at HFo
    have HX := Lib.hid (And.intro X0.range (And.intro hsn (And.intro X0 (And.intro h0 b0))))
    have HN := Lib.hid (And.intro hnow (And.intro hi8 (And.intro hE (And.intro hix (And.intro hm (And.intro hok h.ok))))))
    clear h0 b0 X0 h hE hix hsn hnow hon hm hi8 hfol hs0 hok h69 h70
    generalize hC : sy (some now) = C at *
    generalize hD : sy ((σ.s i).pr node) = D at *
    generalize hsi : sb i = s at *
    generalize hri : rb i = r at *
    go_enter Try.func45, Try.ntmps45
    go_wp2_with (first
      | (go_at_call 46; refine Hc.out.mono ?_; rintro e w' ⟨rfl, rfl⟩)
      | (refine wpList_load_mid rfl 64 _ rfl w.heap.size 0 rfl C _ HX.out.1 Try.underlying64 rfl HX.out.2.1 ?_; simp only [Act.put]))
    refine HFo.out.mono ?_
    rintro e w1 ⟨rfl, hb1⟩
    have h1 := HX.out.2.2.2.1.below hb1
    have b1 := HX.out.2.2.2.2.trans (hb1.mono HX.out.2.2.2.2.size)
    have X1 := HX.out.2.2.1.below hb1 HX.out.2.2.1.lt
    have H1 := Lib.hid (And.intro h1 (And.intro b1 X1.range))
    clear h1 b1 X1 hb1
    by_cases h0 : E = 0
    · subst h0
      have hs1 := H1.out.1.s i HN.out.2.1 rfl
      rw [hsi] at hs1
      obtain ⟨w2, hrun, hturn, hput⟩ := hs1.pr.put Try.underlying66 (Nat.lt_of_le_of_lt (vts_len _ _) (by have := HN.out.2.2.2.2.2.2.len; have := HN.out.2.2.2.2.2.2.f1; omega)) (a := node) (wf_node HN.out.2.2.2.2.2.2 HN.out.2.2.2.2.1) now
      have hrun' : (Instr.mapUpdate 66 (.map (some r)) (.int .i64 node) (.agg C.toArray)).run Try.prog w1 = .ok () w2 := by rw [← hri, ← hC]; exact hrun
      have o2 := turned_out hturn
      have hne := H1.out.1.ne5 HN.out.2.1
      obtain ⟨q1, q2, q3, q4⟩ := H1.out.1.rs i HN.out.2.1 rfl
      have hput' := hput.perm (vts_put HN.out.2.2.2.2.2.2.nd _ HN.out.2.2.2.2.1 now)
      have hsq2 : SqAt w2 (sb i) (qb i) (rb i) (cb i) σ.ns { σ.s i with pr := setV ((σ.s i).pr) node now } := by
        rw [hsi]
        rw [hsi] at q1
        exact ⟨o2.blk hs1.blk (fun e => by rw [← hsi] at e; exact hne.2.1 e), hs1.q.out o2 (fun e => hne.2.2.2.1 e), hput', hs1.cm.out o2 (fun e => by rw [e] at q4; omega)⟩
      have h2 := H1.out.1.set (x := { σ.s i with pr := setV ((σ.s i).pr) node now }) HN.out.2.1 o2 (fun b hb => .inr (.inr (.inl hb))) ⟨HN.out.2.2.2.2.2.1.last, HN.out.2.2.2.2.2.1.p, HN.out.2.2.2.2.2.1.q, setV_ok HN.out.2.2.2.2.2.1.pr node HN.out.1, HN.out.2.2.2.2.2.1.cm⟩ hsq2
      have hU := (H1.out.1.uo HN.out.2.1)
      have H2 := Lib.hid (And.intro hrun' (And.intro h2 (And.intro o2 hU)))
      clear hs1 hrun hrun' hturn hput o2 hne q1 q2 q3 q4 hput' hsq2 h2 hU
      go_wp2_with (first
        | (refine wpList_load_mid rfl 64 _ rfl w.heap.size 0 rfl C _ H1.out.2.2 Try.underlying64 rfl HX.out.2.1 ?_; simp only [Act.put])
        | (refine upd_g rfl _ _ _ _ rfl _ _ _ w2 rfl rfl rfl H2.out.1 ?_; simp only [Act.put]))
      go_ret
      have hS' : prepVS σ node seq now = σ.set i { σ.s i with pr := setV ((σ.s i).pr) node now } := by unfold prepVS; rw [HN.out.2.2.1, HN.out.2.2.2.1]; rfl
      rw [hS']
      refine ⟨rfl, H2.out.2.1, (Out.ofBelow U H1.out.2.1).trans H2.out.2.2.1 fun b _ e => ?_⟩
      rw [e]
      exact H2.out.2.2.2.2.2.1
    · have hne : (E != 0) = true := by simp [h0]
      go_wp2
      go_ret
      refine ⟨rfl, ?_, Out.ofBelow U H1.out.2.1⟩
      have hS' : prepVS σ node seq now = σ := by unfold prepVS; rw [HN.out.2.2.1, if_pos h0]
      rw [hS']
      exact H1.out.1

theorem commClo_any {w : World} {s : Nat} {cs : List Value} {r : Nat} (hB : Blk w s 68 cs) (hc : cs[70]? = some (.map (some r))) : Calls Try.prog 52 #[.pointer (some ⟨s, 0, none⟩)] w fun e w' => e = .returned (.map (some r)) ∧ w' = w := by
  have c := hB.cell hc
  clear hB hc
  go_enter Try.func52, Try.ntmps52
  go_wp2
  go_ret
  exact ⟨rfl, rfl⟩
def commVE (σ : St) (node seq : Int) (now : Vt) : Int := match idx σ seq with | none => 150 | some i => fol ((σ.s i).cm node) now
def commVS (σ : St) (node seq : Int) (now : Vt) : St := if commVE σ node seq now ≠ 0 then σ else match idx σ seq with | none => σ | some i => σ.set i { σ.s i with cm := setV ((σ.s i).cm) node now }
set_option maxRecDepth 100000 in
set_option maxHeartbeats 3200000 in
theorem commVote_in {w : World} {U : Nat → Prop} {g : Nat} {σ : St} {ab cap m : Nat} {sb qb rb cb : Nat → Nat} {role : Nat → Nat} (h : StIn w U g σ all8 ab cap m sb qb rb cb role) (node seq : Int) (hm : node ∈ σ.ns) (hsq : Wf seq) (now : Vt) (hnow : now.ok) (E : Int) (hE : commVE σ node seq now = E) :
    Calls Try.prog 45 #[.pointer (some ⟨g, 0, none⟩), .int .i64 node, .int .i64 seq, .agg (sy (some now)).toArray, .func (.func 52) #[] #[]] w fun e w' =>
      e = .returned (.int .i64 E) ∧ StIn w' U g (commVS σ node seq now) all8 ab cap m sb qb rb cb role ∧ Out U w w' := by
  have hon : okO (some now) := fun y hy => by injection hy with hy; rw [← hy]; exact hnow
  have b0 : Below w.heap.size w (w.alloc (.cells (sy (some now)).toArray 64)) := (Below.refl _ _).alloc (Nat.le_refl _) _
  have h0 := h.below b0
  have X0 : Blk (w.alloc (.cells (sy (some now)).toArray 64)) w.heap.size 64 (sy (some now)) := Blk.new rfl rfl
  have hlook := num_look h0 hsq
  have c3 := h0.blk.cell (i := 3) rfl
  have hsn := say_infoL hon
  cases hix : idx σ seq with
  | none =>
    have hE' : E = 150 := by rw [← hE]; unfold commVE; rw [hix]
    have hS' : Hid (commVS σ node seq now = σ) := by show _ = _; unfold commVS; rw [if_pos (by rw [hE, hE']; decide)]
    subst hE'
    rw [hix] at hlook
    simp only [Option.map_none] at hlook
    have H0 := Lib.hid (And.intro h0 b0)
    clear h0 b0 X0 h hE hix hsn hnow hon hm
    generalize hC : sy (some now) = C at *
    go_enter Try.func45, Try.ntmps45
    go_wp2
    go_ret
    refine ⟨rfl, ?_, Out.ofBelow U H0.out.2⟩
    rw [hS'.out]
    exact H0.out.1
  | some i =>
    have hi8 := (idx_lt hix).1
    have hfol : fol ((σ.s i).cm node) now = E := by rw [← hE]; unfold commVE; rw [hix]
    rw [hix] at hlook
    simp only [Option.map_some] at hlook
    have hs0 := h0.s i hi8 rfl
    have hok := h.ok.s i hi8
    obtain ⟨_, _, _, h69, h70, _⟩ := sq_cells hok.last hok.p (.map (some (qb i))) (.map (some (rb i))) (.map (some (cb i)))
    have Hc := Lib.hid (commClo_any hs0.blk h70)
    have hsay : (Instr.lookup 66 (.map (some (cb i))) (.int .i64 node) false).run Try.prog (w.alloc (.cells (sy (some now)).toArray 64)) = .ok (.agg (sy ((σ.s i).cm node)).toArray) (w.alloc (.cells (sy (some now)).toArray 64)) := by
      have := hs0.cm.look Try.underlying66 (say_zero _) (a := node) (wf_node h.ok hm)
      rw [vts_look h.ok.nd _ hm] at this
      refine this.trans ?_
      cases (σ.s i).cm node <;> rfl
    have HFo := Lib.hid (mayFollow_any hnow (hok.cm node) (w.alloc (.cells (sy (some now)).toArray 64)) E hfol)
    unfold syA at HFo
    have HX := Lib.hid (And.intro X0.range (And.intro hsn (And.intro X0 (And.intro h0 b0))))
    have HN := Lib.hid (And.intro hnow (And.intro hi8 (And.intro hE (And.intro hix (And.intro hm (And.intro hok h.ok))))))
    clear h0 b0 X0 h hE hix hsn hnow hon hm hi8 hfol hs0 hok h69 h70
    generalize hC : sy (some now) = C at *
    generalize hD : sy ((σ.s i).cm node) = D at *
    generalize hsi : sb i = s at *
    generalize hri : cb i = r at *
    go_enter Try.func45, Try.ntmps45
    go_wp2_with (first
      | (go_at_call 52; refine Hc.out.mono ?_; rintro e w' ⟨rfl, rfl⟩)
      | (refine wpList_load_mid rfl 64 _ rfl w.heap.size 0 rfl C _ HX.out.1 Try.underlying64 rfl HX.out.2.1 ?_; simp only [Act.put]))
    refine HFo.out.mono ?_
    rintro e w1 ⟨rfl, hb1⟩
    have h1 := HX.out.2.2.2.1.below hb1
    have b1 := HX.out.2.2.2.2.trans (hb1.mono HX.out.2.2.2.2.size)
    have X1 := HX.out.2.2.1.below hb1 HX.out.2.2.1.lt
    have H1 := Lib.hid (And.intro h1 (And.intro b1 X1.range))
    clear h1 b1 X1 hb1
    by_cases h0 : E = 0
    · subst h0
      have hs1 := H1.out.1.s i HN.out.2.1 rfl
      rw [hsi] at hs1
      obtain ⟨w2, hrun, hturn, hput⟩ := hs1.cm.put Try.underlying66 (Nat.lt_of_le_of_lt (vts_len _ _) (by have := HN.out.2.2.2.2.2.2.len; have := HN.out.2.2.2.2.2.2.f1; omega)) (a := node) (wf_node HN.out.2.2.2.2.2.2 HN.out.2.2.2.2.1) now
      have hrun' : (Instr.mapUpdate 66 (.map (some r)) (.int .i64 node) (.agg C.toArray)).run Try.prog w1 = .ok () w2 := by rw [← hri, ← hC]; exact hrun
      have o2 := turned_out hturn
      have hne := H1.out.1.ne5 HN.out.2.1
      obtain ⟨q1, q2, q3, q4⟩ := H1.out.1.rs i HN.out.2.1 rfl
      have hput' := hput.perm (vts_put HN.out.2.2.2.2.2.2.nd _ HN.out.2.2.2.2.1 now)
      have hsq2 : SqAt w2 (sb i) (qb i) (rb i) (cb i) σ.ns { σ.s i with cm := setV ((σ.s i).cm) node now } := by
        rw [hsi]
        rw [hsi] at q1
        exact ⟨o2.blk hs1.blk (fun e => by rw [← hsi] at e; exact hne.2.2.1 e), hs1.q.out o2 (fun e => hne.2.2.2.2 e), hs1.pr.out o2 (fun e => by rw [e] at q3; omega), hput'⟩
      have h2 := H1.out.1.set (x := { σ.s i with cm := setV ((σ.s i).cm) node now }) HN.out.2.1 o2 (fun b hb => .inr (.inr (.inr hb))) ⟨HN.out.2.2.2.2.2.1.last, HN.out.2.2.2.2.2.1.p, HN.out.2.2.2.2.2.1.q, HN.out.2.2.2.2.2.1.pr, setV_ok HN.out.2.2.2.2.2.1.cm node HN.out.1⟩ hsq2
      have hU := (H1.out.1.uo HN.out.2.1)
      have H2 := Lib.hid (And.intro hrun' (And.intro h2 (And.intro o2 hU)))
      clear hs1 hrun hrun' hturn hput o2 hne q1 q2 q3 q4 hput' hsq2 h2 hU
      go_wp2_with (first
        | (refine wpList_load_mid rfl 64 _ rfl w.heap.size 0 rfl C _ H1.out.2.2 Try.underlying64 rfl HX.out.2.1 ?_; simp only [Act.put])
        | (refine upd_g rfl _ _ _ _ rfl _ _ _ w2 rfl rfl rfl H2.out.1 ?_; simp only [Act.put]))
      go_ret
      have hS' : commVS σ node seq now = σ.set i { σ.s i with cm := setV ((σ.s i).cm) node now } := by unfold commVS; rw [HN.out.2.2.1, HN.out.2.2.2.1]; rfl
      rw [hS']
      refine ⟨rfl, H2.out.2.1, (Out.ofBelow U H1.out.2.1).trans H2.out.2.2.1 fun b _ e => ?_⟩
      rw [e]
      exact H2.out.2.2.2.2.2.2
    · have hne : (E != 0) = true := by simp [h0]
      go_wp2
      go_ret
      refine ⟨rfl, ?_, Out.ofBelow U H1.out.2.1⟩
      have hS' : commVS σ node seq now = σ := by unfold commVS; rw [HN.out.2.2.1, if_pos h0]
      rw [hS']
      exact H1.out.1
end Go.Proofs.Ytmdgcimjmmnbjaa

namespace Go.Proofs.Ytmdgcimjmmnbjaa
open Go.RowKit Go.Shelf Go.Sort Go.Maps CrewP
set_option linter.unusedVariables false
set_option linter.unusedSimpArgs false

section
variable {w : World} {U : Nat → Prop} {g : Nat} {σ : St} {ab cap m : Nat} {sb qb rb cb : Nat → Nat} {role : Nat → Nat}
theorem mayE_zero {node view : Int} (h : mayE σ node view = 0) : node ∈ σ.ns ∧ viewB view = true := by
  unfold mayE at h
  by_cases hn : node ∈ σ.ns
  · refine ⟨hn, ?_⟩
    rw [if_neg (by simpa using hn)] at h
    cases e : viewB view with
    | true => rfl
    | false => rw [e, if_pos rfl] at h; cases h
  · rw [if_pos (by simpa using hn)] at h; cases h
theorem prepE_may {node view seq : Int} {d : List UInt8} (h : mayE σ node view ≠ 0) : prepE σ node view seq d = mayE σ node view := by
  unfold prepE mayE at *
  by_cases hn : node ∈ σ.ns
  · cases e : viewB view with
    | true => simp [hn, e] at h
    | false => simp [hn]
  · simp [hn]
theorem prepE_in {node view seq : Int} {d : List UInt8} (h : mayE σ node view = 0) : prepE σ node view seq d = if node = leadO σ view then 2 else prepVE σ node seq ⟨view, d⟩ := by
  obtain ⟨hn, hv⟩ := mayE_zero h
  unfold prepE prepVE
  rw [if_neg (by simpa using hn), if_neg (by simp [hv])]
  rfl
theorem commE_may {node view seq : Int} {d : List UInt8} (h : mayE σ node view ≠ 0) : commE σ node view seq d = mayE σ node view := by
  unfold commE mayE at *
  by_cases hn : node ∈ σ.ns
  · cases e : viewB view with
    | true => simp [hn, e] at h
    | false => simp [hn]
  · simp [hn]
theorem commE_in {node view seq : Int} {d : List UInt8} (h : mayE σ node view = 0) : commE σ node view seq d = commVE σ node seq ⟨view, d⟩ := by
  obtain ⟨hn, hv⟩ := mayE_zero h
  unfold commE commVE
  rw [if_neg (by simpa using hn), if_neg (by simp [hv])]
  rfl
theorem commS_in {node view seq : Int} {d : List UInt8} (h : mayE σ node view = 0) : commS σ node view seq d = commVS σ node seq ⟨view, d⟩ := by
  unfold commS commVS
  rw [commE_in h]
  rfl

set_option maxRecDepth 100000 in
set_option maxHeartbeats 3200000 in
theorem commit_in (h : StIn w U g σ all8 ab cap m sb qb rb cb role) (node view seq : Int) (hsq : Wf seq) (d : List UInt8) (hd : d.length = 32) (E : Int) (hE : commE σ node view seq d = E) :
    Calls Try.prog 27 #[.pointer (some ⟨g, 0, none⟩), .int .i64 node, .int .i64 view, .int .i64 seq, .agg (cbs d).toArray] w fun e w' => e = .returned (.int .i64 E) ∧ StIn w' U g (commS σ node view seq d) all8 ab cap m sb qb rb cb role ∧ Out U w w' := by
  have b0 : Below w.heap.size w (w.alloc (.cells (cbs d).toArray 39)) := (Below.refl _ _).alloc (Nat.le_refl _) _
  have h0 := h.below b0
  have X0 : Blk (w.alloc (.cells (cbs d).toArray 39)) w.heap.size 39 (cbs d) := Blk.new rfl rfl
  have hdn : (Try.prog.info? 39).map (·.size) = some (cbs d).length := by rw [cbs_length, hd]; exact dig_info
  obtain ⟨M, hM⟩ : ∃ M, mayE σ node view = M := ⟨_, rfl⟩
  have Hm := Lib.hid (mayVote_in h0 node view M hM)
  have H0 := Lib.hid (And.intro h0 (And.intro b0 (And.intro X0 hdn)))
  by_cases hz : M = 0
  · subst hz
    have hbu := built_say view d hd
    have hnow := view_ok (mayE_zero hM).2 hd
    have HN := Lib.hid (And.intro hM (And.intro hbu (And.intro hnow (And.intro (mayE_zero hM).1 hE))))
    clear h0 b0 X0 hdn h hM hE hbu hnow
    generalize hC : sy (some (⟨view, d⟩ : Vt)) = C at *
    generalize hD : cbs d = D at *
    go_enter Try.func27, Try.ntmps27
    go_wp2_with fail
    refine Hm.out.mono ?_
    rintro e w1 ⟨rfl, hb1⟩
    have h1 := H0.out.1.below hb1
    have b1 := H0.out.2.1.trans (hb1.mono H0.out.2.1.size)
    have X1 := H0.out.2.2.1.below hb1 H0.out.2.2.1.lt
    have hV := commVote_in h1 node seq HN.out.2.2.2.1 hsq ⟨view, d⟩ HN.out.2.2.1 E (by rw [← commE_in HN.out.1]; exact HN.out.2.2.2.2)
    rw [hC] at hV
    have H1 := Lib.hid (And.intro X1.range (And.intro b1 hV))
    clear h1 b1 X1 hb1 hV
    go_wp2_with (first
      | (refine wpList_load_mid rfl 39 _ rfl w.heap.size 0 rfl D _ H1.out.1 Try.underlying39 rfl H0.out.2.2.2 ?_; simp only [Act.put])
      | (refine wpList_build_g rfl 64 _ rfl C.toArray HN.out.2.1 ?_; simp only [Act.put]))
    refine H1.out.2.2.mono ?_
    rintro e w2 ⟨rfl, h2, o2⟩
    have H2 := Lib.hid (And.intro h2 o2)
    clear h2 o2
    go_wp2
    go_ret
    rw [commS_in HN.out.1]
    exact ⟨rfl, H2.out.1, (Out.ofBelow U H1.out.2.1).trans H2.out.2 fun _ _ e => e⟩
  · have hEM : E = M := by rw [← hE, commE_may (by rw [hM]; exact hz), hM]
    have hS : Hid (commS σ node view seq d = σ) := by show _ = _; unfold commS; rw [if_pos (by rw [hE, hEM]; exact hz)]
    subst hEM
    have hne : (E != 0) = true := by simp [hz]
    clear h0 b0 X0 hdn h hM hE
    generalize hD : cbs d = D at *
    go_enter Try.func27, Try.ntmps27
    go_wp2_with (go_at_call 43; refine Hm.out.mono ?_; rintro e w1 ⟨rfl, hb1⟩; replace hb1 := Lib.hid hb1)
    go_ret
    rw [hS.out]
    exact ⟨rfl, H0.out.1.below hb1.out, (Out.ofBelow U H0.out.2.1).then_below hb1.out⟩

set_option maxRecDepth 100000 in
set_option maxHeartbeats 3200000 in
theorem prepare_in (h : StIn w U g σ all8 ab cap m sb qb rb cb role) (node view seq : Int) (hsq : Wf seq) (d : List UInt8) (hd : d.length = 32) (E : Int) (hE : prepE σ node view seq d = E) :
    Calls Try.prog 21 #[.pointer (some ⟨g, 0, none⟩), .int .i64 node, .int .i64 view, .int .i64 seq, .agg (cbs d).toArray] w fun e w' => e = .returned (.int .i64 E) ∧ StIn w' U g (prepS σ node view seq d) all8 ab cap m sb qb rb cb role ∧ Out U w w' := by
  have b0 : Below w.heap.size w (w.alloc (.cells (cbs d).toArray 39)) := (Below.refl _ _).alloc (Nat.le_refl _) _
  have h0 := h.below b0
  have X0 : Blk (w.alloc (.cells (cbs d).toArray 39)) w.heap.size 39 (cbs d) := Blk.new rfl rfl
  have hdn : (Try.prog.info? 39).map (·.size) = some (cbs d).length := by rw [cbs_length, hd]; exact dig_info
  obtain ⟨M, hM⟩ : ∃ M, mayE σ node view = M := ⟨_, rfl⟩
  have Hm := Lib.hid (mayVote_in h0 node view M hM)
  have H0 := Lib.hid (And.intro h0 (And.intro b0 (And.intro X0 hdn)))
  by_cases hz : M = 0
  · subst hz
    have hbu := built_say view d hd
    have hnow := view_ok (mayE_zero hM).2 hd
    have hvw := (mayE_zero hM).2
    have hvf : Wf view := by simp [viewB] at hvw; exact wf_b (by omega) (by omega)
    have HN := Lib.hid (And.intro hM (And.intro hbu (And.intro hnow (And.intro (mayE_zero hM).1 (And.intro hE (And.intro hvw h.ok))))))
    have Hvf := Lib.hid hvf
    clear h0 b0 X0 hdn h hM hE hbu hnow hvw hvf
    generalize hC : sy (some (⟨view, d⟩ : Vt)) = C at *
    generalize hD : cbs d = D at *
    go_enter Try.func21, Try.ntmps21
    go_wp2_with fail
    refine Hm.out.mono ?_
    rintro e w1 ⟨rfl, hb1⟩
    have h1 := H0.out.1.below hb1
    have b1 := H0.out.2.1.trans (hb1.mono H0.out.2.1.size)
    have X1 := H0.out.2.2.1.below hb1 H0.out.2.2.1.lt
    have c0 := h1.blk.cell (i := 0) rfl
    have c1 := h1.blk.cell (i := 1) rfl
    have hL := leader_any σ.f _ _ _ _ w1 h1.arg view Hvf.out
    rw [lead_st HN.out.2.2.2.2.2.2 HN.out.2.2.2.2.2.1] at hL
    obtain ⟨ld, hld⟩ : ∃ ld, leadO σ view = ld := ⟨_, rfl⟩
    rw [hld] at hL
    have H1 := Lib.hid (And.intro h1 (And.intro b1 (And.intro X1 (And.intro hL hld))))
    clear h1 b1 X1 hb1 hL hld
    go_wp2_with fail
    refine H1.out.2.2.2.1.mono ?_
    rintro e w2 ⟨rfl, hb2⟩
    have h2 := H1.out.1.below hb2
    have b2 := H1.out.2.1.trans (hb2.mono H1.out.2.1.size)
    have X2 := H1.out.2.2.1.below hb2 H1.out.2.2.1.lt
    by_cases hl : node = ld
    · subst hl
      have hE2 : E = 2 := by rw [← HN.out.2.2.2.2.1, prepE_in HN.out.1, H1.out.2.2.2.2, if_pos rfl]
      have hS : Hid (prepS σ node view seq d = σ) := by show _ = _; unfold prepS; rw [if_pos (by rw [HN.out.2.2.2.2.1, hE2]; decide)]
      subst hE2
      have H2 := Lib.hid (And.intro h2 b2)
      clear h2 b2 X2 hb2
      go_wp2
      go_ret
      rw [hS.out]
      exact ⟨rfl, H2.out.1, Out.ofBelow U H2.out.2⟩
    · have hlf : (node == ld) = false := by simp [hl]
      have hEv : prepVE σ node seq ⟨view, d⟩ = E := by rw [← HN.out.2.2.2.2.1, prepE_in HN.out.1, H1.out.2.2.2.2, if_neg hl]
      have hV := prepVote_in h2 node seq HN.out.2.2.2.1 hsq ⟨view, d⟩ HN.out.2.2.1 E hEv
      rw [hC] at hV
      have H2 := Lib.hid (And.intro X2.range (And.intro b2 (And.intro hV hEv)))
      clear h2 b2 X2 hb2 hV hEv
      go_wp2_with (first
        | (refine wpList_load_mid rfl 39 _ rfl w.heap.size 0 rfl D _ H2.out.1 Try.underlying39 rfl H0.out.2.2.2 ?_; simp only [Act.put])
        | (refine wpList_build_g rfl 64 _ rfl C.toArray HN.out.2.1 ?_; simp only [Act.put]))
      refine H2.out.2.2.1.mono ?_
      rintro e w3 ⟨rfl, h3, o3⟩
      by_cases h0 : E = 0
      · subst h0
        have hix : ∃ i, idx σ seq = some i := by
          have := H2.out.2.2.2
          unfold prepVE at this
          cases e : idx σ seq with
          | some i => exact ⟨i, rfl⟩
          | none => rw [e] at this; cases this
        obtain ⟨i, hi⟩ := hix
        have hi8 := (idx_lt hi).1
        have hlow : (prepVS σ node seq ⟨view, d⟩) = σ.set i { σ.s i with pr := setV ((σ.s i).pr) node ⟨view, d⟩ } := by unfold prepVS; rw [H2.out.2.2.2, hi]; rfl
        rw [hlow] at h3
        have hlook := num_look h3 hsq
        have hidx : idx (σ.set i { σ.s i with pr := setV ((σ.s i).pr) node ⟨view, d⟩ }) seq = some i := hi
        rw [hidx] at hlook
        simp only [Option.map_some] at hlook
        have c3 := h3.blk.cell (i := 3) rfl
        have HK := Lib.hid (look_in h3 hi8)
        have H3 := Lib.hid (And.intro h3 (And.intro o3 hi))
        clear h3 o3 hlow hidx hi hi8
        generalize hsi : sb i = s at *
        go_wp2_with fail
        refine HK.out.mono ?_
        rintro e w4 ⟨rfl, h4, o4⟩
        rw [set_at, look_set, set_set] at h4
        have H4 := Lib.hid (And.intro h4 o4)
        clear h4 o4
        go_wp2
        go_ret
        have hS : prepS σ node view seq d = σ.set i (lookS σ { σ.s i with pr := setV ((σ.s i).pr) node ⟨view, d⟩ }) := by unfold prepS; rw [HN.out.2.2.2.2.1, H3.out.2.2]; rfl
        rw [hS]
        exact ⟨rfl, H4.out.1, ((Out.ofBelow U H2.out.2.1).trans H3.out.2.1 fun _ _ e => e).trans H4.out.2 fun _ _ e => e⟩
      · have hS : Hid (prepS σ node view seq d = σ) := by show _ = _; unfold prepS; rw [if_pos (by rw [HN.out.2.2.2.2.1]; exact h0)]
        have hS2 : prepVS σ node seq ⟨view, d⟩ = σ := by unfold prepVS; rw [if_pos (by rw [H2.out.2.2.2]; exact h0)]
        rw [hS2] at h3
        have hne : (E == 0) = false := by simp [h0]
        have H3 := Lib.hid (And.intro h3 o3)
        clear h3 o3 hS2
        go_wp2
        go_ret
        rw [hS.out]
        exact ⟨rfl, H3.out.1, (Out.ofBelow U H2.out.2.1).trans H3.out.2 fun _ _ e => e⟩
  · have hEM : E = M := by rw [← hE, prepE_may (by rw [hM]; exact hz), hM]
    have hS : Hid (prepS σ node view seq d = σ) := by show _ = _; unfold prepS; rw [if_pos (by rw [hE, hEM]; exact hz)]
    subst hEM
    have hne : (E != 0) = true := by simp [hz]
    clear h0 b0 X0 hdn h hM hE
    generalize hD : cbs d = D at *
    go_enter Try.func21, Try.ntmps21
    go_wp2_with (go_at_call 43; refine Hm.out.mono ?_; rintro e w1 ⟨rfl, hb1⟩; replace hb1 := Lib.hid hb1)
    go_ret
    rw [hS.out]
    exact ⟨rfl, H0.out.1.below hb1.out, (Out.ofBelow U H0.out.2.1).then_below hb1.out⟩
end
end Go.Proofs.Ytmdgcimjmmnbjaa

namespace Go.Proofs.Ytmdgcimjmmnbjaa
open Go.RowKit Go.Shelf Go.Sort Go.Maps CrewP
set_option linter.unusedVariables false
set_option linter.unusedSimpArgs false

/-! ### The numbers that are there -/
theorem nums_iff {low : Int} {sb : Nat → Nat} {th : Nat → Bool} {x : Int} {b : Nat} : (x, b) ∈ nums low sb th ↔ ∃ i : Nat, i < 8 ∧ th i = true ∧ x = low + 1 + (i : Int) ∧ b = sb i := by
  unfold nums
  rw [List.mem_filterMap]
  constructor
  · rintro ⟨i, hi, e⟩
    split at e
    · rename_i h
      injection e with e
      injection e with e1 e2
      exact ⟨i, by simpa using hi, h, e1.symm, e2.symm⟩
    · cases e
  · rintro ⟨i, hi, h, rfl, rfl⟩
    exact ⟨i, by simpa using hi, by rw [if_pos h]⟩
theorem nums_nd (low : Int) (sb : Nat → Nat) (there : Nat → Bool) : ((nums low sb there).map Prod.fst).Nodup := by
  unfold nums
  rw [List.nodup_iff_pairwise_ne, List.pairwise_map, List.pairwise_filterMap]
  refine (List.nodup_iff_pairwise_ne.1 (List.nodup_range (n := 8))).imp fun {a b} hab x hx y hy => ?_
  split at hx <;> split at hy <;> simp at hx hy
  obtain ⟨rfl, _⟩ := hx
  obtain ⟨rfl, _⟩ := hy
  simp only; omega
theorem nd_of_keys {α β : Type} : ∀ {L : List (α × β)}, (L.map Prod.fst).Nodup → L.Nodup
  | [], _ => List.nodup_nil
  | p :: L, h => by
    rw [List.map_cons, List.nodup_cons] at h
    rw [List.nodup_cons]
    exact ⟨fun hm => h.1 (List.mem_map.2 ⟨p, hm, rfl⟩), nd_of_keys h.2⟩
theorem perm_of_mem {α β : Type} {L L' : List (α × β)} (h : (L.map Prod.fst).Nodup) (h' : (L'.map Prod.fst).Nodup) (hm : ∀ p, p ∈ L ↔ p ∈ L') : L.Perm L' :=
  (List.perm_ext_iff_of_nodup (nd_of_keys h) (nd_of_keys h')).2 hm
def upd (f : Nat → Nat) (j b : Nat) : Nat → Nat := fun i => if i = j then b else f i
theorem nums_len (low : Int) (sb : Nat → Nat) (th : Nat → Bool) : (nums low sb th).length ≤ 8 := by
  unfold nums
  refine Nat.le_trans (List.length_filterMap_le ..) ?_
  simp
theorem nums_put {low : Int} {sb : Nat → Nat} {th : Nat → Bool} {j b : Nat} (hj : j < 8) (ht : th j = false) : (putL (nums low sb th) (low + 1 + (j : Int)) b).Perm (nums low (upd sb j b) fun i => th i || decide (i = j)) := by
  have hno : ∀ p ∈ nums low sb th, p.1 ≠ low + 1 + (j : Int) := fun p hp e => by
    obtain ⟨i, hi, h, e1, _⟩ := nums_iff.1 (show (p.1, p.2) ∈ _ from hp)
    have : i = j := by omega
    rw [this, ht] at h
    cases h
  have hd : delL (nums low sb th) (low + 1 + (j : Int)) = nums low sb th := List.filter_eq_self.2 fun p hp => by simp [hno p hp]
  have hp : putL (nums low sb th) (low + 1 + (j : Int)) b = (low + 1 + (j : Int), b) :: nums low sb th := by
    show _ :: delL _ _ = _
    rw [hd]
  rw [hp]
  refine perm_of_mem ?_ (nums_nd _ _ _) fun p => ?_
  · rw [List.map_cons, List.nodup_cons]
    refine ⟨fun h => ?_, nums_nd _ _ _⟩
    obtain ⟨q, hq, e⟩ := List.mem_map.1 h
    exact hno q hq e
  · obtain ⟨x, c⟩ := p
    rw [List.mem_cons, nums_iff, nums_iff]
    constructor
    · rintro (e | ⟨i, hi, h, e1, e2⟩)
      · injection e with e1 e2
        exact ⟨j, hj, by simp, e1, by simp [upd, e2]⟩
      · have hij : i ≠ j := fun e => by rw [e, ht] at h; cases h
        exact ⟨i, hi, by simp [h], e1, by simp [upd, hij, e2]⟩
    · rintro ⟨i, hi, h, e1, e2⟩
      by_cases hij : i = j
      · subst hij
        exact .inl (by rw [e1, e2]; simp [upd])
      · refine .inr ⟨i, hi, by simpa [hij] using h, e1, by simpa [upd, hij] using e2⟩

theorem slot_built (a b c : Nat) : Try.prog.built 68 [(2, .map (some a)), (3, .map (some b)), (4, .map (some c))] = some (sy none ++ sy none ++ [Value.map (some a), Value.map (some b), Value.map (some c)]).toArray := by kernel_rfl
set_option maxRecDepth 100000 in
theorem newSlot_any (w : World) (ns : List Int) : Calls Try.prog 57 #[] w fun e w' => ∃ s a b c, e = .returned (.pointer (some ⟨s, 0, none⟩)) ∧ SqAt w' s a b c ns sq0 ∧ Below w.heap.size w w' ∧ w.heap.size ≤ a ∧ a < b ∧ b < c ∧ c < s := by
  have hmm := @run_makeMap Try.prog
  have hv : ∀ ns : List Int, vts ns (fun _ => none) = [] := fun ns => by
    unfold vts
    induction ns with
    | nil => rfl
    | cons n l ih => rw [List.filterMap_cons]; exact ih
  have m1 : MapT digK vI (w.alloc (.map #[] 0)) w.heap.size ([] : List (List UInt8 × Int)) := MapT.made w
  have m2 : MapT intK sayV ((w.alloc (.map #[] 0)).alloc (.map #[] 0)) (w.alloc (.map #[] 0)).heap.size ([] : List (Int × Vt)) := MapT.made _
  have m3 : MapT intK sayV (((w.alloc (.map #[] 0)).alloc (.map #[] 0)).alloc (.map #[] 0)) ((w.alloc (.map #[] 0)).alloc (.map #[] 0)).heap.size ([] : List (Int × Vt)) := MapT.made _
  have hal : ∀ (W : World) (o : Obj), Below W.heap.size W (W.alloc o) := fun W o => (Below.refl _ _).alloc (Nat.le_refl _) _
  have hB : ∀ a b c, Blk ((((w.alloc (.map #[] 0)).alloc (.map #[] 0)).alloc (.map #[] 0)).alloc (.cells (sy none ++ sy none ++ [Value.map (some a), Value.map (some b), Value.map (some c)]).toArray 68)) (w.heap.size + 3) 68 (sy none ++ sy none ++ [Value.map (some a), Value.map (some b), Value.map (some c)]) := fun a b c => Blk.new rfl (by simp)
  have H := Lib.hid (And.intro m1 (And.intro m2 (And.intro m3 (And.intro hal (And.intro hB hv)))))
  have hs1 : (w.alloc (.map #[] 0)).heap.size = w.heap.size + 1 := by simp
  have hs2 : ((w.alloc (.map #[] 0)).alloc (.map #[] 0)).heap.size = w.heap.size + 2 := by simp
  have Hs := Lib.hid (And.intro hs1 hs2)
  clear m1 m2 m3 hal hB hv hs1 hs2
  go_enter Try.func57, Try.ntmps57
  go_wp2_with (refine wpList_build_g rfl 68 _ rfl (sy none ++ sy none ++ [Value.map (some w.heap.size), Value.map (some (w.heap.size + 1)), .map (some (w.heap.size + 2))]).toArray (slot_built _ _ _) ?_; simp only [Act.put])
  go_ret
  obtain ⟨m1, m2, m3, hal, hB, hv⟩ := H.out
  rw [Hs.out.1] at m2
  rw [Hs.out.2] at m3
  refine ⟨w.heap.size + 3, w.heap.size, w.heap.size + 1, w.heap.size + 2, rfl, ⟨hB _ _ _, ?_, ?_, ?_⟩, ?_, Nat.le_refl _, by omega, by omega, by omega⟩
  · exact ((m1.below (hal _ _) m1.lt).below (hal _ _) (by simp; omega)).below (hal _ _) (by simp; omega)
  · show MapT intK sayV _ _ (vts ns fun _ => none)
    rw [hv]
    exact (m2.below (hal _ _) m2.lt).below (hal _ _) (by simp)
  · show MapT intK sayV _ _ (vts ns fun _ => none)
    rw [hv]
    exact m3.below (hal _ _) m3.lt
  · exact (((hal _ _).trans ((hal _ _).mono (by simp))).trans ((hal _ _).mono (by simp; omega))).trans ((hal _ _).mono (by simp; omega))
end Go.Proofs.Ytmdgcimjmmnbjaa

namespace Go.Proofs.Ytmdgcimjmmnbjaa
open Go.RowKit Go.Shelf Go.Sort Go.Maps CrewP
set_option linter.unusedVariables false
set_option linter.unusedSimpArgs false

/-- What is known when the numbers that are not there are laid open. -/
def fillS (σ : St) (th : Nat → Bool) : St := { σ with s := fun i => if th i then σ.s i else sq0 }
def thJ (th : Nat → Bool) (j : Nat) : Nat → Bool := fun k => th k || decide (k < j)
theorem thJ_step_old {th : Nat → Bool} {j : Nat} (h : th j = true) : thJ th (j + 1) = thJ th j := by
  funext k
  unfold thJ
  by_cases e : k = j
  · subst e; simp [h]
  · have : decide (k < j + 1) = decide (k < j) := decide_eq_decide.2 (by omega)
    rw [this]
theorem thJ_step_new (th : Nat → Bool) (j : Nat) : thJ th (j + 1) = fun i => thJ th j i || decide (i = j) := by
  funext k
  unfold thJ
  have : decide (k < j + 1) = (decide (k < j) || decide (k = j)) := by
    rw [Bool.eq_iff_iff]; simp; omega
  rw [this, Bool.or_assoc]
theorem gr_below {U : Nat → Prop} {w wa wb : World} (h : wa.heap.size ≤ wb.heap.size) : ∀ i, Gr U w wa i → Gr U w wb i := fun i hi => hi.imp_right fun h2 => ⟨h2.1, by omega⟩
section
variable {w w' : World} {U : Nat → Prop} {g : Nat} {σ : St} {th : Nat → Bool} {ab cap m : Nat} {sb qb rb cb : Nat → Nat} {role : Nat → Nat}
theorem StIn.fill (h : StIn w U g σ th ab cap m sb qb rb cb role) : StIn w U g (fillS σ th) th ab cap m sb qb rb cb role := by
  refine ⟨⟨h.ok.f0, h.ok.f1, h.ok.len, h.ok.asc, h.ok.rng, h.ok.low0, h.ok.low1, fun i hi => ?_⟩, h.blk, h.nd, h.num, fun i hi ht => ?_, h.rg, h.ra, h.rm, h.rs, h.u, h.lt⟩
  · show (if th i then σ.s i else sq0).ok
    split
    · exact h.ok.s i hi
    · exact sq0_ok
  · show SqAt w _ _ _ _ _ (if th i then σ.s i else sq0)
    rw [if_pos ht]
    exact h.s i hi ht
/-- A new number. -/
theorem StIn.more (h : StIn w U g σ th ab cap m sb qb rb cb role) {j : Nat} (hj : j < 8) (ht : th j = false) (hz : σ.s j = sq0) {s a b c : Nat} {w1 w2 : World} (hs : SqAt w1 s a b c σ.ns sq0) (hb : Below w.heap.size w w1) (h1 : w.heap.size ≤ a) (h2 : a < b) (h3 : b < c) (h4 : c < s)
    (hm : w1.mapTurned w2 m) (hn : MapT intK ptr w2 m (putL (nums σ.low sb th) (σ.low + 1 + (j : Int)) s)) :
    StIn w2 (Gr U w w2) g σ (fun i => th i || decide (i = j)) ab cap m (upd sb j s) (upd qb j a) (upd rb j b) (upd cb j c) (fun x => if x = s then 4 * j + 4 else if x = a then 4 * j + 5 else if x = b then 4 * j + 6 else if x = c then 4 * j + 7 else role x) := by
  have o2 := turned_out hm
  have hw1 := h.below hb
  have hU : ∀ x, U x → x ≠ s ∧ x ≠ a ∧ x ≠ b ∧ x ≠ c := fun x hx => by have := h.lt x hx; omega
  have hgU := h.u g (by rw [h.rg]; omega)
  have haU := h.u ab (by rw [h.ra]; omega)
  have hmU := h.u m (by rw [h.rm]; omega)
  have hold : ∀ x, U x → (if x = s then 4 * j + 4 else if x = a then 4 * j + 5 else if x = b then 4 * j + 6 else if x = c then 4 * j + 7 else role x) = role x := fun x hx => by
    obtain ⟨e1, e2, e3, e4⟩ := hU x hx
    rw [if_neg e1, if_neg e2, if_neg e3, if_neg e4]
  have hml := hU m hmU
  have hsl := hs.blk.lt
  have hz2 := o2.size
  obtain ⟨cs, n1, n2⟩ := hw1.nd
  refine ⟨h.ok, o2.blk hw1.blk fun e => ?_, ⟨cs, o2.blk n1 fun e => ?_, n2⟩, hn.perm (nums_put hj ht), fun i hi hti => ?_, by rw [hold g hgU]; exact h.rg, by rw [hold ab haU]; exact h.ra, by rw [hold m hmU]; exact h.rm, fun i hi hti => ?_, fun x hx => ?_, fun x hx => ?_⟩
  · have := h.rg; have := h.rm; rw [e] at *; omega
  · have := h.ra; have := h.rm; rw [e] at *; omega
  · by_cases e : i = j
    · subst e
      rw [hz]
      simp only [upd, if_true]
      exact hs.out o2 (fun e => hml.1 e.symm) (fun e => hml.2.1 e.symm) (fun e => hml.2.2.1 e.symm) (fun e => hml.2.2.2 e.symm)
    · simp only [upd, if_neg e]
      have hti' : th i = true := by simpa [e] using hti
      obtain ⟨r1, r2, r3, r4⟩ := h.rs i hi hti'
      have hrm := h.rm
      exact (hw1.s i hi hti').out o2 (fun e => by rw [e] at r1; omega) (fun e => by rw [e] at r2; omega) (fun e => by rw [e] at r3; omega) (fun e => by rw [e] at r4; omega)
  · by_cases e : i = j
    · subst e
      simp only [upd, if_true]
      refine ⟨trivial, ?_, ?_, ?_⟩
      · rw [if_neg (by omega)]
      · rw [if_neg (by omega), if_neg (by omega)]
      · rw [if_neg (by omega), if_neg (by omega), if_neg (by omega)]
    · simp only [upd, if_neg e]
      have hti' : th i = true := by simpa [e] using hti
      obtain ⟨r1, r2, r3, r4⟩ := h.rs i hi hti'
      rw [hold _ (h.u _ (by omega)), hold _ (h.u _ (by omega)), hold _ (h.u _ (by omega)), hold _ (h.u _ (by omega))]
      exact ⟨r1, r2, r3, r4⟩
  · by_cases e1 : x = s
    · exact .inr (by omega)
    · by_cases e2 : x = a
      · exact .inr (by omega)
      · by_cases e3 : x = b
        · exact .inr (by omega)
        · by_cases e4 : x = c
          · exact .inr (by omega)
          · rw [if_neg e1, if_neg e2, if_neg e3, if_neg e4] at hx
            exact .inl (h.u x hx)
  · rcases hx with hx | hx
    · have := h.lt x hx; have := hb.size; omega
    · exact hx.2

set_option maxRecDepth 100000 in
set_option maxHeartbeats 3200000 in
theorem open_in (h : StIn w U g σ th ab cap m sb qb rb cb role) :
    Calls Try.prog 49 #[.pointer (some ⟨g, 0, none⟩)] w fun e w' => e = .returned (.tuple #[]) ∧ StAt w' (Gr U w w') g (fillS σ th) ∧ Out (fun b => b = m) w w' := by
  have hf := h.fill
  have hlow : (fillS σ th).low = σ.low := rfl
  have H := Lib.hid hf
  have hzero : Hid (∀ j, th j = false → (fillS σ th).s j = sq0) := Lib.hid fun j hj => by show (if th j then σ.s j else sq0) = sq0; rw [hj]; rfl
  have hlo0 := h.ok.low0
  have hlo1 := h.ok.low1
  clear h hf
  generalize hlw : σ.low = lw at *
  generalize hτ : fillS σ th = τ at *
  go_enter Try.func49, Try.ntmps49
  go_wp2
  go_loopw [4] (fun v4 wr => ∃ (j : Nat) (sb' qb' rb' cb' role' : Nat → Nat), j ≤ 8 ∧ v4 = .int .i64 (j : Int) ∧ StIn wr (Gr U w wr) g τ (thJ th j) ab cap m sb' qb' rb' cb' role' ∧ Out (fun b => b = m) w wr) (fun v _ => 8 - (intOf v).toNat)
  case atStart =>
    refine ⟨0, sb, qb, rb, cb, role, by omega, rfl, ?_, Out.refl _ _⟩
    have e : thJ th 0 = th := by funext k; simp [thJ]
    rw [e]
    exact H.out.wide (fun i hi => .inl hi) fun i hi => hi.elim (H.out.lt i) fun h => h.2
  case round =>
    obtain ⟨j, sb', qb', rb', cb', role', hj, rfl, hI, hO⟩ := hrel
    have hi0 : (0 : Int) ≤ j := by omega
    by_cases hlt : j < 8
    · have hi1 : (j : Int) < 8 := by omega
      have c2 := hI.blk.cell (i := 2) rfl
      have c3 := hI.blk.cell (i := 3) rfl
      rw [hlow] at c2
      have hs : Wf (lw + 1 + (j : Int)) := wf_b (by omega) (by omega)
      have hlk : (Instr.lookup 70 (.map (some m)) (.int .i64 (lw + 1 + (j : Int))) false).run Try.prog wr = .ok (.pointer (if thJ th j j then some ⟨sb' j, 0, none⟩ else none)) wr := by
        have := hI.num.look Try.underlying70 (z := .pointer none) (by kernel_rfl) (a := lw + 1 + (j : Int)) hs
        rw [hlow, nums_at, if_pos (by omega), show (lw + 1 + (j : Int) - lw - 1).toNat = j by omega] at this
        refine this.trans ?_
        cases thJ th j j <;> rfl
      have hw1 : IntKind.i64.wrap (lw + 1) = lw + 1 := IntWalk.i64_in _ (by omega)
      have hw2 : IntKind.i64.wrap (lw + 1 + (j : Int)) = lw + 1 + (j : Int) := IntWalk.i64_in _ (by omega)
      have hthj : thJ th j j = th j := by simp [thJ]
      rw [hthj] at hlk
      cases htj : th j with
      | true =>
        rw [htj] at hlk
        simp only [if_true] at hlk
        have HI := Lib.hid (And.intro hI hO)
        have Ht := Lib.hid (And.intro htj hs)
        clear hI hO hs htj hthj
        go_wp2
        go_roundw
        case rel => exact ⟨j + 1, sb', qb', rb', cb', role', by omega, by go_num, by rw [thJ_step_old Ht.out.1]; exact HI.out.1, HI.out.2⟩
        case measure => simp [intOf]; omega
      | false =>
        rw [htj] at hlk
        simp only [Bool.false_eq_true, if_false] at hlk
        obtain ⟨W, hW⟩ : ∃ W, wr.drew = W := ⟨_, rfl⟩
        have bW : Below wr.heap.size wr W := by rw [← hW]; exact (Below.refl _ _).drew
        have hIW := hI.below bW
        have cW : W.cell? ⟨g, 3, none⟩ = some (.map (some m)) := hIW.blk.cell rfl
        have HI := Lib.hid (And.intro hI (And.intro hO (And.intro hW (And.intro bW hIW))))
        have HC := Lib.hid (newSlot_any W τ.ns)
        have Ht := Lib.hid (And.intro htj (And.intro hs hthj))
        clear hI hO hs htj bW hIW hthj hW
        go_wp2
        refine wp_region_held_drew (S := fun W => W.cell? ⟨g, 3, none⟩ = some (.map (some m))) (by kernel_rfl) (by rw [HI.out.2.2.1]; exact cW) (fun _ => ?_)
        rw [HI.out.2.2.1]
        have c3 := cW
        refine anyH_take (i := 0) (d := 21) (v := ?a0) rfl rfl (by kernel_rfl) (by kernel_rfl) (by kernel_rfl) (fun _ _ _ h => h) (Or.inl ⟨by rfl, ?ay0⟩) c3 ?ar0
        case ay0 => (intro w; go_simp; try with_reducible rfl)
        simp only [List.setIfInBounds_toArray, List.set_cons_zero, List.set_cons_succ]
        refine anyH_take (i := 1) (d := 22) (v := ?a1) rfl rfl (by kernel_rfl) (by kernel_rfl) (by kernel_rfl) (fun _ _ _ h => h) (Or.inl ⟨by rfl, ?ay1⟩) c3 ?ar1
        case ay1 => (intro w; go_simp; try with_reducible rfl)
        simp only [List.setIfInBounds_toArray, List.set_cons_zero, List.set_cons_succ]
        refine anyH_take (i := 2) (d := 23) (v := ?a2) rfl rfl (by kernel_rfl) (by kernel_rfl) (by kernel_rfl) (fun _ _ _ h => h) (Or.inl ⟨by rfl, ?ay2⟩) c3 ?ar2
        case ay2 => (intro w; go_simp; try with_reducible rfl)
        simp only [List.setIfInBounds_toArray, List.set_cons_zero, List.set_cons_succ]
        refine wpAnyH_take' (i := 3) (d := 24) (v := (.map (some m))) rfl rfl (by kernel_rfl) (by kernel_rfl) (by kernel_rfl) (fun _ _ _ h => h) (Or.inl ⟨by rfl, ?ay3⟩) c3 ?ar3
        case ay3 => (intro W hSW; go_simp; try with_reducible rfl)
        simp only [List.setIfInBounds_toArray, List.set_cons_zero, List.set_cons_succ]
        refine anyH_take (i := 4) (d := 25) (v := ?a4) rfl rfl (by kernel_rfl) (by kernel_rfl) (by kernel_rfl) (fun _ _ _ h => h) (Or.inl ⟨by rfl, ?ay4⟩) c3 ?ar4
        case ay4 => (intro w; go_simp; try with_reducible rfl)
        simp only [List.setIfInBounds_toArray, List.set_cons_zero, List.set_cons_succ]
        refine anyH_one (i := 5) (by kernel_rfl) ?_
        refine st3_call rfl rfl (f := 57) (vals := #[]) (Z := fun v w' => ∃ s a b c, v = .pointer (some ⟨s, 0, none⟩) ∧ SqAt w' s a b c τ.ns sq0 ∧ Below W.heap.size W w' ∧ W.heap.size ≤ a ∧ a < b ∧ b < c ∧ c < s) ?_ ?_ ?_
        · unfold execOp
          simp only [List.getElem_toArray, List.getElem_cons_succ, List.getElem_cons_zero, resolve, invoke, Sem.run_bind, Sem.run_pure, Result.andThen_ok, List.map_toArray, List.map_cons, List.map_nil]
          first | rfl | exact enters_of Try.func57 (by kernel_rfl) rfl _ _
        · exact HC.out.mono fun e w' ⟨s, a, b, c, he, h⟩ => ⟨_, he, s, a, b, c, rfl, h⟩
        rintro v5 w5 ⟨s, a, b, c, rfl, hsq, hb5, q1, q2, q3, q4⟩
        obtain ⟨hI, hO, hW, bW, hIW⟩ := HI.out
        have hI5 := hIW.below hb5
        have c5 : w5.cell? ⟨g, 3, none⟩ = some (.map (some m)) := hI5.blk.cell rfl
        have hfal : thJ th j j = false := by rw [Ht.out.2.2]; exact Ht.out.1
        obtain ⟨w6, hrun, hturn, hput⟩ := hI5.num.put Try.underlying70 (Nat.lt_of_le_of_lt (nums_len _ _ _) (by omega)) (a := lw + 1 + (j : Int)) Ht.out.2.1 s
        have hrun' : (Instr.mapUpdate 70 (.map (some m)) (.int .i64 (lw + 1 + (j : Int))) (.pointer (some ⟨s, 0, none⟩))).run Try.prog w5 = .ok () w6 := hrun
        have hb55 : Below wr.heap.size wr w5 := bW.trans (hb5.mono bW.size)
        have hbs := bW.size
        have hI6 := hI.more hlt hfal (hzero.out j Ht.out.1) hsq hb55 (by omega) q2 q3 q4 hturn (by rw [hlow] at hput; rw [hlow]; exact hput)
        have o6 := turned_out hturn
        have c6 : w6.cell? ⟨g, 3, none⟩ = some (.map (some m)) := hI6.blk.cell rfl
        have hO6 : Out (fun b => b = m) w w6 := (hO.then_below hb55).trans o6 fun _ _ e => e
        have hwr := hO.size
        have hz6 := o6.size
        have hI7 := hI6.wide (U' := Gr U w w6) (fun i hi => by
          rcases hi with (h | h) | h
          · exact .inl h
          · exact .inr ⟨h.1, by have := hb55.size; omega⟩
          · exact .inr ⟨by omega, h.2⟩) (fun i hi => by
          rcases hi with h | h
          · have := hI.lt i (.inl h); have := hb55.size; omega
          · exact h.2)
        have H6 := Lib.hid (And.intro hrun' (And.intro hI7 hO6))
        clear hI hO hW bW hIW hI5 hfal hrun hrun' hturn hput hb55 hbs hI6 o6 hO6 hwr hz6 hI7 hsq hb5 q1 q2 q3 q4
        refine ⟨c5, ?_⟩
        simp only [List.getElem_toArray, List.getElem_cons_succ, List.getElem_cons_zero, Act.put, List.setIfInBounds_toArray, List.set_cons_zero, List.set_cons_succ]
        refine anyH_one (i := 6) (by kernel_rfl) ?_
        refine op_mapUpdate rfl rfl rfl _ _ _ _ rfl _ _ _ w6 rfl rfl rfl H6.out.1 ?_
        refine ⟨c6, ?_⟩
        refine wpAnyH_done (by kernel_rfl) ?_ _
        go_wp2
        go_roundw
        case rel => exact ⟨j + 1, _, _, _, _, _, by omega, by go_num, by rw [thJ_step_new]; exact H6.out.2.1, H6.out.2.2⟩
        case measure => simp [intOf]; omega
    · have hi1 : ¬ (j : Int) < 8 := by omega
      have h8 : j = 8 := by omega
      subst h8
      have HI := Lib.hid (And.intro hI hO)
      clear hI hO
      go_wp2
      go_end0
      refine ⟨rfl, ⟨ab, cap, m, sb', qb', rb', cb', role', ?_⟩, HI.out.2⟩
      obtain ⟨hI, hO⟩ := HI.out
      have e8 : ∀ i, i < 8 → thJ th 8 i = true := fun i hi => by simp [thJ, hi]
      have en : nums τ.low sb' (thJ th 8) = nums τ.low sb' all8 := by
        unfold nums
        refine fm_congr fun i hi => ?_
        rw [e8 i (by simpa using hi)]
        rfl
      refine ⟨hI.ok, hI.blk, hI.nd, by rw [← en]; exact hI.num, fun i hi _ => hI.s i hi (e8 i hi), hI.rg, hI.ra, hI.rm, fun i hi _ => hI.rs i hi (e8 i hi), hI.u, hI.lt⟩
end
end Go.Proofs.Ytmdgcimjmmnbjaa
