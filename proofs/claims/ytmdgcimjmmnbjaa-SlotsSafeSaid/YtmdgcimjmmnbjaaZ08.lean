/-
  Laid together for a hand-in: Pp14, Pz14.
-/
import Derived.Test.YtmdgcimjmmnbjaaZ07

namespace Go.Proofs.Ytmdgcimjmmnbjaa
open Go.RowKit Go.Shelf Go.Sort Go.Maps
set_option linter.unusedVariables false
set_option linter.unusedSimpArgs false

section
variable {P : Program} {ops : Array Oper} {Q : Exit → Act → World → Prop}
theorem op_mapUpdate {i : Nat} {oi : Oper} {a : Act} {w : World} {K : Act → World → Prop} (hi : ops[i]? = some oi) (hd : oi.dst = none) (hgd : oi.guard = none) (t : TypeId) (m x y : Operand) (ho : oi.op = .mapUpdate t m x y)
    (M X Y : Value) (w' : World) (hm : a.eval m = M) (hx : a.eval x = X) (hy : a.eval y = Y) (hrun : (Instr.mapUpdate t M X Y).run P w = .ok () w') (h : K a w') : wpOp P ops Q i K a w := by
  refine wpOp_step hi (fun K' hK => ?_)
  have hw : Region.wanted oi (yielded ops a.tmps) = true := by unfold Region.wanted; rw [hgd]
  rw [if_pos hw]
  unfold Oper.wp
  simp [execOp, ho, hm, hx, hy, hrun, Result.andThen]
  have h' : K (a.put oi.dst undef) w' := by rw [hd]; exact h
  exact hK _ _ h'
theorem op_delete {i : Nat} {oi : Oper} {a : Act} {w : World} {K : Act → World → Prop} (hi : ops[i]? = some oi) (hd : oi.dst = none) (hgd : oi.guard = none) (m x : Operand) (t1 t2 : TypeId)
    (ho : oi.op = .call { callee := .builtin .delete, args := #[m, x], argTypes := #[t1, t2] }) (M X : Value) (w' : World) (hm : a.eval m = M) (hx : a.eval x = X) (hrun : (Builtin.delete_ #[t1, t2] oi.type #[M, X]).run P w = .ok (.tuple #[]) w') (h : K a w') : wpOp P ops Q i K a w := by
  refine wpOp_step hi (fun K' hK => ?_)
  have hw : Region.wanted oi (yielded ops a.tmps) = true := by unfold Region.wanted; rw [hgd]
  rw [if_pos hw]
  unfold Oper.wp execOp
  simp only [ho, resolve, invoke, builtin, Sem.run_bind, Sem.run_pure, Result.andThen_ok, List.map_toArray, List.map_cons, List.map_nil, hm, hx, hrun]
  have h' : K (a.put oi.dst (.tuple #[])) w' := by rw [hd]; exact h
  exact hK _ _ h'
end

/-! ### Q as a map -/
theorem qL_len (q : List Vt) : (qL q).length = q.length := by simp [qL]
theorem qL_less (q : List Vt) (d : List UInt8) : delL (qL q) d = qL (qLess q d) := by
  unfold delL qL qLess
  rw [List.filter_map]
  rfl
theorem qL_known {q : List Vt} (h : QOk q) (d : List UInt8) : (lk (qL q) d).isSome = true ↔ ∃ x ∈ q, x.d = d := by
  constructor
  · intro hs
    obtain ⟨v, hv⟩ := Option.isSome_iff_exists.1 hs
    have := lk_some hv
    obtain ⟨x, hx, e⟩ := List.mem_map.1 this
    injection e with e1 e2
    exact ⟨x, hx, e1⟩
  · rintro ⟨x, hx, rfl⟩
    have hn : ((qL q).map Prod.fst).Nodup := by unfold qL; rw [List.map_map]; exact h.nd
    rw [lk_mem hn (b := x.v) (List.mem_map.2 ⟨x, hx, rfl⟩)]; rfl
/-- A known digest, or room: nothing goes. -/
theorem qPut_keep {q : List Vt} (h : QOk q) {x : Vt} (hc : (lk (qL q) x.d).isSome = true ∨ q.length ≠ 4) : (putL (qL q) x.d x.v).Perm (qL (qPut q x)) := by
  have hl : (qLess q x.d).length ≤ 3 := by
    rcases hc with hk | hn
    · obtain ⟨y, hy, e⟩ := (qL_known h x.d).1 hk
      have hlt : (qLess q x.d).length < q.length := by
        refine List.length_filter_lt_length_iff_exists.2 ⟨y, hy, ?_⟩
        simp [e]
      have := h.len; omega
    · have := List.length_filter_le (fun y => decide (y.d ≠ x.d)) q
      have h4 := h.len
      unfold qLess
      omega
  have hcut : qCut (qLess q x.d) = qLess q x.d := by unfold qCut; rw [if_neg (by omega)]
  unfold putL qPut
  rw [hcut]
  show ((x.d, x.v) :: delL (qL q) x.d).Perm _
  rw [qL_less]
  exact ((ins_perm x (qLess q x.d)).map fun y => (y.d, y.v)).symm
/-- A new one where there are four: the first one goes. -/
theorem qPut_drop {q : List Vt} (h : QOk q) {x y : Vt} {l : List Vt} (hq : q = y :: l) (h4 : q.length = 4) (hk : (lk (qL q) x.d).isSome = false) : (putL (delL (qL q) y.d) x.d x.v).Perm (qL (qPut q x)) := by
  have hno : ∀ z ∈ q, z.d ≠ x.d := fun z hz e => by
    have := (qL_known h x.d).2 ⟨z, hz, e⟩
    rw [hk] at this; cases this
  have hless : qLess q x.d = q := List.filter_eq_self.2 fun z hz => by simp [hno z hz]
  have hcut : qCut (qLess q x.d) = l := by rw [hless]; unfold qCut; rw [if_pos (by omega), hq]; rfl
  have hyl : qLess q y.d = l := by
    rw [hq]
    unfold qLess
    have hn := h.nd
    rw [hq, List.map_cons, List.nodup_cons] at hn
    rw [List.filter_cons_of_neg (by simp)]
    refine List.filter_eq_self.2 fun z hz => ?_
    have : z.d ≠ y.d := fun e => hn.1 (List.mem_map.2 ⟨z, hz, e⟩)
    simp [this]
  unfold putL qPut
  rw [hcut]
  show ((x.d, x.v) :: delL (delL (qL q) y.d) x.d).Perm _
  rw [qL_less, hyl, qL_less]
  have hl : qLess l x.d = l := List.filter_eq_self.2 fun z hz => by
    have := hno z (by rw [hq]; exact List.mem_cons_of_mem _ hz)
    simp [this]
  rw [hl]
  exact ((ins_perm x l).map fun y => (y.d, y.v)).symm

theorem turned_out {w w' : World} {m : Nat} (h : w.mapTurned w' m) : Out (fun i => i = m) w w' :=
  let g := h.grown
  ⟨g.os, g.tape, g.output, g.size, fun i hi hn => g.block i hi fun e => hn (Option.some.inj e)⟩
theorem sy_cells (v : Int) (d : List UInt8) (h : d.length = 32) : (sy (some ⟨v, d⟩))[1]? = some (.int .i64 v) ∧ ((sy (some ⟨v, d⟩)).drop 2).take 32 = cbs d := by
  refine ⟨rfl, ?_⟩
  show (cbs d).take 32 = cbs d
  exact List.take_of_length_le (by rw [cbs_length]; omega)
theorem int_zero (w : World) : (zeroValue 3).run Try.prog w = .ok (.int .i64 0) w := by kernel_rfl

set_option maxRecDepth 100000 in
set_option maxHeartbeats 3200000 in
theorem spropose_any {w : World} {sb qb rb cb : Nat} {ns : List Int} {x : Sq} (hs : SqAt w sb qb rb cb ns x) (hok : x.ok) (hne : sb ≠ qb ∧ sb ≠ rb ∧ sb ≠ cb ∧ qb ≠ rb ∧ qb ≠ cb) (now : Vt) (hnow : now.ok) :
    Calls Try.prog 41 #[.pointer (some ⟨sb, 0, none⟩), .agg (sy (some now)).toArray] w fun e w' => e = .returned (.tuple #[]) ∧ SqAt w' sb qb rb cb ns (propSq x now) ∧ Out (fun b => b = sb ∨ b = qb) w w' := by
  obtain ⟨v, d⟩ := now
  obtain ⟨hv0, hv1, hd⟩ := hnow
  simp only at hv0 hv1 hd
  have hon : okO (some (⟨v, d⟩ : Vt)) := fun y hy => by injection hy with hy; rw [← hy]; exact ⟨hv0, hv1, hd⟩
  obtain ⟨hC, _, h68, h69, h70, hln⟩ := sq_cells hok.last hok.p (.map (some qb)) (.map (some rb)) (.map (some cb))
  obtain ⟨s1, s2⟩ := sy_cells v d hd
  have hsl := sy_len hon
  -- the box, the store
  obtain ⟨w0, hw0⟩ : ∃ w0, w.alloc (.cells (sy (some ⟨v, d⟩)).toArray 64) = w0 := ⟨_, rfl⟩
  have b0 : Below w.heap.size w w0 := by rw [← hw0]; exact (Below.refl _ _).alloc (Nat.le_refl _) _
  have X0 : Blk w0 w.heap.size 64 (sy (some ⟨v, d⟩)) := by rw [← hw0]; exact Blk.new rfl rfl
  have hs0 : SqAt w0 sb qb rb cb ns x := hs.out (S := fun i => w.heap.size ≤ i) (Out.ofBelow _ b0) (by have := hs.blk.lt; omega) (by have := hs.q.lt; omega) (by have := hs.pr.lt; omega) (by have := hs.cm.lt; omega)
  obtain ⟨w1, hw1⟩ : ∃ w1, w0.setCells sb 0 (sy (some ⟨v, d⟩)) = w1 := ⟨_, rfl⟩
  have o1 : Out (fun b => b = sb) w0 w1 := by rw [← hw1]; exact Out.setCells (S := fun b => b = sb) (g := sb) _ (fun _ => rfl) (Out.refl _ w0)
  have hbx : w.heap.size ≠ sb := by have := hs.blk.lt; omega
  have X1 := o1.blk X0 hbx
  have B1 : Blk w1 sb 68 (sy (some ⟨v, d⟩) ++ sy x.p ++ [.map (some qb), .map (some rb), .map (some cb)]) := by
    have := Blk.setMore (w := w0) (sy (some ⟨v, d⟩)) hs0.blk (o := 0) (by rw [hsl, hln]; omega)
    rw [hsl, first_put (sy_len hok.last), hw1] at this
    exact this
  have hth : w0.there sb 0 (sy (some ⟨v, d⟩)).toArray.size := hs0.blk.thereAt (by rw [List.size_toArray, hsl, hln]; omega)
  have q1 := hs0.q.out o1 (fun e => hne.1 e.symm)
  have r1 := hs0.pr.out o1 (fun e => hne.2.1 e.symm)
  have m1 := hs0.cm.out o1 (fun e => hne.2.2.1 e.symm)
  -- the look-up
  obtain ⟨w2, hw2⟩ : ∃ w2, w1.drew = w2 := ⟨_, rfl⟩
  have b2 : Below w1.heap.size w1 w2 := by rw [← hw2]; exact (Below.refl _ _).drew
  have X2 := X1.below b2 X1.lt
  have B2 := B1.below b2 B1.lt
  have q2 := q1.below b2 q1.lt
  have r2 := r1.below b2 r1.lt
  have m2 := m1.below b2 m1.lt
  obtain ⟨_, _, n68, n69, n70, nln⟩ := sq_cells hon hok.p (.map (some qb)) (.map (some rb)) (.map (some cb))
  have c68 := B2.cell n68
  have hlook : (Instr.lookup 65 (.map (some qb)) (.agg (cbs d).toArray) true).run Try.prog w2 = .ok (.tuple #[((lk (qL x.q) d).map vI).getD (.int .i64 0), .bool (lk (qL x.q) d).isSome]) w2 := q2.look_ok Try.underlying65 (int_zero w2) (a := d) hd
  have hdr : w2.rangeAt w.heap.size 2 (cbs d) := X2.rangeFrom s2
  have hdn : (Try.prog.info? 39).map (·.size) = some (cbs d).length := by rw [cbs_length, hd]; exact dig_info
  have hsn : (Try.prog.info? 64).map (·.size) = some (sy (some (⟨v, d⟩ : Vt))).length := say_infoL hon
  have hsa : (Try.prog.info? 64).map (·.size) = some (sy (some (⟨v, d⟩ : Vt))).toArray.size := say_infoA hon
  have hone : (sy (some (⟨v, d⟩ : Vt))).toArray.all (·.oneCell') = true := sy_one _
  have hlen2 := q2.len (e := 3) Try.underlying65 3
  obtain ⟨u, hu⟩ : ∃ u : Value, ((lk (qL x.q) d).map vI).getD (.int .i64 0) = u := ⟨_, rfl⟩
  have hui : ∃ z, u = .int .i64 z := by
    rw [← hu]
    cases lk (qL x.q) d with
    | none => exact ⟨0, rfl⟩
    | some z => exact ⟨z, rfl⟩
  obtain ⟨z, hz⟩ := hui
  rw [hu, hz] at hlook
  obtain ⟨kn, hkn⟩ : ∃ kn, (lk (qL x.q) d).isSome = kn := ⟨_, rfl⟩
  rw [hkn] at hlook
  rw [qL_len] at hlen2
  have hql := hok.q.len
  have hnow : (⟨v, d⟩ : Vt).ok := ⟨hv0, hv1, hd⟩
  have HA := Lib.hid (And.intro hth (And.intro hsa (And.intro hone (And.intro X0.range (And.intro hsn hw1)))))
  have HB := Lib.hid (And.intro c68 (And.intro hdr (And.intro hdn (And.intro hlook hw2))))
  have HC := Lib.hid (And.intro B2 (And.intro X2 (And.intro q2 (And.intro r2 (And.intro m2 (And.intro n68 hlen2))))))
  have HD := Lib.hid (And.intro hok (And.intro hne (And.intro hnow (And.intro hkn (And.intro b0 (And.intro o1 b2))))))
  have HW := Lib.hid hne
  -- what the rest comes to, from whichever world W5 in which Q may be written
  have last : ∀ (wA W5 : World) (L : List (List UInt8 × Int)), wA.drew = W5 → Blk W5 sb 68 (sy (some ⟨v, d⟩) ++ sy x.p ++ [.map (some qb), .map (some rb), .map (some cb)]) → MapT digK vI W5 qb L → L.length < 1000000 →
      ∃ w6, (Instr.mapUpdate 65 (.map (some qb)) (.agg (cbs d).toArray) (.int .i64 v)).run Try.prog W5 = .ok () w6 ∧ Out (fun b => b = qb) W5 w6 ∧ Blk w6 sb 68 (sy (some ⟨v, d⟩) ++ sy x.p ++ [.map (some qb), .map (some rb), .map (some cb)]) ∧ MapT digK vI w6 qb (putL L d v) := fun wA W5 L _ hB hq hl => by
    obtain ⟨w6, hrun, hturn, hq6⟩ := hq.put Try.underlying65 hl (a := d) hd v
    exact ⟨w6, hrun, turned_out hturn, (turned_out hturn).blk hB hne.1, hq6⟩
  have HL := Lib.hid last
  clear hC h68 h69 h70 hln s1 s2 hsl b0 X0 hs0 o1 X1 B1 hth q1 r1 m1 b2 X2 B2 q2 r2 m2 n68 n69 n70 nln c68 hlook hdr hdn hsn hsa hone hlen2 hu hz hs hok hon last hv0 hv1 hnow hkn
  subst hw0
  generalize hSy : sy (some (⟨v, d⟩ : Vt)) = Sy at *
  go_enter Try.func41, Try.ntmps41
  go_wp2_with (first
    | (refine wpList_load_mid rfl 64 _ rfl w.heap.size 0 rfl Sy _ HA.out.2.2.2.1 Try.underlying64 rfl HA.out.2.2.2.2.1 ?_; simp only [Act.put])
    | (refine wpList_store_mid rfl 64 _ _ rfl sb 0 Sy.toArray rfl rfl HA.out.1 HA.out.2.1 HA.out.2.2.1 ?_; simp only [Act.put]; refine cast (congrArg (fun z => wpList _ _ _ _ _ z) HA.out.2.2.2.2.2.symm) ?_))
  refine wp_region_held_drew (S := fun W => W = w2) (by kernel_rfl) HB.out.2.2.2.2 (fun _ => ?_)
  rw [HB.out.2.2.2.2]
  refine anyH_take (i := 0) (d := 11) (v := ?a0) rfl rfl (by kernel_rfl) (by kernel_rfl) (by kernel_rfl) (fun _ _ _ h => h) (Or.inl ⟨by rfl, ?ay0⟩) rfl ?ar0
  case ay0 => (intro w; go_simp; try with_reducible rfl)
  simp only [List.setIfInBounds_toArray, List.set_cons_zero, List.set_cons_succ]
  refine anyH_take (i := 1) (d := 12) (v := ?a1) rfl rfl (by kernel_rfl) (by kernel_rfl) (by kernel_rfl) (fun _ _ _ h => h) (Or.inl ⟨by rfl, ?ay1⟩) rfl ?ar1
  case ay1 => (intro w; go_simp; try with_reducible rfl)
  simp only [List.setIfInBounds_toArray, List.set_cons_zero, List.set_cons_succ]
  refine anyH_take (i := 2) (d := 13) (v := ?a2) rfl rfl (by kernel_rfl) (by kernel_rfl) (by kernel_rfl) (fun _ _ _ h => h) (Or.inl ⟨by rfl, ?ay2⟩) rfl ?ar2
  case ay2 => (intro w; go_simp; try with_reducible rfl)
  simp only [List.setIfInBounds_toArray, List.set_cons_zero, List.set_cons_succ]
  refine wpAnyH_take' (i := 3) (d := 14) (v := (.map (some qb))) rfl rfl (by kernel_rfl) (by kernel_rfl) (by kernel_rfl) (fun _ _ _ h => h) (Or.inl ⟨by rfl, ?ay3⟩) rfl ?ar3
  case ay3 => (intro W hSW; obtain rfl := hSW; have hq0 := HB.out.1; go_simp; try with_reducible rfl)
  simp only [List.setIfInBounds_toArray, List.set_cons_zero, List.set_cons_succ]
  refine anyH_take (i := 4) (d := 15) (v := ?a4) rfl rfl (by kernel_rfl) (by kernel_rfl) (by kernel_rfl) (fun _ _ _ h => h) (Or.inl ⟨by rfl, ?ay4⟩) rfl ?ar4
  case ay4 => (intro w; go_simp; try with_reducible rfl)
  simp only [List.setIfInBounds_toArray, List.set_cons_zero, List.set_cons_succ]
  refine anyH_load (i := 5) (d := 16) rfl rfl (by kernel_rfl) (by kernel_rfl) (by kernel_rfl) (by rfl) 39 _ rfl w.heap.size 2 rfl (cbs d) _ (fun W hSW => by obtain rfl := hSW; exact HB.out.2.1) Try.underlying39 rfl HB.out.2.2.1 (fun _ _ _ h => h) rfl ?_
  simp only [List.setIfInBounds_toArray, List.set_cons_zero, List.set_cons_succ]
  refine wpAnyH_take' (i := 6) (d := 17) (v := (.tuple #[.int .i64 z, .bool kn])) rfl rfl (by kernel_rfl) (by kernel_rfl) (by kernel_rfl) (fun _ _ _ h => h) (Or.inl ⟨by rfl, ?ay6⟩) rfl ?ar6
  case ay6 => (intro W hSW; obtain rfl := hSW; have hq0 := HB.out.2.2.2.1; go_simp; try with_reducible rfl)
  simp only [List.setIfInBounds_toArray, List.set_cons_zero, List.set_cons_succ]
  refine anyH_take (i := 7) (d := 10) (v := ?a7) rfl rfl (by kernel_rfl) (by kernel_rfl) (by kernel_rfl) (fun _ _ _ h => h) (Or.inl ⟨by rfl, ?ay7⟩) rfl ?ar7
  case ay7 => (intro w; go_simp; try with_reducible rfl)
  simp only [List.setIfInBounds_toArray, List.set_cons_zero, List.set_cons_succ]
  refine anyH_take (i := 8) (d := 18) (v := ?a8) rfl rfl (by kernel_rfl) (by kernel_rfl) (by kernel_rfl) (fun _ _ _ h => h) (Or.inl ⟨by rfl, ?ay8⟩) rfl ?ar8
  case ay8 => (intro w; go_simp; try with_reducible rfl)
  simp only [List.setIfInBounds_toArray, List.set_cons_zero, List.set_cons_succ]
  refine anyH_take (i := 9) (d := 19) (v := ?a9) rfl rfl (by kernel_rfl) (by kernel_rfl) (by kernel_rfl) (fun _ _ _ h => h) (Or.inl ⟨by rfl, ?ay9⟩) rfl ?ar9
  case ay9 => (intro w; go_simp; try with_reducible rfl)
  simp only [List.setIfInBounds_toArray, List.set_cons_zero, List.set_cons_succ]
  refine anyH_take (i := 10) (d := 4) (v := ?a10) rfl rfl (by kernel_rfl) (by kernel_rfl) (by kernel_rfl) (fun _ _ _ h => h) (Or.inl ⟨by rfl, ?ay10⟩) rfl ?ar10
  case ay10 => (intro w; go_simp; try with_reducible rfl)
  simp only [List.setIfInBounds_toArray, List.set_cons_zero, List.set_cons_succ]
  refine anyH_take (i := 11) (d := 5) (v := ?a11) rfl rfl (by kernel_rfl) (by kernel_rfl) (by kernel_rfl) (fun _ _ _ h => h) (Or.inl ⟨by rfl, ?ay11⟩) rfl ?ar11
  case ay11 => (intro w; go_simp; try with_reducible rfl)
  simp only [List.setIfInBounds_toArray, List.set_cons_zero, List.set_cons_succ]
  refine wpAnyH_done (by kernel_rfl) ?_ _
  obtain ⟨n, hn⟩ : ∃ n, x.q.length = n := ⟨_, rfl⟩
  have hlen := HC.out.2.2.2.2.2.2
  rw [hn] at hlen hql
  have fin : ∀ (wA w6 : World) (L : List (List UInt8 × Int)) (SS : Nat → Prop), Out SS w2 wA → (∀ b, SS b → b = qb ∨ w2.heap.size ≤ b) → Out (fun b => b = qb) wA.drew w6 → Blk w6 sb 68 (Sy ++ sy x.p ++ [.map (some qb), .map (some rb), .map (some cb)]) → MapT digK vI w6 qb (putL L d v) → (putL L d v).Perm (qL (qPut x.q ⟨v, d⟩)) →
      SqAt w6 sb qb rb cb ns (propSq x ⟨v, d⟩) ∧ Out (fun b => b = sb ∨ b = qb) w w6 := fun wA w6 L SS oA hSS o6 hB6 hq6 hp => by
    obtain ⟨hok, hne, hnow, hkn, b0, o1, b2⟩ := HD.out
    obtain ⟨B2, X2, q2, r2, m2, _, _⟩ := HC.out
    have hrl := r2.lt
    have hml := m2.lt
    have oA' : Out (fun b => b = qb ∨ w2.heap.size ≤ b) w2 wA := ⟨oA.os, oA.tape, oA.output, oA.size, fun i hi hn => oA.block i hi fun e => hn (hSS i e)⟩
    have o26 : Out (fun b => b = qb ∨ w2.heap.size ≤ b) w2 w6 := (oA'.trans (Out.ofBelow (fun _ => False) ((Below.refl _ _).drew)) fun _ _ e => e.elim).trans o6 fun b _ e => .inl e
    have o06 : Out (fun b => b = sb ∨ b = qb) w w6 := (((Out.ofBelow _ b0).trans o1 fun b _ e => .inl e).then_below b2).trans o26 fun b hb e => e.elim .inr fun e => by have h1 := b0.size; have h2 := o1.size; have h3 := b2.size; omega
    refine ⟨⟨by rw [← hSy] at hB6; exact hB6, hq6.perm hp, r2.out o26 (fun e => e.elim (fun e => hne.2.2.2.1 e.symm) (by omega)), m2.out o26 (fun e => e.elim (fun e => hne.2.2.2.2 e.symm) (by omega))⟩, o06⟩
  have HF := Lib.hid fin
  clear fin
  have hstop : ∀ (wA : World) (L : List (List UInt8 × Int)) (SS : Nat → Prop), Out SS w2 wA → (∀ b, SS b → b = qb ∨ w2.heap.size ≤ b) → MapT digK vI wA qb L → L.length < 1000000 → (putL L d v).Perm (qL (qPut x.q ⟨v, d⟩)) →
      ∃ W5 w6, wA.drew = W5 ∧ (W5.cell? ⟨sb, 68, none⟩ = some (.map (some qb)) ∧ W5.rangeAt w.heap.size 2 (cbs d) ∧ W5.cell? ⟨w.heap.size, 1, none⟩ = some (.int .i64 v)) ∧ (Instr.mapUpdate 65 (.map (some qb)) (.agg (cbs d).toArray) (.int .i64 v)).run Try.prog W5 = .ok () w6 ∧
        SqAt w6 sb qb rb cb ns (propSq x ⟨v, d⟩) ∧ Out (fun b => b = sb ∨ b = qb) w w6 ∧ (w6.cell? ⟨sb, 68, none⟩ = some (.map (some qb)) ∧ w6.rangeAt w.heap.size 2 (cbs d) ∧ w6.cell? ⟨w.heap.size, 1, none⟩ = some (.int .i64 v)) := fun wA L SS oA hSS hq hl hp => by
    obtain ⟨hok, hne, hnow, hkn, b0, o1, b2⟩ := HD.out
    obtain ⟨B2, X2, q2, r2, m2, n68, _⟩ := HC.out
    have hwl := X2.lt
    have hbl := B2.lt
    have hsq : ¬ SS sb := fun e => (hSS _ e).elim hne.1 (by omega)
    have hsx : ¬ SS w.heap.size := fun e => (hSS _ e).elim (fun e => by have := HW.out; exact absurd (q2.off X2) (by omega)) (by omega)
    have BA := oA.blk B2 hsq
    have XA := oA.blk X2 hsx
    obtain ⟨w6, hrun, o6, hB6, hq6⟩ := HL.out wA wA.drew L rfl (BA.below ((Below.refl _ _).drew) BA.lt) (hq.below ((Below.refl _ _).drew) hq.lt) hl
    have hf := HF.out wA w6 L SS oA hSS o6 hB6 hq6 hp
    obtain ⟨s1, s2⟩ := sy_cells v d hd
    have XD := XA.below ((Below.refl _ _).drew) XA.lt
    rw [← hSy] at XD
    have hxq : w.heap.size ≠ qb := fun e => absurd (q2.off X2) (by omega)
    refine ⟨_, w6, rfl, ⟨(BA.below ((Below.refl _ _).drew) BA.lt).cell n68, XD.rangeFrom s2, XD.cell s1⟩, hrun, hf.1, hf.2, hB6.cell n68, (o6.blk XD hxq).rangeFrom s2, (o6.blk XD hxq).cell s1⟩
  have HT := Lib.hid hstop
  clear hstop HF HL
  by_cases hc : kn = true ∨ n ≠ 4
  · -- nothing goes
    have hperm : (putL (qL x.q) d v).Perm (qL (qPut x.q ⟨v, d⟩)) := qPut_keep HD.out.1.q (x := ⟨v, d⟩) (by rw [HD.out.2.2.2.1, hn]; exact hc)
    obtain ⟨W5, w6, hW5, hf5, hrun5, hend⟩ := HT.out w2 (qL x.q) (fun _ => False) (Out.refl _ _) (fun b e => e.elim) HC.out.2.2.1 (by rw [qL_len, hn]; omega) hperm
    have H5 := Lib.hid hf5
    have HR := Lib.hid (And.intro hW5 (And.intro hrun5 hend))
    clear hperm hW5 hf5 hrun5 hend HT
    have hg : (kn = true) ∨ (kn = false ∧ ((n : Int) == 4) = false) := by
      cases kn with
      | true => exact .inl rfl
      | false => exact .inr ⟨rfl, by simp at hc; simp; omega⟩
    rcases hg with rfl | ⟨rfl, hg⟩
    · go_wp2
      refine wp_region_held_drew (S := fun W => W.cell? ⟨sb, 68, none⟩ = some (.map (some qb)) ∧ W.rangeAt w.heap.size 2 (cbs d) ∧ W.cell? ⟨w.heap.size, 1, none⟩ = some (.int .i64 v)) (by kernel_rfl) (by rw [HR.out.1]; exact H5.out) (fun _ => ?_)
      rw [HR.out.1]
      refine anyH_take (i := 0) (d := 39) (v := ?e0) rfl rfl (by kernel_rfl) (by kernel_rfl) (by kernel_rfl) (fun _ _ _ h => h) (Or.inl ⟨by rfl, ?ey0⟩) H5.out ?er0
      case ey0 => (intro w; go_simp; try with_reducible rfl)
      simp only [List.setIfInBounds_toArray, List.set_cons_zero, List.set_cons_succ]
      refine anyH_take (i := 1) (d := 40) (v := ?e1) rfl rfl (by kernel_rfl) (by kernel_rfl) (by kernel_rfl) (fun _ _ _ h => h) (Or.inl ⟨by rfl, ?ey1⟩) H5.out ?er1
      case ey1 => (intro w; go_simp; try with_reducible rfl)
      simp only [List.setIfInBounds_toArray, List.set_cons_zero, List.set_cons_succ]
      refine anyH_take (i := 2) (d := 41) (v := ?e2) rfl rfl (by kernel_rfl) (by kernel_rfl) (by kernel_rfl) (fun _ _ _ h => h) (Or.inl ⟨by rfl, ?ey2⟩) H5.out ?er2
      case ey2 => (intro w; go_simp; try with_reducible rfl)
      simp only [List.setIfInBounds_toArray, List.set_cons_zero, List.set_cons_succ]
      refine wpAnyH_take' (i := 3) (d := 42) (v := (.map (some qb))) rfl rfl (by kernel_rfl) (by kernel_rfl) (by kernel_rfl) (fun _ _ _ h => h) (Or.inl ⟨by rfl, ?ey3⟩) H5.out ?er3
      case ey3 => (intro W hSW; obtain ⟨hS1, _, hS3⟩ := hSW; go_simp; try with_reducible rfl)
      simp only [List.setIfInBounds_toArray, List.set_cons_zero, List.set_cons_succ]
      refine anyH_take (i := 4) (d := 43) (v := ?e4) rfl rfl (by kernel_rfl) (by kernel_rfl) (by kernel_rfl) (fun _ _ _ h => h) (Or.inl ⟨by rfl, ?ey4⟩) H5.out ?er4
      case ey4 => (intro w; go_simp; try with_reducible rfl)
      simp only [List.setIfInBounds_toArray, List.set_cons_zero, List.set_cons_succ]
      refine anyH_load (i := 5) (d := 44) rfl rfl (by kernel_rfl) (by kernel_rfl) (by kernel_rfl) (by rfl) 39 _ rfl w.heap.size 2 rfl (cbs d) _ (fun W hSW => hSW.2.1) Try.underlying39 rfl HB.out.2.2.1 (fun _ _ _ h => h) H5.out ?_
      simp only [List.setIfInBounds_toArray, List.set_cons_zero, List.set_cons_succ]
      refine anyH_take (i := 6) (d := 45) (v := ?e6) rfl rfl (by kernel_rfl) (by kernel_rfl) (by kernel_rfl) (fun _ _ _ h => h) (Or.inl ⟨by rfl, ?ey6⟩) H5.out ?er6
      case ey6 => (intro w; go_simp; try with_reducible rfl)
      simp only [List.setIfInBounds_toArray, List.set_cons_zero, List.set_cons_succ]
      refine wpAnyH_take' (i := 7) (d := 46) (v := (.int .i64 v)) rfl rfl (by kernel_rfl) (by kernel_rfl) (by kernel_rfl) (fun _ _ _ h => h) (Or.inl ⟨by rfl, ?ey7⟩) H5.out ?er7
      case ey7 => (intro W hSW; obtain ⟨hS1, _, hS3⟩ := hSW; go_simp; try with_reducible rfl)
      simp only [List.setIfInBounds_toArray, List.set_cons_zero, List.set_cons_succ]
      refine anyH_one (i := 8) (by kernel_rfl) ?_
      refine op_mapUpdate rfl rfl rfl _ _ _ _ rfl _ _ _ w6 rfl rfl rfl HR.out.2.1 ?_
      refine ⟨HR.out.2.2.2.2, ?_⟩
      refine wpAnyH_done (by kernel_rfl) ?_ _
      go_end0
      exact ⟨rfl, HR.out.2.2.1, HR.out.2.2.2.1⟩
    · have c68 := HB.out.1
      go_wp2
      refine wp_region_held_drew (S := fun W => W.cell? ⟨sb, 68, none⟩ = some (.map (some qb)) ∧ W.rangeAt w.heap.size 2 (cbs d) ∧ W.cell? ⟨w.heap.size, 1, none⟩ = some (.int .i64 v)) (by kernel_rfl) (by rw [HR.out.1]; exact H5.out) (fun _ => ?_)
      rw [HR.out.1]
      refine anyH_take (i := 0) (d := 39) (v := ?h0) rfl rfl (by kernel_rfl) (by kernel_rfl) (by kernel_rfl) (fun _ _ _ h => h) (Or.inl ⟨by rfl, ?hy0⟩) H5.out ?hr0
      case hy0 => (intro w; go_simp; try with_reducible rfl)
      simp only [List.setIfInBounds_toArray, List.set_cons_zero, List.set_cons_succ]
      refine anyH_take (i := 1) (d := 40) (v := ?h1) rfl rfl (by kernel_rfl) (by kernel_rfl) (by kernel_rfl) (fun _ _ _ h => h) (Or.inl ⟨by rfl, ?hy1⟩) H5.out ?hr1
      case hy1 => (intro w; go_simp; try with_reducible rfl)
      simp only [List.setIfInBounds_toArray, List.set_cons_zero, List.set_cons_succ]
      refine anyH_take (i := 2) (d := 41) (v := ?h2) rfl rfl (by kernel_rfl) (by kernel_rfl) (by kernel_rfl) (fun _ _ _ h => h) (Or.inl ⟨by rfl, ?hy2⟩) H5.out ?hr2
      case hy2 => (intro w; go_simp; try with_reducible rfl)
      simp only [List.setIfInBounds_toArray, List.set_cons_zero, List.set_cons_succ]
      refine wpAnyH_take' (i := 3) (d := 42) (v := (.map (some qb))) rfl rfl (by kernel_rfl) (by kernel_rfl) (by kernel_rfl) (fun _ _ _ h => h) (Or.inl ⟨by rfl, ?hy3⟩) H5.out ?hr3
      case hy3 => (intro W hSW; obtain ⟨hS1, _, hS3⟩ := hSW; go_simp; try with_reducible rfl)
      simp only [List.setIfInBounds_toArray, List.set_cons_zero, List.set_cons_succ]
      refine anyH_take (i := 4) (d := 43) (v := ?h4) rfl rfl (by kernel_rfl) (by kernel_rfl) (by kernel_rfl) (fun _ _ _ h => h) (Or.inl ⟨by rfl, ?hy4⟩) H5.out ?hr4
      case hy4 => (intro w; go_simp; try with_reducible rfl)
      simp only [List.setIfInBounds_toArray, List.set_cons_zero, List.set_cons_succ]
      refine anyH_load (i := 5) (d := 44) rfl rfl (by kernel_rfl) (by kernel_rfl) (by kernel_rfl) (by rfl) 39 _ rfl w.heap.size 2 rfl (cbs d) _ (fun W hSW => hSW.2.1) Try.underlying39 rfl HB.out.2.2.1 (fun _ _ _ h => h) H5.out ?_
      simp only [List.setIfInBounds_toArray, List.set_cons_zero, List.set_cons_succ]
      refine anyH_take (i := 6) (d := 45) (v := ?h6) rfl rfl (by kernel_rfl) (by kernel_rfl) (by kernel_rfl) (fun _ _ _ h => h) (Or.inl ⟨by rfl, ?hy6⟩) H5.out ?hr6
      case hy6 => (intro w; go_simp; try with_reducible rfl)
      simp only [List.setIfInBounds_toArray, List.set_cons_zero, List.set_cons_succ]
      refine wpAnyH_take' (i := 7) (d := 46) (v := (.int .i64 v)) rfl rfl (by kernel_rfl) (by kernel_rfl) (by kernel_rfl) (fun _ _ _ h => h) (Or.inl ⟨by rfl, ?hy7⟩) H5.out ?hr7
      case hy7 => (intro W hSW; obtain ⟨hS1, _, hS3⟩ := hSW; go_simp; try with_reducible rfl)
      simp only [List.setIfInBounds_toArray, List.set_cons_zero, List.set_cons_succ]
      refine anyH_one (i := 8) (by kernel_rfl) ?_
      refine op_mapUpdate rfl rfl rfl _ _ _ _ rfl _ _ _ w6 rfl rfl rfl HR.out.2.1 ?_
      refine ⟨HR.out.2.2.2.2, ?_⟩
      refine wpAnyH_done (by kernel_rfl) ?_ _
      go_end0
      exact ⟨rfl, HR.out.2.2.1, HR.out.2.2.2.1⟩
  · -- the first one goes
    have hk0 : kn = false := by cases kn with | false => rfl | true => exact absurd (.inl rfl) hc
    have hn4 : n = 4 := by rcases Nat.decEq n 4 with h | h; exact absurd (.inr h) hc; exact h
    subst hk0 hn4
    obtain ⟨y, l, hyl⟩ : ∃ y l, x.q = y :: l := by
      cases hq : x.q with
      | nil => rw [hq] at hn; cases hn
      | cons y l => exact ⟨y, l, rfl⟩
    have hperm := qPut_drop HD.out.1.q (x := ⟨v, d⟩) hyl hn HD.out.2.2.2.1
    obtain ⟨W4, hW4⟩ : ∃ W4, w2.drew = W4 := ⟨_, rfl⟩
    have b4 : Below w2.heap.size w2 W4 := by rw [← hW4]; exact (Below.refl _ _).drew
    have B4 := HC.out.1.below b4 HC.out.1.lt
    have q4 := HC.out.2.2.1.below b4 HC.out.2.2.1.lt
    have hPC := proposals_any B4 HC.out.2.2.2.2.2.1 q4 HD.out.1.q 0
    rw [hn] at hPC
    have hy32 : y.d.length = 32 := (HD.out.1.q.ok y (by rw [hyl]; exact List.mem_cons_self)).2.2
    have hfirst : ∀ j u, (cbs y.d)[j]? = some u → (sdCs (qT 0 x.q))[1 + j]? = some u := fun j u hu => by
      have e : sdCs (qT 0 x.q) = sdC ⟨0, y.d, y.v⟩ ++ sdCs (qT 0 l) := by
        rw [hyl]
        show sdT (mkT 0 (y.d, y.v)) ++ _ = _
        unfold sdT
        rw [mkT_ok hy32]
        rfl
      rw [e, List.getElem?_append_left (by
        have hj : j < (cbs y.d).length := by
          rcases Nat.lt_or_ge j (cbs y.d).length with h | h
          · exact h
          · rw [List.getElem?_eq_none h] at hu; cases hu
        rw [cbs_length, hy32] at hj
        simp [sdC, cbs_length, hy32]; omega)]
      exact (sdC_parts hy32).2 j u hu
    have hyn : (Try.prog.info? 39).map (·.size) = some (cbs y.d).length := by rw [cbs_length, hy32]; exact dig_info
    have H4 := Lib.hid (And.intro hW4 (And.intro b4 (And.intro B4 (And.intro q4 (And.intro hPC (And.intro hfirst hyn))))))
    have c4 : W4.cell? ⟨sb, 68, none⟩ = some (.map (some qb)) := B4.cell HC.out.2.2.2.2.2.1
    have Hy := Lib.hid (And.intro hperm (And.intro hy32 hyl))
    clear hperm hW4 b4 B4 q4 hPC hfirst hyn hy32 hyl hn
    have c68 := HB.out.1
    go_wp2
    refine wp_region_held_drew (S := fun W => W.cell? ⟨sb, 68, none⟩ = some (.map (some qb))) (by kernel_rfl) (by rw [H4.out.1]; exact c4) (fun _ => ?_)
    rw [H4.out.1]
    refine anyH_take (i := 0) (d := 30) (v := ?f0) rfl rfl (by kernel_rfl) (by kernel_rfl) (by kernel_rfl) (fun _ _ _ h => h) (Or.inl ⟨by rfl, ?fy0⟩) c4 ?fr0
    case fy0 => (intro w; go_simp; try with_reducible rfl)
    simp only [List.setIfInBounds_toArray, List.set_cons_zero, List.set_cons_succ]
    refine anyH_take (i := 1) (d := 31) (v := ?f1) rfl rfl (by kernel_rfl) (by kernel_rfl) (by kernel_rfl) (fun _ _ _ h => h) (Or.inl ⟨by rfl, ?fy1⟩) c4 ?fr1
    case fy1 => (intro w; go_simp; try with_reducible rfl)
    simp only [List.setIfInBounds_toArray, List.set_cons_zero, List.set_cons_succ]
    refine anyH_take (i := 2) (d := 32) (v := ?f2) rfl rfl (by kernel_rfl) (by kernel_rfl) (by kernel_rfl) (fun _ _ _ h => h) (Or.inl ⟨by rfl, ?fy2⟩) c4 ?fr2
    case fy2 => (intro w; go_simp; try with_reducible rfl)
    simp only [List.setIfInBounds_toArray, List.set_cons_zero, List.set_cons_succ]
    refine wpAnyH_take' (i := 3) (d := 33) (v := .map (some qb)) rfl rfl (by kernel_rfl) (by kernel_rfl) (by kernel_rfl) (fun _ _ _ h => h) (Or.inl ⟨by rfl, ?fy3⟩) c4 ?fr3
    case fy3 => (intro W hSW; go_simp; try with_reducible rfl)
    simp only [List.setIfInBounds_toArray, List.set_cons_zero, List.set_cons_succ]
    refine anyH_take (i := 4) (d := 34) (v := ?f4) rfl rfl (by kernel_rfl) (by kernel_rfl) (by kernel_rfl) (fun _ _ _ h => h) (Or.inl ⟨by rfl, ?fy4⟩) c4 ?fr4
    case fy4 => (intro w; go_simp; try with_reducible rfl)
    simp only [List.setIfInBounds_toArray, List.set_cons_zero, List.set_cons_succ]
    refine anyH_one (i := 5) (by kernel_rfl) ?_
    refine st3_call rfl rfl (f := 37) (vals := #[.pointer (some ⟨sb, 0, none⟩), .int .i64 0]) (Z := fun v w' => ∃ A cap, v = .slice A 4 cap ∧ RowK w' 41 34 A 4 cap (sdCs (qT 0 x.q)) ∧ Below W4.heap.size W4 w' ∧ ∀ b, blkOf A b → W4.heap.size ≤ b) ?_ ?_ ?_
    · unfold execOp
      simp only [List.getElem_toArray, List.getElem_cons_succ, List.getElem_cons_zero, resolve, invoke, Sem.run_bind, Sem.run_pure, Result.andThen_ok, List.map_toArray, List.map_cons, List.map_nil]
      first | rfl | exact enters_of Try.func37 (by kernel_rfl) rfl _ _
    · exact H4.out.2.2.2.2.1.mono fun e w' ⟨A, cap, he, h1, h2, h3⟩ => ⟨_, he, A, cap, rfl, h1, h2, h3⟩
    rintro v5 w5 ⟨A, cap, rfl, hrow, hb5, hA5⟩
    obtain ⟨r, rfl, hrlt, hrc, _⟩ := hrow.cells (by omega)
    have B5 := H4.out.2.2.1.below hb5 H4.out.2.2.1.lt
    have c5 : w5.cell? ⟨sb, 68, none⟩ = some (.map (some qb)) := B5.cell HC.out.2.2.2.2.2.1
    have hry : w5.rangeAt r 1 (cbs y.d) := fun j u hu => hrc _ u (H4.out.2.2.2.2.2.1 j u hu)
    obtain ⟨w6, hrun6, hturn6, hq6⟩ := (H4.out.2.2.2.1.below hb5 H4.out.2.2.2.1.lt).drop (e := 3) (a := y.d) Try.underlying65 Hy.out.2.1 0
    have hrun6' : (Builtin.delete_ #[65, 39] 0 #[.map (some qb), .agg (cbs y.d).toArray]).run Try.prog w5 = .ok (.tuple #[]) w6 := hrun6
    have o6 := turned_out hturn6
    have c6 : w6.cell? ⟨sb, 68, none⟩ = some (.map (some qb)) := (o6.blk B5 HW.out.1).cell HC.out.2.2.2.2.2.1
    have h45 := H4.out.2.1.size
    have oA : Out (fun b => b = qb ∨ w2.heap.size ≤ b) w2 w6 := ((Out.ofBelow _ H4.out.2.1).trans (Out.ofBelow (fun _ => False) hb5) fun _ _ e => e.elim).trans o6 fun _ _ e => .inl e
    obtain ⟨W5, w7, hW5, hf5, hrun5, hend⟩ := HT.out w6 (delL (qL x.q) y.d) _ oA (fun b e => e) hq6 (by
      have := List.length_filter_le (fun p : List UInt8 × Int => decide (p.1 ≠ y.d)) (qL x.q)
      rw [qL_len] at this
      have h4 := HD.out.1.q.len
      show (delL (qL x.q) y.d).length < _
      unfold delL
      omega) Hy.out.1
    have H5 := Lib.hid hf5
    have HR := Lib.hid (And.intro hW5 (And.intro hrun5 hend))
    have H6 := Lib.hid (And.intro hry (And.intro hrun6' H4.out.2.2.2.2.2.2))
    clear hrow hb5 hA5 hrc B5 hry hrun6 hrun6' hturn6 hq6 o6 h45 oA hW5 hf5 hrun5 hend HT
    refine ⟨c5, ?_⟩
    simp only [List.getElem_toArray, List.getElem_cons_succ, List.getElem_cons_zero, Act.put, List.setIfInBounds_toArray, List.set_cons_zero, List.set_cons_succ]
    refine anyH_take (i := 6) (d := 36) (v := ?g6) rfl rfl (by kernel_rfl) (by kernel_rfl) (by kernel_rfl) (fun _ _ _ h => h) (Or.inl ⟨by rfl, ?gy6⟩) c5 ?gr6
    case gy6 => (intro w; go_simp; try with_reducible rfl)
    simp only [List.setIfInBounds_toArray, List.set_cons_zero, List.set_cons_succ]
    refine anyH_take (i := 7) (d := 37) (v := ?g7) rfl rfl (by kernel_rfl) (by kernel_rfl) (by kernel_rfl) (fun _ _ _ h => h) (Or.inl ⟨by rfl, ?gy7⟩) c5 ?gr7
    case gy7 => (intro w; go_simp; try with_reducible rfl)
    simp only [List.setIfInBounds_toArray, List.set_cons_zero, List.set_cons_succ]
    refine anyH_one (i := 8) (by kernel_rfl) ?_
    refine op_load rfl rfl rfl _ _ rfl r 1 rfl (cbs y.d) _ H6.out.1 Try.underlying39 rfl H6.out.2.2 ?_
    refine ⟨c5, ?_⟩
    simp only [List.setIfInBounds_toArray, List.set_cons_zero, List.set_cons_succ]
    refine anyH_one (i := 9) (by kernel_rfl) ?_
    refine op_delete rfl rfl rfl _ _ _ _ rfl _ _ w6 rfl rfl H6.out.2.1 ?_
    refine ⟨c6, ?_⟩
    refine wpAnyH_done (by kernel_rfl) ?_ _
    go_wp2
    refine wp_region_held_drew (S := fun W => W.cell? ⟨sb, 68, none⟩ = some (.map (some qb)) ∧ W.rangeAt w.heap.size 2 (cbs d) ∧ W.cell? ⟨w.heap.size, 1, none⟩ = some (.int .i64 v)) (by kernel_rfl) (by rw [HR.out.1]; exact H5.out) (fun _ => ?_)
    rw [HR.out.1]
    refine anyH_take (i := 0) (d := 39) (v := ?k0) rfl rfl (by kernel_rfl) (by kernel_rfl) (by kernel_rfl) (fun _ _ _ h => h) (Or.inl ⟨by rfl, ?ky0⟩) H5.out ?kr0
    case ky0 => (intro w; go_simp; try with_reducible rfl)
    simp only [List.setIfInBounds_toArray, List.set_cons_zero, List.set_cons_succ]
    refine anyH_take (i := 1) (d := 40) (v := ?k1) rfl rfl (by kernel_rfl) (by kernel_rfl) (by kernel_rfl) (fun _ _ _ h => h) (Or.inl ⟨by rfl, ?ky1⟩) H5.out ?kr1
    case ky1 => (intro w; go_simp; try with_reducible rfl)
    simp only [List.setIfInBounds_toArray, List.set_cons_zero, List.set_cons_succ]
    refine anyH_take (i := 2) (d := 41) (v := ?k2) rfl rfl (by kernel_rfl) (by kernel_rfl) (by kernel_rfl) (fun _ _ _ h => h) (Or.inl ⟨by rfl, ?ky2⟩) H5.out ?kr2
    case ky2 => (intro w; go_simp; try with_reducible rfl)
    simp only [List.setIfInBounds_toArray, List.set_cons_zero, List.set_cons_succ]
    refine wpAnyH_take' (i := 3) (d := 42) (v := (.map (some qb))) rfl rfl (by kernel_rfl) (by kernel_rfl) (by kernel_rfl) (fun _ _ _ h => h) (Or.inl ⟨by rfl, ?ky3⟩) H5.out ?kr3
    case ky3 => (intro W hSW; obtain ⟨hS1, _, hS3⟩ := hSW; go_simp; try with_reducible rfl)
    simp only [List.setIfInBounds_toArray, List.set_cons_zero, List.set_cons_succ]
    refine anyH_take (i := 4) (d := 43) (v := ?k4) rfl rfl (by kernel_rfl) (by kernel_rfl) (by kernel_rfl) (fun _ _ _ h => h) (Or.inl ⟨by rfl, ?ky4⟩) H5.out ?kr4
    case ky4 => (intro w; go_simp; try with_reducible rfl)
    simp only [List.setIfInBounds_toArray, List.set_cons_zero, List.set_cons_succ]
    refine anyH_load (i := 5) (d := 44) rfl rfl (by kernel_rfl) (by kernel_rfl) (by kernel_rfl) (by rfl) 39 _ rfl w.heap.size 2 rfl (cbs d) _ (fun W hSW => hSW.2.1) Try.underlying39 rfl HB.out.2.2.1 (fun _ _ _ h => h) H5.out ?_
    simp only [List.setIfInBounds_toArray, List.set_cons_zero, List.set_cons_succ]
    refine anyH_take (i := 6) (d := 45) (v := ?k6) rfl rfl (by kernel_rfl) (by kernel_rfl) (by kernel_rfl) (fun _ _ _ h => h) (Or.inl ⟨by rfl, ?ky6⟩) H5.out ?kr6
    case ky6 => (intro w; go_simp; try with_reducible rfl)
    simp only [List.setIfInBounds_toArray, List.set_cons_zero, List.set_cons_succ]
    refine wpAnyH_take' (i := 7) (d := 46) (v := (.int .i64 v)) rfl rfl (by kernel_rfl) (by kernel_rfl) (by kernel_rfl) (fun _ _ _ h => h) (Or.inl ⟨by rfl, ?ky7⟩) H5.out ?kr7
    case ky7 => (intro W hSW; obtain ⟨hS1, _, hS3⟩ := hSW; go_simp; try with_reducible rfl)
    simp only [List.setIfInBounds_toArray, List.set_cons_zero, List.set_cons_succ]
    refine anyH_one (i := 8) (by kernel_rfl) ?_
    refine op_mapUpdate rfl rfl rfl _ _ _ _ rfl _ _ _ w7 rfl rfl rfl HR.out.2.1 ?_
    refine ⟨HR.out.2.2.2.2, ?_⟩
    refine wpAnyH_done (by kernel_rfl) ?_ _
    go_end0
    exact ⟨rfl, HR.out.2.2.1, HR.out.2.2.2.1⟩
end Go.Proofs.Ytmdgcimjmmnbjaa

namespace Go.Proofs.Ytmdgcimjmmnbjaa
open Go.RowKit Go.Shelf Go.Sort Go.Maps CrewP
set_option linter.unusedVariables false
set_option linter.unusedSimpArgs false

def pfR (bx sb : Nat) (C D : List Value) (r : Int) : Nat → Value → World → Prop
  | 0 => fun v w => v = .agg C.toArray
  | 1 => fun v w => v = .pointer (some ⟨sb, 0, none⟩)
  | 2 => fun v w => v = .pointer (some ⟨sb, 0, none⟩)
  | 3 => fun v w => v = .pointer (some ⟨sb, 0, none⟩)
  | 4 => fun v w => v = .agg D.toArray
  | 5 => fun v w => v = .int .i64 r
  | 6 => fun v w => v = .int .i64 r
  | _ => fun _ _ => True
def pfD (i : Nat) : Nat := ([28, 29, 30, 31, 32, 33, 11] : List Nat).getD i 0
def pfG : Nat → Option Bool
  | _ => none
def pfS (i : Nat) : Bool := ([] : List Nat).contains i
theorem pf_gb (bx sb : Nat) (C D : List Value) (r : Int) : ∀ i b v w, pfG i = some b → pfR bx sb C D r i v w → v = .bool b := by
  intro i b v w h hR
  unfold pfG at h
  split at h
  all_goals first | (injection h with h; subst h; exact hR) | cases h
theorem pf_sk (bx sb : Nat) (C D : List Value) (r : Int) : ∀ i w, pfS i = true → pfR bx sb C D r i undef w := by
  intro i w h
  simp [pfS] at h
theorem pf_on (bx sb : Nat) (C D : List Value) (r : Int) : ∀ i v w w', pfR bx sb C D r i v w → Below w.heap.size w w' → pfR bx sb C D r i v w'
  | 0, v, w, w', h, _ => h
  | 1, v, w, w', h, _ => h
  | 2, v, w, w', h, _ => h
  | 3, v, w, w', h, _ => h
  | 4, v, w, w', h, _ => h
  | 5, v, w, w', h, _ => h
  | 6, v, w, w', h, _ => h
  | i + 7, v, w, w', h, hb => trivial
def pfOps : List Op := [.load 64 (.tmp 10),
  .move (.tmp 9),
  .nilCheck (.tmp 29),
  .fieldAddr 68 (.tmp 30) 0,
  .load 64 (.tmp 31),
  .call { callee := .value (.func 40), args := #[.tmp 28, .tmp 32], argTypes := #[64, 64] },
  .assign (.tmp 33)]
def pfNeeds : Nat → List Nat
  | 0 => []
  | 1 => []
  | 2 => [1]
  | 3 => [2]
  | 4 => [3]
  | 5 => [0, 4]
  | 6 => [5]
  | _ => []
set_option maxRecDepth 100000 in
set_option maxHeartbeats 3200000 in
theorem pf_step {ops : Array Oper} {Q : Exit → Act → World → Prop} {a0 : Act} {w0 : World} (bx sb : Nat) (C D : List Value) (r : Int) (hops : ((List.range 7).map fun i => (ops[i]?).map Oper.op) = pfOps.map some)
    (hnd : ((List.range 7).all fun i => (pfNeeds i).all fun j => ((ops[i]?).map fun o => o.after.any fun e => Region.binds .any e && (e.on == j)).getD false) = true)
    (x10 : a0.tmps[10]? = some (.pointer (some ⟨bx, 0, none⟩))) (x9 : a0.tmps[9]? = some (.pointer (some ⟨sb, 0, none⟩)))
    {cs : List Value} (hX : Blk w0 bx 64 C) (hiC : (Try.prog.info? 64).map (·.size) = some C.length) (hB : Blk w0 sb 68 cs) (hD : (cs.drop 0).take 34 = D) (hiD : (Try.prog.info? 64).map (·.size) = some D.length)
    (hF : ∀ w, Calls Try.prog 40 #[.agg C.toArray, .agg D.toArray] w fun e w' => e = .returned (.int .i64 r) ∧ Below w.heap.size w w') :
    ∀ i o, i < 7 → pfS i = false → ops[i]? = some o → o.dst = some (pfD i) → ∀ a w, Base pfD 7 a0 a → Below w0.heap.size w0 w → Region.wanted o (yielded ops a.tmps) = true →
      (∀ j, (o.after.any fun e => Region.binds .any e && (e.on == j)) = true → Has pfD (pfR bx sb C D r) j a w) →
      ∀ K : Act → World → Prop, (∀ v w', pfR bx sb C D r i v w' → Below w.heap.size w w' → K (a.put o.dst v) w') → wpOp Try.prog ops Q i K a w := by
  intro i o hi hs ho hds a w hbase hbl hwt hdep0 K hK
  have hop : some o.op = pfOps[i]? := by
    have h1 : ((List.range 7).map fun i => (ops[i]?).map Oper.op)[i]? = some (some o.op) := by
      rw [List.getElem?_map, List.getElem?_range hi]; simp only [Option.map_some, ho]
    rw [hops, List.getElem?_map] at h1
    cases h2 : pfOps[i]? with
    | none => rw [h2] at h1; cases h1
    | some y => rw [h2] at h1; simp only [Option.map_some, Option.some.injEq] at h1; rw [h1]
  have hdep : ∀ j, j ∈ pfNeeds i → Has pfD (pfR bx sb C D r) j a w := fun j hj => by
    have h1 := List.all_eq_true.1 (List.all_eq_true.1 hnd i (List.mem_range.2 hi)) j hj
    rw [ho] at h1
    exact hdep0 j h1
  clear hdep0 hops hnd
  match i, hi, hs, ho, hop, hds, hdep, hK with
  | 0, _, hs, ho, hop, hds, hdep, hK =>
    have hop : o.op = .load 64 (.tmp 10) := Option.some.inj hop
    have hu10 : a.tmps[10]? = some (.pointer (some ⟨bx, 0, none⟩)) := (hbase.2.2 10 (by decide)).trans x10
    have e10 : a.eval (.tmp 10) = _ := ev_tmp hu10
    refine st3 ho hwt (v := .agg C.toArray) (w' := w) ?_ (hK _ w rfl (Below.refl _ _))
    unfold execOp
    simp only [hop, e10, Instr.loadAt, Instr.sureAddr, Sem.run_bind, Sem.run_pure, Result.andThen_ok, run_loadVar_mid w bx 0 64 C _ ((hX.below hbl hX.lt).range) Try.underlying64 rfl hiC]
  | 1, _, hs, ho, hop, hds, hdep, hK =>
    have hop : o.op = .move (.tmp 9) := Option.some.inj hop
    have hu9 : a.tmps[9]? = some (.pointer (some ⟨sb, 0, none⟩)) := (hbase.2.2 9 (by decide)).trans x9
    have e9 : a.eval (.tmp 9) = _ := ev_tmp hu9
    refine st3 ho hwt (v := _) (w' := w) ?_ (hK _ w rfl (Below.refl _ _))
    unfold execOp
    rw [hop, ← e9]
    rfl
  | 2, _, hs, ho, hop, hds, hdep, hK =>
    have hop : o.op = .nilCheck (.tmp 29) := Option.some.inj hop
    obtain ⟨u29, hu29, hv29⟩ := hdep 1 (by decide)
    have hv29' : u29 = .pointer (some ⟨sb, 0, none⟩) := hv29
    subst hv29'
    have e29 : a.eval (.tmp 29) = _ := ev_tmp hu29
    refine st3 ho hwt (v := .pointer (some ⟨sb, 0, none⟩)) (w' := w) ?_ (hK _ w rfl (Below.refl _ _))
    unfold execOp
    simp only [hop, Option.map_some, Option.map_none, e29]
    first | rfl | (go_simp; done) | (go_simp; simp; done) | (go_simp; intro h; omega)
  | 3, _, hs, ho, hop, hds, hdep, hK =>
    have hop : o.op = .fieldAddr 68 (.tmp 30) 0 := Option.some.inj hop
    obtain ⟨u30, hu30, hv30⟩ := hdep 2 (by decide)
    have hv30' : u30 = .pointer (some ⟨sb, 0, none⟩) := hv30
    subst hv30'
    have e30 : a.eval (.tmp 30) = _ := ev_tmp hu30
    refine st3 ho hwt (v := .pointer (some ⟨sb, 0, none⟩)) (w' := w) ?_ (hK _ w rfl (Below.refl _ _))
    unfold execOp
    simp only [hop, Option.map_some, Option.map_none, e30]
    first | rfl | (go_simp; done) | (go_simp; simp; done) | (go_simp; intro h; omega)
  | 4, _, hs, ho, hop, hds, hdep, hK =>
    have hop : o.op = .load 64 (.tmp 31) := Option.some.inj hop
    obtain ⟨u31, hu31, hv31⟩ := hdep 3 (by decide)
    have hv31' : u31 = .pointer (some ⟨sb, 0, none⟩) := hv31
    subst hv31'
    have e31 : a.eval (.tmp 31) = _ := ev_tmp hu31
    refine st3 ho hwt (v := .agg D.toArray) (w' := w) ?_ (hK _ w rfl (Below.refl _ _))
    unfold execOp
    simp only [hop, e31, Instr.loadAt, Instr.sureAddr, Sem.run_bind, Sem.run_pure, Result.andThen_ok, run_loadVar_mid w sb 0 64 D _ ((hB.below hbl hB.lt).rangeFrom (show _ = D from hD)) Try.underlying64 rfl hiD]
  | 5, _, hs, ho, hop, hds, hdep, hK =>
    have hop : o.op = .call { callee := .value (.func 40), args := #[.tmp 28, .tmp 32], argTypes := #[64, 64] } := Option.some.inj hop
    obtain ⟨u28, hu28, hv28⟩ := hdep 0 (by decide)
    have hv28' : u28 = .agg C.toArray := hv28
    subst hv28'
    have e28 : a.eval (.tmp 28) = _ := ev_tmp hu28
    obtain ⟨u32, hu32, hv32⟩ := hdep 4 (by decide)
    have hv32' : u32 = .agg D.toArray := hv32
    subst hv32'
    have e32 : a.eval (.tmp 32) = _ := ev_tmp hu32
    refine st3_call ho hwt (f := 40) (vals := #[.agg C.toArray, .agg D.toArray]) (Z := fun v w' => v = .int .i64 r ∧ Below w.heap.size w w') ?_ ?_ ?_
    · unfold execOp
      simp only [hop, e28, e32, resolve, invoke, Sem.run_bind, Sem.run_pure, Result.andThen_ok, List.map_toArray, List.map_cons, List.map_nil]
      first | rfl | exact enters_of Try.func40 (by kernel_rfl) rfl _ _
    · exact (hF w).mono fun e w' ⟨he, h2⟩ => ⟨_, he, rfl, h2⟩
    · rintro v w' ⟨h1, h2⟩
      exact hK v w' h1 h2
  | 6, _, hs, ho, hop, hds, hdep, hK =>
    have hop : o.op = .assign (.tmp 33) := Option.some.inj hop
    obtain ⟨u33, hu33, hv33⟩ := hdep 5 (by decide)
    have hv33' : u33 = .int .i64 r := hv33
    subst hv33'
    have e33 : a.eval (.tmp 33) = _ := ev_tmp hu33
    refine st3 ho hwt (v := _) (w' := w) ?_ (hK _ w rfl (Below.refl _ _))
    unfold execOp
    rw [hop, ← e33]
    rfl
  | i + 7, hi, _, _, _, _, _, _ => exact absurd hi (by omega)

theorem num_look {w : World} {U : Nat → Prop} {g : Nat} {σ : St} {ab cap m : Nat} {sb qb rb cb : Nat → Nat} {role : Nat → Nat} (h : StIn w U g σ all8 ab cap m sb qb rb cb role) {seq : Int} (hs : Wf seq) :
    (Instr.lookup 70 (.map (some m)) (.int .i64 seq) false).run Try.prog w = .ok (.pointer ((idx σ seq).map fun i => ⟨sb i, 0, none⟩)) w := by
  have := h.num.look Try.underlying70 (z := .pointer none) (by kernel_rfl) (a := seq) hs
  rw [nums_idx] at this
  refine this.trans ?_
  cases idx σ seq <;> rfl
theorem StIn.ne5 {w : World} {U : Nat → Prop} {g : Nat} {σ : St} {ab cap m : Nat} {sb qb rb cb : Nat → Nat} {role : Nat → Nat} (h : StIn w U g σ all8 ab cap m sb qb rb cb role) {i : Nat} (hi : i < 8) : sb i ≠ qb i ∧ sb i ≠ rb i ∧ sb i ≠ cb i ∧ qb i ≠ rb i ∧ qb i ≠ cb i := by
  obtain ⟨q1, q2, q3, q4⟩ := h.rs i hi rfl
  refine ⟨fun e => ?_, fun e => ?_, fun e => ?_, fun e => ?_, fun e => ?_⟩
  all_goals (first | (rw [e] at q1; omega) | (rw [e] at q2; omega))
theorem StIn.uo {w : World} {U : Nat → Prop} {g : Nat} {σ : St} {ab cap m : Nat} {sb qb rb cb : Nat → Nat} {role : Nat → Nat} (h : StIn w U g σ all8 ab cap m sb qb rb cb role) {i : Nat} (hi : i < 8) : U (sb i) ∧ U (qb i) ∧ U (rb i) ∧ U (cb i) := by
  obtain ⟨q1, q2, q3, q4⟩ := h.rs i hi rfl
  exact ⟨h.u _ (by omega), h.u _ (by omega), h.u _ (by omega), h.u _ (by omega)⟩
theorem spropose_in {w : World} {U : Nat → Prop} {g : Nat} {σ : St} {ab cap m : Nat} {sb qb rb cb : Nat → Nat} {role : Nat → Nat} (h : StIn w U g σ all8 ab cap m sb qb rb cb role) {i : Nat} (hi : i < 8) (now : Vt) (hn : now.ok) :
    Calls Try.prog 41 #[.pointer (some ⟨sb i, 0, none⟩), .agg (sy (some now)).toArray] w fun e w' => e = .returned (.tuple #[]) ∧ StIn w' U g (σ.set i (propSq (σ.s i) now)) all8 ab cap m sb qb rb cb role ∧ Out U w w' := by
  refine (spropose_any (h.s i hi rfl) (h.ok.s i hi) (h.ne5 hi) now hn).mono ?_
  rintro e w' ⟨he, hs, ho⟩
  have hu := h.uo hi
  refine ⟨he, h.set hi ho (fun b hb => hb.elim .inl fun e => .inr (.inl e)) (propSq_ok (h.ok.s i hi) hn) hs, ⟨ho.os, ho.tape, ho.output, ho.size, fun b hb hn => ho.block b hb fun e => hn (e.elim (fun e => by rw [e]; exact hu.1) fun e => by rw [e]; exact hu.2.1)⟩⟩

set_option maxRecDepth 100000 in
set_option maxHeartbeats 3200000 in
theorem propose_in {w : World} {U : Nat → Prop} {g : Nat} {σ : St} {ab cap m : Nat} {sb qb rb cb : Nat → Nat} {role : Nat → Nat} (h : StIn w U g σ all8 ab cap m sb qb rb cb role) (view seq : Int) (hv : Wf view) (hsq : Wf seq) (d : List UInt8) (hd : d.length = 32) (E : Int) (hE : propE σ view seq d = E) :
    Calls Try.prog 20 #[.pointer (some ⟨g, 0, none⟩), .int .i64 view, .int .i64 seq, .agg (cbs d).toArray] w fun e w' => e = .returned (.int .i64 E) ∧ StIn w' U g (propS σ view seq d) all8 ab cap m sb qb rb cb role ∧ Out U w w' := by
  have hU : ∀ i, U i → ¬ (w.heap.size ≤ i) := fun i hi => by have := h.lt i hi; omega
  have b0 : Below w.heap.size w (w.alloc (.cells (cbs d).toArray 39)) := (Below.refl _ _).alloc (Nat.le_refl _) _
  have h0 := h.below b0
  have X0 : Blk (w.alloc (.cells (cbs d).toArray 39)) w.heap.size 39 (cbs d) := Blk.new rfl rfl
  have Hn := Lib.hid (none_in h0)
  have hlook := num_look h0 hsq
  have c3 := h0.blk.cell (i := 3) rfl
  have hdn : (Try.prog.info? 39).map (·.size) = some (cbs d).length := by rw [cbs_length, hd]; exact dig_info
  have HX := Lib.hid (And.intro X0.range hdn)
  have H0 := Lib.hid (And.intro h0 (And.intro b0 X0))
  have H := Lib.hid h
  cases hvb : viewB view with
  | false =>
    have hE' : E = 190 := by rw [← hE]; unfold propE; rw [hvb]; rfl
    have hS' : Hid (propS σ view seq d = σ) := by show _ = _; unfold propS; rw [if_pos (by rw [hE, hE']; decide)]
    subst hE'
    have Hv := Lib.hid (isView_any view false hvb)
    clear hlook c3 hdn h0 b0 X0 h hE hvb
    generalize hD : cbs d = D at *
    go_enter Try.func20, Try.ntmps20
    go_wp2_with (first
      | (go_at_call 38; refine Hn.out.mono ?_; rintro e w' ⟨rfl, rfl⟩)
      | (go_at_call 39; refine (Hv.out _).mono ?_; rintro e w' ⟨rfl, rfl⟩))
    go_ret
    refine ⟨rfl, ?_, Out.ofBelow U H0.out.2.1⟩
    rw [hS'.out]
    exact H0.out.1
  | true =>
    have Hv := Lib.hid (isView_any view true hvb)
    cases hix : idx σ seq with
    | none =>
      have hE' : E = 150 := by rw [← hE]; unfold propE; rw [hvb, hix]; rfl
      have hS' : Hid (propS σ view seq d = σ) := by show _ = _; unfold propS; rw [if_pos (by rw [hE, hE']; decide)]
      subst hE'
      rw [hix] at hlook
      simp only [Option.map_none] at hlook
      clear hdn h0 b0 X0 h hE hvb hix
      generalize hD : cbs d = D at *
      go_enter Try.func20, Try.ntmps20
      go_wp2_with (first
        | (go_at_call 38; refine Hn.out.mono ?_; rintro e w' ⟨rfl, rfl⟩)
        | (go_at_call 39; refine (Hv.out _).mono ?_; rintro e w' ⟨rfl, rfl⟩))
      go_ret
      refine ⟨rfl, ?_, Out.ofBelow U H0.out.2.1⟩
      rw [hS'.out]
      exact H0.out.1
    | some i =>
      have hi8 := (idx_lt hix).1
      have hnow : (⟨view, d⟩ : Vt).ok := view_ok hvb hd
      have hon : okO (some (⟨view, d⟩ : Vt)) := fun y hy => by injection hy with hy; rw [← hy]; exact hnow
      have hfol : fol (σ.s i).last ⟨view, d⟩ = E := by rw [← hE]; unfold propE; rw [hvb, hix]; rfl
      rw [hix] at hlook
      simp only [Option.map_some] at hlook
      obtain ⟨w1, hw1, ⟨hth, hi1⟩, hb1, hbe, hs1⟩ := row_local (w.alloc (.cells (cbs d).toArray 39)) 64 (sy none) (sy (some ⟨view, d⟩)) (by rw [sy_len hon]; rfl) say_info
      have h1 := h0.below hbe
      have b1 : Below w.heap.size w w1 := b0.trans (hbe.mono b0.size)
      have hone : (sy (some (⟨view, d⟩ : Vt))).toArray.all (·.oneCell') = true := sy_one _
      have hbu := built_say view d hd
      have hsn : (Try.prog.info? 64).map (·.size) = some (sy (some (⟨view, d⟩ : Vt))).length := say_infoL hon
      have HB := Lib.hid (And.intro hth (And.intro hi1 (And.intro hone (And.intro hbu (And.intro hb1 (And.intro h1 (And.intro b1 hsn)))))))
      have Hw1 := Lib.hid hw1
      have HN := Lib.hid (And.intro hnow (And.intro hfol (And.intro hi8 (And.intro hE (And.intro hix hon)))))
      clear hdn h0 b0 X0 h hE hvb hix hnow hfol hw1 hth hi1 hb1 hbe hs1 h1 b1 hone hbu hsn hon
      generalize hC : sy (some (⟨view, d⟩ : Vt)) = C at *
      generalize hD : cbs d = D at *
      have hsz : (w.alloc (.cells D.toArray 39)).heap.size = w.heap.size + 1 := by simp
      rw [hsz] at Hw1 HB
      generalize hsi : sb i = s at *
      go_enter Try.func20, Try.ntmps20
      go_wp2_with (first
        | (go_at_call 38; refine Hn.out.mono ?_; rintro e w' ⟨rfl, rfl⟩)
        | (go_at_call 39; refine (Hv.out _).mono ?_; rintro e w' ⟨rfl, rfl⟩)
        | (refine wpList_load_mid rfl 39 _ rfl w.heap.size 0 rfl D _ HX.out.1 Try.underlying39 rfl HX.out.2 ?_; simp only [Act.put])
        | (refine wpList_build_g rfl 64 _ rfl C.toArray HB.out.2.2.2.1 ?_; simp only [Act.put])
        | (refine wpList_store_mid rfl 64 _ _ rfl (w.heap.size + 1) 0 C.toArray rfl rfl HB.out.1 HB.out.2.1 HB.out.2.2.1 ?_; simp only [Act.put]; refine cast (congrArg (fun z => wpList _ _ _ _ _ z) Hw1.out.symm) ?_))
      have hs1 := HB.out.2.2.2.2.2.1.s i HN.out.2.2.1 rfl
      rw [hsi] at hs1
      have hok1 := HB.out.2.2.2.2.2.1.ok.s i HN.out.2.2.1
      obtain ⟨hq, _⟩ := sq_cells hok1.last hok1.p (.map (some (qb i))) (.map (some (rb i))) (.map (some (cb i)))
      have Hq := Lib.hid hq
      have Hs := Lib.hid (And.intro hs1.blk (say_infoL hok1.last))
      have HFo := Lib.hid (fun W => mayFollow_any HN.out.1 hok1.last W E HN.out.2.1)
      unfold syA at HFo
      rw [hC] at HFo
      clear hs1 hok1 hq
      refine region_rule4 (P := Try.prog) 7 43 pfD pfG pfS (pfR (w.heap.size + 1) s C _ E) _ _ (by kernel_rfl) rfl rfl (by kernel_rfl) (by decide +kernel) (pf_gb (w.heap.size + 1) s C _ E) (pf_sk (w.heap.size + 1) s C _ E) (pf_on (w.heap.size + 1) s C _ E) (pf_step (w.heap.size + 1) s C _ E (by rfl) (by kernel_rfl) rfl rfl HB.out.2.2.2.2.1 HB.out.2.2.2.2.2.2.2 Hs.out.1 Hq.out Hs.out.2 HFo.out) ?fin
      case fin =>
        intro a w6 hbase hbl hall
        obtain ⟨v11, hv11, hR11⟩ := hall 6 (by decide)
        have hR11' : v11 = .int .i64 E := hR11
        subst hR11'
        obtain ⟨g, hge, hg⟩ := base_lit hbase [28, 29, 30, 31, 32, 33, 11] (by rfl)
        have q11 : g 11 = .int .i64 E := hge 11 _ hv11
        simp only [List.foldl_cons, List.foldl_nil, List.setIfInBounds_toArray, List.set_cons_zero, List.set_cons_succ, q11] at hg
        rw [hg]
        have h6 := HB.out.2.2.2.2.2.1.below hbl
        have b6 := HB.out.2.2.2.2.2.2.1.trans (hbl.mono HB.out.2.2.2.2.2.2.1.size)
        have X6 := HB.out.2.2.2.2.1.below hbl HB.out.2.2.2.2.1.lt
        have H6 := Lib.hid (And.intro h6 (And.intro b6 (And.intro X6.range X6)))
        clear h6 b6 X6 hall hbase hbl
        by_cases h0 : E = 0
        · subst h0
          have HS := Lib.hid (spropose_in H6.out.1 HN.out.2.2.1 ⟨view, d⟩ HN.out.1)
          rw [hC, hsi] at HS
          go_wp2_with (refine wpList_load_mid rfl 64 _ rfl (w.heap.size + 1) 0 rfl C _ H6.out.2.2.1 Try.underlying64 rfl HB.out.2.2.2.2.2.2.2 ?_; simp only [Act.put])
          refine HS.out.mono ?_
          rintro e w7 ⟨rfl, h7, o7⟩
          have HL := Lib.hid (look_in h7 HN.out.2.2.1)
          rw [hsi] at HL
          have O7 := Lib.hid o7
          clear h7 o7
          go_wp2_with fail
          refine HL.out.mono ?_
          rintro e w8 ⟨rfl, h8, o8⟩
          rw [set_at, look_set, set_set] at h8
          have H8 := Lib.hid (And.intro h8 o8)
          clear h8 o8
          go_wp2
          go_ret
          refine ⟨rfl, ?_, ((Out.ofBelow U H6.out.2.1).trans O7.out fun _ _ e => e).trans H8.out.2 fun _ _ e => e⟩
          have hS' : propS σ view seq d = σ.set i (lookS σ (propSq (σ.s i) ⟨view, d⟩)) := by unfold propS; rw [HN.out.2.2.2.1, HN.out.2.2.2.2.1]; rfl
          rw [hS']
          exact H8.out.1
        · have hne : (E != 0) = true := by simp [h0]
          go_wp2
          go_ret
          refine ⟨rfl, ?_, Out.ofBelow U H6.out.2.1⟩
          have hS' : propS σ view seq d = σ := by unfold propS; rw [HN.out.2.2.2.1, if_pos h0]
          rw [hS']
          exact H6.out.1
end Go.Proofs.Ytmdgcimjmmnbjaa
