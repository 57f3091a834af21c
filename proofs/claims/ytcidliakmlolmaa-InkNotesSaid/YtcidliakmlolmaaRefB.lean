/-
  The document's book: New, Len, Asked, Of, over the document's text.
-/
import Derived.Test.YtcidliakmlolmaaWorks3
import Derived.Test.YtcidliakmlolmaaLocal
import Derived.Test.YtcidliakmlolmaaRefOf
import Derived.Test.YtcidliakmlolmaaAnyOrder
import Derived.Maps.AppendAt
namespace Go.Proofs.Ytcidliakmlolmaa
open Go.RowKit Go.Maps
set_option linter.unusedVariables false

/-- The document's book in memory: 'S' its blocks, 'v' its row of inputs. -/
structure RefBk (w : World) (S : Nat → Prop) (g : Nat) (v : Value) (L : List (List UInt8)) (k : Nat) : Prop where
  blk : Blk w g 47 [v, .int .i64 (k : Int)]
  own : S g
  lt : ∀ i, S i → i < w.heap.size
  row : Keeps w S v L

section
variable {w w' W w1 : World} {S S' : Nat → Prop} {g k : Nat} {v : Value} {L : List (List UInt8)} {x : List UInt8}
theorem RefBk.stay (h : RefBk w S g v L k) (hz : w.heap.size ≤ w'.heap.size) (hk : ∀ i, S i → w'.heap[i]? = w.heap[i]?) : RefBk w' S g v L k :=
  ⟨(hk g h.own).trans h.blk, h.own, fun i hi => Nat.lt_of_lt_of_le (h.lt i hi) hz, h.row.stay (fun _ e => e) (fun i _ hi _ => hk i hi) (fun b _ _ hi _ => hk b hi)⟩
theorem RefBk.below (h : RefBk w S g v L k) (hb : Below w.heap.size w w') : RefBk w' S g v L k := h.stay hb.size fun i hi => hb.block i (h.lt i hi)
theorem RefBk.more (h : RefBk w S g v L k) (hS : ∀ i, S i → S' i) (hb : ∀ i, S' i → i < w.heap.size) : RefBk w S' g v L k :=
  ⟨h.blk, hS g h.own, hb, h.row.stay hS (fun _ _ _ _ => rfl) (fun _ _ _ _ _ => rfl)⟩
theorem RefBk.count (h : RefBk w S g v L k) : RefBk (w.setCell ⟨g, 1, none⟩ (.int .i64 ((k : Int) + 1))) S g v L (k + 1) := by
  have far : ∀ (i : Nat) (cs : Array Value) (t : TypeId) (fr : Nat × Nat), w.heap[i]? = some (.cells cs t fr) → t ≠ 47 → (w.setCell ⟨g, 1, none⟩ (.int .i64 ((k : Int) + 1))).heap[i]? = w.heap[i]? := fun i cs t fr hc ht => by
    refine Below.heap_setCell w _ _ i ?_
    rintro rfl
    have hb := h.blk
    unfold Blk at hb
    rw [hc] at hb
    injection hb with hb
    injection hb with _ hb
    exact ht hb
  exact ⟨by rw [Int.natCast_succ]; exact h.blk.set_ 1 _, h.own, fun i hi => by simpa [World.setCell] using h.lt i hi, h.row.stay (fun _ e => e) (fun i cs _ hc => far i _ _ _ hc (by decide)) (fun b cs _ _ hc => far b _ _ _ hc (by decide))⟩

theorem rput_run {v : Value} (h : Blk W g 47 [v, .int .i64 (k : Int)]) (hS : S g) (hlt : ∀ i, S i → i < W.heap.size) (hK : Keeps W S v L) (hL : L.length < 1000000) {hd : Value} (hN : NewB W x hd w1) :
    ∃ v' w3, (∃ A n c, v' = .slice A n c) ∧ ((w1.cell? ⟨g, 0, none⟩ = some v) ∧ ((w1.alloc (.cells #[hd] 32)).cell? ⟨g, 0, none⟩ = some v) ∧ (Builtin.append_ #[22, 22] 22 #[v, .slice (some ⟨w1.heap.size, 0, none⟩) 1 1]).run Try.prog (w1.alloc (.cells #[hd] 32)) = .ok v' w3) ∧
      w3.cell? ⟨g, 0, none⟩ = some v ∧ w3.frozen? ⟨g, 0, none⟩ = false ∧ W.heap.size ≤ w3.heap.size ∧ RefBk (w3.setCell ⟨g, 0, none⟩ v') (Grown S W w3) g v' (L ++ [x]) k ∧ Out S W (w3.setCell ⟨g, 0, none⟩ v') := by
  obtain ⟨cs, k1, k2, k3, k4⟩ := hK
  obtain ⟨Ax, cx, rfl, _, _, _⟩ := hN.form
  have hb2 : Below W.heap.size W (w1.alloc (.cells #[Value.slice Ax x.length cx] 32)) := hN.2.alloc hN.2.size _
  have bound : ∀ (b : Nat) (c : Obj), W.heap[b]? = some c → b < W.heap.size := fun b c hc => by
    rcases Nat.lt_or_ge b W.heap.size with h | h
    · exact h
    · rw [Array.getElem?_eq_none h] at hc; cases hc
  have hown : (w1.alloc (.cells #[Value.slice Ax x.length cx] 32)).ownsRow 0 32 1 v L.length cs := row_stay k1 fun b c _ hc => hb2.block b (bound b _ hc)
  obtain ⟨i0, hi, hz0, hz1, hz2⟩ := info_parts sl_info
  obtain ⟨v', w3, h1, h2, h3, _, h5⟩ := run_append_own_at (P := Try.prog) (w1.alloc (.cells #[Value.slice Ax x.length cx] 32)) 0 22 22 32 i0 _ 1 24 Try.underlying22 hi hz0 hz1 hz2 rfl (by decide) v L.length cs hown ⟨w1.heap.size, 0, none⟩ 1 1 [.slice Ax x.length cx]
    rfl (fun j u hu => by
      match j with
      | 0 =>
        simp only [List.getElem?_cons_zero, Option.some.injEq] at hu
        subst hu
        exact (show Blk (w1.alloc (.cells #[Value.slice Ax x.length cx] 32)) w1.heap.size 32 [.slice Ax x.length cx] from Blk.new rfl rfl).cell rfl
      | j + 1 => simp at hu) (fun u hu => by simp at hu; subst hu; rfl) (by simp only [maxLen]; omega) (by omega) (Nat.zero_le _)
  have hform : ∃ A n c, v' = .slice A n c := by
    obtain ⟨_, ⟨rfl, _⟩ | ⟨gg, cap, cur, rfl, _⟩⟩ := h2
    · exact ⟨_, _, _, rfl⟩
    · exact ⟨_, _, _, rfl⟩
  have hvS : ∀ b, v.ownBlock = some b → b < W.heap.size := fun b hb => hlt b (k2 b hb)
  have hvT : ∀ b, v.ownBlock = some b → ∃ c, W.heap[b]? = some (.cells c 32 (0, 0)) := fun b hb => row_block k1 hb
  have same : ∀ (i : Nat) (c : Array Value) (t : TypeId), W.heap[i]? = some (.cells c t (0, 0)) → t ≠ 32 → w3.heap[i]? = W.heap[i]? := fun i c t hc ht =>
    (h3.block i (Nat.lt_of_lt_of_le (bound i _ hc) hb2.size) fun e => by
      obtain ⟨c', hc'⟩ := hvT i e.symm
      rw [hc] at hc'
      injection hc' with hc'
      injection hc' with _ hc'
      exact ht hc').trans (hb2.block i (bound i _ hc))
  have hg3 : Blk w3 g 47 [v, .int .i64 (k : Int)] := (same g _ _ h (by decide)).trans h
  have hg2 : Blk (w1.alloc (.cells #[Value.slice Ax x.length cx] 32)) g 47 [v, .int .i64 (k : Int)] := h.below hb2 h.lt
  have hg1 : Blk w1 g 47 [v, .int .i64 (k : Int)] := h.below hN.2 h.lt
  have hsz : W.heap.size ≤ w3.heap.size := Nat.le_trans hb2.size h3.size
  have hs4 : (w3.setCell ⟨g, 0, none⟩ v').heap.size = w3.heap.size := by simp [World.setCell]
  have set4 : ∀ i, i ≠ g → (w3.setCell ⟨g, 0, none⟩ v').heap[i]? = w3.heap[i]? := fun i hi => Below.heap_setCell w3 ⟨g, 0, none⟩ v' i hi
  have notg : ∀ (i : Nat) (c : Array Value) (t : TypeId), w3.heap[i]? = some (.cells c t (0, 0)) → t ≠ 47 → i ≠ g := fun i c t hc ht e => by
    subst e
    unfold Blk at hg3
    rw [hg3] at hc
    injection hc with hc
    injection hc with _ hc
    exact ht hc.symm
  have row4 : (w3.setCell ⟨g, 0, none⟩ v').ownsRow 0 32 1 v' (L.length + 1) (cs ++ [Value.slice Ax x.length cx]) := row_stay h2 fun b c hb hc => set4 b (notg b c _ hc (by decide))
  have hcl : cs.length = L.length := by have := k1.1; omega
  refine ⟨v', w3, hform, ⟨hg1.cell rfl, hg2.cell rfl, h1⟩, hg3.cell rfl, hg3.free 0, hsz, ⟨hg3.set_ 0 v', .inl hS, fun i hi => ?_, ⟨cs ++ [Value.slice Ax x.length cx], by rw [List.length_append]; exact row4, fun b hb => ?_, fun e => by simp at e, fun j y hy => ?_⟩⟩, ?_⟩
  · rw [hs4]
    rcases hi with hi | hi
    · exact Nat.lt_of_lt_of_le (hlt i hi) hsz
    · exact hi.2
  · rcases h5 with e | e
    · exact .inl (k2 b (e ▸ hb))
    · have hlt3 := (h2.lt b hb).2
      rw [e] at hb
      injection hb with hb
      subst hb
      exact .inr ⟨hb2.size, hlt3⟩
  · by_cases hj : j < L.length
    · rw [List.getElem?_append_left hj] at hy
      obtain ⟨hh, e, hhd0⟩ := k4 j y hy
      refine ⟨hh, by rw [List.getElem?_append_left (by omega)]; exact e, hhd0.stay (fun i hi => .inl hi) fun i c _ hc => ?_⟩
      have e3 := same i _ _ hc (by decide)
      exact (set4 i (notg i c _ (e3.trans hc) (by decide))).trans e3
    · rw [List.getElem?_append_right (by omega)] at hy
      have hj0 : j - L.length = 0 := by
        rcases Nat.eq_zero_or_pos (j - L.length) with h | h
        · exact h
        · rw [List.getElem?_eq_none (by simp; omega)] at hy; cases hy
      rw [hj0] at hy
      injection hy with hy
      subst hy
      refine ⟨.slice Ax x.length cx, by rw [List.getElem?_append_right (by omega), hcl, hj0]; rfl, ?_, fun b hb => ?_⟩
      · refine row_stay (row_base hN.1 (Nat.zero_le _)) fun b c hb hc => ?_
        have hlt1 := World.ownsRow.lt hN.1 b hb
        have e2 : (w1.alloc (.cells #[Value.slice Ax x.length cx] 32)).heap[b]? = w1.heap[b]? := heap_alloc_old _ _ hlt1.2
        have e3 : w3.heap[b]? = (w1.alloc (.cells #[Value.slice Ax x.length cx] 32)).heap[b]? := h3.block b (by rw [World.size_alloc]; omega) fun e => by have := hvS b e.symm; omega
        exact (set4 b (notg b c _ (e3.trans (e2.trans hc)) (by decide))).trans (e3.trans e2)
      · have hlt1 := World.ownsRow.lt hN.1 b hb
        exact .inr ⟨hlt1.1, by have h4 := h3.size; rw [World.size_alloc] at h4; omega⟩
  · exact Out.setCell (p := ⟨g, 0, none⟩) (((Out.refl S W).then_below hb2).then_grown h3 fun i hi _ => k2 i hi) (fun _ => hS) v'
end

section
variable {ops : Array Oper} {Q : Exit → Act → World → Prop}
theorem op_appendS {i d : Nat} {oi : Oper} {a : Act} {w : World} {K : Act → World → Prop} (hi : ops[i]? = some oi) (hd : oi.dst = some d) (hgd : oi.guard = none) (s x : Operand)
    (ho : oi.op = .call { callee := .builtin .append, args := #[s, x], argTypes := #[22, 22] }) (v xs v' : Value) (w' : World) (hs : a.eval s = v) (hx : a.eval x = xs)
    (hrun : (Builtin.append_ #[22, 22] oi.type #[v, xs]).run Try.prog w = .ok v' w') (h : K { a with tmps := a.tmps.setIfInBounds d v' } w') : wpOp Try.prog ops Q i K a w := by
  refine wpOp_step hi (fun K' hK => ?_)
  have hw : Region.wanted oi (yielded ops a.tmps) = true := by simp [Region.wanted, hgd]
  rw [if_pos hw]
  unfold Oper.wp execOp
  simp only [ho, resolve, invoke, builtin, Sem.run_bind, Sem.run_pure, Result.andThen_ok, List.map_toArray, List.map_cons, List.map_nil, hs, hx, hrun]
  exact hK _ _ (by unfold Act.put; rw [hd]; exact h)
end

theorem rbnew_any (w : World) : Calls Try.prog 5 #[] w fun e w' => ∃ g, e = .returned (.pointer (some ⟨g, 0, none⟩)) ∧ g = w.heap.size ∧ RefBk w' (fun i => i = g) g nilS [] 0 ∧ Below w.heap.size w w' := by
  go_enter Try.func5, Try.ntmps5
  go_wp2
  go_ret
  exact ⟨w.heap.size, rfl, rfl, ⟨Blk.new rfl rfl, rfl, fun i hi => by subst hi; simp, Keeps.nil _ _⟩, (Below.refl _ _).alloc (Nat.le_refl _) _⟩

theorem rblen_any {w : World} {S : Nat → Prop} {g k : Nat} {v : Value} {L : List (List UInt8)} (h : RefBk w S g v L k) : Calls Try.prog 11 #[.pointer (some ⟨g, 0, none⟩)] w fun e w' => e = .returned (.int .i64 (L.length : Int)) ∧ w' = w := by
  obtain ⟨A, c, rfl, _, _⟩ := h.row.form
  have c0 := h.blk.cell (i := 0) rfl
  clear h
  generalize L.length = n at *
  go_enter Try.func11, Try.ntmps11
  go_wp2
  go_ret
  exact ⟨rfl, rfl⟩
theorem rbasked_any {w : World} {S : Nat → Prop} {g k : Nat} {v : Value} {L : List (List UInt8)} (h : RefBk w S g v L k) : Calls Try.prog 13 #[.pointer (some ⟨g, 0, none⟩)] w fun e w' => e = .returned (.int .i64 (k : Int)) ∧ w' = w := by
  have c0 := h.blk.cell (i := 1) rfl
  clear h
  go_enter Try.func13, Try.ntmps13
  go_wp2
  go_ret
  exact ⟨rfl, rfl⟩

/-- What Of makes of the document's book. -/
def rofL (L : List (List UInt8)) (k : Nat) (x : List UInt8) : List (List UInt8) × Nat := if x.length ≤ 65536 then (if x ∈ L then L else L ++ [x], k + 1) else (L, k)
def RofPost (w : World) (S : Nat → Prop) (g : Nat) (L : List (List UInt8)) (k : Nat) (x : List UInt8) (w' : World) : Prop := ∃ v', RefBk w' (Grown S w w') g v' (rofL L k x).1 (rofL L k x).2 ∧ Out S w w'

section
variable {ops : Array Oper} {Q : Exit → Act → World → Prop}
theorem wpList_alloc_z {rest : List Oper} {o : Oper} {a : Act} {w : World} (hg : o.guard = none) (ty : TypeId) (ho : o.op = .alloc ty) (Z : List Value)
    (hz : ∀ w : World, (Instr.alloc ty true (.tuple #[])).run Try.prog w = .ok (.pointer (some ⟨w.heap.size, 0, none⟩)) (w.alloc (.cells Z.toArray ty)))
    (h : wpList Try.prog ops Q rest (a.put o.dst (.pointer (some ⟨w.heap.size, 0, none⟩))) (w.alloc (.cells Z.toArray ty))) : wpList Try.prog ops Q (o :: rest) a w :=
  wpList_plain hg fun _ hK => by
    unfold Oper.wp execOp
    simp only [ho, Sem.run_bind, hz, Result.andThen_ok, Sem.run_pure]
    exact hK _ _ h
end
theorem alloc_z : ∃ Z : List Value, cbs (List.replicate 32 0) = Z ∧ ∀ w : World, (Instr.alloc 28 true (.tuple #[])).run Try.prog w = .ok (.pointer (some ⟨w.heap.size, 0, none⟩)) (w.alloc (.cells Z.toArray 28)) :=
  ⟨_, rfl, fun w => by kernel_rfl⟩

theorem rof_there {W : World} {gz : Nat} {D : List Value} (hZ : Blk W gz 28 (cbs (List.replicate 32 0))) (hD : D.length = 32) : (W.there gz 0 D.toArray.size ∧ (Try.prog.info? 28).map (·.size) = some D.toArray.size) ∧ Blk (W.setCells gz 0 D) gz 28 D := by
  have hsD : D.toArray.size = 32 := by rw [List.size_toArray]; exact hD
  refine ⟨⟨?_, by rw [hsD]; exact info32b⟩, hZ.setAll (vs := D) (by rw [hD, cbs_length, List.length_replicate])⟩
  have e := hZ.there
  rw [cbs_length, List.length_replicate] at e
  rw [hsD]; exact e
theorem rof_post {w W : World} {S S' : Nat → Prop} {g k : Nat} {v : Value} {L : List (List UInt8)} (D : List Value) (hS : ∀ i, S i → i < w.heap.size) (hR : RefBk W S' g v L k) (hS' : ∀ i, S' i → S i ∨ w.heap.size < i ∧ i < W.heap.size) (hO : Out S w W) :
    RefBk (W.setCells w.heap.size 0 D) (Grown S w (W.setCells w.heap.size 0 D)) g v L k ∧ Out S w (W.setCells w.heap.size 0 D) := by
  have hbs : But w.heap.size W (W.setCells w.heap.size 0 D) := But.setCells (.inl rfl) D (But.refl _ _)
  have hsz := hbs.size
  refine ⟨RefBk.more (S := fun i => S' i ∨ (Grown S w (W.setCells w.heap.size 0 D) i ∧ False)) ((hR.stay hsz fun i hi => hbs.block i (hR.lt i hi) fun e => ?_).more (fun i hi => .inl hi) (fun i hi => ?_)) (fun i hi => ?_) (fun i hi => ?_), hO.then_grown hbs fun i hi h => by injection hi with hi; omega⟩
  · have e' : w.heap.size = i := (Option.some.inj e).symm
    rcases hS' i hi with h | h
    · have := hS i h; omega
    · omega
  · rcases hi with hi | hi
    · exact Nat.lt_of_lt_of_le (hR.lt i hi) hsz
    · exact hi.2.elim
  · rcases hi with hi | hi
    · rcases hS' i hi with h | h
      · exact .inl h
      · exact .inr ⟨by omega, by omega⟩
    · exact hi.2.elim
  · rcases hi with hi | hi
    · exact Nat.lt_of_lt_of_le (hS i hi) (Nat.le_trans hO.size hsz)
    · exact hi.2

/-- What stands while the inputs are looked through. -/
def RHalf (w : World) (S : Nat → Prop) (g : Nat) (v : Value) (L : List (List UInt8)) (k : Nat) (A : Option Addr) (x : List UInt8) (gd : Nat) (D : List Value) (wr : World) : Prop :=
  RefBk wr S g v L k ∧ Bs wr A x ∧ Blk wr w.heap.size 28 (cbs (List.replicate 32 0)) ∧ Blk wr gd 28 D ∧ Out S w wr
theorem RHalf.below {w wr w' : World} {S : Nat → Prop} {g k gd : Nat} {v : Value} {L : List (List UInt8)} {A : Option Addr} {x : List UInt8} {D : List Value} (h : RHalf w S g v L k A x gd D wr) (hb : Below wr.heap.size wr w') : RHalf w S g v L k A x gd D w' := by
  obtain ⟨h1, h2, h3, h4, h5⟩ := h
  exact ⟨h1.below hb, h2.after hb, h3.below hb h3.lt, h4.below hb h4.lt, h5.then_below hb⟩

set_option maxRecDepth 100000 in
set_option maxHeartbeats 3200000 in
theorem rof_any (S : Nat → Prop) (g : Nat) (v : Value) (L : List (List UInt8)) (k : Nat) (A : Option Addr) (n cp : Nat) (x : List UInt8) (w : World)
    (h : RefBk w S g v L k) (hL : L.length < 1000000) (hk : k < 1000000) (hB : Bs w A x) (ho : OffS S A x) (hn : x.length = n) (hc : n ≤ cp) (hcm : cp ≤ maxLen) :
    Calls Try.prog 8 #[.pointer (some ⟨g, 0, none⟩), .slice A n cp] w fun e w' =>
      e = .returned (.tuple #[.agg (cbs (ofD x)).toArray, .int .i64 (ofE x)]) ∧ RofPost w S g L k x w' := by
  have b0 : Below w.heap.size w (w.alloc (.cells (cbs (List.replicate 32 0)).toArray 28)) := (Below.refl _ _).alloc (Nat.le_refl _) _
  have hZ0 : Blk (w.alloc (.cells (cbs (List.replicate 32 0)).toArray 28)) w.heap.size 28 (cbs (List.replicate 32 0)) := Blk.new rfl rfl
  have hSlt := h.lt
  by_cases hle : x.length ≤ 65536
  rotate_left
  · have e1 : rofL L k x = (L, k) := if_neg hle
    have e2 : ofD x = List.replicate 32 0 := if_neg hle
    have e3 : ofE x = 5 := if_neg hle
    have hgt : (65536 : Int) < n := by omega
    obtain ⟨hth, hR⟩ := rof_there hZ0 (D := cbs (List.replicate 32 0)) (by rw [cbs_length, List.length_replicate])
    have hp := rof_post (W := w.alloc (.cells (cbs (List.replicate 32 0)).toArray 28)) (cbs (List.replicate 32 0)) hSlt (h.below b0) (fun i hi => .inl hi) (Out.ofBelow S b0)
    have Hp := Lib.hid (show RofPost w S g L k x ((w.alloc (.cells (cbs (List.replicate 32 0)).toArray 28)).setCells w.heap.size 0 (cbs (List.replicate 32 0))) from ⟨v, by rw [e1]; exact hp.1, hp.2⟩)
    rw [e2, e3]
    have Hb := Lib.hid (And.intro hth hR)
    clear h e1 e2 e3 hB hn hc hcm b0 hZ0 hth hR hp ho
    go_enter Try.func8, Try.ntmps8
    go_wp2_with (refine wpList_store_mid rfl 28 _ _ rfl w.heap.size 0 (cbs (List.replicate 32 0)).toArray rfl rfl Hb.out.1.1 info32b (cbs_one' _) ?_)
    refine bodyPost_ret (results_row_tmp rfl _ _ w.heap.size 28 (cbs (List.replicate 32 0)).toArray (0, 0) _ rfl Hb.out.2 Try.underlying28 rfl info32b) rfl ?_
    exact ⟨rfl, Hp.out⟩
  · have e2 : ofD x = digest x := if_pos hle
    have e3 : ofE x = 0 := if_pos hle
    rw [e2, e3]
    obtain ⟨Z, hZe, hza⟩ := alloc_z
    rw [hZe] at b0 hZ0
    have hgt : (n : Int) ≤ 65536 := by omega
    have hn6 : n ≤ 65536 := by omega
    obtain ⟨D, hD32, hDv, hD1⟩ : ∃ D : List Value, D.length = 32 ∧ cbs (digest x) = D ∧ D.toArray.all (·.oneCell') = true := ⟨cbs (digest x), by rw [cbs_length, dlen], rfl, cbs_one' _⟩
    rw [hDv]
    have hgw : g < w.heap.size := hSlt g h.own
    obtain ⟨Ar, cr, rfl, hcr, hcrm⟩ := h.row.form
    have hra := h.below b0
    have c1 : w.cell? ⟨g, 1, none⟩ = some (.int .i64 (k : Int)) := h.blk.cell rfl
    have f1 : w.frozen? ⟨g, 1, none⟩ = false := h.blk.free 1
    have hb1 : Below (w.setCell ⟨g, 1, none⟩ (.int .i64 ((k : Int) + 1))).heap.size (w.setCell ⟨g, 1, none⟩ (.int .i64 ((k : Int) + 1))) ((w.setCell ⟨g, 1, none⟩ (.int .i64 ((k : Int) + 1))).alloc (.cells Z.toArray 28)) := (Below.refl _ _).alloc (Nat.le_refl _) _
    have hrc := h.count.below hb1
    have hOc : Out S w ((w.setCell ⟨g, 1, none⟩ (.int .i64 ((k : Int) + 1))).alloc (.cells Z.toArray 28)) := (Out.setCell (p := ⟨g, 1, none⟩) (Out.refl S w) (fun _ => h.own) _).then_below hb1
    have hZc : Blk ((w.setCell ⟨g, 1, none⟩ (.int .i64 ((k : Int) + 1))).alloc (.cells Z.toArray 28)) w.heap.size 28 Z := Blk.new rfl (by simp [World.setCell])
    have hBc := Bs.out hB ho hOc
    have hro := refOf_any A cp n x _ hBc hn (by omega)
    rw [hDv] at hro
    have Hro := Lib.hid hro
    have Hc := Lib.hid (And.intro hrc (And.intro hOc (And.intro hZc hBc)))
    have HD := Lib.hid (And.intro hD32 (And.intro hDv hD1))
    have Hn := Lib.hid (And.intro hn (And.intro hc hcm))
    have HS := Lib.hid hSlt
    clear hcr hcrm
    have hk0 : (0 : Int) ≤ k := by omega
    have hk1 : (k : Int) ≤ 140737488355328 := by omega
    clear hk
    clear h hra hb1 hrc hOc hZc hBc hro hD32 hDv hD1 hB ho hn hc hcm b0 hZ0 hSlt e2 e3
    go_enter Try.func8, Try.ntmps8
    have Hza := Lib.hid hza
    have HZe := Lib.hid hZe
    clear hza hZe
    go_wp2_with (refine wpList_alloc_z rfl 28 rfl Z Hza.out ?_; simp only [Act.put])
    refine Hro.out.mono ?_
    rintro e wq ⟨rfl, hbq⟩
    obtain ⟨wS, hwS, hti, hdS, hbS, hszS⟩ := dig_local wq D HD.out.1
    have hH0 : RHalf w S g (.slice Ar L.length cr) L (k + 1) A x wq.heap.size D wS := ⟨(Hc.out.1.below hbq).below hbS, (Hc.out.2.2.2.after hbq).after hbS, by rw [HZe.out]; exact (Hc.out.2.2.1.below hbq Hc.out.2.2.1.lt).below hbS (Nat.lt_of_lt_of_le Hc.out.2.2.1.lt hbq.size), hdS, (Hc.out.2.1.then_below hbq).then_below hbS⟩
    have hgd : w.heap.size < wq.heap.size := Nat.lt_of_lt_of_le Hc.out.2.2.1.lt hbq.size
    have HH := Lib.hid hH0
    have Hti := Lib.hid hti
    have HwS := Lib.hid hwS
    clear hH0 hti hwS hdS hbS hszS hbq c1 f1
    generalize hN : L.length = N at *
    go_wp2_with (refine wpList_store_mid rfl 28 _ _ rfl wq.heap.size 0 D.toArray rfl rfl Hti.out.1 Hti.out.2 HD.out.2.2 ?_; simp only [Act.put]; refine cast (congrArg (fun z => wpList _ _ _ _ _ z) HwS.out.symm) ?_)
    obtain ⟨gd, hgdE⟩ : ∃ gd, wq.heap.size = gd := ⟨_, rfl⟩
    rw [hgdE] at HH hgd ⊢
    go_loopw [7] (fun v wr => ∃ j : Nat, j ≤ N ∧ v = .int .i64 j ∧ (∀ y ∈ L.take j, y ≠ x) ∧ RHalf w S g (.slice Ar N cr) L (k + 1) A x gd D wr) (fun v _ => N - (intOf v).toNat)
    case atStart => exact ⟨0, Nat.zero_le _, rfl, by simp, HH.out⟩
    case round =>
      obtain ⟨j, hj, rfl, hne, hH⟩ := hrel
      have c0 : wr.cell? ⟨g, 0, none⟩ = some (.slice Ar N cr) := hH.1.blk.cell rfl
      have hi0 : (0 : Int) ≤ j := by omega
      have hgS : ¬ S gd := fun e => by have := HS.out gd e; omega
      have hzS : ¬ S w.heap.size := fun e => by have := HS.out _ e; omega
      have hi32 : (Try.prog.info? 28).map (·.size) = some D.toArray.size := by rw [List.size_toArray, HD.out.1]; exact info32b
      have Hi := Lib.hid hi32
      clear hi32
      by_cases hlt : j < N
      · obtain ⟨b, Ax, cx, cr', hv, hcell, hlx, hcx, hBx⟩ := hH.1.row.at_ (j := j) (by omega)
        rw [hN] at hv
        injection hv with hv1 _ hv3
        subst hv1
        subst hv3
        have hjg : j < L.length := by omega
        obtain ⟨y, hy⟩ : ∃ y, y = L[j] := ⟨_, rfl⟩
        rw [← hy] at hcell hlx hBx
        obtain ⟨ny, hny⟩ : ∃ ny, y.length = ny := ⟨_, rfl⟩
        rw [hny] at hcell hlx
        have heq := eqBytes Ax A cx cp ny n y x _ hBx hH.2.1 hny Hn.out.1 (Nat.le_trans hlx hcx) (Nat.le_trans Hn.out.2.1 Hn.out.2.2)
        have hi1 : (j : Int) < N := by omega
        have Hx := Lib.hid (And.intro hy (And.intro hne hH))
        clear hlx hBx hy hne hH
        by_cases he : y = x
        · have hb1 : (y == x) = true := by simpa using he
          rw [hb1] at heq
          have Heq := Lib.hid heq
          clear heq hb1
          go_wp2_with fail
          refine Heq.out.mono ?_
          rintro e w2 ⟨rfl, hb2⟩
          have h2 := Hx.out.2.2.below hb2
          obtain ⟨hth, hR⟩ := rof_there h2.2.2.1 HD.out.1
          have hmem : x ∈ L := by
            have hm := List.getElem_mem hjg
            rw [← Hx.out.1, he] at hm
            exact hm
          have hp := rof_post D HS.out h2.1 (fun i hi => .inl hi) h2.2.2.2.2
          have Hp := Lib.hid (show RofPost w S g L k x (w2.setCells w.heap.size 0 D) from ⟨_, by unfold rofL; rw [if_pos hle, if_pos hmem]; exact hp.1, hp.2⟩)
          have H2 := Lib.hid (And.intro hth (And.intro hR h2.2.2.2.1))
          clear hth hR hp h2 hb2 hmem Hx
          go_wp2_with (first
            | (refine wpList_load_row rfl 28 _ rfl gd rfl 28 D.toArray (0, 0) _ H2.out.2.2 Try.underlying28 rfl Hi.out ?_)
            | (refine wpList_store_mid rfl 28 _ _ rfl w.heap.size 0 D.toArray rfl rfl H2.out.1.1 Hi.out HD.out.2.2 ?_))
          exact bodyPost_ret (results_row_tmp rfl _ _ w.heap.size 28 D.toArray (0, 0) _ rfl H2.out.2.1 Try.underlying28 rfl Hi.out) rfl ⟨rfl, Hp.out⟩
        · have hb1 : (y == x) = false := by simpa using he
          rw [hb1] at heq
          have Heq := Lib.hid heq
          clear heq hb1
          go_wp2_with fail
          refine Heq.out.mono ?_
          rintro e w2 ⟨rfl, hb2⟩
          have H2 := Lib.hid (Hx.out.2.2.below hb2)
          clear hb2
          go_wp2
          go_roundw
          case rel =>
            refine ⟨j + 1, by omega, by go_num, ?_, H2.out⟩
            rw [List.take_succ_eq_append_getElem hjg, ← Hx.out.1]
            intro z hz
            rcases List.mem_append.1 hz with hz | hz
            · exact Hx.out.2.1 z hz
            · simp at hz; subst hz; exact he
          case measure => simp [intOf]; omega
      · have hjN : j = N := by omega
        subst hjN
        have hi1 : ¬ (j : Int) < j := by omega
        have hxL : x ∉ L := fun hx => by
          rw [List.take_of_length_le (by omega)] at hne
          exact hne x hx rfl
        have hd : RHalf w S g (.slice Ar j cr) L (k + 1) A x gd D wr.drew := hH.below (Below.refl _ _).drew
        have hcp := copyBytes A cp n x wr.drew hd.2.1 Hn.out.1 (by omega)
        have Hcp := Lib.hid hcp
        have Hx := Lib.hid (And.intro hxL hd)
        have Hr := Lib.hid (And.intro hd.1.blk (And.intro hd.1.own (And.intro hd.1.lt hd.1.row)))
        have hLj : j < 1000000 := by omega
        clear hcp hd hH hne hxL
        go_wp2
        refine wp_region_any (by kernel_rfl) ?_
        change wpAny _ _ _ _ _ _ _ (World.drew _)
        refine any_take (i := 0) (d := 41) (v := (.pointer (some ⟨g, 0, none⟩))) rfl rfl (by kernel_rfl) (by kernel_rfl) (by kernel_rfl) (fun _ _ _ h => h) (Or.inl ⟨by rfl, (by intro w; go_simp)⟩) ?_
        simp only [List.setIfInBounds_toArray, List.set_cons_zero, List.set_cons_succ]
        refine any_take (i := 1) (d := 42) (v := (.pointer (some ⟨g, 0, none⟩))) rfl rfl (by kernel_rfl) (by kernel_rfl) (by kernel_rfl) (fun _ _ _ h => h) (Or.inl ⟨by rfl, (by intro w; go_simp)⟩) ?_
        simp only [List.setIfInBounds_toArray, List.set_cons_zero, List.set_cons_succ]
        refine any_take (i := 2) (d := 43) (v := (.pointer (some ⟨g, 0, none⟩))) rfl rfl (by kernel_rfl) (by kernel_rfl) (by kernel_rfl) (fun _ _ _ h => h) (Or.inl ⟨by rfl, (by intro w; go_simp)⟩) ?_
        simp only [List.setIfInBounds_toArray, List.set_cons_zero, List.set_cons_succ]
        refine any_take (i := 3) (d := 44) (v := (.pointer (some ⟨g, 0, none⟩))) rfl rfl (by kernel_rfl) (by kernel_rfl) (by kernel_rfl) (fun _ _ _ h => h) (Or.inl ⟨by rfl, (by intro w; go_simp)⟩) ?_
        simp only [List.setIfInBounds_toArray, List.set_cons_zero, List.set_cons_succ]
        refine any_take (i := 5) (d := 46) (v := (.slice A n cp)) rfl rfl (by kernel_rfl) (by kernel_rfl) (by kernel_rfl) (fun _ _ _ h => h) (Or.inl ⟨by rfl, (by intro w; go_simp)⟩) ?_
        simp only [List.setIfInBounds_toArray, List.set_cons_zero, List.set_cons_succ]
        refine any_two (i := 4) (j := 6) (by kernel_rfl) ?_ ?_
        · refine wpOp_step rfl (fun K hK => ?_)
          go_simp
          refine hK _ _ ?_
          clear hK K
          refine any_one (i := 6) (by kernel_rfl) ?_
          refine wpOp_step rfl (fun K hK => ?_)
          go_simp
          refine Hcp.out.mono ?_
          rintro e w1 ⟨hd, rfl, hNw⟩
          obtain ⟨Ax, cx, rfl, _, _, _⟩ := hNw.form
          obtain ⟨v', w3, cA, cA2, cV, cF, hsz3, hRB, hO⟩ := rput_run Hr.out.1 Hr.out.2.1 Hr.out.2.2.1 Hr.out.2.2.2 (by rw [hN]; exact hLj) hNw
          obtain ⟨A4, n4, c4, rfl⟩ := cA
          obtain ⟨cA, cB, cR⟩ := cA2
          have He := Lib.hid (And.intro hsz3 (And.intro hRB hO))
          clear hsz3 hRB hO hNw
          refine hK _ _ ?_
          clear hK K
          refine any_one (i := 7) (by kernel_rfl) ?_
          refine wpOp_step rfl (fun K hK => ?_)
          go_simp
          refine hK _ _ ?_
          clear hK K
          refine any_one (i := 8) (by kernel_rfl) ?_
          refine op_appendS (d := 49) rfl rfl rfl _ _ rfl _ _ _ w3 rfl rfl cR ?_
          simp only [List.setIfInBounds_toArray, List.set_cons_zero, List.set_cons_succ]
          refine any_take (i := 9) (d := 50) (v := (.pointer (some ⟨g, 0, none⟩))) rfl rfl (by kernel_rfl) (by kernel_rfl) (by kernel_rfl) (fun _ _ _ h => h) (Or.inl ⟨by rfl, (by intro w; go_simp)⟩) ?_
          simp only [List.setIfInBounds_toArray, List.set_cons_zero, List.set_cons_succ]
          refine any_take (i := 10) (d := 51) (v := (.pointer (some ⟨g, 0, none⟩))) rfl rfl (by kernel_rfl) (by kernel_rfl) (by kernel_rfl) (fun _ _ _ h => h) (Or.inl ⟨by rfl, (by intro w; go_simp)⟩) ?_
          simp only [List.setIfInBounds_toArray, List.set_cons_zero, List.set_cons_succ]
          refine any_one (i := 11) (by kernel_rfl) ?_
          refine wpOp_step rfl (fun K hK => ?_)
          go_simp
          refine hK _ _ ?_
          clear hK K
          refine wpAny_done (by kernel_rfl) ?_ _
          have h4d := He.out.2.2.blk Hx.out.2.2.2.2.1 hgS
          have h4z := He.out.2.2.blk Hx.out.2.2.2.1 hzS
          obtain ⟨hth, hR⟩ := rof_there h4z HD.out.1
          have hszd := Hx.out.2.2.2.2.2.size
          have hzlt := Hx.out.2.2.2.1.lt
          have hs4 : (w3.setCell ⟨g, 0, none⟩ (.slice A4 n4 c4)).heap.size = w3.heap.size := by simp [World.setCell]
          have hp := rof_post D HS.out He.out.2.1 (fun i hi => (by
            rcases hi with hi | hi
            · exact .inl hi
            · exact .inr ⟨by omega, by omega⟩)) (Hx.out.2.2.2.2.2.trans He.out.2.2 fun _ _ e => e)
          have Hp := Lib.hid (show RofPost w S g L k x ((w3.setCell ⟨g, 0, none⟩ (.slice A4 n4 c4)).setCells w.heap.size 0 D) from ⟨_, by unfold rofL; rw [if_pos hle, if_neg Hx.out.1]; exact hp.1, hp.2⟩)
          have H2 := Lib.hid (And.intro hth (And.intro hR h4d))
          clear hth hR hp h4d h4z
          go_wp2_with (first
            | (refine wpList_load_row rfl 28 _ rfl gd rfl 28 D.toArray (0, 0) _ H2.out.2.2 Try.underlying28 rfl Hi.out ?_)
            | (refine wpList_store_mid rfl 28 _ _ rfl w.heap.size 0 D.toArray rfl rfl H2.out.1.1 Hi.out HD.out.2.2 ?_))
          exact bodyPost_ret (results_row_tmp rfl _ _ w.heap.size 28 D.toArray (0, 0) _ rfl H2.out.2.1 Try.underlying28 rfl Hi.out) rfl ⟨rfl, Hp.out⟩
        · refine wpOp_step rfl (fun K hK => ?_)
          go_simp
          refine Hcp.out.mono ?_
          rintro e w1 ⟨hd, rfl, hNw⟩
          obtain ⟨Ax, cx, rfl, _, _, _⟩ := hNw.form
          obtain ⟨v', w3, cA, cA2, cV, cF, hsz3, hRB, hO⟩ := rput_run Hr.out.1 Hr.out.2.1 Hr.out.2.2.1 Hr.out.2.2.2 (by rw [hN]; exact hLj) hNw
          obtain ⟨A4, n4, c4, rfl⟩ := cA
          obtain ⟨cA, cB, cR⟩ := cA2
          have He := Lib.hid (And.intro hsz3 (And.intro hRB hO))
          clear hsz3 hRB hO hNw
          refine hK _ _ ?_
          clear hK K
          refine any_two (i := 4) (j := 7) (by kernel_rfl) ?_ ?_
          · refine wpOp_step rfl (fun K hK => ?_)
            go_simp
            refine hK _ _ ?_
            clear hK K
            refine any_one (i := 7) (by kernel_rfl) ?_
            refine wpOp_step rfl (fun K hK => ?_)
            go_simp
            refine hK _ _ ?_
            clear hK K
            refine any_one (i := 8) (by kernel_rfl) ?_
            refine op_appendS (d := 49) rfl rfl rfl _ _ rfl _ _ _ w3 rfl rfl cR ?_
            simp only [List.setIfInBounds_toArray, List.set_cons_zero, List.set_cons_succ]
            refine any_take (i := 9) (d := 50) (v := (.pointer (some ⟨g, 0, none⟩))) rfl rfl (by kernel_rfl) (by kernel_rfl) (by kernel_rfl) (fun _ _ _ h => h) (Or.inl ⟨by rfl, (by intro w; go_simp)⟩) ?_
            simp only [List.setIfInBounds_toArray, List.set_cons_zero, List.set_cons_succ]
            refine any_take (i := 10) (d := 51) (v := (.pointer (some ⟨g, 0, none⟩))) rfl rfl (by kernel_rfl) (by kernel_rfl) (by kernel_rfl) (fun _ _ _ h => h) (Or.inl ⟨by rfl, (by intro w; go_simp)⟩) ?_
            simp only [List.setIfInBounds_toArray, List.set_cons_zero, List.set_cons_succ]
            refine any_one (i := 11) (by kernel_rfl) ?_
            refine wpOp_step rfl (fun K hK => ?_)
            go_simp
            refine hK _ _ ?_
            clear hK K
            refine wpAny_done (by kernel_rfl) ?_ _
            have h4d := He.out.2.2.blk Hx.out.2.2.2.2.1 hgS
            have h4z := He.out.2.2.blk Hx.out.2.2.2.1 hzS
            obtain ⟨hth, hR⟩ := rof_there h4z HD.out.1
            have hszd := Hx.out.2.2.2.2.2.size
            have hzlt := Hx.out.2.2.2.1.lt
            have hs4 : (w3.setCell ⟨g, 0, none⟩ (.slice A4 n4 c4)).heap.size = w3.heap.size := by simp [World.setCell]
            have hp := rof_post D HS.out He.out.2.1 (fun i hi => (by
              rcases hi with hi | hi
              · exact .inl hi
              · exact .inr ⟨by omega, by omega⟩)) (Hx.out.2.2.2.2.2.trans He.out.2.2 fun _ _ e => e)
            have Hp := Lib.hid (show RofPost w S g L k x ((w3.setCell ⟨g, 0, none⟩ (.slice A4 n4 c4)).setCells w.heap.size 0 D) from ⟨_, by unfold rofL; rw [if_pos hle, if_neg Hx.out.1]; exact hp.1, hp.2⟩)
            have H2 := Lib.hid (And.intro hth (And.intro hR h4d))
            clear hth hR hp h4d h4z
            go_wp2_with (first
              | (refine wpList_load_row rfl 28 _ rfl gd rfl 28 D.toArray (0, 0) _ H2.out.2.2 Try.underlying28 rfl Hi.out ?_)
              | (refine wpList_store_mid rfl 28 _ _ rfl w.heap.size 0 D.toArray rfl rfl H2.out.1.1 Hi.out HD.out.2.2 ?_))
            exact bodyPost_ret (results_row_tmp rfl _ _ w.heap.size 28 D.toArray (0, 0) _ rfl H2.out.2.1 Try.underlying28 rfl Hi.out) rfl ⟨rfl, Hp.out⟩
          · refine wpOp_step rfl (fun K hK => ?_)
            go_simp
            refine hK _ _ ?_
            clear hK K
            refine any_one (i := 4) (by kernel_rfl) ?_
            refine wpOp_step rfl (fun K hK => ?_)
            go_simp
            refine hK _ _ ?_
            clear hK K
            refine any_one (i := 8) (by kernel_rfl) ?_
            refine op_appendS (d := 49) rfl rfl rfl _ _ rfl _ _ _ w3 rfl rfl cR ?_
            simp only [List.setIfInBounds_toArray, List.set_cons_zero, List.set_cons_succ]
            refine any_take (i := 9) (d := 50) (v := (.pointer (some ⟨g, 0, none⟩))) rfl rfl (by kernel_rfl) (by kernel_rfl) (by kernel_rfl) (fun _ _ _ h => h) (Or.inl ⟨by rfl, (by intro w; go_simp)⟩) ?_
            simp only [List.setIfInBounds_toArray, List.set_cons_zero, List.set_cons_succ]
            refine any_take (i := 10) (d := 51) (v := (.pointer (some ⟨g, 0, none⟩))) rfl rfl (by kernel_rfl) (by kernel_rfl) (by kernel_rfl) (fun _ _ _ h => h) (Or.inl ⟨by rfl, (by intro w; go_simp)⟩) ?_
            simp only [List.setIfInBounds_toArray, List.set_cons_zero, List.set_cons_succ]
            refine any_one (i := 11) (by kernel_rfl) ?_
            refine wpOp_step rfl (fun K hK => ?_)
            go_simp
            refine hK _ _ ?_
            clear hK K
            refine wpAny_done (by kernel_rfl) ?_ _
            have h4d := He.out.2.2.blk Hx.out.2.2.2.2.1 hgS
            have h4z := He.out.2.2.blk Hx.out.2.2.2.1 hzS
            obtain ⟨hth, hR⟩ := rof_there h4z HD.out.1
            have hszd := Hx.out.2.2.2.2.2.size
            have hzlt := Hx.out.2.2.2.1.lt
            have hs4 : (w3.setCell ⟨g, 0, none⟩ (.slice A4 n4 c4)).heap.size = w3.heap.size := by simp [World.setCell]
            have hp := rof_post D HS.out He.out.2.1 (fun i hi => (by
              rcases hi with hi | hi
              · exact .inl hi
              · exact .inr ⟨by omega, by omega⟩)) (Hx.out.2.2.2.2.2.trans He.out.2.2 fun _ _ e => e)
            have Hp := Lib.hid (show RofPost w S g L k x ((w3.setCell ⟨g, 0, none⟩ (.slice A4 n4 c4)).setCells w.heap.size 0 D) from ⟨_, by unfold rofL; rw [if_pos hle, if_neg Hx.out.1]; exact hp.1, hp.2⟩)
            have H2 := Lib.hid (And.intro hth (And.intro hR h4d))
            clear hth hR hp h4d h4z
            go_wp2_with (first
              | (refine wpList_load_row rfl 28 _ rfl gd rfl 28 D.toArray (0, 0) _ H2.out.2.2 Try.underlying28 rfl Hi.out ?_)
              | (refine wpList_store_mid rfl 28 _ _ rfl w.heap.size 0 D.toArray rfl rfl H2.out.1.1 Hi.out HD.out.2.2 ?_))
            exact bodyPost_ret (results_row_tmp rfl _ _ w.heap.size 28 D.toArray (0, 0) _ rfl H2.out.2.1 Try.underlying28 rfl Hi.out) rfl ⟨rfl, Hp.out⟩
end Go.Proofs.Ytcidliakmlolmaa
