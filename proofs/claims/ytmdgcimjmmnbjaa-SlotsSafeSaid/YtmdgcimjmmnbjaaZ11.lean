/-
  Laid together for a hand-in: As14.
-/
import Derived.Test.YtmdgcimjmmnbjaaZ09

namespace Go.Proofs.Ytmdgcimjmmnbjaa
open Go.RowKit Go.Shelf Go.Sort Go.Maps CrewP
set_option linter.unusedVariables false
set_option linter.unusedSimpArgs false

theorem results_row {P : Program} {fn : Func} {p : Tmp} {ty : TypeId} (h : fn.results = #[.cell p ty]) (tmps : Array Value) (w : World) (g : Nat) (t : TypeId) (cs : Array Value) (d : TypeDesc)
    (hp : tmps.getD p undef = .pointer (some ⟨g, 0, none⟩)) (hg : w.heap[g]? = some (.cells cs t (0, 0)))
    (hu : P.underlying ty = some d) (hd : (match d with | .struct _ | .array _ _ => true | _ => false) = true) (hi : (P.info? ty).map (·.size) = some cs.size) :
    (results fn tmps).run P w = .ok (.agg cs) w := by
  have hp' : tmps[p]?.getD undef = .pointer (some ⟨g, 0, none⟩) := by simpa using hp
  simp [results, h, hp', asAddr, run_loadVar_row w g t ty cs (0, 0) d hg hu hd hi]
def sd0 : Sd := ⟨0, zero32, 0⟩
theorem sdC_len {x : Sd} (h : x.d.length = 32) : (sdC x).length = 34 := by simp [sdC, cbs_length, h]
theorem sdC_one (x : Sd) : (sdC x).toArray.all (·.oneCell') = true := by
  rw [Array.all_eq_true_iff_forall_mem]
  intro v hv
  simp only [sdC, List.mem_toArray, List.mem_cons, List.mem_append, List.not_mem_nil, or_false] at hv
  rcases hv with rfl | hv | rfl
  · rfl
  · simp only [cbs, List.mem_map] at hv
    obtain ⟨x, _, rfl⟩ := hv
    rfl
  · rfl
set_option maxRecDepth 100000 in
set_option maxHeartbeats 1600000 in
theorem stand_any {x : Vt} (hx : x.d.length = 32) (hox : okO (some x)) (seq : Int) (w : World) : Calls Try.prog 35 #[.agg (sy (some x)).toArray, .int .i64 seq] w fun e w' => e = .returned (.agg (sdC ⟨seq, x.d, x.v⟩).toArray) ∧ Below w.heap.size w w' := by
  obtain ⟨v, d⟩ := x
  simp only at hx ⊢
  have B0 : Blk (w.alloc (.cells (sy (some (⟨v, d⟩ : Vt))).toArray 64)) w.heap.size 64 (sy (some ⟨v, d⟩)) := Blk.new rfl rfl
  have b0 : Below w.heap.size w (w.alloc (.cells (sy (some (⟨v, d⟩ : Vt))).toArray 64)) := (Below.refl _ _).alloc (Nat.le_refl _) _
  obtain ⟨w2, hw2, ⟨hth, hi⟩, hb2, hbe, hs2⟩ := row_local (w.alloc (.cells (sy (some (⟨v, d⟩ : Vt))).toArray 64)) 41 (sdC sd0) (sdC ⟨seq, d, v⟩) (by rw [sdC_len hx]; rfl) (by rw [sdC_len (x := sd0) rfl]; exact stand_info1)
  have B1 : Blk ((w.alloc (.cells (sy (some (⟨v, d⟩ : Vt))).toArray 64)).alloc (.cells (sdC sd0).toArray 41)) w.heap.size 64 (sy (some ⟨v, d⟩)) := B0.old _
  obtain ⟨s1, s2⟩ := sy_cells v d hx
  have k1 := fun o : Obj => (B0.old o).cell s1
  have hdr := B1.rangeFrom s2
  have hdn : (Try.prog.info? 39).map (·.size) = some (cbs d).length := by rw [cbs_length, hx]; exact dig_info
  have hbu := built_stand seq v d hx
  have H := Lib.hid (And.intro hdr (And.intro hdn (And.intro hbu (And.intro hth (And.intro hi (And.intro (sdC_one ⟨seq, d, v⟩) hw2))))))
  have H2 := Lib.hid (And.intro hb2 (b0.trans (hbe.mono b0.size)))
  have hsz : (w.alloc (.cells (sy (some (⟨v, d⟩ : Vt))).toArray 64)).heap.size = w.heap.size + 1 := by simp
  rw [hsz] at H H2
  clear B0 b0 hw2 hth hi hb2 hbe hs2 B1 s1 s2 hdr hdn hbu hsz
  generalize hC : sy (some (⟨v, d⟩ : Vt)) = C at *
  generalize hD : cbs d = D at *
  generalize hS : sdC ⟨seq, d, v⟩ = S at *
  go_enter Try.func35, Try.ntmps35
  go_wp2_with (first
    | (refine wpList_load_mid rfl 39 _ rfl w.heap.size 2 rfl D _ H.out.1 Try.underlying39 rfl H.out.2.1 ?_; simp only [Act.put])
    | (refine wpList_build_g rfl 41 _ rfl S.toArray H.out.2.2.1 ?_; simp only [Act.put])
    | (refine wpList_store_mid rfl 41 _ _ rfl (w.heap.size + 1) 0 S.toArray rfl rfl H.out.2.2.2.1 H.out.2.2.2.2.1 H.out.2.2.2.2.2.1 ?_; simp only [Act.put]; refine cast (congrArg (fun z => wpList _ _ _ _ _ z) H.out.2.2.2.2.2.2.symm) ?_))
  refine bodyPost_ret (results_row rfl _ _ (w.heap.size + 1) 41 S.toArray _ rfl H2.out.1 Try.underlying41 rfl H.out.2.2.2.2.1) rfl ?_
  exact ⟨rfl, H2.out.2⟩

section
variable {w : World} {U : Nat → Prop} {g : Nat} {σ : St} {ab cap m : Nat} {sb qb rb cb : Nat → Nat} {role : Nat → Nat}
theorem low_in {there : Nat → Bool} (h : StIn w U g σ there ab cap m sb qb rb cb role) : Calls Try.prog 25 #[.pointer (some ⟨g, 0, none⟩)] w fun e w' => e = .returned (.int .i64 σ.low) ∧ w' = w := by
  have c2 := h.blk.cell (i := 2) rfl
  have H := Lib.hid h
  clear h
  go_enter Try.func25, Try.ntmps25
  go_wp2_with (go_at_call 38; refine (none_in H.out).mono ?_; rintro e w' ⟨rfl, rfl⟩)
  go_ret
  exact ⟨rfl, rfl⟩
theorem prepared_in (h : StIn w U g σ all8 ab cap m sb qb rb cb role) {seq : Int} (hs : Wf seq) (B : Bool) (hB : preS σ seq = B) : Calls Try.prog 11 #[.pointer (some ⟨g, 0, none⟩), .int .i64 seq] w fun e w' => e = .returned (.bool B) ∧ Below w.heap.size w w' := by
  have Ho := Lib.hid (of_in h hs)
  unfold preS at hB
  cases hix : idx σ seq with
  | none =>
    rw [hix] at hB Ho
    simp only [Option.map_none] at Ho
    simp only at hB
    subst hB
    clear h hix
    go_enter Try.func11, Try.ntmps11
    go_wp2_with (go_at_call 28; refine Ho.out.mono ?_; rintro e w' ⟨rfl, rfl⟩)
    go_ret
    exact ⟨rfl, Below.refl _ _⟩
  | some i =>
    rw [hix] at hB Ho
    simp only [Option.map_some] at Ho
    simp only at hB
    have Hp := Lib.hid (isPrepared_in h (idx_lt hix).1 B hB)
    clear h hix hB
    generalize sb i = s at *
    go_enter Try.func11, Try.ntmps11
    go_wp2_with (first
      | (go_at_call 28; refine Ho.out.mono ?_; rintro e w' ⟨rfl, rfl⟩)
      | (go_at_call 29; refine Hp.out.mono ?_; rintro e w1 ⟨rfl, hb⟩; replace hb := Lib.hid hb))
    go_ret
    exact ⟨rfl, hb.out⟩
end
def cnR (s g cbk : Nat) (A : Option Addr) (n cp : Nat) (C : List Value) (f : Int) (c M : Nat) (B : Bool) : Nat → Value → World → Prop
  | 0 => fun v w => v = .pointer none
  | 1 => fun v w => v = .bool false
  | 2 => fun v w => v = .bool false
  | 3 => fun v w => v = undef
  | 4 => fun v w => v = undef
  | 5 => fun v w => v = undef
  | 6 => fun v w => v = .bool false
  | 7 => fun v w => v = .bool false
  | 8 => fun v w => v = undef
  | 9 => fun v w => v = undef
  | 10 => fun v w => v = undef
  | 11 => fun v w => v = undef
  | 12 => fun v w => v = undef
  | 13 => fun v w => v = undef
  | 14 => fun v w => v = undef
  | 15 => fun v w => v = undef
  | 16 => fun v w => v = undef
  | 17 => fun v w => v = undef
  | 18 => fun v w => v = undef
  | 19 => fun v w => v = undef
  | 20 => fun v w => v = undef
  | 21 => fun v w => v = undef
  | 22 => fun v w => v = undef
  | 23 => fun v w => v = .bool false
  | 24 => fun v w => v = .bool false
  | _ => fun _ _ => True
def cnD (i : Nat) : Nat := ([9, 10, 11, 12, 13, 14, 15, 16, 17, 18, 19, 20, 21, 22, 23, 24, 25, 26, 27, 28, 29, 30, 31, 32, 4] : List Nat).getD i 0
def cnG : Nat → Option Bool
  | 2 => some false
  | 7 => some false
  | _ => none
def cnS (i : Nat) : Bool := ([3, 4, 5, 8, 9, 10, 11, 12, 13, 14, 15, 16, 17, 18, 19, 20, 21, 22] : List Nat).contains i
theorem cn_gb (s g cbk : Nat) (A : Option Addr) (n cp : Nat) (C : List Value) (f : Int) (c M : Nat) (B : Bool) : ∀ i b v w, cnG i = some b → cnR s g cbk A n cp C f c M B i v w → v = .bool b := by
  intro i b v w h hR
  unfold cnG at h
  split at h
  all_goals first | (injection h with h; subst h; exact hR) | cases h
theorem cn_sk (s g cbk : Nat) (A : Option Addr) (n cp : Nat) (C : List Value) (f : Int) (c M : Nat) (B : Bool) : ∀ i w, cnS i = true → cnR s g cbk A n cp C f c M B i undef w := by
  intro i w h
  have hm : i ∈ ([3, 4, 5, 8, 9, 10, 11, 12, 13, 14, 15, 16, 17, 18, 19, 20, 21, 22] : List Nat) := by simpa [cnS] using h
  simp only [List.mem_cons, List.not_mem_nil, or_false] at hm
  rcases hm with rfl | rfl | rfl | rfl | rfl | rfl | rfl | rfl | rfl | rfl | rfl | rfl | rfl | rfl | rfl | rfl | rfl | rfl
  all_goals rfl
theorem cn_on (s g cbk : Nat) (A : Option Addr) (n cp : Nat) (C : List Value) (f : Int) (c M : Nat) (B : Bool) : ∀ i v w w', cnR s g cbk A n cp C f c M B i v w → Below w.heap.size w w' → cnR s g cbk A n cp C f c M B i v w'
  | 0, v, w, w', h, _ => h
  | 1, v, w, w', h, _ => h
  | 2, v, w, w', h, _ => h
  | 3, v, w, w', h, _ => h
  | 4, v, w, w', h, _ => h
  | 5, v, w, w', h, _ => h
  | 6, v, w, w', h, _ => h
  | 7, v, w, w', h, _ => h
  | 8, v, w, w', h, _ => h
  | 9, v, w, w', h, _ => h
  | 10, v, w, w', h, _ => h
  | 11, v, w, w', h, _ => h
  | 12, v, w, w', h, _ => h
  | 13, v, w, w', h, _ => h
  | 14, v, w, w', h, _ => h
  | 15, v, w, w', h, _ => h
  | 16, v, w, w', h, _ => h
  | 17, v, w, w', h, _ => h
  | 18, v, w, w', h, _ => h
  | 19, v, w, w', h, _ => h
  | 20, v, w, w', h, _ => h
  | 21, v, w, w', h, _ => h
  | 22, v, w, w', h, _ => h
  | 23, v, w, w', h, _ => h
  | 24, v, w, w', h, _ => h
  | i + 25, v, w, w', h, hb => trivial
def cnOps : List Op := [.move (.tmp 5),
  .binOp .neq 59 (.tmp 9) (.const (.pointer none)) 59,
  .move (.tmp 10),
  .move (.tmp 0),
  .move (.tmp 5),
  .call { callee := .value (.func 29), args := #[.tmp 12, .tmp 13], argTypes := #[24, 59] },
  .pick (.tmp 11) (.tmp 14) (.const (.bool false)),
  .move (.tmp 15),
  .move (.tmp 5),
  .nilCheck (.tmp 17),
  .fieldAddr 68 (.tmp 18) 4,
  .load 66 (.tmp 19),
  .move (.tmp 5),
  .nilCheck (.tmp 21),
  .fieldAddr 68 (.tmp 22) 0,
  .load 64 (.tmp 23),
  .call { callee := .value (.func 30), args := #[.tmp 20, .tmp 24], argTypes := #[66, 64] },
  .move (.tmp 0),
  .nilCheck (.tmp 26),
  .fieldAddr 72 (.tmp 27) 0,
  .load 53 (.tmp 28),
  .call { callee := .value (.func 31), args := #[.tmp 29], argTypes := #[53] },
  .binOp .geq 3 (.tmp 25) (.tmp 30) 3,
  .pick (.tmp 16) (.tmp 31) (.const (.bool false)),
  .assign (.tmp 32)]
def cnNeeds : Nat → List Nat
  | 0 => []
  | 1 => [0]
  | 2 => [1]
  | 3 => []
  | 4 => []
  | 5 => []
  | 6 => [2, 5]
  | 7 => [6]
  | 8 => []
  | 9 => []
  | 10 => []
  | 11 => []
  | 12 => []
  | 13 => []
  | 14 => []
  | 15 => []
  | 16 => []
  | 17 => []
  | 18 => []
  | 19 => []
  | 20 => []
  | 21 => []
  | 22 => []
  | 23 => [7, 22]
  | 24 => [23]
  | _ => []
set_option maxRecDepth 100000 in
set_option maxHeartbeats 3200000 in
theorem cn_step {ops : Array Oper} {Q : Exit → Act → World → Prop} {a0 : Act} {w0 : World} (s g cbk : Nat) (A : Option Addr) (n cp : Nat) (C : List Value) (f : Int) (c M : Nat) (B : Bool) (hops : ((List.range 25).map fun i => (ops[i]?).map Oper.op) = cnOps.map some)
    (hnd : ((List.range 25).all fun i => (cnNeeds i).all fun j => ((ops[i]?).map fun o => o.after.any fun e => Region.binds .any e && (e.on == j)).getD false) = true)
    (x0 : a0.tmps[0]? = some (.pointer (some ⟨g, 0, none⟩))) (x5 : a0.tmps[5]? = some (.pointer none)) :
    ∀ i o, i < 25 → cnS i = false → ops[i]? = some o → o.dst = some (cnD i) → ∀ a w, Base cnD 25 a0 a → Below w0.heap.size w0 w → Region.wanted o (yielded ops a.tmps) = true →
      (∀ j, (o.after.any fun e => Region.binds .any e && (e.on == j)) = true → Has cnD (cnR s g cbk A n cp C f c M B) j a w) →
      ∀ K : Act → World → Prop, (∀ v w', cnR s g cbk A n cp C f c M B i v w' → Below w.heap.size w w' → K (a.put o.dst v) w') → wpOp Try.prog ops Q i K a w := by
  intro i o hi hs ho hds a w hbase hbl hwt hdep0 K hK
  have hop : some o.op = cnOps[i]? := by
    have h1 : ((List.range 25).map fun i => (ops[i]?).map Oper.op)[i]? = some (some o.op) := by
      rw [List.getElem?_map, List.getElem?_range hi]; simp only [Option.map_some, ho]
    rw [hops, List.getElem?_map] at h1
    cases h2 : cnOps[i]? with
    | none => rw [h2] at h1; cases h1
    | some y => rw [h2] at h1; simp only [Option.map_some, Option.some.injEq] at h1; rw [h1]
  have hdep : ∀ j, j ∈ cnNeeds i → Has cnD (cnR s g cbk A n cp C f c M B) j a w := fun j hj => by
    have h1 := List.all_eq_true.1 (List.all_eq_true.1 hnd i (List.mem_range.2 hi)) j hj
    rw [ho] at h1
    exact hdep0 j h1
  clear hdep0 hops hnd
  match i, hi, hs, ho, hop, hds, hdep, hK with
  | 0, _, hs, ho, hop, hds, hdep, hK =>
    have hop : o.op = .move (.tmp 5) := Option.some.inj hop
    have hu5 : a.tmps[5]? = some (.pointer none) := (hbase.2.2 5 (by decide)).trans x5
    have e5 : a.eval (.tmp 5) = _ := ev_tmp hu5
    refine st3 ho hwt (v := _) (w' := w) ?_ (hK _ w rfl (Below.refl _ _))
    unfold execOp
    rw [hop, ← e5]
    rfl
  | 1, _, hs, ho, hop, hds, hdep, hK =>
    have hop : o.op = .binOp .neq 59 (.tmp 9) (.const (.pointer none)) 59 := Option.some.inj hop
    obtain ⟨u9, hu9, hv9⟩ := hdep 0 (by decide)
    have hv9' : u9 = .pointer none := hv9
    subst hv9'
    have e9 : a.eval (.tmp 9) = _ := ev_tmp hu9
    refine st3 ho hwt (v := .bool false) (w' := w) ?_ (hK _ w rfl (Below.refl _ _))
    unfold execOp
    simp only [hop, e9]
    first | rfl | (go_simp; done) | (go_simp; simp; done) | (go_simp; intro h; omega)
  | 2, _, hs, ho, hop, hds, hdep, hK =>
    have hop : o.op = .move (.tmp 10) := Option.some.inj hop
    obtain ⟨u10, hu10, hv10⟩ := hdep 1 (by decide)
    have hv10' : u10 = .bool false := hv10
    subst hv10'
    have e10 : a.eval (.tmp 10) = _ := ev_tmp hu10
    refine st3 ho hwt (v := _) (w' := w) ?_ (hK _ w rfl (Below.refl _ _))
    unfold execOp
    rw [hop, ← e10]
    rfl
  | 3, _, hs, ho, hop, hds, hdep, hK =>
    exact absurd hs (by decide)
  | 4, _, hs, ho, hop, hds, hdep, hK =>
    exact absurd hs (by decide)
  | 5, _, hs, ho, hop, hds, hdep, hK =>
    exact absurd hs (by decide)
  | 6, _, hs, ho, hop, hds, hdep, hK =>
    have hop : o.op = .pick (.tmp 11) (.tmp 14) (.const (.bool false)) := Option.some.inj hop
    obtain ⟨u11, hu11, hv11⟩ := hdep 2 (by decide)
    have hv11' : u11 = .bool false := hv11
    subst hv11'
    have e11 : a.eval (.tmp 11) = _ := ev_tmp hu11
    obtain ⟨u14, hu14, hv14⟩ := hdep 5 (by decide)
    have hv14' : u14 = undef := hv14
    subst hv14'
    have e14 : a.eval (.tmp 14) = _ := ev_tmp hu14
    refine st3 ho hwt (v := .bool false) (w' := w) ?_ (hK _ w rfl (Below.refl _ _))
    unfold execOp
    simp only [hop, e11, e14]
    first | rfl | (go_simp; done) | (go_simp; simp; done) | (go_simp; intro h; omega)
  | 7, _, hs, ho, hop, hds, hdep, hK =>
    have hop : o.op = .move (.tmp 15) := Option.some.inj hop
    obtain ⟨u15, hu15, hv15⟩ := hdep 6 (by decide)
    have hv15' : u15 = .bool false := hv15
    subst hv15'
    have e15 : a.eval (.tmp 15) = _ := ev_tmp hu15
    refine st3 ho hwt (v := _) (w' := w) ?_ (hK _ w rfl (Below.refl _ _))
    unfold execOp
    rw [hop, ← e15]
    rfl
  | 8, _, hs, ho, hop, hds, hdep, hK =>
    exact absurd hs (by decide)
  | 9, _, hs, ho, hop, hds, hdep, hK =>
    exact absurd hs (by decide)
  | 10, _, hs, ho, hop, hds, hdep, hK =>
    exact absurd hs (by decide)
  | 11, _, hs, ho, hop, hds, hdep, hK =>
    exact absurd hs (by decide)
  | 12, _, hs, ho, hop, hds, hdep, hK =>
    exact absurd hs (by decide)
  | 13, _, hs, ho, hop, hds, hdep, hK =>
    exact absurd hs (by decide)
  | 14, _, hs, ho, hop, hds, hdep, hK =>
    exact absurd hs (by decide)
  | 15, _, hs, ho, hop, hds, hdep, hK =>
    exact absurd hs (by decide)
  | 16, _, hs, ho, hop, hds, hdep, hK =>
    exact absurd hs (by decide)
  | 17, _, hs, ho, hop, hds, hdep, hK =>
    exact absurd hs (by decide)
  | 18, _, hs, ho, hop, hds, hdep, hK =>
    exact absurd hs (by decide)
  | 19, _, hs, ho, hop, hds, hdep, hK =>
    exact absurd hs (by decide)
  | 20, _, hs, ho, hop, hds, hdep, hK =>
    exact absurd hs (by decide)
  | 21, _, hs, ho, hop, hds, hdep, hK =>
    exact absurd hs (by decide)
  | 22, _, hs, ho, hop, hds, hdep, hK =>
    exact absurd hs (by decide)
  | 23, _, hs, ho, hop, hds, hdep, hK =>
    have hop : o.op = .pick (.tmp 16) (.tmp 31) (.const (.bool false)) := Option.some.inj hop
    obtain ⟨u16, hu16, hv16⟩ := hdep 7 (by decide)
    have hv16' : u16 = .bool false := hv16
    subst hv16'
    have e16 : a.eval (.tmp 16) = _ := ev_tmp hu16
    obtain ⟨u31, hu31, hv31⟩ := hdep 22 (by decide)
    have hv31' : u31 = undef := hv31
    subst hv31'
    have e31 : a.eval (.tmp 31) = _ := ev_tmp hu31
    refine st3 ho hwt (v := .bool false) (w' := w) ?_ (hK _ w rfl (Below.refl _ _))
    unfold execOp
    simp only [hop, e16, e31]
    first | rfl | (go_simp; done) | (go_simp; simp; done) | (go_simp; intro h; omega)
  | 24, _, hs, ho, hop, hds, hdep, hK =>
    have hop : o.op = .assign (.tmp 32) := Option.some.inj hop
    obtain ⟨u32, hu32, hv32⟩ := hdep 23 (by decide)
    have hv32' : u32 = .bool false := hv32
    subst hv32'
    have e32 : a.eval (.tmp 32) = _ := ev_tmp hu32
    refine st3 ho hwt (v := _) (w' := w) ?_ (hK _ w rfl (Below.refl _ _))
    unfold execOp
    rw [hop, ← e32]
    rfl
  | i + 25, hi, _, _, _, _, _, _ => exact absurd hi (by omega)
def cqR (s g cbk : Nat) (A : Option Addr) (n cp : Nat) (C : List Value) (f : Int) (c M : Nat) (B : Bool) : Nat → Value → World → Prop
  | 0 => fun v w => v = .pointer (some ⟨s, 0, none⟩)
  | 1 => fun v w => v = .bool true
  | 2 => fun v w => v = .bool true
  | 3 => fun v w => v = .pointer (some ⟨g, 0, none⟩)
  | 4 => fun v w => v = .pointer (some ⟨s, 0, none⟩)
  | 5 => fun v w => v = .bool false
  | 6 => fun v w => v = .bool false
  | 7 => fun v w => v = .bool false
  | 8 => fun v w => v = undef
  | 9 => fun v w => v = undef
  | 10 => fun v w => v = undef
  | 11 => fun v w => v = undef
  | 12 => fun v w => v = undef
  | 13 => fun v w => v = undef
  | 14 => fun v w => v = undef
  | 15 => fun v w => v = undef
  | 16 => fun v w => v = undef
  | 17 => fun v w => v = undef
  | 18 => fun v w => v = undef
  | 19 => fun v w => v = undef
  | 20 => fun v w => v = undef
  | 21 => fun v w => v = undef
  | 22 => fun v w => v = undef
  | 23 => fun v w => v = .bool false
  | 24 => fun v w => v = .bool false
  | _ => fun _ _ => True
def cqD (i : Nat) : Nat := ([9, 10, 11, 12, 13, 14, 15, 16, 17, 18, 19, 20, 21, 22, 23, 24, 25, 26, 27, 28, 29, 30, 31, 32, 4] : List Nat).getD i 0
def cqG : Nat → Option Bool
  | 2 => some true
  | 7 => some false
  | _ => none
def cqS (i : Nat) : Bool := ([8, 9, 10, 11, 12, 13, 14, 15, 16, 17, 18, 19, 20, 21, 22] : List Nat).contains i
theorem cq_gb (s g cbk : Nat) (A : Option Addr) (n cp : Nat) (C : List Value) (f : Int) (c M : Nat) (B : Bool) : ∀ i b v w, cqG i = some b → cqR s g cbk A n cp C f c M B i v w → v = .bool b := by
  intro i b v w h hR
  unfold cqG at h
  split at h
  all_goals first | (injection h with h; subst h; exact hR) | cases h
theorem cq_sk (s g cbk : Nat) (A : Option Addr) (n cp : Nat) (C : List Value) (f : Int) (c M : Nat) (B : Bool) : ∀ i w, cqS i = true → cqR s g cbk A n cp C f c M B i undef w := by
  intro i w h
  have hm : i ∈ ([8, 9, 10, 11, 12, 13, 14, 15, 16, 17, 18, 19, 20, 21, 22] : List Nat) := by simpa [cqS] using h
  simp only [List.mem_cons, List.not_mem_nil, or_false] at hm
  rcases hm with rfl | rfl | rfl | rfl | rfl | rfl | rfl | rfl | rfl | rfl | rfl | rfl | rfl | rfl | rfl
  all_goals rfl
theorem cq_on (s g cbk : Nat) (A : Option Addr) (n cp : Nat) (C : List Value) (f : Int) (c M : Nat) (B : Bool) : ∀ i v w w', cqR s g cbk A n cp C f c M B i v w → Below w.heap.size w w' → cqR s g cbk A n cp C f c M B i v w'
  | 0, v, w, w', h, _ => h
  | 1, v, w, w', h, _ => h
  | 2, v, w, w', h, _ => h
  | 3, v, w, w', h, _ => h
  | 4, v, w, w', h, _ => h
  | 5, v, w, w', h, _ => h
  | 6, v, w, w', h, _ => h
  | 7, v, w, w', h, _ => h
  | 8, v, w, w', h, _ => h
  | 9, v, w, w', h, _ => h
  | 10, v, w, w', h, _ => h
  | 11, v, w, w', h, _ => h
  | 12, v, w, w', h, _ => h
  | 13, v, w, w', h, _ => h
  | 14, v, w, w', h, _ => h
  | 15, v, w, w', h, _ => h
  | 16, v, w, w', h, _ => h
  | 17, v, w, w', h, _ => h
  | 18, v, w, w', h, _ => h
  | 19, v, w, w', h, _ => h
  | 20, v, w, w', h, _ => h
  | 21, v, w, w', h, _ => h
  | 22, v, w, w', h, _ => h
  | 23, v, w, w', h, _ => h
  | 24, v, w, w', h, _ => h
  | i + 25, v, w, w', h, hb => trivial
def cqOps : List Op := [.move (.tmp 5),
  .binOp .neq 59 (.tmp 9) (.const (.pointer none)) 59,
  .move (.tmp 10),
  .move (.tmp 0),
  .move (.tmp 5),
  .call { callee := .value (.func 29), args := #[.tmp 12, .tmp 13], argTypes := #[24, 59] },
  .pick (.tmp 11) (.tmp 14) (.const (.bool false)),
  .move (.tmp 15),
  .move (.tmp 5),
  .nilCheck (.tmp 17),
  .fieldAddr 68 (.tmp 18) 4,
  .load 66 (.tmp 19),
  .move (.tmp 5),
  .nilCheck (.tmp 21),
  .fieldAddr 68 (.tmp 22) 0,
  .load 64 (.tmp 23),
  .call { callee := .value (.func 30), args := #[.tmp 20, .tmp 24], argTypes := #[66, 64] },
  .move (.tmp 0),
  .nilCheck (.tmp 26),
  .fieldAddr 72 (.tmp 27) 0,
  .load 53 (.tmp 28),
  .call { callee := .value (.func 31), args := #[.tmp 29], argTypes := #[53] },
  .binOp .geq 3 (.tmp 25) (.tmp 30) 3,
  .pick (.tmp 16) (.tmp 31) (.const (.bool false)),
  .assign (.tmp 32)]
def cqNeeds : Nat → List Nat
  | 0 => []
  | 1 => [0]
  | 2 => [1]
  | 3 => []
  | 4 => []
  | 5 => [3, 4]
  | 6 => [2, 5]
  | 7 => [6]
  | 8 => []
  | 9 => []
  | 10 => []
  | 11 => []
  | 12 => []
  | 13 => []
  | 14 => []
  | 15 => []
  | 16 => []
  | 17 => []
  | 18 => []
  | 19 => []
  | 20 => []
  | 21 => []
  | 22 => []
  | 23 => [7, 22]
  | 24 => [23]
  | _ => []
set_option maxRecDepth 100000 in
set_option maxHeartbeats 3200000 in
theorem cq_step {ops : Array Oper} {Q : Exit → Act → World → Prop} {a0 : Act} {w0 : World} (s g cbk : Nat) (A : Option Addr) (n cp : Nat) (C : List Value) (f : Int) (c M : Nat) (B : Bool) (hops : ((List.range 25).map fun i => (ops[i]?).map Oper.op) = cqOps.map some)
    (hnd : ((List.range 25).all fun i => (cqNeeds i).all fun j => ((ops[i]?).map fun o => o.after.any fun e => Region.binds .any e && (e.on == j)).getD false) = true)
    (x0 : a0.tmps[0]? = some (.pointer (some ⟨g, 0, none⟩))) (x5 : a0.tmps[5]? = some (.pointer (some ⟨s, 0, none⟩)))
    (hI : ∀ w, Below w0.heap.size w0 w → Calls Try.prog 29 #[.pointer (some ⟨g, 0, none⟩), .pointer (some ⟨s, 0, none⟩)] w fun e w' => e = .returned (.bool false) ∧ Below w.heap.size w w') :
    ∀ i o, i < 25 → cqS i = false → ops[i]? = some o → o.dst = some (cqD i) → ∀ a w, Base cqD 25 a0 a → Below w0.heap.size w0 w → Region.wanted o (yielded ops a.tmps) = true →
      (∀ j, (o.after.any fun e => Region.binds .any e && (e.on == j)) = true → Has cqD (cqR s g cbk A n cp C f c M B) j a w) →
      ∀ K : Act → World → Prop, (∀ v w', cqR s g cbk A n cp C f c M B i v w' → Below w.heap.size w w' → K (a.put o.dst v) w') → wpOp Try.prog ops Q i K a w := by
  intro i o hi hs ho hds a w hbase hbl hwt hdep0 K hK
  have hop : some o.op = cqOps[i]? := by
    have h1 : ((List.range 25).map fun i => (ops[i]?).map Oper.op)[i]? = some (some o.op) := by
      rw [List.getElem?_map, List.getElem?_range hi]; simp only [Option.map_some, ho]
    rw [hops, List.getElem?_map] at h1
    cases h2 : cqOps[i]? with
    | none => rw [h2] at h1; cases h1
    | some y => rw [h2] at h1; simp only [Option.map_some, Option.some.injEq] at h1; rw [h1]
  have hdep : ∀ j, j ∈ cqNeeds i → Has cqD (cqR s g cbk A n cp C f c M B) j a w := fun j hj => by
    have h1 := List.all_eq_true.1 (List.all_eq_true.1 hnd i (List.mem_range.2 hi)) j hj
    rw [ho] at h1
    exact hdep0 j h1
  clear hdep0 hops hnd
  match i, hi, hs, ho, hop, hds, hdep, hK with
  | 0, _, hs, ho, hop, hds, hdep, hK =>
    have hop : o.op = .move (.tmp 5) := Option.some.inj hop
    have hu5 : a.tmps[5]? = some (.pointer (some ⟨s, 0, none⟩)) := (hbase.2.2 5 (by decide)).trans x5
    have e5 : a.eval (.tmp 5) = _ := ev_tmp hu5
    refine st3 ho hwt (v := _) (w' := w) ?_ (hK _ w rfl (Below.refl _ _))
    unfold execOp
    rw [hop, ← e5]
    rfl
  | 1, _, hs, ho, hop, hds, hdep, hK =>
    have hop : o.op = .binOp .neq 59 (.tmp 9) (.const (.pointer none)) 59 := Option.some.inj hop
    obtain ⟨u9, hu9, hv9⟩ := hdep 0 (by decide)
    have hv9' : u9 = .pointer (some ⟨s, 0, none⟩) := hv9
    subst hv9'
    have e9 : a.eval (.tmp 9) = _ := ev_tmp hu9
    refine st3 ho hwt (v := .bool true) (w' := w) ?_ (hK _ w rfl (Below.refl _ _))
    unfold execOp
    simp only [hop, e9]
    first | rfl | (go_simp; done) | (go_simp; simp; done) | (go_simp; intro h; omega)
  | 2, _, hs, ho, hop, hds, hdep, hK =>
    have hop : o.op = .move (.tmp 10) := Option.some.inj hop
    obtain ⟨u10, hu10, hv10⟩ := hdep 1 (by decide)
    have hv10' : u10 = .bool true := hv10
    subst hv10'
    have e10 : a.eval (.tmp 10) = _ := ev_tmp hu10
    refine st3 ho hwt (v := _) (w' := w) ?_ (hK _ w rfl (Below.refl _ _))
    unfold execOp
    rw [hop, ← e10]
    rfl
  | 3, _, hs, ho, hop, hds, hdep, hK =>
    have hop : o.op = .move (.tmp 0) := Option.some.inj hop
    have hu0 : a.tmps[0]? = some (.pointer (some ⟨g, 0, none⟩)) := (hbase.2.2 0 (by decide)).trans x0
    have e0 : a.eval (.tmp 0) = _ := ev_tmp hu0
    refine st3 ho hwt (v := _) (w' := w) ?_ (hK _ w rfl (Below.refl _ _))
    unfold execOp
    rw [hop, ← e0]
    rfl
  | 4, _, hs, ho, hop, hds, hdep, hK =>
    have hop : o.op = .move (.tmp 5) := Option.some.inj hop
    have hu5 : a.tmps[5]? = some (.pointer (some ⟨s, 0, none⟩)) := (hbase.2.2 5 (by decide)).trans x5
    have e5 : a.eval (.tmp 5) = _ := ev_tmp hu5
    refine st3 ho hwt (v := _) (w' := w) ?_ (hK _ w rfl (Below.refl _ _))
    unfold execOp
    rw [hop, ← e5]
    rfl
  | 5, _, hs, ho, hop, hds, hdep, hK =>
    have hop : o.op = .call { callee := .value (.func 29), args := #[.tmp 12, .tmp 13], argTypes := #[24, 59] } := Option.some.inj hop
    obtain ⟨u12, hu12, hv12⟩ := hdep 3 (by decide)
    have hv12' : u12 = .pointer (some ⟨g, 0, none⟩) := hv12
    subst hv12'
    have e12 : a.eval (.tmp 12) = _ := ev_tmp hu12
    obtain ⟨u13, hu13, hv13⟩ := hdep 4 (by decide)
    have hv13' : u13 = .pointer (some ⟨s, 0, none⟩) := hv13
    subst hv13'
    have e13 : a.eval (.tmp 13) = _ := ev_tmp hu13
    refine st3_call ho hwt (f := 29) (vals := #[.pointer (some ⟨g, 0, none⟩), .pointer (some ⟨s, 0, none⟩)]) (Z := fun v w' => v = .bool false ∧ Below w.heap.size w w') ?_ ?_ ?_
    · unfold execOp
      simp only [hop, e12, e13, resolve, invoke, Sem.run_bind, Sem.run_pure, Result.andThen_ok, List.map_toArray, List.map_cons, List.map_nil]
      first | rfl | exact enters_of Try.func29 (by kernel_rfl) rfl _ _
    · exact (hI w hbl).mono fun e w' ⟨he, h2⟩ => ⟨_, he, rfl, h2⟩
    · rintro v w' ⟨h1, h2⟩
      exact hK v w' h1 h2
  | 6, _, hs, ho, hop, hds, hdep, hK =>
    have hop : o.op = .pick (.tmp 11) (.tmp 14) (.const (.bool false)) := Option.some.inj hop
    obtain ⟨u11, hu11, hv11⟩ := hdep 2 (by decide)
    have hv11' : u11 = .bool true := hv11
    subst hv11'
    have e11 : a.eval (.tmp 11) = _ := ev_tmp hu11
    obtain ⟨u14, hu14, hv14⟩ := hdep 5 (by decide)
    have hv14' : u14 = .bool false := hv14
    subst hv14'
    have e14 : a.eval (.tmp 14) = _ := ev_tmp hu14
    refine st3 ho hwt (v := .bool false) (w' := w) ?_ (hK _ w rfl (Below.refl _ _))
    unfold execOp
    simp only [hop, e11, e14]
    first | rfl | (go_simp; done) | (go_simp; simp; done) | (go_simp; intro h; omega)
  | 7, _, hs, ho, hop, hds, hdep, hK =>
    have hop : o.op = .move (.tmp 15) := Option.some.inj hop
    obtain ⟨u15, hu15, hv15⟩ := hdep 6 (by decide)
    have hv15' : u15 = .bool false := hv15
    subst hv15'
    have e15 : a.eval (.tmp 15) = _ := ev_tmp hu15
    refine st3 ho hwt (v := _) (w' := w) ?_ (hK _ w rfl (Below.refl _ _))
    unfold execOp
    rw [hop, ← e15]
    rfl
  | 8, _, hs, ho, hop, hds, hdep, hK =>
    exact absurd hs (by decide)
  | 9, _, hs, ho, hop, hds, hdep, hK =>
    exact absurd hs (by decide)
  | 10, _, hs, ho, hop, hds, hdep, hK =>
    exact absurd hs (by decide)
  | 11, _, hs, ho, hop, hds, hdep, hK =>
    exact absurd hs (by decide)
  | 12, _, hs, ho, hop, hds, hdep, hK =>
    exact absurd hs (by decide)
  | 13, _, hs, ho, hop, hds, hdep, hK =>
    exact absurd hs (by decide)
  | 14, _, hs, ho, hop, hds, hdep, hK =>
    exact absurd hs (by decide)
  | 15, _, hs, ho, hop, hds, hdep, hK =>
    exact absurd hs (by decide)
  | 16, _, hs, ho, hop, hds, hdep, hK =>
    exact absurd hs (by decide)
  | 17, _, hs, ho, hop, hds, hdep, hK =>
    exact absurd hs (by decide)
  | 18, _, hs, ho, hop, hds, hdep, hK =>
    exact absurd hs (by decide)
  | 19, _, hs, ho, hop, hds, hdep, hK =>
    exact absurd hs (by decide)
  | 20, _, hs, ho, hop, hds, hdep, hK =>
    exact absurd hs (by decide)
  | 21, _, hs, ho, hop, hds, hdep, hK =>
    exact absurd hs (by decide)
  | 22, _, hs, ho, hop, hds, hdep, hK =>
    exact absurd hs (by decide)
  | 23, _, hs, ho, hop, hds, hdep, hK =>
    have hop : o.op = .pick (.tmp 16) (.tmp 31) (.const (.bool false)) := Option.some.inj hop
    obtain ⟨u16, hu16, hv16⟩ := hdep 7 (by decide)
    have hv16' : u16 = .bool false := hv16
    subst hv16'
    have e16 : a.eval (.tmp 16) = _ := ev_tmp hu16
    obtain ⟨u31, hu31, hv31⟩ := hdep 22 (by decide)
    have hv31' : u31 = undef := hv31
    subst hv31'
    have e31 : a.eval (.tmp 31) = _ := ev_tmp hu31
    refine st3 ho hwt (v := .bool false) (w' := w) ?_ (hK _ w rfl (Below.refl _ _))
    unfold execOp
    simp only [hop, e16, e31]
    first | rfl | (go_simp; done) | (go_simp; simp; done) | (go_simp; intro h; omega)
  | 24, _, hs, ho, hop, hds, hdep, hK =>
    have hop : o.op = .assign (.tmp 32) := Option.some.inj hop
    obtain ⟨u32, hu32, hv32⟩ := hdep 23 (by decide)
    have hv32' : u32 = .bool false := hv32
    subst hv32'
    have e32 : a.eval (.tmp 32) = _ := ev_tmp hu32
    refine st3 ho hwt (v := _) (w' := w) ?_ (hK _ w rfl (Below.refl _ _))
    unfold execOp
    rw [hop, ← e32]
    rfl
  | i + 25, hi, _, _, _, _, _, _ => exact absurd hi (by omega)
def ctR (s g cbk : Nat) (A : Option Addr) (n cp : Nat) (C : List Value) (f : Int) (c M : Nat) (B : Bool) : Nat → Value → World → Prop
  | 0 => fun v w => v = .pointer (some ⟨s, 0, none⟩)
  | 1 => fun v w => v = .bool true
  | 2 => fun v w => v = .bool true
  | 3 => fun v w => v = .pointer (some ⟨g, 0, none⟩)
  | 4 => fun v w => v = .pointer (some ⟨s, 0, none⟩)
  | 5 => fun v w => v = .bool true
  | 6 => fun v w => v = .bool true
  | 7 => fun v w => v = .bool true
  | 8 => fun v w => v = .pointer (some ⟨s, 0, none⟩)
  | 9 => fun v w => v = .pointer (some ⟨s, 0, none⟩)
  | 10 => fun v w => v = .pointer (some ⟨s, 70, none⟩)
  | 11 => fun v w => v = .map (some cbk)
  | 12 => fun v w => v = .pointer (some ⟨s, 0, none⟩)
  | 13 => fun v w => v = .pointer (some ⟨s, 0, none⟩)
  | 14 => fun v w => v = .pointer (some ⟨s, 0, none⟩)
  | 15 => fun v w => v = .agg C.toArray
  | 16 => fun v w => v = .int .i64 (c : Int)
  | 17 => fun v w => v = .pointer (some ⟨g, 0, none⟩)
  | 18 => fun v w => v = .pointer (some ⟨g, 0, none⟩)
  | 19 => fun v w => v = .pointer (some ⟨g, 0, none⟩)
  | 20 => fun v w => v = .agg #[.int .i64 f, .slice A n cp]
  | 21 => fun v w => v = .int .i64 (M : Int)
  | 22 => fun v w => v = .bool B
  | 23 => fun v w => v = .bool B
  | 24 => fun v w => v = .bool B
  | _ => fun _ _ => True
def ctD (i : Nat) : Nat := ([9, 10, 11, 12, 13, 14, 15, 16, 17, 18, 19, 20, 21, 22, 23, 24, 25, 26, 27, 28, 29, 30, 31, 32, 4] : List Nat).getD i 0
def ctG : Nat → Option Bool
  | 2 => some true
  | 7 => some true
  | _ => none
def ctS (i : Nat) : Bool := ([] : List Nat).contains i
theorem ct_gb (s g cbk : Nat) (A : Option Addr) (n cp : Nat) (C : List Value) (f : Int) (c M : Nat) (B : Bool) : ∀ i b v w, ctG i = some b → ctR s g cbk A n cp C f c M B i v w → v = .bool b := by
  intro i b v w h hR
  unfold ctG at h
  split at h
  all_goals first | (injection h with h; subst h; exact hR) | cases h
theorem ct_sk (s g cbk : Nat) (A : Option Addr) (n cp : Nat) (C : List Value) (f : Int) (c M : Nat) (B : Bool) : ∀ i w, ctS i = true → ctR s g cbk A n cp C f c M B i undef w := by
  intro i w h
  simp [ctS] at h
theorem ct_on (s g cbk : Nat) (A : Option Addr) (n cp : Nat) (C : List Value) (f : Int) (c M : Nat) (B : Bool) : ∀ i v w w', ctR s g cbk A n cp C f c M B i v w → Below w.heap.size w w' → ctR s g cbk A n cp C f c M B i v w'
  | 0, v, w, w', h, _ => h
  | 1, v, w, w', h, _ => h
  | 2, v, w, w', h, _ => h
  | 3, v, w, w', h, _ => h
  | 4, v, w, w', h, _ => h
  | 5, v, w, w', h, _ => h
  | 6, v, w, w', h, _ => h
  | 7, v, w, w', h, _ => h
  | 8, v, w, w', h, _ => h
  | 9, v, w, w', h, _ => h
  | 10, v, w, w', h, _ => h
  | 11, v, w, w', h, _ => h
  | 12, v, w, w', h, _ => h
  | 13, v, w, w', h, _ => h
  | 14, v, w, w', h, _ => h
  | 15, v, w, w', h, _ => h
  | 16, v, w, w', h, _ => h
  | 17, v, w, w', h, _ => h
  | 18, v, w, w', h, _ => h
  | 19, v, w, w', h, _ => h
  | 20, v, w, w', h, _ => h
  | 21, v, w, w', h, _ => h
  | 22, v, w, w', h, _ => h
  | 23, v, w, w', h, _ => h
  | 24, v, w, w', h, _ => h
  | i + 25, v, w, w', h, hb => trivial
def ctOps : List Op := [.move (.tmp 5),
  .binOp .neq 59 (.tmp 9) (.const (.pointer none)) 59,
  .move (.tmp 10),
  .move (.tmp 0),
  .move (.tmp 5),
  .call { callee := .value (.func 29), args := #[.tmp 12, .tmp 13], argTypes := #[24, 59] },
  .pick (.tmp 11) (.tmp 14) (.const (.bool false)),
  .move (.tmp 15),
  .move (.tmp 5),
  .nilCheck (.tmp 17),
  .fieldAddr 68 (.tmp 18) 4,
  .load 66 (.tmp 19),
  .move (.tmp 5),
  .nilCheck (.tmp 21),
  .fieldAddr 68 (.tmp 22) 0,
  .load 64 (.tmp 23),
  .call { callee := .value (.func 30), args := #[.tmp 20, .tmp 24], argTypes := #[66, 64] },
  .move (.tmp 0),
  .nilCheck (.tmp 26),
  .fieldAddr 72 (.tmp 27) 0,
  .load 53 (.tmp 28),
  .call { callee := .value (.func 31), args := #[.tmp 29], argTypes := #[53] },
  .binOp .geq 3 (.tmp 25) (.tmp 30) 3,
  .pick (.tmp 16) (.tmp 31) (.const (.bool false)),
  .assign (.tmp 32)]
def ctNeeds : Nat → List Nat
  | 0 => []
  | 1 => [0]
  | 2 => [1]
  | 3 => []
  | 4 => []
  | 5 => [3, 4]
  | 6 => [2, 5]
  | 7 => [6]
  | 8 => []
  | 9 => [8]
  | 10 => [9]
  | 11 => [10]
  | 12 => []
  | 13 => [12]
  | 14 => [13]
  | 15 => [14]
  | 16 => [11, 15]
  | 17 => []
  | 18 => [17]
  | 19 => [18]
  | 20 => [19]
  | 21 => [20]
  | 22 => [16, 21]
  | 23 => [7, 22]
  | 24 => [23]
  | _ => []
set_option maxRecDepth 100000 in
set_option maxHeartbeats 3200000 in
theorem ct_step {ops : Array Oper} {Q : Exit → Act → World → Prop} {a0 : Act} {w0 : World} (s g cbk : Nat) (A : Option Addr) (n cp : Nat) (C : List Value) (f : Int) (c M : Nat) (B : Bool) (hops : ((List.range 25).map fun i => (ops[i]?).map Oper.op) = ctOps.map some)
    (hnd : ((List.range 25).all fun i => (ctNeeds i).all fun j => ((ops[i]?).map fun o => o.after.any fun e => Region.binds .any e && (e.on == j)).getD false) = true)
    (x0 : a0.tmps[0]? = some (.pointer (some ⟨g, 0, none⟩))) (x5 : a0.tmps[5]? = some (.pointer (some ⟨s, 0, none⟩)))
    (hI : ∀ w, Below w0.heap.size w0 w → Calls Try.prog 29 #[.pointer (some ⟨g, 0, none⟩), .pointer (some ⟨s, 0, none⟩)] w fun e w' => e = .returned (.bool true) ∧ Below w.heap.size w w')
    {cs cg : List Value} (hS : Blk w0 s 68 cs) (h70 : cs[70]? = some (.map (some cbk))) (hC : (cs.drop 0).take 34 = C) (hiC : (Try.prog.info? 64).map (·.size) = some C.length)
    (hV : ∀ w, Below w0.heap.size w0 w → Calls Try.prog 30 #[.map (some cbk), .agg C.toArray] w fun e w' => e = .returned (.int .i64 (c : Int)) ∧ Below w.heap.size w w')
    (hG : Blk w0 g 72 cg) (hg0 : cg[0]? = some (.int .i64 f)) (hg1 : cg[1]? = some (.slice A n cp))
    (hM : ∀ w, Below w0.heap.size w0 w → Calls Try.prog 31 #[.agg #[.int .i64 f, .slice A n cp]] w fun e w' => e = .returned (.int .i64 (M : Int)) ∧ Below w.heap.size w w') (hBd : decide ((M : Int) ≤ (c : Int)) = B) :
    ∀ i o, i < 25 → ctS i = false → ops[i]? = some o → o.dst = some (ctD i) → ∀ a w, Base ctD 25 a0 a → Below w0.heap.size w0 w → Region.wanted o (yielded ops a.tmps) = true →
      (∀ j, (o.after.any fun e => Region.binds .any e && (e.on == j)) = true → Has ctD (ctR s g cbk A n cp C f c M B) j a w) →
      ∀ K : Act → World → Prop, (∀ v w', ctR s g cbk A n cp C f c M B i v w' → Below w.heap.size w w' → K (a.put o.dst v) w') → wpOp Try.prog ops Q i K a w := by
  intro i o hi hs ho hds a w hbase hbl hwt hdep0 K hK
  have hop : some o.op = ctOps[i]? := by
    have h1 : ((List.range 25).map fun i => (ops[i]?).map Oper.op)[i]? = some (some o.op) := by
      rw [List.getElem?_map, List.getElem?_range hi]; simp only [Option.map_some, ho]
    rw [hops, List.getElem?_map] at h1
    cases h2 : ctOps[i]? with
    | none => rw [h2] at h1; cases h1
    | some y => rw [h2] at h1; simp only [Option.map_some, Option.some.injEq] at h1; rw [h1]
  have hdep : ∀ j, j ∈ ctNeeds i → Has ctD (ctR s g cbk A n cp C f c M B) j a w := fun j hj => by
    have h1 := List.all_eq_true.1 (List.all_eq_true.1 hnd i (List.mem_range.2 hi)) j hj
    rw [ho] at h1
    exact hdep0 j h1
  clear hdep0 hops hnd
  match i, hi, hs, ho, hop, hds, hdep, hK with
  | 0, _, hs, ho, hop, hds, hdep, hK =>
    have hop : o.op = .move (.tmp 5) := Option.some.inj hop
    have hu5 : a.tmps[5]? = some (.pointer (some ⟨s, 0, none⟩)) := (hbase.2.2 5 (by decide)).trans x5
    have e5 : a.eval (.tmp 5) = _ := ev_tmp hu5
    refine st3 ho hwt (v := _) (w' := w) ?_ (hK _ w rfl (Below.refl _ _))
    unfold execOp
    rw [hop, ← e5]
    rfl
  | 1, _, hs, ho, hop, hds, hdep, hK =>
    have hop : o.op = .binOp .neq 59 (.tmp 9) (.const (.pointer none)) 59 := Option.some.inj hop
    obtain ⟨u9, hu9, hv9⟩ := hdep 0 (by decide)
    have hv9' : u9 = .pointer (some ⟨s, 0, none⟩) := hv9
    subst hv9'
    have e9 : a.eval (.tmp 9) = _ := ev_tmp hu9
    refine st3 ho hwt (v := .bool true) (w' := w) ?_ (hK _ w rfl (Below.refl _ _))
    unfold execOp
    simp only [hop, e9]
    first | rfl | (go_simp; done) | (go_simp; simp; done) | (go_simp; intro h; omega)
  | 2, _, hs, ho, hop, hds, hdep, hK =>
    have hop : o.op = .move (.tmp 10) := Option.some.inj hop
    obtain ⟨u10, hu10, hv10⟩ := hdep 1 (by decide)
    have hv10' : u10 = .bool true := hv10
    subst hv10'
    have e10 : a.eval (.tmp 10) = _ := ev_tmp hu10
    refine st3 ho hwt (v := _) (w' := w) ?_ (hK _ w rfl (Below.refl _ _))
    unfold execOp
    rw [hop, ← e10]
    rfl
  | 3, _, hs, ho, hop, hds, hdep, hK =>
    have hop : o.op = .move (.tmp 0) := Option.some.inj hop
    have hu0 : a.tmps[0]? = some (.pointer (some ⟨g, 0, none⟩)) := (hbase.2.2 0 (by decide)).trans x0
    have e0 : a.eval (.tmp 0) = _ := ev_tmp hu0
    refine st3 ho hwt (v := _) (w' := w) ?_ (hK _ w rfl (Below.refl _ _))
    unfold execOp
    rw [hop, ← e0]
    rfl
  | 4, _, hs, ho, hop, hds, hdep, hK =>
    have hop : o.op = .move (.tmp 5) := Option.some.inj hop
    have hu5 : a.tmps[5]? = some (.pointer (some ⟨s, 0, none⟩)) := (hbase.2.2 5 (by decide)).trans x5
    have e5 : a.eval (.tmp 5) = _ := ev_tmp hu5
    refine st3 ho hwt (v := _) (w' := w) ?_ (hK _ w rfl (Below.refl _ _))
    unfold execOp
    rw [hop, ← e5]
    rfl
  | 5, _, hs, ho, hop, hds, hdep, hK =>
    have hop : o.op = .call { callee := .value (.func 29), args := #[.tmp 12, .tmp 13], argTypes := #[24, 59] } := Option.some.inj hop
    obtain ⟨u12, hu12, hv12⟩ := hdep 3 (by decide)
    have hv12' : u12 = .pointer (some ⟨g, 0, none⟩) := hv12
    subst hv12'
    have e12 : a.eval (.tmp 12) = _ := ev_tmp hu12
    obtain ⟨u13, hu13, hv13⟩ := hdep 4 (by decide)
    have hv13' : u13 = .pointer (some ⟨s, 0, none⟩) := hv13
    subst hv13'
    have e13 : a.eval (.tmp 13) = _ := ev_tmp hu13
    refine st3_call ho hwt (f := 29) (vals := #[.pointer (some ⟨g, 0, none⟩), .pointer (some ⟨s, 0, none⟩)]) (Z := fun v w' => v = .bool true ∧ Below w.heap.size w w') ?_ ?_ ?_
    · unfold execOp
      simp only [hop, e12, e13, resolve, invoke, Sem.run_bind, Sem.run_pure, Result.andThen_ok, List.map_toArray, List.map_cons, List.map_nil]
      first | rfl | exact enters_of Try.func29 (by kernel_rfl) rfl _ _
    · exact (hI w hbl).mono fun e w' ⟨he, h2⟩ => ⟨_, he, rfl, h2⟩
    · rintro v w' ⟨h1, h2⟩
      exact hK v w' h1 h2
  | 6, _, hs, ho, hop, hds, hdep, hK =>
    have hop : o.op = .pick (.tmp 11) (.tmp 14) (.const (.bool false)) := Option.some.inj hop
    obtain ⟨u11, hu11, hv11⟩ := hdep 2 (by decide)
    have hv11' : u11 = .bool true := hv11
    subst hv11'
    have e11 : a.eval (.tmp 11) = _ := ev_tmp hu11
    obtain ⟨u14, hu14, hv14⟩ := hdep 5 (by decide)
    have hv14' : u14 = .bool true := hv14
    subst hv14'
    have e14 : a.eval (.tmp 14) = _ := ev_tmp hu14
    refine st3 ho hwt (v := .bool true) (w' := w) ?_ (hK _ w rfl (Below.refl _ _))
    unfold execOp
    simp only [hop, e11, e14]
    first | rfl | (go_simp; done) | (go_simp; simp; done) | (go_simp; intro h; omega)
  | 7, _, hs, ho, hop, hds, hdep, hK =>
    have hop : o.op = .move (.tmp 15) := Option.some.inj hop
    obtain ⟨u15, hu15, hv15⟩ := hdep 6 (by decide)
    have hv15' : u15 = .bool true := hv15
    subst hv15'
    have e15 : a.eval (.tmp 15) = _ := ev_tmp hu15
    refine st3 ho hwt (v := _) (w' := w) ?_ (hK _ w rfl (Below.refl _ _))
    unfold execOp
    rw [hop, ← e15]
    rfl
  | 8, _, hs, ho, hop, hds, hdep, hK =>
    have hop : o.op = .move (.tmp 5) := Option.some.inj hop
    have hu5 : a.tmps[5]? = some (.pointer (some ⟨s, 0, none⟩)) := (hbase.2.2 5 (by decide)).trans x5
    have e5 : a.eval (.tmp 5) = _ := ev_tmp hu5
    refine st3 ho hwt (v := _) (w' := w) ?_ (hK _ w rfl (Below.refl _ _))
    unfold execOp
    rw [hop, ← e5]
    rfl
  | 9, _, hs, ho, hop, hds, hdep, hK =>
    have hop : o.op = .nilCheck (.tmp 17) := Option.some.inj hop
    obtain ⟨u17, hu17, hv17⟩ := hdep 8 (by decide)
    have hv17' : u17 = .pointer (some ⟨s, 0, none⟩) := hv17
    subst hv17'
    have e17 : a.eval (.tmp 17) = _ := ev_tmp hu17
    refine st3 ho hwt (v := .pointer (some ⟨s, 0, none⟩)) (w' := w) ?_ (hK _ w rfl (Below.refl _ _))
    unfold execOp
    simp only [hop, Option.map_some, Option.map_none, e17]
    first | rfl | (go_simp; done) | (go_simp; simp; done) | (go_simp; intro h; omega)
  | 10, _, hs, ho, hop, hds, hdep, hK =>
    have hop : o.op = .fieldAddr 68 (.tmp 18) 4 := Option.some.inj hop
    obtain ⟨u18, hu18, hv18⟩ := hdep 9 (by decide)
    have hv18' : u18 = .pointer (some ⟨s, 0, none⟩) := hv18
    subst hv18'
    have e18 : a.eval (.tmp 18) = _ := ev_tmp hu18
    refine st3 ho hwt (v := .pointer (some ⟨s, 70, none⟩)) (w' := w) ?_ (hK _ w rfl (Below.refl _ _))
    unfold execOp
    simp only [hop, Option.map_some, Option.map_none, e18]
    first | rfl | (go_simp; done) | (go_simp; simp; done) | (go_simp; intro h; omega)
  | 11, _, hs, ho, hop, hds, hdep, hK =>
    have hop : o.op = .load 66 (.tmp 19) := Option.some.inj hop
    obtain ⟨u19, hu19, hv19⟩ := hdep 10 (by decide)
    have hv19' : u19 = .pointer (some ⟨s, 70, none⟩) := hv19
    subst hv19'
    have e19 : a.eval (.tmp 19) = _ := ev_tmp hu19
    have k70 : w.cell? ⟨s, 70, none⟩ = some (.map (some cbk)) := (hS.below hbl hS.lt).cell h70
    refine st3 ho hwt (v := .map (some cbk)) (w' := w) ?_ (hK _ w rfl (Below.refl _ _))
    unfold execOp
    simp only [hop, Option.map_some, Option.map_none, e19]
    first | rfl | (go_simp; done) | (go_simp; simp; done) | (go_simp; intro h; omega)
  | 12, _, hs, ho, hop, hds, hdep, hK =>
    have hop : o.op = .move (.tmp 5) := Option.some.inj hop
    have hu5 : a.tmps[5]? = some (.pointer (some ⟨s, 0, none⟩)) := (hbase.2.2 5 (by decide)).trans x5
    have e5 : a.eval (.tmp 5) = _ := ev_tmp hu5
    refine st3 ho hwt (v := _) (w' := w) ?_ (hK _ w rfl (Below.refl _ _))
    unfold execOp
    rw [hop, ← e5]
    rfl
  | 13, _, hs, ho, hop, hds, hdep, hK =>
    have hop : o.op = .nilCheck (.tmp 21) := Option.some.inj hop
    obtain ⟨u21, hu21, hv21⟩ := hdep 12 (by decide)
    have hv21' : u21 = .pointer (some ⟨s, 0, none⟩) := hv21
    subst hv21'
    have e21 : a.eval (.tmp 21) = _ := ev_tmp hu21
    refine st3 ho hwt (v := .pointer (some ⟨s, 0, none⟩)) (w' := w) ?_ (hK _ w rfl (Below.refl _ _))
    unfold execOp
    simp only [hop, Option.map_some, Option.map_none, e21]
    first | rfl | (go_simp; done) | (go_simp; simp; done) | (go_simp; intro h; omega)
  | 14, _, hs, ho, hop, hds, hdep, hK =>
    have hop : o.op = .fieldAddr 68 (.tmp 22) 0 := Option.some.inj hop
    obtain ⟨u22, hu22, hv22⟩ := hdep 13 (by decide)
    have hv22' : u22 = .pointer (some ⟨s, 0, none⟩) := hv22
    subst hv22'
    have e22 : a.eval (.tmp 22) = _ := ev_tmp hu22
    refine st3 ho hwt (v := .pointer (some ⟨s, 0, none⟩)) (w' := w) ?_ (hK _ w rfl (Below.refl _ _))
    unfold execOp
    simp only [hop, Option.map_some, Option.map_none, e22]
    first | rfl | (go_simp; done) | (go_simp; simp; done) | (go_simp; intro h; omega)
  | 15, _, hs, ho, hop, hds, hdep, hK =>
    have hop : o.op = .load 64 (.tmp 23) := Option.some.inj hop
    obtain ⟨u23, hu23, hv23⟩ := hdep 14 (by decide)
    have hv23' : u23 = .pointer (some ⟨s, 0, none⟩) := hv23
    subst hv23'
    have e23 : a.eval (.tmp 23) = _ := ev_tmp hu23
    refine st3 ho hwt (v := .agg C.toArray) (w' := w) ?_ (hK _ w rfl (Below.refl _ _))
    unfold execOp
    simp only [hop, e23, Instr.loadAt, Instr.sureAddr, Sem.run_bind, Sem.run_pure, Result.andThen_ok, run_loadVar_mid w s 0 64 C _ ((hS.below hbl hS.lt).rangeFrom (show _ = C from hC)) Try.underlying64 rfl hiC]
  | 16, _, hs, ho, hop, hds, hdep, hK =>
    have hop : o.op = .call { callee := .value (.func 30), args := #[.tmp 20, .tmp 24], argTypes := #[66, 64] } := Option.some.inj hop
    obtain ⟨u20, hu20, hv20⟩ := hdep 11 (by decide)
    have hv20' : u20 = .map (some cbk) := hv20
    subst hv20'
    have e20 : a.eval (.tmp 20) = _ := ev_tmp hu20
    obtain ⟨u24, hu24, hv24⟩ := hdep 15 (by decide)
    have hv24' : u24 = .agg C.toArray := hv24
    subst hv24'
    have e24 : a.eval (.tmp 24) = _ := ev_tmp hu24
    refine st3_call ho hwt (f := 30) (vals := #[.map (some cbk), .agg C.toArray]) (Z := fun v w' => v = .int .i64 (c : Int) ∧ Below w.heap.size w w') ?_ ?_ ?_
    · unfold execOp
      simp only [hop, e20, e24, resolve, invoke, Sem.run_bind, Sem.run_pure, Result.andThen_ok, List.map_toArray, List.map_cons, List.map_nil]
      first | rfl | exact enters_of Try.func30 (by kernel_rfl) rfl _ _
    · exact (hV w hbl).mono fun e w' ⟨he, h2⟩ => ⟨_, he, rfl, h2⟩
    · rintro v w' ⟨h1, h2⟩
      exact hK v w' h1 h2
  | 17, _, hs, ho, hop, hds, hdep, hK =>
    have hop : o.op = .move (.tmp 0) := Option.some.inj hop
    have hu0 : a.tmps[0]? = some (.pointer (some ⟨g, 0, none⟩)) := (hbase.2.2 0 (by decide)).trans x0
    have e0 : a.eval (.tmp 0) = _ := ev_tmp hu0
    refine st3 ho hwt (v := _) (w' := w) ?_ (hK _ w rfl (Below.refl _ _))
    unfold execOp
    rw [hop, ← e0]
    rfl
  | 18, _, hs, ho, hop, hds, hdep, hK =>
    have hop : o.op = .nilCheck (.tmp 26) := Option.some.inj hop
    obtain ⟨u26, hu26, hv26⟩ := hdep 17 (by decide)
    have hv26' : u26 = .pointer (some ⟨g, 0, none⟩) := hv26
    subst hv26'
    have e26 : a.eval (.tmp 26) = _ := ev_tmp hu26
    refine st3 ho hwt (v := .pointer (some ⟨g, 0, none⟩)) (w' := w) ?_ (hK _ w rfl (Below.refl _ _))
    unfold execOp
    simp only [hop, Option.map_some, Option.map_none, e26]
    first | rfl | (go_simp; done) | (go_simp; simp; done) | (go_simp; intro h; omega)
  | 19, _, hs, ho, hop, hds, hdep, hK =>
    have hop : o.op = .fieldAddr 72 (.tmp 27) 0 := Option.some.inj hop
    obtain ⟨u27, hu27, hv27⟩ := hdep 18 (by decide)
    have hv27' : u27 = .pointer (some ⟨g, 0, none⟩) := hv27
    subst hv27'
    have e27 : a.eval (.tmp 27) = _ := ev_tmp hu27
    refine st3 ho hwt (v := .pointer (some ⟨g, 0, none⟩)) (w' := w) ?_ (hK _ w rfl (Below.refl _ _))
    unfold execOp
    simp only [hop, Option.map_some, Option.map_none, e27]
    first | rfl | (go_simp; done) | (go_simp; simp; done) | (go_simp; intro h; omega)
  | 20, _, hs, ho, hop, hds, hdep, hK =>
    have hop : o.op = .load 53 (.tmp 28) := Option.some.inj hop
    obtain ⟨u28, hu28, hv28⟩ := hdep 19 (by decide)
    have hv28' : u28 = .pointer (some ⟨g, 0, none⟩) := hv28
    subst hv28'
    have e28 : a.eval (.tmp 28) = _ := ev_tmp hu28
    have kg0 : w.cell? ⟨g, 0, none⟩ = some (.int .i64 f) := (hG.below hbl hG.lt).cell hg0
    have kg1 : w.cell? ⟨g, 1, none⟩ = some (.slice A n cp) := (hG.below hbl hG.lt).cell hg1
    refine st3 ho hwt (v := .agg #[.int .i64 f, .slice A n cp]) (w' := w) ?_ (hK _ w rfl (Below.refl _ _))
    unfold execOp
    simp only [hop, Option.map_some, Option.map_none, e28]
    first | rfl | (go_simp; done) | (go_simp; simp; done) | (go_simp; intro h; omega)
  | 21, _, hs, ho, hop, hds, hdep, hK =>
    have hop : o.op = .call { callee := .value (.func 31), args := #[.tmp 29], argTypes := #[53] } := Option.some.inj hop
    obtain ⟨u29, hu29, hv29⟩ := hdep 20 (by decide)
    have hv29' : u29 = .agg #[.int .i64 f, .slice A n cp] := hv29
    subst hv29'
    have e29 : a.eval (.tmp 29) = _ := ev_tmp hu29
    refine st3_call ho hwt (f := 31) (vals := #[.agg #[.int .i64 f, .slice A n cp]]) (Z := fun v w' => v = .int .i64 (M : Int) ∧ Below w.heap.size w w') ?_ ?_ ?_
    · unfold execOp
      simp only [hop, e29, resolve, invoke, Sem.run_bind, Sem.run_pure, Result.andThen_ok, List.map_toArray, List.map_cons, List.map_nil]
      first | rfl | exact enters_of Try.func31 (by kernel_rfl) rfl _ _
    · exact (hM w hbl).mono fun e w' ⟨he, h2⟩ => ⟨_, he, rfl, h2⟩
    · rintro v w' ⟨h1, h2⟩
      exact hK v w' h1 h2
  | 22, _, hs, ho, hop, hds, hdep, hK =>
    have hop : o.op = .binOp .geq 3 (.tmp 25) (.tmp 30) 3 := Option.some.inj hop
    obtain ⟨u25, hu25, hv25⟩ := hdep 16 (by decide)
    have hv25' : u25 = .int .i64 (c : Int) := hv25
    subst hv25'
    have e25 : a.eval (.tmp 25) = _ := ev_tmp hu25
    obtain ⟨u30, hu30, hv30⟩ := hdep 21 (by decide)
    have hv30' : u30 = .int .i64 (M : Int) := hv30
    subst hv30'
    have e30 : a.eval (.tmp 30) = _ := ev_tmp hu30
    refine st3 ho hwt (v := .bool B) (w' := w) ?_ (hK _ w rfl (Below.refl _ _))
    unfold execOp
    simp only [hop, e25, e30]
    rw [← hBd]
    go_simp
    try rfl
  | 23, _, hs, ho, hop, hds, hdep, hK =>
    have hop : o.op = .pick (.tmp 16) (.tmp 31) (.const (.bool false)) := Option.some.inj hop
    obtain ⟨u16, hu16, hv16⟩ := hdep 7 (by decide)
    have hv16' : u16 = .bool true := hv16
    subst hv16'
    have e16 : a.eval (.tmp 16) = _ := ev_tmp hu16
    obtain ⟨u31, hu31, hv31⟩ := hdep 22 (by decide)
    have hv31' : u31 = .bool B := hv31
    subst hv31'
    have e31 : a.eval (.tmp 31) = _ := ev_tmp hu31
    refine st3 ho hwt (v := .bool B) (w' := w) ?_ (hK _ w rfl (Below.refl _ _))
    unfold execOp
    simp only [hop, e16, e31]
    first | rfl | (go_simp; done) | (go_simp; rfl)
  | 24, _, hs, ho, hop, hds, hdep, hK =>
    have hop : o.op = .assign (.tmp 32) := Option.some.inj hop
    obtain ⟨u32, hu32, hv32⟩ := hdep 23 (by decide)
    have hv32' : u32 = .bool B := hv32
    subst hv32'
    have e32 : a.eval (.tmp 32) = _ := ev_tmp hu32
    refine st3 ho hwt (v := _) (w' := w) ?_ (hK _ w rfl (Below.refl _ _))
    unfold execOp
    rw [hop, ← e32]
    rfl
  | i + 25, hi, _, _, _, _, _, _ => exact absurd hi (by omega)

section
variable {w : World} {U : Nat → Prop} {g : Nat} {σ : St} {ab cap m : Nat} {sb qb rb cb : Nat → Nat} {role : Nat → Nat}
set_option maxRecDepth 100000 in
set_option maxHeartbeats 3200000 in
theorem committed_in (h : StIn w U g σ all8 ab cap m sb qb rb cb role) {seq : Int} (hs : Wf seq) (B : Bool) (hB : comS σ seq = B) : Calls Try.prog 12 #[.pointer (some ⟨g, 0, none⟩), .int .i64 seq] w fun e w' => e = .returned (.bool B) ∧ Below w.heap.size w w' := by
  have Ho := Lib.hid (of_in h hs)
  unfold comS at hB
  cases hix : idx σ seq with
  | none =>
    rw [hix] at hB Ho
    simp only [Option.map_none] at Ho
    simp only at hB
    subst hB
    clear h hix
    go_enter Try.func12, Try.ntmps12
    go_wp2_with (go_at_call 28; refine Ho.out.mono ?_; rintro e w' ⟨rfl, rfl⟩)
    refine region_rule4 (P := Try.prog) 25 33 cnD cnG cnS (cnR 0 g 0 none 0 0 [] 0 0 0 true) _ _ (by kernel_rfl) rfl rfl (by kernel_rfl) (by decide +kernel) (cn_gb 0 g 0 none 0 0 [] 0 0 0 true) (cn_sk 0 g 0 none 0 0 [] 0 0 0 true) (cn_on 0 g 0 none 0 0 [] 0 0 0 true) (cn_step 0 g 0 none 0 0 [] 0 0 0 true (by rfl) (by kernel_rfl) rfl rfl) ?fin1
    case fin1 =>
      intro a w6 hbase hbl hall
      obtain ⟨v4, hv4, hR4⟩ := hall 24 (by decide)
      have hR4' : v4 = .bool false := hR4
      subst hR4'
      obtain ⟨g, hge, hg⟩ := base_lit hbase [9, 10, 11, 12, 13, 14, 15, 16, 17, 18, 19, 20, 21, 22, 23, 24, 25, 26, 27, 28, 29, 30, 31, 32, 4] (by rfl)
      have q4 : g 4 = .bool false := hge 4 _ hv4
      simp only [List.foldl_cons, List.foldl_nil, List.setIfInBounds_toArray, List.set_cons_zero, List.set_cons_succ, q4] at hg
      rw [hg]
      go_wp2
      go_ret
      exact ⟨rfl, hbl⟩
  | some i =>
    rw [hix] at hB Ho
    simp only [Option.map_some] at Ho
    simp only at hB
    have hi8 := (idx_lt hix).1
    have hs0 := h.s i hi8 rfl
    have hok := h.ok.s i hi8
    obtain ⟨p, hp⟩ : ∃ p, preB σ (σ.s i) = p := ⟨_, rfl⟩
    have hI := fun w1 (hb : Below w.heap.size w w1) => isPrepared_in (h.below hb) hi8 p hp
    cases p with
    | false =>
      have hB' : B = false := by rw [← hB]; unfold comB; rw [hp]; rfl
      subst hB'
      have HI := Lib.hid hI
      clear h hix hB hs0 hok hI
      generalize sb i = s at *
      go_enter Try.func12, Try.ntmps12
      go_wp2_with (go_at_call 28; refine Ho.out.mono ?_; rintro e w' ⟨rfl, rfl⟩)
      refine region_rule4 (P := Try.prog) 25 33 cqD cqG cqS (cqR s g 0 none 0 0 [] 0 0 0 true) _ _ (by kernel_rfl) rfl rfl (by kernel_rfl) (by decide +kernel) (cq_gb s g 0 none 0 0 [] 0 0 0 true) (cq_sk s g 0 none 0 0 [] 0 0 0 true) (cq_on s g 0 none 0 0 [] 0 0 0 true) (cq_step s g 0 none 0 0 [] 0 0 0 true (by rfl) (by kernel_rfl) rfl rfl HI.out) ?fin2
      case fin2 =>
        intro a w6 hbase hbl hall
        obtain ⟨v4, hv4, hR4⟩ := hall 24 (by decide)
        have hR4' : v4 = .bool false := hR4
        subst hR4'
        obtain ⟨g, hge, hg⟩ := base_lit hbase [9, 10, 11, 12, 13, 14, 15, 16, 17, 18, 19, 20, 21, 22, 23, 24, 25, 26, 27, 28, 29, 30, 31, 32, 4] (by rfl)
        have q4 : g 4 = .bool false := hge 4 _ hv4
        simp only [List.foldl_cons, List.foldl_nil, List.setIfInBounds_toArray, List.set_cons_zero, List.set_cons_succ, q4] at hg
        rw [hg]
        go_wp2
        go_ret
        exact ⟨rfl, hbl⟩
    | true =>
      obtain ⟨v, hl⟩ : ∃ v, (σ.s i).last = some v := by
        cases e : (σ.s i).last with
        | some v => exact ⟨v, rfl⟩
        | none => rw [pre_none e] at hp; cases hp
      have hv := hok.last v hl
      obtain ⟨c, hc⟩ : ∃ c, cntV σ.ns (σ.s i).cm v = c := ⟨_, rfl⟩
      have hBd : decide (2 * σ.f + 1 ≤ (c : Int)) = B := by rw [← hB, ← hc]; unfold comB; rw [hp, hl]; rfl
      have hlen := h.ok.len
      have hf0 := h.ok.f0
      have hf1 := h.ok.f1
      have hV : ∀ w1, Below w.heap.size w w1 → Calls Try.prog 30 #[.map (some (cb i)), .agg (sy (some v)).toArray] w1 fun e w' => e = .returned (.int .i64 (c : Int)) ∧ Below w1.heap.size w1 w' := fun w1 hb => by
        have := votes_any (hs0.cm.below hb hs0.cm.lt) hok.cm hv (by omega) c hc
        exact this
      obtain ⟨M, hMM⟩ : ∃ M : Nat, 2 * σ.f + 1 = (M : Int) := ⟨(2 * σ.f + 1).toNat, by omega⟩
      have hM : ∀ w1, Below w.heap.size w w1 → Calls Try.prog 31 #[.agg #[.int .i64 σ.f, .slice (some ⟨ab, 0, none⟩) σ.ns.length cap]] w1 fun e w' => e = .returned (.int .i64 (M : Int)) ∧ Below w1.heap.size w1 w' := fun w1 hb => by
        have := most_any σ.f _ _ _ _ w1 (h.below hb).arg
        have e : mostR σ.f σ.ns = (M : Int) := by unfold mostR; rw [st_okC h.ok]; exact hMM
        rw [e] at this
        exact this
      rw [hMM] at hBd
      obtain ⟨hC, _, _, _, h70, _⟩ := sq_cells hok.last hok.p (.map (some (qb i))) (.map (some (rb i))) (.map (some (cb i)))
      have hiC := say_infoL hok.last
      have hblk := hs0.blk
      rw [hl] at hC hiC h70 hblk
      have HS := Lib.hid (And.intro hI (And.intro hblk (And.intro h70 (And.intro hC (And.intro hiC (And.intro hV (And.intro h.blk (And.intro hM hBd))))))))
      clear h hix hB hs0 hok hI hp hl hv hc hBd hlen hf0 hf1 hV hMM hM hC h70 hiC hblk
      generalize sb i = s at *
      generalize cb i = k at *
      go_enter Try.func12, Try.ntmps12
      go_wp2_with (go_at_call 28; refine Ho.out.mono ?_; rintro e w' ⟨rfl, rfl⟩)
      refine region_rule4 (P := Try.prog) 25 33 ctD ctG ctS (ctR s g k (some ⟨ab, 0, none⟩) σ.ns.length cap (sy (some v)) σ.f c M B) _ _ (by kernel_rfl) rfl rfl (by kernel_rfl) (by decide +kernel) (ct_gb s g k (some ⟨ab, 0, none⟩) σ.ns.length cap (sy (some v)) σ.f c M B) (ct_sk s g k (some ⟨ab, 0, none⟩) σ.ns.length cap (sy (some v)) σ.f c M B) (ct_on s g k (some ⟨ab, 0, none⟩) σ.ns.length cap (sy (some v)) σ.f c M B) (ct_step s g k (some ⟨ab, 0, none⟩) σ.ns.length cap (sy (some v)) σ.f c M B (by rfl) (by kernel_rfl) rfl rfl HS.out.1 HS.out.2.1 HS.out.2.2.1 HS.out.2.2.2.1 HS.out.2.2.2.2.1 HS.out.2.2.2.2.2.1 HS.out.2.2.2.2.2.2.1 rfl rfl HS.out.2.2.2.2.2.2.2.1 HS.out.2.2.2.2.2.2.2.2) ?fin3
      case fin3 =>
        intro a w6 hbase hbl hall
        obtain ⟨v4, hv4, hR4⟩ := hall 24 (by decide)
        have hR4' : v4 = .bool B := hR4
        subst hR4'
        obtain ⟨g, hge, hg⟩ := base_lit hbase [9, 10, 11, 12, 13, 14, 15, 16, 17, 18, 19, 20, 21, 22, 23, 24, 25, 26, 27, 28, 29, 30, 31, 32, 4] (by rfl)
        have q4 : g 4 = .bool B := hge 4 _ hv4
        simp only [List.foldl_cons, List.foldl_nil, List.setIfInBounds_toArray, List.set_cons_zero, List.set_cons_succ, q4] at hg
        rw [hg]
        go_wp2
        go_ret
        exact ⟨rfl, hbl⟩
end
end Go.Proofs.Ytmdgcimjmmnbjaa
