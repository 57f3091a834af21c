/-
  Laid together for a hand-in: Ak14, Ax14.
-/
import Derived.Test.YtmdgcimjmmnbjaaZ12

namespace Go.Proofs.Ytmdgcimjmmnbjaa
open Go.RowKit Go.Shelf Go.Sort Go.Maps CrewP
set_option linter.unusedVariables false
set_option linter.unusedSimpArgs false

/-! ### The chapter's examples -/
def a1 : St := propS (fr 1) 0 3 (dg 1)
def a2 : St := prepS a1 2 0 3 (dg 1)
def a3 : St := prepS a2 3 0 3 (dg 1)
def aC : Nat → St
  | 0 => a3
  | j + 1 => commS (aC j) ((j : Int) + 1) 0 3 (dg 1)
def a9 : St := propS (aC 3) 1 3 (dg 2)
theorem f0 : propE (fr 1) 0 3 (dg 1) = 0 := by decide +kernel
theorem f1 : prepE a1 2 0 3 (dg 1) = 0 := by decide +kernel
theorem f2 : preS a2 3 = false := by decide +kernel
theorem f2' : prepE a2 3 0 3 (dg 1) = 0 := by decide +kernel
theorem f3 : preS a3 3 = true := by decide +kernel
theorem f3P : (List.range 8).flatMap (pTs a3) = [mkT 3 (dg 1, 0)] := by decide +kernel
theorem f3E : mayE a3 1 0 = 0 ∧ leadO a3 0 = 1 := by decide +kernel
theorem fC : ∀ j : Nat, j < 3 → comS (aC j) 3 = false ∧ commE (aC j) ((j : Int) + 1) 0 3 (dg 1) = 0 := by decide +kernel
theorem f8 : comS (aC 3) 3 = true := by decide +kernel
theorem f8a : propE (aC 3) 0 3 (dg 2) = 151 := by decide +kernel
theorem f8b : propE (aC 3) 0 9 (dg 1) = 150 := by decide +kernel
theorem f8c : propE (aC 3) 1 3 (dg 2) = 0 := by decide +kernel
theorem f9 : preS a9 3 = false := by decide +kernel
theorem f9P : (List.range 8).flatMap (pTs a9) = [mkT 3 (dg 1, 0)] := by decide +kernel
theorem f9Q : (List.range 8).flatMap (qTs a9) = [mkT 3 (dg 1, 0), mkT 3 (dg 2, 1)] := by decide +kernel
theorem propS_err {σ : St} {view seq : Int} {d : List UInt8} (h : propE σ view seq d ≠ 0) : propS σ view seq d = σ := by unfold propS; rw [if_pos h]
theorem prepS_err {σ : St} {node view seq : Int} {d : List UInt8} (h : prepE σ node view seq d ≠ 0) : prepS σ node view seq d = σ := by unfold prepS; rw [if_pos h]

/-! ### Contracts over slots wherever they lie -/
section
variable {w : World} {U : Nat → Prop} {g : Nat} {σ : St}
theorem propose_at (h : StAt w U g σ) (view seq : Int) (hv : Wf view) (hsq : Wf seq) (d : List UInt8) (hd : d.length = 32) (E : Int) (hE : propE σ view seq d = E) :
    Calls Try.prog 20 #[.pointer (some ⟨g, 0, none⟩), .int .i64 view, .int .i64 seq, .agg (cbs d).toArray] w fun e w' => e = .returned (.int .i64 E) ∧ StAt w' U g (propS σ view seq d) ∧ Out U w w' := by
  obtain ⟨a1, a2, a3, a4, a5, a6, a7, a8, h⟩ := h
  exact (propose_in h view seq hv hsq d hd E hE).mono fun e w' ⟨h1, h2, h3⟩ => ⟨h1, ⟨_, _, _, _, _, _, _, _, h2⟩, h3⟩
theorem prepare_at (h : StAt w U g σ) (node view seq : Int) (hsq : Wf seq) (d : List UInt8) (hd : d.length = 32) (E : Int) (hE : prepE σ node view seq d = E) :
    Calls Try.prog 21 #[.pointer (some ⟨g, 0, none⟩), .int .i64 node, .int .i64 view, .int .i64 seq, .agg (cbs d).toArray] w fun e w' => e = .returned (.int .i64 E) ∧ StAt w' U g (prepS σ node view seq d) ∧ Out U w w' := by
  obtain ⟨a1, a2, a3, a4, a5, a6, a7, a8, h⟩ := h
  exact (prepare_in h node view seq hsq d hd E hE).mono fun e w' ⟨h1, h2, h3⟩ => ⟨h1, ⟨_, _, _, _, _, _, _, _, h2⟩, h3⟩
theorem commit_at (h : StAt w U g σ) (node view seq : Int) (hsq : Wf seq) (d : List UInt8) (hd : d.length = 32) (E : Int) (hE : commE σ node view seq d = E) :
    Calls Try.prog 27 #[.pointer (some ⟨g, 0, none⟩), .int .i64 node, .int .i64 view, .int .i64 seq, .agg (cbs d).toArray] w fun e w' => e = .returned (.int .i64 E) ∧ StAt w' U g (commS σ node view seq d) ∧ Out U w w' := by
  obtain ⟨a1, a2, a3, a4, a5, a6, a7, a8, h⟩ := h
  exact (commit_in h node view seq hsq d hd E hE).mono fun e w' ⟨h1, h2, h3⟩ => ⟨h1, ⟨_, _, _, _, _, _, _, _, h2⟩, h3⟩
theorem prepared_at (h : StAt w U g σ) {seq : Int} (hs : Wf seq) (B : Bool) (hB : preS σ seq = B) : Calls Try.prog 11 #[.pointer (some ⟨g, 0, none⟩), .int .i64 seq] w fun e w' => e = .returned (.bool B) ∧ Below w.heap.size w w' := by
  obtain ⟨a1, a2, a3, a4, a5, a6, a7, a8, h⟩ := h
  exact prepared_in h hs B hB
theorem committed_at (h : StAt w U g σ) {seq : Int} (hs : Wf seq) (B : Bool) (hB : comS σ seq = B) : Calls Try.prog 12 #[.pointer (some ⟨g, 0, none⟩), .int .i64 seq] w fun e w' => e = .returned (.bool B) ∧ Below w.heap.size w w' := by
  obtain ⟨a1, a2, a3, a4, a5, a6, a7, a8, h⟩ := h
  exact committed_in h hs B hB
theorem at_at (h : StAt w U g σ) {seq : Int} (hs : Wf seq) : Calls Try.prog 18 #[.pointer (some ⟨g, 0, none⟩), .int .i64 seq] w fun e w' => e = .returned (atV (atS σ seq)) ∧ Below w.heap.size w w' := by
  obtain ⟨a1, a2, a3, a4, a5, a6, a7, a8, h⟩ := h
  exact at_in h hs
theorem p_at (h : StAt w U g σ) : Calls Try.prog 14 #[.pointer (some ⟨g, 0, none⟩)] w (RetS w ((List.range 8).flatMap (pTs σ))) := by
  obtain ⟨a1, a2, a3, a4, a5, a6, a7, a8, h⟩ := h
  exact p_in h
theorem q_at (h : StAt w U g σ) : Calls Try.prog 15 #[.pointer (some ⟨g, 0, none⟩)] w (RetS w ((List.range 8).flatMap (qTs σ))) := by
  obtain ⟨a1, a2, a3, a4, a5, a6, a7, a8, h⟩ := h
  exact q_in h
set_option maxRecDepth 100000 in
/-- A leader's prepare: nothing turns. -/
theorem prepare_lead (h : StAt w U g σ) (node view seq : Int) (d : List UInt8) (hM : mayE σ node view = 0) (hl : leadO σ view = node) :
    Calls Try.prog 21 #[.pointer (some ⟨g, 0, none⟩), .int .i64 node, .int .i64 view, .int .i64 seq, .agg (cbs d).toArray] w fun e w' => e = .returned (.int .i64 2) ∧ Below w.heap.size w w' := by
  obtain ⟨x1, x2, x3, x4, x5, x6, x7, x8, h⟩ := h
  have b0 : Below w.heap.size w (w.alloc (.cells (cbs d).toArray 39)) := (Below.refl _ _).alloc (Nat.le_refl _) _
  have h0 := h.below b0
  have Hm := Lib.hid (mayVote_in h0 node view 0 hM)
  have hvw := (mayE_zero hM).2
  have hvf : Wf view := by simp [viewB] at hvw; exact wf_b (by omega) (by omega)
  have HN := Lib.hid (And.intro h0 (And.intro b0 (And.intro hvw (And.intro hvf hl))))
  clear b0 h0 h hvw hvf hl hM
  generalize hD : cbs d = D at *
  go_enter Try.func21, Try.ntmps21
  go_wp2_with fail
  refine Hm.out.mono ?_
  rintro e w1 ⟨rfl, hb1⟩
  have h1 := HN.out.1.below hb1
  have b1 := HN.out.2.1.trans (hb1.mono HN.out.2.1.size)
  have c0 := h1.blk.cell (i := 0) rfl
  have c1 := h1.blk.cell (i := 1) rfl
  have hL := leader_any σ.f _ _ _ _ w1 h1.arg view HN.out.2.2.2.1
  rw [lead_st h1.ok HN.out.2.2.1, HN.out.2.2.2.2] at hL
  have H1 := Lib.hid (And.intro b1 hL)
  clear h1 b1 hb1 hL
  go_wp2_with fail
  refine H1.out.2.mono ?_
  rintro e w2 ⟨rfl, hb2⟩
  have H2 := Lib.hid hb2
  clear hb2
  go_wp2
  go_ret
  exact ⟨rfl, H1.out.1.trans (H2.out.mono H1.out.1.size)⟩
end

/-! ### Slots carried along -/
/-- Since the world w0 the slots g (their blocks are U) and two digests have been made; the slots hold σ. -/
structure Kp (w0 w : World) (U : Nat → Prop) (g ba bb : Nat) (da db : List UInt8) (σ : St) : Prop where
  st : StAt w U g σ
  a : Blk w ba 39 (cbs da)
  b : Blk w bb 39 (cbs db)
  ua : ¬ U ba
  ub : ¬ U bb
  bel : Below w0.heap.size w0 w
  low : ∀ i, U i → w0.heap.size ≤ i
section
variable {w0 w w' : World} {U : Nat → Prop} {g ba bb : Nat} {da db : List UInt8} {σ σ' : St}
theorem Kp.call (h : Kp w0 w U g ba bb da db σ) (hs : StAt w' U g σ') (ho : Out U w w') : Kp w0 w' U g ba bb da db σ' :=
  ⟨hs, ho.blk h.a h.ua, ho.blk h.b h.ub, h.ua, h.ub, h.bel.trans (ho.above h.low h.bel.size), h.low⟩
theorem Kp.below (h : Kp w0 w U g ba bb da db σ) (hb : Below w.heap.size w w') : Kp w0 w' U g ba bb da db σ :=
  ⟨h.st.below hb, h.a.below hb h.a.lt, h.b.below hb h.b.lt, h.ua, h.ub, h.bel.trans (hb.mono h.bel.size), h.low⟩
end
end Go.Proofs.Ytmdgcimjmmnbjaa

namespace Go.Proofs.Ytmdgcimjmmnbjaa
open Go.RowKit Go.Shelf Go.Sort Go.Maps CrewP
set_option linter.unusedVariables false
set_option linter.unusedSimpArgs false

section
variable {P : Program} {ops : Array Oper} {Q : Exit → Act → World → Prop} {md : Region.Mode} {S : World → Prop}
theorem op_rowW {i d : Nat} {oi : Oper} {a : Act} {w : World} {K : Act → World → Prop} (hi : ops[i]? = some oi) (hd : oi.dst = some d) (hw : Region.wanted oi (yielded ops a.tmps) = true) (t : TypeId) (n : Nat) (parts : Array (Nat × Operand)) (ho : oi.op = .buildSlice t n parts)
    (v : Value) (w' : World) (hrun : (Instr.buildSlice t n (parts.map fun p => (p.1, a.eval p.2))).run P w = .ok v w') (h : K { a with tmps := a.tmps.setIfInBounds d v } w') : wpOp P ops Q i K a w := by
  refine wpOp_step hi (fun K' hK => ?_)
  rw [if_pos hw]
  have he' : (Instr.buildSlice t n (parts.map fun (i, x) => (i, a.eval x))).run P w = .ok v w' := hrun
  unfold Oper.wp execOp
  simp only [ho, Sem.run_bind, he', Result.andThen_ok]
  refine hK _ _ ?_
  unfold Act.put
  rw [hd]
  exact h
theorem anyH_two {i j : Nat} {fuel : Nat} {listed : Array Bool} {a : Act} {w : World} (hr : Region.ready md ops listed = [i, j])
    (h1 : wpOp P ops Q i (fun a' w' => S w' ∧ wpAnyH P md ops Q S fuel (listed.setIfInBounds i true) a' w') a w) (h2 : wpOp P ops Q j (fun a' w' => S w' ∧ wpAnyH P md ops Q S fuel (listed.setIfInBounds j true) a' w') a w) : wpAnyH P md ops Q S (fuel + 1) listed a w :=
  wpAnyH_all hr (by simp) (fun k hk => by
    simp at hk
    rcases hk with rfl | rfl
    · exact h1
    · exact h2)
end

/-! ### Two digests in variables of their own; a row of two stands -/
theorem two_rows (w : World) (A B : List Value) (hA : A.length = 32) (hB : B.length = 32) : ∃ wA wB, ((w.alloc (.cells (cbs zero32).toArray 39)).alloc (.cells (cbs zero32).toArray 39)).setCells w.heap.size 0 A = wA ∧ wA.setCells (w.heap.size + 1) 0 B = wB ∧
    ((w.alloc (.cells (cbs zero32).toArray 39)).alloc (.cells (cbs zero32).toArray 39)).there w.heap.size 0 A.toArray.size ∧ (Try.prog.info? 39).map (·.size) = some A.toArray.size ∧
    wA.there (w.heap.size + 1) 0 B.toArray.size ∧ (Try.prog.info? 39).map (·.size) = some B.toArray.size ∧
    Blk wB w.heap.size 39 A ∧ Blk wB (w.heap.size + 1) 39 B ∧ Below w.heap.size w wB := by
  have h1 : Blk ((w.alloc (.cells (cbs zero32).toArray 39)).alloc (.cells (cbs zero32).toArray 39)) w.heap.size 39 (cbs zero32) := Blk.old (Blk.new rfl rfl) _
  have h2 : Blk ((w.alloc (.cells (cbs zero32).toArray 39)).alloc (.cells (cbs zero32).toArray 39)) (w.heap.size + 1) 39 (cbs zero32) := Blk.new rfl (by simp)
  have k1 := h1.setAll (vs := A) (by rw [hA]; rfl)
  have k2 := h2.farAll (g' := w.heap.size) (by omega) A (o := 0)
  have sA : A.toArray.size = 32 := hA
  have sB : B.toArray.size = 32 := hB
  refine ⟨_, _, rfl, rfl, ?_, ?_, ?_, ?_, k1.farAll (by omega) B, k2.setAll (by rw [hB]; rfl), ?_⟩
  · rw [sA]; exact h1.there
  · rw [sA]; exact dig_info
  · rw [sB]; exact k2.there
  · rw [sB]; exact dig_info
  · exact Below.setCells (by omega) _ (Below.setCells (by omega) _ (((Below.refl _ _).alloc (Nat.le_refl _) _).alloc (by simp) _))
theorem row_stand2 (x y : SdT) (w : World) : (Instr.buildSlice 33 2 #[(0, .agg (sdT x).toArray), (1, .agg (sdT y).toArray)]).run Try.prog w = .ok (.slice (some ⟨w.heap.size, 0, none⟩) 2 2) (w.alloc (.cells (sdCs [x, y]).toArray 41)) := by
  obtain ⟨⟨s, d, v⟩, h⟩ := x
  obtain ⟨⟨s', d', v'⟩, h'⟩ := y
  obtain ⟨a0, a1, a2, a3, a4, a5, a6, a7, a8, a9, a10, a11, a12, a13, a14, a15, a16, a17, a18, a19, a20, a21, a22, a23, a24, a25, a26, a27, a28, a29, a30, a31, rfl⟩ := thirty2 d h
  obtain ⟨b0, b1, b2, b3, b4, b5, b6, b7, b8, b9, b10, b11, b12, b13, b14, b15, b16, b17, b18, b19, b20, b21, b22, b23, b24, b25, b26, b27, b28, b29, b30, b31, rfl⟩ := thirty2 d' h'
  kernel_rfl
theorem built_stand2 (seq : Int) (d : List UInt8) (h : d.length = 32) : Try.prog.built 41 [(0, .int .i64 seq), (1, .agg (cbs d).toArray)] = some (sdC ⟨seq, d, 0⟩).toArray := by
  obtain ⟨a0, a1, a2, a3, a4, a5, a6, a7, a8, a9, a10, a11, a12, a13, a14, a15, a16, a17, a18, a19, a20, a21, a22, a23, a24, a25, a26, a27, a28, a29, a30, a31, rfl⟩ := thirty2 d h
  kernel_rfl

/-! ### A slice that shows these stands -/
def PRow (l : List SdT) (w : World) (v : Value) : Prop := ∃ A n c, v = .slice A n c ∧ ShS w A l ∧ l.length = n
theorem PRow.on {l : List SdT} {w w' : World} {v : Value} (h : PRow l w v) (hb : Below w.heap.size w w') : PRow l w' v := let ⟨A, n, c, h1, h2, h3⟩ := h; ⟨A, n, c, h1, h2.below hb, h3⟩
theorem PRow.new (w : World) (l : List SdT) (n : Nat) (hn : l.length = n) : PRow l (w.alloc (.cells (sdCs l).toArray 41)) (.slice (some ⟨w.heap.size, 0, none⟩) n n) := by
  refine ⟨_, n, n, rfl, fun h => ⟨w.heap.size, 0, rfl, by simp, fun j u hu => ?_⟩, hn⟩
  have hB : Blk (w.alloc (.cells (sdCs l).toArray 41)) w.heap.size 41 (sdCs l) := Blk.new rfl rfl
  rw [Nat.zero_add]
  exact hB.cell hu
theorem RetS.prow {w : World} {l : List SdT} {e : Ending} {w' : World} (h : RetS w l e w') : ∃ v, e = .returned v ∧ PRow l w' v ∧ Below w.heap.size w w' := by
  obtain ⟨A, c, rfl, h1, h2, h3⟩ := h
  exact ⟨_, rfl, ⟨A, _, c, rfl, ShS.row h1 rfl, rfl⟩, h2⟩
theorem prow_stands {w : World} {l l' : List SdT} {v v' : Value} (h : PRow l w v) (h' : PRow l' w v') (hn : l.length ≤ 1000) (hn' : l'.length ≤ 1000) : Calls Try.prog 13 #[v, v'] w fun e w' => e = .returned (.bool (decide (l = l'))) ∧ Below w.heap.size w w' := by
  obtain ⟨A, n, c, rfl, h1, h2⟩ := h
  obtain ⟨A', n', c', rfl, h1', h2'⟩ := h'
  exact stands_any h1 h1' h2 h2' (by omega) (by omega)

/-! ### The calls one after another -/
def X0 : SdT := mkT 3 (dg 1, 0)
def Y0 : SdT := mkT 3 (dg 2, 1)
theorem X0_cells : sdT X0 = sdC ⟨3, dg 1, 0⟩ := by unfold sdT X0; rw [mkT_ok (dg_len 1)]
theorem Y0_cells : sdT Y0 = sdC ⟨3, dg 2, 1⟩ := by unfold sdT Y0; rw [mkT_ok (dg_len 2)]
theorem wf3 : Wf 3 := wf_b (by omega) (by omega)
theorem wf9 : Wf 9 := wf_b (by omega) (by omega)
theorem wf0 : Wf 0 := wf_b (by omega) (by omega)
theorem wf1 : Wf 1 := wf_b (by omega) (by omega)
abbrev KA (w0 w : World) (U : Nat → Prop) (g ba bb : Nat) (σ : St) : Prop := Kp w0 w U g ba bb (dg 1) (dg 2) σ
section
variable {w0 w : World} {U : Nat → Prop} {g ba bb : Nat} {da db : List UInt8} {σ : St}
theorem Kp.ra (h : Kp w0 w U g ba bb da db σ) : w.rangeAt ba 0 (cbs da) := fun j v hv => h.a.cell (by simpa using hv)
theorem Kp.rb (h : Kp w0 w U g ba bb da db σ) : w.rangeAt bb 0 (cbs db) := fun j v hv => h.b.cell (by simpa using hv)
theorem ka1 (h : KA w0 w U g ba bb (fr 1)) : Calls Try.prog 20 #[.pointer (some ⟨g, 0, none⟩), .int .i64 0, .int .i64 3, .agg (cbs (dg 1)).toArray] w fun e w' => e = .returned (.int .i64 0) ∧ KA w0 w' U g ba bb a1 :=
  (propose_at h.st 0 3 wf0 wf3 (dg 1) (dg_len 1) 0 f0).mono fun e w' ⟨h1, h2, h3⟩ => ⟨h1, h.call h2 h3⟩
theorem ka2 (h : KA w0 w U g ba bb a1) : Calls Try.prog 21 #[.pointer (some ⟨g, 0, none⟩), .int .i64 2, .int .i64 0, .int .i64 3, .agg (cbs (dg 1)).toArray] w fun e w' => e = .returned (.int .i64 0) ∧ KA w0 w' U g ba bb a2 :=
  (prepare_at h.st 2 0 3 wf3 (dg 1) (dg_len 1) 0 f1).mono fun e w' ⟨h1, h2, h3⟩ => ⟨h1, h.call h2 h3⟩
theorem ka3 (h : KA w0 w U g ba bb a2) : Calls Try.prog 11 #[.pointer (some ⟨g, 0, none⟩), .int .i64 3] w fun e w' => e = .returned (.bool false) ∧ KA w0 w' U g ba bb a2 :=
  (prepared_at h.st wf3 false f2).mono fun e w' ⟨h1, h2⟩ => ⟨h1, h.below h2⟩
theorem ka4 (h : KA w0 w U g ba bb a2) : Calls Try.prog 21 #[.pointer (some ⟨g, 0, none⟩), .int .i64 3, .int .i64 0, .int .i64 3, .agg (cbs (dg 1)).toArray] w fun e w' => e = .returned (.int .i64 0) ∧ KA w0 w' U g ba bb a3 :=
  (prepare_at h.st 3 0 3 wf3 (dg 1) (dg_len 1) 0 f2').mono fun e w' ⟨h1, h2, h3⟩ => ⟨h1, h.call h2 h3⟩
theorem ka5 (h : KA w0 w U g ba bb a3) : Calls Try.prog 11 #[.pointer (some ⟨g, 0, none⟩), .int .i64 3] w fun e w' => e = .returned (.bool true) ∧ KA w0 w' U g ba bb a3 :=
  (prepared_at h.st wf3 true f3).mono fun e w' ⟨h1, h2⟩ => ⟨h1, h.below h2⟩
theorem ka6 (h : KA w0 w U g ba bb a3) : Calls Try.prog 14 #[.pointer (some ⟨g, 0, none⟩)] w fun e w' => ∃ v, e = .returned v ∧ PRow [X0] w' v ∧ Below w.heap.size w w' := by
  have hp := p_at h.st
  rw [f3P] at hp
  exact hp.mono fun e w' h => h.prow
theorem ka6' (h : KA w0 w U g ba bb a3) : Calls Try.prog 21 #[.pointer (some ⟨g, 0, none⟩), .int .i64 1, .int .i64 0, .int .i64 3, .agg (cbs (dg 1)).toArray] w fun e w' => e = .returned (.int .i64 2) ∧ Below w.heap.size w w' :=
  prepare_lead h.st 1 0 3 (dg 1) f3E.1 f3E.2
theorem ka7 {j : Nat} (hj : j < 3) (h : KA w0 w U g ba bb (aC j)) : Calls Try.prog 12 #[.pointer (some ⟨g, 0, none⟩), .int .i64 3] w fun e w' => e = .returned (.bool false) ∧ KA w0 w' U g ba bb (aC j) :=
  (committed_at h.st wf3 false (fC j hj).1).mono fun e w' ⟨h1, h2⟩ => ⟨h1, h.below h2⟩
theorem ka8 {j : Nat} (hj : j < 3) (h : KA w0 w U g ba bb (aC j)) : Calls Try.prog 27 #[.pointer (some ⟨g, 0, none⟩), .int .i64 ((j : Int) + 1), .int .i64 0, .int .i64 3, .agg (cbs (dg 1)).toArray] w fun e w' => e = .returned (.int .i64 0) ∧ KA w0 w' U g ba bb (aC (j + 1)) :=
  (commit_at h.st ((j : Int) + 1) 0 3 wf3 (dg 1) (dg_len 1) 0 (fC j hj).2).mono fun e w' ⟨h1, h2, h3⟩ => ⟨h1, h.call h2 h3⟩
theorem ka9 (h : KA w0 w U g ba bb (aC 3)) : Calls Try.prog 12 #[.pointer (some ⟨g, 0, none⟩), .int .i64 3] w fun e w' => e = .returned (.bool true) ∧ KA w0 w' U g ba bb (aC 3) :=
  (committed_at h.st wf3 true f8).mono fun e w' ⟨h1, h2⟩ => ⟨h1, h.below h2⟩
theorem kaa (h : KA w0 w U g ba bb (aC 3)) : Calls Try.prog 20 #[.pointer (some ⟨g, 0, none⟩), .int .i64 0, .int .i64 3, .agg (cbs (dg 2)).toArray] w fun e w' => e = .returned (.int .i64 151) ∧ KA w0 w' U g ba bb (aC 3) := by
  have hc := propose_at h.st 0 3 wf0 wf3 (dg 2) (dg_len 2) 151 f8a
  rw [propS_err (by rw [f8a]; omega)] at hc
  exact hc.mono fun e w' ⟨h1, h2, h3⟩ => ⟨h1, h.call h2 h3⟩
theorem kab (h : KA w0 w U g ba bb (aC 3)) : Calls Try.prog 20 #[.pointer (some ⟨g, 0, none⟩), .int .i64 0, .int .i64 9, .agg (cbs (dg 1)).toArray] w fun e w' => e = .returned (.int .i64 150) ∧ KA w0 w' U g ba bb (aC 3) := by
  have hc := propose_at h.st 0 9 wf0 wf9 (dg 1) (dg_len 1) 150 f8b
  rw [propS_err (by rw [f8b]; omega)] at hc
  exact hc.mono fun e w' ⟨h1, h2, h3⟩ => ⟨h1, h.call h2 h3⟩
theorem kac (h : KA w0 w U g ba bb (aC 3)) : Calls Try.prog 20 #[.pointer (some ⟨g, 0, none⟩), .int .i64 1, .int .i64 3, .agg (cbs (dg 2)).toArray] w fun e w' => e = .returned (.int .i64 0) ∧ KA w0 w' U g ba bb a9 :=
  (propose_at h.st 1 3 wf1 wf3 (dg 2) (dg_len 2) 0 f8c).mono fun e w' ⟨h1, h2, h3⟩ => ⟨h1, h.call h2 h3⟩
theorem kad (h : KA w0 w U g ba bb a9) : Calls Try.prog 11 #[.pointer (some ⟨g, 0, none⟩), .int .i64 3] w fun e w' => e = .returned (.bool false) ∧ KA w0 w' U g ba bb a9 :=
  (prepared_at h.st wf3 false f9).mono fun e w' ⟨h1, h2⟩ => ⟨h1, h.below h2⟩
theorem kae (h : KA w0 w U g ba bb a9) : Calls Try.prog 14 #[.pointer (some ⟨g, 0, none⟩)] w fun e w' => ∃ v, e = .returned v ∧ PRow [X0] w' v ∧ Below w.heap.size w w' := by
  have hp := p_at h.st
  rw [f9P] at hp
  exact hp.mono fun e w' h => h.prow
theorem kaf (h : KA w0 w U g ba bb a9) : Calls Try.prog 15 #[.pointer (some ⟨g, 0, none⟩)] w fun e w' => ∃ v, e = .returned v ∧ PRow [X0, Y0] w' v ∧ Below w.heap.size w w' := by
  have hp := q_at h.st
  rw [f9Q] at hp
  exact hp.mono fun e w' h => h.prow
end
def awR (g ba : Nat) (D : List Value) (X : SdT) : Nat → Value → World → Prop
  | 0 => fun v w => v = .int .i64 0
  | 1 => fun v w => v = .bool false
  | 2 => fun v w => v = .bool false
  | 3 => fun v w => v = .int .i64 0
  | 4 => fun v w => v = .bool false
  | 5 => fun v w => v = .bool false
  | 6 => fun v w => v = .bool false
  | 7 => fun v w => v = .int .i64 0
  | 8 => fun v w => v = .bool false
  | 9 => fun v w => v = .bool false
  | 10 => fun v w => v = .bool false
  | 11 => fun v w => v = .bool false
  | 12 => fun v w => v = .bool false
  | 13 => fun v w => v = .bool false
  | 14 => fun v w => v = .bool true
  | 15 => fun v w => v = .bool false
  | 16 => fun v w => v = .bool false
  | 17 => fun v w => v = .bool false
  | 18 => fun v w => v = .pointer (some ⟨g, 0, none⟩)
  | 19 => fun v w => PRow [X] w v
  | 20 => fun v w => v = .agg D.toArray
  | 21 => fun v w => v = .agg (sdT X).toArray
  | 22 => fun v w => PRow [X] w v
  | 23 => fun v w => v = .bool true
  | 24 => fun v w => v = .bool false
  | 25 => fun v w => v = .bool false
  | 26 => fun v w => v = .bool false
  | 27 => fun v w => v = .pointer (some ⟨g, 0, none⟩)
  | 28 => fun v w => v = .agg D.toArray
  | 29 => fun v w => v = .int .i64 2
  | 30 => fun v w => v = .bool false
  | 31 => fun v w => v = .bool false
  | _ => fun _ _ => True
def awD (i : Nat) : Nat := ([27, 28, 29, 30, 31, 32, 33, 34, 35, 36, 37, 38, 39, 40, 41, 42, 43, 44, 45, 46, 47, 48, 49, 50, 51, 52, 53, 54, 55, 56, 57, 58] : List Nat).getD i 0
def awG : Nat → Option Bool
  | 2 => some false
  | 6 => some false
  | 10 => some false
  | 13 => some false
  | 17 => some false
  | 26 => some false
  | _ => none
def awS (i : Nat) : Bool := ([] : List Nat).contains i
theorem aw_gb (g ba : Nat) (D : List Value) (X : SdT) : ∀ i b v w, awG i = some b → awR g ba D X i v w → v = .bool b := by
  intro i b v w h hR
  unfold awG at h
  split at h
  all_goals first | (injection h with h; subst h; exact hR) | cases h
theorem aw_sk (g ba : Nat) (D : List Value) (X : SdT) : ∀ i w, awS i = true → awR g ba D X i undef w := by
  intro i w h
  simp [awS] at h
theorem aw_on (g ba : Nat) (D : List Value) (X : SdT) : ∀ i v w w', awR g ba D X i v w → Below w.heap.size w w' → awR g ba D X i v w'
  | 0, v, w, w', h, _ => h
  | 1, v, w, w', h, _ => h
  | 2, v, w, w', h, _ => h
  | 3, v, w, w', h, _ => h
  | 4, v, w, w', h, _ => h
  | 5, v, w, w', h, _ => h
  | 6, v, w, w', h, _ => h
  | 7, v, w, w', h, _ => h
  | 8, v, w, w', h, _ => h
  | 9, v, w, w', h, _ => h
  | 10, v, w, w', h, _ => h
  | 11, v, w, w', h, _ => h
  | 12, v, w, w', h, _ => h
  | 13, v, w, w', h, _ => h
  | 14, v, w, w', h, _ => h
  | 15, v, w, w', h, _ => h
  | 16, v, w, w', h, _ => h
  | 17, v, w, w', h, _ => h
  | 18, v, w, w', h, _ => h
  | 19, v, w, w', h, hb => PRow.on (show PRow [X] w v from h) hb
  | 20, v, w, w', h, _ => h
  | 21, v, w, w', h, _ => h
  | 22, v, w, w', h, hb => PRow.on (show PRow [X] w v from h) hb
  | 23, v, w, w', h, _ => h
  | 24, v, w, w', h, _ => h
  | 25, v, w, w', h, _ => h
  | 26, v, w, w', h, _ => h
  | 27, v, w, w', h, _ => h
  | 28, v, w, w', h, _ => h
  | 29, v, w, w', h, _ => h
  | 30, v, w, w', h, _ => h
  | 31, v, w, w', h, _ => h
  | i + 32, v, w, w', h, hb => trivial
def awOps : List Op := [.move (.tmp 4),
  .binOp .neq 28 (.tmp 27) (.const (.int .i64 0)) 28,
  .move (.tmp 28),
  .move (.tmp 5),
  .binOp .neq 28 (.tmp 30) (.const (.int .i64 0)) 28,
  .pick (.tmp 29) (.const (.bool true)) (.tmp 31),
  .move (.tmp 32),
  .move (.tmp 7),
  .binOp .neq 28 (.tmp 34) (.const (.int .i64 0)) 28,
  .pick (.tmp 33) (.const (.bool true)) (.tmp 35),
  .move (.tmp 36),
  .move (.tmp 6),
  .pick (.tmp 37) (.const (.bool true)) (.tmp 38),
  .move (.tmp 39),
  .move (.tmp 8),
  .unOp .not 4 (.tmp 41),
  .pick (.tmp 40) (.const (.bool true)) (.tmp 42),
  .move (.tmp 43),
  .move (.tmp 3),
  .call { callee := .value (.func 14), args := #[.tmp 45], argTypes := #[24] },
  .load 39 (.tmp 1),
  .build 41 #[(0, .const (.int .i64 3)), (1, .tmp 47)],
  .buildSlice 33 1 #[(0, .tmp 48)],
  .call { callee := .value (.func 13), args := #[.tmp 46, .tmp 49], argTypes := #[33, 33] },
  .unOp .not 4 (.tmp 50),
  .pick (.tmp 44) (.const (.bool true)) (.tmp 51),
  .move (.tmp 52),
  .move (.tmp 3),
  .load 39 (.tmp 1),
  .call { callee := .value (.func 21), args := #[.tmp 54, .const (.int .i64 1), .const (.int .i64 0), .const (.int .i64 3), .tmp 55], argTypes := #[24, 3, 3, 3, 39] },
  .binOp .neq 28 (.tmp 56) (.const (.int .i64 2)) 28,
  .pick (.tmp 53) (.const (.bool true)) (.tmp 57)]
def awNeeds : Nat → List Nat
  | 0 => []
  | 1 => [0]
  | 2 => [1]
  | 3 => []
  | 4 => [3]
  | 5 => [2, 4]
  | 6 => [5]
  | 7 => []
  | 8 => [7]
  | 9 => [6, 8]
  | 10 => [9]
  | 11 => []
  | 12 => [10, 11]
  | 13 => [12]
  | 14 => []
  | 15 => [14]
  | 16 => [13, 15]
  | 17 => [16]
  | 18 => []
  | 19 => [18]
  | 20 => []
  | 21 => [20]
  | 22 => [21]
  | 23 => [19, 22]
  | 24 => [23]
  | 25 => [17, 24]
  | 26 => [25]
  | 27 => []
  | 28 => []
  | 29 => [27, 28]
  | 30 => [29]
  | 31 => [26, 30]
  | _ => []
set_option maxRecDepth 100000 in
set_option maxHeartbeats 3200000 in
theorem aw_step {ops : Array Oper} {Q : Exit → Act → World → Prop} {a0 : Act} {w0 : World} (g ba : Nat) (D : List Value) (X : SdT) (hops : ((List.range 32).map fun i => (ops[i]?).map Oper.op) = awOps.map some)
    (hnd : ((List.range 32).all fun i => (awNeeds i).all fun j => ((ops[i]?).map fun o => o.after.any fun e => Region.binds .any e && (e.on == j)).getD false) = true)
    (x3 : a0.tmps[3]? = some (.pointer (some ⟨g, 0, none⟩))) (x1 : a0.tmps[1]? = some (.pointer (some ⟨ba, 0, none⟩))) (x4 : a0.tmps[4]? = some (.int .i64 0)) (x5 : a0.tmps[5]? = some (.int .i64 0)) (x7 : a0.tmps[7]? = some (.int .i64 0)) (x6 : a0.tmps[6]? = some (.bool false)) (x8 : a0.tmps[8]? = some (.bool true))
    (hA : Blk w0 ba 39 D) (hiD : (Try.prog.info? 39).map (·.size) = some D.length) (hbX : Try.prog.built 41 [(0, .int .i64 3), (1, .agg D.toArray)] = some (sdT X).toArray)
    (hP : ∀ w, Below w0.heap.size w0 w → Calls Try.prog 14 #[.pointer (some ⟨g, 0, none⟩)] w fun e w' => ∃ v, e = .returned v ∧ PRow [X] w' v ∧ Below w.heap.size w w')
    (hL : ∀ w, Below w0.heap.size w0 w → Calls Try.prog 21 #[.pointer (some ⟨g, 0, none⟩), .int .i64 1, .int .i64 0, .int .i64 3, .agg D.toArray] w fun e w' => e = .returned (.int .i64 2) ∧ Below w.heap.size w w') :
    ∀ i o, i < 32 → awS i = false → ops[i]? = some o → o.dst = some (awD i) → ∀ a w, Base awD 32 a0 a → Below w0.heap.size w0 w → Region.wanted o (yielded ops a.tmps) = true →
      (∀ j, (o.after.any fun e => Region.binds .any e && (e.on == j)) = true → Has awD (awR g ba D X) j a w) →
      ∀ K : Act → World → Prop, (∀ v w', awR g ba D X i v w' → Below w.heap.size w w' → K (a.put o.dst v) w') → wpOp Try.prog ops Q i K a w := by
  intro i o hi hs ho hds a w hbase hbl hwt hdep0 K hK
  have hop : some o.op = awOps[i]? := by
    have h1 : ((List.range 32).map fun i => (ops[i]?).map Oper.op)[i]? = some (some o.op) := by
      rw [List.getElem?_map, List.getElem?_range hi]; simp only [Option.map_some, ho]
    rw [hops, List.getElem?_map] at h1
    cases h2 : awOps[i]? with
    | none => rw [h2] at h1; cases h1
    | some y => rw [h2] at h1; simp only [Option.map_some, Option.some.injEq] at h1; rw [h1]
  have hdep : ∀ j, j ∈ awNeeds i → Has awD (awR g ba D X) j a w := fun j hj => by
    have h1 := List.all_eq_true.1 (List.all_eq_true.1 hnd i (List.mem_range.2 hi)) j hj
    rw [ho] at h1
    exact hdep0 j h1
  clear hdep0 hops hnd
  match i, hi, hs, ho, hop, hds, hdep, hK with
  | 0, _, hs, ho, hop, hds, hdep, hK =>
    have hop : o.op = .move (.tmp 4) := Option.some.inj hop
    have hu4 : a.tmps[4]? = some (.int .i64 0) := (hbase.2.2 4 (by decide)).trans x4
    have e4 : a.eval (.tmp 4) = _ := ev_tmp hu4
    refine st3 ho hwt (v := _) (w' := w) ?_ (hK _ w rfl (Below.refl _ _))
    unfold execOp
    rw [hop, ← e4]
    rfl
  | 1, _, hs, ho, hop, hds, hdep, hK =>
    have hop : o.op = .binOp .neq 28 (.tmp 27) (.const (.int .i64 0)) 28 := Option.some.inj hop
    obtain ⟨u27, hu27, hv27⟩ := hdep 0 (by decide)
    have hv27' : u27 = .int .i64 0 := hv27
    subst hv27'
    have e27 : a.eval (.tmp 27) = _ := ev_tmp hu27
    refine st3 ho hwt (v := .bool false) (w' := w) ?_ (hK _ w rfl (Below.refl _ _))
    unfold execOp
    simp only [hop, e27]
    first | rfl | (go_simp; done) | (go_simp; simp; done) | (go_simp; intro h; omega)
  | 2, _, hs, ho, hop, hds, hdep, hK =>
    have hop : o.op = .move (.tmp 28) := Option.some.inj hop
    obtain ⟨u28, hu28, hv28⟩ := hdep 1 (by decide)
    have hv28' : u28 = .bool false := hv28
    subst hv28'
    have e28 : a.eval (.tmp 28) = _ := ev_tmp hu28
    refine st3 ho hwt (v := _) (w' := w) ?_ (hK _ w rfl (Below.refl _ _))
    unfold execOp
    rw [hop, ← e28]
    rfl
  | 3, _, hs, ho, hop, hds, hdep, hK =>
    have hop : o.op = .move (.tmp 5) := Option.some.inj hop
    have hu5 : a.tmps[5]? = some (.int .i64 0) := (hbase.2.2 5 (by decide)).trans x5
    have e5 : a.eval (.tmp 5) = _ := ev_tmp hu5
    refine st3 ho hwt (v := _) (w' := w) ?_ (hK _ w rfl (Below.refl _ _))
    unfold execOp
    rw [hop, ← e5]
    rfl
  | 4, _, hs, ho, hop, hds, hdep, hK =>
    have hop : o.op = .binOp .neq 28 (.tmp 30) (.const (.int .i64 0)) 28 := Option.some.inj hop
    obtain ⟨u30, hu30, hv30⟩ := hdep 3 (by decide)
    have hv30' : u30 = .int .i64 0 := hv30
    subst hv30'
    have e30 : a.eval (.tmp 30) = _ := ev_tmp hu30
    refine st3 ho hwt (v := .bool false) (w' := w) ?_ (hK _ w rfl (Below.refl _ _))
    unfold execOp
    simp only [hop, e30]
    first | rfl | (go_simp; done) | (go_simp; simp; done) | (go_simp; intro h; omega)
  | 5, _, hs, ho, hop, hds, hdep, hK =>
    have hop : o.op = .pick (.tmp 29) (.const (.bool true)) (.tmp 31) := Option.some.inj hop
    obtain ⟨u29, hu29, hv29⟩ := hdep 2 (by decide)
    have hv29' : u29 = .bool false := hv29
    subst hv29'
    have e29 : a.eval (.tmp 29) = _ := ev_tmp hu29
    obtain ⟨u31, hu31, hv31⟩ := hdep 4 (by decide)
    have hv31' : u31 = .bool false := hv31
    subst hv31'
    have e31 : a.eval (.tmp 31) = _ := ev_tmp hu31
    refine st3 ho hwt (v := .bool false) (w' := w) ?_ (hK _ w rfl (Below.refl _ _))
    unfold execOp
    simp only [hop, e29, e31]
    first | rfl | (go_simp; done) | (go_simp; simp; done) | (go_simp; intro h; omega)
  | 6, _, hs, ho, hop, hds, hdep, hK =>
    have hop : o.op = .move (.tmp 32) := Option.some.inj hop
    obtain ⟨u32, hu32, hv32⟩ := hdep 5 (by decide)
    have hv32' : u32 = .bool false := hv32
    subst hv32'
    have e32 : a.eval (.tmp 32) = _ := ev_tmp hu32
    refine st3 ho hwt (v := _) (w' := w) ?_ (hK _ w rfl (Below.refl _ _))
    unfold execOp
    rw [hop, ← e32]
    rfl
  | 7, _, hs, ho, hop, hds, hdep, hK =>
    have hop : o.op = .move (.tmp 7) := Option.some.inj hop
    have hu7 : a.tmps[7]? = some (.int .i64 0) := (hbase.2.2 7 (by decide)).trans x7
    have e7 : a.eval (.tmp 7) = _ := ev_tmp hu7
    refine st3 ho hwt (v := _) (w' := w) ?_ (hK _ w rfl (Below.refl _ _))
    unfold execOp
    rw [hop, ← e7]
    rfl
  | 8, _, hs, ho, hop, hds, hdep, hK =>
    have hop : o.op = .binOp .neq 28 (.tmp 34) (.const (.int .i64 0)) 28 := Option.some.inj hop
    obtain ⟨u34, hu34, hv34⟩ := hdep 7 (by decide)
    have hv34' : u34 = .int .i64 0 := hv34
    subst hv34'
    have e34 : a.eval (.tmp 34) = _ := ev_tmp hu34
    refine st3 ho hwt (v := .bool false) (w' := w) ?_ (hK _ w rfl (Below.refl _ _))
    unfold execOp
    simp only [hop, e34]
    first | rfl | (go_simp; done) | (go_simp; simp; done) | (go_simp; intro h; omega)
  | 9, _, hs, ho, hop, hds, hdep, hK =>
    have hop : o.op = .pick (.tmp 33) (.const (.bool true)) (.tmp 35) := Option.some.inj hop
    obtain ⟨u33, hu33, hv33⟩ := hdep 6 (by decide)
    have hv33' : u33 = .bool false := hv33
    subst hv33'
    have e33 : a.eval (.tmp 33) = _ := ev_tmp hu33
    obtain ⟨u35, hu35, hv35⟩ := hdep 8 (by decide)
    have hv35' : u35 = .bool false := hv35
    subst hv35'
    have e35 : a.eval (.tmp 35) = _ := ev_tmp hu35
    refine st3 ho hwt (v := .bool false) (w' := w) ?_ (hK _ w rfl (Below.refl _ _))
    unfold execOp
    simp only [hop, e33, e35]
    first | rfl | (go_simp; done) | (go_simp; simp; done) | (go_simp; intro h; omega)
  | 10, _, hs, ho, hop, hds, hdep, hK =>
    have hop : o.op = .move (.tmp 36) := Option.some.inj hop
    obtain ⟨u36, hu36, hv36⟩ := hdep 9 (by decide)
    have hv36' : u36 = .bool false := hv36
    subst hv36'
    have e36 : a.eval (.tmp 36) = _ := ev_tmp hu36
    refine st3 ho hwt (v := _) (w' := w) ?_ (hK _ w rfl (Below.refl _ _))
    unfold execOp
    rw [hop, ← e36]
    rfl
  | 11, _, hs, ho, hop, hds, hdep, hK =>
    have hop : o.op = .move (.tmp 6) := Option.some.inj hop
    have hu6 : a.tmps[6]? = some (.bool false) := (hbase.2.2 6 (by decide)).trans x6
    have e6 : a.eval (.tmp 6) = _ := ev_tmp hu6
    refine st3 ho hwt (v := _) (w' := w) ?_ (hK _ w rfl (Below.refl _ _))
    unfold execOp
    rw [hop, ← e6]
    rfl
  | 12, _, hs, ho, hop, hds, hdep, hK =>
    have hop : o.op = .pick (.tmp 37) (.const (.bool true)) (.tmp 38) := Option.some.inj hop
    obtain ⟨u37, hu37, hv37⟩ := hdep 10 (by decide)
    have hv37' : u37 = .bool false := hv37
    subst hv37'
    have e37 : a.eval (.tmp 37) = _ := ev_tmp hu37
    obtain ⟨u38, hu38, hv38⟩ := hdep 11 (by decide)
    have hv38' : u38 = .bool false := hv38
    subst hv38'
    have e38 : a.eval (.tmp 38) = _ := ev_tmp hu38
    refine st3 ho hwt (v := .bool false) (w' := w) ?_ (hK _ w rfl (Below.refl _ _))
    unfold execOp
    simp only [hop, e37, e38]
    first | rfl | (go_simp; done) | (go_simp; simp; done) | (go_simp; intro h; omega)
  | 13, _, hs, ho, hop, hds, hdep, hK =>
    have hop : o.op = .move (.tmp 39) := Option.some.inj hop
    obtain ⟨u39, hu39, hv39⟩ := hdep 12 (by decide)
    have hv39' : u39 = .bool false := hv39
    subst hv39'
    have e39 : a.eval (.tmp 39) = _ := ev_tmp hu39
    refine st3 ho hwt (v := _) (w' := w) ?_ (hK _ w rfl (Below.refl _ _))
    unfold execOp
    rw [hop, ← e39]
    rfl
  | 14, _, hs, ho, hop, hds, hdep, hK =>
    have hop : o.op = .move (.tmp 8) := Option.some.inj hop
    have hu8 : a.tmps[8]? = some (.bool true) := (hbase.2.2 8 (by decide)).trans x8
    have e8 : a.eval (.tmp 8) = _ := ev_tmp hu8
    refine st3 ho hwt (v := _) (w' := w) ?_ (hK _ w rfl (Below.refl _ _))
    unfold execOp
    rw [hop, ← e8]
    rfl
  | 15, _, hs, ho, hop, hds, hdep, hK =>
    have hop : o.op = .unOp .not 4 (.tmp 41) := Option.some.inj hop
    obtain ⟨u41, hu41, hv41⟩ := hdep 14 (by decide)
    have hv41' : u41 = .bool true := hv41
    subst hv41'
    have e41 : a.eval (.tmp 41) = _ := ev_tmp hu41
    refine st3 ho hwt (v := .bool false) (w' := w) ?_ (hK _ w rfl (Below.refl _ _))
    unfold execOp
    simp only [hop, e41]
    first | rfl | (go_simp; done) | (go_simp; simp; done) | (go_simp; intro h; omega)
  | 16, _, hs, ho, hop, hds, hdep, hK =>
    have hop : o.op = .pick (.tmp 40) (.const (.bool true)) (.tmp 42) := Option.some.inj hop
    obtain ⟨u40, hu40, hv40⟩ := hdep 13 (by decide)
    have hv40' : u40 = .bool false := hv40
    subst hv40'
    have e40 : a.eval (.tmp 40) = _ := ev_tmp hu40
    obtain ⟨u42, hu42, hv42⟩ := hdep 15 (by decide)
    have hv42' : u42 = .bool false := hv42
    subst hv42'
    have e42 : a.eval (.tmp 42) = _ := ev_tmp hu42
    refine st3 ho hwt (v := .bool false) (w' := w) ?_ (hK _ w rfl (Below.refl _ _))
    unfold execOp
    simp only [hop, e40, e42]
    first | rfl | (go_simp; done) | (go_simp; simp; done) | (go_simp; intro h; omega)
  | 17, _, hs, ho, hop, hds, hdep, hK =>
    have hop : o.op = .move (.tmp 43) := Option.some.inj hop
    obtain ⟨u43, hu43, hv43⟩ := hdep 16 (by decide)
    have hv43' : u43 = .bool false := hv43
    subst hv43'
    have e43 : a.eval (.tmp 43) = _ := ev_tmp hu43
    refine st3 ho hwt (v := _) (w' := w) ?_ (hK _ w rfl (Below.refl _ _))
    unfold execOp
    rw [hop, ← e43]
    rfl
  | 18, _, hs, ho, hop, hds, hdep, hK =>
    have hop : o.op = .move (.tmp 3) := Option.some.inj hop
    have hu3 : a.tmps[3]? = some (.pointer (some ⟨g, 0, none⟩)) := (hbase.2.2 3 (by decide)).trans x3
    have e3 : a.eval (.tmp 3) = _ := ev_tmp hu3
    refine st3 ho hwt (v := _) (w' := w) ?_ (hK _ w rfl (Below.refl _ _))
    unfold execOp
    rw [hop, ← e3]
    rfl
  | 19, _, hs, ho, hop, hds, hdep, hK =>
    have hop : o.op = .call { callee := .value (.func 14), args := #[.tmp 45], argTypes := #[24] } := Option.some.inj hop
    obtain ⟨u45, hu45, hv45⟩ := hdep 18 (by decide)
    have hv45' : u45 = .pointer (some ⟨g, 0, none⟩) := hv45
    subst hv45'
    have e45 : a.eval (.tmp 45) = _ := ev_tmp hu45
    refine st3_call ho hwt (f := 14) (vals := #[.pointer (some ⟨g, 0, none⟩)]) (Z := fun v w' => PRow [X] w' v ∧ Below w.heap.size w w') ?_ ?_ ?_
    · unfold execOp
      simp only [hop, e45, resolve, invoke, Sem.run_bind, Sem.run_pure, Result.andThen_ok, List.map_toArray, List.map_cons, List.map_nil]
      first | rfl | exact enters_of Try.func14 (by kernel_rfl) rfl _ _
    · exact hP w hbl
    · rintro v w' ⟨h1, h2⟩
      exact hK v w' h1 h2
  | 20, _, hs, ho, hop, hds, hdep, hK =>
    have hop : o.op = .load 39 (.tmp 1) := Option.some.inj hop
    have hu1 : a.tmps[1]? = some (.pointer (some ⟨ba, 0, none⟩)) := (hbase.2.2 1 (by decide)).trans x1
    have e1 : a.eval (.tmp 1) = _ := ev_tmp hu1
    refine st3 ho hwt (v := .agg D.toArray) (w' := w) ?_ (hK _ w rfl (Below.refl _ _))
    unfold execOp
    simp only [hop, e1, Instr.loadAt, Instr.sureAddr, Sem.run_bind, Sem.run_pure, Result.andThen_ok, run_loadVar_mid w ba 0 39 D _ ((fun j v hv => (hA.below hbl hA.lt).cell (by rw [Nat.zero_add]; exact hv))) Try.underlying39 rfl hiD]
  | 21, _, hs, ho, hop, hds, hdep, hK =>
    have hop : o.op = .build 41 #[(0, .const (.int .i64 3)), (1, .tmp 47)] := Option.some.inj hop
    obtain ⟨u47, hu47, hv47⟩ := hdep 20 (by decide)
    have hv47' : u47 = .agg D.toArray := hv47
    subst hv47'
    have e47 : a.eval (.tmp 47) = _ := ev_tmp hu47
    exact st3 ho hwt (exec_build 41 _ hop _ (show (Try.prog).built 41 [(0, .int .i64 3), (1, a.eval (.tmp 47))] = _ from (by rw [e47]; exact hbX)) w) (hK _ w rfl (Below.refl _ _))
  | 22, _, hs, ho, hop, hds, hdep, hK =>
    have hop : o.op = .buildSlice 33 1 #[(0, .tmp 48)] := Option.some.inj hop
    obtain ⟨u48, hu48, hv48⟩ := hdep 21 (by decide)
    have hv48' : u48 = .agg (sdT X).toArray := hv48
    subst hv48'
    have e48 : a.eval (.tmp 48) = _ := ev_tmp hu48
    have hrun := row_stand X w
    refine st3 ho hwt (v := .slice (some ⟨w.heap.size, 0, none⟩) 1 1) (w' := w.alloc (.cells (sdT X).toArray 41)) ?_ (hK _ _ (by have h := PRow.new w [X] 1 rfl; rw [sdCs_single] at h; exact h) ((Below.refl _ _).alloc (Nat.le_refl _) _))
    unfold execOp
    simp only [hop, e48, List.map_toArray, List.map_cons, List.map_nil, Sem.run_bind, hrun, Result.andThen_ok]
    rfl
  | 23, _, hs, ho, hop, hds, hdep, hK =>
    have hop : o.op = .call { callee := .value (.func 13), args := #[.tmp 46, .tmp 49], argTypes := #[33, 33] } := Option.some.inj hop
    obtain ⟨u46, hu46, hv46⟩ := hdep 19 (by decide)
    have hv46' : PRow [X] w u46 := hv46
    have e46 : a.eval (.tmp 46) = _ := ev_tmp hu46
    obtain ⟨u49, hu49, hv49⟩ := hdep 22 (by decide)
    have hv49' : PRow [X] w u49 := hv49
    have e49 : a.eval (.tmp 49) = _ := ev_tmp hu49
    refine st3_call ho hwt (f := 13) (vals := #[u46, u49]) (Z := fun v w' => v = .bool true ∧ Below w.heap.size w w') ?_ ?_ ?_
    · unfold execOp
      simp only [hop, e46, e49, resolve, invoke, Sem.run_bind, Sem.run_pure, Result.andThen_ok, List.map_toArray, List.map_cons, List.map_nil]
      first | rfl | exact enters_of Try.func13 (by kernel_rfl) rfl _ _
    · exact (prow_stands hv46' hv49' (by simp) (by simp)).mono fun e w' ⟨he, hb⟩ => ⟨_, he, by rw [decide_eq_true rfl], hb⟩
    · rintro v w' ⟨h1, h2⟩
      exact hK v w' h1 h2
  | 24, _, hs, ho, hop, hds, hdep, hK =>
    have hop : o.op = .unOp .not 4 (.tmp 50) := Option.some.inj hop
    obtain ⟨u50, hu50, hv50⟩ := hdep 23 (by decide)
    have hv50' : u50 = .bool true := hv50
    subst hv50'
    have e50 : a.eval (.tmp 50) = _ := ev_tmp hu50
    refine st3 ho hwt (v := .bool false) (w' := w) ?_ (hK _ w rfl (Below.refl _ _))
    unfold execOp
    simp only [hop, e50]
    first | rfl | (go_simp; done) | (go_simp; simp; done) | (go_simp; intro h; omega)
  | 25, _, hs, ho, hop, hds, hdep, hK =>
    have hop : o.op = .pick (.tmp 44) (.const (.bool true)) (.tmp 51) := Option.some.inj hop
    obtain ⟨u44, hu44, hv44⟩ := hdep 17 (by decide)
    have hv44' : u44 = .bool false := hv44
    subst hv44'
    have e44 : a.eval (.tmp 44) = _ := ev_tmp hu44
    obtain ⟨u51, hu51, hv51⟩ := hdep 24 (by decide)
    have hv51' : u51 = .bool false := hv51
    subst hv51'
    have e51 : a.eval (.tmp 51) = _ := ev_tmp hu51
    refine st3 ho hwt (v := .bool false) (w' := w) ?_ (hK _ w rfl (Below.refl _ _))
    unfold execOp
    simp only [hop, e44, e51]
    first | rfl | (go_simp; done) | (go_simp; simp; done) | (go_simp; intro h; omega)
  | 26, _, hs, ho, hop, hds, hdep, hK =>
    have hop : o.op = .move (.tmp 52) := Option.some.inj hop
    obtain ⟨u52, hu52, hv52⟩ := hdep 25 (by decide)
    have hv52' : u52 = .bool false := hv52
    subst hv52'
    have e52 : a.eval (.tmp 52) = _ := ev_tmp hu52
    refine st3 ho hwt (v := _) (w' := w) ?_ (hK _ w rfl (Below.refl _ _))
    unfold execOp
    rw [hop, ← e52]
    rfl
  | 27, _, hs, ho, hop, hds, hdep, hK =>
    have hop : o.op = .move (.tmp 3) := Option.some.inj hop
    have hu3 : a.tmps[3]? = some (.pointer (some ⟨g, 0, none⟩)) := (hbase.2.2 3 (by decide)).trans x3
    have e3 : a.eval (.tmp 3) = _ := ev_tmp hu3
    refine st3 ho hwt (v := _) (w' := w) ?_ (hK _ w rfl (Below.refl _ _))
    unfold execOp
    rw [hop, ← e3]
    rfl
  | 28, _, hs, ho, hop, hds, hdep, hK =>
    have hop : o.op = .load 39 (.tmp 1) := Option.some.inj hop
    have hu1 : a.tmps[1]? = some (.pointer (some ⟨ba, 0, none⟩)) := (hbase.2.2 1 (by decide)).trans x1
    have e1 : a.eval (.tmp 1) = _ := ev_tmp hu1
    refine st3 ho hwt (v := .agg D.toArray) (w' := w) ?_ (hK _ w rfl (Below.refl _ _))
    unfold execOp
    simp only [hop, e1, Instr.loadAt, Instr.sureAddr, Sem.run_bind, Sem.run_pure, Result.andThen_ok, run_loadVar_mid w ba 0 39 D _ ((fun j v hv => (hA.below hbl hA.lt).cell (by rw [Nat.zero_add]; exact hv))) Try.underlying39 rfl hiD]
  | 29, _, hs, ho, hop, hds, hdep, hK =>
    have hop : o.op = .call { callee := .value (.func 21), args := #[.tmp 54, .const (.int .i64 1), .const (.int .i64 0), .const (.int .i64 3), .tmp 55], argTypes := #[24, 3, 3, 3, 39] } := Option.some.inj hop
    obtain ⟨u54, hu54, hv54⟩ := hdep 27 (by decide)
    have hv54' : u54 = .pointer (some ⟨g, 0, none⟩) := hv54
    subst hv54'
    have e54 : a.eval (.tmp 54) = _ := ev_tmp hu54
    obtain ⟨u55, hu55, hv55⟩ := hdep 28 (by decide)
    have hv55' : u55 = .agg D.toArray := hv55
    subst hv55'
    have e55 : a.eval (.tmp 55) = _ := ev_tmp hu55
    refine st3_call ho hwt (f := 21) (vals := #[.pointer (some ⟨g, 0, none⟩), .int .i64 1, .int .i64 0, .int .i64 3, .agg D.toArray]) (Z := fun v w' => v = .int .i64 2 ∧ Below w.heap.size w w') ?_ ?_ ?_
    · unfold execOp
      simp only [hop, e54, e55, resolve, invoke, Sem.run_bind, Sem.run_pure, Result.andThen_ok, List.map_toArray, List.map_cons, List.map_nil]
      first | rfl | exact enters_of Try.func21 (by kernel_rfl) rfl _ _
    · exact (hL w hbl).mono fun e w' ⟨he, h2⟩ => ⟨_, he, rfl, h2⟩
    · rintro v w' ⟨h1, h2⟩
      exact hK v w' h1 h2
  | 30, _, hs, ho, hop, hds, hdep, hK =>
    have hop : o.op = .binOp .neq 28 (.tmp 56) (.const (.int .i64 2)) 28 := Option.some.inj hop
    obtain ⟨u56, hu56, hv56⟩ := hdep 29 (by decide)
    have hv56' : u56 = .int .i64 2 := hv56
    subst hv56'
    have e56 : a.eval (.tmp 56) = _ := ev_tmp hu56
    refine st3 ho hwt (v := .bool false) (w' := w) ?_ (hK _ w rfl (Below.refl _ _))
    unfold execOp
    simp only [hop, e56]
    first | rfl | (go_simp; done) | (go_simp; simp; done) | (go_simp; intro h; omega)
  | 31, _, hs, ho, hop, hds, hdep, hK =>
    have hop : o.op = .pick (.tmp 53) (.const (.bool true)) (.tmp 57) := Option.some.inj hop
    obtain ⟨u53, hu53, hv53⟩ := hdep 26 (by decide)
    have hv53' : u53 = .bool false := hv53
    subst hv53'
    have e53 : a.eval (.tmp 53) = _ := ev_tmp hu53
    obtain ⟨u57, hu57, hv57⟩ := hdep 30 (by decide)
    have hv57' : u57 = .bool false := hv57
    subst hv57'
    have e57 : a.eval (.tmp 57) = _ := ev_tmp hu57
    refine st3 ho hwt (v := .bool false) (w' := w) ?_ (hK _ w rfl (Below.refl _ _))
    unfold execOp
    simp only [hop, e53, e57]
    first | rfl | (go_simp; done) | (go_simp; simp; done) | (go_simp; intro h; omega)
  | i + 32, hi, _, _, _, _, _, _ => exact absurd hi (by omega)
end Go.Proofs.Ytmdgcimjmmnbjaa
