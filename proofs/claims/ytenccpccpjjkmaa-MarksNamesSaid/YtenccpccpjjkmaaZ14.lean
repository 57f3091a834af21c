/-
  Laid together for a hand-in: Rm15, Rt15, Rl15, Rg15.
-/
import Derived.Test.YtenccpccpjjkmaaZ07
import Derived.Test.YtenccpccpjjkmaaZ09
import Derived.Test.YtenccpccpjjkmaaZ05
import Derived.Test.YtenccpccpjjkmaaZ11
import Derived.BigQuiet

namespace Go.Proofs.Ytenccpccpjjkmaa
open Go.RowKit Go.Shelf Go.Sort Go.Maps CrewP
set_option linter.unusedVariables false
set_option linter.unusedSimpArgs false

theorem msU_35 (f : Int) (u : Value) (lo : Mk) (k : Value) : (msU f u lo k)[35]? = some k := by
  unfold msU
  rw [show (35 : Nat) = 33 + 1 + 1 from rfl, List.getElem?_cons_succ, List.getElem?_cons_succ, List.getElem?_append_right (by rw [mkC_len]; exact Nat.le_refl _), mkC_len]
  rfl
theorem msU_lo (f : Int) (u : Value) (lo : Mk) (k : Value) : ((msU f u lo k).drop 2).take 33 = mkC lo := by
  show (mkC lo ++ [k]).take 33 = _
  rw [List.take_append_of_le_length (by rw [mkC_len]; exact Nat.le_refl _), List.take_of_length_le (by rw [mkC_len]; exact Nat.le_refl _)]
/-- The document's marks at the block r: the nodes at ab, the rows at lb. -/
structure RfIn (w : World) (U : Nat → Prop) (r : Nat) (m : Ms) (lb ab cap : Nat) (cs : List Value) : Prop where
  ok : m.ok
  non : ∀ n, n ∉ m.ns → m.told n = []
  blk : Blk w r 70 (msU m.f (.slice (some ⟨ab, 0, none⟩) m.ns.length cap) m.lo (.slice (some ⟨lb, 0, none⟩) m.ns.length m.ns.length))
  nd : ∃ cs, Blk w ab 3 cs ∧ cs.take m.ns.length = cis m.ns ∧ m.ns.length ≤ cap ∧ cap ≤ maxLen
  rows : Blk w lb 54 cs
  len : cs.length = m.ns.length
  row : ∀ k (hk : k < m.ns.length), ∃ A q c, cs[k]? = some (.slice A q c) ∧ ShM w A (m.told m.ns[k]) ∧ (m.told m.ns[k]).length = q ∧ (q = 0 → A = none ∧ c = 0) ∧ ∀ b, blkOf A b → U b ∧ b ≠ r ∧ b ≠ lb
  ne : ab ≠ r ∧ ab ≠ lb ∧ lb ≠ r
  u : U r ∧ U lb ∧ U ab
  lt : ∀ i, U i → i < w.heap.size
def RfAt (w : World) (U : Nat → Prop) (r : Nat) (m : Ms) : Prop := ∃ lb ab cap cs, RfIn w U r m lb ab cap cs
theorem ShM.out' {w w' : World} {S : Nat → Prop} {A : Option Addr} {l : List Mk} (h : ShM w A l) (ho : Out S w w') (hS : ∀ b, blkOf A b → ¬ S b) : ShM w' A l := fun hl => by
  obtain ⟨b, o, rfl, h1, h2⟩ := h hl
  refine ⟨b, o, rfl, Nat.lt_of_lt_of_le h1 ho.size, fun j u hu => ?_⟩
  have hb := ho.block b h1 (hS b ⟨_, rfl, rfl⟩)
  have := h2 j u hu
  unfold World.cell? at *
  first | (rw [hb]; exact this) | (simp only [hb]; exact this) | (simpa [hb] using this)
section
variable {w w' : World} {U S : Nat → Prop} {r : Nat} {m : Ms} {lb ab cap : Nat} {cs : List Value}
theorem RfIn.out (h : RfIn w U r m lb ab cap cs) (ho : Out S w w') (hS : ∀ i, U i → ¬ S i) : RfIn w' U r m lb ab cap cs := by
  obtain ⟨ns, n1, n2⟩ := h.nd
  exact ⟨h.ok, h.non, ho.blk h.blk (hS _ h.u.1), ⟨ns, ho.blk n1 (hS _ h.u.2.2), n2⟩, ho.blk h.rows (hS _ h.u.2.1), h.len, fun k hk => let ⟨A, q, c, e1, e2, e3, e4, e5⟩ := h.row k hk; ⟨A, q, c, e1, e2.out' ho (fun b hb => hS b (e5 b hb).1), e3, e4, e5⟩, h.ne, h.u, fun i hi => Nat.lt_of_lt_of_le (h.lt i hi) ho.size⟩
theorem RfIn.below (h : RfIn w U r m lb ab cap cs) (hb : Below w.heap.size w w') : RfIn w' U r m lb ab cap cs :=
  h.out (S := fun i => w.heap.size ≤ i) (Out.ofBelow _ hb) fun i hi => by have := h.lt i hi; omega
theorem RfAt.out (h : RfAt w U r m) (ho : Out S w w') (hS : ∀ i, U i → ¬ S i) : RfAt w' U r m := let ⟨a, b, c, d, h⟩ := h; ⟨a, b, c, d, h.out ho hS⟩
theorem RfAt.below (h : RfAt w U r m) (hb : Below w.heap.size w w') : RfAt w' U r m := let ⟨a, b, c, d, h⟩ := h; ⟨a, b, c, d, h.below hb⟩
theorem RfIn.few (h : RfIn w U r m lb ab cap cs) : m.ns.length ≤ 7 := by
  have := ((okC_iff m.f m.ns).1 h.ok.crew).1
  omega
/-- A node's row, or none. -/
theorem RfIn.nd_cell (h : RfIn w U r m lb ab cap cs) {j : Nat} (hj : j < m.ns.length) : w.cell? ⟨ab, j, none⟩ = some (.int .i64 m.ns[j]) := by
  obtain ⟨ns, n1, n2, _⟩ := h.nd
  refine n1.cell ?_
  have e : (ns.take m.ns.length)[j]? = some (.int .i64 m.ns[j]) := by rw [n2]; simp [cis, ci, hj]
  rw [List.getElem?_take, if_pos hj] at e
  exact e
theorem RfIn.arg (h : RfIn w U r m lb ab cap cs) : ArgI w (some ⟨ab, 0, none⟩) m.ns.length cap m.ns := by
  obtain ⟨cs, n1, n2, n3, n4⟩ := h.nd
  refine ⟨rfl, n3, n4, ⟨by rw [cis_length, Nat.mul_one], fun hn => ⟨ab, 0, rfl, n1.lt, fun j u hu => ?_⟩⟩, fun x hx => ?_⟩
  · rw [Nat.zero_add]
    refine n1.cell ?_
    rw [← n2, List.getElem?_take] at hu
    split at hu
    · exact hu
    · cases hu
  · have := ns_rng h.ok.crew x hx
    exact wf_b (by omega) (by omega)
/-- The row at k, known by its cell. -/
theorem RfIn.row_of (h : RfIn w U r m lb ab cap cs) {k : Nat} (hk : k < m.ns.length) {A : Option Addr} {q c : Nat} (e : cs[k]? = some (.slice A q c)) : ShM w A (m.told m.ns[k]) := by
  obtain ⟨A', q', c', e1, e2, _⟩ := h.row k hk
  rw [e1] at e
  injection e with e
  injection e with e3
  rw [← e3]
  exact e2
theorem hidx_at (w : World) (b o : Nat) (n c : Nat) (i : Nat) (hi : i < n) : (Instr.indexAt 54 (.slice (some ⟨b, o, none⟩) n c) (.int .i64 (i : Int))).run Try.prog w = .ok (.pointer (some ⟨b, o + i * 33, none⟩)) w := by
  have hr := run_indexAt_slice (P := Try.prog) (w := w) 54 ⟨b, o, none⟩ n c .i64 (i : Int) (by kernel_rfl)
  rw [if_pos (by omega)] at hr
  refine hr.trans ?_
  have h33 : (sizeOf (Try.prog.elem 54)).run Try.prog w = .ok 33 w := by kernel_rfl
  rw [h33, Int.toNat_natCast]
  simp only [Result.andThen_ok, add_mk]
/-- Where a node stands; -1: nowhere. -/
def Plc (ns : List Int) (x k : Int) : Prop := (k = -1 ∧ x ∉ ns) ∨ ∃ j : Nat, ∃ hj : j < ns.length, k = (j : Int) ∧ ns[j] = x
set_option maxRecDepth 100000 in
set_option maxHeartbeats 1600000 in
theorem place_in (h : RfIn w U r m lb ab cap cs) (x : Int) :
    Calls Try.prog 35 #[.pointer (some ⟨r, 0, none⟩), .int .i64 x] w fun e w' => ∃ k, e = .returned (.int .i64 k) ∧ Plc m.ns x k ∧ w' = w := by
  have c1 := h.blk.cell (i := 1) (v := .slice (some ⟨ab, 0, none⟩) m.ns.length cap) rfl
  have hfew := h.few
  have H := Lib.hid (fun (j : Nat) (hj : j < m.ns.length) => h.nd_cell hj)
  clear h
  generalize hns : m.ns = ns at *
  go_enter Try.func35, Try.ntmps35
  go_wp2
  go_loopw [5] (fun v5 wr => ∃ j : Nat, j ≤ ns.length ∧ v5 = .int .i64 (j : Int) ∧ x ∉ ns.take j ∧ wr = w) (fun v _ => 10 - (intOf v).toNat)
  case atStart => exact ⟨0, Nat.zero_le _, rfl, by simp, rfl⟩
  case round =>
    obtain ⟨j, hj, rfl, hni, rfl⟩ := hrel
    have hi0 : (0 : Int) ≤ j := by omega
    by_cases hlt : j < ns.length
    · have hi1 : (j : Int) < ns.length := by omega
      have c2 := H.out j hlt
      have hts : ns.take (j + 1) = ns.take j ++ [ns[j]] := List.take_succ_eq_append_getElem hlt
      have hP : Hid (ns[j] = x → Plc ns x (j : Int)) := Lib.hid fun e => .inr ⟨j, hlt, rfl, e⟩
      generalize ns[j] = y at *
      have Hl := Lib.hid (And.intro hts hni)
      clear hts hni
      have hwj : IntKind.i64.wrap ((j : Int) + 1) = (j : Int) + 1 := IntWalk.i64_in _ (by omega)
      by_cases hxy : y = x
      · subst hxy
        go_wp2
        go_ret
        exact ⟨_, rfl, hP.out (by first | rfl | trivial), by first | rfl | trivial⟩
      · have hyx : (y == x) = false := by simp [hxy]
        go_wp2
        go_roundw
        case rel =>
          refine ⟨j + 1, by omega, by first | rfl | (push_cast; rfl), ?_, by first | rfl | trivial⟩
          rw [Hl.out.1, List.mem_append, List.mem_singleton]
          rintro (e | e)
          · exact Hl.out.2 e
          · exact hxy e.symm
        case measure => simp [intOf]; omega
    · have hi1 : ¬ (j : Int) < ns.length := by omega
      rw [List.take_of_length_le (by omega)] at hni
      have Hn := Lib.hid hni
      clear hni
      go_wp2
      go_ret
      exact ⟨_, rfl, .inl ⟨rfl, Hn.out⟩, by first | rfl | trivial⟩
theorem may_any (n : Int) (w : World) : Calls Try.prog 30 #[.int .i64 n] w fun e w' => e = .returned (.bool (decide (0 ≤ n ∧ n ≤ 9007199254740991))) ∧ w' = w := by
  by_cases h1 : 0 ≤ n
  · have h1' : n ≥ 0 := h1
    by_cases h2 : n ≤ 9007199254740991
    · have e : decide (0 ≤ n ∧ n ≤ 9007199254740991) = true := by simp [h1, h2]
      rw [e]; clear e
      go_enter Try.func30, Try.ntmps30
      go_wp2
      go_ret
      exact ⟨rfl, rfl⟩
    · have e : decide (0 ≤ n ∧ n ≤ 9007199254740991) = false := by simp [h1, h2]
      rw [e]; clear e
      go_enter Try.func30, Try.ntmps30
      go_wp2
      go_ret
      exact ⟨rfl, rfl⟩
  · have h1' : ¬ n ≥ 0 := h1
    have e : decide (0 ≤ n ∧ n ≤ 9007199254740991) = false := by simp [h1]
    rw [e]; clear e
    go_enter Try.func30, Try.ntmps30
    go_wp2
    go_ret
    exact ⟨rfl, rfl⟩
set_option maxRecDepth 100000 in
theorem rlow_in (h : RfIn w U r m lb ab cap cs) :
    Calls Try.prog 40 #[.pointer (some ⟨r, 0, none⟩)] w fun e w' => e = .returned (.agg (mkC m.lo).toArray) ∧ Below w.heap.size w w' := by
  have hal : Below w.heap.size w (w.alloc (.cells (mkC mk0).toArray 28)) := (Below.refl _ _).alloc (Nat.le_refl _) _
  have h1 := h.below hal
  obtain ⟨w2, hw2, ⟨hth, hi⟩, hb2, hbe, hs2⟩ := row_local w 28 (mkC mk0) (mkC m.lo) (by rw [mkC_len, mkC_len]) (by rw [mkC_len]; exact mark_info1)
  have H := Lib.hid (And.intro hth (And.intro hi (And.intro (mkC_oneA m.lo) (And.intro hw2 (And.intro hb2 (And.intro hbe (And.intro (h1.blk.rangeFrom (msU_lo _ _ _ _)) (mark_infoL m.lo))))))))
  clear h h1 hth hi hw2 hb2 hbe hs2 hal
  generalize mkC m.lo = C at *
  generalize hZ : mkC mk0 = Z at *
  go_enter Try.func40, Try.ntmps40
  subst hZ
  go_wp2_with (first
    | (refine load_mid_g rfl 28 _ rfl r 2 rfl C _ H.out.2.2.2.2.2.2.1 Try.underlying28 rfl H.out.2.2.2.2.2.2.2 ?_; simp only [Act.put])
    | (refine wpList_store_mid rfl 28 _ _ rfl w.heap.size 0 C.toArray rfl rfl H.out.1 H.out.2.1 H.out.2.2.1 ?_; simp only [Act.put]; refine cast (congrArg (fun z => wpList _ _ _ _ _ z) H.out.2.2.2.1.symm) ?_))
  refine bodyPost_ret (results_row rfl _ _ w.heap.size 28 C.toArray _ rfl H.out.2.2.2.2.1 Try.underlying28 rfl H.out.2.1) rfl ?_
  exact ⟨rfl, H.out.2.2.2.2.2.1⟩
theorem RowK.toSh {w : World} {A : Option Addr} {n cap : Nat} {l : List Mk} (h : RowK w 28 33 A n cap (mks l)) (hl : l.length = n) : ShM w A l := fun hn => by
  obtain ⟨r, e, h1, h2, _⟩ := h.cells (by omega)
  exact ⟨r, 0, e, h1, fun j u hu => by rw [Nat.zero_add]; exact h2 j u hu⟩
/-- A row's copy behind nothing. -/
theorem copy_marks {w : World} {A : Option Addr} {q c : Nat} {l : List Mk} (h : ShM w A l) (hl : l.length = q) (h0 : q = 0 → A = none ∧ c = 0) (hq : q ≤ 1000) (ty : TypeId) :
    ∃ A' cap' w', (Builtin.append_ #[54, 54] ty #[.slice none 0 0, .slice A q c]).run Try.prog w = .ok (.slice A' q cap') w' ∧ ShM w' A' l ∧ Below w.heap.size w w' := by
  obtain ⟨i0, hi, hz0, hz1, hz2⟩ := info_parts mark_info
  by_cases hq0 : q = 0
  · obtain ⟨rfl, rfl⟩ := h0 hq0
    subst hq0
    have e : l = [] := List.length_eq_zero_iff.1 hl
    refine ⟨none, 0, w, ?_, by rw [e]; exact ShM.nil _ _, Below.refl _ _⟩
    simp [Builtin.append_, run_underlying Try.underlying54, sizeOf, typeInfo, hi, Builtin.lenOf, Builtin.firstCells]
  · obtain ⟨b, o, rfl, hb, hc⟩ := h (by omega)
    obtain ⟨A', cap', w', r1, r2, r3, r4, _⟩ := run_append_rowK 54 ty 28 i0 _ 33 40 Try.underlying54 hi hz0 hz1 hz2 rfl (RowK.nil w 28 33) ⟨b, o, none⟩ q c (mks l) (by rw [← hl]; exact mks_len l) (fun j u hu => by rw [add_mk]; exact hc j u hu) (mks_one l) (by unfold maxLen; omega) (by omega)
    rw [Nat.zero_add] at r1 r2
    rw [List.nil_append] at r2
    exact ⟨A', cap', w', r1, r2.toSh hl, r3.above (B := w.heap.size) (fun i ⟨a, ha, _⟩ => by cases ha) (Nat.le_refl _)⟩
set_option maxRecDepth 100000 in
set_option maxHeartbeats 1600000 in
theorem rof_in (h : RfIn w U r m lb ab cap cs) (x : Int) :
    Calls Try.prog 41 #[.pointer (some ⟨r, 0, none⟩), .int .i64 x] w fun e w' => ∃ A k c, e = .returned (.slice A k c) ∧ ShM w' A (m.told x) ∧ (m.told x).length = k ∧ Below w.heap.size w w' := by
  have Hp := Lib.hid (place_in h x)
  have c35 := h.blk.cell (msU_35 _ _ _ _)
  have hfew := h.few
  have H := Lib.hid h
  clear h
  go_enter Try.func41, Try.ntmps41
  go_wp2_with fail
  refine Hp.out.mono ?_
  rintro e w' ⟨k, rfl, hk, hww⟩
  have hww2 := hww.symm
  subst hww2
  clear hww Hp
  rcases hk with ⟨rfl, hn⟩ | ⟨j, hj, rfl, hx⟩
  · have hl := Lib.hid (H.out.non x hn)
    clear hn
    go_wp2
    go_ret
    exact ⟨none, 0, 0, rfl, by rw [hl.out]; exact ShM.nil _ _, by rw [hl.out]; rfl, Below.refl _ _⟩
  · obtain ⟨A, q, c, e1, e2, e3, e4, _⟩ := H.out.row j hj
    rw [hx] at e2 e3
    have hq4 := H.out.ok.len x
    obtain ⟨A', cap', w2, r1, r2, r3⟩ := copy_marks (c := c) e2 e3 e4 (by omega) 54
    have cj := H.out.rows.cell e1
    have HR := Lib.hid (And.intro r1 (And.intro r2 (And.intro r3 e3)))
    have hj0 : (j : Int) ≥ 0 := by omega
    have hjn : (j : Int) < (m.ns.length : Int) := by omega
    clear e1 e2 e3 e4 r1 r2 r3 hx hq4
    go_wp2_with (refine app_g rfl _ _ _ _ rfl _ _ _ w2 rfl rfl HR.out.1 ?_; simp only [Act.put])
    go_ret
    exact ⟨A', q, cap', rfl, HR.out.2.1, HR.out.2.2.2, HR.out.2.2.1⟩
end
end Go.Proofs.Ytenccpccpjjkmaa

namespace Go.Proofs.Ytenccpccpjjkmaa
open Go.RowKit Go.Shelf Go.Sort Go.Maps CrewP
set_option linter.unusedVariables false
set_option linter.unusedSimpArgs false

theorem flat_succ {told : Int → List Mk} {ns : List Int} {k : Nat} (hk : k < ns.length) : (ns.take (k + 1)).flatMap told = (ns.take k).flatMap told ++ told ns[k] := by
  rw [List.take_succ_eq_append_getElem hk, List.flatMap_append]; simp
theorem count_succ {l : List Mk} {i : Nat} (hi : i < l.length) (x : Mk) : (l.take (i + 1)).count x = (l.take i).count x + if l[i] = x then 1 else 0 := by
  rw [List.take_succ_eq_append_getElem hi, List.count_append, List.count_singleton]
  simp
section
variable {w w' : World} {U : Nat → Prop} {r : Nat} {m : Ms} {lb ab cap : Nat} {cs : List Value}
set_option maxRecDepth 100000 in
set_option maxHeartbeats 3200000 in
theorem tell_in (h : RfIn w U r m lb ab cap cs) (x : Mk) :
    Calls Try.prog 67 #[.pointer (some ⟨r, 0, none⟩), .agg (mkC x).toArray] w fun e w' => e = .returned (.int .i64 (cnt m x : Int)) ∧ Below w.heap.size w w' := by
  have hal : Below w.heap.size w (w.alloc (.cells (mkC x).toArray 28)) := (Below.refl _ _).alloc (Nat.le_refl _) _
  have hX : Blk (w.alloc (.cells (mkC x).toArray 28)) w.heap.size 28 (mkC x) := Blk.new rfl rfl
  have H := Lib.hid (And.intro (h.below hal) (And.intro hal hX))
  have hfew := h.few
  have hcnt : Hid ((m.ns.flatMap m.told).count x = cnt m x) := Lib.hid (allM_count h.ok x)
  have hq : ∀ n, (m.told n).length ≤ 4 := h.ok.len
  have H4 := Lib.hid hq
  obtain ⟨W0, hW0⟩ : ∃ W, w.alloc (.cells (mkC x).toArray 28) = W := ⟨_, rfl⟩
  rw [hW0] at H
  have HW0 := Lib.hid hW0
  clear hal hX h hW0 hq
  obtain ⟨X, hX⟩ : ∃ X, mkC x = X := ⟨_, rfl⟩
  have HX := Lib.hid hX
  rw [hX] at H HW0 ⊢
  clear hX
  go_enter Try.func67, Try.ntmps67
  go_wp2
  go_loopw [5, 6] (fun v5 v6 wr => ∃ k : Nat, k ≤ m.ns.length ∧ v6 = .int .i64 (k : Int) ∧ v5 = .int .i64 ((((m.ns.take k).flatMap m.told).count x : Nat) : Int) ∧ Below W0.heap.size W0 wr) (fun _ v _ => 10 - (intOf v).toNat)
  case atStart => exact ⟨0, Nat.zero_le _, rfl, by simp, by rw [HW0.out]; exact Below.refl _ _⟩
  case round =>
    rename World => wk
    obtain ⟨k, hk, rfl, rfl, hbel⟩ := hrel
    have Hb := Lib.hid hbel
    have hR := H.out.1.below hbel
    have c35 := hR.blk.cell (msU_35 _ _ _ _)
    by_cases hlt : k < m.ns.length
    · have hlt' : (k : Int) < (m.ns.length : Int) := by omega
      obtain ⟨A, q, c, e1, e2, e3, e4, _⟩ := hR.row k hlt
      have hq4 := H4.out m.ns[k]
      have hfl := flat_succ (told := m.told) hlt
      obtain ⟨l, hl⟩ : ∃ l, m.told m.ns[k] = l := ⟨_, rfl⟩
      rw [hl] at e2 e3 hq4 hfl
      obtain ⟨C0, hC0⟩ : ∃ z, ((m.ns.take k).flatMap m.told).count x = z := ⟨_, rfl⟩
      have hC1 : ((m.ns.take (k + 1)).flatMap m.told).count x = C0 + l.count x := by rw [hfl, List.count_append, hC0]
      have hbd : C0 + l.count x ≤ 28 := by
        have h1 : ((m.ns.take (k + 1)).flatMap m.told).length ≤ 4 * (m.ns.take (k + 1)).length := flat_len H4.out _
        rw [List.length_take] at h1
        have := List.count_le_length (a := x) (l := (m.ns.take (k + 1)).flatMap m.told)
        omega
      rw [hC0]
      have HR := Lib.hid (And.intro hR (And.intro e1 (And.intro e2 (And.intro e3 (And.intro hC1 (And.intro hbd hl))))))
      clear hR e1 e2 e3 e4 hl hfl hC0 hC1 hbel hbd
      go_wp2
      go_loopw [5, 7] (fun v5 v7 wx => ∃ i : Nat, i ≤ q ∧ v7 = .int .i64 (i : Int) ∧ v5 = .int .i64 (((C0 + (l.take i).count x : Nat)) : Int) ∧ Below W0.heap.size W0 wx) (fun _ v _ => 10 - (intOf v).toNat)
      case atStart => exact ⟨0, Nat.zero_le _, rfl, by simp, Hb.out⟩
      case round =>
        obtain ⟨i, hi, rfl, rfl, hbel⟩ := hrel
        have hR := H.out.1.below hbel
        have c35 := hR.blk.cell (msU_35 _ _ _ _)
        have cj := hR.rows.cell HR.out.2.1
        by_cases hiq : i < q
        · have hiq' : (i : Int) < (q : Int) := by omega
          have hil : i < l.length := by rw [HR.out.2.2.2.1]; exact hiq
          obtain ⟨V, hV⟩ : ∃ V, wr.drew = V := ⟨_, rfl⟩
          have bV : Below W0.heap.size W0 V := by rw [← hV]; exact hbel.drew
          have hRV := H.out.1.below bV
          have d35 := hRV.blk.cell (msU_35 _ _ _ _)
          have dj := hRV.rows.cell HR.out.2.1
          have hrow : ShM V A l := by rw [← HR.out.2.2.2.2.2.2]; exact hRV.row_of hlt HR.out.2.1
          obtain ⟨b, o, hA, hrg⟩ := hrow.at_ hil
          have hXb := H.out.2.2.below bV H.out.2.2.lt
          have hcs := count_succ hil x
          have heq := fun w => eq_mark l[i] x w
          obtain ⟨B, hB⟩ : ∃ B, decide (l[i] = x) = B := ⟨_, rfl⟩
          rw [hB] at heq
          have hcB : (l.take (i + 1)).count x = (l.take i).count x + if B = true then 1 else 0 := by rw [hcs, ← hB]; simp
          have hn1 : (Try.prog.info? 28).map (·.size) = some (mkC l[i]).length := by rw [mkC_len]; exact mark_info1
          have hn2 : (Try.prog.info? 28).map (·.size) = some X.length := by rw [← HX.out, mkC_len]; exact mark_info1
          have hle : (l.take i).count x ≤ l.count x := List.Sublist.count_le x (List.take_sublist i l)
          rw [HX.out] at heq
          have ix := fun w => hidx_at w b o q c i hiq
          subst hA
          generalize mkC l[i] = Y at *
          have HL := Lib.hid (And.intro hrg (And.intro hn1 (And.intro hXb.range (And.intro hn2 (And.intro hcB hle)))))
          have HV := Lib.hid (And.intro hV bV)
          clear hrg hn1 hXb hn2 hcB hcs hV bV hB hrow hRV hR hle hbel
          generalize hCi : (l.take i).count x = Ci at *
          go_wp2
          refine wp_region_held_drew (S := fun W => W = V) (by kernel_rfl) HV.out.1 (fun _ => ?_)
          rw [HV.out.1]
          refine anyH_take (i := 0) (d := 29) (v := ?t0) rfl rfl (by kernel_rfl) (by kernel_rfl) (by kernel_rfl) (fun _ _ _ h => h) (Or.inl ⟨by rfl, ?ty0⟩) rfl ?tr0
          case ty0 => (intro w; go_simp; try with_reducible rfl)
          simp only [List.setIfInBounds_toArray, List.set_cons_zero, List.set_cons_succ]
          refine anyH_take (i := 1) (d := 30) (v := ?t1) rfl rfl (by kernel_rfl) (by kernel_rfl) (by kernel_rfl) (fun _ _ _ h => h) (Or.inl ⟨by rfl, ?ty1⟩) rfl ?tr1
          case ty1 => (intro w; go_simp; try with_reducible rfl)
          simp only [List.setIfInBounds_toArray, List.set_cons_zero, List.set_cons_succ]
          refine anyH_take (i := 2) (d := 31) (v := ?t2) rfl rfl (by kernel_rfl) (by kernel_rfl) (by kernel_rfl) (fun _ _ _ h => h) (Or.inl ⟨by rfl, ?ty2⟩) rfl ?tr2
          case ty2 => (intro w; go_simp; try with_reducible rfl)
          simp only [List.setIfInBounds_toArray, List.set_cons_zero, List.set_cons_succ]
          refine wpAnyH_take' (i := 3) (d := 32) (v := .slice (some ⟨lb, 0, none⟩) m.ns.length m.ns.length) rfl rfl (by kernel_rfl) (by kernel_rfl) (by kernel_rfl) (fun _ _ _ h => h) (Or.inl ⟨by rfl, ?ty3⟩) rfl ?tr3
          case ty3 => (intro W hSW; obtain rfl := hSW; have hq0 := d35; go_simp; try with_reducible rfl)
          simp only [List.setIfInBounds_toArray, List.set_cons_zero, List.set_cons_succ]
          refine anyH_take (i := 4) (d := 33) (v := ?t4) rfl rfl (by kernel_rfl) (by kernel_rfl) (by kernel_rfl) (fun _ _ _ h => h) (Or.inl ⟨by rfl, ?ty4⟩) rfl ?tr4
          case ty4 => (intro w; go_simp; try with_reducible rfl)
          simp only [List.setIfInBounds_toArray, List.set_cons_zero, List.set_cons_succ]
          refine anyH_take (i := 5) (d := 34) (v := ?t5) rfl rfl (by kernel_rfl) (by kernel_rfl) (by kernel_rfl) (fun _ _ _ h => h) (Or.inl ⟨by rfl, ?ty5⟩) rfl ?tr5
          case ty5 => (intro w; go_simp; try with_reducible rfl)
          simp only [List.setIfInBounds_toArray, List.set_cons_zero, List.set_cons_succ]
          refine wpAnyH_take' (i := 6) (d := 35) (v := .slice (some ⟨b, o, none⟩) q c) rfl rfl (by kernel_rfl) (by kernel_rfl) (by kernel_rfl) (fun _ _ _ h => h) (Or.inl ⟨by rfl, ?ty6⟩) rfl ?tr6
          case ty6 => (intro W hSW; obtain rfl := hSW; have hq0 := dj; go_simp; try with_reducible rfl)
          simp only [List.setIfInBounds_toArray, List.set_cons_zero, List.set_cons_succ]
          refine anyH_take (i := 7) (d := 36) (v := ?t7) rfl rfl (by kernel_rfl) (by kernel_rfl) (by kernel_rfl) (fun _ _ _ h => h) (Or.inl ⟨by rfl, ?ty7⟩) rfl ?tr7
          case ty7 => (intro w; go_simp; try with_reducible rfl)
          simp only [List.setIfInBounds_toArray, List.set_cons_zero, List.set_cons_succ]
          refine anyH_take (i := 8) (d := 37) (v := ?t8) rfl rfl (by kernel_rfl) (by kernel_rfl) (by kernel_rfl) (fun _ _ _ h => h) (Or.inl ⟨by rfl, ?ty8⟩) rfl ?tr8
          case ty8 => (intro w; have hq0 := ix w; go_simp; try with_reducible rfl)
          simp only [List.setIfInBounds_toArray, List.set_cons_zero, List.set_cons_succ]
          refine anyH_load (i := 9) (d := 38) rfl rfl (by kernel_rfl) (by kernel_rfl) (by kernel_rfl) (by rfl) 28 _ rfl b (o + i * 33) rfl Y _ (fun W hSW => by obtain rfl := hSW; exact HL.out.1) Try.underlying28 rfl HL.out.2.1 (fun _ _ _ h => h) rfl ?_
          simp only [List.setIfInBounds_toArray, List.set_cons_zero, List.set_cons_succ]
          refine anyH_load (i := 10) (d := 39) rfl rfl (by kernel_rfl) (by kernel_rfl) (by kernel_rfl) (by rfl) 28 _ rfl w.heap.size 0 rfl X _ (fun W hSW => by obtain rfl := hSW; exact HL.out.2.2.1) Try.underlying28 rfl HL.out.2.2.2.1 (fun _ _ _ h => h) rfl ?_
          simp only [List.setIfInBounds_toArray, List.set_cons_zero, List.set_cons_succ]
          refine anyH_take (i := 11) (d := 40) (v := ?t11) rfl rfl (by kernel_rfl) (by kernel_rfl) (by kernel_rfl) (fun _ _ _ h => h) (Or.inl ⟨by rfl, ?ty11⟩) rfl ?tr11
          case ty11 => (intro w; have hq0 := heq w; go_simp; try with_reducible rfl)
          simp only [List.setIfInBounds_toArray, List.set_cons_zero, List.set_cons_succ]
          refine wpAnyH_done (by kernel_rfl) ?_ _
          cases B with
          | true =>
            have hw1 : IntKind.i64.wrap ((C0 : Int) + (Ci : Int) + 1) = (C0 : Int) + (Ci : Int) + 1 := IntWalk.i64_in _ (by have := HR.out.2.2.2.2.2.1; have := HL.out.2.2.2.2.2; omega)
            have hw2 : IntKind.i64.wrap ((i : Int) + 1) = (i : Int) + 1 := IntWalk.i64_in _ (by omega)
            go_wp2
            go_roundw
            case rel => exact ⟨i + 1, by omega, by first | rfl | (push_cast; rfl), by rw [HL.out.2.2.2.2.1, if_pos rfl]; first | (congr 1; done) | (congr 1; push_cast; omega), HV.out.2⟩
            case measure => simp [intOf]; omega
          | false =>
            have hw2 : IntKind.i64.wrap ((i : Int) + 1) = (i : Int) + 1 := IntWalk.i64_in _ (by omega)
            go_wp2
            go_roundw
            case rel => exact ⟨i + 1, by omega, by first | rfl | (push_cast; rfl), by rw [HL.out.2.2.2.2.1, if_neg (by simp)]; rfl, HV.out.2⟩
            case measure => simp [intOf]; omega
        · have hiq' : ¬ (i : Int) < (q : Int) := by omega
          obtain rfl : i = q := by omega
          have hall : l.take i = l := List.take_of_length_le (by rw [HR.out.2.2.2.1]; omega)
          rw [hall]
          have HB := Lib.hid hbel
          have hw2 : IntKind.i64.wrap ((k : Int) + 1) = (k : Int) + 1 := IntWalk.i64_in _ (by omega)
          clear hbel hR hall
          go_wp2
          go_roundw
          case rel => exact ⟨k + 1, by omega, by first | rfl | (push_cast; rfl), by rw [HR.out.2.2.2.2.1], HB.out⟩
          case measure => simp [intOf]; omega
    · have hlt' : ¬ (k : Int) < (m.ns.length : Int) := by omega
      obtain rfl : k = m.ns.length := by omega
      rw [List.take_length, hcnt.out]
      clear hR
      go_wp2
      go_ret
      exact ⟨rfl, H.out.2.1.trans (Hb.out.mono H.out.2.1.size)⟩
end
end Go.Proofs.Ytenccpccpjjkmaa

namespace Go.Proofs.Ytenccpccpjjkmaa
open Go.RowKit Go.Shelf Go.Sort Go.Maps CrewP Go.Lib
set_option linter.unusedVariables false
set_option linter.unusedSimpArgs false

theorem cmpB_first : ∀ {l m : List UInt8} {i : Nat} (hl : i < l.length) (hm : i < m.length), l.take i = m.take i → l[i] ≠ m[i] → decide (compareBytes l m < 0) = decide (l[i] < m[i])
  | a :: l, b :: m, 0, _, _, _, hne => by
    have hne' : a ≠ b := hne
    show decide (compareBytes (a :: l) (b :: m) < 0) = decide (a < b)
    unfold compareBytes
    by_cases h1 : a < b
    · rw [if_pos h1]; simp [h1]
    · rw [if_neg h1]
      have h2 : b < a := by
        rcases Nat.lt_trichotomy a.toNat b.toNat with h | h | h
        · exact absurd (UInt8.lt_iff_toNat_lt.2 h) h1
        · exact absurd (UInt8.toNat_inj.1 h) hne'
        · exact UInt8.lt_iff_toNat_lt.2 h
      rw [if_pos h2]
      simp [h1]
  | a :: l, b :: m, i + 1, hl, hm, ht, hne => by
    rw [List.take_succ_cons, List.take_succ_cons] at ht
    injection ht with h1 h2
    subst h1
    have ih := cmpB_first (l := l) (m := m) (i := i) (by simpa using hl) (by simpa using hm) h2 (by simpa using hne)
    unfold compareBytes
    rw [if_neg (by simp), if_neg (by simp)]
    simpa using ih
set_option maxRecDepth 100000 in
set_option maxHeartbeats 1600000 in
theorem less_any (a b : List UInt8) (ha : a.length = 32) (hb : b.length = 32) (w : World) :
    Calls Try.prog 68 #[.agg (cbs a).toArray, .agg (cbs b).toArray] w fun e w' => e = .returned (.bool (decide (compareBytes a b < 0))) ∧ Below w.heap.size w w' := by
  have hA : Blk ((w.alloc (.cells (cbs a).toArray 26)).alloc (.cells (cbs b).toArray 26)) w.heap.size 26 (cbs a) := Blk.old (Blk.new rfl rfl) _
  have hB : Blk ((w.alloc (.cells (cbs a).toArray 26)).alloc (.cells (cbs b).toArray 26)) (w.heap.size + 1) 26 (cbs b) := Blk.new rfl (by simp)
  have hbel : Below w.heap.size w ((w.alloc (.cells (cbs a).toArray 26)).alloc (.cells (cbs b).toArray 26)) := ((Below.refl _ _).alloc (Nat.le_refl _) _).alloc (by simp) _
  have H := Lib.hid (And.intro hA (And.intro hB hbel))
  clear hA hB hbel
  obtain ⟨D, hD⟩ : ∃ D, decide (compareBytes a b < 0) = D := ⟨_, rfl⟩
  rw [hD]
  have HD := Lib.hid hD
  have Hl := Lib.hid (And.intro ha hb)
  clear hD
  generalize hX : (cbs a).toArray = X at *
  generalize hY : (cbs b).toArray = Y at *
  clear hX hY
  go_enter Try.func68, Try.ntmps68
  go_wp2
  obtain ⟨W0, hW0⟩ : ∃ W, (w.alloc (.cells X 26)).alloc (.cells Y 26) = W := ⟨_, rfl⟩
  rw [hW0] at H
  have HW := Lib.hid hW0
  clear hW0
  go_loopw [5] (fun v5 wr => ∃ i : Nat, i ≤ 32 ∧ v5 = .int .i64 (i : Int) ∧ a.take i = b.take i ∧ Below W0.heap.size W0 wr) (fun v _ => 40 - (intOf v).toNat)
  case atStart => exact ⟨0, by omega, rfl, by simp, by rw [HW.out]; exact Below.refl _ _⟩
  case round =>
    obtain ⟨i, hi, rfl, ht, Bn⟩ := hrel
    have hi0 : (0 : Int) ≤ i := by omega
    by_cases hlt : i < 32
    · have hi1 : (i : Int) < 32 := by omega
      have hla : i < a.length := by omega
      have hlb : i < b.length := by omega
      have c1 := (H.out.1.below Bn H.out.1.lt).cell (i := i) (v := .int .u8 (a[i].toNat : Int)) (by simp [cbs, cb, hla])
      have c2 := (H.out.2.1.below Bn H.out.2.1.lt).cell (i := i) (v := .int .u8 (b[i].toNat : Int)) (by simp [cbs, cb, hlb])
      have hnext : Hid (a[i] = b[i] → a.take (i + 1) = b.take (i + 1)) := Lib.hid fun e => by rw [List.take_succ_eq_append_getElem hla, List.take_succ_eq_append_getElem hlb, ht, e]
      have hstop : Hid (a[i] ≠ b[i] → D = decide (a[i].toNat < b[i].toNat)) := Lib.hid fun e => by
        rw [← HD.out, cmpB_first hla hlb ht e]
        apply decide_eq_decide.2
        exact UInt8.lt_iff_toNat_lt
      have Hb := Lib.hid Bn
      clear ht Bn
      generalize a[i] = x at *
      generalize b[i] = y at *
      by_cases hxy : x = y
      · have hn : ((x.toNat : Int) != (y.toNat : Int)) = false := by rw [hxy]; simp
        go_wp2
        go_quiet (fail)
        have hwi : IntKind.i64.wrap ((i : Int) + 1) = (i : Int) + 1 := IntWalk.i64_in _ (by omega)
        go_wp2
        go_roundw
        case rel => exact ⟨i + 1, by omega, by first | rfl | (push_cast; rfl), hnext.out hxy, below_drewN Hb.out nq⟩
        case measure => simp [intOf]; omega
      · have hn : ((x.toNat : Int) != (y.toNat : Int)) = true := by
          simp only [bne_iff_ne]; intro e; exact hxy (UInt8.toNat_inj.1 (by omega))
        obtain rfl := hstop.out hxy
        go_wp2
        go_quiet (fail)
        rename_i nq1
        go_wp2
        go_quiet (fail)
        go_wp2
        go_ret
        exact ⟨rfl, H.out.2.2.trans ((below_drewN (below_drewN Hb.out _) _).mono H.out.2.2.size)⟩
    · have hi1 : ¬ (i : Int) < 32 := by omega
      obtain rfl : i = 32 := by omega
      rw [List.take_of_length_le (by omega), List.take_of_length_le (by omega)] at ht
      have hDf : D = false := by rw [← HD.out, ht, cmpB_self]; rfl
      subst hDf
      have Hb := Lib.hid (H.out.2.2.trans (Bn.mono H.out.2.2.size))
      clear ht Bn
      go_wp2
      go_ret
      exact ⟨rfl, Hb.out⟩
end Go.Proofs.Ytenccpccpjjkmaa

namespace Go.Proofs.Ytenccpccpjjkmaa
open Go.RowKit Go.Shelf Go.Sort Go.Maps CrewP Go.Lib
set_option linter.unusedVariables false
set_option linter.unusedSimpArgs false

theorem best_snoc (l : List Mk) (x : Mk) : best (l ++ [x]) = match best l with | none => some x | some y => if ltM x y then some x else some y := by
  rw [best_ext (l := l ++ [x]) (m := x :: l) (fun y => by simp [or_comm])]
  rfl
/-- The best of those that so many tell. -/
def gsO (m : Ms) (many : Int) (l : List Mk) : Option Mk := best (l.filter fun y => decide (many ≤ (cnt m y : Int)))
theorem gsO_few {m : Ms} {many : Int} {l : List Mk} {x : Mk} (h : (cnt m x : Int) < many) : gsO m many (l ++ [x]) = gsO m many l := by
  unfold gsO
  rw [List.filter_append, List.filter_cons_of_neg (by simp; omega)]
  simp
theorem gsO_new {m : Ms} {many : Int} {l : List Mk} {x : Mk} (h : ¬ (cnt m x : Int) < many) (hg : gsO m many l = none) : gsO m many (l ++ [x]) = some x := by
  unfold gsO at *
  rw [List.filter_append, List.filter_cons_of_pos (by simp; omega), List.filter_nil, best_snoc, hg]
theorem gsO_rep {m : Ms} {many : Int} {l : List Mk} {x b : Mk} (h : ¬ (cnt m x : Int) < many) (hg : gsO m many l = some b) (hl : ltM x b) : gsO m many (l ++ [x]) = some x := by
  unfold gsO at *
  rw [List.filter_append, List.filter_cons_of_pos (by simp; omega), List.filter_nil, best_snoc, hg]
  exact if_pos hl
theorem gsO_old {m : Ms} {many : Int} {l : List Mk} {x b : Mk} (h : ¬ (cnt m x : Int) < many) (hg : gsO m many l = some b) (hl : ¬ ltM x b) : gsO m many (l ++ [x]) = some b := by
  unfold gsO at *
  rw [List.filter_append, List.filter_cons_of_pos (by simp; omega), List.filter_nil, best_snoc, hg]
  exact if_neg hl
section
variable {w w' : World} {U : Nat → Prop} {r : Nat} {m : Ms} {lb ab cap : Nat} {cs : List Value}
/-- Two blocks of marks that this call made. -/
structure GvI (w wr : World) (m : Ms) (many : Int) (l : List Mk) (G : Option Mk) : Prop where
  bel : Below w.heap.size w wr
  res : Blk wr w.heap.size 28 (mkC mk0)
  bst : Blk wr (w.heap.size + 1) 28 (mkC (G.getD mk0))
  eq : gsO m many l = G
theorem GvI.below {w wr w' : World} {many : Int} {l : List Mk} {G : Option Mk} (h : GvI w wr m many l G) (hb : Below wr.heap.size wr w') : GvI w w' m many l G :=
  ⟨h.bel.trans (hb.mono h.bel.size), h.res.below hb h.res.lt, h.bst.below hb h.bst.lt, h.eq⟩
theorem GvI.to {w wr : World} {many : Int} {l l' : List Mk} {G : Option Mk} (h : GvI w wr m many l G) (e : gsO m many l' = G) : GvI w wr m many l' G := ⟨h.bel, h.res, h.bst, e⟩
/-- A better one is kept. -/
theorem GvI.put {w wr : World} {many : Int} {l l' : List Mk} {G G' : Option Mk} (h : GvI w wr m many l G) (x : Mk) (hx : G'.getD mk0 = x) (e : gsO m many l' = G') {X : List Value} (hX : mkC x = X) : ∃ w', wr.setCells (w.heap.size + 1) 0 X = w' ∧
    (wr.there (w.heap.size + 1) 0 X.toArray.size ∧ (Try.prog.info? 28).map (·.size) = some X.toArray.size ∧ X.toArray.all (·.oneCell') = true) ∧ GvI w w' m many l' G' := by
  subst hX hx
  have O1 : Out (fun b => b = w.heap.size + 1) wr (wr.setCells (w.heap.size + 1) 0 (mkC (G'.getD mk0))) := Out.setCells (S := fun b => b = w.heap.size + 1) (g := w.heap.size + 1) (o := 0) (mkC (G'.getD mk0)) (fun _ => rfl) (Out.refl _ _)
  have e1 : (mkC (G'.getD mk0)).toArray.size = 33 := by rw [List.size_toArray, mkC_len]
  have ht := h.bst.there
  rw [mkC_len] at ht
  exact ⟨_, rfl, ⟨by rw [e1]; exact ht, mark_infoA _, mkC_oneA _⟩, Below.setCells (by omega) _ h.bel, O1.blk h.res (by omega), h.bst.setAll (by rw [mkC_len, mkC_len]), e⟩
theorem mark_row_d {w : World} {b : Nat} {x : Mk} (h : Blk w b 28 (mkC x)) : w.rangeAt b 1 (cbs x.d) :=
  h.rangeFrom (o := 1) (n := 32) (by
    show List.take 32 (cbs x.d) = cbs x.d
    rw [List.take_of_length_le (by rw [cbs_length, x.hd]; omega)])
set_option maxRecDepth 100000 in
set_option maxHeartbeats 12800000 in
theorem rgreat_in (h : RfIn w U r m lb ab cap cs) (many : Int) :
    Calls Try.prog 55 #[.pointer (some ⟨r, 0, none⟩), .int .i64 many] w fun e w' => e = .returned (.tuple #[.agg (mkC ((greatS m many).getD mk0)).toArray, .bool (greatS m many).isSome]) ∧ Below w.heap.size w w' := by
  have hal : Below w.heap.size w ((w.alloc (.cells (mkC mk0).toArray 28)).alloc (.cells (mkC mk0).toArray 28)) := ((Below.refl _ _).alloc (Nat.le_refl _) _).alloc (by simp) _
  have hB4 : Blk ((w.alloc (.cells (mkC mk0).toArray 28)).alloc (.cells (mkC mk0).toArray 28)) w.heap.size 28 (mkC mk0) := Blk.old (Blk.new rfl rfl) _
  have hB6 : Blk ((w.alloc (.cells (mkC mk0).toArray 28)).alloc (.cells (mkC mk0).toArray 28)) (w.heap.size + 1) 28 (mkC mk0) := Blk.new rfl (by simp)
  have hg0 : GvI w ((w.alloc (.cells (mkC mk0).toArray 28)).alloc (.cells (mkC mk0).toArray 28)) m many [] none := ⟨hal, hB4, hB6, rfl⟩
  obtain ⟨W0, hW0, hp0, hg1⟩ := hg0.put (G' := none) (l' := []) mk0 rfl rfl rfl
  have H0 := Lib.hid (And.intro hW0 (And.intro hp0 hg1))
  have hfew := h.few
  have HR0 := Lib.hid h
  obtain ⟨GG, hGG⟩ : ∃ G, greatS m many = G := ⟨_, rfl⟩
  rw [hGG]
  obtain ⟨yF, hyF⟩ : ∃ y, GG.getD mk0 = y := ⟨_, rfl⟩
  obtain ⟨sF, hsF⟩ : ∃ s, GG.isSome = s := ⟨_, rfl⟩
  obtain ⟨YF, hYF⟩ : ∃ Y, mkC yF = Y := ⟨_, rfl⟩
  rw [hyF, hsF, hYF]
  have HGG := Lib.hid (And.intro (show gsO m many (m.ns.flatMap m.told) = GG from hGG) (And.intro hyF (And.intro hsF hYF)))
  clear hGG hyF hsF hYF
  have hb0 := Lib.hid built_mark0
  clear hal hB4 hB6 hg0 hW0 hp0 hg1 h
  generalize hZ : mkC mk0 = Z at *
  have HZ := Lib.hid hZ
  go_enter Try.func55, Try.ntmps55
  subst hZ
  go_wp2_with (first
    | (refine wpList_build_g (by rfl) 28 _ rfl (mkC mk0).toArray hb0.out ?_; simp only [Act.put])
    | (refine wpList_store_mid rfl 28 _ _ rfl (w.heap.size + 1) 0 (mkC mk0).toArray rfl rfl H0.out.2.1.1 H0.out.2.1.2.1 H0.out.2.1.2.2 ?_; simp only [Act.put]; refine cast (congrArg (fun z => wpList _ _ _ _ _ z) H0.out.1.symm) ?_))
  go_loopw [7, 8] (fun v7 v8 wr => ∃ (k : Nat) (G : Option Mk), k ≤ m.ns.length ∧ v8 = .int .i64 (k : Int) ∧ v7 = .bool G.isSome ∧ GvI w wr m many ((m.ns.take k).flatMap m.told) G) (fun _ v _ => 10 - (intOf v).toNat)
  case atStart => exact ⟨0, none, Nat.zero_le _, rfl, rfl, H0.out.2.2⟩
  case round =>
    obtain ⟨k, G, hk, rfl, rfl, hg⟩ := hrel
    have hR := HR0.out.below (hg.bel.mono (Nat.le_refl _))
    have c35 := hR.blk.cell (msU_35 _ _ _ _)
    have hwk : IntKind.i64.wrap ((k : Int) + 1) = (k : Int) + 1 := IntWalk.i64_in _ (by omega)
    have HG0 := Lib.hid hg
    clear hg
    obtain ⟨s0, hs0⟩ : ∃ s, G.isSome = s := ⟨_, rfl⟩
    rw [hs0]
    have HS0 := Lib.hid hs0
    clear hs0
    by_cases hlt : k < m.ns.length
    · have hlt' : (k : Int) < (m.ns.length : Int) := by omega
      obtain ⟨A, q, c, e1, e2, e3, e4, _⟩ := hR.row k hlt
      have hq4 := HR0.out.ok.len m.ns[k]
      have hfl := flat_succ (told := m.told) hlt
      obtain ⟨l, hl⟩ : ∃ l, m.told m.ns[k] = l := ⟨_, rfl⟩
      rw [hl] at e2 e3 hq4 hfl
      have HK := Lib.hid (And.intro e1 (And.intro e3 (And.intro hl hfl)))
      clear hR e1 e2 e4 hl hfl
      go_wp2
      go_loopw [7, 9] (fun v7 v9 wr => ∃ (i : Nat) (G : Option Mk), i ≤ q ∧ v9 = .int .i64 (i : Int) ∧ v7 = .bool G.isSome ∧ GvI w wr m many ((m.ns.take k).flatMap m.told ++ l.take i) G) (fun _ v _ => 10 - (intOf v).toNat)
      case atStart => exact ⟨0, G, Nat.zero_le _, rfl, by rw [HS0.out], HG0.out.to (by rw [List.take_zero, List.append_nil]; exact HG0.out.eq)⟩
      case round =>
        rename World => wk
        obtain ⟨i, G2, hi, rfl, rfl, hg⟩ := hrel
        have HG := Lib.hid hg
        clear hg HG0 HS0
        obtain ⟨s, hs⟩ : ∃ s, G2.isSome = s := ⟨_, rfl⟩
        rw [hs]
        have HS := Lib.hid hs
        clear hs
        have hR := HR0.out.below HG.out.bel
        have c35 := hR.blk.cell (msU_35 _ _ _ _)
        have cj := hR.rows.cell HK.out.1
        by_cases hiq : i < q
        · have hiq' : (i : Int) < (q : Int) := by omega
          have hil : i < l.length := by have := HK.out.2.1; omega
          have hwi : IntKind.i64.wrap ((i : Int) + 1) = (i : Int) + 1 := IntWalk.i64_in _ (by omega)
          have hrow : ShM wk A l := by rw [← HK.out.2.2.1]; exact hR.row_of hlt HK.out.1
          obtain ⟨b, o, hA, hrg⟩ := hrow.at_ hil
          have hts0 : l.take (i + 1) = l.take i ++ [l[i]] := List.take_succ_eq_append_getElem hil
          have hts : Hid (l.take (i + 1) = l.take i ++ [l[i]]) := Lib.hid hts0
          clear hts0 hrow
          generalize l[i] = x at *
          subst hA
          have ix := fun w => hidx_at w b o q c i hiq
          obtain ⟨W1, hW1, ⟨hth, hin⟩, hB10, hbe, hsz⟩ := row_local wk 28 (mkC mk0) (mkC x) (by rw [mkC_len, mkC_len]) (by rw [mkC_len]; exact mark_info1)
          have hG1 := HG.out.below hbe
          have HT := Lib.hid (tell_in (HR0.out.below hG1.bel) x)
          obtain ⟨C, hC⟩ : ∃ C, (cnt m x : Int) = C := ⟨_, rfl⟩
          rw [hC] at HT
          have HC := Lib.hid hC
          clear hC
          have hI : Hid ((Try.prog.info? 28).map (·.size) = some (mkC x).length) := Lib.hid (mark_infoL x)
          have HB := Lib.hid (And.intro hG1 hB10)
          have HV := Lib.hid (And.intro hW1 (And.intro hth (And.intro hin (mkC_oneA x))))
          obtain ⟨X, hX⟩ : ∃ X, mkC x = X := ⟨_, rfl⟩
          have HXe := Lib.hid hX
          rw [hX] at HT hI HV hrg
          have HI := hI
          have HRg := Lib.hid hrg
          have hB10r := hB10.range
          rw [hX] at hB10r
          have HBr := Lib.hid hB10r
          clear hW1 hth hin hB10 hbe hsz hG1 hI hX hrg hR hB10r
          go_wp2_with (first
            | (refine load_mid_g rfl 28 _ rfl b (o + i * 33) rfl X _ HRg.out Try.underlying28 rfl HI.out ?_; simp only [Act.put])
            | (refine wpList_store_mid rfl 28 _ _ rfl wk.heap.size 0 X.toArray rfl rfl HV.out.2.1 HV.out.2.2.1 HV.out.2.2.2 ?_; simp only [Act.put]; refine cast (congrArg (fun z => wpList _ _ _ _ _ z) HV.out.1.symm) ?_)
            | (refine load_mid_g rfl 28 _ rfl wk.heap.size 0 rfl X _ HBr.out Try.underlying28 rfl HI.out ?_; simp only [Act.put]))
          refine HT.out.mono ?_
          rintro e W2 ⟨rfl, hb2⟩
          have hg2 := HB.out.1.below hb2
          have hB2 := HB.out.2.below hb2 HB.out.2.lt
          have hB2r := hB2.range
          rw [HXe.out] at hB2r
          have cx := hB2.cell (i := 0) (v := .int .i64 x.s) rfl
          have hdx := mark_row_d hB2
          have H2 := Lib.hid (And.intro hg2 (And.intro hB2 hdx))
          have H2r := Lib.hid hB2r
          have hts := hts.out
          have hts' := Lib.hid hts
          clear hg2 hB2 hdx hB2r hb2 HT HB HV HRg HBr ix cj c35
          by_cases hc : C < many
          · have hfew2 := Lib.hid (gsO_few (l := (m.ns.take k).flatMap m.told ++ l.take i) (by rw [HC.out]; exact hc))
            clear hts
            have hts := hts'.out
            have hg4 := H2.out.1.to (l' := (m.ns.take k).flatMap m.told ++ l.take (i + 1)) (by rw [hts, ← List.append_assoc]; exact hfew2.out.trans H2.out.1.eq)
            have HP := Lib.hid hg4
            clear hg4
            go_wp2
            go_roundw
            case rel => exact ⟨i + 1, G2, by omega, by first | rfl | (push_cast; rfl), by first | rfl | exact congrArg Value.bool HS.out.symm, HP.out⟩
            case measure => simp [intOf]; omega
          · have Hc := Lib.hid hc
            cases G2 with
            | none =>
              obtain rfl : s = false := by rw [← HS.out]; rfl
              have hnew := Lib.hid (gsO_new (by rw [HC.out]; have := Hc.out; omega) H2.out.1.eq)
              obtain ⟨W4, hW4, hp4, hg4⟩ := H2.out.1.put (G' := some x) (l' := (m.ns.take k).flatMap m.told ++ l.take (i + 1)) x rfl (by rw [hts, ← List.append_assoc]; exact hnew.out) HXe.out
              have HP := Lib.hid (And.intro hW4 (And.intro hp4 (And.intro hg4 H2r.out)))
              clear hW4 hp4 hg4
              go_upto_region 10 with fail
              go_upto_region 11 with fail
              go_wp2_with (first
                | (show wpList _ _ _ ({ dst := some 71, op := _, type := _, pos := _, after := _, guard := none } :: _) _ _; refine load_mid_g rfl 28 _ rfl wk.heap.size 0 rfl X _ HP.out.2.2.2 Try.underlying28 rfl HI.out ?_; simp only [Act.put])
                | (refine wpList_store_mid rfl 28 _ _ rfl (w.heap.size + 1) 0 X.toArray rfl rfl HP.out.2.1.1 HP.out.2.1.2.1 HP.out.2.1.2.2 ?_; simp only [Act.put]; refine cast (congrArg (fun z => wpList _ _ _ _ _ z) HP.out.1.symm) ?_))
              go_roundw
              case rel => exact ⟨i + 1, some x, by omega, by first | rfl | (push_cast; rfl), rfl, HP.out.2.2.1⟩
              case measure => simp [intOf]; omega
            | some y =>
              obtain rfl : s = true := by rw [← HS.out]; rfl
              have cy := H2.out.1.bst.cell (i := 0) (v := .int .i64 y.s) rfl
              by_cases h1 : y.s < x.s
              · have h1' : x.s > y.s := h1
                have hnew := Lib.hid (gsO_rep (by rw [HC.out]; have := Hc.out; omega) H2.out.1.eq (.inl h1))
                obtain ⟨W4, hW4, hp4, hg4⟩ := H2.out.1.put (G' := some x) (l' := (m.ns.take k).flatMap m.told ++ l.take (i + 1)) x rfl (by rw [hts, ← List.append_assoc]; exact hnew.out) HXe.out
                have HP := Lib.hid (And.intro hW4 (And.intro hp4 (And.intro hg4 H2r.out)))
                clear hW4 hp4 hg4
                go_upto_region 10 with fail
                go_upto_region 11 with fail
                go_wp2_with (first
                  | (show wpList _ _ _ ({ dst := some 71, op := _, type := _, pos := _, after := _, guard := none } :: _) _ _; refine load_mid_g rfl 28 _ rfl wk.heap.size 0 rfl X _ HP.out.2.2.2 Try.underlying28 rfl HI.out ?_; simp only [Act.put])
                  | (refine wpList_store_mid rfl 28 _ _ rfl (w.heap.size + 1) 0 X.toArray rfl rfl HP.out.2.1.1 HP.out.2.1.2.1 HP.out.2.1.2.2 ?_; simp only [Act.put]; refine cast (congrArg (fun z => wpList _ _ _ _ _ z) HP.out.1.symm) ?_))
                go_roundw
                case rel => exact ⟨i + 1, some x, by omega, by first | rfl | (push_cast; rfl), rfl, HP.out.2.2.1⟩
                case measure => simp [intOf]; omega
              · have h1' : ¬ x.s > y.s := h1
                by_cases h2 : x.s = y.s
                · have h2' : (x.s == y.s) = true := by simp [h2]
                  have hdy := mark_row_d (x := y) H2.out.1.bst
                  have HL := Lib.hid (less_any x.d y.d x.hd y.hd W2)
                  have hlx : (Try.prog.info? 26).map (·.size) = some (cbs x.d).length := by rw [cbs_length, x.hd]; exact dig_info
                  have hly : (Try.prog.info? 26).map (·.size) = some (cbs y.d).length := by rw [cbs_length, y.hd]; exact dig_info
                  obtain ⟨D, hD⟩ : ∃ D, decide (compareBytes x.d y.d < 0) = D := ⟨_, rfl⟩
                  have HDd := Lib.hid hD
                  rw [hD] at HL
                  have HQ := Lib.hid (And.intro H2.out.2.2 (And.intro hlx (And.intro hdy hly)))
                  clear hdy hlx hly hD
                  generalize cbs x.d = DX at *
                  generalize cbs y.d = DY at *
                  have h2n : ¬ x.s > y.s := h1
                  go_upto_region 10 with fail
                  go_wp2_with (first
                    | (refine load_mid_g rfl 26 _ rfl wk.heap.size 1 rfl DX _ HQ.out.1 Try.underlying26 rfl HQ.out.2.1 ?_; simp only [Act.put])
                    | (refine load_mid_g rfl 26 _ rfl (w.heap.size + 1) 1 rfl DY _ HQ.out.2.2.1 Try.underlying26 rfl HQ.out.2.2.2 ?_; simp only [Act.put]))
                  refine HL.out.mono ?_
                  rintro e W3 ⟨rfl, hb3⟩
                  have hg3 := H2.out.1.below hb3
                  have hB3 := (H2.out.2.1.below hb3 H2.out.2.1.lt).range
                  rw [HXe.out] at hB3
                  have H3 := Lib.hid (And.intro hg3 hB3)
                  clear hg3 hB3 hb3 cx cy
                  cases D with
                  | true =>
                    have hnew := Lib.hid (gsO_rep (by rw [HC.out]; have := Hc.out; omega) H2.out.1.eq (.inr ⟨h2, of_decide_eq_true HDd.out⟩))
                    obtain ⟨W4, hW4, hp4, hg4⟩ := H3.out.1.put (G' := some x) (l' := (m.ns.take k).flatMap m.told ++ l.take (i + 1)) x rfl (by rw [hts, ← List.append_assoc]; exact hnew.out) HXe.out
                    have HP := Lib.hid (And.intro hW4 (And.intro hp4 (And.intro hg4 H3.out.2)))
                    clear hW4 hp4 hg4
                    go_upto_region 11 with fail
                    go_wp2_with (first
                      | (show wpList _ _ _ ({ dst := some 71, op := _, type := _, pos := _, after := _, guard := none } :: _) _ _; refine load_mid_g rfl 28 _ rfl wk.heap.size 0 rfl X _ HP.out.2.2.2 Try.underlying28 rfl HI.out ?_; simp only [Act.put])
                      | (refine wpList_store_mid rfl 28 _ _ rfl (w.heap.size + 1) 0 X.toArray rfl rfl HP.out.2.1.1 HP.out.2.1.2.1 HP.out.2.1.2.2 ?_; simp only [Act.put]; refine cast (congrArg (fun z => wpList _ _ _ _ _ z) HP.out.1.symm) ?_))
                    go_roundw
                    case rel => exact ⟨i + 1, some x, by omega, by first | rfl | (push_cast; rfl), rfl, HP.out.2.2.1⟩
                    case measure => simp [intOf]; omega
                  | false =>
                    have hnew := Lib.hid (gsO_old (by rw [HC.out]; have := Hc.out; omega) H2.out.1.eq (x := x) (b := y) (fun e => by rcases e with e | e; omega; exact of_decide_eq_false HDd.out e.2))
                    have hg4 := H3.out.1.to (l' := (m.ns.take k).flatMap m.told ++ l.take (i + 1)) (by rw [hts, ← List.append_assoc]; exact hnew.out)
                    have HP := Lib.hid hg4
                    clear hg4
                    go_wp2
                    go_roundw
                    case rel => exact ⟨i + 1, some y, by omega, by first | rfl | (push_cast; rfl), by first | rfl | exact congrArg Value.bool HS.out.symm, HP.out⟩
                    case measure => simp [intOf]; omega
                · have h2' : (x.s == y.s) = false := by simp [h2]
                  have hnew := Lib.hid (gsO_old (by rw [HC.out]; have := Hc.out; omega) H2.out.1.eq (x := x) (b := y) (fun e => by rcases e with e | e; exact h1 e; exact h2 e.1))
                  have hg4 := H2.out.1.to (l' := (m.ns.take k).flatMap m.told ++ l.take (i + 1)) (by rw [hts, ← List.append_assoc]; exact hnew.out)
                  have HP := Lib.hid hg4
                  clear hg4
                  go_wp2
                  go_roundw
                  case rel => exact ⟨i + 1, some y, by omega, by first | rfl | (push_cast; rfl), by first | rfl | exact congrArg Value.bool HS.out.symm, HP.out⟩
                  case measure => simp [intOf]; omega
        · have hiq' : ¬ (i : Int) < (q : Int) := by omega
          obtain rfl : i = q := by omega
          have hg4 := HG.out.to (l' := (m.ns.take (k + 1)).flatMap m.told) (by rw [HK.out.2.2.2]; have := HG.out.eq; rw [List.take_of_length_le (l := l) (by have := HK.out.2.1; omega)] at this; exact this)
          have HP := Lib.hid hg4
          clear hg4 hR
          go_wp2
          go_roundw
          case rel => exact ⟨k + 1, G2, by omega, by first | rfl | (push_cast; rfl), by rw [HS.out], HP.out⟩
          case measure => simp [intOf]; omega
    · have hlt' : ¬ (k : Int) < (m.ns.length : Int) := by omega
      obtain rfl : k = m.ns.length := by omega
      have hge := HG0.out.eq
      rw [List.take_length] at hge
      have hGe : G = GG := hge.symm.trans HGG.out.1
      subst hGe
      obtain rfl : s0 = sF := HS0.out.symm.trans HGG.out.2.2.1
      have h6 := HG0.out.bst.range
      have hy := HGG.out.2.1
      rw [hy] at h6
      have hY := HGG.out.2.2.2
      have O1 : Out (fun b => b = w.heap.size) wr (wr.setCells w.heap.size 0 (mkC yF)) := Out.setCells (S := fun b => b = w.heap.size) (g := w.heap.size) (o := 0) (mkC yF) (fun _ => rfl) (Out.refl _ _)
      have B4 := HG0.out.res.setAll (vs := mkC yF) (by rw [mkC_len, mkC_len])
      have hbl : Below w.heap.size w (wr.setCells w.heap.size 0 (mkC yF)) := Below.setCells (Nat.le_refl _) _ HG0.out.bel
      have ht4 := HG0.out.res.there
      rw [mkC_len] at ht4
      have e1 : (mkC yF).toArray.size = 33 := by rw [List.size_toArray, mkC_len]
      rw [← e1] at ht4
      obtain ⟨W5, hW5⟩ : ∃ W, wr.setCells w.heap.size 0 (mkC yF) = W := ⟨_, rfl⟩
      rw [hW5] at B4 hbl
      have HF := Lib.hid (And.intro h6 (And.intro (mark_infoL yF) (And.intro ht4 (And.intro (mark_infoA yF) (And.intro (mkC_oneA yF) (And.intro hW5 (And.intro B4 hbl)))))))
      clear h6 O1 B4 hbl ht4 e1 hW5 hge hR
      rw [hY] at HF
      clear hY hy
      go_wp2_with (first
        | (refine load_mid_g rfl 28 _ rfl (w.heap.size + 1) 0 rfl YF _ HF.out.1 Try.underlying28 rfl HF.out.2.1 ?_; simp only [Act.put])
        | (refine wpList_store_mid rfl 28 _ _ rfl w.heap.size 0 YF.toArray rfl rfl HF.out.2.2.1 HF.out.2.2.2.1 HF.out.2.2.2.2.1 ?_; simp only [Act.put]; refine cast (congrArg (fun z => wpList _ _ _ _ _ z) HF.out.2.2.2.2.2.1.symm) ?_))
      refine bodyPost_ret (results_row_tmp rfl _ _ w.heap.size 28 YF.toArray (.bool s0) _ rfl rfl HF.out.2.2.2.2.2.2.1 Try.underlying28 rfl HF.out.2.2.2.1) rfl ?_
      exact ⟨rfl, HF.out.2.2.2.2.2.2.2⟩
end
end Go.Proofs.Ytenccpccpjjkmaa
