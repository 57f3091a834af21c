/-
  Rows that a structure has alone, whatever stands behind their room; envelopes in memory.
-/
import Derived.Test.YtlecihbclkohjaaApp8
import Derived.Test.YtlecihbclkohjaaReg8
import Derived.Test.YtlecihbclkohjaaClone
namespace Go.Proofs.Ytlecihbclkohjaa
open Go.RowKit Go.Maps
set_option linter.unusedVariables false
set_option linter.unusedSimpArgs false

/-- The slice 'A' of n things, of k cells each, with room for 'cap', begins a block; its cells are 'cs'. -/
def RowK (w : World) (t : TypeId) (k : Nat) (A : Option Addr) (n cap : Nat) (cs : List Value) : Prop :=
  cs.length = n * k ∧ n ≤ cap ∧ cap ≤ maxLen ∧ ((A = none ∧ cap = 0) ∨ ∃ r cur, A = some ⟨r, 0, none⟩ ∧ Blk w r t cur ∧ cap * k ≤ cur.length ∧ cur.take (n * k) = cs)
def blkOf (A : Option Addr) (i : Nat) : Prop := ∃ a : Addr, A = some a ∧ a.block = i
section
variable {P : Program} {w w' : World} {t e : TypeId} {k size n cap m : Nat} {A : Option Addr} {xs cs : List Value}
theorem RowK.nil (w : World) (t : TypeId) (k : Nat) : RowK w t k none 0 0 [] := ⟨by simp, Nat.le_refl _, by simp [maxLen], .inl ⟨rfl, rfl⟩⟩
theorem RowK.out {S : Nat → Prop} (h : RowK w t k A n cap cs) (ho : Out S w w') (hS : ∀ i, blkOf A i → ¬ S i) : RowK w' t k A n cap cs := by
  obtain ⟨h1, h2, h3, h4 | ⟨r, cur, rfl, h5, h6⟩⟩ := h
  · exact ⟨h1, h2, h3, .inl h4⟩
  · exact ⟨h1, h2, h3, .inr ⟨r, cur, rfl, ho.blk h5 (hS r ⟨_, rfl, rfl⟩), h6⟩⟩
theorem RowK.lt (h : RowK w t k A n cap cs) : ∀ i, blkOf A i → i < w.heap.size := by
  rintro i ⟨a, rfl, rfl⟩
  obtain ⟨h1, h2, h3, ⟨h4, _⟩ | ⟨r, cur, h4, h5, h6⟩⟩ := h
  · cases h4
  · injection h4 with h4
    subst h4
    exact h5.lt
theorem RowK.below {B : Nat} (h : RowK w t k A n cap cs) (hb : Below B w w') (hB : ∀ i, blkOf A i → i < B) : RowK w' t k A n cap cs := by
  obtain ⟨h1, h2, h3, h4 | ⟨r, cur, rfl, h5, h6⟩⟩ := h
  · exact ⟨h1, h2, h3, .inl h4⟩
  · exact ⟨h1, h2, h3, .inr ⟨r, cur, rfl, h5.below hb (hB r ⟨_, rfl, rfl⟩), h6⟩⟩
theorem RowK.cells (h : RowK w t k A n cap cs) (hn : 0 < n) : ∃ r, A = some ⟨r, 0, none⟩ ∧ r < w.heap.size ∧ (∀ j u, cs[j]? = some u → w.cell? ⟨r, j, none⟩ = some u) ∧ (∀ j, w.frozen? ⟨r, j, none⟩ = false) := by
  obtain ⟨h1, h2, h3, ⟨_, h4⟩ | ⟨r, cur, h4, h5, h6, h7⟩⟩ := h
  · omega
  · refine ⟨r, h4, h5.lt, fun j u hu => h5.cell ?_, fun j => h5.free j⟩
    rw [← h7, List.getElem?_take] at hu
    split at hu
    · exact hu
    · cases hu
theorem RowK.holds (h : RowK w t k A n cap cs) : ∀ ad, A = some ad → ∀ j u, cs[j]? = some u → w.cell? (ad.add j) = some u := by
  rintro ad rfl j u hu
  obtain ⟨h1, h2, h3, ⟨h4, _⟩ | ⟨r, cur, h4, h5, h6, h7⟩⟩ := h
  · cases h4
  · injection h4 with h4
    subst h4
    rw [add_mk, Nat.zero_add]
    refine h5.cell ?_
    rw [← h7, List.getElem?_take] at hu
    split at hu
    · exact hu
    · cases hu

set_option maxRecDepth 100000 in
/-- append(v, x...): 'v' such a row, 'x' any cells. -/
theorem run_append_rowK (t ty e : TypeId) (i : TypeInfo) (z : Value) (size bytes : Nat) (ht : P.underlying t = some (.slice e)) (hi : P.info? e = some i) (hz : i.zero = some z)
    (hsize : i.size = size) (hby : i.bytes = bytes) (hzs : z.cells.size = size) (h : RowK w e size A n cap xs)
    (ad : Addr) (m c : Nat) (news : List Value) (hl : news.length = m * size) (hnews : ∀ j u, news[j]? = some u → w.cell? (ad.add j) = some u) (h1 : ∀ u ∈ news, u.oneCell' = true)
    (h63 : n + m ≤ maxLen) (hbytes : (n + m) * bytes ≤ 140737488355328) :
    ∃ A' cap' w', (Builtin.append_ #[t, t] ty #[.slice A n cap, .slice (some ad) m c]).run P w = .ok (.slice A' (n + m) cap') w' ∧ RowK w' e size A' (n + m) cap' (xs ++ news) ∧ Out (blkOf A) w w' ∧ (∀ b, blkOf A' b → blkOf A b ∨ b = w.heap.size) ∧ (n + m ≤ cap ∨ Below w.heap.size w w') := by
  subst hsize
  subst hby
  have hsmall : n + m ≤ 9223372036854775807 := by simp only [maxLen] at h63; omega
  have hlen : (xs ++ news).length = (n + m) * i.size := by rw [List.length_append, h.1, hl, Nat.add_mul]
  have grown : ∀ (old : Nat), old < n + m →
      RowK (w.drew.alloc (.cells (xs.toArray ++ news.toArray ++ Builtin.zeroCells z.cells (grownCap w (n + m) old e - (n + m))) e)) e i.size (some ⟨w.heap.size, 0, none⟩) (n + m) (grownCap w (n + m) old e) (xs ++ news) ∧
      Below w.heap.size w (w.drew.alloc (.cells (xs.toArray ++ news.toArray ++ Builtin.zeroCells z.cells (grownCap w (n + m) old e - (n + m))) e)) := by
    intro old ho
    have hge := grownCap_ge w (n + m) old e
    have hcm : grownCap w (n + m) old e ≤ maxLen := grownCap_le_maxLen w (n + m) old e h63
    refine ⟨⟨hlen, hge, hcm, .inr ⟨w.heap.size, (xs.toArray ++ news.toArray ++ Builtin.zeroCells z.cells (grownCap w (n + m) old e - (n + m))).toList, rfl, heap_alloc_new w.drew _, ?_, ?_⟩⟩, ((Below.refl _ _).drew).alloc (Nat.le_refl _) _⟩
    · simp only [Array.length_toList, Array.size_append, List.size_toArray, size_zeroCells, hzs, h.1, hl, ← Nat.add_mul]
      exact Nat.mul_le_mul_right _ (by omega)
    · simp only [Array.toList_append, List.append_assoc]
      rw [← List.append_assoc, ← hlen]
      exact List.take_left
  obtain ⟨hx, hnc, hcm, ⟨rfl, rfl⟩ | ⟨r, cur, rfl, hB, hcs, htake⟩⟩ := h
  · have hn0 : n = 0 := by omega
    subst hn0
    have hx0 : xs = [] := List.eq_nil_of_length_eq_zero (by simpa using hx)
    subst hx0
    by_cases hm : m = 0
    · subst hm
      have hn : news = [] := List.eq_nil_of_length_eq_zero (by simpa using hl)
      subst hn
      refine ⟨none, 0, w, ?_, RowK.nil w e i.size, Out.refl _ _, fun b h => .inl h, .inl (by omega)⟩
      simp [Builtin.append_, run_underlying ht, sizeOf, typeInfo, hi, Builtin.lenOf, Builtin.firstCells, loadCells, loadCellsFrom]
    · have hr := run_append_nil (P := P) w t ty e i z ht hi hz ad m c news hl hnews (by omega) (by omega) (by have hb := hbytes; simp only [Nat.zero_add] at hb; omega)
      have hgr := grown 0 (by omega)
      simp only [Nat.zero_add, List.nil_append, Array.empty_append] at hgr ⊢
      exact ⟨_, _, _, hr, hgr.1, Out.ofBelow _ hgr.2, fun b ⟨a, ha, hb⟩ => .inr (by injection ha with ha; subst ha; exact hb.symm), .inr hgr.2⟩
  · by_cases hroom : n + m ≤ cap
    · have hfit : n * i.size + news.length ≤ cur.toArray.size := by
        rw [hl, List.size_toArray, ← Nat.add_mul]; exact Nat.le_trans (Nat.mul_le_mul_right _ hroom) hcs
      have hr := run_append_room (P := P) w t ty e i ht hi r n cap cur.toArray hB ad m c news hl hnews h1 hroom hfit
      refine ⟨_, _, _, hr, ⟨hlen, hroom, hcm, .inr ⟨r, _, rfl, setRow_heap w r _ _ e _ hB, ?_, ?_⟩⟩, ⟨rfl, rfl, rfl, by simp, fun k hk hne => setRow_other w r k _ (fun e => hne ⟨_, rfl, e.symm⟩)⟩, fun b h => .inl h, .inl hroom⟩
      · simp only [List.length_append, List.length_take, List.length_drop]
        simp only [List.size_toArray] at hfit
        omega
      · rw [htake, ← hlen]
        exact List.take_left
    · have holds : ∀ j u, xs[j]? = some u → w.cell? ((⟨r, 0, none⟩ : Addr).add j) = some u := fun j u hu => by
        rw [add_mk, Nat.zero_add]
        refine hB.cell ?_
        rw [← htake, List.getElem?_take] at hu
        split at hu
        · exact hu
        · cases hu
      have hr := run_append_grow (P := P) w t ty e i z ht hi hz ⟨r, 0, none⟩ n cap xs hx holds ad m c news hl hnews (by omega) (by omega) (growslice_fits (by omega) hbytes)
      have hgr := grown cap (by omega)
      exact ⟨_, _, _, hr, hgr.1, Out.ofBelow _ hgr.2, fun b ⟨a, ha, hb⟩ => .inr (by injection ha with ha; subst ha; exact hb.symm), .inr hgr.2⟩
end

theorem op_append {P : Program} {ops : Array Oper} {Q : Exit → Act → World → Prop} {i : Nat} {oi : Oper} {a : Act} {w : World} {K : Act → World → Prop} {d : Nat} (hi : ops[i]? = some oi) (hd : oi.dst = some d) (hgd : oi.guard = none) (s x : Operand) (t1 t2 : TypeId)
    (ho : oi.op = .call { callee := .builtin .append, args := #[s, x], argTypes := #[t1, t2] }) (v u v' : Value) (w' : World) (hs : a.eval s = v) (hx : a.eval x = u) (hrun : (Builtin.append_ #[t1, t2] oi.type #[v, u]).run P w = .ok v' w')
    (h : K { a with tmps := a.tmps.setIfInBounds d v' } w') : wpOp P ops Q i K a w := by
  refine wpOp_step hi (fun K' hK => ?_)
  have hw : Region.wanted oi (yielded ops a.tmps) = true := by unfold Region.wanted; rw [hgd]
  rw [if_pos hw]
  unfold Oper.wp execOp
  simp only [ho, resolve, invoke, builtin, Sem.run_bind, Sem.run_pure, Result.andThen_ok, List.map_toArray, List.map_cons, List.map_nil, hs, hx, hrun]
  refine hK _ _ ?_
  unfold Act.put
  rw [hd]
  exact h

/-! ### Envelopes -/
/-- A note on its way. -/
structure En where
  fr : Int
  to : Int
  bs : List UInt8
deriving DecidableEq
/-- A note on its way with the slice that shows its bytes. -/
structure EnH where
  x : En
  a : Option Addr
  n : Nat
  c : Nat
def enc (h : EnH) : List Value := [.int .i64 h.x.fr, .int .i64 h.x.to, .slice h.a h.n h.c]
def encs (l : List EnH) : List Value := l.flatMap enc
theorem encs_len (l : List EnH) : (encs l).length = l.length * 3 := by
  induction l with
  | nil => rfl
  | cons h l ih => show (enc h ++ encs l).length = _; rw [List.length_append, ih, List.length_cons]; show 3 + _ = _; omega
theorem encs_append (l m : List EnH) : encs (l ++ m) = encs l ++ encs m := by simp [encs]
theorem encs_one (h : EnH) : encs [h] = enc h := by simp [encs]
theorem encs_take (l : List EnH) (i : Nat) : encs (l.take i) = (encs l).take (i * 3) := by
  induction l generalizing i with
  | nil => simp [encs]
  | cons h l ih =>
    cases i with
    | zero => simp [encs]
    | succ i =>
      rw [List.take_succ_cons]
      show enc h ++ encs (l.take i) = (enc h ++ encs l).take _
      have e3 : (enc h).length = 3 := rfl
      rw [ih, List.take_append, e3, List.take_of_length_le (l := enc h) (by rw [e3]; omega), show (i + 1) * 3 - 3 = i * 3 by omega]
theorem encs_drop (l : List EnH) (i : Nat) : encs (l.drop i) = (encs l).drop (i * 3) := by
  induction l generalizing i with
  | nil => simp [encs]
  | cons h l ih =>
    cases i with
    | zero => simp [encs]
    | succ i =>
      rw [List.drop_succ_cons]
      show encs (l.drop i) = (enc h ++ encs l).drop _
      have e3 : (enc h).length = 3 := rfl
      rw [ih, List.drop_append, e3, List.drop_of_length_le (l := enc h) (by rw [e3]; omega), List.nil_append, show (i + 1) * 3 - 3 = i * 3 by omega]
theorem encs_at {l : List EnH} {i : Nat} (hi : i < l.length) {j : Nat} {u : Value} (hj : (enc l[i])[j]? = some u) : (encs l)[i * 3 + j]? = some u := by
  have h3 : j < 3 := by
    rcases Nat.lt_or_ge j 3 with h | h
    · exact h
    · rw [List.getElem?_eq_none (by exact h)] at hj; cases hj
  have e := encs_drop l i
  rw [List.drop_eq_getElem_cons hi] at e
  have e2 : ((encs l).drop (i * 3))[j]? = some u := by
    rw [← e]
    show (enc l[i] ++ encs (l.drop (i + 1)))[j]? = _
    rw [List.getElem?_append_left (by show j < 3; exact h3)]
    exact hj
  rw [List.getElem?_drop] at e2
  exact e2
theorem enc_cell (l : List EnH) : ∀ u ∈ encs l, u.oneCell' = true := by
  intro u hu
  simp only [encs, List.mem_flatMap] at hu
  obtain ⟨h, _, hu⟩ := hu
  simp only [enc, List.mem_cons, List.not_mem_nil, or_false] at hu
  rcases hu with rfl | rfl | rfl <;> rfl
/-- A note's bytes stand in a block of K. -/
def ByP (w : World) (K : Nat → Prop) (h : EnH) : Prop := h.x.bs.length = h.n ∧ h.n ≤ h.c ∧ h.c ≤ maxLen ∧ Wf h.x.fr ∧ Wf h.x.to ∧ (0 < h.n → ∃ b off, h.a = some ⟨b, off, none⟩ ∧ K b ∧ b < w.heap.size ∧ ∀ j u, (cbs h.x.bs)[j]? = some u → w.cell? ⟨b, off + j, none⟩ = some u)
section
variable {w w' : World} {K K' S : Nat → Prop} {h : EnH}
theorem ByP.mono (k : ByP w K h) (hK : ∀ i, K i → K' i) : ByP w K' h := ⟨k.1, k.2.1, k.2.2.1, k.2.2.2.1, k.2.2.2.2.1, fun hn => let ⟨b, off, e, h1, h2⟩ := k.2.2.2.2.2 hn; ⟨b, off, e, hK b h1, h2⟩⟩
theorem ByP.out (k : ByP w K h) (ho : Out S w w') (hS : ∀ i, K i → ¬ S i) : ByP w' K h :=
  ⟨k.1, k.2.1, k.2.2.1, k.2.2.2.1, k.2.2.2.2.1, fun hn => let ⟨b, off, e, h1, h2, h3⟩ := k.2.2.2.2.2 hn; ⟨b, off, e, h1, Nat.lt_of_lt_of_le h2 ho.size, fun j u hu => (World.cell?_of_block (a := ⟨b, off + j, none⟩) (ho.block b h2 (hS b h1))).trans (h3 j u hu)⟩⟩
theorem ByP.bs (k : ByP w K h) : Bs w h.a h.x.bs := by
  refine ⟨by rw [cbs_length]; omega, fun hn => ?_⟩
  obtain ⟨b, off, e, h1, h2, h3⟩ := k.2.2.2.2.2 (by rw [← k.1]; exact hn)
  exact ⟨b, off, e, h2, h3⟩
theorem ByP.below {B : Nat} (k : ByP w K h) (hb : Below B w w') (hK : ∀ i, K i → i < B) (hB : B ≤ w.heap.size) : ByP w' K h :=
  ⟨k.1, k.2.1, k.2.2.1, k.2.2.2.1, k.2.2.2.2.1, fun hn => let ⟨b, off, e, h1, h2, h3⟩ := k.2.2.2.2.2 hn; ⟨b, off, e, h1, by have := hb.size; have := hK b h1; omega, fun j u hu => (hb.cell (p := ⟨b, off + j, none⟩) (hK b h1)).trans (h3 j u hu)⟩⟩
end
theorem env_info : (Try.prog.info? 29).map (fun i => (i.zero, i.size, i.bytes)) = some (some (.agg #[.int .i64 0, .int .i64 0, .slice none 0 0]), 3, 40) := by kernel_rfl
/-- append for envelopes. -/
theorem run_appendE (w : World) (ty : TypeId) {A : Option Addr} {n cap : Nat} {xs : List Value} (h : RowK w 29 3 A n cap xs) (ad : Addr) (m c : Nat) (news : List Value) (hl : news.length = m * 3)
    (hnews : ∀ j u, news[j]? = some u → w.cell? (ad.add j) = some u) (h1 : ∀ u ∈ news, u.oneCell' = true) (hnm : n + m ≤ 1000000) :
    ∃ A' cap' w', (Builtin.append_ #[45, 45] ty #[.slice A n cap, .slice (some ad) m c]).run Try.prog w = .ok (.slice A' (n + m) cap') w' ∧ RowK w' 29 3 A' (n + m) cap' (xs ++ news) ∧ Out (blkOf A) w w' ∧ (∀ b, blkOf A' b → blkOf A b ∨ b = w.heap.size) ∧ (n + m ≤ cap ∨ Below w.heap.size w w') := by
  obtain ⟨i0, hi, hz0, hz1, hz2⟩ := info_parts env_info
  exact run_append_rowK 45 ty 29 i0 _ 3 40 Try.underlying45 hi hz0 hz1 hz2 rfl h ad m c news hl hnews h1 (by unfold maxLen; omega) (by omega)
end Go.Proofs.Ytlecihbclkohjaa
