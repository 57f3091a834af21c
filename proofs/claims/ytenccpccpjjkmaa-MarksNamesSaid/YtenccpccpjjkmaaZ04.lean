/-
  Laid together for a hand-in: Ev13, Mk15, Rule, Rule3.
-/
import Derived.Test.YtenccpccpjjkmaaZ03
import Derived.Test.YtenccpccpjjkmaaZ02
import Derived.Laws.StructEq
import Derived.Stop.BytesEq
import Derived.DeepKeys4
import Derived.Deep.RegionHeld3
import Derived.Deep.Cut
import Derived.Below

namespace Go.Proofs.Ytenccpccpjjkmaa

open Go.RowKit Go.Maps

set_option linter.unusedVariables false

set_option linter.unusedSimpArgs false

/-- The slice 'A' of n things, of k cells each, with room for 'cap', begins a block; its cells are 'cs'. -/
def RowK (w : World) (t : TypeId) (k : Nat) (A : Option Addr) (n cap : Nat) (cs : List Value) : Prop :=
  cs.length = n * k ∧ n ≤ cap ∧ cap ≤ maxLen ∧ ((A = none ∧ cap = 0) ∨ ∃ r cur, A = some ⟨r, 0, none⟩ ∧ Blk w r t cur ∧ cap * k ≤ cur.length ∧ cur.take (n * k) = cs)

def blkOf (A : Option Addr) (i : Nat) : Prop := ∃ a : Addr, A = some a ∧ a.block = i

section

variable {P : Program} {w w' : World} {t e : TypeId} {k size n cap m : Nat} {A : Option Addr} {xs cs : List Value}

theorem RowK.nil (w : World) (t : TypeId) (k : Nat) : RowK w t k none 0 0 [] := ⟨by simp, Nat.le_refl _, by simp [maxLen], .inl ⟨rfl, rfl⟩⟩

theorem RowK.out {S : Nat → Prop} (h : RowK w t k A n cap cs) (ho : Out S w w') (hS : ∀ i, blkOf A i → ¬ S i) : RowK w' t k A n cap cs := by
  obtain ⟨h1, h2, h3, h4 | ⟨r, cur, rfl, h5, h6⟩⟩ := h
  · exact ⟨h1, h2, h3, .inl h4⟩
  · exact ⟨h1, h2, h3, .inr ⟨r, cur, rfl, ho.blk h5 (hS r ⟨_, rfl, rfl⟩), h6⟩⟩

theorem RowK.lt (h : RowK w t k A n cap cs) : ∀ i, blkOf A i → i < w.heap.size := by
  rintro i ⟨a, rfl, rfl⟩
  obtain ⟨h1, h2, h3, ⟨h4, _⟩ | ⟨r, cur, h4, h5, h6⟩⟩ := h
  · cases h4
  · injection h4 with h4
    subst h4
    exact h5.lt

theorem RowK.below {B : Nat} (h : RowK w t k A n cap cs) (hb : Below B w w') (hB : ∀ i, blkOf A i → i < B) : RowK w' t k A n cap cs := by
  obtain ⟨h1, h2, h3, h4 | ⟨r, cur, rfl, h5, h6⟩⟩ := h
  · exact ⟨h1, h2, h3, .inl h4⟩
  · exact ⟨h1, h2, h3, .inr ⟨r, cur, rfl, h5.below hb (hB r ⟨_, rfl, rfl⟩), h6⟩⟩

theorem RowK.cells (h : RowK w t k A n cap cs) (hn : 0 < n) : ∃ r, A = some ⟨r, 0, none⟩ ∧ r < w.heap.size ∧ (∀ j u, cs[j]? = some u → w.cell? ⟨r, j, none⟩ = some u) ∧ (∀ j, w.frozen? ⟨r, j, none⟩ = false) := by
  obtain ⟨h1, h2, h3, ⟨_, h4⟩ | ⟨r, cur, h4, h5, h6, h7⟩⟩ := h
  · omega
  · refine ⟨r, h4, h5.lt, fun j u hu => h5.cell ?_, fun j => h5.free j⟩
    rw [← h7, List.getElem?_take] at hu
    split at hu
    · exact hu
    · cases hu

theorem RowK.holds (h : RowK w t k A n cap cs) : ∀ ad, A = some ad → ∀ j u, cs[j]? = some u → w.cell? (ad.add j) = some u := by
  rintro ad rfl j u hu
  obtain ⟨h1, h2, h3, ⟨h4, _⟩ | ⟨r, cur, h4, h5, h6, h7⟩⟩ := h
  · cases h4
  · injection h4 with h4
    subst h4
    rw [add_mk, Nat.zero_add]
    refine h5.cell ?_
    rw [← h7, List.getElem?_take] at hu
    split at hu
    · exact hu
    · cases hu

set_option maxRecDepth 100000 in
/-- append(v, x...): 'v' such a row, 'x' any cells. -/
theorem run_append_rowK (t ty e : TypeId) (i : TypeInfo) (z : Value) (size bytes : Nat) (ht : P.underlying t = some (.slice e)) (hi : P.info? e = some i) (hz : i.zero = some z)
    (hsize : i.size = size) (hby : i.bytes = bytes) (hzs : z.cells.size = size) (h : RowK w e size A n cap xs)
    (ad : Addr) (m c : Nat) (news : List Value) (hl : news.length = m * size) (hnews : ∀ j u, news[j]? = some u → w.cell? (ad.add j) = some u) (h1 : ∀ u ∈ news, u.oneCell' = true)
    (h63 : n + m ≤ maxLen) (hbytes : (n + m) * bytes ≤ 140737488355328) :
    ∃ A' cap' w', (Builtin.append_ #[t, t] ty #[.slice A n cap, .slice (some ad) m c]).run P w = .ok (.slice A' (n + m) cap') w' ∧ RowK w' e size A' (n + m) cap' (xs ++ news) ∧ Out (blkOf A) w w' ∧ (∀ b, blkOf A' b → blkOf A b ∨ b = w.heap.size) ∧ (n + m ≤ cap ∨ Below w.heap.size w w') := by
  subst hsize
  subst hby
  have hsmall : n + m ≤ 9223372036854775807 := by simp only [maxLen] at h63; omega
  have hlen : (xs ++ news).length = (n + m) * i.size := by rw [List.length_append, h.1, hl, Nat.add_mul]
  have grown : ∀ (old : Nat), old < n + m →
      RowK (w.drew.alloc (.cells (xs.toArray ++ news.toArray ++ Builtin.zeroCells z.cells (grownCap w (n + m) old e - (n + m))) e)) e i.size (some ⟨w.heap.size, 0, none⟩) (n + m) (grownCap w (n + m) old e) (xs ++ news) ∧
      Below w.heap.size w (w.drew.alloc (.cells (xs.toArray ++ news.toArray ++ Builtin.zeroCells z.cells (grownCap w (n + m) old e - (n + m))) e)) := by
    intro old ho
    have hge := grownCap_ge w (n + m) old e
    have hcm : grownCap w (n + m) old e ≤ maxLen := grownCap_le_maxLen w (n + m) old e h63
    refine ⟨⟨hlen, hge, hcm, .inr ⟨w.heap.size, (xs.toArray ++ news.toArray ++ Builtin.zeroCells z.cells (grownCap w (n + m) old e - (n + m))).toList, rfl, heap_alloc_new w.drew _, ?_, ?_⟩⟩, ((Below.refl _ _).drew).alloc (Nat.le_refl _) _⟩
    · simp only [Array.length_toList, Array.size_append, List.size_toArray, size_zeroCells, hzs, h.1, hl, ← Nat.add_mul]
      exact Nat.mul_le_mul_right _ (by omega)
    · simp only [Array.toList_append, List.append_assoc]
      rw [← List.append_assoc, ← hlen]
      exact List.take_left
  obtain ⟨hx, hnc, hcm, ⟨rfl, rfl⟩ | ⟨r, cur, rfl, hB, hcs, htake⟩⟩ := h
  · have hn0 : n = 0 := by omega
    subst hn0
    have hx0 : xs = [] := List.eq_nil_of_length_eq_zero (by simpa using hx)
    subst hx0
    by_cases hm : m = 0
    · subst hm
      have hn : news = [] := List.eq_nil_of_length_eq_zero (by simpa using hl)
      subst hn
      refine ⟨none, 0, w, ?_, RowK.nil w e i.size, Out.refl _ _, fun b h => .inl h, .inl (by omega)⟩
      simp [Builtin.append_, run_underlying ht, sizeOf, typeInfo, hi, Builtin.lenOf, Builtin.firstCells, loadCells, loadCellsFrom]
    · have hr := run_append_nil (P := P) w t ty e i z ht hi hz ad m c news hl hnews (by omega) (by omega) (by have hb := hbytes; simp only [Nat.zero_add] at hb; omega)
      have hgr := grown 0 (by omega)
      simp only [Nat.zero_add, List.nil_append, Array.empty_append] at hgr ⊢
      exact ⟨_, _, _, hr, hgr.1, Out.ofBelow _ hgr.2, fun b ⟨a, ha, hb⟩ => .inr (by injection ha with ha; subst ha; exact hb.symm), .inr hgr.2⟩
  · by_cases hroom : n + m ≤ cap
    · have hfit : n * i.size + news.length ≤ cur.toArray.size := by
        rw [hl, List.size_toArray, ← Nat.add_mul]; exact Nat.le_trans (Nat.mul_le_mul_right _ hroom) hcs
      have hr := run_append_room (P := P) w t ty e i ht hi r n cap cur.toArray hB ad m c news hl hnews h1 hroom hfit
      refine ⟨_, _, _, hr, ⟨hlen, hroom, hcm, .inr ⟨r, _, rfl, setRow_heap w r _ _ e _ hB, ?_, ?_⟩⟩, ⟨rfl, rfl, rfl, by simp, fun k hk hne => setRow_other w r k _ (fun e => hne ⟨_, rfl, e.symm⟩)⟩, fun b h => .inl h, .inl hroom⟩
      · simp only [List.length_append, List.length_take, List.length_drop]
        simp only [List.size_toArray] at hfit
        omega
      · rw [htake, ← hlen]
        exact List.take_left
    · have holds : ∀ j u, xs[j]? = some u → w.cell? ((⟨r, 0, none⟩ : Addr).add j) = some u := fun j u hu => by
        rw [add_mk, Nat.zero_add]
        refine hB.cell ?_
        rw [← htake, List.getElem?_take] at hu
        split at hu
        · exact hu
        · cases hu
      have hr := run_append_grow (P := P) w t ty e i z ht hi hz ⟨r, 0, none⟩ n cap xs hx holds ad m c news hl hnews (by omega) (by omega) (growslice_fits (by omega) hbytes)
      have hgr := grown cap (by omega)
      exact ⟨_, _, _, hr, hgr.1, Out.ofBelow _ hgr.2, fun b ⟨a, ha, hb⟩ => .inr (by injection ha with ha; subst ha; exact hb.symm), .inr hgr.2⟩

end

theorem op_append {P : Program} {ops : Array Oper} {Q : Exit → Act → World → Prop} {i : Nat} {oi : Oper} {a : Act} {w : World} {K : Act → World → Prop} {d : Nat} (hi : ops[i]? = some oi) (hd : oi.dst = some d) (hgd : oi.guard = none) (s x : Operand) (t1 t2 : TypeId)
    (ho : oi.op = .call { callee := .builtin .append, args := #[s, x], argTypes := #[t1, t2] }) (v u v' : Value) (w' : World) (hs : a.eval s = v) (hx : a.eval x = u) (hrun : (Builtin.append_ #[t1, t2] oi.type #[v, u]).run P w = .ok v' w')
    (h : K { a with tmps := a.tmps.setIfInBounds d v' } w') : wpOp P ops Q i K a w := by
  refine wpOp_step hi (fun K' hK => ?_)
  have hw : Region.wanted oi (yielded ops a.tmps) = true := by unfold Region.wanted; rw [hgd]
  rw [if_pos hw]
  unfold Oper.wp execOp
  simp only [ho, resolve, invoke, builtin, Sem.run_bind, Sem.run_pure, Result.andThen_ok, List.map_toArray, List.map_cons, List.map_nil, hs, hx, hrun]
  refine hK _ _ ?_
  unfold Act.put
  rw [hd]
  exact h

/-! ### Envelopes -/

/-- A note on its way. -/
structure En where
  fr : Int
  to : Int
  bs : List UInt8
deriving DecidableEq

/-- A note on its way with the slice that shows its bytes. -/
structure EnH where
  x : En
  a : Option Addr
  n : Nat
  c : Nat

def enc (h : EnH) : List Value := [.int .i64 h.x.fr, .int .i64 h.x.to, .slice h.a h.n h.c]

def encs (l : List EnH) : List Value := l.flatMap enc

theorem encs_len (l : List EnH) : (encs l).length = l.length * 3 := by
  induction l with
  | nil => rfl
  | cons h l ih => show (enc h ++ encs l).length = _; rw [List.length_append, ih, List.length_cons]; show 3 + _ = _; omega

theorem encs_append (l m : List EnH) : encs (l ++ m) = encs l ++ encs m := by simp [encs]

theorem encs_one (h : EnH) : encs [h] = enc h := by simp [encs]

theorem encs_take (l : List EnH) (i : Nat) : encs (l.take i) = (encs l).take (i * 3) := by
  induction l generalizing i with
  | nil => simp [encs]
  | cons h l ih =>
    cases i with
    | zero => simp [encs]
    | succ i =>
      rw [List.take_succ_cons]
      show enc h ++ encs (l.take i) = (enc h ++ encs l).take _
      have e3 : (enc h).length = 3 := rfl
      rw [ih, List.take_append, e3, List.take_of_length_le (l := enc h) (by rw [e3]; omega), show (i + 1) * 3 - 3 = i * 3 by omega]

theorem encs_drop (l : List EnH) (i : Nat) : encs (l.drop i) = (encs l).drop (i * 3) := by
  induction l generalizing i with
  | nil => simp [encs]
  | cons h l ih =>
    cases i with
    | zero => simp [encs]
    | succ i =>
      rw [List.drop_succ_cons]
      show encs (l.drop i) = (enc h ++ encs l).drop _
      have e3 : (enc h).length = 3 := rfl
      rw [ih, List.drop_append, e3, List.drop_of_length_le (l := enc h) (by rw [e3]; omega), List.nil_append, show (i + 1) * 3 - 3 = i * 3 by omega]

theorem encs_at {l : List EnH} {i : Nat} (hi : i < l.length) {j : Nat} {u : Value} (hj : (enc l[i])[j]? = some u) : (encs l)[i * 3 + j]? = some u := by
  have h3 : j < 3 := by
    rcases Nat.lt_or_ge j 3 with h | h
    · exact h
    · rw [List.getElem?_eq_none (by exact h)] at hj; cases hj
  have e := encs_drop l i
  rw [List.drop_eq_getElem_cons hi] at e
  have e2 : ((encs l).drop (i * 3))[j]? = some u := by
    rw [← e]
    show (enc l[i] ++ encs (l.drop (i + 1)))[j]? = _
    rw [List.getElem?_append_left (by show j < 3; exact h3)]
    exact hj
  rw [List.getElem?_drop] at e2
  exact e2

theorem enc_cell (l : List EnH) : ∀ u ∈ encs l, u.oneCell' = true := by
  intro u hu
  simp only [encs, List.mem_flatMap] at hu
  obtain ⟨h, _, hu⟩ := hu
  simp only [enc, List.mem_cons, List.not_mem_nil, or_false] at hu
  rcases hu with rfl | rfl | rfl <;> rfl

/-- A note's bytes stand in a block of K. -/
def ByP (w : World) (K : Nat → Prop) (h : EnH) : Prop := h.x.bs.length = h.n ∧ h.n ≤ h.c ∧ h.c ≤ maxLen ∧ Wf h.x.fr ∧ Wf h.x.to ∧ (0 < h.n → ∃ b off, h.a = some ⟨b, off, none⟩ ∧ K b ∧ b < w.heap.size ∧ ∀ j u, (cbs h.x.bs)[j]? = some u → w.cell? ⟨b, off + j, none⟩ = some u)

section

variable {w w' : World} {K K' S : Nat → Prop} {h : EnH}

theorem ByP.mono (k : ByP w K h) (hK : ∀ i, K i → K' i) : ByP w K' h := ⟨k.1, k.2.1, k.2.2.1, k.2.2.2.1, k.2.2.2.2.1, fun hn => let ⟨b, off, e, h1, h2⟩ := k.2.2.2.2.2 hn; ⟨b, off, e, hK b h1, h2⟩⟩

theorem ByP.out (k : ByP w K h) (ho : Out S w w') (hS : ∀ i, K i → ¬ S i) : ByP w' K h :=
  ⟨k.1, k.2.1, k.2.2.1, k.2.2.2.1, k.2.2.2.2.1, fun hn => let ⟨b, off, e, h1, h2, h3⟩ := k.2.2.2.2.2 hn; ⟨b, off, e, h1, Nat.lt_of_lt_of_le h2 ho.size, fun j u hu => (World.cell?_of_block (a := ⟨b, off + j, none⟩) (ho.block b h2 (hS b h1))).trans (h3 j u hu)⟩⟩

theorem ByP.bs (k : ByP w K h) : Bs w h.a h.x.bs := by
  refine ⟨by rw [cbs_length]; omega, fun hn => ?_⟩
  obtain ⟨b, off, e, h1, h2, h3⟩ := k.2.2.2.2.2 (by rw [← k.1]; exact hn)
  exact ⟨b, off, e, h2, h3⟩

theorem ByP.below {B : Nat} (k : ByP w K h) (hb : Below B w w') (hK : ∀ i, K i → i < B) (hB : B ≤ w.heap.size) : ByP w' K h :=
  ⟨k.1, k.2.1, k.2.2.1, k.2.2.2.1, k.2.2.2.2.1, fun hn => let ⟨b, off, e, h1, h2, h3⟩ := k.2.2.2.2.2 hn; ⟨b, off, e, h1, by have := hb.size; have := hK b h1; omega, fun j u hu => (hb.cell (p := ⟨b, off + j, none⟩) (hK b h1)).trans (h3 j u hu)⟩⟩

end

end Go.Proofs.Ytenccpccpjjkmaa

namespace Go.Proofs.Ytenccpccpjjkmaa
open Go.RowKit Go.Maps
set_option linter.unusedVariables false
set_option linter.unusedSimpArgs false

theorem mapM_some {α β : Type} (f : α → Option β) : ∀ l : List α, (∀ a ∈ l, ∃ b, f a = some b) → ∃ r, l.mapM f = some r
  | [], _ => ⟨[], rfl⟩
  | a :: l, h => by
    obtain ⟨b, hb⟩ := h a (by simp)
    obtain ⟨r, hr⟩ := mapM_some f l (fun x hx => h x (by simp [hx]))
    exact ⟨b :: r, by simp [List.mapM_cons, hb, hr]⟩
theorem cells_u8 : Try.prog.cellsOf 5 = 1 := by kernel_rfl
theorem cells_digest : Try.prog.cellsOf 26 = 32 := by kernel_rfl
theorem under_digest : Try.prog.underlying 26 = some (.array 32 5) := by kernel_rfl
theorem types_more : ∃ k, Try.prog.types.size + 1 = k + 2 := ⟨Try.prog.types.size - 1, by kernel_rfl⟩
theorem wf_byte (x : UInt8) : (Lit.int .u8 (x.toNat : Int)).wf = true := by
  have := x.toNat_lt
  have h1 : (0 : Int) ≤ x.toNat := by omega
  have h2 : (x.toNat : Int) ≤ 255 := by omega
  simp [Lit.wf, IntKind.min, IntKind.max, IntKind.signed, IntKind.bits, h1, h2]
  try omega
theorem cbs_inj {l m : List UInt8} (h : cbs l = cbs m) : l = m := by
  have := congrArg (List.map fun v => match v with | Value.int _ n => UInt8.ofNat n.toNat | _ => 0) h
  simpa [cbs, cb, Function.comp_def] using this

abbrev dgA (d : List UInt8) : Value := .agg (cbs d).toArray
def intK : KeyT Try.prog 3 Int where
  kv := fun x => .int .i64 x
  kl := fun x => .int .i64 x
  ok := Wf
  keyed := int_keyed Try.underlying3
  key := fun h => keyOf_int_mk Try.underlying3 h
  inj := fun h => by injection h
def zero32 : List UInt8 := List.replicate 32 0
/-- The cells of what was said; nothing was: noughts. -/
theorem dig_info : (Try.prog.info? 26).map (·.size) = some 32 := by kernel_rfl
theorem eq_dig (d d' : List UInt8) (h : d.length = 32) (h' : d'.length = 32) (w : World) : (Op.equalIn 9999 26 (dgA d) (dgA d')).run Try.prog w = .ok (d == d') w :=
  run_equalIn_bytes w 9997 26 5 32 Try.underlying26 Try.underlying5 (fun w => by kernel_rfl) d d' h h'
abbrev ptr (b : Nat) : Value := .pointer (some ⟨b, 0, none⟩)
abbrev vI (x : Int) : Value := .int .i64 x
theorem load_mid_g {P : Program} {ops : Array Oper} {rest : List Oper} {o : Oper} {a : Act} {w : World} {Q : Exit → Act → World → Prop} (hw : Region.wanted o (yielded ops a.tmps) = true) (ty : TypeId) (x : Operand) (ho : o.op = .load ty x)
    (b k : Nat) (hx : a.eval x = .pointer (some ⟨b, k, none⟩)) (cs : List Value) (d : TypeDesc) (hc : w.rangeAt b k cs)
    (hu : P.underlying ty = some d) (hd : d.isRow = true) (hi : (P.info? ty).map (·.size) = some cs.length)
    (h : wpList P ops Q rest (a.put o.dst (.agg cs.toArray)) w) : wpList P ops Q (o :: rest) a w :=
  wpList_step fun K hK => by rw [if_pos hw]; exact wp_load_mid ty x ho b k hx cs d hc hu hd hi (hK _ _ h)

theorem wf_b {x : Int} (h0 : -9223372036854775808 ≤ x) (h1 : x ≤ 9223372036854775807) : Wf x := by
  show (Lit.int .i64 x).wf = true
  simp [Lit.wf, IntKind.min, IntKind.max, IntKind.signed, IntKind.bits]; omega

theorem Blk.rangeFrom {w : World} {g : Nat} {t : TypeId} {cs C : List Value} {o n : Nat} (h : Blk w g t cs) (e : (cs.drop o).take n = C) : w.rangeAt g o C := fun j v hv => by
  refine h.cell ?_
  rw [← e, List.getElem?_take] at hv
  split at hv
  · rw [List.getElem?_drop] at hv; exact hv
  · cases hv
theorem Out.setCells {S : Nat → Prop} {a : World} {g : Nat} (vs : List Value) (hg : g < a.heap.size → S g) : ∀ {w : World} {o : Nat}, Out S a w → Out S a (w.setCells g o vs) := by
  induction vs with
  | nil => intro w o h; exact h
  | cons v vs ih =>
    intro w o h
    rw [World.setCells]
    exact ih (h.setCell hg v)
theorem row_local (w1 : World) (T : TypeId) (Z C : List Value) (hl : C.length = Z.length) (hi : (Try.prog.info? T).map (·.size) = some Z.length) : ∃ wS, (w1.alloc (.cells Z.toArray T)).setCells w1.heap.size 0 C = wS ∧
    ((w1.alloc (.cells Z.toArray T)).there w1.heap.size 0 C.toArray.size ∧ (Try.prog.info? T).map (·.size) = some C.toArray.size) ∧
    Blk wS w1.heap.size T C ∧ Below w1.heap.size w1 wS ∧ wS.heap.size = w1.heap.size + 1 := by
  have hB : Blk (w1.alloc (.cells Z.toArray T)) w1.heap.size T Z := Blk.new rfl rfl
  have hs : C.toArray.size = Z.length := by rw [List.size_toArray]; exact hl
  refine ⟨_, rfl, ⟨?_, ?_⟩, ?_, ?_, ?_⟩
  · rw [hs]; exact hB.there
  · rw [hs]; exact hi
  · exact hB.setAll (vs := C) hl
  · exact Below.setCells (by omega) _ ((Below.refl _ _).alloc (Nat.le_refl _) _)
  · rw [size_cells, World.size_alloc]

set_option maxRecDepth 100000 in
theorem thirty2 : ∀ d : List UInt8, d.length = 32 → ∃ a0 a1 a2 a3 a4 a5 a6 a7 a8 a9 a10 a11 a12 a13 a14 a15 a16 a17 a18 a19 a20 a21 a22 a23 a24 a25 a26 a27 a28 a29 a30 a31, d = [a0, a1, a2, a3, a4, a5, a6, a7, a8, a9, a10, a11, a12, a13, a14, a15, a16, a17, a18, a19, a20, a21, a22, a23, a24, a25, a26, a27, a28, a29, a30, a31]
  | [a0, a1, a2, a3, a4, a5, a6, a7, a8, a9, a10, a11, a12, a13, a14, a15, a16, a17, a18, a19, a20, a21, a22, a23, a24, a25, a26, a27, a28, a29, a30, a31], _ => ⟨_, _, _, _, _, _, _, _, _, _, _, _, _, _, _, _, _, _, _, _, _, _, _, _, _, _, _, _, _, _, _, _, rfl⟩
theorem row_g {P : Program} {ops : Array Oper} {rest : List Oper} {o : Oper} {a : Act} {w : World} {Q : Exit → Act → World → Prop} (hw : Region.wanted o (yielded ops a.tmps) = true) (t : TypeId) (n : Nat) (parts : Array (Nat × Operand)) (ho : o.op = .buildSlice t n parts)
    (v : Value) (w' : World) (hrun : (Instr.buildSlice t n (parts.map fun p => (p.1, a.eval p.2))).run P w = .ok v w') (h : wpList P ops Q rest (a.put o.dst v) w') : wpList P ops Q (o :: rest) a w :=
  wpList_step fun K hK => by
    rw [if_pos hw]
    have he' : (Instr.buildSlice t n (parts.map fun (i, x) => (i, a.eval x))).run P w = .ok v w' := hrun
    unfold Oper.wp execOp
    simp only [ho, Sem.run_bind, he', Result.andThen_ok]
    exact hK _ _ h
theorem app_g {P : Program} {ops : Array Oper} {rest : List Oper} {o : Oper} {a : Act} {w : World} {Q : Exit → Act → World → Prop} (hgd : o.guard = none) (s x : Operand) (t1 t2 : TypeId) (ho : o.op = .call { callee := .builtin .append, args := #[s, x], argTypes := #[t1, t2] })
    (v u v' : Value) (w' : World) (hs : a.eval s = v) (hx : a.eval x = u) (hrun : (Builtin.append_ #[t1, t2] o.type #[v, u]).run P w = .ok v' w') (h : wpList P ops Q rest (a.put o.dst v') w') : wpList P ops Q (o :: rest) a w := by
  refine wpList_plain hgd fun K hK => ?_
  unfold Oper.wp execOp
  simp only [ho, resolve, invoke, builtin, Sem.run_bind, Sem.run_pure, Result.andThen_ok, List.map_toArray, List.map_cons, List.map_nil, hs, hx, hrun]
  exact hK _ _ h

theorem flatMap_drop {α : Type} {f : α → List Value} {k : Nat} (hk : ∀ x, (f x).length = k) : ∀ (l : List α) (i : Nat), (l.flatMap f).drop (i * k) = (l.drop i).flatMap f
  | [], i => by simp
  | x :: l, 0 => by simp
  | x :: l, i + 1 => by
    have h1 : (i + 1) * k = i * k + k := Nat.succ_mul i k
    rw [List.drop_succ_cons, ← flatMap_drop hk l i, List.flatMap_cons, List.drop_append, hk, List.drop_of_length_le (by rw [hk]; omega), List.nil_append, h1]
    congr 1
    omega
theorem flatMap_at {α : Type} {f : α → List Value} {k : Nat} (hk : ∀ x, (f x).length = k) {l : List α} {i : Nat} (hi : i < l.length) {r : Nat} (hr : r < k) : (l.flatMap f)[i * k + r]? = (f l[i])[r]? := by
  have h := flatMap_drop hk l i
  rw [List.drop_eq_getElem_cons hi, List.flatMap_cons] at h
  have h2 : ((l.flatMap f).drop (i * k))[r]? = (f l[i])[r]? := by rw [h, List.getElem?_append_left (by rw [hk]; exact hr)]
  rw [List.getElem?_drop] at h2
  exact h2

/-! ### The cells of a mark -/
def mk0 : Mk := ⟨0, zero32, by decide, rfl⟩
def mkC (x : Mk) : List Value := .int .i64 x.s :: cbs x.d
def mkA (x : Mk) : Value := .agg (mkC x).toArray
def mks (l : List Mk) : List Value := l.flatMap mkC
theorem mkC_len (x : Mk) : (mkC x).length = 33 := by simp [mkC, cbs_length, x.hd]
theorem mks_len (l : List Mk) : (mks l).length = l.length * 33 := by
  unfold mks
  induction l with
  | nil => rfl
  | cons x l ih => rw [List.flatMap_cons, List.length_append, ih, mkC_len, List.length_cons]; omega
theorem mkC_one (x : Mk) : ∀ v ∈ mkC x, v.oneCell' = true := by
  intro v hv
  simp only [mkC, List.mem_cons] at hv
  rcases hv with rfl | hv
  · rfl
  · simp only [cbs, List.mem_map] at hv
    obtain ⟨y, _, rfl⟩ := hv
    rfl
theorem mkC_oneA (x : Mk) : (mkC x).toArray.all (·.oneCell') = true := by
  rw [Array.all_eq_true_iff_forall_mem]
  intro v hv
  exact mkC_one x v (by simpa using hv)
theorem mks_one (l : List Mk) : ∀ v ∈ mks l, v.oneCell' = true := by
  intro v hv
  unfold mks at hv
  rw [List.mem_flatMap] at hv
  obtain ⟨x, _, hv⟩ := hv
  exact mkC_one x v hv
theorem mks_append (l m : List Mk) : mks (l ++ m) = mks l ++ mks m := by simp [mks]
theorem mks_single (x : Mk) : mks [x] = mkC x := by simp [mks]
theorem mks_drop (l : List Mk) (i : Nat) : (mks l).drop (i * 33) = mks (l.drop i) := flatMap_drop mkC_len l i
theorem mks_take (l : List Mk) (i : Nat) : (mks l).take (i * 33) = mks (l.take i) := by
  have h : mks l = mks (l.take i) ++ mks (l.drop i) := by rw [← mks_append, List.take_append_drop]
  by_cases hi : i ≤ l.length
  · have hl : (mks (l.take i)).length = i * 33 := by rw [mks_len, List.length_take, Nat.min_eq_left hi]
    rw [h, List.take_append_of_le_length (by omega), List.take_of_length_le (by omega)]
  · rw [List.take_of_length_le (l := l) (by omega), List.take_of_length_le (by rw [mks_len]; omega)]
theorem mks_at {l : List Mk} {i : Nat} (hi : i < l.length) {r : Nat} (hr : r < 33) : (mks l)[i * 33 + r]? = (mkC l[i])[r]? := flatMap_at mkC_len hi hr
theorem mkC_inj {x y : Mk} (h : mkC x = mkC y) : x = y := by
  unfold mkC at h
  injection h with h1 h2
  injection h1 with _ h3
  exact Mk.eq h3 (cbs_inj h2)
theorem mkA_inj {x y : Mk} (h : mkA x = mkA y) : x = y := by
  unfold mkA at h
  injection h with e
  exact mkC_inj (by have := congrArg Array.toList e; simpa using this)
theorem mark_info1 : (Try.prog.info? 28).map (·.size) = some 33 := by kernel_rfl
theorem mark_info : (Try.prog.info? 28).map (fun i => (i.zero, i.size, i.bytes)) = some (some (.agg (mkC mk0).toArray), 33, 40) := by kernel_rfl
theorem mark_infoL (x : Mk) : (Try.prog.info? 28).map (·.size) = some (mkC x).length := by rw [mkC_len]; exact mark_info1
theorem mark_infoA (x : Mk) : (Try.prog.info? 28).map (·.size) = some (mkC x).toArray.size := by rw [List.size_toArray, mkC_len]; exact mark_info1
theorem mark_fields : Try.prog.underlying 28 = some (.struct (Try.prog.fieldsOf 28)) := by kernel_rfl
theorem mark_stood : Try.prog.stoodInHeld 28 = false := by kernel_rfl
theorem mark_agg (w : World) : (isAgg 28).run Try.prog w = .ok true w := by kernel_rfl
theorem mark_size (w : World) : (Go.sizeOf 28).run Try.prog w = .ok 33 w := by kernel_rfl
theorem built_mark0 : Try.prog.built 28 [] = some (mkC mk0).toArray := by kernel_rfl
theorem p_s (x : Mk) (w : World) : (part 3 (mkC x).toArray 0).run Try.prog w = .ok (.int .i64 x.s) w := by
  simp [part, isAgg, run_underlying Try.underlying3, mkC]
theorem p_d (x : Mk) (w : World) : (part 26 (mkC x).toArray 1).run Try.prog w = .ok (dgA x.d) w := by
  have e : List.take 32 (List.drop 1 (mkC x)) = cbs x.d := by
    show List.take 32 (cbs x.d) = cbs x.d
    rw [List.take_of_length_le (by rw [cbs_length, x.hd]; omega)]
  rw [List.drop_one] at e
  generalize mkC x = L at *
  simp [part, isAgg, run_underlying Try.underlying26, e]
theorem eq_mark (x y : Mk) (w : World) : (Op.equalIn 10000 28 (.agg (mkC x).toArray) (.agg (mkC y).toArray)).run Try.prog w = .ok (decide (x = y)) w := by
  rw [run_equalIn_struct w 9999 28 _ _ mark_fields mark_stood]
  simp only [Program.fieldsOf, Try.underlying28]
  have e1 : ∀ a b : Int, (Op.equalIn 9999 3 (.int .i64 a) (.int .i64 b)).run Try.prog w = .ok (a == b) w := fun a b => run_equalIn_int w 9998 3 .i64 .i64 a b Try.underlying3
  simp only [Op.eqFields, Sem.run_bind, p_s, p_d, e1, eq_dig _ _ x.hd y.hd, Result.andThen_ok, Sem.run_ite, Sem.run_pure]
  have hd : decide (x = y) = (decide (x.s = y.s) && decide (x.d = y.d)) := by
    rw [← Bool.decide_and]
    exact decide_eq_decide.2 ⟨fun h => by rw [h]; exact ⟨rfl, rfl⟩, fun h => Mk.eq h.1 h.2⟩
  rw [hd]
  by_cases h1 : x.s = y.s <;> by_cases h2 : x.d = y.d <;> simp [h1, h2]

/-! ### Marks as keys -/
theorem keyType_mark : Try.prog.keyType 28 = true := by kernel_rfl
theorem cells_mark : Try.prog.cellsOf 28 = 33 := by kernel_rfl
theorem cells_int : Try.prog.cellsOf 3 = 1 := by kernel_rfl
theorem types_more3 : ∃ k, Try.prog.types.size + 1 = k + 3 := ⟨Try.prog.types.size - 2, by kernel_rfl⟩
theorem keyed_mark : Keyed Try.prog 28 := Keyed.of_law (deep_law_laid (by kernel_rfl) (m := 4) (by decide) (by decide +kernel) (by kernel_rfl) (by rw [mark_fields]))
theorem dig_lits (d : List UInt8) (h : d.length = 32) (k : Nat) : ∃ ls, Try.prog.keyLits (k + 2) 26 (cbs d) = some ls := by
  unfold Program.keyLits
  simp only [under_digest, cells_digest, cbs_length, h, if_true, cells_u8]
  obtain ⟨r, hr⟩ := mapM_some (fun i => Try.prog.keyLits (k + 1) 5 (((cbs d).drop (i * 1)).take 1)) (List.range 32) (fun i hi => by
    have hi' : i < d.length := by rw [h]; simpa using hi
    have e1 : ((cbs d).drop (i * 1)).take 1 = [cb d[i]] := by
      rw [Nat.mul_one, List.drop_eq_getElem_cons (by rw [cbs_length]; exact hi')]
      simp [cbs]
    rw [e1]
    unfold Program.keyLits
    simp only [Try.underlying5, cb]
    rw [if_pos ⟨trivial, wf_byte d[i]⟩]
    exact ⟨_, rfl⟩)
  rw [hr]
  exact ⟨_, rfl⟩
theorem key_mark (x : Mk) : ∃ kl, keyOf Try.prog 28 (mkA x) = some kl := by
  obtain ⟨k, hk⟩ := types_more3
  have hl33 := mkC_len x
  have hf : Value.formed Try.prog 28 (.agg (mkC x).toArray) = true := by
    unfold Value.formed
    rw [mark_fields, cells_mark]
    simp [hl33]
  have hl : ∃ ls, Try.prog.keyLits (k + 3) 28 (mkC x) = some ls := by
    obtain ⟨ld, hld⟩ := dig_lits x.d x.hd k
    have hi : Try.prog.keyLits (k + 2) 3 [.int .i64 x.s] = some [.int .i64 x.s] := by
      unfold Program.keyLits
      simp only [Try.underlying3]
      rw [if_pos ⟨trivial, x.hs⟩]
    have e0 : ((mkC x).drop 0).take 1 = [.int .i64 x.s] := rfl
    have e1 : ((mkC x).drop 1).take 32 = cbs x.d := by
      show List.take 32 (cbs x.d) = cbs x.d
      rw [List.take_of_length_le (by rw [cbs_length, x.hd]; omega)]
    unfold Program.keyLits
    rw [mark_fields]
    simp only [cells_mark, hl33, Program.fieldsOf, Try.underlying28]
    rw [if_pos ⟨trivial, by decide +kernel⟩]
    simp only [List.mapM_cons, List.mapM_nil, cells_int, cells_digest, e0, e1, hi, hld]
    exact ⟨_, rfl⟩
  obtain ⟨ls, hls⟩ := hl
  refine ⟨.string (keyBytes ls), ?_⟩
  unfold keyOf mkA
  rw [mark_fields]
  simp only [keyType_mark, hf, Bool.and_self, if_true, hk]
  show Option.map _ (Try.prog.keyLits (k + 3) 28 (mkC x)) = _
  rw [hls]
  rfl
noncomputable def markK : KeyT Try.prog 28 Mk where
  kv := mkA
  kl := fun d => (keyOf Try.prog 28 (mkA d)).getD (.bool false)
  ok := fun _ => True
  keyed := keyed_mark
  key := fun {d} _ => by obtain ⟨kl, hk⟩ := key_mark d; rw [hk]; rfl
  inj := fun h => mkA_inj h

/-! ### A row of marks in a block, from some cell on -/
structure Sl where
  b : Nat
  o : Nat
  n : Nat
  c : Nat
def slV (s : Sl) : Value := .slice (some ⟨s.b, s.o, none⟩) s.n s.c
structure RowM (w : World) (s : Sl) (l : List Mk) : Prop where
  len : l.length = s.n
  cap : s.n ≤ s.c
  max : s.c ≤ maxLen
  cur : ∃ cur, Blk w s.b 28 cur ∧ s.o + s.c * 33 ≤ cur.length ∧ (cur.drop s.o).take (s.n * 33) = mks l
section
variable {w w' : World} {s : Sl} {l : List Mk}
theorem RowM.lt (h : RowM w s l) : s.b < w.heap.size := let ⟨_, hb, _⟩ := h.cur; hb.lt
theorem RowM.out {S : Nat → Prop} (h : RowM w s l) (ho : Out S w w') (hS : ¬ S s.b) : RowM w' s l := ⟨h.len, h.cap, h.max, let ⟨cur, hb, h2⟩ := h.cur; ⟨cur, ho.blk hb hS, h2⟩⟩
theorem RowM.below {B : Nat} (h : RowM w s l) (hb : Below B w w') (hB : s.b < B) : RowM w' s l := ⟨h.len, h.cap, h.max, let ⟨cur, hb1, h2⟩ := h.cur; ⟨cur, hb1.below hb hB, h2⟩⟩
theorem RowM.cells (h : RowM w s l) : ∀ j u, (mks l)[j]? = some u → w.cell? ⟨s.b, s.o + j, none⟩ = some u := by
  obtain ⟨cur, hb, hl, ht⟩ := h.cur
  intro j u hu
  refine hb.cell ?_
  rw [← ht, List.getElem?_take] at hu
  split at hu
  · rw [List.getElem?_drop] at hu; exact hu
  · cases hu
theorem RowM.at_ (h : RowM w s l) {i : Nat} (hi : i < l.length) : w.rangeAt s.b (s.o + i * 33) (mkC l[i]) := by
  intro j u hu
  rw [Nat.add_assoc]
  refine h.cells _ u ?_
  have hj : j < 33 := by
    rcases Nat.lt_or_ge j (mkC l[i]).length with h | h
    · rw [mkC_len] at h; exact h
    · rw [List.getElem?_eq_none h] at hu; cases hu
  rw [mks_at hi hj]
  exact hu
end
end Go.Proofs.Ytenccpccpjjkmaa

namespace Go.Proofs.Ytenccpccpjjkmaa

open Go.RowKit Go.Maps

set_option linter.unusedVariables false

theorem countP_lt {α : Type} {p q : α → Bool} : ∀ (l : List α), (∀ x ∈ l, q x = true → p x = true) → (∃ x ∈ l, p x = true ∧ q x = false) → l.countP q < l.countP p
  | [], _, ⟨x, hx, _⟩ => by simp at hx
  | y :: l, h, ⟨x, hx, h1, h2⟩ => by
    have hle : l.countP q ≤ l.countP p := List.countP_mono_left fun z hz hq => h z (List.mem_cons_of_mem _ hz) hq
    rw [List.countP_cons, List.countP_cons]
    rcases List.mem_cons.1 hx with rfl | hx
    · rw [if_pos h1, if_neg (by rw [h2]; simp)]; omega
    · have ih := countP_lt l (fun z hz hq => h z (List.mem_cons_of_mem _ hz) hq) ⟨x, hx, h1, h2⟩
      have hy := h y List.mem_cons_self
      by_cases hq : q y = true
      · rw [if_pos hq, if_pos (hy hq)]; omega
      · rw [if_neg hq]; split <;> omega

/-- Slot 'd i' has a value that is as 'R i' says. -/
def Has (d : Nat → Nat) (R : Nat → Value → World → Prop) (i : Nat) (a : Act) (w : World) : Prop := ∃ v, a.tmps[d i]? = some v ∧ R i v w

/-- The slots that the region doesn't write are as they were. -/
def Base (d : Nat → Nat) (n : Nat) (a0 a : Act) : Prop := a.tmps.size = a0.tmps.size ∧ a.defers = a0.defers ∧ ∀ s, (∀ i, i < n → d i ≠ s) → a.tmps[s]? = a0.tmps[s]?

section

variable {P : Program} {ops : Array Oper} {Q : Exit → Act → World → Prop} {md : Region.Mode}

theorem ready_mem {listed : Array Bool} {i : Nat} (h : i ∈ Region.ready md ops listed) : ∃ o, ops[i]? = some o ∧ i < ops.size ∧ listed.getD i true = false ∧ ∀ e ∈ o.after, Region.binds md e = true → listed.getD e.on false = true := by
  unfold Region.ready at h
  rw [List.mem_filter, List.mem_range] at h
  obtain ⟨hi, h2⟩ := h
  rw [Bool.and_eq_true] at h2
  obtain ⟨h3, h4⟩ := h2
  refine ⟨ops[i], by simp [hi], hi, by simpa using h3, ?_⟩
  intro e he hb
  rw [Array.getElem?_eq_getElem hi] at h4
  simp only [Option.map_some, Option.getD_some] at h4
  have := (Array.all_eq_true_iff_forall_mem.1 h4) e he
  rw [hb] at this
  simpa using this

theorem ready_nil {listed : Array Bool} (hs : listed.size = ops.size) (hback : ∀ i o, ops[i]? = some o → ∀ e ∈ o.after, Region.binds md e = true → e.on < i) (h : Region.ready md ops listed = []) :
    ∀ i, i < ops.size → listed.getD i false = true := by
  intro i
  induction i using Nat.strongRecOn with
  | ind i ih =>
    intro hi
    cases hl : listed.getD i false with
    | true => rfl
    | false =>
      exfalso
      have hmem : i ∈ Region.ready md ops listed := by
        unfold Region.ready
        rw [List.mem_filter, List.mem_range]
        refine ⟨hi, ?_⟩
        rw [Bool.and_eq_true]
        have hil : i < listed.size := by omega
        constructor
        · simp [Array.getD, hil] at hl ⊢; exact hl
        · rw [Array.getElem?_eq_getElem hi]
          simp only [Option.map_some, Option.getD_some]
          rw [Array.all_eq_true_iff_forall_mem]
          intro e he
          cases hb : Region.binds md e with
          | false => rfl
          | true =>
            have hlt := hback i ops[i] (by simp [hi]) e he hb
            rw [ih e.on hlt (by omega)]
            rfl
      rw [h] at hmem
      simp at hmem

theorem any_rule (d : Nat → Nat) (R : Nat → Value → World → Prop) (a0 : Act) (w0 : World)
    (hd : ∀ i o, ops[i]? = some o → o.dst = some (d i) ∧ d i < a0.tmps.size)
    (hinj : ∀ i j, i < ops.size → j < ops.size → d i = d j → i = j)
    (hback : ∀ i o, ops[i]? = some o → ∀ e ∈ o.after, Region.binds md e = true → e.on < i)
    (hstab : ∀ i v w w', R i v w → Below w.heap.size w w' → R i v w')
    (hstep : ∀ i o, ops[i]? = some o → ∀ a w, Base d ops.size a0 a → Below w0.heap.size w0 w → (∀ e ∈ o.after, Region.binds md e = true → Has d R e.on a w) →
      ∀ K : Act → World → Prop, (∀ v w', R i v w' → Below w.heap.size w w' → K (a.put (some (d i)) v) w') → wpOp P ops Q i K a w)
    (hend : ∀ a w, Base d ops.size a0 a → Below w0.heap.size w0 w → (∀ i, i < ops.size → Has d R i a w) → Q .normal a w) :
    ∀ fuel listed a w, listed.size = ops.size → Base d ops.size a0 a → Below w0.heap.size w0 w → (∀ i, i < ops.size → listed.getD i false = true → Has d R i a w) →
      (List.range ops.size).countP (fun i => !listed.getD i true) ≤ fuel → wpAny P md ops Q fuel listed a w := by
  intro fuel
  induction fuel with
  | zero =>
    intro listed a w hs hb hw hl hc
    have hnone : Region.ready md ops listed = [] := by
      cases hr : Region.ready md ops listed with
      | nil => rfl
      | cons x xs =>
        exfalso
        obtain ⟨o, _, hx, hx2, _⟩ := ready_mem (md := md) (ops := ops) (listed := listed) (i := x) (by rw [hr]; exact List.mem_cons_self)
        have hp : 0 < (List.range ops.size).countP (fun i => !listed.getD i true) := List.countP_pos_iff.2 ⟨x, List.mem_range.2 hx, by rw [hx2]; rfl⟩
        omega
    exact ⟨hnone, hend a w hb hw fun i hi => hl i hi (ready_nil hs hback hnone i hi)⟩
  | succ fuel ih =>
    intro listed a w hs hb hw hl hc
    refine ⟨fun hr => hend a w hb hw fun i hi => hl i hi (ready_nil hs hback hr i hi), fun i hi => ?_⟩
    obtain ⟨o, ho, hi1, hi2, hi3⟩ := ready_mem hi
    have hon : ∀ e ∈ o.after, Region.binds md e = true → Has d R e.on a w := fun e he hb => hl e.on (by have := hback i o ho e he hb; omega) (hi3 e he hb)
    refine hstep i o ho a w hb hw hon _ fun v w' hv hbel => ?_
    obtain ⟨_, hdi⟩ := hd i o ho
    have hput : (a.put (some (d i)) v).tmps = a.tmps.setIfInBounds (d i) v := rfl
    refine ih (listed.setIfInBounds i true) (a.put (some (d i)) v) w' (by simpa using hs) ⟨?_, hb.2.1, ?_⟩ (hw.trans (hbel.mono hw.size)) ?_ ?_
    · rw [hput]; simpa using hb.1
    · intro s hsn
      rw [hput, Array.getElem?_setIfInBounds_ne (hsn i hi1)]
      exact hb.2.2 s hsn
    · intro j hj hjl
      by_cases e : j = i
      · subst e
        exact ⟨v, by rw [hput, Array.getElem?_setIfInBounds_self_of_lt (by rw [hb.1]; exact hdi)], hv⟩
      · have hj2 : listed.getD j false = true := by
          have : (listed.setIfInBounds i true)[j]? = listed[j]? := Array.getElem?_setIfInBounds_ne (fun h => e h.symm)
          rw [Array.getD_eq_getD_getElem?] at hjl ⊢
          rwa [this] at hjl
        obtain ⟨u, hu, hru⟩ := hl j hj hj2
        exact ⟨u, by rw [hput, Array.getElem?_setIfInBounds_ne (fun h => e (hinj i j hi1 hj h).symm)]; exact hu, hstab j u w w' hru hbel⟩
    · have hlt : (List.range ops.size).countP (fun k => !(listed.setIfInBounds i true).getD k true) < (List.range ops.size).countP (fun k => !listed.getD k true) := by
        refine countP_lt _ (fun k hk hq => ?_) ⟨i, List.mem_range.2 hi1, by rw [hi2]; rfl, ?_⟩
        · by_cases e : k = i
          · subst e
            rw [Array.getD_eq_getD_getElem?, Array.getElem?_setIfInBounds_self_of_lt (by omega)] at hq
            simp at hq
          · have : (listed.setIfInBounds i true)[k]? = listed[k]? := Array.getElem?_setIfInBounds_ne (fun h => e h.symm)
            rw [Array.getD_eq_getD_getElem?] at hq ⊢
            rwa [this] at hq
        · rw [Array.getD_eq_getD_getElem?, Array.getElem?_setIfInBounds_self_of_lt (by omega)]
          rfl
      omega

/-- From the beginning. -/
theorem region_rule {id : Nat} (d : Nat → Nat) (R : Nat → Value → World → Prop) (a0 : Act) (w0 : World) (hm : P.follows .mixedOrders = true)
    (hd : ∀ i o, ops[i]? = some o → o.dst = some (d i) ∧ d i < a0.tmps.size)
    (hinj : ∀ i j, i < ops.size → j < ops.size → d i = d j → i = j)
    (hback : ∀ i o, ops[i]? = some o → ∀ e ∈ o.after, Region.binds .any e = true → e.on < i)
    (hstab : ∀ i v w w', R i v w → Below w.heap.size w w' → R i v w')
    (hstep : ∀ i o, ops[i]? = some o → ∀ a w, Base d ops.size a0 a → Below w0.heap.size w0 w → (∀ e ∈ o.after, Region.binds .any e = true → Has d R e.on a w) →
      ∀ K : Act → World → Prop, (∀ v w', R i v w' → Below w.heap.size w w' → K (a.put (some (d i)) v) w') → wpOp P ops Q i K a w)
    (hend : ∀ a w, Base d ops.size a0 a → Below w0.heap.size w0 w → (∀ i, i < ops.size → Has d R i a w) → Q .normal a w) : (Code.region id ops true).wp P Q a0 w0 := by
  refine wp_region_any hm (any_rule (P := P) (md := .any) d R a0 w0 hd hinj hback hstab hstep hend ops.size _ a0 _ (by simp) ⟨rfl, rfl, fun _ _ => rfl⟩ ?_ ?_ ?_)
  · exact (Below.refl _ _).drew
  · intro i hi h
    rw [Array.getD_eq_getD_getElem?] at h
    simp [hi] at h
  · exact Nat.le_trans List.countP_le_length (by simp)

/-- The same, what is asked of the table by computing. -/
theorem region_rule2 {id : Nat} (n N : Nat) (d : Nat → Nat) (R : Nat → Value → World → Prop) (a0 : Act) (w0 : World) (hm : P.follows .mixedOrders = true) (hn : ops.size = n) (hN : a0.tmps.size = N)
    (ht : ((List.range n).all fun i => ((ops[i]?).map fun o => (o.dst == some (d i)) && decide (d i < N) && o.guard.isNone && o.after.all fun e => !Region.binds .any e || decide (e.on < i)).getD false) = true)
    (hinj : ((List.range n).all fun i => (List.range n).all fun j => !(d i == d j) || (i == j)) = true)
    (hstab : ∀ i v w w', R i v w → Below w.heap.size w w' → R i v w')
    (hstep : ∀ i o, i < n → ops[i]? = some o → o.guard = none → o.dst = some (d i) → ∀ a w, Base d n a0 a → Below w0.heap.size w0 w →
      (∀ j, (o.after.any fun e => Region.binds .any e && (e.on == j)) = true → Has d R j a w) →
      ∀ K : Act → World → Prop, (∀ v w', R i v w' → Below w.heap.size w w' → K (a.put o.dst v) w') → wpOp P ops Q i K a w)
    (hend : ∀ a w, Base d n a0 a → Below w0.heap.size w0 w → (∀ i, i < n → Has d R i a w) → Q .normal a w) : (Code.region id ops true).wp P Q a0 w0 := by
  subst hn
  subst hN
  have hlt : ∀ i o, ops[i]? = some o → i < ops.size := fun i o h => by
    rcases Nat.lt_or_ge i ops.size with hl | hl
    · exact hl
    · rw [Array.getElem?_eq_none hl] at h; cases h
  have key : ∀ i o, ops[i]? = some o → o.dst = some (d i) ∧ d i < a0.tmps.size ∧ o.guard = none ∧ ∀ e ∈ o.after, Region.binds .any e = true → e.on < i := by
    intro i o ho
    have h := List.all_eq_true.1 ht i (List.mem_range.2 (hlt i o ho))
    rw [ho] at h
    simp only [Option.map_some, Option.getD_some, Bool.and_eq_true, beq_iff_eq, decide_eq_true_eq, Option.isNone_iff_eq_none] at h
    obtain ⟨⟨⟨h1, h2⟩, h3⟩, h4⟩ := h
    refine ⟨h1, h2, h3, fun e he hb => ?_⟩
    have := Array.all_eq_true_iff_forall_mem.1 h4 e he
    rw [hb] at this
    simpa using this
  refine region_rule (P := P) d R a0 w0 hm (fun i o ho => ⟨(key i o ho).1, (key i o ho).2.1⟩) (fun i j hi hj e => ?_) (fun i o ho => (key i o ho).2.2.2) hstab (fun i o ho a w hb hw hdep K hK => ?_) hend
  · have h := List.all_eq_true.1 (List.all_eq_true.1 hinj i (List.mem_range.2 hi)) j (List.mem_range.2 hj)
    rw [e] at h
    simpa using h
  · refine hstep i o (hlt i o ho) ho (key i o ho).2.2.1 (key i o ho).1 a w hb hw (fun j hj => ?_) K (fun v w' h1 h2 => by rw [(key i o ho).1]; exact hK v w' h1 h2)
    rw [Array.any_eq_true] at hj
    obtain ⟨k, hk, h2⟩ := hj
    simp only [Bool.and_eq_true, beq_iff_eq] at h2
    obtain ⟨h2, h3⟩ := h2
    rw [← h3]
    exact hdep _ (Array.getElem_mem hk) h2

theorem op_of {α : Type} {i : Nat} {o : Oper} (f : Oper → α) (ho : ops[i]? = some o) {v : α} (h : (ops[i]?).map f = some v) : f o = v := by
  rw [ho] at h
  exact Option.some.inj h

theorem ev_tmp {a : Act} {s : Nat} {v : Value} (h : a.tmps[s]? = some v) : a.eval (.tmp s) = v := by
  show a.tmps.getD s undef = v
  rw [Array.getD_eq_getD_getElem?, h]; rfl

theorem st_plain {i : Nat} {o : Oper} {a : Act} {w w' : World} {K : Act → World → Prop} {v : Value} (ho : ops[i]? = some o) (hg : o.guard = none)
    (hrun : Sem.run P (execOp a.eval o) w = .ok (Next.value v) w') (hK : K (a.put o.dst v) w') : wpOp P ops Q i K a w := by
  refine wpOp_step ho (fun K' hK' => ?_)
  have hw : Region.wanted o (yielded ops a.tmps) = true := by unfold Region.wanted; rw [hg]
  rw [if_pos hw]
  unfold Oper.wp
  rw [hrun]
  exact hK' _ _ hK

theorem st_move {i s : Nat} {o : Oper} {a : Act} {w : World} {K : Act → World → Prop} {v : Value} (ho : ops[i]? = some o) (hg : o.guard = none) (hop : o.op = .move (.tmp s)) (hv : a.tmps[s]? = some v)
    (hK : K (a.put o.dst v) w) : wpOp P ops Q i K a w := by
  refine st_plain ho hg ?_ hK
  unfold execOp
  rw [hop, ← ev_tmp hv]
  rfl

theorem st_assign {i s : Nat} {o : Oper} {a : Act} {w : World} {K : Act → World → Prop} {v : Value} (ho : ops[i]? = some o) (hg : o.guard = none) (hop : o.op = .assign (.tmp s)) (hv : a.tmps[s]? = some v)
    (hK : K (a.put o.dst v) w) : wpOp P ops Q i K a w := by
  refine st_plain ho hg ?_ hK
  unfold execOp
  rw [hop, ← ev_tmp hv]
  rfl

theorem st_build {i : Nat} {o : Oper} {a : Act} {w : World} {K : Act → World → Prop} (ho : ops[i]? = some o) (hg : o.guard = none) (t : TypeId) (parts : Array (Nat × Operand)) (hop : o.op = .build t parts) (cells : Array Value)
    (he : P.built t (parts.toList.map fun p => (p.1, a.eval p.2)) = some cells) (hK : K (a.put o.dst (.agg cells)) w) : wpOp P ops Q i K a w :=
  st_plain ho hg (exec_build t parts hop cells he w) hK

theorem st_row {i n : Nat} {o : Oper} {a : Act} {w : World} {K : Act → World → Prop} (ho : ops[i]? = some o) (hg : o.guard = none) (t e : TypeId) (parts : Array (Nat × Operand)) (hop : o.op = .buildSlice t n parts) (cells : Array Value)
    (he : (Instr.buildSlice t n (parts.map fun p => (p.1, a.eval p.2))).run P w = .ok (.slice (some ⟨w.heap.size, 0, none⟩) n n) (w.alloc (.cells cells e)))
    (hK : K (a.put o.dst (.slice (some ⟨w.heap.size, 0, none⟩) n n)) (w.alloc (.cells cells e))) : wpOp P ops Q i K a w := by
  refine st_plain ho hg ?_ hK
  have he' : (Instr.buildSlice t n (parts.map fun (i, x) => (i, a.eval x))).run P w = .ok (.slice (some ⟨w.heap.size, 0, none⟩) n n) (w.alloc (.cells cells e)) := he
  unfold execOp
  simp only [hop, Sem.run_bind, he', Result.andThen_ok]
  rfl

theorem st_slice {i : Nat} {o : Oper} {a : Act} {w : World} {K : Act → World → Prop} {v : Value} (ho : ops[i]? = some o) (hg : o.guard = none) (t : TypeId) (x : Operand) (k : Value) (hop : o.op = .slice t x none (some (.const k)) none)
    (he : (Instr.sliceAt t (a.eval x) none (some k) none).run P w = .ok v w) (hK : K (a.put o.dst v) w) : wpOp P ops Q i K a w := by
  refine st_plain ho hg ?_ hK
  have he' : (Instr.sliceAt t (a.eval x) (Option.map a.eval none) (Option.map a.eval (some (.const k))) (Option.map a.eval none)).run P w = .ok v w := he
  unfold execOp
  simp only [hop, Sem.run_bind, he', Result.andThen_ok]
  rfl

end

end Go.Proofs.Ytenccpccpjjkmaa

namespace Go.Proofs.Ytenccpccpjjkmaa

open Go.RowKit Go.Maps

set_option linter.unusedVariables false

section

variable {P : Program} {ops : Array Oper} {Q : Exit → Act → World → Prop}

/-- What is asked of the table by computing: guards are met where they come up ('gb' tells which answer each guard gives). -/
theorem region_rule3 {id : Nat} (n N : Nat) (d : Nat → Nat) (gb : Nat → Bool) (R : Nat → Value → World → Prop) (a0 : Act) (w0 : World) (hm : P.follows .mixedOrders = true) (hn : ops.size = n) (hN : a0.tmps.size = N)
    (ht : ((List.range n).all fun i => ((ops[i]?).map fun o => (o.dst == some (d i)) && decide (d i < N) && (match o.guard with | none => true | some (g, b) => b && gb g && decide (g < n) && o.after.any fun e => Region.binds .any e && (e.on == g)) && o.after.all fun e => !Region.binds .any e || decide (e.on < i)).getD false) = true)
    (hinj : ((List.range n).all fun i => (List.range n).all fun j => !(d i == d j) || (i == j)) = true)
    (hgb : ∀ i v w, gb i = true → R i v w → v = .bool true)
    (hstab : ∀ i v w w', R i v w → Below w.heap.size w w' → R i v w')
    (hstep : ∀ i o, i < n → ops[i]? = some o → o.dst = some (d i) → ∀ a w, Base d n a0 a → Below w0.heap.size w0 w → Region.wanted o (yielded ops a.tmps) = true →
      (∀ j, (o.after.any fun e => Region.binds .any e && (e.on == j)) = true → Has d R j a w) →
      ∀ K : Act → World → Prop, (∀ v w', R i v w' → Below w.heap.size w w' → K (a.put o.dst v) w') → wpOp P ops Q i K a w)
    (hend : ∀ a w, Base d n a0 a → Below w0.heap.size w0 w → (∀ i, i < n → Has d R i a w) → Q .normal a w) : (Code.region id ops true).wp P Q a0 w0 := by
  subst hn
  subst hN
  have hlt : ∀ i o, ops[i]? = some o → i < ops.size := fun i o h => by
    rcases Nat.lt_or_ge i ops.size with hl | hl
    · exact hl
    · rw [Array.getElem?_eq_none hl] at h; cases h
  have key : ∀ i o, ops[i]? = some o → o.dst = some (d i) ∧ d i < a0.tmps.size ∧ (∀ g b, o.guard = some (g, b) → b = true ∧ gb g = true ∧ g < ops.size ∧ (o.after.any fun e => Region.binds .any e && (e.on == g)) = true) ∧ ∀ e ∈ o.after, Region.binds .any e = true → e.on < i := by
    intro i o ho
    have h := List.all_eq_true.1 ht i (List.mem_range.2 (hlt i o ho))
    rw [ho] at h
    simp only [Option.map_some, Option.getD_some, Bool.and_eq_true, beq_iff_eq, decide_eq_true_eq] at h
    obtain ⟨⟨⟨h1, h2⟩, h3⟩, h4⟩ := h
    refine ⟨h1, h2, fun g b hg => ?_, fun e he hb => ?_⟩
    · rw [hg] at h3
      simp only [Bool.and_eq_true, decide_eq_true_eq] at h3
      exact ⟨h3.1.1.1, h3.1.1.2, h3.1.2, h3.2⟩
    · have := Array.all_eq_true_iff_forall_mem.1 h4 e he
      rw [hb] at this
      simpa using this
  refine region_rule (P := P) d R a0 w0 hm (fun i o ho => ⟨(key i o ho).1, (key i o ho).2.1⟩) (fun i j hi hj e => ?_) (fun i o ho => (key i o ho).2.2.2) hstab (fun i o ho a w hb hw hdep K hK => ?_) hend
  · have h := List.all_eq_true.1 (List.all_eq_true.1 hinj i (List.mem_range.2 hi)) j (List.mem_range.2 hj)
    rw [e] at h
    simpa using h
  · have hdep' : ∀ j, (o.after.any fun e => Region.binds .any e && (e.on == j)) = true → Has d R j a w := fun j hj => by
      rw [Array.any_eq_true] at hj
      obtain ⟨k, hk, h2⟩ := hj
      simp only [Bool.and_eq_true, beq_iff_eq] at h2
      obtain ⟨h2, h3⟩ := h2
      rw [← h3]
      exact hdep _ (Array.getElem_mem hk) h2
    refine hstep i o (hlt i o ho) ho (key i o ho).1 a w hb hw ?_ hdep' K (fun v w' h1 h2 => by rw [(key i o ho).1]; exact hK v w' h1 h2)
    unfold Region.wanted
    cases hg : o.guard with
    | none => rfl
    | some gp =>
      obtain ⟨g, b⟩ := gp
      obtain ⟨h1, h2, h3, h4⟩ := (key i o ho).2.2.1 g b hg
      obtain ⟨v, hv, hR⟩ := hdep' g h4
      have ev := hgb g v w h2 hR
      subst ev
      subst h1
      have hog : ops[g]? = some ops[g] := Array.getElem?_eq_getElem h3
      have hdg := (key g _ hog).1
      show (yielded ops a.tmps g == some true) = true
      unfold yielded
      rw [hog, Option.bind_some, hdg, Option.bind_some, hv]
      rfl

/-- The same, where some guards may not be met: 'gb' tells what each guard answers, 'sk' which operations are passed over so. -/
theorem region_rule4 {id : Nat} (n N : Nat) (d : Nat → Nat) (gb : Nat → Option Bool) (sk : Nat → Bool) (R : Nat → Value → World → Prop) (a0 : Act) (w0 : World) (hm : P.follows .mixedOrders = true) (hn : ops.size = n) (hN : a0.tmps.size = N)
    (ht : ((List.range n).all fun i => ((ops[i]?).map fun o => (o.dst == some (d i)) && decide (d i < N) && (match o.guard with | none => !sk i | some (g, b) => (gb g).isSome && (sk i == !(gb g == some b)) && decide (g < n) && o.after.any fun e => Region.binds .any e && (e.on == g)) && o.after.all fun e => !Region.binds .any e || decide (e.on < i)).getD false) = true)
    (hinj : ((List.range n).all fun i => (List.range n).all fun j => !(d i == d j) || (i == j)) = true)
    (hgb : ∀ i b v w, gb i = some b → R i v w → v = .bool b)
    (hsk : ∀ i w, sk i = true → R i undef w)
    (hstab : ∀ i v w w', R i v w → Below w.heap.size w w' → R i v w')
    (hstep : ∀ i o, i < n → sk i = false → ops[i]? = some o → o.dst = some (d i) → ∀ a w, Base d n a0 a → Below w0.heap.size w0 w → Region.wanted o (yielded ops a.tmps) = true →
      (∀ j, (o.after.any fun e => Region.binds .any e && (e.on == j)) = true → Has d R j a w) →
      ∀ K : Act → World → Prop, (∀ v w', R i v w' → Below w.heap.size w w' → K (a.put o.dst v) w') → wpOp P ops Q i K a w)
    (hend : ∀ a w, Base d n a0 a → Below w0.heap.size w0 w → (∀ i, i < n → Has d R i a w) → Q .normal a w) : (Code.region id ops true).wp P Q a0 w0 := by
  subst hn
  subst hN
  have hlt : ∀ i o, ops[i]? = some o → i < ops.size := fun i o h => by
    rcases Nat.lt_or_ge i ops.size with hl | hl
    · exact hl
    · rw [Array.getElem?_eq_none hl] at h; cases h
  have key : ∀ i o, ops[i]? = some o → o.dst = some (d i) ∧ d i < a0.tmps.size ∧ (o.guard = none → sk i = false) ∧ (∀ g b, o.guard = some (g, b) → (gb g).isSome = true ∧ sk i = !(gb g == some b) ∧ g < ops.size ∧ (o.after.any fun e => Region.binds .any e && (e.on == g)) = true) ∧ ∀ e ∈ o.after, Region.binds .any e = true → e.on < i := by
    intro i o ho
    have h := List.all_eq_true.1 ht i (List.mem_range.2 (hlt i o ho))
    rw [ho] at h
    simp only [Option.map_some, Option.getD_some, Bool.and_eq_true, beq_iff_eq, decide_eq_true_eq] at h
    obtain ⟨⟨⟨h1, h2⟩, h3⟩, h4⟩ := h
    refine ⟨h1, h2, fun hg => ?_, fun g b hg => ?_, fun e he hb => ?_⟩
    · rw [hg] at h3
      simpa using h3
    · rw [hg] at h3
      simp only [Bool.and_eq_true, decide_eq_true_eq, beq_iff_eq] at h3
      exact ⟨h3.1.1.1, h3.1.1.2, h3.1.2, h3.2⟩
    · have := Array.all_eq_true_iff_forall_mem.1 h4 e he
      rw [hb] at this
      simpa using this
  refine region_rule (P := P) d R a0 w0 hm (fun i o ho => ⟨(key i o ho).1, (key i o ho).2.1⟩) (fun i j hi hj e => ?_) (fun i o ho => (key i o ho).2.2.2.2) hstab (fun i o ho a w hb hw hdep K hK => ?_) hend
  · have h := List.all_eq_true.1 (List.all_eq_true.1 hinj i (List.mem_range.2 hi)) j (List.mem_range.2 hj)
    rw [e] at h
    simpa using h
  · have hdep' : ∀ j, (o.after.any fun e => Region.binds .any e && (e.on == j)) = true → Has d R j a w := fun j hj => by
      rw [Array.any_eq_true] at hj
      obtain ⟨k, hk, h2⟩ := hj
      simp only [Bool.and_eq_true, beq_iff_eq] at h2
      obtain ⟨h2, h3⟩ := h2
      rw [← h3]
      exact hdep _ (Array.getElem_mem hk) h2
    have hwant : Region.wanted o (yielded ops a.tmps) = !sk i := by
      unfold Region.wanted
      cases hg : o.guard with
      | none => rw [(key i o ho).2.2.1 hg]; rfl
      | some gp =>
        obtain ⟨g, b⟩ := gp
        obtain ⟨h1, h2, h3, h4⟩ := (key i o ho).2.2.2.1 g b hg
        obtain ⟨v, hv, hR⟩ := hdep' g h4
        obtain ⟨b', hb'⟩ := Option.isSome_iff_exists.1 h1
        have ev := hgb g b' v w hb' hR
        subst ev
        have hog : ops[g]? = some ops[g] := Array.getElem?_eq_getElem h3
        have hdg := (key g _ hog).1
        rw [h2, hb']
        show (yielded ops a.tmps g == some b) = _
        unfold yielded
        rw [hog, Option.bind_some, hdg, Option.bind_some, hv]
        cases b' <;> cases b <;> rfl
    cases hs : sk i with
    | false => exact hstep i o (hlt i o ho) hs ho (key i o ho).1 a w hb hw (by rw [hwant, hs]; rfl) hdep' K (fun v w' h1 h2 => by rw [(key i o ho).1]; exact hK v w' h1 h2)
    | true =>
      refine wpOp_step ho (fun K' hK' => ?_)
      rw [if_neg (by rw [hwant, hs]; simp)]
      refine hK' _ _ ?_
      rw [(key i o ho).1]
      exact hK undef w (hsk i w hs) (Below.refl _ _)

/-- A step whose run is known. -/
theorem st3 {i : Nat} {o : Oper} {a : Act} {w w' : World} {K : Act → World → Prop} {v : Value} (ho : ops[i]? = some o) (hw : Region.wanted o (yielded ops a.tmps) = true)
    (hrun : Sem.run P (execOp a.eval o) w = .ok (Next.value v) w') (hK : K (a.put o.dst v) w') : wpOp P ops Q i K a w := by
  refine wpOp_step ho (fun K' hK' => ?_)
  rw [if_pos hw]
  unfold Oper.wp
  rw [hrun]
  exact hK' _ _ hK

/-- A step that is a call of a function of the program. -/
theorem st3_call {i f : Nat} {o : Oper} {a : Act} {w : World} {K : Act → World → Prop} {vals : Array Value} {Z : Value → World → Prop} (ho : ops[i]? = some o) (hw : Region.wanted o (yielded ops a.tmps) = true)
    (hrun : Sem.run P (execOp a.eval o) w = .ok (Next.enter f vals) w) (hc : Calls P f vals w fun e w' => ∃ v, e = .returned v ∧ Z v w') (hK : ∀ v w', Z v w' → K (a.put o.dst v) w') : wpOp P ops Q i K a w := by
  refine wpOp_step ho (fun K' hK' => ?_)
  rw [if_pos hw]
  unfold Oper.wp
  rw [hrun]
  refine hc.mono ?_
  rintro e w' ⟨v, rfl, hz⟩
  exact hK' _ _ (hK v w' hz)

end

theorem fold_set (g : Nat → Value) : ∀ (ds : List Nat) (t0 : Array Value), (ds.foldl (fun t s => t.setIfInBounds s (g s)) t0).size = t0.size ∧
    ∀ s, (ds.foldl (fun t s => t.setIfInBounds s (g s)) t0)[s]? = if s ∈ ds ∧ s < t0.size then some (g s) else t0[s]?
  | [], t0 => ⟨rfl, fun s => by simp⟩
  | x :: ds, t0 => by
    obtain ⟨h1, h2⟩ := fold_set g ds (t0.setIfInBounds x (g x))
    rw [List.foldl_cons]
    refine ⟨by rw [h1]; simp, fun s => ?_⟩
    rw [h2]
    simp only [Array.size_setIfInBounds, List.mem_cons]
    by_cases hs : s < t0.size
    · by_cases hm : s ∈ ds
      · simp [hm, hs]
      · by_cases hx : s = x
        · subst hx
          simp [hm, hs]
        · simp [hm, hx, Array.getElem?_setIfInBounds_ne (fun e => hx e.symm)]
    · rw [if_neg (fun h => hs h.2), if_neg (fun h => hs h.2), Array.getElem?_eq_none (by simp; omega), Array.getElem?_eq_none (by omega)]

/-- Behind a region: the act is as it was but for the slots that the region writes. -/
theorem base_lit {d : Nat → Nat} {n : Nat} {a0 a : Act} (hb : Base d n a0 a) (ds : List Nat) (hds : (List.range n).map d = ds) :
    ∃ g : Nat → Value, (∀ s v, a.tmps[s]? = some v → g s = v) ∧ a = { tmps := ds.foldl (fun t s => t.setIfInBounds s (g s)) a0.tmps, defers := a0.defers } := by
  refine ⟨fun s => a.tmps.getD s undef, fun s v hv => by simp only [Array.getD_eq_getD_getElem?, hv]; rfl, ?_⟩
  obtain ⟨h1, h2⟩ := fold_set (fun s => a.tmps.getD s undef) ds a0.tmps
  have e : a.tmps = ds.foldl (fun t s => t.setIfInBounds s (a.tmps.getD s undef)) a0.tmps := by
    apply Array.ext_getElem?
    intro s
    rw [h2]
    by_cases hs : s < a0.tmps.size
    · by_cases hm : s ∈ ds
      · rw [if_pos ⟨hm, hs⟩]
        have hs' : s < a.tmps.size := by rw [hb.1]; exact hs
        simp [hs']
      · rw [if_neg (fun h => hm h.1)]
        refine hb.2.2 s fun i hi e => hm ?_
        rw [← hds]
        exact List.mem_map.2 ⟨i, List.mem_range.2 hi, e⟩
    · rw [if_neg (fun h => hs h.2), Array.getElem?_eq_none (by rw [hb.1]; omega), Array.getElem?_eq_none (by omega)]
  cases a with
  | mk t df =>
    have hd : df = a0.defers := hb.2.1
    subst hd
    simp only [Act.mk.injEq, and_true]
    exact e

end Go.Proofs.Ytenccpccpjjkmaa
