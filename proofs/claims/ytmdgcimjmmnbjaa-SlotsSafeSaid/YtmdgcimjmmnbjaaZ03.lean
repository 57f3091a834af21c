/-
  Laid together for a hand-in: Ev13, Sa14, Ca14, Vo14.
-/
import Derived.Test.YtmdgcimjmmnbjaaZ02
import Derived.Test.YtmdgcimjmmnbjaaZ01
import Derived.Laws.StructEq
import Derived.Stop.BytesEq
import Derived.DeepKeys4
import Derived.Deep.RegionHeld3
import Derived.Deep.Cut

namespace Go.Proofs.Ytmdgcimjmmnbjaa

open Go.RowKit Go.Maps

set_option linter.unusedVariables false

set_option linter.unusedSimpArgs false

/-- The slice 'A' of n things, of k cells each, with room for 'cap', begins a block; its cells are 'cs'. -/
def RowK (w : World) (t : TypeId) (k : Nat) (A : Option Addr) (n cap : Nat) (cs : List Value) : Prop :=
  cs.length = n * k ∧ n ≤ cap ∧ cap ≤ maxLen ∧ ((A = none ∧ cap = 0) ∨ ∃ r cur, A = some ⟨r, 0, none⟩ ∧ Blk w r t cur ∧ cap * k ≤ cur.length ∧ cur.take (n * k) = cs)

def blkOf (A : Option Addr) (i : Nat) : Prop := ∃ a : Addr, A = some a ∧ a.block = i

section

variable {P : Program} {w w' : World} {t e : TypeId} {k size n cap m : Nat} {A : Option Addr} {xs cs : List Value}

theorem RowK.nil (w : World) (t : TypeId) (k : Nat) : RowK w t k none 0 0 [] := ⟨by simp, Nat.le_refl _, by simp [maxLen], .inl ⟨rfl, rfl⟩⟩

theorem RowK.out {S : Nat → Prop} (h : RowK w t k A n cap cs) (ho : Out S w w') (hS : ∀ i, blkOf A i → ¬ S i) : RowK w' t k A n cap cs := by
  obtain ⟨h1, h2, h3, h4 | ⟨r, cur, rfl, h5, h6⟩⟩ := h
  · exact ⟨h1, h2, h3, .inl h4⟩
  · exact ⟨h1, h2, h3, .inr ⟨r, cur, rfl, ho.blk h5 (hS r ⟨_, rfl, rfl⟩), h6⟩⟩

theorem RowK.lt (h : RowK w t k A n cap cs) : ∀ i, blkOf A i → i < w.heap.size := by
  rintro i ⟨a, rfl, rfl⟩
  obtain ⟨h1, h2, h3, ⟨h4, _⟩ | ⟨r, cur, h4, h5, h6⟩⟩ := h
  · cases h4
  · injection h4 with h4
    subst h4
    exact h5.lt

theorem RowK.below {B : Nat} (h : RowK w t k A n cap cs) (hb : Below B w w') (hB : ∀ i, blkOf A i → i < B) : RowK w' t k A n cap cs := by
  obtain ⟨h1, h2, h3, h4 | ⟨r, cur, rfl, h5, h6⟩⟩ := h
  · exact ⟨h1, h2, h3, .inl h4⟩
  · exact ⟨h1, h2, h3, .inr ⟨r, cur, rfl, h5.below hb (hB r ⟨_, rfl, rfl⟩), h6⟩⟩

theorem RowK.cells (h : RowK w t k A n cap cs) (hn : 0 < n) : ∃ r, A = some ⟨r, 0, none⟩ ∧ r < w.heap.size ∧ (∀ j u, cs[j]? = some u → w.cell? ⟨r, j, none⟩ = some u) ∧ (∀ j, w.frozen? ⟨r, j, none⟩ = false) := by
  obtain ⟨h1, h2, h3, ⟨_, h4⟩ | ⟨r, cur, h4, h5, h6, h7⟩⟩ := h
  · omega
  · refine ⟨r, h4, h5.lt, fun j u hu => h5.cell ?_, fun j => h5.free j⟩
    rw [← h7, List.getElem?_take] at hu
    split at hu
    · exact hu
    · cases hu

theorem RowK.holds (h : RowK w t k A n cap cs) : ∀ ad, A = some ad → ∀ j u, cs[j]? = some u → w.cell? (ad.add j) = some u := by
  rintro ad rfl j u hu
  obtain ⟨h1, h2, h3, ⟨h4, _⟩ | ⟨r, cur, h4, h5, h6, h7⟩⟩ := h
  · cases h4
  · injection h4 with h4
    subst h4
    rw [add_mk, Nat.zero_add]
    refine h5.cell ?_
    rw [← h7, List.getElem?_take] at hu
    split at hu
    · exact hu
    · cases hu

set_option maxRecDepth 100000 in
/-- append(v, x...): 'v' such a row, 'x' any cells. -/
theorem run_append_rowK (t ty e : TypeId) (i : TypeInfo) (z : Value) (size bytes : Nat) (ht : P.underlying t = some (.slice e)) (hi : P.info? e = some i) (hz : i.zero = some z)
    (hsize : i.size = size) (hby : i.bytes = bytes) (hzs : z.cells.size = size) (h : RowK w e size A n cap xs)
    (ad : Addr) (m c : Nat) (news : List Value) (hl : news.length = m * size) (hnews : ∀ j u, news[j]? = some u → w.cell? (ad.add j) = some u) (h1 : ∀ u ∈ news, u.oneCell' = true)
    (h63 : n + m ≤ maxLen) (hbytes : (n + m) * bytes ≤ 140737488355328) :
    ∃ A' cap' w', (Builtin.append_ #[t, t] ty #[.slice A n cap, .slice (some ad) m c]).run P w = .ok (.slice A' (n + m) cap') w' ∧ RowK w' e size A' (n + m) cap' (xs ++ news) ∧ Out (blkOf A) w w' ∧ (∀ b, blkOf A' b → blkOf A b ∨ b = w.heap.size) ∧ (n + m ≤ cap ∨ Below w.heap.size w w') := by
  subst hsize
  subst hby
  have hsmall : n + m ≤ 9223372036854775807 := by simp only [maxLen] at h63; omega
  have hlen : (xs ++ news).length = (n + m) * i.size := by rw [List.length_append, h.1, hl, Nat.add_mul]
  have grown : ∀ (old : Nat), old < n + m →
      RowK (w.drew.alloc (.cells (xs.toArray ++ news.toArray ++ Builtin.zeroCells z.cells (grownCap w (n + m) old e - (n + m))) e)) e i.size (some ⟨w.heap.size, 0, none⟩) (n + m) (grownCap w (n + m) old e) (xs ++ news) ∧
      Below w.heap.size w (w.drew.alloc (.cells (xs.toArray ++ news.toArray ++ Builtin.zeroCells z.cells (grownCap w (n + m) old e - (n + m))) e)) := by
    intro old ho
    have hge := grownCap_ge w (n + m) old e
    have hcm : grownCap w (n + m) old e ≤ maxLen := grownCap_le_maxLen w (n + m) old e h63
    refine ⟨⟨hlen, hge, hcm, .inr ⟨w.heap.size, (xs.toArray ++ news.toArray ++ Builtin.zeroCells z.cells (grownCap w (n + m) old e - (n + m))).toList, rfl, heap_alloc_new w.drew _, ?_, ?_⟩⟩, ((Below.refl _ _).drew).alloc (Nat.le_refl _) _⟩
    · simp only [Array.length_toList, Array.size_append, List.size_toArray, size_zeroCells, hzs, h.1, hl, ← Nat.add_mul]
      exact Nat.mul_le_mul_right _ (by omega)
    · simp only [Array.toList_append, List.append_assoc]
      rw [← List.append_assoc, ← hlen]
      exact List.take_left
  obtain ⟨hx, hnc, hcm, ⟨rfl, rfl⟩ | ⟨r, cur, rfl, hB, hcs, htake⟩⟩ := h
  · have hn0 : n = 0 := by omega
    subst hn0
    have hx0 : xs = [] := List.eq_nil_of_length_eq_zero (by simpa using hx)
    subst hx0
    by_cases hm : m = 0
    · subst hm
      have hn : news = [] := List.eq_nil_of_length_eq_zero (by simpa using hl)
      subst hn
      refine ⟨none, 0, w, ?_, RowK.nil w e i.size, Out.refl _ _, fun b h => .inl h, .inl (by omega)⟩
      simp [Builtin.append_, run_underlying ht, sizeOf, typeInfo, hi, Builtin.lenOf, Builtin.firstCells, loadCells, loadCellsFrom]
    · have hr := run_append_nil (P := P) w t ty e i z ht hi hz ad m c news hl hnews (by omega) (by omega) (by have hb := hbytes; simp only [Nat.zero_add] at hb; omega)
      have hgr := grown 0 (by omega)
      simp only [Nat.zero_add, List.nil_append, Array.empty_append] at hgr ⊢
      exact ⟨_, _, _, hr, hgr.1, Out.ofBelow _ hgr.2, fun b ⟨a, ha, hb⟩ => .inr (by injection ha with ha; subst ha; exact hb.symm), .inr hgr.2⟩
  · by_cases hroom : n + m ≤ cap
    · have hfit : n * i.size + news.length ≤ cur.toArray.size := by
        rw [hl, List.size_toArray, ← Nat.add_mul]; exact Nat.le_trans (Nat.mul_le_mul_right _ hroom) hcs
      have hr := run_append_room (P := P) w t ty e i ht hi r n cap cur.toArray hB ad m c news hl hnews h1 hroom hfit
      refine ⟨_, _, _, hr, ⟨hlen, hroom, hcm, .inr ⟨r, _, rfl, setRow_heap w r _ _ e _ hB, ?_, ?_⟩⟩, ⟨rfl, rfl, rfl, by simp, fun k hk hne => setRow_other w r k _ (fun e => hne ⟨_, rfl, e.symm⟩)⟩, fun b h => .inl h, .inl hroom⟩
      · simp only [List.length_append, List.length_take, List.length_drop]
        simp only [List.size_toArray] at hfit
        omega
      · rw [htake, ← hlen]
        exact List.take_left
    · have holds : ∀ j u, xs[j]? = some u → w.cell? ((⟨r, 0, none⟩ : Addr).add j) = some u := fun j u hu => by
        rw [add_mk, Nat.zero_add]
        refine hB.cell ?_
        rw [← htake, List.getElem?_take] at hu
        split at hu
        · exact hu
        · cases hu
      have hr := run_append_grow (P := P) w t ty e i z ht hi hz ⟨r, 0, none⟩ n cap xs hx holds ad m c news hl hnews (by omega) (by omega) (growslice_fits (by omega) hbytes)
      have hgr := grown cap (by omega)
      exact ⟨_, _, _, hr, hgr.1, Out.ofBelow _ hgr.2, fun b ⟨a, ha, hb⟩ => .inr (by injection ha with ha; subst ha; exact hb.symm), .inr hgr.2⟩

end

theorem op_append {P : Program} {ops : Array Oper} {Q : Exit → Act → World → Prop} {i : Nat} {oi : Oper} {a : Act} {w : World} {K : Act → World → Prop} {d : Nat} (hi : ops[i]? = some oi) (hd : oi.dst = some d) (hgd : oi.guard = none) (s x : Operand) (t1 t2 : TypeId)
    (ho : oi.op = .call { callee := .builtin .append, args := #[s, x], argTypes := #[t1, t2] }) (v u v' : Value) (w' : World) (hs : a.eval s = v) (hx : a.eval x = u) (hrun : (Builtin.append_ #[t1, t2] oi.type #[v, u]).run P w = .ok v' w')
    (h : K { a with tmps := a.tmps.setIfInBounds d v' } w') : wpOp P ops Q i K a w := by
  refine wpOp_step hi (fun K' hK => ?_)
  have hw : Region.wanted oi (yielded ops a.tmps) = true := by unfold Region.wanted; rw [hgd]
  rw [if_pos hw]
  unfold Oper.wp execOp
  simp only [ho, resolve, invoke, builtin, Sem.run_bind, Sem.run_pure, Result.andThen_ok, List.map_toArray, List.map_cons, List.map_nil, hs, hx, hrun]
  refine hK _ _ ?_
  unfold Act.put
  rw [hd]
  exact h

/-! ### Envelopes -/

/-- A note on its way. -/
structure En where
  fr : Int
  to : Int
  bs : List UInt8
deriving DecidableEq

/-- A note on its way with the slice that shows its bytes. -/
structure EnH where
  x : En
  a : Option Addr
  n : Nat
  c : Nat

def enc (h : EnH) : List Value := [.int .i64 h.x.fr, .int .i64 h.x.to, .slice h.a h.n h.c]

def encs (l : List EnH) : List Value := l.flatMap enc

theorem encs_len (l : List EnH) : (encs l).length = l.length * 3 := by
  induction l with
  | nil => rfl
  | cons h l ih => show (enc h ++ encs l).length = _; rw [List.length_append, ih, List.length_cons]; show 3 + _ = _; omega

theorem encs_append (l m : List EnH) : encs (l ++ m) = encs l ++ encs m := by simp [encs]

theorem encs_one (h : EnH) : encs [h] = enc h := by simp [encs]

theorem encs_take (l : List EnH) (i : Nat) : encs (l.take i) = (encs l).take (i * 3) := by
  induction l generalizing i with
  | nil => simp [encs]
  | cons h l ih =>
    cases i with
    | zero => simp [encs]
    | succ i =>
      rw [List.take_succ_cons]
      show enc h ++ encs (l.take i) = (enc h ++ encs l).take _
      have e3 : (enc h).length = 3 := rfl
      rw [ih, List.take_append, e3, List.take_of_length_le (l := enc h) (by rw [e3]; omega), show (i + 1) * 3 - 3 = i * 3 by omega]

theorem encs_drop (l : List EnH) (i : Nat) : encs (l.drop i) = (encs l).drop (i * 3) := by
  induction l generalizing i with
  | nil => simp [encs]
  | cons h l ih =>
    cases i with
    | zero => simp [encs]
    | succ i =>
      rw [List.drop_succ_cons]
      show encs (l.drop i) = (enc h ++ encs l).drop _
      have e3 : (enc h).length = 3 := rfl
      rw [ih, List.drop_append, e3, List.drop_of_length_le (l := enc h) (by rw [e3]; omega), List.nil_append, show (i + 1) * 3 - 3 = i * 3 by omega]

theorem encs_at {l : List EnH} {i : Nat} (hi : i < l.length) {j : Nat} {u : Value} (hj : (enc l[i])[j]? = some u) : (encs l)[i * 3 + j]? = some u := by
  have h3 : j < 3 := by
    rcases Nat.lt_or_ge j 3 with h | h
    · exact h
    · rw [List.getElem?_eq_none (by exact h)] at hj; cases hj
  have e := encs_drop l i
  rw [List.drop_eq_getElem_cons hi] at e
  have e2 : ((encs l).drop (i * 3))[j]? = some u := by
    rw [← e]
    show (enc l[i] ++ encs (l.drop (i + 1)))[j]? = _
    rw [List.getElem?_append_left (by show j < 3; exact h3)]
    exact hj
  rw [List.getElem?_drop] at e2
  exact e2

theorem enc_cell (l : List EnH) : ∀ u ∈ encs l, u.oneCell' = true := by
  intro u hu
  simp only [encs, List.mem_flatMap] at hu
  obtain ⟨h, _, hu⟩ := hu
  simp only [enc, List.mem_cons, List.not_mem_nil, or_false] at hu
  rcases hu with rfl | rfl | rfl <;> rfl

/-- A note's bytes stand in a block of K. -/
def ByP (w : World) (K : Nat → Prop) (h : EnH) : Prop := h.x.bs.length = h.n ∧ h.n ≤ h.c ∧ h.c ≤ maxLen ∧ Wf h.x.fr ∧ Wf h.x.to ∧ (0 < h.n → ∃ b off, h.a = some ⟨b, off, none⟩ ∧ K b ∧ b < w.heap.size ∧ ∀ j u, (cbs h.x.bs)[j]? = some u → w.cell? ⟨b, off + j, none⟩ = some u)

section

variable {w w' : World} {K K' S : Nat → Prop} {h : EnH}

theorem ByP.mono (k : ByP w K h) (hK : ∀ i, K i → K' i) : ByP w K' h := ⟨k.1, k.2.1, k.2.2.1, k.2.2.2.1, k.2.2.2.2.1, fun hn => let ⟨b, off, e, h1, h2⟩ := k.2.2.2.2.2 hn; ⟨b, off, e, hK b h1, h2⟩⟩

theorem ByP.out (k : ByP w K h) (ho : Out S w w') (hS : ∀ i, K i → ¬ S i) : ByP w' K h :=
  ⟨k.1, k.2.1, k.2.2.1, k.2.2.2.1, k.2.2.2.2.1, fun hn => let ⟨b, off, e, h1, h2, h3⟩ := k.2.2.2.2.2 hn; ⟨b, off, e, h1, Nat.lt_of_lt_of_le h2 ho.size, fun j u hu => (World.cell?_of_block (a := ⟨b, off + j, none⟩) (ho.block b h2 (hS b h1))).trans (h3 j u hu)⟩⟩

theorem ByP.bs (k : ByP w K h) : Bs w h.a h.x.bs := by
  refine ⟨by rw [cbs_length]; omega, fun hn => ?_⟩
  obtain ⟨b, off, e, h1, h2, h3⟩ := k.2.2.2.2.2 (by rw [← k.1]; exact hn)
  exact ⟨b, off, e, h2, h3⟩

theorem ByP.below {B : Nat} (k : ByP w K h) (hb : Below B w w') (hK : ∀ i, K i → i < B) (hB : B ≤ w.heap.size) : ByP w' K h :=
  ⟨k.1, k.2.1, k.2.2.1, k.2.2.2.1, k.2.2.2.2.1, fun hn => let ⟨b, off, e, h1, h2, h3⟩ := k.2.2.2.2.2 hn; ⟨b, off, e, h1, by have := hb.size; have := hK b h1; omega, fun j u hu => (hb.cell (p := ⟨b, off + j, none⟩) (hK b h1)).trans (h3 j u hu)⟩⟩

end

end Go.Proofs.Ytmdgcimjmmnbjaa

namespace Go.Proofs.Ytmdgcimjmmnbjaa
open Go.RowKit Go.Maps
set_option linter.unusedVariables false
set_option linter.unusedSimpArgs false

/-! ### Keys -/
theorem mapM_some {α β : Type} (f : α → Option β) : ∀ l : List α, (∀ a ∈ l, ∃ b, f a = some b) → ∃ r, l.mapM f = some r
  | [], _ => ⟨[], rfl⟩
  | a :: l, h => by
    obtain ⟨b, hb⟩ := h a (by simp)
    obtain ⟨r, hr⟩ := mapM_some f l (fun x hx => h x (by simp [hx]))
    exact ⟨b :: r, by simp [List.mapM_cons, hb, hr]⟩
theorem keyType_digest : Try.prog.keyType 39 = true := by kernel_rfl
theorem cells_u8 : Try.prog.cellsOf 5 = 1 := by kernel_rfl
theorem cells_digest : Try.prog.cellsOf 39 = 32 := by kernel_rfl
theorem under_digest : Try.prog.underlying 39 = some (.array 32 5) := by kernel_rfl
theorem types_more : ∃ k, Try.prog.types.size + 1 = k + 2 := ⟨Try.prog.types.size - 1, by kernel_rfl⟩
theorem keyed_digest : Keyed Try.prog 39 := Keyed.of_law (deep_law_laid (by kernel_rfl) (m := 3) (by decide) (by decide +kernel) (by kernel_rfl) (by rw [under_digest]))
theorem wf_byte (x : UInt8) : (Lit.int .u8 (x.toNat : Int)).wf = true := by
  have := x.toNat_lt
  have h1 : (0 : Int) ≤ x.toNat := by omega
  have h2 : (x.toNat : Int) ≤ 255 := by omega
  simp [Lit.wf, IntKind.min, IntKind.max, IntKind.signed, IntKind.bits, h1, h2]
  try omega
theorem key_digest (d : List UInt8) (h : d.length = 32) : ∃ kl, keyOf Try.prog 39 (.agg (cbs d).toArray) = some kl := by
  obtain ⟨k, hk⟩ := types_more
  have hf : Value.formed Try.prog 39 (.agg (cbs d).toArray) = true := by
    unfold Value.formed
    rw [under_digest, cells_digest]
    simp [cbs_length, h]
  have hl : ∃ ls, Try.prog.keyLits (k + 2) 39 (cbs d) = some ls := by
    unfold Program.keyLits
    simp only [under_digest, cells_digest, cbs_length, h, if_true, cells_u8]
    obtain ⟨r, hr⟩ := mapM_some (fun i => Try.prog.keyLits (k + 1) 5 (((cbs d).drop (i * 1)).take 1)) (List.range 32) (fun i hi => by
      have hi' : i < d.length := by rw [h]; simpa using hi
      have e1 : ((cbs d).drop (i * 1)).take 1 = [cb d[i]] := by
        rw [Nat.mul_one, List.drop_eq_getElem_cons (by rw [cbs_length]; exact hi')]
        simp [cbs]
      rw [e1]
      unfold Program.keyLits
      simp only [Try.underlying5, cb]
      rw [if_pos ⟨trivial, wf_byte d[i]⟩]
      exact ⟨_, rfl⟩)
    rw [hr]
    exact ⟨_, rfl⟩
  obtain ⟨ls, hls⟩ := hl
  refine ⟨.string (keyBytes ls), ?_⟩
  unfold keyOf
  rw [under_digest]
  simp only [keyType_digest, hf, Bool.and_self, if_true, hk]
  show Option.map _ (Try.prog.keyLits (k + 2) 39 (cbs d)) = _
  rw [hls]
  rfl
theorem cbs_inj {l m : List UInt8} (h : cbs l = cbs m) : l = m := by
  have := congrArg (List.map fun v => match v with | Value.int _ n => UInt8.ofNat n.toNat | _ => 0) h
  simpa [cbs, cb, Function.comp_def] using this

abbrev dgA (d : List UInt8) : Value := .agg (cbs d).toArray
def intK : KeyT Try.prog 3 Int where
  kv := fun x => .int .i64 x
  kl := fun x => .int .i64 x
  ok := Wf
  keyed := int_keyed Try.underlying3
  key := fun h => keyOf_int_mk Try.underlying3 h
  inj := fun h => by injection h
noncomputable def digK : KeyT Try.prog 39 (List UInt8) where
  kv := dgA
  kl := fun d => (keyOf Try.prog 39 (dgA d)).getD (.bool false)
  ok := fun d => d.length = 32
  keyed := keyed_digest
  key := fun {d} h => by obtain ⟨kl, hk⟩ := key_digest d h; show keyOf Try.prog 39 (dgA d) = _; unfold dgA; rw [hk]; rfl
  inj := fun h => by
    unfold dgA at h
    injection h with e
    exact cbs_inj (by have := congrArg Array.toList e; simpa using this)

/-! ### Sayings -/
def zero32 : List UInt8 := List.replicate 32 0
/-- The cells of what was said; nothing was: noughts. -/
def sy (o : Option Vt) : List Value := .bool o.isSome :: .int .i64 ((o.map Vt.v).getD 0) :: cbs ((o.map Vt.d).getD zero32)
abbrev syA (o : Option Vt) : Value := .agg (sy o).toArray
abbrev sayV (x : Vt) : Value := syA (some x)
theorem syd_len {o : Option Vt} (h : okO o) : ((o.map Vt.d).getD zero32).length = 32 := by
  cases o with
  | none => rfl
  | some x => exact (h x rfl).2.2
theorem sy_len {o : Option Vt} (h : okO o) : (sy o).length = 34 := by simp [sy, cbs_length, syd_len h]
theorem sy_one (o : Option Vt) : (sy o).toArray.all (·.oneCell') = true := by
  rw [Array.all_eq_true_iff_forall_mem]
  intro v hv
  simp only [sy, List.mem_toArray, List.mem_cons] at hv
  rcases hv with rfl | rfl | hv
  · rfl
  · rfl
  · simp only [cbs, List.mem_map] at hv
    obtain ⟨x, _, rfl⟩ := hv
    rfl
theorem say_info : (Try.prog.info? 64).map (·.size) = some 34 := by kernel_rfl
theorem say_infoL {o : Option Vt} (h : okO o) : (Try.prog.info? 64).map (·.size) = some (sy o).length := by rw [sy_len h]; exact say_info
theorem say_infoA {o : Option Vt} (h : okO o) : (Try.prog.info? 64).map (·.size) = some (sy o).toArray.size := by rw [List.size_toArray, sy_len h]; exact say_info
theorem dig_info : (Try.prog.info? 39).map (·.size) = some 32 := by kernel_rfl
theorem say_built0 : Try.prog.built 64 [] = some (sy none).toArray := by kernel_rfl
theorem say_zero (w : World) : (zeroValue 64).run Try.prog w = .ok (syA none) w := by kernel_rfl

theorem say_fields : Try.prog.underlying 64 = some (.struct (Try.prog.fieldsOf 64)) := by kernel_rfl
theorem say_stood : Try.prog.stoodInHeld 64 = false := by kernel_rfl
theorem part_said (o : Option Vt) (w : World) : (part 4 (sy o).toArray 0).run Try.prog w = .ok (.bool o.isSome) w := by
  simp [part, isAgg, run_underlying Try.underlying4, sy]
theorem part_view (o : Option Vt) (w : World) : (part 3 (sy o).toArray 1).run Try.prog w = .ok (.int .i64 ((o.map Vt.v).getD 0)) w := by
  simp [part, isAgg, run_underlying Try.underlying3, sy]
theorem part_dig {o : Option Vt} (h : okO o) (w : World) : (part 39 (sy o).toArray 2).run Try.prog w = .ok (dgA ((o.map Vt.d).getD zero32)) w := by
  have e : List.take 32 (cbs ((o.map Vt.d).getD zero32)) = cbs ((o.map Vt.d).getD zero32) := List.take_of_length_le (by rw [cbs_length, syd_len h]; omega)
  simp [part, isAgg, run_underlying Try.underlying39, sy, e, dgA]
theorem eq_dig (d d' : List UInt8) (h : d.length = 32) (h' : d'.length = 32) (w : World) : (Op.equalIn 9999 39 (dgA d) (dgA d')).run Try.prog w = .ok (d == d') w :=
  run_equalIn_bytes w 9997 39 5 32 Try.underlying39 Try.underlying5 (fun w => by kernel_rfl) d d' h h'
theorem eq_say {o o' : Option Vt} (h : okO o) (h' : okO o') (w : World) : (Op.equalIn 10000 64 (syA o) (syA o')).run Try.prog w = .ok (decide (o = o')) w := by
  unfold syA
  rw [run_equalIn_struct w 9999 64 _ _ say_fields say_stood]
  simp only [Program.fieldsOf, Try.underlying64]
  have e0 : ∀ a b : Bool, (Op.equalIn 9999 4 (.bool a) (.bool b)).run Try.prog w = .ok (a == b) w := fun a b => run_equalIn_bool w 9998 4 a b Try.underlying4
  have e1 : ∀ a b : Int, (Op.equalIn 9999 3 (.int .i64 a) (.int .i64 b)).run Try.prog w = .ok (a == b) w := fun a b => run_equalIn_int w 9998 3 .i64 .i64 a b Try.underlying3
  simp only [Op.eqFields, Sem.run_bind, part_said, part_view, part_dig h, part_dig h', e0, e1, eq_dig _ _ (syd_len h) (syd_len h'), Result.andThen_ok, Sem.run_ite, Sem.run_pure]
  cases o with
  | none =>
    cases o' with
    | none => rfl
    | some y => rfl
  | some x =>
    cases o' with
    | none => rfl
    | some y =>
      simp only [Option.map_some, Option.getD_some, Option.isSome_some]
      obtain ⟨v, d⟩ := x
      obtain ⟨v', d'⟩ := y
      by_cases h1 : v = v' <;> by_cases h2 : d = d' <;> simp [h1, h2]
theorem binop_say {o o' : Option Vt} (h : okO o) (h' : okO o') (w : World) (ty : TypeId) : (binOp .eql 64 (syA o) (syA o')).run Try.prog w = .ok (.bool (decide (o = o'))) w := by
  unfold syA
  rw [run_eql_struct]
  have := eq_say h h' w
  unfold syA at this
  rw [this]
  rfl

/-! ### A number -/
abbrev ptr (b : Nat) : Value := .pointer (some ⟨b, 0, none⟩)
abbrev vI (x : Int) : Value := .int .i64 x
def qL (q : List Vt) : List (List UInt8 × Int) := q.map fun x => (x.d, x.v)
structure SqAt (w : World) (sb qb rb cb : Nat) (ns : List Int) (x : Sq) : Prop where
  blk : Blk w sb 68 (sy x.last ++ sy x.p ++ [.map (some qb), .map (some rb), .map (some cb)])
  q : MapT digK vI w qb (qL x.q)
  pr : MapT intK sayV w rb (vts ns x.pr)
  cm : MapT intK sayV w cb (vts ns x.cm)
theorem SqAt.out {S : Nat → Prop} {w w' : World} {sb qb rb cb : Nat} {ns : List Int} {x : Sq} (h : SqAt w sb qb rb cb ns x) (ho : Out S w w') (h1 : ¬ S sb) (h2 : ¬ S qb) (h3 : ¬ S rb) (h4 : ¬ S cb) : SqAt w' sb qb rb cb ns x :=
  ⟨ho.blk h.blk h1, h.q.out ho h2, h.pr.out ho h3, h.cm.out ho h4⟩

/-- The numbers of the window that are there, each with its block. -/
def nums (low : Int) (sb : Nat → Nat) (there : Nat → Bool) : List (Int × Nat) := (List.range 8).filterMap fun i => if there i then some (low + 1 + i, sb i) else none
/-- Slots at the block g; there says which numbers are known yet; role parts the blocks. -/
structure StIn (w : World) (U : Nat → Prop) (g : Nat) (σ : St) (there : Nat → Bool) (ab cap m : Nat) (sb qb rb cb : Nat → Nat) (role : Nat → Nat) : Prop where
  ok : σ.ok
  blk : Blk w g 72 [.int .i64 σ.f, .slice (some ⟨ab, 0, none⟩) σ.ns.length cap, .int .i64 σ.low, .map (some m)]
  nd : ∃ cs, Blk w ab 3 cs ∧ cs.take σ.ns.length = cis σ.ns ∧ σ.ns.length ≤ cap ∧ cap ≤ maxLen
  num : MapT intK ptr w m (nums σ.low sb there)
  s : ∀ i, i < 8 → there i = true → SqAt w (sb i) (qb i) (rb i) (cb i) σ.ns (σ.s i)
  rg : role g = 1
  ra : role ab = 2
  rm : role m = 3
  rs : ∀ i, i < 8 → there i = true → role (sb i) = 4 * i + 4 ∧ role (qb i) = 4 * i + 5 ∧ role (rb i) = 4 * i + 6 ∧ role (cb i) = 4 * i + 7
  u : ∀ i, role i ≠ 0 → U i
  lt : ∀ i, U i → i < w.heap.size
def all8 : Nat → Bool := fun _ => true
def StAt (w : World) (U : Nat → Prop) (g : Nat) (σ : St) : Prop := ∃ ab cap m sb qb rb cb role, StIn w U g σ all8 ab cap m sb qb rb cb role
def Gr (U : Nat → Prop) (w w' : World) (i : Nat) : Prop := U i ∨ (w.heap.size ≤ i ∧ i < w'.heap.size)

section
variable {w w' : World} {U U' S : Nat → Prop} {g : Nat} {σ : St} {there : Nat → Bool} {ab cap m : Nat} {sb qb rb cb : Nat → Nat} {role : Nat → Nat}
theorem StIn.ug (h : StIn w U g σ there ab cap m sb qb rb cb role) : U g := h.u g (by rw [h.rg]; omega)
theorem StIn.out (h : StIn w U g σ there ab cap m sb qb rb cb role) (ho : Out S w w') (hS : ∀ i, U i → ¬ S i) : StIn w' U g σ there ab cap m sb qb rb cb role := by
  obtain ⟨cs, n1, n2⟩ := h.nd
  refine ⟨h.ok, ho.blk h.blk (hS g h.ug), ⟨cs, ho.blk n1 (hS ab (h.u _ (by rw [h.ra]; omega))), n2⟩, h.num.out ho (hS m (h.u _ (by rw [h.rm]; omega))), fun i hi ht => ?_, h.rg, h.ra, h.rm, h.rs, h.u, fun i hi => Nat.lt_of_lt_of_le (h.lt i hi) ho.size⟩
  obtain ⟨r1, r2, r3, r4⟩ := h.rs i hi ht
  exact (h.s i hi ht).out ho (hS _ (h.u _ (by omega))) (hS _ (h.u _ (by omega))) (hS _ (h.u _ (by omega))) (hS _ (h.u _ (by omega)))
theorem StIn.below (h : StIn w U g σ there ab cap m sb qb rb cb role) (hb : Below w.heap.size w w') : StIn w' U g σ there ab cap m sb qb rb cb role :=
  h.out (S := fun i => w.heap.size ≤ i) (Out.ofBelow _ hb) fun i hi => by have := h.lt i hi; omega
theorem StIn.wide (h : StIn w U g σ there ab cap m sb qb rb cb role) (hU : ∀ i, U i → U' i) (hlt : ∀ i, U' i → i < w.heap.size) : StIn w U' g σ there ab cap m sb qb rb cb role :=
  ⟨h.ok, h.blk, h.nd, h.num, h.s, h.rg, h.ra, h.rm, h.rs, fun i hi => hU i (h.u i hi), hlt⟩
theorem StAt.out (h : StAt w U g σ) (ho : Out S w w') (hS : ∀ i, U i → ¬ S i) : StAt w' U g σ := let ⟨a, b, c, d, e, f, k, l, h⟩ := h; ⟨a, b, c, d, e, f, k, l, h.out ho hS⟩
theorem StAt.below (h : StAt w U g σ) (hb : Below w.heap.size w w') : StAt w' U g σ := let ⟨a, b, c, d, e, f, k, l, h⟩ := h; ⟨a, b, c, d, e, f, k, l, h.below hb⟩
theorem StAt.wide (h : StAt w U g σ) (hU : ∀ i, U i → U' i) (hlt : ∀ i, U' i → i < w.heap.size) : StAt w U' g σ := let ⟨a, b, c, d, e, f, k, l, h⟩ := h; ⟨a, b, c, d, e, f, k, l, h.wide hU hlt⟩
theorem StAt.ok (h : StAt w U g σ) : σ.ok := let ⟨a, b, c, d, e, f, k, l, h⟩ := h; h.ok
theorem StAt.lt (h : StAt w U g σ) : ∀ i, U i → i < w.heap.size := let ⟨a, b, c, d, e, f, k, l, h⟩ := h; h.lt
theorem StAt.ug (h : StAt w U g σ) : U g := let ⟨a, b, c, d, e, f, k, l, h⟩ := h; h.ug
/-- One number is another one now. -/
theorem StIn.set (h : StIn w U g σ all8 ab cap m sb qb rb cb role) {i : Nat} (hi : i < 8) (ho : Out S w w') (hS : ∀ b, S b → b = sb i ∨ b = qb i ∨ b = rb i ∨ b = cb i) {x : Sq} (hx : x.ok) (hs : SqAt w' (sb i) (qb i) (rb i) (cb i) σ.ns x) :
    StIn w' U g (σ.set i x) all8 ab cap m sb qb rb cb role := by
  obtain ⟨cs, n1, n2⟩ := h.nd
  obtain ⟨r1, r2, r3, r4⟩ := h.rs i hi rfl
  have hr : ∀ b, S b → 4 * i + 4 ≤ role b ∧ role b ≤ 4 * i + 7 := fun b hb => by
    rcases hS b hb with e | e | e | e <;> subst e <;> omega
  refine ⟨set_ok h.ok i hx, ho.blk h.blk fun e => ?_, ⟨cs, ho.blk n1 fun e => ?_, n2⟩, h.num.out ho fun e => ?_, fun j hj ht => ?_, h.rg, h.ra, h.rm, h.rs, h.u, fun j hj => Nat.lt_of_lt_of_le (h.lt j hj) ho.size⟩
  · have := hr _ e; have := h.rg; omega
  · have := hr _ e; have := h.ra; omega
  · have := hr _ e; have := h.rm; omega
  · show SqAt w' (sb j) (qb j) (rb j) (cb j) σ.ns (if j = i then x else σ.s j)
    by_cases e : j = i
    · subst e; rw [if_pos rfl]; exact hs
    · rw [if_neg e]
      obtain ⟨q1, q2, q3, q4⟩ := h.rs j hj ht
      refine (h.s j hj ht).out ho (fun k => ?_) (fun k => ?_) (fun k => ?_) (fun k => ?_)
      all_goals (have := hr _ k; omega)
theorem StIn.arg (h : StIn w U g σ there ab cap m sb qb rb cb role) : ArgI w (some ⟨ab, 0, none⟩) σ.ns.length cap σ.ns := by
  obtain ⟨cs, n1, n2, n3, n4⟩ := h.nd
  refine ⟨rfl, n3, n4, ⟨by rw [cis_length, Nat.mul_one], fun hn => ⟨ab, 0, rfl, n1.lt, fun j u hu => ?_⟩⟩, fun x hx => ?_⟩
  · rw [Nat.zero_add]
    refine n1.cell ?_
    rw [← n2, List.getElem?_take] at hu
    split at hu
    · exact hu
    · cases hu
  · have := h.ok.rng x hx
    show (Lit.int .i64 x).wf = true
    simp [Lit.wf, IntKind.min, IntKind.max, IntKind.signed, IntKind.bits]; omega
end

theorem nums_at (low : Int) (sb : Nat → Nat) (there : Nat → Bool) (seq : Int) :
    lk (nums low sb there) seq = if low < seq ∧ seq ≤ low + 8 then (if there (seq - low - 1).toNat then some (sb (seq - low - 1).toNat) else none) else none := by
  have hn : ((nums low sb there).map Prod.fst).Nodup := by
    unfold nums
    rw [List.nodup_iff_pairwise_ne, List.pairwise_map, List.pairwise_filterMap]
    refine (List.nodup_iff_pairwise_ne.1 (List.nodup_range (n := 8))).imp fun {a b} hab x hx y hy => ?_
    split at hx <;> split at hy <;> simp at hx hy
    obtain ⟨rfl, _⟩ := hx
    obtain ⟨rfl, _⟩ := hy
    simp only; omega
  by_cases h : low < seq ∧ seq ≤ low + 8
  · rw [if_pos h]
    by_cases ht : there (seq - low - 1).toNat = true
    · rw [if_pos ht]
      refine lk_mem hn ?_
      unfold nums
      rw [List.mem_filterMap]
      refine ⟨(seq - low - 1).toNat, by simp; omega, ?_⟩
      rw [if_pos ht]
      congr 2
      omega
    · rw [if_neg ht]
      cases e : lk (nums low sb there) seq with
      | none => rfl
      | some b =>
        have := lk_some e
        unfold nums at this
        rw [List.mem_filterMap] at this
        obtain ⟨i, hi, e2⟩ := this
        split at e2
        · rename_i h3
          injection e2 with e2
          injection e2 with e2 e3
          have : i = (seq - low - 1).toNat := by omega
          rw [this] at h3
          exact absurd h3 ht
        · cases e2
  · rw [if_neg h]
    cases e : lk (nums low sb there) seq with
    | none => rfl
    | some b =>
      have := lk_some e
      unfold nums at this
      rw [List.mem_filterMap] at this
      obtain ⟨i, hi, e2⟩ := this
      split at e2
      · injection e2 with e2
        injection e2 with e2 e3
        simp at hi
        omega
      · cases e2
theorem nums_idx (σ : St) (sb : Nat → Nat) (seq : Int) : lk (nums σ.low sb all8) seq = (idx σ seq).map sb := by
  rw [nums_at]
  unfold idx all8
  split <;> simp
end Go.Proofs.Ytmdgcimjmmnbjaa

namespace Go.Proofs.Ytmdgcimjmmnbjaa
open Go.RowKit Go.Maps
set_option linter.unusedVariables false
set_option linter.unusedSimpArgs false

theorem load_mid_g {P : Program} {ops : Array Oper} {rest : List Oper} {o : Oper} {a : Act} {w : World} {Q : Exit → Act → World → Prop} (hw : Region.wanted o (yielded ops a.tmps) = true) (ty : TypeId) (x : Operand) (ho : o.op = .load ty x)
    (b k : Nat) (hx : a.eval x = .pointer (some ⟨b, k, none⟩)) (cs : List Value) (d : TypeDesc) (hc : w.rangeAt b k cs)
    (hu : P.underlying ty = some d) (hd : d.isRow = true) (hi : (P.info? ty).map (·.size) = some cs.length)
    (h : wpList P ops Q rest (a.put o.dst (.agg cs.toArray)) w) : wpList P ops Q (o :: rest) a w :=
  wpList_step fun K hK => by rw [if_pos hw]; exact wp_load_mid ty x ho b k hx cs d hc hu hd hi (hK _ _ h)

theorem wf_b {x : Int} (h0 : -9223372036854775808 ≤ x) (h1 : x ≤ 9223372036854775807) : Wf x := by
  show (Lit.int .i64 x).wf = true
  simp [Lit.wf, IntKind.min, IntKind.max, IntKind.signed, IntKind.bits]; omega

section
variable {w : World} {U : Nat → Prop} {g : Nat} {σ : St} {there : Nat → Bool} {ab cap m : Nat} {sb qb rb cb : Nat → Nat} {role : Nat → Nat}
set_option maxRecDepth 100000 in
theorem none_in (h : StIn w U g σ there ab cap m sb qb rb cb role) : Calls Try.prog 38 #[.pointer (some ⟨g, 0, none⟩)] w fun e w' => e = .returned (.bool false) ∧ w' = w := by
  have c3 := h.blk.cell (i := 3) rfl
  have he := run_eql_map_nil (P := Try.prog) w 70 _ _ (some m) Try.underlying70
  clear h
  go_enter Try.func38, Try.ntmps38
  go_wp2
  go_ret
  exact ⟨rfl, rfl⟩
set_option maxRecDepth 100000 in
theorem isView_any (v : Int) (b : Bool) (hb : viewB v = b) (w : World) : Calls Try.prog 39 #[.int .i64 v] w fun e w' => e = .returned (.bool b) ∧ w' = w := by
  subst hb
  unfold viewB
  by_cases h0 : 0 ≤ v
  · by_cases h1 : v ≤ 1048576
    · rw [decide_eq_true h0, decide_eq_true h1]
      go_enter Try.func39, Try.ntmps39
      go_wp2
      go_ret
      exact ⟨rfl, rfl⟩
    · rw [decide_eq_true h0, decide_eq_false h1]
      go_enter Try.func39, Try.ntmps39
      go_wp2
      go_ret
      exact ⟨rfl, rfl⟩
  · rw [decide_eq_false h0]
    go_enter Try.func39, Try.ntmps39
    go_wp2
    go_ret
    exact ⟨rfl, rfl⟩
theorem of_in (h : StIn w U g σ all8 ab cap m sb qb rb cb role) {seq : Int} (hs : Wf seq) : Calls Try.prog 28 #[.pointer (some ⟨g, 0, none⟩), .int .i64 seq] w fun e w' => e = .returned (.pointer ((idx σ seq).map fun i => ⟨sb i, 0, none⟩)) ∧ w' = w := by
  have c3 := h.blk.cell (i := 3) rfl
  have hl : (Instr.lookup 70 (.map (some m)) (.int .i64 seq) false).run Try.prog w = .ok (.pointer ((idx σ seq).map fun i => ⟨sb i, 0, none⟩)) w := by
    have := h.num.look Try.underlying70 (z := .pointer none) (by kernel_rfl) (a := seq) hs
    rw [nums_idx] at this
    refine this.trans ?_
    cases idx σ seq <;> rfl
  have H := Lib.hid h
  clear h hs
  generalize (idx σ seq).map _ = p at *
  go_enter Try.func28, Try.ntmps28
  go_wp2_with (go_at_call 38; refine (none_in H.out).mono ?_; rintro e w' ⟨rfl, rfl⟩)
  go_ret
  exact ⟨rfl, rfl⟩
end

set_option maxRecDepth 100000 in
theorem mayFollow_any {now : Vt} {last : Option Vt} (h1 : now.ok) (h2 : okO last) (w : World) (r : Int) (hr : fol last now = r) :
    Calls Try.prog 40 #[syA (some now), syA last] w fun e w' => e = .returned (.int .i64 r) ∧ Below w.heap.size w w' := by
  have ho : okO (some now) := fun x hx => by injection hx with hx; rw [← hx]; exact h1
  have e0 := fun w => eq_say h2 (show okO none by simp [okO]) w
  have e1 := fun w => eq_say h2 ho w
  have l1 := sy_len ho
  have l2 := sy_len h2
  have c1 : (sy (some now))[1]? = some (.int .i64 now.v) := rfl
  have c2 : (sy last)[1]? = some (.int .i64 ((last.map Vt.v).getD 0)) := rfl
  have hf : fol last now = if last = none then 0 else if now.v < (last.map Vt.v).getD 0 then 190 else if (last.map Vt.v).getD 0 = now.v ∧ last ≠ some now then 151 else 0 := by
    cases last with
    | none => rfl
    | some x =>
      obtain ⟨v, d⟩ := x
      obtain ⟨v', d'⟩ := now
      simp only [fol, Option.map_some, Option.getD_some, reduceCtorEq, if_false, ne_eq, Option.some.injEq, Vt.mk.injEq, not_and]
      by_cases h1 : v' < v
      · simp [h1]
      · by_cases h2 : v = v'
        · simp [h2]
        · simp [h2]
  rw [hf] at hr
  clear hf h1 h2 ho
  unfold syA at *
  generalize (last.map Vt.v).getD 0 = x at *
  generalize now.v = y at *
  generalize hZ : sy none = Z at *
  generalize sy (some now) = C1 at *
  generalize sy last = C2 at *
  have hb : Try.prog.built 64 [] = some Z.toArray := by rw [← hZ]; exact say_built0
  clear hZ
  have hB1 : Blk (w.alloc (.cells C1.toArray 64)) w.heap.size 64 C1 := Blk.new rfl rfl
  have hB2 : Blk ((w.alloc (.cells C1.toArray 64)).alloc (.cells C2.toArray 64)) (w.heap.size + 1) 64 C2 := Blk.new rfl (by simp)
  have hB1' : Blk ((w.alloc (.cells C1.toArray 64)).alloc (.cells C2.toArray 64)) w.heap.size 64 C1 := hB1.old _
  have k1 := hB1'.cell c1
  have k2 := hB2.cell c2
  have hbel : Below w.heap.size w ((w.alloc (.cells C1.toArray 64)).alloc (.cells C2.toArray 64)) := ((Below.refl _ _).alloc (Nat.le_refl _) _).alloc (by simp) _
  have HR := Lib.hid (And.intro hB1'.range (And.intro hB2.range (And.intro (show (Try.prog.info? 64).map (·.size) = some C1.length by rw [l1]; exact say_info) (show (Try.prog.info? 64).map (·.size) = some C2.length by rw [l2]; exact say_info))))
  have HB := Lib.hid (And.intro hb hbel)
  have HR2 := Lib.hid hr
  clear hB1 hB2 hB1' hb l1 l2 c1 c2 hbel hr
  have hlast : Hid (∃ a b : Bool, (∀ w, (Op.equalIn 10000 64 (.agg C2.toArray) (.agg Z.toArray)).run Try.prog w = .ok a w) ∧ (∀ w, (Op.equalIn 10000 64 (.agg C2.toArray) (.agg C1.toArray)).run Try.prog w = .ok b w) ∧ (if a then 0 else if y < x then 190 else if x = y ∧ b = false then 151 else 0 : Int) = r) :=
    Lib.hid ⟨_, _, e0, e1, by rw [← HR2.out]; by_cases h1 : last = none <;> by_cases h2 : last = some now <;> simp [h1, h2]⟩
  clear e0 e1 HR2
  obtain ⟨a, b, e0, e1, hr⟩ := hlast.out
  clear hlast
  cases a with
  | true =>
    simp only [if_true] at hr
    subst hr
    go_enter Try.func40, Try.ntmps40
    go_wp2_with (first
      | (refine load_mid_g rfl 64 _ rfl (w.heap.size + 1) 0 rfl C2 _ HR.out.2.1 Try.underlying64 rfl HR.out.2.2.2 ?_; simp only [Act.put])
      | (refine load_mid_g rfl 64 _ rfl w.heap.size 0 rfl C1 _ HR.out.1 Try.underlying64 rfl HR.out.2.2.1 ?_; simp only [Act.put])
      | (refine wpList_build_g rfl 64 _ rfl Z.toArray HB.out.1 ?_; simp only [Act.put]))
    go_ret
    exact ⟨rfl, HB.out.2⟩
  | false =>
    simp only [Bool.false_eq_true, if_false] at hr
    by_cases h1 : y < x
    · rw [if_pos h1] at hr
      subst hr
      have h2 : ¬ x < y := by omega
      go_enter Try.func40, Try.ntmps40
      go_wp2_with (first
        | (refine load_mid_g rfl 64 _ rfl (w.heap.size + 1) 0 rfl C2 _ HR.out.2.1 Try.underlying64 rfl HR.out.2.2.2 ?_; simp only [Act.put])
        | (refine load_mid_g rfl 64 _ rfl w.heap.size 0 rfl C1 _ HR.out.1 Try.underlying64 rfl HR.out.2.2.1 ?_; simp only [Act.put])
        | (refine wpList_build_g rfl 64 _ rfl Z.toArray HB.out.1 ?_; simp only [Act.put]))
      go_ret
      exact ⟨rfl, HB.out.2⟩
    · by_cases h2 : x < y
      · rw [if_neg h1, if_neg (by omega)] at hr
        subst hr
        go_enter Try.func40, Try.ntmps40
        go_wp2_with (first
          | (refine load_mid_g rfl 64 _ rfl (w.heap.size + 1) 0 rfl C2 _ HR.out.2.1 Try.underlying64 rfl HR.out.2.2.2 ?_; simp only [Act.put])
          | (refine load_mid_g rfl 64 _ rfl w.heap.size 0 rfl C1 _ HR.out.1 Try.underlying64 rfl HR.out.2.2.1 ?_; simp only [Act.put])
          | (refine wpList_build_g rfl 64 _ rfl Z.toArray HB.out.1 ?_; simp only [Act.put]))
        go_ret
        exact ⟨rfl, HB.out.2⟩
      · cases b with
        | true =>
          rw [if_neg h1, if_neg (by simp)] at hr
          subst hr
          go_enter Try.func40, Try.ntmps40
          go_wp2_with (first
            | (refine load_mid_g rfl 64 _ rfl (w.heap.size + 1) 0 rfl C2 _ HR.out.2.1 Try.underlying64 rfl HR.out.2.2.2 ?_; simp only [Act.put])
            | (refine load_mid_g rfl 64 _ rfl w.heap.size 0 rfl C1 _ HR.out.1 Try.underlying64 rfl HR.out.2.2.1 ?_; simp only [Act.put])
            | (refine wpList_build_g rfl 64 _ rfl Z.toArray HB.out.1 ?_; simp only [Act.put]))
          go_ret
          exact ⟨rfl, HB.out.2⟩
        | false =>
          have h3 : x = y := by omega
          rw [if_neg h1, if_pos ⟨h3, rfl⟩] at hr
          subst hr
          go_enter Try.func40, Try.ntmps40
          go_wp2_with (first
            | (refine load_mid_g rfl 64 _ rfl (w.heap.size + 1) 0 rfl C2 _ HR.out.2.1 Try.underlying64 rfl HR.out.2.2.2 ?_; simp only [Act.put])
            | (refine load_mid_g rfl 64 _ rfl w.heap.size 0 rfl C1 _ HR.out.1 Try.underlying64 rfl HR.out.2.2.1 ?_; simp only [Act.put])
            | (refine wpList_build_g rfl 64 _ rfl Z.toArray HB.out.1 ?_; simp only [Act.put]))
          go_ret
          exact ⟨rfl, HB.out.2⟩
end Go.Proofs.Ytmdgcimjmmnbjaa

namespace Go.Proofs.Ytmdgcimjmmnbjaa
open Go.RowKit Go.Maps
set_option linter.unusedVariables false
set_option linter.unusedSimpArgs false

theorem Blk.rangeFrom {w : World} {g : Nat} {t : TypeId} {cs C : List Value} {o n : Nat} (h : Blk w g t cs) (e : (cs.drop o).take n = C) : w.rangeAt g o C := fun j v hv => by
  refine h.cell ?_
  rw [← e, List.getElem?_take] at hv
  split at hv
  · rw [List.getElem?_drop] at hv; exact hv
  · cases hv
theorem Out.setCells {S : Nat → Prop} {a : World} {g : Nat} (vs : List Value) (hg : g < a.heap.size → S g) : ∀ {w : World} {o : Nat}, Out S a w → Out S a (w.setCells g o vs) := by
  induction vs with
  | nil => intro w o h; exact h
  | cons v vs ih =>
    intro w o h
    rw [World.setCells]
    exact ih (h.setCell hg v)
theorem mid_put {a b c x : List Value} (ha : a.length = 34) (hb : b.length = 34) : (a ++ b ++ c).take 34 ++ x ++ (a ++ b ++ c).drop (34 + 34) = a ++ x ++ c := by
  rw [List.append_assoc a b c, List.take_append_of_le_length (by omega), List.take_of_length_le (by omega), ← List.append_assoc a b c, List.drop_append_of_le_length (by rw [List.length_append]; omega), List.drop_of_length_le (by rw [List.length_append]; omega), List.nil_append]
theorem first_put {a b c x : List Value} (ha : a.length = 34) : (a ++ b ++ c).take 0 ++ x ++ (a ++ b ++ c).drop (0 + 34) = x ++ b ++ c := by
  rw [List.take_zero, List.nil_append, List.append_assoc a b c, Nat.zero_add, List.drop_append_of_le_length (by omega), List.drop_of_length_le (by omega), List.nil_append, List.append_assoc]
/-- A row of cells laid into a variable just made. -/
theorem row_local (w1 : World) (T : TypeId) (Z C : List Value) (hl : C.length = Z.length) (hi : (Try.prog.info? T).map (·.size) = some Z.length) : ∃ wS, (w1.alloc (.cells Z.toArray T)).setCells w1.heap.size 0 C = wS ∧
    ((w1.alloc (.cells Z.toArray T)).there w1.heap.size 0 C.toArray.size ∧ (Try.prog.info? T).map (·.size) = some C.toArray.size) ∧
    Blk wS w1.heap.size T C ∧ Below w1.heap.size w1 wS ∧ wS.heap.size = w1.heap.size + 1 := by
  have hB : Blk (w1.alloc (.cells Z.toArray T)) w1.heap.size T Z := Blk.new rfl rfl
  have hs : C.toArray.size = Z.length := by rw [List.size_toArray]; exact hl
  refine ⟨_, rfl, ⟨?_, ?_⟩, ?_, ?_, ?_⟩
  · rw [hs]; exact hB.there
  · rw [hs]; exact hi
  · exact hB.setAll (vs := C) hl
  · exact Below.setCells (by omega) _ ((Below.refl _ _).alloc (Nat.le_refl _) _)
  · rw [size_cells, World.size_alloc]

set_option maxRecDepth 100000 in
theorem votes_any {w : World} {rb : Nat} {ns : List Int} {f : Int → Option Vt} (h : MapT intK sayV w rb (vts ns f)) (hf : ∀ n, okO (f n)) {x : Vt} (hx : x.ok) (hl : ns.length ≤ 1000) (c : Nat) (hc : cntV ns f x = c) :
    Calls Try.prog 30 #[.map (some rb), syA (some x)] w fun e w' => e = .returned (.int .i64 (c : Int)) ∧ Below w.heap.size w w' := by
  have ho : okO (some x) := fun y hy => by injection hy with hy; rw [← hy]; exact hx
  have hcb : c ≤ 1000 := by rw [← hc]; exact Nat.le_trans List.countP_le_length hl
  have hcnt : (vts ns f).countP (fun p => decide (p.2 = x)) = c := by rw [vts_count, hc]
  have hall : ∀ p ∈ vts ns f, okO (some p.2) := fun p hp => by
    have := (vts_mem.1 (show (p.1, p.2) ∈ _ from hp)).2
    intro y hy; exact hf p.1 y (by rw [this, hy])
  clear hc
  generalize vts ns f = L at *
  have l1 : (sy (some x)).length = (sy none).length := by rw [sy_len ho]; rfl
  have hB0 : Blk (w.alloc (.cells (sy (some x)).toArray 64)) w.heap.size 64 (sy (some x)) := Blk.new rfl rfl
  have hm0 : MapT intK sayV (w.alloc (.cells (sy (some x)).toArray 64)) rb L := h.below (Below.heap_alloc w _ |> fun k => ⟨rfl, rfl, rfl, by simp, k⟩) h.lt
  have hb0 : Below w.heap.size w (w.alloc (.cells (sy (some x)).toArray 64)) := (Below.refl _ _).alloc (Nat.le_refl _) _
  have H := Lib.hid (And.intro hB0 (And.intro hb0 (And.intro hcnt (And.intro hall (And.intro ho l1)))))
  have Hm := Lib.hid hm0
  clear h hB0 hb0 hcnt hall l1 ho hm0
  go_enter Try.func30, Try.ntmps30
  go_wp2_with (first
    | (at_range; refine wpList_range_T _ rfl _ 66 _ rfl Try.underlying66 rfl Hm.out ?_; intro w0 hrg0 hb1 hs0)
    | go_in)
  go_frame
  have hsz : (w.alloc (.cells (sy (some x)).toArray 64)).heap.size = w.heap.size + 1 := by simp
  rw [hsz] at hrg0 hb1 hs0 ⊢
  have hB1 : Blk w0 w.heap.size 64 (sy (some x)) := H.out.1.below hb1 (by omega)
  have hb2 : Below w.heap.size w w0 := H.out.2.1.trans (hb1.mono (by omega))
  have HL := Lib.hid (And.intro hrg0 (And.intro hB1 hb2))
  clear hrg0 hB1 hb2 hb1 hs0 hsz Hm
  go_loopw [5] (fun v5 wr => ∃ (todo : List (Int × Vt)) (k : Nat), v5 = .int .i64 (k : Int) ∧ k + todo.countP (fun p => decide (p.2 = x)) = c ∧ RangeT intK sayV wr rb (w.heap.size + 1) L todo ∧ Blk wr w.heap.size 64 (sy (some x)) ∧ Below w.heap.size w wr)
    (fun _ wr => wr.rangeLeft rb (w.heap.size + 1))
  case atStart => exact ⟨L, 0, rfl, by rw [H.out.2.2.1]; omega, HL.out.1, HL.out.2.1, HL.out.2.2⟩
  case round =>
    obtain ⟨todo, k, rfl, hk, hrg, hB, hbel⟩ := hrel
    clear HL
    go_wp2_with (first
      | (at_next; refine wpList_next_T _ rfl _ rfl (Value.int .i64) (fun y => .agg (sy (some y)).toArray) (fun _ => rfl) (fun _ => rfl) rfl hrg ?_ ?_)
      | go_in)
    · intro h0
      subst h0
      have hkc : k = c := by simpa using hk
      subst hkc
      go_wp2
      go_ret
      exact ⟨rfl, hbel⟩
    · intro n y more w1 hp hm hok hrg1 hlt hout hsz hen
      have hoy := H.out.2.2.2.1 _ hm
      have hcount := hp.countP_eq (fun p => decide (p.2 = x))
      rw [List.countP_cons] at hcount
      have hB1 : Blk w1 w.heap.size 64 (sy (some x)) := hout.blk hB (by omega)
      have hbel1 : Below w.heap.size w w1 := hbel.trans (hout.above (fun i hi => by omega) hbel.size)
      obtain ⟨wS, hwS, ⟨hth, hi⟩, hbS, hbe, hsS⟩ := row_local w1 64 (sy none) (sy (some y)) (by rw [sy_len hoy]; rfl) say_info
      have hne : ¬ (w1.heap.size ≤ rb) := by have := hrg1.owns.lt; omega
      have hrg2 : RangeT intK sayV wS rb (w.heap.size + 1) L more := hrg1.out (S := fun i => w1.heap.size ≤ i) (Out.ofBelow _ hbe) hne (by have := hrg1.lt; omega)
      have hleft : wS.rangeLeft rb (w.heap.size + 1) = w1.rangeLeft rb (w.heap.size + 1) := hrg1.left_out (S := fun i => w1.heap.size ≤ i) (Out.ofBelow _ hbe) hne (by have := hrg1.lt; omega)
      have hB2 : Blk wS w.heap.size 64 (sy (some x)) := hB1.below hbe hB1.lt
      have hbel2 : Below w.heap.size w wS := hbel1.trans (hbe.mono hbel1.size)
      have heq := fun w => eq_say hoy H.out.2.2.2.2.1 w
      have hone : (sy (some y)).toArray.all (·.oneCell') = true := sy_one _
      have hly : (Try.prog.info? 64).map (·.size) = some (sy (some y)).length := say_infoL hoy
      have hlx : (Try.prog.info? 64).map (·.size) = some (sy (some x)).length := say_infoL H.out.2.2.2.2.1
      have hkc : k + 1 ≤ 1000000 := by omega
      have hd : decide (some y = some x) = decide (y = x) := by simp
      rw [hd] at heq
      have Hs := Lib.hid (And.intro hth (And.intro hi (And.intro hone (And.intro hbS.range (And.intro hB2.range (And.intro hly hlx))))))
      have HwS := Lib.hid hwS
      have HE := Lib.hid (And.intro hcount (And.intro hrg2 (And.intro hleft (And.intro hB2 (And.intro hbel2 (And.intro hlt hk))))))
      clear hB1 hbel1 hwS hth hi hbS hbe hsS hrg2 hleft hB2 hbel2 hone hly hlx hd hrg1 hlt hout hsz hp hm hok hoy hcount hB hbel hrg hne hk
      unfold syA at heq
      generalize hCy : sy (some y) = Cy at *
      generalize hCx : sy (some x) = Cx at *
      generalize hb : decide (y = x) = b at *
      cases b with
      | true =>
        go_wp2_with (first
          | (refine wpList_store_mid rfl 64 _ _ rfl w1.heap.size 0 Cy.toArray rfl rfl Hs.out.1 Hs.out.2.1 Hs.out.2.2.1 ?_; simp only [Act.put]; refine cast (congrArg (fun z => wpList _ _ _ _ _ z) HwS.out.symm) ?_)
          | (refine wpList_load_mid rfl 64 _ rfl w1.heap.size 0 rfl Cy _ Hs.out.2.2.2.1 Try.underlying64 rfl Hs.out.2.2.2.2.2.1 ?_; simp only [Act.put])
          | (refine wpList_load_mid rfl 64 _ rfl w.heap.size 0 rfl Cx _ Hs.out.2.2.2.2.1 Try.underlying64 rfl Hs.out.2.2.2.2.2.2 ?_; simp only [Act.put]))
        go_roundw
        case rel => exact ⟨more, k + 1, by go_num, by have h1 := HE.out.1; have h2 := HE.out.2.2.2.2.2.2; rw [if_pos rfl] at h1; omega, HE.out.2.1, (by rw [hCx]; exact HE.out.2.2.2.1), HE.out.2.2.2.2.1⟩
        case measure => rw [HE.out.2.2.1]; exact HE.out.2.2.2.2.2.1
      | false =>
        go_wp2_with (first
          | (refine wpList_store_mid rfl 64 _ _ rfl w1.heap.size 0 Cy.toArray rfl rfl Hs.out.1 Hs.out.2.1 Hs.out.2.2.1 ?_; simp only [Act.put]; refine cast (congrArg (fun z => wpList _ _ _ _ _ z) HwS.out.symm) ?_)
          | (refine wpList_load_mid rfl 64 _ rfl w1.heap.size 0 rfl Cy _ Hs.out.2.2.2.1 Try.underlying64 rfl Hs.out.2.2.2.2.2.1 ?_; simp only [Act.put])
          | (refine wpList_load_mid rfl 64 _ rfl w.heap.size 0 rfl Cx _ Hs.out.2.2.2.2.1 Try.underlying64 rfl Hs.out.2.2.2.2.2.2 ?_; simp only [Act.put]))
        go_roundw
        case rel => exact ⟨more, k, rfl, by have h1 := HE.out.1; have h2 := HE.out.2.2.2.2.2.2; rw [if_neg (by simp)] at h1; omega, HE.out.2.1, (by rw [hCx]; exact HE.out.2.2.2.1), HE.out.2.2.2.2.1⟩
        case measure => rw [HE.out.2.2.1]; exact HE.out.2.2.2.2.2.1
end Go.Proofs.Ytmdgcimjmmnbjaa
