/-
  Laid together for a hand-in: Pre9, In9, Lists, Cat9, None9, Leaf9, Bot9.
-/
import Derived.Test.YtfaeechidjpjbaaGreatZ15
import Derived.Test.YtfaeechidjpjbaaGreatZ01
import Derived.Test.YtfaeechidjpjbaaGreatZ14
import Derived.RangeFuncNested
import Derived.RangeFuncWrites
import Derived.RangeFuncBound
import Derived.RangeFuncCalls
import Derived.RangeFuncLeaves
import Derived.Shelf.Abstract
import Derived.Shelf.RegionOpen
import Derived.WalkKit
import Derived.OwnWalkIn
import Derived.TacticsInMore
import Derived.LoopNIn
import Derived.LoopIn
import Derived.Deep.Matrix
import Derived.Lib.AppendZeros
import Derived.Outline
import Derived.Deep.OwnRows
import Derived.Deep.DeepCutAuto

namespace Go.Proofs.YtfaeechidjpjbaaGreat

open Go.RowKit Go.Maps

set_option linter.unusedVariables false

def Lv.has (l : Lv) (i : Nat) : Prop := i = l.p ∨ i = l.m ∨ i = l.d ∨ i = l.e ∨ i = l.x ∨ i = l.y ∨ i = l.z

theorem Lv.turn_has {l : Lv} {i : Nat} (h : l.turn i) : l.has i := by
  rcases h with h | h | h
  · exact .inl h
  · exact .inr (.inr (.inl h))
  · exact .inr (.inr (.inr (.inl h)))

def TT (L : Nat → Lv) (n i : Nat) : Prop := ∃ j, j ≤ n ∧ (L j).turn i

def RR (R : Nat → Nat × Nat) (n i : Nat) : Prop := ∃ j, j ≤ n ∧ i = (R j).1

def mkOf (L : Nat → Lv) : Nat → Value
  | 0 => mkB (L 0)
  | n + 1 => mkA (L (n + 1))

/-- What a level's function has captured. -/
def Caps (w : World) (g many : Nat) (lf : Value) (L : Nat → Lv) : Nat → Prop
  | 0 => Blk w (L 0).x 3 [.int .i64 (many : Int)] ∧ Blk w (L 0).y 29 [.pointer (some ⟨g, 0, none⟩)] ∧ Blk w (L 0).z 131 [lf]
  | n + 1 => Blk w (L (n + 1)).x 148 [fnOf (L n)] ∧ Blk w (L (n + 1)).y 29 [.pointer (some ⟨g, 0, none⟩)]

structure Pre (B g bm : Nat) (s : Bk) (ls : List (List UInt8)) (lf : Value) (L : Nat → Lv) (n : Nat) (w : World) (N : Nat → Prop) : Prop where
  kb : Kb B w g bm s N
  hB : B ≤ w.heap.size
  un : ∀ i, i ≤ n → Un w (L i) (mkOf L i)
  caps : ∀ i, i ≤ n → Caps w g ls.length lf L i
  inN : ∀ i, i ≤ n → ∀ a, (L i).has a → N a
  ord : ∀ i j, i < j → j ≤ n → ∀ a b, (L i).has a → (L j).has b → a < b

structure Post (B g bm : Nat) (s : Bk) (ls : List (List UInt8)) (L : Nat → Lv) (n : Nat) (w : World) (N : Nat → Prop) (R : Nat → Nat × Nat) (w' : World) : Prop where
  dn : ∀ i, i ≤ n → Dn w' (L i) (R i).1 (R i).2 (lvl (lows ls) i)
  new : ∀ i, i ≤ n → w.heap.size ≤ (R i).1
  inc : ∀ i j, i < j → j ≤ n → (R i).1 < (R j).1
  kb : Kb B w' g bm (noteAll s (insTo ls n)) (fun i => N i ∨ RR R n i)
  out : Out (fun i => Tn B bm w N i ∨ TT L n i) w w'

def AskP (B g bm : Nat) (s : Bk) (ls : List (List UInt8)) (L : Nat → Lv) (n : Nat) (w : World) (N : Nat → Prop) (e : Ending) (w' : World) : Prop :=
  ∃ R : Nat → Nat × Nat, e = .returned (.tuple #[.slice (some ⟨(R n).1, 0, none⟩) (lvl (lows ls) n).length (R n).2, .int .i64 0]) ∧ Post B g bm s ls L n w N R w'

/-- Where the leaves stand: nothing of it turns. -/
structure Lf (B F : Nat) (caps : List Value) (ls : List (List UInt8)) (L : Nat → Lv) (n : Nat) (K : Nat → Prop) (w : World) (N : Nat → Prop) : Prop where
  at_ : LeafAt F caps w K ls
  kK : ∀ j, K j → j < w.heap.size ∧ (j < B ∨ N j) ∧ ∀ i, i ≤ n → ¬ (L i).turn j

def AskOK (B g bm : Nat) (s : Bk) (ls : List (List UInt8)) (F : Nat) (caps : List Value) (lf : Value) (L : Nat → Lv) (K : Nat → Prop) (n : Nat) : Prop :=
  ∀ (w : World) (N : Nat → Prop), Pre B g bm s ls lf L n w N → Lf B F caps ls L n K w N → Calls Tryz.prog 135 #[ptr (L n).p, ptr (L n).m, ptr (L n).d, ptr (L n).e] w (AskP B g bm s ls L n w N)

section

variable {B g bm F : Nat} {s : Bk} {ls : List (List UInt8)} {lf : Value} {caps : List Value} {L : Nat → Lv} {n : Nat} {w w' : World} {N N' K : Nat → Prop}

theorem Caps.stay {many : Nat} : ∀ {n : Nat}, Caps w g many lf L n → (∀ a, (L n).has a → w'.heap[a]? = w.heap[a]?) → Caps w' g many lf L n
  | 0, h, hk => ⟨(hk _ (by simp [Lv.has])).trans h.1, (hk _ (by simp [Lv.has])).trans h.2.1, (hk _ (by simp [Lv.has])).trans h.2.2⟩
  | n + 1, h, hk => ⟨(hk _ (by simp [Lv.has])).trans h.1, (hk _ (by simp [Lv.has])).trans h.2⟩

theorem Pre.below (h : Pre B g bm s ls lf L n w N) (hb : Below w.heap.size w w') (hN : ∀ i, N' i → N i ∨ (w.heap.size ≤ i ∧ i < w'.heap.size)) (hN2 : ∀ i, N i → N' i) : Pre B g bm s ls lf L n w' N' := by
  have e : ∀ i, i ≤ n → ∀ a, (L i).has a → w'.heap[a]? = w.heap[a]? := fun i hi a ha => hb.block a (h.kb.lt (h.inN i hi a ha))
  exact ⟨h.kb.belowN hb hN, Nat.le_trans h.hB hb.size, fun i hi => (h.un i hi).stay (e i hi _ (by simp [Lv.has])) (e i hi _ (by simp [Lv.has])) (e i hi _ (by simp [Lv.has])) (e i hi _ (by simp [Lv.has])),
    fun i hi => (h.caps i hi).stay (e i hi), fun i hi a ha => hN2 a (h.inN i hi a ha), h.ord⟩

theorem LeafAt.later (h : LeafAt F caps w K ls) (hs : Stays K w w') : LeafAt F caps w' K ls := fun w2 h2 => h w2 (hs.trans h2)

theorem Lf.below (h : Lf B F caps ls L n K w N) (hb : Below w.heap.size w w') (hN : ∀ i, N i → N' i) : Lf B F caps ls L n K w' N' :=
  ⟨h.at_.later ⟨hb.size, fun j hj => hb.block j (h.kK j hj).1⟩, fun j hj => ⟨Nat.lt_of_lt_of_le (h.kK j hj).1 hb.size, (h.kK j hj).2.1.imp id (hN j), (h.kK j hj).2.2⟩⟩

theorem insTo_take (ls : List (List UInt8)) (n : Nat) : (insTo ls n).length ≤ ls.length * (n + 1) + 1 := by
  induction n with
  | zero => simp [insTo]
  | succ n ih =>
    rw [insTo_succ, List.length_append, ups_len, lvl_len, lows_len]
    by_cases h : 1 ≤ ls.length
    · have := wid_le ls.length n h
      have := insTo_len ls h n
      have e : ls.length * (n + 1 + 1) = ls.length * (n + 1) + ls.length := by rw [Nat.mul_succ]
      omega
    · have h0 : ls = [] := List.eq_nil_of_length_eq_zero (by omega)
      have hw : wid ls.length n ≤ 0 := by
        clear ih
        induction n with
        | zero => rw [wid, h0]; exact Nat.le_refl _
        | succ n ih => rw [wid]; omega
      have e : ls.length * (n + 1 + 1) = ls.length * (n + 1) + ls.length := by rw [Nat.mul_succ]
      omega

end

end Go.Proofs.YtfaeechidjpjbaaGreat

namespace Go.Proofs.YtfaeechidjpjbaaGreat

open Go.RowKit Go.Maps Go.Shelf

set_option linter.unusedVariables false

attribute [local go_sem] Oper.semAt_some

section

variable {F : Fence} {n : Nat} {P : Program} {ops : Array Oper} {rest : List Oper} {o : Oper} {a : Act} {w : World} {Q : Exit → Act → World → Prop}

theorem in_exec (hgd : o.guard = none) (hnd : ∀ c, o.op ≠ .defer c) (hab : o.about P w a.eval = none) (v : Value) (w' : World) (hrun : (execOp a.eval o).run P w = .ok (.value v) w')
    (h : wpListIn F n P ops Q rest (a.put o.dst v) w') : wpListIn F n P ops Q (o :: rest) a w := by
  refine wpListIn_plain hgd fun K hK => ?_
  unfold Oper.wpIn
  refine ⟨fun f hf => (by rw [hab] at hf; cases hf), ?_⟩
  rw [Oper.semAt_plain F _ _ hnd, hrun]
  exact hK _ _ h

theorem in_skip (hgd : o.guard = none) (hnd : ∀ c, o.op ≠ .defer c) (hab : o.about P w a.eval = none) (w' : World) (hrun : (execOp a.eval o).run P w = .ok .skip w')
    (h : wpListIn F n P ops Q rest (a.put o.dst undef) w') : wpListIn F n P ops Q (o :: rest) a w := by
  refine wpListIn_plain hgd fun K hK => ?_
  unfold Oper.wpIn
  refine ⟨fun f hf => (by rw [hab] at hf; cases hf), ?_⟩
  rw [Oper.semAt_plain F _ _ hnd, hrun]
  exact hK _ _ h

theorem in_load (hgd : o.guard = none) (ty : TypeId) (x : Operand) (ho : o.op = .load ty x)
    (b k : Nat) (hx : a.eval x = .pointer (some ⟨b, k, none⟩)) (cs : List Value) (d : TypeDesc) (hc : w.rangeAt b k cs)
    (hu : P.underlying ty = some d) (hd : d.isRow = true) (hi : (P.info? ty).map (·.size) = some cs.length)
    (h : wpListIn F n P ops Q rest (a.put o.dst (.agg cs.toArray)) w) : wpListIn F n P ops Q (o :: rest) a w :=
  in_exec hgd (by rw [ho]; intro c hc; cases hc) (by unfold Oper.about; rw [ho]) _ _ (by
    unfold execOp
    simp only [ho, hx, Instr.loadAt, Instr.sureAddr, Sem.run_bind, Sem.run_pure, Result.andThen_ok, run_loadVar_mid w b k ty cs d hc hu hd hi]) h

theorem in_store (hgd : o.guard = none) (ty : TypeId) (x y : Operand) (ho : o.op = .store ty x y)
    (b k : Nat) (cells : Array Value) (hx : a.eval x = .pointer (some ⟨b, k, none⟩)) (hy : a.eval y = .agg cells)
    (ht : w.there b k cells.size) (hi : (P.info? ty).map (·.size) = some cells.size) (h1 : cells.all (·.oneCell') = true)
    (h : wpListIn F n P ops Q rest (a.put o.dst undef) (w.setCells b k cells.toList)) : wpListIn F n P ops Q (o :: rest) a w :=
  in_skip hgd (by rw [ho]; intro c hc; cases hc) (by unfold Oper.about; rw [ho]) _ (by
    unfold execOp
    simp only [ho, hx, hy, Instr.storeAt, Instr.sureAddr, Sem.run_bind, Sem.run_pure, Result.andThen_ok, run_storeVar_mid w b k ty cells ht hi h1]) h

theorem in_row (hgd : o.guard = none) (t : TypeId) (m : Nat) (parts : Array (Nat × Operand)) (ho : o.op = .buildSlice t m parts)
    (v : Value) (w' : World) (hrun : (Instr.buildSlice t m (parts.map fun p => (p.1, a.eval p.2))).run P w = .ok v w')
    (h : wpListIn F n P ops Q rest (a.put o.dst v) w') : wpListIn F n P ops Q (o :: rest) a w :=
  in_exec hgd (by rw [ho]; intro c hc; cases hc) (by unfold Oper.about; rw [ho]) _ _ (by
    have he' : (Instr.buildSlice t m (parts.map fun (i, x) => (i, a.eval x))).run P w = .ok v w' := hrun
    unfold execOp
    simp only [ho, Sem.run_bind, he', Result.andThen_ok, Sem.run_pure]) h

theorem in_app (hgd : o.guard = none) (s x : Operand) (t1 t2 : TypeId) (ho : o.op = .call { callee := .builtin .append, args := #[s, x], argTypes := #[t1, t2] })
    (v u v' : Value) (w' : World) (hs : a.eval s = v) (hx : a.eval x = u) (hrun : (Builtin.append_ #[t1, t2] o.type #[v, u]).run P w = .ok v' w')
    (h : wpListIn F n P ops Q rest (a.put o.dst v') w') : wpListIn F n P ops Q (o :: rest) a w :=
  in_exec hgd (by rw [ho]; intro c hc; cases hc) (by simp [Oper.about, ho, resolve, Target.leads, Sem.run_pure]) _ _ (by
    unfold execOp
    simp only [ho, resolve, invoke, builtin, Sem.run_bind, Sem.run_pure, Result.andThen_ok, List.map_toArray, List.map_cons, List.map_nil, hs, hx, hrun]) h

end

/-! ### slices.Chunk -/

abbrev Ch (n : Nat) := { j : Nat // 4 * j < n }

def chs (n : Nat) : List (Ch n) := (List.range ((n + 3) / 4)).pmap (fun j h => ⟨j, h⟩) (fun j hj => by rw [List.mem_range] at hj; omega)

theorem chs_len (n : Nat) : (chs n).length = (n + 3) / 4 := by simp [chs]

theorem chs_get (n k : Nat) (h : k < (chs n).length) : ((chs n)[k]).1 = k := by simp [chs]

theorem chs_step (n k : Nat) (h : k < (chs n).length) : (chs n).take (k + 1) = (chs n).take k ++ [(chs n)[k]] := List.take_succ_eq_append_getElem h

def chV (r n : Nat) (x : Ch n) : Value := .slice (some ⟨r, x.1 * 4 * 32, none⟩) (min 4 (n - 4 * x.1)) (min 4 (n - 4 * x.1))

/-- What a round keeps: the two boxes of the iterator. -/
def KpC (sb nb : Nat) (W W' : World) : Prop := W'.heap[sb]? = W.heap[sb]? ∧ W'.heap[nb]? = W.heap[nb]?

theorem sl_tail (r n c i q : Nat) (hq : q = n - i) (hi : i ≤ n) (hc : n ≤ c) : ∃ A' c', ∀ w, (Instr.sliceAt 144 (.slice (some ⟨r, 0, none⟩) n c) (some (.int .i64 (i : Int))) none none).run Tryz.prog w = .ok (.slice A' q c') w := by
  subst hq
  refine ⟨cutAt (some ⟨r, 0, none⟩) 32 i c, c - i, fun w => ?_⟩
  have h1 : (0 : Int) ≤ (i : Int) := by omega
  have h2 : (i : Int) ≤ (n : Int) := by omega
  go_simp
  unfold cutAt
  simp [Addr.add]
  try (split <;> simp_all)

theorem sl_four (r n c i e : Nat) (he : 1 ≤ e) (hc : i + e ≤ c) (w : World) : (Instr.sliceAt 144 (.slice (some ⟨r, 0, none⟩) n c) (some (.int .i64 (i : Int))) (some (.int .i64 ((i : Int) + (e : Int)))) (some (.int .i64 ((i : Int) + (e : Int))))).run Tryz.prog w = .ok (.slice (some ⟨r, i * 32, none⟩) e e) w := by
  have h1 : (0 : Int) ≤ (i : Int) := by omega
  have h2 : (i : Int) + (e : Int) ≤ (c : Int) := by omega
  have h3 : ((i : Int) + (e : Int)).toNat = i + e := by omega
  have h4 : i + e - i = e := by omega
  have h5 : (0 : Int) ≤ (i : Int) + (e : Int) := by omega
  have h6 : ¬ ((i : Int) + (e : Int) < 0) := by omega
  have h7 : (i : Int) ≤ (i : Int) + (e : Int) := by omega
  have h8 : ¬ (i + e = i) := by omega
  go_simp
  intro h; omega

set_option maxRecDepth 100000 in
set_option maxHeartbeats 2000000 in
theorem chunk1_in (F : Fence) (N : Nat) (hF : F.fn 140) (hro : F.round = none) (hN : 1 ≤ N) (l sb nb r n c : Nat) (hn : n ≤ 1024) (hnc : n ≤ c) (hc : c ≤ maxLen) (J Jx : List (Ch n) → World → Prop) (hJd : ∀ pre W, J pre W → J pre W.drew)
    (hY : ∀ pre x W, J pre W → pre.length < (chs n).length → YieldAt F (N - 1) Tryz.prog l #[chV r n x] W fun e W' =>
      (e = .returned (.bool true) ∧ J (pre ++ [x]) W' ∧ KpC sb nb W W') ∨ (e = .returned (.bool false) ∧ Jx (pre ++ [x]) W'))
    (W : World) (hs : W.heap[sb]? = some (.cells #[.slice (some ⟨r, 0, none⟩) n c] 144 (0, 0))) (hnb : W.heap[nb]? = some (.cells #[.int .i64 4] 3 (0, 0))) (h0 : J [] W) :
    CallsIn F N Tryz.prog 140 #[.func (.yield l) #[] #[], .pointer (some ⟨sb, 0, none⟩), .pointer (some ⟨nb, 0, none⟩)] W fun e W' => (∃ v, e = .returned v) ∧
      ((∃ ys, ys = chs n ∧ J ys W') ∨ (∃ pre, True ∧ Jx pre W')) := by
  have Hc := Lib.hid (And.intro hnc hc)
  refine callsIn_of_wp Tryz.func140 rfl hF ?_ hro
  simp only [Tryz.ntmps140, List.size_toArray, List.length_cons, List.length_nil, Nat.reduceAdd, Nat.reduceSub, Array.replicate_succ, Array.replicate_zero, List.push_toArray, List.append_toArray, List.nil_append, List.cons_append]
  gi_wp2
  gi_loopw [4, 5] (fun i _ wr => ∃ k : Nat, k ≤ (chs n).length ∧ i = .int .i64 ((4 * k : Nat) : Int) ∧ J ((chs n).take k) wr ∧ KpC sb nb W wr)
    (fun i _ _ => 2 * n + 8 - (intOf i).toNat)
  case atStart => exact ⟨0, Nat.zero_le _, rfl, h0, rfl, rfl⟩
  case round =>
    obtain ⟨k, hk, rfl, hJ, hKp⟩ := hrel
    have cs : wr.cell? ⟨sb, 0, none⟩ = some (.slice (some ⟨r, 0, none⟩) n c) := cell_of_row _ _ 0 _ _ _ (hKp.1.trans hs)
    have cn : wr.cell? ⟨nb, 0, none⟩ = some (.int .i64 4) := cell_of_row _ _ 0 _ _ _ (hKp.2.trans hnb)
    have hl := chs_len n
    by_cases hlt : k < (chs n).length
    · obtain ⟨x, hx⟩ : ∃ x, (chs n)[k] = x := ⟨_, rfl⟩
      have hx1 : x.1 = k := by rw [← hx]; exact chs_get n k hlt
      have hst := chs_step n k hlt
      rw [hx] at hst
      obtain ⟨fn, tmps, assign, body, hy, hR⟩ := hY _ x wr.drew (hJd _ _ hJ) (by rw [List.length_take]; omega)
      obtain ⟨i, hi⟩ : ∃ i, 4 * k = i := ⟨_, rfl⟩
      obtain ⟨q, hq⟩ : ∃ q, q = n - i := ⟨_, rfl⟩
      obtain ⟨e, he⟩ : ∃ e, min 4 q = e := ⟨_, rfl⟩
      have hcv : chV r n x = .slice (some ⟨r, i * 32, none⟩) e e := by
        unfold chV; rw [hx1, hi, ← hq, he, show k * 4 = i by omega]
      rw [hcv] at hy
      have hin : i < n := by have := x.2; omega
      obtain ⟨A', c', hs1⟩ := sl_tail r n c i q hq (by omega) Hc.out.1
      have hs3 := fun w => sl_four r n c i e (by omega) (by have := Hc.out.1; omega) w
      have hmin : ∀ ts t w, (Builtin.min_ ts t #[.int .i64 4, .int .i64 (q : Int)]).run Tryz.prog w = .ok (.int .i64 (e : Int)) w := fun ts t w => by
        rw [run_min_int2]; congr 2; split <;> omega
      have Hst := Lib.hid hst
      have H := Lib.hid (And.intro hx1 (And.intro hi (And.intro hq (And.intro he (And.intro hl hKp)))))
      have b1 : (i : Int) < (n : Int) := by omega
      have b2 : (e : Int) ≤ 4 := by omega
      have b3 : 0 ≤ (e : Int) := by omega
      have b4 : i ≤ 1024 := by omega
      rw [hi]
      clear hst hx1 hq he hl hKp hx hcv hJ hi
      gi_wp2
      gi_region
      all_goals gi_wp2
      all_goals (refine hR.mono ?_; rintro e' W3 (⟨rfl, hJ3, hk3⟩ | ⟨rfl, hJx3⟩))
      all_goals first
        | (have hKp3 : KpC sb nb W W3 := ⟨hk3.1.trans H.out.2.2.2.2.2.1, hk3.2.trans H.out.2.2.2.2.2.2⟩
           have cn3 : W3.cell? ⟨nb, 0, none⟩ = some (.int .i64 4) := cell_of_row _ _ 0 _ _ _ (hKp3.2.trans hnb)
           gi_wp2
           go_roundw
           case rel => exact ⟨k + 1, by omega, by have := H.out.2.1; congr 1; omega, by rw [Hst.out]; exact hJ3, hKp3⟩
           case measure => simp [intOf]; omega)
        | (gi_wp2
           refine bodyPost_ret (results_none rfl _ _ _) rfl ?_
           exact ⟨⟨_, rfl⟩, .inr ⟨_, trivial, hJx3⟩⟩)
    · obtain rfl : k = (chs n).length := by omega
      have hge : n ≤ 4 * (chs n).length := by omega
      rw [List.take_length] at hJ
      have HJ := Lib.hid (And.intro hJ hge)
      generalize 4 * (chs n).length = i at *
      have b1 : ¬ (i : Int) < (n : Int) := by omega
      clear hJ hl
      gi_wp2
      go_end0
      exact ⟨⟨_, rfl⟩, .inl HJ.out.1⟩

end Go.Proofs.YtfaeechidjpjbaaGreat

namespace Go.Proofs.YtfaeechidjpjbaaGreat

open Go.ChangeShapes Go.WideShapes Go.ChangeAt Go.RowKit

set_option linter.unusedVariables false

/-- The slice 'A' of ls.length elements shows the byte slices 'ls'. -/
def Lss (w : World) (A : Option Addr) (ls : List (List UInt8)) : Prop :=
  ls ≠ [] → ∃ b off, A = some ⟨b, off, none⟩ ∧ b < w.heap.size ∧ ∀ j (hj : j < ls.length), ∃ Aj cj, w.cell? ⟨b, off + j, none⟩ = some (.slice Aj ls[j].length cj) ∧ ls[j].length ≤ cj ∧ cj ≤ maxLen ∧ Bs w Aj ls[j]

theorem Lss.after {w w' : World} {A : Option Addr} {ls : List (List UInt8)} (hb : Below w.heap.size w w') (h : Lss w A ls) : Lss w' A ls := fun hn => by
  obtain ⟨b, off, e, hlt, hc⟩ := h hn
  refine ⟨b, off, e, Nat.lt_of_lt_of_le hlt hb.size, fun j hj => ?_⟩
  obtain ⟨Aj, cj, h1, h2, h3, h4⟩ := hc j hj
  exact ⟨Aj, cj, (hb.cell hlt).trans h1, h2, h3, h4.after hb⟩

/-- Element j: where its header stands, and what it shows. -/
theorem Lss.at_ {w : World} {A : Option Addr} {ls : List (List UInt8)} (h : Lss w A ls) {j : Nat} (hj : j < ls.length) :
    ∃ b off Aj cj, A = some ⟨b, off, none⟩ ∧ b < w.heap.size ∧ w.cell? ⟨b, off + j, none⟩ = some (.slice Aj ls[j].length cj) ∧ ls[j].length ≤ cj ∧ cj ≤ maxLen ∧ Bs w Aj ls[j] := by
  obtain ⟨b, off, e, hlt, hc⟩ := h (fun e => by rw [e] at hj; simp at hj)
  obtain ⟨Aj, cj, h1, h2, h3, h4⟩ := hc j hj
  exact ⟨b, off, Aj, cj, e, hlt, h1, h2, h3, h4⟩

def ArgL (w : World) (A : Option Addr) (n c : Nat) (ls : List (List UInt8)) : Prop := ls.length = n ∧ n ≤ c ∧ c ≤ maxLen ∧ Lss w A ls

theorem row_bytes {w : World} {Ar : Option Addr} {Lr Cr : Nat} {Zr : List Int} (hl : Lr ≤ Cr) (hz : Zr.length = Cr) (hw : ∀ n ∈ Zr, (Lit.int .u8 n).wf = true)
    (hc : ∀ a', Ar = some a' → ∀ c, c < Cr → w.cell? (a'.add c) = some (.int .u8 (Zr.getD c 0))) (hn : Ar = none → Cr = 0) : ∃ l : List UInt8, l.length = Lr ∧ Bs w Ar l := by
  refine ⟨(Zr.take Lr).map fun z => UInt8.ofNat z.toNat, by simp; omega, ?_⟩
  refine ⟨by simp [cbs], fun hpos => ?_⟩
  have hpos' : 0 < Lr := by simp at hpos; omega
  cases Ar with
  | none => have := hn rfl; omega
  | some x =>
    have h0 := hc x rfl 0 (by omega)
    have hsp : x.spot = none := by
      have := World.cell?_spot h0
      unfold Addr.add at this
      simpa using this
    obtain ⟨b, off, spot⟩ := x
    simp only at hsp
    subst hsp
    refine ⟨b, off, rfl, ?_, ?_⟩
    · have := World.block_lt_of_cell? w _ h0
      rw [add_mk] at this
      exact this
    · intro j u hu
      simp only [cbs, List.map_map, List.getElem?_map, Option.map_eq_some_iff] at hu
      obtain ⟨z, hz1, rfl⟩ := hu
      have hj : j < Lr ∧ j < Zr.length := by
        rcases Nat.lt_or_ge j (Zr.take Lr).length with h | h
        · simp at h; omega
        · rw [List.getElem?_eq_none h] at hz1; cases hz1
      have hzz : Zr[j]? = some z := by rw [List.getElem?_take, if_pos hj.1] at hz1; exact hz1
      have hcj := hc _ rfl j (by omega)
      rw [add_mk] at hcj
      rw [hcj]
      have hmem : z ∈ Zr := List.mem_of_getElem? hzz
      have hg : Zr.getD j 0 = z := by simp [List.getD, hzz]
      rw [hg]
      show _ = some (Value.int .u8 _)
      rw [← wf_u8 (hw z hmem)]

theorem choose_list {P : Nat → List UInt8 → Prop} : ∀ n, (∀ r, r < n → ∃ l, P r l) → ∃ ls : List (List UInt8), ls.length = n ∧ ∀ j (hj : j < ls.length), P j ls[j]
  | 0, _ => ⟨[], rfl, fun j hj => by simp at hj⟩
  | n + 1, h => by
    obtain ⟨ls, hl, hls⟩ := choose_list n (fun r hr => h r (by omega))
    obtain ⟨l, hl'⟩ := h n (by omega)
    refine ⟨ls ++ [l], by simp [hl], fun j hj => ?_⟩
    by_cases hjn : j < ls.length
    · rw [List.getElem_append_left hjn]; exact hls j hjn
    · have : j = n := by simp at hj; omega
      subst this
      rw [List.getElem_append_right (by omega)]
      simpa [hl] using hl'

theorem openL {H : Type} {enc : TypeId × Value → H} {w : World} {A : Option Addr} {n c : Nat} {d : DataW H} {p : List MemPlace}
    (h : DataW.Trod enc Tryz.prog w 0 (fun _ => true) true 23 (.slice A n c) d p) : ∃ ls, ArgL w A n c ls := by
  obtain ⟨fuel, hf⟩ := h
  rcases Go.Deep.open_int_rows Tryz.underlying23 Tryz.underlying22 Tryz.underlying5 (by kernel_rfl) (by kernel_rfl) hf with ⟨hcs, _⟩ | ⟨a, len, cap, Ar, L, C, Z, hcs, _, hl, hm, _, hr⟩
  · simp [Value.cells] at hcs
    obtain ⟨rfl, rfl, rfl⟩ := hcs
    exact ⟨[], rfl, Nat.le_refl _, by simp [maxLen], fun hn => absurd rfl hn⟩
  · simp [Value.cells] at hcs
    obtain ⟨rfl, rfl, rfl⟩ := hcs
    obtain ⟨ls, hlen, hls⟩ := choose_list (P := fun r l => l.length = L r ∧ Bs w (Ar r) l) n (fun r hrn => by
      obtain ⟨_, r1, _, r3, r4, r5, r6⟩ := hr r (by omega)
      exact row_bytes r1 r3 r4 (fun a' e => (r6 a' e).2) r5)
    refine ⟨ls, hlen, hl, hm, fun hne => ?_⟩
    have hpos : 0 < n := by rw [← hlen]; exact List.length_pos_iff.2 hne
    have h0 := (hr 0 (by omega)).1
    have hsp : a.spot = none := by
      have := World.cell?_spot h0
      unfold Addr.add at this
      simpa using this
    obtain ⟨b, off, spot⟩ := a
    simp only at hsp
    subst hsp
    refine ⟨b, off, rfl, by have := World.block_lt_of_cell? w _ h0; rw [add_mk] at this; exact this, fun j hj => ?_⟩
    obtain ⟨q0, q1, q2, _⟩ := hr j (by omega)
    obtain ⟨s1, s2⟩ := hls j hj
    rw [add_mk] at q0
    exact ⟨Ar j, C j, by rw [q0, s1], by rw [s1]; exact q1, q2, s2⟩

end Go.Proofs.YtfaeechidjpjbaaGreat

namespace Go.Proofs.YtfaeechidjpjbaaGreat

open Go.RowKit

set_option linter.unusedVariables false

/-- A slice of no bytes in a row of the call's own. -/
def RetE (w : World) (e : Ending) (w' : World) : Prop := ∃ v, e = .returned v ∧ Mine w' w.heap.size 5 v [] ∧ Below w.heap.size w w'

set_option maxRecDepth 100000 in
set_option maxHeartbeats 800000 in
theorem grow_any (n : Nat) (w : World) (hn : n ≤ 1000000) : Calls Tryz.prog 147 #[.slice none 0 0, .int .i64 (n : Int)] w (RetE w) := by
  obtain ⟨i0, hi, hz0, hz1, hz2⟩ := info_parts u8_info
  by_cases h0 : n = 0
  · subst h0
    go_enter Tryz.func147, Tryz.ntmps147
    go_wp2
    go_ret
    exact ⟨_, rfl, World.ownsRow_nil _ _ _ _, Below.refl _ _⟩
  · have hpos : 0 < n := by omega
    have hr := Lib.run_append_nil_zeros (P := Tryz.prog) w 22 3 22 5 i0 _ .i64 .i64 Tryz.underlying22 Tryz.underlying3 hi hz0 n hpos (by rw [hz1]; omega) (by omega) (by rw [hz2]; omega)
    obtain ⟨cap, hcap⟩ : ∃ cap, grownCap w n 0 5 = cap := ⟨_, rfl⟩
    obtain ⟨Z, hZ⟩ : ∃ Z : Array Value, Builtin.zeroCells (Value.int .u8 0).cells n ++ Builtin.zeroCells (Value.int .u8 0).cells (cap - n) = Z := ⟨_, rfl⟩
    have hge := grownCap_ge w n 0 5
    have hle := grownCap_le_maxLen w n 0 5 (by unfold maxLen; omega)
    have hzs : Z.size = cap * 1 := by rw [← hZ]; simp [Builtin.zeroCells, Value.cells]; omega
    rw [hcap] at hr hge hle
    rw [hZ] at hr
    have hown : (w.drew.alloc (.cells Z 5)).ownsRow w.heap.size 5 1 (.slice (some ⟨w.heap.size, 0, none⟩) 0 cap) 0 [] := World.ownsRow_made w.drew Z cap (Nat.le_refl _) hle hzs
    have hbel : Below w.heap.size w (w.drew.alloc (.cells Z 5)) := ((Below.refl _ _).drew).alloc (Nat.le_refl _) _
    have Hr := Lib.hid hr
    have Ho := Lib.hid (And.intro hown hbel)
    have hc0 : (0 : Int) ≤ cap := by omega
    clear hr hown hbel hcap hZ hzs hle hge hi hz0 hz1 hz2
    go_enter Tryz.func147, Tryz.ntmps147
    go_wp2_with (at_builtin; refine Lib.wpList_append_run _ rfl _ _ _ _ rfl _ _ rfl rfl _ _ Hr.out ?_)
    go_ret
    exact ⟨_, rfl, Ho.out⟩

theorem flat_step9 (ls : List (List UInt8)) (k : Nat) (h : k < ls.length) : (ls.take (k + 1)).flatten = (ls.take k).flatten ++ ls[k] := by
  rw [List.take_succ_eq_append_getElem h, List.flatten_append]; simp

theorem flat_le9 (ls : List (List UInt8)) (k : Nat) : (ls.take k).flatten.length ≤ ls.flatten.length := by
  conv => rhs; rw [← List.take_append_drop k ls, List.flatten_append, List.length_append]
  omega

set_option maxHeartbeats 800000 in
theorem concat_any (A : Option Addr) (c m : Nat) (ls : List (List UInt8)) (w : World) (hA : Lss w A ls) (hm : ls.length = m) (hml : m ≤ 1000) (hl : ls.flatten.length ≤ 1000000) :
    Calls Tryz.prog 139 #[.slice A m c] w (RetB w ls.flatten) := by
  have Hm := Lib.hid hm
  clear hm
  go_enter Tryz.func139, Tryz.ntmps139
  go_wp2
  go_loop [3, 5, 11] (fun s _ i => ∃ k : Nat, k ≤ m ∧ i = .int .i64 k ∧ s = .int .i64 ((ls.take k).flatten.length : Nat)) (fun _ _ i => m - (intOf i).toNat)
  case atStart => exact ⟨0, Nat.zero_le _, rfl, by simp⟩
  case round =>
    obtain ⟨k, hk, rfl, rfl⟩ := hrel
    by_cases hlt : k < m
    · obtain ⟨b, off, Ai, ci, rfl, hb, hc, _, _, _⟩ := hA.at_ (j := k) (by rw [Hm.out]; exact hlt)
      have hst := flat_step9 ls k (by rw [Hm.out]; exact hlt)
      have hle := flat_le9 ls (k + 1)
      have hle0 : (ls.take k).flatten.length + (ls[k]'(by rw [Hm.out]; exact hlt)).length ≤ ls.flatten.length := by
        rw [hst, List.length_append] at hle; exact hle
      have Hst : Hid ((ls.take (k + 1)).flatten.length = (ls.take k).flatten.length + (ls[k]'(by rw [Hm.out]; exact hlt)).length) := by
        show _ = _; rw [hst]; simp
      clear hst hle
      generalize (ls[k]'(by rw [Hm.out]; exact hlt)).length = q at *
      generalize (ls.take k).flatten.length = s at *
      generalize ls.flatten.length = tot at *
      have hneg : ¬ ((s : Int) + q < 0) := by omega
      go_wp2
      go_round
      case rel => exact ⟨k + 1, by omega, by go_num, by rw [Hst.out]; go_num⟩
      case measure => simp [intOf]; omega
    · have Hst : Hid ((ls.take k).flatten.length = ls.flatten.length) := by
        show _ = _; rw [List.take_of_length_le (by rw [Hm.out]; omega)]
      have hle := flat_le9 ls k
      generalize (ls.take k).flatten.length = s at *
      go_wp2_with (go_at_call 147; refine (grow_any s w (by omega)).mono ?_; rintro e w1 ⟨v1, rfl, ho1, hb1⟩)
      go_loopw [6, 8, 27] (fun v _ i wr => ∃ k : Nat, k ≤ m ∧ i = .int .i64 k ∧ Mine wr w.heap.size 5 v (ls.take k).flatten ∧ Below w.heap.size w wr) (fun _ _ i _ => m - (intOf i).toNat)
      case atStart => exact ⟨0, Nat.zero_le _, rfl, ho1, hb1⟩
      case round =>
        obtain ⟨k, hk, rfl, hown, hnx⟩ := hrel
        by_cases hlt : k < m
        · obtain ⟨b, off, Ai, ci, rfl, hb, hc0, _, _, hBi⟩ := hA.at_ (j := k) (by rw [Hm.out]; exact hlt)
          have hc : wr.cell? ⟨b, off + k, none⟩ = some (.slice Ai (ls[k]'(by rw [Hm.out]; exact hlt)).length ci) := (hnx.cell (by exact hb)).trans hc0
          have hst := flat_step9 ls k (by rw [Hm.out]; exact hlt)
          have hle := flat_le9 ls (k + 1)
          have hBr : Bs wr Ai (ls[k]'(by rw [Hm.out]; exact hlt)) := hBi.after hnx
          have Hst := Lib.hid hst
          have hlen : (ls.take k).flatten.length + (ls[k]'(by rw [Hm.out]; exact hlt)).length ≤ 140737488355328 := by
            rw [hst, List.length_append] at hle; omega
          clear hst hle hc0 hBi
          generalize (ls[k]'(by rw [Hm.out]; exact hlt)) = x at *
          generalize hq : x.length = q at *
          have Hq := Lib.hid hq
          clear hq
          go_wp2_with (at_builtin; refine wp_appendB rfl _ _ rfl w.heap.size _ _ rfl hown Ai ci q x rfl hBr Hq.out hlen hnx.size ?_; intro v2 w2 hm2 hg2 ho2)
          go_roundw
          case rel =>
            refine ⟨k + 1, by omega, by go_num, by rw [Hst.out]; exact hm2, hnx.grown hg2 hnx.size ?_⟩
            intro j hj
            exact (World.ownsRow.lt hown j hj).1
          case measure => simp [intOf]; omega
        · have Hst : Hid ((ls.take k).flatten = ls.flatten) := by
            show _ = _; rw [List.take_of_length_le (by rw [Hm.out]; omega)]
          rw [Hst.out] at hown
          go_wp2
          go_ret
          exact ⟨_, rfl, hown, hnx⟩

end Go.Proofs.YtfaeechidjpjbaaGreat

namespace Go.Proofs.YtfaeechidjpjbaaGreat

open Go.RowKit Go.Maps

set_option linter.unusedVariables false

/-- A pointer to a book that is none. -/
def NoBook (w : World) (v : Value) : Prop := v = .pointer none ∨ ∃ g, v = .pointer (some ⟨g, 0, none⟩) ∧ g < w.heap.size ∧ w.cell? ⟨g, 0, none⟩ = some (.map none)

theorem NoBook.below {w w' : World} {v : Value} (h : NoBook w v) (hb : Below w.heap.size w w') : NoBook w' v := by
  rcases h with rfl | ⟨g, rfl, hlt, h⟩
  · exact .inl rfl
  · exact .inr ⟨g, rfl, Nat.lt_of_lt_of_le hlt hb.size, (hb.cell hlt).trans h⟩

theorem NoBook.made {w : World} {g : Nat} {vs : Array Value} {t : TypeId} {fr : Nat × Nat} (hg : g = w.heap.size) (h : vs[0]? = some (.map none)) : NoBook (w.alloc (.cells vs t fr)) (.pointer (some ⟨g, 0, none⟩)) := by
  subst hg
  exact .inr ⟨_, rfl, by simp, by rw [cell_of_row _ _ 0 vs t fr (heap_alloc_new w _)]; exact h⟩

theorem eqlNoMap (w : World) : (binOp .eql 86 (.map none) (.map none)).run Tryz.prog w = .ok (.bool true) w := by kernel_rfl

set_option maxRecDepth 100000 in
theorem bnone_yes (v : Value) (w : World) (h : NoBook w v) : Calls Tryz.prog 65 #[v] w fun e w' => e = .returned (.bool true) ∧ w' = w := by
  have heq := eqlNoMap
  rcases h with rfl | ⟨g, rfl, _hlt, h⟩
  · go_enter Tryz.func65, Tryz.ntmps65
    go_wp2
    go_ret
    exact ⟨rfl, rfl⟩
  · go_enter Tryz.func65, Tryz.ntmps65
    go_wp2
    go_ret
    exact ⟨rfl, rfl⟩

theorem bclash_none (v : Value) (w : World) (h : NoBook w v) : Calls Tryz.prog 38 #[v] w fun e w' => e = .returned (.bool false) ∧ w' = w := by
  have Hno := Lib.hid (bnone_yes v w h)
  have hnot : ∀ (x : Bool) (w : World), (Op.unary .not (.bool x)).run Tryz.prog w = .ok (.bool (!x)) w := fun _ _ => rfl
  clear h
  go_enter Tryz.func38, Tryz.ntmps38
  go_wp2_with (go_at_call 65; refine Hno.out.mono ?_; rintro e w' ⟨rfl, rfl⟩)
  go_ret
  exact ⟨rfl, rfl⟩

set_option maxRecDepth 100000 in
set_option maxHeartbeats 800000 in
theorem bof_none (v : Value) (A : Option Addr) (n c : Nat) (w : World) (h : NoBook w v) :
    Calls Tryz.prog 138 #[v, .slice A n c] w fun e w' => e = .returned (.tuple #[.agg (cbs (List.replicate 32 0)).toArray, .int .i64 1]) ∧ Below w.heap.size w w' := by
  have b0 : Below w.heap.size w (w.alloc (.cells (cbs (List.replicate 32 0)).toArray 59)) := (Below.refl _ _).alloc (Nat.le_refl _) _
  have Hno := Lib.hid (bnone_yes v _ (h.below b0))
  have hZ : Blk (w.alloc (.cells (cbs (List.replicate 32 0)).toArray 59)) w.heap.size 59 (cbs (List.replicate 32 0)) := Blk.new rfl rfl
  have hth : (w.alloc (.cells (cbs (List.replicate 32 0)).toArray 59)).there w.heap.size 0 (cbs (List.replicate 32 0)).toArray.size := hZ.there
  have hR := hZ.setAll (vs := cbs (List.replicate 32 0)) rfl
  have hb1 : Below w.heap.size w ((w.alloc (.cells (cbs (List.replicate 32 0)).toArray 59)).setCells w.heap.size 0 (cbs (List.replicate 32 0))) := Below.setCells (Nat.le_refl _) _ b0
  have Hb := Lib.hid (And.intro hth (And.intro hR hb1))
  clear h b0 hZ hth hR hb1
  go_enter Tryz.func138, Tryz.ntmps138
  go_wp2_with (first | (go_at_call 65; refine Hno.out.mono ?_; rintro e w' ⟨rfl, rfl⟩) | (refine wpList_store_mid rfl 59 _ _ rfl w.heap.size 0 (cbs (List.replicate 32 0)).toArray rfl rfl Hb.out.1 info32b (cbs_one' _) ?_))
  refine bodyPost_ret (results_row_tmp3 rfl _ _ w.heap.size 59 (cbs (List.replicate 32 0)).toArray (0, 0) _ rfl Hb.out.2.1 Tryz.underlying59 rfl info32b) rfl ?_
  exact ⟨rfl, Hb.out.2.2⟩

theorem eq_zz (DZ : List Value) (h : cbs (List.replicate 32 0) = DZ) (w : World) :
    (Op.equalIn 10000 59 (.agg DZ.toArray) (.agg #[Value.int .u8 0, Value.int .u8 0, Value.int .u8 0, Value.int .u8 0, Value.int .u8 0, Value.int .u8 0, Value.int .u8 0, Value.int .u8 0, Value.int .u8 0, Value.int .u8 0, Value.int .u8 0, Value.int .u8 0, Value.int .u8 0, Value.int .u8 0, Value.int .u8 0, Value.int .u8 0, Value.int .u8 0, Value.int .u8 0, Value.int .u8 0, Value.int .u8 0, Value.int .u8 0, Value.int .u8 0, Value.int .u8 0, Value.int .u8 0, Value.int .u8 0, Value.int .u8 0, Value.int .u8 0, Value.int .u8 0, Value.int .u8 0, Value.int .u8 0, Value.int .u8 0, Value.int .u8 0])).run Tryz.prog w = .ok true w := by
  subst h
  exact eq_digests w (List.replicate 32 0) (List.replicate 32 0) rfl rfl

/-- make([]byte, n): n noughts in a block of their own. -/
theorem made_bytes (n : Nat) (hn : n < 1000000) : ∃ (x : List UInt8) (Z : Array Value), x.length = n ∧ (∀ w : World, (Instr.makeSlice 22 (.int .i64 (n : Int)) (.int .i64 (n : Int))).run Tryz.prog w = .ok (.slice (some ⟨w.heap.size, 0, none⟩) n n) (w.alloc (.cells Z 5))) ∧
    ∀ w : World, Bs (w.alloc (.cells Z 5)) (some ⟨w.heap.size, 0, none⟩) x := by
  refine ⟨List.replicate n 0, madeCells #[.int .u8 0] n, by simp, fun w => run_make_row' 22 5 (.int .u8 0) 1 Tryz.underlying22 u8_info rfl .i64 .i64 n (by omega) (by omega) w, fun w => ⟨by rw [cbs_length]; simp, fun hn => ⟨w.heap.size, 0, rfl, by simp, fun j u hu => ?_⟩⟩⟩
  rw [Nat.zero_add]
  have hj : j < n := by
    rcases Nat.lt_or_ge j n with h | h
    · exact h
    · rw [List.getElem?_eq_none (by rw [cbs_length]; simpa using h)] at hu; cases hu
  rw [cbs_get, List.getElem?_replicate, if_pos hj] at hu
  injection hu with hu
  subst hu
  exact (World.rowIs_made w (.int .u8 0) n 5).cell hj

end Go.Proofs.YtfaeechidjpjbaaGreat

namespace Go.Proofs.YtfaeechidjpjbaaGreat

open Go.RowKit Go.Maps

set_option linter.unusedVariables false

theorem isLong_no (A : Option Addr) (n c : Nat) (w : World) (h : n ≤ 65535) : Calls Tryz.prog 92 #[.slice A n c] w fun e w' => e = .returned (.bool false) ∧ w' = w := by
  have h1 : ¬ (65535 : Int) < n := by omega
  go_enter Tryz.func92, Tryz.ntmps92
  go_wp2
  go_ret
  exact ⟨by simp, rfl⟩

theorem isLong_yes (A : Option Addr) (n c : Nat) (w : World) (h : 65535 < n) : Calls Tryz.prog 92 #[.slice A n c] w fun e w' => e = .returned (.bool true) ∧ w' = w := by
  have h1 : (65535 : Int) < n := by omega
  go_enter Tryz.func92, Tryz.ntmps92
  go_wp2
  go_ret
  exact ⟨by simp, rfl⟩

theorem leafIn_len (x : List UInt8) : (leafIn x).length = x.length + 1 := by simp [leafIn]

theorem two_lss (w : World) (A : Option Addr) (n cp : Nat) (x : List UInt8) (hB : Bs w A x) (hn : x.length = n) (hc : n ≤ cp) (hcm : cp ≤ maxLen) (t1 t2 : TypeId) :
    Lss ((w.alloc (.cells #[.int .u8 0] t1)).alloc (.cells #[.slice (some ⟨w.heap.size, 0, none⟩) 1 1, .slice A n cp] t2)) (some ⟨w.heap.size + 1, 0, none⟩) [[0], x] := by
  intro _
  have hb1 : Below w.heap.size w (w.alloc (.cells #[.int .u8 0] t1)) := (Below.refl _ _).alloc (Nat.le_refl _) _
  have hb2 := hb1.alloc (by simp) (.cells #[.slice (some ⟨w.heap.size, 0, none⟩) 1 1, .slice A n cp] t2)
  refine ⟨w.heap.size + 1, 0, rfl, by simp, fun j hj => ?_⟩
  have hrow : ((w.alloc (.cells #[.int .u8 0] t1)).alloc (.cells #[.slice (some ⟨w.heap.size, 0, none⟩) 1 1, .slice A n cp] t2)).heap[w.heap.size + 1]? = some (.cells #[.slice (some ⟨w.heap.size, 0, none⟩) 1 1, .slice A n cp] t2 (0, 0)) := by
    have := heap_alloc_new (w.alloc (.cells #[.int .u8 0] t1)) (.cells #[.slice (some ⟨w.heap.size, 0, none⟩) 1 1, .slice A n cp] t2)
    rwa [World.size_alloc] at this
  rw [Nat.zero_add]
  have hj2 : j = 0 ∨ j = 1 := by simp at hj; omega
  rcases hj2 with rfl | rfl
  · refine ⟨some ⟨w.heap.size, 0, none⟩, 1, cell_of_row _ _ 0 _ _ _ hrow, Nat.le_refl 1, by decide, ?_⟩
    have h0 : Bs (w.alloc (.cells #[.int .u8 0] t1)) (some ⟨w.heap.size, 0, none⟩) [0] := Bs.made w t1 _ _ [0] rfl
    exact h0.after ((Below.refl _ _).alloc (by simp) _)
  · refine ⟨A, cp, ?_, ?_, hcm, ?_⟩
    · show _ = some (Value.slice A x.length cp)
      rw [hn]
      exact cell_of_row _ _ 1 _ _ _ hrow
    · show x.length ≤ cp
      omega
    · exact hB.after hb2

set_option maxRecDepth 100000 in
set_option maxHeartbeats 800000 in
theorem leaf_any (S : Nat → Prop) (g m : Nat) (s : Bk) (A : Option Addr) (n cp : Nat) (x : List UInt8) (w : World) (h : BookS w S g m s) (hL : s.1.length < 1000000) (hk : s.2.2 < 1000000)
    (hB : Bs w A x) (hn : x.length = n) (hc : n ≤ cp) (hcm : cp ≤ maxLen) (hs : n ≤ 65535) :
    Calls Tryz.prog 126 #[.pointer (some ⟨g, 0, none⟩), .slice A n cp] w fun e w' =>
      e = .returned (.tuple #[.agg (cbs (digest (leafIn x))).toArray, .int .i64 0]) ∧ Bg S w w' g m (stepL s (leafIn x)) := by
  obtain ⟨D, hD32, hDv, hD1⟩ : ∃ D : List Value, D.length = 32 ∧ cbs (digest (leafIn x)) = D ∧ D.toArray.all (·.oneCell') = true := ⟨cbs (digest (leafIn x)), by rw [cbs_length, dlen], rfl, cbs_one' _⟩
  have hof : ofD (leafIn x) = digest (leafIn x) := if_pos (by rw [leafIn_len]; omega)
  have hoe : ofE (leafIn x) = 0 := if_pos (by rw [leafIn_len]; omega)
  have hb1 : Below w.heap.size w (w.alloc (.cells (cbs (List.replicate 32 0)).toArray 59)) := (Below.refl _ _).alloc (Nat.le_refl _) _
  have hZ1 : Blk (w.alloc (.cells (cbs (List.replicate 32 0)).toArray 59)) w.heap.size 59 (cbs (List.replicate 32 0)) := Blk.new rfl rfl
  have hls := two_lss (w.alloc (.cells (cbs (List.replicate 32 0)).toArray 59)) A n cp x (hB.after hb1) hn hc hcm 5 22
  rw [World.size_alloc] at hls
  have hfl : ([[0], x] : List (List UInt8)).flatten = leafIn x := by simp [leafIn]
  have hcat := concat_any (some ⟨w.heap.size + 1 + 1, 0, none⟩) 2 2 [[0], x] _ hls rfl (by omega) (by rw [hfl, leafIn_len]; omega)
  rw [hfl] at hcat
  have Hcat := Lib.hid hcat
  have H1 := Lib.hid (And.intro hb1 hZ1)
  have Ho := Lib.hid (And.intro hD32 (And.intro hDv (And.intro hD1 (And.intro hof hoe))))
  have Hh := Lib.hid (And.intro h (And.intro hL (And.intro hk (And.intro hn hs))))
  clear hcat hls hb1 hZ1 hD32 hDv hD1 hof hoe h hL hk hB hn hc hcm hfl
  rw [Ho.out.2.1]
  go_enter Tryz.func126, Tryz.ntmps126
  go_wp2_with (go_at_call 92; refine (isLong_no A n cp _ hs).mono ?_; rintro e w' ⟨rfl, rfl⟩)
  refine Hcat.out.mono ?_
  rintro e w2 ⟨v, rfl, hm2, hb2⟩
  have hbA : Below w.heap.size w w2 := ((H1.out.1.alloc (by simp) _).alloc (by simp; omega) _).trans (hb2.mono (by simp; omega))
  have hbB : Below (w.heap.size + 1) (w.alloc (.cells (cbs (List.replicate 32 0)).toArray 59)) w2 := (((Below.refl _ _).alloc (by simp) _).alloc (by simp) _).trans (hb2.mono (by simp))
  have hZ2 : Blk w2 w.heap.size 59 (cbs (List.replicate 32 0)) := H1.out.2.below hbB (by omega)
  obtain ⟨Av, cv, rfl, hcv, hcvm, hBv⟩ := Mine.form hm2
  have hof := bs_of (BookM.below Hh.out.1 hbA) Hh.out.2.1 Hh.out.2.2.1 Av _ cv (leafIn x) hBv rfl hcv hcvm
  rw [Ho.out.2.2.2.1, Ho.out.2.2.2.2, Ho.out.2.1] at hof
  have Hof := Lib.hid hof
  have H2 := Lib.hid (And.intro hbA hZ2)
  have hlt2 := hZ2.lt
  clear hof hm2 hb2 hbA hbB hZ2 hcv hcvm hBv
  go_wp2_with fail
  refine Hof.out.mono ?_
  rintro e w3 ⟨rfl, hG3⟩
  have hnS : ¬ S w.heap.size := fun e => by have := Hh.out.1.lt e; omega
  have hZ3 := hG3.blk H2.out.2 hnS
  have hsD : D.toArray.size = 32 := by rw [List.size_toArray]; exact Ho.out.1
  have hth : w3.there w.heap.size 0 D.toArray.size := by
    have e := hZ3.there
    rw [cbs_length, List.length_replicate] at e
    rw [hsD]; exact e
  have hi : (Tryz.prog.info? 59).map (·.size) = some D.toArray.size := by rw [hsD]; exact info32b
  have hR := hZ3.setAll (vs := D) (by rw [Ho.out.1, cbs_length, List.length_replicate])
  have hGf := Bg.store H2.out.1 (fun i hi => Hh.out.1.lt hi) hG3 (Nat.le_refl _) hlt2 0 D
  have Hth := Lib.hid hth
  have Hi := Lib.hid hi
  have H3 := Lib.hid (And.intro hR hGf)
  clear hZ3 hsD hth hi hR hGf hG3 hnS hlt2
  go_wp2_with (refine wpList_store_mid rfl 59 _ _ rfl w.heap.size 0 D.toArray rfl rfl Hth.out Hi.out Ho.out.2.2.1 ?_)
  refine bodyPost_ret (results_row_tmp3 rfl _ _ w.heap.size 59 D.toArray (0, 0) _ rfl H3.out.1 Tryz.underlying59 rfl Hi.out) rfl ?_
  exact ⟨rfl, H3.out.2⟩

theorem leaf_kb (B g m : Nat) (s : Bk) (N : Nat → Prop) (A : Option Addr) (n cp : Nat) (x : List UInt8) (w : World) (h : Kb B w g m s N) (hB0 : B ≤ w.heap.size) (hL : s.1.length < 1000000) (hk : s.2.2 < 1000000)
    (hB : Bs w A x) (hn : x.length = n) (hc : n ≤ cp) (hcm : cp ≤ maxLen) (hs : n ≤ 65535) :
    Calls Tryz.prog 126 #[.pointer (some ⟨g, 0, none⟩), .slice A n cp] w fun e w' =>
      e = .returned (.tuple #[.agg (cbs (digest (leafIn x))).toArray, .int .i64 0]) ∧ Kb B w' g m (stepL s (leafIn x)) N ∧ Out (Tn B m w N) w w' := by
  obtain ⟨S', h1, h2, h3⟩ := h
  refine (leaf_any S' g m s A n cp x w h1 hL hk hB hn hc hcm hs).mono ?_
  rintro e w' ⟨rfl, hG⟩
  exact ⟨rfl, Kb.go hB0 h2 h3 hG⟩

end Go.Proofs.YtfaeechidjpjbaaGreat

namespace Go.Proofs.YtfaeechidjpjbaaGreat

open Go.RowKit Go.Maps

set_option linter.unusedVariables false

theorem dg_info : (Tryz.prog.info? 59).map (fun i => (i.zero.isSome, i.size, i.bytes)) = some (true, 32, 32) := by kernel_rfl

theorem dg_zero : ∃ i z, Tryz.prog.info? 59 = some i ∧ i.zero = some z ∧ i.size = 32 ∧ i.bytes = 32 := by
  have h := dg_info
  cases hi : Tryz.prog.info? 59 with
  | none => rw [hi] at h; cases h
  | some i =>
    rw [hi] at h
    simp only [Option.map_some, Option.some.injEq, Prod.mk.injEq] at h
    obtain ⟨h1, h2, h3⟩ := h
    obtain ⟨z, hz⟩ := Option.isSome_iff_exists.1 h1
    exact ⟨i, z, rfl, hz, h2, h3⟩

/-- What is asked of the book for the first k leaves. -/
def BotI (B g bm : Nat) (s : Bk) (N : Nat → Prop) (ls : List (List UInt8)) (w : World) (k : Nat) (wr : World) : Prop :=
  Kb B wr g bm (noteAll s ((ls.map leafIn).take k)) (fun i => N i ∨ i = w.heap.size) ∧ Out (Tn B bm w N) w wr ∧
  ∃ X, wr.ownsRow w.heap.size 59 32 (.slice (some ⟨w.heap.size, 0, none⟩) ls.length ls.length) ls.length (cbs ((lows ls).take k).flatten ++ X)

theorem bot_flat (ls : List (List UInt8)) {k : Nat} (hk : k < ls.length) (X : List Value) (hX : (cbs ((lows ls).take k).flatten ++ X).length = ls.length * 32) :
    (cbs ((lows ls).take k).flatten).length = k * 32 ∧ (cbs ((lows ls).take k).flatten ++ X).take (k * 32) ++ cbs (digest (leafIn ls[k])) ++ (cbs ((lows ls).take k).flatten ++ X).drop (k * 32 + (cbs (digest (leafIn ls[k]))).length) = cbs ((lows ls).take (k + 1)).flatten ++ X.drop 32 := by
  have hl : (cbs ((lows ls).take k).flatten).length = k * 32 := by
    rw [cbs_length, flat_len (fun x hx => all32_lows ls x (List.mem_of_mem_take hx)), List.length_take, lows_len]; omega
  refine ⟨hl, ?_⟩
  have e1 : (lows ls).take (k + 1) = (lows ls).take k ++ [digest (leafIn ls[k])] := by
    rw [List.take_succ_eq_append_getElem (by rw [lows_len]; exact hk)]; simp [lows]
  rw [e1, flat_snoc, cbs_append, List.append_assoc, List.append_assoc]
  rw [List.take_append_of_le_length (by omega), List.take_of_length_le (by omega), List.drop_append, hl, List.drop_of_length_le (by omega)]
  have e2 : k * 32 + (cbs (digest (leafIn ls[k]))).length - k * 32 = 32 := by rw [cbs_length, dlen]; omega
  rw [e2]; simp

set_option maxRecDepth 100000 in
set_option maxHeartbeats 1600000 in
theorem bottomO (B g bm : Nat) (s : Bk) (N : Nat → Prop) (l : Lv) (lb : Nat) (ls : List (List UInt8)) (w : World) (K : Nat → Prop)
    (h : Kb B w g bm s N) (hB : B ≤ w.heap.size) (hL : s.1.length + 2000 < 1000000) (hk : s.2.2 + 2000 < 1000000) (hls : ∀ x ∈ ls, x.length ≤ 65535) (h1 : 1 ≤ ls.length) (h2 : ls.length ≤ 1024)
    (hx : w.cell? ⟨l.x, 0, none⟩ = some (.int .i64 (ls.length : Int))) (hy : w.cell? ⟨l.y, 0, none⟩ = some (.pointer (some ⟨g, 0, none⟩))) (hz : w.cell? ⟨l.z, 0, none⟩ = some (.func (.func 95) #[] #[.pointer (some ⟨lb, 0, none⟩)]))
    (hxN : l.x < w.heap.size) (hyN : N l.y) (hzN : N l.z) (hK : ∀ j, K j → j < w.heap.size ∧ (j < B ∨ N j)) (hlf : LeafAt 95 [.pointer (some ⟨lb, 0, none⟩)] w K ls) :
    Calls Tryz.prog 125 #[.pointer (some ⟨l.x, 0, none⟩), .pointer (some ⟨l.y, 0, none⟩), .pointer (some ⟨l.z, 0, none⟩)] w fun e w' =>
      e = .returned (.tuple #[.slice (some ⟨w.heap.size, 0, none⟩) ls.length ls.length, .int .i64 0]) ∧ BotI B g bm s N ls w ls.length w' := by
  obtain ⟨i0, z0, hi, hz0, hz1, hz2⟩ := dg_zero
  have hylt := h.lt hyN
  have hzlt := h.lt hzN
  have hx2 : ∀ w2 : World, w.grownBy w2 none → w2.cell? ⟨l.x, 0, none⟩ = some (.int .i64 (ls.length : Int)) := fun w2 hg => hg.cell hx (by simp)
  have HN := Lib.hid (And.intro hyN (And.intro hzN (And.intro hylt hzlt)))
  have Hh := Lib.hid (And.intro h (And.intro hB (And.intro hL (And.intro hk (And.intro hls (And.intro hK hlf))))))
  have Hc2 := Lib.hid (And.intro hx2 (And.intro hy hz))
  clear hyN hzN hylt hzlt h hL hk hls hK hlf hx2 hy hz hxN
  obtain ⟨many, hm⟩ : ∃ many, ls.length = many := ⟨_, rfl⟩
  have Hm := Lib.hid hm
  rw [hm] at hx h1 h2 ⊢
  clear hm hB
  go_enter Tryz.func125, Tryz.ntmps125
  go_wp2_with (refine wpList_make_full _ rfl _ _ 144 rfl w.heap.size 59 i0 z0 32 Tryz.underlying144 hi hz0 hz1 .i64 .i64 _ _ many rfl rfl rfl rfl (by rw [hz2]; omega) (by unfold maxLen; omega) (Nat.le_refl _) ?_; intro w1 ho1 hg1; have hx1 := Hc2.out.1 w1 hg1; rw [Hm.out] at hx1)
  have hb1 : Below w.heap.size w w1 := (Below.refl _ _).grown hg1 (Nat.le_refl _) (by simp)
  have hI0 : BotI B g bm s N ls w 0 w1 := ⟨Hh.out.1.belowN hb1 (fun i hi => by
    rcases hi with hi | rfl
    · exact .inl hi
    · exact .inr ⟨Nat.le_refl _, row_lt ho1⟩), Out.tnBelow hb1, _, by rw [Hm.out]; exact ho1⟩
  have HI0 := Lib.hid hI0
  clear hI0 hg1 ho1 hi hz0 hz1 hz2 hx hx1 hb1
  go_loopw [6, 7, 11] (fun _ _ v wr => ∃ k : Nat, k ≤ many ∧ v = .int .i64 (k : Int) ∧ BotI B g bm s N ls w k wr) (fun _ _ v _ => many - (intOf v).toNat)
  case atStart => exact ⟨0, Nat.zero_le _, rfl, HI0.out⟩
  case round =>
    obtain ⟨k, hkm, rfl, hI⟩ := hrel
    by_cases hlt : k < many
    · obtain ⟨hKb, hO, X, hR⟩ := hI
      have hkl : k < ls.length := by rw [Hm.out]; exact hlt
      have Q0 : wr.drew.cell? ⟨l.y, 0, none⟩ = some (.pointer (some ⟨g, 0, none⟩)) ∧ wr.drew.cell? ⟨l.z, 0, none⟩ = some (.func (.func 95) #[] #[.pointer (some ⟨lb, 0, none⟩)]) := ⟨hO.cellK (N := N) HN.out.1 Hc2.out.2.1, hO.cellK (N := N) HN.out.2.1 Hc2.out.2.2⟩
      obtain ⟨Al, cl, hcl, hBl, hcl1, hcl2⟩ := Hh.out.2.2.2.2.2.2 wr.drew ((Stays.refl K w).out (S := Tn B bm w N) (fun j hj => ⟨(Hh.out.2.2.2.2.2.1 j hj).1, fun hT => by
        rcases (Hh.out.2.2.2.2.2.1 j hj).2 with e | e
        · have := hT.1; omega
        · exact hT.2.1 e⟩) hO.drew9) k hkl
      have hbf := bot_flat ls hkl X (by have := hR.1; omega)
      have hnl := noteAll_len s ((ls.map leafIn).take k)
      have hnt : stepL (noteAll s ((ls.map leafIn).take k)) (leafIn ls[k]) = noteAll s ((ls.map leafIn).take (k + 1)) := by
        rw [noteAll_take s (ls.map leafIn) (by rw [List.length_map]; exact hkl)]; simp
      have hxl : ls[k].length ≤ 65535 := Hh.out.2.2.2.2.1 _ (List.getElem_mem _)
      have hlen := hR.1
      rw [List.length_take] at hnl
      generalize (ls[k]'hkl) = x at *
      obtain ⟨D, hD32, hDv, hD1⟩ : ∃ D : List Value, D.length = 32 ∧ cbs (digest (leafIn x)) = D ∧ D.toArray.all (·.oneCell') = true := ⟨cbs (digest (leafIn x)), by rw [cbs_length, dlen], rfl, cbs_one' _⟩
      have H := Lib.hid (And.intro hKb (And.intro hO (And.intro hBl (And.intro hR (And.intro hDv (And.intro hD32 hD1))))))
      have HX := Lib.hid (And.intro (hlen.trans (by rw [Hm.out])) (And.intro hbf hnt))
      have Hb := Lib.hid (And.intro (Nat.le_trans Hh.out.2.1 hO.size) (And.intro (show (noteAll s ((ls.map leafIn).take k)).1.length < 1000000 by have := Hh.out.2.2.1; omega) (And.intro (show (noteAll s ((ls.map leafIn).take k)).2.2 < 1000000 by have := Hh.out.2.2.2.1; omega) hxl)))
      have Hlf := Lib.hid hcl
      have Hc := Lib.hid (And.intro hcl1 hcl2)
      have hk0 : (0 : Int) ≤ (k : Int) := by omega
      have hk1 : (k : Int) < (many : Int) := by omega
      clear hKb hO hBl hR hDv hD32 hD1 hbf hnt hlen hcl hcl1 hcl2 hnl hxl hkl
      go_wp2
      refine wp_region_held_drew (S := fun W' => W'.cell? ⟨l.y, 0, none⟩ = some (.pointer (some ⟨g, 0, none⟩)) ∧ W'.cell? ⟨l.z, 0, none⟩ = some (.func (.func 95) #[] #[.pointer (some ⟨lb, 0, none⟩)])) (by kernel_rfl) Q0 (fun _ => ?_)
      refine anyH_take (i := 0) (d := 15) (v := ?v0) rfl rfl (by kernel_rfl) (by kernel_rfl) (by kernel_rfl) (fun _ _ _ h => h) (Or.inl ⟨by rfl, ?vy0⟩) Q0 ?vr0
      case vy0 => (intro w; go_simp; try with_reducible rfl)
      simp only [List.setIfInBounds_toArray, List.set_cons_zero, List.set_cons_succ]
      refine anyH_take (i := 1) (d := 16) (v := ?v1) rfl rfl (by kernel_rfl) (by kernel_rfl) (by kernel_rfl) (fun _ _ _ h => h) (Or.inl ⟨by rfl, ?vy1⟩) Q0 ?vr1
      case vy1 => (intro w; go_simp; try with_reducible rfl)
      simp only [List.setIfInBounds_toArray, List.set_cons_zero, List.set_cons_succ]
      refine wpAnyH_take' (i := 2) (d := 17) (v := ?v2) rfl rfl (by kernel_rfl) (by kernel_rfl) (by kernel_rfl) (fun _ _ _ h => h) (Or.inl ⟨by rfl, ?vy2⟩) Q0 ?vr2
      case vy2 => (intro w hSw; go_split_ands; go_simp; try with_reducible rfl)
      simp only [List.setIfInBounds_toArray, List.set_cons_zero, List.set_cons_succ]
      refine wpAnyH_take' (i := 3) (d := 18) (v := ?v3) rfl rfl (by kernel_rfl) (by kernel_rfl) (by kernel_rfl) (fun _ _ _ h => h) (Or.inl ⟨by rfl, ?vy3⟩) Q0 ?vr3
      case vy3 => (intro w hSw; go_split_ands; go_simp; try with_reducible rfl)
      simp only [List.setIfInBounds_toArray, List.set_cons_zero, List.set_cons_succ]
      refine anyH_take (i := 4) (d := 19) (v := ?v4) rfl rfl (by kernel_rfl) (by kernel_rfl) (by kernel_rfl) (fun _ _ _ h => h) (Or.inl ⟨by rfl, ?vy4⟩) Q0 ?vr4
      case vy4 => (intro w; go_simp; try with_reducible rfl)
      simp only [List.setIfInBounds_toArray, List.set_cons_zero, List.set_cons_succ]
      refine anyH_one (i := 5) (by kernel_rfl) ?_
      refine wpOp_step rfl (fun K hK => ?_)
      go_simp
      refine Hlf.out.mono ?_
      rintro e w' ⟨rfl, rfl⟩
      refine hK _ _ ⟨Q0, ?_⟩
      clear hK K
      refine anyH_one (i := 6) (by kernel_rfl) ?_
      refine wpOp_step rfl (fun K hK => ?_)
      go_simp
      refine (leaf_kb B g bm _ _ Al _ cl _ _ H.out.1.drew9 Hb.out.1 Hb.out.2.1 Hb.out.2.2.1 H.out.2.2.1 rfl Hc.out.1 Hc.out.2 Hb.out.2.2.2).mono ?_
      rintro e w2 ⟨rfl, hK2, hO2⟩
      rw [H.out.2.2.2.2.1]
      have c1 : w2.cell? ⟨l.y, 0, none⟩ = some (.pointer (some ⟨g, 0, none⟩)) ∧ w2.cell? ⟨l.z, 0, none⟩ = some (.func (.func 95) #[] #[.pointer (some ⟨lb, 0, none⟩)]) := ⟨(hO2.cellK (N := fun i => N i ∨ i = w.heap.size) (.inl HN.out.1) Q0.1), (hO2.cellK (N := fun i => N i ∨ i = w.heap.size) (.inl HN.out.2.1) Q0.2)⟩
      have hO2' : Out (Tn B bm w N) w w2 := H.out.2.1.drew9.tn hO2 (fun i _ h => .inl h)
      have hR2 := row_out (w := wr.drew) H.out.2.2.2.1 hO2 (fun h => h.2.1 (.inr rfl))
      have hth := row_there hR2 (o := k * 32) (k := 32) (by rw [HX.out.1]; omega)
      have hP2 := row_put D hR2 (o := k * 32) (by rw [HX.out.1, H.out.2.2.2.2.2.1]; omega)
      obtain ⟨wS, hwS⟩ : ∃ wS, w2.setCells w.heap.size (k * 32) D = wS := ⟨_, rfl⟩
      have hK3 : Kb B wS g bm (stepL (noteAll s ((ls.map leafIn).take k)) (leafIn x)) (fun i => N i ∨ i = w.heap.size) := by rw [← hwS]; exact hK2.store (x := w.heap.size) (.inr rfl) (k * 32) D
      have hO3 : Out (Tn B bm w N) w wS := by rw [← hwS]; exact hO2'.store (Nat.le_refl _) (k * 32) D
      have Q2 : wS.cell? ⟨l.y, 0, none⟩ = some (.pointer (some ⟨g, 0, none⟩)) ∧ wS.cell? ⟨l.z, 0, none⟩ = some (.func (.func 95) #[] #[.pointer (some ⟨lb, 0, none⟩)]) := by rw [← hwS]; exact ⟨(World.cell?_of_block (block_setCells (Nat.ne_of_lt HN.out.2.2.1) D)).trans c1.1, (World.cell?_of_block (block_setCells (Nat.ne_of_lt HN.out.2.2.2) D)).trans c1.2⟩
      rw [hwS] at hP2
      have hsz : D.toArray.size = 32 := by rw [List.size_toArray]; exact H.out.2.2.2.2.2.1
      have hth' : w2.there w.heap.size (k * 32) D.toArray.size := by rw [hsz]; exact hth
      have hDi : (Tryz.prog.info? 59).map (·.size) = some D.toArray.size := by rw [hsz]; exact info32b
      have H3 := Lib.hid (And.intro hK3 (And.intro hO3 (And.intro hP2 (And.intro hth' (And.intro hDi hwS)))))
      clear hK2 hO2 hO2' hR2 hth hP2 hK3 hO3 hsz hth' hDi hwS
      refine hK _ _ ⟨c1, ?_⟩
      clear hK K
      refine anyH_take (i := 7) (d := 14) (v := ?v7) rfl rfl (by kernel_rfl) (by kernel_rfl) (by kernel_rfl) (fun _ _ _ h => h) (Or.inl ⟨by rfl, ?vy7⟩) c1 ?vr7
      case vy7 => (intro w; go_simp; try with_reducible rfl)
      simp only [List.setIfInBounds_toArray, List.set_cons_zero, List.set_cons_succ]
      refine anyH_take (i := 8) (d := 22) (v := ?v8) rfl rfl (by kernel_rfl) (by kernel_rfl) (by kernel_rfl) (fun _ _ _ h => h) (Or.inl ⟨by rfl, ?vy8⟩) c1 ?vr8
      case vy8 => (intro w; go_simp; try with_reducible rfl)
      simp only [List.setIfInBounds_toArray, List.set_cons_zero, List.set_cons_succ]
      refine anyH_take (i := 9) (d := 23) (v := ?v9) rfl rfl (by kernel_rfl) (by kernel_rfl) (by kernel_rfl) (fun _ _ _ h => h) (Or.inl ⟨by rfl, ?vy9⟩) c1 ?vr9
      case vy9 => (intro w; go_simp; try with_reducible rfl)
      simp only [List.setIfInBounds_toArray, List.set_cons_zero, List.set_cons_succ]
      refine anyH_take (i := 10) (d := 24) (v := ?v10) rfl rfl (by kernel_rfl) (by kernel_rfl) (by kernel_rfl) (fun _ _ _ h => h) (Or.inl ⟨by rfl, ?vy10⟩) c1 ?vr10
      case vy10 => (intro w; go_simp; try with_reducible rfl)
      simp only [List.setIfInBounds_toArray, List.set_cons_zero, List.set_cons_succ]
      refine anyH_one (i := 11) (by kernel_rfl) ?_
      refine op_storeE rfl rfl rfl 59 _ _ rfl w.heap.size (k * 32) D rfl rfl H3.out.2.2.2.1 H3.out.2.2.2.2.1 H.out.2.2.2.2.2.2 H3.out.2.2.2.2.2 ?_
      refine ⟨Q2, ?_⟩
      refine anyH_take (i := 12) (d := 7) (v := ?v12) rfl rfl (by kernel_rfl) (by kernel_rfl) (by kernel_rfl) (fun _ _ _ h => h) (Or.inl ⟨by rfl, ?vy12⟩) Q2 ?vr12
      case vy12 => (intro w; go_simp; try with_reducible rfl)
      simp only [List.setIfInBounds_toArray, List.set_cons_zero, List.set_cons_succ]
      refine wpAnyH_done (by kernel_rfl) ?_ _
      go_wp2
      go_roundw
      case rel =>
        have hP := H3.out.2.2.1
        rw [← H.out.2.2.2.2.1, HX.out.2.1.2] at hP
        have hQ := H3.out.1
        rw [HX.out.2.2] at hQ
        exact ⟨k + 1, by omega, by go_num, hQ, H3.out.2.1, _, hP⟩
      case measure => simp [intOf]; omega
    · obtain rfl : k = many := by omega
      have HI := Lib.hid hI
      clear hI
      go_wp2
      go_ret2
      refine ⟨?_, HI.out⟩
      simp

end Go.Proofs.YtfaeechidjpjbaaGreat
