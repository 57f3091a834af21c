/-
  Laid together for a hand-in: RPush9, RLv9, RtOf9, OfL9.
-/
import Derived.Test.YtbdocaohnigekaaGreatZ12
import Derived.Test.YtbdocaohnigekaaGreatZ15
import Derived.Test.YtbdocaohnigekaaGreatZ14

namespace Go.Proofs.YtbdocaohnigekaaGreat
open Go.RowKit Go.Maps
set_option linter.unusedVariables false

def noteR (s : Lk) (ls : List (List UInt8)) : Lk := ls.foldl stepR s
theorem noteR_append (s : Lk) (a b : List (List UInt8)) : noteR s (a ++ b) = noteR (noteR s a) b := List.foldl_append
theorem noteR_snoc (s : Lk) (a : List (List UInt8)) (x : List UInt8) : noteR s (a ++ [x]) = stepR (noteR s a) x := by rw [noteR_append]; rfl
theorem stepR_len (s : Lk) (x : List UInt8) : (stepR s x).1.length ≤ s.1.length + 1 ∧ (stepR s x).2 ≤ s.2 + 1 := by
  unfold stepR rofL
  split
  · refine ⟨?_, by simp⟩
    show (if x ∈ s.1 then s.1 else s.1 ++ [x]).length ≤ _
    split
    · omega
    · simp
  · exact ⟨by simp, by simp⟩
theorem noteR_len (s : Lk) (ls : List (List UInt8)) : (noteR s ls).1.length ≤ s.1.length + ls.length ∧ (noteR s ls).2 ≤ s.2 + ls.length := by
  induction ls generalizing s with
  | nil => exact ⟨Nat.le_refl _, Nat.le_refl _⟩
  | cons x ls ih =>
    have h1 := stepR_len s x
    have h2 := ih (stepR s x)
    simp only [noteR, List.foldl_cons, List.length_cons] at *
    omega
theorem noteR_take (s : Lk) (ls : List (List UInt8)) {k : Nat} (hk : k < ls.length) : noteR s (ls.take (k + 1)) = stepR (noteR s (ls.take k)) ls[k] := by
  rw [List.take_succ_eq_append_getElem hk, noteR_snoc]

section
variable {P : Program} {ops : Array Oper} {Q : Exit → Act → World → Prop}
theorem wp_appendG {rest : List Oper} {o : Oper} {a : Act} {w : World} (hgd : o.guard = none) (s x : Operand) (t1 t2 : TypeId)
    (ho : o.op = .call { callee := .builtin .append, args := #[s, x], argTypes := #[t1, t2] }) (v xs v' : Value) (w' : World) (hs : a.eval s = v) (hx : a.eval x = xs)
    (hrun : (Builtin.append_ #[t1, t2] o.type #[v, xs]).run P w = .ok v' w') (h : wpList P ops Q rest (a.put o.dst v') w') : wpList P ops Q (o :: rest) a w := by
  refine wpList_plain hgd fun K hK => ?_
  unfold Oper.wp execOp
  simp only [ho, resolve, invoke, builtin, Sem.run_bind, Sem.run_pure, Result.andThen_ok, List.map_toArray, List.map_cons, List.map_nil, hs, hx, hrun]
  exact hK _ _ h
end

section
variable {P : Program} {ops : Array Oper} {Q : Exit → Act → World → Prop}
theorem wpList_row {rest : List Oper} {o : Oper} {a : Act} {w : World} (hgd : o.guard = none) (t : TypeId) (n : Nat) (parts : Array (Nat × Operand)) (ho : o.op = .buildSlice t n parts)
    (v : Value) (w' : World) (hrun : (Instr.buildSlice t n (parts.map fun p => (p.1, a.eval p.2))).run P w = .ok v w') (h : wpList P ops Q rest (a.put o.dst v) w') : wpList P ops Q (o :: rest) a w := by
  refine wpList_plain hgd fun K hK => ?_
  have he' : (Instr.buildSlice t n (parts.map fun (i, x) => (i, a.eval x))).run P w = .ok v w' := hrun
  unfold Oper.wp execOp
  simp only [ho, Sem.run_bind, he', Result.andThen_ok]
  exact hK _ _ h
end

/-- A digest laid into a variable, and appended to a row of the call's own. -/
theorem push_dg (w1 : World) (base : Nat) (v : Value) (l : List Dg) (h32 : All32 l) (hown : w1.ownsRow base 46 32 v l.length (cbs l.flatten)) (d : Dg) (hd : d.length = 32) (hl : l.length ≤ 100000) (hbase : base ≤ w1.heap.size) (D : List Value) (hD : cbs d = D) :
    ∃ wS v' w', (w1.alloc (.cells (cbs (List.replicate 32 0)).toArray 46)).setCells w1.heap.size 0 D = wS ∧
      ((w1.alloc (.cells (cbs (List.replicate 32 0)).toArray 46)).there w1.heap.size 0 D.toArray.size ∧ (Tryz.prog.info? 46).map (·.size) = some D.toArray.size) ∧
      wS.rangeAt w1.heap.size 0 D ∧ (Builtin.append_ #[41, 41] 41 #[v, .slice (some ⟨wS.heap.size, 0, none⟩) 1 1]).run Tryz.prog (wS.alloc (.cells D.toArray 46)) = .ok v' w' ∧
      w'.ownsRow base 46 32 v' (l ++ [d]).length (cbs (l ++ [d]).flatten) ∧ w1.grownBy w' v.ownBlock ∧ ∀ b, v'.ownBlock = some b → v.ownBlock = some b ∨ (w1.heap.size ≤ b ∧ b < w'.heap.size) := by
  have hD32 : D.length = 32 := by rw [← hD, cbs_length, hd]
  obtain ⟨wS, hwS, hst, hbS, hbel, hsz⟩ := dig_local w1 D hD32
  have hbA : Below wS.heap.size wS (wS.alloc (.cells D.toArray 46)) := (Below.refl _ _).alloc (Nat.le_refl _) _
  have hrA : (wS.alloc (.cells D.toArray 46)).ownsRow base 46 32 v l.length (cbs l.flatten) := row_stay hown fun b cs hb hc => by
    have hlt : b < w1.heap.size := by
      rcases Nat.lt_or_ge b w1.heap.size with h | h
      · exact h
      · rw [Array.getElem?_eq_none h] at hc; cases hc
    exact (hbA.block b (by omega)).trans (hbel.block b hlt)
  have hg : Blk (wS.alloc (.cells D.toArray 46)) wS.heap.size 46 (cbs d) := by rw [hD]; exact Blk.new rfl rfl
  obtain ⟨v', w', h1, h2, h3, h4⟩ := run_appendDg _ base v l h32 hrA wS.heap.size d hd hg hl (by simp; omega) 41
  have hb1 : Below w1.heap.size w1 (wS.alloc (.cells D.toArray 46)) := hbel.trans (hbA.mono (by omega))
  refine ⟨wS, v', w', hwS, hst, hbS.range, h1, h2, ?_, fun b hb => ?_⟩
  rotate_left
  · rcases h4 with h4 | h4
    · exact .inl (by rw [← h4]; exact hb)
    · have hlt := (World.ownsRow.lt h2 b hb).2
      rw [h4] at hb
      injection hb with hb
      have := hb1.size
      exact .inr ⟨by omega, hlt⟩
  exact ⟨h3.os.trans hb1.os, h3.tape.trans hb1.tape, h3.output.trans hb1.output, Nat.le_trans hb1.size h3.size, fun i hi hn => (h3.block i (Nat.lt_of_lt_of_le hi hb1.size) hn).trans (hb1.block i hi)⟩

theorem sd_info9 : (Tryz.prog.info? 41).map (fun i => (i.zero.map (fun z => z.cells.size), i.size, i.bytes)) = some (some 1, 1, 24) := by kernel_rfl
theorem run_appendSD (w : World) (base : Nat) (v : Value) (n : Nat) (vs : List Value) (hown : w.ownsRow base 41 1 v n vs) (g : Nat) (x : Value) (hx : x.oneCell' = true) (hg : Blk w g 41 [x]) (hn : n ≤ 100000) (hbase : base ≤ w.heap.size) (ty : TypeId) :
    ∃ v' w', (Builtin.append_ #[79, 79] ty #[v, .slice (some ⟨g, 0, none⟩) 1 1]).run Tryz.prog w = .ok v' w' ∧ w'.ownsRow base 41 1 v' (n + 1) (vs ++ [x]) ∧ w.grownBy w' v.ownBlock ∧ (v'.ownBlock = v.ownBlock ∨ v'.ownBlock = some w.heap.size) := by
  have h := sd_info9
  cases hi : Tryz.prog.info? 41 with
  | none => rw [hi] at h; cases h
  | some i0 =>
    rw [hi] at h
    simp only [Option.map_some, Option.some.injEq, Prod.mk.injEq] at h
    obtain ⟨h1, h2, h3⟩ := h
    cases hz : i0.zero with
    | none => rw [hz] at h1; cases h1
    | some z0 =>
      rw [hz] at h1
      simp only [Option.map_some, Option.some.injEq] at h1
      obtain ⟨v', w', e1, e2, e3, _, e5⟩ := run_append_own_at (P := Tryz.prog) w base 79 ty 41 i0 z0 1 24 Tryz.underlying79 hi hz h2 h3 h1 (by decide) v n vs hown ⟨g, 0, none⟩ 1 1 [x]
        (by simp) (fun j u hu => by rw [add_mk, Nat.zero_add]; exact hg.cell hu) (fun u hu => by rw [List.mem_singleton.1 hu]; exact hx) (by simp only [maxLen]; omega) (by omega) hbase
      exact ⟨v', w', e1, e2, e3, e5⟩
/-- A slice of digests appended to a row of such. -/
theorem push_sd (w1 : World) (base : Nat) (v : Value) (n : Nat) (vs : List Value) (hown : w1.ownsRow base 41 1 v n vs) (x : Value) (hx : x.oneCell' = true) (hn : n ≤ 100000) (hbase : base ≤ w1.heap.size) :
    ∃ v' w', (Builtin.append_ #[79, 79] 79 #[v, .slice (some ⟨w1.heap.size, 0, none⟩) 1 1]).run Tryz.prog (w1.alloc (.cells #[x] 41)) = .ok v' w' ∧ w'.ownsRow base 41 1 v' (n + 1) (vs ++ [x]) ∧ w1.grownBy w' v.ownBlock ∧ ∀ b, v'.ownBlock = some b → v.ownBlock = some b ∨ (w1.heap.size ≤ b ∧ b < w'.heap.size) := by
  have hbA : Below w1.heap.size w1 (w1.alloc (.cells #[x] 41)) := (Below.refl _ _).alloc (Nat.le_refl _) _
  have hrA : (w1.alloc (.cells #[x] 41)).ownsRow base 41 1 v n vs := row_stay hown fun b cs hb hc => by
    have hlt : b < w1.heap.size := by
      rcases Nat.lt_or_ge b w1.heap.size with h | h
      · exact h
      · rw [Array.getElem?_eq_none h] at hc; cases hc
    exact hbA.block b hlt
  obtain ⟨v', w', h1, h2, h3, h4⟩ := run_appendSD _ base v n vs hrA w1.heap.size x hx (Blk.new rfl rfl) hn (by simp; omega) 79
  refine ⟨v', w', h1, h2, ⟨h3.os.trans hbA.os, h3.tape.trans hbA.tape, h3.output.trans hbA.output, Nat.le_trans hbA.size h3.size, fun i hi hn => (h3.block i (Nat.lt_of_lt_of_le hi hbA.size) hn).trans (hbA.block i hi)⟩, fun b hb => ?_⟩
  rcases h4 with h4 | h4
  · exact .inl (by rw [← h4]; exact hb)
  · have hlt := (World.ownsRow.lt h2 b hb).2
    rw [h4] at hb
    injection hb with hb
    have := hbA.size
    exact .inr ⟨by omega, hlt⟩
theorem row_one {w : World} {x : Value} {base g : Nat} {t : TypeId} (hg : w.heap.size = g) (hb : base ≤ g) : (w.alloc (.cells #[x] t)).ownsRow base t 1 (.slice (some ⟨g, 0, none⟩) 1 1) 1 [x] := by
  subst hg
  exact ⟨rfl, .inr ⟨_, 1, _, rfl, hb, heap_alloc_new w _, Nat.le_refl _, by decide, rfl, rfl⟩⟩
theorem row_form {w : World} {base n size : Nat} {e : TypeId} {v : Value} {xs : List Value} (h : w.ownsRow base e size v n xs) (hn : 1 ≤ n) : ∃ r c, v = .slice (some ⟨r, 0, none⟩) n c ∧ base ≤ r ∧ n ≤ c ∧ c ≤ maxLen := by
  rcases h.2 with ⟨_, e⟩ | ⟨r, c, cur, rfl, hb, hg, hnc, hcm, _⟩
  · omega
  · exact ⟨r, c, rfl, hb, hnc, hcm⟩
theorem row_ltv {w : World} {base n size : Nat} {e : TypeId} {v : Value} {xs : List Value} (h : w.ownsRow base e size v n xs) {b : Nat} (hb : v.ownBlock = some b) : base ≤ b ∧ b < w.heap.size := World.ownsRow.lt h b hb
theorem row_ne {w : World} {b1 b2 n1 n2 s1 s2 : Nat} {e1 e2 : TypeId} {v1 v2 : Value} {x1 x2 : List Value} (h1 : w.ownsRow b1 e1 s1 v1 n1 x1) (h2 : w.ownsRow b2 e2 s2 v2 n2 x2) (hne : e1 ≠ e2) {b : Nat} (hb1 : v1.ownBlock = some b) : v2.ownBlock ≠ some b := fun hb2 => by
  obtain ⟨c1, k1⟩ := row_block h1 hb1
  obtain ⟨c2, k2⟩ := row_block h2 hb2
  rw [k1] at k2
  injection k2 with e
  injection e with _ e
  exact hne e
theorem row_outv {S : Nat → Prop} {w w' : World} {base n size : Nat} {e : TypeId} {v : Value} {xs : List Value} (h : w.ownsRow base e size v n xs) (ho : Out S w w') (hn : ∀ b, v.ownBlock = some b → ¬ S b) : w'.ownsRow base e size v n xs :=
  row_stay h fun b cs hb _ => ho.block b (row_ltv h hb).2 (hn b hb)
theorem row_grown {w w' : World} {r : Option Nat} {base n size : Nat} {e : TypeId} {v : Value} {xs : List Value} (h : w.ownsRow base e size v n xs) (hg : w.grownBy w' r) (hn : ∀ b, v.ownBlock = some b → r ≠ some b) : w'.ownsRow base e size v n xs :=
  row_stay h fun b cs hb _ => hg.block b (row_ltv h hb).2 (fun e => hn b hb e.symm)
end Go.Proofs.YtbdocaohnigekaaGreat

namespace Go.Proofs.YtbdocaohnigekaaGreat
open Go.RowKit Go.Maps
set_option linter.unusedVariables false

def sdv (low : List Dg) (R : Nat → Nat × Nat) (j : Nat) : Value := .slice (some ⟨(R j).1, 0, none⟩) (lvl low j).length (R j).2
def NL (N : Nat → Prop) (vo : Value) (R : Nat → Nat × Nat) (k : Nat) (i : Nat) : Prop := N i ∨ vo.ownBlock = some i ∨ ∃ j, j ≤ k ∧ i = (R j).1
/-- The levels 0 to k, in rows made since w. -/
structure LvR (w0 : Nat) (low : List Dg) (R : Nat → Nat × Nat) (vo : Value) (k : Nat) (wr : World) : Prop where
  out : wr.ownsRow w0 41 1 vo (k + 1) ((List.range (k + 1)).map (sdv low R))
  rows : ∀ j, j ≤ k → wr.ownsRow w0 46 32 (sdv low R j) (lvl low j).length (cbs (lvl low j).flatten)
theorem LvR.nl {w0 : Nat} {low : List Dg} {R : Nat → Nat × Nat} {vo : Value} {k : Nat} {wr : World} (h : LvR w0 low R vo k wr) {i : Nat} (hi : vo.ownBlock = some i ∨ ∃ j, j ≤ k ∧ i = (R j).1) : w0 ≤ i ∧ i < wr.heap.size := by
  rcases hi with hi | ⟨j, hj, rfl⟩
  · exact row_ltv h.out hi
  · exact row_ltv (h.rows j hj) rfl
theorem LvR.outs {w0 : Nat} {low : List Dg} {R : Nat → Nat × Nat} {vo : Value} {k : Nat} {wr w' : World} {S : Nat → Prop} (h : LvR w0 low R vo k wr) (ho : Out S wr w') (hn : ∀ i, (vo.ownBlock = some i ∨ ∃ j, j ≤ k ∧ i = (R j).1) → ¬ S i) : LvR w0 low R vo k w' :=
  ⟨row_outv h.out ho fun b hb => hn b (.inl hb), fun j hj => row_outv (h.rows j hj) ho fun b hb => hn b (.inr ⟨j, hj, by simp [sdv, Value.ownBlock] at hb; exact hb.symm⟩)⟩
theorem LvR.first {w0 : Nat} {low : List Dg} {wr : World} {r c : Nat} (h : wr.ownsRow w0 46 32 (.slice (some ⟨r, 0, none⟩) low.length c) low.length (cbs low.flatten)) (hw : w0 ≤ wr.heap.size) :
    LvR w0 low (fun _ => (r, c)) (.slice (some ⟨wr.heap.size, 0, none⟩) 1 1) 0 (wr.alloc (.cells #[.slice (some ⟨r, 0, none⟩) low.length c] 41)) := by
  refine ⟨row_one rfl hw, fun j hj => ?_⟩
  obtain rfl : j = 0 := by omega
  exact row_stay h fun b cs hb hc => heap_alloc_old _ _ (row_ltv h hb).2
/-- One level more. -/
theorem LvR.next {w0 : Nat} {low : List Dg} {R : Nat → Nat × Nat} {vo vo' : Value} {k base rn cn : Nat} {wr w' : World} (h : LvR w0 low R vo k wr) (hb : w0 ≤ base)
    (hn : wr.ownsRow base 46 32 (.slice (some ⟨rn, 0, none⟩) (lvl low (k + 1)).length cn) (lvl low (k + 1)).length (cbs (lvl low (k + 1)).flatten))
    (hg : wr.grownBy w' vo.ownBlock) (ho : w'.ownsRow w0 41 1 vo' (k + 1 + 1) ((List.range (k + 1)).map (sdv low R) ++ [.slice (some ⟨rn, 0, none⟩) (lvl low (k + 1)).length cn])) :
    LvR w0 low (fun j => if j = k + 1 then (rn, cn) else R j) vo' (k + 1) w' := by
  have e : ∀ j, j ≤ k → sdv low (fun j => if j = k + 1 then (rn, cn) else R j) j = sdv low R j := fun j hj => by simp [sdv, show j ≠ k + 1 from by omega]
  have e1 : sdv low (fun j => if j = k + 1 then (rn, cn) else R j) (k + 1) = .slice (some ⟨rn, 0, none⟩) (lvl low (k + 1)).length cn := by simp [sdv]
  refine ⟨?_, fun j hj => ?_⟩
  · rw [List.range_succ, List.map_append, List.map_cons, List.map_nil, e1]
    have : (List.range (k + 1)).map (sdv low (fun j => if j = k + 1 then (rn, cn) else R j)) = (List.range (k + 1)).map (sdv low R) := List.map_congr_left fun j hj => e j (by rw [List.mem_range] at hj; omega)
    rw [this]
    exact ho
  · by_cases hjk : j = k + 1
    · subst hjk
      rw [e1]
      exact row_base (row_grown hn hg fun b hb => row_ne hn h.out (by decide) hb) hb
    · rw [e j (by omega)]
      exact row_grown (h.rows j (by omega)) hg fun b hb => row_ne (h.rows j (by omega)) h.out (by decide) hb

def RLvls (w w' : World) (v : Value) (low : List Dg) : Prop := ∃ R, LvR w.heap.size low R v (dep low.length - 1) w'

set_option maxRecDepth 100000 in
set_option maxHeartbeats 6400000 in
theorem rlevels_any (B g : Nat) (s : Lk) (N K : Nat → Prop) (A : Option Addr) (n c : Nat) (ls : List (List UInt8)) (w : World) (h : Rb B w g s N) (hB0 : B ≤ w.heap.size) (hL : s.1.length + 20000 < 1000000) (hk : s.2 + 20000 < 1000000)
    (hn : ls.length = n) (h1 : 1 ≤ n) (h2 : n ≤ 1024) (hls : ∀ x ∈ ls, x.length ≤ 65535) (hl : LvsAt w K A ls) (hK : ∀ j, K j → j < w.heap.size ∧ (j < B ∨ N j)) :
    Calls Tryz.prog 35 #[.pointer (some ⟨g, 0, none⟩), .slice A n c] w fun e w' =>
      ∃ v, e = .returned v ∧ RLvls w w' v (lows ls) ∧ Rb B w' g (noteR s (insTo ls (dep n - 1))) N ∧ Out (Tr B w N) w w' := by
  obtain ⟨low, hlow⟩ : ∃ low, lows ls = low := ⟨_, rfl⟩
  have hll : low.length = n := by rw [← hlow, lows_len, hn]
  have hall : All32 low := by rw [← hlow]; exact all32_lows _
  have hKn : ∀ j, K j → j < w.heap.size ∧ ¬ Tr B w N j := fun j hj => ⟨(hK j hj).1, fun e => by
    rcases (hK j hj).2 with h | h
    · have := e.1; omega
    · exact e.2.1 h⟩
  have Hh := Lib.hid (And.intro h (And.intro hL (And.intro hk (And.intro hn (And.intro hls (And.intro hl (And.intro hKn (And.intro hlow (And.intro hll (And.intro hall hB0))))))))))
  have hAf : ∃ b off, A = some ⟨b, off, none⟩ := by obtain ⟨b, off, e, _⟩ := hl; exact ⟨b, off, e⟩
  obtain ⟨lb, lo, rfl⟩ := hAf
  rw [hlow]
  clear h hL hk hn hls hl hK hKn hlow hll hall hB0
  go_enter Tryz.func35, Tryz.ntmps35
  go_wp2
  go_loopw [5, 6, 7, 8] (fun v iv _ _ wr => ∃ k : Nat, k ≤ n ∧ iv = .int .i64 (k : Int) ∧ wr.ownsRow w.heap.size 46 32 v k (cbs (low.take k).flatten) ∧ Rb B wr g (noteR s ((ls.map leafIn).take k)) (fun i => N i ∨ v.ownBlock = some i) ∧ Out (Tr B w N) w wr) (fun _ iv _ _ _ => n - (intOf iv).toNat)
  case atStart => exact ⟨0, Nat.zero_le _, rfl, World.ownsRow_nil _ _ _ _, Hh.out.1.less fun i hi => by
    rcases hi with hi | hi
    · exact hi
    · simp [Value.ownBlock] at hi, Out.refl _ _⟩
  case round =>
    obtain ⟨k, hk, rfl, hR, hRb, hO⟩ := hrel
    obtain ⟨h, hL, hks, hn, hls, hl, hKn, hlow, hll, hall, hB0⟩ := Hh.out
    by_cases hlt : k < n
    · have hkl : k < ls.length := by omega
      obtain ⟨b', off', e', hkb, hcc⟩ := hl.stays ((Stays.refl K w).out hKn hO)
      cases e'
      obtain ⟨Aj, cj, hc, hle, hcm, hBx, hKx⟩ := hcc k hkl
      have hx6 : (ls[k]'hkl).length ≤ 65535 := hls _ (List.getElem_mem _)
      have hlk : low[k]'(by omega) = digest (leafIn (ls[k]'hkl)) := by subst hlow; simp [lows]
      have hst : low.take (k + 1) = low.take k ++ [low[k]'(by omega)] := List.take_succ_eq_append_getElem (by omega)
      have hst2 := noteR_take s (ls.map leafIn) (k := k) (by simp; omega)
      rw [hlk] at hst
      simp only [List.getElem_map] at hst2
      generalize (ls[k]'hkl) = x at *
      obtain ⟨nj, hnj⟩ : ∃ a, x.length = a := ⟨_, rfl⟩
      rw [hnj] at hc hle hx6
      have hnl := noteR_len s ((ls.map leafIn).take k)
      rw [List.length_take, List.length_map] at hnl
      have hlf := rleaf_any B g _ _ Aj nj cj x wr hRb (Nat.le_trans hB0 hO.size) (by omega) (by omega) hBx hnj hle hcm hx6
      obtain ⟨D, hD⟩ : ∃ D, cbs (digest (leafIn x)) = D := ⟨_, rfl⟩
      rw [hD] at hlf
      rw [← hst2] at hlf
      have hD32 : D.length = 32 := by rw [← hD, cbs_length, dlen]
      have hD1 : D.toArray.all (·.oneCell') = true := by rw [← hD]; exact cbs_one' _
      have hDi : (Tryz.prog.info? 46).map (·.size) = some D.length := by rw [hD32]; exact info32b
      have hm2 : ∀ i : Int, 0 ≤ (k : Int) ∧ (k : Int) < (n : Int) := fun _ => by omega
      have Hlf := Lib.hid hlf
      have H0 := Lib.hid (And.intro hR (And.intro hO (And.intro hst (And.intro hD (And.intro hD1 hDi)))))
      have k0 : (0 : Int) ≤ (k : Int) := by omega
      have k1 : (k : Int) < (n : Int) := by omega
      clear hR hRb hO hcc hle hcm hBx hKx hlk hst hst2 hnl hlf hD hD32 hD1 hDi h hL hks hn hls hl hKn hll hall hB0 hkb hx6 hnj hm2
      go_wp2_with fail
      refine Hlf.out.mono ?_
      rintro e w1 ⟨rfl, hRb1, hO1⟩
      obtain ⟨hR, hO, hst, hD, hD1, hDi⟩ := H0.out
      have hall := Hh.out.2.2.2.2.2.2.2.2.2.1
      have hR1 := row_outv hR hO1 fun b hb => Tr.keep (.inr hb)
      have htl : (low.take k).length = k := by rw [List.length_take, Hh.out.2.2.2.2.2.2.2.2.1]; omega
      have hsz1 : w.heap.size ≤ w1.heap.size := Nat.le_trans hO.size hO1.size
      obtain ⟨wS, v', w', hwS, hth, hrg, hap, hR', hg', hb'⟩ := push_dg w1 w.heap.size _ (low.take k) (fun x hx => hall x (List.mem_of_mem_take hx)) (by rw [htl]; exact hR1) (digest (leafIn x)) (dlen _) (by omega) hsz1 D hD
      rw [← hst] at hR'
      have hRl : (low.take (k + 1)).length = k + 1 := by rw [List.length_take, Hh.out.2.2.2.2.2.2.2.2.1]; omega
      rw [hRl] at hR'
      have hRb' : Rb B w' g (noteR s ((ls.map leafIn).take (k + 1))) (fun i => N i ∨ v'.ownBlock = some i) := hRb1.grown hg' (fun i hi => .inr hi) fun i hi => by
        rcases hi with hi | hi
        · exact .inl (.inl hi)
        · rcases hb' i hi with h | h
          · exact .inl (.inr h)
          · exact .inr h
      have hO' : Out (Tr B w N) w w' := (hO.tr hO1 fun i _ hi => .inl hi).then_grown hg' fun i hi h => by
        have := (row_ltv hR1 hi).1; omega
      have HwS := Lib.hid hwS
      have Hs := Lib.hid (And.intro hth.1 (And.intro hth.2 (And.intro hD1 (And.intro hrg (And.intro hDi (And.intro hap (run_buildDg D (show D.length = 32 from by rw [← hD, cbs_length, dlen]) wS)))))))
      have H1 := Lib.hid (And.intro hR' (And.intro hRb' hO'))
      clear hR hO hst hD hD1 hDi hall hR1 htl hsz1 hwS hth hrg hap hR' hg' hb' hRl hRb' hO' hRb1 hO1 Hlf hc
      go_wp2_with (first
        | (refine wpList_store_mid rfl 46 _ _ rfl w1.heap.size 0 D.toArray rfl rfl Hs.out.1 Hs.out.2.1 Hs.out.2.2.1 ?_; simp only [Act.put]; refine cast (congrArg (fun z => wpList _ _ _ _ _ z) HwS.out.symm) ?_)
        | (refine wpList_load_mid rfl 46 _ rfl w1.heap.size 0 rfl D _ Hs.out.2.2.2.1 Tryz.underlying46 rfl Hs.out.2.2.2.2.1 ?_; simp only [Act.put])
        | (refine wpList_row rfl 41 1 _ rfl (.slice (some ⟨wS.heap.size, 0, none⟩) 1 1) (wS.alloc (.cells D.toArray 46)) (by simp only [List.map_toArray, List.map_cons, List.map_nil]; exact Hs.out.2.2.2.2.2.2) ?_; simp only [Act.put])
        | (at_builtin; refine wp_appendG rfl _ _ _ _ rfl _ _ v' w' rfl rfl Hs.out.2.2.2.2.2.1 ?_))
      go_roundw
      case rel => exact ⟨k + 1, by omega, by go_num, H1.out.1, H1.out.2.1, H1.out.2.2⟩
      case measure => simp [intOf]; omega
    · obtain rfl : k = n := by omega
      rw [List.take_of_length_le (by omega)] at hR
      rw [List.take_of_length_le (by simp; omega)] at hRb
      have hown0 := hR
      obtain ⟨r0, c0, rfl, hr0, hc0, hcm0⟩ := row_form hR h1
      have hz0 := hO.size
      obtain ⟨wA, hwA⟩ : ∃ wA, wr.alloc (.cells #[.slice (some ⟨r0, 0, none⟩) k c0] 41) = wA := ⟨_, rfl⟩
      have hbA : Below wr.heap.size wr wA := by rw [← hwA]; exact (Below.refl _ _).alloc (Nat.le_refl _) _
      have hLv : LvR w.heap.size low (fun _ => (r0, c0)) (.slice (some ⟨wr.heap.size, 0, none⟩) 1 1) 0 wA := by
        have := LvR.first (low := low) (wr := wr) (r := r0) (c := c0) (by rw [hll]; exact hR) hz0
        rw [hll, hwA] at this
        exact this
      have hzA : wA.heap.size = wr.heap.size + 1 := by rw [← hwA]; simp
      have hRbA : Rb B wA g (noteR s (insTo ls 0)) (NL N (.slice (some ⟨wr.heap.size, 0, none⟩) 1 1) (fun _ => (r0, c0)) 0) := hRb.belowN hbA fun i hi => by
        rcases hi with hi | hi | ⟨j, hj, rfl⟩
        · exact .inl (.inl hi)
        · simp [Value.ownBlock] at hi; exact .inr ⟨by omega, by omega⟩
        · exact .inl (.inr rfl)
      have hOA : Out (Tr B w N) w wA := hO.then_below hbA
      obtain ⟨d, hd⟩ : ∃ d, dep k = d := ⟨_, rfl⟩
      have hd1 := dep_pos k
      have hd6 := dep_le h2
      rw [hd] at hd1 hd6
      have HA := Lib.hid (And.intro hLv (And.intro hRbA (And.intro hOA (And.intro hd (And.intro hwA hll)))))
      have hk1 : ¬ (k : Int) < (k : Int) := by omega
      clear hR hRb hown0 hO hr0 hc0 hcm0 hz0 hbA hLv hzA hRbA hOA hd hwA h hL hks hn hls hl hKn hlow hll hall hB0
      go_wp2
      go_loopw [5, 9, 10, 11, 12, 13] (fun v5 v9 _ _ _ _ wr => ∃ (j : Nat) (R : Nat → Nat × Nat), j + 1 ≤ d ∧ v5 = sdv low R j ∧ LvR w.heap.size low R v9 j wr ∧ Rb B wr g (noteR s (insTo ls j)) (NL N v9 R j) ∧ Out (Tr B w N) w wr) (fun v5 _ _ _ _ _ _ => match v5 with | .slice _ q _ => q | _ => 0)
      case atStart =>
        obtain ⟨hLv, hRbA, hOA, hd, hwA, hll⟩ := HA.out
        refine ⟨0, fun _ => (r0, c0), hd1, ?_, by rw [hwA]; exact hLv, by rw [hwA]; exact hRbA, by rw [hwA]; exact hOA⟩
        show _ = Value.slice (some ⟨r0, 0, none⟩) low.length c0
        rw [hll]
      case round =>
        obtain ⟨j, R, hj, rfl, hLv, hRb, hO⟩ := hrel
        obtain ⟨wo, hwo⟩ : ∃ wo, wo = wr := ⟨_, rfl⟩
        subst hwo
        obtain ⟨h, hL, hks, hn, hls, hl, hKn, hlow, hll, hall, hB0⟩ := Hh.out
        have hd := HA.out.2.2.2.1
        obtain ⟨q, hq⟩ : ∃ q, (lvl low j).length = q := ⟨_, rfl⟩
        obtain ⟨r, hr⟩ : ∃ r, (R j).1 = r := ⟨_, rfl⟩
        obtain ⟨cc, hcc⟩ : ∃ cc, (R j).2 = cc := ⟨_, rfl⟩
        have hsd : sdv low R j = .slice (some ⟨r, 0, none⟩) q cc := by unfold sdv; rw [hr, hcc, hq]
        have hqw : q = wid k j := by rw [← hq, lvl_len, hll]
        have hq1 : 1 ≤ q := by rw [hqw]; exact wid_pos h1 j
        have hqk : q ≤ 1024 := by rw [hqw]; exact Nat.le_trans (wid_le k j h1) h2
        have hrj := hLv.rows j (Nat.le_refl _)
        rw [hsd] at hrj ⊢
        have hqc : q ≤ cc := by
          rcases hrj.2 with ⟨e, _⟩ | ⟨_, _, _, e, _, _, h3, _⟩
          · cases e
          · injection e with _ e2 e3; omega
        by_cases hlast : j + 1 < d
        · have hq2 : 1 < q := by rw [hqw]; exact wid_more h1 (by omega)
          have hnl := noteR_len s (insTo ls j)
          have hil := insTo_len ls (by omega) j
          have hil2 : ls.length * (j + 1) ≤ 1024 * 6 := Nat.mul_le_mul (by omega) (by omega)
          obtain ⟨sj, hsj⟩ : ∃ sj, noteR s (insTo ls j) = sj := ⟨_, rfl⟩
          rw [hsj] at hRb hnl
          have hnx : (lvl low (j + 1)).length = (q + 3) / 4 := by rw [lvl, next_len, hq]
          have Hj := Lib.hid (And.intro hLv (And.intro hRb (And.intro hO (And.intro hrj (And.intro hq (And.intro hsj (And.intro hnx (And.intro (show sj.1.length + 10000 < 1000000 by omega) (And.intro (show sj.2 + 10000 < 1000000 by omega) (And.intro hqc hr))))))))))
          have g1 : (1 : Int) < (q : Int) := by omega
          clear hLv hRb hO hrj hq hr hcc hsd hqw hnl hil hil2 hsj hnx h hL hks hn hls hl hKn hlow hll hall hB0 hd hqc
          go_wp2
          go_loopw [10, 11, 12, 13] (fun vn iv _ _ wi => ∃ i : Nat, i ≤ (q + 3) / 4 ∧ iv = .int .i64 ((4 * i : Nat) : Int) ∧ wi.ownsRow wo.heap.size 46 32 vn i (cbs ((lvl low (j + 1)).take i).flatten) ∧ Rb B wi g (noteR sj ((ups (lvl low j)).take i)) (fun x => NL N u9 R j x ∨ vn.ownBlock = some x) ∧ Out (Tr B wo (NL N u9 R j)) wo wi) (fun _ iv _ _ _ => q + 3 - (intOf iv).toNat)
          case atStart => exact ⟨0, Nat.zero_le _, rfl, World.ownsRow_nil _ _ _ _, Hj.out.2.1.less fun i hi => by
            rcases hi with hi | hi
            · exact hi
            · simp [Value.ownBlock] at hi, Out.refl _ _⟩
          case round =>
            obtain ⟨i, hi, rfl, hR, hRbi, hOi⟩ := hrel
            obtain ⟨hLv, hRb, hO, hrj, hq, hsj, hnx, hb1, hb2, hqc, hrR⟩ := Hj.out
            have hall := Hh.out.2.2.2.2.2.2.2.2.2.1
            have hB0 := Hh.out.2.2.2.2.2.2.2.2.2.2
            obtain ⟨f, hf⟩ : ∃ f, 4 * i = f := ⟨_, rfl⟩
            rw [hf]
            have hzo := hOi.size
            by_cases hin : f < q
            · have hrw := row_outv hrj hOi fun b hb => Tr.keep (.inr (.inr ⟨j, Nat.le_refl _, by
                simp [Value.ownBlock] at hb
                rw [← hb, hrR]⟩))
              have hDs : Ds wr (some ⟨r, 0, none⟩) (lvl low j) := by
                have h := hrw
                rw [← hq] at h
                exact Shows.ofOwn h
              have h32j := all32_lvl hall j
              have h32n := all32_lvl hall (j + 1)
              obtain ⟨hF, hFl⟩ := ds_four hDs h32j i (by omega)
              rw [hq] at hFl
              have hi4 : i < (lvl low (j + 1)).length := by omega
              have hget : (lvl low (j + 1))[i]'hi4 = digest (upIn (four (lvl low j) i)) := by
                have h3 := next_get (lvl low j) i
                rw [if_pos (by omega)] at h3
                have h4 : (lvl low (j + 1))[i]? = (next (lvl low j))[i]? := rfl
                rw [List.getElem?_eq_getElem hi4, h3] at h4
                exact Option.some.inj h4
              have hst : (lvl low (j + 1)).take (i + 1) = (lvl low (j + 1)).take i ++ [digest (upIn (four (lvl low j) i))] := by
                rw [List.take_succ_eq_append_getElem hi4, hget]
              have hul : i < (ups (lvl low j)).length := by rw [ups_len, hq]; omega
              have hst2 := noteR_take sj (ups (lvl low j)) hul
              have hug : (ups (lvl low j))[i]'hul = upIn (four (lvl low j) i) := by simp [ups]
              rw [hug] at hst2
              have hnl := noteR_len sj ((ups (lvl low j)).take i)
              rw [List.length_take, ups_len, hq] at hnl
              obtain ⟨fe, hfe⟩ : ∃ fe, min (f + 4) q = fe := ⟨_, rfl⟩
              have hsl := fun w => sl_two r q cc f fe (by omega) (by omega) w
              have hmin : ∀ ts t w, (Builtin.min_ ts t #[.int .i64 ((f : Int) + 4), .int .i64 (q : Int)]).run Tryz.prog w = .ok (.int .i64 (fe : Int)) w := fun ts t w => by
                rw [run_min_int2]; congr 2; split <;> omega
              have hup := rup_any B g _ _ (some ⟨r, f * 32, none⟩) (fe - f) (cc - f) (four (lvl low j) i) wr hRbi (Nat.le_trans hB0 (Nat.le_trans hO.size hzo)) (by omega) (by omega) (by rw [← hf, Nat.mul_comm 4 i]; exact hF) (h32j.four i) (by rw [hFl]; omega) (by omega) (by omega)
              rw [← hst2] at hup
              obtain ⟨D, hD⟩ : ∃ D, cbs (digest (upIn (four (lvl low j) i))) = D := ⟨_, rfl⟩
              rw [hD] at hup
              have hD32 : D.length = 32 := by rw [← hD, cbs_length, dlen]
              have hD1 : D.toArray.all (·.oneCell') = true := by rw [← hD]; exact cbs_one' _
              have hDi : (Tryz.prog.info? 46).map (·.size) = some D.length := by rw [hD32]; exact info32b
              have Hup := Lib.hid hup
              have H0 := Lib.hid (And.intro hR (And.intro hOi (And.intro hst (And.intro hD (And.intro hD1 (And.intro hDi (And.intro hf h32n)))))))
              have f0 : (0 : Int) ≤ (f : Int) := by omega
              have f1 : (f : Int) < (q : Int) := by omega
              have f2 : (f : Int) ≤ 1024 := by omega
              have il : i < (q + 3) / 4 := by omega
              clear hrw hDs h32j h32n hF hFl hi4 hget hst hul hst2 hug hnl hfe hup hD hD32 hD1 hDi hR hRbi hOi hLv hRb hO hrj hq hsj hnx hb1 hb2 hqc hall hB0 hf hzo hi hrR
              go_wp2_with fail
              refine Hup.out.mono ?_
              rintro e w1 ⟨rfl, hRb1, hO1⟩
              obtain ⟨hR, hOi, hst, hD, hD1, hDi, hf, h32n⟩ := H0.out
              have hR1 := row_outv hR hO1 fun b hb => Tr.keep (.inr hb)
              have htl : ((lvl low (j + 1)).take i).length = i := by rw [List.length_take, Hj.out.2.2.2.2.2.2.1]; omega
              obtain ⟨wS, v', w', hwS, hth, hrg, hap, hR', hg', hb'⟩ := push_dg w1 wo.heap.size _ ((lvl low (j + 1)).take i) (fun x hx => h32n x (List.mem_of_mem_take hx)) (by rw [htl]; exact hR1) (digest (upIn (four (lvl low j) i))) (dlen _) (by omega) (Nat.le_trans hOi.size hO1.size) D hD
              rw [← hst] at hR'
              have hRl : ((lvl low (j + 1)).take (i + 1)).length = i + 1 := by rw [List.length_take, Hj.out.2.2.2.2.2.2.1]; omega
              rw [hRl] at hR'
              have hRb' : Rb B w' g (noteR sj ((ups (lvl low j)).take (i + 1))) (fun x => NL N u9 R j x ∨ v'.ownBlock = some x) := hRb1.grown hg' (fun i hi => .inr hi) fun i hi => by
                rcases hi with hi | hi
                · exact .inl (.inl hi)
                · rcases hb' i hi with h | h
                  · exact .inl (.inr h)
                  · exact .inr h
              have hO' : Out (Tr B wo (NL N u9 R j)) wo w' := (hOi.tr hO1 fun i _ hi => .inl hi).then_grown hg' fun i hi h => by
                have := (row_ltv hR1 hi).1; omega
              have HwS := Lib.hid hwS
              have Hs := Lib.hid (And.intro hth.1 (And.intro hth.2 (And.intro hD1 (And.intro hrg (And.intro hDi (And.intro hap (run_buildDg D (show D.length = 32 from by rw [← hD, cbs_length, dlen]) wS)))))))
              have H1 := Lib.hid (And.intro hR' (And.intro hRb' (And.intro hO' hf)))
              clear hR hOi hst hD hD1 hDi hf h32n hR1 htl hwS hth hrg hap hR' hg' hb' hRl hRb' hO' hRb1 hO1 Hup
              go_wp2_with (first
                | (refine wpList_store_mid rfl 46 _ _ rfl w1.heap.size 0 D.toArray rfl rfl Hs.out.1 Hs.out.2.1 Hs.out.2.2.1 ?_; simp only [Act.put]; refine cast (congrArg (fun z => wpList _ _ _ _ _ z) HwS.out.symm) ?_)
                | (refine wpList_load_mid rfl 46 _ rfl w1.heap.size 0 rfl D _ Hs.out.2.2.2.1 Tryz.underlying46 rfl Hs.out.2.2.2.2.1 ?_; simp only [Act.put])
                | (refine wpList_row rfl 41 1 _ rfl (.slice (some ⟨wS.heap.size, 0, none⟩) 1 1) (wS.alloc (.cells D.toArray 46)) (by simp only [List.map_toArray, List.map_cons, List.map_nil]; exact Hs.out.2.2.2.2.2.2) ?_; simp only [Act.put])
                | (at_builtin; refine wp_appendG rfl _ _ _ _ rfl _ _ v' w' rfl rfl Hs.out.2.2.2.2.2.1 ?_))
              go_roundw
              case rel => exact ⟨i + 1, by omega, by rw [show 4 * (i + 1) = f + 4 from by have := H1.out.2.2.2; omega]; go_num, H1.out.1, H1.out.2.1, H1.out.2.2.1⟩
              case measure => simp [intOf]; omega
            · have hii : i = (q + 3) / 4 := by omega
              have htl : (lvl low (j + 1)).take i = lvl low (j + 1) := List.take_of_length_le (by omega)
              rw [htl] at hR
              have htu : (ups (lvl low j)).take i = ups (lvl low j) := List.take_of_length_le (by rw [ups_len, hq]; omega)
              rw [htu] at hRbi
              have hown0 := hR
              obtain ⟨rn, cn, rfl, hrn, hcn, hcnm⟩ := row_form hR (by omega)
              have hLr : LvR w.heap.size low R u9 j wr := hLv.outs hOi fun x hx => Tr.keep (.inr hx)
              obtain ⟨v', w', hap, hR', hg', hb'⟩ := push_sd wr w.heap.size u9 (j + 1) _ hLr.out (.slice (some ⟨rn, 0, none⟩) i cn) rfl (by omega) (Nat.le_trans hO.size hzo)
              have hiL : i = (lvl low (j + 1)).length := by omega
              have hLn : LvR w.heap.size low (fun x => if x = j + 1 then (rn, cn) else R x) v' (j + 1) w' := hLr.next (base := wo.heap.size) hO.size (by rw [← hiL]; exact hR) hg' (by rw [← hiL]; exact hR')
              have hRn : Rb B w' g (noteR s (insTo ls (j + 1))) (NL N v' (fun x => if x = j + 1 then (rn, cn) else R x) (j + 1)) := by
                rw [insTo_succ, noteR_append, hsj, Hh.out.2.2.2.2.2.2.2.1]
                refine hRbi.grown hg' (fun x hx => .inl (.inr (.inl hx))) fun x hx => ?_
                rcases hx with hx | hx | ⟨y, hy, rfl⟩
                · exact .inl (.inl (.inl hx))
                · rcases hb' x hx with h | h
                  · exact .inl (.inl (.inr (.inl h)))
                  · exact .inr h
                · by_cases hyj : y = j + 1
                  · subst hyj
                    refine .inl (.inr ?_)
                    simp [Value.ownBlock]
                  · refine .inl (.inl (.inr (.inr ⟨y, by omega, ?_⟩)))
                    simp [hyj]
              have hOn : Out (Tr B w N) w w' := (hO.tr hOi fun x _ hx => .inl hx).then_grown hg' fun x hx h => by
                have := (hLr.nl (.inl hx)).1; omega
              have H1 := Lib.hid (And.intro hLn (And.intro hRn (And.intro hOn hiL)))
              have Hap := Lib.hid hap
              have Hii := Lib.hid hii
              clear hii
              have f1 : ¬ (f : Int) < (q : Int) := by omega
              clear htl htu hown0 hrn hcn hcnm hLr hap hR' hg' hb' hiL hLn hRn hOn hR hRbi hOi hLv hRb hO hrj hq hsj hnx hb1 hb2 hqc hall hB0 hf hzo hi hrR
              go_wp2_with (at_builtin; refine wp_appendG rfl _ _ _ _ rfl _ _ v' w' rfl rfl Hap.out ?_)
              go_roundw
              case rel =>
                refine ⟨j + 1, _, by omega, ?_, H1.out.1, H1.out.2.1, H1.out.2.2.1⟩
                have h := H1.out.2.2.2
                simp [sdv, ← h]
              case measure => have := Hii.out; simp; omega
        · have hj1 : j + 1 = d := by omega
          have hq0 : q = 1 := by rw [hqw]; exact wid_last h1 (by omega)
          have g1 : ¬ (1 : Int) < (q : Int) := by omega
          have H1 := Lib.hid (And.intro hLv (And.intro hRb (And.intro hO (And.intro hd hll))))
          clear hLv hRb hO hd hll hrj hq hr hcc hsd hqw h hL hks hn hls hl hKn hlow hall hB0 hqc
          go_wp2
          go_ret
          obtain ⟨hLv, hRb, hO, hd, hll⟩ := H1.out
          have e1 : dep k - 1 = j := by omega
          exact ⟨_, rfl, ⟨R, by rw [hll, e1]; exact hLv⟩, by rw [e1]; exact hRb.less fun i hi => .inl hi, hO⟩
end Go.Proofs.YtbdocaohnigekaaGreat

namespace Go.Proofs.YtbdocaohnigekaaGreat
open Go.RowKit Go.Maps
set_option linter.unusedVariables false

set_option maxRecDepth 100000 in
set_option maxHeartbeats 1600000 in
theorem rtof_any (B g : Nat) (s : Lk) (N K : Nat → Prop) (A : Option Addr) (n c : Nat) (ls : List (List UInt8)) (w : World) (h : Rb B w g s N) (hB0 : B ≤ w.heap.size) (hL : s.1.length + 20000 < 1000000) (hk : s.2 + 20000 < 1000000)
    (hn : ls.length = n) (h1 : 1 ≤ n) (h2 : n ≤ 1024) (hls : ∀ x ∈ ls, x.length ≤ 65535) (hl : LvsAt w K A ls) (hK : ∀ j, K j → j < w.heap.size ∧ (j < B ∨ N j)) :
    Calls Tryz.prog 26 #[.pointer (some ⟨g, 0, none⟩), .slice A n c] w fun e w' =>
      e = .returned (.tuple #[.agg (cbs (rootD (lows ls))).toArray, .int .i64 0]) ∧ Rb B w' g (noteR s (insTo ls (dep n - 1))) N ∧ Out (Tr B w N) w w' := by
  obtain ⟨w1, hw1⟩ : ∃ w1, w.alloc (.cells (cbs (List.replicate 32 0)).toArray 46) = w1 := ⟨_, rfl⟩
  have hbA : Below w.heap.size w w1 := by rw [← hw1]; exact (Below.refl _ _).alloc (Nat.le_refl _) _
  have hz1 : w1.heap.size = w.heap.size + 1 := by rw [← hw1]; simp
  have hZ : Blk w1 w.heap.size 46 (cbs (List.replicate 32 0)) := by rw [← hw1]; exact Blk.new rfl rfl
  have hst : Stays K w w1 := ⟨hbA.size, fun j hj => hbA.block j (hK j hj).1⟩
  have hl1 := hl.stays hst
  obtain ⟨D, hD⟩ : ∃ D, cbs (rootD (lows ls)) = D := ⟨_, rfl⟩
  have hrl : (rootD (lows ls)).length = 32 := root_len (by rw [lows_len]; omega) (all32_lows _)
  have hD32 : D.length = 32 := by rw [← hD, cbs_length, hrl]
  have hD1 : D.toArray.all (·.oneCell') = true := by rw [← hD]; exact cbs_one' _
  have hDi : (Tryz.prog.info? 46).map (·.size) = some D.length := by rw [hD32]; exact info32b
  have hR1 : Rb B w1 g s (fun i => N i ∨ i = w.heap.size) := h.belowN hbA fun i hi => by
    rcases hi with hi | rfl
    · exact .inl hi
    · exact .inr ⟨Nat.le_refl _, by omega⟩
  have hlv := rlevels_any B g s (fun i => N i ∨ i = w.heap.size) K A n c ls w1 hR1 (by omega) hL hk hn h1 h2 hls hl1 (fun j hj => ⟨by have := (hK j hj).1; omega, by
    rcases (hK j hj).2 with h | h
    · exact .inl h
    · exact .inr (.inl h)⟩)
  have hAf : ∃ b off, A = some ⟨b, off, none⟩ := by obtain ⟨b, off, e, _⟩ := hl; exact ⟨b, off, e⟩
  obtain ⟨lb, lo, rfl⟩ := hAf
  have Hlv : Hid (Calls Tryz.prog 35 #[.pointer (some ⟨g, 0, none⟩), .slice (some ⟨lb, lo, none⟩) n c] (w.alloc (.cells (cbs (List.replicate 32 0)).toArray 46)) fun e w' => ∃ v, e = .returned v ∧ RLvls w1 w' v (lows ls) ∧ Rb B w' g (noteR s (insTo ls (dep n - 1))) (fun i => N i ∨ i = w.heap.size) ∧ Out (Tr B w1 (fun i => N i ∨ i = w.heap.size)) w1 w') := by
    rw [hw1]; exact Lib.hid hlv
  have hc1 : ∀ k, k < n → ∃ Aj m cj, w1.cell? ⟨lb, lo + k, none⟩ = some (.slice Aj m cj) ∧ m ≤ 65535 := fun k hk => by
    obtain ⟨b', off', e', hkb, hcc⟩ := hl1
    cases e'
    obtain ⟨Aj, cj, hc, _⟩ := hcc k (by omega)
    exact ⟨Aj, _, cj, hc, hls _ (List.getElem_mem _)⟩
  have Hc : Hid (∀ k, k < n → ∃ Aj m cj, (w.alloc (.cells (cbs (List.replicate 32 0)).toArray 46)).cell? ⟨lb, lo + k, none⟩ = some (.slice Aj m cj) ∧ m ≤ 65535) := by rw [hw1]; exact Lib.hid hc1
  have H := Lib.hid (And.intro hbA (And.intro hz1 (And.intro hZ (And.intro hD (And.intro hD32 (And.intro hD1 (And.intro hDi (And.intro hn hw1))))))))
  rw [hD]
  have g1 : ¬ (n : Int) < 1 := by omega
  have g2 : ¬ (1024 : Int) < (n : Int) := by omega
  clear h hB0 hL hk hn hls hl hK hbA hz1 hZ hst hl1 hD hrl hD32 hD1 hDi hR1 hlv hc1 hw1
  go_enter Tryz.func26, Tryz.ntmps26
  go_wp2
  go_loopw [6] (fun iv wr => ∃ k : Nat, k ≤ n ∧ iv = .int .i64 (k : Int) ∧ wr = w.alloc (.cells (cbs (List.replicate 32 0)).toArray 46)) (fun iv _ => n - (intOf iv).toNat)
  case atStart => exact ⟨0, Nat.zero_le _, rfl, rfl⟩
  case round =>
    obtain ⟨k, hk, rfl, hwr⟩ := hrel
    by_cases hlt : k < n
    · obtain ⟨Aj, m, cj, hc, hm⟩ := Hc.out k hlt
      rw [← hwr] at hc
      have Hwr := Lib.hid hwr
      have k0 : (0 : Int) ≤ (k : Int) := by omega
      have k1 : (k : Int) < (n : Int) := by omega
      have m1 : ¬ (65536 : Int) ≤ (m : Int) := by omega
      clear hwr
      go_wp2
      go_roundw
      case rel => exact ⟨k + 1, by omega, by go_num, Hwr.out⟩
      case measure => simp [intOf]; omega
    · obtain rfl : k = n := by omega
      have k1 : ¬ (k : Int) < (k : Int) := by omega
      have Hwr := Lib.hid hwr
      clear hwr
      go_wp2_with fail
      rw [Hwr.out]
      refine Hlv.out.mono ?_
      rintro e w2 ⟨v, rfl, ⟨R, hLv⟩, hR2, hO2⟩
      obtain ⟨hbA, hz1, hZ, hD, hD32, hD1, hDi, hn, hw1⟩ := H.out
      obtain ⟨d, hd⟩ : ∃ d, dep (lows ls).length - 1 = d := ⟨_, rfl⟩
      have hd6 : dep (lows ls).length ≤ 6 := dep_le (by rw [lows_len]; omega)
      rw [hd] at hLv
      obtain ⟨ob, oc, rfl, hob, hoc, hocm⟩ := row_form hLv.out (by omega)
      have hr1 : lvl (lows ls) d = [rootD (lows ls)] := by rw [← hd]; exact root_one (by rw [lows_len]; omega)
      have hcell : w2.cell? ⟨ob, d, none⟩ = some (sdv (lows ls) R d) := by
        rw [World.ownsRow.cellAt hLv.out d (by omega), List.getElem?_map, List.getElem?_range (by omega)]; rfl
      have hrow := hLv.rows d (Nat.le_refl _)
      obtain ⟨r, hr⟩ : ∃ r, (R d).1 = r := ⟨_, rfl⟩
      obtain ⟨cc, hcc⟩ : ∃ cc, (R d).2 = cc := ⟨_, rfl⟩
      have hsd : sdv (lows ls) R d = .slice (some ⟨r, 0, none⟩) 1 cc := by unfold sdv; rw [hr, hcc, hr1]; rfl
      rw [hsd] at hcell hrow
      rw [hr1] at hrow
      have hrg : w2.rangeAt r 0 D := by
        rw [← hD]
        intro j u hu
        have hj : j < 32 := by
          rcases Nat.lt_or_ge j 32 with h | h
          · exact h
          · rw [hD, List.getElem?_eq_none (by omega)] at hu; cases hu
        rw [Nat.zero_add, World.ownsRow.cellAt hrow j (by simp; omega)]
        simpa using hu
      have hZ2 := hO2.blk hZ (Tr.keep (.inr rfl))
      have hsD : D.toArray.size = 32 := by rw [List.size_toArray]; exact hD32
      have hth : w2.there w.heap.size 0 D.toArray.size := by
        have e := hZ2.there
        rw [cbs_length, List.length_replicate] at e
        rw [hsD]; exact e
      have hi : (Tryz.prog.info? 46).map (·.size) = some D.toArray.size := by rw [hsD]; exact info32b
      have hRr := hZ2.setAll (vs := D) (by rw [hD32, cbs_length, List.length_replicate])
      have hRf : Rb B (w2.setCells w.heap.size 0 D) g (noteR s (insTo ls (dep k - 1))) N := (hR2.store (.inr rfl) 0 D).less fun i hi => .inl hi
      have hOf : Out (Tr B w N) w (w2.setCells w.heap.size 0 D) := Out.store ((Out.ofBelow (Tr B w N) hbA).tr hO2 fun i hi h => .inl h) (Nat.le_refl _) 0 D
      have H2 := Lib.hid (And.intro hth (And.intro hi (And.intro hD1 (And.intro hrg (And.intro hDi (And.intro hRr (And.intro hRf hOf)))))))
      have hd7 : (d : Int) ≤ 6 := by omega
      clear hLv hR2 hO2 hbA hz1 hZ hD hD32 hD1 hDi hn hw1 hd hob hoc hocm hr1 hrow hr hcc hsd hrg hZ2 hsD hth hi hRr hRf hOf hd6 Hlv
      go_wp2_with (first
        | (refine wpList_load_mid rfl 46 _ rfl r 0 rfl D _ H2.out.2.2.2.1 Tryz.underlying46 rfl H2.out.2.2.2.2.1 ?_; simp only [Act.put])
        | (refine wpList_store_mid rfl 46 _ _ rfl w.heap.size 0 D.toArray rfl rfl H2.out.1 H2.out.2.1 H2.out.2.2.1 ?_; simp only [Act.put]))
      refine bodyPost_ret (results_row_tmp rfl _ _ w.heap.size 46 D.toArray (0, 0) _ rfl H2.out.2.2.2.2.2.1 Tryz.underlying46 rfl H2.out.2.1) rfl ?_
      exact ⟨rfl, H2.out.2.2.2.2.2.2⟩
end Go.Proofs.YtbdocaohnigekaaGreat

namespace Go.Proofs.YtbdocaohnigekaaGreat
open Go.RowKit Go.Maps
set_option linter.unusedVariables false
set_option maxRecDepth 100000

theorem first_long (ls : List (List UInt8)) : (∀ x ∈ ls, x.length ≤ 65535) ∨ ∃ k, ∃ h : k < ls.length, 65535 < ls[k].length ∧ ∀ j (hj : j < k), (ls[j]'(by omega)).length ≤ 65535 := by
  induction ls with
  | nil => exact .inl fun x hx => by simp at hx
  | cons y ys ih =>
    by_cases hy : y.length ≤ 65535
    · rcases ih with ih | ⟨k, h, h1, h2⟩
      · refine .inl fun x hx => ?_
        rcases List.mem_cons.1 hx with rfl | hx
        · exact hy
        · exact ih x hx
      · refine .inr ⟨k + 1, by simp; omega, by simpa using h1, fun j hj => ?_⟩
        cases j with
        | zero => simpa using hy
        | succ j => simpa using h2 j (by omega)
    · exact .inr ⟨0, by simp, by simp; omega, fun j hj => by omega⟩

set_option maxRecDepth 100000 in
theorem idx_some {w : World} {n c : Nat} {A : Option Addr} {K : Nat → Prop} {ls : List (List UInt8)} (hl : LvsAt w K A ls) (hn : ls.length = n) (q : Nat) (hq : q < ls.length) (hlong : 65535 < (ls[q]'hq).length) (hls : ∀ j (hj : j < q), (ls[j]'(by omega)).length ≤ 65535) (hn2 : n ≤ 1024) :
    Calls Tryz.prog 52 #[.slice A n c, .func (.func 42) #[] #[]] w fun e w' => e = .returned (.int .i64 (q : Int)) ∧ w' = w := by
  obtain ⟨b, off, rfl, hkb, hc⟩ := hl
  have H := Lib.hid hc
  have Hls := Lib.hid (And.intro hls hlong)
  have Hqn := Lib.hid (show q < n by omega)
  clear hc hls hkb hlong
  go_enter Tryz.func52, Tryz.ntmps52
  go_wp2
  go_loopw [5, 8] (fun _ iv wr => ∃ k : Nat, k ≤ q ∧ iv = .int .i64 (k : Int) ∧ wr = w) (fun _ iv _ => n - (intOf iv).toNat)
  case atStart => exact ⟨0, Nat.zero_le _, rfl, rfl⟩
  case round =>
    obtain ⟨k, hk, rfl, rfl⟩ := hrel
    obtain ⟨Aj, cj, h1, h2, h3, h4, h5⟩ := H.out k (by omega)
    by_cases hlt : k < q
    · have hx : (ls[k]'(by omega)).length ≤ 65535 := Hls.out.1 k hlt
      obtain ⟨m, hm⟩ : ∃ m, (ls[k]'(by omega)).length = m := ⟨_, rfl⟩
      rw [hm] at h1 hx
      have Hno := Lib.hid (isLong_no Aj m cj wr hx)
      have i0 : (0 : Int) ≤ (k : Int) := by omega
      have i1 : (k : Int) < (n : Int) := by have := Hqn.out; omega
      clear h2 h3 h4 h5 hx hm
      go_wp2_with (go_at_call 42; refine Hno.out.mono ?_; rintro e w' ⟨rfl, rfl⟩)
      go_roundw
      case rel => exact ⟨k + 1, by omega, by go_num, trivial⟩
      case measure => have := Hqn.out; simp [intOf]; omega
    · obtain rfl : k = q := by omega
      have hx : 65535 < (ls[k]'(by omega)).length := Hls.out.2
      obtain ⟨m, hm⟩ : ∃ m, (ls[k]'(by omega)).length = m := ⟨_, rfl⟩
      rw [hm] at h1 hx
      have Hno := Lib.hid (isLong_yes Aj m cj wr hx)
      have i0 : (0 : Int) ≤ (k : Int) := by omega
      have i1 : (k : Int) < (n : Int) := by have := Hqn.out; omega
      clear h2 h3 h4 h5 hx hm
      go_wp2_with (go_at_call 42; refine Hno.out.mono ?_; rintro e w' ⟨rfl, rfl⟩)
      go_ret
      exact ⟨rfl, rfl⟩
theorem contains_some {w : World} {n c : Nat} {A : Option Addr} {K : Nat → Prop} {ls : List (List UInt8)} (hl : LvsAt w K A ls) (hn : ls.length = n) (q : Nat) (hq : q < ls.length) (hlong : 65535 < (ls[q]'hq).length) (hls : ∀ j (hj : j < q), (ls[j]'(by omega)).length ≤ 65535) (hn2 : n ≤ 1024) :
    Calls Tryz.prog 41 #[.slice A n c, .func (.func 42) #[] #[]] w fun e w' => e = .returned (.bool true) ∧ w' = w := by
  have Hi := Lib.hid (idx_some (c := c) hl hn q hq hlong hls hn2)
  have q0 : (0 : Int) ≤ (q : Int) := by omega
  clear hl hls hlong
  go_enter Tryz.func41, Tryz.ntmps41
  go_wp2_with (go_at_call 52; refine Hi.out.mono ?_; rintro e w' ⟨rfl, rfl⟩)
  go_ret
  exact ⟨rfl, rfl⟩

section
variable (v : Value) (A : Option Addr) (n c : Nat) (w : World)
theorem two_box : Below w.heap.size w ((w.alloc (.cells #[.slice A n c] 52)).alloc (.cells (cbs (List.replicate 32 0)).toArray 46)) ∧ ((w.alloc (.cells #[.slice A n c] 52)).alloc (.cells (cbs (List.replicate 32 0)).toArray 46)).there (w.heap.size + 1) 0 (cbs (List.replicate 32 0)).toArray.size ∧
    (((w.alloc (.cells #[.slice A n c] 52)).alloc (.cells (cbs (List.replicate 32 0)).toArray 46)).setCells (w.heap.size + 1) 0 (cbs (List.replicate 32 0))).heap[w.heap.size + 1]? = some (.cells (cbs (List.replicate 32 0)).toArray 46 (0, 0)) ∧ Below w.heap.size w (((w.alloc (.cells #[.slice A n c] 52)).alloc (.cells (cbs (List.replicate 32 0)).toArray 46)).setCells (w.heap.size + 1) 0 (cbs (List.replicate 32 0))) := by
  have hb : Below w.heap.size w ((w.alloc (.cells #[.slice A n c] 52)).alloc (.cells (cbs (List.replicate 32 0)).toArray 46)) := ((Below.refl _ _).alloc (Nat.le_refl _) _).alloc (by simp) _
  have hZ : Blk ((w.alloc (.cells #[.slice A n c] 52)).alloc (.cells (cbs (List.replicate 32 0)).toArray 46)) (w.heap.size + 1) 46 (cbs (List.replicate 32 0)) := Blk.new rfl (by simp)
  exact ⟨hb, hZ.there, hZ.setAll (vs := cbs (List.replicate 32 0)) rfl, Below.setCells (by omega) _ hb⟩
theorem tof_zero (h : n < 1 ∨ 1024 < n) :
    Calls Tryz.prog 25 #[v, .slice A n c] w fun e w' => e = .returned (.tuple #[.agg (cbs (List.replicate 32 0)).toArray, .int .i64 2]) ∧ Below w.heap.size w w' := by
  obtain ⟨hb, hth, hR, hb1⟩ := two_box A n c w
  have hnot : ∀ (x : Bool) (w : World), (Op.unary .not (.bool x)).run Tryz.prog w = .ok (.bool (!x)) w := fun _ _ => rfl
  have Hb := Lib.hid (And.intro hth (And.intro hR hb1))
  clear hb hth hR hb1
  go_enter Tryz.func25, Tryz.ntmps25
  go_wp2_with (first
    | (go_at_call 31; refine (isCount_no _ _ (by omega)).mono ?_; rintro e wx ⟨rfl, rfl⟩)
    | (refine wpList_store_mid rfl 46 _ _ rfl (w.heap.size + 1) 0 (cbs (List.replicate 32 0)).toArray rfl rfl Hb.out.1 info32b (cbs_one' _) ?_))
  refine bodyPost_ret (results_row_tmp rfl _ _ (w.heap.size + 1) 46 (cbs (List.replicate 32 0)).toArray (0, 0) _ rfl Hb.out.2.1 Tryz.underlying46 rfl info32b) rfl ?_
  exact ⟨rfl, Hb.out.2.2⟩
set_option maxHeartbeats 800000 in
theorem tof_long {K : Nat → Prop} {ls : List (List UInt8)} (hl : LvsAt w K A ls) (hn : ls.length = n) (h1 : 1 ≤ n) (hn2 : n ≤ 1024) (hK : ∀ j, K j → j < w.heap.size) (q : Nat) (hq : q < ls.length) (hlong : 65535 < (ls[q]'hq).length) (hls : ∀ j (hj : j < q), (ls[j]'(by omega)).length ≤ 65535) :
    Calls Tryz.prog 25 #[v, .slice A n c] w fun e w' => e = .returned (.tuple #[.agg (cbs (List.replicate 32 0)).toArray, .int .i64 5]) ∧ Below w.heap.size w w' := by
  obtain ⟨hb, hth, hR, hb1⟩ := two_box A n c w
  have hnot : ∀ (x : Bool) (w : World), (Op.unary .not (.bool x)).run Tryz.prog w = .ok (.bool (!x)) w := fun _ _ => rfl
  have hl1 : LvsAt ((w.alloc (.cells #[.slice A n c] 52)).alloc (.cells (cbs (List.replicate 32 0)).toArray 46)) K A ls := hl.stays ⟨hb.size, fun j hj => hb.block j (hK j hj)⟩
  have Hc : Hid (Calls Tryz.prog 41 #[.slice A n c, .func (.func 42) #[] #[]] ((w.alloc (.cells #[.slice A n c] 52)).alloc (.cells (cbs (List.replicate 32 0)).toArray 46)) fun e w' => e = .returned (.bool true) ∧ w' = ((w.alloc (.cells #[.slice A n c] 52)).alloc (.cells (cbs (List.replicate 32 0)).toArray 46))) := by
    exact Lib.hid (contains_some (c := c) hl1 hn q hq hlong hls hn2)
  have c1 : (1 : Int) ≤ (n : Int) := by omega
  have c2 : (n : Int) ≤ 1024 := by omega
  have Hb := Lib.hid (And.intro hth (And.intro hR hb1))
  clear hb hth hR hb1 hl hl1 hn hK hlong hls
  go_enter Tryz.func25, Tryz.ntmps25
  go_wp2_with (first
    | (go_at_call 31; refine (isCount_yes _ _ c1 c2).mono ?_; rintro e wx ⟨rfl, rfl⟩)
    | (go_at_call 41; refine Hc.out.mono ?_; rintro e wx ⟨rfl, rfl⟩)
    | (refine wpList_store_mid rfl 46 _ _ rfl (w.heap.size + 1) 0 (cbs (List.replicate 32 0)).toArray rfl rfl Hb.out.1 info32b (cbs_one' _) ?_))
  refine bodyPost_ret (results_row_tmp rfl _ _ (w.heap.size + 1) 46 (cbs (List.replicate 32 0)).toArray (0, 0) _ rfl Hb.out.2.1 Tryz.underlying46 rfl info32b) rfl ?_
  exact ⟨rfl, Hb.out.2.2⟩

theorem rtof_zero (h : n < 1) :
    Calls Tryz.prog 26 #[v, .slice A n c] w fun e w' => e = .returned (.tuple #[.agg (cbs (List.replicate 32 0)).toArray, .int .i64 2]) ∧ Below w.heap.size w w' := by
  have b0 : Below w.heap.size w (w.alloc (.cells (cbs (List.replicate 32 0)).toArray 46)) := (Below.refl _ _).alloc (Nat.le_refl _) _
  have hZ : Blk (w.alloc (.cells (cbs (List.replicate 32 0)).toArray 46)) w.heap.size 46 (cbs (List.replicate 32 0)) := Blk.new rfl rfl
  have hth : (w.alloc (.cells (cbs (List.replicate 32 0)).toArray 46)).there w.heap.size 0 (cbs (List.replicate 32 0)).toArray.size := hZ.there
  have hR := hZ.setAll (vs := cbs (List.replicate 32 0)) rfl
  have hb1 : Below w.heap.size w ((w.alloc (.cells (cbs (List.replicate 32 0)).toArray 46)).setCells w.heap.size 0 (cbs (List.replicate 32 0))) := Below.setCells (Nat.le_refl _) _ b0
  have Hb := Lib.hid (And.intro hth (And.intro hR hb1))
  have h6 : (n : Int) < 1 := by omega
  clear b0 hZ hth hR hb1
  go_enter Tryz.func26, Tryz.ntmps26
  go_wp2_with (refine wpList_store_mid rfl 46 _ _ rfl w.heap.size 0 (cbs (List.replicate 32 0)).toArray rfl rfl Hb.out.1 info32b (cbs_one' _) ?_)
  refine bodyPost_ret (results_row_tmp rfl _ _ w.heap.size 46 (cbs (List.replicate 32 0)).toArray (0, 0) _ rfl Hb.out.2.1 Tryz.underlying46 rfl info32b) rfl ?_
  exact ⟨rfl, Hb.out.2.2⟩
set_option maxHeartbeats 800000 in
theorem rtof_long {K : Nat → Prop} {ls : List (List UInt8)} (hl : LvsAt w K A ls) (hn : ls.length = n) (h1 : 1 ≤ n) (hn2 : n ≤ 1024) (hK : ∀ j, K j → j < w.heap.size) (q : Nat) (hq : q < ls.length) (hlong : 65535 < (ls[q]'hq).length) (hls : ∀ j (hj : j < q), (ls[j]'(by omega)).length ≤ 65535) :
    Calls Tryz.prog 26 #[v, .slice A n c] w fun e w' => e = .returned (.tuple #[.agg (cbs (List.replicate 32 0)).toArray, .int .i64 5]) ∧ Below w.heap.size w w' := by
  have b0 : Below w.heap.size w (w.alloc (.cells (cbs (List.replicate 32 0)).toArray 46)) := (Below.refl _ _).alloc (Nat.le_refl _) _
  have hZ : Blk (w.alloc (.cells (cbs (List.replicate 32 0)).toArray 46)) w.heap.size 46 (cbs (List.replicate 32 0)) := Blk.new rfl rfl
  have hth : (w.alloc (.cells (cbs (List.replicate 32 0)).toArray 46)).there w.heap.size 0 (cbs (List.replicate 32 0)).toArray.size := hZ.there
  have hR := hZ.setAll (vs := cbs (List.replicate 32 0)) rfl
  have hb1 : Below w.heap.size w ((w.alloc (.cells (cbs (List.replicate 32 0)).toArray 46)).setCells w.heap.size 0 (cbs (List.replicate 32 0))) := Below.setCells (Nat.le_refl _) _ b0
  have hl1 : LvsAt (w.alloc (.cells (cbs (List.replicate 32 0)).toArray 46)) K A ls := hl.stays ⟨b0.size, fun j hj => b0.block j (hK j hj)⟩
  obtain ⟨lb, lo, rfl, hkb, hcc⟩ := hl1
  have Hcc := Lib.hid hcc
  have Hb := Lib.hid (And.intro hth (And.intro hR hb1))
  have Hls := Lib.hid (And.intro hls hlong)
  have Hqn := Lib.hid (show q < n by omega)
  have g1 : ¬ (n : Int) < 1 := by omega
  have g2 : ¬ (1024 : Int) < (n : Int) := by omega
  clear b0 hZ hth hR hb1 hl hkb hcc hls hlong hK
  go_enter Tryz.func26, Tryz.ntmps26
  go_wp2
  go_loopw [6] (fun iv wr => ∃ k : Nat, k ≤ q ∧ iv = .int .i64 (k : Int) ∧ wr = w.alloc (.cells (cbs (List.replicate 32 0)).toArray 46)) (fun iv _ => n - (intOf iv).toNat)
  case atStart => exact ⟨0, Nat.zero_le _, rfl, rfl⟩
  case round =>
    obtain ⟨k, hk, rfl, hwr⟩ := hrel
    obtain ⟨Aj, cj, hc, _⟩ := Hcc.out k (by omega)
    rw [← hwr] at hc
    have hqn := Hqn.out
    have k0 : (0 : Int) ≤ (k : Int) := by omega
    have k1 : (k : Int) < (n : Int) := by omega
    by_cases hlt : k < q
    · have hx : (ls[k]'(by omega)).length ≤ 65535 := Hls.out.1 k hlt
      obtain ⟨m, hm⟩ : ∃ m, (ls[k]'(by omega)).length = m := ⟨_, rfl⟩
      rw [hm] at hc hx
      have Hwr := Lib.hid hwr
      have m1 : ¬ (65536 : Int) ≤ (m : Int) := by omega
      clear hwr hm hqn
      go_wp2
      go_roundw
      case rel => exact ⟨k + 1, by omega, by go_num, Hwr.out⟩
      case measure => have := Hqn.out; simp [intOf]; omega
    · obtain rfl : k = q := by omega
      have hx : 65535 < (ls[k]'(by omega)).length := Hls.out.2
      obtain ⟨m, hm⟩ : ∃ m, (ls[k]'(by omega)).length = m := ⟨_, rfl⟩
      rw [hm] at hc hx
      have m1 : (65536 : Int) ≤ (m : Int) := by omega
      have Hwr := Lib.hid hwr
      have Hb' : Hid (wr.there w.heap.size 0 (cbs (List.replicate 32 0)).toArray.size ∧ (wr.setCells w.heap.size 0 (cbs (List.replicate 32 0))).heap[w.heap.size]? = some (.cells (cbs (List.replicate 32 0)).toArray 46 (0, 0)) ∧ Below w.heap.size w (wr.setCells w.heap.size 0 (cbs (List.replicate 32 0)))) := by rw [hwr]; exact Hb
      clear hwr hm hqn
      go_wp2_with (refine wpList_store_mid rfl 46 _ _ rfl w.heap.size 0 (cbs (List.replicate 32 0)).toArray rfl rfl Hb'.out.1 info32b (cbs_one' _) ?_)
      refine bodyPost_ret (results_row_tmp rfl _ _ w.heap.size 46 (cbs (List.replicate 32 0)).toArray (0, 0) _ rfl Hb'.out.2.1 Tryz.underlying46 rfl info32b) rfl ?_
      exact ⟨rfl, Hb'.out.2.2⟩
end
end Go.Proofs.YtbdocaohnigekaaGreat
