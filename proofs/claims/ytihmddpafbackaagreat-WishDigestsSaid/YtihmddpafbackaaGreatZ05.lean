/-
  Laid together for a hand-in: AnyOrder, Write, Api, App, Clone3, Ink.
-/
import Derived.Test.YtihmddpafbackaaGreatZ03
import Derived.Test.YtihmddpafbackaaGreatZ04
import Derived.Test.YtihmddpafbackaaGreatZ01
import Derived.RegionTactic
import Derived.Laws.ResultCell
import Derived.Maps.Own
import Derived.Maps.OwnOps
import Derived.Maps.Views
import Derived.DeepKeys4

namespace Go.Proofs.YtihmddpafbackaaGreat

open Go.RowKit

set_option linter.unusedVariables false

section

variable {P : Program} {ops : Array Oper} {Q : Exit → Act → World → Prop} {md : Region.Mode}

theorem any_take {i d : Nat} {oi : Oper} {v : Value} {fuel : Nat} {listed : Array Bool} {a : Act} {w : World} (hi : ops[i]? = some oi) (hd : oi.dst = some d)
    (hs : Region.noSelect ops = true) (hf : Region.free md ops listed i = true) (hr : (Region.ready md ops listed).contains i = true)
    (hQ : ∀ c a w, Q (.panic c) (a.put oi.dst v) w → Q (.panic c) a w) (hy : Yields P ops oi v a)
    (h : wpAny P md ops Q fuel (listed.setIfInBounds i true) { a with tmps := a.tmps.setIfInBounds d v } w) : wpAny P md ops Q (fuel + 1) listed a w :=
  wpAny_take hi hs hf hr hQ hy (by unfold Act.put; rw [hd]; exact h)

theorem op_load {i d : Nat} {oi : Oper} {a : Act} {w : World} {K : Act → World → Prop} (hi : ops[i]? = some oi) (hd : oi.dst = some d) (hgd : oi.guard = none) (ty : TypeId) (x : Operand) (ho : oi.op = .load ty x)
    (b off : Nat) (hx : a.eval x = .pointer (some ⟨b, off, none⟩)) (cs : List Value) (t : TypeDesc) (hc : w.rangeAt b off cs) (hu : P.underlying ty = some t) (ht : t.isRow = true) (hn : (P.info? ty).map (·.size) = some cs.length)
    (h : K { a with tmps := a.tmps.setIfInBounds d (.agg cs.toArray) } w) : wpOp P ops Q i K a w := by
  refine wpOp_step hi (fun K' hK => step_load hgd ty x ho b off hx cs t hc hu ht hn ?_)
  unfold Act.put
  rw [hd]
  exact hK _ _ h

theorem op_store {i : Nat} {oi : Oper} {a : Act} {w : World} {K : Act → World → Prop} (hi : ops[i]? = some oi) (hd : oi.dst = none) (hgd : oi.guard = none) (ty : TypeId) (x y : Operand) (ho : oi.op = .store ty x y)
    (b off : Nat) (cells : Array Value) (hx : a.eval x = .pointer (some ⟨b, off, none⟩)) (hy : a.eval y = .agg cells)
    (ht : w.there b off cells.size) (hn : (P.info? ty).map (·.size) = some cells.size) (h1 : cells.all (·.oneCell') = true)
    (h : K a (w.setCells b off cells.toList)) : wpOp P ops Q i K a w := by
  refine wpOp_step hi (fun K' hK => step_store hgd ty x y ho b off cells hx hy ht hn h1 ?_)
  unfold Act.put
  rw [hd]
  exact hK _ _ h

theorem any_one {i : Nat} {fuel : Nat} {listed : Array Bool} {a : Act} {w : World} (hr : Region.ready md ops listed = [i])
    (h : wpOp P ops Q i (wpAny P md ops Q fuel (listed.setIfInBounds i true)) a w) : wpAny P md ops Q (fuel + 1) listed a w :=
  wpAny_all hr (by simp) (fun j hj => by simp at hj; subst hj; exact h)

theorem any_two {i j : Nat} {fuel : Nat} {listed : Array Bool} {a : Act} {w : World} (hr : Region.ready md ops listed = [i, j])
    (h1 : wpOp P ops Q i (wpAny P md ops Q fuel (listed.setIfInBounds i true)) a w) (h2 : wpOp P ops Q j (wpAny P md ops Q fuel (listed.setIfInBounds j true)) a w) : wpAny P md ops Q (fuel + 1) listed a w :=
  wpAny_all hr (by simp) (fun k hk => by
    simp at hk
    rcases hk with rfl | rfl
    · exact h1
    · exact h2)

end

end Go.Proofs.YtihmddpafbackaaGreat

namespace Go.Proofs.YtihmddpafbackaaGreat

open Go.RowKit

set_option linter.unusedVariables false

theorem none_any (g : Nat) (w : World) (h : w.cell? ⟨g, 0, none⟩ = some (.bool true)) :
    Calls Tryz.prog 94 #[.pointer (some ⟨g, 0, none⟩)] w fun e w' => e = .returned (.bool false) ∧ w' = w := by
  have hnot : ∀ (x : Bool) (w : World), (Op.unary .not (.bool x)).run Tryz.prog w = .ok (.bool (!x)) w := fun _ _ => rfl
  go_enter Tryz.func94, Tryz.ntmps94
  go_wp2
  go_ret
  exact ⟨rfl, rfl⟩

/-- The bytes of a slice do not lie in block g. -/
def Away (A : Option Addr) (g : Nat) (l : List UInt8) : Prop := l ≠ [] → ∀ a, A = some a → a.block ≠ g

theorem Bs.away {w : World} {A : Option Addr} {l : List UInt8} {g : Nat} (h : Bs w A l) (hg : w.heap.size ≤ g) : Away A g l := by
  intro hl a ha
  obtain ⟨b, off, e, hlt, _⟩ := h.2 (by cases l with | nil => exact absurd rfl hl | cons x t => simp)
  rw [ha] at e
  cases e
  show b ≠ g
  omega

theorem Away.cut {A : Option Addr} {g k m c : Nat} {l : List UInt8} (h : Away A g l) : Away (cutAt A k m c) g (l.drop m) := by
  intro hl
  replace h := h (fun e => hl (by rw [e]; simp))
  unfold cutAt
  split
  · exact h
  · intro a ha
    cases A with
    | none => cases ha
    | some x =>
      simp only [Option.map_some, Option.some.injEq] at ha
      subst ha
      have := h x rfl
      unfold Addr.add
      split <;> exact this

theorem Bs.touched {w w' : World} {A : Option Addr} {l : List UInt8} {g : Nat} (h : Bs w A l) (hb : But g w w') (ha : Away A g l) : Bs w' A l := by
  refine ⟨h.1, fun hn => ?_⟩
  obtain ⟨b, off, e, hlt, hc⟩ := h.2 hn
  refine ⟨b, off, e, Nat.lt_of_lt_of_le hlt hb.size, fun j u hu => hb.cell (hc j u hu) (by have := ha (by intro e2; subst e2; simp at hn) _ e; exact this)⟩

theorem run_restTo (g r : Nat) (h : r < 64) (W : World) : (Instr.sliceAt 99 (.pointer (some ⟨g, 9, none⟩)) (some (.int .i64 (r : Int))) none none).run Tryz.prog W = .ok (.slice (some ⟨g, 9 + r, none⟩) (64 - r) (64 - r)) W := by
  have h1 : (r : Int) ≤ 64 := by omega
  have h2 : (0 : Int) ≤ (r : Int) := by omega
  have h3 : ¬ (64 = r) := by omega
  clear h
  go_simp

def slen : Value → Nat
  | .slice _ m _ => m
  | _ => 0

theorem HB.state8 {w : World} {g : Nat} {s : S8} {rest : List UInt8} {n : Nat} (h : HB w g s rest n) : w.cell? ⟨g, 1, none⟩ = some (.int .u32 (s.a.toNat : Int)) ∧ w.cell? ⟨g, 2, none⟩ = some (.int .u32 (s.b.toNat : Int)) ∧ w.cell? ⟨g, 3, none⟩ = some (.int .u32 (s.c.toNat : Int)) ∧ w.cell? ⟨g, 4, none⟩ = some (.int .u32 (s.d.toNat : Int)) ∧ w.cell? ⟨g, 5, none⟩ = some (.int .u32 (s.e.toNat : Int)) ∧ w.cell? ⟨g, 6, none⟩ = some (.int .u32 (s.f.toNat : Int)) ∧ w.cell? ⟨g, 7, none⟩ = some (.int .u32 (s.g.toNat : Int)) ∧ w.cell? ⟨g, 8, none⟩ = some (.int .u32 (s.h.toNat : Int)) :=
  ⟨h.state 0 _ rfl, h.state 1 _ rfl, h.state 2 _ rfl, h.state 3 _ rfl, h.state 4 _ rfl, h.state 5 _ rfl, h.state 6 _ rfl, h.state 7 _ rfl⟩

theorem HB.free8 {w : World} {g : Nat} {s : S8} {rest : List UInt8} {n : Nat} (h : HB w g s rest n) : w.frozen? ⟨g, 1, none⟩ = false ∧ w.frozen? ⟨g, 2, none⟩ = false ∧ w.frozen? ⟨g, 3, none⟩ = false ∧ w.frozen? ⟨g, 4, none⟩ = false ∧ w.frozen? ⟨g, 5, none⟩ = false ∧ w.frozen? ⟨g, 6, none⟩ = false ∧ w.frozen? ⟨g, 7, none⟩ = false ∧ w.frozen? ⟨g, 8, none⟩ = false := by
  obtain ⟨_, _, hB, _⟩ := h
  exact ⟨hB.free 1, hB.free 2, hB.free 3, hB.free 4, hB.free 5, hB.free 6, hB.free 7, hB.free 8⟩

theorem range_set1 {w : World} {g j : Nat} {cs : List Value} {v : Value} (h : w.rangeAt g 9 cs) (hj : j < 9) : (w.setCell ⟨g, j, none⟩ v).rangeAt g 9 cs := fun i u hu =>
  (World.cell?_setCell_other _ ⟨g, j, none⟩ ⟨g, 9 + i, none⟩ _ (by intro e; injection e with _ e2; omega)).trans (h i u hu)

theorem range_set8 {w : World} {g : Nat} {cs : List Value} {v1 v2 v3 v4 v5 v6 v7 v8 : Value} (h : w.rangeAt g 9 cs) :
    ((((((((w.setCell ⟨g, 1, none⟩ v1).setCell ⟨g, 2, none⟩ v2).setCell ⟨g, 3, none⟩ v3).setCell ⟨g, 4, none⟩ v4).setCell ⟨g, 5, none⟩ v5).setCell ⟨g, 6, none⟩ v6).setCell ⟨g, 7, none⟩ v7).setCell ⟨g, 8, none⟩ v8).rangeAt g 9 cs :=
  range_set1 (range_set1 (range_set1 (range_set1 (range_set1 (range_set1 (range_set1 (range_set1 h (by decide)) (by decide)) (by decide)) (by decide)) (by decide)) (by decide)) (by decide)) (by decide)

theorem there_set8 {w : World} {g o n : Nat} {v1 v2 v3 v4 v5 v6 v7 v8 : Value} (h : w.there g o n) :
    ((((((((w.setCell ⟨g, 1, none⟩ v1).setCell ⟨g, 2, none⟩ v2).setCell ⟨g, 3, none⟩ v3).setCell ⟨g, 4, none⟩ v4).setCell ⟨g, 5, none⟩ v5).setCell ⟨g, 6, none⟩ v6).setCell ⟨g, 7, none⟩ v7).setCell ⟨g, 8, none⟩ v8).there g o n :=
  World.there_setCells h g 1 [v1, v2, v3, v4, v5, v6, v7, v8]

theorem run_cutB (A : Option Addr) (m c k : Nat) (hk : k ≤ m) (hmc : m ≤ c) (w : World) : (Instr.sliceAt 22 (.slice A m c) (some (.int .i64 (k : Int))) none none).run Tryz.prog w = .ok (.slice (cutAt A 1 k c) (m - k) (c - k)) w := by
  have h1 : (0 : Int) ≤ (k : Int) := by omega
  have h2 : (k : Int) ≤ (m : Int) := by omega
  unfold cutAt
  go_simp

set_option maxRecDepth 100000 in
set_option maxHeartbeats 3200000 in
theorem write_any (g : Nat) (l b : List UInt8) (A : Option Addr) (n c : Nat) (w : World) (hn : b.length = n) (hc : n ≤ c) (hcm : c ≤ maxLen) (hl : l.length + n ≤ 281474976710656) (h : Hold w g l) (hB : Bs w A b) (hA : Away A g b) :
    Calls Tryz.prog 74 #[.pointer (some ⟨g, 0, none⟩), .slice A n c] w fun e w' => e = .returned (.int .i64 0) ∧ (Hold w' g (l ++ b) ∧ But g w w') := by
  have hmade : w.cell? ⟨g, 0, none⟩ = some (.bool true) := by obtain ⟨_, hH, _⟩ := h; exact hH.made
  have Hno := Lib.hid (none_any g w hmade)
  have Hg := Lib.hid (And.intro hn (And.intro hc (And.intro hcm (And.intro hl (And.intro h (And.intro hB hA))))))
  clear hn hc hcm hl h hB hA hmade
  go_enter Tryz.func74, Tryz.ntmps74
  go_wp2_with (go_at_call 94; refine Hno.out.mono ?_; rintro e w' ⟨rfl, rfl⟩)
  go_loopw [1] (fun v wr => ∃ (x y : List UInt8) (A' : Option Addr) (m c' : Nat), b = x ++ y ∧ y.length = m ∧ v = .slice A' m c' ∧ m ≤ c' ∧ c' ≤ maxLen ∧ Bs wr A' y ∧ Away A' g y ∧ Hold wr g (l ++ x) ∧ But g w' wr) (fun v _ => slen v)
  case atStart =>
    obtain ⟨hn, hc, hcm, hl, h, hB, hA⟩ := Hg.out
    exact ⟨[], b, A, n, c, rfl, hn, rfl, hc, hcm, hB, hA, by rw [List.append_nil]; exact h, But.refl _ _⟩
  case round =>
    obtain ⟨x, y, A', m, c', hb, hy, rfl, hmc, hcm, hB, hA, hH, hbut⟩ := hrel
    by_cases hm : 0 < m
    · obtain ⟨rest, hHB, hrest⟩ := hH
      obtain ⟨N, hN⟩ : ∃ N, N = (l ++ x).length := ⟨_, rfl⟩
      obtain ⟨r, hr⟩ : ∃ r, r = N % 64 := ⟨_, rfl⟩
      have hNl : N + m ≤ 281474976710656 := by
        have := Hg.out.2.2.2.1
        have h2 := Hg.out.1
        rw [hb, List.length_append] at h2
        rw [hN, List.length_append]; omega
      have hsz := hHB.size
      rw [← hN] at hsz hHB hrest
      rw [← hr] at hrest
      have hrlt : r < 64 := by omega
      have esl := run_restTo g r hrlt
      have e1 : (N : Int).tmod 64 = (r : Int) := by rw [Int.tmod_eq_emod_of_nonneg (by omega)]; omega
      have e2 : (N : Int) % 64 = (r : Int) := by omega
      have e3 : IntKind.i64.wrap (r : Int) = (r : Int) := IntWalk.i64_in _ (by omega)
      have i0 : (0 : Int) ≤ (r : Int) := by omega
      have i1 : (r : Int) < 64 := by omega
      have hml := hm
      unfold maxLen at hcm
      have i2 : (0 : Int) < (m : Int) := by omega
      have i3 : (m : Int) ≤ 9223372036854775807 := by omega
      have Hx := Lib.hid (And.intro hb (And.intro hy (And.intro hmc (And.intro hcm (And.intro hB (And.intro hA (And.intro hHB (And.intro hrest (And.intro hN (And.intro hr (And.intro hNl (And.intro hbut hm))))))))))))
      clear hb hy hmc hcm hB hA hHB hrest hN hr hNl hbut hml
      go_wp2
      refine wp_region_still_tail 10 (by kernel_rfl) (by kernel_rfl) ?_
      change wpStill _ _ wr.drew (fun a' => wpList _ _ _ _ a' wr.drew) _ _
      simp only [List.take_succ_cons, List.take_zero, List.drop_succ_cons, List.drop_zero]
      still_step
      still_step
      still_step
      still_step
      still_step
      still_step
      still_step
      still_step
      still_step
      still_step
      refine wpStill_nil ?_
      obtain ⟨hb, hy, hmc, hcm, hB, hA, hHB, hrest, hN, hr, hNl, hbut, hm⟩ := Hx.out
      obtain ⟨k, hk⟩ : ∃ k, k = min m (64 - r) := ⟨_, rfl⟩
      refine wp_copyB rfl (.tmp 19) (.tmp 20) rfl g (9 + r) (64 - r) (64 - r) A' m c' rfl rfl y hy hB k hk (hHB.there (by omega)) ?_
      obtain ⟨d, ks, hBlk, hrl, hkl, hd⟩ := hHB
      have htl : (y.take k).length = k := by rw [List.length_take]; omega
      have q1 := Blk.setMore (w := wr) (cbs (y.take k)) (show Blk wr.drew g 118 _ from hBlk) (o := 9 + r) (by rw [cbs_length, htl, hc_len hrl hkl]; omega)
      rw [hc_put_rest hrl r (y.take k) (by omega), htl] at q1
      have q2 : But g w' (wr.drew.setCells g (9 + r) (cbs (y.take k))) := But.setCells (.inl rfl) _ hbut.drew
      obtain ⟨rest', hrest'⟩ : ∃ rest', rest' = rest.take r ++ y.take k ++ rest.drop (r + k) := ⟨_, rfl⟩
      rw [← hrest'] at q1
      have hrl' : rest'.length = 64 := by rw [hrest', List.length_append, List.length_append, htl, List.length_take, List.length_drop]; omega
      have q3 : But g wr (wr.drew.setCells g (9 + r) (cbs (y.take k))) := But.setCells (.inl rfl) _ (But.refl g wr).drew
      have hBy := hB.touched q3 hA
      generalize wr.drew.setCells g (9 + r) (cbs (y.take k)) = w1 at *
      have c0 := q1.cell (hc_size hrl')
      have f0 := q1.free 73
      obtain ⟨M, hM⟩ : ∃ M, M = N + k := ⟨_, rfl⟩
      have q4 := q1.set_ 73 (.int .i64 (M : Int))
      rw [hc_set_size hrl' M] at q4
      have q5 : But g w' (w1.setCell ⟨g, 73, none⟩ (.int .i64 (M : Int))) := q2.setCell (.inl rfl) _
      have hBy2 : Bs (w1.setCell ⟨g, 73, none⟩ (.int .i64 (M : Int))) A' y := hBy.touched ((But.refl g w1).setCell (.inl rfl) _) hA
      have s1 : (N : Int) + (k : Int) = (M : Int) := by omega
      have s2 : IntKind.i64.wrap (M : Int) = (M : Int) := IntWalk.i64_in _ (by omega)
      have k0 : (0 : Int) ≤ (k : Int) := by omega
      have k1 : (k : Int) ≤ (m : Int) := by omega
      have k2 : (N : Int) ≤ 281474976710656 := by omega
      have k3 : (0 : Int) ≤ (N : Int) := by omega
      have k4 : (k : Int) ≤ 64 := by omega
      have hcut := run_cutB A' m c' k (by omega) hmc
      have Hz := Lib.hid (And.intro hb (And.intro hy (And.intro hmc (And.intro hcm (And.intro hA (And.intro hrest (And.intro hN (And.intro hr (And.intro hNl (And.intro hm (And.intro hk (And.intro hkl (And.intro hd (And.intro hrest' (And.intro hrl' (And.intro q4 (And.intro q5 (And.intro hBy2 (And.intro htl (And.intro hM hrl))))))))))))))))))))
      have hN64 : (l ++ x).length % 64 = r := by rw [← hN, hr]
      by_cases hfull : r + k = 64
      · have d1 : (M : Int) % 64 = 0 := by omega
        have d2 : (M : Int).tmod 64 = 0 := by rw [Int.tmod_eq_emod_of_nonneg (by omega)]; exact d1
        have Hf := Lib.hid (And.intro hfull hN64)
        clear hb hy hmc hcm hA hrest hN hr hNl hm hk hkl hd hrest' hrl' q1 q2 q3 q4 q5 hBy hBy2 htl hBlk hB hbut hrl hM hfull hN64
        go_wp2
        obtain ⟨w2, hw2⟩ : ∃ w2, w2 = w1.setCell ⟨g, 73, none⟩ (.int .i64 (M : Int)) := ⟨_, rfl⟩
        rw [← hw2]
        have Hw2 := Lib.hid hw2
        clear hw2
        obtain ⟨hb, hy, hmc, hcm, hA, hrest, hN, hr, hNl, hm, hk, hkl, hd, hrest', hrl', q4, q5, hBy2, htl, hM, hrl⟩ := Hz.out
        rw [← Hw2.out] at q4 q5 hBy2
        obtain ⟨hfull, hN64⟩ := Hf.out
        obtain ⟨sw, hsw⟩ : ∃ sw, sw = whole (l ++ x) := ⟨_, rfl⟩
        have hH2 : HB w2 g sw rest' M := by rw [hsw]; exact ⟨d, ks, q4, hrl', hkl, hd⟩
        have hwf := whole_full (l ++ x) (y.take k) (by rw [hN64, htl]; exact hfull)
        have hrest2 : rest' = left (l ++ x) ++ y.take k := by
          rw [hrest', List.drop_eq_nil_of_le (by omega), List.append_nil, hrest]
        have hlen : (l ++ (x ++ y.take k)).length = M := by rw [← List.append_assoc, List.length_append, htl, ← hN, hM]
        have hM0 : M % 64 = 0 := by omega
        have htk := fun W hW => take_any g sw sw rest' rest' M W hrl' hW
        have hgoal : ∀ W : World, HB W g (rnd sw rest') rest' M → Hold W g (l ++ (x ++ y.take k)) := by
          intro W hW
          rw [hsw] at hW
          refine ⟨rest', ?_, ?_⟩
          · rw [hlen, ← List.append_assoc, hwf.1, ← hrest2]; exact hW
          · rw [hlen, hM0, List.take_zero, ← List.append_assoc, hwf.2]
        obtain ⟨c0, c1, c2, c3, c4, c5, c6, c7⟩ := HB.state8 hH2
        have hH2d : HB w2.drew g sw rest' M := hH2
        have r1 : w2.drew.rangeAt g 1 (l8 sw) := hH2d.state
        have r2 : w2.drew.rangeAt g 9 (cbs rest') := hH2d.rest
        have r3 : w2.drew.there g 1 8 := hH2d.there (by omega)
        have hi2 : (Tryz.prog.info? 99).map (·.size) = some (cbs rest').length := by rw [cbs_length, hrl']; exact info64b
        have hu2 := Tryz.underlying99
        have hv8 : v8 sw = .agg #[.int .u32 (sw.a.toNat : Int), .int .u32 (sw.b.toNat : Int), .int .u32 (sw.c.toNat : Int), .int .u32 (sw.d.toNat : Int), .int .u32 (sw.e.toNat : Int), .int .u32 (sw.f.toNat : Int), .int .u32 (sw.g.toNat : Int), .int .u32 (sw.h.toNat : Int)] := rfl
        rw [hv8] at htk
        obtain ⟨T, hT⟩ : ∃ T, T = rnd sw rest' := ⟨_, rfl⟩
        rw [← hT] at htk hgoal
        have hv8' : v8 T = .agg #[.int .u32 (T.a.toNat : Int), .int .u32 (T.b.toNat : Int), .int .u32 (T.c.toNat : Int), .int .u32 (T.d.toNat : Int), .int .u32 (T.e.toNat : Int), .int .u32 (T.f.toNat : Int), .int .u32 (T.g.toNat : Int), .int .u32 (T.h.toNat : Int)] := rfl
        rw [hv8'] at htk
        have Htk := Lib.hid htk
        have Ho := Lib.hid (And.intro hH2d (And.intro hgoal (And.intro q5 hBy2)))
        clear hb hy hmc hcm hA hrest hN hr hNl hm hk hkl hd hrest' hrl' q4 q5 hBy2 htl hM hrl hfull hN64 hH2 hH2d hwf hrest2 hlen hM0 htk hgoal hv8 hv8' hT hsw d1 d2 s1 s2 Hf
        refine wp_region_any (by kernel_rfl) ?_
        change wpAny _ _ _ _ _ _ _ (World.drew _)
        refine any_take (i := 0) (d := 39) (v := .pointer (some ⟨g, 0, none⟩)) rfl rfl (by kernel_rfl) (by kernel_rfl) (by kernel_rfl) (fun _ _ _ h => h) (Or.inl ⟨by rfl, (by intro w; go_simp)⟩) ?_
        simp only [List.setIfInBounds_toArray, List.set_cons_zero, List.set_cons_succ]
        refine any_take (i := 1) (d := 40) (v := .pointer (some ⟨g, 0, none⟩)) rfl rfl (by kernel_rfl) (by kernel_rfl) (by kernel_rfl) (fun _ _ _ h => h) (Or.inl ⟨by rfl, (by intro w; go_simp)⟩) ?_
        simp only [List.setIfInBounds_toArray, List.set_cons_zero, List.set_cons_succ]
        refine any_take (i := 2) (d := 41) (v := .pointer (some ⟨g, 0, none⟩)) rfl rfl (by kernel_rfl) (by kernel_rfl) (by kernel_rfl) (fun _ _ _ h => h) (Or.inl ⟨by rfl, (by intro w; go_simp)⟩) ?_
        simp only [List.setIfInBounds_toArray, List.set_cons_zero, List.set_cons_succ]
        refine any_take (i := 3) (d := 42) (v := .pointer (some ⟨g, 0, none⟩)) rfl rfl (by kernel_rfl) (by kernel_rfl) (by kernel_rfl) (fun _ _ _ h => h) (Or.inl ⟨by rfl, (by intro w; go_simp)⟩) ?_
        simp only [List.setIfInBounds_toArray, List.set_cons_zero, List.set_cons_succ]
        refine any_take (i := 4) (d := 43) (v := .pointer (some ⟨g, 1, none⟩)) rfl rfl (by kernel_rfl) (by kernel_rfl) (by kernel_rfl) (fun _ _ _ h => h) (Or.inl ⟨by rfl, (by intro w; go_simp)⟩) ?_
        simp only [List.setIfInBounds_toArray, List.set_cons_zero, List.set_cons_succ]
        refine any_take (i := 6) (d := 45) (v := .pointer (some ⟨g, 0, none⟩)) rfl rfl (by kernel_rfl) (by kernel_rfl) (by kernel_rfl) (fun _ _ _ h => h) (Or.inl ⟨by rfl, (by intro w; go_simp)⟩) ?_
        simp only [List.setIfInBounds_toArray, List.set_cons_zero, List.set_cons_succ]
        refine any_take (i := 7) (d := 46) (v := .pointer (some ⟨g, 0, none⟩)) rfl rfl (by kernel_rfl) (by kernel_rfl) (by kernel_rfl) (fun _ _ _ h => h) (Or.inl ⟨by rfl, (by intro w; go_simp)⟩) ?_
        simp only [List.setIfInBounds_toArray, List.set_cons_zero, List.set_cons_succ]
        refine any_take (i := 8) (d := 47) (v := .pointer (some ⟨g, 9, none⟩)) rfl rfl (by kernel_rfl) (by kernel_rfl) (by kernel_rfl) (fun _ _ _ h => h) (Or.inl ⟨by rfl, (by intro w; go_simp)⟩) ?_
        simp only [List.setIfInBounds_toArray, List.set_cons_zero, List.set_cons_succ]
        refine any_two (i := 5) (j := 9) (by kernel_rfl) ?_ ?_
        · refine op_load (d := 44) rfl rfl rfl 97 _ rfl g 1 rfl (l8 sw) _ r1 Tryz.underlying97 rfl info8w ?_
          simp only [List.setIfInBounds_toArray, List.set_cons_zero, List.set_cons_succ]
          refine any_one (i := 9) (by kernel_rfl) ?_
          refine op_load (d := 48) rfl rfl rfl 99 _ rfl g 9 rfl (cbs rest') _ r2 Tryz.underlying99 rfl hi2 ?_
          simp only [List.setIfInBounds_toArray, List.set_cons_zero, List.set_cons_succ]
          refine any_one (i := 10) (by kernel_rfl) ?_
          refine wpOp_step rfl (fun K hK => ?_)
          go_simp
          refine (Htk.out w2.drew Ho.out.1).mono ?_
          rintro e w3 ⟨rfl, hH3, hbut3⟩
          refine hK _ _ ?_
          clear hK K
          refine any_take (i := 11) (d := 50) (v := .pointer (some ⟨g, 0, none⟩)) rfl rfl (by kernel_rfl) (by kernel_rfl) (by kernel_rfl) (fun _ _ _ h => h) (Or.inl ⟨by rfl, (by intro w; go_simp)⟩) ?_
          simp only [List.setIfInBounds_toArray, List.set_cons_zero, List.set_cons_succ]
          refine any_take (i := 12) (d := 51) (v := .pointer (some ⟨g, 1, none⟩)) rfl rfl (by kernel_rfl) (by kernel_rfl) (by kernel_rfl) (fun _ _ _ h => h) (Or.inl ⟨by rfl, (by intro w; go_simp)⟩) ?_
          simp only [List.setIfInBounds_toArray, List.set_cons_zero, List.set_cons_succ]
          obtain ⟨hH2, hgoal, q5, hBy2⟩ := Ho.out
          have hnew : HB (w3.setCells g 1 (l8 T)) g T rest' M := by
            obtain ⟨d, ks, hB3, h3⟩ := hH3
            have h4 := Blk.setMore (w := w3) (l8 T) hB3 (o := 1) (by rw [hc_len h3.1 h3.2.1]; show 1 + 8 ≤ 141; omega)
            rw [hc_put_state] at h4
            exact ⟨d, ks, h4, h3⟩
          have p5 : But g w' (w3.setCells g 1 (l8 T)) := But.setCells (.inl rfl) _ (q5.drew.trans hbut3)
          have pB : Bs (w3.setCells g 1 (l8 T)) A' y := hBy2.touched (But.setCells (.inl rfl) _ ((But.refl g w2).drew.trans hbut3)) Hz.out.2.2.2.2.1
          have Hq := Lib.hid (And.intro (hgoal _ hnew) (And.intro p5 pB))
          have ht3 := hH3.there (o := 1) (m := 8) (by omega)
          refine any_one (i := 13) (by kernel_rfl) ?_
          refine op_store rfl rfl rfl 97 _ _ rfl g 1 (l8 T).toArray rfl rfl ht3 info8w (cws_one T.list) ?_
          refine wpAny_done (by kernel_rfl) ?_ _
          clear hH3 hbut3 hH2 hgoal q5 hBy2 hnew p5 pB ht3 c0 c1 c2 c3 c4 c5 c6 c7 r1 r2 r3 hi2
          go_wp2
          go_roundw
          case rel =>
            obtain ⟨hb, hy, hmc, hcm, hA, hrest, hN, hr, hNl, hm, hk, hkl, hd, hrest', hrl', q4, q5, hBy2, htl, hM, hrl⟩ := Hz.out
            obtain ⟨hnew, p5, pB⟩ := Hq.out
            exact ⟨x ++ y.take k, y.drop k, _, _, _, by rw [List.append_assoc, List.take_append_drop]; exact hb, by rw [List.length_drop, hy], rfl, by omega, by unfold maxLen; omega, pB.cut (by omega) (by omega), hA.cut, hnew, p5⟩
          case measure =>
            obtain ⟨hb, hy, hmc, hcm, hA, hrest, hN, hr, hNl, hm, hk, hkl, hd, hrest', hrl', q4, q5, hBy2, htl, hM, hrl⟩ := Hz.out
            show m - k < m
            omega
        · refine op_load (d := 48) rfl rfl rfl 99 _ rfl g 9 rfl (cbs rest') _ r2 Tryz.underlying99 rfl hi2 ?_
          simp only [List.setIfInBounds_toArray, List.set_cons_zero, List.set_cons_succ]
          refine any_one (i := 5) (by kernel_rfl) ?_
          refine op_load (d := 44) rfl rfl rfl 97 _ rfl g 1 rfl (l8 sw) _ r1 Tryz.underlying97 rfl info8w ?_
          simp only [List.setIfInBounds_toArray, List.set_cons_zero, List.set_cons_succ]
          refine any_one (i := 10) (by kernel_rfl) ?_
          refine wpOp_step rfl (fun K hK => ?_)
          go_simp
          refine (Htk.out w2.drew Ho.out.1).mono ?_
          rintro e w3 ⟨rfl, hH3, hbut3⟩
          refine hK _ _ ?_
          clear hK K
          refine any_take (i := 11) (d := 50) (v := .pointer (some ⟨g, 0, none⟩)) rfl rfl (by kernel_rfl) (by kernel_rfl) (by kernel_rfl) (fun _ _ _ h => h) (Or.inl ⟨by rfl, (by intro w; go_simp)⟩) ?_
          simp only [List.setIfInBounds_toArray, List.set_cons_zero, List.set_cons_succ]
          refine any_take (i := 12) (d := 51) (v := .pointer (some ⟨g, 1, none⟩)) rfl rfl (by kernel_rfl) (by kernel_rfl) (by kernel_rfl) (fun _ _ _ h => h) (Or.inl ⟨by rfl, (by intro w; go_simp)⟩) ?_
          simp only [List.setIfInBounds_toArray, List.set_cons_zero, List.set_cons_succ]
          obtain ⟨hH2, hgoal, q5, hBy2⟩ := Ho.out
          have hnew : HB (w3.setCells g 1 (l8 T)) g T rest' M := by
            obtain ⟨d, ks, hB3, h3⟩ := hH3
            have h4 := Blk.setMore (w := w3) (l8 T) hB3 (o := 1) (by rw [hc_len h3.1 h3.2.1]; show 1 + 8 ≤ 141; omega)
            rw [hc_put_state] at h4
            exact ⟨d, ks, h4, h3⟩
          have p5 : But g w' (w3.setCells g 1 (l8 T)) := But.setCells (.inl rfl) _ (q5.drew.trans hbut3)
          have pB : Bs (w3.setCells g 1 (l8 T)) A' y := hBy2.touched (But.setCells (.inl rfl) _ ((But.refl g w2).drew.trans hbut3)) Hz.out.2.2.2.2.1
          have Hq := Lib.hid (And.intro (hgoal _ hnew) (And.intro p5 pB))
          have ht3 := hH3.there (o := 1) (m := 8) (by omega)
          refine any_one (i := 13) (by kernel_rfl) ?_
          refine op_store rfl rfl rfl 97 _ _ rfl g 1 (l8 T).toArray rfl rfl ht3 info8w (cws_one T.list) ?_
          refine wpAny_done (by kernel_rfl) ?_ _
          clear hH3 hbut3 hH2 hgoal q5 hBy2 hnew p5 pB ht3 c0 c1 c2 c3 c4 c5 c6 c7 r1 r2 r3 hi2
          go_wp2
          go_roundw
          case rel =>
            obtain ⟨hb, hy, hmc, hcm, hA, hrest, hN, hr, hNl, hm, hk, hkl, hd, hrest', hrl', q4, q5, hBy2, htl, hM, hrl⟩ := Hz.out
            obtain ⟨hnew, p5, pB⟩ := Hq.out
            exact ⟨x ++ y.take k, y.drop k, _, _, _, by rw [List.append_assoc, List.take_append_drop]; exact hb, by rw [List.length_drop, hy], rfl, by omega, by unfold maxLen; omega, pB.cut (by omega) (by omega), hA.cut, hnew, p5⟩
          case measure =>
            obtain ⟨hb, hy, hmc, hcm, hA, hrest, hN, hr, hNl, hm, hk, hkl, hd, hrest', hrl', q4, q5, hBy2, htl, hM, hrl⟩ := Hz.out
            show m - k < m
            omega
      · have hkm : k = m := by omega
        obtain ⟨Rm, hRm⟩ : ∃ Rm, Rm = M % 64 := ⟨_, rfl⟩
        have d1 : (M : Int) % 64 = (Rm : Int) := by omega
        have d2 : (M : Int).tmod 64 = (Rm : Int) := by rw [Int.tmod_eq_emod_of_nonneg (by omega)]; exact d1
        have d3 : ¬ Rm = 0 := by omega
        have hin := whole_in (l ++ x) (y.take k) (by rw [hN64, htl]; omega)
        have hrk : M % 64 = r + k := by omega
        have hnew : Hold (w1.setCell ⟨g, 73, none⟩ (.int .i64 (M : Int))) g (l ++ (x ++ y.take k)) := by
          have hlen : (l ++ (x ++ y.take k)).length = M := by rw [← List.append_assoc, List.length_append, htl, ← hN, hM]
          refine ⟨rest', ?_, ?_⟩
          · rw [hlen, ← List.append_assoc, hin.1]
            exact ⟨d, ks, q4, hrl', hkl, hd⟩
          · rw [hlen, hrk, ← List.append_assoc, hin.2, hrest', List.take_append_of_le_length (by rw [List.length_append, htl, List.length_take]; omega), List.take_of_length_le (by rw [List.length_append, htl, List.length_take]; omega), hrest]
        have Hf := Lib.hid (And.intro hkm hnew)
        clear hb hy hmc hcm hA hrest hN hr hNl hm hk hkl hd hrest' hrl' q1 q2 q3 q4 q5 hBy hBy2 htl hBlk hB hbut hrl hM hfull hN64 hRm hin hrk hnew hkm
        go_wp2
        go_roundw
        case rel =>
          obtain ⟨hb, hy, hmc, hcm, hA, hrest, hN, hr, hNl, hm, hk, hkl, hd, hrest', hrl', q4, q5, hBy2, htl, hM, hrl⟩ := Hz.out
          obtain ⟨hkm, hnew⟩ := Hf.out
          exact ⟨x ++ y.take k, y.drop k, _, _, _, by rw [List.append_assoc, List.take_append_drop]; exact hb, by rw [List.length_drop, hy], rfl, by omega, by unfold maxLen; omega, hBy2.cut (by omega) (by omega), hA.cut, hnew, q5⟩
        case measure =>
          obtain ⟨hb, hy, hmc, hcm, hA, hrest, hN, hr, hNl, hm, hk, hkl, hd, hrest', hrl', q4, q5, hBy2, htl, hM, hrl⟩ := Hz.out
          show m - k < m
          omega
    · have hm0 : m = 0 := by omega
      subst hm0
      have hy0 : y = [] := List.eq_nil_of_length_eq_zero hy
      subst hy0
      rw [List.append_nil] at hb
      subst hb
      have i2 : ¬ (0 : Int) < ((0 : Nat) : Int) := by omega
      have Hq := Lib.hid (And.intro hH hbut)
      clear hy hmc hcm hB hA hH hbut hm
      go_wp2
      go_ret
      exact ⟨rfl, Hq.out⟩

end Go.Proofs.YtihmddpafbackaaGreat

namespace Go.Proofs.YtihmddpafbackaaGreat

open Go.RowKit

set_option linter.unusedVariables false

theorem start_any (w : World) : Calls Tryz.prog 93 #[] w fun e w' => e = .returned (.agg #[.int .u32 1779033703, .int .u32 3144134277, .int .u32 1013904242, .int .u32 2773480762, .int .u32 1359893119, .int .u32 2600822924, .int .u32 528734635, .int .u32 1541459225]) ∧ Below w.heap.size w w' := by
  go_enter Tryz.func93, Tryz.ntmps93
  go_wp2
  refine bodyPost_ret (results_cell_row rfl _ _ w.heap.size 97 _ (0, 0) _ rfl (heap_alloc_new w _) Tryz.underlying97 rfl info8w) rfl ⟨?_, (Below.refl _ _).alloc (Nat.le_refl _) _⟩
  rfl

theorem Hold.touched {w w' : World} {g k : Nat} {l : List UInt8} (h : Hold w g l) (hb : But k w w') (hne : g ≠ k) : Hold w' g l := by
  obtain ⟨rest, h1, h2⟩ := h
  exact ⟨rest, h1.touched hb hne, h2⟩

theorem Hold.below {w w' : World} {g : Nat} {l : List UInt8} (h : Hold w g l) (hb : Below w.heap.size w w') : Hold w' g l := by
  obtain ⟨rest, h1, h2⟩ := h
  exact ⟨rest, h1.below hb, h2⟩

theorem Hold.lt {w : World} {g : Nat} {l : List UInt8} (h : Hold w g l) : g < w.heap.size := by obtain ⟨_, h1, _⟩ := h; exact h1.lt

theorem Hold.made {w : World} {g : Nat} {l : List UInt8} (h : Hold w g l) : w.cell? ⟨g, 0, none⟩ = some (.bool true) := by obtain ⟨_, h1, _⟩ := h; exact h1.made

def zero141 : List Value := hcells S8.first (List.replicate 64 0) 0 0 0 (List.replicate 64 (.int .u32 0))

set_option maxRecDepth 100000 in
set_option maxHeartbeats 800000 in
theorem new_any (w : World) : Calls Tryz.prog 73 #[] w fun e w' => ∃ g, e = .returned (.pointer (some ⟨g, 0, none⟩)) ∧ w.heap.size ≤ g ∧ Hold w' g [] ∧ Below w.heap.size w w' := by
  go_enter Tryz.func73, Tryz.ntmps73
  go_wp2_with fail
  refine (start_any _).mono ?_
  rintro e w1 ⟨rfl, b1⟩
  go_wp2
  go_ret
  exact ⟨w1.heap.size, rfl, b1.size, ⟨List.replicate 64 0, ⟨0, List.replicate 64 (.int .u32 0), Blk.new (by kernel_rfl) rfl, rfl, rfl, .inl rfl⟩, rfl⟩, b1.alloc b1.size _⟩

theorem results_row_tmp3 {P : Program} {fn : Func} {p u : Tmp} {ty : TypeId} (h : fn.results = #[.cell p ty, .tmp u]) (tmps : Array Value) (w : World) (g : Nat) (t : TypeId) (cs : Array Value) (fr : Nat × Nat) (d : TypeDesc)
    (hp : tmps.getD p undef = .pointer (some ⟨g, 0, none⟩)) (hg : w.heap[g]? = some (.cells cs t fr))
    (hu : P.underlying ty = some d) (hd : (match d with | .struct _ | .array _ _ => true | _ => false) = true) (hi : (P.info? ty).map (·.size) = some cs.size) :
    (results fn tmps).run P w = .ok (.tuple #[.agg cs, tmps.getD u undef]) w := by
  have hp' : tmps[p]?.getD undef = .pointer (some ⟨g, 0, none⟩) := by simpa using hp
  rw [results_cell_tmp h]
  simp [hp', asAddr, run_loadVar_row w g t ty cs fr d hg hu hd hi, Result.andThen]

set_option maxRecDepth 100000 in
set_option maxHeartbeats 800000 in
theorem of_any (A : Option Addr) (n c : Nat) (l : List UInt8) (w : World) (hB : Bs w A l) (hn : l.length = n) (hc : n ≤ c) (hcm : c ≤ maxLen) (hl : n ≤ 281474976710656) :
    Calls Tryz.prog 51 #[.slice A n c] w fun e w' => e = .returned (.agg (cbs (digest l)).toArray) ∧ Below w.heap.size w w' := by
  obtain ⟨D, hD32, hDv, hD1⟩ : ∃ D : List Value, D.length = 32 ∧ cbs (digest l) = D ∧ D.toArray.all (·.oneCell') = true := ⟨cbs (digest l), by rw [cbs_length, digest_last]; rfl, rfl, cbs_one' _⟩
  rw [hDv]
  have Ho := Lib.hid (And.intro hD32 (And.intro hD1 hDv))
  have Hl := Lib.hid (And.intro hB (And.intro hn (And.intro hc (And.intro hcm hl))))
  clear hD32 hD1 hDv hB hn hc hcm hl
  go_enter Tryz.func51, Tryz.ntmps51
  go_wp2_with fail
  refine (new_any _).mono ?_
  rintro e w1 ⟨g, rfl, hg, hH, b1⟩
  have z1 := b1.size
  simp only [World.size_alloc] at hg z1
  obtain ⟨hB, hn, hc, hcm, hl⟩ := Hl.out
  have hB1 : Bs w1 A l := (hB.after ((Below.refl _ _).alloc (Nat.le_refl _) (.cells (cbs (List.replicate 32 0)).toArray 32))).after b1
  have hA : Away A g l := hB.away (by omega)
  have hZ : Blk w1 w.heap.size 32 (cbs (List.replicate 32 0)) := Blk.below (Blk.new rfl rfl) b1 (by simp)
  have hnx : Below w.heap.size w w1 := ((Below.refl _ _).alloc (Nat.le_refl _) _).trans (b1.mono (by simp))
  have hwr := write_any g [] l A n c w1 hn hc hcm (by simpa using hl) hH hB1 hA
  rw [List.nil_append] at hwr
  have Hwr := Lib.hid hwr
  clear hB hn hc hcm hl hB1 hA hwr hH b1
  go_wp2_with fail
  refine Hwr.out.mono ?_
  rintro e w2 ⟨rfl, hH2, hb2⟩
  have hZ2 := hb2.blk hZ (by omega)
  have hdg := digest_any g l w2 (by have := Hl.out; omega) hH2
  rw [Ho.out.2.2] at hdg
  have Hdg := Lib.hid hdg
  have hb2s := hb2.size
  clear hdg hH2 hZ
  go_wp2_with fail
  refine Hdg.out.mono ?_
  rintro e w3 ⟨rfl, hH3, hb3⟩
  have hZ3 := hb3.blk hZ2 (by omega)
  have hsz : D.toArray.size = 32 := by rw [List.size_toArray]; exact Ho.out.1
  have hth : w3.there w.heap.size 0 D.toArray.size := by
    have e := hZ3.there
    rw [cbs_length, List.length_replicate] at e
    rw [hsz]; exact e
  have hi : (Tryz.prog.info? 32).map (·.size) = some D.toArray.size := by rw [hsz]; exact info32b
  have hR := hZ3.setAll (vs := D) (by rw [Ho.out.1, cbs_length, List.length_replicate])
  have hnx' : Below w.heap.size w (w3.setCells w.heap.size 0 D) :=
    Below.setCells (Nat.le_refl _) _ ((hnx.trans (hb2.above (by omega) (by omega))).trans (hb3.above (by omega) (by omega)))
  have Hth := Lib.hid hth
  have Hi := Lib.hid hi
  have Hq := Lib.hid (And.intro hR hnx')
  clear hZ2 hZ3 hsz hth hi hR hnx' hH3 hb3 hb2 hnx
  go_wp2_with (refine wpList_store_mid rfl 32 _ _ rfl w.heap.size 0 D.toArray rfl rfl Hth.out Hi.out Ho.out.2.1 ?_)
  exact bodyPost_ret (results_cell_row rfl _ _ w.heap.size 32 D.toArray (0, 0) _ rfl Hq.out.1 Tryz.underlying32 rfl Hi.out) rfl ⟨rfl, Hq.out.2⟩

end Go.Proofs.YtihmddpafbackaaGreat

namespace Go.Proofs.YtihmddpafbackaaGreat

open Go.RowKit

set_option linter.unusedVariables false

theorem u8_info : (Tryz.prog.info? 5).map (fun i => (i.zero, i.size, i.bytes)) = some (some (.int .u8 0), 1, 1) := by kernel_rfl

theorem run_append_empty {P : Program} (w : World) (base : Nat) (t ty e : TypeId) (i : TypeInfo) (ht : P.underlying t = some (.slice e)) (hi : P.info? e = some i)
    (v : Value) (n : Nat) (xs : List Value) (size : Nat) (hown : w.ownsRow base e size v n xs) (c : Nat) : (Builtin.append_ #[t, t] ty #[v, .slice none 0 c]).run P w = .ok v w := by
  obtain ⟨_, h | ⟨g, cap, cur, h, _, _, hnc, _⟩⟩ := hown
  · obtain ⟨rfl, rfl⟩ := h
    simp [Builtin.append_, run_underlying ht, sizeOf, typeInfo, hi, Builtin.lenOf, Builtin.firstCells]
  · subst h
    simp [Builtin.append_, run_underlying ht, sizeOf, typeInfo, hi, Builtin.lenOf, Builtin.firstCells, hnc, storeCells]

set_option maxRecDepth 100000 in
/-- append(v, x...) for bytes: 'v' in a row of the call's own, 'x' whatever slice shows the bytes 'm'. -/
theorem run_appendB (w : World) (base : Nat) (v : Value) (l : List UInt8) (hown : Mine w base 5 v l) (A : Option Addr) (c k : Nat) (m : List UInt8) (hr : Bs w A m) (hk : m.length = k)
    (h47 : l.length + k ≤ 140737488355328) (hbase : base ≤ w.heap.size) (ty : TypeId) :
    ∃ v' w', (Builtin.append_ #[22, 22] ty #[v, .slice A k c]).run Tryz.prog w = .ok v' w' ∧ Mine w' base 5 v' (l ++ m) ∧ w.grownBy w' v.ownBlock ∧
      (v'.ownBlock = v.ownBlock ∨ v'.ownBlock = some w.heap.size) := by
  subst hk
  obtain ⟨i0, hi, hz0, hz1, hz2⟩ := info_parts u8_info
  cases A with
  | none =>
    have hm : m = [] := by
      cases m with
      | nil => rfl
      | cons x t => obtain ⟨b, off, e, _⟩ := hr.at_ (i := 0) (by simp); cases e
    subst hm
    exact ⟨v, w, run_append_empty w base _ ty _ i0 Tryz.underlying22 hi v _ _ 1 hown c, by simpa using hown, World.grownBy.refl w _, .inl rfl⟩
  | some ad =>
    have hcells : ∀ j u, (cbs m)[j]? = some u → w.cell? (ad.add j) = some u := by
      intro j u hu
      have hj : j < m.length := by
        rcases Nat.lt_or_ge j m.length with h | h
        · exact h
        · rw [List.getElem?_eq_none (by rw [cbs_length]; exact h)] at hu; cases hu
      obtain ⟨b, off, e, _, hc⟩ := hr.2 (by omega)
      injection e with e
      subst e
      rw [add_mk]
      exact hc j u hu
    obtain ⟨v', w', h1, h2, h3, _, h5⟩ := run_append_own_at (P := Tryz.prog) w base 22 ty 5 i0 (.int .u8 0) 1 1 Tryz.underlying22 hi hz0 hz1 hz2 rfl (by decide) v l.length (cbs l) hown ad m.length c (cbs m)
      (by rw [cbs_length]; simp) hcells (cbs_one m) (by simp only [maxLen]; omega) (by omega) hbase
    exact ⟨v', w', h1, by unfold Mine; rw [List.length_append, cbs_append]; exact h2, h3, h5⟩

theorem wp_appendB {w : World} {ops : Array Oper} {rest : List Oper} {o : Oper} {a : Act} {Q : Exit → Act → World → Prop} (hgd : o.guard = none) (s x : Operand)
    (ho : o.op = .call { callee := .builtin .append, args := #[s, x], argTypes := #[22, 22] })
    (base : Nat) (v : Value) (l : List UInt8) (hs : a.eval s = v) (hown : Mine w base 5 v l) (A : Option Addr) (c k : Nat) (m : List UInt8) (hx : a.eval x = .slice A k c) (hr : Bs w A m) (hk : m.length = k)
    (h47 : l.length + k ≤ 140737488355328) (hbase : base ≤ w.heap.size)
    (h : ∀ v' w', Mine w' base 5 v' (l ++ m) → w.grownBy w' v.ownBlock → (v'.ownBlock = v.ownBlock ∨ v'.ownBlock = some w.heap.size) → wpList Tryz.prog ops Q rest (a.put o.dst v') w') :
    wpList Tryz.prog ops Q (o :: rest) a w := by
  obtain ⟨v', w', hrun, h2, h3, h4⟩ := run_appendB w base v l hown A c k m hr hk h47 hbase o.type
  refine wpList_plain hgd fun K hK => ?_
  unfold Oper.wp execOp
  simp only [ho, resolve, invoke, builtin, Sem.run_bind, Sem.run_pure, Result.andThen_ok, List.map_toArray, List.map_cons, List.map_nil, hs, hx, hrun]
  exact hK _ _ (h v' w' h2 h3 h4)

/-- A new slice that shows 'l', in a row made since the world 'w'. -/
def NewB (w : World) (l : List UInt8) (v : Value) (w' : World) : Prop := Mine w' w.heap.size 5 v l ∧ Below w.heap.size w w'

def RetB (w : World) (l : List UInt8) (e : Ending) (w' : World) : Prop := ∃ v, e = .returned v ∧ NewB w l v w'

theorem NewB.ofDrew {w w' : World} {l : List UInt8} {v : Value} (h : NewB w.drew l v w') : NewB w l v w' := ⟨h.1, ((Below.refl _ _).drew).trans h.2⟩

theorem NewB.nil (w : World) : NewB w [] (.slice none 0 0) w := ⟨World.ownsRow_nil _ _ _ _, Below.refl _ _⟩

theorem NewB.form {w w' : World} {l : List UInt8} {v : Value} (h : NewB w l v w') : ∃ A c, v = .slice A l.length c ∧ l.length ≤ c ∧ c ≤ maxLen ∧ Bs w' A l := Mine.form h.1

theorem NewB.later {w w1 w' : World} {l : List UInt8} {v : Value} (hb : Below w.heap.size w w1) (h : NewB w1 l v w') : NewB w l v w' :=
  ⟨by
    obtain ⟨h1, h2 | ⟨g, cap, cur, h3, h4, h5⟩⟩ := h.1
    · exact ⟨h1, .inl h2⟩
    · exact ⟨h1, .inr ⟨g, cap, cur, h3, Nat.le_trans hb.size h4, h5⟩⟩, hb.trans (h.2.mono hb.size)⟩

set_option maxHeartbeats 400000 in
theorem copyBytes (A : Option Addr) (c n : Nat) (xs : List UInt8) (w : World) (hA : Bs w A xs) (hn : xs.length = n) (hl : n ≤ 140737488355328) :
    Calls Tryz.prog 41 #[.slice A n c] w (RetB w xs) := by
  have Hn := Lib.hid hn
  clear hn
  go_enter Tryz.func41, Tryz.ntmps41
  go_wp2_with (at_builtin; refine wp_appendB rfl _ _ rfl w.heap.size (.slice none 0 0) [] rfl (World.ownsRow_nil _ _ _ _) A c n xs rfl hA Hn.out (by simpa using hl) (Nat.le_refl _) ?_; intro v1 w1 hm1 hg1 ho1)
  go_ret
  exact ⟨v1, rfl, by simpa using hm1, (Below.refl _ _).grown hg1 (Nat.le_refl _) (by simp [Value.ownBlock])⟩

end Go.Proofs.YtihmddpafbackaaGreat

namespace Go.Proofs.YtihmddpafbackaaGreat

open Go.RowKit

set_option linter.unusedVariables false

set_option maxHeartbeats 400000 in
theorem clone_any3 (A : Option Addr) (c n : Nat) (xs : List UInt8) (w : World) (hA : Bs w A xs) (hn : xs.length = n) (hl : n ≤ 140737488355328) :
    Calls Tryz.prog 76 #[.slice A n c] w (RetB w xs) := by
  have Hn := Lib.hid hn
  clear hn
  cases A with
  | none =>
    have hm : xs = [] := by
      cases xs with
      | nil => rfl
      | cons x t => obtain ⟨b, off, e, _⟩ := hA.at_ (i := 0) (by simp); cases e
    subst hm
    have hq := fun (w : World) => Lib.run_eql_slice_nil (P := Tryz.prog) w 22 5 none n c 0 0 Tryz.underlying22
    go_enter Tryz.func76, Tryz.ntmps76
    go_wp2
    go_ret
    exact ⟨_, rfl, World.ownsRow_nil _ _ _ _, Below.refl _ _⟩
  | some ad =>
    have hq := fun (w : World) => Lib.run_eql_slice_nil (P := Tryz.prog) w 22 5 (some ad) n c 0 0 Tryz.underlying22
    go_enter Tryz.func76, Tryz.ntmps76
    go_wp2_with (at_builtin; refine wp_appendB rfl _ _ rfl w.heap.size (.slice (some ⟨w.heap.size, 0, none⟩) 0 0) [] rfl (by exact World.ownsRow_made w #[] 0 (Nat.le_refl _) (by simp [maxLen]) rfl) (some ad) c n xs rfl (by exact hA.on ((Below.refl _ _).alloc (Nat.le_refl _) _)) Hn.out (by simpa using hl) (by simp) ?_; intro v1 w1 hm1 hg1 ho1)
    go_ret
    refine ⟨v1, rfl, by simpa using hm1, ((Below.refl _ _).alloc (Nat.le_refl _) _).grown hg1 (by simp) ?_⟩
    intro k hk
    simp [Value.ownBlock] at hk
    omega

end Go.Proofs.YtihmddpafbackaaGreat

namespace Go.Proofs.YtihmddpafbackaaGreat

open Go.RowKit Go.Maps

set_option linter.unusedVariables false

/-! ### The key: a digest -/

theorem mapM_some {α β : Type} (f : α → Option β) : ∀ l : List α, (∀ a ∈ l, ∃ b, f a = some b) → ∃ r, l.mapM f = some r
  | [], _ => ⟨[], rfl⟩
  | a :: l, h => by
    obtain ⟨b, hb⟩ := h a (by simp)
    obtain ⟨r, hr⟩ := mapM_some f l (fun x hx => h x (by simp [hx]))
    exact ⟨b :: r, by simp [List.mapM_cons, hb, hr]⟩

theorem keyType_digest : Tryz.prog.keyType 32 = true := by kernel_rfl

theorem cells_u8 : Tryz.prog.cellsOf 5 = 1 := by kernel_rfl

theorem cells_digest : Tryz.prog.cellsOf 32 = 32 := by kernel_rfl

theorem under_digest : Tryz.prog.underlying 32 = some (.array 32 5) := by kernel_rfl

theorem types_more : ∃ k, Tryz.prog.types.size + 1 = k + 2 := ⟨Tryz.prog.types.size - 1, by kernel_rfl⟩

theorem keyed_digest : Keyed Tryz.prog 32 := Keyed.of_law (deep_law_laid (by kernel_rfl) (m := 3) (by decide) (by decide +kernel) (by kernel_rfl) (by rw [under_digest]))

theorem wf_byte (x : UInt8) : (Lit.int .u8 (x.toNat : Int)).wf = true := by
  have := x.toNat_lt
  have h1 : (0 : Int) ≤ x.toNat := by omega
  have h2 : (x.toNat : Int) ≤ 255 := by omega
  simp [Lit.wf, IntKind.min, IntKind.max, IntKind.signed, IntKind.bits, h1, h2]
  try omega

theorem key_digest (d : List UInt8) (h : d.length = 32) : ∃ kl, keyOf Tryz.prog 32 (.agg (cbs d).toArray) = some kl := by
  obtain ⟨k, hk⟩ := types_more
  have hf : Value.formed Tryz.prog 32 (.agg (cbs d).toArray) = true := by
    unfold Value.formed
    rw [under_digest, cells_digest]
    simp [cbs_length, h]
  have hl : ∃ ls, Tryz.prog.keyLits (k + 2) 32 (cbs d) = some ls := by
    unfold Program.keyLits
    simp only [under_digest, cells_digest, cbs_length, h, if_true, cells_u8]
    obtain ⟨r, hr⟩ := mapM_some (fun i => Tryz.prog.keyLits (k + 1) 5 (((cbs d).drop (i * 1)).take 1)) (List.range 32) (fun i hi => by
      have hi' : i < d.length := by rw [h]; simpa using hi
      have e1 : ((cbs d).drop (i * 1)).take 1 = [cb d[i]] := by
        rw [Nat.mul_one, List.drop_eq_getElem_cons (by rw [cbs_length]; exact hi')]
        simp [cbs]
      rw [e1]
      unfold Program.keyLits
      simp only [Tryz.underlying5, cb]
      rw [if_pos ⟨trivial, wf_byte d[i]⟩]
      exact ⟨_, rfl⟩)
    rw [hr]
    exact ⟨_, rfl⟩
  obtain ⟨ls, hls⟩ := hl
  refine ⟨.string (keyBytes ls), ?_⟩
  unfold keyOf
  rw [under_digest]
  simp only [keyType_digest, hf, Bool.and_self, if_true, hk]
  show Option.map _ (Tryz.prog.keyLits (k + 2) 32 (cbs d)) = _
  rw [hls]
  rfl

theorem cbs_inj {l m : List UInt8} (h : cbs l = cbs m) : l = m := by
  have := congrArg (List.map fun v => match v with | Value.int _ n => UInt8.ofNat n.toNat | _ => 0) h
  simpa [cbs, cb, Function.comp_def] using this

theorem key_inj {d d' : List UInt8} {kl kl' : Lit} (h : keyOf Tryz.prog 32 (.agg (cbs d).toArray) = some kl) (h' : keyOf Tryz.prog 32 (.agg (cbs d').toArray) = some kl') (hne : d' ≠ d) : kl' ≠ kl := by
  rintro rfl
  have := keyed_digest.inj h h'
  injection this with e
  exact hne (cbs_inj (by have := congrArg Array.toList e; simpa using this)).symm

end Go.Proofs.YtihmddpafbackaaGreat
