/-
  Laid together for a hand-in: Write, Api, App, Clone, Ink, Book.
-/
import Derived.Test.YtkkcjkelijlmbaaZ04
import Derived.Test.YtkkcjkelijlmbaaZ01
import Derived.Laws.ResultCell
import Derived.Maps.Own
import Derived.Maps.OwnOps
import Derived.Maps.Views
import Derived.DeepKeys4

namespace Go.Proofs.Ytkkcjkelijlmbaa

open Go.RowKit

set_option linter.unusedVariables false

theorem none_any (g : Nat) (w : World) (h : w.cell? ⟨g, 0, none⟩ = some (.bool true)) :
    Calls Try.prog 57 #[.pointer (some ⟨g, 0, none⟩)] w fun e w' => e = .returned (.bool false) ∧ w' = w := by
  have hnot : ∀ (x : Bool) (w : World), (Op.unary .not (.bool x)).run Try.prog w = .ok (.bool (!x)) w := fun _ _ => rfl
  go_enter Try.func57, Try.ntmps57
  go_wp2
  go_ret
  exact ⟨rfl, rfl⟩

/-- The bytes of a slice do not lie in block g. -/
def Away (A : Option Addr) (g : Nat) (l : List UInt8) : Prop := l ≠ [] → ∀ a, A = some a → a.block ≠ g

theorem Bs.away {w : World} {A : Option Addr} {l : List UInt8} {g : Nat} (h : Bs w A l) (hg : w.heap.size ≤ g) : Away A g l := by
  intro hl a ha
  obtain ⟨b, off, e, hlt, _⟩ := h.2 (by cases l with | nil => exact absurd rfl hl | cons x t => simp)
  rw [ha] at e
  cases e
  show b ≠ g
  omega

theorem Away.cut {A : Option Addr} {g k m c : Nat} {l : List UInt8} (h : Away A g l) : Away (cutAt A k m c) g (l.drop m) := by
  intro hl
  replace h := h (fun e => hl (by rw [e]; simp))
  unfold cutAt
  split
  · exact h
  · intro a ha
    cases A with
    | none => cases ha
    | some x =>
      simp only [Option.map_some, Option.some.injEq] at ha
      subst ha
      have := h x rfl
      unfold Addr.add
      split <;> exact this

theorem Bs.touched {w w' : World} {A : Option Addr} {l : List UInt8} {g : Nat} (h : Bs w A l) (hb : But g w w') (ha : Away A g l) : Bs w' A l := by
  refine ⟨h.1, fun hn => ?_⟩
  obtain ⟨b, off, e, hlt, hc⟩ := h.2 hn
  refine ⟨b, off, e, Nat.lt_of_lt_of_le hlt hb.size, fun j u hu => hb.cell (hc j u hu) (by have := ha (by intro e2; subst e2; simp at hn) _ e; exact this)⟩

theorem run_restTo (g r : Nat) (h : r < 64) (W : World) : (Instr.sliceAt 110 (.pointer (some ⟨g, 9, none⟩)) (some (.int .i64 (r : Int))) none none).run Try.prog W = .ok (.slice (some ⟨g, 9 + r, none⟩) (64 - r) (64 - r)) W := by
  have h1 : (r : Int) ≤ 64 := by omega
  have h2 : (0 : Int) ≤ (r : Int) := by omega
  have h3 : ¬ (64 = r) := by omega
  clear h
  go_simp

def slen : Value → Nat
  | .slice _ m _ => m
  | _ => 0

theorem HB.state8 {w : World} {g : Nat} {s : S8} {rest : List UInt8} {n : Nat} (h : HB w g s rest n) : w.cell? ⟨g, 1, none⟩ = some (.int .u32 (s.a.toNat : Int)) ∧ w.cell? ⟨g, 2, none⟩ = some (.int .u32 (s.b.toNat : Int)) ∧ w.cell? ⟨g, 3, none⟩ = some (.int .u32 (s.c.toNat : Int)) ∧ w.cell? ⟨g, 4, none⟩ = some (.int .u32 (s.d.toNat : Int)) ∧ w.cell? ⟨g, 5, none⟩ = some (.int .u32 (s.e.toNat : Int)) ∧ w.cell? ⟨g, 6, none⟩ = some (.int .u32 (s.f.toNat : Int)) ∧ w.cell? ⟨g, 7, none⟩ = some (.int .u32 (s.g.toNat : Int)) ∧ w.cell? ⟨g, 8, none⟩ = some (.int .u32 (s.h.toNat : Int)) :=
  ⟨h.state 0 _ rfl, h.state 1 _ rfl, h.state 2 _ rfl, h.state 3 _ rfl, h.state 4 _ rfl, h.state 5 _ rfl, h.state 6 _ rfl, h.state 7 _ rfl⟩

theorem HB.free8 {w : World} {g : Nat} {s : S8} {rest : List UInt8} {n : Nat} (h : HB w g s rest n) : w.frozen? ⟨g, 1, none⟩ = false ∧ w.frozen? ⟨g, 2, none⟩ = false ∧ w.frozen? ⟨g, 3, none⟩ = false ∧ w.frozen? ⟨g, 4, none⟩ = false ∧ w.frozen? ⟨g, 5, none⟩ = false ∧ w.frozen? ⟨g, 6, none⟩ = false ∧ w.frozen? ⟨g, 7, none⟩ = false ∧ w.frozen? ⟨g, 8, none⟩ = false := by
  obtain ⟨_, _, hB, _⟩ := h
  exact ⟨hB.free 1, hB.free 2, hB.free 3, hB.free 4, hB.free 5, hB.free 6, hB.free 7, hB.free 8⟩

theorem range_set1 {w : World} {g j : Nat} {cs : List Value} {v : Value} (h : w.rangeAt g 9 cs) (hj : j < 9) : (w.setCell ⟨g, j, none⟩ v).rangeAt g 9 cs := fun i u hu =>
  (World.cell?_setCell_other _ ⟨g, j, none⟩ ⟨g, 9 + i, none⟩ _ (by intro e; injection e with _ e2; omega)).trans (h i u hu)

theorem range_set8 {w : World} {g : Nat} {cs : List Value} {v1 v2 v3 v4 v5 v6 v7 v8 : Value} (h : w.rangeAt g 9 cs) :
    ((((((((w.setCell ⟨g, 1, none⟩ v1).setCell ⟨g, 2, none⟩ v2).setCell ⟨g, 3, none⟩ v3).setCell ⟨g, 4, none⟩ v4).setCell ⟨g, 5, none⟩ v5).setCell ⟨g, 6, none⟩ v6).setCell ⟨g, 7, none⟩ v7).setCell ⟨g, 8, none⟩ v8).rangeAt g 9 cs :=
  range_set1 (range_set1 (range_set1 (range_set1 (range_set1 (range_set1 (range_set1 (range_set1 h (by decide)) (by decide)) (by decide)) (by decide)) (by decide)) (by decide)) (by decide)) (by decide)

theorem there_set8 {w : World} {g o n : Nat} {v1 v2 v3 v4 v5 v6 v7 v8 : Value} (h : w.there g o n) :
    ((((((((w.setCell ⟨g, 1, none⟩ v1).setCell ⟨g, 2, none⟩ v2).setCell ⟨g, 3, none⟩ v3).setCell ⟨g, 4, none⟩ v4).setCell ⟨g, 5, none⟩ v5).setCell ⟨g, 6, none⟩ v6).setCell ⟨g, 7, none⟩ v7).setCell ⟨g, 8, none⟩ v8).there g o n :=
  World.there_setCells h g 1 [v1, v2, v3, v4, v5, v6, v7, v8]

theorem run_cutB (A : Option Addr) (m c k : Nat) (hk : k ≤ m) (hmc : m ≤ c) (w : World) : (Instr.sliceAt 28 (.slice A m c) (some (.int .i64 (k : Int))) none none).run Try.prog w = .ok (.slice (cutAt A 1 k c) (m - k) (c - k)) w := by
  have h1 : (0 : Int) ≤ (k : Int) := by omega
  have h2 : (k : Int) ≤ (m : Int) := by omega
  unfold cutAt
  go_simp

set_option maxRecDepth 100000 in
set_option maxHeartbeats 3200000 in
theorem write_any (g : Nat) (l b : List UInt8) (A : Option Addr) (n c : Nat) (w : World) (hn : b.length = n) (hc : n ≤ c) (hcm : c ≤ maxLen) (hl : l.length + n ≤ 281474976710656) (h : Hold w g l) (hB : Bs w A b) (hA : Away A g b) :
    Calls Try.prog 47 #[.pointer (some ⟨g, 0, none⟩), .slice A n c] w fun e w' => e = .returned (.int .i64 0) ∧ (Hold w' g (l ++ b) ∧ But g w w') := by
  have hmade : w.cell? ⟨g, 0, none⟩ = some (.bool true) := by obtain ⟨_, hH, _⟩ := h; exact hH.made
  have Hno := Lib.hid (none_any g w hmade)
  have Hg := Lib.hid (And.intro hn (And.intro hc (And.intro hcm (And.intro hl (And.intro h (And.intro hB hA))))))
  clear hn hc hcm hl h hB hA hmade
  go_enter Try.func47, Try.ntmps47
  go_wp2_with (go_at_call 57; refine Hno.out.mono ?_; rintro e w' ⟨rfl, rfl⟩)
  go_loopw [1] (fun v wr => ∃ (x y : List UInt8) (A' : Option Addr) (m c' : Nat), b = x ++ y ∧ y.length = m ∧ v = .slice A' m c' ∧ m ≤ c' ∧ c' ≤ maxLen ∧ Bs wr A' y ∧ Away A' g y ∧ Hold wr g (l ++ x) ∧ But g w' wr) (fun v _ => slen v)
  case atStart =>
    obtain ⟨hn, hc, hcm, hl, h, hB, hA⟩ := Hg.out
    exact ⟨[], b, A, n, c, rfl, hn, rfl, hc, hcm, hB, hA, by rw [List.append_nil]; exact h, But.refl _ _⟩
  case round =>
    obtain ⟨x, y, A', m, c', hb, hy, rfl, hmc, hcm, hB, hA, hH, hbut⟩ := hrel
    by_cases hm : 0 < m
    · obtain ⟨rest, hHB, hrest⟩ := hH
      obtain ⟨N, hN⟩ : ∃ N, N = (l ++ x).length := ⟨_, rfl⟩
      obtain ⟨r, hr⟩ : ∃ r, r = N % 64 := ⟨_, rfl⟩
      have hNl : N + m ≤ 281474976710656 := by
        have := Hg.out.2.2.2.1
        have h2 := Hg.out.1
        rw [hb, List.length_append] at h2
        rw [hN, List.length_append]; omega
      have hsz := hHB.size
      rw [← hN] at hsz hHB hrest
      rw [← hr] at hrest
      have hrlt : r < 64 := by omega
      have esl := run_restTo g r hrlt
      have e1 : (N : Int).tmod 64 = (r : Int) := by rw [Int.tmod_eq_emod_of_nonneg (by omega)]; omega
      have e2 : (N : Int) % 64 = (r : Int) := by omega
      have e3 : IntKind.i64.wrap (r : Int) = (r : Int) := IntWalk.i64_in _ (by omega)
      have i0 : (0 : Int) ≤ (r : Int) := by omega
      have i1 : (r : Int) < 64 := by omega
      have hml := hm
      unfold maxLen at hcm
      have i2 : (0 : Int) < (m : Int) := by omega
      have i3 : (m : Int) ≤ 9223372036854775807 := by omega
      have Hx := Lib.hid (And.intro hb (And.intro hy (And.intro hmc (And.intro hcm (And.intro hB (And.intro hA (And.intro hHB (And.intro hrest (And.intro hN (And.intro hr (And.intro hNl (And.intro hbut hm))))))))))))
      clear hb hy hmc hcm hB hA hHB hrest hN hr hNl hbut hml
      go_wp2
      refine wp_region_still_tail 10 (by kernel_rfl) (by kernel_rfl) ?_
      change wpStill _ _ wr.drew (fun a' => wpList _ _ _ _ a' wr.drew) _ _
      simp only [List.take_succ_cons, List.take_zero, List.drop_succ_cons, List.drop_zero]
      still_step
      still_step
      still_step
      still_step
      still_step
      still_step
      still_step
      still_step
      still_step
      still_step
      refine wpStill_nil ?_
      obtain ⟨hb, hy, hmc, hcm, hB, hA, hHB, hrest, hN, hr, hNl, hbut, hm⟩ := Hx.out
      obtain ⟨k, hk⟩ : ∃ k, k = min m (64 - r) := ⟨_, rfl⟩
      refine wp_copyB rfl (.tmp 19) (.tmp 20) rfl g (9 + r) (64 - r) (64 - r) A' m c' rfl rfl y hy hB k hk (hHB.there (by omega)) ?_
      obtain ⟨d, ks, hBlk, hrl, hkl, hd⟩ := hHB
      have htl : (y.take k).length = k := by rw [List.length_take]; omega
      have q1 := Blk.setMore (w := wr) (cbs (y.take k)) (show Blk wr.drew g 113 _ from hBlk) (o := 9 + r) (by rw [cbs_length, htl, hc_len hrl hkl]; omega)
      rw [hc_put_rest hrl r (y.take k) (by omega), htl] at q1
      have q2 : But g w' (wr.drew.setCells g (9 + r) (cbs (y.take k))) := But.setCells (.inl rfl) _ hbut.drew
      obtain ⟨rest', hrest'⟩ : ∃ rest', rest' = rest.take r ++ y.take k ++ rest.drop (r + k) := ⟨_, rfl⟩
      rw [← hrest'] at q1
      have hrl' : rest'.length = 64 := by rw [hrest', List.length_append, List.length_append, htl, List.length_take, List.length_drop]; omega
      have q3 : But g wr (wr.drew.setCells g (9 + r) (cbs (y.take k))) := But.setCells (.inl rfl) _ (But.refl g wr).drew
      have hBy := hB.touched q3 hA
      generalize wr.drew.setCells g (9 + r) (cbs (y.take k)) = w1 at *
      have c0 := q1.cell (hc_size hrl')
      have f0 := q1.free 73
      obtain ⟨M, hM⟩ : ∃ M, M = N + k := ⟨_, rfl⟩
      have q4 := q1.set_ 73 (.int .i64 (M : Int))
      rw [hc_set_size hrl' M] at q4
      have q5 : But g w' (w1.setCell ⟨g, 73, none⟩ (.int .i64 (M : Int))) := q2.setCell (.inl rfl) _
      have hBy2 : Bs (w1.setCell ⟨g, 73, none⟩ (.int .i64 (M : Int))) A' y := hBy.touched ((But.refl g w1).setCell (.inl rfl) _) hA
      have s1 : (N : Int) + (k : Int) = (M : Int) := by omega
      have s2 : IntKind.i64.wrap (M : Int) = (M : Int) := IntWalk.i64_in _ (by omega)
      have k0 : (0 : Int) ≤ (k : Int) := by omega
      have k1 : (k : Int) ≤ (m : Int) := by omega
      have k2 : (N : Int) ≤ 281474976710656 := by omega
      have k3 : (0 : Int) ≤ (N : Int) := by omega
      have k4 : (k : Int) ≤ 64 := by omega
      have hcut := run_cutB A' m c' k (by omega) hmc
      have Hz := Lib.hid (And.intro hb (And.intro hy (And.intro hmc (And.intro hcm (And.intro hA (And.intro hrest (And.intro hN (And.intro hr (And.intro hNl (And.intro hm (And.intro hk (And.intro hkl (And.intro hd (And.intro hrest' (And.intro hrl' (And.intro q4 (And.intro q5 (And.intro hBy2 (And.intro htl (And.intro hM hrl))))))))))))))))))))
      have hN64 : (l ++ x).length % 64 = r := by rw [← hN, hr]
      by_cases hfull : r + k = 64
      · have d1 : (M : Int) % 64 = 0 := by omega
        have d2 : (M : Int).tmod 64 = 0 := by rw [Int.tmod_eq_emod_of_nonneg (by omega)]; exact d1
        have Hf := Lib.hid (And.intro hfull hN64)
        clear hb hy hmc hcm hA hrest hN hr hNl hm hk hkl hd hrest' hrl' q1 q2 q3 q4 q5 hBy hBy2 htl hBlk hB hbut hrl hM hfull hN64
        go_wp2
        obtain ⟨w2, hw2⟩ : ∃ w2, w2 = w1.setCell ⟨g, 73, none⟩ (.int .i64 (M : Int)) := ⟨_, rfl⟩
        rw [← hw2]
        have Hw2 := Lib.hid hw2
        clear hw2
        obtain ⟨hb, hy, hmc, hcm, hA, hrest, hN, hr, hNl, hm, hk, hkl, hd, hrest', hrl', q4, q5, hBy2, htl, hM, hrl⟩ := Hz.out
        rw [← Hw2.out] at q4 q5 hBy2
        obtain ⟨hfull, hN64⟩ := Hf.out
        obtain ⟨sw, hsw⟩ : ∃ sw, sw = whole (l ++ x) := ⟨_, rfl⟩
        have hH2 : HB w2 g sw rest' M := by rw [hsw]; exact ⟨d, ks, q4, hrl', hkl, hd⟩
        have hwf := whole_full (l ++ x) (y.take k) (by rw [hN64, htl]; exact hfull)
        have hrest2 : rest' = left (l ++ x) ++ y.take k := by
          rw [hrest', List.drop_eq_nil_of_le (by omega), List.append_nil, hrest]
        have hlen : (l ++ (x ++ y.take k)).length = M := by rw [← List.append_assoc, List.length_append, htl, ← hN, hM]
        have hM0 : M % 64 = 0 := by omega
        have htk := fun W hW => take_any g sw sw rest' rest' M W hrl' hW
        have hgoal : ∀ W : World, HB W g (rnd sw rest') rest' M → Hold W g (l ++ (x ++ y.take k)) := by
          intro W hW
          rw [hsw] at hW
          refine ⟨rest', ?_, ?_⟩
          · rw [hlen, ← List.append_assoc, hwf.1, ← hrest2]; exact hW
          · rw [hlen, hM0, List.take_zero, ← List.append_assoc, hwf.2]
        obtain ⟨c0, c1, c2, c3, c4, c5, c6, c7⟩ := HB.state8 hH2
        have hH2d : HB w2.drew g sw rest' M := hH2
        have r1 : w2.drew.rangeAt g 1 (l8 sw) := hH2d.state
        have r2 : w2.drew.rangeAt g 9 (cbs rest') := hH2d.rest
        have r3 : w2.drew.there g 1 8 := hH2d.there (by omega)
        have hi2 : (Try.prog.info? 110).map (·.size) = some (cbs rest').length := by rw [cbs_length, hrl']; exact info64b
        have hu2 := Try.underlying110
        have hv8 : v8 sw = .agg #[.int .u32 (sw.a.toNat : Int), .int .u32 (sw.b.toNat : Int), .int .u32 (sw.c.toNat : Int), .int .u32 (sw.d.toNat : Int), .int .u32 (sw.e.toNat : Int), .int .u32 (sw.f.toNat : Int), .int .u32 (sw.g.toNat : Int), .int .u32 (sw.h.toNat : Int)] := rfl
        rw [hv8] at htk
        obtain ⟨T, hT⟩ : ∃ T, T = rnd sw rest' := ⟨_, rfl⟩
        rw [← hT] at htk hgoal
        have hv8' : v8 T = .agg #[.int .u32 (T.a.toNat : Int), .int .u32 (T.b.toNat : Int), .int .u32 (T.c.toNat : Int), .int .u32 (T.d.toNat : Int), .int .u32 (T.e.toNat : Int), .int .u32 (T.f.toNat : Int), .int .u32 (T.g.toNat : Int), .int .u32 (T.h.toNat : Int)] := rfl
        rw [hv8'] at htk
        have Htk := Lib.hid htk
        have Ho := Lib.hid (And.intro hH2d (And.intro hgoal (And.intro q5 hBy2)))
        clear hb hy hmc hcm hA hrest hN hr hNl hm hk hkl hd hrest' hrl' q4 q5 hBy2 htl hM hrl hfull hN64 hH2 hH2d hwf hrest2 hlen hM0 htk hgoal hv8 hv8' hT hsw d1 d2 s1 s2 Hf
        refine wp_region_any (by kernel_rfl) ?_
        change wpAny _ _ _ _ _ _ _ (World.drew _)
        refine any_take (i := 0) (d := 39) (v := .pointer (some ⟨g, 0, none⟩)) rfl rfl (by kernel_rfl) (by kernel_rfl) (by kernel_rfl) (fun _ _ _ h => h) (Or.inl ⟨by rfl, (by intro w; go_simp)⟩) ?_
        simp only [List.setIfInBounds_toArray, List.set_cons_zero, List.set_cons_succ]
        refine any_take (i := 1) (d := 40) (v := .pointer (some ⟨g, 0, none⟩)) rfl rfl (by kernel_rfl) (by kernel_rfl) (by kernel_rfl) (fun _ _ _ h => h) (Or.inl ⟨by rfl, (by intro w; go_simp)⟩) ?_
        simp only [List.setIfInBounds_toArray, List.set_cons_zero, List.set_cons_succ]
        refine any_take (i := 2) (d := 41) (v := .pointer (some ⟨g, 0, none⟩)) rfl rfl (by kernel_rfl) (by kernel_rfl) (by kernel_rfl) (fun _ _ _ h => h) (Or.inl ⟨by rfl, (by intro w; go_simp)⟩) ?_
        simp only [List.setIfInBounds_toArray, List.set_cons_zero, List.set_cons_succ]
        refine any_take (i := 3) (d := 42) (v := .pointer (some ⟨g, 0, none⟩)) rfl rfl (by kernel_rfl) (by kernel_rfl) (by kernel_rfl) (fun _ _ _ h => h) (Or.inl ⟨by rfl, (by intro w; go_simp)⟩) ?_
        simp only [List.setIfInBounds_toArray, List.set_cons_zero, List.set_cons_succ]
        refine any_take (i := 4) (d := 43) (v := .pointer (some ⟨g, 1, none⟩)) rfl rfl (by kernel_rfl) (by kernel_rfl) (by kernel_rfl) (fun _ _ _ h => h) (Or.inl ⟨by rfl, (by intro w; go_simp)⟩) ?_
        simp only [List.setIfInBounds_toArray, List.set_cons_zero, List.set_cons_succ]
        refine any_take (i := 6) (d := 45) (v := .pointer (some ⟨g, 0, none⟩)) rfl rfl (by kernel_rfl) (by kernel_rfl) (by kernel_rfl) (fun _ _ _ h => h) (Or.inl ⟨by rfl, (by intro w; go_simp)⟩) ?_
        simp only [List.setIfInBounds_toArray, List.set_cons_zero, List.set_cons_succ]
        refine any_take (i := 7) (d := 46) (v := .pointer (some ⟨g, 0, none⟩)) rfl rfl (by kernel_rfl) (by kernel_rfl) (by kernel_rfl) (fun _ _ _ h => h) (Or.inl ⟨by rfl, (by intro w; go_simp)⟩) ?_
        simp only [List.setIfInBounds_toArray, List.set_cons_zero, List.set_cons_succ]
        refine any_take (i := 8) (d := 47) (v := .pointer (some ⟨g, 9, none⟩)) rfl rfl (by kernel_rfl) (by kernel_rfl) (by kernel_rfl) (fun _ _ _ h => h) (Or.inl ⟨by rfl, (by intro w; go_simp)⟩) ?_
        simp only [List.setIfInBounds_toArray, List.set_cons_zero, List.set_cons_succ]
        refine any_two (i := 5) (j := 9) (by kernel_rfl) ?_ ?_
        · refine op_load (d := 44) rfl rfl rfl 108 _ rfl g 1 rfl (l8 sw) _ r1 Try.underlying108 rfl info8w ?_
          simp only [List.setIfInBounds_toArray, List.set_cons_zero, List.set_cons_succ]
          refine any_one (i := 9) (by kernel_rfl) ?_
          refine op_load (d := 48) rfl rfl rfl 110 _ rfl g 9 rfl (cbs rest') _ r2 Try.underlying110 rfl hi2 ?_
          simp only [List.setIfInBounds_toArray, List.set_cons_zero, List.set_cons_succ]
          refine any_one (i := 10) (by kernel_rfl) ?_
          refine wpOp_step rfl (fun K hK => ?_)
          go_simp
          refine (Htk.out w2.drew Ho.out.1).mono ?_
          rintro e w3 ⟨rfl, hH3, hbut3⟩
          refine hK _ _ ?_
          clear hK K
          refine any_take (i := 11) (d := 50) (v := .pointer (some ⟨g, 0, none⟩)) rfl rfl (by kernel_rfl) (by kernel_rfl) (by kernel_rfl) (fun _ _ _ h => h) (Or.inl ⟨by rfl, (by intro w; go_simp)⟩) ?_
          simp only [List.setIfInBounds_toArray, List.set_cons_zero, List.set_cons_succ]
          refine any_take (i := 12) (d := 51) (v := .pointer (some ⟨g, 1, none⟩)) rfl rfl (by kernel_rfl) (by kernel_rfl) (by kernel_rfl) (fun _ _ _ h => h) (Or.inl ⟨by rfl, (by intro w; go_simp)⟩) ?_
          simp only [List.setIfInBounds_toArray, List.set_cons_zero, List.set_cons_succ]
          obtain ⟨hH2, hgoal, q5, hBy2⟩ := Ho.out
          have hnew : HB (w3.setCells g 1 (l8 T)) g T rest' M := by
            obtain ⟨d, ks, hB3, h3⟩ := hH3
            have h4 := Blk.setMore (w := w3) (l8 T) hB3 (o := 1) (by rw [hc_len h3.1 h3.2.1]; show 1 + 8 ≤ 141; omega)
            rw [hc_put_state] at h4
            exact ⟨d, ks, h4, h3⟩
          have p5 : But g w' (w3.setCells g 1 (l8 T)) := But.setCells (.inl rfl) _ (q5.drew.trans hbut3)
          have pB : Bs (w3.setCells g 1 (l8 T)) A' y := hBy2.touched (But.setCells (.inl rfl) _ ((But.refl g w2).drew.trans hbut3)) Hz.out.2.2.2.2.1
          have Hq := Lib.hid (And.intro (hgoal _ hnew) (And.intro p5 pB))
          have ht3 := hH3.there (o := 1) (m := 8) (by omega)
          refine any_one (i := 13) (by kernel_rfl) ?_
          refine op_store rfl rfl rfl 108 _ _ rfl g 1 (l8 T).toArray rfl rfl ht3 info8w (cws_one T.list) ?_
          refine wpAny_done (by kernel_rfl) ?_ _
          clear hH3 hbut3 hH2 hgoal q5 hBy2 hnew p5 pB ht3 c0 c1 c2 c3 c4 c5 c6 c7 r1 r2 r3 hi2
          go_wp2
          go_roundw
          case rel =>
            obtain ⟨hb, hy, hmc, hcm, hA, hrest, hN, hr, hNl, hm, hk, hkl, hd, hrest', hrl', q4, q5, hBy2, htl, hM, hrl⟩ := Hz.out
            obtain ⟨hnew, p5, pB⟩ := Hq.out
            exact ⟨x ++ y.take k, y.drop k, _, _, _, by rw [List.append_assoc, List.take_append_drop]; exact hb, by rw [List.length_drop, hy], rfl, by omega, by unfold maxLen; omega, pB.cut (by omega) (by omega), hA.cut, hnew, p5⟩
          case measure =>
            obtain ⟨hb, hy, hmc, hcm, hA, hrest, hN, hr, hNl, hm, hk, hkl, hd, hrest', hrl', q4, q5, hBy2, htl, hM, hrl⟩ := Hz.out
            show m - k < m
            omega
        · refine op_load (d := 48) rfl rfl rfl 110 _ rfl g 9 rfl (cbs rest') _ r2 Try.underlying110 rfl hi2 ?_
          simp only [List.setIfInBounds_toArray, List.set_cons_zero, List.set_cons_succ]
          refine any_one (i := 5) (by kernel_rfl) ?_
          refine op_load (d := 44) rfl rfl rfl 108 _ rfl g 1 rfl (l8 sw) _ r1 Try.underlying108 rfl info8w ?_
          simp only [List.setIfInBounds_toArray, List.set_cons_zero, List.set_cons_succ]
          refine any_one (i := 10) (by kernel_rfl) ?_
          refine wpOp_step rfl (fun K hK => ?_)
          go_simp
          refine (Htk.out w2.drew Ho.out.1).mono ?_
          rintro e w3 ⟨rfl, hH3, hbut3⟩
          refine hK _ _ ?_
          clear hK K
          refine any_take (i := 11) (d := 50) (v := .pointer (some ⟨g, 0, none⟩)) rfl rfl (by kernel_rfl) (by kernel_rfl) (by kernel_rfl) (fun _ _ _ h => h) (Or.inl ⟨by rfl, (by intro w; go_simp)⟩) ?_
          simp only [List.setIfInBounds_toArray, List.set_cons_zero, List.set_cons_succ]
          refine any_take (i := 12) (d := 51) (v := .pointer (some ⟨g, 1, none⟩)) rfl rfl (by kernel_rfl) (by kernel_rfl) (by kernel_rfl) (fun _ _ _ h => h) (Or.inl ⟨by rfl, (by intro w; go_simp)⟩) ?_
          simp only [List.setIfInBounds_toArray, List.set_cons_zero, List.set_cons_succ]
          obtain ⟨hH2, hgoal, q5, hBy2⟩ := Ho.out
          have hnew : HB (w3.setCells g 1 (l8 T)) g T rest' M := by
            obtain ⟨d, ks, hB3, h3⟩ := hH3
            have h4 := Blk.setMore (w := w3) (l8 T) hB3 (o := 1) (by rw [hc_len h3.1 h3.2.1]; show 1 + 8 ≤ 141; omega)
            rw [hc_put_state] at h4
            exact ⟨d, ks, h4, h3⟩
          have p5 : But g w' (w3.setCells g 1 (l8 T)) := But.setCells (.inl rfl) _ (q5.drew.trans hbut3)
          have pB : Bs (w3.setCells g 1 (l8 T)) A' y := hBy2.touched (But.setCells (.inl rfl) _ ((But.refl g w2).drew.trans hbut3)) Hz.out.2.2.2.2.1
          have Hq := Lib.hid (And.intro (hgoal _ hnew) (And.intro p5 pB))
          have ht3 := hH3.there (o := 1) (m := 8) (by omega)
          refine any_one (i := 13) (by kernel_rfl) ?_
          refine op_store rfl rfl rfl 108 _ _ rfl g 1 (l8 T).toArray rfl rfl ht3 info8w (cws_one T.list) ?_
          refine wpAny_done (by kernel_rfl) ?_ _
          clear hH3 hbut3 hH2 hgoal q5 hBy2 hnew p5 pB ht3 c0 c1 c2 c3 c4 c5 c6 c7 r1 r2 r3 hi2
          go_wp2
          go_roundw
          case rel =>
            obtain ⟨hb, hy, hmc, hcm, hA, hrest, hN, hr, hNl, hm, hk, hkl, hd, hrest', hrl', q4, q5, hBy2, htl, hM, hrl⟩ := Hz.out
            obtain ⟨hnew, p5, pB⟩ := Hq.out
            exact ⟨x ++ y.take k, y.drop k, _, _, _, by rw [List.append_assoc, List.take_append_drop]; exact hb, by rw [List.length_drop, hy], rfl, by omega, by unfold maxLen; omega, pB.cut (by omega) (by omega), hA.cut, hnew, p5⟩
          case measure =>
            obtain ⟨hb, hy, hmc, hcm, hA, hrest, hN, hr, hNl, hm, hk, hkl, hd, hrest', hrl', q4, q5, hBy2, htl, hM, hrl⟩ := Hz.out
            show m - k < m
            omega
      · have hkm : k = m := by omega
        obtain ⟨Rm, hRm⟩ : ∃ Rm, Rm = M % 64 := ⟨_, rfl⟩
        have d1 : (M : Int) % 64 = (Rm : Int) := by omega
        have d2 : (M : Int).tmod 64 = (Rm : Int) := by rw [Int.tmod_eq_emod_of_nonneg (by omega)]; exact d1
        have d3 : ¬ Rm = 0 := by omega
        have hin := whole_in (l ++ x) (y.take k) (by rw [hN64, htl]; omega)
        have hrk : M % 64 = r + k := by omega
        have hnew : Hold (w1.setCell ⟨g, 73, none⟩ (.int .i64 (M : Int))) g (l ++ (x ++ y.take k)) := by
          have hlen : (l ++ (x ++ y.take k)).length = M := by rw [← List.append_assoc, List.length_append, htl, ← hN, hM]
          refine ⟨rest', ?_, ?_⟩
          · rw [hlen, ← List.append_assoc, hin.1]
            exact ⟨d, ks, q4, hrl', hkl, hd⟩
          · rw [hlen, hrk, ← List.append_assoc, hin.2, hrest', List.take_append_of_le_length (by rw [List.length_append, htl, List.length_take]; omega), List.take_of_length_le (by rw [List.length_append, htl, List.length_take]; omega), hrest]
        have Hf := Lib.hid (And.intro hkm hnew)
        clear hb hy hmc hcm hA hrest hN hr hNl hm hk hkl hd hrest' hrl' q1 q2 q3 q4 q5 hBy hBy2 htl hBlk hB hbut hrl hM hfull hN64 hRm hin hrk hnew hkm
        go_wp2
        go_roundw
        case rel =>
          obtain ⟨hb, hy, hmc, hcm, hA, hrest, hN, hr, hNl, hm, hk, hkl, hd, hrest', hrl', q4, q5, hBy2, htl, hM, hrl⟩ := Hz.out
          obtain ⟨hkm, hnew⟩ := Hf.out
          exact ⟨x ++ y.take k, y.drop k, _, _, _, by rw [List.append_assoc, List.take_append_drop]; exact hb, by rw [List.length_drop, hy], rfl, by omega, by unfold maxLen; omega, hBy2.cut (by omega) (by omega), hA.cut, hnew, q5⟩
        case measure =>
          obtain ⟨hb, hy, hmc, hcm, hA, hrest, hN, hr, hNl, hm, hk, hkl, hd, hrest', hrl', q4, q5, hBy2, htl, hM, hrl⟩ := Hz.out
          show m - k < m
          omega
    · have hm0 : m = 0 := by omega
      subst hm0
      have hy0 : y = [] := List.eq_nil_of_length_eq_zero hy
      subst hy0
      rw [List.append_nil] at hb
      subst hb
      have i2 : ¬ (0 : Int) < ((0 : Nat) : Int) := by omega
      have Hq := Lib.hid (And.intro hH hbut)
      clear hy hmc hcm hB hA hH hbut hm
      go_wp2
      go_ret
      exact ⟨rfl, Hq.out⟩

end Go.Proofs.Ytkkcjkelijlmbaa

namespace Go.Proofs.Ytkkcjkelijlmbaa

open Go.RowKit

set_option linter.unusedVariables false

theorem start_any (w : World) : Calls Try.prog 56 #[] w fun e w' => e = .returned (.agg #[.int .u32 1779033703, .int .u32 3144134277, .int .u32 1013904242, .int .u32 2773480762, .int .u32 1359893119, .int .u32 2600822924, .int .u32 528734635, .int .u32 1541459225]) ∧ Below w.heap.size w w' := by
  go_enter Try.func56, Try.ntmps56
  go_wp2
  refine bodyPost_ret (results_cell_row rfl _ _ w.heap.size 108 _ (0, 0) _ rfl (heap_alloc_new w _) Try.underlying108 rfl info8w) rfl ⟨?_, (Below.refl _ _).alloc (Nat.le_refl _) _⟩
  rfl

theorem Hold.touched {w w' : World} {g k : Nat} {l : List UInt8} (h : Hold w g l) (hb : But k w w') (hne : g ≠ k) : Hold w' g l := by
  obtain ⟨rest, h1, h2⟩ := h
  exact ⟨rest, h1.touched hb hne, h2⟩

theorem Hold.below {w w' : World} {g : Nat} {l : List UInt8} (h : Hold w g l) (hb : Below w.heap.size w w') : Hold w' g l := by
  obtain ⟨rest, h1, h2⟩ := h
  exact ⟨rest, h1.below hb, h2⟩

theorem Hold.lt {w : World} {g : Nat} {l : List UInt8} (h : Hold w g l) : g < w.heap.size := by obtain ⟨_, h1, _⟩ := h; exact h1.lt

theorem Hold.made {w : World} {g : Nat} {l : List UInt8} (h : Hold w g l) : w.cell? ⟨g, 0, none⟩ = some (.bool true) := by obtain ⟨_, h1, _⟩ := h; exact h1.made

def zero141 : List Value := hcells S8.first (List.replicate 64 0) 0 0 0 (List.replicate 64 (.int .u32 0))

set_option maxRecDepth 100000 in
set_option maxHeartbeats 800000 in
theorem new_any (w : World) : Calls Try.prog 46 #[] w fun e w' => ∃ g, e = .returned (.pointer (some ⟨g, 0, none⟩)) ∧ w.heap.size ≤ g ∧ Hold w' g [] ∧ Below w.heap.size w w' := by
  go_enter Try.func46, Try.ntmps46
  go_wp2_with fail
  refine (start_any _).mono ?_
  rintro e w1 ⟨rfl, b1⟩
  go_wp2
  go_ret
  exact ⟨w1.heap.size, rfl, b1.size, ⟨List.replicate 64 0, ⟨0, List.replicate 64 (.int .u32 0), Blk.new (by kernel_rfl) rfl, rfl, rfl, .inl rfl⟩, rfl⟩, b1.alloc b1.size _⟩

theorem results_row_tmp {P : Program} {fn : Func} {p u : Tmp} {ty : TypeId} (h : fn.results = #[.cell p ty, .tmp u]) (tmps : Array Value) (w : World) (g : Nat) (t : TypeId) (cs : Array Value) (fr : Nat × Nat) (d : TypeDesc)
    (hp : tmps.getD p undef = .pointer (some ⟨g, 0, none⟩)) (hg : w.heap[g]? = some (.cells cs t fr))
    (hu : P.underlying ty = some d) (hd : (match d with | .struct _ | .array _ _ => true | _ => false) = true) (hi : (P.info? ty).map (·.size) = some cs.size) :
    (results fn tmps).run P w = .ok (.tuple #[.agg cs, tmps.getD u undef]) w := by
  have hp' : tmps[p]?.getD undef = .pointer (some ⟨g, 0, none⟩) := by simpa using hp
  rw [results_cell_tmp h]
  simp [hp', asAddr, run_loadVar_row w g t ty cs fr d hg hu hd hi, Result.andThen]

set_option maxRecDepth 100000 in
set_option maxHeartbeats 800000 in
theorem of_any (A : Option Addr) (n c : Nat) (l : List UInt8) (w : World) (hB : Bs w A l) (hn : l.length = n) (hc : n ≤ c) (hcm : c ≤ maxLen) (hl : n ≤ 281474976710656) :
    Calls Try.prog 38 #[.slice A n c] w fun e w' => e = .returned (.agg (cbs (digest l)).toArray) ∧ Below w.heap.size w w' := by
  obtain ⟨D, hD32, hDv, hD1⟩ : ∃ D : List Value, D.length = 32 ∧ cbs (digest l) = D ∧ D.toArray.all (·.oneCell') = true := ⟨cbs (digest l), by rw [cbs_length, digest_last]; rfl, rfl, cbs_one' _⟩
  rw [hDv]
  have Ho := Lib.hid (And.intro hD32 (And.intro hD1 hDv))
  have Hl := Lib.hid (And.intro hB (And.intro hn (And.intro hc (And.intro hcm hl))))
  clear hD32 hD1 hDv hB hn hc hcm hl
  go_enter Try.func38, Try.ntmps38
  go_wp2_with fail
  refine (new_any _).mono ?_
  rintro e w1 ⟨g, rfl, hg, hH, b1⟩
  have z1 := b1.size
  simp only [World.size_alloc] at hg z1
  obtain ⟨hB, hn, hc, hcm, hl⟩ := Hl.out
  have hB1 : Bs w1 A l := (hB.after ((Below.refl _ _).alloc (Nat.le_refl _) (.cells (cbs (List.replicate 32 0)).toArray 30))).after b1
  have hA : Away A g l := hB.away (by omega)
  have hZ : Blk w1 w.heap.size 30 (cbs (List.replicate 32 0)) := Blk.below (Blk.new rfl rfl) b1 (by simp)
  have hnx : Below w.heap.size w w1 := ((Below.refl _ _).alloc (Nat.le_refl _) _).trans (b1.mono (by simp))
  have hwr := write_any g [] l A n c w1 hn hc hcm (by simpa using hl) hH hB1 hA
  rw [List.nil_append] at hwr
  have Hwr := Lib.hid hwr
  clear hB hn hc hcm hl hB1 hA hwr hH b1
  go_wp2_with fail
  refine Hwr.out.mono ?_
  rintro e w2 ⟨rfl, hH2, hb2⟩
  have hZ2 := hb2.blk hZ (by omega)
  have hdg := digest_any g l w2 (by have := Hl.out; omega) hH2
  rw [Ho.out.2.2] at hdg
  have Hdg := Lib.hid hdg
  have hb2s := hb2.size
  clear hdg hH2 hZ
  go_wp2_with fail
  refine Hdg.out.mono ?_
  rintro e w3 ⟨rfl, hH3, hb3⟩
  have hZ3 := hb3.blk hZ2 (by omega)
  have hsz : D.toArray.size = 32 := by rw [List.size_toArray]; exact Ho.out.1
  have hth : w3.there w.heap.size 0 D.toArray.size := by
    have e := hZ3.there
    rw [cbs_length, List.length_replicate] at e
    rw [hsz]; exact e
  have hi : (Try.prog.info? 30).map (·.size) = some D.toArray.size := by rw [hsz]; exact info32b
  have hR := hZ3.setAll (vs := D) (by rw [Ho.out.1, cbs_length, List.length_replicate])
  have hnx' : Below w.heap.size w (w3.setCells w.heap.size 0 D) :=
    Below.setCells (Nat.le_refl _) _ ((hnx.trans (hb2.above (by omega) (by omega))).trans (hb3.above (by omega) (by omega)))
  have Hth := Lib.hid hth
  have Hi := Lib.hid hi
  have Hq := Lib.hid (And.intro hR hnx')
  clear hZ2 hZ3 hsz hth hi hR hnx' hH3 hb3 hb2 hnx
  go_wp2_with (refine wpList_store_mid rfl 30 _ _ rfl w.heap.size 0 D.toArray rfl rfl Hth.out Hi.out Ho.out.2.1 ?_)
  exact bodyPost_ret (results_cell_row rfl _ _ w.heap.size 30 D.toArray (0, 0) _ rfl Hq.out.1 Try.underlying30 rfl Hi.out) rfl ⟨rfl, Hq.out.2⟩

end Go.Proofs.Ytkkcjkelijlmbaa

namespace Go.Proofs.Ytkkcjkelijlmbaa

open Go.RowKit

set_option linter.unusedVariables false

theorem u8_info : (Try.prog.info? 5).map (fun i => (i.zero, i.size, i.bytes)) = some (some (.int .u8 0), 1, 1) := by kernel_rfl

theorem run_append_empty {P : Program} (w : World) (base : Nat) (t ty e : TypeId) (i : TypeInfo) (ht : P.underlying t = some (.slice e)) (hi : P.info? e = some i)
    (v : Value) (n : Nat) (xs : List Value) (size : Nat) (hown : w.ownsRow base e size v n xs) (c : Nat) : (Builtin.append_ #[t, t] ty #[v, .slice none 0 c]).run P w = .ok v w := by
  obtain ⟨_, h | ⟨g, cap, cur, h, _, _, hnc, _⟩⟩ := hown
  · obtain ⟨rfl, rfl⟩ := h
    simp [Builtin.append_, run_underlying ht, sizeOf, typeInfo, hi, Builtin.lenOf, Builtin.firstCells]
  · subst h
    simp [Builtin.append_, run_underlying ht, sizeOf, typeInfo, hi, Builtin.lenOf, Builtin.firstCells, hnc, storeCells]

set_option maxRecDepth 100000 in
/-- append(v, x...) for bytes: 'v' in a row of the call's own, 'x' whatever slice shows the bytes 'm'. -/
theorem run_appendB (w : World) (base : Nat) (v : Value) (l : List UInt8) (hown : Mine w base 5 v l) (A : Option Addr) (c k : Nat) (m : List UInt8) (hr : Bs w A m) (hk : m.length = k)
    (h47 : l.length + k ≤ 140737488355328) (hbase : base ≤ w.heap.size) (ty : TypeId) :
    ∃ v' w', (Builtin.append_ #[28, 28] ty #[v, .slice A k c]).run Try.prog w = .ok v' w' ∧ Mine w' base 5 v' (l ++ m) ∧ w.grownBy w' v.ownBlock ∧
      (v'.ownBlock = v.ownBlock ∨ v'.ownBlock = some w.heap.size) := by
  subst hk
  obtain ⟨i0, hi, hz0, hz1, hz2⟩ := info_parts u8_info
  cases A with
  | none =>
    have hm : m = [] := by
      cases m with
      | nil => rfl
      | cons x t => obtain ⟨b, off, e, _⟩ := hr.at_ (i := 0) (by simp); cases e
    subst hm
    exact ⟨v, w, run_append_empty w base _ ty _ i0 Try.underlying28 hi v _ _ 1 hown c, by simpa using hown, World.grownBy.refl w _, .inl rfl⟩
  | some ad =>
    have hcells : ∀ j u, (cbs m)[j]? = some u → w.cell? (ad.add j) = some u := by
      intro j u hu
      have hj : j < m.length := by
        rcases Nat.lt_or_ge j m.length with h | h
        · exact h
        · rw [List.getElem?_eq_none (by rw [cbs_length]; exact h)] at hu; cases hu
      obtain ⟨b, off, e, _, hc⟩ := hr.2 (by omega)
      injection e with e
      subst e
      rw [add_mk]
      exact hc j u hu
    obtain ⟨v', w', h1, h2, h3, _, h5⟩ := run_append_own_at (P := Try.prog) w base 28 ty 5 i0 (.int .u8 0) 1 1 Try.underlying28 hi hz0 hz1 hz2 rfl (by decide) v l.length (cbs l) hown ad m.length c (cbs m)
      (by rw [cbs_length]; simp) hcells (cbs_one m) (by simp only [maxLen]; omega) (by omega) hbase
    exact ⟨v', w', h1, by unfold Mine; rw [List.length_append, cbs_append]; exact h2, h3, h5⟩

theorem wp_appendB {w : World} {ops : Array Oper} {rest : List Oper} {o : Oper} {a : Act} {Q : Exit → Act → World → Prop} (hgd : o.guard = none) (s x : Operand)
    (ho : o.op = .call { callee := .builtin .append, args := #[s, x], argTypes := #[28, 28] })
    (base : Nat) (v : Value) (l : List UInt8) (hs : a.eval s = v) (hown : Mine w base 5 v l) (A : Option Addr) (c k : Nat) (m : List UInt8) (hx : a.eval x = .slice A k c) (hr : Bs w A m) (hk : m.length = k)
    (h47 : l.length + k ≤ 140737488355328) (hbase : base ≤ w.heap.size)
    (h : ∀ v' w', Mine w' base 5 v' (l ++ m) → w.grownBy w' v.ownBlock → (v'.ownBlock = v.ownBlock ∨ v'.ownBlock = some w.heap.size) → wpList Try.prog ops Q rest (a.put o.dst v') w') :
    wpList Try.prog ops Q (o :: rest) a w := by
  obtain ⟨v', w', hrun, h2, h3, h4⟩ := run_appendB w base v l hown A c k m hr hk h47 hbase o.type
  refine wpList_plain hgd fun K hK => ?_
  unfold Oper.wp execOp
  simp only [ho, resolve, invoke, builtin, Sem.run_bind, Sem.run_pure, Result.andThen_ok, List.map_toArray, List.map_cons, List.map_nil, hs, hx, hrun]
  exact hK _ _ (h v' w' h2 h3 h4)

/-- A new slice that shows 'l', in a row made since the world 'w'. -/
def NewB (w : World) (l : List UInt8) (v : Value) (w' : World) : Prop := Mine w' w.heap.size 5 v l ∧ Below w.heap.size w w'

def RetB (w : World) (l : List UInt8) (e : Ending) (w' : World) : Prop := ∃ v, e = .returned v ∧ NewB w l v w'

theorem NewB.ofDrew {w w' : World} {l : List UInt8} {v : Value} (h : NewB w.drew l v w') : NewB w l v w' := ⟨h.1, ((Below.refl _ _).drew).trans h.2⟩

theorem NewB.nil (w : World) : NewB w [] (.slice none 0 0) w := ⟨World.ownsRow_nil _ _ _ _, Below.refl _ _⟩

theorem NewB.form {w w' : World} {l : List UInt8} {v : Value} (h : NewB w l v w') : ∃ A c, v = .slice A l.length c ∧ l.length ≤ c ∧ c ≤ maxLen ∧ Bs w' A l := Mine.form h.1

theorem NewB.later {w w1 w' : World} {l : List UInt8} {v : Value} (hb : Below w.heap.size w w1) (h : NewB w1 l v w') : NewB w l v w' :=
  ⟨by
    obtain ⟨h1, h2 | ⟨g, cap, cur, h3, h4, h5⟩⟩ := h.1
    · exact ⟨h1, .inl h2⟩
    · exact ⟨h1, .inr ⟨g, cap, cur, h3, Nat.le_trans hb.size h4, h5⟩⟩, hb.trans (h.2.mono hb.size)⟩

end Go.Proofs.Ytkkcjkelijlmbaa

namespace Go.Proofs.Ytkkcjkelijlmbaa

open Go.RowKit

set_option linter.unusedVariables false

set_option maxHeartbeats 400000 in
theorem clone_any (A : Option Addr) (c n : Nat) (xs : List UInt8) (w : World) (hA : Bs w A xs) (hn : xs.length = n) (hl : n ≤ 140737488355328) :
    Calls Try.prog 50 #[.slice A n c] w (RetB w xs) := by
  have Hn := Lib.hid hn
  clear hn
  cases A with
  | none =>
    have hm : xs = [] := by
      cases xs with
      | nil => rfl
      | cons x t => obtain ⟨b, off, e, _⟩ := hA.at_ (i := 0) (by simp); cases e
    subst hm
    have hq := fun (w : World) => Lib.run_eql_slice_nil (P := Try.prog) w 28 5 none n c 0 0 Try.underlying28
    go_enter Try.func50, Try.ntmps50
    go_wp2
    go_ret
    exact ⟨_, rfl, World.ownsRow_nil _ _ _ _, Below.refl _ _⟩
  | some ad =>
    have hq := fun (w : World) => Lib.run_eql_slice_nil (P := Try.prog) w 28 5 (some ad) n c 0 0 Try.underlying28
    go_enter Try.func50, Try.ntmps50
    go_wp2_with (at_builtin; refine wp_appendB rfl _ _ rfl w.heap.size (.slice (some ⟨w.heap.size, 0, none⟩) 0 0) [] rfl (by exact World.ownsRow_made w #[] 0 (Nat.le_refl _) (by simp [maxLen]) rfl) (some ad) c n xs rfl (by exact hA.on ((Below.refl _ _).alloc (Nat.le_refl _) _)) Hn.out (by simpa using hl) (by simp) ?_; intro v1 w1 hm1 hg1 ho1)
    go_ret
    refine ⟨v1, rfl, by simpa using hm1, ((Below.refl _ _).alloc (Nat.le_refl _) _).grown hg1 (by simp) ?_⟩
    intro k hk
    simp [Value.ownBlock] at hk
    omega

end Go.Proofs.Ytkkcjkelijlmbaa

namespace Go.Proofs.Ytkkcjkelijlmbaa

open Go.RowKit Go.Maps

set_option linter.unusedVariables false

/-! ### The key: a digest -/

theorem mapM_some {α β : Type} (f : α → Option β) : ∀ l : List α, (∀ a ∈ l, ∃ b, f a = some b) → ∃ r, l.mapM f = some r
  | [], _ => ⟨[], rfl⟩
  | a :: l, h => by
    obtain ⟨b, hb⟩ := h a (by simp)
    obtain ⟨r, hr⟩ := mapM_some f l (fun x hx => h x (by simp [hx]))
    exact ⟨b :: r, by simp [List.mapM_cons, hb, hr]⟩

theorem keyType_digest : Try.prog.keyType 30 = true := by kernel_rfl

theorem cells_u8 : Try.prog.cellsOf 5 = 1 := by kernel_rfl

theorem cells_digest : Try.prog.cellsOf 30 = 32 := by kernel_rfl

theorem under_digest : Try.prog.underlying 30 = some (.array 32 5) := by kernel_rfl

theorem types_more : ∃ k, Try.prog.types.size + 1 = k + 2 := ⟨Try.prog.types.size - 1, by kernel_rfl⟩

theorem keyed_digest : Keyed Try.prog 30 := Keyed.of_law (deep_law_laid (by kernel_rfl) (m := 3) (by decide) (by decide +kernel) (by kernel_rfl) (by rw [under_digest]))

theorem wf_byte (x : UInt8) : (Lit.int .u8 (x.toNat : Int)).wf = true := by
  have := x.toNat_lt
  have h1 : (0 : Int) ≤ x.toNat := by omega
  have h2 : (x.toNat : Int) ≤ 255 := by omega
  simp [Lit.wf, IntKind.min, IntKind.max, IntKind.signed, IntKind.bits, h1, h2]
  try omega

theorem key_digest (d : List UInt8) (h : d.length = 32) : ∃ kl, keyOf Try.prog 30 (.agg (cbs d).toArray) = some kl := by
  obtain ⟨k, hk⟩ := types_more
  have hf : Value.formed Try.prog 30 (.agg (cbs d).toArray) = true := by
    unfold Value.formed
    rw [under_digest, cells_digest]
    simp [cbs_length, h]
  have hl : ∃ ls, Try.prog.keyLits (k + 2) 30 (cbs d) = some ls := by
    unfold Program.keyLits
    simp only [under_digest, cells_digest, cbs_length, h, if_true, cells_u8]
    obtain ⟨r, hr⟩ := mapM_some (fun i => Try.prog.keyLits (k + 1) 5 (((cbs d).drop (i * 1)).take 1)) (List.range 32) (fun i hi => by
      have hi' : i < d.length := by rw [h]; simpa using hi
      have e1 : ((cbs d).drop (i * 1)).take 1 = [cb d[i]] := by
        rw [Nat.mul_one, List.drop_eq_getElem_cons (by rw [cbs_length]; exact hi')]
        simp [cbs]
      rw [e1]
      unfold Program.keyLits
      simp only [Try.underlying5, cb]
      rw [if_pos ⟨trivial, wf_byte d[i]⟩]
      exact ⟨_, rfl⟩)
    rw [hr]
    exact ⟨_, rfl⟩
  obtain ⟨ls, hls⟩ := hl
  refine ⟨.string (keyBytes ls), ?_⟩
  unfold keyOf
  rw [under_digest]
  simp only [keyType_digest, hf, Bool.and_self, if_true, hk]
  show Option.map _ (Try.prog.keyLits (k + 2) 30 (cbs d)) = _
  rw [hls]
  rfl

theorem cbs_inj {l m : List UInt8} (h : cbs l = cbs m) : l = m := by
  have := congrArg (List.map fun v => match v with | Value.int _ n => UInt8.ofNat n.toNat | _ => 0) h
  simpa [cbs, cb, Function.comp_def] using this

theorem key_inj {d d' : List UInt8} {kl kl' : Lit} (h : keyOf Try.prog 30 (.agg (cbs d).toArray) = some kl) (h' : keyOf Try.prog 30 (.agg (cbs d').toArray) = some kl') (hne : d' ≠ d) : kl' ≠ kl := by
  rintro rfl
  have := keyed_digest.inj h h'
  injection this with e
  exact hne (cbs_inj (by have := congrArg Array.toList e; simpa using this)).symm

end Go.Proofs.Ytkkcjkelijlmbaa

namespace Go.Proofs.Ytkkcjkelijlmbaa

open Go.RowKit Go.Maps

set_option linter.unusedVariables false

/-- Of the old blocks only such of 'S' are not as they were. -/
structure Out (S : Nat → Prop) (w w' : World) : Prop where
  os : w'.os = w.os
  tape : w'.tape = w.tape
  output : w'.output = w.output
  size : w.heap.size ≤ w'.heap.size
  block : ∀ i, i < w.heap.size → ¬ S i → w'.heap[i]? = w.heap[i]?

section

variable {S S' : Nat → Prop} {a b c w w' : World}

theorem Out.refl (S : Nat → Prop) (w : World) : Out S w w := ⟨rfl, rfl, rfl, Nat.le_refl _, fun _ _ _ => rfl⟩

theorem Out.trans (h : Out S a b) (k : Out S' b c) (hs : ∀ i, i < a.heap.size → S' i → S i) : Out S a c :=
  ⟨k.os.trans h.os, k.tape.trans h.tape, k.output.trans h.output, Nat.le_trans h.size k.size, fun i hi hn => (k.block i (Nat.lt_of_lt_of_le hi h.size) fun e => hn (hs i hi e)).trans (h.block i hi hn)⟩

theorem Out.ofBelow (S : Nat → Prop) (h : Below w.heap.size w w') : Out S w w' := ⟨h.os, h.tape, h.output, h.size, fun i hi _ => h.block i hi⟩

theorem Out.then_below (h : Out S a b) (k : Below b.heap.size b c) : Out S a c := h.trans (Out.ofBelow S k) fun _ _ e => e

theorem Out.then_grown (h : Out S a b) {row : Option Nat} (k : b.grownBy c row) (hr : ∀ i, row = some i → i < a.heap.size → S i) : Out S a c :=
  ⟨k.os.trans h.os, k.tape.trans h.tape, k.output.trans h.output, Nat.le_trans h.size k.size, fun i hi hn => (k.block i (Nat.lt_of_lt_of_le hi h.size) fun e => hn (hr i e.symm hi)).trans (h.block i hi hn)⟩

theorem Out.setCell (h : Out S a w) {p : Addr} (hp : p.block < a.heap.size → S p.block) (u : Value) : Out S a (w.setCell p u) := by
  refine ⟨h.os, h.tape, h.output, by simpa [World.setCell] using h.size, fun i hi hn => ?_⟩
  refine (Below.heap_setCell w p u i ?_).trans (h.block i hi hn)
  rintro rfl
  exact hn (hp hi)

theorem Out.drewN (h : Out S a w) (n : Nat) : Out S a (w.drewN n) := ⟨h.os, h.tape, h.output, h.size, h.block⟩

theorem Out.above {B : Nat} (h : Out S w w') (hS : ∀ i, S i → B ≤ i) (hB : B ≤ w.heap.size) : Below B w w' :=
  ⟨h.os, h.tape, h.output, h.size, fun i hi => h.block i (by omega) fun e => by have := hS i e; omega⟩

theorem Out.blk {g : Nat} {t : TypeId} {l : List Value} (h : Out S w w') (hb : Blk w g t l) (hn : ¬ S g) : Blk w' g t l := (h.block g hb.lt hn).trans hb

end

/-! ### Rows that stay -/

theorem row_stay {w w' : World} {base : Nat} {e : TypeId} {size n : Nat} {v : Value} {xs : List Value} (h : w.ownsRow base e size v n xs)
    (hk : ∀ b cs, v.ownBlock = some b → w.heap[b]? = some (.cells cs e (0, 0)) → w'.heap[b]? = w.heap[b]?) : w'.ownsRow base e size v n xs := by
  obtain ⟨h1, h2 | ⟨g, cap, cur, rfl, hb, hg, h3⟩⟩ := h
  · exact ⟨h1, .inl h2⟩
  · exact ⟨h1, .inr ⟨g, cap, cur, rfl, hb, (hk g cur rfl hg).trans hg, h3⟩⟩

theorem row_block {w : World} {base : Nat} {e : TypeId} {size n : Nat} {v : Value} {xs : List Value} (h : w.ownsRow base e size v n xs) {b : Nat} (hb : v.ownBlock = some b) : ∃ cs, w.heap[b]? = some (.cells cs e (0, 0)) := by
  obtain ⟨h1, ⟨rfl, _⟩ | ⟨g, cap, cur, rfl, _, hg, _⟩⟩ := h
  · simp [Value.ownBlock] at hb
  · simp [Value.ownBlock] at hb; subst hb; exact ⟨cur, hg⟩

theorem row_base {w : World} {base base' : Nat} {e : TypeId} {size n : Nat} {v : Value} {xs : List Value} (h : w.ownsRow base e size v n xs) (hle : base' ≤ base) : w.ownsRow base' e size v n xs := by
  obtain ⟨h1, h2 | ⟨g, cap, cur, rfl, hb, h3⟩⟩ := h
  · exact ⟨h1, .inl h2⟩
  · exact ⟨h1, .inr ⟨g, cap, cur, rfl, Nat.le_trans hle hb, h3⟩⟩

theorem Mine.unique {w : World} {base : Nat} {e : TypeId} {v : Value} {x y : List UInt8} (h : Mine w base e v x) (k : Mine w base e v y) : x = y := by
  obtain ⟨h1, ⟨rfl, hx⟩ | ⟨g, cap, cur, rfl, _, hg, _, _, _, ht⟩⟩ := h
  · obtain ⟨_, ⟨_, hy⟩ | ⟨_, _, _, e1, _⟩⟩ := k
    · rw [List.eq_nil_of_length_eq_zero hx, List.eq_nil_of_length_eq_zero hy]
    · cases e1
  · obtain ⟨_, ⟨e1, _⟩ | ⟨g', cap', cur', e1, _, hg', _, _, _, ht'⟩⟩ := k
    · cases e1
    · injection e1 with e2 e3 e4
      injection e2 with e2
      injection e2 with e2
      subst e2
      rw [hg] at hg'
      injection hg' with e5
      injection e5 with e5
      subst e5
      rw [e3] at ht
      exact cbs_inj (ht.symm.trans ht')

/-! ### What a key's slice shows -/

def Rv (v : Value) : Option (DataW Value × List MemPlace) := some (.held v, [])

def nilS : Value := .slice none 0 0

def grp (d : List UInt8) (L : List (List UInt8)) : List (List UInt8) := L.filter fun x => digest x == d

def HeadOf (w : World) (S : Nat → Prop) (h : Value) (x : List UInt8) : Prop := Mine w 0 5 h x ∧ ∀ b, h.ownBlock = some b → S b

def Keeps (w : World) (S : Nat → Prop) (v : Value) (xs : List (List UInt8)) : Prop :=
  ∃ cs, w.ownsRow 0 28 1 v xs.length cs ∧ (∀ b, v.ownBlock = some b → S b) ∧ (xs = [] → v = nilS) ∧ ∀ (j : Nat) (x : List UInt8), xs[j]? = some x → ∃ h, cs[j]? = some h ∧ HeadOf w S h x

section

variable {S S' : Nat → Prop} {w w' : World} {v : Value} {xs : List (List UInt8)}

theorem HeadOf.stay {h : Value} {x : List UInt8} (hd : HeadOf w S h x) (hS : ∀ i, S i → S' i) (hk : ∀ i cs, S i → w.heap[i]? = some (.cells cs 5 (0, 0)) → w'.heap[i]? = w.heap[i]?) : HeadOf w' S' h x :=
  ⟨row_stay hd.1 fun b cs hb hc => hk b cs (hd.2 b hb) hc, fun b hb => hS b (hd.2 b hb)⟩

theorem Keeps.stay (h : Keeps w S v xs) (hS : ∀ i, S i → S' i) (hk : ∀ i cs, S i → w.heap[i]? = some (.cells cs 5 (0, 0)) → w'.heap[i]? = w.heap[i]?)
    (hv : ∀ b cs, v.ownBlock = some b → S b → w.heap[b]? = some (.cells cs 28 (0, 0)) → w'.heap[b]? = w.heap[b]?) : Keeps w' S' v xs := by
  obtain ⟨cs, h1, h2, h3, h4⟩ := h
  refine ⟨cs, row_stay h1 fun b cs hb hc => hv b cs hb (h2 b hb) hc, fun b hb => hS b (h2 b hb), h3, fun j x hx => ?_⟩
  obtain ⟨hd, e, hh⟩ := h4 j x hx
  exact ⟨hd, e, hh.stay hS hk⟩

theorem Keeps.form (h : Keeps w S v xs) : ∃ A c, v = .slice A xs.length c ∧ xs.length ≤ c ∧ c ≤ maxLen := by
  obtain ⟨cs, ⟨_, ⟨rfl, e⟩ | ⟨g, cap, cur, rfl, _, _, h1, h2, _⟩⟩, _⟩ := h
  · exact ⟨none, 0, by rw [e], by omega, by simp [maxLen]⟩
  · exact ⟨_, cap, rfl, h1, h2⟩

/-- Element j, as memory has it. -/
theorem Keeps.at_ (h : Keeps w S v xs) {j : Nat} (hj : j < xs.length) : ∃ b A c c', v = .slice (some ⟨b, 0, none⟩) xs.length c' ∧ w.cell? ⟨b, j, none⟩ = some (.slice A xs[j].length c) ∧ xs[j].length ≤ c ∧ c ≤ maxLen ∧ Bs w A xs[j] := by
  obtain ⟨cs, h1, h2, h3, h4⟩ := h
  obtain ⟨hd, e, hh⟩ := h4 j _ (List.getElem?_eq_getElem hj)
  obtain ⟨A, c, rfl, a1, a2, a3⟩ := Mine.form hh.1
  have hb : ∃ b c', v = .slice (some ⟨b, 0, none⟩) xs.length c' := by
    rcases h1.2 with ⟨_, e0⟩ | ⟨g, cap, cur, rfl, _⟩
    · omega
    · exact ⟨g, cap, rfl⟩
  obtain ⟨b, c', hb⟩ := hb
  have := h1.cells (g := b) (by rw [hb]; rfl) j _ e
  rw [add_mk, Nat.zero_add] at this
  exact ⟨b, A, c, c', hb, this, a1, a2, a3⟩

/-- Two slices in one row begin alike. -/
theorem Keeps.apart {v' : Value} {ys : List (List UInt8)} (h : Keeps w S v xs) (k : Keeps w S' v' ys) {b : Nat} (hb : v.ownBlock = some b) (hb' : v'.ownBlock = some b) (hx : xs ≠ []) (hy : ys ≠ []) : ∃ x, x ∈ xs ∧ x ∈ ys := by
  obtain ⟨cs, h1, _, _, h4⟩ := h
  obtain ⟨cs', k1, _, _, k4⟩ := k
  cases xs with
  | nil => exact absurd rfl hx
  | cons x xs =>
    cases ys with
    | nil => exact absurd rfl hy
    | cons y ys =>
      obtain ⟨hd, e, hh⟩ := h4 0 x rfl
      obtain ⟨hd', e', hh'⟩ := k4 0 y rfl
      have a1 := h1.cells hb 0 _ e
      have a2 := k1.cells hb' 0 _ e'
      rw [a1] at a2
      injection a2 with a2
      subst a2
      exact ⟨x, by simp, by rw [hh.1.unique hh'.1]; simp⟩

theorem Keeps.nil (w : World) (S : Nat → Prop) : Keeps w S nilS [] := ⟨[], World.ownsRow_nil _ _ _ _, fun b hb => by simp [nilS, Value.ownBlock] at hb, fun _ => rfl, fun j x hx => by simp at hx⟩

end

/-! ### The map -/

def Store (w : World) (S : Nat → Prop) (m : Nat) (L : List (List UInt8)) : Prop :=
  S m ∧ (∀ i, S i → i < w.heap.size) ∧ ∃ D : DataW Value, w.ownsMap Try.prog 30 Rv m L.length D ∧
    ∀ d kl, d.length = 32 → keyOf Try.prog 30 (.agg (cbs d).toArray) = some kl → ∃ v, D.atKey kl (.held nilS) = .held v ∧ Keeps w S v (grp d L)

theorem map_stay {w w' : World} {m n : Nat} {D : DataW Value} (h : w.ownsMap Try.prog 30 Rv m n D) (hk : w'.heap[m]? = w.heap[m]?) : w'.ownsMap Try.prog 30 Rv m n D := by
  obtain ⟨es, clock, h1, h2⟩ := h
  exact ⟨es, clock, hk.trans h1, h2⟩

theorem map_block {w : World} {m n : Nat} {D : DataW Value} (h : w.ownsMap Try.prog 30 Rv m n D) : ∃ es clock, w.heap[m]? = some (.map es clock) := by
  obtain ⟨es, clock, h1, _⟩ := h
  exact ⟨es, clock, h1⟩

section

variable {S S' : Nat → Prop} {w w' : World} {m : Nat} {L : List (List UInt8)}

theorem Store.stay (h : Store w S m L) (hz : w.heap.size ≤ w'.heap.size) (hk : ∀ i o, S i → w.heap[i]? = some o → (∀ cs fr, o ≠ .cells cs 54 fr) → w'.heap[i]? = some o) : Store w' S m L := by
  obtain ⟨h1, h2, D, h3, h4⟩ := h
  obtain ⟨es, clock, hm⟩ := map_block h3
  refine ⟨h1, fun i hi => Nat.lt_of_lt_of_le (h2 i hi) hz, D, map_stay h3 ((hk m _ h1 hm (fun cs fr e => by cases e)).trans hm.symm), fun d kl hd hkl => ?_⟩
  obtain ⟨v, e, hv⟩ := h4 d kl hd hkl
  exact ⟨v, e, hv.stay (fun _ hi => hi) (fun i cs hi hc => (hk i _ hi hc (fun cs' fr e => by injection e with _ e; cases e)).trans hc.symm)
    (fun b cs _ hb hc => (hk b _ hb hc (fun cs' fr e => by injection e with _ e; cases e)).trans hc.symm)⟩

theorem Store.look (h : Store w S m L) (d : List UInt8) (hd : d.length = 32) :
    ∃ v, (Instr.lookup 47 (.map (some m)) (.agg (cbs d).toArray) false).run Try.prog w = .ok v w ∧ Keeps w S v (grp d L) := by
  obtain ⟨kl, hkl⟩ := key_digest d hd
  obtain ⟨h1, h2, D, h3, h4⟩ := h
  obtain ⟨v, e, hv⟩ := h4 d kl hd hkl
  obtain ⟨v', ps, hrun, hR⟩ := h3.lookup keyed_digest Try.underlying47 (Try.zeroValue26 w) (zd := .held nilS) (zp := []) rfl hkl
  rw [e] at hR
  simp [Rv] at hR
  obtain ⟨rfl, _⟩ := hR
  exact ⟨v', hrun, hv⟩

theorem new_store (w : World) : Store (w.alloc (.map #[] 0)) (fun i => i = w.heap.size) w.heap.size [] :=
  ⟨rfl, fun i hi => by subst hi; simp, .map [], World.ownsMap_made w _ _ _, fun d kl hd hkl => ⟨nilS, rfl, Keeps.nil _ _⟩⟩

/-- What a store at a digest makes of the map: 'v' stood there, 'v'' is v with a new slice that shows x behind it. -/
theorem Store.put {w1 w2 : World} (h : Store w S m L) (hn : L.length < 1000000) (x : List UInt8) (v : Value) (cs : List Value)
    (hcs : w.ownsRow 0 28 1 v (grp (digest x) L).length cs) (hold : Keeps w S v (grp (digest x) L)) (hb1 : Below w.heap.size w w1) (hd : Value) (hhd : Mine w1 w.heap.size 5 hd x)
    (v' : Value) (hg : w1.grownBy w2 v.ownBlock) (hrow : w2.ownsRow 0 28 1 v' ((grp (digest x) L).length + 1) (cs ++ [hd])) (hloc : v'.ownBlock = v.ownBlock ∨ v'.ownBlock = some w1.heap.size) :
    ∃ w3, (Instr.mapUpdate 47 (.map (some m)) (.agg (cbs (digest x)).toArray) v').run Try.prog w2 = .ok () w3 ∧ w2.grownBy w3 (some m) ∧
      Store w3 (fun i => S i ∨ w.heap.size ≤ i ∧ i < w3.heap.size) m (L ++ [x]) := by
  have hdl : (digest x).length = 32 := by rw [digest_last]; rfl
  obtain ⟨kl, hkl⟩ := key_digest (digest x) hdl
  obtain ⟨h1, h2, D, h3, h4⟩ := h
  obtain ⟨es, clock, hm⟩ := map_block h3
  -- what stands in w2 of the old blocks
  have hrow' : ∀ i, v.ownBlock = some i → ∃ c, w.heap[i]? = some (.cells c 28 (0, 0)) := fun i hi => row_block hcs hi
  have st2 : ∀ i, S i → v.ownBlock ≠ some i → w2.heap[i]? = w.heap[i]? := fun i hi hne =>
    (hg.block i (Nat.lt_of_lt_of_le (h2 i hi) hb1.size) (fun e => hne e.symm)).trans (hb1.block i (h2 i hi))
  have hm2 : w2.heap[m]? = w.heap[m]? := st2 m h1 (fun e => by obtain ⟨c, hc⟩ := hrow' m e; rw [hm] at hc; cases hc)
  have h32 := map_stay h3 hm2
  obtain ⟨w3, hrun, hput, hg3⟩ := h32.update keyed_digest Try.underlying47 (by unfold maxLen; omega) (val := v') (d := .held v') (ps := []) hkl rfl
  have hsz : w.heap.size ≤ w3.heap.size := Nat.le_trans hb1.size (Nat.le_trans hg.size hg3.size)
  have st3 : ∀ i, i < w2.heap.size → i ≠ m → w3.heap[i]? = w2.heap[i]? := fun i hi hne => hg3.block i hi (fun e => hne (Option.some.inj e))
  have old3 : ∀ i, S i → i ≠ m → v.ownBlock ≠ some i → w3.heap[i]? = w.heap[i]? := fun i hi h5 h6 =>
    (st3 i (Nat.lt_of_lt_of_le (h2 i hi) (Nat.le_trans hb1.size hg.size)) h5).trans (st2 i hi h6)
  have byte3 : ∀ i c, S i → w.heap[i]? = some (.cells c 5 (0, 0)) → w3.heap[i]? = w.heap[i]? := fun i c hi hc => by
    refine old3 i hi ?_ ?_
    · rintro rfl; rw [hm] at hc; cases hc
    · intro e
      obtain ⟨c', hc'⟩ := hrow' i e
      rw [hc] at hc'
      injection hc' with e1
      injection e1 with _ e1
      cases e1
  have hD : IsMap D := by obtain ⟨_, _, _, _, _, e⟩ := h3; exact ⟨_, e⟩
  refine ⟨w3, hrun, hg3, .inl h1, fun i hi => ?_, D.put kl (.held v'), ?_, fun d kl' hdl' hkl' => ?_⟩
  · rcases hi with hi | hi
    · exact Nat.lt_of_lt_of_le (h2 i hi) hsz
    · exact hi.2
  · rw [List.length_append]; exact hput
  · by_cases hdd : d = digest x
    · subst hdd
      obtain rfl : kl' = kl := Option.some.inj (hkl'.symm.trans hkl)
      refine ⟨v', atKey_put_same hD (keyed_digest.key hkl) _ _, ?_⟩
      have e1 : grp (digest x) (L ++ [x]) = grp (digest x) L ++ [x] := by unfold grp; rw [List.filter_append]; simp
      rw [e1]
      have hrow3 : w3.ownsRow 0 28 1 v' ((grp (digest x) L).length + 1) (cs ++ [hd]) := row_stay hrow fun b c hb hc => st3 b (by
        rcases Nat.lt_or_ge b w2.heap.size with h | h
        · exact h
        · rw [Array.getElem?_eq_none h] at hc; cases hc) (by rintro rfl; rw [hm2, hm] at hc; cases hc)
      refine ⟨cs ++ [hd], by rw [List.length_append]; exact hrow3, fun b hb => ?_, fun e => by simp at e, fun j y hy => ?_⟩
      · rcases hloc with e | e
        · obtain ⟨_, _, k2, _⟩ := hold
          exact .inl (k2 b (e ▸ hb))
        · rw [e] at hb
          injection hb with hb
          subst hb
          have := (hrow3.lt _ e).2
          exact .inr ⟨hb1.size, this⟩
      · by_cases hj : j < (grp (digest x) L).length
        · rw [List.getElem?_append_left hj] at hy
          obtain ⟨cs0, k1, _, _, k4⟩ := hold
          obtain ⟨hh, e, hhd0⟩ := k4 j y hy
          have hcl : cs.length = (grp (digest x) L).length := by have := hcs.1; omega
          refine ⟨hh, ?_, hhd0.stay (fun i hi => .inl hi) byte3⟩
          rw [List.getElem?_append_left (by omega)]
          have hne : ∃ b, v.ownBlock = some b := by
            rcases hcs.2 with ⟨_, e0⟩ | ⟨g, cap, cur, rfl, _⟩
            · omega
            · exact ⟨g, rfl⟩
          obtain ⟨b, hb⟩ := hne
          have a1 := k1.cells hb j _ e
          have hjl : j < cs.length := by omega
          have a2 := hcs.cells hb j _ (List.getElem?_eq_getElem hjl)
          rw [List.getElem?_eq_getElem hjl, Option.some.inj (a2.symm.trans a1)]
        · have hcl : cs.length = (grp (digest x) L).length := by have := hcs.1; omega
          rw [List.getElem?_append_right (by omega)] at hy
          have hj0 : j - (grp (digest x) L).length = 0 := by
            rcases Nat.eq_zero_or_pos (j - (grp (digest x) L).length) with h | h
            · exact h
            · rw [List.getElem?_eq_none (by simp; omega)] at hy; cases hy
          rw [hj0] at hy
          injection hy with hy
          subst hy
          refine ⟨hd, ?_, ?_, fun b hb => ?_⟩
          · rw [List.getElem?_append_right (by omega), hcl, hj0]; rfl
          · have hm1 : Mine w1 0 5 hd x := row_base hhd (Nat.zero_le _)
            refine row_stay hm1 fun b c hb hc => ?_
            have hlt := (World.ownsRow.lt hhd b hb).2
            have hge := (World.ownsRow.lt hhd b hb).1
            have hbm : b ≠ m := by have := h2 m h1; omega
            have hbv : some b ≠ v.ownBlock := fun e => by have := (hcs.lt b e.symm).2; omega
            exact (st3 b (Nat.lt_of_lt_of_le hlt hg.size) hbm).trans (hg.block b hlt hbv)
          · have hlt := World.ownsRow.lt hhd b hb
            exact .inr ⟨hlt.1, Nat.lt_of_lt_of_le hlt.2 (Nat.le_trans hg.size hg3.size)⟩
    · obtain ⟨u, eu, hu⟩ := h4 d kl' hdl' hkl'
      have hkn : kl' ≠ kl := key_inj hkl hkl' hdd
      refine ⟨u, by rw [atKey_put_other hkn]; exact eu, ?_⟩
      have e1 : grp d (L ++ [x]) = grp d L := by
        unfold grp; rw [List.filter_append]
        have : (digest x == d) = false := beq_eq_false_iff_ne.2 fun e => hdd e.symm
        rw [List.filter_cons_of_neg (by rw [this]; decide), List.filter_nil, List.append_nil]
      rw [e1]
      refine hu.stay (fun i hi => .inl hi) byte3 fun b c hb hSb hc => old3 b hSb (by rintro rfl; rw [hm] at hc; cases hc) fun e => ?_
      have hx0 : grp (digest x) L ≠ [] := fun e0 => by
        obtain ⟨_, _, _, k3, _⟩ := hold
        rw [k3 e0] at e; simp [nilS, Value.ownBlock] at e
      have hy0 : grp d L ≠ [] := fun e0 => by
        obtain ⟨_, _, _, k3, _⟩ := hu
        rw [k3 e0] at hb; simp [nilS, Value.ownBlock] at hb
      obtain ⟨y, hy1, hy2⟩ := hold.apart hu e hb hx0 hy0
      unfold grp at hy1 hy2
      rw [List.mem_filter] at hy1 hy2
      have a1 := beq_iff_eq.1 hy1.2
      have a2 := beq_iff_eq.1 hy2.2
      exact hdd (a2.symm.trans a1)

end

end Go.Proofs.Ytkkcjkelijlmbaa
