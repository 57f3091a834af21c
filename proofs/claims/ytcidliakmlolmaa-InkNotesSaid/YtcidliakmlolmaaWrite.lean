/-
  Write: a hash takes bytes, over the code.
-/
import Derived.Test.YtcidliakmlolmaaDigest
import Derived.Test.YtcidliakmlolmaaAnyOrder
namespace Go.Proofs.Ytcidliakmlolmaa
open Go.RowKit
set_option linter.unusedVariables false

theorem none_any (g : Nat) (w : World) (h : w.cell? ⟨g, 0, none⟩ = some (.bool true)) :
    Calls Try.prog 35 #[.pointer (some ⟨g, 0, none⟩)] w fun e w' => e = .returned (.bool false) ∧ w' = w := by
  have hnot : ∀ (x : Bool) (w : World), (Op.unary .not (.bool x)).run Try.prog w = .ok (.bool (!x)) w := fun _ _ => rfl
  go_enter Try.func35, Try.ntmps35
  go_wp2
  go_ret
  exact ⟨rfl, rfl⟩

/-- The bytes of a slice do not lie in block g. -/
def Away (A : Option Addr) (g : Nat) (l : List UInt8) : Prop := l ≠ [] → ∀ a, A = some a → a.block ≠ g
theorem Bs.away {w : World} {A : Option Addr} {l : List UInt8} {g : Nat} (h : Bs w A l) (hg : w.heap.size ≤ g) : Away A g l := by
  intro hl a ha
  obtain ⟨b, off, e, hlt, _⟩ := h.2 (by cases l with | nil => exact absurd rfl hl | cons x t => simp)
  rw [ha] at e
  cases e
  show b ≠ g
  omega
theorem Away.cut {A : Option Addr} {g k m c : Nat} {l : List UInt8} (h : Away A g l) : Away (cutAt A k m c) g (l.drop m) := by
  intro hl
  replace h := h (fun e => hl (by rw [e]; simp))
  unfold cutAt
  split
  · exact h
  · intro a ha
    cases A with
    | none => cases ha
    | some x =>
      simp only [Option.map_some, Option.some.injEq] at ha
      subst ha
      have := h x rfl
      unfold Addr.add
      split <;> exact this
theorem Bs.touched {w w' : World} {A : Option Addr} {l : List UInt8} {g : Nat} (h : Bs w A l) (hb : But g w w') (ha : Away A g l) : Bs w' A l := by
  refine ⟨h.1, fun hn => ?_⟩
  obtain ⟨b, off, e, hlt, hc⟩ := h.2 hn
  refine ⟨b, off, e, Nat.lt_of_lt_of_le hlt hb.size, fun j u hu => hb.cell (hc j u hu) (by have := ha (by intro e2; subst e2; simp at hn) _ e; exact this)⟩

theorem run_restTo (g r : Nat) (h : r < 64) (W : World) : (Instr.sliceAt 63 (.pointer (some ⟨g, 9, none⟩)) (some (.int .i64 (r : Int))) none none).run Try.prog W = .ok (.slice (some ⟨g, 9 + r, none⟩) (64 - r) (64 - r)) W := by
  have h1 : (r : Int) ≤ 64 := by omega
  have h2 : (0 : Int) ≤ (r : Int) := by omega
  have h3 : ¬ (64 = r) := by omega
  clear h
  go_simp

def slen : Value → Nat
  | .slice _ m _ => m
  | _ => 0
theorem HB.state8 {w : World} {g : Nat} {s : S8} {rest : List UInt8} {n : Nat} (h : HB w g s rest n) : w.cell? ⟨g, 1, none⟩ = some (.int .u32 (s.a.toNat : Int)) ∧ w.cell? ⟨g, 2, none⟩ = some (.int .u32 (s.b.toNat : Int)) ∧ w.cell? ⟨g, 3, none⟩ = some (.int .u32 (s.c.toNat : Int)) ∧ w.cell? ⟨g, 4, none⟩ = some (.int .u32 (s.d.toNat : Int)) ∧ w.cell? ⟨g, 5, none⟩ = some (.int .u32 (s.e.toNat : Int)) ∧ w.cell? ⟨g, 6, none⟩ = some (.int .u32 (s.f.toNat : Int)) ∧ w.cell? ⟨g, 7, none⟩ = some (.int .u32 (s.g.toNat : Int)) ∧ w.cell? ⟨g, 8, none⟩ = some (.int .u32 (s.h.toNat : Int)) :=
  ⟨h.state 0 _ rfl, h.state 1 _ rfl, h.state 2 _ rfl, h.state 3 _ rfl, h.state 4 _ rfl, h.state 5 _ rfl, h.state 6 _ rfl, h.state 7 _ rfl⟩
theorem HB.free8 {w : World} {g : Nat} {s : S8} {rest : List UInt8} {n : Nat} (h : HB w g s rest n) : w.frozen? ⟨g, 1, none⟩ = false ∧ w.frozen? ⟨g, 2, none⟩ = false ∧ w.frozen? ⟨g, 3, none⟩ = false ∧ w.frozen? ⟨g, 4, none⟩ = false ∧ w.frozen? ⟨g, 5, none⟩ = false ∧ w.frozen? ⟨g, 6, none⟩ = false ∧ w.frozen? ⟨g, 7, none⟩ = false ∧ w.frozen? ⟨g, 8, none⟩ = false := by
  obtain ⟨_, _, hB, _⟩ := h
  exact ⟨hB.free 1, hB.free 2, hB.free 3, hB.free 4, hB.free 5, hB.free 6, hB.free 7, hB.free 8⟩
theorem range_set1 {w : World} {g j : Nat} {cs : List Value} {v : Value} (h : w.rangeAt g 9 cs) (hj : j < 9) : (w.setCell ⟨g, j, none⟩ v).rangeAt g 9 cs := fun i u hu =>
  (World.cell?_setCell_other _ ⟨g, j, none⟩ ⟨g, 9 + i, none⟩ _ (by intro e; injection e with _ e2; omega)).trans (h i u hu)
theorem range_set8 {w : World} {g : Nat} {cs : List Value} {v1 v2 v3 v4 v5 v6 v7 v8 : Value} (h : w.rangeAt g 9 cs) :
    ((((((((w.setCell ⟨g, 1, none⟩ v1).setCell ⟨g, 2, none⟩ v2).setCell ⟨g, 3, none⟩ v3).setCell ⟨g, 4, none⟩ v4).setCell ⟨g, 5, none⟩ v5).setCell ⟨g, 6, none⟩ v6).setCell ⟨g, 7, none⟩ v7).setCell ⟨g, 8, none⟩ v8).rangeAt g 9 cs :=
  range_set1 (range_set1 (range_set1 (range_set1 (range_set1 (range_set1 (range_set1 (range_set1 h (by decide)) (by decide)) (by decide)) (by decide)) (by decide)) (by decide)) (by decide)) (by decide)
theorem there_set8 {w : World} {g o n : Nat} {v1 v2 v3 v4 v5 v6 v7 v8 : Value} (h : w.there g o n) :
    ((((((((w.setCell ⟨g, 1, none⟩ v1).setCell ⟨g, 2, none⟩ v2).setCell ⟨g, 3, none⟩ v3).setCell ⟨g, 4, none⟩ v4).setCell ⟨g, 5, none⟩ v5).setCell ⟨g, 6, none⟩ v6).setCell ⟨g, 7, none⟩ v7).setCell ⟨g, 8, none⟩ v8).there g o n :=
  World.there_setCells h g 1 [v1, v2, v3, v4, v5, v6, v7, v8]
theorem run_cutB (A : Option Addr) (m c k : Nat) (hk : k ≤ m) (hmc : m ≤ c) (w : World) : (Instr.sliceAt 32 (.slice A m c) (some (.int .i64 (k : Int))) none none).run Try.prog w = .ok (.slice (cutAt A 1 k c) (m - k) (c - k)) w := by
  have h1 : (0 : Int) ≤ (k : Int) := by omega
  have h2 : (k : Int) ≤ (m : Int) := by omega
  unfold cutAt
  go_simp

set_option maxRecDepth 100000 in
set_option maxHeartbeats 3200000 in
theorem write_any (g : Nat) (l b : List UInt8) (A : Option Addr) (n c : Nat) (w : World) (hn : b.length = n) (hc : n ≤ c) (hcm : c ≤ maxLen) (hl : l.length + n ≤ 281474976710656) (h : Hold w g l) (hB : Bs w A b) (hA : Away A g b) :
    Calls Try.prog 25 #[.pointer (some ⟨g, 0, none⟩), .slice A n c] w fun e w' => e = .returned (.int .i64 0) ∧ (Hold w' g (l ++ b) ∧ But g w w') := by
  have hmade : w.cell? ⟨g, 0, none⟩ = some (.bool true) := by obtain ⟨_, hH, _⟩ := h; exact hH.made
  have Hno := Lib.hid (none_any g w hmade)
  have Hg := Lib.hid (And.intro hn (And.intro hc (And.intro hcm (And.intro hl (And.intro h (And.intro hB hA))))))
  clear hn hc hcm hl h hB hA hmade
  go_enter Try.func25, Try.ntmps25
  go_wp2_with (go_at_call 35; refine Hno.out.mono ?_; rintro e w' ⟨rfl, rfl⟩)
  go_loopw [1] (fun v wr => ∃ (x y : List UInt8) (A' : Option Addr) (m c' : Nat), b = x ++ y ∧ y.length = m ∧ v = .slice A' m c' ∧ m ≤ c' ∧ c' ≤ maxLen ∧ Bs wr A' y ∧ Away A' g y ∧ Hold wr g (l ++ x) ∧ But g w' wr) (fun v _ => slen v)
  case atStart =>
    obtain ⟨hn, hc, hcm, hl, h, hB, hA⟩ := Hg.out
    exact ⟨[], b, A, n, c, rfl, hn, rfl, hc, hcm, hB, hA, by rw [List.append_nil]; exact h, But.refl _ _⟩
  case round =>
    obtain ⟨x, y, A', m, c', hb, hy, rfl, hmc, hcm, hB, hA, hH, hbut⟩ := hrel
    by_cases hm : 0 < m
    · obtain ⟨rest, hHB, hrest⟩ := hH
      obtain ⟨N, hN⟩ : ∃ N, N = (l ++ x).length := ⟨_, rfl⟩
      obtain ⟨r, hr⟩ : ∃ r, r = N % 64 := ⟨_, rfl⟩
      have hNl : N + m ≤ 281474976710656 := by
        have := Hg.out.2.2.2.1
        have h2 := Hg.out.1
        rw [hb, List.length_append] at h2
        rw [hN, List.length_append]; omega
      have hsz := hHB.size
      rw [← hN] at hsz hHB hrest
      rw [← hr] at hrest
      have hrlt : r < 64 := by omega
      have esl := run_restTo g r hrlt
      have e1 : (N : Int).tmod 64 = (r : Int) := by rw [Int.tmod_eq_emod_of_nonneg (by omega)]; omega
      have e2 : (N : Int) % 64 = (r : Int) := by omega
      have e3 : IntKind.i64.wrap (r : Int) = (r : Int) := IntWalk.i64_in _ (by omega)
      have i0 : (0 : Int) ≤ (r : Int) := by omega
      have i1 : (r : Int) < 64 := by omega
      have hml := hm
      unfold maxLen at hcm
      have i2 : (0 : Int) < (m : Int) := by omega
      have i3 : (m : Int) ≤ 9223372036854775807 := by omega
      have Hx := Lib.hid (And.intro hb (And.intro hy (And.intro hmc (And.intro hcm (And.intro hB (And.intro hA (And.intro hHB (And.intro hrest (And.intro hN (And.intro hr (And.intro hNl (And.intro hbut hm))))))))))))
      clear hb hy hmc hcm hB hA hHB hrest hN hr hNl hbut hml
      go_wp2
      refine wp_region_still_tail 10 (by kernel_rfl) (by kernel_rfl) ?_
      change wpStill _ _ wr.drew (fun a' => wpList _ _ _ _ a' wr.drew) _ _
      simp only [List.take_succ_cons, List.take_zero, List.drop_succ_cons, List.drop_zero]
      still_step
      still_step
      still_step
      still_step
      still_step
      still_step
      still_step
      still_step
      still_step
      still_step
      refine wpStill_nil ?_
      obtain ⟨hb, hy, hmc, hcm, hB, hA, hHB, hrest, hN, hr, hNl, hbut, hm⟩ := Hx.out
      obtain ⟨k, hk⟩ : ∃ k, k = min m (64 - r) := ⟨_, rfl⟩
      refine wp_copyB rfl (.tmp 19) (.tmp 20) rfl g (9 + r) (64 - r) (64 - r) A' m c' rfl rfl y hy hB k hk (hHB.there (by omega)) ?_
      obtain ⟨d, ks, hBlk, hrl, hkl, hd⟩ := hHB
      have htl : (y.take k).length = k := by rw [List.length_take]; omega
      have q1 := Blk.setMore (w := wr) (cbs (y.take k)) (show Blk wr.drew g 77 _ from hBlk) (o := 9 + r) (by rw [cbs_length, htl, hc_len hrl hkl]; omega)
      rw [hc_put_rest hrl r (y.take k) (by omega), htl] at q1
      have q2 : But g w' (wr.drew.setCells g (9 + r) (cbs (y.take k))) := But.setCells (.inl rfl) _ hbut.drew
      obtain ⟨rest', hrest'⟩ : ∃ rest', rest' = rest.take r ++ y.take k ++ rest.drop (r + k) := ⟨_, rfl⟩
      rw [← hrest'] at q1
      have hrl' : rest'.length = 64 := by rw [hrest', List.length_append, List.length_append, htl, List.length_take, List.length_drop]; omega
      have q3 : But g wr (wr.drew.setCells g (9 + r) (cbs (y.take k))) := But.setCells (.inl rfl) _ (But.refl g wr).drew
      have hBy := hB.touched q3 hA
      generalize wr.drew.setCells g (9 + r) (cbs (y.take k)) = w1 at *
      have c0 := q1.cell (hc_size hrl')
      have f0 := q1.free 73
      obtain ⟨M, hM⟩ : ∃ M, M = N + k := ⟨_, rfl⟩
      have q4 := q1.set_ 73 (.int .i64 (M : Int))
      rw [hc_set_size hrl' M] at q4
      have q5 : But g w' (w1.setCell ⟨g, 73, none⟩ (.int .i64 (M : Int))) := q2.setCell (.inl rfl) _
      have hBy2 : Bs (w1.setCell ⟨g, 73, none⟩ (.int .i64 (M : Int))) A' y := hBy.touched ((But.refl g w1).setCell (.inl rfl) _) hA
      have s1 : (N : Int) + (k : Int) = (M : Int) := by omega
      have s2 : IntKind.i64.wrap (M : Int) = (M : Int) := IntWalk.i64_in _ (by omega)
      have k0 : (0 : Int) ≤ (k : Int) := by omega
      have k1 : (k : Int) ≤ (m : Int) := by omega
      have k2 : (N : Int) ≤ 281474976710656 := by omega
      have k3 : (0 : Int) ≤ (N : Int) := by omega
      have k4 : (k : Int) ≤ 64 := by omega
      have hcut := run_cutB A' m c' k (by omega) hmc
      have Hz := Lib.hid (And.intro hb (And.intro hy (And.intro hmc (And.intro hcm (And.intro hA (And.intro hrest (And.intro hN (And.intro hr (And.intro hNl (And.intro hm (And.intro hk (And.intro hkl (And.intro hd (And.intro hrest' (And.intro hrl' (And.intro q4 (And.intro q5 (And.intro hBy2 (And.intro htl (And.intro hM hrl))))))))))))))))))))
      have hN64 : (l ++ x).length % 64 = r := by rw [← hN, hr]
      by_cases hfull : r + k = 64
      · have d1 : (M : Int) % 64 = 0 := by omega
        have d2 : (M : Int).tmod 64 = 0 := by rw [Int.tmod_eq_emod_of_nonneg (by omega)]; exact d1
        have Hf := Lib.hid (And.intro hfull hN64)
        clear hb hy hmc hcm hA hrest hN hr hNl hm hk hkl hd hrest' hrl' q1 q2 q3 q4 q5 hBy hBy2 htl hBlk hB hbut hrl hM hfull hN64
        go_wp2
        obtain ⟨w2, hw2⟩ : ∃ w2, w2 = w1.setCell ⟨g, 73, none⟩ (.int .i64 (M : Int)) := ⟨_, rfl⟩
        rw [← hw2]
        have Hw2 := Lib.hid hw2
        clear hw2
        obtain ⟨hb, hy, hmc, hcm, hA, hrest, hN, hr, hNl, hm, hk, hkl, hd, hrest', hrl', q4, q5, hBy2, htl, hM, hrl⟩ := Hz.out
        rw [← Hw2.out] at q4 q5 hBy2
        obtain ⟨hfull, hN64⟩ := Hf.out
        obtain ⟨sw, hsw⟩ : ∃ sw, sw = whole (l ++ x) := ⟨_, rfl⟩
        have hH2 : HB w2 g sw rest' M := by rw [hsw]; exact ⟨d, ks, q4, hrl', hkl, hd⟩
        have hwf := whole_full (l ++ x) (y.take k) (by rw [hN64, htl]; exact hfull)
        have hrest2 : rest' = left (l ++ x) ++ y.take k := by
          rw [hrest', List.drop_eq_nil_of_le (by omega), List.append_nil, hrest]
        have hlen : (l ++ (x ++ y.take k)).length = M := by rw [← List.append_assoc, List.length_append, htl, ← hN, hM]
        have hM0 : M % 64 = 0 := by omega
        have htk := fun W hW => take_any g sw sw rest' rest' M W hrl' hW
        have hgoal : ∀ W : World, HB W g (rnd sw rest') rest' M → Hold W g (l ++ (x ++ y.take k)) := by
          intro W hW
          rw [hsw] at hW
          refine ⟨rest', ?_, ?_⟩
          · rw [hlen, ← List.append_assoc, hwf.1, ← hrest2]; exact hW
          · rw [hlen, hM0, List.take_zero, ← List.append_assoc, hwf.2]
        obtain ⟨c0, c1, c2, c3, c4, c5, c6, c7⟩ := HB.state8 hH2
        have hH2d : HB w2.drew g sw rest' M := hH2
        have r1 : w2.drew.rangeAt g 1 (l8 sw) := hH2d.state
        have r2 : w2.drew.rangeAt g 9 (cbs rest') := hH2d.rest
        have r3 : w2.drew.there g 1 8 := hH2d.there (by omega)
        have hi2 : (Try.prog.info? 63).map (·.size) = some (cbs rest').length := by rw [cbs_length, hrl']; exact info64b
        have hu2 := Try.underlying63
        have hv8 : v8 sw = .agg #[.int .u32 (sw.a.toNat : Int), .int .u32 (sw.b.toNat : Int), .int .u32 (sw.c.toNat : Int), .int .u32 (sw.d.toNat : Int), .int .u32 (sw.e.toNat : Int), .int .u32 (sw.f.toNat : Int), .int .u32 (sw.g.toNat : Int), .int .u32 (sw.h.toNat : Int)] := rfl
        rw [hv8] at htk
        obtain ⟨T, hT⟩ : ∃ T, T = rnd sw rest' := ⟨_, rfl⟩
        rw [← hT] at htk hgoal
        have hv8' : v8 T = .agg #[.int .u32 (T.a.toNat : Int), .int .u32 (T.b.toNat : Int), .int .u32 (T.c.toNat : Int), .int .u32 (T.d.toNat : Int), .int .u32 (T.e.toNat : Int), .int .u32 (T.f.toNat : Int), .int .u32 (T.g.toNat : Int), .int .u32 (T.h.toNat : Int)] := rfl
        rw [hv8'] at htk
        have Htk := Lib.hid htk
        have Ho := Lib.hid (And.intro hH2d (And.intro hgoal (And.intro q5 hBy2)))
        clear hb hy hmc hcm hA hrest hN hr hNl hm hk hkl hd hrest' hrl' q4 q5 hBy2 htl hM hrl hfull hN64 hH2 hH2d hwf hrest2 hlen hM0 htk hgoal hv8 hv8' hT hsw d1 d2 s1 s2 Hf
        refine wp_region_any (by kernel_rfl) ?_
        change wpAny _ _ _ _ _ _ _ (World.drew _)
        refine any_take (i := 0) (d := 39) (v := .pointer (some ⟨g, 0, none⟩)) rfl rfl (by kernel_rfl) (by kernel_rfl) (by kernel_rfl) (fun _ _ _ h => h) (Or.inl ⟨by rfl, (by intro w; go_simp)⟩) ?_
        simp only [List.setIfInBounds_toArray, List.set_cons_zero, List.set_cons_succ]
        refine any_take (i := 1) (d := 40) (v := .pointer (some ⟨g, 0, none⟩)) rfl rfl (by kernel_rfl) (by kernel_rfl) (by kernel_rfl) (fun _ _ _ h => h) (Or.inl ⟨by rfl, (by intro w; go_simp)⟩) ?_
        simp only [List.setIfInBounds_toArray, List.set_cons_zero, List.set_cons_succ]
        refine any_take (i := 2) (d := 41) (v := .pointer (some ⟨g, 0, none⟩)) rfl rfl (by kernel_rfl) (by kernel_rfl) (by kernel_rfl) (fun _ _ _ h => h) (Or.inl ⟨by rfl, (by intro w; go_simp)⟩) ?_
        simp only [List.setIfInBounds_toArray, List.set_cons_zero, List.set_cons_succ]
        refine any_take (i := 3) (d := 42) (v := .pointer (some ⟨g, 0, none⟩)) rfl rfl (by kernel_rfl) (by kernel_rfl) (by kernel_rfl) (fun _ _ _ h => h) (Or.inl ⟨by rfl, (by intro w; go_simp)⟩) ?_
        simp only [List.setIfInBounds_toArray, List.set_cons_zero, List.set_cons_succ]
        refine any_take (i := 4) (d := 43) (v := .pointer (some ⟨g, 1, none⟩)) rfl rfl (by kernel_rfl) (by kernel_rfl) (by kernel_rfl) (fun _ _ _ h => h) (Or.inl ⟨by rfl, (by intro w; go_simp)⟩) ?_
        simp only [List.setIfInBounds_toArray, List.set_cons_zero, List.set_cons_succ]
        refine any_take (i := 6) (d := 45) (v := .pointer (some ⟨g, 0, none⟩)) rfl rfl (by kernel_rfl) (by kernel_rfl) (by kernel_rfl) (fun _ _ _ h => h) (Or.inl ⟨by rfl, (by intro w; go_simp)⟩) ?_
        simp only [List.setIfInBounds_toArray, List.set_cons_zero, List.set_cons_succ]
        refine any_take (i := 7) (d := 46) (v := .pointer (some ⟨g, 0, none⟩)) rfl rfl (by kernel_rfl) (by kernel_rfl) (by kernel_rfl) (fun _ _ _ h => h) (Or.inl ⟨by rfl, (by intro w; go_simp)⟩) ?_
        simp only [List.setIfInBounds_toArray, List.set_cons_zero, List.set_cons_succ]
        refine any_take (i := 8) (d := 47) (v := .pointer (some ⟨g, 9, none⟩)) rfl rfl (by kernel_rfl) (by kernel_rfl) (by kernel_rfl) (fun _ _ _ h => h) (Or.inl ⟨by rfl, (by intro w; go_simp)⟩) ?_
        simp only [List.setIfInBounds_toArray, List.set_cons_zero, List.set_cons_succ]
        refine any_two (i := 5) (j := 9) (by kernel_rfl) ?_ ?_
        · refine op_load (d := 44) rfl rfl rfl 61 _ rfl g 1 rfl (l8 sw) _ r1 Try.underlying61 rfl info8w ?_
          simp only [List.setIfInBounds_toArray, List.set_cons_zero, List.set_cons_succ]
          refine any_one (i := 9) (by kernel_rfl) ?_
          refine op_load (d := 48) rfl rfl rfl 63 _ rfl g 9 rfl (cbs rest') _ r2 Try.underlying63 rfl hi2 ?_
          simp only [List.setIfInBounds_toArray, List.set_cons_zero, List.set_cons_succ]
          refine any_one (i := 10) (by kernel_rfl) ?_
          refine wpOp_step rfl (fun K hK => ?_)
          go_simp
          refine (Htk.out w2.drew Ho.out.1).mono ?_
          rintro e w3 ⟨rfl, hH3, hbut3⟩
          refine hK _ _ ?_
          clear hK K
          refine any_take (i := 11) (d := 50) (v := .pointer (some ⟨g, 0, none⟩)) rfl rfl (by kernel_rfl) (by kernel_rfl) (by kernel_rfl) (fun _ _ _ h => h) (Or.inl ⟨by rfl, (by intro w; go_simp)⟩) ?_
          simp only [List.setIfInBounds_toArray, List.set_cons_zero, List.set_cons_succ]
          refine any_take (i := 12) (d := 51) (v := .pointer (some ⟨g, 1, none⟩)) rfl rfl (by kernel_rfl) (by kernel_rfl) (by kernel_rfl) (fun _ _ _ h => h) (Or.inl ⟨by rfl, (by intro w; go_simp)⟩) ?_
          simp only [List.setIfInBounds_toArray, List.set_cons_zero, List.set_cons_succ]
          obtain ⟨hH2, hgoal, q5, hBy2⟩ := Ho.out
          have hnew : HB (w3.setCells g 1 (l8 T)) g T rest' M := by
            obtain ⟨d, ks, hB3, h3⟩ := hH3
            have h4 := Blk.setMore (w := w3) (l8 T) hB3 (o := 1) (by rw [hc_len h3.1 h3.2.1]; show 1 + 8 ≤ 141; omega)
            rw [hc_put_state] at h4
            exact ⟨d, ks, h4, h3⟩
          have p5 : But g w' (w3.setCells g 1 (l8 T)) := But.setCells (.inl rfl) _ (q5.drew.trans hbut3)
          have pB : Bs (w3.setCells g 1 (l8 T)) A' y := hBy2.touched (But.setCells (.inl rfl) _ ((But.refl g w2).drew.trans hbut3)) Hz.out.2.2.2.2.1
          have Hq := Lib.hid (And.intro (hgoal _ hnew) (And.intro p5 pB))
          have ht3 := hH3.there (o := 1) (m := 8) (by omega)
          refine any_one (i := 13) (by kernel_rfl) ?_
          refine op_store rfl rfl rfl 61 _ _ rfl g 1 (l8 T).toArray rfl rfl ht3 info8w (cws_one T.list) ?_
          refine wpAny_done (by kernel_rfl) ?_ _
          clear hH3 hbut3 hH2 hgoal q5 hBy2 hnew p5 pB ht3 c0 c1 c2 c3 c4 c5 c6 c7 r1 r2 r3 hi2
          go_wp2
          go_roundw
          case rel =>
            obtain ⟨hb, hy, hmc, hcm, hA, hrest, hN, hr, hNl, hm, hk, hkl, hd, hrest', hrl', q4, q5, hBy2, htl, hM, hrl⟩ := Hz.out
            obtain ⟨hnew, p5, pB⟩ := Hq.out
            exact ⟨x ++ y.take k, y.drop k, _, _, _, by rw [List.append_assoc, List.take_append_drop]; exact hb, by rw [List.length_drop, hy], rfl, by omega, by unfold maxLen; omega, pB.cut (by omega) (by omega), hA.cut, hnew, p5⟩
          case measure =>
            obtain ⟨hb, hy, hmc, hcm, hA, hrest, hN, hr, hNl, hm, hk, hkl, hd, hrest', hrl', q4, q5, hBy2, htl, hM, hrl⟩ := Hz.out
            show m - k < m
            omega
        · refine op_load (d := 48) rfl rfl rfl 63 _ rfl g 9 rfl (cbs rest') _ r2 Try.underlying63 rfl hi2 ?_
          simp only [List.setIfInBounds_toArray, List.set_cons_zero, List.set_cons_succ]
          refine any_one (i := 5) (by kernel_rfl) ?_
          refine op_load (d := 44) rfl rfl rfl 61 _ rfl g 1 rfl (l8 sw) _ r1 Try.underlying61 rfl info8w ?_
          simp only [List.setIfInBounds_toArray, List.set_cons_zero, List.set_cons_succ]
          refine any_one (i := 10) (by kernel_rfl) ?_
          refine wpOp_step rfl (fun K hK => ?_)
          go_simp
          refine (Htk.out w2.drew Ho.out.1).mono ?_
          rintro e w3 ⟨rfl, hH3, hbut3⟩
          refine hK _ _ ?_
          clear hK K
          refine any_take (i := 11) (d := 50) (v := .pointer (some ⟨g, 0, none⟩)) rfl rfl (by kernel_rfl) (by kernel_rfl) (by kernel_rfl) (fun _ _ _ h => h) (Or.inl ⟨by rfl, (by intro w; go_simp)⟩) ?_
          simp only [List.setIfInBounds_toArray, List.set_cons_zero, List.set_cons_succ]
          refine any_take (i := 12) (d := 51) (v := .pointer (some ⟨g, 1, none⟩)) rfl rfl (by kernel_rfl) (by kernel_rfl) (by kernel_rfl) (fun _ _ _ h => h) (Or.inl ⟨by rfl, (by intro w; go_simp)⟩) ?_
          simp only [List.setIfInBounds_toArray, List.set_cons_zero, List.set_cons_succ]
          obtain ⟨hH2, hgoal, q5, hBy2⟩ := Ho.out
          have hnew : HB (w3.setCells g 1 (l8 T)) g T rest' M := by
            obtain ⟨d, ks, hB3, h3⟩ := hH3
            have h4 := Blk.setMore (w := w3) (l8 T) hB3 (o := 1) (by rw [hc_len h3.1 h3.2.1]; show 1 + 8 ≤ 141; omega)
            rw [hc_put_state] at h4
            exact ⟨d, ks, h4, h3⟩
          have p5 : But g w' (w3.setCells g 1 (l8 T)) := But.setCells (.inl rfl) _ (q5.drew.trans hbut3)
          have pB : Bs (w3.setCells g 1 (l8 T)) A' y := hBy2.touched (But.setCells (.inl rfl) _ ((But.refl g w2).drew.trans hbut3)) Hz.out.2.2.2.2.1
          have Hq := Lib.hid (And.intro (hgoal _ hnew) (And.intro p5 pB))
          have ht3 := hH3.there (o := 1) (m := 8) (by omega)
          refine any_one (i := 13) (by kernel_rfl) ?_
          refine op_store rfl rfl rfl 61 _ _ rfl g 1 (l8 T).toArray rfl rfl ht3 info8w (cws_one T.list) ?_
          refine wpAny_done (by kernel_rfl) ?_ _
          clear hH3 hbut3 hH2 hgoal q5 hBy2 hnew p5 pB ht3 c0 c1 c2 c3 c4 c5 c6 c7 r1 r2 r3 hi2
          go_wp2
          go_roundw
          case rel =>
            obtain ⟨hb, hy, hmc, hcm, hA, hrest, hN, hr, hNl, hm, hk, hkl, hd, hrest', hrl', q4, q5, hBy2, htl, hM, hrl⟩ := Hz.out
            obtain ⟨hnew, p5, pB⟩ := Hq.out
            exact ⟨x ++ y.take k, y.drop k, _, _, _, by rw [List.append_assoc, List.take_append_drop]; exact hb, by rw [List.length_drop, hy], rfl, by omega, by unfold maxLen; omega, pB.cut (by omega) (by omega), hA.cut, hnew, p5⟩
          case measure =>
            obtain ⟨hb, hy, hmc, hcm, hA, hrest, hN, hr, hNl, hm, hk, hkl, hd, hrest', hrl', q4, q5, hBy2, htl, hM, hrl⟩ := Hz.out
            show m - k < m
            omega
      · have hkm : k = m := by omega
        obtain ⟨Rm, hRm⟩ : ∃ Rm, Rm = M % 64 := ⟨_, rfl⟩
        have d1 : (M : Int) % 64 = (Rm : Int) := by omega
        have d2 : (M : Int).tmod 64 = (Rm : Int) := by rw [Int.tmod_eq_emod_of_nonneg (by omega)]; exact d1
        have d3 : ¬ Rm = 0 := by omega
        have hin := whole_in (l ++ x) (y.take k) (by rw [hN64, htl]; omega)
        have hrk : M % 64 = r + k := by omega
        have hnew : Hold (w1.setCell ⟨g, 73, none⟩ (.int .i64 (M : Int))) g (l ++ (x ++ y.take k)) := by
          have hlen : (l ++ (x ++ y.take k)).length = M := by rw [← List.append_assoc, List.length_append, htl, ← hN, hM]
          refine ⟨rest', ?_, ?_⟩
          · rw [hlen, ← List.append_assoc, hin.1]
            exact ⟨d, ks, q4, hrl', hkl, hd⟩
          · rw [hlen, hrk, ← List.append_assoc, hin.2, hrest', List.take_append_of_le_length (by rw [List.length_append, htl, List.length_take]; omega), List.take_of_length_le (by rw [List.length_append, htl, List.length_take]; omega), hrest]
        have Hf := Lib.hid (And.intro hkm hnew)
        clear hb hy hmc hcm hA hrest hN hr hNl hm hk hkl hd hrest' hrl' q1 q2 q3 q4 q5 hBy hBy2 htl hBlk hB hbut hrl hM hfull hN64 hRm hin hrk hnew hkm
        go_wp2
        go_roundw
        case rel =>
          obtain ⟨hb, hy, hmc, hcm, hA, hrest, hN, hr, hNl, hm, hk, hkl, hd, hrest', hrl', q4, q5, hBy2, htl, hM, hrl⟩ := Hz.out
          obtain ⟨hkm, hnew⟩ := Hf.out
          exact ⟨x ++ y.take k, y.drop k, _, _, _, by rw [List.append_assoc, List.take_append_drop]; exact hb, by rw [List.length_drop, hy], rfl, by omega, by unfold maxLen; omega, hBy2.cut (by omega) (by omega), hA.cut, hnew, q5⟩
        case measure =>
          obtain ⟨hb, hy, hmc, hcm, hA, hrest, hN, hr, hNl, hm, hk, hkl, hd, hrest', hrl', q4, q5, hBy2, htl, hM, hrl⟩ := Hz.out
          show m - k < m
          omega
    · have hm0 : m = 0 := by omega
      subst hm0
      have hy0 : y = [] := List.eq_nil_of_length_eq_zero hy
      subst hy0
      rw [List.append_nil] at hb
      subst hb
      have i2 : ¬ (0 : Int) < ((0 : Nat) : Int) := by omega
      have Hq := Lib.hid (And.intro hH hbut)
      clear hy hmc hcm hB hA hH hbut hm
      go_wp2
      go_ret
      exact ⟨rfl, Hq.out⟩
end Go.Proofs.Ytcidliakmlolmaa
