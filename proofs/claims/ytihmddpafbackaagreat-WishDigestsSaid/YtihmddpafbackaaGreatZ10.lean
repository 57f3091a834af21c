/-
  Laid together for a hand-in: Rd11, App8, TakeC, Build, Reg8, Ap11.
-/
import Derived.Test.YtihmddpafbackaaGreatZ09
import Derived.Test.YtihmddpafbackaaGreatZ05
import Derived.Test.YtihmddpafbackaaGreatZ07
import Derived.Maps.AppendAt

namespace Go.Proofs.YtihmddpafbackaaGreat

open Go.RowKit

set_option linter.unusedVariables false

set_option linter.unusedSimpArgs false

/-- Only block 'g' of the old ones turns. -/
abbrev Og (g : Nat) (w w' : World) : Prop := Out (fun i => i = g) w w'

/-- A block of bytes, or one ahead of 'B0'. -/
def Qb (B0 : Nat) (w : World) (i : Nat) : Prop := i < B0 ∨ ∃ cs fr, w.heap[i]? = some (.cells cs 5 fr)

/-- A block from 'B0' on that is none of bytes. -/
def Nu (B0 : Nat) (w : World) (i : Nat) : Prop := B0 ≤ i ∧ ∀ cs fr, w.heap[i]? ≠ some (.cells cs 5 fr)

theorem Qb.ne {B0 : Nat} {w : World} {i j : Nat} (h : Qb B0 w i) (k : Nu B0 w j) : i ≠ j := by
  rintro rfl
  rcases h with h | ⟨cs, fr, h⟩
  · have := k.1; omega
  · exact k.2 cs fr h

theorem Nu.blk {B0 : Nat} {w : World} {g : Nat} {t : TypeId} {cs : List Value} (h : Blk w g t cs) (hg : B0 ≤ g) (ht : t ≠ 5) : Nu B0 w g := by
  refine ⟨hg, fun cs' fr e => ?_⟩
  unfold Blk at h
  rw [h] at e
  injection e with e
  injection e with _ e _
  exact ht e

theorem Nu.own {B0 base : Nat} {w : World} {v : Value} {t : TypeId} {k n : Nat} {xs : List Value} (h : w.ownsRow base t k v n xs) (hg : B0 ≤ base) (ht : t ≠ 5) : ∀ i, v.ownBlock = some i → Nu B0 w i := by
  intro i hi
  obtain ⟨_, ⟨rfl, _⟩ | ⟨g, cap, cur, rfl, h4, h5, _⟩⟩ := h
  · simp [Value.ownBlock] at hi
  · simp [Value.ownBlock] at hi
    subst hi
    refine ⟨Nat.le_trans hg h4, fun cs' fr e => ?_⟩
    rw [h5] at e
    injection e with e
    injection e with _ e _
    exact ht e

/-- Bytes that are shown, out of a block of bytes, or one ahead of 'B0'. -/
def Bn (B0 : Nat) (w : World) (A : Option Addr) (l : List UInt8) : Prop := Bs w A l ∧ ∀ a, A = some a → l.length ≠ 0 → Qb B0 w a.block

theorem Bn.out {B0 : Nat} {S : Nat → Prop} {w w' : World} {A : Option Addr} {l : List UInt8} (h : Bn B0 w A l) (ho : Out S w w') (hS : ∀ i, i < w.heap.size → S i → Nu B0 w i) : Bn B0 w' A l := by
  refine ⟨⟨h.1.1, fun hn => ?_⟩, fun a e hl => ?_⟩
  · obtain ⟨b, off, e, hb, hc⟩ := h.1.2 hn
    refine ⟨b, off, e, Nat.lt_of_lt_of_le hb ho.size, fun j u hu => ?_⟩
    have hk := ho.block b hb (fun e' => (h.2 _ e (by omega)).ne (hS _ hb e') rfl)
    have := hc j u hu
    unfold World.cell? at this ⊢
    rw [hk]
    exact this
  · obtain ⟨b, off, e', hb, _⟩ := h.1.2 (by omega)
    have h2 := h.2 a e hl
    rw [e'] at e
    injection e with e
    subst e
    rcases h2 with h3 | ⟨cs, fr, h3⟩
    · exact .inl h3
    · exact .inr ⟨cs, fr, (ho.block b hb (fun e' => (Qb.ne (.inr ⟨cs, fr, h3⟩) (hS _ hb e')) rfl)).trans h3⟩

theorem Bn.bel {B0 : Nat} {w w' : World} {A : Option Addr} {l : List UInt8} (h : Bn B0 w A l) (hb : Below w.heap.size w w') : Bn B0 w' A l := h.out (Out.ofBelow (fun _ => False) hb) (fun _ _ e => e.elim)

theorem Bn.front {B0 : Nat} {w : World} {A : Option Addr} {l : List UInt8} {m : Nat} (h : Bn B0 w A l) (hm : m ≤ l.length) : Bn B0 w A (l.take m) :=
  ⟨h.1.front hm, fun a e hl => h.2 a e (by rw [List.length_take] at hl; omega)⟩

theorem Bn.cut {B0 : Nat} {w : World} {A : Option Addr} {l : List UInt8} {m c : Nat} (h : Bn B0 w A l) (hm : m ≤ l.length) (hc : l.length ≤ c) : Bn B0 w (cutAt A 1 m c) (l.drop m) := by
  refine ⟨h.1.cut hm hc, fun a e hl => ?_⟩
  rw [List.length_drop] at hl
  obtain ⟨b, off, hA, hb, _⟩ := h.1.2 (by omega)
  have h2 := h.2 _ hA (by omega)
  subst hA
  unfold cutAt at e
  split at e
  · injection e with e; subst e; exact h2
  · rw [Option.map_some, add_mk] at e
    injection e with e; subst e; exact h2

theorem Bn.old {B0 : Nat} {w : World} {A : Option Addr} {l : List UInt8} (h : Bs w A l) (hB : w.heap.size ≤ B0) : Bn B0 w A l := by
  refine ⟨h, fun a e hl => ?_⟩
  obtain ⟨b, off, hA, hb, _⟩ := h.2 (by omega)
  rw [e] at hA
  injection hA with hA
  subst hA
  exact .inl (by show b < B0; omega)

theorem Mine.bn {B0 : Nat} {w : World} {base : Nat} {A : Option Addr} {n c : Nat} {l : List UInt8} (h : Mine w base 5 (.slice A n c) l) : n = l.length ∧ n ≤ c ∧ c ≤ maxLen ∧ Bn B0 w A l := by
  obtain ⟨A', c', e', h1, h2, h3⟩ := h.form
  injection e' with e1 e2 e3
  subst e1; subst e2; subst e3
  refine ⟨rfl, h1, h2, h3, fun a ea hl => ?_⟩
  obtain ⟨_, ⟨e, _⟩ | ⟨g, cap, cur, e, h4, h5, _⟩⟩ := (h : w.ownsRow base 5 1 (.slice A l.length c) l.length (cbs l))
  · injection e with e _ _
    rw [e] at ea; cases ea
  · injection e with e _ _
    rw [e] at ea
    injection ea with ea
    subst ea
    exact .inr ⟨_, _, h5⟩

/-- A row of one's own stays, if its block doesn't turn. -/
theorem own_out {S : Nat → Prop} {w w' : World} {base k n : Nat} {e : TypeId} {v : Value} {xs : List Value} (h : w.ownsRow base e k v n xs) (ho : Out S w w') (hS : ∀ i, v.ownBlock = some i → ¬ S i) : w'.ownsRow base e k v n xs := by
  obtain ⟨h1, h2 | ⟨g, cap, cur, h3, h4, h5, h6⟩⟩ := h
  · exact ⟨h1, .inl h2⟩
  · have hg : g < w.heap.size := by
      rcases Nat.lt_or_ge g w.heap.size with hlt | hge
      · exact hlt
      · rw [Array.getElem?_eq_none hge] at h5; cases h5
    exact ⟨h1, .inr ⟨g, cap, cur, h3, h4, (ho.block g hg (hS g (by rw [h3]; rfl))).trans h5, h6⟩⟩

theorem Mine.og {w w' : World} {base g : Nat} {e : TypeId} {v : Value} {l : List UInt8} (h : Mine w base e v l) (ho : Og g w w') (hg : g < base) : Mine w' base e v l := by
  refine World.ownsRow.kept h (row := some g) ⟨ho.os, ho.tape, ho.output, ho.size, fun i hi hne => ho.block i hi fun e => hne (by rw [e])⟩ ?_
  cases hv : v.ownBlock with
  | none => exact .inl rfl
  | some k =>
    refine .inr fun e => ?_
    have h2 := (World.ownsRow.lt h k hv).1
    injection e with e
    omega

/-- The reader at block 'g': what is left (no matter what, behind an error), the error. -/
def RdA (t : TypeId) (B0 : Nat) (w : World) (g : Nat) (s : Rd) : Prop := B0 ≤ g ∧ ∃ (A : Option Addr) (n c : Nat), Blk w g t [.slice A n c, .int .i64 (s.2 : Int)] ∧ n ≤ c ∧ c ≤ maxLen ∧ n ≤ 140737488355328 ∧ (s.2 = 0 → s.1.length = n ∧ Bn B0 w A s.1)

theorem RdA.lt {t : TypeId} {B0 : Nat} {w : World} {g : Nat} {s : Rd} (h : RdA t B0 w g s) : g < w.heap.size := let ⟨_, _, _, _, hb, _⟩ := h; hb.lt

theorem RdA.out {t : TypeId} {B0 : Nat} {S : Nat → Prop} {w w' : World} {g : Nat} {s : Rd} (h : RdA t B0 w g s) (ho : Out S w w') (hg : ¬ S g) (hS : ∀ i, i < w.heap.size → S i → Nu B0 w i) : RdA t B0 w' g s := by
  obtain ⟨hB, A, n, c, h0, h1, h2, h3, h4⟩ := h
  exact ⟨hB, A, n, c, ho.blk h0 hg, h1, h2, h3, fun e => ⟨(h4 e).1, (h4 e).2.out ho hS⟩⟩

theorem RdA.bel {t : TypeId} {B0 : Nat} {w w' : World} {g : Nat} {s : Rd} (h : RdA t B0 w g s) (hb : Below w.heap.size w w') : RdA t B0 w' g s := h.out (Out.ofBelow (fun _ => False) hb) (fun e => e) (fun _ _ e => e.elim)

abbrev RdP (B0 : Nat) (w : World) (g : Nat) (s : Rd) : Prop := RdA 74 B0 w g s

theorem rd_u8 : 74 ≠ 5 := by decide

set_option maxHeartbeats 800000 in
theorem near_any (g most n c : Nat) (A : Option Addr) (e : Int) (l : List UInt8) (w : World) (hb : Blk w g 74 [.slice A n c, .int .i64 e]) (hnc : n ≤ c) (hc : c ≤ maxLen) (hn : l.length = n) (hm : most ≤ 1000) :
    Calls Tryz.prog 88 #[.pointer (some ⟨g, 0, none⟩), .int .i64 (most : Int)] w fun e' w' => e' = .returned (.slice A (min n most) c) ∧ ∃ q, w' = w.drewN q := by
  have k0 : w.cell? ⟨g, 0, none⟩ = some (.slice A n c) := hb.cell rfl
  have k0' : w.drew.cell? ⟨g, 0, none⟩ = some (.slice A n c) := k0
  unfold maxLen at hc
  have hmin : ∀ ts t w, (Builtin.min_ ts t #[.int .i64 (n : Int), .int .i64 (most : Int)]).run Tryz.prog w = .ok (.int .i64 ((min n most : Nat) : Int)) w := fun ts t w => by
    rw [run_min_int2]; congr 2; split <;> omega
  have hf := run_front A n c (min n most) (by omega)
  generalize min n most = m at *
  clear hb hn hm
  go_enter Tryz.func88, Tryz.ntmps88
  go_wp2
  go_quiet (fail)
  go_wp2
  go_ret
  exact ⟨rfl, _, rfl⟩

theorem took_any (g u n c : Nat) (A : Option Addr) (e0 e : Int) (w : World) (hb : Blk w g 74 [.slice A n c, .int .i64 e0]) (hnc : n ≤ c) (hc : c ≤ maxLen) (hu : u ≤ n) :
    Calls Tryz.prog 90 #[.pointer (some ⟨g, 0, none⟩), .int .i64 (u : Int), .int .i64 e] w fun e' w' => e' = .returned (.tuple #[]) ∧ Blk w' g 74 [.slice (cutAt A 1 u c) (n - u) (c - u), .int .i64 e] ∧ Og g w w' := by
  have k0 : w.cell? ⟨g, 0, none⟩ = some (.slice A n c) := hb.cell rfl
  have k1 : w.cell? ⟨g, 1, none⟩ = some (.int .i64 e0) := hb.cell rfl
  have f0 := hb.free 0
  have f1 := hb.free 1
  unfold maxLen at hc
  have hcut := run_cut A n c u hu
  have HB := Lib.hid hb
  clear hb
  go_enter Tryz.func90, Tryz.ntmps90
  go_wp2
  go_end0
  exact ⟨rfl, (HB.out.set_ 0 _).set_ 1 _, ((Out.refl (fun i => i = g) w).setCell (p := ⟨g, 0, none⟩) (fun _ => rfl) _).setCell (p := ⟨g, 1, none⟩) (fun _ => rfl) _⟩

/-- What number answers. -/
def RetN (t : TypeId) (B0 g : Nat) (w : World) (r : Int × Rd) (e : Ending) (w' : World) : Prop := e = .returned (.int .i64 r.1) ∧ RdA t B0 w' g r.2 ∧ Og g w w'

set_option maxHeartbeats 1600000 in
theorem number_rd (B0 g : Nat) (s : Rd) (w : World) (h : RdP B0 w g s) : Calls Tryz.prog 69 #[.pointer (some ⟨g, 0, none⟩)] w (RetN 74 B0 g w (rn s)) := by
  obtain ⟨hB0, A, n, c, hb, hnc, hc, hn47, hs⟩ := id h
  have k1 : w.cell? ⟨g, 1, none⟩ = some (.int .i64 (s.2 : Int)) := hb.cell rfl
  have hglt := hb.lt
  by_cases he : s.2 ≠ 0
  · have hr : Hid (rn s = (0, s)) := rn_err he
    have hee : (((s.2 : Nat) : Int) != 0) = true := by simp [he]
    have H := Lib.hid h
    clear h hb hs he
    generalize rn s = r at *
    go_enter Tryz.func69, Tryz.ntmps69
    go_wp2
    go_ret
    rw [hr.out]
    exact ⟨rfl, H.out, Out.refl _ _⟩
  · have he0 : s.2 = 0 := by simpa using he
    obtain ⟨hl, hB⟩ := hs he0
    obtain ⟨l, e⟩ := s
    simp only at he0 hl hB k1 hb
    subst he0
    have hr : Hid (rn (l, 0) = ((((tk l).1 : Nat) : Int), ((tk l).2.1, (tk l).2.2))) := by show _ = _; unfold rn; rw [if_neg (by simp)]
    obtain ⟨t1, t2, t3⟩ := tk_near (l := l)
    have hlen8 : (l.take 8).length = min n 8 := by rw [List.length_take, hl, Nat.min_comm]
    have hlt8 : (tk (l.take 8)).2.1.length ≤ min n 8 := by
      have := nu_used (l.take 8)
      unfold tk
      split
      · simp only [List.length_drop]; omega
      · simp
    have hB8 : Bn B0 w A (l.take (min n 8)) := hB.front (by omega)
    have e8 : l.take 8 = l.take (min n 8) := by
      by_cases h8 : 8 ≤ n
      · rw [Nat.min_eq_right h8]
      · rw [List.take_of_length_le (by omega), List.take_of_length_le (by omega)]
    rw [e8] at t1 t2 t3 hlen8 hlt8
    have hk1 : (((0 : Nat) : Int) != 0) = false := rfl
    have Hnear := Lib.hid (near_any g 8 n c A ((0 : Nat) : Int) l w hb hnc hc hl (by omega))
    generalize hm : min n 8 = m at *
    have hmn : m ≤ n := by omega
    have hm8 : m ≤ 8 := by omega
    have HT := Lib.hid (fun w (hA : Bs w A (l.take m)) => takeNum_any A c m (l.take m) w hA hlen8 (by omega) (by omega) hc)
    generalize tk (l.take m) = q at *
    obtain ⟨qn, ql, qe⟩ := q
    generalize tk l = p at *
    simp only at t1 t2 t3 hlt8
    have HB := Lib.hid (And.intro hb (And.intro hB (And.intro hB8 (And.intro hl (And.intro t1 (And.intro t2 (And.intro t3 (And.intro hlen8 hlt8))))))))
    clear h hb hB hB8 hl t1 t2 t3 hlen8 hs he e8 hm
    generalize rn (l, 0) = r at *
    obtain ⟨k, hk⟩ : ∃ k, ql.length = k := ⟨_, rfl⟩
    rw [hk] at hlt8
    have Hk := Lib.hid hk
    clear hk
    have hwrap : IntKind.i64.wrap ((m : Int) - (k : Int)) = ((m - k : Nat) : Int) := by rw [IntWalk.i64_in _ (by omega)]; omega
    go_enter Tryz.func69, Tryz.ntmps69
    go_wp2_with fail
    refine Hnear.out.mono ?_
    rintro e' w1 ⟨rfl, nq, rfl⟩
    have hd : Below w.heap.size w (w.drewN nq) := below_drewN (Below.refl _ _) _
    go_wp2_with fail
    refine (HT.out _ (HB.out.2.2.1.1.after hd)).mono ?_
    rintro e' w2 ⟨v, rfl, hnew⟩
    obtain ⟨A2, c2, rfl, _⟩ := hnew.form
    simp only [Hk.out]
    have hb2 := hd.trans (hnew.2.mono hd.size)
    have HN := Lib.hid hb2
    have Ht := Lib.hid (took_any g (m - k) n c A ((0 : Nat) : Int) (qe : Int) w2 (HB.out.1.below hb2 hglt) hnc hc (by omega))
    clear hnew hb2 hd
    go_wp2_with fail
    refine Ht.out.mono ?_
    rintro e' w3 ⟨rfl, hb3, ho3⟩
    have H3 := Lib.hid (And.intro hb3 ho3)
    clear hb3 ho3
    go_wp2
    go_ret
    rw [hr.out]
    obtain ⟨b1, b2, b3, b4, b5, b6, b7, b8, b9⟩ := HB.out
    refine ⟨ret_int (congrArg Nat.cast b5), ⟨hB0, _, _, _, by rw [← b6]; exact H3.out.1, by omega, by omega, by omega, fun h0 => ?_⟩, (Out.ofBelow _ HN.out).trans H3.out.2 (fun _ _ e => e)⟩
    have h7 := b7 h0
    rw [b8, Hk.out] at h7
    rw [h7]
    exact ⟨by rw [List.length_drop, b4], ((b2.bel HN.out).out H3.out.2 (fun i _ e => by subst e; exact Nu.blk (HB.out.1.below HN.out hglt) hB0 rd_u8)).cut (by omega) (by omega)⟩

/-- What text answers: bytes in a row of their own. -/
def RetT (t : TypeId) (B0 g : Nat) (w : World) (r : List UInt8 × Rd) (e : Ending) (w' : World) : Prop := ∃ v, e = .returned v ∧ Mine w' w.heap.size 5 v r.1 ∧ RdA t B0 w' g r.2 ∧ Og g w w'

set_option maxHeartbeats 1600000 in
theorem text_rd (B0 g most : Nat) (s : Rd) (w : World) (h : RdP B0 w g s) (hm : most ≤ 256) : Calls Tryz.prog 70 #[.pointer (some ⟨g, 0, none⟩), .int .i64 (most : Int)] w (RetT 74 B0 g w (rt most s)) := by
  obtain ⟨hB0, A, n, c, hb, hnc, hc, hn47, hs⟩ := id h
  have k1 : w.cell? ⟨g, 1, none⟩ = some (.int .i64 (s.2 : Int)) := hb.cell rfl
  have hglt := hb.lt
  by_cases he : s.2 ≠ 0
  · have hr : Hid (rt most s = ([], s)) := rt_err he
    have hee : (((s.2 : Nat) : Int) != 0) = true := by simp [he]
    have H := Lib.hid h
    clear h hb hs he
    generalize rt most s = r at *
    go_enter Tryz.func70, Tryz.ntmps70
    go_wp2
    go_ret
    rw [hr.out]
    exact ⟨_, rfl, World.ownsRow_nil _ _ _ _, H.out, Out.refl _ _⟩
  · have he0 : s.2 = 0 := by simpa using he
    obtain ⟨hl, hB⟩ := hs he0
    obtain ⟨l, e⟩ := s
    simp only at he0 hl hB k1 hb
    subst he0
    have hr : Hid (rt most (l, 0) = ((ts l most).1, ((ts l most).2.1, (ts l most).2.2))) := by show _ = _; unfold rt; rw [if_neg (by simp)]
    obtain ⟨t1, t2, t3⟩ := ts_near (l := l) (m := most)
    have hlen8 : (l.take (8 + most)).length = min n (8 + most) := by rw [List.length_take, hl, Nat.min_comm]
    have hlt8 : (ts (l.take (8 + most)) most).2.1.length ≤ min n (8 + most) := by
      by_cases h0 : (ts (l.take (8 + most)) most).2.2 = 0
      · have h1 := (ts_ok (l := l.take (8 + most)) (s := (ts (l.take (8 + most)) most).1) (z := (ts (l.take (8 + most)) most).2.1) (most := (most : Int)) (by rw [← h0])).2.2
        have h2 := congrArg List.length h1
        simp only [List.length_append] at h2
        omega
      · rw [(ts_err (l := l.take (8 + most)) (s := (ts (l.take (8 + most)) most).1) (z := (ts (l.take (8 + most)) most).2.1) (most := (most : Int)) (e := (ts (l.take (8 + most)) most).2.2) rfl h0).2]; simp
    have hB8 : Bn B0 w A (l.take (min n (8 + most))) := hB.front (by omega)
    have e8 : l.take (8 + most) = l.take (min n (8 + most)) := by
      by_cases h8 : 8 + most ≤ n
      · rw [Nat.min_eq_right h8]
      · rw [List.take_of_length_le (by omega), List.take_of_length_le (by omega)]
    rw [e8] at t1 t2 t3 hlen8 hlt8
    have hk1 : (((0 : Nat) : Int) != 0) = false := rfl
    have Hnear := Lib.hid (near_any g (8 + most) n c A ((0 : Nat) : Int) l w hb hnc hc hl (by omega))
    have hsum : IntKind.i64.wrap (8 + (most : Int)) = ((8 + most : Nat) : Int) := by rw [IntWalk.i64_in _ (by omega)]; omega
    generalize hm : min n (8 + most) = m at *
    have hmn : m ≤ n := by omega
    have hm8 : m ≤ 8 + most := by omega
    have HT := Lib.hid (fun w (hA : Bs w A (l.take m)) => takeStr_any A c m (most : Int) (l.take m) w hA hlen8 (by omega) (by omega) hc)
    generalize ts (l.take m) (most : Int) = q at *
    obtain ⟨qs, ql, qe⟩ := q
    generalize ts l (most : Int) = p at *
    simp only at t1 t2 t3 hlt8
    have HB := Lib.hid (And.intro hb (And.intro hB (And.intro hB8 (And.intro hl (And.intro t1 (And.intro t2 (And.intro t3 (And.intro hlen8 hlt8))))))))
    clear h hb hB hB8 hl t1 t2 t3 hlen8 hs he e8 hm
    generalize rt most (l, 0) = r at *
    obtain ⟨k, hk⟩ : ∃ k, ql.length = k := ⟨_, rfl⟩
    obtain ⟨ks, hks⟩ : ∃ k, qs.length = k := ⟨_, rfl⟩
    rw [hk] at hlt8
    have Hk := Lib.hid hk
    have Hks := Lib.hid hks
    clear hk hks
    have hwrap : IntKind.i64.wrap ((m : Int) - (k : Int)) = ((m - k : Nat) : Int) := by rw [IntWalk.i64_in _ (by omega)]; omega
    go_enter Tryz.func70, Tryz.ntmps70
    go_wp2_with fail
    refine Hnear.out.mono ?_
    rintro e' w1 ⟨rfl, nq, rfl⟩
    have hd : Below w.heap.size w (w.drewN nq) := below_drewN (Below.refl _ _) _
    go_wp2_with fail
    refine (HT.out _ (HB.out.2.2.1.1.after hd)).mono ?_
    rintro e' w2 ⟨v, v2, wm, rfl, hnew, hnew2⟩
    obtain ⟨A1, c1, rfl, _, hc1, _⟩ := hnew.form
    obtain ⟨A2, c2, rfl, _⟩ := hnew2.form
    simp only [Hk.out, Hks.out]
    have hb2 := hd.trans ((hnew.2.mono hd.size).trans (hnew2.2.mono (Nat.le_trans hd.size hnew.2.size)))
    have hM := Mine.base (b' := w.heap.size) (Mine.after hnew.1 hnew2.2) hd.size
    simp only [Hks.out] at hM
    have HN := Lib.hid (And.intro hb2 hM)
    have Ht := Lib.hid (took_any g (m - k) n c A ((0 : Nat) : Int) (qe : Int) w2 (HB.out.1.below hb2 hglt) hnc hc (by omega))
    clear hnew hb2 hd hnew2 hM
    go_wp2_with fail
    refine Ht.out.mono ?_
    rintro e' w3 ⟨rfl, hb3, ho3⟩
    have H3 := Lib.hid (And.intro hb3 ho3)
    clear hb3 ho3
    have fin : RdP B0 w3 g (p.2.1, p.2.2) ∧ Og g w w3 := by
      obtain ⟨b1, b2, b3, b4, b5, b6, b7, b8, b9⟩ := HB.out
      refine ⟨⟨hB0, _, _, _, by rw [← b6]; exact H3.out.1, by omega, by omega, by omega, fun h0 => ?_⟩, (Out.ofBelow _ HN.out.1).trans H3.out.2 (fun _ _ e => e)⟩
      have h7 := b7 h0
      rw [b8, Hk.out] at h7
      simp only
      rw [h7]
      exact ⟨by rw [List.length_drop, b4], ((b2.bel HN.out.1).out H3.out.2 (fun i _ e => by subst e; exact Nu.blk (HB.out.1.below HN.out.1 hglt) hB0 rd_u8)).cut (by omega) (by omega)⟩
    have Fin := Lib.hid fin
    clear fin
    have hMz := Lib.hid (Mine.og HN.out.2 H3.out.2 hglt)
    by_cases hz : ks = 0
    · have hz0 : ((ks : Int) == 0) = true := by simp [hz]
      have Hz : Hid (p.1 = []) := by show _ = _; rw [← HB.out.2.2.2.2.1]; exact List.eq_nil_of_length_eq_zero (Hks.out.trans hz)
      clear hz
      go_wp2
      go_ret
      rw [hr.out]
      exact ⟨_, rfl, by simp only [Hz.out]; exact World.ownsRow_nil _ _ _ _, Fin.out.1, Fin.out.2⟩
    · have hz0 : ((ks : Int) == 0) = false := by simp [hz]
      clear hz
      go_wp2
      go_ret
      rw [hr.out]
      exact ⟨_, rfl, by simp only [← HB.out.2.2.2.2.1]; exact hMz.out, Fin.out.1, Fin.out.2⟩

theorem count_rd (B0 g most : Nat) (s : Rd) (w : World) (h : RdP B0 w g s) (hm : most ≤ 256) : Calls Tryz.prog 45 #[.pointer (some ⟨g, 0, none⟩), .int .i64 (most : Int)] w (RetN 74 B0 g w (((rc most s).1 : Int), (rc most s).2)) := by
  have hp := rn_pos s
  have HN := Lib.hid (number_rd B0 g s w h)
  clear h
  by_cases hlt : (most : Int) < (rn s).1
  · have hr : Hid (rc most s = (0, ((rn s).2.1, 5))) := by show _ = _; unfold rc; rw [if_pos hlt]
    generalize rc most s = r at *
    generalize rn s = q at *
    go_enter Tryz.func45, Tryz.ntmps45
    go_wp2_with fail
    refine HN.out.mono ?_
    rintro e' w1 ⟨rfl, hR, hO⟩
    obtain ⟨hB0, A, n, c, hb, h1, h2, h3, _⟩ := hR
    have k1 : w1.cell? ⟨g, 1, none⟩ = some (.int .i64 (q.2.2 : Int)) := hb.cell rfl
    have f1 := hb.free 1
    have HB := Lib.hid (And.intro hb hO)
    clear hb hO
    go_wp2
    go_ret
    rw [hr.out]
    exact ⟨rfl, ⟨hB0, A, n, c, HB.out.1.set_ 1 _, h1, h2, h3, fun e => by simp at e⟩, HB.out.2.setCell (p := ⟨g, 1, none⟩) (fun _ => rfl) _⟩
  · have hr : Hid (rc most s = ((rn s).1.toNat, (rn s).2)) := by show _ = _; unfold rc; rw [if_neg hlt]
    generalize rc most s = r at *
    generalize rn s = q at *
    have Ht : Hid (((q.1.toNat : Nat) : Int) = q.1) := by show _ = _; omega
    go_enter Tryz.func45, Tryz.ntmps45
    go_wp2_with fail
    refine HN.out.mono ?_
    rintro e' w1 ⟨rfl, hR, hO⟩
    have HB := Lib.hid (And.intro hR hO)
    clear hR hO
    go_wp2
    go_ret
    rw [hr.out]
    exact ⟨ret_int Ht.out.symm, HB.out.1, HB.out.2⟩

theorem end_rd (B0 g : Nat) (s : Rd) (w : World) (h : RdP B0 w g s) : Calls Tryz.prog 44 #[.pointer (some ⟨g, 0, none⟩)] w fun e w' => e = .returned (.tuple #[]) ∧ (∃ A n c, Blk w' g 74 [.slice A n c, .int .i64 (ren s : Int)]) ∧ Og g w w' := by
  obtain ⟨hB0, A, n, c, hb, hnc, hc, hn47, hs⟩ := h
  have k0 : w.cell? ⟨g, 0, none⟩ = some (.slice A n c) := hb.cell rfl
  have k1 : w.cell? ⟨g, 1, none⟩ = some (.int .i64 (s.2 : Int)) := hb.cell rfl
  have f1 := hb.free 1
  obtain ⟨l, e⟩ := s
  simp only at *
  have HB := Lib.hid hb
  clear hb
  by_cases he : e = 0
  · subst he
    have hl := (hs rfl).1
    have ee : (((0 : Nat) : Int) == 0) = true := rfl
    by_cases hn : 0 < n
    · have hr : Hid (ren (l, 0) = 4) := by show _ = _; unfold ren; rw [if_pos ⟨rfl, by simp only; omega⟩]
      clear hs hl
      generalize ren (l, 0) = r at *
      go_enter Tryz.func44, Tryz.ntmps44
      go_wp2
      go_end0
      exact ⟨rfl, ⟨A, n, c, by rw [hr.out]; exact HB.out.set_ 1 _⟩, (Out.refl (fun i => i = g) w).setCell (p := ⟨g, 1, none⟩) (fun _ => rfl) _⟩
    · have hr : Hid (ren (l, 0) = 0) := by show _ = _; unfold ren; rw [if_neg (by rintro ⟨_, h⟩; simp only at h; omega)]
      clear hs hl
      generalize ren (l, 0) = r at *
      go_enter Tryz.func44, Tryz.ntmps44
      go_wp2
      go_end0
      exact ⟨rfl, ⟨A, n, c, by rw [hr.out]; exact HB.out⟩, Out.refl _ _⟩
  · have hr : Hid (ren (l, e) = e) := by show _ = _; unfold ren; rw [if_neg (by rintro ⟨h, _⟩; exact he h)]
    have ee : ((e : Int) == 0) = false := by simp; omega
    clear hs he
    generalize ren (l, e) = r at *
    go_enter Tryz.func44, Tryz.ntmps44
    go_wp2
    go_end0
    exact ⟨rfl, ⟨A, n, c, by rw [hr.out]; exact HB.out⟩, Out.refl _ _⟩

end Go.Proofs.YtihmddpafbackaaGreat

namespace Go.Proofs.YtihmddpafbackaaGreat

open Go.RowKit

set_option linter.unusedVariables false

section

variable {w w' : World} {base k n : Nat} {e : TypeId} {v : Value} {xs : List Value}

theorem own_stay (h : w.ownsRow base e k v n xs) (hz : w.heap.size ≤ w'.heap.size) (hk : ∀ i, i < w.heap.size → base ≤ i → w'.heap[i]? = w.heap[i]?) : w'.ownsRow base e k v n xs := by
  obtain ⟨h1, h2 | ⟨g, cap, cur, h3, h4, h5, h6⟩⟩ := h
  · exact ⟨h1, .inl h2⟩
  · have hg : g < w.heap.size := by
      rcases Nat.lt_or_ge g w.heap.size with hlt | hge
      · exact hlt
      · rw [Array.getElem?_eq_none hge] at h5; cases h5
    exact ⟨h1, .inr ⟨g, cap, cur, h3, h4, (hk g hg h4).trans h5, h6⟩⟩

theorem own_below (h : w.ownsRow base e k v n xs) (hb : Below w.heap.size w w') : w'.ownsRow base e k v n xs := own_stay h hb.size fun i hi _ => hb.block i hi

theorem own_base {base' : Nat} (h : w.ownsRow base e k v n xs) (hb : base' ≤ base) : w.ownsRow base' e k v n xs := by
  obtain ⟨h1, h2 | ⟨g, cap, cur, h3, h4, h5⟩⟩ := h
  · exact ⟨h1, .inl h2⟩
  · exact ⟨h1, .inr ⟨g, cap, cur, h3, by omega, h5⟩⟩

/-- A row as a block. -/
theorem own_blk (h : w.ownsRow base e 1 v n xs) : (v = .slice none 0 0 ∧ n = 0 ∧ xs = []) ∨ ∃ g cap cs, v = .slice (some ⟨g, 0, none⟩) n cap ∧ base ≤ g ∧ Blk w g e cs ∧ n ≤ cap ∧ cap ≤ maxLen ∧ cs.length = cap ∧ cs.take n = xs := by
  obtain ⟨h1, ⟨h2, h3⟩ | ⟨g, cap, cur, h3, h4, h5, h6, h7, h8, h9⟩⟩ := h
  · left
    subst h3
    exact ⟨h2, rfl, List.eq_nil_of_length_eq_zero (by simpa using h1)⟩
  · right
    exact ⟨g, cap, cur.toList, h3, h4, by unfold Blk; simpa using h5, h6, h7, by simpa using h8, by simpa using h9⟩

theorem blk_own {g cap : Nat} {cs : List Value} (hg : base ≤ g) (hB : Blk w g e cs) (hn : n ≤ cap) (hc : cap ≤ maxLen) (hl : cs.length = cap) (ht : cs.take n = xs) : w.ownsRow base e 1 (.slice (some ⟨g, 0, none⟩) n cap) n xs :=
  ⟨by rw [← ht, List.length_take, hl]; omega, .inr ⟨g, cap, cs.toArray, rfl, hg, hB, hn, hc, by simpa using hl, by simpa using ht⟩⟩

end

def OwnI (w : World) (base : Nat) (v : Value) (l : List Int) : Prop := w.ownsRow base 3 1 v l.length (cis l)

theorem OwnI.form {w : World} {base : Nat} {v : Value} {l : List Int} (h : OwnI w base v l) : ∃ A c, v = .slice A l.length c ∧ l.length ≤ c ∧ c ≤ maxLen ∧ Is w A l := by
  obtain ⟨h1, h2⟩ := h
  have hh := h2
  rcases h2 with ⟨rfl, hx⟩ | ⟨g, cap, cur, rfl, _, _, hc, hm, _⟩
  · have : l = [] := List.eq_nil_of_length_eq_zero hx
    subst this
    exact ⟨none, 0, rfl, by simp, by simp [maxLen], Shows.empty _⟩
  · exact ⟨_, cap, rfl, hc, hm, Shows.ofOwn ⟨h1, hh⟩⟩

theorem OwnI.arg {w : World} {base : Nat} {v : Value} {l : List Int} (h : OwnI w base v l) (hw : ∀ x ∈ l, Wf x) : ∃ A c, v = .slice A l.length c ∧ ArgI w A l.length c l := by
  obtain ⟨A, c, e, h1, h2, h3⟩ := h.form
  exact ⟨A, c, e, rfl, h1, h2, h3, hw⟩

theorem OwnI.nil (w : World) (base : Nat) : OwnI w base (.slice none 0 0) [] := World.ownsRow_nil _ _ _ _

theorem NewI.own {w w' : World} {l : List Int} {v : Value} (h : NewI w l v w') : OwnI w' w.heap.size v l := h.1

theorem cis_append (l m : List Int) : cis (l ++ m) = cis l ++ cis m := by simp [cis]

theorem cis_take (l : List Int) (m : Nat) : cis (l.take m) = (cis l).take m := by simp [cis]

theorem cis_drop (l : List Int) (m : Nat) : cis (l.drop m) = (cis l).drop m := by simp [cis]

set_option maxRecDepth 100000 in
/-- append(v, x...): 'v' in a row of the call's own, 'x' whatever slice shows the numbers 'm'. -/
theorem run_appendI (w : World) (base : Nat) (v : Value) (l : List Int) (hown : OwnI w base v l) (A : Option Addr) (c k : Nat) (m : List Int) (hr : Is w A m) (hk : m.length = k)
    (h44 : l.length + k ≤ 17592186044416) (hbase : base ≤ w.heap.size) (ty : TypeId) :
    ∃ v' w', (Builtin.append_ #[23, 23] ty #[v, .slice A k c]).run Tryz.prog w = .ok v' w' ∧ OwnI w' base v' (l ++ m) ∧ w.grownBy w' v.ownBlock ∧
      (v'.ownBlock = v.ownBlock ∨ v'.ownBlock = some w.heap.size) := by
  subst hk
  obtain ⟨i0, hi, hz0, hz1, hz2⟩ := info_parts i64_info
  cases A with
  | none =>
    have hm : m = [] := by
      cases m with
      | nil => rfl
      | cons x t => obtain ⟨b, off, e, _⟩ := hr.at_ (i := 0) (by simp); cases e
    subst hm
    exact ⟨v, w, run_append_empty w base _ ty _ i0 Tryz.underlying23 hi v _ _ 1 hown c, by simpa using hown, World.grownBy.refl w _, .inl rfl⟩
  | some ad =>
    have hcells : ∀ j u, (cis m)[j]? = some u → w.cell? (ad.add j) = some u := by
      intro j u hu
      have hj : j < m.length := by
        rcases Nat.lt_or_ge j m.length with h | h
        · exact h
        · rw [List.getElem?_eq_none (by rw [cis_length]; exact h)] at hu; cases hu
      obtain ⟨b, off, e, _, hc⟩ := hr.2 (by omega)
      injection e with e
      subst e
      rw [add_mk]
      exact hc j u hu
    obtain ⟨v', w', h1, h2, h3, _, h5⟩ := run_append_own_at (P := Tryz.prog) w base 23 ty 3 i0 (.int .i64 0) 1 8 Tryz.underlying23 hi hz0 hz1 hz2 rfl (by decide) v l.length (cis l) hown ad m.length c (cis m)
      (by rw [cis_length]; simp) hcells (cis_one m) (by simp only [maxLen]; omega) (by omega) hbase
    exact ⟨v', w', h1, by unfold OwnI; rw [List.length_append, cis_append]; exact h2, h3, h5⟩

theorem wp_appendI {w : World} {ops : Array Oper} {rest : List Oper} {o : Oper} {a : Act} {Q : Exit → Act → World → Prop} (hgd : o.guard = none) (s x : Operand)
    (ho : o.op = .call { callee := .builtin .append, args := #[s, x], argTypes := #[23, 23] })
    (base : Nat) (v : Value) (l : List Int) (hs : a.eval s = v) (hown : OwnI w base v l) (A : Option Addr) (c k : Nat) (m : List Int) (hx : a.eval x = .slice A k c) (hr : Is w A m) (hk : m.length = k)
    (h44 : l.length + k ≤ 17592186044416) (hbase : base ≤ w.heap.size)
    (h : ∀ v' w', OwnI w' base v' (l ++ m) → w.grownBy w' v.ownBlock → (v'.ownBlock = v.ownBlock ∨ v'.ownBlock = some w.heap.size) → wpList Tryz.prog ops Q rest (a.put o.dst v') w') :
    wpList Tryz.prog ops Q (o :: rest) a w := by
  obtain ⟨v', w', hrun, h2, h3, h4⟩ := run_appendI w base v l hown A c k m hr hk h44 hbase o.type
  refine wpList_plain hgd fun K hK => ?_
  unfold Oper.wp execOp
  simp only [ho, resolve, invoke, builtin, Sem.run_bind, Sem.run_pure, Result.andThen_ok, List.map_toArray, List.map_cons, List.map_nil, hs, hx, hrun]
  exact hK _ _ (h v' w' h2 h3 h4)

/-- Behind an append to a row of its own, all that was ahead of that row stays. -/
theorem below_append {w0 w w' : World} {B base : Nat} {v : Value} {l : List Int} (hb : Below B w0 w) (hown : OwnI w base v l) (hg : w.grownBy w' v.ownBlock) (hB : B ≤ base) (hw : B ≤ w.heap.size) : Below B w0 w' :=
  hb.grown hg hw fun i hi => by have := (hown.lt i hi).1; omega

/-- A new block that shows some numbers. -/
theorem is_new (w : World) (l : List Int) : Is (w.alloc (.cells (cis l).toArray 3)) (some ⟨w.heap.size, 0, none⟩) l := by
  refine ⟨by rw [cis_length]; omega, fun _ => ⟨_, 0, rfl, by simp, fun j u hu => ?_⟩⟩
  rw [Nat.zero_add]
  exact (Blk.new (l := cis l) rfl rfl).cell hu

end Go.Proofs.YtihmddpafbackaaGreat

namespace Go.Proofs.YtihmddpafbackaaGreat

open Go.RowKit

set_option linter.unusedVariables false

section

variable {P : Program} {ops : Array Oper} {Q : Exit → Act → World → Prop} {md : Region.Mode} {S : World → Prop}

/-- In state 'a', in every world that meets S, operation 'o' is a call that answers v and changes nothing. -/
def Asks (P : Program) (ops : Array Oper) (S : World → Prop) (o : Oper) (v : Value) (a : Act) : Prop :=
  Region.wanted o (yielded ops a.tmps) = true ∧ ∀ w, S w → ∃ f args, (execOp a.eval o).run P w = .ok (.enter f args) w ∧ Calls P f args w fun e w' => e = .returned v ∧ w' = w

theorem Asks.op {i : Nat} {o : Oper} {v : Value} {a : Act} (hi : ops[i]? = some o) (hy : Asks P ops S o v a) {K : Act → World → Prop} {w : World} (hS : S w) (h : K (a.put o.dst v) w) : wpOp P ops Q i K a w := by
  obtain ⟨hw, hr⟩ := hy
  obtain ⟨f, args, hrun, hc⟩ := hr w hS
  unfold wpOp
  simp only [hi, hw, if_true]
  refine .inl ?_
  unfold Oper.wp
  rw [hrun]
  refine hc.mono ?_
  rintro e w' ⟨rfl, rfl⟩
  exact h

theorem Asks.same {o : Oper} {v : Value} {a a' : Act} (hy : Asks P ops S o v a) (he : execOp a'.eval o = execOp a.eval o) (hw : Region.wanted o (yielded ops a'.tmps) = Region.wanted o (yielded ops a.tmps)) : Asks P ops S o v a' := by
  unfold Asks at *
  rw [he, hw]
  exact hy

theorem asks_put {j : Nat} {oi oj : Oper} {v : Value} (hj : ops[j]? = some oj) (hap : oi.apart ops oj = true) (hsi : ∀ cs b, oi.op ≠ .select cs b) (hsj : ∀ cs b, oj.op ≠ .select cs b)
    (hQ : ∀ c a w, Q (.panic c) (a.put oi.dst v) w → Q (.panic c) a w) {K : Act → World → Prop} {a : Act} {w : World} (hy : Asks P ops S oi v a) (h : wpOp P ops Q j K (a.put oi.dst v) w) :
    wpOp P ops Q j (fun a' w' => Asks P ops S oi v a' ∧ K (a'.put oi.dst v) w') a w := by
  obtain ⟨h1, h2, h3⟩ := Oper.apart_spec hap
  have keep : ∀ a : Act, Asks P ops S oi v a → ∀ u, Asks P ops S oi v (a.put oj.dst u) := fun a hy u => hy.same (execOp_put oi hsi a oj.dst u h3) (wanted_put oi a oj.dst u h3)
  have keepD : ∀ d, Asks P ops S oi v { a with defers := d :: a.defers } := fun d => hy.same rfl rfl
  unfold wpOp at *
  simp only [hj] at *
  rw [wanted_put oj a oi.dst v h1] at h
  split
  · rename_i hw
    simp only [hw, if_true] at h
    rcases h with h | ⟨hasks, hlets⟩
    · refine .inl ?_
      unfold Oper.wp at *
      rw [execOp_put oj hsj a oi.dst v h1] at h
      generalize (execOp a.eval oj).run P w = r at *
      cases r with
      | ok n w' =>
        cases n <;> simp only [Oper.upon] at h ⊢
        case value u => exact ⟨keep a hy u, by rw [← Act.put_comm a v u h2]; exact h⟩
        case skip => exact ⟨keep a hy _, by rw [← Act.put_comm a v undef h2]; exact h⟩
        case defer d =>
          refine ⟨keep _ (keepD d) _, ?_⟩
          rw [← Act.put_comm _ v undef h2, ← Act.put_defers]
          exact h
        case enter f args =>
          refine Calls.mono h fun e w'' he => ?_
          cases e with
          | returned u => exact ⟨keep a hy u, by rw [← Act.put_comm a v u h2]; exact he⟩
          | panicked c => exact hQ _ _ _ he
          | outgrown => exact he
        case row row args => exact Rows.mono h fun u w'' he => ⟨keep a hy u, by rw [← Act.put_comm a v u h2]; exact he⟩
      | halt x w' =>
        cases x <;> simp only [Oper.upon] at h ⊢
        case panic u => exact hQ _ _ _ h
    · exact .inr ⟨by unfold Oper.asks at *; rw [execOp_put oj hsj a oi.dst v h1] at hasks; exact hasks, hlets⟩
  · rename_i hw
    simp only [hw] at h
    exact ⟨keep a hy _, by rw [← Act.put_comm a v undef h2]; exact h⟩

theorem asks_first {i : Nat} {oi : Oper} {v : Value} (hi : ops[i]? = some oi) (hsel : ∀ (j : Nat) (o : Oper) cs b, ops[j]? = some o → o.op ≠ .select cs b) (hQ : ∀ c a w, Q (.panic c) (a.put oi.dst v) w → Q (.panic c) a w) :
    ∀ (fuel : Nat) (listed : Array Bool) (a : Act) (w : World),
      (∀ j oj, ops[j]? = some oj → j ≠ i → listed.getD j true = false → (∀ e ∈ oj.after, Region.binds md e = true → e.on ≠ i) → oi.apart ops oj = true) →
      i ∈ Region.ready md ops listed → Asks P ops S oi v a → S w →
      wpAnyH P md ops Q S fuel (listed.setIfInBounds i true) (a.put oi.dst v) w → wpAnyH P md ops Q S (fuel + 1) listed a w := by
  intro fuel
  induction fuel with
  | zero =>
    intro listed a w _ hr hy hS H
    refine ⟨fun h => (by rw [h] at hr; cases hr), fun j hj => ?_⟩
    by_cases hji : j = i
    · subst hji; exact hy.op hi hS ⟨hS, H⟩
    · have := ready_mono hj hji
      rw [H.1] at this
      cases this
  | succ fuel ih =>
    intro listed a w hfree hr hy hS H
    refine ⟨fun h => (by rw [h] at hr; cases hr), fun j hj => ?_⟩
    by_cases hji : j = i
    · subst hji; exact hy.op hi hS ⟨hS, H⟩
    · have h1 := H.2 j (ready_mono hj hji)
      obtain ⟨hjun, oj, hoj, hall⟩ := mem_ready.1 hj
      have hnot : ∀ e ∈ oj.after, Region.binds md e = true → e.on ≠ i := fun e he hb heq => by
        have h1 := hall e he hb
        have h0 := (mem_ready.1 hr).1
        rw [heq] at h1
        rcases Nat.lt_or_ge i listed.size with h' | h'
        · simp [h'] at h0 h1; rw [h0] at h1; cases h1
        · simp [Array.getElem?_eq_none h'] at h1
      have h2 := asks_put hoj (hfree j oj hoj hji hjun hnot) (fun cs b => hsel i oi cs b hi) (fun cs b => hsel j oj cs b hoj) hQ hy h1
      have hfree' : ∀ k ok, ops[k]? = some ok → k ≠ i → (listed.setIfInBounds j true).getD k true = false → (∀ e ∈ ok.after, Region.binds md e = true → e.on ≠ i) → oi.apart ops ok = true := fun k ok hk hki hun hno => by
        refine hfree k ok hk hki ?_ hno
        by_cases hjk : j = k
        · subst hjk; exact hjun
        · rw [getD_set_ne true hjk] at hun; exact hun
      refine wpOp_mono (fun a' w' h3 => ⟨h3.2.1, ih (listed.setIfInBounds j true) a' w' hfree' (ready_mono hr (Ne.symm hji)) h3.1 h3.2.1 ?_⟩) h2
      rw [Array.setIfInBounds_comm _ _ hji]
      exact h3.2.2

/-- A call taken first. -/
theorem anyH_call {i d : Nat} {oi : Oper} {v : Value} {fuel : Nat} {listed : Array Bool} {a : Act} {w : World} (hi : ops[i]? = some oi) (hd : oi.dst = some d)
    (hs : Region.noSelect ops = true) (hf : Region.free md ops listed i = true) (hr : (Region.ready md ops listed).contains i = true)
    (hQ : ∀ c a w, Q (.panic c) (a.put oi.dst v) w → Q (.panic c) a w) (hy : Asks P ops S oi v a) (hS : S w)
    (h : wpAnyH P md ops Q S fuel (listed.setIfInBounds i true) { a with tmps := a.tmps.setIfInBounds d v } w) : wpAnyH P md ops Q S (fuel + 1) listed a w :=
  asks_first hi (Region.noSelect_spec hs) hQ fuel listed a w (Region.free_spec hi hf) (by simpa using hr) hy hS (by unfold Act.put; rw [hd]; exact h)

theorem op_storeE {i : Nat} {oi : Oper} {a : Act} {w wS : World} {K : Act → World → Prop} (hi : ops[i]? = some oi) (hd : oi.dst = none) (hgd : oi.guard = none) (ty : TypeId) (x y : Operand) (ho : oi.op = .store ty x y)
    (b off : Nat) (F : List Value) (hx : a.eval x = .pointer (some ⟨b, off, none⟩)) (hy : a.eval y = .agg F.toArray) (ht : w.there b off F.toArray.size) (hn : (P.info? ty).map (·.size) = some F.toArray.size) (h1 : F.toArray.all (·.oneCell') = true)
    (e : w.setCells b off F = wS) (h : K a wS) : wpOp P ops Q i K a w := by
  subst e
  exact op_store hi hd hgd ty x y ho b off F.toArray hx hy ht hn h1 h

theorem results_row_tmp {fn : Func} {p q : Tmp} {ty : TypeId} (h : fn.results = #[.cell p ty, .tmp q]) (tmps : Array Value) (w : World) (g : Nat) (t : TypeId) (cs : Array Value) (v : Value) (d : TypeDesc)
    (hp : tmps.getD p undef = .pointer (some ⟨g, 0, none⟩)) (hq : tmps.getD q undef = v) (hg : w.heap[g]? = some (.cells cs t (0, 0)))
    (hu : P.underlying ty = some d) (hd : (match d with | .struct _ | .array _ _ => true | _ => false) = true) (hi : (P.info? ty).map (·.size) = some cs.size) :
    (results fn tmps).run P w = .ok (.tuple #[.agg cs, v]) w := by
  have hp' : tmps[p]?.getD undef = .pointer (some ⟨g, 0, none⟩) := by simpa using hp
  have hq' : tmps[q]?.getD undef = v := by simpa using hq
  simp [results, h, hp', hq', asAddr, run_loadVar_row w g t ty cs (0, 0) d hg hu hd hi]

end

end Go.Proofs.YtihmddpafbackaaGreat

namespace Go.Proofs.YtihmddpafbackaaGreat

open Go.RowKit Go.Maps

set_option linter.unusedVariables false

section

variable {P : Program}

theorem wp_built {o : Oper} {a : Act} {w : World} {K : Act → World → Prop} {Q : Exit → Act → World → Prop} (t : TypeId) (parts : Array (Nat × Operand)) (ho : o.op = .build t parts) (cells : Array Value)
    (he : P.built t (parts.toList.map fun p => (p.1, a.eval p.2)) = some cells) (h : K (a.put o.dst (.agg cells)) w) : o.wp P a w K Q := by
  have e : (parts.map fun (i, x) => (i, a.eval x)).toList = parts.toList.map fun p => (p.1, a.eval p.2) := by rw [Array.toList_map]
  refine wp_build t parts ho (by rw [e, he]; rfl) ?_
  rw [e, he]
  exact h

theorem wpList_build_g {ops : Array Oper} {rest : List Oper} {o : Oper} {a : Act} {w : World} {Q : Exit → Act → World → Prop} (hw : Region.wanted o (yielded ops a.tmps) = true) (t : TypeId) (parts : Array (Nat × Operand)) (ho : o.op = .build t parts) (cells : Array Value)
    (he : P.built t (parts.toList.map fun p => (p.1, a.eval p.2)) = some cells) (h : wpList P ops Q rest (a.put o.dst (.agg cells)) w) : wpList P ops Q (o :: rest) a w :=
  wpList_step fun K hK => by rw [if_pos hw]; exact wp_built t parts ho cells he (hK _ _ h)

theorem exec_build {ev : Operand → Value} {o : Oper} (t : TypeId) (parts : Array (Nat × Operand)) (ho : o.op = .build t parts) (cells : Array Value) (he : P.built t (parts.toList.map fun p => (p.1, ev p.2)) = some cells) (w : World) :
    Sem.run P (execOp ev o) w = .ok (Next.value (.agg cells)) w := by
  have e : (parts.map fun (i, x) => (i, ev x)).toList = parts.toList.map fun p => (p.1, ev p.2) := by rw [Array.toList_map]
  unfold execOp
  simp only [ho, Sem.run_bind, run_build w t _ cells (by rw [e]; exact he), Result.andThen_ok]
  rfl

end

end Go.Proofs.YtihmddpafbackaaGreat

namespace Go.Proofs.YtihmddpafbackaaGreat

open Go.RowKit Go.Maps

set_option linter.unusedVariables false

section

variable {P : Program} {ops : Array Oper} {Q : Exit → Act → World → Prop}

theorem op_row {i d : Nat} {oi : Oper} {a : Act} {w : World} {K : Act → World → Prop} (hi : ops[i]? = some oi) (hd : oi.dst = some d) (hgd : oi.guard = none) (t : TypeId) (n : Nat) (parts : Array (Nat × Operand)) (ho : oi.op = .buildSlice t n parts)
    (v : Value) (w' : World) (hrun : (Instr.buildSlice t n (parts.map fun p => (p.1, a.eval p.2))).run P w = .ok v w') (h : K { a with tmps := a.tmps.setIfInBounds d v } w') : wpOp P ops Q i K a w := by
  refine wpOp_step hi (fun K' hK => ?_)
  have hw : Region.wanted oi (yielded ops a.tmps) = true := by unfold Region.wanted; rw [hgd]
  rw [if_pos hw]
  have he' : (Instr.buildSlice t n (parts.map fun (i, x) => (i, a.eval x))).run P w = .ok v w' := hrun
  unfold Oper.wp execOp
  simp only [ho, Sem.run_bind, he', Result.andThen_ok]
  refine hK _ _ ?_
  unfold Act.put
  rw [hd]
  exact h

theorem wpList_row {rest : List Oper} {o : Oper} {a : Act} {w : World} (hgd : o.guard = none) (t : TypeId) (n : Nat) (parts : Array (Nat × Operand)) (ho : o.op = .buildSlice t n parts)
    (v : Value) (w' : World) (hrun : (Instr.buildSlice t n (parts.map fun p => (p.1, a.eval p.2))).run P w = .ok v w') (h : wpList P ops Q rest (a.put o.dst v) w') : wpList P ops Q (o :: rest) a w := by
  refine wpList_plain hgd fun K hK => ?_
  have he' : (Instr.buildSlice t n (parts.map fun (i, x) => (i, a.eval x))).run P w = .ok v w' := hrun
  unfold Oper.wp execOp
  simp only [ho, Sem.run_bind, he', Result.andThen_ok]
  exact hK _ _ h

theorem wpList_app {rest : List Oper} {o : Oper} {a : Act} {w : World} (hgd : o.guard = none) (s x : Operand) (t1 t2 : TypeId) (ho : o.op = .call { callee := .builtin .append, args := #[s, x], argTypes := #[t1, t2] })
    (v u v' : Value) (w' : World) (hs : a.eval s = v) (hx : a.eval x = u) (hrun : (Builtin.append_ #[t1, t2] o.type #[v, u]).run P w = .ok v' w') (h : wpList P ops Q rest (a.put o.dst v') w') : wpList P ops Q (o :: rest) a w := by
  refine wpList_plain hgd fun K hK => ?_
  unfold Oper.wp execOp
  simp only [ho, resolve, invoke, builtin, Sem.run_bind, Sem.run_pure, Result.andThen_ok, List.map_toArray, List.map_cons, List.map_nil, hs, hx, hrun]
  exact hK _ _ h

end

end Go.Proofs.YtihmddpafbackaaGreat

namespace Go.Proofs.YtihmddpafbackaaGreat

open Go.RowKit Go.Maps

set_option linter.unusedVariables false

set_option linter.unusedSimpArgs false

section

variable {P : Program} {ops : Array Oper} {Q : Exit → Act → World → Prop} {md : Region.Mode} {S : World → Prop}

theorem anyH_two {i j : Nat} {fuel : Nat} {listed : Array Bool} {a : Act} {w : World} (hr : Region.ready md ops listed = [i, j])
    (h1 : wpOp P ops Q i (fun a' w' => S w' ∧ wpAnyH P md ops Q S fuel (listed.setIfInBounds i true) a' w') a w) (h2 : wpOp P ops Q j (fun a' w' => S w' ∧ wpAnyH P md ops Q S fuel (listed.setIfInBounds j true) a' w') a w) : wpAnyH P md ops Q S (fuel + 1) listed a w :=
  wpAnyH_all hr (by simp) (fun k hk => by
    simp at hk
    rcases hk with rfl | rfl
    · exact h1
    · exact h2)

theorem op_append {i : Nat} {oi : Oper} {a : Act} {w : World} {K : Act → World → Prop} {d : Nat} (hi : ops[i]? = some oi) (hd : oi.dst = some d) (hgd : oi.guard = none) (s x : Operand) (t1 t2 : TypeId)
    (ho : oi.op = .call { callee := .builtin .append, args := #[s, x], argTypes := #[t1, t2] }) (v u v' : Value) (w' : World) (hs : a.eval s = v) (hx : a.eval x = u) (hrun : (Builtin.append_ #[t1, t2] oi.type #[v, u]).run P w = .ok v' w')
    (h : K { a with tmps := a.tmps.setIfInBounds d v' } w') : wpOp P ops Q i K a w := by
  refine wpOp_step hi (fun K' hK => ?_)
  have hw : Region.wanted oi (yielded ops a.tmps) = true := by unfold Region.wanted; rw [hgd]
  rw [if_pos hw]
  unfold Oper.wp execOp
  simp only [ho, resolve, invoke, builtin, Sem.run_bind, Sem.run_pure, Result.andThen_ok, List.map_toArray, List.map_cons, List.map_nil, hs, hx, hrun]
  refine hK _ _ ?_
  unfold Act.put
  rw [hd]
  exact h

end

theorem row1 (w : World) (x : Int) : (Instr.buildSlice 23 1 #[(0, Value.int .i64 x)]).run Tryz.prog w = .ok (.slice (some ⟨w.heap.size, 0, none⟩) 1 1) (w.alloc (.cells #[.int .i64 x] 3)) := by
  go_simp
  try rfl

theorem results_row {P : Program} {fn : Func} {p : Tmp} {ty : TypeId} (h : fn.results = #[.cell p ty]) (tmps : Array Value) (w : World) (g : Nat) (t : TypeId) (cs : Array Value) (d : TypeDesc)
    (hp : tmps.getD p undef = .pointer (some ⟨g, 0, none⟩)) (hg : w.heap[g]? = some (.cells cs t (0, 0)))
    (hu : P.underlying ty = some d) (hd : (match d with | .struct _ | .array _ _ => true | _ => false) = true) (hi : (P.info? ty).map (·.size) = some cs.size) :
    (results fn tmps).run P w = .ok (.agg cs) w := by
  have hp' : tmps[p]?.getD undef = .pointer (some ⟨g, 0, none⟩) := by simpa using hp
  simp [results, h, hp', asAddr, run_loadVar_row w g t ty cs (0, 0) d hg hu hd hi]

theorem wish_size : (Tryz.prog.info? 25).map (·.size) = some 10 := by kernel_rfl

theorem grown_out {w w' : World} {row : Option Nat} (h : w.grownBy w' row) : Out (fun i => row = some i) w w' := ⟨h.os, h.tape, h.output, h.size, fun i hi hn => h.block i hi fun e => hn e.symm⟩

theorem cells_out (vs : List Value) : ∀ (w : World) (b o : Nat), Out (fun i => i = b) w (w.setCells b o vs) := by
  induction vs with
  | nil => intro w b o; exact Out.refl _ _
  | cons v vs ih =>
    intro w b o
    rw [World.setCells]
    exact ((Out.refl (fun i => i = b) w).setCell (p := ⟨b, o, none⟩) (fun _ => rfl) v).trans (ih _ _ _) (fun _ _ e => e)

theorem int_u8 : 3 ≠ 5 := by decide

theorem wish_u8 : 25 ≠ 5 := by decide

theorem wish_int : 25 ≠ 3 := by decide

/-- Behind the call that read the number: the row of one, the append, and the store. -/
theorem app_step {t : TypeId} {B0 g bx bn k c : Nat} {q : Rd} {a w1 : World} {A : Option Addr} {l : List Int} {cs : List Value} {x : Int} (ht : t ≠ 5) (hR : RdA t B0 w1 g q) (hB : Blk w1 bx 25 cs) (hcs : cs.length = 10) (hN : OwnI w1 bn (.slice A k c) l)
    (hk : l.length = k) (hk7 : k ≤ 1000) (hO : Out (fun i => i = g ∨ i = bx) a w1) (ha : a.heap.size ≤ bn) (hbx : bx < bn) (hg : g < bn) (hgx : g ≠ bx) (hB0 : B0 ≤ bx) (hw1 : bn ≤ w1.heap.size) :
    ∃ A' c' w3, (Builtin.append_ #[23, 23] 23 #[.slice A k c, .slice (some ⟨w1.heap.size, 0, none⟩) 1 1]).run Tryz.prog (w1.alloc (.cells #[.int .i64 x] 3)) = .ok (.slice A' (k + 1) c') w3 ∧
      (w1.alloc (.cells #[.int .i64 x] 3)).cell? ⟨bx, 9, none⟩ = cs[9]? ∧ w3.cell? ⟨bx, 9, none⟩ = cs[9]? ∧ w3.frozen? ⟨bx, 9, none⟩ = false ∧
      (RdA t B0 (w3.setCell ⟨bx, 9, none⟩ (.slice A' (k + 1) c')) g q ∧ Blk (w3.setCell ⟨bx, 9, none⟩ (.slice A' (k + 1) c')) bx 25 (cs.set 9 (.slice A' (k + 1) c')) ∧
        OwnI (w3.setCell ⟨bx, 9, none⟩ (.slice A' (k + 1) c')) bn (.slice A' (k + 1) c') (l ++ [x]) ∧ Out (fun i => i = g ∨ i = bx) a (w3.setCell ⟨bx, 9, none⟩ (.slice A' (k + 1) c')) ∧ bn ≤ (w3.setCell ⟨bx, 9, none⟩ (.slice A' (k + 1) c')).heap.size) := by
  have hal : Below w1.heap.size w1 (w1.alloc (.cells #[.int .i64 x] 3)) := (Below.refl _ _).alloc (Nat.le_refl _) _
  have hN2 : OwnI (w1.alloc (.cells #[.int .i64 x] 3)) bn (.slice A k c) l := own_out hN (Out.ofBelow (fun _ => False) hal) (fun _ _ e => e)
  obtain ⟨v', w3, hap, hO3, hg3, _⟩ := run_appendI (w1.alloc (.cells #[.int .i64 x] 3)) bn (.slice A k c) l hN2 (some ⟨w1.heap.size, 0, none⟩) 1 1 [x] (is_new w1 [x]) rfl (by omega) (by simp; omega) 23
  obtain ⟨A', c', e', _⟩ := hO3.form
  have hl : (l ++ [x]).length = k + 1 := by simp [hk]
  rw [hl] at e'
  subst e'
  have hR2 := hR.bel hal
  have hB2 := hB.below hal hB.lt
  have hgo := grown_out hg3
  have own : ∀ i, (Value.slice A k c).ownBlock = some i → bn ≤ i ∧ Nu B0 (w1.alloc (.cells #[.int .i64 x] 3)) i := fun i hi => ⟨(World.ownsRow.lt hN2 i hi).1, Nu.own hN2 (by omega) int_u8 i hi⟩
  have hR3 : RdA t B0 w3 g q := hR2.out hgo (fun e => by have := (own _ e).1; omega) (fun i _ e => (own i e).2)
  have hB3 : Blk w3 bx 25 cs := hgo.blk hB2 (fun e => by have := (own _ e).1; omega)
  have c9 : cs[9]? = some (cs[9]'(by omega)) := List.getElem?_eq_getElem (by omega)
  have hst : Out (fun i => i = bx) w3 (w3.setCell ⟨bx, 9, none⟩ (.slice A' (k + 1) c')) := (Out.refl (fun i => i = bx) w3).setCell (p := ⟨bx, 9, none⟩) (fun _ => rfl) _
  refine ⟨A', c', w3, hap, by rw [c9]; exact hB2.cell c9, by rw [c9]; exact hB3.cell c9, hB3.free 9, hR3.out hst hgx (fun i _ e => by subst e; exact Nu.blk hB3 hB0 wish_u8), hB3.set_ 9 _, ?_, ?_, ?_⟩
  · refine own_out hO3 hst (fun i hi e => ?_)
    have := (World.ownsRow.lt hO3 i hi).1
    omega
  · have h1 : Out (fun i => i = g ∨ i = bx) a w3 := ((hO.then_below hal).trans hgo (fun i hi e => by have := (own i e).1; omega))
    exact h1.trans hst (fun i _ e => .inr e)
  · have := hg3.size
    simp [World.setCell] at this ⊢
    omega

end Go.Proofs.YtihmddpafbackaaGreat
