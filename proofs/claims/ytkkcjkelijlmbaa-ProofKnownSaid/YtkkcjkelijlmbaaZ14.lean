/-
  Laid together for a hand-in: Md10, Fi10, Wk10, Ws10.
-/
import Derived.Test.YtkkcjkelijlmbaaZ12
import Derived.Test.YtkkcjkelijlmbaaZ13
import Derived.Deep.RegionHeld3
import Derived.Deep.RegionWith
import Derived.Deep.DeepCutAuto

namespace Go.Proofs.Ytkkcjkelijlmbaa

open Go.RowKit Go.Maps

set_option linter.unusedVariables false

/-- What 'x[:min(len(x), K)]' leaves of a slice that shows bytes. -/
theorem cutT {w : World} {A : Option Addr} {c : Nat} {l : List UInt8} (N : Nat) (K : Int) (hK : K = (N : Int)) (h2 : l.length ≤ c) (h3 : c ≤ maxLen) (h4 : Bs w A l) : ∃ m, (l.take N).length = m ∧ m ≤ N ∧ m ≤ c ∧ Bs w A (l.take N) ∧
    (∀ ts t w, (Builtin.min_ ts t #[.int .i64 (l.length : Int), .int .i64 K]).run Try.prog w = .ok (.int .i64 (m : Int)) w) ∧
    (∀ w, (Instr.sliceAt 28 (.slice A l.length c) none (some (.int .i64 (m : Int))) none).run Try.prog w = .ok (.slice A m c) w) := by
  subst hK
  have e : l.take N = l.take (min l.length N) := by
    by_cases h : l.length ≤ N
    · rw [List.take_of_length_le h, List.take_of_length_le (by omega)]
    · rw [show min l.length N = N by omega]
  rw [e]
  refine ⟨min l.length N, by rw [List.length_take]; omega, by omega, by omega, h4.front (by omega), fun ts t w => ?_, fun w => ?_⟩
  · rw [run_min_int2]
    congr 2
    split <;> omega
  · have h1 : ((min l.length N : Nat) : Int) ≤ c := by omega
    generalize min l.length N = m at *
    go_simp

/-- The leaves as they are made. -/
def cut40 (ls : List (List UInt8)) : List (List UInt8) := (ls.take 40).map fun x => x.take 100

theorem cut40_len (ls : List (List UInt8)) : (cut40 ls).length = min 40 ls.length := by simp [cut40]

theorem cut40_sm (ls : List (List UInt8)) : ∀ x ∈ cut40 ls, x.length ≤ 100 := fun x hx => by
  unfold cut40 at hx
  obtain ⟨y, _, rfl⟩ := List.mem_map.1 hx
  rw [List.length_take]; omega

theorem cut40_get (ls : List (List UInt8)) (i : Nat) (hi : i < 40) (hl : i < ls.length) : (cut40 ls)[i]? = some (ls[i].take 100) := by
  unfold cut40
  rw [List.getElem?_map, List.getElem?_take_of_lt hi, List.getElem?_eq_getElem hl]; rfl

/-- A tree of the leaves cur and its book, while a statement goes on from w0. -/
structure Tb (w0 : World) (B g bm t m : Nat) (M N : Nat → Prop) (bnd : Nat) (cur : List (List UInt8)) (s0 s : Bk) (w : World) : Prop where
  tree : TreeAt w M t g (lows cur)
  kb : Kb B w g bm s (fun i => N i ∨ M i)
  out : Out (Tn B bm w0 N) w0 w
  ge : ∀ i, M i → w0.heap.size ≤ i
  len : cur.length = m
  has : Has cur s
  good : Unmixed s0 → Unmixed s
  b1 : s.1.length ≤ bnd
  b2 : s.2.2 ≤ bnd
  hB : B ≤ w0.heap.size

section

variable {w0 w w' : World} {B g bm t m bnd : Nat} {M N : Nat → Prop} {cur : List (List UInt8)} {s0 s : Bk}

theorem Tb.below (h : Tb w0 B g bm t m M N bnd cur s0 s w) (hb : Below w.heap.size w w') : Tb w0 B g bm t m M N bnd cur s0 s w' :=
  ⟨h.tree.below hb, h.kb.below hb, h.out.then_below hb, h.ge, h.len, h.has, h.good, h.b1, h.b2, h.hB⟩

theorem Tb.more {b' : Nat} (h : Tb w0 B g bm t m M N bnd cur s0 s w) (hb : bnd ≤ b') : Tb w0 B g bm t m M N b' cur s0 s w :=
  ⟨h.tree, h.kb, h.out, h.ge, h.len, h.has, h.good, Nat.le_trans h.b1 hb, Nat.le_trans h.b2 hb, h.hB⟩

theorem Tb.m1 (h : Tb w0 B g bm t m M N bnd cur s0 s w) : 1 ≤ m ∧ m ≤ 1024 := by
  have h1 := h.tree.l1
  have h2 := h.tree.l2
  rw [lows_len, h.len] at h1 h2
  exact ⟨h1, h2⟩

/-- The book goes on: from a call that leaves all of N and M. -/
theorem Tb.ask {s' : Bk} {ins : List (List UInt8)} {b' : Nat} (h : Tb w0 B g bm t m M N bnd cur s0 s w) (hk : Kb B w' g bm s' (fun i => N i ∨ M i)) (hO : Out (Tn B bm w (fun i => N i ∨ M i)) w w') (hs : s' = noteAll s ins) (hl : bnd + ins.length ≤ b') : Tb w0 B g bm t m M N b' cur s0 s' w' := by
  subst hs
  have h3 := noteAll_len s ins
  have h1 := h.b1
  have h2 := h.b2
  exact ⟨h.tree.out hO fun i hi => Tn.keep (.inr hi), hk, h.out.tn hO fun i _ hn => .inl hn, h.ge, h.len, h.has.more ins, fun h' => noteAll_good _ _ (h.good h'), by omega, by omega, h.hB⟩

theorem Tb.set (h : Tb w0 B g bm t m M N bnd cur s0 s w) (hb : bnd ≤ 900000) (i : Nat) (hi : i < m) (A : Option Addr) (nx cp : Nat) (x : List UInt8) (hBx : Bs w A x) (hnx : x.length = nx) (hcx : nx ≤ cp) (hcm : cp ≤ maxLen) (hx : nx ≤ 65535) :
    Calls Try.prog 15 #[.pointer (some ⟨t, 0, none⟩), .int .i64 (i : Int), .slice A nx cp] w fun e w' =>
      e = .returned (.int .i64 0) ∧ Tb w0 B g bm t m M N (bnd + 8) (cur.set i x) s0 (noteAll s (setIns (lows cur) i x (dep cur.length - 1))) w' := by
  have hb1 := h.b1
  have hb2 := h.b2
  have hl := h.len
  have hll : (lows cur).length = cur.length := lows_len cur
  have hm := h.m1
  refine (tset_any B bm s _ h.tree h.kb (Nat.le_trans h.hB h.out.size) (fun j hj => .inr hj) (by omega) (by omega) i (by omega) A nx cp x hBx hnx hcx hcm hx).mono ?_
  rintro e w' ⟨rfl, hT, hK, hO⟩
  rw [hll] at hK
  rw [lowSet_lows] at hT
  have h3 := noteAll_len s (setIns (lows cur) i x (dep cur.length - 1))
  have h4 := setIns_len (lows cur) i x (dep cur.length - 1)
  have h5 : dep cur.length ≤ 6 := dep_le (by omega)
  have h6 := dep_pos cur.length
  refine ⟨rfl, hT, hK, h.out.trans hO fun j hj hs => ?_, h.ge, by rw [List.length_set]; exact hl, h.has.set i (by omega) x, fun h' => noteAll_good _ _ (h.good h'), by omega, by omega, h.hB⟩
  rcases hs with hs | hs
  · by_cases ht : Tn B bm w0 N j
    · exact ht
    · refine ⟨hs.1, fun e => hs.2.1 (.inl e), ?_⟩
      rcases hs.2.2 with e | ⟨cs, ty, fr, hc⟩
      · exact .inl e
      · exact .inr ⟨cs, ty, fr, (h.out.block j hj ht).symm.trans hc⟩
  · have := h.ge j hs; omega

end

/-- What made answers of some leaves. -/
def MadeP (B g bm : Nat) (s : Bk) (N : Nat → Prop) (b : Nat) (xs : List (List UInt8)) (w : World) (e : Ending) (w' : World) : Prop :=
  ∃ t M s', e = .returned (.pointer (some ⟨t, 0, none⟩)) ∧ Tb w B g bm t xs.length M N (b + 6500) xs s s' w'

theorem cur_done (xs cur : List (List UInt8)) (h : cur.length = xs.length) (he : ∀ j, j < xs.length → cur[j]? = xs[j]?) : cur = xs := by
  apply List.ext_getElem?
  intro j
  by_cases hj : j < xs.length
  · exact he j hj
  · rw [List.getElem?_eq_none (by omega), List.getElem?_eq_none (by omega)]

set_option maxRecDepth 100000 in
set_option maxHeartbeats 3200000 in
theorem made_none (v : Value) (A : Option Addr) (c : Nat) (w : World) : Calls Try.prog 5 #[v, .slice A 0 c] w fun e w' => e = .returned (.pointer none) ∧ w' = w := by
  have hmin0 : ∀ ts t w, (Builtin.min_ ts t #[.int .i64 ((0 : Nat) : Int), .int .i64 40]).run Try.prog w = .ok (.int .i64 0) w := fun ts t w => by
    rw [run_min_int2]; rfl
  have hmin : ∀ ts t w, (Builtin.min_ ts t #[.int .i64 0, .int .i64 40]).run Try.prog w = .ok (.int .i64 0) w := fun ts t w => by
    rw [run_min_int2]; rfl
  go_enter Try.func5, Try.ntmps5
  go_wp2_with (go_at_call 14; refine (tnew_bad9 _ _ _ (by decide)).mono ?_; rintro e wx ⟨rfl, rfl⟩)
  go_ret
  exact ⟨rfl, rfl⟩

set_option maxRecDepth 100000 in
set_option maxHeartbeats 3200000 in
theorem made_any (B g bm : Nat) (s : Bk) (N : Nat → Prop) (b : Nat) (w : World) (hk : Kb B w g bm s N) (hB : B ≤ w.heap.size) (hb : b ≤ 800000) (hb1 : s.1.length ≤ b) (hb2 : s.2.2 ≤ b) (K : Nat → Prop) (A : Option Addr) (n c : Nat) (ls : List (List UInt8)) (hl : LvsAt w K A ls) (hn : ls.length = n) (h1 : 1 ≤ n) (hnm : n ≤ maxLen) (hK : ∀ j, K j → j < w.heap.size ∧ (j < B ∨ N j)) :
    Calls Try.prog 5 #[.pointer (some ⟨g, 0, none⟩), .slice A n c] w (MadeP B g bm s N b (cut40 ls) w) := by
  obtain ⟨m, hm⟩ : ∃ m, min n 40 = m := ⟨_, rfl⟩
  have hmin : ∀ ts t w, (Builtin.min_ ts t #[.int .i64 (n : Int), .int .i64 40]).run Try.prog w = .ok (.int .i64 (m : Int)) w := fun ts t w => by
    rw [run_min_int2]; congr 2; split <;> omega
  have hm1 : 1 ≤ m := by omega
  have hm2 : m ≤ 40 := by omega
  have hmn : m ≤ n := by omega
  have Hn := Lib.hid (tnew_any B g bm s m N w hk hB (by omega) (by omega) hm1 (by omega))
  have hlen : (cut40 ls).length = m := by rw [cut40_len]; omega
  have Hx := Lib.hid (And.intro hlen (And.intro hl (And.intro hn hK)))
  have H0 := Lib.hid (And.intro hk (And.intro hB (And.intro hb (And.intro hb1 hb2))))
  clear hk hB hb hb1 hb2 hl hn h1 hnm hK hm hlen
  go_enter Try.func5, Try.ntmps5
  go_wp2_with fail
  refine Hn.out.mono ?_
  rintro e w2 ⟨t, M, rfl, hT, hM, hk2, hO2⟩
  obtain ⟨hk, hB, hb, hb1, hb2⟩ := H0.out
  have hbnd := new_bound m hm1 (by omega) s
  have hS0 : Tb w B g bm t m M N (b + 6144) (empties m) s (noteAll s (insTo (empties m) (dep m - 1))) w2 :=
    ⟨hT, hk2, hO2, hM, empties_len m, by have := has_new (empties m) s; rw [empties_len] at this; exact this, fun h' => noteAll_good _ _ h', by omega, by omega, hB⟩
  have HS0 := Lib.hid hS0
  have Hb := Lib.hid hb
  clear hT hM hk2 hO2 hk hB hb hb1 hb2 hbnd hS0 Hn
  go_wp2
  go_loopw [8] (fun iv wr => ∃ (i : Nat) (cur : List (List UInt8)) (sk : Bk), i ≤ m ∧ iv = .int .i64 (i : Int) ∧ Tb w B g bm t m M N (b + 6144 + 8 * i) cur s sk wr ∧ ∀ j, j < i → cur[j]? = (cut40 ls)[j]?) (fun iv _ => m - (intOf iv).toNat)
  case atStart => exact ⟨0, _, _, Nat.zero_le _, rfl, HS0.out, fun j hj => by omega⟩
  case round =>
    obtain ⟨i, cur, sk, hi, rfl, hS, hC⟩ := hrel
    obtain ⟨hlen, hl, hn, hK⟩ := Hx.out
    have hb := Hb.out
    by_cases hin : i < m
    · have hst : ∀ w', Out (Tn B bm w N) w w' → Stays K w w' := fun w' hO => (Stays.refl K w).out (fun j hj => ⟨(hK j hj).1, fun e => by
        rcases (hK j hj).2 with h | h
        · exact Tn.low h e
        · exact Tn.keep h e⟩) hO
      have hil : i < ls.length := by omega
      obtain ⟨lb, off, rfl, hkb, hcc⟩ := hl
      obtain ⟨AB, cB, g1, g2, g3, g4, g5⟩ := hcc i hil
      have hgx := cut40_get ls i (by omega) hil
      obtain ⟨nj, hnj⟩ : ∃ n, (ls[i]).length = n := ⟨_, rfl⟩
      obtain ⟨m1, q1, q2, q3, q4, hmin2, hsl⟩ := cutT 100 100 rfl g2 g3 g4
      rw [hnj] at g1 hmin2 hsl
      obtain ⟨x, hx⟩ : ∃ x, (ls[i]).take 100 = x := ⟨_, rfl⟩
      rw [hx] at q1 q4 hgx
      have Hset := Lib.hid ((hS.below (Below.refl _ _).drew).set (by omega) i hin AB m1 cB x (q4.stays (hst _ ((hS.below (Below.refl _ _).drew).out)) (fun a e hne => g5 a e fun e2 => hne (by rw [← hx, e2]; rfl))) q1 q3 g3 (by omega))
      have Hcc := Lib.hid (show ∀ w', Out (Tn B bm w N) w w' → w'.cell? ⟨lb, off + i, none⟩ = some (.slice AB nj cB) from fun w' hO => (World.cell?_of_block ((hst w' hO).2 lb hkb)).trans g1)
      have HC := Lib.hid (And.intro hC (And.intro hgx (And.intro hS.len hlen)))
      have HS := Lib.hid hS
      have i0 : (0 : Int) ≤ (i : Int) := by omega
      have i1 : (i : Int) < (n : Int) := by omega
      have i2 : (i : Int) < (m : Int) := by omega
      clear hlen hn hK hcc g1 g2 g3 g4 g5 q1 q2 q3 q4 hgx hnj hx hst hS hC hkb hil
      go_wp2
      have Q0 : wr.drew.cell? ⟨lb, off + i, none⟩ = some (.slice AB nj cB) := Hcc.out _ ((HS.out.below (Below.refl _ _).drew).out)
      refine wp_region_held_drew (S := fun W' => W'.cell? ⟨lb, off + i, none⟩ = some (.slice AB nj cB)) (by kernel_rfl) Q0 (fun _ => ?_)
      refine anyH_take (i := 0) (d := 25) (v := ?v0) rfl rfl (by kernel_rfl) (by kernel_rfl) (by kernel_rfl) (fun _ _ _ h => h) (Or.inl ⟨by rfl, ?vy0⟩) Q0 ?vr0
      case vy0 => (intro w; go_simp; try with_reducible rfl)
      simp only [List.setIfInBounds_toArray, List.set_cons_zero, List.set_cons_succ]
      refine anyH_take (i := 1) (d := 26) (v := ?v1) rfl rfl (by kernel_rfl) (by kernel_rfl) (by kernel_rfl) (fun _ _ _ h => h) (Or.inl ⟨by rfl, ?vy1⟩) Q0 ?vr1
      case vy1 => (intro w; go_simp; try with_reducible rfl)
      simp only [List.setIfInBounds_toArray, List.set_cons_zero, List.set_cons_succ]
      refine anyH_take (i := 2) (d := 27) (v := ?v2) rfl rfl (by kernel_rfl) (by kernel_rfl) (by kernel_rfl) (fun _ _ _ h => h) (Or.inl ⟨by rfl, ?vy2⟩) Q0 ?vr2
      case vy2 => (intro w; go_simp; try with_reducible rfl)
      simp only [List.setIfInBounds_toArray, List.set_cons_zero, List.set_cons_succ]
      refine anyH_take (i := 3) (d := 28) (v := ?v3) rfl rfl (by kernel_rfl) (by kernel_rfl) (by kernel_rfl) (fun _ _ _ h => h) (Or.inl ⟨by rfl, ?vy3⟩) Q0 ?vr3
      case vy3 => (intro w; go_simp; try with_reducible rfl)
      simp only [List.setIfInBounds_toArray, List.set_cons_zero, List.set_cons_succ]
      refine anyH_take (i := 4) (d := 29) (v := ?v4) rfl rfl (by kernel_rfl) (by kernel_rfl) (by kernel_rfl) (fun _ _ _ h => h) (Or.inl ⟨by rfl, ?vy4⟩) Q0 ?vr4
      case vy4 => (intro w; go_simp; try with_reducible rfl)
      simp only [List.setIfInBounds_toArray, List.set_cons_zero, List.set_cons_succ]
      refine wpAnyH_take' (i := 5) (d := 30) (v := ?v5) rfl rfl (by kernel_rfl) (by kernel_rfl) (by kernel_rfl) (fun _ _ _ h => h) (Or.inl ⟨by rfl, ?vy5⟩) Q0 ?vr5
      case vy5 => (intro w hSw; go_split_ands; go_simp; try with_reducible rfl)
      simp only [List.setIfInBounds_toArray, List.set_cons_zero, List.set_cons_succ]
      refine anyH_take (i := 6) (d := 31) (v := ?v6) rfl rfl (by kernel_rfl) (by kernel_rfl) (by kernel_rfl) (fun _ _ _ h => h) (Or.inl ⟨by rfl, ?vy6⟩) Q0 ?vr6
      case vy6 => (intro w; go_simp; try with_reducible rfl)
      simp only [List.setIfInBounds_toArray, List.set_cons_zero, List.set_cons_succ]
      refine anyH_take (i := 7) (d := 32) (v := ?v7) rfl rfl (by kernel_rfl) (by kernel_rfl) (by kernel_rfl) (fun _ _ _ h => h) (Or.inl ⟨by rfl, ?vy7⟩) Q0 ?vr7
      case vy7 => (intro w; go_simp; try with_reducible rfl)
      simp only [List.setIfInBounds_toArray, List.set_cons_zero, List.set_cons_succ]
      refine anyH_take (i := 8) (d := 33) (v := ?v8) rfl rfl (by kernel_rfl) (by kernel_rfl) (by kernel_rfl) (fun _ _ _ h => h) (Or.inl ⟨by rfl, ?vy8⟩) Q0 ?vr8
      case vy8 => (intro w; go_simp; try with_reducible rfl)
      simp only [List.setIfInBounds_toArray, List.set_cons_zero, List.set_cons_succ]
      refine wpAnyH_take' (i := 9) (d := 34) (v := ?v9) rfl rfl (by kernel_rfl) (by kernel_rfl) (by kernel_rfl) (fun _ _ _ h => h) (Or.inl ⟨by rfl, ?vy9⟩) Q0 ?vr9
      case vy9 => (intro w hSw; go_split_ands; go_simp; try with_reducible rfl)
      simp only [List.setIfInBounds_toArray, List.set_cons_zero, List.set_cons_succ]
      refine anyH_take (i := 10) (d := 35) (v := ?v10) rfl rfl (by kernel_rfl) (by kernel_rfl) (by kernel_rfl) (fun _ _ _ h => h) (Or.inl ⟨by rfl, ?vy10⟩) Q0 ?vr10
      case vy10 => (intro w; go_simp; try with_reducible rfl)
      simp only [List.setIfInBounds_toArray, List.set_cons_zero, List.set_cons_succ]
      refine anyH_take (i := 11) (d := 36) (v := ?v11) rfl rfl (by kernel_rfl) (by kernel_rfl) (by kernel_rfl) (fun _ _ _ h => h) (Or.inl ⟨by rfl, ?vy11⟩) Q0 ?vr11
      case vy11 => (intro w; go_simp; try with_reducible rfl)
      simp only [List.setIfInBounds_toArray, List.set_cons_zero, List.set_cons_succ]
      refine anyH_take (i := 12) (d := 37) (v := ?v12) rfl rfl (by kernel_rfl) (by kernel_rfl) (by kernel_rfl) (fun _ _ _ h => h) (Or.inl ⟨by rfl, ?vy12⟩) Q0 ?vr12
      case vy12 => (intro w; go_simp; try with_reducible rfl)
      simp only [List.setIfInBounds_toArray, List.set_cons_zero, List.set_cons_succ]
      refine anyH_one (i := 13) (by kernel_rfl) ?_
      refine wpOp_step rfl (fun K hK => ?_)
      go_simp
      refine Hset.out.mono ?_
      rintro e wb ⟨rfl, hS2⟩
      have HS2 := Lib.hid hS2
      clear hS2 Hset
      refine hK _ _ ⟨(Hcc.out _ HS2.out.out), ?_⟩
      clear hK K
      refine anyH_take (i := 14) (d := 39) (v := ?v14) rfl rfl (by kernel_rfl) (by kernel_rfl) (by kernel_rfl) (fun _ _ _ h => h) (Or.inl ⟨by rfl, ?vy14⟩) (Hcc.out _ HS2.out.out) ?vr14
      case vy14 => (intro w; go_simp; try with_reducible rfl)
      simp only [List.setIfInBounds_toArray, List.set_cons_zero, List.set_cons_succ]
      refine wpAnyH_done (by kernel_rfl) ?_ _
      go_wp2
      go_roundw
      case rel =>
        obtain ⟨hC, hgx, hcl, hlen⟩ := HC.out
        refine ⟨i + 1, _, _, by omega, by go_num, HS2.out.more (by omega), fun j hj => ?_⟩
        by_cases e : i = j
        · subst e
          rw [List.getElem?_set_self (by omega), hgx]
        · rw [List.getElem?_set_ne e]
          exact hC j (by omega)
      case measure => simp [intOf]; omega
    · obtain rfl : i = m := by omega
      have e1 : cur = cut40 ls := cur_done _ _ (by rw [hS.len, hlen]) (fun j hj => hC j (by omega))
      subst e1
      have i2 : ¬ ((i : Int) < (i : Int)) := by omega
      have HS := Lib.hid (hS.more (b' := b + 6500) (by omega))
      have Hl := Lib.hid hlen
      clear hlen hl hn hK hS hC
      go_wp2
      go_ret
      exact ⟨t, M, sk, rfl, by rw [Hl.out]; exact HS.out⟩

end Go.Proofs.Ytkkcjkelijlmbaa

namespace Go.Proofs.Ytkkcjkelijlmbaa

open Go.RowKit Go.Maps

set_option linter.unusedVariables false

/-- The call ends with c, and w' is behind a world of Q. -/
def FitsP (Q : World → Prop) (c : Int) (e : Ending) (w' : World) : Prop := e = .returned (.int .i64 c) ∧ ∃ w1, Q w1 ∧ Below w1.heap.size w1 w'

set_option maxRecDepth 100000 in
set_option maxHeartbeats 1600000 in
theorem fits_go (v : Value) (A : Option Addr) (m cp : Nat) (d dd : Dg) (hd : d.length = 32) (hdd : dd.length = 32) (Q : World → Prop) (w : World) (hQ : ∀ w1, Q w1 → Blk w1 w.heap.size 30 (cbs d))
    (hin : Calls Try.prog 25 #[v, .slice A m cp] (w.alloc (.cells (cbs d).toArray 30)) fun e w1 => e = .returned (.tuple #[.agg (cbs dd).toArray, .int .i64 0]) ∧ Q w1) :
    Calls Try.prog 11 #[v, .agg (cbs d).toArray, .slice A m cp] w (FitsP Q (if dd = d then 0 else 100)) := by
  obtain ⟨R, hR⟩ : ∃ R, cbs d = R := ⟨_, rfl⟩
  have hR32 : R.length = 32 := by rw [← hR, cbs_length, hd]
  obtain ⟨D, hD⟩ : ∃ D, cbs dd = D := ⟨_, rfl⟩
  have hD32 : D.length = 32 := by rw [← hD, cbs_length, hdd]
  have hD1 : D.toArray.all (·.oneCell') = true := by rw [← hD]; exact cbs_one' _
  obtain ⟨E, hE⟩ : ∃ E : Int, (if dd = d then (0 : Int) else 100) = E := ⟨_, rfl⟩
  have hsm := fun w => psame_any dd d hdd hd w
  rw [hE, hR, hD] at hsm
  rw [hD, hR] at hin
  rw [hR] at hQ ⊢
  rw [hE]
  have Hin := Lib.hid hin
  have Hsm := Lib.hid hsm
  have HD := Lib.hid (And.intro hD32 (And.intro hD1 (And.intro hR32 hQ)))
  clear hin hsm hD32 hD1 hR32 hR hD hE hQ hd hdd
  go_enter Try.func11, Try.ntmps11
  go_wp2_with fail
  refine Hin.out.mono ?_
  rintro e w1 ⟨rfl, hq1⟩
  obtain ⟨wS, hwS, ⟨hth, hiS⟩, hbS, hbel, hszS⟩ := dig_local w1 D HD.out.1
  have hr := HD.out.2.2.2 w1 hq1
  have hDi : (Try.prog.info? 30).map (·.size) = some D.length := by rw [HD.out.1]; exact info32b
  have hRi : (Try.prog.info? 30).map (·.size) = some R.length := by rw [HD.out.2.2.1]; exact info32b
  have hrS := (hr.below hbel hr.lt).range
  have Hs := Lib.hid (And.intro hth (And.intro hiS (And.intro HD.out.2.1 (And.intro hbS.range (And.intro hrS (And.intro hDi hRi))))))
  have HwS := Lib.hid hwS
  have H1 := Lib.hid (And.intro hq1 hbel)
  clear hwS hth hiS hbS hbel hszS hr hrS hDi hRi hq1 Hin
  go_wp2_with (first
    | (refine wpList_store_mid rfl 30 _ _ rfl w1.heap.size 0 D.toArray rfl rfl Hs.out.1 Hs.out.2.1 Hs.out.2.2.1 ?_; simp only [Act.put]; refine cast (congrArg (fun z => wpList _ _ _ _ _ z) HwS.out.symm) ?_)
    | (refine load_mid_g (by rfl) 30 _ rfl w1.heap.size 0 rfl D _ Hs.out.2.2.2.1 Try.underlying30 rfl Hs.out.2.2.2.2.2.1 ?_; simp only [Act.put])
    | (refine load_mid_g (by rfl) 30 _ rfl w.heap.size 0 rfl R _ Hs.out.2.2.2.2.1 Try.underlying30 rfl Hs.out.2.2.2.2.2.2 ?_; simp only [Act.put]))
  refine (Hsm.out _).mono ?_
  rintro e w5 ⟨rfl, hb5⟩
  have H5 := Lib.hid (H1.out.2.trans (hb5.mono H1.out.2.size))
  clear hb5
  go_wp2
  go_ret
  exact ⟨rfl, w1, H1.out.1, H5.out⟩

set_option maxRecDepth 100000 in
set_option maxHeartbeats 1600000 in
theorem fits_no (v : Value) (A : Option Addr) (m cp : Nat) (d : Dg) (c : Int) (hc : c ≠ 0) (Q : World → Prop) (w : World)
    (hin : Calls Try.prog 25 #[v, .slice A m cp] (w.alloc (.cells (cbs d).toArray 30)) fun e w1 => e = .returned (.tuple #[.agg (cbs (List.replicate 32 0)).toArray, .int .i64 c]) ∧ Q w1) :
    Calls Try.prog 11 #[v, .agg (cbs d).toArray, .slice A m cp] w (FitsP Q c) := by
  obtain ⟨R, hR⟩ : ∃ R, cbs d = R := ⟨_, rfl⟩
  obtain ⟨D, hD⟩ : ∃ D, cbs (List.replicate 32 0) = D := ⟨_, rfl⟩
  have hD32 : D.length = 32 := by rw [← hD, cbs_length]; rfl
  have hD1 : D.toArray.all (·.oneCell') = true := by rw [← hD]; exact cbs_one' _
  rw [hD, hR] at hin
  rw [hR]
  have Hin := Lib.hid hin
  have HD := Lib.hid (And.intro hD32 hD1)
  have hc2 : (c != 0) = true := by simp [hc]
  clear hin hD32 hD1 hR hD hc
  go_enter Try.func11, Try.ntmps11
  go_wp2_with fail
  refine Hin.out.mono ?_
  rintro e w1 ⟨rfl, hq1⟩
  obtain ⟨wS, hwS, ⟨hth, hiS⟩, hbS, hbel, hszS⟩ := dig_local w1 D HD.out.1
  have Hs := Lib.hid (And.intro hth (And.intro hiS HD.out.2))
  have HwS := Lib.hid hwS
  have H1 := Lib.hid (And.intro hq1 hbel)
  clear hwS hth hiS hbS hbel hszS hq1 Hin
  go_wp2_with (refine wpList_store_mid rfl 30 _ _ rfl w1.heap.size 0 D.toArray rfl rfl Hs.out.1 Hs.out.2.1 Hs.out.2.2 ?_; simp only [Act.put]; refine cast (congrArg (fun z => wpList _ _ _ _ _ z) HwS.out.symm) ?_)
  go_ret
  exact ⟨rfl, w1, H1.out.1, H1.out.2⟩

set_option maxRecDepth 100000 in
set_option maxHeartbeats 1600000 in
theorem leaffits_go (v : Value) (A : Option Addr) (m cp : Nat) (d dd : Dg) (hd : d.length = 32) (hdd : dd.length = 32) (Q : World → Prop) (w : World) (hQ : ∀ w1, Q w1 → Blk w1 w.heap.size 30 (cbs d))
    (hin : Calls Try.prog 23 #[v, .slice A m cp] (w.alloc (.cells (cbs d).toArray 30)) fun e w1 => e = .returned (.tuple #[.agg (cbs dd).toArray, .int .i64 0]) ∧ Q w1) :
    Calls Try.prog 12 #[v, .agg (cbs d).toArray, .slice A m cp] w (FitsP Q (if dd = d then 0 else 100)) := by
  obtain ⟨R, hR⟩ : ∃ R, cbs d = R := ⟨_, rfl⟩
  have hR32 : R.length = 32 := by rw [← hR, cbs_length, hd]
  obtain ⟨D, hD⟩ : ∃ D, cbs dd = D := ⟨_, rfl⟩
  have hD32 : D.length = 32 := by rw [← hD, cbs_length, hdd]
  have hD1 : D.toArray.all (·.oneCell') = true := by rw [← hD]; exact cbs_one' _
  obtain ⟨E, hE⟩ : ∃ E : Int, (if dd = d then (0 : Int) else 100) = E := ⟨_, rfl⟩
  have hsm := fun w => psame_any dd d hdd hd w
  rw [hE, hR, hD] at hsm
  rw [hD, hR] at hin
  rw [hR] at hQ ⊢
  rw [hE]
  have Hin := Lib.hid hin
  have Hsm := Lib.hid hsm
  have HD := Lib.hid (And.intro hD32 (And.intro hD1 (And.intro hR32 hQ)))
  clear hin hsm hD32 hD1 hR32 hR hD hE hQ hd hdd
  go_enter Try.func12, Try.ntmps12
  go_wp2_with fail
  refine Hin.out.mono ?_
  rintro e w1 ⟨rfl, hq1⟩
  obtain ⟨wS, hwS, ⟨hth, hiS⟩, hbS, hbel, hszS⟩ := dig_local w1 D HD.out.1
  have hr := HD.out.2.2.2 w1 hq1
  have hDi : (Try.prog.info? 30).map (·.size) = some D.length := by rw [HD.out.1]; exact info32b
  have hRi : (Try.prog.info? 30).map (·.size) = some R.length := by rw [HD.out.2.2.1]; exact info32b
  have hrS := (hr.below hbel hr.lt).range
  have Hs := Lib.hid (And.intro hth (And.intro hiS (And.intro HD.out.2.1 (And.intro hbS.range (And.intro hrS (And.intro hDi hRi))))))
  have HwS := Lib.hid hwS
  have H1 := Lib.hid (And.intro hq1 hbel)
  clear hwS hth hiS hbS hbel hszS hr hrS hDi hRi hq1 Hin
  go_wp2_with (first
    | (refine wpList_store_mid rfl 30 _ _ rfl w1.heap.size 0 D.toArray rfl rfl Hs.out.1 Hs.out.2.1 Hs.out.2.2.1 ?_; simp only [Act.put]; refine cast (congrArg (fun z => wpList _ _ _ _ _ z) HwS.out.symm) ?_)
    | (refine load_mid_g (by rfl) 30 _ rfl w1.heap.size 0 rfl D _ Hs.out.2.2.2.1 Try.underlying30 rfl Hs.out.2.2.2.2.2.1 ?_; simp only [Act.put])
    | (refine load_mid_g (by rfl) 30 _ rfl w.heap.size 0 rfl R _ Hs.out.2.2.2.2.1 Try.underlying30 rfl Hs.out.2.2.2.2.2.2 ?_; simp only [Act.put]))
  refine (Hsm.out _).mono ?_
  rintro e w5 ⟨rfl, hb5⟩
  have H5 := Lib.hid (H1.out.2.trans (hb5.mono H1.out.2.size))
  clear hb5
  go_wp2
  go_ret
  exact ⟨rfl, w1, H1.out.1, H5.out⟩

set_option maxRecDepth 100000 in
set_option maxHeartbeats 1600000 in
theorem leaffits_no (v : Value) (A : Option Addr) (m cp : Nat) (d : Dg) (c : Int) (hc : c ≠ 0) (Q : World → Prop) (w : World)
    (hin : Calls Try.prog 23 #[v, .slice A m cp] (w.alloc (.cells (cbs d).toArray 30)) fun e w1 => e = .returned (.tuple #[.agg (cbs (List.replicate 32 0)).toArray, .int .i64 c]) ∧ Q w1) :
    Calls Try.prog 12 #[v, .agg (cbs d).toArray, .slice A m cp] w (FitsP Q c) := by
  obtain ⟨R, hR⟩ : ∃ R, cbs d = R := ⟨_, rfl⟩
  obtain ⟨D, hD⟩ : ∃ D, cbs (List.replicate 32 0) = D := ⟨_, rfl⟩
  have hD32 : D.length = 32 := by rw [← hD, cbs_length]; rfl
  have hD1 : D.toArray.all (·.oneCell') = true := by rw [← hD]; exact cbs_one' _
  rw [hD, hR] at hin
  rw [hR]
  have Hin := Lib.hid hin
  have HD := Lib.hid (And.intro hD32 hD1)
  have hc2 : (c != 0) = true := by simp [hc]
  clear hin hD32 hD1 hR hD hc
  go_enter Try.func12, Try.ntmps12
  go_wp2_with fail
  refine Hin.out.mono ?_
  rintro e w1 ⟨rfl, hq1⟩
  obtain ⟨wS, hwS, ⟨hth, hiS⟩, hbS, hbel, hszS⟩ := dig_local w1 D HD.out.1
  have Hs := Lib.hid (And.intro hth (And.intro hiS HD.out.2))
  have HwS := Lib.hid hwS
  have H1 := Lib.hid (And.intro hq1 hbel)
  clear hwS hth hiS hbS hbel hszS hq1 Hin
  go_wp2_with (refine wpList_store_mid rfl 30 _ _ rfl w1.heap.size 0 D.toArray rfl rfl Hs.out.1 Hs.out.2.1 Hs.out.2.2 ?_; simp only [Act.put]; refine cast (congrArg (fun z => wpList _ _ _ _ _ z) HwS.out.symm) ?_)
  go_ret
  exact ⟨rfl, w1, H1.out.1, H1.out.2⟩

/-- Behind a world whose book has gone on. -/
theorem fits_kb (B g bm : Nat) (s : Bk) (N : Nat → Prop) (A : Option Addr) (m cp : Nat) (d : Dg) (hd : d.length = 32) (ds : List Dg) (w : World) (h : Kb B w g bm s N) (hB0 : B ≤ w.heap.size) (hL : s.1.length < 1000000) (hk : s.2.2 < 1000000)
    (hD : Ds w A ds) (h32 : All32 ds) (hm : ds.length = m) (h1 : 1 ≤ m) (h4 : m ≤ 4) :
    Calls Try.prog 11 #[.pointer (some ⟨g, 0, none⟩), .agg (cbs d).toArray, .slice A m cp] w fun e w' => e = .returned (.int .i64 (if digest (upIn ds) = d then 0 else 100)) ∧ Kb B w' g bm (stepL s (upIn ds)) N ∧ Out (Tn B bm w N) w w' := by
  have hbA : Below w.heap.size w (w.alloc (.cells (cbs d).toArray 30)) := (Below.refl _ _).alloc (Nat.le_refl _) _
  have hrA : Blk (w.alloc (.cells (cbs d).toArray 30)) w.heap.size 30 (cbs d) := Blk.new rfl rfl
  have hkA : Kb B (w.alloc (.cells (cbs d).toArray 30)) g bm s (fun j => N j ∨ j = w.heap.size) := h.belowN hbA fun j hj => by
    rcases hj with hj | rfl
    · exact .inl hj
    · exact .inr ⟨Nat.le_refl _, by simp⟩
  refine (fits_go _ A m cp d (digest (upIn ds)) hd (dlen _) (fun w1 => Kb B w1 g bm (stepL s (upIn ds)) (fun j => N j ∨ j = w.heap.size) ∧ Out (Tn B bm w N) w w1 ∧ Blk w1 w.heap.size 30 (cbs d)) w (fun w1 h => h.2.2)
    ((up_kb B g bm s _ A m cp ds _ hkA (Nat.le_trans hB0 hbA.size) hL hk (hD.after hbA) h32 hm h1 h4).mono ?_)).mono ?_
  · rintro e w1 ⟨rfl, hK, hO⟩
    exact ⟨rfl, hK, (Out.ofBelow _ hbA).tn hO fun i _ hn => .inl hn, hO.blk hrA (Tn.keep (.inr rfl))⟩
  · rintro e w' ⟨rfl, w1, ⟨hK, hO, _⟩, hb⟩
    exact ⟨rfl, (hK.below hb).less fun j hj => .inl hj, hO.then_below hb⟩

theorem leaffits_kb (B g bm : Nat) (s : Bk) (N : Nat → Prop) (A : Option Addr) (n cp : Nat) (d : Dg) (hd : d.length = 32) (x : List UInt8) (w : World) (h : Kb B w g bm s N) (hB0 : B ≤ w.heap.size) (hL : s.1.length < 1000000) (hk : s.2.2 < 1000000)
    (hB : Bs w A x) (hn : x.length = n) (hc : n ≤ cp) (hcm : cp ≤ maxLen) (hs : n ≤ 65535) :
    Calls Try.prog 12 #[.pointer (some ⟨g, 0, none⟩), .agg (cbs d).toArray, .slice A n cp] w fun e w' => e = .returned (.int .i64 (if digest (leafIn x) = d then 0 else 100)) ∧ Kb B w' g bm (stepL s (leafIn x)) N ∧ Out (Tn B bm w N) w w' := by
  have hbA : Below w.heap.size w (w.alloc (.cells (cbs d).toArray 30)) := (Below.refl _ _).alloc (Nat.le_refl _) _
  have hrA : Blk (w.alloc (.cells (cbs d).toArray 30)) w.heap.size 30 (cbs d) := Blk.new rfl rfl
  have hkA : Kb B (w.alloc (.cells (cbs d).toArray 30)) g bm s (fun j => N j ∨ j = w.heap.size) := h.belowN hbA fun j hj => by
    rcases hj with hj | rfl
    · exact .inl hj
    · exact .inr ⟨Nat.le_refl _, by simp⟩
  refine (leaffits_go _ A n cp d (digest (leafIn x)) hd (dlen _) (fun w1 => Kb B w1 g bm (stepL s (leafIn x)) (fun j => N j ∨ j = w.heap.size) ∧ Out (Tn B bm w N) w w1 ∧ Blk w1 w.heap.size 30 (cbs d)) w (fun w1 h => h.2.2)
    ((leaf_kb B g bm s _ A n cp x _ hkA (Nat.le_trans hB0 hbA.size) hL hk (hB.after hbA) hn hc hcm hs).mono ?_)).mono ?_
  · rintro e w1 ⟨rfl, hK, hO⟩
    exact ⟨rfl, hK, (Out.ofBelow _ hbA).tn hO fun i _ hn => .inl hn, hO.blk hrA (Tn.keep (.inr rfl))⟩
  · rintro e w' ⟨rfl, w1, ⟨hK, hO, _⟩, hb⟩
    exact ⟨rfl, (hK.below hb).less fun j hj => .inl hj, hO.then_below hb⟩

theorem fits_off (v : Value) (A : Option Addr) (m cp : Nat) (d : Dg) (w : World) (h : m < 1 ∨ 4 < m) : Calls Try.prog 11 #[v, .agg (cbs d).toArray, .slice A m cp] w fun e w' => e = .returned (.int .i64 2) ∧ Below w.heap.size w w' := by
  have hbA : Below w.heap.size w (w.alloc (.cells (cbs d).toArray 30)) := (Below.refl _ _).alloc (Nat.le_refl _) _
  refine (fits_no v A m cp d 2 (by decide) (fun w1 => Below w.heap.size w w1) w ((up_off v A m cp _ h).mono ?_)).mono ?_
  · rintro e w1 ⟨rfl, hb⟩
    exact ⟨rfl, hbA.trans (hb.mono hbA.size)⟩
  · rintro e w' ⟨rfl, w1, hb1, hb⟩
    exact ⟨rfl, hb1.trans (hb.mono hb1.size)⟩

theorem leaffits_long (v : Value) (A : Option Addr) (n cp : Nat) (d : Dg) (w : World) (h : 65535 < n) : Calls Try.prog 12 #[v, .agg (cbs d).toArray, .slice A n cp] w fun e w' => e = .returned (.int .i64 5) ∧ Below w.heap.size w w' := by
  have hbA : Below w.heap.size w (w.alloc (.cells (cbs d).toArray 30)) := (Below.refl _ _).alloc (Nat.le_refl _) _
  refine (leaffits_no v A n cp d 5 (by decide) (fun w1 => Below w.heap.size w w1) w ((leaf_long v A n cp _ h).mono ?_)).mono ?_
  · rintro e w1 ⟨rfl, hb⟩
    exact ⟨rfl, hbA.trans (hb.mono hbA.size)⟩
  · rintro e w' ⟨rfl, w1, hb1, hb⟩
    exact ⟨rfl, hb1.trans (hb.mono hb1.size)⟩

end Go.Proofs.Ytkkcjkelijlmbaa

namespace Go.Proofs.Ytkkcjkelijlmbaa

open Go.RowKit Go.Maps

set_option linter.unusedVariables false

/-! ### Plain facts -/

def sixL : List (List UInt8) := [[1], [2], [3], [4], [5], [6]]

theorem six_cut : cut40 sixL = sixL := rfl

theorem dep_six : dep 6 = 3 := by rw [dep_more (by decide), dep_more (by decide), dep_one (by decide)]

theorem six_len : sixL.length = 6 := rfl

theorem six_lows : (lows sixL).length = 6 := by rw [lows_len]; rfl

theorem pf_six : pf (lows sixL) 4 = [four (lows sixL) 1, four (next (lows sixL)) 0] := by
  unfold pf
  rw [six_lows, dep_six]
  rfl

theorem pf_six_len : (four (lows sixL) 1).length = 2 ∧ (four (next (lows sixL)) 0).length = 2 := by
  rw [four_len, four_len, next_len, six_lows]; exact ⟨rfl, rfl⟩

theorem dg56 : digest [0, 5] ≠ digest [0, 6] := by rw [dig_fast, dig_fast]; decide +kernel

theorem six_fits5 : fits (rootD (lows sixL)) 6 4 [5] (pf (lows sixL) 4) = true := pf_back (xs := sixL) (i := 4) (by decide)

theorem six_fits6 : fits (rootD (lows sixL)) 6 4 [6] (pf (lows sixL) 4) = false := by
  unfold fits
  rw [pf_six, climb, if_neg]
  · simp
  · intro e
    have e2 : (four (lows sixL) 1)[4 % 4]? = some (digest (leafIn [5])) := rfl
    rw [e2] at e
    exact dg56 (Option.some.inj e)

theorem six_fits3 : fits (rootD (lows sixL)) 6 3 [5] (pf (lows sixL) 4) = false := by
  apply fits_not
  rw [pf_six]
  simp only [pwhole, pf_six_len.1]
  decide

/-! ### Rows -/

theorem PfNew.cells {w0 w : World} {v : Value} {ps : List (List Dg)} (h : PfNew w0 w v ps) (h32 : ∀ p ∈ ps, All32 p) (h4 : ∀ p ∈ ps, p.length ≤ 4) (hne : ps ≠ []) : ∃ b c, v = .slice (some ⟨b, 0, none⟩) ps.length c ∧ ps.length ≤ c ∧ c ≤ maxLen ∧ b < w.heap.size ∧ w0.heap.size ≤ b ∧
    (∀ j (hj : j < ps.length), ∃ Aj, w.cell? ⟨b, j, none⟩ = some (.slice Aj ps[j].length ps[j].length)) ∧ PfAt w (fun j => w0.heap.size ≤ j ∧ j < w.heap.size) (some ⟨b, 0, none⟩) ps := by
  obtain ⟨A, c, rfl, hc1, hc2, hP⟩ := h.at_ h32 h4
  obtain ⟨vs, hrow, hc⟩ := h
  rcases hrow.2 with ⟨_, e⟩ | ⟨g, c', cur, e, hb0, hg, _⟩
  · exact absurd (List.eq_nil_of_length_eq_zero e) hne
  · injection e with e1 e2 e3
    subst e1
    refine ⟨g, c, rfl, hc1, hc2, row_lt hrow, hb0, fun j hj => ?_, hP⟩
    obtain ⟨r, o, h1, _⟩ := hc j hj
    have hz := World.ownsRow.cellAt hrow j (by omega)
    exact ⟨_, by rw [hz]; exact h1⟩

theorem bs_at (a w' : World) (z : Nat) (hz : a.heap.size = z) (x : UInt8) (v : Value) (hv : v = cb x) (t : TypeId) (hb : Below (z + 1) (a.alloc (.cells #[v] t)) w') : Bs w' (some ⟨z, 0, none⟩) [x] := by
  subst hz hv
  refine (Bs.made a t #[cb x] (0, 0) [x] rfl).after ?_
  rw [World.size_alloc]; exact hb

set_option maxRecDepth 100000 in
theorem six_lvs (w : World) : LvsAt (((((((w.alloc (.cells #[.int .u8 1] 5)).alloc (.cells #[.int .u8 2] 5)).alloc (.cells #[.int .u8 3] 5)).alloc (.cells #[.int .u8 4] 5)).alloc (.cells #[.int .u8 5] 5)).alloc (.cells #[.int .u8 6] 5)).alloc (.cells #[.slice (some ⟨w.heap.size, 0, none⟩) 1 1, .slice (some ⟨w.heap.size + 1, 0, none⟩) 1 1, .slice (some ⟨w.heap.size + 2, 0, none⟩) 1 1, .slice (some ⟨w.heap.size + 3, 0, none⟩) 1 1, .slice (some ⟨w.heap.size + 4, 0, none⟩) 1 1, .slice (some ⟨w.heap.size + 5, 0, none⟩) 1 1] 28)) (fun j => w.heap.size ≤ j ∧ j < (((((((w.alloc (.cells #[.int .u8 1] 5)).alloc (.cells #[.int .u8 2] 5)).alloc (.cells #[.int .u8 3] 5)).alloc (.cells #[.int .u8 4] 5)).alloc (.cells #[.int .u8 5] 5)).alloc (.cells #[.int .u8 6] 5)).alloc (.cells #[.slice (some ⟨w.heap.size, 0, none⟩) 1 1, .slice (some ⟨w.heap.size + 1, 0, none⟩) 1 1, .slice (some ⟨w.heap.size + 2, 0, none⟩) 1 1, .slice (some ⟨w.heap.size + 3, 0, none⟩) 1 1, .slice (some ⟨w.heap.size + 4, 0, none⟩) 1 1, .slice (some ⟨w.heap.size + 5, 0, none⟩) 1 1] 28)).heap.size) (some ⟨w.heap.size + 6, 0, none⟩) sixL := by
  have hr : (((((((w.alloc (.cells #[.int .u8 1] 5)).alloc (.cells #[.int .u8 2] 5)).alloc (.cells #[.int .u8 3] 5)).alloc (.cells #[.int .u8 4] 5)).alloc (.cells #[.int .u8 5] 5)).alloc (.cells #[.int .u8 6] 5)).alloc (.cells #[.slice (some ⟨w.heap.size, 0, none⟩) 1 1, .slice (some ⟨w.heap.size + 1, 0, none⟩) 1 1, .slice (some ⟨w.heap.size + 2, 0, none⟩) 1 1, .slice (some ⟨w.heap.size + 3, 0, none⟩) 1 1, .slice (some ⟨w.heap.size + 4, 0, none⟩) 1 1, .slice (some ⟨w.heap.size + 5, 0, none⟩) 1 1] 28)).heap[w.heap.size + 6]? = some (.cells #[.slice (some ⟨w.heap.size, 0, none⟩) 1 1, .slice (some ⟨w.heap.size + 1, 0, none⟩) 1 1, .slice (some ⟨w.heap.size + 2, 0, none⟩) 1 1, .slice (some ⟨w.heap.size + 3, 0, none⟩) 1 1, .slice (some ⟨w.heap.size + 4, 0, none⟩) 1 1, .slice (some ⟨w.heap.size + 5, 0, none⟩) 1 1] 28 (0, 0)) := by
    have := heap_alloc_new ((((((w.alloc (.cells #[.int .u8 1] 5)).alloc (.cells #[.int .u8 2] 5)).alloc (.cells #[.int .u8 3] 5)).alloc (.cells #[.int .u8 4] 5)).alloc (.cells #[.int .u8 5] 5)).alloc (.cells #[.int .u8 6] 5)) (.cells #[.slice (some ⟨w.heap.size, 0, none⟩) 1 1, .slice (some ⟨w.heap.size + 1, 0, none⟩) 1 1, .slice (some ⟨w.heap.size + 2, 0, none⟩) 1 1, .slice (some ⟨w.heap.size + 3, 0, none⟩) 1 1, .slice (some ⟨w.heap.size + 4, 0, none⟩) 1 1, .slice (some ⟨w.heap.size + 5, 0, none⟩) 1 1] 28)
    have hs : ((((((w.alloc (.cells #[.int .u8 1] 5)).alloc (.cells #[.int .u8 2] 5)).alloc (.cells #[.int .u8 3] 5)).alloc (.cells #[.int .u8 4] 5)).alloc (.cells #[.int .u8 5] 5)).alloc (.cells #[.int .u8 6] 5)).heap.size = w.heap.size + 6 := by simp
    rwa [hs] at this
  have b0 : Bs (((((((w.alloc (.cells #[.int .u8 1] 5)).alloc (.cells #[.int .u8 2] 5)).alloc (.cells #[.int .u8 3] 5)).alloc (.cells #[.int .u8 4] 5)).alloc (.cells #[.int .u8 5] 5)).alloc (.cells #[.int .u8 6] 5)).alloc (.cells #[.slice (some ⟨w.heap.size, 0, none⟩) 1 1, .slice (some ⟨w.heap.size + 1, 0, none⟩) 1 1, .slice (some ⟨w.heap.size + 2, 0, none⟩) 1 1, .slice (some ⟨w.heap.size + 3, 0, none⟩) 1 1, .slice (some ⟨w.heap.size + 4, 0, none⟩) 1 1, .slice (some ⟨w.heap.size + 5, 0, none⟩) 1 1] 28)) (some ⟨w.heap.size, 0, none⟩) [1] := bs_at w _ (w.heap.size) (by simp) 1 _ rfl 5 (((((((Below.refl _ _).alloc (by simp; try omega) _).alloc (by simp; try omega) _).alloc (by simp; try omega) _).alloc (by simp; try omega) _).alloc (by simp; try omega) _).alloc (by simp; try omega) _)
  have c0 : (((((((w.alloc (.cells #[.int .u8 1] 5)).alloc (.cells #[.int .u8 2] 5)).alloc (.cells #[.int .u8 3] 5)).alloc (.cells #[.int .u8 4] 5)).alloc (.cells #[.int .u8 5] 5)).alloc (.cells #[.int .u8 6] 5)).alloc (.cells #[.slice (some ⟨w.heap.size, 0, none⟩) 1 1, .slice (some ⟨w.heap.size + 1, 0, none⟩) 1 1, .slice (some ⟨w.heap.size + 2, 0, none⟩) 1 1, .slice (some ⟨w.heap.size + 3, 0, none⟩) 1 1, .slice (some ⟨w.heap.size + 4, 0, none⟩) 1 1, .slice (some ⟨w.heap.size + 5, 0, none⟩) 1 1] 28)).cell? ⟨w.heap.size + 6, 0, none⟩ = some (.slice (some ⟨w.heap.size, 0, none⟩) 1 1) := by rw [cell_of_row _ _ 0 _ _ (0, 0) hr]; rfl
  have b1 : Bs (((((((w.alloc (.cells #[.int .u8 1] 5)).alloc (.cells #[.int .u8 2] 5)).alloc (.cells #[.int .u8 3] 5)).alloc (.cells #[.int .u8 4] 5)).alloc (.cells #[.int .u8 5] 5)).alloc (.cells #[.int .u8 6] 5)).alloc (.cells #[.slice (some ⟨w.heap.size, 0, none⟩) 1 1, .slice (some ⟨w.heap.size + 1, 0, none⟩) 1 1, .slice (some ⟨w.heap.size + 2, 0, none⟩) 1 1, .slice (some ⟨w.heap.size + 3, 0, none⟩) 1 1, .slice (some ⟨w.heap.size + 4, 0, none⟩) 1 1, .slice (some ⟨w.heap.size + 5, 0, none⟩) 1 1] 28)) (some ⟨w.heap.size + 1, 0, none⟩) [2] := bs_at (w.alloc (.cells #[.int .u8 1] 5)) _ (w.heap.size + 1) (by simp) 2 _ rfl 5 ((((((Below.refl _ _).alloc (by simp; try omega) _).alloc (by simp; try omega) _).alloc (by simp; try omega) _).alloc (by simp; try omega) _).alloc (by simp; try omega) _)
  have c1 : (((((((w.alloc (.cells #[.int .u8 1] 5)).alloc (.cells #[.int .u8 2] 5)).alloc (.cells #[.int .u8 3] 5)).alloc (.cells #[.int .u8 4] 5)).alloc (.cells #[.int .u8 5] 5)).alloc (.cells #[.int .u8 6] 5)).alloc (.cells #[.slice (some ⟨w.heap.size, 0, none⟩) 1 1, .slice (some ⟨w.heap.size + 1, 0, none⟩) 1 1, .slice (some ⟨w.heap.size + 2, 0, none⟩) 1 1, .slice (some ⟨w.heap.size + 3, 0, none⟩) 1 1, .slice (some ⟨w.heap.size + 4, 0, none⟩) 1 1, .slice (some ⟨w.heap.size + 5, 0, none⟩) 1 1] 28)).cell? ⟨w.heap.size + 6, 1, none⟩ = some (.slice (some ⟨w.heap.size + 1, 0, none⟩) 1 1) := by rw [cell_of_row _ _ 1 _ _ (0, 0) hr]; rfl
  have b2 : Bs (((((((w.alloc (.cells #[.int .u8 1] 5)).alloc (.cells #[.int .u8 2] 5)).alloc (.cells #[.int .u8 3] 5)).alloc (.cells #[.int .u8 4] 5)).alloc (.cells #[.int .u8 5] 5)).alloc (.cells #[.int .u8 6] 5)).alloc (.cells #[.slice (some ⟨w.heap.size, 0, none⟩) 1 1, .slice (some ⟨w.heap.size + 1, 0, none⟩) 1 1, .slice (some ⟨w.heap.size + 2, 0, none⟩) 1 1, .slice (some ⟨w.heap.size + 3, 0, none⟩) 1 1, .slice (some ⟨w.heap.size + 4, 0, none⟩) 1 1, .slice (some ⟨w.heap.size + 5, 0, none⟩) 1 1] 28)) (some ⟨w.heap.size + 2, 0, none⟩) [3] := bs_at ((w.alloc (.cells #[.int .u8 1] 5)).alloc (.cells #[.int .u8 2] 5)) _ (w.heap.size + 2) (by simp) 3 _ rfl 5 (((((Below.refl _ _).alloc (by simp; try omega) _).alloc (by simp; try omega) _).alloc (by simp; try omega) _).alloc (by simp; try omega) _)
  have c2 : (((((((w.alloc (.cells #[.int .u8 1] 5)).alloc (.cells #[.int .u8 2] 5)).alloc (.cells #[.int .u8 3] 5)).alloc (.cells #[.int .u8 4] 5)).alloc (.cells #[.int .u8 5] 5)).alloc (.cells #[.int .u8 6] 5)).alloc (.cells #[.slice (some ⟨w.heap.size, 0, none⟩) 1 1, .slice (some ⟨w.heap.size + 1, 0, none⟩) 1 1, .slice (some ⟨w.heap.size + 2, 0, none⟩) 1 1, .slice (some ⟨w.heap.size + 3, 0, none⟩) 1 1, .slice (some ⟨w.heap.size + 4, 0, none⟩) 1 1, .slice (some ⟨w.heap.size + 5, 0, none⟩) 1 1] 28)).cell? ⟨w.heap.size + 6, 2, none⟩ = some (.slice (some ⟨w.heap.size + 2, 0, none⟩) 1 1) := by rw [cell_of_row _ _ 2 _ _ (0, 0) hr]; rfl
  have b3 : Bs (((((((w.alloc (.cells #[.int .u8 1] 5)).alloc (.cells #[.int .u8 2] 5)).alloc (.cells #[.int .u8 3] 5)).alloc (.cells #[.int .u8 4] 5)).alloc (.cells #[.int .u8 5] 5)).alloc (.cells #[.int .u8 6] 5)).alloc (.cells #[.slice (some ⟨w.heap.size, 0, none⟩) 1 1, .slice (some ⟨w.heap.size + 1, 0, none⟩) 1 1, .slice (some ⟨w.heap.size + 2, 0, none⟩) 1 1, .slice (some ⟨w.heap.size + 3, 0, none⟩) 1 1, .slice (some ⟨w.heap.size + 4, 0, none⟩) 1 1, .slice (some ⟨w.heap.size + 5, 0, none⟩) 1 1] 28)) (some ⟨w.heap.size + 3, 0, none⟩) [4] := bs_at (((w.alloc (.cells #[.int .u8 1] 5)).alloc (.cells #[.int .u8 2] 5)).alloc (.cells #[.int .u8 3] 5)) _ (w.heap.size + 3) (by simp) 4 _ rfl 5 ((((Below.refl _ _).alloc (by simp; try omega) _).alloc (by simp; try omega) _).alloc (by simp; try omega) _)
  have c3 : (((((((w.alloc (.cells #[.int .u8 1] 5)).alloc (.cells #[.int .u8 2] 5)).alloc (.cells #[.int .u8 3] 5)).alloc (.cells #[.int .u8 4] 5)).alloc (.cells #[.int .u8 5] 5)).alloc (.cells #[.int .u8 6] 5)).alloc (.cells #[.slice (some ⟨w.heap.size, 0, none⟩) 1 1, .slice (some ⟨w.heap.size + 1, 0, none⟩) 1 1, .slice (some ⟨w.heap.size + 2, 0, none⟩) 1 1, .slice (some ⟨w.heap.size + 3, 0, none⟩) 1 1, .slice (some ⟨w.heap.size + 4, 0, none⟩) 1 1, .slice (some ⟨w.heap.size + 5, 0, none⟩) 1 1] 28)).cell? ⟨w.heap.size + 6, 3, none⟩ = some (.slice (some ⟨w.heap.size + 3, 0, none⟩) 1 1) := by rw [cell_of_row _ _ 3 _ _ (0, 0) hr]; rfl
  have b4 : Bs (((((((w.alloc (.cells #[.int .u8 1] 5)).alloc (.cells #[.int .u8 2] 5)).alloc (.cells #[.int .u8 3] 5)).alloc (.cells #[.int .u8 4] 5)).alloc (.cells #[.int .u8 5] 5)).alloc (.cells #[.int .u8 6] 5)).alloc (.cells #[.slice (some ⟨w.heap.size, 0, none⟩) 1 1, .slice (some ⟨w.heap.size + 1, 0, none⟩) 1 1, .slice (some ⟨w.heap.size + 2, 0, none⟩) 1 1, .slice (some ⟨w.heap.size + 3, 0, none⟩) 1 1, .slice (some ⟨w.heap.size + 4, 0, none⟩) 1 1, .slice (some ⟨w.heap.size + 5, 0, none⟩) 1 1] 28)) (some ⟨w.heap.size + 4, 0, none⟩) [5] := bs_at ((((w.alloc (.cells #[.int .u8 1] 5)).alloc (.cells #[.int .u8 2] 5)).alloc (.cells #[.int .u8 3] 5)).alloc (.cells #[.int .u8 4] 5)) _ (w.heap.size + 4) (by simp) 5 _ rfl 5 (((Below.refl _ _).alloc (by simp; try omega) _).alloc (by simp; try omega) _)
  have c4 : (((((((w.alloc (.cells #[.int .u8 1] 5)).alloc (.cells #[.int .u8 2] 5)).alloc (.cells #[.int .u8 3] 5)).alloc (.cells #[.int .u8 4] 5)).alloc (.cells #[.int .u8 5] 5)).alloc (.cells #[.int .u8 6] 5)).alloc (.cells #[.slice (some ⟨w.heap.size, 0, none⟩) 1 1, .slice (some ⟨w.heap.size + 1, 0, none⟩) 1 1, .slice (some ⟨w.heap.size + 2, 0, none⟩) 1 1, .slice (some ⟨w.heap.size + 3, 0, none⟩) 1 1, .slice (some ⟨w.heap.size + 4, 0, none⟩) 1 1, .slice (some ⟨w.heap.size + 5, 0, none⟩) 1 1] 28)).cell? ⟨w.heap.size + 6, 4, none⟩ = some (.slice (some ⟨w.heap.size + 4, 0, none⟩) 1 1) := by rw [cell_of_row _ _ 4 _ _ (0, 0) hr]; rfl
  have b5 : Bs (((((((w.alloc (.cells #[.int .u8 1] 5)).alloc (.cells #[.int .u8 2] 5)).alloc (.cells #[.int .u8 3] 5)).alloc (.cells #[.int .u8 4] 5)).alloc (.cells #[.int .u8 5] 5)).alloc (.cells #[.int .u8 6] 5)).alloc (.cells #[.slice (some ⟨w.heap.size, 0, none⟩) 1 1, .slice (some ⟨w.heap.size + 1, 0, none⟩) 1 1, .slice (some ⟨w.heap.size + 2, 0, none⟩) 1 1, .slice (some ⟨w.heap.size + 3, 0, none⟩) 1 1, .slice (some ⟨w.heap.size + 4, 0, none⟩) 1 1, .slice (some ⟨w.heap.size + 5, 0, none⟩) 1 1] 28)) (some ⟨w.heap.size + 5, 0, none⟩) [6] := bs_at (((((w.alloc (.cells #[.int .u8 1] 5)).alloc (.cells #[.int .u8 2] 5)).alloc (.cells #[.int .u8 3] 5)).alloc (.cells #[.int .u8 4] 5)).alloc (.cells #[.int .u8 5] 5)) _ (w.heap.size + 5) (by simp) 6 _ rfl 5 ((Below.refl _ _).alloc (by simp; try omega) _)
  have c5 : (((((((w.alloc (.cells #[.int .u8 1] 5)).alloc (.cells #[.int .u8 2] 5)).alloc (.cells #[.int .u8 3] 5)).alloc (.cells #[.int .u8 4] 5)).alloc (.cells #[.int .u8 5] 5)).alloc (.cells #[.int .u8 6] 5)).alloc (.cells #[.slice (some ⟨w.heap.size, 0, none⟩) 1 1, .slice (some ⟨w.heap.size + 1, 0, none⟩) 1 1, .slice (some ⟨w.heap.size + 2, 0, none⟩) 1 1, .slice (some ⟨w.heap.size + 3, 0, none⟩) 1 1, .slice (some ⟨w.heap.size + 4, 0, none⟩) 1 1, .slice (some ⟨w.heap.size + 5, 0, none⟩) 1 1] 28)).cell? ⟨w.heap.size + 6, 5, none⟩ = some (.slice (some ⟨w.heap.size + 5, 0, none⟩) 1 1) := by rw [cell_of_row _ _ 5 _ _ (0, 0) hr]; rfl
  refine ⟨w.heap.size + 6, 0, rfl, ⟨by omega, by simp⟩, fun j hj => ?_⟩
  have hj6 : j = 0 ∨ j = 1 ∨ j = 2 ∨ j = 3 ∨ j = 4 ∨ j = 5 := by have : j < 6 := hj; omega
  rw [Nat.zero_add]
  rcases hj6 with rfl | rfl | rfl | rfl | rfl | rfl
  · exact ⟨_, 1, c0, Nat.le_refl _, by decide, b0, fun a e _ => by injection e with e; subst e; exact ⟨by simp, by simp; try omega⟩⟩
  · exact ⟨_, 1, c1, Nat.le_refl _, by decide, b1, fun a e _ => by injection e with e; subst e; exact ⟨by simp, by simp; try omega⟩⟩
  · exact ⟨_, 1, c2, Nat.le_refl _, by decide, b2, fun a e _ => by injection e with e; subst e; exact ⟨by simp, by simp; try omega⟩⟩
  · exact ⟨_, 1, c3, Nat.le_refl _, by decide, b3, fun a e _ => by injection e with e; subst e; exact ⟨by simp, by simp; try omega⟩⟩
  · exact ⟨_, 1, c4, Nat.le_refl _, by decide, b4, fun a e _ => by injection e with e; subst e; exact ⟨by simp, by simp; try omega⟩⟩
  · exact ⟨_, 1, c5, Nat.le_refl _, by decide, b5, fun a e _ => by injection e with e; subst e; exact ⟨by simp, by simp; try omega⟩⟩

/-- The result of six. -/
theorem six_any (w : World) : Calls Try.prog 6 #[] w fun e w' => ∃ b, e = .returned (.slice (some ⟨b, 0, none⟩) 6 6) ∧ LvsAt w' (fun j => w.heap.size ≤ j ∧ j < w'.heap.size) (some ⟨b, 0, none⟩) sixL ∧ Below w.heap.size w w' := by
  go_enter Try.func6, Try.ntmps6
  go_wp2
  go_ret
  refine ⟨w.heap.size + 6, rfl, six_lvs w, ?_⟩
  exact ((((((((Below.refl _ _).alloc (by simp) _).alloc (by simp) _).alloc (by simp; omega) _).alloc (by simp; omega) _).alloc (by simp; omega) _).alloc (by simp; omega) _).alloc (by simp; omega) _)

/-! ### A tree, its book, and a proof -/

section

variable {w0 w w' : World} {B g bm t m bnd : Nat} {M N N' : Nat → Prop} {cur : List (List UInt8)} {s0 s : Bk}

theorem Tb.keep (h : Tb w0 B g bm t m M N bnd cur s0 s w) (hb : Below w.heap.size w w') (hN : ∀ i, N' i → N i ∨ (w.heap.size ≤ i ∧ i < w'.heap.size)) : Tb w0 B g bm t m M N' bnd cur s0 s w' :=
  ⟨h.tree.below hb, h.kb.belowN hb (fun i hi => by
      rcases hi with hi | hi
      · rcases hN i hi with hi | hi
        · exact .inl (.inl hi)
        · exact .inr hi
      · exact .inl (.inr hi)), (h.out.then_below hb).wide (fun i hi hs => ⟨hs.1, fun e => by
      rcases hN i e with e | e
      · exact hs.2.1 e
      · have := h.out.size; omega, hs.2.2⟩), h.ge, h.len, h.has, h.good, h.b1, h.b2, h.hB⟩

theorem Tb.check (h : Tb w0 B g bm t m M N bnd cur s0 s w) (hb : bnd ≤ 900000) (root : Dg) (hr : root.length = 32) (i : Nat) (hi : i < m) (Ax : Option Addr) (nx cx : Nat) (x : List UInt8) (hBx : Bs w Ax x) (hnx : x.length = nx) (hcx : nx ≤ cx) (hcm : cx ≤ maxLen) (hx : nx ≤ 65535)
    (K : Nat → Prop) (A : Option Addr) (n c : Nat) (ps : List (List Dg)) (hP : PfAt w K A ps) (hn : ps.length = n) (hnm : n ≤ maxLen) (hK : ∀ j, K j → j < w.heap.size ∧ (j < B ∨ N j ∨ M j)) :
    Calls Try.prog 10 #[.pointer (some ⟨g, 0, none⟩), .agg (cbs root).toArray, .int .i64 (m : Int), .int .i64 (i : Int), .slice Ax nx cx, .slice A n c] w fun e w' =>
      e = .returned (.int .i64 (if fits root m i x ps then 0 else 100)) ∧ Tb w0 B g bm t m M N (bnd + 6) cur s0 (noteAll s (chkIn m i x ps)) w' ∧ Out (Tn B bm w (fun i => N i ∨ M i)) w w' := by
  have hm := h.m1
  have h1 := h.b1
  have h2 := h.b2
  refine (check_any B g bm s _ w h.kb (Nat.le_trans h.hB h.out.size) (by omega) (by omega) root hr m i hm.1 hm.2 hi Ax nx cx x hBx hnx hcx hcm hx K A n c ps hP hn hnm hK).mono ?_
  rintro e w' ⟨rfl, hK, hO⟩
  exact ⟨rfl, h.ask hK hO rfl (by have := chkIn_len (many := m) (i := i) x ps hm.1 hm.2; omega), hO⟩

theorem Tb.bel (h : Tb w0 B g bm t m M N bnd cur s0 s w) {wb : World} (hb : Below B wb w0) : Below B wb w := hb.trans (h.out.above (fun i hi => hi.1) h.hB)

end

end Go.Proofs.Ytkkcjkelijlmbaa

namespace Go.Proofs.Ytkkcjkelijlmbaa

open Go.RowKit Go.Maps

set_option linter.unusedVariables false

set_option maxRecDepth 100000 in
set_option maxHeartbeats 6400000 in
theorem works10_any (w : World) : Calls Try.prog 13 #[] w fun e w' => e = .returned (.bool true) ∧ Below w.heap.size w w' := by
  go_enter Try.func13, Try.ntmps13
  go_wp2_with fail
  refine (bnew_any _).mono ?_
  rintro e w1 ⟨S, g, bm, rfl, hS, hb, hb1⟩
  have hk1 := kb_new hS hb
  have Hk1 := Lib.hid (And.intro hk1 hb1)
  clear hS hb hk1 hb1
  go_wp2_with fail
  refine (six_any _).mono ?_
  rintro e w2 ⟨b, rfl, hL, hb2⟩
  have hk2 : Kb w.heap.size w2 g bm ([], false, 0) (fun j => w1.heap.size ≤ j ∧ j < w2.heap.size) := Hk1.out.1.belowN hb2 fun i hi => .inr hi
  have hmd := made_any w.heap.size g bm ([], false, 0) _ 0 w2 hk2 (Nat.le_trans Hk1.out.2.size hb2.size) (by decide) (Nat.zero_le _) (Nat.zero_le _) _ (some ⟨b, 0, none⟩) 6 6 sixL hL rfl (by decide) (by decide) (fun j hj => ⟨hj.2, .inr hj⟩)
  rw [six_cut] at hmd
  have Hmd := Lib.hid hmd
  have H2 := Lib.hid (Hk1.out.2.trans (hb2.mono Hk1.out.2.size))
  clear hL hk2 hmd hb2
  go_wp2_with fail
  refine Hmd.out.mono ?_
  rintro e w3 ⟨t, M, s3, rfl, hT3⟩
  obtain ⟨D, hD⟩ : ∃ D, cbs (rootD (lows sixL)) = D := ⟨_, rfl⟩
  have hrl : (rootD (lows sixL)).length = 32 := root_len (by rw [lows_len]; decide) (all32_lows _)
  have hD32 : D.length = 32 := by rw [← hD, cbs_length, hrl]
  have hD1 : D.toArray.all (·.oneCell') = true := by rw [← hD]; exact cbs_one' _
  have hr := troot_at hT3.tree
  rw [hD] at hr
  have Hr := Lib.hid hr
  have HD := Lib.hid (And.intro hD32 (And.intro hD1 (And.intro hD hrl)))
  have HT3 := Lib.hid hT3
  clear hD hrl hD32 hD1 hr hT3 Hmd
  go_wp2_with fail
  refine Hr.out.mono ?_
  rintro e w4 ⟨rfl, hb4⟩
  obtain ⟨w5, hw5, ⟨hth5, hi5⟩, hbS5, hbel5, hsz5⟩ := dig_local w4 D HD.out.1
  have hb35 : Below w3.heap.size w3 w5 := hb4.trans (hbel5.mono hb4.size)
  have hbd := build_in (HT3.out.below hb35).tree 4 (by rw [lows_len]; decide)
  have Hbd := Lib.hid hbd
  have Hw5 := Lib.hid hw5
  have Hs5 := Lib.hid (And.intro hth5 (And.intro hi5 HD.out.2.1))
  have H5 := Lib.hid (And.intro hb35 (And.intro hbS5 (And.intro hb4.size hsz5)))
  clear hb4 hw5 hth5 hi5 hbS5 hbel5 hsz5 hb35 hbd Hr
  go_wp2_with (refine wpList_store_mid rfl 30 _ _ rfl w4.heap.size 0 D.toArray rfl rfl Hs5.out.1 Hs5.out.2.1 Hs5.out.2.2 ?_; simp only [Act.put]; refine cast (congrArg (fun z => wpList _ _ _ _ _ z) Hw5.out.symm) ?_)
  refine Hbd.out.mono ?_
  rintro e w6 ⟨v, rfl, hP6, hb6⟩
  obtain ⟨pb, pc, rfl, hc1, hc2, hpb1, hpb2, hcell, hPf⟩ := hP6.cells (pf_all (all32_lows _) 4) (pf_four _ 4) (by rw [pf_six]; simp)
  have hpl : (pf (lows sixL) 4).length = 2 := by rw [pf_six]; rfl
  have c0 : ∃ A0, w6.cell? ⟨pb, 0, none⟩ = some (.slice A0 2 2) := by
    obtain ⟨A0, h⟩ := hcell 0 (by omega)
    have e : ((pf (lows sixL) 4)[0]'(by omega)).length = 2 := by simp only [pf_six]; exact pf_six_len.1
    rw [e] at h
    exact ⟨A0, h⟩
  have c1 : ∃ A1, w6.cell? ⟨pb, 1, none⟩ = some (.slice A1 2 2) := by
    obtain ⟨A1, h⟩ := hcell 1 (by omega)
    have e : ((pf (lows sixL) 4)[1]'(by omega)).length = 2 := by simp only [pf_six]; exact pf_six_len.2
    rw [e] at h
    exact ⟨A1, h⟩
  obtain ⟨A0, c0⟩ := c0
  obtain ⟨A1, c1⟩ := c1
  have hb36 : Below w3.heap.size w3 w6 := H5.out.1.trans (hb6.mono H5.out.1.size)
  have hpt := parts_in (HT3.out.below hb36).tree 0 (by rw [lows_len, six_len, dep_six]; decide) 1 (by rw [lows_len]; decide)
  have Hpt := Lib.hid hpt
  have H6 := Lib.hid (And.intro hb36 (And.intro (H5.out.2.1.below hb6 H5.out.2.1.lt) (And.intro hPf (And.intro c0 (And.intro c1 (And.intro hpb1 (And.intro hb6.size (And.intro hc1 (And.intro hc2 hpl)))))))))
  rw [hpl]
  clear hP6 hb6 hc1 hc2 hpb1 hpb2 hcell hPf hpl c0 c1 hb36 hpt Hbd
  go_wp2_with fail
  refine Hpt.out.mono ?_
  rintro e w7 ⟨pr, po, rfl, _, _, _, _, _, hb7⟩
  obtain ⟨hb36, hr6, hPf, c0, c1, hpb1, hz56, hc1, hc2, hpl⟩ := H6.out
  have hql : (four (lvl (lows sixL) 0) 1).length = 2 := pf_six_len.1
  rw [hql]
  have c0' : w7.cell? ⟨pb, 0, none⟩ = some (.slice A0 2 2) := (hb7.cell hpb1).trans c0
  have c1' : w7.cell? ⟨pb, 1, none⟩ = some (.slice A1 2 2) := (hb7.cell hpb1).trans c1
  have hb37 : Below w3.heap.size w3 w7 := hb36.trans (hb7.mono hb36.size)
  have hr7 := hr6.below hb7 hr6.lt
  have hz45 := H5.out.2.2.1
  have hz5 := H5.out.2.2.2
  have hz7 := hb7.size
  -- the first check
  have hbA : Below w7.heap.size w7 (w7.alloc (.cells #[.int .u8 5] 5)) := (Below.refl _ _).alloc (Nat.le_refl _) _
  have hPf7 : PfAt w7 (fun j => w3.heap.size ≤ j ∧ j < w7.heap.size) (some ⟨pb, 0, none⟩) (pf (lows sixL) 4) := (hPf.more (K' := fun j => w3.heap.size ≤ j ∧ j < w6.heap.size) fun j hj => ⟨by have := hj.1; omega, hj.2⟩).stays ⟨hb7.size, fun j hj => hb7.block j hj.2⟩ |>.more fun j hj => ⟨hj.1, by have := hj.2; omega⟩
  have hT7 := HT3.out.keep (N' := fun j => (w1.heap.size ≤ j ∧ j < w2.heap.size) ∨ (w3.heap.size ≤ j ∧ j < w7.heap.size)) hb37 fun i hi => hi
  have HP7 := Lib.hid (And.intro hPf7 (And.intro hpl (And.intro (show Blk w7 w4.heap.size 30 D from hr7) hT7)))
  have Hck1 := Lib.hid ((hT7.below hbA).check (by decide) (rootD (lows sixL)) HD.out.2.2.2 4 (by decide) (some ⟨w7.heap.size, 0, none⟩) 1 1 [5] (Bs.made w7 5 _ (0, 0) [5] rfl) rfl (Nat.le_refl _) (by decide) (by decide) _ (some ⟨pb, 0, none⟩) 2 pc (pf (lows sixL) 4) (hPf7.stays ⟨hbA.size, fun j hj => hbA.block j hj.2⟩) hpl (by decide) (fun j hj => ⟨by have := hj.2; have := hbA.size; omega, .inr (.inl (.inr hj))⟩))
  have hDi : (Try.prog.info? 30).map (·.size) = some D.length := by rw [HD.out.1]; exact info32b
  have hrr := hr7.range
  have H7 := Lib.hid (And.intro hDi hrr)
  rw [show fits (rootD (lows sixL)) sixL.length 4 [5] (pf (lows sixL) 4) = true from six_fits5, HD.out.2.2.1] at Hck1
  clear hb36 hr6 hPf c0 c1 hpb1 hc1 hc2 hpl hql hb37 hr7 hb7 hbA hPf7 hT7 hDi hrr Hpt
  go_wp2_with (refine load_mid_g (by rfl) 30 _ rfl w4.heap.size 0 rfl D _ H7.out.2 Try.underlying30 rfl H7.out.1 ?_; simp only [Act.put])
  refine Hck1.out.mono ?_
  rintro e w8 ⟨rfl, hT8, hO8⟩
  have Hz := Lib.hid (show w3.heap.size ≤ w4.heap.size ∧ w4.heap.size < w7.heap.size from ⟨hz45, by omega⟩)
  obtain ⟨hPf7, hpl, hr7, _⟩ := HP7.out
  have hbA : Below w7.heap.size w7 (w7.alloc (.cells #[.int .u8 5] 5)) := (Below.refl _ _).alloc (Nat.le_refl _) _
  have hzA := hbA.size
  have hr8 : Blk w8 w4.heap.size 30 D := hO8.blk (hr7.below hbA hr7.lt) (Tn.keep (.inl (.inr Hz.out)))
  have hPf8 : PfAt w8 (fun j => w3.heap.size ≤ j ∧ j < w7.heap.size) (some ⟨pb, 0, none⟩) (pf (lows sixL) 4) := hPf7.stays ⟨Nat.le_trans hzA hO8.size, fun j hj => (hO8.block j (by have := hj.2; omega) (Tn.keep (.inl (.inr hj)))).trans (hbA.block j hj.2)⟩
  have hz78 : w7.heap.size ≤ w8.heap.size := Nat.le_trans hzA hO8.size
  have HB := Lib.hid (show Below w8.heap.size w8 (w8.alloc (.cells #[.int .u8 6] 5)) from (Below.refl _ _).alloc (Nat.le_refl _) _)
  have Hck2 := Lib.hid ((hT8.below HB.out).check (by decide) (rootD (lows sixL)) HD.out.2.2.2 4 (by decide) (some ⟨w8.heap.size, 0, none⟩) 1 1 [6] (Bs.made w8 5 _ (0, 0) [6] rfl) rfl (Nat.le_refl _) (by decide) (by decide) _ (some ⟨pb, 0, none⟩) 2 pc (pf (lows sixL) 4) (hPf8.stays ⟨HB.out.size, fun j hj => HB.out.block j (by have := hj.2; omega)⟩) hpl (by decide) (fun j hj => ⟨by have := hj.2; have := HB.out.size; omega, .inr (.inl (.inr hj))⟩))
  rw [show fits (rootD (lows sixL)) sixL.length 4 [6] (pf (lows sixL) 4) = false from six_fits6, HD.out.2.2.1] at Hck2
  have H8 := Lib.hid hr8.range
  have HP8 := Lib.hid (And.intro hPf8 (And.intro hr8 hz78))
  clear hT8 hO8 hPf7 hpl hr7 hbA hzA hr8 hPf8 hz78 Hck1
  go_wp2_with (refine load_mid_g (by rfl) 30 _ rfl w4.heap.size 0 rfl D _ H8.out Try.underlying30 rfl H7.out.1 ?_; simp only [Act.put])
  refine Hck2.out.mono ?_
  rintro e w9 ⟨rfl, hT9, hO9⟩
  obtain ⟨hPf8, hr8, hz78⟩ := HP8.out
  have hpl := HP7.out.2.1
  have hzB := HB.out.size
  have hr9 : Blk w9 w4.heap.size 30 D := hO9.blk (hr8.below HB.out hr8.lt) (Tn.keep (.inl (.inr Hz.out)))
  have hPf9 : PfAt w9 (fun j => w3.heap.size ≤ j ∧ j < w7.heap.size) (some ⟨pb, 0, none⟩) (pf (lows sixL) 4) := hPf8.stays ⟨Nat.le_trans hzB hO9.size, fun j hj => (hO9.block j (by have := hj.2; omega) (Tn.keep (.inl (.inr hj)))).trans (HB.out.block j (by have := hj.2; omega))⟩
  have hz79 : w7.heap.size ≤ w9.heap.size := by have := hO9.size; omega
  have HC := Lib.hid (show Below w9.heap.size w9 (w9.alloc (.cells #[.int .u8 5] 5)) from (Below.refl _ _).alloc (Nat.le_refl _) _)
  have Hck3 := Lib.hid ((hT9.below HC.out).check (by decide) (rootD (lows sixL)) HD.out.2.2.2 3 (by decide) (some ⟨w9.heap.size, 0, none⟩) 1 1 [5] (Bs.made w9 5 _ (0, 0) [5] rfl) rfl (Nat.le_refl _) (by decide) (by decide) _ (some ⟨pb, 0, none⟩) 2 pc (pf (lows sixL) 4) (hPf9.stays ⟨HC.out.size, fun j hj => HC.out.block j (by have := hj.2; omega)⟩) hpl (by decide) (fun j hj => ⟨by have := hj.2; have := HC.out.size; omega, .inr (.inl (.inr hj))⟩))
  rw [show fits (rootD (lows sixL)) sixL.length 3 [5] (pf (lows sixL) 4) = false from six_fits3, HD.out.2.2.1] at Hck3
  have H9 := Lib.hid hr9.range
  clear hT9 hO9 hPf8 hr8 hz78 hpl hzB hr9 hPf9 hz79 Hck2
  go_wp2_with (refine load_mid_g (by rfl) 30 _ rfl w4.heap.size 0 rfl D _ H9.out Try.underlying30 rfl H7.out.1 ?_; simp only [Act.put])
  refine Hck3.out.mono ?_
  rintro e wF ⟨rfl, hTF, hOF⟩
  have HF := Lib.hid (hTF.bel H2.out)
  clear hTF hOF Hck3
  go_wp2
  go_ret
  exact ⟨rfl, HF.out⟩

/-- Leaves that came in. -/
theorem lvs_of_arg {w : World} {A : Option Addr} {n c : Nat} {ls : List (List UInt8)} (h : ArgL w A n c ls) (hne : ls ≠ []) : LvsAt w (fun j => j < w.heap.size) A ls := by
  obtain ⟨_, _, _, h⟩ := h
  obtain ⟨b, off, e, hb, hc⟩ := h hne
  refine ⟨b, off, e, hb, fun j hj => ?_⟩
  obtain ⟨Aj, cj, h1, h2, h3, h4⟩ := hc j hj
  refine ⟨Aj, cj, h1, h2, h3, h4, fun a e hn => ?_⟩
  obtain ⟨b', off', e', hb', _⟩ := h4.2 (List.length_pos_iff.2 hn)
  rw [e'] at e
  injection e with e
  subst e
  exact hb'

end Go.Proofs.Ytkkcjkelijlmbaa
