/-
  The statements' helpers: Bring, full, has; two lists of numbers compared.
-/
import Derived.Test.YtmcbjcopipafdaaTurnP
import Derived.Test.YtmcbjcopipafdaaEq
namespace Go.Proofs.Ytmcbjcopipafdaa
open Go.RowKit
set_option linter.unusedVariables false

/-- Bring to n. -/
theorem bringN_any (i n : Int) (w : World) (h : 0 < n) (hn : n ≤ 1000000) (hi : Wf i) : Calls Try.prog 34 #[.int .i64 i, .int .i64 n] w fun e w' => e = .returned (.int .i64 (i % n)) ∧ w' = w := by
  have hb := wf_bounds hi
  have hz : (n == 0) = false := by simp; omega
  by_cases h0 : 0 ≤ i
  · have hm0 := Int.emod_nonneg i (by omega : n ≠ 0)
    have hm1 := Int.emod_lt_of_pos i h
    go_enter Try.func34, Try.ntmps34
    go_wp2
    go_ret
    exact ⟨rfl, rfl⟩
  · have e1 : (-i).tmod n = -(i.tmod n) := Int.neg_tmod i n
    have e2 : (-i).tmod n = (-i) % n := Int.tmod_eq_emod_of_nonneg (by omega)
    have hm0 := Int.emod_nonneg (-i) (by omega : n ≠ 0)
    have hm1 := Int.emod_lt_of_pos (-i) h
    have hl0 : i.tmod n ≤ 0 := by omega
    have hl1 : -n < i.tmod n := by omega
    have hdiv := Int.tmod_add_mul_tdiv i n
    have key : i % n = (i.tmod n) % n := by
      have : i = i.tmod n + n * i.tdiv n := hdiv.symm
      conv => lhs; rw [this]
      rw [Int.add_mul_emod_self_left]
    clear hm0 hm1 e1 e2 hdiv
    by_cases hs : i.tmod n < 0
    · have e : i % n = i.tmod n + n := by
        rw [key, ← Int.add_emod_right, Int.emod_eq_of_lt (by omega) (by omega)]
      rw [e]
      clear e key
      go_enter Try.func34, Try.ntmps34
      go_wp2
      go_ret
      exact ⟨rfl, rfl⟩
    · have e : i % n = i.tmod n := by rw [key, Int.emod_eq_of_lt (by omega) (by omega)]
      rw [e]
      clear e key
      go_enter Try.func34, Try.ntmps34
      go_wp2
      go_ret
      exact ⟨rfl, rfl⟩

theorem Bs.ofBlk {w : World} {b : Nat} {t : TypeId} {l : List UInt8} (h : Blk w b t (cbs l)) : Bs w (some ⟨b, 0, none⟩) l :=
  ⟨by rw [cbs_length]; simp, fun _ => ⟨b, 0, rfl, h.lt, fun j u hu => by rw [Nat.zero_add]; exact h.cell hu⟩⟩
theorem BOff.ofBlk {w : World} {M : Nat → Prop} {b : Nat} {t : TypeId} {l : List UInt8} (h : Blk w b t (cbs l)) (hM : ¬ M b) : BOff w M (some ⟨b, 0, none⟩) l :=
  fun _ => ⟨b, 0, rfl, h.lt, hM, fun j u hu => by rw [Nat.zero_add]; exact h.cell hu⟩

theorem set_mid (a b : List Value) (x y : Value) (k : Nat) (h : a.length = k) : (a ++ x :: b).set k y = a ++ y :: b := by subst h; simp
/-- A sector of one byte, in a block of its own. -/
def FullS (b : UInt8) (w : World) (e : Ending) (w' : World) : Prop := ∃ g, e = .returned (.slice (some ⟨g, 0, none⟩) 64 64) ∧ w.heap.size ≤ g ∧ Blk w' g 5 (cbs (List.replicate 64 b)) ∧ Below w.heap.size w w'
set_option maxRecDepth 100000 in
set_option maxHeartbeats 800000 in
theorem full_any (b : UInt8) (w : World) : Calls Try.prog 14 #[.int .u8 (b.toNat : Int)] w (FullS b w) := by
  obtain ⟨Z, hZ⟩ : ∃ Z : Array Value, (cbs (List.replicate 64 0)).toArray = Z := ⟨_, rfl⟩
  have hmk : ∀ w, (Instr.makeSlice 23 (.int .i64 64) (.int .i64 64)).run Try.prog w = .ok (.slice (some ⟨w.heap.size, 0, none⟩) 64 64) (w.alloc (.cells Z 5)) := fun w => by subst hZ; kernel_rfl
  have hB : Blk (w.alloc (.cells Z 5)) w.heap.size 5 (cbs (List.replicate 64 0)) := Blk.new hZ rfl
  have hb : Below w.heap.size w (w.alloc (.cells Z 5)) := (Below.refl _ _).alloc (Nat.le_refl _) _
  have H := Lib.hid (And.intro hB hb)
  clear hB hb hZ
  go_enter Try.func14, Try.ntmps14
  go_wp2
  go_loopw [4] (fun iv wr => ∃ j : Nat, j ≤ 64 ∧ iv = .int .i64 j ∧ Blk wr w.heap.size 5 (cbs (List.replicate j b ++ List.replicate (64 - j) 0)) ∧ Below w.heap.size w wr) (fun iv _ => 64 - (intOf iv).toNat)
  case atStart => exact ⟨0, by omega, rfl, H.out.1, H.out.2⟩
  case round =>
    obtain ⟨j, hj, rfl, hB, hb⟩ := hrel
    have hi0 : (0 : Int) ≤ j := by omega
    by_cases hlt : j < 64
    · have hi1 : (j : Int) < 64 := by omega
      have hl : j < (cbs (List.replicate j b ++ List.replicate (64 - j) 0)).length := by rw [cbs_length, List.length_append, List.length_replicate, List.length_replicate]; omega
      have c0 : ∃ u, wr.cell? ⟨w.heap.size, j, none⟩ = some u := ⟨_, hB.cell (List.getElem?_eq_getElem hl)⟩
      obtain ⟨u, c0⟩ := c0
      have f0 := hB.free j
      have hn : Blk (wr.setCell ⟨w.heap.size, j, none⟩ (.int .u8 (b.toNat : Int))) w.heap.size 5 (cbs (List.replicate (j + 1) b ++ List.replicate (64 - (j + 1)) 0)) := by
        have := hB.set_ j (.int .u8 (b.toNat : Int))
        have e : (cbs (List.replicate j b ++ List.replicate (64 - j) 0)).set j (.int .u8 (b.toNat : Int)) = cbs (List.replicate (j + 1) b ++ List.replicate (64 - (j + 1)) 0) := by
          have e1 : List.replicate (64 - j) (0 : UInt8) = 0 :: List.replicate (64 - (j + 1)) 0 := by rw [show 64 - j = (64 - (j + 1)) + 1 by omega, List.replicate_succ]
          rw [e1, cbs_append, show cbs (0 :: List.replicate (64 - (j + 1)) 0) = cb 0 :: cbs (List.replicate (64 - (j + 1)) 0) from rfl, set_mid _ _ _ _ j (by rw [cbs_length, List.length_replicate]), List.replicate_succ', List.append_assoc, cbs_append]
          rfl
        rw [e] at this
        exact this
      have Hn := Lib.hid (And.intro hn (hb.setCell (p := ⟨w.heap.size, j, none⟩) (Nat.le_refl _) (.int .u8 (b.toNat : Int))))
      clear hn hB hb hl
      go_wp2
      go_roundw
      case rel => exact ⟨j + 1, by omega, by go_num, Hn.out.1, Hn.out.2⟩
      case measure => simp [intOf]; omega
    · have hi1 : ¬ (j : Int) < 64 := by omega
      obtain rfl : j = 64 := by omega
      have Hn := Lib.hid (And.intro hB hb)
      clear hB hb
      go_wp2
      go_ret
      exact ⟨_, rfl, Nat.le_refl _, Hn.out.1, Hn.out.2⟩

section
variable {w : World} {M : Nat → Prop} {g r m : Nat} {P : Pl}
/-- Is a sector full of a byte? -/
def hasB (P : Pl) (x : Int) (b : UInt8) : Bool := decide ((readP P x).1 = 0) && ((readP P x).2 == List.replicate 64 b)
set_option maxHeartbeats 800000 in
theorem has_any (h : PlAt w M g r m P) (x : Int) (hx : Wf x) (b : UInt8) : Calls Try.prog 30 #[.pointer (some ⟨g, 0, none⟩), .int .i64 x, .int .u8 (b.toNat : Int)] w fun e w' => e = .returned (.bool (hasB P x b)) ∧ Below w.heap.size w w' := by
  have Hr := Lib.hid (read_any h x hx)
  clear h
  unfold hasB
  generalize (readP P x).1 = E at Hr ⊢
  generalize (readP P x).2 = l at Hr ⊢
  by_cases h0 : E = 0
  · subst h0
    have e1 : (decide ((0 : Int) = 0) && (l == List.replicate 64 b)) = (l == List.replicate 64 b) := by simp
    rw [e1]
    clear e1
    go_enter Try.func30, Try.ntmps30
    go_wp2_with fail
    refine Hr.out.mono ?_
    rintro e w1 ⟨v, rfl, hb1, hv⟩
    have hs : ∃ A n c, v = .slice A n c ∧ l.length = n ∧ n ≤ maxLen ∧ Bs w1 A l := by
      rcases hv with ⟨rfl, rfl⟩ | ⟨b0, rfl, _, h64, hB⟩
      · exact ⟨none, 0, 0, rfl, rfl, by simp [maxLen], Bs.nil _ _⟩
      · exact ⟨_, 64, 64, rfl, h64, by simp [maxLen], Bs.ofBlk hB⟩
    obtain ⟨A, n, c, rfl, hn, hnm, hB⟩ := hs
    have H1 := Lib.hid (And.intro hb1 (And.intro hB hn))
    clear hb1 hB hn hv
    go_wp2_with fail
    refine (full_any b w1).mono ?_
    rintro e w2 ⟨g2, rfl, hg2, hB2, hb2⟩
    have H2 := Lib.hid (And.intro hB2 hb2)
    clear hB2 hb2 hg2
    go_wp2_with fail
    refine (eqBytes A _ c 64 n 64 l (List.replicate 64 b) w2 (H1.out.2.1.on H2.out.2) (Bs.ofBlk H2.out.1) H1.out.2.2 (by simp) hnm (by simp [maxLen])).mono ?_
    rintro e w3 ⟨rfl, hb3⟩
    have H3 := Lib.hid hb3
    clear hb3
    go_wp2
    go_ret
    have z1 := H1.out.1.size
    have z2 := H2.out.2.size
    exact ⟨rfl, (H1.out.1.trans (H2.out.2.mono z1)).trans (H3.out.mono (Nat.le_trans z1 z2))⟩
  · have e1 : (decide (E = 0) && (l == List.replicate 64 b)) = false := by simp [h0]
    have e2 : (E == 0) = false := by simp [h0]
    rw [e1]
    clear e1 h0
    go_enter Try.func30, Try.ntmps30
    go_wp2_with fail
    refine Hr.out.mono ?_
    rintro e w1 ⟨v, rfl, hb1, hv⟩
    have hs : ∃ A n c, v = .slice A n c := by
      rcases hv with ⟨rfl, rfl⟩ | ⟨b0, rfl, _⟩
      · exact ⟨none, 0, 0, rfl⟩
      · exact ⟨_, 64, 64, rfl⟩
    obtain ⟨A, n, c, rfl⟩ := hs
    have H1 := Lib.hid hb1
    clear hb1 hv
    go_wp2
    go_ret
    exact ⟨rfl, H1.out⟩
end

/-- A slice that shows numbers. -/
def IsL (w : World) (A : Option Addr) (n c : Nat) (l : List Int) : Prop := l.length = n ∧ n ≤ c ∧ c ≤ maxLen ∧ Shows w w.heap.size 1 A n (l.map encZ)
theorem IsL.after {w w' : World} {A : Option Addr} {n c : Nat} {l : List Int} (h : IsL w A n c l) (hb : Below w.heap.size w w') : IsL w' A n c l := ⟨h.1, h.2.1, h.2.2.1, h.2.2.2.on hb⟩
theorem IsL.ofOwn {w : World} {base : Nat} {e : TypeId} {v : Value} {l : List Int} (h : w.ownsRow base e 1 v l.length (l.map encZ)) : ∃ A c, v = .slice A l.length c ∧ IsL w A l.length c l := by
  obtain ⟨h1, h2⟩ := h
  have hh := h2
  rcases h2 with ⟨rfl, hx⟩ | ⟨g, cap, cur, rfl, _, _, hc, hm, _⟩
  · have : l = [] := List.eq_nil_of_length_eq_zero hx
    subst this
    exact ⟨none, 0, rfl, rfl, Nat.le_refl _, by simp [maxLen], Shows.empty _⟩
  · exact ⟨_, cap, rfl, rfl, hc, hm, Shows.ofOwn ⟨h1, hh⟩⟩
set_option maxRecDepth 100000 in
set_option maxHeartbeats 800000 in
/-- Alike: EqInts of two slices that show one list. -/
theorem eqInts_same (A A' : Option Addr) (n c c' : Nat) (l : List Int) (w : World) (h : IsL w A n c l) (h' : IsL w A' n c' l) : Calls Try.prog 29 #[.slice A n c, .slice A' n c'] w fun e w' => e = .returned (.bool true) ∧ Below w.heap.size w w' := by
  have hcm := h.2.2.1
  unfold maxLen at hcm
  have hnc := h.2.1
  have hcm' := h'.2.2.1
  unfold maxLen at hcm'
  have hnc' := h'.2.1
  have hn63 : n ≤ 9223372036854775807 := by omega
  have H := Lib.hid (And.intro h h')
  clear h h'
  go_enter Try.func29, Try.ntmps29
  go_wp2
  go_loopw [5] (fun v wr => ∃ j : Nat, j ≤ n ∧ v = .int .i64 j ∧ Below w.heap.size w wr) (fun v _ => n - (intOf v).toNat)
  case atStart => exact ⟨0, Nat.zero_le _, rfl, Below.refl _ _⟩
  case round =>
    obtain ⟨j, hj, rfl, hb⟩ := hrel
    have hi0 : (0 : Int) ≤ j := by omega
    by_cases hlt : j < n
    · have hi1 : (j : Int) < n := by omega
      have hjl : j < l.length := by rw [H.out.1.1]; exact hlt
      obtain ⟨b1, o1, u1, rfl, l1, hu1, q1⟩ := H.out.1.2.2.2.at_ hlt
      obtain ⟨b2, o2, u2, rfl, l2, hu2, q2⟩ := H.out.2.2.2.2.at_ hlt
      rw [List.getElem?_map, List.getElem?_eq_getElem hjl] at hu1 hu2
      obtain rfl : Value.int .i64 l[j] = u1 := by simpa using hu1
      obtain rfl : Value.int .i64 l[j] = u2 := by simpa using hu2
      have c1 : wr.cell? ⟨b1, o1 + j, none⟩ = some (.int .i64 l[j]) := (hb.cell (p := ⟨b1, o1 + j, none⟩) l1).trans q1
      have c2 : wr.cell? ⟨b2, o2 + j, none⟩ = some (.int .i64 l[j]) := (hb.cell (p := ⟨b2, o2 + j, none⟩) l2).trans q2
      have c1d : wr.drew.cell? ⟨b1, o1 + j, none⟩ = some (.int .i64 l[j]) := c1
      have c2d : wr.drew.cell? ⟨b2, o2 + j, none⟩ = some (.int .i64 l[j]) := c2
      clear hu1 hu2
      generalize l[j] = x at *
      have Hb := Lib.hid hb
      clear hb q1 q2 hjl
      go_wp2
      go_quiet (fail)
      go_wp2
      go_roundw
      case rel => exact ⟨j + 1, by omega, by go_num, below_drewN Hb.out _⟩
      case measure => simp [intOf]; omega
    · have hi1 : ¬ (j : Int) < n := by omega
      have Hb := Lib.hid hb
      clear hb
      go_wp2
      go_ret
      exact ⟨rfl, Hb.out⟩
end Go.Proofs.Ytmcbjcopipafdaa
