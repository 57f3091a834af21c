/-
  Contracts over this seat's translation: the table of halves, shift, Add, Of.
-/
import Derived.Test.YtdfphefhabgjhaaSum
import Derived.Test.YtdfphefhabgjhaaAnyOrder
namespace Go.Proofs.Ytdfphefhabgjhaa
open Go.RowKit
set_option linter.unusedVariables false

def cqs (l : List UInt64) : List Value := l.map cq
theorem cqs_length (l : List UInt64) : (cqs l).length = l.length := by simp [cqs]
theorem cqs_get (l : List UInt64) (i : Nat) : (cqs l)[i]? = (l[i]?).map cq := by simp [cqs]
theorem cqs_one (l : List UInt64) : ∀ u ∈ cqs l, u.oneCell' = true := by
  intro u hu; simp [cqs] at hu; obtain ⟨x, _, rfl⟩ := hu; rfl
theorem cqs_one' (l : List UInt64) : (cqs l).toArray.all (·.oneCell') = true := by
  rw [Array.all_eq_true_iff_forall_mem]
  intro u hu
  exact cqs_one l u (by simpa using hu)
/-- What half a byte becomes. -/
def halfC (h : Nat) : UInt64 := shn 4 (UInt64.ofNat h)
/-- The table while it is made: the first k stand. -/
def tb (k : Nat) : List UInt64 := (List.range 16).map fun j => if j < k then halfC j else 0
theorem tb_len (k : Nat) : (tb k).length = 16 := by simp [tb]
theorem tb_at {k j : Nat} (h : j < 16) : (tb k)[j]? = some (if j < k then halfC j else 0) := by simp [tb, h]
theorem tb_set {k : Nat} (h : k < 16) : (cqs (tb k)).set k (cq (halfC k)) = cqs (tb (k + 1)) := by
  unfold cqs
  rw [← List.map_set]
  congr 1
  apply List.ext_getElem?
  intro j
  rcases Nat.lt_or_ge j 16 with hj | hj
  · rw [List.getElem?_set, tb_len, tb_at hj, tb_at hj]
    by_cases e : k = j
    · subst e; rw [if_pos rfl, if_pos hj, if_pos (by omega)]
    · rw [if_neg e]
      by_cases h1 : j < k
      · rw [if_pos h1, if_pos (by omega)]
      · rw [if_neg h1, if_neg (by omega)]
  · rw [List.getElem?_eq_none (by rw [List.length_set, tb_len]; exact hj), List.getElem?_eq_none (by rw [tb_len]; exact hj)]
theorem info16 : (Try.prog.info? 41).map (·.size) = some 16 := by kernel_rfl

set_option maxRecDepth 100000 in
set_option maxHeartbeats 1600000 in
theorem halves_any (w : World) : Calls Try.prog 25 #[] w fun e w' => e = .returned (.agg (cqs (tb 16)).toArray) ∧ Below w.heap.size w w' := by
  go_enter Try.func25, Try.ntmps25
  go_wp2
  go_loopw [3] (fun i wr => ∃ k : Nat, k ≤ 16 ∧ i = .int .i64 k ∧ Blk wr w.heap.size 41 (cqs (tb 0)) ∧ Blk wr (w.heap.size + 1) 41 (cqs (tb k)) ∧ Below w.heap.size w wr) (fun i _ => 16 - (intOf i).toNat)
  case atStart =>
    exact ⟨0, by omega, rfl, (Blk.new rfl rfl).old _, Blk.new rfl (by simp), ((Below.refl _ _).alloc (Nat.le_refl _) _).alloc (by simp) _⟩
  case round =>
    obtain ⟨k, hk, rfl, hR, hD, hnx⟩ := hrel
    by_cases hlt : k < 16
    · have i0 : (0 : Int) ≤ (k : Int) := by omega
      have i1 : (k : Int) < 16 := by omega
      have ic : ((UInt64.ofNat k).toNat : Int) = (k : Int) := by
        rw [UInt64.toNat_ofNat']; omega
      have d0 := hD.cell (i := k) (v := cq ((tb k).getD k 0)) (by
        rw [cqs_get, List.getElem?_eq_getElem (by rw [tb_len]; exact hlt), List.getD_eq_getElem?_getD, List.getElem?_eq_getElem (by rw [tb_len]; exact hlt)]; rfl)
      have f0 := hD.free k
      generalize cq ((tb k).getD k 0) = old at *
      have Hs := Lib.hid (tb_set hlt)
      have hsh := fun w => shifted_any (UInt64.ofNat k) 4 w (by decide)
      rw [ic] at hsh
      have Hsh := Lib.hid hsh
      clear hsh ic
      have Hk := Lib.hid hk
      have Hb := Lib.hid (And.intro hR (And.intro hD hnx))
      clear hk hR hD hnx
      go_wp2_with fail
      refine (Hsh.out _).mono ?_
      rintro e w' ⟨rfl, rfl⟩
      go_wp2_with fail
      go_roundw
      case rel =>
        have hs := Hb.out.2.1.set_ k (cq (halfC k))
        rw [Hs.out] at hs
        exact ⟨k + 1, by omega, by go_num, Hb.out.1.far (by dsimp only; omega) _, hs, Hb.out.2.2.setCell (by dsimp only; omega) _⟩
      case measure => simp [intOf]; omega
    · have e : k = 16 := by omega
      subst e
      have i3 : ¬ ((16 : Nat) : Int) < 16 := by omega
      obtain ⟨D, hD16, hDv, hD1⟩ : ∃ D : List Value, D.length = 16 ∧ cqs (tb 16) = D ∧ D.toArray.all (·.oneCell') = true := ⟨cqs (tb 16), by rw [cqs_length, tb_len], rfl, cqs_one' _⟩
      rw [hDv] at hD
      have hsz2 : D.toArray.size = 16 := by rw [List.size_toArray]; exact hD16
      have hth : wr.there w.heap.size 0 D.toArray.size := by
        have e := hR.there
        rw [cqs_length, tb_len] at e
        rw [hsz2]; exact e
      have hi : (Try.prog.info? 41).map (·.size) = some D.toArray.size := by rw [hsz2]; exact info16
      have hR' := hR.setAll (vs := D) (by rw [hD16, cqs_length, tb_len])
      have hnx' : Below w.heap.size w (wr.setCells w.heap.size 0 D) := Below.setCells (Nat.le_refl _) _ hnx
      have Hi := Lib.hid hi
      have Hth := Lib.hid hth
      have Hq := Lib.hid (And.intro hR' (And.intro hnx' (And.intro hDv hD1)))
      clear hk hlt hR hnx hth hi hR' hnx' hDv hD1 hsz2 hD16
      go_wp2_with (first
        | refine wpList_load_row rfl 41 _ rfl (w.heap.size + 1) rfl 41 D.toArray (0, 0) _ hD Try.underlying41 rfl Hi.out ?_
        | refine wpList_store_mid rfl 41 _ _ rfl w.heap.size 0 D.toArray rfl rfl Hth.out Hi.out Hq.out.2.2.2 ?_)
      all_goals exact bodyPost_ret (results_cell_row rfl _ _ w.heap.size 41 D.toArray (0, 0) _ rfl Hq.out.1 Try.underlying41 rfl Hi.out) rfl ⟨by rw [Hq.out.2.2.1], Hq.out.2.1⟩

set_option maxRecDepth 100000 in
set_option maxHeartbeats 800000 in
theorem shift_any (s : UInt64) (g : Nat) (w : World) (hB : Blk w g 41 (cqs (tb 16))) :
    Calls Try.prog 26 #[.pointer (some ⟨g, 0, none⟩), .int .u64 (s.toNat : Int)] w fun e w' => e = .returned (.int .u64 ((shn 4 s).toNat : Int)) ∧ w' = w := by
  obtain ⟨h, hh⟩ : ∃ h, s.toNat % 16 = h := ⟨_, rfl⟩
  have hh16 : h < 16 := by omega
  have hm : (s.toNat : Int) % 16 = (h : Int) := by omega
  have hmt : Int.tmod (s.toNat : Int) 16 = (h : Int) := by rw [Int.tmod_eq_emod_of_nonneg (by omega)]; exact hm
  have hsh : shn 4 s = (s >>> 4) ^^^ halfC h := by rw [shn_half s, hh]; rfl
  have c0 := hB.cell (i := h) (v := .int .u64 ((halfC h).toNat : Int)) (by rw [cqs_get, tb_at hh16, if_pos hh16]; rfl)
  have hx := q_xor (s >>> 4) (halfC h)
  have hr := q_shr s 4 (by omega)
  have e4 : s >>> UInt64.ofNat 4 = s >>> 4 := rfl
  rw [e4] at hr
  have j0 : (0 : Int) ≤ (h : Int) := by omega
  have j1 : (h : Int) < 16 := by omega
  have e16 : (2 : Int) ^ 4 = (16 : Int) := rfl
  rw [e16] at hr
  have hr2 : Hid ((s.toNat : Int) / (16 : Int) = ((s >>> 4).toNat : Int)) := hr
  have Hsh := Lib.hid hsh
  generalize (halfC h) = y at *
  clear hh hB hsh e4 hr e16
  go_enter Try.func26, Try.ntmps26
  go_wp2_with fail
  go_ret
  refine ⟨?_, rfl⟩
  show Ending.returned (.int .u64 (bits .xor .u64 ((s.toNat : Int) / 16) (y.toNat : Int))) = _
  rw [Hsh.out, hr2.out, hx]

set_option maxRecDepth 100000 in
set_option maxHeartbeats 1600000 in
theorem add_any (s : UInt64) (A : Option Addr) (c n : Nat) (xs : List UInt8) (w : World) (hA : Bs w A xs) (hn : xs.length = n) (hl : n ≤ maxLen) :
    Calls Try.prog 21 #[.int .u64 (s.toNat : Int), .slice A n c] w fun e w' => e = .returned (.int .u64 ((addC s xs).toNat : Int)) ∧ Below w.heap.size w w' := by
  unfold maxLen at hl
  rcases Nat.eq_zero_or_pos n with h0 | h0
  · have hx : xs = [] := List.eq_nil_of_length_eq_zero (by omega)
    subst hx
    subst h0
    rw [addC_nil]
    clear hn hl
    go_enter Try.func21, Try.ntmps21
    go_wp2
    go_ret
    exact ⟨rfl, Below.refl _ _⟩
  · have hz : ((n : Int) == 0) = false := by simp; omega
    have Hn := Lib.hid (And.intro hn hl)
    obtain ⟨D, hD16, hDv, hD1⟩ : ∃ D : List Value, D.length = 16 ∧ cqs (tb 16) = D ∧ D.toArray.all (·.oneCell') = true := ⟨cqs (tb 16), by rw [cqs_length, tb_len], rfl, cqs_one' _⟩
    have hhv := halves_any
    rw [hDv] at hhv
    have Hhv := Lib.hid hhv
    have hsz2 : D.toArray.size = 16 := by rw [List.size_toArray]; exact hD16
    have hi : (Try.prog.info? 41).map (·.size) = some D.toArray.size := by rw [hsz2]; exact info16
    have hsg : IntKind.u64.signed = false := rfl
    have hq : bits .xor .u64 IntKind.u64.max (s.toNat : Int) = ((~~~s).toNat : Int) := q_not s
    obtain ⟨t, ht⟩ : ∃ t, ~~~s = t := ⟨_, rfl⟩
    rw [ht] at hq
    have Ht := Lib.hid ht
    clear ht
    have HD := Lib.hid (And.intro hD16 (And.intro hDv (And.intro hD1 (And.intro hsz2 hi))))
    clear hn hhv hD16 hDv hD1 hsz2 hi h0
    go_enter Try.func21, Try.ntmps21
    go_wp2_with fail
    refine (Hhv.out _).mono ?_
    rintro e w1 ⟨rfl, b1⟩
    have hB0 : Blk (w1.alloc (.cells (cqs (tb 0)).toArray 41)) w1.heap.size 41 (cqs (tb 0)) := Blk.new rfl rfl
    have hth : (w1.alloc (.cells (cqs (tb 0)).toArray 41)).there w1.heap.size 0 D.toArray.size := by
      have e := hB0.there
      rw [cqs_length, tb_len] at e
      rw [HD.out.2.2.2.1]; exact e
    have hB1 := hB0.setAll (vs := D) (by rw [HD.out.1, cqs_length, tb_len])
    rw [← HD.out.2.1] at hB1
    have hb1 := Below.setCells b1.size (cqs (tb 16)) (o := 0) (b1.alloc b1.size (.cells (cqs (tb 0)).toArray 41))
    have hz0 : (cqs (tb 0)).toArray = #[.int .u64 0, .int .u64 0, .int .u64 0, .int .u64 0, .int .u64 0, .int .u64 0, .int .u64 0, .int .u64 0, .int .u64 0, .int .u64 0, .int .u64 0, .int .u64 0, .int .u64 0, .int .u64 0, .int .u64 0, .int .u64 0] := rfl
    rw [hz0] at hth hB1 hb1
    rw [HD.out.2.1] at hB1 hb1
    have Hth := Lib.hid hth
    have HB := Lib.hid (And.intro hB1 (And.intro hb1 b1.size))
    clear hB0 hth hB1 hb1 b1 hz0
    go_wp2_with (refine wpList_store_mid rfl 41 _ _ rfl w1.heap.size 0 D.toArray rfl rfl Hth.out HD.out.2.2.2.2 HD.out.2.2.1 ?_)
    clear hq
    generalize (w1.alloc (.cells #[.int .u64 0, .int .u64 0, .int .u64 0, .int .u64 0, .int .u64 0, .int .u64 0, .int .u64 0, .int .u64 0, .int .u64 0, .int .u64 0, .int .u64 0, .int .u64 0, .int .u64 0, .int .u64 0, .int .u64 0, .int .u64 0] 41)).setCells w1.heap.size 0 D = w2 at *
    generalize w1.heap.size = g at *
    have HB2 : Hid (Blk w2 g 41 (cqs (tb 16)) ∧ Below w.heap.size w w2) := by rw [HD.out.2.1]; exact ⟨HB.out.1, HB.out.2.1⟩
    clear Hth HB HD Hhv
    obtain ⟨D', hD'⟩ : ∃ D', D' = D := ⟨_, rfl⟩
    go_loopw [18, 6] (fun i v wr => ∃ k : Nat, k ≤ n ∧ i = .int .i64 k ∧ v = .int .u64 ((runC t (xs.take k)).toNat : Int) ∧ wr = w2) (fun i _ _ => n - (intOf i).toNat)
    case atStart => exact ⟨0, Nat.zero_le _, rfl, rfl, rfl⟩
    case round =>
      obtain ⟨k, hk, rfl, rfl, rfl⟩ := hrel
      by_cases hlt : k < n
      · have hkx : k < xs.length := by rw [Hn.out.1]; exact hlt
        obtain ⟨b, off, rfl, hb, hc⟩ := (hA.on HB2.out.2).at_ (i := k) hkx
        have g0 := hc k hkx
        have hr := runC_succ t xs k hkx
        obtain ⟨y, hy⟩ : ∃ y, runC t (xs.take k) = y := ⟨_, rfl⟩
        obtain ⟨c0, hc0⟩ : ∃ c0, xs[k] = c0 := ⟨_, rfl⟩
        rw [hy, hc0] at hr
        rw [hy]
        rw [hc0] at g0
        have hqb := q_byte y c0
        have hcm : (c0.toNat : Int) % 18446744073709551616 = (c0.toNat : Int) := by have := c0.toNat_lt; omega
        have hi0 : (0 : Int) ≤ k := by omega
        have hi1 : (k : Int) < n := by omega
        have Hr := Lib.hid (And.intro hr hk)
        have Hs1 := Lib.hid (shift_any (y ^^^ c0.toUInt64) g wr HB2.out.1)
        have Hs2 := Lib.hid (shift_any (shn 4 (y ^^^ c0.toUInt64)) g wr HB2.out.1)
        have e8 : shn 4 (shn 4 (y ^^^ c0.toUInt64)) = stepC y c0 := (shn_add 4 4 _).symm
        rw [e8] at Hs2
        clear hc hr hy hc0 hk e8
        go_wp2_with fail
        refine Hs1.out.mono ?_
        rintro e w' ⟨rfl, rfl⟩
        clear hqb hcm
        go_wp2_with fail
        refine Hs2.out.mono ?_
        rintro e w' ⟨rfl, rfl⟩
        go_wp2_with fail
        go_roundw
        case rel => exact ⟨k + 1, by omega, by go_num, by rw [Hr.out.1], trivial⟩
        case measure => simp [intOf]; omega
      · have e : k = n := by omega
        subst e
        have ht : xs.take k = xs := List.take_of_length_le (by rw [Hn.out.1]; exact Nat.le_refl _)
        rw [ht]
        obtain ⟨y, hy⟩ : ∃ y, runC t xs = y := ⟨_, rfl⟩
        obtain ⟨z, hz1⟩ : ∃ z, ~~~y = z := ⟨_, rfl⟩
        have Hfin : Hid (addC s xs = z) := by show _ = _; unfold addC; rw [Ht.out, hy, hz1]
        have hq : bits .xor .u64 IntKind.u64.max (y.toNat : Int) = (z.toNat : Int) := by rw [← hz1]; exact q_not y
        rw [hy]
        have i2 : ¬ (k : Int) < (k : Int) := by omega
        clear hy hz1 ht hk hlt
        go_wp2
        go_ret
        exact ⟨by rw [Hfin.out]; rfl, HB2.out.2⟩

theorem of_any (A : Option Addr) (c n : Nat) (xs : List UInt8) (w : World) (hA : Bs w A xs) (hn : xs.length = n) (hl : n ≤ maxLen) :
    Calls Try.prog 18 #[.slice A n c] w fun e w' => e = .returned (.int .u64 ((ofC xs).toNat : Int)) ∧ Below w.heap.size w w' := by
  have Hadd := Lib.hid (add_any 0 A c n xs w hA hn hl)
  clear hA hn hl
  go_enter Try.func18, Try.ntmps18
  go_wp2_with fail
  refine Hadd.out.mono ?_
  rintro e w' ⟨rfl, hb⟩
  go_wp2_with fail
  go_ret
  exact ⟨rfl, hb⟩
end Go.Proofs.Ytdfphefhabgjhaa
