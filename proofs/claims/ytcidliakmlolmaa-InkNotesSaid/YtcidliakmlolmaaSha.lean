/-
  The digest's words, as functions on lists; nothing of the program.
-/
import Derived.Test.YtcidliakmlolmaaWord
namespace Go.Proofs.Ytcidliakmlolmaa
set_option linter.unusedVariables false

def s0 (x : UInt32) : UInt32 := rotr x 7 ^^^ rotr x 18 ^^^ (x >>> UInt32.ofNat 3)
def s1 (x : UInt32) : UInt32 := rotr x 17 ^^^ rotr x 19 ^^^ (x >>> UInt32.ofNat 10)
def be4 (a b c d : UInt8) : UInt32 := UInt32.ofNat (a.toNat * 16777216 + b.toNat * 65536 + c.toNat * 256 + d.toNat)
/-- The schedule's word t of a block. -/
def wt (bs : List UInt8) (t : Nat) : UInt32 :=
  if h : t < 16 then be4 (bs.getD (4 * t) 0) (bs.getD (4 * t + 1) 0) (bs.getD (4 * t + 2) 0) (bs.getD (4 * t + 3) 0)
  else wt bs (t - 16) + s0 (wt bs (t - 15)) + wt bs (t - 7) + s1 (wt bs (t - 2))
termination_by t
decreasing_by all_goals omega
theorem wt_low {bs : List UInt8} {t : Nat} (h : t < 16) : wt bs t = be4 (bs.getD (4 * t) 0) (bs.getD (4 * t + 1) 0) (bs.getD (4 * t + 2) 0) (bs.getD (4 * t + 3) 0) := by
  rw [wt, dif_pos h]
theorem wt_high {bs : List UInt8} {t : Nat} (h : 16 ≤ t) : wt bs t = wt bs (t - 16) + s0 (wt bs (t - 15)) + wt bs (t - 7) + s1 (wt bs (t - 2)) := by
  rw [wt, dif_neg (by omega)]

/-- The schedule while it is made: the first k words stand. -/
def sch (bs : List UInt8) (k : Nat) : List UInt32 := (List.range 64).map fun j => if j < k then wt bs j else 0
theorem sch_len (bs : List UInt8) (k : Nat) : (sch bs k).length = 64 := by simp [sch]
theorem sch_at {bs : List UInt8} {k j : Nat} (h : j < k) (hj : j < (sch bs k).length) : (sch bs k)[j] = wt bs j := by simp [sch, h]
theorem sch_set (bs : List UInt8) (k : Nat) : (sch bs k).set k (wt bs k) = sch bs (k + 1) := by
  apply List.ext_getElem
  · simp [sch]
  · intro i h1 h2
    rw [List.getElem_set]
    by_cases h : k = i
    · subst h; simp [sch]
    · simp only [h, if_false]
      simp only [sch, List.getElem_map, List.getElem_range]
      by_cases h3 : i < k
      · rw [if_pos h3, if_pos (by omega)]
      · rw [if_neg h3, if_neg (by omega)]

def cws (l : List UInt32) : List Value := l.map cw

theorem be4_toNat (a b c d : UInt8) : ((be4 a b c d).toNat : Int) = (a.toNat : Int) * 16777216 + (b.toNat : Int) * 65536 + (c.toNat : Int) * 256 + (d.toNat : Int) := by
  have := a.toNat_lt; have := b.toNat_lt; have := c.toNat_lt; have := d.toNat_lt
  unfold be4
  rw [UInt32.toNat_ofNat', Nat.mod_eq_of_lt (by omega)]
  simp

theorem w_lit3 (x : UInt32) : (x.toNat : Int) / 8 = ((x >>> UInt32.ofNat 3).toNat : Int) := w_shr x 3 (by decide)
theorem w_lit10 (x : UInt32) : (x.toNat : Int) / 1024 = ((x >>> UInt32.ofNat 10).toNat : Int) := w_shr x 10 (by decide)
theorem cw_be4 (a b c d : UInt8) : Value.int .u32 ((a.toNat : Int) * 16777216 + (b.toNat : Int) * 65536 + (c.toNat : Int) * 256 + (d.toNat : Int)) = cw (be4 a b c d) := by
  unfold cw; rw [be4_toNat]
end Go.Proofs.Ytcidliakmlolmaa
