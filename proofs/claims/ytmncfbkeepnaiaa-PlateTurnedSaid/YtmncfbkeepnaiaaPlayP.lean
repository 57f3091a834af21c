/-
  Puts to a plate of eight sectors, as plain lists.
-/
import Derived.Test.YtmncfbkeepnaiaaAw
import Derived.Test.YtmncfbkeepnaiaaArgs
namespace Go.Proofs.Ytmncfbkeepnaiaa
open Go.RowKit
set_option linter.unusedVariables false

def bk (x : Int) : Nat := (x % 8).toNat
theorem bk_lt (x : Int) : bk x < 8 := by unfold bk; omega
theorem bk_int (x : Int) : x % 8 = (bk x : Int) := by unfold bk; omega
abbrev PS := Pl × List UInt8 × List UInt8
def playS (s : PS) (x : PutL) : PS := if x.fl then ((flushP s.1).2, s.2.2, s.2.2) else ((writeP s.1 (bk x.at_) (fb x.b)).2, s.2.1, s.2.2.set (bk x.at_) x.b)
def z8 : List UInt8 := List.replicate 8 0
def playL (l : List PutL) (P : Pl) : PS := l.foldl playS (P, z8, z8)
theorem playL_snoc (l : List PutL) (x : PutL) (P : Pl) : playL (l ++ [x]) P = playS (playL l P) x := by unfold playL; rw [List.foldl_append]; rfl
theorem playS_len (s : PS) (x : PutL) (h : s.2.1.length = 8 ∧ s.2.2.length = 8) : (playS s x).2.1.length = 8 ∧ (playS s x).2.2.length = 8 := by
  unfold playS
  split
  · exact ⟨h.2, h.2⟩
  · exact ⟨h.1, by rw [List.length_set]; exact h.2⟩
theorem playL_len (l : List PutL) (P : Pl) : (playL l P).2.1.length = 8 ∧ (playL l P).2.2.length = 8 := by
  refine snocInd (P := fun l => (playL l P).2.1.length = 8 ∧ (playL l P).2.2.length = 8) ⟨rfl, rfl⟩ (fun l x ih => ?_) l
  rw [playL_snoc]
  exact playS_len _ _ ih

/-- What the puts have made: what each sector was at the last flush, and what it is. -/
structure Goodp (s : PS) : Prop where
  dead : s.1.dead = false
  ah : s.1.ah = -1
  st : s.1.st.length = 8
  wt : s.1.wt.length = 8
  l1 : s.2.1.length = 8
  l2 : s.2.2.length = 8
  was : ∀ i, i < 8 → s.1.st[i]? = some (fb (s.2.1[i]?.getD 0))
  is_ : ∀ i, i < 8 → seenAt s.1.st s.1.wt i = fb (s.2.2[i]?.getD 0)
theorem good_start : Goodp (newP 8, z8, z8) := by
  refine ⟨rfl, rfl, by simp [newP], by simp [newP], rfl, rfl, fun i hi => ?_, fun i hi => ?_⟩
  · show (List.replicate 8 zero64)[i]? = some (fb ((List.replicate 8 (0 : UInt8))[i]?.getD 0))
    rw [List.getElem?_replicate, List.getElem?_replicate, if_pos hi, if_pos hi]; rfl
  · show seenAt (List.replicate 8 zero64) (List.replicate 8 none) i = fb ((List.replicate 8 (0 : UInt8))[i]?.getD 0)
    unfold seenAt
    rw [List.getElem?_replicate, List.getElem?_replicate, List.getElem?_replicate, if_pos hi, if_pos hi, if_pos hi]; rfl
theorem seen_none {st : List (List UInt8)} {n i : Nat} (hi : i < n) : seenAt st (List.replicate n none) i = st[i]?.getD [] := by
  unfold seenAt
  rw [List.getElem?_replicate, if_pos hi]; rfl
theorem good_step {s : PS} (h : Goodp s) (x : PutL) : Goodp (playS s x) := by
  unfold playS
  cases hf : x.fl with
  | true =>
    simp only [if_true]
    have e : (flushP s.1).2 = { s.1 with st := mixA (fun _ => true) s.1.st s.1.wt, wt := List.replicate s.1.n none } := by
      unfold flushP
      rw [h.dead, if_neg (by decide), if_neg (by rw [h.ah]; decide)]
      unfold count
      rw [if_pos h.ah]
    rw [e]
    have hst : (mixA (fun _ => true) s.1.st s.1.wt).length = 8 := by rw [mixA_length]; exact h.st
    have hget : ∀ i, i < 8 → (mixA (fun _ => true) s.1.st s.1.wt)[i]? = some (fb (s.2.2[i]?.getD 0)) := fun i hi => by
      rw [mixA_get _ _ _ (by rw [h.st]; exact hi), if_pos rfl, h.is_ i hi]
    have hn : s.1.n = 8 := h.st
    refine ⟨h.dead, h.ah, hst, by rw [hn]; simp, h.l2, h.l2, hget, fun i hi => ?_⟩
    show seenAt (mixA (fun _ => true) s.1.st s.1.wt) (List.replicate s.1.n none) i = _
    rw [seen_none (by rw [hn]; exact hi), hget i hi]; rfl
  | false =>
    simp only [Bool.false_eq_true, if_false]
    have hb := bk_lt x.at_
    have hl : lackE s.1 (bk x.at_ : Int) = 0 := by
      unfold lackE Pl.n
      rw [h.dead, if_neg (by decide), if_pos ⟨by omega, by rw [h.st]; omega⟩]
    have e : (writeP s.1 (bk x.at_) (fb x.b)).2 = { s.1 with wt := s.1.wt.set (bk x.at_) (some (fb x.b)) } := by
      unfold writeP
      rw [if_neg (by rw [hl]; decide), if_neg (by rw [fb_len]; decide), if_neg (by rw [h.ah]; decide), Int.toNat_natCast]
      unfold count
      rw [if_pos h.ah]
    rw [e]
    refine ⟨h.dead, h.ah, h.st, by show (s.1.wt.set _ _).length = 8; rw [List.length_set]; exact h.wt, h.l1, by show (s.2.2.set _ _).length = 8; rw [List.length_set]; exact h.l2, h.was, fun i hi => ?_⟩
    show seenAt s.1.st (s.1.wt.set (bk x.at_) (some (fb x.b))) i = fb ((s.2.2.set (bk x.at_) x.b)[i]?.getD 0)
    by_cases hib : i = bk x.at_
    · rw [hib]
      unfold seenAt
      rw [List.getElem?_set_self (by rw [h.wt]; exact hb), List.getElem?_set_self (by rw [h.l2]; exact hb)]; rfl
    · have := h.is_ i hi
      unfold seenAt at this ⊢
      rw [List.getElem?_set_ne (fun e => hib e.symm), List.getElem?_set_ne (fun e => hib e.symm)]
      exact this
theorem good_play (l : List PutL) : Goodp (playL l (newP 8)) := by
  refine snocInd (P := fun l => Goodp (playL l (newP 8))) good_start (fun l x ih => ?_) l
  rw [playL_snoc]
  exact good_step ih x
end Go.Proofs.Ytmncfbkeepnaiaa
