/-
  The statements' own helper: works.
-/
import Derived.Test.YtkmijmlcijbbcaaTagK
namespace Go.Proofs.Ytkmijmlcijbbcaa
open Go.RowKit Go.Maps
set_option linter.unusedVariables false

set_option maxRecDepth 100000 in
set_option maxHeartbeats 3200000 in
theorem works4_any (w : World) : Calls Try.prog 20 #[] w fun e w' => e = .returned (.bool true) ∧ Below w.heap.size w w' := by
  have hnot : ∀ (x : Bool) (w : World), (Op.unary .not (.bool x)).run Try.prog w = .ok (.bool (!x)) w := fun _ _ => rfl
  obtain ⟨D1, hD1, hl1, ho1, hdig1⟩ := ku_digest 1 w
  obtain ⟨D2, hD2, hl2, ho2, hdig2⟩ := ku_digest 2 w
  have HD1 := Lib.hid hD1
  have HD2 := Lib.hid hD2
  have Hdig1 := Lib.hid hdig1
  have Hdig2 := Lib.hid hdig2
  have Ho := Lib.hid (And.intro ho1 ho2)
  clear hD1 hD2 hdig1 hdig2 ho1 ho2
  go_enter Try.func20, Try.ntmps20
  go_wp2_with fail
  refine (ku_new w w (Below.refl _ _)).mono ?_
  rintro e w1 ⟨g, m, rfl, hg, hm, hk, hb⟩
  have K1 := Lib.hid (And.intro hk (And.intro hk.1.1.lt hk.1.2.lt))
  clear hg hm hk hb
  go_wp2_with fail
  refine (Hdig1.out w1).mono ?_
  rintro e w2 ⟨rfl, hb2⟩
  have B2 := Lib.hid hb2
  clear hb2
  go_wp2_with fail
  refine (Hdig2.out w2).mono ?_
  rintro e w3 ⟨rfl, hb3⟩
  obtain ⟨wS, hwS, th1, th2, hi1, hi2, hA, hB, hbS⟩ := two_local w3 D1 D2 hl1 hl2
  have hb23 := B2.out.trans (hb3.mono B2.out.size)
  have K := Lib.hid (And.intro (Ku.below (Ku.below K1.out.1 hb23) hbS) (And.intro hA hB))
  have hn1 : ¬ GM g m w3.heap.size := fun e => by
    have h1 := K1.out.2
    have h2 := hb23.size
    rcases e with e | e <;> omega
  have hn2 : ¬ GM g m (w3.heap.size + 1) := fun e => by
    have h1 := K1.out.2
    have h2 := hb23.size
    rcases e with e | e <;> omega
  have Hn := Lib.hid (And.intro hn1 hn2)
  have Hst := Lib.hid (And.intro th1 (And.intro th2 (And.intro hi1 (And.intro hi2 hwS))))
  clear hwS th1 th2 hi1 hi2 hA hB hbS hb3 hb23 hn1 hn2 B2 K1 hl1 hl2
  go_wp2_with (first
    | (refine wpList_store_mid rfl 28 _ _ rfl (w3.heap.size + 1) 0 D2.toArray rfl rfl Hst.out.2.1 Hst.out.2.2.2.1 Ho.out.2 ?_; simp only [Act.put]; refine cast (congrArg (fun z => wpList _ _ _ _ _ z) Hst.out.2.2.2.2.symm) ?_)
    | (refine wpList_store_mid rfl 28 _ _ rfl w3.heap.size 0 D1.toArray rfl rfl Hst.out.1 Hst.out.2.2.1 Ho.out.1 ?_; simp only [Act.put])
    | (refine load_row_g (by rfl) 28 _ rfl w3.heap.size rfl 28 D1.toArray (0, 0) _ K.out.2.1 Try.underlying28 rfl Hst.out.2.2.1 ?_; simp only [Act.put]))
  refine (ku_tagE 1 2 (dg 1) D1 0 [(1, 2, dg 1)] K.out.1 (by decide) (by decide) (by decide) (dg_len 1) HD1.out (by decide) (by decide +kernel)).mono ?_
  rintro e w4 ⟨rfl, hk, ho⟩
  have K' := Lib.hid (And.intro hk (And.intro (ho.blk K.out.2.1 Hn.out.1) (ho.blk K.out.2.2 Hn.out.2)))
  clear hk ho K
  have K := K'
  clear K'
  go_wp2_with (first
    | (refine load_row_g (by rfl) 28 _ rfl w3.heap.size rfl 28 D1.toArray (0, 0) _ K.out.2.1 Try.underlying28 rfl Hst.out.2.2.1 ?_; simp only [Act.put])
    | (refine load_row_g (by rfl) 28 _ rfl (w3.heap.size + 1) rfl 28 D2.toArray (0, 0) _ K.out.2.2 Try.underlying28 rfl Hst.out.2.2.2.1 ?_; simp only [Act.put])
    | (refine load_row_g (by rfl) 28 _ rfl (w3.heap.size + 1) rfl 28 D2.toArray (0, 0) _ (K.out.2.2.old _) Try.underlying28 rfl Hst.out.2.2.2.1 ?_; simp only [Act.put]))
  refine (ku_checkE 1 2 (dg 1) D1 true K.out.1 (by decide) (by decide) (by decide) (dg_len 1) HD1.out (by decide +kernel)).mono ?_
  rintro e w5 ⟨rfl, hk, ho⟩
  have K' := Lib.hid (And.intro hk (And.intro (ho.blk K.out.2.1 Hn.out.1) (ho.blk K.out.2.2 Hn.out.2)))
  clear hk ho K
  have K := K'
  clear K'
  go_wp2_with (first
    | (refine load_row_g (by rfl) 28 _ rfl w3.heap.size rfl 28 D1.toArray (0, 0) _ K.out.2.1 Try.underlying28 rfl Hst.out.2.2.1 ?_; simp only [Act.put])
    | (refine load_row_g (by rfl) 28 _ rfl (w3.heap.size + 1) rfl 28 D2.toArray (0, 0) _ K.out.2.2 Try.underlying28 rfl Hst.out.2.2.2.1 ?_; simp only [Act.put])
    | (refine load_row_g (by rfl) 28 _ rfl (w3.heap.size + 1) rfl 28 D2.toArray (0, 0) _ (K.out.2.2.old _) Try.underlying28 rfl Hst.out.2.2.2.1 ?_; simp only [Act.put]))
  refine (ku_checkE 1 3 (dg 1) D1 false K.out.1 (by decide) (by decide) (by decide) (dg_len 1) HD1.out (by decide +kernel)).mono ?_
  rintro e w6 ⟨rfl, hk, ho⟩
  have K' := Lib.hid (And.intro hk (And.intro (ho.blk K.out.2.1 Hn.out.1) (ho.blk K.out.2.2 Hn.out.2)))
  clear hk ho K
  have K := K'
  clear K'
  go_wp2_with (first
    | (refine load_row_g (by rfl) 28 _ rfl w3.heap.size rfl 28 D1.toArray (0, 0) _ K.out.2.1 Try.underlying28 rfl Hst.out.2.2.1 ?_; simp only [Act.put])
    | (refine load_row_g (by rfl) 28 _ rfl (w3.heap.size + 1) rfl 28 D2.toArray (0, 0) _ K.out.2.2 Try.underlying28 rfl Hst.out.2.2.2.1 ?_; simp only [Act.put])
    | (refine load_row_g (by rfl) 28 _ rfl (w3.heap.size + 1) rfl 28 D2.toArray (0, 0) _ (K.out.2.2.old _) Try.underlying28 rfl Hst.out.2.2.2.1 ?_; simp only [Act.put]))
  refine (ku_checkE 2 1 (dg 1) D1 false K.out.1 (by decide) (by decide) (by decide) (dg_len 1) HD1.out (by decide +kernel)).mono ?_
  rintro e w7 ⟨rfl, hk, ho⟩
  have K' := Lib.hid (And.intro hk (And.intro (ho.blk K.out.2.1 Hn.out.1) (ho.blk K.out.2.2 Hn.out.2)))
  clear hk ho K
  have K := K'
  clear K'
  go_wp2_with (first
    | (refine load_row_g (by rfl) 28 _ rfl w3.heap.size rfl 28 D1.toArray (0, 0) _ K.out.2.1 Try.underlying28 rfl Hst.out.2.2.1 ?_; simp only [Act.put])
    | (refine load_row_g (by rfl) 28 _ rfl (w3.heap.size + 1) rfl 28 D2.toArray (0, 0) _ K.out.2.2 Try.underlying28 rfl Hst.out.2.2.2.1 ?_; simp only [Act.put])
    | (refine load_row_g (by rfl) 28 _ rfl (w3.heap.size + 1) rfl 28 D2.toArray (0, 0) _ (K.out.2.2.old _) Try.underlying28 rfl Hst.out.2.2.2.1 ?_; simp only [Act.put]))
  refine (ku_checkE 1 2 (dg 2) D2 false K.out.1 (by decide) (by decide) (by decide) (dg_len 2) HD2.out (by decide +kernel)).mono ?_
  rintro e w8 ⟨rfl, hk, ho⟩
  have K' := Lib.hid (And.intro hk (And.intro (ho.blk K.out.2.1 Hn.out.1) (ho.blk K.out.2.2 Hn.out.2)))
  clear hk ho K
  have K := K'
  clear K'
  go_wp2_with (first
    | (refine load_row_g (by rfl) 28 _ rfl w3.heap.size rfl 28 D1.toArray (0, 0) _ K.out.2.1 Try.underlying28 rfl Hst.out.2.2.1 ?_; simp only [Act.put])
    | (refine load_row_g (by rfl) 28 _ rfl (w3.heap.size + 1) rfl 28 D2.toArray (0, 0) _ K.out.2.2 Try.underlying28 rfl Hst.out.2.2.2.1 ?_; simp only [Act.put])
    | (refine load_row_g (by rfl) 28 _ rfl (w3.heap.size + 1) rfl 28 D2.toArray (0, 0) _ (K.out.2.2.old _) Try.underlying28 rfl Hst.out.2.2.2.1 ?_; simp only [Act.put]))
  refine (ku_tagE 31 0 (dg 1) D1 0 [(1, 2, dg 1), (31, 0, dg 1)] K.out.1 (by decide) (by decide) (by decide) (dg_len 1) HD1.out (by decide) (by decide +kernel)).mono ?_
  rintro e w9 ⟨rfl, hk, ho⟩
  have K' := Lib.hid (And.intro hk (And.intro (ho.blk K.out.2.1 Hn.out.1) (ho.blk K.out.2.2 Hn.out.2)))
  clear hk ho K
  have K := K'
  clear K'
  go_wp2_with (first
    | (refine load_row_g (by rfl) 28 _ rfl w3.heap.size rfl 28 D1.toArray (0, 0) _ K.out.2.1 Try.underlying28 rfl Hst.out.2.2.1 ?_; simp only [Act.put])
    | (refine load_row_g (by rfl) 28 _ rfl (w3.heap.size + 1) rfl 28 D2.toArray (0, 0) _ K.out.2.2 Try.underlying28 rfl Hst.out.2.2.2.1 ?_; simp only [Act.put])
    | (refine load_row_g (by rfl) 28 _ rfl (w3.heap.size + 1) rfl 28 D2.toArray (0, 0) _ (K.out.2.2.old _) Try.underlying28 rfl Hst.out.2.2.2.1 ?_; simp only [Act.put]))
  refine (ku_checkE 31 9 (dg 1) D1 true K.out.1 (by decide) (by decide) (by decide) (dg_len 1) HD1.out (by decide +kernel)).mono ?_
  rintro e w10 ⟨rfl, hk, ho⟩
  have K' := Lib.hid (And.intro hk (And.intro (ho.blk K.out.2.1 Hn.out.1) (ho.blk K.out.2.2 Hn.out.2)))
  clear hk ho K
  have K := K'
  clear K'
  go_wp2_with (first
    | (refine load_row_g (by rfl) 28 _ rfl w3.heap.size rfl 28 D1.toArray (0, 0) _ K.out.2.1 Try.underlying28 rfl Hst.out.2.2.1 ?_; simp only [Act.put])
    | (refine load_row_g (by rfl) 28 _ rfl (w3.heap.size + 1) rfl 28 D2.toArray (0, 0) _ K.out.2.2 Try.underlying28 rfl Hst.out.2.2.2.1 ?_; simp only [Act.put])
    | (refine load_row_g (by rfl) 28 _ rfl (w3.heap.size + 1) rfl 28 D2.toArray (0, 0) _ (K.out.2.2.old _) Try.underlying28 rfl Hst.out.2.2.2.1 ?_; simp only [Act.put]))
  refine (ku_vecE 1 _ 2 2 [2, 3] (dg 2) D2 0 [(1, 2, dg 1), (31, 0, dg 1), (1, 2, dg 2), (1, 3, dg 2)] (K.out.1.below ((Below.refl _ _).alloc (Nat.le_refl _) _)) (by decide) (by decide) (ArgI.made _ _ _ _ [2, 3] 2 rfl rfl (by decide) (by decide)) (dg_len 2) HD2.out (by decide) (by decide +kernel)).mono ?_
  rintro e w11 ⟨rfl, hk, ho⟩
  have K' := Lib.hid (And.intro hk (And.intro (ho.blk (K.out.2.1.old _) Hn.out.1) (ho.blk (K.out.2.2.old _) Hn.out.2)))
  clear hk ho K
  have K := K'
  clear K'
  go_wp2_with (first
    | (refine load_row_g (by rfl) 28 _ rfl w3.heap.size rfl 28 D1.toArray (0, 0) _ K.out.2.1 Try.underlying28 rfl Hst.out.2.2.1 ?_; simp only [Act.put])
    | (refine load_row_g (by rfl) 28 _ rfl (w3.heap.size + 1) rfl 28 D2.toArray (0, 0) _ K.out.2.2 Try.underlying28 rfl Hst.out.2.2.2.1 ?_; simp only [Act.put])
    | (refine load_row_g (by rfl) 28 _ rfl (w3.heap.size + 1) rfl 28 D2.toArray (0, 0) _ (K.out.2.2.old _) Try.underlying28 rfl Hst.out.2.2.2.1 ?_; simp only [Act.put]))
  refine (ku_checkE 1 3 (dg 2) D2 true K.out.1 (by decide) (by decide) (by decide) (dg_len 2) HD2.out (by decide +kernel)).mono ?_
  rintro e w12 ⟨rfl, hk, ho⟩
  have K' := Lib.hid (And.intro hk (And.intro (ho.blk K.out.2.1 Hn.out.1) (ho.blk K.out.2.2 Hn.out.2)))
  clear hk ho K
  have K := K'
  clear K'
  have Hlen := Lib.hid (len_any g m _ _ _ K.out.1.1)
  have Hask := Lib.hid (asked_any g m _ _ _ K.out.1.1)
  go_wp2_with (first
    | (go_at_call 16; refine Hlen.out.mono ?_; rintro e w' ⟨rfl, rfl⟩)
    | (go_at_call 18; refine Hask.out.mono ?_; rintro e w' ⟨rfl, rfl⟩))
  go_ret
  exact ⟨rfl, K.out.1.bel⟩
end Go.Proofs.Ytkmijmlcijbbcaa
