/-
  For all lists l (60 deeds at most are done), all notes and all numbers: what is refused changes nothing, and just what may not be is refused; BagRefused returns true; no condition.
-/
import Derived.Test.YtlecihbclkohjaaOpen
import Derived.Test.YtlecihbclkohjaaAr13
namespace Go.Proofs.Ytlecihbclkohjaa.bagRefused
open Go.ChangeShapes Go.WideShapes Go.ChangeAt Go.RowKit
set_option linter.unusedVariables false

theorem lack9 {b : Bg} {x : Int} {n : Nat} (hn : b.l.length = n) (h : x < 0 ∨ (n : Int) ≤ x) : lackE b x = 9 := by
  unfold lackE
  by_cases h0 : x < 0
  · rw [if_pos h0]
  · rw [if_neg h0, if_pos (by rw [hn]; omega)]
theorem dbl9 {b : Bg} {x : Int} (h : lackE b x = 9) : dblE b x = 9 ∧ dblB b x = b ∧ dropB b x = b ∧ takeB b x = b := by
  have hd : dblE b x = 9 := by unfold dblE; rw [h]; rfl
  refine ⟨hd, ?_, ?_, ?_⟩
  · unfold dblB; rw [hd]; rfl
  · unfold dropB; rw [h]; rfl
  · unfold takeB; rw [h]; rfl
set_option maxRecDepth 100000 in
set_option maxHeartbeats 12800000 in
theorem walk (Al : Option Addr) (nl cl : Nat) (l : List Int) (y : EnH) (x : Int) (w : World) (hl : ArgI w Al nl cl l) (hy : ArgE w y) (hx : (Lit.int .i64 x).wf = true) :
    Calls Try.prog 9 #[.slice Al nl cl, .agg #[.int .i64 y.x.fr, .int .i64 y.x.to, .slice y.a y.n y.c], .int .i64 x] w fun e w' => e = .returned (.bool true) ∧ Below w.heap.size w w' := by
  have hnot : ∀ (x : Bool) (w : World), (Op.unary .not (.bool x)).run Try.prog w = .ok (.bool (!x)) w := fun _ _ => rfl
  have Hl := Lib.hid hl
  clear hl
  obtain ⟨wB, hwB⟩ : ∃ wB, w.alloc (.cells #[.int .i64 y.x.fr, .int .i64 y.x.to, .slice y.a y.n y.c] 29) = wB := ⟨_, rfl⟩
  have bB : Below w.heap.size w wB := by rw [← hwB]; exact (Below.refl _ _).alloc (Nat.le_refl _) _
  have BB : Blk wB w.heap.size 29 [.int .i64 y.x.fr, .int .i64 y.x.to, .slice y.a y.n y.c] := by rw [← hwB]; exact Blk.new rfl rfl
  have zB : wB.heap.size = w.heap.size + 1 := by rw [← hwB]; simp
  have HE := Lib.hid (And.intro bB (And.intro BB hy))
  clear bB BB hy
  go_enter Try.func9, Try.ntmps9
  go_wp2_with fail
  refine (works_any _).mono ?_
  rintro e w1 ⟨rfl, hb0⟩
  have hb1 := HE.out.1.trans (hb0.mono HE.out.1.size)
  have Hb0 := Lib.hid hb0
  clear hb0
  go_wp2_with fail
  refine (played_any Al nl cl l w1 (Hl.out.after hb1)).mono ?_
  rintro e w2 ⟨g, b, A1, n1, c1, put, A2, n2, c2, taken, rfl, hP, hI⟩
  have hlenP : put.length = n1 := let ⟨_, _, _, q⟩ := hP; let ⟨_, _, q⟩ := q.p; q.len
  have hlenT : taken.length = n2 := let ⟨_, _, _, q⟩ := hP; let ⟨_, _, q⟩ := q.t; q.len
  have hn1 : n1 ≤ 60 := by have := hI.pk; omega
  have hn2 : n2 ≤ 60 := by have := hI.sum; have := hI.sk; omega
  obtain ⟨m, hm⟩ : ∃ m, b.l.length = m := ⟨_, rfl⟩
  have hm60 : m ≤ 60 := by have := hI.sum; have := hI.sk; omega
  have hse : b.sent ≤ 60 := by have := hI.sk; omega
  have hlo : b.lost ≤ 60 := by have := hI.sum; have := hI.sk; omega
  obtain ⟨N, V, W, kp⟩ := hP
  have bw := hb1.trans (kp.bk.bel.mono hb1.size)
  have HP := Lib.hid (And.intro kp (And.intro hI (And.intro hlenP (And.intro hlenT (And.intro hm (And.intro hb1 bw))))))
  clear kp hI hlenP hlenT hm hb1 bw
  have hwx := bounds_i64 (x := x) hx
  clear hx
  obtain ⟨s, hs⟩ : ∃ s, b.sent = s := ⟨_, rfl⟩
  obtain ⟨lo, hl0⟩ : ∃ lo, b.lost = lo := ⟨_, rfl⟩
  rw [hs] at hse
  rw [hl0] at hlo
  have Hs := Lib.hid (And.intro hs hl0)
  clear hs hl0
  go_wp2_with fail
  refine (k_len HP.out.1.bk m HP.out.2.2.2.2.1).mono ?_; rintro e w2 ⟨rfl, rfl⟩
  go_wp2_with fail
  refine (k_sent HP.out.1.bk s Hs.out.1).mono ?_; rintro e w2 ⟨rfl, rfl⟩
  have BY := HE.out.2.1.below (Hb0.out.trans (HP.out.1.bk.bel.mono Hb0.out.size)) HE.out.2.1.lt
  have HB := Lib.hid (And.intro BY (HE.out.2.2.1.below HP.out.2.2.2.2.2.2 (fun i hi => hi) (Nat.le_refl _)))
  clear BY
  by_cases c1 : y.x.fr ≥ 1
  · by_cases c2 : y.x.fr ≤ 34
    · by_cases c3 : y.x.to ≥ 1
      · by_cases c4 : y.x.to ≤ 34
        · by_cases c5 : (y.n : Int) ≤ 65536
          · have BY := HB.out.1
            have y0 := BY.cell (i := 0) rfl
            have y1 := BY.cell (i := 1) rfl
            have y2 := BY.cell (i := 2) rfl
            have hyn : y.x.bs.length = y.n := HE.out.2.2.1.1
            have hE : putE b y.x = 0 := by
              unfold putE nmE
              rw [if_neg (by simp; omega), if_neg (by simp; omega), if_neg (by omega), if_neg (by rw [HP.out.2.2.2.2.1]; omega)]
            have hbb : putB b y.x = sendB b y.x := by unfold putB; rw [hE]; rfl
            have HF := Lib.hid (And.intro hE hbb)
            clear BY hE hbb hyn
            go_wp2_with fail
            refine (k_lost HP.out.1.bk lo Hs.out.2).mono ?_; rintro e w2 ⟨rfl, rfl⟩
            go_wp2_with fail
            refine (k_put HP.out.1.bk y HB.out.2 (by have := Hs.out.1; omega) (by have := HE.out.2.2.2; omega) HF.out.1 HF.out.2).mono ?_
            rintro e w3 ⟨rfl, hk, -⟩
            have K3 := Lib.hid hk
            clear hk y0 y1 y2
            have hn2 : (sendB b y.x).l.length = m + 1 := by show (b.l ++ [y.x]).length = _; rw [List.length_append, HP.out.2.2.2.2.1]; rfl
            have hs2 : (sendB b y.x).sent = s + 1 := by show b.sent + 1 = _; rw [Hs.out.1]
            have hl2 : (sendB b y.x).lost = lo := Hs.out.2
            have HN := Lib.hid (And.intro hn2 (And.intro hs2 hl2))
            clear hn2 hs2 hl2
            by_cases hr : 0 ≤ x ∧ x < ((m + 1 : Nat) : Int)
            · obtain ⟨hr0, hr1⟩ := hr
              have hr2 : x < (m : Int) + 1 := by omega
              have hr0' : x ≥ 0 := hr0
              go_wp2_with fail
              refine (k_len K3.out (m + 1) HN.out.1).mono ?_; rintro e w3 ⟨rfl, rfl⟩
              go_wp2_with fail
              refine (k_sent K3.out (s + 1) HN.out.2.1).mono ?_; rintro e w3 ⟨rfl, rfl⟩
              go_wp2_with fail
              refine (k_lost K3.out lo HN.out.2.2).mono ?_; rintro e w3 ⟨rfl, rfl⟩
              go_wp2
              go_ret
              exact ⟨rfl, HP.out.2.2.2.2.2.1.trans (K3.out.bel.mono HP.out.2.2.2.2.2.1.size)⟩
            · have hc : (x < 0 ∨ (0 ≤ x ∧ ¬ x < (m : Int) + 1)) := by omega
              have h9 : lackE (sendB b y.x) x = 9 := lack9 HN.out.1 (by omega)
              have hd := dbl9 h9
              have HD := Lib.hid (And.intro h9 hd)
              clear h9 hd
              rcases hc with hc | ⟨hc0, hc⟩
              · go_wp2_with fail
                refine (k_look K3.out x _ HD.out.1 rfl).mono ?_
                rintro e w4 ⟨xa, xn, xc, M, rfl, hk, hby, -, -⟩
                obtain ⟨z, hz⟩ : ∃ z, lookB (sendB b y.x) x = z := ⟨_, rfl⟩
                rw [hz] at hby ⊢
                obtain ⟨w5, hw5⟩ : ∃ w5, w4.alloc (.cells #[.int .i64 z.fr, .int .i64 z.to, .slice xa xn xc] 29) = w5 := ⟨_, rfl⟩
                have K5 := Lib.hid (box_new hk hby w5 hw5).1
                clear hk hby
                go_wp2_with fail
                refine (k_take K5.out x z HD.out.1 hz HD.out.2.2.2.2).mono ?_
                rintro e w6 ⟨ya, yn, yc, M2, rfl, hk, hby, -, -⟩
                obtain ⟨w7, hw7⟩ : ∃ w7, w6.alloc (.cells #[.int .i64 z.fr, .int .i64 z.to, .slice ya yn yc] 29) = w7 := ⟨_, rfl⟩
                have K7 := Lib.hid (box_new hk hby w7 hw7).1
                clear hk hby hz
                go_wp2_with fail
                refine (k_drop K7.out x (by rw [HN.out.2.2]; omega) HD.out.1 HD.out.2.2.2.1).mono ?_
                rintro e w8 ⟨rfl, hk, -⟩
                have K8 := Lib.hid hk
                clear hk
                go_wp2_with fail
                refine (k_dbl K8.out x (by rw [HN.out.2.1]; omega) HD.out.2.1 HD.out.2.2.1).mono ?_
                rintro e w9 ⟨rfl, hk, -⟩
                have K9 := Lib.hid hk
                clear hk
                go_wp2_with fail
                refine (k_len K9.out (m + 1) HN.out.1).mono ?_; rintro e w9 ⟨rfl, rfl⟩
                go_wp2_with fail
                refine (k_sent K9.out (s + 1) HN.out.2.1).mono ?_; rintro e w9 ⟨rfl, rfl⟩
                go_wp2_with fail
                refine (k_lost K9.out lo HN.out.2.2).mono ?_; rintro e w9 ⟨rfl, rfl⟩
                go_wp2
                go_ret
                exact ⟨rfl, HP.out.2.2.2.2.2.1.trans (K9.out.bel.mono HP.out.2.2.2.2.2.1.size)⟩
              · go_wp2_with fail
                refine (k_look K3.out x _ HD.out.1 rfl).mono ?_
                rintro e w4 ⟨xa, xn, xc, M, rfl, hk, hby, -, -⟩
                obtain ⟨z, hz⟩ : ∃ z, lookB (sendB b y.x) x = z := ⟨_, rfl⟩
                rw [hz] at hby ⊢
                obtain ⟨w5, hw5⟩ : ∃ w5, w4.alloc (.cells #[.int .i64 z.fr, .int .i64 z.to, .slice xa xn xc] 29) = w5 := ⟨_, rfl⟩
                have K5 := Lib.hid (box_new hk hby w5 hw5).1
                clear hk hby
                go_wp2_with fail
                refine (k_take K5.out x z HD.out.1 hz HD.out.2.2.2.2).mono ?_
                rintro e w6 ⟨ya, yn, yc, M2, rfl, hk, hby, -, -⟩
                obtain ⟨w7, hw7⟩ : ∃ w7, w6.alloc (.cells #[.int .i64 z.fr, .int .i64 z.to, .slice ya yn yc] 29) = w7 := ⟨_, rfl⟩
                have K7 := Lib.hid (box_new hk hby w7 hw7).1
                clear hk hby hz
                go_wp2_with fail
                refine (k_drop K7.out x (by rw [HN.out.2.2]; omega) HD.out.1 HD.out.2.2.2.1).mono ?_
                rintro e w8 ⟨rfl, hk, -⟩
                have K8 := Lib.hid hk
                clear hk
                go_wp2_with fail
                refine (k_dbl K8.out x (by rw [HN.out.2.1]; omega) HD.out.2.1 HD.out.2.2.1).mono ?_
                rintro e w9 ⟨rfl, hk, -⟩
                have K9 := Lib.hid hk
                clear hk
                go_wp2_with fail
                refine (k_len K9.out (m + 1) HN.out.1).mono ?_; rintro e w9 ⟨rfl, rfl⟩
                go_wp2_with fail
                refine (k_sent K9.out (s + 1) HN.out.2.1).mono ?_; rintro e w9 ⟨rfl, rfl⟩
                go_wp2_with fail
                refine (k_lost K9.out lo HN.out.2.2).mono ?_; rintro e w9 ⟨rfl, rfl⟩
                go_wp2
                go_ret
                exact ⟨rfl, HP.out.2.2.2.2.2.1.trans (K9.out.bel.mono HP.out.2.2.2.2.2.1.size)⟩
          · have c5' : ¬ ((y.n : Int) ≤ 65536) := c5
            have BY := HB.out.1
            have y0 := BY.cell (i := 0) rfl
            have y1 := BY.cell (i := 1) rfl
            have y2 := BY.cell (i := 2) rfl
            have hyn : y.x.bs.length = y.n := HE.out.2.2.1.1
            have hE : putE b y.x = 5 := by
              unfold putE nmE
              rw [if_neg (by simp; omega), if_neg (by simp; omega), if_pos (by omega)]
            have hbb : putB b y.x = b := by unfold putB; rw [hE]; rfl
            have HF := Lib.hid (And.intro hE hbb)
            clear BY hE hbb hyn
            go_wp2_with fail
            refine (k_lost HP.out.1.bk lo Hs.out.2).mono ?_; rintro e w2 ⟨rfl, rfl⟩
            go_wp2_with fail
            refine (k_put HP.out.1.bk y HB.out.2 (by have := Hs.out.1; omega) (by have := HE.out.2.2.2; omega) HF.out.1 HF.out.2).mono ?_
            rintro e w3 ⟨rfl, hk, -⟩
            have K3 := Lib.hid hk
            clear hk y0 y1 y2
            have hn2 : (b).l.length = m := by exact HP.out.2.2.2.2.1
            have hs2 : (b).sent = s := by exact Hs.out.1
            have hl2 : (b).lost = lo := Hs.out.2
            have HN := Lib.hid (And.intro hn2 (And.intro hs2 hl2))
            clear hn2 hs2 hl2
            by_cases hr : 0 ≤ x ∧ x < ((m : Nat) : Int)
            · obtain ⟨hr0, hr1⟩ := hr
              have hr2 : x < (m : Int) := by omega
              have hr0' : x ≥ 0 := hr0
              go_wp2_with fail
              refine (k_len K3.out (m) HN.out.1).mono ?_; rintro e w3 ⟨rfl, rfl⟩
              go_wp2_with fail
              refine (k_sent K3.out (s) HN.out.2.1).mono ?_; rintro e w3 ⟨rfl, rfl⟩
              go_wp2_with fail
              refine (k_lost K3.out lo HN.out.2.2).mono ?_; rintro e w3 ⟨rfl, rfl⟩
              go_wp2
              go_ret
              exact ⟨rfl, HP.out.2.2.2.2.2.1.trans (K3.out.bel.mono HP.out.2.2.2.2.2.1.size)⟩
            · have hc : (x < 0 ∨ (0 ≤ x ∧ ¬ x < (m : Int))) := by omega
              have h9 : lackE (b) x = 9 := lack9 HN.out.1 (by omega)
              have hd := dbl9 h9
              have HD := Lib.hid (And.intro h9 hd)
              clear h9 hd
              rcases hc with hc | ⟨hc0, hc⟩
              · go_wp2_with fail
                refine (k_look K3.out x _ HD.out.1 rfl).mono ?_
                rintro e w4 ⟨xa, xn, xc, M, rfl, hk, hby, -, -⟩
                obtain ⟨z, hz⟩ : ∃ z, lookB (b) x = z := ⟨_, rfl⟩
                rw [hz] at hby ⊢
                obtain ⟨w5, hw5⟩ : ∃ w5, w4.alloc (.cells #[.int .i64 z.fr, .int .i64 z.to, .slice xa xn xc] 29) = w5 := ⟨_, rfl⟩
                have K5 := Lib.hid (box_new hk hby w5 hw5).1
                clear hk hby
                go_wp2_with fail
                refine (k_take K5.out x z HD.out.1 hz HD.out.2.2.2.2).mono ?_
                rintro e w6 ⟨ya, yn, yc, M2, rfl, hk, hby, -, -⟩
                obtain ⟨w7, hw7⟩ : ∃ w7, w6.alloc (.cells #[.int .i64 z.fr, .int .i64 z.to, .slice ya yn yc] 29) = w7 := ⟨_, rfl⟩
                have K7 := Lib.hid (box_new hk hby w7 hw7).1
                clear hk hby hz
                go_wp2_with fail
                refine (k_drop K7.out x (by rw [HN.out.2.2]; omega) HD.out.1 HD.out.2.2.2.1).mono ?_
                rintro e w8 ⟨rfl, hk, -⟩
                have K8 := Lib.hid hk
                clear hk
                go_wp2_with fail
                refine (k_dbl K8.out x (by rw [HN.out.2.1]; omega) HD.out.2.1 HD.out.2.2.1).mono ?_
                rintro e w9 ⟨rfl, hk, -⟩
                have K9 := Lib.hid hk
                clear hk
                go_wp2_with fail
                refine (k_len K9.out (m) HN.out.1).mono ?_; rintro e w9 ⟨rfl, rfl⟩
                go_wp2_with fail
                refine (k_sent K9.out (s) HN.out.2.1).mono ?_; rintro e w9 ⟨rfl, rfl⟩
                go_wp2_with fail
                refine (k_lost K9.out lo HN.out.2.2).mono ?_; rintro e w9 ⟨rfl, rfl⟩
                go_wp2
                go_ret
                exact ⟨rfl, HP.out.2.2.2.2.2.1.trans (K9.out.bel.mono HP.out.2.2.2.2.2.1.size)⟩
              · go_wp2_with fail
                refine (k_look K3.out x _ HD.out.1 rfl).mono ?_
                rintro e w4 ⟨xa, xn, xc, M, rfl, hk, hby, -, -⟩
                obtain ⟨z, hz⟩ : ∃ z, lookB (b) x = z := ⟨_, rfl⟩
                rw [hz] at hby ⊢
                obtain ⟨w5, hw5⟩ : ∃ w5, w4.alloc (.cells #[.int .i64 z.fr, .int .i64 z.to, .slice xa xn xc] 29) = w5 := ⟨_, rfl⟩
                have K5 := Lib.hid (box_new hk hby w5 hw5).1
                clear hk hby
                go_wp2_with fail
                refine (k_take K5.out x z HD.out.1 hz HD.out.2.2.2.2).mono ?_
                rintro e w6 ⟨ya, yn, yc, M2, rfl, hk, hby, -, -⟩
                obtain ⟨w7, hw7⟩ : ∃ w7, w6.alloc (.cells #[.int .i64 z.fr, .int .i64 z.to, .slice ya yn yc] 29) = w7 := ⟨_, rfl⟩
                have K7 := Lib.hid (box_new hk hby w7 hw7).1
                clear hk hby hz
                go_wp2_with fail
                refine (k_drop K7.out x (by rw [HN.out.2.2]; omega) HD.out.1 HD.out.2.2.2.1).mono ?_
                rintro e w8 ⟨rfl, hk, -⟩
                have K8 := Lib.hid hk
                clear hk
                go_wp2_with fail
                refine (k_dbl K8.out x (by rw [HN.out.2.1]; omega) HD.out.2.1 HD.out.2.2.1).mono ?_
                rintro e w9 ⟨rfl, hk, -⟩
                have K9 := Lib.hid hk
                clear hk
                go_wp2_with fail
                refine (k_len K9.out (m) HN.out.1).mono ?_; rintro e w9 ⟨rfl, rfl⟩
                go_wp2_with fail
                refine (k_sent K9.out (s) HN.out.2.1).mono ?_; rintro e w9 ⟨rfl, rfl⟩
                go_wp2_with fail
                refine (k_lost K9.out lo HN.out.2.2).mono ?_; rintro e w9 ⟨rfl, rfl⟩
                go_wp2
                go_ret
                exact ⟨rfl, HP.out.2.2.2.2.2.1.trans (K9.out.bel.mono HP.out.2.2.2.2.2.1.size)⟩
        · have c4' : ¬ y.x.to ≤ 34 := c4
          have BY := HB.out.1
          have y0 := BY.cell (i := 0) rfl
          have y1 := BY.cell (i := 1) rfl
          have y2 := BY.cell (i := 2) rfl
          have hyn : y.x.bs.length = y.n := HE.out.2.2.1.1
          have hE : putE b y.x = 2 := by
            unfold putE nmE
            rw [if_neg (by simp; omega), if_pos (by simp; omega)]
          have hbb : putB b y.x = b := by unfold putB; rw [hE]; rfl
          have HF := Lib.hid (And.intro hE hbb)
          clear BY hE hbb hyn
          go_wp2_with fail
          refine (k_lost HP.out.1.bk lo Hs.out.2).mono ?_; rintro e w2 ⟨rfl, rfl⟩
          go_wp2_with fail
          refine (k_put HP.out.1.bk y HB.out.2 (by have := Hs.out.1; omega) (by have := HE.out.2.2.2; omega) HF.out.1 HF.out.2).mono ?_
          rintro e w3 ⟨rfl, hk, -⟩
          have K3 := Lib.hid hk
          clear hk y0 y1 y2
          have hn2 : (b).l.length = m := by exact HP.out.2.2.2.2.1
          have hs2 : (b).sent = s := by exact Hs.out.1
          have hl2 : (b).lost = lo := Hs.out.2
          have HN := Lib.hid (And.intro hn2 (And.intro hs2 hl2))
          clear hn2 hs2 hl2
          by_cases hr : 0 ≤ x ∧ x < ((m : Nat) : Int)
          · obtain ⟨hr0, hr1⟩ := hr
            have hr2 : x < (m : Int) := by omega
            have hr0' : x ≥ 0 := hr0
            go_wp2_with fail
            refine (k_len K3.out (m) HN.out.1).mono ?_; rintro e w3 ⟨rfl, rfl⟩
            go_wp2_with fail
            refine (k_sent K3.out (s) HN.out.2.1).mono ?_; rintro e w3 ⟨rfl, rfl⟩
            go_wp2_with fail
            refine (k_lost K3.out lo HN.out.2.2).mono ?_; rintro e w3 ⟨rfl, rfl⟩
            go_wp2
            go_ret
            exact ⟨rfl, HP.out.2.2.2.2.2.1.trans (K3.out.bel.mono HP.out.2.2.2.2.2.1.size)⟩
          · have hc : (x < 0 ∨ (0 ≤ x ∧ ¬ x < (m : Int))) := by omega
            have h9 : lackE (b) x = 9 := lack9 HN.out.1 (by omega)
            have hd := dbl9 h9
            have HD := Lib.hid (And.intro h9 hd)
            clear h9 hd
            rcases hc with hc | ⟨hc0, hc⟩
            · go_wp2_with fail
              refine (k_look K3.out x _ HD.out.1 rfl).mono ?_
              rintro e w4 ⟨xa, xn, xc, M, rfl, hk, hby, -, -⟩
              obtain ⟨z, hz⟩ : ∃ z, lookB (b) x = z := ⟨_, rfl⟩
              rw [hz] at hby ⊢
              obtain ⟨w5, hw5⟩ : ∃ w5, w4.alloc (.cells #[.int .i64 z.fr, .int .i64 z.to, .slice xa xn xc] 29) = w5 := ⟨_, rfl⟩
              have K5 := Lib.hid (box_new hk hby w5 hw5).1
              clear hk hby
              go_wp2_with fail
              refine (k_take K5.out x z HD.out.1 hz HD.out.2.2.2.2).mono ?_
              rintro e w6 ⟨ya, yn, yc, M2, rfl, hk, hby, -, -⟩
              obtain ⟨w7, hw7⟩ : ∃ w7, w6.alloc (.cells #[.int .i64 z.fr, .int .i64 z.to, .slice ya yn yc] 29) = w7 := ⟨_, rfl⟩
              have K7 := Lib.hid (box_new hk hby w7 hw7).1
              clear hk hby hz
              go_wp2_with fail
              refine (k_drop K7.out x (by rw [HN.out.2.2]; omega) HD.out.1 HD.out.2.2.2.1).mono ?_
              rintro e w8 ⟨rfl, hk, -⟩
              have K8 := Lib.hid hk
              clear hk
              go_wp2_with fail
              refine (k_dbl K8.out x (by rw [HN.out.2.1]; omega) HD.out.2.1 HD.out.2.2.1).mono ?_
              rintro e w9 ⟨rfl, hk, -⟩
              have K9 := Lib.hid hk
              clear hk
              go_wp2_with fail
              refine (k_len K9.out (m) HN.out.1).mono ?_; rintro e w9 ⟨rfl, rfl⟩
              go_wp2_with fail
              refine (k_sent K9.out (s) HN.out.2.1).mono ?_; rintro e w9 ⟨rfl, rfl⟩
              go_wp2_with fail
              refine (k_lost K9.out lo HN.out.2.2).mono ?_; rintro e w9 ⟨rfl, rfl⟩
              go_wp2
              go_ret
              exact ⟨rfl, HP.out.2.2.2.2.2.1.trans (K9.out.bel.mono HP.out.2.2.2.2.2.1.size)⟩
            · go_wp2_with fail
              refine (k_look K3.out x _ HD.out.1 rfl).mono ?_
              rintro e w4 ⟨xa, xn, xc, M, rfl, hk, hby, -, -⟩
              obtain ⟨z, hz⟩ : ∃ z, lookB (b) x = z := ⟨_, rfl⟩
              rw [hz] at hby ⊢
              obtain ⟨w5, hw5⟩ : ∃ w5, w4.alloc (.cells #[.int .i64 z.fr, .int .i64 z.to, .slice xa xn xc] 29) = w5 := ⟨_, rfl⟩
              have K5 := Lib.hid (box_new hk hby w5 hw5).1
              clear hk hby
              go_wp2_with fail
              refine (k_take K5.out x z HD.out.1 hz HD.out.2.2.2.2).mono ?_
              rintro e w6 ⟨ya, yn, yc, M2, rfl, hk, hby, -, -⟩
              obtain ⟨w7, hw7⟩ : ∃ w7, w6.alloc (.cells #[.int .i64 z.fr, .int .i64 z.to, .slice ya yn yc] 29) = w7 := ⟨_, rfl⟩
              have K7 := Lib.hid (box_new hk hby w7 hw7).1
              clear hk hby hz
              go_wp2_with fail
              refine (k_drop K7.out x (by rw [HN.out.2.2]; omega) HD.out.1 HD.out.2.2.2.1).mono ?_
              rintro e w8 ⟨rfl, hk, -⟩
              have K8 := Lib.hid hk
              clear hk
              go_wp2_with fail
              refine (k_dbl K8.out x (by rw [HN.out.2.1]; omega) HD.out.2.1 HD.out.2.2.1).mono ?_
              rintro e w9 ⟨rfl, hk, -⟩
              have K9 := Lib.hid hk
              clear hk
              go_wp2_with fail
              refine (k_len K9.out (m) HN.out.1).mono ?_; rintro e w9 ⟨rfl, rfl⟩
              go_wp2_with fail
              refine (k_sent K9.out (s) HN.out.2.1).mono ?_; rintro e w9 ⟨rfl, rfl⟩
              go_wp2_with fail
              refine (k_lost K9.out lo HN.out.2.2).mono ?_; rintro e w9 ⟨rfl, rfl⟩
              go_wp2
              go_ret
              exact ⟨rfl, HP.out.2.2.2.2.2.1.trans (K9.out.bel.mono HP.out.2.2.2.2.2.1.size)⟩
      · have c3' : ¬ y.x.to ≥ 1 := c3
        have BY := HB.out.1
        have y0 := BY.cell (i := 0) rfl
        have y1 := BY.cell (i := 1) rfl
        have y2 := BY.cell (i := 2) rfl
        have hyn : y.x.bs.length = y.n := HE.out.2.2.1.1
        have hE : putE b y.x = 2 := by
          unfold putE nmE
          rw [if_neg (by simp; omega), if_pos (by simp; omega)]
        have hbb : putB b y.x = b := by unfold putB; rw [hE]; rfl
        have HF := Lib.hid (And.intro hE hbb)
        clear BY hE hbb hyn
        go_wp2_with fail
        refine (k_lost HP.out.1.bk lo Hs.out.2).mono ?_; rintro e w2 ⟨rfl, rfl⟩
        go_wp2_with fail
        refine (k_put HP.out.1.bk y HB.out.2 (by have := Hs.out.1; omega) (by have := HE.out.2.2.2; omega) HF.out.1 HF.out.2).mono ?_
        rintro e w3 ⟨rfl, hk, -⟩
        have K3 := Lib.hid hk
        clear hk y0 y1 y2
        have hn2 : (b).l.length = m := by exact HP.out.2.2.2.2.1
        have hs2 : (b).sent = s := by exact Hs.out.1
        have hl2 : (b).lost = lo := Hs.out.2
        have HN := Lib.hid (And.intro hn2 (And.intro hs2 hl2))
        clear hn2 hs2 hl2
        by_cases hr : 0 ≤ x ∧ x < ((m : Nat) : Int)
        · obtain ⟨hr0, hr1⟩ := hr
          have hr2 : x < (m : Int) := by omega
          have hr0' : x ≥ 0 := hr0
          go_wp2_with fail
          refine (k_len K3.out (m) HN.out.1).mono ?_; rintro e w3 ⟨rfl, rfl⟩
          go_wp2_with fail
          refine (k_sent K3.out (s) HN.out.2.1).mono ?_; rintro e w3 ⟨rfl, rfl⟩
          go_wp2_with fail
          refine (k_lost K3.out lo HN.out.2.2).mono ?_; rintro e w3 ⟨rfl, rfl⟩
          go_wp2
          go_ret
          exact ⟨rfl, HP.out.2.2.2.2.2.1.trans (K3.out.bel.mono HP.out.2.2.2.2.2.1.size)⟩
        · have hc : (x < 0 ∨ (0 ≤ x ∧ ¬ x < (m : Int))) := by omega
          have h9 : lackE (b) x = 9 := lack9 HN.out.1 (by omega)
          have hd := dbl9 h9
          have HD := Lib.hid (And.intro h9 hd)
          clear h9 hd
          rcases hc with hc | ⟨hc0, hc⟩
          · go_wp2_with fail
            refine (k_look K3.out x _ HD.out.1 rfl).mono ?_
            rintro e w4 ⟨xa, xn, xc, M, rfl, hk, hby, -, -⟩
            obtain ⟨z, hz⟩ : ∃ z, lookB (b) x = z := ⟨_, rfl⟩
            rw [hz] at hby ⊢
            obtain ⟨w5, hw5⟩ : ∃ w5, w4.alloc (.cells #[.int .i64 z.fr, .int .i64 z.to, .slice xa xn xc] 29) = w5 := ⟨_, rfl⟩
            have K5 := Lib.hid (box_new hk hby w5 hw5).1
            clear hk hby
            go_wp2_with fail
            refine (k_take K5.out x z HD.out.1 hz HD.out.2.2.2.2).mono ?_
            rintro e w6 ⟨ya, yn, yc, M2, rfl, hk, hby, -, -⟩
            obtain ⟨w7, hw7⟩ : ∃ w7, w6.alloc (.cells #[.int .i64 z.fr, .int .i64 z.to, .slice ya yn yc] 29) = w7 := ⟨_, rfl⟩
            have K7 := Lib.hid (box_new hk hby w7 hw7).1
            clear hk hby hz
            go_wp2_with fail
            refine (k_drop K7.out x (by rw [HN.out.2.2]; omega) HD.out.1 HD.out.2.2.2.1).mono ?_
            rintro e w8 ⟨rfl, hk, -⟩
            have K8 := Lib.hid hk
            clear hk
            go_wp2_with fail
            refine (k_dbl K8.out x (by rw [HN.out.2.1]; omega) HD.out.2.1 HD.out.2.2.1).mono ?_
            rintro e w9 ⟨rfl, hk, -⟩
            have K9 := Lib.hid hk
            clear hk
            go_wp2_with fail
            refine (k_len K9.out (m) HN.out.1).mono ?_; rintro e w9 ⟨rfl, rfl⟩
            go_wp2_with fail
            refine (k_sent K9.out (s) HN.out.2.1).mono ?_; rintro e w9 ⟨rfl, rfl⟩
            go_wp2_with fail
            refine (k_lost K9.out lo HN.out.2.2).mono ?_; rintro e w9 ⟨rfl, rfl⟩
            go_wp2
            go_ret
            exact ⟨rfl, HP.out.2.2.2.2.2.1.trans (K9.out.bel.mono HP.out.2.2.2.2.2.1.size)⟩
          · go_wp2_with fail
            refine (k_look K3.out x _ HD.out.1 rfl).mono ?_
            rintro e w4 ⟨xa, xn, xc, M, rfl, hk, hby, -, -⟩
            obtain ⟨z, hz⟩ : ∃ z, lookB (b) x = z := ⟨_, rfl⟩
            rw [hz] at hby ⊢
            obtain ⟨w5, hw5⟩ : ∃ w5, w4.alloc (.cells #[.int .i64 z.fr, .int .i64 z.to, .slice xa xn xc] 29) = w5 := ⟨_, rfl⟩
            have K5 := Lib.hid (box_new hk hby w5 hw5).1
            clear hk hby
            go_wp2_with fail
            refine (k_take K5.out x z HD.out.1 hz HD.out.2.2.2.2).mono ?_
            rintro e w6 ⟨ya, yn, yc, M2, rfl, hk, hby, -, -⟩
            obtain ⟨w7, hw7⟩ : ∃ w7, w6.alloc (.cells #[.int .i64 z.fr, .int .i64 z.to, .slice ya yn yc] 29) = w7 := ⟨_, rfl⟩
            have K7 := Lib.hid (box_new hk hby w7 hw7).1
            clear hk hby hz
            go_wp2_with fail
            refine (k_drop K7.out x (by rw [HN.out.2.2]; omega) HD.out.1 HD.out.2.2.2.1).mono ?_
            rintro e w8 ⟨rfl, hk, -⟩
            have K8 := Lib.hid hk
            clear hk
            go_wp2_with fail
            refine (k_dbl K8.out x (by rw [HN.out.2.1]; omega) HD.out.2.1 HD.out.2.2.1).mono ?_
            rintro e w9 ⟨rfl, hk, -⟩
            have K9 := Lib.hid hk
            clear hk
            go_wp2_with fail
            refine (k_len K9.out (m) HN.out.1).mono ?_; rintro e w9 ⟨rfl, rfl⟩
            go_wp2_with fail
            refine (k_sent K9.out (s) HN.out.2.1).mono ?_; rintro e w9 ⟨rfl, rfl⟩
            go_wp2_with fail
            refine (k_lost K9.out lo HN.out.2.2).mono ?_; rintro e w9 ⟨rfl, rfl⟩
            go_wp2
            go_ret
            exact ⟨rfl, HP.out.2.2.2.2.2.1.trans (K9.out.bel.mono HP.out.2.2.2.2.2.1.size)⟩
    · have c2' : ¬ y.x.fr ≤ 34 := c2
      have BY := HB.out.1
      have y0 := BY.cell (i := 0) rfl
      have y1 := BY.cell (i := 1) rfl
      have y2 := BY.cell (i := 2) rfl
      have hyn : y.x.bs.length = y.n := HE.out.2.2.1.1
      have hE : putE b y.x = 2 := by
        unfold putE nmE
        rw [if_pos (by simp; omega)]
      have hbb : putB b y.x = b := by unfold putB; rw [hE]; rfl
      have HF := Lib.hid (And.intro hE hbb)
      clear BY hE hbb hyn
      go_wp2_with fail
      refine (k_lost HP.out.1.bk lo Hs.out.2).mono ?_; rintro e w2 ⟨rfl, rfl⟩
      go_wp2_with fail
      refine (k_put HP.out.1.bk y HB.out.2 (by have := Hs.out.1; omega) (by have := HE.out.2.2.2; omega) HF.out.1 HF.out.2).mono ?_
      rintro e w3 ⟨rfl, hk, -⟩
      have K3 := Lib.hid hk
      clear hk y0 y1 y2
      have hn2 : (b).l.length = m := by exact HP.out.2.2.2.2.1
      have hs2 : (b).sent = s := by exact Hs.out.1
      have hl2 : (b).lost = lo := Hs.out.2
      have HN := Lib.hid (And.intro hn2 (And.intro hs2 hl2))
      clear hn2 hs2 hl2
      by_cases hr : 0 ≤ x ∧ x < ((m : Nat) : Int)
      · obtain ⟨hr0, hr1⟩ := hr
        have hr2 : x < (m : Int) := by omega
        have hr0' : x ≥ 0 := hr0
        go_wp2_with fail
        refine (k_len K3.out (m) HN.out.1).mono ?_; rintro e w3 ⟨rfl, rfl⟩
        go_wp2_with fail
        refine (k_sent K3.out (s) HN.out.2.1).mono ?_; rintro e w3 ⟨rfl, rfl⟩
        go_wp2_with fail
        refine (k_lost K3.out lo HN.out.2.2).mono ?_; rintro e w3 ⟨rfl, rfl⟩
        go_wp2
        go_ret
        exact ⟨rfl, HP.out.2.2.2.2.2.1.trans (K3.out.bel.mono HP.out.2.2.2.2.2.1.size)⟩
      · have hc : (x < 0 ∨ (0 ≤ x ∧ ¬ x < (m : Int))) := by omega
        have h9 : lackE (b) x = 9 := lack9 HN.out.1 (by omega)
        have hd := dbl9 h9
        have HD := Lib.hid (And.intro h9 hd)
        clear h9 hd
        rcases hc with hc | ⟨hc0, hc⟩
        · go_wp2_with fail
          refine (k_look K3.out x _ HD.out.1 rfl).mono ?_
          rintro e w4 ⟨xa, xn, xc, M, rfl, hk, hby, -, -⟩
          obtain ⟨z, hz⟩ : ∃ z, lookB (b) x = z := ⟨_, rfl⟩
          rw [hz] at hby ⊢
          obtain ⟨w5, hw5⟩ : ∃ w5, w4.alloc (.cells #[.int .i64 z.fr, .int .i64 z.to, .slice xa xn xc] 29) = w5 := ⟨_, rfl⟩
          have K5 := Lib.hid (box_new hk hby w5 hw5).1
          clear hk hby
          go_wp2_with fail
          refine (k_take K5.out x z HD.out.1 hz HD.out.2.2.2.2).mono ?_
          rintro e w6 ⟨ya, yn, yc, M2, rfl, hk, hby, -, -⟩
          obtain ⟨w7, hw7⟩ : ∃ w7, w6.alloc (.cells #[.int .i64 z.fr, .int .i64 z.to, .slice ya yn yc] 29) = w7 := ⟨_, rfl⟩
          have K7 := Lib.hid (box_new hk hby w7 hw7).1
          clear hk hby hz
          go_wp2_with fail
          refine (k_drop K7.out x (by rw [HN.out.2.2]; omega) HD.out.1 HD.out.2.2.2.1).mono ?_
          rintro e w8 ⟨rfl, hk, -⟩
          have K8 := Lib.hid hk
          clear hk
          go_wp2_with fail
          refine (k_dbl K8.out x (by rw [HN.out.2.1]; omega) HD.out.2.1 HD.out.2.2.1).mono ?_
          rintro e w9 ⟨rfl, hk, -⟩
          have K9 := Lib.hid hk
          clear hk
          go_wp2_with fail
          refine (k_len K9.out (m) HN.out.1).mono ?_; rintro e w9 ⟨rfl, rfl⟩
          go_wp2_with fail
          refine (k_sent K9.out (s) HN.out.2.1).mono ?_; rintro e w9 ⟨rfl, rfl⟩
          go_wp2_with fail
          refine (k_lost K9.out lo HN.out.2.2).mono ?_; rintro e w9 ⟨rfl, rfl⟩
          go_wp2
          go_ret
          exact ⟨rfl, HP.out.2.2.2.2.2.1.trans (K9.out.bel.mono HP.out.2.2.2.2.2.1.size)⟩
        · go_wp2_with fail
          refine (k_look K3.out x _ HD.out.1 rfl).mono ?_
          rintro e w4 ⟨xa, xn, xc, M, rfl, hk, hby, -, -⟩
          obtain ⟨z, hz⟩ : ∃ z, lookB (b) x = z := ⟨_, rfl⟩
          rw [hz] at hby ⊢
          obtain ⟨w5, hw5⟩ : ∃ w5, w4.alloc (.cells #[.int .i64 z.fr, .int .i64 z.to, .slice xa xn xc] 29) = w5 := ⟨_, rfl⟩
          have K5 := Lib.hid (box_new hk hby w5 hw5).1
          clear hk hby
          go_wp2_with fail
          refine (k_take K5.out x z HD.out.1 hz HD.out.2.2.2.2).mono ?_
          rintro e w6 ⟨ya, yn, yc, M2, rfl, hk, hby, -, -⟩
          obtain ⟨w7, hw7⟩ : ∃ w7, w6.alloc (.cells #[.int .i64 z.fr, .int .i64 z.to, .slice ya yn yc] 29) = w7 := ⟨_, rfl⟩
          have K7 := Lib.hid (box_new hk hby w7 hw7).1
          clear hk hby hz
          go_wp2_with fail
          refine (k_drop K7.out x (by rw [HN.out.2.2]; omega) HD.out.1 HD.out.2.2.2.1).mono ?_
          rintro e w8 ⟨rfl, hk, -⟩
          have K8 := Lib.hid hk
          clear hk
          go_wp2_with fail
          refine (k_dbl K8.out x (by rw [HN.out.2.1]; omega) HD.out.2.1 HD.out.2.2.1).mono ?_
          rintro e w9 ⟨rfl, hk, -⟩
          have K9 := Lib.hid hk
          clear hk
          go_wp2_with fail
          refine (k_len K9.out (m) HN.out.1).mono ?_; rintro e w9 ⟨rfl, rfl⟩
          go_wp2_with fail
          refine (k_sent K9.out (s) HN.out.2.1).mono ?_; rintro e w9 ⟨rfl, rfl⟩
          go_wp2_with fail
          refine (k_lost K9.out lo HN.out.2.2).mono ?_; rintro e w9 ⟨rfl, rfl⟩
          go_wp2
          go_ret
          exact ⟨rfl, HP.out.2.2.2.2.2.1.trans (K9.out.bel.mono HP.out.2.2.2.2.2.1.size)⟩
  · have c1' : ¬ y.x.fr ≥ 1 := c1
    have BY := HB.out.1
    have y0 := BY.cell (i := 0) rfl
    have y1 := BY.cell (i := 1) rfl
    have y2 := BY.cell (i := 2) rfl
    have hyn : y.x.bs.length = y.n := HE.out.2.2.1.1
    have hE : putE b y.x = 2 := by
      unfold putE nmE
      rw [if_pos (by simp; omega)]
    have hbb : putB b y.x = b := by unfold putB; rw [hE]; rfl
    have HF := Lib.hid (And.intro hE hbb)
    clear BY hE hbb hyn
    go_wp2_with fail
    refine (k_lost HP.out.1.bk lo Hs.out.2).mono ?_; rintro e w2 ⟨rfl, rfl⟩
    go_wp2_with fail
    refine (k_put HP.out.1.bk y HB.out.2 (by have := Hs.out.1; omega) (by have := HE.out.2.2.2; omega) HF.out.1 HF.out.2).mono ?_
    rintro e w3 ⟨rfl, hk, -⟩
    have K3 := Lib.hid hk
    clear hk y0 y1 y2
    have hn2 : (b).l.length = m := by exact HP.out.2.2.2.2.1
    have hs2 : (b).sent = s := by exact Hs.out.1
    have hl2 : (b).lost = lo := Hs.out.2
    have HN := Lib.hid (And.intro hn2 (And.intro hs2 hl2))
    clear hn2 hs2 hl2
    by_cases hr : 0 ≤ x ∧ x < ((m : Nat) : Int)
    · obtain ⟨hr0, hr1⟩ := hr
      have hr2 : x < (m : Int) := by omega
      have hr0' : x ≥ 0 := hr0
      go_wp2_with fail
      refine (k_len K3.out (m) HN.out.1).mono ?_; rintro e w3 ⟨rfl, rfl⟩
      go_wp2_with fail
      refine (k_sent K3.out (s) HN.out.2.1).mono ?_; rintro e w3 ⟨rfl, rfl⟩
      go_wp2_with fail
      refine (k_lost K3.out lo HN.out.2.2).mono ?_; rintro e w3 ⟨rfl, rfl⟩
      go_wp2
      go_ret
      exact ⟨rfl, HP.out.2.2.2.2.2.1.trans (K3.out.bel.mono HP.out.2.2.2.2.2.1.size)⟩
    · have hc : (x < 0 ∨ (0 ≤ x ∧ ¬ x < (m : Int))) := by omega
      have h9 : lackE (b) x = 9 := lack9 HN.out.1 (by omega)
      have hd := dbl9 h9
      have HD := Lib.hid (And.intro h9 hd)
      clear h9 hd
      rcases hc with hc | ⟨hc0, hc⟩
      · go_wp2_with fail
        refine (k_look K3.out x _ HD.out.1 rfl).mono ?_
        rintro e w4 ⟨xa, xn, xc, M, rfl, hk, hby, -, -⟩
        obtain ⟨z, hz⟩ : ∃ z, lookB (b) x = z := ⟨_, rfl⟩
        rw [hz] at hby ⊢
        obtain ⟨w5, hw5⟩ : ∃ w5, w4.alloc (.cells #[.int .i64 z.fr, .int .i64 z.to, .slice xa xn xc] 29) = w5 := ⟨_, rfl⟩
        have K5 := Lib.hid (box_new hk hby w5 hw5).1
        clear hk hby
        go_wp2_with fail
        refine (k_take K5.out x z HD.out.1 hz HD.out.2.2.2.2).mono ?_
        rintro e w6 ⟨ya, yn, yc, M2, rfl, hk, hby, -, -⟩
        obtain ⟨w7, hw7⟩ : ∃ w7, w6.alloc (.cells #[.int .i64 z.fr, .int .i64 z.to, .slice ya yn yc] 29) = w7 := ⟨_, rfl⟩
        have K7 := Lib.hid (box_new hk hby w7 hw7).1
        clear hk hby hz
        go_wp2_with fail
        refine (k_drop K7.out x (by rw [HN.out.2.2]; omega) HD.out.1 HD.out.2.2.2.1).mono ?_
        rintro e w8 ⟨rfl, hk, -⟩
        have K8 := Lib.hid hk
        clear hk
        go_wp2_with fail
        refine (k_dbl K8.out x (by rw [HN.out.2.1]; omega) HD.out.2.1 HD.out.2.2.1).mono ?_
        rintro e w9 ⟨rfl, hk, -⟩
        have K9 := Lib.hid hk
        clear hk
        go_wp2_with fail
        refine (k_len K9.out (m) HN.out.1).mono ?_; rintro e w9 ⟨rfl, rfl⟩
        go_wp2_with fail
        refine (k_sent K9.out (s) HN.out.2.1).mono ?_; rintro e w9 ⟨rfl, rfl⟩
        go_wp2_with fail
        refine (k_lost K9.out lo HN.out.2.2).mono ?_; rintro e w9 ⟨rfl, rfl⟩
        go_wp2
        go_ret
        exact ⟨rfl, HP.out.2.2.2.2.2.1.trans (K9.out.bel.mono HP.out.2.2.2.2.2.1.size)⟩
      · go_wp2_with fail
        refine (k_look K3.out x _ HD.out.1 rfl).mono ?_
        rintro e w4 ⟨xa, xn, xc, M, rfl, hk, hby, -, -⟩
        obtain ⟨z, hz⟩ : ∃ z, lookB (b) x = z := ⟨_, rfl⟩
        rw [hz] at hby ⊢
        obtain ⟨w5, hw5⟩ : ∃ w5, w4.alloc (.cells #[.int .i64 z.fr, .int .i64 z.to, .slice xa xn xc] 29) = w5 := ⟨_, rfl⟩
        have K5 := Lib.hid (box_new hk hby w5 hw5).1
        clear hk hby
        go_wp2_with fail
        refine (k_take K5.out x z HD.out.1 hz HD.out.2.2.2.2).mono ?_
        rintro e w6 ⟨ya, yn, yc, M2, rfl, hk, hby, -, -⟩
        obtain ⟨w7, hw7⟩ : ∃ w7, w6.alloc (.cells #[.int .i64 z.fr, .int .i64 z.to, .slice ya yn yc] 29) = w7 := ⟨_, rfl⟩
        have K7 := Lib.hid (box_new hk hby w7 hw7).1
        clear hk hby hz
        go_wp2_with fail
        refine (k_drop K7.out x (by rw [HN.out.2.2]; omega) HD.out.1 HD.out.2.2.2.1).mono ?_
        rintro e w8 ⟨rfl, hk, -⟩
        have K8 := Lib.hid hk
        clear hk
        go_wp2_with fail
        refine (k_dbl K8.out x (by rw [HN.out.2.1]; omega) HD.out.2.1 HD.out.2.2.1).mono ?_
        rintro e w9 ⟨rfl, hk, -⟩
        have K9 := Lib.hid hk
        clear hk
        go_wp2_with fail
        refine (k_len K9.out (m) HN.out.1).mono ?_; rintro e w9 ⟨rfl, rfl⟩
        go_wp2_with fail
        refine (k_sent K9.out (s) HN.out.2.1).mono ?_; rintro e w9 ⟨rfl, rfl⟩
        go_wp2_with fail
        refine (k_lost K9.out lo HN.out.2.2).mono ?_; rintro e w9 ⟨rfl, rfl⟩
        go_wp2
        go_ret
        exact ⟨rfl, HP.out.2.2.2.2.2.1.trans (K9.out.bel.mono HP.out.2.2.2.2.2.1.size)⟩

end Go.Proofs.Ytlecihbclkohjaa.bagRefused
