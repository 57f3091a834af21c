/-
  The statements' works over the code. (Written by tools/gen_wk13.py.)
-/
import Derived.Test.YtlecihbclkohjaaCa13
namespace Go.Proofs.Ytlecihbclkohjaa
open Go.RowKit Go.Maps
set_option linter.unusedVariables false
set_option linter.unusedSimpArgs false

def ea : En := ⟨1, 2, [10]⟩
def eb : En := ⟨2, 3, [11]⟩
def ec : En := ⟨1, 3, [12]⟩
def wb1 : Bg := ⟨[ea], 1, 0⟩
def wb2 : Bg := ⟨[ea, eb], 2, 0⟩
def wb3 : Bg := ⟨[ea, eb, ec], 3, 0⟩
def wb4 : Bg := ⟨[ea, eb, ec, ea], 4, 0⟩
def wb5 : Bg := ⟨[ea, ec, ea], 4, 0⟩
def wb6 : Bg := ⟨[ec, ea], 4, 1⟩
def wb7 : Bg := ⟨[ec], 4, 1⟩
/-- A block just made that holds an envelope. -/
theorem box_new {w0 w : World} {N M : Nat → Prop} {g : Nat} {b : Bg} {x : En} {a : Option Addr} {n c : Nat} (h : BK w0 w (fun i => N i ∨ M i) g b) (hby : ByP w M ⟨x, a, n, c⟩) (w' : World) (hw : w.alloc (.cells #[.int .i64 x.fr, .int .i64 x.to, .slice a n c] 29) = w') :
    BK w0 w' (fun i => N i ∨ (M i ∨ i = w.heap.size)) g b ∧ ByP w' (fun i => M i ∨ i = w.heap.size) ⟨x, a, n, c⟩ ∧ Blk w' w.heap.size 29 [.int .i64 x.fr, .int .i64 x.to, .slice a n c] ∧ Below w.heap.size w w' ∧ w'.heap.size = w.heap.size + 1 := by
  have hb : Below w.heap.size w w' := by rw [← hw]; exact (Below.refl _ _).alloc (Nat.le_refl _) _
  have hz : w'.heap.size = w.heap.size + 1 := by rw [← hw]; simp
  refine ⟨h.keep hb fun i hi => ?_, (hby.below hb (fun i hi => h.2.2 i (.inr hi)) (Nat.le_refl _)).mono fun i hi => .inl hi, by rw [← hw]; exact Blk.new rfl rfl, hb, hz⟩
  rcases hi with h1 | h1 | h1
  · exact .inl (.inl h1)
  · exact .inl (.inr h1)
  · exact .inr ⟨by omega, by omega⟩
set_option maxRecDepth 100000 in
set_option maxHeartbeats 3200000 in
theorem works_any (w : World) : Calls Try.prog 34 #[] w fun e w' => e = .returned (.bool true) ∧ Below w.heap.size w w' := by
  go_enter Try.func34, Try.ntmps34
  go_wp2_with fail
  refine (k_new (Below.refl w.heap.size w) (fun _ => False) (fun i hi => hi.elim)).mono ?_
  rintro e w1 ⟨g, rfl, hk, -⟩
  have K := Lib.hid hk
  clear hk
  go_wp2_with fail
  refine (k_note 1 2 10 (by decide) (by decide) 10 (by decide) _).mono ?_
  rintro e w2a ⟨a2, n2, c2, rfl, hby, hb⟩
  have Kn := Lib.hid (And.intro (K.out.below hb) hby)
  clear hby hb K
  go_wp2_with fail
  refine (k_put (b := newB) (b' := wb1) (E := 0) Kn.out.1 ⟨ea, a2, n2, c2⟩ Kn.out.2 (by decide) (by have h := Kn.out.2.1; have e : (1 : Nat) = n2 := h; show n2 ≤ _; omega) (show putE newB ea = 0 by decide) (show putB newB ea = wb1 by decide)).mono ?_
  rintro e w2 ⟨rfl, hk, -⟩
  have K := Lib.hid hk
  clear hk Kn
  go_wp2_with fail
  refine (k_note 2 3 11 (by decide) (by decide) 11 (by decide) _).mono ?_
  rintro e w3a ⟨a3, n3, c3, rfl, hby, hb⟩
  have Kn := Lib.hid (And.intro (K.out.below hb) hby)
  clear hby hb K
  go_wp2_with fail
  refine (k_put (b := wb1) (b' := wb2) (E := 0) Kn.out.1 ⟨eb, a3, n3, c3⟩ Kn.out.2 (by decide) (by have h := Kn.out.2.1; have e : (1 : Nat) = n3 := h; show n3 ≤ _; omega) (show putE wb1 eb = 0 by decide) (show putB wb1 eb = wb2 by decide)).mono ?_
  rintro e w3 ⟨rfl, hk, -⟩
  have K := Lib.hid hk
  clear hk Kn
  go_wp2_with fail
  refine (k_note 1 3 12 (by decide) (by decide) 12 (by decide) _).mono ?_
  rintro e w4a ⟨a4, n4, c4, rfl, hby, hb⟩
  have Kn := Lib.hid (And.intro (K.out.below hb) hby)
  clear hby hb K
  go_wp2_with fail
  refine (k_put (b := wb2) (b' := wb3) (E := 0) Kn.out.1 ⟨ec, a4, n4, c4⟩ Kn.out.2 (by decide) (by have h := Kn.out.2.1; have e : (1 : Nat) = n4 := h; show n4 ≤ _; omega) (show putE wb2 ec = 0 by decide) (show putB wb2 ec = wb3 by decide)).mono ?_
  rintro e w4 ⟨rfl, hk, -⟩
  have K := Lib.hid hk
  clear hk Kn
  go_wp2_with fail
  refine (k_next K.out 10 (E := 2) (by decide +kernel)).mono ?_
  rintro e w5 ⟨rfl, hb⟩
  have Kn := Lib.hid (K.out.below hb)
  clear hb K
  go_wp2_with fail
  refine (k_dbl Kn.out 0 (E := 0) (b' := wb4) (by decide) (by decide) (by decide)).mono ?_
  rintro e w6 ⟨rfl, hk, -⟩
  have K := Lib.hid hk
  clear hk Kn
  go_wp2_with fail
  refine (k_take K.out 1 eb (E := 0) (b' := wb5) (by decide) (by decide) (by decide)).mono ?_
  rintro e w7 ⟨xa, xn, xc, M, rfl, hk, hby, -, -⟩
  obtain ⟨w8, hw8⟩ : ∃ w8, w7.alloc (.cells #[.int .i64 eb.fr, .int .i64 eb.to, .slice xa xn xc] 29) = w8 := ⟨_, rfl⟩
  have hbx := box_new hk hby w8 hw8
  have K2 := Lib.hid hbx
  clear hk hby hbx K
  go_wp2_with fail
  refine (k_drop K2.out.1 0 (E := 0) (b' := wb6) (by decide) (by decide) (by decide)).mono ?_
  rintro e w9 ⟨rfl, hk, ho⟩
  have K3 := Lib.hid (And.intro hk (And.intro (K2.out.2.1.stays ho fun i hi => .inr hi) (ho.blk K2.out.2.2.1 fun e => e (.inr (.inr rfl)))))
  clear hk ho
  go_wp2_with fail
  refine (k_len K3.out.1 2 rfl).mono ?_; rintro e w9 ⟨rfl, rfl⟩
  go_wp2_with fail
  refine (k_sent K3.out.1 4 rfl).mono ?_; rintro e w9 ⟨rfl, rfl⟩
  go_wp2_with fail
  refine (k_lost K3.out.1 1 rfl).mono ?_; rintro e w9 ⟨rfl, rfl⟩
  go_wp2_with fail
  refine (k_take K3.out.1 1 ea (E := 0) (b' := wb7) (by decide) (by decide) (by decide)).mono ?_
  rintro e w10 ⟨ya, yn, yc, M2, rfl, hk, hby, ho, -⟩
  obtain ⟨w11, hw11⟩ : ∃ w11, w10.alloc (.cells #[.int .i64 ea.fr, .int .i64 ea.to, .slice ya yn yc] 29) = w11 := ⟨_, rfl⟩
  have hbx := box_new hk hby w11 hw11
  have hxb := ho.blk K3.out.2.2 (fun e => e (.inr (.inr rfl)))
  have hxy := K3.out.2.1.stays ho fun i hi => .inr hi
  have K4 := Lib.hid (And.intro hbx (And.intro (hxb.below hbx.2.2.2.1 hxb.lt) (hxy.below hbx.2.2.2.1 (fun i hi => hk.2.2 i (.inl (.inr hi))) (Nat.le_refl _))))
  have x0 := K4.out.2.1.cell (i := 0) rfl
  have x1 := K4.out.2.1.cell (i := 1) rfl
  have x2 := K4.out.2.1.cell (i := 2) rfl
  clear hk hby ho hbx hxb hxy
  go_wp2_with fail
  refine (is_any _ K4.out.2.2 0 2 3 (by decide) (by decide) 11 true (show (decide ((0 : Int) = 0) && decide (eb = ⟨2, 3, [11]⟩)) = true by decide)).mono ?_
  rintro e w12 ⟨rfl, hb⟩
  have K5 := Lib.hid (And.intro (K4.out.1.1.below hb) (And.intro (K4.out.1.2.1.below hb (fun i hi => K4.out.1.1.2.2 i (.inr hi)) (Nat.le_refl _)) (K4.out.1.2.2.1.below hb K4.out.1.2.2.1.lt)))
  have y0 := K5.out.2.2.cell (i := 0) rfl
  have y1 := K5.out.2.2.cell (i := 1) rfl
  have y2 := K5.out.2.2.cell (i := 2) rfl
  clear hb
  go_wp2_with fail
  refine (is_any _ K5.out.2.1 0 1 2 (by decide) (by decide) 10 true (show (decide ((0 : Int) = 0) && decide (ea = ⟨1, 2, [10]⟩)) = true by decide)).mono ?_
  rintro e w13 ⟨rfl, hb⟩
  have K6 := Lib.hid (K5.out.1.below hb)
  clear hb
  go_wp2_with fail
  refine (k_len K6.out 1 rfl).mono ?_; rintro e w13 ⟨rfl, rfl⟩
  go_wp2
  go_ret
  exact ⟨rfl, K6.out.2.1⟩
end Go.Proofs.Ytlecihbclkohjaa
