/-
  For all lists of deeds l (60 at most are done), all pairs of numbers k and all bytes d: in whichever order tags come, it is the same: the other way round; TagOrder returns true; no condition.
-/
import Derived.Test.YtoidiacofgmigaaTwo
import Derived.Test.YtoidiacofgmigaaTurn
import Derived.Deep.RegionHeld3
import Derived.Deep.RegionWith
import Derived.Deep.DeepCutAuto
namespace Go.Proofs.Ytoidiacofgmigaa.tagOrder
open Go.ChangeShapes Go.WideShapes Go.ChangeAt Go.RowKit
set_option linter.unusedVariables false

set_option maxRecDepth 100000 in
set_option maxHeartbeats 6400000 in
theorem walk (Al : Option Addr) (nl cl : Nat) (l : List DeedL) (k0 k1 : Int) (d : Int) (w : World) (hl : ArgD w Al nl cl l) (hk : Wf k0 ∧ Wf k1) (hd : (Lit.int .u8 d).wf = true) :
    Calls Try.prog 7 #[.slice Al nl cl, .agg #[.int .i64 k0, .int .i64 k1], .int .u8 d] w fun e w' => e = .returned (.bool true) ∧ Below w.heap.size w w' := by
  have hdb := bounds_u8 hd
  obtain ⟨d, rfl⟩ : ∃ q : UInt8, d = (q.toNat : Int) := ⟨_, wf_u8 hd⟩
  obtain ⟨D, hD, hDl, hD1, hdig⟩ := ku_digest d w
  have HD := Lib.hid hD
  have Hdig := Lib.hid hdig
  have HA := Lib.hid hl
  have hcm := hl.2.2.1
  unfold maxLen at hcm
  have hnc := hl.2.1
  obtain ⟨hk0, hk1⟩ := hk
  have Hk := Lib.hid (And.intro hk0 hk1)
  clear hD hdig hl hd hdb hk0 hk1
  have hnot : ∀ (x : Bool) (w : World), (Op.unary .not (.bool x)).run Try.prog w = .ok (.bool (!x)) w := fun _ _ => rfl
  obtain ⟨m, hm60, hmn, hmin, hmv⟩ : ∃ m : Nat, m ≤ 60 ∧ m ≤ nl ∧ (∀ ts t w, (Builtin.min_ ts t #[.int .i64 (nl : Int), .int .i64 60]).run Try.prog w = .ok (.int .i64 (m : Int)) w) ∧ (m = 60 ∨ m = nl) := by
    refine ⟨min nl 60, by omega, by omega, fun ts t w => ?_, by omega⟩
    rw [run_min_int2]
    congr 2
    split <;> omega
  have hba : Below w.heap.size w (w.alloc (.cells #[.int .i64 k0, .int .i64 k1] 43)) := (Below.refl _ _).alloc (Nat.le_refl _) _
  have hBa : Blk (w.alloc (.cells #[.int .i64 k0, .int .i64 k1] 43)) w.heap.size 43 [.int .i64 k0, .int .i64 k1] := Blk.new rfl rfl
  have Hba := Lib.hid (And.intro hba hBa)
  clear hba hBa
  go_enter Try.func7, Try.ntmps7
  go_wp2_with (go_at_call 27; refine (works4_any _).mono ?_; rintro e w0 ⟨rfl, hb0⟩)
  have hB0 := Hba.out.2.below hb0 Hba.out.2.lt
  have H0 := Lib.hid (Hba.out.1.trans (hb0.mono Hba.out.1.size))
  have a0 : w0.cell? ⟨w.heap.size, 0, none⟩ = some (.int .i64 k0) := hB0.cell (i := 0) rfl
  have a1 : w0.cell? ⟨w.heap.size, 1, none⟩ = some (.int .i64 k1) := hB0.cell (i := 1) rfl
  have a0d : w0.drew.cell? ⟨w.heap.size, 0, none⟩ = some (.int .i64 k0) := hB0.cell (i := 0) rfl
  have a1d : w0.drew.cell? ⟨w.heap.size, 1, none⟩ = some (.int .i64 k1) := hB0.cell (i := 1) rfl
  clear hb0 hB0
  go_quiet (fail)
  clear a0 a1 a0d a1d
  have hms : IntKind.i64.wrap ((m : Int) - 1) = (m : Int) - 1 := IntWalk.i64_in _ (by omega)
  go_wp2
  go_loopw [10, 11] (fun tv v wr => ∃ (r q : Nat) (ys : List DH), r + q = m ∧ v = .int .i64 ((r : Int) - 1) ∧ ys.length = q ∧ ys.map (·.1) = (l.take m).reverse.take q ∧
    (∀ y ∈ ys, y.1.wf ∧ ArgI w y.2.1 y.2.2.1 y.2.2.2 y.1.rs) ∧ wr.ownsRow w.heap.size 32 7 tv q (dxs ys) ∧ Below w.heap.size w wr) (fun _ v _ => (intOf v + 1).toNat)
  case atStart => exact ⟨m, 0, [], by omega, rfl, rfl, by simp, by simp, World.ownsRow_nil _ _ _ _, by exact below_drewN H0.out _⟩
  case round =>
    obtain ⟨r, q, ys, hrq, hv, hyl, hymap, hyw, hown, hB⟩ := hrel
    cases r with
    | succ r =>
      have ev : (((r + 1 : Nat) : Int)) - 1 = (r : Int) := by omega
      rw [ev] at hv
      subst hv
      have hi0 : (0 : Int) ≤ r := by omega
      have hi1 : (r : Int) < nl := by omega
      have hrl : r < l.length := by rw [HA.out.1]; omega
      have hsub : IntKind.i64.wrap ((r : Int) - 1) = (r : Int) - 1 := IntWalk.i64_in _ (by omega)
      obtain ⟨b, off, rfl, hlow, hdeed⟩ := HA.out.at_ hrl
      obtain ⟨x, hx⟩ : ∃ x, l[r] = x := ⟨_, rfl⟩
      rw [hx] at hdeed
      obtain ⟨hxw, c0, c1, c2, ⟨Ar, nr, cr, c3, hAr⟩, c4, c5, c6⟩ := hdeed
      have e0 : wr.cell? ⟨b, off + r * 7, none⟩ = some (.int .i64 x.kind) := (hB.cell (p := ⟨b, off + r * 7, none⟩) hlow).trans c0
      have e1 : wr.cell? ⟨b, off + r * 7 + 1, none⟩ = some (.int .i64 x.frm) := (hB.cell (p := ⟨b, off + r * 7 + 1, none⟩) hlow).trans c1
      have e2 : wr.cell? ⟨b, off + r * 7 + 2, none⟩ = some (.int .i64 x.to_) := (hB.cell (p := ⟨b, off + r * 7 + 2, none⟩) hlow).trans c2
      have e3 : wr.cell? ⟨b, off + r * 7 + 3, none⟩ = some (.slice Ar nr cr) := (hB.cell (p := ⟨b, off + r * 7 + 3, none⟩) hlow).trans c3
      have e4 : wr.cell? ⟨b, off + r * 7 + 4, none⟩ = some (.int .u8 (x.d.toNat : Int)) := (hB.cell (p := ⟨b, off + r * 7 + 4, none⟩) hlow).trans c4
      have e5 : wr.cell? ⟨b, off + r * 7 + 5, none⟩ = some (.int .i64 x.askF) := (hB.cell (p := ⟨b, off + r * 7 + 5, none⟩) hlow).trans c5
      have e6 : wr.cell? ⟨b, off + r * 7 + 6, none⟩ = some (.int .i64 x.askT) := (hB.cell (p := ⟨b, off + r * 7 + 6, none⟩) hlow).trans c6
      have hln := HA.out.1
      have hmap2 : (ys ++ [(x, Ar, nr, cr)]).map (·.1) = (l.take m).reverse.take (q + 1) := by
        rw [List.map_append, hymap]
        have hql : q < (l.take m).reverse.length := by rw [List.length_reverse, List.length_take]; omega
        rw [List.take_succ_eq_append_getElem hql]
        congr 1
        rw [List.getElem_reverse, List.getElem_take]
        have e : (l.take m).length - 1 - q = r := by rw [List.length_take]; omega
        simp only [e, hx, List.map_cons, List.map_nil]
      have hyw2 : ∀ y ∈ ys ++ [(x, Ar, nr, cr)], y.1.wf ∧ ArgI w y.2.1 y.2.2.1 y.2.2.2 y.1.rs := by
        intro y hy
        rcases List.mem_append.1 hy with hy | hy
        · exact hyw y hy
        · simp at hy; subst hy; exact ⟨hxw, hAr⟩
      have hown1 := hown.alloc (.cells #[.int .i64 x.kind, .int .i64 x.frm, .int .i64 x.to_, .slice Ar nr cr, .int .u8 (x.d.toNat : Int), .int .i64 x.askF, .int .i64 x.askT] 32)
      have hblk : Blk (wr.alloc (.cells #[.int .i64 x.kind, .int .i64 x.frm, .int .i64 x.to_, .slice Ar nr cr, .int .u8 (x.d.toNat : Int), .int .i64 x.askF, .int .i64 x.askT] 32)) wr.heap.size 32 (dcs (x, Ar, nr, cr)) := Blk.new rfl rfl
      have hb1 := hB.alloc hB.size (.cells #[.int .i64 x.kind, .int .i64 x.frm, .int .i64 x.to_, .slice Ar nr cr, .int .u8 (x.d.toNat : Int), .int .i64 x.askF, .int .i64 x.askT] 32)
      have hbn := fun i hi => (hown.lt i hi).1
      have hbw := hb1.size
      have Hy := Lib.hid (And.intro hmap2 (And.intro hyw2 (And.intro hown1 (And.intro hblk (And.intro hb1 (And.intro hbn (And.intro hyl hbw)))))))
      clear hxw hAr c0 c1 c2 c3 c4 c5 c6 hymap hyw hown hB hmap2 hyw2 hown1 hblk hb1 hbn hyl hlow hx hbw
      go_wp2_with (at_builtin; refine wp_appendD rfl _ _ rfl w.heap.size _ ys q rfl Hy.out.2.2.2.2.2.2.1 Hy.out.2.2.1 wr.heap.size (x, Ar, nr, cr) rfl Hy.out.2.2.2.1 (by omega) Hy.out.2.2.2.2.2.2.2 ?_; intro v1 w1 hown2 hgr hloc)
      have Hz := Lib.hid (And.intro hown2 (Hy.out.2.2.2.2.1.grown hgr Hy.out.2.2.2.2.2.2.2 Hy.out.2.2.2.2.2.1))
      clear hown2 hgr hloc
      refine ⟨⟨r, q + 1, ys ++ [(x, Ar, nr, cr)], by omega, by go_num, by (rw [List.length_append, Hy.out.2.2.2.2.2.2.1] <;> try rfl), Hy.out.1, Hy.out.2.1, Hz.out.1, Hz.out.2⟩, by simp [intOf] <;> omega⟩
    | zero =>
      have hq : q = m := by omega
      subst hq
      subst hv
      have hall : ys.map (·.1) = (l.take q).reverse := by
        rw [hymap, List.take_of_length_le (by rw [List.length_reverse, List.length_take]; omega)]
      have hln := HA.out.1
      have h60 : l.take 60 = l.take q := by
        rcases hmv with h | h
        · rw [h]
        · rw [List.take_of_length_le (by omega), List.take_of_length_le (by omega)]
      have h60b : (ys.map (·.1)).take 60 = (l.take q).reverse := by rw [hall, List.take_of_length_le (by rw [List.length_reverse, List.length_take]; omega)]
      obtain ⟨At, ct, et⟩ := row_form hown
      subst et
      have hAt := ArgD.ofOwn hown hyl hB hyw
      have Hf := Lib.hid (And.intro hAt (And.intro hB (And.intro h60 h60b)))
      have hi0 : ¬ (0 : Int) ≤ (((0 : Nat) : Int) - 1) := by omega
      have hi1 : (((0 : Nat) : Int) - 1) = -1 := by omega
      clear hymap hyw hown hB hall h60 h60b hAt
      go_wp2_with fail
      refine (made_any Al nl cl l _ (HA.out.after Hf.out.2.1)).mono ?_
      rintro e w2 ⟨ga, ma, rfl, hga, hma, hLa, hba⟩
      have hs1 := Hf.out.2.1.size
      have hKa : Ku w w2 ga ma (madeL (l.take 60)) 0 := ⟨hLa, by omega, by omega, Hf.out.2.1.trans (hba.mono hs1)⟩
      have hAt2 := Hf.out.1.after hba
      have K2 := Lib.hid (And.intro hKa (And.intro hLa.1.lt (And.intro hLa.2.lt hAt2)))
      clear hga hma hLa hba hs1 hKa hAt2
      go_wp2_with fail
      refine (made_any At q ct _ w2 K2.out.2.2.2).mono ?_
      rintro e w3 ⟨gb, mb, rfl, hgb, hmb, hLb, hbb⟩
      have hs2 := K2.out.1.bel.size
      have hKb : Ku w w3 gb mb (madeL ((ys.map (·.1)).take 60)) 0 := ⟨hLb, by omega, by omega, K2.out.1.bel.trans (hbb.mono hs2)⟩
      have hne : gb ≠ ga ∧ mb ≠ ma := by have := K2.out.2.1; have := K2.out.2.2.1; omega
      rw [Hf.out.2.2.2] at hKb
      have K3 := Lib.hid (And.intro (K2.out.1.below hbb) (And.intro hKb hne))
      clear hgb hmb hLb hbb hs2 hKb hne K2
      have hla := len_any ga ma _ _ _ K3.out.1.1
      have hlb := len_any gb mb _ _ _ K3.out.2.1.1
      rw [Hf.out.2.2.1, order_len] at hla
      have Hla := Lib.hid hla
      have Hlb := Lib.hid hlb
      clear hla hlb
      generalize (madeL (l.take q).reverse).length = n1 at *
      go_wp2_with fail
      refine Hla.out.mono ?_
      rintro e w' ⟨rfl, rfl⟩
      go_wp2_with fail
      refine Hlb.out.mono ?_
      rintro e w' ⟨rfl, rfl⟩
      go_wp2_with fail
      refine (Hdig.out _).mono ?_
      rintro e w5 ⟨rfl, hb5⟩
      have K5 := Lib.hid (And.intro (K3.out.1.below hb5) (K3.out.2.1.below hb5))
      clear hb5 Hla Hlb
      obtain ⟨z, hz⟩ : ∃ z, chk (madeL (l.take q)) k0 k1 (dg d) = z := ⟨_, rfl⟩
      go_wp2_with fail
      refine (ku_checkE k0 k1 (dg d) D z K5.out.1 (by decide) Hk.out.1 Hk.out.2 (dg_len d) HD.out (by rw [Hf.out.2.2.1]; exact hz)).mono ?_
      rintro e w6 ⟨rfl, hk6, ho6⟩
      have K6 := Lib.hid (K5.out.2.other K5.out.1 ho6 K3.out.2.2)
      clear hk6 ho6 K5
      go_wp2_with fail
      refine (Hdig.out _).mono ?_
      rintro e w7 ⟨rfl, hb7⟩
      have K7 := Lib.hid (K6.out.below hb7)
      clear hb7 K6
      go_wp2_with fail
      refine (ku_checkE k0 k1 (dg d) D z K7.out (by decide) Hk.out.1 Hk.out.2 (dg_len d) HD.out (by rw [order_in]; exact hz)).mono ?_
      rintro e w8 ⟨rfl, hk8, ho8⟩
      have K8 := Lib.hid hk8.bel
      clear hk8 ho8 K7 hz
      go_wp2_with fail
      go_ret
      exact ⟨by cases z <;> rfl, K8.out⟩

end Go.Proofs.Ytoidiacofgmigaa.tagOrder
