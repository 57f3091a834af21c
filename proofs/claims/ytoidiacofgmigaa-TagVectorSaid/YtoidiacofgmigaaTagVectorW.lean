/-
  For all numbers f, t and all lists of numbers rs: Vector is Tag for each of rs, or is refused and changes nothing; TagVector returns true; no condition.
-/
import Derived.Test.YtoidiacofgmigaaTwo
import Derived.Test.YtoidiacofgmigaaTwo
import Derived.Deep.RegionHeld3
import Derived.Deep.RegionWith
import Derived.Deep.DeepCutAuto
namespace Go.Proofs.Ytoidiacofgmigaa.tagVector
open Go.ChangeShapes Go.WideShapes Go.ChangeAt Go.RowKit
set_option linter.unusedVariables false

set_option maxRecDepth 100000 in
set_option maxHeartbeats 3200000 in
theorem walk (f : Int) (Ars : Option Addr) (nrs crs : Nat) (rs : List Int) (t : Int) (w : World) (hf : (Lit.int .i64 f).wf = true) (hrs : ArgI w Ars nrs crs rs) (ht : (Lit.int .i64 t).wf = true) :
    Calls Try.prog 6 #[.int .i64 f, .slice Ars nrs crs, .int .i64 t] w fun e w' => e = .returned (.bool true) ∧ Below w.heap.size w w' := by
  obtain ⟨D, hD, hDl, hD1, hdig⟩ := ku_digest 7 w
  have HD := Lib.hid hD
  have Hdig := Lib.hid hdig
  have HA := Lib.hid hrs
  have hcm := hrs.2.2.1
  unfold maxLen at hcm
  have hnc := hrs.2.1
  clear hD hdig hrs
  have hnot : ∀ (x : Bool) (w : World), (Op.unary .not (.bool x)).run Try.prog w = .ok (.bool (!x)) w := fun _ _ => rfl
  go_enter Try.func6, Try.ntmps6
  go_wp2_with (go_at_call 27; refine (works4_any _).mono ?_; rintro e w0 ⟨rfl, hb0⟩)
  refine (ku_new w w0 hb0).mono ?_
  rintro e w1 ⟨ga, ma, rfl, hga, hma, hka, hb1⟩
  have K1 := Lib.hid hka
  clear hga hma hka
  go_wp2_with fail
  refine (ku_new w w1 K1.out.bel).mono ?_
  rintro e w2 ⟨gb, mb, rfl, hgb, hmb, hkb, hb2⟩
  have hne : ga ≠ gb ∧ ma ≠ mb := by
    have h1 := K1.out.1.1.lt
    have h2 := K1.out.1.2.lt
    omega
  have Hne := Lib.hid hne
  have K2 := Lib.hid (And.intro (K1.out.below hb2) hkb)
  clear hgb hmb hkb hb2 hb1 hne K1
  go_wp2_with fail
  refine (Hdig.out w2).mono ?_
  rintro e w3 ⟨rfl, hb3⟩
  have K3 := Lib.hid (And.intro (K2.out.1.below hb3) (K2.out.2.below hb3))
  clear hb3 K2
  go_wp2_with fail
  cases hok : okVec f rs with
  | false =>
    have hE : errOf (okVec f rs) = 2 := by rw [hok]; rfl
    have hT : vecL [] f rs (dg 7) = [] := by unfold vecL; rw [hok]; rfl
    refine (ku_vecE f Ars nrs crs rs (dg 7) D 2 [] K3.out.1 (by decide) hf (HA.out.after K3.out.1.bel) (dg_len 7) HD.out hE hT).mono ?_
    rintro e w4 ⟨rfl, hk4, ho4⟩
    have K4 := Lib.hid hk4
    have Hlen := Lib.hid (len_any ga ma _ _ _ K4.out.1)
    clear hk4 ho4 K3 hok hE hT
    go_wp2_with (go_at_call 23; refine Hlen.out.mono ?_; rintro e w' ⟨rfl, rfl⟩)
    refine (Hdig.out _).mono ?_
    rintro e w5 ⟨rfl, hb5⟩
    have K5 := Lib.hid (K4.out.below hb5)
    clear hb5 K4
    go_wp2_with fail
    refine (ku_checkE f t (dg 7) D false K5.out (by decide) hf ht (dg_len 7) HD.out (by simp [chk, inT])).mono ?_
    rintro e w6 ⟨rfl, hk6, ho6⟩
    have H6 := Lib.hid hk6.bel
    clear hk6 ho6 K5
    go_wp2_with fail
    go_ret
    exact ⟨rfl, H6.out⟩
  | true =>
    have hE : errOf (okVec f rs) = 0 := by rw [hok]; rfl
    have hT : vecL [] f rs (dg 7) = putAll [] f (dg 7) rs := by unfold vecL; rw [if_pos hok]
    have hf1 : isN f = true := by unfold okVec at hok; simp at hok; exact hok.1
    have hall : ∀ x ∈ rs, isN x = true := by unfold okVec allN at hok; simp at hok; exact hok.2.2
    have h34 : rs.length ≤ 34 := by unfold okVec allN at hok; simp at hok; exact hok.2.1
    have hn34 : nrs ≤ 34 := by rw [← HA.out.1]; exact h34
    refine (ku_vecE f Ars nrs crs rs (dg 7) D 0 (putAll [] f (dg 7) rs) K3.out.1 (by decide) hf (HA.out.after K3.out.1.bel) (dg_len 7) HD.out hE hT).mono ?_
    rintro e w4 ⟨rfl, hk4, ho4⟩
    have K4 := Lib.hid (And.intro hk4 (K3.out.2.other K3.out.1 ho4 ⟨fun e => Hne.out.1 e.symm, fun e => Hne.out.2 e.symm⟩))
    have H := Lib.hid (And.intro hf1 hall)
    clear hk4 ho4 K3 hok hE hT hf1 hall h34
    go_wp2_with fail
    go_loopw [10] (fun v wr => ∃ j : Nat, j ≤ nrs ∧ v = .int .i64 j ∧ Ku w wr ga ma (putAll [] f (dg 7) rs) 0 ∧ Ku w wr gb mb (putAll [] f (dg 7) (rs.take j)) 0) (fun v _ => nrs - (intOf v).toNat)
    case atStart => exact ⟨0, Nat.zero_le _, rfl, K4.out.1, K4.out.2⟩
    case round =>
      obtain ⟨j, hj, rfl, hKa, hKb⟩ := hrel
      by_cases hlt : j < nrs
      · have hjl : j < rs.length := by rw [HA.out.1]; exact hlt
        obtain ⟨b, off, rfl, hlow, hcell⟩ := HA.out.2.2.2.1.at_ hjl
        have c0 : wr.drew.cell? ⟨b, off + j, none⟩ = some (.int .i64 rs[j]) := (hKa.bel.cell (p := ⟨b, off + j, none⟩) hlow).trans (hcell j hjl)
        have Hlow := Lib.hid hlow
        have hxw : Wf rs[j] := HA.out.2.2.2.2 _ (List.getElem_mem hjl)
        have hxn : isN rs[j] = true := H.out.2 _ (List.getElem_mem hjl)
        have hsucc : putAll [] f (dg 7) (rs.take (j + 1)) = putT (putAll [] f (dg 7) (rs.take j)) (f, rs[j], dg 7) := by rw [List.take_succ_eq_append_getElem hjl, putAll_snoc]
        have hTl : (putAll [] f (dg 7) (rs.take j)).length < 1000000 := by
          have h1 := putAll_len (f := f) (d := dg 7) (rs.take j) (T := [])
          rw [List.length_take, List.length_nil] at h1
          omega
        obtain ⟨x, hx⟩ : ∃ x, rs[j] = x := ⟨_, rfl⟩
        rw [hx] at c0 hxw hxn hsucc
        have hok : okTag f x = true := by unfold okTag; simp [H.out.1, hxn]
        have hE : errOf (okTag f x) = 0 := by rw [hok]; rfl
        have hT : tagL (putAll [] f (dg 7) (rs.take j)) f x (dg 7) = putAll [] f (dg 7) (rs.take (j + 1)) := by unfold tagL; rw [if_pos hok, hsucc]
        have hKad : Ku w wr.drew ga ma (putAll [] f (dg 7) rs) 0 := hKa.below (Below.refl _ _).drew
        have hKbd : Ku w wr.drew gb mb (putAll [] f (dg 7) (rs.take j)) 0 := hKb.below (Below.refl _ _).drew
        have Kr := Lib.hid (And.intro hKad hKbd)
        have Hx := Lib.hid (And.intro hxw (And.intro hTl (And.intro hE hT)))
        have hblt : b < wr.drew.heap.size := Nat.lt_of_lt_of_le hlow hKa.bel.size
        have Hb := Lib.hid hblt
        have hi0 : (0 : Int) ≤ j := by omega
        have hi1 : (j : Int) < nrs := by omega
        clear hKa hKb hcell hxw hxn hsucc hTl hok hE hT hKad hKbd hlow hblt hx
        go_wp2
        go_region_held3 (fun W' => W'.cell? ⟨b, off + j, none⟩ = some (.int .i64 x)) (first | with_reducible exact c0 | with_reducible exact c2 | with_reducible exact c3)
          (first
          | (go_at_call 13; refine (Hdig.out _).mono ?_; rintro e w5 ⟨rfl, hb5⟩; have c2 := (hb5.cell (p := ⟨b, off + j, none⟩) Hb.out).trans c0; have K5 := Lib.hid (And.intro (Kr.out.1.below hb5) (Kr.out.2.below hb5)); have hs5 := hb5.size)
          | (go_at_call 14; refine (ku_tagE f x (dg 7) D 0 _ K5.out.2 Hx.out.2.1 hf Hx.out.1 (dg_len 7) HD.out Hx.out.2.2.1 Hx.out.2.2.2).mono ?_; rintro e w6 ⟨rfl, hk6, ho6⟩
             have K6 := Lib.hid (And.intro (K5.out.1.other K5.out.2 ho6 Hne.out) hk6)
             have c3 := (ho6.cell (Nat.lt_of_lt_of_le Hb.out hs5) (fun e => by have h1 := K5.out.2.2.1; have h2 := K5.out.2.2.2.1; have h3 := Hlow.out; rcases e with e | e <;> omega)).trans c2))
        go_wp2
        go_roundw
        case rel => exact ⟨j + 1, by omega, by go_num, K6.out.1, K6.out.2⟩
        case measure => simp [intOf]; omega
      · have hjn : j = nrs := by omega
        have hall : rs.take j = rs := List.take_of_length_le (by rw [HA.out.1]; omega)
        rw [hall] at hKb
        have Kr := Lib.hid (And.intro hKa hKb)
        have Hlena := Lib.hid (len_any ga ma _ _ _ hKa.1)
        have Hlenb := Lib.hid (len_any gb mb _ _ _ hKb.1)
        have hi1 : ¬ (j : Int) < nrs := by omega
        clear hKa hKb hall
        go_wp2_with fail
        refine Hlena.out.mono ?_
        rintro e w' ⟨rfl, rfl⟩
        go_wp2_with fail
        refine Hlenb.out.mono ?_
        rintro e w' ⟨rfl, rfl⟩
        go_wp2_with fail
        refine (Hdig.out _).mono ?_
        rintro e w7 ⟨rfl, hb7⟩
        have K7 := Lib.hid (And.intro (Kr.out.1.below hb7) (Kr.out.2.below hb7))
        clear hb7 Kr Hlena Hlenb
        go_wp2_with fail
        refine (ku_check f t (dg 7) D K7.out.1 (by decide) hf ht (dg_len 7) HD.out).mono ?_
        rintro e w8 ⟨rfl, hk8, ho8⟩
        have K8 := Lib.hid (K7.out.2.other K7.out.1 ho8 ⟨fun e => Hne.out.1 e.symm, fun e => Hne.out.2 e.symm⟩)
        clear hk8 ho8 K7
        go_wp2_with fail
        refine (Hdig.out _).mono ?_
        rintro e w9 ⟨rfl, hb9⟩
        have K9 := Lib.hid (K8.out.below hb9)
        clear hb9 K8
        go_wp2_with fail
        refine (ku_check f t (dg 7) D K9.out (by decide) hf ht (dg_len 7) HD.out).mono ?_
        rintro e w10 ⟨rfl, hk10, ho10⟩
        have K10 := Lib.hid hk10.bel
        clear hk10 ho10 K9
        generalize chk (putAll [] f (dg 7) rs) f t (dg 7) = z at *
        go_wp2_with fail
        go_ret
        exact ⟨by cases z <;> rfl, K10.out⟩

end Go.Proofs.Ytoidiacofgmigaa.tagVector
