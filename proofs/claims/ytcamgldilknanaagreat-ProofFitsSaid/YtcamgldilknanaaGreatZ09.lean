/-
  Laid together for a hand-in: Bot9, Dgr9, Up9.
-/
import Derived.Test.YtcamgldilknanaaGreatZ07
import Derived.Test.YtcamgldilknanaaGreatZ08
import Derived.Deep.DeepCutAuto
import Derived.Maps.AppendAt

namespace Go.Proofs.YtcamgldilknanaaGreat

open Go.RowKit Go.Maps

set_option linter.unusedVariables false

theorem dg_info : (Tryz.prog.info? 42).map (fun i => (i.zero.isSome, i.size, i.bytes)) = some (true, 32, 32) := by kernel_rfl

theorem dg_zero : ∃ i z, Tryz.prog.info? 42 = some i ∧ i.zero = some z ∧ i.size = 32 ∧ i.bytes = 32 := by
  have h := dg_info
  cases hi : Tryz.prog.info? 42 with
  | none => rw [hi] at h; cases h
  | some i =>
    rw [hi] at h
    simp only [Option.map_some, Option.some.injEq, Prod.mk.injEq] at h
    obtain ⟨h1, h2, h3⟩ := h
    obtain ⟨z, hz⟩ := Option.isSome_iff_exists.1 h1
    exact ⟨i, z, rfl, hz, h2, h3⟩

/-- What is asked of the book for the first k leaves. -/
def BotI (B g bm : Nat) (s : Bk) (N : Nat → Prop) (ls : List (List UInt8)) (w : World) (k : Nat) (wr : World) : Prop :=
  Kb B wr g bm (noteAll s ((ls.map leafIn).take k)) (fun i => N i ∨ i = w.heap.size) ∧ Out (Tn B bm w N) w wr ∧
  ∃ X, wr.ownsRow w.heap.size 42 32 (.slice (some ⟨w.heap.size, 0, none⟩) ls.length ls.length) ls.length (cbs ((lows ls).take k).flatten ++ X)

theorem bot_flat (ls : List (List UInt8)) {k : Nat} (hk : k < ls.length) (X : List Value) (hX : (cbs ((lows ls).take k).flatten ++ X).length = ls.length * 32) :
    (cbs ((lows ls).take k).flatten).length = k * 32 ∧ (cbs ((lows ls).take k).flatten ++ X).take (k * 32) ++ cbs (digest (leafIn ls[k])) ++ (cbs ((lows ls).take k).flatten ++ X).drop (k * 32 + (cbs (digest (leafIn ls[k]))).length) = cbs ((lows ls).take (k + 1)).flatten ++ X.drop 32 := by
  have hl : (cbs ((lows ls).take k).flatten).length = k * 32 := by
    rw [cbs_length, flat_len (fun x hx => all32_lows ls x (List.mem_of_mem_take hx)), List.length_take, lows_len]; omega
  refine ⟨hl, ?_⟩
  have e1 : (lows ls).take (k + 1) = (lows ls).take k ++ [digest (leafIn ls[k])] := by
    rw [List.take_succ_eq_append_getElem (by rw [lows_len]; exact hk)]; simp [lows]
  rw [e1, flat_snoc, cbs_append, List.append_assoc, List.append_assoc]
  rw [List.take_append_of_le_length (by omega), List.take_of_length_le (by omega), List.drop_append, hl, List.drop_of_length_le (by omega)]
  have e2 : k * 32 + (cbs (digest (leafIn ls[k]))).length - k * 32 = 32 := by rw [cbs_length, dlen]; omega
  rw [e2]; simp

set_option maxRecDepth 100000 in
set_option maxHeartbeats 1600000 in
theorem bottomN (B g bm : Nat) (s : Bk) (N : Nat → Prop) (l : Lv) (ls : List (List UInt8)) (w : World) (K : Nat → Prop)
    (h : Kb B w g bm s N) (hB : B ≤ w.heap.size) (hL : s.1.length + 2000 < 1000000) (hk : s.2.2 + 2000 < 1000000) (hls : ∀ x ∈ ls, x.length ≤ 65535) (h1 : 1 ≤ ls.length) (h2 : ls.length ≤ 1024)
    (hx : w.cell? ⟨l.x, 0, none⟩ = some (.int .i64 (ls.length : Int))) (hy : w.cell? ⟨l.y, 0, none⟩ = some (.pointer (some ⟨g, 0, none⟩))) (hz : w.cell? ⟨l.z, 0, none⟩ = some (.func (.func 52) #[] #[]))
    (hxN : l.x < w.heap.size) (hyN : N l.y) (hzN : N l.z) (hK : ∀ j, K j → j < w.heap.size ∧ (j < B ∨ N j)) (hlf : LeafAt 52 [] w K ls) :
    Calls Tryz.prog 73 #[.pointer (some ⟨l.x, 0, none⟩), .pointer (some ⟨l.y, 0, none⟩), .pointer (some ⟨l.z, 0, none⟩)] w fun e w' =>
      e = .returned (.tuple #[.slice (some ⟨w.heap.size, 0, none⟩) ls.length ls.length, .int .i64 0]) ∧ BotI B g bm s N ls w ls.length w' := by
  obtain ⟨i0, z0, hi, hz0, hz1, hz2⟩ := dg_zero
  have hylt := h.lt hyN
  have hzlt := h.lt hzN
  have hx2 : ∀ w2 : World, w.grownBy w2 none → w2.cell? ⟨l.x, 0, none⟩ = some (.int .i64 (ls.length : Int)) := fun w2 hg => hg.cell hx (by simp)
  have HN := Lib.hid (And.intro hyN (And.intro hzN (And.intro hylt hzlt)))
  have Hh := Lib.hid (And.intro h (And.intro hB (And.intro hL (And.intro hk (And.intro hls (And.intro hK hlf))))))
  have Hc2 := Lib.hid (And.intro hx2 (And.intro hy hz))
  clear hyN hzN hylt hzlt h hL hk hls hK hlf hx2 hy hz hxN
  obtain ⟨many, hm⟩ : ∃ many, ls.length = many := ⟨_, rfl⟩
  have Hm := Lib.hid hm
  rw [hm] at hx h1 h2 ⊢
  clear hm hB
  go_enter Tryz.func73, Tryz.ntmps73
  go_wp2_with (refine wpList_make_full _ rfl _ _ 35 rfl w.heap.size 42 i0 z0 32 Tryz.underlying35 hi hz0 hz1 .i64 .i64 _ _ many rfl rfl rfl rfl (by rw [hz2]; omega) (by unfold maxLen; omega) (Nat.le_refl _) ?_; intro w1 ho1 hg1; have hx1 := Hc2.out.1 w1 hg1; rw [Hm.out] at hx1)
  have hb1 : Below w.heap.size w w1 := (Below.refl _ _).grown hg1 (Nat.le_refl _) (by simp)
  have hI0 : BotI B g bm s N ls w 0 w1 := ⟨Hh.out.1.belowN hb1 (fun i hi => by
    rcases hi with hi | rfl
    · exact .inl hi
    · exact .inr ⟨Nat.le_refl _, row_lt ho1⟩), Out.tnBelow hb1, _, by rw [Hm.out]; exact ho1⟩
  have HI0 := Lib.hid hI0
  clear hI0 hg1 ho1 hi hz0 hz1 hz2 hx hx1 hb1
  go_loopw [6, 7, 11] (fun _ _ v wr => ∃ k : Nat, k ≤ many ∧ v = .int .i64 (k : Int) ∧ BotI B g bm s N ls w k wr) (fun _ _ v _ => many - (intOf v).toNat)
  case atStart => exact ⟨0, Nat.zero_le _, rfl, HI0.out⟩
  case round =>
    obtain ⟨k, hkm, rfl, hI⟩ := hrel
    by_cases hlt : k < many
    · obtain ⟨hKb, hO, X, hR⟩ := hI
      have hkl : k < ls.length := by rw [Hm.out]; exact hlt
      have Q0 : wr.drew.cell? ⟨l.y, 0, none⟩ = some (.pointer (some ⟨g, 0, none⟩)) ∧ wr.drew.cell? ⟨l.z, 0, none⟩ = some (.func (.func 52) #[] #[]) := ⟨hO.cellK (N := N) HN.out.1 Hc2.out.2.1, hO.cellK (N := N) HN.out.2.1 Hc2.out.2.2⟩
      obtain ⟨Al, cl, hcl, hBl, hcl1, hcl2⟩ := Hh.out.2.2.2.2.2.2 wr.drew ((Stays.refl K w).out (S := Tn B bm w N) (fun j hj => ⟨(Hh.out.2.2.2.2.2.1 j hj).1, fun hT => by
        rcases (Hh.out.2.2.2.2.2.1 j hj).2 with e | e
        · have := hT.1; omega
        · exact hT.2.1 e⟩) hO.drew9) k hkl
      have hbf := bot_flat ls hkl X (by have := hR.1; omega)
      have hnl := noteAll_len s ((ls.map leafIn).take k)
      have hnt : stepL (noteAll s ((ls.map leafIn).take k)) (leafIn ls[k]) = noteAll s ((ls.map leafIn).take (k + 1)) := by
        rw [noteAll_take s (ls.map leafIn) (by rw [List.length_map]; exact hkl)]; simp
      have hxl : ls[k].length ≤ 65535 := Hh.out.2.2.2.2.1 _ (List.getElem_mem _)
      have hlen := hR.1
      rw [List.length_take] at hnl
      generalize (ls[k]'hkl) = x at *
      obtain ⟨D, hD32, hDv, hD1⟩ : ∃ D : List Value, D.length = 32 ∧ cbs (digest (leafIn x)) = D ∧ D.toArray.all (·.oneCell') = true := ⟨cbs (digest (leafIn x)), by rw [cbs_length, dlen], rfl, cbs_one' _⟩
      have H := Lib.hid (And.intro hKb (And.intro hO (And.intro hBl (And.intro hR (And.intro hDv (And.intro hD32 hD1))))))
      have HX := Lib.hid (And.intro (hlen.trans (by rw [Hm.out])) (And.intro hbf hnt))
      have Hb := Lib.hid (And.intro (Nat.le_trans Hh.out.2.1 hO.size) (And.intro (show (noteAll s ((ls.map leafIn).take k)).1.length < 1000000 by have := Hh.out.2.2.1; omega) (And.intro (show (noteAll s ((ls.map leafIn).take k)).2.2 < 1000000 by have := Hh.out.2.2.2.1; omega) hxl)))
      have Hlf := Lib.hid hcl
      have Hc := Lib.hid (And.intro hcl1 hcl2)
      have hk0 : (0 : Int) ≤ (k : Int) := by omega
      have hk1 : (k : Int) < (many : Int) := by omega
      clear hKb hO hBl hR hDv hD32 hD1 hbf hnt hlen hcl hcl1 hcl2 hnl hxl hkl
      go_wp2
      refine wp_region_held_drew (S := fun W' => W'.cell? ⟨l.y, 0, none⟩ = some (.pointer (some ⟨g, 0, none⟩)) ∧ W'.cell? ⟨l.z, 0, none⟩ = some (.func (.func 52) #[] #[])) (by kernel_rfl) Q0 (fun _ => ?_)
      refine anyH_take (i := 0) (d := 15) (v := ?v0) rfl rfl (by kernel_rfl) (by kernel_rfl) (by kernel_rfl) (fun _ _ _ h => h) (Or.inl ⟨by rfl, ?vy0⟩) Q0 ?vr0
      case vy0 => (intro w; go_simp; try with_reducible rfl)
      simp only [List.setIfInBounds_toArray, List.set_cons_zero, List.set_cons_succ]
      refine anyH_take (i := 1) (d := 16) (v := ?v1) rfl rfl (by kernel_rfl) (by kernel_rfl) (by kernel_rfl) (fun _ _ _ h => h) (Or.inl ⟨by rfl, ?vy1⟩) Q0 ?vr1
      case vy1 => (intro w; go_simp; try with_reducible rfl)
      simp only [List.setIfInBounds_toArray, List.set_cons_zero, List.set_cons_succ]
      refine wpAnyH_take' (i := 2) (d := 17) (v := ?v2) rfl rfl (by kernel_rfl) (by kernel_rfl) (by kernel_rfl) (fun _ _ _ h => h) (Or.inl ⟨by rfl, ?vy2⟩) Q0 ?vr2
      case vy2 => (intro w hSw; go_split_ands; go_simp; try with_reducible rfl)
      simp only [List.setIfInBounds_toArray, List.set_cons_zero, List.set_cons_succ]
      refine wpAnyH_take' (i := 3) (d := 18) (v := ?v3) rfl rfl (by kernel_rfl) (by kernel_rfl) (by kernel_rfl) (fun _ _ _ h => h) (Or.inl ⟨by rfl, ?vy3⟩) Q0 ?vr3
      case vy3 => (intro w hSw; go_split_ands; go_simp; try with_reducible rfl)
      simp only [List.setIfInBounds_toArray, List.set_cons_zero, List.set_cons_succ]
      refine anyH_take (i := 4) (d := 19) (v := ?v4) rfl rfl (by kernel_rfl) (by kernel_rfl) (by kernel_rfl) (fun _ _ _ h => h) (Or.inl ⟨by rfl, ?vy4⟩) Q0 ?vr4
      case vy4 => (intro w; go_simp; try with_reducible rfl)
      simp only [List.setIfInBounds_toArray, List.set_cons_zero, List.set_cons_succ]
      refine anyH_one (i := 5) (by kernel_rfl) ?_
      refine wpOp_step rfl (fun K hK => ?_)
      go_simp
      refine Hlf.out.mono ?_
      rintro e w' ⟨rfl, rfl⟩
      refine hK _ _ ⟨Q0, ?_⟩
      clear hK K
      refine anyH_one (i := 6) (by kernel_rfl) ?_
      refine wpOp_step rfl (fun K hK => ?_)
      go_simp
      refine (leaf_kb B g bm _ _ Al _ cl _ _ H.out.1.drew9 Hb.out.1 Hb.out.2.1 Hb.out.2.2.1 H.out.2.2.1 rfl Hc.out.1 Hc.out.2 Hb.out.2.2.2).mono ?_
      rintro e w2 ⟨rfl, hK2, hO2⟩
      rw [H.out.2.2.2.2.1]
      have c1 : w2.cell? ⟨l.y, 0, none⟩ = some (.pointer (some ⟨g, 0, none⟩)) ∧ w2.cell? ⟨l.z, 0, none⟩ = some (.func (.func 52) #[] #[]) := ⟨(hO2.cellK (N := fun i => N i ∨ i = w.heap.size) (.inl HN.out.1) Q0.1), (hO2.cellK (N := fun i => N i ∨ i = w.heap.size) (.inl HN.out.2.1) Q0.2)⟩
      have hO2' : Out (Tn B bm w N) w w2 := H.out.2.1.drew9.tn hO2 (fun i _ h => .inl h)
      have hR2 := row_out (w := wr.drew) H.out.2.2.2.1 hO2 (fun h => h.2.1 (.inr rfl))
      have hth := row_there hR2 (o := k * 32) (k := 32) (by rw [HX.out.1]; omega)
      have hP2 := row_put D hR2 (o := k * 32) (by rw [HX.out.1, H.out.2.2.2.2.2.1]; omega)
      obtain ⟨wS, hwS⟩ : ∃ wS, w2.setCells w.heap.size (k * 32) D = wS := ⟨_, rfl⟩
      have hK3 : Kb B wS g bm (stepL (noteAll s ((ls.map leafIn).take k)) (leafIn x)) (fun i => N i ∨ i = w.heap.size) := by rw [← hwS]; exact hK2.store (x := w.heap.size) (.inr rfl) (k * 32) D
      have hO3 : Out (Tn B bm w N) w wS := by rw [← hwS]; exact hO2'.store (Nat.le_refl _) (k * 32) D
      have Q2 : wS.cell? ⟨l.y, 0, none⟩ = some (.pointer (some ⟨g, 0, none⟩)) ∧ wS.cell? ⟨l.z, 0, none⟩ = some (.func (.func 52) #[] #[]) := by rw [← hwS]; exact ⟨(World.cell?_of_block (block_setCells (Nat.ne_of_lt HN.out.2.2.1) D)).trans c1.1, (World.cell?_of_block (block_setCells (Nat.ne_of_lt HN.out.2.2.2) D)).trans c1.2⟩
      rw [hwS] at hP2
      have hsz : D.toArray.size = 32 := by rw [List.size_toArray]; exact H.out.2.2.2.2.2.1
      have hth' : w2.there w.heap.size (k * 32) D.toArray.size := by rw [hsz]; exact hth
      have hDi : (Tryz.prog.info? 42).map (·.size) = some D.toArray.size := by rw [hsz]; exact info32b
      have H3 := Lib.hid (And.intro hK3 (And.intro hO3 (And.intro hP2 (And.intro hth' (And.intro hDi hwS)))))
      clear hK2 hO2 hO2' hR2 hth hP2 hK3 hO3 hsz hth' hDi hwS
      refine hK _ _ ⟨c1, ?_⟩
      clear hK K
      refine anyH_take (i := 7) (d := 14) (v := ?v7) rfl rfl (by kernel_rfl) (by kernel_rfl) (by kernel_rfl) (fun _ _ _ h => h) (Or.inl ⟨by rfl, ?vy7⟩) c1 ?vr7
      case vy7 => (intro w; go_simp; try with_reducible rfl)
      simp only [List.setIfInBounds_toArray, List.set_cons_zero, List.set_cons_succ]
      refine anyH_take (i := 8) (d := 22) (v := ?v8) rfl rfl (by kernel_rfl) (by kernel_rfl) (by kernel_rfl) (fun _ _ _ h => h) (Or.inl ⟨by rfl, ?vy8⟩) c1 ?vr8
      case vy8 => (intro w; go_simp; try with_reducible rfl)
      simp only [List.setIfInBounds_toArray, List.set_cons_zero, List.set_cons_succ]
      refine anyH_take (i := 9) (d := 23) (v := ?v9) rfl rfl (by kernel_rfl) (by kernel_rfl) (by kernel_rfl) (fun _ _ _ h => h) (Or.inl ⟨by rfl, ?vy9⟩) c1 ?vr9
      case vy9 => (intro w; go_simp; try with_reducible rfl)
      simp only [List.setIfInBounds_toArray, List.set_cons_zero, List.set_cons_succ]
      refine anyH_take (i := 10) (d := 24) (v := ?v10) rfl rfl (by kernel_rfl) (by kernel_rfl) (by kernel_rfl) (fun _ _ _ h => h) (Or.inl ⟨by rfl, ?vy10⟩) c1 ?vr10
      case vy10 => (intro w; go_simp; try with_reducible rfl)
      simp only [List.setIfInBounds_toArray, List.set_cons_zero, List.set_cons_succ]
      refine anyH_one (i := 11) (by kernel_rfl) ?_
      refine op_storeE rfl rfl rfl 42 _ _ rfl w.heap.size (k * 32) D rfl rfl H3.out.2.2.2.1 H3.out.2.2.2.2.1 H.out.2.2.2.2.2.2 H3.out.2.2.2.2.2 ?_
      refine ⟨Q2, ?_⟩
      refine anyH_take (i := 12) (d := 7) (v := ?v12) rfl rfl (by kernel_rfl) (by kernel_rfl) (by kernel_rfl) (fun _ _ _ h => h) (Or.inl ⟨by rfl, ?vy12⟩) Q2 ?vr12
      case vy12 => (intro w; go_simp; try with_reducible rfl)
      simp only [List.setIfInBounds_toArray, List.set_cons_zero, List.set_cons_succ]
      refine wpAnyH_done (by kernel_rfl) ?_ _
      go_wp2
      go_roundw
      case rel =>
        have hP := H3.out.2.2.1
        rw [← H.out.2.2.2.2.1, HX.out.2.1.2] at hP
        have hQ := H3.out.1
        rw [HX.out.2.2] at hQ
        exact ⟨k + 1, by omega, by go_num, hQ, H3.out.2.1, _, hP⟩
      case measure => simp [intOf]; omega
    · obtain rfl : k = many := by omega
      have HI := Lib.hid hI
      clear hI
      go_wp2
      go_ret2
      refine ⟨?_, HI.out⟩
      simp

end Go.Proofs.YtcamgldilknanaaGreat

namespace Go.Proofs.YtcamgldilknanaaGreat

open Go.RowKit Go.Maps

set_option linter.unusedVariables false

theorem thirty2 (d : List Value) (h : d.length = 32) : ∃ x0 x1 x2 x3 x4 x5 x6 x7 x8 x9 x10 x11 x12 x13 x14 x15 x16 x17 x18 x19 x20 x21 x22 x23 x24 x25 x26 x27 x28 x29 x30 x31, d = [x0, x1, x2, x3, x4, x5, x6, x7, x8, x9, x10, x11, x12, x13, x14, x15, x16, x17, x18, x19, x20, x21, x22, x23, x24, x25, x26, x27, x28, x29, x30, x31] := by
  obtain _ | ⟨x0, d⟩ := d
  · simp at h
  obtain _ | ⟨x1, d⟩ := d
  · simp at h
  obtain _ | ⟨x2, d⟩ := d
  · simp at h
  obtain _ | ⟨x3, d⟩ := d
  · simp at h
  obtain _ | ⟨x4, d⟩ := d
  · simp at h
  obtain _ | ⟨x5, d⟩ := d
  · simp at h
  obtain _ | ⟨x6, d⟩ := d
  · simp at h
  obtain _ | ⟨x7, d⟩ := d
  · simp at h
  obtain _ | ⟨x8, d⟩ := d
  · simp at h
  obtain _ | ⟨x9, d⟩ := d
  · simp at h
  obtain _ | ⟨x10, d⟩ := d
  · simp at h
  obtain _ | ⟨x11, d⟩ := d
  · simp at h
  obtain _ | ⟨x12, d⟩ := d
  · simp at h
  obtain _ | ⟨x13, d⟩ := d
  · simp at h
  obtain _ | ⟨x14, d⟩ := d
  · simp at h
  obtain _ | ⟨x15, d⟩ := d
  · simp at h
  obtain _ | ⟨x16, d⟩ := d
  · simp at h
  obtain _ | ⟨x17, d⟩ := d
  · simp at h
  obtain _ | ⟨x18, d⟩ := d
  · simp at h
  obtain _ | ⟨x19, d⟩ := d
  · simp at h
  obtain _ | ⟨x20, d⟩ := d
  · simp at h
  obtain _ | ⟨x21, d⟩ := d
  · simp at h
  obtain _ | ⟨x22, d⟩ := d
  · simp at h
  obtain _ | ⟨x23, d⟩ := d
  · simp at h
  obtain _ | ⟨x24, d⟩ := d
  · simp at h
  obtain _ | ⟨x25, d⟩ := d
  · simp at h
  obtain _ | ⟨x26, d⟩ := d
  · simp at h
  obtain _ | ⟨x27, d⟩ := d
  · simp at h
  obtain _ | ⟨x28, d⟩ := d
  · simp at h
  obtain _ | ⟨x29, d⟩ := d
  · simp at h
  obtain _ | ⟨x30, d⟩ := d
  · simp at h
  obtain _ | ⟨x31, d⟩ := d
  · simp at h
  obtain _ | ⟨y, d⟩ := d
  · exact ⟨x0, x1, x2, x3, x4, x5, x6, x7, x8, x9, x10, x11, x12, x13, x14, x15, x16, x17, x18, x19, x20, x21, x22, x23, x24, x25, x26, x27, x28, x29, x30, x31, rfl⟩
  · simp at h

set_option maxRecDepth 100000 in
theorem run_buildDg (D : List Value) (h : D.length = 32) (w : World) : (Instr.buildSlice 35 1 #[(0, .agg D.toArray)]).run Tryz.prog w = .ok (.slice (some ⟨w.heap.size, 0, none⟩) 1 1) (w.alloc (.cells D.toArray 42)) := by
  obtain ⟨x0, x1, x2, x3, x4, x5, x6, x7, x8, x9, x10, x11, x12, x13, x14, x15, x16, x17, x18, x19, x20, x21, x22, x23, x24, x25, x26, x27, x28, x29, x30, x31, rfl⟩ := thirty2 D h
  kernel_rfl

/-- append of one digest that stands in a block of its own. -/
theorem run_appendDg (w : World) (base : Nat) (v : Value) (l : List Dg) (h32 : All32 l) (hown : w.ownsRow base 42 32 v l.length (cbs l.flatten)) (g : Nat) (d : Dg) (hd : d.length = 32) (hg : Blk w g 42 (cbs d)) (hl : l.length ≤ 100000) (hbase : base ≤ w.heap.size) (ty : TypeId) :
    ∃ v' w', (Builtin.append_ #[35, 35] ty #[v, .slice (some ⟨g, 0, none⟩) 1 1]).run Tryz.prog w = .ok v' w' ∧ w'.ownsRow base 42 32 v' (l ++ [d]).length (cbs (l ++ [d]).flatten) ∧ w.grownBy w' v.ownBlock ∧
      (v'.ownBlock = v.ownBlock ∨ v'.ownBlock = some w.heap.size) := by
  obtain ⟨i0, z0, hi, hz0, hz1, hz2⟩ := dg_zero
  have hzc : z0.cells.size = 32 := by
    have e : (Tryz.prog.info? 42).map (fun i => (i.zero.map fun z => z.cells.size)) = some (some 32) := by kernel_rfl
    rw [hi] at e
    simp [hz0] at e
    exact e
  obtain ⟨v', w', h1, h2, h3, _, h5⟩ := run_append_own_at (P := Tryz.prog) w base 35 ty 42 i0 z0 32 32 Tryz.underlying35 hi hz0 hz1 hz2 hzc (by decide) v l.length (cbs l.flatten) hown ⟨g, 0, none⟩ 1 1 (cbs d)
    (by rw [cbs_length, hd]) (fun j u hu => by rw [add_mk, Nat.zero_add]; exact hg.cell hu) (cbs_one d) (by simp only [maxLen]; omega) (by omega) hbase
  refine ⟨v', w', h1, ?_, h3, h5⟩
  rw [flat_snoc, cbs_append, List.length_append]
  exact h2

end Go.Proofs.YtcamgldilknanaaGreat

namespace Go.Proofs.YtcamgldilknanaaGreat

open Go.RowKit Go.Maps

set_option linter.unusedVariables false

theorem upIn_len {ds : List Dg} (h : All32 ds) : (upIn ds).length = 32 * ds.length + 1 := by simp [upIn, flat_len h]

theorem Mine.one {w : World} {x : UInt8} {base g : Nat} {t : Value} (hg : w.heap.size = g) (hb : base ≤ g) (hx : t = cb x) : Mine (w.alloc (.cells #[t] 5)) base 5 (.slice (some ⟨g, 0, none⟩) 1 1) [x] := by
  subst hg hx
  exact ⟨rfl, .inr ⟨_, 1, _, rfl, hb, heap_alloc_new w _, Nat.le_refl _, by decide, rfl, rfl⟩⟩

set_option maxRecDepth 100000 in
set_option maxHeartbeats 1600000 in
theorem up_any (S : Nat → Prop) (g bm : Nat) (s : Bk) (A : Option Addr) (m cp : Nat) (ds : List Dg) (w : World) (h : BookS w S g bm s) (hL : s.1.length < 1000000) (hk : s.2.2 < 1000000)
    (hD : Ds w A ds) (h32 : All32 ds) (hm : ds.length = m) (h1 : 1 ≤ m) (h4 : m ≤ 4) :
    Calls Tryz.prog 26 #[.pointer (some ⟨g, 0, none⟩), .slice A m cp] w fun e w' =>
      e = .returned (.tuple #[.agg (cbs (digest (upIn ds))).toArray, .int .i64 0]) ∧ Bg S w w' g bm (stepL s (upIn ds)) := by
  obtain ⟨D, hD32, hDv, hD1⟩ : ∃ D : List Value, D.length = 32 ∧ cbs (digest (upIn ds)) = D ∧ D.toArray.all (·.oneCell') = true := ⟨cbs (digest (upIn ds)), by rw [cbs_length, dlen], rfl, cbs_one' _⟩
  have hul : (upIn ds).length ≤ 65536 := by rw [upIn_len h32]; omega
  have hof : ofD (upIn ds) = digest (upIn ds) := if_pos hul
  have hoe : ofE (upIn ds) = 0 := if_pos hul
  have hb1 : Below w.heap.size w (w.alloc (.cells (cbs (List.replicate 32 0)).toArray 42)) := (Below.refl _ _).alloc (Nat.le_refl _) _
  have hZ1 : Blk (w.alloc (.cells (cbs (List.replicate 32 0)).toArray 42)) w.heap.size 42 (cbs (List.replicate 32 0)) := Blk.new rfl rfl
  have hM1 : Mine ((w.alloc (.cells (cbs (List.replicate 32 0)).toArray 42)).alloc (.cells #[.int .u8 1] 5)) (w.heap.size + 1) 5 (.slice (some ⟨w.heap.size + 1, 0, none⟩) 1 1) (1 :: (ds.take 0).flatten) := Mine.one (x := 1) (by simp) (Nat.le_refl _) rfl
  have hb2 := hb1.alloc (by simp) (.cells #[.int .u8 1] 5)
  have hb3 : Below (w.heap.size + 1) (w.alloc (.cells (cbs (List.replicate 32 0)).toArray 42)) ((w.alloc (.cells (cbs (List.replicate 32 0)).toArray 42)).alloc (.cells #[.int .u8 1] 5)) := (Below.refl _ _).alloc (by simp) _
  have H1 := Lib.hid (And.intro hb1 (And.intro hZ1 (And.intro hM1 (And.intro hb2 hb3))))
  have Ho := Lib.hid (And.intro hD32 (And.intro hDv (And.intro hD1 (And.intro hof hoe))))
  have Hh := Lib.hid (And.intro h (And.intro hL (And.intro hk (And.intro hm (And.intro hD h32)))))
  have hm1 : ¬ ((m : Int) < 1) := by omega
  have hm4 : ¬ ((4 : Int) < m) := by omega
  clear hb1 hZ1 hM1 hb2 hb3 hD32 hDv hD1 hof hoe h hL hk hm hD h32 hul
  rw [Ho.out.2.1]
  go_enter Tryz.func26, Tryz.ntmps26
  go_wp2
  go_loopw [6, 8, 21] (fun v _ i wr => ∃ k : Nat, k ≤ m ∧ i = .int .i64 k ∧ Mine wr (w.heap.size + 1) 5 v (1 :: (ds.take k).flatten) ∧ Below w.heap.size w wr ∧ Blk wr w.heap.size 42 (cbs (List.replicate 32 0))) (fun _ _ i _ => m - (intOf i).toNat)
  case atStart => exact ⟨0, Nat.zero_le _, rfl, H1.out.2.2.1, H1.out.2.2.2.1, H1.out.2.1.below H1.out.2.2.2.2 (by omega)⟩
  case round =>
    obtain ⟨k, hk, rfl, hM, hB, hZ⟩ := hrel
    by_cases hlt : k < m
    · obtain ⟨b, off, rfl, hb, hr⟩ := (Hh.out.2.2.2.2.1.after hB).at_ Hh.out.2.2.2.2.2 (i := k) (by rw [Hh.out.2.2.2.1]; exact hlt)
      have hx32 : (ds[k]'(by rw [Hh.out.2.2.2.1]; exact hlt)).length = 32 := Hh.out.2.2.2.2.2 _ (List.getElem_mem _)
      have hst := flat_step9 ds k (by rw [Hh.out.2.2.2.1]; exact hlt)
      have hlen : (1 :: (ds.take k).flatten).length + 32 ≤ 140737488355328 := by
        have := flat_len (l := ds.take k) (fun x hx => Hh.out.2.2.2.2.2 x (List.mem_of_mem_take hx))
        rw [List.length_cons, this, List.length_take]; omega
      generalize (ds[k]'(by rw [Hh.out.2.2.2.1]; exact hlt)) = x at *
      obtain ⟨X, hX⟩ : ∃ X, cbs x = X := ⟨_, rfl⟩
      have hX32 : X.length = 32 := by rw [← hX, cbs_length, hx32]
      have hX1 : X.toArray.all (·.oneCell') = true := by rw [← hX]; exact cbs_one' _
      rw [hX] at hr
      have hXi : (Tryz.prog.info? 42).map (·.size) = some X.length := by rw [hX32]; exact info32b
      obtain ⟨wS, hwS, ⟨hth, hi⟩, hbS, hbel, hszS⟩ := dig_local wr X hX32
      have hBx : Bs wS (some ⟨wr.heap.size, 0, none⟩) x := Bs.ofBlk (by rw [hX]; exact hbS)
      have hMS : Mine wS (w.heap.size + 1) 5 _ (1 :: (ds.take k).flatten) := hM.after hbel
      have hBS : Below w.heap.size w wS := hB.trans (hbel.mono hB.size)
      have hZS : Blk wS w.heap.size 42 (cbs (List.replicate 32 0)) := hZ.below hbel hZ.lt
      have hgeS : w.heap.size + 1 ≤ wS.heap.size := by have := hZS.lt; omega
      have HwS := Lib.hid hwS
      have Hst := Lib.hid hst
      have Hl := Lib.hid (And.intro hx32 hlen)
      have Hr := Lib.hid (And.intro hr hXi)
      have Hs := Lib.hid (And.intro hth (And.intro hi hX1))
      have Hm := Lib.hid (And.intro hMS (And.intro hBx (And.intro hBS (And.intro hZS hgeS))))
      clear hwS hst hx32 hlen hr hXi hth hi hX1 hMS hBx hBS hZS hbS hbel hM hZ hX32 hX hszS hgeS
      go_wp2_with (first
        | (refine wpList_load_mid rfl 42 _ rfl b (off + k * 32) rfl X _ Hr.out.1 Tryz.underlying42 rfl Hr.out.2 ?_; simp only [Act.put])
        | (refine wpList_store_mid rfl 42 _ _ rfl wr.heap.size 0 X.toArray rfl rfl Hs.out.1 Hs.out.2.1 Hs.out.2.2 ?_; simp only [Act.put]; refine cast (congrArg (fun z => wpList _ _ _ _ _ z) HwS.out.symm) ?_)
        | (at_builtin; refine wp_appendB rfl _ _ rfl (w.heap.size + 1) _ _ rfl Hm.out.1 (some ⟨wr.heap.size, 0, none⟩) 32 32 x rfl Hm.out.2.1 Hl.out.1 Hl.out.2 Hm.out.2.2.2.2 ?_; intro v2 w2 hm2 hg2 ho2))
      go_roundw
      case rel =>
        have hw2 : Below w.heap.size w w2 := Hm.out.2.2.1.grown hg2 Hm.out.2.2.1.size fun j hj => by have := (World.ownsRow.lt Hm.out.1 j hj).1; omega
        have hz2 : Blk w2 w.heap.size 42 (cbs (List.replicate 32 0)) := (hg2.block _ Hm.out.2.2.2.1.lt fun e => by have := (World.ownsRow.lt Hm.out.1 _ e.symm).1; omega).trans Hm.out.2.2.2.1
        exact ⟨k + 1, by omega, by go_num, by rw [Hst.out]; exact hm2, hw2, hz2⟩
      case measure => simp [intOf]; omega
    · obtain rfl : k = m := by omega
      have Hst : Hid (1 :: (ds.take k).flatten = upIn ds) := by
        show _ = _; rw [List.take_of_length_le (by rw [Hh.out.2.2.2.1]; omega)]; rfl
      rw [Hst.out] at hM
      obtain ⟨Av, cv, rfl, hcv, hcvm, hBv⟩ := Mine.form hM
      have hof := bs_of (BookM.below Hh.out.1 hB) Hh.out.2.1 Hh.out.2.2.1 Av _ cv (upIn ds) hBv rfl hcv hcvm
      rw [Ho.out.2.2.2.1, Ho.out.2.2.2.2, Ho.out.2.1] at hof
      have Hof := Lib.hid hof
      have H2 := Lib.hid (And.intro hB hZ)
      have hlt2 := hZ.lt
      clear hof hM hB hZ hcv hcvm hBv
      go_wp2_with fail
      refine Hof.out.mono ?_
      rintro e w3 ⟨rfl, hG3⟩
      have hnS : ¬ S w.heap.size := fun e => by have := Hh.out.1.lt e; omega
      have hZ3 := hG3.blk H2.out.2 hnS
      have hsD : D.toArray.size = 32 := by rw [List.size_toArray]; exact Ho.out.1
      have hth : w3.there w.heap.size 0 D.toArray.size := by
        have e := hZ3.there
        rw [cbs_length, List.length_replicate] at e
        rw [hsD]; exact e
      have hi : (Tryz.prog.info? 42).map (·.size) = some D.toArray.size := by rw [hsD]; exact info32b
      have hR := hZ3.setAll (vs := D) (by rw [Ho.out.1, cbs_length, List.length_replicate])
      have hGf := Bg.store H2.out.1 (fun i hi => Hh.out.1.lt hi) hG3 (Nat.le_refl _) hlt2 0 D
      have Hth := Lib.hid hth
      have Hi := Lib.hid hi
      have H3 := Lib.hid (And.intro hR hGf)
      clear hZ3 hsD hth hi hR hGf hG3 hnS hlt2
      go_wp2_with (refine wpList_store_mid rfl 42 _ _ rfl w.heap.size 0 D.toArray rfl rfl Hth.out Hi.out Ho.out.2.2.1 ?_)
      refine bodyPost_ret (results_row_tmp rfl _ _ w.heap.size 42 D.toArray (0, 0) _ rfl H3.out.1 Tryz.underlying42 rfl Hi.out) rfl ?_
      exact ⟨rfl, H3.out.2⟩

theorem up_kb (B g bm : Nat) (s : Bk) (N : Nat → Prop) (A : Option Addr) (m cp : Nat) (ds : List Dg) (w : World) (h : Kb B w g bm s N) (hB0 : B ≤ w.heap.size) (hL : s.1.length < 1000000) (hk : s.2.2 < 1000000)
    (hD : Ds w A ds) (h32 : All32 ds) (hm : ds.length = m) (h1 : 1 ≤ m) (h4 : m ≤ 4) :
    Calls Tryz.prog 26 #[.pointer (some ⟨g, 0, none⟩), .slice A m cp] w fun e w' =>
      e = .returned (.tuple #[.agg (cbs (digest (upIn ds))).toArray, .int .i64 0]) ∧ Kb B w' g bm (stepL s (upIn ds)) N ∧ Out (Tn B bm w N) w w' := by
  obtain ⟨S', h1', h2, h3⟩ := h
  refine (up_any S' g bm s A m cp ds w h1' hL hk hD h32 hm h1 h4).mono ?_
  rintro e w' ⟨rfl, hG⟩
  exact ⟨rfl, Kb.go hB0 h2 h3 hG⟩

end Go.Proofs.YtcamgldilknanaaGreat
