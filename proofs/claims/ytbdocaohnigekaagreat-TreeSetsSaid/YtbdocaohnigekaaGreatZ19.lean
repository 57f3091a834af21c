/-
  Laid together for a hand-in: RS9, RSame9, RSt9, RSu9, SetsZ9.
-/
import Derived.Test.YtbdocaohnigekaaGreatZ18
import Derived.Test.YtbdocaohnigekaaGreatZ15
import Derived.Test.YtbdocaohnigekaaGreatZ17

namespace Go.Proofs.YtbdocaohnigekaaGreat
open Go.RowKit Go.Maps
set_option linter.unusedVariables false
set_option linter.unusedSimpArgs false

section
variable {w w2 : World} {M : Nat → Prop} {t gr lb c n : Nat} {xs : List (List UInt8)} {vs : List Value}
theorem RTS.c1 (h : RTS w M t gr xs lb c vs) (hn : xs.length = n) (hb : Below w.heap.size w w2) : w2.cell? ⟨t, 1, none⟩ = some (.slice (some ⟨lb, 0, none⟩) n c) := by
  subst hn
  exact (World.cell?_of_block (hb.block t h.blk.lt)).trans (h.blk.cell rfl)
theorem RTS.c0 (h : RTS w M t gr xs lb c vs) : w.cell? ⟨t, 0, none⟩ = some (.pointer (some ⟨gr, 0, none⟩)) := h.blk.cell rfl
theorem RTS.c1' {xs' : List (List UInt8)} {i : Nat} {x : List UInt8} (h : RTS w M t gr (xs'.set i x) lb c vs) (hn : xs'.length = n) : w.cell? ⟨t, 1, none⟩ = some (.slice (some ⟨lb, 0, none⟩) n c) := by
  have := h.c1 (n := n) (by rw [List.length_set]; exact hn) (Below.refl _ _)
  exact this
theorem RTS.old (h : RTS w M t gr xs lb c vs) (hb : Below w.heap.size w w2) (i : Nat) (hi : i < xs.length) : w2.cell? ⟨lb, i, none⟩ = some (vs.getD i undef) := by
  have hl := h.row.1
  rw [World.cell?_of_block (hb.block lb (row_ltv h.row rfl).2), World.ownsRow.cellAt h.row i (by omega), List.getD_eq_getElem?_getD, List.getElem?_eq_getElem (by omega)]
  rfl
theorem RTS.free (h : RTS w M t gr xs lb c vs) (hb : Below w.heap.size w w2) (i : Nat) : w2.frozen? ⟨lb, i, none⟩ = false := by
  obtain ⟨cs, hc⟩ := row_block h.row (b := lb) rfl
  exact frozen_of_row w2 lb i cs _ ((hb.block lb (row_ltv h.row rfl).2).trans hc)
theorem RTS.ne (h : RTS w M t gr xs lb c vs) : t ≠ lb := fun e => by
  obtain ⟨cs, hc⟩ := row_block h.row (b := lb) rfl
  have hb := h.blk
  unfold Blk at hb
  rw [e, hc] at hb
  injection hb with e1
  injection e1 with _ e1
  cases e1
theorem RTS.set_ {hd : Value} {x : List UInt8} (h : RTS w M t gr xs lb c vs) (hb : Below w.heap.size w w2) (hm : Mine w2 w.heap.size 5 hd x) (i : Nat) (hi : i < xs.length) :
    RTS (w2.setCell ⟨lb, i, none⟩ hd) (fun j => M j ∨ hd.ownBlock = some j) t gr (xs.set i x) lb c (vs.set i hd) := by
  have hlb := row_ltv h.row (b := lb) rfl
  have hrow2 : w2.ownsRow 0 35 1 (.slice (some ⟨lb, 0, none⟩) xs.length c) xs.length vs := row_stay h.row fun b cs hbb _ => hb.block b (row_ltv h.row hbb).2
  have hk : ∀ {b : Nat}, b ≠ lb → (w2.setCell ⟨lb, i, none⟩ hd).heap[b]? = w2.heap[b]? := fun {b} hne => Below.heap_setCell w2 ⟨lb, i, none⟩ hd b hne
  have hvl : vs.length = xs.length := by have := h.row.1; omega
  have hz : (w2.setCell ⟨lb, i, none⟩ hd).heap.size = w2.heap.size := by simp [World.setCell]
  refine ⟨?_, by rw [List.length_set]; exact (World.ownsRow.stored hrow2 i hd).1, fun j hj => ?_, ⟨.inl h.inM.1, .inl h.inM.2⟩, fun j hj => ?_⟩
  · rw [List.length_set]
    exact (hk h.ne).trans ((hb.block t h.blk.lt).trans h.blk)
  · have hj' : j < xs.length := by simpa using hj
    by_cases e : i = j
    · subst e
      refine ⟨hd, by rw [List.getElem?_set_self (by omega)], ?_, fun b hbb => .inr hbb⟩
      rw [List.getElem_set_self]
      exact row_base (row_stay hm fun b cs hbb _ => hk (by have := (row_ltv hm hbb).1; omega)) (Nat.zero_le _)
    · obtain ⟨h', e', hm', hb'⟩ := h.lvs j hj'
      refine ⟨h', by rw [List.getElem?_set_ne e]; exact e', ?_, fun b hbb => .inl (hb' b hbb)⟩
      rw [List.getElem_set_ne e]
      exact row_stay hm' fun b cs hbb _ => (hk (fun e2 => by subst e2; exact row_ne hm' h.row (by decide) hbb rfl)).trans (hb.block b (row_ltv hm' hbb).2)
  · rw [hz]
    rcases hj with hj | hj
    · exact Nat.lt_of_lt_of_le (h.ltM j hj) hb.size
    · exact (row_ltv hm hj).2
end

def RSetP (B gr : Nat) (s : Lk) (N M : Nat → Prop) (w : World) (xs : List (List UInt8)) (t i : Nat) (x : List UInt8) (e : Ending) (w' : World) : Prop :=
  e = .returned (.int .i64 0) ∧ ∃ M' : Nat → Prop, RT w' M' t gr (xs.set i x) ∧ (∀ j, M j → M' j) ∧ (∀ j, M' j → M j ∨ w.heap.size ≤ j) ∧ Rb B w' gr (noteR s (insTo (xs.set i x) (dep xs.length - 1))) (fun j => N j ∨ M' j) ∧ Out (fun j => Tr B w N j ∨ M j) w w'

section
variable {w : World} {M : Nat → Prop} {t gr : Nat} {xs : List (List UInt8)} (hT0 : RT w M t gr xs)
set_option maxRecDepth 100000 in
set_option maxHeartbeats 1600000 in
theorem rtset_any (B : Nat) (s : Lk) (N : Nat → Prop) (hT0 : RT w M t gr xs) (hRb : Rb B w gr s N) (hB0 : B ≤ w.heap.size) (hMN : ∀ j, M j → N j) (hL : s.1.length + 20000 < 1000000) (hk : s.2 + 20000 < 1000000) (h1 : 1 ≤ xs.length) (h2 : xs.length ≤ 1024) (hls : ∀ x ∈ xs, x.length ≤ 65535)
    (i : Nat) (hi : i < xs.length) (A : Option Addr) (nx cp : Nat) (x : List UInt8) (hBx : Bs w A x) (hnx : x.length = nx) (hx : nx ≤ 65535) :
    Calls Tryz.prog 12 #[.pointer (some ⟨t, 0, none⟩), .int .i64 (i : Int), .slice A nx cp] w (RSetP B gr s N M w xs t i x) := by
  obtain ⟨lb, c, vs, hT⟩ := hT0
  obtain ⟨n, hn⟩ : ∃ n, xs.length = n := ⟨_, rfl⟩
  have c1 := hT.c1 hn (Below.refl _ _)
  have Hcb := Lib.hid (copyBytes A cp nx x w.drew (hBx.after ((Below.refl _ _).drew)) hnx (by omega))
  have HT := Lib.hid hT
  have Hi := Lib.hid hi
  have Hx := Lib.hid hnx
  have Hn := Lib.hid hn
  have Hh := Lib.hid (And.intro hRb (And.intro hB0 (And.intro hMN (And.intro hL (And.intro hk (And.intro h1 (And.intro h2 (And.intro hls hx))))))))
  have i0 : (0 : Int) ≤ (i : Int) := by omega
  have i1 : (i : Int) < (n : Int) := by omega
  have i2 : ¬ (n : Int) ≤ (i : Int) := by omega
  have i3 : decide ((i : Int) < 0) = false := by simp
  have x1 : ¬ (65536 : Int) ≤ (nx : Int) := by omega
  have Q0 : w.drew.cell? ⟨t, 1, none⟩ = some (.slice (some ⟨lb, 0, none⟩) n c) := hT.c1 hn ((Below.refl _ _).drew)
  clear hT hRb hB0 hMN hL hk h1 h2 hls hi hBx hnx hx hn
  go_enter Tryz.func12, Tryz.ntmps12
  go_wp2
  refine wp_region_held_drew (S := fun W' => W'.cell? ⟨t, 1, none⟩ = some (.slice (some ⟨lb, 0, none⟩) n c)) (by kernel_rfl) Q0 (fun _ => ?_)
  refine anyH_take (i := 0) (d := 21) (v := ?v0) rfl rfl (by kernel_rfl) (by kernel_rfl) (by kernel_rfl) (fun _ _ _ h => h) (Or.inl ⟨by rfl, ?vy0⟩) Q0 ?vr0
  case vy0 => (intro w; go_simp; try with_reducible rfl)
  simp only [List.setIfInBounds_toArray, List.set_cons_zero, List.set_cons_succ]
  refine anyH_take (i := 1) (d := 22) (v := ?v1) rfl rfl (by kernel_rfl) (by kernel_rfl) (by kernel_rfl) (fun _ _ _ h => h) (Or.inl ⟨by rfl, ?vy1⟩) Q0 ?vr1
  case vy1 => (intro w; go_simp; try with_reducible rfl)
  simp only [List.setIfInBounds_toArray, List.set_cons_zero, List.set_cons_succ]
  refine anyH_take (i := 2) (d := 23) (v := ?v2) rfl rfl (by kernel_rfl) (by kernel_rfl) (by kernel_rfl) (fun _ _ _ h => h) (Or.inl ⟨by rfl, ?vy2⟩) Q0 ?vr2
  case vy2 => (intro w; go_simp; try with_reducible rfl)
  simp only [List.setIfInBounds_toArray, List.set_cons_zero, List.set_cons_succ]
  refine wpAnyH_take' (i := 3) (d := 24) (v := ?v3) rfl rfl (by kernel_rfl) (by kernel_rfl) (by kernel_rfl) (fun _ _ _ h => h) (Or.inl ⟨by rfl, ?vy3⟩) Q0 ?vr3
  case vy3 => (intro w hSw; go_split_ands; go_simp; try with_reducible rfl)
  simp only [List.setIfInBounds_toArray, List.set_cons_zero, List.set_cons_succ]
  refine anyH_take (i := 4) (d := 25) (v := ?v4) rfl rfl (by kernel_rfl) (by kernel_rfl) (by kernel_rfl) (fun _ _ _ h => h) (Or.inl ⟨by rfl, ?vy4⟩) Q0 ?vr4
  case vy4 => (intro w; go_simp; try with_reducible rfl)
  simp only [List.setIfInBounds_toArray, List.set_cons_zero, List.set_cons_succ]
  refine anyH_take (i := 5) (d := 26) (v := ?v5) rfl rfl (by kernel_rfl) (by kernel_rfl) (by kernel_rfl) (fun _ _ _ h => h) (Or.inl ⟨by rfl, ?vy5⟩) Q0 ?vr5
  case vy5 => (intro w; go_simp; try with_reducible rfl)
  simp only [List.setIfInBounds_toArray, List.set_cons_zero, List.set_cons_succ]
  refine anyH_one (i := 6) (by kernel_rfl) ?_
  refine wpOp_step rfl (fun K hK => ?_)
  go_simp
  refine Hcb.out.mono ?_
  rintro e w2 ⟨hd, rfl, hN⟩
  have hNm := hN.1
  obtain ⟨A3, c3, rfl, h31, h32, h33⟩ := hN.form
  rw [Hx.out] at hNm ⊢
  have hb2 : Below w.heap.size w w2 := ((Below.refl _ _).drew).trans hN.2
  have hS2 := HT.out.set_ hb2 hNm i Hi.out
  have cS : w2.cell? ⟨lb, i, none⟩ = some (vs.getD i undef) := HT.out.old hb2 i Hi.out
  have fS : w2.frozen? ⟨lb, i, none⟩ = false := HT.out.free hb2 i
  have HM3 := Lib.hid (show ∀ j, (Value.slice A3 nx c3).ownBlock = some j → w.heap.size ≤ j from fun j hj => (row_ltv hNm hj).1)
  have H2 := Lib.hid (And.intro hb2 hS2)
  clear hN hNm h31 h32 h33 hb2 hS2
  refine hK _ _ ⟨(HT.out.c1 Hn.out H2.out.1), ?_⟩
  clear hK K
  refine anyH_take (i := 7) (d := 28) (v := ?v7) rfl rfl (by kernel_rfl) (by kernel_rfl) (by kernel_rfl) (fun _ _ _ h => h) (Or.inl ⟨by rfl, ?vy7⟩) (HT.out.c1 Hn.out H2.out.1) ?vr7
  case vy7 => (intro w; go_simp; try with_reducible rfl)
  simp only [List.setIfInBounds_toArray, List.set_cons_zero, List.set_cons_succ]
  refine anyH_one (i := 8) (by kernel_rfl) ?_
  refine wpOp_step rfl (fun K hK => ?_)
  go_simp
  refine hK _ _ ⟨(H2.out.2.c1' Hn.out), ?_⟩
  clear hK K
  refine wpAnyH_done (by kernel_rfl) ?_ _

  obtain ⟨w3, hw3⟩ : ∃ w3, w2.setCell ⟨lb, i, none⟩ (.slice A3 nx c3) = w3 := ⟨_, rfl⟩
  obtain ⟨hb2, hS3⟩ := H2.out
  obtain ⟨hRb, hB0, hMN, hL, hk, h1, h2, hls, hx⟩ := Hh.out
  have hT := HT.out
  rw [hw3] at hS3 ⊢
  obtain ⟨M', hM'⟩ : ∃ M' : Nat → Prop, (fun j => M j ∨ (Value.slice A3 nx c3).ownBlock = some j) = M' := ⟨_, rfl⟩
  have hz3 : w3.heap.size = w2.heap.size := by rw [← hw3]; simp [World.setCell]
  have hMM : ∀ j, M j → M' j := fun j hj => by rw [← hM']; exact .inl hj
  have hMlt : ∀ j, M' j → j < w2.heap.size := fun j hj => by rw [← hM'] at hj; have := hS3.ltM j hj; omega
  have hMge : ∀ j, M' j → M j ∨ w.heap.size ≤ j := fun j hj => by
    rw [← hM'] at hj
    rcases hj with hj | hj
    · exact .inl hj
    · exact .inr (HM3.out j hj)
  rw [hM'] at hS3
  have hR2 : Rb B w2 gr s (fun j => N j ∨ M' j) := hRb.belowN hb2 fun j hj => by
    rcases hj with hj | hj
    · exact .inl hj
    · rcases hMge j hj with h | h
      · exact .inl (hMN j h)
      · exact .inr ⟨h, hMlt j hj⟩
  have hR3 : Rb B w3 gr s (fun j => N j ∨ M' j) := hR2.other (by omega) (fun j hj hn => by
    rw [← hw3]
    exact Below.heap_setCell w2 ⟨lb, i, none⟩ _ j (fun e => hn (.inr (hMM _ (by rw [e]; exact hT.inM.2))))) fun j hj => .inl hj
  have hlen : (xs.set i x).length = n := by rw [List.length_set]; exact Hn.out
  have hlv := rlevels_any B gr s (fun j => N j ∨ M' j) M' (some ⟨lb, 0, none⟩) n c (xs.set i x) w3.drew (hR3.below ((Below.refl _ _).drew)) (by have := hb2.size; show B ≤ w3.heap.size; omega) hL hk hlen (by have := Hn.out; omega) (by have := Hn.out; omega) (fun y hy => by
    rcases List.mem_or_eq_of_mem_set hy with h | rfl
    · exact hls y h
    · rw [Hx.out]; exact hx) (hS3.at_.stays ⟨Nat.le_refl _, fun _ _ => rfl⟩) (fun j hj => ⟨by have := hMlt j hj; show j < w3.heap.size; omega, .inr (.inr hj)⟩)
  have Hlv := Lib.hid hlv
  have hO3 : Out (fun j => Tr B w N j ∨ M j) w w3 := by
    rw [← hw3]
    exact Out.setCell (p := ⟨lb, i, none⟩) (Out.ofBelow _ hb2) (fun _ => .inr hT.inM.2) _
  have c0 : w3.cell? ⟨t, 0, none⟩ = some (.pointer (some ⟨gr, 0, none⟩)) := hS3.c0
  have c1 : w3.cell? ⟨t, 1, none⟩ = some (.slice (some ⟨lb, 0, none⟩) n c) := hS3.c1' Hn.out
  have hMt : M' t := hMM t hT.inM.1
  have H6 := Lib.hid (show ∀ w', Out (Tr B w3.drew (fun j => N j ∨ M' j)) w3.drew w' → w'.cell? ⟨t, 0, none⟩ = some (.pointer (some ⟨gr, 0, none⟩)) ∧ w'.cell? ⟨t, 1, none⟩ = some (.slice (some ⟨lb, 0, none⟩) n c) from fun w' hO => by
    have e : w'.heap[t]? = w3.heap[t]? := hO.block t (by show t < w3.heap.size; rw [hz3]; exact hMlt t hMt) (Tr.keep (.inr hMt))
    exact ⟨(World.cell?_of_block e).trans c0, (World.cell?_of_block e).trans c1⟩)
  have Q6 : w3.drew.cell? ⟨t, 0, none⟩ = some (.pointer (some ⟨gr, 0, none⟩)) ∧ w3.drew.cell? ⟨t, 1, none⟩ = some (.slice (some ⟨lb, 0, none⟩) n c) := ⟨c0, c1⟩
  have Hf := Lib.hid (And.intro hS3 (And.intro hMM (And.intro hMge (And.intro hO3 (And.intro hz3 hMlt)))))
  clear hb2 hS3 hRb hB0 hMN hL hk h1 h2 hls hx hT hw3 hM' hz3 hMM hMlt hMge hR2 hR3 hlen hlv hO3 hMt Hcb cS fS
  go_wp2
  refine wp_region_held_drew (S := fun W' => W'.cell? ⟨t, 0, none⟩ = some (.pointer (some ⟨gr, 0, none⟩)) ∧ W'.cell? ⟨t, 1, none⟩ = some (.slice (some ⟨lb, 0, none⟩) n c)) (by kernel_rfl) Q6 (fun _ => ?_)
  refine anyH_take (i := 0) (d := 29) (v := ?u0) rfl rfl (by kernel_rfl) (by kernel_rfl) (by kernel_rfl) (fun _ _ _ h => h) (Or.inl ⟨by rfl, ?uy0⟩) Q6 ?ur0
  case uy0 => (intro w; go_simp; try with_reducible rfl)
  simp only [List.setIfInBounds_toArray, List.set_cons_zero, List.set_cons_succ]
  refine anyH_take (i := 1) (d := 30) (v := ?u1) rfl rfl (by kernel_rfl) (by kernel_rfl) (by kernel_rfl) (fun _ _ _ h => h) (Or.inl ⟨by rfl, ?uy1⟩) Q6 ?ur1
  case uy1 => (intro w; go_simp; try with_reducible rfl)
  simp only [List.setIfInBounds_toArray, List.set_cons_zero, List.set_cons_succ]
  refine anyH_take (i := 2) (d := 31) (v := ?u2) rfl rfl (by kernel_rfl) (by kernel_rfl) (by kernel_rfl) (fun _ _ _ h => h) (Or.inl ⟨by rfl, ?uy2⟩) Q6 ?ur2
  case uy2 => (intro w; go_simp; try with_reducible rfl)
  simp only [List.setIfInBounds_toArray, List.set_cons_zero, List.set_cons_succ]
  refine wpAnyH_take' (i := 3) (d := 32) (v := ?u3) rfl rfl (by kernel_rfl) (by kernel_rfl) (by kernel_rfl) (fun _ _ _ h => h) (Or.inl ⟨by rfl, ?uy3⟩) Q6 ?ur3
  case uy3 => (intro w hSw; go_split_ands; go_simp; try with_reducible rfl)
  simp only [List.setIfInBounds_toArray, List.set_cons_zero, List.set_cons_succ]
  refine anyH_take (i := 4) (d := 33) (v := ?u4) rfl rfl (by kernel_rfl) (by kernel_rfl) (by kernel_rfl) (fun _ _ _ h => h) (Or.inl ⟨by rfl, ?uy4⟩) Q6 ?ur4
  case uy4 => (intro w; go_simp; try with_reducible rfl)
  simp only [List.setIfInBounds_toArray, List.set_cons_zero, List.set_cons_succ]
  refine anyH_take (i := 5) (d := 34) (v := ?u5) rfl rfl (by kernel_rfl) (by kernel_rfl) (by kernel_rfl) (fun _ _ _ h => h) (Or.inl ⟨by rfl, ?uy5⟩) Q6 ?ur5
  case uy5 => (intro w; go_simp; try with_reducible rfl)
  simp only [List.setIfInBounds_toArray, List.set_cons_zero, List.set_cons_succ]
  refine anyH_take (i := 6) (d := 35) (v := ?u6) rfl rfl (by kernel_rfl) (by kernel_rfl) (by kernel_rfl) (fun _ _ _ h => h) (Or.inl ⟨by rfl, ?uy6⟩) Q6 ?ur6
  case uy6 => (intro w; go_simp; try with_reducible rfl)
  simp only [List.setIfInBounds_toArray, List.set_cons_zero, List.set_cons_succ]
  refine wpAnyH_take' (i := 7) (d := 36) (v := ?u7) rfl rfl (by kernel_rfl) (by kernel_rfl) (by kernel_rfl) (fun _ _ _ h => h) (Or.inl ⟨by rfl, ?uy7⟩) Q6 ?ur7
  case uy7 => (intro w hSw; go_split_ands; go_simp; try with_reducible rfl)
  simp only [List.setIfInBounds_toArray, List.set_cons_zero, List.set_cons_succ]
  refine anyH_one (i := 8) (by kernel_rfl) ?_
  refine wpOp_step rfl (fun K hK => ?_)
  go_simp
  refine Hlv.out.mono ?_
  rintro e w4 ⟨v, rfl, _, hR4, hO4⟩
  have H4 := Lib.hid (And.intro hR4 hO4)
  clear hR4 hO4
  refine hK _ _ ⟨(H6.out _ H4.out.2), ?_⟩
  clear hK K
  refine wpAnyH_done (by kernel_rfl) ?_ _

  go_wp2
  go_ret
  obtain ⟨hS3, hMM, hMge, hO3, hz3, hMlt⟩ := Hf.out
  refine ⟨rfl, M', RT.out (RT.below ⟨_, _, _, hS3⟩ ((Below.refl _ _).drew)) H4.out.2 (fun j hj => Tr.keep (.inr hj)), hMM, hMge, by rw [Hn.out]; exact H4.out.1, ?_⟩
  refine (hO3.then_below ((Below.refl _ _).drew)).trans H4.out.2 fun j hj hs => .inl ?_
  by_cases hM : M j
  · exact absurd (.inr (hMM j hM)) hs.2.1
  · refine ⟨hs.1, fun e => hs.2.1 (.inl e), ?_⟩
    obtain ⟨cs, ty, fr, hc⟩ := hs.2.2
    by_cases ht : Tr B w N j
    · exact ht.2.2
    · exact ⟨cs, ty, fr, (hO3.block j hj (fun e => e.elim ht hM)).symm.trans hc⟩
end
end Go.Proofs.YtbdocaohnigekaaGreat

namespace Go.Proofs.YtbdocaohnigekaaGreat
open Go.RowKit Go.Maps
set_option linter.unusedVariables false

set_option maxRecDepth 100000 in
set_option maxHeartbeats 800000 in
theorem same_any (A A' : Option Addr) (n c c' : Nat) (ds : List Dg) (w : World) (h : Ds w A ds) (h' : Ds w A' ds) (h32 : All32 ds) (hn : ds.length = n) (hn2 : n ≤ 100000) :
    Calls Tryz.prog 16 #[.slice A n c, .slice A' n c'] w fun e w' => e = .returned (.bool true) ∧ Below w.heap.size w w' := by
  have H := Lib.hid (And.intro h (And.intro h' (And.intro h32 hn)))
  clear h h' h32 hn
  go_enter Tryz.func16, Tryz.ntmps16
  go_wp2
  go_loopw [5] (fun iv wr => ∃ k : Nat, k ≤ n ∧ iv = .int .i64 (k : Int) ∧ Below w.heap.size w wr) (fun iv _ => n - (intOf iv).toNat)
  case atStart => exact ⟨0, Nat.zero_le _, rfl, Below.refl _ _⟩
  case round =>
    obtain ⟨k, hk, rfl, hB⟩ := hrel
    by_cases hlt : k < n
    · obtain ⟨h, h', h32, hn⟩ := H.out
      have hkl : k < ds.length := by omega
      obtain ⟨b1, o1, rfl, _, hr1⟩ := (h.after hB).at_ h32 hkl
      obtain ⟨b2, o2, rfl, _, hr2⟩ := (h'.after hB).at_ h32 hkl
      have hl : (ds[k]'hkl).length = 32 := h32 _ (List.getElem_mem _)
      generalize (ds[k]'hkl) = d at *
      obtain ⟨D, hD⟩ : ∃ D, cbs d = D := ⟨_, rfl⟩
      have hD32 : D.length = 32 := by rw [← hD, cbs_length, hl]
      have hDi : (Tryz.prog.info? 46).map (·.size) = some D.length := by rw [hD32]; exact info32b
      have heq := fun w' => eq_self D d hD hl w'
      rw [hD] at hr1 hr2
      have HDi := Lib.hid hDi
      have HB := Lib.hid hB
      have Q0 : wr.drew.rangeAt b1 (o1 + k * 32) D ∧ wr.drew.rangeAt b2 (o2 + k * 32) D := ⟨hr1, hr2⟩
      have k0 : (0 : Int) ≤ (k : Int) := by omega
      have k1 : (k : Int) < (n : Int) := by omega
      clear h h' h32 hn hr1 hr2 hl hD hD32 hDi hB hkl
      go_wp2
      refine wp_region_held_drew (S := fun W' => W'.rangeAt b1 (o1 + k * 32) D ∧ W'.rangeAt b2 (o2 + k * 32) D) (by kernel_rfl) Q0 (fun _ => ?_)
      refine anyH_take (i := 0) (d := 17) (v := ?v0) rfl rfl (by kernel_rfl) (by kernel_rfl) (by kernel_rfl) (fun _ _ _ h => h) (Or.inl ⟨by rfl, ?vy0⟩) Q0 ?vr0
      case vy0 => (intro w; go_simp; try with_reducible rfl)
      simp only [List.setIfInBounds_toArray, List.set_cons_zero, List.set_cons_succ]
      refine anyH_take (i := 1) (d := 18) (v := ?v1) rfl rfl (by kernel_rfl) (by kernel_rfl) (by kernel_rfl) (fun _ _ _ h => h) (Or.inl ⟨by rfl, ?vy1⟩) Q0 ?vr1
      case vy1 => (intro w; go_simp; try with_reducible rfl)
      simp only [List.setIfInBounds_toArray, List.set_cons_zero, List.set_cons_succ]
      refine anyH_take (i := 2) (d := 19) (v := ?v2) rfl rfl (by kernel_rfl) (by kernel_rfl) (by kernel_rfl) (fun _ _ _ h => h) (Or.inl ⟨by rfl, ?vy2⟩) Q0 ?vr2
      case vy2 => (intro w; go_simp; try with_reducible rfl)
      simp only [List.setIfInBounds_toArray, List.set_cons_zero, List.set_cons_succ]
      refine anyH_load (i := 3) (d := 20) rfl rfl (by kernel_rfl) (by kernel_rfl) (by kernel_rfl) (by rfl) 46 _ rfl b1 (o1 + k * 32) rfl D _ (fun _ h => h.1) Tryz.underlying46 rfl HDi.out (fun _ _ _ h => h) Q0 ?_
      simp only [List.setIfInBounds_toArray, List.set_cons_zero, List.set_cons_succ]
      refine anyH_take (i := 4) (d := 21) (v := ?v4) rfl rfl (by kernel_rfl) (by kernel_rfl) (by kernel_rfl) (fun _ _ _ h => h) (Or.inl ⟨by rfl, ?vy4⟩) Q0 ?vr4
      case vy4 => (intro w; go_simp; try with_reducible rfl)
      simp only [List.setIfInBounds_toArray, List.set_cons_zero, List.set_cons_succ]
      refine anyH_take (i := 5) (d := 22) (v := ?v5) rfl rfl (by kernel_rfl) (by kernel_rfl) (by kernel_rfl) (fun _ _ _ h => h) (Or.inl ⟨by rfl, ?vy5⟩) Q0 ?vr5
      case vy5 => (intro w; go_simp; try with_reducible rfl)
      simp only [List.setIfInBounds_toArray, List.set_cons_zero, List.set_cons_succ]
      refine anyH_take (i := 6) (d := 23) (v := ?v6) rfl rfl (by kernel_rfl) (by kernel_rfl) (by kernel_rfl) (fun _ _ _ h => h) (Or.inl ⟨by rfl, ?vy6⟩) Q0 ?vr6
      case vy6 => (intro w; go_simp; try with_reducible rfl)
      simp only [List.setIfInBounds_toArray, List.set_cons_zero, List.set_cons_succ]
      refine anyH_load (i := 7) (d := 24) rfl rfl (by kernel_rfl) (by kernel_rfl) (by kernel_rfl) (by rfl) 46 _ rfl b2 (o2 + k * 32) rfl D _ (fun _ h => h.2) Tryz.underlying46 rfl HDi.out (fun _ _ _ h => h) Q0 ?_
      simp only [List.setIfInBounds_toArray, List.set_cons_zero, List.set_cons_succ]
      refine anyH_take (i := 8) (d := 25) (v := ?v8) rfl rfl (by kernel_rfl) (by kernel_rfl) (by kernel_rfl) (fun _ _ _ h => h) (Or.inl ⟨by rfl, ?vy8⟩) Q0 ?vr8
      case vy8 => (intro w; go_simp; try with_reducible rfl)
      simp only [List.setIfInBounds_toArray, List.set_cons_zero, List.set_cons_succ]
      refine wpAnyH_done (by kernel_rfl) ?_ _

      go_wp2
      go_roundw
      case rel => exact ⟨k + 1, by omega, by go_num, HB.out.drew⟩
      case measure => simp [intOf]; omega
    · have k1 : ¬ (k : Int) < (n : Int) := by omega
      go_wp2
      go_ret
      exact ⟨rfl, hB⟩

section
variable {w : World} {M : Nat → Prop} {t gr : Nat} {xs : List (List UInt8)} (hT0 : RT w M t gr xs)
include hT0
set_option maxRecDepth 100000 in
theorem rtset_off (i : Int) (hi : i < 0 ∨ (xs.length : Int) ≤ i) (A : Option Addr) (nx cp : Nat) :
    Calls Tryz.prog 12 #[.pointer (some ⟨t, 0, none⟩), .int .i64 i, .slice A nx cp] w fun e w' => e = .returned (.int .i64 9) ∧ w' = w := by
  obtain ⟨lb, c, vs, hT⟩ := hT0
  obtain ⟨n, hn⟩ : ∃ n, xs.length = n := ⟨_, rfl⟩
  have c1 := hT.c1 hn (Below.refl _ _)
  rw [hn] at hi
  clear hT hn
  by_cases h0 : i < 0
  · clear hi
    go_enter Tryz.func12, Tryz.ntmps12
    go_wp2
    go_ret
    exact ⟨rfl, rfl⟩
  · have h1 : (n : Int) ≤ i := by omega
    clear hi
    go_enter Tryz.func12, Tryz.ntmps12
    go_wp2
    go_ret
    exact ⟨rfl, rfl⟩
set_option maxRecDepth 100000 in
theorem rtset_long (i : Nat) (hi : i < xs.length) (A : Option Addr) (nx cp : Nat) (hx : 65535 < nx) :
    Calls Tryz.prog 12 #[.pointer (some ⟨t, 0, none⟩), .int .i64 (i : Int), .slice A nx cp] w fun e w' => e = .returned (.int .i64 5) ∧ w' = w := by
  obtain ⟨lb, c, vs, hT⟩ := hT0
  obtain ⟨n, hn⟩ : ∃ n, xs.length = n := ⟨_, rfl⟩
  have c1 := hT.c1 hn (Below.refl _ _)
  have i0 : (0 : Int) ≤ (i : Int) := by omega
  have i2 : ¬ (n : Int) ≤ (i : Int) := by omega
  have i3 : decide ((i : Int) < 0) = false := by simp
  have x1 : (65536 : Int) ≤ (nx : Int) := by omega
  clear hT hn hi
  go_enter Tryz.func12, Tryz.ntmps12
  go_wp2
  go_ret
  exact ⟨rfl, rfl⟩
end

theorem rtnew_bad (v : Value) (n : Int) (w : World) (h : n < 1 ∨ 1024 < n) : Calls Tryz.prog 9 #[v, .int .i64 n] w fun e w' => e = .returned (.tuple #[.pointer none, .int .i64 2]) ∧ w' = w := by
  by_cases h0 : n < 1
  · clear h
    go_enter Tryz.func9, Tryz.ntmps9
    go_wp2
    go_ret2
    exact ⟨rfl, rfl⟩
  · have h1 : (1024 : Int) < n := by omega
    clear h
    go_enter Tryz.func9, Tryz.ntmps9
    go_wp2
    go_ret2
    exact ⟨rfl, rfl⟩
theorem tnew_bad (v : Value) (n : Int) (w : World) (h : n < 1 ∨ 1024 < n) : Calls Tryz.prog 7 #[v, .int .i64 n] w fun e w' => e = .returned (.tuple #[.pointer none, .int .i64 2]) ∧ w' = w := by
  have hnot : ∀ (x : Bool) (w : World), (Op.unary .not (.bool x)).run Tryz.prog w = .ok (.bool (!x)) w := fun _ _ => rfl
  go_enter Tryz.func7, Tryz.ntmps7
  go_wp2_with (go_at_call 31; refine (isCount_no _ _ h).mono ?_; rintro e w ⟨rfl, rfl⟩)
  go_ret2
  exact ⟨rfl, rfl⟩
end Go.Proofs.YtbdocaohnigekaaGreat

namespace Go.Proofs.YtbdocaohnigekaaGreat
open Go.RowKit Go.Maps
set_option linter.unusedVariables false

section
variable {B g bm gr : Nat} {w w' : World} {s s' : Bk} {r r' : Lk} {N : Nat → Prop}
theorem duo_am {F : Nat} {args : Array Value} {Q : Ending → World → Prop} {M : Nat → Prop} (h : Duo9 B w g bm s gr r N) (hM : ∀ i, M i → N i)
    (hc : ∀ N', (∀ i, N i → N' i) → Kb B w g bm s N' → Calls Tryz.prog F args w fun e w' => Q e w' ∧ Kb B w' g bm s' N' ∧ Out (fun j => Tn B bm w N' j ∨ M j) w w') :
    Calls Tryz.prog F args w fun e w' => Q e w' ∧ Duo9 B w' g bm s' gr r N ∧ Out (fun j => Ab B N j ∨ M j) w w' := by
  obtain ⟨Sa, Sr, v, h1, h2, h3, h4, h5, h6⟩ := h
  refine (hc (fun i => N i ∨ Sr i) (fun i hi => .inl hi) ⟨Sa, h1, h3, fun i hi => ?_⟩).mono ?_
  · rcases hi with hi | hi
    · exact ⟨(h6 i hi).1, (h6 i hi).2.1⟩
    · exact ⟨h2.lt i hi, fun e => h5 i e hi⟩
  · rintro e w' ⟨hq, ⟨Sa', k1, k2, k3⟩, hO⟩
    have er : ∀ i, Sr i → w'.heap[i]? = w.heap[i]? := fun i hi => hO.block i (h2.lt i hi) fun e => by
      rcases e with e | e
      · exact Tn.keep (.inr hi) e
      · exact (h6 i (hM i e)).2.2 hi
    refine ⟨hq, ⟨Sa', Sr, v, k1, h2.stay hO.size er, k2, fun i hi => ⟨(h4 i hi).1, ?_⟩, fun i ha hr => (k3 i (.inr hr)).2 ha, fun i hi => ⟨Nat.lt_of_lt_of_le (h6 i hi).1 hO.size, (k3 i (.inl hi)).2, (h6 i hi).2.2⟩⟩, hO.wide fun i hi hs => ?_⟩
    · obtain ⟨cs, t, fr, hc⟩ := (h4 i hi).2
      exact ⟨cs, t, fr, (er i hi).trans hc⟩
    · rcases hs with hs | hs
      · exact .inl ⟨hs.1, fun e => hs.2.1 (.inl e)⟩
      · exact .inr hs
theorem duo_bm {F : Nat} {args : Array Value} {Q : (Nat → Prop) → Ending → World → Prop} {M : Nat → Prop} (h : Duo9 B w g bm s gr r N) (hM : ∀ i, M i → N i)
    (hc : ∀ N', (∀ i, N i → N' i) → Rb B w gr r N' → Calls Tryz.prog F args w fun e w' => ∃ M', Q M' e w' ∧ (∀ j, M' j → M j ∨ w.heap.size ≤ j) ∧ Rb B w' gr r' (fun j => N' j ∨ M' j) ∧ Out (fun j => Tr B w N' j ∨ M j) w w') :
    Calls Tryz.prog F args w fun e w' => ∃ M', Q M' e w' ∧ (∀ j, M' j → M j ∨ w.heap.size ≤ j) ∧ Duo9 B w' g bm s gr r' (fun j => N j ∨ M' j) ∧ Out (fun j => Ab B N j ∨ M j) w w' := by
  obtain ⟨Sa, Sr, v, h1, h2, h3, h4, h5, h6⟩ := h
  refine (hc (fun i => N i ∨ Sa i) (fun i hi => .inl hi) ⟨Sr, v, h2, h4, fun i hi => ?_⟩).mono ?_
  · rcases hi with hi | hi
    · exact ⟨(h6 i hi).1, (h6 i hi).2.2⟩
    · exact ⟨h1.lt hi, h5 i hi⟩
  · rintro e w' ⟨M', hq, hM', ⟨Sr', v', k1, k2, k3⟩, hO⟩
    have ea : ∀ i, Sa i → w'.heap[i]? = w.heap[i]? := fun i hi => hO.block i (h1.lt hi) fun e => by
      rcases e with e | e
      · exact Tr.keep (.inr hi) e
      · exact (h6 i (hM i e)).2.1 hi
    refine ⟨M', hq, hM', ⟨Sa, Sr', v', BookM.stay h1 hO.size ea, k1, fun i hi => ⟨(h3 i hi).1, ?_⟩, k2, fun i ha hr => (k3 i (.inl (.inr ha))).2 hr, fun i hi => ?_⟩, hO.wide fun i hi hs => ?_⟩
    · rcases (h3 i hi).2 with h | ⟨cs, t, fr, hc⟩
      · exact .inl h
      · exact .inr ⟨cs, t, fr, (ea i hi).trans hc⟩
    · rcases hi with hi | hi
      · exact ⟨Nat.lt_of_lt_of_le (h6 i hi).1 hO.size, (h6 i hi).2.1, (k3 i (.inl (.inl hi))).2⟩
      · refine ⟨(k3 i (.inr hi)).1, fun e => ?_, (k3 i (.inr hi)).2⟩
        rcases hM' i hi with h | h
        · exact (h6 i (hM i h)).2.1 e
        · have := h1.lt e; omega
    · rcases hs with hs | hs
      · exact .inl ⟨hs.1, fun e => hs.2.1 (.inl e)⟩
      · exact .inr hs
end

/-- Both trees have the leaves xs; both books the same inputs, and among them all that the trees are made of. -/
structure St9 (w0 : World) (g bm t gr u n : Nat) (Mp Mr N : Nat → Prop) (bs br : Nat) (xs : List (List UInt8)) (s : Bk) (r : Lk) (w : World) : Prop where
  one : TreeAt w Mp t g (lows xs)
  two : RT w Mr u gr xs
  duo : Duo9 w0.heap.size w g bm s gr r N
  sub1 : ∀ i, Mp i → N i
  sub2 : ∀ i, Mr i → N i
  dis : ∀ i, Mp i → ¬ Mr i
  ge1 : ∀ i, Mp i → w0.heap.size ≤ i
  ge2 : ∀ i, Mr i → w0.heap.size ≤ i
  len : xs.length = n
  small : ∀ x ∈ xs, x.length ≤ 65535
  same : r.1 = s.1
  has : ∀ y ∈ insTo xs (dep n - 1), y.length ≤ 65536 → y ∈ s.1
  b1 : s.1.length ≤ bs
  b2 : s.2.2 ≤ bs
  b3 : r.2 ≤ br
  bel : Below w0.heap.size w0 w

section
variable {w0 w w' : World} {g bm t gr u n bs br : Nat} {Mp Mr N : Nat → Prop} {xs : List (List UInt8)} {s : Bk} {r : Lk}
theorem St9.belowN {N' : Nat → Prop} (h : St9 w0 g bm t gr u n Mp Mr N bs br xs s r w) (hb : Below w.heap.size w w') (hN : ∀ i, N' i → N i ∨ (w.heap.size ≤ i ∧ i < w'.heap.size)) (h1 : ∀ i, Mp i → N' i) (h2 : ∀ i, Mr i → N' i) : St9 w0 g bm t gr u n Mp Mr N' bs br xs s r w' :=
  ⟨h.one.below hb, h.two.below hb, h.duo.belowN hb hN, h1, h2, h.dis, h.ge1, h.ge2, h.len, h.small, h.same, h.has, h.b1, h.b2, h.b3, h.bel.trans (hb.mono h.bel.size)⟩
theorem St9.below (h : St9 w0 g bm t gr u n Mp Mr N bs br xs s r w) (hb : Below w.heap.size w w') : St9 w0 g bm t gr u n Mp Mr N bs br xs s r w' := h.belowN hb (fun _ h => .inl h) h.sub1 h.sub2
theorem St9.more {bs' br' : Nat} (h : St9 w0 g bm t gr u n Mp Mr N bs br xs s r w) (h1 : bs ≤ bs') (h2 : br ≤ br') : St9 w0 g bm t gr u n Mp Mr N bs' br' xs s r w :=
  ⟨h.one, h.two, h.duo, h.sub1, h.sub2, h.dis, h.ge1, h.ge2, h.len, h.small, h.same, h.has, Nat.le_trans h.b1 h1, Nat.le_trans h.b2 h1, Nat.le_trans h.b3 h2, h.bel⟩
/-- Only blocks that are of neither tree, and of N, or new, are written. -/
theorem St9.other {N' : Nat → Prop} {S : Nat → Prop} (h : St9 w0 g bm t gr u n Mp Mr N bs br xs s r w) (hO : Out S w w') (hS : ∀ i, i < w.heap.size → S i → N i ∧ ¬ Mp i ∧ ¬ Mr i ∧ w0.heap.size ≤ i) (hN : ∀ i, N' i → N i ∨ (w.heap.size ≤ i ∧ i < w'.heap.size)) (h1 : ∀ i, Mp i → N' i) (h2 : ∀ i, Mr i → N' i) : St9 w0 g bm t gr u n Mp Mr N' bs br xs s r w' := by
  have k1 : ∀ i, i < w.heap.size → ¬ N i → w'.heap[i]? = w.heap[i]? := fun i hi hn => hO.block i hi fun e => hn (hS i hi e).1
  have hlt1 : ∀ i, Mp i → i < w.heap.size := fun i hi => h.duo.lt (h.sub1 i hi)
  have hlt2 : ∀ i, Mr i → i < w.heap.size := fun i hi => h.duo.lt (h.sub2 i hi)
  exact ⟨h.one.stay hO.size fun i hi => hO.block i (hlt1 i hi) fun e => (hS i (hlt1 i hi) e).2.1 hi, h.two.stay hO.size fun i hi => hO.block i (hlt2 i hi) fun e => (hS i (hlt2 i hi) e).2.2.1 hi, h.duo.other hO.size k1 hN, h1, h2, h.dis, h.ge1, h.ge2, h.len, h.small, h.same, h.has, h.b1, h.b2, h.b3,
    h.bel.trans ⟨hO.os, hO.tape, hO.output, hO.size, fun i hi => hO.block i (Nat.lt_of_lt_of_le hi h.bel.size) fun e => by have := (hS i (Nat.lt_of_lt_of_le hi h.bel.size) e).2.2.2; omega⟩⟩
end

/-- Between the program's Set and the document's. -/
structure Mid9 (w0 : World) (g bm t gr u : Nat) (Mp Mr N : Nat → Prop) (xs xs' : List (List UInt8)) (s' : Bk) (r : Lk) (w1 w : World) : Prop where
  one : TreeAt w Mp t g (lows xs')
  two : RT w Mr u gr xs
  duo : Duo9 w0.heap.size w g bm s' gr r N
  bel : Below w0.heap.size w0 w
  out : Out (fun j => Ab w0.heap.size N j ∨ Mp j) w1 w

abbrev SetBoth9 (w0 : World) (g bm t gr u n : Nat) (Mp Mr N : Nat → Prop) (bs br : Nat) (xs : List (List UInt8)) (r : Lk) (w : World) (at_ : Int) (x : List UInt8) (nx : Nat) : Prop :=
  ∃ (c : Int) (xs' : List (List UInt8)) (s' : Bk) (r' : Lk), (∀ A cp, Bs w A x → nx ≤ cp → cp ≤ maxLen → Calls Tryz.prog 11 #[.pointer (some ⟨t, 0, none⟩), .int .i64 at_, .slice A nx cp] w fun e w' => e = .returned (.int .i64 c) ∧ Mid9 w0 g bm t gr u Mp Mr N xs xs' s' r w w') ∧
      (∀ w1 A cp, Mid9 w0 g bm t gr u Mp Mr N xs xs' s' r w w1 → Bs w1 A x → nx ≤ cp → cp ≤ maxLen → Calls Tryz.prog 12 #[.pointer (some ⟨u, 0, none⟩), .int .i64 at_, .slice A nx cp] w1 fun e w' => e = .returned (.int .i64 c) ∧ ∃ Mr' : Nat → Prop, (∀ j, Mr' j → Mr j ∨ w1.heap.size ≤ j) ∧ St9 w0 g bm t gr u n Mp Mr' (fun j => N j ∨ Mr' j) (bs + 8) (br + 400) xs' s' r' w' ∧ Out (fun j => Ab w0.heap.size N j ∨ Mr j) w1 w')
set_option maxHeartbeats 800000 in
/-- Set of both, whatever the place and the leaf. -/
theorem st9_set {w0 w : World} {g bm t gr u n bs br : Nat} {Mp Mr N : Nat → Prop} {xs : List (List UInt8)} {s : Bk} {r : Lk} (h : St9 w0 g bm t gr u n Mp Mr N bs br xs s r w) (h1 : 1 ≤ n) (h2 : n ≤ 60) (hbs : bs ≤ 100000) (hbr : br ≤ 100000) (at_ : Int) (x : List UInt8) (nx : Nat) (hnx : x.length = nx) :
    SetBoth9 w0 g bm t gr u n Mp Mr N bs br xs r w at_ x nx := by
  have hll : (lows xs).length = n := by rw [lows_len, h.len]
  have bad : ∀ c : Int, (∀ A cp, Calls Tryz.prog 11 #[.pointer (some ⟨t, 0, none⟩), .int .i64 at_, .slice A nx cp] w fun e w' => e = .returned (.int .i64 c) ∧ Below w.heap.size w w') →
      (∀ w1 A cp, RT w1 Mr u gr xs → Calls Tryz.prog 12 #[.pointer (some ⟨u, 0, none⟩), .int .i64 at_, .slice A nx cp] w1 fun e w' => e = .returned (.int .i64 c) ∧ w' = w1) → SetBoth9 w0 g bm t gr u n Mp Mr N bs br xs r w at_ x nx := fun c hp hr => by
    refine ⟨c, xs, s, r, fun A cp _ _ _ => (hp A cp).mono ?_, fun w1 A cp hm _ _ _ => (hr w1 A cp hm.two).mono ?_⟩
    · rintro e w' ⟨rfl, hb⟩
      exact ⟨rfl, h.one.below hb, h.two.below hb, h.duo.below hb, h.bel.trans (hb.mono h.bel.size), Out.ofBelow _ hb⟩
    · rintro e w' ⟨rfl, rfl⟩
      refine ⟨rfl, Mr, fun j hj => .inl hj, ⟨hm.one, hm.two, hm.duo.less fun i hi => ?_, fun i hi => .inl (h.sub1 i hi), fun i hi => .inr hi, h.dis, h.ge1, h.ge2, h.len, h.small, h.same, h.has, by have := h.b1; omega, by have := h.b2; omega, by have := h.b3; omega, hm.bel⟩, Out.refl _ _⟩
      rcases hi with hi | hi
      · exact hi
      · exact h.sub2 i hi
  by_cases hat : at_ < 0 ∨ (n : Int) ≤ at_
  · refine bad 9 (fun A cp => (tset_off h.one at_ (by rw [hll]; exact hat) A nx cp).mono ?_) fun w1 A cp hT => rtset_off hT at_ (by rw [h.len]; exact hat) A nx cp
    rintro e w' ⟨rfl, rfl⟩
    exact ⟨rfl, Below.refl _ _⟩
  · obtain ⟨i, rfl⟩ : ∃ i : Nat, at_ = (i : Int) := ⟨at_.toNat, by omega⟩
    have hin : i < n := by omega
    by_cases hx : nx ≤ 65535
    rotate_left
    · exact bad 5 (fun A cp => tset_long h.one i (by rw [hll]; exact hin) A nx cp (by omega)) fun w1 A cp hT => rtset_long hT i (by rw [h.len]; exact hin) A nx cp (by omega)
    · have hd := dep_pos n
      have hd6 : dep n ≤ 6 := dep_le (by omega)
      obtain ⟨s', hs'⟩ : ∃ s', noteAll s (setIns (lows xs) i x (dep n - 1)) = s' := ⟨_, rfl⟩
      obtain ⟨r', hr'⟩ : ∃ r', noteR r (insTo (xs.set i x) (dep n - 1)) = r' := ⟨_, rfl⟩
      have hsl := noteAll_len s (setIns (lows xs) i x (dep n - 1))
      rw [setIns_len, hs'] at hsl
      have hrl := noteR_len r (insTo (xs.set i x) (dep n - 1))
      have hil := insTo_len (xs.set i x) (by rw [List.length_set, h.len]; exact h1) (dep n - 1)
      have hil2 : (xs.set i x).length * (dep n - 1 + 1) ≤ 60 * 6 := Nat.mul_le_mul (by rw [List.length_set, h.len]; exact h2) (by omega)
      rw [hr'] at hrl
      have hb1 := h.b1
      have hb2 := h.b2
      have hb3 := h.b3
      have hsame : r'.1 = s'.1 := by
        rw [← hr', ← hs', noteR_one, noteAll_one, h.same]
        exact set_note s.1 xs i (by rw [h.len]; exact hin) x (dep n - 1) h.has (dep n - 1) (Nat.le_refl _)
      have hhas : ∀ y ∈ insTo (xs.set i x) (dep n - 1), y.length ≤ 65536 → y ∈ s'.1 := fun y hy hs => by
        rw [← hsame, ← hr', noteR_one]
        exact noteI_has _ _ y hy hs
      refine ⟨0, xs.set i x, s', r', fun A cp hBx hcp hcm => ?_, fun w1 A cp hm hBx hcp hcm => ?_⟩
      · refine (duo_am (s' := s') (Q := fun e w' => e = .returned (.int .i64 0) ∧ TreeAt w' Mp t g (lows (xs.set i x))) h.duo h.sub1 fun N' hN hkb => ?_).mono ?_
        · refine (tset_any w0.heap.size bm s N' h.one hkb h.bel.size (fun j hj => hN j (h.sub1 j hj)) (by omega) (by omega) i (by rw [hll]; exact hin) A nx cp x hBx hnx hcp hcm hx).mono ?_
          rintro e w' ⟨rfl, hT, hK, hO⟩
          rw [hll, hs'] at hK
          exact ⟨⟨rfl, by rw [lows_set]; exact hT⟩, hK, hO⟩
        · rintro e w' ⟨⟨rfl, hT⟩, hD, hO⟩
          refine ⟨rfl, hT, h.two.out hO fun j hj e => ?_, hD, h.bel.trans (hO.above (fun j hj => ?_) h.bel.size), hO⟩
          · rcases e with e | e
            · exact Ab.keep (h.sub2 j hj) e
            · exact h.dis j e hj
          · rcases hj with hj | hj
            · exact hj.1
            · exact h.ge1 j hj
      · refine (duo_bm (r' := r') (Q := fun M' e w' => e = .returned (.int .i64 0) ∧ RT w' M' u gr (xs.set i x)) hm.duo h.sub2 fun N' hN hrb => ?_).mono ?_
        · refine (rtset_any w0.heap.size r N' hm.two hrb hm.bel.size (fun j hj => hN j (h.sub2 j hj)) (by rw [h.same]; omega) (by omega) (by rw [h.len]; exact h1) (by rw [h.len]; omega) h.small i (by rw [h.len]; exact hin) A nx cp x hBx hnx hx).mono ?_
          rintro e w' ⟨rfl, M', hT, hM, hM', hR, hO⟩
          rw [h.len, hr'] at hR
          exact ⟨M', ⟨rfl, hT⟩, hM', hR, hO⟩
        · rintro e w' ⟨M', ⟨rfl, hT⟩, hM', hD, hO⟩
          have hMlt : ∀ j, Mp j → j < w1.heap.size := fun j hj => hm.duo.lt (h.sub1 j hj)
          refine ⟨rfl, M', hM', ⟨hm.one.out hO fun j hj e => ?_, hT, hD, fun j hj => .inl (h.sub1 j hj), fun j hj => .inr hj, fun j hj hj' => ?_, h.ge1, fun j hj => ?_, by rw [List.length_set]; exact h.len, fun y hy => ?_, hsame, hhas, by omega, by omega, by omega, hm.bel.trans (hO.above (fun j hj => ?_) hm.bel.size)⟩, hO⟩
          · rcases e with e | e
            · exact Ab.keep (h.sub1 j hj) e
            · exact h.dis j hj e
          · rcases hM' j hj' with h' | h'
            · exact h.dis j hj h'
            · have := hMlt j hj; omega
          · rcases hM' j hj with h' | h'
            · exact h.ge2 j h'
            · exact Nat.le_trans hm.bel.size h'
          · rcases List.mem_or_eq_of_mem_set hy with h' | rfl
            · exact h.small y h'
            · omega
          · rcases hj with hj | hj
            · exact hj.1
            · exact h.ge2 j hj
end Go.Proofs.YtbdocaohnigekaaGreat

namespace Go.Proofs.YtbdocaohnigekaaGreat
open Go.RowKit Go.Maps
set_option linter.unusedVariables false

section
variable {B g bm gr : Nat} {w w' : World} {s s' : Bk} {r r' : Lk} {N : Nat → Prop}
theorem duo_aN {F : Nat} {args : Array Value} {Q : (Nat → Prop) → Ending → World → Prop} (h : Duo9 B w g bm s gr r N)
    (hc : ∀ N', (∀ i, N i → N' i) → Kb B w g bm s N' → Calls Tryz.prog F args w fun e w' => ∃ M', Q M' e w' ∧ (∀ j, M' j → w.heap.size ≤ j) ∧ Kb B w' g bm s' (fun j => N' j ∨ M' j) ∧ Out (Tn B bm w N') w w') :
    Calls Tryz.prog F args w fun e w' => ∃ M', Q M' e w' ∧ (∀ j, M' j → w.heap.size ≤ j) ∧ Duo9 B w' g bm s' gr r (fun j => N j ∨ M' j) ∧ Out (Ab B N) w w' := by
  obtain ⟨Sa, Sr, v, h1, h2, h3, h4, h5, h6⟩ := h
  refine (hc (fun i => N i ∨ Sr i) (fun i hi => .inl hi) ⟨Sa, h1, h3, fun i hi => ?_⟩).mono ?_
  · rcases hi with hi | hi
    · exact ⟨(h6 i hi).1, (h6 i hi).2.1⟩
    · exact ⟨h2.lt i hi, fun e => h5 i e hi⟩
  · rintro e w' ⟨M', hq, hM', ⟨Sa', k1, k2, k3⟩, hO⟩
    have er : ∀ i, Sr i → w'.heap[i]? = w.heap[i]? := fun i hi => hO.block i (h2.lt i hi) (Tn.keep (.inr hi))
    refine ⟨M', hq, hM', ⟨Sa', Sr, v, k1, h2.stay hO.size er, k2, fun i hi => ⟨(h4 i hi).1, ?_⟩, fun i ha hr => (k3 i (.inl (.inr hr))).2 ha, fun i hi => ?_⟩, hO.wide fun i hi hs => ⟨hs.1, fun e => hs.2.1 (.inl e)⟩⟩
    · obtain ⟨cs, t, fr, hc⟩ := (h4 i hi).2
      exact ⟨cs, t, fr, (er i hi).trans hc⟩
    · rcases hi with hi | hi
      · exact ⟨Nat.lt_of_lt_of_le (h6 i hi).1 hO.size, (k3 i (.inl (.inl hi))).2, (h6 i hi).2.2⟩
      · exact ⟨(k3 i (.inr hi)).1, (k3 i (.inr hi)).2, fun e => by have := h2.lt i e; have := hM' i hi; omega⟩
theorem duo_tnew (h : Duo9 B w g bm s gr r N) (hB : B ≤ w.heap.size) (n : Nat) (h1 : 1 ≤ n) (h2 : n ≤ 1024) (hL : s.1.length + 20000 < 1000000) (hs : s.2.2 + 20000 < 1000000) :
    Calls Tryz.prog 7 #[.pointer (some ⟨g, 0, none⟩), .int .i64 (n : Int)] w fun e w' => ∃ M, (∃ t, e = .returned (.tuple #[.pointer (some ⟨t, 0, none⟩), .int .i64 0]) ∧ TreeAt w' M t g (lows (empties n))) ∧ (∀ j, M j → w.heap.size ≤ j) ∧
      Duo9 B w' g bm (noteAll s (insTo (empties n) (dep n - 1))) gr r (fun j => N j ∨ M j) ∧ Out (Ab B N) w w' :=
  duo_aN (Q := fun M e w' => ∃ t, e = .returned (.tuple #[.pointer (some ⟨t, 0, none⟩), .int .i64 0]) ∧ TreeAt w' M t g (lows (empties n))) h fun N' hN hkb => (tnew_any B g bm s n N' w hkb hB hL hs h1 h2).mono (by
    rintro e w' ⟨t, M, rfl, hT, hM, hK, hO⟩
    exact ⟨M, ⟨t, rfl, hT⟩, hM, hK, hO⟩)
theorem duo_rtnew (h : Duo9 B w g bm s gr r N) (hB : B ≤ w.heap.size) (n : Nat) (h1 : 1 ≤ n) (h2 : n ≤ 1024) (hL : r.1.length + 20000 < 1000000) (hs : r.2 + 20000 < 1000000) :
    Calls Tryz.prog 9 #[.pointer (some ⟨gr, 0, none⟩), .int .i64 (n : Int)] w fun e w' => ∃ M, (∃ t, e = .returned (.tuple #[.pointer (some ⟨t, 0, none⟩), .int .i64 0]) ∧ RT w' M t gr (empties n)) ∧ (∀ j, M j → False ∨ w.heap.size ≤ j) ∧
      Duo9 B w' g bm s gr (noteR r (insTo (empties n) (dep n - 1))) (fun j => N j ∨ M j) ∧ Out (fun j => Ab B N j ∨ False) w w' :=
  duo_bm (M := fun _ => False) (Q := fun M e w' => ∃ t, e = .returned (.tuple #[.pointer (some ⟨t, 0, none⟩), .int .i64 0]) ∧ RT w' M t gr (empties n)) h (fun _ h => h.elim) fun N' hN hrb => (rtnew_any B gr r n N' w hrb hB hL hs h1 h2).mono (by
    rintro e w' ⟨t, M, rfl, hT, hM, hR, hO⟩
    exact ⟨M, ⟨t, rfl, hT⟩, fun j hj => .inr (hM j hj), hR, hO.wide fun _ _ h => .inl h⟩)
end

section
variable {w0 w : World} {g bm t gr u n bs br : Nat} {Mp Mr N : Nat → Prop} {xs : List (List UInt8)} {s : Bk} {r : Lk}
/-- Both trees, when New has made them. -/
theorem st9_new {w2 w3 : World} (h : Duo9 w0.heap.size w2 g bm ([], false, 0) gr ([], 0) (fun _ => False)) (hb : Below w0.heap.size w0 w2) (h1 : 1 ≤ n) (h2 : n ≤ 60) (hO : Out (Ab w0.heap.size fun _ => False) w2 w3) (hT : TreeAt w3 Mp t g (lows (empties n))) (hMp : ∀ j, Mp j → w2.heap.size ≤ j)
    (hO2 : Out (fun j => Ab w0.heap.size (fun j => False ∨ Mp j) j ∨ False) w3 w) (hR : RT w Mr u gr (empties n)) (hMr : ∀ j, Mr j → False ∨ w3.heap.size ≤ j)
    (hD : Duo9 w0.heap.size w g bm (noteAll ([], false, 0) (insTo (empties n) (dep n - 1))) gr (noteR ([], 0) (insTo (empties n) (dep n - 1))) (fun j => (False ∨ Mp j) ∨ Mr j)) :
    ∃ s r, St9 w0 g bm t gr u n Mp Mr (fun j => Mp j ∨ Mr j) 400 400 (empties n) s r w := by
  have hlk : noteR ([], 0) (insTo (empties n) (dep n - 1)) = lk (noteAll ([], false, 0) (insTo (empties n) (dep n - 1))) := note_lk ([], false, 0) _
  have hil := insTo_len (empties n) (by rw [empties_len]; exact h1) (dep n - 1)
  have hd := dep_pos n
  have hd6 : dep n ≤ 6 := dep_le (by omega)
  rw [empties_len] at hil
  have hil2 : n * (dep n - 1 + 1) ≤ 60 * 6 := Nat.mul_le_mul h2 (by omega)
  have hsl := noteAll_len ([], false, 0) (insTo (empties n) (dep n - 1))
  have hrl := noteR_len ([], 0) (insTo (empties n) (dep n - 1))
  simp only [List.length_nil] at hsl hrl
  have hb3 : Below w0.heap.size w0 w3 := hb.trans (hO.above (fun j hj => hj.1) hb.size)
  have hMlt : ∀ j, Mp j → j < w3.heap.size := fun j hj => by obtain ⟨_, _, _, _, h⟩ := hT; exact h.ltM j hj
  refine ⟨_, _, hT.out hO2 fun j hj e => ?_, hR, hD.less fun j hj => ?_, fun j hj => .inl hj, fun j hj => .inr hj, fun j hj hj' => ?_, fun j hj => Nat.le_trans hb.size (hMp j hj), fun j hj => ?_, empties_len n, fun x hx => ?_, ?_, fun y hy hs => ?_, by omega, by omega, by omega, hb3.trans (hO2.above (fun j hj => ?_) hb3.size)⟩
  · rcases e with e | e
    · exact Ab.keep (.inr hj) e
    · exact e
  · rcases hj with hj | hj
    · exact .inl (.inr hj)
    · exact .inr hj
  · rcases hMr j hj' with h' | h'
    · exact h'
    · have := hMlt j hj; omega
  · rcases hMr j hj with h' | h'
    · exact h'.elim
    · exact Nat.le_trans hb3.size h'
  · have : x = [] := by unfold empties at hx; exact (List.mem_replicate.1 hx).2
    rw [this]; decide
  · rw [hlk]; rfl
  · rw [noteAll_one]; exact noteI_has _ _ y hy hs
  · rcases hj with hj | hj
    · exact hj.1
    · exact hj.elim
/-- The document's tree is asked for its levels. -/
theorem St9.ask (h : St9 w0 g bm t gr u n Mp Mr N bs br xs s r w) (h1 : 1 ≤ n) (h2 : n ≤ 60) {F : Nat} {args : Array Value} {Q : Ending → World → Prop}
    (hc : ∀ N', (∀ i, N i → N' i) → Rb w0.heap.size w gr r N' → Calls Tryz.prog F args w fun e w' => Q e w' ∧ Rb w0.heap.size w' gr (noteR r (insTo xs (dep n - 1))) N' ∧ Out (Tr w0.heap.size w N') w w') :
    Calls Tryz.prog F args w fun e w' => Q e w' ∧ St9 w0 g bm t gr u n Mp Mr N bs (br + 400) xs s (noteR r (insTo xs (dep n - 1))) w' ∧ Out (Ab w0.heap.size N) w w' := by
  have hil := insTo_len xs (by rw [h.len]; exact h1) (dep n - 1)
  have hd := dep_pos n
  have hd6 : dep n ≤ 6 := dep_le (by omega)
  have hil2 : xs.length * (dep n - 1 + 1) ≤ 60 * 6 := Nat.mul_le_mul (by rw [h.len]; exact h2) (by omega)
  have hrl := noteR_len r (insTo xs (dep n - 1))
  have hb3 := h.b3
  have hsame : (noteR r (insTo xs (dep n - 1))).1 = s.1 := by rw [noteR_one, h.same]; exact noteI_none _ _ h.has
  refine (duo_bm (r' := noteR r (insTo xs (dep n - 1))) (M := fun _ => False) (Q := fun M' e w' => Q e w' ∧ ∀ j, ¬ M' j) h.duo (fun _ h => h.elim) fun N' hN hrb => (hc N' hN hrb).mono ?_).mono ?_
  · rintro e w' ⟨hq, hR, hO⟩
    exact ⟨fun _ => False, ⟨hq, fun _ h => h⟩, fun _ h => h.elim, hR.less fun i hi => hi.elim id False.elim, hO.wide fun _ _ h => .inl h⟩
  · rintro e w' ⟨M', ⟨hq, hM'⟩, _, hD, hO⟩
    have hO' : Out (Ab w0.heap.size N) w w' := hO.wide fun _ _ h => h.elim id False.elim
    exact ⟨hq, ⟨h.one.out hO' fun j hj => Ab.keep (h.sub1 j hj), h.two.out hO' fun j hj => Ab.keep (h.sub2 j hj), hD.less fun j hj => .inl hj, h.sub1, h.sub2, h.dis, h.ge1, h.ge2, h.len, h.small, hsame, by exact h.has, h.b1, h.b2, by omega, h.bel.trans (hO'.above (fun j hj => hj.1) h.bel.size)⟩, hO'⟩
theorem st9_root (h : St9 w0 g bm t gr u n Mp Mr N bs br xs s r w) (h1 : 1 ≤ n) (h2 : n ≤ 60) (hbs : bs ≤ 100000) (hbr : br ≤ 100000) :
    Calls Tryz.prog 18 #[.pointer (some ⟨u, 0, none⟩)] w fun e w' => e = .returned (.agg (cbs (rootD (lows xs))).toArray) ∧ St9 w0 g bm t gr u n Mp Mr N bs (br + 400) xs s (noteR r (insTo xs (dep n - 1))) w' ∧ Out (Ab w0.heap.size N) w w' := by
  have hb1 := h.b1
  have hb3 := h.b3
  refine h.ask h1 h2 (Q := fun e _ => e = .returned (.agg (cbs (rootD (lows xs))).toArray)) fun N' hN hrb => ?_
  have := rtroot_any w0.heap.size r N' h.two hrb h.bel.size (fun j hj => hN j (h.sub2 j hj)) (by rw [h.same]; omega) (by omega) (by rw [h.len]; exact h1) (by rw [h.len]; omega) h.small
  rw [h.len] at this
  exact this
theorem st9_depth (h : St9 w0 g bm t gr u n Mp Mr N bs br xs s r w) (h1 : 1 ≤ n) (h2 : n ≤ 60) (hbs : bs ≤ 100000) (hbr : br ≤ 100000) :
    Calls Tryz.prog 20 #[.pointer (some ⟨u, 0, none⟩)] w fun e w' => e = .returned (.int .i64 (dep n : Int)) ∧ St9 w0 g bm t gr u n Mp Mr N bs (br + 400) xs s (noteR r (insTo xs (dep n - 1))) w' ∧ Out (Ab w0.heap.size N) w w' := by
  have hb1 := h.b1
  have hb3 := h.b3
  refine h.ask h1 h2 (Q := fun e _ => e = .returned (.int .i64 (dep n : Int))) fun N' hN hrb => ?_
  have := rtdepth_any w0.heap.size r N' h.two hrb h.bel.size (fun j hj => hN j (h.sub2 j hj)) (by rw [h.same]; omega) (by omega) (by rw [h.len]; exact h1) (by rw [h.len]; omega) h.small
  rw [h.len] at this
  exact this
/-- Level, of both. -/
theorem st9_level (h : St9 w0 g bm t gr u n Mp Mr N bs br xs s r w) (h1 : 1 ≤ n) (h2 : n ≤ 60) (hbs : bs ≤ 100000) (hbr : br ≤ 100000) (li : Int) : ∃ (c : Int) (ds : List Dg) (mx : Nat), ds.length = mx ∧ mx ≤ 60 ∧ All32 ds ∧
    (Calls Tryz.prog 14 #[.pointer (some ⟨t, 0, none⟩), .int .i64 li] w fun e w' => ∃ Ax cx, e = .returned (.tuple #[.slice Ax mx cx, .int .i64 c]) ∧ w'.ownsRow w.heap.size 46 32 (.slice Ax mx cx) mx (cbs ds.flatten) ∧ Ds w' Ax ds ∧ Below w.heap.size w w') ∧
    (∀ w1 N1, St9 w0 g bm t gr u n Mp Mr N1 bs br xs s r w1 → Calls Tryz.prog 15 #[.pointer (some ⟨u, 0, none⟩), .int .i64 li] w1 fun e w' => (∃ Ay cy, e = .returned (.tuple #[.slice Ay mx cy, .int .i64 c]) ∧ Ds w' Ay ds) ∧ St9 w0 g bm t gr u n Mp Mr N1 bs (br + 400) xs s (noteR r (insTo xs (dep n - 1))) w' ∧ Out (Ab w0.heap.size N1) w1 w') := by
  have hb1 := h.b1
  have hb3 := h.b3
  have hll : (lows xs).length = n := by rw [lows_len, h.len]
  have hrl : ∀ w1 N1 (h' : St9 w0 g bm t gr u n Mp Mr N1 bs br xs s r w1) N', (∀ i, N1 i → N' i) → Rb w0.heap.size w1 gr r N' → Calls Tryz.prog 15 #[.pointer (some ⟨u, 0, none⟩), .int .i64 li] w1 (RLevP w0.heap.size gr r N' w1 xs li) := fun w1 N1 h' N' hN hrb =>
    rtlevel_any w0.heap.size r N' h'.two hrb h'.bel.size (fun j hj => hN j (h'.sub2 j hj)) (by rw [h.same]; omega) (by omega) (by rw [h.len]; exact h1) (by rw [h.len]; omega) h.small li
  by_cases hli : li < 0 ∨ (dep n : Int) ≤ li
  · refine ⟨9, [], 0, rfl, Nat.zero_le _, fun d hd => by simp at hd, (tlevel_off h.one li (by rw [hll]; exact hli)).mono ?_, fun w1 N1 h' => h'.ask h1 h2 (Q := fun e w' => ∃ Ay cy, e = .returned (.tuple #[.slice Ay 0 cy, .int .i64 9]) ∧ Ds w' Ay []) fun N' hN hrb => (hrl w1 N1 h' N' hN hrb).mono ?_⟩
    · rintro e w' ⟨rfl, rfl⟩
      exact ⟨none, 0, rfl, World.ownsRow_nil _ _ _ _, Ds.nil _ _, Below.refl _ _⟩
    · rintro e w' ⟨hR, hO, hc⟩
      rw [h.len] at hR hc
      rcases hc with ⟨_, rfl⟩ | ⟨q, _, _, rfl, hq, _⟩
      · exact ⟨⟨none, 0, rfl, Ds.nil _ _⟩, hR, hO⟩
      · omega
  · obtain ⟨q, rfl⟩ : ∃ q : Nat, li = (q : Int) := ⟨li.toNat, by omega⟩
    have hq : q < dep n := by omega
    have hall : All32 (lvl (lows xs) q) := all32_lvl (all32_lows _) q
    have hlw : (lvl (lows xs) q).length = wid n q := by rw [lvl_len, hll]
    have hw1 := wid_pos h1 q
    have hw2 := wid_le n q h1
    obtain ⟨mx, hmx⟩ : ∃ mx, (lvl (lows xs) q).length = mx := ⟨_, rfl⟩
    have hm60 : mx ≤ 60 := by omega
    have hm1 : 1 ≤ mx := by omega
    refine ⟨0, lvl (lows xs) q, mx, hmx, hm60, hall, (tlevel_in h.one q (by rw [hll]; exact hq)).mono ?_, fun w1 N1 h' => h'.ask h1 h2 (Q := fun e w' => ∃ Ay cy, e = .returned (.tuple #[.slice Ay mx cy, .int .i64 0]) ∧ Ds w' Ay (lvl (lows xs) q)) fun N' hN hrb => (hrl w1 N1 h' N' hN hrb).mono ?_⟩
    · rintro e w' ⟨v, rfl, hN⟩
      obtain ⟨rr, c, rfl, _, _, _, _, hDs, hrow⟩ := hN.form (fun e => by rw [e] at hmx; simp at hmx; omega)
      rw [hmx] at hrow ⊢
      exact ⟨_, c, rfl, hrow, hDs, hN.2⟩
    · rintro e w' ⟨hR, hO, hc⟩
      rw [h.len] at hR hc
      rcases hc with ⟨hc, _⟩ | ⟨q', rr, cc, e1, hq', rfl, hDs, _⟩
      · omega
      · obtain rfl : q = q' := by omega
        rw [hmx]
        exact ⟨⟨_, cc, rfl, hDs⟩, hR, hO⟩
end
end Go.Proofs.YtbdocaohnigekaaGreat

namespace Go.Proofs.YtbdocaohnigekaaGreat
open Go.ChangeShapes Go.WideShapes Go.ChangeAt Go.RowKit
set_option linter.unusedVariables false

section
variable {H : Type} {enc : TypeId × Value → H} {w : World}
theorem trodB_sized {fuel : Nat} {cs : List Value} {x : DataW H × List MemPlace} {A : Option Addr} {n c : Nat} (h : DataW.trod enc Tryz.prog w 0 (fun _ => true) true fuel 35 cs = some x) (hcs : cs[1 - 1]? = some (.slice A n c) ∨ cs = [.slice A n c])
    (hz : ∀ z ∈ x.1.weights Tryz.prog 35, z ≤ reachBytes) : n ≤ 140737488351232 := by
  have hb : Tryz.prog.bytesOf 5 = 1 := by kernel_rfl
  have hcs : cs[0]? = some (.slice A n c) := by
    rcases hcs with h | h
    · exact h
    · rw [h]; rfl
  rcases Go.Deep.open_slice Tryz.underlying35 h with ⟨rfl, _⟩ | ⟨a, n', c', m, k, D, Pl, rfl, _, hl, hm, hmm, hxd, hi⟩
  · injection hcs with e
    injection e with _ e _
    omega
  · injection hcs with e
    injection e with _ e _
    rw [hxd] at hz
    simp only [DataW.weights, Tryz.underlying35, List.mem_cons] at hz
    have h1 := hz _ (.inl rfl)
    rw [hb] at h1
    simp only [List.length_map, List.length_range] at h1
    simp [reachBytes] at h1
    omega
theorem trod_setz {fuel : Nat} {cs : List Value} {x : DataW H × List MemPlace} (h : DataW.trod enc Tryz.prog w 0 (fun _ => true) true fuel 38 cs = some x) (hz : ∀ z ∈ x.1.weights Tryz.prog 38, z ≤ reachBytes) :
    ∃ d : SetL, Wf9 d.at_ ∧ cs[0]? = some (.int .i64 d.at_) ∧ ∃ AB cB, cs[1]? = some (.slice AB d.leaf.length cB) ∧ d.leaf.length ≤ cB ∧ cB ≤ maxLen ∧ Bs w AB d.leaf ∧ d.leaf.length ≤ 140737488351232 := by
  obtain ⟨xs, n, _, hxe, _, hlen, hg⟩ := DataW.trod_struct Tryz.underlying38 h
  have c1 : Tryz.prog.cellsOf 3 = 1 := by kernel_rfl
  have c2 : Tryz.prog.cellsOf 35 = 1 := by kernel_rfl
  have g0 : DataW.trod enc Tryz.prog w 0 (fun _ => true) true n 3 ((cs.drop 0).take (Tryz.prog.cellsOf 3)) = xs[0]? := hg 0 _ rfl
  have g1 : DataW.trod enc Tryz.prog w 0 (fun _ => true) true n 35 ((cs.drop 1).take (Tryz.prog.cellsOf 35)) = xs[1]? := hg 1 _ rfl
  rw [c1] at g0
  rw [c2] at g1
  have hl2 : xs.length = 2 := hlen
  have e : ∀ i, i < 2 → ∃ y, xs[i]? = some y := fun i hi => ⟨_, List.getElem?_eq_getElem (by omega)⟩
  obtain ⟨y0, e0⟩ := e 0 (by omega)
  obtain ⟨y1, e1⟩ := e 1 (by omega)
  rw [e0] at g0; rw [e1] at g1
  obtain ⟨a0, q0, _, w0⟩ := DataW.trod_int Tryz.underlying3 g0
  obtain ⟨AB, cB, b, q1, hb1, hb2, hb3⟩ := trodB g1
  exact ⟨⟨a0, b⟩, w0, one_of q0, AB, cB, one_of q1, hb1, hb2, hb3, trodB_sized g1 (.inr q1) fun z hzz => hz z (by
    rw [hxe]
    have hxs : xs = [y0, y1] := by
      apply List.ext_getElem?
      intro i
      match i with
      | 0 => exact e0
      | 1 => exact e1
      | i + 2 => rw [List.getElem?_eq_none (by omega), List.getElem?_eq_none (by simp)]
    rw [hxs]
    simp only [List.map_cons, List.map_nil, DataW.weights, Tryz.underlying38, DataW.weightsEach, List.mem_append]
    exact .inr (.inl hzz))⟩
theorem openTz {A : Option Addr} {n c : Nat} {d : DataW H} {p : List MemPlace} (h : DataW.Trod enc Tryz.prog w 0 (fun _ => true) true 22 (.slice A n c) d p) (hz : ∀ z ∈ d.weights Tryz.prog 22, z ≤ reachBytes) : ∃ l, ArgT w A n c l ∧ ∀ x ∈ l, x.leaf.length ≤ 140737488351232 := by
  obtain ⟨fuel, hf⟩ := h
  have hC : Tryz.prog.cellsOf 38 = 2 := by kernel_rfl
  rcases Go.Deep.open_slice Tryz.underlying22 hf with ⟨hcs, _⟩ | ⟨a, len, cap, m, k, D, Pl, hcs, _, hl, hm, hmm, hxd, hi⟩
  · simp [Value.cells] at hcs
    obtain ⟨rfl, rfl, rfl⟩ := hcs
    exact ⟨[], ⟨rfl, Nat.le_refl _, by simp [maxLen], fun hn => absurd rfl hn⟩, fun x hx => by simp at hx⟩
  · simp [Value.cells] at hcs
    obtain ⟨rfl, rfl, rfl⟩ := hcs
    rw [hC] at hi
    have hm' : n ≤ m := by rw [hmm]; simp; omega
    have hD : ∀ r, r < n → ∀ z ∈ (D r).weights Tryz.prog 38, z ≤ reachBytes := fun r hr z hzz => hz z (by
      injection hxd with hxd _
      rw [hxd]
      simp only [DataW.weights, Tryz.underlying22, List.mem_cons, List.mem_append]
      exact .inr (.inl (all_memL _ (List.mem_map.2 ⟨r, List.mem_range.2 hr, rfl⟩) hzz)))
    rcases Nat.eq_zero_or_pos n with h0 | hpos
    · subst h0
      exact ⟨[], ⟨rfl, hl, hm, fun hn => absurd rfl hn⟩, fun x hx => by simp at hx⟩
    have hs : a.spot = none := by
      obtain ⟨cs', hc, ht⟩ := hi 0 (by omega)
      obtain ⟨x, _, k0, _⟩ := trod_setz ht (hD _ (by omega))
      obtain ⟨_, _, hat⟩ := World.cells?_some hc
      have h1 := hat 0 (by omega)
      rw [k0] at h1
      have e : a.add (0 * 2) = a := by unfold Addr.add; simp
      rw [e] at h1
      exact spot_of h1
    obtain ⟨b, off, spot⟩ := a
    simp only at hs
    subst hs
    have key : ∀ r, r < n → ∃ x : SetL, SetAt w b (off + r * 2) x ∧ x.leaf.length ≤ 140737488351232 := fun r hr => by
      obtain ⟨cs', hc, ht⟩ := hi r (by omega)
      obtain ⟨x, h0, k0, AB, cB, k1, r1, r2, r3, r4⟩ := trod_setz ht (hD _ (by omega))
      obtain ⟨_, _, hat⟩ := World.cells?_some hc
      have hat' : ∀ j, j < 2 → w.cell? ⟨b, off + r * 2 + j, none⟩ = cs'[j]? := fun j hj => by
        have := hat j hj
        rw [add_mk, add_mk] at this
        exact this
      exact ⟨x, ⟨h0, (hat' 0 (by omega)).trans k0, AB, cB, (hat' 1 (by omega)).trans k1, r1, r2, r3⟩, r4⟩
    obtain ⟨ls, hlen, hls⟩ := choose_any n key
    refine ⟨ls, ⟨hlen, hl, hm, fun hne => ⟨b, off, rfl, ?_, fun j hj => (hls j hj).1⟩⟩, fun x hx => ?_⟩
    · have h0 := (hls 0 (by omega)).1
      exact World.block_lt_of_cell? w _ h0.2.1
    · obtain ⟨j, hj, rfl⟩ := List.mem_iff_getElem.1 hx
      exact (hls j hj).2
end
end Go.Proofs.YtbdocaohnigekaaGreat
