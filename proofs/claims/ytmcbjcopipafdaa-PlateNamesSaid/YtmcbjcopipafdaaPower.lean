/-
  The power goes, over the code: calm, powerGoes, fails.
-/
import Derived.Test.YtmcbjcopipafdaaSeen
import Derived.Laws.AppendOwn
namespace Go.Proofs.Ytmcbjcopipafdaa
open Go.RowKit Go.Maps
set_option linter.unusedVariables false

theorem Out.setCells {S : Nat → Prop} {a : World} {g : Nat} (vs : List Value) (hg : g < a.heap.size → S g) : ∀ {w : World} {o : Nat}, Out S a w → Out S a (w.setCells g o vs) := by
  induction vs with
  | nil => intro w o h; exact h
  | cons v vs ih => intro w o h; rw [World.setCells]; exact ih (h.setCell hg v)

theorem Out.mono_ {S S' : Nat → Prop} {a b : World} (h : Out S a b) (hS : ∀ i, S i → S' i) : Out S' a b := ⟨h.os, h.tape, h.output, h.size, fun i hi hn => h.block i hi fun e => hn (hS i e)⟩
section
variable {w w' : World} {M : Nat → Prop} {g r m : Nat} {P : Pl} {kv : Value} {l : List Bool}
/-- What stays turns at one place. -/
theorem PlAt.store (h : PlAt w M g r m P) {i : Nat} (hi : i < P.st.length) (s : List UInt8) (hs : s.length = 64) (D : List Value) (hD : cbs s = D) :
    PlAt (w.setCells r (i * 64) D) M g r m { P with st := P.st.set i s } ∧ Out (fun i => i = r) w (w.setCells r (i * 64) D) := by
  subst hD
  have ho : Out (fun i => i = r) w (w.setCells r (i * 64) (cbs s)) := Out.setCells (S := fun i => i = r) (g := r) _ (fun _ => rfl) (Out.refl (fun i => i = r) w)
  obtain ⟨n1, n2, n3⟩ := h.ne
  obtain ⟨kv, hb, hk⟩ := h.blk
  have hfl := flat_length h.wl.st64
  have hrow := Blk.setMore (w := w) (cbs s) h.row (o := i * 64) (by rw [hfl, cbs_length, hs]; omega)
  refine ⟨⟨h.wl.withSt _ (by rw [List.length_set]) (fun x hx => ?_), ⟨kv, ?_, hk.out ho fun i e => by rw [e]; exact h.mr⟩, ?_, h.map.stay (ho.block m h.map.lt fun e => n3 e.symm), h.mg, h.mr, h.mm, fun i hi => Nat.lt_of_lt_of_le (h.lt i hi) ho.size⟩, ho⟩
  · rcases List.mem_or_eq_of_mem_set hx with hx | hx
    · exact h.wl.st64 x hx
    · rw [hx]; exact hs
  · have := ho.blk hb n1
    rw [show ({ P with st := P.st.set i s } : Pl).st.length = P.st.length by simp]
    exact this
  · show Blk _ r _ (flat (P.st.set i s))
    rw [flat_set h.wl.st64 hi s hs]
    rw [cbs_length, hs] at hrow
    exact hrow
/-- What waits turns. -/
theorem PlAt.mapped (h : PlAt w M g r m P) (ht : w.mapTurned w' m) {wt : Wt} (hm : Wm w' m wt) (hw : Wl { P with wt := wt }) : PlAt w' M g r m { P with wt := wt } ∧ Out (fun i => i = m) w w' := by
  have ho : Out (fun i => i = m) w w' := (Out.refl _ w).then_grown ht.grown fun i hi _ => by injection hi with hi; exact hi.symm
  obtain ⟨n1, n2, n3⟩ := h.ne
  obtain ⟨kv, hb, hk⟩ := h.blk
  exact ⟨⟨hw, ⟨kv, ho.blk hb n2, hk.out ho fun i e => by rw [e]; exact h.mm⟩, ho.blk h.row n3, hm, h.mg, h.mr, h.mm, fun i hi => Nat.lt_of_lt_of_le (h.lt i hi) ho.size⟩, ho⟩
/-- The plate's own cells turn. -/
theorem PlAt.celled (h : PlAt w M g r m P) (ho : Out (fun i => i = g) w w') {P' : Pl} (hst : P'.st = P.st) (hwt : P'.wt = P.wt) (hw : Wl P') {kv : Value} (hb : Blk w' g 40 (pcells r m P.st.length P'.dead P'.ah kv)) (hk : KOff w' M kv P'.kp) : PlAt w' M g r m P' := by
  obtain ⟨n1, n2, n3⟩ := h.ne
  refine ⟨hw, ⟨kv, by rw [hst]; exact hb, hk⟩, by rw [hst]; exact ho.blk h.row fun e => n1 e.symm, by rw [hwt]; exact h.map.stay (ho.block m h.map.lt fun e => n2 e.symm), h.mg, h.mr, h.mm, fun i hi => Nat.lt_of_lt_of_le (h.lt i hi) ho.size⟩
theorem PlAt.drew (h : PlAt w M g r m P) : PlAt w.drew M g r m P := h.below ((Below.refl _ _).drew)
theorem KOff.drew (h : KOff w M kv l) : KOff w.drew M kv l := h.below ((Below.refl _ _).drew)

set_option maxRecDepth 100000 in
theorem calm_any (h : PlAt w M g r m P) : Calls Try.prog 23 #[.pointer (some ⟨g, 0, none⟩)] w fun e w' => e = .returned (.tuple #[]) ∧ PlAt w' M g r m (calmP P) ∧ Out (fun i => i = g) w w' := by
  obtain ⟨kv, hb, hk⟩ := h.blk
  have c3 : w.cell? ⟨g, 3, none⟩ = some (.int .i64 P.ah) := hb.cell rfl
  have c4 : w.cell? ⟨g, 4, none⟩ = some kv := hb.cell rfl
  have f3 : w.frozen? ⟨g, 3, none⟩ = false := hb.free 3
  have f4 : w.frozen? ⟨g, 4, none⟩ = false := hb.free 4
  have ho : Out (fun i => i = g) w ((w.setCell ⟨g, 3, none⟩ (.int .i64 (-1))).setCell ⟨g, 4, none⟩ (.slice none 0 0)) := ((Out.refl (fun i => i = g) w).setCell (fun _ => rfl) _).setCell (fun _ => rfl) _
  have H := Lib.hid (And.intro (h.celled ho (P' := calmP P) rfl rfl h.wl.calm (kv := .slice none 0 0) ((hb.set_ 3 _).set_ 4 _) (KOff.nil _ _)) ho)
  clear h hb hk ho
  go_enter Try.func23, Try.ntmps23
  go_wp2
  go_end0
  exact ⟨rfl, H.out⟩

/-- 'clear(m)', at the operation. -/
theorem wp_clearW {w : World} {ops : Array Oper} {rest : List Oper} {o : Oper} {a : Act} {Q : Exit → Act → World → Prop} (hgd : o.guard = none) (x : Operand)
    (ho : o.op = .call { callee := .builtin .clear, args := #[x], argTypes := #[37] }) (m : Nat) (wt : Wt) (k : Nat) (hx : a.eval x = .map (some m)) (h : Wm w m wt)
    (hK : ∀ w', w.mapTurned w' m → Wm w' m (List.replicate k none) → wpList Try.prog ops Q rest (a.put o.dst (.tuple #[])) w') : wpList Try.prog ops Q (o :: rest) a w := by
  obtain ⟨w', hrun, h1, h2⟩ := h.clear k o.type
  refine wpList_plain hgd fun K' hK' => ?_
  unfold Oper.wp execOp
  simp only [ho, resolve, invoke, builtin, Sem.run_bind, Sem.run_pure, Result.andThen_ok, List.map_toArray, List.map_cons, List.map_nil, hx, hrun]
  exact hK' _ _ (hK w' h1 h2)
/-- 'delete(m, i)', at the operation. -/
theorem wp_dropW {w : World} {ops : Array Oper} {rest : List Oper} {o : Oper} {a : Act} {Q : Exit → Act → World → Prop} (hgd : o.guard = none) (x y : Operand)
    (ho : o.op = .call { callee := .builtin .delete, args := #[x, y], argTypes := #[37, 3] }) (m : Nat) (wt : Wt) (i : Nat) (hx : a.eval x = .map (some m)) (hy : a.eval y = .int .i64 (i : Int)) (h : Wm w m wt) (hi : i < wt.length) (hl : wt.length ≤ 4096)
    (hK : ∀ w', w.mapTurned w' m → Wm w' m (wt.set i none) → wpList Try.prog ops Q rest (a.put o.dst (.tuple #[])) w') : wpList Try.prog ops Q (o :: rest) a w := by
  obtain ⟨w', hrun, h1, h2⟩ := h.drop hi hl o.type
  refine wpList_plain hgd fun K' hK' => ?_
  unfold Oper.wp execOp
  simp only [ho, resolve, invoke, builtin, Sem.run_bind, Sem.run_pure, Result.andThen_ok, List.map_toArray, List.map_cons, List.map_nil, hx, hy, hrun]
  exact hK' _ _ (hK w' h1 h2)

/-- A row of the call's own stays while blocks of M turn. -/
theorem row_kept {B : Nat} {e : TypeId} {size n : Nat} {v : Value} {xs : List Value} (h : w.ownsRow B e size v n xs) (hk : ∀ b, B ≤ b → b < w.heap.size → w'.heap[b]? = w.heap[b]?) : w'.ownsRow B e size v n xs := by
  obtain ⟨h1, h2 | ⟨g, cap, cur, rfl, hb, hg, h3⟩⟩ := h
  · exact ⟨h1, .inl h2⟩
  · have hlt : g < w.heap.size := by
      rcases Nat.lt_or_ge g w.heap.size with hlt | hge
      · exact hlt
      · rw [Array.getElem?_eq_none hge] at hg; cases hg
    exact ⟨h1, .inr ⟨g, cap, cur, rfl, hb, (hk g hb hlt).trans hg, h3⟩⟩

set_option maxRecDepth 100000 in
set_option maxHeartbeats 3200000 in
theorem powerGoes_any (h : PlAt w M g r m P) (A : Option Addr) (n c : Nat) (hn : l.length = n) (hk : KOff w M (.slice A n c) l) :
    Calls Try.prog 25 #[.pointer (some ⟨g, 0, none⟩), .slice A n c] w fun e w' => e = .returned (.tuple #[]) ∧ PlAt w' M g r m (power P l) ∧ Out (GRM g r m) w w' := by
  have Hwait := Lib.hid (waiting_any h)
  have hcm : n ≤ 9223372036854775807 := by
    obtain ⟨A', c', e, h1, h2, _⟩ := hk
    unfold maxLen at h2
    omega
  have hn2 := h.wl.n2
  have hlen := wk_len P.wt
  have hwl := h.wl.wt
  have Hh := Lib.hid (And.intro h (And.intro hk hn))
  clear h hk hn
  go_enter Try.func25, Try.ntmps25
  go_wp2_with fail
  refine Hwait.out.mono ?_
  rintro e w1 ⟨v, rfl, hrow, hb1⟩
  have hf : ∃ A' c', v = .slice A' (wk P.wt).length c' := by
    rcases hrow.2 with ⟨rfl, hz⟩ | ⟨gb, cap, cur, rfl, _⟩
    · exact ⟨none, 0, by rw [hz]⟩
    · exact ⟨_, cap, rfl⟩
  obtain ⟨Av, cv, rfl⟩ := hf
  obtain ⟨J, hJ⟩ : ∃ J, (wk P.wt).length = J := ⟨_, rfl⟩
  have hJn : J ≤ 4096 := by omega
  rw [hJ]
  have H1 := Lib.hid (And.intro ((Hh.out.1).below hb1) (And.intro (Hh.out.2.1.below hb1) (And.intro hrow (And.intro hb1 hJ))))
  clear hrow hb1 hlen
  clear Hwait
  go_wp2
  go_loopw [9] (fun iv wr => ∃ j : Nat, j ≤ J ∧ iv = .int .i64 j ∧ PlAt wr M g r m { P with st := mix (keepF l) j P.st P.wt } ∧ Out (fun i => i = r) w1 wr) (fun iv _ => J - (intOf iv).toNat)
  case atStart => exact ⟨0, Nat.zero_le _, rfl, by rw [mix_zero]; exact H1.out.1, Out.refl _ _⟩
  case round =>
    obtain ⟨j, hj, rfl, hP, hO⟩ := hrel
    have hi0 : (0 : Int) ≤ j := by omega
    have hrM : M r := hP.mr
    have hKw := H1.out.2.1.out hO fun i e => by rw [e]; exact hrM
    have hrlt : r < w.heap.size := Hh.out.1.row.lt
    by_cases hlt : j < J
    · have hi1 : (j : Int) < J := by omega
      have hrow2 := row_kept (w' := wr) H1.out.2.2.1 fun b hb hbl => hO.block b hbl (by omega)
      have hrow3 : wr.ownsRow w.heap.size 3 1 (.slice Av J cv) J ((zs P.wt).map encZ) := by have := H1.out.2.2.2.2; rw [this] at hrow2; exact hrow2
      obtain ⟨bv, ov, u, rfl, hbv, hu, hcu⟩ := (Shows.ofOwn hrow3).at_ hlt
      obtain ⟨i, hwi⟩ : ∃ i, (wk P.wt)[j]? = some i := ⟨_, List.getElem?_eq_getElem (by have := H1.out.2.2.2.2; omega)⟩
      obtain ⟨x, hx⟩ := (wk_at hwi).2
      have hu2 : u = .int .i64 (i : Int) := by
        unfold zs at hu
        rw [List.getElem?_map, List.getElem?_map, hwi] at hu
        simpa using hu.symm
      subst hu2
      have hin : i < P.wt.length := by
        rcases Nat.lt_or_ge i P.wt.length with h' | h'
        · exact h'
        · rw [List.getElem?_eq_none h'] at hx; cases hx
      have hi2 : i < P.st.length := by omega
      have hstep := mix_succ (keepF l) hwi hx hi2
      have Hs := Lib.hid (And.intro hP (And.intro hO (And.intro hKw (And.intro hstep (And.intro hx hwi)))))
      clear hP hO hKw hrow2 hrow3 hu hstep hx hwi hbv
      have hi3 : (0 : Int) ≤ i := by omega
      have hend : ∀ wz, PlAt wz M g r m { P with st := mix (keepF l) (j + 1) P.st P.wt } → Out (fun i => i = r) w1 wz → ∃ j' : Nat, j' ≤ J ∧ Value.int .i64 ((j : Int) + 1) = .int .i64 j' ∧ PlAt wz M g r m { P with st := mix (keepF l) j' P.st P.wt } ∧ Out (fun i => i = r) w1 wz := fun wz h1 h2 => ⟨j + 1, by omega, by go_num, h1, h2⟩
      have Hend := Lib.hid hend
      clear hend
      by_cases hjn : j < n
      · have hi4 : (j : Int) < n := by omega
        obtain ⟨A', c', eA, q1, q2, q3⟩ := Hs.out.2.2.1
        have hln := Hh.out.2.2
        obtain ⟨b, off, eA2, hblt, hMb, hc⟩ := q3 (by omega)
        injection eA with eA1 eA3 eA4
        have eA5 : A = some ⟨b, off, none⟩ := eA1.trans eA2
        subst eA5
        have hjl : j < l.length := by omega
        have hcj : wr.cell? ⟨b, off + j, none⟩ = some (.bool l[j]) := hc j _ (by rw [cbls_get, List.getElem?_eq_getElem hjl]; rfl)
        have hkf : keepF l j = l[j] := by unfold keepF; rw [List.getElem?_eq_getElem hjl]; rfl
        clear eA1 eA2 eA3 eA4 q1 q2 q3 hc hblt hMb
        cases hlj : l[j] with
        | true =>
          rw [hlj] at hcj hkf
          have hm1 : mix (keepF l) (j + 1) P.st P.wt = (mix (keepF l) j P.st P.wt).set i x := by have := Hs.out.2.2.2.1; rw [hkf] at this; exact this
          obtain ⟨D, hD, hDl, hDa⟩ : ∃ D, cbs x = D ∧ D.length = 64 ∧ D.toArray.all (·.oneCell') = true := ⟨_, rfl, by rw [cbs_length]; exact Hs.out.1.wl.wt64 x (List.mem_of_getElem? Hs.out.2.2.2.2.1), cbs_all _⟩
          have hst : ({ P with st := mix (keepF l) j P.st P.wt } : Pl).st.length = P.st.length := mix_length _ _ _ _
          obtain ⟨hPn, hOn⟩ := Hs.out.1.drew.store (i := i) (by rw [hst]; exact hi2) x (by rw [← cbs_length, hD]; exact hDl) D hD
          have Hn := Lib.hid (And.intro hPn (And.intro hOn hm1))
          obtain ⟨nn, hnn⟩ : ∃ nn, P.st.length = nn := ⟨_, rfl⟩
          obtain ⟨kv0, hb0, _⟩ := Hs.out.1.drew.blk
          obtain ⟨kv1, hb1', _⟩ := hPn.blk
          have hst1 : ((mix (keepF l) j P.st P.wt).set i x).length = nn := by rw [List.length_set, mix_length]; exact hnn
          have c0 : wr.drew.cell? ⟨g, 0, none⟩ = some (.slice (some ⟨r, 0, none⟩) nn nn) := by have := hb0.cell (i := 0) rfl; rw [hst, hnn] at this; exact this
          have c1 : wr.drew.cell? ⟨g, 1, none⟩ = some (.map (some m)) := hb0.cell rfl
          have c0' : (wr.drew.setCells r (i * 64) D).cell? ⟨g, 0, none⟩ = some (.slice (some ⟨r, 0, none⟩) nn nn) := by have := hb1'.cell (i := 0) rfl; rw [hst1] at this; exact this
          have c1' : (wr.drew.setCells r (i * 64) D).cell? ⟨g, 1, none⟩ = some (.map (some m)) := hb1'.cell rfl
          have hv : vOf (wtAt P.wt (i : Int)) = .agg D.toArray := by rw [wtAt_nat, Hs.out.2.2.2.2.1, ← hD]; rfl
          have hwf : Wf (i : Int) := wf_nat (by omega)
          have hlk := Hs.out.1.drew.map.get hwf
          have hlk' := hPn.map.get hwf
          rw [show ({ P with st := mix (keepF l) j P.st P.wt } : Pl).wt = P.wt from rfl, hv] at hlk
          rw [show ({ P with st := (mix (keepF l) j P.st P.wt).set i x } : Pl).wt = P.wt from rfl, hv] at hlk'
          have hfl := flat_length (Hs.out.1.wl.mixj (keepF l) 0)
          have hth : wr.drew.there r (i * 64) D.toArray.size := by
            refine Hs.out.1.drew.row.thereAt ?_
            rw [List.size_toArray, hDl, flat_length Hs.out.1.wl.st64, hst]
            omega
          have hinf : (Try.prog.info? 48).map (·.size) = some D.toArray.size := by rw [List.size_toArray, hDl]; exact info64
          have hi5 : (i : Int) < nn := by omega
          have hnn2 : nn ≤ 4096 := by omega
          clear hD hDl hm1 hPn hOn hb0 hb1' hst hst1 hv hwf hkf hlj hfl hnn hi2 hin hln
          go_wp2
          have Q0 : wr.drew.cell? ⟨g, 0, none⟩ = some (.slice (some ⟨r, 0, none⟩) nn nn) ∧ wr.drew.cell? ⟨g, 1, none⟩ = some (.map (some m)) ∧ (Instr.lookup 37 (.map (some m)) (.int .i64 (i : Int)) false).run Try.prog wr.drew = .ok (.agg D.toArray) wr.drew := ⟨c0, c1, hlk⟩
          refine wp_region_held_drew (S := fun W' => W'.cell? ⟨g, 0, none⟩ = some (.slice (some ⟨r, 0, none⟩) nn nn) ∧ W'.cell? ⟨g, 1, none⟩ = some (.map (some m)) ∧ (Instr.lookup 37 (.map (some m)) (.int .i64 (i : Int)) false).run Try.prog W' = .ok (.agg D.toArray) W') (by kernel_rfl) Q0 (fun _ => ?_)
          refine anyH_take (i := 0) (d := 24) (v := ?v0) rfl rfl (by kernel_rfl) (by kernel_rfl) (by kernel_rfl) (fun _ _ _ h => h) (Or.inl ⟨by rfl, ?y0⟩) Q0 ?r0
          case y0 => (intro w; go_simp; try with_reducible rfl)
          simp only [List.setIfInBounds_toArray, List.set_cons_zero, List.set_cons_succ]
          refine anyH_take (i := 1) (d := 25) (v := ?v1) rfl rfl (by kernel_rfl) (by kernel_rfl) (by kernel_rfl) (fun _ _ _ h => h) (Or.inl ⟨by rfl, ?y1⟩) Q0 ?r1
          case y1 => (intro w; go_simp; try with_reducible rfl)
          simp only [List.setIfInBounds_toArray, List.set_cons_zero, List.set_cons_succ]
          refine anyH_take (i := 2) (d := 26) (v := ?v2) rfl rfl (by kernel_rfl) (by kernel_rfl) (by kernel_rfl) (fun _ _ _ h => h) (Or.inl ⟨by rfl, ?y2⟩) Q0 ?r2
          case y2 => (intro w; go_simp; try with_reducible rfl)
          simp only [List.setIfInBounds_toArray, List.set_cons_zero, List.set_cons_succ]
          refine wpAnyH_take' (i := 3) (d := 27) (v := ?v3) rfl rfl (by kernel_rfl) (by kernel_rfl) (by kernel_rfl) (fun _ _ _ h => h) (Or.inl ⟨by rfl, ?y3⟩) Q0 ?r3
          case y3 => (intro w hSw; go_split_ands; go_simp; try with_reducible rfl)
          simp only [List.setIfInBounds_toArray, List.set_cons_zero, List.set_cons_succ]
          refine anyH_take (i := 4) (d := 28) (v := ?v4) rfl rfl (by kernel_rfl) (by kernel_rfl) (by kernel_rfl) (fun _ _ _ h => h) (Or.inl ⟨by rfl, ?y4⟩) Q0 ?r4
          case y4 => (intro w; go_simp; try with_reducible rfl)
          simp only [List.setIfInBounds_toArray, List.set_cons_zero, List.set_cons_succ]
          refine anyH_take (i := 5) (d := 29) (v := ?v5) rfl rfl (by kernel_rfl) (by kernel_rfl) (by kernel_rfl) (fun _ _ _ h => h) (Or.inl ⟨by rfl, ?y5⟩) Q0 ?r5
          case y5 => (intro w; go_simp; try with_reducible rfl)
          simp only [List.setIfInBounds_toArray, List.set_cons_zero, List.set_cons_succ]
          refine anyH_take (i := 6) (d := 30) (v := ?v6) rfl rfl (by kernel_rfl) (by kernel_rfl) (by kernel_rfl) (fun _ _ _ h => h) (Or.inl ⟨by rfl, ?y6⟩) Q0 ?r6
          case y6 => (intro w; go_simp; try with_reducible rfl)
          simp only [List.setIfInBounds_toArray, List.set_cons_zero, List.set_cons_succ]
          refine anyH_take (i := 7) (d := 31) (v := ?v7) rfl rfl (by kernel_rfl) (by kernel_rfl) (by kernel_rfl) (fun _ _ _ h => h) (Or.inl ⟨by rfl, ?y7⟩) Q0 ?r7
          case y7 => (intro w; go_simp; try with_reducible rfl)
          simp only [List.setIfInBounds_toArray, List.set_cons_zero, List.set_cons_succ]
          refine wpAnyH_take' (i := 8) (d := 32) (v := ?v8) rfl rfl (by kernel_rfl) (by kernel_rfl) (by kernel_rfl) (fun _ _ _ h => h) (Or.inl ⟨by rfl, ?y8⟩) Q0 ?r8
          case y8 => (intro w hSw; go_split_ands; go_simp; try with_reducible rfl)
          simp only [List.setIfInBounds_toArray, List.set_cons_zero, List.set_cons_succ]
          refine anyH_take (i := 9) (d := 33) (v := ?v9) rfl rfl (by kernel_rfl) (by kernel_rfl) (by kernel_rfl) (fun _ _ _ h => h) (Or.inl ⟨by rfl, ?y9⟩) Q0 ?r9
          case y9 => (intro w; go_simp; try with_reducible rfl)
          simp only [List.setIfInBounds_toArray, List.set_cons_zero, List.set_cons_succ]
          refine wpAnyH_take' (i := 10) (d := 34) (v := ?v10) rfl rfl (by kernel_rfl) (by kernel_rfl) (by kernel_rfl) (fun _ _ _ h => h) (Or.inl ⟨by rfl, ?y10⟩) Q0 ?r10
          case y10 => (intro w hSw; go_split_ands; go_simp; try with_reducible rfl)
          simp only [List.setIfInBounds_toArray, List.set_cons_zero, List.set_cons_succ]
          refine anyH_take (i := 11) (d := 35) (v := ?v11) rfl rfl (by kernel_rfl) (by kernel_rfl) (by kernel_rfl) (fun _ _ _ h => h) (Or.inl ⟨by rfl, ?y11⟩) Q0 ?r11
          case y11 => (intro w; go_simp; try with_reducible rfl)
          simp only [List.setIfInBounds_toArray, List.set_cons_zero, List.set_cons_succ]
          refine anyH_one (i := 12) (by kernel_rfl) ?_
          refine op_store rfl rfl rfl 48 _ _ rfl r (i * 64) D.toArray rfl rfl hth hinf hDa ?_
          refine ⟨⟨c0', c1', hlk'⟩, ?_⟩
          refine wpAnyH_done (by kernel_rfl) ?_ _
          clear c0 c1 hlk c0' c1' hlk' hth hinf hDa Q0
          go_wp2
          go_roundw
          case rel => exact Hend.out _ (by rw [Hn.out.2.2]; exact Hn.out.1) ((Hs.out.2.1.then_below ((Below.refl _ _).drew)).trans Hn.out.2.1 fun _ _ e => e)
          case measure => simp [intOf]; omega
        | false =>
          rw [hlj] at hcj hkf
          have hm1 : mix (keepF l) (j + 1) P.st P.wt = mix (keepF l) j P.st P.wt := by have := Hs.out.2.2.2.1; rw [hkf] at this; exact this
          have Hm := Lib.hid hm1
          clear hm1 hkf hlj hi2 hin hln
          go_wp2
          go_roundw
          case rel => exact Hend.out _ (by rw [Hm.out]; exact Hs.out.1) Hs.out.2.1
          case measure => simp [intOf]; omega
      · have hi4 : ¬ (j : Int) < n := by omega
        have hkf : keepF l j = false := by unfold keepF; rw [List.getElem?_eq_none (by have := Hh.out.2.2; omega)]; rfl
        have hm1 : mix (keepF l) (j + 1) P.st P.wt = mix (keepF l) j P.st P.wt := by have := Hs.out.2.2.2.1; rw [hkf] at this; exact this
        have Hm := Lib.hid hm1
        clear hm1 hkf hi2 hin
        go_wp2
        go_roundw
        case rel => exact Hend.out _ (by rw [Hm.out]; exact Hs.out.1) Hs.out.2.1
        case measure => simp [intOf]; omega
    · have hi1 : ¬ (j : Int) < J := by omega
      have hjJ : j = (wk P.wt).length := by have := H1.out.2.2.2.2; omega
      have Hs := Lib.hid (And.intro hP (And.intro hO hjJ))
      obtain ⟨kv0, hb0, _⟩ := hP.blk
      have c1 : wr.cell? ⟨g, 1, none⟩ = some (.map (some m)) := hb0.cell rfl
      clear hP hO hjJ hb0 hKw
      have hw2 : Wl { P with st := mix (keepF l) j P.st P.wt, wt := List.replicate P.st.length none } := Hs.out.1.wl.withWt _ (by rw [List.length_replicate]; exact (mix_length _ _ _ _).symm) fun s hs => by have := List.eq_of_mem_replicate hs; cases this
      have Hw2 := Lib.hid hw2
      clear hw2
      go_wp2_with (refine wp_clearW rfl _ rfl m P.wt P.st.length rfl Hs.out.1.map ?_; intro w2 ht2 hm2
                   have H2 := Lib.hid (Hs.out.1.mapped ht2 hm2 Hw2.out)
                   obtain ⟨kv2, hb2, hk2⟩ := H2.out.1.blk
                   have c2 : w2.cell? ⟨g, 2, none⟩ = some (.bool P.dead) := hb2.cell rfl
                   have f2 : w2.frozen? ⟨g, 2, none⟩ = false := hb2.free 2
                   have ho3 : Out (fun i => i = g) w2 (w2.setCell ⟨g, 2, none⟩ (.bool true)) := (Out.refl (fun i => i = g) w2).setCell (fun _ => rfl) _
                   have H3 := Lib.hid (And.intro (H2.out.1.celled ho3 (P' := { P with st := mix (keepF l) j P.st P.wt, wt := List.replicate P.st.length none, dead := true }) rfl rfl (H2.out.1.wl.withDead true) (hb2.set_ 2 (.bool true)) (hk2.out ho3 fun i e => by rw [e]; exact H2.out.1.mg)) ho3)
                   clear ht2 hm2 hb2 hk2 ho3)
      refine (calm_any H3.out.1).mono ?_
      rintro e w4 ⟨rfl, hP4, hO4⟩
      have hfin : PlAt w4 M g r m (power P l) := by
        have hj := Hs.out.2.2
        subst hj
        exact hP4
      have hO : Out (GRM g r m) w w4 := ((((Out.ofBelow _ H1.out.2.2.2.1).trans Hs.out.2.1 fun i _ e => .inr (.inl e)).trans H2.out.2 fun i _ e => .inr (.inr e)).trans H3.out.2 fun i _ e => .inl e).trans hO4 fun i _ e => .inl e
      have H5 := Lib.hid (And.intro hfin hO)
      clear hP4 hO4 hfin hO
      go_wp2
      go_end0
      exact ⟨rfl, H5.out⟩

set_option maxRecDepth 100000 in
set_option maxHeartbeats 800000 in
/-- A doing is asked for: it is counted, or the power goes. -/
theorem fails_any (h : PlAt w M g r m P) : Calls Try.prog 20 #[.pointer (some ⟨g, 0, none⟩)] w fun e w' => e = .returned (.bool (decide (P.ah = 0))) ∧ PlAt w' M g r m (if P.ah = 0 then power P P.kp else count P) ∧ Out (GRM g r m) w w' := by
  obtain ⟨kv, hb, hk⟩ := h.blk
  have c3 : w.cell? ⟨g, 3, none⟩ = some (.int .i64 P.ah) := hb.cell rfl
  have c4 : w.cell? ⟨g, 4, none⟩ = some kv := hb.cell rfl
  have f3 : w.frozen? ⟨g, 3, none⟩ = false := hb.free 3
  have hah := h.wl.ah
  have hahw := h.wl.ahw
  by_cases h0 : P.ah = 0
  · obtain ⟨A, c, rfl, hc1, hc2, hc3⟩ := hk
    have Hp := Lib.hid (powerGoes_any h A P.kp.length c rfl ⟨A, c, rfl, hc1, hc2, hc3⟩)
    have e1 : decide (P.ah = 0) = true := by simp [h0]
    rw [if_pos h0, e1]
    rw [h0] at c3
    clear h hb hc1 hc2 hc3 h0 e1 hah hahw
    go_enter Try.func20, Try.ntmps20
    go_wp2_with fail
    refine Hp.out.mono ?_
    rintro e w1 ⟨rfl, hP, hO⟩
    have H := Lib.hid (And.intro hP hO)
    clear hP hO
    go_wp2
    go_ret
    exact ⟨rfl, H.out⟩
  · rw [if_neg h0]
    have e1 : decide (P.ah = 0) = false := by simp [h0]
    rw [e1]
    by_cases h1 : P.ah = -1
    · have e2 : count P = P := by unfold count; rw [if_pos h1]
      rw [e2]
      rw [h1] at c3
      have H := Lib.hid (And.intro h (Out.refl (GRM g r m) w))
      clear h hb hk h0 h1 e1 e2 hah hahw
      go_enter Try.func20, Try.ntmps20
      go_wp2
      go_ret
      exact ⟨rfl, H.out⟩
    · have e2 : count P = { P with ah := P.ah - 1 } := by unfold count; rw [if_neg h1]
      have ho : Out (fun i => i = g) w (w.setCell ⟨g, 3, none⟩ (.int .i64 (P.ah - 1))) := (Out.refl (fun i => i = g) w).setCell (fun _ => rfl) _
      have hw := h.wl.count h0
      rw [e2] at hw
      have H := Lib.hid (And.intro (h.celled ho (P' := { P with ah := P.ah - 1 }) rfl rfl hw (hb.set_ 3 _) (hk.out ho fun i e => by rw [e]; exact h.mg)) (ho.mono_ fun i e => (.inl e : GRM g r m i)))
      rw [e2]
      have hsub : IntKind.i64.wrap (P.ah - 1) = P.ah - 1 := IntWalk.i64_in _ (by omega)
      have hx0 : ¬ P.ah = -1 := h1
      obtain ⟨a, ha⟩ : ∃ a, P.ah = a := ⟨_, rfl⟩
      have b0 : (a == 0) = false := by rw [← ha]; simpa using h0
      have b1 : (a == -1) = false := by rw [← ha]; simpa using h1
      rw [ha] at c3 hsub hah hahw
      clear h hb hk hw ho e1 e2 h0 h1 hx0
      rw [ha] at H ⊢
      clear ha
      go_enter Try.func20, Try.ntmps20
      go_wp2
      go_ret
      exact ⟨rfl, H.out⟩
end
end Go.Proofs.Ytmcbjcopipafdaa
