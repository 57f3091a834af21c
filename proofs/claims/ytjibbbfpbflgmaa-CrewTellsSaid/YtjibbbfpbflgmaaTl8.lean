/-
  What the region of CrewTells that compares does, in whichever order its operations come up; a row of one's own is blanked. (Written by tools/gen_tells8.py.)
-/
import Derived.Test.YtjibbbfpbflgmaaArgs8
import Derived.Test.YtjibbbfpbflgmaaRt8
namespace Go.Proofs.Ytjibbbfpbflgmaa
open Go.RowKit Go.Shelf CrewP
set_option linter.unusedVariables false
set_option linter.unusedSimpArgs false

theorem own_not_crew {W : World} {base g : Nat} {v : Value} {l : List Int} {cs : List Value} (h : OwnI W base v l) (hB : Blk W g 24 cs) : v.ownBlock ≠ some g := by
  rcases own_blk h with ⟨e, _, _⟩ | ⟨g', cap, cs', e, hg, hBr, _⟩
  · subst e; simp [Value.ownBlock]
  · subst e
    intro e
    have e' : g' = g := by simpa [Value.ownBlock] using e
    subst e'
    unfold Blk at hB hBr
    rw [hB] at hBr
    have := Option.some.inj hBr
    injection this with _ h2 _
    exact absurd h2 (by decide)
theorem own_blank {w : World} {B : Nat} {A : Option Addr} {m c : Nat} {L : List Int} (h : OwnI w B (.slice A m c) L) (hm : L.length = m) {j : Nat} (hj : j < m) :
    ∃ g, A = some ⟨g, 0, none⟩ ∧ B ≤ g ∧ (∃ y, w.cell? ⟨g, j, none⟩ = some (.int .i64 y)) ∧ w.frozen? ⟨g, j, none⟩ = false ∧ OwnI (w.setCell ⟨g, j, none⟩ (.int .i64 0)) B (.slice A m c) (L.set j 0) := by
  subst hm
  rcases own_blk h with ⟨e, h1, h2⟩ | ⟨g, cap, cs, e, hg, hBr, hn, hc, hcl, ht⟩
  · omega
  · injection e with e1 e2 e3
    subst e1; subst e3
    refine ⟨g, rfl, hg, ⟨L[j], ?_⟩, hBr.free j, ?_⟩
    · refine hBr.cell ?_
      have h1 : (cs.take L.length)[j]? = (cis L)[j]? := by rw [ht]
      rw [List.getElem?_take, if_pos hj, cis_get, List.getElem?_eq_getElem hj] at h1
      exact h1
    · unfold OwnI
      rw [List.length_set]
      refine blk_own hg (hBr.set_ j _) hn hc (by rw [List.length_set, hcl]) ?_
      rw [List.take_set, ht]
      simp [cis, List.map_set]
      rfl
def saR (gi gc : Nat) (f : Int) (A2 A : Option Addr) (n c2 c : Nat) (ns : List Int) (Ao : Option Addr) (m co : Nat) (vw x m1 m2 m3 : Int) (hb : Bool) : Nat → Value → World → Prop
  | 0 => fun v w => v = .agg #[.int .i64 f, .slice A2 n c2]
  | 1 => fun v w => v = .int .i64 m1
  | 2 => fun v w => v = .agg #[.int .i64 f, .slice A n c]
  | 3 => fun v w => v = .int .i64 m1
  | 4 => fun v w => v = .bool false
  | 5 => fun v w => v = .bool false
  | 6 => fun v w => v = .agg #[.int .i64 f, .slice A2 n c2]
  | 7 => fun v w => v = .int .i64 m2
  | 8 => fun v w => v = .agg #[.int .i64 f, .slice A n c]
  | 9 => fun v w => v = .int .i64 m2
  | 10 => fun v w => v = .bool false
  | 11 => fun v w => v = .bool false
  | 12 => fun v w => v = .bool false
  | 13 => fun v w => v = .agg #[.int .i64 f, .slice A2 n c2]
  | 14 => fun v w => v = .int .i64 vw
  | 15 => fun v w => v = .int .i64 m3
  | 16 => fun v w => v = .agg #[.int .i64 f, .slice A n c]
  | 17 => fun v w => v = .int .i64 vw
  | 18 => fun v w => v = .int .i64 m3
  | 19 => fun v w => v = .bool false
  | 20 => fun v w => v = .bool false
  | 21 => fun v w => v = .bool false
  | 22 => fun v w => v = .agg #[.int .i64 f, .slice A2 n c2]
  | 23 => fun v w => v = .int .i64 x
  | 24 => fun v w => v = .bool hb
  | 25 => fun v w => v = .agg #[.int .i64 f, .slice A n c]
  | 26 => fun v w => v = .int .i64 x
  | 27 => fun v w => v = .bool hb
  | 28 => fun v w => v = .bool false
  | 29 => fun v w => v = .bool false
  | 30 => fun v w => v = .bool false
  | 31 => fun v w => v = .slice Ao m co
  | 32 => fun v w => v = .agg #[.int .i64 f, .slice A n c]
  | 33 => fun v w => v = .int .i64 x
  | 34 => fun v w => ListV w v (othersR f ns x)
  | 35 => fun v w => v = .bool true
  | 36 => fun v w => v = .bool false
  | 37 => fun v w => v = .bool false
  | _ => fun _ _ => True
def saD (i : Nat) : Nat := ([15, 16, 17, 18, 19, 20, 21, 22, 23, 24, 25, 26, 27, 28, 29, 30, 31, 32, 33, 34, 35, 36, 37, 38, 39, 40, 41, 42, 43, 44, 45, 46, 47, 48, 49, 50, 51, 52] : List Nat).getD i 0
def saG : Nat → Option Bool
  | 5 => some false
  | 12 => some false
  | 21 => some false
  | 30 => some false
  | _ => none
def saS (i : Nat) : Bool := ([] : List Nat).contains i
theorem sa_gb (gi gc : Nat) (f : Int) (A2 A : Option Addr) (n c2 c : Nat) (ns : List Int) (Ao : Option Addr) (m co : Nat) (vw x m1 m2 m3 : Int) (hb : Bool) : ∀ i b v w, saG i = some b → saR gi gc f A2 A n c2 c ns Ao m co vw x m1 m2 m3 hb i v w → v = .bool b := by
  intro i b v w h hR
  unfold saG at h
  split at h
  all_goals first | (injection h with h; subst h; exact hR) | cases h
theorem sa_sk (gi gc : Nat) (f : Int) (A2 A : Option Addr) (n c2 c : Nat) (ns : List Int) (Ao : Option Addr) (m co : Nat) (vw x m1 m2 m3 : Int) (hb : Bool) : ∀ i w, saS i = true → saR gi gc f A2 A n c2 c ns Ao m co vw x m1 m2 m3 hb i undef w := by
  intro i w h
  simp [saS] at h
theorem sa_on (gi gc : Nat) (f : Int) (A2 A : Option Addr) (n c2 c : Nat) (ns : List Int) (Ao : Option Addr) (m co : Nat) (vw x m1 m2 m3 : Int) (hb : Bool) : ∀ i v w w', saR gi gc f A2 A n c2 c ns Ao m co vw x m1 m2 m3 hb i v w → Below w.heap.size w w' → saR gi gc f A2 A n c2 c ns Ao m co vw x m1 m2 m3 hb i v w'
  | 0, v, w, w', h, _ => h
  | 1, v, w, w', h, _ => h
  | 2, v, w, w', h, _ => h
  | 3, v, w, w', h, _ => h
  | 4, v, w, w', h, _ => h
  | 5, v, w, w', h, _ => h
  | 6, v, w, w', h, _ => h
  | 7, v, w, w', h, _ => h
  | 8, v, w, w', h, _ => h
  | 9, v, w, w', h, _ => h
  | 10, v, w, w', h, _ => h
  | 11, v, w, w', h, _ => h
  | 12, v, w, w', h, _ => h
  | 13, v, w, w', h, _ => h
  | 14, v, w, w', h, _ => h
  | 15, v, w, w', h, _ => h
  | 16, v, w, w', h, _ => h
  | 17, v, w, w', h, _ => h
  | 18, v, w, w', h, _ => h
  | 19, v, w, w', h, _ => h
  | 20, v, w, w', h, _ => h
  | 21, v, w, w', h, _ => h
  | 22, v, w, w', h, _ => h
  | 23, v, w, w', h, _ => h
  | 24, v, w, w', h, _ => h
  | 25, v, w, w', h, _ => h
  | 26, v, w, w', h, _ => h
  | 27, v, w, w', h, _ => h
  | 28, v, w, w', h, _ => h
  | 29, v, w, w', h, _ => h
  | 30, v, w, w', h, _ => h
  | 31, v, w, w', h, _ => h
  | 32, v, w, w', h, _ => h
  | 33, v, w, w', h, _ => h
  | 34, v, w, w', h, hb => ListV.on (show ListV w v (othersR f ns x) from h) hb
  | 35, v, w, w', h, _ => h
  | 36, v, w, w', h, _ => h
  | 37, v, w, w', h, _ => h
  | i + 38, v, w, w', h, hb => trivial
def saOps : List Op := [.load 24 (.tmp 7),
  .call { callee := .value (.func 26), args := #[.tmp 15], argTypes := #[24] },
  .load 24 (.tmp 3),
  .call { callee := .value (.func 27), args := #[.tmp 17], argTypes := #[24] },
  .binOp .neq 3 (.tmp 16) (.tmp 18) 3,
  .move (.tmp 19),
  .load 24 (.tmp 7),
  .call { callee := .value (.func 28), args := #[.tmp 21], argTypes := #[24] },
  .load 24 (.tmp 3),
  .call { callee := .value (.func 29), args := #[.tmp 23], argTypes := #[24] },
  .binOp .neq 3 (.tmp 22) (.tmp 24) 3,
  .pick (.tmp 20) (.const (.bool true)) (.tmp 25),
  .move (.tmp 26),
  .load 24 (.tmp 7),
  .move (.tmp 1),
  .call { callee := .value (.func 30), args := #[.tmp 28, .tmp 29], argTypes := #[24, 3] },
  .load 24 (.tmp 3),
  .move (.tmp 1),
  .call { callee := .value (.func 31), args := #[.tmp 31, .tmp 32], argTypes := #[24, 3] },
  .binOp .neq 3 (.tmp 30) (.tmp 33) 3,
  .pick (.tmp 27) (.const (.bool true)) (.tmp 34),
  .move (.tmp 35),
  .load 24 (.tmp 7),
  .move (.tmp 2),
  .call { callee := .value (.func 32), args := #[.tmp 37, .tmp 38], argTypes := #[24, 3] },
  .load 24 (.tmp 3),
  .move (.tmp 2),
  .call { callee := .value (.func 33), args := #[.tmp 40, .tmp 41], argTypes := #[24, 3] },
  .binOp .neq 4 (.tmp 39) (.tmp 42) 4,
  .pick (.tmp 36) (.const (.bool true)) (.tmp 43),
  .move (.tmp 44),
  .move (.tmp 8),
  .load 24 (.tmp 3),
  .move (.tmp 2),
  .call { callee := .value (.func 34), args := #[.tmp 47, .tmp 48], argTypes := #[24, 3] },
  .call { callee := .value (.func 23), args := #[.tmp 46, .tmp 49], argTypes := #[22, 22] },
  .unOp .not 4 (.tmp 50),
  .pick (.tmp 45) (.const (.bool true)) (.tmp 51)]
def saNeeds : Nat → List Nat
  | 0 => []
  | 1 => [0]
  | 2 => []
  | 3 => [2]
  | 4 => [1, 3]
  | 5 => [4]
  | 6 => []
  | 7 => [6]
  | 8 => []
  | 9 => [8]
  | 10 => [7, 9]
  | 11 => [5, 10]
  | 12 => [11]
  | 13 => []
  | 14 => []
  | 15 => [13, 14]
  | 16 => []
  | 17 => []
  | 18 => [16, 17]
  | 19 => [15, 18]
  | 20 => [12, 19]
  | 21 => [20]
  | 22 => []
  | 23 => []
  | 24 => [22, 23]
  | 25 => []
  | 26 => []
  | 27 => [25, 26]
  | 28 => [24, 27]
  | 29 => [21, 28]
  | 30 => [29]
  | 31 => []
  | 32 => []
  | 33 => []
  | 34 => [32, 33]
  | 35 => [31, 34]
  | 36 => [35]
  | 37 => [30, 36]
  | _ => []
set_option maxRecDepth 100000 in
set_option maxHeartbeats 3200000 in
theorem sa_step {ops : Array Oper} {Q : Exit → Act → World → Prop} {a0 : Act} {w0 : World} (gi gc : Nat) (f : Int) (A2 A : Option Addr) (n c2 c : Nat) (ns : List Int) (Ao : Option Addr) (m co : Nat) (vw x m1 m2 m3 : Int) (hb : Bool) (hops : ((List.range 38).map fun i => (ops[i]?).map Oper.op) = saOps.map some)
    (hnd : ((List.range 38).all fun i => (saNeeds i).all fun j => ((ops[i]?).map fun o => o.after.any fun e => Region.binds .any e && (e.on == j)).getD false) = true)
    (x7 : a0.tmps[7]? = some (.pointer (some ⟨gi, 0, none⟩))) (x3 : a0.tmps[3]? = some (.pointer (some ⟨gc, 0, none⟩))) (x8 : a0.tmps[8]? = some (.slice Ao m co)) (x1 : a0.tmps[1]? = some (.int .i64 vw)) (x2 : a0.tmps[2]? = some (.int .i64 x))
    (hBi : Blk w0 gi 24 [.int .i64 f, .slice A2 n c2]) (hB : Blk w0 gc 24 [.int .i64 f, .slice A n c]) (hA2 : ArgI w0 A2 n c2 ns) (hA : ArgI w0 A n c ns) (hAo : ArgI w0 Ao m co (othersR f ns x)) (hvw : Wf vw) (hwo : ∀ y ∈ othersR f ns x, Wf y) (e1 : mostR f ns = m1) (e2 : someR f ns = m2) (e3 : leaderR f ns vw = m3) (e4 : hasR f ns x = hb) :
    ∀ i o, i < 38 → saS i = false → ops[i]? = some o → o.dst = some (saD i) → ∀ a w, Base saD 38 a0 a → Below w0.heap.size w0 w → Region.wanted o (yielded ops a.tmps) = true →
      (∀ j, (o.after.any fun e => Region.binds .any e && (e.on == j)) = true → Has saD (saR gi gc f A2 A n c2 c ns Ao m co vw x m1 m2 m3 hb) j a w) →
      ∀ K : Act → World → Prop, (∀ v w', saR gi gc f A2 A n c2 c ns Ao m co vw x m1 m2 m3 hb i v w' → Below w.heap.size w w' → K (a.put o.dst v) w') → wpOp Try.prog ops Q i K a w := by
  intro i o hi hs ho hds a w hbase hbl hwt hdep0 K hK
  have hop : some o.op = saOps[i]? := by
    have h1 : ((List.range 38).map fun i => (ops[i]?).map Oper.op)[i]? = some (some o.op) := by
      rw [List.getElem?_map, List.getElem?_range hi]; simp only [Option.map_some, ho]
    rw [hops, List.getElem?_map] at h1
    cases h2 : saOps[i]? with
    | none => rw [h2] at h1; cases h1
    | some y => rw [h2] at h1; simp only [Option.map_some, Option.some.injEq] at h1; rw [h1]
  have hdep : ∀ j, j ∈ saNeeds i → Has saD (saR gi gc f A2 A n c2 c ns Ao m co vw x m1 m2 m3 hb) j a w := fun j hj => by
    have h1 := List.all_eq_true.1 (List.all_eq_true.1 hnd i (List.mem_range.2 hi)) j hj
    rw [ho] at h1
    exact hdep0 j h1
  clear hdep0 hops hnd
  match i, hi, hs, ho, hop, hds, hdep, hK with
  | 0, _, hs, ho, hop, hds, hdep, hK =>
    have hop : o.op = .load 24 (.tmp 7) := Option.some.inj hop
    have hu7 : a.tmps[7]? = some (.pointer (some ⟨gi, 0, none⟩)) := (hbase.2.2 7 (by decide)).trans x7
    have e7 : a.eval (.tmp 7) = _ := ev_tmp hu7
    refine st3 ho hwt (v := .agg #[.int .i64 f, .slice A2 n c2]) (w' := w) ?_ (hK _ w rfl (Below.refl _ _))
    have k0 : w.cell? ⟨gi, 0, none⟩ = some (.int .i64 f) := (hBi.below hbl hBi.lt).cell rfl
    have k1 : w.cell? ⟨gi, 1, none⟩ = some (.slice A2 n c2) := (hBi.below hbl hBi.lt).cell rfl
    unfold execOp
    simp only [hop, Option.map_some, Option.map_none, e7]
    first | rfl | (go_simp; done) | (go_simp; simp; done) | (go_simp; intro h; omega)
  | 1, _, hs, ho, hop, hds, hdep, hK =>
    have hop : o.op = .call { callee := .value (.func 26), args := #[.tmp 15], argTypes := #[24] } := Option.some.inj hop
    obtain ⟨u15, hu15, hv15⟩ := hdep 0 (by decide)
    have hv15' : u15 = .agg #[.int .i64 f, .slice A2 n c2] := hv15
    subst hv15'
    have e15 : a.eval (.tmp 15) = _ := ev_tmp hu15
    refine st3_call ho hwt (f := 26) (vals := #[.agg #[.int .i64 f, .slice A2 n c2]]) (Z := fun v w' => v = .int .i64 m1 ∧ Below w.heap.size w w') ?_ ?_ ?_
    · unfold execOp
      simp only [hop, e15, resolve, invoke, Sem.run_bind, Sem.run_pure, Result.andThen_ok, List.map_toArray, List.map_cons, List.map_nil]
      first | rfl | exact enters_of Try.func26 (by kernel_rfl) rfl _ _
    · exact (most_any f A2 n c2 ns w (hA2.after hbl)).mono fun e w' ⟨he, h2⟩ => ⟨_, he, congrArg (Value.int .i64) e1, h2⟩
    · rintro v w' ⟨h1, h2⟩
      exact hK v w' h1 h2
  | 2, _, hs, ho, hop, hds, hdep, hK =>
    have hop : o.op = .load 24 (.tmp 3) := Option.some.inj hop
    have hu3 : a.tmps[3]? = some (.pointer (some ⟨gc, 0, none⟩)) := (hbase.2.2 3 (by decide)).trans x3
    have e3 : a.eval (.tmp 3) = _ := ev_tmp hu3
    refine st3 ho hwt (v := .agg #[.int .i64 f, .slice A n c]) (w' := w) ?_ (hK _ w rfl (Below.refl _ _))
    have k0 : w.cell? ⟨gc, 0, none⟩ = some (.int .i64 f) := (hB.below hbl hB.lt).cell rfl
    have k1 : w.cell? ⟨gc, 1, none⟩ = some (.slice A n c) := (hB.below hbl hB.lt).cell rfl
    unfold execOp
    simp only [hop, Option.map_some, Option.map_none, e3]
    first | rfl | (go_simp; done) | (go_simp; simp; done) | (go_simp; intro h; omega)
  | 3, _, hs, ho, hop, hds, hdep, hK =>
    have hop : o.op = .call { callee := .value (.func 27), args := #[.tmp 17], argTypes := #[24] } := Option.some.inj hop
    obtain ⟨u17, hu17, hv17⟩ := hdep 2 (by decide)
    have hv17' : u17 = .agg #[.int .i64 f, .slice A n c] := hv17
    subst hv17'
    have e17 : a.eval (.tmp 17) = _ := ev_tmp hu17
    refine st3_call ho hwt (f := 27) (vals := #[.agg #[.int .i64 f, .slice A n c]]) (Z := fun v w' => v = .int .i64 m1 ∧ Below w.heap.size w w') ?_ ?_ ?_
    · unfold execOp
      simp only [hop, e17, resolve, invoke, Sem.run_bind, Sem.run_pure, Result.andThen_ok, List.map_toArray, List.map_cons, List.map_nil]
      first | rfl | exact enters_of Try.func27 (by kernel_rfl) rfl _ _
    · exact (rmost_any f A n c ns w (hA.after hbl)).mono fun e w' ⟨he, h2⟩ => ⟨_, he, congrArg (Value.int .i64) e1, h2⟩
    · rintro v w' ⟨h1, h2⟩
      exact hK v w' h1 h2
  | 4, _, hs, ho, hop, hds, hdep, hK =>
    have hop : o.op = .binOp .neq 3 (.tmp 16) (.tmp 18) 3 := Option.some.inj hop
    obtain ⟨u16, hu16, hv16⟩ := hdep 1 (by decide)
    have hv16' : u16 = .int .i64 m1 := hv16
    subst hv16'
    have e16 : a.eval (.tmp 16) = _ := ev_tmp hu16
    obtain ⟨u18, hu18, hv18⟩ := hdep 3 (by decide)
    have hv18' : u18 = .int .i64 m1 := hv18
    subst hv18'
    have e18 : a.eval (.tmp 18) = _ := ev_tmp hu18
    refine st3 ho hwt (v := .bool false) (w' := w) ?_ (hK _ w rfl (Below.refl _ _))
    unfold execOp
    simp only [hop, e16, e18]
    first | rfl | (go_simp; done) | (go_simp; simp; done) | (go_simp; intro h; omega)
  | 5, _, hs, ho, hop, hds, hdep, hK =>
    have hop : o.op = .move (.tmp 19) := Option.some.inj hop
    obtain ⟨u19, hu19, hv19⟩ := hdep 4 (by decide)
    have hv19' : u19 = .bool false := hv19
    subst hv19'
    have e19 : a.eval (.tmp 19) = _ := ev_tmp hu19
    refine st3 ho hwt (v := _) (w' := w) ?_ (hK _ w rfl (Below.refl _ _))
    unfold execOp
    rw [hop, ← e19]
    rfl
  | 6, _, hs, ho, hop, hds, hdep, hK =>
    have hop : o.op = .load 24 (.tmp 7) := Option.some.inj hop
    have hu7 : a.tmps[7]? = some (.pointer (some ⟨gi, 0, none⟩)) := (hbase.2.2 7 (by decide)).trans x7
    have e7 : a.eval (.tmp 7) = _ := ev_tmp hu7
    refine st3 ho hwt (v := .agg #[.int .i64 f, .slice A2 n c2]) (w' := w) ?_ (hK _ w rfl (Below.refl _ _))
    have k0 : w.cell? ⟨gi, 0, none⟩ = some (.int .i64 f) := (hBi.below hbl hBi.lt).cell rfl
    have k1 : w.cell? ⟨gi, 1, none⟩ = some (.slice A2 n c2) := (hBi.below hbl hBi.lt).cell rfl
    unfold execOp
    simp only [hop, Option.map_some, Option.map_none, e7]
    first | rfl | (go_simp; done) | (go_simp; simp; done) | (go_simp; intro h; omega)
  | 7, _, hs, ho, hop, hds, hdep, hK =>
    have hop : o.op = .call { callee := .value (.func 28), args := #[.tmp 21], argTypes := #[24] } := Option.some.inj hop
    obtain ⟨u21, hu21, hv21⟩ := hdep 6 (by decide)
    have hv21' : u21 = .agg #[.int .i64 f, .slice A2 n c2] := hv21
    subst hv21'
    have e21 : a.eval (.tmp 21) = _ := ev_tmp hu21
    refine st3_call ho hwt (f := 28) (vals := #[.agg #[.int .i64 f, .slice A2 n c2]]) (Z := fun v w' => v = .int .i64 m2 ∧ Below w.heap.size w w') ?_ ?_ ?_
    · unfold execOp
      simp only [hop, e21, resolve, invoke, Sem.run_bind, Sem.run_pure, Result.andThen_ok, List.map_toArray, List.map_cons, List.map_nil]
      first | rfl | exact enters_of Try.func28 (by kernel_rfl) rfl _ _
    · exact (some_any f A2 n c2 ns w (hA2.after hbl)).mono fun e w' ⟨he, h2⟩ => ⟨_, he, congrArg (Value.int .i64) e2, h2⟩
    · rintro v w' ⟨h1, h2⟩
      exact hK v w' h1 h2
  | 8, _, hs, ho, hop, hds, hdep, hK =>
    have hop : o.op = .load 24 (.tmp 3) := Option.some.inj hop
    have hu3 : a.tmps[3]? = some (.pointer (some ⟨gc, 0, none⟩)) := (hbase.2.2 3 (by decide)).trans x3
    have e3 : a.eval (.tmp 3) = _ := ev_tmp hu3
    refine st3 ho hwt (v := .agg #[.int .i64 f, .slice A n c]) (w' := w) ?_ (hK _ w rfl (Below.refl _ _))
    have k0 : w.cell? ⟨gc, 0, none⟩ = some (.int .i64 f) := (hB.below hbl hB.lt).cell rfl
    have k1 : w.cell? ⟨gc, 1, none⟩ = some (.slice A n c) := (hB.below hbl hB.lt).cell rfl
    unfold execOp
    simp only [hop, Option.map_some, Option.map_none, e3]
    first | rfl | (go_simp; done) | (go_simp; simp; done) | (go_simp; intro h; omega)
  | 9, _, hs, ho, hop, hds, hdep, hK =>
    have hop : o.op = .call { callee := .value (.func 29), args := #[.tmp 23], argTypes := #[24] } := Option.some.inj hop
    obtain ⟨u23, hu23, hv23⟩ := hdep 8 (by decide)
    have hv23' : u23 = .agg #[.int .i64 f, .slice A n c] := hv23
    subst hv23'
    have e23 : a.eval (.tmp 23) = _ := ev_tmp hu23
    refine st3_call ho hwt (f := 29) (vals := #[.agg #[.int .i64 f, .slice A n c]]) (Z := fun v w' => v = .int .i64 m2 ∧ Below w.heap.size w w') ?_ ?_ ?_
    · unfold execOp
      simp only [hop, e23, resolve, invoke, Sem.run_bind, Sem.run_pure, Result.andThen_ok, List.map_toArray, List.map_cons, List.map_nil]
      first | rfl | exact enters_of Try.func29 (by kernel_rfl) rfl _ _
    · exact (rsome_any f A n c ns w (hA.after hbl)).mono fun e w' ⟨he, h2⟩ => ⟨_, he, congrArg (Value.int .i64) e2, h2⟩
    · rintro v w' ⟨h1, h2⟩
      exact hK v w' h1 h2
  | 10, _, hs, ho, hop, hds, hdep, hK =>
    have hop : o.op = .binOp .neq 3 (.tmp 22) (.tmp 24) 3 := Option.some.inj hop
    obtain ⟨u22, hu22, hv22⟩ := hdep 7 (by decide)
    have hv22' : u22 = .int .i64 m2 := hv22
    subst hv22'
    have e22 : a.eval (.tmp 22) = _ := ev_tmp hu22
    obtain ⟨u24, hu24, hv24⟩ := hdep 9 (by decide)
    have hv24' : u24 = .int .i64 m2 := hv24
    subst hv24'
    have e24 : a.eval (.tmp 24) = _ := ev_tmp hu24
    refine st3 ho hwt (v := .bool false) (w' := w) ?_ (hK _ w rfl (Below.refl _ _))
    unfold execOp
    simp only [hop, e22, e24]
    first | rfl | (go_simp; done) | (go_simp; simp; done) | (go_simp; intro h; omega)
  | 11, _, hs, ho, hop, hds, hdep, hK =>
    have hop : o.op = .pick (.tmp 20) (.const (.bool true)) (.tmp 25) := Option.some.inj hop
    obtain ⟨u20, hu20, hv20⟩ := hdep 5 (by decide)
    have hv20' : u20 = .bool false := hv20
    subst hv20'
    have e20 : a.eval (.tmp 20) = _ := ev_tmp hu20
    obtain ⟨u25, hu25, hv25⟩ := hdep 10 (by decide)
    have hv25' : u25 = .bool false := hv25
    subst hv25'
    have e25 : a.eval (.tmp 25) = _ := ev_tmp hu25
    refine st3 ho hwt (v := .bool false) (w' := w) ?_ (hK _ w rfl (Below.refl _ _))
    unfold execOp
    simp only [hop, e20, e25]
    first | rfl | (go_simp; done) | (go_simp; simp; done) | (go_simp; intro h; omega)
  | 12, _, hs, ho, hop, hds, hdep, hK =>
    have hop : o.op = .move (.tmp 26) := Option.some.inj hop
    obtain ⟨u26, hu26, hv26⟩ := hdep 11 (by decide)
    have hv26' : u26 = .bool false := hv26
    subst hv26'
    have e26 : a.eval (.tmp 26) = _ := ev_tmp hu26
    refine st3 ho hwt (v := _) (w' := w) ?_ (hK _ w rfl (Below.refl _ _))
    unfold execOp
    rw [hop, ← e26]
    rfl
  | 13, _, hs, ho, hop, hds, hdep, hK =>
    have hop : o.op = .load 24 (.tmp 7) := Option.some.inj hop
    have hu7 : a.tmps[7]? = some (.pointer (some ⟨gi, 0, none⟩)) := (hbase.2.2 7 (by decide)).trans x7
    have e7 : a.eval (.tmp 7) = _ := ev_tmp hu7
    refine st3 ho hwt (v := .agg #[.int .i64 f, .slice A2 n c2]) (w' := w) ?_ (hK _ w rfl (Below.refl _ _))
    have k0 : w.cell? ⟨gi, 0, none⟩ = some (.int .i64 f) := (hBi.below hbl hBi.lt).cell rfl
    have k1 : w.cell? ⟨gi, 1, none⟩ = some (.slice A2 n c2) := (hBi.below hbl hBi.lt).cell rfl
    unfold execOp
    simp only [hop, Option.map_some, Option.map_none, e7]
    first | rfl | (go_simp; done) | (go_simp; simp; done) | (go_simp; intro h; omega)
  | 14, _, hs, ho, hop, hds, hdep, hK =>
    have hop : o.op = .move (.tmp 1) := Option.some.inj hop
    have hu1 : a.tmps[1]? = some (.int .i64 vw) := (hbase.2.2 1 (by decide)).trans x1
    have e1 : a.eval (.tmp 1) = _ := ev_tmp hu1
    refine st3 ho hwt (v := _) (w' := w) ?_ (hK _ w rfl (Below.refl _ _))
    unfold execOp
    rw [hop, ← e1]
    rfl
  | 15, _, hs, ho, hop, hds, hdep, hK =>
    have hop : o.op = .call { callee := .value (.func 30), args := #[.tmp 28, .tmp 29], argTypes := #[24, 3] } := Option.some.inj hop
    obtain ⟨u28, hu28, hv28⟩ := hdep 13 (by decide)
    have hv28' : u28 = .agg #[.int .i64 f, .slice A2 n c2] := hv28
    subst hv28'
    have e28 : a.eval (.tmp 28) = _ := ev_tmp hu28
    obtain ⟨u29, hu29, hv29⟩ := hdep 14 (by decide)
    have hv29' : u29 = .int .i64 vw := hv29
    subst hv29'
    have e29 : a.eval (.tmp 29) = _ := ev_tmp hu29
    refine st3_call ho hwt (f := 30) (vals := #[.agg #[.int .i64 f, .slice A2 n c2], .int .i64 vw]) (Z := fun v w' => v = .int .i64 m3 ∧ Below w.heap.size w w') ?_ ?_ ?_
    · unfold execOp
      simp only [hop, e28, e29, resolve, invoke, Sem.run_bind, Sem.run_pure, Result.andThen_ok, List.map_toArray, List.map_cons, List.map_nil]
      first | rfl | exact enters_of Try.func30 (by kernel_rfl) rfl _ _
    · exact (leader_any f A2 n c2 ns w (hA2.after hbl) vw hvw).mono fun e w' ⟨he, h2⟩ => ⟨_, he, congrArg (Value.int .i64) e3, h2⟩
    · rintro v w' ⟨h1, h2⟩
      exact hK v w' h1 h2
  | 16, _, hs, ho, hop, hds, hdep, hK =>
    have hop : o.op = .load 24 (.tmp 3) := Option.some.inj hop
    have hu3 : a.tmps[3]? = some (.pointer (some ⟨gc, 0, none⟩)) := (hbase.2.2 3 (by decide)).trans x3
    have e3 : a.eval (.tmp 3) = _ := ev_tmp hu3
    refine st3 ho hwt (v := .agg #[.int .i64 f, .slice A n c]) (w' := w) ?_ (hK _ w rfl (Below.refl _ _))
    have k0 : w.cell? ⟨gc, 0, none⟩ = some (.int .i64 f) := (hB.below hbl hB.lt).cell rfl
    have k1 : w.cell? ⟨gc, 1, none⟩ = some (.slice A n c) := (hB.below hbl hB.lt).cell rfl
    unfold execOp
    simp only [hop, Option.map_some, Option.map_none, e3]
    first | rfl | (go_simp; done) | (go_simp; simp; done) | (go_simp; intro h; omega)
  | 17, _, hs, ho, hop, hds, hdep, hK =>
    have hop : o.op = .move (.tmp 1) := Option.some.inj hop
    have hu1 : a.tmps[1]? = some (.int .i64 vw) := (hbase.2.2 1 (by decide)).trans x1
    have e1 : a.eval (.tmp 1) = _ := ev_tmp hu1
    refine st3 ho hwt (v := _) (w' := w) ?_ (hK _ w rfl (Below.refl _ _))
    unfold execOp
    rw [hop, ← e1]
    rfl
  | 18, _, hs, ho, hop, hds, hdep, hK =>
    have hop : o.op = .call { callee := .value (.func 31), args := #[.tmp 31, .tmp 32], argTypes := #[24, 3] } := Option.some.inj hop
    obtain ⟨u31, hu31, hv31⟩ := hdep 16 (by decide)
    have hv31' : u31 = .agg #[.int .i64 f, .slice A n c] := hv31
    subst hv31'
    have e31 : a.eval (.tmp 31) = _ := ev_tmp hu31
    obtain ⟨u32, hu32, hv32⟩ := hdep 17 (by decide)
    have hv32' : u32 = .int .i64 vw := hv32
    subst hv32'
    have e32 : a.eval (.tmp 32) = _ := ev_tmp hu32
    refine st3_call ho hwt (f := 31) (vals := #[.agg #[.int .i64 f, .slice A n c], .int .i64 vw]) (Z := fun v w' => v = .int .i64 m3 ∧ Below w.heap.size w w') ?_ ?_ ?_
    · unfold execOp
      simp only [hop, e31, e32, resolve, invoke, Sem.run_bind, Sem.run_pure, Result.andThen_ok, List.map_toArray, List.map_cons, List.map_nil]
      first | rfl | exact enters_of Try.func31 (by kernel_rfl) rfl _ _
    · exact (rleader_any f A n c ns w (hA.after hbl) vw hvw).mono fun e w' ⟨he, h2⟩ => ⟨_, he, congrArg (Value.int .i64) e3, h2⟩
    · rintro v w' ⟨h1, h2⟩
      exact hK v w' h1 h2
  | 19, _, hs, ho, hop, hds, hdep, hK =>
    have hop : o.op = .binOp .neq 3 (.tmp 30) (.tmp 33) 3 := Option.some.inj hop
    obtain ⟨u30, hu30, hv30⟩ := hdep 15 (by decide)
    have hv30' : u30 = .int .i64 m3 := hv30
    subst hv30'
    have e30 : a.eval (.tmp 30) = _ := ev_tmp hu30
    obtain ⟨u33, hu33, hv33⟩ := hdep 18 (by decide)
    have hv33' : u33 = .int .i64 m3 := hv33
    subst hv33'
    have e33 : a.eval (.tmp 33) = _ := ev_tmp hu33
    refine st3 ho hwt (v := .bool false) (w' := w) ?_ (hK _ w rfl (Below.refl _ _))
    unfold execOp
    simp only [hop, e30, e33]
    first | rfl | (go_simp; done) | (go_simp; simp; done) | (go_simp; intro h; omega)
  | 20, _, hs, ho, hop, hds, hdep, hK =>
    have hop : o.op = .pick (.tmp 27) (.const (.bool true)) (.tmp 34) := Option.some.inj hop
    obtain ⟨u27, hu27, hv27⟩ := hdep 12 (by decide)
    have hv27' : u27 = .bool false := hv27
    subst hv27'
    have e27 : a.eval (.tmp 27) = _ := ev_tmp hu27
    obtain ⟨u34, hu34, hv34⟩ := hdep 19 (by decide)
    have hv34' : u34 = .bool false := hv34
    subst hv34'
    have e34 : a.eval (.tmp 34) = _ := ev_tmp hu34
    refine st3 ho hwt (v := .bool false) (w' := w) ?_ (hK _ w rfl (Below.refl _ _))
    unfold execOp
    simp only [hop, e27, e34]
    first | rfl | (go_simp; done) | (go_simp; simp; done) | (go_simp; intro h; omega)
  | 21, _, hs, ho, hop, hds, hdep, hK =>
    have hop : o.op = .move (.tmp 35) := Option.some.inj hop
    obtain ⟨u35, hu35, hv35⟩ := hdep 20 (by decide)
    have hv35' : u35 = .bool false := hv35
    subst hv35'
    have e35 : a.eval (.tmp 35) = _ := ev_tmp hu35
    refine st3 ho hwt (v := _) (w' := w) ?_ (hK _ w rfl (Below.refl _ _))
    unfold execOp
    rw [hop, ← e35]
    rfl
  | 22, _, hs, ho, hop, hds, hdep, hK =>
    have hop : o.op = .load 24 (.tmp 7) := Option.some.inj hop
    have hu7 : a.tmps[7]? = some (.pointer (some ⟨gi, 0, none⟩)) := (hbase.2.2 7 (by decide)).trans x7
    have e7 : a.eval (.tmp 7) = _ := ev_tmp hu7
    refine st3 ho hwt (v := .agg #[.int .i64 f, .slice A2 n c2]) (w' := w) ?_ (hK _ w rfl (Below.refl _ _))
    have k0 : w.cell? ⟨gi, 0, none⟩ = some (.int .i64 f) := (hBi.below hbl hBi.lt).cell rfl
    have k1 : w.cell? ⟨gi, 1, none⟩ = some (.slice A2 n c2) := (hBi.below hbl hBi.lt).cell rfl
    unfold execOp
    simp only [hop, Option.map_some, Option.map_none, e7]
    first | rfl | (go_simp; done) | (go_simp; simp; done) | (go_simp; intro h; omega)
  | 23, _, hs, ho, hop, hds, hdep, hK =>
    have hop : o.op = .move (.tmp 2) := Option.some.inj hop
    have hu2 : a.tmps[2]? = some (.int .i64 x) := (hbase.2.2 2 (by decide)).trans x2
    have e2 : a.eval (.tmp 2) = _ := ev_tmp hu2
    refine st3 ho hwt (v := _) (w' := w) ?_ (hK _ w rfl (Below.refl _ _))
    unfold execOp
    rw [hop, ← e2]
    rfl
  | 24, _, hs, ho, hop, hds, hdep, hK =>
    have hop : o.op = .call { callee := .value (.func 32), args := #[.tmp 37, .tmp 38], argTypes := #[24, 3] } := Option.some.inj hop
    obtain ⟨u37, hu37, hv37⟩ := hdep 22 (by decide)
    have hv37' : u37 = .agg #[.int .i64 f, .slice A2 n c2] := hv37
    subst hv37'
    have e37 : a.eval (.tmp 37) = _ := ev_tmp hu37
    obtain ⟨u38, hu38, hv38⟩ := hdep 23 (by decide)
    have hv38' : u38 = .int .i64 x := hv38
    subst hv38'
    have e38 : a.eval (.tmp 38) = _ := ev_tmp hu38
    refine st3_call ho hwt (f := 32) (vals := #[.agg #[.int .i64 f, .slice A2 n c2], .int .i64 x]) (Z := fun v w' => v = .bool hb ∧ Below w.heap.size w w') ?_ ?_ ?_
    · unfold execOp
      simp only [hop, e37, e38, resolve, invoke, Sem.run_bind, Sem.run_pure, Result.andThen_ok, List.map_toArray, List.map_cons, List.map_nil]
      first | rfl | exact enters_of Try.func32 (by kernel_rfl) rfl _ _
    · exact (has_any f A2 n c2 ns w (hA2.after hbl) x).mono fun e w' ⟨he, h2⟩ => ⟨_, he, congrArg Value.bool e4, h2⟩
    · rintro v w' ⟨h1, h2⟩
      exact hK v w' h1 h2
  | 25, _, hs, ho, hop, hds, hdep, hK =>
    have hop : o.op = .load 24 (.tmp 3) := Option.some.inj hop
    have hu3 : a.tmps[3]? = some (.pointer (some ⟨gc, 0, none⟩)) := (hbase.2.2 3 (by decide)).trans x3
    have e3 : a.eval (.tmp 3) = _ := ev_tmp hu3
    refine st3 ho hwt (v := .agg #[.int .i64 f, .slice A n c]) (w' := w) ?_ (hK _ w rfl (Below.refl _ _))
    have k0 : w.cell? ⟨gc, 0, none⟩ = some (.int .i64 f) := (hB.below hbl hB.lt).cell rfl
    have k1 : w.cell? ⟨gc, 1, none⟩ = some (.slice A n c) := (hB.below hbl hB.lt).cell rfl
    unfold execOp
    simp only [hop, Option.map_some, Option.map_none, e3]
    first | rfl | (go_simp; done) | (go_simp; simp; done) | (go_simp; intro h; omega)
  | 26, _, hs, ho, hop, hds, hdep, hK =>
    have hop : o.op = .move (.tmp 2) := Option.some.inj hop
    have hu2 : a.tmps[2]? = some (.int .i64 x) := (hbase.2.2 2 (by decide)).trans x2
    have e2 : a.eval (.tmp 2) = _ := ev_tmp hu2
    refine st3 ho hwt (v := _) (w' := w) ?_ (hK _ w rfl (Below.refl _ _))
    unfold execOp
    rw [hop, ← e2]
    rfl
  | 27, _, hs, ho, hop, hds, hdep, hK =>
    have hop : o.op = .call { callee := .value (.func 33), args := #[.tmp 40, .tmp 41], argTypes := #[24, 3] } := Option.some.inj hop
    obtain ⟨u40, hu40, hv40⟩ := hdep 25 (by decide)
    have hv40' : u40 = .agg #[.int .i64 f, .slice A n c] := hv40
    subst hv40'
    have e40 : a.eval (.tmp 40) = _ := ev_tmp hu40
    obtain ⟨u41, hu41, hv41⟩ := hdep 26 (by decide)
    have hv41' : u41 = .int .i64 x := hv41
    subst hv41'
    have e41 : a.eval (.tmp 41) = _ := ev_tmp hu41
    refine st3_call ho hwt (f := 33) (vals := #[.agg #[.int .i64 f, .slice A n c], .int .i64 x]) (Z := fun v w' => v = .bool hb ∧ Below w.heap.size w w') ?_ ?_ ?_
    · unfold execOp
      simp only [hop, e40, e41, resolve, invoke, Sem.run_bind, Sem.run_pure, Result.andThen_ok, List.map_toArray, List.map_cons, List.map_nil]
      first | rfl | exact enters_of Try.func33 (by kernel_rfl) rfl _ _
    · exact (rhas_any f A n c ns w (hA.after hbl) x).mono fun e w' ⟨he, h2⟩ => ⟨_, he, congrArg Value.bool e4, h2⟩
    · rintro v w' ⟨h1, h2⟩
      exact hK v w' h1 h2
  | 28, _, hs, ho, hop, hds, hdep, hK =>
    have hop : o.op = .binOp .neq 4 (.tmp 39) (.tmp 42) 4 := Option.some.inj hop
    obtain ⟨u39, hu39, hv39⟩ := hdep 24 (by decide)
    have hv39' : u39 = .bool hb := hv39
    subst hv39'
    have e39 : a.eval (.tmp 39) = _ := ev_tmp hu39
    obtain ⟨u42, hu42, hv42⟩ := hdep 27 (by decide)
    have hv42' : u42 = .bool hb := hv42
    subst hv42'
    have e42 : a.eval (.tmp 42) = _ := ev_tmp hu42
    refine st3 ho hwt (v := .bool false) (w' := w) ?_ (hK _ w rfl (Below.refl _ _))
    unfold execOp
    simp only [hop, e39, e42]
    first | rfl | (go_simp; done) | (go_simp; simp; done) | (go_simp; intro h; omega)
  | 29, _, hs, ho, hop, hds, hdep, hK =>
    have hop : o.op = .pick (.tmp 36) (.const (.bool true)) (.tmp 43) := Option.some.inj hop
    obtain ⟨u36, hu36, hv36⟩ := hdep 21 (by decide)
    have hv36' : u36 = .bool false := hv36
    subst hv36'
    have e36 : a.eval (.tmp 36) = _ := ev_tmp hu36
    obtain ⟨u43, hu43, hv43⟩ := hdep 28 (by decide)
    have hv43' : u43 = .bool false := hv43
    subst hv43'
    have e43 : a.eval (.tmp 43) = _ := ev_tmp hu43
    refine st3 ho hwt (v := .bool false) (w' := w) ?_ (hK _ w rfl (Below.refl _ _))
    unfold execOp
    simp only [hop, e36, e43]
    first | rfl | (go_simp; done) | (go_simp; simp; done) | (go_simp; intro h; omega)
  | 30, _, hs, ho, hop, hds, hdep, hK =>
    have hop : o.op = .move (.tmp 44) := Option.some.inj hop
    obtain ⟨u44, hu44, hv44⟩ := hdep 29 (by decide)
    have hv44' : u44 = .bool false := hv44
    subst hv44'
    have e44 : a.eval (.tmp 44) = _ := ev_tmp hu44
    refine st3 ho hwt (v := _) (w' := w) ?_ (hK _ w rfl (Below.refl _ _))
    unfold execOp
    rw [hop, ← e44]
    rfl
  | 31, _, hs, ho, hop, hds, hdep, hK =>
    have hop : o.op = .move (.tmp 8) := Option.some.inj hop
    have hu8 : a.tmps[8]? = some (.slice Ao m co) := (hbase.2.2 8 (by decide)).trans x8
    have e8 : a.eval (.tmp 8) = _ := ev_tmp hu8
    refine st3 ho hwt (v := _) (w' := w) ?_ (hK _ w rfl (Below.refl _ _))
    unfold execOp
    rw [hop, ← e8]
    rfl
  | 32, _, hs, ho, hop, hds, hdep, hK =>
    have hop : o.op = .load 24 (.tmp 3) := Option.some.inj hop
    have hu3 : a.tmps[3]? = some (.pointer (some ⟨gc, 0, none⟩)) := (hbase.2.2 3 (by decide)).trans x3
    have e3 : a.eval (.tmp 3) = _ := ev_tmp hu3
    refine st3 ho hwt (v := .agg #[.int .i64 f, .slice A n c]) (w' := w) ?_ (hK _ w rfl (Below.refl _ _))
    have k0 : w.cell? ⟨gc, 0, none⟩ = some (.int .i64 f) := (hB.below hbl hB.lt).cell rfl
    have k1 : w.cell? ⟨gc, 1, none⟩ = some (.slice A n c) := (hB.below hbl hB.lt).cell rfl
    unfold execOp
    simp only [hop, Option.map_some, Option.map_none, e3]
    first | rfl | (go_simp; done) | (go_simp; simp; done) | (go_simp; intro h; omega)
  | 33, _, hs, ho, hop, hds, hdep, hK =>
    have hop : o.op = .move (.tmp 2) := Option.some.inj hop
    have hu2 : a.tmps[2]? = some (.int .i64 x) := (hbase.2.2 2 (by decide)).trans x2
    have e2 : a.eval (.tmp 2) = _ := ev_tmp hu2
    refine st3 ho hwt (v := _) (w' := w) ?_ (hK _ w rfl (Below.refl _ _))
    unfold execOp
    rw [hop, ← e2]
    rfl
  | 34, _, hs, ho, hop, hds, hdep, hK =>
    have hop : o.op = .call { callee := .value (.func 34), args := #[.tmp 47, .tmp 48], argTypes := #[24, 3] } := Option.some.inj hop
    obtain ⟨u47, hu47, hv47⟩ := hdep 32 (by decide)
    have hv47' : u47 = .agg #[.int .i64 f, .slice A n c] := hv47
    subst hv47'
    have e47 : a.eval (.tmp 47) = _ := ev_tmp hu47
    obtain ⟨u48, hu48, hv48⟩ := hdep 33 (by decide)
    have hv48' : u48 = .int .i64 x := hv48
    subst hv48'
    have e48 : a.eval (.tmp 48) = _ := ev_tmp hu48
    refine st3_call ho hwt (f := 34) (vals := #[.agg #[.int .i64 f, .slice A n c], .int .i64 x]) (Z := fun v w' => ListV w' v (othersR f ns x) ∧ Below w.heap.size w w') ?_ ?_ ?_
    · unfold execOp
      simp only [hop, e47, e48, resolve, invoke, Sem.run_bind, Sem.run_pure, Result.andThen_ok, List.map_toArray, List.map_cons, List.map_nil]
      first | rfl | exact enters_of Try.func34 (by kernel_rfl) rfl _ _
    · exact (rothers_any f A n c ns w (hA.after hbl) x).mono fun e w' ⟨v, he, hN⟩ => ⟨v, he, hN.list hwo, hN.2⟩
    · rintro v w' ⟨h1, h2⟩
      exact hK v w' h1 h2
  | 35, _, hs, ho, hop, hds, hdep, hK =>
    have hop : o.op = .call { callee := .value (.func 23), args := #[.tmp 46, .tmp 49], argTypes := #[22, 22] } := Option.some.inj hop
    obtain ⟨u46, hu46, hv46⟩ := hdep 31 (by decide)
    have hv46' : u46 = .slice Ao m co := hv46
    subst hv46'
    have e46 : a.eval (.tmp 46) = _ := ev_tmp hu46
    obtain ⟨u49, hu49, hv49⟩ := hdep 34 (by decide)
    have hv49' : ListV w u49 (othersR f ns x) := hv49
    have e49 : a.eval (.tmp 49) = _ := ev_tmp hu49
    obtain ⟨A9, c9, e9, hA9⟩ := hv49'
    subst e9
    refine st3_call ho hwt (f := 23) (vals := #[.slice Ao m co, .slice A9 (othersR f ns x).length c9]) (Z := fun v w' => v = .bool true ∧ Below w.heap.size w w') ?_ ?_ ?_
    · unfold execOp
      simp only [hop, e46, e49, resolve, invoke, Sem.run_bind, Sem.run_pure, Result.andThen_ok, List.map_toArray, List.map_cons, List.map_nil]
      first | rfl | exact enters_of Try.func23 (by kernel_rfl) rfl _ _
    · exact (eqInts_any Ao A9 m _ co c9 (othersR f ns x) (othersR f ns x) w (hAo.after hbl) hA9).mono fun e w' ⟨he, h2⟩ => ⟨_, he, congrArg Value.bool (by simp), h2⟩
    · rintro v w' ⟨h1, h2⟩
      exact hK v w' h1 h2
  | 36, _, hs, ho, hop, hds, hdep, hK =>
    have hop : o.op = .unOp .not 4 (.tmp 50) := Option.some.inj hop
    obtain ⟨u50, hu50, hv50⟩ := hdep 35 (by decide)
    have hv50' : u50 = .bool true := hv50
    subst hv50'
    have e50 : a.eval (.tmp 50) = _ := ev_tmp hu50
    refine st3 ho hwt (v := .bool false) (w' := w) ?_ (hK _ w rfl (Below.refl _ _))
    unfold execOp
    simp only [hop, e50]
    first | rfl | (go_simp; done) | (go_simp; simp; done) | (go_simp; intro h; omega)
  | 37, _, hs, ho, hop, hds, hdep, hK =>
    have hop : o.op = .pick (.tmp 45) (.const (.bool true)) (.tmp 51) := Option.some.inj hop
    obtain ⟨u45, hu45, hv45⟩ := hdep 30 (by decide)
    have hv45' : u45 = .bool false := hv45
    subst hv45'
    have e45 : a.eval (.tmp 45) = _ := ev_tmp hu45
    obtain ⟨u51, hu51, hv51⟩ := hdep 36 (by decide)
    have hv51' : u51 = .bool false := hv51
    subst hv51'
    have e51 : a.eval (.tmp 51) = _ := ev_tmp hu51
    refine st3 ho hwt (v := .bool false) (w' := w) ?_ (hK _ w rfl (Below.refl _ _))
    unfold execOp
    simp only [hop, e45, e51]
    first | rfl | (go_simp; done) | (go_simp; simp; done) | (go_simp; intro h; omega)
  | i + 38, hi, _, _, _, _, _, _ => exact absurd hi (by omega)
end Go.Proofs.Ytjibbbfpbflgmaa
