/-
  What the regions of CrewMeet do, in whichever order their operations come up. (Written by tools/gen_meet8.py.)
-/
import Derived.Test.YtjibbbfpbflgmaaArgs8
namespace Go.Proofs.Ytjibbbfpbflgmaa
open Go.RowKit Go.Shelf CrewP
set_option linter.unusedVariables false
set_option linter.unusedSimpArgs false

theorem pick_wf {p : Nat → Bool} {f : Int} {ns : List Int} (h : okC f ns = true) {n : Nat} (hn : n ≤ ns.length) : ∀ x ∈ pick p ns n, Wf x := fun x hx => ok_wf h x (pick_mem p ns n hn x hx)
def maR (gc : Nat) (f : Int) (A : Option Addr) (n c : Nat) (ns : List Int) (x y z : Int) : Nat → Value → World → Prop
  | 0 => fun v w => v = .agg #[.int .i64 f, .slice A n c]
  | 1 => fun v w => v = .int .i64 x
  | 2 => fun v w => ListV w v (pick (bitB x) ns n)
  | 3 => fun v w => v = .agg #[.int .i64 f, .slice A n c]
  | 4 => fun v w => v = .int .i64 y
  | 5 => fun v w => ListV w v (pick (bitB y) ns n)
  | 6 => fun v w => v = .agg #[.int .i64 f, .slice A n c]
  | 7 => fun v w => v = .int .i64 x
  | 8 => fun v w => v = .int .i64 y
  | 9 => fun v w => v = .int .i64 z
  | 10 => fun v w => ListV w v (pick (bitB z) ns n)
  | 11 => fun v w => ListV w v (pick (bitB x) ns n)
  | 12 => fun v w => ListV w v (pick (bitB y) ns n)
  | 13 => fun v w => ListV w v (pick (bitB z) ns n)
  | _ => fun _ _ => True
def maD (i : Nat) : Nat := ([15, 16, 17, 18, 19, 20, 21, 22, 23, 24, 25, 8, 9, 10] : List Nat).getD i 0
def maG : Nat → Option Bool
  | _ => none
def maS (i : Nat) : Bool := ([] : List Nat).contains i
theorem ma_gb (gc : Nat) (f : Int) (A : Option Addr) (n c : Nat) (ns : List Int) (x y z : Int) : ∀ i b v w, maG i = some b → maR gc f A n c ns x y z i v w → v = .bool b := by
  intro i b v w h hR
  unfold maG at h
  split at h
  all_goals first | (injection h with h; subst h; exact hR) | cases h
theorem ma_sk (gc : Nat) (f : Int) (A : Option Addr) (n c : Nat) (ns : List Int) (x y z : Int) : ∀ i w, maS i = true → maR gc f A n c ns x y z i undef w := by
  intro i w h
  simp [maS] at h
theorem ma_on (gc : Nat) (f : Int) (A : Option Addr) (n c : Nat) (ns : List Int) (x y z : Int) : ∀ i v w w', maR gc f A n c ns x y z i v w → Below w.heap.size w w' → maR gc f A n c ns x y z i v w'
  | 0, v, w, w', h, _ => h
  | 1, v, w, w', h, _ => h
  | 2, v, w, w', h, hb => ListV.on (show ListV w v (pick (bitB x) ns n) from h) hb
  | 3, v, w, w', h, _ => h
  | 4, v, w, w', h, _ => h
  | 5, v, w, w', h, hb => ListV.on (show ListV w v (pick (bitB y) ns n) from h) hb
  | 6, v, w, w', h, _ => h
  | 7, v, w, w', h, _ => h
  | 8, v, w, w', h, _ => h
  | 9, v, w, w', h, _ => h
  | 10, v, w, w', h, hb => ListV.on (show ListV w v (pick (bitB z) ns n) from h) hb
  | 11, v, w, w', h, hb => ListV.on (show ListV w v (pick (bitB x) ns n) from h) hb
  | 12, v, w, w', h, hb => ListV.on (show ListV w v (pick (bitB y) ns n) from h) hb
  | 13, v, w, w', h, hb => ListV.on (show ListV w v (pick (bitB z) ns n) from h) hb
  | i + 14, v, w, w', h, hb => trivial
def maOps : List Op := [.load 24 (.tmp 7),
  .move (.tmp 1),
  .call { callee := .value (.func 42), args := #[.tmp 15, .tmp 16], argTypes := #[24, 3] },
  .load 24 (.tmp 7),
  .move (.tmp 2),
  .call { callee := .value (.func 42), args := #[.tmp 18, .tmp 19], argTypes := #[24, 3] },
  .load 24 (.tmp 7),
  .move (.tmp 1),
  .move (.tmp 2),
  .binOp .and 3 (.tmp 22) (.tmp 23) 3,
  .call { callee := .value (.func 42), args := #[.tmp 21, .tmp 24], argTypes := #[24, 3] },
  .assign (.tmp 17),
  .assign (.tmp 20),
  .assign (.tmp 25)]
def maNeeds : Nat → List Nat
  | 0 => []
  | 1 => []
  | 2 => [0, 1]
  | 3 => []
  | 4 => []
  | 5 => [3, 4]
  | 6 => []
  | 7 => []
  | 8 => []
  | 9 => [7, 8]
  | 10 => [6, 9]
  | 11 => [2]
  | 12 => [5]
  | 13 => [10]
  | _ => []
set_option maxRecDepth 100000 in
set_option maxHeartbeats 3200000 in
theorem ma_step {ops : Array Oper} {Q : Exit → Act → World → Prop} {a0 : Act} {w0 : World} (gc : Nat) (f : Int) (A : Option Addr) (n c : Nat) (ns : List Int) (x y z : Int) (hops : ((List.range 14).map fun i => (ops[i]?).map Oper.op) = maOps.map some)
    (hnd : ((List.range 14).all fun i => (maNeeds i).all fun j => ((ops[i]?).map fun o => o.after.any fun e => Region.binds .any e && (e.on == j)).getD false) = true)
    (x7 : a0.tmps[7]? = some (.pointer (some ⟨gc, 0, none⟩))) (x1 : a0.tmps[1]? = some (.int .i64 x)) (x2 : a0.tmps[2]? = some (.int .i64 y))
    (hB : Blk w0 gc 24 [.int .i64 f, .slice A n c]) (hA : ArgI w0 A n c ns) (hok : okC f ns = true) (hn : n ≤ 7) (hx : Wf x) (hy : Wf y) (hz : Wf z) (hxy : bits .and .i64 x y = z) :
    ∀ i o, i < 14 → maS i = false → ops[i]? = some o → o.dst = some (maD i) → ∀ a w, Base maD 14 a0 a → Below w0.heap.size w0 w → Region.wanted o (yielded ops a.tmps) = true →
      (∀ j, (o.after.any fun e => Region.binds .any e && (e.on == j)) = true → Has maD (maR gc f A n c ns x y z) j a w) →
      ∀ K : Act → World → Prop, (∀ v w', maR gc f A n c ns x y z i v w' → Below w.heap.size w w' → K (a.put o.dst v) w') → wpOp Try.prog ops Q i K a w := by
  intro i o hi hs ho hds a w hbase hbl hwt hdep0 K hK
  have hop : some o.op = maOps[i]? := by
    have h1 : ((List.range 14).map fun i => (ops[i]?).map Oper.op)[i]? = some (some o.op) := by
      rw [List.getElem?_map, List.getElem?_range hi]; simp only [Option.map_some, ho]
    rw [hops, List.getElem?_map] at h1
    cases h2 : maOps[i]? with
    | none => rw [h2] at h1; cases h1
    | some y => rw [h2] at h1; simp only [Option.map_some, Option.some.injEq] at h1; rw [h1]
  have hdep : ∀ j, j ∈ maNeeds i → Has maD (maR gc f A n c ns x y z) j a w := fun j hj => by
    have h1 := List.all_eq_true.1 (List.all_eq_true.1 hnd i (List.mem_range.2 hi)) j hj
    rw [ho] at h1
    exact hdep0 j h1
  clear hdep0 hops hnd
  match i, hi, hs, ho, hop, hds, hdep, hK with
  | 0, _, hs, ho, hop, hds, hdep, hK =>
    have hop : o.op = .load 24 (.tmp 7) := Option.some.inj hop
    have hu7 : a.tmps[7]? = some (.pointer (some ⟨gc, 0, none⟩)) := (hbase.2.2 7 (by decide)).trans x7
    have e7 : a.eval (.tmp 7) = _ := ev_tmp hu7
    refine st3 ho hwt (v := .agg #[.int .i64 f, .slice A n c]) (w' := w) ?_ (hK _ w rfl (Below.refl _ _))
    have k0 : w.cell? ⟨gc, 0, none⟩ = some (.int .i64 f) := (hB.below hbl hB.lt).cell rfl
    have k1 : w.cell? ⟨gc, 1, none⟩ = some (.slice A n c) := (hB.below hbl hB.lt).cell rfl
    unfold execOp
    simp only [hop, e7]
    first | rfl | go_simp | (go_simp; simp)
  | 1, _, hs, ho, hop, hds, hdep, hK =>
    have hop : o.op = .move (.tmp 1) := Option.some.inj hop
    have hu1 : a.tmps[1]? = some (.int .i64 x) := (hbase.2.2 1 (by decide)).trans x1
    have e1 : a.eval (.tmp 1) = _ := ev_tmp hu1
    refine st3 ho hwt (v := _) (w' := w) ?_ (hK _ w rfl (Below.refl _ _))
    unfold execOp
    rw [hop, ← e1]
    rfl
  | 2, _, hs, ho, hop, hds, hdep, hK =>
    have hop : o.op = .call { callee := .value (.func 42), args := #[.tmp 15, .tmp 16], argTypes := #[24, 3] } := Option.some.inj hop
    obtain ⟨u15, hu15, hv15⟩ := hdep 0 (by decide)
    have hv15' : u15 = .agg #[.int .i64 f, .slice A n c] := hv15
    subst hv15'
    have e15 : a.eval (.tmp 15) = _ := ev_tmp hu15
    obtain ⟨u16, hu16, hv16⟩ := hdep 1 (by decide)
    have hv16' : u16 = .int .i64 x := hv16
    subst hv16'
    have e16 : a.eval (.tmp 16) = _ := ev_tmp hu16
    refine st3_call ho hwt (f := 42) (vals := #[.agg #[.int .i64 f, .slice A n c], .int .i64 x]) (Z := fun v w' => ListV w' v (pick (bitB x) ns n) ∧ Below w.heap.size w w') ?_ ?_ ?_
    · unfold execOp
      simp only [hop, e15, e16, resolve, invoke, Sem.run_bind, Sem.run_pure, Result.andThen_ok, List.map_toArray, List.map_cons, List.map_nil]
      first | rfl | exact enters_of Try.func42 (by kernel_rfl) rfl _ _
    · exact (of_any f A n c ns w (hA.after hbl) hn x hx).mono fun e w' ⟨v, he, hN⟩ => ⟨v, he, hN.list (pick_wf hok (by have := hA.1; omega)), hN.2⟩
    · rintro v w' ⟨h1, h2⟩
      exact hK v w' h1 h2
  | 3, _, hs, ho, hop, hds, hdep, hK =>
    have hop : o.op = .load 24 (.tmp 7) := Option.some.inj hop
    have hu7 : a.tmps[7]? = some (.pointer (some ⟨gc, 0, none⟩)) := (hbase.2.2 7 (by decide)).trans x7
    have e7 : a.eval (.tmp 7) = _ := ev_tmp hu7
    refine st3 ho hwt (v := .agg #[.int .i64 f, .slice A n c]) (w' := w) ?_ (hK _ w rfl (Below.refl _ _))
    have k0 : w.cell? ⟨gc, 0, none⟩ = some (.int .i64 f) := (hB.below hbl hB.lt).cell rfl
    have k1 : w.cell? ⟨gc, 1, none⟩ = some (.slice A n c) := (hB.below hbl hB.lt).cell rfl
    unfold execOp
    simp only [hop, e7]
    first | rfl | go_simp | (go_simp; simp)
  | 4, _, hs, ho, hop, hds, hdep, hK =>
    have hop : o.op = .move (.tmp 2) := Option.some.inj hop
    have hu2 : a.tmps[2]? = some (.int .i64 y) := (hbase.2.2 2 (by decide)).trans x2
    have e2 : a.eval (.tmp 2) = _ := ev_tmp hu2
    refine st3 ho hwt (v := _) (w' := w) ?_ (hK _ w rfl (Below.refl _ _))
    unfold execOp
    rw [hop, ← e2]
    rfl
  | 5, _, hs, ho, hop, hds, hdep, hK =>
    have hop : o.op = .call { callee := .value (.func 42), args := #[.tmp 18, .tmp 19], argTypes := #[24, 3] } := Option.some.inj hop
    obtain ⟨u18, hu18, hv18⟩ := hdep 3 (by decide)
    have hv18' : u18 = .agg #[.int .i64 f, .slice A n c] := hv18
    subst hv18'
    have e18 : a.eval (.tmp 18) = _ := ev_tmp hu18
    obtain ⟨u19, hu19, hv19⟩ := hdep 4 (by decide)
    have hv19' : u19 = .int .i64 y := hv19
    subst hv19'
    have e19 : a.eval (.tmp 19) = _ := ev_tmp hu19
    refine st3_call ho hwt (f := 42) (vals := #[.agg #[.int .i64 f, .slice A n c], .int .i64 y]) (Z := fun v w' => ListV w' v (pick (bitB y) ns n) ∧ Below w.heap.size w w') ?_ ?_ ?_
    · unfold execOp
      simp only [hop, e18, e19, resolve, invoke, Sem.run_bind, Sem.run_pure, Result.andThen_ok, List.map_toArray, List.map_cons, List.map_nil]
      first | rfl | exact enters_of Try.func42 (by kernel_rfl) rfl _ _
    · exact (of_any f A n c ns w (hA.after hbl) hn y hy).mono fun e w' ⟨v, he, hN⟩ => ⟨v, he, hN.list (pick_wf hok (by have := hA.1; omega)), hN.2⟩
    · rintro v w' ⟨h1, h2⟩
      exact hK v w' h1 h2
  | 6, _, hs, ho, hop, hds, hdep, hK =>
    have hop : o.op = .load 24 (.tmp 7) := Option.some.inj hop
    have hu7 : a.tmps[7]? = some (.pointer (some ⟨gc, 0, none⟩)) := (hbase.2.2 7 (by decide)).trans x7
    have e7 : a.eval (.tmp 7) = _ := ev_tmp hu7
    refine st3 ho hwt (v := .agg #[.int .i64 f, .slice A n c]) (w' := w) ?_ (hK _ w rfl (Below.refl _ _))
    have k0 : w.cell? ⟨gc, 0, none⟩ = some (.int .i64 f) := (hB.below hbl hB.lt).cell rfl
    have k1 : w.cell? ⟨gc, 1, none⟩ = some (.slice A n c) := (hB.below hbl hB.lt).cell rfl
    unfold execOp
    simp only [hop, e7]
    first | rfl | go_simp | (go_simp; simp)
  | 7, _, hs, ho, hop, hds, hdep, hK =>
    have hop : o.op = .move (.tmp 1) := Option.some.inj hop
    have hu1 : a.tmps[1]? = some (.int .i64 x) := (hbase.2.2 1 (by decide)).trans x1
    have e1 : a.eval (.tmp 1) = _ := ev_tmp hu1
    refine st3 ho hwt (v := _) (w' := w) ?_ (hK _ w rfl (Below.refl _ _))
    unfold execOp
    rw [hop, ← e1]
    rfl
  | 8, _, hs, ho, hop, hds, hdep, hK =>
    have hop : o.op = .move (.tmp 2) := Option.some.inj hop
    have hu2 : a.tmps[2]? = some (.int .i64 y) := (hbase.2.2 2 (by decide)).trans x2
    have e2 : a.eval (.tmp 2) = _ := ev_tmp hu2
    refine st3 ho hwt (v := _) (w' := w) ?_ (hK _ w rfl (Below.refl _ _))
    unfold execOp
    rw [hop, ← e2]
    rfl
  | 9, _, hs, ho, hop, hds, hdep, hK =>
    have hop : o.op = .binOp .and 3 (.tmp 22) (.tmp 23) 3 := Option.some.inj hop
    obtain ⟨u22, hu22, hv22⟩ := hdep 7 (by decide)
    have hv22' : u22 = .int .i64 x := hv22
    subst hv22'
    have e22 : a.eval (.tmp 22) = _ := ev_tmp hu22
    obtain ⟨u23, hu23, hv23⟩ := hdep 8 (by decide)
    have hv23' : u23 = .int .i64 y := hv23
    subst hv23'
    have e23 : a.eval (.tmp 23) = _ := ev_tmp hu23
    refine st3 ho hwt (v := .int .i64 z) (w' := w) ?_ (hK _ w rfl (Below.refl _ _))
    unfold execOp
    simp only [hop, e22, e23]
    first | rfl | go_simp | (go_simp; simp)
  | 10, _, hs, ho, hop, hds, hdep, hK =>
    have hop : o.op = .call { callee := .value (.func 42), args := #[.tmp 21, .tmp 24], argTypes := #[24, 3] } := Option.some.inj hop
    obtain ⟨u21, hu21, hv21⟩ := hdep 6 (by decide)
    have hv21' : u21 = .agg #[.int .i64 f, .slice A n c] := hv21
    subst hv21'
    have e21 : a.eval (.tmp 21) = _ := ev_tmp hu21
    obtain ⟨u24, hu24, hv24⟩ := hdep 9 (by decide)
    have hv24' : u24 = .int .i64 z := hv24
    subst hv24'
    have e24 : a.eval (.tmp 24) = _ := ev_tmp hu24
    refine st3_call ho hwt (f := 42) (vals := #[.agg #[.int .i64 f, .slice A n c], .int .i64 z]) (Z := fun v w' => ListV w' v (pick (bitB z) ns n) ∧ Below w.heap.size w w') ?_ ?_ ?_
    · unfold execOp
      simp only [hop, e21, e24, resolve, invoke, Sem.run_bind, Sem.run_pure, Result.andThen_ok, List.map_toArray, List.map_cons, List.map_nil]
      first | rfl | exact enters_of Try.func42 (by kernel_rfl) rfl _ _
    · exact (of_any f A n c ns w (hA.after hbl) hn z hz).mono fun e w' ⟨v, he, hN⟩ => ⟨v, he, hN.list (pick_wf hok (by have := hA.1; omega)), hN.2⟩
    · rintro v w' ⟨h1, h2⟩
      exact hK v w' h1 h2
  | 11, _, hs, ho, hop, hds, hdep, hK =>
    have hop : o.op = .assign (.tmp 17) := Option.some.inj hop
    obtain ⟨u17, hu17, hv17⟩ := hdep 2 (by decide)
    have hv17' : ListV w u17 (pick (bitB x) ns n) := hv17
    have e17 : a.eval (.tmp 17) = _ := ev_tmp hu17
    refine st3 ho hwt (v := _) (w' := w) ?_ (hK _ w hv17 (Below.refl _ _))
    unfold execOp
    rw [hop, ← e17]
    rfl
  | 12, _, hs, ho, hop, hds, hdep, hK =>
    have hop : o.op = .assign (.tmp 20) := Option.some.inj hop
    obtain ⟨u20, hu20, hv20⟩ := hdep 5 (by decide)
    have hv20' : ListV w u20 (pick (bitB y) ns n) := hv20
    have e20 : a.eval (.tmp 20) = _ := ev_tmp hu20
    refine st3 ho hwt (v := _) (w' := w) ?_ (hK _ w hv20 (Below.refl _ _))
    unfold execOp
    rw [hop, ← e20]
    rfl
  | 13, _, hs, ho, hop, hds, hdep, hK =>
    have hop : o.op = .assign (.tmp 25) := Option.some.inj hop
    obtain ⟨u25, hu25, hv25⟩ := hdep 10 (by decide)
    have hv25' : ListV w u25 (pick (bitB z) ns n) := hv25
    have e25 : a.eval (.tmp 25) = _ := ev_tmp hu25
    refine st3 ho hwt (v := _) (w' := w) ?_ (hK _ w hv25 (Below.refl _ _))
    unfold execOp
    rw [hop, ← e25]
    rfl
  | i + 14, hi, _, _, _, _, _, _ => exact absurd hi (by omega)
def mbR (gc : Nat) (f : Int) (A : Option Addr) (n c : Nat) (ns : List Int) (A8 A9 : Option Addr) (n8 c8 n9 c9 : Nat) (m p q : Nat) : Nat → Value → World → Prop
  | 0 => fun v w => v = .agg #[.int .i64 f, .slice A n c]
  | 1 => fun v w => v = .slice A8 n8 c8
  | 2 => fun v w => v = .int .i64 p
  | 3 => fun v w => v = .agg #[.int .i64 f, .slice A n c]
  | 4 => fun v w => v = .int .i64 m
  | 5 => fun v w => v = .bool true
  | 6 => fun v w => v = .bool true
  | 7 => fun v w => v = undef
  | 8 => fun v w => v = undef
  | 9 => fun v w => v = undef
  | 10 => fun v w => v = undef
  | 11 => fun v w => v = undef
  | 12 => fun v w => v = undef
  | 13 => fun v w => v = (.bool true)
  | _ => fun _ _ => True
def mbD (i : Nat) : Nat := ([26, 27, 28, 29, 30, 31, 32, 33, 34, 35, 36, 37, 38, 39] : List Nat).getD i 0
def mbG : Nat → Option Bool
  | 6 => some true
  | _ => none
def mbS (i : Nat) : Bool := ([7, 8, 9, 10, 11, 12] : List Nat).contains i
theorem mb_gb (gc : Nat) (f : Int) (A : Option Addr) (n c : Nat) (ns : List Int) (A8 A9 : Option Addr) (n8 c8 n9 c9 : Nat) (m p q : Nat) : ∀ i b v w, mbG i = some b → mbR gc f A n c ns A8 A9 n8 c8 n9 c9 m p q i v w → v = .bool b := by
  intro i b v w h hR
  unfold mbG at h
  split at h
  all_goals first | (injection h with h; subst h; exact hR) | cases h
theorem mb_sk (gc : Nat) (f : Int) (A : Option Addr) (n c : Nat) (ns : List Int) (A8 A9 : Option Addr) (n8 c8 n9 c9 : Nat) (m p q : Nat) : ∀ i w, mbS i = true → mbR gc f A n c ns A8 A9 n8 c8 n9 c9 m p q i undef w := by
  intro i w h
  have hm : i ∈ ([7, 8, 9, 10, 11, 12] : List Nat) := by simpa [mbS] using h
  simp only [List.mem_cons, List.not_mem_nil, or_false] at hm
  rcases hm with rfl | rfl | rfl | rfl | rfl | rfl
  all_goals rfl
theorem mb_on (gc : Nat) (f : Int) (A : Option Addr) (n c : Nat) (ns : List Int) (A8 A9 : Option Addr) (n8 c8 n9 c9 : Nat) (m p q : Nat) : ∀ i v w w', mbR gc f A n c ns A8 A9 n8 c8 n9 c9 m p q i v w → Below w.heap.size w w' → mbR gc f A n c ns A8 A9 n8 c8 n9 c9 m p q i v w'
  | 0, v, w, w', h, _ => h
  | 1, v, w, w', h, _ => h
  | 2, v, w, w', h, _ => h
  | 3, v, w, w', h, _ => h
  | 4, v, w, w', h, _ => h
  | 5, v, w, w', h, _ => h
  | 6, v, w, w', h, _ => h
  | 7, v, w, w', h, _ => h
  | 8, v, w, w', h, _ => h
  | 9, v, w, w', h, _ => h
  | 10, v, w, w', h, _ => h
  | 11, v, w, w', h, _ => h
  | 12, v, w, w', h, _ => h
  | 13, v, w, w', h, _ => h
  | i + 14, v, w, w', h, hb => trivial
def mbOps : List Op := [.load 24 (.tmp 7),
  .move (.tmp 8),
  .call { callee := .value (.func 39), args := #[.tmp 26, .tmp 27], argTypes := #[24, 22] },
  .load 24 (.tmp 7),
  .call { callee := .value (.func 26), args := #[.tmp 29], argTypes := #[24] },
  .binOp .lss 3 (.tmp 28) (.tmp 30) 3,
  .move (.tmp 31),
  .load 24 (.tmp 7),
  .move (.tmp 9),
  .call { callee := .value (.func 39), args := #[.tmp 33, .tmp 34], argTypes := #[24, 22] },
  .load 24 (.tmp 7),
  .call { callee := .value (.func 26), args := #[.tmp 36], argTypes := #[24] },
  .binOp .lss 3 (.tmp 35) (.tmp 37) 3,
  .pick (.tmp 32) (.const (.bool true)) (.tmp 38)]
def mbNeeds : Nat → List Nat
  | 0 => []
  | 1 => []
  | 2 => [0, 1]
  | 3 => []
  | 4 => [3]
  | 5 => [2, 4]
  | 6 => [5]
  | 7 => []
  | 8 => []
  | 9 => []
  | 10 => []
  | 11 => []
  | 12 => []
  | 13 => [6, 12]
  | _ => []
set_option maxRecDepth 100000 in
set_option maxHeartbeats 3200000 in
theorem mb_step {ops : Array Oper} {Q : Exit → Act → World → Prop} {a0 : Act} {w0 : World} (gc : Nat) (f : Int) (A : Option Addr) (n c : Nat) (ns : List Int) (A8 A9 : Option Addr) (n8 c8 n9 c9 : Nat) (m p q : Nat) (hops : ((List.range 14).map fun i => (ops[i]?).map Oper.op) = mbOps.map some)
    (hnd : ((List.range 14).all fun i => (mbNeeds i).all fun j => ((ops[i]?).map fun o => o.after.any fun e => Region.binds .any e && (e.on == j)).getD false) = true)
    (x7 : a0.tmps[7]? = some (.pointer (some ⟨gc, 0, none⟩))) (x8 : a0.tmps[8]? = some (.slice A8 n8 c8)) (x9 : a0.tmps[9]? = some (.slice A9 n9 c9)) (l8 l9 : List Int)
    (hB : Blk w0 gc 24 [.int .i64 f, .slice A n c]) (hA : ArgI w0 A n c ns) (hok : okC f ns = true) (hn : n ≤ 7) (h8 : ArgI w0 A8 n8 c8 l8) (h9 : ArgI w0 A9 n9 c9 l9) (hm : mostR f ns = m) (hp : ((votesR f ns l8 : Nat) : Int) = p) (hq : ((votesR f ns l9 : Nat) : Int) = q) (z1 : (p : Int) < m) :
    ∀ i o, i < 14 → mbS i = false → ops[i]? = some o → o.dst = some (mbD i) → ∀ a w, Base mbD 14 a0 a → Below w0.heap.size w0 w → Region.wanted o (yielded ops a.tmps) = true →
      (∀ j, (o.after.any fun e => Region.binds .any e && (e.on == j)) = true → Has mbD (mbR gc f A n c ns A8 A9 n8 c8 n9 c9 m p q) j a w) →
      ∀ K : Act → World → Prop, (∀ v w', mbR gc f A n c ns A8 A9 n8 c8 n9 c9 m p q i v w' → Below w.heap.size w w' → K (a.put o.dst v) w') → wpOp Try.prog ops Q i K a w := by
  intro i o hi hs ho hds a w hbase hbl hwt hdep0 K hK
  have hop : some o.op = mbOps[i]? := by
    have h1 : ((List.range 14).map fun i => (ops[i]?).map Oper.op)[i]? = some (some o.op) := by
      rw [List.getElem?_map, List.getElem?_range hi]; simp only [Option.map_some, ho]
    rw [hops, List.getElem?_map] at h1
    cases h2 : mbOps[i]? with
    | none => rw [h2] at h1; cases h1
    | some y => rw [h2] at h1; simp only [Option.map_some, Option.some.injEq] at h1; rw [h1]
  have hdep : ∀ j, j ∈ mbNeeds i → Has mbD (mbR gc f A n c ns A8 A9 n8 c8 n9 c9 m p q) j a w := fun j hj => by
    have h1 := List.all_eq_true.1 (List.all_eq_true.1 hnd i (List.mem_range.2 hi)) j hj
    rw [ho] at h1
    exact hdep0 j h1
  clear hdep0 hops hnd
  match i, hi, hs, ho, hop, hds, hdep, hK with
  | 0, _, hs, ho, hop, hds, hdep, hK =>
    have hop : o.op = .load 24 (.tmp 7) := Option.some.inj hop
    have hu7 : a.tmps[7]? = some (.pointer (some ⟨gc, 0, none⟩)) := (hbase.2.2 7 (by decide)).trans x7
    have e7 : a.eval (.tmp 7) = _ := ev_tmp hu7
    refine st3 ho hwt (v := .agg #[.int .i64 f, .slice A n c]) (w' := w) ?_ (hK _ w rfl (Below.refl _ _))
    have k0 : w.cell? ⟨gc, 0, none⟩ = some (.int .i64 f) := (hB.below hbl hB.lt).cell rfl
    have k1 : w.cell? ⟨gc, 1, none⟩ = some (.slice A n c) := (hB.below hbl hB.lt).cell rfl
    unfold execOp
    simp only [hop, e7]
    first | rfl | go_simp | (go_simp; simp)
  | 1, _, hs, ho, hop, hds, hdep, hK =>
    have hop : o.op = .move (.tmp 8) := Option.some.inj hop
    have hu8 : a.tmps[8]? = some (.slice A8 n8 c8) := (hbase.2.2 8 (by decide)).trans x8
    have e8 : a.eval (.tmp 8) = _ := ev_tmp hu8
    refine st3 ho hwt (v := _) (w' := w) ?_ (hK _ w rfl (Below.refl _ _))
    unfold execOp
    rw [hop, ← e8]
    rfl
  | 2, _, hs, ho, hop, hds, hdep, hK =>
    have hop : o.op = .call { callee := .value (.func 39), args := #[.tmp 26, .tmp 27], argTypes := #[24, 22] } := Option.some.inj hop
    obtain ⟨u26, hu26, hv26⟩ := hdep 0 (by decide)
    have hv26' : u26 = .agg #[.int .i64 f, .slice A n c] := hv26
    subst hv26'
    have e26 : a.eval (.tmp 26) = _ := ev_tmp hu26
    obtain ⟨u27, hu27, hv27⟩ := hdep 1 (by decide)
    have hv27' : u27 = .slice A8 n8 c8 := hv27
    subst hv27'
    have e27 : a.eval (.tmp 27) = _ := ev_tmp hu27
    refine st3_call ho hwt (f := 39) (vals := #[.agg #[.int .i64 f, .slice A n c], .slice A8 n8 c8]) (Z := fun v w' => v = .int .i64 p ∧ Below w.heap.size w w') ?_ ?_ ?_
    · unfold execOp
      simp only [hop, e26, e27, resolve, invoke, Sem.run_bind, Sem.run_pure, Result.andThen_ok, List.map_toArray, List.map_cons, List.map_nil]
      first | rfl | exact enters_of Try.func39 (by kernel_rfl) rfl _ _
    · exact (votes_any f A n c ns w (hA.after hbl) A8 n8 c8 _ (h8.after hbl)).mono fun e w' ⟨he, h2⟩ => ⟨_, he, congrArg (Value.int .i64) hp, h2⟩
    · rintro v w' ⟨h1, h2⟩
      exact hK v w' h1 h2
  | 3, _, hs, ho, hop, hds, hdep, hK =>
    have hop : o.op = .load 24 (.tmp 7) := Option.some.inj hop
    have hu7 : a.tmps[7]? = some (.pointer (some ⟨gc, 0, none⟩)) := (hbase.2.2 7 (by decide)).trans x7
    have e7 : a.eval (.tmp 7) = _ := ev_tmp hu7
    refine st3 ho hwt (v := .agg #[.int .i64 f, .slice A n c]) (w' := w) ?_ (hK _ w rfl (Below.refl _ _))
    have k0 : w.cell? ⟨gc, 0, none⟩ = some (.int .i64 f) := (hB.below hbl hB.lt).cell rfl
    have k1 : w.cell? ⟨gc, 1, none⟩ = some (.slice A n c) := (hB.below hbl hB.lt).cell rfl
    unfold execOp
    simp only [hop, e7]
    first | rfl | go_simp | (go_simp; simp)
  | 4, _, hs, ho, hop, hds, hdep, hK =>
    have hop : o.op = .call { callee := .value (.func 26), args := #[.tmp 29], argTypes := #[24] } := Option.some.inj hop
    obtain ⟨u29, hu29, hv29⟩ := hdep 3 (by decide)
    have hv29' : u29 = .agg #[.int .i64 f, .slice A n c] := hv29
    subst hv29'
    have e29 : a.eval (.tmp 29) = _ := ev_tmp hu29
    refine st3_call ho hwt (f := 26) (vals := #[.agg #[.int .i64 f, .slice A n c]]) (Z := fun v w' => v = .int .i64 m ∧ Below w.heap.size w w') ?_ ?_ ?_
    · unfold execOp
      simp only [hop, e29, resolve, invoke, Sem.run_bind, Sem.run_pure, Result.andThen_ok, List.map_toArray, List.map_cons, List.map_nil]
      first | rfl | exact enters_of Try.func26 (by kernel_rfl) rfl _ _
    · exact (most_any f A n c ns w (hA.after hbl)).mono fun e w' ⟨he, h2⟩ => ⟨_, he, congrArg (Value.int .i64) hm, h2⟩
    · rintro v w' ⟨h1, h2⟩
      exact hK v w' h1 h2
  | 5, _, hs, ho, hop, hds, hdep, hK =>
    have hop : o.op = .binOp .lss 3 (.tmp 28) (.tmp 30) 3 := Option.some.inj hop
    obtain ⟨u28, hu28, hv28⟩ := hdep 2 (by decide)
    have hv28' : u28 = .int .i64 p := hv28
    subst hv28'
    have e28 : a.eval (.tmp 28) = _ := ev_tmp hu28
    obtain ⟨u30, hu30, hv30⟩ := hdep 4 (by decide)
    have hv30' : u30 = .int .i64 m := hv30
    subst hv30'
    have e30 : a.eval (.tmp 30) = _ := ev_tmp hu30
    refine st3 ho hwt (v := .bool true) (w' := w) ?_ (hK _ w rfl (Below.refl _ _))
    unfold execOp
    simp only [hop, e28, e30]
    first | rfl | go_simp | (go_simp; simp)
  | 6, _, hs, ho, hop, hds, hdep, hK =>
    have hop : o.op = .move (.tmp 31) := Option.some.inj hop
    obtain ⟨u31, hu31, hv31⟩ := hdep 5 (by decide)
    have hv31' : u31 = .bool true := hv31
    subst hv31'
    have e31 : a.eval (.tmp 31) = _ := ev_tmp hu31
    refine st3 ho hwt (v := _) (w' := w) ?_ (hK _ w rfl (Below.refl _ _))
    unfold execOp
    rw [hop, ← e31]
    rfl
  | 7, _, hs, ho, hop, hds, hdep, hK =>
    exact absurd hs (by decide)
  | 8, _, hs, ho, hop, hds, hdep, hK =>
    exact absurd hs (by decide)
  | 9, _, hs, ho, hop, hds, hdep, hK =>
    exact absurd hs (by decide)
  | 10, _, hs, ho, hop, hds, hdep, hK =>
    exact absurd hs (by decide)
  | 11, _, hs, ho, hop, hds, hdep, hK =>
    exact absurd hs (by decide)
  | 12, _, hs, ho, hop, hds, hdep, hK =>
    exact absurd hs (by decide)
  | 13, _, hs, ho, hop, hds, hdep, hK =>
    have hop : o.op = .pick (.tmp 32) (.const (.bool true)) (.tmp 38) := Option.some.inj hop
    obtain ⟨u32, hu32, hv32⟩ := hdep 6 (by decide)
    have hv32' : u32 = .bool true := hv32
    subst hv32'
    have e32 : a.eval (.tmp 32) = _ := ev_tmp hu32
    obtain ⟨u38, hu38, hv38⟩ := hdep 12 (by decide)
    have hv38' : u38 = undef := hv38
    subst hv38'
    have e38 : a.eval (.tmp 38) = _ := ev_tmp hu38
    refine st3 ho hwt (v := (.bool true)) (w' := w) ?_ (hK _ w rfl (Below.refl _ _))
    unfold execOp
    simp only [hop, e32, e38]
    first | rfl | go_simp | (go_simp; simp)
  | i + 14, hi, _, _, _, _, _, _ => exact absurd hi (by omega)
def mcR (gc : Nat) (f : Int) (A : Option Addr) (n c : Nat) (ns : List Int) (A8 A9 : Option Addr) (n8 c8 n9 c9 : Nat) (m p q : Nat) : Nat → Value → World → Prop
  | 0 => fun v w => v = .agg #[.int .i64 f, .slice A n c]
  | 1 => fun v w => v = .slice A8 n8 c8
  | 2 => fun v w => v = .int .i64 p
  | 3 => fun v w => v = .agg #[.int .i64 f, .slice A n c]
  | 4 => fun v w => v = .int .i64 m
  | 5 => fun v w => v = .bool false
  | 6 => fun v w => v = .bool false
  | 7 => fun v w => v = .agg #[.int .i64 f, .slice A n c]
  | 8 => fun v w => v = .slice A9 n9 c9
  | 9 => fun v w => v = .int .i64 q
  | 10 => fun v w => v = .agg #[.int .i64 f, .slice A n c]
  | 11 => fun v w => v = .int .i64 m
  | 12 => fun v w => v = .bool true
  | 13 => fun v w => v = .bool true
  | _ => fun _ _ => True
def mcD (i : Nat) : Nat := ([26, 27, 28, 29, 30, 31, 32, 33, 34, 35, 36, 37, 38, 39] : List Nat).getD i 0
def mcG : Nat → Option Bool
  | 6 => some false
  | _ => none
def mcS (i : Nat) : Bool := ([] : List Nat).contains i
theorem mc_gb (gc : Nat) (f : Int) (A : Option Addr) (n c : Nat) (ns : List Int) (A8 A9 : Option Addr) (n8 c8 n9 c9 : Nat) (m p q : Nat) : ∀ i b v w, mcG i = some b → mcR gc f A n c ns A8 A9 n8 c8 n9 c9 m p q i v w → v = .bool b := by
  intro i b v w h hR
  unfold mcG at h
  split at h
  all_goals first | (injection h with h; subst h; exact hR) | cases h
theorem mc_sk (gc : Nat) (f : Int) (A : Option Addr) (n c : Nat) (ns : List Int) (A8 A9 : Option Addr) (n8 c8 n9 c9 : Nat) (m p q : Nat) : ∀ i w, mcS i = true → mcR gc f A n c ns A8 A9 n8 c8 n9 c9 m p q i undef w := by
  intro i w h
  simp [mcS] at h
theorem mc_on (gc : Nat) (f : Int) (A : Option Addr) (n c : Nat) (ns : List Int) (A8 A9 : Option Addr) (n8 c8 n9 c9 : Nat) (m p q : Nat) : ∀ i v w w', mcR gc f A n c ns A8 A9 n8 c8 n9 c9 m p q i v w → Below w.heap.size w w' → mcR gc f A n c ns A8 A9 n8 c8 n9 c9 m p q i v w'
  | 0, v, w, w', h, _ => h
  | 1, v, w, w', h, _ => h
  | 2, v, w, w', h, _ => h
  | 3, v, w, w', h, _ => h
  | 4, v, w, w', h, _ => h
  | 5, v, w, w', h, _ => h
  | 6, v, w, w', h, _ => h
  | 7, v, w, w', h, _ => h
  | 8, v, w, w', h, _ => h
  | 9, v, w, w', h, _ => h
  | 10, v, w, w', h, _ => h
  | 11, v, w, w', h, _ => h
  | 12, v, w, w', h, _ => h
  | 13, v, w, w', h, _ => h
  | i + 14, v, w, w', h, hb => trivial
def mcOps : List Op := [.load 24 (.tmp 7),
  .move (.tmp 8),
  .call { callee := .value (.func 39), args := #[.tmp 26, .tmp 27], argTypes := #[24, 22] },
  .load 24 (.tmp 7),
  .call { callee := .value (.func 26), args := #[.tmp 29], argTypes := #[24] },
  .binOp .lss 3 (.tmp 28) (.tmp 30) 3,
  .move (.tmp 31),
  .load 24 (.tmp 7),
  .move (.tmp 9),
  .call { callee := .value (.func 39), args := #[.tmp 33, .tmp 34], argTypes := #[24, 22] },
  .load 24 (.tmp 7),
  .call { callee := .value (.func 26), args := #[.tmp 36], argTypes := #[24] },
  .binOp .lss 3 (.tmp 35) (.tmp 37) 3,
  .pick (.tmp 32) (.const (.bool true)) (.tmp 38)]
def mcNeeds : Nat → List Nat
  | 0 => []
  | 1 => []
  | 2 => [0, 1]
  | 3 => []
  | 4 => [3]
  | 5 => [2, 4]
  | 6 => [5]
  | 7 => []
  | 8 => []
  | 9 => [7, 8]
  | 10 => []
  | 11 => [10]
  | 12 => [9, 11]
  | 13 => [6, 12]
  | _ => []
set_option maxRecDepth 100000 in
set_option maxHeartbeats 3200000 in
theorem mc_step {ops : Array Oper} {Q : Exit → Act → World → Prop} {a0 : Act} {w0 : World} (gc : Nat) (f : Int) (A : Option Addr) (n c : Nat) (ns : List Int) (A8 A9 : Option Addr) (n8 c8 n9 c9 : Nat) (m p q : Nat) (hops : ((List.range 14).map fun i => (ops[i]?).map Oper.op) = mcOps.map some)
    (hnd : ((List.range 14).all fun i => (mcNeeds i).all fun j => ((ops[i]?).map fun o => o.after.any fun e => Region.binds .any e && (e.on == j)).getD false) = true)
    (x7 : a0.tmps[7]? = some (.pointer (some ⟨gc, 0, none⟩))) (x8 : a0.tmps[8]? = some (.slice A8 n8 c8)) (x9 : a0.tmps[9]? = some (.slice A9 n9 c9)) (l8 l9 : List Int)
    (hB : Blk w0 gc 24 [.int .i64 f, .slice A n c]) (hA : ArgI w0 A n c ns) (hok : okC f ns = true) (hn : n ≤ 7) (h8 : ArgI w0 A8 n8 c8 l8) (h9 : ArgI w0 A9 n9 c9 l9) (hm : mostR f ns = m) (hp : ((votesR f ns l8 : Nat) : Int) = p) (hq : ((votesR f ns l9 : Nat) : Int) = q) (z1 : ¬ (p : Int) < m) (z2 : (q : Int) < m) :
    ∀ i o, i < 14 → mcS i = false → ops[i]? = some o → o.dst = some (mcD i) → ∀ a w, Base mcD 14 a0 a → Below w0.heap.size w0 w → Region.wanted o (yielded ops a.tmps) = true →
      (∀ j, (o.after.any fun e => Region.binds .any e && (e.on == j)) = true → Has mcD (mcR gc f A n c ns A8 A9 n8 c8 n9 c9 m p q) j a w) →
      ∀ K : Act → World → Prop, (∀ v w', mcR gc f A n c ns A8 A9 n8 c8 n9 c9 m p q i v w' → Below w.heap.size w w' → K (a.put o.dst v) w') → wpOp Try.prog ops Q i K a w := by
  intro i o hi hs ho hds a w hbase hbl hwt hdep0 K hK
  have hop : some o.op = mcOps[i]? := by
    have h1 : ((List.range 14).map fun i => (ops[i]?).map Oper.op)[i]? = some (some o.op) := by
      rw [List.getElem?_map, List.getElem?_range hi]; simp only [Option.map_some, ho]
    rw [hops, List.getElem?_map] at h1
    cases h2 : mcOps[i]? with
    | none => rw [h2] at h1; cases h1
    | some y => rw [h2] at h1; simp only [Option.map_some, Option.some.injEq] at h1; rw [h1]
  have hdep : ∀ j, j ∈ mcNeeds i → Has mcD (mcR gc f A n c ns A8 A9 n8 c8 n9 c9 m p q) j a w := fun j hj => by
    have h1 := List.all_eq_true.1 (List.all_eq_true.1 hnd i (List.mem_range.2 hi)) j hj
    rw [ho] at h1
    exact hdep0 j h1
  clear hdep0 hops hnd
  match i, hi, hs, ho, hop, hds, hdep, hK with
  | 0, _, hs, ho, hop, hds, hdep, hK =>
    have hop : o.op = .load 24 (.tmp 7) := Option.some.inj hop
    have hu7 : a.tmps[7]? = some (.pointer (some ⟨gc, 0, none⟩)) := (hbase.2.2 7 (by decide)).trans x7
    have e7 : a.eval (.tmp 7) = _ := ev_tmp hu7
    refine st3 ho hwt (v := .agg #[.int .i64 f, .slice A n c]) (w' := w) ?_ (hK _ w rfl (Below.refl _ _))
    have k0 : w.cell? ⟨gc, 0, none⟩ = some (.int .i64 f) := (hB.below hbl hB.lt).cell rfl
    have k1 : w.cell? ⟨gc, 1, none⟩ = some (.slice A n c) := (hB.below hbl hB.lt).cell rfl
    unfold execOp
    simp only [hop, e7]
    first | rfl | go_simp | (go_simp; simp)
  | 1, _, hs, ho, hop, hds, hdep, hK =>
    have hop : o.op = .move (.tmp 8) := Option.some.inj hop
    have hu8 : a.tmps[8]? = some (.slice A8 n8 c8) := (hbase.2.2 8 (by decide)).trans x8
    have e8 : a.eval (.tmp 8) = _ := ev_tmp hu8
    refine st3 ho hwt (v := _) (w' := w) ?_ (hK _ w rfl (Below.refl _ _))
    unfold execOp
    rw [hop, ← e8]
    rfl
  | 2, _, hs, ho, hop, hds, hdep, hK =>
    have hop : o.op = .call { callee := .value (.func 39), args := #[.tmp 26, .tmp 27], argTypes := #[24, 22] } := Option.some.inj hop
    obtain ⟨u26, hu26, hv26⟩ := hdep 0 (by decide)
    have hv26' : u26 = .agg #[.int .i64 f, .slice A n c] := hv26
    subst hv26'
    have e26 : a.eval (.tmp 26) = _ := ev_tmp hu26
    obtain ⟨u27, hu27, hv27⟩ := hdep 1 (by decide)
    have hv27' : u27 = .slice A8 n8 c8 := hv27
    subst hv27'
    have e27 : a.eval (.tmp 27) = _ := ev_tmp hu27
    refine st3_call ho hwt (f := 39) (vals := #[.agg #[.int .i64 f, .slice A n c], .slice A8 n8 c8]) (Z := fun v w' => v = .int .i64 p ∧ Below w.heap.size w w') ?_ ?_ ?_
    · unfold execOp
      simp only [hop, e26, e27, resolve, invoke, Sem.run_bind, Sem.run_pure, Result.andThen_ok, List.map_toArray, List.map_cons, List.map_nil]
      first | rfl | exact enters_of Try.func39 (by kernel_rfl) rfl _ _
    · exact (votes_any f A n c ns w (hA.after hbl) A8 n8 c8 _ (h8.after hbl)).mono fun e w' ⟨he, h2⟩ => ⟨_, he, congrArg (Value.int .i64) hp, h2⟩
    · rintro v w' ⟨h1, h2⟩
      exact hK v w' h1 h2
  | 3, _, hs, ho, hop, hds, hdep, hK =>
    have hop : o.op = .load 24 (.tmp 7) := Option.some.inj hop
    have hu7 : a.tmps[7]? = some (.pointer (some ⟨gc, 0, none⟩)) := (hbase.2.2 7 (by decide)).trans x7
    have e7 : a.eval (.tmp 7) = _ := ev_tmp hu7
    refine st3 ho hwt (v := .agg #[.int .i64 f, .slice A n c]) (w' := w) ?_ (hK _ w rfl (Below.refl _ _))
    have k0 : w.cell? ⟨gc, 0, none⟩ = some (.int .i64 f) := (hB.below hbl hB.lt).cell rfl
    have k1 : w.cell? ⟨gc, 1, none⟩ = some (.slice A n c) := (hB.below hbl hB.lt).cell rfl
    unfold execOp
    simp only [hop, e7]
    first | rfl | go_simp | (go_simp; simp)
  | 4, _, hs, ho, hop, hds, hdep, hK =>
    have hop : o.op = .call { callee := .value (.func 26), args := #[.tmp 29], argTypes := #[24] } := Option.some.inj hop
    obtain ⟨u29, hu29, hv29⟩ := hdep 3 (by decide)
    have hv29' : u29 = .agg #[.int .i64 f, .slice A n c] := hv29
    subst hv29'
    have e29 : a.eval (.tmp 29) = _ := ev_tmp hu29
    refine st3_call ho hwt (f := 26) (vals := #[.agg #[.int .i64 f, .slice A n c]]) (Z := fun v w' => v = .int .i64 m ∧ Below w.heap.size w w') ?_ ?_ ?_
    · unfold execOp
      simp only [hop, e29, resolve, invoke, Sem.run_bind, Sem.run_pure, Result.andThen_ok, List.map_toArray, List.map_cons, List.map_nil]
      first | rfl | exact enters_of Try.func26 (by kernel_rfl) rfl _ _
    · exact (most_any f A n c ns w (hA.after hbl)).mono fun e w' ⟨he, h2⟩ => ⟨_, he, congrArg (Value.int .i64) hm, h2⟩
    · rintro v w' ⟨h1, h2⟩
      exact hK v w' h1 h2
  | 5, _, hs, ho, hop, hds, hdep, hK =>
    have hop : o.op = .binOp .lss 3 (.tmp 28) (.tmp 30) 3 := Option.some.inj hop
    obtain ⟨u28, hu28, hv28⟩ := hdep 2 (by decide)
    have hv28' : u28 = .int .i64 p := hv28
    subst hv28'
    have e28 : a.eval (.tmp 28) = _ := ev_tmp hu28
    obtain ⟨u30, hu30, hv30⟩ := hdep 4 (by decide)
    have hv30' : u30 = .int .i64 m := hv30
    subst hv30'
    have e30 : a.eval (.tmp 30) = _ := ev_tmp hu30
    refine st3 ho hwt (v := .bool false) (w' := w) ?_ (hK _ w rfl (Below.refl _ _))
    unfold execOp
    simp only [hop, e28, e30]
    first | rfl | go_simp | (go_simp; simp)
  | 6, _, hs, ho, hop, hds, hdep, hK =>
    have hop : o.op = .move (.tmp 31) := Option.some.inj hop
    obtain ⟨u31, hu31, hv31⟩ := hdep 5 (by decide)
    have hv31' : u31 = .bool false := hv31
    subst hv31'
    have e31 : a.eval (.tmp 31) = _ := ev_tmp hu31
    refine st3 ho hwt (v := _) (w' := w) ?_ (hK _ w rfl (Below.refl _ _))
    unfold execOp
    rw [hop, ← e31]
    rfl
  | 7, _, hs, ho, hop, hds, hdep, hK =>
    have hop : o.op = .load 24 (.tmp 7) := Option.some.inj hop
    have hu7 : a.tmps[7]? = some (.pointer (some ⟨gc, 0, none⟩)) := (hbase.2.2 7 (by decide)).trans x7
    have e7 : a.eval (.tmp 7) = _ := ev_tmp hu7
    refine st3 ho hwt (v := .agg #[.int .i64 f, .slice A n c]) (w' := w) ?_ (hK _ w rfl (Below.refl _ _))
    have k0 : w.cell? ⟨gc, 0, none⟩ = some (.int .i64 f) := (hB.below hbl hB.lt).cell rfl
    have k1 : w.cell? ⟨gc, 1, none⟩ = some (.slice A n c) := (hB.below hbl hB.lt).cell rfl
    unfold execOp
    simp only [hop, e7]
    first | rfl | go_simp | (go_simp; simp)
  | 8, _, hs, ho, hop, hds, hdep, hK =>
    have hop : o.op = .move (.tmp 9) := Option.some.inj hop
    have hu9 : a.tmps[9]? = some (.slice A9 n9 c9) := (hbase.2.2 9 (by decide)).trans x9
    have e9 : a.eval (.tmp 9) = _ := ev_tmp hu9
    refine st3 ho hwt (v := _) (w' := w) ?_ (hK _ w rfl (Below.refl _ _))
    unfold execOp
    rw [hop, ← e9]
    rfl
  | 9, _, hs, ho, hop, hds, hdep, hK =>
    have hop : o.op = .call { callee := .value (.func 39), args := #[.tmp 33, .tmp 34], argTypes := #[24, 22] } := Option.some.inj hop
    obtain ⟨u33, hu33, hv33⟩ := hdep 7 (by decide)
    have hv33' : u33 = .agg #[.int .i64 f, .slice A n c] := hv33
    subst hv33'
    have e33 : a.eval (.tmp 33) = _ := ev_tmp hu33
    obtain ⟨u34, hu34, hv34⟩ := hdep 8 (by decide)
    have hv34' : u34 = .slice A9 n9 c9 := hv34
    subst hv34'
    have e34 : a.eval (.tmp 34) = _ := ev_tmp hu34
    refine st3_call ho hwt (f := 39) (vals := #[.agg #[.int .i64 f, .slice A n c], .slice A9 n9 c9]) (Z := fun v w' => v = .int .i64 q ∧ Below w.heap.size w w') ?_ ?_ ?_
    · unfold execOp
      simp only [hop, e33, e34, resolve, invoke, Sem.run_bind, Sem.run_pure, Result.andThen_ok, List.map_toArray, List.map_cons, List.map_nil]
      first | rfl | exact enters_of Try.func39 (by kernel_rfl) rfl _ _
    · exact (votes_any f A n c ns w (hA.after hbl) A9 n9 c9 _ (h9.after hbl)).mono fun e w' ⟨he, h2⟩ => ⟨_, he, congrArg (Value.int .i64) hq, h2⟩
    · rintro v w' ⟨h1, h2⟩
      exact hK v w' h1 h2
  | 10, _, hs, ho, hop, hds, hdep, hK =>
    have hop : o.op = .load 24 (.tmp 7) := Option.some.inj hop
    have hu7 : a.tmps[7]? = some (.pointer (some ⟨gc, 0, none⟩)) := (hbase.2.2 7 (by decide)).trans x7
    have e7 : a.eval (.tmp 7) = _ := ev_tmp hu7
    refine st3 ho hwt (v := .agg #[.int .i64 f, .slice A n c]) (w' := w) ?_ (hK _ w rfl (Below.refl _ _))
    have k0 : w.cell? ⟨gc, 0, none⟩ = some (.int .i64 f) := (hB.below hbl hB.lt).cell rfl
    have k1 : w.cell? ⟨gc, 1, none⟩ = some (.slice A n c) := (hB.below hbl hB.lt).cell rfl
    unfold execOp
    simp only [hop, e7]
    first | rfl | go_simp | (go_simp; simp)
  | 11, _, hs, ho, hop, hds, hdep, hK =>
    have hop : o.op = .call { callee := .value (.func 26), args := #[.tmp 36], argTypes := #[24] } := Option.some.inj hop
    obtain ⟨u36, hu36, hv36⟩ := hdep 10 (by decide)
    have hv36' : u36 = .agg #[.int .i64 f, .slice A n c] := hv36
    subst hv36'
    have e36 : a.eval (.tmp 36) = _ := ev_tmp hu36
    refine st3_call ho hwt (f := 26) (vals := #[.agg #[.int .i64 f, .slice A n c]]) (Z := fun v w' => v = .int .i64 m ∧ Below w.heap.size w w') ?_ ?_ ?_
    · unfold execOp
      simp only [hop, e36, resolve, invoke, Sem.run_bind, Sem.run_pure, Result.andThen_ok, List.map_toArray, List.map_cons, List.map_nil]
      first | rfl | exact enters_of Try.func26 (by kernel_rfl) rfl _ _
    · exact (most_any f A n c ns w (hA.after hbl)).mono fun e w' ⟨he, h2⟩ => ⟨_, he, congrArg (Value.int .i64) hm, h2⟩
    · rintro v w' ⟨h1, h2⟩
      exact hK v w' h1 h2
  | 12, _, hs, ho, hop, hds, hdep, hK =>
    have hop : o.op = .binOp .lss 3 (.tmp 35) (.tmp 37) 3 := Option.some.inj hop
    obtain ⟨u35, hu35, hv35⟩ := hdep 9 (by decide)
    have hv35' : u35 = .int .i64 q := hv35
    subst hv35'
    have e35 : a.eval (.tmp 35) = _ := ev_tmp hu35
    obtain ⟨u37, hu37, hv37⟩ := hdep 11 (by decide)
    have hv37' : u37 = .int .i64 m := hv37
    subst hv37'
    have e37 : a.eval (.tmp 37) = _ := ev_tmp hu37
    refine st3 ho hwt (v := .bool true) (w' := w) ?_ (hK _ w rfl (Below.refl _ _))
    unfold execOp
    simp only [hop, e35, e37]
    first | rfl | go_simp | (go_simp; simp)
  | 13, _, hs, ho, hop, hds, hdep, hK =>
    have hop : o.op = .pick (.tmp 32) (.const (.bool true)) (.tmp 38) := Option.some.inj hop
    obtain ⟨u32, hu32, hv32⟩ := hdep 6 (by decide)
    have hv32' : u32 = .bool false := hv32
    subst hv32'
    have e32 : a.eval (.tmp 32) = _ := ev_tmp hu32
    obtain ⟨u38, hu38, hv38⟩ := hdep 12 (by decide)
    have hv38' : u38 = .bool true := hv38
    subst hv38'
    have e38 : a.eval (.tmp 38) = _ := ev_tmp hu38
    refine st3 ho hwt (v := .bool true) (w' := w) ?_ (hK _ w rfl (Below.refl _ _))
    unfold execOp
    simp only [hop, e32, e38]
    first | rfl | go_simp | (go_simp; simp)
  | i + 14, hi, _, _, _, _, _, _ => exact absurd hi (by omega)
def mdR (gc : Nat) (f : Int) (A : Option Addr) (n c : Nat) (ns : List Int) (A8 A9 : Option Addr) (n8 c8 n9 c9 : Nat) (m p q : Nat) : Nat → Value → World → Prop
  | 0 => fun v w => v = .agg #[.int .i64 f, .slice A n c]
  | 1 => fun v w => v = .slice A8 n8 c8
  | 2 => fun v w => v = .int .i64 p
  | 3 => fun v w => v = .agg #[.int .i64 f, .slice A n c]
  | 4 => fun v w => v = .int .i64 m
  | 5 => fun v w => v = .bool false
  | 6 => fun v w => v = .bool false
  | 7 => fun v w => v = .agg #[.int .i64 f, .slice A n c]
  | 8 => fun v w => v = .slice A9 n9 c9
  | 9 => fun v w => v = .int .i64 q
  | 10 => fun v w => v = .agg #[.int .i64 f, .slice A n c]
  | 11 => fun v w => v = .int .i64 m
  | 12 => fun v w => v = .bool false
  | 13 => fun v w => v = .bool false
  | _ => fun _ _ => True
def mdD (i : Nat) : Nat := ([26, 27, 28, 29, 30, 31, 32, 33, 34, 35, 36, 37, 38, 39] : List Nat).getD i 0
def mdG : Nat → Option Bool
  | 6 => some false
  | _ => none
def mdS (i : Nat) : Bool := ([] : List Nat).contains i
theorem md_gb (gc : Nat) (f : Int) (A : Option Addr) (n c : Nat) (ns : List Int) (A8 A9 : Option Addr) (n8 c8 n9 c9 : Nat) (m p q : Nat) : ∀ i b v w, mdG i = some b → mdR gc f A n c ns A8 A9 n8 c8 n9 c9 m p q i v w → v = .bool b := by
  intro i b v w h hR
  unfold mdG at h
  split at h
  all_goals first | (injection h with h; subst h; exact hR) | cases h
theorem md_sk (gc : Nat) (f : Int) (A : Option Addr) (n c : Nat) (ns : List Int) (A8 A9 : Option Addr) (n8 c8 n9 c9 : Nat) (m p q : Nat) : ∀ i w, mdS i = true → mdR gc f A n c ns A8 A9 n8 c8 n9 c9 m p q i undef w := by
  intro i w h
  simp [mdS] at h
theorem md_on (gc : Nat) (f : Int) (A : Option Addr) (n c : Nat) (ns : List Int) (A8 A9 : Option Addr) (n8 c8 n9 c9 : Nat) (m p q : Nat) : ∀ i v w w', mdR gc f A n c ns A8 A9 n8 c8 n9 c9 m p q i v w → Below w.heap.size w w' → mdR gc f A n c ns A8 A9 n8 c8 n9 c9 m p q i v w'
  | 0, v, w, w', h, _ => h
  | 1, v, w, w', h, _ => h
  | 2, v, w, w', h, _ => h
  | 3, v, w, w', h, _ => h
  | 4, v, w, w', h, _ => h
  | 5, v, w, w', h, _ => h
  | 6, v, w, w', h, _ => h
  | 7, v, w, w', h, _ => h
  | 8, v, w, w', h, _ => h
  | 9, v, w, w', h, _ => h
  | 10, v, w, w', h, _ => h
  | 11, v, w, w', h, _ => h
  | 12, v, w, w', h, _ => h
  | 13, v, w, w', h, _ => h
  | i + 14, v, w, w', h, hb => trivial
def mdOps : List Op := [.load 24 (.tmp 7),
  .move (.tmp 8),
  .call { callee := .value (.func 39), args := #[.tmp 26, .tmp 27], argTypes := #[24, 22] },
  .load 24 (.tmp 7),
  .call { callee := .value (.func 26), args := #[.tmp 29], argTypes := #[24] },
  .binOp .lss 3 (.tmp 28) (.tmp 30) 3,
  .move (.tmp 31),
  .load 24 (.tmp 7),
  .move (.tmp 9),
  .call { callee := .value (.func 39), args := #[.tmp 33, .tmp 34], argTypes := #[24, 22] },
  .load 24 (.tmp 7),
  .call { callee := .value (.func 26), args := #[.tmp 36], argTypes := #[24] },
  .binOp .lss 3 (.tmp 35) (.tmp 37) 3,
  .pick (.tmp 32) (.const (.bool true)) (.tmp 38)]
def mdNeeds : Nat → List Nat
  | 0 => []
  | 1 => []
  | 2 => [0, 1]
  | 3 => []
  | 4 => [3]
  | 5 => [2, 4]
  | 6 => [5]
  | 7 => []
  | 8 => []
  | 9 => [7, 8]
  | 10 => []
  | 11 => [10]
  | 12 => [9, 11]
  | 13 => [6, 12]
  | _ => []
set_option maxRecDepth 100000 in
set_option maxHeartbeats 3200000 in
theorem md_step {ops : Array Oper} {Q : Exit → Act → World → Prop} {a0 : Act} {w0 : World} (gc : Nat) (f : Int) (A : Option Addr) (n c : Nat) (ns : List Int) (A8 A9 : Option Addr) (n8 c8 n9 c9 : Nat) (m p q : Nat) (hops : ((List.range 14).map fun i => (ops[i]?).map Oper.op) = mdOps.map some)
    (hnd : ((List.range 14).all fun i => (mdNeeds i).all fun j => ((ops[i]?).map fun o => o.after.any fun e => Region.binds .any e && (e.on == j)).getD false) = true)
    (x7 : a0.tmps[7]? = some (.pointer (some ⟨gc, 0, none⟩))) (x8 : a0.tmps[8]? = some (.slice A8 n8 c8)) (x9 : a0.tmps[9]? = some (.slice A9 n9 c9)) (l8 l9 : List Int)
    (hB : Blk w0 gc 24 [.int .i64 f, .slice A n c]) (hA : ArgI w0 A n c ns) (hok : okC f ns = true) (hn : n ≤ 7) (h8 : ArgI w0 A8 n8 c8 l8) (h9 : ArgI w0 A9 n9 c9 l9) (hm : mostR f ns = m) (hp : ((votesR f ns l8 : Nat) : Int) = p) (hq : ((votesR f ns l9 : Nat) : Int) = q) (z1 : ¬ (p : Int) < m) (z2 : ¬ (q : Int) < m) :
    ∀ i o, i < 14 → mdS i = false → ops[i]? = some o → o.dst = some (mdD i) → ∀ a w, Base mdD 14 a0 a → Below w0.heap.size w0 w → Region.wanted o (yielded ops a.tmps) = true →
      (∀ j, (o.after.any fun e => Region.binds .any e && (e.on == j)) = true → Has mdD (mdR gc f A n c ns A8 A9 n8 c8 n9 c9 m p q) j a w) →
      ∀ K : Act → World → Prop, (∀ v w', mdR gc f A n c ns A8 A9 n8 c8 n9 c9 m p q i v w' → Below w.heap.size w w' → K (a.put o.dst v) w') → wpOp Try.prog ops Q i K a w := by
  intro i o hi hs ho hds a w hbase hbl hwt hdep0 K hK
  have hop : some o.op = mdOps[i]? := by
    have h1 : ((List.range 14).map fun i => (ops[i]?).map Oper.op)[i]? = some (some o.op) := by
      rw [List.getElem?_map, List.getElem?_range hi]; simp only [Option.map_some, ho]
    rw [hops, List.getElem?_map] at h1
    cases h2 : mdOps[i]? with
    | none => rw [h2] at h1; cases h1
    | some y => rw [h2] at h1; simp only [Option.map_some, Option.some.injEq] at h1; rw [h1]
  have hdep : ∀ j, j ∈ mdNeeds i → Has mdD (mdR gc f A n c ns A8 A9 n8 c8 n9 c9 m p q) j a w := fun j hj => by
    have h1 := List.all_eq_true.1 (List.all_eq_true.1 hnd i (List.mem_range.2 hi)) j hj
    rw [ho] at h1
    exact hdep0 j h1
  clear hdep0 hops hnd
  match i, hi, hs, ho, hop, hds, hdep, hK with
  | 0, _, hs, ho, hop, hds, hdep, hK =>
    have hop : o.op = .load 24 (.tmp 7) := Option.some.inj hop
    have hu7 : a.tmps[7]? = some (.pointer (some ⟨gc, 0, none⟩)) := (hbase.2.2 7 (by decide)).trans x7
    have e7 : a.eval (.tmp 7) = _ := ev_tmp hu7
    refine st3 ho hwt (v := .agg #[.int .i64 f, .slice A n c]) (w' := w) ?_ (hK _ w rfl (Below.refl _ _))
    have k0 : w.cell? ⟨gc, 0, none⟩ = some (.int .i64 f) := (hB.below hbl hB.lt).cell rfl
    have k1 : w.cell? ⟨gc, 1, none⟩ = some (.slice A n c) := (hB.below hbl hB.lt).cell rfl
    unfold execOp
    simp only [hop, e7]
    first | rfl | go_simp | (go_simp; simp)
  | 1, _, hs, ho, hop, hds, hdep, hK =>
    have hop : o.op = .move (.tmp 8) := Option.some.inj hop
    have hu8 : a.tmps[8]? = some (.slice A8 n8 c8) := (hbase.2.2 8 (by decide)).trans x8
    have e8 : a.eval (.tmp 8) = _ := ev_tmp hu8
    refine st3 ho hwt (v := _) (w' := w) ?_ (hK _ w rfl (Below.refl _ _))
    unfold execOp
    rw [hop, ← e8]
    rfl
  | 2, _, hs, ho, hop, hds, hdep, hK =>
    have hop : o.op = .call { callee := .value (.func 39), args := #[.tmp 26, .tmp 27], argTypes := #[24, 22] } := Option.some.inj hop
    obtain ⟨u26, hu26, hv26⟩ := hdep 0 (by decide)
    have hv26' : u26 = .agg #[.int .i64 f, .slice A n c] := hv26
    subst hv26'
    have e26 : a.eval (.tmp 26) = _ := ev_tmp hu26
    obtain ⟨u27, hu27, hv27⟩ := hdep 1 (by decide)
    have hv27' : u27 = .slice A8 n8 c8 := hv27
    subst hv27'
    have e27 : a.eval (.tmp 27) = _ := ev_tmp hu27
    refine st3_call ho hwt (f := 39) (vals := #[.agg #[.int .i64 f, .slice A n c], .slice A8 n8 c8]) (Z := fun v w' => v = .int .i64 p ∧ Below w.heap.size w w') ?_ ?_ ?_
    · unfold execOp
      simp only [hop, e26, e27, resolve, invoke, Sem.run_bind, Sem.run_pure, Result.andThen_ok, List.map_toArray, List.map_cons, List.map_nil]
      first | rfl | exact enters_of Try.func39 (by kernel_rfl) rfl _ _
    · exact (votes_any f A n c ns w (hA.after hbl) A8 n8 c8 _ (h8.after hbl)).mono fun e w' ⟨he, h2⟩ => ⟨_, he, congrArg (Value.int .i64) hp, h2⟩
    · rintro v w' ⟨h1, h2⟩
      exact hK v w' h1 h2
  | 3, _, hs, ho, hop, hds, hdep, hK =>
    have hop : o.op = .load 24 (.tmp 7) := Option.some.inj hop
    have hu7 : a.tmps[7]? = some (.pointer (some ⟨gc, 0, none⟩)) := (hbase.2.2 7 (by decide)).trans x7
    have e7 : a.eval (.tmp 7) = _ := ev_tmp hu7
    refine st3 ho hwt (v := .agg #[.int .i64 f, .slice A n c]) (w' := w) ?_ (hK _ w rfl (Below.refl _ _))
    have k0 : w.cell? ⟨gc, 0, none⟩ = some (.int .i64 f) := (hB.below hbl hB.lt).cell rfl
    have k1 : w.cell? ⟨gc, 1, none⟩ = some (.slice A n c) := (hB.below hbl hB.lt).cell rfl
    unfold execOp
    simp only [hop, e7]
    first | rfl | go_simp | (go_simp; simp)
  | 4, _, hs, ho, hop, hds, hdep, hK =>
    have hop : o.op = .call { callee := .value (.func 26), args := #[.tmp 29], argTypes := #[24] } := Option.some.inj hop
    obtain ⟨u29, hu29, hv29⟩ := hdep 3 (by decide)
    have hv29' : u29 = .agg #[.int .i64 f, .slice A n c] := hv29
    subst hv29'
    have e29 : a.eval (.tmp 29) = _ := ev_tmp hu29
    refine st3_call ho hwt (f := 26) (vals := #[.agg #[.int .i64 f, .slice A n c]]) (Z := fun v w' => v = .int .i64 m ∧ Below w.heap.size w w') ?_ ?_ ?_
    · unfold execOp
      simp only [hop, e29, resolve, invoke, Sem.run_bind, Sem.run_pure, Result.andThen_ok, List.map_toArray, List.map_cons, List.map_nil]
      first | rfl | exact enters_of Try.func26 (by kernel_rfl) rfl _ _
    · exact (most_any f A n c ns w (hA.after hbl)).mono fun e w' ⟨he, h2⟩ => ⟨_, he, congrArg (Value.int .i64) hm, h2⟩
    · rintro v w' ⟨h1, h2⟩
      exact hK v w' h1 h2
  | 5, _, hs, ho, hop, hds, hdep, hK =>
    have hop : o.op = .binOp .lss 3 (.tmp 28) (.tmp 30) 3 := Option.some.inj hop
    obtain ⟨u28, hu28, hv28⟩ := hdep 2 (by decide)
    have hv28' : u28 = .int .i64 p := hv28
    subst hv28'
    have e28 : a.eval (.tmp 28) = _ := ev_tmp hu28
    obtain ⟨u30, hu30, hv30⟩ := hdep 4 (by decide)
    have hv30' : u30 = .int .i64 m := hv30
    subst hv30'
    have e30 : a.eval (.tmp 30) = _ := ev_tmp hu30
    refine st3 ho hwt (v := .bool false) (w' := w) ?_ (hK _ w rfl (Below.refl _ _))
    unfold execOp
    simp only [hop, e28, e30]
    first | rfl | go_simp | (go_simp; simp)
  | 6, _, hs, ho, hop, hds, hdep, hK =>
    have hop : o.op = .move (.tmp 31) := Option.some.inj hop
    obtain ⟨u31, hu31, hv31⟩ := hdep 5 (by decide)
    have hv31' : u31 = .bool false := hv31
    subst hv31'
    have e31 : a.eval (.tmp 31) = _ := ev_tmp hu31
    refine st3 ho hwt (v := _) (w' := w) ?_ (hK _ w rfl (Below.refl _ _))
    unfold execOp
    rw [hop, ← e31]
    rfl
  | 7, _, hs, ho, hop, hds, hdep, hK =>
    have hop : o.op = .load 24 (.tmp 7) := Option.some.inj hop
    have hu7 : a.tmps[7]? = some (.pointer (some ⟨gc, 0, none⟩)) := (hbase.2.2 7 (by decide)).trans x7
    have e7 : a.eval (.tmp 7) = _ := ev_tmp hu7
    refine st3 ho hwt (v := .agg #[.int .i64 f, .slice A n c]) (w' := w) ?_ (hK _ w rfl (Below.refl _ _))
    have k0 : w.cell? ⟨gc, 0, none⟩ = some (.int .i64 f) := (hB.below hbl hB.lt).cell rfl
    have k1 : w.cell? ⟨gc, 1, none⟩ = some (.slice A n c) := (hB.below hbl hB.lt).cell rfl
    unfold execOp
    simp only [hop, e7]
    first | rfl | go_simp | (go_simp; simp)
  | 8, _, hs, ho, hop, hds, hdep, hK =>
    have hop : o.op = .move (.tmp 9) := Option.some.inj hop
    have hu9 : a.tmps[9]? = some (.slice A9 n9 c9) := (hbase.2.2 9 (by decide)).trans x9
    have e9 : a.eval (.tmp 9) = _ := ev_tmp hu9
    refine st3 ho hwt (v := _) (w' := w) ?_ (hK _ w rfl (Below.refl _ _))
    unfold execOp
    rw [hop, ← e9]
    rfl
  | 9, _, hs, ho, hop, hds, hdep, hK =>
    have hop : o.op = .call { callee := .value (.func 39), args := #[.tmp 33, .tmp 34], argTypes := #[24, 22] } := Option.some.inj hop
    obtain ⟨u33, hu33, hv33⟩ := hdep 7 (by decide)
    have hv33' : u33 = .agg #[.int .i64 f, .slice A n c] := hv33
    subst hv33'
    have e33 : a.eval (.tmp 33) = _ := ev_tmp hu33
    obtain ⟨u34, hu34, hv34⟩ := hdep 8 (by decide)
    have hv34' : u34 = .slice A9 n9 c9 := hv34
    subst hv34'
    have e34 : a.eval (.tmp 34) = _ := ev_tmp hu34
    refine st3_call ho hwt (f := 39) (vals := #[.agg #[.int .i64 f, .slice A n c], .slice A9 n9 c9]) (Z := fun v w' => v = .int .i64 q ∧ Below w.heap.size w w') ?_ ?_ ?_
    · unfold execOp
      simp only [hop, e33, e34, resolve, invoke, Sem.run_bind, Sem.run_pure, Result.andThen_ok, List.map_toArray, List.map_cons, List.map_nil]
      first | rfl | exact enters_of Try.func39 (by kernel_rfl) rfl _ _
    · exact (votes_any f A n c ns w (hA.after hbl) A9 n9 c9 _ (h9.after hbl)).mono fun e w' ⟨he, h2⟩ => ⟨_, he, congrArg (Value.int .i64) hq, h2⟩
    · rintro v w' ⟨h1, h2⟩
      exact hK v w' h1 h2
  | 10, _, hs, ho, hop, hds, hdep, hK =>
    have hop : o.op = .load 24 (.tmp 7) := Option.some.inj hop
    have hu7 : a.tmps[7]? = some (.pointer (some ⟨gc, 0, none⟩)) := (hbase.2.2 7 (by decide)).trans x7
    have e7 : a.eval (.tmp 7) = _ := ev_tmp hu7
    refine st3 ho hwt (v := .agg #[.int .i64 f, .slice A n c]) (w' := w) ?_ (hK _ w rfl (Below.refl _ _))
    have k0 : w.cell? ⟨gc, 0, none⟩ = some (.int .i64 f) := (hB.below hbl hB.lt).cell rfl
    have k1 : w.cell? ⟨gc, 1, none⟩ = some (.slice A n c) := (hB.below hbl hB.lt).cell rfl
    unfold execOp
    simp only [hop, e7]
    first | rfl | go_simp | (go_simp; simp)
  | 11, _, hs, ho, hop, hds, hdep, hK =>
    have hop : o.op = .call { callee := .value (.func 26), args := #[.tmp 36], argTypes := #[24] } := Option.some.inj hop
    obtain ⟨u36, hu36, hv36⟩ := hdep 10 (by decide)
    have hv36' : u36 = .agg #[.int .i64 f, .slice A n c] := hv36
    subst hv36'
    have e36 : a.eval (.tmp 36) = _ := ev_tmp hu36
    refine st3_call ho hwt (f := 26) (vals := #[.agg #[.int .i64 f, .slice A n c]]) (Z := fun v w' => v = .int .i64 m ∧ Below w.heap.size w w') ?_ ?_ ?_
    · unfold execOp
      simp only [hop, e36, resolve, invoke, Sem.run_bind, Sem.run_pure, Result.andThen_ok, List.map_toArray, List.map_cons, List.map_nil]
      first | rfl | exact enters_of Try.func26 (by kernel_rfl) rfl _ _
    · exact (most_any f A n c ns w (hA.after hbl)).mono fun e w' ⟨he, h2⟩ => ⟨_, he, congrArg (Value.int .i64) hm, h2⟩
    · rintro v w' ⟨h1, h2⟩
      exact hK v w' h1 h2
  | 12, _, hs, ho, hop, hds, hdep, hK =>
    have hop : o.op = .binOp .lss 3 (.tmp 35) (.tmp 37) 3 := Option.some.inj hop
    obtain ⟨u35, hu35, hv35⟩ := hdep 9 (by decide)
    have hv35' : u35 = .int .i64 q := hv35
    subst hv35'
    have e35 : a.eval (.tmp 35) = _ := ev_tmp hu35
    obtain ⟨u37, hu37, hv37⟩ := hdep 11 (by decide)
    have hv37' : u37 = .int .i64 m := hv37
    subst hv37'
    have e37 : a.eval (.tmp 37) = _ := ev_tmp hu37
    refine st3 ho hwt (v := .bool false) (w' := w) ?_ (hK _ w rfl (Below.refl _ _))
    unfold execOp
    simp only [hop, e35, e37]
    first | rfl | go_simp | (go_simp; simp)
  | 13, _, hs, ho, hop, hds, hdep, hK =>
    have hop : o.op = .pick (.tmp 32) (.const (.bool true)) (.tmp 38) := Option.some.inj hop
    obtain ⟨u32, hu32, hv32⟩ := hdep 6 (by decide)
    have hv32' : u32 = .bool false := hv32
    subst hv32'
    have e32 : a.eval (.tmp 32) = _ := ev_tmp hu32
    obtain ⟨u38, hu38, hv38⟩ := hdep 12 (by decide)
    have hv38' : u38 = .bool false := hv38
    subst hv38'
    have e38 : a.eval (.tmp 38) = _ := ev_tmp hu38
    refine st3 ho hwt (v := .bool false) (w' := w) ?_ (hK _ w rfl (Below.refl _ _))
    unfold execOp
    simp only [hop, e32, e38]
    first | rfl | go_simp | (go_simp; simp)
  | i + 14, hi, _, _, _, _, _, _ => exact absurd hi (by omega)
def meR (gc : Nat) (f : Int) (A : Option Addr) (n c : Nat) (ns : List Int) (A8 : Option Addr) (n8 c8 : Nat) (m p : Nat) : Nat → Value → World → Prop
  | 0 => fun v w => v = .agg #[.int .i64 f, .slice A n c]
  | 1 => fun v w => v = .slice A8 n8 c8
  | 2 => fun v w => v = .int .i64 p
  | 3 => fun v w => v = .agg #[.int .i64 f, .slice A n c]
  | 4 => fun v w => v = .int .i64 m
  | 5 => fun v w => v = .bool true
  | 6 => fun v w => v = .bool true
  | 7 => fun v w => v = .slice A8 n8 c8
  | 8 => fun v w => v = .int .i64 n8
  | 9 => fun v w => v = .agg #[.int .i64 f, .slice A n c]
  | 10 => fun v w => v = .slice A8 n8 c8
  | 11 => fun v w => v = .int .i64 p
  | 12 => fun v w => v = .bool true
  | 13 => fun v w => v = .bool true
  | 14 => fun v w => v = .bool true
  | _ => fun _ _ => True
def meD (i : Nat) : Nat := ([40, 41, 42, 43, 44, 45, 46, 47, 48, 49, 50, 51, 52, 53, 6] : List Nat).getD i 0
def meG : Nat → Option Bool
  | 6 => some true
  | _ => none
def meS (i : Nat) : Bool := ([] : List Nat).contains i
theorem me_gb (gc : Nat) (f : Int) (A : Option Addr) (n c : Nat) (ns : List Int) (A8 : Option Addr) (n8 c8 : Nat) (m p : Nat) : ∀ i b v w, meG i = some b → meR gc f A n c ns A8 n8 c8 m p i v w → v = .bool b := by
  intro i b v w h hR
  unfold meG at h
  split at h
  all_goals first | (injection h with h; subst h; exact hR) | cases h
theorem me_sk (gc : Nat) (f : Int) (A : Option Addr) (n c : Nat) (ns : List Int) (A8 : Option Addr) (n8 c8 : Nat) (m p : Nat) : ∀ i w, meS i = true → meR gc f A n c ns A8 n8 c8 m p i undef w := by
  intro i w h
  simp [meS] at h
theorem me_on (gc : Nat) (f : Int) (A : Option Addr) (n c : Nat) (ns : List Int) (A8 : Option Addr) (n8 c8 : Nat) (m p : Nat) : ∀ i v w w', meR gc f A n c ns A8 n8 c8 m p i v w → Below w.heap.size w w' → meR gc f A n c ns A8 n8 c8 m p i v w'
  | 0, v, w, w', h, _ => h
  | 1, v, w, w', h, _ => h
  | 2, v, w, w', h, _ => h
  | 3, v, w, w', h, _ => h
  | 4, v, w, w', h, _ => h
  | 5, v, w, w', h, _ => h
  | 6, v, w, w', h, _ => h
  | 7, v, w, w', h, _ => h
  | 8, v, w, w', h, _ => h
  | 9, v, w, w', h, _ => h
  | 10, v, w, w', h, _ => h
  | 11, v, w, w', h, _ => h
  | 12, v, w, w', h, _ => h
  | 13, v, w, w', h, _ => h
  | 14, v, w, w', h, _ => h
  | i + 15, v, w, w', h, hb => trivial
def meOps : List Op := [.load 24 (.tmp 7),
  .move (.tmp 10),
  .call { callee := .value (.func 39), args := #[.tmp 40, .tmp 41], argTypes := #[24, 22] },
  .load 24 (.tmp 7),
  .call { callee := .value (.func 28), args := #[.tmp 43], argTypes := #[24] },
  .binOp .geq 3 (.tmp 42) (.tmp 44) 3,
  .move (.tmp 45),
  .move (.tmp 10),
  .call { callee := .builtin .len, args := #[.tmp 47], argTypes := #[22] },
  .load 24 (.tmp 7),
  .move (.tmp 10),
  .call { callee := .value (.func 39), args := #[.tmp 49, .tmp 50], argTypes := #[24, 22] },
  .binOp .eql 3 (.tmp 48) (.tmp 51) 3,
  .pick (.tmp 46) (.tmp 52) (.const (.bool false)),
  .assign (.tmp 53)]
def meNeeds : Nat → List Nat
  | 0 => []
  | 1 => []
  | 2 => [0, 1]
  | 3 => []
  | 4 => [3]
  | 5 => [2, 4]
  | 6 => [5]
  | 7 => []
  | 8 => [7]
  | 9 => []
  | 10 => []
  | 11 => [9, 10]
  | 12 => [8, 11]
  | 13 => [6, 12]
  | 14 => [13]
  | _ => []
set_option maxRecDepth 100000 in
set_option maxHeartbeats 3200000 in
theorem me_step {ops : Array Oper} {Q : Exit → Act → World → Prop} {a0 : Act} {w0 : World} (gc : Nat) (f : Int) (A : Option Addr) (n c : Nat) (ns : List Int) (A8 : Option Addr) (n8 c8 : Nat) (m p : Nat) (hops : ((List.range 15).map fun i => (ops[i]?).map Oper.op) = meOps.map some)
    (hnd : ((List.range 15).all fun i => (meNeeds i).all fun j => ((ops[i]?).map fun o => o.after.any fun e => Region.binds .any e && (e.on == j)).getD false) = true)
    (x7 : a0.tmps[7]? = some (.pointer (some ⟨gc, 0, none⟩))) (x8 : a0.tmps[10]? = some (.slice A8 n8 c8)) (l8 : List Int)
    (hB : Blk w0 gc 24 [.int .i64 f, .slice A n c]) (hA : ArgI w0 A n c ns) (hok : okC f ns = true) (hn : n ≤ 7) (h8 : ArgI w0 A8 n8 c8 l8) (hm : someR f ns = m) (hp : ((votesR f ns l8 : Nat) : Int) = p) (z1 : (m : Int) ≤ p) (z2 : (n8 : Int) = p) :
    ∀ i o, i < 15 → meS i = false → ops[i]? = some o → o.dst = some (meD i) → ∀ a w, Base meD 15 a0 a → Below w0.heap.size w0 w → Region.wanted o (yielded ops a.tmps) = true →
      (∀ j, (o.after.any fun e => Region.binds .any e && (e.on == j)) = true → Has meD (meR gc f A n c ns A8 n8 c8 m p) j a w) →
      ∀ K : Act → World → Prop, (∀ v w', meR gc f A n c ns A8 n8 c8 m p i v w' → Below w.heap.size w w' → K (a.put o.dst v) w') → wpOp Try.prog ops Q i K a w := by
  intro i o hi hs ho hds a w hbase hbl hwt hdep0 K hK
  have hop : some o.op = meOps[i]? := by
    have h1 : ((List.range 15).map fun i => (ops[i]?).map Oper.op)[i]? = some (some o.op) := by
      rw [List.getElem?_map, List.getElem?_range hi]; simp only [Option.map_some, ho]
    rw [hops, List.getElem?_map] at h1
    cases h2 : meOps[i]? with
    | none => rw [h2] at h1; cases h1
    | some y => rw [h2] at h1; simp only [Option.map_some, Option.some.injEq] at h1; rw [h1]
  have hdep : ∀ j, j ∈ meNeeds i → Has meD (meR gc f A n c ns A8 n8 c8 m p) j a w := fun j hj => by
    have h1 := List.all_eq_true.1 (List.all_eq_true.1 hnd i (List.mem_range.2 hi)) j hj
    rw [ho] at h1
    exact hdep0 j h1
  clear hdep0 hops hnd
  match i, hi, hs, ho, hop, hds, hdep, hK with
  | 0, _, hs, ho, hop, hds, hdep, hK =>
    have hop : o.op = .load 24 (.tmp 7) := Option.some.inj hop
    have hu7 : a.tmps[7]? = some (.pointer (some ⟨gc, 0, none⟩)) := (hbase.2.2 7 (by decide)).trans x7
    have e7 : a.eval (.tmp 7) = _ := ev_tmp hu7
    refine st3 ho hwt (v := .agg #[.int .i64 f, .slice A n c]) (w' := w) ?_ (hK _ w rfl (Below.refl _ _))
    have k0 : w.cell? ⟨gc, 0, none⟩ = some (.int .i64 f) := (hB.below hbl hB.lt).cell rfl
    have k1 : w.cell? ⟨gc, 1, none⟩ = some (.slice A n c) := (hB.below hbl hB.lt).cell rfl
    unfold execOp
    simp only [hop, e7]
    first | rfl | go_simp | (go_simp; simp)
  | 1, _, hs, ho, hop, hds, hdep, hK =>
    have hop : o.op = .move (.tmp 10) := Option.some.inj hop
    have hu10 : a.tmps[10]? = some (.slice A8 n8 c8) := (hbase.2.2 10 (by decide)).trans x8
    have e10 : a.eval (.tmp 10) = _ := ev_tmp hu10
    refine st3 ho hwt (v := _) (w' := w) ?_ (hK _ w rfl (Below.refl _ _))
    unfold execOp
    rw [hop, ← e10]
    rfl
  | 2, _, hs, ho, hop, hds, hdep, hK =>
    have hop : o.op = .call { callee := .value (.func 39), args := #[.tmp 40, .tmp 41], argTypes := #[24, 22] } := Option.some.inj hop
    obtain ⟨u40, hu40, hv40⟩ := hdep 0 (by decide)
    have hv40' : u40 = .agg #[.int .i64 f, .slice A n c] := hv40
    subst hv40'
    have e40 : a.eval (.tmp 40) = _ := ev_tmp hu40
    obtain ⟨u41, hu41, hv41⟩ := hdep 1 (by decide)
    have hv41' : u41 = .slice A8 n8 c8 := hv41
    subst hv41'
    have e41 : a.eval (.tmp 41) = _ := ev_tmp hu41
    refine st3_call ho hwt (f := 39) (vals := #[.agg #[.int .i64 f, .slice A n c], .slice A8 n8 c8]) (Z := fun v w' => v = .int .i64 p ∧ Below w.heap.size w w') ?_ ?_ ?_
    · unfold execOp
      simp only [hop, e40, e41, resolve, invoke, Sem.run_bind, Sem.run_pure, Result.andThen_ok, List.map_toArray, List.map_cons, List.map_nil]
      first | rfl | exact enters_of Try.func39 (by kernel_rfl) rfl _ _
    · exact (votes_any f A n c ns w (hA.after hbl) A8 n8 c8 _ (h8.after hbl)).mono fun e w' ⟨he, h2⟩ => ⟨_, he, congrArg (Value.int .i64) hp, h2⟩
    · rintro v w' ⟨h1, h2⟩
      exact hK v w' h1 h2
  | 3, _, hs, ho, hop, hds, hdep, hK =>
    have hop : o.op = .load 24 (.tmp 7) := Option.some.inj hop
    have hu7 : a.tmps[7]? = some (.pointer (some ⟨gc, 0, none⟩)) := (hbase.2.2 7 (by decide)).trans x7
    have e7 : a.eval (.tmp 7) = _ := ev_tmp hu7
    refine st3 ho hwt (v := .agg #[.int .i64 f, .slice A n c]) (w' := w) ?_ (hK _ w rfl (Below.refl _ _))
    have k0 : w.cell? ⟨gc, 0, none⟩ = some (.int .i64 f) := (hB.below hbl hB.lt).cell rfl
    have k1 : w.cell? ⟨gc, 1, none⟩ = some (.slice A n c) := (hB.below hbl hB.lt).cell rfl
    unfold execOp
    simp only [hop, e7]
    first | rfl | go_simp | (go_simp; simp)
  | 4, _, hs, ho, hop, hds, hdep, hK =>
    have hop : o.op = .call { callee := .value (.func 28), args := #[.tmp 43], argTypes := #[24] } := Option.some.inj hop
    obtain ⟨u43, hu43, hv43⟩ := hdep 3 (by decide)
    have hv43' : u43 = .agg #[.int .i64 f, .slice A n c] := hv43
    subst hv43'
    have e43 : a.eval (.tmp 43) = _ := ev_tmp hu43
    refine st3_call ho hwt (f := 28) (vals := #[.agg #[.int .i64 f, .slice A n c]]) (Z := fun v w' => v = .int .i64 m ∧ Below w.heap.size w w') ?_ ?_ ?_
    · unfold execOp
      simp only [hop, e43, resolve, invoke, Sem.run_bind, Sem.run_pure, Result.andThen_ok, List.map_toArray, List.map_cons, List.map_nil]
      first | rfl | exact enters_of Try.func28 (by kernel_rfl) rfl _ _
    · exact (some_any f A n c ns w (hA.after hbl)).mono fun e w' ⟨he, h2⟩ => ⟨_, he, congrArg (Value.int .i64) hm, h2⟩
    · rintro v w' ⟨h1, h2⟩
      exact hK v w' h1 h2
  | 5, _, hs, ho, hop, hds, hdep, hK =>
    have hop : o.op = .binOp .geq 3 (.tmp 42) (.tmp 44) 3 := Option.some.inj hop
    obtain ⟨u42, hu42, hv42⟩ := hdep 2 (by decide)
    have hv42' : u42 = .int .i64 p := hv42
    subst hv42'
    have e42 : a.eval (.tmp 42) = _ := ev_tmp hu42
    obtain ⟨u44, hu44, hv44⟩ := hdep 4 (by decide)
    have hv44' : u44 = .int .i64 m := hv44
    subst hv44'
    have e44 : a.eval (.tmp 44) = _ := ev_tmp hu44
    refine st3 ho hwt (v := .bool true) (w' := w) ?_ (hK _ w rfl (Below.refl _ _))
    unfold execOp
    simp only [hop, e42, e44]
    first | rfl | go_simp | (go_simp; simp)
  | 6, _, hs, ho, hop, hds, hdep, hK =>
    have hop : o.op = .move (.tmp 45) := Option.some.inj hop
    obtain ⟨u45, hu45, hv45⟩ := hdep 5 (by decide)
    have hv45' : u45 = .bool true := hv45
    subst hv45'
    have e45 : a.eval (.tmp 45) = _ := ev_tmp hu45
    refine st3 ho hwt (v := _) (w' := w) ?_ (hK _ w rfl (Below.refl _ _))
    unfold execOp
    rw [hop, ← e45]
    rfl
  | 7, _, hs, ho, hop, hds, hdep, hK =>
    have hop : o.op = .move (.tmp 10) := Option.some.inj hop
    have hu10 : a.tmps[10]? = some (.slice A8 n8 c8) := (hbase.2.2 10 (by decide)).trans x8
    have e10 : a.eval (.tmp 10) = _ := ev_tmp hu10
    refine st3 ho hwt (v := _) (w' := w) ?_ (hK _ w rfl (Below.refl _ _))
    unfold execOp
    rw [hop, ← e10]
    rfl
  | 8, _, hs, ho, hop, hds, hdep, hK =>
    have hop : o.op = .call { callee := .builtin .len, args := #[.tmp 47], argTypes := #[22] } := Option.some.inj hop
    obtain ⟨u47, hu47, hv47⟩ := hdep 7 (by decide)
    have hv47' : u47 = .slice A8 n8 c8 := hv47
    subst hv47'
    have e47 : a.eval (.tmp 47) = _ := ev_tmp hu47
    refine st3 ho hwt (v := .int .i64 n8) (w' := w) ?_ (hK _ w rfl (Below.refl _ _))
    unfold execOp
    simp only [hop, resolve, invoke, builtin, Sem.run_bind, Sem.run_pure, Result.andThen_ok, List.map_toArray, List.map_cons, List.map_nil, e47]
    first | rfl | go_simp
  | 9, _, hs, ho, hop, hds, hdep, hK =>
    have hop : o.op = .load 24 (.tmp 7) := Option.some.inj hop
    have hu7 : a.tmps[7]? = some (.pointer (some ⟨gc, 0, none⟩)) := (hbase.2.2 7 (by decide)).trans x7
    have e7 : a.eval (.tmp 7) = _ := ev_tmp hu7
    refine st3 ho hwt (v := .agg #[.int .i64 f, .slice A n c]) (w' := w) ?_ (hK _ w rfl (Below.refl _ _))
    have k0 : w.cell? ⟨gc, 0, none⟩ = some (.int .i64 f) := (hB.below hbl hB.lt).cell rfl
    have k1 : w.cell? ⟨gc, 1, none⟩ = some (.slice A n c) := (hB.below hbl hB.lt).cell rfl
    unfold execOp
    simp only [hop, e7]
    first | rfl | go_simp | (go_simp; simp)
  | 10, _, hs, ho, hop, hds, hdep, hK =>
    have hop : o.op = .move (.tmp 10) := Option.some.inj hop
    have hu10 : a.tmps[10]? = some (.slice A8 n8 c8) := (hbase.2.2 10 (by decide)).trans x8
    have e10 : a.eval (.tmp 10) = _ := ev_tmp hu10
    refine st3 ho hwt (v := _) (w' := w) ?_ (hK _ w rfl (Below.refl _ _))
    unfold execOp
    rw [hop, ← e10]
    rfl
  | 11, _, hs, ho, hop, hds, hdep, hK =>
    have hop : o.op = .call { callee := .value (.func 39), args := #[.tmp 49, .tmp 50], argTypes := #[24, 22] } := Option.some.inj hop
    obtain ⟨u49, hu49, hv49⟩ := hdep 9 (by decide)
    have hv49' : u49 = .agg #[.int .i64 f, .slice A n c] := hv49
    subst hv49'
    have e49 : a.eval (.tmp 49) = _ := ev_tmp hu49
    obtain ⟨u50, hu50, hv50⟩ := hdep 10 (by decide)
    have hv50' : u50 = .slice A8 n8 c8 := hv50
    subst hv50'
    have e50 : a.eval (.tmp 50) = _ := ev_tmp hu50
    refine st3_call ho hwt (f := 39) (vals := #[.agg #[.int .i64 f, .slice A n c], .slice A8 n8 c8]) (Z := fun v w' => v = .int .i64 p ∧ Below w.heap.size w w') ?_ ?_ ?_
    · unfold execOp
      simp only [hop, e49, e50, resolve, invoke, Sem.run_bind, Sem.run_pure, Result.andThen_ok, List.map_toArray, List.map_cons, List.map_nil]
      first | rfl | exact enters_of Try.func39 (by kernel_rfl) rfl _ _
    · exact (votes_any f A n c ns w (hA.after hbl) A8 n8 c8 _ (h8.after hbl)).mono fun e w' ⟨he, h2⟩ => ⟨_, he, congrArg (Value.int .i64) hp, h2⟩
    · rintro v w' ⟨h1, h2⟩
      exact hK v w' h1 h2
  | 12, _, hs, ho, hop, hds, hdep, hK =>
    have hop : o.op = .binOp .eql 3 (.tmp 48) (.tmp 51) 3 := Option.some.inj hop
    obtain ⟨u48, hu48, hv48⟩ := hdep 8 (by decide)
    have hv48' : u48 = .int .i64 n8 := hv48
    subst hv48'
    have e48 : a.eval (.tmp 48) = _ := ev_tmp hu48
    obtain ⟨u51, hu51, hv51⟩ := hdep 11 (by decide)
    have hv51' : u51 = .int .i64 p := hv51
    subst hv51'
    have e51 : a.eval (.tmp 51) = _ := ev_tmp hu51
    refine st3 ho hwt (v := .bool true) (w' := w) ?_ (hK _ w rfl (Below.refl _ _))
    unfold execOp
    simp only [hop, e48, e51]
    first | rfl | go_simp | (go_simp; simp)
  | 13, _, hs, ho, hop, hds, hdep, hK =>
    have hop : o.op = .pick (.tmp 46) (.tmp 52) (.const (.bool false)) := Option.some.inj hop
    obtain ⟨u46, hu46, hv46⟩ := hdep 6 (by decide)
    have hv46' : u46 = .bool true := hv46
    subst hv46'
    have e46 : a.eval (.tmp 46) = _ := ev_tmp hu46
    obtain ⟨u52, hu52, hv52⟩ := hdep 12 (by decide)
    have hv52' : u52 = .bool true := hv52
    subst hv52'
    have e52 : a.eval (.tmp 52) = _ := ev_tmp hu52
    refine st3 ho hwt (v := .bool true) (w' := w) ?_ (hK _ w rfl (Below.refl _ _))
    unfold execOp
    simp only [hop, e46, e52]
    first | rfl | go_simp | (go_simp; simp)
  | 14, _, hs, ho, hop, hds, hdep, hK =>
    have hop : o.op = .assign (.tmp 53) := Option.some.inj hop
    obtain ⟨u53, hu53, hv53⟩ := hdep 13 (by decide)
    have hv53' : u53 = .bool true := hv53
    subst hv53'
    have e53 : a.eval (.tmp 53) = _ := ev_tmp hu53
    refine st3 ho hwt (v := _) (w' := w) ?_ (hK _ w rfl (Below.refl _ _))
    unfold execOp
    rw [hop, ← e53]
    rfl
  | i + 15, hi, _, _, _, _, _, _ => exact absurd hi (by omega)
end Go.Proofs.Ytjibbbfpbflgmaa
