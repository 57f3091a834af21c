/-
  Laid together for a hand-in: Nn14.
-/
import Derived.Test.YtmdgcimjmmnbjaaZ09

namespace Go.Proofs.Ytmdgcimjmmnbjaa
open Go.RowKit Go.Shelf Go.Sort Go.Maps CrewP
set_option linter.unusedVariables false
set_option linter.unusedSimpArgs false

/-- A crew's nodes in a row of its own. -/
def NodesV (w : World) (base : Nat) (ns : List Int) (v : Value) : Prop := ∃ ab cap cs, v = .slice (some ⟨ab, 0, none⟩) ns.length cap ∧ base ≤ ab ∧ Blk w ab 3 cs ∧ cs.take ns.length = cis ns ∧ ns.length ≤ cap ∧ cap ≤ maxLen
def MapV (w : World) (base : Nat) (v : Value) : Prop := ∃ m, v = .map (some m) ∧ base ≤ m ∧ MapT intK ptr w m ([] : List (Int × Nat))
def CrV (w : World) (base : Nat) (f : Int) (ns : List Int) (v : Value) : Prop := ∃ u, v = .agg #[.int .i64 f, u] ∧ NodesV w base ns u
def SlV (w : World) (base : Nat) (f : Int) (ns : List Int) (low : Int) (v : Value) : Prop := ∃ u k, v = .agg #[.int .i64 f, u, .int .i64 low, k] ∧ NodesV w base ns u ∧ MapV w base k
def BxV (w : World) (base : Nat) (f : Int) (ns : List Int) (low : Int) (v : Value) : Prop := ∃ g u k, v = .pointer (some ⟨g, 0, none⟩) ∧ base ≤ g ∧ Blk w g 72 [.int .i64 f, u, .int .i64 low, k] ∧ NodesV w base ns u ∧ MapV w base k
section
variable {w w' : World} {base : Nat} {f low : Int} {ns : List Int} {v : Value}
theorem NodesV.below (h : NodesV w base ns v) (hb : Below w.heap.size w w') : NodesV w' base ns v := let ⟨a, b, c, h1, h2, h3, h4⟩ := h; ⟨a, b, c, h1, h2, h3.below hb h3.lt, h4⟩
theorem MapV.below (h : MapV w base v) (hb : Below w.heap.size w w') : MapV w' base v := let ⟨m, h1, h2, h3⟩ := h; ⟨m, h1, h2, h3.below hb h3.lt⟩
theorem CrV.below (h : CrV w base f ns v) (hb : Below w.heap.size w w') : CrV w' base f ns v := let ⟨u, h1, h2⟩ := h; ⟨u, h1, h2.below hb⟩
theorem SlV.below (h : SlV w base f ns low v) (hb : Below w.heap.size w w') : SlV w' base f ns low v := let ⟨u, k, h1, h2, h3⟩ := h; ⟨u, k, h1, h2.below hb, h3.below hb⟩
theorem BxV.below (h : BxV w base f ns low v) (hb : Below w.heap.size w w') : BxV w' base f ns low v := let ⟨g, u, k, h1, h2, h3, h4, h5⟩ := h; ⟨g, u, k, h1, h2, h3.below hb h3.lt, h4.below hb, h5.below hb⟩
/-- Slots of which no number is known yet. -/
theorem BxV.slots (h : BxV w base f ns low v) (hok : (fresh0 f ns low).ok) : ∃ g ab cap m role, v = .pointer (some ⟨g, 0, none⟩) ∧ StIn w (fun b => base ≤ b ∧ b < w.heap.size) g (fresh0 f ns low) (fun _ => false) ab cap m (fun _ => 0) (fun _ => 0) (fun _ => 0) (fun _ => 0) role := by
  obtain ⟨g, u, k, h1, h2, h3, ⟨ab, cap, cs, rfl, n1, n2, n3, n4, n5⟩, m, rfl, m1, m2⟩ := h
  have hga : g ≠ ab := fun e => by
    subst e
    unfold Blk at h3 n2
    rw [h3] at n2
    injection n2 with n2
    injection n2 with _ n2
    revert n2
    decide
  have hgm : g ≠ m := m2.off h3
  have ham : ab ≠ m := m2.off n2
  refine ⟨g, ab, cap, m, (fun b => if b = g then 1 else if b = ab then 2 else if b = m then 3 else 0), h1, hok, h3, ⟨cs, n2, n3, n4, n5⟩, ?_, (fun i hi ht => by cases ht), (by simp), ?_, ?_, (fun i hi ht => by cases ht), fun b hb => ?_, fun b hb => hb.2⟩
  · have e : nums (fresh0 f ns low).low (fun _ => 0) (fun _ => false) = [] := by
      unfold nums
      simp
    rw [e]
    exact m2
  · have h4 : ¬ ab = g := fun e => hga e.symm
    simp [h4]
  · have h4 : ¬ m = g := fun e => hgm e.symm
    have h5 : ¬ m = ab := fun e => ham e.symm
    simp [h4, h5]
  · by_cases e1 : b = g
    · rw [e1]; exact ⟨h2, h3.lt⟩
    · by_cases e2 : b = ab
      · rw [e2]; exact ⟨n1, n2.lt⟩
      · by_cases e3 : b = m
        · rw [e3]; exact ⟨m1, m2.lt⟩
        · rw [if_neg e1, if_neg e2, if_neg e3] at hb
          exact absurd rfl hb
end
theorem clone_nodes {w : World} {A : Option Addr} {n c : Nat} {ns : List Int} (h : ArgI w A n c ns) (hn : n ≤ 1000) (hn0 : 0 < n) {base : Nat} (hb : base ≤ w.heap.size) : Calls Try.prog 48 #[.slice A n c] w fun e w' => ∃ v, e = .returned v ∧ NodesV w' base ns v ∧ Below w.heap.size w w' := by
  have hl := h.1
  refine (clone_any A n c ns w h (by omega)).mono ?_
  rintro e w' ⟨v, he, hN, hbel⟩
  refine ⟨v, he, ?_, hbel⟩
  rcases own_blk hN with ⟨_, h0, _⟩ | ⟨ab, cap, cs, hv, h1, h2, h3, h4, h5, h6⟩
  · omega
  · exact ⟨ab, cap, cs, hv, by omega, h2, h6, h3, h4⟩


def nwR (bx base : Nat) (A : Option Addr) (n c : Nat) (f low : Int) (ns : List Int) : Nat → Value → World → Prop
  | 0 => fun v w => v = .pointer (some ⟨bx, 0, none⟩)
  | 1 => fun v w => v = .int .i64 f
  | 2 => fun v w => v = .pointer (some ⟨bx, 1, none⟩)
  | 3 => fun v w => v = .slice A n c
  | 4 => fun v w => NodesV w base ns v
  | 5 => fun v w => CrV w base f ns v
  | 6 => fun v w => v = .int .i64 low
  | 7 => fun v w => MapV w base v
  | 8 => fun v w => SlV w base f ns low v
  | 9 => fun v w => BxV w base f ns low v
  | 10 => fun v w => BxV w base f ns low v
  | _ => fun _ _ => True
def nwD (i : Nat) : Nat := ([19, 20, 21, 22, 23, 24, 25, 26, 27, 28, 8] : List Nat).getD i 0
def nwG : Nat → Option Bool
  | _ => none
def nwS (i : Nat) : Bool := ([] : List Nat).contains i
theorem nw_gb (bx base : Nat) (A : Option Addr) (n c : Nat) (f low : Int) (ns : List Int) : ∀ i b v w, nwG i = some b → nwR bx base A n c f low ns i v w → v = .bool b := by
  intro i b v w h hR
  unfold nwG at h
  split at h
  all_goals first | (injection h with h; subst h; exact hR) | cases h
theorem nw_sk (bx base : Nat) (A : Option Addr) (n c : Nat) (f low : Int) (ns : List Int) : ∀ i w, nwS i = true → nwR bx base A n c f low ns i undef w := by
  intro i w h
  simp [nwS] at h
theorem nw_on (bx base : Nat) (A : Option Addr) (n c : Nat) (f low : Int) (ns : List Int) : ∀ i v w w', nwR bx base A n c f low ns i v w → Below w.heap.size w w' → nwR bx base A n c f low ns i v w'
  | 0, v, w, w', h, _ => h
  | 1, v, w, w', h, _ => h
  | 2, v, w, w', h, _ => h
  | 3, v, w, w', h, _ => h
  | 4, v, w, w', h, hb => NodesV.below h hb
  | 5, v, w, w', h, hb => CrV.below h hb
  | 6, v, w, w', h, _ => h
  | 7, v, w, w', h, hb => MapV.below h hb
  | 8, v, w, w', h, hb => SlV.below h hb
  | 9, v, w, w', h, hb => BxV.below h hb
  | 10, v, w, w', h, hb => BxV.below h hb
  | i + 11, v, w, w', h, hb => trivial
def nwOps : List Op := [.fieldAddr 53 (.tmp 3) 0,
  .load 3 (.tmp 19),
  .fieldAddr 53 (.tmp 3) 1,
  .load 51 (.tmp 21),
  .call { callee := .value (.func 48), args := #[.tmp 22], argTypes := #[51] },
  .build 53 #[(0, .tmp 20), (1, .tmp 23)],
  .move (.tmp 2),
  .makeMap 70 none,
  .build 72 #[(0, .tmp 24), (1, .tmp 25), (2, .tmp 26)],
  .box 72 (.tmp 27),
  .assign (.tmp 28)]
def nwNeeds : Nat → List Nat
  | 0 => []
  | 1 => [0]
  | 2 => []
  | 3 => [2]
  | 4 => [3]
  | 5 => [1, 4]
  | 6 => []
  | 7 => []
  | 8 => [5, 6, 7]
  | 9 => [8]
  | 10 => [9]
  | _ => []
set_option maxRecDepth 100000 in
set_option maxHeartbeats 3200000 in
theorem nw_step {ops : Array Oper} {Q : Exit → Act → World → Prop} {a0 : Act} {w0 : World} (bx base : Nat) (A : Option Addr) (n c : Nat) (f low : Int) (ns : List Int) (hops : ((List.range 11).map fun i => (ops[i]?).map Oper.op) = nwOps.map some)
    (hnd : ((List.range 11).all fun i => (nwNeeds i).all fun j => ((ops[i]?).map fun o => o.after.any fun e => Region.binds .any e && (e.on == j)).getD false) = true)
    (x3 : a0.tmps[3]? = some (.pointer (some ⟨bx, 0, none⟩))) (x2 : a0.tmps[2]? = some (.int .i64 low))
    (hX : Blk w0 bx 53 [.int .i64 f, .slice A n c]) (hA : ArgI w0 A n c ns) (hn : n ≤ 1000) (hn0 : 0 < n) (hbase0 : base ≤ w0.heap.size) :
    ∀ i o, i < 11 → nwS i = false → ops[i]? = some o → o.dst = some (nwD i) → ∀ a w, Base nwD 11 a0 a → Below w0.heap.size w0 w → Region.wanted o (yielded ops a.tmps) = true →
      (∀ j, (o.after.any fun e => Region.binds .any e && (e.on == j)) = true → Has nwD (nwR bx base A n c f low ns) j a w) →
      ∀ K : Act → World → Prop, (∀ v w', nwR bx base A n c f low ns i v w' → Below w.heap.size w w' → K (a.put o.dst v) w') → wpOp Try.prog ops Q i K a w := by
  intro i o hi hs ho hds a w hbase hbl hwt hdep0 K hK
  have hop : some o.op = nwOps[i]? := by
    have h1 : ((List.range 11).map fun i => (ops[i]?).map Oper.op)[i]? = some (some o.op) := by
      rw [List.getElem?_map, List.getElem?_range hi]; simp only [Option.map_some, ho]
    rw [hops, List.getElem?_map] at h1
    cases h2 : nwOps[i]? with
    | none => rw [h2] at h1; cases h1
    | some y => rw [h2] at h1; simp only [Option.map_some, Option.some.injEq] at h1; rw [h1]
  have hdep : ∀ j, j ∈ nwNeeds i → Has nwD (nwR bx base A n c f low ns) j a w := fun j hj => by
    have h1 := List.all_eq_true.1 (List.all_eq_true.1 hnd i (List.mem_range.2 hi)) j hj
    rw [ho] at h1
    exact hdep0 j h1
  clear hdep0 hops hnd
  match i, hi, hs, ho, hop, hds, hdep, hK with
  | 0, _, hs, ho, hop, hds, hdep, hK =>
    have hop : o.op = .fieldAddr 53 (.tmp 3) 0 := Option.some.inj hop
    have hu3 : a.tmps[3]? = some (.pointer (some ⟨bx, 0, none⟩)) := (hbase.2.2 3 (by decide)).trans x3
    have e3 : a.eval (.tmp 3) = _ := ev_tmp hu3
    refine st3 ho hwt (v := .pointer (some ⟨bx, 0, none⟩)) (w' := w) ?_ (hK _ w rfl (Below.refl _ _))
    unfold execOp
    simp only [hop, Option.map_some, Option.map_none, e3]
    first | rfl | (go_simp; done) | (go_simp; simp; done) | (go_simp; intro h; omega)
  | 1, _, hs, ho, hop, hds, hdep, hK =>
    have hop : o.op = .load 3 (.tmp 19) := Option.some.inj hop
    obtain ⟨u19, hu19, hv19⟩ := hdep 0 (by decide)
    have hv19' : u19 = .pointer (some ⟨bx, 0, none⟩) := hv19
    subst hv19'
    have e19 : a.eval (.tmp 19) = _ := ev_tmp hu19
    refine st3 ho hwt (v := .int .i64 f) (w' := w) ?_ (hK _ w rfl (Below.refl _ _))
    have k0 : w.cell? ⟨bx, 0, none⟩ = some (.int .i64 f) := (hX.below hbl hX.lt).cell rfl
    unfold execOp
    simp only [hop, Option.map_some, Option.map_none, e19]
    first | rfl | (go_simp; done) | (go_simp; simp; done) | (go_simp; intro h; omega)
  | 2, _, hs, ho, hop, hds, hdep, hK =>
    have hop : o.op = .fieldAddr 53 (.tmp 3) 1 := Option.some.inj hop
    have hu3 : a.tmps[3]? = some (.pointer (some ⟨bx, 0, none⟩)) := (hbase.2.2 3 (by decide)).trans x3
    have e3 : a.eval (.tmp 3) = _ := ev_tmp hu3
    refine st3 ho hwt (v := .pointer (some ⟨bx, 1, none⟩)) (w' := w) ?_ (hK _ w rfl (Below.refl _ _))
    unfold execOp
    simp only [hop, Option.map_some, Option.map_none, e3]
    first | rfl | (go_simp; done) | (go_simp; simp; done) | (go_simp; intro h; omega)
  | 3, _, hs, ho, hop, hds, hdep, hK =>
    have hop : o.op = .load 51 (.tmp 21) := Option.some.inj hop
    obtain ⟨u21, hu21, hv21⟩ := hdep 2 (by decide)
    have hv21' : u21 = .pointer (some ⟨bx, 1, none⟩) := hv21
    subst hv21'
    have e21 : a.eval (.tmp 21) = _ := ev_tmp hu21
    refine st3 ho hwt (v := .slice A n c) (w' := w) ?_ (hK _ w rfl (Below.refl _ _))
    have k1 : w.cell? ⟨bx, 1, none⟩ = some (.slice A n c) := (hX.below hbl hX.lt).cell rfl
    unfold execOp
    simp only [hop, Option.map_some, Option.map_none, e21]
    first | rfl | (go_simp; done) | (go_simp; simp; done) | (go_simp; intro h; omega)
  | 4, _, hs, ho, hop, hds, hdep, hK =>
    have hop : o.op = .call { callee := .value (.func 48), args := #[.tmp 22], argTypes := #[51] } := Option.some.inj hop
    obtain ⟨u22, hu22, hv22⟩ := hdep 3 (by decide)
    have hv22' : u22 = .slice A n c := hv22
    subst hv22'
    have e22 : a.eval (.tmp 22) = _ := ev_tmp hu22
    refine st3_call ho hwt (f := 48) (vals := #[.slice A n c]) (Z := fun v w' => NodesV w' base ns v ∧ Below w.heap.size w w') ?_ ?_ ?_
    · unfold execOp
      simp only [hop, e22, resolve, invoke, Sem.run_bind, Sem.run_pure, Result.andThen_ok, List.map_toArray, List.map_cons, List.map_nil]
      first | rfl | exact enters_of Try.func48 (by kernel_rfl) rfl _ _
    · exact (clone_nodes (hA.after hbl) hn hn0 (Nat.le_trans hbase0 hbl.size)).mono fun e w' ⟨v, he, h1, h2⟩ => ⟨v, he, h1, h2⟩
    · rintro v w' ⟨h1, h2⟩
      exact hK v w' h1 h2
  | 5, _, hs, ho, hop, hds, hdep, hK =>
    have hop : o.op = .build 53 #[(0, .tmp 20), (1, .tmp 23)] := Option.some.inj hop
    obtain ⟨u20, hu20, hv20⟩ := hdep 1 (by decide)
    have hv20' : u20 = .int .i64 f := hv20
    subst hv20'
    have e20 : a.eval (.tmp 20) = _ := ev_tmp hu20
    obtain ⟨u23, hu23, hv23⟩ := hdep 4 (by decide)
    have hv23' : NodesV w base ns u23 := hv23
    have e23 : a.eval (.tmp 23) = _ := ev_tmp hu23
    have hb : (Try.prog).built 53 [(0, Value.int .i64 f), (1, u23)] = some #[.int .i64 f, u23] := by obtain ⟨ab, cap, cs, rfl, _⟩ := hv23'; kernel_rfl
    exact st3 ho hwt (exec_build 53 _ hop _ (show (Try.prog).built 53 [(0, a.eval (.tmp 20)), (1, a.eval (.tmp 23))] = _ from by rw [e20, e23]; exact hb) w) (hK _ w ⟨u23, rfl, hv23'⟩ (Below.refl _ _))
  | 6, _, hs, ho, hop, hds, hdep, hK =>
    have hop : o.op = .move (.tmp 2) := Option.some.inj hop
    have hu2 : a.tmps[2]? = some (.int .i64 low) := (hbase.2.2 2 (by decide)).trans x2
    have e2 : a.eval (.tmp 2) = _ := ev_tmp hu2
    refine st3 ho hwt (v := _) (w' := w) ?_ (hK _ w rfl (Below.refl _ _))
    unfold execOp
    rw [hop, ← e2]
    rfl
  | 7, _, hs, ho, hop, hds, hdep, hK =>
    have hop : o.op = .makeMap 70 none := Option.some.inj hop
    have hmm := run_makeMap (P := Try.prog) 70 w
    refine st3 ho hwt (v := .map (some w.heap.size)) (w' := w.alloc (.map #[] 0)) ?_ (hK _ _ ⟨w.heap.size, rfl, Nat.le_trans hbase0 hbl.size, MapT.made w⟩ ((Below.refl _ _).alloc (Nat.le_refl _) _))
    unfold execOp
    simp only [hop, Option.map_none]
    go_simp
  | 8, _, hs, ho, hop, hds, hdep, hK =>
    have hop : o.op = .build 72 #[(0, .tmp 24), (1, .tmp 25), (2, .tmp 26)] := Option.some.inj hop
    obtain ⟨u24, hu24, hv24⟩ := hdep 5 (by decide)
    have hv24' : CrV w base f ns u24 := hv24
    have e24 : a.eval (.tmp 24) = _ := ev_tmp hu24
    obtain ⟨u25, hu25, hv25⟩ := hdep 6 (by decide)
    have hv25' : u25 = .int .i64 low := hv25
    subst hv25'
    have e25 : a.eval (.tmp 25) = _ := ev_tmp hu25
    obtain ⟨u26, hu26, hv26⟩ := hdep 7 (by decide)
    have hv26' : MapV w base u26 := hv26
    have e26 : a.eval (.tmp 26) = _ := ev_tmp hu26
    obtain ⟨uu, hu1, hu2⟩ := hv24'
    obtain ⟨mm, hm1, hm2⟩ := hv26'
    subst hu1 hm1
    have hb : (Try.prog).built 72 [(0, .agg #[.int .i64 f, uu]), (1, .int .i64 low), (2, .map (some mm))] = some #[.int .i64 f, uu, .int .i64 low, .map (some mm)] := by obtain ⟨ab, cap, cs, rfl, _⟩ := hu2; kernel_rfl
    exact st3 ho hwt (exec_build 72 _ hop _ (show (Try.prog).built 72 [(0, a.eval (.tmp 24)), (1, a.eval (.tmp 25)), (2, a.eval (.tmp 26))] = _ from by rw [e24, e25, e26]; exact hb) w) (hK _ w ⟨uu, _, rfl, hu2, mm, rfl, hm2⟩ (Below.refl _ _))
  | 9, _, hs, ho, hop, hds, hdep, hK =>
    have hop : o.op = .box 72 (.tmp 27) := Option.some.inj hop
    obtain ⟨u27, hu27, hv27⟩ := hdep 8 (by decide)
    have hv27' : SlV w base f ns low u27 := hv27
    have e27 : a.eval (.tmp 27) = _ := ev_tmp hu27
    obtain ⟨uu, kk, rfl, hn1, hm1⟩ := hv27'
    have hal : Below w.heap.size w (w.alloc (.cells #[.int .i64 f, uu, .int .i64 low, kk] 72)) := (Below.refl _ _).alloc (Nat.le_refl _) _
    refine st3 ho hwt (v := .pointer (some ⟨w.heap.size, 0, none⟩)) (w' := w.alloc (.cells #[.int .i64 f, uu, .int .i64 low, kk] 72)) ?_ (hK _ _ ⟨w.heap.size, uu, kk, rfl, Nat.le_trans hbase0 hbl.size, Blk.new rfl rfl, hn1.below hal, hm1.below hal⟩ hal)
    unfold execOp
    simp only [hop, e27]
    go_simp
    try rfl
  | 10, _, hs, ho, hop, hds, hdep, hK =>
    have hop : o.op = .assign (.tmp 28) := Option.some.inj hop
    obtain ⟨u28, hu28, hv28⟩ := hdep 9 (by decide)
    have hv28' : BxV w base f ns low u28 := hv28
    have e28 : a.eval (.tmp 28) = _ := ev_tmp hu28
    refine st3 ho hwt (v := _) (w' := w) ?_ (hK _ w hv28 (Below.refl _ _))
    unfold execOp
    rw [hop, ← e28]
    rfl
  | i + 11, hi, _, _, _, _, _, _ => exact absurd hi (by omega)

/-- What New refuses. -/
def newE (f : Int) (ns : List Int) (self low : Int) : Int := if hasR f ns self = false then 110 else if low < 0 ∨ 9007199254740983 < low then 9 else 0
theorem fresh_has {f : Int} {ns : List Int} {self low : Int} (h : newE f ns self low = 0) : (fresh0 f ns low).ok := by
  unfold newE at h
  cases hh : hasR f ns self with
  | false => rw [hh, if_pos rfl] at h; cases h
  | true =>
    rw [hh, if_neg (by simp)] at h
    by_cases hl : low < 0 ∨ 9007199254740983 < low
    · rw [if_pos hl] at h; cases h
    · have hok : okC f ns = true := by
        unfold hasR at hh
        rw [Bool.and_eq_true] at hh
        exact hh.1
      rw [okC_iff] at hok
      exact fresh_ok hok.1.1 hok.1.2.1 hok.1.2.2 hok.2.2 hok.2.1 (by omega) (by omega)
theorem fill_fresh (f : Int) (ns : List Int) (low : Int) : fillS (fresh0 f ns low) (fun _ => false) = fresh0 f ns low := by
  unfold fillS fresh0
  simp
/-- What New answers. -/
def NewR (w : World) (E : Int) (f : Int) (ns : List Int) (low : Int) (e : Ending) (w' : World) : Prop := Below w.heap.size w w' ∧
  ((E ≠ 0 ∧ e = .returned (.tuple #[.pointer none, .int .i64 E])) ∨ (E = 0 ∧ ∃ g, e = .returned (.tuple #[.pointer (some ⟨g, 0, none⟩), .int .i64 0]) ∧ StAt w' (fun b => w.heap.size ≤ b ∧ b < w'.heap.size) g (fresh0 f ns low)))
set_option maxRecDepth 100000 in
set_option maxHeartbeats 3200000 in
theorem new_any {w : World} {A : Option Addr} {n c : Nat} {f : Int} {ns : List Int} (hA : ArgI w A n c ns) (self low : Int) (hlw : Wf low) :
    Calls Try.prog 22 #[.agg #[.int .i64 f, .slice A n c], .int .i64 self, .int .i64 low] w (NewR w (newE f ns self low) f ns low) := by
  have hb0 : Below w.heap.size w (w.alloc (.cells #[.int .i64 f, .slice A n c] 53)) := (Below.refl _ _).alloc (Nat.le_refl _) _
  have X0 : Blk (w.alloc (.cells #[.int .i64 f, .slice A n c] 53)) w.heap.size 53 [.int .i64 f, .slice A n c] := Blk.new rfl rfl
  have A0 := hA.after hb0
  have hh := has_any f A n c ns _ A0 self
  have H := Lib.hid (And.intro hb0 (And.intro X0 A0))
  have hbd := bounds_i64 hlw
  obtain ⟨b, hb⟩ : ∃ b, hasR f ns self = b := ⟨_, rfl⟩
  rw [hb] at hh
  have Hh := Lib.hid hh
  cases b with
  | false =>
    have hE : newE f ns self low = 110 := by unfold newE; rw [hb, if_pos rfl]
    rw [hE]
    clear hb0 X0 A0 hh hb hE hA
    go_enter Try.func22, Try.ntmps22
    go_wp2_with (go_at_call 47; refine Hh.out.mono ?_; rintro e w1 ⟨rfl, hb1⟩; replace hb1 := Lib.hid hb1)
    go_ret2
    exact ⟨H.out.1.trans (hb1.out.mono H.out.1.size), .inl ⟨by decide, rfl⟩⟩
  | true =>
    by_cases hl : low < 0 ∨ 9007199254740983 < low
    · have hE : newE f ns self low = 9 := by unfold newE; rw [hb, if_neg (by simp), if_pos hl]
      rw [hE]
      clear hb0 X0 A0 hh hb hE hA
      by_cases h1 : low < 0
      · go_enter Try.func22, Try.ntmps22
        go_wp2_with (go_at_call 47; refine Hh.out.mono ?_; rintro e w1 ⟨rfl, hb1⟩; replace hb1 := Lib.hid hb1)
        go_ret2
        exact ⟨H.out.1.trans (hb1.out.mono H.out.1.size), .inl ⟨by decide, rfl⟩⟩
      · have h2 : low > 9007199254740983 := by omega
        have h3 : (9007199254740983 : Int) < low := h2
        go_enter Try.func22, Try.ntmps22
        go_wp2_with (go_at_call 47; refine Hh.out.mono ?_; rintro e w1 ⟨rfl, hb1⟩; replace hb1 := Lib.hid hb1)
        go_ret2
        exact ⟨H.out.1.trans (hb1.out.mono H.out.1.size), .inl ⟨by decide, rfl⟩⟩
    · have hE : newE f ns self low = 0 := by unfold newE; rw [hb, if_neg (by simp), if_neg hl]
      have hok := fresh_has hE
      rw [hE]
      have h1 : ¬ low < 0 := by omega
      have h2 : ¬ low > 9007199254740983 := by omega
      have h3 : ¬ (9007199254740983 : Int) < low := h2
      have hln := hA.1
      have hlen := hok.len
      have hff := hok.f1
      have hf0 := hok.f0
      have hN := Lib.hid (And.intro hok (And.intro (show n ≤ 1000 by simp only [fresh0] at hlen hff; omega) (show 0 < n by simp only [fresh0] at hlen hf0; omega)))
      clear hb0 X0 A0 hh hb hE hA hok hln hlen hff hf0 hl
      go_enter Try.func22, Try.ntmps22
      have k0 := fun o : Obj => H.out.2.1
      go_wp2_with (first
        | (go_at_call 47; refine Hh.out.mono ?_; rintro e w1 ⟨rfl, hb1⟩; replace hb1 := Lib.hid (And.intro hb1 (And.intro (H.out.2.1.below hb1 H.out.2.1.lt) (H.out.2.2.after hb1)))))
      refine region_rule4 (P := Try.prog) 11 32 nwD nwG nwS (nwR w.heap.size (w.heap.size + 1) A n c f low ns) _ _ (by kernel_rfl) rfl rfl (by kernel_rfl) (by decide +kernel) (nw_gb w.heap.size (w.heap.size + 1) A n c f low ns) (nw_sk w.heap.size (w.heap.size + 1) A n c f low ns) (nw_on w.heap.size (w.heap.size + 1) A n c f low ns) (nw_step w.heap.size (w.heap.size + 1) A n c f low ns (by rfl) (by kernel_rfl) rfl rfl hb1.out.2.1 hb1.out.2.2 hN.out.2.1 hN.out.2.2 (by have := hb1.out.1.size; simp at this; omega)) ?fin
      case fin =>
        intro a w6 hbase hbl hall
        obtain ⟨v8, hv8, hR8⟩ := hall 10 (by decide)
        obtain ⟨g, ab, cap, m, role, rfl, hst⟩ := BxV.slots hR8 hN.out.1
        obtain ⟨gg, hgge, hgg⟩ := base_lit hbase [19, 20, 21, 22, 23, 24, 25, 26, 27, 28, 8] (by rfl)
        have q8 : gg 8 = .pointer (some ⟨g, 0, none⟩) := hgge 8 _ hv8
        simp only [List.foldl_cons, List.foldl_nil, List.setIfInBounds_toArray, List.set_cons_zero, List.set_cons_succ, q8] at hgg
        rw [hgg]
        have b6 := H.out.1.trans ((hb1.out.1.trans (hbl.mono hb1.out.1.size)).mono H.out.1.size)
        have hmge : Hid (w.heap.size ≤ m) := Lib.hid (by have := (hst.u m (by rw [hst.rm]; omega)).1; omega)
        have HO := Lib.hid (open_in hst)
        have H6 := Lib.hid b6
        clear hst b6 hall hbase hbl
        go_wp2_with fail
        refine HO.out.mono ?_
        rintro e w7 ⟨rfl, h7, o7⟩
        have H7 := Lib.hid (And.intro h7 o7)
        clear h7 o7
        go_wp2
        go_ret2
        obtain ⟨h7, o7⟩ := H7.out
        rw [fill_fresh] at h7
        have hz := H6.out.size
        have hz7 := o7.size
        refine ⟨H6.out.trans (o7.above (fun i hi => by have := hmge.out; omega) H6.out.size), .inr ⟨rfl, g, rfl, ?_⟩⟩
        refine h7.wide (fun i hi => ?_) fun i hi => hi.2
        rcases hi with h | h
        · exact ⟨by omega, by omega⟩
        · exact ⟨by omega, h.2⟩
end Go.Proofs.Ytmdgcimjmmnbjaa
