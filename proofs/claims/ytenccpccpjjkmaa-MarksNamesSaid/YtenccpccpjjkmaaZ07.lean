/-
  Laid together for a hand-in: Nw15, He15, Bp15.
-/
import Derived.Test.YtenccpccpjjkmaaZ06
import Derived.Test.YtenccpccpjjkmaaZ05
import Derived.Test.YtenccpccpjjkmaaZ04
import Derived.WideKeyEntry

namespace Go.Proofs.Ytenccpccpjjkmaa
open Go.RowKit Go.Shelf Go.Sort Go.Maps CrewP
set_option linter.unusedVariables false
set_option linter.unusedSimpArgs false

/-- A crew's nodes in a row of its own. -/
def NodesV (w : World) (base : Nat) (ns : List Int) (v : Value) : Prop := ∃ ab cap cs, v = .slice (some ⟨ab, 0, none⟩) ns.length cap ∧ base ≤ ab ∧ Blk w ab 3 cs ∧ cs.take ns.length = cis ns ∧ ns.length ≤ cap ∧ cap ≤ maxLen
def MapV (w : World) (base : Nat) (v : Value) : Prop := ∃ m, v = .map (some m) ∧ base ≤ m ∧ MapT intK slV w m ([] : List (Int × Sl))
def CrV (w : World) (base : Nat) (f : Int) (ns : List Int) (v : Value) : Prop := ∃ u, v = .agg #[.int .i64 f, u] ∧ NodesV w base ns u
def msU (f : Int) (u : Value) (lo : Mk) (k : Value) : List Value := .int .i64 f :: u :: (mkC lo ++ [k])
def SlV (w : World) (base : Nat) (f : Int) (ns : List Int) (lo : Mk) (v : Value) : Prop := ∃ u k, v = .agg (msU f u lo k).toArray ∧ NodesV w base ns u ∧ MapV w base k
def BxV (w : World) (base : Nat) (f : Int) (ns : List Int) (lo : Mk) (v : Value) : Prop := ∃ g u k, v = .pointer (some ⟨g, 0, none⟩) ∧ base ≤ g ∧ Blk w g 64 (msU f u lo k) ∧ NodesV w base ns u ∧ MapV w base k
section
variable {w w' : World} {base : Nat} {f : Int} {lo : Mk} {ns : List Int} {v : Value}
theorem NodesV.below (h : NodesV w base ns v) (hb : Below w.heap.size w w') : NodesV w' base ns v := let ⟨a, b, c, h1, h2, h3, h4⟩ := h; ⟨a, b, c, h1, h2, h3.below hb h3.lt, h4⟩
theorem MapV.below (h : MapV w base v) (hb : Below w.heap.size w w') : MapV w' base v := let ⟨m, h1, h2, h3⟩ := h; ⟨m, h1, h2, h3.below hb h3.lt⟩
theorem CrV.below (h : CrV w base f ns v) (hb : Below w.heap.size w w') : CrV w' base f ns v := let ⟨u, h1, h2⟩ := h; ⟨u, h1, h2.below hb⟩
theorem SlV.below (h : SlV w base f ns lo v) (hb : Below w.heap.size w w') : SlV w' base f ns lo v := let ⟨u, k, h1, h2, h3⟩ := h; ⟨u, k, h1, h2.below hb, h3.below hb⟩
theorem BxV.below (h : BxV w base f ns lo v) (hb : Below w.heap.size w w') : BxV w' base f ns lo v := let ⟨g, u, k, h1, h2, h3, h4, h5⟩ := h; ⟨g, u, k, h1, h2, h3.below hb h3.lt, h4.below hb, h5.below hb⟩
/-- Marks of which no node told any. -/
theorem BxV.marks (h : BxV w base f ns lo v) (hok : (newM f ns lo).ok) : ∃ g, v = .pointer (some ⟨g, 0, none⟩) ∧ MsAt w (fun b => base ≤ b ∧ b < w.heap.size) g (newM f ns lo) := by
  obtain ⟨g, u, k, h1, h2, h3, ⟨ab, cap, cs, rfl, n1, n2, n3, n4, n5⟩, m, rfl, m1, m2⟩ := h
  have hga : g ≠ ab := fun e => by
    subst e
    unfold Blk at h3 n2
    rw [h3] at n2
    injection n2 with n2
    injection n2 with _ n2
    revert n2
    decide
  have hgm : g ≠ m := m2.off h3
  have ham : ab ≠ m := m2.off n2
  refine ⟨g, h1, ab, cap, m, [], (fun b => if b = g then 1 else if b = ab then 2 else if b = m then 3 else 0), ⟨hok, h3, ⟨cs, n2, n3, n4, n5⟩, m2, (fun p hp => by cases hp), (fun p hp => by cases hp), fun _ _ => rfl, by simp, ?_, ?_, (fun p hp => by cases hp), fun b hb => ?_, fun b hb => hb.2⟩⟩
  · have h4 : ¬ ab = g := fun e => hga e.symm
    simp [h4]
  · have h4 : ¬ m = g := fun e => hgm e.symm
    have h5 : ¬ m = ab := fun e => ham e.symm
    simp [h4, h5]
  · by_cases e1 : b = g
    · rw [e1]; exact ⟨h2, h3.lt⟩
    · by_cases e2 : b = ab
      · rw [e2]; exact ⟨n1, n2.lt⟩
      · by_cases e3 : b = m
        · rw [e3]; exact ⟨m1, m2.lt⟩
        · rw [if_neg e1, if_neg e2, if_neg e3] at hb
          exact absurd rfl hb
end
theorem clone_nodes {w : World} {A : Option Addr} {n c : Nat} {ns : List Int} (h : ArgI w A n c ns) (hn : n ≤ 1000) (hn0 : 0 < n) {base : Nat} (hb : base ≤ w.heap.size) : Calls Try.prog 28 #[.slice A n c] w fun e w' => ∃ v, e = .returned v ∧ NodesV w' base ns v ∧ Below w.heap.size w w' := by
  have hl := h.1
  refine (clone_any A n c ns w h (by omega)).mono ?_
  rintro e w' ⟨v, he, hN, hbel⟩
  refine ⟨v, he, ?_, hbel⟩
  rcases own_blk hN with ⟨_, h0, _⟩ | ⟨ab, cap, cs, hv, h1, h2, h3, h4, h5, h6⟩
  · omega
  · exact ⟨ab, cap, cs, hv, by omega, h2, h6, h3, h4⟩
theorem built_crew (f : Int) (a n c : Nat) : Try.prog.built 24 [(0, Value.int .i64 f), (1, .slice (some ⟨a, 0, none⟩) n c)] = some #[.int .i64 f, .slice (some ⟨a, 0, none⟩) n c] := by kernel_rfl
theorem built_marks (f : Int) (a n c : Nat) (lo : Mk) (m : Nat) : Try.prog.built 64 [(0, .agg #[.int .i64 f, .slice (some ⟨a, 0, none⟩) n c]), (1, .agg (mkC lo).toArray), (2, .map (some m))] = some (msU f (.slice (some ⟨a, 0, none⟩) n c) lo (.map (some m))).toArray := by
  obtain ⟨s, d, hs, h⟩ := lo
  obtain ⟨a0, a1, a2, a3, a4, a5, a6, a7, a8, a9, a10, a11, a12, a13, a14, a15, a16, a17, a18, a19, a20, a21, a22, a23, a24, a25, a26, a27, a28, a29, a30, a31, rfl⟩ := thirty2 d h
  kernel_rfl
theorem marks_info : (Try.prog.info? 64).map (·.size) = some 36 := by kernel_rfl

def nwR (bx bm base : Nat) (A : Option Addr) (n c : Nat) (f : Int) (lo : Mk) (ns : List Int) : Nat → Value → World → Prop
  | 0 => fun v w => v = .pointer (some ⟨bx, 0, none⟩)
  | 1 => fun v w => v = .int .i64 f
  | 2 => fun v w => v = .pointer (some ⟨bx, 1, none⟩)
  | 3 => fun v w => v = .slice A n c
  | 4 => fun v w => NodesV w base ns v
  | 5 => fun v w => CrV w base f ns v
  | 6 => fun v w => v = .agg (mkC lo).toArray
  | 7 => fun v w => MapV w base v
  | 8 => fun v w => SlV w base f ns lo v
  | 9 => fun v w => BxV w base f ns lo v
  | 10 => fun v w => BxV w base f ns lo v
  | 11 => fun v w => v = (.int .i64 0)
  | _ => fun _ _ => True
def nwD (i : Nat) : Nat := ([17, 18, 19, 20, 21, 22, 23, 24, 25, 26, 4, 5] : List Nat).getD i 0
def nwG : Nat → Option Bool
  | _ => none
def nwS (i : Nat) : Bool := ([] : List Nat).contains i
theorem nw_gb (bx bm base : Nat) (A : Option Addr) (n c : Nat) (f : Int) (lo : Mk) (ns : List Int) : ∀ i b v w, nwG i = some b → nwR bx bm base A n c f lo ns i v w → v = .bool b := by
  intro i b v w h hR
  unfold nwG at h
  split at h
  all_goals first | (injection h with h; subst h; exact hR) | cases h
theorem nw_sk (bx bm base : Nat) (A : Option Addr) (n c : Nat) (f : Int) (lo : Mk) (ns : List Int) : ∀ i w, nwS i = true → nwR bx bm base A n c f lo ns i undef w := by
  intro i w h
  simp [nwS] at h
theorem nw_on (bx bm base : Nat) (A : Option Addr) (n c : Nat) (f : Int) (lo : Mk) (ns : List Int) : ∀ i v w w', nwR bx bm base A n c f lo ns i v w → Below w.heap.size w w' → nwR bx bm base A n c f lo ns i v w'
  | 0, v, w, w', h, _ => h
  | 1, v, w, w', h, _ => h
  | 2, v, w, w', h, _ => h
  | 3, v, w, w', h, _ => h
  | 4, v, w, w', h, hb => NodesV.below h hb
  | 5, v, w, w', h, hb => CrV.below h hb
  | 6, v, w, w', h, _ => h
  | 7, v, w, w', h, hb => MapV.below h hb
  | 8, v, w, w', h, hb => SlV.below h hb
  | 9, v, w, w', h, hb => BxV.below h hb
  | 10, v, w, w', h, hb => BxV.below h hb
  | 11, v, w, w', h, _ => h
  | i + 12, v, w, w', h, hb => trivial
def nwOps : List Op := [.fieldAddr 24 (.tmp 2) 0,
  .load 3 (.tmp 17),
  .fieldAddr 24 (.tmp 2) 1,
  .load 22 (.tmp 19),
  .call { callee := .value (.func 28), args := #[.tmp 20], argTypes := #[22] },
  .build 24 #[(0, .tmp 18), (1, .tmp 21)],
  .load 28 (.tmp 3),
  .makeMap 62 none,
  .build 64 #[(0, .tmp 22), (1, .tmp 23), (2, .tmp 24)],
  .box 64 (.tmp 25),
  .assign (.tmp 26),
  .assign (.const (.int .i64 0))]
def nwNeeds : Nat → List Nat
  | 0 => []
  | 1 => [0]
  | 2 => []
  | 3 => [2]
  | 4 => [3]
  | 5 => [1, 4]
  | 6 => []
  | 7 => []
  | 8 => [5, 6, 7]
  | 9 => [8]
  | 10 => [9]
  | 11 => []
  | _ => []
set_option maxRecDepth 100000 in
set_option maxHeartbeats 3200000 in
theorem nw_step {ops : Array Oper} {Q : Exit → Act → World → Prop} {a0 : Act} {w0 : World} (bx bm base : Nat) (A : Option Addr) (n c : Nat) (f : Int) (lo : Mk) (ns : List Int) (hops : ((List.range 12).map fun i => (ops[i]?).map Oper.op) = nwOps.map some)
    (hnd : ((List.range 12).all fun i => (nwNeeds i).all fun j => ((ops[i]?).map fun o => o.after.any fun e => Region.binds .any e && (e.on == j)).getD false) = true)
    (x2 : a0.tmps[2]? = some (.pointer (some ⟨bx, 0, none⟩))) (x3 : a0.tmps[3]? = some (.pointer (some ⟨bm, 0, none⟩)))
    (hX : Blk w0 bx 24 [.int .i64 f, .slice A n c]) (hM : Blk w0 bm 28 (mkC lo)) (hA : ArgI w0 A n c ns) (hn : n ≤ 1000) (hn0 : 0 < n) (hbase0 : base ≤ w0.heap.size) :
    ∀ i o, i < 12 → nwS i = false → ops[i]? = some o → o.dst = some (nwD i) → ∀ a w, Base nwD 12 a0 a → Below w0.heap.size w0 w → Region.wanted o (yielded ops a.tmps) = true →
      (∀ j, (o.after.any fun e => Region.binds .any e && (e.on == j)) = true → Has nwD (nwR bx bm base A n c f lo ns) j a w) →
      ∀ K : Act → World → Prop, (∀ v w', nwR bx bm base A n c f lo ns i v w' → Below w.heap.size w w' → K (a.put o.dst v) w') → wpOp Try.prog ops Q i K a w := by
  intro i o hi hs ho hds a w hbase hbl hwt hdep0 K hK
  have hop : some o.op = nwOps[i]? := by
    have h1 : ((List.range 12).map fun i => (ops[i]?).map Oper.op)[i]? = some (some o.op) := by
      rw [List.getElem?_map, List.getElem?_range hi]; simp only [Option.map_some, ho]
    rw [hops, List.getElem?_map] at h1
    cases h2 : nwOps[i]? with
    | none => rw [h2] at h1; cases h1
    | some y => rw [h2] at h1; simp only [Option.map_some, Option.some.injEq] at h1; rw [h1]
  have hdep : ∀ j, j ∈ nwNeeds i → Has nwD (nwR bx bm base A n c f lo ns) j a w := fun j hj => by
    have h1 := List.all_eq_true.1 (List.all_eq_true.1 hnd i (List.mem_range.2 hi)) j hj
    rw [ho] at h1
    exact hdep0 j h1
  clear hdep0 hops hnd
  match i, hi, hs, ho, hop, hds, hdep, hK with
  | 0, _, hs, ho, hop, hds, hdep, hK =>
    have hop : o.op = .fieldAddr 24 (.tmp 2) 0 := Option.some.inj hop
    have hu2 : a.tmps[2]? = some (.pointer (some ⟨bx, 0, none⟩)) := (hbase.2.2 2 (by decide)).trans x2
    have e2 : a.eval (.tmp 2) = _ := ev_tmp hu2
    refine st3 ho hwt (v := .pointer (some ⟨bx, 0, none⟩)) (w' := w) ?_ (hK _ w rfl (Below.refl _ _))
    unfold execOp
    simp only [hop, Option.map_some, Option.map_none, e2]
    first | rfl | (go_simp; done) | (go_simp; simp; done) | (go_simp; intro h; omega)
  | 1, _, hs, ho, hop, hds, hdep, hK =>
    have hop : o.op = .load 3 (.tmp 17) := Option.some.inj hop
    obtain ⟨u17, hu17, hv17⟩ := hdep 0 (by decide)
    have hv17' : u17 = .pointer (some ⟨bx, 0, none⟩) := hv17
    subst hv17'
    have e17 : a.eval (.tmp 17) = _ := ev_tmp hu17
    refine st3 ho hwt (v := .int .i64 f) (w' := w) ?_ (hK _ w rfl (Below.refl _ _))
    have k0 : w.cell? ⟨bx, 0, none⟩ = some (.int .i64 f) := (hX.below hbl hX.lt).cell rfl
    unfold execOp
    simp only [hop, Option.map_some, Option.map_none, e17]
    first | rfl | (go_simp; done) | (go_simp; simp; done) | (go_simp; intro h; omega)
  | 2, _, hs, ho, hop, hds, hdep, hK =>
    have hop : o.op = .fieldAddr 24 (.tmp 2) 1 := Option.some.inj hop
    have hu2 : a.tmps[2]? = some (.pointer (some ⟨bx, 0, none⟩)) := (hbase.2.2 2 (by decide)).trans x2
    have e2 : a.eval (.tmp 2) = _ := ev_tmp hu2
    refine st3 ho hwt (v := .pointer (some ⟨bx, 1, none⟩)) (w' := w) ?_ (hK _ w rfl (Below.refl _ _))
    unfold execOp
    simp only [hop, Option.map_some, Option.map_none, e2]
    first | rfl | (go_simp; done) | (go_simp; simp; done) | (go_simp; intro h; omega)
  | 3, _, hs, ho, hop, hds, hdep, hK =>
    have hop : o.op = .load 22 (.tmp 19) := Option.some.inj hop
    obtain ⟨u19, hu19, hv19⟩ := hdep 2 (by decide)
    have hv19' : u19 = .pointer (some ⟨bx, 1, none⟩) := hv19
    subst hv19'
    have e19 : a.eval (.tmp 19) = _ := ev_tmp hu19
    refine st3 ho hwt (v := .slice A n c) (w' := w) ?_ (hK _ w rfl (Below.refl _ _))
    have k1 : w.cell? ⟨bx, 1, none⟩ = some (.slice A n c) := (hX.below hbl hX.lt).cell rfl
    unfold execOp
    simp only [hop, Option.map_some, Option.map_none, e19]
    first | rfl | (go_simp; done) | (go_simp; simp; done) | (go_simp; intro h; omega)
  | 4, _, hs, ho, hop, hds, hdep, hK =>
    have hop : o.op = .call { callee := .value (.func 28), args := #[.tmp 20], argTypes := #[22] } := Option.some.inj hop
    obtain ⟨u20, hu20, hv20⟩ := hdep 3 (by decide)
    have hv20' : u20 = .slice A n c := hv20
    subst hv20'
    have e20 : a.eval (.tmp 20) = _ := ev_tmp hu20
    refine st3_call ho hwt (f := 28) (vals := #[.slice A n c]) (Z := fun v w' => NodesV w' base ns v ∧ Below w.heap.size w w') ?_ ?_ ?_
    · unfold execOp
      simp only [hop, e20, resolve, invoke, Sem.run_bind, Sem.run_pure, Result.andThen_ok, List.map_toArray, List.map_cons, List.map_nil]
      first | rfl | exact enters_of Try.func28 (by kernel_rfl) rfl _ _
    · exact (clone_nodes (hA.after hbl) hn hn0 (Nat.le_trans hbase0 hbl.size)).mono fun e w' ⟨v, he, h1, h2⟩ => ⟨v, he, h1, h2⟩
    · rintro v w' ⟨h1, h2⟩
      exact hK v w' h1 h2
  | 5, _, hs, ho, hop, hds, hdep, hK =>
    have hop : o.op = .build 24 #[(0, .tmp 18), (1, .tmp 21)] := Option.some.inj hop
    obtain ⟨u18, hu18, hv18⟩ := hdep 1 (by decide)
    have hv18' : u18 = .int .i64 f := hv18
    subst hv18'
    have e18 : a.eval (.tmp 18) = _ := ev_tmp hu18
    obtain ⟨u21, hu21, hv21⟩ := hdep 4 (by decide)
    have hv21' : NodesV w base ns u21 := hv21
    have e21 : a.eval (.tmp 21) = _ := ev_tmp hu21
    have hb : (Try.prog).built 24 [(0, Value.int .i64 f), (1, u21)] = some #[.int .i64 f, u21] := by obtain ⟨ab, cap, cs, rfl, _⟩ := hv21'; exact built_crew _ _ _ _
    exact st3 ho hwt (exec_build 24 _ hop _ (show (Try.prog).built 24 [(0, a.eval (.tmp 18)), (1, a.eval (.tmp 21))] = _ from by rw [e18, e21]; exact hb) w) (hK _ w ⟨u21, rfl, hv21'⟩ (Below.refl _ _))
  | 6, _, hs, ho, hop, hds, hdep, hK =>
    have hop : o.op = .load 28 (.tmp 3) := Option.some.inj hop
    have hu3 : a.tmps[3]? = some (.pointer (some ⟨bm, 0, none⟩)) := (hbase.2.2 3 (by decide)).trans x3
    have e3 : a.eval (.tmp 3) = _ := ev_tmp hu3
    refine st3 ho hwt (v := .agg (mkC lo).toArray) (w' := w) ?_ (hK _ w rfl (Below.refl _ _))
    unfold execOp
    simp only [hop, e3, Instr.loadAt, Instr.sureAddr, Sem.run_bind, Sem.run_pure, Result.andThen_ok, run_loadVar_mid w bm 0 28 (mkC lo) _ ((hM.below hbl hM.lt).range) Try.underlying28 rfl (mark_infoL lo)]
  | 7, _, hs, ho, hop, hds, hdep, hK =>
    have hop : o.op = .makeMap 62 none := Option.some.inj hop
    refine st3 ho hwt (v := .map (some w.heap.size)) (w' := w.alloc (.map #[] 0)) ?_ (hK _ _ ⟨w.heap.size, rfl, Nat.le_trans hbase0 hbl.size, MapT.made w⟩ ((Below.refl _ _).alloc (Nat.le_refl _) _))
    have hmm := run_makeMap (P := Try.prog) 62 w
    unfold execOp
    simp only [hop, Option.map_none]
    go_simp
  | 8, _, hs, ho, hop, hds, hdep, hK =>
    have hop : o.op = .build 64 #[(0, .tmp 22), (1, .tmp 23), (2, .tmp 24)] := Option.some.inj hop
    obtain ⟨u22, hu22, hv22⟩ := hdep 5 (by decide)
    have hv22' : CrV w base f ns u22 := hv22
    have e22 : a.eval (.tmp 22) = _ := ev_tmp hu22
    obtain ⟨u23, hu23, hv23⟩ := hdep 6 (by decide)
    have hv23' : u23 = .agg (mkC lo).toArray := hv23
    subst hv23'
    have e23 : a.eval (.tmp 23) = _ := ev_tmp hu23
    obtain ⟨u24, hu24, hv24⟩ := hdep 7 (by decide)
    have hv24' : MapV w base u24 := hv24
    have e24 : a.eval (.tmp 24) = _ := ev_tmp hu24
    obtain ⟨uu, hu1, hu2⟩ := hv22'
    obtain ⟨mm, hm1, hm2⟩ := hv24'
    subst hu1 hm1
    have hb : (Try.prog).built 64 [(0, .agg #[.int .i64 f, uu]), (1, .agg (mkC lo).toArray), (2, .map (some mm))] = some (msU f uu lo (.map (some mm))).toArray := by obtain ⟨ab, cap, cs, rfl, _⟩ := hu2; exact built_marks _ _ _ _ _ _
    exact st3 ho hwt (exec_build 64 _ hop _ (show (Try.prog).built 64 [(0, a.eval (.tmp 22)), (1, a.eval (.tmp 23)), (2, a.eval (.tmp 24))] = _ from by rw [e22, e23, e24]; exact hb) w) (hK _ w ⟨uu, _, rfl, hu2, mm, rfl, hm2⟩ (Below.refl _ _))
  | 9, _, hs, ho, hop, hds, hdep, hK =>
    have hop : o.op = .box 64 (.tmp 25) := Option.some.inj hop
    obtain ⟨u25, hu25, hv25⟩ := hdep 8 (by decide)
    have hv25' : SlV w base f ns lo u25 := hv25
    have e25 : a.eval (.tmp 25) = _ := ev_tmp hu25
    obtain ⟨uu, kk, rfl, hn1, hm1⟩ := hv25'
    have hal : Below w.heap.size w (w.alloc (.cells (msU f uu lo kk).toArray 64)) := (Below.refl _ _).alloc (Nat.le_refl _) _
    refine st3 ho hwt (v := .pointer (some ⟨w.heap.size, 0, none⟩)) (w' := w.alloc (.cells (msU f uu lo kk).toArray 64)) ?_ (hK _ _ ⟨w.heap.size, uu, kk, rfl, Nat.le_trans hbase0 hbl.size, Blk.new rfl rfl, hn1.below hal, hm1.below hal⟩ hal)
    unfold execOp
    simp only [hop, e25]
    generalize (msU f uu lo kk).toArray = Q at *
    go_simp
    try rfl
  | 10, _, hs, ho, hop, hds, hdep, hK =>
    have hop : o.op = .assign (.tmp 26) := Option.some.inj hop
    obtain ⟨u26, hu26, hv26⟩ := hdep 9 (by decide)
    have hv26' : BxV w base f ns lo u26 := hv26
    have e26 : a.eval (.tmp 26) = _ := ev_tmp hu26
    refine st3 ho hwt (v := _) (w' := w) ?_ (hK _ w hv26 (Below.refl _ _))
    unfold execOp
    rw [hop, ← e26]
    rfl
  | 11, _, hs, ho, hop, hds, hdep, hK =>
    have hop : o.op = .assign (.const (.int .i64 0)) := Option.some.inj hop
    refine st3 ho hwt (v := (.int .i64 0)) (w' := w) ?_ (hK _ w rfl (Below.refl _ _))
    unfold execOp
    rw [hop]
    rfl
  | i + 12, hi, _, _, _, _, _, _ => exact absurd hi (by omega)

/-- What New refuses. -/
def newE (f : Int) (ns : List Int) (lo : Mk) : Int := if okC f ns = false then 110 else if lo.s < 0 ∨ 9007199254740991 < lo.s then 9 else 0
theorem newE_ok {f : Int} {ns : List Int} {lo : Mk} (h : newE f ns lo = 0) : (newM f ns lo).ok := by
  unfold newE at h
  cases hh : okC f ns with
  | false => rw [hh, if_pos rfl] at h; cases h
  | true =>
    rw [hh, if_neg (by simp)] at h
    by_cases hl : lo.s < 0 ∨ 9007199254740991 < lo.s
    · rw [if_pos hl] at h; cases h
    · exact newM_ok hh (by omega) (by omega)
/-- What New answers. -/
def NewR (w : World) (E : Int) (f : Int) (ns : List Int) (lo : Mk) (e : Ending) (w' : World) : Prop := Below w.heap.size w w' ∧
  ((E ≠ 0 ∧ e = .returned (.tuple #[.pointer none, .int .i64 E])) ∨ (E = 0 ∧ ∃ g, e = .returned (.tuple #[.pointer (some ⟨g, 0, none⟩), .int .i64 0]) ∧ MsAt w' (fun b => w.heap.size ≤ b ∧ b < w'.heap.size) g (newM f ns lo)))
set_option maxRecDepth 100000 in
set_option maxHeartbeats 3200000 in
theorem new_any {w : World} {A : Option Addr} {n c : Nat} {f : Int} {ns : List Int} (hA : ArgI w A n c ns) (lo : Mk) :
    Calls Try.prog 9 #[.agg #[.int .i64 f, .slice A n c], .agg (mkC lo).toArray] w (NewR w (newE f ns lo) f ns lo) := by
  have hb0 : Below w.heap.size w (w.alloc (.cells #[.int .i64 f, .slice A n c] 24)) := (Below.refl _ _).alloc (Nat.le_refl _) _
  have hb1 : Below (w.alloc (.cells #[.int .i64 f, .slice A n c] 24)).heap.size (w.alloc (.cells #[.int .i64 f, .slice A n c] 24)) ((w.alloc (.cells #[.int .i64 f, .slice A n c] 24)).alloc (.cells (mkC lo).toArray 28)) := (Below.refl _ _).alloc (Nat.le_refl _) _
  have X0 : Blk ((w.alloc (.cells #[.int .i64 f, .slice A n c] 24)).alloc (.cells (mkC lo).toArray 28)) w.heap.size 24 [.int .i64 f, .slice A n c] := Blk.old (Blk.new rfl rfl) _
  have M0 : Blk ((w.alloc (.cells #[.int .i64 f, .slice A n c] 24)).alloc (.cells (mkC lo).toArray 28)) (w.heap.size + 1) 28 (mkC lo) := Blk.new rfl (by simp)
  have A0 := (hA.after hb0).after hb1
  have hb01 := hb0.trans (hb1.mono hb0.size)
  obtain ⟨W0, hW0⟩ : ∃ W0, (w.alloc (.cells #[.int .i64 f, .slice A n c] 24)).alloc (.cells (mkC lo).toArray 28) = W0 := ⟨_, rfl⟩
  have q0 := X0.cell (i := 0) rfl
  have q1 := X0.cell (i := 1) rfl
  have qm := M0.cell (i := 0) (show (mkC lo)[0]? = some (.int .i64 lo.s) from rfl)
  have hck : ∀ z, chkE f ns = z → Calls Try.prog 27 #[.agg #[.int .i64 f, .slice A n c]] ((w.alloc (.cells #[.int .i64 f, .slice A n c] 24)).alloc (.cells (mkC lo).toArray 28)) fun e w' => e = .returned (.int .i64 z) ∧ Below W0.heap.size W0 w' := fun z hz => by
    subst hz
    rw [hW0] at A0 ⊢
    exact (check_any f A n c ns _ A0).mono fun e w' ⟨he, hw⟩ => ⟨he, by first | exact hw | (obtain ⟨q, rfl⟩ := hw; exact below_drewN (Below.refl _ _) _)⟩
  have HC := Lib.hid hck
  have hln := hA.1
  have H := Lib.hid (And.intro hb01 (And.intro X0 (And.intro M0 A0)))
  have HW := Lib.hid hW0
  clear hck hb0 hb1 hb01 X0 M0 A0 hA hW0
  cases hok : okC f ns with
  | false =>
    have hE : newE f ns lo = 110 := by unfold newE; rw [hok, if_pos rfl]
    have hc := Lib.hid (HC.out 110 (chk1 hok))
    rw [hE]
    clear hE HC hok
    generalize hC : mkC lo = C at *
    go_enter Try.func9, Try.ntmps9
    go_wp2_with (go_at_call 27; refine hc.out.mono ?_; rintro e w1 ⟨rfl, hb1⟩; replace hb1 := Lib.hid hb1)
    go_ret2
    have h1 := H.out.1
    rw [HW.out] at h1
    exact ⟨h1.trans (hb1.out.mono h1.size), .inl ⟨by decide, rfl⟩⟩
  | true =>
    have hc := Lib.hid (HC.out 0 (chk0 hok))
    have keepB : Hid (∀ w1, Below W0.heap.size W0 w1 → Below w.heap.size w w1 ∧ Blk w1 w.heap.size 24 [.int .i64 f, .slice A n c] ∧ Blk w1 (w.heap.size + 1) 28 (mkC lo) ∧ ArgI w1 A n c ns ∧ w1.cell? ⟨w.heap.size + 1, 0, none⟩ = some (.int .i64 lo.s)) := Lib.hid fun w1 hb => by
      obtain ⟨h1, h2, h3, h4⟩ := H.out
      rw [HW.out] at h1 h2 h3 h4
      exact ⟨h1.trans (hb.mono h1.size), h2.below hb h2.lt, h3.below hb h3.lt, h4.after hb, (h3.below hb h3.lt).cell rfl⟩
    by_cases hl : lo.s < 0 ∨ 9007199254740991 < lo.s
    · have hE : newE f ns lo = 9 := by unfold newE; rw [hok, if_neg (by simp), if_pos hl]
      rw [hE]
      clear hE HC hok
      have fin : ∀ w1, Below W0.heap.size W0 w1 → Below w.heap.size w w1 := fun w1 hb => (keepB.out w1 hb).1
      have HF := Lib.hid fin
      clear fin
      have hkm : ∀ w1, Below W0.heap.size W0 w1 → w1.cell? ⟨w.heap.size + 1, 0, none⟩ = some (.int .i64 lo.s) := fun w1 hb => (keepB.out w1 hb).2.2.2.2
      have HK := Lib.hid hkm
      clear hkm keepB
      generalize hC : mkC lo = C at *
      by_cases h1 : lo.s < 0
      · go_enter Try.func9, Try.ntmps9
        go_wp2_with (go_at_call 27; refine hc.out.mono ?_; rintro e w1 ⟨rfl, hb1⟩; have km := HK.out w1 hb1; replace hb1 := Lib.hid hb1)
        go_ret2
        exact ⟨HF.out _ hb1.out, .inl ⟨by decide, rfl⟩⟩
      · have h2 : lo.s > 9007199254740991 := by omega
        have h3 : (9007199254740991 : Int) < lo.s := h2
        go_enter Try.func9, Try.ntmps9
        go_wp2_with (go_at_call 27; refine hc.out.mono ?_; rintro e w1 ⟨rfl, hb1⟩; have km := HK.out w1 hb1; replace hb1 := Lib.hid hb1)
        go_ret2
        exact ⟨HF.out _ hb1.out, .inl ⟨by decide, rfl⟩⟩
    · have hE : newE f ns lo = 0 := by unfold newE; rw [hok, if_neg (by simp), if_neg hl]
      have hmk := newE_ok hE
      rw [hE]
      have h1 : ¬ lo.s < 0 := by omega
      have h2 : ¬ lo.s > 9007199254740991 := by omega
      have h3 : ¬ (9007199254740991 : Int) < lo.s := h2
      have hlen := ((okC_iff f ns).1 hok).1
      have hN := Lib.hid (And.intro hmk (And.intro (show n ≤ 1000 by omega) (show 0 < n by omega)))
      clear hE HC hok hmk hl hlen hln
      obtain ⟨C, hC⟩ : ∃ C, mkC lo = C := ⟨_, rfl⟩
      have HCC := Lib.hid hC
      have keepB2 : Hid (∀ w1, Below W0.heap.size W0 w1 → w1.cell? ⟨w.heap.size + 1, 0, none⟩ = some (.int .i64 lo.s)) := Lib.hid fun w1 hb => (keepB.out w1 hb).2.2.2.2
      rw [hC] at hc q0 q1 qm ⊢
      clear hC
      go_enter Try.func9, Try.ntmps9
      go_wp2_with (go_at_call 27; refine hc.out.mono ?_; rintro e w1 ⟨rfl, hb1⟩; have km := keepB2.out w1 hb1; have hk1 := keepB.out w1 hb1; replace hb1 := Lib.hid hk1; clear hk1)
      refine region_rule4 (P := Try.prog) 12 27 nwD nwG nwS (nwR w.heap.size (w.heap.size + 1) w.heap.size A n c f lo ns) _ _ (by kernel_rfl) rfl rfl (by kernel_rfl) (by decide +kernel) (nw_gb w.heap.size (w.heap.size + 1) w.heap.size A n c f lo ns) (nw_sk w.heap.size (w.heap.size + 1) w.heap.size A n c f lo ns) (nw_on w.heap.size (w.heap.size + 1) w.heap.size A n c f lo ns) (nw_step w.heap.size (w.heap.size + 1) w.heap.size A n c f lo ns (by rfl) (by kernel_rfl) rfl rfl hb1.out.2.1 hb1.out.2.2.1 hb1.out.2.2.2.1 hN.out.2.1 hN.out.2.2 hb1.out.1.size) ?fin
      case fin =>
        intro a w6 hbase hbl hall
        obtain ⟨v4, hv4, hR4⟩ := hall 10 (by decide)
        obtain ⟨g, rfl, hst⟩ := BxV.marks hR4 hN.out.1
        obtain ⟨v5, hv5, hR5⟩ := hall 11 (by decide)
        have hR5' : v5 = .int .i64 0 := hR5
        subst hR5'
        obtain ⟨gg, hgge, hgg⟩ := base_lit hbase [17, 18, 19, 20, 21, 22, 23, 24, 25, 26, 4, 5] (by rfl)
        have q4 : gg 4 = .pointer (some ⟨g, 0, none⟩) := hgge 4 _ hv4
        have q5 : gg 5 = .int .i64 0 := hgge 5 _ hv5
        simp only [List.foldl_cons, List.foldl_nil, List.setIfInBounds_toArray, List.set_cons_zero, List.set_cons_succ, q4, q5] at hgg
        rw [hgg]
        have b6 := hb1.out.1.trans (hbl.mono hb1.out.1.size)
        have H6 := Lib.hid (And.intro b6 hst)
        clear hst b6 hall hbase hbl
        go_wp2
        go_ret2
        exact ⟨H6.out.1, .inr ⟨rfl, g, rfl, H6.out.2⟩⟩
end Go.Proofs.Ytenccpccpjjkmaa

namespace Go.Proofs.Ytenccpccpjjkmaa
open Go.RowKit Go.Shelf Go.Sort Go.Maps CrewP
set_option linter.unusedVariables false
set_option linter.unusedSimpArgs false

/-! ### A mark of a number and a byte -/
def dgm (b : UInt8) : List UInt8 := b :: 7 :: List.replicate 30 0
def mkOf (s : Int) (b : UInt8) (hs : Wf s) : Mk := ⟨s, dgm b, hs, rfl⟩
theorem built_dgm (b : UInt8) : Try.prog.built 26 [(0, .int .u8 (b.toNat : Int)), (1, .int .u8 7)] = some (cbs (dgm b)).toArray := by kernel_rfl
theorem built_mkOf (s : Int) (b : UInt8) (hs : Wf s) : Try.prog.built 28 [(0, .int .i64 s), (1, .agg (cbs (dgm b)).toArray)] = some (mkC (mkOf s b hs)).toArray := by kernel_rfl
set_option maxRecDepth 100000 in
set_option maxHeartbeats 800000 in
theorem mark_any (s : Int) (b : UInt8) (hs : Wf s) (w : World) : Calls Try.prog 19 #[.int .i64 s, .int .u8 (b.toNat : Int)] w fun e w' => e = .returned (.agg (mkC (mkOf s b hs)).toArray) ∧ Below w.heap.size w w' := by
  obtain ⟨w2, hw2, ⟨hth, hi⟩, hb2, hbe, hs2⟩ := row_local w 28 (mkC mk0) (mkC (mkOf s b hs)) (by rw [mkC_len, mkC_len]) (by rw [mkC_len]; exact mark_info1)
  have H := Lib.hid (And.intro hth (And.intro hi (And.intro (mkC_oneA (mkOf s b hs)) (And.intro hb2 (And.intro hbe (And.intro (built_mkOf s b hs) (And.intro (built_dgm b) hw2)))))))
  clear hw2 hth hi hb2 hbe hs2
  generalize mkC (mkOf s b hs) = D at *
  generalize cbs (dgm b) = E at *
  go_enter Try.func19, Try.ntmps19
  go_wp2_with (first
    | (refine wpList_build_g (by rfl) 26 _ rfl E.toArray H.out.2.2.2.2.2.2.1 ?_; simp only [Act.put])
    | (refine wpList_build_g (by rfl) 28 _ rfl D.toArray H.out.2.2.2.2.2.1 ?_; simp only [Act.put])
    | (refine wpList_store_mid rfl 28 _ _ rfl w.heap.size 0 D.toArray rfl rfl H.out.1 H.out.2.1 H.out.2.2.1 ?_; simp only [Act.put]; refine cast (congrArg (fun z => wpList _ _ _ _ _ z) H.out.2.2.2.2.2.2.2.symm) ?_))
  refine bodyPost_ret (results_row rfl _ _ w.heap.size 28 D.toArray _ rfl H.out.2.2.2.1 Try.underlying28 rfl H.out.2.1) rfl ?_
  exact ⟨rfl, H.out.2.2.2.2.1⟩

/-! ### A crew, new marks -/
def ndL (j : Nat) : List Int := (List.range j).map fun (k : Nat) => (k : Int) + 1
theorem ndL_len (j : Nat) : (ndL j).length = j := by simp [ndL]
theorem ndL_succ (j : Nat) : ndL (j + 1) = ndL j ++ [(j : Int) + 1] := by simp [ndL, List.range_succ]
theorem row_arg {w : World} {A : Option Addr} {n cap : Nat} {l : List Int} (h : RowK w 3 1 A n cap (cis l)) (hl : l.length = n) (hw : ∀ x ∈ l, Wf x) : ArgI w A n cap l := by
  refine ⟨hl, h.2.1, h.2.2.1, ⟨by rw [cis_length, Nat.mul_one], fun hn => ?_⟩, hw⟩
  obtain ⟨r, e, h1, h2, _⟩ := h.cells (by omega)
  exact ⟨r, 0, e, h1, fun j u hu => by rw [Nat.zero_add]; exact h2 j u hu⟩
theorem row_int1 (x : Int) (w : World) : (Instr.buildSlice 22 1 #[(0, .int .i64 x)]).run Try.prog w = .ok (.slice (some ⟨w.heap.size, 0, none⟩) 1 1) (w.alloc (.cells (cis [x]).toArray 3)) := by kernel_rfl
theorem crew_built (F : Int) : Try.prog.built 24 [(0, .int .i64 F)] = some #[.int .i64 F, .slice none 0 0] := by kernel_rfl
theorem crew_info : (Try.prog.info? 24).map (·.size) = some 2 := by kernel_rfl
theorem app_int1 {w : World} {A : Option Addr} {n cap : Nat} {l : List Int} (h : RowK w 3 1 A n cap (cis l)) (x : Int) (hn : n ≤ 1000) (hw : World) (hw2 : w.alloc (.cells (cis [x]).toArray 3) = hw) :
    ∃ A' cap' w', (Builtin.append_ #[22, 22] 22 #[.slice A n cap, .slice (some ⟨w.heap.size, 0, none⟩) 1 1]).run Try.prog hw = .ok (.slice A' (n + 1) cap') w' ∧ RowK w' 3 1 A' (n + 1) cap' (cis (l ++ [x])) ∧ Out (blkOf A) w w' ∧ (∀ b, blkOf A' b → blkOf A b ∨ w.heap.size ≤ b) := by
  subst hw2
  obtain ⟨i0, hi, hz0, hz1, hz2⟩ := info_parts i64_info
  have hb : Below w.heap.size w (w.alloc (.cells (cis [x]).toArray 3)) := (Below.refl _ _).alloc (Nat.le_refl _) _
  have hB : Blk (w.alloc (.cells (cis [x]).toArray 3)) w.heap.size 3 (cis [x]) := Blk.new rfl rfl
  obtain ⟨A', cap', w', r1, r2, r3, r4, _⟩ := run_append_rowK 22 22 3 i0 _ 1 8 Try.underlying22 hi hz0 hz1 hz2 rfl (h.below hb h.lt) ⟨w.heap.size, 0, none⟩ 1 1 (cis [x]) rfl (fun j u hu => by rw [add_mk, Nat.zero_add]; exact hB.cell hu) (cis_one [x]) (by unfold maxLen; omega) (by omega)
  refine ⟨A', cap', w', r1, ?_, (Out.ofBelow _ hb).trans r3 fun _ _ e => e, fun b hb' => (r4 b hb').imp_right fun e => by rw [e]; simp⟩
  have e : cis (l ++ [x]) = cis l ++ cis [x] := by simp [cis]
  rw [e]
  exact r2
set_option maxRecDepth 100000 in
set_option maxHeartbeats 1600000 in
theorem crewOf_any (F : Nat) (hF : F ≤ 2) (w : World) : Calls Try.prog 26 #[.int .i64 (F : Int)] w fun e w' => ∃ A cap, e = .returned (.agg #[.int .i64 (F : Int), .slice A (3 * F + 1) cap]) ∧ RowK w' 3 1 A (3 * F + 1) cap (cis (ndL (3 * F + 1))) ∧ Below w.heap.size w w' := by
  have hw1 : IntKind.i64.wrap (3 * (F : Int)) = 3 * (F : Int) := IntWalk.i64_in _ (by omega)
  have hw2 : IntKind.i64.wrap (3 * (F : Int) + 1) = 3 * (F : Int) + 1 := IntWalk.i64_in _ (by omega)
  have hB0 : Blk ((w.alloc (.cells #[.int .i64 0, .slice none 0 0] 24)).alloc (.cells #[.int .i64 (F : Int), .slice none 0 0] 24)) w.heap.size 24 [.int .i64 0, .slice none 0 0] := Blk.old (Blk.new rfl rfl) _
  have hB1 : Blk ((w.alloc (.cells #[.int .i64 0, .slice none 0 0] 24)).alloc (.cells #[.int .i64 (F : Int), .slice none 0 0] 24)) (w.heap.size + 1) 24 [.int .i64 (F : Int), .slice none 0 0] := Blk.new rfl (by simp)
  have hbel : Below w.heap.size w ((w.alloc (.cells #[.int .i64 0, .slice none 0 0] 24)).alloc (.cells #[.int .i64 (F : Int), .slice none 0 0] 24)) := ((Below.refl _ _).alloc (Nat.le_refl _) _).alloc (by simp) _
  have H := Lib.hid (And.intro hB0 (And.intro hB1 hbel))
  clear hB0 hB1 hbel
  have hcb := crew_built (F : Int)
  go_enter Try.func26, Try.ntmps26
  go_wp2_with (refine wpList_build_g rfl 24 _ rfl _ hcb ?_; simp only [Act.put])
  go_loopw [4] (fun v4 wr => ∃ (j : Nat) (A : Option Addr) (cap : Nat), j ≤ 3 * F + 1 ∧ v4 = .int .i64 ((j : Int) + 1) ∧ Blk wr w.heap.size 24 [.int .i64 0, .slice none 0 0] ∧ Blk wr (w.heap.size + 1) 24 [.int .i64 (F : Int), .slice A j cap] ∧ RowK wr 3 1 A j cap (cis (ndL j)) ∧ Below w.heap.size w wr ∧ ∀ b, blkOf A b → w.heap.size + 1 < b)
    (fun v _ => 10 - (intOf v).toNat)
  case atStart => exact ⟨0, none, 0, by omega, rfl, H.out.1, H.out.2.1, RowK.nil _ _ _, H.out.2.2, fun b ⟨a, ha, _⟩ => by cases ha⟩
  case round =>
    obtain ⟨j, A, cap, hj, rfl, hB0, hB1, hrow, hbel, hA⟩ := hrel
    by_cases hlt : j < 3 * F + 1
    · have h1 : (j : Int) + 1 ≤ 3 * (F : Int) + 1 := by omega
      have c1 := hB1.cell (i := 1) rfl
      obtain ⟨w2, hw2'⟩ : ∃ w2, wr.alloc (.cells (cis [(j : Int) + 1]).toArray 3) = w2 := ⟨_, rfl⟩
      obtain ⟨A', cap', w3, hrun, hrow3, hO3, hA3⟩ := app_int1 hrow ((j : Int) + 1) (by omega) w2 hw2'
      have hr1 := row_int1 ((j : Int) + 1) wr
      rw [hw2'] at hr1
      have hBn0 := hO3.blk hB0 (fun e => by have := hA _ e; omega)
      have hBn1 := hO3.blk hB1 (fun e => by have := hA _ e; omega)
      have hz := hO3.size
      have hbel3 := hbel.trans (hO3.above (fun i hi => by have := hA i hi; omega) hbel.size)
      have hl1 := hB1.lt
      have f1 := hBn1.free 1
      have k1 : (w3.cell? ⟨w.heap.size + 1, 1, none⟩) = some (.slice A j cap) := hBn1.cell rfl
      have hst : Out (fun b => b = w.heap.size + 1) w3 (w3.setCell ⟨w.heap.size + 1, 1, none⟩ (.slice A' (j + 1) cap')) := (Out.refl (fun b => b = w.heap.size + 1) w3).setCell (p := ⟨w.heap.size + 1, 1, none⟩) (fun _ => rfl) _
      have hB0' := hst.blk hBn0 (by omega)
      have hB1' := hBn1.set_ 1 (.slice A' (j + 1) cap')
      have hA' : ∀ b, blkOf A' b → w.heap.size + 1 < b := fun b hb => by
        rcases hA3 b hb with e | e
        · exact hA b e
        · omega
      have hrow' := hrow3.out hst (fun b hb e => by have := hA' b hb; omega)
      have hbel' := hbel3.trans (hst.above (B := w.heap.size) (fun i hi => by omega) hbel3.size)
      have HE := Lib.hid (And.intro hrun (And.intro hr1 (And.intro hB0' (And.intro hB1' (And.intro hrow' (And.intro hbel' hA'))))))
      clear hrun hr1 hBn0 hBn1 hz hbel3 hl1 hst hB0' hB1' hA' hrow' hbel' hrow3 hO3 hA3 hB0 hB1 hrow hbel hA hw2'
      have hwj : IntKind.i64.wrap ((j : Int) + 1 + 1) = (j : Int) + 1 + 1 := IntWalk.i64_in _ (by omega)
      go_wp2_with (first
        | (refine row_g rfl 22 1 _ rfl (.slice (some ⟨wr.heap.size, 0, none⟩) 1 1) w2 (by simp only [List.map_toArray, List.map_cons, List.map_nil]; exact HE.out.2.1) ?_; simp only [Act.put])
        | (refine app_g rfl _ _ _ _ rfl _ _ _ w3 rfl rfl HE.out.1 ?_; simp only [Act.put]))
      go_roundw
      case rel => exact ⟨j + 1, A', cap', by omega, by first | rfl | (push_cast; rfl) | (congr 1; omega), HE.out.2.2.1, HE.out.2.2.2.1, by rw [ndL_succ]; exact HE.out.2.2.2.2.1, HE.out.2.2.2.2.2.1, HE.out.2.2.2.2.2.2⟩
      case measure => simp [intOf]; omega
    · have hj' : j = 3 * F + 1 := by omega
      subst hj'
      have h1 : ¬ ((3 * F + 1 : Nat) : Int) + 1 ≤ 3 * (F : Int) + 1 := by omega
      have c0 := hB1.cell (i := 0) rfl
      have c1 := hB1.cell (i := 1) rfl
      have d0 := hB0.cell (i := 0) rfl
      have d1 := hB0.cell (i := 1) rfl
      have f0 := hB0.free 0
      have f1 := hB0.free 1
      have hS := (hB0.set_ 0 (.int .i64 (F : Int))).set_ 1 (.slice A (3 * F + 1) cap)
      have hst : Out (fun b => b = w.heap.size) wr ((wr.setCell ⟨w.heap.size, 0, none⟩ (.int .i64 (F : Int))).setCell ⟨w.heap.size, 1, none⟩ (.slice A (3 * F + 1) cap)) := ((Out.refl (fun b => b = w.heap.size) wr).setCell (p := ⟨w.heap.size, 0, none⟩) (fun _ => rfl) _).setCell (p := ⟨w.heap.size, 1, none⟩) (fun _ => rfl) _
      have hrow' := hrow.out hst (fun b hb e => by have := hA b hb; omega)
      have hbel' := hbel.trans (hst.above (B := w.heap.size) (fun i hi => by omega) hbel.size)
      have HE := Lib.hid (And.intro hS (And.intro hrow' hbel'))
      clear hS hst hrow' hbel' hB0 hB1 hrow hbel hA
      generalize hN : 3 * F + 1 = N at *
      go_wp2
      refine bodyPost_ret (results_row rfl _ _ w.heap.size 24 #[.int .i64 (F : Int), .slice A N cap] _ rfl HE.out.1 Try.underlying24 rfl crew_info) rfl ?_
      exact ⟨A, cap, rfl, HE.out.2.1, HE.out.2.2⟩
theorem newE_fresh {F : Nat} (h1 : 1 ≤ F) (h2 : F ≤ 2) : newE (F : Int) (ndL (3 * F + 1)) mk0 = 0 := by
  have : ∀ F : Nat, F < 3 → 1 ≤ F → newE (F : Int) (ndL (3 * F + 1)) mk0 = 0 := by decide +kernel
  exact this F (by omega) h1
theorem ndL_wf (n : Nat) (hn : n ≤ 100) : ∀ x ∈ ndL n, Wf x := fun x hx => by
  unfold ndL at hx
  obtain ⟨k, hk, rfl⟩ := List.mem_map.1 hx
  have : k < n := by simpa using hk
  exact wf_b (by omega) (by omega)
/-- New marks of a crew. -/
def fr (F : Nat) : Ms := newM (F : Int) (ndL (3 * F + 1)) mk0
set_option maxRecDepth 100000 in
theorem fresh_any (F : Nat) (h1 : 1 ≤ F) (h2 : F ≤ 2) (w : World) : Calls Try.prog 18 #[.int .i64 (F : Int)] w fun e w' => ∃ g, e = .returned (.pointer (some ⟨g, 0, none⟩)) ∧ MsAt w' (fun b => w.heap.size ≤ b ∧ b < w'.heap.size) g (fr F) ∧ Below w.heap.size w w' := by
  unfold fr
  have Hc := Lib.hid (crewOf_any F h2 w)
  have hE := newE_fresh h1 h2
  have HN := Lib.hid (fun (W : World) (A : Option Addr) (cap : Nat) (hR : RowK W 3 1 A (3 * F + 1) cap (cis (ndL (3 * F + 1)))) => new_any (f := (F : Int)) (row_arg hR (ndL_len _) (ndL_wf _ (by omega))) mk0)
  rw [hE] at HN
  have hb0 := Lib.hid built_mark0
  clear hE
  generalize 3 * F + 1 = N at *
  generalize mkC mk0 = Z at *
  go_enter Try.func18, Try.ntmps18
  go_wp2_with fail
  refine Hc.out.mono ?_
  rintro e w1 ⟨A, cap, rfl, hR, hb1⟩
  have H1 := Lib.hid (And.intro (HN.out w1 A cap hR) hb1)
  clear hR hb1
  go_wp2_with (refine wpList_build_g (by rfl) 28 _ rfl Z.toArray hb0.out ?_; simp only [Act.put])
  refine H1.out.1.mono ?_
  rintro e w2 ⟨hb2, h | ⟨_, g, rfl, hst⟩⟩
  · exact absurd rfl h.1
  · have H2 := Lib.hid (And.intro hb2 hst)
    clear hb2 hst
    go_wp2
    go_ret
    have hz1 := H1.out.2.size
    exact ⟨g, rfl, H2.out.2.wide (U' := fun b => w.heap.size ≤ b ∧ b < w2.heap.size) (fun i hi => ⟨by omega, hi.2⟩) fun i hi => hi.2, H1.out.2.trans (H2.out.1.mono hz1)⟩

/-! ### is -/
set_option maxRecDepth 100000 in
theorem is_any (x y : Mk) (ok : Bool) (w : World) (B : Bool) (hB : (ok && decide (x = y)) = B) : Calls Try.prog 25 #[.agg (mkC x).toArray, .bool ok, .agg (mkC y).toArray] w fun e w' => e = .returned (.bool B) ∧ Below w.heap.size w w' := by
  subst hB
  have b1 : Below w.heap.size w ((w.alloc (.cells (mkC x).toArray 28)).alloc (.cells (mkC y).toArray 28)) := ((Below.refl _ _).alloc (Nat.le_refl _) _).alloc (by simp) _
  have B1 : Blk ((w.alloc (.cells (mkC x).toArray 28)).alloc (.cells (mkC y).toArray 28)) w.heap.size 28 (mkC x) := Blk.old (Blk.new rfl rfl) _
  have B2 : Blk ((w.alloc (.cells (mkC x).toArray 28)).alloc (.cells (mkC y).toArray 28)) (w.heap.size + 1) 28 (mkC y) := Blk.new rfl (by simp)
  have heq := fun w => eq_mark x y w
  have H := Lib.hid (And.intro b1 (And.intro B1.range (And.intro B2.range (And.intro (mark_infoL x) (mark_infoL y)))))
  clear b1 B1 B2
  generalize decide (x = y) = D at *
  generalize mkC x = X at *
  generalize mkC y = Y at *
  cases ok with
  | true =>
    cases D with
    | true =>
      go_enter Try.func25, Try.ntmps25
      go_wp2_with (first
        | (refine load_mid_g rfl 28 _ rfl w.heap.size 0 rfl X _ H.out.2.1 Try.underlying28 rfl H.out.2.2.2.1 ?_; simp only [Act.put])
        | (refine load_mid_g rfl 28 _ rfl (w.heap.size + 1) 0 rfl Y _ H.out.2.2.1 Try.underlying28 rfl H.out.2.2.2.2 ?_; simp only [Act.put]))
      go_ret
      exact ⟨rfl, H.out.1⟩
    | false =>
      go_enter Try.func25, Try.ntmps25
      go_wp2_with (first
        | (refine load_mid_g rfl 28 _ rfl w.heap.size 0 rfl X _ H.out.2.1 Try.underlying28 rfl H.out.2.2.2.1 ?_; simp only [Act.put])
        | (refine load_mid_g rfl 28 _ rfl (w.heap.size + 1) 0 rfl Y _ H.out.2.2.1 Try.underlying28 rfl H.out.2.2.2.2 ?_; simp only [Act.put]))
      go_ret
      exact ⟨rfl, H.out.1⟩
  | false =>
    go_enter Try.func25, Try.ntmps25
    go_wp2
    go_ret
    exact ⟨rfl, H.out.1⟩

/-! ### Two lists of marks -/
theorem same_any {w : World} {A A' : Option Addr} {n c n' c' : Nat} {l l' : List Mk} (h : ShM w A l) (h' : ShM w A' l') (hn : l.length = n) (hn' : l'.length = n') (hb : n ≤ 1000) (hb' : n' ≤ 1000) :
    Calls Try.prog 24 #[.slice A n c, .slice A' n' c'] w fun e w' => e = .returned (.bool (decide (l = l'))) ∧ Below w.heap.size w w' := by
  by_cases hne : n = n'
  rotate_left
  · have hd : Hid (decide (l = l') = false) := Lib.hid (by simp only [decide_eq_false_iff_not]; rintro rfl; omega)
    have h1 : (!((n : Int) == (n' : Int))) = true := by simp; omega
    clear h h'
    generalize decide (l = l') = D at *
    obtain rfl := hd.out
    go_enter Try.func24, Try.ntmps24
    go_wp2
    go_ret
    exact ⟨rfl, Below.refl _ _⟩
  subst hne
  obtain ⟨D, hD⟩ : ∃ D, decide (l = l') = D := ⟨_, rfl⟩
  rw [hD]
  have HD := Lib.hid hD
  have H := Lib.hid (And.intro h h')
  have Hn := Lib.hid (And.intro hn hn')
  clear h h' hD hn hn'
  have hnn : ((n : Int) != (n : Int)) = false := by simp
  go_enter Try.func24, Try.ntmps24
  go_wp2
  go_loopw [5] (fun v5 wr => ∃ k : Nat, k ≤ n ∧ v5 = .int .i64 (k : Int) ∧ l.take k = l'.take k ∧ Below w.heap.size w wr) (fun v _ => n - (intOf v).toNat)
  case atStart => exact ⟨0, Nat.zero_le _, rfl, by simp, Below.refl _ _⟩
  case round =>
    obtain ⟨k, hk, rfl, ht, hbel⟩ := hrel
    have hi0 : (0 : Int) ≤ k := by omega
    by_cases hlt : k < n
    · have hlt' : (k : Int) < n := by omega
      have hl1 : k < l.length := by have := Hn.out.1; omega
      have hl2 : k < l'.length := by have := Hn.out.2; omega
      obtain ⟨W, hW⟩ : ∃ W, wr.drew = W := ⟨_, rfl⟩
      have bW : Below w.heap.size w W := by rw [← hW]; exact hbel.drew
      obtain ⟨b1, o1, rfl, hr1⟩ := (H.out.1.below bW).at_ hl1
      obtain ⟨b2, o2, rfl, hr2⟩ := (H.out.2.below bW).at_ hl2
      have hn1 : (Try.prog.info? 28).map (·.size) = some (mkC l[k]).length := by rw [mkC_len]; exact mark_info1
      have hn2 : (Try.prog.info? 28).map (·.size) = some (mkC l'[k]).length := by rw [mkC_len]; exact mark_info1
      have heq := fun w => eq_mark l[k] l'[k] w
      obtain ⟨B, hB⟩ : ∃ B, decide (l[k] = l'[k]) = B := ⟨_, rfl⟩
      rw [hB] at heq
      have hnext : Hid (B = true → l.take (k + 1) = l'.take (k + 1)) := Lib.hid fun hb => by
        rw [hb] at hB
        rw [List.take_succ_eq_append_getElem hl1, List.take_succ_eq_append_getElem hl2, ht, of_decide_eq_true hB]
      have hstop : Hid (B = false → D = false) := Lib.hid fun hb => by
        rw [hb] at hB
        rw [← HD.out]
        have := of_decide_eq_false hB
        simp only [decide_eq_false_iff_not]
        rintro rfl
        exact this rfl
      have HL := Lib.hid (And.intro hr1 (And.intro hn1 (And.intro hr2 hn2)))
      have HW := Lib.hid (And.intro hW bW)
      clear hr1 hn1 hr2 hn2 hW bW hB ht hbel
      generalize hX : mkC l[k] = X at *
      generalize hY : mkC l'[k] = Y at *
      go_wp2
      refine wp_region_held_drew (S := fun V => V = W) (by kernel_rfl) HW.out.1 (fun _ => ?_)
      rw [HW.out.1]
      refine anyH_take (i := 0) (d := 17) (v := ?a0) rfl rfl (by kernel_rfl) (by kernel_rfl) (by kernel_rfl) (fun _ _ _ h => h) (Or.inl ⟨by rfl, ?ay0⟩) rfl ?ar0
      case ay0 => (intro w; go_simp; try with_reducible rfl)
      simp only [List.setIfInBounds_toArray, List.set_cons_zero, List.set_cons_succ]
      refine anyH_take (i := 1) (d := 18) (v := ?a1) rfl rfl (by kernel_rfl) (by kernel_rfl) (by kernel_rfl) (fun _ _ _ h => h) (Or.inl ⟨by rfl, ?ay1⟩) rfl ?ar1
      case ay1 => (intro w; go_simp; try with_reducible rfl)
      simp only [List.setIfInBounds_toArray, List.set_cons_zero, List.set_cons_succ]
      refine anyH_take (i := 2) (d := 19) (v := ?a2) rfl rfl (by kernel_rfl) (by kernel_rfl) (by kernel_rfl) (fun _ _ _ h => h) (Or.inl ⟨by rfl, ?ay2⟩) rfl ?ar2
      case ay2 => (intro w; go_simp; try with_reducible rfl)
      simp only [List.setIfInBounds_toArray, List.set_cons_zero, List.set_cons_succ]
      refine anyH_load (i := 3) (d := 20) rfl rfl (by kernel_rfl) (by kernel_rfl) (by kernel_rfl) (by rfl) 28 _ rfl b1 (o1 + k * 33) rfl X _ (fun W hSW => by obtain rfl := hSW; exact HL.out.1) Try.underlying28 rfl HL.out.2.1 (fun _ _ _ h => h) rfl ?_
      simp only [List.setIfInBounds_toArray, List.set_cons_zero, List.set_cons_succ]
      refine anyH_take (i := 4) (d := 21) (v := ?a4) rfl rfl (by kernel_rfl) (by kernel_rfl) (by kernel_rfl) (fun _ _ _ h => h) (Or.inl ⟨by rfl, ?ay4⟩) rfl ?ar4
      case ay4 => (intro w; go_simp; try with_reducible rfl)
      simp only [List.setIfInBounds_toArray, List.set_cons_zero, List.set_cons_succ]
      refine anyH_take (i := 5) (d := 22) (v := ?a5) rfl rfl (by kernel_rfl) (by kernel_rfl) (by kernel_rfl) (fun _ _ _ h => h) (Or.inl ⟨by rfl, ?ay5⟩) rfl ?ar5
      case ay5 => (intro w; go_simp; try with_reducible rfl)
      simp only [List.setIfInBounds_toArray, List.set_cons_zero, List.set_cons_succ]
      refine anyH_take (i := 6) (d := 23) (v := ?a6) rfl rfl (by kernel_rfl) (by kernel_rfl) (by kernel_rfl) (fun _ _ _ h => h) (Or.inl ⟨by rfl, ?ay6⟩) rfl ?ar6
      case ay6 => (intro w; go_simp; try with_reducible rfl)
      simp only [List.setIfInBounds_toArray, List.set_cons_zero, List.set_cons_succ]
      refine anyH_load (i := 7) (d := 24) rfl rfl (by kernel_rfl) (by kernel_rfl) (by kernel_rfl) (by rfl) 28 _ rfl b2 (o2 + k * 33) rfl Y _ (fun W hSW => by obtain rfl := hSW; exact HL.out.2.2.1) Try.underlying28 rfl HL.out.2.2.2 (fun _ _ _ h => h) rfl ?_
      simp only [List.setIfInBounds_toArray, List.set_cons_zero, List.set_cons_succ]
      refine anyH_take (i := 8) (d := 25) (v := ?a8) rfl rfl (by kernel_rfl) (by kernel_rfl) (by kernel_rfl) (fun _ _ _ h => h) (Or.inl ⟨by rfl, ?ay8⟩) rfl ?ar8
      case ay8 => (intro w; have hq0 := heq w; go_simp; try with_reducible rfl)
      simp only [List.setIfInBounds_toArray, List.set_cons_zero, List.set_cons_succ]
      refine wpAnyH_done (by kernel_rfl) ?_ _
      cases B with
      | true =>
        go_wp2
        go_roundw
        case rel => exact ⟨k + 1, by omega, by go_num, hnext.out (by first | rfl | trivial), HW.out.2⟩
        case measure => simp [intOf]; omega
      | false =>
        obtain rfl : D = false := hstop.out (by first | rfl | trivial)
        go_wp2
        go_ret
        exact ⟨rfl, HW.out.2⟩
    · have hge : ¬ (k : Int) < n := by omega
      have hfin : Hid (D = true) := Lib.hid (by
        rw [← HD.out, decide_eq_true_eq]
        rw [List.take_of_length_le (by have := Hn.out.1; omega), List.take_of_length_le (by have := Hn.out.2; omega)] at ht
        exact ht)
      have Hb := Lib.hid hbel
      obtain rfl := hfin.out
      clear ht hbel
      go_wp2
      go_ret
      exact ⟨rfl, Hb.out⟩
end Go.Proofs.Ytenccpccpjjkmaa

namespace Go.Proofs.Ytenccpccpjjkmaa
open Go.RowKit Go.Maps Go.ChangeMaps Go.WideElems
set_option linter.unusedVariables false
set_option linter.unusedSimpArgs false

theorem mark_law : WideMaps.KeyLaw Try.prog 28 := deep_law_laid (by kernel_rfl) (m := 4) (by decide) (by decide +kernel) (by kernel_rfl) (by rw [mark_fields])
section
variable {P : Program} {K : TypeId} {α β : Type} [DecidableEq α] {T : KeyT P K α} {vv : β → Value} {w w' : World} {m r : Nat} {L todo : List (α × β)} {a : α}
theorem entry_update {t e : TypeId} {es : Array MapEntry} {clock : Nat} {R : Value → Option (DataW Value × List MemPlace)} (KK : Keyed P K) (ht : P.underlying t = some (.map K e)) {z : Value} (hz : ∀ u : World, (zeroValue e).run P u = .ok z u) (hb : w.heap[m]? = some (.map es clock)) (F : Fit P K R es clock)
    {key : Value} {kl : Lit} (hkey : keyOf P K key = some kl) :
    ∃ u s w1, (Instr.mapEntry t (.map (some m)) key).run P w = .ok (.tuple #[u, s]) w1 ∧ (Instr.mapUpdate t (.map (some m)) key u).run P w = .ok () w1 ∧ ((∃ e0 ∈ es.toList, e0.key = key ∧ u = e0.val) ∨ ((∀ x ∈ es.toList, x.key ≠ key) ∧ u = z)) := by
  rcases KK.find w hkey es.toList F.keys with ⟨h1, h2⟩ | ⟨j, e0, h1, h2, h3⟩
  · refine ⟨z, goInt clock, setBlock w m (.map (es.push ⟨key, z, clock⟩) (clock + 1)), ?_, ?_, .inr ⟨h2, rfl⟩⟩
    · simp [Instr.mapEntry, run_underlying ht, MapKept.run_getObj_map hb, KK.check w false hkey, h1, hz, MapKept.run_setObj_map _ hb, Result.andThen, setBlock]
    · simp [Instr.mapUpdate, run_underlying ht, MapKept.run_getObj_map hb, KK.check w false hkey, h1, MapKept.run_setObj_map _ hb, Result.andThen, setBlock]
  · have hj : es[j]? = some e0 := by simpa using h2
    have hsame : es.modify j (fun e => { e with key := key }) = es := by
      apply Array.ext'
      rw [Array.toList_modify, modify_eq_set _ _ _ _ h2]
      have : ({ e0 with key := key } : MapEntry) = e0 := by rw [← h3]
      rw [this]
      exact set_self _ _ _ h2
    have hsame2 : es.modify j (fun e => { e with key := key, val := e0.val }) = es := by
      apply Array.ext'
      rw [Array.toList_modify, modify_eq_set _ _ _ _ h2]
      have : ({ e0 with key := key, val := e0.val } : MapEntry) = e0 := by rw [← h3]
      rw [this]
      exact set_self _ _ _ h2
    refine ⟨e0.val, goInt e0.born, setBlock w m (.map es clock), ?_, ?_, .inl ⟨e0, List.mem_of_getElem? h2, h3, rfl⟩⟩
    · simp [Instr.mapEntry, run_underlying ht, MapKept.run_getObj_map hb, KK.check w false hkey, h1, hj, h3, KK.stays w hkey, hsame, MapKept.run_setObj_map _ hb, Result.andThen, setBlock]
    · simp [Instr.mapUpdate, run_underlying ht, MapKept.run_getObj_map hb, KK.check w false hkey, h1, hj, h3, KK.stays w hkey, hsame2, MapKept.run_setObj_map _ hb, Result.andThen, setBlock]
theorem lk_put (L : List (α × β)) (a : α) (b : β) : lk (putL L a b) a = some b := by unfold lk putL; simp
theorem lk_put_ne (L : List (α × β)) {a c : α} (b : β) (h : c ≠ a) : lk (putL L a b) c = lk L c := by
  unfold lk putL
  rw [List.find?_cons_of_neg (by simpa using fun e => h e.symm)]
  congr 1
  induction L with
  | nil => rfl
  | cons p L ih =>
    by_cases hp : p.1 = a
    · rw [List.filter_cons_of_neg (by simp [hp]), ih, List.find?_cons_of_neg (by rw [hp]; simpa using fun e => h e.symm)]
    · rw [List.filter_cons_of_pos (by simp [hp])]
      by_cases hc : p.1 = c
      · rw [List.find?_cons_of_pos (by simp [hc]), List.find?_cons_of_pos (by simp [hc])]
      · rw [List.find?_cons_of_neg (by simp [hc]), List.find?_cons_of_neg (by simp [hc]), ih]
theorem MapT.bump {t e : TypeId} (h : MapT T vv w m L) (law : WideMaps.KeyLaw P K) (ht : P.underlying t = some (.map K e)) {z0 : β} (hz : ∀ u : World, (zeroValue e).run P u = .ok (vv z0) u) (hn : L.length < 1000000) (ha : T.ok a) :
    ∃ v0 st w1, (Instr.mapEntry t (.map (some m)) (T.kv a)).run P w = .ok (.tuple #[v0, goInt st]) w1 ∧ w.mapTurned w1 m ∧ MapT T vv w1 m (putL L a ((lk L a).getD z0)) ∧
      ∀ w2, w2.heap[m]? = w1.heap[m]? → ∀ b, ∃ w3, (Instr.entryStore t (.map (some m)) (goInt st) (vv b)).run P w2 = .ok () w3 ∧ w2.mapTurned w3 m ∧ MapT T vv w3 m (putL L a b) := by
  have h0 := h
  obtain ⟨hd, es, n, ⟨es0, clock, hb, F, hs, hD⟩, hp⟩ := h
  have hkey := T.key ha
  obtain ⟨v0, st, es1, clock1, hrun, _, hstore⟩ := entry_then_store law ht hz hb F hkey
  obtain ⟨u, s, w1, hrun2, hup, hu⟩ := entry_update T.keyed ht hz hb F hkey
  have he := hrun.symm.trans hrun2
  injection he with he1 he2
  injection he1 with he1
  have he1' : v0 = u := by have := congrArg (fun x : Array Value => x[0]?) he1; simpa using this
  subst he1'
  subst he2
  have hu' : v0 = vv ((lk L a).getD z0) := by
    injection hD with hD
    have hpm := Go.WideShapes.sorted_perm (es0.toList.map (rg P K Rv))
    rcases hu with ⟨e0, he0, hk, rfl⟩ | ⟨hno, rfl⟩
    · have hrd : rg P K Rv e0 = (T.kl a, .held e0.val) := rg_of (by unfold WideElems.rd; rw [hk, hkey]; rfl)
      have hm := hp.mem_iff.1 (by rw [hD]; exact hpm.mem_iff.2 (List.mem_map.2 ⟨e0, he0, hrd⟩))
      obtain ⟨q, hq, e1⟩ := List.mem_map.1 hm
      injection e1 with e1 e2
      have hqa : q.1 = a := T.kinj (hd.ok q hq) ha e1
      have : lk L a = some q.2 := hd.mem (by rw [← hqa]; exact hq)
      rw [this]
      injection e2 with e2
      exact e2.symm
    · have : lk L a = none := by
        cases e1 : lk L a with
        | none => rfl
        | some b0 =>
          exfalso
          have hm2 := hp.mem_iff.2 (List.mem_map.2 ⟨(a, b0), lk_some e1, rfl⟩)
          rw [hD] at hm2
          obtain ⟨x, hx, e2⟩ := List.mem_map.1 (hpm.mem_iff.1 hm2)
          obtain ⟨y, hy⟩ := F.reads x hx
          have hk := rd_key hy
          rw [rg_of hy] at e2
          rw [e2] at hk
          exact hno x hx (T.keyed.inj hk hkey)
      rw [this]; rfl
  obtain ⟨wA, hrunA, hturnA, hMA⟩ := h0.put ht hn ha ((lk L a).getD z0)
  rw [← hu', hup] at hrunA
  injection hrunA with _ hwA
  subst hwA
  refine ⟨v0, st, _, hrun, hturnA, hMA, fun w2 hw2 b => ?_⟩
  rw [heap_setBlock_same hb] at hw2
  obtain ⟨es', clock', hr2, hup2⟩ := hstore w2 (vv b) hw2
  obtain ⟨wB, hrunB, hturnB, hMB⟩ := h0.put ht hn ha b
  rw [hup2] at hrunB
  injection hrunB with _ hwB
  subst hwB
  refine ⟨_, hr2, ⟨es1, clock1, es', clock', hw2, rfl⟩, hMB.stay ?_⟩
  rw [heap_setBlock_same hb, heap_setBlock_same hw2]
end
section
variable {P : Program} {ops : Array Oper} {Q : Exit → Act → World → Prop}
theorem op_mapEntry {i d : Nat} {oi : Oper} {a : Act} {w : World} {K : Act → World → Prop} (hi : ops[i]? = some oi) (hd : oi.dst = some d) (hgd : oi.guard = none) (t : TypeId) (m x : Operand) (ho : oi.op = .mapEntry t m x)
    (M X v : Value) (w' : World) (hm : a.eval m = M) (hx : a.eval x = X) (hrun : (Instr.mapEntry t M X).run P w = .ok v w') (h : K { a with tmps := a.tmps.setIfInBounds d v } w') : wpOp P ops Q i K a w := by
  refine wpOp_step hi (fun K' hK => ?_)
  have hw : Region.wanted oi (yielded ops a.tmps) = true := by unfold Region.wanted; rw [hgd]
  rw [if_pos hw]
  unfold Oper.wp
  simp [execOp, ho, hm, hx, hrun, Result.andThen]
  have h' : K (a.put oi.dst v) w' := by unfold Act.put; rw [hd]; exact h
  exact hK _ _ h'
theorem op_entryStore {i : Nat} {oi : Oper} {a : Act} {w : World} {K : Act → World → Prop} (hi : ops[i]? = some oi) (hd : oi.dst = none) (hgd : oi.guard = none) (t : TypeId) (m s x : Operand) (ho : oi.op = .entryStore t m s x)
    (M S X : Value) (w' : World) (hm : a.eval m = M) (hs : a.eval s = S) (hx : a.eval x = X) (hrun : (Instr.entryStore t M S X).run P w = .ok () w') (h : K a w') : wpOp P ops Q i K a w := by
  refine wpOp_step hi (fun K' hK => ?_)
  have hw : Region.wanted oi (yielded ops a.tmps) = true := by unfold Region.wanted; rw [hgd]
  rw [if_pos hw]
  unfold Oper.wp
  simp [execOp, ho, hm, hs, hx, hrun, Result.andThen]
  have h' : K (a.put oi.dst undef) w' := by rw [hd]; exact h
  exact hK _ _ h'
end
end Go.Proofs.Ytenccpccpjjkmaa
