/-
  Who leads in views that follow each other; what CrewTurns' last condition does. (Written by tools/gen_turns8.py.)
-/
import Derived.Test.YtjibbbfpbflgmaaArgs8
namespace Go.Proofs.Ytjibbbfpbflgmaa
open Go.RowKit Go.Shelf CrewP
set_option linter.unusedVariables false
set_option linter.unusedSimpArgs false

theorem lead_get {f : Int} {ns : List Int} (hok : okC f ns = true) {v : Int} (hv : 0 ≤ v) : ∃ k, ∃ hk : k < ns.length, leaderR f ns v = ns[k] ∧ (k : Int) = v % (ns.length : Int) := by
  obtain ⟨⟨hf0, hf1⟩, hl, hasc⟩ := ok_len hok
  have h0 := Int.emod_nonneg v (show (ns.length : Int) ≠ 0 by omega)
  have h1 := Int.emod_lt_of_pos v (show (0 : Int) < ns.length by omega)
  have hk : (v % (ns.length : Int)).toNat < ns.length := by omega
  refine ⟨(v % (ns.length : Int)).toNat, hk, ?_, by omega⟩
  unfold leaderR
  rw [if_pos ⟨hok, hv⟩]
  simp [List.getD, List.getElem?_eq_getElem hk]
theorem lead_mem {f : Int} {ns : List Int} (hok : okC f ns = true) {v : Int} (hv : 0 ≤ v) : leaderR f ns v ∈ ns := by
  obtain ⟨k, hk, e, _⟩ := lead_get hok hv
  rw [e]; exact List.getElem_mem hk
theorem lead_ne {f : Int} {ns : List Int} (hok : okC f ns = true) {v : Int} (hv : 0 ≤ v) {i j : Nat} (hij : i < j) (hj : j < ns.length) : leaderR f ns (v + i) ≠ leaderR f ns (v + j) := by
  obtain ⟨⟨hf0, hf1⟩, hl, hasc⟩ := ok_len hok
  obtain ⟨k1, h1, e1, m1⟩ := lead_get hok (v := v + i) (by omega)
  obtain ⟨k2, h2, e2, m2⟩ := lead_get hok (v := v + j) (by omega)
  rw [e1, e2]
  intro e
  have hk := (List.getElem_inj (asc_nodup hasc)).1 e
  have hf : f = 0 ∨ f = 1 ∨ f = 2 := by omega
  rcases hf with rfl | rfl | rfl
  · have hn : ns.length = 1 := by omega
    omega
  · have hn : ns.length = 4 := by omega
    rw [hn] at m1 m2
    omega
  · have hn : ns.length = 7 := by omega
    rw [hn] at m1 m2
    omega
theorem lead_turn {f : Int} {ns : List Int} (hok : okC f ns = true) {v : Int} (hv : 0 ≤ v) : leaderR f ns (v + ns.length) = leaderR f ns v := by
  obtain ⟨k1, h1, e1, m1⟩ := lead_get hok (v := v + ns.length) (by omega)
  obtain ⟨k2, h2, e2, m2⟩ := lead_get hok hv
  rw [e1, e2]
  congr 1
  rw [Int.add_emod_right] at m1
  omega
def leads (f : Int) (ns : List Int) (v : Int) (j : Nat) : List Int := (List.range j).map fun i => leaderR f ns (v + (i : Nat))
theorem leads_succ (f : Int) (ns : List Int) (v : Int) (j : Nat) : leads f ns v (j + 1) = leads f ns v j ++ [leaderR f ns (v + j)] := by
  unfold leads
  rw [List.range_succ, List.map_append]
  rfl
theorem leads_len (f : Int) (ns : List Int) (v : Int) (j : Nat) : (leads f ns v j).length = j := by simp [leads]
theorem leads_mem {f : Int} {ns : List Int} (hok : okC f ns = true) {v : Int} (hv : 0 ≤ v) (j : Nat) : ∀ x ∈ leads f ns v j, x ∈ ns := fun x hx => by
  unfold leads at hx
  obtain ⟨i, _, rfl⟩ := List.mem_map.1 hx
  exact lead_mem hok (by omega)
theorem leads_votes {f : Int} {ns : List Int} (hok : okC f ns = true) {v : Int} (hv : 0 ≤ v) : ∀ j, j ≤ ns.length → votesR f ns (leads f ns v j) = j := by
  have hvo : ∀ l, votesR f ns l = votesL ns l := fun l => by unfold votesR; rw [if_pos hok]
  intro j
  induction j with
  | zero => intro _; rw [hvo]; simp [votesL, leads]
  | succ j ih =>
    intro hj
    have h1 := ih (by omega)
    rw [hvo] at h1 ⊢
    obtain ⟨k, hk, e, _⟩ := lead_get hok (v := v + (j : Int)) (by omega)
    rw [leads_succ, e, votes_more (asc_nodup (ok_len hok).2.2) hk ?_, h1]
    rw [← e]
    intro hm
    unfold leads at hm
    obtain ⟨i, hi, h⟩ := List.mem_map.1 hm
    exact lead_ne hok hv (List.mem_range.1 hi) (by omega) h
theorem leads_first {f : Int} {ns : List Int} {v : Int} {n : Nat} (hn : 0 < n) : (leads f ns v n)[0]? = some (leaderR f ns v) := by
  unfold leads
  rw [List.getElem?_map, List.getElem?_range hn]
  simp

def tnR (gc : Nat) (f : Int) (A : Option Addr) (n c : Nat) (b6 c6 : Nat) (x vv m : Int) : Nat → Value → World → Prop
  | 0 => fun v w => v = .agg #[.int .i64 f, .slice A n c]
  | 1 => fun v w => v = .slice (some ⟨b6, 0, none⟩) n c6
  | 2 => fun v w => v = .int .i64 n
  | 3 => fun v w => v = .pointer (some ⟨gc, 1, none⟩)
  | 4 => fun v w => v = .slice A n c
  | 5 => fun v w => v = .int .i64 n
  | 6 => fun v w => v = .bool true
  | 7 => fun v w => v = .bool true
  | 8 => fun v w => v = .agg #[.int .i64 f, .slice A n c]
  | 9 => fun v w => v = .int .i64 vv
  | 10 => fun v w => v = .pointer (some ⟨gc, 1, none⟩)
  | 11 => fun v w => v = .slice A n c
  | 12 => fun v w => v = .int .i64 n
  | 13 => fun v w => v = .int .i64 m
  | 14 => fun v w => v = .int .i64 x
  | 15 => fun v w => v = .slice (some ⟨b6, 0, none⟩) n c6
  | 16 => fun v w => v = .pointer (some ⟨b6, 0, none⟩)
  | 17 => fun v w => v = .int .i64 x
  | 18 => fun v w => v = .bool true
  | 19 => fun v w => v = .bool true
  | 20 => fun v w => v = .bool true
  | _ => fun _ _ => True
def tnD (i : Nat) : Nat := ([42, 43, 44, 45, 46, 47, 48, 49, 50, 51, 52, 53, 54, 55, 56, 57, 58, 59, 60, 61, 4] : List Nat).getD i 0
def tnG : Nat → Option Bool
  | 7 => some true
  | _ => none
def tnS (i : Nat) : Bool := ([] : List Nat).contains i
theorem tn_gb (gc : Nat) (f : Int) (A : Option Addr) (n c : Nat) (b6 c6 : Nat) (x vv m : Int) : ∀ i b v w, tnG i = some b → tnR gc f A n c b6 c6 x vv m i v w → v = .bool b := by
  intro i b v w h hR
  unfold tnG at h
  split at h
  all_goals first | (injection h with h; subst h; exact hR) | cases h
theorem tn_sk (gc : Nat) (f : Int) (A : Option Addr) (n c : Nat) (b6 c6 : Nat) (x vv m : Int) : ∀ i w, tnS i = true → tnR gc f A n c b6 c6 x vv m i undef w := by
  intro i w h
  simp [tnS] at h
theorem tn_on (gc : Nat) (f : Int) (A : Option Addr) (n c : Nat) (b6 c6 : Nat) (x vv m : Int) : ∀ i v w w', tnR gc f A n c b6 c6 x vv m i v w → Below w.heap.size w w' → tnR gc f A n c b6 c6 x vv m i v w'
  | 0, v, w, w', h, _ => h
  | 1, v, w, w', h, _ => h
  | 2, v, w, w', h, _ => h
  | 3, v, w, w', h, _ => h
  | 4, v, w, w', h, _ => h
  | 5, v, w, w', h, _ => h
  | 6, v, w, w', h, _ => h
  | 7, v, w, w', h, _ => h
  | 8, v, w, w', h, _ => h
  | 9, v, w, w', h, _ => h
  | 10, v, w, w', h, _ => h
  | 11, v, w, w', h, _ => h
  | 12, v, w, w', h, _ => h
  | 13, v, w, w', h, _ => h
  | 14, v, w, w', h, _ => h
  | 15, v, w, w', h, _ => h
  | 16, v, w, w', h, _ => h
  | 17, v, w, w', h, _ => h
  | 18, v, w, w', h, _ => h
  | 19, v, w, w', h, _ => h
  | 20, v, w, w', h, _ => h
  | i + 21, v, w, w', h, hb => trivial
def tnOps : List Op := [.load 24 (.tmp 5),
  .move (.tmp 6),
  .call { callee := .value (.func 39), args := #[.tmp 42, .tmp 43], argTypes := #[24, 22] },
  .fieldAddr 24 (.tmp 5) 1,
  .load 22 (.tmp 45),
  .call { callee := .builtin .len, args := #[.tmp 46], argTypes := #[22] },
  .binOp .eql 3 (.tmp 44) (.tmp 47) 3,
  .move (.tmp 48),
  .load 24 (.tmp 5),
  .move (.tmp 1),
  .fieldAddr 24 (.tmp 5) 1,
  .load 22 (.tmp 52),
  .call { callee := .builtin .len, args := #[.tmp 53], argTypes := #[22] },
  .binOp .add 3 (.tmp 51) (.tmp 54) 3,
  .call { callee := .value (.func 30), args := #[.tmp 50, .tmp 55], argTypes := #[24, 3] },
  .move (.tmp 6),
  .indexAddr 22 (.tmp 57) (.const (.int .i64 0)),
  .load 3 (.tmp 58),
  .binOp .eql 3 (.tmp 56) (.tmp 59) 3,
  .pick (.tmp 49) (.tmp 60) (.const (.bool false)),
  .assign (.tmp 61)]
def tnNeeds : Nat → List Nat
  | 0 => []
  | 1 => []
  | 2 => [0, 1]
  | 3 => []
  | 4 => [3]
  | 5 => [4]
  | 6 => [2, 5]
  | 7 => [6]
  | 8 => []
  | 9 => []
  | 10 => []
  | 11 => [10]
  | 12 => [11]
  | 13 => [9, 12]
  | 14 => [8, 13]
  | 15 => []
  | 16 => [15]
  | 17 => [16]
  | 18 => [14, 17]
  | 19 => [7, 18]
  | 20 => [19]
  | _ => []
set_option maxRecDepth 100000 in
set_option maxHeartbeats 3200000 in
theorem tn_step {ops : Array Oper} {Q : Exit → Act → World → Prop} {a0 : Act} {w0 : World} (gc : Nat) (f : Int) (A : Option Addr) (n c : Nat) (b6 c6 : Nat) (x vv m : Int) (hops : ((List.range 21).map fun i => (ops[i]?).map Oper.op) = tnOps.map some)
    (hnd : ((List.range 21).all fun i => (tnNeeds i).all fun j => ((ops[i]?).map fun o => o.after.any fun e => Region.binds .any e && (e.on == j)).getD false) = true)
    (ns sl : List Int) (x5 : a0.tmps[5]? = some (.pointer (some ⟨gc, 0, none⟩))) (x6 : a0.tmps[6]? = some (.slice (some ⟨b6, 0, none⟩) n c6)) (x1 : a0.tmps[1]? = some (.int .i64 vv))
    (hB : Blk w0 gc 24 [.int .i64 f, .slice A n c]) (hA : ArgI w0 A n c ns) (hok : okC f ns = true) (h6 : ArgI w0 (some ⟨b6, 0, none⟩) n c6 sl) (hvo : ((votesR f ns sl : Nat) : Int) = n) (hm : IntKind.i64.wrap (vv + n) = m) (hmw : Wf m) (hle : leaderR f ns m = x) (hn0 : (0 : Int) < n) (hlt6 : b6 < w0.heap.size) (h60 : w0.cell? ⟨b6, 0, none⟩ = some (.int .i64 x)) :
    ∀ i o, i < 21 → tnS i = false → ops[i]? = some o → o.dst = some (tnD i) → ∀ a w, Base tnD 21 a0 a → Below w0.heap.size w0 w → Region.wanted o (yielded ops a.tmps) = true →
      (∀ j, (o.after.any fun e => Region.binds .any e && (e.on == j)) = true → Has tnD (tnR gc f A n c b6 c6 x vv m) j a w) →
      ∀ K : Act → World → Prop, (∀ v w', tnR gc f A n c b6 c6 x vv m i v w' → Below w.heap.size w w' → K (a.put o.dst v) w') → wpOp Try.prog ops Q i K a w := by
  intro i o hi hs ho hds a w hbase hbl hwt hdep0 K hK
  have hop : some o.op = tnOps[i]? := by
    have h1 : ((List.range 21).map fun i => (ops[i]?).map Oper.op)[i]? = some (some o.op) := by
      rw [List.getElem?_map, List.getElem?_range hi]; simp only [Option.map_some, ho]
    rw [hops, List.getElem?_map] at h1
    cases h2 : tnOps[i]? with
    | none => rw [h2] at h1; cases h1
    | some y => rw [h2] at h1; simp only [Option.map_some, Option.some.injEq] at h1; rw [h1]
  have hdep : ∀ j, j ∈ tnNeeds i → Has tnD (tnR gc f A n c b6 c6 x vv m) j a w := fun j hj => by
    have h1 := List.all_eq_true.1 (List.all_eq_true.1 hnd i (List.mem_range.2 hi)) j hj
    rw [ho] at h1
    exact hdep0 j h1
  clear hdep0 hops hnd
  match i, hi, hs, ho, hop, hds, hdep, hK with
  | 0, _, hs, ho, hop, hds, hdep, hK =>
    have hop : o.op = .load 24 (.tmp 5) := Option.some.inj hop
    have hu5 : a.tmps[5]? = some (.pointer (some ⟨gc, 0, none⟩)) := (hbase.2.2 5 (by decide)).trans x5
    have e5 : a.eval (.tmp 5) = _ := ev_tmp hu5
    refine st3 ho hwt (v := .agg #[.int .i64 f, .slice A n c]) (w' := w) ?_ (hK _ w rfl (Below.refl _ _))
    have k0 : w.cell? ⟨gc, 0, none⟩ = some (.int .i64 f) := (hB.below hbl hB.lt).cell rfl
    have k1 : w.cell? ⟨gc, 1, none⟩ = some (.slice A n c) := (hB.below hbl hB.lt).cell rfl
    unfold execOp
    simp only [hop, Option.map_some, Option.map_none, e5]
    first | rfl | (go_simp; done) | (go_simp; simp; done) | (go_simp; intro h; omega)
  | 1, _, hs, ho, hop, hds, hdep, hK =>
    have hop : o.op = .move (.tmp 6) := Option.some.inj hop
    have hu6 : a.tmps[6]? = some (.slice (some ⟨b6, 0, none⟩) n c6) := (hbase.2.2 6 (by decide)).trans x6
    have e6 : a.eval (.tmp 6) = _ := ev_tmp hu6
    refine st3 ho hwt (v := _) (w' := w) ?_ (hK _ w rfl (Below.refl _ _))
    unfold execOp
    rw [hop, ← e6]
    rfl
  | 2, _, hs, ho, hop, hds, hdep, hK =>
    have hop : o.op = .call { callee := .value (.func 39), args := #[.tmp 42, .tmp 43], argTypes := #[24, 22] } := Option.some.inj hop
    obtain ⟨u42, hu42, hv42⟩ := hdep 0 (by decide)
    have hv42' : u42 = .agg #[.int .i64 f, .slice A n c] := hv42
    subst hv42'
    have e42 : a.eval (.tmp 42) = _ := ev_tmp hu42
    obtain ⟨u43, hu43, hv43⟩ := hdep 1 (by decide)
    have hv43' : u43 = .slice (some ⟨b6, 0, none⟩) n c6 := hv43
    subst hv43'
    have e43 : a.eval (.tmp 43) = _ := ev_tmp hu43
    refine st3_call ho hwt (f := 39) (vals := #[.agg #[.int .i64 f, .slice A n c], .slice (some ⟨b6, 0, none⟩) n c6]) (Z := fun v w' => v = .int .i64 n ∧ Below w.heap.size w w') ?_ ?_ ?_
    · unfold execOp
      simp only [hop, e42, e43, resolve, invoke, Sem.run_bind, Sem.run_pure, Result.andThen_ok, List.map_toArray, List.map_cons, List.map_nil]
      first | rfl | exact enters_of Try.func39 (by kernel_rfl) rfl _ _
    · exact (votes_any f A n c ns w (hA.after hbl) _ n c6 _ (h6.after hbl)).mono fun e w' ⟨he, h2⟩ => ⟨_, he, congrArg (Value.int .i64) hvo, h2⟩
    · rintro v w' ⟨h1, h2⟩
      exact hK v w' h1 h2
  | 3, _, hs, ho, hop, hds, hdep, hK =>
    have hop : o.op = .fieldAddr 24 (.tmp 5) 1 := Option.some.inj hop
    have hu5 : a.tmps[5]? = some (.pointer (some ⟨gc, 0, none⟩)) := (hbase.2.2 5 (by decide)).trans x5
    have e5 : a.eval (.tmp 5) = _ := ev_tmp hu5
    refine st3 ho hwt (v := .pointer (some ⟨gc, 1, none⟩)) (w' := w) ?_ (hK _ w rfl (Below.refl _ _))
    unfold execOp
    simp only [hop, Option.map_some, Option.map_none, e5]
    first | rfl | (go_simp; done) | (go_simp; simp; done) | (go_simp; intro h; omega)
  | 4, _, hs, ho, hop, hds, hdep, hK =>
    have hop : o.op = .load 22 (.tmp 45) := Option.some.inj hop
    obtain ⟨u45, hu45, hv45⟩ := hdep 3 (by decide)
    have hv45' : u45 = .pointer (some ⟨gc, 1, none⟩) := hv45
    subst hv45'
    have e45 : a.eval (.tmp 45) = _ := ev_tmp hu45
    refine st3 ho hwt (v := .slice A n c) (w' := w) ?_ (hK _ w rfl (Below.refl _ _))
    have k1 : w.cell? ⟨gc, 1, none⟩ = some (.slice A n c) := (hB.below hbl hB.lt).cell rfl
    unfold execOp
    simp only [hop, Option.map_some, Option.map_none, e45]
    first | rfl | (go_simp; done) | (go_simp; simp; done) | (go_simp; intro h; omega)
  | 5, _, hs, ho, hop, hds, hdep, hK =>
    have hop : o.op = .call { callee := .builtin .len, args := #[.tmp 46], argTypes := #[22] } := Option.some.inj hop
    obtain ⟨u46, hu46, hv46⟩ := hdep 4 (by decide)
    have hv46' : u46 = .slice A n c := hv46
    subst hv46'
    have e46 : a.eval (.tmp 46) = _ := ev_tmp hu46
    refine st3 ho hwt (v := .int .i64 n) (w' := w) ?_ (hK _ w rfl (Below.refl _ _))
    unfold execOp
    simp only [hop, resolve, invoke, builtin, Sem.run_bind, Sem.run_pure, Result.andThen_ok, List.map_toArray, List.map_cons, List.map_nil, e46]
    first | rfl | (go_simp; done) | (go_simp; simp; done) | (go_simp; intro h; omega)
  | 6, _, hs, ho, hop, hds, hdep, hK =>
    have hop : o.op = .binOp .eql 3 (.tmp 44) (.tmp 47) 3 := Option.some.inj hop
    obtain ⟨u44, hu44, hv44⟩ := hdep 2 (by decide)
    have hv44' : u44 = .int .i64 n := hv44
    subst hv44'
    have e44 : a.eval (.tmp 44) = _ := ev_tmp hu44
    obtain ⟨u47, hu47, hv47⟩ := hdep 5 (by decide)
    have hv47' : u47 = .int .i64 n := hv47
    subst hv47'
    have e47 : a.eval (.tmp 47) = _ := ev_tmp hu47
    refine st3 ho hwt (v := .bool true) (w' := w) ?_ (hK _ w rfl (Below.refl _ _))
    unfold execOp
    simp only [hop, e44, e47]
    first | rfl | (go_simp; done) | (go_simp; simp; done) | (go_simp; intro h; omega)
  | 7, _, hs, ho, hop, hds, hdep, hK =>
    have hop : o.op = .move (.tmp 48) := Option.some.inj hop
    obtain ⟨u48, hu48, hv48⟩ := hdep 6 (by decide)
    have hv48' : u48 = .bool true := hv48
    subst hv48'
    have e48 : a.eval (.tmp 48) = _ := ev_tmp hu48
    refine st3 ho hwt (v := _) (w' := w) ?_ (hK _ w rfl (Below.refl _ _))
    unfold execOp
    rw [hop, ← e48]
    rfl
  | 8, _, hs, ho, hop, hds, hdep, hK =>
    have hop : o.op = .load 24 (.tmp 5) := Option.some.inj hop
    have hu5 : a.tmps[5]? = some (.pointer (some ⟨gc, 0, none⟩)) := (hbase.2.2 5 (by decide)).trans x5
    have e5 : a.eval (.tmp 5) = _ := ev_tmp hu5
    refine st3 ho hwt (v := .agg #[.int .i64 f, .slice A n c]) (w' := w) ?_ (hK _ w rfl (Below.refl _ _))
    have k0 : w.cell? ⟨gc, 0, none⟩ = some (.int .i64 f) := (hB.below hbl hB.lt).cell rfl
    have k1 : w.cell? ⟨gc, 1, none⟩ = some (.slice A n c) := (hB.below hbl hB.lt).cell rfl
    unfold execOp
    simp only [hop, Option.map_some, Option.map_none, e5]
    first | rfl | (go_simp; done) | (go_simp; simp; done) | (go_simp; intro h; omega)
  | 9, _, hs, ho, hop, hds, hdep, hK =>
    have hop : o.op = .move (.tmp 1) := Option.some.inj hop
    have hu1 : a.tmps[1]? = some (.int .i64 vv) := (hbase.2.2 1 (by decide)).trans x1
    have e1 : a.eval (.tmp 1) = _ := ev_tmp hu1
    refine st3 ho hwt (v := _) (w' := w) ?_ (hK _ w rfl (Below.refl _ _))
    unfold execOp
    rw [hop, ← e1]
    rfl
  | 10, _, hs, ho, hop, hds, hdep, hK =>
    have hop : o.op = .fieldAddr 24 (.tmp 5) 1 := Option.some.inj hop
    have hu5 : a.tmps[5]? = some (.pointer (some ⟨gc, 0, none⟩)) := (hbase.2.2 5 (by decide)).trans x5
    have e5 : a.eval (.tmp 5) = _ := ev_tmp hu5
    refine st3 ho hwt (v := .pointer (some ⟨gc, 1, none⟩)) (w' := w) ?_ (hK _ w rfl (Below.refl _ _))
    unfold execOp
    simp only [hop, Option.map_some, Option.map_none, e5]
    first | rfl | (go_simp; done) | (go_simp; simp; done) | (go_simp; intro h; omega)
  | 11, _, hs, ho, hop, hds, hdep, hK =>
    have hop : o.op = .load 22 (.tmp 52) := Option.some.inj hop
    obtain ⟨u52, hu52, hv52⟩ := hdep 10 (by decide)
    have hv52' : u52 = .pointer (some ⟨gc, 1, none⟩) := hv52
    subst hv52'
    have e52 : a.eval (.tmp 52) = _ := ev_tmp hu52
    refine st3 ho hwt (v := .slice A n c) (w' := w) ?_ (hK _ w rfl (Below.refl _ _))
    have k1 : w.cell? ⟨gc, 1, none⟩ = some (.slice A n c) := (hB.below hbl hB.lt).cell rfl
    unfold execOp
    simp only [hop, Option.map_some, Option.map_none, e52]
    first | rfl | (go_simp; done) | (go_simp; simp; done) | (go_simp; intro h; omega)
  | 12, _, hs, ho, hop, hds, hdep, hK =>
    have hop : o.op = .call { callee := .builtin .len, args := #[.tmp 53], argTypes := #[22] } := Option.some.inj hop
    obtain ⟨u53, hu53, hv53⟩ := hdep 11 (by decide)
    have hv53' : u53 = .slice A n c := hv53
    subst hv53'
    have e53 : a.eval (.tmp 53) = _ := ev_tmp hu53
    refine st3 ho hwt (v := .int .i64 n) (w' := w) ?_ (hK _ w rfl (Below.refl _ _))
    unfold execOp
    simp only [hop, resolve, invoke, builtin, Sem.run_bind, Sem.run_pure, Result.andThen_ok, List.map_toArray, List.map_cons, List.map_nil, e53]
    first | rfl | (go_simp; done) | (go_simp; simp; done) | (go_simp; intro h; omega)
  | 13, _, hs, ho, hop, hds, hdep, hK =>
    have hop : o.op = .binOp .add 3 (.tmp 51) (.tmp 54) 3 := Option.some.inj hop
    obtain ⟨u51, hu51, hv51⟩ := hdep 9 (by decide)
    have hv51' : u51 = .int .i64 vv := hv51
    subst hv51'
    have e51 : a.eval (.tmp 51) = _ := ev_tmp hu51
    obtain ⟨u54, hu54, hv54⟩ := hdep 12 (by decide)
    have hv54' : u54 = .int .i64 n := hv54
    subst hv54'
    have e54 : a.eval (.tmp 54) = _ := ev_tmp hu54
    refine st3 ho hwt (v := .int .i64 m) (w' := w) ?_ (hK _ w rfl (Below.refl _ _))
    unfold execOp
    simp only [hop, Option.map_some, Option.map_none, e51, e54]
    first | rfl | (go_simp; done) | (go_simp; simp; done) | (go_simp; intro h; omega)
  | 14, _, hs, ho, hop, hds, hdep, hK =>
    have hop : o.op = .call { callee := .value (.func 30), args := #[.tmp 50, .tmp 55], argTypes := #[24, 3] } := Option.some.inj hop
    obtain ⟨u50, hu50, hv50⟩ := hdep 8 (by decide)
    have hv50' : u50 = .agg #[.int .i64 f, .slice A n c] := hv50
    subst hv50'
    have e50 : a.eval (.tmp 50) = _ := ev_tmp hu50
    obtain ⟨u55, hu55, hv55⟩ := hdep 13 (by decide)
    have hv55' : u55 = .int .i64 m := hv55
    subst hv55'
    have e55 : a.eval (.tmp 55) = _ := ev_tmp hu55
    refine st3_call ho hwt (f := 30) (vals := #[.agg #[.int .i64 f, .slice A n c], .int .i64 m]) (Z := fun v w' => v = .int .i64 x ∧ Below w.heap.size w w') ?_ ?_ ?_
    · unfold execOp
      simp only [hop, e50, e55, resolve, invoke, Sem.run_bind, Sem.run_pure, Result.andThen_ok, List.map_toArray, List.map_cons, List.map_nil]
      first | rfl | exact enters_of Try.func30 (by kernel_rfl) rfl _ _
    · exact (leader_any f A n c ns w (hA.after hbl) m hmw).mono fun e w' ⟨he, h2⟩ => ⟨_, he, congrArg (Value.int .i64) hle, h2⟩
    · rintro v w' ⟨h1, h2⟩
      exact hK v w' h1 h2
  | 15, _, hs, ho, hop, hds, hdep, hK =>
    have hop : o.op = .move (.tmp 6) := Option.some.inj hop
    have hu6 : a.tmps[6]? = some (.slice (some ⟨b6, 0, none⟩) n c6) := (hbase.2.2 6 (by decide)).trans x6
    have e6 : a.eval (.tmp 6) = _ := ev_tmp hu6
    refine st3 ho hwt (v := _) (w' := w) ?_ (hK _ w rfl (Below.refl _ _))
    unfold execOp
    rw [hop, ← e6]
    rfl
  | 16, _, hs, ho, hop, hds, hdep, hK =>
    have hop : o.op = .indexAddr 22 (.tmp 57) (.const (.int .i64 0)) := Option.some.inj hop
    obtain ⟨u57, hu57, hv57⟩ := hdep 15 (by decide)
    have hv57' : u57 = .slice (some ⟨b6, 0, none⟩) n c6 := hv57
    subst hv57'
    have e57 : a.eval (.tmp 57) = _ := ev_tmp hu57
    refine st3 ho hwt (v := .pointer (some ⟨b6, 0, none⟩)) (w' := w) ?_ (hK _ w rfl (Below.refl _ _))
    have hn0' := hn0
    unfold execOp
    simp only [hop, Option.map_some, Option.map_none, e57]
    first | rfl | (go_simp; done) | (go_simp; simp; done) | (go_simp; intro h; omega)
  | 17, _, hs, ho, hop, hds, hdep, hK =>
    have hop : o.op = .load 3 (.tmp 58) := Option.some.inj hop
    obtain ⟨u58, hu58, hv58⟩ := hdep 16 (by decide)
    have hv58' : u58 = .pointer (some ⟨b6, 0, none⟩) := hv58
    subst hv58'
    have e58 : a.eval (.tmp 58) = _ := ev_tmp hu58
    refine st3 ho hwt (v := .int .i64 x) (w' := w) ?_ (hK _ w rfl (Below.refl _ _))
    have hc0 : w.cell? ⟨b6, 0, none⟩ = some (.int .i64 x) := (hbl.cell (p := ⟨b6, 0, none⟩) hlt6).trans h60
    unfold execOp
    simp only [hop, Option.map_some, Option.map_none, e58]
    first | rfl | (go_simp; done) | (go_simp; simp; done) | (go_simp; intro h; omega)
  | 18, _, hs, ho, hop, hds, hdep, hK =>
    have hop : o.op = .binOp .eql 3 (.tmp 56) (.tmp 59) 3 := Option.some.inj hop
    obtain ⟨u56, hu56, hv56⟩ := hdep 14 (by decide)
    have hv56' : u56 = .int .i64 x := hv56
    subst hv56'
    have e56 : a.eval (.tmp 56) = _ := ev_tmp hu56
    obtain ⟨u59, hu59, hv59⟩ := hdep 17 (by decide)
    have hv59' : u59 = .int .i64 x := hv59
    subst hv59'
    have e59 : a.eval (.tmp 59) = _ := ev_tmp hu59
    refine st3 ho hwt (v := .bool true) (w' := w) ?_ (hK _ w rfl (Below.refl _ _))
    unfold execOp
    simp only [hop, e56, e59]
    first | rfl | (go_simp; done) | (go_simp; simp; done) | (go_simp; intro h; omega)
  | 19, _, hs, ho, hop, hds, hdep, hK =>
    have hop : o.op = .pick (.tmp 49) (.tmp 60) (.const (.bool false)) := Option.some.inj hop
    obtain ⟨u49, hu49, hv49⟩ := hdep 7 (by decide)
    have hv49' : u49 = .bool true := hv49
    subst hv49'
    have e49 : a.eval (.tmp 49) = _ := ev_tmp hu49
    obtain ⟨u60, hu60, hv60⟩ := hdep 18 (by decide)
    have hv60' : u60 = .bool true := hv60
    subst hv60'
    have e60 : a.eval (.tmp 60) = _ := ev_tmp hu60
    refine st3 ho hwt (v := .bool true) (w' := w) ?_ (hK _ w rfl (Below.refl _ _))
    unfold execOp
    simp only [hop, e49, e60]
    first | rfl | (go_simp; done) | (go_simp; simp; done) | (go_simp; intro h; omega)
  | 20, _, hs, ho, hop, hds, hdep, hK =>
    have hop : o.op = .assign (.tmp 61) := Option.some.inj hop
    obtain ⟨u61, hu61, hv61⟩ := hdep 19 (by decide)
    have hv61' : u61 = .bool true := hv61
    subst hv61'
    have e61 : a.eval (.tmp 61) = _ := ev_tmp hu61
    refine st3 ho hwt (v := _) (w' := w) ?_ (hK _ w rfl (Below.refl _ _))
    unfold execOp
    rw [hop, ← e61]
    rfl
  | i + 21, hi, _, _, _, _, _, _ => exact absurd hi (by omega)
end Go.Proofs.Ytjibbbfpbflgmaa
