/-
  What CrewRanked's call of Rank does, in whichever order its operations come up. (Written by tools/gen_ranked8.py.)
-/
import Derived.Test.YtjibbbfpbflgmaaArgs8
namespace Go.Proofs.Ytjibbbfpbflgmaa
open Go.RowKit Go.Shelf CrewP
set_option linter.unusedVariables false
set_option linter.unusedSimpArgs false

theorem rank_val {f : Int} {ns rs : List Int} (hok : okC f ns = true) (hl : rs.length = ns.length) {q : Nat} (h1 : 1 ≤ q) (h2 : q ≤ ns.length) : rankR f ns rs q = (rankL rs q, 0) := by
  unfold rankR
  rw [if_neg (by simp [hok]), if_neg (by omega), Int.toNat_natCast]
theorem arr_arg {w : World} {g : Nat} {t : TypeId} {l : List Int} (hB : Blk w g t (cis l)) (hw : ∀ x ∈ l, Wf x) {n : Nat} (hn : n ≤ l.length) (hl : l.length ≤ 1000) : ArgI w (some ⟨g, 0, none⟩) n l.length (l.take n) := by
  refine ⟨by rw [List.length_take]; omega, hn, by unfold maxLen; omega, ?_, fun x hx => hw x (List.mem_of_mem_take hx)⟩
  refine ⟨by rw [cis_length, List.length_take]; omega, fun _ => ⟨g, 0, rfl, hB.lt, fun j u hu => ?_⟩⟩
  rw [Nat.zero_add]
  rw [cis_take, List.getElem?_take] at hu
  split at hu
  · exact hB.cell hu
  · cases hu

def rkR (gc gr : Nat) (f : Int) (A : Option Addr) (n c : Nat) (q : Nat) (x : Int) : Nat → Value → World → Prop
  | 0 => fun v w => v = .agg #[.int .i64 f, .slice A n c]
  | 1 => fun v w => v = .int .i64 n
  | 2 => fun v w => v = .slice (some ⟨gr, 0, none⟩) n 7
  | 3 => fun v w => v = .int .i64 q
  | 4 => fun v w => v = .tuple #[.int .i64 x, .int .i64 0]
  | 5 => fun v w => v = .tuple #[.int .i64 x, .int .i64 0]
  | 6 => fun v w => v = .int .i64 x
  | 7 => fun v w => v = .int .i64 0
  | 8 => fun v w => v = .int .i64 x
  | 9 => fun v w => v = .int .i64 0
  | _ => fun _ _ => True
def rkD (i : Nat) : Nat := ([26, 27, 28, 29, 30, 25, 31, 32, 9, 10] : List Nat).getD i 0
def rkG : Nat → Option Bool
  | _ => none
def rkS (i : Nat) : Bool := ([] : List Nat).contains i
theorem rk_gb (gc gr : Nat) (f : Int) (A : Option Addr) (n c : Nat) (q : Nat) (x : Int) : ∀ i b v w, rkG i = some b → rkR gc gr f A n c q x i v w → v = .bool b := by
  intro i b v w h hR
  unfold rkG at h
  split at h
  all_goals first | (injection h with h; subst h; exact hR) | cases h
theorem rk_sk (gc gr : Nat) (f : Int) (A : Option Addr) (n c : Nat) (q : Nat) (x : Int) : ∀ i w, rkS i = true → rkR gc gr f A n c q x i undef w := by
  intro i w h
  simp [rkS] at h
theorem rk_on (gc gr : Nat) (f : Int) (A : Option Addr) (n c : Nat) (q : Nat) (x : Int) : ∀ i v w w', rkR gc gr f A n c q x i v w → Below w.heap.size w w' → rkR gc gr f A n c q x i v w'
  | 0, v, w, w', h, _ => h
  | 1, v, w, w', h, _ => h
  | 2, v, w, w', h, _ => h
  | 3, v, w, w', h, _ => h
  | 4, v, w, w', h, _ => h
  | 5, v, w, w', h, _ => h
  | 6, v, w, w', h, _ => h
  | 7, v, w, w', h, _ => h
  | 8, v, w, w', h, _ => h
  | 9, v, w, w', h, _ => h
  | i + 10, v, w, w', h, hb => trivial
def rkOps : List Op := [.load 24 (.tmp 7),
  .move (.tmp 8),
  .slice 53 (.tmp 4) none (some (.tmp 27)) none,
  .move (.tmp 2),
  .call { callee := .value (.func 37), args := #[.tmp 26, .tmp 28, .tmp 29], argTypes := #[24, 22, 3] },
  .move (.tmp 30),
  .extract (.tmp 25) 0,
  .extract (.tmp 25) 1,
  .assign (.tmp 31),
  .assign (.tmp 32)]
def rkNeeds : Nat → List Nat
  | 0 => []
  | 1 => []
  | 2 => [1]
  | 3 => []
  | 4 => [0, 2, 3]
  | 5 => [4]
  | 6 => [5]
  | 7 => [5]
  | 8 => [6]
  | 9 => [7]
  | _ => []
set_option maxRecDepth 100000 in
set_option maxHeartbeats 3200000 in
theorem rk_step {ops : Array Oper} {Q : Exit → Act → World → Prop} {a0 : Act} {w0 : World} (gc gr : Nat) (f : Int) (A : Option Addr) (n c : Nat) (q : Nat) (x : Int) (hops : ((List.range 10).map fun i => (ops[i]?).map Oper.op) = rkOps.map some)
    (hnd : ((List.range 10).all fun i => (rkNeeds i).all fun j => ((ops[i]?).map fun o => o.after.any fun e => Region.binds .any e && (e.on == j)).getD false) = true)
    (ns rs : List Int) (x7 : a0.tmps[7]? = some (.pointer (some ⟨gc, 0, none⟩))) (x4 : a0.tmps[4]? = some (.pointer (some ⟨gr, 0, none⟩))) (x8 : a0.tmps[8]? = some (.int .i64 n)) (x2 : a0.tmps[2]? = some (.int .i64 q))
    (hB : Blk w0 gc 24 [.int .i64 f, .slice A n c]) (hA : ArgI w0 A n c ns) (hR : ArgI w0 (some ⟨gr, 0, none⟩) n 7 rs) (hn7 : (n : Int) ≤ 7) (hqw : Wf (q : Int)) (hrk : rankR f ns rs (q : Int) = (x, 0)) :
    ∀ i o, i < 10 → rkS i = false → ops[i]? = some o → o.dst = some (rkD i) → ∀ a w, Base rkD 10 a0 a → Below w0.heap.size w0 w → Region.wanted o (yielded ops a.tmps) = true →
      (∀ j, (o.after.any fun e => Region.binds .any e && (e.on == j)) = true → Has rkD (rkR gc gr f A n c q x) j a w) →
      ∀ K : Act → World → Prop, (∀ v w', rkR gc gr f A n c q x i v w' → Below w.heap.size w w' → K (a.put o.dst v) w') → wpOp Try.prog ops Q i K a w := by
  intro i o hi hs ho hds a w hbase hbl hwt hdep0 K hK
  have hop : some o.op = rkOps[i]? := by
    have h1 : ((List.range 10).map fun i => (ops[i]?).map Oper.op)[i]? = some (some o.op) := by
      rw [List.getElem?_map, List.getElem?_range hi]; simp only [Option.map_some, ho]
    rw [hops, List.getElem?_map] at h1
    cases h2 : rkOps[i]? with
    | none => rw [h2] at h1; cases h1
    | some y => rw [h2] at h1; simp only [Option.map_some, Option.some.injEq] at h1; rw [h1]
  have hdep : ∀ j, j ∈ rkNeeds i → Has rkD (rkR gc gr f A n c q x) j a w := fun j hj => by
    have h1 := List.all_eq_true.1 (List.all_eq_true.1 hnd i (List.mem_range.2 hi)) j hj
    rw [ho] at h1
    exact hdep0 j h1
  clear hdep0 hops hnd
  match i, hi, hs, ho, hop, hds, hdep, hK with
  | 0, _, hs, ho, hop, hds, hdep, hK =>
    have hop : o.op = .load 24 (.tmp 7) := Option.some.inj hop
    have hu7 : a.tmps[7]? = some (.pointer (some ⟨gc, 0, none⟩)) := (hbase.2.2 7 (by decide)).trans x7
    have e7 : a.eval (.tmp 7) = _ := ev_tmp hu7
    refine st3 ho hwt (v := .agg #[.int .i64 f, .slice A n c]) (w' := w) ?_ (hK _ w rfl (Below.refl _ _))
    have k0 : w.cell? ⟨gc, 0, none⟩ = some (.int .i64 f) := (hB.below hbl hB.lt).cell rfl
    have k1 : w.cell? ⟨gc, 1, none⟩ = some (.slice A n c) := (hB.below hbl hB.lt).cell rfl
    unfold execOp
    simp only [hop, Option.map_some, Option.map_none, e7]
    first | rfl | (go_simp; done) | (go_simp; simp; done) | (go_simp; intro h; omega)
  | 1, _, hs, ho, hop, hds, hdep, hK =>
    have hop : o.op = .move (.tmp 8) := Option.some.inj hop
    have hu8 : a.tmps[8]? = some (.int .i64 n) := (hbase.2.2 8 (by decide)).trans x8
    have e8 : a.eval (.tmp 8) = _ := ev_tmp hu8
    refine st3 ho hwt (v := _) (w' := w) ?_ (hK _ w rfl (Below.refl _ _))
    unfold execOp
    rw [hop, ← e8]
    rfl
  | 2, _, hs, ho, hop, hds, hdep, hK =>
    have hop : o.op = .slice 53 (.tmp 4) none (some (.tmp 27)) none := Option.some.inj hop
    have hu4 : a.tmps[4]? = some (.pointer (some ⟨gr, 0, none⟩)) := (hbase.2.2 4 (by decide)).trans x4
    have e4 : a.eval (.tmp 4) = _ := ev_tmp hu4
    obtain ⟨u27, hu27, hv27⟩ := hdep 1 (by decide)
    have hv27' : u27 = .int .i64 n := hv27
    subst hv27'
    have e27 : a.eval (.tmp 27) = _ := ev_tmp hu27
    refine st3 ho hwt (v := .slice (some ⟨gr, 0, none⟩) n 7) (w' := w) ?_ (hK _ w rfl (Below.refl _ _))
    have hn7' := hn7
    unfold execOp
    simp only [hop, Option.map_some, Option.map_none, e4, e27]
    first | rfl | (go_simp; done) | (go_simp; simp; done) | (go_simp; intro h; omega)
  | 3, _, hs, ho, hop, hds, hdep, hK =>
    have hop : o.op = .move (.tmp 2) := Option.some.inj hop
    have hu2 : a.tmps[2]? = some (.int .i64 q) := (hbase.2.2 2 (by decide)).trans x2
    have e2 : a.eval (.tmp 2) = _ := ev_tmp hu2
    refine st3 ho hwt (v := _) (w' := w) ?_ (hK _ w rfl (Below.refl _ _))
    unfold execOp
    rw [hop, ← e2]
    rfl
  | 4, _, hs, ho, hop, hds, hdep, hK =>
    have hop : o.op = .call { callee := .value (.func 37), args := #[.tmp 26, .tmp 28, .tmp 29], argTypes := #[24, 22, 3] } := Option.some.inj hop
    obtain ⟨u26, hu26, hv26⟩ := hdep 0 (by decide)
    have hv26' : u26 = .agg #[.int .i64 f, .slice A n c] := hv26
    subst hv26'
    have e26 : a.eval (.tmp 26) = _ := ev_tmp hu26
    obtain ⟨u28, hu28, hv28⟩ := hdep 2 (by decide)
    have hv28' : u28 = .slice (some ⟨gr, 0, none⟩) n 7 := hv28
    subst hv28'
    have e28 : a.eval (.tmp 28) = _ := ev_tmp hu28
    obtain ⟨u29, hu29, hv29⟩ := hdep 3 (by decide)
    have hv29' : u29 = .int .i64 q := hv29
    subst hv29'
    have e29 : a.eval (.tmp 29) = _ := ev_tmp hu29
    refine st3_call ho hwt (f := 37) (vals := #[.agg #[.int .i64 f, .slice A n c], .slice (some ⟨gr, 0, none⟩) n 7, .int .i64 q]) (Z := fun v w' => v = .tuple #[.int .i64 x, .int .i64 0] ∧ Below w.heap.size w w') ?_ ?_ ?_
    · unfold execOp
      simp only [hop, e26, e28, e29, resolve, invoke, Sem.run_bind, Sem.run_pure, Result.andThen_ok, List.map_toArray, List.map_cons, List.map_nil]
      first | rfl | exact enters_of Try.func37 (by kernel_rfl) rfl _ _
    · exact (rank_any f A n c ns w (hA.after hbl) _ n 7 rs (hR.after hbl) q hqw).mono fun e w' ⟨he, h2⟩ => ⟨_, he, by rw [hrk], h2⟩
    · rintro v w' ⟨h1, h2⟩
      exact hK v w' h1 h2
  | 5, _, hs, ho, hop, hds, hdep, hK =>
    have hop : o.op = .move (.tmp 30) := Option.some.inj hop
    obtain ⟨u30, hu30, hv30⟩ := hdep 4 (by decide)
    have hv30' : u30 = .tuple #[.int .i64 x, .int .i64 0] := hv30
    subst hv30'
    have e30 : a.eval (.tmp 30) = _ := ev_tmp hu30
    refine st3 ho hwt (v := _) (w' := w) ?_ (hK _ w rfl (Below.refl _ _))
    unfold execOp
    rw [hop, ← e30]
    rfl
  | 6, _, hs, ho, hop, hds, hdep, hK =>
    have hop : o.op = .extract (.tmp 25) 0 := Option.some.inj hop
    obtain ⟨u25, hu25, hv25⟩ := hdep 5 (by decide)
    have hv25' : u25 = .tuple #[.int .i64 x, .int .i64 0] := hv25
    subst hv25'
    have e25 : a.eval (.tmp 25) = _ := ev_tmp hu25
    refine st3 ho hwt (v := .int .i64 x) (w' := w) ?_ (hK _ w rfl (Below.refl _ _))
    unfold execOp
    simp only [hop, Option.map_some, Option.map_none, e25]
    first | rfl | (go_simp; done) | (go_simp; simp; done) | (go_simp; intro h; omega)
  | 7, _, hs, ho, hop, hds, hdep, hK =>
    have hop : o.op = .extract (.tmp 25) 1 := Option.some.inj hop
    obtain ⟨u25, hu25, hv25⟩ := hdep 5 (by decide)
    have hv25' : u25 = .tuple #[.int .i64 x, .int .i64 0] := hv25
    subst hv25'
    have e25 : a.eval (.tmp 25) = _ := ev_tmp hu25
    refine st3 ho hwt (v := .int .i64 0) (w' := w) ?_ (hK _ w rfl (Below.refl _ _))
    unfold execOp
    simp only [hop, Option.map_some, Option.map_none, e25]
    first | rfl | (go_simp; done) | (go_simp; simp; done) | (go_simp; intro h; omega)
  | 8, _, hs, ho, hop, hds, hdep, hK =>
    have hop : o.op = .assign (.tmp 31) := Option.some.inj hop
    obtain ⟨u31, hu31, hv31⟩ := hdep 6 (by decide)
    have hv31' : u31 = .int .i64 x := hv31
    subst hv31'
    have e31 : a.eval (.tmp 31) = _ := ev_tmp hu31
    refine st3 ho hwt (v := _) (w' := w) ?_ (hK _ w rfl (Below.refl _ _))
    unfold execOp
    rw [hop, ← e31]
    rfl
  | 9, _, hs, ho, hop, hds, hdep, hK =>
    have hop : o.op = .assign (.tmp 32) := Option.some.inj hop
    obtain ⟨u32, hu32, hv32⟩ := hdep 7 (by decide)
    have hv32' : u32 = .int .i64 0 := hv32
    subst hv32'
    have e32 : a.eval (.tmp 32) = _ := ev_tmp hu32
    refine st3 ho hwt (v := _) (w' := w) ?_ (hK _ w rfl (Below.refl _ _))
    unfold execOp
    rw [hop, ← e32]
    rfl
  | i + 10, hi, _, _, _, _, _, _ => exact absurd hi (by omega)
end Go.Proofs.Ytjibbbfpbflgmaa
