/-
  Laid together for a hand-in: Ra15, Ak15.
-/
import Derived.Test.YtenccpccpjjkmaaZ10
import Derived.Test.YtenccpccpjjkmaaZ07
import Derived.Test.YtenccpccpjjkmaaZ09

namespace Go.Proofs.Ytenccpccpjjkmaa
open Go.RowKit Go.Shelf Go.Sort Go.Maps CrewP
set_option linter.unusedVariables false
set_option linter.unusedSimpArgs false

theorem RangeT.nd {P : Program} {K : TypeId} {α β : Type} [DecidableEq α] {T : KeyT P K α} {vv : β → Value} {w : World} {m r : Nat} {L todo : List (α × β)} (h : RangeT T vv w m r L todo) : (todo.map Prod.fst).Nodup := by
  obtain ⟨hd, _, _, _, _, _, _, rfl⟩ := h
  exact hd.nd.sublist (List.filter_sublist.map _)
/-- What a node tells while the loop goes on. -/
def tlR (told : Int → List Mk) (t : Int) (todo : List (Int × Sl)) (n : Int) : List Mk := if todo.any (fun q => decide (q.1 = n)) then told n else abv t (told n)
theorem tlR_in {told : Int → List Mk} {t : Int} {todo : List (Int × Sl)} {n : Int} {s : Sl} (h : (n, s) ∈ todo) : tlR told t todo n = told n := by
  unfold tlR
  rw [if_pos]
  rw [List.any_eq_true]
  exact ⟨_, h, by simp⟩
theorem tlR_perm {told : Int → List Mk} {t : Int} {todo more : List (Int × Sl)} {n k : Int} {s : Sl} (h : todo.Perm ((n, s) :: more)) (hk : k ≠ n) : tlR told t todo k = tlR told t more k := by
  unfold tlR
  have : todo.any (fun q => decide (q.1 = k)) = more.any (fun q => decide (q.1 = k)) := by
    rw [Bool.eq_iff_iff, List.any_eq_true, List.any_eq_true]
    constructor
    · rintro ⟨q, hq, e⟩
      rcases List.mem_cons.1 (h.mem_iff.1 hq) with e2 | h2
      · subst e2; simp at e; exact absurd e.symm hk
      · exact ⟨q, h2, e⟩
    · rintro ⟨q, hq, e⟩
      exact ⟨q, h.mem_iff.2 (List.mem_cons_of_mem _ hq), e⟩
  rw [this]
theorem tlR_out {told : Int → List Mk} {t : Int} {more : List (Int × Sl)} {n : Int} (h : ∀ s, (n, s) ∉ more) : tlR told t more n = abv t (told n) := by
  unfold tlR
  rw [if_neg]
  rw [List.any_eq_true]
  rintro ⟨⟨k, s⟩, hq, e⟩
  simp at e
  subst e
  exact h s hq
/-- How things stand while the loop goes on. -/
structure RaI (w wr : World) (U : Nat → Prop) (g : Nat) (m : Ms) (x : Mk) (ab cap tm : Nat) (role : Nat → Nat) (Lr todo : List (Int × Sl)) : Prop where
  key : ∀ p ∈ Lr, p.1 ∈ m.ns ∧ role p.2.b = p.1.toNat + 4 ∧ RowM wr p.2 (tlR m.told x.s todo p.1)
  non : ∀ n, (∀ p ∈ Lr, p.1 ≠ n) → m.told n = []
  blk : Blk wr g 64 (msC m.f ab m.ns.length cap x tm)
  nd : ∃ cs, Blk wr ab 3 cs ∧ cs.take m.ns.length = cis m.ns ∧ m.ns.length ≤ cap ∧ cap ≤ maxLen
  box : Blk wr w.heap.size 28 (mkC x)
  out : Out U w wr
section
variable {w w' : World} {U U' S : Nat → Prop} {g : Nat} {m : Ms} {x : Mk} {ab cap tm : Nat} {L Lr todo : List (Int × Sl)} {role : Nat → Nat}
set_option maxRecDepth 100000 in
set_option maxHeartbeats 6400000 in
theorem raise_in (h : MsIn w U g m ab cap tm L role) (x : Mk) (E : Int) (hE : riseE m x = E) :
    Calls Try.prog 14 #[.pointer (some ⟨g, 0, none⟩), .agg (mkC x).toArray] w fun e w' => e = .returned (.int .i64 E) ∧ MsAt w' (Gr U w w') g (riseS m x) ∧ Out U w w' := by
  have b1 : Below w.heap.size w (w.alloc (.cells (mkC x).toArray 28)) := (Below.refl _ _).alloc (Nat.le_refl _) _
  have X1 : Blk (w.alloc (.cells (mkC x).toArray 28)) w.heap.size 28 (mkC x) := Blk.new rfl rfl
  have h1 := h.below b1
  have k0 := X1.cell (i := 0) (show (mkC x)[0]? = some (.int .i64 x.s) from rfl)
  have k2 := h1.blk.cell (i := 2) (show (msC m.f ab m.ns.length cap m.lo tm)[2]? = some (.int .i64 m.lo.s) from rfl)
  have Hn := Lib.hid (none_in h1)
  have HE := Lib.hid hE
  have mixed : Try.prog.follows Departure.mixedOrders = true := by kernel_rfl
  by_cases hr : x.s < m.lo.s ∨ 9007199254740991 < x.s
  · have hE9 : E = 9 := by rw [← hE]; unfold riseE; rw [if_pos hr]
    subst hE9
    have hs : riseS m x = m := by unfold riseS; rw [hE, if_neg (by omega)]
    have HS := Lib.hid hs
    have HK : Hid (∀ w', Below w.heap.size w w' → MsAt w' (Gr U w w') g m ∧ Out U w w') := Lib.hid fun w' hb => ⟨⟨_, _, _, _, _, (h.below hb).wide (fun i hi => .inl hi) fun i hi => hi.elim (fun hi => Nat.lt_of_lt_of_le (h.lt i hi) hb.size) fun hi => hi.2⟩, Out.ofBelow U hb⟩
    have Hb1 := Lib.hid b1
    rw [HS.out]
    clear hs h HE h1 X1 b1 hE
    generalize mkC x = C at *
    generalize m.lo.s = ls at *
    by_cases h5 : x.s < ls
    · go_enter Try.func14, Try.ntmps14
      go_wp2_with (go_at_call 31; refine Hn.out.mono ?_; rintro e w' ⟨rfl, rfl⟩)
      go_quiet (fail)
      go_wp2
      go_ret
      exact ⟨rfl, HK.out _ (below_drewN Hb1.out nq)⟩
    · have h6 : x.s > 9007199254740991 := by omega
      go_enter Try.func14, Try.ntmps14
      go_wp2_with (go_at_call 31; refine Hn.out.mono ?_; rintro e w' ⟨rfl, rfl⟩)
      go_quiet (fail)
      go_wp2
      go_ret
      exact ⟨rfl, HK.out _ (below_drewN Hb1.out nq)⟩
  have hr1 : ¬ x.s < m.lo.s := fun e => hr (.inl e)
  have hr2 : ¬ x.s > 9007199254740991 := fun e => hr (.inr e)
  have hE0 : E = 0 := by rw [← hE]; unfold riseE; rw [if_neg hr]
  subst hE0
  have hm2 : riseS m x = { m with lo := x, told := fun n => abv x.s (m.told n) } := by unfold riseS; rw [hE, if_pos rfl]
  -- the store of the low mark, from any world behind the box
  have hst : ∀ w2, Below (w.alloc (.cells (mkC x).toArray 28)).heap.size (w.alloc (.cells (mkC x).toArray 28)) w2 → ∃ w3, w2.setCells g 2 (mkC x) = w3 ∧ w2.there g 2 (mkC x).toArray.size ∧ w2.rangeAt w.heap.size 0 (mkC x) ∧
      RaI w w3 U g m x ab cap tm role L L ∧ MapT intK slV w3 tm L ∧ w3.cell? ⟨g, 35, none⟩ = some (.map (some tm)) ∧ w.heap.size < w3.heap.size := fun w2 hb => by
    have h2 := h1.below hb
    have X2 := X1.below hb X1.lt
    have b2 : Below w.heap.size w w2 := b1.trans (hb.mono b1.size)
    have o3 : Out (fun i => i = g) w2 (w2.setCells g 2 (mkC x)) := Out.setCells (S := fun i => i = g) (g := g) _ (fun _ => rfl) (Out.refl _ _)
    have hrole : ∀ i, role i ≠ 0 → role i ≠ 1 → i ≠ g := fun i h3 h4 e => h4 (by rw [e]; exact h.rg)
    have B3 : Blk (w2.setCells g 2 (mkC x)) g 64 (msC m.f ab m.ns.length cap x tm) := by
      have := Blk.setMore (w := w2) (mkC x) h2.blk (o := 2) (by rw [mkC_len, msC_len]; omega)
      have e : (msC m.f ab m.ns.length cap m.lo tm).take 2 ++ mkC x ++ (msC m.f ab m.ns.length cap m.lo tm).drop (2 + (mkC x).length) = msC m.f ab m.ns.length cap x tm := by
        rw [mkC_len]
        unfold msC
        rw [show (2 + 33 : Nat) = 33 + 1 + 1 from rfl, List.drop_succ_cons, List.drop_succ_cons, List.drop_append_of_le_length (by rw [mkC_len]; exact Nat.le_refl _), List.drop_of_length_le (by rw [mkC_len]; exact Nat.le_refl _)]
        rfl
      rw [e] at this
      exact this
    obtain ⟨cs, n1, n2⟩ := h2.nd
    have hng : w.heap.size ≠ g := fun e => by have := h.lt g h.ug; omega
    refine ⟨_, rfl, h2.blk.thereAt (by rw [List.size_toArray, mkC_len, msC_len]; omega), X2.range, ⟨fun p hp => ⟨h.key p hp, h.rr p hp, ?_⟩, h.non, B3, ⟨cs, o3.blk n1 (hrole ab (by rw [h.ra]; omega) (by rw [h.ra]; omega)), n2⟩, o3.blk X2 hng, ?_⟩, h2.num.out o3 (hrole tm (by rw [h.rm]; omega) (by rw [h.rm]; omega)), B3.cell (msC_35 _ _ _ _ _ _), ?_⟩
    · rw [tlR_in (show (p.1, p.2) ∈ L from hp)]
      exact (h2.row p hp).out o3 (hrole _ (by rw [h.rr p hp]; omega) (by rw [h.rr p hp]; omega))
    · exact (Out.ofBelow U b2).trans o3 fun i _ e => by rw [show i = g from e]; exact h.ug
    · have := X2.lt
      have := o3.size
      omega
  -- a round
  have hrd : ∀ (wr : World) (r : Nat) (Lr todo more : List (Int × Sl)) (n : Int) (s : Sl), RaI w wr U g m x ab cap tm role Lr todo → RangeT intK slV wr tm r Lr more → todo.Perm ((n, s) :: more) → (n, s) ∈ Lr → w.heap.size < r → (∀ p ∈ todo, p ∈ Lr) → (todo.map Prod.fst).Nodup → Wf n →
      wr.cell? ⟨g, 35, none⟩ = some (.map (some tm)) ∧
      Calls Try.prog 36 #[slV s, .func (.func 37) #[] #[.pointer (some ⟨w.heap.size, 0, none⟩)]] wr fun e w5 => ∃ s', e = .returned (slV s') ∧ w5.cell? ⟨g, 35, none⟩ = some (.map (some tm)) ∧
        ∃ w6, (Instr.mapUpdate 62 (.map (some tm)) (.int .i64 n) (slV s')).run Try.prog w5 = .ok () w6 ∧ w6.cell? ⟨g, 35, none⟩ = some (.map (some tm)) ∧ ∃ L6, RaI w w6 U g m x ab cap tm role L6 more ∧ RangeT intK slV w6 tm r L6 more ∧ w6.rangeLeft tm r = wr.rangeLeft tm r := fun wr r Lr todo more n s hI hT hp hm hwr hsub hnd hwn => by
    obtain ⟨hns, hrs, hrow⟩ := hI.key _ hm
    simp only at hns hrs hrow
    rw [tlR_in (hp.mem_iff.2 List.mem_cons_self)] at hrow
    have hsb : s.b < w.heap.size := h.lt _ (h.u _ (by omega))
    have hl4 := h.ok.len n
    refine ⟨hI.blk.cell (msC_35 _ _ _ _ _ _), ?_⟩
    refine (delete_any hrow (by omega) x.s w.heap.size (hI.box.cell rfl) hI.box.lt (by omega)).mono ?_
    rintro e w5 ⟨rfl, r5, o5⟩
    have hgs : g ≠ s.b := fun e => by rw [← e, h.rg] at hrs; omega
    have has : ab ≠ s.b := fun e => by rw [← e, h.ra] at hrs; omega
    have hts : tm ≠ s.b := fun e => by rw [← e, h.rm] at hrs; omega
    have B5 := o5.blk hI.blk hgs
    have hT5 := hT.out o5 hts (by omega)
    have hno : ∀ b, (n, b) ∉ more := fun b hb => by
      have h4 := (hp.map Prod.fst).nodup_iff.1 hnd
      rw [List.map_cons, List.nodup_cons] at h4
      exact h4.1 (List.mem_map.2 ⟨(n, b), hb, rfl⟩)
    have hlk : lk Lr n = some s := hT.owns.1.mem hm
    obtain ⟨w6, hrun, hturn, hT6, hleft⟩ := hT5.put (e := 54) (a := n) Try.underlying62 hwn ⟨s.b, s.o, (abv x.s (m.told n)).length, s.c⟩ (by rw [hlk]; rfl) hno (by
      have h5 := List.Nodup.length_le_of_subset hT.owns.1.nd (l₂ := m.ns) fun k hk => by
        obtain ⟨p, hp2, rfl⟩ := List.mem_map.1 hk
        exact (hI.key p hp2).1
      rw [List.length_map] at h5
      have := h.len
      omega)
    have o6 := turned_out hturn
    have hgt : g ≠ tm := fun e => by have := h.rg; have := h.rm; rw [e] at *; omega
    have hat : ab ≠ tm := fun e => by have := h.ra; have := h.rm; rw [e] at *; omega
    have B6 := o6.blk B5 hgt
    obtain ⟨cs, n1, n2⟩ := hI.nd
    have hput : ∀ p, p ∈ putL Lr n (⟨s.b, s.o, (abv x.s (m.told n)).length, s.c⟩ : Sl) ↔ p = (n, ⟨s.b, s.o, (abv x.s (m.told n)).length, s.c⟩) ∨ (p ∈ Lr ∧ p.1 ≠ n) := fun p => by
      unfold putL
      rw [List.mem_cons, List.mem_filter]
      simp
    refine ⟨_, rfl, B5.cell (msC_35 _ _ _ _ _ _), w6, hrun, B6.cell (msC_35 _ _ _ _ _ _), _, ⟨fun p hp2 => ?_, fun k hk => ?_, B6, ⟨cs, o6.blk (o5.blk n1 has) hat, n2⟩, o6.blk (o5.blk hI.box (by omega)) (fun e => by have := h.num.lt; omega), ?_⟩, hT6, ?_⟩
    · rcases (hput p).1 hp2 with rfl | ⟨h3, h4⟩
      · refine ⟨hns, hrs, ?_⟩
        show RowM w6 _ (tlR m.told x.s more n)
        rw [tlR_out hno]
        exact r5.out o6 fun e => hts e.symm
      · obtain ⟨q1, q2, q3⟩ := hI.key p h3
        refine ⟨q1, q2, ?_⟩
        rw [← tlR_perm hp h4]
        have hne : p.2.b ≠ s.b := fun e => by
          rw [e, hrs] at q2
          have h5 := ns_rng h.ok.crew _ q1
          have h6 := ns_rng h.ok.crew _ hns
          exact h4 (by omega)
        exact (q3.out o5 hne).out o6 fun e => by rw [show p.2.b = tm from e, h.rm] at q2; omega
    · have hkn : k ≠ n := fun e => hk (n, _) ((hput _).2 (.inl rfl)) e.symm
      exact hI.non k fun p hp2 e => hk p ((hput p).2 (.inr ⟨hp2, by rw [e]; exact hkn⟩)) e
    · exact (hI.out.trans o5 fun i _ e => by rw [show i = s.b from e]; exact h.u _ (by omega)).trans o6 fun i _ e => by rw [show i = tm from e]; exact h.u _ (by rw [h.rm]; omega)
    · rw [hleft]
      exact hT.left_out o5 hts (by omega)
  have hmv : ∀ (S : Nat → Prop) (wr w5 : World) (Lr todo : List (Int × Sl)), RaI w wr U g m x ab cap tm role Lr todo → Out S wr w5 → (∀ i, i ≤ w.heap.size → ¬ S i) → RaI w w5 U g m x ab cap tm role Lr todo := fun S wr w5 Lr todo hI ho hS => by
    have hold : ∀ i, role i ≠ 0 → ¬ S i := fun i hi => hS i (Nat.le_of_lt (h.lt i (h.u i hi)))
    obtain ⟨cs, n1, n2⟩ := hI.nd
    exact ⟨fun p hp => ⟨(hI.key p hp).1, (hI.key p hp).2.1, (hI.key p hp).2.2.out ho (hold _ (by rw [(hI.key p hp).2.1]; omega))⟩, hI.non, ho.blk hI.blk (hold g (by rw [h.rg]; omega)), ⟨cs, ho.blk n1 (hold ab (by rw [h.ra]; omega)), n2⟩, ho.blk hI.box (hS _ (Nat.le_refl _)), hI.out.trans ho fun i hi e => absurd e (hS i (Nat.le_of_lt hi))⟩
  have HMV := Lib.hid hmv
  have htl : tm < w.heap.size := h.num.lt
  clear hmv
  -- the end
  have hend : ∀ (wr : World) (r : Nat) (Lr : List (Int × Sl)), RaI w wr U g m x ab cap tm role Lr [] → RangeT intK slV wr tm r Lr [] → MsAt wr (Gr U w wr) g (riseS m x) ∧ Out U w wr := fun wr r Lr hI hT => by
    refine ⟨⟨ab, cap, tm, Lr, role, ⟨riseS_ok h.ok x, ?_, ?_, hT.owns, fun p hp => ?_, fun p hp => ?_, fun n hn => ?_, h.rg, h.ra, h.rm, fun p hp => (hI.key p hp).2.1, fun i hi => .inl (h.u i hi), fun i hi => hi.elim (fun hi => Nat.lt_of_lt_of_le (h.lt i hi) hI.out.size) fun hi => hi.2⟩⟩, hI.out⟩
    · rw [hm2]; exact hI.blk
    · rw [hm2]; exact hI.nd
    · rw [hm2]; exact (hI.key p hp).1
    · have := (hI.key p hp).2.2
      rw [hm2]
      exact this
    · rw [hm2]
      show abv x.s (m.told n) = []
      rw [hI.non n hn]; rfl
  have HST := Lib.hid hst
  have HRD := Lib.hid hrd
  have HEND := Lib.hid hend
  have Hb1 := Lib.hid (Below.refl (w.alloc (.cells (mkC x).toArray 28)).heap.size (w.alloc (.cells (mkC x).toArray 28)))
  have hin := Lib.hid (And.intro (mark_infoL x) (And.intro (mark_infoA x) (mkC_oneA x)))
  clear hst hrd hend h h1 X1 b1 hE HE hm2 hr
  generalize riseS m x = m' at *
  generalize hls : m.lo.s = ls at *
  generalize hC : mkC x = C at *
  go_enter Try.func14, Try.ntmps14
  go_wp2_with (go_at_call 31; refine Hn.out.mono ?_; rintro e w' ⟨rfl, rfl⟩)
  go_quiet (fail)
  have b2 := below_drewN Hb1.out nq
  generalize (w.alloc (.cells C.toArray 28)).drewN nq = w2 at *
  obtain ⟨w3, e3, k1, k2', k3, k4, k35, k5⟩ := HST.out w2 b2
  have H3 := Lib.hid (And.intro e3 (And.intro k1 (And.intro k2' (And.intro k3 (And.intro k4 k5)))))
  clear e3 k1 k2' k3 k4 k5 b2 k0 k2
  go_wp2_with (first
    | (refine load_mid_g rfl 28 _ rfl w.heap.size 0 rfl C _ H3.out.2.2.1 Try.underlying28 rfl hin.out.1 ?_; simp only [Act.put])
    | (refine wpList_store_mid rfl 28 _ _ rfl g 2 C.toArray rfl rfl H3.out.2.1 hin.out.2.1 hin.out.2.2 ?_; simp only [Act.put]; refine cast (congrArg (fun z => wpList _ _ _ _ _ z) H3.out.1.symm) ?_)
    | (at_range; refine wpList_range_T _ rfl _ 62 _ rfl Try.underlying62 rfl H3.out.2.2.2.2.1 ?_; intro w4 hrg0 hb4 hs4)
    | go_in)
  obtain ⟨r, hr⟩ : ∃ r, w3.heap.size = r := ⟨_, rfl⟩
  rw [hr] at hrg0 hb4 hs4
  simp only [hr]
  go_frame
  have hwr : w.heap.size < r := by rw [← hr]; exact H3.out.2.2.2.2.2
  have hI0 : RaI w w4 U g m x ab cap tm role L L := by
    obtain ⟨i1, i2, i3, ⟨cs, i4, i5⟩, i6, i7⟩ := H3.out.2.2.2.1
    rw [← hr] at hb4
    exact ⟨fun p hp => ⟨(i1 p hp).1, (i1 p hp).2.1, (i1 p hp).2.2.below hb4 (i1 p hp).2.2.lt⟩, i2, i3.below hb4 i3.lt, ⟨cs, i4.below hb4 i4.lt, i5⟩, i6.below hb4 i6.lt, i7.then_below hb4⟩
  have HL := Lib.hid (And.intro hrg0 (And.intro hI0 hwr))
  clear hrg0 hb4 hs4 hI0 hwr hr k35
  go_loopw [5] (fun v5 wr => ∃ (todo Lr : List (Int × Sl)), RangeT intK slV wr tm r Lr todo ∧ RaI w wr U g m x ab cap tm role Lr todo)
    (fun _ wr => wr.rangeLeft tm r)
  case atStart => exact ⟨_, _, HL.out.1, HL.out.2.1⟩
  case round =>
    obtain ⟨todo, Lr, hrg, hI⟩ := hrel
    have H1 := Lib.hid hI
    clear hI
    go_wp2_with (first
      | (at_next; refine wpList_next_T _ rfl _ rfl (fun x => .int .i64 x) (fun s : Sl => .slice (some ⟨s.b, s.o, none⟩) s.n s.c) (fun _ => rfl) (fun _ => rfl) rfl hrg ?_ ?_)
      | go_in)
    · intro h0
      subst h0
      have HE := Lib.hid (HEND.out _ _ _ H1.out hrg)
      clear hrg
      go_wp2
      go_ret
      exact ⟨rfl, HE.out⟩
    · intro n s more w5 hp hm hok hrg1 hlt hout hsz hen
      have hnd := hrg.nd
      have hsub := hrg.sub
      have hwr := HL.out.2.2
      obtain ⟨W, hW⟩ : ∃ W, w5.drew = W := ⟨_, rfl⟩
      have bW : Below w5.heap.size w5 W := by rw [← hW]; exact (Below.refl _ _).drew
      have hI5 := HMV.out (fun i => i = r) wr w5 Lr todo H1.out hout (fun i hi e => by have e : i = r := e; omega)
      have hIW := HMV.out (fun _ => False) w5 W Lr todo hI5 (Out.ofBelow _ bW) (fun _ _ e => e)
      have hTW := hrg1.out (Out.ofBelow (fun _ => False) bW) (fun e => e) (fun e => e)
      have hlW : W.rangeLeft tm r < wr.rangeLeft tm r := by rw [hrg1.left_out (Out.ofBelow (fun _ => False) bW) (fun e => e) (fun e => e)]; exact hlt
      obtain ⟨hS, hcall⟩ := HRD.out W r Lr todo more n s hIW hTW hp hm hwr hsub hnd hok
      have hSW := Lib.hid hS
      have HW := Lib.hid (And.intro hW (And.intro hcall hlW))
      clear hW bW hI5 hIW hTW hlW hS hcall hp hm hok hrg1 hlt hout hsz hnd hsub hrg
      unfold slV at HW
      have hW5 : w5.drew = W := HW.out.1
      go_wp2
      refine wp_region_held_drew (S := fun V => V.cell? ⟨g, 35, none⟩ = some (.map (some tm))) (by kernel_rfl) (by rw [HW.out.1]; exact hSW.out) (fun _ => ?_)
      rw [HW.out.1]
      refine anyH_take (i := 0) (d := 36) (v := ?b0) rfl rfl (by kernel_rfl) (by kernel_rfl) (by kernel_rfl) (fun _ _ _ h => h) (Or.inl ⟨by rfl, ?by0⟩) hSW.out ?br0
      case by0 => (intro w; go_simp; try with_reducible rfl)
      simp only [List.setIfInBounds_toArray, List.set_cons_zero, List.set_cons_succ]
      refine anyH_take (i := 1) (d := 37) (v := ?b1) rfl rfl (by kernel_rfl) (by kernel_rfl) (by kernel_rfl) (fun _ _ _ h => h) (Or.inl ⟨by rfl, ?by1⟩) hSW.out ?br1
      case by1 => (intro w; go_simp; try with_reducible rfl)
      simp only [List.setIfInBounds_toArray, List.set_cons_zero, List.set_cons_succ]
      refine anyH_take (i := 2) (d := 38) (v := ?b2) rfl rfl (by kernel_rfl) (by kernel_rfl) (by kernel_rfl) (fun _ _ _ h => h) (Or.inl ⟨by rfl, ?by2⟩) hSW.out ?br2
      case by2 => (intro w; go_simp; try with_reducible rfl)
      simp only [List.setIfInBounds_toArray, List.set_cons_zero, List.set_cons_succ]
      refine wpAnyH_take' (i := 3) (d := 39) (v := (.map (some tm))) rfl rfl (by kernel_rfl) (by kernel_rfl) (by kernel_rfl) (fun _ _ _ h => h) (Or.inl ⟨by rfl, ?by3⟩) hSW.out ?br3
      case by3 => (intro W hSW; go_simp; try with_reducible rfl)
      simp only [List.setIfInBounds_toArray, List.set_cons_zero, List.set_cons_succ]
      refine anyH_take (i := 4) (d := 40) (v := ?b4) rfl rfl (by kernel_rfl) (by kernel_rfl) (by kernel_rfl) (fun _ _ _ h => h) (Or.inl ⟨by rfl, ?by4⟩) hSW.out ?br4
      case by4 => (intro w; go_simp; try with_reducible rfl)
      simp only [List.setIfInBounds_toArray, List.set_cons_zero, List.set_cons_succ]
      refine anyH_take (i := 5) (d := 41) (v := ?b5) rfl rfl (by kernel_rfl) (by kernel_rfl) (by kernel_rfl) (fun _ _ _ h => h) (Or.inl ⟨by rfl, ?by5⟩) hSW.out ?br5
      case by5 => (intro w; go_simp; try with_reducible rfl)
      simp only [List.setIfInBounds_toArray, List.set_cons_zero, List.set_cons_succ]
      refine anyH_take (i := 6) (d := 42) (v := ?b6) rfl rfl (by kernel_rfl) (by kernel_rfl) (by kernel_rfl) (fun _ _ _ h => h) (Or.inl ⟨by rfl, ?by6⟩) hSW.out ?br6
      case by6 => (intro w; go_simp; try with_reducible rfl)
      simp only [List.setIfInBounds_toArray, List.set_cons_zero, List.set_cons_succ]
      refine anyH_one (i := 7) (by kernel_rfl) ?_
      refine st3_call rfl rfl (f := 36) (vals := #[.slice (some ⟨s.b, s.o, none⟩) s.n s.c, .func (.func 37) #[] #[.pointer (some ⟨w.heap.size, 0, none⟩)]]) (Z := fun v w5 => ∃ s', v = slV s' ∧ w5.cell? ⟨g, 35, none⟩ = some (.map (some tm)) ∧ ∃ w6, (Instr.mapUpdate 62 (.map (some tm)) (.int .i64 n) (slV s')).run Try.prog w5 = .ok () w6 ∧ w6.cell? ⟨g, 35, none⟩ = some (.map (some tm)) ∧ ∃ L6, RaI w w6 U g m x ab cap tm role L6 more ∧ RangeT intK slV w6 tm r L6 more ∧ w6.rangeLeft tm r = W.rangeLeft tm r) ?_ ?_ ?_
      · unfold execOp
        simp only [List.getElem_toArray, List.getElem_cons_succ, List.getElem_cons_zero, resolve, invoke, Sem.run_bind, Sem.run_pure, Result.andThen_ok, List.map_toArray, List.map_cons, List.map_nil]
        first | rfl | exact enters_of Try.func36 (by kernel_rfl) rfl _ _
      · exact HW.out.2.1.mono fun e w5 ⟨s', he, h1⟩ => ⟨_, he, s', rfl, h1⟩
      rintro v5 w5' ⟨s', rfl, hS5, w6, hrun6, hS6, L6, hI6, hT6, hl6⟩
      refine ⟨hS5, ?_⟩
      simp only [List.getElem_toArray, List.getElem_cons_succ, List.getElem_cons_zero, Act.put]
      simp only [List.setIfInBounds_toArray, List.set_cons_zero, List.set_cons_succ]
      refine anyH_one (i := 8) (by kernel_rfl) ?_
      refine op_mapUpdate rfl rfl rfl _ _ _ _ rfl _ _ _ w6 rfl rfl rfl hrun6 ?_
      refine ⟨hS6, ?_⟩
      refine wpAnyH_done (by kernel_rfl) ?_ _
      have HE := Lib.hid (And.intro hI6 (And.intro hT6 hl6))
      clear hI6 hT6 hl6 hS5 hS6 hrun6
      go_wp2
      go_roundw
      case rel => exact ⟨more, L6, HE.out.2.1, HE.out.1⟩
      case measure => rw [HE.out.2.2]; exact HW.out.2.2
end
end Go.Proofs.Ytenccpccpjjkmaa

namespace Go.Proofs.Ytenccpccpjjkmaa
open Go.RowKit Go.Shelf Go.Sort Go.Maps CrewP
set_option linter.unusedVariables false
set_option linter.unusedSimpArgs false

/-- Marks m at g since the world w0, in whichever blocks; the variables V hold marks. -/
def Aw (w0 w : World) (g : Nat) (m : Ms) (V : List (Nat × Mk)) : Prop :=
  ∃ U : Nat → Prop, MsAt w U g m ∧ (∀ i, U i → w0.heap.size ≤ i) ∧ Below w0.heap.size w0 w ∧ ∀ p ∈ V, Blk w p.1 28 (mkC p.2) ∧ ¬ U p.1 ∧ w0.heap.size ≤ p.1
section
variable {w0 w w' : World} {g : Nat} {m : Ms} {V : List (Nat × Mk)}
theorem Aw.bel (h : Aw w0 w g m V) : Below w0.heap.size w0 w := let ⟨_, _, _, h, _⟩ := h; h
theorem Aw.ok (h : Aw w0 w g m V) : m.ok := let ⟨_, h, _⟩ := h; h.ok
theorem Aw.below (h : Aw w0 w g m V) (hb : Below w.heap.size w w') : Aw w0 w' g m V := by
  obtain ⟨U, h1, h2, h3, h4⟩ := h
  exact ⟨U, h1.below hb, h2, h3.trans (hb.mono h3.size), fun p hp => ⟨(h4 p hp).1.below hb (h4 p hp).1.lt, (h4 p hp).2⟩⟩
theorem Aw.grow {m' : Ms} {U : Nat → Prop} (h2 : ∀ i, U i → w0.heap.size ≤ i) (h3 : Below w0.heap.size w0 w) (h4 : ∀ p ∈ V, Blk w p.1 28 (mkC p.2) ∧ ¬ U p.1 ∧ w0.heap.size ≤ p.1) (h5 : MsAt w' (Gr U w w') g m') (h6 : Out U w w') : Aw w0 w' g m' V := by
  have hz := h3.size
  refine ⟨Gr U w w', h5, fun i hi => hi.elim (h2 i) fun hi => by omega, h3.trans (h6.above h2 hz), fun p hp => ?_⟩
  obtain ⟨k1, k2, k3⟩ := h4 p hp
  exact ⟨h6.blk k1 k2, fun hi => hi.elim k2 fun hi => by have := k1.lt; omega, k3⟩
theorem Aw.vote (h : Aw w0 w g m V) {n : Int} (hn : Wf n) (x : Mk) {E : Int} (hE : voteE m n x = E) :
    Calls Try.prog 12 #[.pointer (some ⟨g, 0, none⟩), .int .i64 n, .agg (mkC x).toArray] w fun e w' => e = .returned (.int .i64 E) ∧ Aw w0 w' g (voteS m n x) V := by
  obtain ⟨U, ⟨_, _, _, _, _, h1⟩, h2, h3, h4⟩ := h
  exact (vote_in h1 hn x E hE).mono fun e w' ⟨he, h5, h6⟩ => ⟨he, Aw.grow h2 h3 h4 h5 h6⟩
theorem Aw.raise (h : Aw w0 w g m V) (x : Mk) {E : Int} (hE : riseE m x = E) :
    Calls Try.prog 14 #[.pointer (some ⟨g, 0, none⟩), .agg (mkC x).toArray] w fun e w' => e = .returned (.int .i64 E) ∧ Aw w0 w' g (riseS m x) V := by
  obtain ⟨U, ⟨_, _, _, _, _, h1⟩, h2, h3, h4⟩ := h
  exact (raise_in h1 x E hE).mono fun e w' ⟨he, h5, h6⟩ => ⟨he, Aw.grow h2 h3 h4 h5 h6⟩
theorem Aw.stable (h : Aw w0 w g m V) {G : Option Mk} (hG : greatS m (2 * m.f + 1) = G) :
    Calls Try.prog 20 #[.pointer (some ⟨g, 0, none⟩)] w fun e w' => e = .returned (.tuple #[.agg (mkC (G.getD mk0)).toArray, .bool G.isSome]) ∧ Aw w0 w' g m V := by
  have h0 := h
  obtain ⟨U, ⟨_, _, _, _, _, h1⟩, h2, h3, h4⟩ := h
  subst hG
  exact (stable_in h1).mono fun e w' ⟨he, h5⟩ => ⟨he, h0.below h5⟩
theorem Aw.known (h : Aw w0 w g m V) {G : Option Mk} (hG : greatS m (m.f + 1) = G) :
    Calls Try.prog 21 #[.pointer (some ⟨g, 0, none⟩)] w fun e w' => e = .returned (.tuple #[.agg (mkC (G.getD mk0)).toArray, .bool G.isSome]) ∧ Aw w0 w' g m V := by
  have h0 := h
  obtain ⟨U, ⟨_, _, _, _, _, h1⟩, h2, h3, h4⟩ := h
  subst hG
  exact (known_in h1).mono fun e w' ⟨he, h5⟩ => ⟨he, h0.below h5⟩
theorem Aw.low (h : Aw w0 w g m V) :
    Calls Try.prog 23 #[.pointer (some ⟨g, 0, none⟩)] w fun e w' => e = .returned (.agg (mkC m.lo).toArray) ∧ Below w.heap.size w w' := by
  obtain ⟨U, ⟨_, _, _, _, _, h1⟩, h2, h3, h4⟩ := h
  exact low_in h1
theorem Aw.of (h : Aw w0 w g m V) {n : Int} (hn : Wf n) :
    Calls Try.prog 22 #[.pointer (some ⟨g, 0, none⟩), .int .i64 n] w fun e w' => ∃ A k c, e = .returned (.slice A k c) ∧ ShM w' A (m.told n) ∧ (m.told n).length = k ∧ Aw w0 w' g m V := by
  have h0 := h
  obtain ⟨U, ⟨_, _, _, _, _, h1⟩, h2, h3, h4⟩ := h
  refine (of_in h1 hn).mono ?_
  rintro e w' ⟨v', rfl, h5, h6⟩
  rcases h5 with ⟨rfl, e5⟩ | ⟨s, rfl, hr, _⟩
  · exact ⟨_, _, _, rfl, by rw [e5]; exact ShM.nil _ _, by rw [e5]; rfl, h0.below h6⟩
  · exact ⟨_, _, _, rfl, hr.sh, hr.len, h0.below h6⟩
/-- A variable. -/
theorem Aw.var (h : Aw w0 w g m V) (x : Mk) : ∃ wS, (w.alloc (.cells (mkC mk0).toArray 28)).setCells w.heap.size 0 (mkC x) = wS ∧
    ((w.alloc (.cells (mkC mk0).toArray 28)).there w.heap.size 0 (mkC x).toArray.size ∧ (Try.prog.info? 28).map (·.size) = some (mkC x).toArray.size ∧ (mkC x).toArray.all (·.oneCell') = true) ∧ Aw w0 wS g m ((w.heap.size, x) :: V) := by
  obtain ⟨wS, hwS, ⟨hth, hin⟩, hbS, hbe, hsS⟩ := row_local w 28 (mkC mk0) (mkC x) (by rw [mkC_len, mkC_len]) (by rw [mkC_len]; exact mark_info1)
  obtain ⟨U, h1, h2, h3, h4⟩ := h
  refine ⟨wS, hwS, ⟨hth, hin, mkC_oneA x⟩, U, h1.below hbe, h2, h3.trans (hbe.mono h3.size), fun p hp => ?_⟩
  rcases List.mem_cons.1 hp with rfl | hp
  · exact ⟨hbS, fun hi => by have := h1.lt _ hi; simp at this, h3.size⟩
  · exact ⟨(h4 p hp).1.below hbe (h4 p hp).1.lt, (h4 p hp).2⟩
theorem Aw.load (h : Aw w0 w g m V) {b : Nat} {x : Mk} (hp : (b, x) ∈ V) : w.rangeAt b 0 (mkC x) := let ⟨_, _, _, _, h4⟩ := h; (h4 _ hp).1.range
theorem Aw.blk (h : Aw w0 w g m V) {b : Nat} {x : Mk} (hp : (b, x) ∈ V) : Blk w b 28 (mkC x) := let ⟨_, _, _, _, h4⟩ := h; (h4 _ hp).1
theorem Aw.new {w1 : World} (hb : Below w0.heap.size w0 w1) {W : World} (h : MsAt W (fun b => w1.heap.size ≤ b ∧ b < W.heap.size) g m) (hW : Below w1.heap.size w1 W) : Aw w0 W g m [] :=
  ⟨_, h, fun i hi => by have := hb.size; omega, hb.trans (hW.mono hb.size), fun p hp => by cases hp⟩
theorem Aw.less (h : Aw w0 w g m V) {V' : List (Nat × Mk)} (hs : ∀ p ∈ V', p ∈ V) : Aw w0 w g m V' := let ⟨U, h1, h2, h3, h4⟩ := h; ⟨U, h1, h2, h3, fun p hp => h4 p (hs p hp)⟩
end

/-! ### The chapter's example -/
theorem wf_small {x : Int} (h0 : 0 ≤ x) (h1 : x ≤ 100) : Wf x := wf_b (by omega) (by omega)
def exA : Mk := mkOf 4 1 (by decide)
def exC : Mk := mkOf 8 3 (by decide)
def exB : Mk := mkOf 4 2 (by decide)
def e1 : Ms := voteS (fr 1) 1 exA
def e2 : Ms := voteS e1 2 exA
def e3 : Ms := voteS e2 3 exB
def e4 : Ms := voteS e3 3 exA
def e5 : Ms := voteS e4 4 exA
def e6 : Ms := voteS e5 2 exC
def e7 : Ms := voteS e6 1 exC
def e8 : Ms := riseS e7 exA
theorem ex_1 : voteE (fr 1) 1 exA = 0 := by decide +kernel
theorem ex_2 : voteE e1 2 exA = 0 := by decide +kernel
theorem ex_k2 : greatS e2 (e2.f + 1) = some exA := by decide +kernel
theorem ex_s2 : greatS e2 (2 * e2.f + 1) = none := by decide +kernel
theorem ex_3 : voteE e2 3 exB = 0 := by decide +kernel
theorem ex_4 : voteE e3 3 exA = 151 := by decide +kernel
theorem ex_5 : voteE e4 4 exA = 0 := by decide +kernel
theorem ex_s5 : greatS e5 (2 * e5.f + 1) = some exA := by decide +kernel
theorem ex_6 : voteE e5 2 exC = 0 := by decide +kernel
theorem ex_7 : voteE e6 1 exC = 0 := by decide +kernel
theorem ex_k7 : greatS e7 (e7.f + 1) = some exC := by decide +kernel
theorem ex_8 : riseE e7 exA = 0 := by decide +kernel
theorem ex_o8 : e8.told 2 = [exC] := by decide +kernel
theorem ex_s8 : greatS e8 (2 * e8.f + 1) = none := by decide +kernel
theorem ex_l8 : e8.lo = exA := by decide +kernel
end Go.Proofs.Ytenccpccpjjkmaa
