/-
  Laid together for a hand-in: Vs15, Shelf15a, Gf15.
-/
import Derived.Test.YtenccpccpjjkmaaZ07
import Derived.Test.YtenccpccpjjkmaaZ06
import Derived.Test.YtenccpccpjjkmaaProg
import Derived.Test.YtenccpccpjjkmaaZ05
import Derived.Shelf.SlSortCmp.NoneTotal
import Derived.Ground.SlsfProg

namespace Go.Proofs.Ytenccpccpjjkmaa
open Go.RowKit Go.Shelf Go.Sort Go.Maps CrewP
set_option linter.unusedVariables false
set_option linter.unusedSimpArgs false

section
variable {P : Program} {md : Region.Mode} {ops : Array Oper} {Q : Exit → Act → World → Prop} {S : World → Prop}
theorem anyH_two {i j : Nat} {fuel : Nat} {listed : Array Bool} {a : Act} {w : World} (hr : Region.ready md ops listed = [i, j])
    (h1 : wpOp P ops Q i (fun a' w' => S w' ∧ wpAnyH P md ops Q S fuel (listed.setIfInBounds i true) a' w') a w) (h2 : wpOp P ops Q j (fun a' w' => S w' ∧ wpAnyH P md ops Q S fuel (listed.setIfInBounds j true) a' w') a w) : wpAnyH P md ops Q S (fuel + 1) listed a w :=
  wpAnyH_all hr (by simp) (fun k hk => by
    simp at hk
    rcases hk with rfl | rfl
    · exact h1
    · exact h2)
theorem op_lookup {i d : Nat} {oi : Oper} {a : Act} {w : World} {K : Act → World → Prop} (hi : ops[i]? = some oi) (hd : oi.dst = some d) (hgd : oi.guard = none) (t : TypeId) (m x : Operand) (c : Bool) (ho : oi.op = .lookup t m x c)
    (M X v : Value) (hm : a.eval m = M) (hx : a.eval x = X) (hrun : (Instr.lookup t M X c).run P w = .ok v w) (h : K { a with tmps := a.tmps.setIfInBounds d v } w) : wpOp P ops Q i K a w := by
  refine wpOp_step hi (fun K' hK => ?_)
  have hw : Region.wanted oi (yielded ops a.tmps) = true := by unfold Region.wanted; rw [hgd]
  rw [if_pos hw]
  unfold Oper.wp
  simp [execOp, ho, hm, hx, hrun, Result.andThen]
  have h' : K (a.put oi.dst v) w := by unfold Act.put; rw [hd]; exact h
  exact hK _ _ h'
end
/-- How often a mark was counted. -/
def tal (V : List (Mk × Int)) (x : Mk) : Int := (lk V x).getD 0
theorem tal_put (V : List (Mk × Int)) (x y : Mk) (c : Int) : tal (putL V x c) y = if y = x then c else tal V y := by
  unfold tal
  by_cases h : y = x
  · subst h; rw [lk_put, if_pos rfl]; rfl
  · rw [lk_put_ne _ _ h, if_neg h]
theorem putL_len {α β : Type} [DecidableEq α] (L : List (α × β)) (a : α) (b : β) : (putL L a b).length ≤ L.length + 1 := by
  unfold putL
  have := List.length_filter_le (fun p : α × β => decide (p.1 ≠ a)) L
  rw [List.length_cons]; omega
/-- What stands while the marks are counted: rest is still to come. -/
structure VsI (m : Ms) (V : List (Mk × Int)) (rest : List Mk) : Prop where
  cnt : ∀ x, tal V x + (rest.count x : Int) = (cnt m x : Int)
  pos : ∀ p ∈ V, 0 < p.2
  len : V.length + rest.length ≤ 1000
theorem VsI.step {m : Ms} {V : List (Mk × Int)} {x : Mk} {rest : List Mk} (h : VsI m V (x :: rest)) (hp : 0 ≤ tal V x) : VsI m (putL V x (tal V x + 1)) rest := by
  refine ⟨fun y => ?_, fun p hpm => ?_, ?_⟩
  · have := h.cnt y
    rw [tal_put]
    rw [List.count_cons] at this
    by_cases e : y = x
    · subst e
      rw [if_pos rfl]
      simp at this
      omega
    · rw [if_neg e]
      have e2 : (x == y) = false := by simpa using fun e3 => e e3.symm
      rw [e2] at this
      simpa using this
  · unfold putL at hpm
    rcases List.mem_cons.1 hpm with e | hpm
    · rw [e]; show 0 < tal V x + 1; omega
    · exact h.pos p (List.mem_filter.1 hpm).1
  · have h1 := putL_len V x (tal V x + 1)
    have h2 := h.len
    rw [List.length_cons] at h2
    omega
theorem VsI.tal0 {m : Ms} {V : List (Mk × Int)} {rest : List Mk} (h : VsI m V rest) (x : Mk) : 0 ≤ tal V x := by
  unfold tal
  cases e : lk V x with
  | none => simp
  | some c => have := h.pos _ (lk_some e); simp at this ⊢; omega
theorem VsI.perm {m : Ms} {V : List (Mk × Int)} {r r' : List Mk} (h : VsI m V r) (hp : r.Perm r') : VsI m V r' := ⟨fun x => by rw [← hp.count_eq]; exact h.cnt x, h.pos, by rw [← hp.length_eq]; exact h.len⟩
theorem keys_count {m : Ms} (hnd : m.ns.Nodup) {L : List (Int × Sl)} (hL : (L.map Prod.fst).Nodup) (hk : ∀ p ∈ L, p.1 ∈ m.ns) (hno : ∀ n, (∀ p ∈ L, p.1 ≠ n) → m.told n = []) (x : Mk) : ((L.map Prod.fst).flatMap m.told).count x = (m.ns.flatMap m.told).count x := by
  have e : ∀ ns : List Int, (∀ n ∈ ns, n ∉ L.map Prod.fst → m.told n = []) → (ns.flatMap m.told).count x = ((ns.filter fun n => decide (n ∈ L.map Prod.fst)).flatMap m.told).count x := by
    intro ns
    induction ns with
    | nil => intro _; rfl
    | cons n ns ih =>
      intro h
      have h1 := ih fun k hk => h k (List.mem_cons_of_mem _ hk)
      by_cases hn : n ∈ L.map Prod.fst
      · rw [List.filter_cons_of_pos (by simpa using hn), List.flatMap_cons, List.flatMap_cons, List.count_append, List.count_append, h1]
      · rw [List.filter_cons_of_neg (by simpa using hn), List.flatMap_cons, h n (by simp) hn, List.nil_append, h1]
  rw [e m.ns fun n _ hn => hno n fun p hp e => hn (List.mem_map.2 ⟨p, hp, e⟩)]
  refine List.Perm.count_eq ?_ x
  refine List.Perm.flatMap_right _ ?_
  refine (List.perm_ext_iff_of_nodup hL (hnd.filter _)).2 fun n => ?_
  rw [List.mem_filter]
  constructor
  · intro h
    obtain ⟨p, hp, rfl⟩ := List.mem_map.1 h
    exact ⟨hk p hp, by simpa using ⟨p.2, hp⟩⟩
  · intro h; simpa using h.2
theorem flat_len {told : Int → List Mk} (h : ∀ n, (told n).length ≤ 4) : ∀ l : List Int, (l.flatMap told).length ≤ 4 * l.length
  | [] => by simp
  | n :: l => by rw [List.flatMap_cons, List.length_append, List.length_cons]; have := h n; have := flat_len h l; omega

section
variable {w w' : World} {U U' S : Nat → Prop} {g : Nat} {m : Ms} {ab cap tm : Nat} {L : List (Int × Sl)} {role : Nat → Nat}
theorem int_zero (w : World) : (zeroValue 3).run Try.prog w = .ok (.int .i64 0) w := by kernel_rfl
set_option maxRecDepth 100000 in
set_option maxHeartbeats 6400000 in
theorem votes_in (h : MsIn w U g m ab cap tm L role) :
    Calls Try.prog 58 #[.pointer (some ⟨g, 0, none⟩)] w fun e w' => ∃ mv V, e = .returned (.map (some mv)) ∧ MapT markK vI w' mv V ∧ VsI m V [] ∧ w.heap.size ≤ mv ∧ Below w.heap.size w w' := by
  have hal : Below w.heap.size w (w.alloc (.map #[] 0)) := (Below.refl _ _).alloc (Nat.le_refl _) _
  have hmm := @run_makeMap Try.prog
  have h1 := h.below hal
  have k35 := h1.blk.cell (msC_35 _ _ _ _ _ _)
  have M1 : MapT markK vI (w.alloc (.map #[] 0)) w.heap.size ([] : List (Mk × Int)) := MapT.made w
  have hM := h1.num
  have hI0 : VsI m [] ((L.map Prod.fst).flatMap m.told) := by
    refine ⟨fun x => ?_, fun p hp => (by cases hp), ?_⟩
    · rw [keys_count ((CrewP.asc_nodup ((okC_iff m.f m.ns).1 h.ok.crew).2.2)) h.num.1.nd h.key h.non, ← allM_count h.ok x]
      unfold tal allM
      simp [lk]
    · have := flat_len h.ok.len (L.map Prod.fst)
      rw [List.length_map] at this
      have := h.keys
      rw [List.length_nil, Nat.zero_add]; omega
  have H := Lib.hid (And.intro h (And.intro hal (And.intro M1 hI0)))
  have HM := Lib.hid hM
  have hsz : (w.alloc (.map #[] 0)).heap.size = w.heap.size + 1 := by simp
  clear h h1 hal M1 hI0 hM
  go_enter Try.func58, Try.ntmps58
  go_wp2_with (first
    | (at_range; refine wpList_range_T _ rfl _ 62 _ rfl Try.underlying62 rfl HM.out ?_; intro w2 hrg0 hb1 hs0)
    | go_in)
  rw [hsz] at hrg0 hb1 hs0
  simp only [hsz]
  go_frame
  have hb2 : Below w.heap.size w w2 := H.out.2.1.trans (hb1.mono (by omega))
  have M2 := H.out.2.2.1.below hb1 (by omega)
  have HL := Lib.hid (And.intro hrg0 (And.intro hb2 M2))
  clear hrg0 hb1 hs0 hb2 M2 HM k35 hsz
  go_loopw [5] (fun v5 wr => ∃ (todo : List (Int × Sl)) (V : List (Mk × Int)), RangeT intK slV wr tm (w.heap.size + 1) L todo ∧ MapT markK vI wr w.heap.size V ∧ VsI m V ((todo.map Prod.fst).flatMap m.told) ∧ Below w.heap.size w wr)
    (fun _ wr => wr.rangeLeft tm (w.heap.size + 1))
  case atStart => exact ⟨L, [], HL.out.1, HL.out.2.2, H.out.2.2.2, HL.out.2.1⟩
  case round =>
    rename World => wo
    obtain ⟨todo, V, hrg, hV, hI, hbel⟩ := hrel
    have H1 := Lib.hid (And.intro hV (And.intro hI hbel))
    clear hV hI hbel HL
    go_wp2_with (first
      | (at_next; refine wpList_next_T _ rfl _ rfl (fun x => .int .i64 x) (fun s : Sl => .slice (some ⟨s.b, s.o, none⟩) s.n s.c) (fun _ => rfl) (fun _ => rfl) rfl hrg ?_ ?_)
      | go_in)
    · intro h0
      subst h0
      clear hrg
      go_wp2
      go_ret
      exact ⟨w.heap.size, V, rfl, H1.out.1, H1.out.2.1, Nat.le_refl _, H1.out.2.2⟩
    · intro n s more w5 hp hm hok hrg1 hlt hout hsz hen
      have htm : tm < w.heap.size := H.out.1.num.lt
      have hV5 : MapT markK vI w5 w.heap.size V := H1.out.1.out hout (by omega)
      have hb5 : Below w.heap.size w w5 := H1.out.2.2.trans (hout.above (fun i e => by have e : i = w.heap.size + 1 := e; omega) H1.out.2.2.size)
      have hI5 : VsI m V (m.told n ++ (more.map Prod.fst).flatMap m.told) := H1.out.2.1.perm ((hp.map Prod.fst).flatMap_right m.told)
      obtain ⟨l, hl⟩ : ∃ l, m.told n = l := ⟨_, rfl⟩
      have hrow : RowM w s l := by rw [← hl]; exact H.out.1.row (n, s) hm
      rw [hl] at hI5
      have hl4 : l.length ≤ 4 := by rw [← hl]; exact H.out.1.ok.len n
      have hln := hrow.len
      have H5 := Lib.hid (And.intro hrg1 (And.intro hV5 (And.intro hb5 (And.intro hI5 (And.intro hrow htm)))))
      have HN := Lib.hid (And.intro hlt (And.intro hln hl4))
      clear hrg1 hV5 hb5 hI5 hrow htm hlt hln hl4 hout hsz hp hm hok hl hrg
      go_wp2_with go_in
      generalize hR : (more.map Prod.fst).flatMap m.told = R at *
      go_loopw [20] (fun v20 wr => ∃ (k : Nat) (V : List (Mk × Int)), v20 = .int .i64 (k : Int) ∧ k ≤ s.n ∧ RangeT intK slV wr tm (w.heap.size + 1) L more ∧ MapT markK vI wr w.heap.size V ∧ VsI m V (l.drop k ++ R) ∧ Below w.heap.size w wr ∧ wr.rangeLeft tm (w.heap.size + 1) = w5.rangeLeft tm (w.heap.size + 1)) (fun v20 _ => s.n - (intOf v20).toNat)
      case atStart => exact ⟨0, V, rfl, Nat.zero_le _, H5.out.1, H5.out.2.1, H5.out.2.2.2.1, H5.out.2.2.1, rfl⟩
      case round =>
        obtain ⟨k, V, rfl, hk, hrg, hV, hI, hbel, hleft⟩ := hrel
        by_cases hkn : k < s.n
        · have q0 : (0 : Int) ≤ (k : Int) := by omega
          have q1 : (k : Int) < (s.n : Int) := by omega
          have hwk : IntKind.i64.wrap ((k : Int) + 1) = ((k + 1 : Nat) : Int) := by rw [IntWalk.i64_in _ (by have := HN.out.2; omega)]; omega
          have hkl : k < l.length := by rw [HN.out.2.1]; exact hkn
          have hrow := (H5.out.2.2.2.2.1.below hbel H5.out.2.2.2.2.1.lt).at_ hkl
          rw [List.drop_eq_getElem_cons hkl, List.cons_append] at hI
          obtain ⟨x, hx⟩ : ∃ x, l[k] = x := ⟨_, rfl⟩
          rw [hx] at hrow hI
          have htl0 := hI.tal0 x
          have hI2 := hI.step htl0
          have htl1 : tal V x ≤ 2000 := by
            have h1 := hI.cnt x
            have h2 : cnt m x ≤ m.ns.length := List.countP_le_length
            have := H.out.1.len
            have h3 : (0 : Int) ≤ ((x :: (l.drop (k + 1) ++ R)).count x : Int) := by omega
            omega
          -- the variable
          obtain ⟨wS, hwS, ⟨hth, hin⟩, hbS, hbe, hsS⟩ := row_local wr 28 (mkC mk0) (mkC x) (by rw [mkC_len, mkC_len]) (by rw [mkC_len]; exact mark_info1)
          have htr : tm < wr.heap.size := by have := hbel.size; have := H5.out.2.2.2.2.2; omega
          have hmr := hV.lt
          have hrr := hrg.lt
          obtain ⟨W, hW⟩ : ∃ W, wS.drew = W := ⟨_, rfl⟩
          have beW : Below wr.heap.size wr W := by rw [← hW]; exact hbe.drew
          have BW : Blk W wr.heap.size 28 (mkC x) := by rw [← hW]; exact hbS.below ((Below.refl _ _).drew) hbS.lt
          have hVW := hV.below beW hmr
          obtain ⟨v0, st, w1, hrun1, hturn1, hV1, hst⟩ := hVW.bump (e := 3) (z0 := 0) (a := x) mark_law Try.underlying89 int_zero (by have := hI.len; omega) trivial
          have o1 := turned_out hturn1
          have hlk0 : (Instr.lookup 89 (.map (some w.heap.size)) (mkA x) false).run Try.prog W = .ok (.int .i64 (tal V x)) W := by
            have := hVW.look (e := 3) (a := x) Try.underlying89 (int_zero W) trivial
            refine this.trans ?_
            unfold tal
            cases lk V x <;> rfl
          have hlk1 : (Instr.lookup 89 (.map (some w.heap.size)) (mkA x) false).run Try.prog w1 = .ok (.int .i64 (tal V x)) w1 := by
            have := hV1.look (e := 3) (a := x) Try.underlying89 (int_zero w1) trivial
            rw [lk_put] at this
            exact this
          obtain ⟨w3, hrun3, hturn3, hV3⟩ := hst w1 rfl (tal V x + 1)
          have o3 := turned_out hturn3
          have hbm : wr.heap.size ≠ w.heap.size := by omega
          have B1 := o1.blk BW hbm
          have B3 := o3.blk B1 hbm
          have o13 : Out (fun i => i = w.heap.size) W w3 := o1.trans o3 fun _ _ e => e
          have hrW := hrg.out (S := fun i => wr.heap.size ≤ i) (Out.ofBelow _ beW) (by omega) (by omega)
          have hr3 := hrW.out o13 (by have := H5.out.2.2.2.2.2; omega) (by omega)
          have hl3 : w3.rangeLeft tm (w.heap.size + 1) = w5.rangeLeft tm (w.heap.size + 1) := by
            rw [hrW.left_out o13 (by have := H5.out.2.2.2.2.2; omega) (by omega), hrg.left_out (S := fun i => wr.heap.size ≤ i) (Out.ofBelow _ beW) (by omega) (by omega), hleft]
          have hb3 : Below w.heap.size w w3 := (hbel.trans (beW.mono hbel.size)).trans (o13.above (fun i e => by have e : i = w.heap.size := e; omega) (by have := hbel.size; have := beW.size; omega))
          have HS := Lib.hid (And.intro hth (And.intro hin (And.intro (mkC_oneA x) (And.intro hrow (mark_infoL x)))))
          have HwS := Lib.hid hwS
          have HB := Lib.hid (And.intro BW.range (And.intro B1.range B3.range))
          have HR := Lib.hid (And.intro hlk0 (And.intro hrun1 (And.intro hlk1 hrun3)))
          have HE := Lib.hid (And.intro hr3 (And.intro hV3 (And.intro hI2 (And.intro hb3 hl3))))
          have HW := Lib.hid hW
          have hadd : IntKind.i64.wrap (tal V x + 1) = tal V x + 1 := IntWalk.i64_in _ (by omega)
          have HA := Lib.hid hadd
          clear hth hin hrow hwS hbS hbe hsS htr hmr hrr hW beW BW hVW hrun1 hturn1 hV1 hst o1 hlk0 hlk1 hrun3 hturn3 hV3 o3 hbm B1 B3 o13 hrW hr3 hl3 hb3 hI2 hI hkl hx htl0 htl1 hrg hV hbel hleft hadd
          have hke : markK.kv x = mkA x := rfl
          rw [hke] at HR
          unfold mkA at HR
          generalize putL V x (tal V x + 1) = V' at *
          generalize tal V x = c at *
          generalize hX : mkC x = X at *
          go_wp2_with (first
            | (refine wpList_store_mid rfl 28 _ _ rfl wr.heap.size 0 X.toArray rfl rfl HS.out.1 HS.out.2.1 HS.out.2.2.1 ?_; simp only [Act.put]; refine cast (congrArg (fun z => wpList _ _ _ _ _ z) HwS.out.symm) ?_)
            | (refine load_mid_g rfl 28 _ rfl s.b (s.o + k * 33) rfl X _ HS.out.2.2.2.1 Try.underlying28 rfl HS.out.2.2.2.2 ?_; simp only [Act.put]))
          refine wp_region_held_drew (S := fun V => V.rangeAt wr.heap.size 0 X) (by kernel_rfl) (by rw [HW.out]; exact HB.out.1) (fun _ => ?_)
          rw [HW.out]
          refine anyH_take (i := 0) (d := 24) (v := ?a0) rfl rfl (by kernel_rfl) (by kernel_rfl) (by kernel_rfl) (fun _ _ _ h => h) (Or.inl ⟨by rfl, ?ay0⟩) HB.out.1 ?ar0
          case ay0 => (intro w; go_simp; try with_reducible rfl)
          simp only [List.setIfInBounds_toArray, List.set_cons_zero, List.set_cons_succ]
          refine anyH_load (i := 1) (d := 25) rfl rfl (by kernel_rfl) (by kernel_rfl) (by kernel_rfl) (by rfl) 28 _ rfl wr.heap.size 0 rfl X _ (fun W hSW => hSW) Try.underlying28 rfl HS.out.2.2.2.2 (fun _ _ _ h => h) HB.out.1 ?_
          simp only [List.setIfInBounds_toArray, List.set_cons_zero, List.set_cons_succ]
          refine anyH_two (i := 2) (j := 4) (by kernel_rfl) ?_ ?_
          · skip
            refine op_lookup rfl rfl rfl _ _ _ _ rfl _ _ _ rfl rfl HR.out.1 ?_
            refine ⟨HB.out.1, ?_⟩
            simp only [List.setIfInBounds_toArray, List.set_cons_zero, List.set_cons_succ]
            refine anyH_take (i := 3) (d := 27) (v := ?b3) rfl rfl (by kernel_rfl) (by kernel_rfl) (by kernel_rfl) (fun _ _ _ h => h) (Or.inl ⟨by rfl, ?by3⟩) HB.out.1 ?br3
            case by3 => (intro w; have hq0 := HA.out; go_simp; try with_reducible rfl)
            simp only [List.setIfInBounds_toArray, List.set_cons_zero, List.set_cons_succ]
            refine anyH_one (i := 4) (by kernel_rfl) ?_
            refine op_mapEntry rfl rfl rfl _ _ _ rfl _ _ _ w1 rfl rfl HR.out.2.1 ?_
            refine ⟨HB.out.2.1, ?_⟩
            simp only [List.setIfInBounds_toArray, List.set_cons_zero, List.set_cons_succ]
            refine anyH_take (i := 5) (d := 29) (v := ?b5) rfl rfl (by kernel_rfl) (by kernel_rfl) (by kernel_rfl) (fun _ _ _ h => h) (Or.inl ⟨by rfl, ?by5⟩) HB.out.2.1 ?br5
            case by5 => (intro w; go_simp; try with_reducible rfl)
            simp only [List.setIfInBounds_toArray, List.set_cons_zero, List.set_cons_succ]
            refine anyH_one (i := 6) (by kernel_rfl) ?_
            refine op_entryStore rfl rfl rfl _ _ _ _ rfl _ _ _ w3 rfl rfl rfl HR.out.2.2.2 ?_
            refine ⟨HB.out.2.2, ?_⟩
            refine wpAnyH_done (by kernel_rfl) ?_ _
            go_wp2
            go_roundw
            case rel => exact ⟨k + 1, V', rfl, by omega, HE.out.1, HE.out.2.1, HE.out.2.2.1, HE.out.2.2.2.1, HE.out.2.2.2.2⟩
            case measure => show s.n - ((k + 1 : Nat) : Int).toNat < s.n - (k : Int).toNat; omega
          · skip
            refine op_mapEntry rfl rfl rfl _ _ _ rfl _ _ _ w1 rfl rfl HR.out.2.1 ?_
            refine ⟨HB.out.2.1, ?_⟩
            simp only [List.setIfInBounds_toArray, List.set_cons_zero, List.set_cons_succ]
            refine anyH_take (i := 5) (d := 29) (v := ?c5) rfl rfl (by kernel_rfl) (by kernel_rfl) (by kernel_rfl) (fun _ _ _ h => h) (Or.inl ⟨by rfl, ?cy5⟩) HB.out.2.1 ?cr5
            case cy5 => (intro w; go_simp; try with_reducible rfl)
            simp only [List.setIfInBounds_toArray, List.set_cons_zero, List.set_cons_succ]
            refine anyH_one (i := 2) (by kernel_rfl) ?_
            refine op_lookup rfl rfl rfl _ _ _ _ rfl _ _ _ rfl rfl HR.out.2.2.1 ?_
            refine ⟨HB.out.2.1, ?_⟩
            simp only [List.setIfInBounds_toArray, List.set_cons_zero, List.set_cons_succ]
            refine anyH_take (i := 3) (d := 27) (v := ?c3) rfl rfl (by kernel_rfl) (by kernel_rfl) (by kernel_rfl) (fun _ _ _ h => h) (Or.inl ⟨by rfl, ?cy3⟩) HB.out.2.1 ?cr3
            case cy3 => (intro w; have hq0 := HA.out; go_simp; try with_reducible rfl)
            simp only [List.setIfInBounds_toArray, List.set_cons_zero, List.set_cons_succ]
            refine anyH_one (i := 6) (by kernel_rfl) ?_
            refine op_entryStore rfl rfl rfl _ _ _ _ rfl _ _ _ w3 rfl rfl rfl HR.out.2.2.2 ?_
            refine ⟨HB.out.2.2, ?_⟩
            refine wpAnyH_done (by kernel_rfl) ?_ _
            go_wp2
            go_roundw
            case rel => exact ⟨k + 1, V', rfl, by omega, HE.out.1, HE.out.2.1, HE.out.2.2.1, HE.out.2.2.2.1, HE.out.2.2.2.2⟩
            case measure => show s.n - ((k + 1 : Nat) : Int).toNat < s.n - (k : Int).toNat; omega
        · have q1 : ¬ (k : Int) < (s.n : Int) := by omega
          have hke : l.drop k = [] := List.drop_of_length_le (by have := HN.out.2.1; omega)
          rw [hke, List.nil_append] at hI
          have HE := Lib.hid (And.intro hrg (And.intro hV (And.intro hI (And.intro hbel hleft))))
          clear hrg hV hI hbel hleft
          go_wp2
          go_roundw
          case rel => exact ⟨more, V, HE.out.1, HE.out.2.1, by rw [hR]; exact HE.out.2.2.1, HE.out.2.2.2.1⟩
          case measure => rw [HE.out.2.2.2.2]; exact HN.out.1
end
end Go.Proofs.Ytenccpccpjjkmaa

namespace Go.Proofs
open Go.Shelf
def Try.sortM_ren : Go.Shelf.Ren := ⟨fun | 6 => 59 | 15 => 70 | 14 => 69 | 28 => 82 | 29 => 83 | 20 => 74 | 21 => 75 | 22 => 76 | 23 => 77 | 24 => 78 | 25 => 79 | 26 => 80 | 27 => 81 | 46 => 86 | 47 => 87 | 48 => 88 | 49 => 89 | 50 => 90 | 57 => 91 | n => n, fun | 22 => 54 | 24 => 28 | 25 => 92 | 3 => 3 | 39 => 94 | 0 => 0 | 53 => 111 | 55 => 113 | 4 => 4 | 46 => 105 | 45 => 104 | 50 => 72 | 5 => 5 | 9 => 9 | 66 => 115 | 70 => 119 | 76 => 121 | 77 => 122 | n => n, fun | n => n⟩
theorem Try.sortM : Go.Proofs.SlLaysF0.n6 Try.prog Try.sortM_ren := {
  mixed := by kernel_rfl
  f6 := ⟨Try.f59.name, by decide, Try.func59.trans (congrArg some (by kernel_rfl))⟩
  f14 := ⟨Try.f69.name, by decide, Try.func69.trans (congrArg some (by kernel_rfl))⟩
  f15 := Try.func70.trans (congrArg some (by kernel_rfl))
  f20 := ⟨Try.f74.name, by decide, Try.func74.trans (congrArg some (by kernel_rfl))⟩
  f21 := ⟨Try.f75.name, by decide, Try.func75.trans (congrArg some (by kernel_rfl))⟩
  f22 := ⟨Try.f76.name, by decide, Try.func76.trans (congrArg some (by kernel_rfl))⟩
  f23 := ⟨Try.f77.name, by decide, Try.func77.trans (congrArg some (by kernel_rfl))⟩
  f24 := ⟨Try.f78.name, by decide, Try.func78.trans (congrArg some (by kernel_rfl))⟩
  f25 := ⟨Try.f79.name, by decide, Try.func79.trans (congrArg some (by kernel_rfl))⟩
  f26 := ⟨Try.f80.name, by decide, Try.func80.trans (congrArg some (by kernel_rfl))⟩
  f27 := ⟨Try.f81.name, by decide, Try.func81.trans (congrArg some (by kernel_rfl))⟩
  f28 := Try.func82.trans (congrArg some (by kernel_rfl))
  f29 := Try.func83.trans (congrArg some (by kernel_rfl))
  f46 := ⟨Try.f86.name, by decide, Try.func86.trans (congrArg some (by kernel_rfl))⟩
  f47 := Try.func87.trans (congrArg some (by kernel_rfl))
  f48 := Try.func88.trans (congrArg some (by kernel_rfl))
  f49 := ⟨Try.f89.name, by decide, Try.func89.trans (congrArg some (by kernel_rfl))⟩
  f50 := ⟨Try.f90.name, by decide, Try.func90.trans (congrArg some (by kernel_rfl))⟩
  f57 := ⟨Try.f91.name, by decide, Try.func91.trans (congrArg some (by kernel_rfl))⟩
  t0 := Try.underlying0
  a0 := Try.isAgg0
  z0 := Try.sizeOf0
  v0 := Try.zeroValue0
  t3 := Try.underlying3
  a3 := Try.isAgg3
  z3 := Try.sizeOf3
  v3 := Try.zeroValue3
  t4 := Try.underlying4
  a4 := Try.isAgg4
  z4 := Try.sizeOf4
  v4 := Try.zeroValue4
  t5 := Try.underlying5
  a5 := Try.isAgg5
  z5 := Try.sizeOf5
  v5 := Try.zeroValue5
  t9 := Try.underlying9
  a9 := Try.isAgg9
  z9 := Try.sizeOf9
  v9 := Try.zeroValue9
  t22 := Try.underlying54
  a22 := Try.isAgg54
  z22 := Try.sizeOf54
  v22 := Try.zeroValue54
  t25 := Try.underlying92
  a25 := Try.isAgg92
  z25 := Try.sizeOf92
  v25 := Try.zeroValue92
  t39 := Try.underlying94
  a39 := Try.isAgg94
  z39 := Try.sizeOf94
  v39 := Try.zeroValue94
  t45 := Try.underlying104
  a45 := Try.isAgg104
  z45 := Try.sizeOf104
  v45 := Try.zeroValue104
  t46 := Try.underlying105
  a46 := Try.isAgg105
  z46 := Try.sizeOf105
  v46 := Try.zeroValue105
  t50 := Try.underlying72
  a50 := Try.isAgg72
  z50 := Try.sizeOf72
  v50 := Try.zeroValue72
  t53 := Try.underlying111
  a53 := Try.isAgg111
  z53 := Try.sizeOf111
  v53 := Try.zeroValue111
  t55 := Try.underlying113
  a55 := Try.isAgg113
  z55 := Try.sizeOf113
  v55 := Try.zeroValue113
  t66 := Try.underlying115
  a66 := Try.isAgg115
  z66 := Try.sizeOf115
  v66 := Try.zeroValue115
  t70 := Try.underlying119
  a70 := Try.isAgg119
  z70 := Try.sizeOf119
  v70 := Try.zeroValue119
  t76 := Try.underlying121
  a76 := Try.isAgg121
  z76 := Try.sizeOf121
  v76 := Try.zeroValue121
  t77 := Try.underlying122
  a77 := Try.isAgg122
  z77 := Try.sizeOf122
  v77 := Try.zeroValue122 }
end Go.Proofs

namespace Go.Proofs.Ytenccpccpjjkmaa
open Go.RowKit Go.Shelf Go.Sort Go.Maps
set_option linter.unusedVariables false
set_option linter.unusedSimpArgs false

instance : Inhabited Mk := ⟨mk0⟩
theorem load_bytes {P : Program} (w : World) (b : Nat) : ∀ (xs : List UInt8) (o : Nat) (acc : ByteArray), (∀ j u, (cbs xs)[j]? = some u → w.cell? ⟨b, o + j, none⟩ = some u) →
    (Extern.Bytes.loadBytes ⟨b, o, none⟩ xs.length acc).run P w = .ok ⟨acc.data ++ xs.toArray⟩ w
  | [], o, acc, _ => by simp [Extern.Bytes.loadBytes]
  | x :: xs, o, acc, h => by
    have h0 : w.cell? ⟨b, o, none⟩ = some (.int .u8 x.toNat) := h 0 _ rfl
    have ih := load_bytes (P := P) w b xs (o + 1) (acc.push x) (fun j u hu => by have := h (j + 1) u (by simpa [cbs] using hu); rw [Nat.add_assoc, Nat.add_comm 1 j]; exact this)
    have ea : (⟨b, o, none⟩ : Addr).add 1 = ⟨b, o + 1, none⟩ := add_mk b o 1
    have eb : ((x.toNat : Int).toNat.toUInt8) = x := by simp
    rw [List.length_cons, Extern.Bytes.loadBytes]
    simp only [Sem.run_bind, run_load, h0, Result.andThen_ok]
    rw [ea, eb, ih]
    congr 2
    simp
theorem run_compareBytes {P : Program} (w : World) (b o b' o' : Nat) (xs ys : List UInt8) (c c' : Nat) (hx : ∀ j u, (cbs xs)[j]? = some u → w.cell? ⟨b, o + j, none⟩ = some u) (hy : ∀ j u, (cbs ys)[j]? = some u → w.cell? ⟨b', o' + j, none⟩ = some u) :
    (Extern.BytealgCompare.compare #[.slice (some ⟨b, o, none⟩) xs.length c, .slice (some ⟨b', o', none⟩) ys.length c']).run P w = .ok (.int .i64 (Lib.compareBytes xs ys)) w := by
  change Sem.run P (do pure (goInt (Extern.BytealgCompare.cmp (← Extern.Bytes.bytesOf (.slice (some ⟨b, o, none⟩) xs.length c)) (← Extern.Bytes.bytesOf (.slice (some ⟨b', o', none⟩) ys.length c'))))) w = _
  simp only [Extern.Bytes.bytesOf, Sem.run_bind, Sem.run_pure, load_bytes w b xs o .empty hx, load_bytes w b' ys o' .empty hy, Result.andThen_ok]
  rw [Lib.cmp_eq]
  simp
  rfl
set_option maxHeartbeats 1000000 in
set_option maxRecDepth 100000 in
theorem bcompare_any (w : World) (b o b' o' : Nat) (xs ys : List UInt8) (n n' c c' : Nat) (hn : xs.length = n) (hn' : ys.length = n') (hx : ∀ j u, (cbs xs)[j]? = some u → w.cell? ⟨b, o + j, none⟩ = some u) (hy : ∀ j u, (cbs ys)[j]? = some u → w.cell? ⟨b', o' + j, none⟩ = some u) :
    Calls Try.prog 72 #[.slice (some ⟨b, o, none⟩) n c, .slice (some ⟨b', o', none⟩) n' c'] w fun e w' => e = .returned (.int .i64 (Lib.compareBytes xs ys)) ∧ w' = w := by
  subst hn; subst hn'
  have hr := run_compareBytes (P := Try.prog) w b o b' o' xs ys c c' hx hy
  clear hx hy
  generalize Lib.compareBytes xs ys = r at *
  generalize xs.length = n at *
  generalize ys.length = n' at *
  go_enter Try.func72, Try.ntmps72
  go_wp2
  rw [run_callFunc_extern Try.func84 (by kernel_rfl) (by kernel_rfl) (by kernel_rfl) (e := Extern.BytealgCompare.compare) (by kernel_rfl), hr]
  simp only [Result.andThen]
  rw [Oper.upon_value]
  go_wp2
  go_ret
  exact ⟨rfl, rfl⟩

theorem put_rowV {w : World} {g : Nat} {t : TypeId} {cs : List Value} {F : Array Value} (hB : Blk w g t cs) (hl : F.size ≤ cs.length) (q : Nat) (os : Array Obj) :
    Blk (grow (putRow id (Sort.ahead w q) g 0 F) os) g t (F.toList ++ cs.drop F.size) ∧ Out (fun i => i = g) w (grow (putRow id (Sort.ahead w q) g 0 F) os) := by
  have hlt := hB.lt
  have hsz : (putRow id (Sort.ahead w q) g 0 F).heap.size = w.heap.size := by simp [putRow, mapBlock, Sort.ahead]
  constructor
  · unfold Blk at hB ⊢
    rw [heap_grow_old _ _ (by rw [hsz]; exact hlt)]
    have : (putRow id (Sort.ahead w q) g 0 F).heap[g]? = some (.cells (putCells id 0 F cs.toArray) t (0, 0)) := by
      show (w.heap.modify g (onCells (putCells id 0 F)))[g]? = _
      rw [Array.getElem?_modify, if_pos rfl, hB]
      rfl
    rw [this]
    congr 2
    apply Array.ext_getElem?
    intro k
    unfold putCells
    rw [Array.getElem?_mapIdx]
    simp only [List.getElem?_toArray, Nat.zero_add, Nat.sub_zero, Nat.zero_le, true_and]
    by_cases hk : k < F.size
    · have hkc : k < cs.length := by omega
      rw [List.getElem?_eq_getElem hkc, Option.map_some, if_pos hk, List.getElem?_append_left (by simpa using hk), Array.getElem?_toList, Array.getElem?_eq_getElem hk, getElem!_pos F k hk]
      rfl
    · rw [List.getElem?_append_right (by rw [Array.length_toList]; omega), Array.length_toList, List.getElem?_drop]
      rw [show F.size + (k - F.size) = k by omega]
      cases hc : cs[k]? with
      | none => rfl
      | some y => rw [Option.map_some, if_neg hk]
  · refine ⟨rfl, rfl, rfl, by rw [size_grow, hsz]; omega, fun i hi hn => ?_⟩
    rw [heap_grow_old _ _ (by rw [hsz]; exact hi)]
    show (w.heap.modify g (onCells (putCells id 0 F)))[i]? = _
    rw [Array.getElem?_modify, if_neg (fun e => hn e.symm)]
set_option maxRecDepth 100000 in
theorem or2_any (w : World) (g : Nat) (t : TypeId) (a b : Int) (hB : Blk w g t [.int .i64 a, .int .i64 b]) (r : Int) (hr : or2 a b = r) :
    Calls Try.prog 71 #[.slice (some ⟨g, 0, none⟩) 2 2] w fun e w' => e = .returned (.int .i64 r) ∧ w' = w := by
  subst hr
  have c0 := hB.cell (i := 0) rfl
  have c1 := hB.cell (i := 1) rfl
  clear hB
  unfold or2
  by_cases h0 : a = 0
  · subst h0
    by_cases h1 : b = 0
    · subst h1
      go_enter Try.func71, Try.ntmps71
      go_wp2
      refine wp_loop_rounds 3 ?_
      rw [rounds_succ]
      go_wp2
      rw [rounds_succ]
      go_wp2
      rw [rounds_succ]
      go_wp2
      go_ret
      exact ⟨rfl, rfl⟩
    · have hd : (b != 0) = true := by simp [h1]
      rw [if_neg (by simp)]
      go_enter Try.func71, Try.ntmps71
      go_wp2
      refine wp_loop_rounds 2 ?_
      rw [rounds_succ]
      go_wp2
      rw [rounds_succ]
      go_wp2
      go_ret
      exact ⟨rfl, rfl⟩
  · have hd : (a != 0) = true := by simp [h0]
    rw [if_pos h0]
    go_enter Try.func71, Try.ntmps71
    go_wp2
    refine wp_loop_rounds 1 ?_
    rw [rounds_succ]
    go_wp2
    go_ret
    exact ⟨rfl, rfl⟩
theorem cfM_lt (a b : Mk) : ltOf cfM a b = true ↔ ltM a b := by
  unfold ltOf cfM or2 ltM Lib.compareInt
  rw [decide_eq_true_iff]
  by_cases h1 : b.s < a.s
  · simp [h1]
  · by_cases h2 : a.s < b.s
    · simp [h1, h2]; omega
    · have : a.s = b.s := by omega
      simp [this]
theorem cfM_no (a b : Mk) : ltOf cfM a b = false ↔ ¬ ltM a b := by rw [← cfM_lt]; simp
theorem totM (a b : Mk) (h : ltOf cfM a b = false) (k : ltOf cfM b a = false) : a = b := ltM_total ((cfM_no a b).1 h) ((cfM_no b a).1 k)
theorem swoM : SWO (ltOf cfM) where
  irrefl x := by rw [cfM_no]; exact ltM_irrefl x
  trans x y z h k := by rw [cfM_lt] at *; exact ltM_trans h k
  ntrans x y z h k := by
    rw [cfM_no] at *
    intro e
    by_cases h2 : ltM y x
    · exact k (ltM_trans h2 e)
    · have := ltM_total h h2
      subst this
      exact k e
def RowI (w : World) (v : Value) (l : List Int) : Prop := ∃ g, v = .slice (some ⟨g, 0, none⟩) l.length l.length ∧ Blk w g 3 (cis l)
theorem RowI.below {w w' : World} {v : Value} {l : List Int} (h : RowI w v l) (hb : Below w.heap.size w w') : RowI w' v l := let ⟨g, e, hB⟩ := h; ⟨g, e, hB.below hb hB.lt⟩

theorem mkC_d {x : Mk} {j : Nat} {u : Value} (hu : (cbs x.d)[j]? = some u) : (mkC x)[1 + j]? = some u := by
  unfold mkC
  rw [show 1 + j = j + 1 by omega, List.getElem?_cons_succ]
  exact hu
def gfR (b1 b2 : Nat) (x y : Mk) (r1 r3 r : Int) : Nat → Value → World → Prop
  | 0 => fun v w => v = .pointer (some ⟨b2, 0, none⟩)
  | 1 => fun v w => v = .int .i64 y.s
  | 2 => fun v w => v = .pointer (some ⟨b1, 0, none⟩)
  | 3 => fun v w => v = .int .i64 x.s
  | 4 => fun v w => v = .int .i64 r1
  | 5 => fun v w => v = .pointer (some ⟨b1, 1, none⟩)
  | 6 => fun v w => v = .slice (some ⟨b1, 1, none⟩) 32 32
  | 7 => fun v w => v = .pointer (some ⟨b2, 1, none⟩)
  | 8 => fun v w => v = .slice (some ⟨b2, 1, none⟩) 32 32
  | 9 => fun v w => v = .int .i64 r3
  | 10 => fun v w => RowI w v [r1, r3]
  | 11 => fun v w => v = .int .i64 r
  | 12 => fun v w => v = .int .i64 r
  | _ => fun _ _ => True
def gfD (i : Nat) : Nat := ([5, 6, 7, 8, 9, 10, 11, 12, 13, 14, 15, 16, 4] : List Nat).getD i 0
def gfG : Nat → Option Bool
  | _ => none
def gfS (i : Nat) : Bool := ([] : List Nat).contains i
theorem gf_gb (b1 b2 : Nat) (x y : Mk) (r1 r3 r : Int) : ∀ i b v w, gfG i = some b → gfR b1 b2 x y r1 r3 r i v w → v = .bool b := by
  intro i b v w h hR
  unfold gfG at h
  split at h
  all_goals first | (injection h with h; subst h; exact hR) | cases h
theorem gf_sk (b1 b2 : Nat) (x y : Mk) (r1 r3 r : Int) : ∀ i w, gfS i = true → gfR b1 b2 x y r1 r3 r i undef w := by
  intro i w h
  simp [gfS] at h
theorem gf_on (b1 b2 : Nat) (x y : Mk) (r1 r3 r : Int) : ∀ i v w w', gfR b1 b2 x y r1 r3 r i v w → Grw w w' → gfR b1 b2 x y r1 r3 r i v w'
  | 0, v, w, w', h, _ => h
  | 1, v, w, w', h, _ => h
  | 2, v, w, w', h, _ => h
  | 3, v, w, w', h, _ => h
  | 4, v, w, w', h, _ => h
  | 5, v, w, w', h, _ => h
  | 6, v, w, w', h, _ => h
  | 7, v, w, w', h, _ => h
  | 8, v, w, w', h, _ => h
  | 9, v, w, w', h, _ => h
  | 10, v, w, w', h, hb => RowI.below h hb.below
  | 11, v, w, w', h, _ => h
  | 12, v, w, w', h, _ => h
  | i + 13, v, w, w', h, hb => trivial
def gfOps : List Op := [.fieldAddr 28 (.tmp 3) 0,
  .load 3 (.tmp 5),
  .fieldAddr 28 (.tmp 2) 0,
  .load 3 (.tmp 7),
  .call { callee := .value (.func 52), args := #[.tmp 6, .tmp 8], argTypes := #[3, 3] },
  .fieldAddr 28 (.tmp 2) 1,
  .slice 26 (.tmp 10) none none none,
  .fieldAddr 28 (.tmp 3) 1,
  .slice 26 (.tmp 12) none none none,
  .call { callee := .value (.func 72), args := #[.tmp 11, .tmp 13], argTypes := #[102, 102] },
  .buildSlice 22 2 #[(0, .tmp 9), (1, .tmp 14)],
  .call { callee := .value (.func 71), args := #[.tmp 15], argTypes := #[22] },
  .assign (.tmp 16)]
def gfNeeds : Nat → List Nat
  | 0 => []
  | 1 => [0]
  | 2 => []
  | 3 => [2]
  | 4 => [1, 3]
  | 5 => []
  | 6 => [5]
  | 7 => []
  | 8 => [7]
  | 9 => [6, 8]
  | 10 => [4, 9]
  | 11 => [10]
  | 12 => [11]
  | _ => []
set_option maxRecDepth 100000 in
set_option maxHeartbeats 3200000 in
theorem gf_step {ops : Array Oper} {Q : Exit → Act → World → Prop} {a0 : Act} {w0 : World} (b1 b2 : Nat) (x y : Mk) (r1 r3 r : Int) (hops : ((List.range 13).map fun i => (ops[i]?).map Oper.op) = gfOps.map some)
    (hnd : ((List.range 13).all fun i => (gfNeeds i).all fun j => ((ops[i]?).map fun o => o.after.any fun e => Region.binds .any e && (e.on == j)).getD false) = true)
    (x2 : a0.tmps[2]? = some (.pointer (some ⟨b1, 0, none⟩))) (x3 : a0.tmps[3]? = some (.pointer (some ⟨b2, 0, none⟩)))
    (hB : Blk w0 b1 28 (mkC x)) (hC : Blk w0 b2 28 (mkC y))
    (q1 : Lib.compareInt y.s x.s = r1) (q3 : Lib.compareBytes x.d y.d = r3) (hr : or2 r1 r3 = r) :
    ∀ i o, i < 13 → gfS i = false → ops[i]? = some o → o.dst = some (gfD i) → ∀ a w, Base gfD 13 a0 a → Grw w0 w → Region.wanted o (yielded ops a.tmps) = true →
      (∀ j, (o.after.any fun e => Region.binds .any e && (e.on == j)) = true → Has gfD (gfR b1 b2 x y r1 r3 r) j a w) →
      ∀ K : Act → World → Prop, (∀ v w', gfR b1 b2 x y r1 r3 r i v w' → Grw w w' → K (a.put o.dst v) w') → wpOp Try.prog ops Q i K a w := by
  intro i o hi hs ho hds a w hbase hbl hwt hdep0 K hK
  have hop : some o.op = gfOps[i]? := by
    have h1 : ((List.range 13).map fun i => (ops[i]?).map Oper.op)[i]? = some (some o.op) := by
      rw [List.getElem?_map, List.getElem?_range hi]; simp only [Option.map_some, ho]
    rw [hops, List.getElem?_map] at h1
    cases h2 : gfOps[i]? with
    | none => rw [h2] at h1; cases h1
    | some y => rw [h2] at h1; simp only [Option.map_some, Option.some.injEq] at h1; rw [h1]
  have hdep : ∀ j, j ∈ gfNeeds i → Has gfD (gfR b1 b2 x y r1 r3 r) j a w := fun j hj => by
    have h1 := List.all_eq_true.1 (List.all_eq_true.1 hnd i (List.mem_range.2 hi)) j hj
    rw [ho] at h1
    exact hdep0 j h1
  clear hdep0 hops hnd
  match i, hi, hs, ho, hop, hds, hdep, hK with
  | 0, _, hs, ho, hop, hds, hdep, hK =>
    have hop : o.op = .fieldAddr 28 (.tmp 3) 0 := Option.some.inj hop
    have hu3 : a.tmps[3]? = some (.pointer (some ⟨b2, 0, none⟩)) := (hbase.2.2 3 (by decide)).trans x3
    have e3 : a.eval (.tmp 3) = _ := ev_tmp hu3
    refine st3 ho hwt (v := .pointer (some ⟨b2, 0, none⟩)) (w' := w) ?_ (hK _ w rfl (Grw.refl _))
    unfold execOp
    simp only [hop, Option.map_some, Option.map_none, e3]
    first | rfl | (go_simp; done) | (go_simp; simp; done) | (go_simp; intro h; omega)
  | 1, _, hs, ho, hop, hds, hdep, hK =>
    have hop : o.op = .load 3 (.tmp 5) := Option.some.inj hop
    obtain ⟨u5, hu5, hv5⟩ := hdep 0 (by decide)
    have hv5' : u5 = .pointer (some ⟨b2, 0, none⟩) := hv5
    subst hv5'
    have e5 : a.eval (.tmp 5) = _ := ev_tmp hu5
    have kc : w.cell? ⟨b2, 0, none⟩ = some (.int .i64 y.s) := (hC.below hbl.below hC.lt).cell rfl
    refine st3 ho hwt (v := .int .i64 y.s) (w' := w) ?_ (hK _ w rfl (Grw.refl _))
    unfold execOp
    simp only [hop, Option.map_some, Option.map_none, e5]
    first | rfl | (go_simp; done) | (go_simp; simp; done) | (go_simp; intro h; omega)
  | 2, _, hs, ho, hop, hds, hdep, hK =>
    have hop : o.op = .fieldAddr 28 (.tmp 2) 0 := Option.some.inj hop
    have hu2 : a.tmps[2]? = some (.pointer (some ⟨b1, 0, none⟩)) := (hbase.2.2 2 (by decide)).trans x2
    have e2 : a.eval (.tmp 2) = _ := ev_tmp hu2
    refine st3 ho hwt (v := .pointer (some ⟨b1, 0, none⟩)) (w' := w) ?_ (hK _ w rfl (Grw.refl _))
    unfold execOp
    simp only [hop, Option.map_some, Option.map_none, e2]
    first | rfl | (go_simp; done) | (go_simp; simp; done) | (go_simp; intro h; omega)
  | 3, _, hs, ho, hop, hds, hdep, hK =>
    have hop : o.op = .load 3 (.tmp 7) := Option.some.inj hop
    obtain ⟨u7, hu7, hv7⟩ := hdep 2 (by decide)
    have hv7' : u7 = .pointer (some ⟨b1, 0, none⟩) := hv7
    subst hv7'
    have e7 : a.eval (.tmp 7) = _ := ev_tmp hu7
    have kc : w.cell? ⟨b1, 0, none⟩ = some (.int .i64 x.s) := (hB.below hbl.below hB.lt).cell rfl
    refine st3 ho hwt (v := .int .i64 x.s) (w' := w) ?_ (hK _ w rfl (Grw.refl _))
    unfold execOp
    simp only [hop, Option.map_some, Option.map_none, e7]
    first | rfl | (go_simp; done) | (go_simp; simp; done) | (go_simp; intro h; omega)
  | 4, _, hs, ho, hop, hds, hdep, hK =>
    have hop : o.op = .call { callee := .value (.func 52), args := #[.tmp 6, .tmp 8], argTypes := #[3, 3] } := Option.some.inj hop
    obtain ⟨u6, hu6, hv6⟩ := hdep 1 (by decide)
    have hv6' : u6 = .int .i64 y.s := hv6
    subst hv6'
    have e6 : a.eval (.tmp 6) = _ := ev_tmp hu6
    obtain ⟨u8, hu8, hv8⟩ := hdep 3 (by decide)
    have hv8' : u8 = .int .i64 x.s := hv8
    subst hv8'
    have e8 : a.eval (.tmp 8) = _ := ev_tmp hu8
    refine st3_call ho hwt (f := 52) (vals := #[.int .i64 y.s, .int .i64 x.s]) (Z := fun v w' => v = .int .i64 r1 ∧ Grw w w') ?_ ?_ ?_
    · unfold execOp
      simp only [hop, e6, e8, resolve, invoke, Sem.run_bind, Sem.run_pure, Result.andThen_ok, List.map_toArray, List.map_cons, List.map_nil]
      first | rfl | exact enters_of Try.func52 (by kernel_rfl) rfl _ _
    · exact (Any.cmp_Compare_int Try.cmpL y.s x.s w).mono fun e w' ⟨he, h2⟩ => ⟨_, he, by rw [q1], by rw [h2]; exact Grw.refl _⟩
    · rintro v w' ⟨h1, h2⟩
      exact hK v w' h1 h2
  | 5, _, hs, ho, hop, hds, hdep, hK =>
    have hop : o.op = .fieldAddr 28 (.tmp 2) 1 := Option.some.inj hop
    have hu2 : a.tmps[2]? = some (.pointer (some ⟨b1, 0, none⟩)) := (hbase.2.2 2 (by decide)).trans x2
    have e2 : a.eval (.tmp 2) = _ := ev_tmp hu2
    refine st3 ho hwt (v := .pointer (some ⟨b1, 1, none⟩)) (w' := w) ?_ (hK _ w rfl (Grw.refl _))
    unfold execOp
    simp only [hop, Option.map_some, Option.map_none, e2]
    first | rfl | (go_simp; done) | (go_simp; simp; done) | (go_simp; intro h; omega)
  | 6, _, hs, ho, hop, hds, hdep, hK =>
    have hop : o.op = .slice 26 (.tmp 10) none none none := Option.some.inj hop
    obtain ⟨u10, hu10, hv10⟩ := hdep 5 (by decide)
    have hv10' : u10 = .pointer (some ⟨b1, 1, none⟩) := hv10
    subst hv10'
    have e10 : a.eval (.tmp 10) = _ := ev_tmp hu10
    refine st3 ho hwt (v := .slice (some ⟨b1, 1, none⟩) 32 32) (w' := w) ?_ (hK _ w rfl (Grw.refl _))
    unfold execOp
    simp only [hop, e10, Option.map_none]
    first | rfl | (go_simp; done) | kernel_rfl
  | 7, _, hs, ho, hop, hds, hdep, hK =>
    have hop : o.op = .fieldAddr 28 (.tmp 3) 1 := Option.some.inj hop
    have hu3 : a.tmps[3]? = some (.pointer (some ⟨b2, 0, none⟩)) := (hbase.2.2 3 (by decide)).trans x3
    have e3 : a.eval (.tmp 3) = _ := ev_tmp hu3
    refine st3 ho hwt (v := .pointer (some ⟨b2, 1, none⟩)) (w' := w) ?_ (hK _ w rfl (Grw.refl _))
    unfold execOp
    simp only [hop, Option.map_some, Option.map_none, e3]
    first | rfl | (go_simp; done) | (go_simp; simp; done) | (go_simp; intro h; omega)
  | 8, _, hs, ho, hop, hds, hdep, hK =>
    have hop : o.op = .slice 26 (.tmp 12) none none none := Option.some.inj hop
    obtain ⟨u12, hu12, hv12⟩ := hdep 7 (by decide)
    have hv12' : u12 = .pointer (some ⟨b2, 1, none⟩) := hv12
    subst hv12'
    have e12 : a.eval (.tmp 12) = _ := ev_tmp hu12
    refine st3 ho hwt (v := .slice (some ⟨b2, 1, none⟩) 32 32) (w' := w) ?_ (hK _ w rfl (Grw.refl _))
    unfold execOp
    simp only [hop, e12, Option.map_none]
    first | rfl | (go_simp; done) | kernel_rfl
  | 9, _, hs, ho, hop, hds, hdep, hK =>
    have hop : o.op = .call { callee := .value (.func 72), args := #[.tmp 11, .tmp 13], argTypes := #[102, 102] } := Option.some.inj hop
    obtain ⟨u11, hu11, hv11⟩ := hdep 6 (by decide)
    have hv11' : u11 = .slice (some ⟨b1, 1, none⟩) 32 32 := hv11
    subst hv11'
    have e11 : a.eval (.tmp 11) = _ := ev_tmp hu11
    obtain ⟨u13, hu13, hv13⟩ := hdep 8 (by decide)
    have hv13' : u13 = .slice (some ⟨b2, 1, none⟩) 32 32 := hv13
    subst hv13'
    have e13 : a.eval (.tmp 13) = _ := ev_tmp hu13
    refine st3_call ho hwt (f := 72) (vals := #[.slice (some ⟨b1, 1, none⟩) 32 32, .slice (some ⟨b2, 1, none⟩) 32 32]) (Z := fun v w' => v = .int .i64 r3 ∧ Grw w w') ?_ ?_ ?_
    · unfold execOp
      simp only [hop, e11, e13, resolve, invoke, Sem.run_bind, Sem.run_pure, Result.andThen_ok, List.map_toArray, List.map_cons, List.map_nil]
      first | rfl | exact enters_of Try.func72 (by kernel_rfl) rfl _ _
    · exact (bcompare_any w b1 1 b2 1 x.d y.d 32 32 32 32 x.hd y.hd (fun j u hu => (hB.below hbl.below hB.lt).cell (mkC_d hu)) (fun j u hu => (hC.below hbl.below hC.lt).cell (mkC_d hu))).mono fun e w' ⟨he, h2⟩ => ⟨_, he, by rw [q3], by rw [h2]; exact Grw.refl _⟩
    · rintro v w' ⟨h1, h2⟩
      exact hK v w' h1 h2
  | 10, _, hs, ho, hop, hds, hdep, hK =>
    have hop : o.op = .buildSlice 22 2 #[(0, .tmp 9), (1, .tmp 14)] := Option.some.inj hop
    obtain ⟨u9, hu9, hv9⟩ := hdep 4 (by decide)
    have hv9' : u9 = .int .i64 r1 := hv9
    subst hv9'
    have e9 : a.eval (.tmp 9) = _ := ev_tmp hu9
    obtain ⟨u14, hu14, hv14⟩ := hdep 9 (by decide)
    have hv14' : u14 = .int .i64 r3 := hv14
    subst hv14'
    have e14 : a.eval (.tmp 14) = _ := ev_tmp hu14
    have hrun : (Instr.buildSlice 22 2 #[(0, .int .i64 r1), (1, .int .i64 r3)]).run Try.prog w = .ok (.slice (some ⟨w.heap.size, 0, none⟩) 2 2) (w.alloc (.cells (cis [r1, r3]).toArray 3)) := by kernel_rfl
    refine st3 ho hwt (v := .slice (some ⟨w.heap.size, 0, none⟩) 2 2) (w' := w.alloc (.cells (cis [r1, r3]).toArray 3)) ?_ (hK _ _ ⟨w.heap.size, rfl, Blk.new rfl rfl⟩ (Grw.alloc _ _))
    unfold execOp
    simp only [hop, List.map_toArray, List.map_cons, List.map_nil, e9, e14, Sem.run_bind, hrun, Result.andThen_ok]
    rfl
  | 11, _, hs, ho, hop, hds, hdep, hK =>
    have hop : o.op = .call { callee := .value (.func 71), args := #[.tmp 15], argTypes := #[22] } := Option.some.inj hop
    obtain ⟨u15, hu15, hv15⟩ := hdep 10 (by decide)
    have hv15' : RowI w u15 [r1, r3] := hv15
    have e15 : a.eval (.tmp 15) = _ := ev_tmp hu15
    obtain ⟨gr, rfl, hgr⟩ := hv15'
    refine st3_call ho hwt (f := 71) (vals := #[.slice (some ⟨gr, 0, none⟩) 2 2]) (Z := fun v w' => v = .int .i64 r ∧ Grw w w') ?_ ?_ ?_
    · unfold execOp
      simp only [hop, e15, resolve, invoke, Sem.run_bind, Sem.run_pure, Result.andThen_ok, List.map_toArray, List.map_cons, List.map_nil]
      first | rfl | exact enters_of Try.func71 (by kernel_rfl) rfl _ _
    · exact (or2_any w gr _ r1 r3 hgr r hr).mono fun e w' ⟨he, h2⟩ => ⟨_, he, rfl, by rw [h2]; exact Grw.refl _⟩
    · rintro v w' ⟨h1, h2⟩
      exact hK v w' h1 h2
  | 12, _, hs, ho, hop, hds, hdep, hK =>
    have hop : o.op = .assign (.tmp 16) := Option.some.inj hop
    obtain ⟨u16, hu16, hv16⟩ := hdep 11 (by decide)
    have hv16' : u16 = .int .i64 r := hv16
    subst hv16'
    have e16 : a.eval (.tmp 16) = _ := ev_tmp hu16
    refine st3 ho hwt (v := _) (w' := w) ?_ (hK _ w rfl (Grw.refl _))
    unfold execOp
    rw [hop, ← e16]
    rfl
  | i + 13, hi, _, _, _, _, _, _ => exact absurd hi (by omega)

set_option maxRecDepth 100000 in
set_option maxHeartbeats 1600000 in
theorem first_any (x y : Mk) (w : World) : Calls Try.prog 60 #[.agg (mkC x).toArray, .agg (mkC y).toArray] w fun e w' => e = .returned (.int .i64 (cfM x y)) ∧ Grw w w' := by
  have hr : or2 (Lib.compareInt y.s x.s) (Lib.compareBytes x.d y.d) = cfM x y := rfl
  have hB1 : Blk (w.alloc (.cells (mkC x).toArray 28)) w.heap.size 28 (mkC x) := Blk.new rfl rfl
  have hB2 : Blk ((w.alloc (.cells (mkC x).toArray 28)).alloc (.cells (mkC y).toArray 28)) (w.heap.size + 1) 28 (mkC y) := Blk.new rfl (by simp)
  have hB1' : Blk ((w.alloc (.cells (mkC x).toArray 28)).alloc (.cells (mkC y).toArray 28)) w.heap.size 28 (mkC x) := hB1.old _
  have hbel : Grw w ((w.alloc (.cells (mkC x).toArray 28)).alloc (.cells (mkC y).toArray 28)) := (Grw.alloc _ _).trans (Grw.alloc _ _)
  have H := Lib.hid (And.intro hB1' (And.intro hB2 (And.intro hbel hr)))
  clear hB1 hB2 hB1' hbel hr
  generalize hCx : mkC x = Cx at *
  generalize hCy : mkC y = Cy at *
  go_enter Try.func60, Try.ntmps60
  go_wp2_with fail
  subst hCx hCy
  refine region_ruleG4 (P := Try.prog) 13 17 gfD gfG gfS (gfR w.heap.size (w.heap.size + 1) x y _ _ _) _ _ (by kernel_rfl) rfl rfl (by kernel_rfl) (by decide +kernel) (gf_gb w.heap.size (w.heap.size + 1) x y _ _ _) (gf_sk w.heap.size (w.heap.size + 1) x y _ _ _) (gf_on w.heap.size (w.heap.size + 1) x y _ _ _) (gf_step w.heap.size (w.heap.size + 1) x y _ _ _ (by rfl) (by kernel_rfl) rfl rfl H.out.1 H.out.2.1 rfl rfl H.out.2.2.2) ?fin
  case fin =>
    intro a w6 hbase hbl hall
    obtain ⟨v4, hv4, hR4⟩ := hall 12 (by decide)
    have hR4' : v4 = .int .i64 (cfM x y) := hR4
    subst hR4'
    obtain ⟨g, hge, hg⟩ := base_lit hbase [5, 6, 7, 8, 9, 10, 11, 12, 13, 14, 15, 16, 4] (by rfl)
    have q4 : g 4 = .int .i64 (cfM x y) := hge 4 _ hv4
    simp only [List.foldl_cons, List.foldl_nil, List.setIfInBounds_toArray, List.set_cons_zero, List.set_cons_succ, q4] at hg
    rw [hg]
    have hb := H.out.2.2.1.trans hbl
    clear hbl
    go_wp2
    go_ret
    exact ⟨rfl, hb⟩

def sortM' (l : List Mk) : List Mk := l.mergeSort fun x y => !(ltOf cfM) y x
theorem sortM_len (l : List Mk) : (sortM' l).length = l.length := List.length_mergeSort _
theorem sortM_perm (l : List Mk) : (sortM' l).Perm l := List.mergeSort_perm _ _
theorem sortM_head (l : List Mk) : (sortM' l).head? = best l := by
  cases e : sortM' l with
  | nil =>
    have := sortM_len l
    rw [e] at this
    have hl : l = [] := List.eq_nil_of_length_eq_zero this.symm
    subst hl; rfl
  | cons x r =>
    have hp := sortM_perm l
    rw [e] at hp
    have hs : (sortM' l).Pairwise (fun a b => (!(ltOf cfM) b a) = true) := List.pairwise_mergeSort (fun a b c h k => by
      simp only [Bool.not_eq_true'] at *
      exact swoM.ntrans c b a k h) (fun a b => by
      cases h1 : ltOf cfM b a
      · simp
      · cases h2 : ltOf cfM a b
        · simp
        · have := swoM.trans a b a h2 h1
          rw [swoM.irrefl] at this; cases this) l
    rw [e, List.pairwise_cons] at hs
    refine (best_of (hp.mem_iff.1 (by simp)) fun y hy => ?_).symm
    rcases List.mem_cons.1 (hp.mem_iff.2 hy) with e1 | h1
    · exact .inl e1
    · have h2 := hs.1 y h1
      simp only [Bool.not_eq_true'] at h2
      by_cases h3 : ltM x y
      · exact .inr h3
      · exact .inl (ltM_total (fun h => by rw [cfM_no] at h2; exact h2 h) h3)
theorem flat_marks (d : List Mk) : (flatK mkC 33 d.toArray).toList = mks d := by
  apply List.ext_getElem?
  intro t
  by_cases ht : t < d.length * 33
  · have e1 : (flatK mkC 33 d.toArray).toList[t]? = some ((mkC (d.toArray[t / 33]!))[t % 33]!) := by
      have := get_flatK mkC 33 d.toArray t (by simpa using ht)
      rw [← this, Array.getElem?_toList, getElem!_pos _ t (by simpa using ht)]
      exact Array.getElem?_eq_getElem _
    have hq : t / 33 < d.length := by omega
    have e2 := mks_at hq (r := t % 33) (by omega)
    rw [show t / 33 * 33 + t % 33 = t by omega] at e2
    rw [e1, e2, getElem!_pos d.toArray (t / 33) (by simpa using hq)]
    have hl : t % 33 < (mkC d[t / 33]).length := by rw [mkC_len]; omega
    rw [List.getElem?_eq_getElem hl]
    congr 1
    exact getElem!_pos (mkC d[t / 33]) (t % 33) hl
  · rw [List.getElem?_eq_none (by rw [Array.length_toList, size_flatK]; simpa using ht), List.getElem?_eq_none (by rw [mks_len]; omega)]
set_option maxRecDepth 100000 in
/-- slices.SortFunc of a row of marks. -/
theorem sort_row {w : World} {A : Option Addr} {n cap : Nat} {l : List Mk} (h : RowK w 28 33 A n cap (mks l)) (hl : l.length = n) (hs : n ≤ 1000000) :
    Calls Try.prog 59 #[.slice A n cap, .func (.func 60) #[] #[]] w fun e w' => e = .returned (.tuple #[]) ∧ RowK w' 28 33 A n cap (mks (sortM' l)) ∧ Out (blkOf A) w w' := by
  subst hl
  obtain ⟨h1, h2, h3, ⟨rfl, rfl⟩ | ⟨g, cur, rfl, hB, hcl, ht⟩⟩ := h
  · have h0 : l = [] := List.eq_nil_of_length_eq_zero (by omega)
    subst h0
    refine (AnyF.slices_SortFunc_none Try.sortM none 0 (.func (.func 60) #[] #[]) w).mono ?_
    rintro e w' ⟨he, rfl⟩
    exact ⟨he, ⟨by simp [sortM', mks], Nat.le_refl _, by simp [maxLen], .inl ⟨rfl, rfl⟩⟩, Out.refl _ _⟩
  · have eg : ∀ args w, (callFunc 60 args).run Try.prog w = .ok (.enter 60 args) w := enters_of Try.func60 (by kernel_rfl) rfl
    have hH : HoldsK mkC 33 w g 0 l.toArray := fun j hj => by
      have hjl : j < l.length * 33 := by simpa using hj
      refine ⟨?_, hB.free _⟩
      rw [Nat.zero_add]
      refine hB.cell ?_
      have e1 : cur[j]? = (mks l)[j]? := by rw [← ht, List.getElem?_take, if_pos hjl]
      rw [e1, ← flat_marks, Array.getElem?_toList, Array.getElem?_eq_getElem hj, getElem!_pos _ j hj]
      rfl
    refine (AnyQ.slices_SortFunc_total Try.sortM 33 mark_agg mark_size mkC mkC_len mkC_one cfM swoM 60 #[] g 0 cap l.toArray w eg (fun m os dk _ x y => ?_) hH hB.lt (by simp; omega) totM).mono ?_
    · exact (first_any x y _).mono fun e w' ⟨he, q, os', hw⟩ => ⟨he, q, os', hw⟩
    · rintro e w' ⟨he, q, os, hw⟩
      have hF : (flatK mkC 33 (sortM' l).toArray).size = l.length * 33 := by rw [size_flatK]; simp [sortM_len]
      have hp := put_rowV (F := flatK mkC 33 (sortM' l).toArray) hB (by rw [hF]; exact Nat.le_trans (Nat.mul_le_mul_right _ h2) hcl) q os
      change w' = grow (putRow id (Sort.ahead w q) g 0 (flatK mkC 33 (sortM' l).toArray)) os at hw
      rw [← hw, hF, flat_marks] at hp
      refine ⟨he, ⟨by rw [mks_len, sortM_len], h2, h3, .inr ⟨g, _, rfl, hp.1, ?_, ?_⟩⟩, ?_⟩
      · rw [List.length_append, mks_len, sortM_len, List.length_drop]
        have := Nat.mul_le_mul_right 33 h2
        omega
      · rw [List.take_append_of_le_length (by rw [mks_len, sortM_len]; omega), List.take_of_length_le (by rw [mks_len, sortM_len]; omega)]
      · refine ⟨hp.2.os, hp.2.tape, hp.2.output, hp.2.size, fun i hi hn => hp.2.block i hi fun e => hn ⟨_, rfl, e.symm⟩⟩
end Go.Proofs.Ytenccpccpjjkmaa
