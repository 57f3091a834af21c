/-
  Laid together for a hand-in: Ps14, Bring, Br13, He14, Fs14, Aw14.
-/
import Derived.Test.YtmdgcimjmmnbjaaZ11
import Derived.Test.YtmdgcimjmmnbjaaZ01
import Derived.Test.YtmdgcimjmmnbjaaRows
import Derived.Test.YtmdgcimjmmnbjaaZ10

namespace Go.Proofs.Ytmdgcimjmmnbjaa
open Go.RowKit Go.Shelf Go.Sort Go.Maps CrewP
set_option linter.unusedVariables false
set_option linter.unusedSimpArgs false

theorem app_none {w : World} (ty : TypeId) (A : Option Addr) (n cap : Nat) (h : n ≤ cap) : (Builtin.append_ #[33, 33] ty #[.slice A n cap, .slice none 0 0]).run Try.prog w = .ok (.slice A n cap) w := by
  obtain ⟨i0, hi, hz0, hz1, hz2⟩ := info_parts stand_info
  cases A with
  | none => simp [Builtin.append_, run_underlying Try.underlying33, sizeOf, typeInfo, hi, Builtin.lenOf, Builtin.firstCells, h]
  | some a => simp [Builtin.append_, run_underlying Try.underlying33, sizeOf, typeInfo, hi, Builtin.lenOf, Builtin.firstCells, storeCells, h]
/-- append of whatever stands another row holds. -/
theorem app_row {w : World} {A A2 : Option Addr} {n cap m c : Nat} {l l2 : List SdT} (h : RowK w 41 34 A n cap (sdCs l)) (h2 : RowK w 41 34 A2 m c (sdCs l2)) (hl2 : l2.length = m) (hn : n + m ≤ 100000) (ty : TypeId) :
    ∃ A' cap' w', (Builtin.append_ #[33, 33] ty #[.slice A n cap, .slice A2 m c]).run Try.prog w = .ok (.slice A' (n + m) cap') w' ∧ RowK w' 41 34 A' (n + m) cap' (sdCs (l ++ l2)) ∧ Out (blkOf A) w w' ∧ (∀ b, blkOf A' b → blkOf A b ∨ b = w.heap.size) := by
  cases A2 with
  | some ad => exact app_sds h ad rfl hl2 (fun j u hu => h2.holds ad rfl j u hu) hn ty
  | none =>
    obtain ⟨_, h3, _, ⟨_, h4⟩ | ⟨_, _, h4, _⟩⟩ := h2
    · have hm : m = 0 := by omega
      subst hm
      subst h4
      have : l2 = [] := List.eq_nil_of_length_eq_zero hl2
      subst this
      exact ⟨A, cap, w, app_none ty A n cap h.2.1, by simpa using h, Out.refl _ _, fun b h => .inl h⟩
    · cases h4

/-- A slice of stands, in a row made since. -/
def RetS (w : World) (l : List SdT) (e : Ending) (w' : World) : Prop := ∃ A cap, e = .returned (.slice A l.length cap) ∧ RowK w' 41 34 A l.length cap (sdCs l) ∧ Below w.heap.size w w' ∧ ∀ b, blkOf A b → w.heap.size ≤ b
def pT (seq : Int) (o : Option Vt) : List SdT := match o with | none => [] | some x => [mkT seq (x.d, x.v)]
theorem qT_len (seq : Int) (q : List Vt) : (qT seq q).length = q.length := by simp [qT, qL]

section
variable {w : World} {sb qb rb cb : Nat} {ns : List Int} {x : Sq}
theorem qClo_any (h : SqAt w sb qb rb cb ns x) (hok : x.ok) (seq : Int) : Calls Try.prog 36 #[.int .i64 seq, .pointer (some ⟨sb, 0, none⟩)] w (RetS w (qT seq x.q)) := by
  obtain ⟨_, _, h68, _, _, _⟩ := sq_cells hok.last hok.p (.map (some qb)) (.map (some rb)) (.map (some cb))
  have HP := Lib.hid (proposals_any h.blk h68 h.q hok.q seq)
  have hq := qT_len seq x.q
  rw [← hq] at HP
  clear h hok h68
  unfold RetS
  generalize qT seq x.q = l at *
  generalize x.q.length = n at *
  subst hq
  go_enter Try.func36, Try.ntmps36
  go_wp2_with (go_at_call 37; refine HP.out.mono ?_; rintro e w1 ⟨A, cap, rfl, h1, h2, h3⟩)
  go_ret
  exact ⟨A, cap, rfl, h1, h2, h3⟩
set_option maxRecDepth 100000 in
set_option maxHeartbeats 1600000 in
theorem pClo_any (h : SqAt w sb qb rb cb ns x) (hok : x.ok) (seq : Int) : Calls Try.prog 34 #[.int .i64 seq, .pointer (some ⟨sb, 0, none⟩)] w (RetS w (pT seq x.p)) := by
  obtain ⟨_, hP, _, _, _, _⟩ := sq_cells hok.last hok.p (.map (some qb)) (.map (some rb)) (.map (some cb))
  have hrg := h.blk.rangeFrom hP
  have hip := say_infoL hok.p
  have heq := fun w => eq_say hok.p (show okO none by simp [okO]) w
  unfold RetS
  cases hp : x.p with
  | none =>
    rw [hp] at hrg hip heq
    have heq' : ∀ w, (Op.equalIn 10000 64 (.agg (sy none).toArray) (.agg (sy none).toArray)).run Try.prog w = .ok true w := fun w => by have := heq w; simpa using this
    have HS := Lib.hid (And.intro hrg (And.intro hip say_built0))
    clear h hok hP hrg hip heq hp
    generalize hZ : sy none = Z at *
    show Calls _ _ _ _ fun e w' => ∃ A cap, e = .returned (.slice A 0 cap) ∧ RowK w' 41 34 A 0 cap (sdCs []) ∧ Below w.heap.size w w' ∧ ∀ b, blkOf A b → w.heap.size ≤ b
    go_enter Try.func34, Try.ntmps34
    go_wp2_with (first
      | (refine load_mid_g rfl 64 _ rfl sb 34 rfl Z _ HS.out.1 Try.underlying64 rfl HS.out.2.1 ?_; simp only [Act.put])
      | (refine wpList_build_g rfl 64 _ rfl Z.toArray HS.out.2.2 ?_; simp only [Act.put]))
    go_ret
    exact ⟨none, 0, rfl, RowK.nil _ _ _, Below.refl _ _, fun b ⟨a, ha, _⟩ => by cases ha⟩
  | some v =>
    have hv := hok.p v hp
    have hov : okO (some v) := fun y hy => by injection hy with hy; rw [← hy]; exact hv
    rw [hp] at hrg hip heq
    have heq' : ∀ w, (Op.equalIn 10000 64 (.agg (sy (some v)).toArray) (.agg (sy none).toArray)).run Try.prog w = .ok false w := fun w => by have := heq w; simpa using this
    have hst := fun W => stand_any hv.2.2 hov seq W
    have hc : sdT (mkT seq (v.d, v.v)) = sdC ⟨seq, v.d, v.v⟩ := by unfold sdT; rw [mkT_ok hv.2.2]
    rw [← hc] at hst
    have HS := Lib.hid (And.intro hrg (And.intro hip (And.intro say_built0 (And.intro hst (row_stand (mkT seq (v.d, v.v)))))))
    clear h hok hP hrg hip heq hp hv hov hst hc
    show Calls _ _ _ _ fun e w' => ∃ A cap, e = .returned (.slice A 1 cap) ∧ RowK w' 41 34 A 1 cap (sdCs [mkT seq (v.d, v.v)]) ∧ Below w.heap.size w w' ∧ ∀ b, blkOf A b → w.heap.size ≤ b
    generalize mkT seq (v.d, v.v) = X at *
    generalize hZ : sy none = Z at *
    generalize hC : sy (some v) = C at *
    go_enter Try.func34, Try.ntmps34
    go_wp2_with (first
      | (refine load_mid_g rfl 64 _ rfl sb 34 rfl C _ HS.out.1 Try.underlying64 rfl HS.out.2.1 ?_; simp only [Act.put])
      | (refine wpList_build_g rfl 64 _ rfl Z.toArray HS.out.2.2.1 ?_; simp only [Act.put]))
    refine (HS.out.2.2.2.1 _).mono ?_
    rintro e w1 ⟨rfl, hb1⟩
    have H1 := Lib.hid hb1
    have hR : RowK (w1.alloc (.cells (sdT X).toArray 41)) 41 34 (some ⟨w1.heap.size, 0, none⟩) 1 1 (sdCs [X]) := by
      refine ⟨by rw [sdCs_len]; rfl, Nat.le_refl _, by simp [maxLen], .inr ⟨w1.heap.size, sdT X, rfl, Blk.new rfl rfl, by rw [sdT_len]; omega, ?_⟩⟩
      rw [sdCs_single, List.take_of_length_le (by rw [sdT_len]; omega)]
    have HR := Lib.hid hR
    clear hb1 hR
    go_wp2_with (refine row_g rfl 33 1 _ rfl (.slice (some ⟨w1.heap.size, 0, none⟩) 1 1) _ (by simp only [List.map_toArray, List.map_cons, List.map_nil]; exact HS.out.2.2.2.2 w1) ?_; simp only [Act.put])
    go_ret
    exact ⟨some ⟨w1.heap.size, 0, none⟩, 1, rfl, HR.out, H1.out.alloc H1.out.size _, fun b ⟨a, ha, hb⟩ => by injection ha with ha; rw [← hb, ← ha]; exact H1.out.size⟩
end

/-! ### All numbers -/
theorem nums_all (low : Int) (sb : Nat → Nat) : nums low sb all8 = (List.range 8).map fun (i : Nat) => (low + 1 + (i : Int), sb i) := by
  unfold nums all8
  simp only [if_true]
  rw [List.filterMap_eq_map']
theorem nums_mem {low : Int} {sb : Nat → Nat} {p : Int × Nat} (h : p ∈ nums low sb all8) : ∃ i : Nat, i < 8 ∧ p = (low + 1 + (i : Int), sb i) := by
  rw [nums_all] at h
  obtain ⟨i, hi, e⟩ := List.mem_map.1 h
  exact ⟨i, by simpa using hi, e.symm⟩
theorem nums_flat (low : Int) (sb : Nat → Nat) (L : Nat → List SdT) : (nums low sb all8).flatMap (fun p => L (p.1 - low - 1).toNat) = (List.range 8).flatMap L := by
  rw [nums_all, List.flatMap_map]
  congr 1
  funext i
  show L (low + 1 + (i : Int) - low - 1).toNat = L i
  congr 1
  omega
theorem all_rise {low : Int} {L : Nat → List SdT} (h1 : ∀ i, i < 8 → ∀ x ∈ L i, x.1.seq = low + 1 + (i : Int)) (h2 : ∀ i, i < 8 → (L i).Pairwise fun a b => ltOf cfT a b = true) : ((List.range 8).flatMap L).Pairwise fun a b => ltOf cfT a b = true := by
  have key : ∀ n, n ≤ 8 → ((List.range n).flatMap L).Pairwise fun a b => ltOf cfT a b = true := by
    intro n
    induction n with
    | zero => intro _; simp
    | succ n ih =>
      intro hn
      rw [List.range_succ, List.flatMap_append, List.flatMap_cons, List.flatMap_nil, List.append_nil, List.pairwise_append]
      refine ⟨ih (by omega), h2 n (by omega), fun a ha b hb => ?_⟩
      obtain ⟨i, hi, ha⟩ := List.mem_flatMap.1 ha
      have hin : i < n := by simpa using hi
      rw [ltT_iff]
      have e1 := h1 i (by omega) a ha
      have e2 := h1 n (by omega) b hb
      exact .inl (by omega)
  exact key 8 (Nat.le_refl _)
def pTs (σ : St) (i : Nat) : List SdT := pT (σ.low + 1 + (i : Int)) (σ.s i).p
def qTs (σ : St) (i : Nat) : List SdT := qT (σ.low + 1 + (i : Int)) (σ.s i).q
theorem mkT_seq (seq : Int) (p : List UInt8 × Int) : (mkT seq p).1.seq = seq := rfl
theorem pTs_rise {σ : St} (h : σ.ok) : ((List.range 8).flatMap (pTs σ)).Pairwise fun a b => ltOf cfT a b = true := by
  refine all_rise (low := σ.low) (fun i hi x hx => ?_) fun i hi => ?_
  · unfold pTs pT at hx
    cases e : (σ.s i).p with
    | none => rw [e] at hx; cases hx
    | some v => rw [e] at hx; rw [List.mem_singleton.1 hx]; rfl
  · unfold pTs pT
    cases (σ.s i).p <;> simp
theorem qTs_rise {σ : St} (h : σ.ok) : ((List.range 8).flatMap (qTs σ)).Pairwise fun a b => ltOf cfT a b = true := by
  refine all_rise (low := σ.low) (fun i hi x hx => ?_) fun i hi => qT_rise (h.s i hi).q
  unfold qTs qT at hx
  obtain ⟨p, _, e⟩ := List.mem_map.1 hx
  rw [← e]; rfl
theorem pTs_small {σ : St} (h : σ.ok) {i : Nat} (hi : i < 8) : (pTs σ i).length ≤ 4 := by
  unfold pTs pT
  cases (σ.s i).p <;> simp
theorem qTs_small {σ : St} (h : σ.ok) {i : Nat} (hi : i < 8) : (qTs σ i).length ≤ 4 := by
  unfold qTs
  rw [qT_len]
  exact (h.s i hi).q.len
theorem flat_small {L : Nat → List SdT} (h : ∀ i, i < 8 → (L i).length ≤ 4) : ((List.range 8).flatMap L).length ≤ 32 := by
  have key : ∀ n, n ≤ 8 → ((List.range n).flatMap L).length ≤ 4 * n := by
    intro n
    induction n with
    | zero => intro _; simp
    | succ n ih =>
      intro hn
      rw [List.range_succ, List.flatMap_append, List.length_append, List.flatMap_cons, List.flatMap_nil, List.append_nil]
      have h1 := ih (by omega)
      have h2 := h n (by omega)
      omega
  exact key 8 (Nat.le_refl _)

section
variable {w : World} {U : Nat → Prop} {g : Nat} {σ : St} {ab cap m : Nat} {sb qb rb cb : Nat → Nat} {role : Nat → Nat}
set_option maxRecDepth 100000 in
set_option maxHeartbeats 3200000 in
theorem pStands_in (h : StIn w U g σ all8 ab cap m sb qb rb cb role) : Calls Try.prog 33 #[.pointer (some ⟨g, 0, none⟩), .func (.func 34) #[] #[]] w (RetS w ((List.range 8).flatMap (pTs σ))) := by
  have hrise := pTs_rise h.ok
  have hsm := flat_small (L := pTs σ) (fun i hi => pTs_small h.ok hi)
  have hfl := nums_flat σ.low sb (pTs σ)
  have c3 := h.blk.cell (i := 3) rfl
  have hml := h.num.lt
  have Hn := Lib.hid (none_in h)
  have H := Lib.hid (And.intro h (And.intro hrise (And.intro hsm hfl)))
  have hlen : Hid (∀ l : List SdT, l.Perm ((List.range 8).flatMap (pTs σ)) → sortT l = (List.range 8).flatMap (pTs σ)) := Lib.hid fun l hl => sort_is hl hrise
  clear hrise hsm hfl h
  unfold RetS
  generalize hLT : (List.range 8).flatMap (pTs σ) = LT at *
  obtain ⟨c, hc⟩ : ∃ c : (Int × Nat) → List SdT, (fun p : Int × Nat => pTs σ (p.1 - σ.low - 1).toNat) = c := ⟨_, rfl⟩
  have hfl := H.out.2.2.2
  rw [hc] at hfl
  have HF := Lib.hid hfl
  clear hfl
  go_enter Try.func33, Try.ntmps33
  go_wp2_with (first
    | (go_at_call 38; refine Hn.out.mono ?_; rintro e w' ⟨rfl, hww⟩; obtain rfl := hww.symm)
    | (at_range; refine wpList_range_T _ rfl _ 70 _ rfl Try.underlying70 rfl H.out.1.num ?_; intro w0 hrg0 hb1 hs0)
    | go_in)
  go_frame
  have HL := Lib.hid (And.intro hrg0 hb1)
  clear hrg0 hb1 hs0 c3
  go_loopw [5] (fun v5 wr => ∃ (todo : List (Int × Nat)) (l : List SdT) (A : Option Addr) (cp : Nat), v5 = .slice A l.length cp ∧ RangeT intK ptr wr m w.heap.size (nums σ.low sb all8) todo ∧ RowK wr 41 34 A l.length cp (sdCs l) ∧ (l ++ todo.flatMap c).Perm LT ∧ Below w.heap.size w wr ∧ ∀ b, blkOf A b → w.heap.size < b)
    (fun _ wr => wr.rangeLeft m w.heap.size)
  case atStart => exact ⟨_, [], none, 0, rfl, HL.out.1, RowK.nil _ _ _, by rw [List.nil_append, HF.out], HL.out.2, fun b ⟨a, ha, _⟩ => by cases ha⟩
  case round =>
    obtain ⟨todo, l, A, cp, rfl, hrg, hrow, hperm, hbel, hA⟩ := hrel
    clear HL
    go_wp2_with (first
      | (at_next; refine wpList_next_T _ rfl _ rfl (fun x => .int .i64 x) (fun b => .pointer (some ⟨b, 0, none⟩)) (fun _ => rfl) (fun _ => rfl) rfl hrg ?_ ?_)
      | go_in)
    · intro h0
      subst h0
      rw [List.flatMap_nil, List.append_nil] at hperm
      have hll : l.length = LT.length := hperm.length_eq
      have hsml := H.out.2.2.1
      have HS := Lib.hid (sort_row hrow rfl (by omega))
      have HE := Lib.hid (And.intro hperm (And.intro hbel (And.intro hA hll)))
      clear hrow hperm hbel hA hrg hll hsml
      go_wp2_with (go_at_call 54; refine HS.out.mono ?_; rintro e w3 ⟨rfl, hrow3, hout3⟩)
      go_ret
      obtain ⟨hperm, hbel, hA, hll⟩ := HE.out
      rw [hlen.out l hperm, hll] at hrow3
      refine ⟨A, cp, by rw [← hll]; rfl, hrow3, hbel.trans (hout3.above (fun i hi => by have := hA i hi; omega) hbel.size), fun b hb => by have := hA b hb; omega⟩
    · intro n s more w1 hp hm hok hrg1 hlt hout hsz hen
      obtain ⟨i, hi8, hpe⟩ := nums_mem hm
      injection hpe with hpe1 hpe2
      subst hpe2
      have hAr : ∀ b, blkOf A b → ¬ (b = w.heap.size) := fun b hb e => by have := hA b hb; omega
      have hrow1 := hrow.out hout hAr
      have hbel1 : Below w.heap.size w w1 := hbel.trans (hout.above (fun i hi => by omega) hbel.size)
      have hsq := (H.out.1.below hbel1).s i hi8 rfl
      have hcn : c (n, sb i) = pTs σ i := by
        rw [← hc, hpe1]
        show pTs σ (σ.low + 1 + (i : Int) - σ.low - 1).toNat = _
        congr 1
        omega
      have hclo := pClo_any hsq (H.out.1.ok.s i hi8) n
      have hTi : pT n (σ.s i).p = pTs σ i := by rw [hpe1]; rfl
      rw [hTi] at hclo
      have HC := Lib.hid hclo
      have hsm4 := pTs_small H.out.1.ok hi8
      have HK := Lib.hid (And.intro hrow1 (And.intro hbel1 (And.intro hrg1 (And.intro hp (And.intro hcn (And.intro hlt (And.intro hA (And.intro hperm hsm4))))))))
      clear hAr hrow1 hbel1 hsq hclo hTi hpe1 hp hm hok hrg1 hlt hout hsz hrow hperm hbel hA hrg hcn hsm4
      generalize hsi : sb i = s at *
      generalize pTs σ i = li at *
      go_wp2_with fail
      refine HC.out.mono ?_
      rintro e w2 ⟨A2, c2, rfl, hrow2, hb2, hA2⟩
      obtain ⟨hrow1, hbel1, hrg1, hp, hcn, hlt, hA, hperm, hsm4⟩ := HK.out
      have hll : l.length + li.length ≤ 100000 := by
        have h3 := hperm.length_eq
        rw [List.length_append] at h3
        have h4 := H.out.2.2.1
        omega
      obtain ⟨A', cp', w3, hrun, hrow3, hout3, hA'⟩ := app_row (hrow1.below hb2 hrow1.lt) hrow2 rfl hll 33
      have hw1 := hbel1.size
      have hqlt := hrg1.owns.lt
      have hrlt := hrg1.lt
      have hmA : ¬ blkOf A m := fun e => by have h1 := hA m e; have h2 := H.out.1.num.lt; omega
      have hO3 : Out (fun b => w1.heap.size ≤ b ∨ blkOf A b) w1 w3 := (Out.ofBelow _ hb2).trans hout3 fun i _ e => .inr e
      have hrg3 : RangeT intK ptr w3 m w.heap.size (nums σ.low sb all8) more := hrg1.out hO3 (fun e => e.elim (by omega) hmA) (fun e => e.elim (by omega) fun e => by have := hA _ e; omega)
      have hleft3 : w3.rangeLeft m w.heap.size = w1.rangeLeft m w.heap.size := hrg1.left_out hO3 (fun e => e.elim (by omega) hmA) (fun e => e.elim (by omega) fun e => by have := hA _ e; omega)
      have hbel3 : Below w.heap.size w w3 := hbel1.trans (hO3.above (fun i hi => hi.elim (by omega) fun e => by have := hA i e; omega) hbel1.size)
      have hA3 : ∀ b, blkOf A' b → w.heap.size < b := fun b hb => by
        rcases hA' b hb with e | e
        · exact hA b e
        · have h4 := hb2.size; omega
      have hperm3 : ((l ++ li) ++ more.flatMap c).Perm LT := by
        refine List.Perm.trans ?_ hperm
        rw [List.append_assoc]
        refine List.Perm.append_left l ?_
        have h5 := hp.flatMap_right c
        rw [List.flatMap_cons, hcn] at h5
        exact h5.symm
      have HE := Lib.hid (And.intro hrow3 (And.intro hrg3 (And.intro hleft3 (And.intro hbel3 (And.intro hA3 (And.intro hperm3 (And.intro hlt hrun)))))))
      clear hll hrun hrow3 hout3 hA' hw1 hqlt hrlt hmA hO3 hrg3 hleft3 hbel3 hA3 hperm3 hrow2 hb2 hA2 hrow1 hbel1 hrg1 hp hcn hlt hA hperm hsm4 HK HC
      go_wp2_with (refine app_g rfl _ _ _ _ rfl _ _ _ w3 rfl rfl HE.out.2.2.2.2.2.2.2 ?_; simp only [Act.put])
      go_roundw
      case rel => exact ⟨more, l ++ li, A', cp', by rw [List.length_append], HE.out.2.1, by rw [List.length_append]; exact HE.out.1, HE.out.2.2.2.2.2.1, HE.out.2.2.2.1, HE.out.2.2.2.2.1⟩
      case measure => rw [HE.out.2.2.1]; exact HE.out.2.2.2.2.2.2.1
theorem p_in (h : StIn w U g σ all8 ab cap m sb qb rb cb role) : Calls Try.prog 14 #[.pointer (some ⟨g, 0, none⟩)] w (RetS w ((List.range 8).flatMap (pTs σ))) := by
  have HS := Lib.hid (pStands_in h)
  clear h
  generalize (List.range 8).flatMap (pTs σ) = l at *
  unfold RetS at *
  go_enter Try.func14, Try.ntmps14
  go_wp2_with (go_at_call 33; refine HS.out.mono ?_; rintro e w1 ⟨A, cp, rfl, h1, h2, h3⟩)
  go_ret
  exact ⟨A, cp, rfl, h1, h2, h3⟩
end

section
variable {w : World} {U : Nat → Prop} {g : Nat} {σ : St} {ab cap m : Nat} {sb qb rb cb : Nat → Nat} {role : Nat → Nat}
set_option maxRecDepth 100000 in
set_option maxHeartbeats 3200000 in
theorem qStands_in (h : StIn w U g σ all8 ab cap m sb qb rb cb role) : Calls Try.prog 33 #[.pointer (some ⟨g, 0, none⟩), .func (.func 36) #[] #[]] w (RetS w ((List.range 8).flatMap (qTs σ))) := by
  have hrise := qTs_rise h.ok
  have hsm := flat_small (L := qTs σ) (fun i hi => qTs_small h.ok hi)
  have hfl := nums_flat σ.low sb (qTs σ)
  have c3 := h.blk.cell (i := 3) rfl
  have hml := h.num.lt
  have Hn := Lib.hid (none_in h)
  have H := Lib.hid (And.intro h (And.intro hrise (And.intro hsm hfl)))
  have hlen : Hid (∀ l : List SdT, l.Perm ((List.range 8).flatMap (qTs σ)) → sortT l = (List.range 8).flatMap (qTs σ)) := Lib.hid fun l hl => sort_is hl hrise
  clear hrise hsm hfl h
  unfold RetS
  generalize hLT : (List.range 8).flatMap (qTs σ) = LT at *
  obtain ⟨c, hc⟩ : ∃ c : (Int × Nat) → List SdT, (fun p : Int × Nat => qTs σ (p.1 - σ.low - 1).toNat) = c := ⟨_, rfl⟩
  have hfl := H.out.2.2.2
  rw [hc] at hfl
  have HF := Lib.hid hfl
  clear hfl
  go_enter Try.func33, Try.ntmps33
  go_wp2_with (first
    | (go_at_call 38; refine Hn.out.mono ?_; rintro e w' ⟨rfl, hww⟩; obtain rfl := hww.symm)
    | (at_range; refine wpList_range_T _ rfl _ 70 _ rfl Try.underlying70 rfl H.out.1.num ?_; intro w0 hrg0 hb1 hs0)
    | go_in)
  go_frame
  have HL := Lib.hid (And.intro hrg0 hb1)
  clear hrg0 hb1 hs0 c3
  go_loopw [5] (fun v5 wr => ∃ (todo : List (Int × Nat)) (l : List SdT) (A : Option Addr) (cp : Nat), v5 = .slice A l.length cp ∧ RangeT intK ptr wr m w.heap.size (nums σ.low sb all8) todo ∧ RowK wr 41 34 A l.length cp (sdCs l) ∧ (l ++ todo.flatMap c).Perm LT ∧ Below w.heap.size w wr ∧ ∀ b, blkOf A b → w.heap.size < b)
    (fun _ wr => wr.rangeLeft m w.heap.size)
  case atStart => exact ⟨_, [], none, 0, rfl, HL.out.1, RowK.nil _ _ _, by rw [List.nil_append, HF.out], HL.out.2, fun b ⟨a, ha, _⟩ => by cases ha⟩
  case round =>
    obtain ⟨todo, l, A, cp, rfl, hrg, hrow, hperm, hbel, hA⟩ := hrel
    clear HL
    go_wp2_with (first
      | (at_next; refine wpList_next_T _ rfl _ rfl (fun x => .int .i64 x) (fun b => .pointer (some ⟨b, 0, none⟩)) (fun _ => rfl) (fun _ => rfl) rfl hrg ?_ ?_)
      | go_in)
    · intro h0
      subst h0
      rw [List.flatMap_nil, List.append_nil] at hperm
      have hll : l.length = LT.length := hperm.length_eq
      have hsml := H.out.2.2.1
      have HS := Lib.hid (sort_row hrow rfl (by omega))
      have HE := Lib.hid (And.intro hperm (And.intro hbel (And.intro hA hll)))
      clear hrow hperm hbel hA hrg hll hsml
      go_wp2_with (go_at_call 54; refine HS.out.mono ?_; rintro e w3 ⟨rfl, hrow3, hout3⟩)
      go_ret
      obtain ⟨hperm, hbel, hA, hll⟩ := HE.out
      rw [hlen.out l hperm, hll] at hrow3
      refine ⟨A, cp, by rw [← hll]; rfl, hrow3, hbel.trans (hout3.above (fun i hi => by have := hA i hi; omega) hbel.size), fun b hb => by have := hA b hb; omega⟩
    · intro n s more w1 hp hm hok hrg1 hlt hout hsz hen
      obtain ⟨i, hi8, hpe⟩ := nums_mem hm
      injection hpe with hpe1 hpe2
      subst hpe2
      have hAr : ∀ b, blkOf A b → ¬ (b = w.heap.size) := fun b hb e => by have := hA b hb; omega
      have hrow1 := hrow.out hout hAr
      have hbel1 : Below w.heap.size w w1 := hbel.trans (hout.above (fun i hi => by omega) hbel.size)
      have hsq := (H.out.1.below hbel1).s i hi8 rfl
      have hcn : c (n, sb i) = qTs σ i := by
        rw [← hc, hpe1]
        show qTs σ (σ.low + 1 + (i : Int) - σ.low - 1).toNat = _
        congr 1
        omega
      have hclo := qClo_any hsq (H.out.1.ok.s i hi8) n
      have hTi : qT n (σ.s i).q = qTs σ i := by rw [hpe1]; rfl
      rw [hTi] at hclo
      have HC := Lib.hid hclo
      have hsm4 := qTs_small H.out.1.ok hi8
      have HK := Lib.hid (And.intro hrow1 (And.intro hbel1 (And.intro hrg1 (And.intro hp (And.intro hcn (And.intro hlt (And.intro hA (And.intro hperm hsm4))))))))
      clear hAr hrow1 hbel1 hsq hclo hTi hpe1 hp hm hok hrg1 hlt hout hsz hrow hperm hbel hA hrg hcn hsm4
      generalize hsi : sb i = s at *
      generalize qTs σ i = li at *
      go_wp2_with fail
      refine HC.out.mono ?_
      rintro e w2 ⟨A2, c2, rfl, hrow2, hb2, hA2⟩
      obtain ⟨hrow1, hbel1, hrg1, hp, hcn, hlt, hA, hperm, hsm4⟩ := HK.out
      have hll : l.length + li.length ≤ 100000 := by
        have h3 := hperm.length_eq
        rw [List.length_append] at h3
        have h4 := H.out.2.2.1
        omega
      obtain ⟨A', cp', w3, hrun, hrow3, hout3, hA'⟩ := app_row (hrow1.below hb2 hrow1.lt) hrow2 rfl hll 33
      have hw1 := hbel1.size
      have hqlt := hrg1.owns.lt
      have hrlt := hrg1.lt
      have hmA : ¬ blkOf A m := fun e => by have h1 := hA m e; have h2 := H.out.1.num.lt; omega
      have hO3 : Out (fun b => w1.heap.size ≤ b ∨ blkOf A b) w1 w3 := (Out.ofBelow _ hb2).trans hout3 fun i _ e => .inr e
      have hrg3 : RangeT intK ptr w3 m w.heap.size (nums σ.low sb all8) more := hrg1.out hO3 (fun e => e.elim (by omega) hmA) (fun e => e.elim (by omega) fun e => by have := hA _ e; omega)
      have hleft3 : w3.rangeLeft m w.heap.size = w1.rangeLeft m w.heap.size := hrg1.left_out hO3 (fun e => e.elim (by omega) hmA) (fun e => e.elim (by omega) fun e => by have := hA _ e; omega)
      have hbel3 : Below w.heap.size w w3 := hbel1.trans (hO3.above (fun i hi => hi.elim (by omega) fun e => by have := hA i e; omega) hbel1.size)
      have hA3 : ∀ b, blkOf A' b → w.heap.size < b := fun b hb => by
        rcases hA' b hb with e | e
        · exact hA b e
        · have h4 := hb2.size; omega
      have hperm3 : ((l ++ li) ++ more.flatMap c).Perm LT := by
        refine List.Perm.trans ?_ hperm
        rw [List.append_assoc]
        refine List.Perm.append_left l ?_
        have h5 := hp.flatMap_right c
        rw [List.flatMap_cons, hcn] at h5
        exact h5.symm
      have HE := Lib.hid (And.intro hrow3 (And.intro hrg3 (And.intro hleft3 (And.intro hbel3 (And.intro hA3 (And.intro hperm3 (And.intro hlt hrun)))))))
      clear hll hrun hrow3 hout3 hA' hw1 hqlt hrlt hmA hO3 hrg3 hleft3 hbel3 hA3 hperm3 hrow2 hb2 hA2 hrow1 hbel1 hrg1 hp hcn hlt hA hperm hsm4 HK HC
      go_wp2_with (refine app_g rfl _ _ _ _ rfl _ _ _ w3 rfl rfl HE.out.2.2.2.2.2.2.2 ?_; simp only [Act.put])
      go_roundw
      case rel => exact ⟨more, l ++ li, A', cp', by rw [List.length_append], HE.out.2.1, by rw [List.length_append]; exact HE.out.1, HE.out.2.2.2.2.2.1, HE.out.2.2.2.1, HE.out.2.2.2.2.1⟩
      case measure => rw [HE.out.2.2.1]; exact HE.out.2.2.2.2.2.2.1
theorem q_in (h : StIn w U g σ all8 ab cap m sb qb rb cb role) : Calls Try.prog 15 #[.pointer (some ⟨g, 0, none⟩)] w (RetS w ((List.range 8).flatMap (qTs σ))) := by
  have HS := Lib.hid (qStands_in h)
  clear h
  generalize (List.range 8).flatMap (qTs σ) = l at *
  unfold RetS at *
  go_enter Try.func15, Try.ntmps15
  go_wp2_with (go_at_call 33; refine HS.out.mono ?_; rintro e w1 ⟨A, cp, rfl, h1, h2, h3⟩)
  go_ret
  exact ⟨A, cp, rfl, h1, h2, h3⟩
end
end Go.Proofs.Ytmdgcimjmmnbjaa

namespace Go.Proofs.Ytmdgcimjmmnbjaa

open Go.RowKit

set_option linter.unusedVariables false

def SomeNat (n : Int) (w : World) (e : Ending) (w' : World) : Prop := ∃ r : Nat, (r : Int) < n ∧ e = .returned (.int .i64 (r : Int)) ∧ w = w'

theorem SomeNat.mk {n : Int} {w w' : World} {x : Int} (h0 : 0 ≤ x) (h : x < n) (hw : w = w') : SomeNat n w (.returned (.int .i64 x)) w' :=
  ⟨x.toNat, by omega, by rw [Int.toNat_of_nonneg h0], hw⟩

set_option maxHeartbeats 400000 in
theorem bring_any (i n : Int) (w : World) (h : 0 < n) (hn : n ≤ 9223372036854775807) (hi0 : -9223372036854775808 ≤ i) (hi1 : i ≤ 9223372036854775807) :
    Calls Try.prog 17 #[.int .i64 i, .int .i64 n] w (SomeNat n w) := by
  have hz : (n == 0) = false := by simp; omega
  by_cases h0 : 0 ≤ i
  · have hm0 := Int.emod_nonneg i (by omega : n ≠ 0)
    have hm1 := Int.emod_lt_of_pos i h
    go_enter Try.func17, Try.ntmps17
    go_wp2
    go_ret
    exact SomeNat.mk hm0 hm1 rfl
  · have ht : i.tmod n = -((-i) % n) := by
      have e1 : (-i).tmod n = -(i.tmod n) := Int.neg_tmod i n
      have e2 : (-i).tmod n = (-i) % n := Int.tmod_eq_emod_of_nonneg (by omega)
      omega
    have hm0 := Int.emod_nonneg (-i) (by omega : n ≠ 0)
    have hm1 := Int.emod_lt_of_pos (-i) h
    have hl0 : i.tmod n ≤ 0 := by omega
    have hl1 : -n < i.tmod n := by omega
    clear hm0 hm1 ht
    by_cases hs : i.tmod n < 0
    · go_enter Try.func17, Try.ntmps17
      go_wp2
      go_ret
      exact SomeNat.mk (by omega) (by omega) rfl
    · go_enter Try.func17, Try.ntmps17
      go_wp2
      go_ret
      exact SomeNat.mk (by omega) (by omega) rfl

end Go.Proofs.Ytmdgcimjmmnbjaa

namespace Go.Proofs.Ytmdgcimjmmnbjaa
open Go.RowKit
set_option linter.unusedVariables false

theorem emod_tmod {i n : Int} (h : 0 < n) (h0 : -n < i.tmod n) (h1 : i.tmod n ≤ 0) : i % n = if i.tmod n < 0 then i.tmod n + n else i.tmod n := by
  have e : i % n = (i.tmod n) % n := by
    have := Int.tmod_add_mul_tdiv i n
    conv => lhs; rw [← this]
    exact Int.add_mul_emod_self_left _ _ _
  rw [e]
  split
  · rw [← Int.add_emod_right, Int.emod_eq_of_lt (by omega) (by omega)]
  · rw [Int.emod_eq_of_lt (by omega) (by omega)]
set_option maxHeartbeats 400000 in
theorem bringF_any (i n : Int) (w : World) (h : 0 < n) (hn : n ≤ 9223372036854775807) (hi0 : -9223372036854775808 ≤ i) (hi1 : i ≤ 9223372036854775807) :
    Calls Try.prog 17 #[.int .i64 i, .int .i64 n] w fun e w' => e = .returned (.int .i64 (i % n)) ∧ w' = w := by
  have hz : (n == 0) = false := by simp; omega
  by_cases h0 : 0 ≤ i
  · have hm0 := Int.emod_nonneg i (by omega : n ≠ 0)
    have hm1 := Int.emod_lt_of_pos i h
    go_enter Try.func17, Try.ntmps17
    go_wp2
    go_ret
    exact ⟨rfl, rfl⟩
  · have ht : i.tmod n = -((-i) % n) := by
      have e1 : (-i).tmod n = -(i.tmod n) := Int.neg_tmod i n
      have e2 : (-i).tmod n = (-i) % n := Int.tmod_eq_emod_of_nonneg (by omega)
      omega
    have hm0 := Int.emod_nonneg (-i) (by omega : n ≠ 0)
    have hm1 := Int.emod_lt_of_pos (-i) h
    have hl0 : i.tmod n ≤ 0 := by omega
    have hl1 : -n < i.tmod n := by omega
    have hem := Lib.hid (emod_tmod h hl1 hl0)
    clear hm0 hm1 ht
    by_cases hs : i.tmod n < 0
    · go_enter Try.func17, Try.ntmps17
      go_wp2
      go_ret
      exact ⟨by rw [hem.out, if_pos hs]; rfl, rfl⟩
    · go_enter Try.func17, Try.ntmps17
      go_wp2
      go_ret
      exact ⟨by rw [hem.out, if_neg (by omega)]; rfl, rfl⟩
end Go.Proofs.Ytmdgcimjmmnbjaa

namespace Go.Proofs.Ytmdgcimjmmnbjaa
open Go.RowKit Go.Shelf Go.Sort Go.Maps CrewP
set_option linter.unusedVariables false
set_option linter.unusedSimpArgs false

def dg (b : UInt8) : List UInt8 := b :: 1 :: List.replicate 30 0
theorem dg_len (b : UInt8) : (dg b).length = 32 := rfl
theorem cbs_one1 (l : List UInt8) : (cbs l).toArray.all (·.oneCell') = true := by
  rw [Array.all_eq_true_iff_forall_mem]
  intro v hv
  simp only [List.mem_toArray, cbs, List.mem_map] at hv
  obtain ⟨x, _, rfl⟩ := hv
  rfl
theorem built_digest (b : UInt8) : Try.prog.built 39 [(0, .int .u8 (b.toNat : Int)), (1, .int .u8 1)] = some (cbs (dg b)).toArray := by kernel_rfl
set_option maxRecDepth 100000 in
set_option maxHeartbeats 800000 in
theorem digest_any (b : UInt8) (w : World) : Calls Try.prog 19 #[.int .u8 (b.toNat : Int)] w fun e w' => e = .returned (.agg (cbs (dg b)).toArray) ∧ Below w.heap.size w w' := by
  obtain ⟨w2, hw2, ⟨hth, hi⟩, hb2, hbe, hs2⟩ := row_local w 39 (cbs zero32) (cbs (dg b)) rfl dig_info
  have H := Lib.hid (And.intro hth (And.intro hi (And.intro (cbs_one1 (dg b)) (And.intro hb2 (And.intro hbe (And.intro (built_digest b) hw2))))))
  clear hw2 hth hi hb2 hbe hs2
  generalize cbs (dg b) = D at *
  go_enter Try.func19, Try.ntmps19
  go_wp2_with (first
    | (refine wpList_build_g (by rfl) 39 _ rfl D.toArray H.out.2.2.2.2.2.1 ?_; simp only [Act.put])
    | (refine wpList_store_mid rfl 39 _ _ rfl w.heap.size 0 D.toArray rfl rfl H.out.1 H.out.2.1 H.out.2.2.1 ?_; simp only [Act.put]; refine cast (congrArg (fun z => wpList _ _ _ _ _ z) H.out.2.2.2.2.2.2.symm) ?_))
  refine bodyPost_ret (results_row rfl _ _ w.heap.size 39 D.toArray _ rfl H.out.2.2.2.1 Try.underlying39 rfl H.out.2.1) rfl ?_
  exact ⟨rfl, H.out.2.2.2.2.1⟩

/-! ### Two lists of stands -/
/-- The slice shows these stands. -/
def ShS (w : World) (A : Option Addr) (l : List SdT) : Prop := 0 < l.length → ∃ b o, A = some ⟨b, o, none⟩ ∧ b < w.heap.size ∧ ∀ j u, (sdCs l)[j]? = some u → w.cell? ⟨b, o + j, none⟩ = some u
theorem ShS.below {w w' : World} {A : Option Addr} {l : List SdT} (h : ShS w A l) (hb : Below w.heap.size w w') : ShS w' A l := fun hl => let ⟨b, o, e, h1, h2⟩ := h hl; ⟨b, o, e, Nat.lt_of_lt_of_le h1 hb.size, fun j u hu => (hb.cell (p := ⟨b, o + j, none⟩) h1).trans (h2 j u hu)⟩
theorem ShS.row {w : World} {A : Option Addr} {n c : Nat} {l : List SdT} (h : RowK w 41 34 A n c (sdCs l)) (hl : l.length = n) : ShS w A l := fun hp => by
  obtain ⟨r, e, h1, h2, _⟩ := h.cells (by omega)
  exact ⟨r, 0, e, h1, fun j u hu => by rw [Nat.zero_add]; exact h2 j u hu⟩
theorem ShS.at_ {w : World} {A : Option Addr} {l : List SdT} (h : ShS w A l) {i : Nat} (hi : i < l.length) : ∃ b o, A = some ⟨b, o, none⟩ ∧ w.rangeAt b (o + i * 34) (sdT l[i]) := by
  obtain ⟨b, o, e, _, h2⟩ := h (by omega)
  refine ⟨b, o, e, fun j u hu => ?_⟩
  rw [Nat.add_assoc]
  refine h2 _ u ?_
  have hj : j < 34 := by
    rcases Nat.lt_or_ge j (sdT l[i]).length with h | h
    · rw [sdT_len] at h; exact h
    · rw [List.getElem?_eq_none h] at hu; cases hu
  rw [show sdCs l = l.flatMap sdT from rfl, flatMap_at sdT_len hi hj]
  exact hu
theorem stand_fields : Try.prog.underlying 41 = some (.struct (Try.prog.fieldsOf 41)) := by kernel_rfl
theorem stand_stood : Try.prog.stoodInHeld 41 = false := by kernel_rfl
theorem p_seq (s : Int) (d : List UInt8) (v : Int) (w : World) : (part 3 (sdC ⟨s, d, v⟩).toArray 0).run Try.prog w = .ok (.int .i64 s) w := by
  simp [part, isAgg, run_underlying Try.underlying3, sdC]
theorem p_view (s : Int) (d : List UInt8) (v : Int) (h : d.length = 32) (w : World) : (part 3 (sdC ⟨s, d, v⟩).toArray 33).run Try.prog w = .ok (.int .i64 v) w := by
  have e := (sdC_parts (x := ⟨s, d, v⟩) h).1
  simp only at e
  generalize sdC ⟨s, d, v⟩ = L at *
  simp [part, isAgg, run_underlying Try.underlying3, e]
theorem p_dig (s : Int) (d : List UInt8) (v : Int) (h : d.length = 32) (w : World) : (part 39 (sdC ⟨s, d, v⟩).toArray 1).run Try.prog w = .ok (dgA d) w := by
  have e : List.take 32 (List.drop 1 (sdC ⟨s, d, v⟩)) = cbs d := by
    show List.take 32 (cbs d ++ [Value.int .i64 v]) = cbs d
    rw [List.take_append_of_le_length (by rw [cbs_length]; omega), List.take_of_length_le (by rw [cbs_length]; omega)]
  rw [List.drop_one] at e
  generalize sdC ⟨s, d, v⟩ = L at *
  simp [part, isAgg, run_underlying Try.underlying39, e]
theorem eq_sd (s v s' v' : Int) (d d' : List UInt8) (hd : d.length = 32) (hd' : d'.length = 32) (w : World) : (Op.equalIn 10000 41 (.agg (sdC ⟨s, d, v⟩).toArray) (.agg (sdC ⟨s', d', v'⟩).toArray)).run Try.prog w = .ok (decide ((⟨s, d, v⟩ : Sd) = ⟨s', d', v'⟩)) w := by
  rw [run_equalIn_struct w 9999 41 _ _ stand_fields stand_stood]
  simp only [Program.fieldsOf, Try.underlying41]
  have e1 : ∀ a b : Int, (Op.equalIn 9999 3 (.int .i64 a) (.int .i64 b)).run Try.prog w = .ok (a == b) w := fun a b => run_equalIn_int w 9998 3 .i64 .i64 a b Try.underlying3
  simp only [Op.eqFields, Sem.run_bind, p_seq, p_view s d v hd, p_view s' d' v' hd', p_dig s d v hd, p_dig s' d' v' hd', e1, eq_dig _ _ hd hd', Result.andThen_ok, Sem.run_ite, Sem.run_pure]
  by_cases h1 : s = s' <;> by_cases h2 : d = d' <;> by_cases h3 : v = v' <;> simp [h1, h2, h3]
instance : DecidableEq SdT := inferInstanceAs (DecidableEq { x : Sd // x.d.length = 32 })
theorem eq_stand (x y : SdT) (w : World) : (Op.equalIn 10000 41 (.agg (sdT x).toArray) (.agg (sdT y).toArray)).run Try.prog w = .ok (decide (x = y)) w := by
  have h := eq_sd x.1.seq x.1.v y.1.seq y.1.v x.1.d y.1.d x.2 y.2 w
  have e : decide (x = y) = decide (x.1 = y.1) := decide_eq_decide.2 ⟨fun h => by rw [h], fun h => SdT.ext h⟩
  rw [e]
  exact h
set_option maxRecDepth 100000 in
set_option maxHeartbeats 3200000 in
theorem same_any {w : World} {A A' : Option Addr} {n c n' c' : Nat} {l l' : List SdT} (h : ShS w A l) (h' : ShS w A' l') (hn : l.length = n) (hn' : l'.length = n') (hb : n ≤ 1000) (hb' : n' ≤ 1000) :
    Calls Try.prog 32 #[.slice A n c, .slice A' n' c'] w fun e w' => e = .returned (.bool (decide (l = l'))) ∧ Below w.heap.size w w' := by
  by_cases hne : n = n'
  rotate_left
  · have hd : Hid (decide (l = l') = false) := Lib.hid (by simp only [decide_eq_false_iff_not]; rintro rfl; omega)
    have h1 : (!((n : Int) == (n' : Int))) = true := by simp; omega
    clear h h'
    generalize decide (l = l') = D at *
    obtain rfl := hd.out
    go_enter Try.func32, Try.ntmps32
    go_wp2
    go_ret
    exact ⟨rfl, Below.refl _ _⟩
  subst hne
  obtain ⟨D, hD⟩ : ∃ D, decide (l = l') = D := ⟨_, rfl⟩
  rw [hD]
  have HD := Lib.hid hD
  have H := Lib.hid (And.intro h h')
  have Hn := Lib.hid (And.intro hn hn')
  clear h h' hD hn hn'
  have hnn : ((n : Int) != (n : Int)) = false := by simp
  go_enter Try.func32, Try.ntmps32
  go_wp2
  go_loopw [5] (fun v5 wr => ∃ k : Nat, k ≤ n ∧ v5 = .int .i64 (k : Int) ∧ l.take k = l'.take k ∧ Below w.heap.size w wr) (fun v _ => n - (intOf v).toNat)
  case atStart => exact ⟨0, Nat.zero_le _, rfl, by simp, Below.refl _ _⟩
  case round =>
    obtain ⟨k, hk, rfl, ht, hbel⟩ := hrel
    have hi0 : (0 : Int) ≤ k := by omega
    by_cases hlt : k < n
    · have hlt' : (k : Int) < n := by omega
      have hl1 : k < l.length := by have := Hn.out.1; omega
      have hl2 : k < l'.length := by have := Hn.out.2; omega
      obtain ⟨W, hW⟩ : ∃ W, wr.drew = W := ⟨_, rfl⟩
      have bW : Below w.heap.size w W := by rw [← hW]; exact hbel.drew
      obtain ⟨b1, o1, rfl, hr1⟩ := (H.out.1.below bW).at_ hl1
      obtain ⟨b2, o2, rfl, hr2⟩ := (H.out.2.below bW).at_ hl2
      have hn1 : (Try.prog.info? 41).map (·.size) = some (sdT l[k]).length := by rw [sdT_len]; exact stand_info1
      have hn2 : (Try.prog.info? 41).map (·.size) = some (sdT l'[k]).length := by rw [sdT_len]; exact stand_info1
      have heq := fun w => eq_stand l[k] l'[k] w
      obtain ⟨B, hB⟩ : ∃ B, decide (l[k] = l'[k]) = B := ⟨_, rfl⟩
      rw [hB] at heq
      have hnext : Hid (B = true → l.take (k + 1) = l'.take (k + 1)) := Lib.hid fun hb => by
        rw [hb] at hB
        rw [List.take_succ_eq_append_getElem hl1, List.take_succ_eq_append_getElem hl2, ht, of_decide_eq_true hB]
      have hstop : Hid (B = false → D = false) := Lib.hid fun hb => by
        rw [hb] at hB
        rw [← HD.out]
        have := of_decide_eq_false hB
        simp only [decide_eq_false_iff_not]
        rintro rfl
        exact this rfl
      have HL := Lib.hid (And.intro hr1 (And.intro hn1 (And.intro hr2 hn2)))
      have HW := Lib.hid (And.intro hW bW)
      clear hr1 hn1 hr2 hn2 hW bW hB ht hbel
      generalize hX : sdT l[k] = X at *
      generalize hY : sdT l'[k] = Y at *
      go_wp2
      refine wp_region_held_drew (S := fun V => V = W) (by kernel_rfl) HW.out.1 (fun _ => ?_)
      rw [HW.out.1]
      refine anyH_take (i := 0) (d := 17) (v := ?a0) rfl rfl (by kernel_rfl) (by kernel_rfl) (by kernel_rfl) (fun _ _ _ h => h) (Or.inl ⟨by rfl, ?ay0⟩) rfl ?ar0
      case ay0 => (intro w; go_simp; try with_reducible rfl)
      simp only [List.setIfInBounds_toArray, List.set_cons_zero, List.set_cons_succ]
      refine anyH_take (i := 1) (d := 18) (v := ?a1) rfl rfl (by kernel_rfl) (by kernel_rfl) (by kernel_rfl) (fun _ _ _ h => h) (Or.inl ⟨by rfl, ?ay1⟩) rfl ?ar1
      case ay1 => (intro w; go_simp; try with_reducible rfl)
      simp only [List.setIfInBounds_toArray, List.set_cons_zero, List.set_cons_succ]
      refine anyH_take (i := 2) (d := 19) (v := ?a2) rfl rfl (by kernel_rfl) (by kernel_rfl) (by kernel_rfl) (fun _ _ _ h => h) (Or.inl ⟨by rfl, ?ay2⟩) rfl ?ar2
      case ay2 => (intro w; go_simp; try with_reducible rfl)
      simp only [List.setIfInBounds_toArray, List.set_cons_zero, List.set_cons_succ]
      refine anyH_load (i := 3) (d := 20) rfl rfl (by kernel_rfl) (by kernel_rfl) (by kernel_rfl) (by rfl) 41 _ rfl b1 (o1 + k * 34) rfl X _ (fun W hSW => by obtain rfl := hSW; exact HL.out.1) Try.underlying41 rfl HL.out.2.1 (fun _ _ _ h => h) rfl ?_
      simp only [List.setIfInBounds_toArray, List.set_cons_zero, List.set_cons_succ]
      refine anyH_take (i := 4) (d := 21) (v := ?a4) rfl rfl (by kernel_rfl) (by kernel_rfl) (by kernel_rfl) (fun _ _ _ h => h) (Or.inl ⟨by rfl, ?ay4⟩) rfl ?ar4
      case ay4 => (intro w; go_simp; try with_reducible rfl)
      simp only [List.setIfInBounds_toArray, List.set_cons_zero, List.set_cons_succ]
      refine anyH_take (i := 5) (d := 22) (v := ?a5) rfl rfl (by kernel_rfl) (by kernel_rfl) (by kernel_rfl) (fun _ _ _ h => h) (Or.inl ⟨by rfl, ?ay5⟩) rfl ?ar5
      case ay5 => (intro w; go_simp; try with_reducible rfl)
      simp only [List.setIfInBounds_toArray, List.set_cons_zero, List.set_cons_succ]
      refine anyH_take (i := 6) (d := 23) (v := ?a6) rfl rfl (by kernel_rfl) (by kernel_rfl) (by kernel_rfl) (fun _ _ _ h => h) (Or.inl ⟨by rfl, ?ay6⟩) rfl ?ar6
      case ay6 => (intro w; go_simp; try with_reducible rfl)
      simp only [List.setIfInBounds_toArray, List.set_cons_zero, List.set_cons_succ]
      refine anyH_load (i := 7) (d := 24) rfl rfl (by kernel_rfl) (by kernel_rfl) (by kernel_rfl) (by rfl) 41 _ rfl b2 (o2 + k * 34) rfl Y _ (fun W hSW => by obtain rfl := hSW; exact HL.out.2.2.1) Try.underlying41 rfl HL.out.2.2.2 (fun _ _ _ h => h) rfl ?_
      simp only [List.setIfInBounds_toArray, List.set_cons_zero, List.set_cons_succ]
      refine anyH_take (i := 8) (d := 25) (v := ?a8) rfl rfl (by kernel_rfl) (by kernel_rfl) (by kernel_rfl) (fun _ _ _ h => h) (Or.inl ⟨by rfl, ?ay8⟩) rfl ?ar8
      case ay8 => (intro w; have hq0 := heq w; go_simp; try with_reducible rfl)
      simp only [List.setIfInBounds_toArray, List.set_cons_zero, List.set_cons_succ]
      refine wpAnyH_done (by kernel_rfl) ?_ _
      cases B with
      | true =>
        go_wp2
        go_roundw
        case rel => exact ⟨k + 1, by omega, by go_num, hnext.out (by first | rfl | trivial), HW.out.2⟩
        case measure => simp [intOf]; omega
      | false =>
        obtain rfl : D = false := hstop.out (by first | rfl | trivial)
        go_wp2
        go_ret
        exact ⟨rfl, HW.out.2⟩
    · have hge : ¬ (k : Int) < n := by omega
      have hfin : Hid (D = true) := Lib.hid (by
        rw [← HD.out, decide_eq_true_eq]
        rw [List.take_of_length_le (by have := Hn.out.1; omega), List.take_of_length_le (by have := Hn.out.2; omega)] at ht
        exact ht)
      have Hb := Lib.hid hbel
      obtain rfl := hfin.out
      clear ht hbel
      go_wp2
      go_ret
      exact ⟨rfl, Hb.out⟩
theorem stands_any {w : World} {A A' : Option Addr} {n c n' c' : Nat} {l l' : List SdT} (h : ShS w A l) (h' : ShS w A' l') (hn : l.length = n) (hn' : l'.length = n') (hb : n ≤ 1000) (hb' : n' ≤ 1000) :
    Calls Try.prog 13 #[.slice A n c, .slice A' n' c'] w fun e w' => e = .returned (.bool (decide (l = l'))) ∧ Below w.heap.size w w' := by
  have HS := Lib.hid (same_any (c := c) (c' := c') h h' hn hn' hb hb')
  clear h h' hn hn'
  generalize decide (l = l') = D at *
  go_enter Try.func13, Try.ntmps13
  go_wp2_with (go_at_call 32; refine HS.out.mono ?_; rintro e w1 ⟨rfl, hb1⟩; replace hb1 := Lib.hid hb1)
  go_ret
  exact ⟨rfl, hb1.out⟩
end Go.Proofs.Ytmdgcimjmmnbjaa

namespace Go.Proofs.Ytmdgcimjmmnbjaa
open Go.RowKit Go.Shelf Go.Sort Go.Maps CrewP
set_option linter.unusedVariables false
set_option linter.unusedSimpArgs false

def ndL (j : Nat) : List Int := (List.range j).map fun (k : Nat) => (k : Int) + 1
theorem ndL_len (j : Nat) : (ndL j).length = j := by simp [ndL]
theorem ndL_succ (j : Nat) : ndL (j + 1) = ndL j ++ [(j : Int) + 1] := by simp [ndL, List.range_succ]
theorem row_arg {w : World} {A : Option Addr} {n cap : Nat} {l : List Int} (h : RowK w 3 1 A n cap (cis l)) (hl : l.length = n) (hw : ∀ x ∈ l, Wf x) : ArgI w A n cap l := by
  refine ⟨hl, h.2.1, h.2.2.1, ⟨by rw [cis_length, Nat.mul_one], fun hn => ?_⟩, hw⟩
  obtain ⟨r, e, h1, h2, _⟩ := h.cells (by omega)
  exact ⟨r, 0, e, h1, fun j u hu => by rw [Nat.zero_add]; exact h2 j u hu⟩
theorem row_int1 (x : Int) (w : World) : (Instr.buildSlice 51 1 #[(0, .int .i64 x)]).run Try.prog w = .ok (.slice (some ⟨w.heap.size, 0, none⟩) 1 1) (w.alloc (.cells (cis [x]).toArray 3)) := by kernel_rfl
theorem crew_built (F : Int) : Try.prog.built 53 [(0, .int .i64 F)] = some #[.int .i64 F, .slice none 0 0] := by kernel_rfl
theorem crew_info : (Try.prog.info? 53).map (·.size) = some 2 := by kernel_rfl
theorem app_int1 {w : World} {A : Option Addr} {n cap : Nat} {l : List Int} (h : RowK w 3 1 A n cap (cis l)) (x : Int) (hn : n ≤ 1000) (hw : World) (hw2 : w.alloc (.cells (cis [x]).toArray 3) = hw) :
    ∃ A' cap' w', (Builtin.append_ #[51, 51] 51 #[.slice A n cap, .slice (some ⟨w.heap.size, 0, none⟩) 1 1]).run Try.prog hw = .ok (.slice A' (n + 1) cap') w' ∧ RowK w' 3 1 A' (n + 1) cap' (cis (l ++ [x])) ∧ Out (blkOf A) w w' ∧ (∀ b, blkOf A' b → blkOf A b ∨ w.heap.size ≤ b) := by
  subst hw2
  obtain ⟨i0, hi, hz0, hz1, hz2⟩ := info_parts i64_info
  have hb : Below w.heap.size w (w.alloc (.cells (cis [x]).toArray 3)) := (Below.refl _ _).alloc (Nat.le_refl _) _
  have hB : Blk (w.alloc (.cells (cis [x]).toArray 3)) w.heap.size 3 (cis [x]) := Blk.new rfl rfl
  obtain ⟨A', cap', w', r1, r2, r3, r4, _⟩ := run_append_rowK 51 51 3 i0 _ 1 8 Try.underlying51 hi hz0 hz1 hz2 rfl (h.below hb h.lt) ⟨w.heap.size, 0, none⟩ 1 1 (cis [x]) rfl (fun j u hu => by rw [add_mk, Nat.zero_add]; exact hB.cell hu) (cis_one [x]) (by unfold maxLen; omega) (by omega)
  refine ⟨A', cap', w', r1, ?_, (Out.ofBelow _ hb).trans r3 fun _ _ e => e, fun b hb' => (r4 b hb').imp_right fun e => by rw [e]; simp⟩
  have e : cis (l ++ [x]) = cis l ++ cis [x] := by simp [cis]
  rw [e]
  exact r2
set_option maxRecDepth 100000 in
set_option maxHeartbeats 1600000 in
theorem crewOf_any (F : Nat) (hF : F ≤ 2) (w : World) : Calls Try.prog 23 #[.int .i64 (F : Int)] w fun e w' => ∃ A cap, e = .returned (.agg #[.int .i64 (F : Int), .slice A (3 * F + 1) cap]) ∧ RowK w' 3 1 A (3 * F + 1) cap (cis (ndL (3 * F + 1))) ∧ Below w.heap.size w w' := by
  have hw1 : IntKind.i64.wrap (3 * (F : Int)) = 3 * (F : Int) := IntWalk.i64_in _ (by omega)
  have hw2 : IntKind.i64.wrap (3 * (F : Int) + 1) = 3 * (F : Int) + 1 := IntWalk.i64_in _ (by omega)
  have hB0 : Blk ((w.alloc (.cells #[.int .i64 0, .slice none 0 0] 53)).alloc (.cells #[.int .i64 (F : Int), .slice none 0 0] 53)) w.heap.size 53 [.int .i64 0, .slice none 0 0] := Blk.old (Blk.new rfl rfl) _
  have hB1 : Blk ((w.alloc (.cells #[.int .i64 0, .slice none 0 0] 53)).alloc (.cells #[.int .i64 (F : Int), .slice none 0 0] 53)) (w.heap.size + 1) 53 [.int .i64 (F : Int), .slice none 0 0] := Blk.new rfl (by simp)
  have hbel : Below w.heap.size w ((w.alloc (.cells #[.int .i64 0, .slice none 0 0] 53)).alloc (.cells #[.int .i64 (F : Int), .slice none 0 0] 53)) := ((Below.refl _ _).alloc (Nat.le_refl _) _).alloc (by simp) _
  have H := Lib.hid (And.intro hB0 (And.intro hB1 hbel))
  clear hB0 hB1 hbel
  have hcb := crew_built (F : Int)
  go_enter Try.func23, Try.ntmps23
  go_wp2_with (refine wpList_build_g rfl 53 _ rfl _ hcb ?_; simp only [Act.put])
  go_loopw [4] (fun v4 wr => ∃ (j : Nat) (A : Option Addr) (cap : Nat), j ≤ 3 * F + 1 ∧ v4 = .int .i64 ((j : Int) + 1) ∧ Blk wr w.heap.size 53 [.int .i64 0, .slice none 0 0] ∧ Blk wr (w.heap.size + 1) 53 [.int .i64 (F : Int), .slice A j cap] ∧ RowK wr 3 1 A j cap (cis (ndL j)) ∧ Below w.heap.size w wr ∧ ∀ b, blkOf A b → w.heap.size + 1 < b)
    (fun v _ => 10 - (intOf v).toNat)
  case atStart => exact ⟨0, none, 0, by omega, rfl, H.out.1, H.out.2.1, RowK.nil _ _ _, H.out.2.2, fun b ⟨a, ha, _⟩ => by cases ha⟩
  case round =>
    obtain ⟨j, A, cap, hj, rfl, hB0, hB1, hrow, hbel, hA⟩ := hrel
    by_cases hlt : j < 3 * F + 1
    · have h1 : (j : Int) + 1 ≤ 3 * (F : Int) + 1 := by omega
      have c1 := hB1.cell (i := 1) rfl
      obtain ⟨w2, hw2'⟩ : ∃ w2, wr.alloc (.cells (cis [(j : Int) + 1]).toArray 3) = w2 := ⟨_, rfl⟩
      obtain ⟨A', cap', w3, hrun, hrow3, hO3, hA3⟩ := app_int1 hrow ((j : Int) + 1) (by omega) w2 hw2'
      have hr1 := row_int1 ((j : Int) + 1) wr
      rw [hw2'] at hr1
      have hBn0 := hO3.blk hB0 (fun e => by have := hA _ e; omega)
      have hBn1 := hO3.blk hB1 (fun e => by have := hA _ e; omega)
      have hz := hO3.size
      have hbel3 := hbel.trans (hO3.above (fun i hi => by have := hA i hi; omega) hbel.size)
      have hl1 := hB1.lt
      have f1 := hBn1.free 1
      have k1 : (w3.cell? ⟨w.heap.size + 1, 1, none⟩) = some (.slice A j cap) := hBn1.cell rfl
      have hst : Out (fun b => b = w.heap.size + 1) w3 (w3.setCell ⟨w.heap.size + 1, 1, none⟩ (.slice A' (j + 1) cap')) := (Out.refl (fun b => b = w.heap.size + 1) w3).setCell (p := ⟨w.heap.size + 1, 1, none⟩) (fun _ => rfl) _
      have hB0' := hst.blk hBn0 (by omega)
      have hB1' := hBn1.set_ 1 (.slice A' (j + 1) cap')
      have hA' : ∀ b, blkOf A' b → w.heap.size + 1 < b := fun b hb => by
        rcases hA3 b hb with e | e
        · exact hA b e
        · omega
      have hrow' := hrow3.out hst (fun b hb e => by have := hA' b hb; omega)
      have hbel' := hbel3.trans (hst.above (B := w.heap.size) (fun i hi => by omega) hbel3.size)
      have HE := Lib.hid (And.intro hrun (And.intro hr1 (And.intro hB0' (And.intro hB1' (And.intro hrow' (And.intro hbel' hA'))))))
      clear hrun hr1 hBn0 hBn1 hz hbel3 hl1 hst hB0' hB1' hA' hrow' hbel' hrow3 hO3 hA3 hB0 hB1 hrow hbel hA hw2'
      have hwj : IntKind.i64.wrap ((j : Int) + 1 + 1) = (j : Int) + 1 + 1 := IntWalk.i64_in _ (by omega)
      go_wp2_with (first
        | (refine row_g rfl 51 1 _ rfl (.slice (some ⟨wr.heap.size, 0, none⟩) 1 1) w2 (by simp only [List.map_toArray, List.map_cons, List.map_nil]; exact HE.out.2.1) ?_; simp only [Act.put])
        | (refine app_g rfl _ _ _ _ rfl _ _ _ w3 rfl rfl HE.out.1 ?_; simp only [Act.put]))
      go_roundw
      case rel => exact ⟨j + 1, A', cap', by omega, by first | rfl | (push_cast; rfl) | (congr 1; omega), HE.out.2.2.1, HE.out.2.2.2.1, by rw [ndL_succ]; exact HE.out.2.2.2.2.1, HE.out.2.2.2.2.2.1, HE.out.2.2.2.2.2.2⟩
      case measure => simp [intOf]; omega
    · have hj' : j = 3 * F + 1 := by omega
      subst hj'
      have h1 : ¬ ((3 * F + 1 : Nat) : Int) + 1 ≤ 3 * (F : Int) + 1 := by omega
      have c0 := hB1.cell (i := 0) rfl
      have c1 := hB1.cell (i := 1) rfl
      have d0 := hB0.cell (i := 0) rfl
      have d1 := hB0.cell (i := 1) rfl
      have f0 := hB0.free 0
      have f1 := hB0.free 1
      have hS := (hB0.set_ 0 (.int .i64 (F : Int))).set_ 1 (.slice A (3 * F + 1) cap)
      have hst : Out (fun b => b = w.heap.size) wr ((wr.setCell ⟨w.heap.size, 0, none⟩ (.int .i64 (F : Int))).setCell ⟨w.heap.size, 1, none⟩ (.slice A (3 * F + 1) cap)) := ((Out.refl (fun b => b = w.heap.size) wr).setCell (p := ⟨w.heap.size, 0, none⟩) (fun _ => rfl) _).setCell (p := ⟨w.heap.size, 1, none⟩) (fun _ => rfl) _
      have hrow' := hrow.out hst (fun b hb e => by have := hA b hb; omega)
      have hbel' := hbel.trans (hst.above (B := w.heap.size) (fun i hi => by omega) hbel.size)
      have HE := Lib.hid (And.intro hS (And.intro hrow' hbel'))
      clear hS hst hrow' hbel' hB0 hB1 hrow hbel hA
      generalize hN : 3 * F + 1 = N at *
      go_wp2
      refine bodyPost_ret (results_row rfl _ _ w.heap.size 53 #[.int .i64 (F : Int), .slice A N cap] _ rfl HE.out.1 Try.underlying53 rfl crew_info) rfl ?_
      exact ⟨A, cap, rfl, HE.out.2.1, HE.out.2.2⟩
theorem newE_fresh {F : Nat} (h1 : 1 ≤ F) (h2 : F ≤ 2) {self : Nat} (hs1 : 1 ≤ self) (hs2 : self ≤ 3 * F + 1) : newE (F : Int) (ndL (3 * F + 1)) (self : Int) 0 = 0 := by
  have : ∀ F : Nat, F < 3 → 1 ≤ F → ∀ s : Nat, s < 8 → 1 ≤ s → s ≤ 3 * F + 1 → newE (F : Int) (ndL (3 * F + 1)) (s : Int) 0 = 0 := by decide +kernel
  exact this F (by omega) h1 self (by omega) hs1 hs2
/-- New slots of a crew. -/
def fr (F : Nat) : St := fresh0 (F : Int) (ndL (3 * F + 1)) 0
set_option maxRecDepth 100000 in
theorem fresh_any (F : Nat) (h1 : 1 ≤ F) (h2 : F ≤ 2) (self : Nat) (hs1 : 1 ≤ self) (hs2 : self ≤ 3 * F + 1) (w : World) : Calls Try.prog 8 #[.int .i64 (F : Int), .int .i64 (self : Int)] w fun e w' => ∃ g, e = .returned (.pointer (some ⟨g, 0, none⟩)) ∧ StAt w' (fun b => w.heap.size ≤ b ∧ b < w'.heap.size) g (fr F) ∧ Below w.heap.size w w' := by
  unfold fr
  have Hc := Lib.hid (crewOf_any F h2 w)
  have hE := newE_fresh h1 h2 hs1 hs2
  have hwf : ∀ x ∈ ndL (3 * F + 1), Wf x := fun x hx => by
    unfold ndL at hx
    obtain ⟨k, hk, rfl⟩ := List.mem_map.1 hx
    have : k < 3 * F + 1 := by simpa using hk
    exact wf_b (by omega) (by omega)
  have HN := Lib.hid (fun (W : World) (A : Option Addr) (cap : Nat) (hR : RowK W 3 1 A (3 * F + 1) cap (cis (ndL (3 * F + 1)))) => new_any (f := (F : Int)) (row_arg hR (ndL_len _) hwf) (self : Int) 0 (wf_b (by omega) (by omega)))
  rw [hE] at HN
  clear hE hwf
  generalize 3 * F + 1 = N at *
  go_enter Try.func8, Try.ntmps8
  go_wp2_with fail
  refine Hc.out.mono ?_
  rintro e w1 ⟨A, cap, rfl, hR, hb1⟩
  have H1 := Lib.hid (And.intro (HN.out w1 A cap hR) hb1)
  clear hR hb1
  go_wp2_with fail
  refine H1.out.1.mono ?_
  rintro e w2 ⟨hb2, h | ⟨_, g, rfl, hst⟩⟩
  · exact absurd rfl h.1
  · have H2 := Lib.hid (And.intro hb2 hst)
    clear hb2 hst
    go_wp2
    go_ret
    have hz1 := H1.out.2.size
    exact ⟨g, rfl, H2.out.2.wide (U' := fun b => w.heap.size ≤ b ∧ b < w2.heap.size) (fun i hi => ⟨by omega, hi.2⟩) fun i hi => hi.2, H1.out.2.trans (H2.out.1.mono hz1)⟩
end Go.Proofs.Ytmdgcimjmmnbjaa

namespace Go.Proofs.Ytmdgcimjmmnbjaa
open Go.RowKit Go.Shelf Go.Sort Go.Maps CrewP
set_option linter.unusedVariables false
set_option linter.unusedSimpArgs false

theorem built_stand0 : Try.prog.built 41 [] = some (sdC sd0).toArray := by kernel_rfl
/-- What At answers. -/
def atV (o : Option Sd) : Value := .tuple #[.agg (sdC (o.getD sd0)).toArray, .bool o.isSome]
section
variable {w : World} {U : Nat → Prop} {g : Nat} {σ : St} {ab cap m : Nat} {sb qb rb cb : Nat → Nat} {role : Nat → Nat}
set_option maxRecDepth 100000 in
set_option maxHeartbeats 3200000 in
theorem at_in (h : StIn w U g σ all8 ab cap m sb qb rb cb role) {seq : Int} (hs : Wf seq) : Calls Try.prog 18 #[.pointer (some ⟨g, 0, none⟩), .int .i64 seq] w fun e w' => e = .returned (atV (atS σ seq)) ∧ Below w.heap.size w w' := by
  have hal : ∀ o : Obj, Below w.heap.size w (w.alloc o) := fun o => (Below.refl _ _).alloc (Nat.le_refl _) _
  have Ho := Lib.hid (fun o : Obj => of_in (h.below (hal o)) hs)
  have hz34 : (sdC sd0).length = 34 := rfl
  obtain ⟨w2, hw2, ⟨hth, hi⟩, hb2, hbe, hs2⟩ := row_local w 41 (sdC sd0) (sdC sd0) rfl (by rw [hz34]; exact stand_info1)
  have H2 := Lib.hid (And.intro hth (And.intro hi (And.intro hw2 (And.intro hb2 (And.intro hbe (sdC_one sd0))))))
  clear hth hi hw2 hb2 hbe hs2
  cases hix : idx σ seq with
  | none =>
    have hA : atS σ seq = none := by unfold atS; rw [hix]; rfl
    rw [hA]
    rw [hix] at Ho
    simp only [Option.map_none] at Ho
    have Hb := Lib.hid built_stand0
    have hv : Hid (atV none = .tuple #[.agg (sdC sd0).toArray, .bool false]) := Lib.hid rfl
    clear h hix hA hal hz34
    generalize atV none = V at *
    generalize hS : sdC sd0 = S at *
    go_enter Try.func18, Try.ntmps18
    subst hS
    go_wp2_with (first
      | (go_at_call 28; refine (Ho.out _).mono ?_; rintro e w' ⟨rfl, rfl⟩)
      | (refine wpList_build_g rfl 41 _ rfl (sdC sd0).toArray Hb.out ?_; simp only [Act.put])
      | (refine wpList_store_mid rfl 41 _ _ rfl w.heap.size 0 (sdC sd0).toArray rfl rfl H2.out.1 H2.out.2.1 H2.out.2.2.2.2.2 ?_; simp only [Act.put]; refine cast (congrArg (fun z => wpList _ _ _ _ _ z) H2.out.2.2.1.symm) ?_))
    refine bodyPost_ret (results_row_tmp rfl _ _ w.heap.size 41 (sdC sd0).toArray (.bool false) _ rfl rfl H2.out.2.2.2.1 Try.underlying41 rfl H2.out.2.1) rfl ?_
    exact ⟨by rw [hv.out], H2.out.2.2.2.2.1⟩
  | some i =>
    rw [hix] at Ho
    simp only [Option.map_some] at Ho
    have hi8 := (idx_lt hix).1
    have hs0 := h.s i hi8 rfl
    have hok := h.ok.s i hi8
    obtain ⟨hC, _, _, _, _, _⟩ := sq_cells hok.last hok.p (.map (some (qb i))) (.map (some (rb i))) (.map (some (cb i)))
    have hiC := say_infoL hok.last
    have heq := fun w => eq_say hok.last (show okO none by simp [okO]) w
    have hrg : ∀ o : Obj, (w.alloc o).rangeAt (sb i) 0 (sy (σ.s i).last) := fun o => (hs0.blk.below (hal o) hs0.blk.lt).rangeFrom hC
    cases hl : (σ.s i).last with
    | none =>
      have hA : atS σ seq = none := by unfold atS; rw [hix]; simp [hl]
      rw [hA]
      have hv : Hid (atV none = .tuple #[.agg (sdC sd0).toArray, .bool false]) := Lib.hid rfl
      rw [hl] at hrg hiC heq
      have HS := Lib.hid (And.intro hrg (And.intro hiC (And.intro say_built0 built_stand0)))
      have heq' : ∀ w, (Op.equalIn 10000 64 (.agg (sy none).toArray) (.agg (sy none).toArray)).run Try.prog w = .ok true w := fun w => by have := heq w; simpa using this
      clear h hix hA hal hz34 hi8 hs0 hok hC hiC heq hrg hl
      generalize sb i = s at *
      generalize hZ : sy none = Z at *
      generalize atV none = V at *
      go_enter Try.func18, Try.ntmps18
      go_wp2_with (first
        | (go_at_call 28; refine (Ho.out _).mono ?_; rintro e w' ⟨rfl, rfl⟩)
        | (refine load_mid_g rfl 64 _ rfl s 0 rfl Z _ (HS.out.1 _) Try.underlying64 rfl HS.out.2.1 ?_; simp only [Act.put])
        | (refine wpList_build_g rfl 64 _ rfl Z.toArray HS.out.2.2.1 ?_; simp only [Act.put])
        | (refine wpList_build_g rfl 41 _ rfl (sdC sd0).toArray HS.out.2.2.2 ?_; simp only [Act.put])
        | (refine wpList_store_mid rfl 41 _ _ rfl w.heap.size 0 (sdC sd0).toArray rfl rfl H2.out.1 H2.out.2.1 H2.out.2.2.2.2.2 ?_; simp only [Act.put]; refine cast (congrArg (fun z => wpList _ _ _ _ _ z) H2.out.2.2.1.symm) ?_))
      refine bodyPost_ret (results_row_tmp rfl _ _ w.heap.size 41 (sdC sd0).toArray (.bool false) _ rfl rfl H2.out.2.2.2.1 Try.underlying41 rfl H2.out.2.1) rfl ?_
      exact ⟨by rw [hv.out], H2.out.2.2.2.2.1⟩
    | some x =>
      have hx := hok.last x hl
      have hox : okO (some x) := fun y hy => by injection hy with hy; rw [← hy]; exact hx
      have hsq := (idx_lt hix).2
      have hA : atS σ seq = some ⟨seq, x.d, x.v⟩ := by unfold atS; rw [hix]; simp [hl, sdOf, hsq]
      rw [hA]
      have hv : Hid (atV (some ⟨seq, x.d, x.v⟩) = .tuple #[.agg (sdC ⟨seq, x.d, x.v⟩).toArray, .bool true]) := Lib.hid rfl
      rw [hl] at hrg hiC heq
      have Hst := Lib.hid (fun W => stand_any hx.2.2 hox seq W)
      have heq' : ∀ w, (Op.equalIn 10000 64 (.agg (sy (some x)).toArray) (.agg (sy none).toArray)).run Try.prog w = .ok false w := fun w => by have := heq w; simpa using this
      have HS := Lib.hid (And.intro hrg (And.intro hiC (And.intro say_built0 (And.intro hal (And.intro hx.2.2 (sdC_one ⟨seq, x.d, x.v⟩))))))
      have hZB : ∀ o : Obj, (w.alloc o).heap.size = w.heap.size + 1 := fun o => by simp
      have HZ : Hid (Blk (w.alloc (.cells (sdC sd0).toArray 41)) w.heap.size 41 (sdC sd0)) := Lib.hid (Blk.new rfl rfl)
      clear h hix hA hal hz34 hi8 hs0 hok hC hiC heq hrg hl hx hox hsq hZB
      generalize sb i = s at *
      generalize hZ : sy none = Z at *
      generalize hC : sy (some x) = C at *
      generalize atV (some ⟨seq, x.d, x.v⟩) = V at *
      go_enter Try.func18, Try.ntmps18
      go_wp2_with (first
        | (go_at_call 28; refine (Ho.out _).mono ?_; rintro e w' ⟨rfl, rfl⟩)
        | (refine load_mid_g rfl 64 _ rfl s 0 rfl C _ (HS.out.1 _) Try.underlying64 rfl HS.out.2.1 ?_; simp only [Act.put])
        | (refine wpList_build_g rfl 64 _ rfl Z.toArray HS.out.2.2.1 ?_; simp only [Act.put]))
      refine (Hst.out _).mono ?_
      rintro e w3 ⟨rfl, hb3⟩
      have B3 : Blk w3 w.heap.size 41 (sdC sd0) := HZ.out.below hb3 HZ.out.lt
      have b3 : Below w.heap.size w w3 := (HS.out.2.2.2.1 _).trans (hb3.mono (HS.out.2.2.2.1 _).size)
      have hl34 : (sdC ⟨seq, x.d, x.v⟩).length = (sdC sd0).length := by rw [sdC_len HS.out.2.2.2.2.1]; rfl
      have hth : w3.there w.heap.size 0 (sdC ⟨seq, x.d, x.v⟩).toArray.size := B3.thereAt (by rw [List.size_toArray, hl34]; omega)
      have hset := Blk.setAll B3 hl34
      have hin : (Try.prog.info? 41).map (·.size) = some (sdC ⟨seq, x.d, x.v⟩).toArray.size := by rw [List.size_toArray, hl34]; exact stand_info1
      have H3 := Lib.hid (And.intro hth (And.intro hset (And.intro hin (Below.setCells (Nat.le_refl _) (sdC ⟨seq, x.d, x.v⟩) b3 (o := 0)))))
      clear hb3 B3 b3 hl34 hth hset hin
      go_wp2_with (refine wpList_store_mid rfl 41 _ _ rfl w.heap.size 0 (sdC ⟨seq, x.d, x.v⟩).toArray rfl rfl H3.out.1 H3.out.2.2.1 HS.out.2.2.2.2.2 ?_; simp only [Act.put])
      refine bodyPost_ret (results_row_tmp rfl _ _ w.heap.size 41 (sdC ⟨seq, x.d, x.v⟩).toArray (.bool true) _ rfl rfl H3.out.2.1 Try.underlying41 rfl H3.out.2.2.1) rfl ?_
      exact ⟨by rw [hv.out], H3.out.2.2.2⟩
end
end Go.Proofs.Ytmdgcimjmmnbjaa
