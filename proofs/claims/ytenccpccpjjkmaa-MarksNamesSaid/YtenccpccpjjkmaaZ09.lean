/-
  Laid together for a hand-in: Gr15, Df15.
-/
import Derived.Test.YtenccpccpjjkmaaZ08
import Derived.Test.YtenccpccpjjkmaaZ06

namespace Go.Proofs.Ytenccpccpjjkmaa
open Go.RowKit Go.Shelf Go.Sort Go.Maps CrewP
set_option linter.unusedVariables false
set_option linter.unusedSimpArgs false

theorem app_mk {w : World} {A A2 : Option Addr} {n cap c : Nat} {l : List Mk} {x : Mk} (h : RowK w 28 33 A n cap (mks l)) (hl : l.length = n) (ad : Addr) (hA2 : A2 = some ad) (h2 : ∀ j u, (mkC x)[j]? = some u → w.cell? (ad.add j) = some u) (hn : n ≤ 100000) (ty : TypeId) :
    ∃ A' cap' w', (Builtin.append_ #[54, 54] ty #[.slice A n cap, .slice A2 1 c]).run Try.prog w = .ok (.slice A' (n + 1) cap') w' ∧ RowK w' 28 33 A' (n + 1) cap' (mks (l ++ [x])) ∧ Out (blkOf A) w w' ∧ (∀ b, blkOf A' b → blkOf A b ∨ b = w.heap.size) := by
  subst hA2
  obtain ⟨i0, hi, hz0, hz1, hz2⟩ := info_parts mark_info
  obtain ⟨A', cap', w', r1, r2, r3, r4, _⟩ := run_append_rowK 54 ty 28 i0 _ 33 40 Try.underlying54 hi hz0 hz1 hz2 rfl h ad 1 c (mkC x) (by rw [mkC_len]) h2 (mkC_one x) (by unfold maxLen; omega) (by omega)
  exact ⟨A', cap', w', r1, by rw [mks_append, mks_single]; exact r2, r3, r4⟩
/-- The marks that were counted often enough. -/
def often (V : List (Mk × Int)) (many : Int) : List Mk := (V.filter fun p => decide (many ≤ p.2)).map Prod.fst
theorem often_perm {V W : List (Mk × Int)} (h : V.Perm W) (many : Int) : (often V many).Perm (often W many) := (h.filter _).map _
theorem often_cons (x : Mk) (c many : Int) (V : List (Mk × Int)) : often ((x, c) :: V) many = if many ≤ c then x :: often V many else often V many := by
  unfold often
  by_cases h : many ≤ c <;> simp [h]
theorem often_len (V : List (Mk × Int)) (many : Int) : (often V many).length ≤ V.length := by
  unfold often
  rw [List.length_map]
  exact List.length_filter_le _ _
theorem often_great {m : Ms} {V : List (Mk × Int)} (hI : VsI m V []) (hd : (V.map Prod.fst).Nodup) {many : Int} (hm : 1 ≤ many) {l : List Mk} (hl : l.Perm (often V many)) : greatS m many = best l := by
  refine great_of hm fun x => ?_
  rw [hl.mem_iff]
  have hc := hI.cnt x
  simp only [List.count_nil] at hc
  unfold often
  rw [List.mem_map]
  constructor
  · rintro ⟨⟨y, c⟩, hy, rfl⟩
    obtain ⟨h1, h2⟩ := List.mem_filter.1 hy
    have h3 : tal V y = c := by unfold tal; rw [lk_mem hd h1]; rfl
    simp at h2
    show many ≤ (cnt m y : Int)
    have hc' : tal V y + 0 = (cnt m y : Int) := by simpa using hc
    omega
  · intro h
    have h3 : many ≤ tal V x := by omega
    unfold tal at h3
    cases e : lk V x with
    | none => rw [e] at h3; simp at h3; omega
    | some c =>
      rw [e] at h3
      exact ⟨(x, c), List.mem_filter.2 ⟨lk_some e, by simpa using h3⟩, rfl⟩
/-- How the loop over the counts stands. -/
structure GrI (wr : World) (r : Nat) (V todo : List (Mk × Int)) (many : Int) (A : Option Addr) (n c : Nat) (l : List Mk) : Prop where
  row : RowK wr 28 33 A n c (mks l)
  len : l.length = n
  big : ∀ i, blkOf A i → r < i
  all : (l ++ often todo many).Perm (often V many)
section
variable {w w' : World} {U U' S : Nat → Prop} {g : Nat} {m : Ms} {ab cap tm : Nat} {L : List (Int × Sl)} {role : Nat → Nat}
set_option maxRecDepth 100000 in
set_option maxHeartbeats 6400000 in
theorem greatC_most (h : MsIn w U g m ab cap tm L role) :
    Calls Try.prog 42 #[.pointer (some ⟨g, 0, none⟩), .func (.func 43) #[] #[]] w fun e w' => e = .returned (.tuple #[.agg (mkC ((greatS m (2 * m.f + 1)).getD mk0)).toArray, .bool (greatS m (2 * m.f + 1)).isSome]) ∧ Below w.heap.size w w' := by
  obtain ⟨many, hmany⟩ : ∃ many, 2 * m.f + 1 = many := ⟨_, rfl⟩
  rw [hmany]
  obtain ⟨G, hG⟩ : ∃ G, greatS m many = G := ⟨_, rfl⟩
  rw [hG]
  have HGs := Lib.hid hG
  clear hG
  have hok := h.ok.crew
  have hm1 : 1 ≤ many := by have := ((okC_iff m.f m.ns).1 hok).1; omega
  have hal : Below w.heap.size w (w.alloc (.cells (mkC mk0).toArray 28)) := (Below.refl _ _).alloc (Nat.le_refl _) _
  have h1 := h.below hal
  have R1 : Blk (w.alloc (.cells (mkC mk0).toArray 28)) w.heap.size 28 (mkC mk0) := Blk.new rfl rfl
  have Hn := Lib.hid (none_in h1)
  have hmost := most_any m.f _ _ _ _ _ h1.arg
  have e1 : mostR m.f m.ns = many := by rw [← hmany]; simp [mostR, hok]
  rw [e1] at hmost
  have Hm := Lib.hid hmost
  have c0 := h1.blk.cell (i := 0) rfl
  have c1 := h1.blk.cell (i := 1) rfl
  have hnext : ∀ w2, Below (w.alloc (.cells (mkC mk0).toArray 28)).heap.size (w.alloc (.cells (mkC mk0).toArray 28)) w2 → Calls Try.prog 58 #[.pointer (some ⟨g, 0, none⟩)] w2 fun e w3 => ∃ mv V, e = .returned (.map (some mv)) ∧ MapT markK vI w3 mv V ∧ VsI m V [] ∧ w.heap.size < mv ∧ Below w.heap.size w w3 ∧ Blk w3 w.heap.size 28 (mkC mk0) := fun w2 hb => by
    refine (votes_in (h1.below hb)).mono ?_
    rintro e w3 ⟨mv, V, rfl, v1, v2, v3, v4⟩
    have hz := hb.size
    simp at hz
    exact ⟨mv, V, rfl, v1, v2, by omega, (hal.trans (hb.mono hal.size)).trans (v4.mono (by omega)), (R1.below hb R1.lt).below v4 (by omega)⟩
  have HN := Lib.hid hnext
  clear h h1 hal R1 hmost hnext hok e1 hmany
  go_enter Try.func42, Try.ntmps42
  go_wp2_with (first
    | (go_at_call 31; refine Hn.out.mono ?_; rintro e w' ⟨rfl, rfl⟩)
    | (go_at_call 43; refine Hm.out.mono ?_; rintro e w2 ⟨rfl, hb2⟩; have hv := HN.out w2 hb2; replace hv := Lib.hid hv; clear hb2)
    | (go_at_call 58; refine hv.out.mono ?_; rintro e w3 ⟨mv, V, rfl, hvv⟩; replace hvv := Lib.hid hvv; have hv1 := hvv.out.1)
    | (at_range; refine wpList_range_T _ rfl _ 89 _ rfl Try.underlying89 rfl hv1 ?_; intro w4 hrg0 hb4 hs4)
    | go_in)
  obtain ⟨r, hr⟩ : ∃ r, w3.heap.size = r := ⟨_, rfl⟩
  rw [hr] at hrg0 hb4 hs4
  simp only [hr]
  go_frame
  have hmr : mv < r := by rw [← hr]; exact hvv.out.1.lt
  have hwm : w.heap.size < mv := hvv.out.2.2.1
  have hI : VsI m V [] := hvv.out.2.1
  have hd : (V.map Prod.fst).Nodup := hvv.out.1.1.nd
  have hb04 : Below w.heap.size w w4 := hvv.out.2.2.2.1.trans (hb4.mono (by have := hvv.out.2.2.2.1.size; omega))
  have R4 : Blk w4 w.heap.size 28 (mkC mk0) := hvv.out.2.2.2.2.below hb4 (by omega)
  have HL := Lib.hid (And.intro hrg0 (And.intro hb04 R4))
  have HI := Lib.hid (And.intro hI (And.intro hd (And.intro hmr hwm)))
  clear hrg0 hb4 hs4 hmr hwm hI hd hb04 R4 hvv hv1 hv hr
  go_loopw [7] (fun v7 wr => ∃ (todo : List (Mk × Int)) (A : Option Addr) (n c : Nat) (l : List Mk), v7 = .slice A n c ∧ RangeT markK vI wr mv r V todo ∧ GrI wr r V todo many A n c l ∧ Below w.heap.size w wr ∧ Blk wr w.heap.size 28 (mkC mk0))
    (fun _ wr => wr.rangeLeft mv r)
  case atStart => exact ⟨V, none, 0, 0, [], rfl, HL.out.1, ⟨RowK.nil _ _ _, rfl, fun i ⟨a, h, _⟩ => (by cases h), List.Perm.refl _⟩, HL.out.2.1, HL.out.2.2⟩
  case round =>
    rename World => wo
    obtain ⟨todo, A, n, c, l, rfl, hrg, hG, hbel, hR⟩ := hrel
    have hlV : n ≤ 1000 := by
      have h1 := hG.all.length_eq
      rw [List.length_append] at h1
      have h2 := often_len V many
      have h3 := HI.out.1.len
      have := hG.len
      simp at h3
      omega
    have H1 := Lib.hid (And.intro hG (And.intro hbel hR))
    clear hG hbel hR HL
    go_wp2_with (first
      | (at_next; refine wpList_next_T _ rfl _ rfl (fun x => .agg (mkC x).toArray) (Value.int .i64) (fun _ => rfl) (fun _ => rfl) rfl hrg ?_ ?_)
      | go_in)
    · intro h0
      subst h0
      have hall : l.Perm (often V many) := by have := H1.out.1.all; simpa [often] using this
      have hbest := often_great HI.out.1 HI.out.2.1 hm1 hall
      have hln := H1.out.1.len
      have hGb : G = best l := by rw [← HGs.out]; exact hbest
      clear hrg hall hbest
      by_cases hn0 : n = 0
      · subst hn0
        have hl0 : l = [] := List.eq_nil_of_length_eq_zero hln
        subst hl0
        obtain ⟨wS, hwS⟩ : ∃ wS, wo.setCells w.heap.size 0 (mkC mk0) = wS := ⟨_, rfl⟩
        have BS : Blk wS w.heap.size 28 (mkC mk0) := by rw [← hwS]; exact H1.out.2.2.setAll rfl
        have bS : Below w.heap.size w wS := by rw [← hwS]; exact Below.setCells (Nat.le_refl _) _ H1.out.2.1
        have HS := Lib.hid (And.intro (H1.out.2.2.thereAt (o := 0) (n := (mkC mk0).toArray.size) (by simp)) (And.intro (mark_infoA mk0) (And.intro (mkC_oneA mk0) (And.intro hwS (And.intro BS bS)))))
        obtain rfl : G = none := hGb
        clear hwS BS bS
        go_wp2_with (first
          | (refine wpList_build_g rfl 28 _ rfl (mkC mk0).toArray built_mark0 ?_; simp only [Act.put])
          | (refine wpList_store_mid rfl 28 _ _ rfl w.heap.size 0 (mkC mk0).toArray rfl rfl HS.out.1 HS.out.2.1 HS.out.2.2.1 ?_; simp only [Act.put]; refine cast (congrArg (fun z => wpList _ _ _ _ _ z) HS.out.2.2.2.1.symm) ?_))
        refine bodyPost_ret (results_row_tmp rfl _ _ w.heap.size 28 (mkC mk0).toArray (.bool false) _ rfl rfl HS.out.2.2.2.2.1 Try.underlying28 rfl HS.out.2.1) rfl ?_
        exact ⟨rfl, HS.out.2.2.2.2.2⟩
      · have hnz : ((n : Int) == 0) = false := by simp; omega
        have hsort := sort_row H1.out.1.row hln (by omega)
        have hA : ∀ i, blkOf A i → i ≠ w.heap.size := fun i hi => by have := H1.out.1.big i hi; have := HI.out.2.2; omega
        have hhead := sortM_head l
        obtain ⟨x, rest, hx⟩ : ∃ x rest, sortM' l = x :: rest := by
          cases e : sortM' l with
          | nil => have := sortM_len l; rw [e] at this; simp at this; omega
          | cons x rest => exact ⟨x, rest, rfl⟩
        rw [hx] at hhead hsort
        simp only [List.head?_cons] at hhead
        have hfin : ∀ w5, RowK w5 28 33 A n c (mks (x :: rest)) → Out (blkOf A) wo w5 → ∃ ra, A = some ⟨ra, 0, none⟩ ∧ w5.rangeAt ra 0 (mkC x) ∧ w5.there w.heap.size 0 (mkC x).toArray.size ∧ ∃ w6, w5.setCells w.heap.size 0 (mkC x) = w6 ∧ Blk w6 w.heap.size 28 (mkC x) ∧ Below w.heap.size w w6 := fun w5 hr5 ho5 => by
          obtain ⟨ra, e1, e2, e3, _⟩ := hr5.cells (by omega)
          have B5 := ho5.blk H1.out.2.2 (fun h => hA _ h rfl)
          have b5 : Below w.heap.size w w5 := H1.out.2.1.trans (ho5.above (fun i hi => by have := H1.out.1.big i hi; have := HI.out.2.2; omega) H1.out.2.1.size)
          refine ⟨ra, e1, fun j u hu => ?_, B5.thereAt (by rw [List.size_toArray, mkC_len, mkC_len]; omega), _, rfl, B5.setAll (by rw [mkC_len, mkC_len]), Below.setCells (Nat.le_refl _) _ b5⟩
          rw [Nat.zero_add]
          refine e3 j u ?_
          show (mkC x ++ mks rest)[j]? = some u
          rw [List.getElem?_append_left (by
            rcases Nat.lt_or_ge j (mkC x).length with h | h
            · exact h
            · rw [List.getElem?_eq_none h] at hu; cases hu)]
          exact hu
        have HF := Lib.hid hfin
        have HSo := Lib.hid hsort
        have HX := Lib.hid (And.intro (mark_infoL x) (And.intro (mark_infoA x) (mkC_oneA x)))
        have n0 : (0 : Int) < (n : Int) := by omega
        have n1 : 0 < n := by omega
        obtain rfl : G = some x := by rw [hGb, ← hhead]
        clear hGb hfin hsort hA hhead hx
        go_wp2_with (first
          | (go_at_call 59; refine HSo.out.mono ?_; rintro e w5 ⟨rfl, hr5, ho5⟩; obtain ⟨ra, rfl, f1, f2, w6, f3, f4, f5⟩ := HF.out w5 hr5 ho5; replace f1 := Lib.hid (And.intro f1 (And.intro f2 (And.intro f3 (And.intro f4 f5)))); clear hr5 ho5 f2 f3 f4 f5)
          | (refine load_mid_g rfl 28 _ rfl ra 0 rfl (mkC x) _ f1.out.1 Try.underlying28 rfl HX.out.1 ?_; simp only [Act.put])
          | (refine wpList_store_mid rfl 28 _ _ rfl w.heap.size 0 (mkC x).toArray rfl rfl f1.out.2.1 HX.out.2.1 HX.out.2.2 ?_; simp only [Act.put]; refine cast (congrArg (fun z => wpList _ _ _ _ _ z) f1.out.2.2.1.symm) ?_))
        refine bodyPost_ret (results_row_tmp rfl _ _ w.heap.size 28 (mkC x).toArray (.bool true) _ rfl rfl f1.out.2.2.2.1 Try.underlying28 rfl HX.out.2.1) rfl ?_
        exact ⟨rfl, f1.out.2.2.2.2⟩
    · intro x k more w5 hp hm hok hrg1 hlt hout hsz hen
      have hrl := hrg1.lt
      have ho5 : Out (fun i => i = r) wo w5 := hout
      have hwm := HI.out.2.2.2
      have hmr := HI.out.2.2.1
      obtain ⟨wS, hwS, ⟨hth, hin⟩, hbS, hbe, hsS⟩ := row_local w5 28 (mkC mk0) (mkC x) (by rw [mkC_len, mkC_len]) (by rw [mkC_len]; exact mark_info1)
      have hbel5 : Below w.heap.size w w5 := H1.out.2.1.trans (hout.above (fun i e => by have e : i = r := e; omega) H1.out.2.1.size)
      have hR5 : Blk w5 w.heap.size 28 (mkC mk0) := hout.blk H1.out.2.2 (by omega)
      have hrow5 : RowK w5 28 33 A n c (mks l) := H1.out.1.row.out ho5 fun i hi e => by have := H1.out.1.big i hi; have e : i = r := e; omega
      have hbS5 : Below w.heap.size w wS := hbel5.trans (hbe.mono hbel5.size)
      have hRS := hR5.below hbe hR5.lt
      have hrowS := hrow5.below hbe hrow5.lt
      have hrgS := hrg1.out (S := fun i => w5.heap.size ≤ i) (Out.ofBelow _ hbe) (by omega) (by omega)
      have hlS : wS.rangeLeft mv r < wo.rangeLeft mv r := by rw [hrg1.left_out (S := fun i => w5.heap.size ≤ i) (Out.ofBelow _ hbe) (by omega) (by omega)]; exact hlt
      have hall := H1.out.1.all.symm.trans (List.Perm.append_left l (often_perm hp many))
      rw [often_cons] at hall
      have HS := Lib.hid (And.intro hth (And.intro hin (And.intro (mkC_oneA x) (And.intro (mark_infoL x) hwS))))
      have HB := Lib.hid hbS
      have HE := Lib.hid (And.intro hrgS (And.intro hlS (And.intro hbS5 hRS)))
      by_cases hk : many ≤ k
      · rw [if_pos hk] at hall
        -- the row grows
        obtain ⟨wB, hwB⟩ : ∃ wB, wS.alloc (.cells (mkC x).toArray 28) = wB := ⟨_, rfl⟩
        have hrowm := row_mark x wS
        rw [hwB] at hrowm
        have bB : Below wS.heap.size wS wB := by rw [← hwB]; exact (Below.refl _ _).alloc (Nat.le_refl _) _
        have BB : Blk wB wS.heap.size 28 (mkC x) := by rw [← hwB]; exact Blk.new rfl rfl
        obtain ⟨A', c', wC, hap, hrowC, hoC, hbig⟩ := app_mk (c := 1) (hrowS.below bB hrowS.lt) H1.out.1.len ⟨wS.heap.size, 0, none⟩ rfl (fun j u hu => by rw [add_mk, Nat.zero_add]; exact BB.cell hu) (by omega) 54
        have hbS6 := hbe.size
        have hbB6 := bB.size
        have hAr : ∀ i, blkOf A i → r < i := H1.out.1.big
        have oSC : Out (fun i => r < i) wS wC := (Out.ofBelow (fun i => r < i) bB).trans hoC fun i _ hi => hAr i hi
        have hrgC := hrgS.out oSC (by show ¬ r < mv; omega) (by show ¬ r < r; omega)
        have hlC : wC.rangeLeft mv r < wo.rangeLeft mv r := by rw [hrgS.left_out oSC (by show ¬ r < mv; omega) (by show ¬ r < r; omega)]; exact hlS
        have hGC : GrI wC r V more many A' (n + 1) c' (l ++ [x]) := ⟨hrowC, by rw [List.length_append, H1.out.1.len]; rfl, fun i hi => (hbig i hi).elim (hAr i) fun e => by omega, by
          refine List.Perm.trans ?_ hall.symm
          simp⟩
        have hbC : Below w.heap.size w wC := hbS5.trans (oSC.above (fun i hi => by have hi : r < i := hi; omega) hbS5.size)
        have hRC : Blk wC w.heap.size 28 (mkC mk0) := oSC.blk hRS (by show ¬ r < w.heap.size; omega)
        have HC := Lib.hid (And.intro hrgC (And.intro hGC (And.intro hbC (And.intro hRC hlC))))
        have HAp := Lib.hid (And.intro hrowm hap)
        have hge : k ≥ many := hk
        clear hth hin hwS hbS hbe hsS hbel5 hR5 hrow5 hbS5 hRS hrowS hrgS hlS hall hwB hrowm bB BB hap hrowC hoC hbig hbS6 hbB6 hAr oSC hrgC hlC hGC hbC hRC hp hm hok hrg1 hlt hout hsz ho5 hrl hwm hmr hrg HE
        generalize hX : mkC x = X at *
        go_wp2_with (first
          | (refine wpList_store_mid rfl 28 _ _ rfl w5.heap.size 0 X.toArray rfl rfl HS.out.1 HS.out.2.1 HS.out.2.2.1 ?_; simp only [Act.put]; refine cast (congrArg (fun z => wpList _ _ _ _ _ z) HS.out.2.2.2.2.symm) ?_)
          | (refine load_mid_g rfl 28 _ rfl w5.heap.size 0 rfl X _ HB.out.range Try.underlying28 rfl HS.out.2.2.2.1 ?_; simp only [Act.put])
          | (refine row_g rfl 54 1 _ rfl _ _ (by simp only [List.map_toArray, List.map_cons, List.map_nil]; exact HAp.out.1) ?_; simp only [Act.put])
          | (at_builtin; refine app_g rfl _ _ _ _ rfl _ _ _ _ rfl rfl HAp.out.2 ?_; simp only [Act.put]))
        go_roundw
        case rel => exact ⟨more, A', n + 1, c', l ++ [x], rfl, HC.out.1, HC.out.2.1, HC.out.2.2.1, HC.out.2.2.2.1⟩
        case measure => exact HC.out.2.2.2.2
      · rw [if_neg hk] at hall
        have hGS : GrI wS r V more many A n c l := ⟨hrowS, H1.out.1.len, H1.out.1.big, hall.symm⟩
        have HG := Lib.hid hGS
        have hge : ¬ k ≥ many := hk
        clear hth hin hwS hbS hbe hsS hbel5 hR5 hrow5 hbS5 hRS hrowS hrgS hlS hall hp hm hok hrg1 hlt hout hsz ho5 hrl hwm hmr hrg hGS
        generalize hX : mkC x = X at *
        go_wp2_with (first
          | (refine wpList_store_mid rfl 28 _ _ rfl w5.heap.size 0 X.toArray rfl rfl HS.out.1 HS.out.2.1 HS.out.2.2.1 ?_; simp only [Act.put]; refine cast (congrArg (fun z => wpList _ _ _ _ _ z) HS.out.2.2.2.2.symm) ?_))
        go_roundw
        case rel => exact ⟨more, A, n, c, l, rfl, HE.out.1, HG.out, HE.out.2.2.1, HE.out.2.2.2⟩
        case measure => exact HE.out.2.1
set_option maxRecDepth 100000 in
set_option maxHeartbeats 6400000 in
theorem greatC_some (h : MsIn w U g m ab cap tm L role) :
    Calls Try.prog 42 #[.pointer (some ⟨g, 0, none⟩), .func (.func 44) #[] #[]] w fun e w' => e = .returned (.tuple #[.agg (mkC ((greatS m (m.f + 1)).getD mk0)).toArray, .bool (greatS m (m.f + 1)).isSome]) ∧ Below w.heap.size w w' := by
  obtain ⟨many, hmany⟩ : ∃ many, m.f + 1 = many := ⟨_, rfl⟩
  rw [hmany]
  obtain ⟨G, hG⟩ : ∃ G, greatS m many = G := ⟨_, rfl⟩
  rw [hG]
  have HGs := Lib.hid hG
  clear hG
  have hok := h.ok.crew
  have hm1 : 1 ≤ many := by have := ((okC_iff m.f m.ns).1 hok).1; omega
  have hal : Below w.heap.size w (w.alloc (.cells (mkC mk0).toArray 28)) := (Below.refl _ _).alloc (Nat.le_refl _) _
  have h1 := h.below hal
  have R1 : Blk (w.alloc (.cells (mkC mk0).toArray 28)) w.heap.size 28 (mkC mk0) := Blk.new rfl rfl
  have Hn := Lib.hid (none_in h1)
  have hmost := some_any m.f _ _ _ _ _ h1.arg
  have e1 : someR m.f m.ns = many := by rw [← hmany]; simp [someR, hok]
  rw [e1] at hmost
  have Hm := Lib.hid hmost
  have c0 := h1.blk.cell (i := 0) rfl
  have c1 := h1.blk.cell (i := 1) rfl
  have hnext : ∀ w2, Below (w.alloc (.cells (mkC mk0).toArray 28)).heap.size (w.alloc (.cells (mkC mk0).toArray 28)) w2 → Calls Try.prog 58 #[.pointer (some ⟨g, 0, none⟩)] w2 fun e w3 => ∃ mv V, e = .returned (.map (some mv)) ∧ MapT markK vI w3 mv V ∧ VsI m V [] ∧ w.heap.size < mv ∧ Below w.heap.size w w3 ∧ Blk w3 w.heap.size 28 (mkC mk0) := fun w2 hb => by
    refine (votes_in (h1.below hb)).mono ?_
    rintro e w3 ⟨mv, V, rfl, v1, v2, v3, v4⟩
    have hz := hb.size
    simp at hz
    exact ⟨mv, V, rfl, v1, v2, by omega, (hal.trans (hb.mono hal.size)).trans (v4.mono (by omega)), (R1.below hb R1.lt).below v4 (by omega)⟩
  have HN := Lib.hid hnext
  clear h h1 hal R1 hmost hnext hok e1 hmany
  go_enter Try.func42, Try.ntmps42
  go_wp2_with (first
    | (go_at_call 31; refine Hn.out.mono ?_; rintro e w' ⟨rfl, rfl⟩)
    | (go_at_call 44; refine Hm.out.mono ?_; rintro e w2 ⟨rfl, hb2⟩; have hv := HN.out w2 hb2; replace hv := Lib.hid hv; clear hb2)
    | (go_at_call 58; refine hv.out.mono ?_; rintro e w3 ⟨mv, V, rfl, hvv⟩; replace hvv := Lib.hid hvv; have hv1 := hvv.out.1)
    | (at_range; refine wpList_range_T _ rfl _ 89 _ rfl Try.underlying89 rfl hv1 ?_; intro w4 hrg0 hb4 hs4)
    | go_in)
  obtain ⟨r, hr⟩ : ∃ r, w3.heap.size = r := ⟨_, rfl⟩
  rw [hr] at hrg0 hb4 hs4
  simp only [hr]
  go_frame
  have hmr : mv < r := by rw [← hr]; exact hvv.out.1.lt
  have hwm : w.heap.size < mv := hvv.out.2.2.1
  have hI : VsI m V [] := hvv.out.2.1
  have hd : (V.map Prod.fst).Nodup := hvv.out.1.1.nd
  have hb04 : Below w.heap.size w w4 := hvv.out.2.2.2.1.trans (hb4.mono (by have := hvv.out.2.2.2.1.size; omega))
  have R4 : Blk w4 w.heap.size 28 (mkC mk0) := hvv.out.2.2.2.2.below hb4 (by omega)
  have HL := Lib.hid (And.intro hrg0 (And.intro hb04 R4))
  have HI := Lib.hid (And.intro hI (And.intro hd (And.intro hmr hwm)))
  clear hrg0 hb4 hs4 hmr hwm hI hd hb04 R4 hvv hv1 hv hr
  go_loopw [7] (fun v7 wr => ∃ (todo : List (Mk × Int)) (A : Option Addr) (n c : Nat) (l : List Mk), v7 = .slice A n c ∧ RangeT markK vI wr mv r V todo ∧ GrI wr r V todo many A n c l ∧ Below w.heap.size w wr ∧ Blk wr w.heap.size 28 (mkC mk0))
    (fun _ wr => wr.rangeLeft mv r)
  case atStart => exact ⟨V, none, 0, 0, [], rfl, HL.out.1, ⟨RowK.nil _ _ _, rfl, fun i ⟨a, h, _⟩ => (by cases h), List.Perm.refl _⟩, HL.out.2.1, HL.out.2.2⟩
  case round =>
    rename World => wo
    obtain ⟨todo, A, n, c, l, rfl, hrg, hG, hbel, hR⟩ := hrel
    have hlV : n ≤ 1000 := by
      have h1 := hG.all.length_eq
      rw [List.length_append] at h1
      have h2 := often_len V many
      have h3 := HI.out.1.len
      have := hG.len
      simp at h3
      omega
    have H1 := Lib.hid (And.intro hG (And.intro hbel hR))
    clear hG hbel hR HL
    go_wp2_with (first
      | (at_next; refine wpList_next_T _ rfl _ rfl (fun x => .agg (mkC x).toArray) (Value.int .i64) (fun _ => rfl) (fun _ => rfl) rfl hrg ?_ ?_)
      | go_in)
    · intro h0
      subst h0
      have hall : l.Perm (often V many) := by have := H1.out.1.all; simpa [often] using this
      have hbest := often_great HI.out.1 HI.out.2.1 hm1 hall
      have hln := H1.out.1.len
      have hGb : G = best l := by rw [← HGs.out]; exact hbest
      clear hrg hall hbest
      by_cases hn0 : n = 0
      · subst hn0
        have hl0 : l = [] := List.eq_nil_of_length_eq_zero hln
        subst hl0
        obtain ⟨wS, hwS⟩ : ∃ wS, wo.setCells w.heap.size 0 (mkC mk0) = wS := ⟨_, rfl⟩
        have BS : Blk wS w.heap.size 28 (mkC mk0) := by rw [← hwS]; exact H1.out.2.2.setAll rfl
        have bS : Below w.heap.size w wS := by rw [← hwS]; exact Below.setCells (Nat.le_refl _) _ H1.out.2.1
        have HS := Lib.hid (And.intro (H1.out.2.2.thereAt (o := 0) (n := (mkC mk0).toArray.size) (by simp)) (And.intro (mark_infoA mk0) (And.intro (mkC_oneA mk0) (And.intro hwS (And.intro BS bS)))))
        obtain rfl : G = none := hGb
        clear hwS BS bS
        go_wp2_with (first
          | (refine wpList_build_g rfl 28 _ rfl (mkC mk0).toArray built_mark0 ?_; simp only [Act.put])
          | (refine wpList_store_mid rfl 28 _ _ rfl w.heap.size 0 (mkC mk0).toArray rfl rfl HS.out.1 HS.out.2.1 HS.out.2.2.1 ?_; simp only [Act.put]; refine cast (congrArg (fun z => wpList _ _ _ _ _ z) HS.out.2.2.2.1.symm) ?_))
        refine bodyPost_ret (results_row_tmp rfl _ _ w.heap.size 28 (mkC mk0).toArray (.bool false) _ rfl rfl HS.out.2.2.2.2.1 Try.underlying28 rfl HS.out.2.1) rfl ?_
        exact ⟨rfl, HS.out.2.2.2.2.2⟩
      · have hnz : ((n : Int) == 0) = false := by simp; omega
        have hsort := sort_row H1.out.1.row hln (by omega)
        have hA : ∀ i, blkOf A i → i ≠ w.heap.size := fun i hi => by have := H1.out.1.big i hi; have := HI.out.2.2; omega
        have hhead := sortM_head l
        obtain ⟨x, rest, hx⟩ : ∃ x rest, sortM' l = x :: rest := by
          cases e : sortM' l with
          | nil => have := sortM_len l; rw [e] at this; simp at this; omega
          | cons x rest => exact ⟨x, rest, rfl⟩
        rw [hx] at hhead hsort
        simp only [List.head?_cons] at hhead
        have hfin : ∀ w5, RowK w5 28 33 A n c (mks (x :: rest)) → Out (blkOf A) wo w5 → ∃ ra, A = some ⟨ra, 0, none⟩ ∧ w5.rangeAt ra 0 (mkC x) ∧ w5.there w.heap.size 0 (mkC x).toArray.size ∧ ∃ w6, w5.setCells w.heap.size 0 (mkC x) = w6 ∧ Blk w6 w.heap.size 28 (mkC x) ∧ Below w.heap.size w w6 := fun w5 hr5 ho5 => by
          obtain ⟨ra, e1, e2, e3, _⟩ := hr5.cells (by omega)
          have B5 := ho5.blk H1.out.2.2 (fun h => hA _ h rfl)
          have b5 : Below w.heap.size w w5 := H1.out.2.1.trans (ho5.above (fun i hi => by have := H1.out.1.big i hi; have := HI.out.2.2; omega) H1.out.2.1.size)
          refine ⟨ra, e1, fun j u hu => ?_, B5.thereAt (by rw [List.size_toArray, mkC_len, mkC_len]; omega), _, rfl, B5.setAll (by rw [mkC_len, mkC_len]), Below.setCells (Nat.le_refl _) _ b5⟩
          rw [Nat.zero_add]
          refine e3 j u ?_
          show (mkC x ++ mks rest)[j]? = some u
          rw [List.getElem?_append_left (by
            rcases Nat.lt_or_ge j (mkC x).length with h | h
            · exact h
            · rw [List.getElem?_eq_none h] at hu; cases hu)]
          exact hu
        have HF := Lib.hid hfin
        have HSo := Lib.hid hsort
        have HX := Lib.hid (And.intro (mark_infoL x) (And.intro (mark_infoA x) (mkC_oneA x)))
        have n0 : (0 : Int) < (n : Int) := by omega
        have n1 : 0 < n := by omega
        obtain rfl : G = some x := by rw [hGb, ← hhead]
        clear hGb hfin hsort hA hhead hx
        go_wp2_with (first
          | (go_at_call 59; refine HSo.out.mono ?_; rintro e w5 ⟨rfl, hr5, ho5⟩; obtain ⟨ra, rfl, f1, f2, w6, f3, f4, f5⟩ := HF.out w5 hr5 ho5; replace f1 := Lib.hid (And.intro f1 (And.intro f2 (And.intro f3 (And.intro f4 f5)))); clear hr5 ho5 f2 f3 f4 f5)
          | (refine load_mid_g rfl 28 _ rfl ra 0 rfl (mkC x) _ f1.out.1 Try.underlying28 rfl HX.out.1 ?_; simp only [Act.put])
          | (refine wpList_store_mid rfl 28 _ _ rfl w.heap.size 0 (mkC x).toArray rfl rfl f1.out.2.1 HX.out.2.1 HX.out.2.2 ?_; simp only [Act.put]; refine cast (congrArg (fun z => wpList _ _ _ _ _ z) f1.out.2.2.1.symm) ?_))
        refine bodyPost_ret (results_row_tmp rfl _ _ w.heap.size 28 (mkC x).toArray (.bool true) _ rfl rfl f1.out.2.2.2.1 Try.underlying28 rfl HX.out.2.1) rfl ?_
        exact ⟨rfl, f1.out.2.2.2.2⟩
    · intro x k more w5 hp hm hok hrg1 hlt hout hsz hen
      have hrl := hrg1.lt
      have ho5 : Out (fun i => i = r) wo w5 := hout
      have hwm := HI.out.2.2.2
      have hmr := HI.out.2.2.1
      obtain ⟨wS, hwS, ⟨hth, hin⟩, hbS, hbe, hsS⟩ := row_local w5 28 (mkC mk0) (mkC x) (by rw [mkC_len, mkC_len]) (by rw [mkC_len]; exact mark_info1)
      have hbel5 : Below w.heap.size w w5 := H1.out.2.1.trans (hout.above (fun i e => by have e : i = r := e; omega) H1.out.2.1.size)
      have hR5 : Blk w5 w.heap.size 28 (mkC mk0) := hout.blk H1.out.2.2 (by omega)
      have hrow5 : RowK w5 28 33 A n c (mks l) := H1.out.1.row.out ho5 fun i hi e => by have := H1.out.1.big i hi; have e : i = r := e; omega
      have hbS5 : Below w.heap.size w wS := hbel5.trans (hbe.mono hbel5.size)
      have hRS := hR5.below hbe hR5.lt
      have hrowS := hrow5.below hbe hrow5.lt
      have hrgS := hrg1.out (S := fun i => w5.heap.size ≤ i) (Out.ofBelow _ hbe) (by omega) (by omega)
      have hlS : wS.rangeLeft mv r < wo.rangeLeft mv r := by rw [hrg1.left_out (S := fun i => w5.heap.size ≤ i) (Out.ofBelow _ hbe) (by omega) (by omega)]; exact hlt
      have hall := H1.out.1.all.symm.trans (List.Perm.append_left l (often_perm hp many))
      rw [often_cons] at hall
      have HS := Lib.hid (And.intro hth (And.intro hin (And.intro (mkC_oneA x) (And.intro (mark_infoL x) hwS))))
      have HB := Lib.hid hbS
      have HE := Lib.hid (And.intro hrgS (And.intro hlS (And.intro hbS5 hRS)))
      by_cases hk : many ≤ k
      · rw [if_pos hk] at hall
        -- the row grows
        obtain ⟨wB, hwB⟩ : ∃ wB, wS.alloc (.cells (mkC x).toArray 28) = wB := ⟨_, rfl⟩
        have hrowm := row_mark x wS
        rw [hwB] at hrowm
        have bB : Below wS.heap.size wS wB := by rw [← hwB]; exact (Below.refl _ _).alloc (Nat.le_refl _) _
        have BB : Blk wB wS.heap.size 28 (mkC x) := by rw [← hwB]; exact Blk.new rfl rfl
        obtain ⟨A', c', wC, hap, hrowC, hoC, hbig⟩ := app_mk (c := 1) (hrowS.below bB hrowS.lt) H1.out.1.len ⟨wS.heap.size, 0, none⟩ rfl (fun j u hu => by rw [add_mk, Nat.zero_add]; exact BB.cell hu) (by omega) 54
        have hbS6 := hbe.size
        have hbB6 := bB.size
        have hAr : ∀ i, blkOf A i → r < i := H1.out.1.big
        have oSC : Out (fun i => r < i) wS wC := (Out.ofBelow (fun i => r < i) bB).trans hoC fun i _ hi => hAr i hi
        have hrgC := hrgS.out oSC (by show ¬ r < mv; omega) (by show ¬ r < r; omega)
        have hlC : wC.rangeLeft mv r < wo.rangeLeft mv r := by rw [hrgS.left_out oSC (by show ¬ r < mv; omega) (by show ¬ r < r; omega)]; exact hlS
        have hGC : GrI wC r V more many A' (n + 1) c' (l ++ [x]) := ⟨hrowC, by rw [List.length_append, H1.out.1.len]; rfl, fun i hi => (hbig i hi).elim (hAr i) fun e => by omega, by
          refine List.Perm.trans ?_ hall.symm
          simp⟩
        have hbC : Below w.heap.size w wC := hbS5.trans (oSC.above (fun i hi => by have hi : r < i := hi; omega) hbS5.size)
        have hRC : Blk wC w.heap.size 28 (mkC mk0) := oSC.blk hRS (by show ¬ r < w.heap.size; omega)
        have HC := Lib.hid (And.intro hrgC (And.intro hGC (And.intro hbC (And.intro hRC hlC))))
        have HAp := Lib.hid (And.intro hrowm hap)
        have hge : k ≥ many := hk
        clear hth hin hwS hbS hbe hsS hbel5 hR5 hrow5 hbS5 hRS hrowS hrgS hlS hall hwB hrowm bB BB hap hrowC hoC hbig hbS6 hbB6 hAr oSC hrgC hlC hGC hbC hRC hp hm hok hrg1 hlt hout hsz ho5 hrl hwm hmr hrg HE
        generalize hX : mkC x = X at *
        go_wp2_with (first
          | (refine wpList_store_mid rfl 28 _ _ rfl w5.heap.size 0 X.toArray rfl rfl HS.out.1 HS.out.2.1 HS.out.2.2.1 ?_; simp only [Act.put]; refine cast (congrArg (fun z => wpList _ _ _ _ _ z) HS.out.2.2.2.2.symm) ?_)
          | (refine load_mid_g rfl 28 _ rfl w5.heap.size 0 rfl X _ HB.out.range Try.underlying28 rfl HS.out.2.2.2.1 ?_; simp only [Act.put])
          | (refine row_g rfl 54 1 _ rfl _ _ (by simp only [List.map_toArray, List.map_cons, List.map_nil]; exact HAp.out.1) ?_; simp only [Act.put])
          | (at_builtin; refine app_g rfl _ _ _ _ rfl _ _ _ _ rfl rfl HAp.out.2 ?_; simp only [Act.put]))
        go_roundw
        case rel => exact ⟨more, A', n + 1, c', l ++ [x], rfl, HC.out.1, HC.out.2.1, HC.out.2.2.1, HC.out.2.2.2.1⟩
        case measure => exact HC.out.2.2.2.2
      · rw [if_neg hk] at hall
        have hGS : GrI wS r V more many A n c l := ⟨hrowS, H1.out.1.len, H1.out.1.big, hall.symm⟩
        have HG := Lib.hid hGS
        have hge : ¬ k ≥ many := hk
        clear hth hin hwS hbS hbe hsS hbel5 hR5 hrow5 hbS5 hRS hrowS hrgS hlS hall hp hm hok hrg1 hlt hout hsz ho5 hrl hwm hmr hrg hGS
        generalize hX : mkC x = X at *
        go_wp2_with (first
          | (refine wpList_store_mid rfl 28 _ _ rfl w5.heap.size 0 X.toArray rfl rfl HS.out.1 HS.out.2.1 HS.out.2.2.1 ?_; simp only [Act.put]; refine cast (congrArg (fun z => wpList _ _ _ _ _ z) HS.out.2.2.2.2.symm) ?_))
        go_roundw
        case rel => exact ⟨more, A, n, c, l, rfl, HE.out.1, HG.out, HE.out.2.2.1, HE.out.2.2.2⟩
        case measure => exact HE.out.2.1
set_option maxRecDepth 100000 in
set_option maxHeartbeats 1600000 in
theorem stable_in (h : MsIn w U g m ab cap tm L role) :
    Calls Try.prog 20 #[.pointer (some ⟨g, 0, none⟩)] w fun e w' => e = .returned (.tuple #[.agg (mkC ((greatS m (2 * m.f + 1)).getD mk0)).toArray, .bool (greatS m (2 * m.f + 1)).isSome]) ∧ Below w.heap.size w w' := by
  have hal : Below w.heap.size w (w.alloc (.cells (mkC mk0).toArray 28)) := (Below.refl _ _).alloc (Nat.le_refl _) _
  have hG := Lib.hid (greatC_most (h.below hal))
  obtain ⟨G, hGe⟩ : ∃ G, greatS m (2 * m.f + 1) = G := ⟨_, rfl⟩
  rw [hGe] at hG ⊢
  obtain ⟨x, hx⟩ : ∃ x, G.getD mk0 = x := ⟨_, rfl⟩
  rw [hx] at hG ⊢
  have hst : ∀ w2, Below (w.alloc (.cells (mkC mk0).toArray 28)).heap.size (w.alloc (.cells (mkC mk0).toArray 28)) w2 → ∃ w3, w2.setCells w.heap.size 0 (mkC x) = w3 ∧ w2.there w.heap.size 0 (mkC x).toArray.size ∧ Blk w3 w.heap.size 28 (mkC x) ∧ Below w.heap.size w w3 := fun w2 hb => by
    have R1 : Blk (w.alloc (.cells (mkC mk0).toArray 28)) w.heap.size 28 (mkC mk0) := Blk.new rfl rfl
    have R2 := R1.below hb R1.lt
    exact ⟨_, rfl, R2.thereAt (by rw [List.size_toArray, mkC_len, mkC_len]; omega), R2.setAll (by rw [mkC_len, mkC_len]), Below.setCells (Nat.le_refl _) _ (hal.trans (hb.mono hal.size))⟩
  have HST := Lib.hid hst
  have HX := Lib.hid (And.intro (mark_infoA x) (mkC_oneA x))
  clear h hal hst hGe hx
  generalize G.isSome = B at *
  generalize hC : mkC x = C at *
  go_enter Try.func20, Try.ntmps20
  go_wp2_with (first
    | (go_at_call 42; refine hG.out.mono ?_; rintro e w2 ⟨rfl, hb⟩; obtain ⟨w3, f1, f2, f3, f4⟩ := HST.out w2 hb; replace f1 := Lib.hid (And.intro f1 (And.intro f2 (And.intro f3 f4))); clear hb f2 f3 f4)
    | (refine wpList_store_mid rfl 28 _ _ rfl w.heap.size 0 C.toArray rfl rfl f1.out.2.1 HX.out.1 HX.out.2 ?_; simp only [Act.put]; refine cast (congrArg (fun z => wpList _ _ _ _ _ z) f1.out.1.symm) ?_))
  refine bodyPost_ret (results_row_tmp rfl _ _ w.heap.size 28 C.toArray (.bool B) _ rfl rfl f1.out.2.2.1 Try.underlying28 rfl HX.out.1) rfl ?_
  exact ⟨rfl, f1.out.2.2.2⟩
set_option maxRecDepth 100000 in
set_option maxHeartbeats 1600000 in
theorem known_in (h : MsIn w U g m ab cap tm L role) :
    Calls Try.prog 21 #[.pointer (some ⟨g, 0, none⟩)] w fun e w' => e = .returned (.tuple #[.agg (mkC ((greatS m (m.f + 1)).getD mk0)).toArray, .bool (greatS m (m.f + 1)).isSome]) ∧ Below w.heap.size w w' := by
  have hal : Below w.heap.size w (w.alloc (.cells (mkC mk0).toArray 28)) := (Below.refl _ _).alloc (Nat.le_refl _) _
  have hG := Lib.hid (greatC_some (h.below hal))
  obtain ⟨G, hGe⟩ : ∃ G, greatS m (m.f + 1) = G := ⟨_, rfl⟩
  rw [hGe] at hG ⊢
  obtain ⟨x, hx⟩ : ∃ x, G.getD mk0 = x := ⟨_, rfl⟩
  rw [hx] at hG ⊢
  have hst : ∀ w2, Below (w.alloc (.cells (mkC mk0).toArray 28)).heap.size (w.alloc (.cells (mkC mk0).toArray 28)) w2 → ∃ w3, w2.setCells w.heap.size 0 (mkC x) = w3 ∧ w2.there w.heap.size 0 (mkC x).toArray.size ∧ Blk w3 w.heap.size 28 (mkC x) ∧ Below w.heap.size w w3 := fun w2 hb => by
    have R1 : Blk (w.alloc (.cells (mkC mk0).toArray 28)) w.heap.size 28 (mkC mk0) := Blk.new rfl rfl
    have R2 := R1.below hb R1.lt
    exact ⟨_, rfl, R2.thereAt (by rw [List.size_toArray, mkC_len, mkC_len]; omega), R2.setAll (by rw [mkC_len, mkC_len]), Below.setCells (Nat.le_refl _) _ (hal.trans (hb.mono hal.size))⟩
  have HST := Lib.hid hst
  have HX := Lib.hid (And.intro (mark_infoA x) (mkC_oneA x))
  clear h hal hst hGe hx
  generalize G.isSome = B at *
  generalize hC : mkC x = C at *
  go_enter Try.func21, Try.ntmps21
  go_wp2_with (first
    | (go_at_call 42; refine hG.out.mono ?_; rintro e w2 ⟨rfl, hb⟩; obtain ⟨w3, f1, f2, f3, f4⟩ := HST.out w2 hb; replace f1 := Lib.hid (And.intro f1 (And.intro f2 (And.intro f3 f4))); clear hb f2 f3 f4)
    | (refine wpList_store_mid rfl 28 _ _ rfl w.heap.size 0 C.toArray rfl rfl f1.out.2.1 HX.out.1 HX.out.2 ?_; simp only [Act.put]; refine cast (congrArg (fun z => wpList _ _ _ _ _ z) f1.out.1.symm) ?_))
  refine bodyPost_ret (results_row_tmp rfl _ _ w.heap.size 28 C.toArray (.bool B) _ rfl rfl f1.out.2.2.1 Try.underlying28 rfl HX.out.1) rfl ?_
  exact ⟨rfl, f1.out.2.2.2⟩
end
end Go.Proofs.Ytenccpccpjjkmaa

namespace Go.Proofs.Ytenccpccpjjkmaa
open Go.RowKit Go.Shelf Go.Sort Go.Maps CrewP
set_option linter.unusedVariables false
set_option linter.unusedSimpArgs false

set_option maxRecDepth 100000 in
theorem clo2_any (y : Mk) (t : Int) (bx : Nat) (w : World) (hx : w.cell? ⟨bx, 0, none⟩ = some (.int .i64 t)) (hlt : bx < w.heap.size) :
    Calls Try.prog 37 #[.agg (mkC y).toArray, .pointer (some ⟨bx, 0, none⟩)] w fun e w' => e = .returned (.bool (decide (y.s ≤ t))) ∧ Grw w w' := by
  have hB : Blk (w.alloc (.cells (mkC y).toArray 28)) w.heap.size 28 (mkC y) := Blk.new rfl rfl
  have k0 := hB.cell (i := 0) (show (mkC y)[0]? = some (.int .i64 y.s) from rfl)
  have k1 : (w.alloc (.cells (mkC y).toArray 28)).cell? ⟨bx, 0, none⟩ = some (.int .i64 t) := by
    rw [((Below.refl w.heap.size w).alloc (Nat.le_refl _) (.cells (mkC y).toArray 28)).cell (p := ⟨bx, 0, none⟩) hlt]; exact hx
  have Hg := Lib.hid (Grw.alloc w (.cells (mkC y).toArray 28))
  clear hB hx
  generalize mkC y = C at *
  go_enter Try.func37, Try.ntmps37
  go_wp2
  go_ret
  exact ⟨rfl, Hg.out⟩
/-- The first one up to a number, or none. -/
def idxM (t : Int) : List Mk → Int
  | [] => -1
  | y :: l => if y.s ≤ t then 0 else if idxM t l = -1 then -1 else idxM t l + 1
theorem idxM_ge (t : Int) : ∀ l : List Mk, -1 ≤ idxM t l ∧ idxM t l < l.length
  | [] => by simp [idxM]
  | y :: l => by
    have := idxM_ge t l
    unfold idxM
    rw [List.length_cons]
    split
    · omega
    · split <;> omega
theorem idxM_none {t : Int} : ∀ {l : List Mk}, idxM t l = -1 → ∀ y ∈ l, ¬ y.s ≤ t
  | [], _, y, hy => by cases hy
  | z :: l, h, y, hy => by
    unfold idxM at h
    split at h
    · omega
    · rename_i hz
      split at h
      · rename_i hl
        rcases List.mem_cons.1 hy with e | hy
        · rw [e]; exact hz
        · exact idxM_none hl y hy
      · have := (idxM_ge t l).1; omega
theorem idxM_drop {t : Int} : ∀ {l : List Mk} {i : Nat}, (∀ j (hj : j < l.length), j < i → ¬ l[j].s ≤ t) → (hi : i < l.length) → l[i].s ≤ t → idxM t l = i
  | [], i, _, hi, _ => by simp at hi
  | y :: l, 0, _, _, h => by
    have h' : y.s ≤ t := h
    unfold idxM; rw [if_pos h']; rfl
  | y :: l, i + 1, h, hi, h2 => by
    have h0 : ¬ y.s ≤ t := h 0 (by simp) (by omega)
    have ih := idxM_drop (t := t) (l := l) (i := i) (fun j hj hji => h (j + 1) (by simpa using hj) (by omega)) (by simpa using hi) h2
    unfold idxM
    rw [if_neg h0, ih, if_neg (by omega)]
    omega
theorem idxM_all {t : Int} : ∀ {l : List Mk}, (∀ j (hj : j < l.length), ¬ l[j].s ≤ t) → idxM t l = -1
  | [], _ => rfl
  | y :: l, h => by
    have h0 : ¬ y.s ≤ t := h 0 (by simp)
    have ih := idxM_all (t := t) (l := l) fun j hj => h (j + 1) (by simpa using hj)
    unfold idxM
    rw [if_neg h0, if_pos ih]
theorem idxM_at {t : Int} : ∀ {l : List Mk} {i : Nat}, idxM t l = i → (∃ hi : i < l.length, l[i].s ≤ t) ∧ ∀ j (hj : j < l.length), j < i → ¬ l[j].s ≤ t
  | [], i, h => by simp only [idxM] at h; omega
  | y :: l, i, h => by
    unfold idxM at h
    split at h
    · rename_i hy
      obtain rfl : i = 0 := by omega
      exact ⟨⟨by simp, hy⟩, fun j hj hji => by omega⟩
    · rename_i hy
      split at h
      · omega
      · rename_i hl
        have hg := (idxM_ge t l).1
        obtain ⟨i, rfl⟩ : ∃ k, i = k + 1 := ⟨i - 1, by omega⟩
        obtain ⟨⟨h1, h2⟩, h3⟩ := idxM_at (t := t) (l := l) (i := i) (by omega)
        refine ⟨⟨by simpa using h1, h2⟩, fun j hj hji => ?_⟩
        cases j with
        | zero => exact hy
        | succ j => exact h3 j (by simpa using hj) (by omega)

set_option maxRecDepth 100000 in
set_option maxHeartbeats 1600000 in
theorem index_any {w : World} {A : Option Addr} {n c : Nat} {l : List Mk} (h : ShM w A l) (hn : l.length = n) (hb : n ≤ 1000) (t : Int) (bx : Nat) (hx : w.cell? ⟨bx, 0, none⟩ = some (.int .i64 t)) (hlt : bx < w.heap.size) :
    Calls Try.prog 54 #[.slice A n c, .func (.func 37) #[] #[.pointer (some ⟨bx, 0, none⟩)]] w fun e w' => e = .returned (.int .i64 (idxM t l)) ∧ Below w.heap.size w w' := by
  obtain ⟨R, hR⟩ : ∃ R, idxM t l = R := ⟨_, rfl⟩
  rw [hR]
  have HR := Lib.hid hR
  have H := Lib.hid (And.intro h (And.intro hn (And.intro hx hlt)))
  clear h hR hx hlt
  go_enter Try.func54, Try.ntmps54
  go_wp2
  go_loopw [8] (fun v8 wr => ∃ k : Nat, v8 = .int .i64 (k : Int) ∧ k ≤ n ∧ (∀ j (hj : j < l.length), j < k → ¬ l[j].s ≤ t) ∧ Below w.heap.size w wr) (fun v8 _ => n - (intOf v8).toNat)
  case atStart => exact ⟨0, rfl, Nat.zero_le _, fun j hj h => by omega, Below.refl _ _⟩
  case round =>
    obtain ⟨k, rfl, hk, hno, hbel⟩ := hrel
    by_cases hkn : k < n
    · have q1 : (k : Int) < (n : Int) := by omega
      have q0 : (0 : Int) ≤ (k : Int) := by omega
      have hkl : k < l.length := by rw [H.out.2.1]; exact hkn
      obtain ⟨b, o, rfl, hr⟩ := (H.out.1.below hbel).at_ hkl
      have hyes : Hid ((l[k]'hkl).s ≤ t → R = (k : Int)) := Lib.hid fun hy => by rw [← HR.out]; exact idxM_drop hno hkl hy
      have hno' : Hid (¬ (l[k]'hkl).s ≤ t → ∀ j (hj : j < l.length), j < k + 1 → ¬ l[j].s ≤ t) := Lib.hid fun hy j hj hjk => by
        by_cases e : j = k
        · subst e; exact hy
        · exact hno j hj (by omega)
      have hx' : wr.cell? ⟨bx, 0, none⟩ = some (.int .i64 t) := (hbel.cell (p := ⟨bx, 0, none⟩) H.out.2.2.2).trans H.out.2.2.1
      have hc := Lib.hid (clo2_any (l[k]'hkl) t bx wr hx' (Nat.lt_of_lt_of_le H.out.2.2.2 hbel.size))
      have hr' := Lib.hid (And.intro hr (mark_infoL (l[k]'hkl)))
      have Hb := Lib.hid hbel
      clear hr hno hx' hbel
      generalize l[k]'hkl = y at *
      generalize mkC y = X at *
      by_cases hy : y.s ≤ t
      · obtain rfl := hyes.out hy
        have hd : decide (y.s ≤ t) = true := by simpa using hy
        rw [hd] at hc
        go_wp2_with (first
          | (refine load_mid_g rfl 28 _ rfl b (o + k * 33) rfl X _ hr'.out.1 Try.underlying28 rfl hr'.out.2 ?_; simp only [Act.put])
          | (go_at_call 37; refine hc.out.mono ?_; rintro e w' ⟨rfl, hg⟩; replace hg := Lib.hid hg))
        go_ret
        exact ⟨rfl, Hb.out.trans (hg.out.below.mono Hb.out.size)⟩
      · have hd : decide (y.s ≤ t) = false := by simpa using hy
        rw [hd] at hc
        go_wp2_with (first
          | (refine load_mid_g rfl 28 _ rfl b (o + k * 33) rfl X _ hr'.out.1 Try.underlying28 rfl hr'.out.2 ?_; simp only [Act.put])
          | (go_at_call 37; refine hc.out.mono ?_; rintro e w' ⟨rfl, hg⟩; replace hg := Lib.hid hg))
        go_roundw
        case rel => exact ⟨k + 1, by go_num, by omega, fun j hj hjk => Int.not_le.2 (hno'.out hy j hj hjk), Hb.out.trans (hg.out.below.mono Hb.out.size)⟩
        case measure => simp [intOf]; omega
    · have q1 : ¬ (k : Int) < (n : Int) := by omega
      have hR1 : R = -1 := by
        rw [← HR.out]
        exact idxM_all fun j hj => hno j hj (by have := H.out.2.1; omega)
      subst hR1
      have Hb := Lib.hid hbel
      clear hno hbel
      go_wp2
      go_ret
      exact ⟨rfl, Hb.out⟩
end Go.Proofs.Ytenccpccpjjkmaa
