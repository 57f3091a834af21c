/-
  Laid together for a hand-in: Two9, Digs9, Duo9, ListsZ, Cop9.
-/
import Derived.Test.YtbdocaohnigekaaGreatZ15
import Derived.Test.YtbdocaohnigekaaGreatZ10
import Derived.Test.YtbdocaohnigekaaGreatZ16

namespace Go.Proofs.YtbdocaohnigekaaGreat
open Go.RowKit Go.Maps
set_option linter.unusedVariables false

theorem leaf_long (v : Value) (A : Option Addr) (n c : Nat) (w : World) (h : 65535 < n) :
    Calls Tryz.prog 29 #[v, .slice A n c] w fun e w' => e = .returned (.tuple #[.agg (cbs (List.replicate 32 0)).toArray, .int .i64 5]) ∧ Below w.heap.size w w' := by
  have b0 : Below w.heap.size w (w.alloc (.cells (cbs (List.replicate 32 0)).toArray 46)) := (Below.refl _ _).alloc (Nat.le_refl _) _
  have hZ : Blk (w.alloc (.cells (cbs (List.replicate 32 0)).toArray 46)) w.heap.size 46 (cbs (List.replicate 32 0)) := Blk.new rfl rfl
  have hth : (w.alloc (.cells (cbs (List.replicate 32 0)).toArray 46)).there w.heap.size 0 (cbs (List.replicate 32 0)).toArray.size := hZ.there
  have hR := hZ.setAll (vs := cbs (List.replicate 32 0)) rfl
  have hb1 : Below w.heap.size w ((w.alloc (.cells (cbs (List.replicate 32 0)).toArray 46)).setCells w.heap.size 0 (cbs (List.replicate 32 0))) := Below.setCells (Nat.le_refl _) _ b0
  have Hb := Lib.hid (And.intro hth (And.intro hR hb1))
  clear b0 hZ hth hR hb1
  go_enter Tryz.func29, Tryz.ntmps29
  go_wp2_with (first | (go_at_call 42; refine (isLong_yes A n c _ h).mono ?_; rintro e w' ⟨rfl, rfl⟩) | (refine wpList_store_mid rfl 46 _ _ rfl w.heap.size 0 (cbs (List.replicate 32 0)).toArray rfl rfl Hb.out.1 info32b (cbs_one' _) ?_))
  refine bodyPost_ret (results_row_tmp rfl _ _ w.heap.size 46 (cbs (List.replicate 32 0)).toArray (0, 0) _ rfl Hb.out.2.1 Tryz.underlying46 rfl info32b) rfl ?_
  exact ⟨rfl, Hb.out.2.2⟩

set_option maxRecDepth 100000 in
set_option maxHeartbeats 800000 in
theorem tset_long {w : World} {M : Nat → Prop} {t g : Nat} {low : List Dg} (h : TreeAt w M t g low) (i : Nat) (hi : i < low.length) (A : Option Addr) (n c : Nat) (hn : 65535 < n) :
    Calls Tryz.prog 11 #[.pointer (some ⟨t, 0, none⟩), .int .i64 (i : Int), .slice A n c] w fun e w' => e = .returned (.int .i64 5) ∧ Below w.heap.size w w' := by
  obtain ⟨L, R, lv, cc, hT⟩ := h
  have hd1 := dep_pos low.length
  have hblk := hT.blk
  have hd6 := dep_le hT.l2
  obtain ⟨d, hd⟩ : ∃ d, dep low.length = d := ⟨_, rfl⟩
  rw [hd] at hblk hd1 hd6
  have c0 : w.cell? ⟨t, 0, none⟩ = some (.pointer (some ⟨g, 0, none⟩)) := hblk.cell rfl
  have c1 : w.cell? ⟨t, 1, none⟩ = some (.int .i64 (low.length : Int)) := hblk.cell rfl
  have Hno := Lib.hid (tnone_no t g low.length lv d cc w hblk hd1)
  obtain ⟨D, hD⟩ : ∃ D, cbs (List.replicate 32 0) = D := ⟨_, rfl⟩
  have hD32 : D.length = 32 := by rw [← hD]; rfl
  have hD1 : D.toArray.all (·.oneCell') = true := by rw [← hD]; exact cbs_one' _
  have hlf := leaf_long (.pointer (some ⟨g, 0, none⟩)) A n c w hn
  rw [hD] at hlf
  have Hlf := Lib.hid hlf
  have HD := Lib.hid (And.intro hD32 hD1)
  have Ht := Lib.hid (And.intro hblk hblk.lt)
  have hi0 : 0 ≤ (i : Int) := by omega
  have hi1 : (i : Int) < (low.length : Int) := by omega
  have hi2 : ¬ ((i : Int) ≥ (low.length : Int)) := by omega
  have hi3 : decide ((i : Int) < 0) = false := by simp
  clear hlf hT hD hD32 hD1 hblk hi hd
  go_enter Tryz.func11, Tryz.ntmps11
  go_wp2_with (go_at_call 36; refine Hno.out.mono ?_; rintro e w ⟨rfl, rfl⟩)
  refine Hlf.out.mono ?_
  rintro e w1 ⟨rfl, hb1⟩
  obtain ⟨wS, hwS, ⟨hth, hiS⟩, hbS, hbel, hszS⟩ := dig_local w1 D HD.out.1
  have hb2 : Below w.heap.size w wS := hb1.trans (hbel.mono hb1.size)
  have hts : Blk wS t 75 (tcells g low.length lv d cc) := (hb2.block t Ht.out.2).trans Ht.out.1
  have c2 : wS.cell? ⟨t, 2, none⟩ = some (.slice (some ⟨lv, 0, none⟩) d cc) := hts.cell rfl
  have HwS := Lib.hid hwS
  have Hs := Lib.hid (And.intro hth (And.intro hiS HD.out.2))
  have H2 := Lib.hid hb2
  clear hwS hth hiS hbS hbel hszS hts hb1 hb2 c0 c1
  go_wp2_with (refine wpList_store_mid rfl 46 _ _ rfl w1.heap.size 0 D.toArray rfl rfl Hs.out.1 Hs.out.2.1 Hs.out.2.2 ?_; simp only [Act.put]; refine cast (congrArg (fun z => wpList _ _ _ _ _ z) HwS.out.symm) ?_)
  clear c2 HwS
  go_loopw [1, 8, 10, 11, 12] (fun a e n _ _ wr => e = .int .i64 5 ∧ n = .int .i64 0 ∧ wr = wS) (fun _ _ n _ _ _ => 0)
  case atStart => exact ⟨rfl, rfl, rfl⟩
  case round =>
    obtain ⟨rfl, rfl, rfl⟩ := hrel
    have hp : (0 : Int) ≤ (d : Int) - 1 := by omega
    go_wp2
    go_ret
    exact ⟨rfl, H2.out⟩

/-- Two trees over one book. -/
structure St2 (w0 : World) (g bm t u many : Nat) (M1 M2 N : Nat → Prop) (bnd : Nat) (lt lu : List Dg) (s : Bk) (w : World) : Prop where
  one : TreeAt w M1 t g lt
  two : TreeAt w M2 u g lu
  kb : Kb w0.heap.size w g bm s N
  sub1 : ∀ i, M1 i → N i
  sub2 : ∀ i, M2 i → N i
  dis : ∀ i, M1 i → ¬ M2 i
  ge1 : ∀ i, M1 i → w0.heap.size ≤ i
  ge2 : ∀ i, M2 i → w0.heap.size ≤ i
  len1 : lt.length = many
  len2 : lu.length = many
  b1 : s.1.length ≤ bnd
  b2 : s.2.2 ≤ bnd
  bel : Below w0.heap.size w0 w

section
variable {w0 w w' : World} {g bm t u many bnd : Nat} {M1 M2 N : Nat → Prop} {lt lu : List Dg} {s : Bk}
theorem St2.below (h : St2 w0 g bm t u many M1 M2 N bnd lt lu s w) (hb : Below w.heap.size w w') : St2 w0 g bm t u many M1 M2 N bnd lt lu s w' :=
  ⟨h.one.below hb, h.two.below hb, h.kb.below hb, h.sub1, h.sub2, h.dis, h.ge1, h.ge2, h.len1, h.len2, h.b1, h.b2, h.bel.trans (hb.mono h.bel.size)⟩
theorem St2.drew (h : St2 w0 g bm t u many M1 M2 N bnd lt lu s w) : St2 w0 g bm t u many M1 M2 N bnd lt lu s w.drew := h.below ((Below.refl _ _).drew)
theorem St2.more {b' : Nat} (h : St2 w0 g bm t u many M1 M2 N bnd lt lu s w) (hb : bnd ≤ b') : St2 w0 g bm t u many M1 M2 N b' lt lu s w :=
  ⟨h.one, h.two, h.kb, h.sub1, h.sub2, h.dis, h.ge1, h.ge2, h.len1, h.len2, Nat.le_trans h.b1 hb, Nat.le_trans h.b2 hb, h.bel⟩
theorem St2.swap (h : St2 w0 g bm t u many M1 M2 N bnd lt lu s w) : St2 w0 g bm u t many M2 M1 N bnd lu lt s w :=
  ⟨h.two, h.one, h.kb, h.sub2, h.sub1, fun i h1 h2 => h.dis i h2 h1, h.ge2, h.ge1, h.len2, h.len1, h.b1, h.b2, h.bel⟩
theorem St2.set (h : St2 w0 g bm t u many M1 M2 N bnd lt lu s w) (hb : bnd ≤ 20000) (hd : many ≤ 1024) (i : Nat) (hi : i < many) (A : Option Addr) (nx cp : Nat) (x : List UInt8) (hBx : Bs w A x) (hnx : x.length = nx) (hcx : nx ≤ cp) (hcm : cp ≤ maxLen) (hx : nx ≤ 65535) :
    Calls Tryz.prog 11 #[.pointer (some ⟨t, 0, none⟩), .int .i64 (i : Int), .slice A nx cp] w fun e w' =>
      e = .returned (.int .i64 0) ∧ St2 w0 g bm t u many M1 M2 N (bnd + 8) (lowSet lt i x) lu (noteAll s (setIns lt i x (dep lt.length - 1))) w' := by
  have hb1 := h.b1
  have hb2 := h.b2
  have hl := h.len1
  refine (tset_any w0.heap.size bm s N h.one h.kb h.bel.size h.sub1 (by omega) (by omega) i (by omega) A nx cp x hBx hnx hcx hcm hx).mono ?_
  rintro e w' ⟨rfl, hT, hK, hO⟩
  have h3 := noteAll_len s (setIns lt i x (dep lt.length - 1))
  have h4 := setIns_len lt i x (dep lt.length - 1)
  have h5 : dep lt.length ≤ 6 := dep_le (by omega)
  have h6 := dep_pos lt.length
  refine ⟨rfl, hT, h.two.out hO (fun j hj hs => ?_), hK, h.sub1, h.sub2, h.dis, h.ge1, h.ge2, by rw [lowSet_len]; exact hl, h.len2, by omega, by omega, h.bel.trans (hO.above (fun j hj => by
    rcases hj with hj | hj
    · exact hj.1
    · exact h.ge1 j hj) h.bel.size)⟩
  rcases hs with hs | hs
  · exact Tn.keep (h.sub2 j hj) hs
  · exact h.dis j hs hj
/-- Whatever the leaf. -/
theorem St2.sets (h : St2 w0 g bm t u many M1 M2 N bnd lt lu s w) (hb : bnd ≤ 20000) (hd : many ≤ 1024) (i : Nat) (hi : i < many) (A : Option Addr) (nx cp : Nat) (x : List UInt8) (hBx : Bs w A x) (hnx : x.length = nx) (hcx : nx ≤ cp) (hcm : cp ≤ maxLen) :
    Calls Tryz.prog 11 #[.pointer (some ⟨t, 0, none⟩), .int .i64 (i : Int), .slice A nx cp] w fun e w' =>
      ∃ (c : Int) (lt' : List Dg) (s' : Bk), e = .returned (.int .i64 c) ∧ St2 w0 g bm t u many M1 M2 N (bnd + 8) lt' lu s' w' := by
  by_cases hx : nx ≤ 65535
  · refine (h.set hb hd i hi A nx cp x hBx hnx hcx hcm hx).mono ?_
    rintro e w' ⟨rfl, hS⟩
    exact ⟨0, _, _, rfl, hS⟩
  · refine (tset_long h.one i (by rw [h.len1]; exact hi) A nx cp (by omega)).mono ?_
    rintro e w' ⟨rfl, hb⟩
    exact ⟨5, _, _, rfl, (h.below hb).more (by omega)⟩
end

theorem low_done (xs : List (List UInt8)) (low : List Dg) (h : low.length = xs.length) (he : ∀ j (hj : j < xs.length), low[j]? = some (digest (leafIn xs[j]))) : low = lows xs := by
  apply List.ext_getElem?
  intro j
  by_cases hj : j < xs.length
  · rw [he j hj]
    unfold lows
    rw [List.getElem?_map, List.getElem?_eq_getElem hj]; rfl
  · rw [List.getElem?_eq_none (by omega), List.getElem?_eq_none (by rw [lows_len]; omega)]
theorem lowSet_at (low : List Dg) (i : Nat) (x : List UInt8) (hi : i < low.length) : (lowSet low i x)[i]? = some (digest (leafIn x)) := by
  unfold lowSet; rw [List.getElem?_set_self hi]
theorem lowSet_ne (low : List Dg) (i j : Nat) (x : List UInt8) (h : i ≠ j) : (lowSet low i x)[j]? = low[j]? := by
  unfold lowSet; rw [List.getElem?_set_ne h]
end Go.Proofs.YtbdocaohnigekaaGreat

namespace Go.Proofs.YtbdocaohnigekaaGreat
open Go.ChangeShapes Go.WideShapes Go.ChangeAt Go.RowKit
set_option linter.unusedVariables false

def ArgG (w : World) (A : Option Addr) (n c : Nat) (ds : List Dg) : Prop := ds.length = n ∧ n ≤ c ∧ c ≤ maxLen ∧ All32 ds ∧ Ds w A ds

section
variable {H : Type} {enc : TypeId × Value → H} {w : World}
theorem trod_dg {fuel : Nat} {cs : List Value} {x : DataW H × List MemPlace} (h : DataW.trod enc Tryz.prog w 0 (fun _ => true) true fuel 46 cs = some x) : ∃ d : Dg, d.length = 32 ∧ ∀ i, i < 32 → cs[i]? = (cbs d)[i]? := by
  obtain ⟨ys, m, _, _, _, hlen, hel⟩ := DataW.trod_array Tryz.underlying46 h
  have hc : Tryz.prog.cellsOf 5 = 1 := by kernel_rfl
  have key : ∀ i, i < 32 → ∃ b : UInt8, cs[i]? = some (cb b) := fun i hi => by
    have h1 := hel i hi
    have hy : ∃ y, ys[i]? = some y := ⟨_, List.getElem?_eq_getElem (by omega)⟩
    obtain ⟨y, hy⟩ := hy
    rw [hc, hy, Nat.mul_one] at h1
    obtain ⟨a, ea, _, wa⟩ := DataW.trod_int Tryz.underlying5 h1
    refine ⟨UInt8.ofNat a.toNat, (one_of ea).trans ?_⟩
    show some (Value.int .u8 a) = some (Value.int .u8 (((UInt8.ofNat a.toNat).toNat : Nat) : Int))
    rw [← wf_u8 wa]
  obtain ⟨d, hd, hds⟩ := choose_any 32 key
  refine ⟨d, hd, fun i hi => ?_⟩
  rw [hds i (by omega), cbs_get, List.getElem?_eq_getElem (by omega)]
  rfl
theorem ds_of {A : Option Addr} {ds : List Dg} {b off : Nat} (h32 : All32 ds) (hA : A = some ⟨b, off, none⟩) (hb : b < w.heap.size) (h : ∀ r (hr : r < ds.length), ∀ i, i < 32 → w.cell? ⟨b, off + r * 32 + i, none⟩ = (cbs ds[r])[i]?) : Ds w A ds := by
  refine ⟨by rw [cbs_length, flat_len h32]; omega, fun _ => ⟨b, off, hA, hb, fun j u hu => ?_⟩⟩
  have hj : j < 32 * ds.length := by
    rcases Nat.lt_or_ge j (cbs ds.flatten).length with h' | h'
    · rw [cbs_length, flat_len h32] at h'; exact h'
    · rw [List.getElem?_eq_none h'] at hu; cases hu
  have hr : j / 32 < ds.length := by omega
  have h1 := h (j / 32) hr (j % 32) (by omega)
  rw [show off + j / 32 * 32 + j % 32 = off + j by omega] at h1
  rw [h1, ← flat_get h32 hr, cbs_take, cbs_drop, List.getElem?_take_of_lt (by omega), List.getElem?_drop, show 32 * (j / 32) + j % 32 = j by omega]
  exact hu
theorem openG {A : Option Addr} {n c : Nat} {d : DataW H} {p : List MemPlace} (h : DataW.Trod enc Tryz.prog w 0 (fun _ => true) true 41 (.slice A n c) d p) : ∃ l, ArgG w A n c l := by
  obtain ⟨fuel, hf⟩ := h
  have hC : Tryz.prog.cellsOf 46 = 32 := by kernel_rfl
  rcases Go.Deep.open_slice Tryz.underlying41 hf with ⟨hcs, _⟩ | ⟨a, len, cap, m, k, D, Pl, hcs, _, hl, hm, hmm, _, hi⟩
  · simp [Value.cells] at hcs
    obtain ⟨rfl, rfl, rfl⟩ := hcs
    exact ⟨[], rfl, Nat.le_refl _, by simp [maxLen], fun d hd => by simp at hd, Ds.nil _ _⟩
  · simp [Value.cells] at hcs
    obtain ⟨rfl, rfl, rfl⟩ := hcs
    rw [hC] at hi
    have hm' : n ≤ m := by rw [hmm]; simp; omega
    rcases Nat.eq_zero_or_pos n with h0 | hpos
    · subst h0
      exact ⟨[], rfl, hl, hm, fun d hd => by simp at hd, Ds.nil _ _⟩
    have hs : a.spot = none := by
      obtain ⟨cs', hc, ht⟩ := hi 0 (by omega)
      obtain ⟨x, hx, k0⟩ := trod_dg ht
      obtain ⟨_, _, hat⟩ := World.cells?_some hc
      have h1 := hat 0 (by omega)
      rw [k0 0 (by omega), cbs_get, List.getElem?_eq_getElem (by omega)] at h1
      have e : a.add (0 * 32) = a := by unfold Addr.add; simp
      rw [e] at h1
      exact spot_of h1
    obtain ⟨b, off, spot⟩ := a
    simp only at hs
    subst hs
    have key : ∀ r, r < n → ∃ x : Dg, x.length = 32 ∧ ∀ i, i < 32 → w.cell? ⟨b, off + r * 32 + i, none⟩ = (cbs x)[i]? := fun r hr => by
      obtain ⟨cs', hc, ht⟩ := hi r (by omega)
      obtain ⟨x, hx, k0⟩ := trod_dg ht
      obtain ⟨_, _, hat⟩ := World.cells?_some hc
      refine ⟨x, hx, fun i hi => ?_⟩
      have := hat i (by omega)
      rw [add_mk, add_mk] at this
      exact this.trans (k0 i hi)
    obtain ⟨ls, hlen, hls⟩ := choose_any n key
    have h32 : All32 ls := fun d hd => by
      obtain ⟨j, hj, rfl⟩ := List.mem_iff_getElem.1 hd
      exact (hls j hj).1
    have hlt : b < w.heap.size := by
      obtain ⟨hx, h0⟩ := hls 0 (by omega)
      have h1 := h0 0 (by omega)
      rw [cbs_get, List.getElem?_eq_getElem (by omega)] at h1
      exact World.block_lt_of_cell? w _ h1
    exact ⟨ls, hlen, hl, hm, h32, ds_of h32 rfl hlt fun r hr i hi => (hls r hr).2 i hi⟩
end

theorem up_off (v : Value) (A : Option Addr) (n c : Nat) (w : World) (h : n < 1 ∨ 4 < n) :
    Calls Tryz.prog 27 #[v, .slice A n c] w fun e w' => e = .returned (.tuple #[.agg (cbs (List.replicate 32 0)).toArray, .int .i64 2]) ∧ Below w.heap.size w w' := by
  have b0 : Below w.heap.size w (w.alloc (.cells (cbs (List.replicate 32 0)).toArray 46)) := (Below.refl _ _).alloc (Nat.le_refl _) _
  have hZ : Blk (w.alloc (.cells (cbs (List.replicate 32 0)).toArray 46)) w.heap.size 46 (cbs (List.replicate 32 0)) := Blk.new rfl rfl
  have hth : (w.alloc (.cells (cbs (List.replicate 32 0)).toArray 46)).there w.heap.size 0 (cbs (List.replicate 32 0)).toArray.size := hZ.there
  have hR := hZ.setAll (vs := cbs (List.replicate 32 0)) rfl
  have hb1 : Below w.heap.size w ((w.alloc (.cells (cbs (List.replicate 32 0)).toArray 46)).setCells w.heap.size 0 (cbs (List.replicate 32 0))) := Below.setCells (Nat.le_refl _) _ b0
  have Hb := Lib.hid (And.intro hth (And.intro hR hb1))
  clear b0 hZ hth hR hb1
  obtain ⟨hc, _⟩ : ((decide ((n : Int) < 1) = true) ∨ (decide ((n : Int) < 1) = false ∧ decide ((4 : Int) < (n : Int)) = true)) ∧ True := ⟨by
    by_cases h0 : n < 1
    · exact .inl (by simp; omega)
    · exact .inr ⟨by simp; omega, by simp; omega⟩, trivial⟩
  clear h
  rcases hc with h1 | ⟨h1, h2⟩
  all_goals
    go_enter Tryz.func27, Tryz.ntmps27
    go_wp2_with (refine wpList_store_mid rfl 46 _ _ rfl w.heap.size 0 (cbs (List.replicate 32 0)).toArray rfl rfl Hb.out.1 info32b (cbs_one' _) ?_)
    refine bodyPost_ret (results_row_tmp rfl _ _ w.heap.size 46 (cbs (List.replicate 32 0)).toArray (0, 0) _ rfl Hb.out.2.1 Tryz.underlying46 rfl info32b) rfl ?_
    exact ⟨rfl, Hb.out.2.2⟩
end Go.Proofs.YtbdocaohnigekaaGreat

namespace Go.Proofs.YtbdocaohnigekaaGreat
open Go.RowKit Go.Maps
set_option linter.unusedVariables false

/-- The program's book is s, the document's r; both lie at B or beyond, apart, and are none of N. -/
def Duo9 (B : Nat) (w : World) (g bm : Nat) (s : Bk) (gr : Nat) (r : Lk) (N : Nat → Prop) : Prop :=
  ∃ (Sa Sr : Nat → Prop) (v : Value), BookS w Sa g bm s ∧ RefBk w Sr gr v r.1 r.2 ∧ (∀ i, Sa i → B ≤ i ∧ (i = bm ∨ IsC w i)) ∧ (∀ i, Sr i → B ≤ i ∧ IsC w i) ∧ (∀ i, Sa i → ¬ Sr i) ∧ ∀ i, N i → i < w.heap.size ∧ ¬ Sa i ∧ ¬ Sr i
/-- What both are: the same inputs. -/
def lk (s : Bk) : Lk := (s.1, s.2.2)
theorem step_lk (s : Bk) (x : List UInt8) : stepR (lk s) x = lk (stepL s x) := by
  unfold stepR lk rofL stepL ofL noteL
  by_cases hl : x.length ≤ 65536
  · rw [if_pos hl, if_pos hl]
    by_cases hx : x ∈ s.1
    · rw [if_pos hx, if_pos hx]
    · rw [if_neg hx, if_neg hx]
  · rw [if_neg hl, if_neg hl]
theorem note_lk (s : Bk) (ls : List (List UInt8)) : noteR (lk s) ls = lk (noteAll s ls) := by
  induction ls generalizing s with
  | nil => rfl
  | cons x ls ih =>
    show noteR (stepR (lk s) x) ls = lk (noteAll (stepL s x) ls)
    rw [step_lk, ih]

section
variable {B g bm gr : Nat} {w w' : World} {s s' : Bk} {r r' : Lk} {N N' : Nat → Prop}
theorem Duo9.other (h : Duo9 B w g bm s gr r N) (hz : w.heap.size ≤ w'.heap.size) (hk : ∀ i, i < w.heap.size → ¬ N i → w'.heap[i]? = w.heap[i]?) (hN : ∀ i, N' i → N i ∨ (w.heap.size ≤ i ∧ i < w'.heap.size)) : Duo9 B w' g bm s gr r N' := by
  obtain ⟨Sa, Sr, v, h1, h2, h3, h4, h5, h6⟩ := h
  have ea : ∀ i, Sa i → w'.heap[i]? = w.heap[i]? := fun i hi => hk i (h1.lt hi) fun e => (h6 i e).2.1 hi
  have er : ∀ i, Sr i → w'.heap[i]? = w.heap[i]? := fun i hi => hk i (h2.lt i hi) fun e => (h6 i e).2.2 hi
  refine ⟨Sa, Sr, v, BookM.stay h1 hz ea, h2.stay hz er, fun i hi => ⟨(h3 i hi).1, ?_⟩, fun i hi => ⟨(h4 i hi).1, ?_⟩, h5, fun i hi => ?_⟩
  · rcases (h3 i hi).2 with h | ⟨cs, t, fr, hc⟩
    · exact .inl h
    · exact .inr ⟨cs, t, fr, (ea i hi).trans hc⟩
  · obtain ⟨cs, t, fr, hc⟩ := (h4 i hi).2
    exact ⟨cs, t, fr, (er i hi).trans hc⟩
  · rcases hN i hi with h | h
    · exact ⟨Nat.lt_of_lt_of_le (h6 i h).1 hz, (h6 i h).2⟩
    · exact ⟨h.2, fun e => by have := h1.lt e; omega, fun e => by have := h2.lt i e; omega⟩
theorem Duo9.below (h : Duo9 B w g bm s gr r N) (hb : Below w.heap.size w w') : Duo9 B w' g bm s gr r N := h.other hb.size (fun i hi _ => hb.block i hi) fun i hi => .inl hi
theorem Duo9.belowN (h : Duo9 B w g bm s gr r N) (hb : Below w.heap.size w w') (hN : ∀ i, N' i → N i ∨ (w.heap.size ≤ i ∧ i < w'.heap.size)) : Duo9 B w' g bm s gr r N' := h.other hb.size (fun i hi _ => hb.block i hi) hN
theorem Duo9.less (h : Duo9 B w g bm s gr r N) (hN : ∀ i, N' i → N i) : Duo9 B w g bm s gr r N' := h.other (Nat.le_refl _) (fun _ _ _ => rfl) fun i hi => .inl (hN i hi)
theorem Duo9.lt (h : Duo9 B w g bm s gr r N) {i : Nat} (hi : N i) : i < w.heap.size := by obtain ⟨_, _, _, _, _, _, _, _, h⟩ := h; exact (h i hi).1
def Ab (B : Nat) (N : Nat → Prop) (j : Nat) : Prop := B ≤ j ∧ ¬ N j
theorem Ab.keep {i : Nat} (hi : N i) : ¬ Ab B N i := fun h => h.2 hi
theorem duo_a {F : Nat} {args : Array Value} {Q : Ending → Prop} (h : Duo9 B w g bm s gr r N) (hc : ∀ N', (∀ i, N i → N' i) → Kb B w g bm s N' → Calls Tryz.prog F args w fun e w' => Q e ∧ Kb B w' g bm s' N' ∧ Out (Tn B bm w N') w w') :
    Calls Tryz.prog F args w fun e w' => Q e ∧ Duo9 B w' g bm s' gr r N ∧ Out (Ab B N) w w' := by
  obtain ⟨Sa, Sr, v, h1, h2, h3, h4, h5, h6⟩ := h
  refine (hc (fun i => N i ∨ Sr i) (fun i hi => .inl hi) ⟨Sa, h1, h3, fun i hi => ?_⟩).mono ?_
  · rcases hi with hi | hi
    · exact ⟨(h6 i hi).1, (h6 i hi).2.1⟩
    · exact ⟨h2.lt i hi, fun e => h5 i e hi⟩
  · rintro e w' ⟨hq, ⟨Sa', k1, k2, k3⟩, hO⟩
    have er : ∀ i, Sr i → w'.heap[i]? = w.heap[i]? := fun i hi => hO.block i (h2.lt i hi) (Tn.keep (.inr hi))
    refine ⟨hq, ⟨Sa', Sr, v, k1, h2.stay hO.size er, k2, fun i hi => ⟨(h4 i hi).1, ?_⟩, fun i ha hr => (k3 i (.inr hr)).2 ha, fun i hi => ⟨Nat.lt_of_lt_of_le (h6 i hi).1 hO.size, (k3 i (.inl hi)).2, (h6 i hi).2.2⟩⟩, hO.wide fun i hi hs => ⟨hs.1, fun e => hs.2.1 (.inl e)⟩⟩
    obtain ⟨cs, t, fr, hc⟩ := (h4 i hi).2
    exact ⟨cs, t, fr, (er i hi).trans hc⟩
theorem duo_b {F : Nat} {args : Array Value} {Q : Ending → Prop} (h : Duo9 B w g bm s gr r N) (hc : ∀ N', (∀ i, N i → N' i) → Rb B w gr r N' → Calls Tryz.prog F args w fun e w' => Q e ∧ Rb B w' gr r' N' ∧ Out (Tr B w N') w w') :
    Calls Tryz.prog F args w fun e w' => Q e ∧ Duo9 B w' g bm s gr r' N ∧ Out (Ab B N) w w' := by
  obtain ⟨Sa, Sr, v, h1, h2, h3, h4, h5, h6⟩ := h
  refine (hc (fun i => N i ∨ Sa i) (fun i hi => .inl hi) ⟨Sr, v, h2, h4, fun i hi => ?_⟩).mono ?_
  · rcases hi with hi | hi
    · exact ⟨(h6 i hi).1, (h6 i hi).2.2⟩
    · exact ⟨h1.lt hi, h5 i hi⟩
  · rintro e w' ⟨hq, ⟨Sr', v', k1, k2, k3⟩, hO⟩
    have ea : ∀ i, Sa i → w'.heap[i]? = w.heap[i]? := fun i hi => hO.block i (h1.lt hi) (Tr.keep (.inr hi))
    refine ⟨hq, ⟨Sa, Sr', v', BookM.stay h1 hO.size ea, k1, fun i hi => ⟨(h3 i hi).1, ?_⟩, k2, fun i ha hr => (k3 i (.inr ha)).2 hr, fun i hi => ⟨Nat.lt_of_lt_of_le (h6 i hi).1 hO.size, (h6 i hi).2.1, (k3 i (.inl hi)).2⟩⟩, hO.wide fun i hi hs => ⟨hs.1, fun e => hs.2.1 (.inl e)⟩⟩
    rcases (h3 i hi).2 with h | ⟨cs, t, fr, hc⟩
    · exact .inl h
    · exact .inr ⟨cs, t, fr, (ea i hi).trans hc⟩
theorem duo_new {w1 w2 : World} {S : Nat → Prop} (hS : ∀ i, S i → w.heap.size ≤ i) (h : BookM w1 S g bm [] false 0) (hb1 : Below w.heap.size w w1) (hr : RefBk w2 (fun i => i = gr) gr nilS [] 0) (hg : gr = w1.heap.size) (hb2 : Below w1.heap.size w1 w2) :
    Duo9 w.heap.size w2 g bm ([], false, 0) gr ([], 0) (fun _ => False) := by
  have h1 := BookS.cells (s := ([], false, 0)) h
  have ea : ∀ i, S i → w2.heap[i]? = w1.heap[i]? := fun i hi => hb2.block i (BookM.lt h hi)
  refine ⟨_, _, _, BookM.stay h1 hb2.size fun i hi => ea i hi.1, hr.cells, fun i hi => ⟨hS i hi.1, ?_⟩, fun i hi => ⟨by have := hb1.size; omega, hi.2⟩, fun i ha hr => by have := BookM.lt h ha.1; have := hr.1; omega, fun i hi => hi.elim⟩
  rcases hi.2 with h | ⟨cs, t, fr, hc⟩
  · exact .inl h
  · exact .inr ⟨cs, t, fr, (ea i hi.1).trans hc⟩
theorem duo_len (h : Duo9 B w g bm s gr r N) : Calls Tryz.prog 23 #[.pointer (some ⟨g, 0, none⟩)] w fun e w' => e = .returned (.int .i64 (s.1.length : Int)) ∧ w' = w := by
  obtain ⟨Sa, Sr, v, h1, _⟩ := h
  exact blen_any g bm _ _ _ w h1.1
theorem duo_rlen (h : Duo9 B w g bm s gr r N) : Calls Tryz.prog 24 #[.pointer (some ⟨gr, 0, none⟩)] w fun e w' => e = .returned (.int .i64 (r.1.length : Int)) ∧ w' = w := by
  obtain ⟨Sa, Sr, v, _, h2, _⟩ := h
  exact rblen_any h2
theorem Out.ab {w1 w2 : World} {N1 : Nat → Prop} (h : Out (Ab B N) w w1) (k : Out (Ab B N1) w1 w2) (hN : ∀ i, i < w.heap.size → N i → N1 i) : Out (Ab B N) w w2 :=
  h.trans k fun i hi hs => ⟨hs.1, fun e => hs.2 (hN i hi e)⟩
/-- What a call answers: a digest, and whether it went well. -/
def Said (d : Dg) (c : Int) (e : Ending) : Prop := e = .returned (.tuple #[.agg (cbs d).toArray, .int .i64 c])

/-- Of, of both. -/
theorem duo_of (ls : List (List UInt8)) (n : Nat) (hn : ls.length = n) (h2 : n ≤ 1024) (s : Bk) (hL : s.1.length + 20000 < 1000000) (hk : s.2.2 + 20000 < 1000000) : ∃ d c s', d.length = 32 ∧ s'.1.length ≤ s.1.length + 6144 ∧ s'.2.2 ≤ s.2.2 + 6144 ∧
    (∀ (B g bm gr : Nat) (w : World) (r : Lk) (N K : Nat → Prop) (A : Option Addr) (cp : Nat), Duo9 B w g bm s gr r N → B ≤ w.heap.size → (n ≠ 0 → LvsAt w K A ls) → (∀ j, K j → j < w.heap.size ∧ (j < B ∨ N j)) → Calls Tryz.prog 25 #[.pointer (some ⟨g, 0, none⟩), .slice A n cp] w fun e w' => Said d c e ∧ Duo9 B w' g bm s' gr r N ∧ Out (Ab B N) w w') ∧
    (∀ (B g bm gr : Nat) (w : World) (t : Bk) (N K : Nat → Prop) (A : Option Addr) (cp : Nat), Duo9 B w g bm t gr (lk s) N → B ≤ w.heap.size → (n ≠ 0 → LvsAt w K A ls) → (∀ j, K j → j < w.heap.size ∧ (j < B ∨ N j)) → Calls Tryz.prog 26 #[.pointer (some ⟨gr, 0, none⟩), .slice A n cp] w fun e w' => Said d c e ∧ Duo9 B w' g bm t gr (lk s') N ∧ Out (Ab B N) w w') := by
  by_cases h0 : n = 0
  · refine ⟨List.replicate 32 0, 2, s, rfl, by omega, by omega, fun B g bm gr w r N K A cp h hB hl hK => (tof_zero _ A n cp w (by omega)).mono ?_, fun B g bm gr w t N K A cp h hB hl hK => (rtof_zero _ A n cp w (by omega)).mono ?_⟩
    · rintro e w' ⟨rfl, hb⟩; exact ⟨rfl, h.below hb, Out.ofBelow _ hb⟩
    · rintro e w' ⟨rfl, hb⟩; exact ⟨rfl, h.below hb, Out.ofBelow _ hb⟩
  · rcases first_long ls with hls | ⟨q, hq, hlong, hls⟩
    · have hrl : (rootD (lows ls)).length = 32 := root_len (by rw [lows_len]; omega) (all32_lows _)
      have h3 := noteAll_len s (insTo ls (dep n - 1))
      have h4 := insTo_len ls (by omega) (dep n - 1)
      have h5 := dep_le h2
      have h6 := dep_pos n
      have h7 : ls.length * (dep n - 1 + 1) ≤ 1024 * 6 := Nat.mul_le_mul (by omega) (by omega)
      refine ⟨rootD (lows ls), 0, noteAll s (insTo ls (dep n - 1)), hrl, by omega, by omega, fun B g bm gr w r N K A cp h hB hl hK => duo_a h fun N' hN hkb => ?_, fun B g bm gr w t N K A cp h hB hl hK => ?_⟩
      · exact tof_any B g bm s N' w hkb hB hL hk K A n cp ls hn (by omega) h2 hls (hl h0) fun j hj => ⟨(hK j hj).1, (hK j hj).2.imp id (hN j)⟩
      · rw [← note_lk]
        exact duo_b h fun N' hN hrb => rtof_any B gr (lk s) N' K A n cp ls w hrb hB hL hk hn (by omega) h2 hls (hl h0) fun j hj => ⟨(hK j hj).1, (hK j hj).2.imp id (hN j)⟩
    · refine ⟨List.replicate 32 0, 5, s, rfl, by omega, by omega, fun B g bm gr w r N K A cp h hB hl hK => (tof_long _ A n cp w (hl h0) hn (by omega) h2 (fun j hj => (hK j hj).1) q hq hlong hls).mono ?_, fun B g bm gr w t N K A cp h hB hl hK => (rtof_long _ A n cp w (hl h0) hn (by omega) h2 (fun j hj => (hK j hj).1) q hq hlong hls).mono ?_⟩
      · rintro e w' ⟨rfl, hb⟩; exact ⟨rfl, h.below hb, Out.ofBelow _ hb⟩
      · rintro e w' ⟨rfl, hb⟩; exact ⟨rfl, h.below hb, Out.ofBelow _ hb⟩
/-- Leaf, of both. -/
theorem duo_leaf (x : List UInt8) (n : Nat) (hn : x.length = n) (s : Bk) (hL : s.1.length < 1000000) (hk : s.2.2 < 1000000) : ∃ d c s', d.length = 32 ∧ s'.1.length ≤ s.1.length + 1 ∧ s'.2.2 ≤ s.2.2 + 1 ∧
    (∀ (B g bm gr : Nat) (w : World) (r : Lk) (N : Nat → Prop) (A : Option Addr) (cp : Nat), Duo9 B w g bm s gr r N → B ≤ w.heap.size → Bs w A x → n ≤ cp → cp ≤ maxLen → Calls Tryz.prog 29 #[.pointer (some ⟨g, 0, none⟩), .slice A n cp] w fun e w' => Said d c e ∧ Duo9 B w' g bm s' gr r N ∧ Out (Ab B N) w w') ∧
    (∀ (B g bm gr : Nat) (w : World) (t : Bk) (N : Nat → Prop) (A : Option Addr) (cp : Nat), Duo9 B w g bm t gr (lk s) N → B ≤ w.heap.size → Bs w A x → n ≤ cp → cp ≤ maxLen → Calls Tryz.prog 30 #[.pointer (some ⟨gr, 0, none⟩), .slice A n cp] w fun e w' => Said d c e ∧ Duo9 B w' g bm t gr (lk s') N ∧ Out (Ab B N) w w') := by
  by_cases h6 : n ≤ 65535
  · have h3 := stepL_len s (leafIn x)
    refine ⟨digest (leafIn x), 0, stepL s (leafIn x), dlen _, by omega, by omega, fun B g bm gr w r N A cp h hB hBx hc hcm => duo_a h fun N' hN hkb => leaf_kb B g bm s N' A n cp x w hkb hB hL hk hBx hn hc hcm h6, fun B g bm gr w t N A cp h hB hBx hc hcm => ?_⟩
    rw [← step_lk]
    exact duo_b h fun N' hN hrb => rleaf_any B gr (lk s) N' A n cp x w hrb hB hL hk hBx hn hc hcm h6
  · refine ⟨List.replicate 32 0, 5, s, rfl, by omega, by omega, fun B g bm gr w r N A cp h hB hBx hc hcm => (leaf_long _ A n cp w (by omega)).mono ?_, fun B g bm gr w t N A cp h hB hBx hc hcm => (rleaf_long _ A n cp w (by omega)).mono ?_⟩
    · rintro e w' ⟨rfl, hb⟩; exact ⟨rfl, h.below hb, Out.ofBelow _ hb⟩
    · rintro e w' ⟨rfl, hb⟩; exact ⟨rfl, h.below hb, Out.ofBelow _ hb⟩
/-- Up, of both. -/
theorem duo_up (ds : List Dg) (n : Nat) (hn : ds.length = n) (h32 : All32 ds) (s : Bk) (hL : s.1.length < 1000000) (hk : s.2.2 < 1000000) : ∃ d c s', d.length = 32 ∧ s'.1.length ≤ s.1.length + 1 ∧ s'.2.2 ≤ s.2.2 + 1 ∧
    (∀ (B g bm gr : Nat) (w : World) (r : Lk) (N : Nat → Prop) (A : Option Addr) (cp : Nat), Duo9 B w g bm s gr r N → B ≤ w.heap.size → Ds w A ds → n ≤ cp → cp ≤ maxLen → Calls Tryz.prog 27 #[.pointer (some ⟨g, 0, none⟩), .slice A n cp] w fun e w' => Said d c e ∧ Duo9 B w' g bm s' gr r N ∧ Out (Ab B N) w w') ∧
    (∀ (B g bm gr : Nat) (w : World) (t : Bk) (N : Nat → Prop) (A : Option Addr) (cp : Nat), Duo9 B w g bm t gr (lk s) N → B ≤ w.heap.size → Ds w A ds → n ≤ cp → cp ≤ maxLen → Calls Tryz.prog 28 #[.pointer (some ⟨gr, 0, none⟩), .slice A n cp] w fun e w' => Said d c e ∧ Duo9 B w' g bm t gr (lk s') N ∧ Out (Ab B N) w w') := by
  by_cases h6 : n < 1 ∨ 4 < n
  · refine ⟨List.replicate 32 0, 2, s, rfl, by omega, by omega, fun B g bm gr w r N A cp h hB hBx hc hcm => (up_off _ A n cp w h6).mono ?_, fun B g bm gr w t N A cp h hB hBx hc hcm => (rup_off _ A n cp w h6).mono ?_⟩
    · rintro e w' ⟨rfl, hb⟩; exact ⟨rfl, h.below hb, Out.ofBelow _ hb⟩
    · rintro e w' ⟨rfl, hb⟩; exact ⟨rfl, h.below hb, Out.ofBelow _ hb⟩
  · have h3 := stepL_len s (upIn ds)
    refine ⟨digest (upIn ds), 0, stepL s (upIn ds), dlen _, by omega, by omega, fun B g bm gr w r N A cp h hB hBx hc hcm => duo_a h fun N' hN hkb => up_kb B g bm s N' A n cp ds w hkb hB hL hk hBx h32 hn (by omega) (by omega), fun B g bm gr w t N A cp h hB hBx hc hcm => ?_⟩
    rw [← step_lk]
    exact duo_b h fun N' hN hrb => rup_any B gr (lk s) N' A n cp ds w hrb hB hL hk hBx h32 hn (by omega) (by omega)
end
end Go.Proofs.YtbdocaohnigekaaGreat

namespace Go.Proofs.YtbdocaohnigekaaGreat
open Go.ChangeShapes Go.WideShapes Go.ChangeAt Go.RowKit
set_option linter.unusedVariables false

section
variable {H : Type} {enc : TypeId × Value → H} {w : World}
theorem all_memL {P : Program} {e : TypeId} {d : DataW H} {z : Nat} : ∀ (ds : List (DataW H)), d ∈ ds → z ∈ d.weights P e → z ∈ DataW.weightsAll P e ds
  | [], h, _ => by simp at h
  | x :: ds, h, hz => by
    rw [DataW.weightsAll, List.mem_append]
    rcases List.mem_cons.1 h with rfl | h
    · exact .inl hz
    · exact .inr (all_memL ds h hz)
theorem openLz {A : Option Addr} {n c : Nat} {d : DataW H} {p : List MemPlace} (h : DataW.Trod enc Tryz.prog w 0 (fun _ => true) true 52 (.slice A n c) d p) (hz : ∀ z ∈ d.weights Tryz.prog 52, z ≤ reachBytes) :
    ∃ ls, ArgL w A n c ls ∧ ∀ x ∈ ls, x.length ≤ 140737488351232 := by
  obtain ⟨ls, hA⟩ := openL h
  refine ⟨ls, hA, fun x hx => ?_⟩
  obtain ⟨j, hj, rfl⟩ := List.getElem_of_mem hx
  have hjn : j < n := by rw [← hA.1]; exact hj
  obtain ⟨fuel, hf⟩ := h
  rcases Go.Deep.open_int_rows Tryz.underlying52 Tryz.underlying35 Tryz.underlying5 (by kernel_rfl) (by kernel_rfl) hf with ⟨hcs, _⟩ | ⟨a, len, cap, Ar, L, C, Z, hcs, _, hl, hm, hxd, hr⟩
  · simp [Value.cells] at hcs
    obtain ⟨rfl, rfl, rfl⟩ := hcs
    omega
  · simp [Value.cells] at hcs
    obtain ⟨rfl, rfl, rfl⟩ := hcs
    obtain ⟨q0, q1, q2, q3, _, q5, q6⟩ := hr j (by omega)
    obtain ⟨b, off, Aj, cj, e, _, hc, hle, _, _⟩ := hA.2.2.2.at_ hj
    cases e
    rw [add_mk] at q0
    have e2 := hc.symm.trans q0
    injection e2 with e2
    injection e2 with _ e3 _
    injection hxd with hxd _
    have hw := fun z hzz => hz z (by
      rw [hxd]
      simp only [DataW.weights, Tryz.underlying52, List.mem_cons, List.mem_append]
      exact .inr (.inl (all_memL _ (List.mem_map.2 ⟨j, List.mem_range.2 hjn, rfl⟩) hzz)))
    have hb : Tryz.prog.bytesOf 5 = 1 := by kernel_rfl
    cases hAr : Ar j with
    | none => have := q5 hAr; omega
    | some a' =>
      rw [hAr] at hw
      simp only [Go.Deep.intRow, DataW.weights, Tryz.underlying35, List.mem_cons] at hw
      have h1 := hw _ (.inl rfl)
      rw [hb] at h1
      simp only [lits, List.length_map, List.length_take, List.length_drop] at h1
      simp [reachBytes] at h1
      omega
end
end Go.Proofs.YtbdocaohnigekaaGreat

namespace Go.Proofs.YtbdocaohnigekaaGreat
open Go.RowKit Go.Maps
set_option linter.unusedVariables false

theorem sb_info9 : (Tryz.prog.info? 35).map (fun i => (i.zero.map (fun z => z.cells.size), i.size, i.bytes)) = some (some 1, 1, 24) := by kernel_rfl
theorem run_appendSB (w : World) (base : Nat) (v : Value) (n : Nat) (vs : List Value) (hown : w.ownsRow base 35 1 v n vs) (g : Nat) (x : Value) (hx : x.oneCell' = true) (hg : Blk w g 35 [x]) (hn : n ≤ 100000) (hbase : base ≤ w.heap.size) (ty : TypeId) :
    ∃ v' w', (Builtin.append_ #[52, 52] ty #[v, .slice (some ⟨g, 0, none⟩) 1 1]).run Tryz.prog w = .ok v' w' ∧ w'.ownsRow base 35 1 v' (n + 1) (vs ++ [x]) ∧ w.grownBy w' v.ownBlock := by
  have h := sb_info9
  cases hi : Tryz.prog.info? 35 with
  | none => rw [hi] at h; cases h
  | some i0 =>
    rw [hi] at h
    simp only [Option.map_some, Option.some.injEq, Prod.mk.injEq] at h
    obtain ⟨h1, h2, h3⟩ := h
    cases hz : i0.zero with
    | none => rw [hz] at h1; cases h1
    | some z0 =>
      rw [hz] at h1
      simp only [Option.map_some, Option.some.injEq] at h1
      obtain ⟨v', w', e1, e2, e3, _, _⟩ := run_append_own_at (P := Tryz.prog) w base 52 ty 35 i0 z0 1 24 Tryz.underlying52 hi hz h2 h3 h1 (by decide) v n vs hown ⟨g, 0, none⟩ 1 1 [x]
        (by simp) (fun j u hu => by rw [add_mk, Nat.zero_add]; exact hg.cell hu) (fun u hu => by rw [List.mem_singleton.1 hu]; exact hx) (by simp only [maxLen]; omega) (by omega) hbase
      exact ⟨v', w', e1, e2, e3⟩
theorem push_sb (w1 : World) (base : Nat) (v : Value) (n : Nat) (vs : List Value) (hown : w1.ownsRow base 35 1 v n vs) (x : Value) (hx : x.oneCell' = true) (hn : n ≤ 100000) (hbase : base ≤ w1.heap.size) :
    ∃ v' w', (Builtin.append_ #[52, 52] 52 #[v, .slice (some ⟨w1.heap.size, 0, none⟩) 1 1]).run Tryz.prog (w1.alloc (.cells #[x] 35)) = .ok v' w' ∧ w'.ownsRow base 35 1 v' (n + 1) (vs ++ [x]) ∧ w1.grownBy w' v.ownBlock := by
  have hbA : Below w1.heap.size w1 (w1.alloc (.cells #[x] 35)) := (Below.refl _ _).alloc (Nat.le_refl _) _
  have hrA : (w1.alloc (.cells #[x] 35)).ownsRow base 35 1 v n vs := row_stay hown fun b cs hb hc => hbA.block b (row_ltv hown hb).2
  obtain ⟨v', w', h1, h2, h3⟩ := run_appendSB _ base v n vs hrA w1.heap.size x hx (Blk.new rfl rfl) hn (by simp; omega) 52
  exact ⟨v', w', h1, h2, h3.os.trans hbA.os, h3.tape.trans hbA.tape, h3.output.trans hbA.output, Nat.le_trans hbA.size h3.size, fun i hi hn => (h3.block i (Nat.lt_of_lt_of_le hi hbA.size) hn).trans (hbA.block i hi)⟩

/-- Copies of xs, all made since the world had 'base' blocks. -/
def CopyS (base : Nat) (v : Value) (xs : List (List UInt8)) (wr : World) : Prop :=
  ∃ vs, wr.ownsRow base 35 1 v xs.length vs ∧ ∀ j (hj : j < xs.length), ∃ h, vs[j]? = some h ∧ Mine wr base 5 h xs[j]
theorem CopyS.nil (base : Nat) (wr : World) : CopyS base (.slice none 0 0) [] wr := ⟨[], World.ownsRow_nil _ _ _ _, fun j hj => by simp at hj⟩
theorem CopyS.step {base : Nat} {v v' : Value} {xs : List (List UInt8)} {w1 w' : World} {vs : List Value} {hd : Value} {x : List UInt8} (hr : w1.ownsRow base 35 1 v xs.length vs) (hvs : ∀ j (hj : j < xs.length), ∃ h, vs[j]? = some h ∧ Mine w1 base 5 h xs[j]) (hx : Mine w1 base 5 hd x)
    (hr' : w'.ownsRow base 35 1 v' (xs.length + 1) (vs ++ [hd])) (hg : w1.grownBy w' v.ownBlock) : CopyS base v' (xs ++ [x]) w' := by
  have hk : ∀ {h : Value} {y : List UInt8}, Mine w1 base 5 h y → Mine w' base 5 h y := fun {h y} hm => row_grown hm hg fun b hb => row_ne hm hr (by decide) hb
  have hvl : vs.length = xs.length := by have := hr.1; omega
  refine ⟨vs ++ [hd], by rw [List.length_append]; exact hr', fun j hj => ?_⟩
  by_cases h : j < xs.length
  · obtain ⟨h', e, hm⟩ := hvs j h
    exact ⟨h', by rw [List.getElem?_append_left (by omega)]; exact e, by rw [List.getElem_append_left h]; exact hk hm⟩
  · have hj2 : j = xs.length := by simp at hj; omega
    subst hj2
    exact ⟨hd, by rw [List.getElem?_append_right (by omega), hvl, Nat.sub_self]; rfl, by simpa using hk hx⟩
theorem CopyS.lvs {base : Nat} {v : Value} {xs : List (List UInt8)} {wr : World} (h : CopyS base v xs wr) (hne : 1 ≤ xs.length) : ∃ b c, v = .slice (some ⟨b, 0, none⟩) xs.length c ∧ xs.length ≤ c ∧ c ≤ maxLen ∧ LvsAt wr (fun j => base ≤ j ∧ j < wr.heap.size) (some ⟨b, 0, none⟩) xs := by
  obtain ⟨vs, hr, hvs⟩ := h
  have hh := hr
  obtain ⟨b, c, rfl, hb, hc, hcm⟩ := row_form hr hne
  refine ⟨b, c, rfl, hc, hcm, b, 0, rfl, ⟨hb, (row_ltv hh rfl).2⟩, fun j hj => ?_⟩
  obtain ⟨hd, e, hm⟩ := hvs j hj
  have hmm := hm
  obtain ⟨A, cj, rfl, h1, h2, h3⟩ := Mine.form hm
  refine ⟨A, cj, ?_, h1, h2, h3, fun a ea hn => ?_⟩
  · rw [Nat.zero_add, World.ownsRow.cellAt hh j (by omega)]; exact e
  · subst ea
    obtain ⟨b', off, e', hlt, _⟩ := h3.2 (by
      cases hx : xs[j] with
      | nil => exact absurd hx hn
      | cons y ys => simp)
    exact row_ltv hmm (by cases e'; simp [Value.ownBlock])
theorem CopyS.form {base : Nat} {v : Value} {xs : List (List UInt8)} {wr : World} (h : CopyS base v xs wr) {n : Nat} (hn : xs.length = n) : ∃ A c, v = .slice A n c ∧ n ≤ c ∧ c ≤ maxLen ∧ (n ≠ 0 → LvsAt wr (fun j => base ≤ j ∧ j < wr.heap.size) A xs) := by
  subst hn
  by_cases h0 : xs.length = 0
  · obtain ⟨vs, hr, _⟩ := h
    rcases hr.2 with ⟨rfl, _⟩ | ⟨b, c, cur, rfl, _, _, hc, hcm, _⟩
    · exact ⟨none, 0, by rw [h0], by omega, by simp [maxLen], fun e => absurd h0 e⟩
    · exact ⟨_, c, rfl, hc, hcm, fun e => absurd h0 e⟩
  · obtain ⟨b, c, rfl, h1, h2, h3⟩ := h.lvs (by omega)
    exact ⟨_, c, rfl, h1, h2, fun _ => h3⟩
theorem ArgL.lvs {w : World} {A : Option Addr} {n c : Nat} {ls : List (List UInt8)} (h : ArgL w A n c ls) (hne : n ≠ 0) : LvsAt w (fun j => j < w.heap.size) A ls := by
  obtain ⟨h1, _, _, h4⟩ := h
  obtain ⟨b, off, rfl, hlt, hc⟩ := h4 (fun e => by rw [e] at h1; simp at h1; omega)
  refine ⟨b, off, rfl, hlt, fun j hj => ?_⟩
  obtain ⟨Aj, cj, e1, e2, e3, e4⟩ := hc j hj
  refine ⟨Aj, cj, e1, e2, e3, e4, fun a ea hn => ?_⟩
  obtain ⟨b', off', e', hlt', _⟩ := e4.2 (by
    cases hx : ls[j] with
    | nil => exact absurd hx hn
    | cons y ys => simp)
  rw [ea] at e'
  cases e'
  exact hlt'
end Go.Proofs.YtbdocaohnigekaaGreat
