/-
  Laid together for a hand-in: Level9, SetP9, Set9, Works9, Bring, Aid9, Apart9.
-/
import Derived.Test.YtkkcjkelijlmbaaZ10
import Derived.Test.YtkkcjkelijlmbaaZ01
import Derived.Test.YtkkcjkelijlmbaaRows
import Derived.Deep.DeepCutAuto

namespace Go.Proofs.Ytkkcjkelijlmbaa

open Go.RowKit Go.Maps

set_option linter.unusedVariables false

/-- New digests in a row of their own. -/
def NewDs (w : World) (ds : List Dg) (v : Value) (w' : World) : Prop := w'.ownsRow w.heap.size 30 32 v ds.length (cbs ds.flatten) ∧ Below w.heap.size w w'

theorem run_cloneDs (w : World) (A : Option Addr) (c : Nat) (ds : List Dg) (h32 : All32 ds) (hD : Ds w A ds) (hne : ds ≠ []) (hl : ds.length ≤ 100000) (base : Nat) (v : Value) (hv : w.ownsRow base 30 32 v 0 []) (hbase : base ≤ w.heap.size) (ty : TypeId) :
    ∃ v' w', (Builtin.append_ #[37, 37] ty #[v, .slice A ds.length c]).run Try.prog w = .ok v' w' ∧ w'.ownsRow base 30 32 v' ds.length (cbs ds.flatten) ∧ w.grownBy w' v.ownBlock := by
  obtain ⟨i0, z0, hi, hz0, hz1, hz2⟩ := dg_zero
  have hzc : z0.cells.size = 32 := by
    have e : (Try.prog.info? 30).map (fun i => (i.zero.map fun z => z.cells.size)) = some (some 32) := by kernel_rfl
    rw [hi] at e
    simp [hz0] at e
    exact e
  obtain ⟨b, off, rfl, hb⟩ := hD.off hne
  obtain ⟨v', w', h1, h2, h3, _, _⟩ := run_append_own_at (P := Try.prog) w base 37 ty 30 i0 z0 32 32 Try.underlying37 hi hz0 hz1 hz2 hzc (by decide) v 0 [] hv ⟨b, off, none⟩ ds.length c (cbs ds.flatten)
    (by rw [cbs_length, flat_len h32]; omega) (fun j u hu => by
      obtain ⟨b', off', e, _, hc⟩ := hD.2 (by
        rcases Nat.eq_zero_or_pos ds.length with h | h
        · exact absurd (List.eq_nil_of_length_eq_zero h) hne
        · exact h)
      cases e
      rw [add_mk]
      exact hc j u hu) (cbs_one _) (by simp only [maxLen]; omega) (by omega) hbase
  refine ⟨v', w', h1, ?_, h3⟩
  simpa using h2

set_option maxRecDepth 100000 in
set_option maxHeartbeats 800000 in
theorem clone32_any (r c n : Nat) (ds : List Dg) (w : World) (h32 : All32 ds) (hD : Ds w (some ⟨r, 0, none⟩) ds) (hn : ds.length = n) (h1 : 1 ≤ n) (h2 : n ≤ 1024) :
    Calls Try.prog 31 #[.slice (some ⟨r, 0, none⟩) n c] w fun e w' => ∃ v, e = .returned v ∧ NewDs w ds v w' := by
  have hne : ds ≠ [] := fun e => by rw [e] at hn; simp at hn; omega
  have hq := fun (w : World) => Lib.run_eql_slice_nil (P := Try.prog) w 37 30 (some ⟨r, 0, none⟩) n c 0 0 Try.underlying37
  have hb : Below w.heap.size w (w.alloc (.cells #[] 30)) := (Below.refl _ _).alloc (Nat.le_refl _) _
  obtain ⟨v', w', hap, hR, hg⟩ := run_cloneDs (w.alloc (.cells #[] 30)) (some ⟨r, 0, none⟩) c ds h32 (hD.after hb) hne (by omega) w.heap.size (.slice (some ⟨w.heap.size, 0, none⟩) 0 0) (World.ownsRow_made w #[] 0 (Nat.le_refl _) (by simp [maxLen]) rfl) (by simp) 37
  rw [hn] at hap
  have Hap := Lib.hid hap
  have H := Lib.hid (And.intro hR (And.intro hg hb))
  clear hap hR hg hb hD h32 hne hn
  go_enter Try.func31, Try.ntmps31
  go_wp2_with (at_builtin; refine Lib.wpList_append_run _ rfl _ _ _ _ rfl _ _ rfl rfl _ _ Hap.out ?_)
  go_ret
  exact ⟨v', rfl, H.out.1, H.out.2.2.grown H.out.2.1 (by simp) (fun j hj => by simp [Value.ownBlock] at hj; omega)⟩

/-- What Level answers: a copy of the digests, or ErrRange. -/
def LevelP (w : World) (low : List Dg) (n : Int) (e : Ending) (w' : World) : Prop :=
  (0 ≤ n ∧ n < dep low.length ∧ ∃ v, e = .returned (.tuple #[v, .int .i64 0]) ∧ NewDs w (lvl low n.toNat) v w') ∨ ((n < 0 ∨ (dep low.length : Int) ≤ n) ∧ e = .returned (.tuple #[.slice none 0 0, .int .i64 9]) ∧ w' = w)

set_option maxRecDepth 100000 in
set_option maxHeartbeats 800000 in
theorem tlevel_in {w : World} {M : Nat → Prop} {t g : Nat} {low : List Dg} (h : TreeAt w M t g low) (n : Nat) (hn : n < dep low.length) : Calls Try.prog 20 #[.pointer (some ⟨t, 0, none⟩), .int .i64 (n : Int)] w fun e w' => ∃ v, e = .returned (.tuple #[v, .int .i64 0]) ∧ NewDs w (lvl low n) v w' := by
  obtain ⟨L, R, lv, c, h⟩ := h
  have hd1 := dep_pos low.length
  have hd6 := dep_le h.l2
  have hb := h.blk
  have hrow := h.row
  have hcap := h.cap.1
  have hdn := h.dn n hn
  have h32 := all32_lvl h.all n
  have hwid : 1 ≤ (lvl low n).length ∧ (lvl low n).length ≤ 1024 := by rw [lvl_len]; exact ⟨wid_pos h.l1 n, Nat.le_trans (wid_le _ n h.l1) h.l2⟩
  have hck := range_cell hrow (i := n) hn
  generalize dep low.length = d at *
  have c2 : w.cell? ⟨t, 2, none⟩ = some (.slice (some ⟨lv, 0, none⟩) d c) := hb.cell rfl
  have Hno := Lib.hid (tnone_no t g low.length lv d c w hb hd1)
  have hask := ask_done (L n) (R n).1 (R n).2 (lvl low n) w hdn
  obtain ⟨r, hr⟩ : ∃ r, (R n).1 = r := ⟨_, rfl⟩
  obtain ⟨cr, hcr⟩ : ∃ cr, (R n).2 = cr := ⟨_, rfl⟩
  rw [hr, hcr] at hask hdn
  obtain ⟨ds, hds⟩ : ∃ ds, lvl low n = ds := ⟨_, rfl⟩
  rw [hds] at hask hdn hwid h32 ⊢
  obtain ⟨m, hm⟩ : ∃ m, ds.length = m := ⟨_, rfl⟩
  rw [hm] at hask hwid
  have hq : 0 ≤ (n : Int) := by omega
  have hq2 : (n : Int) < (d : Int) := by omega
  have hq3 : ¬ ((n : Int) ≥ (d : Int)) := by omega
  unfold fnOf ptr at hck
  unfold ptr at hask
  have Hask := Lib.hid hask
  have H := Lib.hid (And.intro hdn (And.intro h32 hm))
  clear hask hdn h32 hm hr hcr hds hrow hb h
  go_enter Try.func20, Try.ntmps20
  go_wp2_with (go_at_call 16; refine Hno.out.mono ?_; rintro e w ⟨rfl, rfl⟩)
  refine Hask.out.mono ?_
  rintro e w2 ⟨rfl, q, rfl⟩
  have hcl := clone32_any r cr m ds (w.drewN q) H.out.2.1 (H.out.1.ds : Ds w (some ⟨r, 0, none⟩) ds) H.out.2.2 hwid.1 hwid.2
  have Hcl := Lib.hid hcl
  clear hcl
  go_wp2_with (fail)
  refine Hcl.out.mono ?_
  rintro e w3 ⟨v, rfl, hN⟩
  have HN := Lib.hid hN
  clear hN
  go_wp2
  go_ret2
  exact ⟨v, rfl, HN.out.1, ⟨HN.out.2.os, HN.out.2.tape, HN.out.2.output, HN.out.2.size, HN.out.2.block⟩⟩

set_option maxRecDepth 100000 in
set_option maxHeartbeats 800000 in
theorem tlevel_off {w : World} {M : Nat → Prop} {t g : Nat} {low : List Dg} (h : TreeAt w M t g low) (n : Int) (hn : n < 0 ∨ (dep low.length : Int) ≤ n) : Calls Try.prog 20 #[.pointer (some ⟨t, 0, none⟩), .int .i64 n] w fun e w' => e = .returned (.tuple #[.slice none 0 0, .int .i64 9]) ∧ w' = w := by
  obtain ⟨L, R, lv, c, h⟩ := h
  have hd1 := dep_pos low.length
  have hb := h.blk
  clear h
  generalize dep low.length = d at *
  have c2 : w.cell? ⟨t, 2, none⟩ = some (.slice (some ⟨lv, 0, none⟩) d c) := hb.cell rfl
  have Hno := Lib.hid (tnone_no t g low.length lv d c w hb hd1)
  clear hb
  by_cases h0 : n < 0
  · go_enter Try.func20, Try.ntmps20
    go_wp2_with (go_at_call 16; refine Hno.out.mono ?_; rintro e w ⟨rfl, rfl⟩)
    go_ret2
    exact ⟨rfl, rfl⟩
  · have h1 : n ≥ (d : Int) := by omega
    have h2 : (d : Int) ≤ n := by omega
    go_enter Try.func20, Try.ntmps20
    go_wp2_with (go_at_call 16; refine Hno.out.mono ?_; rintro e w ⟨rfl, rfl⟩)
    go_ret2
    exact ⟨rfl, rfl⟩

end Go.Proofs.Ytkkcjkelijlmbaa

namespace Go.Proofs.Ytkkcjkelijlmbaa

open Go.RowKit Go.Maps

set_option linter.unusedVariables false

def lowSet (low : List Dg) (i : Nat) (x : List UInt8) : List Dg := low.set i (digest (leafIn x))

theorem lowSet_len (low : List Dg) (i : Nat) (x : List UInt8) : (lowSet low i x).length = low.length := by simp [lowSet]

theorem all32_lowSet {low : List Dg} (h : All32 low) (i : Nat) (x : List UInt8) : All32 (lowSet low i x) := all32_set h (dlen _)

/-- The digest that is set in level k. -/
def dAt (low : List Dg) (i k : Nat) : Dg := (lvl low k).getD (i / 4 ^ k) []

theorem dAt_get {low : List Dg} {i : Nat} (h : i < low.length) (k : Nat) : (lvl low k)[i / 4 ^ k]? = some (dAt low i k) := by
  have := wid_div h k
  rw [← lvl_len] at this
  unfold dAt
  rw [List.getD_eq_getElem?_getD, List.getElem?_eq_getElem this]; rfl

theorem dAt_len {low : List Dg} (h32 : All32 low) {i : Nat} (h : i < low.length) (k : Nat) : (dAt low i k).length = 32 :=
  all32_lvl h32 k _ (List.mem_of_getElem? (dAt_get h k))

theorem dAt_succ {low : List Dg} {i : Nat} (h : i < low.length) (k : Nat) : dAt low i (k + 1) = digest (upIn (four (lvl low k) (i / 4 ^ k / 4))) := by
  have h1 := dAt_get h (k + 1)
  rw [div_pow, lvl, next_get, if_pos (by have := wid_div h k; rw [← lvl_len] at this; omega)] at h1
  exact (Option.some.inj h1).symm

theorem dAt_zero {low : List Dg} {i : Nat} (h : i < low.length) (x : List UInt8) : dAt (lowSet low i x) i 0 = digest (leafIn x) := by
  have h1 := dAt_get (low := lowSet low i x) (i := i) (by rw [lowSet_len]; exact h) 0
  rw [Nat.pow_zero, Nat.div_one, lvl, lowSet, List.getElem?_set_self h] at h1
  exact (Option.some.inj h1).symm

theorem lvl_put {low : List Dg} {i : Nat} (h : i < low.length) (x : List UInt8) (k : Nat) : (lvl low k).set (i / 4 ^ k) (dAt (lowSet low i x) i k) = lvl (lowSet low i x) k :=
  lvl_set_eq (by rw [lowSet_len]) (fun j hj => by rw [lowSet, List.getElem?_set_ne (fun e => hj e.symm)]) k (dAt_get (by rw [lowSet_len]; exact h) k)

/-- What is asked of the book in k rounds. -/
def setIns (low : List Dg) (i : Nat) (x : List UInt8) (k : Nat) : List (List UInt8) := leafIn x :: (List.range k).map fun j => upIn (four (lvl (lowSet low i x) j) (i / 4 ^ j / 4))

theorem setIns_succ (low : List Dg) (i : Nat) (x : List UInt8) (k : Nat) : setIns low i x (k + 1) = setIns low i x k ++ [upIn (four (lvl (lowSet low i x) k) (i / 4 ^ k / 4))] := by
  simp [setIns, List.range_succ]

theorem setIns_len (low : List Dg) (i : Nat) (x : List UInt8) (k : Nat) : (setIns low i x k).length = k + 1 := by simp [setIns]

/-- The levels when k of them are set. -/
def lvx (low : List Dg) (i : Nat) (x : List UInt8) (k j : Nat) : List Dg := if j < k then lvl (lowSet low i x) j else lvl low j

theorem lvx_len (low : List Dg) (i : Nat) (x : List UInt8) (k j : Nat) : (lvx low i x k j).length = (lvl low j).length := by
  unfold lvx; split
  · rw [lvl_len, lvl_len, lowSet_len]
  · rfl

theorem sl_two (r n c f e : Nat) (h1 : f < e) (h2 : e ≤ c) (w : World) : (Instr.sliceAt 37 (.slice (some ⟨r, 0, none⟩) n c) (some (.int .i64 (f : Int))) (some (.int .i64 (e : Int))) none).run Try.prog w = .ok (.slice (some ⟨r, f * 32, none⟩) (e - f) (c - f)) w := by
  have a1 : (0 : Int) ≤ (f : Int) := by omega
  have a2 : (f : Int) ≤ (e : Int) := by omega
  have a3 : (e : Int) ≤ (c : Int) := by omega
  have a4 : ¬ (c = f) := by omega
  go_simp
  try (intro h; omega)

set_option maxHeartbeats 400000 in
theorem fourOf_any (r n c i : Nat) (w : World) (hi : i < n) (hn : n ≤ 1024) (hc : n ≤ c) : Calls Try.prog 30 #[.slice (some ⟨r, 0, none⟩) n c, .int .i64 (i : Int)] w fun e w' =>
    e = .returned (.slice (some ⟨r, i / 4 * 4 * 32, none⟩) (min 4 (n - 4 * (i / 4))) (c - i / 4 * 4)) ∧ w' = w := by
  obtain ⟨f, hf⟩ : ∃ f, i / 4 * 4 = f := ⟨_, rfl⟩
  obtain ⟨e, he⟩ : ∃ e, min (f + 4) n = e := ⟨_, rfl⟩
  have hm : min 4 (n - 4 * (i / 4)) = e - f := by omega
  have hs := fun w => sl_two r n c f e (by omega) (by omega) w
  have hmin : ∀ ts t w, (Builtin.min_ ts t #[.int .i64 ((f : Int) + 4), .int .i64 (n : Int)]).run Try.prog w = .ok (.int .i64 (e : Int)) w := fun ts t w => by
    rw [run_min_int2]; congr 2; split <;> omega
  have hsub : (i : Int) - (i : Int) % 4 = (f : Int) := by omega
  have b1 : (0 : Int) ≤ (i : Int) := by omega
  have b2 : (f : Int) ≤ 1024 := by omega
  have b3 : (i : Int) ≤ 1024 := by omega
  rw [hm]
  have He := Lib.hid (And.intro hf he)
  clear hm hf he hi hc
  go_enter Try.func30, Try.ntmps30
  go_wp2
  go_ret
  exact ⟨by rw [He.out.1]; rfl, rfl⟩

end Go.Proofs.Ytkkcjkelijlmbaa

namespace Go.Proofs.Ytkkcjkelijlmbaa

open Go.RowKit Go.Maps

set_option linter.unusedVariables false

def RS (R : Nat → Nat × Nat) (d j : Nat) : Prop := ∃ m, m < d ∧ j = (R m).1

/-- When k levels are set. -/
structure SetI (B g bm : Nat) (s : Bk) (N : Nat → Prop) (low : List Dg) (i : Nat) (x : List UInt8) (R : Nat → Nat × Nat) (w : World) (z d k : Nat) (D : List Value) (wr : World) : Prop where
  kb : Kb B wr g bm (noteAll s (setIns low i x (min k (d - 1)))) (fun j => N j ∨ j = z)
  out : Out (fun j => Tn B bm w N j ∨ RS R d j) w wr
  row : ∀ m, m < d → wr.ownsRow 0 30 32 (.slice (some ⟨(R m).1, 0, none⟩) (lvl low m).length (R m).2) (lvl low m).length (cbs (lvx low i x k m).flatten)
  box : Blk wr z 30 D
  len : D.length = 32
  now : k < d → D = cbs (dAt (lowSet low i x) i k)

section

variable {B g bm : Nat} {s : Bk} {N M : Nat → Prop} {low : List Dg} {i : Nat} {x : List UInt8} {L : Nat → Lv} {R : Nat → Nat × Nat} {w wr : World} {t lv c z k : Nat} {D : List Value}

/-- What stands beside the rows of digests stays. -/
theorem SetI.beside (h : SetI B g bm s N low i x R w z (dep low.length) k D wr) (hT : TreeS w M t g low L R lv c) (hMN : ∀ j, M j → N j) {b : Nat} (hM : M b) {cs : Array Value} {ty : TypeId} {fr : Nat × Nat} (hb : w.heap[b]? = some (.cells cs ty fr)) (hne : ty ≠ 30) : wr.heap[b]? = w.heap[b]? :=
  h.out.block b (hT.ltM b hM) fun e => by
    rcases e with e | ⟨m, hm, rfl⟩
    · exact e.2.1 (hMN b hM)
    · obtain ⟨cs', hcs⟩ := row_block (hT.dn m hm).row (b := (R m).1) rfl
      rw [hb] at hcs
      injection hcs with e1
      injection e1 with _ e1
      exact hne e1

theorem SetI.tree (h : SetI B g bm s N low i x R w z (dep low.length) k D wr) (hT : TreeS w M t g low L R lv c) (hMN : ∀ j, M j → N j) : Blk wr t 45 (tcells g low.length lv (dep low.length) c) ∧
    wr.ownsRow 0 71 1 (.slice (some ⟨lv, 0, none⟩) (dep low.length) c) (dep low.length) ((List.range (dep low.length)).map fun i => fnOf (L i)) ∧
    ∀ m, m < dep low.length → Blk wr (L m).p 105 once1 ∧ Blk wr (L m).d 37 [.slice (some ⟨(R m).1, 0, none⟩) (lvl low m).length (R m).2] ∧ Blk wr (L m).e 31 [.int .i64 0] := by
  obtain ⟨m1, m2, m3⟩ := hT.inM
  refine ⟨(h.beside hT hMN m1 hT.blk (by decide)).trans hT.blk, row_stay hT.row fun b cs hb hc => ?_, fun m hm => ?_⟩
  · have hb2 : b = lv := by simp [Value.ownBlock] at hb; exact hb.symm
    subst hb2
    exact h.beside hT hMN m2 hc (by decide)
  · obtain ⟨a1, a2, a3, _⟩ := m3 m hm
    have hd := hT.dn m hm
    exact ⟨(h.beside hT hMN a1 hd.p (by decide)).trans hd.p, (h.beside hT hMN a2 hd.d (by decide)).trans hd.d, (h.beside hT hMN a3 hd.e (by decide)).trans hd.e⟩

theorem SetI.dn (h : SetI B g bm s N low i x R w z (dep low.length) k D wr) (hT : TreeS w M t g low L R lv c) (hMN : ∀ j, M j → N j) {m : Nat} (hm : m < dep low.length) : Dn wr (L m) (R m).1 (R m).2 (lvx low i x k m) := by
  obtain ⟨a1, a2, a3⟩ := (h.tree hT hMN).2.2 m hm
  exact ⟨a1, by rw [lvx_len]; exact a2, a3, by rw [lvx_len]; exact h.row m hm⟩

theorem SetI.done (h : SetI B g bm s N low i x R w z (dep low.length) (dep low.length) D wr) (hT : TreeS w M t g low L R lv c) (hMN : ∀ j, M j → N j) : TreeAt wr M t g (lowSet low i x) ∧ Kb B wr g bm (noteAll s (setIns low i x (dep low.length - 1))) N ∧ Out (fun j => Tn B bm w N j ∨ M j) w wr := by
  have hd := dep_pos low.length
  obtain ⟨h1, h2, _⟩ := h.tree hT hMN
  have hl := lowSet_len low i x
  refine ⟨⟨L, R, lv, c, by rw [hl]; exact h1, by rw [hl]; exact h2, fun m hm => ?_, by rw [hl]; exact hT.inc, by rw [hl]; exact hT.inM, fun j hj => Nat.lt_of_lt_of_le (hT.ltM j hj) h.out.size, by rw [hl]; exact hT.l1, by rw [hl]; exact hT.l2, all32_lowSet hT.all i x, by rw [hl]; exact hT.cap⟩, ?_, ?_⟩
  · rw [hl] at hm
    have := h.dn hT hMN hm
    rw [lvx, if_pos hm] at this
    exact this
  · have := h.kb.less (N' := N) fun j hj => .inl hj
    rwa [Nat.min_eq_right (by omega)] at this
  · refine h.out.wide fun j hj hs => ?_
    rcases hs with hs | ⟨m, hm, rfl⟩
    · exact .inl hs
    · exact .inr (hT.inM.2.2 m hm).2.2.2

theorem SetI.tree' {d : Nat} (h : SetI B g bm s N low i x R w z d k D wr) (hd : dep low.length = d) (hT : TreeS w M t g low L R lv c) (hMN : ∀ j, M j → N j) : Blk wr t 45 (tcells g low.length lv d c) ∧
    wr.ownsRow 0 71 1 (.slice (some ⟨lv, 0, none⟩) d c) d ((List.range d).map fun i => fnOf (L i)) ∧
    ∀ m, m < d → Blk wr (L m).p 105 once1 ∧ Blk wr (L m).d 37 [.slice (some ⟨(R m).1, 0, none⟩) (lvl low m).length (R m).2] ∧ Blk wr (L m).e 31 [.int .i64 0] := by
  subst hd; exact h.tree hT hMN

theorem SetI.dn' {d : Nat} (h : SetI B g bm s N low i x R w z d k D wr) (hd : dep low.length = d) (hT : TreeS w M t g low L R lv c) (hMN : ∀ j, M j → N j) {m : Nat} (hm : m < d) : Dn wr (L m) (R m).1 (R m).2 (lvx low i x k m) := by
  subst hd; exact h.dn hT hMN hm

theorem SetI.done' {d : Nat} (h : SetI B g bm s N low i x R w z d d D wr) (hd : dep low.length = d) (hT : TreeS w M t g low L R lv c) (hMN : ∀ j, M j → N j) : TreeAt wr M t g (lowSet low i x) ∧ Kb B wr g bm (noteAll s (setIns low i x (dep low.length - 1))) N ∧ Out (fun j => Tn B bm w N j ∨ M j) w wr := by
  subst hd; exact h.done hT hMN

theorem SetI.drewN {d : Nat} (h : SetI B g bm s N low i x R w z d k D wr) (q : Nat) : SetI B g bm s N low i x R w z d k D (wr.drewN q) :=
  ⟨h.kb.below ⟨rfl, rfl, rfl, Nat.le_refl _, fun _ _ => rfl⟩, h.out.drewN q, h.row, h.box, h.len, h.now⟩

/-- A level is set: its row is written in another world w2 in which all else stands. -/
theorem SetI.next {w2 : World} (h : SetI B g bm s N low i x R w z (dep low.length) k D wr) (hT : TreeS w M t g low L R lv c) (hMN : ∀ j, M j → N j) (hi : i < low.length) (hk : k < dep low.length) (hzw : w.heap.size ≤ z) (h2 : wr.setCells (R k).1 (i / 4 ^ k * 32) D = w2) :
    Kb B w2 g bm (noteAll s (setIns low i x (min k (dep low.length - 1)))) (fun j => N j ∨ j = z) ∧ Out (fun j => Tn B bm w N j ∨ RS R (dep low.length) j) w w2 ∧
    (∀ m, m < dep low.length → w2.ownsRow 0 30 32 (.slice (some ⟨(R m).1, 0, none⟩) (lvl low m).length (R m).2) (lvl low m).length (cbs (lvx low i x (k + 1) m).flatten)) ∧ Blk w2 z 30 D ∧ Blk w2 t 45 (tcells g low.length lv (dep low.length) c) := by
  have hRk : N (R k).1 := hMN _ (hT.inM.2.2 k hk).2.2.2
  have hRw : (R k).1 < w.heap.size := hT.ltM _ (hT.inM.2.2 k hk).2.2.2
  have hD := h.now hk
  have hne : ∀ {b : Nat}, b ≠ (R k).1 → w2.heap[b]? = wr.heap[b]? := fun {b} hb => by rw [← h2]; exact block_setCells hb D
  have htr := (h.tree hT hMN).1
  have htk : t ≠ (R k).1 := by
    obtain ⟨cs', hcs⟩ := row_block (hT.dn k hk).row (b := (R k).1) rfl
    intro e
    have := hT.blk
    unfold Blk at this
    rw [e, hcs] at this
    injection this with e1
    injection e1 with _ e1
    cases e1
  refine ⟨?_, ?_, fun m hm => ?_, (hne (by omega)).trans h.box, (hne htk).trans htr⟩
  · rw [← h2]; exact h.kb.store (.inl hRk) _ D
  · rw [← h2]; exact Out.setRow (.inr ⟨k, hk, rfl⟩) D h.out
  · by_cases hmk : m = k
    · subst hmk
      have hl32 := all32_lvl hT.all m
      have hik : i / 4 ^ m < (lvl low m).length := by rw [lvl_len]; exact wid_div hi m
      have hr := h.row m hm
      rw [lvx, if_neg (by omega)] at hr
      have hp := row_put D hr (o := i / 4 ^ m * 32) (by rw [cbs_length, flat_len hl32, h.len]; omega)
      rw [h2] at hp
      have e : (cbs (lvl low m).flatten).take (i / 4 ^ m * 32) ++ D ++ (cbs (lvl low m).flatten).drop (i / 4 ^ m * 32 + D.length) = cbs (lvx low i x (m + 1) m).flatten := by
        rw [lvx, if_pos (by omega), ← lvl_put hi x m, flat_set hl32 hik, cbs_append, cbs_append, ← hD, h.len, cbs_take, cbs_drop, Nat.mul_comm 32]
      rw [e] at hp
      exact hp
    · have hr := h.row m hm
      have e : lvx low i x (k + 1) m = lvx low i x k m := by unfold lvx; split <;> split <;> first | rfl | omega
      rw [e]
      refine row_stay hr fun b cs hb _ => hne ?_
      have hb2 : b = (R m).1 := by simp [Value.ownBlock] at hb; exact hb.symm
      subst hb2
      rcases Nat.lt_or_ge m k with hlt | hge
      · have := hT.inc m k hlt hk; omega
      · have := hT.inc k m (by omega) hm; omega

theorem SetI.next' {w2 : World} {d : Nat} (h : SetI B g bm s N low i x R w z d k D wr) (hd : dep low.length = d) (hT : TreeS w M t g low L R lv c) (hMN : ∀ j, M j → N j) (hi : i < low.length) (hk : k < d) (hzw : w.heap.size ≤ z) (h2 : wr.setCells (R k).1 (i / 4 ^ k * 32) D = w2) :
    Kb B w2 g bm (noteAll s (setIns low i x (min k (d - 1)))) (fun j => N j ∨ j = z) ∧ Out (fun j => Tn B bm w N j ∨ RS R d j) w w2 ∧
    (∀ m, m < d → w2.ownsRow 0 30 32 (.slice (some ⟨(R m).1, 0, none⟩) (lvl low m).length (R m).2) (lvl low m).length (cbs (lvx low i x (k + 1) m).flatten)) ∧ Blk w2 z 30 D ∧ Blk w2 t 45 (tcells g low.length lv d c) := by
  subst hd; exact h.next hT hMN hi hk hzw h2

end

set_option maxRecDepth 100000 in
set_option maxHeartbeats 3200000 in
theorem tset_any {w : World} {M : Nat → Prop} {t g : Nat} {low : List Dg} (B bm : Nat) (s : Bk) (N : Nat → Prop) (hT0 : TreeAt w M t g low) (hk0 : Kb B w g bm s N) (hB : B ≤ w.heap.size) (hMN : ∀ j, M j → N j) (hL : s.1.length + 20000 < 1000000) (hs : s.2.2 + 20000 < 1000000)
    (i : Nat) (hi : i < low.length) (A : Option Addr) (nx cp : Nat) (x : List UInt8) (hBx : Bs w A x) (hnx : x.length = nx) (hcx : nx ≤ cp) (hcm : cp ≤ maxLen) (hx : nx ≤ 65535) :
    Calls Try.prog 15 #[.pointer (some ⟨t, 0, none⟩), .int .i64 (i : Int), .slice A nx cp] w fun e w' =>
      e = .returned (.int .i64 0) ∧ TreeAt w' M t g (lowSet low i x) ∧ Kb B w' g bm (noteAll s (setIns low i x (dep low.length - 1))) N ∧ Out (fun j => Tn B bm w N j ∨ M j) w w' := by
  obtain ⟨L, R, lv, c, hT⟩ := hT0
  have hd1 := dep_pos low.length
  have hd6 := dep_le hT.l2
  obtain ⟨d, hd⟩ : ∃ d, dep low.length = d := ⟨_, rfl⟩
  have hblk := hT.blk
  rw [hd] at hblk hd1 hd6
  have c0 : w.cell? ⟨t, 0, none⟩ = some (.pointer (some ⟨g, 0, none⟩)) := hblk.cell rfl
  have c1 : w.cell? ⟨t, 1, none⟩ = some (.int .i64 (low.length : Int)) := hblk.cell rfl
  have Hno := Lib.hid (tnone_no t g low.length lv d c w hblk hd1)
  have hlf := leaf_kb B g bm s N A nx cp x w hk0 hB (by omega) (by omega) hBx hnx hcx hcm hx
  obtain ⟨D0, hD0⟩ : ∃ D0, cbs (digest (leafIn x)) = D0 := ⟨_, rfl⟩
  have hD32 : D0.length = 32 := by rw [← hD0, cbs_length, dlen]
  have hD1 : D0.toArray.all (·.oneCell') = true := by rw [← hD0]; exact cbs_one' _
  rw [hD0] at hlf
  have Hlf := Lib.hid hlf
  have Hh := Lib.hid (And.intro hT (And.intro hMN (And.intro hi (And.intro hB (And.intro hL hs)))))
  have HD := Lib.hid (And.intro hD0 (And.intro hD32 hD1))
  have Hd := Lib.hid hd
  have hi0 : 0 ≤ (i : Int) := by omega
  have hi1 : (i : Int) < (low.length : Int) := by omega
  have hi2 : ¬ ((i : Int) ≥ (low.length : Int)) := by omega
  have hi3 : decide ((i : Int) < 0) = false := by simp
  have hl2 := hT.l2
  have Hcap := Lib.hid hT.cap
  clear hlf hT hMN hi hB hL hs hD0 hD32 hD1 hblk hk0 hBx hnx hcx hcm hx hd
  go_enter Try.func15, Try.ntmps15
  go_wp2_with (go_at_call 16; refine Hno.out.mono ?_; rintro e w ⟨rfl, rfl⟩)
  refine Hlf.out.mono ?_
  rintro e w1 ⟨rfl, hK1, hO1⟩
  obtain ⟨wS, hwS, ⟨hth, hiS⟩, hbS, hbel, hszS⟩ := dig_local w1 D0 HD.out.2.1
  have hzw : w.heap.size ≤ w1.heap.size := hO1.size
  have hO1' : Out (fun j => Tn B bm w N j ∨ RS R d j) w wS := (hO1.wide fun j _ h => .inl h).then_below hbel
  have hI0 : SetI B g bm s N low i x R w w1.heap.size d 0 D0 wS := by
    refine ⟨?_, hO1', fun m hm => ?_, hbS, HD.out.2.1, fun _ => ?_⟩
    · have := hK1.belowN (N' := fun j => N j ∨ j = w1.heap.size) hbel (fun j hj => by
        rcases hj with hj | rfl
        · exact .inl hj
        · exact .inr ⟨Nat.le_refl _, by omega⟩)
      rw [Nat.min_eq_left (by omega)]
      exact this
    · have hr := (Hh.out.1.dn m (by rw [Hd.out]; exact hm)).row
      have e : lvx low i x 0 m = lvl low m := by unfold lvx; rw [if_neg (by omega)]
      rw [e]
      have hr1 := row_out hr hO1 (Tn.keep (Hh.out.2.1 _ (Hh.out.1.inM.2.2 m (by rw [Hd.out]; exact hm)).2.2.2))
      exact row_stay hr1 fun b cs hb hc => hbel.block b (by
        rcases Nat.lt_or_ge b w1.heap.size with h | h
        · exact h
        · rw [Array.getElem?_eq_none h] at hc; cases hc)
    · rw [dAt_zero Hh.out.2.2.1, HD.out.1]
  have HI0 := Lib.hid hI0
  obtain ⟨z, hz⟩ : ∃ z, w1.heap.size = z := ⟨_, rfl⟩
  rw [hz] at HI0 hzw hth hwS
  have HwS := Lib.hid hwS
  have Hs := Lib.hid (And.intro hth (And.intro hiS HD.out.2.2))
  have hMz : ∀ j, M j → j ≠ z := fun j hj e => by have := Hh.out.1.ltM j hj; omega
  have Hz := Lib.hid (And.intro hzw hMz)
  have hts := (HI0.out.tree' Hd.out Hh.out.1 Hh.out.2.1).1
  have c2 : wS.cell? ⟨t, 2, none⟩ = some (.slice (some ⟨lv, 0, none⟩) d c) := hts.cell rfl
  clear hwS hth hiS hbS hbel hszS hzw hO1' hI0 hK1 hO1 hMz hts c0 c1
  go_wp2_with (refine wpList_store_mid rfl 30 _ _ rfl z 0 D0.toArray rfl rfl Hs.out.1 Hs.out.2.1 Hs.out.2.2 ?_; simp only [Act.put]; refine cast (congrArg (fun z => wpList _ _ _ _ _ z) HwS.out.symm) ?_)
  clear c2 hz HwS
  go_loopw [1, 8, 10, 11, 12] (fun a e n _ _ wr => ∃ (k : Nat) (D : List Value), k ≤ d ∧ a = .int .i64 ((i / 4 ^ k : Nat) : Int) ∧ e = .int .i64 0 ∧ n = .int .i64 (k : Int) ∧ SetI B g bm s N low i x R w z d k D wr) (fun _ _ n _ _ _ => d - (intOf n).toNat)
  case atStart => exact ⟨0, D0, Nat.zero_le _, by simp, rfl, rfl, HI0.out⟩
  case round =>
    obtain ⟨k, D, hk, rfl, rfl, rfl, hI⟩ := hrel
    obtain ⟨ik, hik⟩ : ∃ ik, i / 4 ^ k = ik := ⟨_, rfl⟩
    have hik2 : i / 4 ^ (k + 1) = ik / 4 := by rw [div_pow, hik]
    rw [hik]
    by_cases hlt : k < d
    · have hkd : k < dep low.length := by rw [Hd.out]; exact hlt
      obtain ⟨q1, q2, q3⟩ := hI.tree' Hd.out Hh.out.1 Hh.out.2.1
      have c2 : wr.cell? ⟨t, 2, none⟩ = some (.slice (some ⟨lv, 0, none⟩) d c) := q1.cell rfl
      have hck : wr.cell? ⟨lv, k, none⟩ = some (fnOf (L k)) := range_cell q2 hlt
      have hdn := hI.dn' Hd.out Hh.out.1 Hh.out.2.1 hlt
      have hask := ask_done (L k) (R k).1 (R k).2 (lvx low i x k k) wr hdn
      rw [lvx_len] at hask
      obtain ⟨nn, hnn⟩ : ∃ nn, (lvl low k).length = nn := ⟨_, rfl⟩
      obtain ⟨r, hr⟩ : ∃ r, (R k).1 = r := ⟨_, rfl⟩
      obtain ⟨cr, hcr⟩ : ∃ cr, (R k).2 = cr := ⟨_, rfl⟩
      rw [hnn, hr, hcr] at hask
      unfold fnOf ptr at hck
      unfold ptr at hask
      have Hask := Lib.hid hask
      have HI0 := Lib.hid (And.intro hI (And.intro hik (And.intro hik2 (And.intro hnn (And.intro hr hcr)))))
      have hp2 : (k : Int) ≤ (d : Int) - 1 := by omega
      clear hask hI hik hik2 hnn hr hcr hdn q1 q2 q3
      go_wp2_with (fail)
      refine Hask.out.mono ?_
      rintro e w2 ⟨rfl, q, rfl⟩
      obtain ⟨hI0, hik, hik2, hnn, hr, hcr⟩ := HI0.out
      have hI := hI0.drewN q
      obtain ⟨wq, hwq⟩ : ∃ wq, wr.drewN q = wq := ⟨_, rfl⟩
      rw [hwq] at hI ⊢
      clear hwq hI0 c2
      have hrow := hI.row k hlt
      rw [hnn, hr, hcr] at hrow
      have hikn : ik < nn := by rw [← hik, ← hnn, lvl_len]; exact wid_div Hh.out.2.2.1 k
      have hnn2 : nn ≤ 1024 := by rw [← hnn, lvl_len]; exact Nat.le_trans (wid_le _ k Hh.out.1.l1) Hh.out.1.l2
      have hnc : nn ≤ cr := by
        rcases hrow.2 with ⟨e, _⟩ | ⟨_, _, _, e, _, _, h3, _⟩
        · cases e
        · injection e with _ _ e; omega
      have hth := row_there hrow (o := ik * 32) (k := 32) (by have := hrow.1; omega)
      obtain ⟨wT, hwT⟩ : ∃ wT, wq.setCells r (ik * 32) D = wT := ⟨_, rfl⟩
      have hnext := hI.next' Hd.out Hh.out.1 Hh.out.2.1 Hh.out.2.2.1 hlt Hz.out.1 (w2 := wT) (by rw [hr, hik]; exact hwT)
      have hsD : D.toArray.size = 32 := by rw [List.size_toArray]; exact hI.len
      have hDi : (Try.prog.info? 30).map (·.size) = some D.toArray.size := by rw [hsD]; exact info32b
      have hDi' : (Try.prog.info? 30).map (·.size) = some D.length := by rw [hI.len]; exact info32b
      have hDone : D.toArray.all (·.oneCell') = true := by rw [hI.now hlt]; exact cbs_one' _
      have hth' : wq.there r (ik * 32) D.toArray.size := by rw [hsD]; exact hth
      have hbD := hI.box.range
      have HI := Lib.hid (And.intro hI (And.intro hik (And.intro hik2 (And.intro hnn (And.intro hr hcr)))))
      have Hf := Lib.hid (And.intro hikn (And.intro hnn2 hnc))
      have H2 := Lib.hid hnext
      have Hst := Lib.hid (And.intro hth' (And.intro hDi (And.intro hDone (And.intro hDi' (And.intro hbD hwT)))))
      have hp0 : (0 : Int) ≤ (ik : Int) := by omega
      have hp1 : (ik : Int) < (nn : Int) := by omega
      have hp3 : (ik : Int) ≤ 1024 := by omega
      clear hI hik hik2 hnn hr hcr hikn hnn2 hnc hnext hth' hth hDi hDone hDi' hbD hwT hsD hrow hck
      by_cases hlast : k + 1 < d
      · have hp4 : (k : Int) < (d : Int) - 1 := by omega
        have hlow : (lowSet low i x).length = low.length := lowSet_len low i x
        have hDs : Ds wT.drew (some ⟨r, 0, none⟩) (lvl (lowSet low i x) k) := by
          have h := H2.out.2.2.1 k hlt
          rw [lvx, if_pos (by omega), HI.out.2.2.2.2.1] at h
          have e : (lvl low k).length = (lvl (lowSet low i x) k).length := by rw [lvl_len, lvl_len, hlow]
          rw [e] at h
          exact Shows.ofOwn h
        have hl1 : (lvl (lowSet low i x) k).length = nn := by rw [← HI.out.2.2.2.1, lvl_len, lvl_len, hlow]
        obtain ⟨hF, hFl⟩ := ds_four hDs (all32_lvl (all32_lowSet Hh.out.1.all i x) k) (ik / 4) (by rw [hl1]; have := Hf.out.1; omega)
        rw [hl1] at hFl
        have hnl := noteAll_len s (setIns low i x (min k (d - 1)))
        rw [setIns_len] at hnl
        have hup := up_kb B g bm _ (fun j => N j ∨ j = z) (some ⟨r, ik / 4 * 4 * 32, none⟩) (min 4 (nn - 4 * (ik / 4))) (cr - ik / 4 * 4) (four (lvl (lowSet low i x) k) (ik / 4)) wT.drew H2.out.1.drew9 (Nat.le_trans Hh.out.2.2.2.1 H2.out.2.1.size)
          (by have := Hh.out.2.2.2.2.1; omega) (by have := Hh.out.2.2.2.2.2; omega) hF ((all32_lvl (all32_lowSet Hh.out.1.all i x) k).four (ik / 4)) hFl (by have := Hf.out.1; omega) (by omega)
        obtain ⟨E, hE⟩ : ∃ E, cbs (digest (upIn (four (lvl (lowSet low i x) k) (ik / 4)))) = E := ⟨_, rfl⟩
        have hE32 : E.length = 32 := by rw [← hE, cbs_length, dlen]
        have hE1 : E.toArray.all (·.oneCell') = true := by rw [← hE]; exact cbs_one' _
        rw [hE] at hup
        have hEd : E = cbs (dAt (lowSet low i x) i (k + 1)) := by rw [dAt_succ (by rw [hlow]; exact Hh.out.2.2.1), HI.out.2.1]; exact hE.symm
        have hnt : stepL (noteAll s (setIns low i x (min k (d - 1)))) (upIn (four (lvl (lowSet low i x) k) (ik / 4))) = noteAll s (setIns low i x (min (k + 1) (d - 1))) := by
          rw [show min k (d - 1) = k by omega, show min (k + 1) (d - 1) = k + 1 by omega, setIns_succ, noteAll_snoc, HI.out.2.1]
        rw [hnt] at hup
        have Hup := Lib.hid hup
        have HE := Lib.hid (And.intro hEd (And.intro hE32 hE1))
        have Q0 : wT.drew.cell? ⟨t, 0, none⟩ = some (.pointer (some ⟨g, 0, none⟩)) := H2.out.2.2.2.2.cell rfl
        clear hlow hDs hl1 hF hFl hnl hup hE hE32 hE1 hEd hnt
        go_wp2_with (first
          | (refine wpList_load_mid rfl 30 _ rfl z 0 rfl D _ Hst.out.2.2.2.2.1 Try.underlying30 rfl Hst.out.2.2.2.1 ?_; simp only [Act.put])
          | (refine wpList_store_mid rfl 30 _ _ rfl r (ik * 32) D.toArray rfl rfl Hst.out.1 Hst.out.2.1 Hst.out.2.2.1 ?_; simp only [Act.put]; refine cast (congrArg (fun z => wpList _ _ _ _ _ z) Hst.out.2.2.2.2.2.symm) ?_))
        refine wp_region_held_drew (S := fun W' => W'.cell? ⟨t, 0, none⟩ = some (.pointer (some ⟨g, 0, none⟩))) (by kernel_rfl) Q0 (fun _ => ?_)
        refine anyH_take (i := 0) (d := 68) (v := ?v0) rfl rfl (by kernel_rfl) (by kernel_rfl) (by kernel_rfl) (fun _ _ _ h => h) (Or.inl ⟨by rfl, ?vy0⟩) Q0 ?vr0
        case vy0 => (intro w; go_simp; try with_reducible rfl)
        simp only [List.setIfInBounds_toArray, List.set_cons_zero, List.set_cons_succ]
        refine anyH_take (i := 1) (d := 69) (v := ?v1) rfl rfl (by kernel_rfl) (by kernel_rfl) (by kernel_rfl) (fun _ _ _ h => h) (Or.inl ⟨by rfl, ?vy1⟩) Q0 ?vr1
        case vy1 => (intro w; go_simp; try with_reducible rfl)
        simp only [List.setIfInBounds_toArray, List.set_cons_zero, List.set_cons_succ]
        refine anyH_take (i := 2) (d := 70) (v := ?v2) rfl rfl (by kernel_rfl) (by kernel_rfl) (by kernel_rfl) (fun _ _ _ h => h) (Or.inl ⟨by rfl, ?vy2⟩) Q0 ?vr2
        case vy2 => (intro w; go_simp; try with_reducible rfl)
        simp only [List.setIfInBounds_toArray, List.set_cons_zero, List.set_cons_succ]
        refine wpAnyH_take' (i := 3) (d := 71) (v := ?v3) rfl rfl (by kernel_rfl) (by kernel_rfl) (by kernel_rfl) (fun _ _ _ h => h) (Or.inl ⟨by rfl, ?vy3⟩) Q0 ?vr3
        case vy3 => (intro w hSw; go_split_ands; go_simp; try with_reducible rfl)
        simp only [List.setIfInBounds_toArray, List.set_cons_zero, List.set_cons_succ]
        refine anyH_take (i := 4) (d := 72) (v := ?v4) rfl rfl (by kernel_rfl) (by kernel_rfl) (by kernel_rfl) (fun _ _ _ h => h) (Or.inl ⟨by rfl, ?vy4⟩) Q0 ?vr4
        case vy4 => (intro w; go_simp; try with_reducible rfl)
        simp only [List.setIfInBounds_toArray, List.set_cons_zero, List.set_cons_succ]
        refine anyH_take (i := 5) (d := 73) (v := ?v5) rfl rfl (by kernel_rfl) (by kernel_rfl) (by kernel_rfl) (fun _ _ _ h => h) (Or.inl ⟨by rfl, ?vy5⟩) Q0 ?vr5
        case vy5 => (intro w; go_simp; try with_reducible rfl)
        simp only [List.setIfInBounds_toArray, List.set_cons_zero, List.set_cons_succ]
        refine anyH_call (i := 6) (d := 74) (v := (.slice (some ⟨r, ik / 4 * 4 * 32, none⟩) (min 4 (nn - 4 * (ik / 4))) (cr - ik / 4 * 4))) rfl rfl (by kernel_rfl) (by kernel_rfl) (by kernel_rfl) (fun _ _ _ h => h) ⟨by rfl, fun W hW => ⟨30, #[.slice (some ⟨r, 0, none⟩) nn cr, .int .i64 (ik : Int)], ?vy6, fourOf_any r nn cr ik W Hf.out.1 Hf.out.2.1 Hf.out.2.2⟩⟩ Q0 ?vr6
        case vy6 => (go_simp; try with_reducible rfl)
        simp only [List.setIfInBounds_toArray, List.set_cons_zero, List.set_cons_succ]
        refine anyH_one (i := 7) (by kernel_rfl) ?_
        refine wpOp_step rfl (fun K hK => ?_)
        go_simp
        refine Hup.out.mono ?_
        rintro e w4 ⟨rfl, hK4, hO4⟩
        have hR4 : ∀ m, m < d → w4.ownsRow 0 30 32 (.slice (some ⟨(R m).1, 0, none⟩) (lvl low m).length (R m).2) (lvl low m).length (cbs (lvx low i x (k + 1) m).flatten) := fun m hm => row_out (w := wT.drew) (H2.out.2.2.1 m hm) hO4 (Tn.keep (.inl (Hh.out.2.1 _ (Hh.out.1.inM.2.2 m (by rw [Hd.out]; exact hm)).2.2.2)))
        have hz4 : Blk w4 z 30 D := hO4.blk (w := wT.drew) H2.out.2.2.2.1 (Tn.keep (.inr rfl))
        have ht4 : Blk w4 t 45 (tcells g low.length lv d c) := hO4.blk (w := wT.drew) H2.out.2.2.2.2 (Tn.keep (.inl (Hh.out.2.1 _ Hh.out.1.inM.1)))
        have c4 : w4.cell? ⟨t, 0, none⟩ = some (.pointer (some ⟨g, 0, none⟩)) := ht4.cell rfl
        have hsE : E.toArray.size = 32 := by rw [List.size_toArray]; exact HE.out.2.1
        have hth4 : w4.there z 0 E.toArray.size := by
          have e := hz4.there
          rw [HI.out.1.len] at e
          rw [hsE]; exact e
        have hEi : (Try.prog.info? 30).map (·.size) = some E.toArray.size := by rw [hsE]; exact info32b
        obtain ⟨w5, hw5⟩ : ∃ w5, w4.setCells z 0 E = w5 := ⟨_, rfl⟩
        have hz5 : Blk w5 z 30 E := by rw [← hw5]; exact hz4.setAll (by rw [HE.out.2.1, HI.out.1.len])
        have ht5 : Blk w5 t 45 (tcells g low.length lv d c) := by rw [← hw5]; exact ht4.farAll (Hz.out.2 _ Hh.out.1.inM.1) E
        have hR5 : ∀ m, m < d → w5.ownsRow 0 30 32 (.slice (some ⟨(R m).1, 0, none⟩) (lvl low m).length (R m).2) (lvl low m).length (cbs (lvx low i x (k + 1) m).flatten) := fun m hm => row_stay (hR4 m hm) fun b cs hb _ => by
          have hb2 : b = (R m).1 := by simp [Value.ownBlock] at hb; exact hb.symm
          rw [← hw5]
          exact block_setCells (by rw [hb2]; exact Hz.out.2 _ (Hh.out.1.inM.2.2 m (by rw [Hd.out]; exact hm)).2.2.2) E
        have hK5 : Kb B w5 g bm (noteAll s (setIns low i x (min (k + 1) (d - 1)))) (fun j => N j ∨ j = z) := by rw [← hw5]; exact hK4.store (.inr rfl) 0 E
        have hO5 : Out (fun j => Tn B bm w N j ∨ RS R d j) w w5 := by
          rw [← hw5]
          refine Out.setCells Hz.out.1 E ((Out.drew9 H2.out.2.1).trans hO4 fun j hj hs => ?_)
          by_cases ht : Tn B bm w N j ∨ RS R d j
          · exact ht
          · refine .inl ⟨hs.1, fun e => hs.2.1 (.inl e), ?_⟩
            rcases hs.2.2 with e | ⟨cs, ty, fr, hc'⟩
            · exact .inl e
            · exact .inr ⟨cs, ty, fr, (H2.out.2.1.block j hj ht).symm.trans hc'⟩
        have c5 : w5.cell? ⟨t, 0, none⟩ = some (.pointer (some ⟨g, 0, none⟩)) := ht5.cell rfl
        have H5 := Lib.hid (And.intro hK5 (And.intro hO5 (And.intro hR5 (And.intro hz5 (And.intro hth4 (And.intro hEi hw5))))))
        clear hK4 hO4 hR4 hz4 ht4 hsE hth4 hEi hz5 ht5 hR5 hK5 hO5 hw5
        refine hK _ _ ⟨c4, ?_⟩
        clear hK K
        refine anyH_take (i := 8) (d := 67) (v := ?v8) rfl rfl (by kernel_rfl) (by kernel_rfl) (by kernel_rfl) (fun _ _ _ h => h) (Or.inl ⟨by rfl, ?vy8⟩) c4 ?vr8
        case vy8 => (intro w; go_simp; try with_reducible rfl)
        simp only [List.setIfInBounds_toArray, List.set_cons_zero, List.set_cons_succ]
        refine anyH_take (i := 9) (d := 76) (v := ?v9) rfl rfl (by kernel_rfl) (by kernel_rfl) (by kernel_rfl) (fun _ _ _ h => h) (Or.inl ⟨by rfl, ?vy9⟩) c4 ?vr9
        case vy9 => (intro w; go_simp; try with_reducible rfl)
        simp only [List.setIfInBounds_toArray, List.set_cons_zero, List.set_cons_succ]
        refine anyH_take (i := 10) (d := 77) (v := ?v10) rfl rfl (by kernel_rfl) (by kernel_rfl) (by kernel_rfl) (fun _ _ _ h => h) (Or.inl ⟨by rfl, ?vy10⟩) c4 ?vr10
        case vy10 => (intro w; go_simp; try with_reducible rfl)
        simp only [List.setIfInBounds_toArray, List.set_cons_zero, List.set_cons_succ]
        refine anyH_one (i := 11) (by kernel_rfl) ?_
        refine op_storeE rfl rfl rfl 30 _ _ rfl z 0 E rfl rfl H5.out.2.2.2.2.1 H5.out.2.2.2.2.2.1 HE.out.2.2 H5.out.2.2.2.2.2.2 ?_
        refine ⟨c5, ?_⟩
        refine anyH_take (i := 12) (d := 8) (v := ?v12) rfl rfl (by kernel_rfl) (by kernel_rfl) (by kernel_rfl) (fun _ _ _ h => h) (Or.inl ⟨by rfl, ?vy12⟩) c5 ?vr12
        case vy12 => (intro w; go_simp; try with_reducible rfl)
        simp only [List.setIfInBounds_toArray, List.set_cons_zero, List.set_cons_succ]
        refine wpAnyH_done (by kernel_rfl) ?_ _
        go_wp2
        go_roundw
        case rel => exact ⟨k + 1, E, by omega, by rw [HI.out.2.2.1]; go_num, rfl, by go_num, H5.out.1, H5.out.2.1, H5.out.2.2.1, H5.out.2.2.2.1, HE.out.2.1, fun _ => HE.out.1⟩
        case measure => simp [intOf]; omega
      · have hp4 : ¬ (k : Int) < (d : Int) - 1 := by omega
        go_wp2_with (first
          | (refine wpList_load_mid rfl 30 _ rfl z 0 rfl D _ Hst.out.2.2.2.2.1 Try.underlying30 rfl Hst.out.2.2.2.1 ?_; simp only [Act.put])
          | (refine wpList_store_mid rfl 30 _ _ rfl r (ik * 32) D.toArray rfl rfl Hst.out.1 Hst.out.2.1 Hst.out.2.2.1 ?_; simp only [Act.put]; refine cast (congrArg (fun z => wpList _ _ _ _ _ z) Hst.out.2.2.2.2.2.symm) ?_))
        go_roundw
        case rel =>
          have hkb := H2.out.1
          rw [show min k (d - 1) = min (k + 1) (d - 1) by omega] at hkb
          exact ⟨k + 1, D, by omega, by rw [HI.out.2.2.1]; go_num, rfl, by go_num, hkb, H2.out.2.1, H2.out.2.2.1, H2.out.2.2.2.1, HI.out.1.len, fun h => absurd h hlast⟩
        case measure => simp [intOf]; omega
    · obtain rfl : k = d := by omega
      have hp4 : ¬ (k : Int) ≤ (k : Int) - 1 := by omega
      have hdone := hI.done' Hd.out Hh.out.1 Hh.out.2.1
      have HD2 := Lib.hid hdone
      clear hI hdone hik hik2
      go_wp2
      go_ret
      exact ⟨rfl, HD2.out⟩

end Go.Proofs.Ytkkcjkelijlmbaa

namespace Go.Proofs.Ytkkcjkelijlmbaa

open Go.RowKit Go.Maps

set_option linter.unusedVariables false

set_option linter.unusedSimpArgs false

theorem kb_new {w w1 : World} {S : Nat → Prop} {g m : Nat} (hS : ∀ i, S i → w.heap.size ≤ i) (h : BookM w1 S g m [] false 0) : Kb w.heap.size w1 g m ([], false, 0) (fun _ => False) :=
  ⟨_, BookS.cells (s := ([], false, 0)) h, fun i hi => ⟨hS i hi.1, hi.2⟩, fun i hi => hi.elim⟩

theorem NewDs.form {w w' : World} {ds : List Dg} {v : Value} (h : NewDs w ds v w') (hne : ds ≠ []) : ∃ r c, v = .slice (some ⟨r, 0, none⟩) ds.length c ∧ ds.length ≤ c ∧ c ≤ maxLen ∧ w.heap.size ≤ r ∧ r < w'.heap.size ∧ Ds w' (some ⟨r, 0, none⟩) ds ∧ w'.ownsRow w.heap.size 30 32 (.slice (some ⟨r, 0, none⟩) ds.length c) ds.length (cbs ds.flatten) := by
  obtain ⟨h1, h2⟩ := h
  have hh := h1
  rcases h1.2 with ⟨_, e⟩ | ⟨r, c, cur, rfl, hb, hg, hnc, hcm, _⟩
  · exact absurd (List.eq_nil_of_length_eq_zero e) hne
  · exact ⟨r, c, rfl, hnc, hcm, hb, row_lt hh, Shows.ofOwn hh, hh⟩

theorem range_out {S : Nat → Prop} {w w' : World} {b o : Nat} {cs : List Value} (ho : Out S w w') (hn : ¬ S b) (h : w.rangeAt b o cs) : w'.rangeAt b o cs := fun j v hv =>
  (World.cell?_of_block (ho.block b (World.block_lt_of_cell? w _ (h j v hv)) hn)).trans (h j v hv)

theorem dep_five : dep 5 = 3 := by rw [dep_more (by decide), dep_more (by decide), dep_one (by decide)]

theorem root_of_one (a : Dg) : rootD [a] = a := by
  unfold rootD
  rw [show dep [a].length - 1 = 0 by rw [dep_one (by simp)]]
  rfl

theorem lows_empties (n : Nat) : lows (empties n) = List.replicate n (digest [0]) := by unfold lows empties; rw [List.map_replicate]; rfl

theorem root_single : rootD (lows (empties 1)) = digest [0] := by
  rw [lows_empties]
  generalize digest [0] = a
  exact root_of_one a

theorem next_five (a : Dg) : next [a, a, a, a, a] = [digest (upIn [a, a, a, a]), digest (upIn [a])] := by
  simp [next, ups, four, List.range_succ]

theorem level_five : ∃ d, d.length = 32 ∧ lvl (lows (empties 5)) 1 = [d, digest (1 :: digest [0])] := by
  rw [lows_empties]
  refine ⟨digest (upIn [digest [0], digest [0], digest [0], digest [0]]), dlen _, ?_⟩
  generalize digest [0] = a
  rw [lvl, lvl, show List.replicate 5 a = [a, a, a, a, a] from rfl, next_five]
  simp [upIn]

end Go.Proofs.Ytkkcjkelijlmbaa

namespace Go.Proofs.Ytkkcjkelijlmbaa

open Go.RowKit

set_option linter.unusedVariables false

def SomeNat (n : Int) (w : World) (e : Ending) (w' : World) : Prop := ∃ r : Nat, (r : Int) < n ∧ e = .returned (.int .i64 (r : Int)) ∧ w = w'

theorem SomeNat.mk {n : Int} {w w' : World} {x : Int} (h0 : 0 ≤ x) (h : x < n) (hw : w = w') : SomeNat n w (.returned (.int .i64 x)) w' :=
  ⟨x.toNat, by omega, by rw [Int.toNat_of_nonneg h0], hw⟩

end Go.Proofs.Ytkkcjkelijlmbaa

namespace Go.Proofs.Ytkkcjkelijlmbaa

open Go.RowKit Go.Maps

set_option linter.unusedVariables false

theorem load_mid_g {P : Program} {ops : Array Oper} {rest : List Oper} {o : Oper} {a : Act} {w : World} {Q : Exit → Act → World → Prop} (hw : Region.wanted o (yielded ops a.tmps) = true) (ty : TypeId) (x : Operand) (ho : o.op = .load ty x)
    (b k : Nat) (hx : a.eval x = .pointer (some ⟨b, k, none⟩)) (cs : List Value) (d : TypeDesc) (hc : w.rangeAt b k cs)
    (hu : P.underlying ty = some d) (hd : d.isRow = true) (hi : (P.info? ty).map (·.size) = some cs.length)
    (h : wpList P ops Q rest (a.put o.dst (.agg cs.toArray)) w) : wpList P ops Q (o :: rest) a w :=
  wpList_step fun K hK => by rw [if_pos hw]; exact wp_load_mid ty x ho b k hx cs d hc hu hd hi (hK _ _ h)

theorem eq_self (D : List Value) (l : List UInt8) (h : cbs l = D) (hl : l.length = 32) (w : World) : (Op.equalIn 10000 30 (.agg D.toArray) (.agg D.toArray)).run Try.prog w = .ok true w := by
  subst h
  have := eq_digests w l l hl hl
  rw [this]; simp

set_option maxRecDepth 100000 in
set_option maxHeartbeats 800000 in
theorem tset_off {w : World} {M : Nat → Prop} {t g : Nat} {low : List Dg} (h : TreeAt w M t g low) (i : Int) (hi : i < 0 ∨ (low.length : Int) ≤ i) (A : Option Addr) (n c : Nat) :
    Calls Try.prog 15 #[.pointer (some ⟨t, 0, none⟩), .int .i64 i, .slice A n c] w fun e w' => e = .returned (.int .i64 9) ∧ w' = w := by
  obtain ⟨L, R, lv, cc, hT⟩ := h
  have hd1 := dep_pos low.length
  have hb := hT.blk
  have c1 : w.cell? ⟨t, 1, none⟩ = some (.int .i64 (low.length : Int)) := hb.cell rfl
  have Hno := Lib.hid (tnone_no t g low.length lv _ cc w hb hd1)
  clear hb hT hd1
  by_cases h0 : i < 0
  · go_enter Try.func15, Try.ntmps15
    go_wp2_with (go_at_call 16; refine Hno.out.mono ?_; rintro e w ⟨rfl, rfl⟩)
    go_ret
    exact ⟨rfl, rfl⟩
  · have h1 : i ≥ (low.length : Int) := by omega
    have h2 : (low.length : Int) ≤ i := by omega
    go_enter Try.func15, Try.ntmps15
    go_wp2_with (go_at_call 16; refine Hno.out.mono ?_; rintro e w ⟨rfl, rfl⟩)
    go_ret
    exact ⟨rfl, rfl⟩

theorem new_bound (many : Nat) (h1 : 1 ≤ many) (h2 : many ≤ 1024) (s : Bk) : (noteAll s (insTo (empties many) (dep many - 1))).1.length ≤ s.1.length + 6144 ∧ (noteAll s (insTo (empties many) (dep many - 1))).2.2 ≤ s.2.2 + 6144 := by
  have h3 := noteAll_len s (insTo (empties many) (dep many - 1))
  have h4 := insTo_len (empties many) (by rw [empties_len]; exact h1) (dep many - 1)
  have h5 := dep_le h2
  have h6 := dep_pos many
  rw [empties_len] at h4
  have : many * (dep many - 1 + 1) ≤ 1024 * 6 := Nat.mul_le_mul h2 (by omega)
  omega

end Go.Proofs.Ytkkcjkelijlmbaa

namespace Go.Proofs.Ytkkcjkelijlmbaa

set_option linter.unusedVariables false

theorem noteAll_mem (s : Bk) (ls : List (List UInt8)) (y : List UInt8) : y ∈ (noteAll s ls).1 ↔ y ∈ s.1 ∨ (y ∈ ls ∧ y.length ≤ 65536) := by
  induction ls generalizing s with
  | nil => simp [noteAll]
  | cons x ls ih =>
    have e : noteAll s (x :: ls) = noteAll (stepL s x) ls := rfl
    rw [e, ih, stepL_mem, List.mem_cons]
    constructor
    · rintro ((h | ⟨rfl, h⟩) | h)
      · exact .inl h
      · exact .inr ⟨.inl rfl, h⟩
      · exact .inr ⟨.inr h.1, h.2⟩
    · rintro (h | ⟨rfl | h, h2⟩)
      · exact .inl (.inl h)
      · exact .inl (.inr ⟨rfl, h2⟩)
      · exact .inr ⟨h, h2⟩

theorem noteAll_good (s : Bk) (ls : List (List UInt8)) (h : Unmixed s) : Unmixed (noteAll s ls) := by
  induction ls generalizing s with
  | nil => exact h
  | cons x ls ih => exact ih _ (stepL_good s x h)

theorem flat_inj {l l' : List Dg} (h : All32 l) (h' : All32 l') (hl : l.length = l'.length) (e : l.flatten = l'.flatten) : l = l' := by
  apply List.ext_getElem hl
  intro i h1 h2
  rw [← flat_get h h1, ← flat_get h' h2, e]

theorem ups_mem {ls : List (List UInt8)} {n k : Nat} (hk : k < n) {x : List UInt8} (hx : x ∈ ups (lvl (lows ls) k)) : x ∈ insTo ls n := by
  induction n with
  | zero => omega
  | succ n ih =>
    rw [insTo_succ, List.mem_append]
    by_cases h : k < n
    · exact .inl (ih h)
    · have : k = n := by omega
      subst this
      exact .inr hx

theorem leaf_mem {ls : List (List UInt8)} (n : Nat) {x : List UInt8} (hx : x ∈ ls) : leafIn x ∈ insTo ls n := by
  induction n with
  | zero => exact List.mem_map.2 ⟨x, hx, rfl⟩
  | succ n ih => rw [insTo_succ, List.mem_append]; exact .inl ih

theorem upIn_small {l : List Dg} (h : All32 l) (j : Nat) : (upIn (four l j)).length ≤ 65536 := by
  unfold upIn
  rw [List.length_cons, flat_len (h.four j), four_len]
  omega

theorem ups_at {l : List Dg} {j : Nat} (hj : j < (l.length + 3) / 4) : upIn (four l j) ∈ ups l := List.mem_map.2 ⟨j, List.mem_range.2 hj, rfl⟩

section

variable {L : List (List UInt8)} {ls ls' : List (List UInt8)} {n : Nat}

/-- One level down. -/
theorem next_inj (hU : ∀ x ∈ L, ∀ y ∈ L, digest x = digest y → x = y) {l l' : List Dg} (h : All32 l) (h' : All32 l') (hl : l.length = l'.length) (hm : ∀ x ∈ ups l, x.length ≤ 65536 → x ∈ L) (hm' : ∀ x ∈ ups l', x.length ≤ 65536 → x ∈ L) (e : next l = next l') : l = l' := by
  apply List.ext_getElem hl
  intro i h1 h2
  have hj : i / 4 < (l.length + 3) / 4 := by omega
  have e1 := next_get l (i / 4)
  have e2 := next_get l' (i / 4)
  rw [if_pos hj] at e1
  rw [if_pos (by omega), ← e, e1] at e2
  have e3 := hU _ (hm _ (ups_at hj) (upIn_small h _)) _ (hm' _ (ups_at (by omega)) (upIn_small h' _)) (Option.some.inj e2)
  unfold upIn at e3
  injection e3 with _ e3
  have e4 := flat_inj (h.four (i / 4)) (h'.four (i / 4)) (by rw [four_len, four_len, hl]) e3
  have g1 := four_get l (i / 4) (i % 4) (by omega)
  have g2 := four_get l' (i / 4) (i % 4) (by omega)
  rw [show 4 * (i / 4) + i % 4 = i by omega] at g1 g2
  rw [e4, g2, List.getElem?_eq_getElem h1, List.getElem?_eq_getElem h2] at g1
  exact (Option.some.inj g1).symm

theorem lvl_inj (hU : ∀ x ∈ L, ∀ y ∈ L, digest x = digest y → x = y) (hl : ls.length = ls'.length) (hm : ∀ x ∈ insTo ls n, x.length ≤ 65536 → x ∈ L) (hm' : ∀ x ∈ insTo ls' n, x.length ≤ 65536 → x ∈ L) :
    ∀ k, k ≤ n → lvl (lows ls) k = lvl (lows ls') k → lows ls = lows ls'
  | 0, _, e => e
  | k + 1, hk, e => lvl_inj hU hl hm hm' k (by omega) (next_inj hU (all32_lvl (all32_lows _) k) (all32_lvl (all32_lows _) k) (by rw [lvl_len, lvl_len, lows_len, lows_len, hl]) (fun x hx => hm x (ups_mem (by omega) hx)) (fun x hx => hm' x (ups_mem (by omega) hx)) e)

theorem lows_inj (hU : ∀ x ∈ L, ∀ y ∈ L, digest x = digest y → x = y) (hl : ls.length = ls'.length) (hm : ∀ x ∈ insTo ls n, x.length ≤ 65536 → x ∈ L) (hm' : ∀ x ∈ insTo ls' n, x.length ≤ 65536 → x ∈ L) (h : ∀ x ∈ ls, x.length ≤ 65535) (h' : ∀ x ∈ ls', x.length ≤ 65535) (e : lows ls = lows ls') : ls = ls' := by
  apply List.ext_getElem hl
  intro i h1 h2
  have e1 : (lows ls)[i]? = (lows ls')[i]? := by rw [e]
  unfold lows at e1
  rw [List.getElem?_map, List.getElem?_map, List.getElem?_eq_getElem h1, List.getElem?_eq_getElem h2] at e1
  have e2 : digest (leafIn ls[i]) = digest (leafIn ls'[i]) := Option.some.inj e1
  have l1 := h _ (List.getElem_mem h1)
  have l2 := h' _ (List.getElem_mem h2)
  have e3 := hU _ (hm _ (leaf_mem n (List.getElem_mem h1)) (by rw [leafIn_len]; omega)) _ (hm' _ (leaf_mem n (List.getElem_mem h2)) (by rw [leafIn_len]; omega)) e2
  unfold leafIn at e3
  injection e3

end

/-- As long as there is no clash, like roots are of like leaves. -/
theorem roots_apart (ls ls' : List (List UInt8)) (m : Nat) (hl : ls.length = m) (hl' : ls'.length = m) (h1 : 1 ≤ m) (h : ∀ x ∈ ls, x.length ≤ 65535) (h' : ∀ x ∈ ls', x.length ≤ 65535)
    (hc : (noteAll (noteAll ([], false, 0) (insTo ls (dep m - 1))) (insTo ls' (dep m - 1))).2.1 = false) (e : rootD (lows ls) = rootD (lows ls')) : ls = ls' := by
  have hU := noteAll_good _ (insTo ls' (dep m - 1)) (noteAll_good ([], false, 0) (insTo ls (dep m - 1)) (fun _ x hx => by simp at hx)) hc
  have hm : ∀ x ∈ insTo ls (dep m - 1), x.length ≤ 65536 → x ∈ (noteAll (noteAll ([], false, 0) (insTo ls (dep m - 1))) (insTo ls' (dep m - 1))).1 := fun x hx hs => by
    rw [noteAll_mem, noteAll_mem]; exact .inl (.inr ⟨hx, hs⟩)
  have hm' : ∀ x ∈ insTo ls' (dep m - 1), x.length ≤ 65536 → x ∈ (noteAll (noteAll ([], false, 0) (insTo ls (dep m - 1))) (insTo ls' (dep m - 1))).1 := fun x hx hs => by
    rw [noteAll_mem]; exact .inr ⟨hx, hs⟩
  have r1 := root_one (low := lows ls) (by rw [lows_len]; omega)
  have r2 := root_one (low := lows ls') (by rw [lows_len]; omega)
  rw [lows_len, hl] at r1
  rw [lows_len, hl'] at r2
  exact lows_inj hU (by omega) hm hm' h h' (lvl_inj hU (by omega) hm hm' (dep m - 1) (Nat.le_refl _) (by rw [r1, r2, e]))

end Go.Proofs.Ytkkcjkelijlmbaa
