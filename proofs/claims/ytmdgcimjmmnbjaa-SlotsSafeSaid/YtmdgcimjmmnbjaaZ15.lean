/-
  Laid together for a hand-in: Rb14, Ke14, Ks14, Wn14, Sy14, Po14.
-/
import Derived.Test.YtmdgcimjmmnbjaaZ14
import Derived.Test.YtmdgcimjmmnbjaaZ12

namespace Go.Proofs.Ytmdgcimjmmnbjaa
open Go.RowKit Go.Shelf Go.Sort Go.Maps CrewP
set_option linter.unusedVariables false
set_option linter.unusedSimpArgs false

theorem RangeT.nd {P : Program} {K : TypeId} {α β : Type} [DecidableEq α] {T : KeyT P K α} {vv : β → Value} {w : World} {m r : Nat} {L todo : List (α × β)} (h : RangeT T vv w m r L todo) : (todo.map Prod.fst).Nodup := by
  obtain ⟨hd, _, _, _, _, _, _, rfl⟩ := h
  exact hd.nd.sublist (List.filter_sublist.map _)
/-- What is left in the map while the loop goes on. -/
def Lft (L0 L todo : List (Int × Nat)) (lo : Int) : Prop := ∀ p, p ∈ L ↔ p ∈ L0 ∧ (lo < p.1 ∨ p ∈ todo)
theorem lft_0 (L0 : List (Int × Nat)) (lo : Int) : Lft L0 L0 L0 lo := fun p => ⟨fun h => ⟨h, .inr h⟩, fun h => h.1⟩
theorem lft_keep {L0 L todo more : List (Int × Nat)} {lo n : Int} {s : Nat} (h : Lft L0 L todo lo) (hp : todo.Perm ((n, s) :: more)) (hn : ¬ n ≤ lo) : Lft L0 L more lo := fun p => by
  rw [h p]
  constructor
  · rintro ⟨h1, h2 | h2⟩
    · exact ⟨h1, .inl h2⟩
    · rcases List.mem_cons.1 (hp.mem_iff.1 h2) with e | h3
      · exact ⟨h1, .inl (by rw [e]; show lo < n; omega)⟩
      · exact ⟨h1, .inr h3⟩
  · rintro ⟨h1, h2 | h2⟩
    · exact ⟨h1, .inl h2⟩
    · exact ⟨h1, .inr (hp.mem_iff.2 (List.mem_cons_of_mem _ h2))⟩
theorem lft_drop {L0 L todo more : List (Int × Nat)} {lo n : Int} {s : Nat} (h : Lft L0 L todo lo) (hp : todo.Perm ((n, s) :: more)) (hsub : ∀ p ∈ todo, p ∈ L) (hno : ∀ b, (n, b) ∉ more) (hn : n ≤ lo) : Lft L0 (delL L n) more lo := fun p => by
  unfold delL
  rw [List.mem_filter]
  constructor
  · rintro ⟨h1, h2⟩
    have hne : p.1 ≠ n := of_decide_eq_true h2
    obtain ⟨h3, h4 | h4⟩ := (h p).1 h1
    · exact ⟨h3, .inl h4⟩
    · rcases List.mem_cons.1 (hp.mem_iff.1 h4) with e | h5
      · exact absurd (by rw [e]) hne
      · exact ⟨h3, .inr h5⟩
  · rintro ⟨h1, h2 | h2⟩
    · exact ⟨(h p).2 ⟨h1, .inl h2⟩, decide_eq_true (by omega)⟩
    · refine ⟨hsub p (hp.mem_iff.2 (List.mem_cons_of_mem _ h2)), decide_eq_true fun e => hno p.2 (by rw [← e]; exact h2)⟩
section
variable {w w' : World} {U : Nat → Prop} {g : Nat} {σ : St} {ab cap m : Nat} {sb qb rb cb : Nat → Nat} {role : Nat → Nat}
set_option maxRecDepth 100000 in
set_option maxHeartbeats 3200000 in
theorem raise_in (h : StIn w U g σ all8 ab cap m sb qb rb cb role) (lo : Int) (E : Int) (hE : raiseE σ lo = E) :
    Calls Try.prog 24 #[.pointer (some ⟨g, 0, none⟩), .int .i64 lo] w fun e w' => e = .returned (.int .i64 E) ∧ StAt w' (Gr U w w') g (raiseS σ lo) ∧ Out U w w' := by
  have c2 := h.blk.cell (i := 2) rfl
  have Hn := Lib.hid (none_in h)
  have HE := Lib.hid hE
  have H0 : Hid (StAt w (Gr U w w) g σ) := Lib.hid ⟨_, _, _, _, _, _, _, _, h.wide (fun i hi => .inl hi) fun i hi => hi.elim (h.lt i) fun h => h.2⟩
  have H := Lib.hid h
  clear h hE
  by_cases h1 : lo < σ.low
  · have hE9 : E = 9 := by rw [← HE.out]; unfold raiseE; rw [if_pos (.inl h1)]
    subst hE9
    rw [raise_9 (by rw [HE.out]; omega)]
    generalize σ.low = lw at *
    go_enter Try.func24, Try.ntmps24
    go_wp2_with (go_at_call 38; refine Hn.out.mono ?_; rintro e w' ⟨rfl, hww⟩; obtain rfl := hww.symm)
    go_ret
    exact ⟨rfl, H0.out, Out.refl _ _⟩
  by_cases h2 : lo > 9007199254740983
  · have h3 : (9007199254740983 : Int) < lo := h2
    have hE9 : E = 9 := by rw [← HE.out]; unfold raiseE; rw [if_pos (.inr h3)]
    subst hE9
    rw [raise_9 (by rw [HE.out]; omega)]
    generalize σ.low = lw at *
    go_enter Try.func24, Try.ntmps24
    go_wp2_with (go_at_call 38; refine Hn.out.mono ?_; rintro e w' ⟨rfl, hww⟩; obtain rfl := hww.symm)
    go_ret
    exact ⟨rfl, H0.out, Out.refl _ _⟩
  have h3 : ¬ (9007199254740983 : Int) < lo := h2
  have hE0 : E = 0 := by rw [← HE.out]; unfold raiseE; rw [if_neg (by omega)]
  subst hE0
  rw [raise_0 HE.out]
  clear H0
  have oS : Out (fun b => b = g ∨ b = m) w (w.setCell ⟨g, 2, none⟩ (.int .i64 lo)) := (Out.refl (fun b => b = g ∨ b = m) w).setCell (p := ⟨g, 2, none⟩) (fun _ => .inl rfl) _
  have hgm : ¬ m = g := fun e => by have := H.out.rg; have := H.out.rm; rw [e] at *; omega
  have hB := H.out.blk.set_ 2 (.int .i64 lo)
  have hM : MapT intK ptr (w.setCell ⟨g, 2, none⟩ (.int .i64 lo)) m (nums σ.low sb all8) := H.out.num.out ((Out.refl (fun b => b = g) w).setCell (p := ⟨g, 2, none⟩) (fun _ => rfl) _) hgm
  have f2 := H.out.blk.free 2
  have c3 := hB.cell (i := 3) rfl
  have HS := Lib.hid (And.intro oS (And.intro hB hM))
  have hz : (w.setCell ⟨g, 2, none⟩ (.int .i64 lo)).heap.size = w.heap.size := by simp
  clear oS hB hM
  generalize hlw : σ.low = lw at *
  go_enter Try.func24, Try.ntmps24
  go_wp2_with (first
    | (go_at_call 38; refine Hn.out.mono ?_; rintro e w' ⟨rfl, hww⟩; obtain rfl := hww.symm)
    | (at_range; refine wpList_range_T _ rfl _ 70 _ rfl Try.underlying70 rfl HS.out.2.2 ?_; intro w0 hrg0 hb1 hs0)
    | go_in)
  rw [hz] at hrg0 hb1
  simp only [hz]
  go_frame
  have hr0 : w.heap.size ≤ w0.heap.size := by have := hb1.size; omega
  have HL := Lib.hid (And.intro hrg0 (And.intro hb1 hr0))
  clear hrg0 hb1 hs0 c3 f2 c2 hr0 hz
  go_loopw [5] (fun v5 wr => ∃ (todo L : List (Int × Nat)), RangeT intK ptr wr m w.heap.size L todo ∧ Lft (nums lw sb all8) L todo lo ∧ Out (fun b => b = g ∨ b = m) w wr ∧ Blk wr g 72 [.int .i64 σ.f, .slice (some ⟨ab, 0, none⟩) σ.ns.length cap, .int .i64 lo, .map (some m)])
    (fun _ wr => wr.rangeLeft m w.heap.size)
  case atStart => exact ⟨_, _, HL.out.1, lft_0 _ _, HS.out.1.then_below (by rw [show (w.setCell ⟨g, 2, none⟩ (.int .i64 lo)).heap.size = w.heap.size by simp]; exact HL.out.2.1), HS.out.2.1.below HL.out.2.1 (by have := HS.out.2.1.lt; simpa using this)⟩
  case round =>
    obtain ⟨todo, L, hrg, hlf, hout, hblk⟩ := hrel
    have H1 := Lib.hid (And.intro hlf (And.intro hout hblk))
    clear hlf hout hblk HL HS
    go_wp2_with (first
      | (at_next; refine wpList_next_T _ rfl _ rfl (fun x => .int .i64 x) (fun b => .pointer (some ⟨b, 0, none⟩)) (fun _ => rfl) (fun _ => rfl) rfl hrg ?_ ?_)
      | go_in)
    · intro h0
      subst h0
      have hL : ∀ p, p ∈ L ↔ p ∈ nums σ.low sb all8 ∧ lo < p.1 := fun p => by
        rw [hlw, H1.out.1 p]
        simp
      have hlift := H.out.lift HE.out H1.out.2.1 H1.out.2.2 hrg.owns hL
      have hop := open_in hlift
      rw [fill_low] at hop
      have HO := Lib.hid hop
      clear hlift hop hL hrg
      go_wp2_with (go_at_call 49; refine HO.out.mono ?_; rintro e w9 ⟨rfl, hst9, hout9⟩)
      go_ret
      have hz1 := H1.out.2.1.size
      have hz9 := hout9.size
      refine ⟨rfl, hst9.wide (fun i hi => hi.imp_right fun h => ⟨by omega, h.2⟩) fun i hi => ?_, ?_⟩
      · rcases hi with hi | hi
        · have := H.out.lt i hi; omega
        · exact hi.2
      · refine Out.trans (S' := fun b => b = m) ⟨H1.out.2.1.os, H1.out.2.1.tape, H1.out.2.1.output, H1.out.2.1.size, fun i hi hn => H1.out.2.1.block i hi fun e => hn (e.elim (fun e => by rw [e]; exact H.out.ug) fun e => by rw [e]; exact H.out.u m (by rw [H.out.rm]; omega))⟩ hout9 fun i _ e => by rw [e]; exact H.out.u m (by rw [H.out.rm]; omega)
    · intro n s more w1 hp hm hok hrg1 hlt hout hsz hen
      have hlt0 := hrg1.lt
      have hne1 := hrg1.ne
      have hnd := hrg.nd
      have hsub := hrg.sub
      have hno : ∀ b, (n, b) ∉ more := fun b hb => by
        have h4 := (hp.map Prod.fst).nodup_iff.1 hnd
        rw [List.map_cons, List.nodup_cons] at h4
        exact h4.1 (List.mem_map.2 ⟨(n, b), hb, rfl⟩)
      have hgr : ¬ g = w.heap.size := fun e => by have := H.out.lt g H.out.ug; omega
      have hblk1 := hout.blk H1.out.2.2 (by exact hgr)
      have hout1 : Out (fun b => b = g ∨ b = m) w w1 := H1.out.2.1.trans hout fun i hi e => by have e' : i = w.heap.size := e; omega
      have HK := Lib.hid (And.intro hblk1 (And.intro hout1 (And.intro hp (And.intro hlt (And.intro hno hsub)))))
      have hok' : Wf n := hok
      by_cases hle : n ≤ lo
      · obtain ⟨w2, hrun, hturn, hrg2, hle2⟩ := hrg1.drop (a := n) Try.underlying70 hok' 0 hno
        have o2 := turned_out hturn
        have hblk2 := o2.blk hblk1 (fun e => hgm e.symm)
        have hout2 : Out (fun b => b = g ∨ b = m) w w2 := hout1.trans o2 fun i _ e => .inr e
        have hc3 := hblk1.cell (i := 3) rfl
        have HD := Lib.hid (And.intro hrun (And.intro hrg2 (And.intro (lft_drop H1.out.1 hp hsub hno hle) (And.intro hout2 (And.intro hblk2 hle2)))))
        clear hblk1 hout1 hp hm hok hrg1 hlt hout hsz hrg hnd hsub hno hlt0 hne1 hrun hturn hrg2 hle2 o2 hblk2 hout2 hok'
        go_wp2_with (refine del_g rfl rfl _ _ _ _ rfl _ _ w2 rfl rfl HD.out.1 ?_)
        go_roundw
        case rel => exact ⟨more, _, HD.out.2.1, HD.out.2.2.1, HD.out.2.2.2.1, HD.out.2.2.2.2.1⟩
        case measure => have h1 := HD.out.2.2.2.2.2; have h2 := HK.out.2.2.2.1; omega
      · have HD := Lib.hid (And.intro hrg1 (lft_keep H1.out.1 hp hle))
        clear hblk1 hout1 hp hm hok hrg1 hlt hout hsz hrg hnd hsub hno hlt0 hne1 hok'
        have hle' : ¬ n ≤ lo := hle
        go_wp2
        go_roundw
        case rel => exact ⟨more, L, HD.out.1, HD.out.2, HK.out.2.1, HK.out.1⟩
        case measure => exact HK.out.2.2.2.1
end
end Go.Proofs.Ytmdgcimjmmnbjaa

namespace Go.Proofs.Ytmdgcimjmmnbjaa
open Go.RowKit Go.Shelf Go.Sort Go.Maps CrewP
set_option linter.unusedVariables false
set_option linter.unusedSimpArgs false

theorem ins_end {x : Vt} : ∀ {l : List Vt}, (∀ y ∈ l, y.v < x.v) → ins x l = l ++ [x]
  | [], _ => rfl
  | y :: l, h => by
    have h1 : ¬ ltV x y := by have := h y List.mem_cons_self; unfold ltV; omega
    unfold ins
    rw [if_neg h1, ins_end fun z hz => h z (List.mem_cons_of_mem _ hz)]
    rfl
theorem qPut_end {q : List Vt} {x : Vt} (h : ∀ y ∈ q, y.v < x.v) : qPut q x = qCut (qLess q x.d) ++ [x] :=
  ins_end fun y hy => h y (List.mem_filter.1 ((qCut_sub _).subset hy)).1
theorem fol_new {o : Option Vt} {x : Vt} (h : ∀ v, o = some v → v.v < x.v) : fol o x = 0 := by
  cases o with
  | none => rfl
  | some v =>
    have := h v rfl
    simp only [fol]
    rw [if_neg (by omega), if_neg (by omega)]
theorem preB_set (σ : St) (i : Nat) (x y : Sq) : preB (σ.set i x) y = preB σ y := rfl
/-- The number 1 is all that is known; what was said was said in views below k. -/
structure KeI (k : Nat) (σ : St) (p : Option Vt) : Prop where
  f : σ.f = 1
  ns : σ.ns = ndL 4
  low : σ.low = 0
  oth : ∀ i, i ≠ 0 → σ.s i = sq0
  last : ∀ v, (σ.s 0).last = some v → v.v < k
  pr : ∀ n v, (σ.s 0).pr n = some v → v.v < k
  p : (σ.s 0).p = p
  q : ∀ y ∈ (σ.s 0).q, y.v < k
theorem kei_fresh : KeI 0 (fr 1) none := ⟨rfl, rfl, rfl, fun _ _ => rfl, fun v h => by simp [fr, fresh0, sq0] at h, fun n v h => by simp [fr, fresh0, sq0] at h, rfl, fun y h => by simp [fr, fresh0, sq0] at h⟩
theorem set_s (σ : St) (i : Nat) (x : Sq) : (σ.set i x).s i = x := by simp [St.set]
theorem set_o {σ : St} {i j : Nat} (x : Sq) (h : j ≠ i) : (σ.set i x).s j = σ.s j := by simp [St.set, h]
theorem idx0 {σ : St} (h : σ.low = 0) : idx σ 1 = some 0 := by unfold idx; rw [h]; rfl
theorem view_k {k : Nat} (hk : k < 20) : viewB (k : Int) = true := by simp [viewB]; omega
section
variable {k : Nat} {σ : St} {p : Option Vt} {d : List UInt8}
theorem kei_prop (h : KeI k σ p) (hk : k < 20) : propE σ k 1 d = 0 ∧ KeI (k + 1) (propS σ k 1 d) p ∧ ((propS σ k 1 d).s 0).last = some ⟨k, d⟩ ∧ ((propS σ k 1 d).s 0).q = qCut (qLess (σ.s 0).q d) ++ [⟨k, d⟩] ∧
    (∀ n v, ((propS σ k 1 d).s 0).pr n = some v → v.v < k) ∧ preB (propS σ k 1 d) ((propS σ k 1 d).s 0) = false := by
  have hE : propE σ k 1 d = 0 := by
    unfold propE
    rw [view_k hk, if_neg (by simp), idx0 h.low]
    exact fol_new h.last
  have hc : cntV σ.ns (σ.s 0).pr ⟨k, d⟩ = 0 := by
    unfold cntV
    rw [List.countP_eq_zero]
    intro n _ e
    have := h.pr n ⟨k, d⟩ (of_decide_eq_true e)
    simp at this
  have hpb : preB σ (propSq (σ.s 0) ⟨k, d⟩) = false := by
    unfold preB propSq
    simp only [hc, h.f]
    decide
  have hS : propS σ k 1 d = σ.set 0 (propSq (σ.s 0) ⟨k, d⟩) := by
    unfold propS
    rw [hE, if_neg (by simp), idx0 h.low]
    simp only [lookS, hpb]
    simp
  rw [hS]
  have hq : (propSq (σ.s 0) ⟨k, d⟩).q = qCut (qLess (σ.s 0).q d) ++ [⟨k, d⟩] := qPut_end h.q
  refine ⟨hE, ⟨h.f, h.ns, h.low, fun i hi => by rw [set_o _ hi]; exact h.oth i hi, ?_, ?_, ?_, ?_⟩, ?_, ?_, ?_, ?_⟩
  · rw [set_s]
    intro v hv
    injection hv with hv
    rw [← hv]
    show (k : Int) < ((k + 1 : Nat) : Int)
    omega
  · rw [set_s]
    intro n v hv
    have := h.pr n v hv
    omega
  · rw [set_s]; exact h.p
  · rw [set_s, hq]
    intro y hy
    rcases List.mem_append.1 hy with hy | hy
    · have := h.q y (List.mem_filter.1 ((qCut_sub _).subset hy)).1
      omega
    · rw [List.mem_singleton.1 hy]
      show (k : Int) < ((k + 1 : Nat) : Int)
      omega
  · rw [set_s]; rfl
  · rw [set_s]; exact hq
  · rw [set_s]; exact h.pr
  · rw [set_s, preB_set]; exact hpb
/-- Prepared by the nodes 1 to j. -/
def stJ (σ : St) (k : Nat) (d : List UInt8) : Nat → St
  | 0 => σ
  | j + 1 => prepS (stJ σ k d j) ((j : Int) + 1) k 1 d
structure KeJ (k : Nat) (d : List UInt8) (q : List Vt) (j : Nat) (τ : St) : Prop where
  f : τ.f = 1
  ns : τ.ns = ndL 4
  low : τ.low = 0
  oth : ∀ i, i ≠ 0 → τ.s i = sq0
  last : (τ.s 0).last = some ⟨k, d⟩
  pr : ∀ n v, (τ.s 0).pr n = some v → v.v < k + 1
  new : ∀ n : Int, (j : Int) < n → ∀ v, (τ.s 0).pr n = some v → v.v < k
  done : ∀ n : Int, 1 ≤ n → n ≤ j → n ≠ leadO τ k → (τ.s 0).pr n = some ⟨k, d⟩
  q : (τ.s 0).q = q
  pp : preB τ (τ.s 0) = true → (τ.s 0).p = some ⟨k, d⟩
theorem kej_step {q : List Vt} {j : Nat} {τ : St} (h : KeJ k d q j τ) (hj : j < 4) (hk : k < 20) : KeJ k d q (j + 1) (prepS τ ((j : Int) + 1) k 1 d) := by
  have hmem : ((j : Int) + 1) ∈ τ.ns := by
    rw [h.ns]
    have : ∀ j : Nat, j < 4 → ((j : Int) + 1) ∈ ndL 4 := by decide +kernel
    exact this j hj
  by_cases hl : (j : Int) + 1 = leadO τ k
  · have hE : prepE τ ((j : Int) + 1) k 1 d = 2 := by
      unfold prepE
      rw [if_neg (by simpa using hmem), view_k hk, if_neg (by simp), if_pos hl]
    have hS : prepS τ ((j : Int) + 1) k 1 d = τ := by unfold prepS; rw [if_pos (by rw [hE]; omega)]
    rw [hS]
    exact ⟨h.f, h.ns, h.low, h.oth, h.last, h.pr, fun n hn => h.new n (by omega), fun n h1 h2 h3 => h.done n h1 (by
      have : n ≠ (j : Int) + 1 := fun e => h3 (by rw [e]; exact hl)
      omega) h3, h.q, h.pp⟩
  · have hE : prepE τ ((j : Int) + 1) k 1 d = 0 := by
      unfold prepE
      rw [if_neg (by simpa using hmem), view_k hk, if_neg (by simp), if_neg hl, idx0 h.low]
      exact fol_new (h.new _ (by omega))
    have hS : prepS τ ((j : Int) + 1) k 1 d = τ.set 0 (lookS τ { τ.s 0 with pr := setV (τ.s 0).pr ((j : Int) + 1) ⟨k, d⟩ }) := by
      unfold prepS
      rw [if_neg (by rw [hE]; omega), idx0 h.low]
    rw [hS]
    have hx : ∀ x : Sq, (lookS τ x).last = x.last ∧ (lookS τ x).pr = x.pr ∧ (lookS τ x).q = x.q ∧ (preB τ (lookS τ x) = true → (lookS τ x).p = x.last) := fun x => by
      unfold lookS
      cases e : preB τ x with
      | true => exact ⟨rfl, rfl, rfl, fun _ => rfl⟩
      | false => exact ⟨rfl, rfl, rfl, fun h => by simp [e] at h⟩
    obtain ⟨x1, x2, x3, x4⟩ := hx { τ.s 0 with pr := setV (τ.s 0).pr ((j : Int) + 1) ⟨k, d⟩ }
    refine ⟨h.f, h.ns, h.low, fun i hi => by rw [set_o _ hi]; exact h.oth i hi, ?_, ?_, ?_, ?_, ?_, ?_⟩
    · rw [set_s, x1]; exact h.last
    · rw [set_s, x2]
      intro n v hv
      simp only [setV] at hv
      split at hv
      · injection hv with hv
        rw [← hv]
        show (k : Int) < (k : Int) + 1
        omega
      · exact h.pr n v hv
    · rw [set_s, x2]
      intro n hn v hv
      simp only [setV] at hv
      rw [if_neg (by omega)] at hv
      exact h.new n (by omega) v hv
    · rw [set_s, x2]
      intro n h1 h2 h3
      simp only [setV]
      split
      · rfl
      · exact h.done n h1 (by omega) h3
    · rw [set_s, x3]; exact h.q
    · rw [set_s, preB_set]
      intro hb
      rw [x4 hb]
      exact h.last
theorem kej_end {q : List Vt} {τ : St} (h : KeJ k d q 4 τ) (hq : ∀ y ∈ q, y.v < (k : Int) + 1) : KeI (k + 1) τ (some ⟨k, d⟩) := by
  have c : ∀ n : Int, 1 ≤ n → n ≤ 4 → n ≠ leadO τ k → decide ((τ.s 0).pr n = some ⟨k, d⟩) = true := fun n h1 h2 h3 => decide_eq_true (h.done n h1 h2 h3)
  have hcnt : 2 ≤ cntV τ.ns (τ.s 0).pr ⟨k, d⟩ := by
    unfold cntV
    rw [h.ns]
    show 2 ≤ ([1, 2, 3, 4] : List Int).countP _
    by_cases l1 : (1 : Int) = leadO τ k
    · have e2 := c 2 (by omega) (by omega) (by omega)
      have e3 := c 3 (by omega) (by omega) (by omega)
      simp only [List.countP_cons, List.countP_nil, e2, e3, if_true]
      omega
    · have e1 := c 1 (by omega) (by omega) l1
      by_cases l2 : (2 : Int) = leadO τ k
      · have e3 := c 3 (by omega) (by omega) (by omega)
        simp only [List.countP_cons, List.countP_nil, e1, e3, if_true]
        omega
      · have e2 := c 2 (by omega) (by omega) l2
        simp only [List.countP_cons, List.countP_nil, e1, e2, if_true]
        omega
  have hpb : preB τ (τ.s 0) = true := by
    unfold preB
    rw [h.last]
    simp only [h.f]
    exact decide_eq_true (by omega)
  refine ⟨h.f, h.ns, h.low, h.oth, fun v hv => ?_, fun n v hv => ?_, h.pp hpb, fun y hy => ?_⟩
  · rw [h.last] at hv
    injection hv with hv
    rw [← hv]
    show (k : Int) < ((k + 1 : Nat) : Int)
    omega
  · have := h.pr n v hv
    omega
  · rw [h.q] at hy
    have := hq y hy
    omega
theorem kei_all (h : KeI k σ p) (hk : k < 20) : KeI (k + 1) (stJ (propS σ k 1 d) k d 4) (some ⟨k, d⟩) ∧ ((stJ (propS σ k 1 d) k d 4).s 0).q = qCut (qLess (σ.s 0).q d) ++ [⟨k, d⟩] := by
  obtain ⟨h1, h2, h3, h4, h5, h6⟩ := kei_prop (d := d) h hk
  have h0 : KeJ k d (qCut (qLess (σ.s 0).q d) ++ [⟨k, d⟩]) 0 (propS σ k 1 d) := ⟨h2.f, h2.ns, h2.low, h2.oth, h3, fun n v hv => by have := h5 n v hv; omega, fun n _ v hv => h5 n v hv, fun n a b => by omega, h4, fun e => by rw [h6] at e; cases e⟩
  have ha := kej_step (kej_step (kej_step (kej_step h0 (by omega) hk) (by omega) hk) (by omega) hk) (by omega) hk
  refine ⟨kej_end (by exact ha) fun y hy => ?_, ha.q⟩
  have := h2.q y (by rw [h4]; exact hy)
  omega
theorem kei_p (h : KeI k σ p) : (List.range 8).flatMap (pTs σ) = pT 1 p := by
  have e : ∀ i : Nat, i ≠ 0 → pTs σ i = [] := fun i hi => by unfold pTs; rw [h.oth i hi]; rfl
  have e0 : pTs σ 0 = pT 1 p := by unfold pTs; rw [h.p, h.low]; rfl
  show ([0, 1, 2, 3, 4, 5, 6, 7] : List Nat).flatMap (pTs σ) = _
  simp only [List.flatMap_cons, List.flatMap_nil, e0, e 1 (by omega), e 2 (by omega), e 3 (by omega), e 4 (by omega), e 5 (by omega), e 6 (by omega), e 7 (by omega), List.append_nil]
theorem kei_q (h : KeI k σ p) : (List.range 8).flatMap (qTs σ) = qT 1 (σ.s 0).q := by
  have e : ∀ i : Nat, i ≠ 0 → qTs σ i = [] := fun i hi => by unfold qTs; rw [h.oth i hi]; rfl
  have e0 : qTs σ 0 = qT 1 (σ.s 0).q := by unfold qTs; rw [h.low]; rfl
  show ([0, 1, 2, 3, 4, 5, 6, 7] : List Nat).flatMap (qTs σ) = _
  simp only [List.flatMap_cons, List.flatMap_nil, e0, e 1 (by omega), e 2 (by omega), e 3 (by omega), e 4 (by omega), e 5 (by omega), e 6 (by omega), e 7 (by omega), List.append_nil]
end
end Go.Proofs.Ytmdgcimjmmnbjaa

namespace Go.Proofs.Ytmdgcimjmmnbjaa
open Go.RowKit Go.Shelf Go.Sort Go.Maps CrewP
set_option linter.unusedVariables false
set_option linter.unusedSimpArgs false

theorem bits7 (B : UInt8) : bits BinOp.and IntKind.u8 (B.toNat : Int) 7 = ((B &&& 7).toNat : Int) := by
  have key : ∀ n : Nat, n < 256 → bits BinOp.and IntKind.u8 (n : Int) 7 = ((n &&& 7 : Nat) : Int) := by decide +kernel
  rw [UInt8.toNat_and]
  exact key B.toNat B.toNat_lt
theorem bits8 (B : UInt8) : bits BinOp.and IntKind.u8 (B.toNat : Int) 8 = 8 ∨ bits BinOp.and IntKind.u8 (B.toNat : Int) 8 = 0 := by
  have key : ∀ n : Nat, n < 256 → bits BinOp.and IntKind.u8 (n : Int) 8 = 8 ∨ bits BinOp.and IntKind.u8 (n : Int) 8 = 0 := by decide +kernel
  exact key B.toNat B.toNat_lt
theorem Out.cell {S : Nat → Prop} {w w' : World} (ho : Out S w w') {b o : Nat} (hb : b < w.heap.size) (hn : ¬ S b) : w'.cell? ⟨b, o, none⟩ = w.cell? ⟨b, o, none⟩ := World.cell?_of_block (a := ⟨b, o, none⟩) (ho.block b hb hn)
structure KeS (w0 w : World) (U : Nat → Prop) (g : Nat) (σ : St) : Prop where
  st : StAt w U g σ
  bel : Below w0.heap.size w0 w
  low : ∀ i, U i → w0.heap.size ≤ i
/-- A slice that shows these stands, in no block of the slots'. -/
def PRo (U : Nat → Prop) (l : List SdT) (w : World) (v : Value) : Prop := ∃ A n c, v = .slice A n c ∧ ShS w A l ∧ l.length = n ∧ ∀ b, blkOf A b → ¬ U b
section
variable {w0 w w' : World} {U : Nat → Prop} {g : Nat} {σ σ' : St} {l : List SdT} {v : Value} {k : Nat} {p : Option Vt} {d : List UInt8}
theorem KeS.lt (h : KeS w0 w U g σ) {i : Nat} (hi : U i) : i < w.heap.size := let ⟨_, _, _, _, _, _, _, _, h⟩ := h.st; h.lt i hi
theorem KeS.call (h : KeS w0 w U g σ) (hs : StAt w' U g σ') (ho : Out U w w') : KeS w0 w' U g σ' := ⟨hs, h.bel.trans (ho.above h.low h.bel.size), h.low⟩
theorem KeS.below (h : KeS w0 w U g σ) (hb : Below w.heap.size w w') : KeS w0 w' U g σ := ⟨h.st.below hb, h.bel.trans (hb.mono h.bel.size), h.low⟩
theorem PRo.out (h : PRo U l w v) (ho : Out U w w') : PRo U l w' v := by
  obtain ⟨A, n, c, h1, h2, h3, h4⟩ := h
  refine ⟨A, n, c, h1, fun hl => ?_, h3, h4⟩
  obtain ⟨b, o, e, hb, hc⟩ := h2 hl
  exact ⟨b, o, e, Nat.lt_of_lt_of_le hb ho.size, fun j u hu => (ho.cell hb (h4 b ⟨_, e, rfl⟩)).trans (hc j u hu)⟩
theorem PRo.below (h : PRo U l w v) (hb : Below w.heap.size w w') : PRo U l w' v := h.out (Out.ofBelow U hb)
theorem PRo.prow (h : PRo U l w v) : PRow l w v := let ⟨A, n, c, h1, h2, h3, _⟩ := h; ⟨A, n, c, h1, h2, h3⟩
theorem PRo.new (w : World) (l : List SdT) (n : Nat) (hn : l.length = n) (hU : ∀ i, U i → i < w.heap.size) : PRo U l (w.alloc (.cells (sdCs l).toArray 41)) (.slice (some ⟨w.heap.size, 0, none⟩) n n) := by
  obtain ⟨A, n', c, h1, h2, h3⟩ := PRow.new w l n hn
  injection h1 with h1 h1' h1''
  subst h1; subst h1'; subst h1''
  exact ⟨_, _, _, rfl, h2, h3, fun b ⟨a, ha, hb⟩ hu => by injection ha with ha; rw [← hb, ← ha] at hu; exact absurd (hU _ hu) (by simp)⟩
theorem ks_prop (h : KeS w0 w U g σ) (hI : KeI k σ p) (hk : k < 20) (hd : d.length = 32) : Calls Try.prog 20 #[.pointer (some ⟨g, 0, none⟩), .int .i64 (k : Int), .int .i64 1, .agg (cbs d).toArray] w fun e w' => e = .returned (.int .i64 0) ∧ KeS w0 w' U g (propS σ k 1 d) ∧ Out U w w' :=
  (propose_at h.st k 1 (wf_b (by omega) (by omega)) wf1 d hd 0 (kei_prop hI hk).1).mono fun e w' ⟨h1, h2, h3⟩ => ⟨h1, h.call h2 h3, h3⟩
theorem ks_prep (h : KeS w0 w U g σ) (j : Nat) (hd : d.length = 32) : Calls Try.prog 21 #[.pointer (some ⟨g, 0, none⟩), .int .i64 ((j : Int) + 1), .int .i64 (k : Int), .int .i64 1, .agg (cbs d).toArray] w fun e w' => ∃ E, e = .returned (.int .i64 E) ∧ KeS w0 w' U g (prepS σ ((j : Int) + 1) k 1 d) ∧ Out U w w' :=
  (prepare_at h.st ((j : Int) + 1) k 1 wf1 d hd _ rfl).mono fun e w' ⟨h1, h2, h3⟩ => ⟨_, h1, h.call h2 h3, h3⟩
theorem ks_p (h : KeS w0 w U g σ) (hI : KeI k σ p) : Calls Try.prog 14 #[.pointer (some ⟨g, 0, none⟩)] w fun e w' => ∃ v, e = .returned v ∧ PRow (pT 1 p) w' v ∧ Below w.heap.size w w' := by
  have hp := p_at h.st
  rw [kei_p hI] at hp
  exact hp.mono fun e w' h => h.prow
theorem qT_end (q : List Vt) (x : Vt) : qT 1 (q ++ [x]) = qT 1 q ++ [mkT 1 (x.d, x.v)] := by simp [qT, qL]
theorem ks_q (h : KeS w0 w U g σ) (hI : KeI k σ p) {q : List Vt} {x : Vt} (hq : (σ.s 0).q = q ++ [x]) : Calls Try.prog 15 #[.pointer (some ⟨g, 0, none⟩)] w fun e w' => ∃ b o n c, e = .returned (.slice (some ⟨b, o, none⟩) n c) ∧ (n = 1 ∨ n = 2 ∨ n = 3 ∨ n = 4) ∧ w'.rangeAt b (o + (n - 1) * 34) (sdT (mkT 1 (x.d, x.v))) ∧ Below w.heap.size w w' := by
  have hp := q_at h.st
  rw [kei_q hI, hq, qT_end] at hp
  have hlen := (h.st.ok.s 0 (by omega)).q.len
  rw [hq] at hlen
  have hl2 : (qT 1 q).length = q.length := qT_len 1 q
  refine hp.mono fun e w' ⟨A, c, h1, h2, h3, h4⟩ => ?_
  have hll : (qT 1 q ++ [mkT 1 (x.d, x.v)]).length = q.length + 1 := by rw [List.length_append, hl2]; rfl
  obtain ⟨b, o, rfl, hr⟩ := (ShS.row h2 rfl).at_ (i := q.length) (by omega)
  have he : (qT 1 q ++ [mkT 1 (x.d, x.v)])[q.length]'(by omega) = mkT 1 (x.d, x.v) := by
    rw [List.getElem_append_right (by omega)]
    simp [hl2]
  rw [he] at hr
  refine ⟨b, o, _, c, h1, ?_, ?_, h3⟩
  · rw [hll]
    rw [List.length_append] at hlen
    simp only [List.length_singleton] at hlen
    omega
  · rw [hll]
    exact hr
theorem row_none (w : World) : (Instr.buildSlice 33 0 #[]).run Try.prog w = .ok (.slice (some ⟨w.heap.size, 0, none⟩) 0 0) (w.alloc (.cells (sdCs []).toArray 41)) := by kernel_rfl
theorem built_at (k : Nat) (d : List UInt8) (h : d.length = 32) : Try.prog.built 41 [(0, .int .i64 1), (1, .agg (cbs d).toArray), (2, .int .i64 (k : Int))] = some (sdT (mkT 1 (d, (k : Int)))).toArray := by
  have e : sdT (mkT 1 (d, (k : Int))) = sdC ⟨1, d, k⟩ := by unfold sdT; rw [mkT_ok h]
  rw [e]
  exact built_stand 1 k d h
end
end Go.Proofs.Ytmdgcimjmmnbjaa

namespace Go.Proofs.Ytmdgcimjmmnbjaa
open Go.RowKit Go.Shelf Go.Sort Go.Maps CrewP
set_option linter.unusedVariables false
set_option linter.unusedSimpArgs false

def wn (lo : Int) : St := fresh0 1 (ndL 4) lo
section
variable {lo n up : Int} {d : List UInt8}
theorem win_new (h0 : 0 ≤ lo) (h1 : lo < 1099511627776) : newE 1 (ndL 4) 1 lo = 0 := by
  have h : hasR 1 (ndL 4) 1 = true := by decide +kernel
  unfold newE
  rw [h, if_neg (by simp), if_neg (by omega)]
theorem wn_sq (i : Nat) : (wn lo).s i = sq0 := rfl
theorem win_in (h1 : lo < n) (h2 : n ≤ lo + 8) : propE (wn lo) 2 n d = 0 := by
  unfold propE idx
  rw [if_neg (by decide), show (wn lo).low = lo from rfl, if_pos ⟨h1, h2⟩]
  rfl
theorem win_out (h : ¬ (lo < n ∧ n ≤ lo + 8)) : propE (wn lo) 2 n d = 150 := by
  unfold propE idx
  rw [if_neg (by decide), show (wn lo).low = lo from rfl, if_neg h]
theorem win_low : (propS (wn lo) 2 n d).low = lo := by
  unfold propS
  split
  · rfl
  · split <;> rfl
theorem win_raise (h0 : 0 ≤ lo) (h1 : lo < 1099511627776) (h2 : 0 ≤ up) (h3 : up < 12) : raiseE (propS (wn lo) 2 n d) (lo + up) = 0 := by
  unfold raiseE
  rw [win_low, if_neg (by omega)]
theorem win_low2 (h0 : 0 ≤ lo) (h1 : lo < 1099511627776) (h2 : 0 ≤ up) (h3 : up < 12) : (raiseS (propS (wn lo) 2 n d) (lo + up)).low = lo + up := by
  rw [raise_0 (win_raise h0 h1 h2 h3)]; rfl
theorem win_back (h0 : 0 ≤ lo) (h1 : lo < 1099511627776) (h2 : 0 ≤ up) (h3 : up < 12) : raiseE (raiseS (propS (wn lo) 2 n d) (lo + up)) (lo + up - 1) = 9 := by
  unfold raiseE
  rw [win_low2 h0 h1 h2 h3, if_pos (by omega)]
theorem look_last (σ : St) (x : Sq) : (lookS σ x).last = x.last := by unfold lookS; split <;> rfl
theorem win_at (h0 : 0 ≤ lo) (h1 : lo < 1099511627776) (h2 : 0 ≤ up) (h3 : up < 12) (h5 : n ≤ lo + 8) (h6 : lo + up < n) : atS (raiseS (propS (wn lo) 2 n d) (lo + up)) n = some ⟨n, d, 2⟩ := by
  have hi : idx (wn lo) n = some (n - lo - 1).toNat := by unfold idx; rw [show (wn lo).low = lo from rfl, if_pos (by omega)]
  have hp : propS (wn lo) 2 n d = (wn lo).set (n - lo - 1).toNat (lookS (wn lo) (propSq ((wn lo).s (n - lo - 1).toNat) ⟨2, d⟩)) := by
    unfold propS
    rw [win_in (by omega) h5, if_neg (by simp), hi]
  rw [raise_0 (win_raise h0 h1 h2 h3)]
  have hlow : (lowS (propS (wn lo) 2 n d) (lo + up)).low = lo + up := rfl
  unfold atS idx
  rw [hlow, if_pos (by omega)]
  have hs : (lowS (propS (wn lo) 2 n d) (lo + up)).s (n - (lo + up) - 1).toNat = lookS (wn lo) (propSq ((wn lo).s (n - lo - 1).toNat) ⟨2, d⟩) := by
    unfold lowS
    simp only [win_low]
    rw [if_pos (by omega), hp, show (lo + up - lo).toNat + (n - (lo + up) - 1).toNat = (n - lo - 1).toNat by omega, set_s]
  simp only [Option.bind_some, hs, look_last]
  show some (sdOf (lowS (propS (wn lo) 2 n d) (lo + up)) (n - (lo + up) - 1).toNat ⟨2, d⟩) = _
  unfold sdOf
  rw [hlow]
  congr 2
  omega
theorem win_at_low (h0 : 0 ≤ lo) (h1 : lo < 1099511627776) (h2 : 0 ≤ up) (h3 : up < 12) (h6 : ¬ lo + up < n) : atS (raiseS (propS (wn lo) 2 n d) (lo + up)) n = none := by
  unfold atS idx
  rw [win_low2 h0 h1 h2 h3, if_neg (by omega)]
  rfl
theorem win_at_out (h0 : 0 ≤ lo) (h1 : lo < 1099511627776) (h2 : 0 ≤ up) (h3 : up < 12) (h : ¬ (lo < n ∧ n ≤ lo + 8)) : atS (raiseS (propS (wn lo) 2 n d) (lo + up)) n = none := by
  rw [raise_0 (win_raise h0 h1 h2 h3)]
  have hp : propS (wn lo) 2 n d = wn lo := by unfold propS; rw [win_out h, if_pos (by simp)]
  rw [hp]
  unfold atS
  cases idx (lowS (wn lo) (lo + up)) n with
  | none => rfl
  | some i =>
    have hs : (lowS (wn lo) (lo + up)).s i = sq0 := by unfold lowS; simp only [wn_sq]; split <;> rfl
    simp only [Option.bind_some, hs]
    rfl
end
section
variable {w : World} {U : Nat → Prop} {g : Nat} {σ : St}
theorem raise_at (h : StAt w U g σ) (lo : Int) (E : Int) (hE : raiseE σ lo = E) : Calls Try.prog 24 #[.pointer (some ⟨g, 0, none⟩), .int .i64 lo] w fun e w' => e = .returned (.int .i64 E) ∧ StAt w' (Gr U w w') g (raiseS σ lo) ∧ Out U w w' := by
  obtain ⟨a1, a2, a3, a4, a5, a6, a7, a8, h⟩ := h
  exact raise_in h lo E hE
theorem low_at (h : StAt w U g σ) : Calls Try.prog 25 #[.pointer (some ⟨g, 0, none⟩)] w fun e w' => e = .returned (.int .i64 σ.low) ∧ w' = w := by
  obtain ⟨a1, a2, a3, a4, a5, a6, a7, a8, h⟩ := h
  exact low_in h
theorem bring_w (i n : Int) (w : World) (h : 0 < n) (hn : n ≤ 9223372036854775807) (hi : Wf i) : Calls Try.prog 17 #[.int .i64 i, .int .i64 n] w fun e w' => e = .returned (.int .i64 (i % n)) ∧ w' = w :=
  bringF_any i n w h hn (bounds_i64 hi).1 (bounds_i64 hi).2
end
end Go.Proofs.Ytmdgcimjmmnbjaa

namespace Go.Proofs.Ytmdgcimjmmnbjaa
open Go.RowKit Go.Shelf Go.Sort Go.Maps CrewP
set_option linter.unusedVariables false
set_option linter.unusedSimpArgs false

theorem bits3 (B : UInt8) : bits BinOp.and IntKind.u8 (B.toNat : Int) 3 = ((B &&& 3).toNat : Int) := by
  have key : ∀ n : Nat, n < 256 → bits BinOp.and IntKind.u8 (n : Int) 3 = ((n &&& 3 : Nat) : Int) := by decide +kernel
  rw [UInt8.toNat_and]
  exact key B.toNat B.toNat_lt
def syR (bw : Nat) (x y z F m n u s r0 s0 : Int) : Nat → Value → World → Prop
  | 0 => fun v w => v = .pointer (some ⟨bw, 0, none⟩)
  | 1 => fun v w => v = .int .i64 x
  | 2 => fun v w => v = .int .i64 F
  | 3 => fun v w => v = .int .i64 (3 * F)
  | 4 => fun v w => v = .int .i64 m
  | 5 => fun v w => v = .int .i64 r0
  | 6 => fun v w => v = .int .i64 n
  | 7 => fun v w => v = .pointer (some ⟨bw, 1, none⟩)
  | 8 => fun v w => v = .int .i64 y
  | 9 => fun v w => v = .int .i64 u
  | 10 => fun v w => v = .pointer (some ⟨bw, 2, none⟩)
  | 11 => fun v w => v = .int .i64 z
  | 12 => fun v w => v = .int .i64 s0
  | 13 => fun v w => v = .int .i64 s
  | 14 => fun v w => v = .int .i64 n
  | 15 => fun v w => v = .int .i64 u
  | 16 => fun v w => v = .int .i64 s
  | _ => fun _ _ => True
def syD (i : Nat) : Nat := ([10, 11, 12, 13, 14, 15, 16, 17, 18, 19, 20, 21, 22, 23, 7, 8, 9] : List Nat).getD i 0
def syG : Nat → Option Bool
  | _ => none
def syS (i : Nat) : Bool := ([] : List Nat).contains i
theorem sy_gb (bw : Nat) (x y z F m n u s r0 s0 : Int) : ∀ i b v w, syG i = some b → syR bw x y z F m n u s r0 s0 i v w → v = .bool b := by
  intro i b v w h hR
  unfold syG at h
  split at h
  all_goals first | (injection h with h; subst h; exact hR) | cases h
theorem sy_sk (bw : Nat) (x y z F m n u s r0 s0 : Int) : ∀ i w, syS i = true → syR bw x y z F m n u s r0 s0 i undef w := by
  intro i w h
  simp [syS] at h
theorem sy_on (bw : Nat) (x y z F m n u s r0 s0 : Int) : ∀ i v w w', syR bw x y z F m n u s r0 s0 i v w → Below w.heap.size w w' → syR bw x y z F m n u s r0 s0 i v w'
  | 0, v, w, w', h, _ => h
  | 1, v, w, w', h, _ => h
  | 2, v, w, w', h, _ => h
  | 3, v, w, w', h, _ => h
  | 4, v, w, w', h, _ => h
  | 5, v, w, w', h, _ => h
  | 6, v, w, w', h, _ => h
  | 7, v, w, w', h, _ => h
  | 8, v, w, w', h, _ => h
  | 9, v, w, w', h, _ => h
  | 10, v, w, w', h, _ => h
  | 11, v, w, w', h, _ => h
  | 12, v, w, w', h, _ => h
  | 13, v, w, w', h, _ => h
  | 14, v, w, w', h, _ => h
  | 15, v, w, w', h, _ => h
  | 16, v, w, w', h, _ => h
  | i + 17, v, w, w', h, hb => trivial
def syOps : List Op := [.fieldAddr 27 (.tmp 5) 0,
  .load 3 (.tmp 10),
  .move (.tmp 1),
  .binOp .mul 3 (.const (.int .i64 3)) (.tmp 12) 3,
  .binOp .add 3 (.tmp 13) (.const (.int .i64 1)) 3,
  .call { callee := .value (.func 17), args := #[.tmp 11, .tmp 14], argTypes := #[3, 3] },
  .binOp .add 3 (.const (.int .i64 1)) (.tmp 15) 3,
  .fieldAddr 27 (.tmp 5) 1,
  .load 3 (.tmp 17),
  .call { callee := .value (.func 17), args := #[.tmp 18, .const (.int .i64 3)], argTypes := #[3, 3] },
  .fieldAddr 27 (.tmp 5) 2,
  .load 3 (.tmp 20),
  .call { callee := .value (.func 17), args := #[.tmp 21, .const (.int .i64 8)], argTypes := #[3, 3] },
  .binOp .add 3 (.const (.int .i64 1)) (.tmp 22) 3,
  .assign (.tmp 16),
  .assign (.tmp 19),
  .assign (.tmp 23)]
def syNeeds : Nat → List Nat
  | 0 => []
  | 1 => [0]
  | 2 => []
  | 3 => [2]
  | 4 => [3]
  | 5 => [1, 4]
  | 6 => [5]
  | 7 => []
  | 8 => [7]
  | 9 => [8]
  | 10 => []
  | 11 => [10]
  | 12 => [11]
  | 13 => [12]
  | 14 => [6]
  | 15 => [9]
  | 16 => [13]
  | _ => []
set_option maxRecDepth 100000 in
set_option maxHeartbeats 3200000 in
theorem sy_step {ops : Array Oper} {Q : Exit → Act → World → Prop} {a0 : Act} {w0 : World} (bw : Nat) (x y z F m n u s r0 s0 : Int) (hops : ((List.range 17).map fun i => (ops[i]?).map Oper.op) = syOps.map some)
    (hnd : ((List.range 17).all fun i => (syNeeds i).all fun j => ((ops[i]?).map fun o => o.after.any fun e => Region.binds .any e && (e.on == j)).getD false) = true)
    (x5 : a0.tmps[5]? = some (.pointer (some ⟨bw, 0, none⟩))) (x1 : a0.tmps[1]? = some (.int .i64 F)) {cs : List Value} {ty : TypeId} (hW : Blk w0 bw ty cs) (h0 : cs[0]? = some (.int .i64 x)) (h1 : cs[1]? = some (.int .i64 y)) (h2 : cs[2]? = some (.int .i64 z))
    (hm1 : IntKind.i64.wrap (3 * F) = 3 * F) (hm2 : IntKind.i64.wrap (3 * F + 1) = m) (hn1 : IntKind.i64.wrap (1 + r0) = n) (hs1 : IntKind.i64.wrap (1 + s0) = s) (hb1 : ∀ w, Calls Try.prog 17 #[.int .i64 x, .int .i64 m] w fun e w' => e = .returned (.int .i64 r0) ∧ w' = w) (hb2 : ∀ w, Calls Try.prog 17 #[.int .i64 y, .int .i64 3] w fun e w' => e = .returned (.int .i64 u) ∧ w' = w) (hb3 : ∀ w, Calls Try.prog 17 #[.int .i64 z, .int .i64 8] w fun e w' => e = .returned (.int .i64 s0) ∧ w' = w) :
    ∀ i o, i < 17 → syS i = false → ops[i]? = some o → o.dst = some (syD i) → ∀ a w, Base syD 17 a0 a → Below w0.heap.size w0 w → Region.wanted o (yielded ops a.tmps) = true →
      (∀ j, (o.after.any fun e => Region.binds .any e && (e.on == j)) = true → Has syD (syR bw x y z F m n u s r0 s0) j a w) →
      ∀ K : Act → World → Prop, (∀ v w', syR bw x y z F m n u s r0 s0 i v w' → Below w.heap.size w w' → K (a.put o.dst v) w') → wpOp Try.prog ops Q i K a w := by
  intro i o hi hs ho hds a w hbase hbl hwt hdep0 K hK
  have hop : some o.op = syOps[i]? := by
    have h1 : ((List.range 17).map fun i => (ops[i]?).map Oper.op)[i]? = some (some o.op) := by
      rw [List.getElem?_map, List.getElem?_range hi]; simp only [Option.map_some, ho]
    rw [hops, List.getElem?_map] at h1
    cases h2 : syOps[i]? with
    | none => rw [h2] at h1; cases h1
    | some y => rw [h2] at h1; simp only [Option.map_some, Option.some.injEq] at h1; rw [h1]
  have hdep : ∀ j, j ∈ syNeeds i → Has syD (syR bw x y z F m n u s r0 s0) j a w := fun j hj => by
    have h1 := List.all_eq_true.1 (List.all_eq_true.1 hnd i (List.mem_range.2 hi)) j hj
    rw [ho] at h1
    exact hdep0 j h1
  clear hdep0 hops hnd
  match i, hi, hs, ho, hop, hds, hdep, hK with
  | 0, _, hs, ho, hop, hds, hdep, hK =>
    have hop : o.op = .fieldAddr 27 (.tmp 5) 0 := Option.some.inj hop
    have hu5 : a.tmps[5]? = some (.pointer (some ⟨bw, 0, none⟩)) := (hbase.2.2 5 (by decide)).trans x5
    have e5 : a.eval (.tmp 5) = _ := ev_tmp hu5
    refine st3 ho hwt (v := .pointer (some ⟨bw, 0, none⟩)) (w' := w) ?_ (hK _ w rfl (Below.refl _ _))
    unfold execOp
    simp only [hop, Option.map_some, Option.map_none, e5]
    first | rfl | (go_simp; done) | (go_simp; simp; done) | (go_simp; intro h; omega)
  | 1, _, hs, ho, hop, hds, hdep, hK =>
    have hop : o.op = .load 3 (.tmp 10) := Option.some.inj hop
    obtain ⟨u10, hu10, hv10⟩ := hdep 0 (by decide)
    have hv10' : u10 = .pointer (some ⟨bw, 0, none⟩) := hv10
    subst hv10'
    have e10 : a.eval (.tmp 10) = _ := ev_tmp hu10
    have kc : w.cell? ⟨bw, 0, none⟩ = some (.int .i64 x) := (hW.below hbl hW.lt).cell h0
    refine st3 ho hwt (v := .int .i64 x) (w' := w) ?_ (hK _ w rfl (Below.refl _ _))
    unfold execOp
    simp only [hop, Option.map_some, Option.map_none, e10]
    first | rfl | (go_simp; done) | (go_simp; simp; done) | (go_simp; intro h; omega)
  | 2, _, hs, ho, hop, hds, hdep, hK =>
    have hop : o.op = .move (.tmp 1) := Option.some.inj hop
    have hu1 : a.tmps[1]? = some (.int .i64 F) := (hbase.2.2 1 (by decide)).trans x1
    have e1 : a.eval (.tmp 1) = _ := ev_tmp hu1
    refine st3 ho hwt (v := _) (w' := w) ?_ (hK _ w rfl (Below.refl _ _))
    unfold execOp
    rw [hop, ← e1]
    rfl
  | 3, _, hs, ho, hop, hds, hdep, hK =>
    have hop : o.op = .binOp .mul 3 (.const (.int .i64 3)) (.tmp 12) 3 := Option.some.inj hop
    obtain ⟨u12, hu12, hv12⟩ := hdep 2 (by decide)
    have hv12' : u12 = .int .i64 F := hv12
    subst hv12'
    have e12 : a.eval (.tmp 12) = _ := ev_tmp hu12
    refine st3 ho hwt (v := .int .i64 (3 * F)) (w' := w) ?_ (hK _ w rfl (Below.refl _ _))
    have hq := hm1
    unfold execOp
    simp only [hop, Option.map_some, Option.map_none, e12]
    first | rfl | (go_simp; done) | (go_simp; simp; done) | (go_simp; intro h; omega)
  | 4, _, hs, ho, hop, hds, hdep, hK =>
    have hop : o.op = .binOp .add 3 (.tmp 13) (.const (.int .i64 1)) 3 := Option.some.inj hop
    obtain ⟨u13, hu13, hv13⟩ := hdep 3 (by decide)
    have hv13' : u13 = .int .i64 (3 * F) := hv13
    subst hv13'
    have e13 : a.eval (.tmp 13) = _ := ev_tmp hu13
    refine st3 ho hwt (v := .int .i64 m) (w' := w) ?_ (hK _ w rfl (Below.refl _ _))
    have hq := hm2
    unfold execOp
    simp only [hop, Option.map_some, Option.map_none, e13]
    first | rfl | (go_simp; done) | (go_simp; simp; done) | (go_simp; intro h; omega)
  | 5, _, hs, ho, hop, hds, hdep, hK =>
    have hop : o.op = .call { callee := .value (.func 17), args := #[.tmp 11, .tmp 14], argTypes := #[3, 3] } := Option.some.inj hop
    obtain ⟨u11, hu11, hv11⟩ := hdep 1 (by decide)
    have hv11' : u11 = .int .i64 x := hv11
    subst hv11'
    have e11 : a.eval (.tmp 11) = _ := ev_tmp hu11
    obtain ⟨u14, hu14, hv14⟩ := hdep 4 (by decide)
    have hv14' : u14 = .int .i64 m := hv14
    subst hv14'
    have e14 : a.eval (.tmp 14) = _ := ev_tmp hu14
    refine st3_call ho hwt (f := 17) (vals := #[.int .i64 x, .int .i64 m]) (Z := fun v w' => v = .int .i64 r0 ∧ Below w.heap.size w w') ?_ ?_ ?_
    · unfold execOp
      simp only [hop, e11, e14, resolve, invoke, Sem.run_bind, Sem.run_pure, Result.andThen_ok, List.map_toArray, List.map_cons, List.map_nil]
      first | rfl | exact enters_of Try.func17 (by kernel_rfl) rfl _ _
    · exact (hb1 w).mono fun e w' ⟨he, h2⟩ => ⟨_, he, rfl, h2 ▸ Below.refl _ _⟩
    · rintro v w' ⟨h1, h2⟩
      exact hK v w' h1 h2
  | 6, _, hs, ho, hop, hds, hdep, hK =>
    have hop : o.op = .binOp .add 3 (.const (.int .i64 1)) (.tmp 15) 3 := Option.some.inj hop
    obtain ⟨u15, hu15, hv15⟩ := hdep 5 (by decide)
    have hv15' : u15 = .int .i64 r0 := hv15
    subst hv15'
    have e15 : a.eval (.tmp 15) = _ := ev_tmp hu15
    refine st3 ho hwt (v := .int .i64 n) (w' := w) ?_ (hK _ w rfl (Below.refl _ _))
    have hq := hn1
    unfold execOp
    simp only [hop, Option.map_some, Option.map_none, e15]
    first | rfl | (go_simp; done) | (go_simp; simp; done) | (go_simp; intro h; omega)
  | 7, _, hs, ho, hop, hds, hdep, hK =>
    have hop : o.op = .fieldAddr 27 (.tmp 5) 1 := Option.some.inj hop
    have hu5 : a.tmps[5]? = some (.pointer (some ⟨bw, 0, none⟩)) := (hbase.2.2 5 (by decide)).trans x5
    have e5 : a.eval (.tmp 5) = _ := ev_tmp hu5
    refine st3 ho hwt (v := .pointer (some ⟨bw, 1, none⟩)) (w' := w) ?_ (hK _ w rfl (Below.refl _ _))
    unfold execOp
    simp only [hop, Option.map_some, Option.map_none, e5]
    first | rfl | (go_simp; done) | (go_simp; simp; done) | (go_simp; intro h; omega)
  | 8, _, hs, ho, hop, hds, hdep, hK =>
    have hop : o.op = .load 3 (.tmp 17) := Option.some.inj hop
    obtain ⟨u17, hu17, hv17⟩ := hdep 7 (by decide)
    have hv17' : u17 = .pointer (some ⟨bw, 1, none⟩) := hv17
    subst hv17'
    have e17 : a.eval (.tmp 17) = _ := ev_tmp hu17
    have kc : w.cell? ⟨bw, 1, none⟩ = some (.int .i64 y) := (hW.below hbl hW.lt).cell h1
    refine st3 ho hwt (v := .int .i64 y) (w' := w) ?_ (hK _ w rfl (Below.refl _ _))
    unfold execOp
    simp only [hop, Option.map_some, Option.map_none, e17]
    first | rfl | (go_simp; done) | (go_simp; simp; done) | (go_simp; intro h; omega)
  | 9, _, hs, ho, hop, hds, hdep, hK =>
    have hop : o.op = .call { callee := .value (.func 17), args := #[.tmp 18, .const (.int .i64 3)], argTypes := #[3, 3] } := Option.some.inj hop
    obtain ⟨u18, hu18, hv18⟩ := hdep 8 (by decide)
    have hv18' : u18 = .int .i64 y := hv18
    subst hv18'
    have e18 : a.eval (.tmp 18) = _ := ev_tmp hu18
    refine st3_call ho hwt (f := 17) (vals := #[.int .i64 y, .int .i64 3]) (Z := fun v w' => v = .int .i64 u ∧ Below w.heap.size w w') ?_ ?_ ?_
    · unfold execOp
      simp only [hop, e18, resolve, invoke, Sem.run_bind, Sem.run_pure, Result.andThen_ok, List.map_toArray, List.map_cons, List.map_nil]
      first | rfl | exact enters_of Try.func17 (by kernel_rfl) rfl _ _
    · exact (hb2 w).mono fun e w' ⟨he, h2⟩ => ⟨_, he, rfl, h2 ▸ Below.refl _ _⟩
    · rintro v w' ⟨h1, h2⟩
      exact hK v w' h1 h2
  | 10, _, hs, ho, hop, hds, hdep, hK =>
    have hop : o.op = .fieldAddr 27 (.tmp 5) 2 := Option.some.inj hop
    have hu5 : a.tmps[5]? = some (.pointer (some ⟨bw, 0, none⟩)) := (hbase.2.2 5 (by decide)).trans x5
    have e5 : a.eval (.tmp 5) = _ := ev_tmp hu5
    refine st3 ho hwt (v := .pointer (some ⟨bw, 2, none⟩)) (w' := w) ?_ (hK _ w rfl (Below.refl _ _))
    unfold execOp
    simp only [hop, Option.map_some, Option.map_none, e5]
    first | rfl | (go_simp; done) | (go_simp; simp; done) | (go_simp; intro h; omega)
  | 11, _, hs, ho, hop, hds, hdep, hK =>
    have hop : o.op = .load 3 (.tmp 20) := Option.some.inj hop
    obtain ⟨u20, hu20, hv20⟩ := hdep 10 (by decide)
    have hv20' : u20 = .pointer (some ⟨bw, 2, none⟩) := hv20
    subst hv20'
    have e20 : a.eval (.tmp 20) = _ := ev_tmp hu20
    have kc : w.cell? ⟨bw, 2, none⟩ = some (.int .i64 z) := (hW.below hbl hW.lt).cell h2
    refine st3 ho hwt (v := .int .i64 z) (w' := w) ?_ (hK _ w rfl (Below.refl _ _))
    unfold execOp
    simp only [hop, Option.map_some, Option.map_none, e20]
    first | rfl | (go_simp; done) | (go_simp; simp; done) | (go_simp; intro h; omega)
  | 12, _, hs, ho, hop, hds, hdep, hK =>
    have hop : o.op = .call { callee := .value (.func 17), args := #[.tmp 21, .const (.int .i64 8)], argTypes := #[3, 3] } := Option.some.inj hop
    obtain ⟨u21, hu21, hv21⟩ := hdep 11 (by decide)
    have hv21' : u21 = .int .i64 z := hv21
    subst hv21'
    have e21 : a.eval (.tmp 21) = _ := ev_tmp hu21
    refine st3_call ho hwt (f := 17) (vals := #[.int .i64 z, .int .i64 8]) (Z := fun v w' => v = .int .i64 s0 ∧ Below w.heap.size w w') ?_ ?_ ?_
    · unfold execOp
      simp only [hop, e21, resolve, invoke, Sem.run_bind, Sem.run_pure, Result.andThen_ok, List.map_toArray, List.map_cons, List.map_nil]
      first | rfl | exact enters_of Try.func17 (by kernel_rfl) rfl _ _
    · exact (hb3 w).mono fun e w' ⟨he, h2⟩ => ⟨_, he, rfl, h2 ▸ Below.refl _ _⟩
    · rintro v w' ⟨h1, h2⟩
      exact hK v w' h1 h2
  | 13, _, hs, ho, hop, hds, hdep, hK =>
    have hop : o.op = .binOp .add 3 (.const (.int .i64 1)) (.tmp 22) 3 := Option.some.inj hop
    obtain ⟨u22, hu22, hv22⟩ := hdep 12 (by decide)
    have hv22' : u22 = .int .i64 s0 := hv22
    subst hv22'
    have e22 : a.eval (.tmp 22) = _ := ev_tmp hu22
    refine st3 ho hwt (v := .int .i64 s) (w' := w) ?_ (hK _ w rfl (Below.refl _ _))
    have hq := hs1
    unfold execOp
    simp only [hop, Option.map_some, Option.map_none, e22]
    first | rfl | (go_simp; done) | (go_simp; simp; done) | (go_simp; intro h; omega)
  | 14, _, hs, ho, hop, hds, hdep, hK =>
    have hop : o.op = .assign (.tmp 16) := Option.some.inj hop
    obtain ⟨u16, hu16, hv16⟩ := hdep 6 (by decide)
    have hv16' : u16 = .int .i64 n := hv16
    subst hv16'
    have e16 : a.eval (.tmp 16) = _ := ev_tmp hu16
    refine st3 ho hwt (v := _) (w' := w) ?_ (hK _ w rfl (Below.refl _ _))
    unfold execOp
    rw [hop, ← e16]
    rfl
  | 15, _, hs, ho, hop, hds, hdep, hK =>
    have hop : o.op = .assign (.tmp 19) := Option.some.inj hop
    obtain ⟨u19, hu19, hv19⟩ := hdep 9 (by decide)
    have hv19' : u19 = .int .i64 u := hv19
    subst hv19'
    have e19 : a.eval (.tmp 19) = _ := ev_tmp hu19
    refine st3 ho hwt (v := _) (w' := w) ?_ (hK _ w rfl (Below.refl _ _))
    unfold execOp
    rw [hop, ← e19]
    rfl
  | 16, _, hs, ho, hop, hds, hdep, hK =>
    have hop : o.op = .assign (.tmp 23) := Option.some.inj hop
    obtain ⟨u23, hu23, hv23⟩ := hdep 13 (by decide)
    have hv23' : u23 = .int .i64 s := hv23
    subst hv23'
    have e23 : a.eval (.tmp 23) = _ := ev_tmp hu23
    refine st3 ho hwt (v := _) (w' := w) ?_ (hK _ w rfl (Below.refl _ _))
    unfold execOp
    rw [hop, ← e23]
    rfl
  | i + 17, hi, _, _, _, _, _, _ => exact absurd hi (by omega)

def sayE (σ : St) (c : Bool) (n u s : Int) (d : List UInt8) : Int := if c then commE σ n u s d else prepE σ n u s d
def sayS (σ : St) (c : Bool) (n u s : Int) (d : List UInt8) : St := if c then commS σ n u s d else prepS σ n u s d
set_option maxRecDepth 100000 in
set_option maxHeartbeats 3200000 in
theorem says_at {w : World} {U : Nat → Prop} {g : Nat} {σ : St} (h : StAt w U g σ) (F : Nat) (hF : F ≤ 2) (x y z : Int) (c : Bool) (B : UInt8) (hx : Wf x) (hy : Wf y) (hz : Wf z) :
    Calls Try.prog 9 #[.pointer (some ⟨g, 0, none⟩), .int .i64 (F : Int), .agg #[.int .i64 x, .int .i64 y, .int .i64 z, .bool c, .int .u8 (B.toNat : Int)]] w fun e w' =>
      e = .returned (.int .i64 (sayE σ c (1 + x % (3 * (F : Int) + 1)) (y % 3) (1 + z % 8) (dg (B &&& 3)))) ∧ StAt w' U g (sayS σ c (1 + x % (3 * (F : Int) + 1)) (y % 3) (1 + z % 8) (dg (B &&& 3))) ∧ Out U w w' := by
  have hb1 := Lib.hid (fun w => bring_w x (3 * (F : Int) + 1) w (by omega) (by omega) hx)
  have hb2 := Lib.hid (fun w => bring_w y 3 w (by omega) (by omega) hy)
  have hb3 := Lib.hid (fun w => bring_w z 8 w (by omega) (by omega) hz)
  clear hx hy hz
  obtain ⟨m, hm⟩ : ∃ m, 3 * (F : Int) + 1 = m := ⟨_, rfl⟩
  obtain ⟨b, hb⟩ : ∃ b, x % m = b := ⟨_, rfl⟩
  obtain ⟨u, hu⟩ : ∃ u, y % 3 = u := ⟨_, rfl⟩
  obtain ⟨s0, hs0⟩ : ∃ s, z % 8 = s := ⟨_, rfl⟩
  rw [hm] at hb1 ⊢
  rw [hb] at hb1 ⊢
  rw [hu] at hb2 ⊢
  rw [hs0] at hb3 ⊢
  have b0 : 0 ≤ b := by rw [← hb]; exact Int.emod_nonneg _ (by omega)
  have b1 : b < m := by rw [← hb]; exact Int.emod_lt_of_pos _ (by omega)
  have s1 : 0 ≤ s0 ∧ s0 < 8 := by omega
  obtain ⟨n, hn⟩ : ∃ n, 1 + b = n := ⟨_, rfl⟩
  obtain ⟨s, hs⟩ : ∃ s, 1 + s0 = s := ⟨_, rfl⟩
  rw [hn, hs]
  have v1 : Hid (IntKind.i64.wrap (3 * (F : Int)) = 3 * (F : Int)) := Lib.hid (IntWalk.i64_in _ (by omega))
  have v2 : Hid (IntKind.i64.wrap (3 * (F : Int) + 1) = m) := Lib.hid ((IntWalk.i64_in _ (by omega)).trans hm)
  have v3 : Hid (IntKind.i64.wrap (1 + b) = n) := Lib.hid ((IntWalk.i64_in _ (by omega)).trans hn)
  have v4 : Hid (IntKind.i64.wrap (1 + s0) = s) := Lib.hid ((IntWalk.i64_in _ (by omega)).trans hs)
  have hws : Hid (Wf s) := Lib.hid (wf_b (by omega) (by omega))
  clear hm hb hu hs0 b0 b1 s1 hn hs
  have h3 := bits3 B
  obtain ⟨C, hC⟩ : ∃ C : UInt8, B &&& 3 = C := ⟨_, rfl⟩
  rw [hC] at h3 ⊢
  clear hC
  obtain ⟨w1, hw1⟩ : ∃ W, w.alloc (.cells #[.int .i64 x, .int .i64 y, .int .i64 z, .bool c, .int .u8 (B.toNat : Int)] 27) = W := ⟨_, rfl⟩
  have hB1 : Blk w1 w.heap.size 27 [.int .i64 x, .int .i64 y, .int .i64 z, .bool c, .int .u8 (B.toNat : Int)] := by rw [← hw1]; exact Blk.new rfl rfl
  have hb : Below w.heap.size w w1 := by rw [← hw1]; exact (Below.refl _ _).alloc (Nat.le_refl _) _
  have H1 := Lib.hid (And.intro hB1 (And.intro hb (h.below hb)))
  have Hw := Lib.hid hw1
  clear hB1 hb h hw1
  go_enter Try.func9, Try.ntmps9
  go_wp2_with fail
  rw [Hw.out]
  refine region_rule4 (P := Try.prog) 17 44 syD syG syS (syR w.heap.size x y z (F : Int) m n u s b s0) _ _ (by kernel_rfl) rfl rfl (by kernel_rfl) (by decide +kernel) (sy_gb w.heap.size x y z (F : Int) m n u s b s0) (sy_sk w.heap.size x y z (F : Int) m n u s b s0) (sy_on w.heap.size x y z (F : Int) m n u s b s0) (sy_step w.heap.size x y z (F : Int) m n u s b s0 (by rfl) (by kernel_rfl) rfl rfl H1.out.1 rfl rfl rfl v1.out v2.out v3.out v4.out hb1.out hb2.out hb3.out) ?fin
  case fin =>
    intro a w6 hbase hbl hall
    obtain ⟨v7, hv7, hR7⟩ := hall 14 (by decide)
    have hR7' : v7 = .int .i64 n := hR7
    subst hR7'
    obtain ⟨v8, hv8, hR8⟩ := hall 15 (by decide)
    have hR8' : v8 = .int .i64 u := hR8
    subst hR8'
    obtain ⟨v9, hv9, hR9⟩ := hall 16 (by decide)
    have hR9' : v9 = .int .i64 s := hR9
    subst hR9'
    obtain ⟨gf, hgfe, hgf⟩ := base_lit hbase [10, 11, 12, 13, 14, 15, 16, 17, 18, 19, 20, 21, 22, 23, 7, 8, 9] (by rfl)
    have q7 : gf 7 = .int .i64 n := hgfe 7 _ hv7
    have q8 : gf 8 = .int .i64 u := hgfe 8 _ hv8
    have q9 : gf 9 = .int .i64 s := hgfe 9 _ hv9
    simp only [List.foldl_cons, List.foldl_nil, List.setIfInBounds_toArray, List.set_cons_zero, List.set_cons_succ, q7, q8, q9] at hgf
    rw [hgf]
    have c3 := (H1.out.1.below hbl H1.out.1.lt).cell (i := 3) rfl
    have c4 := (H1.out.1.below hbl H1.out.1.lt).cell (i := 4) rfl
    have H6 := Lib.hid (And.intro (H1.out.2.2.below hbl) (H1.out.2.1.trans (hbl.mono H1.out.2.1.size)))
    clear hv7 hv8 hv9 hR7 hR8 hR9 hgfe q7 q8 q9 hgf hall hbase hbl
    cases c with
    | true =>
      go_wp2_with fail
      refine (digest_any C _).mono ?_
      rintro e w7 ⟨rfl, hb7⟩
      have HP := Lib.hid (commit_at (H6.out.1.below hb7) n u s hws.out (dg C) (dg_len C) _ rfl)
      have H7 := Lib.hid (H6.out.2.trans (hb7.mono H6.out.2.size))
      clear hb7 c3 c4
      generalize cbs (dg C) = D at *
      go_wp2_with fail
      refine HP.out.mono ?_
      rintro e w8 ⟨rfl, hst8, ho8⟩
      have H8 := Lib.hid (And.intro hst8 ho8)
      clear hst8 ho8
      go_wp2
      go_ret
      exact ⟨rfl, H8.out.1, (Out.ofBelow U H7.out).trans H8.out.2 fun i _ h => h⟩
    | false =>
      go_wp2_with fail
      refine (digest_any C _).mono ?_
      rintro e w7 ⟨rfl, hb7⟩
      have HP := Lib.hid (prepare_at (H6.out.1.below hb7) n u s hws.out (dg C) (dg_len C) _ rfl)
      have H7 := Lib.hid (H6.out.2.trans (hb7.mono H6.out.2.size))
      clear hb7 c3 c4
      generalize cbs (dg C) = D at *
      go_wp2_with fail
      refine HP.out.mono ?_
      rintro e w8 ⟨rfl, hst8, ho8⟩
      have H8 := Lib.hid (And.intro hst8 ho8)
      clear hst8 ho8
      go_wp2
      go_ret
      exact ⟨rfl, H8.out.1, (Out.ofBelow U H7.out).trans H8.out.2 fun i _ h => h⟩
end Go.Proofs.Ytmdgcimjmmnbjaa

namespace Go.Proofs.Ytmdgcimjmmnbjaa
open Go.RowKit Go.Shelf Go.Sort Go.Maps CrewP
set_option linter.unusedVariables false
set_option linter.unusedSimpArgs false

/-- The digests of bytes proposed at the numbers 1 to i, in a view. -/
def prS (σ : St) (view : Int) (l : List UInt8) : Nat → St
  | 0 => σ
  | i + 1 => propS (prS σ view l i) view (1 + (i : Int)) (dg ((l.getD i 0) &&& 3))
/-- The slice shows these bytes, in no block of U. -/
def ByO (U : Nat → Prop) (w : World) (A : Option Addr) (l : List UInt8) : Prop := 0 < l.length → ∃ b off, A = some ⟨b, off, none⟩ ∧ b < w.heap.size ∧ ¬ U b ∧ ∀ j (hj : j < l.length), w.cell? ⟨b, off + j, none⟩ = some (.int .u8 (l[j].toNat : Int))
theorem ByO.out {U : Nat → Prop} {w w' : World} {A : Option Addr} {l : List UInt8} (h : ByO U w A l) (ho : Out U w w') : ByO U w' A l := fun hl => by
  obtain ⟨b, off, e, h1, h2, h3⟩ := h hl
  exact ⟨b, off, e, Nat.lt_of_lt_of_le h1 ho.size, h2, fun j hj => (ho.cell h1 h2).trans (h3 j hj)⟩
set_option maxRecDepth 100000 in
set_option maxHeartbeats 3200000 in
theorem proposes_at {w : World} {U : Nat → Prop} {g : Nat} {σ : St} (h : StAt w U g σ) (view : Int) (hv : Wf view) {A : Option Addr} {n c : Nat} {l : List UInt8} (hln : l.length = n) (hn : n ≤ 9223372036854775807) (hl : ByO U w A l) :
    Calls Try.prog 10 #[.pointer (some ⟨g, 0, none⟩), .int .i64 view, .slice A n c] w fun e w' => e = .returned (.tuple #[]) ∧ StAt w' U g (prS σ view l 8) ∧ Out U w w' := by
  have H := Lib.hid (And.intro h hl)
  have Hv := Lib.hid hv
  have Hl := Lib.hid hln
  clear h hl hv hln
  go_enter Try.func10, Try.ntmps10
  go_wp2_with fail
  go_loopw [6] (fun v6 wr => ∃ i : Nat, i ≤ 8 ∧ v6 = .int .i64 (i : Int) ∧ StAt wr U g (prS σ view l i) ∧ Out U w wr) (fun v _ => 8 - (intOf v).toNat)
  case atStart => exact ⟨0, by omega, rfl, H.out.1, Out.refl _ _⟩
  case round =>
    obtain ⟨i, hi, rfl, hst, hout⟩ := hrel
    have hi0 : (0 : Int) ≤ i := by omega
    have H1 := Lib.hid (And.intro hst (And.intro hout (H.out.2.out hout)))
    clear hst hout
    by_cases h8 : i < 8
    · have hi8 : (i : Int) < 8 := by omega
      have hw1 : IntKind.i64.wrap (1 + (i : Int)) = 1 + (i : Int) := IntWalk.i64_in _ (by omega)
      have hseq : Hid (Wf (1 + (i : Int))) := Lib.hid (wf_b (by omega) (by omega))
      by_cases hin : i < n
      · have hin' : (i : Int) < n := by omega
        have hil : i < l.length := by rw [Hl.out]; exact hin
        obtain ⟨b, off, rfl, hb1, hb2, hcs⟩ := H1.out.2.2 (by omega)
        have hc := hcs i hil
        have hgd : l.getD i 0 = l[i] := by simp [hil]
        obtain ⟨B, hB⟩ : ∃ B, l[i] = B := ⟨_, rfl⟩
        rw [hB] at hc hgd
        have h3 := bits3 B
        obtain ⟨C, hC⟩ : ∃ C : UInt8, B &&& 3 = C := ⟨_, rfl⟩
        rw [hC] at h3
        have hnx : Hid (prS σ view l (i + 1) = propS (prS σ view l i) view (1 + (i : Int)) (dg C)) := Lib.hid (by show propS _ _ _ _ = _; rw [hgd, hC])
        clear hcs hgd hB hC hil hb1 hb2
        go_wp2_with fail
        refine (digest_any C _).mono ?_
        rintro e w7 ⟨rfl, hb7⟩
        have HP := Lib.hid (propose_at (H1.out.1.below hb7) view (1 + (i : Int)) Hv.out hseq.out (dg C) (dg_len C) _ rfl)
        have H7 := Lib.hid (H1.out.2.1.then_below hb7)
        clear hb7 hc h3
        generalize cbs (dg C) = D at *
        go_wp2_with fail
        refine HP.out.mono ?_
        rintro e w8 ⟨rfl, hst8, ho8⟩
        have H8 := Lib.hid (And.intro hst8 (H7.out.trans ho8 fun i _ h => h))
        clear hst8 ho8
        go_wp2
        go_roundw
        case rel => exact ⟨i + 1, by omega, by go_num, by rw [hnx.out]; exact H8.out.1, H8.out.2⟩
        case measure => simp [intOf]; omega
      · have hin' : ¬ (i : Int) < n := by omega
        have hil : l.length ≤ i := by rw [Hl.out]; omega
        have hgd : l.getD i 0 = 0 := by simp [List.getElem?_eq_none hil]
        have h3 := bits3 0
        have hnx : Hid (prS σ view l (i + 1) = propS (prS σ view l i) view (1 + (i : Int)) (dg 0)) := Lib.hid (by show propS _ _ _ _ = _; rw [hgd]; rfl)
        have hdg : Hid (∀ w, Calls Try.prog 19 #[.int .u8 0] w fun e w' => e = .returned (.agg (cbs (dg 0)).toArray) ∧ Below w.heap.size w w') := Lib.hid fun w => digest_any 0 w
        clear hgd hil
        go_wp2_with fail
        refine (hdg.out _).mono ?_
        rintro e w7 ⟨rfl, hb7⟩
        have HP := Lib.hid (propose_at (H1.out.1.below hb7) view (1 + (i : Int)) Hv.out hseq.out (dg 0) (dg_len 0) _ rfl)
        have H7 := Lib.hid (H1.out.2.1.then_below hb7)
        clear hb7 h3
        generalize cbs (dg 0) = D at *
        go_wp2_with fail
        refine HP.out.mono ?_
        rintro e w8 ⟨rfl, hst8, ho8⟩
        have H8 := Lib.hid (And.intro hst8 (H7.out.trans ho8 fun i _ h => h))
        clear hst8 ho8
        go_wp2
        go_roundw
        case rel => exact ⟨i + 1, by omega, by go_num, by rw [hnx.out]; exact H8.out.1, H8.out.2⟩
        case measure => simp [intOf]; omega
    · have hi8 : ¬ (i : Int) < 8 := by omega
      obtain rfl : i = 8 := by omega
      go_wp2
      go_end0
      exact ⟨rfl, H1.out.1, H1.out.2.1⟩
end Go.Proofs.Ytmdgcimjmmnbjaa
