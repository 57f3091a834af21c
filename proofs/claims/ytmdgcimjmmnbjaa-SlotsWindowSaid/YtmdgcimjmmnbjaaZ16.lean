/-
  Laid together for a hand-in: Ra14, Rb14, Wn14.
-/
import Derived.Test.YtmdgcimjmmnbjaaZ09
import Derived.Test.YtmdgcimjmmnbjaaZ11
import Derived.Test.YtmdgcimjmmnbjaaZ15

namespace Go.Proofs.Ytmdgcimjmmnbjaa
open Go.RowKit Go.Shelf Go.Sort Go.Maps CrewP
set_option linter.unusedVariables false
set_option linter.unusedSimpArgs false

section
variable {P : Program} {K : TypeId} {α β : Type} [DecidableEq α] {T : KeyT P K α} {vv : β → Value} {w w' : World} {m r : Nat} {L todo : List (α × β)} {a : α}
theorem RangeT.drop {t e : TypeId} (h : RangeT T vv w m r L todo) (ht : P.underlying t = some (.map K e)) (ha : T.ok a) (ty : TypeId) (hno : ∀ b, (a, b) ∉ todo) :
    ∃ w', (Builtin.delete_ #[t, K] ty #[.map (some m), T.kv a]).run P w = .ok (.tuple #[]) w' ∧ w.mapTurned w' m ∧ RangeT T vv w' m r (delL L a) todo ∧ w'.rangeLeft m r ≤ w.rangeLeft m r := by
  obtain ⟨hd, es, n, left, cnt, h1, hp, rfl⟩ := h
  obtain ⟨w', cnt', hrun, h2, hle, hturn⟩ := h1.drop T.keyed ht (T.key ha) ty
  have hk := T.keyed.key (T.key ha)
  refine ⟨w', hrun, hturn, ⟨⟨hd.nd.sublist (List.filter_sublist.map _), fun p hp => hd.ok p (List.mem_filter.1 hp).1⟩, _, n, _, cnt', h2, ?_, ?_⟩, by rw [h2.left_eq, h1.left_eq]; exact hle⟩
  · refine (hp.filter _).trans ?_
    unfold lits delL
    rw [List.filter_map]
    refine (List.Perm.of_eq ?_)
    congr 1
    refine List.filter_congr fun p hp => ?_
    simp only [Function.comp_apply]
    by_cases e : p.1 = a
    · simp [e, WideAt.sameKey_self hk]
    · simp only [e, not_false_eq_true, decide_true, ne_eq, Bool.not_eq_true']
      exact sameKey_ne fun e' => e (T.kinj (hd.ok p hp) ha e')
  · unfold delL
    rw [List.filter_filter]
    refine List.filter_congr fun p hp => ?_
    by_cases e : p.1 = a
    · have hl : left (T.kl p.1) = false := by
        cases h3 : left (T.kl p.1)
        · rfl
        · exact absurd (List.mem_filter.2 ⟨hp, h3⟩) (fun hm => hno p.2 (by rw [← e]; exact hm))
      simp [e, hl]
      rw [e] at hl
      exact hl
    · have hs : (T.kl p.1).sameKey (T.kl a) = false := sameKey_ne fun e' => e (T.kinj (hd.ok p hp) ha e')
      simp [e, hs]
end
theorem del_g {P : Program} {ops : Array Oper} {rest : List Oper} {o : Oper} {a : Act} {w : World} {Q : Exit → Act → World → Prop} (hgd : o.guard = none) (hd : o.dst = none) (s x : Operand) (t1 t2 : TypeId) (ho : o.op = .call { callee := .builtin .delete, args := #[s, x], argTypes := #[t1, t2] })
    (v u : Value) (w' : World) (hs : a.eval s = v) (hx : a.eval x = u) (hrun : (Builtin.delete_ #[t1, t2] o.type #[v, u]).run P w = .ok (.tuple #[]) w') (h : wpList P ops Q rest a w') : wpList P ops Q (o :: rest) a w := by
  refine wpList_plain hgd fun K hK => ?_
  unfold Oper.wp execOp
  simp only [ho, resolve, invoke, builtin, Sem.run_bind, Sem.run_pure, Result.andThen_ok, List.map_toArray, List.map_cons, List.map_nil, hs, hx, hrun]
  have h' : wpList P ops Q rest (a.put o.dst (.tuple #[])) w' := by rw [hd]; exact h
  exact hK _ _ h'

/-- The low mark moved; what was known moved with it. -/
def lowS (σ : St) (lo : Int) : St := { σ with low := lo, s := fun i => if (lo - σ.low).toNat + i < 8 then σ.s ((lo - σ.low).toNat + i) else sq0 }
def thL (k : Nat) : Nat → Bool := fun i => decide (k + i < 8)
section
variable {w w' : World} {U : Nat → Prop} {g : Nat} {σ : St} {ab cap m : Nat} {sb qb rb cb : Nat → Nat} {role : Nat → Nat}
theorem raise_0 {lo : Int} (hE : raiseE σ lo = 0) : raiseS σ lo = lowS σ lo := by unfold raiseS lowS; rw [if_neg (by rw [hE]; omega)]
theorem raise_9 {lo : Int} (hE : raiseE σ lo ≠ 0) : raiseS σ lo = σ := by unfold raiseS; rw [if_pos hE]
theorem fill_low (σ : St) (lo : Int) : fillS (lowS σ lo) (thL (lo - σ.low).toNat) = lowS σ lo := by
  unfold fillS lowS thL
  congr 1
  funext i
  by_cases h : (lo - σ.low).toNat + i < 8 <;> simp [h]
/-- The slots behind the loop, ahead of open. -/
theorem StIn.lift (h : StIn w U g σ all8 ab cap m sb qb rb cb role) {lo : Int} (hE : raiseE σ lo = 0) {w1 : World} (ho : Out (fun b => b = g ∨ b = m) w w1) (hb : Blk w1 g 72 [.int .i64 σ.f, .slice (some ⟨ab, 0, none⟩) σ.ns.length cap, .int .i64 lo, .map (some m)])
    {L : List (Int × Nat)} (hm : MapT intK ptr w1 m L) (hL : ∀ p, p ∈ L ↔ p ∈ nums σ.low sb all8 ∧ lo < p.1) :
    StIn w1 U g (lowS σ lo) (thL (lo - σ.low).toNat) ab cap m (fun i => sb ((lo - σ.low).toNat + i)) (fun i => qb ((lo - σ.low).toNat + i)) (fun i => rb ((lo - σ.low).toNat + i)) (fun i => cb ((lo - σ.low).toNat + i))
      (fun b => if role b < 4 then role b else if role b < 4 * (lo - σ.low).toNat + 4 then 0 else role b - 4 * (lo - σ.low).toNat) := by
  have hok := raiseS_ok h.ok (low := lo)
  rw [raise_0 hE] at hok
  have hle : σ.low ≤ lo := by
    unfold raiseE at hE
    split at hE
    · omega
    · omega
  obtain ⟨k, hk⟩ : ∃ k, (lo - σ.low).toNat = k := ⟨_, rfl⟩
  have hkl : lo = σ.low + k := by omega
  have hgm : ∀ b, (b = g ∨ b = m) → role b = 1 ∨ role b = 3 := fun b hb => hb.elim (fun e => .inl (by rw [e]; exact h.rg)) fun e => .inr (by rw [e]; exact h.rm)
  obtain ⟨cs, n1, n2⟩ := h.nd
  have hs1 : ∀ i, k + i < 8 → (lowS σ lo).s i = σ.s (k + i) := fun i hi => by unfold lowS; simp only [hk]; rw [if_pos hi]
  rw [hk]
  refine ⟨hok, hb, ⟨cs, ho.blk n1 fun e => by have := hgm _ e; rw [h.ra] at this; omega, n2⟩, hm.perm ?_, fun i hi ht => ?_, ?_, ?_, ?_, fun i hi ht => ?_, fun b hb => ?_, fun b hb => Nat.lt_of_lt_of_le (h.lt b hb) ho.size⟩
  · obtain ⟨hd, _⟩ := hm
    refine perm_of_mem hd.nd (nums_nd _ _ _) fun p => ?_
    obtain ⟨x, b⟩ := p
    rw [hL, nums_iff, nums_iff]
    constructor
    · rintro ⟨⟨i, hi, _, e1, e2⟩, hlt⟩
      simp only at hlt
      refine ⟨i - k, by omega, by simp [thL]; omega, ?_, ?_⟩
      · show x = lo + 1 + ((i - k : Nat) : Int)
        omega
      · rw [e2]; congr 1; omega
    · rintro ⟨i, hi, ht, e1, e2⟩
      have ht' : k + i < 8 := by simpa [thL] using ht
      have e1' : x = lo + 1 + (i : Int) := e1
      exact ⟨⟨k + i, ht', rfl, by omega, e2⟩, by show lo < x; omega⟩
  · have ht' : k + i < 8 := by simpa [thL] using ht
    rw [hs1 i ht']
    obtain ⟨r1, r2, r3, r4⟩ := h.rs (k + i) ht' rfl
    exact (h.s (k + i) ht' rfl).out ho (fun e => by have := hgm _ e; omega) (fun e => by have := hgm _ e; omega) (fun e => by have := hgm _ e; omega) (fun e => by have := hgm _ e; omega)
  · simp only [h.rg]; rw [if_pos (by omega)]
  · simp only [h.ra]; rw [if_pos (by omega)]
  · simp only [h.rm]; rw [if_pos (by omega)]
  · have ht' : k + i < 8 := by simpa [thL] using ht
    obtain ⟨r1, r2, r3, r4⟩ := h.rs (k + i) ht' rfl
    simp only [r1, r2, r3, r4]
    refine ⟨?_, ?_, ?_, ?_⟩
    · rw [if_neg (by omega), if_neg (by omega)]; omega
    · rw [if_neg (by omega), if_neg (by omega)]; omega
    · rw [if_neg (by omega), if_neg (by omega)]; omega
    · rw [if_neg (by omega), if_neg (by omega)]; omega
  · refine h.u b fun e => hb ?_
    simp [e]
end
end Go.Proofs.Ytmdgcimjmmnbjaa

namespace Go.Proofs.Ytmdgcimjmmnbjaa
open Go.RowKit Go.Shelf Go.Sort Go.Maps CrewP
set_option linter.unusedVariables false
set_option linter.unusedSimpArgs false

theorem RangeT.nd {P : Program} {K : TypeId} {α β : Type} [DecidableEq α] {T : KeyT P K α} {vv : β → Value} {w : World} {m r : Nat} {L todo : List (α × β)} (h : RangeT T vv w m r L todo) : (todo.map Prod.fst).Nodup := by
  obtain ⟨hd, _, _, _, _, _, _, rfl⟩ := h
  exact hd.nd.sublist (List.filter_sublist.map _)
/-- What is left in the map while the loop goes on. -/
def Lft (L0 L todo : List (Int × Nat)) (lo : Int) : Prop := ∀ p, p ∈ L ↔ p ∈ L0 ∧ (lo < p.1 ∨ p ∈ todo)
theorem lft_0 (L0 : List (Int × Nat)) (lo : Int) : Lft L0 L0 L0 lo := fun p => ⟨fun h => ⟨h, .inr h⟩, fun h => h.1⟩
theorem lft_keep {L0 L todo more : List (Int × Nat)} {lo n : Int} {s : Nat} (h : Lft L0 L todo lo) (hp : todo.Perm ((n, s) :: more)) (hn : ¬ n ≤ lo) : Lft L0 L more lo := fun p => by
  rw [h p]
  constructor
  · rintro ⟨h1, h2 | h2⟩
    · exact ⟨h1, .inl h2⟩
    · rcases List.mem_cons.1 (hp.mem_iff.1 h2) with e | h3
      · exact ⟨h1, .inl (by rw [e]; show lo < n; omega)⟩
      · exact ⟨h1, .inr h3⟩
  · rintro ⟨h1, h2 | h2⟩
    · exact ⟨h1, .inl h2⟩
    · exact ⟨h1, .inr (hp.mem_iff.2 (List.mem_cons_of_mem _ h2))⟩
theorem lft_drop {L0 L todo more : List (Int × Nat)} {lo n : Int} {s : Nat} (h : Lft L0 L todo lo) (hp : todo.Perm ((n, s) :: more)) (hsub : ∀ p ∈ todo, p ∈ L) (hno : ∀ b, (n, b) ∉ more) (hn : n ≤ lo) : Lft L0 (delL L n) more lo := fun p => by
  unfold delL
  rw [List.mem_filter]
  constructor
  · rintro ⟨h1, h2⟩
    have hne : p.1 ≠ n := of_decide_eq_true h2
    obtain ⟨h3, h4 | h4⟩ := (h p).1 h1
    · exact ⟨h3, .inl h4⟩
    · rcases List.mem_cons.1 (hp.mem_iff.1 h4) with e | h5
      · exact absurd (by rw [e]) hne
      · exact ⟨h3, .inr h5⟩
  · rintro ⟨h1, h2 | h2⟩
    · exact ⟨(h p).2 ⟨h1, .inl h2⟩, decide_eq_true (by omega)⟩
    · refine ⟨hsub p (hp.mem_iff.2 (List.mem_cons_of_mem _ h2)), decide_eq_true fun e => hno p.2 (by rw [← e]; exact h2)⟩
section
variable {w w' : World} {U : Nat → Prop} {g : Nat} {σ : St} {ab cap m : Nat} {sb qb rb cb : Nat → Nat} {role : Nat → Nat}
set_option maxRecDepth 100000 in
set_option maxHeartbeats 3200000 in
theorem raise_in (h : StIn w U g σ all8 ab cap m sb qb rb cb role) (lo : Int) (E : Int) (hE : raiseE σ lo = E) :
    Calls Try.prog 24 #[.pointer (some ⟨g, 0, none⟩), .int .i64 lo] w fun e w' => e = .returned (.int .i64 E) ∧ StAt w' (Gr U w w') g (raiseS σ lo) ∧ Out U w w' := by
  have c2 := h.blk.cell (i := 2) rfl
  have Hn := Lib.hid (none_in h)
  have HE := Lib.hid hE
  have H0 : Hid (StAt w (Gr U w w) g σ) := Lib.hid ⟨_, _, _, _, _, _, _, _, h.wide (fun i hi => .inl hi) fun i hi => hi.elim (h.lt i) fun h => h.2⟩
  have H := Lib.hid h
  clear h hE
  by_cases h1 : lo < σ.low
  · have hE9 : E = 9 := by rw [← HE.out]; unfold raiseE; rw [if_pos (.inl h1)]
    subst hE9
    rw [raise_9 (by rw [HE.out]; omega)]
    generalize σ.low = lw at *
    go_enter Try.func24, Try.ntmps24
    go_wp2_with (go_at_call 38; refine Hn.out.mono ?_; rintro e w' ⟨rfl, hww⟩; obtain rfl := hww.symm)
    go_ret
    exact ⟨rfl, H0.out, Out.refl _ _⟩
  by_cases h2 : lo > 9007199254740983
  · have h3 : (9007199254740983 : Int) < lo := h2
    have hE9 : E = 9 := by rw [← HE.out]; unfold raiseE; rw [if_pos (.inr h3)]
    subst hE9
    rw [raise_9 (by rw [HE.out]; omega)]
    generalize σ.low = lw at *
    go_enter Try.func24, Try.ntmps24
    go_wp2_with (go_at_call 38; refine Hn.out.mono ?_; rintro e w' ⟨rfl, hww⟩; obtain rfl := hww.symm)
    go_ret
    exact ⟨rfl, H0.out, Out.refl _ _⟩
  have h3 : ¬ (9007199254740983 : Int) < lo := h2
  have hE0 : E = 0 := by rw [← HE.out]; unfold raiseE; rw [if_neg (by omega)]
  subst hE0
  rw [raise_0 HE.out]
  clear H0
  have oS : Out (fun b => b = g ∨ b = m) w (w.setCell ⟨g, 2, none⟩ (.int .i64 lo)) := (Out.refl (fun b => b = g ∨ b = m) w).setCell (p := ⟨g, 2, none⟩) (fun _ => .inl rfl) _
  have hgm : ¬ m = g := fun e => by have := H.out.rg; have := H.out.rm; rw [e] at *; omega
  have hB := H.out.blk.set_ 2 (.int .i64 lo)
  have hM : MapT intK ptr (w.setCell ⟨g, 2, none⟩ (.int .i64 lo)) m (nums σ.low sb all8) := H.out.num.out ((Out.refl (fun b => b = g) w).setCell (p := ⟨g, 2, none⟩) (fun _ => rfl) _) hgm
  have f2 := H.out.blk.free 2
  have c3 := hB.cell (i := 3) rfl
  have HS := Lib.hid (And.intro oS (And.intro hB hM))
  have hz : (w.setCell ⟨g, 2, none⟩ (.int .i64 lo)).heap.size = w.heap.size := by simp
  clear oS hB hM
  generalize hlw : σ.low = lw at *
  go_enter Try.func24, Try.ntmps24
  go_wp2_with (first
    | (go_at_call 38; refine Hn.out.mono ?_; rintro e w' ⟨rfl, hww⟩; obtain rfl := hww.symm)
    | (at_range; refine wpList_range_T _ rfl _ 70 _ rfl Try.underlying70 rfl HS.out.2.2 ?_; intro w0 hrg0 hb1 hs0)
    | go_in)
  rw [hz] at hrg0 hb1
  simp only [hz]
  go_frame
  have hr0 : w.heap.size ≤ w0.heap.size := by have := hb1.size; omega
  have HL := Lib.hid (And.intro hrg0 (And.intro hb1 hr0))
  clear hrg0 hb1 hs0 c3 f2 c2 hr0 hz
  go_loopw [5] (fun v5 wr => ∃ (todo L : List (Int × Nat)), RangeT intK ptr wr m w.heap.size L todo ∧ Lft (nums lw sb all8) L todo lo ∧ Out (fun b => b = g ∨ b = m) w wr ∧ Blk wr g 72 [.int .i64 σ.f, .slice (some ⟨ab, 0, none⟩) σ.ns.length cap, .int .i64 lo, .map (some m)])
    (fun _ wr => wr.rangeLeft m w.heap.size)
  case atStart => exact ⟨_, _, HL.out.1, lft_0 _ _, HS.out.1.then_below (by rw [show (w.setCell ⟨g, 2, none⟩ (.int .i64 lo)).heap.size = w.heap.size by simp]; exact HL.out.2.1), HS.out.2.1.below HL.out.2.1 (by have := HS.out.2.1.lt; simpa using this)⟩
  case round =>
    obtain ⟨todo, L, hrg, hlf, hout, hblk⟩ := hrel
    have H1 := Lib.hid (And.intro hlf (And.intro hout hblk))
    clear hlf hout hblk HL HS
    go_wp2_with (first
      | (at_next; refine wpList_next_T _ rfl _ rfl (fun x => .int .i64 x) (fun b => .pointer (some ⟨b, 0, none⟩)) (fun _ => rfl) (fun _ => rfl) rfl hrg ?_ ?_)
      | go_in)
    · intro h0
      subst h0
      have hL : ∀ p, p ∈ L ↔ p ∈ nums σ.low sb all8 ∧ lo < p.1 := fun p => by
        rw [hlw, H1.out.1 p]
        simp
      have hlift := H.out.lift HE.out H1.out.2.1 H1.out.2.2 hrg.owns hL
      have hop := open_in hlift
      rw [fill_low] at hop
      have HO := Lib.hid hop
      clear hlift hop hL hrg
      go_wp2_with (go_at_call 49; refine HO.out.mono ?_; rintro e w9 ⟨rfl, hst9, hout9⟩)
      go_ret
      have hz1 := H1.out.2.1.size
      have hz9 := hout9.size
      refine ⟨rfl, hst9.wide (fun i hi => hi.imp_right fun h => ⟨by omega, h.2⟩) fun i hi => ?_, ?_⟩
      · rcases hi with hi | hi
        · have := H.out.lt i hi; omega
        · exact hi.2
      · refine Out.trans (S' := fun b => b = m) ⟨H1.out.2.1.os, H1.out.2.1.tape, H1.out.2.1.output, H1.out.2.1.size, fun i hi hn => H1.out.2.1.block i hi fun e => hn (e.elim (fun e => by rw [e]; exact H.out.ug) fun e => by rw [e]; exact H.out.u m (by rw [H.out.rm]; omega))⟩ hout9 fun i _ e => by rw [e]; exact H.out.u m (by rw [H.out.rm]; omega)
    · intro n s more w1 hp hm hok hrg1 hlt hout hsz hen
      have hlt0 := hrg1.lt
      have hne1 := hrg1.ne
      have hnd := hrg.nd
      have hsub := hrg.sub
      have hno : ∀ b, (n, b) ∉ more := fun b hb => by
        have h4 := (hp.map Prod.fst).nodup_iff.1 hnd
        rw [List.map_cons, List.nodup_cons] at h4
        exact h4.1 (List.mem_map.2 ⟨(n, b), hb, rfl⟩)
      have hgr : ¬ g = w.heap.size := fun e => by have := H.out.lt g H.out.ug; omega
      have hblk1 := hout.blk H1.out.2.2 (by exact hgr)
      have hout1 : Out (fun b => b = g ∨ b = m) w w1 := H1.out.2.1.trans hout fun i hi e => by have e' : i = w.heap.size := e; omega
      have HK := Lib.hid (And.intro hblk1 (And.intro hout1 (And.intro hp (And.intro hlt (And.intro hno hsub)))))
      have hok' : Wf n := hok
      by_cases hle : n ≤ lo
      · obtain ⟨w2, hrun, hturn, hrg2, hle2⟩ := hrg1.drop (a := n) Try.underlying70 hok' 0 hno
        have o2 := turned_out hturn
        have hblk2 := o2.blk hblk1 (fun e => hgm e.symm)
        have hout2 : Out (fun b => b = g ∨ b = m) w w2 := hout1.trans o2 fun i _ e => .inr e
        have hc3 := hblk1.cell (i := 3) rfl
        have HD := Lib.hid (And.intro hrun (And.intro hrg2 (And.intro (lft_drop H1.out.1 hp hsub hno hle) (And.intro hout2 (And.intro hblk2 hle2)))))
        clear hblk1 hout1 hp hm hok hrg1 hlt hout hsz hrg hnd hsub hno hlt0 hne1 hrun hturn hrg2 hle2 o2 hblk2 hout2 hok'
        go_wp2_with (refine del_g rfl rfl _ _ _ _ rfl _ _ w2 rfl rfl HD.out.1 ?_)
        go_roundw
        case rel => exact ⟨more, _, HD.out.2.1, HD.out.2.2.1, HD.out.2.2.2.1, HD.out.2.2.2.2.1⟩
        case measure => have h1 := HD.out.2.2.2.2.2; have h2 := HK.out.2.2.2.1; omega
      · have HD := Lib.hid (And.intro hrg1 (lft_keep H1.out.1 hp hle))
        clear hblk1 hout1 hp hm hok hrg1 hlt hout hsz hrg hnd hsub hno hlt0 hne1 hok'
        have hle' : ¬ n ≤ lo := hle
        go_wp2
        go_roundw
        case rel => exact ⟨more, L, HD.out.1, HD.out.2, HK.out.2.1, HK.out.1⟩
        case measure => exact HK.out.2.2.2.1
end
end Go.Proofs.Ytmdgcimjmmnbjaa

namespace Go.Proofs.Ytmdgcimjmmnbjaa
open Go.RowKit Go.Shelf Go.Sort Go.Maps CrewP
set_option linter.unusedVariables false
set_option linter.unusedSimpArgs false

def wn (lo : Int) : St := fresh0 1 (ndL 4) lo
section
variable {lo n up : Int} {d : List UInt8}
theorem win_new (h0 : 0 ≤ lo) (h1 : lo < 1099511627776) : newE 1 (ndL 4) 1 lo = 0 := by
  have h : hasR 1 (ndL 4) 1 = true := by decide +kernel
  unfold newE
  rw [h, if_neg (by simp), if_neg (by omega)]
theorem wn_sq (i : Nat) : (wn lo).s i = sq0 := rfl
theorem win_in (h1 : lo < n) (h2 : n ≤ lo + 8) : propE (wn lo) 2 n d = 0 := by
  unfold propE idx
  rw [if_neg (by decide), show (wn lo).low = lo from rfl, if_pos ⟨h1, h2⟩]
  rfl
theorem win_out (h : ¬ (lo < n ∧ n ≤ lo + 8)) : propE (wn lo) 2 n d = 150 := by
  unfold propE idx
  rw [if_neg (by decide), show (wn lo).low = lo from rfl, if_neg h]
theorem win_low : (propS (wn lo) 2 n d).low = lo := by
  unfold propS
  split
  · rfl
  · split <;> rfl
theorem win_raise (h0 : 0 ≤ lo) (h1 : lo < 1099511627776) (h2 : 0 ≤ up) (h3 : up < 12) : raiseE (propS (wn lo) 2 n d) (lo + up) = 0 := by
  unfold raiseE
  rw [win_low, if_neg (by omega)]
theorem win_low2 (h0 : 0 ≤ lo) (h1 : lo < 1099511627776) (h2 : 0 ≤ up) (h3 : up < 12) : (raiseS (propS (wn lo) 2 n d) (lo + up)).low = lo + up := by
  rw [raise_0 (win_raise h0 h1 h2 h3)]; rfl
theorem win_back (h0 : 0 ≤ lo) (h1 : lo < 1099511627776) (h2 : 0 ≤ up) (h3 : up < 12) : raiseE (raiseS (propS (wn lo) 2 n d) (lo + up)) (lo + up - 1) = 9 := by
  unfold raiseE
  rw [win_low2 h0 h1 h2 h3, if_pos (by omega)]
theorem look_last (σ : St) (x : Sq) : (lookS σ x).last = x.last := by unfold lookS; split <;> rfl
theorem win_at (h0 : 0 ≤ lo) (h1 : lo < 1099511627776) (h2 : 0 ≤ up) (h3 : up < 12) (h5 : n ≤ lo + 8) (h6 : lo + up < n) : atS (raiseS (propS (wn lo) 2 n d) (lo + up)) n = some ⟨n, d, 2⟩ := by
  have hi : idx (wn lo) n = some (n - lo - 1).toNat := by unfold idx; rw [show (wn lo).low = lo from rfl, if_pos (by omega)]
  have hp : propS (wn lo) 2 n d = (wn lo).set (n - lo - 1).toNat (lookS (wn lo) (propSq ((wn lo).s (n - lo - 1).toNat) ⟨2, d⟩)) := by
    unfold propS
    rw [win_in (by omega) h5, if_neg (by simp), hi]
  rw [raise_0 (win_raise h0 h1 h2 h3)]
  have hlow : (lowS (propS (wn lo) 2 n d) (lo + up)).low = lo + up := rfl
  unfold atS idx
  rw [hlow, if_pos (by omega)]
  have hs : (lowS (propS (wn lo) 2 n d) (lo + up)).s (n - (lo + up) - 1).toNat = lookS (wn lo) (propSq ((wn lo).s (n - lo - 1).toNat) ⟨2, d⟩) := by
    unfold lowS
    simp only [win_low]
    rw [if_pos (by omega), hp, show (lo + up - lo).toNat + (n - (lo + up) - 1).toNat = (n - lo - 1).toNat by omega, set_s]
  simp only [Option.bind_some, hs, look_last]
  show some (sdOf (lowS (propS (wn lo) 2 n d) (lo + up)) (n - (lo + up) - 1).toNat ⟨2, d⟩) = _
  unfold sdOf
  rw [hlow]
  congr 2
  omega
theorem win_at_low (h0 : 0 ≤ lo) (h1 : lo < 1099511627776) (h2 : 0 ≤ up) (h3 : up < 12) (h6 : ¬ lo + up < n) : atS (raiseS (propS (wn lo) 2 n d) (lo + up)) n = none := by
  unfold atS idx
  rw [win_low2 h0 h1 h2 h3, if_neg (by omega)]
  rfl
theorem win_at_out (h0 : 0 ≤ lo) (h1 : lo < 1099511627776) (h2 : 0 ≤ up) (h3 : up < 12) (h : ¬ (lo < n ∧ n ≤ lo + 8)) : atS (raiseS (propS (wn lo) 2 n d) (lo + up)) n = none := by
  rw [raise_0 (win_raise h0 h1 h2 h3)]
  have hp : propS (wn lo) 2 n d = wn lo := by unfold propS; rw [win_out h, if_pos (by simp)]
  rw [hp]
  unfold atS
  cases idx (lowS (wn lo) (lo + up)) n with
  | none => rfl
  | some i =>
    have hs : (lowS (wn lo) (lo + up)).s i = sq0 := by unfold lowS; simp only [wn_sq]; split <;> rfl
    simp only [Option.bind_some, hs]
    rfl
end
section
variable {w : World} {U : Nat → Prop} {g : Nat} {σ : St}
theorem raise_at (h : StAt w U g σ) (lo : Int) (E : Int) (hE : raiseE σ lo = E) : Calls Try.prog 24 #[.pointer (some ⟨g, 0, none⟩), .int .i64 lo] w fun e w' => e = .returned (.int .i64 E) ∧ StAt w' (Gr U w w') g (raiseS σ lo) ∧ Out U w w' := by
  obtain ⟨a1, a2, a3, a4, a5, a6, a7, a8, h⟩ := h
  exact raise_in h lo E hE
theorem low_at (h : StAt w U g σ) : Calls Try.prog 25 #[.pointer (some ⟨g, 0, none⟩)] w fun e w' => e = .returned (.int .i64 σ.low) ∧ w' = w := by
  obtain ⟨a1, a2, a3, a4, a5, a6, a7, a8, h⟩ := h
  exact low_in h
theorem bring_w (i n : Int) (w : World) (h : 0 < n) (hn : n ≤ 9223372036854775807) (hi : Wf i) : Calls Try.prog 17 #[.int .i64 i, .int .i64 n] w fun e w' => e = .returned (.int .i64 (i % n)) ∧ w' = w :=
  bringF_any i n w h hn (bounds_i64 hi).1 (bounds_i64 hi).2
end
end Go.Proofs.Ytmdgcimjmmnbjaa
